/-
  Plain facts for FnFused: the fused product goes both ways, with one it is the sum, it is right, and with an exact product turned it is nought.
-/
import Derived.Test.YtnkoeidolmiheaaGreatDoorMuP
import Derived.Test.YtnkoeidolmiheaaGreatDoorExh
namespace Go.Proofs.YtnkoeidolmiheaaGreatDoor
open Go.RowKit
set_option linter.unusedVariables false
set_option maxRecDepth 100000
/-- One of three. -/
def tw3 {α : Type} (a b c : α) (i : Nat) : α := if i = 0 then a else if i = 1 then b else c
theorem nrw3 {W : World} {g : Nat} {T : TypeId} {ka : Int} {na : Bool} {ea : Int} {sa : ByteArray} {kb : Int} {nb : Bool} {eb : Int} {sb : ByteArray} {kc : Int} {nc : Bool} {ec : Int} {sc : ByteArray} (h : W.heap[g]? = some (.cells #[.int .i64 ka, .bool na, .int .i64 ea, .string sa, .int .i64 kb, .bool nb, .int .i64 eb, .string sb, .int .i64 kc, .bool nc, .int .i64 ec, .string sc] T (0, 0))) :
    NRw W g 3 (tw3 ka kb kc) (tw3 na nb nc) (tw3 ea eb ec) (tw3 sa sb sc) := fun i hi => by
  match i, hi with
  | 0, _ => exact ⟨(cell_lit h 0).trans rfl, (cell_lit h 1).trans rfl, (cell_lit h 2).trans rfl, (cell_lit h 3).trans rfl⟩
  | 1, _ => exact ⟨(cell_lit h 4).trans rfl, (cell_lit h 5).trans rfl, (cell_lit h 6).trans rfl, (cell_lit h 7).trans rfl⟩
  | 2, _ => exact ⟨(cell_lit h 8).trans rfl, (cell_lit h 9).trans rfl, (cell_lit h 10).trans rfl, (cell_lit h 11).trans rfl⟩
theorem okB3 (g : Nat → Bool) [Decidable (∀ i, i < 3 → g i = true)] : decide (∀ i, i < 3 → g i = true) = (g 0 && (g 1 && g 2)) := by
  by_cases h : ∀ i, i < 3 → g i = true
  · rw [decide_eq_true h, h 0 (by decide), h 1 (by decide), h 2 (by decide)]; rfl
  · rw [decide_eq_false h]
    cases h0 : g 0 with
    | false => rfl
    | true =>
      cases h1 : g 1 with
      | false => rfl
      | true =>
        cases h2 : g 2 with
        | false => rfl
        | true => exact absurd (fun i hi => by
            match i, hi with
            | 0, _ => exact h0
            | 1, _ => exact h1
            | 2, _ => exact h2) h
theorem tx_nil : tx [] = { data := #[] } := by apply ByteArray.ext; rw [tx_data]; rfl
def fmaO (f mode : Int) (ka : Int) (na : Bool) (ea : Int) (sa : ByteArray) (kb : Int) (nb : Bool) (eb : Int) (sb : ByteArray) (kc : Int) (nc : Bool) (ec : Int) (sc : ByteArray) : Bool := decide (1 ≤ mode ∧ mode ≤ 5) && (numB f ka na ea sa && (numB f kb nb eb sb && numB f kc nc ec sc))
/-- What Fma tells of three right numbers that are no NaNs. -/
def fmaX (f mode : Int) (ka : Int) (na : Bool) (ea : Int) (sa : ByteArray) (kb : Int) (nb : Bool) (eb : Int) (sb : ByteArray) (kc : Int) (nc : Bool) (ec : Int) (sc : ByteArray) : R5 :=
  if ka = 1 ∧ kb = 1 then addX f mode 1 (!(na == nb)) (ea + eb) (nt (vl (dl sa) * vl (dl sb))) kc nc ec (dl sc)
  else if z0B ka sa || z0B kb sb then (false, (3, 0, { data := #[] }, 1)) else addX f mode 2 (!(na == nb)) 0 [] kc nc ec (dl sc)
/-- What Fma tells. -/
def fmaR (f mode : Int) (ka : Int) (na : Bool) (ea : Int) (sa : ByteArray) (kb : Int) (nb : Bool) (eb : Int) (sb : ByteArray) (kc : Int) (nc : Bool) (ec : Int) (sc : ByteArray) : R5 :=
  if fmaO f mode ka na ea sa kb nb eb sb kc nc ec sc then (if spB 3 (tw3 ka kb kc) then (false, (3, 0, { data := #[] }, spF 3 (tw3 ka kb kc))) else fmaX f mode ka na ea sa kb nb eb sb kc nc ec sc)
  else (false, (0, 0, { data := #[] }, 0))
/-- The four blocks: the three numbers and the result. -/
def SVm (w W : World) (ka : Int) (na : Bool) (ea : Int) (sa : ByteArray) (kb : Int) (nb : Bool) (eb : Int) (sb : ByteArray) (kc : Int) (nc : Bool) (ec : Int) (sc : ByteArray) : Prop :=
  At4r W w.heap.size (.int .i64 ka) (.bool na) (.int .i64 ea) (.string sa) ∧ At4r W (w.heap.size + 1) (.int .i64 kb) (.bool nb) (.int .i64 eb) (.string sb) ∧ At4r W (w.heap.size + 2) (.int .i64 kc) (.bool nc) (.int .i64 ec) (.string sc)
    ∧ At5 W (w.heap.size + 3) (.int .i64 0) (.bool false) (.int .i64 0) (.string { data := #[] }) (.int .i64 0) ∧ Below w.heap.size w W ∧ w.heap.size + 3 < W.heap.size
abbrev svmW (w : World) (ka : Int) (na : Bool) (ea : Int) (sa : ByteArray) (kb : Int) (nb : Bool) (eb : Int) (sb : ByteArray) (kc : Int) (nc : Bool) (ec : Int) (sc : ByteArray) : World :=
  (((w.alloc (.cells #[.int .i64 ka, .bool na, .int .i64 ea, .string sa] 25)).alloc (.cells #[.int .i64 kb, .bool nb, .int .i64 eb, .string sb] 25)).alloc (.cells #[.int .i64 kc, .bool nc, .int .i64 ec, .string sc] 25)).alloc (.cells #[.int .i64 0, .bool false, .int .i64 0, .string { data := #[] }, .int .i64 0] 29)
theorem SVm.next {w W w1 : World} {ka : Int} {na : Bool} {ea : Int} {sa : ByteArray} {kb : Int} {nb : Bool} {eb : Int} {sb : ByteArray} {kc : Int} {nc : Bool} {ec : Int} {sc : ByteArray} (h : SVm w W ka na ea sa kb nb eb sb kc nc ec sc) (hb : Below W.heap.size W w1) : SVm w w1 ka na ea sa kb nb eb sb kc nc ec sc :=
  ⟨h.1.next hb, h.2.1.next hb, h.2.2.1.next hb, h.2.2.2.1.below hb h.2.2.2.2.2, h.2.2.2.2.1.trans (hb.mono h.2.2.2.2.1.size), Nat.lt_of_lt_of_le h.2.2.2.2.2 hb.size⟩
theorem SVm.alloc {w W : World} {ka : Int} {na : Bool} {ea : Int} {sa : ByteArray} {kb : Int} {nb : Bool} {eb : Int} {sb : ByteArray} {kc : Int} {nc : Bool} {ec : Int} {sc : ByteArray} (h : SVm w W ka na ea sa kb nb eb sb kc nc ec sc) (o : Obj) : SVm w (W.alloc o) ka na ea sa kb nb eb sb kc nc ec sc := h.next ((Below.refl _ _).alloc (Nat.le_refl _) o)
theorem svm_new (w : World) (ka : Int) (na : Bool) (ea : Int) (sa : ByteArray) (kb : Int) (nb : Bool) (eb : Int) (sb : ByteArray) (kc : Int) (nc : Bool) (ec : Int) (sc : ByteArray) : SVm w (svmW w ka na ea sa kb nb eb sb kc nc ec sc) ka na ea sa kb nb eb sb kc nc ec sc := by
  have s1 : (w.alloc (.cells #[.int .i64 ka, .bool na, .int .i64 ea, .string sa] 25)).heap.size = w.heap.size + 1 := new_size _ _
  have s2 : ((w.alloc (.cells #[.int .i64 ka, .bool na, .int .i64 ea, .string sa] 25)).alloc (.cells #[.int .i64 kb, .bool nb, .int .i64 eb, .string sb] 25)).heap.size = w.heap.size + 2 := by rw [new_size (w.alloc (.cells #[.int .i64 ka, .bool na, .int .i64 ea, .string sa] 25)) _, s1]
  have s3 : (((w.alloc (.cells #[.int .i64 ka, .bool na, .int .i64 ea, .string sa] 25)).alloc (.cells #[.int .i64 kb, .bool nb, .int .i64 eb, .string sb] 25)).alloc (.cells #[.int .i64 kc, .bool nc, .int .i64 ec, .string sc] 25)).heap.size = w.heap.size + 3 := by rw [new_size ((w.alloc (.cells #[.int .i64 ka, .bool na, .int .i64 ea, .string sa] 25)).alloc (.cells #[.int .i64 kb, .bool nb, .int .i64 eb, .string sb] 25)) _, s2]
  have b1 := (Below.refl w.heap.size w).alloc (Nat.le_refl _) (.cells #[.int .i64 ka, .bool na, .int .i64 ea, .string sa] 25)
  have g1 : At4r (w.alloc (.cells #[.int .i64 ka, .bool na, .int .i64 ea, .string sa] 25)) w.heap.size _ _ _ _ := at4r_new w (.int .i64 ka) (.bool na) (.int .i64 ea) (.string sa)
  have g2 := at4r_new (w.alloc (.cells #[.int .i64 ka, .bool na, .int .i64 ea, .string sa] 25)) (.int .i64 kb) (.bool nb) (.int .i64 eb) (.string sb)
  have g3 := at4r_new ((w.alloc (.cells #[.int .i64 ka, .bool na, .int .i64 ea, .string sa] 25)).alloc (.cells #[.int .i64 kb, .bool nb, .int .i64 eb, .string sb] 25)) (.int .i64 kc) (.bool nc) (.int .i64 ec) (.string sc)
  have g4 := heap_at (((w.alloc (.cells #[.int .i64 ka, .bool na, .int .i64 ea, .string sa] 25)).alloc (.cells #[.int .i64 kb, .bool nb, .int .i64 eb, .string sb] 25)).alloc (.cells #[.int .i64 kc, .bool nc, .int .i64 ec, .string sc] 25)) (.cells #[.int .i64 0, .bool false, .int .i64 0, .string { data := #[] }, .int .i64 0] 29)
  rw [s1] at g2
  rw [s2] at g3
  rw [s3] at g4
  have d2 : Below (w.alloc (.cells #[.int .i64 ka, .bool na, .int .i64 ea, .string sa] 25)).heap.size (w.alloc (.cells #[.int .i64 ka, .bool na, .int .i64 ea, .string sa] 25)) ((w.alloc (.cells #[.int .i64 ka, .bool na, .int .i64 ea, .string sa] 25)).alloc (.cells #[.int .i64 kb, .bool nb, .int .i64 eb, .string sb] 25)) := (Below.refl _ _).alloc (Nat.le_refl _) _
  have d3 : Below ((w.alloc (.cells #[.int .i64 ka, .bool na, .int .i64 ea, .string sa] 25)).alloc (.cells #[.int .i64 kb, .bool nb, .int .i64 eb, .string sb] 25)).heap.size ((w.alloc (.cells #[.int .i64 ka, .bool na, .int .i64 ea, .string sa] 25)).alloc (.cells #[.int .i64 kb, .bool nb, .int .i64 eb, .string sb] 25)) (((w.alloc (.cells #[.int .i64 ka, .bool na, .int .i64 ea, .string sa] 25)).alloc (.cells #[.int .i64 kb, .bool nb, .int .i64 eb, .string sb] 25)).alloc (.cells #[.int .i64 kc, .bool nc, .int .i64 ec, .string sc] 25)) := (Below.refl _ _).alloc (Nat.le_refl _) _
  have d4 : Below (((w.alloc (.cells #[.int .i64 ka, .bool na, .int .i64 ea, .string sa] 25)).alloc (.cells #[.int .i64 kb, .bool nb, .int .i64 eb, .string sb] 25)).alloc (.cells #[.int .i64 kc, .bool nc, .int .i64 ec, .string sc] 25)).heap.size (((w.alloc (.cells #[.int .i64 ka, .bool na, .int .i64 ea, .string sa] 25)).alloc (.cells #[.int .i64 kb, .bool nb, .int .i64 eb, .string sb] 25)).alloc (.cells #[.int .i64 kc, .bool nc, .int .i64 ec, .string sc] 25)) (svmW w ka na ea sa kb nb eb sb kc nc ec sc) := (Below.refl _ _).alloc (Nat.le_refl _) _
  refine ⟨((g1.next d2).next d3).next d4, (g2.next d3).next d4, g3.next d4, g4, ((b1.alloc (by rw [s1]; omega) _).alloc (by rw [s2]; omega) _).alloc (by rw [s3]; omega) _, ?_⟩
  rw [new_size (((w.alloc (.cells #[.int .i64 ka, .bool na, .int .i64 ea, .string sa] 25)).alloc (.cells #[.int .i64 kb, .bool nb, .int .i64 eb, .string sb] 25)).alloc (.cells #[.int .i64 kc, .bool nc, .int .i64 ec, .string sc] 25)) _, s3]
  omega
end Go.Proofs.YtnkoeidolmiheaaGreatDoor
namespace Go.Proofs.YtnkoeidolmiheaaGreatDoor
set_option linter.unusedVariables false
set_option maxRecDepth 100000
theorem mulR_fin2 (f mode : Int) (hmo : 1 ≤ mode ∧ mode ≤ 5) (na : Bool) (ea : Int) (sa : ByteArray) (nb : Bool) (eb : Int) (sb : ByteArray) (hA : numB f 1 na ea sa = true) (hB : numB f 1 nb eb sb = true) : mulR f mode 1 na ea sa 1 nb eb sb = (!(na == nb), finD f mode (!(na == nb)) (nt (vl (dl sa) * vl (dl sb))) (ea + eb) false (ea + eb)) := by
  have hO : addO f mode 1 na ea sa 1 nb eb sb = true := by
    unfold addO
    rw [hA, hB, decide_eq_true hmo]
    rfl
  have hS : spB 2 (tw2 1 1) = false := decide_eq_false (by
    rintro ⟨i, hi, h⟩
    match i, hi with
    | 0, _ => rcases h with h | h <;> cases h
    | 1, _ => rcases h with h | h <;> cases h)
  unfold mulR mulX
  rw [hO, if_pos rfl, hS, if_neg (by decide), if_pos ⟨rfl, rfl⟩]
theorem numB_fmt (f k : Int) (b : Bool) (e : Int) (s : ByteArray) (h : numB f k b e s = true) : limP f ≠ 0 := fun q => by
  unfold numB at h; rw [if_pos q] at h; cases h
theorem lim_fmt (f : Int) (h : limP f ≠ 0) : f = 64 ∨ f = 128 := by
  unfold limP at h
  by_cases h1 : f = 64
  · exact .inl h1
  · by_cases h2 : f = 128
    · exact .inr h2
    · exfalso; simp [h1, h2] at h
theorem spB3 (a b c : Int) : spB 3 (tw3 a b c) = decide ((a = 3 ∨ a = 4) ∨ (b = 3 ∨ b = 4) ∨ (c = 3 ∨ c = 4)) := by
  unfold spB
  rw [decide_eq_decide]
  constructor
  · rintro ⟨i, hi, h⟩
    match i, hi with
    | 0, _ => exact .inl h
    | 1, _ => exact .inr (.inl h)
    | 2, _ => exact .inr (.inr h)
  · rintro (h | h | h)
    · exact ⟨0, by decide, h⟩
    · exact ⟨1, by decide, h⟩
    · exact ⟨2, by decide, h⟩
theorem spB2 (a b : Int) : spB 2 (tw2 a b) = decide ((a = 3 ∨ a = 4) ∨ (b = 3 ∨ b = 4)) := by
  unfold spB
  rw [decide_eq_decide]
  constructor
  · rintro ⟨i, hi, h⟩
    match i, hi with
    | 0, _ => exact .inl h
    | 1, _ => exact .inr h
  · rintro (h | h)
    · exact ⟨0, by decide, h⟩
    · exact ⟨1, by decide, h⟩
theorem ex3 (a b c : Int) : (∃ i, i < 3 ∧ tw3 a b c i = 4) ↔ (a = 4 ∨ b = 4 ∨ c = 4) := by
  constructor
  · rintro ⟨i, hi, h⟩
    match i, hi with
    | 0, _ => exact .inl h
    | 1, _ => exact .inr (.inl h)
    | 2, _ => exact .inr (.inr h)
  · rintro (h | h | h)
    · exact ⟨0, by decide, h⟩
    · exact ⟨1, by decide, h⟩
    · exact ⟨2, by decide, h⟩
theorem ex2 (a b : Int) : (∃ i, i < 2 ∧ tw2 a b i = 4) ↔ (a = 4 ∨ b = 4) := by
  constructor
  · rintro ⟨i, hi, h⟩
    match i, hi with
    | 0, _ => exact .inl h
    | 1, _ => exact .inr h
  · rintro (h | h)
    · exact ⟨0, by decide, h⟩
    · exact ⟨1, by decide, h⟩
theorem spF3 (a b c : Int) : spF 3 (tw3 a b c) = if a = 4 ∨ b = 4 ∨ c = 4 then 1 else 0 := by
  unfold spF
  by_cases h : a = 4 ∨ b = 4 ∨ c = 4
  · rw [if_pos ((ex3 a b c).2 h), if_pos h]
  · rw [if_neg (fun q => h ((ex3 a b c).1 q)), if_neg h]
theorem spF2 (a b : Int) : spF 2 (tw2 a b) = if a = 4 ∨ b = 4 then 1 else 0 := by
  unfold spF
  by_cases h : a = 4 ∨ b = 4
  · rw [if_pos ((ex2 a b).2 h), if_pos h]
  · rw [if_neg (fun q => h ((ex2 a b).1 q)), if_neg h]
section
variable (f mode : Int) (ka : Int) (na : Bool) (ea : Int) (sa : ByteArray) (kb : Int) (nb : Bool) (eb : Int) (sb : ByteArray) (kc : Int) (nc : Bool) (ec : Int) (sc : ByteArray)
theorem fmaX_comm : fmaX f mode ka na ea sa kb nb eb sb kc nc ec sc = fmaX f mode kb nb eb sb ka na ea sa kc nc ec sc := by
  unfold fmaX
  rw [beq_turn na nb, Int.add_comm ea eb, Int.mul_comm (vl (dl sa)), Bool.or_comm (z0B ka sa)]
  by_cases h : ka = 1 ∧ kb = 1
  · rw [if_pos h, if_pos h.symm]
  · rw [if_neg h, if_neg (show ¬ (kb = 1 ∧ ka = 1) from fun q => h q.symm)]
/-- The first two go both ways. -/
theorem fmaR_comm : fmaR f mode ka na ea sa kb nb eb sb kc nc ec sc = fmaR f mode kb nb eb sb ka na ea sa kc nc ec sc := by
  have hO : fmaO f mode ka na ea sa kb nb eb sb kc nc ec sc = fmaO f mode kb nb eb sb ka na ea sa kc nc ec sc := by
    unfold fmaO
    rw [Bool.and_left_comm (numB f ka na ea sa)]
  have hB : spB 3 (tw3 ka kb kc) = spB 3 (tw3 kb ka kc) := by
    rw [spB3, spB3, decide_eq_decide]
    exact ⟨fun h => h.elim (fun q => .inr (.inl q)) (fun h => h.elim .inl (fun q => .inr (.inr q))), fun h => h.elim (fun q => .inr (.inl q)) (fun h => h.elim .inl (fun q => .inr (.inr q)))⟩
  have hF : spF 3 (tw3 ka kb kc) = spF 3 (tw3 kb ka kc) := by
    rw [spF3, spF3]
    by_cases h : ka = 4 ∨ kb = 4 ∨ kc = 4
    · rw [if_pos h, if_pos (h.elim (fun q => .inr (.inl q)) (fun h => h.elim .inl (fun q => .inr (.inr q))))]
    · rw [if_neg h, if_neg (fun g => h (g.elim (fun q => .inr (.inl q)) (fun h => h.elim .inl (fun q => .inr (.inr q)))))]
  unfold fmaR
  rw [hO, hB, hF, fmaX_comm]
end
theorem one_right (f : Int) (h : limP f ≠ 0) : numB f 1 false 0 { data := #[49] } = true := by
  have hp : 1 ≤ limP f ∧ limL f ≤ 0 ∧ 0 ≤ limH f := by rcases lim_fmt f h with rfl | rfl <;> decide
  have c1 : Canon [1] := ⟨fun d hd => by simp at hd; omega, by simp, .inl rfl⟩
  have et : tx [1] = { data := #[49] } := by apply ByteArray.ext; rw [tx_data]; rfl
  have := natB_tx (limP f) [1] c1 (by simp; omega)
  rw [et] at this
  unfold numB
  rw [if_neg h, if_pos rfl, this]
  simp [hp.2.1, hp.2.2]
theorem dl_one : dl { data := #[49] } = [1] := by
  have et : tx [1] = { data := #[49] } := by apply ByteArray.ext; rw [tx_data]; rfl
  rw [← et]
  exact dl_tx [1] (fun d hd => by simp at hd; omega)
/-- With one as the second: the sum. -/
theorem fmaR_one (f mode : Int) (hmo : 1 ≤ mode ∧ mode ≤ 5) (ka : Int) (na : Bool) (ea : Int) (sa : ByteArray) (kc : Int) (nc : Bool) (ec : Int) (sc : ByteArray) (hA : numB f ka na ea sa = true) (hC : numB f kc nc ec sc = true) :
    fmaR f mode ka na ea sa 1 false 0 { data := #[49] } kc nc ec sc = addR f mode ka na ea sa kc nc ec sc := by
  have h1 := one_right f (numB_fmt f ka na ea sa hA)
  have hO : fmaO f mode ka na ea sa 1 false 0 { data := #[49] } kc nc ec sc = true := by
    unfold fmaO; rw [hA, h1, hC, decide_eq_true hmo]; rfl
  have hO2 : addO f mode ka na ea sa kc nc ec sc = true := by
    unfold addO; rw [hA, hC, decide_eq_true hmo]; rfl
  have hB : spB 3 (tw3 ka 1 kc) = spB 2 (tw2 ka kc) := by
    rw [spB3, spB2, decide_eq_decide]
    exact ⟨fun h => h.elim .inl (fun h => h.elim (fun q => by rcases q with q | q <;> cases q) .inr), fun h => h.elim .inl (fun q => .inr (.inr q))⟩
  have hF : spF 3 (tw3 ka 1 kc) = spF 2 (tw2 ka kc) := by
    rw [spF3, spF2]
    by_cases h : ka = 4 ∨ kc = 4
    · rw [if_pos h, if_pos (h.elim .inl (fun q => .inr (.inr q)))]
    · rw [if_neg h, if_neg (fun g => h (g.elim .inl (fun g => g.elim (fun q => by cases q) .inr)))]
  unfold fmaR addR
  rw [hO, hO2, if_pos rfl, if_pos rfl, hB, hF]
  cases hS : spB 2 (tw2 ka kc) with
  | true => rw [if_pos rfl, if_pos rfl]
  | false =>
    rw [if_neg (by decide), if_neg (by decide)]
    rw [spB2] at hS
    have hnan := of_decide_eq_false hS
    obtain ⟨hf, ea1, ka1, ca⟩ := right_two f ka na ea sa hA (fun q => hnan (.inl (.inl q))) (fun q => hnan (.inl (.inr q)))
    have hL := lims f hf
    have sg : (!(na == false)) = na := by cases na <;> rfl
    unfold fmaX
    rw [sg]
    rcases ka1 with rfl | rfl
    · obtain ⟨q1, l1, -, -⟩ := ca rfl
      rw [if_pos ⟨rfl, rfl⟩, dl_one, show vl [1] = 1 from rfl, Int.mul_one, nt_vl (dl sa) q1 (by omega), Int.add_zero]
    · have z1 : (z0B 2 sa || z0B 1 { data := #[49] }) = false := by unfold z0B; rw [ByteArray.toList_eq { data := #[49] }]; rfl
      rw [if_neg (by decide), z1, if_neg (by decide)]
      unfold addX
      by_cases h : (2 : Int) = 2 ∧ kc = 2 ∧ na ≠ nc
      · rw [if_pos h, if_pos h]
      · rw [if_neg h, if_neg h, if_pos rfl, if_pos rfl]
theorem nan_right (f : Int) (hp0 : limP f ≠ 0) (fl : Int) : Rgr f (false, (3, 0, { data := #[] }, fl)) := by
  show numB f 3 false 0 { data := #[] } = true
  unfold numB
  rw [if_neg hp0, if_neg (by decide), if_neg (by decide), if_pos (.inl rfl), ByteArray.toList_eq]
  rfl
theorem inf_right (f : Int) (hp0 : limP f ≠ 0) (b : Bool) : Rgr f (b, (2, 0, { data := #[] }, 0)) := by
  show numB f 2 b 0 { data := #[] } = true
  unfold numB
  rw [if_neg hp0, if_neg (by decide), if_pos rfl, ByteArray.toList_eq]
  rfl
theorem addX_right (f mode : Int) (hp0 : limP f ≠ 0) (ka : Int) (na : Bool) (ea : Int) (da : List Int) (kb : Int) (nb : Bool) (eb : Int) (db : List Int) (ha : ka ≠ 2 → Canon da ∧ da.length ≤ 100) (hb : kb ≠ 2 → Canon db ∧ db.length ≤ 100) : Rgr f (addX f mode ka na ea da kb nb eb db) := by
  unfold addX
  by_cases h1 : ka = 2 ∧ kb = 2 ∧ na ≠ nb
  · rw [if_pos h1]; exact nan_right f hp0 _
  · rw [if_neg h1]
    by_cases h2 : ka = 2
    · rw [if_pos h2]; exact inf_right f hp0 _
    · rw [if_neg h2]
      by_cases h3 : kb = 2
      · rw [if_pos h3]; exact inf_right f hp0 _
      · rw [if_neg h3]
        exact sumX_right f mode na ea da nb eb db (lim_fmt f hp0) (ha h2).1 (hb h3).1 (ha h2).2 (hb h3).2
theorem prod_ok (da db : List Int) (ca : Canon da) (cb : Canon db) (la : da.length ≤ 34) (lb : db.length ≤ 34) : Canon (nt (vl da * vl db)) ∧ vl (nt (vl da * vl db)) = vl da * vl db ∧ (nt (vl da * vl db)).length ≤ 100 := by
  obtain ⟨nk, h68⟩ := mul_bd da db ca cb la lb
  obtain ⟨c, v⟩ := nok_spec nk
  refine ⟨c, v, ?_⟩
  have := canon_le _ c 68 (by decide) (by rw [v]; exact h68)
  omega
/-- What Fma tells of right numbers is right. -/
theorem fmaR_right (f mode : Int) (ka : Int) (na : Bool) (ea : Int) (sa : ByteArray) (kb : Int) (nb : Bool) (eb : Int) (sb : ByteArray) (kc : Int) (nc : Bool) (ec : Int) (sc : ByteArray) (hO : fmaO f mode ka na ea sa kb nb eb sb kc nc ec sc = true) : Rgr f (fmaR f mode ka na ea sa kb nb eb sb kc nc ec sc) := by
  have hO2 := hO
  unfold fmaO at hO2
  simp only [Bool.and_eq_true, decide_eq_true_eq] at hO2
  obtain ⟨hmo, hA, hB, hC⟩ := hO2
  have hp0 := numB_fmt f ka na ea sa hA
  unfold fmaR
  rw [hO, if_pos rfl]
  cases hS : spB 3 (tw3 ka kb kc) with
  | true => rw [if_pos rfl]; exact nan_right f hp0 _
  | false =>
    rw [if_neg (by decide)]
    rw [spB3] at hS
    have hnan := of_decide_eq_false hS
    obtain ⟨hf, ea1, ka1, ca⟩ := right_two f ka na ea sa hA (fun q => hnan (.inl (.inl q))) (fun q => hnan (.inl (.inr q)))
    obtain ⟨-, eb1, kb1, cb⟩ := right_two f kb nb eb sb hB (fun q => hnan (.inr (.inl (.inl q)))) (fun q => hnan (.inr (.inl (.inr q))))
    obtain ⟨-, ec1, kc1, cc⟩ := right_two f kc nc ec sc hC (fun q => hnan (.inr (.inr (.inl q)))) (fun q => hnan (.inr (.inr (.inr q))))
    have hL := lims f hf
    have hc : kc ≠ 2 → Canon (dl sc) ∧ (dl sc).length ≤ 100 := fun h => by
      obtain ⟨q, l, -, -⟩ := cc (kc1.resolve_right h)
      exact ⟨q, by omega⟩
    unfold fmaX
    by_cases hkk : ka = 1 ∧ kb = 1
    · rw [if_pos hkk]
      obtain ⟨q1, l1, -, -⟩ := ca hkk.1
      obtain ⟨q2, l2, -, -⟩ := cb hkk.2
      obtain ⟨p1, -, p3⟩ := prod_ok (dl sa) (dl sb) q1 q2 (by omega) (by omega)
      exact addX_right f mode hp0 1 _ _ _ kc nc ec (dl sc) (fun _ => ⟨p1, p3⟩) hc
    · rw [if_neg hkk]
      cases hz : (z0B ka sa || z0B kb sb) with
      | true => rw [if_pos rfl]; exact nan_right f hp0 _
      | false =>
        rw [if_neg (by decide)]
        exact addX_right f mode hp0 2 _ _ _ kc nc ec (dl sc) (fun h => absurd rfl h) hc
theorem numB_sign (f : Int) (b b' : Bool) (e : Int) (s : ByteArray) : numB f 1 b e s = numB f 1 b' e s := by
  unfold numB
  rw [if_pos rfl, if_pos rfl]
/-- With an exact product turned: nought. -/
theorem fma_turned (f mode : Int) (ka : Int) (na : Bool) (ea : Int) (sa : ByteArray) (kb : Int) (nb : Bool) (eb : Int) (sb : ByteArray) (hO : addO f mode ka na ea sa kb nb eb sb = true) (g : Bool) (E : Int) (S : ByteArray) (h : mulR f mode ka na ea sa kb nb eb sb = (g, (1, E, S, 0))) (hS : S ≠ { data := #[48] }) :
    numB f 1 (!g) E S = true ∧ ∃ g' E', fmaR f mode ka na ea sa kb nb eb sb 1 (!g) E S = (g', (1, E', { data := #[48] }, 0)) := by
  have hR := mulR_right f mode ka na ea sa kb nb eb sb hO
  rw [h] at hR
  dsimp only at hR
  have hR2 := hR
  rw [numB_sign f g (!g)] at hR2
  refine ⟨hR2, ?_⟩
  have hO2 := hO
  unfold addO at hO2
  simp only [Bool.and_eq_true, decide_eq_true_eq] at hO2
  obtain ⟨hmo, hA, hB⟩ := hO2
  have hkk : ka = 1 ∧ kb = 1 ∧ spB 2 (tw2 ka kb) = false := by
    unfold mulR at h
    rw [hO, if_pos rfl] at h
    cases hs : spB 2 (tw2 ka kb) with
    | true =>
      rw [hs, if_pos rfl] at h
      exact absurd (congrArg (fun t : Bool × Int × Int × ByteArray × Int => t.2.1) h) (show ¬ (3 : Int) = 1 by decide)
    | false =>
      rw [hs, if_neg (by decide)] at h
      unfold mulX at h
      by_cases hk : ka = 1 ∧ kb = 1
      · exact ⟨hk.1, hk.2, rfl⟩
      · exfalso
        rw [if_neg hk] at h
        split at h
        · exact absurd (congrArg (fun t : Bool × Int × Int × ByteArray × Int => t.2.1) h) (show ¬ (3 : Int) = 1 by decide)
        · exact absurd (congrArg (fun t : Bool × Int × Int × ByteArray × Int => t.2.1) h) (show ¬ (2 : Int) = 1 by decide)
  obtain ⟨rfl, rfl, -⟩ := hkk
  obtain ⟨hf, ea1, -, ca⟩ := right_two f 1 na ea sa hA (by decide) (by decide)
  obtain ⟨-, eb1, -, cb⟩ := right_two f 1 nb eb sb hB (by decide) (by decide)
  obtain ⟨-, er1, -, cr⟩ := right_two f 1 g E S hR (by decide) (by decide)
  obtain ⟨q1, l1, -, -⟩ := ca rfl
  obtain ⟨q2, l2, -, -⟩ := cb rfl
  obtain ⟨q3, l3, -, -⟩ := cr rfl
  have hL := lims f hf
  have hP : 1 ≤ (limP f).toNat := by rcases hf with rfl | rfl <;> decide
  obtain ⟨pc, pv, pl⟩ := prod_ok (dl sa) (dl sb) q1 q2 (by omega) (by omega)
  rw [mulR_fin2 f mode hmo na ea sa nb eb sb hA hB] at h
  have hg : (!(na == nb)) = g := congrArg Prod.fst h
  have h2 := congrArg Prod.snd h
  dsimp only at h2
  rw [hg] at h2
  have t0 : tx [0] = { data := #[48] } := by apply ByteArray.ext; rw [tx_data]; rfl
  have hF : fmaO f mode 1 na ea sa 1 nb eb sb 1 (!g) E S = true := by
    unfold fmaO; rw [hA, hB, hR2, decide_eq_true hmo]; rfl
  have hB3 : spB 3 (tw3 1 1 1) = false := by rw [spB3]; decide
  unfold fmaR
  rw [hF, if_pos rfl, hB3, if_neg (by decide)]
  unfold fmaX
  rw [if_pos ⟨rfl, rfl⟩, hg]
  unfold addX
  rw [if_neg (show ¬ ((1 : Int) = 2 ∧ (1 : Int) = 2 ∧ g ≠ !g) from fun q => absurd q.1 (by decide)), if_neg (by decide), if_neg (by decide)]
  generalize nt (vl (dl sa) * vl (dl sb)) = P at *
  unfold finD at h2
  by_cases hz : P = [0]
  · rw [if_pos hz] at h2
    exact absurd (congrArg (fun t : Int × Int × ByteArray × Int => t.2.2.1) h2).symm hS
  · rw [if_neg hz] at h2
    obtain ⟨-, -, D, hD, dD, hv⟩ := finN_flag0 _ hP _ _ _ _ P _ _ _ pc hz (by omega) _ _ _ h2
    have hDl : dl S = D := by rw [hD]; exact dl_tx D dD
    rw [hDl] at q3 l3 ⊢
    have hs : sumS g (ea + eb) P (!g) E D (min (ea + eb) E) = 0 := by
      have := sv_at hv (min (ea + eb) E) (Int.min_le_right _ _) (Int.min_le_left _ _)
      unfold sumS
      rw [sgv_mul, sgv_mul, this]
      cases g <;> simp [sgv] <;> omega
    obtain ⟨g', E', hh⟩ := sumX_none f mode g (ea + eb) P (!g) E D pc q3 pl (by omega) hs
    exact ⟨g', E', by rw [hh, t0]⟩
theorem fma_none (f mode : Int) (ka : Int) (na : Bool) (ea : Int) (sa : ByteArray) (kb : Int) (nb : Bool) (eb : Int) (sb : ByteArray) (kc : Int) (nc : Bool) (ec : Int) (sc : ByteArray) (hO : fmaO f mode ka na ea sa kb nb eb sb kc nc ec sc = false) : fmaR f mode ka na ea sa kb nb eb sb kc nc ec sc = (false, (0, 0, { data := #[] }, 0)) := by
  unfold fmaR; rw [hO]; rfl
end Go.Proofs.YtnkoeidolmiheaaGreatDoor
