/-
  Fma of the program at any arguments, walked.
-/
import Derived.Test.YteofommckgeemaaGreatDoorSmn
import Derived.Deep.RegionHeld3
import Derived.Test.YteofommckgeemaaGreatDoorSpn

namespace Go.Proofs.YteofommckgeemaaGreatDoor
open Go.RowKit
set_option linter.unusedVariables false
set_option maxRecDepth 100000
/-- One of three. -/
def tw3 {α : Type} (a b c : α) (i : Nat) : α := if i = 0 then a else if i = 1 then b else c
theorem nrw3 {W : World} {g : Nat} {T : TypeId} {ka : Int} {na : Bool} {ea : Int} {sa : ByteArray} {kb : Int} {nb : Bool} {eb : Int} {sb : ByteArray} {kc : Int} {nc : Bool} {ec : Int} {sc : ByteArray} (h : W.heap[g]? = some (.cells #[.int .i64 ka, .bool na, .int .i64 ea, .string sa, .int .i64 kb, .bool nb, .int .i64 eb, .string sb, .int .i64 kc, .bool nc, .int .i64 ec, .string sc] T (0, 0))) :
    NRw W g 3 (tw3 ka kb kc) (tw3 na nb nc) (tw3 ea eb ec) (tw3 sa sb sc) := fun i hi => by
  match i, hi with
  | 0, _ => exact ⟨(cell_lit h 0).trans rfl, (cell_lit h 1).trans rfl, (cell_lit h 2).trans rfl, (cell_lit h 3).trans rfl⟩
  | 1, _ => exact ⟨(cell_lit h 4).trans rfl, (cell_lit h 5).trans rfl, (cell_lit h 6).trans rfl, (cell_lit h 7).trans rfl⟩
  | 2, _ => exact ⟨(cell_lit h 8).trans rfl, (cell_lit h 9).trans rfl, (cell_lit h 10).trans rfl, (cell_lit h 11).trans rfl⟩
theorem okB3 (g : Nat → Bool) [Decidable (∀ i, i < 3 → g i = true)] : decide (∀ i, i < 3 → g i = true) = (g 0 && (g 1 && g 2)) := by
  by_cases h : ∀ i, i < 3 → g i = true
  · rw [decide_eq_true h, h 0 (by decide), h 1 (by decide), h 2 (by decide)]; rfl
  · rw [decide_eq_false h]
    cases h0 : g 0 with
    | false => rfl
    | true =>
      cases h1 : g 1 with
      | false => rfl
      | true =>
        cases h2 : g 2 with
        | false => rfl
        | true => exact absurd (fun i hi => by
            match i, hi with
            | 0, _ => exact h0
            | 1, _ => exact h1
            | 2, _ => exact h2) h
def fmaO (f mode : Int) (ka : Int) (na : Bool) (ea : Int) (sa : ByteArray) (kb : Int) (nb : Bool) (eb : Int) (sb : ByteArray) (kc : Int) (nc : Bool) (ec : Int) (sc : ByteArray) : Bool := decide (1 ≤ mode ∧ mode ≤ 5) && (numB f ka na ea sa && (numB f kb nb eb sb && numB f kc nc ec sc))
/-- What Fma tells of three right numbers that are no NaNs. -/
def fmaX (f mode : Int) (ka : Int) (na : Bool) (ea : Int) (sa : ByteArray) (kb : Int) (nb : Bool) (eb : Int) (sb : ByteArray) (kc : Int) (nc : Bool) (ec : Int) (sc : ByteArray) : R5 :=
  if ka = 1 ∧ kb = 1 then addX f mode 1 (!(na == nb)) (ea + eb) (nt (vl (dl sa) * vl (dl sb))) kc nc ec (dl sc)
  else if z0B ka sa || z0B kb sb then (false, (3, 0, { data := #[] }, 1)) else addX f mode 2 (!(na == nb)) 0 [] kc nc ec (dl sc)
/-- What Fma tells. -/
def fmaR (f mode : Int) (ka : Int) (na : Bool) (ea : Int) (sa : ByteArray) (kb : Int) (nb : Bool) (eb : Int) (sb : ByteArray) (kc : Int) (nc : Bool) (ec : Int) (sc : ByteArray) : R5 :=
  if fmaO f mode ka na ea sa kb nb eb sb kc nc ec sc then (if spB 3 (tw3 ka kb kc) then (false, (3, 0, { data := #[] }, spF 3 (tw3 ka kb kc))) else fmaX f mode ka na ea sa kb nb eb sb kc nc ec sc)
  else (false, (0, 0, { data := #[] }, 0))
/-- The four blocks: the three numbers and the result. -/
def SVm (w W : World) (ka : Int) (na : Bool) (ea : Int) (sa : ByteArray) (kb : Int) (nb : Bool) (eb : Int) (sb : ByteArray) (kc : Int) (nc : Bool) (ec : Int) (sc : ByteArray) : Prop :=
  At4r W w.heap.size (.int .i64 ka) (.bool na) (.int .i64 ea) (.string sa) ∧ At4r W (w.heap.size + 1) (.int .i64 kb) (.bool nb) (.int .i64 eb) (.string sb) ∧ At4r W (w.heap.size + 2) (.int .i64 kc) (.bool nc) (.int .i64 ec) (.string sc)
    ∧ At5 W (w.heap.size + 3) (.int .i64 0) (.bool false) (.int .i64 0) (.string { data := #[] }) (.int .i64 0) ∧ Below w.heap.size w W ∧ w.heap.size + 3 < W.heap.size
abbrev svmW (w : World) (ka : Int) (na : Bool) (ea : Int) (sa : ByteArray) (kb : Int) (nb : Bool) (eb : Int) (sb : ByteArray) (kc : Int) (nc : Bool) (ec : Int) (sc : ByteArray) : World :=
  (((w.alloc (.cells #[.int .i64 ka, .bool na, .int .i64 ea, .string sa] 78)).alloc (.cells #[.int .i64 kb, .bool nb, .int .i64 eb, .string sb] 78)).alloc (.cells #[.int .i64 kc, .bool nc, .int .i64 ec, .string sc] 78)).alloc (.cells #[.int .i64 0, .bool false, .int .i64 0, .string { data := #[] }, .int .i64 0] 90)
theorem SVm.next {w W w1 : World} {ka : Int} {na : Bool} {ea : Int} {sa : ByteArray} {kb : Int} {nb : Bool} {eb : Int} {sb : ByteArray} {kc : Int} {nc : Bool} {ec : Int} {sc : ByteArray} (h : SVm w W ka na ea sa kb nb eb sb kc nc ec sc) (hb : Below W.heap.size W w1) : SVm w w1 ka na ea sa kb nb eb sb kc nc ec sc :=
  ⟨h.1.next hb, h.2.1.next hb, h.2.2.1.next hb, h.2.2.2.1.below hb h.2.2.2.2.2, h.2.2.2.2.1.trans (hb.mono h.2.2.2.2.1.size), Nat.lt_of_lt_of_le h.2.2.2.2.2 hb.size⟩
theorem SVm.alloc {w W : World} {ka : Int} {na : Bool} {ea : Int} {sa : ByteArray} {kb : Int} {nb : Bool} {eb : Int} {sb : ByteArray} {kc : Int} {nc : Bool} {ec : Int} {sc : ByteArray} (h : SVm w W ka na ea sa kb nb eb sb kc nc ec sc) (o : Obj) : SVm w (W.alloc o) ka na ea sa kb nb eb sb kc nc ec sc := h.next ((Below.refl _ _).alloc (Nat.le_refl _) o)
theorem svm_new (w : World) (ka : Int) (na : Bool) (ea : Int) (sa : ByteArray) (kb : Int) (nb : Bool) (eb : Int) (sb : ByteArray) (kc : Int) (nc : Bool) (ec : Int) (sc : ByteArray) : SVm w (svmW w ka na ea sa kb nb eb sb kc nc ec sc) ka na ea sa kb nb eb sb kc nc ec sc := by
  have s1 : (w.alloc (.cells #[.int .i64 ka, .bool na, .int .i64 ea, .string sa] 78)).heap.size = w.heap.size + 1 := new_size _ _
  have s2 : ((w.alloc (.cells #[.int .i64 ka, .bool na, .int .i64 ea, .string sa] 78)).alloc (.cells #[.int .i64 kb, .bool nb, .int .i64 eb, .string sb] 78)).heap.size = w.heap.size + 2 := by rw [new_size (w.alloc (.cells #[.int .i64 ka, .bool na, .int .i64 ea, .string sa] 78)) _, s1]
  have s3 : (((w.alloc (.cells #[.int .i64 ka, .bool na, .int .i64 ea, .string sa] 78)).alloc (.cells #[.int .i64 kb, .bool nb, .int .i64 eb, .string sb] 78)).alloc (.cells #[.int .i64 kc, .bool nc, .int .i64 ec, .string sc] 78)).heap.size = w.heap.size + 3 := by rw [new_size ((w.alloc (.cells #[.int .i64 ka, .bool na, .int .i64 ea, .string sa] 78)).alloc (.cells #[.int .i64 kb, .bool nb, .int .i64 eb, .string sb] 78)) _, s2]
  have b1 := (Below.refl w.heap.size w).alloc (Nat.le_refl _) (.cells #[.int .i64 ka, .bool na, .int .i64 ea, .string sa] 78)
  have g1 : At4r (w.alloc (.cells #[.int .i64 ka, .bool na, .int .i64 ea, .string sa] 78)) w.heap.size _ _ _ _ := at4r_new w (.int .i64 ka) (.bool na) (.int .i64 ea) (.string sa)
  have g2 := at4r_new (w.alloc (.cells #[.int .i64 ka, .bool na, .int .i64 ea, .string sa] 78)) (.int .i64 kb) (.bool nb) (.int .i64 eb) (.string sb)
  have g3 := at4r_new ((w.alloc (.cells #[.int .i64 ka, .bool na, .int .i64 ea, .string sa] 78)).alloc (.cells #[.int .i64 kb, .bool nb, .int .i64 eb, .string sb] 78)) (.int .i64 kc) (.bool nc) (.int .i64 ec) (.string sc)
  have g4 := heap_at (((w.alloc (.cells #[.int .i64 ka, .bool na, .int .i64 ea, .string sa] 78)).alloc (.cells #[.int .i64 kb, .bool nb, .int .i64 eb, .string sb] 78)).alloc (.cells #[.int .i64 kc, .bool nc, .int .i64 ec, .string sc] 78)) (.cells #[.int .i64 0, .bool false, .int .i64 0, .string { data := #[] }, .int .i64 0] 90)
  rw [s1] at g2
  rw [s2] at g3
  rw [s3] at g4
  have d2 : Below (w.alloc (.cells #[.int .i64 ka, .bool na, .int .i64 ea, .string sa] 78)).heap.size (w.alloc (.cells #[.int .i64 ka, .bool na, .int .i64 ea, .string sa] 78)) ((w.alloc (.cells #[.int .i64 ka, .bool na, .int .i64 ea, .string sa] 78)).alloc (.cells #[.int .i64 kb, .bool nb, .int .i64 eb, .string sb] 78)) := (Below.refl _ _).alloc (Nat.le_refl _) _
  have d3 : Below ((w.alloc (.cells #[.int .i64 ka, .bool na, .int .i64 ea, .string sa] 78)).alloc (.cells #[.int .i64 kb, .bool nb, .int .i64 eb, .string sb] 78)).heap.size ((w.alloc (.cells #[.int .i64 ka, .bool na, .int .i64 ea, .string sa] 78)).alloc (.cells #[.int .i64 kb, .bool nb, .int .i64 eb, .string sb] 78)) (((w.alloc (.cells #[.int .i64 ka, .bool na, .int .i64 ea, .string sa] 78)).alloc (.cells #[.int .i64 kb, .bool nb, .int .i64 eb, .string sb] 78)).alloc (.cells #[.int .i64 kc, .bool nc, .int .i64 ec, .string sc] 78)) := (Below.refl _ _).alloc (Nat.le_refl _) _
  have d4 : Below (((w.alloc (.cells #[.int .i64 ka, .bool na, .int .i64 ea, .string sa] 78)).alloc (.cells #[.int .i64 kb, .bool nb, .int .i64 eb, .string sb] 78)).alloc (.cells #[.int .i64 kc, .bool nc, .int .i64 ec, .string sc] 78)).heap.size (((w.alloc (.cells #[.int .i64 ka, .bool na, .int .i64 ea, .string sa] 78)).alloc (.cells #[.int .i64 kb, .bool nb, .int .i64 eb, .string sb] 78)).alloc (.cells #[.int .i64 kc, .bool nc, .int .i64 ec, .string sc] 78)) (svmW w ka na ea sa kb nb eb sb kc nc ec sc) := (Below.refl _ _).alloc (Nat.le_refl _) _
  refine ⟨((g1.next d2).next d3).next d4, (g2.next d3).next d4, g3.next d4, g4, ((b1.alloc (by rw [s1]; omega) _).alloc (by rw [s2]; omega) _).alloc (by rw [s3]; omega) _, ?_⟩
  rw [new_size (((w.alloc (.cells #[.int .i64 ka, .bool na, .int .i64 ea, .string sa] 78)).alloc (.cells #[.int .i64 kb, .bool nb, .int .i64 eb, .string sb] 78)).alloc (.cells #[.int .i64 kc, .bool nc, .int .i64 ec, .string sc] 78)) _, s3]
  omega
end Go.Proofs.YteofommckgeemaaGreatDoor
namespace Go.Proofs.YteofommckgeemaaGreatDoor
open Go.RowKit
set_option linter.unusedVariables false
set_option maxRecDepth 100000
set_option linter.unusedSimpArgs false
/-- finishedSum of a finite product and a right number that is no NaN. -/
theorem fsP_fin (f mode : Int) (hf : f = 64 ∨ f = 128) (hmo : 1 ≤ mode ∧ mode ≤ 5) (ng : Bool) (ep v : Int) (nk : Nok v) (h68 : v < 10 ^ 68) (hep : -13000 ≤ ep ∧ ep ≤ 13000) (kc : Int) (nc : Bool) (ec : Int) (sc : ByteArray) (hC : numB f kc nc ec sc = true) (c3 : kc ≠ 3) (c4 : kc ≠ 4) (w : World) :
    Calls Tryz.prog 76 #[.int .i64 f, .int .i64 mode, numV 1 ng ep (tn v), numV kc nc ec sc] w fun x w' => (x = .returned (rsD (addX f mode 1 ng ep (nt v) kc nc ec (dl sc)).1 (addX f mode 1 ng ep (nt v) kc nc ec (dl sc)).2) ∨ x = thrown (rsD (addX f mode 1 ng ep (nt v) kc nc ec (dl sc)).1 (addX f mode 1 ng ep (nt v) kc nc ec (dl sc)).2)) ∧ Below w.heap.size w w' := by
  obtain ⟨-, ec1, kc1, cc⟩ := right_two f kc nc ec sc hC c3 c4
  have hL := lims f hf
  rcases kc1 with rfl | rfl
  · obtain ⟨q2, l2, x2, y2⟩ := cc rfl
    have v2 := vl_bd (dl sc) q2.1
    have h2 := q2.2.1
    have l68 : (nt v).length ≤ 68 := nt_len _ 68 nk.1 (by unfold NFit; exact h68) (by decide) (by decide)
    have := finishedSum_fin f mode hf hmo ng ep v nc ec (vl (dl sc)) 68 (dl sc).length w nk.1 h68 v2.1 v2.2 (by decide) h2 (by omega) (by omega) (by omega)
    rw [tn_tx (vl (dl sc)), nt_vl _ q2 (by omega), ← ec1] at this
    have es := sum_same f mode hf ng ep (nt v) nc ec (dl sc) (nok_spec nk).1 q2 (by omega)
    rw [(nok_spec nk).2] at es
    have ex : addX f mode 1 ng ep (nt v) 1 nc ec (dl sc) = sumX f mode ng ep (nt v) nc ec (dl sc) := by
      unfold addX
      rw [if_neg (fun q => absurd q.1 (by decide)), if_neg (by decide), if_neg (by decide)]
    rw [ex, ← es]
    dsimp only
    exact this.mono fun x w' h => ⟨.inl h.1, h.2⟩
  · obtain ⟨z1, z2⟩ := right_inf f nc ec sc hC
    have ex : addX f mode 1 ng ep (nt v) 2 nc ec (dl sc) = (nc, (2, 0, { data := #[] }, 0)) := by
      unfold addX
      rw [if_neg (fun q => absurd q.1 (by decide)), if_neg (by decide), if_pos rfl]
    rw [ex, z1, z2]
    exact (finishedSum_thrown f mode 1 ng ep (tn v) 2 nc 0 { data := #[] } w (rsV 2 nc 0 { data := #[] } 0) (by simp [tiE, tiX, tiA, tw2])).mono fun x w' h => ⟨.inr h.1, h.2⟩
/-- finishedSum of an infinite product and a right number that is no NaN. -/
theorem fsP_inf (f mode : Int) (ng : Bool) (kc : Int) (nc : Bool) (ec : Int) (sc : ByteArray) (hC : numB f kc nc ec sc = true) (c3 : kc ≠ 3) (c4 : kc ≠ 4) (w : World) :
    Calls Tryz.prog 76 #[.int .i64 f, .int .i64 mode, numV 2 ng 0 { data := #[] }, numV kc nc ec sc] w fun x w' => (x = .returned (rsD (addX f mode 2 ng 0 [] kc nc ec (dl sc)).1 (addX f mode 2 ng 0 [] kc nc ec (dl sc)).2) ∨ x = thrown (rsD (addX f mode 2 ng 0 [] kc nc ec (dl sc)).1 (addX f mode 2 ng 0 [] kc nc ec (dl sc)).2)) ∧ Below w.heap.size w w' := by
  obtain ⟨hf, ec1, kc1, cc⟩ := right_two f kc nc ec sc hC c3 c4
  rcases kc1 with rfl | rfl
  · have ex : addX f mode 2 ng 0 [] 1 nc ec (dl sc) = (ng, (2, 0, { data := #[] }, 0)) := by
      unfold addX
      rw [if_neg (fun q => absurd q.2.1 (by decide)), if_pos rfl]
    rw [ex]
    exact (finishedSum_thrown f mode 2 ng 0 { data := #[] } 1 nc ec sc w (rsV 2 ng 0 { data := #[] } 0) (by simp [tiE, tiX, tiA, tw2])).mono fun x w' h => ⟨.inr h.1, h.2⟩
  · obtain ⟨y1, y2⟩ := right_inf f nc ec sc hC
    by_cases hn : ng = nc
    · subst hn
      have ex : addX f mode 2 ng 0 [] 2 ng ec (dl sc) = (ng, (2, 0, { data := #[] }, 0)) := by
        unfold addX
        rw [if_neg (fun q => q.2.2 rfl), if_pos rfl]
      rw [ex, y1, y2]
      exact (finishedSum_thrown f mode 2 ng 0 { data := #[] } 2 ng 0 { data := #[] } w (rsV 2 ng 0 { data := #[] } 0) (by simp [tiE, tiX, tiA, tw2])).mono fun x w' h => ⟨.inr h.1, h.2⟩
    · have ex : addX f mode 2 ng 0 [] 2 nc ec (dl sc) = (false, (3, 0, { data := #[] }, 1)) := by
        unfold addX
        rw [if_pos ⟨rfl, rfl, hn⟩]
      rw [ex, y1, y2]
      exact (finishedSum_thrown f mode 2 ng 0 { data := #[] } 2 nc 0 { data := #[] } w (rsV 3 false 0 { data := #[] } 1) (by simp [tiE, tiX, tiA, tw2, hn])).mono fun x w' h => ⟨.inr h.1, h.2⟩
/-- What the closure sees: format, mode, three numbers. -/
def Cap3 (X : World) (p : Nat) (f mode : Int) (ka : Int) (na : Bool) (ea : Int) (sa : ByteArray) (kb : Int) (nb : Bool) (eb : Int) (sb : ByteArray) (kc : Int) (nc : Bool) (ec : Int) (sc : ByteArray) : Prop :=
  X.cell? ⟨p, 0, none⟩ = some (.int .i64 f) ∧ X.cell? ⟨p + 1, 0, none⟩ = some (.int .i64 mode) ∧ At4r X (p + 2) (.int .i64 ka) (.bool na) (.int .i64 ea) (.string sa) ∧ At4r X (p + 3) (.int .i64 kb) (.bool nb) (.int .i64 eb) (.string sb) ∧ At4r X (p + 4) (.int .i64 kc) (.bool nc) (.int .i64 ec) (.string sc)
theorem Cap3.next {X X' : World} {p : Nat} {f mode : Int} {ka : Int} {na : Bool} {ea : Int} {sa : ByteArray} {kb : Int} {nb : Bool} {eb : Int} {sb : ByteArray} {kc : Int} {nc : Bool} {ec : Int} {sc : ByteArray} (h : Cap3 X p f mode ka na ea sa kb nb eb sb kc nc ec sc) (hb : Below X.heap.size X X') : Cap3 X' p f mode ka na ea sa kb nb eb sb kc nc ec sc := by
  have l3 := h.2.2.2.2.lt
  exact ⟨(hb.cell (p := ⟨p, 0, none⟩) (show p < X.heap.size by omega)).trans h.1, (hb.cell (p := ⟨p + 1, 0, none⟩) (show p + 1 < X.heap.size by omega)).trans h.2.1, h.2.2.1.next hb, h.2.2.2.1.next hb, h.2.2.2.2.next hb⟩
theorem right_ok3 (f mode : Int) (ka : Int) (na : Bool) (ea : Int) (sa : ByteArray) (kb : Int) (nb : Bool) (eb : Int) (sb : ByteArray) (kc : Int) (nc : Bool) (ec : Int) (sc : ByteArray) : rightB f mode 3 (tw3 ka kb kc) (tw3 na nb nc) (tw3 ea eb ec) (tw3 sa sb sc) = fmaO f mode ka na ea sa kb nb eb sb kc nc ec sc := by
  unfold rightB fmaO
  rw [okB3 (fun i => numB f (tw3 ka kb kc i) (tw3 na nb nc i) (tw3 ea eb ec i) (tw3 sa sb sc i))]
  rfl
set_option maxRecDepth 100000 in
set_option maxHeartbeats 1000000 in
theorem fma1_any (p : Nat) (f mode : Int) (ka : Int) (na : Bool) (ea : Int) (sa : ByteArray) (kb : Int) (nb : Bool) (eb : Int) (sb : ByteArray) (kc : Int) (nc : Bool) (ec : Int) (sc : ByteArray) (X : World) (hsa : sa.size ≤ 4611686018427387904) (hsb : sb.size ≤ 4611686018427387904) (hsc : sc.size ≤ 4611686018427387904) (hC : Cap3 X p f mode ka na ea sa kb nb eb sb kc nc ec sc) :
    Calls Tryz.prog 90 #[.pointer (some ⟨p, 0, none⟩), .pointer (some ⟨p + 1, 0, none⟩), .pointer (some ⟨p + 2, 0, none⟩), .pointer (some ⟨p + 3, 0, none⟩), .pointer (some ⟨p + 4, 0, none⟩)] X fun x w' => (x = .returned (rsD (fmaR f mode ka na ea sa kb nb eb sb kc nc ec sc).1 (fmaR f mode ka na ea sa kb nb eb sb kc nc ec sc).2) ∨ x = thrown (rsD (fmaR f mode ka na ea sa kb nb eb sb kc nc ec sc).1 (fmaR f mode ka na ea sa kb nb eb sb kc nc ec sc).2)) ∧ Below X.heap.size X w' := by
  obtain ⟨R, hR⟩ : ∃ R, fmaR f mode ka na ea sa kb nb eb sb kc nc ec sc = R := ⟨_, rfl⟩
  have HR : Hid (fmaR f mode ka na ea sa kb nb eb sb kc nc ec sc = R) := hR
  rw [hR]
  clear hR
  have hb0 : Below X.heap.size X (X.alloc (.cells #[.int .i64 0, .bool false, .int .i64 0, .string { data := #[] }, .int .i64 0] 90)) := (Below.refl _ _).alloc (Nat.le_refl _) _
  have HZ : Hid (At5 (X.alloc (.cells #[.int .i64 0, .bool false, .int .i64 0, .string { data := #[] }, .int .i64 0] 90)) X.heap.size (.int .i64 0) (.bool false) (.int .i64 0) (.string { data := #[] }) (.int .i64 0) ∧ Below X.heap.size X (X.alloc (.cells #[.int .i64 0, .bool false, .int .i64 0, .string { data := #[] }, .int .i64 0] 90)) ∧ Cap3 (X.alloc (.cells #[.int .i64 0, .bool false, .int .i64 0, .string { data := #[] }, .int .i64 0] 90)) p f mode ka na ea sa kb nb eb sb kc nc ec sc) := ⟨at5_new X _ _ _ _ _, hb0, hC.next hb0⟩
  obtain ⟨q0, q1, qa, qb, qc⟩ := HZ.out.2.2
  obtain ⟨a0, a1, a2, a3, a4⟩ := qa.cells
  obtain ⟨c0, c1, c2, c3, c4⟩ := qb.cells
  obtain ⟨d0, d1, d2, d3, d4⟩ := qc.cells
  clear qa qb qc
  have hzz : (X.alloc (.cells #[.int .i64 0, .bool false, .int .i64 0, .string { data := #[] }, .int .i64 0] 90)).heap.size = X.heap.size + 1 := new_size X _
  have HRw : Hid (NRw ((X.alloc (.cells #[.int .i64 0, .bool false, .int .i64 0, .string { data := #[] }, .int .i64 0] 90)).alloc (.cells #[.int .i64 ka, .bool na, .int .i64 ea, .string sa, .int .i64 kb, .bool nb, .int .i64 eb, .string sb, .int .i64 kc, .bool nc, .int .i64 ec, .string sc] 78)) (X.alloc (.cells #[.int .i64 0, .bool false, .int .i64 0, .string { data := #[] }, .int .i64 0] 90)).heap.size 3 (tw3 ka kb kc) (tw3 na nb nc) (tw3 ea eb ec) (tw3 sa sb sc) ∧ (X.alloc (.cells #[.int .i64 0, .bool false, .int .i64 0, .string { data := #[] }, .int .i64 0] 90)).heap.size < ((X.alloc (.cells #[.int .i64 0, .bool false, .int .i64 0, .string { data := #[] }, .int .i64 0] 90)).alloc (.cells #[.int .i64 ka, .bool na, .int .i64 ea, .string sa, .int .i64 kb, .bool nb, .int .i64 eb, .string sb, .int .i64 kc, .bool nc, .int .i64 ec, .string sc] 78)).heap.size) := ⟨nrw3 (heap_at (X.alloc (.cells #[.int .i64 0, .bool false, .int .i64 0, .string { data := #[] }, .int .i64 0] 90)) _), Nat.lt_of_lt_of_eq (Nat.lt_succ_self _) (new_size _ _).symm⟩
  rw [hzz] at HRw
  have HZr : Hid (At5 ((X.alloc (.cells #[.int .i64 0, .bool false, .int .i64 0, .string { data := #[] }, .int .i64 0] 90)).alloc (.cells #[.int .i64 ka, .bool na, .int .i64 ea, .string sa, .int .i64 kb, .bool nb, .int .i64 eb, .string sb, .int .i64 kc, .bool nc, .int .i64 ec, .string sc] 78)) X.heap.size (.int .i64 0) (.bool false) (.int .i64 0) (.string { data := #[] }) (.int .i64 0) ∧ Below X.heap.size X ((X.alloc (.cells #[.int .i64 0, .bool false, .int .i64 0, .string { data := #[] }, .int .i64 0] 90)).alloc (.cells #[.int .i64 ka, .bool na, .int .i64 ea, .string sa, .int .i64 kb, .bool nb, .int .i64 eb, .string sb, .int .i64 kc, .bool nc, .int .i64 ec, .string sc] 78)) ∧ Cap3 ((X.alloc (.cells #[.int .i64 0, .bool false, .int .i64 0, .string { data := #[] }, .int .i64 0] 90)).alloc (.cells #[.int .i64 ka, .bool na, .int .i64 ea, .string sa, .int .i64 kb, .bool nb, .int .i64 eb, .string sb, .int .i64 kc, .bool nc, .int .i64 ec, .string sc] 78)) p f mode ka na ea sa kb nb eb sb kc nc ec sc) := by
    have hb : Below (X.alloc (.cells #[.int .i64 0, .bool false, .int .i64 0, .string { data := #[] }, .int .i64 0] 90)).heap.size (X.alloc (.cells #[.int .i64 0, .bool false, .int .i64 0, .string { data := #[] }, .int .i64 0] 90)) ((X.alloc (.cells #[.int .i64 0, .bool false, .int .i64 0, .string { data := #[] }, .int .i64 0] 90)).alloc (.cells #[.int .i64 ka, .bool na, .int .i64 ea, .string sa, .int .i64 kb, .bool nb, .int .i64 eb, .string sb, .int .i64 kc, .bool nc, .int .i64 ec, .string sc] 78)) := (Below.refl _ _).alloc (Nat.le_refl _) _
    exact ⟨HZ.out.1.below hb HZ.out.1.lt, HZ.out.2.1.trans (hb.mono HZ.out.2.1.size), HZ.out.2.2.next hb⟩
  have HTs : Hid (∀ Y, NRw Y (X.heap.size + 1) 3 (tw3 ka kb kc) (tw3 na nb nc) (tw3 ea eb ec) (tw3 sa sb sc) → X.heap.size + 1 < Y.heap.size → Calls Tryz.prog 75 #[.int .i64 f, .int .i64 mode, .slice (some ⟨X.heap.size + 1, 0, none⟩) 3 3] Y fun x w' => x = tsE f mode 3 (tw3 ka kb kc) (tw3 na nb nc) (tw3 ea eb ec) (tw3 sa sb sc) ∧ Below Y.heap.size Y w') := fun Y h1 h2 => throwSpecials_any f mode 3 (X.heap.size + 1) _ _ _ _ Y (by decide) (by decide) h2 h1 (fun i hi => by match i, hi with
      | 0, _ => exact hsa
      | 1, _ => exact hsb
      | 2, _ => exact hsc)
  unfold tsE at HTs
  rw [right_ok3] at HTs
  clear hC HZ hzz hb0
  cases hO : fmaO f mode ka na ea sa kb nb eb sb kc nc ec sc with
  | false =>
    have ER : Hid (R = (false, (0, 0, { data := #[] }, 0))) := by show _ = _; rw [← HR.out]; unfold fmaR; rw [hO]; rfl
    rw [hO] at HTs
    simp only [Bool.false_eq_true, if_false] at HTs
    clear hO HR hsa hsb hsc
    go_enter Tryz.func90, Tryz.ntmps90
    go_wp2_with fail
    refine (HTs.out _ HRw.out.1 HRw.out.2).mono ?_
    rintro x w1 ⟨rfl, hb1⟩
    go_wp2
    exact ⟨rfl, .inr (by rw [ER.out]), HZr.out.2.1.trans (hb1.mono HZr.out.2.1.size)⟩
  | true =>
    rw [hO] at HTs
    simp only [if_true] at HTs
    cases hS : spB 3 (tw3 ka kb kc) with
    | true =>
      have ER : Hid (R = (false, (3, 0, { data := #[] }, spF 3 (tw3 ka kb kc)))) := by show _ = _; rw [← HR.out]; unfold fmaR; rw [hO, hS]; rfl
      rw [hS] at HTs
      simp only [if_true] at HTs
      generalize spF 3 (tw3 ka kb kc) = FL at *
      clear hO hS HR hsa hsb hsc
      go_enter Tryz.func90, Tryz.ntmps90
      go_wp2_with fail
      refine (HTs.out _ HRw.out.1 HRw.out.2).mono ?_
      rintro x w1 ⟨rfl, hb1⟩
      go_wp2
      exact ⟨rfl, .inr (by rw [ER.out]), HZr.out.2.1.trans (hb1.mono HZr.out.2.1.size)⟩
    | false =>
      have ER : R = fmaX f mode ka na ea sa kb nb eb sb kc nc ec sc := by rw [← HR.out]; unfold fmaR; rw [hO, hS]; rfl
      rw [hS] at HTs
      simp only [Bool.false_eq_true, if_false] at HTs
      have hO2 := hO
      unfold fmaO at hO2
      simp only [Bool.and_eq_true, decide_eq_true_eq] at hO2
      obtain ⟨hmo, hA, hBn, hCn⟩ := hO2
      have hnan := of_decide_eq_false hS
      have n0 : ka ≠ 3 ∧ ka ≠ 4 := ⟨fun h => hnan ⟨0, by decide, .inl h⟩, fun h => hnan ⟨0, by decide, .inr h⟩⟩
      have n1 : kb ≠ 3 ∧ kb ≠ 4 := ⟨fun h => hnan ⟨1, by decide, .inl h⟩, fun h => hnan ⟨1, by decide, .inr h⟩⟩
      have n2 : kc ≠ 3 ∧ kc ≠ 4 := ⟨fun h => hnan ⟨2, by decide, .inl h⟩, fun h => hnan ⟨2, by decide, .inr h⟩⟩
      obtain ⟨hf, ea1, ka1, ca⟩ := right_two f ka na ea sa hA n0.1 n0.2
      obtain ⟨-, eb1, kb1, cb⟩ := right_two f kb nb eb sb hBn n1.1 n1.2
      have hL := lims f hf
      obtain ⟨ng, hng⟩ : ∃ ng, (!(na == nb)) = ng := ⟨_, rfl⟩
      by_cases hkk : ka = 1 ∧ kb = 1
      · obtain ⟨rfl, rfl⟩ := hkk
        obtain ⟨w1', l1, x1, y1⟩ := ca rfl
        obtain ⟨w2', l2, x2, y2⟩ := cb rfl
        obtain ⟨nk, lt68⟩ := mul_bd (dl sa) (dl sb) w1' w2' (by omega) (by omega)
        have v1 := vl_bd (dl sa) w1'.1
        have v2 := vl_bd (dl sb) w2'.1
        have nka : Nok (vl (dl sa)) := ⟨v1.1, Int.lt_of_lt_of_le v1.2 (pow_mono _ _ (by omega))⟩
        have nkb : Nok (vl (dl sb)) := ⟨v2.1, Int.lt_of_lt_of_le v2.2 (pow_mono _ _ (by omega))⟩
        have HPo : Hid (∀ Y, Calls Tryz.prog 79 #[numV 1 na ea sa, numV 1 nb eb sb] Y fun x w' => x = .returned (numV 1 ng (ea + eb) (tn (vl (dl sa) * vl (dl sb)))) ∧ Below Y.heap.size Y w') := fun Y => by
          have := productOf_fin na nb ea eb (vl (dl sa)) (vl (dl sb)) Y nka nkb nk (by omega) (by omega)
          rw [tn_tx (vl (dl sa)), tn_tx (vl (dl sb)), nt_vl _ w1' (by omega), nt_vl _ w2' (by omega), ← ea1, ← eb1, hng] at this
          exact this
        have HFs : Hid (∀ Y, Calls Tryz.prog 76 #[.int .i64 f, .int .i64 mode, numV 1 ng (ea + eb) (tn (vl (dl sa) * vl (dl sb))), numV kc nc ec sc] Y fun x w' => (x = .returned (rsD (R).1 (R).2) ∨ x = thrown (rsD (R).1 (R).2)) ∧ Below Y.heap.size Y w') := fun Y => by
          have := fsP_fin f mode hf hmo ng (ea + eb) (vl (dl sa) * vl (dl sb)) nk lt68 (by omega) kc nc ec sc hCn n2.1 n2.2 Y
          rw [ER]
          unfold fmaX
          rw [if_pos ⟨rfl, rfl⟩, hng]
          exact this
        generalize tn (vl (dl sa) * vl (dl sb)) = TP at *
        generalize ea + eb = ep at *
        clear hO hS HR hsa hsb hsc ER hmo hA hBn hCn hnan n0 n1 n2 hf ea1 ca eb1 cb hL hng ka1 kb1 w1' l1 x1 y1 w2' l2 x2 y2 nk lt68 v1 v2 nka nkb
        obtain ⟨R0, F1, F2, F3, F4⟩ := R
        go_enter Tryz.func90, Tryz.ntmps90
        go_wp2_with fail
        refine (HTs.out _ HRw.out.1 HRw.out.2).mono ?_
        rintro x w1 ⟨rfl, hb1⟩
        have HZ1 : Hid (At5 w1 X.heap.size (.int .i64 0) (.bool false) (.int .i64 0) (.string { data := #[] }) (.int .i64 0) ∧ Below X.heap.size X w1 ∧ Cap3 w1 p f mode 1 na ea sa 1 nb eb sb kc nc ec sc) := ⟨HZr.out.1.below hb1 HZr.out.1.lt, HZr.out.2.1.trans (hb1.mono HZr.out.2.1.size), HZr.out.2.2.next hb1⟩
        clear hb1 HZr HTs HRw q0 q1 a0 a1 a2 a3 a4 c0 c1 c2 c3 c4 d0 d1 d2 d3 d4
        have HX0 : Hid (Below w1.heap.size w1 w1.drew) := (Below.refl _ _).drew
        go_upto_region 2 with fail
        refine wp_region_tail (C := fun W => Below w1.heap.size w1 W) 6 (by kernel_rfl) (by kernel_rfl) HX0.out ?_
        simp only [List.take_succ_cons, List.take_zero, List.drop_succ_cons, List.drop_zero]
        repeat (refine wpQuiet_step (fun K hK => ?_); go_simp; first | (refine hK _ ?_; clear hK K) | (apply Exists.intro; refine ⟨fun wx hC => ?_, hK _ ?_⟩; (first | exact rfl | exact Calls.class_of (HPo.out wx) (fun w' hb => bel1 hC hb) | (obtain ⟨q0, q1, qa⟩ := HZ1.out.2.2.next hC; clear qa; go_simp; exact rfl) | (obtain ⟨a0, a1, a2, a3, a4⟩ := (HZ1.out.2.2.next hC).2.2.1.cells; go_simp; exact rfl) | (obtain ⟨a0, a1, a2, a3, a4⟩ := (HZ1.out.2.2.next hC).2.2.2.1.cells; go_simp; exact rfl) | (obtain ⟨a0, a1, a2, a3, a4⟩ := (HZ1.out.2.2.next hC).2.2.2.2.cells; go_simp; exact rfl)); clear hK K))
        refine wpQuiet_nil ?_
        intro w2 hb2
        have HZ2 : Hid (At5 w2 X.heap.size (.int .i64 0) (.bool false) (.int .i64 0) (.string { data := #[] }) (.int .i64 0) ∧ Below X.heap.size X w2) := ⟨HZ1.out.1.below hb2 HZ1.out.1.lt, HZ1.out.2.1.trans (hb2.mono HZ1.out.2.1.size)⟩
        clear hb2 HZ1 HPo HX0
        go_wp2_with fail
        refine (HFs.out _).mono ?_
        rintro x w3 ⟨rfl | rfl, hb3⟩
        · have HZ3 : Hid (At5 w3 X.heap.size (.int .i64 0) (.bool false) (.int .i64 0) (.string { data := #[] }) (.int .i64 0) ∧ Below X.heap.size X w3) := ⟨HZ2.out.1.below hb3 HZ2.out.1.lt, HZ2.out.2.trans (hb3.mono HZ2.out.2.size)⟩
          clear hb3 HZ2 HFs
          go_wp2_with (refine wpList_store_row rfl 90 (.tmp 5) (.tmp 19) rfl X.heap.size #[.int .i64 F1, .bool R0, .int .i64 F2, .string F3, .int .i64 F4] rfl rfl _ _ HZ3.out.1 (by kernel_rfl) rfl (one5 _ _ _ _ _) ?_)
          have hP := (HZ3.out.1.row (.int .i64 F1) (.bool R0) (.int .i64 F2) (.string F3) (.int .i64 F4)).cells
          refine bodyPost_ret (results_res rfl _ _ rfl hP.1 hP.2.1 hP.2.2.1 hP.2.2.2.1 hP.2.2.2.2.1) rfl ?_
          exact ⟨.inl rfl, bel_row HZ3.out.2 (Nat.le_refl _) _⟩
        · have HB3 : Hid (Below X.heap.size X w3) := HZ2.out.2.trans (hb3.mono HZ2.out.2.size)
          clear hb3 HZ2 HFs
          go_wp2
          exact ⟨rfl, .inr rfl, HB3.out⟩
      · have HPo0 : ∀ Y, Calls Tryz.prog 79 #[numV ka na ea sa, numV kb nb eb sb] Y fun x w' => x = poE ng (z0B ka sa || z0B kb sb) ∧ Below Y.heap.size Y w' := fun Y => by
          rw [← hng]
          exact productOf_inf ka na ea sa kb nb eb sb (z0B ka sa) (z0B kb sb) Y hkk (fun Z => isNought_right f ka na ea sa hA n0.1 n0.2 Z) (fun Z => isNought_right f kb nb eb sb hBn n1.1 n1.2 Z)
        cases hz : (z0B ka sa || z0B kb sb) with
        | true =>
          rw [hz] at HPo0
          have ER3 : Hid (R = (false, (3, 0, { data := #[] }, 1))) := by show _ = _; rw [ER]; unfold fmaX; rw [if_neg hkk, if_pos hz]
          have HPo : Hid (∀ Y, Calls Tryz.prog 79 #[numV ka na ea sa, numV kb nb eb sb] Y fun x w' => x = thrown (rsV 3 false 0 { data := #[] } 1) ∧ Below Y.heap.size Y w') := HPo0
          clear hO hS HR hsa hsb hsc ER hmo hA hBn hCn hnan n0 n1 n2 hf ea1 ca eb1 cb hL hng ka1 kb1 hkk hz HPo0
          go_enter Tryz.func90, Tryz.ntmps90
          go_wp2_with fail
          refine (HTs.out _ HRw.out.1 HRw.out.2).mono ?_
          rintro x w1 ⟨rfl, hb1⟩
          have HZ1 : Hid (At5 w1 X.heap.size (.int .i64 0) (.bool false) (.int .i64 0) (.string { data := #[] }) (.int .i64 0) ∧ Below X.heap.size X w1 ∧ Cap3 w1 p f mode ka na ea sa kb nb eb sb kc nc ec sc) := ⟨HZr.out.1.below hb1 HZr.out.1.lt, HZr.out.2.1.trans (hb1.mono HZr.out.2.1.size), HZr.out.2.2.next hb1⟩
          clear hb1 HZr HTs HRw q0 q1 a0 a1 a2 a3 a4 c0 c1 c2 c3 c4 d0 d1 d2 d3 d4
          obtain ⟨q0, q1, qa, qb, qc⟩ := HZ1.out.2.2
          obtain ⟨a0, a1, a2, a3, a4⟩ := qa.cells
          obtain ⟨c0, c1, c2, c3, c4⟩ := qb.cells
          obtain ⟨d0, d1, d2, d3, d4⟩ := qc.cells
          clear qa qb qc
          go_upto_region 2 with fail
          have hS0 : (fun W : World => W.cell? ⟨p, 0, none⟩ = some (.int .i64 f) ∧ W.cell? ⟨p + 1, 0, none⟩ = some (.int .i64 mode) ∧ W.cell? ⟨p + 2, 0, none⟩ = some (.int .i64 ka) ∧ W.cell? ⟨p + 2, 1, none⟩ = some (.bool na) ∧ W.cell? ⟨p + 2, 2, none⟩ = some (.int .i64 ea) ∧ W.cell? ⟨p + 2, 3, none⟩ = some (.string sa) ∧ W.cell? ⟨p + 3, 0, none⟩ = some (.int .i64 kb) ∧ W.cell? ⟨p + 3, 1, none⟩ = some (.bool nb) ∧ W.cell? ⟨p + 3, 2, none⟩ = some (.int .i64 eb) ∧ W.cell? ⟨p + 3, 3, none⟩ = some (.string sb) ∧ W.cell? ⟨p + 4, 0, none⟩ = some (.int .i64 kc) ∧ W.cell? ⟨p + 4, 1, none⟩ = some (.bool nc) ∧ W.cell? ⟨p + 4, 2, none⟩ = some (.int .i64 ec) ∧ W.cell? ⟨p + 4, 3, none⟩ = some (.string sc)) w1.drew := ⟨q0, q1, a0, a1, a2, a3, c0, c1, c2, c3, d0, d1, d2, d3⟩
          refine wp_region_held_drew (S := fun W => W.cell? ⟨p, 0, none⟩ = some (.int .i64 f) ∧ W.cell? ⟨p + 1, 0, none⟩ = some (.int .i64 mode) ∧ W.cell? ⟨p + 2, 0, none⟩ = some (.int .i64 ka) ∧ W.cell? ⟨p + 2, 1, none⟩ = some (.bool na) ∧ W.cell? ⟨p + 2, 2, none⟩ = some (.int .i64 ea) ∧ W.cell? ⟨p + 2, 3, none⟩ = some (.string sa) ∧ W.cell? ⟨p + 3, 0, none⟩ = some (.int .i64 kb) ∧ W.cell? ⟨p + 3, 1, none⟩ = some (.bool nb) ∧ W.cell? ⟨p + 3, 2, none⟩ = some (.int .i64 eb) ∧ W.cell? ⟨p + 3, 3, none⟩ = some (.string sb) ∧ W.cell? ⟨p + 4, 0, none⟩ = some (.int .i64 kc) ∧ W.cell? ⟨p + 4, 1, none⟩ = some (.bool nc) ∧ W.cell? ⟨p + 4, 2, none⟩ = some (.int .i64 ec) ∧ W.cell? ⟨p + 4, 3, none⟩ = some (.string sc)) (by kernel_rfl) hS0 (fun _ => ?_)
          refine wpAnyH_take (i := 0) (v := .int .i64 f) rfl (by kernel_rfl) (by kernel_rfl) (by kernel_rfl) (fun _ _ _ h => h) (Or.inl ⟨by rfl, ?_⟩) hS0 ?_
          · intro W hW
            try dsimp only at hW
            go_split_ands
            go_simp
          try simp only [Act.put, List.setIfInBounds_toArray, List.set_cons_zero, List.set_cons_succ]
          refine wpAnyH_take (i := 1) (v := .int .i64 mode) rfl (by kernel_rfl) (by kernel_rfl) (by kernel_rfl) (fun _ _ _ h => h) (Or.inl ⟨by rfl, ?_⟩) hS0 ?_
          · intro W hW
            try dsimp only at hW
            go_split_ands
            go_simp
          try simp only [Act.put, List.setIfInBounds_toArray, List.set_cons_zero, List.set_cons_succ]
          refine wpAnyH_take (i := 2) (v := numV ka na ea sa) rfl (by kernel_rfl) (by kernel_rfl) (by kernel_rfl) (fun _ _ _ h => h) (Or.inl ⟨by rfl, ?_⟩) hS0 ?_
          · intro W hW
            try dsimp only at hW
            go_split_ands
            go_simp
          try simp only [Act.put, List.setIfInBounds_toArray, List.set_cons_zero, List.set_cons_succ]
          refine wpAnyH_take (i := 3) (v := numV kb nb eb sb) rfl (by kernel_rfl) (by kernel_rfl) (by kernel_rfl) (fun _ _ _ h => h) (Or.inl ⟨by rfl, ?_⟩) hS0 ?_
          · intro W hW
            try dsimp only at hW
            go_split_ands
            go_simp
          try simp only [Act.put, List.setIfInBounds_toArray, List.set_cons_zero, List.set_cons_succ]
          refine wpAnyH_take (i := 5) (v := numV kc nc ec sc) rfl (by kernel_rfl) (by kernel_rfl) (by kernel_rfl) (fun _ _ _ h => h) (Or.inl ⟨by rfl, ?_⟩) hS0 ?_
          · intro W hW
            try dsimp only at hW
            go_split_ands
            go_simp
          try simp only [Act.put, List.setIfInBounds_toArray, List.set_cons_zero, List.set_cons_succ]
          refine wpAnyH_ready (rs := [4]) (by kernel_rfl) (by simp) ?_
          refine AllReadyH.cons rfl (fun K hK => ?_) AllReadyH.nil
          clear hK
          go_simp
          go_at_call 79
          refine (HPo.out _).mono ?_
          rintro x w2 ⟨rfl, hb2⟩
          have hE : Below X.heap.size X w2 := HZ1.out.2.1.drew.trans (hb2.mono HZ1.out.2.1.size)
          go_simp
          exact ⟨rfl, .inr (by rw [ER3.out]), hE⟩
        | false =>
          rw [hz] at HPo0
          have HPo : Hid (∀ Y, Calls Tryz.prog 79 #[numV ka na ea sa, numV kb nb eb sb] Y fun x w' => x = .returned (numV 2 ng 0 { data := #[] }) ∧ Below Y.heap.size Y w') := HPo0
          have HFs : Hid (∀ Y, Calls Tryz.prog 76 #[.int .i64 f, .int .i64 mode, numV 2 ng 0 { data := #[] }, numV kc nc ec sc] Y fun x w' => (x = .returned (rsD (R).1 (R).2) ∨ x = thrown (rsD (R).1 (R).2)) ∧ Below Y.heap.size Y w') := fun Y => by
            have := fsP_inf f mode ng kc nc ec sc hCn n2.1 n2.2 Y
            rw [ER]
            unfold fmaX
            rw [if_neg hkk, hng, hz, if_neg (by decide)]
            exact this
          clear hO hS HR hsa hsb hsc ER hmo hA hBn hCn hnan n0 n1 n2 hf ea1 ca eb1 cb hL hng ka1 kb1 hkk hz HPo0
          obtain ⟨R0, F1, F2, F3, F4⟩ := R
          go_enter Tryz.func90, Tryz.ntmps90
          go_wp2_with fail
          refine (HTs.out _ HRw.out.1 HRw.out.2).mono ?_
          rintro x w1 ⟨rfl, hb1⟩
          have HZ1 : Hid (At5 w1 X.heap.size (.int .i64 0) (.bool false) (.int .i64 0) (.string { data := #[] }) (.int .i64 0) ∧ Below X.heap.size X w1 ∧ Cap3 w1 p f mode ka na ea sa kb nb eb sb kc nc ec sc) := ⟨HZr.out.1.below hb1 HZr.out.1.lt, HZr.out.2.1.trans (hb1.mono HZr.out.2.1.size), HZr.out.2.2.next hb1⟩
          clear hb1 HZr HTs HRw q0 q1 a0 a1 a2 a3 a4 c0 c1 c2 c3 c4 d0 d1 d2 d3 d4
          have HX0 : Hid (Below w1.heap.size w1 w1.drew) := (Below.refl _ _).drew
          go_upto_region 2 with fail
          refine wp_region_tail (C := fun W => Below w1.heap.size w1 W) 6 (by kernel_rfl) (by kernel_rfl) HX0.out ?_
          simp only [List.take_succ_cons, List.take_zero, List.drop_succ_cons, List.drop_zero]
          repeat (refine wpQuiet_step (fun K hK => ?_); go_simp; first | (refine hK _ ?_; clear hK K) | (apply Exists.intro; refine ⟨fun wx hC => ?_, hK _ ?_⟩; (first | exact rfl | exact Calls.class_of (HPo.out wx) (fun w' hb => bel1 hC hb) | (obtain ⟨q0, q1, qa⟩ := HZ1.out.2.2.next hC; clear qa; go_simp; exact rfl) | (obtain ⟨a0, a1, a2, a3, a4⟩ := (HZ1.out.2.2.next hC).2.2.1.cells; go_simp; exact rfl) | (obtain ⟨a0, a1, a2, a3, a4⟩ := (HZ1.out.2.2.next hC).2.2.2.1.cells; go_simp; exact rfl) | (obtain ⟨a0, a1, a2, a3, a4⟩ := (HZ1.out.2.2.next hC).2.2.2.2.cells; go_simp; exact rfl)); clear hK K))
          refine wpQuiet_nil ?_
          intro w2 hb2
          have HZ2 : Hid (At5 w2 X.heap.size (.int .i64 0) (.bool false) (.int .i64 0) (.string { data := #[] }) (.int .i64 0) ∧ Below X.heap.size X w2) := ⟨HZ1.out.1.below hb2 HZ1.out.1.lt, HZ1.out.2.1.trans (hb2.mono HZ1.out.2.1.size)⟩
          clear hb2 HZ1 HPo HX0
          go_wp2_with fail
          refine (HFs.out _).mono ?_
          rintro x w3 ⟨rfl | rfl, hb3⟩
          · have HZ3 : Hid (At5 w3 X.heap.size (.int .i64 0) (.bool false) (.int .i64 0) (.string { data := #[] }) (.int .i64 0) ∧ Below X.heap.size X w3) := ⟨HZ2.out.1.below hb3 HZ2.out.1.lt, HZ2.out.2.trans (hb3.mono HZ2.out.2.size)⟩
            clear hb3 HZ2 HFs
            go_wp2_with (refine wpList_store_row rfl 90 (.tmp 5) (.tmp 19) rfl X.heap.size #[.int .i64 F1, .bool R0, .int .i64 F2, .string F3, .int .i64 F4] rfl rfl _ _ HZ3.out.1 (by kernel_rfl) rfl (one5 _ _ _ _ _) ?_)
            have hP := (HZ3.out.1.row (.int .i64 F1) (.bool R0) (.int .i64 F2) (.string F3) (.int .i64 F4)).cells
            refine bodyPost_ret (results_res rfl _ _ rfl hP.1 hP.2.1 hP.2.2.1 hP.2.2.2.1 hP.2.2.2.2.1) rfl ?_
            exact ⟨.inl rfl, bel_row HZ3.out.2 (Nat.le_refl _) _⟩
          · have HB3 : Hid (Below X.heap.size X w3) := HZ2.out.2.trans (hb3.mono HZ2.out.2.size)
            clear hb3 HZ2 HFs
            go_wp2
            exact ⟨rfl, .inr rfl, HB3.out⟩
end Go.Proofs.YteofommckgeemaaGreatDoor
