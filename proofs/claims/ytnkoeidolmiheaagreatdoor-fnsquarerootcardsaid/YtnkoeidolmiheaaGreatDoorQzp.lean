/-
  What Quantize tells: plain facts.
-/
import Derived.Test.YtnkoeidolmiheaaGreatDoorWhj
import Derived.Test.YtnkoeidolmiheaaGreatDoorLmt
namespace Go.Proofs.YtnkoeidolmiheaaGreatDoor
open Go.RowKit
set_option linter.unusedVariables false
set_option maxRecDepth 100000
/-- Is a finite number nought? -/
def zB (k : Int) (s : ByteArray) : Bool := decide (k = 1) && decide (vl (dl s) = 0)
theorem isNought_rgn {f k e : Int} {s : ByteArray} (h : Rgn f k e s) (b : Bool) (w : World) : Calls Tryz.prog 48 #[numV k b e s] w fun x w' => x = .returned (.bool (zB k s)) ∧ Below w.heap.size w w' := by
  rcases h.2.2.1 with rfl | rfl
  · obtain ⟨hs, nk, -⟩ := h.tn rfl
    have := isNought_fin b e (vl (dl s)) w nk
    rw [← hs] at this
    exact this
  · exact isNought_inf b e s w
/-- Format, mode, two numbers. -/
def Cp2 (X : World) (p : Nat) (f mode : Int) (ka : Int) (na : Bool) (ea : Int) (sa : ByteArray) (kb : Int) (nb : Bool) (eb : Int) (sb : ByteArray) : Prop :=
  X.cell? ⟨p, 0, none⟩ = some (.int .i64 f) ∧ X.cell? ⟨p + 1, 0, none⟩ = some (.int .i64 mode) ∧ At4r X (p + 2) (.int .i64 ka) (.bool na) (.int .i64 ea) (.string sa) ∧ At4r X (p + 3) (.int .i64 kb) (.bool nb) (.int .i64 eb) (.string sb)
theorem Cp2.next {X X' : World} {p : Nat} {f mode : Int} {ka : Int} {na : Bool} {ea : Int} {sa : ByteArray} {kb : Int} {nb : Bool} {eb : Int} {sb : ByteArray} (h : Cp2 X p f mode ka na ea sa kb nb eb sb) (hb : Below X.heap.size X X') : Cp2 X' p f mode ka na ea sa kb nb eb sb := by
  have l3 := h.2.2.2.lt
  exact ⟨(hb.cell (p := ⟨p, 0, none⟩) (show p < X.heap.size by omega)).trans h.1, (hb.cell (p := ⟨p + 1, 0, none⟩) (show p + 1 < X.heap.size by omega)).trans h.2.1, h.2.2.1.next hb, h.2.2.2.next hb⟩
/-- The boxes of an operation on two numbers. -/
abbrev cp2W (w : World) (f mode : Int) (ka : Int) (na : Bool) (ea : Int) (sa : ByteArray) (kb : Int) (nb : Bool) (eb : Int) (sb : ByteArray) : World :=
  ((((w.alloc (.cells #[.int .i64 f] 2)).alloc (.cells #[.int .i64 mode] 2)).alloc (.cells #[.int .i64 ka, .bool na, .int .i64 ea, .string sa] 25)).alloc (.cells #[.int .i64 kb, .bool nb, .int .i64 eb, .string sb] 25)).alloc (.cells #[.int .i64 0, .bool false, .int .i64 0, .string { data := #[] }, .int .i64 0] 29)
theorem cp2_new (w : World) (f mode : Int) (ka : Int) (na : Bool) (ea : Int) (sa : ByteArray) (kb : Int) (nb : Bool) (eb : Int) (sb : ByteArray) :
    Cp2 (cp2W w f mode ka na ea sa kb nb eb sb) w.heap.size f mode ka na ea sa kb nb eb sb ∧ At5 (cp2W w f mode ka na ea sa kb nb eb sb) (w.heap.size + 4) (.int .i64 0) (.bool false) (.int .i64 0) (.string { data := #[] }) (.int .i64 0) ∧ Below w.heap.size w (cp2W w f mode ka na ea sa kb nb eb sb) ∧ (cp2W w f mode ka na ea sa kb nb eb sb).heap.size = w.heap.size + 5 := by
  unfold cp2W
  have c1 := new_cell1 w (.int .i64 f) 2
  have z1 := new_size w (.cells #[.int .i64 f] 2)
  have b1 : Below w.heap.size w (w.alloc (.cells #[.int .i64 f] 2)) := (Below.refl _ _).alloc (Nat.le_refl _) _
  generalize w.alloc (.cells #[.int .i64 f] 2) = w1 at *
  have c2 := new_cell1 w1 (.int .i64 mode) 2
  have z2 := new_size w1 (.cells #[.int .i64 mode] 2)
  have b2 : Below w1.heap.size w1 (w1.alloc (.cells #[.int .i64 mode] 2)) := (Below.refl _ _).alloc (Nat.le_refl _) _
  have c1' := (b2.cell (p := ⟨w.heap.size, 0, none⟩) (show w.heap.size < w1.heap.size by omega)).trans c1
  generalize w1.alloc (.cells #[.int .i64 mode] 2) = w2 at *
  have h3 := su_new w2 ka na ea sa kb nb eb sb
  have z3 : (suW w2 ka na ea sa kb nb eb sb).heap.size = w2.heap.size + 3 := by
    unfold suW
    rw [new_size, new_size, new_size]
  rw [z1] at c2
  have e2 : w2.heap.size = w.heap.size + 2 := by omega
  have hb2 : Below w.heap.size w w2 := b1.trans (b2.mono b1.size)
  have hb3 : Below w2.heap.size w2 (suW w2 ka na ea sa kb nb eb sb) := h3.2.2.2.1
  refine ⟨⟨(hb3.cell (p := ⟨w.heap.size, 0, none⟩) (show w.heap.size < w2.heap.size by omega)).trans c1', (hb3.cell (p := ⟨w.heap.size + 1, 0, none⟩) (show w.heap.size + 1 < w2.heap.size by omega)).trans c2, ?_, ?_⟩, ?_, hb2.trans (hb3.mono hb2.size), ?_⟩
  · have := h3.1; rw [e2] at this; exact this
  · have := h3.2.1; rw [e2] at this; exact this
  · have := h3.2.2.1; rw [e2] at this; exact this
  · show (suW w2 ka na ea sa kb nb eb sb).heap.size = _
    omega
theorem row2_new (W : World) (ka : Int) (na : Bool) (ea : Int) (sa : ByteArray) (kb : Int) (nb : Bool) (eb : Int) (sb : ByteArray) : NRw (W.alloc (.cells #[.int .i64 ka, .bool na, .int .i64 ea, .string sa, .int .i64 kb, .bool nb, .int .i64 eb, .string sb] 25)) W.heap.size 2 (tw2 ka kb) (tw2 na nb) (tw2 ea eb) (tw2 sa sb) ∧ W.heap.size < (W.alloc (.cells #[.int .i64 ka, .bool na, .int .i64 ea, .string sa, .int .i64 kb, .bool nb, .int .i64 eb, .string sb] 25)).heap.size :=
  ⟨nrw2 (heap_at W _), by rw [new_size]; omega⟩
/-- What roomIn gives: a closure over the number of a format's digits. -/
def RmV (b : Nat) : Value := .func (.func 113) #[] #[.pointer (some ⟨b, 0, none⟩)]
theorem roomIn_any (f : Int) (w : World) : Calls Tryz.prog 52 #[.int .i64 f] w fun x w' => ∃ b, x = .returned (RmV b) ∧ w'.cell? ⟨b, 0, none⟩ = some (.int .i64 (limP f)) ∧ w.heap.size ≤ b ∧ b < w'.heap.size ∧ Below w.heap.size w w' := by
  have hmf : ∀ (fn : Fn) (first cap : Array Value) (w : World), (Instr.makeFunc fn first cap).run Tryz.prog w = .ok (.func fn first cap) w := fun _ _ _ _ => rfl
  have HLm : Hid (∀ X, Calls Tryz.prog 112 #[.int .i64 f] X fun e w' => e = .returned (.tuple #[.int .i64 (limP f), .int .i64 (limL f), .int .i64 (limH f)]) ∧ Below X.heap.size X w') := fun X => iLimits_any f X
  generalize limL f = L0 at *
  generalize limH f = H0 at *
  generalize limP f = P at *
  go_enter Tryz.func52, Tryz.ntmps52
  go_wp2_with fail
  refine (HLm.out _).mono ?_
  rintro x w1 ⟨rfl, hb1⟩
  have HB1 : Hid (Below w.heap.size w w1) := hb1
  clear hb1 HLm
  go_wp2
  go_ret
  exact ⟨w1.heap.size, rfl, new_cell1 w1 _ _, HB1.out.size, by rw [new_size]; omega, HB1.out.alloc HB1.out.size _⟩
theorem room1_any (b : Nat) (P : Int) (s : ByteArray) (w : World) (hb : w.cell? ⟨b, 0, none⟩ = some (.int .i64 P)) (hP : 0 ≤ P ∧ P ≤ 34) (hs : s.size ≤ 600) :
    Calls Tryz.prog 113 #[.string s, .pointer (some ⟨b, 0, none⟩)] w fun x w' => x = .returned (.int .i64 (P - s.size)) ∧ w' = w := by
  have hw : IntKind.i64.wrap (P - (s.size : Int)) = P - s.size := by rw [IntKind.wrap_i64]; omega
  clear hP hs
  go_enter Tryz.func113, Tryz.ntmps113
  go_wp2
  go_ret
  exact ⟨rfl, rfl⟩
end Go.Proofs.YtnkoeidolmiheaaGreatDoor
namespace Go.Proofs.YtnkoeidolmiheaaGreatDoor
open Go.RowKit
set_option linter.unusedVariables false
set_option maxRecDepth 100000
/-- What Quantize tells of two right numbers that are no NaNs. -/
def qzX (f mode : Int) (ka : Int) (na : Bool) (ea : Int) (sa : ByteArray) (kb : Int) (eb : Int) : R5o :=
  if ka = 2 ∧ kb = 2 then (na, (2, 0, { data := #[] }, 0))
  else if ka = 2 ∨ kb = 2 then (false, (3, 0, { data := #[] }, 1))
  else if vl (dl sa) ≠ 0 ∧ limP f < (dl sa).length + (ea - eb) then (false, (3, 0, { data := #[] }, 1))
  else if eb ≤ ea then (na, (1, eb, tx (nt (vl (dl sa) * 10 ^ (ea - eb).toNat)), 0))
  else (na, (1, eb, tx (nt (drV mode na (vl (dl sa)) (eb - ea).toNat)), if drL (vl (dl sa)) (eb - ea).toNat then 16 else 0))
/-- What Quantize tells. -/
def qzR (f mode : Int) (ka : Int) (na : Bool) (ea : Int) (sa : ByteArray) (kb : Int) (nb : Bool) (eb : Int) (sb : ByteArray) : R5o := ofR f mode 2 (tw2 ka kb) (tw2 na nb) (tw2 ea eb) (tw2 sa sb) (qzX f mode ka na ea sa kb eb)
/-- A number with another exponent, where there is room. -/
theorem wx_told (mode : Int) (na : Bool) (v ea eb : Int) (n : Nat) (h0 : 0 ≤ v) (h1 : v < 10 ^ n) (hn : n ≤ 34) (hr : v ≠ 0 → n + (ea - eb) ≤ 34) :
    Nok (v * 10 ^ (plc (ea - eb)).toNat) ∧ (eb ≤ ea → rndV mode na (v * 10 ^ (plc (ea - eb)).toNat) (plc (eb - ea)).toNat false = v * 10 ^ (ea - eb).toNat ∧ rndL (v * 10 ^ (plc (ea - eb)).toNat) (plc (eb - ea)).toNat false = false)
      ∧ (¬ eb ≤ ea → rndV mode na (v * 10 ^ (plc (ea - eb)).toNat) (plc (eb - ea)).toNat false = drV mode na v (eb - ea).toNat ∧ rndL (v * 10 ^ (plc (ea - eb)).toNat) (plc (eb - ea)).toNat false = drL v (eb - ea).toNat) := by
  have r0 : ∀ x : Int, rndV mode na x 0 false = x ∧ rndL x 0 false = false := fun x => by
    have hm : x % 10 ^ 0 = 0 := by rw [Int.pow_zero]; exact Int.emod_one _
    have hL : rndL x 0 false = false := by unfold rndL; rw [hm]; rfl
    refine ⟨?_, hL⟩
    unfold rndV rndU
    rw [hL, Int.pow_zero, Int.ediv_one]
    simp [upB, halfI, upO]
  by_cases hz : v = 0
  · subst hz
    simp only [Int.zero_mul]
    refine ⟨nok_zero, fun h => ?_, fun h => ?_⟩
    · exact rnd_zero mode na _
    · have e2 : (plc (eb - ea)).toNat = min (eb - ea).toNat 200 := by unfold plc; omega
      rw [e2]; exact ⟨rfl, rfl⟩
  · have hr' := hr hz
    have e1 : (plc (ea - eb)).toNat = (ea - eb).toNat := by unfold plc; omega
    rw [e1]
    have hN : Nok (v * 10 ^ (ea - eb).toNat) := by
      refine ⟨Int.mul_nonneg h0 (Int.le_of_lt (ten_pos _)), ?_⟩
      have a := Int.mul_lt_mul_of_pos_right h1 (ten_pos (ea - eb).toNat)
      rw [← Int.pow_add] at a
      exact Int.lt_of_lt_of_le a (pow_mono _ _ (by omega))
    refine ⟨hN, fun h => ?_, fun h => ?_⟩
    · have e2 : (plc (eb - ea)).toNat = 0 := by unfold plc; omega
      rw [e2]; exact r0 _
    · have e2 : (plc (eb - ea)).toNat = min (eb - ea).toNat 200 := by unfold plc; omega
      have e3 : (ea - eb).toNat = 0 := by omega
      rw [e2, e3, Int.pow_zero, Int.mul_one]; exact ⟨rfl, rfl⟩
end Go.Proofs.YtnkoeidolmiheaaGreatDoor
