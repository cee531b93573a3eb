/-
  Plain facts for FnQuantized: what Quantize tells is right, has the asked exponent and the sign, is as much as before where there is no flag, and is told again of itself.
-/
import Derived.Test.YtcflomcankcggafGreatDoorWhj
import Derived.Test.YtcflomcankcggafGreatDoorFinA
import Derived.Test.YtcflomcankcggafGreatDoorExh
namespace Go.Proofs.YtcflomcankcggafGreatDoor
open Go.RowKit
set_option linter.unusedVariables false
set_option maxRecDepth 100000
/-- Is a finite number nought? -/
def zB (k : Int) (s : ByteArray) : Bool := decide (k = 1) && decide (vl (dl s) = 0)
theorem isNought_rgn {f k e : Int} {s : ByteArray} (h : Rgn f k e s) (b : Bool) (w : World) : Calls Tryz.prog 82 #[numV k b e s] w fun x w' => x = .returned (.bool (zB k s)) ∧ Below w.heap.size w w' := by
  rcases h.2.2.1 with rfl | rfl
  · obtain ⟨hs, nk, -⟩ := h.tn rfl
    have := isNought_fin b e (vl (dl s)) w nk
    rw [← hs] at this
    exact this
  · exact isNought_inf b e s w
/-- Format, mode, two numbers. -/
def Cp2 (X : World) (p : Nat) (f mode : Int) (ka : Int) (na : Bool) (ea : Int) (sa : ByteArray) (kb : Int) (nb : Bool) (eb : Int) (sb : ByteArray) : Prop :=
  X.cell? ⟨p, 0, none⟩ = some (.int .i64 f) ∧ X.cell? ⟨p + 1, 0, none⟩ = some (.int .i64 mode) ∧ At4r X (p + 2) (.int .i64 ka) (.bool na) (.int .i64 ea) (.string sa) ∧ At4r X (p + 3) (.int .i64 kb) (.bool nb) (.int .i64 eb) (.string sb)
theorem Cp2.next {X X' : World} {p : Nat} {f mode : Int} {ka : Int} {na : Bool} {ea : Int} {sa : ByteArray} {kb : Int} {nb : Bool} {eb : Int} {sb : ByteArray} (h : Cp2 X p f mode ka na ea sa kb nb eb sb) (hb : Below X.heap.size X X') : Cp2 X' p f mode ka na ea sa kb nb eb sb := by
  have l3 := h.2.2.2.lt
  exact ⟨(hb.cell (p := ⟨p, 0, none⟩) (show p < X.heap.size by omega)).trans h.1, (hb.cell (p := ⟨p + 1, 0, none⟩) (show p + 1 < X.heap.size by omega)).trans h.2.1, h.2.2.1.next hb, h.2.2.2.next hb⟩
/-- The boxes of an operation on two numbers. -/
abbrev cp2W (w : World) (f mode : Int) (ka : Int) (na : Bool) (ea : Int) (sa : ByteArray) (kb : Int) (nb : Bool) (eb : Int) (sb : ByteArray) : World :=
  ((((w.alloc (.cells #[.int .i64 f] 2)).alloc (.cells #[.int .i64 mode] 2)).alloc (.cells #[.int .i64 ka, .bool na, .int .i64 ea, .string sa] 25)).alloc (.cells #[.int .i64 kb, .bool nb, .int .i64 eb, .string sb] 25)).alloc (.cells #[.int .i64 0, .bool false, .int .i64 0, .string { data := #[] }, .int .i64 0] 29)
theorem cp2_new (w : World) (f mode : Int) (ka : Int) (na : Bool) (ea : Int) (sa : ByteArray) (kb : Int) (nb : Bool) (eb : Int) (sb : ByteArray) :
    Cp2 (cp2W w f mode ka na ea sa kb nb eb sb) w.heap.size f mode ka na ea sa kb nb eb sb ∧ At5 (cp2W w f mode ka na ea sa kb nb eb sb) (w.heap.size + 4) (.int .i64 0) (.bool false) (.int .i64 0) (.string { data := #[] }) (.int .i64 0) ∧ Below w.heap.size w (cp2W w f mode ka na ea sa kb nb eb sb) ∧ (cp2W w f mode ka na ea sa kb nb eb sb).heap.size = w.heap.size + 5 := by
  unfold cp2W
  have c1 := new_cell1 w (.int .i64 f) 2
  have z1 := new_size w (.cells #[.int .i64 f] 2)
  have b1 : Below w.heap.size w (w.alloc (.cells #[.int .i64 f] 2)) := (Below.refl _ _).alloc (Nat.le_refl _) _
  generalize w.alloc (.cells #[.int .i64 f] 2) = w1 at *
  have c2 := new_cell1 w1 (.int .i64 mode) 2
  have z2 := new_size w1 (.cells #[.int .i64 mode] 2)
  have b2 : Below w1.heap.size w1 (w1.alloc (.cells #[.int .i64 mode] 2)) := (Below.refl _ _).alloc (Nat.le_refl _) _
  have c1' := (b2.cell (p := ⟨w.heap.size, 0, none⟩) (show w.heap.size < w1.heap.size by omega)).trans c1
  generalize w1.alloc (.cells #[.int .i64 mode] 2) = w2 at *
  have h3 := su_new w2 ka na ea sa kb nb eb sb
  have z3 : (suW w2 ka na ea sa kb nb eb sb).heap.size = w2.heap.size + 3 := by
    unfold suW
    rw [new_size, new_size, new_size]
  rw [z1] at c2
  have e2 : w2.heap.size = w.heap.size + 2 := by omega
  have hb2 : Below w.heap.size w w2 := b1.trans (b2.mono b1.size)
  have hb3 : Below w2.heap.size w2 (suW w2 ka na ea sa kb nb eb sb) := h3.2.2.2.1
  refine ⟨⟨(hb3.cell (p := ⟨w.heap.size, 0, none⟩) (show w.heap.size < w2.heap.size by omega)).trans c1', (hb3.cell (p := ⟨w.heap.size + 1, 0, none⟩) (show w.heap.size + 1 < w2.heap.size by omega)).trans c2, ?_, ?_⟩, ?_, hb2.trans (hb3.mono hb2.size), ?_⟩
  · have := h3.1; rw [e2] at this; exact this
  · have := h3.2.1; rw [e2] at this; exact this
  · have := h3.2.2.1; rw [e2] at this; exact this
  · show (suW w2 ka na ea sa kb nb eb sb).heap.size = _
    omega
theorem row2_new (W : World) (ka : Int) (na : Bool) (ea : Int) (sa : ByteArray) (kb : Int) (nb : Bool) (eb : Int) (sb : ByteArray) : NRw (W.alloc (.cells #[.int .i64 ka, .bool na, .int .i64 ea, .string sa, .int .i64 kb, .bool nb, .int .i64 eb, .string sb] 25)) W.heap.size 2 (tw2 ka kb) (tw2 na nb) (tw2 ea eb) (tw2 sa sb) ∧ W.heap.size < (W.alloc (.cells #[.int .i64 ka, .bool na, .int .i64 ea, .string sa, .int .i64 kb, .bool nb, .int .i64 eb, .string sb] 25)).heap.size :=
  ⟨nrw2 (heap_at W _), by rw [new_size]; omega⟩
/-- What roomIn gives: a closure over the number of a format's digits. -/
def RmV (b : Nat) : Value := .func (.func 112) #[] #[.pointer (some ⟨b, 0, none⟩)]
theorem roomIn_any (f : Int) (w : World) : Calls Tryz.prog 72 #[.int .i64 f] w fun x w' => ∃ b, x = .returned (RmV b) ∧ w'.cell? ⟨b, 0, none⟩ = some (.int .i64 (limP f)) ∧ w.heap.size ≤ b ∧ b < w'.heap.size ∧ Below w.heap.size w w' := by
  have hmf : ∀ (fn : Fn) (first cap : Array Value) (w : World), (Instr.makeFunc fn first cap).run Tryz.prog w = .ok (.func fn first cap) w := fun _ _ _ _ => rfl
  have HLm : Hid (∀ X, Calls Tryz.prog 111 #[.int .i64 f] X fun e w' => e = .returned (.tuple #[.int .i64 (limP f), .int .i64 (limL f), .int .i64 (limH f)]) ∧ Below X.heap.size X w') := fun X => iLimits_any f X
  generalize limL f = L0 at *
  generalize limH f = H0 at *
  generalize limP f = P at *
  go_enter Tryz.func72, Tryz.ntmps72
  go_wp2_with fail
  refine (HLm.out _).mono ?_
  rintro x w1 ⟨rfl, hb1⟩
  have HB1 : Hid (Below w.heap.size w w1) := hb1
  clear hb1 HLm
  go_wp2
  go_ret
  exact ⟨w1.heap.size, rfl, new_cell1 w1 _ _, HB1.out.size, by rw [new_size]; omega, HB1.out.alloc HB1.out.size _⟩
theorem room1_any (b : Nat) (P : Int) (s : ByteArray) (w : World) (hb : w.cell? ⟨b, 0, none⟩ = some (.int .i64 P)) (hP : 0 ≤ P ∧ P ≤ 34) (hs : s.size ≤ 600) :
    Calls Tryz.prog 112 #[.string s, .pointer (some ⟨b, 0, none⟩)] w fun x w' => x = .returned (.int .i64 (P - s.size)) ∧ w' = w := by
  have hw : IntKind.i64.wrap (P - (s.size : Int)) = P - s.size := by rw [IntKind.wrap_i64]; omega
  clear hP hs
  go_enter Tryz.func112, Tryz.ntmps112
  go_wp2
  go_ret
  exact ⟨rfl, rfl⟩
end Go.Proofs.YtcflomcankcggafGreatDoor
namespace Go.Proofs.YtcflomcankcggafGreatDoor
open Go.RowKit
set_option linter.unusedVariables false
set_option maxRecDepth 100000
/-- What Quantize tells of two right numbers that are no NaNs. -/
def qzX (f mode : Int) (ka : Int) (na : Bool) (ea : Int) (sa : ByteArray) (kb : Int) (eb : Int) : R5o :=
  if ka = 2 ∧ kb = 2 then (na, (2, 0, { data := #[] }, 0))
  else if ka = 2 ∨ kb = 2 then (false, (3, 0, { data := #[] }, 1))
  else if vl (dl sa) ≠ 0 ∧ limP f < (dl sa).length + (ea - eb) then (false, (3, 0, { data := #[] }, 1))
  else if eb ≤ ea then (na, (1, eb, tx (nt (vl (dl sa) * 10 ^ (ea - eb).toNat)), 0))
  else (na, (1, eb, tx (nt (drV mode na (vl (dl sa)) (eb - ea).toNat)), if drL (vl (dl sa)) (eb - ea).toNat then 16 else 0))
/-- What Quantize tells. -/
def qzR (f mode : Int) (ka : Int) (na : Bool) (ea : Int) (sa : ByteArray) (kb : Int) (nb : Bool) (eb : Int) (sb : ByteArray) : R5o := ofR f mode 2 (tw2 ka kb) (tw2 na nb) (tw2 ea eb) (tw2 sa sb) (qzX f mode ka na ea sa kb eb)
/-- A number with another exponent, where there is room. -/
theorem wx_told (mode : Int) (na : Bool) (v ea eb : Int) (n : Nat) (h0 : 0 ≤ v) (h1 : v < 10 ^ n) (hn : n ≤ 34) (hr : v ≠ 0 → n + (ea - eb) ≤ 34) :
    Nok (v * 10 ^ (plc (ea - eb)).toNat) ∧ (eb ≤ ea → rndV mode na (v * 10 ^ (plc (ea - eb)).toNat) (plc (eb - ea)).toNat false = v * 10 ^ (ea - eb).toNat ∧ rndL (v * 10 ^ (plc (ea - eb)).toNat) (plc (eb - ea)).toNat false = false)
      ∧ (¬ eb ≤ ea → rndV mode na (v * 10 ^ (plc (ea - eb)).toNat) (plc (eb - ea)).toNat false = drV mode na v (eb - ea).toNat ∧ rndL (v * 10 ^ (plc (ea - eb)).toNat) (plc (eb - ea)).toNat false = drL v (eb - ea).toNat) := by
  have r0 : ∀ x : Int, rndV mode na x 0 false = x ∧ rndL x 0 false = false := fun x => by
    have hm : x % 10 ^ 0 = 0 := by rw [Int.pow_zero]; exact Int.emod_one _
    have hL : rndL x 0 false = false := by unfold rndL; rw [hm]; rfl
    refine ⟨?_, hL⟩
    unfold rndV rndU
    rw [hL, Int.pow_zero, Int.ediv_one]
    simp [upB, halfI, upO]
  by_cases hz : v = 0
  · subst hz
    simp only [Int.zero_mul]
    refine ⟨nok_zero, fun h => ?_, fun h => ?_⟩
    · exact rnd_zero mode na _
    · have e2 : (plc (eb - ea)).toNat = min (eb - ea).toNat 200 := by unfold plc; omega
      rw [e2]; exact ⟨rfl, rfl⟩
  · have hr' := hr hz
    have e1 : (plc (ea - eb)).toNat = (ea - eb).toNat := by unfold plc; omega
    rw [e1]
    have hN : Nok (v * 10 ^ (ea - eb).toNat) := by
      refine ⟨Int.mul_nonneg h0 (Int.le_of_lt (ten_pos _)), ?_⟩
      have a := Int.mul_lt_mul_of_pos_right h1 (ten_pos (ea - eb).toNat)
      rw [← Int.pow_add] at a
      exact Int.lt_of_lt_of_le a (pow_mono _ _ (by omega))
    refine ⟨hN, fun h => ?_, fun h => ?_⟩
    · have e2 : (plc (eb - ea)).toNat = 0 := by unfold plc; omega
      rw [e2]; exact r0 _
    · have e2 : (plc (eb - ea)).toNat = min (eb - ea).toNat 200 := by unfold plc; omega
      have e3 : (ea - eb).toNat = 0 := by omega
      rw [e2, e3, Int.pow_zero, Int.mul_one]; exact ⟨rfl, rfl⟩
end Go.Proofs.YtcflomcankcggafGreatDoor
namespace Go.Proofs.YtcflomcankcggafGreatDoor
set_option linter.unusedVariables false
set_option maxRecDepth 100000
theorem rnd_exact (mode : Int) (neg : Bool) (v : Int) (k : Nat) (hmod : v % 10 ^ k = 0) : rndV mode neg v k false = v / 10 ^ k := by
  unfold rndV rndU
  have hU : upB mode neg (halfI (v % 10 ^ k) (10 ^ k) false k) (rndL v k false) (v / 10 ^ k) = false := by
    have hr : rndL v k false = false := by unfold rndL; rw [hmod]; rfl
    have hh : halfI (v % 10 ^ k) (10 ^ k) false k = -1 := by
      unfold halfI
      rw [hmod]
      by_cases c : k = 0
      · rw [if_pos c]
      · rw [if_neg c, if_pos (by have := ten_pos k; omega)]
    rw [hr, hh]
    unfold upB upO
    by_cases m1 : mode = 1
    · rw [if_pos m1]; rfl
    · rw [if_neg m1]
      by_cases m3 : mode = 3
      · rw [if_pos m3]; rfl
      · rw [if_neg m3]
        by_cases m4 : mode = 4
        · rw [if_pos m4]; rfl
        · rw [if_neg m4]
          by_cases m5 : mode = 5
          · rw [if_pos m5]; rfl
          · rw [if_neg m5]
  rw [hU]; simp
/-- Nothing lost: the value is divided without rest. -/
theorem dr_exact (mode : Int) (neg : Bool) (v : Int) (k : Nat) (h0 : 0 ≤ v) (h1 : v < 10 ^ 34) (h : drL v k = false) : drV mode neg v k * 10 ^ k = v := by
  unfold drL rndL at h
  have hm : v % 10 ^ (min k 200) = 0 := by simpa using h
  by_cases hk : k ≤ 200
  · rw [Nat.min_eq_left hk] at hm
    unfold drV
    rw [Nat.min_eq_left hk, rnd_exact mode neg v k hm]
    exact Int.ediv_mul_cancel (Int.dvd_of_emod_eq_zero hm)
  · rw [Nat.min_eq_right (by omega)] at hm
    have hp : (10 : Int) ^ 34 ≤ 10 ^ 200 := pow_mono _ _ (by decide)
    rw [Int.emod_eq_of_lt h0 (by omega)] at hm
    subst hm
    unfold drV
    rw [(rnd_zero mode neg _).1, Int.zero_mul]
section
variable (f mode : Int) (na : Bool) (ea : Int) (sa : ByteArray) (nb : Bool) (eb : Int) (sb : ByteArray)
theorem qz_num (hf : f = 64 ∨ f = 128) (n : Bool) (e : Int) (D : List Int) (cD : Canon D) (lD : (D.length : Int) ≤ limP f) (h1 : limL f ≤ e) (h2 : e ≤ limH f) : numB f 1 n e (tx D) = true := by
  have hp : limP f ≠ 0 := by rcases hf with rfl | rfl <;> decide
  unfold numB
  rw [if_neg hp, if_pos rfl, natB_tx (limP f) D cD lD]
  simp [h1, h2]
/-- Alike with the same sign, nought or not. -/
theorem alike_any (hf : f = 64 ∨ f = 128) (n : Bool) (e1 : Int) (d1 : List Int) (e2 : Int) (d2 : List Int) (h1 : numB f 1 n e1 (tx d1) = true) (h2 : numB f 1 n e2 (tx d2) = true) (c1 : Canon d1) (c2 : Canon d2) (h : SV (vl d1) e1 (vl d2) e2) : cpR f 1 n e1 (tx d1) 1 n e2 (tx d2) = 0 := by
  by_cases z2 : d2 = [0]
  · subst z2
    rw [show vl [0] = 0 from rfl] at h
    have z1 : d1 = [0] := by
      have := sv_zero_of h
      by_cases z : d1 = [0]
      · exact z
      · have := vl_pos d1 c1 z; omega
    subst z1
    unfold cpR
    rw [h1, h2, Bool.and_self, if_pos rfl, if_neg (by decide), nou_zero, Bool.and_self, if_pos rfl]
  · have z1 : d1 ≠ [0] := fun q => by
      subst q
      rw [show vl [0] = 0 from rfl] at h
      have := sv_zero_of h.symm
      have := vl_pos d2 c2 z2
      omega
    exact alike_fin f n e1 d1 e2 d2 h1 h2 c1 c2 z1 z2 h
/-- What Quantize tells of two finite numbers, where it tells one. -/
theorem qzX_fin (hA : numB f 1 na ea sa = true) (hB : numB f 1 nb eb sb = true) (R0 : Bool) (F2 : Int) (F3 : ByteArray) (F4 : Int) (h : qzX f mode 1 na ea sa 1 eb = (R0, (1, F2, F3, F4))) :
    R0 = na ∧ F2 = eb ∧ numB f 1 na eb F3 = true ∧ (F4 ≠ 0 ∨ cpR f 1 na eb F3 1 na ea sa = 0) ∧ qzX f mode 1 na eb F3 1 eb = (na, (1, eb, F3, 0)) := by
  obtain ⟨hf, ea1, -, ca⟩ := right_two f 1 na ea sa hA (by decide) (by decide)
  obtain ⟨-, eb1, -, cb⟩ := right_two f 1 nb eb sb hB (by decide) (by decide)
  obtain ⟨q1, l1, x1, y1⟩ := ca rfl
  obtain ⟨q2, l2, x2, y2⟩ := cb rfl
  have hL := lims f hf
  have hP : limP f = ((limP f).toNat : Int) ∧ 1 ≤ (limP f).toNat ∧ (limP f).toNat ≤ 34 := by rcases hf with rfl | rfl <;> decide
  have v0 : 0 ≤ vl (dl sa) := (vl_bd _ q1.1).1
  have v1 : vl (dl sa) < 10 ^ (limP f).toNat := Int.lt_of_lt_of_le (vl_bd _ q1.1).2 (pow_mono _ _ (by omega))
  have v34 : vl (dl sa) < 10 ^ 34 := Int.lt_of_lt_of_le v1 (pow_mono _ _ hP.2.2)
  -- the rest, for digits that are told
  have key : ∀ (D : List Int) (F : Int), Canon D → (D.length : Int) ≤ limP f → (F ≠ 0 ∨ SV (vl D) eb (vl (dl sa)) ea) → (na, ((1 : Int), eb, tx D, F)) = (R0, (1, F2, F3, F4)) → R0 = na ∧ F2 = eb ∧ numB f 1 na eb F3 = true ∧ (F4 ≠ 0 ∨ cpR f 1 na eb F3 1 na ea sa = 0) ∧ qzX f mode 1 na eb F3 1 eb = (na, (1, eb, F3, 0)) := fun D F cD lD hs hh => by
    obtain ⟨rfl, -, rfl, rfl, rfl⟩ : na = R0 ∧ (1 : Int) = 1 ∧ eb = F2 ∧ tx D = F3 ∧ F = F4 := by
      simpa only [Prod.mk.injEq] using hh
    have hN := qz_num f hf na eb D cD lD x2 y2
    refine ⟨rfl, rfl, hN, hs.imp id (fun h => ?_), ?_⟩
    · rw [ea1] at hA ⊢
      exact alike_any f hf na eb D ea (dl sa) hN hA cD q1 h
    · have ed : dl (tx D) = D := dl_tx D cD.1
      unfold qzX
      rw [if_neg (by decide), if_neg (by decide), ed, if_neg (by rintro ⟨-, h⟩; omega), if_pos (Int.le_refl _), show (eb - eb).toNat = 0 by omega, Int.pow_zero, Int.mul_one, nt_vl D cD (by omega)]
  unfold qzX at h
  rw [if_neg (by decide), if_neg (by decide)] at h
  by_cases h3 : vl (dl sa) ≠ 0 ∧ limP f < (dl sa).length + (ea - eb)
  · rw [if_pos h3] at h
    exact absurd (congrArg (fun t : Bool × Int × Int × ByteArray × Int => t.2.1) h) (show ¬ (3 : Int) = 1 by decide)
  · rw [if_neg h3] at h
    by_cases h4 : eb ≤ ea
    · rw [if_pos h4] at h
      have hb : vl (dl sa) * 10 ^ (ea - eb).toNat < 10 ^ (limP f).toNat := by
        by_cases hz : vl (dl sa) = 0
        · rw [hz, Int.zero_mul]; exact ten_pos _
        · have hlen : ((dl sa).length : Int) + (ea - eb) ≤ limP f := by
            rcases Int.lt_or_le (limP f) ((dl sa).length + (ea - eb)) with c | c
            · exact absurd ⟨hz, c⟩ h3
            · exact c
          have := Int.mul_lt_mul_of_pos_right (vl_bd _ q1.1).2 (ten_pos (ea - eb).toNat)
          rw [← Int.pow_add] at this
          exact Int.lt_of_lt_of_le this (pow_mono _ _ (by omega))
      have hn0 : 0 ≤ vl (dl sa) * 10 ^ (ea - eb).toNat := Int.mul_nonneg v0 (Int.le_of_lt (ten_pos _))
      obtain ⟨cN, vN⟩ := nt_spec _ hn0 (Int.lt_of_lt_of_le hb (pow_mono _ _ (by omega)))
      have lN := canon_le _ cN (limP f).toNat (by omega) (by rw [vN]; exact hb)
      refine key _ _ cN (by omega) (.inr ?_) h
      rw [vN]
      exact .inl ⟨h4, rfl⟩
    · rw [if_neg h4] at h
      obtain ⟨lN, cN⟩ := drV_len mode na (vl (dl sa)) (eb - ea).toNat (limP f).toNat v0 v1 (by omega) (by omega) (by omega)
      refine key _ _ cN (by omega) ?_ h
      cases hl : drL (vl (dl sa)) (eb - ea).toNat with
      | true => exact .inl (by decide)
      | false =>
        right
        have hx := dr_exact mode na (vl (dl sa)) (eb - ea).toNat v0 v34 hl
        obtain ⟨d0, d1⟩ := drV_bd mode na (vl (dl sa)) (eb - ea).toNat (limP f).toNat v0 v1 (by omega) (by omega)
        have hvN : vl (nt (drV mode na (vl (dl sa)) (eb - ea).toNat)) = drV mode na (vl (dl sa)) (eb - ea).toNat := (nt_spec _ d0 (Int.lt_of_le_of_lt d1 (Int.lt_of_lt_of_le (Int.lt_of_lt_of_le (show (10 : Int) ^ ((limP f).toNat - 1) < 10 ^ ((limP f).toNat - 1) * 10 by have := ten_pos ((limP f).toNat - 1); omega) (Int.le_of_eq (Int.pow_succ 10 _).symm)) (pow_mono _ _ (by omega))))).2
        rw [hvN]
        exact .inr ⟨by omega, hx.symm⟩
end
end Go.Proofs.YtcflomcankcggafGreatDoor
