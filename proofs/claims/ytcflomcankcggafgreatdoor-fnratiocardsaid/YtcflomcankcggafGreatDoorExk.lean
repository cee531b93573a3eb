/-
  Plain facts for FnRatio: noughts behind, with the exponent that they stand for asked back; a number by one.
-/
import Derived.Test.YtcflomcankcggafGreatDoorWhj
import Derived.Test.YtcflomcankcggafGreatDoorFinA
import Derived.Test.YtcflomcankcggafGreatDoorExh
import Derived.Test.YtcflomcankcggafGreatDoorDrawN
import Derived.Test.YtcflomcankcggafGreatDoorMuP
import Derived.Test.YtcflomcankcggafGreatDoorMuC
namespace Go.Proofs.YtcflomcankcggafGreatDoor
open Go.RowKit
set_option linter.unusedVariables false
set_option maxRecDepth 100000
/-- Is a finite number nought? -/
def zB (k : Int) (s : ByteArray) : Bool := decide (k = 1) && decide (vl (dl s) = 0)
theorem isNought_rgn {f k e : Int} {s : ByteArray} (h : Rgn f k e s) (b : Bool) (w : World) : Calls Tryz.prog 82 #[numV k b e s] w fun x w' => x = .returned (.bool (zB k s)) ∧ Below w.heap.size w w' := by
  rcases h.2.2.1 with rfl | rfl
  · obtain ⟨hs, nk, -⟩ := h.tn rfl
    have := isNought_fin b e (vl (dl s)) w nk
    rw [← hs] at this
    exact this
  · exact isNought_inf b e s w
/-- Format, mode, two numbers. -/
def Cp2 (X : World) (p : Nat) (f mode : Int) (ka : Int) (na : Bool) (ea : Int) (sa : ByteArray) (kb : Int) (nb : Bool) (eb : Int) (sb : ByteArray) : Prop :=
  X.cell? ⟨p, 0, none⟩ = some (.int .i64 f) ∧ X.cell? ⟨p + 1, 0, none⟩ = some (.int .i64 mode) ∧ At4r X (p + 2) (.int .i64 ka) (.bool na) (.int .i64 ea) (.string sa) ∧ At4r X (p + 3) (.int .i64 kb) (.bool nb) (.int .i64 eb) (.string sb)
theorem Cp2.next {X X' : World} {p : Nat} {f mode : Int} {ka : Int} {na : Bool} {ea : Int} {sa : ByteArray} {kb : Int} {nb : Bool} {eb : Int} {sb : ByteArray} (h : Cp2 X p f mode ka na ea sa kb nb eb sb) (hb : Below X.heap.size X X') : Cp2 X' p f mode ka na ea sa kb nb eb sb := by
  have l3 := h.2.2.2.lt
  exact ⟨(hb.cell (p := ⟨p, 0, none⟩) (show p < X.heap.size by omega)).trans h.1, (hb.cell (p := ⟨p + 1, 0, none⟩) (show p + 1 < X.heap.size by omega)).trans h.2.1, h.2.2.1.next hb, h.2.2.2.next hb⟩
/-- The boxes of an operation on two numbers. -/
abbrev cp2W (w : World) (f mode : Int) (ka : Int) (na : Bool) (ea : Int) (sa : ByteArray) (kb : Int) (nb : Bool) (eb : Int) (sb : ByteArray) : World :=
  ((((w.alloc (.cells #[.int .i64 f] 2)).alloc (.cells #[.int .i64 mode] 2)).alloc (.cells #[.int .i64 ka, .bool na, .int .i64 ea, .string sa] 25)).alloc (.cells #[.int .i64 kb, .bool nb, .int .i64 eb, .string sb] 25)).alloc (.cells #[.int .i64 0, .bool false, .int .i64 0, .string { data := #[] }, .int .i64 0] 29)
theorem cp2_new (w : World) (f mode : Int) (ka : Int) (na : Bool) (ea : Int) (sa : ByteArray) (kb : Int) (nb : Bool) (eb : Int) (sb : ByteArray) :
    Cp2 (cp2W w f mode ka na ea sa kb nb eb sb) w.heap.size f mode ka na ea sa kb nb eb sb ∧ At5 (cp2W w f mode ka na ea sa kb nb eb sb) (w.heap.size + 4) (.int .i64 0) (.bool false) (.int .i64 0) (.string { data := #[] }) (.int .i64 0) ∧ Below w.heap.size w (cp2W w f mode ka na ea sa kb nb eb sb) ∧ (cp2W w f mode ka na ea sa kb nb eb sb).heap.size = w.heap.size + 5 := by
  unfold cp2W
  have c1 := new_cell1 w (.int .i64 f) 2
  have z1 := new_size w (.cells #[.int .i64 f] 2)
  have b1 : Below w.heap.size w (w.alloc (.cells #[.int .i64 f] 2)) := (Below.refl _ _).alloc (Nat.le_refl _) _
  generalize w.alloc (.cells #[.int .i64 f] 2) = w1 at *
  have c2 := new_cell1 w1 (.int .i64 mode) 2
  have z2 := new_size w1 (.cells #[.int .i64 mode] 2)
  have b2 : Below w1.heap.size w1 (w1.alloc (.cells #[.int .i64 mode] 2)) := (Below.refl _ _).alloc (Nat.le_refl _) _
  have c1' := (b2.cell (p := ⟨w.heap.size, 0, none⟩) (show w.heap.size < w1.heap.size by omega)).trans c1
  generalize w1.alloc (.cells #[.int .i64 mode] 2) = w2 at *
  have h3 := su_new w2 ka na ea sa kb nb eb sb
  have z3 : (suW w2 ka na ea sa kb nb eb sb).heap.size = w2.heap.size + 3 := by
    unfold suW
    rw [new_size, new_size, new_size]
  rw [z1] at c2
  have e2 : w2.heap.size = w.heap.size + 2 := by omega
  have hb2 : Below w.heap.size w w2 := b1.trans (b2.mono b1.size)
  have hb3 : Below w2.heap.size w2 (suW w2 ka na ea sa kb nb eb sb) := h3.2.2.2.1
  refine ⟨⟨(hb3.cell (p := ⟨w.heap.size, 0, none⟩) (show w.heap.size < w2.heap.size by omega)).trans c1', (hb3.cell (p := ⟨w.heap.size + 1, 0, none⟩) (show w.heap.size + 1 < w2.heap.size by omega)).trans c2, ?_, ?_⟩, ?_, hb2.trans (hb3.mono hb2.size), ?_⟩
  · have := h3.1; rw [e2] at this; exact this
  · have := h3.2.1; rw [e2] at this; exact this
  · have := h3.2.2.1; rw [e2] at this; exact this
  · show (suW w2 ka na ea sa kb nb eb sb).heap.size = _
    omega
theorem row2_new (W : World) (ka : Int) (na : Bool) (ea : Int) (sa : ByteArray) (kb : Int) (nb : Bool) (eb : Int) (sb : ByteArray) : NRw (W.alloc (.cells #[.int .i64 ka, .bool na, .int .i64 ea, .string sa, .int .i64 kb, .bool nb, .int .i64 eb, .string sb] 25)) W.heap.size 2 (tw2 ka kb) (tw2 na nb) (tw2 ea eb) (tw2 sa sb) ∧ W.heap.size < (W.alloc (.cells #[.int .i64 ka, .bool na, .int .i64 ea, .string sa, .int .i64 kb, .bool nb, .int .i64 eb, .string sb] 25)).heap.size :=
  ⟨nrw2 (heap_at W _), by rw [new_size]; omega⟩
/-- What roomIn gives: a closure over the number of a format's digits. -/
def RmV (b : Nat) : Value := .func (.func 112) #[] #[.pointer (some ⟨b, 0, none⟩)]
theorem roomIn_any (f : Int) (w : World) : Calls Tryz.prog 72 #[.int .i64 f] w fun x w' => ∃ b, x = .returned (RmV b) ∧ w'.cell? ⟨b, 0, none⟩ = some (.int .i64 (limP f)) ∧ w.heap.size ≤ b ∧ b < w'.heap.size ∧ Below w.heap.size w w' := by
  have hmf : ∀ (fn : Fn) (first cap : Array Value) (w : World), (Instr.makeFunc fn first cap).run Tryz.prog w = .ok (.func fn first cap) w := fun _ _ _ _ => rfl
  have HLm : Hid (∀ X, Calls Tryz.prog 111 #[.int .i64 f] X fun e w' => e = .returned (.tuple #[.int .i64 (limP f), .int .i64 (limL f), .int .i64 (limH f)]) ∧ Below X.heap.size X w') := fun X => iLimits_any f X
  generalize limL f = L0 at *
  generalize limH f = H0 at *
  generalize limP f = P at *
  go_enter Tryz.func72, Tryz.ntmps72
  go_wp2_with fail
  refine (HLm.out _).mono ?_
  rintro x w1 ⟨rfl, hb1⟩
  have HB1 : Hid (Below w.heap.size w w1) := hb1
  clear hb1 HLm
  go_wp2
  go_ret
  exact ⟨w1.heap.size, rfl, new_cell1 w1 _ _, HB1.out.size, by rw [new_size]; omega, HB1.out.alloc HB1.out.size _⟩
theorem room1_any (b : Nat) (P : Int) (s : ByteArray) (w : World) (hb : w.cell? ⟨b, 0, none⟩ = some (.int .i64 P)) (hP : 0 ≤ P ∧ P ≤ 34) (hs : s.size ≤ 600) :
    Calls Tryz.prog 112 #[.string s, .pointer (some ⟨b, 0, none⟩)] w fun x w' => x = .returned (.int .i64 (P - s.size)) ∧ w' = w := by
  have hw : IntKind.i64.wrap (P - (s.size : Int)) = P - s.size := by rw [IntKind.wrap_i64]; omega
  clear hP hs
  go_enter Tryz.func112, Tryz.ntmps112
  go_wp2
  go_ret
  exact ⟨rfl, rfl⟩
end Go.Proofs.YtcflomcankcggafGreatDoor
namespace Go.Proofs.YtcflomcankcggafGreatDoor
open Go.RowKit
set_option linter.unusedVariables false
set_option maxRecDepth 100000
/-- What Quantize tells of two right numbers that are no NaNs. -/
def qzX (f mode : Int) (ka : Int) (na : Bool) (ea : Int) (sa : ByteArray) (kb : Int) (eb : Int) : R5o :=
  if ka = 2 ∧ kb = 2 then (na, (2, 0, { data := #[] }, 0))
  else if ka = 2 ∨ kb = 2 then (false, (3, 0, { data := #[] }, 1))
  else if vl (dl sa) ≠ 0 ∧ limP f < (dl sa).length + (ea - eb) then (false, (3, 0, { data := #[] }, 1))
  else if eb ≤ ea then (na, (1, eb, tx (nt (vl (dl sa) * 10 ^ (ea - eb).toNat)), 0))
  else (na, (1, eb, tx (nt (drV mode na (vl (dl sa)) (eb - ea).toNat)), if drL (vl (dl sa)) (eb - ea).toNat then 16 else 0))
/-- What Quantize tells. -/
def qzR (f mode : Int) (ka : Int) (na : Bool) (ea : Int) (sa : ByteArray) (kb : Int) (nb : Bool) (eb : Int) (sb : ByteArray) : R5o := ofR f mode 2 (tw2 ka kb) (tw2 na nb) (tw2 ea eb) (tw2 sa sb) (qzX f mode ka na ea sa kb eb)
/-- A number with another exponent, where there is room. -/
theorem wx_told (mode : Int) (na : Bool) (v ea eb : Int) (n : Nat) (h0 : 0 ≤ v) (h1 : v < 10 ^ n) (hn : n ≤ 34) (hr : v ≠ 0 → n + (ea - eb) ≤ 34) :
    Nok (v * 10 ^ (plc (ea - eb)).toNat) ∧ (eb ≤ ea → rndV mode na (v * 10 ^ (plc (ea - eb)).toNat) (plc (eb - ea)).toNat false = v * 10 ^ (ea - eb).toNat ∧ rndL (v * 10 ^ (plc (ea - eb)).toNat) (plc (eb - ea)).toNat false = false)
      ∧ (¬ eb ≤ ea → rndV mode na (v * 10 ^ (plc (ea - eb)).toNat) (plc (eb - ea)).toNat false = drV mode na v (eb - ea).toNat ∧ rndL (v * 10 ^ (plc (ea - eb)).toNat) (plc (eb - ea)).toNat false = drL v (eb - ea).toNat) := by
  have r0 : ∀ x : Int, rndV mode na x 0 false = x ∧ rndL x 0 false = false := fun x => by
    have hm : x % 10 ^ 0 = 0 := by rw [Int.pow_zero]; exact Int.emod_one _
    have hL : rndL x 0 false = false := by unfold rndL; rw [hm]; rfl
    refine ⟨?_, hL⟩
    unfold rndV rndU
    rw [hL, Int.pow_zero, Int.ediv_one]
    simp [upB, halfI, upO]
  by_cases hz : v = 0
  · subst hz
    simp only [Int.zero_mul]
    refine ⟨nok_zero, fun h => ?_, fun h => ?_⟩
    · exact rnd_zero mode na _
    · have e2 : (plc (eb - ea)).toNat = min (eb - ea).toNat 200 := by unfold plc; omega
      rw [e2]; exact ⟨rfl, rfl⟩
  · have hr' := hr hz
    have e1 : (plc (ea - eb)).toNat = (ea - eb).toNat := by unfold plc; omega
    rw [e1]
    have hN : Nok (v * 10 ^ (ea - eb).toNat) := by
      refine ⟨Int.mul_nonneg h0 (Int.le_of_lt (ten_pos _)), ?_⟩
      have a := Int.mul_lt_mul_of_pos_right h1 (ten_pos (ea - eb).toNat)
      rw [← Int.pow_add] at a
      exact Int.lt_of_lt_of_le a (pow_mono _ _ (by omega))
    refine ⟨hN, fun h => ?_, fun h => ?_⟩
    · have e2 : (plc (eb - ea)).toNat = 0 := by unfold plc; omega
      rw [e2]; exact r0 _
    · have e2 : (plc (eb - ea)).toNat = min (eb - ea).toNat 200 := by unfold plc; omega
      have e3 : (ea - eb).toNat = 0 := by omega
      rw [e2, e3, Int.pow_zero, Int.mul_one]; exact ⟨rfl, rfl⟩
end Go.Proofs.YtcflomcankcggafGreatDoor
namespace Go.Proofs.YtcflomcankcggafGreatDoor
set_option linter.unusedVariables false
set_option maxRecDepth 100000
theorem rnd_exact (mode : Int) (neg : Bool) (v : Int) (k : Nat) (hmod : v % 10 ^ k = 0) : rndV mode neg v k false = v / 10 ^ k := by
  unfold rndV rndU
  have hU : upB mode neg (halfI (v % 10 ^ k) (10 ^ k) false k) (rndL v k false) (v / 10 ^ k) = false := by
    have hr : rndL v k false = false := by unfold rndL; rw [hmod]; rfl
    have hh : halfI (v % 10 ^ k) (10 ^ k) false k = -1 := by
      unfold halfI
      rw [hmod]
      by_cases c : k = 0
      · rw [if_pos c]
      · rw [if_neg c, if_pos (by have := ten_pos k; omega)]
    rw [hr, hh]
    unfold upB upO
    by_cases m1 : mode = 1
    · rw [if_pos m1]; rfl
    · rw [if_neg m1]
      by_cases m3 : mode = 3
      · rw [if_pos m3]; rfl
      · rw [if_neg m3]
        by_cases m4 : mode = 4
        · rw [if_pos m4]; rfl
        · rw [if_neg m4]
          by_cases m5 : mode = 5
          · rw [if_pos m5]; rfl
          · rw [if_neg m5]
  rw [hU]; simp
/-- Nothing lost: the value is divided without rest. -/
theorem dr_exact (mode : Int) (neg : Bool) (v : Int) (k : Nat) (h0 : 0 ≤ v) (h1 : v < 10 ^ 34) (h : drL v k = false) : drV mode neg v k * 10 ^ k = v := by
  unfold drL rndL at h
  have hm : v % 10 ^ (min k 200) = 0 := by simpa using h
  by_cases hk : k ≤ 200
  · rw [Nat.min_eq_left hk] at hm
    unfold drV
    rw [Nat.min_eq_left hk, rnd_exact mode neg v k hm]
    exact Int.ediv_mul_cancel (Int.dvd_of_emod_eq_zero hm)
  · rw [Nat.min_eq_right (by omega)] at hm
    have hp : (10 : Int) ^ 34 ≤ 10 ^ 200 := pow_mono _ _ (by decide)
    rw [Int.emod_eq_of_lt h0 (by omega)] at hm
    subst hm
    unfold drV
    rw [(rnd_zero mode neg _).1, Int.zero_mul]
section
variable (f mode : Int) (na : Bool) (ea : Int) (sa : ByteArray) (nb : Bool) (eb : Int) (sb : ByteArray)
theorem qz_num (hf : f = 64 ∨ f = 128) (n : Bool) (e : Int) (D : List Int) (cD : Canon D) (lD : (D.length : Int) ≤ limP f) (h1 : limL f ≤ e) (h2 : e ≤ limH f) : numB f 1 n e (tx D) = true := by
  have hp : limP f ≠ 0 := by rcases hf with rfl | rfl <;> decide
  unfold numB
  rw [if_neg hp, if_pos rfl, natB_tx (limP f) D cD lD]
  simp [h1, h2]
/-- Alike with the same sign, nought or not. -/
theorem alike_any (hf : f = 64 ∨ f = 128) (n : Bool) (e1 : Int) (d1 : List Int) (e2 : Int) (d2 : List Int) (h1 : numB f 1 n e1 (tx d1) = true) (h2 : numB f 1 n e2 (tx d2) = true) (c1 : Canon d1) (c2 : Canon d2) (h : SV (vl d1) e1 (vl d2) e2) : cpR f 1 n e1 (tx d1) 1 n e2 (tx d2) = 0 := by
  by_cases z2 : d2 = [0]
  · subst z2
    rw [show vl [0] = 0 from rfl] at h
    have z1 : d1 = [0] := by
      have := sv_zero_of h
      by_cases z : d1 = [0]
      · exact z
      · have := vl_pos d1 c1 z; omega
    subst z1
    unfold cpR
    rw [h1, h2, Bool.and_self, if_pos rfl, if_neg (by decide), nou_zero, Bool.and_self, if_pos rfl]
  · have z1 : d1 ≠ [0] := fun q => by
      subst q
      rw [show vl [0] = 0 from rfl] at h
      have := sv_zero_of h.symm
      have := vl_pos d2 c2 z2
      omega
    exact alike_fin f n e1 d1 e2 d2 h1 h2 c1 c2 z1 z2 h
/-- What Quantize tells of two finite numbers, where it tells one. -/
theorem qzX_fin (hA : numB f 1 na ea sa = true) (hB : numB f 1 nb eb sb = true) (R0 : Bool) (F2 : Int) (F3 : ByteArray) (F4 : Int) (h : qzX f mode 1 na ea sa 1 eb = (R0, (1, F2, F3, F4))) :
    R0 = na ∧ F2 = eb ∧ numB f 1 na eb F3 = true ∧ (F4 ≠ 0 ∨ cpR f 1 na eb F3 1 na ea sa = 0) ∧ qzX f mode 1 na eb F3 1 eb = (na, (1, eb, F3, 0)) := by
  obtain ⟨hf, ea1, -, ca⟩ := right_two f 1 na ea sa hA (by decide) (by decide)
  obtain ⟨-, eb1, -, cb⟩ := right_two f 1 nb eb sb hB (by decide) (by decide)
  obtain ⟨q1, l1, x1, y1⟩ := ca rfl
  obtain ⟨q2, l2, x2, y2⟩ := cb rfl
  have hL := lims f hf
  have hP : limP f = ((limP f).toNat : Int) ∧ 1 ≤ (limP f).toNat ∧ (limP f).toNat ≤ 34 := by rcases hf with rfl | rfl <;> decide
  have v0 : 0 ≤ vl (dl sa) := (vl_bd _ q1.1).1
  have v1 : vl (dl sa) < 10 ^ (limP f).toNat := Int.lt_of_lt_of_le (vl_bd _ q1.1).2 (pow_mono _ _ (by omega))
  have v34 : vl (dl sa) < 10 ^ 34 := Int.lt_of_lt_of_le v1 (pow_mono _ _ hP.2.2)
  -- the rest, for digits that are told
  have key : ∀ (D : List Int) (F : Int), Canon D → (D.length : Int) ≤ limP f → (F ≠ 0 ∨ SV (vl D) eb (vl (dl sa)) ea) → (na, ((1 : Int), eb, tx D, F)) = (R0, (1, F2, F3, F4)) → R0 = na ∧ F2 = eb ∧ numB f 1 na eb F3 = true ∧ (F4 ≠ 0 ∨ cpR f 1 na eb F3 1 na ea sa = 0) ∧ qzX f mode 1 na eb F3 1 eb = (na, (1, eb, F3, 0)) := fun D F cD lD hs hh => by
    obtain ⟨rfl, -, rfl, rfl, rfl⟩ : na = R0 ∧ (1 : Int) = 1 ∧ eb = F2 ∧ tx D = F3 ∧ F = F4 := by
      simpa only [Prod.mk.injEq] using hh
    have hN := qz_num f hf na eb D cD lD x2 y2
    refine ⟨rfl, rfl, hN, hs.imp id (fun h => ?_), ?_⟩
    · rw [ea1] at hA ⊢
      exact alike_any f hf na eb D ea (dl sa) hN hA cD q1 h
    · have ed : dl (tx D) = D := dl_tx D cD.1
      unfold qzX
      rw [if_neg (by decide), if_neg (by decide), ed, if_neg (by rintro ⟨-, h⟩; omega), if_pos (Int.le_refl _), show (eb - eb).toNat = 0 by omega, Int.pow_zero, Int.mul_one, nt_vl D cD (by omega)]
  unfold qzX at h
  rw [if_neg (by decide), if_neg (by decide)] at h
  by_cases h3 : vl (dl sa) ≠ 0 ∧ limP f < (dl sa).length + (ea - eb)
  · rw [if_pos h3] at h
    exact absurd (congrArg (fun t : Bool × Int × Int × ByteArray × Int => t.2.1) h) (show ¬ (3 : Int) = 1 by decide)
  · rw [if_neg h3] at h
    by_cases h4 : eb ≤ ea
    · rw [if_pos h4] at h
      have hb : vl (dl sa) * 10 ^ (ea - eb).toNat < 10 ^ (limP f).toNat := by
        by_cases hz : vl (dl sa) = 0
        · rw [hz, Int.zero_mul]; exact ten_pos _
        · have hlen : ((dl sa).length : Int) + (ea - eb) ≤ limP f := by
            rcases Int.lt_or_le (limP f) ((dl sa).length + (ea - eb)) with c | c
            · exact absurd ⟨hz, c⟩ h3
            · exact c
          have := Int.mul_lt_mul_of_pos_right (vl_bd _ q1.1).2 (ten_pos (ea - eb).toNat)
          rw [← Int.pow_add] at this
          exact Int.lt_of_lt_of_le this (pow_mono _ _ (by omega))
      have hn0 : 0 ≤ vl (dl sa) * 10 ^ (ea - eb).toNat := Int.mul_nonneg v0 (Int.le_of_lt (ten_pos _))
      obtain ⟨cN, vN⟩ := nt_spec _ hn0 (Int.lt_of_lt_of_le hb (pow_mono _ _ (by omega)))
      have lN := canon_le _ cN (limP f).toNat (by omega) (by rw [vN]; exact hb)
      refine key _ _ cN (by omega) (.inr ?_) h
      rw [vN]
      exact .inl ⟨h4, rfl⟩
    · rw [if_neg h4] at h
      obtain ⟨lN, cN⟩ := drV_len mode na (vl (dl sa)) (eb - ea).toNat (limP f).toNat v0 v1 (by omega) (by omega) (by omega)
      refine key _ _ cN (by omega) ?_ h
      cases hl : drL (vl (dl sa)) (eb - ea).toNat with
      | true => exact .inl (by decide)
      | false =>
        right
        have hx := dr_exact mode na (vl (dl sa)) (eb - ea).toNat v0 v34 hl
        obtain ⟨d0, d1⟩ := drV_bd mode na (vl (dl sa)) (eb - ea).toNat (limP f).toNat v0 v1 (by omega) (by omega)
        have hvN : vl (nt (drV mode na (vl (dl sa)) (eb - ea).toNat)) = drV mode na (vl (dl sa)) (eb - ea).toNat := (nt_spec _ d0 (Int.lt_of_le_of_lt d1 (Int.lt_of_lt_of_le (Int.lt_of_lt_of_le (show (10 : Int) ^ ((limP f).toNat - 1) < 10 ^ ((limP f).toNat - 1) * 10 by have := ten_pos ((limP f).toNat - 1); omega) (Int.le_of_eq (Int.pow_succ 10 _).symm)) (pow_mono _ _ (by omega))))).2
        rw [hvN]
        exact .inr ⟨by omega, hx.symm⟩
end
end Go.Proofs.YtcflomcankcggafGreatDoor
namespace Go.Proofs.YtcflomcankcggafGreatDoor
open Go.RowKit
set_option linter.unusedVariables false
set_option maxRecDepth 100000
/-- How many noughts stand behind the dividend. -/
def dvK (f : Int) (la lb : Nat) : Nat := (limP f - la + lb + 1).toNat
/-- What Div tells of two right numbers that are no NaNs. -/
def dvX (f mode : Int) (ka : Int) (na : Bool) (ea : Int) (sa : ByteArray) (kb : Int) (nb : Bool) (eb : Int) (sb : ByteArray) : R5o :=
  if (ka = 2 ∧ kb = 2) ∨ (zB ka sa = true ∧ zB kb sb = true) then (false, (3, 0, { data := #[] }, 1))
  else if ka = 2 then (!(na == nb), (2, 0, { data := #[] }, 0))
  else if kb = 2 then (!(na == nb), (1, limL f, { data := #[48] }, 0))
  else if zB kb sb = true then (!(na == nb), (2, 0, { data := #[] }, 2))
  else (!(na == nb), finD f mode (!(na == nb)) (nt (vl (dl sa) * 10 ^ dvK f (dl sa).length (dl sb).length / vl (dl sb))) (ea - eb - dvK f (dl sa).length (dl sb).length) (!decide (vl (dl sa) * 10 ^ dvK f (dl sa).length (dl sb).length % vl (dl sb) = 0)) (ea - eb))
/-- What Div tells. -/
def dvR (f mode : Int) (ka : Int) (na : Bool) (ea : Int) (sa : ByteArray) (kb : Int) (nb : Bool) (eb : Int) (sb : ByteArray) : R5o := ofR f mode 2 (tw2 ka kb) (tw2 na nb) (tw2 ea eb) (tw2 sa sb) (dvX f mode ka na ea sa kb nb eb sb)
theorem len_lo (R : List Int) (h : Canon R) (m : Nat) (h0 : 10 ^ m ≤ vl R) : m < R.length := by
  rcases Nat.lt_or_ge m R.length with c | c
  · exact c
  · have b := (vl_bd R h.1).2
    have d := pow_mono R.length m c
    omega
/-- The quotient's digits: all that the format has, and one more at the least. -/
theorem dv_size (f : Int) (hf : f = 64 ∨ f = 128) (da db : List Int) (ca : Canon da) (cb : Canon db) (la : (da.length : Int) ≤ limP f) (lb : (db.length : Int) ≤ limP f) (hb : vl db ≠ 0) :
    Nok (vl da * 10 ^ dvK f da.length db.length) ∧ Nok (vl da * 10 ^ dvK f da.length db.length / vl db) ∧ Nok (vl da * 10 ^ dvK f da.length db.length % vl db) ∧ (vl da ≠ 0 → 10 ^ (limP f).toNat ≤ vl da * 10 ^ dvK f da.length db.length / vl db) ∧ vl da * 10 ^ dvK f da.length db.length / vl db < 10 ^ 70 := by
  have hP : 1 ≤ limP f ∧ limP f ≤ 34 := by rcases hf with rfl | rfl <;> decide
  have a := vl_bd da ca.1
  have b := vl_bd db cb.1
  have pa := ca.2.1
  have pb := cb.2.1
  obtain ⟨k, hk⟩ : ∃ k, dvK f da.length db.length = k := ⟨_, rfl⟩
  have hk2 : (da.length : Int) + k = limP f + db.length + 1 := by rw [← hk]; unfold dvK; omega
  rw [hk]
  have h1 : vl da * 10 ^ k < 10 ^ 70 := by
    have := Int.mul_lt_mul_of_pos_right a.2 (ten_pos k)
    rw [← Int.pow_add] at this
    exact Int.lt_of_lt_of_le this (pow_mono _ _ (by omega))
  have h0 : 0 ≤ vl da * 10 ^ k := Int.mul_nonneg a.1 (Int.le_of_lt (ten_pos k))
  have hbp : 0 < vl db := by have := b.1; omega
  have hq0 := Int.ediv_nonneg h0 (Int.le_of_lt hbp)
  have hq1 := Int.ediv_le_self (vl db) h0
  have hr0 := Int.emod_nonneg (vl da * 10 ^ k) hb
  have hr1 := Int.emod_lt_of_pos (vl da * 10 ^ k) hbp
  have p7 := pow_mono 70 200 (by decide)
  have p3 : vl db < 10 ^ 200 := Int.lt_of_lt_of_le b.2 (pow_mono _ _ (by omega))
  refine ⟨⟨h0, by omega⟩, ⟨hq0, by omega⟩, ⟨hr0, by omega⟩, fun hz => ?_, by omega⟩
  refine Int.le_ediv_of_mul_le hbp ?_
  have hlo := canon_lo da ca (fun c => hz (by rw [c]; rfl))
  have h2 := Int.mul_le_mul_of_nonneg_right hlo (Int.le_of_lt (ten_pos k))
  rw [← Int.pow_add] at h2
  have h3 : (10 : Int) ^ (limP f).toNat * vl db ≤ 10 ^ (limP f).toNat * 10 ^ db.length := Int.mul_le_mul_of_nonneg_left (by omega) (Int.le_of_lt (ten_pos _))
  rw [← Int.pow_add] at h3
  rw [show da.length - 1 + k = (limP f).toNat + db.length by omega] at h2
  omega
/-- A quotient with more digits, and what is left. -/
theorem dv_more (M b : Int) (hb : 0 < b) : M * 100 / b = M / b * 100 + M % b * 100 / b ∧ M * 100 % b = M % b * 100 % b ∧ 0 ≤ M % b * 100 / b ∧ M % b * 100 / b < 100 := by
  have e := Int.mul_ediv_add_emod M b
  have r0 := Int.emod_nonneg M (Int.ne_of_gt hb)
  have r1 := Int.emod_lt_of_pos M hb
  have h : M * 100 = M % b * 100 + b * (M / b * 100) := by
    have h2 := congrArg (· * 100) e
    simp only [Int.add_mul] at h2
    rw [← h2, Int.mul_assoc]
    omega
  refine ⟨?_, ?_, Int.ediv_nonneg (by omega) (Int.le_of_lt hb), Int.ediv_lt_of_lt_mul hb (by omega)⟩
  · rw [h, Int.add_mul_ediv_left _ _ (Int.ne_of_gt hb)]; omega
  · rw [h, Int.add_mul_emod_self_left]
/-- Two digits more give the same. -/
theorem dv_same (f mode : Int) (hf : f = 64 ∨ f = 128) (neg : Bool) (da db : List Int) (ca : Canon da) (cb : Canon db) (la : (da.length : Int) ≤ limP f) (lb : (db.length : Int) ≤ limP f) (hb : vl db ≠ 0) (ha : vl da ≠ 0) (want : Int) :
    finD f mode neg (nt (vl da * 10 ^ (dvK f da.length db.length + 2) / vl db)) (want - ((dvK f da.length db.length + 2 : Nat) : Int)) (!decide (vl da * 10 ^ (dvK f da.length db.length + 2) % vl db = 0)) want
      = finD f mode neg (nt (vl da * 10 ^ dvK f da.length db.length / vl db)) (want - dvK f da.length db.length) (!decide (vl da * 10 ^ dvK f da.length db.length % vl db = 0)) want
    ∧ Nok (vl da * 10 ^ (dvK f da.length db.length + 2)) ∧ Nok (vl da * 10 ^ (dvK f da.length db.length + 2) / vl db) ∧ Nok (vl da * 10 ^ (dvK f da.length db.length + 2) % vl db) := by
  have hP : 1 ≤ limP f ∧ limP f ≤ 34 := by rcases hf with rfl | rfl <;> decide
  obtain ⟨n1, n2, n3, hlo, hhi⟩ := dv_size f hf da db ca cb la lb hb
  have b := vl_bd db cb.1
  have hbp : 0 < vl db := by have := b.1; omega
  have pa := ca.2.1
  have pb := cb.2.1
  have a := vl_bd da ca.1
  obtain ⟨k, hk⟩ : ∃ k, dvK f da.length db.length = k := ⟨_, rfl⟩
  have hk2 : (da.length : Int) + k = limP f + db.length + 1 := by rw [← hk]; unfold dvK; omega
  rw [hk] at n1 n2 n3 hlo hhi ⊢
  obtain ⟨M, hM⟩ : ∃ M, vl da * 10 ^ k = M := ⟨_, rfl⟩
  have hM2 : vl da * 10 ^ (k + 2) = M * 100 := by
    rw [Int.pow_add, ← Int.mul_assoc, hM]; rfl
  rw [hM] at n1 n2 n3 hlo hhi ⊢
  rw [hM2]
  obtain ⟨d1, d2, d3, d4⟩ := dv_more M (vl db) hbp
  have hM7 : M < 10 ^ 70 := by
    have := Int.mul_lt_mul_of_pos_right a.2 (ten_pos k)
    rw [← Int.pow_add, hM] at this
    exact Int.lt_of_lt_of_le this (pow_mono _ _ (by omega))
  have p7 : (10 : Int) ^ 72 = 10 ^ 70 * 100 := Int.pow_add 10 70 2
  have p2 := pow_mono 72 200 (by decide)
  have m0 := n1.1
  have N1 : Nok (M * 100) := ⟨by omega, by omega⟩
  have N2 : Nok (M * 100 / vl db) := N1.le (Int.ediv_nonneg (by omega) (Int.le_of_lt hbp)) (Int.ediv_le_self _ (by omega))
  have N3 : Nok (M * 100 % vl db) := by
    have r1 := Int.emod_lt_of_pos (M * 100) hbp
    have p3 : vl db < 10 ^ 200 := Int.lt_of_lt_of_le b.2 (pow_mono _ _ (by omega))
    exact ⟨Int.emod_nonneg _ hb, by omega⟩
  refine ⟨?_, N1, N2, N3⟩
  have hq := hlo ha
  have hq1 : 1 ≤ M / vl db := Int.le_trans (by have := ten_pos (limP f).toNat; omega) hq
  obtain ⟨c1, v1⟩ := nok_spec n2
  obtain ⟨c2, v2⟩ := nok_spec N2
  have z1 : nt (M / vl db) ≠ [0] := fun c => by rw [c] at v1; have : vl [0] = 0 := rfl; omega
  have z2 : nt (M * 100 / vl db) ≠ [0] := fun c => by rw [c] at v2; have : vl [0] = 0 := rfl; omega
  have l1 := len_lo _ c1 (limP f).toNat (by rw [v1]; exact hq)
  have l2 := canon_le _ c1 70 (by decide) (by rw [v1]; exact hhi)
  have hfin := finN_scale (limP f).toNat (by omega) (limL f) (limH f) mode neg (nt (M / vl db)) (nt (M * 100 / vl db)) (want - k) (!decide (M % vl db = 0)) (!decide (M * 100 % vl db = 0)) want 2 (M % vl db * 100 / vl db) c1 z1 c2 (by rw [v1, v2, d1]; rfl) d3 (by exact d4)
    (fun h => by
      have hr : M % vl db ≠ 0 := by simpa using h
      by_cases c : M % vl db * 100 / vl db = 0
      · refine .inr ?_
        rw [d2]
        have r0 := Int.emod_nonneg M hb
        have e := Int.mul_ediv_add_emod (M % vl db * 100) (vl db)
        rw [c, Int.mul_zero, Int.zero_add] at e
        rw [e]
        simp
        omega
      · exact .inl c)
    (fun h => by
      have hr : M % vl db = 0 := by simpa using h
      refine ⟨by rw [hr, Int.zero_mul, Int.zero_ediv], ?_⟩
      rw [d2, hr, Int.zero_mul, Int.zero_emod]
      rfl) (by omega) (by omega)
  unfold finD
  rw [if_neg z1, if_neg z2, hfin, show want - (k : Int) - ((2 : Nat) : Int) = want - ((k + 2 : Nat) : Int) by omega]
end Go.Proofs.YtcflomcankcggafGreatDoor
namespace Go.Proofs.YtcflomcankcggafGreatDoor
set_option linter.unusedVariables false
set_option maxRecDepth 100000
theorem mulR_fin (f mode : Int) (hmo : 1 ≤ mode ∧ mode ≤ 5) (na : Bool) (ea : Int) (sa : ByteArray) (nb : Bool) (eb : Int) (sb : ByteArray) (hA : numB f 1 na ea sa = true) (hB : numB f 1 nb eb sb = true) : mulR f mode 1 na ea sa 1 nb eb sb = (!(na == nb), finD f mode (!(na == nb)) (nt (vl (dl sa) * vl (dl sb))) (ea + eb) false (ea + eb)) := by
  have hO : addO f mode 1 na ea sa 1 nb eb sb = true := by
    unfold addO
    rw [hA, hB, decide_eq_true hmo]
    rfl
  have hS : spB 2 (tw2 1 1) = false := decide_eq_false (by
    rintro ⟨i, hi, h⟩
    match i, hi with
    | 0, _ => rcases h with h | h <;> cases h
    | 1, _ => rcases h with h | h <;> cases h)
  unfold mulR mulX
  rw [hO, if_pos rfl, hS, if_neg (by decide), if_pos ⟨rfl, rfl⟩]
/-- A quotient without a flag, times the divisor: as much as the dividend. -/
theorem div_back (f mode : Int) (hmo : 1 ≤ mode ∧ mode ≤ 5) (na : Bool) (ea : Int) (sa : ByteArray) (nb : Bool) (eb : Int) (sb : ByteArray) (hA : numB f 1 na ea sa = true) (hB : numB f 1 nb eb sb = true) (R0 : Bool) (F2 : Int) (F3 : ByteArray)
    (h : dvX f mode 1 na ea sa 1 nb eb sb = (R0, (1, F2, F3, 0))) (hR : numB f 1 R0 F2 F3 = true) :
    cpR f (mulR f mode 1 R0 F2 F3 1 nb eb sb).2.1 (mulR f mode 1 R0 F2 F3 1 nb eb sb).1 (mulR f mode 1 R0 F2 F3 1 nb eb sb).2.2.1 (mulR f mode 1 R0 F2 F3 1 nb eb sb).2.2.2.1 1 na ea sa = 0 := by
  obtain ⟨hf, ea1, -, ca⟩ := right_two f 1 na ea sa hA (by decide) (by decide)
  obtain ⟨-, eb1, -, cb⟩ := right_two f 1 nb eb sb hB (by decide) (by decide)
  obtain ⟨-, er1, -, cr⟩ := right_two f 1 R0 F2 F3 hR (by decide) (by decide)
  obtain ⟨q1, l1, x1, y1⟩ := ca rfl
  obtain ⟨q2, l2, x2, y2⟩ := cb rfl
  obtain ⟨q3, l3, x3, y3⟩ := cr rfl
  have hL := lims f hf
  have hP : limP f = ((limP f).toNat : Int) ∧ 1 ≤ (limP f).toNat ∧ (limP f).toNat ≤ 34 := by rcases hf with rfl | rfl <;> decide
  have hO : addO f mode 1 R0 F2 F3 1 nb eb sb = true := by
    unfold addO
    rw [hR, hB, decide_eq_true hmo]
    rfl
  have hMR := mulR_right f mode 1 R0 F2 F3 1 nb eb sb hO
  rw [mulR_fin f mode hmo R0 F2 F3 nb eb sb hR hB] at hMR ⊢
  dsimp only at hMR ⊢
  unfold dvX at h
  by_cases hbz : vl (dl sb) = 0
  · exfalso
    have hzb : zB 1 sb = true := by unfold zB; simp [hbz]
    by_cases h1 : ((1 : Int) = 2 ∧ (1 : Int) = 2) ∨ (zB 1 sa = true ∧ zB 1 sb = true)
    · rw [if_pos h1] at h
      exact absurd (congrArg (fun t : Bool × Int × Int × ByteArray × Int => t.2.1) h) (show ¬ (3 : Int) = 1 by decide)
    · rw [if_neg h1, if_neg (by decide), if_neg (by decide), if_pos hzb] at h
      exact absurd (congrArg (fun t : Bool × Int × Int × ByteArray × Int => t.2.1) h) (show ¬ (2 : Int) = 1 by decide)
  · have hzb : zB 1 sb = false := by unfold zB; simp [hbz]
    rw [hzb, if_neg (by rintro (⟨h, -⟩ | ⟨-, h⟩); · exact absurd h (by decide)
                        · cases h), if_neg (by decide), if_neg (by decide), if_neg (by decide)] at h
    obtain ⟨nk1, nk2, nk3, hbig, hsm⟩ := dv_size f hf (dl sa) (dl sb) q1 q2 l1 l2 hbz
    obtain ⟨K, hK⟩ : ∃ K, dvK f (dl sa).length (dl sb).length = K := ⟨_, rfl⟩
    rw [hK] at h nk1 nk2 nk3 hbig hsm
    have hR0 : (!(na == nb)) = R0 := congrArg Prod.fst h
    have h2 := congrArg Prod.snd h
    dsimp only at h2
    have vb : 1 ≤ vl (dl sb) := by have := (vl_bd _ q2.1).1; omega
    have sg : (!(R0 == nb)) = na := by rw [← hR0]; cases na <;> cases nb <;> rfl
    rw [sg] at hMR ⊢
    by_cases haz : vl (dl sa) = 0
    · -- nought
      have hza : dl sa = [0] := by
        by_cases z : dl sa = [0]
        · exact z
        · have := vl_pos _ q1 z; omega
      rw [haz, Int.zero_mul, Int.zero_ediv, nt_0] at h2
      obtain ⟨-, hF3, -⟩ := finD_zero _ _ _ _ _ _ _ _ _ _ h2
      have e3 : dl F3 = [0] := by rw [hF3]; exact dl_tx [0] canon_zero.1
      rw [e3, show vl [0] = 0 from rfl, Int.zero_mul, nt_0] at hMR ⊢
      obtain ⟨E, hE⟩ := finD_zero' f mode na (F2 + eb) false (F2 + eb)
      rw [hE] at hMR ⊢
      dsimp only at hMR ⊢
      unfold cpR
      rw [hMR, hA, Bool.and_self, if_pos rfl, if_neg (by decide), nou_zero, ea1, hza, nou_zero, Bool.and_self, if_pos rfl]
    · have hza : dl sa ≠ [0] := fun z => haz (by rw [z]; rfl)
      have hq1 := hbig haz
      have hpp := ten_pos (limP f).toNat
      obtain ⟨cQ, vQ⟩ := nt_spec _ nk2.1 (Int.lt_of_lt_of_le hsm (pow_mono _ _ (by decide)))
      have lQ : (nt (vl (dl sa) * 10 ^ K / vl (dl sb))).length ≤ 200 := by
        have := canon_le _ cQ 70 (by decide) (by rw [vQ]; exact hsm)
        omega
      have zQ : nt (vl (dl sa) * 10 ^ K / vl (dl sb)) ≠ [0] := fun z => by
        have : vl (nt (vl (dl sa) * 10 ^ K / vl (dl sb))) = 0 := by rw [z]; rfl
        omega
      rw [finD_ne _ _ _ _ _ _ _ zQ] at h2
      obtain ⟨-, hrest, D, hS, dD, hsv⟩ := finN_flag0 _ hP.2.1 _ _ _ _ _ _ _ _ cQ zQ lQ _ _ _ h2
      have hmod : vl (dl sa) * 10 ^ K % vl (dl sb) = 0 := by simpa using hrest
      have hd : vl (dl sa) * 10 ^ K / vl (dl sb) * vl (dl sb) = vl (dl sa) * 10 ^ K := Int.ediv_mul_cancel (Int.dvd_of_emod_eq_zero hmod)
      have e3 : dl F3 = D := by rw [hS]; exact dl_tx D dD
      rw [vQ] at hsv
      -- the product's value
      have hpv : SV (vl (dl F3) * vl (dl sb)) (F2 + eb) (vl (dl sa)) ea := by
        have s1 : SV (vl (dl F3) * vl (dl sb)) (F2 + eb) (vl (dl sa) * 10 ^ K) (ea - eb - K + eb) := by
          rw [e3, ← hd]
          rcases hsv with ⟨c, hv⟩ | ⟨c, hv⟩
          · refine .inl ⟨by omega, ?_⟩
            rw [hv, Int.mul_assoc, Int.mul_comm _ (vl (dl sb)), ← Int.mul_assoc, show (ea - eb - (K : Int) + eb - (F2 + eb)).toNat = (ea - eb - (K : Int) - F2).toNat by omega]
          · refine .inr ⟨by omega, ?_⟩
            rw [hv, Int.mul_assoc, Int.mul_comm _ (vl (dl sb)), ← Int.mul_assoc, show (F2 + eb - (ea - eb - (K : Int) + eb)).toNat = (F2 - (ea - eb - (K : Int))).toNat by omega]
        have s2 := sv_shift (vl (dl sa)) (ea - eb - K + eb) K
        rw [show ea - eb - (K : Int) + eb + K = ea by omega] at s2
        exact s1.trans s2
      have z3 : dl F3 ≠ [0] := fun z => by
        rw [z, show vl [0] = 0 from rfl, Int.zero_mul] at hpv
        have := sv_zero_of hpv.symm
        omega
      obtain ⟨nk, -⟩ := mul_bd (dl F3) (dl sb) q3 q2 (by omega) (by omega)
      have hm0 : vl (dl F3) * vl (dl sb) ≠ 0 := fun z => by
        rw [z] at hpv
        have := sv_zero_of hpv.symm
        omega
      obtain ⟨cM, vM⟩ := nok_spec nk
      have zM := nok_ne0 nk hm0
      obtain ⟨D', E, hs, cD, hD, -⟩ := finN_exact f hf mode na _ (F2 + eb) (F2 + eb) cM zM (nok_len nk) (dl sa) ea q1 hza (by omega) x1 y1 (by rw [vM]; exact hpv)
      rw [finD_ne _ _ _ _ _ _ _ zM, hs] at hMR ⊢
      dsimp only at hMR ⊢
      rw [vM] at hD
      rw [ea1] at hA ⊢
      exact alike_any f hf na E D' ea (dl sa) hMR hA cD q1 (hD.trans hpv)
end Go.Proofs.YtcflomcankcggafGreatDoor
namespace Go.Proofs.YtcflomcankcggafGreatDoor
set_option linter.unusedVariables false
set_option maxRecDepth 100000
theorem finD_noughts (f : Int) (hf : f = 64 ∨ f = 128) (mode : Int) (neg : Bool) (ds : List Int) (e : Int) (K : Nat) (hc : Canon ds) (hz : ds ≠ [0]) (hl : (ds.length : Int) ≤ limP f) (h0 : limL f ≤ e) (h1 : e ≤ limH f) (hK : K ≤ 100) : finD f mode neg (nt (vl ds * 10 ^ K)) (e - K) false e = (1, e, tx ds, 0) := by
  have hp : limP f ≤ 34 := (lims f hf).1
  have n1 := hc.2.1
  have cN : ∀ k : Nat, Canon (ds ++ List.replicate k 0) := fun k => canon_noughts ds k hc hz
  have eN : ∀ k : Nat, k ≤ 100 → nt (vl ds * 10 ^ k) = ds ++ List.replicate k 0 := fun k hk => (nt_of _ _ (cN k) (vl_noughts ds k) (by simp; omega)).symm
  have v1 := vl_pos ds hc hz
  have zN : nt (vl ds * 10 ^ K) ≠ [0] := fun q => by
    rw [eN K hK] at q
    have := congrArg vl q
    rw [vl_noughts, show vl [0] = 0 from rfl] at this
    have := Int.mul_pos (show 0 < vl ds by omega) (ten_pos K)
    omega
  rw [finD_ne _ _ _ _ _ _ _ zN, eN K hK]
  have hj : finJ (limP f).toNat (ds ++ List.replicate K 0).length false = 0 := rfl
  have hlen : (ds ++ List.replicate K (0 : Int)).length = ds.length + K := by simp
  obtain ⟨dr, hdr⟩ : ∃ dr, finDr (limP f).toNat (ds.length + K) (limL f) (e - K) = dr := ⟨_, rfl⟩
  have hdK : dr ≤ K ∧ (ds.length : Int) + K - dr ≤ limP f := by rw [← hdr]; unfold finDr; omega
  obtain ⟨j, hjK⟩ : ∃ j, K = j + dr := ⟨K - dr, by omega⟩
  have hmod : vl ds * 10 ^ K % 10 ^ dr = 0 := by rw [hjK, Int.pow_add, ← Int.mul_assoc]; exact Int.mul_emod_left _ _
  have hdiv : vl ds * 10 ^ K / 10 ^ dr = vl ds * 10 ^ j := by rw [hjK, Int.pow_add, ← Int.mul_assoc]; exact Int.mul_ediv_cancel _ (Int.ne_of_gt (ten_pos dr))
  have hV : finV mode neg (vl ds * 10 ^ K) dr false = vl ds * 10 ^ j := by
    unfold finV
    rw [if_neg (by omega), rnd_exact mode neg _ dr hmod, hdiv]
  have hL : finLs (vl ds * 10 ^ K) dr false = false := by
    unfold finLs
    rw [if_neg (by omega)]
    unfold rndL; rw [hmod]; rfl
  unfold finN
  simp only [hj, Nat.add_zero, Int.pow_zero, Int.mul_one]
  have e0 : e - (K : Int) - ((0 : Nat) : Int) = e - K := by omega
  rw [e0, vl_noughts, hlen, hdr, hV, hL, eN j (by omega)]
  obtain ⟨D, hD⟩ : ∃ D, ds ++ List.replicate j (0 : Int) = D := ⟨_, rfl⟩
  have lD : D.length = ds.length + j := by rw [← hD]; simp
  rw [hD]
  have hT : finT (limP f).toNat D = D := by unfold finT; rw [if_neg (by omega)]
  have hTE : finTE (limP f).toNat D (e - (K : Int) + (dr : Int)) = e - j := by unfold finTE; rw [if_neg (by omega)]; omega
  have htz : j ≤ tz D := by
    rcases Nat.lt_or_ge (tz D) j with c | c
    · exfalso
      rcases tz_stop D (by omega) with q | q
      · omega
      · apply q
        rw [show D.length - 1 - tz D = ds.length + (j - 1 - tz D) by omega]
        generalize tz D = t at *
        rw [← hD, List.getD, List.getElem?_append_right (by omega), List.getElem?_replicate_of_lt (by omega)]
        rfl
    · exact c
  have hA : fA D (e - j) e (limH f) = j := by unfold fA; omega
  have hB : fB (D.length - j) (limP f).toNat (e - (j : Int) + (j : Int)) e (limL f) = 0 := by unfold fB; omega
  have h3D : fin3D false D (e - j) e (limL f) (limH f) (limP f).toNat = ds := by
    unfold fin3D
    rw [hA, hB, if_neg (by decide), lD, ← hD]
    simp
  have h3E : fin3E false D (e - j) e (limL f) (limH f) (limP f).toNat = e := by unfold fin3E; rw [hA, hB, if_neg (by decide)]; omega
  rw [hT, hTE, h3D, h3E]
  have hC : fC ds.length (limP f).toNat e (limH f) = 0 := by unfold fC; omega
  unfold fin5
  have h4E : fin4E ds e (limH f) (limP f).toNat = e := by unfold fin4E; rw [hC]; omega
  have h4D : fin4D ds e (limH f) (limP f).toNat = ds := by unfold fin4D; rw [hC]; simp
  rw [h4E, h4D, if_pos h1]
  rfl
/-- A number by one is itself. -/
theorem div_one (f mode : Int) (na : Bool) (ea : Int) (sa : ByteArray) (hA : numB f 1 na ea sa = true) : dvX f mode 1 na ea sa 1 false 0 { data := #[49] } = (na, (1, ea, sa, 0)) := by
  obtain ⟨hf, ea1, -, ca⟩ := right_two f 1 na ea sa hA (by decide) (by decide)
  obtain ⟨q1, l1, x1, y1⟩ := ca rfl
  have hL := lims f hf
  have d1 : dl { data := #[49] } = [1] := by rfl
  have v1 : vl [1] = 1 := by rfl
  have sg : (!(na == false)) = na := by cases na <;> rfl
  have hzb : zB 1 { data := #[49] } = false := by unfold zB; rw [d1, v1]; rfl
  unfold dvX
  rw [hzb, if_neg (by rintro (⟨h, -⟩ | ⟨-, h⟩); · exact absurd h (by decide)
                      · cases h), if_neg (by decide), if_neg (by decide), if_neg (by decide), sg, d1, v1, Int.ediv_one, Int.emod_one, Int.sub_zero]
  have hk : dvK f (dl sa).length [1].length ≤ 100 := by unfold dvK; simp; omega
  generalize dvK f (dl sa).length [1].length = K at *
  rw [show (!decide ((0 : Int) = 0)) = false from rfl]
  by_cases hz : dl sa = [0]
  · rw [hz, show vl [0] = 0 from rfl, Int.zero_mul, nt_0]
    unfold finD
    rw [if_pos rfl, show min (limH f) (max (limL f) ea) = ea by omega, ea1, hz, show tx [0] = { data := #[48] } by apply ByteArray.ext; rw [tx_data]; rfl]
  · rw [finD_noughts f hf mode na (dl sa) ea K q1 hz l1 x1 y1 hk, ← ea1]
end Go.Proofs.YtcflomcankcggafGreatDoor
