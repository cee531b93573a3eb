/-
  Plain facts on order: what is told turned around; noughts; numbers that are right.
-/
import Derived.Test.YtmndemegiimagasGreatDoorOrp
import Derived.Test.YtmndemegiimagasGreatDoorOrb
import Derived.Test.YtmndemegiimagasGreatDoorOrn
import Derived.Test.YtmndemegiimagasGreatDoorNtM
namespace Go.Proofs.YtmndemegiimagasGreatDoor
open Go.RowKit
set_option linter.unusedVariables false
set_option maxRecDepth 100000
theorem cI_turn (x y : Int) : cI y x = -cI x y := by
  unfold cI
  by_cases h1 : x < y
  · rw [if_pos h1, if_neg (by omega), if_pos h1]; rfl
  · rw [if_neg h1]
    by_cases h2 : y < x
    · rw [if_pos h2, if_neg h1, if_pos h2]
    · rw [if_neg h2, if_neg h1, if_neg h2]; rfl
theorem orI_turn (x y x' y' : Int) (hx : x' = -x) (hy : y' = -y) : orI x' y' = -orI x y := by
  unfold orI
  subst hx hy
  by_cases h : x = 0
  · rw [if_pos h, if_pos (by omega)]
  · rw [if_neg h, if_neg (by omega)]
theorem cmpB_turn (a b : List UInt8) : Lib.compareBytes b a = -Lib.compareBytes a b := by
  induction a generalizing b with
  | nil => cases b <;> rfl
  | cons x r ih =>
    cases b with
    | nil => rfl
    | cons y s =>
      show (if y < x then (-1 : Int) else if x < y then 1 else Lib.compareBytes s r) = -(if x < y then (-1 : Int) else if y < x then 1 else Lib.compareBytes r s)
      by_cases h1 : x < y
      · have h2 : ¬ y < x := by rw [UInt8.lt_iff_toNat_lt] at h1 ⊢; omega
        rw [if_neg h2, if_pos h1, if_pos h1]; rfl
      · rw [if_neg h1, if_neg h1]
        by_cases h2 : y < x
        · rw [if_pos h2, if_pos h2]
        · rw [if_neg h2, if_neg h2]; exact ih s
theorem cszI_turn (ka ea : Int) (sa : ByteArray) (kb eb : Int) (sb : ByteArray) : cszI kb eb sb ka ea sa = -cszI ka ea sa kb eb sb := orI_turn _ _ _ _ (cI_turn _ _) (cmpB_turn _ _)
theorem cmpU_turn (x : Bool) (ka ea : Int) (sa : ByteArray) (kb eb : Int) (sb : ByteArray) : cmpU x kb eb sb ka ea sa = -cmpU x ka ea sa kb eb sb := by
  unfold cmpU
  cases x
  · exact orI_turn _ _ _ _ (cI_turn _ _) (cszI_turn _ _ _ _ _ _)
  · exact orI_turn _ _ _ _ (orI_turn _ _ _ _ (cI_turn _ _) (cszI_turn _ _ _ _ _ _)) (cI_turn _ _)
theorem nou_spec (k : Int) (s : ByteArray) (h : nouB k s = true) : k = 1 ∧ s = { data := #[48] } := by
  unfold nouB at h
  simp only [Bool.and_eq_true, beq_iff_eq] at h
  refine ⟨h.1, ?_⟩
  have h2 := h.2
  rw [ByteArray.toList_eq] at h2
  apply ByteArray.ext
  show s.data = #[48]
  rw [← Array.toArray_toList (xs := s.data), h2]
theorem trS_0 : (trS { data := #[48] }).data.toList = [] := by
  show Lib.trimRightB [48] 48 = []
  rfl
theorem trS_e : (trS { data := #[] }).data.toList = [] := rfl
theorem fpl_yes (k e : Int) (s : ByteArray) (h : nouB k s = true) : fpl k e s = -9223372036854775808 := by unfold fpl; rw [h]; rfl
theorem fpl_no (k e : Int) (s : ByteArray) (h : nouB k s = false) : fpl k e s = e + s.size := by unfold fpl; rw [h]; rfl
theorem cI_lt (x y : Int) (h : x < y) : cI x y = -1 := if_pos h
theorem cI_gt (x y : Int) (h : y < x) : cI x y = 1 := by unfold cI; rw [if_neg (by omega), if_pos h]
theorem cI_same (x : Int) : cI x x = 0 := by unfold cI; rw [if_neg (by omega), if_neg (by omega)]
/-- A nought is less than what is none, without signs. -/
theorem nou_less (f : Int) (ka : Int) (na : Bool) (ea : Int) (sa : ByteArray) (kb : Int) (nb : Bool) (eb : Int) (sb : ByteArray) (hb : numB f kb nb eb sb = true) (hk : kb = 1 ∨ kb = 2) (h1 : nouB ka sa = true) (h2 : nouB kb sb = false) : cmpU false ka ea sa kb eb sb = -1 := by
  obtain ⟨rfl, rfl⟩ := nou_spec ka sa h1
  unfold cmpU
  rw [if_neg (by decide)]
  rcases hk with rfl | rfl
  · obtain ⟨-, -, hs, he, -, -⟩ := numB_bd f 1 nb eb sb hb
    rw [show cI (kpl 1) (kpl 1) = 0 from rfl]
    show cszI _ _ _ _ _ _ = -1
    unfold cszI
    rw [fpl_yes _ _ _ h1, fpl_no _ _ _ h2, cI_lt _ _ (by omega)]; rfl
  · rfl
/-- Two noughts are of one size. -/
theorem nou_two (ka ea : Int) (sa : ByteArray) (kb eb : Int) (sb : ByteArray) (h1 : nouB ka sa = true) (h2 : nouB kb sb = true) : cszI ka ea sa kb eb sb = 0 := by
  unfold cszI
  rw [fpl_yes _ _ _ h1, fpl_yes _ _ _ h2]
  obtain ⟨rfl, rfl⟩ := nou_spec ka sa h1
  obtain ⟨rfl, rfl⟩ := nou_spec kb sb h2
  rw [cI_same, trS_0]; rfl
/-- What has no digits is of one size. -/
theorem size_0 (s : ByteArray) (h : s.size = 0) : s = { data := #[] } := by
  apply ByteArray.ext
  show s.data = #[]
  exact Array.eq_empty_of_size_eq_zero h
theorem oth_two (f : Int) (ka : Int) (na : Bool) (ea : Int) (sa : ByteArray) (kb : Int) (nb : Bool) (eb : Int) (sb : ByteArray) (ha : numB f ka na ea sa = true) (hb : numB f kb nb eb sb = true) (h1 : ka ≠ 1) (h2 : kb ≠ 1) : cszI ka ea sa kb eb sb = 0 ∧ ea = 0 ∧ eb = 0 := by
  obtain ⟨-, -, -, -, a4, -⟩ := numB_bd f ka na ea sa ha
  obtain ⟨-, -, -, -, b4, -⟩ := numB_bd f kb nb eb sb hb
  obtain ⟨rfl, sz⟩ := a4 h1
  obtain ⟨rfl, sz'⟩ := b4 h2
  obtain rfl := size_0 sa sz
  obtain rfl := size_0 sb sz'
  have n1 : ∀ k : Int, nouB k { data := #[] } = false := fun k => by unfold nouB; rw [show (({ data := #[] } : ByteArray).toList == [48]) = false by rw [ByteArray.toList_eq]; rfl, Bool.and_false]
  refine ⟨?_, rfl, rfl⟩
  unfold cszI
  rw [fpl_no _ _ _ (n1 _), fpl_no _ _ _ (n1 _), cI_same, trS_e]; rfl
theorem right_nat (f : Int) (b : Bool) (e : Int) (s : ByteArray) (h : numB f 1 b e s = true) : ∃ d, Canon d ∧ s = tx d := by
  unfold numB at h
  by_cases h0 : limP f = 0
  · rw [if_pos h0] at h; cases h
  rw [if_neg h0, if_pos rfl] at h
  simp only [Bool.and_eq_true, decide_eq_true_eq] at h
  obtain ⟨hc, -, he⟩ := natB_dl (limP f) s h.1
  exact ⟨dl s, hc, he⟩
/-- The model's sign. -/
def mSg (k : Int) (n : Bool) (s : ByteArray) : Int := if nouB k s then 0 else if n then -1 else 1
/-- What the model's comparison tells. -/
def mcV (ka : Int) (na : Bool) (ea : Int) (sa : ByteArray) (kb : Int) (nb : Bool) (eb : Int) (sb : ByteArray) : Int := if nouB ka sa && nouB kb sb then 0 else cmpR false ka na ea sa kb nb eb sb
theorem mc_less (f : Int) (ka : Int) (na : Bool) (ea : Int) (sa : ByteArray) (kb : Int) (nb : Bool) (eb : Int) (sb : ByteArray) (ha : numB f ka na ea sa = true) (hb : numB f kb nb eb sb = true) (h1 : ka = 1 ∨ ka = 2) (h2 : kb = 1 ∨ kb = 2) (h : mSg ka na sa < mSg kb nb sb) : mcV ka na ea sa kb nb eb sb = -1 := by
  unfold mcV
  unfold mSg at h
  cases za : nouB ka sa <;> cases zb : nouB kb sb <;> rw [za, zb] at h
  · cases na <;> cases nb <;> first | rfl | (exfalso; simp at h)
  · cases na
    · exfalso; first | (simp at h; done) | (split at h <;> simp at h)
    · cases nb
      · rfl
      · show cmpU false kb eb sb ka ea sa = -1
        exact nou_less f kb true eb sb ka true ea sa ha h1 zb za
  · cases nb
    · cases na
      · show cmpU false ka ea sa kb eb sb = -1
        exact nou_less f ka true ea sa kb false eb sb hb h2 za zb
      · rfl
    · exfalso; first | (simp at h; done) | (split at h <;> simp at h)
  · exfalso; first | (simp at h; done) | (split at h <;> simp at h)
theorem mc_more (f : Int) (ka : Int) (na : Bool) (ea : Int) (sa : ByteArray) (kb : Int) (nb : Bool) (eb : Int) (sb : ByteArray) (ha : numB f ka na ea sa = true) (hb : numB f kb nb eb sb = true) (h1 : ka = 1 ∨ ka = 2) (h2 : kb = 1 ∨ kb = 2) (h : mSg kb nb sb < mSg ka na sa) : mcV ka na ea sa kb nb eb sb = 1 := by
  unfold mcV
  unfold mSg at h
  cases za : nouB ka sa <;> cases zb : nouB kb sb <;> rw [za, zb] at h
  · cases na <;> cases nb <;> first | rfl | (exfalso; simp at h)
  · cases na
    · cases nb
      · show cmpU false ka ea sa kb eb sb = 1
        rw [cmpU_turn false kb eb sb ka ea sa, nou_less f kb true eb sb ka false ea sa ha h1 zb za]; rfl
      · rfl
    · exfalso; first | (simp at h; done) | (split at h <;> simp at h)
  · cases nb
    · exfalso; first | (simp at h; done) | (split at h <;> simp at h)
    · cases na
      · rfl
      · show cmpU false kb eb sb ka ea sa = 1
        rw [cmpU_turn false ka ea sa kb eb sb, nou_less f ka true ea sa kb true eb sb hb h2 za zb]; rfl
  · exfalso; first | (simp at h; done) | (split at h <;> simp at h)
theorem mc_none (ka : Int) (na : Bool) (ea : Int) (sa : ByteArray) (kb : Int) (nb : Bool) (eb : Int) (sb : ByteArray) (h : mSg ka na sa = mSg kb nb sb) (h0 : mSg ka na sa = 0) : mcV ka na ea sa kb nb eb sb = 0 := by
  have q : ∀ (k : Int) (n : Bool) (s : ByteArray), mSg k n s = 0 → nouB k s = true := fun k n s e => by
    unfold mSg at e
    cases z : nouB k s
    · rw [z] at e; cases n <;> (revert e; decide)
    · rfl
  unfold mcV
  rw [q _ _ _ h0, q _ _ _ (h ▸ h0)]; rfl
/-- Both of one sign, none a nought. -/
theorem mc_sign (ka : Int) (na : Bool) (ea : Int) (sa : ByteArray) (kb : Int) (nb : Bool) (eb : Int) (sb : ByteArray) (h : mSg ka na sa = mSg kb nb sb) (h0 : mSg ka na sa ≠ 0) : mcV ka na ea sa kb nb eb sb = mSg ka na sa * cmpU false ka ea sa kb eb sb ∧ nouB ka sa = false ∧ nouB kb sb = false ∧ (mSg ka na sa = 1 ∨ mSg ka na sa = -1) := by
  unfold mSg at h h0
  unfold mcV mSg
  cases za : nouB ka sa
  · cases zb : nouB kb sb
    · rw [za, zb] at h
      cases na <;> cases nb
      · exact ⟨by show cmpU false ka ea sa kb eb sb = 1 * cmpU false ka ea sa kb eb sb; rw [Int.one_mul], rfl, rfl, .inl rfl⟩
      · exfalso; first | (simp at h; done) | (split at h <;> simp at h)
      · exfalso; first | (simp at h; done) | (split at h <;> simp at h)
      · exact ⟨by show cmpU false kb eb sb ka ea sa = -1 * cmpU false ka ea sa kb eb sb; rw [cmpU_turn false ka ea sa kb eb sb, Int.neg_one_mul], rfl, rfl, .inr rfl⟩
    · rw [za, zb] at h
      cases na <;> (exfalso; simp at h)
  · rw [za] at h0; exact absurd rfl h0
/-- Of one sign, none a nought: by kinds and sizes. -/
theorem cu_inf2 (f : Int) (na : Bool) (ea : Int) (sa : ByteArray) (nb : Bool) (eb : Int) (sb : ByteArray) (ha : numB f 2 na ea sa = true) (hb : numB f 2 nb eb sb = true) : cmpU false 2 ea sa 2 eb sb = 0 := by
  unfold cmpU
  rw [if_neg (by decide), (oth_two f 2 na ea sa 2 nb eb sb ha hb (by decide) (by decide)).1]; rfl
theorem cu_infa (ea : Int) (sa : ByteArray) (eb : Int) (sb : ByteArray) : cmpU false 2 ea sa 1 eb sb = 1 := rfl
theorem cu_infb (ea : Int) (sa : ByteArray) (eb : Int) (sb : ByteArray) : cmpU false 1 ea sa 2 eb sb = -1 := rfl
theorem cu_fin (ea : Int) (sa : ByteArray) (eb : Int) (sb : ByteArray) (h1 : nouB 1 sa = false) (h2 : nouB 1 sb = false) : cmpU false 1 ea sa 1 eb sb = orI (cI (ea + sa.size) (eb + sb.size)) (Lib.compareBytes (trS sa).data.toList (trS sb).data.toList) := by
  unfold cmpU
  rw [if_neg (by decide), show cI (kpl 1) (kpl 1) = 0 from rfl]
  show cszI _ _ _ _ _ _ = _
  unfold cszI
  rw [fpl_no _ _ _ h1, fpl_no _ _ _ h2]
end Go.Proofs.YtmndemegiimagasGreatDoor
