/-
  Digits rounded off, of the model, walked.
-/
import Derived.Test.YtnkoeidolmiheaaDoorTxt3
import Derived.Deep.DeepCutAuto
namespace Go.Proofs.YtnkoeidolmiheaaDoor
set_option linter.unusedVariables false
set_option maxRecDepth 100000
/-- Noughts ahead, as far as m digits. -/
def zpad (m : Nat) (ds : List Int) : List Int := List.replicate (m - ds.length) 0 ++ ds
theorem zpad_len (m : Nat) (ds : List Int) : (zpad m ds).length = max m ds.length := by
  unfold zpad; rw [List.length_append, List.length_replicate]; omega
theorem zpad_dec (m : Nat) (ds : List Int) (h : Dec ds) : Dec (zpad m ds) := fun d hd => by
  rcases List.mem_append.1 hd with c | c
  · have := (List.mem_replicate.1 c).2; omega
  · exact h d c
theorem vl_noughts_ahead (n : Nat) (ds : List Int) : vl (List.replicate n 0 ++ ds) = vl ds := by
  induction n with
  | zero => rfl
  | succ n ih => rw [List.replicate_succ, List.cons_append, vl_cons, ih]; omega
theorem zpad_vl (m : Nat) (ds : List Int) : vl (zpad m ds) = vl ds := vl_noughts_ahead _ _
/-- The number above and below a cut. -/
theorem cut_vl_two (D : List Int) (h : Dec D) (n k : Nat) (hl : D.length = n + k) : vl (D.take n) = vl D / 10 ^ k ∧ vl (D.drop n) = vl D % 10 ^ k := by
  have e : vl D = vl (D.drop n) + 10 ^ k * vl (D.take n) := by
    have := vl_append (D.take n) (D.drop n)
    rw [List.take_append_drop] at this
    rw [this, List.length_drop, show D.length - n = k by omega]
  have b := vl_bd (D.drop n) (fun d hd => h d (List.mem_of_mem_drop hd))
  rw [List.length_drop, show D.length - n = k by omega] at b
  have hp : (0 : Int) < 10 ^ k := Int.pow_pos (by decide)
  rw [e]
  refine ⟨?_, ?_⟩
  · rw [Int.add_mul_ediv_left _ _ (Int.ne_of_gt hp), Int.ediv_eq_zero_of_lt b.1 b.2, Int.zero_add]
  · rw [Int.add_mul_emod_self_left, Int.emod_eq_of_lt b.1 b.2]
/-- Is one of the digits not a nought? -/
def some1 (l : List Int) : Bool := l.any fun d => !(d == 0)
theorem some1_vl (l : List Int) (h : Dec l) : some1 l = decide (vl l ≠ 0) := by
  induction l with
  | nil => rfl
  | cons d r ih =>
    have hr : Dec r := fun x hx => h x (List.mem_cons_of_mem _ hx)
    have hd := h d (List.mem_cons_self)
    have b := vl_bd r hr
    have hp : (0 : Int) < 10 ^ r.length := Int.pow_pos (by decide)
    unfold some1
    rw [List.any_cons]
    have ih' : (r.any fun d => !(d == 0)) = decide (vl r ≠ 0) := ih hr
    rw [ih', vl_cons]
    by_cases hz : d = 0
    · subst hz; simp
    · have h1 : (d == 0) = false := by simpa using hz
      have h2 : 0 < 10 ^ r.length * d := Int.mul_pos hp (by omega)
      rw [h1, decide_eq_true (by omega : vl r + 10 ^ r.length * d ≠ 0)]
      rfl
/-- What is rounded off stands below, at or above a half. -/
def halfI (r m : Int) (rest : Bool) (k : Nat) : Int := if k = 0 then -1 else if 2 * r < m then -1 else if 2 * r = m ∧ rest = false then 0 else 1
/-- Is one more kept? -/
def upO (mode : Int) (neg : Bool) (half : Int) (lost : Bool) (od : Bool) : Bool :=
  if mode = 1 then decide (0 < half) || (decide (half = 0) && od) else if mode = 3 then lost && neg else if mode = 4 then lost && !neg else if mode = 5 then decide (0 ≤ half) else false
def upB (mode : Int) (neg : Bool) (half : Int) (lost : Bool) (q : Int) : Bool := upO mode neg half lost (decide (q % 2 = 1))
/-- What is left when k digits are rounded off, and whether something was. -/
def rndL (v : Int) (k : Nat) (rest : Bool) : Bool := rest || decide (v % 10 ^ k ≠ 0)
def rndU (mode : Int) (neg : Bool) (v : Int) (k : Nat) (rest : Bool) : Bool := upB mode neg (halfI (v % 10 ^ k) (10 ^ k) rest k) (rndL v k rest) (v / 10 ^ k)
def rndV (mode : Int) (neg : Bool) (v : Int) (k : Nat) (rest : Bool) : Int := v / 10 ^ k + (if rndU mode neg v k rest then 1 else 0)
/-- The first digit that goes, and what stands behind it. -/
theorem half_told (g : List Int) (h : Dec g) (rest : Bool) (x : Int) (r : List Int) (e : g = x :: r) :
    halfI (vl g) (10 ^ g.length) rest g.length = (if 5 < x ∨ (x = 5 ∧ (rest || some1 r) = true) then 1 else if x < 5 then -1 else 0) := by
  subst e
  have hr : Dec r := fun y hy => h y (List.mem_cons_of_mem _ hy)
  have hx := h x (List.mem_cons_self)
  have b := vl_bd r hr
  have hp : (0 : Int) < 10 ^ r.length := Int.pow_pos (by decide)
  have hs := some1_vl r hr
  unfold halfI
  rw [if_neg (by simp), vl_cons, List.length_cons, Int.pow_succ]
  generalize (10 : Int) ^ r.length = m at *
  generalize vl r = y at *
  have hmx : x = 0 ∨ x = 1 ∨ x = 2 ∨ x = 3 ∨ x = 4 ∨ x = 5 ∨ x = 6 ∨ x = 7 ∨ x = 8 ∨ x = 9 := by omega
  by_cases h5 : x = 5
  · subst h5
    cases rest with
    | true =>
      rw [if_neg (by omega), if_neg (by simp), if_pos (.inr ⟨rfl, rfl⟩)]
    | false =>
      rw [Bool.false_or, hs]
      by_cases hy : y = 0
      · subst hy
        rw [if_neg (by omega), if_pos ⟨by omega, rfl⟩, if_neg (by simp), if_neg (by omega)]
      · rw [if_neg (by omega), if_neg (by omega), if_pos (.inr ⟨rfl, decide_eq_true hy⟩)]
  · by_cases hlt : x < 5
    · have : 2 * (y + m * x) < m * 10 := by
        rcases hmx with e | e | e | e | e | e | e | e | e | e <;> subst e <;> omega
      rw [if_pos this, if_neg (by omega), if_pos hlt]
    · have : m * 10 < 2 * (y + m * x) := by
        rcases hmx with e | e | e | e | e | e | e | e | e | e <;> subst e <;> omega
      rw [if_neg (by omega), if_neg (by omega), if_pos (.inl (by omega))]
end Go.Proofs.YtnkoeidolmiheaaDoor
namespace Go.Proofs.YtnkoeidolmiheaaDoor
open Go.RowKit
set_option linter.unusedVariables false
set_option maxRecDepth 100000
theorem tx_take (D : List Int) (n : Nat) (hn : n ≤ D.length) : (tx D).extract 0 n = tx (D.take n) := by
  apply ByteArray.ext
  rw [ByteArray.data_extract, tx_data, tx_data]
  simp [List.map_take]
theorem tx_drop (D : List Int) (n : Nat) (hn : n ≤ D.length) : (tx D).extract n (tx D).size = tx (D.drop n) := by
  apply ByteArray.ext
  rw [ByteArray.data_extract, tx_size, tx_data, tx_data]
  simp [List.map_drop, List.take_of_length_le]
theorem some1_take (l : List Int) (j : Nat) (hj : j < l.length) : some1 (l.take (j + 1)) = (some1 (l.take j) || !(l.getD j 0 == 0)) := by
  unfold some1
  rw [List.take_succ_eq_append_getElem hj, List.any_append, List.getD, List.getElem?_eq_getElem hj]
  simp
theorem zero_cons (j : Nat) (ds : List Int) : ({ data := #[48] } : ByteArray) ++ tx (List.replicate j 0 ++ ds) = tx (List.replicate (j + 1) 0 ++ ds) := by
  have : ({ data := #[48] } : ByteArray) = tx [0] := by apply ByteArray.ext; rw [tx_data]; rfl
  rw [this, tx_append, List.replicate_succ]; rfl
theorem vl_mod2 (l : List Int) (h : Dec l) (hp : 0 < l.length) : vl l % 2 = l.getD (l.length - 1) 0 % 2 := by
  have e := vl_append (l.take (l.length - 1)) (l.drop (l.length - 1))
  rw [List.take_append_drop] at e
  have hd : l.drop (l.length - 1) = [l.getD (l.length - 1) 0] := by
    have hi : l.length - 1 < l.length := by omega
    rw [List.drop_eq_getElem_cons hi, List.getD, List.getElem?_eq_getElem hi, List.drop_of_length_le (by omega)]
    rfl
  rw [hd] at e
  rw [e]
  have : vl [l.getD (l.length - 1) 0] = l.getD (l.length - 1) 0 := by simp [vl, lv]
  rw [this]
  simp
  omega
theorem half_cases (r m : Int) (rest : Bool) (k : Nat) : halfI r m rest k = -1 ∨ halfI r m rest k = 0 ∨ halfI r m rest k = 1 := by
  unfold halfI
  split
  · exact .inl rfl
  · split
    · exact .inl rfl
    · split
      · exact .inr (.inl rfl)
      · exact .inr (.inr rfl)
theorem tx_1 : tx [1] = { data := #[49] } := by apply ByteArray.ext; rw [tx_data]; rfl
end Go.Proofs.YtnkoeidolmiheaaDoor
