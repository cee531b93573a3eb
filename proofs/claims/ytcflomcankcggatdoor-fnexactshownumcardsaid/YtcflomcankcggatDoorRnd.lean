/-
  Digits rounded off, of the model, walked.
-/
import Derived.Test.YtcflomcankcggatDoorRndM
import Derived.Test.YtcflomcankcggatDoorTxt2
import Derived.Deep.DeepCutAuto
namespace Go.Proofs.YtcflomcankcggatDoor
open Go.RowKit
set_option linter.unusedVariables false
set_option maxRecDepth 100000
theorem tx_take (D : List Int) (n : Nat) (hn : n ≤ D.length) : (tx D).extract 0 n = tx (D.take n) := by
  apply ByteArray.ext
  rw [ByteArray.data_extract, tx_data, tx_data]
  simp [List.map_take]
theorem tx_drop (D : List Int) (n : Nat) (hn : n ≤ D.length) : (tx D).extract n (tx D).size = tx (D.drop n) := by
  apply ByteArray.ext
  rw [ByteArray.data_extract, tx_size, tx_data, tx_data]
  simp [List.map_drop, List.take_of_length_le]
theorem some1_take (l : List Int) (j : Nat) (hj : j < l.length) : some1 (l.take (j + 1)) = (some1 (l.take j) || !(l.getD j 0 == 0)) := by
  unfold some1
  rw [List.take_succ_eq_append_getElem hj, List.any_append, List.getD, List.getElem?_eq_getElem hj]
  simp
theorem zero_cons (j : Nat) (ds : List Int) : ({ data := #[48] } : ByteArray) ++ tx (List.replicate j 0 ++ ds) = tx (List.replicate (j + 1) 0 ++ ds) := by
  have : ({ data := #[48] } : ByteArray) = tx [0] := by apply ByteArray.ext; rw [tx_data]; rfl
  rw [this, tx_append, List.replicate_succ]; rfl
theorem vl_mod2 (l : List Int) (h : Dec l) (hp : 0 < l.length) : vl l % 2 = l.getD (l.length - 1) 0 % 2 := by
  have e := vl_append (l.take (l.length - 1)) (l.drop (l.length - 1))
  rw [List.take_append_drop] at e
  have hd : l.drop (l.length - 1) = [l.getD (l.length - 1) 0] := by
    have hi : l.length - 1 < l.length := by omega
    rw [List.drop_eq_getElem_cons hi, List.getD, List.getElem?_eq_getElem hi, List.drop_of_length_le (by omega)]
    rfl
  rw [hd] at e
  rw [e]
  have : vl [l.getD (l.length - 1) 0] = l.getD (l.length - 1) 0 := by simp [vl, lv]
  rw [this]
  simp
  omega
theorem half_cases (r m : Int) (rest : Bool) (k : Nat) : halfI r m rest k = -1 ∨ halfI r m rest k = 0 ∨ halfI r m rest k = 1 := by
  unfold halfI
  split
  · exact .inl rfl
  · split
    · exact .inl rfl
    · split
      · exact .inr (.inl rfl)
      · exact .inr (.inr rfl)
theorem tx_1 : tx [1] = { data := #[49] } := by apply ByteArray.ext; rw [tx_data]; rfl
end Go.Proofs.YtcflomcankcggatDoor
