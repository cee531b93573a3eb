/-
  Noughts repeated, digits split, a text cloned, by the program: what a seat without the naturals takes.
-/
import Derived.Test.YtcflomcankcggatDoorRdp
import Derived.Test.YtcflomcankcggatDoorShf
import Derived.Test.YtcflomcankcggatDoorRnd
import Derived.BigQuiet
namespace Go.Proofs.YtcflomcankcggatDoor
open Go.RowKit
set_option linter.unusedVariables false
set_option maxRecDepth 100000
theorem rep0_z (n : Nat) (hn : n ≤ 600) (w : World) :
    Calls Tryd.prog 41 #[.string { data := #[48] }, .int .i64 n] w fun e w' => e = .returned (.string (tx (List.replicate n 0))) ∧ Below w.heap.size w w' := by
  have := Tryd.strings_Repeat { data := #[48] } n w (by omega) (by show 1 * n ≤ _; omega)
  rw [show ({ data := #[48] } : ByteArray).data.toList = [48] from rfl, rep_tx] at this
  exact this
theorem iSplit_z (ds : List Int) (k n : Nat) (hl : ds.length ≤ 300) (hk : k ≤ 200) (hn : (zpad (k + 1) ds).length = n + k) (w : World) :
    Calls Tryd.prog 35 #[.string (tx ds), .int .i64 k] w fun e w' => e = .returned (.tuple #[.string (tx ((zpad (k + 1) ds).take n)), .string (tx ((zpad (k + 1) ds).drop n))]) ∧ Below w.heap.size w w' := by
  have hlen := zpad_len (k + 1) ds
  obtain ⟨j, hj⟩ : ∃ j : Nat, k + 1 - ds.length = j := ⟨_, rfl⟩
  have HZ : Hid (zpad (k + 1) ds = List.replicate j 0 ++ ds) := by show _ = _; unfold zpad; rw [hj]
  have hz := tx_size ds
  have w1 : IntKind.i64.wrap ((k : Int) + 1) = (k : Int) + 1 := by rw [IntKind.wrap_i64]; omega
  have w2 : IntKind.i64.wrap ((k : Int) + 1 - (ds.length : Int)) = (k : Int) + 1 - (ds.length : Int) := by rw [IntKind.wrap_i64]; omega
  have HR : Hid (∀ X, Calls Tryd.prog 41 #[.string { data := #[48] }, .int .i64 j] X fun e w' => e = .returned (.string (tx (List.replicate j 0))) ∧ Below X.heap.size X w') := fun X => rep0_z j (by omega) X
  have hap : tx (List.replicate j 0) ++ tx ds = tx (List.replicate j 0 ++ ds) := tx_append _ _
  have hz2 : (tx (List.replicate j 0)).size = j := by rw [tx_size, List.length_replicate]
  have t1 := tx_take (zpad (k + 1) ds) n (by omega)
  have t2 := tx_drop (zpad (k + 1) ds) n (by omega)
  have hsz : (tx (zpad (k + 1) ds)).size = n + k := by rw [tx_size, hn]
  have HL : Hid (ds.length ≤ 300 ∧ k ≤ 200 ∧ n + k = max (k + 1) ds.length ∧ k + 1 - ds.length = j) := ⟨hl, hk, by omega, hj⟩
  rw [HZ.out] at t1 t2 hsz ⊢
  rw [hsz] at t2
  clear hn hlen HZ
  generalize List.replicate j 0 ++ ds = D at *
  have hnn : n ≤ 600 := by have := HL.out; omega
  have hj2 : j ≤ 300 := by have := HL.out; omega
  have w3 : IntKind.i64.wrap ((n : Int) + (k : Int) - (k : Int)) = (n : Int) := by rw [IntKind.wrap_i64]; omega
  have b1 : (n : Int) ≤ (n : Int) + (k : Int) := by omega
  clear hj
  by_cases hd : (0 : Int) < (k : Int) + 1 - (ds.length : Int)
  · have HJ : Hid ((k : Int) + 1 - (ds.length : Int) = (j : Int)) := by have := HL.out; show _ = _; omega
    rw [HJ.out] at w2 hd
    have hJ := HJ.out
    go_enter Tryd.func35, Tryd.ntmps35
    go_wp2_with fail
    refine (HR.out _).mono ?_
    rintro e w2 ⟨rfl, hb⟩
    clear hJ HJ hd
    go_wp2_with fail
    go_quiet (fail)
    go_wp2
    go_ret2
    exact ⟨rfl, below_drewN hb _⟩
  · obtain rfl : j = 0 := by have := HL.out; omega
    have HR0 : Hid (∀ X, Calls Tryd.prog 41 #[.string { data := #[48] }, .int .i64 0] X fun e w' => e = .returned (.string (tx [])) ∧ Below X.heap.size X w') := HR.out
    have hap0 : tx [] ++ tx ds = tx D := hap
    have hz0 : (tx []).size = 0 := hz2
    clear hap hz2
    clear HR
    have hmx : max (0 : Int) ((k : Int) + 1 - (ds.length : Int)) = 0 := by omega
    go_enter Tryd.func35, Tryd.ntmps35
    go_wp2_with fail
    refine (HR0.out _).mono ?_
    rintro e w2 ⟨rfl, hb⟩
    clear hd hmx
    go_wp2_with fail
    go_quiet (fail)
    go_wp2
    go_ret2
    exact ⟨rfl, below_drewN hb _⟩
theorem iClone_z (s : ByteArray) (w : World) (hs : s.size ≤ 600) :
    Calls Tryd.prog 17 #[.string s] w fun e w' => e = .returned (.string s) ∧ Below w.heap.size w w' := by
  go_enter Tryd.func17, Tryd.ntmps17
  go_wp2_with fail
  refine (Tryd.stringslite_Clone s _ (by omega)).mono ?_
  rintro e w1 ⟨rfl, hb⟩
  go_wp2
  go_ret
  exact ⟨rfl, hb⟩
end Go.Proofs.YtcflomcankcggatDoor
