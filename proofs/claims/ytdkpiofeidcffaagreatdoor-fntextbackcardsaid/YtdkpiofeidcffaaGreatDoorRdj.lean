/-
  The program's parts of rounding, walked: digits split, one more, the modes.
-/
import Derived.Test.YtdkpiofeidcffaaGreatDoorRdi
namespace Go.Proofs.YtdkpiofeidcffaaGreatDoor
open Go.RowKit
set_option linter.unusedVariables false
set_option maxRecDepth 100000
theorem iSplit_any (ds : List Int) (k n : Nat) (hl : ds.length ≤ 300) (hk : k ≤ 200) (hn : (zpad (k + 1) ds).length = n + k) (w : World) :
    Calls Tryz.prog 49 #[.string (tx ds), .int .i64 k] w fun e w' => e = .returned (.tuple #[.string (tx ((zpad (k + 1) ds).take n)), .string (tx ((zpad (k + 1) ds).drop n))]) ∧ Below w.heap.size w w' := by
  have hlen := zpad_len (k + 1) ds
  obtain ⟨j, hj⟩ : ∃ j : Nat, k + 1 - ds.length = j := ⟨_, rfl⟩
  have HZ : Hid (zpad (k + 1) ds = List.replicate j 0 ++ ds) := by show _ = _; unfold zpad; rw [hj]
  have hz := tx_size ds
  have w1 : IntKind.i64.wrap ((k : Int) + 1) = (k : Int) + 1 := by rw [IntKind.wrap_i64]; omega
  have w2 : IntKind.i64.wrap ((k : Int) + 1 - (ds.length : Int)) = (k : Int) + 1 - (ds.length : Int) := by rw [IntKind.wrap_i64]; omega
  have HR : Hid (∀ X, Calls Tryz.prog 74 #[.string { data := #[48] }, .int .i64 j] X fun e w' => e = .returned (.string (tx (List.replicate j 0))) ∧ Below X.heap.size X w') := fun X => rep0_any j (by omega) X
  have hap : tx (List.replicate j 0) ++ tx ds = tx (List.replicate j 0 ++ ds) := tx_append _ _
  have hz2 : (tx (List.replicate j 0)).size = j := by rw [tx_size, List.length_replicate]
  have t1 := tx_take (zpad (k + 1) ds) n (by omega)
  have t2 := tx_drop (zpad (k + 1) ds) n (by omega)
  have hsz : (tx (zpad (k + 1) ds)).size = n + k := by rw [tx_size, hn]
  have HL : Hid (ds.length ≤ 300 ∧ k ≤ 200 ∧ n + k = max (k + 1) ds.length ∧ k + 1 - ds.length = j) := ⟨hl, hk, by omega, hj⟩
  rw [HZ.out] at t1 t2 hsz ⊢
  rw [hsz] at t2
  clear hn hlen HZ
  generalize List.replicate j 0 ++ ds = D at *
  have hnn : n ≤ 600 := by have := HL.out; omega
  have hj2 : j ≤ 300 := by have := HL.out; omega
  have w3 : IntKind.i64.wrap ((n : Int) + (k : Int) - (k : Int)) = (n : Int) := by rw [IntKind.wrap_i64]; omega
  have b1 : (n : Int) ≤ (n : Int) + (k : Int) := by omega
  clear hj
  by_cases hd : (0 : Int) < (k : Int) + 1 - (ds.length : Int)
  · have HJ : Hid ((k : Int) + 1 - (ds.length : Int) = (j : Int)) := by have := HL.out; show _ = _; omega
    rw [HJ.out] at w2 hd
    have hJ := HJ.out
    go_enter Tryz.func49, Tryz.ntmps49
    go_wp2_with fail
    refine (HR.out _).mono ?_
    rintro e w2 ⟨rfl, hb⟩
    clear hJ HJ hd
    go_wp2_with fail
    go_quiet (fail)
    go_wp2
    go_ret2
    exact ⟨rfl, below_drewN hb _⟩
  · obtain rfl : j = 0 := by have := HL.out; omega
    have HR0 : Hid (∀ X, Calls Tryz.prog 74 #[.string { data := #[48] }, .int .i64 0] X fun e w' => e = .returned (.string (tx [])) ∧ Below X.heap.size X w') := HR.out
    have hap0 : tx [] ++ tx ds = tx D := hap
    have hz0 : (tx []).size = 0 := hz2
    clear hap hz2
    clear HR
    have hmx : max (0 : Int) ((k : Int) + 1 - (ds.length : Int)) = 0 := by omega
    go_enter Tryz.func49, Tryz.ntmps49
    go_wp2_with fail
    refine (HR0.out _).mono ?_
    rintro e w2 ⟨rfl, hb⟩
    clear hd hmx
    go_wp2_with fail
    go_quiet (fail)
    go_wp2
    go_ret2
    exact ⟨rfl, below_drewN hb _⟩
theorem iOneMore_any (L : List Int) (h : Canon L) (hl : L.length ≤ 200) (w : World) :
    Calls Tryz.prog 105 #[.string (tx L)] w fun e w' => e = .returned (.string (tx (nt (vl L + 1)))) ∧ Below w.heap.size w w' := by
  by_cases h9 : ∀ d ∈ L, d = 9
  · have HE : Hid (nt (vl L + 1) = 1 :: List.replicate L.length 0) := (nt_of _ _ (ten_canon _) (by rw [vl_ten, nines_vl L h9]) (by rw [List.length_cons, List.length_replicate]; omega)).symm
    have HT : Hid (∀ X, Calls Tryz.prog 121 #[.string (tx L), .string { data := #[57] }] X fun e w' => e = .returned (.string { data := #[] }) ∧ Below X.heap.size X w') := fun X => trim9_yes L h9 (by omega) X
    have HR : Hid (∀ X, Calls Tryz.prog 74 #[.string { data := #[48] }, .int .i64 (L.length : Int)] X fun e w' => e = .returned (.string (tx (List.replicate L.length 0))) ∧ Below X.heap.size X w') := fun X => rep0_any L.length (by omega) X
    have hap : ({ data := #[49] } : ByteArray) ++ tx (List.replicate L.length 0) = tx (1 :: List.replicate L.length 0) := by rw [← tx_1, tx_append]; rfl
    have hz := tx_size L
    have hz2 : (tx (List.replicate L.length 0)).size = L.length := by rw [tx_size, List.length_replicate]
    rw [HE.out]
    clear h9 h HE
    go_enter Tryz.func105, Tryz.ntmps105
    go_wp2_with fail
    refine (HT.out _).mono ?_
    rintro e w2 ⟨rfl, hb⟩
    go_wp2_with fail
    refine (HR.out _).mono ?_
    rintro e w3 ⟨rfl, hb3⟩
    go_wp2
    go_ret
    exact ⟨rfl, hb.trans (hb3.mono hb.size)⟩
  · have HA : Hid (∀ X, Calls Tryz.prog 123 #[.string (tx L), .string { data := #[49] }] X fun e w' => e = .returned (.string (tx (nt (vl L + 1)))) ∧ Below X.heap.size X w') := fun X => by
      have := iNatAdd_any (tx L) { data := #[49] } X (by rw [tx_size]; omega) (by decide)
      rw [addS_one L h hl h9] at this
      exact this
    have HT : Hid (∀ X, Calls Tryz.prog 121 #[.string (tx L), .string { data := #[57] }] X fun e w' => ∃ T : ByteArray, T.toList.isEmpty = false ∧ e = .returned (.string T) ∧ Below X.heap.size X w') := fun X => trim9_no L h.1 h9 (by omega) X
    clear h9 h
    generalize nt (vl L + 1) = R at *
    go_enter Tryz.func105, Tryz.ntmps105
    go_wp2_with fail
    refine (HT.out _).mono ?_
    rintro e w2 ⟨T, hT, rfl, hb⟩
    go_wp2_with fail
    refine (HA.out _).mono ?_
    rintro e w3 ⟨rfl, hb3⟩
    go_wp2
    go_ret
    exact ⟨rfl, hb.trans (hb3.mono hb.size)⟩
/-- What a mode asks of a number whose last digits go. -/
abbrev cutV (neg od : Bool) (p : Int) : Value := .agg #[.bool neg, .bool od, .int .i64 p]
set_option maxRecDepth 100000 in
theorem grow1 (neg od : Bool) (p : Int) (hp : p = 0 ∨ p = 1 ∨ p = 2 ∨ p = 3) (w : World) : Calls Tryz.prog 51 #[cutV neg od p] w fun e w' => e = .returned (.bool (grw 1 neg od p)) ∧ Below w.heap.size w w' := by
  rcases hp with rfl | rfl | rfl | rfl <;> cases neg <;> cases od
  all_goals
    go_enter Tryz.func51, Tryz.ntmps51
    go_wp2
    go_ret
    exact ⟨rfl, (Below.refl _ _).alloc (Nat.le_refl _) _⟩
set_option maxRecDepth 100000 in
theorem grow2 (neg od : Bool) (p : Int) (hp : p = 0 ∨ p = 1 ∨ p = 2 ∨ p = 3) (w : World) : Calls Tryz.prog 52 #[cutV neg od p] w fun e w' => e = .returned (.bool (grw 2 neg od p)) ∧ Below w.heap.size w w' := by
  rcases hp with rfl | rfl | rfl | rfl <;> cases neg <;> cases od
  all_goals
    go_enter Tryz.func52, Tryz.ntmps52
    go_wp2
    go_ret
    exact ⟨rfl, (Below.refl _ _).alloc (Nat.le_refl _) _⟩
set_option maxRecDepth 100000 in
theorem grow3 (neg od : Bool) (p : Int) (hp : p = 0 ∨ p = 1 ∨ p = 2 ∨ p = 3) (w : World) : Calls Tryz.prog 53 #[cutV neg od p] w fun e w' => e = .returned (.bool (grw 3 neg od p)) ∧ Below w.heap.size w w' := by
  rcases hp with rfl | rfl | rfl | rfl <;> cases neg <;> cases od
  all_goals
    go_enter Tryz.func53, Tryz.ntmps53
    go_wp2
    go_ret
    exact ⟨rfl, (Below.refl _ _).alloc (Nat.le_refl _) _⟩
set_option maxRecDepth 100000 in
theorem grow4 (neg od : Bool) (p : Int) (hp : p = 0 ∨ p = 1 ∨ p = 2 ∨ p = 3) (w : World) : Calls Tryz.prog 54 #[cutV neg od p] w fun e w' => e = .returned (.bool (grw 4 neg od p)) ∧ Below w.heap.size w w' := by
  rcases hp with rfl | rfl | rfl | rfl <;> cases neg <;> cases od
  all_goals
    go_enter Tryz.func54, Tryz.ntmps54
    go_wp2
    go_ret
    exact ⟨rfl, (Below.refl _ _).alloc (Nat.le_refl _) _⟩
set_option maxRecDepth 100000 in
theorem grow5 (neg od : Bool) (p : Int) (hp : p = 0 ∨ p = 1 ∨ p = 2 ∨ p = 3) (w : World) : Calls Tryz.prog 55 #[cutV neg od p] w fun e w' => e = .returned (.bool (grw 5 neg od p)) ∧ Below w.heap.size w w' := by
  rcases hp with rfl | rfl | rfl | rfl <;> cases neg <;> cases od
  all_goals
    go_enter Tryz.func55, Tryz.ntmps55
    go_wp2
    go_ret
    exact ⟨rfl, (Below.refl _ _).alloc (Nat.le_refl _) _⟩
end Go.Proofs.YtdkpiofeidcffaaGreatDoor
