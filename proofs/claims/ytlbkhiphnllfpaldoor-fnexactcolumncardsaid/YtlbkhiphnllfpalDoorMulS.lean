/-
  What Multiple, Double, Five of the model answer, walked.
-/
import Derived.Test.YtlbkhiphnllfpalDoorMulP
namespace Go.Proofs.YtlbkhiphnllfpalDoor
open Go.RowKit
set_option linter.unusedVariables false

/-- The model's multiple of sixteen digits. -/
theorem l4Times_any (vd : Value) (f : Nat → Int) (m : Int) (bd : Nat) (w : World) (hd : Has w bd vd (highsF f 16)) (nf : Nine f) (m0 : 0 ≤ m) (m10 : m ≤ 10) :
    Calls Tryd.prog 29 #[vd, .int .i64 m] w fun e w' => ∃ v, e = .returned (.tuple #[v, .int .i64 (mcy f m 16)]) ∧ Has w' w.heap.size v (highsF (mdg f m) 16) ∧ Below w.heap.size w w' := by
  have hmk : ∀ w, (Instr.makeSlice 47 (.int .i64 16) (.int .i64 16)).run Tryd.prog w = .ok (.slice (some ⟨w.heap.size, 0, none⟩) 16 16) (w.alloc (.cells noughts 2)) := fun _ => by kernel_rfl
  rcases hd.form with ⟨_, e⟩ | ⟨g, ca, rfl, -, hgl, -, hca, -⟩
  · have := congrArg List.length e; rw [highsF_length] at this; cases this
  have Hca : Hid (∀ i, i < 16 → w.cell? ⟨g, i, none⟩ = some (.int .i64 (f (15 - i)))) := fun i hi => by
    have := hca i (by rw [highsF_length]; exact hi); rw [List.getD, highsF_at f 16 i hi] at this; exact this
  rw [highsF_length]
  have Hnf : Hid (Nine f) := nf
  clear hd hca nf
  go_enter Tryd.func29, Tryd.ntmps29
  go_wp2
  go_loopw [7, 8] (fun cv i wr => ∃ k : Nat, k ≤ 16 ∧ i = .int .i64 (15 - (k : Int)) ∧ cv = .int .i64 (mcy f m k) ∧ Hid (wr.ownsRow w.heap.size 2 1 (.slice (some ⟨w.heap.size, 0, none⟩) 16 16) 16 ((lowsF (mdg f m) k).map (Value.int .i64))) ∧ Below w.heap.size w wr) (fun _ i _ => (intOf i + 1).toNat)
  case atStart => exact ⟨0, Nat.zero_le _, Ln.val_int (by simp), rfl, by have := noughts_own 0 0 w; exact this, (Below.refl _ _).alloc (Nat.le_refl _) _⟩
  case round =>
    obtain ⟨k, hk, rfl, rfl, hown, hbel⟩ := hrel
    by_cases hlt : k < 16
    · have hge : (0 : Int) ≤ 15 - (k : Int) := by omega
      have hA := Hnf.out k hlt
      have hR := mul_room (f k) m hA.1 hA.2 m0 m10
      have hC := mcy_bd f m Hnf.out m0 m10 k (by omega)
      have c1 : wr.cell? ⟨g, 15 - k, none⟩ = some (.int .i64 (f k)) := (hbel.cell (p := ⟨g, 15 - k, none⟩) hgl).trans (by rw [Hca.out (15 - k) (by omega), show 15 - (15 - k) = k by omega])
      have hf := World.ownsRow.frozenAt hown.out (15 - k)
      have hc : wr.cell? ⟨w.heap.size, 15 - k, none⟩ = some (.int .i64 ((lowsF (mdg f m) k).getD (15 - k) 0)) := by
        rw [World.ownsRow.cellAt hown.out (15 - k) (by omega)]
        simp only [List.getElem?_map, List.getD]
        rw [List.getElem?_eq_getElem (by rw [lowsF_length]; omega)]
        rfl
      obtain ⟨y, hy⟩ : ∃ y, y = mcy f m k := ⟨_, rfl⟩
      have Hs : Hid (mcy f m (k + 1) = (f k * m + y) / 10) := by rw [hy]; rfl
      have Hd : Hid (mdg f m k = (f k * m + y) % 10) := by rw [hy]; rfl
      rw [← hy] at hC ⊢
      have Hy : Hid (y = mcy f m k) := hy
      clear hy
      have Hst : Hid (_ ∧ _) := World.ownsRow.stored hown.out (15 - k) (.int .i64 ((f k * m + y) % 10))
      have hlt15 : 15 - (k : Int) < 16 := by omega
      go_wp2
      go_roundw
      case rel =>
        refine ⟨k + 1, by omega, Ln.val_int (by omega), Ln.val_int Hs.out.symm, ?_, ?_⟩
        · have := Hst.out.1
          rw [lowsF, Hd.out, List.map_set]
          exact this
        · exact hbel.setCell (Nat.le_refl _) _
      case measure => simp [intOf]; omega
    · have hd : decide ((0 : Int) ≤ 15 - (k : Int)) = false := by simp; omega
      go_wp2
      go_ret2
      have e : k = 16 := by omega
      subst e
      refine ⟨_, rfl, ?_, hbel⟩
      have := hown.out
      rw [lowsF_all] at this
      unfold Has
      rw [highsF_length]
      exact this
theorem smul_no (x k : Int) (w : World) (x0 : 0 ≤ x) (x1 : x ≤ 18446744073709551615) (h : Ln.okB 0 x = false ∨ k < 0 ∨ 10 < k) :
    Calls Tryd.prog 19 #[.int .u64 x, .int .i64 k] w fun e w' => e = .returned (.tuple #[.int .u64 0, .int .i64 0, .bool false]) ∧ Below w.heap.size w w' := by
  cases kx : Ln.okB 0 x with
  | false =>
    have Kx : Hid (Ln.okB 0 x = false) := kx
    clear kx h
    go_enter Tryd.func19, Tryd.ntmps19
    go_wp2_with fail
    refine (l1PlainOk_any x _ x0 x1).mono ?_
    rintro e w1 ⟨rfl, hb1⟩
    rw [Kx.out]
    go_wp2
    go_ret3
    exact ⟨rfl, hb1⟩
  | true =>
    have Kx : Hid (Ln.okB 0 x = true) := kx
    have hk : k < 0 ∨ 10 < k := by rcases h with h | h; rw [kx] at h; cases h; exact h
    clear kx h
    go_enter Tryd.func19, Tryd.ntmps19
    go_wp2_with fail
    refine (l1PlainOk_any x _ x0 x1).mono ?_
    rintro e w1 ⟨rfl, hb1⟩
    rw [Kx.out]
    go_wp2_with fail
    refine (l1In_no k 0 10 _ hk).mono ?_
    rintro e w' ⟨rfl, rfl⟩
    go_wp2
    go_ret3
    exact ⟨rfl, hb1⟩
theorem smul_yes (x k : Int) (w : World) (x0 : 0 ≤ x) (x1 : x ≤ 18446744073709551615) (kx : Ln.okB 0 x = true) (k0 : 0 ≤ k) (k10 : k ≤ 10) :
    Calls Tryd.prog 19 #[.int .u64 x, .int .i64 k] w fun e w' => e = .returned (.tuple #[.int .u64 (mulV x k), .int .i64 (mulC x k), .bool true]) ∧ Below w.heap.size w w' := by
  have Kx : Hid (Ln.okB 0 x = true) := kx
  have nx : Hid (Nine (Ln.ln x)) := ok_nine x kx
  clear kx
  go_enter Tryd.func19, Tryd.ntmps19
  go_wp2_with fail
  refine (l1PlainOk_any x _ x0 x1).mono ?_
  rintro e w1 ⟨rfl, hb1⟩
  have hs1 := hb1.size
  rw [Kx.out]
  go_wp2_with fail
  refine (l1In_yes k 0 10 _ k0 k10).mono ?_
  rintro e w' ⟨rfl, rfl⟩
  go_wp2_with fail
  refine (l1PlainDigits_any x _ x0 x1 Kx.out).mono ?_
  rintro e w2 ⟨va, rfl, hva, hb2⟩
  have hs2 := hb2.size
  go_wp2_with fail
  refine (l4Times_any va (Ln.ln x) k _ _ hva nx.out k0 k10).mono ?_
  rintro e w3 ⟨v, rfl, hv, hb3⟩
  have hs3 := hb3.size
  go_wp2_with fail
  refine (l1Pack_plain v _ (mdg_nine _ _) _ _ hv).mono ?_
  rintro e w4 ⟨rfl, hb4⟩
  go_wp2
  go_ret3
  exact ⟨rfl, ((hb1.trans (hb2.mono hs1)).trans (hb3.mono (by omega))).trans (hb4.mono (by omega))⟩
/-- The model's Multiple at a k from 0 to 10, of a word that may be wrong. -/
theorem smul_any (x k : Int) (w : World) (x0 : 0 ≤ x) (x1 : x ≤ 18446744073709551615) (k0 : 0 ≤ k) (k10 : k ≤ 10) :
    Calls Tryd.prog 19 #[.int .u64 x, .int .i64 k] w fun e w' => e = .returned (.tuple #[.int .u64 (if Ln.okB 0 x then mulV x k else 0), .int .i64 (if Ln.okB 0 x then mulC x k else 0), .bool (Ln.okB 0 x)]) ∧ Below w.heap.size w w' := by
  cases kx : Ln.okB 0 x with
  | true => exact smul_yes x k w x0 x1 kx k0 k10
  | false => exact smul_no x k w x0 x1 (.inl kx)
end Go.Proofs.YtlbkhiphnllfpalDoor
