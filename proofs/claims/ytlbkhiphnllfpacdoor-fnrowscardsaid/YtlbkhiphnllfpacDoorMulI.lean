/-
  What easyMultiple of the program answers, walked.
-/
import Derived.Great.Walk
import Derived.Test.YtlbkhiphnllfpacDoorMulP
namespace Go.Proofs.YtlbkhiphnllfpacDoor
open Go.RowKit
set_option linter.unusedVariables false

/-- Rows of ten and the table of six of them. -/
def ints (l : List Int) : List Value := l.map (Value.int .i64)
def tbZ : Array Value := (ints (List.replicate 60 0)).toArray
def tb1 : Array Value := (ints [0, 0, 0, 0, 0, 0, 0, 0, 0, 0]).toArray
def tb2 : Array Value := (ints [0, 0, 0, 0, 0, 1, 1, 1, 1, 1]).toArray
def tb5 : Array Value := (ints [0, 0, 1, 1, 2, 2, 3, 3, 4, 4]).toArray
def tbA : Array Value := (ints [0, 0, 0, 0, 0, 0, 0, 0, 0, 0, 0, 0, 0, 0, 0, 0, 0, 0, 0, 0, 0, 0, 0, 0, 0, 1, 1, 1, 1, 1, 0, 0, 0, 0, 0, 0, 0, 0, 0, 0, 0, 0, 0, 0, 0, 0, 0, 0, 0, 0, 0, 0, 1, 1, 2, 2, 3, 3, 4, 4]).toArray
theorem tbA_at (t : Int) (ht : Easy t) (d : Int) (h0 : 0 ≤ d) (h9 : d ≤ 9) : tbA[t.toNat * 10 + d.toNat]? = some (.int .i64 (t * d / 10)) := by
  obtain ⟨n, rfl⟩ := Int.eq_ofNat_of_zero_le h0
  have hn : n ≤ 9 := by omega
  rcases ht with rfl | rfl | rfl <;> (match n, hn with
    | 0, _ => rfl
    | 1, _ => rfl
    | 2, _ => rfl
    | 3, _ => rfl
    | 4, _ => rfl
    | 5, _ => rfl
    | 6, _ => rfl
    | 7, _ => rfl
    | 8, _ => rfl
    | 9, _ => rfl)
/-- The world in which the table is laid. -/
def tbW (w : World) : World := (w.alloc (.cells tbZ 74)).setRow w.heap.size tbA
theorem tbW_heap (w : World) : (tbW w).heap[w.heap.size]? = some (.cells tbA 74) := setRow_heap _ _ _ _ _ _ (heap_alloc_new w _)
theorem tbW_below (w : World) : Below w.heap.size w (tbW w) := by
  have h := (Below.refl w.heap.size w).alloc (Nat.le_refl _) (.cells tbZ 74)
  refine ⟨h.os, h.tape, h.output, ?_, fun k hk => (setRow_other _ _ _ _ (Nat.ne_of_lt hk)).trans (h.block k hk)⟩
  unfold tbW
  rw [size_setRow]
  exact h.size
theorem tbW_cell (w : World) (t : Int) (ht : Easy t) (d : Int) (h0 : 0 ≤ d) (h9 : d ≤ 9) : (tbW w).cell? ⟨w.heap.size, t.toNat * 10 + d.toNat, none⟩ = some (.int .i64 (t * d / 10)) := by
  rw [cell_of_row _ _ _ _ _ _ (tbW_heap w)]
  exact tbA_at t ht d h0 h9
theorem ez_room (t d : Int) (ht : Easy t) (h0 : 0 ≤ d) (h9 : d ≤ 9) : 0 ≤ t * d ∧ t * d ≤ 45 ∧ 0 ≤ t ∧ t ≤ 5 := by
  rcases ht with rfl | rfl | rfl <;> omega
theorem easy1 (x t : Int) (ht : Easy t) (w : World) (x0 : 0 ≤ x) (x1 : x ≤ 18446744073709551615) (kx : Ln.okB 0 x = true) :
    Calls Tryd.prog 25 #[.int .u64 x, .int .i64 t] w fun e w' => e = .returned (.tuple #[.int .u64 (ezV x t), .int .i64 (ezC x t)]) ∧ Below w.heap.size w w' := by
  have nx : Hid (Nine (Ln.ln x)) := ok_nine x kx
  have Ht : Hid (Easy t) := ht
  clear kx ht
  go_enter Tryd.func25, Tryd.ntmps25
  go_wp2_with first
    | (refine wpList_buildTo rfl 73 _ rfl (some 13) rfl tb1 (by kernel_rfl) ?_)
    | (refine wpList_buildTo rfl 73 _ rfl (some 14) rfl tb2 (by kernel_rfl) ?_)
    | (refine wpList_buildTo rfl 73 _ rfl (some 15) rfl tb5 (by kernel_rfl) ?_)
    | (refine wpList_buildTo rfl 74 _ rfl (some 16) rfl tbA (by kernel_rfl) ?_)
    | (refine Great.wpList_allocTo rfl (some 6) rfl (.pointer (some ⟨w.heap.size, 0, none⟩)) (.cells tbZ 74) (by kernel_rfl) ?_)
    | (refine wpList_store_rowTo rfl 74 _ _ rfl rfl w.heap.size tbA rfl rfl 74 tbZ (heap_alloc_new w _) (by kernel_rfl) (by kernel_rfl) (by kernel_rfl) ?_; rw [show (w.alloc (.cells tbZ 74)).setRow w.heap.size tbA = tbW w from rfl])
  have hbel := tbW_below w
  have Hcell : Hid (∀ d : Int, 0 ≤ d → d ≤ 9 → (tbW w).cell? ⟨w.heap.size, t.toNat * 10 + d.toNat, none⟩ = some (.int .i64 (t * d / 10))) := fun d => tbW_cell w t Ht.out d
  generalize tbW w = W at *
  go_loop [7, 8, 17] (fun s cv l => ∃ k : Nat, k ≤ 16 ∧ l = .int .i64 k ∧ cv = .int .i64 (ezc (Ln.ln x) t k) ∧ s = .int .u64 (Sm (ez (Ln.ln x) t) k)) (fun _ _ l => 16 - (intOf l).toNat)
  case atStart => exact ⟨0, Nat.zero_le _, rfl, rfl, rfl⟩
  case round =>
    obtain ⟨k, hk, rfl, rfl, rfl⟩ := hrel
    by_cases hlt : k < 16
    · have hA := nx.out k hlt
      have hC := ezc_bd (Ln.ln x) t Ht.out nx.out k (by omega)
      have hE := ez_nine (Ln.ln x) t Ht.out nx.out k hlt
      have hS := Sm_bd (ez (Ln.ln x) t) (ez_nine _ _ Ht.out nx.out) k (by omega)
      have HS : Hid (Sm (ez (Ln.ln x) t) k < 16 ^ k) := hS.2
      have hS0 := hS.1
      have hR := ez_room t (Ln.ln x k) Ht.out hA.1 hA.2
      have hcell := Hcell.out (Ln.ln x k) hA.1 hA.2
      have Hs : Hid (ezc (Ln.ln x) t (k + 1) = t * Ln.ln x k / 10) := ezc_succ _ _ k
      have Hd : Hid (ez (Ln.ln x) t k = t * Ln.ln x k - 10 * (t * Ln.ln x k / 10) + ezc (Ln.ln x) t k) := ez_def _ _ k
      rw [Hd.out] at hE
      generalize ezc (Ln.ln x) t k = y at *
      go_wp2_with fail
      refine (laneAt_any x _ k _ rfl (by omega) x0 x1).mono ?_
      rintro e w' ⟨rfl, rfl⟩
      go_wp2
      go_round
      case rel =>
        refine ⟨k + 1, by omega, by go_num, Ln.val_int (by rw [Hs.out]), Ln.val_int ?_⟩
        rw [orK _ _ k hS0 HS.out (by omega) (by omega) hlt, Sm, Hd.out]
      case measure => simp [intOf]; omega
    · go_wp2
      go_ret2
      have e : k = 16 := by omega
      subst e
      exact ⟨rfl, hbel⟩
end Go.Proofs.YtlbkhiphnllfpacDoor
