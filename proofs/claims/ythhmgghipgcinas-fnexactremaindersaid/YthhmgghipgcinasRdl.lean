/-
  RoundDigits of the program at any arguments, walked.
-/
import Derived.Test.YthhmgghipgcinasRdj
import Derived.Laws.EntriesVeiled
import Derived.Deep.RegionWith
import Derived.Test.YthhmgghipgcinasRnd2
import Derived.Shelf.Abstract
namespace Go.Proofs.Ythhmgghipgcinas
open Go.RowKit
set_option linter.unusedVariables false
set_option maxRecDepth 100000
theorem iClone_any (s : ByteArray) (w : World) (hs : s.size ≤ 600) :
    Calls Try.prog 47 #[.string s] w fun e w' => e = .returned (.string s) ∧ Below w.heap.size w w' := by
  go_enter Try.func47, Try.ntmps47
  go_wp2_with fail
  refine (Try.stringslite_Clone s _ (by omega)).mono ?_
  rintro e w1 ⟨rfl, hb⟩
  go_wp2
  go_ret
  exact ⟨rfl, hb⟩
abbrev fnV (F : Nat) : Value := .func (.func F) #[] #[]
theorem results_rd {fn : Func} {p t : Tmp} {b : Nat} {x : Value} (h : fn.results = #[.cell p 81, .tmp t]) (tmps : Array Value) (w : World) (hp : tmps[p]?.getD undef = .pointer (some ⟨b, 0, none⟩))
    (q0 : w.cell? ⟨b, 0, none⟩ = some x) : (results fn tmps).run Try.prog w = .ok (.tuple #[.agg #[x], tmps.getD t undef]) w := by
  simp [results, h, hp, go_sem, q0]
theorem new_at (w : World) (o : Obj) : (w.alloc o).heap[w.heap.size]? = some o := by
  show (w.heap.push o)[w.heap.size]? = some o
  exact Array.getElem?_push_size
theorem new_size (w : World) (o : Obj) : (w.alloc o).heap.size = w.heap.size + 1 := by
  show (w.heap.push o).size = w.heap.size + 1
  exact Array.size_push _
theorem new_cell1 (w : World) (x : Value) (T : TypeId) : (w.alloc (.cells #[x] T)).cell? ⟨w.heap.size, 0, none⟩ = some x := by
  have h := new_at w (.cells #[x] T)
  unfold World.cell?
  simp only [h]
  rfl
theorem new3 (w : World) (x y z : Value) (T : TypeId) : (w.alloc (.cells #[x, y, z] T)).cell? ⟨w.heap.size, 2, none⟩ = some z := by
  have h := new_at w (.cells #[x, y, z] T)
  unfold World.cell?
  simp only [h]
  rfl
theorem two_cell (w : World) (x : Value) (T : TypeId) (o : Obj) : ((w.alloc (.cells #[x] T)).alloc o).cell? ⟨w.heap.size, 0, none⟩ = some x := by
  have h2 : w.heap.size < (w.alloc (.cells #[x] T)).heap.size := by rw [new_size]; omega
  exact (((Below.refl _ (w.alloc (.cells #[x] T))).alloc (Nat.le_refl _) o).cell (p := ⟨w.heap.size, 0, none⟩) h2).trans (new_cell1 w x T)
theorem two_below (w : World) (o o' : Obj) : Below w.heap.size w ((w.alloc o).alloc o') := ((Below.refl _ _).alloc (Nat.le_refl _) _).alloc (by rw [new_size]; omega) _
set_option maxRecDepth 100000 in
theorem roundingOf_1 (w : World) :
    Calls Try.prog 61 #[.int .i64 1] w fun e w' => e = .returned (.tuple #[.agg #[fnV 51], .bool true]) ∧ Below w.heap.size w w' := by
  go_enter Try.func61, Try.ntmps61
  go_wp2
  refine bodyPost_ret (results_rd rfl _ _ rfl (two_cell _ _ _ _)) rfl ?_
  exact ⟨rfl, two_below _ _ _⟩
set_option maxRecDepth 100000 in
theorem roundingOf_2 (w : World) :
    Calls Try.prog 61 #[.int .i64 2] w fun e w' => e = .returned (.tuple #[.agg #[fnV 74], .bool true]) ∧ Below w.heap.size w w' := by
  go_enter Try.func61, Try.ntmps61
  go_wp2
  refine bodyPost_ret (results_rd rfl _ _ rfl (two_cell _ _ _ _)) rfl ?_
  exact ⟨rfl, two_below _ _ _⟩
set_option maxRecDepth 100000 in
theorem roundingOf_3 (w : World) :
    Calls Try.prog 61 #[.int .i64 3] w fun e w' => e = .returned (.tuple #[.agg #[fnV 75], .bool true]) ∧ Below w.heap.size w w' := by
  go_enter Try.func61, Try.ntmps61
  go_wp2
  refine bodyPost_ret (results_rd rfl _ _ rfl (two_cell _ _ _ _)) rfl ?_
  exact ⟨rfl, two_below _ _ _⟩
set_option maxRecDepth 100000 in
theorem roundingOf_4 (w : World) :
    Calls Try.prog 61 #[.int .i64 4] w fun e w' => e = .returned (.tuple #[.agg #[fnV 76], .bool true]) ∧ Below w.heap.size w w' := by
  go_enter Try.func61, Try.ntmps61
  go_wp2
  refine bodyPost_ret (results_rd rfl _ _ rfl (two_cell _ _ _ _)) rfl ?_
  exact ⟨rfl, two_below _ _ _⟩
set_option maxRecDepth 100000 in
theorem roundingOf_5 (w : World) :
    Calls Try.prog 61 #[.int .i64 5] w fun e w' => e = .returned (.tuple #[.agg #[fnV 77], .bool true]) ∧ Below w.heap.size w w' := by
  go_enter Try.func61, Try.ntmps61
  go_wp2
  refine bodyPost_ret (results_rd rfl _ _ rfl (two_cell _ _ _ _)) rfl ?_
  exact ⟨rfl, two_below _ _ _⟩
set_option maxRecDepth 100000 in
theorem roundingOf_no (m : Int) (hm : ¬ (1 ≤ m ∧ m ≤ 5)) (w : World) :
    Calls Try.prog 61 #[.int .i64 m] w fun e w' => e = .returned (.tuple #[.agg #[.nilFunc], .bool false]) ∧ Below w.heap.size w w' := by
  by_cases h1 : m < 1
  · go_enter Try.func61, Try.ntmps61
    go_wp2
    refine bodyPost_ret (results_rd rfl _ _ rfl (two_cell _ _ _ _)) rfl ?_
    exact ⟨rfl, two_below _ _ _⟩
  · have h2 : 5 < m := by omega
    clear hm
    go_enter Try.func61, Try.ntmps61
    go_wp2
    refine bodyPost_ret (results_rd rfl _ _ rfl (two_cell _ _ _ _)) rfl ?_
    exact ⟨rfl, two_below _ _ _⟩
theorem up_lost (mode : Int) (neg : Bool) (v : Int) (k : Nat) (rest : Bool) (h : rndU mode neg v k rest = true) : rndL v k rest = true := by
  rw [← grw_up] at h
  rw [← prt_lost]
  refine decide_eq_true fun q => ?_
  rw [q] at h
  unfold grw at h
  revert h
  repeat' split
  all_goals simp
theorem prt_cases (r m : Int) (rest : Bool) : prt r m rest = 0 ∨ prt r m rest = 1 ∨ prt r m rest = 2 ∨ prt r m rest = 3 := by
  unfold prt
  repeat' split
  all_goals simp
end Go.Proofs.Ythhmgghipgcinas
namespace Go.Proofs.Ythhmgghipgcinas
open Go.RowKit Go.Shelf
set_option linter.unusedVariables false
set_option maxRecDepth 100000
/-- A mode that is one: its function, and what that tells. -/
theorem rounding_yes (mode : Int) (hm : 1 ≤ mode ∧ mode ≤ 5) : ∃ F : Nat, (∀ args w, (callFunc F args).run Try.prog w = .ok (.enter F args) w)
    ∧ (∀ neg od p, (p = 0 ∨ p = 1 ∨ p = 2 ∨ p = 3) → ∀ X, Calls Try.prog F #[cutV neg od p] X fun e w' => e = .returned (.bool (grw mode neg od p)) ∧ Below X.heap.size X w')
    ∧ ∀ X, Calls Try.prog 61 #[.int .i64 mode] X fun e w' => e = .returned (.tuple #[.agg #[fnV F], .bool true]) ∧ Below X.heap.size X w' := by
  have hc : mode = 1 ∨ mode = 2 ∨ mode = 3 ∨ mode = 4 ∨ mode = 5 := by omega
  rcases hc with rfl | rfl | rfl | rfl | rfl
  · exact ⟨_, enters_of Try.func51 (by kernel_rfl) rfl, fun neg od p hp X => grow1 neg od p hp X, roundingOf_1⟩
  · exact ⟨_, enters_of Try.func74 (by kernel_rfl) rfl, fun neg od p hp X => grow2 neg od p hp X, roundingOf_2⟩
  · exact ⟨_, enters_of Try.func75 (by kernel_rfl) rfl, fun neg od p hp X => grow3 neg od p hp X, roundingOf_3⟩
  · exact ⟨_, enters_of Try.func76 (by kernel_rfl) rfl, fun neg od p hp X => grow4 neg od p hp X, roundingOf_4⟩
  · exact ⟨_, enters_of Try.func77 (by kernel_rfl) rfl, fun neg od p hp X => grow5 neg od p hp X, roundingOf_5⟩
end Go.Proofs.Ythhmgghipgcinas
