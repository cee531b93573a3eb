/-
  RoundDigits of the program at any arguments, walked.
-/
import Derived.Test.YtdkpiofeidcffaaGreatDoorRdj
import Derived.Laws.EntriesVeiled
import Derived.Deep.RegionWith
import Derived.Test.YtdkpiofeidcffaaGreatDoorRnd2
import Derived.Shelf.Abstract
namespace Go.Proofs.YtdkpiofeidcffaaGreatDoor
open Go.RowKit
set_option linter.unusedVariables false
set_option maxRecDepth 100000
theorem iClone_any (s : ByteArray) (w : World) (hs : s.size ≤ 600) :
    Calls Tryz.prog 19 #[.string s] w fun e w' => e = .returned (.string s) ∧ Below w.heap.size w w' := by
  go_enter Tryz.func19, Tryz.ntmps19
  go_wp2_with fail
  refine (Tryz.stringslite_Clone s _ (by omega)).mono ?_
  rintro e w1 ⟨rfl, hb⟩
  go_wp2
  go_ret
  exact ⟨rfl, hb⟩
abbrev fnV (F : Nat) : Value := .func (.func F) #[] #[]
theorem results_rd {fn : Func} {p t : Tmp} {b : Nat} {x : Value} (h : fn.results = #[.cell p 55, .tmp t]) (tmps : Array Value) (w : World) (hp : tmps[p]?.getD undef = .pointer (some ⟨b, 0, none⟩))
    (q0 : w.cell? ⟨b, 0, none⟩ = some x) : (results fn tmps).run Tryz.prog w = .ok (.tuple #[.agg #[x], tmps.getD t undef]) w := by
  simp [results, h, hp, go_sem, q0]
theorem new_at (w : World) (o : Obj) : (w.alloc o).heap[w.heap.size]? = some o := by
  show (w.heap.push o)[w.heap.size]? = some o
  exact Array.getElem?_push_size
theorem new_size (w : World) (o : Obj) : (w.alloc o).heap.size = w.heap.size + 1 := by
  show (w.heap.push o).size = w.heap.size + 1
  exact Array.size_push _
theorem new_cell1 (w : World) (x : Value) (T : TypeId) : (w.alloc (.cells #[x] T)).cell? ⟨w.heap.size, 0, none⟩ = some x := by
  have h := new_at w (.cells #[x] T)
  unfold World.cell?
  simp only [h]
  rfl
theorem new3 (w : World) (x y z : Value) (T : TypeId) : (w.alloc (.cells #[x, y, z] T)).cell? ⟨w.heap.size, 2, none⟩ = some z := by
  have h := new_at w (.cells #[x, y, z] T)
  unfold World.cell?
  simp only [h]
  rfl
theorem two_cell (w : World) (x : Value) (T : TypeId) (o : Obj) : ((w.alloc (.cells #[x] T)).alloc o).cell? ⟨w.heap.size, 0, none⟩ = some x := by
  have h2 : w.heap.size < (w.alloc (.cells #[x] T)).heap.size := by rw [new_size]; omega
  exact (((Below.refl _ (w.alloc (.cells #[x] T))).alloc (Nat.le_refl _) o).cell (p := ⟨w.heap.size, 0, none⟩) h2).trans (new_cell1 w x T)
theorem two_below (w : World) (o o' : Obj) : Below w.heap.size w ((w.alloc o).alloc o') := ((Below.refl _ _).alloc (Nat.le_refl _) _).alloc (by rw [new_size]; omega) _
set_option maxRecDepth 100000 in
theorem roundingOf_1 (w : World) :
    Calls Tryz.prog 26 #[.int .i64 1] w fun e w' => e = .returned (.tuple #[.agg #[fnV 51], .bool true]) ∧ Below w.heap.size w w' := by
  go_enter Tryz.func26, Tryz.ntmps26
  go_wp2
  refine bodyPost_ret (results_rd rfl _ _ rfl (two_cell _ _ _ _)) rfl ?_
  exact ⟨rfl, two_below _ _ _⟩
set_option maxRecDepth 100000 in
theorem roundingOf_2 (w : World) :
    Calls Tryz.prog 26 #[.int .i64 2] w fun e w' => e = .returned (.tuple #[.agg #[fnV 52], .bool true]) ∧ Below w.heap.size w w' := by
  go_enter Tryz.func26, Tryz.ntmps26
  go_wp2
  refine bodyPost_ret (results_rd rfl _ _ rfl (two_cell _ _ _ _)) rfl ?_
  exact ⟨rfl, two_below _ _ _⟩
set_option maxRecDepth 100000 in
theorem roundingOf_3 (w : World) :
    Calls Tryz.prog 26 #[.int .i64 3] w fun e w' => e = .returned (.tuple #[.agg #[fnV 53], .bool true]) ∧ Below w.heap.size w w' := by
  go_enter Tryz.func26, Tryz.ntmps26
  go_wp2
  refine bodyPost_ret (results_rd rfl _ _ rfl (two_cell _ _ _ _)) rfl ?_
  exact ⟨rfl, two_below _ _ _⟩
set_option maxRecDepth 100000 in
theorem roundingOf_4 (w : World) :
    Calls Tryz.prog 26 #[.int .i64 4] w fun e w' => e = .returned (.tuple #[.agg #[fnV 54], .bool true]) ∧ Below w.heap.size w w' := by
  go_enter Tryz.func26, Tryz.ntmps26
  go_wp2
  refine bodyPost_ret (results_rd rfl _ _ rfl (two_cell _ _ _ _)) rfl ?_
  exact ⟨rfl, two_below _ _ _⟩
set_option maxRecDepth 100000 in
theorem roundingOf_5 (w : World) :
    Calls Tryz.prog 26 #[.int .i64 5] w fun e w' => e = .returned (.tuple #[.agg #[fnV 55], .bool true]) ∧ Below w.heap.size w w' := by
  go_enter Tryz.func26, Tryz.ntmps26
  go_wp2
  refine bodyPost_ret (results_rd rfl _ _ rfl (two_cell _ _ _ _)) rfl ?_
  exact ⟨rfl, two_below _ _ _⟩
set_option maxRecDepth 100000 in
theorem roundingOf_no (m : Int) (hm : ¬ (1 ≤ m ∧ m ≤ 5)) (w : World) :
    Calls Tryz.prog 26 #[.int .i64 m] w fun e w' => e = .returned (.tuple #[.agg #[.nilFunc], .bool false]) ∧ Below w.heap.size w w' := by
  by_cases h1 : m < 1
  · go_enter Tryz.func26, Tryz.ntmps26
    go_wp2
    refine bodyPost_ret (results_rd rfl _ _ rfl (two_cell _ _ _ _)) rfl ?_
    exact ⟨rfl, two_below _ _ _⟩
  · have h2 : 5 < m := by omega
    clear hm
    go_enter Tryz.func26, Tryz.ntmps26
    go_wp2
    refine bodyPost_ret (results_rd rfl _ _ rfl (two_cell _ _ _ _)) rfl ?_
    exact ⟨rfl, two_below _ _ _⟩
theorem up_lost (mode : Int) (neg : Bool) (v : Int) (k : Nat) (rest : Bool) (h : rndU mode neg v k rest = true) : rndL v k rest = true := by
  rw [← grw_up] at h
  rw [← prt_lost]
  refine decide_eq_true fun q => ?_
  rw [q] at h
  unfold grw at h
  revert h
  repeat' split
  all_goals simp
theorem prt_cases (r m : Int) (rest : Bool) : prt r m rest = 0 ∨ prt r m rest = 1 ∨ prt r m rest = 2 ∨ prt r m rest = 3 := by
  unfold prt
  repeat' split
  all_goals simp
set_option maxRecDepth 100000 in
set_option maxHeartbeats 1000000 in
theorem roundOff_any (F : Nat) (mode : Int) (hent : ∀ args w, (callFunc F args).run Tryz.prog w = .ok (.enter F args) w)
    (HG : Hid (∀ neg od p, (p = 0 ∨ p = 1 ∨ p = 2 ∨ p = 3) → ∀ X, Calls Tryz.prog F #[cutV neg od p] X fun e w' => e = .returned (.bool (grw mode neg od p)) ∧ Below X.heap.size X w'))
    (neg : Bool) (ds : List Int) (k : Nat) (rest : Bool) (w : World) (hc : Canon ds) (hl : ds.length ≤ 200) (hk : k ≤ 200) :
    Calls Tryz.prog 87 #[.agg #[fnV F], .bool neg, .string (tx ds), .int .i64 k, .bool rest] w fun e w' => e = .returned (.tuple #[.string (tx (nt (rndV mode neg (vl ds) k rest))), .bool (rndL (vl ds) k rest)]) ∧ Below w.heap.size w w' := by
  have hlen := zpad_len (k + 1) ds
  obtain ⟨n, hn⟩ : ∃ n, (zpad (k + 1) ds).length = n + k := ⟨(zpad (k + 1) ds).length - k, by omega⟩
  have HS : Hid (∀ X, Calls Tryz.prog 49 #[.string (tx ds), .int .i64 k] X fun e w' => e = .returned (.tuple #[.string (tx ((zpad (k + 1) ds).take n)), .string (tx ((zpad (k + 1) ds).drop n))]) ∧ Below X.heap.size X w') := fun X => iSplit_any ds k n (by omega) hk hn X
  have hK := kept_canon ds hc k n hn
  have cv := cut_vl_two (zpad (k + 1) ds) (zpad_dec _ _ hc.1) n k hn
  rw [zpad_vl] at cv
  have hKl : ((zpad (k + 1) ds).take n).length = n := by rw [List.length_take]; omega
  have hGl : ((zpad (k + 1) ds).drop n).length = k := by rw [List.length_drop]; omega
  have dG : Dec ((zpad (k + 1) ds).drop n) := fun d hd => zpad_dec _ _ hc.1 d (List.mem_of_mem_drop hd)
  have hn2 : n ≤ 200 ∧ 0 < n := by omega
  clear hlen hn hl
  generalize (zpad (k + 1) ds).take n = K at *
  generalize (zpad (k + 1) ds).drop n = G at *
  have HO : Hid (∀ X, Calls Tryz.prog 103 #[.string (tx K)] X fun e w' => e = .returned (.bool (decide ((vl ds / 10 ^ k) % 2 = 1))) ∧ w' = X) := fun X => by
    have := iOdd_any K hK.1 (by omega) (by omega) X
    rw [cv.1] at this
    exact this
  have HP : Hid (∀ X, Calls Tryz.prog 104 #[.string (tx G), .bool rest] X fun e w' => e = .returned (.int .i64 (prt (vl ds % 10 ^ k) (10 ^ k) rest)) ∧ Below X.heap.size X w') := fun X => by
    have := iPart_any G rest dG (by omega) X
    rw [cv.2, hGl] at this
    exact this
  have HU : Hid (∀ X, Calls Tryz.prog F #[cutV neg (decide ((vl ds / 10 ^ k) % 2 = 1)) (prt (vl ds % 10 ^ k) (10 ^ k) rest)] X fun e w' => e = .returned (.bool (rndU mode neg (vl ds) k rest)) ∧ Below X.heap.size X w') := fun X => by
    have := HG.out neg (decide ((vl ds / 10 ^ k) % 2 = 1)) (prt (vl ds % 10 ^ k) (10 ^ k) rest) (prt_cases _ _ _) X
    rw [grw_up] at this
    exact this
  have HA : Hid (∀ X, Calls Tryz.prog 105 #[.string (tx K)] X fun e w' => e = .returned (.string (tx (nt (vl ds / 10 ^ k + 1)))) ∧ Below X.heap.size X w') := fun X => by
    have := iOneMore_any K hK (by omega) X
    rw [cv.1] at this
    exact this
  have HC : Hid (∀ X, Calls Tryz.prog 19 #[.string (tx K)] X fun e w' => e = .returned (.string (tx K)) ∧ Below X.heap.size X w') := fun X => iClone_any (tx K) X (by rw [tx_size]; omega)
  have HK : Hid (K = nt (vl ds / 10 ^ k)) := nt_of K _ hK cv.1 (by omega)
  have HL : Hid (decide (prt (vl ds % 10 ^ k) (10 ^ k) rest ≠ 0) = rndL (vl ds) k rest) := prt_lost _ _ _
  have HUL : Hid (rndU mode neg (vl ds) k rest = true → rndL (vl ds) k rest = true) := up_lost _ _ _ _ _
  have HRV : Hid (rndV mode neg (vl ds) k rest = vl ds / 10 ^ k + (if rndU mode neg (vl ds) k rest then 1 else 0)) := rfl
  have wk : IntKind.i64.wrap (k : Int) = (k : Int) := by rw [IntKind.wrap_i64]; omega
  clear HG cv hK dG hGl hKl hc
  generalize rndU mode neg (vl ds) k rest = U at *
  generalize rndV mode neg (vl ds) k rest = RV at *
  generalize rndL (vl ds) k rest = LO at *
  generalize prt (vl ds % 10 ^ k) (10 ^ k) rest = PP at *
  generalize (decide ((vl ds / 10 ^ k) % 2 = 1)) = OD at *
  generalize vl ds / 10 ^ k = Q at *
  go_enter Tryz.func87, Tryz.ntmps87
  go_wp2_with fail
  refine (HS.out _).mono ?_
  rintro e w1 ⟨rfl, hb1⟩
  go_wp2_with fail
  refine (HO.out _).mono ?_
  rintro e w2 ⟨rfl, rfl⟩
  go_wp2_with fail
  refine (HP.out _).mono ?_
  rintro e w3 ⟨rfl, hb3⟩
  have hsz : w.heap.size < (w.alloc (.cells #[fnV F] 55)).heap.size := by rw [new_size]; omega
  have c0 := new_cell1 w (fnV F) 55
  have c1 := (hb1.cell (p := ⟨w.heap.size, 0, none⟩) hsz).trans c0
  have c3 := (hb3.cell (p := ⟨w.heap.size, 0, none⟩) (Nat.lt_of_lt_of_le hsz hb1.size)).trans c1
  have hw3 : w.heap.size < w3.heap.size := Nat.lt_of_lt_of_le hsz (Nat.le_trans hb1.size hb3.size)
  have HB : Hid (Below w.heap.size w w3 ∧ w.heap.size < w3.heap.size) := ⟨(((Below.refl _ w).alloc (Nat.le_refl _) _).trans (hb1.mono (Nat.le_of_lt hsz))).trans (hb3.mono (Nat.le_of_lt (Nat.lt_of_lt_of_le hsz hb1.size))), hw3⟩
  have cX : ∀ o, (w3.alloc o).cell? ⟨w.heap.size, 0, none⟩ = some (.func (.func F) #[] #[]) := fun o => (((Below.refl _ w3).alloc (Nat.le_refl _) o).cell (p := ⟨w.heap.size, 0, none⟩) hw3).trans c3
  clear hsz c0 c1 c3 hw3 hb1 hb3
  go_wp2_with fail
  refine (HU.out _).mono ?_
  rintro e w4 ⟨rfl, hb4⟩
  have HB4 : Hid (Below w.heap.size w w4) := by
    have h1 := new_size w3 (.cells #[.bool neg, .bool OD, .int .i64 PP] 116)
    exact (HB.out.1.trans ((Below.refl _ w3).alloc (Nat.le_of_lt HB.out.2) _)).trans (hb4.mono (by rw [h1]; have := HB.out.2; omega))
  have hlt : w3.heap.size < (w3.alloc (.cells #[.bool neg, .bool OD, .int .i64 PP] 116)).heap.size := by rw [new_size]; omega
  have q2 := (hb4.cell (p := ⟨w3.heap.size, 2, none⟩) hlt).trans (new3 w3 (.bool neg) (.bool OD) (.int .i64 PP) 116)
  have HQ : Hid (w3.heap.size < w4.heap.size) := Nat.lt_of_lt_of_le hlt hb4.size
  clear hb4 HB cX hlt
  cases U
  · have HR : Hid (RV = Q) := by have := HRV.out; show _ = _; simpa using this
    have HX : Hid ((PP != 0) = LO) := by
      show _ = _
      rw [← HL.out]
      by_cases h : PP = 0
      · subst h; rfl
      · simp [h]
    have HQ2 : Hid (∀ w5, Below w4.drew.heap.size w4.drew w5 → w5.cell? ⟨w3.heap.size, 2, none⟩ = some (.int .i64 PP) ∧ Below w.heap.size w w5) := fun w5 h => ⟨(h.cell (p := ⟨w3.heap.size, 2, none⟩) HQ.out).trans q2, HB4.out.drew.trans (h.mono HB4.out.size)⟩
    go_wp2_with fail
    go_region_with (go_at_call 19; refine (HC.out _).mono ?_; rintro e w5 ⟨rfl, hb5⟩; obtain ⟨q5, hB5⟩ := HQ2.out _ hb5; clear hb5)
    all_goals
      go_wp2
      go_ret2
      exact ⟨by rw [HR.out, ← HK.out, ← HX.out]; rfl, hB5⟩
  · have hLO : LO = true := HUL.out rfl
    subst hLO
    have HR : Hid (RV = Q + 1) := by have := HRV.out; show _ = _; simpa using this
    go_wp2_with fail
    refine (HA.out _).mono ?_
    rintro e w5 ⟨rfl, hb5⟩
    go_wp2
    go_ret2
    exact ⟨by rw [HR.out]; rfl, HB4.out.trans (hb5.mono HB4.out.size)⟩
end Go.Proofs.YtdkpiofeidcffaaGreatDoor
namespace Go.Proofs.YtdkpiofeidcffaaGreatDoor
open Go.RowKit Go.Shelf
set_option linter.unusedVariables false
set_option maxRecDepth 100000
/-- A mode that is one: its function, and what that tells. -/
theorem rounding_yes (mode : Int) (hm : 1 ≤ mode ∧ mode ≤ 5) : ∃ F : Nat, (∀ args w, (callFunc F args).run Tryz.prog w = .ok (.enter F args) w)
    ∧ (∀ neg od p, (p = 0 ∨ p = 1 ∨ p = 2 ∨ p = 3) → ∀ X, Calls Tryz.prog F #[cutV neg od p] X fun e w' => e = .returned (.bool (grw mode neg od p)) ∧ Below X.heap.size X w')
    ∧ ∀ X, Calls Tryz.prog 26 #[.int .i64 mode] X fun e w' => e = .returned (.tuple #[.agg #[fnV F], .bool true]) ∧ Below X.heap.size X w' := by
  have hc : mode = 1 ∨ mode = 2 ∨ mode = 3 ∨ mode = 4 ∨ mode = 5 := by omega
  rcases hc with rfl | rfl | rfl | rfl | rfl
  · exact ⟨_, enters_of Tryz.func51 (by kernel_rfl) rfl, fun neg od p hp X => grow1 neg od p hp X, roundingOf_1⟩
  · exact ⟨_, enters_of Tryz.func52 (by kernel_rfl) rfl, fun neg od p hp X => grow2 neg od p hp X, roundingOf_2⟩
  · exact ⟨_, enters_of Tryz.func53 (by kernel_rfl) rfl, fun neg od p hp X => grow3 neg od p hp X, roundingOf_3⟩
  · exact ⟨_, enters_of Tryz.func54 (by kernel_rfl) rfl, fun neg od p hp X => grow4 neg od p hp X, roundingOf_4⟩
  · exact ⟨_, enters_of Tryz.func55 (by kernel_rfl) rfl, fun neg od p hp X => grow5 neg od p hp X, roundingOf_5⟩
end Go.Proofs.YtdkpiofeidcffaaGreatDoor
