/-
  Finish of the program, of a nought; in one word, walked.
-/
import Derived.Test.YtndnoblcnjccdafGreatDoorFnf
namespace Go.Proofs.YtndnoblcnjccdafGreatDoor
open Go.RowKit
set_option linter.unusedVariables false
set_option maxRecDepth 100000
theorem build_res0n (k : Int) (b : Bool) (e : Int) (s : ByteArray) (w : World) : (Instr.build 29 #[(0, numV k b e s)]).run Tryz.prog w = .ok (rsV k b e s 0) w := run_build w _ _ _ (by kernel_rfl)
set_option maxRecDepth 100000 in
set_option maxHeartbeats 4000000 in
theorem iFinish_z64 (mode : Int) (hm : 1 ≤ mode ∧ mode ≤ 5) (neg : Bool) (e want : Int) (w : World) (he : -200000 ≤ e ∧ e ≤ 200000) (hwt : -200000 ≤ want ∧ want ≤ 200000) :
    Calls Tryz.prog 75 #[.int .i64 64, .int .i64 mode, .bool neg, .string { data := #[48] }, .int .i64 e, .bool false, .int .i64 want] w fun x w' => x = .returned (rsV 1 neg (min (max want (-398)) 369) { data := #[48] } 0) ∧ Below w.heap.size w w' := by
  obtain ⟨Fn, hent, HG0, HR0⟩ := rounding_yes mode hm
  have HR : Hid (∀ X, Calls Tryz.prog 95 #[.int .i64 mode] X fun e w' => e = .returned (.tuple #[.agg #[fnV Fn], .bool true]) ∧ Below X.heap.size X w') := HR0
  clear HG0 HR0 hent hm
  have HNok : Hid (∀ X, Calls Tryz.prog 116 #[.string { data := #[48] }] X fun x w' => x = .returned (.bool true) ∧ w' = X) := fun X => by
    have := iNatOk_any (tx [0]) X (by rw [tx_size]; decide)
    rwa [natB_tx 200 [0] canon_zero (by decide), show tx [0] = { data := #[48] } by apply ByteArray.ext; rw [tx_data]; rfl] at this
  have HE1 : Hid (∀ X, Calls Tryz.prog 119 #[.int .i64 e] X fun x w' => x = .returned (.bool true) ∧ w' = X) := fun X => isExp_yes e X he
  have HE2 : Hid (∀ X, Calls Tryz.prog 119 #[.int .i64 want] X fun x w' => x = .returned (.bool true) ∧ w' = X) := fun X => isExp_yes want X hwt
  have HZ : Hid (At5 (w.alloc (.cells #[.int .i64 0, .bool false, .int .i64 0, .string { data := #[] }, .int .i64 0] 29)) w.heap.size (.int .i64 0) (.bool false) (.int .i64 0) (.string { data := #[] }) (.int .i64 0) ∧ Below w.heap.size w (w.alloc (.cells #[.int .i64 0, .bool false, .int .i64 0, .string { data := #[] }, .int .i64 0] 29))) := ⟨at5_new w _ _ _ _ _, (Below.refl _ _).alloc (Nat.le_refl _) _⟩
  obtain ⟨mx, hmx⟩ : ∃ m, max want (-398) = m := ⟨_, rfl⟩
  obtain ⟨mn, hmn⟩ : ∃ m, min mx 369 = m := ⟨_, rfl⟩
  rw [hmx, hmn]
  have HM : Hid (max want (-398) = mx ∧ min mx 369 = mn) := ⟨hmx, hmn⟩
  clear hmx hmn he hwt
  go_enter Tryz.func75, Tryz.ntmps75
  go_wp2_with fail
  refine (fmtOf_64 _).mono ?_
  rintro x wa ⟨rfl, rfl⟩
  go_wp2_with fail
  refine (HR.out _).mono ?_
  rintro x w1 ⟨rfl, hb1⟩
  have HZ1 : Hid (At5 w1 w.heap.size (.int .i64 0) (.bool false) (.int .i64 0) (.string { data := #[] }) (.int .i64 0) ∧ Below w.heap.size w w1) := ⟨HZ.out.1.below hb1 HZ.out.1.lt, HZ.out.2.trans (hb1.mono HZ.out.2.size)⟩
  clear hb1 HZ HR
  have hnew := new_at w1 (.cells #[.nilFunc] 101)
  have h1c : (#[fnV Fn] : Array Value).all (·.oneCell') = true := by simp [Value.oneCell']
  go_wp2_with (refine wpList_store_row rfl 101 (.tmp 17) (.tmp 32) rfl w1.heap.size #[fnV Fn] rfl rfl _ _ hnew (by kernel_rfl) rfl h1c ?_)
  have HA : Below w1.heap.size w1 ((w1.alloc (.cells #[.nilFunc] 101)).setRow w1.heap.size #[fnV Fn]) := bel_row ((Below.refl _ _).alloc (Nat.le_refl _) _) (Nat.le_refl _) _
  have HZ2 : Hid (At5 ((w1.alloc (.cells #[.nilFunc] 101)).setRow w1.heap.size #[fnV Fn]) w.heap.size (.int .i64 0) (.bool false) (.int .i64 0) (.string { data := #[] }) (.int .i64 0) ∧ Below w.heap.size w ((w1.alloc (.cells #[.nilFunc] 101)).setRow w1.heap.size #[fnV Fn])) := ⟨HZ1.out.1.below HA HZ1.out.1.lt, HZ1.out.2.trans (HA.mono HZ1.out.2.size)⟩
  generalize (w1.alloc (.cells #[.nilFunc] 101)).setRow w1.heap.size #[fnV Fn] = w2 at *
  clear hnew h1c HA HZ1
  generalize w1.heap.size = b1 at *
  refine (HNok.out _).mono ?_
  rintro x wx ⟨rfl, rfl⟩
  go_wp2_with fail
  refine (HE1.out _).mono ?_
  rintro x wy ⟨rfl, rfl⟩
  go_wp2_with fail
  refine (HE2.out _).mono ?_
  rintro x wz ⟨rfl, rfl⟩
  clear HNok HE1 HE2
  go_wp2_with fail
  refine (leastExp_64 _).mono ?_
  rintro x w3 ⟨rfl, hb3⟩
  have HZ3 : Hid (At5 w3 w.heap.size (.int .i64 0) (.bool false) (.int .i64 0) (.string { data := #[] }) (.int .i64 0) ∧ Below w.heap.size w w3) := ⟨HZ2.out.1.below hb3 HZ2.out.1.lt, HZ2.out.2.trans (hb3.mono HZ2.out.2.size)⟩
  clear hb3 HZ2
  have hmx := HM.out.1
  go_wp2_with fail
  refine (greatestExp_64 _).mono ?_
  rintro x w4 ⟨rfl, hb4⟩
  have HZ4 : Hid (At5 w4 w.heap.size (.int .i64 0) (.bool false) (.int .i64 0) (.string { data := #[] }) (.int .i64 0) ∧ Below w.heap.size w w4) := ⟨HZ3.out.1.below hb4 HZ3.out.1.lt, HZ3.out.2.trans (hb4.mono HZ3.out.2.size)⟩
  clear hb4 HZ3
  have hmn := HM.out.2
  have hbn := build_num 1 neg mn { data := #[48] }
  have hbr := build_res0n 1 neg mn { data := #[48] }
  go_wp2_with (refine wpList_store_row rfl 29 (.tmp 14) (.tmp 75) rfl w.heap.size #[.int .i64 1, .bool neg, .int .i64 mn, .string { data := #[48] }, .int .i64 0] rfl rfl _ _ HZ4.out.1 (by kernel_rfl) rfl (one5 _ _ _ _ _) ?_)
  have hP := (HZ4.out.1.row (.int .i64 1) (.bool neg) (.int .i64 mn) (.string { data := #[48] }) (.int .i64 0)).cells
  refine bodyPost_ret (results_res rfl _ _ rfl hP.1 hP.2.1 hP.2.2.1 hP.2.2.2.1 hP.2.2.2.2.1) rfl ?_
  exact ⟨rfl, bel_row HZ4.out.2 (Nat.le_refl _) _⟩
set_option maxRecDepth 100000 in
set_option maxHeartbeats 4000000 in
theorem iFinish_z128 (mode : Int) (hm : 1 ≤ mode ∧ mode ≤ 5) (neg : Bool) (e want : Int) (w : World) (he : -200000 ≤ e ∧ e ≤ 200000) (hwt : -200000 ≤ want ∧ want ≤ 200000) :
    Calls Tryz.prog 75 #[.int .i64 128, .int .i64 mode, .bool neg, .string { data := #[48] }, .int .i64 e, .bool false, .int .i64 want] w fun x w' => x = .returned (rsV 1 neg (min (max want (-6176)) 6111) { data := #[48] } 0) ∧ Below w.heap.size w w' := by
  obtain ⟨Fn, hent, HG0, HR0⟩ := rounding_yes mode hm
  have HR : Hid (∀ X, Calls Tryz.prog 95 #[.int .i64 mode] X fun e w' => e = .returned (.tuple #[.agg #[fnV Fn], .bool true]) ∧ Below X.heap.size X w') := HR0
  clear HG0 HR0 hent hm
  have HNok : Hid (∀ X, Calls Tryz.prog 116 #[.string { data := #[48] }] X fun x w' => x = .returned (.bool true) ∧ w' = X) := fun X => by
    have := iNatOk_any (tx [0]) X (by rw [tx_size]; decide)
    rwa [natB_tx 200 [0] canon_zero (by decide), show tx [0] = { data := #[48] } by apply ByteArray.ext; rw [tx_data]; rfl] at this
  have HE1 : Hid (∀ X, Calls Tryz.prog 119 #[.int .i64 e] X fun x w' => x = .returned (.bool true) ∧ w' = X) := fun X => isExp_yes e X he
  have HE2 : Hid (∀ X, Calls Tryz.prog 119 #[.int .i64 want] X fun x w' => x = .returned (.bool true) ∧ w' = X) := fun X => isExp_yes want X hwt
  have HZ : Hid (At5 (w.alloc (.cells #[.int .i64 0, .bool false, .int .i64 0, .string { data := #[] }, .int .i64 0] 29)) w.heap.size (.int .i64 0) (.bool false) (.int .i64 0) (.string { data := #[] }) (.int .i64 0) ∧ Below w.heap.size w (w.alloc (.cells #[.int .i64 0, .bool false, .int .i64 0, .string { data := #[] }, .int .i64 0] 29))) := ⟨at5_new w _ _ _ _ _, (Below.refl _ _).alloc (Nat.le_refl _) _⟩
  obtain ⟨mx, hmx⟩ : ∃ m, max want (-6176) = m := ⟨_, rfl⟩
  obtain ⟨mn, hmn⟩ : ∃ m, min mx 6111 = m := ⟨_, rfl⟩
  rw [hmx, hmn]
  have HM : Hid (max want (-6176) = mx ∧ min mx 6111 = mn) := ⟨hmx, hmn⟩
  clear hmx hmn he hwt
  go_enter Tryz.func75, Tryz.ntmps75
  go_wp2_with fail
  refine (fmtOf_128 _).mono ?_
  rintro x wa ⟨rfl, rfl⟩
  go_wp2_with fail
  refine (HR.out _).mono ?_
  rintro x w1 ⟨rfl, hb1⟩
  have HZ1 : Hid (At5 w1 w.heap.size (.int .i64 0) (.bool false) (.int .i64 0) (.string { data := #[] }) (.int .i64 0) ∧ Below w.heap.size w w1) := ⟨HZ.out.1.below hb1 HZ.out.1.lt, HZ.out.2.trans (hb1.mono HZ.out.2.size)⟩
  clear hb1 HZ HR
  have hnew := new_at w1 (.cells #[.nilFunc] 101)
  have h1c : (#[fnV Fn] : Array Value).all (·.oneCell') = true := by simp [Value.oneCell']
  go_wp2_with (refine wpList_store_row rfl 101 (.tmp 17) (.tmp 32) rfl w1.heap.size #[fnV Fn] rfl rfl _ _ hnew (by kernel_rfl) rfl h1c ?_)
  have HA : Below w1.heap.size w1 ((w1.alloc (.cells #[.nilFunc] 101)).setRow w1.heap.size #[fnV Fn]) := bel_row ((Below.refl _ _).alloc (Nat.le_refl _) _) (Nat.le_refl _) _
  have HZ2 : Hid (At5 ((w1.alloc (.cells #[.nilFunc] 101)).setRow w1.heap.size #[fnV Fn]) w.heap.size (.int .i64 0) (.bool false) (.int .i64 0) (.string { data := #[] }) (.int .i64 0) ∧ Below w.heap.size w ((w1.alloc (.cells #[.nilFunc] 101)).setRow w1.heap.size #[fnV Fn])) := ⟨HZ1.out.1.below HA HZ1.out.1.lt, HZ1.out.2.trans (HA.mono HZ1.out.2.size)⟩
  generalize (w1.alloc (.cells #[.nilFunc] 101)).setRow w1.heap.size #[fnV Fn] = w2 at *
  clear hnew h1c HA HZ1
  generalize w1.heap.size = b1 at *
  refine (HNok.out _).mono ?_
  rintro x wx ⟨rfl, rfl⟩
  go_wp2_with fail
  refine (HE1.out _).mono ?_
  rintro x wy ⟨rfl, rfl⟩
  go_wp2_with fail
  refine (HE2.out _).mono ?_
  rintro x wz ⟨rfl, rfl⟩
  clear HNok HE1 HE2
  go_wp2_with fail
  refine (leastExp_128 _).mono ?_
  rintro x w3 ⟨rfl, hb3⟩
  have HZ3 : Hid (At5 w3 w.heap.size (.int .i64 0) (.bool false) (.int .i64 0) (.string { data := #[] }) (.int .i64 0) ∧ Below w.heap.size w w3) := ⟨HZ2.out.1.below hb3 HZ2.out.1.lt, HZ2.out.2.trans (hb3.mono HZ2.out.2.size)⟩
  clear hb3 HZ2
  have hmx := HM.out.1
  go_wp2_with fail
  refine (greatestExp_128 _).mono ?_
  rintro x w4 ⟨rfl, hb4⟩
  have HZ4 : Hid (At5 w4 w.heap.size (.int .i64 0) (.bool false) (.int .i64 0) (.string { data := #[] }) (.int .i64 0) ∧ Below w.heap.size w w4) := ⟨HZ3.out.1.below hb4 HZ3.out.1.lt, HZ3.out.2.trans (hb4.mono HZ3.out.2.size)⟩
  clear hb4 HZ3
  have hmn := HM.out.2
  have hbn := build_num 1 neg mn { data := #[48] }
  have hbr := build_res0n 1 neg mn { data := #[48] }
  go_wp2_with (refine wpList_store_row rfl 29 (.tmp 14) (.tmp 75) rfl w.heap.size #[.int .i64 1, .bool neg, .int .i64 mn, .string { data := #[48] }, .int .i64 0] rfl rfl _ _ HZ4.out.1 (by kernel_rfl) rfl (one5 _ _ _ _ _) ?_)
  have hP := (HZ4.out.1.row (.int .i64 1) (.bool neg) (.int .i64 mn) (.string { data := #[48] }) (.int .i64 0)).cells
  refine bodyPost_ret (results_res rfl _ _ rfl hP.1 hP.2.1 hP.2.2.1 hP.2.2.2.1 hP.2.2.2.2.1) rfl ?_
  exact ⟨rfl, bel_row HZ4.out.2 (Nat.le_refl _) _⟩
theorem iFinish_all (f mode : Int) (hf : f = 64 ∨ f = 128) (hm : 1 ≤ mode ∧ mode ≤ 5) (neg : Bool) (ds : List Int) (e want : Int) (w : World) (hc : Canon ds) (hl : ds.length ≤ 200) (he : -200000 ≤ e ∧ e ≤ 200000) (hwt : -200000 ≤ want ∧ want ≤ 200000) :
    Calls Tryz.prog 75 #[.int .i64 f, .int .i64 mode, .bool neg, .string (tx ds), .int .i64 e, .bool false, .int .i64 want] w fun x w' => x = .returned (rsD neg (finD f mode neg ds e false want)) ∧ Below w.heap.size w w' := by
  by_cases hz : ds = [0]
  · subst hz
    have et : tx [0] = { data := #[48] } := by apply ByteArray.ext; rw [tx_data]; rfl
    rw [et]
    rcases hf with rfl | rfl
    · have := iFinish_z64 mode hm neg e want w he hwt
      rw [show min (max want (-398)) 369 = min (369 : Int) (max (-398) want) by omega] at this
      exact this
    · have := iFinish_z128 mode hm neg e want w he hwt
      rw [show min (max want (-6176)) 6111 = min (6111 : Int) (max (-6176) want) by omega] at this
      exact this
  · rcases hf with rfl | rfl
    · exact iFinish_64 mode hm neg ds e want w hc hz hl he hwt
    · exact iFinish_128 mode hm neg ds e want w hc hz hl he hwt
end Go.Proofs.YtndnoblcnjccdafGreatDoor
