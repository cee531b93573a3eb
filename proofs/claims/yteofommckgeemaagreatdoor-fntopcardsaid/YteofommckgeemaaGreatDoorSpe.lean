/-
  Sums of the program: any two finite numbers, finished, walked.
-/
import Derived.Test.YteofommckgeemaaGreatDoorFnf
import Derived.BigQuiet
import Derived.Test.YteofommckgeemaaGreatDoorFinA
import Derived.Test.YteofommckgeemaaGreatDoorFmt
import Derived.Test.YteofommckgeemaaGreatDoorNatS2
import Derived.Deep.DeepCutAuto
import Derived.Deep.RegionWith
import Derived.Test.YteofommckgeemaaGreatDoorFnb

namespace Go.Proofs.YteofommckgeemaaGreatDoor
open Go.RowKit
set_option linter.unusedVariables false
set_option maxRecDepth 100000
theorem build_res0n (k : Int) (b : Bool) (e : Int) (s : ByteArray) (w : World) : (Instr.build 90 #[(0, numV k b e s)]).run Tryz.prog w = .ok (rsV k b e s 0) w := run_build w _ _ _ (by kernel_rfl)
set_option maxRecDepth 100000 in
set_option maxHeartbeats 4000000 in
theorem iFinish_z64 (mode : Int) (hm : 1 ≤ mode ∧ mode ≤ 5) (neg : Bool) (e want : Int) (w : World) (he : -200000 ≤ e ∧ e ≤ 200000) (hwt : -200000 ≤ want ∧ want ≤ 200000) :
    Calls Tryz.prog 88 #[.int .i64 64, .int .i64 mode, .bool neg, .string { data := #[48] }, .int .i64 e, .bool false, .int .i64 want] w fun x w' => x = .returned (rsV 1 neg (min (max want (-398)) 369) { data := #[48] } 0) ∧ Below w.heap.size w w' := by
  obtain ⟨Fn, hent, HG0, HR0⟩ := rounding_yes mode hm
  have HR : Hid (∀ X, Calls Tryz.prog 149 #[.int .i64 mode] X fun e w' => e = .returned (.tuple #[.agg #[fnV Fn], .bool true]) ∧ Below X.heap.size X w') := HR0
  clear HG0 HR0 hent hm
  have HNok : Hid (∀ X, Calls Tryz.prog 162 #[.string { data := #[48] }] X fun x w' => x = .returned (.bool true) ∧ w' = X) := fun X => by
    have := iNatOk_any (tx [0]) X (by rw [tx_size]; decide)
    rwa [natB_tx 200 [0] canon_zero (by decide), show tx [0] = { data := #[48] } by apply ByteArray.ext; rw [tx_data]; rfl] at this
  have HE1 : Hid (∀ X, Calls Tryz.prog 165 #[.int .i64 e] X fun x w' => x = .returned (.bool true) ∧ w' = X) := fun X => isExp_yes e X he
  have HE2 : Hid (∀ X, Calls Tryz.prog 165 #[.int .i64 want] X fun x w' => x = .returned (.bool true) ∧ w' = X) := fun X => isExp_yes want X hwt
  have HZ : Hid (At5 (w.alloc (.cells #[.int .i64 0, .bool false, .int .i64 0, .string { data := #[] }, .int .i64 0] 90)) w.heap.size (.int .i64 0) (.bool false) (.int .i64 0) (.string { data := #[] }) (.int .i64 0) ∧ Below w.heap.size w (w.alloc (.cells #[.int .i64 0, .bool false, .int .i64 0, .string { data := #[] }, .int .i64 0] 90))) := ⟨at5_new w _ _ _ _ _, (Below.refl _ _).alloc (Nat.le_refl _) _⟩
  obtain ⟨mx, hmx⟩ : ∃ m, max want (-398) = m := ⟨_, rfl⟩
  obtain ⟨mn, hmn⟩ : ∃ m, min mx 369 = m := ⟨_, rfl⟩
  rw [hmx, hmn]
  have HM : Hid (max want (-398) = mx ∧ min mx 369 = mn) := ⟨hmx, hmn⟩
  clear hmx hmn he hwt
  go_enter Tryz.func88, Tryz.ntmps88
  go_wp2_with fail
  refine (fmtOf_64 _).mono ?_
  rintro x wa ⟨rfl, rfl⟩
  go_wp2_with fail
  refine (HR.out _).mono ?_
  rintro x w1 ⟨rfl, hb1⟩
  have HZ1 : Hid (At5 w1 w.heap.size (.int .i64 0) (.bool false) (.int .i64 0) (.string { data := #[] }) (.int .i64 0) ∧ Below w.heap.size w w1) := ⟨HZ.out.1.below hb1 HZ.out.1.lt, HZ.out.2.trans (hb1.mono HZ.out.2.size)⟩
  clear hb1 HZ HR
  have hnew := new_at w1 (.cells #[.nilFunc] 177)
  have h1c : (#[fnV Fn] : Array Value).all (·.oneCell') = true := by simp [Value.oneCell']
  go_wp2_with (refine wpList_store_row rfl 177 (.tmp 17) (.tmp 32) rfl w1.heap.size #[fnV Fn] rfl rfl _ _ hnew (by kernel_rfl) rfl h1c ?_)
  have HA : Below w1.heap.size w1 ((w1.alloc (.cells #[.nilFunc] 177)).setRow w1.heap.size #[fnV Fn]) := bel_row ((Below.refl _ _).alloc (Nat.le_refl _) _) (Nat.le_refl _) _
  have HZ2 : Hid (At5 ((w1.alloc (.cells #[.nilFunc] 177)).setRow w1.heap.size #[fnV Fn]) w.heap.size (.int .i64 0) (.bool false) (.int .i64 0) (.string { data := #[] }) (.int .i64 0) ∧ Below w.heap.size w ((w1.alloc (.cells #[.nilFunc] 177)).setRow w1.heap.size #[fnV Fn])) := ⟨HZ1.out.1.below HA HZ1.out.1.lt, HZ1.out.2.trans (HA.mono HZ1.out.2.size)⟩
  generalize (w1.alloc (.cells #[.nilFunc] 177)).setRow w1.heap.size #[fnV Fn] = w2 at *
  clear hnew h1c HA HZ1
  generalize w1.heap.size = b1 at *
  refine (HNok.out _).mono ?_
  rintro x wx ⟨rfl, rfl⟩
  go_wp2_with fail
  refine (HE1.out _).mono ?_
  rintro x wy ⟨rfl, rfl⟩
  go_wp2_with fail
  refine (HE2.out _).mono ?_
  rintro x wz ⟨rfl, rfl⟩
  clear HNok HE1 HE2
  go_wp2_with fail
  refine (leastExp_64 _).mono ?_
  rintro x w3 ⟨rfl, hb3⟩
  have HZ3 : Hid (At5 w3 w.heap.size (.int .i64 0) (.bool false) (.int .i64 0) (.string { data := #[] }) (.int .i64 0) ∧ Below w.heap.size w w3) := ⟨HZ2.out.1.below hb3 HZ2.out.1.lt, HZ2.out.2.trans (hb3.mono HZ2.out.2.size)⟩
  clear hb3 HZ2
  have hmx := HM.out.1
  go_wp2_with fail
  refine (greatestExp_64 _).mono ?_
  rintro x w4 ⟨rfl, hb4⟩
  have HZ4 : Hid (At5 w4 w.heap.size (.int .i64 0) (.bool false) (.int .i64 0) (.string { data := #[] }) (.int .i64 0) ∧ Below w.heap.size w w4) := ⟨HZ3.out.1.below hb4 HZ3.out.1.lt, HZ3.out.2.trans (hb4.mono HZ3.out.2.size)⟩
  clear hb4 HZ3
  have hmn := HM.out.2
  have hbn := build_num 1 neg mn { data := #[48] }
  have hbr := build_res0n 1 neg mn { data := #[48] }
  go_wp2_with (refine wpList_store_row rfl 90 (.tmp 14) (.tmp 75) rfl w.heap.size #[.int .i64 1, .bool neg, .int .i64 mn, .string { data := #[48] }, .int .i64 0] rfl rfl _ _ HZ4.out.1 (by kernel_rfl) rfl (one5 _ _ _ _ _) ?_)
  have hP := (HZ4.out.1.row (.int .i64 1) (.bool neg) (.int .i64 mn) (.string { data := #[48] }) (.int .i64 0)).cells
  refine bodyPost_ret (results_res rfl _ _ rfl hP.1 hP.2.1 hP.2.2.1 hP.2.2.2.1 hP.2.2.2.2.1) rfl ?_
  exact ⟨rfl, bel_row HZ4.out.2 (Nat.le_refl _) _⟩
set_option maxRecDepth 100000 in
set_option maxHeartbeats 4000000 in
theorem iFinish_z128 (mode : Int) (hm : 1 ≤ mode ∧ mode ≤ 5) (neg : Bool) (e want : Int) (w : World) (he : -200000 ≤ e ∧ e ≤ 200000) (hwt : -200000 ≤ want ∧ want ≤ 200000) :
    Calls Tryz.prog 88 #[.int .i64 128, .int .i64 mode, .bool neg, .string { data := #[48] }, .int .i64 e, .bool false, .int .i64 want] w fun x w' => x = .returned (rsV 1 neg (min (max want (-6176)) 6111) { data := #[48] } 0) ∧ Below w.heap.size w w' := by
  obtain ⟨Fn, hent, HG0, HR0⟩ := rounding_yes mode hm
  have HR : Hid (∀ X, Calls Tryz.prog 149 #[.int .i64 mode] X fun e w' => e = .returned (.tuple #[.agg #[fnV Fn], .bool true]) ∧ Below X.heap.size X w') := HR0
  clear HG0 HR0 hent hm
  have HNok : Hid (∀ X, Calls Tryz.prog 162 #[.string { data := #[48] }] X fun x w' => x = .returned (.bool true) ∧ w' = X) := fun X => by
    have := iNatOk_any (tx [0]) X (by rw [tx_size]; decide)
    rwa [natB_tx 200 [0] canon_zero (by decide), show tx [0] = { data := #[48] } by apply ByteArray.ext; rw [tx_data]; rfl] at this
  have HE1 : Hid (∀ X, Calls Tryz.prog 165 #[.int .i64 e] X fun x w' => x = .returned (.bool true) ∧ w' = X) := fun X => isExp_yes e X he
  have HE2 : Hid (∀ X, Calls Tryz.prog 165 #[.int .i64 want] X fun x w' => x = .returned (.bool true) ∧ w' = X) := fun X => isExp_yes want X hwt
  have HZ : Hid (At5 (w.alloc (.cells #[.int .i64 0, .bool false, .int .i64 0, .string { data := #[] }, .int .i64 0] 90)) w.heap.size (.int .i64 0) (.bool false) (.int .i64 0) (.string { data := #[] }) (.int .i64 0) ∧ Below w.heap.size w (w.alloc (.cells #[.int .i64 0, .bool false, .int .i64 0, .string { data := #[] }, .int .i64 0] 90))) := ⟨at5_new w _ _ _ _ _, (Below.refl _ _).alloc (Nat.le_refl _) _⟩
  obtain ⟨mx, hmx⟩ : ∃ m, max want (-6176) = m := ⟨_, rfl⟩
  obtain ⟨mn, hmn⟩ : ∃ m, min mx 6111 = m := ⟨_, rfl⟩
  rw [hmx, hmn]
  have HM : Hid (max want (-6176) = mx ∧ min mx 6111 = mn) := ⟨hmx, hmn⟩
  clear hmx hmn he hwt
  go_enter Tryz.func88, Tryz.ntmps88
  go_wp2_with fail
  refine (fmtOf_128 _).mono ?_
  rintro x wa ⟨rfl, rfl⟩
  go_wp2_with fail
  refine (HR.out _).mono ?_
  rintro x w1 ⟨rfl, hb1⟩
  have HZ1 : Hid (At5 w1 w.heap.size (.int .i64 0) (.bool false) (.int .i64 0) (.string { data := #[] }) (.int .i64 0) ∧ Below w.heap.size w w1) := ⟨HZ.out.1.below hb1 HZ.out.1.lt, HZ.out.2.trans (hb1.mono HZ.out.2.size)⟩
  clear hb1 HZ HR
  have hnew := new_at w1 (.cells #[.nilFunc] 177)
  have h1c : (#[fnV Fn] : Array Value).all (·.oneCell') = true := by simp [Value.oneCell']
  go_wp2_with (refine wpList_store_row rfl 177 (.tmp 17) (.tmp 32) rfl w1.heap.size #[fnV Fn] rfl rfl _ _ hnew (by kernel_rfl) rfl h1c ?_)
  have HA : Below w1.heap.size w1 ((w1.alloc (.cells #[.nilFunc] 177)).setRow w1.heap.size #[fnV Fn]) := bel_row ((Below.refl _ _).alloc (Nat.le_refl _) _) (Nat.le_refl _) _
  have HZ2 : Hid (At5 ((w1.alloc (.cells #[.nilFunc] 177)).setRow w1.heap.size #[fnV Fn]) w.heap.size (.int .i64 0) (.bool false) (.int .i64 0) (.string { data := #[] }) (.int .i64 0) ∧ Below w.heap.size w ((w1.alloc (.cells #[.nilFunc] 177)).setRow w1.heap.size #[fnV Fn])) := ⟨HZ1.out.1.below HA HZ1.out.1.lt, HZ1.out.2.trans (HA.mono HZ1.out.2.size)⟩
  generalize (w1.alloc (.cells #[.nilFunc] 177)).setRow w1.heap.size #[fnV Fn] = w2 at *
  clear hnew h1c HA HZ1
  generalize w1.heap.size = b1 at *
  refine (HNok.out _).mono ?_
  rintro x wx ⟨rfl, rfl⟩
  go_wp2_with fail
  refine (HE1.out _).mono ?_
  rintro x wy ⟨rfl, rfl⟩
  go_wp2_with fail
  refine (HE2.out _).mono ?_
  rintro x wz ⟨rfl, rfl⟩
  clear HNok HE1 HE2
  go_wp2_with fail
  refine (leastExp_128 _).mono ?_
  rintro x w3 ⟨rfl, hb3⟩
  have HZ3 : Hid (At5 w3 w.heap.size (.int .i64 0) (.bool false) (.int .i64 0) (.string { data := #[] }) (.int .i64 0) ∧ Below w.heap.size w w3) := ⟨HZ2.out.1.below hb3 HZ2.out.1.lt, HZ2.out.2.trans (hb3.mono HZ2.out.2.size)⟩
  clear hb3 HZ2
  have hmx := HM.out.1
  go_wp2_with fail
  refine (greatestExp_128 _).mono ?_
  rintro x w4 ⟨rfl, hb4⟩
  have HZ4 : Hid (At5 w4 w.heap.size (.int .i64 0) (.bool false) (.int .i64 0) (.string { data := #[] }) (.int .i64 0) ∧ Below w.heap.size w w4) := ⟨HZ3.out.1.below hb4 HZ3.out.1.lt, HZ3.out.2.trans (hb4.mono HZ3.out.2.size)⟩
  clear hb4 HZ3
  have hmn := HM.out.2
  have hbn := build_num 1 neg mn { data := #[48] }
  have hbr := build_res0n 1 neg mn { data := #[48] }
  go_wp2_with (refine wpList_store_row rfl 90 (.tmp 14) (.tmp 75) rfl w.heap.size #[.int .i64 1, .bool neg, .int .i64 mn, .string { data := #[48] }, .int .i64 0] rfl rfl _ _ HZ4.out.1 (by kernel_rfl) rfl (one5 _ _ _ _ _) ?_)
  have hP := (HZ4.out.1.row (.int .i64 1) (.bool neg) (.int .i64 mn) (.string { data := #[48] }) (.int .i64 0)).cells
  refine bodyPost_ret (results_res rfl _ _ rfl hP.1 hP.2.1 hP.2.2.1 hP.2.2.2.1 hP.2.2.2.2.1) rfl ?_
  exact ⟨rfl, bel_row HZ4.out.2 (Nat.le_refl _) _⟩
theorem iFinish_all (f mode : Int) (hf : f = 64 ∨ f = 128) (hm : 1 ≤ mode ∧ mode ≤ 5) (neg : Bool) (ds : List Int) (e want : Int) (w : World) (hc : Canon ds) (hl : ds.length ≤ 200) (he : -200000 ≤ e ∧ e ≤ 200000) (hwt : -200000 ≤ want ∧ want ≤ 200000) :
    Calls Tryz.prog 88 #[.int .i64 f, .int .i64 mode, .bool neg, .string (tx ds), .int .i64 e, .bool false, .int .i64 want] w fun x w' => x = .returned (rsD neg (finD f mode neg ds e false want)) ∧ Below w.heap.size w w' := by
  by_cases hz : ds = [0]
  · subst hz
    have et : tx [0] = { data := #[48] } := by apply ByteArray.ext; rw [tx_data]; rfl
    rw [et]
    rcases hf with rfl | rfl
    · have := iFinish_z64 mode hm neg e want w he hwt
      rw [show min (max want (-398)) 369 = min (369 : Int) (max (-398) want) by omega] at this
      exact this
    · have := iFinish_z128 mode hm neg e want w he hwt
      rw [show min (max want (-6176)) 6111 = min (6111 : Int) (max (-6176) want) by omega] at this
      exact this
  · rcases hf with rfl | rfl
    · exact iFinish_64 mode hm neg ds e want w hc hz hl he hwt
    · exact iFinish_128 mode hm neg ds e want w hc hz hl he hwt
end Go.Proofs.YteofommckgeemaaGreatDoor
namespace Go.Proofs.YteofommckgeemaaGreatDoor
open Go.RowKit
set_option linter.unusedVariables false
set_option maxRecDepth 100000
/-- A sum's three blocks: the two numbers and the result. -/
def SU (w W : World) (ka : Int) (na : Bool) (ea : Int) (sa : ByteArray) (kb : Int) (nb : Bool) (eb : Int) (sb : ByteArray) : Prop :=
  W.heap[w.heap.size]? = some (.cells #[.int .i64 ka, .bool na, .int .i64 ea, .string sa] 78 (0, 0)) ∧ W.heap[w.heap.size + 1]? = some (.cells #[.int .i64 kb, .bool nb, .int .i64 eb, .string sb] 78 (0, 0))
    ∧ At5 W (w.heap.size + 2) (.int .i64 0) (.bool false) (.int .i64 0) (.string { data := #[] }) (.int .i64 0) ∧ Below w.heap.size w W ∧ w.heap.size + 2 < W.heap.size
abbrev suW (w : World) (ka : Int) (na : Bool) (ea : Int) (sa : ByteArray) (kb : Int) (nb : Bool) (eb : Int) (sb : ByteArray) : World :=
  ((w.alloc (.cells #[.int .i64 ka, .bool na, .int .i64 ea, .string sa] 78)).alloc (.cells #[.int .i64 kb, .bool nb, .int .i64 eb, .string sb] 78)).alloc (.cells #[.int .i64 0, .bool false, .int .i64 0, .string { data := #[] }, .int .i64 0] 90)
theorem heap_at (w : World) (o : Obj) : (w.alloc o).heap[w.heap.size]? = some o := by
  show (w.heap.push o)[w.heap.size]? = some o
  exact Array.getElem?_push_size
theorem su_new (w : World) (ka : Int) (na : Bool) (ea : Int) (sa : ByteArray) (kb : Int) (nb : Bool) (eb : Int) (sb : ByteArray) : SU w (suW w ka na ea sa kb nb eb sb) ka na ea sa kb nb eb sb := by
  have s1 : (w.alloc (.cells #[.int .i64 ka, .bool na, .int .i64 ea, .string sa] 78)).heap.size = w.heap.size + 1 := by simp
  have s2 : ((w.alloc (.cells #[.int .i64 ka, .bool na, .int .i64 ea, .string sa] 78)).alloc (.cells #[.int .i64 kb, .bool nb, .int .i64 eb, .string sb] 78)).heap.size = w.heap.size + 2 := by simp
  have b1 := (Below.refl w.heap.size w).alloc (Nat.le_refl _) (.cells #[.int .i64 ka, .bool na, .int .i64 ea, .string sa] 78)
  have g1 := heap_at w (.cells #[.int .i64 ka, .bool na, .int .i64 ea, .string sa] 78)
  have g2 := heap_at (w.alloc (.cells #[.int .i64 ka, .bool na, .int .i64 ea, .string sa] 78)) (.cells #[.int .i64 kb, .bool nb, .int .i64 eb, .string sb] 78)
  have g3 := heap_at ((w.alloc (.cells #[.int .i64 ka, .bool na, .int .i64 ea, .string sa] 78)).alloc (.cells #[.int .i64 kb, .bool nb, .int .i64 eb, .string sb] 78)) (.cells #[.int .i64 0, .bool false, .int .i64 0, .string { data := #[] }, .int .i64 0] 90)
  rw [s1] at g2
  rw [s2] at g3
  refine ⟨(Below.heap_alloc _ _ _ (by rw [s2]; omega)).trans ((Below.heap_alloc _ _ _ (by rw [s1]; omega)).trans g1), (Below.heap_alloc _ _ _ (by rw [s2]; omega)).trans g2, g3, (b1.alloc (by rw [s1]; omega) _).alloc (by rw [s2]; omega) _, by simp⟩
theorem SU.next {w W w1 : World} {ka : Int} {na : Bool} {ea : Int} {sa : ByteArray} {kb : Int} {nb : Bool} {eb : Int} {sb : ByteArray} (h : SU w W ka na ea sa kb nb eb sb) (hb : Below W.heap.size W w1) : SU w w1 ka na ea sa kb nb eb sb :=
  ⟨(hb.block _ (by have := h.2.2.2.2; omega)).trans h.1, (hb.block _ (by have := h.2.2.2.2; omega)).trans h.2.1, (hb.block _ h.2.2.2.2).trans h.2.2.1, h.2.2.2.1.trans (hb.mono h.2.2.2.1.size), Nat.lt_of_lt_of_le h.2.2.2.2 hb.size⟩
theorem SU.drewN {w W : World} {ka : Int} {na : Bool} {ea : Int} {sa : ByteArray} {kb : Int} {nb : Bool} {eb : Int} {sb : ByteArray} (h : SU w W ka na ea sa kb nb eb sb) (n : Nat) : SU w (W.drewN n) ka na ea sa kb nb eb sb := ⟨h.1, h.2.1, h.2.2.1, below_drewN h.2.2.2.1 n, h.2.2.2.2⟩
theorem SU.drew {w W : World} {ka : Int} {na : Bool} {ea : Int} {sa : ByteArray} {kb : Int} {nb : Bool} {eb : Int} {sb : ByteArray} (h : SU w W ka na ea sa kb nb eb sb) : SU w W.drew ka na ea sa kb nb eb sb := ⟨h.1, h.2.1, h.2.2.1, h.2.2.2.1.drew, h.2.2.2.2⟩
theorem cell_lit {W : World} {g : Nat} {c : Array Value} {T : TypeId} (h : W.heap[g]? = some (.cells c T (0, 0))) (i : Nat) : W.cell? ⟨g, i, none⟩ = c[i]? := by
  unfold World.cell?; simp only [h]; rfl
theorem SU.cells {w W : World} {ka : Int} {na : Bool} {ea : Int} {sa : ByteArray} {kb : Int} {nb : Bool} {eb : Int} {sb : ByteArray} (h : SU w W ka na ea sa kb nb eb sb) :
    (W.cell? ⟨w.heap.size, 1, none⟩ = some (.bool na) ∧ W.cell? ⟨w.heap.size, 2, none⟩ = some (.int .i64 ea) ∧ W.cell? ⟨w.heap.size, 3, none⟩ = some (.string sa))
      ∧ W.cell? ⟨w.heap.size + 1, 1, none⟩ = some (.bool nb) ∧ W.cell? ⟨w.heap.size + 1, 2, none⟩ = some (.int .i64 eb) ∧ W.cell? ⟨w.heap.size + 1, 3, none⟩ = some (.string sb) :=
  ⟨⟨(cell_lit h.1 1).trans rfl, (cell_lit h.1 2).trans rfl, (cell_lit h.1 3).trans rfl⟩, (cell_lit h.2.1 1).trans rfl, (cell_lit h.2.1 2).trans rfl, (cell_lit h.2.1 3).trans rfl⟩
end Go.Proofs.YteofommckgeemaaGreatDoor
namespace Go.Proofs.YteofommckgeemaaGreatDoor
open Go.RowKit
set_option linter.unusedVariables false
set_option maxRecDepth 100000
theorem sum_end {w W wd : World} {ka : Int} {na : Bool} {ea : Int} {sa : ByteArray} {kb : Int} {nb : Bool} {eb : Int} {sb : ByteArray} (h : SU w W ka na ea sa kb nb eb sb) (hb : Below W.heap.size W wd) :
    At5 wd (w.heap.size + 2) (.int .i64 0) (.bool false) (.int .i64 0) (.string { data := #[] }) (.int .i64 0) ∧ Below w.heap.size w wd := ⟨(h.next hb).2.2.1, (h.next hb).2.2.2.1⟩
end Go.Proofs.YteofommckgeemaaGreatDoor
namespace Go.Proofs.YteofommckgeemaaGreatDoor
open Go.RowKit
set_option linter.unusedVariables false
set_option maxRecDepth 100000
/-- The exact sum of two numbers, the first one reaching higher, finished: the sign and the rest. -/
def sumY (f mode : Int) (n1 : Bool) (e1 : Int) (d1 : List Int) (n2 : Bool) (e2 : Int) (d2 : List Int) (M : Int) : Bool × (Int × Int × ByteArray × Int) :=
  if 180 < (d1.length : Int) + e1 - M then (n1, finD f mode n1 (nt (vl d1 * 10 ^ 40 - if n1 = n2 then 0 else 1)) (e1 - 40) true M)
  else if n1 = n2 then (n1, finD f mode n1 (nt (vl d1 * 10 ^ (e1 - M).toNat + vl d2 * 10 ^ (e2 - M).toNat)) M false M)
  else if vl d1 * 10 ^ (e1 - M).toNat = vl d2 * 10 ^ (e2 - M).toNat then (decide (mode = 3), finD f mode (decide (mode = 3)) [0] M false M)
  else if vl d2 * 10 ^ (e2 - M).toNat < vl d1 * 10 ^ (e1 - M).toNat then (n1, finD f mode n1 (nt (vl d1 * 10 ^ (e1 - M).toNat - vl d2 * 10 ^ (e2 - M).toNat)) M false M)
  else (n2, finD f mode n2 (nt (vl d2 * 10 ^ (e2 - M).toNat - vl d1 * 10 ^ (e1 - M).toNat)) M false M)
end Go.Proofs.YteofommckgeemaaGreatDoor

namespace Go.Proofs.YteofommckgeemaaGreatDoor
open Go.RowKit
set_option linter.unusedVariables false
set_option maxRecDepth 100000
/-- The exact sum of two finite numbers, finished: the sign and the rest. -/
def sumX (f mode : Int) (na : Bool) (ea : Int) (da : List Int) (nb : Bool) (eb : Int) (db : List Int) : Bool × (Int × Int × ByteArray × Int) :=
  if da = [0] ∧ db = [0] then ((if na = nb then na else decide (mode = 3)), finD f mode (if na = nb then na else decide (mode = 3)) [0] (min ea eb) false (min ea eb))
  else if da = [0] then (nb, finD f mode nb db eb false (min ea eb))
  else if db = [0] then (na, finD f mode na da ea false (min ea eb))
  else if (da.length : Int) + ea < (db.length : Int) + eb then sumY f mode nb eb db na ea da (min ea eb)
  else sumY f mode na ea da nb eb db (min ea eb)
end Go.Proofs.YteofommckgeemaaGreatDoor

namespace Go.Proofs.YteofommckgeemaaGreatDoor
open Go.RowKit
set_option linter.unusedVariables false
set_option maxRecDepth 100000
/-- The Result of a sum, as its five cells (sign told apart). -/
abbrev R5 := Bool × (Int × Int × ByteArray × Int)
def addX (f mode : Int) (ka : Int) (na : Bool) (ea : Int) (da : List Int) (kb : Int) (nb : Bool) (eb : Int) (db : List Int) : R5 :=
  if ka = 2 ∧ kb = 2 ∧ na ≠ nb then (false, (3, 0, { data := #[] }, 1))
  else if ka = 2 then (na, (2, 0, { data := #[] }, 0))
  else if kb = 2 then (nb, (2, 0, { data := #[] }, 0))
  else sumX f mode na ea da nb eb db
end Go.Proofs.YteofommckgeemaaGreatDoor

namespace Go.Proofs.YteofommckgeemaaGreatDoor
open Go.RowKit
set_option linter.unusedVariables false
set_option maxRecDepth 100000
/-- One of two. -/
def tw2 {α : Type} (a b : α) (i : Nat) : α := if i = 0 then a else b
theorem nrw2 {W : World} {g : Nat} {T : TypeId} {ka : Int} {na : Bool} {ea : Int} {sa : ByteArray} {kb : Int} {nb : Bool} {eb : Int} {sb : ByteArray} (h : W.heap[g]? = some (.cells #[.int .i64 ka, .bool na, .int .i64 ea, .string sa, .int .i64 kb, .bool nb, .int .i64 eb, .string sb] T (0, 0))) :
    NRw W g 2 (tw2 ka kb) (tw2 na nb) (tw2 ea eb) (tw2 sa sb) := fun i hi => by
  match i, hi with
  | 0, _ => exact ⟨(cell_lit h 0).trans rfl, (cell_lit h 1).trans rfl, (cell_lit h 2).trans rfl, (cell_lit h 3).trans rfl⟩
  | 1, _ => exact ⟨(cell_lit h 4).trans rfl, (cell_lit h 5).trans rfl, (cell_lit h 6).trans rfl, (cell_lit h 7).trans rfl⟩
theorem SU.alloc {w W : World} {ka : Int} {na : Bool} {ea : Int} {sa : ByteArray} {kb : Int} {nb : Bool} {eb : Int} {sb : ByteArray} (h : SU w W ka na ea sa kb nb eb sb) (o : Obj) : SU w (W.alloc o) ka na ea sa kb nb eb sb := h.next ((Below.refl _ _).alloc (Nat.le_refl _) o)
theorem okB2 (g : Nat → Bool) [Decidable (∀ i, i < 2 → g i = true)] : decide (∀ i, i < 2 → g i = true) = (g 0 && g 1) := by
  by_cases h : ∀ i, i < 2 → g i = true
  · rw [decide_eq_true h, h 0 (by decide), h 1 (by decide)]; rfl
  · rw [decide_eq_false h]
    cases h0 : g 0 with
    | false => rfl
    | true =>
      cases h1 : g 1 with
      | false => rfl
      | true => exact absurd (fun i hi => by
          match i, hi with
          | 0, _ => exact h0
          | 1, _ => exact h1) h
def addO (f mode : Int) (ka : Int) (na : Bool) (ea : Int) (sa : ByteArray) (kb : Int) (nb : Bool) (eb : Int) (sb : ByteArray) : Bool := decide (1 ≤ mode ∧ mode ≤ 5) && (numB f ka na ea sa && numB f kb nb eb sb)
/-- What Add tells: the sign, and kind, exponent, digits, flags. -/
def addR (f mode : Int) (ka : Int) (na : Bool) (ea : Int) (sa : ByteArray) (kb : Int) (nb : Bool) (eb : Int) (sb : ByteArray) : R5 :=
  if addO f mode ka na ea sa kb nb eb sb then (if spB 2 (tw2 ka kb) then (false, (3, 0, { data := #[] }, spF 2 (tw2 ka kb))) else addX f mode ka na ea (dl sa) kb nb eb (dl sb))
  else (false, (0, 0, { data := #[] }, 0))
end Go.Proofs.YteofommckgeemaaGreatDoor

namespace Go.Proofs.YteofommckgeemaaGreatDoor
open Go.RowKit
set_option linter.unusedVariables false
set_option maxRecDepth 100000
theorem tn_tx (v : Int) : tn v = tx (nt v) := rfl
set_option maxRecDepth 100000 in
theorem finished_any (f mode : Int) (hf : f = 64 ∨ f = 128) (hm : 1 ≤ mode ∧ mode ≤ 5) (k : Int) (neg : Bool) (e v want : Int) (w : World) (hv : Nok v) (he : -200000 ≤ e ∧ e ≤ 200000) (hwt : -200000 ≤ want ∧ want ≤ 200000) :
    Calls Tryz.prog 81 #[.int .i64 f, .int .i64 mode, numV k neg e (tn v), .int .i64 want] w fun x w' => x = .returned (rsD neg (finD f mode neg (nt v) e false want)) ∧ Below w.heap.size w w' := by
  have HF : Hid (∀ X, Calls Tryz.prog 88 #[.int .i64 f, .int .i64 mode, .bool neg, .string (tn v), .int .i64 e, .bool false, .int .i64 want] X fun x w' => x = .returned (rsD neg (finD f mode neg (nt v) e false want)) ∧ Below X.heap.size X w') := fun X => iFinish_all f mode hf hm neg (nt v) e want X (nok_spec hv).1 (nok_len hv) he hwt
  generalize finD f mode neg (nt v) e false want = FD at *
  obtain ⟨F1, F2, F3, F4⟩ := FD
  generalize tn v = T at *
  have HZ : Hid (At5 ((w.alloc (.cells #[.int .i64 k, .bool neg, .int .i64 e, .string T] 78)).alloc (.cells #[.int .i64 0, .bool false, .int .i64 0, .string { data := #[] }, .int .i64 0] 90)) (w.heap.size + 1) (.int .i64 0) (.bool false) (.int .i64 0) (.string { data := #[] }) (.int .i64 0) ∧ Below w.heap.size w ((w.alloc (.cells #[.int .i64 k, .bool neg, .int .i64 e, .string T] 78)).alloc (.cells #[.int .i64 0, .bool false, .int .i64 0, .string { data := #[] }, .int .i64 0] 90))) := by
    have h2 := at5_new (w.alloc (.cells #[.int .i64 k, .bool neg, .int .i64 e, .string T] 78)) (.int .i64 0) (.bool false) (.int .i64 0) (.string { data := #[] }) (.int .i64 0)
    rw [show (w.alloc (.cells #[.int .i64 k, .bool neg, .int .i64 e, .string T] 78)).heap.size = w.heap.size + 1 from new_size _ _] at h2
    exact ⟨h2, two_below _ _ _⟩
  clear hv he hwt hm hf
  go_enter Tryz.func81, Tryz.ntmps81
  go_wp2_with fail
  refine (HF.out _).mono ?_
  rintro x w1 ⟨rfl, hb1⟩
  have HZ1 : Hid (At5 w1 (w.heap.size + 1) (.int .i64 0) (.bool false) (.int .i64 0) (.string { data := #[] }) (.int .i64 0) ∧ Below w.heap.size w w1) := ⟨HZ.out.1.below hb1 HZ.out.1.lt, HZ.out.2.trans (hb1.mono HZ.out.2.size)⟩
  clear hb1 HZ HF
  go_wp2_with (refine wpList_store_row rfl 90 (.tmp 8) (.tmp 18) rfl (w.heap.size + 1) #[.int .i64 F1, .bool neg, .int .i64 F2, .string F3, .int .i64 F4] rfl rfl _ _ HZ1.out.1 (by kernel_rfl) rfl (one5 _ _ _ _ _) ?_)
  have hP := (HZ1.out.1.row (.int .i64 F1) (.bool neg) (.int .i64 F2) (.string F3) (.int .i64 F4)).cells
  refine bodyPost_ret (results_res rfl _ _ rfl hP.1 hP.2.1 hP.2.2.1 hP.2.2.2.1 hP.2.2.2.2.1) rfl ?_
  exact ⟨rfl, bel_row HZ1.out.2 (by omega) _⟩
/-- The sum of two numbers, none of them nought, the first one's exponent not below the other's: sign, exponent, digits' number. -/
def sgT (p : Int) (nx : Bool) (ex x : Int) (ny : Bool) (ey y : Int) : Bool × Int × Int := (esN nx (sgX p ex x y ey) ny (sgY p ex y ey), sgE p ex y ey, esV nx (sgX p ex x y ey) ny (sgY p ex y ey))
/-- The sum of any two. -/
def sfT (p : Int) (na : Bool) (ea a : Int) (nb : Bool) (eb b : Int) : Bool × Int × Int :=
  if a = 0 then (nb, eb, b) else if b = 0 then (na, ea, a) else if ea < eb then sgT p nb eb b na ea a else sgT p na ea a nb eb b
theorem tn_digits {n : Int} {k : Nat} (h0 : 0 ≤ n) (h : n < 10 ^ k) (hk : 1 ≤ k) (hk2 : k ≤ 200) : Nok n ∧ (tn n).size ≤ k ∧ 1 ≤ (tn n).size := by
  have hn : Nok n := ⟨h0, Int.lt_of_lt_of_le h (pow_mono _ _ hk2)⟩
  obtain ⟨hc, hv⟩ := nok_spec hn
  rw [tn_tx, tx_size]
  exact ⟨hn, canon_le (nt n) hc k hk (by rw [hv]; exact h), hc.2.1⟩
/-- What such a sum stays within. -/
theorem sg_bd (p ex x : Int) (ey y : Int) (m n : Nat) (hp : 0 ≤ p ∧ p ≤ 34) (hx : 0 ≤ x) (hxm : x < 10 ^ m) (hy : 0 ≤ y) (hyn : y < 10 ^ n) (hm : 1 ≤ m) (hn : 1 ≤ n) (hmn : m + n ≤ 120) (hge : ¬ ex < ey) :
    (0 ≤ ex - sgE p ex y ey ∧ ex - sgE p ex y ey ≤ 155) ∧ Nok (sgX p ex x y ey) ∧ Nok (sgX p ex x y ey + sgY p ex y ey) ∧ 0 ≤ sgY p ex y ey := by
  obtain ⟨hyk, hys, -⟩ := tn_digits hy hyn hn (by omega)
  have hE : 0 ≤ ex - sgE p ex y ey ∧ ex - sgE p ex y ey ≤ n + 35 := by
    unfold sgE sgF farB
    by_cases c : ey + ((tn y).size : Int) ≤ ex - p - 1
    · rw [decide_eq_true c, if_pos rfl]; omega
    · rw [decide_eq_false c, if_neg Bool.false_ne_true]; omega
  have hX : 0 ≤ sgX p ex x y ey ∧ sgX p ex x y ey < 10 ^ (m + n + 35) := by
    unfold sgX
    obtain ⟨d, hd⟩ : ∃ d, (ex - sgE p ex y ey).toNat = d := ⟨_, rfl⟩
    have hd2 : d ≤ n + 35 := by omega
    rw [hd]
    have pd := ten_pos d
    refine ⟨Int.mul_nonneg hx (Int.le_of_lt pd), ?_⟩
    have a := Int.mul_lt_mul_of_pos_right hxm pd
    rw [← Int.pow_add] at a
    exact Int.lt_of_lt_of_le a (pow_mono _ _ (by omega))
  have hY : 0 ≤ sgY p ex y ey ∧ sgY p ex y ey ≤ 10 ^ (m + n + 35) := by
    unfold sgY
    split
    · exact ⟨by decide, by have := ten_pos (m + n + 35); omega⟩
    · exact ⟨hy, Int.le_trans (Int.le_of_lt hyn) (pow_mono _ _ (by omega))⟩
  have h2 : (10 : Int) ^ (m + n + 36) = 10 ^ (m + n + 35) * 10 := Int.pow_succ 10 (m + n + 35)
  have h3 := pow_mono (m + n + 36) 200 (by omega)
  have h4 := ten_pos (m + n + 35)
  refine ⟨⟨hE.1, by omega⟩, ⟨hX.1, by omega⟩, ⟨by omega, by omega⟩, hY.1⟩
set_option maxRecDepth 100000 in
set_option maxHeartbeats 1000000 in
theorem sumFor_any (f : Int) (na : Bool) (ea a : Int) (nb : Bool) (eb b : Int) (m n : Nat) (w : World) (hp : 0 ≤ limP f ∧ limP f ≤ 34) (ha : 0 ≤ a) (ham : a < 10 ^ m) (hb : 0 ≤ b) (hbn : b < 10 ^ n) (hm : 1 ≤ m) (hn : 1 ≤ n) (hmn : m + n ≤ 120) (hea : -20000 ≤ ea ∧ ea ≤ 20000) (heb : -20000 ≤ eb ∧ eb ≤ 20000) :
    Calls Tryz.prog 154 #[.int .i64 f, numV 1 na ea (tn a), numV 1 nb eb (tn b)] w fun r w' => r = .returned (numV 1 (sfT (limP f) na ea a nb eb b).1 (sfT (limP f) na ea a nb eb b).2.1 (tn (sfT (limP f) na ea a nb eb b).2.2)) ∧ Below w.heap.size w w' := by
  obtain ⟨hka, -, -⟩ := tn_digits ha ham hm (by omega)
  obtain ⟨hkb, -, -⟩ := tn_digits hb hbn hn (by omega)
  have HN : Hid (N3 w 1 na ea (tn a) 1 nb eb (tn b) (n3W w 1 na ea (tn a) 1 nb eb (tn b))) := n3_new w 1 na ea (tn a) 1 nb eb (tn b)
  by_cases ha0 : a = 0
  · have E : Hid (sfT (limP f) na ea a nb eb b = (nb, eb, b)) := if_pos ha0
    rw [E.out]
    have HZ1 : Hid (∀ X, Calls Tryz.prog 93 #[numV 1 na ea (tn a)] X fun r w' => r = .returned (.bool true) ∧ Below X.heap.size X w') := fun X => by
      have := isNought_fin na ea a X hka
      rwa [decide_eq_true ha0] at this
    generalize tn a = S1 at *
    generalize tn b = S2 at *
    clear E ha ham hb hbn hka hkb hea heb hp ha0 hm hn hmn
    go_enter Tryz.func154, Tryz.ntmps154
    go_wp2_with fail
    refine (HZ1.out _).mono ?_
    rintro r w1 ⟨rfl, hb1⟩
    have HN1 : Hid (N3 w 1 na ea S1 1 nb eb S2 w1) := HN.out.next hb1
    obtain ⟨c0, c1, c2, c3, c4⟩ := HN1.out.2.1.cells
    clear hb1 HN HZ1
    go_wp2_with (refine wpList_store_row rfl 78 (.tmp 6) (.tmp 10) rfl (w.heap.size + 2) #[.int .i64 1, .bool nb, .int .i64 eb, .string S2] rfl rfl _ _ HN1.out.2.2.1 (by kernel_rfl) rfl (one4 _ _ _ _) ?_)
    have hP := (HN1.out.2.2.1.row (.int .i64 1) (.bool nb) (.int .i64 eb) (.string S2)).cells
    refine bodyPost_ret (results_num rfl _ _ rfl hP.1 hP.2.1 hP.2.2.1 hP.2.2.2.1) rfl ?_
    exact ⟨rfl, bel_row HN1.out.2.2.2 (by omega) _⟩
  · have HZ1 : Hid (∀ X, Calls Tryz.prog 93 #[numV 1 na ea (tn a)] X fun r w' => r = .returned (.bool false) ∧ Below X.heap.size X w') := fun X => by
      have := isNought_fin na ea a X hka
      rwa [decide_eq_false ha0] at this
    by_cases hb0 : b = 0
    · have E : Hid (sfT (limP f) na ea a nb eb b = (na, ea, a)) := (if_neg ha0).trans (if_pos hb0)
      rw [E.out]
      have HZ2 : Hid (∀ X, Calls Tryz.prog 93 #[numV 1 nb eb (tn b)] X fun r w' => r = .returned (.bool true) ∧ Below X.heap.size X w') := fun X => by
        have := isNought_fin nb eb b X hkb
        rwa [decide_eq_true hb0] at this
      generalize tn a = S1 at *
      generalize tn b = S2 at *
      clear E ha ham hb hbn hka hkb hea heb hp ha0 hb0 hm hn hmn
      go_enter Tryz.func154, Tryz.ntmps154
      go_wp2_with fail
      refine (HZ1.out _).mono ?_
      rintro r w1 ⟨rfl, hb1⟩
      have HN1 : Hid (N3 w 1 na ea S1 1 nb eb S2 w1) := HN.out.next hb1
      obtain ⟨c0, c1, c2, c3, c4⟩ := HN1.out.2.1.cells
      clear hb1 HN HZ1
      go_wp2_with fail
      refine (HZ2.out _).mono ?_
      rintro r w2 ⟨rfl, hb2⟩
      have HN2 : Hid (N3 w 1 na ea S1 1 nb eb S2 w2) := HN1.out.next hb2
      clear hb2 HN1 HZ2 c0 c1 c2 c3 c4
      obtain ⟨c0, c1, c2, c3, c4⟩ := HN2.out.1.cells
      go_wp2_with (refine wpList_store_row rfl 78 (.tmp 6) (.tmp 14) rfl (w.heap.size + 2) #[.int .i64 1, .bool na, .int .i64 ea, .string S1] rfl rfl _ _ HN2.out.2.2.1 (by kernel_rfl) rfl (one4 _ _ _ _) ?_)
      have hP := (HN2.out.2.2.1.row (.int .i64 1) (.bool na) (.int .i64 ea) (.string S1)).cells
      refine bodyPost_ret (results_num rfl _ _ rfl hP.1 hP.2.1 hP.2.2.1 hP.2.2.2.1) rfl ?_
      exact ⟨rfl, bel_row HN2.out.2.2.2 (by omega) _⟩
    · by_cases hlt : ea < eb
      · have E : Hid (sfT (limP f) na ea a nb eb b = sgT (limP f) nb eb b na ea a) := ((if_neg ha0).trans (if_neg hb0)).trans (if_pos hlt)
        rw [E.out]
        obtain ⟨g1, g2, g3, -⟩ := sg_bd (limP f) eb b ea a n m hp hb hbn ha ham hn hm (by omega) (by omega)
        have HSF : Hid (∀ X, Calls Tryz.prog 154 #[.int .i64 f, numV 1 nb eb (tn b), numV 1 na ea (tn a)] X fun r w' => r = .returned (numV 1 (sgT (limP f) nb eb b na ea a).1 (sgT (limP f) nb eb b na ea a).2.1 (tn (sgT (limP f) nb eb b na ea a).2.2)) ∧ Below X.heap.size X w') := fun X => sumFor_far f nb eb b na ea a X hp hkb hka hb0 ha0 heb hea (by omega) ⟨g1.1, by omega⟩ g2 g3
        have HZ2 : Hid (∀ X, Calls Tryz.prog 93 #[numV 1 nb eb (tn b)] X fun r w' => r = .returned (.bool false) ∧ Below X.heap.size X w') := fun X => by
          have := isNought_fin nb eb b X hkb
          rwa [decide_eq_false hb0] at this
        generalize sgT (limP f) nb eb b na ea a = ST at *
        obtain ⟨RN, RE, RV⟩ := ST
        simp only at HSF
        generalize tn RV = RT at *
        generalize tn a = S1 at *
        generalize tn b = S2 at *
        clear E ha ham hb hbn hka hkb hea heb hp ha0 hb0 g1 g2 g3 hm hn hmn
        go_enter Tryz.func154, Tryz.ntmps154
        go_wp2_with fail
        refine (HZ1.out _).mono ?_
        rintro r w1 ⟨rfl, hb1⟩
        have HN1 : Hid (N3 w 1 na ea S1 1 nb eb S2 w1) := HN.out.next hb1
        obtain ⟨c0, c1, c2, c3, c4⟩ := HN1.out.2.1.cells
        clear hb1 HN HZ1
        go_wp2_with fail
        refine (HZ2.out _).mono ?_
        rintro r w2 ⟨rfl, hb2⟩
        have HN2 : Hid (N3 w 1 na ea S1 1 nb eb S2 w2) := HN1.out.next hb2
        clear hb2 HN1 HZ2 c0 c1 c2 c3 c4
        obtain ⟨a0, a1, a2, a3, a4⟩ := HN2.out.1.cells
        obtain ⟨c0, c1, c2, c3, c4⟩ := HN2.out.2.1.cells
        go_wp2_with fail
        refine (HSF.out _).mono ?_
        rintro r w3 ⟨rfl, hb3⟩
        have HN3 : Hid (N3 w 1 na ea S1 1 nb eb S2 w3) := HN2.out.next hb3
        clear hb3 HN2 HSF a0 a1 a2 a3 a4 c0 c1 c2 c3 c4
        go_wp2_with (refine wpList_store_row rfl 78 (.tmp 6) (.tmp 24) rfl (w.heap.size + 2) #[.int .i64 1, .bool RN, .int .i64 RE, .string RT] rfl rfl _ _ HN3.out.2.2.1 (by kernel_rfl) rfl (one4 _ _ _ _) ?_)
        have hP := (HN3.out.2.2.1.row (.int .i64 1) (.bool RN) (.int .i64 RE) (.string RT)).cells
        refine bodyPost_ret (results_num rfl _ _ rfl hP.1 hP.2.1 hP.2.2.1 hP.2.2.2.1) rfl ?_
        exact ⟨rfl, bel_row HN3.out.2.2.2 (by omega) _⟩
      · have E : Hid (sfT (limP f) na ea a nb eb b = sgT (limP f) na ea a nb eb b) := ((if_neg ha0).trans (if_neg hb0)).trans (if_neg hlt)
        rw [E.out]
        obtain ⟨g1, g2, g3, -⟩ := sg_bd (limP f) ea a eb b m n hp ha ham hb hbn hm hn hmn hlt
        exact sumFor_far f na ea a nb eb b w hp hka hkb ha0 hb0 hea heb hlt ⟨g1.1, by omega⟩ g2 g3
end Go.Proofs.YteofommckgeemaaGreatDoor
