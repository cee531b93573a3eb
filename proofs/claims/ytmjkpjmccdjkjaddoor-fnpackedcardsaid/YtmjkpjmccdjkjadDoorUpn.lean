/-
  Words unpacked and made canonical, by the program, walked.
-/
import Derived.Test.YtmjkpjmccdjkjadDoorUpk64
import Derived.Test.YtmjkpjmccdjkjadDoorUpk128
import Derived.Test.YtmjkpjmccdjkjadDoorPkm
import Derived.Test.YtmjkpjmccdjkjadDoorWrd7
namespace Go.Proofs.YtmjkpjmccdjkjadDoor
open Go.RowKit
set_option linter.unusedVariables false
set_option maxRecDepth 100000
set_option linter.unusedSimpArgs false
theorem isW_64 (W : Int) (h0 : 0 ≤ W) (h1 : W < 18446744073709551616) : IsW W 0 W := ⟨by omega, by omega, h0, by omega⟩
theorem isW_128 (hi lo : Int) (h0 : 0 ≤ hi) (h1 : hi < 18446744073709551616) (l0 : 0 ≤ lo) (l1 : lo < 18446744073709551616) : IsW (hi * 18446744073709551616 + lo) hi lo := ⟨by omega, by omega, by omega, by omega⟩
set_option maxRecDepth 100000 in
set_option maxHeartbeats 4000000 in
theorem iUnpack64_any (W : Int) (w : World) (ht : Tabs w) (h0 : 0 ≤ W) (h1 : W < 18446744073709551616) :
    Calls Tryd.prog 8 #[.int .u64 W] w fun x w' => x = .returned (numV (uK 8 5 W) (uB 8 5 W) (uX 8 5 398 W) (tx (uL 8 5 W))) ∧ Below w.heap.size w w' := by
  have HU : Hid (∀ X, Below w.heap.size w X → Calls Tryd.prog 20 #[.iface 42 (.agg #[]), wpV 0 W] X fun x w' => x = .returned (numV (uK 8 5 W) (uB 8 5 W) (uX 8 5 398 W) (tx (uL 8 5 W))) ∧ Below X.heap.size X w') := fun X hb => unpackNum_64 W 0 W X (ht.below hb (Nat.le_refl _)) (isW_64 W h0 h1)
  have HZ : Hid (At4 (nbz w) w.heap.size (.int .i64 0) (.bool false) (.int .i64 0) (.string { data := #[] }) ∧ Below w.heap.size w (nbz w)) := ⟨nbz_at w, (Below.refl _ _).alloc (Nat.le_refl _) _⟩
  have hz : Hid ((nbz w).heap.size = w.heap.size + 1) := by show _ = _; simp
  clear ht
  generalize uK 8 5 W = k at *
  generalize uB 8 5 W = b at *
  generalize uX 8 5 398 W = e at *
  generalize tx (uL 8 5 W) = s at *
  go_enter Tryd.func8, Tryd.ntmps8
  go_wp2_with fail
  refine (HU.out _ HZ.out.2).mono ?_
  rintro r w1 ⟨rfl, hb1⟩
  have HA : Hid (At4 w1 w.heap.size (.int .i64 0) (.bool false) (.int .i64 0) (.string { data := #[] })) := At4.same HZ.out.1 hb1
  have HB1 : Hid (Below w.heap.size w w1) := HZ.out.2.trans (hb1.mono (by rw [hz.out]; omega))
  obtain ⟨k0, k1, k2, k3, kf⟩ := HA.out
  have HF : Hid (At4 (res4 w1 w.heap.size (.int .i64 k) (.bool b) (.int .i64 e) (.string s)) w.heap.size (.int .i64 k) (.bool b) (.int .i64 e) (.string s) ∧ Below w.heap.size w (res4 w1 w.heap.size (.int .i64 k) (.bool b) (.int .i64 e) (.string s))) := ⟨HA.out.put _ _ _ _, bel_four HB1.out (Nat.le_refl _) _ _ _ _⟩
  clear hb1 HA HB1 HZ
  go_wp2
  refine bodyPost_ret (results_num rfl _ _ rfl HF.out.1.1 HF.out.1.2.1 HF.out.1.2.2.1 HF.out.1.2.2.2.1) rfl ?_
  exact ⟨rfl, HF.out.2⟩
set_option maxRecDepth 100000 in
set_option maxHeartbeats 4000000 in
theorem iUnpack128_any (hi lo : Int) (w : World) (ht : Tabs w) (h0 : 0 ≤ hi) (h1 : hi < 18446744073709551616) (l0 : 0 ≤ lo) (l1 : lo < 18446744073709551616) :
    Calls Tryd.prog 13 #[wpV hi lo] w fun x w' => x = .returned (numV (uK 12 11 (hi * 18446744073709551616 + lo)) (uB 12 11 (hi * 18446744073709551616 + lo)) (uX 12 11 6176 (hi * 18446744073709551616 + lo)) (tx (uL 12 11 (hi * 18446744073709551616 + lo)))) ∧ Below w.heap.size w w' := by
  have HU : Hid (∀ X, Below w.heap.size w X → Calls Tryd.prog 20 #[.iface 48 (.agg #[]), wpV hi lo] X fun x w' => x = .returned (numV (uK 12 11 (hi * 18446744073709551616 + lo)) (uB 12 11 (hi * 18446744073709551616 + lo)) (uX 12 11 6176 (hi * 18446744073709551616 + lo)) (tx (uL 12 11 (hi * 18446744073709551616 + lo)))) ∧ Below X.heap.size X w') := fun X hb => unpackNum_128 (hi * 18446744073709551616 + lo) hi lo X (ht.below hb (Nat.le_refl _)) (isW_128 hi lo h0 h1 l0 l1)
  have HX0 : Hid (Below (w.heap.size + 2) (qbx w hi lo) (qbx w hi lo)) := Below.refl _ _
  clear ht
  generalize hi * 18446744073709551616 + lo = W at *
  generalize uK 12 11 W = k at *
  generalize uB 12 11 W = b at *
  generalize uX 12 11 6176 W = e at *
  generalize tx (uL 12 11 W) = s at *
  go_enter Tryd.func13, Tryd.ntmps13
  go_wp2_with fail
  refine (HU.out _ (qbx_out HX0.out)).mono ?_
  rintro r w1 ⟨rfl, hb1⟩
  have HX1 : Hid (Below (w.heap.size + 2) (qbx w hi lo) w1) := qbx_next HX0.out hb1
  obtain ⟨k0, k1, k2, k3, kf⟩ := qbx_at HX1.out
  have HF : Hid (At4 (res4 w1 (w.heap.size + 1) (.int .i64 k) (.bool b) (.int .i64 e) (.string s)) (w.heap.size + 1) (.int .i64 k) (.bool b) (.int .i64 e) (.string s) ∧ Below w.heap.size w (res4 w1 (w.heap.size + 1) (.int .i64 k) (.bool b) (.int .i64 e) (.string s))) := ⟨(qbx_at HX1.out).put _ _ _ _, bel_four (qbx_out HX1.out) (by omega) _ _ _ _⟩
  clear hb1 HX0 HX1
  go_wp2
  refine bodyPost_ret (results_num rfl _ _ rfl HF.out.1.1 HF.out.1.2.1 HF.out.1.2.2.1 HF.out.1.2.2.2.1) rfl ?_
  exact ⟨rfl, HF.out.2⟩
set_option maxRecDepth 100000 in
set_option maxHeartbeats 4000000 in
theorem iCanonWord_any (W : Int) (w : World) (ht : Tabs w) (h0 : 0 ≤ W) (h1 : W < 18446744073709551616) :
    Calls Tryd.prog 9 #[.int .u64 W] w fun x w' => x = .returned (.int .u64 (canW W)) ∧ Below w.heap.size w w' := by
  have HU : Hid (Calls Tryd.prog 8 #[.int .u64 W] w fun x w' => x = .returned (numV (uK 8 5 W) (uB 8 5 W) (uX 8 5 398 W) (tx (uL 8 5 W))) ∧ Below w.heap.size w w') := iUnpack64_any W w ht h0 h1
  have HP : Hid (∀ X, Below w.heap.size w X → Calls Tryd.prog 6 #[numV (uK 8 5 W) (uB 8 5 W) (uX 8 5 398 W) (tx (uL 8 5 W))] X fun x w' => x = .returned (.tuple #[.int .u64 (canW W), .bool true]) ∧ Below X.heap.size X w') := fun X hb => iPack64_yes _ _ _ _ X (ht.below hb (Nat.le_refl _)) (up_right 8 5 398 W)
  clear ht
  generalize canW W = C at *
  generalize uK 8 5 W = k at *
  generalize uB 8 5 W = b at *
  generalize uX 8 5 398 W = e at *
  generalize tx (uL 8 5 W) = s at *
  go_enter Tryd.func9, Tryd.ntmps9
  go_wp2_with fail
  refine HU.out.mono ?_
  rintro r w1 ⟨rfl, hb1⟩
  go_wp2_with fail
  refine (HP.out _ hb1).mono ?_
  rintro r w2 ⟨rfl, hb2⟩
  have HB : Hid (Below w.heap.size w w2) := hb1.trans (hb2.mono hb1.size)
  clear hb1 hb2 HU HP
  go_wp2
  go_ret
  exact ⟨rfl, HB.out⟩
end Go.Proofs.YtmjkpjmccdjkjadDoor
