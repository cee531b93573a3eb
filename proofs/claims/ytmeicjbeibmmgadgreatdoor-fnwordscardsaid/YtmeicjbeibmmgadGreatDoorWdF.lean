/-
  FnWords: any drawn word stands for a right number; made canonical it stands for the same; walked.
-/
import Derived.Test.YtmeicjbeibmmgadGreatDoorUpn
import Derived.Test.YtmeicjbeibmmgadGreatDoorDrawWd
import Derived.Laws.StructEq
namespace Go.Proofs.YtmeicjbeibmmgadGreatDoor
open Go.RowKit
set_option linter.unusedVariables false
set_option maxRecDepth 100000
set_option linter.unusedSimpArgs false
theorem bytes_lower {w w1 : World} {a : Option Addr} {len : Nat} (h : Bytes w.heap.size w a len) (hb : Below w.heap.size w w1) : Bytes w1.heap.size w1 a len := by
  rcases h with h | ⟨b, off, rfl, hlt, hz⟩
  · exact .inl h
  · refine .inr ⟨b, off, rfl, Nat.lt_of_lt_of_le hlt hb.size, fun j hj => ?_⟩
    obtain ⟨z, h1, h2⟩ := hz j hj
    exact ⟨z, (hb.cell (p := ⟨b, off + j, none⟩) hlt).trans h1, h2⟩
theorem eql_num (k : Int) (b : Bool) (e : Int) (s : ByteArray) (w : World) : (binOp .eql 27 (.agg #[.int .i64 k, .bool b, .int .i64 e, .string s]) (.agg #[.int .i64 k, .bool b, .int .i64 e, .string s])).run Tryz.prog w = .ok (.bool true) w := by
  have hS : Tryz.prog.underlying 27 = some (.struct (Tryz.prog.fieldsOf 27)) := by kernel_rfl
  have hp : Tryz.prog.stoodInHeld 27 = false := by kernel_rfl
  rw [run_eql_struct, show (10000 : Nat) = 9999 + 1 from rfl, run_equalIn_agg w 9999 27 _ _ hS hp]
  simp only [Program.fieldsOf, Tryz.underlying27]
  go_simp
theorem neq_num (k : Int) (b : Bool) (e : Int) (s : ByteArray) (w : World) : (binOp .neq 27 (.agg #[.int .i64 k, .bool b, .int .i64 e, .string s]) (.agg #[.int .i64 k, .bool b, .int .i64 e, .string s])).run Tryz.prog w = .ok (.bool false) w := by
  have hS : Tryz.prog.underlying 27 = some (.struct (Tryz.prog.fieldsOf 27)) := by kernel_rfl
  have hp : Tryz.prog.stoodInHeld 27 = false := by kernel_rfl
  rw [run_neq_struct, show (10000 : Nat) = 9999 + 1 from rfl, run_equalIn_agg w 9999 27 _ _ hS hp]
  simp only [Program.fieldsOf, Tryz.underlying27]
  go_simp
theorem uL_len (r g : Nat) (W : Int) : (uL r g W).length ≤ 3 * g + 1 := by
  rcases up_right r g 0 W with ⟨_, _, hl, _⟩ | ⟨_, _, h⟩ | ⟨_, _, h, _⟩
  · exact hl
  · rw [h]; simp
  · rw [h]; simp
/-- Canonical bits stand for the same number, and are their own. -/
theorem can_back (W : Int) : uK 8 5 (canW W) = uK 8 5 W ∧ uB 8 5 (canW W) = uB 8 5 W ∧ uX 8 5 398 (canW W) = uX 8 5 398 W ∧ uL 8 5 (canW W) = uL 8 5 W := pk_back 8 5 398 _ _ _ _ (by decide) (up_right 8 5 398 W)
theorem can_can (W : Int) : canW (canW W) = canW W := by
  obtain ⟨e1, e2, e3, e4⟩ := can_back W
  show pkW 8 5 398 (uK 8 5 (canW W)) (uB 8 5 (canW W)) (uX 8 5 398 (canW W)) (uL 8 5 (canW W)) = _
  rw [e1, e2, e3, e4]
  rfl
theorem canW_bd (W : Int) : 0 ≤ canW W ∧ canW W < 18446744073709551616 := by
  have := pkW_bd 8 5 398 _ _ _ _ (by decide) (up_right 8 5 398 W)
  rw [show (2 : Int) ^ (6 + 8 + 10 * 5) = 18446744073709551616 by decide] at this
  exact this
set_option maxRecDepth 100000 in
set_option maxHeartbeats 8000000 in
theorem fnWords_any (a : Option Addr) (len cap : Nat) (w : World) (ht : Tabs w) (hbig : ¬ 4096 < len) (hb0 : Bytes w.heap.size w a len) :
    Calls Tryz.prog 3 #[.slice a len cap] w fun e w' => e = .returned (.bool true) ∧ Below w.heap.size w w' := by
  have HT : Hid (Tabs w) := ht
  have HBy : Hid (Bytes w.heap.size w a len) := hb0
  have hnn := neq_num
  have hee := eql_num
  clear ht hb0
  go_enter Tryz.func3, Tryz.ntmps3
  go_wp2_with fail
  refine (big_no _ _ _ _ hbig).mono ?_
  rintro e w' ⟨rfl, hw⟩
  obtain rfl := hw.symm
  go_wp2_with fail
  refine (DrawUnpack64_any _ _ _ _ (by omega) HBy.out).mono ?_
  rintro e w1 ⟨W, rfl, hW, hb1⟩
  have HB1 : Hid (Below w.heap.size w w1) := hb1
  clear hb1
  -- what the word stands for, and its canonical bits
  have HU : Hid (∀ X, Below w.heap.size w X → Calls Tryz.prog 6 #[.int .u64 W] X fun x w' => x = .returned (numV (uK 8 5 W) (uB 8 5 W) (uX 8 5 398 W) (tx (uL 8 5 W))) ∧ Below X.heap.size X w') := fun X hb => iUnpack64_any W X (HT.out.below hb (Nat.le_refl _)) hW.1 (by omega)
  have HSU : Hid (∀ X, Calls Tryz.prog 8 #[.int .u64 W] X fun x w' => x = .returned (numV (uK 8 5 W) (uB 8 5 W) (uX 8 5 398 W) (tx (uL 8 5 W))) ∧ Below X.heap.size X w') := fun X => sUnpack64_any W X hW.1 (by omega)
  have HC : Hid (∀ X, Below w.heap.size w X → Calls Tryz.prog 7 #[.int .u64 W] X fun x w' => x = .returned (.int .u64 (canW W)) ∧ Below X.heap.size X w') := fun X hb => iCanonWord_any W X (HT.out.below hb (Nat.le_refl _)) hW.1 (by omega)
  have HSC : Hid (∀ X, Calls Tryz.prog 9 #[.int .u64 W] X fun x w' => x = .returned (.int .u64 (canW W)) ∧ Below X.heap.size X w') := fun X => sCanonWord_any W X hW.1 (by omega)
  have hcb := canW_bd W
  have HU2 : Hid (∀ X, Below w.heap.size w X → Calls Tryz.prog 6 #[.int .u64 (canW W)] X fun x w' => x = .returned (numV (uK 8 5 W) (uB 8 5 W) (uX 8 5 398 W) (tx (uL 8 5 W))) ∧ Below X.heap.size X w') := fun X hb => by
    have := iUnpack64_any (canW W) X (HT.out.below hb (Nat.le_refl _)) hcb.1 hcb.2
    obtain ⟨e1, e2, e3, e4⟩ := can_back W
    rw [e1, e2, e3, e4] at this
    exact this
  have HC2 : Hid (∀ X, Below w.heap.size w X → Calls Tryz.prog 7 #[.int .u64 (canW W)] X fun x w' => x = .returned (.int .u64 (canW W)) ∧ Below X.heap.size X w') := fun X hb => by
    have := iCanonWord_any (canW W) X (HT.out.below hb (Nat.le_refl _)) hcb.1 hcb.2
    rw [can_can] at this
    exact this
  have HN : Hid (∀ X, Calls Tryz.prog 10 #[.int .i64 64, numV (uK 8 5 W) (uB 8 5 W) (uX 8 5 398 W) (tx (uL 8 5 W))] X fun r w' => r = .returned (.bool true) ∧ Below X.heap.size X w') := fun X => by
    have hR := up_right 8 5 398 W
    rw [← right_numB 64 _ _ _ _ 8 5 398 (.inl ⟨rfl, rfl, rfl, rfl⟩) hR]
    exact iNumOk_any 64 _ _ _ _ X (by rw [tx_size]; have := uL_len 8 5 W; omega)
  generalize uK 8 5 W = k at *
  generalize uB 8 5 W = b at *
  generalize uX 8 5 398 W = e at *
  generalize tx (uL 8 5 W) = s at *
  generalize canW W = C at *
  go_wp2_with fail
  refine (HU.out _ HB1.out).mono ?_
  rintro r w2 ⟨rfl, hb2⟩
  have HB2 : Hid (Below w.heap.size w w2) := HB1.out.trans (hb2.mono HB1.out.size)
  have HB2' : Hid (∀ o, Below w.heap.size w (w2.alloc o)) := fun o => HB2.out.alloc HB2.out.size o
  clear hb2 HB1
  go_wp2_with fail
  refine (HC.out _ (HB2'.out _)).mono ?_
  rintro r w3 ⟨rfl, hb3⟩
  have HA3 : Hid (At4 w3 w2.heap.size (.int .i64 k) (.bool b) (.int .i64 e) (.string s)) := At4.same (at4_new w2 _ _ _ _) hb3
  have HB3 : Hid (Below w.heap.size w w3) := (HB2'.out _).trans (hb3.mono (HB2'.out _).size)
  clear hb3 HB2' HB2 HU HC
  generalize w2.heap.size = p at *
  clear w2
  have h4 := HA3.out
  have HX3 : Hid (Below w3.heap.size w3 w3.drew) := (Below.refl _ _).drew
  go_upto_region 6 with fail
  refine wp_region_class (C := fun Wd => Below w3.heap.size w3 Wd) (by kernel_rfl) (by kernel_rfl) HX3.out ?_
  repeat (refine wpQuiet_step (fun K hK => ?_); go_simp; first | (refine hK _ ?_; clear hK K) | (apply Exists.intro; refine ⟨fun wx hC => ?_, hK _ ?_⟩; (first | exact rfl | exact Calls.class_of (HSU.out wx) (fun w' hb => bel1 hC hb) | exact Calls.class_of (HSC.out wx) (fun w' hb => bel1 hC hb) | exact Calls.class_of (HN.out wx) (fun w' hb => bel1 hC hb) | (simp only [hnn, hee]; go_simp; exact rfl) | (obtain ⟨q0, q1, q2, q3, -⟩ := At4.same h4 hC; go_simp; exact rfl)); clear hK K))
  refine wpQuiet_nil ?_
  intro w4 hb4
  have HA4 : Hid (At4 w4 p (.int .i64 k) (.bool b) (.int .i64 e) (.string s)) := At4.same HA3.out hb4
  have HB4 : Hid (Below w.heap.size w w4) := HB3.out.trans (hb4.mono HB3.out.size)
  clear hb4 HA3 HB3 HX3 h4 HSU HSC HN
  go_wp2_with fail
  refine (DrawUnpack128_any _ _ _ _ (by omega) (bytes_lower HBy.out HB4.out)).mono ?_
  rintro r w5 ⟨Hh, Ll, rfl, hH, hL, hb5⟩
  have HA5 : Hid (At4 w5 p (.int .i64 k) (.bool b) (.int .i64 e) (.string s)) := At4.same HA4.out hb5
  have HB5 : Hid (Below w.heap.size w w5) := HB4.out.trans (hb5.mono HB4.out.size)
  have HB5' : Hid (∀ o, Below w.heap.size w (w5.alloc o)) := fun o => HB5.out.alloc HB5.out.size o
  clear hb5 HA4 HB4
  obtain ⟨V, hV⟩ : ∃ V, Hh * 18446744073709551616 + Ll = V := ⟨_, rfl⟩
  have HV1 : Hid (∀ X, Below w.heap.size w X → Calls Tryz.prog 12 #[wpV Hh Ll] X fun x w' => x = .returned (numV (uK 12 11 V) (uB 12 11 V) (uX 12 11 6176 V) (tx (uL 12 11 V))) ∧ Below X.heap.size X w') := fun X hb => by rw [← hV]; exact iUnpack128_any Hh Ll X (HT.out.below hb (Nat.le_refl _)) hH.1 (by omega) hL.1 (by omega)
  have HV2 : Hid (∀ X, Calls Tryz.prog 13 #[wpV Hh Ll] X fun x w' => x = .returned (numV (uK 12 11 V) (uB 12 11 V) (uX 12 11 6176 V) (tx (uL 12 11 V))) ∧ Below X.heap.size X w') := fun X => by rw [← hV]; exact sUnpack128_any Hh Ll X hH.1 (by omega) hL.1 (by omega)
  have HN2 : Hid (∀ X, Calls Tryz.prog 10 #[.int .i64 128, numV (uK 12 11 V) (uB 12 11 V) (uX 12 11 6176 V) (tx (uL 12 11 V))] X fun r w' => r = .returned (.bool true) ∧ Below X.heap.size X w') := fun X => by
    have hR := up_right 12 11 6176 V
    rw [← right_numB 128 _ _ _ _ 12 11 6176 (.inr ⟨rfl, rfl, rfl, rfl⟩) hR]
    exact iNumOk_any 128 _ _ _ _ X (by rw [tx_size]; have := uL_len 12 11 V; omega)
  clear hV
  generalize uK 12 11 V = k2 at *
  generalize uB 12 11 V = b2 at *
  generalize uX 12 11 6176 V = e2 at *
  generalize tx (uL 12 11 V) = s2 at *
  go_wp2_with fail
  refine (HV1.out _ (HB5'.out _)).mono ?_
  rintro r w6 ⟨rfl, hb6⟩
  have HA6 : Hid (At4 w6 p (.int .i64 k) (.bool b) (.int .i64 e) (.string s)) := At4.same (At4.alloc HA5.out (World.block_lt_of_cell? w5 ⟨p, 0, none⟩ HA5.out.1) _) hb6
  have HQ6 : Hid (At2 w6 w5.heap.size (.int .u64 Hh) (.int .u64 Ll)) := ⟨cell_of hb6 (by simp), cell_of hb6 (by simp)⟩
  have HB6 : Hid (Below w.heap.size w w6) := (HB5'.out _).trans (hb6.mono (HB5'.out _).size)
  clear hb6 HA5 HB5 HB5' HV1
  generalize w5.heap.size = q at *
  clear w5
  have HA7 : Hid (At4 (w6.alloc (.cells #[.int .i64 k2, .bool b2, .int .i64 e2, .string s2] 27)) p (.int .i64 k) (.bool b) (.int .i64 e) (.string s) ∧ At2 (w6.alloc (.cells #[.int .i64 k2, .bool b2, .int .i64 e2, .string s2] 27)) q (.int .u64 Hh) (.int .u64 Ll) ∧ At4 (w6.alloc (.cells #[.int .i64 k2, .bool b2, .int .i64 e2, .string s2] 27)) w6.heap.size (.int .i64 k2) (.bool b2) (.int .i64 e2) (.string s2) ∧ Below w.heap.size w (w6.alloc (.cells #[.int .i64 k2, .bool b2, .int .i64 e2, .string s2] 27))) := ⟨At4.alloc HA6.out (World.block_lt_of_cell? w6 ⟨p, 0, none⟩ HA6.out.1) _, ⟨al_of HQ6.out.1 _, al_of HQ6.out.2 _⟩, at4_new w6 _ _ _ _, HB6.out.alloc HB6.out.size _⟩
  go_upto_region 10 with fail
  clear HA6 HQ6 HB6
  generalize w6.alloc (.cells #[.int .i64 k2, .bool b2, .int .i64 e2, .string s2] 27) = w7 at *
  generalize w6.heap.size = t at *
  clear w6
  obtain ⟨h4, h2, h5, hB7⟩ := HA7.out
  have HB7 : Hid (Below w.heap.size w w7) := hB7
  have HX7 : Hid (Below w7.heap.size w7 w7.drew) := (Below.refl _ _).drew
  clear hB7
  refine wp_region_class (C := fun Wd => Below w7.heap.size w7 Wd) (by kernel_rfl) (by kernel_rfl) HX7.out ?_
  repeat (refine wpQuiet_step (fun K hK => ?_); go_simp; first | (refine hK _ ?_; clear hK K) | (apply Exists.intro; refine ⟨fun wx hC => ?_, hK _ ?_⟩; (first | exact rfl | exact Calls.class_of (HV2.out wx) (fun w' hb => bel1 hC hb) | exact Calls.class_of (HN2.out wx) (fun w' hb => bel1 hC hb) | exact Calls.class_of (HU2.out wx (bel1 HB7.out hC)) (fun w' hb => bel1 hC hb) | exact Calls.class_of (HC2.out wx (bel1 HB7.out hC)) (fun w' hb => bel1 hC hb) | (obtain ⟨q0, q1, q2, q3, -⟩ := At4.same h4 hC; obtain ⟨r0, r1, r2, r3, -⟩ := At4.same h5 hC; obtain ⟨t0, t1⟩ := At2.below h2 hC; go_simp; exact rfl)); clear hK K))
  refine wpQuiet_nil ?_
  intro w8 hb8
  have HB8 : Hid (Below w.heap.size w w8) := HB7.out.trans (hb8.mono HB7.out.size)
  clear hb8 HA7 HB7 HX7 h4 h2 h5
  go_wp2
  go_ret
  exact ⟨rfl, HB8.out⟩
end Go.Proofs.YtmeicjbeibmmgadGreatDoor
