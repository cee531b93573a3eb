/-
  FnPacked, walked.
-/
import Derived.Test.YtmjkpjmccdjkjadDoorPkA
namespace Go.Proofs.YtmjkpjmccdjkjadDoor
open Go.RowKit
set_option linter.unusedVariables false
set_option maxRecDepth 100000
set_option linter.unusedSimpArgs false
theorem neq_wd (h l : Int) (w : World) : (binOp .neq 33 (.agg #[.int .u64 h, .int .u64 l]) (.agg #[.int .u64 h, .int .u64 l])).run Tryd.prog w = .ok (.bool false) w := by
  have hS : Tryd.prog.underlying 33 = some (.struct (Tryd.prog.fieldsOf 33)) := by kernel_rfl
  have hp : Tryd.prog.stoodInHeld 33 = false := by kernel_rfl
  rw [run_neq_struct, show (10000 : Nat) = 9999 + 1 from rfl, run_equalIn_agg w 9999 33 _ _ hS hp]
  simp only [Program.fieldsOf, Tryd.underlying33]
  go_simp
theorem eql_wd (h l : Int) (w : World) : (binOp .eql 33 (.agg #[.int .u64 h, .int .u64 l]) (.agg #[.int .u64 h, .int .u64 l])).run Tryd.prog w = .ok (.bool true) w := by
  have hS : Tryd.prog.underlying 33 = some (.struct (Tryd.prog.fieldsOf 33)) := by kernel_rfl
  have hp : Tryd.prog.stoodInHeld 33 = false := by kernel_rfl
  rw [run_eql_struct, show (10000 : Nat) = 9999 + 1 from rfl, run_equalIn_agg w 9999 33 _ _ hS hp]
  simp only [Program.fieldsOf, Tryd.underlying33]
  go_simp
set_option maxRecDepth 100000 in
set_option maxHeartbeats 8000000 in
theorem fnPacked_any (a : Option Addr) (len cap : Nat) (w : World) (ht : Tabs w) (hbig : ¬ 4096 < len) (hb0 : Bytes w.heap.size w a len) :
    Calls Tryd.prog 3 #[.slice a len cap] w fun e w' => e = .returned (.bool true) ∧ Below w.heap.size w w' := by
  have HT : Hid (Tabs w) := ht
  have HBy : Hid (Bytes w.heap.size w a len) := hb0
  have hnn := neq_num
  have hee := eql_num
  have hnw := neq_wd
  have hew := eql_wd
  clear ht hb0
  go_enter Tryd.func3, Tryd.ntmps3
  go_wp2_with fail
  refine (big_no _ _ _ _ hbig).mono ?_
  rintro e w' ⟨rfl, hw⟩
  obtain rfl := hw.symm
  go_wp2_with fail
  refine (DrawPack64_any _ _ _ _ (by omega) HBy.out).mono ?_
  rintro e w1 ⟨k, b, e, s, rfl, -, -, hs, hb1⟩
  obtain ⟨W, c, hW, hi, hm, hc⟩ := pack64_all k b e s w HT.out hs
  have HI : Hid (∀ X, Below w.heap.size w X → Calls Tryd.prog 6 #[numV k b e s] X fun x w' => x = .returned (.tuple #[.int .u64 W, .bool c]) ∧ Below X.heap.size X w') := hi
  have HM : Hid (∀ X, Calls Tryd.prog 7 #[numV k b e s] X fun x w' => x = .returned (.tuple #[.int .u64 W, .bool c]) ∧ Below X.heap.size X w') := hm
  have HC : Hid ((c = true ∧ (∀ X, Below w.heap.size w X → Calls Tryd.prog 8 #[.int .u64 W] X fun x w' => x = .returned (numV k b e s) ∧ Below X.heap.size X w') ∧
      (∀ X, Below w.heap.size w X → Calls Tryd.prog 9 #[.int .u64 W] X fun x w' => x = .returned (.int .u64 W) ∧ Below X.heap.size X w')) ∨ (c = false ∧ W = 0)) := hc
  have HB1 : Hid (Below w.heap.size w w1) := hb1
  have HB1' : Hid (∀ o, Below w.heap.size w (w1.alloc o)) := fun o => HB1.out.alloc HB1.out.size o
  clear hi hm hc hb1
  go_wp2_with fail
  refine (HI.out _ (HB1'.out _)).mono ?_
  rintro r w2 ⟨rfl, hb2⟩
  have HA2 : Hid (At4 w2 w1.heap.size (.int .i64 k) (.bool b) (.int .i64 e) (.string s)) := At4.same (at4_new w1 _ _ _ _) hb2
  have HB2 : Hid (Below w.heap.size w w2) := (HB1'.out _).trans (hb2.mono (HB1'.out _).size)
  clear hb2 HB1' HB1 HI
  generalize w1.heap.size = p at *
  clear w1
  obtain ⟨q0, q1, q2, q3, -⟩ := HA2.out
  go_wp2_with fail
  refine (HM.out _).mono ?_
  rintro r w3 ⟨rfl, hb3⟩
  have HA3 : Hid (At4 w3 p (.int .i64 k) (.bool b) (.int .i64 e) (.string s)) := At4.same HA2.out hb3
  have HB3 : Hid (Below w.heap.size w w3) := HB2.out.trans (hb3.mono HB2.out.size)
  clear hb3 HB2 HA2 HM q0 q1 q2 q3
  clear w2
  have h4 := HA3.out
  have HX3 : Hid (Below w3.heap.size w3 w3.drew) := (Below.refl _ _).drew
  go_upto_region 8 with fail
  go_cut [47] (fun x wx => x = .bool false ∧ Hid (Below w.heap.size w wx))
  case first =>
    rcases HC.out with ⟨rfl, hu, hcw⟩ | ⟨rfl, rfl⟩
    · have HU : Hid (∀ X, Below w.heap.size w X → Calls Tryd.prog 8 #[.int .u64 W] X fun x w' => x = .returned (numV k b e s) ∧ Below X.heap.size X w') := hu
      have HW : Hid (∀ X, Below w.heap.size w X → Calls Tryd.prog 9 #[.int .u64 W] X fun x w' => x = .returned (.int .u64 W) ∧ Below X.heap.size X w') := hcw
      clear hu hcw HC
      refine wp_region_class (C := fun Wd => Below w3.heap.size w3 Wd) (by kernel_rfl) (by kernel_rfl) HX3.out ?_
      repeat (refine wpQuiet_step (fun K hK => ?_); go_simp; first | (refine hK _ ?_; clear hK K) | (apply Exists.intro; refine ⟨fun wx hC => ?_, hK _ ?_⟩; (first | exact rfl | exact Calls.class_of (HU.out wx (bel1 HB3.out hC)) (fun w' hb => bel1 hC hb) | exact Calls.class_of (HW.out wx (bel1 HB3.out hC)) (fun w' hb => bel1 hC hb) | (simp only [hnn, hee]; go_simp; exact rfl) | (obtain ⟨q0, q1, q2, q3, -⟩ := At4.same h4 hC; go_simp; exact rfl)); clear hK K))
      refine wpQuiet_nil ?_
      intro w4 hb4
      have HB4 : Hid (Below w.heap.size w w4) := HB3.out.trans (hb4.mono HB3.out.size)
      clear hb4
      go_wp2_with fail
      go_meet
      case rel => exact ⟨rfl, HB4⟩
    · clear HC h4 HX3
      go_quiet (fail)
      go_wp2_with fail
      go_meet
      case rel => exact ⟨rfl, below_drewN HB3.out nq⟩
  case rest =>
    obtain ⟨rfl, HB4⟩ := hcut
    have HCW : Hid (c = true ∨ (c = false ∧ W = 0)) := by rcases HC.out with ⟨h, -⟩ | h; exact .inl h; exact .inr h
    clear HA3 HB3 HX3 h4 HC
    go_wp2_with fail
    refine (DrawPack128_any _ _ _ _ (by omega) (bytes_lower HBy.out HB4.out)).mono ?_
    rintro r w5 ⟨k2, b2, e2, s2, rfl, -, -, hs2, hb5⟩
    obtain ⟨H, L, c2, hi, hm, hc⟩ := pack128_all k2 b2 e2 s2 w HT.out hs2
    have HI2 : Hid (∀ X, Below w.heap.size w X → Calls Tryd.prog 11 #[numV k2 b2 e2 s2] X fun x w' => x = .returned (.tuple #[wpV H L, .bool c2]) ∧ Below X.heap.size X w') := hi
    have HM2 : Hid (∀ X, Calls Tryd.prog 12 #[numV k2 b2 e2 s2] X fun x w' => x = .returned (.tuple #[wpV H L, .bool c2]) ∧ Below X.heap.size X w') := hm
    have HC2 : Hid ((c2 = true ∧ (∀ X, Below w.heap.size w X → Calls Tryd.prog 13 #[wpV H L] X fun x w' => x = .returned (numV k2 b2 e2 s2) ∧ Below X.heap.size X w')) ∨ (c2 = false ∧ H = 0 ∧ L = 0)) := hc
    have HB5 : Hid (Below w.heap.size w w5) := HB4.out.trans (hb5.mono HB4.out.size)
    have HB5' : Hid (∀ o, Below w.heap.size w (w5.alloc o)) := fun o => HB5.out.alloc HB5.out.size o
    clear hi hm hc hb5 HB4
    go_wp2_with fail
    refine (HI2.out _ (HB5'.out _)).mono ?_
    rintro r w6 ⟨rfl, hb6⟩
    have HA6 : Hid (At4 w6 w5.heap.size (.int .i64 k2) (.bool b2) (.int .i64 e2) (.string s2)) := At4.same (at4_new w5 _ _ _ _) hb6
    have HB6 : Hid (Below w.heap.size w w6) := (HB5'.out _).trans (hb6.mono (HB5'.out _).size)
    clear hb6 HB5' HB5 HI2
    generalize w5.heap.size = t at *
    clear w5
    have HB7 : Hid (Below w.heap.size w (w6.alloc (.cells #[.int .u64 H, .int .u64 L] 33))) := HB6.out.alloc HB6.out.size _
    have HA7 : Hid (At4 (w6.alloc (.cells #[.int .u64 H, .int .u64 L] 33)) t (.int .i64 k2) (.bool b2) (.int .i64 e2) (.string s2)) := At4.alloc HA6.out (World.block_lt_of_cell? w6 ⟨t, 0, none⟩ HA6.out.1) _
    have HQ7 : Hid (At2 (w6.alloc (.cells #[.int .u64 H, .int .u64 L] 33)) w6.heap.size (.int .u64 H) (.int .u64 L)) := at2_new w6 _ _ _
    go_upto_region 12 with fail
    clear HB6 HA6
    generalize w6.alloc (.cells #[.int .u64 H, .int .u64 L] 33) = w7 at *
    generalize w6.heap.size = u at *
    clear w6
    obtain ⟨q0, q1, q2, q3, -⟩ := HA7.out
    obtain ⟨p0, p1⟩ := HQ7.out
    go_wp2_with fail
    refine (HM2.out _).mono ?_
    rintro r w8 ⟨rfl, hb8⟩
    have HB8 : Hid (Below w.heap.size w w8) := HB7.out.trans (hb8.mono HB7.out.size)
    have HA8 : Hid (At4 w8 t (.int .i64 k2) (.bool b2) (.int .i64 e2) (.string s2)) := At4.same HA7.out hb8
    have HQ8 : Hid (At2 w8 u (.int .u64 H) (.int .u64 L)) := At2.below HQ7.out hb8
    clear hb8 HB7 HA7 HQ7 HM2 q0 q1 q2 q3 p0 p1
    clear w7
    have HB9 : Hid (Below w.heap.size w (w8.alloc (.cells #[.int .u64 H, .int .u64 L] 33))) := HB8.out.alloc HB8.out.size _
    have HA9 : Hid (At4 (w8.alloc (.cells #[.int .u64 H, .int .u64 L] 33)) t (.int .i64 k2) (.bool b2) (.int .i64 e2) (.string s2)) := At4.alloc HA8.out (World.block_lt_of_cell? w8 ⟨t, 0, none⟩ HA8.out.1) _
    have HQ9 : Hid (At2 (w8.alloc (.cells #[.int .u64 H, .int .u64 L] 33)) u (.int .u64 H) (.int .u64 L)) := HQ8.out.alloc _
    have HR9 : Hid (At2 (w8.alloc (.cells #[.int .u64 H, .int .u64 L] 33)) w8.heap.size (.int .u64 H) (.int .u64 L)) := at2_new w8 _ _ _
    go_upto_region 13 with fail
    clear HB8 HA8 HQ8
    generalize w8.alloc (.cells #[.int .u64 H, .int .u64 L] 33) = w9 at *
    generalize w8.heap.size = v at *
    clear w8
    obtain ⟨p0, p1⟩ := HQ9.out
    obtain ⟨r0, r1⟩ := HR9.out
    have hnw' : (binOp .neq 33 (.agg #[.int .u64 H, .int .u64 L]) (.agg #[.int .u64 H, .int .u64 L])).run Tryd.prog w9 = .ok (.bool false) w9 := hnw H L w9
    go_upto_region 15 with fail
    have h4 := HA9.out
    have h2 := HQ9.out
    have HX9 : Hid (Below w9.heap.size w9 w9.drew) := (Below.refl _ _).drew
    clear HA9 HQ9 HR9 r0 r1 p0 p1 hnw'
    rcases HC2.out with ⟨rfl, hu⟩ | ⟨rfl, rfl, rfl⟩
    · have HU : Hid (∀ X, Below w.heap.size w X → Calls Tryd.prog 13 #[wpV H L] X fun x w' => x = .returned (numV k2 b2 e2 s2) ∧ Below X.heap.size X w') := hu
      clear hu HC2
      rcases HCW.out with rfl | ⟨rfl, rfl⟩
      all_goals
        refine wp_region_class (C := fun Wd => Below w9.heap.size w9 Wd) (by kernel_rfl) (by kernel_rfl) HX9.out ?_
        repeat (refine wpQuiet_step (fun K hK => ?_); go_simp; first | (refine hK _ ?_; clear hK K) | (apply Exists.intro; refine ⟨fun wx hC => ?_, hK _ ?_⟩; (first | exact rfl | exact Calls.class_of (HU.out wx (bel1 HB9.out hC)) (fun w' hb => bel1 hC hb) | (simp only [hnn, hee]; go_simp; exact rfl) | (obtain ⟨q0, q1, q2, q3, -⟩ := At4.same h4 hC; obtain ⟨t0, t1⟩ := At2.below h2 hC; go_simp; exact rfl)); clear hK K))
        refine wpQuiet_nil ?_
        intro wz hbz
        have HBz : Hid (Below w.heap.size w wz) := HB9.out.trans (hbz.mono HB9.out.size)
        clear hbz
        go_wp2
        go_ret
        exact ⟨rfl, HBz.out⟩
    · clear HC2 h4 HX9
      obtain ⟨t0, t1⟩ := h2
      have hew' := hew 0 0
      clear hew hnw hee hnn
      rcases HCW.out with rfl | ⟨rfl, rfl⟩
      all_goals
        clear HCW
        go_quiet (fail)
        go_wp2
        go_ret
        exact ⟨rfl, below_drewN HB9.out _⟩
end Go.Proofs.YtmjkpjmccdjkjadDoor
