/-
  Digits rounded into a format, by the program, walked (nothing standing behind them).
-/
import Derived.Test.YtdkpiofeidcffaaGreatDoorFnc
import Derived.Deep.DeepCutAuto
import Derived.Laws.EntriesVeiled
import Derived.Test.YtdkpiofeidcffaaGreatDoorFinP
namespace Go.Proofs.YtdkpiofeidcffaaGreatDoor
open Go.RowKit
set_option linter.unusedVariables false
set_option maxRecDepth 100000
set_option maxRecDepth 100000 in
set_option maxHeartbeats 2000000 in
theorem preferred_64 (D : List Int) (e want : Int) (w : World) (hD : Dec D) (h0 : 0 < D.length) (hl : D.length ≤ 500) (he : -500000 ≤ e ∧ e ≤ 500000) (hwt : -200000 ≤ want ∧ want ≤ 200000) :
    Calls Tryz.prog 66 #[.iface 88 (.agg #[]), scV (tx D) e, .int .i64 want] w fun x w' => x = .returned (scV (tx (fin3D false D e want (-398) 369 16)) (fin3E false D e want (-398) 369 16)) ∧ Below w.heap.size w w' := by
  obtain ⟨n, hn⟩ : ∃ n, D.length = n := ⟨_, rfl⟩
  obtain ⟨A, hA⟩ : ∃ A, fA D e want 369 = A := ⟨_, rfl⟩
  have hA0 : A < n := by have := fA_len D e want 369 h0; omega
  have HA1 : Hid (∀ i : Nat, i < A → e + (i : Int) < want ∧ e + (i : Int) < 369 ∧ i + 1 < n ∧ D.getD (n - 1 - i) 0 = 0) := fun i hi => by
    have := fA_more D e want 369 i (by omega)
    rwa [hn] at this
  have HA2 : Hid (¬ e + (A : Int) < want ∨ ¬ e + (A : Int) < 369 ∨ n ≤ A + 1 ∨ D.getD (n - 1 - A) 0 ≠ 0) := by
    have := fA_stop D e want 369 h0
    rwa [hA, hn] at this
  have HX : Hid (∀ k : Nat, k < n → ∃ S, S = tx (D.take (k + 1)) ∧ S.size = k + 1 ∧ Lib.hasSuffix S.data.toList [48] = decide (D.getD k 0 = 0) ∧ S.extract 0 k = tx (D.take k)) := fun k hk => by
    have hlk : (D.take (k + 1)).length = k + 1 := by rw [List.length_take]; omega
    refine ⟨_, rfl, by rw [tx_size, hlk], ?_, ?_⟩
    · rw [suf0 _ (fun x hx => hD x (List.mem_of_mem_take hx)) k hlk]
      exact decide_eq_decide.2 (by simp [List.getD, List.getElem?_take_of_lt (Nat.lt_succ_self k)])
    · rw [tx_take _ k (by omega), List.take_take, Nat.min_eq_left (by omega)]
  obtain ⟨D4, hD4⟩ : ∃ D4, D.take (n - A) = D4 := ⟨_, rfl⟩
  have l4 : D4.length = n - A := by rw [← hD4, List.length_take]; omega
  obtain ⟨hi, hhi⟩ : ∃ hi, min want 369 = hi := ⟨_, rfl⟩
  obtain ⟨lo, hlo⟩ : ∃ lo, max want (-398) = lo := ⟨_, rfl⟩
  have HLw : Hid (∀ X, Calls Tryz.prog 67 #[scV (tx D4) (e + A), .iface 88 (.agg #[]), .int .i64 lo] X fun x w' => x = .returned (scV (tx (fin3D false D e want (-398) 369 16)) (fin3E false D e want (-398) 369 16)) ∧ Below X.heap.size X w') := fun X => by
    have := lowered_64 D4 (e + A) lo X (by omega) (by omega) (by omega)
    have ec : fC D4.length 16 (e + A) lo = fB (n - A) 16 (e + A) want (-398) := by rw [l4, ← hlo]; unfold fC fB; omega
    rw [ec] at this
    unfold fin3D fin3E
    rw [if_neg Bool.false_ne_true, if_neg Bool.false_ne_true, hA, hn, hD4]
    exact this
  generalize fin3D false D e want (-398) 369 16 = D5 at *
  generalize fin3E false D e want (-398) 369 16 = e5 at *
  have HI : Hid (min want 369 = hi ∧ max want (-398) = lo) := ⟨hhi, hlo⟩
  have HS0 : Hid (tx D = tx (D.take (n - 0))) := by show _ = _; rw [Nat.sub_zero, List.take_of_length_le (by omega)]
  have HD4 : Hid (tx (D.take (n - A)) = tx D4) := by show _ = _; rw [hD4]
  have hn5 : n ≤ 500 := by omega
  obtain ⟨hz1, hz2, hz3⟩ := bx2_at w (tx D) e
  have HZ : Hid (At2r (bx2 w (tx D) e) w.heap.size 65 (.string (tx D)) (.int .i64 e) ∧ At2r (bx2 w (tx D) e) (w.heap.size + 1) 65 (.string { data := #[] }) (.int .i64 0) ∧ Below w.heap.size w (bx2 w (tx D) e)) := ⟨hz1, hz2, hz3⟩
  clear hhi hlo hA hn hD4 l4 hl h0 hz1 hz2 hz3
  go_enter Tryz.func66, Tryz.ntmps66
  go_wp2_with fail
  refine (greatestExp_64 _).mono ?_
  rintro x w1 ⟨rfl, hb1⟩
  have HZ1 : Hid (At2r w1 w.heap.size 65 (.string (tx D)) (.int .i64 e) ∧ At2r w1 (w.heap.size + 1) 65 (.string { data := #[] }) (.int .i64 0) ∧ Below w.heap.size w w1) := ⟨HZ.out.1.below hb1 HZ.out.1.lt, HZ.out.2.1.below hb1 HZ.out.2.1.lt, HZ.out.2.2.trans (hb1.mono HZ.out.2.2.size)⟩
  clear hb1 HZ
  have hmin := HI.out.1
  go_upto_block 0 with fail
  clear hmin
  go_cut [] (fun wx => Hid (At2r wx w.heap.size 65 (.string (tx D4)) (.int .i64 (e + (A : Int))) ∧ At2r wx (w.heap.size + 1) 65 (.string { data := #[] }) (.int .i64 0) ∧ Below w.heap.size w wx))
  case first =>
    go_wp2_with fail
    go_loopg [] A (fun gk wx => ∃ i : Nat, i ≤ A ∧ gk = A - i ∧ Hid (At2r wx w.heap.size 65 (.string (tx (D.take (n - i)))) (.int .i64 (e + (i : Int))) ∧ At2r wx (w.heap.size + 1) 65 (.string { data := #[] }) (.int .i64 0) ∧ Below w.heap.size w wx))
    case atStart => exact ⟨0, Nat.zero_le _, rfl, by rw [← HS0.out]; exact ⟨by simpa using HZ1.out.1, HZ1.out.2⟩⟩
    case round =>
      obtain ⟨i, hiA, hgk, HZ2⟩ := hrel
      have HG : Hid (gk = A - i) := hgk
      clear hgk
      obtain ⟨k, hk⟩ : ∃ k, n - 1 - i = k := ⟨_, rfl⟩
      have hk1 : n - i = k + 1 := by omega
      obtain ⟨S, hS, y1, y2, y3⟩ := HX.out k (by omega)
      have HSE : Hid (Value.string (tx (D.take (n - i))) = Value.string S) := by show _ = _; rw [hk1, ← hS]
      have HZ3 : Hid (At2r wr w.heap.size 65 (.string S) (.int .i64 (e + (i : Int))) ∧ At2r wr (w.heap.size + 1) 65 (.string { data := #[] }) (.int .i64 0) ∧ Below w.heap.size w wr) := by
        have := HZ2.out
        rw [HSE.out] at this
        exact this
      obtain ⟨q0, q1⟩ := HZ3.out.1.cells
      have HSf : Hid (∀ X, Calls Tryz.prog 88 #[.string S, .string { data := #[48] }] X fun x w' => x = .returned (.bool (decide (D.getD k 0 = 0))) ∧ w' = X) := fun X => by
        have := Tryz.strings_HasSuffix S { data := #[48] } X (by omega)
        rw [show ({ data := #[48] } : ByteArray).data.toList = [48] from rfl, y2] at this
        exact this
      obtain ⟨m, hm⟩ : ∃ m, k + 1 = m := ⟨_, rfl⟩
      replace y1 := y1.trans hm
      have wm : IntKind.i64.wrap ((m : Int) - 1) = (k : Int) := by rw [IntKind.wrap_i64]; omega
      have km : (k : Int) ≤ (m : Int) := by omega
      have km3 : ¬ (k : Int) < 0 := by omega
      have HM : Hid (k + 1 = m ∧ n - 1 - i = k) := ⟨hm, hk⟩
      clear y2 HZ2 hS hm
      by_cases hlt : i < A
      · obtain ⟨z1, z2, z3, z4⟩ := HA1.out i hlt
        rw [hk] at z4
        have g1 : e + (i : Int) < hi := by have := HI.out.1; omega
        have g2 : (1 : Int) < (m : Int) := by have := HM.out.1; omega
        have we : IntKind.i64.wrap (e + (i : Int) + 1) = e + ((i + 1 : Nat) : Int) := by rw [IntKind.wrap_i64]; omega
        have HSf2 : Hid (∀ X, Calls Tryz.prog 88 #[.string S, .string { data := #[48] }] X fun x w' => x = .returned (.bool true) ∧ w' = X) := by
          have := HSf.out
          rw [decide_eq_true z4] at this
          exact this
        have HK : Hid (n - (i + 1) = k) := by show _ = _; omega
        have hbl := build_sc (tx (D.take k)) (e + ((i + 1 : Nat) : Int))
        clear z1 z2 z3 z4 hk hk1 HSf
        go_wp2_with fail
        refine (HSf2.out _).mono ?_
        rintro x wy ⟨rfl, rfl⟩
        go_upto_region 3 with fail
        refine wp_region_tail (C := fun W => W = wy.drew) 10 (by kernel_rfl) (by kernel_rfl) rfl ?_
        simp only [List.take_succ_cons, List.take_zero, List.drop_succ_cons, List.drop_zero]
        repeat (refine wpQuiet_step (fun K hK => ?_); go_simp; first | (refine hK _ ?_; clear hK K) | (apply Exists.intro; refine ⟨fun wx hC => ?_, hK _ ?_⟩; (first | exact rfl | (subst hC; go_simp; exact rfl)); clear hK K))
        refine wpQuiet_nil ?_
        intro wz hz
        subst hz
        have HZ4 : Hid (At2r wy.drew w.heap.size 65 (.string S) (.int .i64 (e + (i : Int)))) := HZ3.out.1
        go_wp2_with (refine wpList_store_row rfl 65 (.tmp 4) (.tmp 37) rfl w.heap.size #[.string (tx (D.take k)), .int .i64 (e + ((i + 1 : Nat) : Int))] rfl rfl _ _ HZ4.out (by kernel_rfl) rfl (one2 _ _) ?_)
        go_roundg (A - (i + 1))
        case measure => have := HG.out; omega
        case rel => exact ⟨i + 1, by omega, rfl, by rw [HK.out]; exact HZ4.out.row _ _, (show At2r wy.drew (w.heap.size + 1) _ _ _ from HZ3.out.2.1).other (by omega) _, bel_row (HZ3.out.2.2.drew) (Nat.le_refl _) _⟩
      · have ei : i = A := by omega
        subst ei
        have HZ5 : Hid (At2r wr w.heap.size 65 (.string (tx D4)) (.int .i64 (e + (i : Int))) ∧ At2r wr (w.heap.size + 1) 65 (.string { data := #[] }) (.int .i64 0) ∧ Below w.heap.size w wr) := by
          have := HZ3.out
          rw [← HSE.out, HD4.out] at this
          exact this
        by_cases g1 : e + (i : Int) < hi
        · by_cases g2 : (1 : Int) < (m : Int)
          · have g3 : ¬ D.getD k 0 = 0 := by
              have h1 := HI.out.1
              have h2 := HM.out
              rcases HA2.out with c | c | c | c
              · omega
              · omega
              · omega
              · rw [hk] at c; exact c
            have HSf2 : Hid (∀ X, Calls Tryz.prog 88 #[.string S, .string { data := #[48] }] X fun x w' => x = .returned (.bool false) ∧ w' = X) := by
              have := HSf.out
              rw [decide_eq_false g3] at this
              exact this
            clear hk hk1 HSf g3 hlt
            go_wp2_with fail
            refine (HSf2.out _).mono ?_
            rintro x wy ⟨rfl, rfl⟩
            go_wp2
            go_meet
            case rel => exact HZ5
          · clear hk hk1 hlt HSf
            go_wp2
            go_meet
            case rel => exact HZ5
        · clear hk hk1 hlt HSf
          go_wp2
          go_meet
          case rel => exact HZ5
  case rest =>
    have HZ2 := hcut
    have HX0 : Hid (Below wc.heap.size wc wc.drew) := (Below.refl _ _).drew
    have hmx := HI.out.2
    clear hcut HZ1 HA1 HA2 HX HS0 HD4
    go_upto_region 4 with fail
    refine wp_region_tail (C := fun W => Below wc.heap.size wc W) 6 (by kernel_rfl) (by kernel_rfl) HX0.out ?_
    simp only [List.take_succ_cons, List.take_zero, List.drop_succ_cons, List.drop_zero]
    repeat (refine wpQuiet_step (fun K hK => ?_); go_simp; first | (refine hK _ ?_; clear hK K) | (apply Exists.intro; refine ⟨fun wx hC => ?_, hK _ ?_⟩; (first | exact rfl | (simp only [md_leastExp_64]; go_simp; exact Calls.class_of (leastExp_64 wx) (fun w' hb => bel1 hC hb)) | (obtain ⟨q0, q1⟩ := (HZ2.out.1.below hC HZ2.out.1.lt).cells; go_simp; exact rfl)); clear hK K))
    refine wpQuiet_nil ?_
    intro w2 hb2
    have HZ3 : Hid (At2r w2 (w.heap.size + 1) 65 (.string { data := #[] }) (.int .i64 0) ∧ Below w.heap.size w w2) := ⟨HZ2.out.2.1.below hb2 HZ2.out.2.1.lt, HZ2.out.2.2.trans (hb2.mono HZ2.out.2.2.size)⟩
    clear hb2 HZ2 HX0
    go_wp2_with fail
    refine (HLw.out _).mono ?_
    rintro x w3 ⟨rfl, hb3⟩
    have HZ4 : Hid (At2r w3 (w.heap.size + 1) 65 (.string { data := #[] }) (.int .i64 0) ∧ Below w.heap.size w w3) := ⟨HZ3.out.1.below hb3 HZ3.out.1.lt, HZ3.out.2.trans (hb3.mono HZ3.out.2.size)⟩
    clear hb3 HZ3 HLw
    go_wp2_with (refine wpList_store_row rfl 65 (.tmp 6) (.tmp 44) rfl (w.heap.size + 1) #[.string (tx D5), .int .i64 e5] rfl rfl _ _ HZ4.out.1 (by kernel_rfl) rfl (one2 _ _) ?_)
    have hP := (HZ4.out.1.row (.string (tx D5)) (.int .i64 e5)).cells
    refine bodyPost_ret (results_sc rfl _ _ rfl hP.1 hP.2) rfl ?_
    exact ⟨rfl, bel_row HZ4.out.2 (by omega) _⟩
set_option maxRecDepth 100000 in
set_option maxHeartbeats 2000000 in
theorem preferred_128 (D : List Int) (e want : Int) (w : World) (hD : Dec D) (h0 : 0 < D.length) (hl : D.length ≤ 500) (he : -500000 ≤ e ∧ e ≤ 500000) (hwt : -200000 ≤ want ∧ want ≤ 200000) :
    Calls Tryz.prog 66 #[.iface 89 (.agg #[]), scV (tx D) e, .int .i64 want] w fun x w' => x = .returned (scV (tx (fin3D false D e want (-6176) 6111 34)) (fin3E false D e want (-6176) 6111 34)) ∧ Below w.heap.size w w' := by
  obtain ⟨n, hn⟩ : ∃ n, D.length = n := ⟨_, rfl⟩
  obtain ⟨A, hA⟩ : ∃ A, fA D e want 6111 = A := ⟨_, rfl⟩
  have hA0 : A < n := by have := fA_len D e want 6111 h0; omega
  have HA1 : Hid (∀ i : Nat, i < A → e + (i : Int) < want ∧ e + (i : Int) < 6111 ∧ i + 1 < n ∧ D.getD (n - 1 - i) 0 = 0) := fun i hi => by
    have := fA_more D e want 6111 i (by omega)
    rwa [hn] at this
  have HA2 : Hid (¬ e + (A : Int) < want ∨ ¬ e + (A : Int) < 6111 ∨ n ≤ A + 1 ∨ D.getD (n - 1 - A) 0 ≠ 0) := by
    have := fA_stop D e want 6111 h0
    rwa [hA, hn] at this
  have HX : Hid (∀ k : Nat, k < n → ∃ S, S = tx (D.take (k + 1)) ∧ S.size = k + 1 ∧ Lib.hasSuffix S.data.toList [48] = decide (D.getD k 0 = 0) ∧ S.extract 0 k = tx (D.take k)) := fun k hk => by
    have hlk : (D.take (k + 1)).length = k + 1 := by rw [List.length_take]; omega
    refine ⟨_, rfl, by rw [tx_size, hlk], ?_, ?_⟩
    · rw [suf0 _ (fun x hx => hD x (List.mem_of_mem_take hx)) k hlk]
      exact decide_eq_decide.2 (by simp [List.getD, List.getElem?_take_of_lt (Nat.lt_succ_self k)])
    · rw [tx_take _ k (by omega), List.take_take, Nat.min_eq_left (by omega)]
  obtain ⟨D4, hD4⟩ : ∃ D4, D.take (n - A) = D4 := ⟨_, rfl⟩
  have l4 : D4.length = n - A := by rw [← hD4, List.length_take]; omega
  obtain ⟨hi, hhi⟩ : ∃ hi, min want 6111 = hi := ⟨_, rfl⟩
  obtain ⟨lo, hlo⟩ : ∃ lo, max want (-6176) = lo := ⟨_, rfl⟩
  have HLw : Hid (∀ X, Calls Tryz.prog 67 #[scV (tx D4) (e + A), .iface 89 (.agg #[]), .int .i64 lo] X fun x w' => x = .returned (scV (tx (fin3D false D e want (-6176) 6111 34)) (fin3E false D e want (-6176) 6111 34)) ∧ Below X.heap.size X w') := fun X => by
    have := lowered_128 D4 (e + A) lo X (by omega) (by omega) (by omega)
    have ec : fC D4.length 34 (e + A) lo = fB (n - A) 34 (e + A) want (-6176) := by rw [l4, ← hlo]; unfold fC fB; omega
    rw [ec] at this
    unfold fin3D fin3E
    rw [if_neg Bool.false_ne_true, if_neg Bool.false_ne_true, hA, hn, hD4]
    exact this
  generalize fin3D false D e want (-6176) 6111 34 = D5 at *
  generalize fin3E false D e want (-6176) 6111 34 = e5 at *
  have HI : Hid (min want 6111 = hi ∧ max want (-6176) = lo) := ⟨hhi, hlo⟩
  have HS0 : Hid (tx D = tx (D.take (n - 0))) := by show _ = _; rw [Nat.sub_zero, List.take_of_length_le (by omega)]
  have HD4 : Hid (tx (D.take (n - A)) = tx D4) := by show _ = _; rw [hD4]
  have hn5 : n ≤ 500 := by omega
  obtain ⟨hz1, hz2, hz3⟩ := bx2_at w (tx D) e
  have HZ : Hid (At2r (bx2 w (tx D) e) w.heap.size 65 (.string (tx D)) (.int .i64 e) ∧ At2r (bx2 w (tx D) e) (w.heap.size + 1) 65 (.string { data := #[] }) (.int .i64 0) ∧ Below w.heap.size w (bx2 w (tx D) e)) := ⟨hz1, hz2, hz3⟩
  clear hhi hlo hA hn hD4 l4 hl h0 hz1 hz2 hz3
  go_enter Tryz.func66, Tryz.ntmps66
  go_wp2_with fail
  refine (greatestExp_128 _).mono ?_
  rintro x w1 ⟨rfl, hb1⟩
  have HZ1 : Hid (At2r w1 w.heap.size 65 (.string (tx D)) (.int .i64 e) ∧ At2r w1 (w.heap.size + 1) 65 (.string { data := #[] }) (.int .i64 0) ∧ Below w.heap.size w w1) := ⟨HZ.out.1.below hb1 HZ.out.1.lt, HZ.out.2.1.below hb1 HZ.out.2.1.lt, HZ.out.2.2.trans (hb1.mono HZ.out.2.2.size)⟩
  clear hb1 HZ
  have hmin := HI.out.1
  go_upto_block 0 with fail
  clear hmin
  go_cut [] (fun wx => Hid (At2r wx w.heap.size 65 (.string (tx D4)) (.int .i64 (e + (A : Int))) ∧ At2r wx (w.heap.size + 1) 65 (.string { data := #[] }) (.int .i64 0) ∧ Below w.heap.size w wx))
  case first =>
    go_wp2_with fail
    go_loopg [] A (fun gk wx => ∃ i : Nat, i ≤ A ∧ gk = A - i ∧ Hid (At2r wx w.heap.size 65 (.string (tx (D.take (n - i)))) (.int .i64 (e + (i : Int))) ∧ At2r wx (w.heap.size + 1) 65 (.string { data := #[] }) (.int .i64 0) ∧ Below w.heap.size w wx))
    case atStart => exact ⟨0, Nat.zero_le _, rfl, by rw [← HS0.out]; exact ⟨by simpa using HZ1.out.1, HZ1.out.2⟩⟩
    case round =>
      obtain ⟨i, hiA, hgk, HZ2⟩ := hrel
      have HG : Hid (gk = A - i) := hgk
      clear hgk
      obtain ⟨k, hk⟩ : ∃ k, n - 1 - i = k := ⟨_, rfl⟩
      have hk1 : n - i = k + 1 := by omega
      obtain ⟨S, hS, y1, y2, y3⟩ := HX.out k (by omega)
      have HSE : Hid (Value.string (tx (D.take (n - i))) = Value.string S) := by show _ = _; rw [hk1, ← hS]
      have HZ3 : Hid (At2r wr w.heap.size 65 (.string S) (.int .i64 (e + (i : Int))) ∧ At2r wr (w.heap.size + 1) 65 (.string { data := #[] }) (.int .i64 0) ∧ Below w.heap.size w wr) := by
        have := HZ2.out
        rw [HSE.out] at this
        exact this
      obtain ⟨q0, q1⟩ := HZ3.out.1.cells
      have HSf : Hid (∀ X, Calls Tryz.prog 88 #[.string S, .string { data := #[48] }] X fun x w' => x = .returned (.bool (decide (D.getD k 0 = 0))) ∧ w' = X) := fun X => by
        have := Tryz.strings_HasSuffix S { data := #[48] } X (by omega)
        rw [show ({ data := #[48] } : ByteArray).data.toList = [48] from rfl, y2] at this
        exact this
      obtain ⟨m, hm⟩ : ∃ m, k + 1 = m := ⟨_, rfl⟩
      replace y1 := y1.trans hm
      have wm : IntKind.i64.wrap ((m : Int) - 1) = (k : Int) := by rw [IntKind.wrap_i64]; omega
      have km : (k : Int) ≤ (m : Int) := by omega
      have km3 : ¬ (k : Int) < 0 := by omega
      have HM : Hid (k + 1 = m ∧ n - 1 - i = k) := ⟨hm, hk⟩
      clear y2 HZ2 hS hm
      by_cases hlt : i < A
      · obtain ⟨z1, z2, z3, z4⟩ := HA1.out i hlt
        rw [hk] at z4
        have g1 : e + (i : Int) < hi := by have := HI.out.1; omega
        have g2 : (1 : Int) < (m : Int) := by have := HM.out.1; omega
        have we : IntKind.i64.wrap (e + (i : Int) + 1) = e + ((i + 1 : Nat) : Int) := by rw [IntKind.wrap_i64]; omega
        have HSf2 : Hid (∀ X, Calls Tryz.prog 88 #[.string S, .string { data := #[48] }] X fun x w' => x = .returned (.bool true) ∧ w' = X) := by
          have := HSf.out
          rw [decide_eq_true z4] at this
          exact this
        have HK : Hid (n - (i + 1) = k) := by show _ = _; omega
        have hbl := build_sc (tx (D.take k)) (e + ((i + 1 : Nat) : Int))
        clear z1 z2 z3 z4 hk hk1 HSf
        go_wp2_with fail
        refine (HSf2.out _).mono ?_
        rintro x wy ⟨rfl, rfl⟩
        go_upto_region 3 with fail
        refine wp_region_tail (C := fun W => W = wy.drew) 10 (by kernel_rfl) (by kernel_rfl) rfl ?_
        simp only [List.take_succ_cons, List.take_zero, List.drop_succ_cons, List.drop_zero]
        repeat (refine wpQuiet_step (fun K hK => ?_); go_simp; first | (refine hK _ ?_; clear hK K) | (apply Exists.intro; refine ⟨fun wx hC => ?_, hK _ ?_⟩; (first | exact rfl | (subst hC; go_simp; exact rfl)); clear hK K))
        refine wpQuiet_nil ?_
        intro wz hz
        subst hz
        have HZ4 : Hid (At2r wy.drew w.heap.size 65 (.string S) (.int .i64 (e + (i : Int)))) := HZ3.out.1
        go_wp2_with (refine wpList_store_row rfl 65 (.tmp 4) (.tmp 37) rfl w.heap.size #[.string (tx (D.take k)), .int .i64 (e + ((i + 1 : Nat) : Int))] rfl rfl _ _ HZ4.out (by kernel_rfl) rfl (one2 _ _) ?_)
        go_roundg (A - (i + 1))
        case measure => have := HG.out; omega
        case rel => exact ⟨i + 1, by omega, rfl, by rw [HK.out]; exact HZ4.out.row _ _, (show At2r wy.drew (w.heap.size + 1) _ _ _ from HZ3.out.2.1).other (by omega) _, bel_row (HZ3.out.2.2.drew) (Nat.le_refl _) _⟩
      · have ei : i = A := by omega
        subst ei
        have HZ5 : Hid (At2r wr w.heap.size 65 (.string (tx D4)) (.int .i64 (e + (i : Int))) ∧ At2r wr (w.heap.size + 1) 65 (.string { data := #[] }) (.int .i64 0) ∧ Below w.heap.size w wr) := by
          have := HZ3.out
          rw [← HSE.out, HD4.out] at this
          exact this
        by_cases g1 : e + (i : Int) < hi
        · by_cases g2 : (1 : Int) < (m : Int)
          · have g3 : ¬ D.getD k 0 = 0 := by
              have h1 := HI.out.1
              have h2 := HM.out
              rcases HA2.out with c | c | c | c
              · omega
              · omega
              · omega
              · rw [hk] at c; exact c
            have HSf2 : Hid (∀ X, Calls Tryz.prog 88 #[.string S, .string { data := #[48] }] X fun x w' => x = .returned (.bool false) ∧ w' = X) := by
              have := HSf.out
              rw [decide_eq_false g3] at this
              exact this
            clear hk hk1 HSf g3 hlt
            go_wp2_with fail
            refine (HSf2.out _).mono ?_
            rintro x wy ⟨rfl, rfl⟩
            go_wp2
            go_meet
            case rel => exact HZ5
          · clear hk hk1 hlt HSf
            go_wp2
            go_meet
            case rel => exact HZ5
        · clear hk hk1 hlt HSf
          go_wp2
          go_meet
          case rel => exact HZ5
  case rest =>
    have HZ2 := hcut
    have HX0 : Hid (Below wc.heap.size wc wc.drew) := (Below.refl _ _).drew
    have hmx := HI.out.2
    clear hcut HZ1 HA1 HA2 HX HS0 HD4
    go_upto_region 4 with fail
    refine wp_region_tail (C := fun W => Below wc.heap.size wc W) 6 (by kernel_rfl) (by kernel_rfl) HX0.out ?_
    simp only [List.take_succ_cons, List.take_zero, List.drop_succ_cons, List.drop_zero]
    repeat (refine wpQuiet_step (fun K hK => ?_); go_simp; first | (refine hK _ ?_; clear hK K) | (apply Exists.intro; refine ⟨fun wx hC => ?_, hK _ ?_⟩; (first | exact rfl | (simp only [md_leastExp_128]; go_simp; exact Calls.class_of (leastExp_128 wx) (fun w' hb => bel1 hC hb)) | (obtain ⟨q0, q1⟩ := (HZ2.out.1.below hC HZ2.out.1.lt).cells; go_simp; exact rfl)); clear hK K))
    refine wpQuiet_nil ?_
    intro w2 hb2
    have HZ3 : Hid (At2r w2 (w.heap.size + 1) 65 (.string { data := #[] }) (.int .i64 0) ∧ Below w.heap.size w w2) := ⟨HZ2.out.2.1.below hb2 HZ2.out.2.1.lt, HZ2.out.2.2.trans (hb2.mono HZ2.out.2.2.size)⟩
    clear hb2 HZ2 HX0
    go_wp2_with fail
    refine (HLw.out _).mono ?_
    rintro x w3 ⟨rfl, hb3⟩
    have HZ4 : Hid (At2r w3 (w.heap.size + 1) 65 (.string { data := #[] }) (.int .i64 0) ∧ Below w.heap.size w w3) := ⟨HZ3.out.1.below hb3 HZ3.out.1.lt, HZ3.out.2.trans (hb3.mono HZ3.out.2.size)⟩
    clear hb3 HZ3 HLw
    go_wp2_with (refine wpList_store_row rfl 65 (.tmp 6) (.tmp 44) rfl (w.heap.size + 1) #[.string (tx D5), .int .i64 e5] rfl rfl _ _ HZ4.out.1 (by kernel_rfl) rfl (one2 _ _) ?_)
    have hP := (HZ4.out.1.row (.string (tx D5)) (.int .i64 e5)).cells
    refine bodyPost_ret (results_sc rfl _ _ rfl hP.1 hP.2) rfl ?_
    exact ⟨rfl, bel_row HZ4.out.2 (by omega) _⟩
end Go.Proofs.YtdkpiofeidcffaaGreatDoor
namespace Go.Proofs.YtdkpiofeidcffaaGreatDoor
open Go.RowKit
set_option linter.unusedVariables false
set_option maxRecDepth 100000
theorem run_mx3 (P : Program) (ts : Array TypeId) (t : TypeId) (x y z n : Int) (h : max (max x y) z = n) (w : World) : (Builtin.max_ ts t #[.int .i64 x, .int .i64 y, .int .i64 z]).run P w = .ok (.int .i64 n) w := by
  have e : (if z > (if y > x then y else x) then z else (if y > x then y else x)) = n := by
    rw [← h]
    repeat' split
    all_goals omega
  simp [Builtin.max_, Builtin.max2, e]
theorem results_sct {fn : Func} {p t : Tmp} {b : Nat} {x y : Value} (h : fn.results = #[.cell p 65, .tmp t]) (tmps : Array Value) (w : World) (hp : tmps[p]?.getD undef = .pointer (some ⟨b, 0, none⟩))
    (q0 : w.cell? ⟨b, 0, none⟩ = some x) (q1 : w.cell? ⟨b, 1, none⟩ = some y) : (results fn tmps).run Tryz.prog w = .ok (.tuple #[.agg #[x, y], tmps.getD t undef]) w := by
  simp [results, h, hp, go_sem, q0, q1]
/-- The world with a mode's box, a number's and a result's. -/
abbrev bx3 (w : World) (Fn : Nat) (s : ByteArray) (e : Int) : World := ((w.alloc (.cells #[fnV Fn] 55)).alloc (.cells #[.string s, .int .i64 e] 65)).alloc (.cells #[.string { data := #[] }, .int .i64 0] 65)
/-- What lies in it. -/
def In3 (w : World) (Fn : Nat) (s : ByteArray) (e : Int) (W : World) : Prop := W.heap[w.heap.size]? = some (.cells #[fnV Fn] 55 (0, 0)) ∧ At2r W (w.heap.size + 1) 65 (.string s) (.int .i64 e) ∧ At2r W (w.heap.size + 2) 65 (.string { data := #[] }) (.int .i64 0) ∧ Below w.heap.size w W ∧ w.heap.size + 3 ≤ W.heap.size
theorem in3_new (w : World) (Fn : Nat) (s : ByteArray) (e : Int) : In3 w Fn s e (bx3 w Fn s e) := by
  obtain ⟨a, b, c⟩ := bx2_at (w.alloc (.cells #[fnV Fn] 55)) s e
  have z := new_size w (.cells #[fnV Fn] 55)
  have h0 := new_at w (.cells #[fnV Fn] 55)
  have zz := bx2_size (w.alloc (.cells #[fnV Fn] 55)) s e
  rw [z] at a b zz
  refine ⟨(c.block w.heap.size (by rw [z]; omega)).trans h0, a, b, ((Below.refl _ _).alloc (Nat.le_refl _) _).trans (c.mono (by rw [z]; omega)), ?_⟩
  show w.heap.size + 3 ≤ (bx2 _ s e).heap.size
  omega
theorem In3.next {w W W' : World} {Fn : Nat} {s : ByteArray} {e : Int} (h : In3 w Fn s e W) (hb : Below W.heap.size W W') : In3 w Fn s e W' :=
  ⟨(hb.block _ (by have := h.2.2.2.2; omega)).trans h.1, h.2.1.below hb h.2.1.lt, h.2.2.1.below hb h.2.2.1.lt, h.2.2.2.1.trans (hb.mono h.2.2.2.1.size), Nat.le_trans h.2.2.2.2 hb.size⟩
theorem In3.drew {w W : World} {Fn : Nat} {s : ByteArray} {e : Int} (h : In3 w Fn s e W) : In3 w Fn s e W.drew := ⟨h.1, h.2.1, h.2.2.1, h.2.2.2.1.drew, h.2.2.2.2⟩
theorem below_drewN {B : Nat} {w W : World} (h : Below B w W) (n : Nat) : Below B w (W.drewN n) := ⟨h.os, h.tape, h.output, h.size, h.block⟩
theorem In3.drewN {w W : World} {Fn : Nat} {s : ByteArray} {e : Int} (h : In3 w Fn s e W) (n : Nat) : In3 w Fn s e (W.drewN n) := ⟨h.1, h.2.1, h.2.2.1, below_drewN h.2.2.2.1 n, h.2.2.2.2⟩
theorem In3.fn {w W : World} {Fn : Nat} {s : ByteArray} {e : Int} (h : In3 w Fn s e W) : W.cell? ⟨w.heap.size, 0, none⟩ = some (fnV Fn) := by
  unfold World.cell?
  simp only [h.1]
  rfl
set_option maxRecDepth 100000 in
set_option maxHeartbeats 4000000 in
theorem fitted_64 (Fn : Nat) (mode : Int) (hent : ∀ args w, (callFunc Fn args).run Tryz.prog w = .ok (.enter Fn args) w)
    (HG : Hid (∀ neg od p, (p = 0 ∨ p = 1 ∨ p = 2 ∨ p = 3) → ∀ X, Calls Tryz.prog Fn #[cutV neg od p] X fun e w' => e = .returned (.bool (grw mode neg od p)) ∧ Below X.heap.size X w'))
    (neg : Bool) (ds : List Int) (e : Int) (w : World) (hc : Canon ds) (hl : ds.length ≤ 200) (he : -200000 ≤ e ∧ e ≤ 200000) (dr : Nat) (hdr : finDr 16 ds.length (-398) e = dr) (D2 : List Int) (hD2 : nt (finV mode neg (vl ds) dr false) = D2) (lost : Bool) (hlo : finLs (vl ds) dr false = lost) :
    Calls Tryz.prog 64 #[.agg #[fnV Fn], .iface 88 (.agg #[]), .bool neg, scV (tx ds) e, .bool false] w fun x w' => x = .returned (.tuple #[scV (tx (finT 16 D2)) (finTE 16 D2 (e + dr)), .bool lost]) ∧ Below w.heap.size w w' := by
  obtain ⟨DD, KK, RR, hD1, hDn, hD3, hD4, hD5, hD6, hD7⟩ : ∃ (DD : List Int) (KK : Nat) (RR : Bool), (200 < dr → DD = [1] ∧ KK = 200 ∧ RR = true) ∧ (¬ 200 < dr → DD = ds ∧ KK = dr ∧ RR = false) ∧ Canon DD ∧ DD.length ≤ 200 ∧ KK ≤ 200 ∧ rndV mode neg (vl DD) KK RR = finV mode neg (vl ds) dr false ∧ rndL (vl DD) KK RR = finLs (vl ds) dr false := by
    by_cases h : 200 < dr
    · refine ⟨[1], 200, true, fun _ => ⟨rfl, rfl, rfl⟩, fun c => absurd h c, canon_one 1 (by decide) (by decide), by simp, by decide, ?_, ?_⟩
      · unfold finV; rw [if_pos h]; rfl
      · unfold finLs; rw [if_pos h]; rfl
    · refine ⟨ds, dr, false, fun c => absurd c h, fun _ => ⟨rfl, rfl, rfl⟩, hc, hl, by omega, ?_, ?_⟩
      · unfold finV; rw [if_neg h]
      · unfold finLs; rw [if_neg h]
  have HDD : Hid ((200 < dr → DD = [1] ∧ KK = 200 ∧ RR = true) ∧ (¬ 200 < dr → DD = ds ∧ KK = dr ∧ RR = false)) := ⟨hD1, hDn⟩
  have HRD : Hid (∀ X, Calls Tryz.prog 87 #[.agg #[fnV Fn], .bool neg, .string (tx DD), .int .i64 (KK : Int), .bool RR] X fun x w' => x = .returned (.tuple #[.string (tx D2), .bool lost]) ∧ Below X.heap.size X w') := fun X => by
    rw [← hD2, ← hlo, ← hD6, ← hD7]; exact roundOff_any Fn mode hent HG neg DD KK RR X hD3 hD4 hD5
  have hd5 : D2.length ≤ 500 := by rw [← hD2]; exact nt_500 _
  have hdm : max (max ((ds.length : Int) - 16) ((-398) - e)) 0 = (dr : Int) := by rw [← hdr]; unfold finDr; omega
  have hdr2 : (dr : Int) ≤ 200000 := by omega
  have HSz : Hid (∀ X, Calls Tryz.prog 85 #[scV (tx ds) e] X fun x w' => x = .returned (.int .i64 ds.length) ∧ Below X.heap.size X w') := fun X => by
    have := scSize_any (tx ds) e X (by rw [tx_size]; omega)
    rwa [tx_size] at this
  have HIn : Hid (In3 w Fn (tx ds) e (bx3 w Fn (tx ds) e)) := in3_new w Fn (tx ds) e
  have hw1 : IntKind.i64.wrap ((ds.length : Int) - 16) = (ds.length : Int) - 16 := by rw [IntKind.wrap_i64]; omega
  have hw2 : IntKind.i64.wrap ((-398) - e) = (-398) - e := by rw [IntKind.wrap_i64]; omega
  have hw3 : IntKind.i64.wrap (e + (dr : Int)) = e + (dr : Int) := by rw [IntKind.wrap_i64]; omega
  have HDM : Hid (max (max ((ds.length : Int) - 16) ((-398) - e)) 0 = (dr : Int)) := hdm
  clear hD1 hDn hD3 hD4 hD5 hD6 hD7 hc hl hdr hD2 hlo hdm HG
  obtain ⟨TT, hTT⟩ : ∃ T, tx (finT 16 D2) = T := ⟨_, rfl⟩
  obtain ⟨XX, hXX⟩ : ∃ X, finTE 16 D2 (e + dr) = X := ⟨_, rfl⟩
  have HTX : Hid (tx (finT 16 D2) = TT ∧ finTE 16 D2 (e + dr) = XX) := ⟨hTT, hXX⟩
  rw [hTT, hXX]
  clear hTT hXX
  go_enter Tryz.func64, Tryz.ntmps64
  go_wp2_with fail
  refine (digitCount_64 _).mono ?_
  rintro x w1 ⟨rfl, hb1⟩
  have HIn1 : Hid (In3 w Fn (tx ds) e w1) := HIn.out.next hb1
  clear hb1 HIn
  have HX0 : Hid (Below w1.heap.size w1 w1.drew) := (Below.refl _ _).drew
  have hdm := run_mx3 Tryz.prog #[2, 2, 2] 2 _ _ _ _ HDM.out
  go_upto_region 6 with fail
  refine wp_region_class (C := fun W => Below w1.heap.size w1 W) (by kernel_rfl) (by kernel_rfl) HX0.out ?_
  repeat (refine wpQuiet_step (fun K hK => ?_); go_simp; first | (refine hK _ ?_; clear hK K) | (apply Exists.intro; refine ⟨fun wx hC => ?_, hK _ ?_⟩; (first | exact rfl | exact Calls.class_of (HSz.out wx) (fun w' hb => bel1 hC hb) | (simp only [md_leastExp_64]; go_simp; exact Calls.class_of (leastExp_64 wx) (fun w' hb => bel1 hC hb)) | (obtain ⟨q0, q1⟩ := (HIn1.out.next hC).2.1.cells; go_simp; exact rfl)); clear hK K))
  refine wpQuiet_nil ?_
  intro w2 hb2
  have HIn2 : Hid (In3 w Fn (tx ds) e w2) := HIn1.out.next hb2
  clear hb2 HX0 HIn1 hdm hw1 hw2 HSz HDM
  go_upto_region 7 with fail
  obtain ⟨q0, q1⟩ := HIn2.out.2.1.cells
  go_quiet (fail)
  have HIn3 : Hid (In3 w Fn (tx ds) e (w2.drewN nq)) := HIn2.out.drewN nq
  generalize w2.drewN nq = w3 at *
  clear q0 q1 HIn2
  go_upto_if 51 with fail
  go_cut [15, 14, 4] (fun d k r wx => d = .string (tx DD) ∧ k = .int .i64 (KK : Int) ∧ r = .bool RR ∧ wx = w3)
  case first =>
    by_cases h : 200 < dr
    · obtain ⟨q1, q2, q3⟩ := HDD.out.1 h
      have h' : (200 : Int) < (dr : Int) := by omega
      have E1 : Hid (tx DD = { data := #[49] } ∧ (KK : Int) = 200 ∧ RR = true) := ⟨by rw [q1]; exact tx_1, by omega, q3⟩
      clear q1 q2 q3 h
      go_wp2
      go_meet
      case rel => exact ⟨by rw [E1.out.1], by rw [E1.out.2.1], by rw [E1.out.2.2], rfl⟩
    · obtain ⟨q1, q2, q3⟩ := HDD.out.2 h
      have h' : ¬ (200 : Int) < (dr : Int) := by omega
      have E1 : Hid (DD = ds ∧ KK = dr ∧ RR = false) := ⟨q1, q2, q3⟩
      clear q1 q2 q3 h
      go_wp2
      go_meet
      case rel => exact ⟨by rw [E1.out.1], by rw [E1.out.2.1], by rw [E1.out.2.2], rfl⟩
  case rest =>
    obtain ⟨rfl, rfl, rfl, rfl⟩ := hcut
    have hfn := HIn3.out.fn
    clear HDD
    go_wp2_with fail
    refine (HRD.out _).mono ?_
    rintro x w4 ⟨rfl, hb4⟩
    have HZ4 : Hid (At2r w4 (w.heap.size + 1 + 1) 65 (.string { data := #[] }) (.int .i64 0) ∧ Below w.heap.size w w4) := ⟨(HIn3.out.next hb4).2.2.1, (HIn3.out.next hb4).2.2.2.1⟩
    clear hb4 HIn3 HRD hfn
    obtain ⟨x3, hx3⟩ : ∃ x3, e + (dr : Int) = x3 := ⟨_, rfl⟩
    have hx4 : -200000 ≤ x3 ∧ x3 ≤ 400000 := by omega
    rw [hx3] at HTX
    rw [hx3]
    clear hw3 hx3
    have hsz2 : (tx D2).size = D2.length := tx_size D2
    by_cases h : 16 < D2.length
    · have h' : (16 : Int) < (D2.length : Int) := by omega
      have ht := tx_take D2 16 (by omega)
      have hle : (16 : Int) ≤ (D2.length : Int) := by omega
      have E1 : Hid (TT = tx (D2.take 16) ∧ XX = x3 + 1) := ⟨by rw [← HTX.out.1]; unfold finT; rw [if_pos h], by rw [← HTX.out.2]; unfold finTE; rw [if_pos h]⟩
      have wx : IntKind.i64.wrap (x3 + 1) = x3 + 1 := by rw [IntKind.wrap_i64]; omega
      have hbl := build_sc (tx (D2.take 16)) (x3 + 1)
      generalize tx (D2.take 16) = T2 at *
      clear h HTX
      go_wp2_with (refine wpList_store_row rfl 65 (.tmp 10) (.tmp 70) rfl (w.heap.size + 1 + 1) #[.string T2, .int .i64 (x3 + 1)] rfl rfl _ _ HZ4.out.1 (by kernel_rfl) rfl (one2 _ _) ?_)
      have hP := (HZ4.out.1.row (.string T2) (.int .i64 (x3 + 1))).cells
      refine bodyPost_ret (results_sct rfl _ _ rfl hP.1 hP.2) rfl ?_
      exact ⟨by rw [E1.out.1, E1.out.2]; rfl, bel_row HZ4.out.2 (by omega) _⟩
    · have h' : ¬ (16 : Int) < (D2.length : Int) := by omega
      have E1 : Hid (TT = tx D2 ∧ XX = x3) := ⟨by rw [← HTX.out.1]; unfold finT; rw [if_neg h], by rw [← HTX.out.2]; unfold finTE; rw [if_neg h]⟩
      have hbl := build_sc (tx D2) x3
      clear h HTX
      go_wp2_with (refine wpList_store_row rfl 65 (.tmp 10) (.tmp 74) rfl (w.heap.size + 1 + 1) #[.string (tx D2), .int .i64 x3] rfl rfl _ _ HZ4.out.1 (by kernel_rfl) rfl (one2 _ _) ?_)
      have hP := (HZ4.out.1.row (.string (tx D2)) (.int .i64 x3)).cells
      refine bodyPost_ret (results_sct rfl _ _ rfl hP.1 hP.2) rfl ?_
      exact ⟨by rw [E1.out.1, E1.out.2]; rfl, bel_row HZ4.out.2 (by omega) _⟩
set_option maxRecDepth 100000 in
set_option maxHeartbeats 4000000 in
theorem fitted_128 (Fn : Nat) (mode : Int) (hent : ∀ args w, (callFunc Fn args).run Tryz.prog w = .ok (.enter Fn args) w)
    (HG : Hid (∀ neg od p, (p = 0 ∨ p = 1 ∨ p = 2 ∨ p = 3) → ∀ X, Calls Tryz.prog Fn #[cutV neg od p] X fun e w' => e = .returned (.bool (grw mode neg od p)) ∧ Below X.heap.size X w'))
    (neg : Bool) (ds : List Int) (e : Int) (w : World) (hc : Canon ds) (hl : ds.length ≤ 200) (he : -200000 ≤ e ∧ e ≤ 200000) (dr : Nat) (hdr : finDr 34 ds.length (-6176) e = dr) (D2 : List Int) (hD2 : nt (finV mode neg (vl ds) dr false) = D2) (lost : Bool) (hlo : finLs (vl ds) dr false = lost) :
    Calls Tryz.prog 64 #[.agg #[fnV Fn], .iface 89 (.agg #[]), .bool neg, scV (tx ds) e, .bool false] w fun x w' => x = .returned (.tuple #[scV (tx (finT 34 D2)) (finTE 34 D2 (e + dr)), .bool lost]) ∧ Below w.heap.size w w' := by
  obtain ⟨DD, KK, RR, hD1, hDn, hD3, hD4, hD5, hD6, hD7⟩ : ∃ (DD : List Int) (KK : Nat) (RR : Bool), (200 < dr → DD = [1] ∧ KK = 200 ∧ RR = true) ∧ (¬ 200 < dr → DD = ds ∧ KK = dr ∧ RR = false) ∧ Canon DD ∧ DD.length ≤ 200 ∧ KK ≤ 200 ∧ rndV mode neg (vl DD) KK RR = finV mode neg (vl ds) dr false ∧ rndL (vl DD) KK RR = finLs (vl ds) dr false := by
    by_cases h : 200 < dr
    · refine ⟨[1], 200, true, fun _ => ⟨rfl, rfl, rfl⟩, fun c => absurd h c, canon_one 1 (by decide) (by decide), by simp, by decide, ?_, ?_⟩
      · unfold finV; rw [if_pos h]; rfl
      · unfold finLs; rw [if_pos h]; rfl
    · refine ⟨ds, dr, false, fun c => absurd c h, fun _ => ⟨rfl, rfl, rfl⟩, hc, hl, by omega, ?_, ?_⟩
      · unfold finV; rw [if_neg h]
      · unfold finLs; rw [if_neg h]
  have HDD : Hid ((200 < dr → DD = [1] ∧ KK = 200 ∧ RR = true) ∧ (¬ 200 < dr → DD = ds ∧ KK = dr ∧ RR = false)) := ⟨hD1, hDn⟩
  have HRD : Hid (∀ X, Calls Tryz.prog 87 #[.agg #[fnV Fn], .bool neg, .string (tx DD), .int .i64 (KK : Int), .bool RR] X fun x w' => x = .returned (.tuple #[.string (tx D2), .bool lost]) ∧ Below X.heap.size X w') := fun X => by
    rw [← hD2, ← hlo, ← hD6, ← hD7]; exact roundOff_any Fn mode hent HG neg DD KK RR X hD3 hD4 hD5
  have hd5 : D2.length ≤ 500 := by rw [← hD2]; exact nt_500 _
  have hdm : max (max ((ds.length : Int) - 34) ((-6176) - e)) 0 = (dr : Int) := by rw [← hdr]; unfold finDr; omega
  have hdr2 : (dr : Int) ≤ 200000 := by omega
  have HSz : Hid (∀ X, Calls Tryz.prog 85 #[scV (tx ds) e] X fun x w' => x = .returned (.int .i64 ds.length) ∧ Below X.heap.size X w') := fun X => by
    have := scSize_any (tx ds) e X (by rw [tx_size]; omega)
    rwa [tx_size] at this
  have HIn : Hid (In3 w Fn (tx ds) e (bx3 w Fn (tx ds) e)) := in3_new w Fn (tx ds) e
  have hw1 : IntKind.i64.wrap ((ds.length : Int) - 34) = (ds.length : Int) - 34 := by rw [IntKind.wrap_i64]; omega
  have hw2 : IntKind.i64.wrap ((-6176) - e) = (-6176) - e := by rw [IntKind.wrap_i64]; omega
  have hw3 : IntKind.i64.wrap (e + (dr : Int)) = e + (dr : Int) := by rw [IntKind.wrap_i64]; omega
  have HDM : Hid (max (max ((ds.length : Int) - 34) ((-6176) - e)) 0 = (dr : Int)) := hdm
  clear hD1 hDn hD3 hD4 hD5 hD6 hD7 hc hl hdr hD2 hlo hdm HG
  obtain ⟨TT, hTT⟩ : ∃ T, tx (finT 34 D2) = T := ⟨_, rfl⟩
  obtain ⟨XX, hXX⟩ : ∃ X, finTE 34 D2 (e + dr) = X := ⟨_, rfl⟩
  have HTX : Hid (tx (finT 34 D2) = TT ∧ finTE 34 D2 (e + dr) = XX) := ⟨hTT, hXX⟩
  rw [hTT, hXX]
  clear hTT hXX
  go_enter Tryz.func64, Tryz.ntmps64
  go_wp2_with fail
  refine (digitCount_128 _).mono ?_
  rintro x w1 ⟨rfl, hb1⟩
  have HIn1 : Hid (In3 w Fn (tx ds) e w1) := HIn.out.next hb1
  clear hb1 HIn
  have HX0 : Hid (Below w1.heap.size w1 w1.drew) := (Below.refl _ _).drew
  have hdm := run_mx3 Tryz.prog #[2, 2, 2] 2 _ _ _ _ HDM.out
  go_upto_region 6 with fail
  refine wp_region_class (C := fun W => Below w1.heap.size w1 W) (by kernel_rfl) (by kernel_rfl) HX0.out ?_
  repeat (refine wpQuiet_step (fun K hK => ?_); go_simp; first | (refine hK _ ?_; clear hK K) | (apply Exists.intro; refine ⟨fun wx hC => ?_, hK _ ?_⟩; (first | exact rfl | exact Calls.class_of (HSz.out wx) (fun w' hb => bel1 hC hb) | (simp only [md_leastExp_128]; go_simp; exact Calls.class_of (leastExp_128 wx) (fun w' hb => bel1 hC hb)) | (obtain ⟨q0, q1⟩ := (HIn1.out.next hC).2.1.cells; go_simp; exact rfl)); clear hK K))
  refine wpQuiet_nil ?_
  intro w2 hb2
  have HIn2 : Hid (In3 w Fn (tx ds) e w2) := HIn1.out.next hb2
  clear hb2 HX0 HIn1 hdm hw1 hw2 HSz HDM
  go_upto_region 7 with fail
  obtain ⟨q0, q1⟩ := HIn2.out.2.1.cells
  go_quiet (fail)
  have HIn3 : Hid (In3 w Fn (tx ds) e (w2.drewN nq)) := HIn2.out.drewN nq
  generalize w2.drewN nq = w3 at *
  clear q0 q1 HIn2
  go_upto_if 51 with fail
  go_cut [15, 14, 4] (fun d k r wx => d = .string (tx DD) ∧ k = .int .i64 (KK : Int) ∧ r = .bool RR ∧ wx = w3)
  case first =>
    by_cases h : 200 < dr
    · obtain ⟨q1, q2, q3⟩ := HDD.out.1 h
      have h' : (200 : Int) < (dr : Int) := by omega
      have E1 : Hid (tx DD = { data := #[49] } ∧ (KK : Int) = 200 ∧ RR = true) := ⟨by rw [q1]; exact tx_1, by omega, q3⟩
      clear q1 q2 q3 h
      go_wp2
      go_meet
      case rel => exact ⟨by rw [E1.out.1], by rw [E1.out.2.1], by rw [E1.out.2.2], rfl⟩
    · obtain ⟨q1, q2, q3⟩ := HDD.out.2 h
      have h' : ¬ (200 : Int) < (dr : Int) := by omega
      have E1 : Hid (DD = ds ∧ KK = dr ∧ RR = false) := ⟨q1, q2, q3⟩
      clear q1 q2 q3 h
      go_wp2
      go_meet
      case rel => exact ⟨by rw [E1.out.1], by rw [E1.out.2.1], by rw [E1.out.2.2], rfl⟩
  case rest =>
    obtain ⟨rfl, rfl, rfl, rfl⟩ := hcut
    have hfn := HIn3.out.fn
    clear HDD
    go_wp2_with fail
    refine (HRD.out _).mono ?_
    rintro x w4 ⟨rfl, hb4⟩
    have HZ4 : Hid (At2r w4 (w.heap.size + 1 + 1) 65 (.string { data := #[] }) (.int .i64 0) ∧ Below w.heap.size w w4) := ⟨(HIn3.out.next hb4).2.2.1, (HIn3.out.next hb4).2.2.2.1⟩
    clear hb4 HIn3 HRD hfn
    obtain ⟨x3, hx3⟩ : ∃ x3, e + (dr : Int) = x3 := ⟨_, rfl⟩
    have hx4 : -200000 ≤ x3 ∧ x3 ≤ 400000 := by omega
    rw [hx3] at HTX
    rw [hx3]
    clear hw3 hx3
    have hsz2 : (tx D2).size = D2.length := tx_size D2
    by_cases h : 34 < D2.length
    · have h' : (34 : Int) < (D2.length : Int) := by omega
      have ht := tx_take D2 34 (by omega)
      have hle : (34 : Int) ≤ (D2.length : Int) := by omega
      have E1 : Hid (TT = tx (D2.take 34) ∧ XX = x3 + 1) := ⟨by rw [← HTX.out.1]; unfold finT; rw [if_pos h], by rw [← HTX.out.2]; unfold finTE; rw [if_pos h]⟩
      have wx : IntKind.i64.wrap (x3 + 1) = x3 + 1 := by rw [IntKind.wrap_i64]; omega
      have hbl := build_sc (tx (D2.take 34)) (x3 + 1)
      generalize tx (D2.take 34) = T2 at *
      clear h HTX
      go_wp2_with (refine wpList_store_row rfl 65 (.tmp 10) (.tmp 70) rfl (w.heap.size + 1 + 1) #[.string T2, .int .i64 (x3 + 1)] rfl rfl _ _ HZ4.out.1 (by kernel_rfl) rfl (one2 _ _) ?_)
      have hP := (HZ4.out.1.row (.string T2) (.int .i64 (x3 + 1))).cells
      refine bodyPost_ret (results_sct rfl _ _ rfl hP.1 hP.2) rfl ?_
      exact ⟨by rw [E1.out.1, E1.out.2]; rfl, bel_row HZ4.out.2 (by omega) _⟩
    · have h' : ¬ (34 : Int) < (D2.length : Int) := by omega
      have E1 : Hid (TT = tx D2 ∧ XX = x3) := ⟨by rw [← HTX.out.1]; unfold finT; rw [if_neg h], by rw [← HTX.out.2]; unfold finTE; rw [if_neg h]⟩
      have hbl := build_sc (tx D2) x3
      clear h HTX
      go_wp2_with (refine wpList_store_row rfl 65 (.tmp 10) (.tmp 74) rfl (w.heap.size + 1 + 1) #[.string (tx D2), .int .i64 x3] rfl rfl _ _ HZ4.out.1 (by kernel_rfl) rfl (one2 _ _) ?_)
      have hP := (HZ4.out.1.row (.string (tx D2)) (.int .i64 x3)).cells
      refine bodyPost_ret (results_sct rfl _ _ rfl hP.1 hP.2) rfl ?_
      exact ⟨by rw [E1.out.1, E1.out.2]; rfl, bel_row HZ4.out.2 (by omega) _⟩
end Go.Proofs.YtdkpiofeidcffaaGreatDoor
