/-
  Plain facts for finishing: bounds of what is rounded and of what is brought nearer.
-/
import Derived.Deep.DeepCutAuto
import Derived.Test.YteofommckgeemaaGreatDoorFnc
import Derived.Test.YteofommckgeemaaGreatDoorFnb
namespace Go.Proofs.YteofommckgeemaaGreatDoor
open Go.RowKit
set_option linter.unusedVariables false
set_option maxRecDepth 100000
set_option maxRecDepth 100000 in
set_option maxHeartbeats 2000000 in
theorem preferred_64 (D : List Int) (e want : Int) (w : World) (hD : Dec D) (h0 : 0 < D.length) (hl : D.length ≤ 500) (he : -500000 ≤ e ∧ e ≤ 500000) (hwt : -200000 ≤ want ∧ want ≤ 200000) :
    Calls Tryz.prog 168 #[.iface 208 (.agg #[]), scV (tx D) e, .int .i64 want] w fun x w' => x = .returned (scV (tx (fin3D false D e want (-398) 369 16)) (fin3E false D e want (-398) 369 16)) ∧ Below w.heap.size w w' := by
  obtain ⟨n, hn⟩ : ∃ n, D.length = n := ⟨_, rfl⟩
  obtain ⟨A, hA⟩ : ∃ A, fA D e want 369 = A := ⟨_, rfl⟩
  have hA0 : A < n := by have := fA_len D e want 369 h0; omega
  have HA1 : Hid (∀ i : Nat, i < A → e + (i : Int) < want ∧ e + (i : Int) < 369 ∧ i + 1 < n ∧ D.getD (n - 1 - i) 0 = 0) := fun i hi => by
    have := fA_more D e want 369 i (by omega)
    rwa [hn] at this
  have HA2 : Hid (¬ e + (A : Int) < want ∨ ¬ e + (A : Int) < 369 ∨ n ≤ A + 1 ∨ D.getD (n - 1 - A) 0 ≠ 0) := by
    have := fA_stop D e want 369 h0
    rwa [hA, hn] at this
  have HX : Hid (∀ k : Nat, k < n → ∃ S, S = tx (D.take (k + 1)) ∧ S.size = k + 1 ∧ Lib.hasSuffix S.data.toList [48] = decide (D.getD k 0 = 0) ∧ S.extract 0 k = tx (D.take k)) := fun k hk => by
    have hlk : (D.take (k + 1)).length = k + 1 := by rw [List.length_take]; omega
    refine ⟨_, rfl, by rw [tx_size, hlk], ?_, ?_⟩
    · rw [suf0 _ (fun x hx => hD x (List.mem_of_mem_take hx)) k hlk]
      exact decide_eq_decide.2 (by simp [List.getD, List.getElem?_take_of_lt (Nat.lt_succ_self k)])
    · rw [tx_take _ k (by omega), List.take_take, Nat.min_eq_left (by omega)]
  obtain ⟨D4, hD4⟩ : ∃ D4, D.take (n - A) = D4 := ⟨_, rfl⟩
  have l4 : D4.length = n - A := by rw [← hD4, List.length_take]; omega
  obtain ⟨hi, hhi⟩ : ∃ hi, min want 369 = hi := ⟨_, rfl⟩
  obtain ⟨lo, hlo⟩ : ∃ lo, max want (-398) = lo := ⟨_, rfl⟩
  have HLw : Hid (∀ X, Calls Tryz.prog 169 #[scV (tx D4) (e + A), .iface 208 (.agg #[]), .int .i64 lo] X fun x w' => x = .returned (scV (tx (fin3D false D e want (-398) 369 16)) (fin3E false D e want (-398) 369 16)) ∧ Below X.heap.size X w') := fun X => by
    have := lowered_64 D4 (e + A) lo X (by omega) (by omega) (by omega)
    have ec : fC D4.length 16 (e + A) lo = fB (n - A) 16 (e + A) want (-398) := by rw [l4, ← hlo]; unfold fC fB; omega
    rw [ec] at this
    unfold fin3D fin3E
    rw [if_neg Bool.false_ne_true, if_neg Bool.false_ne_true, hA, hn, hD4]
    exact this
  generalize fin3D false D e want (-398) 369 16 = D5 at *
  generalize fin3E false D e want (-398) 369 16 = e5 at *
  have HI : Hid (min want 369 = hi ∧ max want (-398) = lo) := ⟨hhi, hlo⟩
  have HS0 : Hid (tx D = tx (D.take (n - 0))) := by show _ = _; rw [Nat.sub_zero, List.take_of_length_le (by omega)]
  have HD4 : Hid (tx (D.take (n - A)) = tx D4) := by show _ = _; rw [hD4]
  have hn5 : n ≤ 500 := by omega
  obtain ⟨hz1, hz2, hz3⟩ := bx2_at w (tx D) e
  have HZ : Hid (At2r (bx2 w (tx D) e) w.heap.size 192 (.string (tx D)) (.int .i64 e) ∧ At2r (bx2 w (tx D) e) (w.heap.size + 1) 192 (.string { data := #[] }) (.int .i64 0) ∧ Below w.heap.size w (bx2 w (tx D) e)) := ⟨hz1, hz2, hz3⟩
  clear hhi hlo hA hn hD4 l4 hl h0 hz1 hz2 hz3
  go_enter Tryz.func168, Tryz.ntmps168
  go_wp2_with fail
  refine (greatestExp_64 _).mono ?_
  rintro x w1 ⟨rfl, hb1⟩
  have HZ1 : Hid (At2r w1 w.heap.size 192 (.string (tx D)) (.int .i64 e) ∧ At2r w1 (w.heap.size + 1) 192 (.string { data := #[] }) (.int .i64 0) ∧ Below w.heap.size w w1) := ⟨HZ.out.1.below hb1 HZ.out.1.lt, HZ.out.2.1.below hb1 HZ.out.2.1.lt, HZ.out.2.2.trans (hb1.mono HZ.out.2.2.size)⟩
  clear hb1 HZ
  have hmin := HI.out.1
  go_upto_block 0 with fail
  clear hmin
  go_cut [] (fun wx => Hid (At2r wx w.heap.size 192 (.string (tx D4)) (.int .i64 (e + (A : Int))) ∧ At2r wx (w.heap.size + 1) 192 (.string { data := #[] }) (.int .i64 0) ∧ Below w.heap.size w wx))
  case first =>
    go_wp2_with fail
    go_loopg [] A (fun gk wx => ∃ i : Nat, i ≤ A ∧ gk = A - i ∧ Hid (At2r wx w.heap.size 192 (.string (tx (D.take (n - i)))) (.int .i64 (e + (i : Int))) ∧ At2r wx (w.heap.size + 1) 192 (.string { data := #[] }) (.int .i64 0) ∧ Below w.heap.size w wx))
    case atStart => exact ⟨0, Nat.zero_le _, rfl, by rw [← HS0.out]; exact ⟨by simpa using HZ1.out.1, HZ1.out.2⟩⟩
    case round =>
      obtain ⟨i, hiA, hgk, HZ2⟩ := hrel
      have HG : Hid (gk = A - i) := hgk
      clear hgk
      obtain ⟨k, hk⟩ : ∃ k, n - 1 - i = k := ⟨_, rfl⟩
      have hk1 : n - i = k + 1 := by omega
      obtain ⟨S, hS, y1, y2, y3⟩ := HX.out k (by omega)
      have HSE : Hid (Value.string (tx (D.take (n - i))) = Value.string S) := by show _ = _; rw [hk1, ← hS]
      have HZ3 : Hid (At2r wr w.heap.size 192 (.string S) (.int .i64 (e + (i : Int))) ∧ At2r wr (w.heap.size + 1) 192 (.string { data := #[] }) (.int .i64 0) ∧ Below w.heap.size w wr) := by
        have := HZ2.out
        rw [HSE.out] at this
        exact this
      obtain ⟨q0, q1⟩ := HZ3.out.1.cells
      have HSf : Hid (∀ X, Calls Tryz.prog 223 #[.string S, .string { data := #[48] }] X fun x w' => x = .returned (.bool (decide (D.getD k 0 = 0))) ∧ w' = X) := fun X => by
        have := Tryz.strings_HasSuffix S { data := #[48] } X (by omega)
        rw [show ({ data := #[48] } : ByteArray).data.toList = [48] from rfl, y2] at this
        exact this
      obtain ⟨m, hm⟩ : ∃ m, k + 1 = m := ⟨_, rfl⟩
      replace y1 := y1.trans hm
      have wm : IntKind.i64.wrap ((m : Int) - 1) = (k : Int) := by rw [IntKind.wrap_i64]; omega
      have km : (k : Int) ≤ (m : Int) := by omega
      have km3 : ¬ (k : Int) < 0 := by omega
      have HM : Hid (k + 1 = m ∧ n - 1 - i = k) := ⟨hm, hk⟩
      clear y2 HZ2 hS hm
      by_cases hlt : i < A
      · obtain ⟨z1, z2, z3, z4⟩ := HA1.out i hlt
        rw [hk] at z4
        have g1 : e + (i : Int) < hi := by have := HI.out.1; omega
        have g2 : (1 : Int) < (m : Int) := by have := HM.out.1; omega
        have we : IntKind.i64.wrap (e + (i : Int) + 1) = e + ((i + 1 : Nat) : Int) := by rw [IntKind.wrap_i64]; omega
        have HSf2 : Hid (∀ X, Calls Tryz.prog 223 #[.string S, .string { data := #[48] }] X fun x w' => x = .returned (.bool true) ∧ w' = X) := by
          have := HSf.out
          rw [decide_eq_true z4] at this
          exact this
        have HK : Hid (n - (i + 1) = k) := by show _ = _; omega
        have hbl := build_sc (tx (D.take k)) (e + ((i + 1 : Nat) : Int))
        clear z1 z2 z3 z4 hk hk1 HSf
        go_wp2_with fail
        refine (HSf2.out _).mono ?_
        rintro x wy ⟨rfl, rfl⟩
        go_upto_region 3 with fail
        refine wp_region_tail (C := fun W => W = wy.drew) 10 (by kernel_rfl) (by kernel_rfl) rfl ?_
        simp only [List.take_succ_cons, List.take_zero, List.drop_succ_cons, List.drop_zero]
        repeat (refine wpQuiet_step (fun K hK => ?_); go_simp; first | (refine hK _ ?_; clear hK K) | (apply Exists.intro; refine ⟨fun wx hC => ?_, hK _ ?_⟩; (first | exact rfl | (subst hC; go_simp; exact rfl)); clear hK K))
        refine wpQuiet_nil ?_
        intro wz hz
        subst hz
        have HZ4 : Hid (At2r wy.drew w.heap.size 192 (.string S) (.int .i64 (e + (i : Int)))) := HZ3.out.1
        go_wp2_with (refine wpList_store_row rfl 192 (.tmp 4) (.tmp 37) rfl w.heap.size #[.string (tx (D.take k)), .int .i64 (e + ((i + 1 : Nat) : Int))] rfl rfl _ _ HZ4.out (by kernel_rfl) rfl (one2 _ _) ?_)
        go_roundg (A - (i + 1))
        case measure => have := HG.out; omega
        case rel => exact ⟨i + 1, by omega, rfl, by rw [HK.out]; exact HZ4.out.row _ _, (show At2r wy.drew (w.heap.size + 1) _ _ _ from HZ3.out.2.1).other (by omega) _, bel_row (HZ3.out.2.2.drew) (Nat.le_refl _) _⟩
      · have ei : i = A := by omega
        subst ei
        have HZ5 : Hid (At2r wr w.heap.size 192 (.string (tx D4)) (.int .i64 (e + (i : Int))) ∧ At2r wr (w.heap.size + 1) 192 (.string { data := #[] }) (.int .i64 0) ∧ Below w.heap.size w wr) := by
          have := HZ3.out
          rw [← HSE.out, HD4.out] at this
          exact this
        by_cases g1 : e + (i : Int) < hi
        · by_cases g2 : (1 : Int) < (m : Int)
          · have g3 : ¬ D.getD k 0 = 0 := by
              have h1 := HI.out.1
              have h2 := HM.out
              rcases HA2.out with c | c | c | c
              · omega
              · omega
              · omega
              · rw [hk] at c; exact c
            have HSf2 : Hid (∀ X, Calls Tryz.prog 223 #[.string S, .string { data := #[48] }] X fun x w' => x = .returned (.bool false) ∧ w' = X) := by
              have := HSf.out
              rw [decide_eq_false g3] at this
              exact this
            clear hk hk1 HSf g3 hlt
            go_wp2_with fail
            refine (HSf2.out _).mono ?_
            rintro x wy ⟨rfl, rfl⟩
            go_wp2
            go_meet
            case rel => exact HZ5
          · clear hk hk1 hlt HSf
            go_wp2
            go_meet
            case rel => exact HZ5
        · clear hk hk1 hlt HSf
          go_wp2
          go_meet
          case rel => exact HZ5
  case rest =>
    have HZ2 := hcut
    have HX0 : Hid (Below wc.heap.size wc wc.drew) := (Below.refl _ _).drew
    have hmx := HI.out.2
    clear hcut HZ1 HA1 HA2 HX HS0 HD4
    go_upto_region 4 with fail
    refine wp_region_tail (C := fun W => Below wc.heap.size wc W) 6 (by kernel_rfl) (by kernel_rfl) HX0.out ?_
    simp only [List.take_succ_cons, List.take_zero, List.drop_succ_cons, List.drop_zero]
    repeat (refine wpQuiet_step (fun K hK => ?_); go_simp; first | (refine hK _ ?_; clear hK K) | (apply Exists.intro; refine ⟨fun wx hC => ?_, hK _ ?_⟩; (first | exact rfl | (simp only [md_leastExp_64]; go_simp; exact Calls.class_of (leastExp_64 wx) (fun w' hb => bel1 hC hb)) | (obtain ⟨q0, q1⟩ := (HZ2.out.1.below hC HZ2.out.1.lt).cells; go_simp; exact rfl)); clear hK K))
    refine wpQuiet_nil ?_
    intro w2 hb2
    have HZ3 : Hid (At2r w2 (w.heap.size + 1) 192 (.string { data := #[] }) (.int .i64 0) ∧ Below w.heap.size w w2) := ⟨HZ2.out.2.1.below hb2 HZ2.out.2.1.lt, HZ2.out.2.2.trans (hb2.mono HZ2.out.2.2.size)⟩
    clear hb2 HZ2 HX0
    go_wp2_with fail
    refine (HLw.out _).mono ?_
    rintro x w3 ⟨rfl, hb3⟩
    have HZ4 : Hid (At2r w3 (w.heap.size + 1) 192 (.string { data := #[] }) (.int .i64 0) ∧ Below w.heap.size w w3) := ⟨HZ3.out.1.below hb3 HZ3.out.1.lt, HZ3.out.2.trans (hb3.mono HZ3.out.2.size)⟩
    clear hb3 HZ3 HLw
    go_wp2_with (refine wpList_store_row rfl 192 (.tmp 6) (.tmp 44) rfl (w.heap.size + 1) #[.string (tx D5), .int .i64 e5] rfl rfl _ _ HZ4.out.1 (by kernel_rfl) rfl (one2 _ _) ?_)
    have hP := (HZ4.out.1.row (.string (tx D5)) (.int .i64 e5)).cells
    refine bodyPost_ret (results_sc rfl _ _ rfl hP.1 hP.2) rfl ?_
    exact ⟨rfl, bel_row HZ4.out.2 (by omega) _⟩
set_option maxRecDepth 100000 in
set_option maxHeartbeats 2000000 in
theorem preferred_128 (D : List Int) (e want : Int) (w : World) (hD : Dec D) (h0 : 0 < D.length) (hl : D.length ≤ 500) (he : -500000 ≤ e ∧ e ≤ 500000) (hwt : -200000 ≤ want ∧ want ≤ 200000) :
    Calls Tryz.prog 168 #[.iface 211 (.agg #[]), scV (tx D) e, .int .i64 want] w fun x w' => x = .returned (scV (tx (fin3D false D e want (-6176) 6111 34)) (fin3E false D e want (-6176) 6111 34)) ∧ Below w.heap.size w w' := by
  obtain ⟨n, hn⟩ : ∃ n, D.length = n := ⟨_, rfl⟩
  obtain ⟨A, hA⟩ : ∃ A, fA D e want 6111 = A := ⟨_, rfl⟩
  have hA0 : A < n := by have := fA_len D e want 6111 h0; omega
  have HA1 : Hid (∀ i : Nat, i < A → e + (i : Int) < want ∧ e + (i : Int) < 6111 ∧ i + 1 < n ∧ D.getD (n - 1 - i) 0 = 0) := fun i hi => by
    have := fA_more D e want 6111 i (by omega)
    rwa [hn] at this
  have HA2 : Hid (¬ e + (A : Int) < want ∨ ¬ e + (A : Int) < 6111 ∨ n ≤ A + 1 ∨ D.getD (n - 1 - A) 0 ≠ 0) := by
    have := fA_stop D e want 6111 h0
    rwa [hA, hn] at this
  have HX : Hid (∀ k : Nat, k < n → ∃ S, S = tx (D.take (k + 1)) ∧ S.size = k + 1 ∧ Lib.hasSuffix S.data.toList [48] = decide (D.getD k 0 = 0) ∧ S.extract 0 k = tx (D.take k)) := fun k hk => by
    have hlk : (D.take (k + 1)).length = k + 1 := by rw [List.length_take]; omega
    refine ⟨_, rfl, by rw [tx_size, hlk], ?_, ?_⟩
    · rw [suf0 _ (fun x hx => hD x (List.mem_of_mem_take hx)) k hlk]
      exact decide_eq_decide.2 (by simp [List.getD, List.getElem?_take_of_lt (Nat.lt_succ_self k)])
    · rw [tx_take _ k (by omega), List.take_take, Nat.min_eq_left (by omega)]
  obtain ⟨D4, hD4⟩ : ∃ D4, D.take (n - A) = D4 := ⟨_, rfl⟩
  have l4 : D4.length = n - A := by rw [← hD4, List.length_take]; omega
  obtain ⟨hi, hhi⟩ : ∃ hi, min want 6111 = hi := ⟨_, rfl⟩
  obtain ⟨lo, hlo⟩ : ∃ lo, max want (-6176) = lo := ⟨_, rfl⟩
  have HLw : Hid (∀ X, Calls Tryz.prog 169 #[scV (tx D4) (e + A), .iface 211 (.agg #[]), .int .i64 lo] X fun x w' => x = .returned (scV (tx (fin3D false D e want (-6176) 6111 34)) (fin3E false D e want (-6176) 6111 34)) ∧ Below X.heap.size X w') := fun X => by
    have := lowered_128 D4 (e + A) lo X (by omega) (by omega) (by omega)
    have ec : fC D4.length 34 (e + A) lo = fB (n - A) 34 (e + A) want (-6176) := by rw [l4, ← hlo]; unfold fC fB; omega
    rw [ec] at this
    unfold fin3D fin3E
    rw [if_neg Bool.false_ne_true, if_neg Bool.false_ne_true, hA, hn, hD4]
    exact this
  generalize fin3D false D e want (-6176) 6111 34 = D5 at *
  generalize fin3E false D e want (-6176) 6111 34 = e5 at *
  have HI : Hid (min want 6111 = hi ∧ max want (-6176) = lo) := ⟨hhi, hlo⟩
  have HS0 : Hid (tx D = tx (D.take (n - 0))) := by show _ = _; rw [Nat.sub_zero, List.take_of_length_le (by omega)]
  have HD4 : Hid (tx (D.take (n - A)) = tx D4) := by show _ = _; rw [hD4]
  have hn5 : n ≤ 500 := by omega
  obtain ⟨hz1, hz2, hz3⟩ := bx2_at w (tx D) e
  have HZ : Hid (At2r (bx2 w (tx D) e) w.heap.size 192 (.string (tx D)) (.int .i64 e) ∧ At2r (bx2 w (tx D) e) (w.heap.size + 1) 192 (.string { data := #[] }) (.int .i64 0) ∧ Below w.heap.size w (bx2 w (tx D) e)) := ⟨hz1, hz2, hz3⟩
  clear hhi hlo hA hn hD4 l4 hl h0 hz1 hz2 hz3
  go_enter Tryz.func168, Tryz.ntmps168
  go_wp2_with fail
  refine (greatestExp_128 _).mono ?_
  rintro x w1 ⟨rfl, hb1⟩
  have HZ1 : Hid (At2r w1 w.heap.size 192 (.string (tx D)) (.int .i64 e) ∧ At2r w1 (w.heap.size + 1) 192 (.string { data := #[] }) (.int .i64 0) ∧ Below w.heap.size w w1) := ⟨HZ.out.1.below hb1 HZ.out.1.lt, HZ.out.2.1.below hb1 HZ.out.2.1.lt, HZ.out.2.2.trans (hb1.mono HZ.out.2.2.size)⟩
  clear hb1 HZ
  have hmin := HI.out.1
  go_upto_block 0 with fail
  clear hmin
  go_cut [] (fun wx => Hid (At2r wx w.heap.size 192 (.string (tx D4)) (.int .i64 (e + (A : Int))) ∧ At2r wx (w.heap.size + 1) 192 (.string { data := #[] }) (.int .i64 0) ∧ Below w.heap.size w wx))
  case first =>
    go_wp2_with fail
    go_loopg [] A (fun gk wx => ∃ i : Nat, i ≤ A ∧ gk = A - i ∧ Hid (At2r wx w.heap.size 192 (.string (tx (D.take (n - i)))) (.int .i64 (e + (i : Int))) ∧ At2r wx (w.heap.size + 1) 192 (.string { data := #[] }) (.int .i64 0) ∧ Below w.heap.size w wx))
    case atStart => exact ⟨0, Nat.zero_le _, rfl, by rw [← HS0.out]; exact ⟨by simpa using HZ1.out.1, HZ1.out.2⟩⟩
    case round =>
      obtain ⟨i, hiA, hgk, HZ2⟩ := hrel
      have HG : Hid (gk = A - i) := hgk
      clear hgk
      obtain ⟨k, hk⟩ : ∃ k, n - 1 - i = k := ⟨_, rfl⟩
      have hk1 : n - i = k + 1 := by omega
      obtain ⟨S, hS, y1, y2, y3⟩ := HX.out k (by omega)
      have HSE : Hid (Value.string (tx (D.take (n - i))) = Value.string S) := by show _ = _; rw [hk1, ← hS]
      have HZ3 : Hid (At2r wr w.heap.size 192 (.string S) (.int .i64 (e + (i : Int))) ∧ At2r wr (w.heap.size + 1) 192 (.string { data := #[] }) (.int .i64 0) ∧ Below w.heap.size w wr) := by
        have := HZ2.out
        rw [HSE.out] at this
        exact this
      obtain ⟨q0, q1⟩ := HZ3.out.1.cells
      have HSf : Hid (∀ X, Calls Tryz.prog 223 #[.string S, .string { data := #[48] }] X fun x w' => x = .returned (.bool (decide (D.getD k 0 = 0))) ∧ w' = X) := fun X => by
        have := Tryz.strings_HasSuffix S { data := #[48] } X (by omega)
        rw [show ({ data := #[48] } : ByteArray).data.toList = [48] from rfl, y2] at this
        exact this
      obtain ⟨m, hm⟩ : ∃ m, k + 1 = m := ⟨_, rfl⟩
      replace y1 := y1.trans hm
      have wm : IntKind.i64.wrap ((m : Int) - 1) = (k : Int) := by rw [IntKind.wrap_i64]; omega
      have km : (k : Int) ≤ (m : Int) := by omega
      have km3 : ¬ (k : Int) < 0 := by omega
      have HM : Hid (k + 1 = m ∧ n - 1 - i = k) := ⟨hm, hk⟩
      clear y2 HZ2 hS hm
      by_cases hlt : i < A
      · obtain ⟨z1, z2, z3, z4⟩ := HA1.out i hlt
        rw [hk] at z4
        have g1 : e + (i : Int) < hi := by have := HI.out.1; omega
        have g2 : (1 : Int) < (m : Int) := by have := HM.out.1; omega
        have we : IntKind.i64.wrap (e + (i : Int) + 1) = e + ((i + 1 : Nat) : Int) := by rw [IntKind.wrap_i64]; omega
        have HSf2 : Hid (∀ X, Calls Tryz.prog 223 #[.string S, .string { data := #[48] }] X fun x w' => x = .returned (.bool true) ∧ w' = X) := by
          have := HSf.out
          rw [decide_eq_true z4] at this
          exact this
        have HK : Hid (n - (i + 1) = k) := by show _ = _; omega
        have hbl := build_sc (tx (D.take k)) (e + ((i + 1 : Nat) : Int))
        clear z1 z2 z3 z4 hk hk1 HSf
        go_wp2_with fail
        refine (HSf2.out _).mono ?_
        rintro x wy ⟨rfl, rfl⟩
        go_upto_region 3 with fail
        refine wp_region_tail (C := fun W => W = wy.drew) 10 (by kernel_rfl) (by kernel_rfl) rfl ?_
        simp only [List.take_succ_cons, List.take_zero, List.drop_succ_cons, List.drop_zero]
        repeat (refine wpQuiet_step (fun K hK => ?_); go_simp; first | (refine hK _ ?_; clear hK K) | (apply Exists.intro; refine ⟨fun wx hC => ?_, hK _ ?_⟩; (first | exact rfl | (subst hC; go_simp; exact rfl)); clear hK K))
        refine wpQuiet_nil ?_
        intro wz hz
        subst hz
        have HZ4 : Hid (At2r wy.drew w.heap.size 192 (.string S) (.int .i64 (e + (i : Int)))) := HZ3.out.1
        go_wp2_with (refine wpList_store_row rfl 192 (.tmp 4) (.tmp 37) rfl w.heap.size #[.string (tx (D.take k)), .int .i64 (e + ((i + 1 : Nat) : Int))] rfl rfl _ _ HZ4.out (by kernel_rfl) rfl (one2 _ _) ?_)
        go_roundg (A - (i + 1))
        case measure => have := HG.out; omega
        case rel => exact ⟨i + 1, by omega, rfl, by rw [HK.out]; exact HZ4.out.row _ _, (show At2r wy.drew (w.heap.size + 1) _ _ _ from HZ3.out.2.1).other (by omega) _, bel_row (HZ3.out.2.2.drew) (Nat.le_refl _) _⟩
      · have ei : i = A := by omega
        subst ei
        have HZ5 : Hid (At2r wr w.heap.size 192 (.string (tx D4)) (.int .i64 (e + (i : Int))) ∧ At2r wr (w.heap.size + 1) 192 (.string { data := #[] }) (.int .i64 0) ∧ Below w.heap.size w wr) := by
          have := HZ3.out
          rw [← HSE.out, HD4.out] at this
          exact this
        by_cases g1 : e + (i : Int) < hi
        · by_cases g2 : (1 : Int) < (m : Int)
          · have g3 : ¬ D.getD k 0 = 0 := by
              have h1 := HI.out.1
              have h2 := HM.out
              rcases HA2.out with c | c | c | c
              · omega
              · omega
              · omega
              · rw [hk] at c; exact c
            have HSf2 : Hid (∀ X, Calls Tryz.prog 223 #[.string S, .string { data := #[48] }] X fun x w' => x = .returned (.bool false) ∧ w' = X) := by
              have := HSf.out
              rw [decide_eq_false g3] at this
              exact this
            clear hk hk1 HSf g3 hlt
            go_wp2_with fail
            refine (HSf2.out _).mono ?_
            rintro x wy ⟨rfl, rfl⟩
            go_wp2
            go_meet
            case rel => exact HZ5
          · clear hk hk1 hlt HSf
            go_wp2
            go_meet
            case rel => exact HZ5
        · clear hk hk1 hlt HSf
          go_wp2
          go_meet
          case rel => exact HZ5
  case rest =>
    have HZ2 := hcut
    have HX0 : Hid (Below wc.heap.size wc wc.drew) := (Below.refl _ _).drew
    have hmx := HI.out.2
    clear hcut HZ1 HA1 HA2 HX HS0 HD4
    go_upto_region 4 with fail
    refine wp_region_tail (C := fun W => Below wc.heap.size wc W) 6 (by kernel_rfl) (by kernel_rfl) HX0.out ?_
    simp only [List.take_succ_cons, List.take_zero, List.drop_succ_cons, List.drop_zero]
    repeat (refine wpQuiet_step (fun K hK => ?_); go_simp; first | (refine hK _ ?_; clear hK K) | (apply Exists.intro; refine ⟨fun wx hC => ?_, hK _ ?_⟩; (first | exact rfl | (simp only [md_leastExp_128]; go_simp; exact Calls.class_of (leastExp_128 wx) (fun w' hb => bel1 hC hb)) | (obtain ⟨q0, q1⟩ := (HZ2.out.1.below hC HZ2.out.1.lt).cells; go_simp; exact rfl)); clear hK K))
    refine wpQuiet_nil ?_
    intro w2 hb2
    have HZ3 : Hid (At2r w2 (w.heap.size + 1) 192 (.string { data := #[] }) (.int .i64 0) ∧ Below w.heap.size w w2) := ⟨HZ2.out.2.1.below hb2 HZ2.out.2.1.lt, HZ2.out.2.2.trans (hb2.mono HZ2.out.2.2.size)⟩
    clear hb2 HZ2 HX0
    go_wp2_with fail
    refine (HLw.out _).mono ?_
    rintro x w3 ⟨rfl, hb3⟩
    have HZ4 : Hid (At2r w3 (w.heap.size + 1) 192 (.string { data := #[] }) (.int .i64 0) ∧ Below w.heap.size w w3) := ⟨HZ3.out.1.below hb3 HZ3.out.1.lt, HZ3.out.2.trans (hb3.mono HZ3.out.2.size)⟩
    clear hb3 HZ3 HLw
    go_wp2_with (refine wpList_store_row rfl 192 (.tmp 6) (.tmp 44) rfl (w.heap.size + 1) #[.string (tx D5), .int .i64 e5] rfl rfl _ _ HZ4.out.1 (by kernel_rfl) rfl (one2 _ _) ?_)
    have hP := (HZ4.out.1.row (.string (tx D5)) (.int .i64 e5)).cells
    refine bodyPost_ret (results_sc rfl _ _ rfl hP.1 hP.2) rfl ?_
    exact ⟨rfl, bel_row HZ4.out.2 (by omega) _⟩
end Go.Proofs.YteofommckgeemaaGreatDoor

namespace Go.Proofs.YteofommckgeemaaGreatDoor
open Go.RowKit
set_option linter.unusedVariables false
set_option maxRecDepth 100000
theorem nt_500 (n : Int) : (nt n).length ≤ 500 := by
  unfold nt
  exact Nat.le_trans (strip_len _) (by rw [lastD_len]; exact Nat.le_refl _)
theorem rndV_bd (mode : Int) (neg : Bool) (v : Int) (k : Nat) (rest : Bool) (h0 : 0 ≤ v) (h1 : v < 10 ^ 300) : 0 ≤ rndV mode neg v k rest ∧ rndV mode neg v k rest < 10 ^ 500 := by
  have hp : (0 : Int) < 10 ^ k := Int.pow_pos (by decide)
  have a := Int.ediv_nonneg h0 (Int.le_of_lt hp)
  have b := Int.ediv_le_self (10 ^ k) h0
  have c := pow_mono 301 500 (by decide)
  have d : (10 : Int) ^ 301 = 10 ^ 300 * 10 := Int.pow_succ 10 300
  unfold rndV
  generalize v / 10 ^ k = q at *
  generalize (10 : Int) ^ 300 = x at *
  generalize (10 : Int) ^ 301 = y at *
  generalize (10 : Int) ^ 500 = z at *
  split <;> omega
theorem fin3_bd (lost : Bool) (D : List Int) (e want low high : Int) (p : Nat) (h0 : 0 < D.length) (h5 : D.length ≤ 500) (hp : p ≤ 34) : 0 < (fin3D lost D e want low high p).length ∧ (fin3D lost D e want low high p).length ≤ 534 ∧ e - 34 ≤ fin3E lost D e want low high p ∧ fin3E lost D e want low high p ≤ e + 500 := by
  unfold fin3D fin3E
  cases lost with
  | true => exact ⟨h0, by simp; omega, by simp; omega, by simp; omega⟩
  | false =>
    have a := fA_len D e want high h0
    have b : fB (D.length - fA D e want high) p (e + fA D e want high) want low ≤ 34 := by unfold fB; omega
    simp only [Bool.false_eq_true, if_false]
    rw [List.length_append, List.length_take, List.length_replicate]
    omega
end Go.Proofs.YteofommckgeemaaGreatDoor
