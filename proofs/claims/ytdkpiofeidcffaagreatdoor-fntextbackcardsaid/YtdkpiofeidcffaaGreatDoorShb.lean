/-
  The model's ShowNum, walked.
-/
import Derived.Test.YtdkpiofeidcffaaGreatDoorNumE
import Derived.Test.YtdkpiofeidcffaaGreatDoorCls
namespace Go.Proofs.YtdkpiofeidcffaaGreatDoor
open Go.RowKit
set_option linter.unusedVariables false
set_option maxRecDepth 100000
theorem sgT_t : sgnT true = { data := #[45] } := rfl
theorem sgT_f : sgnT false = { data := #[] } := rfl
theorem ptT_more (S : ByteArray) (A B : List Int) (h : B ≠ []) : S ++ tx A ++ { data := #[46] } ++ tx B = S ++ ptT A B := by
  unfold ptT
  rw [if_neg h, ByteArray.append_assoc, ByteArray.append_assoc, ByteArray.append_assoc]
theorem ptT_nil (A : List Int) : ptT A [] = tx A := by unfold ptT; rw [if_pos rfl]
theorem pw_neg (S : ByteArray) (x : Int) (h : x < 0) : S ++ { data := #[69, 45] } ++ tx (dcL (-x).toNat) = S ++ { data := #[69] } ++ pwT x := by
  unfold pwT
  rw [if_pos h]
  have e : ({ data := #[69, 45] } : ByteArray) = { data := #[69] } ++ { data := #[45] } := rfl
  rw [e]
  simp only [ByteArray.append_assoc]
theorem pw_pos (S : ByteArray) (x : Int) (h : ¬ x < 0) : S ++ { data := #[69, 43] } ++ tx (dcL x.toNat) = S ++ { data := #[69] } ++ pwT x := by
  unfold pwT
  rw [if_neg h]
  have e : ({ data := #[69, 43] } : ByteArray) = { data := #[69] } ++ { data := #[43] } := rfl
  rw [e]
  simp only [ByteArray.append_assoc]
theorem fnT_near (k : Nat) (L : List Int) (h : -6 ≤ (L.length : Int) - 1 - k) (n : Nat) (hn : (zpad (k + 1) L).length = n + k) : fnT (-(k : Int)) L = ptT ((zpad (k + 1) L).take n) ((zpad (k + 1) L).drop n) := by
  unfold fnT
  rw [if_pos ⟨by omega, by omega⟩, show (- -(k : Int)).toNat = k by omega, hn, Nat.add_sub_cancel]
theorem fnT_far (e : Int) (L : List Int) (h : ¬ (e ≤ 0 ∧ -6 ≤ (L.length : Int) - 1 + e)) : fnT e L = ptT (L.take 1) (L.drop 1) ++ { data := #[69] } ++ pwT ((L.length : Int) - 1 + e) := by
  unfold fnT
  rw [if_neg h]
set_option maxRecDepth 100000 in
set_option maxHeartbeats 1000000 in
theorem sShow_near (b : Bool) (k : Nat) (L : List Int) (hL : 0 < L.length) (hl : L.length ≤ 34) (h6 : -6 ≤ (L.length : Int) - 1 - k) (hO : numB 128 1 b (-(k : Int)) (tx L) = true) (w : World) :
    Calls Tryz.prog 8 #[numV 1 b (-(k : Int)) (tx L)] w fun x w' => x = .returned (.string (sgnT b ++ fnT (-(k : Int)) L)) ∧ Below w.heap.size w w' := by
  have hlen := zpad_len (k + 1) L
  obtain ⟨n, hn⟩ : ∃ n, (zpad (k + 1) L).length = n + k := ⟨(zpad (k + 1) L).length - k, by omega⟩
  have hn34 : n ≤ 40 := by omega
  have hk40 : k ≤ 40 := by omega
  rw [fnT_near k L h6 n hn]
  have t1 := tx_take (zpad (k + 1) L) n (by omega)
  have t2 := tx_drop (zpad (k + 1) L) n (by omega)
  have hsz : (tx (zpad (k + 1) L)).size = n + k := by rw [tx_size, hn]
  rw [hsz] at t2
  have HD0 : Hid (k = 0 → zpad (k + 1) L = L ∧ n = L.length) := fun q => by
    subst q
    have : zpad (0 + 1) L = L := by unfold zpad; rw [show 0 + 1 - L.length = 0 by omega]; rfl
    rw [this] at hn
    exact ⟨this, by omega⟩
  have HZ : Hid (zpad (k + 1) L = List.replicate (k + 1 - L.length) 0 ++ L) := rfl
  have HNb : Hid (∀ X, Calls Tryz.prog 9 #[.int .i64 128, numV 1 b (-(k : Int)) (tx L)] X fun x w' => x = .returned (.bool true) ∧ Below X.heap.size X w') := fun X => by
    have := sNumOk_any 128 1 b (-(k : Int)) (tx L) X (by rw [tx_size]; omega)
    rwa [hO] at this
  have HD : Hid (((zpad (k + 1) L).drop n).length = k) := by show _ = _; rw [List.length_drop]; omega
  have h4 := at4_new w (.int .i64 1) (.bool b) (.int .i64 (-(k : Int))) (.string (tx L))
  have HA : Hid (At4 (w.alloc (.cells #[.int .i64 1, .bool b, .int .i64 (-(k : Int)), .string (tx L)] 25)) w.heap.size (.int .i64 1) (.bool b) (.int .i64 (-(k : Int))) (.string (tx L)) ∧ Below w.heap.size w (w.alloc (.cells #[.int .i64 1, .bool b, .int .i64 (-(k : Int)), .string (tx L)] 25))) := ⟨h4, (Below.refl _ _).alloc (Nat.le_refl _) _⟩
  have w1 : IntKind.i64.wrap ((L.length : Int) - 1) = (L.length : Int) - 1 := by rw [IntKind.wrap_i64]; omega
  have w2 : IntKind.i64.wrap ((L.length : Int) - 1 + -(k : Int)) = (L.length : Int) - 1 + -(k : Int) := by rw [IntKind.wrap_i64]; omega
  have w3 : IntKind.i64.wrap ((k : Int)) = (k : Int) := by rw [IntKind.wrap_i64]; omega
  have w4 : IntKind.i64.wrap ((n : Int) + (k : Int) + -(k : Int)) = (n : Int) := by rw [IntKind.wrap_i64]; omega
  have h6' : -6 ≤ (L.length : Int) - 1 + -(k : Int) := by omega
  have hk0 : -(k : Int) ≤ 0 := by omega
  have b1 : (n : Int) ≤ (n : Int) + (k : Int) := by omega
  have hz := tx_size L
  clear h4 hO hlen hn h6
  cases b
  all_goals
    go_enter Tryz.func8, Tryz.ntmps8
    go_wp2_with fail
    refine (HNb.out _).mono ?_
    rintro x w1 ⟨rfl, hb1⟩
    have HA1 : Hid (At4 w1 w.heap.size (.int .i64 1) (.bool _) (.int .i64 (-(k : Int))) (.string (tx L)) ∧ Below w.heap.size w w1) := ⟨HA.out.1.below hb1 (by simp), HA.out.2.trans (hb1.mono HA.out.2.size)⟩
    clear hb1 HA HNb
    obtain ⟨a0, a1, a2, a3, a4⟩ := HA1.out.1
    go_wp2
    go_loopg [4] (k + 1 - L.length) (fun gk s wx => ∃ j : Nat, j ≤ k + 1 - L.length ∧ Hid (gk = k + 1 - L.length - j) ∧ s = .string (tx (List.replicate j 0 ++ L)) ∧ wx = w1)
    case atStart => exact ⟨0, Nat.zero_le _, rfl, rfl, rfl⟩
    case round =>
      obtain ⟨j, hj, hgk, rfl, hwr⟩ := hrel
      obtain rfl := hwr.symm
      have hzj : (tx (List.replicate j 0 ++ L)).size = j + L.length := by rw [tx_size, List.length_append, List.length_replicate]
      by_cases hlt : j < k + 1 - L.length
      · have hle : (j : Int) + (L.length : Int) ≤ (k : Int) := by omega
        have hap : ({ data := #[48] } : ByteArray) ++ tx (List.replicate j 0 ++ L) = tx (List.replicate (j + 1) 0 ++ L) := by
          rw [show ({ data := #[48] } : ByteArray) = tx [0] from by apply ByteArray.ext; rw [tx_data]; rfl, tx_append, List.replicate_succ]; rfl
        clear t1 t2 hsz
        go_wp2
        go_roundg (k + 1 - L.length - (j + 1))
        case measure => have := hgk.out; omega
        case rel => exact ⟨j + 1, by omega, rfl, congrArg _ hap, rfl⟩
      · have ej : j = k + 1 - L.length := by omega
        have HJ : Hid (List.replicate j 0 ++ L = zpad (k + 1) L) := by rw [ej]; exact HZ.out.symm
        have hnk : j + L.length = n + k := by rw [← hzj, HJ.out, hsz]
        rw [HJ.out] at hzj ⊢
        have hle : ¬ (n : Int) + (k : Int) ≤ (k : Int) := by omega
        clear hzj hnk ej hlt hj HJ hgk
        by_cases hk : k = 0
        · subst hk
          obtain ⟨q1, q2⟩ := HD0.out rfl
          rw [q1] at hsz t1 t2 ⊢
          subst q2
          have e1 : -((0 : Nat) : Int) = 0 := rfl
          rw [e1] at a2
          have hle0 : ¬ (L.length : Int) ≤ 0 := by omega
          have hLne : L ≠ [] := fun q => by rw [q] at hL; exact absurd hL (by decide)
          clear t1 t2 hsz hle w2 w3 w4 h6' hk0 b1 e1
          go_wp2
          go_ret
          refine ⟨?_, HA1.out.2⟩
          rw [ptT_nil]
          rfl
        · have hk1 : -(k : Int) ≠ 0 := by omega
          have hdr : (zpad (k + 1) L).drop n ≠ [] := fun q => by have := HD.out; rw [q] at this; exact hk this.symm
          have hp := ptT_more (sgnT false) ((zpad (k + 1) L).take n) _ hdr
          have hp' := ptT_more (sgnT true) ((zpad (k + 1) L).take n) _ hdr
          rw [sgT_f] at hp
          rw [sgT_t] at hp'
          clear hdr HD HZ HD0 hk
          have z1 : (tx ((zpad (k + 1) L).take n)).size ≤ 40 := by rw [tx_size, List.length_take]; omega
          have z2 : (tx ((zpad (k + 1) L).drop n)).size ≤ 80 := by rw [tx_size, List.length_drop]; have := zpad_len (k + 1) L; omega
          generalize tx ((zpad (k + 1) L).take n) = TA at *
          generalize tx ((zpad (k + 1) L).drop n) = TB at *
          generalize tx (zpad (k + 1) L) = TD at *
          obtain ⟨TP, hTP⟩ : ∃ T, ptT ((zpad (k + 1) L).take n) ((zpad (k + 1) L).drop n) = T := ⟨_, rfl⟩
          rw [hTP] at hp hp'
          have HTP : Hid (ptT ((zpad (k + 1) L).take n) ((zpad (k + 1) L).drop n) = TP) := hTP
          clear hTP
          go_wp2_with fail
          go_quiet (fail)
          go_wp2
          go_ret
          exact ⟨by rw [HTP.out]; rfl, below_drewN HA1.out.2 _⟩
set_option maxRecDepth 100000 in
set_option maxHeartbeats 1000000 in
theorem sShow_far (b : Bool) (e : Int) (L : List Int) (hL : 0 < L.length) (hl : L.length ≤ 34) (he : -6176 ≤ e ∧ e ≤ 6111) (h6 : ¬ (e ≤ 0 ∧ -6 ≤ (L.length : Int) - 1 + e)) (hO : numB 128 1 b e (tx L) = true) (w : World) :
    Calls Tryz.prog 8 #[numV 1 b e (tx L)] w fun x w' => x = .returned (.string (sgnT b ++ fnT e L)) ∧ Below w.heap.size w w' := by
  rw [fnT_far e L h6]
  have t1 := tx_take L 1 (by omega)
  have t2 := tx_drop L 1 (by omega)
  have hz := tx_size L
  rw [hz] at t2
  obtain ⟨x, hx⟩ : ∃ x, (L.length : Int) - 1 + e = x := ⟨_, rfl⟩
  have hx1 : -7000 ≤ x ∧ x ≤ 7000 := by omega
  have HNb : Hid (∀ X, Calls Tryz.prog 9 #[.int .i64 128, numV 1 b e (tx L)] X fun x w' => x = .returned (.bool true) ∧ Below X.heap.size X w') := fun X => by
    have := sNumOk_any 128 1 b e (tx L) X (by rw [tx_size]; omega)
    rwa [hO] at this
  have h4 := at4_new w (.int .i64 1) (.bool b) (.int .i64 e) (.string (tx L))
  have HA : Hid (At4 (w.alloc (.cells #[.int .i64 1, .bool b, .int .i64 e, .string (tx L)] 25)) w.heap.size (.int .i64 1) (.bool b) (.int .i64 e) (.string (tx L)) ∧ Below w.heap.size w (w.alloc (.cells #[.int .i64 1, .bool b, .int .i64 e, .string (tx L)] 25))) := ⟨h4, (Below.refl _ _).alloc (Nat.le_refl _) _⟩
  have w1 : IntKind.i64.wrap ((L.length : Int) - 1) = (L.length : Int) - 1 := by rw [IntKind.wrap_i64]; omega
  have w2 : IntKind.i64.wrap ((L.length : Int) - 1 + e) = (L.length : Int) - 1 + e := by rw [IntKind.wrap_i64]; omega
  have w3 : IntKind.i64.wrap (-x) = -x := by rw [IntKind.wrap_i64]; omega
  rw [hx] at w2 h6 ⊢
  have HI1 : Hid (x < 0 → ∀ X, Calls Tryz.prog 21 #[.int .i64 (-x)] X fun y w' => y = .returned (.string (tx (dcL (-x).toNat))) ∧ Below X.heap.size X w') := fun hn X => by
    have := l16Int_any (-x).toNat (by omega) X
    rwa [show (((-x).toNat : Nat) : Int) = -x by omega] at this
  have HI2 : Hid (0 ≤ x → ∀ X, Calls Tryz.prog 21 #[.int .i64 x] X fun y w' => y = .returned (.string (tx (dcL x.toNat))) ∧ Below X.heap.size X w') := fun hn X => by
    have := l16Int_any x.toNat (by omega) X
    rwa [show ((x.toNat : Nat) : Int) = x by omega] at this
  have zi : (tx (dcL (-x).toNat)).size ≤ 4 ∧ (tx (dcL x.toNat)).size ≤ 4 := ⟨by rw [tx_size]; exact dcL_len _ (by omega), by rw [tx_size]; exact dcL_len _ (by omega)⟩
  have z1 : (tx (L.take 1)).size ≤ 1 := by rw [tx_size, List.length_take]; omega
  have z2 : (tx (L.drop 1)).size ≤ 40 := by rw [tx_size, List.length_drop]; omega
  have zP : (ptT (L.take 1) (L.drop 1)).size ≤ 80 := by
    unfold ptT
    split
    · omega
    · rw [ByteArray.size_append, ByteArray.size_append]; show _ + 1 + _ ≤ _; omega
  have HP : Hid (∀ S : ByteArray, (L.length : Int) ≤ 1 → S ++ tx (L.take 1) = S ++ ptT (L.take 1) (L.drop 1)) := fun S hq => by
    have : L.drop 1 = [] := List.drop_eq_nil_of_le (by omega)
    rw [this, ptT_nil]
  have HQ : Hid (∀ S : ByteArray, (1 : Int) < L.length → S ++ tx (L.take 1) ++ { data := #[46] } ++ tx (L.drop 1) = S ++ ptT (L.take 1) (L.drop 1)) := fun S hq => ptT_more S _ _ fun q => by
    have := congrArg List.length q
    rw [List.length_drop, List.length_nil] at this
    omega
  have HX : Hid (∀ S : ByteArray, x < 0 → S ++ { data := #[69, 45] } ++ tx (dcL (-x).toNat) = S ++ { data := #[69] } ++ pwT x) := fun S h => pw_neg S x h
  have HY : Hid (∀ S : ByteArray, 0 ≤ x → S ++ { data := #[69, 43] } ++ tx (dcL x.toNat) = S ++ { data := #[69] } ++ pwT x) := fun S h => pw_pos S x (by omega)
  generalize tx (L.take 1) = TA at *
  generalize tx (L.drop 1) = TB at *
  generalize ptT (L.take 1) (L.drop 1) = TP at *
  generalize tx (dcL (-x).toNat) = TN at *
  generalize tx (dcL x.toNat) = TM at *
  generalize pwT x = TW at *
  generalize tx L = TL at *
  have s0 : sgnT b ++ (TP ++ { data := #[69] } ++ TW) = sgnT b ++ TP ++ { data := #[69] } ++ TW := by simp only [ByteArray.append_assoc]
  rw [s0]
  have hb1 : (1 : Int) ≤ L.length := by omega
  clear h4 hO s0
  have HH6 : Hid (¬ (e ≤ 0 ∧ -6 ≤ x)) := h6
  clear h6
  cases b
  all_goals
    go_enter Tryz.func8, Tryz.ntmps8
    go_wp2_with fail
    refine (HNb.out _).mono ?_
    rintro y w1 ⟨rfl, hb1⟩
    have HA1 : Hid (At4 w1 w.heap.size (.int .i64 1) (.bool _) (.int .i64 e) (.string TL) ∧ Below w.heap.size w w1) := ⟨HA.out.1.below hb1 (by simp), HA.out.2.trans (hb1.mono HA.out.2.size)⟩
    clear hb1 HA HNb
    obtain ⟨a0, a1, a2, a3, a4⟩ := HA1.out.1
    by_cases c1 : (1 : Int) < L.length
    · have hq := HQ.out (sgnT false) c1
      have hq' := HQ.out (sgnT true) c1
      rw [sgT_f] at hq
      rw [sgT_t] at hq'
      clear HP HQ
      by_cases c2 : x < 0
      · have hI := HI1.out c2
        have hX := HX.out (sgnT false ++ TP) c2
        have hX' := HX.out (sgnT true ++ TP) c2
        rw [sgT_f] at hX
        rw [sgT_t] at hX'
        clear HX HY HI1 HI2
        by_cases c3 : e ≤ 0
        · have c4 : x < -6 := by have := HH6.out; omega
          go_wp2_with fail
          refine (hI _).mono ?_
          rintro y w2 ⟨rfl, hb2⟩
          go_wp2
          go_ret
          exact ⟨rfl, HA1.out.2.trans (hb2.mono HA1.out.2.size)⟩
        · exact absurd hx (by omega)
      · have c2' : 0 ≤ x := by omega
        have hI := HI2.out c2'
        have hX := HY.out (sgnT false ++ TP) c2'
        have hX' := HY.out (sgnT true ++ TP) c2'
        rw [sgT_f] at hX
        rw [sgT_t] at hX'
        have c3 : ¬ e ≤ 0 := fun q => by have := HH6.out; omega
        clear HX HY HI1 HI2
        go_wp2_with fail
        refine (hI _).mono ?_
        rintro y w2 ⟨rfl, hb2⟩
        go_wp2
        go_ret
        exact ⟨rfl, HA1.out.2.trans (hb2.mono HA1.out.2.size)⟩
    · have c1' : (L.length : Int) ≤ 1 := by omega
      have hq := HP.out (sgnT false) c1'
      have hq' := HP.out (sgnT true) c1'
      rw [sgT_f] at hq
      rw [sgT_t] at hq'
      clear HP HQ
      by_cases c2 : x < 0
      · have hI := HI1.out c2
        have hX := HX.out (sgnT false ++ TP) c2
        have hX' := HX.out (sgnT true ++ TP) c2
        rw [sgT_f] at hX
        rw [sgT_t] at hX'
        clear HX HY HI1 HI2
        by_cases c3 : e ≤ 0
        · have c4 : x < -6 := by have := HH6.out; omega
          go_wp2_with fail
          refine (hI _).mono ?_
          rintro y w2 ⟨rfl, hb2⟩
          go_wp2
          go_ret
          exact ⟨rfl, HA1.out.2.trans (hb2.mono HA1.out.2.size)⟩
        · exact absurd hx (by omega)
      · have c2' : 0 ≤ x := by omega
        have hI := HI2.out c2'
        have hX := HY.out (sgnT false ++ TP) c2'
        have hX' := HY.out (sgnT true ++ TP) c2'
        rw [sgT_f] at hX
        rw [sgT_t] at hX'
        have c3 : ¬ e ≤ 0 := fun q => by have := HH6.out; omega
        clear HX HY HI1 HI2
        go_wp2_with fail
        refine (hI _).mono ?_
        rintro y w2 ⟨rfl, hb2⟩
        go_wp2
        go_ret
        exact ⟨rfl, HA1.out.2.trans (hb2.mono HA1.out.2.size)⟩
/-- What a number that is right in the greater format has. -/
theorem right_128 (k : Int) (b : Bool) (e : Int) (s : ByteArray) (h : numB 128 k b e s = true) :
    (k = 1 ∧ s = tx (dl s) ∧ 0 < (dl s).length ∧ (dl s).length ≤ 34 ∧ -6176 ≤ e ∧ e ≤ 6111) ∨ k = 2 ∨ (k = 3 ∧ b = false) ∨ (k = 4 ∧ b = false) := by
  unfold numB at h
  rw [if_neg (by decide)] at h
  by_cases h1 : k = 1
  · rw [if_pos h1] at h
    simp only [Bool.and_eq_true, decide_eq_true_eq] at h
    obtain ⟨hn, h2, h3⟩ := h
    obtain ⟨hc, hlen, he⟩ := natB_dl _ s hn
    have h34 : ((dl s).length : Int) ≤ 34 := hlen
    exact .inl ⟨h1, he, hc.2.1, by omega, h2, h3⟩
  · rw [if_neg h1] at h
    by_cases h2 : k = 2
    · exact .inr (.inl h2)
    · rw [if_neg h2] at h
      by_cases h3 : k = 3 ∨ k = 4
      · rw [if_pos h3] at h
        simp only [Bool.and_eq_true, Bool.not_eq_true'] at h
        rcases h3 with q | q
        · exact .inr (.inr (.inl ⟨q, h.2.2⟩))
        · exact .inr (.inr (.inr ⟨q, h.2.2⟩))
      · rw [if_neg h3] at h
        cases h
theorem sShowNum_any (k : Int) (b : Bool) (e : Int) (s : ByteArray) (w : World) (hs : s.size ≤ 4611686018427387904) :
    Calls Tryz.prog 8 #[numV k b e s] w fun x w' => x = .returned (.string (shT k b e s)) ∧ Below w.heap.size w w' := by
  cases hO : numB 128 k b e s with
  | false =>
    have HNb : Hid (∀ X, Calls Tryz.prog 9 #[.int .i64 128, numV k b e s] X fun x w' => x = .returned (.bool false) ∧ Below X.heap.size X w') := fun X => by
      have := sNumOk_any 128 k b e s X hs
      rwa [hO] at this
    have hE : shT k b e s = { data := #[] } := by unfold shT; rw [hO]; rfl
    rw [hE]
    clear hE hO hs
    go_enter Tryz.func8, Tryz.ntmps8
    go_wp2_with fail
    refine (HNb.out _).mono ?_
    rintro x w1 ⟨rfl, hb1⟩
    go_wp2
    go_ret
    exact ⟨rfl, bel1 ((Below.refl _ _).alloc (Nat.le_refl _) _) hb1⟩
  | true =>
    have hE : shT k b e s = sgnT b ++ usT k e s := by unfold shT; rw [hO]; rfl
    rw [hE]
    rcases right_128 k b e s hO with ⟨rfl, hs1, h0, h1, e0, e1⟩ | hk
    · have hu : usT 1 e s = fnT e (dl s) := by unfold usT; rw [if_neg (by decide), if_neg (by decide), if_neg (by decide)]
      rw [hu]
      generalize dl s = L at *
      subst hs1
      by_cases hn : e ≤ 0 ∧ -6 ≤ (L.length : Int) - 1 + e
      · obtain ⟨m, rfl⟩ : ∃ m : Nat, e = -(m : Int) := ⟨(-e).toNat, by omega⟩
        exact sShow_near b m L h0 h1 (by omega) hO w
      · exact sShow_far b e L h0 h1 ⟨e0, e1⟩ hn hO w
    · have HNb : Hid (∀ X, Calls Tryz.prog 9 #[.int .i64 128, numV k b e s] X fun x w' => x = .returned (.bool true) ∧ Below X.heap.size X w') := fun X => by
        have := sNumOk_any 128 k b e s X hs
        rwa [hO] at this
      have h4 := at4_new w (.int .i64 k) (.bool b) (.int .i64 e) (.string s)
      have HA : Hid (At4 (w.alloc (.cells #[.int .i64 k, .bool b, .int .i64 e, .string s] 25)) w.heap.size (.int .i64 k) (.bool b) (.int .i64 e) (.string s) ∧ Below w.heap.size w (w.alloc (.cells #[.int .i64 k, .bool b, .int .i64 e, .string s] 25))) := ⟨h4, (Below.refl _ _).alloc (Nat.le_refl _) _⟩
      clear h4 hO hs hE
      rcases hk with rfl | ⟨rfl, rfl⟩ | ⟨rfl, rfl⟩
      · cases b
        all_goals
          go_enter Tryz.func8, Tryz.ntmps8
          go_wp2_with fail
          refine (HNb.out _).mono ?_
          rintro x w1 ⟨rfl, hb1⟩
          have HA1 : Hid (At4 w1 w.heap.size (.int .i64 2) (.bool _) (.int .i64 e) (.string s) ∧ Below w.heap.size w w1) := ⟨HA.out.1.below hb1 (by simp), HA.out.2.trans (hb1.mono HA.out.2.size)⟩
          obtain ⟨a0, a1, a2, a3, a4⟩ := HA1.out.1
          clear hb1 HA HNb
          go_wp2
          go_ret
          exact ⟨rfl, HA1.out.2⟩
      all_goals
        go_enter Tryz.func8, Tryz.ntmps8
        go_wp2_with fail
        refine (HNb.out _).mono ?_
        rintro x w1 ⟨rfl, hb1⟩
        have HA1 : Hid (At4 w1 w.heap.size (.int .i64 _) (.bool false) (.int .i64 e) (.string s) ∧ Below w.heap.size w w1) := ⟨HA.out.1.below hb1 (by simp), HA.out.2.trans (hb1.mono HA.out.2.size)⟩
        obtain ⟨a0, a1, a2, a3, a4⟩ := HA1.out.1
        clear hb1 HA HNb
        go_wp2
        go_ret
        exact ⟨rfl, HA1.out.2⟩
end Go.Proofs.YtdkpiofeidcffaaGreatDoor
