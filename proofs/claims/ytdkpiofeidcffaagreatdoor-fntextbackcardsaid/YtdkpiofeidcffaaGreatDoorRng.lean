/-
  ReadNum of the model: its exponent.
-/
import Derived.Test.YtdkpiofeidcffaaGreatDoorRnx
import Derived.Test.YtdkpiofeidcffaaGreatDoorRnf
import Derived.Deep.LoopGhost
namespace Go.Proofs.YtdkpiofeidcffaaGreatDoor
open Go.RowKit
set_option linter.unusedVariables false
set_option maxRecDepth 100000
set_option linter.unusedSimpArgs false
/-- What stands behind the exponent is told where the digits and the exponent are. -/
def KOk (w : World) (f m : Int) (neg : Bool) (An : Value) (B3 : Nat) (K : Act → World → Prop) : Prop := ∀ {u2 u3 u4 u5 u7 u8 u9 u10 u11 u14 u16 u17 u18 u19 u20 u21 u22 u23 u24 u25 u26 u27 u28 u29 u30 u31 u32 u33 u34 u35 u36 u37 u38 u39 u40 u41 u42 u43 u44 u45 u46 u47 u48 u49 u50 u51 u52 u53 u54 u55 u56 u57 u58 u59 u60 u61 u62 u63 u64 u65 u66 u67 u68 u69 u70 u71 u72 u73 u74 u75 u76 u77 u78 u79 u80 u81 u82 u83 u84 u85 u86 u87 u88 u89 u90 u91 u92 u93 u94 u95 u96 u97 u98 u99 u100 u101 u102 u103 u104 u105 u106 u107 u108 u109 u110 u111 u112 u113 u114 u115 u116 u117 u118 u119 u120 u121 u122 u123 u124 u125 u126 u127 u128 u129 u130 u131 u132 u133 u134 u135 u136 u137 u138 u139 u140 u141 u142 u143 u144 u145 u146 u147 u148 u149 u150 u151 u152 u153 u154 u155 u156 u157 u158 u159 u160 u161 u162 u163 u164 u165 u166 u167 u168 u169 u170 u171 u172 u173 u174 u175 u176 u177 u178 u179 u180 u181 u182 u183 u184 u185 u186 u187 u188 u189 u190 u191 u192 u193 u194 u195 u196 u197 : Value} (v : Value) (ex : Int) (W : World), Rn4 w f m neg An B3 v ex W → K { tmps := #[.int .i64 f, .int .i64 m, u2, u3, u4, u5, .pointer (some ⟨w.heap.size, 0, none⟩), u7, u8, u9, u10, u11, .bool neg, v, u14, .int .i64 ex, u16, u17, u18, u19, u20, u21, u22, u23, u24, u25, u26, u27, u28, u29, u30, u31, u32, u33, u34, u35, u36, u37, u38, u39, u40, u41, u42, u43, u44, u45, u46, u47, u48, u49, u50, u51, u52, u53, u54, u55, u56, u57, u58, u59, u60, u61, u62, u63, u64, u65, u66, u67, u68, u69, u70, u71, u72, u73, u74, u75, u76, u77, u78, u79, u80, u81, u82, u83, u84, u85, u86, u87, u88, u89, u90, u91, u92, u93, u94, u95, u96, u97, u98, u99, u100, u101, u102, u103, u104, u105, u106, u107, u108, u109, u110, u111, u112, u113, u114, u115, u116, u117, u118, u119, u120, u121, u122, u123, u124, u125, u126, u127, u128, u129, u130, u131, u132, u133, u134, u135, u136, u137, u138, u139, u140, u141, u142, u143, u144, u145, u146, u147, u148, u149, u150, u151, u152, u153, u154, u155, u156, u157, u158, u159, u160, u161, u162, u163, u164, u165, u166, u167, u168, u169, u170, u171, u172, u173, u174, u175, u176, u177, u178, u179, u180, u181, u182, u183, u184, u185, u186, u187, u188, u189, u190, u191, u192, u193, u194, u195, u196, u197], defers := [] } W
set_option maxRecDepth 100000 in
set_option maxHeartbeats 4000000 in
theorem rn_pow (X : Code) (hX : X = selC [1, 1, 1, 1, 1, 1, 1, 1, 1, 1, 1, 1, 1, 0, 1, 2, 1, 1, 1, 1, 1] ((Tryz.f13.body).getD .skip)) (w W : World) (f m : Int) (neg : Bool) (An v : Value) (B3 : Nat) (n : Nat) (U : ByteArray) (q : Nat) (D : List UInt8) (Y : Prt) (K : Act → World → Prop) (qi : Int) (hqi : qi = (q : Int)) (ng : Bool) {u2 u3 u4 u5 u7 u8 u9 u10 u14 u19 u20 u21 u22 u23 u24 u25 u26 u27 u28 u29 u30 u31 u32 u33 u34 u35 u36 u37 u38 u39 u40 u41 u42 u43 u44 u45 u46 u47 u48 u49 u50 u51 u52 u53 u54 u55 u56 u57 u58 u59 u60 u61 u62 u63 u64 u65 u66 u67 u68 u69 u70 u71 u72 u73 u74 u75 u76 u77 u78 u79 u80 u81 u82 u83 u84 u85 u86 u87 u88 u89 u90 u91 u92 u93 u94 u95 u96 u97 u98 u99 u100 u101 u102 u103 u104 u105 u106 u107 u108 u109 u110 u111 u112 u113 u114 u115 u116 u117 u118 u119 u120 u121 u122 u123 u124 u125 u126 u127 u128 u129 u130 u131 u132 u133 u134 u135 u136 u137 u138 u139 u140 u141 u142 u143 u144 u145 u146 u147 u148 u149 u150 u151 u152 u153 u154 u155 u156 u157 u158 u159 u160 u161 u162 u163 u164 u165 u166 u167 u168 u169 u170 u171 u172 u173 u174 u175 u176 u177 u178 u179 u180 u181 u182 u183 u184 u185 u186 u187 u188 u189 u190 u191 u192 u193 u194 u195 u196 u197 : Value} (hU : U.size ≤ 200) (hn : n ≤ 200) (hDl : D.length ≤ 200) (hQ : RnQ w B3 W v D) (hA : rdP f m neg Y = An) (hP : ∀ D n ng P, Y = some (D, n, ng, P) → Canon (strip (D.map (· - 48))) ∧ (strip (D.map (· - 48))).length ≤ 200 ∧ (-200000 ≤ scE n ng P ∧ scE n ng P ≤ 200000))
    (hq : q ≤ U.size) (hY : Y = pExp ((bz U.data.toList).drop q) (bz D) n ng []) (hK : KOk w f m neg An B3 K) :
    X.wp Tryz.prog (Exit.then K (bodyPost Tryz.prog Tryz.f13 (RnP w An))) { tmps := #[.int .i64 f, .int .i64 m, u2, u3, u4, u5, .pointer (some ⟨w.heap.size, 0, none⟩), u7, u8, u9, u10, .string U, .bool neg, v, u14, .int .i64 (-(n : Int)), .int .i64 qi, .bool ng, .int .i64 0, u19, u20, u21, u22, u23, u24, u25, u26, u27, u28, u29, u30, u31, u32, u33, u34, u35, u36, u37, u38, u39, u40, u41, u42, u43, u44, u45, u46, u47, u48, u49, u50, u51, u52, u53, u54, u55, u56, u57, u58, u59, u60, u61, u62, u63, u64, u65, u66, u67, u68, u69, u70, u71, u72, u73, u74, u75, u76, u77, u78, u79, u80, u81, u82, u83, u84, u85, u86, u87, u88, u89, u90, u91, u92, u93, u94, u95, u96, u97, u98, u99, u100, u101, u102, u103, u104, u105, u106, u107, u108, u109, u110, u111, u112, u113, u114, u115, u116, u117, u118, u119, u120, u121, u122, u123, u124, u125, u126, u127, u128, u129, u130, u131, u132, u133, u134, u135, u136, u137, u138, u139, u140, u141, u142, u143, u144, u145, u146, u147, u148, u149, u150, u151, u152, u153, u154, u155, u156, u157, u158, u159, u160, u161, u162, u163, u164, u165, u166, u167, u168, u169, u170, u171, u172, u173, u174, u175, u176, u177, u178, u179, u180, u181, u182, u183, u184, u185, u186, u187, u188, u189, u190, u191, u192, u193, u194, u195, u196, u197], defers := [] } W := by
  have HK : Hid (KOk w f m neg An B3 K) := hK
  subst hqi
  have HQ5 : Hid (At5 W w.heap.size (.int .i64 0) (.bool false) (.int .i64 0) (.string { data := #[] }) (.int .i64 0) ∧ Below w.heap.size w W) := ⟨hQ.2.1, hQ.2.2.1⟩
  have HQ : Hid (RnQ w B3 W v D ∧ D.length ≤ 200) := ⟨hQ, hDl⟩
  rw [pExp_all] at hY
  simp only [List.length_nil, Nat.zero_add, List.nil_append] at hY
  obtain ⟨L, hL⟩ : ∃ L, (bz U.data.toList).drop q = L := ⟨_, rfl⟩
  rw [hL] at hY
  have hlen : L.length = U.size - q := by rw [← hL, List.length_drop, bz_len, Array.length_toList]; rfl
  obtain ⟨r, hr⟩ : ∃ r, U.size - q = r := ⟨_, rfl⟩
  have wsub : IntKind.i64.wrap ((U.size : Int) - (q : Int)) = (r : Int) := by rw [IntKind.wrap_i64]; omega
  have hat : ∀ j (h : q + j < U.size), L.getD j 0 = (U[q + j].toNat : Int) := fun j h => by
    have := bz_drop U (q + j) h
    rw [← List.drop_drop, hL] at this
    have hj : j < L.length := by omega
    rw [List.drop_eq_getElem_cons hj] at this
    rw [List.getD_eq_getElem?_getD, List.getElem?_eq_getElem hj]
    exact (List.cons.inj this).1
  subst hX
  clear hK hQ hL
  by_cases hr5 : 1 ≤ r ∧ r ≤ 5
  · have HA : Hid (rdP f m neg Y = An) := hA
    have HP : Hid (∀ D n ng P, Y = some (D, n, ng, P) → Canon (strip (D.map (· - 48))) ∧ (strip (D.map (· - 48))).length ≤ 200 ∧ (-200000 ≤ scE n ng P ∧ scE n ng P ≤ 200000)) := hP
    have HY : Hid (Y = if (∀ y ∈ L, dgB y = true) ∧ 1 ≤ L.length ∧ L.length ≤ 5 then some (bz D, n, ng, L) else none) := hY
    have HAt : Hid ((∀ j (h : q + j < U.size), L.getD j 0 = (U[q + j].toNat : Int)) ∧ L.length = r ∧ U.size = q + r ∧ (1 ≤ r ∧ r ≤ 5)) := ⟨hat, by omega, by omega, hr5⟩
    have hr1 : ¬ (r : Int) < 1 := by omega
    have hr2 : ¬ 5 < (r : Int) := by omega
    have hUz : (U.size : Int) = (q : Int) + (r : Int) := by omega
    clear hA hP hY hat hlen hr hr5
    simp only [Tryz.f13, selC, Option.getD_some]
    go_wp2_with fail
    clear wsub
    go_loopg [16, 18] (U.size - q) (fun gk i x wx => ∃ k : Nat, q ≤ k ∧ k ≤ U.size ∧ Hid (gk = U.size - k) ∧ i = .int .i64 (k : Int) ∧ x = .int .i64 (pe (L.take (k - q))) ∧ wx = W ∧ Hid (∀ t, t < k - q → dgB (L.getD t 0) = true))
    case atStart => exact ⟨q, Nat.le_refl _, by have := HAt.out; omega, rfl, rfl, by rw [Nat.sub_self]; rfl, rfl, fun t ht => absurd ht (by omega)⟩
    case round =>
      obtain ⟨k, hk1, hk2, HG, rfl, rfl, hw, HDg⟩ := hrel
      subst hw
      obtain ⟨hat, hl1, hl2, hl3⟩ := HAt.out
      have htk : ∀ y ∈ L.take (k - q), 48 ≤ y ∧ y ≤ 57 := fun y hy => by
        obtain ⟨t, ht, rfl⟩ := List.mem_iff_getElem.1 hy
        rw [List.length_take] at ht
        have := HDg.out t (by omega)
        rw [List.getD_eq_getElem?_getD, List.getElem?_eq_getElem (by omega)] at this
        rw [List.getElem_take]
        exact dg_of this
      have hpe := pe_bd _ htk
      have hpl : (10 : Int) ^ (L.take (k - q)).length ≤ 10 ^ 5 := by
        have := Nat.pow_le_pow_right (show 0 < 10 by decide) (show (L.take (k - q)).length ≤ 5 by rw [List.length_take]; omega)
        exact_mod_cast this
      by_cases hlt : k < U.size
      · have hlt' : (k : Int) < (q : Int) + (r : Int) := by omega
        have hb8 : U[k].toNat < 256 := U[k].toNat_lt
        have hgd : L.getD (k - q) 0 = (U[k].toNat : Int) := by
          have := hat (k - q) (by omega)
          rw [this]
          congr 3
          omega
        have HD8 : Hid (∀ X, Calls Tryz.prog 38 #[.int .u8 (U[k].toNat : Int)] X fun e w' => e = .returned (.bool (dgB (U[k].toNat : Int))) ∧ w' = X) := fun X => l16Digit_any _ X (by omega)
        cases hd : dgB (U[k].toNat : Int) with
        | true =>
          rw [hd] at HD8
          have hy := dg_of hd
          have HPt : Hid (pe (L.take (k + 1 - q)) = pe (L.take (k - q)) * 10 + ((U[k].toNat : Int) - 48)) := by
            have := pe_take L (k - q) (by omega)
            show _ = _
            rw [show k + 1 - q = k - q + 1 by omega, this, hgd]
            omega
          have HD2 : Hid (∀ t, t < k + 1 - q → dgB (L.getD t 0) = true) := fun t ht => by
            by_cases h : t < k - q
            · exact HDg.out t h
            · obtain rfl : t = k - q := by omega
              rw [hgd]; exact hd
          have HB5 : Hid (k + 1 ≤ U.size) := by show _ ≤ _; omega
          have w2 : IntKind.u8.wrap ((U[k].toNat : Int) - 48) = (U[k].toNat : Int) - 48 := by rw [IntKind.wrap_u8]; omega
          obtain ⟨p0, hp0⟩ : ∃ p0, pe (L.take (k - q)) = p0 := ⟨_, rfl⟩
          rw [hp0] at HPt hpe ⊢
          have w1 : IntKind.i64.wrap (p0 * 10) = p0 * 10 := by rw [IntKind.wrap_i64]; omega
          have w3 : IntKind.i64.wrap ((U[k].toNat : Int) - 48) = (U[k].toNat : Int) - 48 := by rw [IntKind.wrap_i64]; omega
          have w4 : IntKind.i64.wrap (p0 * 10 + ((U[k].toNat : Int) - 48)) = p0 * 10 + ((U[k].toNat : Int) - 48) := by rw [IntKind.wrap_i64]; omega
          have HW : Hid (wrap64 (p0 * 10 + ((U[k].toNat : Int) - 48) % 256) = p0 * 10 + ((U[k].toNat : Int) - 48)) := by
            have := IntKind.wrap_i64 (p0 * 10 + ((U[k].toNat : Int) - 48) % 256)
            show _ = _
            unfold wrap64
            omega
          clear hp0 hpl hgd hat htk hl1 hl2 hl3 hd HDg HAt HY HP HA hpe hy
          go_wp2_with fail
          refine (HD8.out _).mono ?_
          rintro e w1' ⟨rfl, hw⟩
          subst hw
          go_wp2
          go_roundg (U.size - (k + 1))
          case measure => have := HG.out; omega
          case rel => exact ⟨k + 1, by omega, HB5.out, rfl, by go_num, Ln.val_int (HW.out.trans HPt.out.symm), rfl, HD2.out⟩
        | false =>
          rw [hd] at HD8
          have HAz : Hid (.tuple #[rsV 0 false 0 { data := #[] } 0, .bool false] = An) := by
            have h := HA.out
            rw [HY.out, if_neg (fun z => by
              have hm : L.getD (k - q) 0 ∈ L := by rw [List.getD_eq_getElem?_getD, List.getElem?_eq_getElem (by omega)]; exact List.getElem_mem _
              have := z.1 _ hm
              rw [hgd, hd] at this
              cases this)] at h
            exact h
          have hB := build_resZ
          clear hpl hgd hat htk hl1 hl2 hl3 hd HDg HAt HY HP HA hpe
          go_wp2_with fail
          refine (HD8.out _).mono ?_
          rintro e w1' ⟨rfl, hw⟩
          subst hw
          go_wp2_with (refine wpList_store_row rfl 30 (.tmp 6) (.tmp 174) rfl w.heap.size #[.int .i64 0, .bool false, .int .i64 0, .string { data := #[] }, .int .i64 0] rfl rfl _ _ HQ5.out.1 (by kernel_rfl) rfl (one5 _ _ _ _ _) ?_)
          have hP := (HQ5.out.1.row (.int .i64 0) (.bool false) (.int .i64 0) (.string { data := #[] }) (.int .i64 0)).cells
          (try simp only [Exit.inBlock, Exit.then])
          refine bodyPost_ret (results_rsb rfl _ _ rfl hP.1 hP.2.1 hP.2.2.1 hP.2.2.2.1 hP.2.2.2.2.1) rfl ?_
          exact ⟨congrArg Ending.returned HAz.out, bel_row HQ5.out.2 (Nat.le_refl _) _⟩
      · obtain rfl : k = U.size := by omega
        have hall : ∀ y ∈ L, dgB y = true := fun y hy => by
          obtain ⟨t, ht, rfl⟩ := List.mem_iff_getElem.1 hy
          have := HDg.out t (by omega)
          rw [List.getD_eq_getElem?_getD, List.getElem?_eq_getElem ht] at this
          exact this
        have hYs : Y = some (bz D, n, ng, L) := by rw [HY.out, if_pos ⟨hall, by omega, by omega⟩]
        have hfin := HP.out _ _ _ _ hYs
        have htl : L.take (U.size - q) = L := List.take_of_length_le (by omega)
        rw [htl] at hpe hpl ⊢
        have H4 : Hid (Rn4 w f m neg An B3 v (scE n ng L) wr) := ⟨D, n, ng, L, HQ.out.1, rfl, by rw [← hYs]; exact HA.out, hfin.1, hfin.2.1, HQ.out.2, hfin.2.2⟩
        have HSc : Hid (scE n ng L = (if ng then -pe L else pe L) - (n : Int)) := rfl
        have hge : ¬ (U.size : Int) < (q : Int) + (r : Int) := by omega
        obtain ⟨p0, hp0⟩ : ∃ p0, pe L = p0 := ⟨_, rfl⟩
        rw [hp0] at HSc hpe ⊢
        have w1 : IntKind.i64.wrap (-p0) = -p0 := by rw [IntKind.wrap_i64]; omega
        have w2 : IntKind.i64.wrap (-(n : Int) + p0) = -(n : Int) + p0 := by rw [IntKind.wrap_i64]; omega
        have w3 : IntKind.i64.wrap (-(n : Int) + -p0) = -(n : Int) + -p0 := by rw [IntKind.wrap_i64]; omega
        clear hp0 hpl hat htk hl1 hl2 hl3 HDg HAt HY HP HA hpe hall hYs hfin htl HQ HQ5 HG hn hU hDl
        cases ng with
        | true =>
          have HS2 : Hid (scE n true L = -(n : Int) + -p0) := by show _ = _; rw [HSc.out]; simp only [if_true]; omega
          have H5 : Hid (Rn4 w f m neg An B3 v (-(n : Int) + -p0) wr) := by
            have h := H4.out
            rw [HS2.out] at h
            exact h
          clear H4 HSc HS2
          go_wp2_with fail
          exact HK.out _ _ _ H5.out
        | false =>
          have HS2 : Hid (scE n false L = -(n : Int) + p0) := by show _ = _; rw [HSc.out]; simp only [Bool.false_eq_true, if_false]; omega
          have H5 : Hid (Rn4 w f m neg An B3 v (-(n : Int) + p0) wr) := by
            have h := H4.out
            rw [HS2.out] at h
            exact h
          have HW2 : Hid (wrap64 (-(n : Int) + p0) = -(n : Int) + p0) := by
            have := IntKind.wrap_i64 (-(n : Int) + p0)
            show _ = _
            unfold wrap64
            omega
          clear H4 HSc HS2
          go_wp2_with fail
          exact HK.out _ _ _ H5.out
  · have HAz : Hid (.tuple #[rsV 0 false 0 { data := #[] } 0, .bool false] = An) := by
      rw [hY, if_neg (fun q => hr5 (by omega))] at hA
      exact hA
    have hB := build_resZ
    simp only [Tryz.f13, selC, Option.getD_some]
    clear hP hA hY hat HQ HK
    rcases (show r = 0 ∨ (¬ (r : Int) < 1 ∧ 5 < (r : Int)) by omega) with rfl | ⟨h1, h2⟩
    · clear hr5 hr hlen
      go_wp2_with (refine wpList_store_row rfl 30 (.tmp 6) (.tmp 162) rfl w.heap.size #[.int .i64 0, .bool false, .int .i64 0, .string { data := #[] }, .int .i64 0] rfl rfl _ _ HQ5.out.1 (by kernel_rfl) rfl (one5 _ _ _ _ _) ?_)
      have hP := (HQ5.out.1.row (.int .i64 0) (.bool false) (.int .i64 0) (.string { data := #[] }) (.int .i64 0)).cells
      (try simp only [Exit.inBlock, Exit.then])
      refine bodyPost_ret (results_rsb rfl _ _ rfl hP.1 hP.2.1 hP.2.2.1 hP.2.2.2.1 hP.2.2.2.2.1) rfl ?_
      exact ⟨congrArg Ending.returned HAz.out, bel_row HQ5.out.2 (Nat.le_refl _) _⟩
    · clear hr5 hr hlen
      go_wp2_with (refine wpList_store_row rfl 30 (.tmp 6) (.tmp 162) rfl w.heap.size #[.int .i64 0, .bool false, .int .i64 0, .string { data := #[] }, .int .i64 0] rfl rfl _ _ HQ5.out.1 (by kernel_rfl) rfl (one5 _ _ _ _ _) ?_)
      have hP := (HQ5.out.1.row (.int .i64 0) (.bool false) (.int .i64 0) (.string { data := #[] }) (.int .i64 0)).cells
      (try simp only [Exit.inBlock, Exit.then])
      refine bodyPost_ret (results_rsb rfl _ _ rfl hP.1 hP.2.1 hP.2.2.1 hP.2.2.2.1 hP.2.2.2.2.1) rfl ?_
      exact ⟨congrArg Ending.returned HAz.out, bel_row HQ5.out.2 (Nat.le_refl _) _⟩
set_option maxRecDepth 100000 in
set_option maxHeartbeats 4000000 in
theorem rn_exp (X : Code) (hX : X = selC [1, 1, 1, 1, 1, 1, 1, 1, 1, 1, 1, 1, 1, 0, 1, 2, 1, 1, 1] ((Tryz.f13.body).getD .skip)) (w W : World) (f m : Int) (neg : Bool) (An v : Value) (B3 : Nat) (n : Nat) (U : ByteArray) (q : Nat) (D : List UInt8) (Y : Prt) (K : Act → World → Prop) (qi : Int) (hqi : qi = (q : Int)) {u2 u3 u4 u5 u7 u8 u9 u10 u14 u18 u19 u20 u21 u22 u23 u24 u25 u26 u27 u28 u29 u30 u31 u32 u33 u34 u35 u36 u37 u38 u39 u40 u41 u42 u43 u44 u45 u46 u47 u48 u49 u50 u51 u52 u53 u54 u55 u56 u57 u58 u59 u60 u61 u62 u63 u64 u65 u66 u67 u68 u69 u70 u71 u72 u73 u74 u75 u76 u77 u78 u79 u80 u81 u82 u83 u84 u85 u86 u87 u88 u89 u90 u91 u92 u93 u94 u95 u96 u97 u98 u99 u100 u101 u102 u103 u104 u105 u106 u107 u108 u109 u110 u111 u112 u113 u114 u115 u116 u117 u118 u119 u120 u121 u122 u123 u124 u125 u126 u127 u128 u129 u130 u131 u132 u133 u134 u135 u136 u137 u138 u139 u140 u141 u142 u143 u144 u145 u146 u147 u148 u149 u150 u151 u152 u153 u154 u155 u156 u157 u158 u159 u160 u161 u162 u163 u164 u165 u166 u167 u168 u169 u170 u171 u172 u173 u174 u175 u176 u177 u178 u179 u180 u181 u182 u183 u184 u185 u186 u187 u188 u189 u190 u191 u192 u193 u194 u195 u196 u197 : Value} (hU : U.size ≤ 200) (hn : n ≤ 200) (hDl : D.length ≤ 200) (hQ : RnQ w B3 W v D) (hA : rdP f m neg Y = An) (hP : ∀ D n ng P, Y = some (D, n, ng, P) → Canon (strip (D.map (· - 48))) ∧ (strip (D.map (· - 48))).length ≤ 200 ∧ (-200000 ≤ scE n ng P ∧ scE n ng P ≤ 200000))
    (hq : q ≤ U.size) (hY : Y = pSgn ((bz U.data.toList).drop q) (bz D) n) (hK : KOk w f m neg An B3 K) :
    X.wp Tryz.prog (Exit.then K (bodyPost Tryz.prog Tryz.f13 (RnP w An))) { tmps := #[.int .i64 f, .int .i64 m, u2, u3, u4, u5, .pointer (some ⟨w.heap.size, 0, none⟩), u7, u8, u9, u10, .string U, .bool neg, v, u14, .int .i64 (-(n : Int)), .int .i64 qi, .bool false, u18, u19, u20, u21, u22, u23, u24, u25, u26, u27, u28, u29, u30, u31, u32, u33, u34, u35, u36, u37, u38, u39, u40, u41, u42, u43, u44, u45, u46, u47, u48, u49, u50, u51, u52, u53, u54, u55, u56, u57, u58, u59, u60, u61, u62, u63, u64, u65, u66, u67, u68, u69, u70, u71, u72, u73, u74, u75, u76, u77, u78, u79, u80, u81, u82, u83, u84, u85, u86, u87, u88, u89, u90, u91, u92, u93, u94, u95, u96, u97, u98, u99, u100, u101, u102, u103, u104, u105, u106, u107, u108, u109, u110, u111, u112, u113, u114, u115, u116, u117, u118, u119, u120, u121, u122, u123, u124, u125, u126, u127, u128, u129, u130, u131, u132, u133, u134, u135, u136, u137, u138, u139, u140, u141, u142, u143, u144, u145, u146, u147, u148, u149, u150, u151, u152, u153, u154, u155, u156, u157, u158, u159, u160, u161, u162, u163, u164, u165, u166, u167, u168, u169, u170, u171, u172, u173, u174, u175, u176, u177, u178, u179, u180, u181, u182, u183, u184, u185, u186, u187, u188, u189, u190, u191, u192, u193, u194, u195, u196, u197], defers := [] } W := by
  have HK : Hid (KOk w f m neg An B3 K) := hK
  subst hqi
  have HQ : Hid (RnQ w B3 W v D) := hQ
  have HA : Hid (rdP f m neg Y = An) := hA
  have HP : Hid (∀ D n ng P, Y = some (D, n, ng, P) → Canon (strip (D.map (· - 48))) ∧ (strip (D.map (· - 48))).length ≤ 200 ∧ (-200000 ≤ scE n ng P ∧ scE n ng P ≤ 200000)) := hP
  subst hX
  clear hK hQ hA hP
  by_cases h1 : q < U.size
  · have h1' : (q : Int) < (U.size : Int) := by omega
    have hb8 : U[q].toNat < 256 := U[q].toNat_lt
    have wq : IntKind.i64.wrap ((q : Int) + 1) = (q : Int) + 1 := by rw [IntKind.wrap_i64]; omega
    by_cases h43 : (U[q].toNat : Int) = 43
    · have HYp : Hid (Y = pExp ((bz U.data.toList).drop (q + 1)) (bz D) n false []) := by show _ = _; rw [hY, bz_drop U _ h1, h43, pSgn_pl]
      simp only [Tryz.f13, selC, Option.getD_some]
      clear hY
      go_upto_region 38 with fail
      rename_i K1 a1
      have HK1 : Hid _ := a1
      clear a1
      go_wp2
      refine HK1.out _ _ ?_
      refine rn_pow _ ?_ w W f m neg An v B3 n U (q + 1) D Y K _ (by omega) false hU hn hDl HQ.out HA.out HP.out (by omega) HYp.out HK.out
      simp only [Tryz.f13, selC, Option.getD_some]
    · by_cases h45 : (U[q].toNat : Int) = 45
      · have HYp : Hid (Y = pExp ((bz U.data.toList).drop (q + 1)) (bz D) n true []) := by show _ = _; rw [hY, bz_drop U _ h1, h45, pSgn_mi]
        simp only [Tryz.f13, selC, Option.getD_some]
        clear hY
        go_upto_region 38 with fail
        rename_i K1 a1
        have HK1 : Hid _ := a1
        clear a1
        go_wp2
        refine HK1.out _ _ ?_
        refine rn_pow _ ?_ w W f m neg An v B3 n U (q + 1) D Y K _ (by omega) true hU hn hDl HQ.out HA.out HP.out (by omega) HYp.out HK.out
        simp only [Tryz.f13, selC, Option.getD_some]
      · have HYp : Hid (Y = pExp ((bz U.data.toList).drop q) (bz D) n false []) := by show _ = _; rw [hY, bz_drop U _ h1, pSgn_no _ _ _ _ h43 h45]
        have b43 : ((U[q].toNat : Int) == 43) = false := beq_eq_false_iff_ne.2 h43
        have b45 : ((U[q].toNat : Int) == 45) = false := beq_eq_false_iff_ne.2 h45
        simp only [Tryz.f13, selC, Option.getD_some]
        clear hY
        go_upto_region 38 with fail
        rename_i K1 a1
        have HK1 : Hid _ := a1
        clear a1
        go_wp2
        refine HK1.out _ _ ?_
        refine rn_pow _ ?_ w W f m neg An v B3 n U q D Y K _ (by omega) false hU hn hDl HQ.out HA.out HP.out hq HYp.out HK.out
        simp only [Tryz.f13, selC, Option.getD_some]
  · have h1' : ¬ (q : Int) < (U.size : Int) := by omega
    have HYp : Hid (Y = pExp ((bz U.data.toList).drop q) (bz D) n false []) := by show _ = _; rw [hY, bz_past U _ h1]; rfl
    simp only [Tryz.f13, selC, Option.getD_some]
    clear hY
    go_upto_region 38 with fail
    rename_i K1 a1
    have HK1 : Hid _ := a1
    clear a1
    go_wp2
    refine HK1.out _ _ ?_
    refine rn_pow _ ?_ w W f m neg An v B3 n U q D Y K _ (by omega) false hU hn hDl HQ.out HA.out HP.out hq HYp.out HK.out
    simp only [Tryz.f13, selC, Option.getD_some]
end Go.Proofs.YtdkpiofeidcffaaGreatDoor
