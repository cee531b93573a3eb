/-
  ReadNum of the model: behind its first loop.
-/
import Derived.Test.YtdkpiofeidcffaaGreatDoorRnx
import Derived.Test.YtdkpiofeidcffaaGreatDoorRng
import Derived.Deep.LoopGhost
namespace Go.Proofs.YtdkpiofeidcffaaGreatDoor
open Go.RowKit
set_option linter.unusedVariables false
set_option maxRecDepth 100000
set_option linter.unusedSimpArgs false
/-- What stands behind is a part of the code. -/
def KRest (p : List Nat) (Q : Exit → Act → World → Prop) (K : Act → World → Prop) : Prop := ∀ a w, (selC p ((Tryz.f13.body).getD .skip)).wp Tryz.prog Q a w → K a w
set_option maxRecDepth 100000 in
set_option maxHeartbeats 4000000 in
theorem rn_rest (X : Code) (hX : X = selC [1, 1, 1, 1, 1, 1, 1, 1, 1, 1, 1, 1] ((Tryz.f13.body).getD .skip)) (w W : World) (f m : Int) (hf : f = 64 ∨ f = 128) (neg : Bool) (An v : Value) (B3 : Nat) (n : Nat) (U : ByteArray) (q : Nat) (D : List UInt8) (Y : Prt) {u2 u3 u4 u5 u7 u8 u9 u10 u14 u17 u18 u19 u20 u21 u22 u23 u24 u25 u26 u27 u28 u29 u30 u31 u32 u33 u34 u35 u36 u37 u38 u39 u40 u41 u42 u43 u44 u45 u46 u47 u48 u49 u50 u51 u52 u53 u54 u55 u56 u57 u58 u59 u60 u61 u62 u63 u64 u65 u66 u67 u68 u69 u70 u71 u72 u73 u74 u75 u76 u77 u78 u79 u80 u81 u82 u83 u84 u85 u86 u87 u88 u89 u90 u91 u92 u93 u94 u95 u96 u97 u98 u99 u100 u101 u102 u103 u104 u105 u106 u107 u108 u109 u110 u111 u112 u113 u114 u115 u116 u117 u118 u119 u120 u121 u122 u123 u124 u125 u126 u127 u128 u129 u130 u131 u132 u133 u134 u135 u136 u137 u138 u139 u140 u141 u142 u143 u144 u145 u146 u147 u148 u149 u150 u151 u152 u153 u154 u155 u156 u157 u158 u159 u160 u161 u162 u163 u164 u165 u166 u167 u168 u169 u170 u171 u172 u173 u174 u175 u176 u177 u178 u179 u180 u181 u182 u183 u184 u185 u186 u187 u188 u189 u190 u191 u192 u193 u194 u195 u196 u197 : Value} (hU : U.size ≤ 200) (hn : n ≤ 200) (hDl : D.length ≤ 200) (hQ : RnQ w B3 W v D) (hA : rdP f m neg Y = An) (hP : ∀ D n ng P, Y = some (D, n, ng, P) → Canon (strip (D.map (· - 48))) ∧ (strip (D.map (· - 48))).length ≤ 200 ∧ (-200000 ≤ scE n ng P ∧ scE n ng P ≤ 200000))
    (hq : q ≤ U.size) (hY : Y = pMark ((bz U.data.toList).drop q) (bz D) n) :
    X.wp Tryz.prog (bodyPost Tryz.prog Tryz.f13 (RnP w An)) { tmps := #[.int .i64 f, .int .i64 m, u2, u3, u4, u5, .pointer (some ⟨w.heap.size, 0, none⟩), u7, u8, u9, u10, .string U, .bool neg, v, u14, .int .i64 (-(n : Int)), .int .i64 (q : Int), u17, u18, u19, u20, u21, u22, u23, u24, u25, u26, u27, u28, u29, u30, u31, u32, u33, u34, u35, u36, u37, u38, u39, u40, u41, u42, u43, u44, u45, u46, u47, u48, u49, u50, u51, u52, u53, u54, u55, u56, u57, u58, u59, u60, u61, u62, u63, u64, u65, u66, u67, u68, u69, u70, u71, u72, u73, u74, u75, u76, u77, u78, u79, u80, u81, u82, u83, u84, u85, u86, u87, u88, u89, u90, u91, u92, u93, u94, u95, u96, u97, u98, u99, u100, u101, u102, u103, u104, u105, u106, u107, u108, u109, u110, u111, u112, u113, u114, u115, u116, u117, u118, u119, u120, u121, u122, u123, u124, u125, u126, u127, u128, u129, u130, u131, u132, u133, u134, u135, u136, u137, u138, u139, u140, u141, u142, u143, u144, u145, u146, u147, u148, u149, u150, u151, u152, u153, u154, u155, u156, u157, u158, u159, u160, u161, u162, u163, u164, u165, u166, u167, u168, u169, u170, u171, u172, u173, u174, u175, u176, u177, u178, u179, u180, u181, u182, u183, u184, u185, u186, u187, u188, u189, u190, u191, u192, u193, u194, u195, u196, u197], defers := [] } W := by
  have HQ : Hid (RnQ w B3 W v D) := hQ
  have HA : Hid (rdP f m neg Y = An) := hA
  have HP : Hid (∀ D n ng P, Y = some (D, n, ng, P) → Canon (strip (D.map (· - 48))) ∧ (strip (D.map (· - 48))).length ≤ 200 ∧ (-200000 ≤ scE n ng P ∧ scE n ng P ≤ 200000)) := hP
  have HQ5 : Hid (At5 W w.heap.size (.int .i64 0) (.bool false) (.int .i64 0) (.string { data := #[] }) (.int .i64 0) ∧ Below w.heap.size w W) := ⟨hQ.2.1, hQ.2.2.1⟩
  have HF : Hid (f = 64 ∨ f = 128) := hf
  obtain ⟨va, vc, hv⟩ := hQ.1.form
  subst hX
  clear hQ hA hP hf
  by_cases hz : D = []
  · subst hz
    rw [List.length_nil] at hv
    subst hv
    have HAz : Hid (.tuple #[rsV 0 false 0 { data := #[] } 0, .bool false] = An) := by
      have h := HA.out
      rw [hY, show bz [] = [] from rfl, pMark_nil] at h
      exact h
    have hB := build_resZ
    clear hY HA HP hn HQ
    generalize hBP : bodyPost Tryz.prog Tryz.f13 (RnP w An) = BP
    simp only [Tryz.f13, selC, Option.getD_some]
    subst hBP
    refine wp_seq_k fun K0 a0 => ?_
    clear a0 hDl hU hq
    go_wp2_with (refine wpList_store_row rfl 30 (.tmp 6) (.tmp 110) rfl w.heap.size #[.int .i64 0, .bool false, .int .i64 0, .string { data := #[] }, .int .i64 0] rfl rfl _ _ HQ5.out.1 (by kernel_rfl) rfl (one5 _ _ _ _ _) ?_)
    have hP := (HQ5.out.1.row (.int .i64 0) (.bool false) (.int .i64 0) (.string { data := #[] }) (.int .i64 0)).cells
    (try simp only [Exit.inBlock, Exit.then])
    refine bodyPost_ret (results_rsb rfl _ _ rfl hP.1 hP.2.1 hP.2.2.1 hP.2.2.2.1 hP.2.2.2.2.1) rfl ?_
    exact ⟨congrArg Ending.returned HAz.out, bel_row HQ5.out.2 (Nat.le_refl _) _⟩
  have hDn0 : bz D ≠ [] := fun e => hz (List.length_eq_zero_iff.1 (by rw [← bz_len, e]; rfl))
  have HDn : Hid (bz D ≠ []) := hDn0
  obtain ⟨l, hl⟩ : ∃ l, D.length = l + 1 := ⟨D.length - 1, by have : D.length ≠ 0 := fun e => hz (List.length_eq_zero_iff.1 e); omega⟩
  rw [hl] at hv hDl
  subst hv
  have HDl : Hid (D.length ≤ 200) := by show _ ≤ _; omega
  have hl0 : (((l : Int) + 1) == 0) = false := beq_eq_false_iff_ne.2 (by omega)
  clear hz hDn0 hl
  generalize hBP : bodyPost Tryz.prog Tryz.f13 (RnP w An) = BP
  simp only [Tryz.f13, selC, Option.getD_some]
  subst hBP
  refine wp_seq_k fun K0 a0 => ?_
  have HK0 : KRest [1, 1, 1, 1, 1, 1, 1, 1, 1, 1, 1, 1, 1] (bodyPost Tryz.prog Tryz.f13 (RnP w An)) K0 := fun x y z => a0 x y (by simp only [Tryz.f13, selC, Option.getD_some] at z; exact z)
  clear a0
  go_wp2
  refine HK0 _ _ ?_
  generalize hBP : bodyPost Tryz.prog Tryz.f13 (RnP w An) = BP
  simp only [Tryz.f13, selC, Option.getD_some]
  subst hBP
  clear HK0 hl0
  refine wp_seq_k fun K5 a5 => ?_
  have HK5 : KRest [1, 1, 1, 1, 1, 1, 1, 1, 1, 1, 1, 1, 1, 1] (bodyPost Tryz.prog Tryz.f13 (RnP w An)) K5 := fun x y z => a5 x y (by simp only [Tryz.f13, selC, Option.getD_some] at z; exact z)
  clear a5
  by_cases hlt : q < U.size
  · have hlt' : (q : Int) < (U.size : Int) := by omega
    have hb8 : U[q].toNat < 256 := U[q].toNat_lt
    by_cases hE : (U[q].toNat : Int) = 69 ∨ (U[q].toNat : Int) = 101
    · have HY2 : Hid (Y = pSgn ((bz U.data.toList).drop (q + 1)) (bz D) n) := by show _ = _; rw [hY, bz_drop U q hlt, pMark_e2 _ _ _ _ HDn.out hE]
      have wq : IntKind.i64.wrap ((q : Int) + 1) = (q : Int) + 1 := by rw [IntKind.wrap_i64]; omega
      clear hY HDn
      rcases hE with hE | hE
      · skip
        go_upto_region 31 with fail
        rename_i K2 a2 K3 a3
        have HK2 : KRest [1, 1, 1, 1, 1, 1, 1, 1, 1, 1, 1, 1, 1, 0, 1, 2, 1] (Exit.then K5 (bodyPost Tryz.prog Tryz.f13 (RnP w An))) K2 := fun x y z => a2 x y (by simp only [Tryz.f13, selC, Option.getD_some] at z; exact z)
        clear a2
        go_wp2
        refine HK2 _ _ ?_
        generalize hBP : bodyPost Tryz.prog Tryz.f13 (RnP w An) = BP
        simp only [Tryz.f13, selC, Option.getD_some]
        subst hBP
        clear HK2
        go_upto_region 34 with fail
        rename_i K1 a1
        have HK1 : Hid _ := a1
        clear a1
        go_wp2
        refine HK1.out _ _ ?_
        refine rn_exp _ ?_ w W f m neg An _ B3 n U (q + 1) D Y K5 _ (by omega) hU hn HDl.out HQ.out HA.out HP.out (by omega) HY2.out ?_
        · simp only [Tryz.f13, selC, Option.getD_some]
        · unfold KOk
          intros
          refine HK5 _ _ ?_
          refine rn_end _ rfl w _ f m HF.out neg An _ B3 _ (by assumption)
      · skip
        go_upto_region 31 with fail
        rename_i K2 a2 K3 a3
        have HK2 : KRest [1, 1, 1, 1, 1, 1, 1, 1, 1, 1, 1, 1, 1, 0, 1, 2, 1] (Exit.then K5 (bodyPost Tryz.prog Tryz.f13 (RnP w An))) K2 := fun x y z => a2 x y (by simp only [Tryz.f13, selC, Option.getD_some] at z; exact z)
        clear a2
        go_wp2
        refine HK2 _ _ ?_
        generalize hBP : bodyPost Tryz.prog Tryz.f13 (RnP w An) = BP
        simp only [Tryz.f13, selC, Option.getD_some]
        subst hBP
        clear HK2
        go_upto_region 34 with fail
        rename_i K1 a1
        have HK1 : Hid _ := a1
        clear a1
        go_wp2
        refine HK1.out _ _ ?_
        refine rn_exp _ ?_ w W f m neg An _ B3 n U (q + 1) D Y K5 _ (by omega) hU hn HDl.out HQ.out HA.out HP.out (by omega) HY2.out ?_
        · simp only [Tryz.f13, selC, Option.getD_some]
        · unfold KOk
          intros
          refine HK5 _ _ ?_
          refine rn_end _ rfl w _ f m HF.out neg An _ B3 _ (by assumption)
    · have HAz : Hid (.tuple #[rsV 0 false 0 { data := #[] } 0, .bool false] = An) := by
        have h := HA.out
        rw [hY, bz_drop U q hlt, pMark_no _ _ _ _ hE] at h
        exact h
      have HE3 : Hid (((U[q].toNat : Int) != 69 && (U[q].toNat : Int) != 101) = true) := by
        show _ = _
        rw [bne_iff_ne.2 (fun e => hE (.inl e)), bne_iff_ne.2 (fun e => hE (.inr e))]
        rfl
      have hE1 : ¬ (U[q].toNat : Int) = 69 := fun e => hE (.inl e)
      have hE2 : ¬ (U[q].toNat : Int) = 101 := fun e => hE (.inr e)
      have hB := build_resZ
      clear HQ HA HP hY hE HDn HK5
      go_upto_region 31 with fail
      rename_i K2 a2 K3 a3
      clear a2
      go_upto_if 124 with fail
      refine wp_cond_true (congrArg Value.bool HE3.out) ?_
      clear HE3
      go_wp2_with (refine wpList_store_row rfl 30 (.tmp 6) (.tmp 125) rfl w.heap.size #[.int .i64 0, .bool false, .int .i64 0, .string { data := #[] }, .int .i64 0] rfl rfl _ _ HQ5.out.1 (by kernel_rfl) rfl (one5 _ _ _ _ _) ?_)
      have hP := (HQ5.out.1.row (.int .i64 0) (.bool false) (.int .i64 0) (.string { data := #[] }) (.int .i64 0)).cells
      (try simp only [Exit.inBlock, Exit.then])
      refine bodyPost_ret (results_rsb rfl _ _ rfl hP.1 hP.2.1 hP.2.2.1 hP.2.2.2.1 hP.2.2.2.2.1) rfl ?_
      exact ⟨congrArg Ending.returned HAz.out, bel_row HQ5.out.2 (Nat.le_refl _) _⟩
  · have hlt' : ¬ (q : Int) < (U.size : Int) := by omega
    have hYs : Y = some (bz D, n, false, []) := by rw [hY, bz_past U q hlt, pMark_end _ _ HDn.out]
    have hfin := HP.out _ _ _ _ hYs
    have hsc : scE n false [] = -(n : Int) := by unfold scE pe; simp
    have H4 : Hid (Rn4 w f m neg An B3 (.slice va (l + 1) vc) (-(n : Int)) W) := ⟨D, n, false, [], HQ.out, hsc.symm, by rw [← hYs]; exact HA.out, hfin.1, hfin.2.1, HDl.out, hfin.2.2⟩
    clear hYs hfin hsc hY HDn HP HA HQ
    go_wp2
    refine HK5 _ _ ?_
    exact rn_end _ rfl w _ f m HF.out neg An _ B3 _ H4.out
end Go.Proofs.YtdkpiofeidcffaaGreatDoor
