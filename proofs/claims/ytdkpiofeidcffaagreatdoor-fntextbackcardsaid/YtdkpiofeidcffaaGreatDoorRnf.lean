/-
  ReadNum of the model: frames, and its end.
-/
import Derived.Test.YtdkpiofeidcffaaGreatDoorRnx
import Derived.Test.YtdkpiofeidcffaaGreatDoorFinB
import Derived.Test.YtdkpiofeidcffaaGreatDoorTxt
import Derived.Test.YtdkpiofeidcffaaGreatDoorFcs
namespace Go.Proofs.YtdkpiofeidcffaaGreatDoor
open Go.RowKit
set_option linter.unusedVariables false
set_option maxRecDepth 100000
set_option linter.unusedSimpArgs false
/-- Ahead of the point nothing stands behind it. -/
def pZ (b : Bool) (n : Nat) : Prop := b = false → n = 0
/-- What the reading of digits keeps: the row of them, the answer's block. -/
def RnQ (w : World) (B3 : Nat) (wx : World) (v : Value) (D : List UInt8) : Prop :=
  RowC wx B3 v D ∧ At5 wx w.heap.size (.int .i64 0) (.bool false) (.int .i64 0) (.string { data := #[] }) (.int .i64 0) ∧ Below w.heap.size w wx ∧ w.heap.size + 1 ≤ B3 ∧ B3 ≤ wx.heap.size ∧ Dgs (bz D)
theorem rnQ_new {w w3 : World} (h : At5 w3 w.heap.size (.int .i64 0) (.bool false) (.int .i64 0) (.string { data := #[] }) (.int .i64 0)) (hb : Below w.heap.size w w3) : RnQ w w3.heap.size (w3.alloc (.cells #[] 5)) (.slice (some ⟨w3.heap.size, 0, none⟩) 0 0) [] :=
  ⟨rowC_nil w3, h.below ((Below.refl w3.heap.size w3).alloc (Nat.le_refl _) _) h.lt, hb.alloc hb.size _, h.lt, by simp, fun y hy => by cases hy⟩
theorem RnQ.more {w wr w4 : World} {B3 : Nat} {v v' : Value} {D : List UInt8} {c : UInt8} {o : Obj} (h : RnQ w B3 wr v D) (hown : w4.ownsRow B3 5 1 v' (D.length + 1) (bcs D ++ [.int .u8 (c.toNat : Int)])) (hg : (wr.alloc o).grownBy w4 v.ownBlock) (hc : 48 ≤ (c.toNat : Int) ∧ (c.toNat : Int) ≤ 57) : RnQ w B3 w4 v' (D ++ [c]) := by
  obtain ⟨h1, h2, h3, h4, h5, h6⟩ := h
  have hb : Below B3 wr w4 := Below.grown ((Below.refl B3 wr).alloc h5 o) hg (by simp; omega) (fun k hk => h1.own k hk)
  exact ⟨rowC_more (w := wr) (v := v) hown, h2.below hb (by omega), h3.trans (hb.mono (by omega)), h4, Nat.le_trans h5 hb.size, by rw [bz_more]; exact h6.more hc⟩
/-- What the whole tells. -/
def RnP (w : World) (An : Value) (e : Ending) (w' : World) : Prop := e = .returned An ∧ Below w.heap.size w w'
/-- At its end: the digits, the exponent, and that what they tell is the answer. -/
def Rn4 (w : World) (f m : Int) (neg : Bool) (An : Value) (B3 : Nat) (v : Value) (ex : Int) (W : World) : Prop :=
  ∃ (D : List UInt8) (n : Nat) (ng : Bool) (P : List Int), RnQ w B3 W v D ∧ ex = scE n ng P ∧ rdP f m neg (some (bz D, n, ng, P)) = An ∧ (Canon (strip ((bz D).map (· - 48))) ∧ (strip ((bz D).map (· - 48))).length ≤ 200 ∧ D.length ≤ 200 ∧ (-200000 ≤ scE n ng P ∧ scE n ng P ≤ 200000))
set_option maxRecDepth 100000 in
set_option maxHeartbeats 4000000 in
theorem rn_end (X : Code) (hX : X = selC [1, 1, 1, 1, 1, 1, 1, 1, 1, 1, 1, 1, 1, 1] ((Tryz.f13.body).getD .skip)) (w W : World) (f m : Int) (hf : f = 64 ∨ f = 128) (neg : Bool) (An v : Value) (B3 : Nat) (ex : Int) {u2 u3 u4 u5 u7 u8 u9 u10 u11 u14 u16 u17 u18 u19 u20 u21 u22 u23 u24 u25 u26 u27 u28 u29 u30 u31 u32 u33 u34 u35 u36 u37 u38 u39 u40 u41 u42 u43 u44 u45 u46 u47 u48 u49 u50 u51 u52 u53 u54 u55 u56 u57 u58 u59 u60 u61 u62 u63 u64 u65 u66 u67 u68 u69 u70 u71 u72 u73 u74 u75 u76 u77 u78 u79 u80 u81 u82 u83 u84 u85 u86 u87 u88 u89 u90 u91 u92 u93 u94 u95 u96 u97 u98 u99 u100 u101 u102 u103 u104 u105 u106 u107 u108 u109 u110 u111 u112 u113 u114 u115 u116 u117 u118 u119 u120 u121 u122 u123 u124 u125 u126 u127 u128 u129 u130 u131 u132 u133 u134 u135 u136 u137 u138 u139 u140 u141 u142 u143 u144 u145 u146 u147 u148 u149 u150 u151 u152 u153 u154 u155 u156 u157 u158 u159 u160 u161 u162 u163 u164 u165 u166 u167 u168 u169 u170 u171 u172 u173 u174 u175 u176 u177 u178 u179 u180 u181 u182 u183 u184 u185 u186 u187 u188 u189 u190 u191 u192 u193 u194 u195 u196 u197 : Value} (h : Rn4 w f m neg An B3 v ex W) :
    X.wp Tryz.prog (bodyPost Tryz.prog Tryz.f13 (RnP w An)) { tmps := #[.int .i64 f, .int .i64 m, u2, u3, u4, u5, .pointer (some ⟨w.heap.size, 0, none⟩), u7, u8, u9, u10, u11, .bool neg, v, u14, .int .i64 ex, u16, u17, u18, u19, u20, u21, u22, u23, u24, u25, u26, u27, u28, u29, u30, u31, u32, u33, u34, u35, u36, u37, u38, u39, u40, u41, u42, u43, u44, u45, u46, u47, u48, u49, u50, u51, u52, u53, u54, u55, u56, u57, u58, u59, u60, u61, u62, u63, u64, u65, u66, u67, u68, u69, u70, u71, u72, u73, u74, u75, u76, u77, u78, u79, u80, u81, u82, u83, u84, u85, u86, u87, u88, u89, u90, u91, u92, u93, u94, u95, u96, u97, u98, u99, u100, u101, u102, u103, u104, u105, u106, u107, u108, u109, u110, u111, u112, u113, u114, u115, u116, u117, u118, u119, u120, u121, u122, u123, u124, u125, u126, u127, u128, u129, u130, u131, u132, u133, u134, u135, u136, u137, u138, u139, u140, u141, u142, u143, u144, u145, u146, u147, u148, u149, u150, u151, u152, u153, u154, u155, u156, u157, u158, u159, u160, u161, u162, u163, u164, u165, u166, u167, u168, u169, u170, u171, u172, u173, u174, u175, u176, u177, u178, u179, u180, u181, u182, u183, u184, u185, u186, u187, u188, u189, u190, u191, u192, u193, u194, u195, u196, u197], defers := [] } W := by
  obtain ⟨D, n, ng, P, hQ, rfl, hA, hc1, hc2, hc3, hc4⟩ := h
  have hcv := hQ.1.conv
  have hdg := hQ.2.2.2.2.2
  have HQ5 : Hid (At5 W w.heap.size (.int .i64 0) (.bool false) (.int .i64 0) (.string { data := #[] }) (.int .i64 0) ∧ Below w.heap.size w W) := ⟨hQ.2.1, hQ.2.2.1⟩
  have HSt : Hid (∀ X, Calls Tryz.prog 40 #[.string ⟨D.toArray⟩] X fun e w' => e = .returned (.string (tx (strip ((bz D).map (· - 48))))) ∧ w' = X) := fun X => by
    rw [txz_bytes D hdg]
    exact l10Strip_any _ X (dec_bytes D hdg) (by rw [List.length_map, bz_len]; omega)
  have HFi : Hid (∀ X, Calls Tryz.prog 39 #[.int .i64 f, .int .i64 m, .bool neg, .string (tx (strip ((bz D).map (· - 48)))), .int .i64 (scE n ng P), .bool false, .int .i64 (scE n ng P)] X fun x w' => x = .returned (rsD neg (finD f m neg (strip ((bz D).map (· - 48))) (scE n ng P) false (scE n ng P))) ∧ Below X.heap.size X w') := fun X => fin_ok f m hf neg _ _ false _ X hc1 hc2 hc4 hc4
  have HA : Hid (rdP f m neg (some (bz D, n, ng, P)) = An) := hA
  simp only [rdP] at HA
  obtain ⟨Fz, hFz⟩ : ∃ Fz, finD f m neg (strip ((bz D).map (· - 48))) (scE n ng P) false (scE n ng P) = Fz := ⟨_, rfl⟩
  rw [hFz] at HFi HA
  clear hFz hA hQ hdg hc1 hc2 hc3 hc4
  generalize tx (strip ((bz D).map (· - 48))) = T at *
  generalize scE n ng P = ex at *
  obtain ⟨F1, F2, F3, F4⟩ := Fz
  subst hX
  simp only [Tryz.f13, selC, Option.getD_some]
  go_wp2_with fail
  refine (HSt.out _).mono ?_
  rintro e w1 ⟨rfl, hw⟩
  subst hw
  go_wp2_with fail
  refine (HFi.out _).mono ?_
  rintro x w2 ⟨rfl, hb⟩
  have HQ6 : Hid (At5 w2 w.heap.size (.int .i64 0) (.bool false) (.int .i64 0) (.string { data := #[] }) (.int .i64 0) ∧ Below w.heap.size w w2) := ⟨HQ5.out.1.below hb HQ5.out.1.lt, HQ5.out.2.trans (hb.mono HQ5.out.2.size)⟩
  clear hb HQ5 HFi HSt hcv
  go_wp2_with (refine wpList_store_row rfl 30 (.tmp 6) (.tmp 197) rfl w.heap.size #[.int .i64 F1, .bool neg, .int .i64 F2, .string F3, .int .i64 F4] rfl rfl _ _ HQ6.out.1 (by kernel_rfl) rfl (one5 _ _ _ _ _) ?_)
  have hP := (HQ6.out.1.row (.int .i64 F1) (.bool neg) (.int .i64 F2) (.string F3) (.int .i64 F4)).cells
  (try simp only [Exit.inBlock, Exit.then])
  refine bodyPost_ret (results_rsb rfl _ _ rfl hP.1 hP.2.1 hP.2.2.1 hP.2.2.2.1 hP.2.2.2.2.1) rfl ?_
  exact ⟨congrArg Ending.returned HA.out, bel_row HQ6.out.2 (Nat.le_refl _) _⟩
end Go.Proofs.YtdkpiofeidcffaaGreatDoor
