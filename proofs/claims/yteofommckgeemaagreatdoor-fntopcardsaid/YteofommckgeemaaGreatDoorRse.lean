/-
  The reader of texts: readScaled's labels, further.
-/
import Derived.Deep.DeepCutAuto
import Derived.Test.YteofommckgeemaaGreatDoorRsa
import Derived.Test.YteofommckgeemaaGreatDoorLbl
import Derived.Test.YteofommckgeemaaGreatDoorQtl
import Derived.Test.YteofommckgeemaaGreatDoorCls
namespace Go.Proofs.YteofommckgeemaaGreatDoor
open Go.RowKit
set_option linter.unusedVariables false
set_option maxRecDepth 100000
set_option linter.unusedSimpArgs false
/-- What readScaled tells of what was parsed. -/
def scE (n : Nat) (neg : Bool) (P : List Int) : Int := (if neg then -pe P else pe P) - (n : Int)
def rsVal : Prt → Value
  | none => .tuple #[.agg #[.string { data := #[] }, .int .i64 0], .bool false]
  | some (D, n, neg, P) => .tuple #[.agg #[.string (tx (strip (D.map (· - 48)))), .int .i64 (scE n neg P)], .bool true]
def RsQ (w0 : World) (B : Nat) (X : Prt) (e : Ending) (w' : World) : Prop := e = .returned (rsVal X) ∧ Below B w0 w'
theorem results_scb {fn : Func} {p t : Tmp} {b : Nat} {x y : Value} (h : fn.results = #[.cell p 192, .tmp t]) (tmps : Array Value) (w : World) (hp : tmps[p]?.getD undef = .pointer (some ⟨b, 0, none⟩)) (h1 : w.cell? ⟨b, 0, none⟩ = some x) (h2 : w.cell? ⟨b, 1, none⟩ = some y) : (results fn tmps).run Tryz.prog w = .ok (.tuple #[.agg #[x, y], tmps.getD t undef]) w := by
  simp [results, h, hp, go_sem, h1, h2]
theorem rsA_cells {s : Nat} {W : World} (h : RsA s W) : W.cell? ⟨s, 0, none⟩ = some (.string { data := #[] }) ∧ W.cell? ⟨s, 1, none⟩ = some (.int .i64 0) ∧ W.frozen? ⟨s, 0, none⟩ = false ∧ W.frozen? ⟨s, 1, none⟩ = false := by
  unfold RsA at h
  refine ⟨?_, ?_, ?_, ?_⟩
  · unfold World.cell?; simp only [h]; rfl
  · unfold World.cell?; simp only [h]; rfl
  · unfold World.frozen?; simp only [h]; rfl
  · unfold World.frozen?; simp only [h]; rfl
set_option maxRecDepth 100000 in
set_option maxHeartbeats 4000000 in
theorem rs3 (c : Code) (hc : ∃ r, Tryz.f228.body = some (.seq r (.scope c))) (X : Code) (hX : findLabel c 3 = some (Code.skip.seq X)) (w0 : World) (B s rb g : Nat) (R : List Int) (Y : Prt) (M m : Nat) (hM : m ≤ M) (a : Act) (W : World) (h : RsJ w0 B s rb g R Y m 3 a W) :
    X.wp Tryz.prog (jmpE (fun l' a' w' => ∃ m', m' < M ∧ RsJ w0 B s rb g R Y m' l' a' w') (bodyPost Tryz.prog Tryz.f228 (RsQ w0 B Y))) a W := by
  obtain ⟨off, n, neg, hA, hB, hBs, rfl, ⟨u1, u3, u8, u9, u10, u11, u12, u13, u14, u15, u16, u17, u18, u19, u20, u21, u22, u23, u24, u25, u26, u27, u28, u29, u30, u31, u32, u33, u34, u35, u36, u37, u38, u39, u40, u41, u42, u43, u44, u45, u46, u47, u48, u49, u50, u51, u52, u53, rfl⟩, -⟩ := h
  have HC : Hid (∃ r, Tryz.f228.body = some (.seq r (.scope c))) := hc
  obtain ⟨r, hr⟩ := hc
  simp only [Tryz.f228, Option.some.injEq, Code.seq.injEq, Code.scope.injEq] at hr
  obtain ⟨-, rfl⟩ := hr
  simp only [findLabel, Nat.reduceBEq, Bool.false_eq_true, if_false, if_true, Option.getD_some, BEq.rfl, ↓reduceIte, Option.some.injEq, Code.seq.injEq] at hX
  obtain ⟨-, rfl⟩ := hX
  obtain ⟨d0, d1, f0, f1⟩ := rsA_cells hA
  have HB : Hid (Below B w0 W ∧ B ≤ s) := ⟨hB, hBs⟩
  clear hA hB hBs hM HC
  go_wp2
  refine bodyPost_ret (results_scb (x := .string { data := #[] }) (y := .int .i64 0) rfl _ _ rfl ?_ ?_) rfl ?_
  · rw [World.cell?_setCell_other _ _ _ _ (by simp)]
    exact World.cell?_setCell_same _ _ _ d0
  · exact World.cell?_setCell_same _ _ _ (by rw [World.cell?_setCell_other _ _ _ _ (by simp)]; exact d1)
  · exact ⟨rfl, (HB.out.1.setCell HB.out.2 _).setCell HB.out.2 _⟩
set_option maxRecDepth 100000 in
set_option maxHeartbeats 4000000 in
theorem rs4 (c : Code) (hc : ∃ r, Tryz.f228.body = some (.seq r (.scope c))) (X : Code) (hX : findLabel c 4 = some (Code.skip.seq X)) (w0 : World) (B s rb g : Nat) (R : List Int) (Y : Prt) (M m : Nat) (hM : m ≤ M) (a : Act) (W : World) (h : RsJ w0 B s rb g R Y m 4 a W) :
    X.wp Tryz.prog (jmpE (fun l' a' w' => ∃ m', m' < M ∧ RsJ w0 B s rb g R Y m' l' a' w') (bodyPost Tryz.prog Tryz.f228 (RsQ w0 B Y))) a W := by
  obtain ⟨off, D, n, neg, Pw, hN, hY, hn, ⟨u1, u3, u8, u9, u10, u11, u12, u13, u14, u15, u16, u17, u18, u19, u20, u21, u22, u23, u24, u25, u26, u27, u28, u29, u30, u31, u32, u33, u34, u35, u36, u37, u38, u39, u40, u41, u42, u43, u44, u45, u46, u47, u48, u49, u50, u51, u52, u53, rfl⟩, hm⟩ := h
  have HC : Hid (∃ r, Tryz.f228.body = some (.seq r (.scope c))) := hc
  obtain ⟨r, hr⟩ := hc
  simp only [Tryz.f228, Option.some.injEq, Code.seq.injEq, Code.scope.injEq] at hr
  obtain ⟨-, rfl⟩ := hr
  simp only [findLabel, Nat.reduceBEq, Bool.false_eq_true, if_false, if_true, Option.getD_some, BEq.rfl, ↓reduceIte, Option.some.injEq, Code.seq.injEq] at hX
  obtain ⟨-, rfl⟩ := hX
  obtain ⟨hR, ⟨v, b1, hv, hown⟩, ⟨v2, b2, hv2, hown2⟩, hA, hB, ⟨q1, q2, q3, q4, q5, q6, q7⟩⟩ := hN
  obtain ⟨⟨h1, h3⟩, ⟨⟨o, cp, hc0, -, -⟩, -⟩, -⟩ := hR
  by_cases h0 : off < R.length
  · have HJ : Hid (∀ a, RsF s rb n neg a → RsJ w0 B s rb g R Y (10 * (R.length - off) + 1) 3 a W) := fun a ha => ⟨off, n, neg, hA, hB, q6, by rw [hY, pEnd_no _ _ _ _ h0], ha, rfl⟩
    have HM : Hid (10 * (R.length - off) + 1 ≤ M) := by show _ ≤ _; omega
    obtain ⟨z, hz⟩ : ∃ z, R.length - off = z + 1 := ⟨R.length - off - 1, by omega⟩
    rw [hz] at hc0
    have hz1 : z ≤ 1000 := by omega
    clear hA hB hY q1 q2 q3 q4 q5 q6 q7 hv hown hv2 hown2 hm hM h1 h3 h0 hn
    clear hz
    go_wp2
    refine wp_label ?_
    go_step
    go_step
    refine rs3 _ HC.out _ (by (simp only [findLabel, Nat.reduceBEq, Bool.false_eq_true, if_false, if_true, Option.getD_some, BEq.rfl, ↓reduceIte]) <;> rfl) w0 B s rb g R Y M _ HM.out _ W (HJ.out _ ?_)
    exact ⟨_, _, _, _, _, _, _, _, _, _, _, _, _, _, _, _, _, _, _, _, _, _, _, _, _, _, _, _, _, _, _, _, _, _, _, _, _, _, _, _, _, _, _, _, _, _, _, _, rfl⟩
  · have e0 : R.length - off = 0 := by omega
    rw [e0] at hc0
    rw [pEnd_yes _ _ _ _ h0] at hY
    subst hY
    obtain ⟨d0, d1, f0, f1⟩ := rsA_cells hA
    have hs2 : s < W.heap.size := by omega
    have HA : Hid (RsA s W) := hA
    have HB : Hid (Below B w0 W ∧ B ≤ s ∧ s < W.heap.size) := ⟨hB, q6, hs2⟩
    have HEx : Hid (∀ X', Below W.heap.size W X' → Calls Tryz.prog 269 #[.bool neg, v2] X' fun e w' => e = .returned (.int .i64 (if neg then -pe Pw else pe Pw)) ∧ w' = X') := fun X' hX' => exponentOf_any neg v2 Pw b2 X' (own_blk hown2 (fun k hk => hX'.block k (own_lt hown2 k hk).2)) q5 q3
    have hpe := pe_bd Pw q5
    have hpl : (10 : Int) ^ Pw.length ≤ 10 ^ 5 := by
      have := Nat.pow_le_pow_right (show 0 < 10 by decide) q3
      exact_mod_cast this
    obtain ⟨ex, hex⟩ : ∃ ex, (if neg then -pe Pw else pe Pw) = ex := ⟨_, rfl⟩
    have hexb : -100000 ≤ ex ∧ ex ≤ 100000 := by
      rw [← hex]
      split <;> omega
    have hsce : scE n neg Pw = ex - (n : Int) := by unfold scE; rw [hex]
    rw [hex] at HEx
    have HSc : Hid (∀ X', Below W.heap.size W X' → Calls Tryz.prog 268 #[v, .int .i64 (ex - (n : Int))] X' fun e w' => e = .returned (.agg #[.string (tx (strip (D.map (· - 48)))), .int .i64 (ex - (n : Int))]) ∧ Below X'.heap.size X' w') := fun X' hX' => scaledBy_any v D b1 (ex - (n : Int)) X' (own_blk hown (fun k hk => hX'.block k (own_lt hown k hk).2)) q4 q2 q1
    have hld : ∀ X', Below W.heap.size W X' → X'.cell? ⟨s + 1, 0, none⟩ = some v := fun X' hX' => (hX'.cell (p := ⟨s + 1, 0, none⟩) (by show s + 1 < _; omega)).trans hv
    have hld2 : ∀ X', Below W.heap.size W X' → X'.cell? ⟨s + 2, 0, none⟩ = some v2 := fun X' hX' => (hX'.cell (p := ⟨s + 2, 0, none⟩) (by show s + 2 < _; omega)).trans hv2
    have HL : Hid (∀ X', Below W.heap.size W X' → X'.cell? ⟨s + 1, 0, none⟩ = some v ∧ X'.cell? ⟨s + 2, 0, none⟩ = some v2) := fun X' hX' => ⟨hld X' hX', hld2 X' hX'⟩
    have wk : IntKind.i64.wrap (ex - (n : Int)) = ex - (n : Int) := by rw [IntKind.wrap_i64]; omega
    have HQ : Hid (rsVal (some (D, n, neg, Pw)) = .tuple #[.agg #[.string (tx (strip (D.map (· - 48)))), .int .i64 (ex - (n : Int))], .bool true]) := congrArg (fun z => Value.tuple #[Value.agg #[.string (tx (strip (D.map (· - 48)))), .int .i64 z], .bool true]) hsce
    obtain ⟨T, hT⟩ : ∃ T, tx (strip (D.map (· - 48))) = T := ⟨_, rfl⟩
    rw [hT] at HSc HQ
    generalize hV : rsVal (some (D, n, neg, Pw)) = V at *
    have HV : Hid (∀ e w', e = .returned V → Below B w0 w' → RsQ w0 B (some (D, n, neg, Pw)) e w') := fun e w' q1 q2 => ⟨by rw [q1]; exact congrArg _ hV.symm, q2⟩
    clear hsce hpe hpl hex hld hld2 hA hB q1 q2 q4 q5 q6 q7 hown hown2 hm hM h1 h3 h0 hn e0
    go_upto_region 13 with fail
    have HX0 : Hid (Below W.heap.size W W.drew) := (Below.refl _ _).drew
    refine wp_region_tail (C := fun W' => Below W.heap.size W W') 7 (by kernel_rfl) (by kernel_rfl) HX0.out ?_
    simp only [List.take_succ_cons, List.take_zero, List.drop_succ_cons, List.drop_zero]
    repeat (refine wpQuiet_step (fun K hK => ?_); go_simp; first | (refine hK _ ?_; clear hK K) | (apply Exists.intro; refine ⟨fun wx hC => ?_, hK _ ?_⟩; (first | exact rfl | ((with_reducible refine (HEx.out wx hC).mono ?_); rintro e w' ⟨rfl, rfl⟩; exact ⟨rfl, hC⟩) | ((with_reducible refine (HSc.out wx hC).mono ?_); rintro e w' ⟨rfl, hb⟩; exact ⟨rfl, hC.trans (hb.mono hC.size)⟩) | (have k1 := (HL.out wx hC).1; have k2 := (HL.out wx hC).2; go_simp; exact rfl)); clear hK K))
    refine wpQuiet_nil ?_
    intro w1 hb1'
    have HB1 : Hid (Below B w0 w1 ∧ B ≤ s) := ⟨HB.out.1.trans (hb1'.mono (by have := HB.out; omega)), HB.out.2.1⟩
    obtain ⟨d0, d1, f0, f1⟩ := rsA_cells (show RsA s w1 from (hb1'.block s HB.out.2.2).trans HA.out)
    clear hb1' HX0 HB HEx HSc HL HA
    go_wp2
    refine bodyPost_ret (results_scb (x := .string T) (y := .int .i64 (ex - (n : Int))) rfl _ _ rfl ?_ ?_) rfl ?_
    · rw [World.cell?_setCell_other _ _ _ _ (by simp)]
      exact World.cell?_setCell_same _ _ _ d0
    · exact World.cell?_setCell_same _ _ _ (by rw [World.cell?_setCell_other _ _ _ _ (by simp)]; exact d1)
    · exact HV.out _ _ (by rw [HQ.out]; rfl) ((HB1.out.1.setCell HB1.out.2 _).setCell HB1.out.2 _)
end Go.Proofs.YteofommckgeemaaGreatDoor
namespace Go.Proofs.YteofommckgeemaaGreatDoor
open Go.RowKit
set_option linter.unusedVariables false
set_option maxRecDepth 100000
set_option linter.unusedSimpArgs false
set_option maxRecDepth 100000 in
set_option maxHeartbeats 4000000 in
theorem rs5 (c : Code) (hc : ∃ r, Tryz.f228.body = some (.seq r (.scope c))) (X : Code) (hX : findLabel c 5 = some (Code.skip.seq X)) (w0 : World) (B s rb g : Nat) (R : List Int) (Y : Prt) (M m : Nat) (hM : m ≤ M) (a : Act) (W : World) (h : RsJ w0 B s rb g R Y m 5 a W) :
    X.wp Tryz.prog (jmpE (fun l' a' w' => ∃ m', m' < M ∧ RsJ w0 B s rb g R Y m' l' a' w') (bodyPost Tryz.prog Tryz.f228 (RsQ w0 B Y))) a W := by
  obtain ⟨off, D, n, neg, Pw, hE, hY, hn, ⟨u1, u3, u8, u9, u10, u11, u12, u13, u14, u15, u16, u17, u18, u19, u20, u21, u22, u23, u24, u25, u26, u27, u28, u29, u30, u31, u32, u33, u34, u35, u36, u37, u38, u39, u40, u41, u42, u43, u44, u45, u46, u47, u48, u49, u50, u51, u52, u53, rfl⟩, hm⟩ := h
  have HC : Hid (∃ r, Tryz.f228.body = some (.seq r (.scope c))) := hc
  obtain ⟨r, hr⟩ := hc
  simp only [Tryz.f228, Option.some.injEq, Code.seq.injEq, Code.scope.injEq] at hr
  obtain ⟨-, rfl⟩ := hr
  simp only [findLabel, Nat.reduceBEq, Bool.false_eq_true, if_false, if_true, Option.getD_some, BEq.rfl, ↓reduceIte, Option.some.injEq, Code.seq.injEq] at hX
  obtain ⟨-, rfl⟩ := hX
  have HE : Hid (RsE w0 W B s rb g off R D Pw) := hE
  obtain ⟨⟨b2, k0, hT, ⟨v, hv, hown, hlt⟩⟩, hA, hB, ⟨q1, q2, q3, q4, q5, q6, q7, q8⟩⟩ := hE
  by_cases hd : off < R.length ∧ 48 ≤ R.getD off 0 ∧ R.getD off 0 ≤ 57
  · have hl : R.length ≤ 1000 := hT.1.1.2
    have HT : Hid (Calls Tryz.prog 267 #[.pointer (some ⟨rb, 0, none⟩), .pointer (some ⟨s + 2, 0, none⟩)] W fun e w' => e = .returned (.bool true) ∧ TDg w' B rb g (s + 2) b2 R (off + 1) (Pw ++ [R.getD off 0]) ∧ Below B W w' ∧ ∀ k, k < b2 → k ≠ rb → k ≠ s + 2 → w'.heap[k]? = W.heap[k]?) := takesDigit_yes B rb g (s + 2) b2 R off Pw W hT hd.1 _ rfl hd.2 (by omega)
    have HJ : Hid (∀ W', TDg W' B rb g (s + 2) b2 R (off + 1) (Pw ++ [R.getD off 0]) → Below B W W' → (∀ k, k < b2 → k ≠ rb → k ≠ s + 2 → W'.heap[k]? = W.heap[k]?) → ∀ a, RsF s rb n neg a → ∃ m', m' < M ∧ RsJ w0 B s rb g R Y m' 5 a W') := fun W' p1 p2 p3 a ha =>
      ⟨10 * (R.length - (off + 1)) + 3, by omega, off + 1, D, n, neg, Pw ++ [R.getD off 0], HE.out.grow k0 hv hown hlt p1 hd.2 p2 p3, by rw [hY, pExp_dig _ _ _ _ hd.1 hd.2], by omega, ha, rfl⟩
    clear hT hv hown hlt hA hB q1 q2 q3 q4 q5 q6 q7 q8 hY hn hm hM hl HE hd k0 HC
    go_wp2_with fail
    refine HT.out.mono ?_
    rintro e w1 ⟨rfl, p1, p2, p3⟩
    have HJ2 := HJ.out w1 p1 p2 p3
    have HJ3 : Hid (∀ a, RsF s rb n neg a → ∃ m', m' < M ∧ RsJ w0 B s rb g R Y m' 5 a w1) := HJ2
    clear HJ2 HJ p1 p2 p3 HT
    go_wp2
    refine wp_goto ?_
    try simp only [Exit.then, jmpE]
    exact HJ3.out _ ⟨_, _, _, _, _, _, _, _, _, _, _, _, _, _, _, _, _, _, _, _, _, _, _, _, _, _, _, _, _, _, _, _, _, _, _, _, _, _, _, _, _, _, _, _, _, _, _, _, rfl⟩
  · have HT : Hid (Calls Tryz.prog 267 #[.pointer (some ⟨rb, 0, none⟩), .pointer (some ⟨s + 2, 0, none⟩)] W fun e w' => e = .returned (.bool false) ∧ w' = W) := takesDigit_no B rb g (s + 2) b2 R off Pw W hT hd
    have hY2 : Y = pFin (R.drop off) D n neg Pw := by rw [hY, pExp_on _ _ _ _ hd]
    have hPl : Pw.length ≤ 1000 := by have := hT.1.1; omega
    obtain ⟨-, ⟨v2, hv2, hown2⟩, -⟩ := hT
    obtain ⟨pa, pc, rfl, -⟩ := r32_form hown2
    by_cases hz : Pw.length = 0 ∨ 5 < Pw.length
    · have HJ : Hid (∀ a, RsF s rb n neg a → ∃ m', m' < M ∧ RsJ w0 B s rb g R Y m' 3 a W) := fun a ha => ⟨10 * (R.length - off) + 1, by omega, off, n, neg, hA, hB, by omega, by rw [hY2, pFin_no _ _ _ _ _ hz], ha, rfl⟩
      generalize Pw.length = l at *
      clear hv hown hown2 hlt hA hB q1 q2 q3 q4 q5 q6 q7 q8 hY hY2 hn hm hM HE hd k0 HC
      rcases Nat.eq_zero_or_pos l with rfl | hp
      · clear hz
        go_wp2_with fail
        refine HT.out.mono ?_
        rintro e w1 ⟨rfl, hw⟩
        subst hw
        go_wp2
        refine wp_goto ?_
        try simp only [Exit.then, jmpE]
        exact HJ.out _ ⟨_, _, _, _, _, _, _, _, _, _, _, _, _, _, _, _, _, _, _, _, _, _, _, _, _, _, _, _, _, _, _, _, _, _, _, _, _, _, _, _, _, _, _, _, _, _, _, _, rfl⟩
      · have hl5 : 5 < (l : Int) := by omega
        have hl0 : ((l : Int) == 0) = false := beq_eq_false_iff_ne.2 (by omega)
        have hl0' : ¬ (l : Int) = 0 := by omega
        clear hz hp
        go_wp2_with fail
        refine HT.out.mono ?_
        rintro e w1 ⟨rfl, hw⟩
        subst hw
        go_wp2
        refine wp_goto ?_
        try simp only [Exit.then, jmpE]
        exact HJ.out _ ⟨_, _, _, _, _, _, _, _, _, _, _, _, _, _, _, _, _, _, _, _, _, _, _, _, _, _, _, _, _, _, _, _, _, _, _, _, _, _, _, _, _, _, _, _, _, _, _, _, rfl⟩
    · have h5 : Pw.length ≤ 5 := by omega
      have h0 : ¬ Pw.length = 0 := by omega
      have HJ : Hid (∀ a, RsF s rb n neg a → RsJ w0 B s rb g R Y (10 * (R.length - off) + 2) 4 a W) := fun a ha => ⟨off, D, n, neg, Pw, HE.out.done h5, by rw [hY2, pFin_on _ _ _ _ _ h0 h5], by have := HE.out.1; obtain ⟨_, _, hT', _⟩ := this; have := hT'.1.1; omega, ha, rfl⟩
      have HM : Hid (10 * (R.length - off) + 2 ≤ M) := by show _ ≤ _; omega
      obtain ⟨l, hl⟩ : ∃ l, Pw.length = l + 1 := ⟨Pw.length - 1, by omega⟩
      rw [hl] at hv2 h5
      have hl5 : ¬ 5 < ((l : Int) + 1) := by omega
      have hl0 : (((l : Int) + 1) == 0) = false := beq_eq_false_iff_ne.2 (by omega)
      clear hv hown hown2 hlt hA hB q1 q2 q3 q4 q5 q6 q7 q8 hY hY2 hn hm hM HE hd k0 hz h0 hPl hl
      go_wp2_with fail
      refine HT.out.mono ?_
      rintro e w1 ⟨rfl, hw⟩
      subst hw
      go_wp2
      refine wp_label ?_
      go_step
      go_step
      refine rs4 _ HC.out _ (by (simp only [findLabel, Nat.reduceBEq, Bool.false_eq_true, if_false, if_true, Option.getD_some, BEq.rfl, ↓reduceIte]) <;> rfl) w0 B s rb g R Y M _ HM.out _ _ (HJ.out _ ?_)
      exact ⟨_, _, _, _, _, _, _, _, _, _, _, _, _, _, _, _, _, _, _, _, _, _, _, _, _, _, _, _, _, _, _, _, _, _, _, _, _, _, _, _, _, _, _, _, _, _, _, _, rfl⟩
end Go.Proofs.YteofommckgeemaaGreatDoor
namespace Go.Proofs.YteofommckgeemaaGreatDoor
open Go.RowKit
set_option linter.unusedVariables false
set_option maxRecDepth 100000
set_option linter.unusedSimpArgs false
set_option maxRecDepth 100000 in
set_option maxHeartbeats 4000000 in
theorem rs1 (c : Code) (hc : ∃ r, Tryz.f228.body = some (.seq r (.scope c))) (X : Code) (hX : findLabel c 1 = some (Code.skip.seq X)) (w0 : World) (B s rb g : Nat) (R : List Int) (Y : Prt) (M m : Nat) (hM : m ≤ M) (a : Act) (W : World) (h : RsJ w0 B s rb g R Y m 1 a W) :
    X.wp Tryz.prog (jmpE (fun l' a' w' => ∃ m', m' < M ∧ RsJ w0 B s rb g R Y m' l' a' w') (bodyPost Tryz.prog Tryz.f228 (RsQ w0 B Y))) a W := by
  obtain ⟨off, D, n, hD, hY, hn, ⟨u1, u3, u8, u9, u10, u11, u12, u13, u14, u15, u16, u17, u18, u19, u20, u21, u22, u23, u24, u25, u26, u27, u28, u29, u30, u31, u32, u33, u34, u35, u36, u37, u38, u39, u40, u41, u42, u43, u44, u45, u46, u47, u48, u49, u50, u51, u52, u53, rfl⟩, hm⟩ := h
  have HC : Hid (∃ r, Tryz.f228.body = some (.seq r (.scope c))) := hc
  obtain ⟨r, hr⟩ := hc
  simp only [Tryz.f228, Option.some.injEq, Code.seq.injEq, Code.scope.injEq] at hr
  obtain ⟨-, rfl⟩ := hr
  simp only [findLabel, Nat.reduceBEq, Bool.false_eq_true, if_false, if_true, Option.getD_some, BEq.rfl, ↓reduceIte, Option.some.injEq, Code.seq.injEq] at hX
  obtain ⟨-, rfl⟩ := hX
  have HD : Hid (RsD w0 W B s rb g off R D) := hD
  obtain ⟨hT, hA, hP, hB, ⟨q1, q2, q3, q4, q5⟩⟩ := hD
  have hR := hT.1
  obtain ⟨-, ⟨v, hv, hown⟩, -⟩ := hT
  obtain ⟨va, vc, rfl, -⟩ := r32_form hown
  have hlen : off ≤ R.length ∧ R.length ≤ 1000 := hR.1
  by_cases hz : D = []
  · subst hz
    have HJ : Hid (∀ a, RsF s rb n false a → ∃ m', m' < M ∧ RsJ w0 B s rb g R Y m' 3 a W) := fun a ha => ⟨10 * (R.length - off) + 1, by omega, off, n, false, hA, hB, by omega, by rw [hY, pMark_nil], ha, rfl⟩
    rw [List.length_nil] at hv
    clear hown hA hB hP q1 q2 q3 q4 q5 hY hn hm hM HD HC hR hlen
    go_wp2
    refine wp_goto ?_
    try simp only [Exit.then, jmpE]
    exact HJ.out _ ⟨_, _, _, _, _, _, _, _, _, _, _, _, _, _, _, _, _, _, _, _, _, _, _, _, _, _, _, _, _, _, _, _, _, _, _, _, _, _, _, _, _, _, _, _, _, _, _, _, rfl⟩
  · have HDp : Hid (0 < D.length) := List.length_pos_iff.2 hz
    have HDn : Hid (D ≠ []) := hz
    have HY : Hid (Y = pMark (R.drop off) D n) := hY
    have HN : Hid (n ≤ off ∧ (M ≥ 10 * (R.length - off) + 4 ∧ off ≤ 1000)) := ⟨hn, by omega, by omega⟩
    have HT : Hid (∀ x, Calls Tryz.prog 264 #[.pointer (some ⟨rb, 0, none⟩), .int .i32 x] W fun e w' => (off < R.length ∧ R.getD off 0 = x ∧ e = .returned (.bool true) ∧ RDr w' rb g R (off + 1) ∧ W.grownBy w' (some rb)) ∨ ((off < R.length → R.getD off 0 ≠ x) ∧ e = .returned (.bool false) ∧ w' = W)) := fun x => takes_any rb g R off x W hR
    obtain ⟨l, hl⟩ : ∃ l, D.length = l + 1 := ⟨D.length - 1, by have := HDp.out; omega⟩
    rw [hl] at hv
    have hl0 : (((l : Int) + 1) == 0) = false := beq_eq_false_iff_ne.2 (by omega)
    have hl2 : l ≤ 1000 := by omega
    clear hown hA hB hP q1 q2 q3 q4 q5 hY hn hm hM hz hl hR hlen
    go_wp2_with fail
    refine (HT.out 69).mono ?_
    rintro e w1 (⟨p1, p2, rfl, p4, p5⟩ | ⟨p1, rfl, hw⟩)
    · have HD1 : Hid (RsD w0 w1 B s rb g (off + 1) R D) := HD.out.took p4 p5 (by omega)
      have hc1 : R.getD off 0 = 69 ∨ R.getD off 0 = 101 := .inl p2
      have HTS : Hid (Calls Tryz.prog 226 #[.pointer (some ⟨rb, 0, none⟩)] w1 fun e w' => e = .returned (.bool (sgB R (off + 1))) ∧ RDr w' rb g R (sgO R (off + 1)) ∧ w1.grownBy w' (some rb)) := takesSign_any rb g R (off + 1) w1 p4
      have HJ : Hid (∀ W', RDr W' rb g R (sgO R (off + 1)) → w1.grownBy W' (some rb) → ∀ a, RsF s rb n (sgB R (off + 1)) a → RsJ w0 B s rb g R Y (10 * (R.length - sgO R (off + 1)) + 3) 5 a W') := fun W' z1 z2 a ha => ⟨sgO R (off + 1), D, n, sgB R (off + 1), [], (HD1.out.took z1 z2 (sgO_le _ _)).power HDp.out, by rw [HY.out, pMark_e n HDn.out p1 hc1, pSgn_at], by have := sgO_le R (off + 1); have := HN.out.1; omega, ha, rfl⟩
      have HM : Hid (10 * (R.length - sgO R (off + 1)) + 3 ≤ M) := by show _ ≤ _; have := sgO_le R (off + 1); have := HN.out.2; omega
      clear hc1 p1 p2 p4 p5 HT HD1 HD HDp HDn HY HN
      generalize sgB R (off + 1) = nb at *
      go_wp2_with fail
      refine HTS.out.mono ?_
      rintro e w2 ⟨rfl, z1, z2⟩
      have HJ2 := HJ.out w2 z1 z2
      have HJ3 : Hid (∀ a, RsF s rb n nb a → RsJ w0 B s rb g R Y (10 * (R.length - sgO R (off + 1)) + 3) 5 a w2) := HJ2
      clear z1 z2 HJ2 HJ HTS
      go_wp2
      refine wp_label ?_
      go_step
      go_step
      refine rs5 _ HC.out _ (by (simp only [findLabel, Nat.reduceBEq, Bool.false_eq_true, if_false, if_true, Option.getD_some, BEq.rfl, ↓reduceIte]) <;> rfl) w0 B s rb g R Y M _ HM.out _ _ (HJ3.out _ ?_)
      exact ⟨_, _, _, _, _, _, _, _, _, _, _, _, _, _, _, _, _, _, _, _, _, _, _, _, _, _, _, _, _, _, _, _, _, _, _, _, _, _, _, _, _, _, _, _, _, _, _, _, rfl⟩
    · subst hw
      have HE1 : Hid (off < R.length → R.getD off 0 ≠ 69) := p1
      clear p1
      go_wp2_with fail
      refine (HT.out 101).mono ?_
      rintro e w1 (⟨p1, p2, rfl, p4, p5⟩ | ⟨p1, rfl, hw⟩)
      · clear HE1
        have HD1 : Hid (RsD w0 w1 B s rb g (off + 1) R D) := HD.out.took p4 p5 (by omega)
        have hc1 : R.getD off 0 = 69 ∨ R.getD off 0 = 101 := .inr p2
        have HTS : Hid (Calls Tryz.prog 226 #[.pointer (some ⟨rb, 0, none⟩)] w1 fun e w' => e = .returned (.bool (sgB R (off + 1))) ∧ RDr w' rb g R (sgO R (off + 1)) ∧ w1.grownBy w' (some rb)) := takesSign_any rb g R (off + 1) w1 p4
        have HJ : Hid (∀ W', RDr W' rb g R (sgO R (off + 1)) → w1.grownBy W' (some rb) → ∀ a, RsF s rb n (sgB R (off + 1)) a → RsJ w0 B s rb g R Y (10 * (R.length - sgO R (off + 1)) + 3) 5 a W') := fun W' z1 z2 a ha => ⟨sgO R (off + 1), D, n, sgB R (off + 1), [], (HD1.out.took z1 z2 (sgO_le _ _)).power HDp.out, by rw [HY.out, pMark_e n HDn.out p1 hc1, pSgn_at], by have := sgO_le R (off + 1); have := HN.out.1; omega, ha, rfl⟩
        have HM : Hid (10 * (R.length - sgO R (off + 1)) + 3 ≤ M) := by show _ ≤ _; have := sgO_le R (off + 1); have := HN.out.2; omega
        clear hc1 p1 p2 p4 p5 HT HD1 HD HDp HDn HY HN
        generalize sgB R (off + 1) = nb at *
        go_wp2_with fail
        refine HTS.out.mono ?_
        rintro e w2 ⟨rfl, z1, z2⟩
        have HJ2 := HJ.out w2 z1 z2
        have HJ3 : Hid (∀ a, RsF s rb n nb a → RsJ w0 B s rb g R Y (10 * (R.length - sgO R (off + 1)) + 3) 5 a w2) := HJ2
        clear z1 z2 HJ2 HJ HTS
        go_wp2
        refine wp_label ?_
        go_step
        go_step
        refine rs5 _ HC.out _ (by (simp only [findLabel, Nat.reduceBEq, Bool.false_eq_true, if_false, if_true, Option.getD_some, BEq.rfl, ↓reduceIte]) <;> rfl) w0 B s rb g R Y M _ HM.out _ _ (HJ3.out _ ?_)
        exact ⟨_, _, _, _, _, _, _, _, _, _, _, _, _, _, _, _, _, _, _, _, _, _, _, _, _, _, _, _, _, _, _, _, _, _, _, _, _, _, _, _, _, _, _, _, _, _, _, _, rfl⟩
      · subst hw
        have HJ : Hid (∀ a, RsF s rb n false a → ∃ m', m' < M ∧ RsJ w0 B s rb g R Y m' 4 a w1) := fun a ha => ⟨10 * (R.length - off) + 2, by have := HN.out; omega, off, D, n, false, [], HD.out.done HDp.out, by rw [HY.out, pMark_on n HDn.out (fun z => fun q => q.elim (HE1.out z) (p1 z))], by have := HN.out; omega, ha, rfl⟩
        clear HT HD HDp HDn HY HN HE1 p1 HC
        go_wp2
        refine wp_goto ?_
        try simp only [Exit.then, jmpE]
        exact HJ.out _ ⟨_, _, _, _, _, _, _, _, _, _, _, _, _, _, _, _, _, _, _, _, _, _, _, _, _, _, _, _, _, _, _, _, _, _, _, _, _, _, _, _, _, _, _, _, _, _, _, _, rfl⟩
end Go.Proofs.YteofommckgeemaaGreatDoor
namespace Go.Proofs.YteofommckgeemaaGreatDoor
open Go.RowKit
set_option linter.unusedVariables false
set_option maxRecDepth 100000
set_option linter.unusedSimpArgs false
set_option maxRecDepth 100000 in
set_option maxHeartbeats 4000000 in
theorem rs2 (c : Code) (hc : ∃ r, Tryz.f228.body = some (.seq r (.scope c))) (X : Code) (hX : findLabel c 2 = some (Code.skip.seq X)) (w0 : World) (B s rb g : Nat) (R : List Int) (Y : Prt) (M m : Nat) (hM : m ≤ M) (a : Act) (W : World) (h : RsJ w0 B s rb g R Y m 2 a W) :
    X.wp Tryz.prog (jmpE (fun l' a' w' => ∃ m', m' < M ∧ RsJ w0 B s rb g R Y m' l' a' w') (bodyPost Tryz.prog Tryz.f228 (RsQ w0 B Y))) a W := by
  obtain ⟨off, D, n, hD, hY, hn, ⟨u1, u3, u8, u9, u10, u11, u12, u13, u14, u15, u16, u17, u18, u19, u20, u21, u22, u23, u24, u25, u26, u27, u28, u29, u30, u31, u32, u33, u34, u35, u36, u37, u38, u39, u40, u41, u42, u43, u44, u45, u46, u47, u48, u49, u50, u51, u52, u53, rfl⟩, hm⟩ := h
  have HC : Hid (∃ r, Tryz.f228.body = some (.seq r (.scope c))) := hc
  obtain ⟨r, hr⟩ := hc
  simp only [Tryz.f228, Option.some.injEq, Code.seq.injEq, Code.scope.injEq] at hr
  obtain ⟨-, rfl⟩ := hr
  simp only [findLabel, Nat.reduceBEq, Bool.false_eq_true, if_false, if_true, Option.getD_some, BEq.rfl, ↓reduceIte, Option.some.injEq, Code.seq.injEq] at hX
  obtain ⟨-, rfl⟩ := hX
  have HD : Hid (RsD w0 W B s rb g off R D) := hD
  obtain ⟨hT, hA, hP, hB, ⟨q1, q2, q3, q4, q5⟩⟩ := hD
  have hR := hT.1
  have hlen : off ≤ R.length ∧ R.length ≤ 1000 := hR.1
  by_cases hd : off < R.length ∧ 48 ≤ R.getD off 0 ∧ R.getD off 0 ≤ 57
  · have HT : Hid (Calls Tryz.prog 267 #[.pointer (some ⟨rb, 0, none⟩), .pointer (some ⟨s + 1, 0, none⟩)] W fun e w' => e = .returned (.bool true) ∧ TDg w' B rb g (s + 1) (s + 3) R (off + 1) (D ++ [R.getD off 0]) ∧ Below B W w' ∧ ∀ k, k < s + 3 → k ≠ rb → k ≠ s + 1 → w'.heap[k]? = W.heap[k]?) := takesDigit_yes B rb g (s + 1) (s + 3) R off D W hT hd.1 _ rfl hd.2 (by omega)
    have HJ : Hid (∀ W', TDg W' B rb g (s + 1) (s + 3) R (off + 1) (D ++ [R.getD off 0]) → Below B W W' → (∀ k, k < s + 3 → k ≠ rb → k ≠ s + 1 → W'.heap[k]? = W.heap[k]?) → ∀ a, RsF s rb (n + 1) false a → ∃ m', m' < M ∧ RsJ w0 B s rb g R Y m' 2 a W') := fun W' p1 p2 p3 a ha =>
      ⟨10 * (R.length - (off + 1)) + 5, by omega, off + 1, D ++ [R.getD off 0], n + 1, HD.out.grow p1 hd.2 p2 p3, by rw [hY, pFrc_dig _ _ hd.1 hd.2], by omega, ha, rfl⟩
    have wn : IntKind.i64.wrap ((n : Int) + 1) = (n : Int) + 1 := by rw [IntKind.wrap_i64]; omega
    clear hT hA hB hP q1 q2 q3 q4 q5 hY hm hM HD hd HC hR hlen hn
    go_wp2_with fail
    refine HT.out.mono ?_
    rintro e w1 ⟨rfl, p1, p2, p3⟩
    have HJ2 := HJ.out w1 p1 p2 p3
    have HJ3 : Hid (∀ a, RsF s rb (n + 1) false a → ∃ m', m' < M ∧ RsJ w0 B s rb g R Y m' 2 a w1) := HJ2
    clear HJ2 HJ p1 p2 p3 HT
    go_wp2
    refine wp_goto ?_
    try simp only [Exit.then, jmpE]
    exact HJ3.out _ ⟨_, _, _, _, _, _, _, _, _, _, _, _, _, _, _, _, _, _, _, _, _, _, _, _, _, _, _, _, _, _, _, _, _, _, _, _, _, _, _, _, _, _, _, _, _, _, _, _, rfl⟩
  · have HT : Hid (Calls Tryz.prog 267 #[.pointer (some ⟨rb, 0, none⟩), .pointer (some ⟨s + 1, 0, none⟩)] W fun e w' => e = .returned (.bool false) ∧ w' = W) := takesDigit_no B rb g (s + 1) (s + 3) R off D W hT hd
    have HJ : Hid (∀ a, RsF s rb n false a → RsJ w0 B s rb g R Y (10 * (R.length - off) + 4) 1 a W) := fun a ha => ⟨off, D, n, HD.out, by rw [hY, pFrc_on _ _ hd], hn, ha, rfl⟩
    have HM : Hid (10 * (R.length - off) + 4 ≤ M) := by show _ ≤ _; omega
    clear hT hA hB hP q1 q2 q3 q4 q5 hY hm hM HD hd hR hlen hn
    go_wp2_with fail
    refine HT.out.mono ?_
    rintro e w1 ⟨rfl, hw⟩
    subst hw
    go_wp2
    refine wp_label ?_
    go_step
    go_step
    refine rs1 _ HC.out _ (by (simp only [findLabel, Nat.reduceBEq, Bool.false_eq_true, if_false, if_true, Option.getD_some, BEq.rfl, ↓reduceIte]) <;> rfl) w0 B s rb g R Y M _ HM.out _ _ (HJ.out _ ?_)
    exact ⟨_, _, _, _, _, _, _, _, _, _, _, _, _, _, _, _, _, _, _, _, _, _, _, _, _, _, _, _, _, _, _, _, _, _, _, _, _, _, _, _, _, _, _, _, _, _, _, _, rfl⟩
set_option maxRecDepth 100000 in
set_option maxHeartbeats 4000000 in
theorem rs0 (c : Code) (hc : ∃ r, Tryz.f228.body = some (.seq r (.scope c))) (X : Code) (hX : findLabel c 0 = some (Code.skip.seq X)) (w0 : World) (B s rb g : Nat) (R : List Int) (Y : Prt) (M m : Nat) (hM : m ≤ M) (a : Act) (W : World) (h : RsJ w0 B s rb g R Y m 0 a W) :
    X.wp Tryz.prog (jmpE (fun l' a' w' => ∃ m', m' < M ∧ RsJ w0 B s rb g R Y m' l' a' w') (bodyPost Tryz.prog Tryz.f228 (RsQ w0 B Y))) a W := by
  obtain ⟨off, D, hD, hY, ⟨u1, u3, u8, u9, u10, u11, u12, u13, u14, u15, u16, u17, u18, u19, u20, u21, u22, u23, u24, u25, u26, u27, u28, u29, u30, u31, u32, u33, u34, u35, u36, u37, u38, u39, u40, u41, u42, u43, u44, u45, u46, u47, u48, u49, u50, u51, u52, u53, rfl⟩, hm⟩ := h
  have HC : Hid (∃ r, Tryz.f228.body = some (.seq r (.scope c))) := hc
  obtain ⟨r, hr⟩ := hc
  simp only [Tryz.f228, Option.some.injEq, Code.seq.injEq, Code.scope.injEq] at hr
  obtain ⟨-, rfl⟩ := hr
  simp only [findLabel, Nat.reduceBEq, Bool.false_eq_true, if_false, if_true, Option.getD_some, BEq.rfl, ↓reduceIte, Option.some.injEq, Code.seq.injEq] at hX
  obtain ⟨-, rfl⟩ := hX
  have HD : Hid (RsD w0 W B s rb g off R D) := hD
  obtain ⟨hT, hA, hP, hB, ⟨q1, q2, q3, q4, q5⟩⟩ := hD
  have hR := hT.1
  have hlen : off ≤ R.length ∧ R.length ≤ 1000 := hR.1
  by_cases hd : off < R.length ∧ 48 ≤ R.getD off 0 ∧ R.getD off 0 ≤ 57
  · have HT : Hid (Calls Tryz.prog 267 #[.pointer (some ⟨rb, 0, none⟩), .pointer (some ⟨s + 1, 0, none⟩)] W fun e w' => e = .returned (.bool true) ∧ TDg w' B rb g (s + 1) (s + 3) R (off + 1) (D ++ [R.getD off 0]) ∧ Below B W w' ∧ ∀ k, k < s + 3 → k ≠ rb → k ≠ s + 1 → w'.heap[k]? = W.heap[k]?) := takesDigit_yes B rb g (s + 1) (s + 3) R off D W hT hd.1 _ rfl hd.2 (by omega)
    have HJ : Hid (∀ W', TDg W' B rb g (s + 1) (s + 3) R (off + 1) (D ++ [R.getD off 0]) → Below B W W' → (∀ k, k < s + 3 → k ≠ rb → k ≠ s + 1 → W'.heap[k]? = W.heap[k]?) → ∀ a, RsF s rb 0 false a → ∃ m', m' < M ∧ RsJ w0 B s rb g R Y m' 0 a W') := fun W' p1 p2 p3 a ha =>
      ⟨10 * (R.length - (off + 1)) + 6, by omega, off + 1, D ++ [R.getD off 0], HD.out.grow p1 hd.2 p2 p3, by rw [hY, pWhl_dig _ hd.1 hd.2], ha, rfl⟩
    clear hT hA hB hP q1 q2 q3 q4 q5 hY hm hM HD hd HC hR hlen
    go_wp2_with fail
    refine HT.out.mono ?_
    rintro e w1 ⟨rfl, p1, p2, p3⟩
    have HJ2 := HJ.out w1 p1 p2 p3
    have HJ3 : Hid (∀ a, RsF s rb 0 false a → ∃ m', m' < M ∧ RsJ w0 B s rb g R Y m' 0 a w1) := HJ2
    clear HJ2 HJ p1 p2 p3 HT
    go_wp2
    refine wp_goto ?_
    try simp only [Exit.then, jmpE]
    exact HJ3.out _ ⟨_, _, _, _, _, _, _, _, _, _, _, _, _, _, _, _, _, _, _, _, _, _, _, _, _, _, _, _, _, _, _, _, _, _, _, _, _, _, _, _, _, _, _, _, _, _, _, _, rfl⟩
  · have HT : Hid (Calls Tryz.prog 267 #[.pointer (some ⟨rb, 0, none⟩), .pointer (some ⟨s + 1, 0, none⟩)] W fun e w' => e = .returned (.bool false) ∧ w' = W) := takesDigit_no B rb g (s + 1) (s + 3) R off D W hT hd
    have HK : Hid (∀ x, Calls Tryz.prog 264 #[.pointer (some ⟨rb, 0, none⟩), .int .i32 x] W fun e w' => (off < R.length ∧ R.getD off 0 = x ∧ e = .returned (.bool true) ∧ RDr w' rb g R (off + 1) ∧ W.grownBy w' (some rb)) ∨ ((off < R.length → R.getD off 0 ≠ x) ∧ e = .returned (.bool false) ∧ w' = W)) := fun x => takes_any rb g R off x W hR
    have HH : Hid (Y = pWhl (R.drop off) D ∧ ¬ (off < R.length ∧ 48 ≤ R.getD off 0 ∧ R.getD off 0 ≤ 57) ∧ 10 * (R.length - off) + 6 ≤ M) := ⟨hY, hd, by omega⟩
    clear hT hA hB hP q1 q2 q3 q4 q5 hY hm hM hd hR hlen
    go_wp2_with fail
    refine HT.out.mono ?_
    rintro e w1 ⟨rfl, hw⟩
    subst hw
    go_wp2_with fail
    refine (HK.out 46).mono ?_
    rintro e w2 (⟨p1, p2, rfl, p4, p5⟩ | ⟨p1, rfl, hw⟩)
    · have HJ : Hid (∀ a, RsF s rb 0 false a → RsJ w0 B s rb g R Y (10 * (R.length - (off + 1)) + 5) 2 a w2) := fun a ha => ⟨off + 1, D, 0, HD.out.took p4 p5 (by omega), by rw [HH.out.1, pWhl_dot _ p1 p2], by omega, ha, rfl⟩
      have HM : Hid (10 * (R.length - (off + 1)) + 5 ≤ M) := by show _ ≤ _; have := HH.out; omega
      clear HK HT HD HH p1 p2 p4 p5
      go_wp2
      refine wp_label ?_
      go_step
      go_step
      refine rs2 _ HC.out _ (by (simp only [findLabel, Nat.reduceBEq, Bool.false_eq_true, if_false, if_true, Option.getD_some, BEq.rfl, ↓reduceIte]) <;> rfl) w0 B s rb g R Y M _ HM.out _ _ (HJ.out _ ?_)
      exact ⟨_, _, _, _, _, _, _, _, _, _, _, _, _, _, _, _, _, _, _, _, _, _, _, _, _, _, _, _, _, _, _, _, _, _, _, _, _, _, _, _, _, _, _, _, _, _, _, _, rfl⟩
    · subst hw
      have HJ : Hid (∀ a, RsF s rb 0 false a → ∃ m', m' < M ∧ RsJ w0 B s rb g R Y m' 1 a w2) := fun a ha => ⟨10 * (R.length - off) + 4, by have := HH.out; omega, off, D, 0, HD.out, by rw [HH.out.1, pWhl_on _ HH.out.2.1 p1], by omega, ha, rfl⟩
      clear HK HT HD HH p1 HC
      go_wp2
      refine wp_goto ?_
      try simp only [Exit.then, jmpE]
      exact HJ.out _ ⟨_, _, _, _, _, _, _, _, _, _, _, _, _, _, _, _, _, _, _, _, _, _, _, _, _, _, _, _, _, _, _, _, _, _, _, _, _, _, _, _, _, _, _, _, _, _, _, _, rfl⟩end Go.Proofs.YteofommckgeemaaGreatDoor
