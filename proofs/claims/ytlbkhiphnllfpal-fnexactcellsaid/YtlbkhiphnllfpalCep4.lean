/-
  Whether a digit holds at the corners, the digit of a cell, and what Cell of the program tells, walked.
-/
import Derived.Test.YtlbkhiphnllfpalCep3
import Derived.Test.YtlbkhiphnllfpalCepM
import Derived.Test.YtlbkhiphnllfpalCelW
namespace Go.Proofs.Ytlbkhiphnllfpal
open Go.RowKit
set_option linter.unusedVariables false
def Bq (l : List Pq) : Prop := ∀ p ∈ l, (-1000000000 ≤ p.1 ∧ p.1 ≤ 1000000000) ∧ (-1000000000 ≤ p.2 ∧ p.2 ≤ 1000000000)
theorem bq_crn (L R l h : Int) (hL : -1000000000 ≤ L) (hR : R ≤ 1000000000) (hl : -1000000000 ≤ l) (hh : h ≤ 1000000000) : Bq (crn L R l h 12) := fun x hx => by
  obtain ⟨_, h1, h2, h3, h4, _, _⟩ := (mem_crn _ _ _ _ _).1 hx
  omega
set_option maxRecDepth 100000 in
set_option maxHeartbeats 2000000 in
theorem holds_any (v : Value) (pts : List Pq) (base : Nat) (a u t k : Int) (w : World) (hv : HasQ w base v pts) (hb : Bq pts) (hn : pts.length ≤ 16) (ha : 5 ≤ a ∧ a ≤ 9) (hk : -9 ≤ k ∧ k ≤ 9) :
    Calls Try.prog 29 #[.agg #[.int .i64 a, .int .i64 u, .int .i64 t], .int .i64 k, v] w fun e w' => e = .returned (.bool (hqs a k pts)) ∧ Below w.heap.size w w' := by
  obtain ⟨A, cap, rfl, hg⟩ := hv.form
  have HG : Hid (0 < pts.length → ∃ g, A = some ⟨g, 0, none⟩ ∧ g < w.heap.size ∧ (∀ i p, pts[i]? = some p → w.cell? ⟨g, i * 2, none⟩ = some (.int .i64 p.1) ∧ w.cell? ⟨g, i * 2 + 1, none⟩ = some (.int .i64 p.2))) := hg
  have HB : Hid (Below w.heap.size w (w.alloc (.cells #[.int .i64 a, .int .i64 u, .int .i64 t] 30))) := (Below.refl _ _).alloc (Nat.le_refl _) _
  have HA : Hid (At3 (w.alloc (.cells #[.int .i64 a, .int .i64 u, .int .i64 t] 30)) w.heap.size (.int .i64 a) (.int .i64 u) (.int .i64 t)) := at3_new _ _ _ _ _
  have Hb : Hid (Bq pts) := hb
  clear hg hv hb
  go_enter Try.func29, Try.ntmps29
  go_wp2
  go_loopw [12] (fun i wr => ∃ j : Nat, j ≤ pts.length ∧ i = .int .i64 j ∧ Hid (hqs a k (pts.take j) = true) ∧ Hid (At3 wr w.heap.size (.int .i64 a) (.int .i64 u) (.int .i64 t)) ∧ Below w.heap.size w wr) (fun i _ => pts.length - (intOf i).toNat)
  case atStart => exact ⟨0, Nat.zero_le _, rfl, by simp [Hid, hqs], HA, HB.out⟩
  case round =>
    clear HA HB
    obtain ⟨j, hj, rfl, htk, hat, hbel⟩ := hrel
    have q0 := fun o => (hat.out.alloc o).1
    have hsz := hbel.size
    by_cases hlt : j < pts.length
    · obtain ⟨g, rfl, hgl, hcell⟩ := HG.out (by omega)
      have hget : pts[j]? = some pts[j] := List.getElem?_eq_getElem hlt
      have hpb := Hb.out pts[j] (List.getElem_mem hlt)
      have htk1 : hqs a k (pts.take (j + 1)) = (hqs a k (pts.take j) && hq a k pts[j]) := by
        unfold hqs; rw [List.take_add_one, hget, List.all_append]; simp
      obtain ⟨hc1, hc2⟩ := hcell j _ hget
      have hc1' := (hbel.cell (p := ⟨g, j * 2, none⟩) hgl).trans hc1
      have hc2' := (hbel.cell (p := ⟨g, j * 2 + 1, none⟩) hgl).trans hc2
      have HD : Hid (hq a k pts[j] = !(decide (10 * a * pts[j].2 < (9 * k - a) * pts[j].1) || decide ((9 * k + a) * pts[j].1 < 10 * a * pts[j].2))) := rfl
      have Hn : Hid (hq a k pts[j] = false → hqs a k pts = false) := fun h => by
        unfold hqs
        rw [List.all_eq_false]
        exact ⟨pts[j], List.getElem_mem hlt, by rw [h]; decide⟩
      have Hy : Hid (hq a k pts[j] = true → hqs a k (pts.take (j + 1)) = true) := fun h => by rw [htk1, htk.out, h]; rfl
      have hin : (j : Int) < (pts.length : Int) := by omega
      clear hc1 hc2 htk1 hget hcell htk
      generalize pts[j].1 = x at *
      generalize pts[j].2 = y at *
      generalize hq a k pts[j] = hb at *
      have m0 := mulC2 (10 * a) y 90 1000000000 (by omega) (by omega) (by omega) (by omega) (by decide) (by decide)
      have m1 := mulC2 (9 * k - a) x 90 1000000000 (by omega) (by omega) (by omega) (by omega) (by decide) (by decide)
      have m2 := mulC2 (9 * k + a) x 90 1000000000 (by omega) (by omega) (by omega) (by omega) (by decide) (by decide)
      by_cases q1 : 10 * a * y < (9 * k - a) * x
      · have hF : Hid (hqs a k pts = false) := Hn.out (by rw [HD.out, decide_eq_true q1]; rfl)
        clear HD Hy Hn
        go_wp2
        go_ret
        exact ⟨Ln.ret_bool hF.out.symm, hbel.alloc hsz _⟩
      · by_cases q2 : (9 * k + a) * x < 10 * a * y
        · have hF : Hid (hqs a k pts = false) := Hn.out (by rw [HD.out, decide_eq_true q2, decide_eq_false q1]; rfl)
          clear HD Hy Hn
          go_wp2
          go_ret
          exact ⟨Ln.ret_bool hF.out.symm, hbel.alloc hsz _⟩
        · have hF : Hid (hqs a k (pts.take (j + 1)) = true) := Hy.out (by rw [HD.out, decide_eq_false q2, decide_eq_false q1]; rfl)
          clear HD Hn Hy
          go_wp2
          go_roundw
          case rel => exact ⟨j + 1, by omega, by go_num, hF, hat.out.alloc _, hbel.alloc hsz _⟩
          case measure => simp [intOf]; omega
    · have e : j = pts.length := by omega
      subst e
      have HH : Hid (hqs a k pts = true) := by have := htk.out; rwa [List.take_length] at this
      clear htk
      go_wp2
      go_ret
      exact ⟨Ln.ret_bool HH.out.symm, hbel⟩
theorem ix2_0 (x y : Int) (w : World) : (Instr.index 47 (.agg #[.int .i64 x, .int .i64 y]) (.int .i64 0)).run Try.prog w = .ok (.int .i64 x) w := by kernel_rfl
theorem ix2_1 (x y : Int) (w : World) : (Instr.index 47 (.agg #[.int .i64 x, .int .i64 y]) (.int .i64 1)).run Try.prog w = .ok (.int .i64 y) w := by kernel_rfl
set_option maxRecDepth 100000 in
set_option maxHeartbeats 2000000 in
theorem digitOf_any (a u t D Y U T : Int) (w : World) (ha : 5 ≤ a ∧ a ≤ 9) (hu : 1 ≤ u ∧ u ≤ 2) (ht : 1 ≤ t ∧ t ≤ 2) (hD : 1 ≤ D ∧ D ≤ 99) (hY : -1000000 ≤ Y ∧ Y ≤ 1000000) (eU : U = 10 ^ u.toNat) (eT : T = 10 ^ t.toNat) :
    Calls Try.prog 16 #[.agg #[.int .i64 a, .int .i64 u, .int .i64 t], .agg #[.int .i64 D, .int .i64 Y]] w fun e w' => e = .returned (.tuple #[.int .i64 (scn a U T (cnE (9 * U) (10 * a * T) D Y 2) (a.toNat + 1) 0).2, .bool (decide ((scn a U T (cnE (9 * U) (10 * a * T) D Y 2) (a.toNat + 1) 0).1 = 0))]) ∧ Below w.heap.size w w' := by
  have hU := pow12 u hu
  have hT := pow12 t ht
  rw [← eU] at hU
  rw [← eT] at hT
  have hq0 : 0 ≤ 10 * a * T ∧ 10 * a * T ≤ 9000 := by
    have := Int.mul_le_mul_of_nonneg_left hT.2 (show 0 ≤ 10 * a by omega)
    have := Int.mul_nonneg (show 0 ≤ 10 * a by omega) (show 0 ≤ T by omega)
    omega
  have m1 := mulB D (10 * a * T) 100 9000 (by omega) (by omega) (by omega) (by omega) (by decide)
  have m2 := mulB (D + 1) (10 * a * T) 100 9000 (by omega) (by omega) (by omega) (by omega) (by decide)
  have m3 := mulB Y (9 * U) 1000002 900 (by omega) (by omega) (by omega) (by omega) (by decide)
  have m4 := mulB (Y + 2) (9 * U) 1000002 900 (by omega) (by omega) (by omega) (by omega) (by decide)
  have hbq := bq_crn (D * (10 * a * T)) ((D + 1) * (10 * a * T)) (Y * (9 * U)) ((Y + 2) * (9 * U)) (by omega) (by omega) (by omega) (by omega)
  have hln := crn_len (D * (10 * a * T)) ((D + 1) * (10 * a * T)) (Y * (9 * U)) ((Y + 2) * (9 * U)) 12 (Nat.le_refl _)
  have hsame := fun k => hqs_same a U T k D Y (by omega) (by omega) (by omega) (by omega)
  have HC : Hid (∀ W, Calls Try.prog 28 #[.agg #[.int .i64 a, .int .i64 u, .int .i64 t], .agg #[.int .i64 D, .int .i64 Y]] W fun e w' => ∃ v, e = .returned v ∧ HasQ w' W.heap.size v (crn (D * (10 * a * T)) ((D + 1) * (10 * a * T)) (Y * (9 * U)) ((Y + 2) * (9 * U)) 12) ∧ Below W.heap.size W w') := fun W => cornersOf_any a u t D Y W ha hu ht hD hY (9 * U) (10 * a * T) (by rw [eU]) (by rw [eT])
  generalize crn (D * (10 * a * T)) ((D + 1) * (10 * a * T)) (Y * (9 * U)) ((Y + 2) * (9 * U)) 12 = C at *
  generalize cnE (9 * U) (10 * a * T) D Y 2 = l at *
  have HH : Hid (∀ W v base k, HasQ W base v C → -9 ≤ k → k ≤ 9 → Calls Try.prog 29 #[.agg #[.int .i64 a, .int .i64 u, .int .i64 t], .int .i64 k, v] W fun e w' => e = .returned (.bool (hlds a U T k l)) ∧ Below W.heap.size W w') := fun W v base k hv k0 k9 => by rw [← hsame k]; exact holds_any v C base a u t k W hv hbq (by omega) ha ⟨k0, k9⟩
  clear hsame hbq hln m1 m2 m3 m4 hq0 hU hT eU eT
  obtain ⟨R, hR⟩ : ∃ R, R = scn a U T l (a.toNat + 1) 0 := ⟨_, rfl⟩
  rw [← hR]
  have HR : Hid (R = scn a U T l (a.toNat + 1) 0) := hR
  have HX0 : Hid (Bx w a u t D Y ((w.alloc (.cells #[.int .i64 a, .int .i64 u, .int .i64 t] 30)).alloc (.cells #[.int .i64 D, .int .i64 Y] 37))) := bx_new _ _ _ _ _ _ _ _
  have hi0 := ix2_0
  have hi1 := ix2_1
  clear hR
  go_enter Try.func16, Try.ntmps16
  go_wp2_with fail
  refine (HC.out _).mono ?_
  rintro e w1 ⟨v, rfl, hv, hb1⟩
  have hX1 := HX0.out.step hb1
  obtain ⟨q0, q1, q2⟩ := hX1.s
  have HX1 : Hid (Bx w a u t D Y w1) := hX1
  have HV : Hid (HasQ w1 (w.heap.size + 1 + 1) v C) := by simpa [Hid] using hv
  clear HC hv HX0 hX1 hb1
  go_wp2
  go_loopw [16] (fun k wr => ∃ j : Nat, (j : Int) ≤ a + 1 ∧ k = .int .i64 j ∧ Hid (R = scn a U T l (a.toNat + 1 - j) j) ∧ Below w1.heap.size w1 wr) (fun k _ => (a + 1 - intOf k).toNat)
  case atStart => exact ⟨0, by omega, rfl, HR, Below.refl _ _⟩
  case round =>
    clear HR
    obtain ⟨j, hj, rfl, HR, hbel⟩ := hrel
    have hsz := hbel.size
    obtain ⟨q0, q1, q2⟩ := (HX1.out.step hbel).s
    by_cases hlt : (j : Int) ≤ a
    · have hlt2 : (j : Int) < a + 1 := by omega
      have hsc : scn a U T l (a.toNat + 1 - j) j = if hlds a U T j l then (0, (j : Int)) else if hlds a U T (-(j : Int)) l then (0, -(j : Int)) else scn a U T l (a.toNat + 1 - (j + 1)) (j + 1) := by
        rw [show a.toNat + 1 - j = (a.toNat + 1 - (j + 1)) + 1 by omega]; rfl
      have HR2 : Hid (R = if hlds a U T j l then (0, (j : Int)) else if hlds a U T (-(j : Int)) l then (0, -(j : Int)) else scn a U T l (a.toNat + 1 - (j + 1)) (j + 1)) := by show _ = _; rw [HR.out, hsc]
      have H1 := HH.out wr v (w.heap.size + 1 + 1) j (HV.out.below hbel (Nat.le_refl _)) (by omega) (by omega)
      have h2 : ∀ W, Below w1.heap.size w1 W → Calls Try.prog 29 #[.agg #[.int .i64 a, .int .i64 u, .int .i64 t], .int .i64 (-(j : Int)), v] W fun e w' => e = .returned (.bool (hlds a U T (-(j : Int)) l)) ∧ Below W.heap.size W w' := fun W hW => HH.out W _ (w.heap.size + 1 + 1) (-(j : Int)) (HV.out.below hW (Nat.le_refl _)) (by omega) (by omega)
      clear HR hsc
      generalize hlds a U T j l = b1 at *
      generalize hlds a U T (-(j : Int)) l = b2 at *
      have H1' : Hid (Calls Try.prog 29 #[.agg #[.int .i64 a, .int .i64 u, .int .i64 t], .int .i64 (j : Int), v] wr fun e w' => e = .returned (.bool b1) ∧ Below wr.heap.size wr w') := H1
      have H2' : Hid (∀ W, Below w1.heap.size w1 W → Calls Try.prog 29 #[.agg #[.int .i64 a, .int .i64 u, .int .i64 t], .int .i64 (-(j : Int)), v] W fun e w' => e = .returned (.bool b2) ∧ Below W.heap.size W w') := h2
      clear H1 h2
      cases b1 with
      | true =>
        have HR3 : Hid (R = (0, (j : Int))) := HR2.out
        clear HR2 H2'
        go_wp2
        refine wp_loop_rounds 3 ?_
        rw [rounds_succ]
        go_wp2_with fail
        refine H1'.out.mono ?_
        rintro e w2 ⟨rfl, hb2⟩
        go_wp2
        go_ret2
        exact ⟨by have h := HR3.out; subst h; rfl, HX1.out.b.trans ((hbel.trans (hb2.mono hsz)).mono HX1.out.b.size)⟩
      | false =>
        cases b2 with
        | true =>
          have HR3 : Hid (R = (0, -(j : Int))) := HR2.out
          clear HR2
          go_wp2
          refine wp_loop_rounds 3 ?_
          rw [rounds_succ]
          go_wp2_with fail
          refine H1'.out.mono ?_
          rintro e w2 ⟨rfl, hb2⟩
          have hb12 := hbel.trans (hb2.mono hsz)
          obtain ⟨q3, q4, q5⟩ := (HX1.out.step hb12).s
          go_wp2
          rw [rounds_succ]
          go_wp2_with fail
          refine (H2'.out _ hb12).mono ?_
          rintro e w3 ⟨rfl, hb3⟩
          go_wp2
          go_ret2
          exact ⟨by have h := HR3.out; subst h; rfl, HX1.out.b.trans ((hb12.trans (hb3.mono hb12.size)).mono HX1.out.b.size)⟩
        | false =>
          have HR3 : Hid (R = scn a U T l (a.toNat + 1 - (j + 1)) (j + 1)) := HR2.out
          clear HR2
          go_wp2
          refine wp_loop_rounds 3 ?_
          rw [rounds_succ]
          go_wp2_with fail
          refine H1'.out.mono ?_
          rintro e w2 ⟨rfl, hb2⟩
          have hb12 := hbel.trans (hb2.mono hsz)
          obtain ⟨q3, q4, q5⟩ := (HX1.out.step hb12).s
          go_wp2
          rw [rounds_succ]
          go_wp2_with fail
          refine (H2'.out _ hb12).mono ?_
          rintro e w3 ⟨rfl, hb3⟩
          have hb13 := hb12.trans (hb3.mono hb12.size)
          go_wp2
          rw [rounds_succ]
          go_wp2
          go_roundw
          case rel => exact ⟨j + 1, by omega, by go_num, HR3, hb13⟩
          case measure => simp [intOf]; omega
    · have HR3 : Hid (R = (4, 0)) := by show _ = _; rw [HR.out, show a.toNat + 1 - j = 0 by omega]; rfl
      have hnc : ¬ (j : Int) < a + 1 := by omega
      clear HR
      go_wp2
      go_ret2
      exact ⟨by have h := HR3.out; subst h; rfl, HX1.out.b.trans (hbel.mono HX1.out.b.size)⟩
end Go.Proofs.Ytlbkhiphnllfpal
