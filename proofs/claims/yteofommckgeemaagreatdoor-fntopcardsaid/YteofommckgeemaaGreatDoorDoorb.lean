/-
  What the rows' list of package-level variables gives a walk of the bench, and a world that meets it.
-/
import Derived.Test.YteofommckgeemaaGreatDoorTpe
import Derived.Deep.Upon
import Derived.Test.YteofommckgeemaaGreatDoorRows
import Derived.WalkKit
import Derived.ProofKit
import Derived.OpenShut
import Derived.OpenVars
import Derived.LaidMore
import Derived.Lib.LaidU8T
import Derived.Stop.Joined
import Derived.Stop.LaidErr
import Derived.Lib.LaidTab
import Derived.LaidHandle
import Derived.Lay
namespace Go.Proofs.YteofommckgeemaaGreatDoor
open Go.RowKit
set_option linter.unusedVariables false
set_option maxRecDepth 100000
set_option linter.unusedSimpArgs false
theorem infoU8 : (Tryz.prog.info? 5).map (fun i => (i.zero, i.size, i.bytes)) = some (some (.int .u8 0), 1, 1) := by kernel_rfl
theorem digits_nt (x : Int) (h0 : 0 ≤ x) (h1 : x < 10000000000000000) (w : World) : Calls Tryz.prog 8 #[.int .i64 x] w fun e w' => e = .returned (.string (tx (nt x))) ∧ Below w.heap.size w w' := by
  refine (digits_any x w h0 (by omega)).mono ?_
  rintro e w' ⟨R, rfl, hc, hv, hl, hb⟩
  exact ⟨by rw [nt_of R x hc hv (by omega)], hb⟩
/-- What the code's bytes are for the walk. -/
def CodeB (w : World) (a : Option Addr) (len cap : Nat) : Prop := (a = none ∧ len = 0 ∧ cap = 0) ∨ ∃ x, a = some x ∧ ∃ zs : List Int, zs.length = len ∧ ∀ j, j < zs.length → w.cell? (x.add j) = some (.int .u8 (zs.getD j 0)) ∧ 0 ≤ zs.getD j 0 ∧ zs.getD j 0 ≤ 255
theorem CodeB.below {w w' : World} {a : Option Addr} {len cap : Nat} (h : CodeB w a len cap) (hb : Below w.heap.size w w') : CodeB w' a len cap := by
  rcases h with h | ⟨x, rfl, zs, hz, hc⟩
  · exact .inl h
  · refine .inr ⟨x, rfl, zs, hz, fun j hj => ?_⟩
    obtain ⟨h1, h2⟩ := hc j hj
    exact ⟨(hb.cell (World.block_lt_of_cell? _ _ h1)).trans h1, h2⟩
theorem CodeB.alloc {w : World} {a : Option Addr} {len cap : Nat} (h : CodeB w a len cap) (o : Obj) : CodeB (w.alloc o) a len cap := h.below ((Below.refl _ _).alloc (Nat.le_refl _) _)
theorem bytes_own {w : World} {base : Nat} {v : Value} {n : Nat} {zs : List Int} (h : w.ownsRow base 5 1 v n (zs.map fun z => Value.int .u8 z)) (hn : 0 < n) (hz : ∀ z ∈ zs, 0 ≤ z ∧ z ≤ 255) : ∃ g cap, v = .slice (some ⟨g, 0, none⟩) n cap ∧ Bytes w.heap.size w (some ⟨g, 0, none⟩) n := by
  have h0 := h
  obtain ⟨hl, h⟩ := h
  rcases h with ⟨rfl, h⟩ | ⟨g, cap, cur, rfl, hg, hc, hm, hm2, hs, ht⟩
  · omega
  · refine ⟨g, cap, rfl, .inr ⟨g, 0, rfl, (Array.getElem?_eq_some_iff.1 hc).1, fun j hj => ?_⟩⟩
    rw [List.length_map] at hl
    have hc2 := World.ownsRow.cellAt h0 j (by omega)
    have hj2 : j < zs.length := by omega
    refine ⟨zs[j], ?_, hz _ (List.getElem_mem hj2)⟩
    rw [Nat.zero_add, hc2, List.getElem?_map, List.getElem?_eq_getElem hj2]; rfl
theorem wpList_top {ops : Array Oper} {rest : List Oper} {o : Oper} {a : Act} {w : World} {Q : Exit → Act → World → Prop} (hg : o.guard = none) (s x : Operand) (hop : o.op = .call { callee := .builtin .append, args := #[s, x], argTypes := #[22, 22] }) (base g : Nat) (hs : a.eval s = .slice (some ⟨g, 0, none⟩) 1 1) (hown : w.ownsRow base 5 1 (.slice (some ⟨g, 0, none⟩) 1 1) 1 [.int .u8 1]) (hbw : base ≤ w.heap.size)
    (a0 : Option Addr) (len0 cap0 : Nat) (hx : a.eval x = .slice a0 len0 cap0) (hC : CodeB w a0 len0 cap0) (hl : len0 ≤ 5000) (h : ∀ g' cap' w', Bytes w'.heap.size w' (some ⟨g', 0, none⟩) (1 + len0) → w.grownBy w' (some g) → wpList Tryz.prog ops Q rest (a.put o.dst (.slice (some ⟨g', 0, none⟩) (1 + len0) cap')) w') : wpList Tryz.prog ops Q (o :: rest) a w := by
  obtain ⟨i0, hi, hz0, hz1, hz2⟩ := info_parts infoU8
  rcases hC with ⟨rfl, rfl, rfl⟩ | ⟨x0, rfl, zs, hz, hc⟩
  · refine wpList_plain hg fun K hK => ?_
    have hrun := run_append_nothing (P := Tryz.prog) w 22 22 o.type 5 i0 Tryz.underlying22 hi (some ⟨g, 0, none⟩) 1 1 (Nat.le_refl _) (.slice none 0 0) (Src.ofNil w Tryz.underlying22 0)
    obtain ⟨g2, cap2, e2, hby⟩ := bytes_own (zs := [1]) hown (by decide) (fun z hz => by simp at hz; omega)
    have e3 : g2 = g := by simp at e2; exact e2.1.symm
    subst e3
    unfold Oper.wp
    simp [execOp, hop, resolve, invoke, builtin, hs, hx, hrun, Result.andThen]
    exact hK _ _ (h g2 1 w hby ⟨rfl, rfl, rfl, Nat.le_refl _, fun _ _ _ => rfl⟩)
  · refine wpList_append_own w hg s x 22 hop base 5 i0 (.int .u8 0) 1 1 Tryz.underlying22 hi hz0 hz1 hz2 rfl (by decide) _ 1 _ hs hown x0 len0 cap0 (zs.map fun z => Value.int .u8 z) hx (by rw [List.length_map]; omega) (fun j u hj => ?_) (fun u hu => ?_) (by unfold maxLen; omega) (by omega) hbw fun v' w' h1 h2 _ => ?_
    · rw [List.getElem?_map] at hj
      have hjl : j < zs.length := by
        rcases Nat.lt_or_ge j zs.length with q | q
        · exact q
        · rw [List.getElem?_eq_none q] at hj; cases hj
      rw [List.getElem?_eq_getElem hjl] at hj
      have hu : Value.int .u8 zs[j] = u := Option.some.inj hj
      rw [(hc j hjl).1, ← hu, List.getD_eq_getElem?_getD, List.getElem?_eq_getElem hjl]; rfl
    · obtain ⟨z, -, rfl⟩ := List.mem_map.1 hu; rfl
    · obtain ⟨g', cap', rfl, hby⟩ := bytes_own (zs := 1 :: zs) h1 (by omega) (fun z hz => by
        rcases List.mem_cons.1 hz with q | q
        · omega
        · obtain ⟨j, hj, rfl⟩ := List.getElem_of_mem q
          have := (hc j hj).2
          rw [List.getD_eq_getElem?_getD, List.getElem?_eq_getElem hj] at this
          exact this)
      exact h g' cap' w' hby h2
set_option maxRecDepth 100000 in
set_option maxHeartbeats 4000000 in
theorem fnTop_any (a0 : Option Addr) (len0 cap0 : Nat) (w : World) (hbig : ¬ 4096 < len0) (hb : Bytes w.heap.size w a0 len0) (hc : CodeB w a0 len0 cap0) (hT : TB w) :
    Calls Tryz.prog 3 #[.slice a0 len0 cap0] w fun e w' => e = .returned (.bool true) ∧ Below w.heap.size w w' := by
  have hB : Hid (Bytes w.heap.size w a0 len0) := hb
  have HT : Hid (TB w) := hT
  have HC : Hid (CodeB w a0 len0 cap0) := hc
  clear hb hT hc
  go_enter Tryz.func3, Tryz.ntmps3
  go_wp2_with fail
  refine (big_no _ _ _ _ hbig).mono ?_
  rintro e w' ⟨rfl, hw⟩
  obtain rfl := hw.symm
  go_wp2_with fail
  refine (pick_any a0 len0 cap0 w.heap.size 900000 w (by omega) hB.out (by decide)).mono ?_
  rintro e w1 ⟨r, rfl, hr, hw1⟩
  subst hw1
  have hwr : IntKind.i64.wrap (2 + r) = 2 + r := by rw [IntKind.wrap_i64]; omega
  obtain ⟨n, hn⟩ : ∃ n, 2 + r = n := ⟨_, rfl⟩
  rw [hn] at hwr
  have hn0 : 2 ≤ n ∧ n < 1000000 := by omega
  clear hr
  have HC2 : Hid (CodeB (w1.alloc (.cells #[.int .u8 1] 5)) a0 len0 cap0) := HC.out.alloc _
  have hown : (w1.alloc (.cells #[.int .u8 1] 5)).ownsRow w1.heap.size 5 1 (.slice (some ⟨w1.heap.size, 0, none⟩) 1 1) 1 [.int .u8 1] := ⟨rfl, .inr ⟨w1.heap.size, 1, #[.int .u8 1], rfl, Nat.le_refl _, blk_new _ _, Nat.le_refl _, by unfold maxLen; decide, rfl, rfl⟩⟩
  go_wp2_with (at_builtin; refine wpList_top rfl (.tmp 14) (.tmp 15) rfl w1.heap.size w1.heap.size rfl hown (by simp) a0 len0 cap0 rfl HC2.out (by omega) ?_)
  intro g' cap' w2 hby2 hgr2
  have HB2 : Hid (Below w1.heap.size w1 w2) := Below.grown ((Below.refl _ _).alloc (Nat.le_refl _) _) hgr2 (by simp) (fun k hk => by have := Option.some.inj hk; omega)
  have HBy : Hid (Bytes w2.heap.size w2 (some ⟨g', 0, none⟩) (1 + len0)) := hby2
  clear hby2 hgr2 HC HC2 hown hB
  go_wp2_with fail
  refine (pick_any (some ⟨g', 0, none⟩) (1 + len0) cap' w2.heap.size (n - 1) w2 (by omega) HBy.out (by omega)).mono ?_
  rintro e w3 ⟨r2, rfl, hr2, hw3⟩
  subst hw3
  have hwk : IntKind.i64.wrap (1 + r2) = 1 + r2 := by rw [IntKind.wrap_i64]; omega
  obtain ⟨k, hk⟩ : ∃ k, 1 + r2 = k := ⟨_, rfl⟩
  rw [hk] at hwk
  have hk0 : 0 < k ∧ k < n := by omega
  clear hr2 HBy
  obtain ⟨p, hp⟩ : ∃ p, n * n = p := ⟨_, rfl⟩
  obtain ⟨q, hq⟩ : ∃ q, n * k = q := ⟨_, rfl⟩
  have hp1 : 0 < p ∧ p < 10000000000000000 := by
    have h1 : n * n ≤ 1000000 * 1000000 := Int.mul_le_mul (by omega) (by omega) (by omega) (by decide)
    have h2 : (1000000 : Int) * 1000000 = 1000000000000 := by decide
    have h3 : 0 < n * n := Int.mul_pos (by omega) (by omega)
    omega
  have hq1 : k < q ∧ q < 10000000000000000 := by
    have h1 : n * k ≤ 1000000 * 1000000 := Int.mul_le_mul (by omega) (by omega) (by omega) (by decide)
    have h2 : (1000000 : Int) * 1000000 = 1000000000000 := by decide
    have h3 : 2 * k ≤ n * k := Int.mul_le_mul_of_nonneg_right (by omega) (by omega)
    omega
  have hwp : IntKind.i64.wrap p = p := by rw [IntKind.wrap_i64]; omega
  have hwq : IntKind.i64.wrap q = q := by rw [IntKind.wrap_i64]; omega
  have hm : (n - 1) * k = q - k := by rw [Int.sub_mul, hq, Int.one_mul]
  have HDn : Hid (∀ X, Calls Tryz.prog 8 #[.int .i64 n] X fun e w' => e = .returned (.string (tx (nt n))) ∧ Below X.heap.size X w') := fun X => digits_nt n (by omega) (by omega) X
  have HDk : Hid (∀ X, Calls Tryz.prog 8 #[.int .i64 k] X fun e w' => e = .returned (.string (tx (nt k))) ∧ Below X.heap.size X w') := fun X => digits_nt k (by omega) (by omega) X
  have HDp : Hid (∀ X, Calls Tryz.prog 8 #[.int .i64 p] X fun e w' => e = .returned (.string (tx (nt p))) ∧ Below X.heap.size X w') := fun X => digits_nt p (by omega) (by omega) X
  have HDq : Hid (∀ X, Calls Tryz.prog 8 #[.int .i64 q] X fun e w' => e = .returned (.string (tx (nt q))) ∧ Below X.heap.size X w') := fun X => digits_nt q (by omega) (by omega) X
  have HBn : Hid (∀ X, Below w1.heap.size w1 X → Calls Tryz.prog 10 #[.string (topT (tx (nt n)) (tx (nt k)) (tx (nt p)) (tx (nt q)))] X fun e w' => e = .returned (.string ⟨(outs (topA n k)).toArray⟩) ∧ Below X.heap.size X w') := fun X hX => by
    rw [← hp, ← hq]
    exact topBench_any n k hk0.1 hk0.2 hn0.2 _ _ rfl rfl X (fun Y hY => HT.out Y (hX.trans (hY.mono hX.size)))
  have hS : Hid (n + k < 10000000000000000 ∧ 0 < n + k) := ⟨by omega, by omega⟩
  obtain ⟨s, hs⟩ : ∃ s, n + k = s := ⟨_, rfl⟩
  obtain ⟨d, hd⟩ : ∃ d, n - k = d := ⟨_, rfl⟩
  obtain ⟨f, hf⟩ : ∃ f, q - k = f := ⟨_, rfl⟩
  rw [hf] at hm
  have hws : IntKind.i64.wrap s = s := by rw [IntKind.wrap_i64]; omega
  have hwd : IntKind.i64.wrap d = d := by rw [IntKind.wrap_i64]; omega
  have hwf : IntKind.i64.wrap f = f := by rw [IntKind.wrap_i64]; omega
  have HDs : Hid (∀ X, Calls Tryz.prog 8 #[.int .i64 s] X fun e w' => e = .returned (.string (tx (nt s))) ∧ Below X.heap.size X w') := fun X => digits_nt s (by omega) (by omega) X
  have HDd : Hid (∀ X, Calls Tryz.prog 8 #[.int .i64 d] X fun e w' => e = .returned (.string (tx (nt d))) ∧ Below X.heap.size X w') := fun X => digits_nt d (by omega) (by omega) X
  have HDf : Hid (∀ X, Calls Tryz.prog 8 #[.int .i64 f] X fun e w' => e = .returned (.string (tx (nt f))) ∧ Below X.heap.size X w') := fun X => digits_nt f (by omega) (by omega) X
  have HA : Hid (topA n k = [tx (nt s), tx (nt d), tx (nt p), tx (nt n), tx (nt n), tx (nt f), ⟨#[45, 49]⟩, ⟨#[48]⟩, ⟨#[48]⟩, ⟨#[73, 110, 102, 105, 110, 105, 116, 121]⟩, ⟨#[50]⟩, ⟨#[48]⟩]) := by
    rw [Hid, ← hs, ← hd, ← hf, ← hp, ← hq]; rfl
  have HNo : Hid (∀ a ∈ topA n k, (10 : UInt8) ∉ a.data.toList) := topA_no n k hk0.1 hk0.2 hn0.2
  have HZ : Hid (∀ a ∈ topA n k, a.size ≤ 100000) := by
    rw [Hid, HA.out]
    have zN := tnz_16 n (by omega) (by omega)
    have zP := tnz_16 p (by omega) (by omega)
    have zS := tnz_16 s (by omega) (by omega)
    have zD := tnz_16 d (by omega) (by omega)
    have zF := tnz_16 f (by omega) (by omega)
    intro a ha
    simp only [List.mem_cons, List.not_mem_nil, or_false] at ha
    rcases ha with q | q | q | q | q | q | q | q | q | q | q | q
    all_goals rw [q]
    all_goals first | omega | decide
  generalize topA n k = A at *
  have zN := tnz_16 n (by omega) (by omega)
  have zK := tnz_16 k (by omega) (by omega)
  have zP := tnz_16 p (by omega) (by omega)
  have zQ := tnz_16 q (by omega) (by omega)
  generalize hN : tx (nt n) = N at *
  generalize hK : tx (nt k) = K at *
  generalize hP : tx (nt p) = P at *
  generalize hQ : tx (nt q) = Q at *
  generalize tx (nt s) = S at *
  generalize tx (nt d) = D at *
  generalize tx (nt f) = F at *
  go_wp2_with fail
  refine (HDn.out _).mono ?_
  rintro e x0 ⟨rfl, b1⟩
  have H0' : Hid (Below w1.heap.size w1 x0) := HB2.out.trans (b1.mono HB2.out.size)
  clear b1 HB2
  go_wp2_with fail
  refine (HDk.out _).mono ?_
  rintro e x1 ⟨rfl, b1⟩
  have H1' : Hid (Below w1.heap.size w1 x1) := H0'.out.trans (b1.mono H0'.out.size)
  clear b1 H0'
  go_wp2_with fail
  refine (HDn.out _).mono ?_
  rintro e x2 ⟨rfl, b1⟩
  have H2' : Hid (Below w1.heap.size w1 x2) := H1'.out.trans (b1.mono H1'.out.size)
  clear b1 H1'
  go_wp2_with fail
  refine (HDk.out _).mono ?_
  rintro e x3 ⟨rfl, b1⟩
  have H3' : Hid (Below w1.heap.size w1 x3) := H2'.out.trans (b1.mono H2'.out.size)
  clear b1 H2'
  go_wp2_with fail
  refine (HDn.out _).mono ?_
  rintro e x4 ⟨rfl, b1⟩
  have H4' : Hid (Below w1.heap.size w1 x4) := H3'.out.trans (b1.mono H3'.out.size)
  clear b1 H3'
  go_wp2_with fail
  refine (HDn.out _).mono ?_
  rintro e x5 ⟨rfl, b1⟩
  have H5' : Hid (Below w1.heap.size w1 x5) := H4'.out.trans (b1.mono H4'.out.size)
  clear b1 H4'
  go_wp2_with fail
  refine (HDp.out _).mono ?_
  rintro e x6 ⟨rfl, b1⟩
  have H6' : Hid (Below w1.heap.size w1 x6) := H5'.out.trans (b1.mono H5'.out.size)
  clear b1 H5'
  go_wp2_with fail
  refine (HDq.out _).mono ?_
  rintro e x7 ⟨rfl, b1⟩
  have H7' : Hid (Below w1.heap.size w1 x7) := H6'.out.trans (b1.mono H6'.out.size)
  clear b1 H6'
  go_wp2_with fail
  refine (HDk.out _).mono ?_
  rintro e x8 ⟨rfl, b1⟩
  have H8' : Hid (Below w1.heap.size w1 x8) := H7'.out.trans (b1.mono H7'.out.size)
  clear b1 H7'
  go_wp2_with fail
  refine (HDn.out _).mono ?_
  rintro e x9 ⟨rfl, b1⟩
  have H9' : Hid (Below w1.heap.size w1 x9) := H8'.out.trans (b1.mono H8'.out.size)
  clear b1 H8'
  go_wp2_with fail
  refine (HDk.out _).mono ?_
  rintro e x10 ⟨rfl, b1⟩
  have H10' : Hid (Below w1.heap.size w1 x10) := H9'.out.trans (b1.mono H9'.out.size)
  clear b1 H9'
  go_wp2_with fail
  refine (HDk.out _).mono ?_
  rintro e x11 ⟨rfl, b1⟩
  have H11' : Hid (Below w1.heap.size w1 x11) := H10'.out.trans (b1.mono H10'.out.size)
  clear b1 H10'
  go_wp2_with fail
  refine (HDk.out _).mono ?_
  rintro e x12 ⟨rfl, b1⟩
  have H12' : Hid (Below w1.heap.size w1 x12) := H11'.out.trans (b1.mono H11'.out.size)
  clear b1 H11'
  go_wp2_with fail
  refine (HDn.out _).mono ?_
  rintro e x13 ⟨rfl, b1⟩
  have H13' : Hid (Below w1.heap.size w1 x13) := H12'.out.trans (b1.mono H12'.out.size)
  clear b1 H12'
  go_wp2_with fail
  refine (HDn.out _).mono ?_
  rintro e x14 ⟨rfl, b1⟩
  have H14' : Hid (Below w1.heap.size w1 x14) := H13'.out.trans (b1.mono H13'.out.size)
  clear b1 H13'
  go_wp2_with fail
  refine (HDn.out _).mono ?_
  rintro e x15 ⟨rfl, b1⟩
  have H15' : Hid (Below w1.heap.size w1 x15) := H14'.out.trans (b1.mono H14'.out.size)
  clear b1 H14'
  go_upto_region 6 with fail
  have HL : Hid (A.length = 12) := by rw [Hid, HA.out]; rfl
  go_wp2_with fail
  refine (HDs.out _).mono ?_
  rintro e x16 ⟨rfl, b1⟩
  have H16' : Hid (Below w1.heap.size w1 x16) := H15'.out.trans (b1.mono H15'.out.size)
  clear b1 H15'
  go_wp2_with fail
  refine (HDd.out _).mono ?_
  rintro e x17 ⟨rfl, b1⟩
  have H17' : Hid (Below w1.heap.size w1 x17) := H16'.out.trans (b1.mono H16'.out.size)
  clear b1 H16'
  go_wp2_with fail
  refine (HDp.out _).mono ?_
  rintro e x18 ⟨rfl, b1⟩
  have H18' : Hid (Below w1.heap.size w1 x18) := H17'.out.trans (b1.mono H17'.out.size)
  clear b1 H17'
  go_wp2_with fail
  refine (HDn.out _).mono ?_
  rintro e x19 ⟨rfl, b1⟩
  have H19' : Hid (Below w1.heap.size w1 x19) := H18'.out.trans (b1.mono H18'.out.size)
  clear b1 H18'
  go_wp2_with fail
  refine (HDn.out _).mono ?_
  rintro e x20 ⟨rfl, b1⟩
  have H20' : Hid (Below w1.heap.size w1 x20) := H19'.out.trans (b1.mono H19'.out.size)
  clear b1 H19'
  go_wp2_with fail
  refine (HDf.out _).mono ?_
  rintro e x21 ⟨rfl, b1⟩
  have H21' : Hid (Below w1.heap.size w1 x21) := H20'.out.trans (b1.mono H20'.out.size)
  clear b1 H20'
  clear HDs HDd HDp HDn HDf HDk HDq hwr hwk hwp hwq hws hwd hwf
  go_upto_region 7 with fail
  have hW := blk_new x21 (.cells #[.string S, .string D, .string P, .string N, .string N, .string F, .string ⟨#[45, 49]⟩, .string ⟨#[48]⟩, .string ⟨#[48]⟩, .string ⟨#[73, 110, 102, 105, 110, 105, 116, 121]⟩, .string ⟨#[50]⟩, .string ⟨#[48]⟩] 9)
  have HW : Hid (Below w1.heap.size w1 (x21.alloc (.cells #[.string S, .string D, .string P, .string N, .string N, .string F, .string ⟨#[45, 49]⟩, .string ⟨#[48]⟩, .string ⟨#[48]⟩, .string ⟨#[73, 110, 102, 105, 110, 105, 116, 121]⟩, .string ⟨#[50]⟩, .string ⟨#[48]⟩] 9)) ∧ ∀ j, j < 12 → (x21.alloc (.cells #[.string S, .string D, .string P, .string N, .string N, .string F, .string ⟨#[45, 49]⟩, .string ⟨#[48]⟩, .string ⟨#[48]⟩, .string ⟨#[73, 110, 102, 105, 110, 105, 116, 121]⟩, .string ⟨#[50]⟩, .string ⟨#[48]⟩] 9)).cell? ⟨x21.heap.size, j, none⟩ = (A.map Value.string)[j]?) := by
    refine ⟨H21'.out.alloc H21'.out.size _, fun j hj => ?_⟩
    rw [blk_cell hW j, HA.out, List.getElem?_toArray]; rfl
  clear hW H21' HA
  generalize (x21.alloc (.cells #[.string S, .string D, .string P, .string N, .string N, .string F, .string ⟨#[45, 49]⟩, .string ⟨#[48]⟩, .string ⟨#[48]⟩, .string ⟨#[73, 110, 102, 105, 110, 105, 116, 121]⟩, .string ⟨#[50]⟩, .string ⟨#[48]⟩] 9)) = W at *
  generalize x21.heap.size = wb at *
  go_wp2_with fail
  refine (HBn.out W HW.out.1).mono ?_
  rintro e y1 ⟨rfl, b1⟩
  have hol := outs_len A HZ.out
  have hll := HL.out
  have hos : (⟨(outs A).toArray⟩ : ByteArray).size = (outs A).length := rfl
  go_wp2_with fail
  refine (lines_any ⟨(outs A).toArray⟩ A y1 rfl (by rw [hos]; omega) HNo.out (by omega)).mono ?_
  rintro e y2 ⟨v, rfl, hv, b2⟩
  have HV : Hid (HasS y2 y1.heap.size v A) := hv
  obtain ⟨g, cap, rfl, hgl, hgc⟩ : ∃ g cap, v = .slice (some ⟨g, 0, none⟩) 12 cap ∧ g < y2.heap.size ∧ ∀ j, j < 12 → y2.cell? ⟨g, j, none⟩ = (A.map Value.string)[j]? := by
    have h0 := HV.out
    unfold HasS at h0
    rw [hll] at h0
    have h00 := h0
    obtain ⟨hl, h⟩ := h0
    rcases h with ⟨-, h⟩ | ⟨g, cap, cur, rfl, hg, hc, hm, hm2, hs, ht⟩
    · omega
    · exact ⟨g, cap, rfl, (Array.getElem?_eq_some_iff.1 hc).1, fun j hj => World.ownsRow.cellAt h00 j (by omega)⟩
  have HY : Hid (Below w1.heap.size w1 y2 ∧ ∀ X, Below y2.heap.size y2 X → ∀ j, j < 12 → ∃ a, X.cell? ⟨g, j, none⟩ = some (.string a) ∧ X.cell? ⟨wb, j, none⟩ = some (.string a)) := by
    have hb12 : Below W.heap.size W y2 := b1.trans (b2.mono b1.size)
    refine ⟨HW.out.1.trans (hb12.mono HW.out.1.size), fun X hX j hj => ?_⟩
    have hj2 : j < A.length := by omega
    refine ⟨A[j], ?_, ?_⟩
    · rw [hX.cell hgl, hgc j hj, List.getElem?_map, List.getElem?_eq_getElem hj2]; rfl
    · have hwc := HW.out.2 j hj
      rw [List.getElem?_map, List.getElem?_eq_getElem hj2] at hwc
      have hwl := World.block_lt_of_cell? _ _ hwc
      exact ((hb12.trans (hX.mono hb12.size)).cell hwl).trans hwc
  clear hv HV b1 b2 HW hgc HNo HZ HBn hol hos
  go_upto_region 10 with fail
  go_wp2
  go_loopw [8] (fun i wr => ∃ j : Nat, j ≤ 12 ∧ i = .int .i64 j ∧ Hid (Below y2.heap.size y2 wr)) (fun i _ => 12 - (intOf i).toNat)
  case atStart => exact ⟨0, Nat.zero_le _, rfl, Below.refl _ _⟩
  case round =>
    obtain ⟨j, hj, rfl, hbel⟩ := hrel
    by_cases hlt : j < 12
    · obtain ⟨a, c1, c2⟩ := HY.out.2 _ hbel.out j hlt
      obtain ⟨a', d1, d2⟩ := HY.out.2 _ hbel.out.drew j hlt
      have hlt2 : (j : Int) < 12 := by omega
      have HD : Hid (Below y2.heap.size y2 wr.drew) := hbel.out.drew
      go_upto_region 13 with fail
      go_region
      go_wp2
      go_roundw
      case rel => exact ⟨j + 1, by omega, by go_num, HD.out⟩
      case measure => simp [intOf]; omega
    · have hj2 : j = 12 := by omega
      subst hj2
      have HE : Hid (Below w1.heap.size w1 wr) := HY.out.1.trans (hbel.out.mono HY.out.1.size)
      go_wp2
      go_ret
      exact ⟨rfl, HE.out⟩
end Go.Proofs.YteofommckgeemaaGreatDoor
namespace Go.Proofs.YteofommckgeemaaGreatDoor
open Go.RowKit

/-- What is told of a slice of integers that came in: it is nil; or it leads to a row of 'cap' cells, the numbers 'zs' (the first 'len' are its elements, the rest its spare room), each fitting its kind. -/
def IsRow (k : IntKind) (w : World) (a : Option Addr) (len cap : Nat) (zs : List Int) : Prop :=
  (a = none ∧ len = 0 ∧ cap = 0 ∧ zs = []) ∨
  ∃ x, a = some x ∧ len ≤ cap ∧ cap ≤ maxLen ∧ zs.length = cap ∧ (∀ i, i < zs.length → w.cell? (x.add i) = some (.int k (zs.getD i 0))) ∧ ∀ n ∈ zs, (Lit.int k n).wf = true
theorem IsRow.below {k : IntKind} {w w' : World} {a : Option Addr} {len cap : Nat} {zs : List Int} (h : IsRow k w a len cap zs) (hb : Below w.heap.size w w') : IsRow k w' a len cap zs := by
  rcases h with h | ⟨x, rfl, h1, h2, h3, h4, h5⟩
  · exact .inl h
  · refine .inr ⟨x, rfl, h1, h2, h3, fun i hi => ?_, h5⟩
    have := h4 i hi
    exact (hb.cell (p := x.add i) (by have := World.block_lt_of_cell? _ _ this; exact this)).trans this
end Go.Proofs.YteofommckgeemaaGreatDoor
namespace Go.Proofs.YteofommckgeemaaGreatDoor
open Go.RowKit
set_option linter.unusedVariables false
set_option maxRecDepth 100000
theorem bigTop_yes (a : Option Addr) (len cap : Nat) (w : World) (h : 4096 < len) :
    Calls Tryz.prog 6 #[.slice a len cap] w fun e w' => e = .returned (.bool true) ∧ w' = w := by
  have h' : decide ((4096 : Int) < (len : Int)) = true := decide_eq_true (by omega)
  go_enter Tryz.func6, Tryz.ntmps6
  go_wp2
  go_ret
  exact ⟨rfl, rfl⟩
theorem code_of_row {w : World} {a : Option Addr} {len cap : Nat} {zs : List Int} (h : IsRow .u8 w a len cap zs) : CodeB w a len cap := by
  rcases h with ⟨h1, h2, h3, -⟩ | ⟨x, rfl, hl, -, hz, hc, hw⟩
  · exact .inl ⟨h1, h2, h3⟩
  · refine .inr ⟨x, rfl, zs.take len, by rw [List.length_take]; omega, fun j hj => ?_⟩
    rw [List.length_take] at hj
    have e : (zs.take len).getD j 0 = zs.getD j 0 := by
      rw [List.getD_eq_getElem?_getD, List.getD_eq_getElem?_getD, List.getElem?_take, if_pos (by omega)]
    rw [e]
    refine ⟨hc j (by omega), ?_⟩
    have := range_u8 hw j
    simpa [List.getD] using this
theorem fnTop_all (a0 : Option Addr) (len0 cap0 : Nat) (z0 : List Int) (w : World) (h : IsRow .u8 w a0 len0 cap0 z0) (hT : TB w) :
    Calls Tryz.prog 3 #[.slice a0 len0 cap0] w fun e w' => e = .returned (.bool true) ∧ Below w.heap.size w w' := by
  by_cases hbig : 4096 < len0
  · clear h hT
    go_enter Tryz.func3, Tryz.ntmps3
    go_wp2_with fail
    refine (bigTop_yes _ _ _ _ hbig).mono ?_
    rintro e w' ⟨rfl, rfl⟩
    go_wp2
    go_ret
    exact ⟨rfl, Below.refl _ _⟩
  exact fnTop_any a0 len0 cap0 w hbig (bytes_of_row h) (code_of_row h) hT
end Go.Proofs.YteofommckgeemaaGreatDoor
namespace Go.Proofs.YteofommckgeemaaGreatDoor
open Go.ChangeShapes Go.WideShapes Go.ChangeAt Go.RowKit
def u8ren : Go.Shelf.Ren := ⟨fun x => x, fun n => if n = 5 then 5 else if n = 119 then 304 else if n = 138 then 306 else 307, fun n => if n = 3 then 4 else 5⟩
theorem u8types : Go.Proofs.U8Types Tryz.prog u8ren := ⟨by kernel_rfl, by kernel_rfl, by kernel_rfl, by kernel_rfl⟩
theorem u8extra : Go.Proofs.U8Extra Tryz.prog u8ren := ⟨by kernel_rfl, by kernel_rfl, by kernel_rfl, by kernel_rfl, by kernel_rfl, by kernel_rfl, by kernel_rfl⟩
theorem u8first : Rows.laid_unicode_utf8_first = Go.Lib.firstData := by kernel_rfl
theorem u8accept : (Rows.laid_unicode_utf8_acceptRanges : DataW Unit) = Go.Lib.acceptData := by kernel_rfl
theorem utabs_at {W : World} {l : List (String × DataW Unit)} (h : laidMet Tryz.prog l W) (h1 : ("unicode/utf8.first", Rows.laid_unicode_utf8_first) ∈ l) (h2 : ("unicode/utf8.acceptRanges", (Rows.laid_unicode_utf8_acceptRanges : DataW Unit)) ∈ l) : Lib.Utf8Tabs 4 5 W := by
  have r1 := Lib.laidMet.reads h h1
  have r2 := Lib.laidMet.reads h h2
  rw [u8first] at r1
  rw [u8accept] at r2
  exact Go.Proofs.utf8Tabs_of_readsT u8types u8extra r1 r2
end Go.Proofs.YteofommckgeemaaGreatDoor
namespace Go.Proofs.YteofommckgeemaaGreatDoor
open Go.ChangeShapes Go.WideShapes Go.ChangeAt Go.RowKit
theorem own : ownKnob Tryz.prog.godebug = none := by kernel_rfl
theorem laidOut : laidOutB Tryz.prog = true := by kernel_rfl
theorem gPowType : (Tryz.prog.globals[3]?).map (·.type) = some 289 := by kernel_rfl
theorem cellsU : Tryz.prog.cellsOf 95 = 1 := by kernel_rfl
theorem cells20 : Tryz.prog.cellsOf 289 = 20 := by kernel_rfl
theorem ptab_at {W : World} {rest : List (String × DataW Unit)} (h : laidMet Tryz.prog (("internal/strconv.uint64pow10", Rows.laid_internal_strconv_uint64pow10) :: rest) W) : PTab W := by
  unfold PTab
  exact Lib.tabIs_of_head (k := .u64) (zs := Lib.pow10Tab) gPow gPowType Tryz.underlying289 Tryz.underlying95 cellsU cells20 h
theorem gKpl : Tryz.prog.globalNamed "loop.example/g00085/impl.kindPlaces" = some 1 := by kernel_rfl
theorem gKplType : (Tryz.prog.globals[1]?).map (·.type) = some 264 := by kernel_rfl
theorem cellsI : Tryz.prog.cellsOf 2 = 1 := by kernel_rfl
theorem cells5 : Tryz.prog.cellsOf 264 = 5 := by kernel_rfl
theorem ktab_at {W : World} {rest : List (String × DataW Unit)} (h : laidMet Tryz.prog (("loop.example/g00085/impl.kindPlaces", Rows.laid_loop_example_g00085_impl_kindPlaces) :: rest) W) : KTab W := by
  obtain ⟨ps, ⟨g', t', cs, fuel, p, q, hg', ht', hvar, hd, _, _⟩, _⟩ := h
  obtain rfl := Option.some.inj (gKpl.symm.trans hg')
  obtain rfl := Option.some.inj (gKplType.symm.trans ht')
  have r0 := Lib.cells_of_tab (k := .i64) (zs := [0, 0, 1, 3, 2]) Tryz.underlying264 Tryz.underlying2 cellsI cells5 (p := p) hd
  have hall : ∀ i, W.cell? ⟨1, i, none⟩ = cs.toList[i]? := fun i => by simpa using World.var?_cell gKpl hvar i
  have ht : ∀ k : Nat, 1 ≤ k → k ≤ 4 → W.cell? ⟨1, k, none⟩ = some (.int .i64 (kpl k)) := by
    intro k h1 h4
    rw [hall, r0]
    match k, h1, h4 with
    | 1, _, _ | 2, _, _ | 3, _, _ | 4, _, _ => rfl
  exact ⟨ht, World.block_lt_of_cell? _ _ (ht 1 (by decide) (by decide))⟩
/-- The listed variables that are plain data. -/
abbrev plainL : List (String × DataW Unit) := Rows.fnTopRow.laid.filter fun x => x.2.handleName?.isNone
theorem btabs_of_laid {W : World} (h : laidMetH Tryz.prog Rows.fnTopRow.laid W) : TB W := by
  have h' : laidMet Tryz.prog plainL W ∧ handlesMet Tryz.prog (Rows.fnTopRow.laid.filter fun x => x.2.handleName?.isSome) W := h
  have hd : laidMet Tryz.prog [("math/bits.deBruijn32tab", Rows.laid_math_bits_deBruijn32tab), ("math/bits.deBruijn64tab", Rows.laid_math_bits_deBruijn64tab), ("internal/strconv.uint64pow10", Rows.laid_internal_strconv_uint64pow10), ("unicode/utf8.acceptRanges", Rows.laid_unicode_utf8_acceptRanges), ("strconv.ErrRange", Rows.laid_strconv_ErrRange), ("strconv.ErrSyntax", Rows.laid_strconv_ErrSyntax), ("loop.example/g00085/impl.bitWeights", Rows.laid_loop_example_g00085_impl_bitWeights), ("loop.example/g00085/impl.decletRows", Rows.laid_loop_example_g00085_impl_decletRows), ("loop.example/g00085/impl.kindPlaces", Rows.laid_loop_example_g00085_impl_kindPlaces), ("unicode/utf8.first", Rows.laid_unicode_utf8_first)] W := h'.1
  have p1 : PTab W := ptab_at (laidMet.tail (laidMet.tail hd))
  have p2 : UTb W := utabs_at hd (.tail _ (.tail _ (.tail _ (.tail _ (.tail _ (.tail _ (.tail _ (.tail _ (.tail _ (.head _)))))))))) (.tail _ (.tail _ (.tail _ (.head _))))
  have p3 : KTab W := ktab_at (laidMet.tail (laidMet.tail (laidMet.tail (laidMet.tail (laidMet.tail (laidMet.tail (laidMet.tail (laidMet.tail hd))))))))
  exact TB.of p1 p2 p3
/-- A world that meets the condition: the listed data laid, the handle's cell besides. -/
noncomputable def startW (os : Os) : World :=
  let w0 := World.holding Tryz.prog os ⟨#[], #[], []⟩
  { w0 with heap := w0.heap.modify 0 fun
      | .cells _ t frozen => .cells #[.iface 215 (.agg #[typeHandle Tryz.prog 39])] t frozen
      | o => o }
noncomputable def laidWorld (os : Os) : World := (startW os).layVars Tryz.prog plainL
theorem laidWorld_os (os : Os) : (laidWorld os).os = os := World.layVars_os _ _ _
theorem laidWorld_plain (os : Os) (args : Array Value) : laidMet Tryz.prog plainL ((laidWorld os).forCall (fun _ _ => 0) ⟨#[], args, []⟩).memory := by
  have e1 : (plainL.filter fun x => (plainL.map (·.1)).contains x.1) = plainL := List.filter_eq_self.2 fun x hx => List.contains_iff_mem.2 (List.mem_map.2 ⟨x, hx, rfl⟩)
  have e2 : (plainL.filter fun x => !(plainL.map (·.1)).contains x.1) = [] := List.filter_eq_nil_iff.2 fun x hx => by rw [List.contains_iff_mem.2 (List.mem_map.2 ⟨x, hx, rfl⟩)]; simp
  have h : laidMet Tryz.prog plainL (laidWorld os) := laidMet_layVars (w0 := startW os) (plainL.map (·.1)) [] (by rw [e1]; rfl) (by rw [e1]; kernel_rfl) (by rw [e1]; kernel_rfl) (by rw [e2]; exact LaidIn.none)
  exact h.of_heap (by simp [World.memory, World.forCall, Input.heap])
theorem laidWorld_met (os : Os) (args : Array Value) : laidMetH Tryz.prog Rows.fnTopRow.laid ((laidWorld os).forCall (fun _ _ => 0) ⟨#[], args, []⟩).memory :=
  laidMetH_of_parts3 (fuel := 8) (laidWorld_plain os args) (by kernel_rfl) (by kernel_rfl)
theorem vars1 {H : Type} {enc : TypeId × Value → H} {P : Program} {w : World} {sp : Nat → Bool} {n : String} {gs : List (DataW H)} {ps : List MemPlace} (h : DataW.TrodVars enc P w sp [n] gs ps) : ∃ g0, gs = [g0] := by
  obtain ⟨_, _, _, _, d, _, rfl, _⟩ := trodVars_one h
  exact ⟨d, rfl⟩
theorem vars2 {H : Type} {enc : TypeId × Value → H} {P : Program} {w : World} {sp : Nat → Bool} {n m : String} {gs : List (DataW H)} {ps : List MemPlace} (h : DataW.TrodVars enc P w sp [n, m] gs ps) : ∃ g0 g1, gs = [g0, g1] := by
  cases gs with
  | nil => simp [DataW.TrodVars] at h
  | cons g0 r =>
    obtain ⟨_, _, _, _, _, _, _, _, _, _, hs, _⟩ := h
    obtain ⟨g1, rfl⟩ := vars1 hs
    exact ⟨_, _, rfl⟩
theorem vars3 {H : Type} {enc : TypeId × Value → H} {P : Program} {w : World} {sp : Nat → Bool} {n m l : String} {gs : List (DataW H)} {ps : List MemPlace} (h : DataW.TrodVars enc P w sp [n, m, l] gs ps) : ∃ g0 g1 g2, gs = [g0, g1, g2] := by
  cases gs with
  | nil => simp [DataW.TrodVars] at h
  | cons g0 r =>
    obtain ⟨_, _, _, _, _, _, _, _, _, _, hs, _⟩ := h
    obtain ⟨g1, g2, rfl⟩ := vars2 hs
    exact ⟨_, _, _, rfl⟩
end Go.Proofs.YteofommckgeemaaGreatDoor
