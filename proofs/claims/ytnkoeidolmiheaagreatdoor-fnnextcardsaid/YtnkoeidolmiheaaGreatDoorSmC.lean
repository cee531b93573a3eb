/-
  The model's sum of two finite numbers, walked: noughts.
-/
import Derived.Test.YtnkoeidolmiheaaGreatDoorIsR2
import Derived.Test.YtnkoeidolmiheaaGreatDoorRnd2
import Derived.Test.YtnkoeidolmiheaaGreatDoorFinA
import Derived.Test.YtnkoeidolmiheaaGreatDoorNtL
import Derived.BigQuiet
import Derived.Deep.DeepCutAuto
namespace Go.Proofs.YtnkoeidolmiheaaGreatDoor
open Go.RowKit
set_option linter.unusedVariables false
set_option maxRecDepth 100000
theorem one4 (k : Int) (b : Bool) (e : Int) (s : ByteArray) : (#[.int .i64 k, .bool b, .int .i64 e, .string s] : Array Value).all (·.oneCell') = true := by simp [Value.oneCell']
theorem build_nan (w : World) : (Instr.build 25 #[(0, .int .i64 3)]).run Tryz.prog w = .ok (numV 3 false 0 { data := #[] }) w := run_build w _ _ _ (by kernel_rfl)
/-- Numbers in a row, four cells each. -/
def NRw (W : World) (g n : Nat) (K : Nat → Int) (B : Nat → Bool) (E : Nat → Int) (S : Nat → ByteArray) : Prop :=
  ∀ i, i < n → W.cell? ⟨g, i * 4, none⟩ = some (.int .i64 (K i)) ∧ W.cell? ⟨g, i * 4 + 1, none⟩ = some (.bool (B i)) ∧ W.cell? ⟨g, i * 4 + 2, none⟩ = some (.int .i64 (E i)) ∧ W.cell? ⟨g, i * 4 + 3, none⟩ = some (.string (S i))
theorem NRw.below {W w1 : World} {g n Bd : Nat} {K : Nat → Int} {B : Nat → Bool} {E : Nat → Int} {S : Nat → ByteArray} (h : NRw W g n K B E S) (hb : Below Bd W w1) (hg : g < Bd) : NRw w1 g n K B E S := fun i hi =>
  ⟨(hb.cell (p := ⟨g, i * 4, none⟩) hg).trans (h i hi).1, (hb.cell (p := ⟨g, i * 4 + 1, none⟩) hg).trans (h i hi).2.1, (hb.cell (p := ⟨g, i * 4 + 2, none⟩) hg).trans (h i hi).2.2.1, (hb.cell (p := ⟨g, i * 4 + 3, none⟩) hg).trans (h i hi).2.2.2⟩
theorem l13Nan_any (w : World) : Calls Tryz.prog 127 #[] w fun x w' => x = .returned (numV 3 false 0 { data := #[] }) ∧ Below w.heap.size w w' := by
  have hb := build_nan
  go_enter Tryz.func127, Tryz.ntmps127
  go_wp2
  have hP := at4_new w (.int .i64 3) (.bool false) (.int .i64 0) (.string { data := #[] })
  refine bodyPost_ret (results_num rfl _ _ rfl hP.1 hP.2.1 hP.2.2.1 hP.2.2.2.1) rfl ?_
  exact ⟨rfl, (Below.refl _ _).alloc (Nat.le_refl _) _⟩
theorem l13Invalid_any (w : World) : Calls Tryz.prog 59 #[] w fun x w' => x = .returned (rsV 3 false 0 { data := #[] } 1) ∧ Below w.heap.size w w' := by
  have hZ := at5_new w (.int .i64 0) (.bool false) (.int .i64 0) (.string { data := #[] }) (.int .i64 0)
  have hB : Below w.heap.size w (w.alloc (.cells #[.int .i64 0, .bool false, .int .i64 0, .string { data := #[] }, .int .i64 0] 29)) := (Below.refl _ _).alloc (Nat.le_refl _) _
  have HZ : Hid (At5 (w.alloc (.cells #[.int .i64 0, .bool false, .int .i64 0, .string { data := #[] }, .int .i64 0] 29)) w.heap.size (.int .i64 0) (.bool false) (.int .i64 0) (.string { data := #[] }) (.int .i64 0) ∧ Below w.heap.size w (w.alloc (.cells #[.int .i64 0, .bool false, .int .i64 0, .string { data := #[] }, .int .i64 0] 29))) := ⟨hZ, hB⟩
  clear hZ hB
  have hbl := build_res 3 false 0 { data := #[] } 1
  go_enter Tryz.func59, Tryz.ntmps59
  go_wp2_with fail
  refine (l13Nan_any _).mono ?_
  rintro e w1 ⟨rfl, hb1⟩
  have HZ3 : Hid (At5 w1 w.heap.size (.int .i64 0) (.bool false) (.int .i64 0) (.string { data := #[] }) (.int .i64 0) ∧ Below w.heap.size w w1) := ⟨HZ.out.1.below hb1 HZ.out.1.lt, HZ.out.2.trans (hb1.mono HZ.out.2.size)⟩
  clear hb1 HZ
  go_wp2_with (refine wpList_store_row rfl _ _ _ rfl w.heap.size #[.int .i64 3, .bool false, .int .i64 0, .string { data := #[] }, .int .i64 1] rfl rfl _ _ HZ3.out.1 (by kernel_rfl) rfl (one5 _ _ _ _ _) ?_)
  have hP := (HZ3.out.1.row (.int .i64 3) (.bool false) (.int .i64 0) (.string { data := #[] }) (.int .i64 1)).cells
  refine bodyPost_ret (results_res rfl _ _ rfl hP.1 hP.2.1 hP.2.2.1 hP.2.2.2.1 hP.2.2.2.2.1) rfl ?_
  exact ⟨rfl, bel_row HZ3.out.2 (Nat.le_refl _) _⟩
theorem l13Inf_any (b : Bool) (w : World) : Calls Tryz.prog 60 #[.bool b] w fun x w' => x = .returned (rsV 2 b 0 { data := #[] } 0) ∧ Below w.heap.size w w' := by
  have hbi := build_inf b
  have hbl := build_res0 2 b 0 { data := #[] }
  go_enter Tryz.func60, Tryz.ntmps60
  go_wp2
  have hP := (at5_new w (.int .i64 2) (.bool b) (.int .i64 0) (.string { data := #[] }) (.int .i64 0)).cells
  refine bodyPost_ret (results_res rfl _ _ rfl hP.1 hP.2.1 hP.2.2.1 hP.2.2.2.1 hP.2.2.2.2.1) rfl ?_
  exact ⟨rfl, (Below.refl _ _).alloc (Nat.le_refl _) _⟩
theorem bel_two (w : World) (o o' : Obj) : Below w.heap.size w ((w.alloc o).alloc o') := ((Below.refl _ _).alloc (Nat.le_refl _) _).alloc (by simp) _
theorem l13Turn_any (k : Int) (b : Bool) (e : Int) (s : ByteArray) (w : World) : Calls Tryz.prog 106 #[numV k b e s] w fun x w' => x = .returned (numV k (if k = 1 ∨ k = 2 then !b else b) e s) ∧ Below w.heap.size w w' := by
  by_cases h1 : k = 1
  · subst h1
    rw [if_pos (.inl rfl)]
    go_enter Tryz.func106, Tryz.ntmps106
    go_wp2
    have hP := at4_new (w.alloc (.cells #[.int .i64 1, .bool (!b), .int .i64 e, .string s] 25)) (.int .i64 1) (.bool (!b)) (.int .i64 e) (.string s)
    rw [show (w.alloc (.cells #[.int .i64 1, .bool (!b), .int .i64 e, .string s] 25)).heap.size = w.heap.size + 1 by simp] at hP
    refine bodyPost_ret (results_num rfl _ _ rfl hP.1 hP.2.1 hP.2.2.1 hP.2.2.2.1) rfl ?_
    exact ⟨rfl, bel_two _ _ _⟩
  · by_cases h2 : k = 2
    · subst h2
      rw [if_pos (.inr rfl)]
      go_enter Tryz.func106, Tryz.ntmps106
      go_wp2
      have hP := at4_new (w.alloc (.cells #[.int .i64 2, .bool (!b), .int .i64 e, .string s] 25)) (.int .i64 2) (.bool (!b)) (.int .i64 e) (.string s)
      rw [show (w.alloc (.cells #[.int .i64 2, .bool (!b), .int .i64 e, .string s] 25)).heap.size = w.heap.size + 1 by simp] at hP
      refine bodyPost_ret (results_num rfl _ _ rfl hP.1 hP.2.1 hP.2.2.1 hP.2.2.2.1) rfl ?_
      exact ⟨rfl, bel_two _ _ _⟩
    · rw [if_neg (fun h => h.elim h1 h2)]
      have c1 : (k == 1) = false := beq_eq_false_iff_ne.2 h1
      have c2 : (k == 2) = false := beq_eq_false_iff_ne.2 h2
      clear h1 h2
      go_enter Tryz.func106, Tryz.ntmps106
      go_wp2
      have hP := at4_new (w.alloc (.cells #[.int .i64 k, .bool b, .int .i64 e, .string s] 25)) (.int .i64 k) (.bool b) (.int .i64 e) (.string s)
      rw [show (w.alloc (.cells #[.int .i64 k, .bool b, .int .i64 e, .string s] 25)).heap.size = w.heap.size + 1 by simp] at hP
      refine bodyPost_ret (results_num rfl _ _ rfl hP.1 hP.2.1 hP.2.2.1 hP.2.2.2.1) rfl ?_
      exact ⟨rfl, bel_two _ _ _⟩
theorem l13Ok_any (f m : Int) (n g : Nat) (K : Nat → Int) (B : Nat → Bool) (E : Nat → Int) (S : Nat → ByteArray) (w : World) (hn : n ≤ 3) (hg : g < w.heap.size) (hr : NRw w g n K B E S) (hs : ∀ i, i < n → (S i).size ≤ 4611686018427387904) :
    Calls Tryz.prog 57 #[.int .i64 f, .int .i64 m, .slice (some ⟨g, 0, none⟩) n n] w fun x w' => x = .returned (.bool (decide (1 ≤ m ∧ m ≤ 5) && decide (∀ i, i < n → numB f (K i) (B i) (E i) (S i) = true))) ∧ Below w.heap.size w w' := by
  by_cases hm : 1 ≤ m ∧ m ≤ 5
  · rw [decide_eq_true hm, Bool.true_and]
    have HM : Hid (decide (1 ≤ m ∧ m ≤ 5) = true) := decide_eq_true hm
    have HR : Hid (NRw w g n K B E S ∧ g < w.heap.size) := ⟨hr, hg⟩
    have HSz : Hid (∀ i, i < n → (S i).size ≤ 4611686018427387904) := hs
    clear hm hr hs hg
    obtain ⟨R, hR⟩ : ∃ R, decide (∀ i, i < n → numB f (K i) (B i) (E i) (S i) = true) = R := ⟨_, rfl⟩
    have HRe : Hid (decide (∀ i, i < n → numB f (K i) (B i) (E i) (S i) = true) = R) := hR
    rw [hR]
    clear hR
    go_enter Tryz.func57, Tryz.ntmps57
    go_wp2_with fail
    refine (l12Mode_any m _).mono ?_
    rintro e w1 ⟨rfl, rfl⟩
    rw [HM.out]
    go_wp2
    go_loopw [7] (fun s wr => ∃ j : Nat, j ≤ n ∧ s = .int .i64 j ∧ Hid (∀ i, i < j → numB f (K i) (B i) (E i) (S i) = true) ∧ Hid (Below w1.heap.size w1 wr)) (fun s _ => n - (intOf s).toNat)
    case atStart => exact ⟨0, Nat.zero_le _, rfl, fun i hi => by omega, Below.refl _ _⟩
    case round =>
      obtain ⟨j, hj, rfl, hA, hBw⟩ := hrel
      by_cases hlt : j < n
      · obtain ⟨q0, q1, q2, q3⟩ := (HR.out.1.below hBw.out HR.out.2) j hlt
        have hlt' : (j : Int) < (n : Int) := by omega
        have HN : Hid (∀ X, Calls Tryz.prog 43 #[.int .i64 f, numV (K j) (B j) (E j) (S j)] X fun e w' => e = .returned (.bool (numB f (K j) (B j) (E j) (S j))) ∧ Below X.heap.size X w') := fun X => sNumOk_any f (K j) (B j) (E j) (S j) X (HSz.out j hlt)
        have HV : Hid (numB f (K j) (B j) (E j) (S j) = numB f (K j) (B j) (E j) (S j)) := rfl
        obtain ⟨V, hV⟩ : ∃ V, numB f (K j) (B j) (E j) (S j) = V := ⟨_, rfl⟩
        have HVe : Hid (numB f (K j) (B j) (E j) (S j) = V) := hV
        rw [hV] at HN
        clear hV HV
        generalize K j = k0 at q0 HN
        generalize B j = b0 at q1 HN
        generalize E j = e0 at q2 HN
        generalize S j = s0 at q3 HN
        go_wp2_with fail
        refine (HN.out _).mono ?_
        rintro e w2 ⟨rfl, hb2⟩
        have HB2 : Hid (Below w1.heap.size w1 w2) := hBw.out.trans (hb2.mono hBw.out.size)
        clear hb2 hBw q0 q1 q2 q3 HN
        cases V
        · have E0 : Hid (R = false) := by
            show _ = _
            rw [← HRe.out]
            exact decide_eq_false fun h => by have := h j hlt; rw [HVe.out] at this; cases this
          go_wp2
          go_ret
          exact ⟨by rw [E0.out]; rfl, HB2.out⟩
        · go_wp2
          go_roundw
          case rel => exact ⟨j + 1, by omega, by go_num, fun i hi => by
            by_cases c : i < j
            · exact hA.out i c
            · obtain rfl : i = j := by omega
              exact HVe.out, HB2⟩
          case measure => simp [intOf]; omega
      · obtain rfl : j = n := by omega
        have E0 : Hid (R = true) := by
          show _ = _
          rw [← HRe.out]
          exact decide_eq_true hA.out
        go_wp2
        go_ret
        exact ⟨by rw [E0.out]; rfl, hBw.out⟩
  · rw [decide_eq_false hm, Bool.false_and]
    have HM : Hid (decide (1 ≤ m ∧ m ≤ 5) = false) := decide_eq_false hm
    clear hm hr hs hg
    go_enter Tryz.func57, Tryz.ntmps57
    go_wp2_with fail
    refine (l12Mode_any m _).mono ?_
    rintro e w1 ⟨rfl, rfl⟩
    rw [HM.out]
    go_wp2
    go_ret
    exact ⟨rfl, Below.refl _ _⟩
theorem results_rt {fn : Func} {p t : Tmp} {b : Nat} {x y z u v : Value} (h : fn.results = #[.cell p 29, .tmp t]) (tmps : Array Value) (w : World) (hp : tmps[p]?.getD undef = .pointer (some ⟨b, 0, none⟩))
    (q0 : w.cell? ⟨b, 0, none⟩ = some x) (q1 : w.cell? ⟨b, 1, none⟩ = some y) (q2 : w.cell? ⟨b, 2, none⟩ = some z) (q3 : w.cell? ⟨b, 3, none⟩ = some u) (q4 : w.cell? ⟨b, 4, none⟩ = some v) : (results fn tmps).run Tryz.prog w = .ok (.tuple #[.agg #[x, y, z, u, v], tmps.getD t undef]) w := by
  simp [results, h, hp, go_sem, q0, q1, q2, q3, q4]
/-- The flags and whether there is a NaN. -/
def spF (n : Nat) (K : Nat → Int) : Int := if ∃ i, i < n ∧ K i = 4 then 1 else 0
def spB (n : Nat) (K : Nat → Int) : Bool := decide (∃ i, i < n ∧ (K i = 3 ∨ K i = 4))
set_option maxHeartbeats 1000000 in
theorem l13Special_any (n g : Nat) (K : Nat → Int) (B : Nat → Bool) (E : Nat → Int) (S : Nat → ByteArray) (w : World) (hn : n ≤ 3) (hg : g < w.heap.size) (hr : NRw w g n K B E S) :
    Calls Tryz.prog 58 #[.slice (some ⟨g, 0, none⟩) n n] w fun x w' => x = .returned (.tuple #[rsV 3 false 0 { data := #[] } (spF n K), .bool (spB n K)]) ∧ Below w.heap.size w w' := by
  have hZ := at5_new w (.int .i64 0) (.bool false) (.int .i64 0) (.string { data := #[] }) (.int .i64 0)
  have hB : Below w.heap.size w (w.alloc (.cells #[.int .i64 0, .bool false, .int .i64 0, .string { data := #[] }, .int .i64 0] 29)) := (Below.refl _ _).alloc (Nat.le_refl _) _
  obtain ⟨W, hW⟩ : ∃ W, w.alloc (.cells #[.int .i64 0, .bool false, .int .i64 0, .string { data := #[] }, .int .i64 0] 29) = W := ⟨_, rfl⟩
  have hr' := hr.below hB hg
  rw [hW] at hZ hB hr'
  have HZ : Hid (At5 W w.heap.size (.int .i64 0) (.bool false) (.int .i64 0) (.string { data := #[] }) (.int .i64 0) ∧ Below w.heap.size w W) := ⟨hZ, hB⟩
  have HR : Hid (NRw W g n K B E S) := hr'
  clear hZ hB hr hr' hg
  go_enter Tryz.func58, Tryz.ntmps58
  go_wp2
  clear hW
  go_loop [4, 5] (fun b s => ∃ j : Nat, j ≤ n ∧ s = .int .i64 j ∧ b = .bool (decide (∃ i, i < j ∧ K i = 3)) ∧ Hid (∀ i, i < j → K i ≠ 4)) (fun _ s => n - (intOf s).toNat)
  case atStart => exact ⟨0, Nat.zero_le _, rfl, by simp, fun i hi => by omega⟩
  case round =>
    obtain ⟨j, hj, rfl, rfl, hA⟩ := hrel
    by_cases hlt : j < n
    · obtain ⟨q0, -, -, -⟩ := HR.out j hlt
      have hlt' : (j : Int) < (n : Int) := by omega
      obtain ⟨V, hV⟩ : ∃ V, decide (∃ i, i < j ∧ K i = 3) = V := ⟨_, rfl⟩
      have HV : Hid (decide (∃ i, i < j ∧ K i = 3) = V) := hV
      rw [hV]
      obtain ⟨k0, hk0⟩ : ∃ k0, K j = k0 := ⟨_, rfl⟩
      have HK : Hid (K j = k0) := hk0
      rw [hk0] at q0
      clear hV hk0
      by_cases h4 : k0 = 4
      · subst h4
        have EF : Hid (spF n K = 1 ∧ spB n K = true) := ⟨if_pos ⟨j, hlt, HK.out⟩, decide_eq_true ⟨j, hlt, .inr HK.out⟩⟩
        clear hA
        go_wp2_with fail
        refine (l13Invalid_any _).mono ?_
        rintro e w1 ⟨rfl, hb1⟩
        have HZ3 : Hid (At5 w1 w.heap.size (.int .i64 0) (.bool false) (.int .i64 0) (.string { data := #[] }) (.int .i64 0) ∧ Below w.heap.size w w1) := ⟨HZ.out.1.below hb1 HZ.out.1.lt, HZ.out.2.trans (hb1.mono HZ.out.2.size)⟩
        clear hb1 HZ q0
        go_wp2_with (refine wpList_store_row rfl _ _ _ rfl w.heap.size #[.int .i64 3, .bool false, .int .i64 0, .string { data := #[] }, .int .i64 1] rfl rfl _ _ HZ3.out.1 (by kernel_rfl) rfl (one5 _ _ _ _ _) ?_)
        have hP := (HZ3.out.1.row (.int .i64 3) (.bool false) (.int .i64 0) (.string { data := #[] }) (.int .i64 1)).cells
        refine bodyPost_ret (results_rt rfl _ _ rfl hP.1 hP.2.1 hP.2.2.1 hP.2.2.2.1 hP.2.2.2.2.1) rfl ?_
        exact ⟨by rw [EF.out.1, EF.out.2]; rfl, bel_row HZ3.out.2 (Nat.le_refl _) _⟩
      · have c4 : (k0 == 4) = false := beq_eq_false_iff_ne.2 h4
        have HA2 : Hid (∀ i, i < j + 1 → K i ≠ 4) := fun i hi => by
          by_cases c : i < j
          · exact hA.out i c
          · obtain rfl : i = j := by omega
            rw [HK.out]; exact h4
        have HV2 : Hid (decide (∃ i, i < j + 1 ∧ K i = 3) = (V || (k0 == 3))) := by
          show _ = _
          rw [← HV.out]
          by_cases c : ∃ i, i < j ∧ K i = 3
          · rw [decide_eq_true c, Bool.true_or]
            obtain ⟨i, hi, hk⟩ := c
            exact decide_eq_true ⟨i, by omega, hk⟩
          · rw [decide_eq_false c, Bool.false_or, ← HK.out]
            by_cases c3 : K j = 3
            · rw [decide_eq_true ⟨j, by omega, c3⟩, c3]; rfl
            · rw [beq_eq_false_iff_ne.2 c3]
              refine decide_eq_false ?_
              rintro ⟨i, hi, hk⟩
              by_cases ci : i < j
              · exact c ⟨i, ci, hk⟩
              · obtain rfl : i = j := by omega
                exact c3 hk
        clear h4 hA HV
        cases V
        · go_wp2
          go_round
          case rel => exact ⟨j + 1, by omega, by go_num, by rw [HV2.out]; rfl, HA2⟩
          case measure => simp [intOf]; omega
        · go_wp2
          go_round
          case rel => exact ⟨j + 1, by omega, by go_num, by rw [HV2.out]; rfl, HA2⟩
          case measure => simp [intOf]; omega
    · obtain rfl : j = n := by omega
      have EF : Hid (spF j K = 0 ∧ spB j K = decide (∃ i, i < j ∧ K i = 3)) := by
        refine ⟨if_neg ?_, ?_⟩
        · rintro ⟨i, hi, hk⟩; exact hA.out i hi hk
        · unfold spB
          refine decide_eq_decide.2 ⟨?_, ?_⟩
          · rintro ⟨i, hi, hk | hk⟩
            · exact ⟨i, hi, hk⟩
            · exact absurd hk (hA.out i hi)
          · rintro ⟨i, hi, hk⟩; exact ⟨i, hi, .inl hk⟩
      generalize decide (∃ i, i < j ∧ K i = 3) = V at *
      have hbl := build_res0 3 false 0 { data := #[] }
      go_wp2_with fail
      refine (l13Nan_any _).mono ?_
      rintro e w1 ⟨rfl, hb1⟩
      have HZ3 : Hid (At5 w1 w.heap.size (.int .i64 0) (.bool false) (.int .i64 0) (.string { data := #[] }) (.int .i64 0) ∧ Below w.heap.size w w1) := ⟨HZ.out.1.below hb1 HZ.out.1.lt, HZ.out.2.trans (hb1.mono HZ.out.2.size)⟩
      clear hb1 HZ
      go_wp2_with (refine wpList_store_row rfl _ _ _ rfl w.heap.size #[.int .i64 3, .bool false, .int .i64 0, .string { data := #[] }, .int .i64 0] rfl rfl _ _ HZ3.out.1 (by kernel_rfl) rfl (one5 _ _ _ _ _) ?_)
      have hP := (HZ3.out.1.row (.int .i64 3) (.bool false) (.int .i64 0) (.string { data := #[] }) (.int .i64 0)).cells
      refine bodyPost_ret (results_rt rfl _ _ rfl hP.1 hP.2.1 hP.2.2.1 hP.2.2.2.1 hP.2.2.2.2.1) rfl ?_
      exact ⟨by rw [EF.out.1, EF.out.2]; rfl, bel_row HZ3.out.2 (Nat.le_refl _) _⟩
end Go.Proofs.YtnkoeidolmiheaaGreatDoor
namespace Go.Proofs.YtnkoeidolmiheaaGreatDoor
open Go.RowKit
set_option linter.unusedVariables false
set_option maxRecDepth 100000
/-- A sum's three blocks: the two numbers and the result. -/
def SU (w W : World) (ka : Int) (na : Bool) (ea : Int) (sa : ByteArray) (kb : Int) (nb : Bool) (eb : Int) (sb : ByteArray) : Prop :=
  W.heap[w.heap.size]? = some (.cells #[.int .i64 ka, .bool na, .int .i64 ea, .string sa] 25 (0, 0)) ∧ W.heap[w.heap.size + 1]? = some (.cells #[.int .i64 kb, .bool nb, .int .i64 eb, .string sb] 25 (0, 0))
    ∧ At5 W (w.heap.size + 2) (.int .i64 0) (.bool false) (.int .i64 0) (.string { data := #[] }) (.int .i64 0) ∧ Below w.heap.size w W ∧ w.heap.size + 2 < W.heap.size
abbrev suW (w : World) (ka : Int) (na : Bool) (ea : Int) (sa : ByteArray) (kb : Int) (nb : Bool) (eb : Int) (sb : ByteArray) : World :=
  ((w.alloc (.cells #[.int .i64 ka, .bool na, .int .i64 ea, .string sa] 25)).alloc (.cells #[.int .i64 kb, .bool nb, .int .i64 eb, .string sb] 25)).alloc (.cells #[.int .i64 0, .bool false, .int .i64 0, .string { data := #[] }, .int .i64 0] 29)
theorem heap_at (w : World) (o : Obj) : (w.alloc o).heap[w.heap.size]? = some o := by
  show (w.heap.push o)[w.heap.size]? = some o
  exact Array.getElem?_push_size
theorem su_new (w : World) (ka : Int) (na : Bool) (ea : Int) (sa : ByteArray) (kb : Int) (nb : Bool) (eb : Int) (sb : ByteArray) : SU w (suW w ka na ea sa kb nb eb sb) ka na ea sa kb nb eb sb := by
  have s1 : (w.alloc (.cells #[.int .i64 ka, .bool na, .int .i64 ea, .string sa] 25)).heap.size = w.heap.size + 1 := by simp
  have s2 : ((w.alloc (.cells #[.int .i64 ka, .bool na, .int .i64 ea, .string sa] 25)).alloc (.cells #[.int .i64 kb, .bool nb, .int .i64 eb, .string sb] 25)).heap.size = w.heap.size + 2 := by simp
  have b1 := (Below.refl w.heap.size w).alloc (Nat.le_refl _) (.cells #[.int .i64 ka, .bool na, .int .i64 ea, .string sa] 25)
  have g1 := heap_at w (.cells #[.int .i64 ka, .bool na, .int .i64 ea, .string sa] 25)
  have g2 := heap_at (w.alloc (.cells #[.int .i64 ka, .bool na, .int .i64 ea, .string sa] 25)) (.cells #[.int .i64 kb, .bool nb, .int .i64 eb, .string sb] 25)
  have g3 := heap_at ((w.alloc (.cells #[.int .i64 ka, .bool na, .int .i64 ea, .string sa] 25)).alloc (.cells #[.int .i64 kb, .bool nb, .int .i64 eb, .string sb] 25)) (.cells #[.int .i64 0, .bool false, .int .i64 0, .string { data := #[] }, .int .i64 0] 29)
  rw [s1] at g2
  rw [s2] at g3
  refine ⟨(Below.heap_alloc _ _ _ (by rw [s2]; omega)).trans ((Below.heap_alloc _ _ _ (by rw [s1]; omega)).trans g1), (Below.heap_alloc _ _ _ (by rw [s2]; omega)).trans g2, g3, (b1.alloc (by rw [s1]; omega) _).alloc (by rw [s2]; omega) _, by simp⟩
theorem SU.next {w W w1 : World} {ka : Int} {na : Bool} {ea : Int} {sa : ByteArray} {kb : Int} {nb : Bool} {eb : Int} {sb : ByteArray} (h : SU w W ka na ea sa kb nb eb sb) (hb : Below W.heap.size W w1) : SU w w1 ka na ea sa kb nb eb sb :=
  ⟨(hb.block _ (by have := h.2.2.2.2; omega)).trans h.1, (hb.block _ (by have := h.2.2.2.2; omega)).trans h.2.1, (hb.block _ h.2.2.2.2).trans h.2.2.1, h.2.2.2.1.trans (hb.mono h.2.2.2.1.size), Nat.lt_of_lt_of_le h.2.2.2.2 hb.size⟩
theorem SU.drewN {w W : World} {ka : Int} {na : Bool} {ea : Int} {sa : ByteArray} {kb : Int} {nb : Bool} {eb : Int} {sb : ByteArray} (h : SU w W ka na ea sa kb nb eb sb) (n : Nat) : SU w (W.drewN n) ka na ea sa kb nb eb sb := ⟨h.1, h.2.1, h.2.2.1, below_drewN h.2.2.2.1 n, h.2.2.2.2⟩
theorem SU.drew {w W : World} {ka : Int} {na : Bool} {ea : Int} {sa : ByteArray} {kb : Int} {nb : Bool} {eb : Int} {sb : ByteArray} (h : SU w W ka na ea sa kb nb eb sb) : SU w W.drew ka na ea sa kb nb eb sb := ⟨h.1, h.2.1, h.2.2.1, h.2.2.2.1.drew, h.2.2.2.2⟩
theorem cell_lit {W : World} {g : Nat} {c : Array Value} {T : TypeId} (h : W.heap[g]? = some (.cells c T (0, 0))) (i : Nat) : W.cell? ⟨g, i, none⟩ = c[i]? := by
  unfold World.cell?; simp only [h]; rfl
theorem SU.cells {w W : World} {ka : Int} {na : Bool} {ea : Int} {sa : ByteArray} {kb : Int} {nb : Bool} {eb : Int} {sb : ByteArray} (h : SU w W ka na ea sa kb nb eb sb) :
    (W.cell? ⟨w.heap.size, 1, none⟩ = some (.bool na) ∧ W.cell? ⟨w.heap.size, 2, none⟩ = some (.int .i64 ea) ∧ W.cell? ⟨w.heap.size, 3, none⟩ = some (.string sa))
      ∧ W.cell? ⟨w.heap.size + 1, 1, none⟩ = some (.bool nb) ∧ W.cell? ⟨w.heap.size + 1, 2, none⟩ = some (.int .i64 eb) ∧ W.cell? ⟨w.heap.size + 1, 3, none⟩ = some (.string sb) :=
  ⟨⟨(cell_lit h.1 1).trans rfl, (cell_lit h.1 2).trans rfl, (cell_lit h.1 3).trans rfl⟩, (cell_lit h.2.1 1).trans rfl, (cell_lit h.2.1 2).trans rfl, (cell_lit h.2.1 3).trans rfl⟩
end Go.Proofs.YtnkoeidolmiheaaGreatDoor
namespace Go.Proofs.YtnkoeidolmiheaaGreatDoor
open Go.RowKit
set_option linter.unusedVariables false
set_option maxRecDepth 100000
theorem tx_zero' : tx [0] = { data := #[48] } := by apply ByteArray.ext; rw [tx_data]; rfl
theorem sum_end {w W wd : World} {ka : Int} {na : Bool} {ea : Int} {sa : ByteArray} {kb : Int} {nb : Bool} {eb : Int} {sb : ByteArray} (h : SU w W ka na ea sa kb nb eb sb) (hb : Below W.heap.size W wd) :
    At5 wd (w.heap.size + 2) (.int .i64 0) (.bool false) (.int .i64 0) (.string { data := #[] }) (.int .i64 0) ∧ Below w.heap.size w wd := ⟨(h.next hb).2.2.1, (h.next hb).2.2.2.1⟩
end Go.Proofs.YtnkoeidolmiheaaGreatDoor
