/-
  The face of the program's operations: what is thrown inside becomes the result, walked.
-/
import Derived.Test.YtnkoeidolmiheaaGreatDoorRdl
import Derived.Test.YtnkoeidolmiheaaGreatDoorIsR2
import Derived.Test.YtnkoeidolmiheaaGreatDoorSmC
import Derived.WalkLawsBesides
import Derived.Tactics
import Derived.Tactics2
import Derived.Defers
import Derived.Recover
import Derived.Laws.Pointers
namespace Go.Proofs.YtnkoeidolmiheaaGreatDoor
open Go.RowKit
set_option linter.unusedVariables false
set_option maxRecDepth 100000
theorem build_num (k : Int) (b : Bool) (e : Int) (s : ByteArray) (w : World) : (Instr.build 25 #[(0, .int .i64 k), (1, .bool b), (2, .int .i64 e), (3, .string s)]).run Tryz.prog w = .ok (numV k b e s) w := run_build w _ _ _ (by kernel_rfl)
/-- A Num's four cells in a block, which may be written. -/
def At4r (W : World) (b : Nat) (x y z u : Value) : Prop := W.heap[b]? = some (.cells #[x, y, z, u] 25 (0, 0))
theorem at4r_new (w : World) (x y z u : Value) : At4r (w.alloc (.cells #[x, y, z, u] 25)) w.heap.size x y z u := new_at w (.cells #[x, y, z, u] 25)
theorem At4r.cells {w : World} {b : Nat} {x y z u : Value} (h : At4r w b x y z u) : w.cell? ⟨b, 0, none⟩ = some x ∧ w.cell? ⟨b, 1, none⟩ = some y ∧ w.cell? ⟨b, 2, none⟩ = some z ∧ w.cell? ⟨b, 3, none⟩ = some u ∧ ∀ i, w.frozen? ⟨b, i, none⟩ = false := by
  unfold At4r at h
  exact ⟨by simp [World.cell?, h], by simp [World.cell?, h], by simp [World.cell?, h], by simp [World.cell?, h], fun i => by simp [World.frozen?, h]⟩
theorem At4r.lt {w : World} {b : Nat} {x y z u : Value} (h : At4r w b x y z u) : b < w.heap.size := (Array.getElem?_eq_some_iff.1 h).1
theorem At4r.below {w w' : World} {b B : Nat} {x y z u : Value} (h : At4r w b x y z u) (hb : Below B w w') (hB : b < B) : At4r w' b x y z u := (hb.block b hB).trans h
theorem At4r.next {w w' : World} {b : Nat} {x y z u : Value} (h : At4r w b x y z u) (hb : Below w.heap.size w w') : At4r w' b x y z u := h.below hb h.lt
theorem At4r.row {w : World} {b : Nat} {x y z u : Value} (h : At4r w b x y z u) (x' y' z' u' : Value) : At4r (w.setRow b #[x', y', z', u']) b x' y' z' u' := setRow_heap w b _ _ _ _ h
theorem At4r.other {w : World} {b c : Nat} {x y z u : Value} (h : At4r w b x y z u) (hc : b ≠ c) (cs : Array Value) : At4r (w.setRow c cs) b x y z u := (setRow_other w c b cs hc).trans h
end Go.Proofs.YtnkoeidolmiheaaGreatDoor
namespace Go.Proofs.YtnkoeidolmiheaaGreatDoor
open Go.RowKit
set_option linter.unusedVariables false
set_option maxRecDepth 100000
/-- A result that is thrown. -/
abbrev thrown (r : Value) : Ending := .panicked [{ v := .iface 53 r, recovered := false }]
theorem build_sp (k : Int) (b : Bool) (e : Int) (s : ByteArray) (f : Int) (w : World) : (Instr.build 53 #[(0, rsV k b e s f)]).run Tryz.prog w = .ok (rsV k b e s f) w := run_build w _ _ _ (by kernel_rfl)
theorem build_sp0 (w : World) : (Instr.build 53 #[]).run Tryz.prog w = .ok (rsV 0 false 0 { data := #[] } 0) w := run_build w _ _ _ (by kernel_rfl)
theorem results_sp {fn : Func} {p : Tmp} {b : Nat} {x y z u v : Value} (h : fn.results = #[.cell p 53]) (tmps : Array Value) (w : World) (hp : tmps[p]?.getD undef = .pointer (some ⟨b, 0, none⟩))
    (q0 : w.cell? ⟨b, 0, none⟩ = some x) (q1 : w.cell? ⟨b, 1, none⟩ = some y) (q2 : w.cell? ⟨b, 2, none⟩ = some z) (q3 : w.cell? ⟨b, 3, none⟩ = some u) (q4 : w.cell? ⟨b, 4, none⟩ = some v) : (results fn tmps).run Tryz.prog w = .ok (.agg #[x, y, z, u, v]) w := by
  simp [results, h, hp, go_sem, q0, q1, q2, q3, q4]
/-- Five cells in a new block. -/
theorem five_new (w : World) (x y z u v : Value) (T : TypeId) : (w.alloc (.cells #[x, y, z, u, v] T)).cell? ⟨w.heap.size, 0, none⟩ = some x ∧ (w.alloc (.cells #[x, y, z, u, v] T)).cell? ⟨w.heap.size, 1, none⟩ = some y ∧ (w.alloc (.cells #[x, y, z, u, v] T)).cell? ⟨w.heap.size, 2, none⟩ = some z ∧ (w.alloc (.cells #[x, y, z, u, v] T)).cell? ⟨w.heap.size, 3, none⟩ = some u ∧ (w.alloc (.cells #[x, y, z, u, v] T)).cell? ⟨w.heap.size, 4, none⟩ = some v := by
  have h := (MapKept.heap_alloc w (.cells #[x, y, z, u, v] T)).1
  unfold World.cell?
  simp only [h]
  exact ⟨rfl, rfl, rfl, rfl, rfl⟩
theorem iInvalid_any (w : World) : Calls Tryz.prog 49 #[] w fun x w' => x = .returned (rsV 3 false 0 { data := #[] } 1) ∧ Below w.heap.size w w' := by
  have hb1 := build_nan
  have hb2 := build_res 3 false 0 { data := #[] } 1
  have hb3 := build_sp 3 false 0 { data := #[] } 1
  go_enter Tryz.func49, Tryz.ntmps49
  go_wp2
  have hP := five_new w (.int .i64 3) (.bool false) (.int .i64 0) (.string { data := #[] }) (.int .i64 1) 53
  refine bodyPost_ret (results_sp rfl _ _ rfl hP.1 hP.2.1 hP.2.2.1 hP.2.2.2.1 hP.2.2.2.2) rfl ?_
  exact ⟨rfl, (Below.refl _ _).alloc (Nat.le_refl _) _⟩
set_option maxHeartbeats 1000000 in
theorem hasKind_any (kd : Int) (n g : Nat) (K : Nat → Int) (B : Nat → Bool) (E : Nat → Int) (S : Nat → ByteArray) (w : World) (hn : n ≤ 3) (hg : g < w.heap.size) (hr : NRw w g n K B E S) :
    Calls Tryz.prog 135 #[.slice (some ⟨g, 0, none⟩) n n, .int .i64 kd] w fun x w' => x = .returned (.bool (decide (∃ i, i < n ∧ K i = kd))) ∧ Below w.heap.size w w' := by
  have HR : Hid (NRw w g n K B E S ∧ g < w.heap.size) := ⟨hr, hg⟩
  clear hr hg
  obtain ⟨R, hR⟩ : ∃ R, decide (∃ i, i < n ∧ K i = kd) = R := ⟨_, rfl⟩
  have HRe : Hid (decide (∃ i, i < n ∧ K i = kd) = R) := hR
  rw [hR]
  clear hR
  go_enter Tryz.func135, Tryz.ntmps135
  go_wp2
  go_loopw [9] (fun s wr => ∃ j : Nat, j ≤ n ∧ s = .int .i64 j ∧ Hid (∀ i, i < j → K i ≠ kd) ∧ Hid (Below w.heap.size w wr)) (fun s _ => n - (intOf s).toNat)
  case atStart => exact ⟨0, Nat.zero_le _, rfl, fun i hi => by omega, Below.refl _ _⟩
  case round =>
    obtain ⟨j, hj, rfl, hA, hBw⟩ := hrel
    by_cases hlt : j < n
    · obtain ⟨q0, q1, q2, q3⟩ := (HR.out.1.below hBw.out HR.out.2) j hlt
      have hlt' : (j : Int) < (n : Int) := by omega
      obtain ⟨k0, hk0⟩ : ∃ k0, K j = k0 := ⟨_, rfl⟩
      have HK : Hid (K j = k0) := hk0
      rw [hk0] at q0
      clear hk0
      generalize B j = b0 at q1
      generalize E j = e0 at q2
      generalize S j = s0 at q3
      by_cases h4 : k0 = kd
      · subst h4
        have E0 : Hid (R = true) := by show _ = _; rw [← HRe.out]; exact decide_eq_true ⟨j, hlt, HK.out⟩
        clear hA
        go_wp2
        go_ret
        exact ⟨by rw [E0.out]; rfl, hBw.out.alloc hBw.out.size _⟩
      · have c4 : (k0 == kd) = false := beq_eq_false_iff_ne.2 h4
        have HA2 : Hid (∀ i, i < j + 1 → K i ≠ kd) := fun i hi => by
          by_cases c : i < j
          · exact hA.out i c
          · obtain rfl : i = j := by omega
            rw [HK.out]; exact h4
        clear h4 hA
        go_wp2
        go_roundw
        case rel => exact ⟨j + 1, by omega, by go_num, HA2, hBw.out.alloc hBw.out.size _⟩
        case measure => simp [intOf]; omega
    · obtain rfl : j = n := by omega
      have E0 : Hid (R = false) := by show _ = _; rw [← HRe.out]; exact decide_eq_false (by rintro ⟨i, hi, hk⟩; exact hA.out i hi hk)
      go_wp2
      go_ret
      exact ⟨by rw [E0.out]; rfl, hBw.out⟩
end Go.Proofs.YtnkoeidolmiheaaGreatDoor
namespace Go.Proofs.YtnkoeidolmiheaaGreatDoor
open Go.RowKit
set_option linter.unusedVariables false
set_option maxRecDepth 100000
/-- Whether mode and numbers are right. -/
def rightB (f m : Int) (n : Nat) (K : Nat → Int) (B : Nat → Bool) (E : Nat → Int) (S : Nat → ByteArray) : Bool := decide (1 ≤ m ∧ m ≤ 5) && decide (∀ i, i < n → numB f (K i) (B i) (E i) (S i) = true)
/-- How throwSpecials ends. -/
def tsE (f m : Int) (n : Nat) (K : Nat → Int) (B : Nat → Bool) (E : Nat → Int) (S : Nat → ByteArray) : Ending :=
  if rightB f m n K B E S then (if spB n K then thrown (rsV 3 false 0 { data := #[] } (spF n K)) else .returned (.tuple #[])) else thrown (rsV 0 false 0 { data := #[] } 0)
theorem mode_any (m : Int) (w : World) : Calls Tryz.prog 119 #[.int .i64 m] w fun e w' => ∃ v, v.oneCell' = true ∧ e = .returned (.tuple #[.agg #[v], .bool (decide (1 ≤ m ∧ m ≤ 5))]) ∧ Below w.heap.size w w' := by
  by_cases hm : 1 ≤ m ∧ m ≤ 5
  · rw [decide_eq_true hm]
    have hc : m = 1 ∨ m = 2 ∨ m = 3 ∨ m = 4 ∨ m = 5 := by omega
    rcases hc with rfl | rfl | rfl | rfl | rfl
    · exact (roundingOf_1 w).mono fun e w' h => ⟨_, rfl, h⟩
    · exact (roundingOf_2 w).mono fun e w' h => ⟨_, rfl, h⟩
    · exact (roundingOf_3 w).mono fun e w' h => ⟨_, rfl, h⟩
    · exact (roundingOf_4 w).mono fun e w' h => ⟨_, rfl, h⟩
    · exact (roundingOf_5 w).mono fun e w' h => ⟨_, rfl, h⟩
  · rw [decide_eq_false hm]
    exact (roundingOf_no m hm w).mono fun e w' h => ⟨_, rfl, h⟩
set_option maxRecDepth 100000 in
set_option maxHeartbeats 2000000 in
theorem throwSpecials_any (f m : Int) (n g : Nat) (K : Nat → Int) (B : Nat → Bool) (E : Nat → Int) (S : Nat → ByteArray) (w : World) (h1 : 1 ≤ n) (hn : n ≤ 3) (hg : g < w.heap.size) (hr : NRw w g n K B E S) (hs : ∀ i, i < n → (S i).size ≤ 4611686018427387904) :
    Calls Tryz.prog 69 #[.int .i64 f, .int .i64 m, .slice (some ⟨g, 0, none⟩) n n] w fun x w' => x = tsE f m n K B E S ∧ Below w.heap.size w w' := by
  have HR : Hid (NRw w g n K B E S ∧ g < w.heap.size) := ⟨hr, hg⟩
  have HSz : Hid (∀ i, i < n → (S i).size ≤ 4611686018427387904) := hs
  clear hr hs hg
  obtain ⟨R, hR⟩ : ∃ R, tsE f m n K B E S = R := ⟨_, rfl⟩
  have HRe : Hid (tsE f m n K B E S = R) := hR
  rw [hR]
  clear hR
  obtain ⟨mo, hmo⟩ : ∃ mo, decide (1 ≤ m ∧ m ≤ 5) = mo := ⟨_, rfl⟩
  have HMO : Hid (∀ X, Calls Tryz.prog 119 #[.int .i64 m] X fun e w' => ∃ v, v.oneCell' = true ∧ e = .returned (.tuple #[.agg #[v], .bool mo]) ∧ Below X.heap.size X w') := fun X => by rw [← hmo]; exact mode_any m X
  have HMe : Hid (decide (1 ≤ m ∧ m ≤ 5) = mo) := hmo
  clear hmo
  have hb0 := build_sp0
  go_enter Tryz.func69, Tryz.ntmps69
  go_wp2_with fail
  refine (HMO.out _).mono ?_
  rintro e w1 ⟨v, ho, rfl, hb1⟩
  have HB1 : Hid (Below w.heap.size w w1) := hb1
  clear hb1
  have hnew := (MapKept.heap_alloc w1 (.cells #[.nilFunc] 119)).1
  have h1c : (#[v] : Array Value).all (·.oneCell') = true := by simp [ho]
  go_wp2_with (refine wpList_store_row rfl 119 (.tmp 6) (.tmp 13) rfl w1.heap.size #[v] rfl rfl _ _ hnew (by kernel_rfl) rfl h1c ?_)
  have HB2 : Hid (Below w.heap.size w ((w1.alloc (.cells #[.nilFunc] 119)).setRow w1.heap.size #[v])) := bel_row (HB1.out.alloc HB1.out.size _) HB1.out.size _
  generalize (w1.alloc (.cells #[.nilFunc] 119)).setRow w1.heap.size #[v] = w2 at *
  clear hnew h1c ho HMO HB1
  generalize w1.heap.size = r1 at *
  go_loopw [17] (fun s wr => ∃ j : Nat, j ≤ n ∧ s = .int .i64 j ∧ Hid (0 < j → mo = true) ∧ Hid (∀ i, i < j → numB f (K i) (B i) (E i) (S i) = true) ∧ Hid (Below w.heap.size w wr)) (fun s _ => n - (intOf s).toNat)
  case atStart => exact ⟨0, Nat.zero_le _, rfl, fun h => absurd h (Nat.lt_irrefl _), fun i hi => by omega, HB2⟩
  case round =>
    obtain ⟨j, hj, rfl, hM, hA, hBw⟩ := hrel
    by_cases hlt : j < n
    · obtain ⟨q0, q1, q2, q3⟩ := (HR.out.1.below hBw.out HR.out.2) j hlt
      have hlt' : (j : Int) < (n : Int) := by omega
      cases mo with
      | false =>
        have E0 : Hid (R = thrown (rsV 0 false 0 { data := #[] } 0)) := by show _ = _; rw [← HRe.out]; unfold tsE rightB; rw [HMe.out]; rfl
        generalize K j = k0 at q0
        generalize B j = b0 at q1
        generalize E j = e0 at q2
        generalize S j = s0 at q3
        clear hM hA HMe
        go_wp2
        exact ⟨rfl, by rw [E0.out], hBw.out.alloc hBw.out.size _⟩
      | true =>
        have HN : Hid (∀ X, Calls Tryz.prog 21 #[.int .i64 f, numV (K j) (B j) (E j) (S j)] X fun e w' => e = .returned (.bool (numB f (K j) (B j) (E j) (S j))) ∧ Below X.heap.size X w') := fun X => iNumOk_any f (K j) (B j) (E j) (S j) X (HSz.out j hlt)
        obtain ⟨V, hV⟩ : ∃ V, numB f (K j) (B j) (E j) (S j) = V := ⟨_, rfl⟩
        have HVe : Hid (numB f (K j) (B j) (E j) (S j) = V) := hV
        rw [hV] at HN
        clear hV
        generalize K j = k0 at q0 HN
        generalize B j = b0 at q1 HN
        generalize E j = e0 at q2 HN
        generalize S j = s0 at q3 HN
        go_wp2_with fail
        refine (HN.out _).mono ?_
        rintro e w3 ⟨rfl, hb3⟩
        have HB3 : Hid (Below w.heap.size w w3) := (hBw.out.alloc hBw.out.size _).trans (hb3.mono (hBw.out.alloc hBw.out.size _).size)
        clear hb3 hBw q0 q1 q2 q3 HN
        cases V
        · have E0 : Hid (R = thrown (rsV 0 false 0 { data := #[] } 0)) := by
            show _ = _
            rw [← HRe.out]; unfold tsE rightB
            have hno : ¬ ∀ i, i < n → numB f (K i) (B i) (E i) (S i) = true := fun h => by
              have := h j hlt
              rw [HVe.out] at this
              cases this
            rw [decide_eq_false hno, Bool.and_false]; rfl
          clear hM hA
          go_wp2
          exact ⟨rfl, by rw [E0.out], HB3.out⟩
        · go_wp2
          go_roundw
          case rel => exact ⟨j + 1, by omega, by go_num, (fun _ => by first | rfl | trivial), fun i hi => by
            by_cases c : i < j
            · exact hA.out i c
            · obtain rfl : i = j := by omega
              exact HVe.out, HB3⟩
          case measure => simp [intOf]; omega
    · obtain rfl : j = n := by omega
      have HRow : Hid (NRw wr g j K B E S ∧ g < wr.heap.size) := ⟨HR.out.1.below hBw.out HR.out.2, Nat.lt_of_lt_of_le HR.out.2 hBw.out.size⟩
      have E1 : Hid (R = if spB j K then thrown (rsV 3 false 0 { data := #[] } (spF j K)) else .returned (.tuple #[])) := by
        show _ = _
        rw [← HRe.out]; unfold tsE rightB; rw [HMe.out, hM.out (by omega), decide_eq_true hA.out]; rfl
      clear hM hA HMe HRe hb0 HSz HR
      go_wp2_with fail
      refine (hasKind_any 4 j g K B E S wr hn HRow.out.2 HRow.out.1).mono ?_
      rintro e w3 ⟨rfl, hb3⟩
      have HB3 : Hid (Below w.heap.size w w3) := hBw.out.trans (hb3.mono hBw.out.size)
      have HRow3 : Hid (NRw w3 g j K B E S ∧ g < w3.heap.size) := ⟨HRow.out.1.below hb3 HRow.out.2, Nat.lt_of_lt_of_le HRow.out.2 hb3.size⟩
      clear hb3 hBw HRow
      by_cases h4 : ∃ i, i < j ∧ K i = 4
      · rw [decide_eq_true h4]
        have E2 : Hid (R = thrown (rsV 3 false 0 { data := #[] } 1)) := by
          show _ = _
          obtain ⟨i, hi, hk⟩ := h4
          rw [E1.out, show spB j K = true from decide_eq_true ⟨i, hi, .inr hk⟩, show spF j K = 1 from if_pos ⟨i, hi, hk⟩]; rfl
        clear E1 h4 HRow3
        go_wp2_with fail
        refine (iInvalid_any _).mono ?_
        rintro e w4 ⟨rfl, hb4⟩
        go_wp2
        exact ⟨rfl, by rw [E2.out], HB3.out.trans (hb4.mono HB3.out.size)⟩
      · rw [decide_eq_false h4]
        have F4 : Hid (spF j K = 0) := if_neg h4
        have S4 : Hid (spB j K = decide (∃ i, i < j ∧ K i = 3)) := by
          show decide _ = decide _
          refine decide_eq_decide.2 ⟨?_, ?_⟩
          · rintro ⟨i, hi, hk | hk⟩
            · exact ⟨i, hi, hk⟩
            · exact absurd ⟨i, hi, hk⟩ h4
          · rintro ⟨i, hi, hk⟩; exact ⟨i, hi, .inl hk⟩
        clear h4
        go_wp2_with fail
        refine (hasKind_any 3 j g K B E S w3 hn HRow3.out.2 HRow3.out.1).mono ?_
        rintro e w4 ⟨rfl, hb4⟩
        have HB4 : Hid (Below w.heap.size w w4) := HB3.out.trans (hb4.mono HB3.out.size)
        clear hb4 HB3 HRow3
        by_cases h3 : ∃ i, i < j ∧ K i = 3
        · rw [decide_eq_true h3]
          have E2 : Hid (R = thrown (rsV 3 false 0 { data := #[] } 0)) := by
            show _ = _
            rw [E1.out, S4.out, decide_eq_true h3, F4.out]; rfl
          clear E1 h3 S4 F4
          have c1 := build_nan
          have c2 := build_res0 3 false 0 { data := #[] }
          have c3 := build_sp 3 false 0 { data := #[] } 0
          go_wp2
          exact ⟨rfl, by rw [E2.out], HB4.out⟩
        · rw [decide_eq_false h3]
          have E2 : Hid (R = .returned (.tuple #[])) := by
            show _ = _
            rw [E1.out, S4.out, decide_eq_false h3]; rfl
          clear E1 h3 S4 F4
          go_wp2
          first | go_end0 | refine bodyPost_ret (results_none rfl _ _ _) rfl ?_
          exact ⟨by rw [E2.out], HB4.out⟩
end Go.Proofs.YtnkoeidolmiheaaGreatDoor
namespace Go.Proofs.YtnkoeidolmiheaaGreatDoor
open Go.RowKit
set_option linter.unusedVariables false
set_option maxRecDepth 100000
section
variable {P : Program} {ops : Array Oper} {Q : Exit → Act → List Frame → World → Prop} {cs : List Frame}
/-- Operations that don't recover, in a deferred call, by an ordinary walk. -/
theorem opsS_of_ops (hno : ¬ LetsOut fun e a' w' => Q e a' cs w') (l : List Nat) : ∀ (a : Act) (w : World), wpOps P ops (fun e a' w' => Q e a' cs w') l a w → wpOpsS P ops Q l a cs w := by
  induction l with
  | nil => intro a w h; exact h
  | cons i r ih =>
    intro a w h
    simp only [wpOps] at h
    simp only [wpOpsS]
    cases ho : ops[i]? with
    | none => simp only [ho] at h ⊢; exact ih _ _ h
    | some o =>
      simp only [ho] at h ⊢
      by_cases hw : Region.wanted o (yielded ops a.tmps) = true
      · simp only [hw, if_true] at h ⊢
        rcases h with h | ⟨-, h⟩
        · have h2 := Oper.wp_mono (fun a' w' k => ih a' w' k) h
          unfold Oper.wp at h2
          split
          · rename_i w' hr
            rw [hr] at h2
            exact h2.elim
          · exact h2
        · exact absurd h hno
      · simp only [hw] at h ⊢
        exact ih _ _ h
/-- A region whose first operation recovers. -/
theorem region_recovers {id : Nat} {o : Oper} {l : List Oper} {a : Act} {w : World} {cs' : List Frame} (hg : o.guard = none) (hr : (execOp a.eval o).run P w = .ok .recover w) (v : Value)
    (hv : recoverD cs = some (v, cs') ∨ (recoverD cs = none ∧ v = .nilIface ∧ cs' = cs)) (hno : ¬ LetsOut fun e a' w' => Q e a' cs' w')
    (h : wpList P (o :: l).toArray (fun e a' w' => Q e a' cs' w') l (a.put o.dst v) w) : (Code.region id (o :: l).toArray false).wpS P Q a cs w := by
  apply wpS_region
  have hs : List.range (o :: l).toArray.size = 0 :: List.range' 1 l.length := by
    rw [List.range_eq_range']
    simp [List.range'_succ]
  have hw : Region.wanted o (yielded (o :: l).toArray a.tmps) = true := by simp [Region.wanted, hg]
  have hl : wpOps P (o :: l).toArray (fun e a' w' => Q e a' cs' w') (List.range' 1 l.length) (a.put o.dst v) w := by
    rw [wpOps_eq_wpList l 1 (fun j => by simp [Nat.add_comm 1 j])]
    exact h
  rw [hs]
  simp only [wpOpsS]
  have h0 : (o :: l).toArray[0]? = some o := by simp
  simp only [h0, hw, if_true, hr]
  rcases hv with hv | ⟨hv, rfl, rfl⟩
  · simp only [hv]; exact opsS_of_ops hno _ _ _ hl
  · simp only [hv]; exact opsS_of_ops hno _ _ _ hl
end
theorem assert_nil (w : World) : (Instr.typeAssert .nilIface 20 53 true).run Tryz.prog w = .ok (.tuple #[rsV 0 false 0 { data := #[] } 0, .bool false]) w := by kernel_rfl
theorem assert_sp (k : Int) (b : Bool) (e : Int) (s : ByteArray) (f : Int) (w : World) : (Instr.typeAssert (.iface 53 (rsV k b e s f)) 20 53 true).run Tryz.prog w = .ok (.tuple #[rsV k b e s f, .bool true]) w := by kernel_rfl
theorem catch_idle (b : Nat) (w : World) :
    CallsD Tryz.prog 134 #[.pointer (some ⟨b, 0, none⟩)] .returning w fun e u' w' => e = .returned (.tuple #[]) ∧ u' = .returning ∧ Below w.heap.size w w' := by
  have h0 := assert_nil
  refine callsD_of_wpS Tryz.func134 rfl fun c₀ cs hu => ?_
  simp only [Tryz.ntmps134, List.size_toArray, List.length_cons, List.length_nil, Nat.reduceAdd, Nat.reduceSub, Array.replicate_succ, Array.replicate_zero, List.push_toArray, List.append_toArray, List.nil_append, List.cons_append]
  apply wpS_seq
  refine region_recovers (cs' := c₀ :: cs) rfl rfl .nilIface (.inr ⟨by simp [recoverD, hu], rfl, rfl⟩) ?_ ?_
  · rintro ⟨a, w', u', h⟩; simp at h
  go_wp2
  show Code.wpS _ _ _ _ _ _
  refine wpS_of_wp ?_
  go_wp2
  refine ⟨rfl, .returning, ?_, .tuple #[], ?_, rfl, rfl, (Below.refl _ _).alloc (Nat.le_refl _) _⟩
  · cases c₀; simp at hu; simp [hu]
  · simp [results, Tryz.results134]
theorem catch_thrown (b k : Nat) (x y z u v : Value) (K : Int) (N : Bool) (E : Int) (S : ByteArray) (F : Int) (w : World) (hb : At5 w b x y z u v) :
    CallsD Tryz.prog 134 #[.pointer (some ⟨b, 0, none⟩)] (.panicking [{ v := .iface 53 (rsV K N E S F), recovered := false }]) w fun e u' w' =>
      e = .returned (.tuple #[]) ∧ u' = .panicking [{ v := .iface 53 (rsV K N E S F), recovered := true }] ∧ At5 w' b (.int .i64 K) (.bool N) (.int .i64 E) (.string S) (.int .i64 F) ∧ Below b w w' := by
  have h0 := assert_sp K N E S F
  have HB : Hid (At5 (w.alloc (.cells #[.int .i64 K, .bool N, .int .i64 E, .string S, .int .i64 F] 53)) b x y z u v) := hb.below ((Below.refl _ _).alloc (Nat.le_refl _) _) hb.lt
  have HL : Hid (b < w.heap.size) := hb.lt
  clear hb
  have q := five_new w (.int .i64 K) (.bool N) (.int .i64 E) (.string S) (.int .i64 F) 53
  obtain ⟨q0, q1, q2, q3, q4⟩ := q
  refine callsD_of_wpS Tryz.func134 rfl fun c₀ cs hu => ?_
  simp only [Tryz.ntmps134, List.size_toArray, List.length_cons, List.length_nil, Nat.reduceAdd, Nat.reduceSub, Array.replicate_succ, Array.replicate_zero, List.push_toArray, List.append_toArray, List.nil_append, List.cons_append]
  apply wpS_seq
  refine region_recovers (cs' := { c₀ with mode := .panicking [{ v := .iface 53 (rsV K N E S F), recovered := true }] } :: cs) rfl rfl (.iface 53 (rsV K N E S F)) (.inl (by simp [recoverD, hu])) ?_ ?_
  · rintro ⟨a, w', u', h⟩; simp at h
  go_wp2
  show Code.wpS _ _ _ _ _ _
  refine wpS_of_wp ?_
  go_wp2_with (refine wpList_store_row rfl 29 (.tmp 0) (.tmp 10) rfl b #[.int .i64 K, .bool N, .int .i64 E, .string S, .int .i64 F] rfl rfl _ _ HB.out (by kernel_rfl) rfl (one5 _ _ _ _ _) ?_)
  refine ⟨rfl, _, rfl, .tuple #[], ?_, rfl, rfl, HB.out.row _ _ _ _ _, bel_row ((Below.refl _ _).alloc (Nat.le_of_lt HL.out) _) (Nat.le_refl _) _⟩
  simp [results, Tryz.results134]
end Go.Proofs.YtnkoeidolmiheaaGreatDoor
namespace Go.Proofs.YtnkoeidolmiheaaGreatDoor
open Go.RowKit
set_option linter.unusedVariables false
set_option maxRecDepth 100000
theorem atFace_any (F : Nat) (caps : Array Value) (hent : ∀ args w, (callFunc F args).run Tryz.prog w = .ok (.enter F args) w) (K : Int) (N : Bool) (E : Int) (S : ByteArray) (Fl : Int) (w : World)
    (HW : Hid (∀ X, Below w.heap.size w X → Calls Tryz.prog F caps X fun e w' => (e = .returned (rsV K N E S Fl) ∨ e = thrown (rsV K N E S Fl)) ∧ Below X.heap.size X w')) :
    Calls Tryz.prog 67 #[.func (.func F) #[] caps] w fun e w' => e = .returned (rsV K N E S Fl) ∧ Below w.heap.size w w' := by
  have hmf : ∀ (fn : Fn) (first cap : Array Value) (w : World), (Instr.makeFunc fn first cap).run Tryz.prog w = .ok (.func fn first cap) w := fun _ _ _ _ => rfl
  have HZ : Hid (At5 (w.alloc (.cells #[.int .i64 0, .bool false, .int .i64 0, .string { data := #[] }, .int .i64 0] 29)) w.heap.size (.int .i64 0) (.bool false) (.int .i64 0) (.string { data := #[] }) (.int .i64 0) ∧ Below w.heap.size w (w.alloc (.cells #[.int .i64 0, .bool false, .int .i64 0, .string { data := #[] }, .int .i64 0] 29))) := ⟨at5_new w _ _ _ _ _, (Below.refl _ _).alloc (Nat.le_refl _) _⟩
  go_enter_defers Tryz.func67, Tryz.ntmps67
  go_wp2_with fail
  refine (HW.out _ HZ.out.2).mono ?_
  rintro e w1 ⟨rfl | rfl, hb1⟩
  · have HZ1 : Hid (At5 w1 w.heap.size (.int .i64 0) (.bool false) (.int .i64 0) (.string { data := #[] }) (.int .i64 0) ∧ Below w.heap.size w w1) := ⟨HZ.out.1.below hb1 HZ.out.1.lt, HZ.out.2.trans (hb1.mono HZ.out.2.size)⟩
    clear hb1 HZ HW
    go_wp2_with (refine wpList_store_row rfl 29 (.tmp 2) (.tmp 5) rfl w.heap.size #[.int .i64 K, .bool N, .int .i64 E, .string S, .int .i64 Fl] rfl rfl _ _ HZ1.out.1 (by kernel_rfl) rfl (one5 _ _ _ _ _) ?_)
    have hA := HZ1.out.1.row (.int .i64 K) (.bool N) (.int .i64 E) (.string S) (.int .i64 Fl)
    have hB := bel_row HZ1.out.2 (Nat.le_refl _) #[.int .i64 K, .bool N, .int .i64 E, .string S, .int .i64 Fl]
    generalize w1.setRow w.heap.size #[.int .i64 K, .bool N, .int .i64 E, .string S, .int .i64 Fl] = w2 at *
    refine leaves_cons (f := 134) (args := #[.pointer (some ⟨w.heap.size, 0, none⟩)]) (by simp) (by simp [go_sem]) ?_
    refine (catch_idle w.heap.size w2).mono ?_
    rintro e u' w3 ⟨rfl, rfl, hb3⟩
    have hP := (hA.below hb3 hA.lt).cells
    refine ⟨_, results_res rfl _ _ rfl hP.1 hP.2.1 hP.2.2.1 hP.2.2.2.1 hP.2.2.2.2.1, rfl, hB.trans (hb3.mono hB.size)⟩
  · have HZ1 : Hid (At5 w1 w.heap.size (.int .i64 0) (.bool false) (.int .i64 0) (.string { data := #[] }) (.int .i64 0) ∧ Below w.heap.size w w1) := ⟨HZ.out.1.below hb1 HZ.out.1.lt, HZ.out.2.trans (hb1.mono HZ.out.2.size)⟩
    clear hb1 HZ HW
    go_wp2
    refine leaves_cons (f := 134) (args := #[.pointer (some ⟨w.heap.size, 0, none⟩)]) (by simp) (by simp [go_sem]) ?_
    refine (catch_thrown w.heap.size 0 _ _ _ _ _ K N E S Fl w1 HZ1.out.1).mono ?_
    rintro e u' w3 ⟨rfl, rfl, hA3, hb3⟩
    have hP := hA3.cells
    refine ⟨_, results_res rfl _ _ rfl hP.1 hP.2.1 hP.2.2.1 hP.2.2.2.1 hP.2.2.2.2.1, rfl, HZ1.out.2.trans hb3⟩
end Go.Proofs.YtnkoeidolmiheaaGreatDoor
