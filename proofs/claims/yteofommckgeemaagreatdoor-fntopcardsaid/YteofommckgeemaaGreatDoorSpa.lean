/-
  Sums of the program: noughts, numbers in reach, sums with one exponent, walked.
-/
import Derived.Test.YteofommckgeemaaGreatDoorNatS
import Derived.Test.YteofommckgeemaaGreatDoorRdk
import Derived.Tactics
import Derived.Tactics2
import Derived.Defers
import Derived.Recover
import Derived.Laws.Pointers
import Derived.Test.YteofommckgeemaaGreatDoorFmt
import Derived.Test.YteofommckgeemaaGreatDoorNatS2
import Derived.Test.YteofommckgeemaaGreatDoorNaz

namespace Go.Proofs.YteofommckgeemaaGreatDoor
open Go.RowKit
set_option linter.unusedVariables false
set_option maxRecDepth 100000
/-- Whether mode and numbers are right. -/
def rightB (f m : Int) (n : Nat) (K : Nat → Int) (B : Nat → Bool) (E : Nat → Int) (S : Nat → ByteArray) : Bool := decide (1 ≤ m ∧ m ≤ 5) && decide (∀ i, i < n → numB f (K i) (B i) (E i) (S i) = true)
/-- How throwSpecials ends. -/
def tsE (f m : Int) (n : Nat) (K : Nat → Int) (B : Nat → Bool) (E : Nat → Int) (S : Nat → ByteArray) : Ending :=
  if rightB f m n K B E S then (if spB n K then thrown (rsV 3 false 0 { data := #[] } (spF n K)) else .returned (.tuple #[])) else thrown (rsV 0 false 0 { data := #[] } 0)
theorem mode_any (m : Int) (w : World) : Calls Tryz.prog 149 #[.int .i64 m] w fun e w' => ∃ v, v.oneCell' = true ∧ e = .returned (.tuple #[.agg #[v], .bool (decide (1 ≤ m ∧ m ≤ 5))]) ∧ Below w.heap.size w w' := by
  by_cases hm : 1 ≤ m ∧ m ≤ 5
  · rw [decide_eq_true hm]
    have hc : m = 1 ∨ m = 2 ∨ m = 3 ∨ m = 4 ∨ m = 5 := by omega
    rcases hc with rfl | rfl | rfl | rfl | rfl
    · exact (roundingOf_1 w).mono fun e w' h => ⟨_, rfl, h⟩
    · exact (roundingOf_2 w).mono fun e w' h => ⟨_, rfl, h⟩
    · exact (roundingOf_3 w).mono fun e w' h => ⟨_, rfl, h⟩
    · exact (roundingOf_4 w).mono fun e w' h => ⟨_, rfl, h⟩
    · exact (roundingOf_5 w).mono fun e w' h => ⟨_, rfl, h⟩
  · rw [decide_eq_false hm]
    exact (roundingOf_no m hm w).mono fun e w' h => ⟨_, rfl, h⟩
set_option maxRecDepth 100000 in
set_option maxHeartbeats 2000000 in
theorem throwSpecials_any (f m : Int) (n g : Nat) (K : Nat → Int) (B : Nat → Bool) (E : Nat → Int) (S : Nat → ByteArray) (w : World) (h1 : 1 ≤ n) (hn : n ≤ 3) (hg : g < w.heap.size) (hr : NRw w g n K B E S) (hs : ∀ i, i < n → (S i).size ≤ 4611686018427387904) :
    Calls Tryz.prog 75 #[.int .i64 f, .int .i64 m, .slice (some ⟨g, 0, none⟩) n n] w fun x w' => x = tsE f m n K B E S ∧ Below w.heap.size w w' := by
  have HR : Hid (NRw w g n K B E S ∧ g < w.heap.size) := ⟨hr, hg⟩
  have HSz : Hid (∀ i, i < n → (S i).size ≤ 4611686018427387904) := hs
  clear hr hs hg
  obtain ⟨R, hR⟩ : ∃ R, tsE f m n K B E S = R := ⟨_, rfl⟩
  have HRe : Hid (tsE f m n K B E S = R) := hR
  rw [hR]
  clear hR
  obtain ⟨mo, hmo⟩ : ∃ mo, decide (1 ≤ m ∧ m ≤ 5) = mo := ⟨_, rfl⟩
  have HMO : Hid (∀ X, Calls Tryz.prog 149 #[.int .i64 m] X fun e w' => ∃ v, v.oneCell' = true ∧ e = .returned (.tuple #[.agg #[v], .bool mo]) ∧ Below X.heap.size X w') := fun X => by rw [← hmo]; exact mode_any m X
  have HMe : Hid (decide (1 ≤ m ∧ m ≤ 5) = mo) := hmo
  clear hmo
  have hb0 := build_sp0
  go_enter Tryz.func75, Tryz.ntmps75
  go_wp2_with fail
  refine (HMO.out _).mono ?_
  rintro e w1 ⟨v, ho, rfl, hb1⟩
  have HB1 : Hid (Below w.heap.size w w1) := hb1
  clear hb1
  have hnew := (MapKept.heap_alloc w1 (.cells #[.nilFunc] 177)).1
  have h1c : (#[v] : Array Value).all (·.oneCell') = true := by simp [ho]
  go_wp2_with (refine wpList_store_row rfl 177 (.tmp 6) (.tmp 13) rfl w1.heap.size #[v] rfl rfl _ _ hnew (by kernel_rfl) rfl h1c ?_)
  have HB2 : Hid (Below w.heap.size w ((w1.alloc (.cells #[.nilFunc] 177)).setRow w1.heap.size #[v])) := bel_row (HB1.out.alloc HB1.out.size _) HB1.out.size _
  generalize (w1.alloc (.cells #[.nilFunc] 177)).setRow w1.heap.size #[v] = w2 at *
  clear hnew h1c ho HMO HB1
  generalize w1.heap.size = r1 at *
  go_loopw [17] (fun s wr => ∃ j : Nat, j ≤ n ∧ s = .int .i64 j ∧ Hid (0 < j → mo = true) ∧ Hid (∀ i, i < j → numB f (K i) (B i) (E i) (S i) = true) ∧ Hid (Below w.heap.size w wr)) (fun s _ => n - (intOf s).toNat)
  case atStart => exact ⟨0, Nat.zero_le _, rfl, fun h => absurd h (Nat.lt_irrefl _), fun i hi => by omega, HB2⟩
  case round =>
    obtain ⟨j, hj, rfl, hM, hA, hBw⟩ := hrel
    by_cases hlt : j < n
    · obtain ⟨q0, q1, q2, q3⟩ := (HR.out.1.below hBw.out HR.out.2) j hlt
      have hlt' : (j : Int) < (n : Int) := by omega
      cases mo with
      | false =>
        have E0 : Hid (R = thrown (rsV 0 false 0 { data := #[] } 0)) := by show _ = _; rw [← HRe.out]; unfold tsE rightB; rw [HMe.out]; rfl
        generalize K j = k0 at q0
        generalize B j = b0 at q1
        generalize E j = e0 at q2
        generalize S j = s0 at q3
        clear hM hA HMe
        go_wp2
        exact ⟨rfl, by rw [E0.out], hBw.out.alloc hBw.out.size _⟩
      | true =>
        have HN : Hid (∀ X, Calls Tryz.prog 152 #[.int .i64 f, numV (K j) (B j) (E j) (S j)] X fun e w' => e = .returned (.bool (numB f (K j) (B j) (E j) (S j))) ∧ Below X.heap.size X w') := fun X => iNumOk_any f (K j) (B j) (E j) (S j) X (HSz.out j hlt)
        obtain ⟨V, hV⟩ : ∃ V, numB f (K j) (B j) (E j) (S j) = V := ⟨_, rfl⟩
        have HVe : Hid (numB f (K j) (B j) (E j) (S j) = V) := hV
        rw [hV] at HN
        clear hV
        generalize K j = k0 at q0 HN
        generalize B j = b0 at q1 HN
        generalize E j = e0 at q2 HN
        generalize S j = s0 at q3 HN
        go_wp2_with fail
        refine (HN.out _).mono ?_
        rintro e w3 ⟨rfl, hb3⟩
        have HB3 : Hid (Below w.heap.size w w3) := (hBw.out.alloc hBw.out.size _).trans (hb3.mono (hBw.out.alloc hBw.out.size _).size)
        clear hb3 hBw q0 q1 q2 q3 HN
        cases V
        · have E0 : Hid (R = thrown (rsV 0 false 0 { data := #[] } 0)) := by
            show _ = _
            rw [← HRe.out]; unfold tsE rightB
            have hno : ¬ ∀ i, i < n → numB f (K i) (B i) (E i) (S i) = true := fun h => by
              have := h j hlt
              rw [HVe.out] at this
              cases this
            rw [decide_eq_false hno, Bool.and_false]; rfl
          clear hM hA
          go_wp2
          exact ⟨rfl, by rw [E0.out], HB3.out⟩
        · go_wp2
          go_roundw
          case rel => exact ⟨j + 1, by omega, by go_num, (fun _ => by first | rfl | trivial), fun i hi => by
            by_cases c : i < j
            · exact hA.out i c
            · obtain rfl : i = j := by omega
              exact HVe.out, HB3⟩
          case measure => simp [intOf]; omega
    · obtain rfl : j = n := by omega
      have HRow : Hid (NRw wr g j K B E S ∧ g < wr.heap.size) := ⟨HR.out.1.below hBw.out HR.out.2, Nat.lt_of_lt_of_le HR.out.2 hBw.out.size⟩
      have E1 : Hid (R = if spB j K then thrown (rsV 3 false 0 { data := #[] } (spF j K)) else .returned (.tuple #[])) := by
        show _ = _
        rw [← HRe.out]; unfold tsE rightB; rw [HMe.out, hM.out (by omega), decide_eq_true hA.out]; rfl
      clear hM hA HMe HRe hb0 HSz HR
      go_wp2_with fail
      refine (hasKind_any 4 j g K B E S wr hn HRow.out.2 HRow.out.1).mono ?_
      rintro e w3 ⟨rfl, hb3⟩
      have HB3 : Hid (Below w.heap.size w w3) := hBw.out.trans (hb3.mono hBw.out.size)
      have HRow3 : Hid (NRw w3 g j K B E S ∧ g < w3.heap.size) := ⟨HRow.out.1.below hb3 HRow.out.2, Nat.lt_of_lt_of_le HRow.out.2 hb3.size⟩
      clear hb3 hBw HRow
      by_cases h4 : ∃ i, i < j ∧ K i = 4
      · rw [decide_eq_true h4]
        have E2 : Hid (R = thrown (rsV 3 false 0 { data := #[] } 1)) := by
          show _ = _
          obtain ⟨i, hi, hk⟩ := h4
          rw [E1.out, show spB j K = true from decide_eq_true ⟨i, hi, .inr hk⟩, show spF j K = 1 from if_pos ⟨i, hi, hk⟩]; rfl
        clear E1 h4 HRow3
        go_wp2_with fail
        refine (iInvalid_any _).mono ?_
        rintro e w4 ⟨rfl, hb4⟩
        go_wp2
        exact ⟨rfl, by rw [E2.out], HB3.out.trans (hb4.mono HB3.out.size)⟩
      · rw [decide_eq_false h4]
        have F4 : Hid (spF j K = 0) := if_neg h4
        have S4 : Hid (spB j K = decide (∃ i, i < j ∧ K i = 3)) := by
          show decide _ = decide _
          refine decide_eq_decide.2 ⟨?_, ?_⟩
          · rintro ⟨i, hi, hk | hk⟩
            · exact ⟨i, hi, hk⟩
            · exact absurd ⟨i, hi, hk⟩ h4
          · rintro ⟨i, hi, hk⟩; exact ⟨i, hi, .inl hk⟩
        clear h4
        go_wp2_with fail
        refine (hasKind_any 3 j g K B E S w3 hn HRow3.out.2 HRow3.out.1).mono ?_
        rintro e w4 ⟨rfl, hb4⟩
        have HB4 : Hid (Below w.heap.size w w4) := HB3.out.trans (hb4.mono HB3.out.size)
        clear hb4 HB3 HRow3
        by_cases h3 : ∃ i, i < j ∧ K i = 3
        · rw [decide_eq_true h3]
          have E2 : Hid (R = thrown (rsV 3 false 0 { data := #[] } 0)) := by
            show _ = _
            rw [E1.out, S4.out, decide_eq_true h3, F4.out]; rfl
          clear E1 h3 S4 F4
          have c1 := build_nan
          have c2 := build_res0 3 false 0 { data := #[] }
          have c3 := build_sp 3 false 0 { data := #[] } 0
          go_wp2
          exact ⟨rfl, by rw [E2.out], HB4.out⟩
        · rw [decide_eq_false h3]
          have E2 : Hid (R = .returned (.tuple #[])) := by
            show _ = _
            rw [E1.out, S4.out, decide_eq_false h3]; rfl
          clear E1 h3 S4 F4
          go_wp2
          first | go_end0 | refine bodyPost_ret (results_none rfl _ _ _) rfl ?_
          exact ⟨by rw [E2.out], HB4.out⟩
end Go.Proofs.YteofommckgeemaaGreatDoor
namespace Go.Proofs.YteofommckgeemaaGreatDoor
open Go.RowKit
set_option linter.unusedVariables false
set_option maxRecDepth 100000
section
variable {P : Program} {ops : Array Oper} {Q : Exit → Act → List Frame → World → Prop} {cs : List Frame}
/-- Operations that don't recover, in a deferred call, by an ordinary walk. -/
theorem opsS_of_ops (hno : ¬ LetsOut fun e a' w' => Q e a' cs w') (l : List Nat) : ∀ (a : Act) (w : World), wpOps P ops (fun e a' w' => Q e a' cs w') l a w → wpOpsS P ops Q l a cs w := by
  induction l with
  | nil => intro a w h; exact h
  | cons i r ih =>
    intro a w h
    simp only [wpOps] at h
    simp only [wpOpsS]
    cases ho : ops[i]? with
    | none => simp only [ho] at h ⊢; exact ih _ _ h
    | some o =>
      simp only [ho] at h ⊢
      by_cases hw : Region.wanted o (yielded ops a.tmps) = true
      · simp only [hw, if_true] at h ⊢
        rcases h with h | ⟨-, h⟩
        · have h2 := Oper.wp_mono (fun a' w' k => ih a' w' k) h
          unfold Oper.wp at h2
          split
          · rename_i w' hr
            rw [hr] at h2
            exact h2.elim
          · exact h2
        · exact absurd h hno
      · simp only [hw] at h ⊢
        exact ih _ _ h
/-- A region whose first operation recovers. -/
theorem region_recovers {id : Nat} {o : Oper} {l : List Oper} {a : Act} {w : World} {cs' : List Frame} (hg : o.guard = none) (hr : (execOp a.eval o).run P w = .ok .recover w) (v : Value)
    (hv : recoverD cs = some (v, cs') ∨ (recoverD cs = none ∧ v = .nilIface ∧ cs' = cs)) (hno : ¬ LetsOut fun e a' w' => Q e a' cs' w')
    (h : wpList P (o :: l).toArray (fun e a' w' => Q e a' cs' w') l (a.put o.dst v) w) : (Code.region id (o :: l).toArray false).wpS P Q a cs w := by
  apply wpS_region
  have hs : List.range (o :: l).toArray.size = 0 :: List.range' 1 l.length := by
    rw [List.range_eq_range']
    simp [List.range'_succ]
  have hw : Region.wanted o (yielded (o :: l).toArray a.tmps) = true := by simp [Region.wanted, hg]
  have hl : wpOps P (o :: l).toArray (fun e a' w' => Q e a' cs' w') (List.range' 1 l.length) (a.put o.dst v) w := by
    rw [wpOps_eq_wpList l 1 (fun j => by simp [Nat.add_comm 1 j])]
    exact h
  rw [hs]
  simp only [wpOpsS]
  have h0 : (o :: l).toArray[0]? = some o := by simp
  simp only [h0, hw, if_true, hr]
  rcases hv with hv | ⟨hv, rfl, rfl⟩
  · simp only [hv]; exact opsS_of_ops hno _ _ _ hl
  · simp only [hv]; exact opsS_of_ops hno _ _ _ hl
end
theorem assert_nil (w : World) : (Instr.typeAssert .nilIface 20 125 true).run Tryz.prog w = .ok (.tuple #[rsV 0 false 0 { data := #[] } 0, .bool false]) w := by kernel_rfl
theorem assert_sp (k : Int) (b : Bool) (e : Int) (s : ByteArray) (f : Int) (w : World) : (Instr.typeAssert (.iface 125 (rsV k b e s f)) 20 125 true).run Tryz.prog w = .ok (.tuple #[rsV k b e s f, .bool true]) w := by kernel_rfl
theorem catch_idle (b : Nat) (w : World) :
    CallsD Tryz.prog 151 #[.pointer (some ⟨b, 0, none⟩)] .returning w fun e u' w' => e = .returned (.tuple #[]) ∧ u' = .returning ∧ Below w.heap.size w w' := by
  have h0 := assert_nil
  refine callsD_of_wpS Tryz.func151 rfl fun c₀ cs hu => ?_
  simp only [Tryz.ntmps151, List.size_toArray, List.length_cons, List.length_nil, Nat.reduceAdd, Nat.reduceSub, Array.replicate_succ, Array.replicate_zero, List.push_toArray, List.append_toArray, List.nil_append, List.cons_append]
  apply wpS_seq
  refine region_recovers (cs' := c₀ :: cs) rfl rfl .nilIface (.inr ⟨by simp [recoverD, hu], rfl, rfl⟩) ?_ ?_
  · rintro ⟨a, w', u', h⟩; simp at h
  go_wp2
  show Code.wpS _ _ _ _ _ _
  refine wpS_of_wp ?_
  go_wp2
  refine ⟨rfl, .returning, ?_, .tuple #[], ?_, rfl, rfl, (Below.refl _ _).alloc (Nat.le_refl _) _⟩
  · cases c₀; simp at hu; simp [hu]
  · simp [results, Tryz.results151]
theorem catch_thrown (b k : Nat) (x y z u v : Value) (K : Int) (N : Bool) (E : Int) (S : ByteArray) (F : Int) (w : World) (hb : At5 w b x y z u v) :
    CallsD Tryz.prog 151 #[.pointer (some ⟨b, 0, none⟩)] (.panicking [{ v := .iface 125 (rsV K N E S F), recovered := false }]) w fun e u' w' =>
      e = .returned (.tuple #[]) ∧ u' = .panicking [{ v := .iface 125 (rsV K N E S F), recovered := true }] ∧ At5 w' b (.int .i64 K) (.bool N) (.int .i64 E) (.string S) (.int .i64 F) ∧ Below b w w' := by
  have h0 := assert_sp K N E S F
  have HB : Hid (At5 (w.alloc (.cells #[.int .i64 K, .bool N, .int .i64 E, .string S, .int .i64 F] 125)) b x y z u v) := hb.below ((Below.refl _ _).alloc (Nat.le_refl _) _) hb.lt
  have HL : Hid (b < w.heap.size) := hb.lt
  clear hb
  have q := five_new w (.int .i64 K) (.bool N) (.int .i64 E) (.string S) (.int .i64 F) 125
  obtain ⟨q0, q1, q2, q3, q4⟩ := q
  refine callsD_of_wpS Tryz.func151 rfl fun c₀ cs hu => ?_
  simp only [Tryz.ntmps151, List.size_toArray, List.length_cons, List.length_nil, Nat.reduceAdd, Nat.reduceSub, Array.replicate_succ, Array.replicate_zero, List.push_toArray, List.append_toArray, List.nil_append, List.cons_append]
  apply wpS_seq
  refine region_recovers (cs' := { c₀ with mode := .panicking [{ v := .iface 125 (rsV K N E S F), recovered := true }] } :: cs) rfl rfl (.iface 125 (rsV K N E S F)) (.inl (by simp [recoverD, hu])) ?_ ?_
  · rintro ⟨a, w', u', h⟩; simp at h
  go_wp2
  show Code.wpS _ _ _ _ _ _
  refine wpS_of_wp ?_
  go_wp2_with (refine wpList_store_row rfl 90 (.tmp 0) (.tmp 10) rfl b #[.int .i64 K, .bool N, .int .i64 E, .string S, .int .i64 F] rfl rfl _ _ HB.out (by kernel_rfl) rfl (one5 _ _ _ _ _) ?_)
  refine ⟨rfl, _, rfl, .tuple #[], ?_, rfl, rfl, HB.out.row _ _ _ _ _, bel_row ((Below.refl _ _).alloc (Nat.le_of_lt HL.out) _) (Nat.le_refl _) _⟩
  simp [results, Tryz.results151]
end Go.Proofs.YteofommckgeemaaGreatDoor

namespace Go.Proofs.YteofommckgeemaaGreatDoor
open Go.RowKit
set_option linter.unusedVariables false
set_option maxRecDepth 100000
theorem atFace_any (F : Nat) (caps : Array Value) (hent : ∀ args w, (callFunc F args).run Tryz.prog w = .ok (.enter F args) w) (K : Int) (N : Bool) (E : Int) (S : ByteArray) (Fl : Int) (w : World)
    (HW : Hid (∀ X, Below w.heap.size w X → Calls Tryz.prog F caps X fun e w' => (e = .returned (rsV K N E S Fl) ∨ e = thrown (rsV K N E S Fl)) ∧ Below X.heap.size X w')) :
    Calls Tryz.prog 73 #[.func (.func F) #[] caps] w fun e w' => e = .returned (rsV K N E S Fl) ∧ Below w.heap.size w w' := by
  have hmf : ∀ (fn : Fn) (first cap : Array Value) (w : World), (Instr.makeFunc fn first cap).run Tryz.prog w = .ok (.func fn first cap) w := fun _ _ _ _ => rfl
  have HZ : Hid (At5 (w.alloc (.cells #[.int .i64 0, .bool false, .int .i64 0, .string { data := #[] }, .int .i64 0] 90)) w.heap.size (.int .i64 0) (.bool false) (.int .i64 0) (.string { data := #[] }) (.int .i64 0) ∧ Below w.heap.size w (w.alloc (.cells #[.int .i64 0, .bool false, .int .i64 0, .string { data := #[] }, .int .i64 0] 90))) := ⟨at5_new w _ _ _ _ _, (Below.refl _ _).alloc (Nat.le_refl _) _⟩
  go_enter_defers Tryz.func73, Tryz.ntmps73
  go_wp2_with fail
  refine (HW.out _ HZ.out.2).mono ?_
  rintro e w1 ⟨rfl | rfl, hb1⟩
  · have HZ1 : Hid (At5 w1 w.heap.size (.int .i64 0) (.bool false) (.int .i64 0) (.string { data := #[] }) (.int .i64 0) ∧ Below w.heap.size w w1) := ⟨HZ.out.1.below hb1 HZ.out.1.lt, HZ.out.2.trans (hb1.mono HZ.out.2.size)⟩
    clear hb1 HZ HW
    go_wp2_with (refine wpList_store_row rfl 90 (.tmp 2) (.tmp 5) rfl w.heap.size #[.int .i64 K, .bool N, .int .i64 E, .string S, .int .i64 Fl] rfl rfl _ _ HZ1.out.1 (by kernel_rfl) rfl (one5 _ _ _ _ _) ?_)
    have hA := HZ1.out.1.row (.int .i64 K) (.bool N) (.int .i64 E) (.string S) (.int .i64 Fl)
    have hB := bel_row HZ1.out.2 (Nat.le_refl _) #[.int .i64 K, .bool N, .int .i64 E, .string S, .int .i64 Fl]
    generalize w1.setRow w.heap.size #[.int .i64 K, .bool N, .int .i64 E, .string S, .int .i64 Fl] = w2 at *
    refine leaves_cons (f := 151) (args := #[.pointer (some ⟨w.heap.size, 0, none⟩)]) (by simp) (by simp [go_sem]) ?_
    refine (catch_idle w.heap.size w2).mono ?_
    rintro e u' w3 ⟨rfl, rfl, hb3⟩
    have hP := (hA.below hb3 hA.lt).cells
    refine ⟨_, results_res rfl _ _ rfl hP.1 hP.2.1 hP.2.2.1 hP.2.2.2.1 hP.2.2.2.2.1, rfl, hB.trans (hb3.mono hB.size)⟩
  · have HZ1 : Hid (At5 w1 w.heap.size (.int .i64 0) (.bool false) (.int .i64 0) (.string { data := #[] }) (.int .i64 0) ∧ Below w.heap.size w w1) := ⟨HZ.out.1.below hb1 HZ.out.1.lt, HZ.out.2.trans (hb1.mono HZ.out.2.size)⟩
    clear hb1 HZ HW
    go_wp2
    refine leaves_cons (f := 151) (args := #[.pointer (some ⟨w.heap.size, 0, none⟩)]) (by simp) (by simp [go_sem]) ?_
    refine (catch_thrown w.heap.size 0 _ _ _ _ _ K N E S Fl w1 HZ1.out.1).mono ?_
    rintro e u' w3 ⟨rfl, rfl, hA3, hb3⟩
    have hP := hA3.cells
    refine ⟨_, results_res rfl _ _ rfl hP.1 hP.2.1 hP.2.2.1 hP.2.2.2.1 hP.2.2.2.2.1, rfl, HZ1.out.2.trans hb3⟩
end Go.Proofs.YteofommckgeemaaGreatDoor

namespace Go.Proofs.YteofommckgeemaaGreatDoor
open Go.RowKit
set_option linter.unusedVariables false
set_option maxRecDepth 100000
theorem build_num (k : Int) (b : Bool) (e : Int) (s : ByteArray) (w : World) : (Instr.build 78 #[(0, .int .i64 k), (1, .bool b), (2, .int .i64 e), (3, .string s)]).run Tryz.prog w = .ok (numV k b e s) w := run_build w _ _ _ (by kernel_rfl)
/-- A Num's four cells in a block, which may be written. -/
def At4r (W : World) (b : Nat) (x y z u : Value) : Prop := W.heap[b]? = some (.cells #[x, y, z, u] 78 (0, 0))
theorem at4r_new (w : World) (x y z u : Value) : At4r (w.alloc (.cells #[x, y, z, u] 78)) w.heap.size x y z u := new_at w (.cells #[x, y, z, u] 78)
theorem At4r.cells {w : World} {b : Nat} {x y z u : Value} (h : At4r w b x y z u) : w.cell? ⟨b, 0, none⟩ = some x ∧ w.cell? ⟨b, 1, none⟩ = some y ∧ w.cell? ⟨b, 2, none⟩ = some z ∧ w.cell? ⟨b, 3, none⟩ = some u ∧ ∀ i, w.frozen? ⟨b, i, none⟩ = false := by
  unfold At4r at h
  exact ⟨by simp [World.cell?, h], by simp [World.cell?, h], by simp [World.cell?, h], by simp [World.cell?, h], fun i => by simp [World.frozen?, h]⟩
theorem At4r.lt {w : World} {b : Nat} {x y z u : Value} (h : At4r w b x y z u) : b < w.heap.size := (Array.getElem?_eq_some_iff.1 h).1
theorem At4r.below {w w' : World} {b B : Nat} {x y z u : Value} (h : At4r w b x y z u) (hb : Below B w w') (hB : b < B) : At4r w' b x y z u := (hb.block b hB).trans h
theorem At4r.next {w w' : World} {b : Nat} {x y z u : Value} (h : At4r w b x y z u) (hb : Below w.heap.size w w') : At4r w' b x y z u := h.below hb h.lt
theorem At4r.row {w : World} {b : Nat} {x y z u : Value} (h : At4r w b x y z u) (x' y' z' u' : Value) : At4r (w.setRow b #[x', y', z', u']) b x' y' z' u' := setRow_heap w b _ _ _ _ h
theorem At4r.other {w : World} {b c : Nat} {x y z u : Value} (h : At4r w b x y z u) (hc : b ≠ c) (cs : Array Value) : At4r (w.setRow c cs) b x y z u := (setRow_other w c b cs hc).trans h
end Go.Proofs.YteofommckgeemaaGreatDoor

namespace Go.Proofs.YteofommckgeemaaGreatDoor
set_option linter.unusedVariables false
set_option maxRecDepth 100000
/-- A number below ten to the 200. -/
def Nok (n : Int) : Prop := 0 ≤ n ∧ n < 10 ^ 200
/-- The text of a number. -/
def tn (n : Int) : ByteArray := tx (nt n)
theorem pow25 : (10 : Int) ^ 200 ≤ 10 ^ 500 := pow_mono 200 500 (by decide)
theorem ten_pos (k : Nat) : (0 : Int) < 10 ^ k := Int.pow_pos (by decide)
theorem nok_spec {n : Int} (h : Nok n) : Canon (nt n) ∧ vl (nt n) = n := nt_spec n h.1 (Int.lt_of_lt_of_le h.2 pow25)
theorem nok_len {n : Int} (h : Nok n) : (nt n).length ≤ 200 := by
  obtain ⟨hc, hv⟩ := nok_spec h
  rcases Nat.lt_or_ge 200 (nt n).length with c | c
  · exfalso
    have l := canon_low (nt n) hc (by omega)
    have m := pow_mono 200 ((nt n).length - 1) (by omega)
    rw [hv] at l
    exact absurd (Int.lt_of_lt_of_le h.2 (Int.le_trans m l)) (Int.lt_irrefl _)
  · exact c
theorem tn_ok {n : Int} (h : Nok n) : natB 200 (tn n) = true := natB_tx 200 (nt n) (nok_spec h).1 (by have := nok_len h; omega)
theorem nv_tn {n : Int} (h : Nok n) : nv (tn n) = n := by
  obtain ⟨hc, hv⟩ := nok_spec h
  unfold nv tn
  rw [dl_tx _ hc.1, hv]
theorem tn_size (n : Int) : (tn n).size ≤ 500 := by
  unfold tn nt
  rw [tx_size]
  exact Nat.le_trans (strip_len _) (by rw [lastD_len]; exact Nat.le_refl _)
theorem fit_tn {n : Int} (h : Nok n) : fitS (nt n) = tn n := by
  unfold fitS; rw [if_pos (nok_len h)]; rfl
theorem ok2_tn {x y : Int} (hx : Nok x) (hy : Nok y) : ok2 (tn x) (tn y) = true := by unfold ok2; rw [tn_ok hx, tn_ok hy]; rfl
theorem cmp_tn {x y : Int} (hx : Nok x) (hy : Nok y) : cmpS (tn x) (tn y) = cmpI x y := by
  unfold cmpS; rw [ok2_tn hx hy, if_pos rfl, nv_tn hx, nv_tn hy]
theorem add_tn {x y : Int} (hx : Nok x) (hy : Nok y) : addS (tn x) (tn y) = fitS (nt (x + y)) := by
  unfold addS; rw [ok2_tn hx hy, if_pos rfl, nv_tn hx, nv_tn hy]
theorem mul_tn {x y : Int} (hx : Nok x) (hy : Nok y) : mulS (tn x) (tn y) = fitS (nt (x * y)) := by
  unfold mulS; rw [ok2_tn hx hy, if_pos rfl, nv_tn hx, nv_tn hy]
theorem sub_tn {x y : Int} (hx : Nok x) (hy : Nok y) (h : y ≤ x) : subS (tn x) (tn y) = tn (x - y) := by
  unfold subS; rw [ok2_tn hx hy, if_pos rfl, nv_tn hx, nv_tn hy, if_neg (by omega)]; rfl
theorem tn_inj {x y : Int} (hx : Nok x) (hy : Nok y) (h : (tn x).toList = (tn y).toList) : x = y := by
  have := tx_inj (nt x) (nt y) (nok_spec hx).1.1 (nok_spec hy).1.1 h
  rw [← (nok_spec hx).2, ← (nok_spec hy).2, this]
theorem tn_ne {x y : Int} (hx : Nok x) (hy : Nok y) (h : x ≠ y) : ((tn x).toList == (tn y).toList) = false := beq_eq_false_iff_ne.2 fun e => h (tn_inj hx hy e)
theorem nok_zero : Nok 0 := ⟨Int.le_refl _, ten_pos _⟩
theorem tn_0 : (tn 0).toList = [48] := by
  have : nt 0 = [0] := (nt_of [0] 0 canon_zero rfl (by decide)).symm
  unfold tn; rw [this]; exact tx_zero
theorem tn_is0 {x : Int} (hx : Nok x) (h : x ≠ 0) : ((tn x).toList == [48]) = false := by rw [← tn_0]; exact tn_ne hx nok_zero h
theorem Nok.le {x y : Int} (h : Nok y) (h0 : 0 ≤ x) (hl : x ≤ y) : Nok x := ⟨h0, Int.lt_of_le_of_lt hl h.2⟩
theorem div_tn {x y : Int} (hx : Nok x) (hy : Nok y) (h : y ≠ 0) : divQ (tn x) (tn y) = tn (x / y) ∧ divR (tn x) (tn y) = tn (x % y) := by
  unfold divQ divR
  rw [ok2_tn hx hy, if_pos rfl, if_pos rfl, nv_tn hx, nv_tn hy, if_neg h, if_neg h]
  exact ⟨rfl, rfl⟩
end Go.Proofs.YteofommckgeemaaGreatDoor

namespace Go.Proofs.YteofommckgeemaaGreatDoor
open Go.RowKit
set_option linter.unusedVariables false
set_option maxRecDepth 100000
theorem iLimits_any (f : Int) (w : World) : Calls Tryz.prog 157 #[.int .i64 f] w fun e w' => e = .returned (.tuple #[.int .i64 (limP f), .int .i64 (limL f), .int .i64 (limH f)]) ∧ Below w.heap.size w w' := by
  by_cases h1 : f = 64
  · subst h1
    show Calls Tryz.prog 157 #[.int .i64 64] w fun e w' => e = .returned (.tuple #[.int .i64 16, .int .i64 (-398), .int .i64 369]) ∧ Below w.heap.size w w'
    go_enter Tryz.func157, Tryz.ntmps157
    go_wp2_with fail
    refine (fmtOf_64 _).mono ?_
    rintro e w1 ⟨rfl, rfl⟩
    go_wp2_with fail
    refine (digitCount_64 _).mono ?_
    rintro e w2 ⟨rfl, hb2⟩
    go_wp2_with fail
    refine (leastExp_64 _).mono ?_
    rintro e w3 ⟨rfl, hb3⟩
    go_wp2_with fail
    refine (greatestExp_64 _).mono ?_
    rintro e w4 ⟨rfl, hb4⟩
    go_wp2
    go_ret3
    exact ⟨rfl, (hb2.trans (hb3.mono hb2.size)).trans (hb4.mono (Nat.le_trans hb2.size hb3.size))⟩
  · by_cases h2 : f = 128
    · subst h2
      show Calls Tryz.prog 157 #[.int .i64 128] w fun e w' => e = .returned (.tuple #[.int .i64 34, .int .i64 (-6176), .int .i64 6111]) ∧ Below w.heap.size w w'
      go_enter Tryz.func157, Tryz.ntmps157
      go_wp2_with fail
      refine (fmtOf_128 _).mono ?_
      rintro e w1 ⟨rfl, rfl⟩
      go_wp2_with fail
      refine (digitCount_128 _).mono ?_
      rintro e w2 ⟨rfl, hb2⟩
      go_wp2_with fail
      refine (leastExp_128 _).mono ?_
      rintro e w3 ⟨rfl, hb3⟩
      go_wp2_with fail
      refine (greatestExp_128 _).mono ?_
      rintro e w4 ⟨rfl, hb4⟩
      go_wp2
      go_ret3
      exact ⟨rfl, (hb2.trans (hb3.mono hb2.size)).trans (hb4.mono (Nat.le_trans hb2.size hb3.size))⟩
    · have e : limP f = 0 ∧ limL f = 0 ∧ limH f = 0 := by unfold limP limL limH; rw [if_neg h1, if_neg h2, if_neg h1, if_neg h2, if_neg h1, if_neg h2]; exact ⟨rfl, rfl, rfl⟩
      rw [e.1, e.2.1, e.2.2]
      clear e
      go_enter Tryz.func157, Tryz.ntmps157
      go_wp2_with fail
      refine (fmtOf_no f _ h1 h2).mono ?_
      rintro e w1 ⟨rfl, rfl⟩
      clear h1 h2
      go_wp2
      go_ret3
      exact ⟨rfl, Below.refl _ _⟩
end Go.Proofs.YteofommckgeemaaGreatDoor

namespace Go.Proofs.YteofommckgeemaaGreatDoor
open Go.RowKit
set_option linter.unusedVariables false
set_option maxRecDepth 100000
theorem isNought_fin (b : Bool) (e v : Int) (w : World) (h : Nok v) : Calls Tryz.prog 93 #[numV 1 b e (tn v)] w fun x w' => x = .returned (.bool (decide (v = 0))) ∧ Below w.heap.size w w' := by
  by_cases hz : v = 0
  · subst hz
    have h0 : ((tn 0).toList == [48]) = true := by rw [tn_0]; rfl
    go_enter Tryz.func93, Tryz.ntmps93
    go_wp2
    go_ret
    exact ⟨rfl, (Below.refl _ _).alloc (Nat.le_refl _) _⟩
  · have h0 := tn_is0 h hz
    rw [decide_eq_false hz]
    clear hz
    go_enter Tryz.func93, Tryz.ntmps93
    go_wp2
    go_ret
    exact ⟨rfl, (Below.refl _ _).alloc (Nat.le_refl _) _⟩
theorem isNought_inf (b : Bool) (e : Int) (s : ByteArray) (w : World) : Calls Tryz.prog 93 #[numV 2 b e s] w fun x w' => x = .returned (.bool false) ∧ Below w.heap.size w w' := by
  go_enter Tryz.func93, Tryz.ntmps93
  go_wp2
  go_ret
  exact ⟨rfl, (Below.refl _ _).alloc (Nat.le_refl _) _⟩
/-- Two numbers' boxes and a result's. -/
abbrev n3W (w : World) (kx : Int) (nx : Bool) (ex : Int) (sx : ByteArray) (ky : Int) (ny : Bool) (ey : Int) (sy : ByteArray) : World := ((w.alloc (.cells #[.int .i64 kx, .bool nx, .int .i64 ex, .string sx] 78)).alloc (.cells #[.int .i64 ky, .bool ny, .int .i64 ey, .string sy] 78)).alloc (.cells #[.int .i64 0, .bool false, .int .i64 0, .string { data := #[] }] 78)
/-- What lies in them. -/
def N3 (w : World) (kx : Int) (nx : Bool) (ex : Int) (sx : ByteArray) (ky : Int) (ny : Bool) (ey : Int) (sy : ByteArray) (W : World) : Prop :=
  At4r W w.heap.size (.int .i64 kx) (.bool nx) (.int .i64 ex) (.string sx) ∧ At4r W (w.heap.size + 1) (.int .i64 ky) (.bool ny) (.int .i64 ey) (.string sy) ∧ At4r W (w.heap.size + 2) (.int .i64 0) (.bool false) (.int .i64 0) (.string { data := #[] }) ∧ Below w.heap.size w W
theorem n3_new (w : World) (kx : Int) (nx : Bool) (ex : Int) (sx : ByteArray) (ky : Int) (ny : Bool) (ey : Int) (sy : ByteArray) : N3 w kx nx ex sx ky ny ey sy (n3W w kx nx ex sx ky ny ey sy) := by
  unfold n3W
  have h1 := at4r_new w (.int .i64 kx) (.bool nx) (.int .i64 ex) (.string sx)
  have z1 := new_size w (.cells #[.int .i64 kx, .bool nx, .int .i64 ex, .string sx] 78)
  have b1 : Below w.heap.size w (w.alloc (.cells #[.int .i64 kx, .bool nx, .int .i64 ex, .string sx] 78)) := (Below.refl _ _).alloc (Nat.le_refl _) _
  generalize w.alloc (.cells #[.int .i64 kx, .bool nx, .int .i64 ex, .string sx] 78) = w1 at *
  have h2 := at4r_new w1 (.int .i64 ky) (.bool ny) (.int .i64 ey) (.string sy)
  have z2 := new_size w1 (.cells #[.int .i64 ky, .bool ny, .int .i64 ey, .string sy] 78)
  have b2 : Below w1.heap.size w1 (w1.alloc (.cells #[.int .i64 ky, .bool ny, .int .i64 ey, .string sy] 78)) := (Below.refl _ _).alloc (Nat.le_refl _) _
  generalize w1.alloc (.cells #[.int .i64 ky, .bool ny, .int .i64 ey, .string sy] 78) = w2 at *
  have h3 := at4r_new w2 (.int .i64 0) (.bool false) (.int .i64 0) (.string { data := #[] })
  have b3 : Below w2.heap.size w2 (w2.alloc (.cells #[.int .i64 0, .bool false, .int .i64 0, .string { data := #[] }] 78)) := (Below.refl _ _).alloc (Nat.le_refl _) _
  rw [z2, z1] at h3
  rw [z1] at h2
  have h2' := h2.next b3
  exact ⟨(h1.next b2).next b3, h2', h3, (b1.trans (b2.mono b1.size)).trans (b3.mono (b1.trans (b2.mono b1.size)).size)⟩
theorem N3.next {w W W' : World} {kx : Int} {nx : Bool} {ex : Int} {sx : ByteArray} {ky : Int} {ny : Bool} {ey : Int} {sy : ByteArray} (h : N3 w kx nx ex sx ky ny ey sy W) (hb : Below W.heap.size W W') : N3 w kx nx ex sx ky ny ey sy W' :=
  ⟨h.1.next hb, h.2.1.next hb, h.2.2.1.next hb, h.2.2.2.trans (hb.mono h.2.2.2.size)⟩
theorem At4r.set2 {w : World} {b : Nat} {x y z u : Value} (h : At4r w b x y z u) (z' : Value) : At4r (w.setCell ⟨b, 2, none⟩ z') b x y z' u := by
  unfold At4r at *
  simp [World.setCell, Array.getElem?_modify, h]
theorem At4r.set3 {w : World} {b : Nat} {x y z u : Value} (h : At4r w b x y z u) (u' : Value) : At4r (w.setCell ⟨b, 3, none⟩ u') b x y z u' := by
  unfold At4r at *
  simp [World.setCell, Array.getElem?_modify, h]
theorem At4r.set1 {w : World} {b : Nat} {x y z u : Value} (h : At4r w b x y z u) (y' : Value) : At4r (w.setCell ⟨b, 1, none⟩ y') b x y' z u := by
  unfold At4r at *
  simp [World.setCell, Array.getElem?_modify, h]
theorem At4r.far {w : World} {b c : Nat} {x y z u : Value} (h : At4r w b x y z u) (hc : c ≠ b) (i : Nat) (v : Value) : At4r (w.setCell ⟨c, i, none⟩ v) b x y z u := by
  unfold At4r at *
  simp [World.setCell, Array.getElem?_modify, h, hc]
/-- One store into the first number, or the second. -/
theorem N3.x2 {w W : World} {kx : Int} {nx : Bool} {ex : Int} {sx : ByteArray} {ky : Int} {ny : Bool} {ey : Int} {sy : ByteArray} (h : N3 w kx nx ex sx ky ny ey sy W) (e' : Int) : N3 w kx nx e' sx ky ny ey sy (W.setCell ⟨w.heap.size, 2, none⟩ (.int .i64 e')) :=
  ⟨h.1.set2 _, h.2.1.far (by omega) _ _, h.2.2.1.far (by omega) _ _, h.2.2.2.setCell (Nat.le_refl _) _⟩
theorem N3.x3 {w W : World} {kx : Int} {nx : Bool} {ex : Int} {sx : ByteArray} {ky : Int} {ny : Bool} {ey : Int} {sy : ByteArray} (h : N3 w kx nx ex sx ky ny ey sy W) (s' : ByteArray) : N3 w kx nx ex s' ky ny ey sy (W.setCell ⟨w.heap.size, 3, none⟩ (.string s')) :=
  ⟨h.1.set3 _, h.2.1.far (by omega) _ _, h.2.2.1.far (by omega) _ _, h.2.2.2.setCell (Nat.le_refl _) _⟩
theorem N3.y2 {w W : World} {kx : Int} {nx : Bool} {ex : Int} {sx : ByteArray} {ky : Int} {ny : Bool} {ey : Int} {sy : ByteArray} (h : N3 w kx nx ex sx ky ny ey sy W) (e' : Int) : N3 w kx nx ex sx ky ny e' sy (W.setCell ⟨w.heap.size + 1, 2, none⟩ (.int .i64 e')) :=
  ⟨h.1.far (by omega) _ _, h.2.1.set2 _, h.2.2.1.far (by omega) _ _, h.2.2.2.setCell (show w.heap.size ≤ w.heap.size + 1 by omega) _⟩
theorem N3.y3 {w W : World} {kx : Int} {nx : Bool} {ex : Int} {sx : ByteArray} {ky : Int} {ny : Bool} {ey : Int} {sy : ByteArray} (h : N3 w kx nx ex sx ky ny ey sy W) (s' : ByteArray) : N3 w kx nx ex sx ky ny ey s' (W.setCell ⟨w.heap.size + 1, 3, none⟩ (.string s')) :=
  ⟨h.1.far (by omega) _ _, h.2.1.set3 _, h.2.2.1.far (by omega) _ _, h.2.2.2.setCell (show w.heap.size ≤ w.heap.size + 1 by omega) _⟩
theorem N3.rowx {w W : World} {kx : Int} {nx : Bool} {ex : Int} {sx : ByteArray} {ky : Int} {ny : Bool} {ey : Int} {sy : ByteArray} (h : N3 w kx nx ex sx ky ny ey sy W) (k' : Int) (n' : Bool) (e' : Int) (s' : ByteArray) : N3 w k' n' e' s' ky ny ey sy (W.setRow w.heap.size #[.int .i64 k', .bool n', .int .i64 e', .string s']) :=
  ⟨h.1.row _ _ _ _, h.2.1.other (by omega) _, h.2.2.1.other (by omega) _, bel_row h.2.2.2 (Nat.le_refl _) _⟩
theorem N3.rowy {w W : World} {kx : Int} {nx : Bool} {ex : Int} {sx : ByteArray} {ky : Int} {ny : Bool} {ey : Int} {sy : ByteArray} (h : N3 w kx nx ex sx ky ny ey sy W) (k' : Int) (n' : Bool) (e' : Int) (s' : ByteArray) : N3 w kx nx ex sx k' n' e' s' (W.setRow (w.heap.size + 1) #[.int .i64 k', .bool n', .int .i64 e', .string s']) :=
  ⟨h.1.other (by omega) _, h.2.1.row _ _ _ _, h.2.2.1.other (by omega) _, bel_row h.2.2.2 (by omega) _⟩
/-- Is the second number far below the first? -/
def farB (p : Int) (ex : Int) (n : Nat) (ey : Int) : Bool := decide (ey + n ≤ ex - p - 1)
set_option maxRecDepth 100000 in
set_option maxHeartbeats 1000000 in
theorem withinReach_any (f : Int) (kx : Int) (nx : Bool) (ex : Int) (sx : ByteArray) (ny : Bool) (ey : Int) (sy : ByteArray) (w : World) (hx : -20000 ≤ ex ∧ ex ≤ 20000) (hy : -20000 ≤ ey ∧ ey ≤ 20000) (hs : sy.size ≤ 300) (hp : 0 ≤ limP f ∧ limP f ≤ 34) :
    Calls Tryz.prog 212 #[.int .i64 f, numV kx nx ex sx, numV 1 ny ey sy] w fun x w' => x = .returned (numV 1 ny (if farB (limP f) ex sy.size ey then ex - limP f - 1 else ey) (if farB (limP f) ex sy.size ey then { data := #[49] } else sy)) ∧ Below w.heap.size w w' := by
  have HN : Hid (N3 w kx nx ex sx 1 ny ey sy (n3W w kx nx ex sx 1 ny ey sy)) := n3_new w kx nx ex sx 1 ny ey sy
  have HLm : Hid (∀ X, Calls Tryz.prog 157 #[.int .i64 f] X fun e w' => e = .returned (.tuple #[.int .i64 (limP f), .int .i64 (limL f), .int .i64 (limH f)]) ∧ Below X.heap.size X w') := fun X => iLimits_any f X
  generalize limL f = L0 at *
  generalize limH f = H0 at *
  generalize limP f = P at *
  have hw1 : IntKind.i64.wrap (ex - P) = ex - P := by rw [IntKind.wrap_i64]; omega
  have hw2 : IntKind.i64.wrap (ex - P - 1) = ex - P - 1 := by rw [IntKind.wrap_i64]; omega
  have hw3 : IntKind.i64.wrap (ey + (sy.size : Int)) = ey + sy.size := by rw [IntKind.wrap_i64]; omega
  by_cases hfar : ey + (sy.size : Int) ≤ ex - P - 1
  · have E : Hid (farB P ex sy.size ey = true) := decide_eq_true hfar
    rw [E.out]
    simp only [if_true]
    clear E hx hy hp
    go_enter Tryz.func212, Tryz.ntmps212
    go_wp2_with fail
    refine (HLm.out _).mono ?_
    rintro x w1 ⟨rfl, hb1⟩
    have HN1 : Hid (N3 w kx nx ex sx 1 ny ey sy w1) := HN.out.next hb1
    obtain ⟨a0, a1, a2, a3, a4⟩ := HN1.out.1.cells
    obtain ⟨c0, c1, c2, c3, c4⟩ := HN1.out.2.1.cells
    have HN2 : Hid (N3 w kx nx ex sx 1 ny (ex - P - 1) { data := #[49] } ((w1.setCell ⟨w.heap.size + 1, 2, none⟩ (.int .i64 (ex - P - 1))).setCell ⟨w.heap.size + 1, 3, none⟩ (.string { data := #[49] }))) := (HN1.out.y2 _).y3 _
    clear hb1 HN HLm
    go_wp2_with (refine wpList_store_row rfl 78 (.tmp 6) (.tmp 33) rfl (w.heap.size + 2) #[.int .i64 1, .bool ny, .int .i64 (ex - P - 1), .string { data := #[49] }] rfl rfl _ _ HN2.out.2.2.1 (by kernel_rfl) rfl (one4 _ _ _ _) ?_)
    have hP := (HN2.out.2.2.1.row (.int .i64 1) (.bool ny) (.int .i64 (ex - P - 1)) (.string { data := #[49] })).cells
    refine bodyPost_ret (results_num rfl _ _ rfl hP.1 hP.2.1 hP.2.2.1 hP.2.2.2.1) rfl ?_
    exact ⟨rfl, bel_row HN2.out.2.2.2 (by omega) _⟩
  · have E : Hid (farB P ex sy.size ey = false) := decide_eq_false hfar
    rw [E.out]
    simp only [Bool.false_eq_true, if_false]
    clear E hx hy hp
    go_enter Tryz.func212, Tryz.ntmps212
    go_wp2_with fail
    refine (HLm.out _).mono ?_
    rintro x w1 ⟨rfl, hb1⟩
    have HN1 : Hid (N3 w kx nx ex sx 1 ny ey sy w1) := HN.out.next hb1
    obtain ⟨a0, a1, a2, a3, a4⟩ := HN1.out.1.cells
    obtain ⟨c0, c1, c2, c3, c4⟩ := HN1.out.2.1.cells
    clear hb1 HN HLm
    go_wp2_with (refine wpList_store_row rfl 78 (.tmp 6) (.tmp 33) rfl (w.heap.size + 2) #[.int .i64 1, .bool ny, .int .i64 ey, .string sy] rfl rfl _ _ HN1.out.2.2.1 (by kernel_rfl) rfl (one4 _ _ _ _) ?_)
    have hP := (HN1.out.2.2.1.row (.int .i64 1) (.bool ny) (.int .i64 ey) (.string sy)).cells
    refine bodyPost_ret (results_num rfl _ _ rfl hP.1 hP.2.1 hP.2.2.1 hP.2.2.2.1) rfl ?_
    exact ⟨rfl, bel_row HN1.out.2.2.2 (by omega) _⟩
end Go.Proofs.YteofommckgeemaaGreatDoor
