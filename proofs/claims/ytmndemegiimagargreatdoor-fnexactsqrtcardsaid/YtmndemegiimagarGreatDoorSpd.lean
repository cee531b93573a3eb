/-
  Infinities thrown by the program, walked.
-/
import Derived.Test.YtmndemegiimagarGreatDoorSpa
namespace Go.Proofs.YtmndemegiimagarGreatDoor
open Go.RowKit
set_option linter.unusedVariables false
set_option maxRecDepth 100000
/-- The last infinity among the first numbers. -/
def tiA (K : Nat → Int) (B : Nat → Bool) (E : Nat → Int) (S : Nat → ByteArray) : Nat → Int × Bool × Int × ByteArray
  | 0 => (0, false, 0, { data := #[] })
  | j + 1 => if K j = 2 then (K j, B j, E j, S j) else tiA K B E S j
/-- Infinities of unlike signs. -/
def tiC (K : Nat → Int) (B : Nat → Bool) (E : Nat → Int) (S : Nat → ByteArray) (j : Nat) : Prop := K j = 2 ∧ (tiA K B E S j).1 = 2 ∧ (tiA K B E S j).2.1 ≠ B j
/-- Are there such ones among the first numbers? -/
def tiX (K : Nat → Int) (B : Nat → Bool) (E : Nat → Int) (S : Nat → ByteArray) : Nat → Bool
  | 0 => false
  | j + 1 => tiX K B E S j || (decide (K j = 2) && (decide ((tiA K B E S j).1 = 2) && !((tiA K B E S j).2.1 == B j)))
theorem tiX_iff (K : Nat → Int) (B : Nat → Bool) (E : Nat → Int) (S : Nat → ByteArray) (n : Nat) : tiX K B E S n = true ↔ ∃ j, j < n ∧ tiC K B E S j := by
  induction n with
  | zero => simp [tiX]
  | succ n ih =>
    unfold tiX
    rw [Bool.or_eq_true, ih]
    constructor
    · rintro (⟨j, hj, hc⟩ | h)
      · exact ⟨j, by omega, hc⟩
      · simp only [Bool.and_eq_true, decide_eq_true_eq, Bool.not_eq_true', beq_eq_false_iff_ne] at h
        exact ⟨n, by omega, h.1, h.2.1, h.2.2⟩
    · rintro ⟨j, hj, hc⟩
      by_cases c : j < n
      · exact .inl ⟨j, c, hc⟩
      · obtain rfl : j = n := by omega
        refine .inr ?_
        simp only [Bool.and_eq_true, decide_eq_true_eq, Bool.not_eq_true', beq_eq_false_iff_ne]
        exact ⟨hc.1, hc.2.1, hc.2.2⟩
/-- How throwInfinity ends. -/
def tiE (n : Nat) (K : Nat → Int) (B : Nat → Bool) (E : Nat → Int) (S : Nat → ByteArray) : Ending :=
  if tiX K B E S n then thrown (rsV 3 false 0 { data := #[] } 1) else if (tiA K B E S n).1 = 2 then thrown (rsV (tiA K B E S n).1 (tiA K B E S n).2.1 (tiA K B E S n).2.2.1 (tiA K B E S n).2.2.2 0) else .returned (.tuple #[])
theorem build_num0 (w : World) : (Instr.build 25 #[]).run Tryz.prog w = .ok (numV 0 false 0 { data := #[] }) w := run_build w _ _ _ (by kernel_rfl)
set_option maxRecDepth 100000 in
set_option maxHeartbeats 2000000 in
theorem throwInfinity_any (n g : Nat) (K : Nat → Int) (B : Nat → Bool) (E : Nat → Int) (S : Nat → ByteArray) (w : World) (hn : n ≤ 3) (hg : g < w.heap.size) (hr : NRw w g n K B E S) :
    Calls Tryz.prog 40 #[.slice (some ⟨g, 0, none⟩) n n] w fun x w' => x = tiE n K B E S ∧ Below w.heap.size w w' := by
  have HR : Hid (NRw w g n K B E S ∧ g < w.heap.size) := ⟨hr, hg⟩
  clear hr hg
  obtain ⟨R, hR⟩ : ∃ R, tiE n K B E S = R := ⟨_, rfl⟩
  have HRe : Hid (tiE n K B E S = R) := hR
  rw [hR]
  clear hR
  have hb0 := build_num0
  have HZ : Hid (At4r (w.alloc (.cells #[.int .i64 0, .bool false, .int .i64 0, .string { data := #[] }] 25)) w.heap.size (.int .i64 0) (.bool false) (.int .i64 0) (.string { data := #[] }) ∧ Below w.heap.size w (w.alloc (.cells #[.int .i64 0, .bool false, .int .i64 0, .string { data := #[] }] 25))) := ⟨at4r_new w _ _ _ _, (Below.refl _ _).alloc (Nat.le_refl _) _⟩
  go_enter Tryz.func40, Tryz.ntmps40
  go_wp2
  go_loopw [8] (fun s wr => ∃ j : Nat, j ≤ n ∧ s = .int .i64 j ∧ Hid (∀ i, i < j → ¬ tiC K B E S i) ∧ Hid (At4r wr w.heap.size (.int .i64 (tiA K B E S j).1) (.bool (tiA K B E S j).2.1) (.int .i64 (tiA K B E S j).2.2.1) (.string (tiA K B E S j).2.2.2) ∧ Below w.heap.size w wr)) (fun s _ => n - (intOf s).toNat)
  case atStart => exact ⟨0, Nat.zero_le _, rfl, fun i hi => by omega, HZ⟩
  case round =>
    obtain ⟨j, hj, rfl, hA, hBw⟩ := hrel
    by_cases hlt : j < n
    · obtain ⟨q0, q1, q2, q3⟩ := (HR.out.1.below hBw.out.2 HR.out.2) j hlt
      have hlt' : (j : Int) < (n : Int) := by omega
      obtain ⟨k0, hk0⟩ : ∃ k0, K j = k0 := ⟨_, rfl⟩
      obtain ⟨b0, hb0'⟩ : ∃ b0, B j = b0 := ⟨_, rfl⟩
      obtain ⟨e0, he0⟩ : ∃ e0, E j = e0 := ⟨_, rfl⟩
      obtain ⟨s0, hs0⟩ : ∃ s0, S j = s0 := ⟨_, rfl⟩
      have HK : Hid (K j = k0 ∧ B j = b0 ∧ E j = e0 ∧ S j = s0) := ⟨hk0, hb0', he0, hs0⟩
      obtain ⟨⟨tk, tb, te, ts⟩, hT⟩ : ∃ T, tiA K B E S j = T := ⟨_, rfl⟩
      have HT : Hid (tiA K B E S j = (tk, tb, te, ts)) := hT
      rw [hT] at hBw
      rw [hk0] at q0
      rw [hb0'] at q1
      rw [he0] at q2
      rw [hs0] at q3
      clear hk0 hb0' he0 hs0 hT
      have HBw : Hid (At4r wr w.heap.size (.int .i64 tk) (.bool tb) (.int .i64 te) (.string ts) ∧ Below w.heap.size w wr) := hBw
      clear hBw
      -- the number's own copy lies in a new block
      have HC : Hid (∀ o, At4r (wr.alloc o) w.heap.size (.int .i64 tk) (.bool tb) (.int .i64 te) (.string ts) ∧ Below w.heap.size w (wr.alloc o)) := fun o => ⟨HBw.out.1.next ((Below.refl _ _).alloc (Nat.le_refl _) _), HBw.out.2.alloc HBw.out.2.size _⟩
      by_cases h2 : k0 = 2
      · subst h2
        obtain ⟨c0, c1, c2, c3, c4⟩ := (HC.out (.cells #[.int .i64 2, .bool b0, .int .i64 e0, .string s0] 25)).1.cells
        have HC2 : Hid (At4r (wr.alloc (.cells #[.int .i64 2, .bool b0, .int .i64 e0, .string s0] 25)) w.heap.size (.int .i64 tk) (.bool tb) (.int .i64 te) (.string ts) ∧ Below w.heap.size w (wr.alloc (.cells #[.int .i64 2, .bool b0, .int .i64 e0, .string s0] 25))) := HC.out _
        have HN2 : Hid (tiA K B E S (j + 1) = (2, b0, e0, s0)) := by show _ = _; unfold tiA; rw [HK.out.1, HK.out.2.1, HK.out.2.2.1, HK.out.2.2.2, if_pos rfl]
        by_cases ht : tk = 2
        · subst ht
          by_cases hbb : tb = b0
          · have hbb' : (tb == b0) = true := by rw [hbb]; exact beq_self_eq_true _
            have HA2 : Hid (∀ i, i < j + 1 → ¬ tiC K B E S i) := fun i hi => by
              by_cases c : i < j
              · exact hA.out i c
              · obtain rfl : i = j := by omega
                rintro ⟨-, -, q⟩
                rw [HT.out, HK.out.2.1] at q
                exact q hbb
            clear hbb hA HC
            go_wp2_with (refine wpList_store_row rfl 25 (.tmp 2) (.tmp 27) rfl w.heap.size #[.int .i64 2, .bool b0, .int .i64 e0, .string s0] rfl rfl _ _ HC2.out.1 (by kernel_rfl) rfl (one4 _ _ _ _) ?_)
            go_roundw
            case rel => exact ⟨j + 1, by omega, by go_num, HA2, by rw [HN2.out]; exact ⟨HC2.out.1.row _ _ _ _, bel_row HC2.out.2 (Nat.le_refl _) _⟩⟩
            case measure => simp [intOf]; omega
          · have hbb' : (tb == b0) = false := beq_eq_false_iff_ne.2 hbb
            have E0 : Hid (R = thrown (rsV 3 false 0 { data := #[] } 1)) := by
              show _ = _
              rw [← HRe.out]
              exact if_pos ((tiX_iff K B E S n).2 ⟨j, hlt, HK.out.1, by rw [HT.out], by rw [HT.out, HK.out.2.1]; exact hbb⟩)
            clear hbb hA HC
            go_wp2_with fail
            refine (iInvalid_any _).mono ?_
            rintro x w4 ⟨rfl, hb4⟩
            go_wp2
            exact ⟨rfl, by rw [E0.out], HC2.out.2.trans (hb4.mono HC2.out.2.size)⟩
        · have ht' : (tk == 2) = false := beq_eq_false_iff_ne.2 ht
          have HA2 : Hid (∀ i, i < j + 1 → ¬ tiC K B E S i) := fun i hi => by
            by_cases c : i < j
            · exact hA.out i c
            · obtain rfl : i = j := by omega
              rintro ⟨-, q, -⟩
              rw [HT.out] at q
              exact ht q
          clear ht hA HC
          go_wp2_with (refine wpList_store_row rfl 25 (.tmp 2) (.tmp 27) rfl w.heap.size #[.int .i64 2, .bool b0, .int .i64 e0, .string s0] rfl rfl _ _ HC2.out.1 (by kernel_rfl) rfl (one4 _ _ _ _) ?_)
          go_roundw
          case rel => exact ⟨j + 1, by omega, by go_num, HA2, by rw [HN2.out]; exact ⟨HC2.out.1.row _ _ _ _, bel_row HC2.out.2 (Nat.le_refl _) _⟩⟩
          case measure => simp [intOf]; omega
      · have h2' : (k0 == 2) = false := beq_eq_false_iff_ne.2 h2
        have HN2 : Hid (tiA K B E S (j + 1) = (tk, tb, te, ts)) := by show _ = _; unfold tiA; rw [HK.out.1, if_neg h2]; exact HT.out
        have HA2 : Hid (∀ i, i < j + 1 → ¬ tiC K B E S i) := fun i hi => by
          by_cases c : i < j
          · exact hA.out i c
          · obtain rfl : i = j := by omega
            rintro ⟨q, -, -⟩
            rw [HK.out.1] at q
            exact h2 q
        clear h2 hA
        go_wp2
        go_roundw
        case rel => exact ⟨j + 1, by omega, by go_num, HA2, by rw [HN2.out]; exact HC.out _⟩
        case measure => simp [intOf]; omega
    · obtain rfl : j = n := by omega
      obtain ⟨⟨tk, tb, te, ts⟩, hT⟩ : ∃ T, tiA K B E S j = T := ⟨_, rfl⟩
      have HT : Hid (tiA K B E S j = (tk, tb, te, ts)) := hT
      rw [hT] at hBw
      clear hT
      have HBw : Hid (At4r wr w.heap.size (.int .i64 tk) (.bool tb) (.int .i64 te) (.string ts) ∧ Below w.heap.size w wr) := hBw
      obtain ⟨c0, c1, c2, c3, c4⟩ := hBw.out.1.cells
      clear hBw
      have hno : ¬ tiX K B E S j = true := by rw [tiX_iff]; rintro ⟨i, hi, hc⟩; exact hA.out i hi hc
      by_cases ht : tk = 2
      · subst ht
        have E0 : Hid (R = thrown (rsV 2 tb te ts 0)) := by
          show _ = _
          rw [← HRe.out]
          unfold tiE
          rw [if_neg hno, HT.out]
          rfl
        clear hno hA
        have b2 := build_res0 2 tb te ts
        have b3 := build_sp 2 tb te ts 0
        go_wp2
        exact ⟨rfl, by rw [E0.out], HBw.out.2⟩
      · have ht' : (tk == 2) = false := beq_eq_false_iff_ne.2 ht
        have E0 : Hid (R = .returned (.tuple #[])) := by
          show _ = _
          rw [← HRe.out]
          unfold tiE
          rw [if_neg hno, HT.out]
          exact if_neg ht
        clear hno hA ht
        go_wp2
        first | go_end0 | refine bodyPost_ret (results_none rfl _ _ _) rfl ?_
        exact ⟨by rw [E0.out], HBw.out.2⟩
end Go.Proofs.YtmndemegiimagarGreatDoor
