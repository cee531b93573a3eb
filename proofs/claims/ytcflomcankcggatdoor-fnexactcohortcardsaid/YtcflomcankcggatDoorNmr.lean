/-
  Slices of numbers: what they hold; the laws' equality of such, their marks on them, and what is held of them, walked.
-/
import Derived.Test.YtcflomcankcggatDoorSha
import Derived.Test.YtcflomcankcggatDoorSl
import Derived.Test.YtcflomcankcggatDoorBx4
import Derived.Test.YtcflomcankcggatDoorNumE
import Derived.Test.YtcflomcankcggatDoorMark
namespace Go.Proofs.YtcflomcankcggatDoor
open Go.RowKit
set_option linter.unusedVariables false
set_option maxRecDepth 100000
abbrev Nmt : Type := Int × Bool × Int × ByteArray
def nq : List Nmt → List Value
  | [] => []
  | p :: r => .int .i64 p.1 :: .bool p.2.1 :: .int .i64 p.2.2.1 :: .string p.2.2.2 :: nq r
theorem nq_append (a b : List Nmt) : nq (a ++ b) = nq a ++ nq b := by
  induction a with
  | nil => rfl
  | cons p r ih => simp [nq, ih]
theorem nq_length (a : List Nmt) : (nq a).length = a.length * 4 := by
  induction a with
  | nil => rfl
  | cons p r ih => simp [nq, ih]; omega
theorem nq_at (a : List Nmt) (i : Nat) (p : Nmt) (h : a[i]? = some p) : (nq a)[i * 4]? = some (.int .i64 p.1) ∧ (nq a)[i * 4 + 1]? = some (.bool p.2.1) ∧ (nq a)[i * 4 + 2]? = some (.int .i64 p.2.2.1) ∧ (nq a)[i * 4 + 3]? = some (.string p.2.2.2) := by
  induction a generalizing i with
  | nil => simp at h
  | cons q r ih =>
    cases i with
    | zero => simp at h; subst h; simp [nq]
    | succ i =>
      have h' := ih i (by simpa using h)
      have e : (i + 1) * 4 = i * 4 + 4 := by omega
      rw [e]
      simp only [nq, List.getElem?_cons_succ]
      exact h'
/-- The slice v holds n numbers, whose cells in a row are xs. -/
def HasV (w : World) (base : Nat) (v : Value) (n : Nat) (xs : List Value) : Prop := w.ownsRow base 26 4 v n xs
def HasN (w : World) (base : Nat) (v : Value) (l : List Nmt) : Prop := HasV w base v l.length (nq l)
theorem hasN_more {w : World} {base : Nat} {v : Value} {P : List Nmt} {n : Nat} {p : Nmt} (h : w.ownsRow base 26 4 v n (nq P ++ [.int .i64 p.1, .bool p.2.1, .int .i64 p.2.2.1, .string p.2.2.2])) (hn : n = P.length + 1) : HasN w base v (P ++ [p]) := by
  unfold HasN HasV
  rw [nq_append, List.length_append]
  subst hn
  exact h
theorem HasV.below {w w' : World} {base B : Nat} {v : Value} {n : Nat} {xs : List Value} (h : HasV w base v n xs) (hb : Below B w w') (hB : w.heap.size ≤ B) : HasV w' base v n xs := own_below h hb hB
theorem HasN.below {w w' : World} {base B : Nat} {v : Value} {l : List Nmt} (h : HasN w base v l) (hb : Below B w w') (hB : w.heap.size ≤ B) : HasN w' base v l := own_below h hb hB
theorem HasV.form {w : World} {base : Nat} {v : Value} {n : Nat} {xs : List Value} (h : HasV w base v n xs) (hz : xs.length = n * 4) :
    ∃ a cap, v = .slice a n cap ∧ (0 < n → ∃ g, a = some ⟨g, 0, none⟩ ∧ base ≤ g ∧ g < w.heap.size ∧ ∀ i, i < n * 4 → w.cell? ⟨g, i, none⟩ = xs[i]?) := by
  have h0 := h
  obtain ⟨hl, h⟩ := h
  rcases h with ⟨rfl, h⟩ | ⟨g, cap, cur, rfl, hg, hc, hn, hm, hs, ht⟩
  · exact ⟨_, _, by rw [h], fun hp => by omega⟩
  · exact ⟨_, cap, rfl, fun hp => ⟨g, rfl, hg, (Array.getElem?_eq_some_iff.1 hc).1, fun i hi => World.ownsRow.cellAt h0 i (by omega)⟩⟩
theorem infoNum : (Tryd.prog.info? 26).map (fun i => (i.zero, i.size, i.bytes)) = some (some (.agg #[.int .i64 0, .bool false, .int .i64 0, .string { data := #[] }]), 4, 40) := by kernel_rfl
/-- A mark's text. -/
def mkT (k : Nat) : ByteArray := { data := #[109] } ++ tx (dcL k)
set_option maxRecDepth 100000 in
theorem markText_any (m : Nat) (h0 : 0 < m) (hm : m < 1000000) (w : World) : Calls Tryd.prog 28 #[.int .i64 m] w fun x w' => x = .returned (.string (mkT m)) ∧ Below w.heap.size w w' := by
  have hm0 : ¬ (m : Int) ≤ 0 := by omega
  have hm1 : m ≠ 0 := by omega
  go_enter Tryd.func28, Tryd.ntmps28
  go_wp2
  go_loopg [0, 3] m (fun gk s0 s3 wx => ∃ (n : Nat) (S : List Int), s0 = .int .i64 n ∧ s3 = .string (tx S) ∧ Hid (SoF m n S) ∧ n ≤ m ∧ S.length + n ≤ m + 1 ∧ Hid (gk = n) ∧ Below w.heap.size w wx)
  case atStart => exact ⟨m, [], rfl, by rw [show tx [] = { data := #[] } from by apply ByteArray.ext; rw [tx_data]; rfl], .inl ⟨rfl, rfl⟩, Nat.le_refl _, by simp, rfl, Below.refl _ _⟩
  case round =>
    obtain ⟨n, S, rfl, rfl, hS, hn, hln, hgk, hbel⟩ := hrel
    have hsz := hbel.size
    by_cases hg : 0 < n
    · have e1 : Int.tmod (n : Int) 10 = ((n % 10 : Nat) : Int) := by rw [Int.tmod_eq_emod_of_nonneg (by omega)]; omega
      have e2 : Int.tdiv (n : Int) 10 = ((n / 10 : Nat) : Int) := by rw [Int.tdiv_eq_ediv_of_nonneg (by omega)]; omega
      have hd : n % 10 ≤ 9 := by omega
      have hq : n / 10 ≤ n := by omega
      have HN := hS.out.next (.inr hg)
      have hap : tx [((n % 10 : Nat) : Int)] ++ tx S = tx (((n % 10 : Nat) : Int) :: S) := tx_append _ _
      have hz1 : (tx [((n % 10 : Nat) : Int)]).size = 1 := tx_size _
      have hz2 := tx_size S
      have hln2 : S.length + 1 + n / 10 ≤ m + 1 := by omega
      have HG : Hid (n / 10 < gk) := by rw [hgk.out]; show _ < _; omega
      have HN1 : Hid (SoF m (n / 10) (((n % 10 : Nat) : Int) :: S)) := HN
      clear HN hgk
      generalize n % 10 = r at *
      generalize n / 10 = q at *
      have hcv := fun W => nconv16 (r : Int) W
      have w1 : IntKind.i64.wrap (48 + (r : Int)) = 48 + r := by rw [IntKind.wrap_i64]; omega
      have w2 : IntKind.u8.wrap (48 + (r : Int)) = 48 + r := by rw [IntKind.wrap_u8]; omega
      have w3 : IntKind.i64.wrap (r : Int) = r := by rw [IntKind.wrap_i64]; omega
      have w4 : IntKind.i64.wrap (q : Int) = q := by rw [IntKind.wrap_i64]; omega
      have hg' : (0 : Int) < (n : Int) := by omega
      clear hS
      go_wp2
      go_roundg q
      case measure => exact HG.out
      case rel => exact ⟨q, _, rfl, congrArg _ hap, HN1, by omega, by rw [List.length_cons]; omega, rfl, hbel.alloc (by omega) _⟩
    · have hn0 : n = 0 := by omega
      subst hn0
      have hS0 : S ≠ [] := fun q => by
        rcases hS.out with ⟨_, h⟩ | ⟨h, _⟩
        · omega
        · exact h q
      have HE := hS.out.last hS0 rfl
      have hz2 := tx_size S
      clear hg hS hgk hS0
      go_wp2
      go_ret
      exact ⟨by unfold mkT; rw [HE]; rfl, hbel⟩
/-- The marks of a number. -/
def mk4 (k : Nat) : List Value := [.int .i64 k, .bool (decide ((k + 1) % 3 = 0)), .int .i64 ((k + 2 : Nat) : Int), .string (mkT (k + 3))]
/-- j numbers marked from k on. -/
def mrk (k : Nat) (xs : List Value) : Nat → List Value
  | 0 => xs
  | j + 1 => ((((mrk k xs j).set (j * 4) (.int .i64 ((k + 4 * j : Nat) : Int))).set (j * 4 + 1) (.bool (decide ((k + 4 * j + 1) % 3 = 0)))).set (j * 4 + 2) (.int .i64 ((k + 4 * j + 2 : Nat) : Int))).set (j * 4 + 3) (.string (mkT (k + 4 * j + 3)))
theorem mrk_length (k : Nat) (xs : List Value) (j : Nat) : (mrk k xs j).length = xs.length := by
  induction j with
  | zero => rfl
  | succ j ih => simp only [mrk, List.length_set]; exact ih
theorem mrk_get (k : Nat) (xs : List Value) (j i : Nat) (hi : i < j) (hj : j * 4 ≤ xs.length) : (mrk k xs j)[i * 4]? = some (.int .i64 ((k + 4 * i : Nat) : Int)) ∧ (mrk k xs j)[i * 4 + 1]? = some (.bool (decide ((k + 4 * i + 1) % 3 = 0))) ∧ (mrk k xs j)[i * 4 + 2]? = some (.int .i64 ((k + 4 * i + 2 : Nat) : Int)) ∧ (mrk k xs j)[i * 4 + 3]? = some (.string (mkT (k + 4 * i + 3))) := by
  induction j with
  | zero => omega
  | succ j ih =>
    have hl := mrk_length k xs j
    unfold mrk
    rcases (show i < j ∨ i = j by omega) with h | rfl
    · obtain ⟨h1, h2, h3, h4⟩ := ih h (by omega)
      refine ⟨?_, ?_, ?_, ?_⟩
      all_goals rw [List.getElem?_set_ne (by omega), List.getElem?_set_ne (by omega), List.getElem?_set_ne (by omega), List.getElem?_set_ne (by omega)]
      · exact h1
      · exact h2
      · exact h3
      · exact h4
    · refine ⟨?_, ?_, ?_, ?_⟩
      · rw [List.getElem?_set_ne (by omega), List.getElem?_set_ne (by omega), List.getElem?_set_ne (by omega), List.getElem?_set_self (by omega)]
      · rw [List.getElem?_set_ne (by omega), List.getElem?_set_ne (by omega), List.getElem?_set_self (by rw [List.length_set]; omega)]
      · rw [List.getElem?_set_ne (by omega), List.getElem?_set_self (by rw [List.length_set, List.length_set]; omega)]
      · rw [List.getElem?_set_self (by rw [List.length_set, List.length_set, List.length_set]; omega)]
set_option maxHeartbeats 1000000 in
theorem eqNumS_same (va vb : Value) (l : List Nmt) (ba bb : Nat) (w : World) (ha : HasN w ba va l) (hb : HasN w bb vb l) (hl : l.length ≤ 2000000) :
    Calls Tryd.prog 11 #[va, vb] w fun e w' => e = .returned (.bool true) ∧ Below w.heap.size w w' := by
  obtain ⟨aa, ca, rfl, hga⟩ := HasV.form ha (nq_length l)
  obtain ⟨ab, cb, rfl, hgb⟩ := HasV.form hb (nq_length l)
  have HA : Hid (0 < l.length → ∃ g, aa = some ⟨g, 0, none⟩ ∧ ba ≤ g ∧ g < w.heap.size ∧ ∀ i, i < l.length * 4 → w.cell? ⟨g, i, none⟩ = (nq l)[i]?) := hga
  have HB : Hid (0 < l.length → ∃ g, ab = some ⟨g, 0, none⟩ ∧ bb ≤ g ∧ g < w.heap.size ∧ ∀ i, i < l.length * 4 → w.cell? ⟨g, i, none⟩ = (nq l)[i]?) := hgb
  clear ha hb hga hgb
  go_enter Tryd.func11, Tryd.ntmps11
  go_wp2
  go_loopw [5] (fun i w1 => ∃ k : Nat, k ≤ l.length ∧ i = .int .i64 k ∧ Below w.heap.size w w1) (fun i _ => l.length - (intOf i).toNat)
  case atStart => exact ⟨0, Nat.zero_le _, rfl, Below.refl _ _⟩
  case round =>
    obtain ⟨k, hk, rfl, hbel⟩ := hrel
    by_cases hlt : k < l.length
    · obtain ⟨g, rfl, -, hgl, hca⟩ := HA.out (by omega)
      obtain ⟨g', rfl, -, hgl', hcb⟩ := HB.out (by omega)
      have hget : l[k]? = some l[k] := List.getElem?_eq_getElem hlt
      obtain ⟨q1, q2, q3, q4⟩ := nq_at l k _ hget
      have HC1 : Hid (w.cell? ⟨g, k * 4, none⟩ = some (.int .i64 l[k].1) ∧ w.cell? ⟨g, k * 4 + 1, none⟩ = some (.bool l[k].2.1) ∧ w.cell? ⟨g, k * 4 + 2, none⟩ = some (.int .i64 l[k].2.2.1) ∧ w.cell? ⟨g, k * 4 + 3, none⟩ = some (.string l[k].2.2.2)) := ⟨(hca _ (by omega)).trans q1, (hca _ (by omega)).trans q2, (hca _ (by omega)).trans q3, (hca _ (by omega)).trans q4⟩
      have HC2 : Hid (w.cell? ⟨g', k * 4, none⟩ = some (.int .i64 l[k].1) ∧ w.cell? ⟨g', k * 4 + 1, none⟩ = some (.bool l[k].2.1) ∧ w.cell? ⟨g', k * 4 + 2, none⟩ = some (.int .i64 l[k].2.2.1) ∧ w.cell? ⟨g', k * 4 + 3, none⟩ = some (.string l[k].2.2.2)) := ⟨(hcb _ (by omega)).trans q1, (hcb _ (by omega)).trans q2, (hcb _ (by omega)).trans q3, (hcb _ (by omega)).trans q4⟩
      have hk1 : (k : Int) < (l.length : Int) := by omega
      have HE : Hid (∀ W, Calls Tryd.prog 27 #[numV l[k].1 l[k].2.1 l[k].2.2.1 l[k].2.2.2, numV l[k].1 l[k].2.1 l[k].2.2.1 l[k].2.2.2] W fun e w' => e = .returned (.bool true) ∧ Below W.heap.size W w') := fun W => eqNum_same _ _ _ _ W
      clear hca hcb hget q1 q2 q3 q4
      generalize l[k].1 = x at *
      generalize l[k].2.1 = y at *
      generalize l[k].2.2.1 = z at *
      generalize l[k].2.2.2 = s at *
      have HX0 : Hid (Below w.heap.size w wr.drew) := hbel.drew
      go_upto_region 6 with fail
      refine wp_region_class (C := Below w.heap.size w) (by kernel_rfl) (by kernel_rfl) HX0.out ?_
      repeat (refine wpQuiet_step (fun K hK => ?_); go_simp; apply Exists.intro; refine ⟨fun wx hC => ?_, hK _ ?_⟩; (first | exact rfl | exact Calls.class_of (HE.out wx) (fun w' hb => bel1 hC hb) | (have q0 := (hC.cell (p := ⟨g, k * 4, none⟩) hgl).trans HC1.out.1; have q1 := (hC.cell (p := ⟨g, k * 4 + 1, none⟩) hgl).trans HC1.out.2.1; have q2 := (hC.cell (p := ⟨g, k * 4 + 2, none⟩) hgl).trans HC1.out.2.2.1; have q3 := (hC.cell (p := ⟨g, k * 4 + 3, none⟩) hgl).trans HC1.out.2.2.2; have r0 := (hC.cell (p := ⟨g', k * 4, none⟩) hgl').trans HC2.out.1; have r1 := (hC.cell (p := ⟨g', k * 4 + 1, none⟩) hgl').trans HC2.out.2.1; have r2 := (hC.cell (p := ⟨g', k * 4 + 2, none⟩) hgl').trans HC2.out.2.2.1; have r3 := (hC.cell (p := ⟨g', k * 4 + 3, none⟩) hgl').trans HC2.out.2.2.2; go_simp; exact rfl)); clear hK K)
      refine wpQuiet_nil ?_
      intro w1 hb1
      go_wp2
      go_roundw
      case rel => exact ⟨k + 1, by omega, by go_num, hb1⟩
      case measure => simp [intOf]; omega
    · have hk2 : k = l.length := by omega
      subst hk2
      go_wp2
      go_ret
      exact ⟨rfl, hbel⟩
end Go.Proofs.YtcflomcankcggatDoor
