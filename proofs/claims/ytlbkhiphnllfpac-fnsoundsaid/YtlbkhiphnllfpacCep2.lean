/-
  The corners of a cell as the program lists them, and whether a digit holds there, walked.
-/
import Derived.Deep.DeepCutAuto
import Derived.Test.YtlbkhiphnllfpacCep
namespace Go.Proofs.Ytlbkhiphnllfpac
open Go.RowKit
set_option linter.unusedVariables false
set_option maxRecDepth 100000
/-- A point of the program: its two numbers. -/
abbrev Pq := Int × Int
def pq : List Pq → List Value
  | [] => []
  | p :: r => .int .i64 p.1 :: .int .i64 p.2 :: pq r
theorem pq_append (a b : List Pq) : pq (a ++ b) = pq a ++ pq b := by
  induction a with
  | nil => rfl
  | cons p r ih => simp [pq, ih]
theorem pq_length (a : List Pq) : (pq a).length = a.length * 2 := by
  induction a with
  | nil => rfl
  | cons p r ih => simp [pq, ih]; omega
theorem pq_at (a : List Pq) (i : Nat) (p : Pq) (h : a[i]? = some p) : (pq a)[i * 2]? = some (.int .i64 p.1) ∧ (pq a)[i * 2 + 1]? = some (.int .i64 p.2) := by
  induction a generalizing i with
  | nil => simp at h
  | cons q r ih =>
    cases i with
    | zero => simp at h; subst h; simp [pq]
    | succ i =>
      have h' := ih i (by simpa using h)
      have e : (i + 1) * 2 = i * 2 + 2 := by omega
      rw [e]
      simp only [pq, List.getElem?_cons_succ]
      exact h'
def HasQ (w : World) (base : Nat) (v : Value) (pts : List Pq) : Prop := w.ownsRow base 97 2 v pts.length (pq pts)
theorem hasQ_more {w : World} {base : Nat} {v : Value} {P : List Pq} {n : Nat} {x y : Int} (h : w.ownsRow base 97 2 v n (pq P ++ [.int .i64 x, .int .i64 y])) (hn : n = P.length + 1) : HasQ w base v (P ++ [(x, y)]) := by
  unfold HasQ
  rw [pq_append, List.length_append]
  subst hn
  exact h
theorem HasQ.below {w w' : World} {base B : Nat} {v : Value} {pts : List Pq} (h : HasQ w base v pts) (hb : Below B w w') (hB : w.heap.size ≤ B) : HasQ w' base v pts := own_below h hb hB
theorem HasQ.form {w : World} {base : Nat} {v : Value} {pts : List Pq} (h : HasQ w base v pts) :
    ∃ a cap, v = .slice a pts.length cap ∧ (0 < pts.length → ∃ g, a = some ⟨g, 0, none⟩ ∧ g < w.heap.size ∧ (∀ i p, pts[i]? = some p → w.cell? ⟨g, i * 2, none⟩ = some (.int .i64 p.1) ∧ w.cell? ⟨g, i * 2 + 1, none⟩ = some (.int .i64 p.2))) := by
  have h0 := h
  obtain ⟨hl, h⟩ := h
  rcases h with ⟨rfl, h⟩ | ⟨g, cap, cur, rfl, hg, hc, hn, hm, hs, ht⟩
  · exact ⟨_, _, by rw [h], fun hp => by omega⟩
  · refine ⟨_, cap, rfl, fun hp => ⟨g, rfl, (Array.getElem?_eq_some_iff.1 hc).1, fun i p hi => ?_⟩⟩
    have hlt : i < pts.length := (List.getElem?_eq_some_iff.1 hi).1
    have hat := pq_at pts i p hi
    exact ⟨by rw [World.ownsRow.cellAt h0 (i * 2) (by omega)]; exact hat.1, by rw [World.ownsRow.cellAt h0 (i * 2 + 1) (by omega)]; exact hat.2⟩
theorem infoPq : (Try.prog.info? 97).map (fun i => (i.zero, i.size, i.bytes)) = some (some (.agg #[.int .i64 0, .int .i64 0]), 2, 16) := by kernel_rfl
theorem eql_point (x y z u : Int) (w : World) : (binOp .eql 97 (.agg #[.int .i64 x, .int .i64 y]) (.agg #[.int .i64 z, .int .i64 u])).run Try.prog w = .ok (.bool (decide (x = z ∧ y = u))) w := by
  have u3 := Try.underlying2
  have a3 := Try.isAgg2
  have z3 := Try.sizeOf2
  have hS : Try.prog.underlying 97 = some (.struct (Try.prog.fieldsOf 97)) := by kernel_rfl
  have hp : Try.prog.stoodInHeld 97 = false := by kernel_rfl
  rw [run_eql_struct, show (10000 : Nat) = 9999 + 1 from rfl, run_equalIn_agg w 9999 97 _ _ hS hp]
  simp only [Program.fieldsOf, Try.underlying97]
  go_simp
  by_cases h1 : x = z <;> by_cases h2 : y = u <;> simp [h1, h2]
theorem take_no {pts : List Pq} {x : Pq} {j : Nat} (hlt : j < pts.length) (h : x ∉ pts.take j) (hn : pts[j] ≠ x) : x ∉ pts.take (j + 1) := by
  rw [List.take_add_one, List.getElem?_eq_getElem hlt]
  intro hm
  rcases List.mem_append.1 hm with h' | h'
  · exact h h'
  · simp at h'; exact hn h'.symm
set_option maxRecDepth 100000 in
set_option maxHeartbeats 2000000 in
theorem isAmong_any (v : Value) (pts : List Pq) (base : Nat) (x y : Int) (w : World) (hv : HasQ w base v pts) (hn : pts.length ≤ 16) :
    Calls Try.prog 78 #[v, .agg #[.int .i64 x, .int .i64 y]] w fun e w' => e = .returned (.bool (decide ((x, y) ∈ pts))) ∧ Below w.heap.size w w' := by
  obtain ⟨a, cap, rfl, hg⟩ := hv.form
  have HG : Hid (0 < pts.length → ∃ g, a = some ⟨g, 0, none⟩ ∧ g < w.heap.size ∧ (∀ i p, pts[i]? = some p → w.cell? ⟨g, i * 2, none⟩ = some (.int .i64 p.1) ∧ w.cell? ⟨g, i * 2 + 1, none⟩ = some (.int .i64 p.2))) := hg
  have HB : Hid (Below w.heap.size w (w.alloc (.cells #[.int .i64 x, .int .i64 y] 97))) := (Below.refl _ _).alloc (Nat.le_refl _) _
  have HA : Hid (At2 (w.alloc (.cells #[.int .i64 x, .int .i64 y] 97)) w.heap.size (.int .i64 x) (.int .i64 y)) := at2_new _ _ _ _
  have heq := eql_point
  clear hg hv
  go_enter Try.func78, Try.ntmps78
  go_wp2
  go_loopw [9] (fun i wr => ∃ j : Nat, j ≤ pts.length ∧ i = .int .i64 j ∧ Hid ((x, y) ∉ pts.take j) ∧ Hid (At2 wr w.heap.size (.int .i64 x) (.int .i64 y)) ∧ w.heap.size + 1 ≤ wr.heap.size ∧ Below w.heap.size w wr) (fun i _ => pts.length - (intOf i).toNat)
  case atStart => exact ⟨0, Nat.zero_le _, rfl, by simp [Hid], HA, by simp, HB.out⟩
  case round =>
    clear HA HB
    obtain ⟨j, hj, rfl, htk, hat, hsz1, hbel⟩ := hrel
    have q0 := fun o => (hat.out.alloc o).1
    have q1 := fun o => (hat.out.alloc o).2
    by_cases hlt : j < pts.length
    · obtain ⟨g, rfl, hgl, hcell⟩ := HG.out (by omega)
      have hget : pts[j]? = some pts[j] := List.getElem?_eq_getElem hlt
      obtain ⟨hc1, hc2⟩ := hcell j _ hget
      have hc1' := (hbel.cell (p := ⟨g, j * 2, none⟩) hgl).trans hc1
      have hc2' := (hbel.cell (p := ⟨g, j * 2 + 1, none⟩) hgl).trans hc2
      have HY : Hid (pts[j].1 = x ∧ pts[j].2 = y → (x, y) ∈ pts) := fun h => by
        have e : (x, y) = pts[j] := by rw [← h.1, ← h.2]
        rw [e]; exact List.getElem_mem hlt
      have HN : Hid (¬ (pts[j].1 = x ∧ pts[j].2 = y) → (x, y) ∉ pts.take (j + 1)) := fun h => take_no hlt htk.out (fun e => h (by rw [e]; exact ⟨rfl, rfl⟩))
      have hin : (j : Int) < (pts.length : Int) := by omega
      clear hc1 hc2 hget hcell htk
      generalize pts[j].1 = x1 at *
      generalize pts[j].2 = y1 at *
      by_cases hxy : x1 = x ∧ y1 = y
      · have E : Hid (decide ((x, y) ∈ pts) = true) := decide_eq_true (HY.out hxy)
        have hd : decide (x1 = x ∧ y1 = y) = true := decide_eq_true hxy
        go_wp2
        go_ret
        exact ⟨Ln.ret_bool E.out.symm, hbel.alloc (by omega) _⟩
      · have E := HN.out hxy
        have HE : Hid ((x, y) ∉ pts.take (j + 1)) := E
        have hd : decide (x1 = x ∧ y1 = y) = false := decide_eq_false hxy
        clear E HN HY
        go_wp2
        go_roundw
        case rel => exact ⟨j + 1, by omega, by go_num, HE, hat.out.alloc _, by simp; omega, hbel.alloc (by omega) _⟩
        case measure => simp [intOf]; omega
    · have e : j = pts.length := by omega
      subst e
      have E : Hid (decide ((x, y) ∈ pts) = false) := decide_eq_false (by have := htk.out; rwa [List.take_length] at this)
      clear htk
      go_wp2
      go_ret
      exact ⟨Ln.ret_bool E.out.symm, hbel⟩
/-- The twelve points among which the corners are, and those of them that are taken. -/
def tw (L R l h : Int) : List Pq := [(L, l), (L, h), (R, l), (R, h), (L, L), (L, -L), (R, R), (R, -R), (l, l), (-l, l), (h, h), (-h, h)]
abbrev okP (L R l h : Int) (x : Pq) : Prop := L ≤ x.1 ∧ x.1 ≤ R ∧ l ≤ x.2 ∧ x.2 ≤ h ∧ x.2 ≤ x.1 ∧ -x.2 ≤ x.1
def ins (L R l h : Int) (acc : List Pq) (x : Pq) : List Pq := if okP L R l h x ∧ x ∉ acc then acc ++ [x] else acc
def crn (L R l h : Int) (n : Nat) : List Pq := ((tw L R l h).take n).foldl (ins L R l h) []
theorem crn_step (L R l h : Int) (j : Nat) (x : Pq) (hx : (tw L R l h)[j]? = some x) : crn L R l h (j + 1) = ins L R l h (crn L R l h j) x := by
  unfold crn
  rw [List.take_add_one, hx, List.foldl_append]
  rfl
theorem ins_len (L R l h : Int) (acc : List Pq) (x : Pq) : (ins L R l h acc x).length ≤ acc.length + 1 := by
  unfold ins; split <;> simp
theorem crn_len (L R l h : Int) (n : Nat) (hn : n ≤ 12) : (crn L R l h n).length ≤ n := by
  induction n with
  | zero => simp [crn]
  | succ n ih =>
    have hl : n < (tw L R l h).length := by show n < 12; omega
    rw [crn_step L R l h n _ (List.getElem?_eq_getElem hl)]
    have := ins_len L R l h (crn L R l h n) (tw L R l h)[n]
    have := ih (by omega)
    omega
theorem ix12 (L R l h : Int) (j : Nat) (hj : j < 12) (x : Pq) (hx : (tw L R l h)[j]? = some x) (w : World) : (Instr.index 98 (.agg #[.int .i64 L, .int .i64 l, .int .i64 L, .int .i64 h, .int .i64 R, .int .i64 l, .int .i64 R, .int .i64 h, .int .i64 L, .int .i64 L, .int .i64 L, .int .i64 (-L), .int .i64 R, .int .i64 R, .int .i64 R, .int .i64 (-R), .int .i64 l, .int .i64 l, .int .i64 (-l), .int .i64 l, .int .i64 h, .int .i64 h, .int .i64 (-h), .int .i64 h]) (.int .i64 (j : Int))).run Try.prog w = .ok (.agg #[.int .i64 x.1, .int .i64 x.2]) w := by
  rcases (show j = 0 ∨ j = 1 ∨ j = 2 ∨ j = 3 ∨ j = 4 ∨ j = 5 ∨ j = 6 ∨ j = 7 ∨ j = 8 ∨ j = 9 ∨ j = 10 ∨ j = 11 by omega) with rfl | rfl | rfl | rfl | rfl | rfl | rfl | rfl | rfl | rfl | rfl | rfl
  all_goals
    rw [← Option.some.inj hx]
    clear hx hj
    show _ = _
    kernel_rfl
end Go.Proofs.Ytlbkhiphnllfpac
