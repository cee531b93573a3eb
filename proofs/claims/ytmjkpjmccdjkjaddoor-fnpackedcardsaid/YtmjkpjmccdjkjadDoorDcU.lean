/-
  The program's Declets, walked.
-/
import Derived.Test.YtmjkpjmccdjkjadDoorSl
import Derived.Test.YtmjkpjmccdjkjadDoorDcl
import Derived.Test.YtmjkpjmccdjkjadDoorSgn9
import Derived.Deep.RegionHeld3
import Derived.Deep.AppendLies
import Derived.Test.YtmjkpjmccdjkjadDoorTbs
namespace Go.Proofs.YtmjkpjmccdjkjadDoor
open Go.RowKit
set_option linter.unusedVariables false
set_option maxRecDepth 100000
/-- The slice value v, not nil, holds the numbers zs in a row of its own. -/
def HasN (w : World) (base : Nat) (v : Value) (zs : List Int) : Prop := Has w base v zs ∧ v ≠ .slice none 0 0
theorem HasN.form {w : World} {base : Nat} {v : Value} {zs : List Int} (h : HasN w base v zs) : ∃ g cap, v = .slice (some ⟨g, 0, none⟩) zs.length cap ∧ base ≤ g ∧ g < w.heap.size ∧ ∀ i, i < zs.length → w.cell? ⟨g, i, none⟩ = some (.int .i64 (zs.getD i 0)) := by
  rcases h.1.form with ⟨e, -⟩ | ⟨g, cap, e, hb, hl, -, hc, -⟩
  · exact absurd e h.2
  · exact ⟨g, cap, e, hb, hl, hc⟩
theorem Has.mono {w : World} {base base' : Nat} {v : Value} {zs : List Int} (h : Has w base v zs) (hb : base' ≤ base) : Has w base' v zs := by
  obtain ⟨hl, h⟩ := h
  refine ⟨hl, ?_⟩
  rcases h with h | ⟨g, cap, cur, e, hgb, r⟩
  · exact .inl h
  · exact .inr ⟨g, cap, cur, e, Nat.le_trans hb hgb, r⟩
theorem HasN.mono {w : World} {base base' : Nat} {v : Value} {zs : List Int} (h : HasN w base v zs) (hb : base' ≤ base) : HasN w base' v zs := ⟨h.1.mono hb, h.2⟩
theorem HasN.below {w w' : World} {base B : Nat} {v : Value} {zs : List Int} (h : HasN w base v zs) (hb : Below B w w') (hB : w.heap.size ≤ B) : HasN w' base v zs := ⟨h.1.below hb hB, h.2⟩
theorem HasN.alloc {w : World} {base : Nat} {v : Value} {zs : List Int} (h : HasN w base v zs) (o : Obj) : HasN (w.alloc o) base v zs := ⟨World.ownsRow.alloc h.1 o, h.2⟩
theorem none_ownN (w : World) : HasN (w.alloc (.cells #[] 2)) w.heap.size (.slice (some ⟨w.heap.size, 0, none⟩) 0 0) [] := ⟨none_own w, by simp⟩
theorem one_ownN (w : World) (x : Int) : HasN (w.alloc (.cells #[.int .i64 x] 2)) w.heap.size (.slice (some ⟨w.heap.size, 0, none⟩) 1 1) [x] :=
  ⟨World.ownsRow_lit (base := w.heap.size) (e := 2) (size := 1) w #[.int .i64 x] 1 (Nat.le_refl _) (by decide) (by simp), by simp⟩
theorem HasN.own {w : World} {base : Nat} {v : Value} {zs : List Int} (h : HasN w base v zs) : ∀ k, v.ownBlock = some k → base ≤ k := fun k hk => by
  obtain ⟨g, cap, rfl, hb, -⟩ := h.form
  cases hk; exact hb
theorem wpList_app {w : World} {ops : Array Oper} {rest : List Oper} {o : Oper} {a : Act} {Q : Exit → Act → World → Prop} (hgd : o.guard = none) (s x : Operand)
    (ho : o.op = .call { callee := .builtin .append, args := #[s, x], argTypes := #[45, 45] }) (vd vs : Value) (hs : a.eval s = vd) (hx : a.eval x = vs)
    (base b2 : Nat) (X Y : List Int) (hX : HasN w base vd X) (hY : HasN w b2 vs Y) (hlen : X.length + Y.length ≤ 1000000) (hbase : base ≤ w.heap.size)
    (h : ∀ v' w', Hid (HasN w' base v' (X ++ Y)) → Hid (∀ B w0, Below B w0 w → B ≤ base → Below B w0 w') → wpList Tryd.prog ops Q rest (a.put o.dst v') w') : wpList Tryd.prog ops Q (o :: rest) a w := by
  obtain ⟨i0, hi, hz0, hz1, hz2⟩ := info_parts info64
  obtain ⟨g, cap, rfl, hb, hl, hc⟩ := hY.form
  refine wpList_append_own (P := Tryd.prog) w hgd s x 45 ho base 2 i0 (.int .i64 0) 1 8 Tryd.underlying45 hi hz0 hz1 hz2 rfl (by decide) vd X.length (X.map (Value.int .i64)) hs hX.1 ⟨g, 0, none⟩ Y.length cap (Y.map (Value.int .i64)) hx (by simp) (fun j u hu => ?_) (fun u hu => ?_) (by unfold maxLen; omega) (by omega) hbase ?_
  · have hj : j < Y.length := by
      have := (List.getElem?_eq_some_iff.1 hu).1
      simpa using this
    rw [show (⟨g, 0, none⟩ : Addr).add j = ⟨g, j, none⟩ by unfold Addr.add; split <;> simp_all, hc j hj, ← hu]
    simp [List.getD, List.getElem?_eq_getElem hj]
  · obtain ⟨y, -, rfl⟩ := List.mem_map.1 hu
    rfl
  · intro v' w' hown hgrow hnil
    refine h v' w' ⟨?_, fun e => hX.2 (hnil.1 e).1⟩ (fun B w0 hB hle => Below.grown hB hgrow (Nat.le_trans hle hbase) (fun k hk => Nat.le_trans hle (hX.own k hk)))
    unfold Has
    simpa using hown
end Go.Proofs.YtmjkpjmccdjkjadDoor
namespace Go.Proofs.YtmjkpjmccdjkjadDoor
open Go.RowKit
set_option linter.unusedVariables false
set_option maxRecDepth 100000
set_option linter.unusedSimpArgs false
/-- The ten bits of the first k threes. -/
def ds3 (ds : List Int) : Nat → List Int
  | 0 => []
  | k + 1 => ds3 ds k ++ [dcl (ds.getD (3 * k) 0 * 100 + ds.getD (3 * k + 1) 0 * 10 + ds.getD (3 * k + 2) 0)]
theorem ds3_len (ds : List Int) (k : Nat) : (ds3 ds k).length = k := by
  induction k with
  | zero => rfl
  | succ k ih => simp [ds3, ih]
theorem ds3_at (ds : List Int) (n k : Nat) (h : k < n) : (ds3 ds n).getD k 0 = dcl (ds.getD (3 * k) 0 * 100 + ds.getD (3 * k + 1) 0 * 10 + ds.getD (3 * k + 2) 0) := by
  induction n with
  | zero => omega
  | succ n ih =>
    simp only [ds3]
    by_cases hk : k < n
    · rw [← ih hk, List.getD, List.getElem?_append_left (by rw [ds3_len]; exact hk)]
      rfl
    · obtain rfl : k = n := by omega
      rw [List.getD, List.getElem?_append_right (by rw [ds3_len]; omega), ds3_len, Nat.sub_self]
      rfl
/-- Digits that are told. -/
def dso (ds : List Int) : Bool := decide (ds.length ≤ 33 ∧ ds.length % 3 = 0) && rng 0 9 ds
def dsL (ds : List Int) : List Int := if dso ds then ds3 ds (ds.length / 3) else []
end Go.Proofs.YtmjkpjmccdjkjadDoor
namespace Go.Proofs.YtmjkpjmccdjkjadDoor
open Go.RowKit
set_option linter.unusedVariables false
set_option maxRecDepth 100000
/-- Numbers in a row, from a place on. -/
def Lies (w : World) (g o : Nat) (ds : List Int) : Prop := ∀ i, i < ds.length → w.cell? ⟨g, o + i, none⟩ = some (.int .i64 (ds.getD i 0))
theorem Lies.below {B : Nat} {w w' : World} {g o : Nat} {ds : List Int} (h : Lies w g o ds) (hb : Below B w w') (hg : g < B) : Lies w' g o ds := fun i hi => by
  rw [hb.cell (p := ⟨g, o + i, none⟩) hg]; exact h i hi
theorem allWithin_at (g o ca : Nat) (ds : List Int) (a b : Int) (w : World) (h : Lies w g o ds) (hl : ds.length ≤ 9223372036854775807) :
    Calls Tryd.prog 49 #[.slice (some ⟨g, o, none⟩) ds.length ca, .int .i64 a, .int .i64 b] w fun e w' => e = .returned (.bool (rng a b ds)) ∧ w' = w := by
  have Hc : Hid (∀ i, i < ds.length → w.cell? ⟨g, o + i, none⟩ = some (.int .i64 (ds.getD i 0))) := h
  have hN : Hid (∀ i, i < ds.length → (ds.getD i 0 < a ∨ b < ds.getD i 0) → rng a b ds = false) := fun i hi hx => rng_no a b ds i hi hx
  have hY : Hid ((∀ i, i < ds.length → a ≤ ds.getD i 0 ∧ ds.getD i 0 ≤ b) → rng a b ds = true) := rng_yes a b ds
  clear h
  generalize rng a b ds = r at *
  go_enter Tryd.func49, Tryd.ntmps49
  go_wp2
  go_loop [11] (fun i => ∃ k : Nat, k ≤ ds.length ∧ i = .int .i64 k ∧ Hid (∀ j, j < k → a ≤ ds.getD j 0 ∧ ds.getD j 0 ≤ b)) (fun i => ds.length - (intOf i).toNat)
  case atStart => exact ⟨0, Nat.zero_le _, rfl, fun j hj => absurd hj (Nat.not_lt_zero j)⟩
  case round =>
    obtain ⟨k, hk, rfl, hz⟩ := hrel
    by_cases hlt : k < ds.length
    · have hc := Hc.out k hlt
      have hlt' : (k : Int) < (ds.length : Int) := by omega
      obtain ⟨d, hdd⟩ : ∃ d, d = ds.getD k 0 := ⟨_, rfl⟩
      rw [← hdd] at hc
      have Hd : Hid (d = ds.getD k 0) := hdd
      clear hdd
      by_cases h1 : d < a
      · go_wp2
        go_ret
        exact ⟨Ln.ret_bool (hN.out k hlt (by rw [← Hd.out]; exact .inl h1)).symm, rfl⟩
      · by_cases h2 : b < d
        · go_wp2
          go_ret
          exact ⟨Ln.ret_bool (hN.out k hlt (by rw [← Hd.out]; exact .inr h2)).symm, rfl⟩
        · go_wp2
          go_round
          case rel => exact ⟨k + 1, by omega, by go_num, fun j hj => by rcases Nat.lt_or_ge j k with h | h; exact hz.out j h; rw [show j = k by omega, ← Hd.out]; omega⟩
          case measure => simp [intOf]; omega
    · go_wp2
      go_ret
      exact ⟨Ln.ret_bool (hY.out (fun i hi => hz.out i (by omega))).symm, rfl⟩
theorem allSigned_at (g o ca : Nat) (ds : List Int) (w : World) (h : Lies w g o ds) (hl : ds.length ≤ 9223372036854775807) :
    Calls Tryd.prog 57 #[.slice (some ⟨g, o, none⟩) ds.length ca] w fun e w' => e = .returned (.bool (rng (-9) 9 ds)) ∧ w' = w := by
  have H : Hid (Lies w g o ds) := h
  clear h
  go_enter Tryd.func57, Tryd.ntmps57
  go_wp2_with fail
  refine (allWithin_at g o ca ds (-9) 9 _ H.out hl).mono ?_
  rintro e w' ⟨rfl, rfl⟩
  go_wp2
  go_ret
  exact ⟨rfl, rfl⟩
theorem iWeight_at (g o ca : Nat) (ds : List Int) (w : World) (h : Lies w g o ds) (h18 : ds.length ≤ 18) (hr : rng (-9) 9 ds = true) :
    Calls Tryd.prog 50 #[.slice (some ⟨g, o, none⟩) ds.length ca] w fun e w' => e = .returned (.tuple #[.int .i64 (vl ds), .bool true]) ∧ w' = w := by
  have h2' : ¬ (18 : Int) < (ds.length : Int) := by omega
  have H : Hid (Calls Tryd.prog 57 #[.slice (some ⟨g, o, none⟩) ds.length ca] w fun e w' => e = .returned (.bool true) ∧ w' = w) := by
    have := allSigned_at g o ca ds w h (by omega)
    rw [hr] at this
    exact this
  have Hr : Hid (rng (-9) 9 ds = true) := hr
  have Hds : Hid (∀ i, i < ds.length → w.cell? ⟨g, o + i, none⟩ = some (.int .i64 (ds.getD i 0))) := h
  have Hall : Hid (vl (ds.take ds.length) = vl ds) := by show _ = _; rw [List.take_length]
  have Hnx : Hid (∀ k, k < ds.length → vl (ds.take (k + 1)) = vl (ds.take k) * 10 + ds.getD k 0) := vl_take ds
  have Hbd : Hid (∀ k, k ≤ 17 → -100000000000000000 < vl (ds.take k) ∧ vl (ds.take k) < 100000000000000000) := vl_take_bd ds hr
  clear hr h
  generalize hn : ds.length = n at *
  go_enter Tryd.func50, Tryd.ntmps50
  go_wp2_with fail
  refine H.out.mono ?_
  rintro e w' ⟨rfl, hw⟩
  obtain rfl := hw.symm
  go_wp2
  go_loop [4, 17] (fun s i => ∃ k : Nat, k ≤ n ∧ i = .int .i64 k ∧ s = .int .i64 (vl (ds.take k))) (fun _ i => n - (intOf i).toNat)
  case atStart => exact ⟨0, Nat.zero_le _, rfl, by simp [vl, lv]⟩
  case round =>
    obtain ⟨k, hk, rfl, rfl⟩ := hrel
    by_cases hlt : k < n
    · have hlt' : (k : Int) < (n : Int) := by omega
      have hc := Hds.out k hlt
      have hb := Hbd.out k (by omega)
      have hdb := rng_at _ _ ds Hr.out k (by omega)
      have Hfin : Hid (∃ q : Nat, q ≤ n ∧ Value.int .i64 ((k : Int) + 1) = .int .i64 q ∧ Value.int .i64 (vl (ds.take k) * 10 + ds.getD k 0) = .int .i64 (vl (ds.take q))) := ⟨k + 1, by omega, by go_num, by rw [Hnx.out k hlt]⟩
      generalize vl (ds.take k) = N at *
      generalize ds.getD k 0 = d at *
      go_wp2
      go_round
      case rel => exact Hfin.out
      case measure => simp [intOf]; omega
    · obtain rfl : k = n := by omega
      rw [Hall.out]
      go_wp2
      go_ret2
      exact ⟨rfl, rfl⟩
/-- Three digits that lie anywhere. -/
theorem weight3 (g o ca : Nat) (x y z : Int) (w : World) (hx : 0 ≤ x ∧ x ≤ 9) (hy : 0 ≤ y ∧ y ≤ 9) (hz : 0 ≤ z ∧ z ≤ 9) (c0 : w.cell? ⟨g, o, none⟩ = some (.int .i64 x)) (c1 : w.cell? ⟨g, o + 1, none⟩ = some (.int .i64 y)) (c2 : w.cell? ⟨g, o + 2, none⟩ = some (.int .i64 z)) :
    Calls Tryd.prog 50 #[.slice (some ⟨g, o, none⟩) 3 ca] w fun e w' => e = .returned (.tuple #[.int .i64 (x * 100 + y * 10 + z), .bool true]) ∧ w' = w := by
  have hL : Lies w g o [x, y, z] := fun i hi => by
    match i, hi with
    | 0, _ => exact c0
    | 1, _ => exact c1
    | 2, _ => exact c2
  have := iWeight_at g o ca [x, y, z] w hL (by simp) (rng_yes _ _ _ fun i hi => by
    match i, hi with
    | 0, _ => simp; omega
    | 1, _ => simp; omega
    | 2, _ => simp; omega)
  rw [show vl [x, y, z] = x * 100 + y * 10 + z by simp [vl, lv]; omega] at this
  exact this
end Go.Proofs.YtmjkpjmccdjkjadDoor
namespace Go.Proofs.YtmjkpjmccdjkjadDoor
open Go.RowKit
set_option linter.unusedVariables false
set_option maxRecDepth 100000
theorem dso_parts (ds : List Int) (hk : dso ds = true) : ds.length ≤ 33 ∧ ds.length % 3 = 0 ∧ rng 0 9 ds = true := by
  unfold dso at hk
  rw [Bool.and_eq_true] at hk
  have h := of_decide_eq_true hk.1
  exact ⟨h.1, h.2, hk.2⟩
theorem rng_dig (ds : List Int) (h3 : rng 0 9 ds = true) (i : Nat) : 0 ≤ ds.getD i 0 ∧ ds.getD i 0 ≤ 9 := by
  by_cases hi : i < ds.length
  · exact rng_at _ _ ds h3 i hi
  · rw [List.getD, List.getElem?_eq_none (by omega)]; simp
set_option maxRecDepth 100000 in
set_option maxHeartbeats 4000000 in
theorem iDeclets_yes (g o ca : Nat) (ds : List Int) (w : World) (ht : Tabs w) (h : Lies w g o ds) (hg : g < w.heap.size) (hca : ds.length ≤ ca) (hcm : ca ≤ 9223372036854775807) (hk : dso ds = true) :
    Calls Tryd.prog 42 #[.slice (some ⟨g, o, none⟩) ds.length ca] w fun e w' => ∃ u, e = .returned (.tuple #[u, .bool true]) ∧ HasN w' w.heap.size u (ds3 ds (ds.length / 3)) ∧ Below w.heap.size w w' := by
  obtain ⟨i0, hi, hz0, hz1, hz2⟩ := info_parts info64
  obtain ⟨h1, h2, h3⟩ := dso_parts ds hk
  obtain ⟨M, hM⟩ : ∃ M, ds.length = 3 * M := ⟨ds.length / 3, by omega⟩
  rw [show ds.length / 3 = M by omega]
  have HD : Hid (∀ i, 0 ≤ ds.getD i 0 ∧ ds.getD i 0 ≤ 9) := rng_dig ds h3
  have HG : Hid (∀ i, i < ds.length → w.cell? ⟨g, o + i, none⟩ = some (.int .i64 (ds.getD i 0))) := h
  have HL : Hid (∀ k, (ds3 ds k).length = k) := ds3_len ds
  have HT : Hid (Tabs w) := ht
  have HA : Hid (Calls Tryd.prog 49 #[.slice (some ⟨g, o, none⟩) ds.length ca, .int .i64 0, .int .i64 9] w fun e w' => e = .returned (.bool true) ∧ w' = w) := by
    have := allWithin_at g o ca ds 0 9 w h (by omega)
    rw [h3] at this
    exact this
  obtain ⟨w1, hrun, hown, hgrow⟩ := run_make_own (P := Tryd.prog) w w.heap.size 45 2 i0 (.int .i64 0) 1 Tryd.underlying45 hi hz0 hz1 .i64 .i64 M (by rw [hz2]; omega) (by unfold maxLen; omega) (Nat.le_refl _)
  have HN : Hid (HasN w1 w.heap.size (.slice (some ⟨w.heap.size, 0, none⟩) 0 M) [] ∧ Below w.heap.size w w1) := ⟨⟨hown, by simp⟩, Below.grown (Below.refl _ _) hgrow (Nat.le_refl _) (fun k hk => by cases hk)⟩
  have h1' : ¬ (33 : Int) < (ds.length : Int) := by omega
  have hmd : Int.tmod (ds.length : Int) 3 = 0 := by rw [Int.tmod_eq_emod_of_nonneg (by omega)]; omega
  have hdv : Int.tdiv (ds.length : Int) 3 = (M : Int) := by rw [Int.tdiv_eq_ediv_of_nonneg (by omega)]; omega
  have hm1 : ds.length ≤ 3 * M := by omega
  have hm2 : 3 * M ≤ ds.length := by omega
  clear h hk h2 h3 hM ht hown hgrow
  generalize ds.length = n at *
  go_enter Tryd.func42, Tryd.ntmps42
  go_wp2_with fail
  refine HA.out.mono ?_
  rintro e w2 ⟨rfl, hw⟩
  subst hw
  go_wp2
  clear HA hrun hmd hdv
  go_loopw [4, 5] (fun u i wr => ∃ j : Nat, j ≤ M ∧ i = .int .i64 ((3 * j : Nat) : Int) ∧ Hid (HasN wr w2.heap.size u (ds3 ds j)) ∧ Hid (Below w2.heap.size w2 wr)) (fun _ i _ => n - (intOf i).toNat)
  case atStart => exact ⟨0, Nat.zero_le _, rfl, HN.out.1, HN.out.2⟩
  case round =>
    obtain ⟨j, hj, rfl, hown, hbel⟩ := hrel
    by_cases hlt : j < M
    · obtain ⟨K, hK⟩ : ∃ K, 3 * j = K := ⟨_, rfl⟩
      have q0 := (hbel.out.cell (p := ⟨g, o + K, none⟩) hg).trans (HG.out K (by omega))
      have q1 := (hbel.out.cell (p := ⟨g, o + (K + 1), none⟩) hg).trans (HG.out (K + 1) (by omega))
      have q2 := (hbel.out.cell (p := ⟨g, o + (K + 2), none⟩) hg).trans (HG.out (K + 2) (by omega))
      have d0 := HD.out K
      have d1 := HD.out (K + 1)
      have d2 := HD.out (K + 2)
      have HE : Hid (ds3 ds (j + 1) = ds3 ds j ++ [dcl (ds.getD K 0 * 100 + ds.getD (K + 1) 0 * 10 + ds.getD (K + 2) 0)]) := by rw [← hK]; rfl
      have hln := HL.out j
      generalize ds.getD K 0 = x0 at *
      generalize ds.getD (K + 1) 0 = x1 at *
      generalize ds.getD (K + 2) 0 = x2 at *
      generalize ds3 ds j = P0 at *
      have hsz := hbel.out.size
      have hK1 : (K : Int) < (n : Int) := by omega
      have hK2 : (K : Int) + 3 ≤ (n : Int) := by omega
      have hK3 : ¬ (ca : Int) < (K : Int) + 3 := by omega
      have hK4 : ¬ ca = K := by omega
      have hK5 : ¬ (ca : Int) = (K : Int) := by omega
      have HW : Hid (∀ c, Calls Tryd.prog 50 #[.slice (some ⟨g, o + K, none⟩) 3 c] wr fun e w' => e = .returned (.tuple #[.int .i64 (x0 * 100 + x1 * 10 + x2), .bool true]) ∧ w' = wr) := fun c => weight3 g (o + K) c x0 x1 x2 wr d0 d1 d2 q0 q1 q2
      have HDc : Hid (Calls Tryd.prog 51 #[.int .i64 (x0 * 100 + x1 * 10 + x2)] wr fun e w' => e = .returned (.int .i64 (dcl (x0 * 100 + x1 * 10 + x2))) ∧ Below wr.heap.size wr w') := (HT.out.below hbel.out (Nat.le_refl _)).declet _
      rw [hK]
      have HK : Hid (3 * j = K) := hK
      clear hK q0 q1 q2
      generalize dcl (x0 * 100 + x1 * 10 + x2) = D at *
      go_wp2_with fail
      refine (HW.out _).mono ?_
      rintro e w3 ⟨rfl, hw⟩
      subst hw
      go_wp2_with fail
      refine HDc.out.mono ?_
      rintro e w4 ⟨rfl, hb4⟩
      have hown4 := hown.out.below hb4 (Nat.le_refl _)
      have hbel4 : Hid (Below w2.heap.size w2 w4) := hbel.out.trans (hb4.mono hsz)
      have hsz4 := hbel4.out.size
      clear hown hbel hb4 HW HDc
      go_wp2_with (first | (at_builtin; refine wpList_app rfl _ _ rfl _ _ rfl rfl w2.heap.size w4.heap.size P0 [D] (hown4.alloc _) (one_ownN w4 D) (by simp; omega) (by simp <;> omega) ?_) | go_in)
      intro v6 w6 h6 hb6
      have H6 : Hid (HasN w6 w2.heap.size v6 (ds3 ds (j + 1))) := by rw [HE.out]; exact h6
      have HB6 : Hid (Below w2.heap.size w2 w6) := hb6.out _ _ (hbel4.out.alloc hsz4 _) (Nat.le_refl _)
      clear h6 hb6 HE hown4 hbel4
      go_wp2
      go_roundw
      case rel => exact ⟨j + 1, by omega, Ln.val_int (by have := HK.out; omega), H6, HB6⟩
      case measure => simp [intOf]; omega
    · obtain rfl : j = M := by omega
      have hnl : ¬ (((3 * j : Nat) : Int) < (n : Int)) := by omega
      go_wp2
      go_ret2
      exact ⟨_, rfl, hown.out, hbel.out⟩
set_option maxRecDepth 100000 in
set_option maxHeartbeats 4000000 in
theorem iDeclets_no (g o ca : Nat) (ds : List Int) (w : World) (h : Lies w g o ds) (hl : ds.length ≤ 9223372036854775807) (hk : dso ds = false) :
    Calls Tryd.prog 42 #[.slice (some ⟨g, o, none⟩) ds.length ca] w fun e w' => ∃ u, e = .returned (.tuple #[u, .bool false]) ∧ Has w' w.heap.size u [] ∧ Below w.heap.size w w' := by
  have HO : Hid (Has (w.alloc (.cells #[] 2)) w.heap.size (.slice (some ⟨w.heap.size, 0, none⟩) 0 0) [] ∧ Below w.heap.size w (w.alloc (.cells #[] 2))) := ⟨none_own w, (Below.refl _ _).alloc (Nat.le_refl _) _⟩
  by_cases h33 : 33 < ds.length
  · have h33' : (33 : Int) < (ds.length : Int) := by omega
    clear h hk
    go_enter Tryd.func42, Tryd.ntmps42
    go_wp2
    go_ret2
    exact ⟨_, rfl, HO.out.1, HO.out.2⟩
  have h33' : ¬ (33 : Int) < (ds.length : Int) := by omega
  have hme : Int.tmod (ds.length : Int) 3 = (ds.length : Int) % 3 := Int.tmod_eq_emod_of_nonneg (by omega)
  by_cases hm : ds.length % 3 = 0
  · have hm' : (ds.length : Int) % 3 = 0 := by omega
    have hr : rng 0 9 ds = false := by
      unfold dso at hk
      rw [decide_eq_true ⟨by omega, hm⟩] at hk
      simpa using hk
    have HA : Hid (Calls Tryd.prog 49 #[.slice (some ⟨g, o, none⟩) ds.length ca, .int .i64 0, .int .i64 9] w fun e w' => e = .returned (.bool false) ∧ w' = w) := by
      have := allWithin_at g o ca ds 0 9 w h (by omega)
      rw [hr] at this
      exact this
    rw [hm'] at hme
    clear h hk hm hr hm'
    generalize ds.length = n at *
    go_enter Tryd.func42, Tryd.ntmps42
    go_wp2_with fail
    refine HA.out.mono ?_
    rintro e w2 ⟨rfl, hw⟩
    subst hw
    go_wp2
    go_ret2
    exact ⟨_, rfl, HO.out.1, HO.out.2⟩
  · have hm' : ((ds.length : Int) % 3 == 0) = false := beq_eq_false_iff_ne.2 (by omega)
    have h3 : 0 ≤ (ds.length : Int) % 3 ∧ (ds.length : Int) % 3 ≤ 2 := by omega
    have h4 : ¬ (ds.length : Int) % 3 = 0 := by omega
    clear h hk hm
    generalize (ds.length : Int) % 3 = q at *
    generalize ds.length = n at *
    go_enter Tryd.func42, Tryd.ntmps42
    go_wp2
    go_ret2
    exact ⟨_, rfl, HO.out.1, HO.out.2⟩
theorem iDeclets_nil (w : World) (ht : Tabs w) :
    Calls Tryd.prog 42 #[.slice none 0 0] w fun e w' => ∃ u, e = .returned (.tuple #[u, .bool true]) ∧ HasN w' w.heap.size u [] ∧ Below w.heap.size w w' := by
  obtain ⟨i0, hi, hz0, hz1, hz2⟩ := info_parts info64
  obtain ⟨w1, hrun, hown, hgrow⟩ := run_make_own (P := Tryd.prog) w w.heap.size 45 2 i0 (.int .i64 0) 1 Tryd.underlying45 hi hz0 hz1 .i64 .i64 0 (by rw [hz2]; decide) (by unfold maxLen; decide) (Nat.le_refl _)
  have HN : Hid (HasN w1 w.heap.size (.slice (some ⟨w.heap.size, 0, none⟩) 0 0) [] ∧ Below w.heap.size w w1) := ⟨⟨hown, by simp⟩, Below.grown (Below.refl _ _) hgrow (Nat.le_refl _) (fun k hk => by cases hk)⟩
  have hrun' : (Instr.makeSlice 45 (.int .i64 0) (.int .i64 0)).run Tryd.prog w = .ok (.slice (some ⟨w.heap.size, 0, none⟩) 0 0) w1 := hrun
  have HA : Hid (Calls Tryd.prog 49 #[.slice none 0 0, .int .i64 0, .int .i64 9] w fun e w' => e = .returned (.bool true) ∧ w' = w) := allWithin_any _ [] 0 9 w.heap.size w ⟨rfl, .inl ⟨rfl, rfl⟩⟩
  clear ht hown hgrow hrun
  go_enter Tryd.func42, Tryd.ntmps42
  go_wp2_with fail
  refine HA.out.mono ?_
  rintro e w2 ⟨rfl, hw⟩
  subst hw
  go_wp2
  go_loopw [4, 5] (fun u i wr => i = .int .i64 0 ∧ wr = w1 ∧ u = .slice (some ⟨w2.heap.size, 0, none⟩) 0 0) (fun _ _ _ => 0)
  case atStart => exact ⟨rfl, rfl, rfl⟩
  case round =>
    obtain ⟨rfl, rfl, rfl⟩ := hrel
    go_wp2
    go_ret2
    exact ⟨_, rfl, HN.out.1, HN.out.2⟩
theorem iDeclets_any (v : Value) (ds : List Int) (base : Nat) (w : World) (ht : Tabs w) (h : Has w base v ds) :
    Calls Tryd.prog 42 #[v] w fun e w' => ∃ u, e = .returned (.tuple #[u, .bool (dso ds)]) ∧ Has w' w.heap.size u (dsL ds) ∧ Below w.heap.size w w' := by
  have h' := h
  obtain ⟨hl, h'⟩ := h'
  rcases h' with ⟨e, he⟩ | ⟨g, cap, cur, e, hg, hc, hn, hm, hs, _⟩
  · obtain rfl : ds = [] := List.length_eq_zero_iff.1 (by simpa using he)
    subst e
    exact (iDeclets_nil w ht).mono fun e w' ⟨u, e1, hu, hb⟩ => ⟨u, e1, hu.1, hb⟩
  · rcases h.form with ⟨e', he'⟩ | ⟨g2, cap2, e', _, hgl, hmx, hca, _⟩
    · rw [e] at e'; cases e'
    · rw [e] at e'
      cases e'
      have hL : Lies w g 0 ds := fun i hi => by rw [Nat.zero_add]; exact hca i hi
      unfold maxLen at hm
      subst e
      cases hk : dso ds with
      | false =>
        rw [show dsL ds = [] by unfold dsL; rw [hk]; rfl]
        exact iDeclets_no g 0 cap ds w hL hmx hk
      | true =>
        rw [show dsL ds = ds3 ds (ds.length / 3) by unfold dsL; rw [hk]; rfl]
        exact (iDeclets_yes g 0 cap ds w ht hL hgl hn (by omega) hk).mono fun e w' ⟨u, e1, hu, hb⟩ => ⟨u, e1, hu.1, hb⟩
theorem dsL_length (ds : List Int) : (dsL ds).length ≤ 41 := by
  cases hk : dso ds with
  | false => unfold dsL; rw [hk]; simp
  | true =>
    obtain ⟨h1, h2, h3⟩ := dso_parts ds hk
    unfold dsL; rw [hk, if_pos rfl, ds3_len]; omega
end Go.Proofs.YtmjkpjmccdjkjadDoor
