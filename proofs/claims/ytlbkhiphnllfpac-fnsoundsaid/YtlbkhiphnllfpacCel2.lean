/-
  The corners of a cell in reach, as the model lists them: what they are, and the model's walk.
-/
import Derived.Deep.RegionWith
import Derived.Test.YtlbkhiphnllfpacCel
import Derived.Test.YtlbkhiphnllfpacSl
namespace Go.Proofs.Ytlbkhiphnllfpac
open Go.RowKit
set_option linter.unusedVariables false
set_option maxRecDepth 100000
/-- A point: its two numbers, and what they are over. -/
abbrev Pt := Int × Int × Int
def pl : List Pt → List Value
  | [] => []
  | p :: r => .int .i64 p.1 :: .int .i64 p.2.1 :: .int .i64 p.2.2 :: pl r
theorem pl_append (a b : List Pt) : pl (a ++ b) = pl a ++ pl b := by
  induction a with
  | nil => rfl
  | cons p r ih => simp [pl, ih]
theorem pl_length (a : List Pt) : (pl a).length = a.length * 3 := by
  induction a with
  | nil => rfl
  | cons p r ih => simp [pl, ih]; omega
theorem pl_at (a : List Pt) (i : Nat) (p : Pt) (h : a[i]? = some p) : (pl a)[i * 3]? = some (.int .i64 p.1) ∧ (pl a)[i * 3 + 1]? = some (.int .i64 p.2.1) ∧ (pl a)[i * 3 + 2]? = some (.int .i64 p.2.2) := by
  induction a generalizing i with
  | nil => simp at h
  | cons q r ih =>
    cases i with
    | zero => simp at h; subst h; simp [pl]
    | succ i =>
      have h' := ih i (by simpa using h)
      have e : (i + 1) * 3 = i * 3 + 3 := by omega
      rw [e]
      simp only [pl, List.getElem?_cons_succ]
      exact h'
/-- The slice value v holds the points pts in a row of its own, in a block from base on. -/
def HasP (w : World) (base : Nat) (v : Value) (pts : List Pt) : Prop := w.ownsRow base 101 3 v pts.length (pl pts)
theorem has_more {w : World} {base : Nat} {v : Value} {P : List Pt} {n : Nat} {x y z : Int} (h : w.ownsRow base 101 3 v n (pl P ++ [.int .i64 x, .int .i64 y, .int .i64 z])) (hn : n = P.length + 1) : HasP w base v (P ++ [(x, y, z)]) := by
  unfold HasP
  rw [pl_append, List.length_append]
  subst hn
  exact h
def abI (x : Int) : Int := if x < 0 then -x else x
theorem abI_nn (x : Int) : 0 ≤ abI x := by unfold abI; split <;> omega
theorem abI_le (x m : Int) (h0 : -m ≤ x) (h1 : x ≤ m) : abI x ≤ m := by unfold abI; split <;> omega
theorem infoPt : (Try.prog.info? 101).map (fun i => (i.zero, i.size, i.bytes)) = some (some (.agg #[.int .i64 0, .int .i64 0, .int .i64 0]), 3, 24) := by kernel_rfl
theorem l1Abs_any (x : Int) (w : World) (h0 : -9223372036854775807 ≤ x) (h1 : x ≤ 9223372036854775807) :
    Calls Try.prog 52 #[.int .i64 x] w fun e w' => e = .returned (.int .i64 (abI x)) ∧ w' = w := by
  by_cases h : x < 0
  · have E : Hid (abI x = -x) := by show _ = _; unfold abI; rw [if_pos h]
    go_enter Try.func52, Try.ntmps52
    go_wp2
    go_ret
    exact ⟨Ln.ret_int E.out.symm, rfl⟩
  · have E : Hid (abI x = x) := by show _ = _; unfold abI; rw [if_neg h]
    go_enter Try.func52, Try.ntmps52
    go_wp2
    go_ret
    exact ⟨Ln.ret_int E.out.symm, rfl⟩
/-- The corners of the box; where the rays cross its upright sides; where they cross its level ones. -/
def c1 (p q d y : Int) : List Pt := if abI y * p ≤ q * d then [(d, y, 1)] else []
def c2 (p q Y d s : Int) : List Pt := if Y * p ≤ s * q * d ∧ s * q * d ≤ (Y + 2) * p then [(d * p, s * q * d, p)] else []
def c3 (p q D y : Int) : List Pt := if D * q ≤ abI y * p ∧ abI y * p ≤ (D + 1) * q then [(abI y * p, y * q, q)] else []
def cnB (p q Y d : Int) : Nat → List Pt
  | 0 => []
  | i + 1 => cnB p q Y d i ++ c1 p q d (Y + 2 * i)
def cnS (p q Y d : Int) : Nat → List Pt
  | 0 => []
  | i + 1 => cnS p q Y d i ++ c2 p q Y d (2 * i - 1)
def cnD (p q D Y : Int) : Nat → List Pt
  | 0 => []
  | j + 1 => cnD p q D Y j ++ cnB p q Y (D + j) 2 ++ cnS p q Y (D + j) 2
def cnE (p q D Y : Int) : Nat → List Pt
  | 0 => cnD p q D Y 2
  | i + 1 => cnE p q D Y i ++ c3 p q D (Y + 2 * i)
theorem c1_len (p q d y : Int) : (c1 p q d y).length ≤ 1 := by unfold c1; split <;> simp
theorem c2_len (p q Y d s : Int) : (c2 p q Y d s).length ≤ 1 := by unfold c2; split <;> simp
theorem c3_len (p q D y : Int) : (c3 p q D y).length ≤ 1 := by unfold c3; split <;> simp
theorem cnB_len (p q Y d : Int) (i : Nat) : (cnB p q Y d i).length ≤ i := by
  induction i with
  | zero => simp [cnB]
  | succ i ih => simp only [cnB, List.length_append]; have := c1_len p q d (Y + 2 * i); omega
theorem cnS_len (p q Y d : Int) (i : Nat) : (cnS p q Y d i).length ≤ i := by
  induction i with
  | zero => simp [cnS]
  | succ i ih => simp only [cnS, List.length_append]; have := c2_len p q Y d (2 * i - 1); omega
theorem cnD_len (p q D Y : Int) (j : Nat) : (cnD p q D Y j).length ≤ 4 * j := by
  induction j with
  | zero => simp [cnD]
  | succ j ih =>
    simp only [cnD, List.length_append]
    have h1 := cnB_len p q Y (D + j) 2
    have h2 := cnS_len p q Y (D + j) 2
    omega
theorem cnE_len (p q D Y : Int) (i : Nat) : (cnE p q D Y i).length ≤ 8 + i := by
  induction i with
  | zero => exact cnD_len p q D Y 2
  | succ i ih => simp only [cnE, List.length_append]; have := c3_len p q D (Y + 2 * i); omega
theorem mulB (x y m n : Int) (x0 : -m ≤ x) (x1 : x ≤ m) (y0 : 0 ≤ y) (y1 : y ≤ n) (m0 : 0 ≤ m) : -(m * n) ≤ x * y ∧ x * y ≤ m * n := by
  have h1 : x * y ≤ m * y := Int.mul_le_mul_of_nonneg_right x1 y0
  have h2 : m * y ≤ m * n := Int.mul_le_mul_of_nonneg_left y1 m0
  have h3 : -m * y ≤ x * y := Int.mul_le_mul_of_nonneg_right x0 y0
  rw [Int.neg_mul] at h3
  exact ⟨by omega, by omega⟩
theorem mulC2 (x y m n : Int) (x0 : -m ≤ x) (x1 : x ≤ m) (y0 : -n ≤ y) (y1 : y ≤ n) (m0 : 0 ≤ m) (n0 : 0 ≤ n) : -(m * n) ≤ x * y ∧ x * y ≤ m * n := by
  rcases Int.le_total 0 y with h | h
  · exact mulB x y m n x0 x1 h y1 m0
  · have := mulB x (-y) m n x0 x1 (by omega) (by omega) m0
    rw [Int.mul_neg] at this
    omega
theorem pow12 (x : Int) (hx : 1 ≤ x ∧ x ≤ 2) : 10 ≤ (10 : Int) ^ x.toNat ∧ (10 : Int) ^ x.toNat ≤ 100 := by
  rcases (show x = 1 ∨ x = 2 by omega) with rfl | rfl <;> simp
theorem rgd_bd (u d : Int) (hu : 1 ≤ u ∧ u ≤ 2) (h : rgd u d = true) : 1 ≤ d ∧ d ≤ 99 := by
  unfold rgd at h
  simp only [decide_eq_true_eq] at h
  rcases (show u = 1 ∨ u = 2 by omega) with rfl | rfl
  · simp at h; omega
  · simp at h; omega
theorem bnd_bd (a u t d : Int) (hp : prm a u t = true) (hr : rgd u d = true) : 0 ≤ bnd a u t d ∧ bnd a u t d ≤ 900000 := by
  obtain ⟨ha, hu, ht⟩ := prm_parts a u t hp
  have hd := rgd_bd u d hu hr
  have hT := pow12 t ht
  have hU := pow12 u hu
  unfold bnd
  rw [if_pos ⟨hp, hr⟩]
  generalize (10 : Int) ^ t.toNat = T at *
  generalize (10 : Int) ^ u.toNat = U at *
  have m1 : 0 ≤ 10 * a * T ∧ 10 * a * T ≤ 9000 := by
    have := Int.mul_le_mul_of_nonneg_left hT.2 (show 0 ≤ 10 * a by omega)
    have := Int.mul_nonneg (show 0 ≤ 10 * a by omega) (show 0 ≤ T by omega)
    omega
  have m2 : 0 ≤ 10 * a * T * (d + 1) ∧ 10 * a * T * (d + 1) ≤ 900000 := by
    have := Int.mul_le_mul_of_nonneg_left (show d + 1 ≤ 100 by omega) m1.1
    have := Int.mul_nonneg m1.1 (show 0 ≤ d + 1 by omega)
    omega
  exact ⟨Int.ediv_nonneg m2.1 (by omega), Int.le_trans (Int.ediv_le_self _ m2.1) m2.2⟩
set_option maxRecDepth 100000 in
set_option maxHeartbeats 4000000 in
theorem l6Corners_any (a u t D Y : Int) (U T : Int) (w : World) (ha : 5 ≤ a ∧ a ≤ 9) (hU : 10 ≤ U ∧ U ≤ 100) (hT : 10 ≤ T ∧ T ≤ 100) (hD : 1 ≤ D ∧ D ≤ 99) (hY : -1000000 ≤ Y ∧ Y ≤ 1000000)
    (hu : ∀ W, Calls Try.prog 44 #[.int .i64 u] W fun e w' => e = .returned (.int .i64 U) ∧ w' = W) (ht : ∀ W, Calls Try.prog 44 #[.int .i64 t] W fun e w' => e = .returned (.int .i64 T) ∧ w' = W) :
    Calls Try.prog 69 #[.int .i64 a, .int .i64 u, .int .i64 t, .int .i64 D, .int .i64 Y] w fun e w' => ∃ v, e = .returned v ∧ HasP w' w.heap.size v (cnE (9 * U) (10 * a * T) D Y 2) ∧ Below w.heap.size w w' := by
  obtain ⟨i0, hi, hz0, hz1, hz2⟩ := info_parts infoPt
  have Hu : Hid (∀ W, Calls Try.prog 44 #[.int .i64 u] W fun e w' => e = .returned (.int .i64 U) ∧ w' = W) := hu
  have Ht : Hid (∀ W, Calls Try.prog 44 #[.int .i64 t] W fun e w' => e = .returned (.int .i64 T) ∧ w' = W) := ht
  have m1 : 0 ≤ 10 * a * T ∧ 10 * a * T ≤ 9000 := by
    have := Int.mul_le_mul_of_nonneg_left hT.2 (show 0 ≤ 10 * a by omega)
    have := Int.mul_nonneg (show 0 ≤ 10 * a by omega) (show 0 ≤ T by omega)
    omega
  have HB0 : Below w.heap.size w (w.alloc (.cells #[] 101)) := (Below.refl _ _).alloc (Nat.le_refl _) _
  have HO : Hid (HasP (w.alloc (.cells #[] 101)) w.heap.size (.slice (some ⟨w.heap.size, 0, none⟩) 0 0) []) := World.ownsRow_made w #[] 0 (Nat.le_refl _) (Nat.zero_le _) rfl
  obtain ⟨p, hp⟩ : ∃ p, p = 9 * U := ⟨_, rfl⟩
  obtain ⟨q, hq⟩ : ∃ q, q = 10 * a * T := ⟨_, rfl⟩
  rw [← hp, ← hq]
  have hpb : 90 ≤ p ∧ p ≤ 900 := by omega
  have hqb : 0 ≤ q ∧ q ≤ 9000 := by omega
  clear hu ht
  go_enter Try.func69, Try.ntmps69
  go_wp2_with fail
  refine (Hu.out _).mono ?_
  rintro e w' ⟨rfl, hw⟩
  obtain rfl := hw.symm
  go_wp2_with fail
  refine (Ht.out _).mono ?_
  rintro e w' ⟨rfl, hw⟩
  obtain rfl := hw.symm
  go_wp2
  rw [← hp, ← hq]
  clear hp hq Hu Ht m1 hU hT
  go_loopw [11, 14] (fun v d wr => ∃ j : Nat, j ≤ 2 ∧ d = .int .i64 (D + (j : Int)) ∧ Hid (HasP wr w.heap.size v (cnD p q D Y j)) ∧ Below w.heap.size w wr) (fun _ d _ => (D + 2 - intOf d).toNat)
  case atStart => exact ⟨0, Nat.zero_le _, Ln.val_int (by omega), HO, HB0⟩
  case round =>
    clear HO HB0
    obtain ⟨j, hj, rfl, hown, hbel⟩ := hrel
    have hsz := hbel.size
    by_cases hlt : j < 2
    · have hc0 : D + (j : Int) ≤ D + 1 := by omega
      have HeD : Hid (cnD p q D Y (j + 1) = cnD p q D Y j ++ cnB p q Y (D + j) 2 ++ cnS p q Y (D + j) 2) := rfl
      have hlD := cnD_len p q D Y j
      obtain ⟨d, hd⟩ : ∃ d, d = D + (j : Int) := ⟨_, rfl⟩
      rw [← hd] at hc0 HeD ⊢
      have hdd : 1 ≤ d ∧ d ≤ 100 := by omega
      have mqd := mulB q d 9000 100 (by omega) (by omega) (by omega) (by omega) (by decide)
      have Hd : Hid (d = D + (j : Int)) := hd
      generalize cnD p q D Y j = P0 at *
      clear hd
      go_wp2
      go_loopw [11, 15] (fun v y wr' => ∃ i : Nat, i ≤ 2 ∧ y = .int .i64 (Y + 2 * (i : Int)) ∧ Hid (HasP wr' w.heap.size v (P0 ++ cnB p q Y d i)) ∧ Below w.heap.size w wr') (fun _ y _ => (Y + 4 - intOf y).toNat)
      case atStart => exact ⟨0, Nat.zero_le _, Ln.val_int (by omega), by rw [cnB, List.append_nil]; exact hown, hbel⟩
      case round =>
        obtain ⟨i, hi2, rfl, hown, hbel⟩ := hrel
        have hsz := hbel.size
        by_cases hit : i < 2
        · have HeB : Hid (cnB p q Y d (i + 1) = cnB p q Y d i ++ c1 p q d (Y + 2 * i)) := rfl
          have hlB := cnB_len p q Y d i
          generalize cnB p q Y d i = P1 at *
          obtain ⟨y, hy⟩ : ∃ y, y = Y + 2 * (i : Int) := ⟨_, rfl⟩
          have hyb : -1000000 ≤ y ∧ y ≤ 1000002 := by omega
          have hyc : y ≤ Y + 2 := by omega
          rw [← hy] at HeB ⊢
          have HY : Hid (y = Y + 2 * (i : Int)) := hy
          have hab := abI_nn y
          have hab2 := abI_le y 1000002 (by omega) (by omega)
          have myp := mulB (abI y) p 1000002 900 (by omega) (by omega) (by omega) (by omega) (by decide)
          have HA : Hid (∀ W, Calls Try.prog 52 #[.int .i64 y] W fun e w' => e = .returned (.int .i64 (abI y)) ∧ w' = W) := fun W => l1Abs_any y W (by omega) (by omega)
          have HC : Hid (c1 p q d y = if abI y * p ≤ q * d then [(d, y, 1)] else []) := rfl
          clear hy
          generalize abI y = A at *
          by_cases hcond : A * p ≤ q * d
          · have Hc : Hid (c1 p q d y = [(d, y, 1)]) := by show _ = _; rw [HC.out, if_pos hcond]
            have hown0 : wr.ownsRow w.heap.size 101 3 _ (P0 ++ P1).length (pl (P0 ++ P1)) := hown.out
            have hl01 : (P0 ++ P1).length ≤ 16 := by rw [List.length_append]; omega
            clear hown HC
            go_wp2_with fail
            refine (HA.out _).mono ?_
            rintro e w' ⟨rfl, hw⟩
            obtain rfl := hw.symm
            go_wp2_with (first | (at_builtin; refine wpList_append_own _ rfl _ _ 88 rfl w.heap.size 101 i0 (.agg #[.int .i64 0, .int .i64 0, .int .i64 0]) 3 24 Try.underlying88 hi hz0 hz1 hz2 rfl (by decide) _ _ _ rfl (hown0.alloc _) ⟨wr.heap.size, 0, none⟩ 1 1 [.int .i64 d, .int .i64 y, .int .i64 1] rfl rfl ?c1 ?c2 ?c3 ?c4 ?c5 ?_) | go_in)
            case c1 =>
              intro i u hu
              match i, hu with
              | 0, hu => simp at hu; subst hu; simp [Addr.add]
              | 1, hu => simp at hu; subst hu; simp [Addr.add]
              | 2, hu => simp at hu; subst hu; simp [Addr.add]
            case c2 => intro u hu; simp at hu; rcases hu with rfl | rfl | rfl <;> rfl
            case c3 => unfold maxLen; omega
            case c4 => omega
            case c5 => simp; omega
            intro v' w4 hown4 hgrow _
            have hb4 : Below w.heap.size w w4 := Below.grown (hbel.alloc (by omega) _) hgrow (by simp; omega) (fun k hk => (hown0.lt k hk).1)
            have H4 : Hid (HasP w4 w.heap.size v' (P0 ++ (P1 ++ c1 p q d y))) := by
              rw [Hc.out, ← List.append_assoc]
              exact has_more hown4 (by simp)
            clear hown4 hgrow hown0
            go_wp2
            go_roundw
            case rel => exact ⟨i + 1, by omega, Ln.val_int (by rw [HY.out]; omega), by rw [HeB.out]; exact H4, hb4⟩
            case measure => simp [intOf]; omega
          · have Hc : Hid (c1 p q d y = []) := by show _ = _; rw [HC.out, if_neg hcond]
            clear HC
            go_wp2_with fail
            refine (HA.out _).mono ?_
            rintro e w' ⟨rfl, hw⟩
            obtain rfl := hw.symm
            go_wp2
            go_roundw
            case rel => exact ⟨i + 1, by omega, Ln.val_int (by rw [HY.out]; omega), by rw [HeB.out, Hc.out, List.append_nil]; exact hown, hbel⟩
            case measure => simp [intOf]; omega
        · have hi3 : i = 2 := by omega
          subst hi3
          have hnc : ¬ Y + 2 * ((2 : Nat) : Int) ≤ Y + 2 := by omega
          go_wp2
          have hl0 : (P0 ++ cnB p q Y d 2).length ≤ 12 := by have := cnB_len p q Y d 2; rw [List.length_append]; omega
          generalize P0 ++ cnB p q Y d 2 = P01 at *
          go_loopw [11, 16] (fun v s wr' => ∃ i : Nat, i ≤ 2 ∧ s = .int .i64 (2 * (i : Int) - 1) ∧ Hid (HasP wr' w.heap.size v (P01 ++ cnS p q Y d i)) ∧ Below w.heap.size w wr') (fun _ s _ => (3 - intOf s).toNat)
          case atStart => exact ⟨0, Nat.zero_le _, rfl, by rw [cnS, List.append_nil]; exact hown, hbel⟩
          case round =>
            clear hown hbel hsz
            obtain ⟨i, hi2, rfl, hown, hbel⟩ := hrel
            have hsz := hbel.size
            by_cases hit : i < 2
            · have HeS : Hid (cnS p q Y d (i + 1) = cnS p q Y d i ++ c2 p q Y d (2 * i - 1)) := rfl
              have hlS := cnS_len p q Y d i
              generalize cnS p q Y d i = P2 at *
              obtain ⟨s, hs⟩ : ∃ s, s = 2 * (i : Int) - 1 := ⟨_, rfl⟩
              have hsb : -1 ≤ s ∧ s ≤ 1 := by omega
              rw [← hs] at HeS ⊢
              have HS : Hid (s = 2 * (i : Int) - 1) := hs
              have msq := mulB s q 1 9000 (by omega) (by omega) (by omega) (by omega) (by decide)
              have msqd := mulB (s * q) d 9000 100 (by omega) (by omega) (by omega) (by omega) (by decide)
              have mYp := mulB Y p 1000002 900 (by omega) (by omega) (by omega) (by omega) (by decide)
              have mYp2 := mulB (Y + 2) p 1000002 900 (by omega) (by omega) (by omega) (by omega) (by decide)
              have mdp := mulB d p 100 900 (by omega) (by omega) (by omega) (by omega) (by decide)
              have HC : Hid (c2 p q Y d s = if Y * p ≤ s * q * d ∧ s * q * d ≤ (Y + 2) * p then [(d * p, s * q * d, p)] else []) := rfl
              clear hs
              by_cases hcond : Y * p ≤ s * q * d ∧ s * q * d ≤ (Y + 2) * p
              · have Hc : Hid (c2 p q Y d s = [(d * p, s * q * d, p)]) := by show _ = _; rw [HC.out, if_pos hcond]
                obtain ⟨hq1, hq2⟩ := hcond
                have hown0 : wr.ownsRow w.heap.size 101 3 _ (P01 ++ P2).length (pl (P01 ++ P2)) := hown.out
                have hl01 : (P01 ++ P2).length ≤ 16 := by rw [List.length_append]; omega
                clear hown HC
                go_wp2_with (first | (at_builtin; refine wpList_append_own _ rfl _ _ 88 rfl w.heap.size 101 i0 (.agg #[.int .i64 0, .int .i64 0, .int .i64 0]) 3 24 Try.underlying88 hi hz0 hz1 hz2 rfl (by decide) _ _ _ rfl (hown0.alloc _) ⟨wr.heap.size, 0, none⟩ 1 1 [.int .i64 (d * p), .int .i64 (s * q * d), .int .i64 p] rfl rfl ?c1 ?c2 ?c3 ?c4 ?c5 ?_) | go_in)
                case c1 =>
                  intro i u hu
                  match i, hu with
                  | 0, hu => simp at hu; subst hu; simp [Addr.add]
                  | 1, hu => simp at hu; subst hu; simp [Addr.add]
                  | 2, hu => simp at hu; subst hu; simp [Addr.add]
                case c2 => intro u hu; simp at hu; rcases hu with rfl | rfl | rfl <;> rfl
                case c3 => unfold maxLen; omega
                case c4 => omega
                case c5 => simp; omega
                intro v' w4 hown4 hgrow _
                have hb4 : Below w.heap.size w w4 := Below.grown (hbel.alloc (by omega) _) hgrow (by simp; omega) (fun k hk => (hown0.lt k hk).1)
                have H4 : Hid (HasP w4 w.heap.size v' (P01 ++ (P2 ++ c2 p q Y d s))) := by
                  rw [Hc.out, ← List.append_assoc]
                  exact has_more hown4 (by simp)
                clear hown4 hgrow hown0
                go_wp2
                go_roundw
                case rel => exact ⟨i + 1, by omega, Ln.val_int (by rw [HS.out]; omega), by rw [HeS.out]; exact H4, hb4⟩
                case measure => simp [intOf]; omega
              · have Hc : Hid (c2 p q Y d s = []) := by show _ = _; rw [HC.out, if_neg hcond]
                clear HC
                by_cases hq1 : Y * p ≤ s * q * d
                · have hq2 : ¬ s * q * d ≤ (Y + 2) * p := fun h => hcond ⟨hq1, h⟩
                  clear hcond
                  go_wp2
                  go_roundw
                  case rel => exact ⟨i + 1, by omega, Ln.val_int (by rw [HS.out]; omega), by rw [HeS.out, Hc.out, List.append_nil]; exact hown, hbel⟩
                  case measure => simp [intOf]; omega
                · clear hcond
                  go_wp2
                  go_roundw
                  case rel => exact ⟨i + 1, by omega, Ln.val_int (by rw [HS.out]; omega), by rw [HeS.out, Hc.out, List.append_nil]; exact hown, hbel⟩
                  case measure => simp [intOf]; omega
            · have hi3 : i = 2 := by omega
              subst hi3
              go_wp2
              go_roundw
              case rel => exact ⟨j + 1, by omega, Ln.val_int (by rw [Hd.out]; omega), by rw [HeD.out]; exact hown, hbel⟩
              case measure => simp [intOf]; omega
    · have hj2 : j = 2 := by omega
      subst hj2
      have hnc : ¬ D + ((2 : Nat) : Int) ≤ D + 1 := by omega
      go_wp2
      have hlD := cnD_len p q D Y 2
      go_loopw [11, 18] (fun v y wr' => ∃ i : Nat, i ≤ 2 ∧ y = .int .i64 (Y + 2 * (i : Int)) ∧ Hid (HasP wr' w.heap.size v (cnE p q D Y i)) ∧ Below w.heap.size w wr') (fun _ y _ => (Y + 4 - intOf y).toNat)
      case atStart => exact ⟨0, Nat.zero_le _, Ln.val_int (by omega), hown, hbel⟩
      case round =>
        clear hown hbel hsz
        obtain ⟨i, hi2, rfl, hown, hbel⟩ := hrel
        have hsz := hbel.size
        by_cases hit : i < 2
        · have HeE : Hid (cnE p q D Y (i + 1) = cnE p q D Y i ++ c3 p q D (Y + 2 * i)) := rfl
          have hlE := cnE_len p q D Y i
          generalize cnE p q D Y i = P0 at *
          obtain ⟨y, hy⟩ : ∃ y, y = Y + 2 * (i : Int) := ⟨_, rfl⟩
          have hyb : -1000000 ≤ y ∧ y ≤ 1000002 := by omega
          have hyc : y ≤ Y + 2 := by omega
          rw [← hy] at HeE ⊢
          have HY : Hid (y = Y + 2 * (i : Int)) := hy
          have hab := abI_nn y
          have hab2 := abI_le y 1000002 (by omega) (by omega)
          have myp := mulB (abI y) p 1000002 900 (by omega) (by omega) (by omega) (by omega) (by decide)
          have myq := mulB y q 1000002 9000 (by omega) (by omega) (by omega) (by omega) (by decide)
          have mDq := mulB D q 100 9000 (by omega) (by omega) (by omega) (by omega) (by decide)
          have mDq2 := mulB (D + 1) q 100 9000 (by omega) (by omega) (by omega) (by omega) (by decide)
          have HA : Hid (∀ W, Calls Try.prog 52 #[.int .i64 y] W fun e w' => e = .returned (.int .i64 (abI y)) ∧ w' = W) := fun W => l1Abs_any y W (by omega) (by omega)
          have HC : Hid (c3 p q D y = if D * q ≤ abI y * p ∧ abI y * p ≤ (D + 1) * q then [(abI y * p, y * q, q)] else []) := rfl
          clear hy
          generalize abI y = A at *
          by_cases hcond : D * q ≤ A * p ∧ A * p ≤ (D + 1) * q
          · have Hc : Hid (c3 p q D y = [(A * p, y * q, q)]) := by show _ = _; rw [HC.out, if_pos hcond]
            obtain ⟨hq1, hq2⟩ := hcond
            have hown0 : wr.ownsRow w.heap.size 101 3 _ P0.length (pl P0) := hown.out
            clear hown HC
            go_wp2_with fail
            refine (HA.out _).mono ?_
            rintro e w' ⟨rfl, hw⟩
            obtain rfl := hw.symm
            go_wp2_with (first | (at_builtin; refine wpList_append_own _ rfl _ _ 88 rfl w.heap.size 101 i0 (.agg #[.int .i64 0, .int .i64 0, .int .i64 0]) 3 24 Try.underlying88 hi hz0 hz1 hz2 rfl (by decide) _ _ _ rfl (hown0.alloc _) ⟨wr.heap.size, 0, none⟩ 1 1 [.int .i64 (A * p), .int .i64 (y * q), .int .i64 q] rfl rfl ?c1 ?c2 ?c3 ?c4 ?c5 ?_) | go_in)
            case c1 =>
              intro i u hu
              match i, hu with
              | 0, hu => simp at hu; subst hu; simp [Addr.add]
              | 1, hu => simp at hu; subst hu; simp [Addr.add]
              | 2, hu => simp at hu; subst hu; simp [Addr.add]
            case c2 => intro u hu; simp at hu; rcases hu with rfl | rfl | rfl <;> rfl
            case c3 => unfold maxLen; omega
            case c4 => omega
            case c5 => simp; omega
            intro v' w4 hown4 hgrow _
            have hb4 : Below w.heap.size w w4 := Below.grown (hbel.alloc (by omega) _) hgrow (by simp; omega) (fun k hk => (hown0.lt k hk).1)
            have H4 : Hid (HasP w4 w.heap.size v' (P0 ++ c3 p q D y)) := by
              rw [Hc.out]
              exact has_more hown4 rfl
            clear hown4 hgrow hown0
            go_wp2
            go_roundw
            case rel => exact ⟨i + 1, by omega, Ln.val_int (by rw [HY.out]; omega), by rw [HeE.out]; exact H4, hb4⟩
            case measure => simp [intOf]; omega
          · have Hc : Hid (c3 p q D y = []) := by show _ = _; rw [HC.out, if_neg hcond]
            clear HC
            by_cases hq1 : D * q ≤ A * p
            · have hq2 : ¬ A * p ≤ (D + 1) * q := fun h => hcond ⟨hq1, h⟩
              clear hcond
              go_wp2_with fail
              refine (HA.out _).mono ?_
              rintro e w' ⟨rfl, hw⟩
              obtain rfl := hw.symm
              go_wp2
              go_roundw
              case rel => exact ⟨i + 1, by omega, Ln.val_int (by rw [HY.out]; omega), by rw [HeE.out, Hc.out, List.append_nil]; exact hown, hbel⟩
              case measure => simp [intOf]; omega
            · clear hcond
              go_wp2_with fail
              refine (HA.out _).mono ?_
              rintro e w' ⟨rfl, hw⟩
              obtain rfl := hw.symm
              go_wp2
              go_roundw
              case rel => exact ⟨i + 1, by omega, Ln.val_int (by rw [HY.out]; omega), by rw [HeE.out, Hc.out, List.append_nil]; exact hown, hbel⟩
              case measure => simp [intOf]; omega
        · have hi3 : i = 2 := by omega
          subst hi3
          have hnc : ¬ Y + 2 * ((2 : Nat) : Int) ≤ Y + 2 := by omega
          go_wp2
          go_ret
          exact ⟨_, rfl, hown.out, hbel⟩
end Go.Proofs.Ytlbkhiphnllfpac
