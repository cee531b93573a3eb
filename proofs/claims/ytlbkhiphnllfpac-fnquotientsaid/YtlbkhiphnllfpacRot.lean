/-
  Roots pair by pair: the digit of a turn, the turns over a list of pairs, what they leave; a number cut into digits of a base.
-/
import Derived.Test.YtlbkhiphnllfpacRootM
namespace Go.Proofs.Ytlbkhiphnllfpac
set_option linter.unusedVariables false
set_option maxRecDepth 100000
/-- What a digit takes away behind the root S. -/
def tk (S k : Int) : Int := (20 * S + k) * k
theorem tk_nn (S k : Int) (hS : 0 ≤ S) (hk : 0 ≤ k) : 0 ≤ tk S k := Int.mul_nonneg (by omega) hk
theorem tk_mono (S j k : Int) (hS : 0 ≤ S) (h0 : 0 ≤ j) (h : j ≤ k) : tk S j ≤ tk S k := by
  unfold tk
  exact Int.mul_le_mul (by omega) h h0 (by omega)
theorem tk_le (S k : Int) (hS : 0 ≤ S) (hk : 0 ≤ k) (k9 : k ≤ 9) : tk S k ≤ 180 * S + 81 := by
  have := tk_mono S k 9 hS hk k9
  have e : tk S 9 = 180 * S + 81 := by unfold tk; omega
  omega
/-- The greatest digit up to k that takes no more than r. -/
def dn (S r : Int) : Nat → Int
  | 0 => 0
  | k + 1 => if tk S ((k + 1 : Nat) : Int) ≤ r then ((k + 1 : Nat) : Int) else dn S r k
theorem dn_yes (S r : Int) (k : Nat) (h0 : 0 ≤ r) (h : tk S (k : Int) ≤ r) : dn S r k = (k : Int) := by
  cases k with
  | zero => rfl
  | succ k => show (if _ then _ else _) = _; rw [if_pos h]
theorem dn_no (S r : Int) (k : Nat) (h : ¬ tk S ((k + 1 : Nat) : Int) ≤ r) : dn S r (k + 1) = dn S r k := by
  show (if _ then _ else _) = _; rw [if_neg h]
theorem dn_spec (S r : Int) (hS : 0 ≤ S) (hr : 0 ≤ r) (k : Nat) : 0 ≤ dn S r k ∧ dn S r k ≤ k ∧ tk S (dn S r k) ≤ r ∧ (∀ j : Int, dn S r k < j → j ≤ k → r < tk S j) := by
  induction k with
  | zero => exact ⟨Int.le_refl _, Int.le_refl _, by show tk S 0 ≤ r; unfold tk; omega, fun j h1 h2 => by have e : dn S r 0 = 0 := rfl; omega⟩
  | succ k ih =>
    by_cases h : tk S ((k + 1 : Nat) : Int) ≤ r
    · have e : dn S r (k + 1) = ((k + 1 : Nat) : Int) := by show (if _ then _ else _) = _; rw [if_pos h]
      rw [e]
      exact ⟨by omega, Int.le_refl _, h, fun j h1 h2 => by omega⟩
    · rw [dn_no S r k h]
      obtain ⟨a, b, c, d⟩ := ih
      refine ⟨a, by omega, c, fun j h1 h2 => ?_⟩
      rcases Int.lt_or_le (k : Int) j with g | g
      · have : j = ((k + 1 : Nat) : Int) := by omega
        rw [this]; omega
      · exact d j h1 g
/-- The digit of a turn. -/
def qd (S r : Int) : Int := dn S r 9
theorem qd_spec (S r : Int) (hS : 0 ≤ S) (hr : 0 ≤ r) : 0 ≤ qd S r ∧ qd S r ≤ 9 ∧ tk S (qd S r) ≤ r ∧ (qd S r = 9 ∨ r < tk S (qd S r + 1)) := by
  obtain ⟨a, b, c, d⟩ := dn_spec S r hS hr 9
  refine ⟨a, b, c, ?_⟩
  show dn S r 9 = 9 ∨ _
  rcases Int.lt_or_le (dn S r 9) 9 with h | h
  · exact .inr (d _ (show dn S r 9 < dn S r 9 + 1 by omega) (show dn S r 9 + 1 ≤ 9 by omega))
  · have b' : dn S r 9 ≤ 9 := b
    exact .inl (by omega)
theorem qd_unique (S r q : Int) (hS : 0 ≤ S) (hr : 0 ≤ r) (q0 : 0 ≤ q) (q9 : q ≤ 9) (h1 : tk S q ≤ r) (h2 : q = 9 ∨ r < tk S (q + 1)) : q = qd S r := by
  obtain ⟨a, b, c, d⟩ := qd_spec S r hS hr
  rcases Int.lt_trichotomy q (qd S r) with h | h | h
  · rcases h2 with h2 | h2
    · omega
    · have := tk_mono S (q + 1) (qd S r) hS (by omega) (by omega); omega
  · exact h
  · rcases d with d | d
    · omega
    · have := tk_mono S (qd S r + 1) q hS (by omega) (by omega); omega
/-- One turn: the digit behind the digits, the root, what is left. -/
def stp (t : List Int × Int × Int) (d : Int) : List Int × Int × Int :=
  (t.1 ++ [qd t.2.1 (100 * t.2.2 + d)], 10 * t.2.1 + qd t.2.1 (100 * t.2.2 + d), 100 * t.2.2 + d - tk t.2.1 (qd t.2.1 (100 * t.2.2 + d)))
def gr (S R : Int) (l : List Int) : List Int × Int × Int := l.foldl stp ([], S, R)
theorem gr_snoc (S R : Int) (l : List Int) (d : Int) : gr S R (l ++ [d]) = stp (gr S R l) d := by unfold gr; rw [List.foldl_append]; rfl
/-- The number that pairs make behind P. -/
def hv (P : Int) (l : List Int) : Int := l.foldl (fun p d => p * 100 + d) P
theorem hv_snoc (P : Int) (l : List Int) (d : Int) : hv P (l ++ [d]) = hv P l * 100 + d := by unfold hv; rw [List.foldl_append]; rfl
def Prs (l : List Int) : Prop := ∀ d ∈ l, 0 ≤ d ∧ d ≤ 99
theorem hv_nn (P : Int) (l : List Int) (h : Prs l) (h0 : 0 ≤ P) : P ≤ hv P l := by
  induction l generalizing P with
  | nil => exact Int.le_refl _
  | cons d r ih =>
    have b := h d List.mem_cons_self
    have := ih (P * 100 + d) (fun x hx => h x (List.mem_cons_of_mem _ hx)) (by omega)
    show P ≤ hv (P * 100 + d) r
    omega
theorem hv_append (P : Int) (a b : List Int) : hv P (a ++ b) = hv (hv P a) b := by unfold hv; rw [List.foldl_append]
theorem hv_take (P : Int) (l : List Int) (h : Prs l) (h0 : 0 ≤ P) (k : Nat) : hv P (l.take k) ≤ hv P l := by
  have e := hv_append P (l.take k) (l.drop k)
  rw [List.take_append_drop] at e
  rw [e]
  have h1 := hv_nn P (l.take k) (fun x hx => h x (List.mem_of_mem_take hx)) h0
  exact hv_nn _ _ (fun x hx => h x (List.mem_of_mem_drop hx)) (by omega)
/-- What the turns keep. -/
theorem fold_inv (l : List Int) (h : Prs l) : ∀ (D : List Int) (S R P : Int), Dec D → 0 ≤ S → 0 ≤ R → R ≤ 2 * S → S * S + R = P →
    let t := l.foldl stp (D, S, R)
    Dec t.1 ∧ t.1.length = D.length + l.length ∧ 0 ≤ t.2.1 ∧ 0 ≤ t.2.2 ∧ t.2.2 ≤ 2 * t.2.1 ∧ t.2.1 * t.2.1 + t.2.2 = hv P l ∧ (vl D = S → vl t.1 = t.2.1) := by
  induction l with
  | nil => intro D S R P hD s0 r0 r1 e; exact ⟨hD, rfl, s0, r0, r1, e, fun h => h⟩
  | cons d r ih =>
    intro D S R P hD s0 r0 r1 e
    have b := h d List.mem_cons_self
    obtain ⟨q0, q9, c, n⟩ := qd_spec S (100 * R + d) s0 (by omega)
    have T := root_turn S R P d (qd S (100 * R + d)) e r1 r0 s0 b.1 b.2 q0 q9 (by unfold tk at c; rw [Int.mul_comm S 20, Int.mul_comm R 100]; exact c)
      (by unfold tk at n; rw [Int.mul_comm S 20, Int.mul_comm R 100]; exact n)
    rw [Int.mul_comm S 20, Int.mul_comm R 100, Int.mul_comm S 10] at T
    have I := ih (fun x hx => h x (List.mem_cons_of_mem _ hx)) (D ++ [qd S (100 * R + d)]) (10 * S + qd S (100 * R + d)) (100 * R + d - tk S (qd S (100 * R + d))) (P * 100 + d)
      (fun x hx => by
        rcases List.mem_append.1 hx with hx | hx
        · exact hD x hx
        · rw [List.mem_singleton.1 hx]; exact ⟨q0, q9⟩) (by omega) (by omega) T.2 T.1
    obtain ⟨i1, i2, i3, i4, i5, i6, i7⟩ := I
    refine ⟨i1, ?_, i3, i4, i5, i6, fun hv => i7 ?_⟩
    · refine Eq.trans i2 ?_
      simp; omega
    · rw [vl_snoc, hv, Int.mul_comm]
theorem gr_inv (S R : Int) (l : List Int) (h : Prs l) (s0 : 0 ≤ S) (r0 : 0 ≤ R) (r1 : R ≤ 2 * S) :
    Dec (gr S R l).1 ∧ (gr S R l).1.length = l.length ∧ 0 ≤ (gr S R l).2.1 ∧ 0 ≤ (gr S R l).2.2 ∧ (gr S R l).2.2 ≤ 2 * (gr S R l).2.1 ∧ (gr S R l).2.1 * (gr S R l).2.1 + (gr S R l).2.2 = hv (S * S + R) l := by
  obtain ⟨a, b, c, d, e, f, g⟩ := fold_inv l h [] S R (S * S + R) (fun x hx => by cases hx) s0 r0 r1 rfl
  exact ⟨a, by rw [show (gr S R l).1.length = _ from b]; simp, c, d, e, f⟩
theorem gr_vl (l : List Int) (h : Prs l) : vl (gr 0 0 l).1 = (gr 0 0 l).2.1 := by
  obtain ⟨a, b, c, d, e, f, g⟩ := fold_inv l h [] 0 0 0 (fun x hx => by cases hx) (by decide) (by decide) (by decide) rfl
  exact g rfl
/-- A root that pairs are still to be taken in behind is small. -/
theorem root_small (S R d : Int) (s0 : 0 ≤ S) (r0 : 0 ≤ R) (d0 : 0 ≤ d) (h : (S * S + R) * 100 + d ≤ 9223372036854775807) : S ≤ 303700049 := by
  rcases Int.lt_or_le 303700049 S with g | g
  · have := Int.mul_le_mul (show 303700050 ≤ S by omega) (show 303700050 ≤ S by omega) (by decide) s0
    omega
  · exact g
/-- A number's last digits by a base, the high one first. -/
def cut (b x : Int) : Nat → List Int
  | 0 => []
  | j + 1 => (x / b ^ j % b) :: cut b x j
theorem cut_length (b x : Int) (j : Nat) : (cut b x j).length = j := by
  induction j with
  | zero => rfl
  | succ j ih => show (cut b x j).length + 1 = _; rw [ih]
theorem cut_div (b x : Int) (hb : 0 < b) (j : Nat) : x / b ^ (j + 1) = x / b / b ^ j := by
  rw [Int.pow_succ, Int.mul_comm, Int.ediv_ediv_of_nonneg (Int.le_of_lt hb)]
theorem cut_snoc (b x : Int) (hb : 0 < b) (j : Nat) : cut b x (j + 1) = cut b (x / b) j ++ [x % b] := by
  induction j with
  | zero => show [x / b ^ 0 % b] = _; rw [Int.pow_zero, Int.ediv_one]; rfl
  | succ j ih =>
    show (x / b ^ (j + 1) % b) :: cut b x (j + 1) = _
    rw [ih, cut_div b x hb]
    rfl
theorem cut_mem (b x : Int) (hb : 0 < b) (j : Nat) : ∀ d ∈ cut b x j, 0 ≤ d ∧ d ≤ b - 1 := by
  induction j with
  | zero => intro d hd; cases hd
  | succ j ih =>
    intro d hd
    rcases List.mem_cons.1 hd with rfl | hd
    · have := Int.emod_nonneg (x / b ^ j) (show b ≠ 0 by omega)
      have := Int.emod_lt_of_pos (x / b ^ j) hb
      omega
    · exact ih d hd
theorem cut_next (b x : Int) (hb : 0 < b) (j : Nat) : x / b ^ j / b = x / b ^ (j + 1) := by
  rw [Int.pow_succ, Int.ediv_ediv_of_nonneg (Int.le_of_lt (Int.pow_pos hb))]
theorem cut_hv (x : Int) (j : Nat) (h0 : 0 ≤ x) (h1 : x < 100 ^ j) : hv 0 (cut 100 x j) = x := by
  induction j generalizing x with
  | zero => rw [Int.pow_zero] at h1; show 0 = x; omega
  | succ j ih =>
    rw [Int.pow_succ] at h1
    rw [cut_snoc 100 x (by decide), hv_snoc, ih (x / 100) (by omega) (by omega)]
    omega
theorem cut_vl (x : Int) (j : Nat) (h0 : 0 ≤ x) (h1 : x < 10 ^ j) : vl (cut 10 x j) = x := by
  induction j generalizing x with
  | zero => rw [Int.pow_zero] at h1; show 0 = x; omega
  | succ j ih =>
    rw [Int.pow_succ] at h1
    rw [cut_snoc 10 x (by decide), vl_snoc, ih (x / 10) (by omega) (by omega)]
    omega
theorem cut_prs (x : Int) (j : Nat) : Prs (cut 100 x j) := fun d hd => by have := cut_mem 100 x (by decide) j d hd; omega
theorem cut_dec (x : Int) (j : Nat) : Dec (cut 10 x j) := fun d hd => by have := cut_mem 10 x (by decide) j d hd; omega
theorem cut_back (D : List Int) (h : Dec D) : cut 10 (vl D) D.length = D := by
  have b := vl_bd D h
  have e := cut_vl (vl D) D.length b.1 b.2
  have := lv_unique (cut 10 (vl D) D.length).reverse D.reverse (dec_rev _ (cut_dec _ _)) (dec_rev _ h) (by simp [cut_length]) e
  simpa using congrArg List.reverse this
/-- A row that is filled from its end on. -/
def fil (b x : Int) (n j : Nat) : List Int := List.replicate (n - j) 0 ++ cut b x j
theorem fil_length (b x : Int) (n j : Nat) (h : j ≤ n) : (fil b x n j).length = n := by unfold fil; rw [List.length_append, cut_length, List.length_replicate]; omega
theorem fil_zero (b x : Int) (n : Nat) : fil b x n 0 = List.replicate n 0 := by unfold fil cut; simp
theorem fil_all (b x : Int) (n : Nat) : fil b x n n = cut b x n := by unfold fil; simp
theorem fil_set (b x : Int) (n j : Nat) (h : j < n) : (fil b x n j).set (n - 1 - j) (x / b ^ j % b) = fil b x n (j + 1) := by
  unfold fil
  obtain ⟨m, hm⟩ : ∃ m, n - j = m + 1 := ⟨n - j - 1, by omega⟩
  rw [show n - (j + 1) = m by omega, show n - 1 - j = m by omega, hm, List.replicate_succ', List.append_assoc, List.set_append]
  simp [cut]
/-- The pairs of a number with pairs of noughts behind. -/
theorem cut_pad (x : Int) (n m j : Nat) : cut 100 (x * 100 ^ n) (j + n) = cut 100 x j ++ List.replicate n 0 := by
  induction n generalizing j with
  | zero => simp
  | succ n ih =>
    rw [show j + (n + 1) = (j + n) + 1 by omega, cut_snoc 100 _ (by decide)]
    have e1 : x * 100 ^ (n + 1) / 100 = x * 100 ^ n := by rw [Int.pow_succ, ← Int.mul_assoc]; omega
    have e2 : x * 100 ^ (n + 1) % 100 = 0 := by rw [Int.pow_succ, ← Int.mul_assoc]; omega
    rw [e1, e2, ih, List.replicate_succ', ← List.append_assoc]
theorem cut_at (b x : Int) (j i : Nat) (h : i < j) : (cut b x j).getD i 0 = x / b ^ (j - 1 - i) % b := by
  induction j generalizing i with
  | zero => omega
  | succ j ih =>
    cases i with
    | zero => simp [cut]
    | succ i =>
      have := ih i (by omega)
      show (cut b x j).getD i 0 = _
      rw [this, show j + 1 - 1 - (i + 1) = j - 1 - i by omega]
/-- The root rounded down of what an int64 holds. -/
def isq (x : Int) : Int := (gr 0 0 (cut 100 x 10)).2.1
theorem hv_all (x : Int) (h0 : 0 ≤ x) (h1 : x ≤ 9223372036854775807) : hv 0 (cut 100 x 10) = x := by
  have e : (100 : Int) ^ 10 = 100000000000000000000 := by decide
  exact cut_hv x 10 h0 (by omega)
theorem isq_spec (x : Int) (h0 : 0 ≤ x) (h1 : x ≤ 9223372036854775807) : 0 ≤ isq x ∧ isq x * isq x ≤ x ∧ x < (isq x + 1) * (isq x + 1) := by
  obtain ⟨a, b, c, d, e, f⟩ := gr_inv 0 0 (cut 100 x 10) (cut_prs x 10) (by decide) (by decide) (by decide)
  rw [show ((0 : Int) * 0 + 0) = 0 from rfl, hv_all x h0 h1] at f
  have := root_left x _ _ f d e
  exact ⟨c, this.1, this.2⟩
theorem isq_unique (x s : Int) (h0 : 0 ≤ x) (h1 : x ≤ 9223372036854775807) (s0 : 0 ≤ s) (k1 : s * s ≤ x) (k2 : x < (s + 1) * (s + 1)) : s = isq x := by
  obtain ⟨a, b, c⟩ := isq_spec x h0 h1
  exact root_same x s (isq x) s0 a k1 k2 b c
theorem isq_rest (x : Int) (h0 : 0 ≤ x) (h1 : x ≤ 9223372036854775807) : (gr 0 0 (cut 100 x 10)).2.2 = x - isq x * isq x := by
  obtain ⟨a, b, c, d, e, f⟩ := gr_inv 0 0 (cut 100 x 10) (cut_prs x 10) (by decide) (by decide) (by decide)
  rw [show ((0 : Int) * 0 + 0) = 0 from rfl, hv_all x h0 h1] at f
  show _ = x - (gr 0 0 (cut 100 x 10)).2.1 * (gr 0 0 (cut 100 x 10)).2.1
  omega
end Go.Proofs.Ytlbkhiphnllfpac
