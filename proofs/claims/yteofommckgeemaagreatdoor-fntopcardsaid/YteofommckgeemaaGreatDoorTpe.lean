/-
  FnTop's text on the bench: all of it.
-/
import Derived.Test.YteofommckgeemaaGreatDoorLwl
import Derived.Test.YteofommckgeemaaGreatDoorExc
import Derived.Test.YteofommckgeemaaGreatDoorExk
import Derived.Test.YteofommckgeemaaGreatDoorSqi
import Derived.Test.YteofommckgeemaaGreatDoorDvj
import Derived.Test.YteofommckgeemaaGreatDoorDvp
import Derived.Test.YteofommckgeemaaGreatDoorSpn
import Derived.Test.YteofommckgeemaaGreatDoorSmn
namespace Go.Proofs.YteofommckgeemaaGreatDoor
open Go.RowKit
set_option linter.unusedVariables false
set_option maxRecDepth 100000
set_option linter.unusedSimpArgs false
theorem ten16 : (10 : Int) ^ 16 = 10000000000000000 := by decide
theorem nt_ok (x : Int) (h0 : 0 ≤ x) (h1 : x < 10000000000000000) : Canon (nt x) ∧ vl (nt x) = x ∧ (nt x).length ≤ 16 := by
  have hb : x < 10 ^ 500 := Int.lt_of_lt_of_le h1 (by rw [← ten16]; exact pow_mono 16 500 (by decide))
  obtain ⟨a, b⟩ := nt_spec x h0 hb
  exact ⟨a, b, canon_le _ a 16 (by decide) (by rw [b, ten16]; exact h1)⟩
theorem nt_ne (x : Int) (h0 : 0 < x) (h1 : x < 10000000000000000) : nt x ≠ [0] := fun q => by
  have := (nt_ok x (by omega) h1).2.1
  rw [q] at this
  have e : vl [0] = 0 := rfl
  omega
theorem tnz_16 (x : Int) (h0 : 0 ≤ x) (h1 : x < 10000000000000000) : (tx (nt x)).size ≤ 16 := by rw [tx_size]; exact (nt_ok x h0 h1).2.2
theorem numB_tn (f : Int) (hf : f = 64 ∨ f = 128) (x : Int) (h0 : 0 ≤ x) (h1 : x < 10000000000000000) (b : Bool) (e : Int) (he : -398 ≤ e ∧ e ≤ 369) : numB f 1 b e (tx (nt x)) = true := by
  obtain ⟨a, -, c⟩ := nt_ok x h0 h1
  unfold numB
  rcases hf with rfl | rfl
  · rw [if_neg (by decide), if_pos rfl, natB_tx _ _ a (by show _ ≤ (16 : Int); omega), show limL 64 = -398 from rfl, show limH 64 = 369 from rfl, decide_eq_true he.1, decide_eq_true he.2]; rfl
  · rw [if_neg (by decide), if_pos rfl, natB_tx _ _ a (by show _ ≤ (34 : Int); omega), show limL 128 = -6176 from rfl, show limH 128 = 6111 from rfl, decide_eq_true (show (-6176 : Int) ≤ e by omega), decide_eq_true (show e ≤ (6111 : Int) by omega)]; rfl
theorem zpad_id (m : Nat) (L : List Int) (h : m ≤ L.length) : zpad m L = L := by
  unfold zpad
  rw [show m - L.length = 0 by omega]; rfl
theorem fnT_0 (L : List Int) (h : Canon L) : fnT 0 L = tx L := by
  have n1 := h.2.1
  unfold fnT
  rw [if_pos ⟨Int.le_refl _, by omega⟩, show (-(0 : Int)).toNat = 0 from rfl, zpad_id _ L (by omega), Nat.sub_zero, List.take_length, List.drop_length]
  rfl
theorem shT_tn (x : Int) (h0 : 0 ≤ x) (h1 : x < 10000000000000000) (b : Bool) : shT 1 b 0 (tx (nt x)) = sgnT b ++ tx (nt x) := by
  obtain ⟨a, -, -⟩ := nt_ok x h0 h1
  unfold shT
  rw [numB_tn 128 (.inr rfl) x h0 h1 b 0 (by decide), if_pos rfl]
  unfold usT
  rw [if_neg (by decide), if_neg (by decide), if_neg (by decide), dl_tx _ a.1, fnT_0 _ a]
/-- A number that is right is read back from its text. -/
theorem back64 (b : Bool) (e : Int) (L : List Int) (hC : Canon L) (hl : L.length ≤ 16) (he : -398 ≤ e ∧ e ≤ 369) : RdIs 64 1 (sgnT b ++ fnT e L) (1, b, e, tx L) := by
  have hlen := fnT_len e L hC (by omega) (by omega)
  obtain ⟨d, r, h0, h9, hr⟩ := fnT_head e L hC
  obtain ⟨D, n, ng, P, p1, p2, p3⟩ := show_parse e L hC (by omega) (by omega)
  obtain ⟨g1, g2⟩ := sgn_digit b d h0 h9 r
  have hsl : (sgnT b).data.toList.length ≤ 1 := by cases b <;> decide
  have hz : ((sgnT b).data.toList ++ (fnT e L).data.toList).length ≤ 200 := by rw [List.length_append]; omega
  refine ⟨0, ?_⟩
  rw [ba_list]
  unfold rdR
  rw [if_pos ⟨.inl rfl, by decide, hz⟩]
  rw [hr] at p1 ⊢
  rw [g1, g2]
  unfold rdSt
  rw [knK_digit d h0 h9 r, if_neg (fun q => q rfl), p1]
  show Value.tuple #[rsD b (finD 64 1 b (strip (D.map (· - 48))) (scE n ng P) false (scE n ng P)), .bool true] = _
  rw [p2, p3, finD_self 64 (.inl rfl) 1 b L e hC (by show _ ≤ (16 : Int); omega) (by show (-398 : Int) ≤ _; omega) (by show _ ≤ (369 : Int); omega)]
theorem rd_tn (x : Int) (h0 : 0 ≤ x) (h1 : x < 10000000000000000) (b : Bool) : RdIs 64 1 (sgnT b ++ tx (nt x)) (1, b, 0, tx (nt x)) := by
  obtain ⟨a, -, c⟩ := nt_ok x h0 h1
  have := back64 b 0 (nt x) a c (by decide)
  rwa [fnT_0 _ a] at this
theorem sgnF (s : ByteArray) : sgnT false ++ s = s := ByteArray.empty_append
theorem rd_pos (x : Int) (h0 : 0 ≤ x) (h1 : x < 10000000000000000) : RdIs 64 1 (tx (nt x)) (1, false, 0, tx (nt x)) := by
  have := rd_tn x h0 h1 false
  rwa [sgnF] at this
/-- A number with a nought behind its point. -/
theorem nt_ten (x : Int) (h0 : 0 < x) (h1 : x < 1000000000000000) : nt (x * 10) = nt x ++ [0] := by
  obtain ⟨a, b, c⟩ := nt_ok x (by omega) (by omega)
  have hc := canon_noughts (nt x) 1 a (nt_ne x h0 (by omega))
  have hv := vl_noughts (nt x) 1
  rw [b] at hv
  exact (nt_of _ _ hc (by rw [hv]; rfl) (by simp; omega)).symm
theorem rd_dot (x : Int) (h0 : 0 < x) (h1 : x < 1000000000000000) : RdIs 64 1 (tx (nt x) ++ ⟨#[46, 48]⟩) (1, false, -1, tx (nt (x * 10))) := by
  obtain ⟨a, b, c⟩ := nt_ok x (by omega) (by omega)
  obtain ⟨a2, b2, c2⟩ := nt_ok (x * 10) (by omega) (by omega)
  have h := back64 false (-1) (nt (x * 10)) a2 c2 (by decide)
  have n1 := a.2.1
  have e : fnT (-1) (nt (x * 10)) = tx (nt x) ++ ⟨#[46, 48]⟩ := by
    rw [nt_ten x h0 h1]
    unfold fnT
    have hl : (nt x ++ [0]).length = (nt x).length + 1 := by simp
    rw [if_pos ⟨by decide, by rw [hl]; omega⟩, show (-(-1 : Int)).toNat = 1 from rfl, zpad_id _ _ (by rw [hl]; omega), hl, Nat.add_sub_cancel, List.take_left, List.drop_left]
    unfold ptT
    rw [if_neg (by simp), ByteArray.append_assoc]
    congr 1
  rw [e, sgnF] at h
  exact h
theorem sf_same (na nb : Bool) (a b : Int) (ha : 0 < a) (hb : 0 < b) : sfT (limP 64) na 0 a nb 0 b = (esN na a nb b, 0, esV na a nb b) := by
  have hF : sgF (limP 64) 0 b 0 = false := by
    unfold sgF farB
    simp
    have : limP 64 = 16 := rfl
    omega
  unfold sfT
  rw [if_neg (by omega), if_neg (by omega), if_neg (by omega)]
  unfold sgT sgX sgY sgE
  rw [hF]
  simp
theorem add_both (na nb : Bool) (a b c : Int) (a0 : 0 < a) (a1 : a < 10000000000000000) (b0 : 0 < b) (b1 : b < 10000000000000000) (hv : esV na a nb b = c) (hs : esN na a nb b = false) (c0 : 0 < c) (c1 : c < 10000000000000000) : sumX 64 1 na 0 (nt a) nb 0 (nt b) = (false, (1, 0, tx (nt c), 0)) := by
  obtain ⟨ca, va, la⟩ := nt_ok a (by omega) a1
  obtain ⟨cb, vb, lb⟩ := nt_ok b (by omega) b1
  obtain ⟨cc, vc, lc⟩ := nt_ok c (by omega) c1
  have hN : fsN 64 1 na 0 a nb 0 b = false := by
    unfold fsN
    rw [sf_same na nb a b a0 b0, hv, hs, if_neg (fun q => by have := q.1; simp only at this; omega)]
  have h := sum_same 64 1 (.inl rfl) na 0 (nt a) nb 0 (nt b) ca cb (by omega)
  rw [va, vb] at h
  rw [← h, hN]
  unfold fsR
  rw [hN, sf_same na nb a b a0 b0, hv]
  show (false, finD 64 1 false (nt c) 0 false 0) = _
  rw [finD_self 64 (.inl rfl) 1 false (nt c) 0 cc (by show _ ≤ (16 : Int); omega) (by decide) (by decide)]
/-- The results, as what is told of them. -/
def NumIs (R : R5) (c : Int) : Prop := R = (false, (1, 0, tx (nt c), 0))
theorem add_is (n k : Int) (n0 : 0 < n) (n1 : n < 1000000) (k0 : 0 < k) (k1 : k < 1000000) : addR 64 1 1 false 0 (tx (nt n)) 1 false 0 (tx (nt k)) = (false, (1, 0, tx (nt (n + k)), 0)) := by
  obtain ⟨ca, -, -⟩ := nt_ok n (by omega) (by omega)
  obtain ⟨cb, -, -⟩ := nt_ok k (by omega) (by omega)
  rw [addR_fin 64 1 (by decide) false 0 _ false 0 _ (numB_tn 64 (.inl rfl) n (by omega) (by omega) false 0 (by decide)) (numB_tn 64 (.inl rfl) k (by omega) (by omega) false 0 (by decide)), dl_tx _ ca.1, dl_tx _ cb.1]
  exact add_both false false n k (n + k) n0 (by omega) k0 (by omega) (by unfold esV; rw [if_pos rfl]) (by unfold esN; rw [if_pos rfl]) (by omega) (by omega)
theorem less_both (n k c : Int) (n0 : 0 < n) (n1 : n < 10000000000000000) (k0 : 0 < k) (h : k < n) (hc : c = n - k) : sumX 64 1 false 0 (nt n) true 0 (nt k) = (false, (1, 0, tx (nt c), 0)) :=
  add_both false true n k c n0 n1 k0 (by omega) (by unfold esV; rw [if_neg (by decide), if_neg (by omega), hc]) (by unfold esN; rw [if_neg (by decide), if_neg (by omega)]) (by omega) (by omega)
theorem sub_is (n k : Int) (k0 : 0 < k) (n1 : n < 1000000) (h : k < n) : subR 64 1 1 false 0 (tx (nt n)) 1 false 0 (tx (nt k)) = (false, (1, 0, tx (nt (n - k)), 0)) := by
  obtain ⟨ca, -, -⟩ := nt_ok n (by omega) (by omega)
  obtain ⟨cb, -, -⟩ := nt_ok k (by omega) (by omega)
  unfold subR
  rw [show tuB 1 false = true from rfl, addR_fin 64 1 (by decide) false 0 _ true 0 _ (numB_tn 64 (.inl rfl) n (by omega) (by omega) false 0 (by decide)) (numB_tn 64 (.inl rfl) k (by omega) (by omega) true 0 (by decide)), dl_tx _ ca.1, dl_tx _ cb.1]
  exact less_both n k (n - k) (by omega) (by omega) k0 h rfl
theorem fin_is (c : Int) (c0 : 0 ≤ c) (c1 : c < 10000000000000000) : finD 64 1 false (nt c) 0 false 0 = (1, 0, tx (nt c), 0) := by
  obtain ⟨cc, vc, lc⟩ := nt_ok c c0 c1
  exact finD_self 64 (.inl rfl) 1 false (nt c) 0 cc (by show _ ≤ (16 : Int); omega) (by decide) (by decide)
theorem spB_no2 : spB 2 (tw2 (1 : Int) 1) = false := by
  refine decide_eq_false ?_
  rintro ⟨i, hi, h⟩
  match i, hi with
  | 0, _ => rcases h with h | h <;> cases h
  | 1, _ => rcases h with h | h <;> cases h
theorem spB_no3 : spB 3 (tw3 (1 : Int) 1 1) = false := by
  refine decide_eq_false ?_
  rintro ⟨i, hi, h⟩
  match i, hi with
  | 0, _ => rcases h with h | h <;> cases h
  | 1, _ => rcases h with h | h <;> cases h
  | 2, _ => rcases h with h | h <;> cases h
theorem mul_is (n k c : Int) (n0 : 0 < n) (n1 : n < 1000000) (k0 : 0 < k) (k1 : k < 1000000) (hc : c = n * k) (c1 : c < 10000000000000000) : mulR 64 1 1 false 0 (tx (nt n)) 1 false 0 (tx (nt k)) = (false, (1, 0, tx (nt c), 0)) := by
  obtain ⟨ca, va, -⟩ := nt_ok n (by omega) (by omega)
  obtain ⟨cb, vb, -⟩ := nt_ok k (by omega) (by omega)
  have hp : 0 < n * k := Int.mul_pos n0 k0
  unfold mulR addO
  rw [numB_tn 64 (.inl rfl) n (by omega) (by omega) false 0 (by decide), numB_tn 64 (.inl rfl) k (by omega) (by omega) false 0 (by decide), spB_no2, if_pos (by decide), if_neg (by decide)]
  unfold mulX
  rw [if_pos ⟨rfl, rfl⟩, dl_tx _ ca.1, dl_tx _ cb.1, va, vb, ← hc]
  show (false, finD 64 1 false (nt c) 0 false 0) = _
  rw [fin_is c (by omega) c1]
theorem fma_is (n k p c : Int) (n0 : 1 < n) (n1 : n < 1000000) (k0 : 0 < k) (k1 : k < 1000000) (hp : p = n * k) (hk : k < p) (hc : c = p - k) (p1 : p < 10000000000000000) : fmaR 64 1 1 false 0 (tx (nt n)) 1 false 0 (tx (nt k)) 1 true 0 (tx (nt k)) = (false, (1, 0, tx (nt c), 0)) := by
  obtain ⟨ca, va, -⟩ := nt_ok n (by omega) (by omega)
  obtain ⟨cb, vb, -⟩ := nt_ok k (by omega) (by omega)
  unfold fmaR fmaO
  rw [numB_tn 64 (.inl rfl) n (by omega) (by omega) false 0 (by decide), numB_tn 64 (.inl rfl) k (by omega) (by omega) false 0 (by decide), numB_tn 64 (.inl rfl) k (by omega) (by omega) true 0 (by decide), spB_no3, if_pos (by decide), if_neg (by decide)]
  unfold fmaX
  rw [if_pos ⟨rfl, rfl⟩, dl_tx _ ca.1, dl_tx _ cb.1, va, vb, ← hp]
  unfold addX
  rw [if_neg (fun q => by have := q.1; exact absurd this (by decide)), if_neg (by decide), if_neg (by decide)]
  exact less_both p k c (by omega) p1 k0 hk hc
theorem rightB_2 (a b : ByteArray) (ha : numB 64 1 false 0 a = true) (hb : numB 64 1 false 0 b = true) : rightB 64 1 2 (tw2 1 1) (tw2 false false) (tw2 0 0) (tw2 a b) = true := by
  unfold rightB
  rw [decide_eq_true (show (1 : Int) ≤ 1 ∧ (1 : Int) ≤ 5 by decide), Bool.true_and]
  refine decide_eq_true fun i hi => ?_
  match i, hi with
  | 0, _ => exact ha
  | 1, _ => exact hb
theorem zB_no (x : Int) (h0 : 0 < x) (h1 : x < 10000000000000000) : zB 1 (tx (nt x)) = false := by
  obtain ⟨ca, va, -⟩ := nt_ok x (by omega) h1
  unfold zB
  rw [dl_tx _ ca.1, va, decide_eq_false (show ¬ x = 0 by omega), Bool.and_false]
theorem div_is (n k p : Int) (n0 : 0 < n) (n1 : n < 1000000) (k0 : 0 < k) (k1 : k < 1000000) (hp : p = n * k) (p1 : p < 10000000000000000) : dvR 64 1 1 false 0 (tx (nt p)) 1 false 0 (tx (nt k)) = (false, (1, 0, tx (nt n), 0)) := by
  have p0 : 0 < p := by rw [hp]; exact Int.mul_pos n0 k0
  obtain ⟨cp, vp, lp⟩ := nt_ok p (by omega) p1
  obtain ⟨cb, vb, lb⟩ := nt_ok k (by omega) (by omega)
  obtain ⟨cn, vn, ln⟩ := nt_ok n (by omega) (by omega)
  unfold dvR ofR
  rw [rightB_2 _ _ (numB_tn 64 (.inl rfl) p (by omega) (by omega) false 0 (by decide)) (numB_tn 64 (.inl rfl) k (by omega) (by omega) false 0 (by decide)), spB_no2, if_pos rfl, if_neg (by decide)]
  unfold dvX
  rw [zB_no k k0 (by omega), zB_no p p0 p1, if_neg (fun q => by rcases q with ⟨q, -⟩ | ⟨q, -⟩ <;> exact absurd q (by decide)), if_neg (by decide), if_neg (by decide), if_neg (by decide), dl_tx _ cp.1, dl_tx _ cb.1, vp, vb]
  generalize hK : dvK 64 (nt p).length (nt k).length = K
  have hK2 : K ≤ 100 := by
    rw [← hK]; unfold dvK
    have : limP 64 = 16 := rfl
    omega
  have hm : p * 10 ^ K = n * 10 ^ K * k := by rw [hp, Int.mul_assoc, Int.mul_assoc, Int.mul_comm k]
  rw [hm, Int.mul_ediv_cancel _ (by omega), Int.mul_emod_left, decide_eq_true rfl, ← vn, nt_vl _ cn (by omega)]
  have h := finD_noughts 64 (.inl rfl) 1 false (nt n) 0 K cn (nt_ne n n0 (by omega)) (by show _ ≤ (16 : Int); omega) (by decide) (by decide) hK2
  show (false, finD 64 1 false (nt (vl (nt n) * 10 ^ K)) (0 - (K : Int)) false 0) = _
  rw [h]
theorem div_0 : dvR 64 1 1 false 0 (tx (nt 1)) 1 false 0 (tx (nt 0)) = (false, (2, 0, { data := #[] }, 2)) := by
  obtain ⟨ca, va, -⟩ := nt_ok 1 (by decide) (by decide)
  obtain ⟨cb, vb, -⟩ := nt_ok 0 (by decide) (by decide)
  have hz : zB 1 (tx (nt 0)) = true := by
    unfold zB
    rw [dl_tx _ cb.1, vb]; rfl
  unfold dvR ofR
  rw [rightB_2 _ _ (numB_tn 64 (.inl rfl) 1 (by decide) (by decide) false 0 (by decide)) (numB_tn 64 (.inl rfl) 0 (by decide) (by decide) false 0 (by decide)), spB_no2, if_pos rfl, if_neg (by decide)]
  unfold dvX
  rw [zB_no 1 (by decide) (by decide), hz, if_neg (fun q => by rcases q with ⟨q, -⟩ | ⟨q, -⟩ <;> exact absurd q (by decide)), if_neg (by decide), if_neg (by decide), if_pos rfl]
  rfl
end Go.Proofs.YteofommckgeemaaGreatDoor
namespace Go.Proofs.YteofommckgeemaaGreatDoor
open Go.RowKit
set_option linter.unusedVariables false
set_option maxRecDepth 100000
set_option linter.unusedSimpArgs false
theorem sqK_even (la : Nat) (hl : la ≤ 16) : ∃ h : Nat, sqK 64 0 la = 2 * h ∧ h ≤ 40 := by
  unfold sqK
  have e : limP 64 = 16 := rfl
  rw [e]
  split
  · rename_i q
    exact ⟨(2 * 16 - (la : Int) + 1).toNat / 2, by omega, by omega⟩
  · rename_i q
    exact ⟨((2 * 16 - (la : Int) + 1 + 1).toNat) / 2, by omega, by omega⟩
theorem sq_pow (n : Int) (h : Nat) : n * 10 ^ h * (n * 10 ^ h) = n * n * 10 ^ (2 * h) := by
  rw [Nat.two_mul, Int.pow_add, Int.mul_assoc n, Int.mul_left_comm (10 ^ h) n, ← Int.mul_assoc n n]
theorem sq_one (n p : Int) (n0 : 0 < n) (hp : p = n * n) (p1 : p < 10000000000000000) : ∃ h : Nat, sqK 64 0 (dl (tx (nt p))).length = 2 * h ∧ h ≤ 40 ∧ SqH 64 0 (tx (nt p)) (n * 10 ^ h) true := by
  have p0 : 0 < p := by rw [hp]; exact Int.mul_pos n0 n0
  obtain ⟨cp, vp, lp⟩ := nt_ok p (by omega) p1
  rw [dl_tx _ cp.1]
  obtain ⟨h, h1, h2⟩ := sqK_even (nt p).length lp
  refine ⟨h, h1, h2, fun _ => ⟨0, ⟨?_, ?_, Int.le_refl _, ?_⟩, rfl⟩⟩
  · rw [dl_tx _ cp.1, vp, h1, hp, Int.add_zero, sq_pow]
  · exact Int.mul_nonneg (by omega) (Int.le_of_lt (ten_pos h))
  · have := Int.mul_nonneg (show (0 : Int) ≤ n by omega) (Int.le_of_lt (ten_pos h)); omega
theorem sqr_is (n p : Int) (h : Nat) (n0 : 0 < n) (n1 : n < 1000000) (hp : p = n * n) (p1 : p < 10000000000000000) (h1 : sqK 64 0 (dl (tx (nt p))).length = 2 * h) (h2 : h ≤ 40) : sqR 64 1 1 false 0 (tx (nt p)) (n * 10 ^ h) true = (false, (1, 0, tx (nt n), 0)) := by
  have p0 : 0 < p := by rw [hp]; exact Int.mul_pos n0 n0
  obtain ⟨cn, vn, ln⟩ := nt_ok n (by omega) (by omega)
  unfold sqR ofR
  have hr : rightB 64 1 1 (fun _ => 1) (fun _ => false) (fun _ => 0) (fun _ => tx (nt p)) = true := by
    unfold rightB
    rw [decide_eq_true (show (1 : Int) ≤ 1 ∧ (1 : Int) ≤ 5 by decide), Bool.true_and]
    exact decide_eq_true fun i hi => numB_tn 64 (.inl rfl) p (by omega) p1 false 0 (by decide)
  have hs : spB 1 (fun _ => (1 : Int)) = false := by
    refine decide_eq_false ?_
    rintro ⟨i, hi, q⟩
    rcases q with q | q <;> cases q
  rw [hr, hs, if_pos rfl, if_neg (by decide)]
  unfold sqX
  rw [if_neg (fun q => by exact absurd q.1 (by decide)), if_neg (by decide), h1, show ((0 : Int) - (2 * h : Nat)) / 2 = 0 - (h : Int) by omega, ← vn, nt_vl _ cn (by omega)]
  have hh := finD_noughts 64 (.inl rfl) 1 false (nt n) 0 h cn (nt_ne n n0 (by omega)) (by show _ ≤ (16 : Int); omega) (by decide) (by decide) (by omega)
  show (false, finD 64 1 false (nt (vl (nt n) * 10 ^ h)) (0 - (h : Int)) false 0) = _
  rw [hh]
theorem nou_tn (x : Int) (h0 : 0 < x) (h1 : x < 10000000000000000) : nouB 1 (tx (nt x)) = false := by
  unfold nouB
  rw [tx_is0 _ (nt_ok x (by omega) h1).1.1 (nt_ne x h0 h1), Bool.and_false]
theorem cmp_is (k n : Int) (k0 : 0 < k) (h : k < n) (n1 : n < 1000000) : cpR 64 1 false 0 (tx (nt k)) 1 false 0 (tx (nt n)) = -1 := by
  obtain ⟨ck, vk, lk⟩ := nt_ok k (by omega) (by omega)
  obtain ⟨cn, vn, ln⟩ := nt_ok n (by omega) (by omega)
  unfold cpR
  rw [numB_tn 64 (.inl rfl) k (by omega) (by omega) false 0 (by decide), numB_tn 64 (.inl rfl) n (by omega) (by omega) false 0 (by decide), nou_tn k k0 (by omega), nou_tn n (by omega) (by omega), if_pos (by decide), if_neg (by decide), if_neg (by decide)]
  unfold cmpR
  rw [if_neg (by decide), if_neg (by decide), if_neg (by decide), cu_fin 0 _ 0 _ (nou_tn k k0 (by omega)) (nou_tn n (by omega) (by omega)), tx_size, tx_size]
  have hlen : (nt k).length ≤ (nt n).length := by
    refine canon_le (nt k) ck _ cn.2.1 ?_
    have := (vl_bd (nt n) cn.1).2
    rw [vk]; rw [vn] at this; omega
  rcases Nat.lt_or_eq_of_le hlen with hl | hl
  · unfold orI cI
    rw [if_pos (show (0 : Int) + ((nt k).length : Nat) < 0 + ((nt n).length : Nat) by omega), if_neg (by decide)]
  · have := cmp_trS (nt k) (nt n) ck.1 cn.1 0 0 (by omega)
    rw [this, hl, vk, vn]
    unfold orI cI
    rw [if_neg (Int.lt_irrefl _), if_neg (Int.lt_irrefl _), if_pos rfl, if_pos (by rw [Int.pow_zero, Int.mul_one, Int.mul_one]; exact h)]
theorem eql_is (n : Int) (n0 : 0 < n) (n1 : n < 1000000) : cpR 64 1 false (-1) (tx (nt (n * 10))) 1 false 0 (tx (nt n)) = 0 := by
  obtain ⟨ca, va, -⟩ := nt_ok (n * 10) (by omega) (by omega)
  obtain ⟨cn, vn, -⟩ := nt_ok n (by omega) (by omega)
  refine alike_fin 64 false (-1) (nt (n * 10)) 0 (nt n) (numB_tn 64 (.inl rfl) _ (by omega) (by omega) false (-1) (by decide)) (numB_tn 64 (.inl rfl) n (by omega) (by omega) false 0 (by decide)) ca cn (nt_ne _ (by omega) (by omega)) (nt_ne n n0 (by omega)) (.inl ⟨by decide, ?_⟩)
  rw [va, vn]; rfl
theorem shT_pos (x : Int) (h0 : 0 ≤ x) (h1 : x < 10000000000000000) : shT 1 false 0 (tx (nt x)) = tx (nt x) := by rw [shT_tn x h0 h1 false, sgnF]
theorem shT_inf : shT 2 false 0 { data := #[] } = { data := #[73, 110, 102, 105, 110, 105, 116, 121] } := by
  have hN : numB 128 2 false 0 { data := #[] } = true := by
    unfold numB
    rw [if_neg (by decide), if_neg (by decide), if_pos rfl, ByteArray.toList_eq]; rfl
  unfold shT
  rw [hN, if_pos rfl, sgnF]; rfl
end Go.Proofs.YteofommckgeemaaGreatDoor
namespace Go.Proofs.YteofommckgeemaaGreatDoor
open Go.RowKit
set_option linter.unusedVariables false
set_option maxRecDepth 100000
set_option linter.unusedSimpArgs false
/-- Words put into a line. -/
def wd : List ByteArray → ByteArray
  | [] => ⟨#[]⟩
  | [a] => a
  | a :: b :: r => a ++ ⟨#[32]⟩ ++ wd (b :: r)
theorem wd_one (a : ByteArray) : wd [a] = a := rfl
theorem wd_more (a b : ByteArray) (r : List ByteArray) : wd (a :: b :: r) = a ++ ⟨#[32]⟩ ++ wd (b :: r) := rfl
theorem spl_none (c : UInt8) (a : List UInt8) (h : c ∉ a) : spl c a = [a] := by
  induction a with
  | nil => rfl
  | cons b a ih =>
    have hb : ¬ b = c := fun q => h (by rw [q]; exact List.mem_cons_self)
    show (if b = c then _ else _) = _
    rw [if_neg hb, ih (fun q => h (List.mem_cons_of_mem _ q))]
theorem spl_cut (c : UInt8) (a r : List UInt8) (h : c ∉ a) : spl c (a ++ c :: r) = a :: spl c r := by
  induction a with
  | nil =>
    rw [List.nil_append, spl, if_pos rfl]
  | cons b a ih =>
    have hb : ¬ b = c := fun q => h (by rw [q]; exact List.mem_cons_self)
    rw [List.cons_append, spl, if_neg hb, ih (fun q => h (List.mem_cons_of_mem _ q))]
theorem spl_wd (ws : List ByteArray) (hne : ws ≠ []) (h : ∀ a ∈ ws, (32 : UInt8) ∉ a.data.toList) : spl 32 (wd ws).data.toList = ws.map fun x : ByteArray => x.data.toList := by
  induction ws with
  | nil => exact absurd rfl hne
  | cons a r ih =>
    cases r with
    | nil => rw [wd_one, spl_none _ _ (h a List.mem_cons_self)]; rfl
    | cons b r =>
      rw [wd_more, ba_list, ba_list, show (⟨#[32]⟩ : ByteArray).data.toList = [32] from rfl, List.append_assoc, List.singleton_append, spl_cut _ _ _ (h a List.mem_cons_self), ih (List.cons_ne_nil _ _) (fun x hx => h x (List.mem_cons_of_mem _ hx))]
      rfl
theorem wd_no (c : UInt8) (hc : c ≠ 32) (ws : List ByteArray) (h : ∀ a ∈ ws, c ∉ a.data.toList) : c ∉ (wd ws).data.toList := by
  induction ws with
  | nil => exact List.not_mem_nil
  | cons a r ih =>
    cases r with
    | nil => rw [wd_one]; exact h a List.mem_cons_self
    | cons b r =>
      rw [wd_more, ba_list, ba_list]
      intro q
      rcases List.mem_append.1 q with q | q
      · rcases List.mem_append.1 q with q | q
        · exact h a List.mem_cons_self q
        · have : c = 32 := by simpa using q
          exact hc this
      · exact ih (fun x hx => h x (List.mem_cons_of_mem _ hx)) q
theorem spl_outs (ls : List ByteArray) (h : ∀ a ∈ ls, (10 : UInt8) ∉ a.data.toList) : spl 10 (outs ls) = (ls ++ [(⟨#[]⟩ : ByteArray)]).map fun x : ByteArray => x.data.toList := by
  induction ls with
  | nil => rfl
  | cons a r ih =>
    rw [outs, spl_cut _ _ _ (h a List.mem_cons_self), ih (fun x hx => h x (List.mem_cons_of_mem _ hx))]
    rfl
theorem tx_no (c : UInt8) (hc : c.toNat < 48) (ds : List Int) (h : Dec ds) : c ∉ (tx ds).data.toList := by
  rw [txl]
  intro q
  obtain ⟨d, hd, e⟩ := List.mem_map.1 q
  have := h d hd
  have e2 := congrArg UInt8.toNat e
  rw [UInt8.toNat_ofNat'] at e2
  omega
abbrev wAdd : ByteArray := ⟨#[97, 100, 100]⟩
abbrev wSub : ByteArray := ⟨#[115, 117, 98]⟩
abbrev wMul : ByteArray := ⟨#[109, 117, 108]⟩
abbrev wSqrt : ByteArray := ⟨#[115, 113, 114, 116]⟩
abbrev wDiv : ByteArray := ⟨#[100, 105, 118]⟩
abbrev wFma : ByteArray := ⟨#[102, 109, 97]⟩
abbrev wCmp : ByteArray := ⟨#[99, 111, 109, 112, 97, 114, 101]⟩
abbrev wFlg : ByteArray := ⟨#[102, 108, 97, 103, 115]⟩
/-- The lines, of the texts of n, k, n times n, n times k. -/
def topL (N K NN NK : ByteArray) : List ByteArray := [wd [wAdd, N, K], wd [wSub, N, K], wd [wMul, N, N], wd [wSqrt, NN], wd [wDiv, NK, K], wd [wFma, N, K, ⟨#[45]⟩ ++ K], wd [wCmp, K, N], wd [wCmp, N ++ ⟨#[46, 48]⟩, N], wd [wFlg], wd [wDiv, ⟨#[49]⟩, ⟨#[48]⟩], wd [wFlg], wd [wFlg]]
def topT (N K NN NK : ByteArray) : ByteArray := ⟨#[97, 100, 100, 32]⟩ ++ N ++ ⟨#[32]⟩ ++ K ++ ⟨#[10, 115, 117, 98, 32]⟩ ++ N ++ ⟨#[32]⟩ ++ K ++ ⟨#[10, 109, 117, 108, 32]⟩ ++ N ++ ⟨#[32]⟩ ++ N ++ ⟨#[10, 115, 113, 114, 116, 32]⟩ ++ NN ++ ⟨#[10, 100, 105, 118, 32]⟩ ++ NK ++ ⟨#[32]⟩ ++ K ++ ⟨#[10, 102, 109, 97, 32]⟩ ++ N ++ ⟨#[32]⟩ ++ K ++ ⟨#[32, 45]⟩ ++ K ++ ⟨#[10, 99, 111, 109, 112, 97, 114, 101, 32]⟩ ++ K ++ ⟨#[32]⟩ ++ N ++ ⟨#[10, 99, 111, 109, 112, 97, 114, 101, 32]⟩ ++ N ++ ⟨#[46, 48, 32]⟩ ++ N ++ ⟨#[10, 102, 108, 97, 103, 115, 10, 100, 105, 118, 32, 49, 32, 48, 10, 102, 108, 97, 103, 115, 10, 102, 108, 97, 103, 115, 10]⟩
theorem topT_list (N K NN NK : ByteArray) : (topT N K NN NK).data.toList = outs (topL N K NN NK) := by
  unfold topT topL
  simp only [ba_list, outs, wd, List.append_assoc, List.cons_append, List.nil_append]
/-- A word without a space and without an end of a line. -/
def Wok (a : ByteArray) : Prop := (32 : UInt8) ∉ a.data.toList ∧ (10 : UInt8) ∉ a.data.toList
theorem wok_tx (ds : List Int) (h : Dec ds) : Wok (tx ds) := ⟨tx_no _ (by decide) ds h, tx_no _ (by decide) ds h⟩
theorem wok_app {a b : ByteArray} (ha : Wok a) (hb : Wok b) : Wok (a ++ b) := by
  unfold Wok
  rw [ba_list]
  exact ⟨fun q => (List.mem_append.1 q).elim ha.1 hb.1, fun q => (List.mem_append.1 q).elim ha.2 hb.2⟩
end Go.Proofs.YteofommckgeemaaGreatDoor
namespace Go.Proofs.YteofommckgeemaaGreatDoor
open Go.RowKit
set_option linter.unusedVariables false
set_option maxRecDepth 100000
set_option linter.unusedSimpArgs false
def topA (n k : Int) : List ByteArray := [tx (nt (n + k)), tx (nt (n - k)), tx (nt (n * n)), tx (nt n), tx (nt n), tx (nt (n * k - k)), ⟨#[45, 49]⟩, ⟨#[48]⟩, ⟨#[48]⟩, ⟨#[73, 110, 102, 105, 110, 105, 116, 121]⟩, ⟨#[50]⟩, ⟨#[48]⟩]
def topF (k : Nat) : Int := if k = 10 then 2 else 0
theorem txn_1 : tx (nt 1) = ⟨#[49]⟩ := by
  rw [(nt_of [1] 1 (canon_one 1 (by decide) (by decide)) rfl (by decide)).symm]; apply ByteArray.ext; rw [tx_data]; rfl
theorem txn_0 : tx (nt 0) = ⟨#[48]⟩ := by
  rw [(nt_of [0] 0 canon_zero rfl (by decide)).symm]; apply ByteArray.ext; rw [tx_data]; rfl
theorem itoa_m1 : (⟨(Lib.itoa (-1)).toArray⟩ : ByteArray) = ⟨#[45, 49]⟩ := by kernel_rfl
theorem itoa_0 : (⟨(Lib.itoa 0).toArray⟩ : ByteArray) = ⟨#[48]⟩ := by kernel_rfl
theorem itoa_2 : (⟨(Lib.itoa 2).toArray⟩ : ByteArray) = ⟨#[50]⟩ := by kernel_rfl
theorem or_00 : orF 0 0 = 0 := by kernel_rfl
theorem or_02 : orF 0 2 = 2 := by kernel_rfl
theorem rd_neg (x : Int) (h0 : 0 ≤ x) (h1 : x < 10000000000000000) : RdIs 64 1 (⟨#[45]⟩ ++ tx (nt x)) (1, true, 0, tx (nt x)) := by
  have q := rd_tn x h0 h1 true
  have e : sgnT true = ⟨#[45]⟩ := rfl
  rwa [e] at q
theorem wok_lit {a : ByteArray} (h : (a.data.toList.all fun c => c != 32 && c != 10) = true) : Wok a := by
  rw [List.all_eq_true] at h
  exact ⟨fun q => by have := h _ q; simp at this, fun q => by have := h _ q; simp at this⟩
theorem Wok.out {a : ByteArray} (h : Wok a) : (10 : UInt8) ∉ a.data.toList := h.2
theorem wd_some (a : ByteArray) (r : List ByteArray) (h : a.data.toList.isEmpty = false) : (wd (a :: r)).toList.isEmpty = false := by
  rw [ByteArray.toList_eq]
  cases r with
  | nil => exact h
  | cons b r =>
    rw [wd_more, ba_list, ba_list]
    cases hl : a.data.toList with
    | nil => rw [hl] at h; cases h
    | cons x y => rfl
theorem topL_ok (n k : Int) (n0 : 0 ≤ n) (n1 : n < 1000000) (k0 : 0 ≤ k) (k1 : k < 1000000) (NN NK : ByteArray) (h1 : Wok NN) (h2 : Wok NK) : ∀ x ∈ topL (tx (nt n)) (tx (nt k)) NN NK, x.toList.isEmpty = false ∧ (10 : UInt8) ∉ x.data.toList := by
  have hN : Wok (tx (nt n)) := wok_tx _ (nt_ok n n0 (by omega)).1.1
  have hK : Wok (tx (nt k)) := wok_tx _ (nt_ok k k0 (by omega)).1.1
  have hm : Wok (⟨#[45]⟩ ++ tx (nt k)) := wok_app (wok_lit (by decide)) hK
  have hd : Wok (tx (nt n) ++ ⟨#[46, 48]⟩) := wok_app hN (wok_lit (by decide))
  have a1 : Wok wAdd := wok_lit (by decide)
  have a2 : Wok wSub := wok_lit (by decide)
  have a3 : Wok wMul := wok_lit (by decide)
  have a4 : Wok wSqrt := wok_lit (by decide)
  have a5 : Wok wDiv := wok_lit (by decide)
  have a6 : Wok wFma := wok_lit (by decide)
  have a7 : Wok wCmp := wok_lit (by decide)
  have a8 : Wok wFlg := wok_lit (by decide)
  have b1 : Wok (⟨#[49]⟩ : ByteArray) := wok_lit (by decide)
  have b0 : Wok (⟨#[48]⟩ : ByteArray) := wok_lit (by decide)
  intro x hx
  unfold topL at hx
  simp only [List.mem_cons, List.not_mem_nil, or_false] at hx
  rcases hx with rfl | rfl | rfl | rfl | rfl | rfl | rfl | rfl | rfl | rfl | rfl | rfl
  all_goals refine ⟨wd_some _ _ (by decide), wd_no 10 (by decide) _ ?_⟩
  all_goals
    intro y hy
    simp only [List.mem_cons, List.not_mem_nil, or_false] at hy
  · rcases hy with q | q | q
    · rw [q]; exact a1.2
    · rw [q]; exact hN.2
    · rw [q]; exact hK.2
  · rcases hy with q | q | q
    · rw [q]; exact a2.2
    · rw [q]; exact hN.2
    · rw [q]; exact hK.2
  · rcases hy with q | q | q
    · rw [q]; exact a3.2
    · rw [q]; exact hN.2
    · rw [q]; exact hN.2
  · rcases hy with q | q
    · rw [q]; exact a4.2
    · rw [q]; exact h1.2
  · rcases hy with q | q | q
    · rw [q]; exact a5.2
    · rw [q]; exact h2.2
    · rw [q]; exact hK.2
  · rcases hy with q | q | q | q
    · rw [q]; exact a6.2
    · rw [q]; exact hN.2
    · rw [q]; exact hK.2
    · rw [q]; exact hm.2
  · rcases hy with q | q | q
    · rw [q]; exact a7.2
    · rw [q]; exact hK.2
    · rw [q]; exact hN.2
  · rcases hy with q | q | q
    · rw [q]; exact a7.2
    · rw [q]; exact hd.2
    · rw [q]; exact hN.2
  · rw [hy]; exact a8.2
  · rcases hy with q | q | q
    · rw [q]; exact a5.2
    · rw [q]; exact b1.2
    · rw [q]; exact b0.2
  · rw [hy]; exact a8.2
  · rw [hy]; exact a8.2
set_option maxRecDepth 100000 in
set_option maxHeartbeats 400000 in
theorem topLine_0 (w : World) (hT : TB w) (n k : Int) (k0 : 0 < k) (h : k < n) (n1 : n < 1000000) (mm bb : Nat) (X : World) (hbb : w.heap.size ≤ bb) (hX : Below w.heap.size w X) (hR : RowsAt X mm bb) (hS : St X bb 64 1 0) :
    Calls Tryz.prog 16 #[.map (some mm), .string (wd [wAdd, (tx (nt n)), (tx (nt k))])] X fun e w' => e = .returned (.string (tx (nt (n + k)))) ∧ St w' bb 64 1 0 ∧ X.grownBy w' (some bb) := by
  obtain ⟨fadd, fsub, fmul, fdiv, ffma, fsqrt, fquantize, fnext, fcompare, fword, hm, r1, r2, r3, r4, r5, r6, r7, r8, r9, r10⟩ := hR
  have zN := tnz_16 n (by omega) (by omega)
  have zK := tnz_16 k (by omega) (by omega)
  have zA := tnz_16 (n + k) (by omega) (by omega)
  have wN : Wok (tx (nt n)) := wok_tx _ (nt_ok n (by omega) (by omega)).1.1
  have wK : Wok (tx (nt k)) := wok_tx _ (nt_ok k (by omega) (by omega)).1.1
  have s1 : (⟨#[32]⟩ : ByteArray).size = 1 := rfl
  have hsp := spl_wd [wAdd, (tx (nt n)), (tx (nt k))] (by simp) (fun x hx => by
    simp only [List.mem_cons, List.not_mem_nil, or_false] at hx
    rcases hx with rfl | rfl | rfl
    · exact (wok_lit (by decide) : Wok wAdd).1
    · exact wN.1
    · exact wK.1
    )
  have hF : ∀ Y, Below w.heap.size w Y → Calls Tryz.prog 28 #[.int .i64 64, .int .i64 1, numW (1, false, 0, (tx (nt n))), numW (1, false, 0, (tx (nt k)))] Y fun r w' => r = .returned (rsV 1 false 0 (tx (nt (n + k))) 0) ∧ Below Y.heap.size Y w' := fun Y _ => by
    have q := iAdd_any 64 1 1 false 0 (tx (nt n)) 1 false 0 (tx (nt k)) Y (by omega) (by omega)
    rw [add_is n k (by omega) (by omega) k0 (by omega)] at q
    exact q
  have q := twoLine_any w hT mm bb hbb X hX _ 13 hm rfl wAdd fadd 2 (by kernel_rfl) 28 r1 (fun _ _ => rfl) 0 hS (wd [wAdd, (tx (nt n)), (tx (nt k))]) (tx (nt n)) (tx (nt k)) (1, false, 0, (tx (nt n))) (1, false, 0, (tx (nt k))) (by simp only [wd, ByteArray.size_append, s1]; simp only [show wAdd.size = 3 from rfl, show wSub.size = 3 from rfl, show wMul.size = 3 from rfl, show wDiv.size = 3 from rfl, show wFma.size = 3 from rfl, show wSqrt.size = 4 from rfl, show wCmp.size = 7 from rfl, show wFlg.size = 5 from rfl, show (⟨#[49]⟩ : ByteArray).size = 1 from rfl, show (⟨#[48]⟩ : ByteArray).size = 1 from rfl, show (⟨#[45]⟩ : ByteArray).size = 1 from rfl, show (⟨#[46, 48]⟩ : ByteArray).size = 2 from rfl]; omega) hsp (rd_pos n (by omega) (by omega)) (by omega) (rd_pos k (by omega) (by omega)) (by omega) 1 false 0 (tx (nt (n + k))) 0 (by omega) hF
  rw [shT_pos (n + k) (by omega) (by omega), or_00] at q
  exact q
set_option maxRecDepth 100000 in
set_option maxHeartbeats 400000 in
theorem topLine_1 (w : World) (hT : TB w) (n k : Int) (k0 : 0 < k) (h : k < n) (n1 : n < 1000000) (mm bb : Nat) (X : World) (hbb : w.heap.size ≤ bb) (hX : Below w.heap.size w X) (hR : RowsAt X mm bb) (hS : St X bb 64 1 0) :
    Calls Tryz.prog 16 #[.map (some mm), .string (wd [wSub, (tx (nt n)), (tx (nt k))])] X fun e w' => e = .returned (.string (tx (nt (n - k)))) ∧ St w' bb 64 1 0 ∧ X.grownBy w' (some bb) := by
  obtain ⟨fadd, fsub, fmul, fdiv, ffma, fsqrt, fquantize, fnext, fcompare, fword, hm, r1, r2, r3, r4, r5, r6, r7, r8, r9, r10⟩ := hR
  have zN := tnz_16 n (by omega) (by omega)
  have zK := tnz_16 k (by omega) (by omega)
  have zB := tnz_16 (n - k) (by omega) (by omega)
  have wN : Wok (tx (nt n)) := wok_tx _ (nt_ok n (by omega) (by omega)).1.1
  have wK : Wok (tx (nt k)) := wok_tx _ (nt_ok k (by omega) (by omega)).1.1
  have s1 : (⟨#[32]⟩ : ByteArray).size = 1 := rfl
  have hsp := spl_wd [wSub, (tx (nt n)), (tx (nt k))] (by simp) (fun x hx => by
    simp only [List.mem_cons, List.not_mem_nil, or_false] at hx
    rcases hx with rfl | rfl | rfl
    · exact (wok_lit (by decide) : Wok wSub).1
    · exact wN.1
    · exact wK.1
    )
  have hF : ∀ Y, Below w.heap.size w Y → Calls Tryz.prog 29 #[.int .i64 64, .int .i64 1, numW (1, false, 0, (tx (nt n))), numW (1, false, 0, (tx (nt k)))] Y fun r w' => r = .returned (rsV 1 false 0 (tx (nt (n - k))) 0) ∧ Below Y.heap.size Y w' := fun Y _ => by
    have q := iSub_any 64 1 1 false 0 (tx (nt n)) 1 false 0 (tx (nt k)) Y (by omega) (by omega)
    rw [sub_is n k k0 (by omega) h] at q
    exact q
  have q := twoLine_any w hT mm bb hbb X hX _ 13 hm rfl wSub fsub 3 (by kernel_rfl) 29 r2 (fun _ _ => rfl) 0 hS (wd [wSub, (tx (nt n)), (tx (nt k))]) (tx (nt n)) (tx (nt k)) (1, false, 0, (tx (nt n))) (1, false, 0, (tx (nt k))) (by simp only [wd, ByteArray.size_append, s1]; simp only [show wAdd.size = 3 from rfl, show wSub.size = 3 from rfl, show wMul.size = 3 from rfl, show wDiv.size = 3 from rfl, show wFma.size = 3 from rfl, show wSqrt.size = 4 from rfl, show wCmp.size = 7 from rfl, show wFlg.size = 5 from rfl, show (⟨#[49]⟩ : ByteArray).size = 1 from rfl, show (⟨#[48]⟩ : ByteArray).size = 1 from rfl, show (⟨#[45]⟩ : ByteArray).size = 1 from rfl, show (⟨#[46, 48]⟩ : ByteArray).size = 2 from rfl]; omega) hsp (rd_pos n (by omega) (by omega)) (by omega) (rd_pos k (by omega) (by omega)) (by omega) 1 false 0 (tx (nt (n - k))) 0 (by omega) hF
  rw [shT_pos (n - k) (by omega) (by omega), or_00] at q
  exact q
set_option maxRecDepth 100000 in
set_option maxHeartbeats 400000 in
theorem topLine_2 (w : World) (hT : TB w) (n k : Int) (k0 : 0 < k) (h : k < n) (n1 : n < 1000000) (mm bb : Nat) (X : World) (hbb : w.heap.size ≤ bb) (hX : Below w.heap.size w X) (hR : RowsAt X mm bb) (hS : St X bb 64 1 0) :
    Calls Tryz.prog 16 #[.map (some mm), .string (wd [wMul, (tx (nt n)), (tx (nt n))])] X fun e w' => e = .returned (.string (tx (nt (n * n)))) ∧ St w' bb 64 1 0 ∧ X.grownBy w' (some bb) := by
  obtain ⟨fadd, fsub, fmul, fdiv, ffma, fsqrt, fquantize, fnext, fcompare, fword, hm, r1, r2, r3, r4, r5, r6, r7, r8, r9, r10⟩ := hR
  have nn1 : n * n < 10000000000000000 := by
    have h1 : n * n ≤ 1000000 * 1000000 := Int.mul_le_mul (by omega) (by omega) (by omega) (by decide)
    have h2 : (1000000 : Int) * 1000000 = 1000000000000 := by decide
    omega
  have nn0 : 0 < n * n := Int.mul_pos (by omega) (by omega)
  have zN := tnz_16 n (by omega) (by omega)
  have zP := tnz_16 (n * n) (by omega) (by omega)
  have wN : Wok (tx (nt n)) := wok_tx _ (nt_ok n (by omega) (by omega)).1.1
  have s1 : (⟨#[32]⟩ : ByteArray).size = 1 := rfl
  have hsp := spl_wd [wMul, (tx (nt n)), (tx (nt n))] (by simp) (fun x hx => by
    simp only [List.mem_cons, List.not_mem_nil, or_false] at hx
    rcases hx with rfl | rfl | rfl
    · exact (wok_lit (by decide) : Wok wMul).1
    · exact wN.1
    · exact wN.1
    )
  have hF : ∀ Y, Below w.heap.size w Y → Calls Tryz.prog 30 #[.int .i64 64, .int .i64 1, numW (1, false, 0, (tx (nt n))), numW (1, false, 0, (tx (nt n)))] Y fun r w' => r = .returned (rsV 1 false 0 (tx (nt (n * n))) 0) ∧ Below Y.heap.size Y w' := fun Y _ => by
    have q := iMul_any 64 1 1 false 0 (tx (nt n)) 1 false 0 (tx (nt n)) Y (by omega) (by omega)
    rw [mul_is n n (n * n) (by omega) (by omega) (by omega) (by omega) rfl nn1] at q
    exact q
  have q := twoLine_any w hT mm bb hbb X hX _ 13 hm rfl wMul fmul 4 (by kernel_rfl) 30 r3 (fun _ _ => rfl) 0 hS (wd [wMul, (tx (nt n)), (tx (nt n))]) (tx (nt n)) (tx (nt n)) (1, false, 0, (tx (nt n))) (1, false, 0, (tx (nt n))) (by simp only [wd, ByteArray.size_append, s1]; simp only [show wAdd.size = 3 from rfl, show wSub.size = 3 from rfl, show wMul.size = 3 from rfl, show wDiv.size = 3 from rfl, show wFma.size = 3 from rfl, show wSqrt.size = 4 from rfl, show wCmp.size = 7 from rfl, show wFlg.size = 5 from rfl, show (⟨#[49]⟩ : ByteArray).size = 1 from rfl, show (⟨#[48]⟩ : ByteArray).size = 1 from rfl, show (⟨#[45]⟩ : ByteArray).size = 1 from rfl, show (⟨#[46, 48]⟩ : ByteArray).size = 2 from rfl]; omega) hsp (rd_pos n (by omega) (by omega)) (by omega) (rd_pos n (by omega) (by omega)) (by omega) 1 false 0 (tx (nt (n * n))) 0 (by omega) hF
  rw [shT_pos (n * n) (by omega) (by omega), or_00] at q
  exact q
set_option maxRecDepth 100000 in
set_option maxHeartbeats 400000 in
theorem topLine_3 (w : World) (hT : TB w) (n k : Int) (k0 : 0 < k) (h : k < n) (n1 : n < 1000000) (mm bb : Nat) (X : World) (hbb : w.heap.size ≤ bb) (hX : Below w.heap.size w X) (hR : RowsAt X mm bb) (hS : St X bb 64 1 0) :
    Calls Tryz.prog 16 #[.map (some mm), .string (wd [wSqrt, (tx (nt (n * n)))])] X fun e w' => e = .returned (.string (tx (nt n))) ∧ St w' bb 64 1 0 ∧ X.grownBy w' (some bb) := by
  obtain ⟨fadd, fsub, fmul, fdiv, ffma, fsqrt, fquantize, fnext, fcompare, fword, hm, r1, r2, r3, r4, r5, r6, r7, r8, r9, r10⟩ := hR
  have nn1 : n * n < 10000000000000000 := by
    have h1 : n * n ≤ 1000000 * 1000000 := Int.mul_le_mul (by omega) (by omega) (by omega) (by decide)
    have h2 : (1000000 : Int) * 1000000 = 1000000000000 := by decide
    omega
  have nn0 : 0 < n * n := Int.mul_pos (by omega) (by omega)
  have zN := tnz_16 n (by omega) (by omega)
  have zP := tnz_16 (n * n) (by omega) (by omega)
  have wP : Wok (tx (nt (n * n))) := wok_tx _ (nt_ok _ (by omega) nn1).1.1
  have s1 : (⟨#[32]⟩ : ByteArray).size = 1 := rfl
  have hsp := spl_wd [wSqrt, (tx (nt (n * n)))] (by simp) (fun x hx => by
    simp only [List.mem_cons, List.not_mem_nil, or_false] at hx
    rcases hx with rfl | rfl
    · exact (wok_lit (by decide) : Wok wSqrt).1
    · exact wP.1
    )
  obtain ⟨hh, q1, q2, q3⟩ := sq_one n (n * n) (by omega) rfl nn1
  have hF : ∀ Y, Below w.heap.size w Y → Calls Tryz.prog 35 #[.int .i64 64, .int .i64 1, numW (1, false, 0, (tx (nt (n * n))))] Y fun r w' => r = .returned (rsV 1 false 0 (tx (nt n)) 0) ∧ Below Y.heap.size Y w' := fun Y _ => by
    have q := iSqrt_any 64 1 1 false 0 (tx (nt (n * n))) (n * 10 ^ hh) true Y (by omega) q3
    rw [sqr_is n (n * n) hh (by omega) n1 rfl nn1 q1 q2] at q
    exact q
  have q := oneLine_any w hT mm bb hbb X hX _ 13 hm rfl wSqrt fsqrt 7 (by kernel_rfl) 35 r6 (fun _ _ => rfl) 0 hS (wd [wSqrt, (tx (nt (n * n)))]) (tx (nt (n * n))) (1, false, 0, (tx (nt (n * n)))) (by simp only [wd, ByteArray.size_append, s1]; simp only [show wAdd.size = 3 from rfl, show wSub.size = 3 from rfl, show wMul.size = 3 from rfl, show wDiv.size = 3 from rfl, show wFma.size = 3 from rfl, show wSqrt.size = 4 from rfl, show wCmp.size = 7 from rfl, show wFlg.size = 5 from rfl, show (⟨#[49]⟩ : ByteArray).size = 1 from rfl, show (⟨#[48]⟩ : ByteArray).size = 1 from rfl, show (⟨#[45]⟩ : ByteArray).size = 1 from rfl, show (⟨#[46, 48]⟩ : ByteArray).size = 2 from rfl]; omega) hsp (rd_pos (n * n) (by omega) nn1) (by omega) 1 false 0 (tx (nt n)) 0 (by omega) hF
  rw [shT_pos n (by omega) (by omega), or_00] at q
  exact q
set_option maxRecDepth 100000 in
set_option maxHeartbeats 400000 in
theorem topLine_4 (w : World) (hT : TB w) (n k : Int) (k0 : 0 < k) (h : k < n) (n1 : n < 1000000) (mm bb : Nat) (X : World) (hbb : w.heap.size ≤ bb) (hX : Below w.heap.size w X) (hR : RowsAt X mm bb) (hS : St X bb 64 1 0) :
    Calls Tryz.prog 16 #[.map (some mm), .string (wd [wDiv, (tx (nt (n * k))), (tx (nt k))])] X fun e w' => e = .returned (.string (tx (nt n))) ∧ St w' bb 64 1 0 ∧ X.grownBy w' (some bb) := by
  obtain ⟨fadd, fsub, fmul, fdiv, ffma, fsqrt, fquantize, fnext, fcompare, fword, hm, r1, r2, r3, r4, r5, r6, r7, r8, r9, r10⟩ := hR
  have nk1 : n * k < 10000000000000000 := by
    have h1 : n * k ≤ 1000000 * 1000000 := Int.mul_le_mul (by omega) (by omega) (by omega) (by decide)
    have h2 : (1000000 : Int) * 1000000 = 1000000000000 := by decide
    omega
  have nk0 : 0 < n * k := Int.mul_pos (by omega) (by omega)
  have zN := tnz_16 n (by omega) (by omega)
  have zK := tnz_16 k (by omega) (by omega)
  have zQ := tnz_16 (n * k) (by omega) (by omega)
  have wK : Wok (tx (nt k)) := wok_tx _ (nt_ok k (by omega) (by omega)).1.1
  have wQ : Wok (tx (nt (n * k))) := wok_tx _ (nt_ok _ (by omega) nk1).1.1
  have s1 : (⟨#[32]⟩ : ByteArray).size = 1 := rfl
  have hsp := spl_wd [wDiv, (tx (nt (n * k))), (tx (nt k))] (by simp) (fun x hx => by
    simp only [List.mem_cons, List.not_mem_nil, or_false] at hx
    rcases hx with rfl | rfl | rfl
    · exact (wok_lit (by decide) : Wok wDiv).1
    · exact wQ.1
    · exact wK.1
    )
  have hF : ∀ Y, Below w.heap.size w Y → Calls Tryz.prog 31 #[.int .i64 64, .int .i64 1, numW (1, false, 0, (tx (nt (n * k)))), numW (1, false, 0, (tx (nt k)))] Y fun r w' => r = .returned (rsV 1 false 0 (tx (nt n)) 0) ∧ Below Y.heap.size Y w' := fun Y _ => by
    have q := iDiv_any 64 1 1 false 0 (tx (nt (n * k))) 1 false 0 (tx (nt k)) Y (by omega) (by omega)
    rw [div_is n k (n * k) (by omega) n1 k0 (by omega) rfl nk1] at q
    exact q
  have q := twoLine_any w hT mm bb hbb X hX _ 13 hm rfl wDiv fdiv 5 (by kernel_rfl) 31 r4 (fun _ _ => rfl) 0 hS (wd [wDiv, (tx (nt (n * k))), (tx (nt k))]) (tx (nt (n * k))) (tx (nt k)) (1, false, 0, (tx (nt (n * k)))) (1, false, 0, (tx (nt k))) (by simp only [wd, ByteArray.size_append, s1]; simp only [show wAdd.size = 3 from rfl, show wSub.size = 3 from rfl, show wMul.size = 3 from rfl, show wDiv.size = 3 from rfl, show wFma.size = 3 from rfl, show wSqrt.size = 4 from rfl, show wCmp.size = 7 from rfl, show wFlg.size = 5 from rfl, show (⟨#[49]⟩ : ByteArray).size = 1 from rfl, show (⟨#[48]⟩ : ByteArray).size = 1 from rfl, show (⟨#[45]⟩ : ByteArray).size = 1 from rfl, show (⟨#[46, 48]⟩ : ByteArray).size = 2 from rfl]; omega) hsp (rd_pos (n * k) (by omega) nk1) (by omega) (rd_pos k (by omega) (by omega)) (by omega) 1 false 0 (tx (nt n)) 0 (by omega) hF
  rw [shT_pos n (by omega) (by omega), or_00] at q
  exact q
set_option maxRecDepth 100000 in
set_option maxHeartbeats 400000 in
theorem topLine_5 (k : Int) (M : ByteArray) (rM : RdIs 64 1 M (1, true, 0, tx (nt k))) (wM : Wok M) (zM : M.size ≤ 17) (w : World) (hT : TB w) (n : Int) (k0 : 0 < k) (h : k < n) (n1 : n < 1000000) (mm bb : Nat) (X : World) (hbb : w.heap.size ≤ bb) (hX : Below w.heap.size w X) (hR : RowsAt X mm bb) (hS : St X bb 64 1 0) :
    Calls Tryz.prog 16 #[.map (some mm), .string (wd [wFma, (tx (nt n)), (tx (nt k)), M])] X fun e w' => e = .returned (.string (tx (nt (n * k - k)))) ∧ St w' bb 64 1 0 ∧ X.grownBy w' (some bb) := by
  obtain ⟨fadd, fsub, fmul, fdiv, ffma, fsqrt, fquantize, fnext, fcompare, fword, hm, r1, r2, r3, r4, r5, r6, r7, r8, r9, r10⟩ := hR
  have nk1 : n * k < 10000000000000000 := by
    have h1 : n * k ≤ 1000000 * 1000000 := Int.mul_le_mul (by omega) (by omega) (by omega) (by decide)
    have h2 : (1000000 : Int) * 1000000 = 1000000000000 := by decide
    omega
  have nk0 : 0 < n * k := Int.mul_pos (by omega) (by omega)
  have nkk : k < n * k := by
    have h1 : 2 * k ≤ n * k := Int.mul_le_mul_of_nonneg_right (by omega) (by omega)
    omega
  have zN := tnz_16 n (by omega) (by omega)
  have zK := tnz_16 k (by omega) (by omega)
  have zC := tnz_16 (n * k - k) (by omega) (by omega)
  have wN : Wok (tx (nt n)) := wok_tx _ (nt_ok n (by omega) (by omega)).1.1
  have wK : Wok (tx (nt k)) := wok_tx _ (nt_ok k (by omega) (by omega)).1.1
  have s1 : (⟨#[32]⟩ : ByteArray).size = 1 := rfl
  have hsp := spl_wd [wFma, (tx (nt n)), (tx (nt k)), M] (by simp) (fun x hx => by
    simp only [List.mem_cons, List.not_mem_nil, or_false] at hx
    rcases hx with rfl | rfl | rfl | rfl
    · exact (wok_lit (by decide) : Wok wFma).1
    · exact wN.1
    · exact wK.1
    · exact wM.1
    )
  have hF : ∀ Y, Below w.heap.size w Y → Calls Tryz.prog 33 #[.int .i64 64, .int .i64 1, numW (1, false, 0, (tx (nt n))), numW (1, false, 0, (tx (nt k))), numW (1, true, 0, (tx (nt k)))] Y fun r w' => r = .returned (rsV 1 false 0 (tx (nt (n * k - k))) 0) ∧ Below Y.heap.size Y w' := fun Y _ => by
    have q := iFma_any 64 1 1 false 0 (tx (nt n)) 1 false 0 (tx (nt k)) 1 true 0 (tx (nt k)) Y (by omega) (by omega) (by omega)
    rw [fma_is n k (n * k) (n * k - k) (by omega) n1 k0 (by omega) rfl nkk rfl nk1] at q
    exact q
  have q := thrLine_any w hT mm bb hbb X hX _ 13 hm rfl wFma ffma 6 (by kernel_rfl) 33 r5 (fun _ _ => rfl) 0 hS (wd [wFma, (tx (nt n)), (tx (nt k)), M]) (tx (nt n)) (tx (nt k)) M (1, false, 0, (tx (nt n))) (1, false, 0, (tx (nt k))) (1, true, 0, (tx (nt k))) (by simp only [wd, ByteArray.size_append, s1]; simp only [show wAdd.size = 3 from rfl, show wSub.size = 3 from rfl, show wMul.size = 3 from rfl, show wDiv.size = 3 from rfl, show wFma.size = 3 from rfl, show wSqrt.size = 4 from rfl, show wCmp.size = 7 from rfl, show wFlg.size = 5 from rfl, show (⟨#[49]⟩ : ByteArray).size = 1 from rfl, show (⟨#[48]⟩ : ByteArray).size = 1 from rfl, show (⟨#[45]⟩ : ByteArray).size = 1 from rfl, show (⟨#[46, 48]⟩ : ByteArray).size = 2 from rfl]; omega) hsp (rd_pos n (by omega) (by omega)) (by omega) (rd_pos k (by omega) (by omega)) (by omega) rM (by omega) 1 false 0 (tx (nt (n * k - k))) 0 (by omega) hF
  rw [shT_pos (n * k - k) (by omega) (by omega), or_00] at q
  exact q
set_option maxRecDepth 100000 in
set_option maxHeartbeats 400000 in
theorem topLine_6 (w : World) (hT : TB w) (n k : Int) (k0 : 0 < k) (h : k < n) (n1 : n < 1000000) (mm bb : Nat) (X : World) (hbb : w.heap.size ≤ bb) (hX : Below w.heap.size w X) (hR : RowsAt X mm bb) (hS : St X bb 64 1 0) :
    Calls Tryz.prog 16 #[.map (some mm), .string (wd [wCmp, (tx (nt k)), (tx (nt n))])] X fun e w' => e = .returned (.string ⟨#[45, 49]⟩) ∧ St w' bb 64 1 0 ∧ X.grownBy w' (some bb) := by
  obtain ⟨fadd, fsub, fmul, fdiv, ffma, fsqrt, fquantize, fnext, fcompare, fword, hm, r1, r2, r3, r4, r5, r6, r7, r8, r9, r10⟩ := hR
  have zN := tnz_16 n (by omega) (by omega)
  have zK := tnz_16 k (by omega) (by omega)
  have wN : Wok (tx (nt n)) := wok_tx _ (nt_ok n (by omega) (by omega)).1.1
  have wK : Wok (tx (nt k)) := wok_tx _ (nt_ok k (by omega) (by omega)).1.1
  have s1 : (⟨#[32]⟩ : ByteArray).size = 1 := rfl
  have hsp := spl_wd [wCmp, (tx (nt k)), (tx (nt n))] (by simp) (fun x hx => by
    simp only [List.mem_cons, List.not_mem_nil, or_false] at hx
    rcases hx with rfl | rfl | rfl
    · exact (wok_lit (by decide) : Wok wCmp).1
    · exact wK.1
    · exact wN.1
    )
  have hcp : cpN 64 (1, false, 0, (tx (nt k))) (1, false, 0, (tx (nt n))) = -1 := cmp_is k n k0 h n1
  have q := cmpLine_any w hT mm bb hbb X hX _ 13 hm rfl wCmp fcompare 10 (by kernel_rfl) r9 0 hS (wd [wCmp, (tx (nt k)), (tx (nt n))]) (tx (nt k)) (tx (nt n)) (1, false, 0, (tx (nt k))) (1, false, 0, (tx (nt n))) (by simp only [wd, ByteArray.size_append, s1]; simp only [show wAdd.size = 3 from rfl, show wSub.size = 3 from rfl, show wMul.size = 3 from rfl, show wDiv.size = 3 from rfl, show wFma.size = 3 from rfl, show wSqrt.size = 4 from rfl, show wCmp.size = 7 from rfl, show wFlg.size = 5 from rfl, show (⟨#[49]⟩ : ByteArray).size = 1 from rfl, show (⟨#[48]⟩ : ByteArray).size = 1 from rfl, show (⟨#[45]⟩ : ByteArray).size = 1 from rfl, show (⟨#[46, 48]⟩ : ByteArray).size = 2 from rfl]; omega) hsp (rd_pos k (by omega) (by omega)) (by omega) (rd_pos n (by omega) (by omega)) (by omega) (show ByteArray.size (tx (nt k)) ≤ 4611686018427387904 by omega) (show ByteArray.size (tx (nt n)) ≤ 4611686018427387904 by omega) (by rw [hcp]; decide)
  rw [hcp, itoa_m1] at q
  exact q
set_option maxRecDepth 100000 in
set_option maxHeartbeats 400000 in
theorem topLine_7 (w : World) (hT : TB w) (n k : Int) (k0 : 0 < k) (h : k < n) (n1 : n < 1000000) (mm bb : Nat) (X : World) (hbb : w.heap.size ≤ bb) (hX : Below w.heap.size w X) (hR : RowsAt X mm bb) (hS : St X bb 64 1 0) :
    Calls Tryz.prog 16 #[.map (some mm), .string (wd [wCmp, (tx (nt n) ++ ⟨#[46, 48]⟩), (tx (nt n))])] X fun e w' => e = .returned (.string ⟨#[48]⟩) ∧ St w' bb 64 1 0 ∧ X.grownBy w' (some bb) := by
  obtain ⟨fadd, fsub, fmul, fdiv, ffma, fsqrt, fquantize, fnext, fcompare, fword, hm, r1, r2, r3, r4, r5, r6, r7, r8, r9, r10⟩ := hR
  have zN := tnz_16 n (by omega) (by omega)
  have zD := tnz_16 (n * 10) (by omega) (by omega)
  have wN : Wok (tx (nt n)) := wok_tx _ (nt_ok n (by omega) (by omega)).1.1
  have wD : Wok (tx (nt n) ++ ⟨#[46, 48]⟩) := wok_app wN (wok_lit (by decide))
  have zE : (tx (nt n) ++ ⟨#[46, 48]⟩ : ByteArray).size ≤ 18 := by rw [ByteArray.size_append]; show _ + 2 ≤ 18; omega
  have s1 : (⟨#[32]⟩ : ByteArray).size = 1 := rfl
  have hsp := spl_wd [wCmp, (tx (nt n) ++ ⟨#[46, 48]⟩), (tx (nt n))] (by simp) (fun x hx => by
    simp only [List.mem_cons, List.not_mem_nil, or_false] at hx
    rcases hx with rfl | rfl | rfl
    · exact (wok_lit (by decide) : Wok wCmp).1
    · exact wD.1
    · exact wN.1
    )
  have hcp : cpN 64 (1, false, -1, (tx (nt (n * 10)))) (1, false, 0, (tx (nt n))) = 0 := eql_is n (by omega) n1
  have q := cmpLine_any w hT mm bb hbb X hX _ 13 hm rfl wCmp fcompare 10 (by kernel_rfl) r9 0 hS (wd [wCmp, (tx (nt n) ++ ⟨#[46, 48]⟩), (tx (nt n))]) (tx (nt n) ++ ⟨#[46, 48]⟩) (tx (nt n)) (1, false, -1, (tx (nt (n * 10)))) (1, false, 0, (tx (nt n))) (by simp only [wd, ByteArray.size_append, s1]; simp only [show wAdd.size = 3 from rfl, show wSub.size = 3 from rfl, show wMul.size = 3 from rfl, show wDiv.size = 3 from rfl, show wFma.size = 3 from rfl, show wSqrt.size = 4 from rfl, show wCmp.size = 7 from rfl, show wFlg.size = 5 from rfl, show (⟨#[49]⟩ : ByteArray).size = 1 from rfl, show (⟨#[48]⟩ : ByteArray).size = 1 from rfl, show (⟨#[45]⟩ : ByteArray).size = 1 from rfl, show (⟨#[46, 48]⟩ : ByteArray).size = 2 from rfl]; omega) hsp (rd_dot n (by omega) (by omega)) (by omega) (rd_pos n (by omega) (by omega)) (by omega) (show ByteArray.size (tx (nt (n * 10))) ≤ 4611686018427387904 by omega) (show ByteArray.size (tx (nt n)) ≤ 4611686018427387904 by omega) (by rw [hcp]; decide)
  rw [hcp, itoa_0] at q
  exact q
set_option maxRecDepth 100000 in
set_option maxHeartbeats 400000 in
theorem topLine_8 (w : World) (hT : TB w) (n k : Int) (k0 : 0 < k) (h : k < n) (n1 : n < 1000000) (mm bb : Nat) (X : World) (hbb : w.heap.size ≤ bb) (hX : Below w.heap.size w X) (hR : RowsAt X mm bb) (hS : St X bb 64 1 0) :
    Calls Tryz.prog 16 #[.map (some mm), .string (wd [wFlg])] X fun e w' => e = .returned (.string ⟨#[48]⟩) ∧ St w' bb 64 1 0 ∧ X.grownBy w' (some bb) := by
  obtain ⟨fadd, fsub, fmul, fdiv, ffma, fsqrt, fquantize, fnext, fcompare, fword, hm, r1, r2, r3, r4, r5, r6, r7, r8, r9, r10⟩ := hR
  have s1 : (⟨#[32]⟩ : ByteArray).size = 1 := rfl
  have hsp := spl_wd [wFlg] (by simp) (fun x hx => by
    simp only [List.mem_cons, List.not_mem_nil, or_false] at hx
    rcases hx with rfl
    · exact (wok_lit (by decide) : Wok wFlg).1
    )
  have q := flgLine_any w hT mm bb hbb X hX _ 13 hm rfl wFlg 12 (by kernel_rfl) 0 hS (wd [wFlg]) (by simp only [wd, ByteArray.size_append, s1]; simp only [show wAdd.size = 3 from rfl, show wSub.size = 3 from rfl, show wMul.size = 3 from rfl, show wDiv.size = 3 from rfl, show wFma.size = 3 from rfl, show wSqrt.size = 4 from rfl, show wCmp.size = 7 from rfl, show wFlg.size = 5 from rfl, show (⟨#[49]⟩ : ByteArray).size = 1 from rfl, show (⟨#[48]⟩ : ByteArray).size = 1 from rfl, show (⟨#[45]⟩ : ByteArray).size = 1 from rfl, show (⟨#[46, 48]⟩ : ByteArray).size = 2 from rfl]; omega) hsp (by decide)
  rw [itoa_0] at q
  exact q
set_option maxRecDepth 100000 in
set_option maxHeartbeats 400000 in
theorem topLine_9 (w : World) (hT : TB w) (n k : Int) (k0 : 0 < k) (h : k < n) (n1 : n < 1000000) (mm bb : Nat) (X : World) (hbb : w.heap.size ≤ bb) (hX : Below w.heap.size w X) (hR : RowsAt X mm bb) (hS : St X bb 64 1 0) :
    Calls Tryz.prog 16 #[.map (some mm), .string (wd [wDiv, ⟨#[49]⟩, ⟨#[48]⟩])] X fun e w' => e = .returned (.string ⟨#[73, 110, 102, 105, 110, 105, 116, 121]⟩) ∧ St w' bb 64 1 2 ∧ X.grownBy w' (some bb) := by
  obtain ⟨fadd, fsub, fmul, fdiv, ffma, fsqrt, fquantize, fnext, fcompare, fword, hm, r1, r2, r3, r4, r5, r6, r7, r8, r9, r10⟩ := hR
  have z1 := tnz_16 1 (by decide) (by decide)
  have z0 := tnz_16 0 (by decide) (by decide)
  have s1 : (⟨#[32]⟩ : ByteArray).size = 1 := rfl
  have hsp := spl_wd [wDiv, ⟨#[49]⟩, ⟨#[48]⟩] (by simp) (fun x hx => by
    simp only [List.mem_cons, List.not_mem_nil, or_false] at hx
    rcases hx with rfl | rfl | rfl
    · exact (wok_lit (by decide) : Wok wDiv).1
    · exact (wok_lit (by decide) : Wok ⟨#[49]⟩).1
    · exact (wok_lit (by decide) : Wok ⟨#[48]⟩).1
    )
  have hF : ∀ Y, Below w.heap.size w Y → Calls Tryz.prog 31 #[.int .i64 64, .int .i64 1, numW (1, false, 0, tx (nt 1)), numW (1, false, 0, tx (nt 0))] Y fun r w' => r = .returned (rsV 2 false 0 { data := #[] } 2) ∧ Below Y.heap.size Y w' := fun Y _ => by
    have q := iDiv_any 64 1 1 false 0 (tx (nt 1)) 1 false 0 (tx (nt 0)) Y (by omega) (by omega)
    rw [div_0] at q
    exact q
  have rd1 := rd_pos 1 (by decide) (by decide)
  have rd0 := rd_pos 0 (by decide) (by decide)
  rw [txn_1] at rd1 hF
  rw [txn_0] at rd0 hF
  have q := twoLine_any w hT mm bb hbb X hX _ 13 hm rfl wDiv fdiv 5 (by kernel_rfl) 31 r4 (fun _ _ => rfl) 0 hS (wd [wDiv, ⟨#[49]⟩, ⟨#[48]⟩]) ⟨#[49]⟩ ⟨#[48]⟩ (1, false, 0, ⟨#[49]⟩) (1, false, 0, ⟨#[48]⟩) (by simp only [wd, ByteArray.size_append, s1]; simp only [show wAdd.size = 3 from rfl, show wSub.size = 3 from rfl, show wMul.size = 3 from rfl, show wDiv.size = 3 from rfl, show wFma.size = 3 from rfl, show wSqrt.size = 4 from rfl, show wCmp.size = 7 from rfl, show wFlg.size = 5 from rfl, show (⟨#[49]⟩ : ByteArray).size = 1 from rfl, show (⟨#[48]⟩ : ByteArray).size = 1 from rfl, show (⟨#[45]⟩ : ByteArray).size = 1 from rfl, show (⟨#[46, 48]⟩ : ByteArray).size = 2 from rfl]; omega) hsp rd1 (by decide) rd0 (by decide) 2 false 0 { data := #[] } 2 (by decide) hF
  rw [shT_inf, or_02] at q
  exact q
set_option maxRecDepth 100000 in
set_option maxHeartbeats 400000 in
theorem topLine_10 (w : World) (hT : TB w) (n k : Int) (k0 : 0 < k) (h : k < n) (n1 : n < 1000000) (mm bb : Nat) (X : World) (hbb : w.heap.size ≤ bb) (hX : Below w.heap.size w X) (hR : RowsAt X mm bb) (hS : St X bb 64 1 2) :
    Calls Tryz.prog 16 #[.map (some mm), .string (wd [wFlg])] X fun e w' => e = .returned (.string ⟨#[50]⟩) ∧ St w' bb 64 1 0 ∧ X.grownBy w' (some bb) := by
  obtain ⟨fadd, fsub, fmul, fdiv, ffma, fsqrt, fquantize, fnext, fcompare, fword, hm, r1, r2, r3, r4, r5, r6, r7, r8, r9, r10⟩ := hR
  have s1 : (⟨#[32]⟩ : ByteArray).size = 1 := rfl
  have hsp := spl_wd [wFlg] (by simp) (fun x hx => by
    simp only [List.mem_cons, List.not_mem_nil, or_false] at hx
    rcases hx with rfl
    · exact (wok_lit (by decide) : Wok wFlg).1
    )
  have q := flgLine_any w hT mm bb hbb X hX _ 13 hm rfl wFlg 12 (by kernel_rfl) 2 hS (wd [wFlg]) (by simp only [wd, ByteArray.size_append, s1]; simp only [show wAdd.size = 3 from rfl, show wSub.size = 3 from rfl, show wMul.size = 3 from rfl, show wDiv.size = 3 from rfl, show wFma.size = 3 from rfl, show wSqrt.size = 4 from rfl, show wCmp.size = 7 from rfl, show wFlg.size = 5 from rfl, show (⟨#[49]⟩ : ByteArray).size = 1 from rfl, show (⟨#[48]⟩ : ByteArray).size = 1 from rfl, show (⟨#[45]⟩ : ByteArray).size = 1 from rfl, show (⟨#[46, 48]⟩ : ByteArray).size = 2 from rfl]; omega) hsp (by decide)
  rw [itoa_2] at q
  exact q
set_option maxRecDepth 100000 in
set_option maxHeartbeats 400000 in
theorem topLine_11 (w : World) (hT : TB w) (n k : Int) (k0 : 0 < k) (h : k < n) (n1 : n < 1000000) (mm bb : Nat) (X : World) (hbb : w.heap.size ≤ bb) (hX : Below w.heap.size w X) (hR : RowsAt X mm bb) (hS : St X bb 64 1 0) :
    Calls Tryz.prog 16 #[.map (some mm), .string (wd [wFlg])] X fun e w' => e = .returned (.string ⟨#[48]⟩) ∧ St w' bb 64 1 0 ∧ X.grownBy w' (some bb) := by
  obtain ⟨fadd, fsub, fmul, fdiv, ffma, fsqrt, fquantize, fnext, fcompare, fword, hm, r1, r2, r3, r4, r5, r6, r7, r8, r9, r10⟩ := hR
  have s1 : (⟨#[32]⟩ : ByteArray).size = 1 := rfl
  have hsp := spl_wd [wFlg] (by simp) (fun x hx => by
    simp only [List.mem_cons, List.not_mem_nil, or_false] at hx
    rcases hx with rfl
    · exact (wok_lit (by decide) : Wok wFlg).1
    )
  have q := flgLine_any w hT mm bb hbb X hX _ 13 hm rfl wFlg 12 (by kernel_rfl) 0 hS (wd [wFlg]) (by simp only [wd, ByteArray.size_append, s1]; simp only [show wAdd.size = 3 from rfl, show wSub.size = 3 from rfl, show wMul.size = 3 from rfl, show wDiv.size = 3 from rfl, show wFma.size = 3 from rfl, show wSqrt.size = 4 from rfl, show wCmp.size = 7 from rfl, show wFlg.size = 5 from rfl, show (⟨#[49]⟩ : ByteArray).size = 1 from rfl, show (⟨#[48]⟩ : ByteArray).size = 1 from rfl, show (⟨#[45]⟩ : ByteArray).size = 1 from rfl, show (⟨#[46, 48]⟩ : ByteArray).size = 2 from rfl]; omega) hsp (by decide)
  rw [itoa_0] at q
  exact q
end Go.Proofs.YteofommckgeemaaGreatDoor
namespace Go.Proofs.YteofommckgeemaaGreatDoor
open Go.RowKit
set_option linter.unusedVariables false
set_option maxRecDepth 100000
set_option linter.unusedSimpArgs false
theorem topF_0 : topF 0 = 0 := rfl
theorem topBench_any (n k : Int) (k0 : 0 < k) (h : k < n) (n1 : n < 1000000) (P Q : ByteArray) (hP : P = tx (nt (n * n))) (hQ : Q = tx (nt (n * k))) (w : World) (hT : TB w) :
    Calls Tryz.prog 10 #[.string (topT (tx (nt n)) (tx (nt k)) P Q)] w fun e w' => e = .returned (.string ⟨(outs (topA n k)).toArray⟩) ∧ Below w.heap.size w w' := by
  have nn1 : n * n < 10000000000000000 := by
    have h1 : n * n ≤ 1000000 * 1000000 := Int.mul_le_mul (by omega) (by omega) (by omega) (by decide)
    have h2 : (1000000 : Int) * 1000000 = 1000000000000 := by decide
    omega
  have nn0 : 0 < n * n := Int.mul_pos (by omega) (by omega)
  have nk1 : n * k < 10000000000000000 := by
    have h1 : n * k ≤ 1000000 * 1000000 := Int.mul_le_mul (by omega) (by omega) (by omega) (by decide)
    have h2 : (1000000 : Int) * 1000000 = 1000000000000 := by decide
    omega
  have nk0 : 0 < n * k := Int.mul_pos (by omega) (by omega)
  have zN := tnz_16 n (by omega) (by omega)
  have zK := tnz_16 k (by omega) (by omega)
  have zP := tnz_16 (n * n) (by omega) (by omega)
  have zQ := tnz_16 (n * k) (by omega) (by omega)
  have zA := tnz_16 (n + k) (by omega) (by omega)
  have zB := tnz_16 (n - k) (by omega) (by omega)
  have zC := tnz_16 (n * k - k) (by
    have h1 : 1 * k ≤ n * k := Int.mul_le_mul_of_nonneg_right (by omega) (by omega)
    omega) (by omega)
  have wK : Wok (tx (nt k)) := wok_tx _ (nt_ok k (by omega) (by omega)).1.1
  have k16 : k < 10000000000000000 := by omega
  have k00 : 0 ≤ k := by omega
  have hrd := rd_neg k k00 k16
  have hwm : Wok (⟨#[45]⟩ ++ tx (nt k)) := wok_app (wok_lit (by decide)) wK
  have hzm : (⟨#[45]⟩ ++ tx (nt k) : ByteArray).size ≤ 17 := by rw [ByteArray.size_append]; show 1 + _ ≤ 17; omega
  have HM : ∀ X : World, ∀ mm bb, w.heap.size ≤ bb → Below w.heap.size w X → RowsAt X mm bb → St X bb 64 1 0 → Calls Tryz.prog 16 #[.map (some mm), .string (wd [wFma, tx (nt n), tx (nt k), ⟨#[45]⟩ ++ tx (nt k)])] X fun e w' => e = .returned (.string (tx (nt (n * k - k)))) ∧ St w' bb 64 1 0 ∧ X.grownBy w' (some bb) := by
    generalize (⟨#[45]⟩ ++ tx (nt k) : ByteArray) = M at hrd hwm hzm ⊢
    exact fun X mm bb a b c d => topLine_5 k M hrd hwm hzm w hT n k0 h n1 mm bb X a b c d
  clear hrd hwm hzm
  have hok := topL_ok n k (by omega) n1 (by omega) (by omega) P Q (by rw [hP]; exact wok_tx _ (nt_ok _ (by omega) nn1).1.1) (by rw [hQ]; exact wok_tx _ (nt_ok _ (by omega) nk1).1.1)
  have hlist := topT_list (tx (nt n)) (tx (nt k)) P Q
  have hsize : (topT (tx (nt n)) (tx (nt k)) P Q).size ≤ 20000 := by
    have e : ∀ a : ByteArray, a.data.toList.length = a.size := fun a => Array.length_toList
    rw [← e, hlist]
    unfold topL
    simp only [outs, wd, ba_list, List.length_append, List.length_cons, List.length_nil, e]
    rw [hP, hQ]
    omega
  have hsp := spl_outs (topL (tx (nt n)) (tx (nt k)) P Q) (fun x hx => (hok x hx).2)
  rw [← hlist] at hsp
  refine Bench_any w hT (topT (tx (nt n)) (tx (nt k)) P Q) (topL (tx (nt n)) (tx (nt k)) P Q) (topA n k) topF topF_0 12 rfl (by decide) hsize hsp (fun x hx => (hok x hx).1) rfl (fun a ha => ?_) fun i l a hl ha mm bb X hbb hX hR hS => ?_
  · unfold topA at ha
    simp only [List.mem_cons, List.not_mem_nil, or_false] at ha
    rcases ha with q | q | q | q | q | q | q | q | q | q | q | q
    all_goals rw [q]
    all_goals first | omega | decide
  · have hi : i < 12 := (List.getElem?_eq_some_iff.1 hl).1
    unfold topL at hl
    unfold topA at ha
    rcases (show i = 0 ∨ i = 1 ∨ i = 2 ∨ i = 3 ∨ i = 4 ∨ i = 5 ∨ i = 6 ∨ i = 7 ∨ i = 8 ∨ i = 9 ∨ i = 10 ∨ i = 11 by omega) with q | q | q | q | q | q | q | q | q | q | q | q
    all_goals
      rw [q] at hl ha hS ⊢
      simp only [List.getElem?_cons_succ, List.getElem?_cons_zero, Option.some.injEq] at hl ha
      rw [← hl, ← ha]
    · exact topLine_0 w hT n k k0 h n1 mm bb X hbb hX hR hS
    · exact topLine_1 w hT n k k0 h n1 mm bb X hbb hX hR hS
    · exact topLine_2 w hT n k k0 h n1 mm bb X hbb hX hR hS
    · rw [hP]; exact topLine_3 w hT n k k0 h n1 mm bb X hbb hX hR hS
    · rw [hQ]; exact topLine_4 w hT n k k0 h n1 mm bb X hbb hX hR hS
    · exact HM X mm bb hbb hX hR hS
    · exact topLine_6 w hT n k k0 h n1 mm bb X hbb hX hR hS
    · exact topLine_7 w hT n k k0 h n1 mm bb X hbb hX hR hS
    · exact topLine_8 w hT n k k0 h n1 mm bb X hbb hX hR hS
    · exact topLine_9 w hT n k k0 h n1 mm bb X hbb hX hR hS
    · exact topLine_10 w hT n k k0 h n1 mm bb X hbb hX hR hS
    · exact topLine_11 w hT n k k0 h n1 mm bb X hbb hX hR hS
theorem topA_no (n k : Int) (k0 : 0 < k) (h : k < n) (n1 : n < 1000000) : ∀ a ∈ topA n k, (10 : UInt8) ∉ a.data.toList := by
  have nn1 : n * n < 10000000000000000 := by
    have h1 : n * n ≤ 1000000 * 1000000 := Int.mul_le_mul (by omega) (by omega) (by omega) (by decide)
    have h2 : (1000000 : Int) * 1000000 = 1000000000000 := by decide
    omega
  have nn0 : 0 < n * n := Int.mul_pos (by omega) (by omega)
  have nk1 : n * k < 10000000000000000 := by
    have h1 : n * k ≤ 1000000 * 1000000 := Int.mul_le_mul (by omega) (by omega) (by omega) (by decide)
    have h2 : (1000000 : Int) * 1000000 = 1000000000000 := by decide
    omega
  have nk0 : k ≤ n * k := by
    have h1 : 1 * k ≤ n * k := Int.mul_le_mul_of_nonneg_right (by omega) (by omega)
    omega
  have T : ∀ x : Int, 0 ≤ x → x < 10000000000000000 → (10 : UInt8) ∉ (tx (nt x)).data.toList := fun x a b => (wok_tx _ (nt_ok x a b).1.1).2
  intro a ha
  unfold topA at ha
  simp only [List.mem_cons, List.not_mem_nil, or_false] at ha
  rcases ha with q | q | q | q | q | q | q | q | q | q | q | q
  all_goals rw [q]
  · exact T _ (by omega) (by omega)
  · exact T _ (by omega) (by omega)
  · exact T _ (by omega) (by omega)
  · exact T _ (by omega) (by omega)
  · exact T _ (by omega) (by omega)
  · exact T _ (by omega) (by omega)
  all_goals decide
end Go.Proofs.YteofommckgeemaaGreatDoor
