/-
  Naturals of the program: products; walked.
-/
import Derived.Test.YtmjkpjmccdjkjapNas
namespace Go.Proofs.Ytmjkpjmccdjkjap
open Go.RowKit
set_option linter.unusedVariables false
theorem times_in (P : List Int) (i j : Nat) (A xi yj c s V : Int) (hk : i + j < P.length) (h : lv P + 10 ^ (i + j) * c = A + 10 ^ i * xi * V) (hs : s = P.getD (i + j) 0 + xi * yj + c) :
    lv (P.set (i + j) (s % 10)) + 10 ^ (i + (j + 1)) * (s / 10) = A + 10 ^ i * xi * (V + yj * 10 ^ j) := by
  rw [nl_set P (i + j) _ hk, show i + (j + 1) = i + j + 1 by omega, Int.pow_succ]
  have hr : s = s % 10 + 10 * (s / 10) := by omega
  rw [Int.pow_add] at h ⊢
  generalize s % 10 = r at *
  generalize s / 10 = u at *
  generalize (10 : Int) ^ i = p at *
  generalize (10 : Int) ^ j = q at *
  generalize P.getD (i + j) 0 = K at *
  grind
theorem times_out (P X Y : List Int) (i : Nat) (c : Int) (hi : i < X.length) (hk : i + Y.length < P.length) (hz : P.getD (i + Y.length) 0 = 0) (h : lv P + 10 ^ (i + Y.length) * c = lv (X.take i) * lv Y + 10 ^ i * X.getD i 0 * pv (fun i => Y.getD i 0) Y.length) :
    lv (P.set (i + Y.length) c) = lv (X.take (i + 1)) * lv Y := by
  rw [nl_set P _ _ hk, hz, lv_take1 X i hi]
  rw [pv_all Y Y.length (Nat.le_refl _)] at h
  generalize (10 : Int) ^ (i + Y.length) = p at *
  grind
theorem getD_set_ne (P : List Int) (k q : Nat) (d : Int) (h : k ≠ q) : (P.set k d).getD q 0 = P.getD q 0 := by
  simp [List.getD, List.getElem?_set_ne h]
theorem replicate_at (n q : Nat) : (List.replicate n (0 : Int)).getD q 0 = 0 := by
  simp only [List.getD, List.getElem?_replicate]
  split <;> rfl
/-- What holds behind i rows and j columns of the next one. -/
def TI (w wr : World) (N : Nat) (X Y : List Int) (i j : Nat) (c : Int) : Prop :=
  ∃ P, NRow wr w.heap.size w.heap.size N P ∧ Dec P ∧ (∀ q, i + Y.length ≤ q → P.getD q 0 = 0) ∧ lv P + 10 ^ (i + j) * c = lv (X.take i) * lv Y + 10 ^ i * X.getD i 0 * pv (fun i => Y.getD i 0) j
theorem TI.first {w wr : World} {N : Nat} {X Y : List Int} {i : Nat} {P : List Int} (hR : NRow wr w.heap.size w.heap.size N P) (hD : Dec P) (hz : ∀ q, i + Y.length ≤ q → P.getD q 0 = 0) (hv : lv P = lv (X.take i) * lv Y) : TI w wr N X Y i 0 0 :=
  ⟨P, hR, hD, hz, by rw [hv]; simp [pv]⟩
theorem lv_sum_bd (xi yj k c : Int) (a0 : 0 ≤ xi) (a9 : xi ≤ 9) (b0 : 0 ≤ yj) (b9 : yj ≤ 9) : 0 ≤ xi * yj ∧ xi * yj ≤ 81 := by
  refine ⟨Int.mul_nonneg a0 b0, ?_⟩
  exact Int.le_trans (Int.mul_le_mul a9 b9 b0 (by decide)) (by decide)
set_option maxHeartbeats 4000000 in
theorem nTimes_any (x y : Value) (a b : Int) (w : World) (hx : NIs w x a) (hy : NIs w y b) (fa : NFit a 1000) (fb : NFit b 1000) :
    Calls Try.prog 33 #[x, y] w fun e w' => ∃ u, e = .returned u ∧ NIsF w' w.heap.size u (a * b) ∧ Below w.heap.size w w' := by
  obtain ⟨X, rX, cX, rfl⟩ := hx
  obtain ⟨Y, rY, cY, rfl⟩ := hy
  have lX := ncan_len X 1000 cX fa
  have lY := ncan_len Y 1000 cY fb
  obtain ⟨n, hn⟩ : ∃ n, X.length = n := ⟨_, rfl⟩
  obtain ⟨m, hm⟩ : ∃ m, Y.length = m := ⟨_, rfl⟩
  obtain ⟨N, hN⟩ : ∃ N, n + m = N := ⟨_, rfl⟩
  obtain ⟨w1, hrun, hown, hb1⟩ := nMake w N (by omega)
  have hrun' : (Instr.makeSlice 30 (.int .i64 ((n : Int) + (m : Int))) (.int .i64 ((n : Int) + (m : Int)))).run Try.prog w = .ok (.slice (some ⟨w.heap.size, 0, none⟩) N N) w1 := by
    rw [show (n : Int) + (m : Int) = (N : Int) by omega]; exact hrun
  have HO : Hid (TI w w1 N X Y 0 0 0) := TI.first hown (dec_noughts N) (fun q _ => replicate_at N q) (by rw [lv_noughts, List.take_zero]; simp [lv])
  have HBX : Hid (∀ p, 0 ≤ X.getD p 0 ∧ X.getD p 0 ≤ 9) := fun p => dec_at X cX.1 p
  have HBY : Hid (∀ p, 0 ≤ Y.getD p 0 ∧ Y.getD p 0 ≤ 9) := fun p => dec_at Y cY.1 p
  obtain ⟨g, cg, rfl, hcg, hgl, hcx⟩ := rX
  obtain ⟨k, ck, rfl, hck, hkl, hcy⟩ := rY
  rw [hn] at hcg hcx lX ⊢
  rw [hm] at hck hcy lY ⊢
  have HCX : Hid (∀ i, i < n → w.cell? ⟨g, i, none⟩ = some (.int .u8 (X.getD i 0))) := hcx
  have HCY : Hid (∀ i, i < m → w.cell? ⟨k, i, none⟩ = some (.int .u8 (Y.getD i 0))) := hcy
  have HT : Hid (∀ wr, TI w wr N X Y n 0 0 → Calls Try.prog 42 #[.slice (some ⟨w.heap.size, 0, none⟩) N N] wr fun e w' => ∃ u, e = .returned u ∧ NIsF wr w.heap.size u (lv X * lv Y) ∧ w' = wr) := fun wr ⟨P, hR, hD, hz, hv⟩ => by
    have := nTrim_any _ P wr w.heap.size hR.rd ⟨_, _, _, rfl, Nat.le_refl _⟩ hD (by rw [hR.len]; omega)
    rw [List.take_of_length_le (by omega)] at hv
    rw [show lv P = lv X * lv Y by simpa [pv] using hv] at this
    exact this
  have HIN : Hid (∀ wr i j c, i < n → j < m → 0 ≤ c → TI w wr N X Y i j c → ∃ K, wr.cell? ⟨w.heap.size, i + j, none⟩ = some (.int .u8 K) ∧ 0 ≤ K ∧ K ≤ 9 ∧ wr.frozen? ⟨w.heap.size, i + j, none⟩ = false ∧ (∀ M s, s = K + X.getD i 0 * Y.getD j 0 + c → TI w ((wr.drewN M).setCell ⟨w.heap.size, i + j, none⟩ (.int .u8 (s % 10))) N X Y i (j + 1) (s / 10))) := fun wr i j c hi hj c0 ⟨P, hR, hD, hz, hv⟩ => by
    have hlen := hR.len
    refine ⟨P.getD (i + j) 0, hR.cell (i + j) (by omega), (dec_at P hD _).1, (dec_at P hD _).2, hR.frozen _, fun M s hs => ⟨P.set (i + j) (s % 10), ?_, nd_set P _ _ hD (by omega) (by omega), fun q hq => ?_, ?_⟩⟩
    · exact (hR.below (below_drewN (Below.refl _ _) M) (Nat.le_refl _)).set (i + j) (s % 10)
    · rw [getD_set_ne _ _ _ _ (by omega)]; exact hz q hq
    · exact times_in P i j _ (X.getD i 0) (Y.getD j 0) c s _ (by omega) hv hs
  have HOUT : Hid (∀ wr i c, i < n → 0 ≤ c → c ≤ 9 → TI w wr N X Y i m c → ∃ K, wr.cell? ⟨w.heap.size, i + m, none⟩ = some (.int .u8 K) ∧ wr.frozen? ⟨w.heap.size, i + m, none⟩ = false ∧ TI w (wr.setCell ⟨w.heap.size, i + m, none⟩ (.int .u8 c)) N X Y (i + 1) 0 0) := fun wr i c hi c0 c9 ⟨P, hR, hD, hz, hv⟩ => by
    have hlen := hR.len
    refine ⟨P.getD (i + m) 0, hR.cell (i + m) (by omega), hR.frozen _, TI.first (hR.set (i + m) c) (nd_set P _ _ hD c0 c9) (fun q hq => ?_) ?_⟩
    · rw [getD_set_ne _ _ _ _ (by omega)]; exact hz q (by omega)
    · have := times_out P X Y i c (by omega) (by omega) (hz _ (Nat.le_refl _)) (by rw [hm]; exact hv)
      rw [hm] at this
      exact this
  clear cX cY fa fb hown hrun hcx hcy hn hm
  go_enter Try.func33, Try.ntmps33
  go_wp2
  go_loopw [18] (fun i wr => ∃ q : Nat, q ≤ n ∧ i = .int .i64 (q : Int) ∧ Hid (TI w wr N X Y q 0 0) ∧ Below w.heap.size w wr) (fun i _ => n - (intOf i).toNat)
  case atStart => exact ⟨0, Nat.zero_le _, rfl, HO, hb1⟩
  case round =>
    obtain ⟨q, hq, rfl, HI, hbel⟩ := hrel
    clear hrun' HO hb1
    by_cases hlt : q < n
    · have hlt' : (q : Int) < (n : Int) := by omega
      have bx := HBX.out q
      go_wp2
      go_loopw [7, 24] (fun c j wr => ∃ (r : Nat) (cv : Int), r ≤ m ∧ c = .int .u8 cv ∧ j = .int .i64 (r : Int) ∧ 0 ≤ cv ∧ cv ≤ 9 ∧ Hid (TI w wr N X Y q r cv) ∧ Below w.heap.size w wr) (fun _ j _ => m - (intOf j).toNat)
      case atStart => exact ⟨0, 0, Nat.zero_le _, rfl, rfl, by omega, by omega, HI, hbel⟩
      case round =>
        obtain ⟨r, cv, hr, rfl, rfl, c0, c9, HJ, hbel2⟩ := hrel
        clear HI hbel
        by_cases hlr : r < m
        · have hlr' : (r : Int) < (m : Int) := by omega
          have by' := HBY.out r
          have h1 := (hbel2.cell (p := ⟨g, q, none⟩) hgl).trans (HCX.out q hlt)
          have h2 := (hbel2.cell (p := ⟨k, r, none⟩) hkl).trans (HCY.out r hlr)
          obtain ⟨K, h3, k0, k9, h4, h5⟩ := HIN.out wr q r cv hlt hlr c0 HJ.out
          have H5 : Hid (∀ M s, s = K + X.getD q 0 * Y.getD r 0 + cv → TI w ((wr.drewN M).setCell ⟨w.heap.size, q + r, none⟩ (.int .u8 (s % 10))) N X Y q (r + 1) (s / 10)) := h5
          clear h5 HJ
          obtain ⟨p0, p1⟩ := lv_sum_bd (X.getD q 0) (Y.getD r 0) 0 0 bx.1 bx.2 by'.1 by'.2
          have hqr : (q : Int) + (r : Int) < (N : Int) := by omega
          have hqr0 : 0 ≤ (q : Int) + (r : Int) := by omega
          generalize X.getD q 0 = xi at *
          generalize Y.getD r 0 = yj at *
          have ht : Int.tmod (K + xi * yj + cv) 10 = (K + xi * yj + cv) % 10 := Int.tmod_eq_emod_of_nonneg (by omega)
          have hq' : Int.tdiv (K + xi * yj + cv) 10 = (K + xi * yj + cv) / 10 := Int.tdiv_eq_ediv_of_nonneg (by omega)
          have hr0 : 0 ≤ (K + xi * yj + cv) % 10 := by omega
          have hr1 : (K + xi * yj + cv) % 10 < 10 := by omega
          have hq0 : 0 ≤ (K + xi * yj + cv) / 10 := by omega
          have hq1 : (K + xi * yj + cv) / 10 ≤ 9 := by omega
          go_wp2
          go_quiet (fail)
          go_wp2
          go_roundw
          case rel => exact ⟨r + 1, (K + xi * yj + cv) / 10, by omega, rfl, by go_num, hq0, hq1, H5.out nq _ rfl, (below_drewN hbel2 nq).setCell (Nat.le_refl _) _⟩
          case measure => simp [intOf]; omega
        · have e : r = m := by omega
          subst e
          obtain ⟨K, h3, h4, h5⟩ := HOUT.out wr q cv hlt c0 c9 HJ.out
          have H5 : Hid (TI w (wr.setCell ⟨w.heap.size, q + r, none⟩ (.int .u8 cv)) N X Y (q + 1) 0 0) := h5
          have hqr : (q : Int) + (r : Int) < (N : Int) := by omega
          have hqr0 : 0 ≤ (q : Int) + (r : Int) := by omega
          clear h5 HJ
          go_wp2
          go_roundw
          case rel => exact ⟨q + 1, by omega, by go_num, H5, hbel2.setCell (Nat.le_refl _) _⟩
          case measure => simp [intOf]; omega
    · have e : q = n := by omega
      subst e
      go_wp2_with fail
      refine (HT.out _ HI.out).mono ?_
      rintro e w2 ⟨u, rfl, hu, rfl⟩
      have HU : Hid (NIsF w2 w.heap.size u (lv X * lv Y)) := hu
      clear hu
      go_wp2
      go_ret
      exact ⟨u, rfl, HU.out, hbel⟩
end Go.Proofs.Ytmjkpjmccdjkjap
