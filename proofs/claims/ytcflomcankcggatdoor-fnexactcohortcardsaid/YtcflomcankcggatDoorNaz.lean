/-
  Naturals of the program: what is a natural, texts into two naturals, and what the functions on texts answer; walked.
-/
import Derived.Test.YtcflomcankcggatDoorNas
import Derived.Deep.LoopGhost
import Derived.Test.YtcflomcankcggatDoorNatS
import Derived.Test.YtcflomcankcggatDoorNtL
namespace Go.Proofs.YtcflomcankcggatDoor
open Go.RowKit
set_option linter.unusedVariables false
set_option maxRecDepth 100000
theorem rev_take (ds : List Int) (k : Nat) (hk : k < ds.length) : ds.reverse.take (k + 1) = ds.reverse.take k ++ [ds.getD (ds.length - 1 - k) 0] := by
  rw [List.take_succ_eq_append_getElem (by simpa using hk)]
  congr 2
  rw [List.getElem_reverse]
  simp [List.getD, show ds.length - 1 - k < ds.length by omega]
set_option maxHeartbeats 2000000 in
theorem nOf_any (ds : List Int) (w : World) (hd : Dec ds) (hl : ds.length ≤ 1000) :
    Calls Tryd.prog 48 #[.string (tx ds)] w fun e w' => ∃ u, e = .returned u ∧ NIsF w' w.heap.size u (vl ds) ∧ Below w.heap.size w w' := by
  obtain ⟨n, hn⟩ : ∃ n, ds.length = n := ⟨_, rfl⟩
  have hz : (tx ds).size = n := by rw [tx_size, hn]
  obtain ⟨w1, hrun, hown, hb1⟩ := nMake w n (by omega)
  have HO : Hid (NRow w1 w.heap.size w.heap.size n (List.replicate n 0)) := hown
  have HB : Hid (∀ k (hk : k < (tx ds).size), (((tx ds)[k]'hk).toNat : Int) = 48 + ds.getD k 0 ∧ 0 ≤ ds.getD k 0 ∧ ds.getD k 0 ≤ 9) := fun k hk => ⟨tx_at ds hd k hk, dec_at ds hd k⟩
  have HS : Hid (∀ k, k < n → ds.reverse.take (k + 1) = ds.reverse.take k ++ [ds.getD (n - 1 - k) 0]) := fun k hk => by
    rw [← hn] at hk ⊢; exact rev_take ds k hk
  have HL : Hid (∀ k, k ≤ n → (ds.reverse.take k).length = k) := fun k hk => by simp; omega
  have HT : Hid (∀ v W, NRd W v (ds.reverse.take n) → NAt w.heap.size v → Calls Tryd.prog 61 #[v] W fun e w' => ∃ u, e = .returned u ∧ NIsF W w.heap.size u (vl ds) ∧ w' = W) := fun v W hv ha => by
    rw [List.take_of_length_le (by simp; omega)] at hv
    exact nTrim_any v ds.reverse W w.heap.size hv ha (dec_rev ds hd) (by simp; omega)
  have hn1 : n ≤ 1000 := by omega
  generalize tx ds = S at *
  have hrun' : (Instr.makeSlice 74 (.int .i64 (S.size : Int)) (.int .i64 (S.size : Int))).run Tryd.prog w = .ok (.slice (some ⟨w.heap.size, 0, none⟩) n n) w1 := by rw [hz]; exact hrun
  have HZ : Hid (S.size = n) := hz
  have hz1 : S.size ≤ 1000 := by omega
  clear hown hd hrun hz hl hn
  go_enter Tryd.func48, Tryd.ntmps48
  go_wp2
  go_loopw [10] (fun i wr => ∃ k : Nat, k ≤ n ∧ i = .int .i64 (k : Int) ∧ Hid (NRow wr w.heap.size w.heap.size n (ds.reverse.take k ++ List.replicate (n - k) 0)) ∧ Below w.heap.size w wr) (fun i _ => n - (intOf i).toNat)
  case atStart => exact ⟨0, Nat.zero_le _, rfl, HO, hb1⟩
  case round =>
    obtain ⟨k, hk, rfl, HR, hbel⟩ := hrel
    clear hrun' HO hb1
    by_cases hlt : k < n
    · have hz := HZ.out
      have hlt' : (k : Int) < (S.size : Int) := by omega
      have hlt2 : (k : Int) < (n : Int) := by omega
      obtain ⟨p, hp⟩ : ∃ p, n - 1 - k = p := ⟨_, rfl⟩
      have ep : (S.size : Int) - 1 - (k : Int) = (p : Int) := by omega
      have hp1 : p < S.size := by omega
      have hp2 : (p : Int) < (S.size : Int) := by omega
      obtain ⟨hb, d0, d9⟩ := HB.out p hp1
      have hw : IntKind.u8.wrap (((S[p]'hp1).toNat : Int) - 48) = ds.getD p 0 := by
        rw [hb, show 48 + ds.getD p 0 - 48 = ds.getD p 0 by omega, IntKind.wrap_u8]; omega
      have hcell := HR.out.cell k hlt
      have hf := HR.out.frozen k
      have HN : Hid (NRow (wr.setCell ⟨w.heap.size, k, none⟩ (.int .u8 (ds.getD p 0))) w.heap.size w.heap.size n (ds.reverse.take (k + 1) ++ List.replicate (n - (k + 1)) 0)) := by
        have := HR.out.set k (ds.getD p 0)
        rw [fill_set _ n k _ (HL.out k hk) hlt, ← hp, ← HS.out k hlt] at this
        rw [hp] at this
        exact this
      clear hb hz hp
      generalize (ds.reverse.take k ++ List.replicate (n - k) 0).getD k 0 = o at *
      generalize ds.getD p 0 = d at *
      go_wp2
      go_roundw
      case rel => exact ⟨k + 1, by omega, by go_num, HN, hbel.setCell (Nat.le_refl _) _⟩
      case measure => simp [intOf]; omega
    · have e : k = n := by omega
      subst e
      have hz := HZ.out
      have hlt' : ¬ (k : Int) < (S.size : Int) := by omega
      have HT' : Hid (Calls Tryd.prog 61 #[.slice (some ⟨w.heap.size, 0, none⟩) k k] wr fun e w' => ∃ u, e = .returned u ∧ NIsF wr w.heap.size u (vl ds) ∧ w' = wr) := by
        have := HR.out
        rw [Nat.sub_self, List.replicate_zero, List.append_nil] at this
        exact HT.out _ _ this.rd ⟨_, _, _, rfl, Nat.le_refl _⟩
      clear hz
      go_wp2_with fail
      refine HT'.out.mono ?_
      rintro e w2 ⟨u, rfl, hu, rfl⟩
      have HU : Hid (NIsF w2 w.heap.size u (vl ds)) := hu
      clear hu
      go_wp2
      go_ret
      exact ⟨u, rfl, HU.out, hbel⟩
theorem ninfoB (w : World) (n : Nat) (hn : n ≤ 100000) : ∃ w1, (Instr.makeSlice 49 (.int .i64 (n : Int)) (.int .i64 (n : Int))).run Tryd.prog w = .ok (.slice (some ⟨w.heap.size, 0, none⟩) n n) w1 ∧ NRow w1 w.heap.size w.heap.size n (List.replicate n 0) ∧ Below w.heap.size w w1 := by
  obtain ⟨i0, hi, hz0, hz1, hz2⟩ := info_parts ninfo8
  obtain ⟨w1, hrun, hown, hgrow⟩ := run_make_full (P := Tryd.prog) w w.heap.size 49 5 i0 (.int .u8 0) 1 Tryd.underlying49 hi hz0 hz1 .i64 .i64 n (by rw [hz2]; omega) (by unfold maxLen; omega) (Nat.le_refl _)
  refine ⟨w1, hrun, ?_, Below.grown (Below.refl _ _) hgrow (Nat.le_refl _) (fun k hk => by cases hk)⟩
  rw [show (Value.int .u8 0).cells = #[Value.int .u8 0] from rfl, toList_madeCells_one, Nat.mul_one] at hown
  unfold NRow
  simpa using hown
theorem ntext_of (w : World) (base g n : Nat) (L : List Int) (h : NRow w base g n ((L.reverse).map (48 + ·))) (hl : L.length = n) :
    (convert 49 9 (.slice (some ⟨g, 0, none⟩) n n)).run Tryd.prog w = .ok (.string (tx L.reverse)) w := by
  have := run_convert_bytes_arg (P := Tryd.prog) w 49 5 Tryd.underlying49 Tryd.underlying5 g 0 n n (L.reverse.map (48 + ·)) (by simp [hl]) (fun i hi => by
      rw [Nat.zero_add]
      exact h.cell i hi)
  exact this 9 Tryd.underlying9
theorem text_take (L : List Int) (k : Nat) (hk : k < L.length) : ((L.take (k + 1)).reverse).map (48 + ·) = (48 + L.getD k 0) :: ((L.take k).reverse).map (48 + ·) := by
  rw [List.take_succ_eq_append_getElem hk, List.reverse_append, List.map_append]
  simp only [List.reverse_cons, List.reverse_nil, List.nil_append, List.map_cons, List.map_nil, List.getD, List.getElem?_eq_getElem hk, Option.getD_some, List.cons_append]
set_option maxHeartbeats 2000000 in
theorem nText_any (x : Value) (a : Int) (w : World) (hx : NIs w x a) (fa : NFit a 500) :
    Calls Tryd.prog 50 #[x] w fun e w' => e = .returned (.string (fitS (nt a))) ∧ Below w.heap.size w w' := by
  obtain ⟨X, ⟨g, cap, rfl, hcp, hgl, hcx⟩, cX, rfl⟩ := hx
  have lX := ncan_len X 500 cX fa
  by_cases h0 : X = []
  · subst h0
    have E : Hid (fitS (nt (lv [])) = { data := #[48] }) := by
      show fitS (nt 0) = _
      rw [nt_nought]; rfl
    rw [E.out]
    clear hcx cX fa
    go_enter Tryd.func50, Tryd.ntmps50
    go_wp2
    go_ret
    exact ⟨rfl, Below.refl _ _⟩
  · have hp : 0 < X.length := List.length_pos_iff.2 h0
    have hp' : ((X.length : Int) == 0) = false := beq_eq_false_iff_ne.2 (by omega)
    have en := ncan_nt X cX h0 lX
    have eln : (nt (lv X)).length = X.length := by rw [← en, List.length_reverse]
    by_cases hlong : X.length ≤ 200
    · have E : Hid (fitS (nt (lv X)) = tx X.reverse) := by show fitS (nt (lv X)) = _; unfold fitS; rw [eln, if_pos hlong, ← en]
      rw [E.out]
      obtain ⟨n, hn⟩ : ∃ n, X.length = n := ⟨_, rfl⟩
      obtain ⟨w1, hrun, hown, hb1⟩ := ninfoB w n (by omega)
      have HO : Hid (NRow w1 w.heap.size w.heap.size n (List.replicate n 0 ++ ((X.take 0).reverse).map (48 + ·))) := by
        show NRow _ _ _ _ _
        rw [List.take_zero]; simpa using hown
      have HC : Hid (∀ i, i < n → w.cell? ⟨g, i, none⟩ = some (.int .u8 (X.getD i 0))) := by rw [hn] at hcx; exact hcx
      have HB : Hid (∀ i, 0 ≤ X.getD i 0 ∧ X.getD i 0 ≤ 9) := fun i => dec_at X cX.1 i
      have HS : Hid (∀ k, k < n → (List.replicate (n - k) 0 ++ ((X.take k).reverse).map (48 + ·)).set (n - 1 - k) (48 + X.getD k 0) = List.replicate (n - (k + 1)) 0 ++ ((X.take (k + 1)).reverse).map (48 + ·)) := fun k hk => by
        rw [fill_set_back _ n k _ (by simp; omega) hk, text_take X k (by omega)]
      have HT : Hid (∀ W, NRow W w.heap.size w.heap.size n (List.replicate (n - n) 0 ++ ((X.take n).reverse).map (48 + ·)) → (convert 49 9 (.slice (some ⟨w.heap.size, 0, none⟩) n n)).run Tryd.prog W = .ok (.string (tx X.reverse)) W) := fun W hW => by
        rw [Nat.sub_self, List.replicate_zero, List.nil_append, List.take_of_length_le (by omega)] at hW
        exact ntext_of W w.heap.size w.heap.size n X hW hn
      rw [hn] at hp hp' hlong hcp ⊢
      have hlong' : ¬ (200 : Int) < (n : Int) := by omega
      generalize tx X.reverse = T at *
      clear hcx cX fa en eln E lX hown h0
      go_enter Tryd.func50, Tryd.ntmps50
      go_wp2
      go_loopw [18] (fun i wr => ∃ k : Nat, k ≤ n ∧ i = .int .i64 (k : Int) ∧ Hid (NRow wr w.heap.size w.heap.size n (List.replicate (n - k) 0 ++ ((X.take k).reverse).map (48 + ·))) ∧ Below w.heap.size w wr) (fun i _ => n - (intOf i).toNat)
      case atStart => exact ⟨0, Nat.zero_le _, rfl, HO, hb1⟩
      case round =>
        obtain ⟨k, hk, rfl, HR, hbel⟩ := hrel
        clear hrun HO hb1
        by_cases hlt : k < n
        · have hlt' : (k : Int) < (n : Int) := by omega
          obtain ⟨p, hp⟩ : ∃ p, n - 1 - k = p := ⟨_, rfl⟩
          have ep : (n : Int) - 1 - (k : Int) = (p : Int) := by omega
          have hpn : p < n := by omega
          have hpn' : (p : Int) < (n : Int) := by omega
          have hcx := (hbel.cell (p := ⟨g, k, none⟩) hgl).trans (HC.out k hlt)
          have hb := HB.out k
          have hcell := HR.out.cell p hpn
          have hf := HR.out.frozen p
          have HN : Hid (NRow (wr.setCell ⟨w.heap.size, p, none⟩ (.int .u8 (48 + X.getD k 0))) w.heap.size w.heap.size n (List.replicate (n - (k + 1)) 0 ++ ((X.take (k + 1)).reverse).map (48 + ·))) := by
            have := HR.out.set p (48 + X.getD k 0)
            rw [← hp, HS.out k hlt] at this
            rw [hp] at this
            exact this
          clear hp
          generalize (List.replicate (n - k) 0 ++ ((X.take k).reverse).map (48 + ·)).getD p 0 = o at *
          generalize X.getD k 0 = d at *
          go_wp2
          go_roundw
          case rel => exact ⟨k + 1, by omega, by go_num, HN, hbel.setCell (Nat.le_refl _) _⟩
          case measure => simp [intOf]; omega
        · have e : k = n := by omega
          subst e
          have hcv := HT.out wr HR.out
          clear HT
          go_wp2
          go_ret
          exact ⟨rfl, hbel⟩
    · have E : Hid (fitS (nt (lv X)) = { data := #[] }) := by show fitS (nt (lv X)) = _; unfold fitS; rw [eln, if_neg hlong]
      rw [E.out]
      have hlong' : (200 : Int) < (X.length : Int) := by omega
      clear hcx cX fa en eln E
      generalize X.length = n at *
      go_enter Tryd.func50, Tryd.ntmps50
      go_wp2
      go_ret
      exact ⟨rfl, Below.refl _ _⟩
end Go.Proofs.YtcflomcankcggatDoor
namespace Go.Proofs.YtcflomcankcggatDoor
open Go.RowKit
set_option linter.unusedVariables false
set_option maxRecDepth 100000
theorem times_in (P : List Int) (i j : Nat) (A xi yj c s V : Int) (hk : i + j < P.length) (h : lv P + 10 ^ (i + j) * c = A + 10 ^ i * xi * V) (hs : s = P.getD (i + j) 0 + xi * yj + c) :
    lv (P.set (i + j) (s % 10)) + 10 ^ (i + (j + 1)) * (s / 10) = A + 10 ^ i * xi * (V + yj * 10 ^ j) := by
  rw [nl_set P (i + j) _ hk, show i + (j + 1) = i + j + 1 by omega, Int.pow_succ]
  have hr : s = s % 10 + 10 * (s / 10) := by omega
  rw [Int.pow_add] at h ⊢
  generalize s % 10 = r at *
  generalize s / 10 = u at *
  generalize (10 : Int) ^ i = p at *
  generalize (10 : Int) ^ j = q at *
  generalize P.getD (i + j) 0 = K at *
  grind
theorem times_out (P X Y : List Int) (i : Nat) (c : Int) (hi : i < X.length) (hk : i + Y.length < P.length) (hz : P.getD (i + Y.length) 0 = 0) (h : lv P + 10 ^ (i + Y.length) * c = lv (X.take i) * lv Y + 10 ^ i * X.getD i 0 * pv (fun i => Y.getD i 0) Y.length) :
    lv (P.set (i + Y.length) c) = lv (X.take (i + 1)) * lv Y := by
  rw [nl_set P _ _ hk, hz, lv_take1 X i hi]
  rw [pv_all Y Y.length (Nat.le_refl _)] at h
  generalize (10 : Int) ^ (i + Y.length) = p at *
  grind
theorem getD_set_ne (P : List Int) (k q : Nat) (d : Int) (h : k ≠ q) : (P.set k d).getD q 0 = P.getD q 0 := by
  simp [List.getD, List.getElem?_set_ne h]
theorem replicate_at (n q : Nat) : (List.replicate n (0 : Int)).getD q 0 = 0 := by
  simp only [List.getD, List.getElem?_replicate]
  split <;> rfl
/-- What holds behind i rows and j columns of the next one. -/
def TI (w wr : World) (N : Nat) (X Y : List Int) (i j : Nat) (c : Int) : Prop :=
  ∃ P, NRow wr w.heap.size w.heap.size N P ∧ Dec P ∧ (∀ q, i + Y.length ≤ q → P.getD q 0 = 0) ∧ lv P + 10 ^ (i + j) * c = lv (X.take i) * lv Y + 10 ^ i * X.getD i 0 * pv (fun i => Y.getD i 0) j
theorem TI.first {w wr : World} {N : Nat} {X Y : List Int} {i : Nat} {P : List Int} (hR : NRow wr w.heap.size w.heap.size N P) (hD : Dec P) (hz : ∀ q, i + Y.length ≤ q → P.getD q 0 = 0) (hv : lv P = lv (X.take i) * lv Y) : TI w wr N X Y i 0 0 :=
  ⟨P, hR, hD, hz, by rw [hv]; simp [pv]⟩
theorem lv_sum_bd (xi yj k c : Int) (a0 : 0 ≤ xi) (a9 : xi ≤ 9) (b0 : 0 ≤ yj) (b9 : yj ≤ 9) : 0 ≤ xi * yj ∧ xi * yj ≤ 81 := by
  refine ⟨Int.mul_nonneg a0 b0, ?_⟩
  exact Int.le_trans (Int.mul_le_mul a9 b9 b0 (by decide)) (by decide)
end Go.Proofs.YtcflomcankcggatDoor
namespace Go.Proofs.YtcflomcankcggatDoor
open Go.RowKit
set_option linter.unusedVariables false
set_option maxRecDepth 100000
theorem NFit.le {a b : Int} {k : Nat} (h : NFit b k) (hl : a ≤ b) : NFit a k := by unfold NFit at *; omega
theorem NFit.mono {a : Int} {k m : Nat} (h : NFit a k) (hl : k ≤ m) : NFit a m := by unfold NFit at *; have := pow_mono k m hl; omega
theorem NFit.ten {a b : Int} {k : Nat} (h : NFit b k) (hl : a < 10 * b) : NFit a (k + 1) := by unfold NFit at *; rw [Int.pow_succ]; omega
theorem nis_none (w : World) : NIsF (w.alloc (.cells #[] 5)) w.heap.size (.slice (some ⟨w.heap.size, 0, none⟩) 0 0) 0 :=
  ⟨⟨[], ⟨w.heap.size, 0, rfl, Nat.le_refl _, by simp, fun i hi => by cases hi⟩, ⟨(fun d hd => by cases hd), .inl rfl⟩, rfl⟩, _, _, _, rfl, Nat.le_refl _⟩
theorem NIs.nn {w : World} {v : Value} {n : Int} (h : NIs w v n) : 0 ≤ n := by
  obtain ⟨L, -, hc, rfl⟩ := h
  exact (lv_bd L hc.1).1
/-- What holds ahead of a place: p digits are still to come, R is left. -/
def NvO (w wr : World) (N : Nat) (X : List Int) (b : Int) (p : Nat) (R : Int) : Prop :=
  ∃ Q, NRow wr w.heap.size w.heap.size N Q ∧ Dec Q ∧ (∀ t, t < p → Q.getD t 0 = 0) ∧ b * lv Q + 10 ^ p * R + lv (X.take p) = lv X
/-- What holds at a place. -/
def NvN (w wr : World) (N : Nat) (X : List Int) (b : Int) (p : Nat) (S R : Int) : Prop :=
  ∃ Q, NRow wr w.heap.size w.heap.size N Q ∧ Dec Q ∧ (∀ t, t < p → Q.getD t 0 = 0) ∧ b * lv Q + 10 ^ p * R + lv (X.take p) = lv X ∧ Q.getD p 0 * b + R = S
theorem NvO.below {w wr w' : World} {N : Nat} {X : List Int} {b : Int} {p : Nat} {R : Int} (h : NvO w wr N X b p R) (hb : Below wr.heap.size wr w') : NvO w w' N X b p R := by
  obtain ⟨Q, hR, r⟩ := h
  exact ⟨Q, hR.below hb (Nat.le_refl _), r⟩
theorem NvN.below {w wr w' : World} {N : Nat} {X : List Int} {b : Int} {p : Nat} {S R : Int} (h : NvN w wr N X b p S R) (hb : Below wr.heap.size wr w') : NvN w w' N X b p S R := by
  obtain ⟨Q, hR, r⟩ := h
  exact ⟨Q, hR.below hb (Nat.le_refl _), r⟩
theorem NvO.start {w wr : World} {N : Nat} {X : List Int} {b : Int} (h : NRow wr w.heap.size w.heap.size N (List.replicate N 0)) (hX : X.length = N) : NvO w wr N X b N 0 :=
  ⟨_, h, dec_noughts N, fun t _ => replicate_at N t, by rw [lv_noughts, List.take_of_length_le (by omega)]; simp⟩
theorem NvO.into {w wr : World} {N : Nat} {X : List Int} {b : Int} {p : Nat} {R : Int} (h : NvO w wr N X b (p + 1) R) (hp : p < X.length) : NvN w wr N X b p (10 * R + X.getD p 0) (10 * R + X.getD p 0) := by
  obtain ⟨Q, hR, hD, hz, hv⟩ := h
  refine ⟨Q, hR, hD, fun t ht => hz t (by omega), ?_, by rw [hz p (by omega)]; omega⟩
  rw [lv_take1 X p hp, Int.pow_succ] at hv
  rw [← hv]
  generalize (10 : Int) ^ p = e
  grind
theorem NvN.out {w wr : World} {N : Nat} {X : List Int} {b : Int} {p : Nat} {S R : Int} (h : NvN w wr N X b p S R) : NvO w wr N X b p R := by
  obtain ⟨Q, hR, hD, hz, hv, -⟩ := h
  exact ⟨Q, hR, hD, hz, hv⟩
theorem NvN.low {b S R q : Int} (hS : S < 10 * b) (hb : 0 < b) (hge : b ≤ R) (h : q * b + R = S) : q ≤ 8 := by
  rcases Int.lt_or_le 8 q with c | c
  · exfalso
    have : 9 * b ≤ q * b := Int.mul_le_mul_of_nonneg_right (by omega) (by omega)
    omega
  · exact c
theorem NvN.step {w wr : World} {N : Nat} {X : List Int} {b : Int} {p : Nat} {S R : Int} (h : NvN w wr N X b p S R) (hp : p < N) (hS : S < 10 * b) (hb : 0 < b) (hge : b ≤ R) :
    ∃ q, wr.cell? ⟨w.heap.size, p, none⟩ = some (.int .u8 q) ∧ 0 ≤ q ∧ q ≤ 8 ∧ wr.frozen? ⟨w.heap.size, p, none⟩ = false ∧ NvN w (wr.setCell ⟨w.heap.size, p, none⟩ (.int .u8 (q + 1))) N X b p S (R - b) := by
  obtain ⟨Q, hR, hD, hz, hv, hs⟩ := h
  have hlen := hR.len
  have h8 := NvN.low hS hb hge hs
  have hd := dec_at Q hD p
  refine ⟨Q.getD p 0, hR.cell p hp, hd.1, h8, hR.frozen p, Q.set p (Q.getD p 0 + 1), hR.set p _, nd_set Q p _ hD (by omega) (by omega), fun t ht => ?_, ?_, ?_⟩
  · rw [getD_set_ne _ _ _ _ (by omega)]; exact hz t ht
  · rw [nl_set Q p _ (by omega), ← hv]
    generalize (10 : Int) ^ p = e
    grind
  · have e : (Q.set p (Q.getD p 0 + 1)).getD p 0 = Q.getD p 0 + 1 := by
      simp [List.getD, show p < Q.length by omega]
    rw [e, ← hs]
    grind
theorem NvO.fin {w wr : World} {N : Nat} {X : List Int} {b : Int} {R : Int} (h : NvO w wr N X b 0 R) (hb : 0 < b) (r0 : 0 ≤ R) (r1 : R < b) : ∃ Q, NRow wr w.heap.size w.heap.size N Q ∧ Dec Q ∧ lv Q = lv X / b ∧ R = lv X % b := by
  obtain ⟨Q, hR, hD, -, hv⟩ := h
  rw [Int.pow_zero, List.take_zero, Int.one_mul, show lv [] = 0 from rfl, Int.add_zero] at hv
  refine ⟨Q, hR, hD, ?_, ?_⟩
  · rw [← hv, Int.mul_add_ediv_left _ _ (by omega), Int.ediv_eq_zero_of_lt r0 r1]; omega
  · rw [← hv, Int.mul_add_emod_self_left, Int.emod_eq_of_lt r0 r1]
end Go.Proofs.YtcflomcankcggatDoor
namespace Go.Proofs.YtcflomcankcggatDoor
open Go.RowKit
set_option linter.unusedVariables false
set_option maxRecDepth 100000
theorem lv_takeN (L : List Int) (p : Nat) : lv (L.take (p + 1)) = lv (L.take p) + 10 ^ p * L.getD p 0 := by
  rcases Nat.lt_or_ge p L.length with c | c
  · exact lv_take1 L p c
  · rw [List.take_of_length_le (by omega), List.take_of_length_le c]
    simp [List.getD, List.getElem?_eq_none c]
theorem NFit.big {R z : Int} {k : Nat} (h : NFit R k) (hz : z ≤ 1000 * (R + 1)) : NFit z (k + 4) := by
  unfold NFit at *
  have p0 : (0 : Int) < 10 ^ k := Int.pow_pos (by decide)
  rw [show (10 : Int) ^ (k + 4) = 10 ^ k * 10000 by rw [Int.pow_add]; rfl]
  omega
/-- What holds where t pairs are still to come. -/
def RI (X : List Int) (t : Nat) (S R : Int) : Prop := 0 ≤ S ∧ 0 ≤ R ∧ R ≤ 2 * S ∧ 10 ^ (2 * t) * (S * S + R) + lv (X.take (2 * t)) = lv X
theorem RI.start (X : List Int) (t : Nat) (h : X.length ≤ 2 * t) : RI X t 0 0 := ⟨by decide, by decide, by decide, by rw [List.take_of_length_le h]; simp⟩
theorem RI.small {X : List Int} {t : Nat} {S R : Int} (h : RI X t S R) (hX : Dec X) (k : Nat) (hf : NFit (lv X) k) : NFit S k ∧ NFit R k := by
  obtain ⟨h0, h1, h2, h3⟩ := h
  have p0 : (0 : Int) < 10 ^ (2 * t) := Int.pow_pos (by decide)
  have t0 := (lv_bd (X.take (2 * t)) (dec_take X _ hX)).1
  have q0 : 0 ≤ S * S := Int.mul_nonneg h0 h0
  have m : 1 * (S * S + R) ≤ 10 ^ (2 * t) * (S * S + R) := Int.mul_le_mul_of_nonneg_right (by omega) (by omega)
  have s : S ≤ S * S := by
    rcases Int.lt_or_le 0 S with c | c
    · have : S * 1 ≤ S * S := Int.mul_le_mul_of_nonneg_left (by omega) h0
      omega
    · omega
  unfold NFit at *
  exact ⟨by omega, by omega⟩
theorem RI.next {X : List Int} {t : Nat} {S R T d : Int} (h : RI X (t + 1) S R) (t0 : 0 ≤ T) (d0 : 0 ≤ d) (hT : T + (20 * S + d) * d = 100 * R + 10 * X.getD (2 * t + 1) 0 + X.getD (2 * t) 0) (hlt : T < 20 * S + 2 * d + 1) : RI X t (10 * S + d) T := by
  obtain ⟨h0, h1, h2, h3⟩ := h
  refine ⟨by omega, t0, by omega, ?_⟩
  rw [show 2 * (t + 1) = 2 * t + 1 + 1 by omega, lv_takeN, lv_takeN, Int.pow_succ, Int.pow_succ] at h3
  rw [← h3]
  generalize (10 : Int) ^ (2 * t) = e at *
  generalize X.getD (2 * t + 1) 0 = x1 at *
  generalize X.getD (2 * t) 0 = x0 at *
  grind
theorem RI.digit {S R T d x1 x0 : Int} (r2 : R ≤ 2 * S) (s0 : 0 ≤ S) (a : x1 ≤ 9) (b : x0 ≤ 9) (d0 : 0 ≤ d) (d9 : d ≤ 9) (hT : T + (20 * S + d) * d = 100 * R + 10 * x1 + x0) (hge : 20 * S + 2 * d + 1 ≤ T) : d ≤ 8 := by
  rcases Int.lt_or_le 8 d with c | c
  · exfalso
    have e : d = 9 := by omega
    subst e
    omega
  · exact c
theorem nis_one (w : World) (d : Int) (h : 1 ≤ d) (h9 : d ≤ 9) : NIs (w.alloc (.cells #[.int .u8 d] 5)) (.slice (some ⟨w.heap.size, 0, none⟩) 1 1) d := by
  refine ⟨[d], ⟨w.heap.size, 1, rfl, Nat.le_refl _, by simp, fun i hi => ?_⟩, ⟨(fun x hx => by simp at hx; omega), .inr (by simp; omega)⟩, by simp [lv]⟩
  have e : i = 0 := by simp at hi; exact hi
  subst e
  simp
end Go.Proofs.YtcflomcankcggatDoor
namespace Go.Proofs.YtcflomcankcggatDoor
open Go.RowKit
set_option linter.unusedVariables false
set_option maxRecDepth 100000
set_option maxHeartbeats 4000000 in
theorem iNat_any (s : ByteArray) (n : Int) (w : World) (hs : s.size ≤ 4611686018427387904) :
    Calls Tryd.prog 40 #[.string s, .int .i64 n] w fun e w' => e = .returned (.bool (natB n s)) ∧ w' = w := by
  by_cases hA : s.size < 1
  · have E : Hid (natB n s = false) := natB_empty n s hA
    have h1 : (s.size : Int) = 0 := by omega
    clear hA
    go_enter Tryd.func40, Tryd.ntmps40
    go_wp2
    go_ret
    exact ⟨Ln.ret_bool E.out.symm, rfl⟩
  have h1 : ((s.size : Int) == 0) = false := beq_eq_false_iff_ne.2 (by omega)
  have h0 : 0 < s.size := by omega
  by_cases hB : n < (s.size : Int)
  · have E : Hid (natB n s = false) := natB_long n s hB
    go_enter Tryd.func40, Tryd.ntmps40
    go_wp2
    go_ret
    exact ⟨Ln.ret_bool E.out.symm, rfl⟩
  have h2' : decide (n < (s.size : Int)) = false := by simpa using hB
  have HG : Hid ((∀ k (hk : k < s.size), 48 ≤ (s[k]'hk).toNat ∧ (s[k]'hk).toNat ≤ 57) → (s.size ≤ 1 ∨ (s[0]'h0).toNat ≠ 48) → natB n s = true) := fun h hc => natB_good n s h0 (by omega) hc h
  have HZ : Hid (1 < s.size → (s[0]'h0).toNat = 48 → natB n s = false) := fun h hz => natB_zero n s h hz
  have HB : Hid (∀ k (hk : k < s.size), ((s[k]'hk).toNat < 48 ∨ 57 < (s[k]'hk).toNat) → natB n s = false) := fun k hk h => natB_bad n s k hk h
  clear hA hB
  generalize natB n s = r at *
  go_enter Tryd.func40, Tryd.ntmps40
  go_wp2
  go_loop [17] (fun i => ∃ k : Nat, k ≤ s.size ∧ i = .int .i64 k ∧ Hid (∀ q (hq : q < s.size), q < k → 48 ≤ (s[q]'hq).toNat ∧ (s[q]'hq).toNat ≤ 57)) (fun i => s.size - (intOf i).toNat)
  case atStart => exact ⟨0, Nat.zero_le _, rfl, fun q hq h => absurd h (Nat.not_lt_zero q)⟩
  case round =>
    obtain ⟨k, hk, rfl, hz⟩ := hrel
    by_cases hlt : k < s.size
    · have hlt' : (k : Int) < (s.size : Int) := by omega
      by_cases hlo : (s[k]'hlt).toNat < 48
      · have hl' : ((s[k]'hlt).toNat : Int) < 48 := by omega
        go_wp2
        go_ret
        exact ⟨Ln.ret_bool (HB.out k hlt (.inl hlo)).symm, rfl⟩
      · have hl' : ¬ ((s[k]'hlt).toNat : Int) < 48 := by omega
        have hl'' : decide (((s[k]'hlt).toNat : Int) < 48) = false := decide_eq_false hl'
        by_cases hhi : 57 < (s[k]'hlt).toNat
        · have hh' : (57 : Int) < ((s[k]'hlt).toNat : Int) := by omega
          go_wp2
          go_ret
          exact ⟨Ln.ret_bool (HB.out k hlt (.inr hhi)).symm, rfl⟩
        · have hh' : ¬ (57 : Int) < ((s[k]'hlt).toNat : Int) := by omega
          go_wp2
          go_round
          case rel => exact ⟨k + 1, by omega, by go_num, fun q hq h => by rcases Nat.lt_or_ge q k with c | c; exact hz.out q hq c; obtain rfl : q = k := (by omega); omega⟩
          case measure => simp [intOf]; omega
    · have hkk : ¬ (k : Int) < (s.size : Int) := by omega
      have HA : Hid (∀ q (hq : q < s.size), 48 ≤ (s[q]'hq).toNat ∧ (s[q]'hq).toNat ≤ 57) := fun q hq => hz.out q hq (by omega)
      clear hz
      by_cases h3 : s.size ≤ 1
      · have h3' : (s.size : Int) = 1 := by omega
        have E : Hid (r = true) := HG.out HA.out (.inl h3)
        clear h3
        go_wp2
        go_ret
        exact ⟨Ln.ret_bool E.out.symm, rfl⟩
      · have h3' : ((s.size : Int) == 1) = false := beq_eq_false_iff_ne.2 (by omega)
        by_cases h4 : (s[0]'h0).toNat = 48
        · have h4' : ((s[0]'h0).toNat : Int) = 48 := by omega
          have E : Hid (r = false) := HZ.out (by omega) h4
          clear h4
          go_wp2
          go_ret
          exact ⟨Ln.ret_bool E.out.symm, rfl⟩
        · have h4' : (((s[0]'h0).toNat : Int) == 48) = false := beq_eq_false_iff_ne.2 (by omega)
          have E : Hid (r = true) := HG.out HA.out (.inr h4)
          have h4'' : Hid ((((s[0]'h0).toNat : Int) != 48) = true) := by show _ = _; rw [bne, h4']; rfl
          go_wp2
          go_ret
          exact ⟨Ln.ret_bool (by rw [h4''.out, E.out]), rfl⟩
theorem iNatOk_any (s : ByteArray) (w : World) (hs : s.size ≤ 4611686018427387904) :
    Calls Tryd.prog 47 #[.string s] w fun e w' => e = .returned (.bool (natB 200 s)) ∧ w' = w := by
  go_enter Tryd.func47, Tryd.ntmps47
  go_wp2_with fail
  refine (iNat_any s 200 _ hs).mono ?_
  rintro e w' ⟨rfl, rfl⟩
  go_wp2
  go_ret
  exact ⟨rfl, rfl⟩
theorem nv_fit (s : ByteArray) (h : natB 200 s = true) : NFit (nv s) 200 := (nv_bd 200 s h).2
theorem nt_len (n : Int) (k : Nat) (h0 : 0 ≤ n) (hf : NFit n k) (hk : 1 ≤ k) (hk5 : k ≤ 500) : (nt n).length ≤ k := by
  have hf5 : NFit n 500 := by unfold NFit at *; have := pow_mono k 500 hk5; omega
  obtain ⟨hc, hv⟩ := nt_spec n h0 hf5
  rcases Nat.lt_or_ge k (nt n).length with c | c
  · exfalso
    have l := canon_low (nt n) hc (by omega)
    have m := pow_mono k ((nt n).length - 1) (by omega)
    unfold NFit at hf
    omega
  · exact c
theorem fit_nt (n : Int) (h0 : 0 ≤ n) (hf : NFit n 200) : fitS (nt n) = tx (nt n) := by
  unfold fitS; rw [if_pos (nt_len n 200 h0 hf (by decide) (by decide))]
theorem nOf_text (s : ByteArray) (w : World) (h : natB 200 s = true) :
    Calls Tryd.prog 48 #[.string s] w fun e w' => ∃ u, e = .returned u ∧ NIsF w' w.heap.size u (nv s) ∧ Below w.heap.size w w' := by
  obtain ⟨hc, hl, e⟩ := natB_dl 200 s h
  have := nOf_any (dl s) w hc.1 (by omega)
  rw [← e] at this
  exact this
theorem fit_add (a b : Int) (ha : NFit a 200) (hb : NFit b 200) : NFit (a + b) 500 := by
  unfold NFit at *
  have h1 := pow_mono 201 500 (by decide)
  have h2 : (10 : Int) ^ 201 = 10 ^ 200 * 10 := Int.pow_succ 10 200
  have p0 : (0 : Int) < 10 ^ 200 := Int.pow_pos (by decide)
  generalize (10 : Int) ^ 200 = e at *
  generalize (10 : Int) ^ 201 = f at *
  generalize (10 : Int) ^ 500 = g at *
  omega
theorem fit_mul (a b : Int) (ha : NFit a 200) (hb : NFit b 200) (a0 : 0 ≤ a) (b0 : 0 ≤ b) : NFit (a * b) 500 := by
  unfold NFit at *
  have h1 := pow_mono 400 500 (by decide)
  have h2 : (10 : Int) ^ 400 = 10 ^ 200 * 10 ^ 200 := Int.pow_add 10 200 200
  have p0 : (0 : Int) < 10 ^ 200 := Int.pow_pos (by decide)
  generalize (10 : Int) ^ 200 = e at *
  generalize (10 : Int) ^ 400 = f at *
  generalize (10 : Int) ^ 500 = g at *
  have h3 : a * b ≤ a * e := Int.mul_le_mul_of_nonneg_left (Int.le_of_lt hb) a0
  have h4 : a * e < e * e := Int.mul_lt_mul_of_pos_right ha p0
  omega
/-- Each number has a root, and what is left. -/
theorem root_is (n : Nat) : ∃ S R : Int, S * S + R = (n : Int) ∧ 0 ≤ S ∧ 0 ≤ R ∧ R ≤ 2 * S := by
  induction n with
  | zero => exact ⟨0, 0, by decide, by decide, by decide, by decide⟩
  | succ n ih =>
    obtain ⟨S, R, h1, h2, h3, h4⟩ := ih
    by_cases h : R + 1 ≤ 2 * S
    · exact ⟨S, R + 1, by omega, h2, by omega, h⟩
    · refine ⟨S + 1, 0, ?_, by omega, by decide, by omega⟩
      have e : (S + 1) * (S + 1) = S * S + 2 * S + 1 := by rw [Int.add_mul, Int.mul_add]; omega
      omega
theorem fit_shift (a : Int) (n : Nat) (ha : NFit a 200) (hn : n ≤ 200) : NFit (a * 10 ^ n) 500 := by
  unfold NFit at *
  have h1 := pow_mono (200 + n) 500 (by omega)
  rw [Int.pow_add] at h1
  have p0 : (0 : Int) < 10 ^ n := Int.pow_pos (by decide)
  have h4 : a * 10 ^ n < 10 ^ 200 * 10 ^ n := Int.mul_lt_mul_of_pos_right ha p0
  exact Int.lt_of_lt_of_le h4 h1
theorem iNatShift_any (s : ByteArray) (n : Int) (w : World) (hs : s.size ≤ 4611686018427387904) :
    Calls Tryd.prog 39 #[.string s, .int .i64 n] w fun e w' => e = .returned (.string (shiftS s n)) ∧ Below w.heap.size w w' := by
  cases h : natB 200 s with
  | false =>
    have HE : Hid (shiftS s n = { data := #[] }) := by show shiftS s n = _; unfold shiftS; rw [h]; rfl
    rw [HE.out]
    have H1 : Hid (natB 200 s = false) := h
    clear h
    go_enter Tryd.func39, Tryd.ntmps39
    go_wp2_with fail
    refine (iNatOk_any s _ hs).mono ?_
    rintro e w' ⟨rfl, rfl⟩
    rw [H1.out]
    go_wp2
    go_ret
    exact ⟨rfl, Below.refl _ _⟩
  | true =>
    have H1 : Hid (natB 200 s = true) := h
    by_cases hn : 0 ≤ n ∧ n ≤ 200
    · have HE : Hid (shiftS s n = fitS (nt (nv s * 10 ^ n.toNat))) := by show shiftS s n = _; unfold shiftS; rw [h, decide_eq_true hn.1, decide_eq_true hn.2]; exact if_pos (by decide)
      rw [HE.out]
      obtain ⟨m, rfl⟩ := Int.eq_ofNat_of_zero_le hn.1
      have fs := nv_fit s h
      have hm : m ≤ 200 := by omega
      have F5 : Hid (NFit (nv s) 1000) := by show NFit _ _; unfold NFit at *; have := pow_mono 200 1000 (by decide); omega
      have FO : Hid (NFit (nv s * 10 ^ m) 500) := fit_shift _ _ fs hm
      have hA : ¬ (m : Int) < 0 := by omega
      have hB : ¬ (200 : Int) < (m : Int) := by omega
      have hB' : decide ((200 : Int) < (m : Int)) = false := decide_eq_false hB
      rw [Int.toNat_natCast]
      clear h fs HE
      go_enter Tryd.func39, Tryd.ntmps39
      go_wp2_with fail
      refine (iNatOk_any s _ hs).mono ?_
      rintro e w' ⟨rfl, rfl⟩
      rw [H1.out]
      go_wp2_with fail
      refine (nOf_text s _ H1.out).mono ?_
      rintro e w1 ⟨u, rfl, hu, hb1⟩
      have HU : Hid (NIs w1 u (nv s)) := hu.1
      clear hu
      go_wp2_with fail
      refine (nShift_any _ _ m _ HU.out F5.out hm).mono ?_
      rintro e w2 ⟨x, rfl, hx, hb2⟩
      have HX : Hid (NIs w2 x (nv s * 10 ^ m)) := hx.1
      have hb12 : Below w'.heap.size w' w2 := hb1.trans (hb2.mono hb1.size)
      clear hb1 hb2 hx HU
      go_wp2_with fail
      refine (nText_any _ _ _ HX.out FO.out).mono ?_
      rintro e w3 ⟨rfl, hb3⟩
      have HB : Hid (Below w'.heap.size w' w3) := hb12.trans (hb3.mono hb12.size)
      clear hb12 hb3
      go_wp2
      go_ret
      exact ⟨rfl, HB.out⟩
    · have HE : Hid (shiftS s n = { data := #[] }) := by
        show shiftS s n = _
        unfold shiftS
        rw [if_neg]
        simp
        omega
      rw [HE.out]
      clear h
      by_cases hA : n < 0
      · go_enter Tryd.func39, Tryd.ntmps39
        go_wp2_with fail
        refine (iNatOk_any s _ hs).mono ?_
        rintro e w' ⟨rfl, rfl⟩
        rw [H1.out]
        go_wp2
        go_ret
        exact ⟨rfl, Below.refl _ _⟩
      · have hB : (200 : Int) < n := by omega
        have hA' : decide (n < 0) = false := decide_eq_false hA
        go_enter Tryd.func39, Tryd.ntmps39
        go_wp2_with fail
        refine (iNatOk_any s _ hs).mono ?_
        rintro e w' ⟨rfl, rfl⟩
        rw [H1.out]
        go_wp2
        go_ret
        exact ⟨rfl, Below.refl _ _⟩
end Go.Proofs.YtcflomcankcggatDoor
