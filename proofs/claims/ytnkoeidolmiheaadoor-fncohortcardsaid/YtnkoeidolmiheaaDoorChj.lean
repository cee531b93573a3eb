/-
  Cohorts of both sides at any arguments.
-/
import Derived.Test.YtnkoeidolmiheaaDoorRdz
import Derived.Test.YtnkoeidolmiheaaDoorChz
namespace Go.Proofs.YtnkoeidolmiheaaDoor
open Go.RowKit
set_option linter.unusedVariables false
set_option maxRecDepth 100000
/-- The i-th of a cohort. -/
def itm (b : Bool) (lo : Int) (Z : Nat) (T : List Int) (i : Nat) : Nmt := (1, b, lo + i, tx (T ++ List.replicate (Z - i) 0))
def cohL (b : Bool) (lo : Int) (Z : Nat) (T : List Int) (M : Nat) : List Nmt := (List.range M).map (itm b lo Z T)
theorem cohL_succ (b : Bool) (lo : Int) (Z : Nat) (T : List Int) (M : Nat) : cohL b lo Z T (M + 1) = cohL b lo Z T M ++ [itm b lo Z T M] := by
  unfold cohL
  rw [List.range_succ, List.map_append]
  rfl
theorem cohL_len (b : Bool) (lo : Int) (Z : Nat) (T : List Int) (M : Nat) : (cohL b lo Z T M).length = M := by
  unfold cohL
  rw [List.length_map, List.length_range]
/-- Digits without noughts behind, and how many noughts: what is not nought has both. -/
theorem tail_noughts (L : List Int) (h : ∃ d ∈ L, d ≠ 0) : ∃ (T : List Int) (t : Nat), L = T ++ List.replicate t 0 ∧ ∃ T' d, T = T' ++ [d] ∧ d ≠ 0 := by
  have key : ∀ R : List Int, (∃ d ∈ R, d ≠ 0) → ∃ (T : List Int) (t : Nat), R.reverse = T ++ List.replicate t 0 ∧ ∃ T' d, T = T' ++ [d] ∧ d ≠ 0 := by
    intro R
    induction R with
    | nil => intro h; obtain ⟨d, hd, -⟩ := h; cases hd
    | cons x r ih =>
      intro h
      rw [List.reverse_cons]
      by_cases hx : x = 0
      · subst hx
        obtain ⟨T, t, e, hT⟩ := ih (by
          obtain ⟨d, hd, hn⟩ := h
          rcases List.mem_cons.1 hd with c | c
          · exact absurd c hn
          · exact ⟨d, c, hn⟩)
        refine ⟨T, t + 1, ?_, hT⟩
        rw [e, List.append_assoc, List.replicate_succ']
      · exact ⟨r.reverse ++ [x], 0, by simp, r.reverse, x, rfl, hx⟩
  have := key L.reverse (by obtain ⟨d, hd, hn⟩ := h; exact ⟨d, List.mem_reverse.2 hd, hn⟩)
  rwa [List.reverse_reverse] at this
theorem canon_some (L : List Int) (hc : Canon L) (hz : L ≠ [0]) : ∃ d ∈ L, d ≠ 0 := by
  cases L with
  | nil => exact absurd hc.2.1 (by decide)
  | cons x r =>
    refine ⟨x, List.mem_cons_self, fun hx => ?_⟩
    rcases hc.2.2 with h | h
    · rw [List.length_cons] at h
      have : r = [] := List.length_eq_zero_iff.1 (by omega)
      rw [hx, this] at hz
      exact hz rfl
    · exact h hx
/-- The last digit of a text with noughts behind. -/
theorem last_nought (T : List Int) (m : Nat) : (T ++ List.replicate (m + 1) 0).getD ((T ++ List.replicate (m + 1) 0).length - 1) 0 = 0 := by
  rw [List.replicate_succ', ← List.append_assoc]
  simp [List.getD]
theorem last_some (T' : List Int) (d : Int) : ((T' ++ [d]) ++ List.replicate 0 0).getD (((T' ++ [d]) ++ List.replicate 0 0).length - 1) 0 = d := by
  simp [List.getD]
theorem less_nought (T : List Int) (m : Nat) : (T ++ List.replicate (m + 1) 0).take ((T ++ List.replicate (m + 1) 0).length - 1) = T ++ List.replicate m 0 := by
  rw [List.replicate_succ', ← List.append_assoc, List.length_append, List.length_singleton, Nat.add_sub_cancel, List.take_left]
theorem dec_tail0 (T : List Int) (h : Dec T) (m : Nat) : Dec (T ++ List.replicate m 0) := fun d hd => by
  rcases List.mem_append.1 hd with c | c
  · exact h d c
  · have := (List.mem_replicate.1 c).2; omega
theorem at4_same {W W' : World} {b : Nat} {x y z u : Value} (e : W'.heap[b]? = W.heap[b]?) (h : At4 W b x y z u) : At4 W' b x y z u := by
  have c : ∀ i, W'.cell? ⟨b, i, none⟩ = W.cell? ⟨b, i, none⟩ := fun i => by simp only [World.cell?, e]
  have f : ∀ i, W'.frozen? ⟨b, i, none⟩ = W.frozen? ⟨b, i, none⟩ := fun i => by simp only [World.frozen?, e]
  exact ⟨(c 0).trans h.1, (c 1).trans h.2.1, (c 2).trans h.2.2.1, (c 3).trans h.2.2.2.1, fun i => (f i).trans (h.2.2.2.2 i)⟩
theorem num_new (W : World) (k : Int) (b : Bool) (e : Int) (s : ByteArray) : ∀ (i : Nat) (u : Value), [Value.int .i64 k, .bool b, .int .i64 e, .string s][i]? = some u → (W.alloc (.cells #[.int .i64 k, .bool b, .int .i64 e, .string s] 25)).cell? ((⟨W.heap.size, 0, none⟩ : Addr).add i) = some u := fun i u hu => by
  match i, hu with
  | 0, hu => simp at hu; subst hu; simp [Addr.add]
  | 1, hu => simp at hu; subst hu; simp [Addr.add]
  | 2, hu => simp at hu; subst hu; simp [Addr.add]
  | 3, hu => simp at hu; subst hu; simp [Addr.add]
theorem num_cell (k : Int) (b : Bool) (e : Int) (s : ByteArray) : ∀ u ∈ [Value.int .i64 k, .bool b, .int .i64 e, .string s], u.oneCell' = true := fun u hu => by
  simp at hu
  rcases hu with rfl | rfl | rfl | rfl <;> rfl
set_option maxRecDepth 100000 in
set_option maxHeartbeats 4000000 in
theorem sCohort_fin (f : Int) (hf : f = 64 ∨ f = 128) (b : Bool) (e : Int) (T : List Int) (t : Nat) (hD : Dec T) (hT : ∃ T' d, T = T' ++ [d] ∧ d ≠ 0) (hn : ((T.length + t : Nat) : Int) ≤ limP f) (he : limL f ≤ e ∧ e ≤ limH f) (hO : numB f 1 b e (tx (T ++ List.replicate t 0)) = true) (hz : T ++ List.replicate t 0 ≠ [0])
    (J Z M : Nat) (lo : Int) (hJ : (J : Int) = min (limP f - (T.length + t : Nat)) (e - limL f)) (hlo : lo = e - J) (hZ : Z = t + J) (hM : (M : Int) = min (Z : Int) (limH f - lo) + 1) (w : World) :
    Calls Tryd.prog 7 #[.int .i64 f, numV 1 b e (tx (T ++ List.replicate t 0))] w fun x w' => ∃ v, x = .returned v ∧ HasN w' w.heap.size v (cohL b lo Z T M) ∧ Below w.heap.size w w' := by
  obtain ⟨T', d, rfl, hd0⟩ := hT
  generalize hTT : T' ++ [d] = T at *
  have hL34 : limP f ≤ 34 ∧ -6176 ≤ limL f ∧ limH f ≤ 6111 := limsz f hf
  have hTl : 0 < T.length := by rw [← hTT]; simp
  obtain ⟨P, hP⟩ : ∃ P, limP f = P := ⟨_, rfl⟩
  obtain ⟨lw, hlw⟩ : ∃ P, limL f = P := ⟨_, rfl⟩
  obtain ⟨hg, hhg⟩ : ∃ P, limH f = P := ⟨_, rfl⟩
  have HLm : Hid (∀ X, Calls Tryd.prog 14 #[.int .i64 f] X fun r w' => r = .returned (.tuple #[.int .i64 P, .int .i64 lw, .int .i64 hg]) ∧ w' = X) := fun X => by
    have := Limits_any f X
    rwa [hP, hlw, hhg] at this
  rw [hP] at hn hJ hL34
  rw [hlw] at he hJ hL34
  rw [hhg] at he hM hL34
  have HNb : Hid (∀ X, Calls Tryd.prog 23 #[.int .i64 f, numV 1 b e (tx (T ++ List.replicate t 0))] X fun x w' => x = .returned (.bool true) ∧ Below X.heap.size X w') := fun X => by
    have := sNumOk_any f 1 b e (tx (T ++ List.replicate t 0)) X (by rw [tx_size, List.length_append, List.length_replicate]; omega)
    rwa [hO] at this
  have hne : ((tx (T ++ List.replicate t 0)).toList == [48]) = false := by
    refine beq_eq_false_iff_ne.2 fun q => hz ?_
    have : tx (T ++ List.replicate t 0) = tx [0] := by
      apply ByteArray.ext
      apply Array.toList_inj.1
      rw [← ByteArray.toList_eq, q, tx_data]
      rfl
    rw [← dl_tx (T ++ List.replicate t 0) (dec_tail0 T hD t), this]
    exact dl_tx [0] (fun d hd => by simp at hd; omega)
  have HD : Hid (Dec T) := hD
  have HTT : Hid (∃ T' d, T' ++ [d] = T ∧ d ≠ 0) := ⟨T', d, hTT, hd0⟩
  clear hO hz hD hP hlw hhg hf hTT hd0
  have h4 := at4_new w (.int .i64 1) (.bool b) (.int .i64 e) (.string (tx (T ++ List.replicate t 0)))
  have z1 : (w.alloc (.cells #[.int .i64 1, .bool b, .int .i64 e, .string (tx (T ++ List.replicate t 0))] 25)).heap.size = w.heap.size + 1 := by simp
  have b1 : Below w.heap.size w (w.alloc (.cells #[.int .i64 1, .bool b, .int .i64 e, .string (tx (T ++ List.replicate t 0))] 25)) := (Below.refl _ _).alloc (Nat.le_refl _) _
  have HZl : Hid ((tx (T ++ List.replicate t 0)).size = T.length + t) := by show _ = _; rw [tx_size, List.length_append, List.length_replicate]
  generalize hTL : tx (T ++ List.replicate t 0) = TL at *
  have HTL : Hid (tx (T ++ List.replicate t 0) = TL) := hTL
  clear hTL
  go_enter Tryd.func7, Tryd.ntmps7
  go_upto_region 1 with fail
  generalize w.alloc (.cells #[.int .i64 1, .bool b, .int .i64 e, .string TL] 25) = w1 at *
  have HO : Hid (HasN (w1.alloc (.cells #[] 25)) (w.heap.size + 1) (.slice (some ⟨w1.heap.size, 0, none⟩) 0 0) []) := World.ownsRow_made w1 #[] 0 (by omega) (Nat.zero_le _) rfl
  have b2 : Below w1.heap.size w1 (w1.alloc (.cells #[] 25)) := (Below.refl _ _).alloc (Nat.le_refl _) _
  have HA : Hid (At4 (w1.alloc (.cells #[] 25)) w.heap.size (.int .i64 1) (.bool b) (.int .i64 e) (.string TL) ∧ Below w.heap.size w (w1.alloc (.cells #[] 25))) := ⟨h4.below b2 (by omega), bel1 b1 b2⟩
  have HZ2 : Hid (w.heap.size < w1.heap.size) := by show _ < _; omega
  clear h4 b1 b2 z1
  obtain ⟨a0, a1, a2, a3, a4⟩ := HA.out.1
  go_wp2_with fail
  clear a0 a1 a2 a3 a4
  refine (HNb.out _).mono ?_
  rintro x w2 ⟨rfl, hb2⟩
  have HA2 : Hid (At4 w2 w.heap.size (.int .i64 1) (.bool b) (.int .i64 e) (.string TL) ∧ Below w.heap.size w w2) := ⟨HA.out.1.below hb2 (by have := HZ2.out; simp; omega), bel1 HA.out.2 hb2⟩
  have HO2 : Hid (HasN w2 (w.heap.size + 1) (.slice (some ⟨w1.heap.size, 0, none⟩) 0 0) []) := HO.out.below hb2 (Nat.le_refl _)
  generalize (⟨w1.heap.size, 0, none⟩ : Addr) = ad at *
  clear hb2 HA HO HNb HZ2
  obtain ⟨a0, a1, a2, a3, a4⟩ := HA2.out.1
  go_wp2_with fail
  refine (HLm.out _).mono ?_
  rintro x wq ⟨rfl, rfl⟩
  clear hne
  go_wp2
  go_loopg [9, 10] J (fun gk s9 s10 wx => ∃ j : Nat, j ≤ J ∧ Hid (gk = J - j) ∧ s9 = .string (tx (T ++ List.replicate (t + j) 0)) ∧ s10 = .int .i64 (e - (j : Int)) ∧ wx = wq)
  case atStart => exact ⟨0, Nat.zero_le _, rfl, by rw [← HTL.out]; rfl, Ln.val_int (by omega), rfl⟩
  case round =>
    obtain ⟨j, hj, hgk, rfl, rfl, hwr⟩ := hrel
    obtain rfl := hwr.symm
    have hzj : (tx (T ++ List.replicate (t + j) 0)).size = T.length + (t + j) := by rw [tx_size, List.length_append, List.length_replicate]
    by_cases hlt : j < J
    · have c1 : (T.length : Int) + ((t : Int) + (j : Int)) < P := by omega
      have c2 : lw < e - (j : Int) := by omega
      have hap : tx (T ++ List.replicate (t + j) 0) ++ { data := #[48] } = tx (T ++ List.replicate (t + (j + 1)) 0) := by
        rw [show ({ data := #[48] } : ByteArray) = tx [0] from by apply ByteArray.ext; rw [tx_data]; rfl, tx_append, List.append_assoc, ← List.replicate_succ']; rfl
      go_wp2
      go_roundg (J - (j + 1))
      case measure => have := hgk.out; omega
      case rel => exact ⟨j + 1, by omega, rfl, rfl, Ln.val_int (by omega), rfl⟩
    · have ej : j = J := by omega
      subst ej
      have HZz : Hid (Z = t + j) := hZ
      have HLo : Hid (lo = e - (j : Int)) := hlo
      have HMm : Hid ((M : Int) = min (Z : Int) (hg - lo) + 1) := hM
      have hM0 : 0 < M := by omega
      have hM40 : M ≤ 100 := by omega
      have hZ40 : Z ≤ 60 := by omega
      have hT40 : T.length ≤ 34 := by omega
      have hlo1 : -7000 ≤ lo ∧ lo ≤ hg := by omega
      have hg1 : hg ≤ 6111 := by omega
      have HTl : Hid (0 < T.length) := hTl
      have C2 : ((T.length : Int) + ((t : Int) + (j : Int)) < P ∧ ¬ lw < e - (j : Int)) ∨ ¬ (T.length : Int) + ((t : Int) + (j : Int)) < P := by omega
      have AS : Hid (∃ i : Nat, i < M ∧ Hid (M - 0 = M - i) ∧ Hid (HasN wq (w.heap.size + 1) (.slice (some ad) 0 0) (cohL b lo Z T i)) ∧ Value.string (tx (T ++ List.replicate (t + j) 0)) = .string (tx (T ++ List.replicate (Z - i) 0)) ∧ Value.int .i64 (e - (j : Int)) = .int .i64 (lo + (i : Int)) ∧ Hid (At4 wq w.heap.size (.int .i64 1) (.bool b) (.int .i64 e) (.string TL) ∧ Below w.heap.size w wq)) :=
        ⟨0, hM0, rfl, HO2, by rw [hZ]; rfl, by rw [hlo]; exact Ln.val_int (by omega), HA2⟩
      clear hJ hZ hlo hM hj hgk hlt HO2 HA2 he hL34 hn hTl
      rcases C2 with ⟨c1, c2⟩ | c1
      all_goals
        obtain ⟨i0, hi, hz0, hz1, hz2⟩ := info_parts infoNum
        go_wp2
        go_loopg [5, 9, 10] M (fun gk s5 s9 s10 wx => ∃ i : Nat, i < M ∧ Hid (gk = M - i) ∧ Hid (HasN wx (w.heap.size + 1) s5 (cohL b lo Z T i)) ∧ s9 = .string (tx (T ++ List.replicate (Z - i) 0)) ∧ s10 = .int .i64 (lo + (i : Int)) ∧ Hid (At4 wx w.heap.size (.int .i64 1) (.bool b) (.int .i64 e) (.string TL) ∧ Below w.heap.size w wx))
        case atStart => exact AS.out
        case round =>
          obtain ⟨i, hiM, hgk, hown, rfl, rfl, hA⟩ := hrel
          obtain ⟨m, hm⟩ : ∃ m, Z - i = m := ⟨_, rfl⟩
          have HIt : Hid (itm b lo Z T i = (1, b, lo + (i : Int), tx (T ++ List.replicate m 0))) := by show _ = _; unfold itm; rw [hm]
          rw [hm]
          have HIm : Hid (Z - i = m) := hm
          obtain ⟨N, hN⟩ : ∃ N, T.length + m = N + 1 := ⟨T.length + m - 1, by have := HTl.out; omega⟩
          obtain ⟨S, hS⟩ : ∃ S, tx (T ++ List.replicate m 0) = S := ⟨_, rfl⟩
          have hsz : S.size = N + 1 := by rw [← hS, tx_size, List.length_append, List.length_replicate, hN]
          have hSN : N < S.size := by omega
          have hN80 : N ≤ 100 := by omega
          have HLast : Hid (∃ x : Int, ((S[N]'hSN).toNat : Int) = x ∧ (m = 0 → (x == 48) = false) ∧ (m ≠ 0 → x = 48)) := by
            subst hS
            have hln : (T ++ List.replicate m 0).length = N + 1 := by rw [List.length_append, List.length_replicate, hN]
            refine ⟨_, tx_at (T ++ List.replicate m 0) (dec_tail0 T HD.out m) N hSN, fun q => ?_, fun q => ?_⟩
            · subst q
              obtain ⟨T', d, hTd, hd⟩ := HTT.out
              have := last_some T' d
              rw [hTd, hln, Nat.add_sub_cancel] at this
              rw [this]
              exact beq_eq_false_iff_ne.2 (by omega)
            · obtain ⟨m', rfl⟩ : ∃ m', m = m' + 1 := ⟨m - 1, by omega⟩
              have := last_nought T m'
              rw [hln, Nat.add_sub_cancel] at this
              rw [this]
              rfl
          have HCut : Hid (m ≠ 0 → S.extract 0 N = tx (T ++ List.replicate (Z - (i + 1)) 0)) := fun q => by
            subst hS
            obtain ⟨m', rfl⟩ : ∃ m', m = m' + 1 := ⟨m - 1, by omega⟩
            have hln : (T ++ List.replicate (m' + 1) 0).length = N + 1 := by rw [List.length_append, List.length_replicate, hN]
            rw [tx_take _ N (by omega), show Z - (i + 1) = m' by omega, ← less_nought T m', hln, Nat.add_sub_cancel]
          rw [hS] at HIt ⊢
          have hlen := cohL_len b lo Z T i
          have w1 : IntKind.i64.wrap (lo + (i : Int) + 1) = lo + (i : Int) + 1 := by rw [IntKind.wrap_i64]; omega
          clear hm hN hS
          obtain ⟨a0, a1, a2, a3, a4⟩ := hA.out.1
          go_wp2_with fail
          clear a0 a1 a2 a3 a4
          refine (l12Finite_anyz b S (lo + (i : Int)) _).mono ?_
          rintro x w4 ⟨rfl, hb4⟩
          have HA4 : Hid (At4 w4 w.heap.size (.int .i64 1) (.bool b) (.int .i64 e) (.string TL) ∧ Below w.heap.size w w4) := ⟨hA.out.1.below hb4 (World.block_lt_of_cell? _ _ hA.out.1.1), bel1 hA.out.2 hb4⟩
          have hown0 : w4.ownsRow (w.heap.size + 1) 25 4 _ (cohL b lo Z T i).length (nq (cohL b lo Z T i)) := hown.out.below hb4 (Nat.le_refl _)
          rw [hlen] at hown0
          clear hb4 hA hown
          have hlt4 : w.heap.size < w4.heap.size := World.block_lt_of_cell? _ _ HA4.out.1.1
          go_wp2_with (first | (at_builtin; refine wpList_append_own _ rfl _ _ 28 rfl (w.heap.size + 1) 25 i0 (.agg #[.int .i64 0, .bool false, .int .i64 0, .string { data := #[] }]) 4 40 Tryd.underlying28 hi hz0 hz1 hz2 rfl (by decide) _ _ _ rfl (hown0.alloc _) ⟨w4.heap.size, 0, none⟩ 1 1 [.int .i64 1, .bool b, .int .i64 (lo + (i : Int)), .string S] rfl rfl (num_new _ _ _ _ _) (num_cell _ _ _ _) (by unfold maxLen; omega) (by omega) (by simp; omega) ?_) | go_in)
          intro v' w5 hown5 hgrow _
          have hb5 : Below w.heap.size w w5 := Below.grown (HA4.out.2.alloc (Nat.le_of_lt hlt4) _) hgrow (by simp; omega) (fun k hk => by have := (hown0.lt k hk).1; omega)
          have HA5 : Hid (At4 w5 w.heap.size (.int .i64 1) (.bool b) (.int .i64 e) (.string TL) ∧ Below w.heap.size w w5) := ⟨at4_same (hgrow.block _ (by simp; omega) (fun hq => by have := (hown0.lt _ hq.symm).1; omega)) (HA4.out.1.alloc hlt4 _), hb5⟩
          have H5 : Hid (HasN w5 (w.heap.size + 1) v' (cohL b lo Z T (i + 1))) := by
            rw [cohL_succ, HIt.out]
            exact hasN_more hown5 (by rw [hlen])
          clear hown5 hgrow hown0 hb5 hlt4 HA4
          obtain ⟨x, hx, hx0, hx1⟩ := HLast.out
          have HX0 : Hid (m = 0 → (x == 48) = false) := hx0
          have HX1 : Hid (m ≠ 0 → x = 48) := hx1
          clear hx0 hx1 HLast
          by_cases hm0 : m = 0
          · have hx48 := HX0.out hm0
            have HMi : Hid (i + 1 = M) := by have := HMm.out; have := HIm.out; show _ = _; omega
            have HF : Hid (HasN w5 w.heap.size v' (cohL b lo Z T M)) := by rw [← HMi.out]; exact World.ownsRow.mono H5.out (Nat.le_succ _)
            clear HX0 HX1 hm0 HCut H5 AS
            go_wp2
            go_ret
            exact ⟨v', rfl, HF.out, HA5.out.2⟩
          · have hx48 := HX1.out hm0
            rw [hx48] at hx
            by_cases hhg : lo + (i : Int) = hg
            · have ce : (lo + (i : Int) == hg) = true := beq_iff_eq.2 hhg
              have HMi : Hid (i + 1 = M) := by have := HMm.out; have := HIm.out; show _ = _; omega
              have HF : Hid (HasN w5 w.heap.size v' (cohL b lo Z T M)) := by rw [← HMi.out]; exact World.ownsRow.mono H5.out (Nat.le_succ _)
              clear HX0 HX1 hm0 HCut H5 AS hhg hx48
              go_wp2
              go_ret
              exact ⟨v', rfl, HF.out, HA5.out.2⟩
            · have ce : (lo + (i : Int) == hg) = false := beq_eq_false_iff_ne.2 hhg
              have hcut := HCut.out hm0
              have HMi : Hid (i + 1 < M) := by have := HMm.out; have := HIm.out; show _ < _; omega
              clear HX0 HX1 hm0 HCut AS hx48 hhg
              go_wp2
              go_roundg (M - (i + 1))
              case measure => have := hgk.out; have := HMi.out; omega
              case rel => exact ⟨i + 1, HMi.out, rfl, H5, rfl, Ln.val_int (by omega), HA5⟩
end Go.Proofs.YtnkoeidolmiheaaDoor
namespace Go.Proofs.YtnkoeidolmiheaaDoor
open Go.RowKit
set_option linter.unusedVariables false
set_option maxRecDepth 100000
theorem trimR_tx (T : List Int) (t : Nat) (hD : Dec T) (hT : ∃ T' d, T = T' ++ [d] ∧ d ≠ 0) : (⟨(Lib.trimRightB (tx (T ++ List.replicate t 0)).data.toList 48).toArray⟩ : ByteArray) = tx T := by
  apply ByteArray.ext
  rw [tx_data, tx_data]
  show (Lib.trimRightB ((T ++ List.replicate t 0).map fun (d : Int) => UInt8.ofNat (48 + d).toNat) 48).toArray = _
  congr 1
  rw [List.map_append, List.map_replicate]
  unfold Lib.trimRightB
  rw [List.reverse_append, List.reverse_replicate]
  have e0 : UInt8.ofNat (48 + (0 : Int)).toNat = 48 := rfl
  rw [e0, List.dropWhile_append_of_pos (by intro a ha; rw [(List.mem_replicate.1 ha).2]; rfl)]
  obtain ⟨T', d, rfl, hd⟩ := hT
  have hb := hD d (List.mem_append.2 (.inr (List.mem_singleton.2 rfl)))
  rw [List.map_append, List.reverse_append]
  show (List.dropWhile _ (UInt8.ofNat (48 + d).toNat :: _)).reverse = _
  have hne : (UInt8.ofNat (48 + d).toNat == 48) = false := by
    refine beq_eq_false_iff_ne.2 fun q => ?_
    have := congrArg UInt8.toNat q
    rw [UInt8.toNat_ofNat', Nat.mod_eq_of_lt (by omega)] at this
    have : (48 + d).toNat = 48 := this
    omega
  rw [List.dropWhile_cons_of_neg (by rw [hne]; exact Bool.false_ne_true)]
  simp
theorem build_num4 (k : Int) (b : Bool) (e : Int) (s : ByteArray) : ∀ w : World, (Instr.build 25 #[(0, .int .i64 k), (1, .bool b), (2, .int .i64 e), (3, .string s)]).run Tryd.prog w = .ok (numV k b e s) w := fun w => run_build w _ _ _ (by kernel_rfl)
set_option maxRecDepth 100000 in
theorem withoutNoughts_any (b : Bool) (e : Int) (T : List Int) (t : Nat) (hD : Dec T) (hT : ∃ T' d, T = T' ++ [d] ∧ d ≠ 0) (hl : T.length + t ≤ 34) (he : -7000 ≤ e ∧ e ≤ 7000) (w : World) :
    Calls Tryd.prog 21 #[numV 1 b e (tx (T ++ List.replicate t 0))] w fun x w' => x = .returned (numV 1 b (e + t) (tx T)) ∧ Below w.heap.size w w' := by
  have HTr : Hid (∀ X, Calls Tryd.prog 35 #[.string (tx (T ++ List.replicate t 0)), .string { data := #[48] }] X fun e w' => e = .returned (.string (tx T)) ∧ w' = X) := fun X => by
    have := Tryd.strings_TrimRight_one (tx (T ++ List.replicate t 0)) 48 (by decide) X (by rw [tx_size, List.length_append, List.length_replicate]; omega)
    rw [trimR_tx T t hD hT] at this
    exact this
  have z1 : (tx (T ++ List.replicate t 0)).size = T.length + t := by rw [tx_size, List.length_append, List.length_replicate]
  have z2 := tx_size T
  have hw1 : IntKind.i64.wrap ((T.length : Int) + (t : Int) - (T.length : Int)) = (t : Int) := by rw [IntKind.wrap_i64]; omega
  have hw2 : IntKind.i64.wrap (e + (t : Int)) = e + t := by rw [IntKind.wrap_i64]; omega
  generalize tx (T ++ List.replicate t 0) = TL at *
  generalize tx T = TT at *
  have hbn := build_numz 1 b (e + t) TT
  have HN : Hid (N2z w 1 b e TL ((w.alloc (.cells #[.int .i64 1, .bool b, .int .i64 e, .string TL] 25)).alloc (.cells #[.int .i64 0, .bool false, .int .i64 0, .string { data := #[] }] 25))) := n2_newz w 1 b e TL
  clear hD hT he
  go_enter Tryd.func21, Tryd.ntmps21
  go_wp2_with fail
  refine (HTr.out _).mono ?_
  rintro x wq ⟨rfl, rfl⟩
  obtain ⟨a0, a1, a2, a3, a4⟩ := HN.out.1.cells
  go_wp2_with (refine wpList_store_row rfl 25 (.tmp 2) (.tmp 19) rfl (w.heap.size + 1) #[.int .i64 1, .bool b, .int .i64 (e + t), .string TT] rfl rfl _ _ HN.out.2.1 (by kernel_rfl) rfl (one4z _ _ _ _) ?_)
  have hP := (HN.out.2.1.row (.int .i64 1) (.bool b) (.int .i64 (e + t)) (.string TT)).cells
  refine bodyPost_ret (results_num rfl _ _ rfl hP.1 hP.2.1 hP.2.2.1 hP.2.2.2.1) rfl ?_
  exact ⟨rfl, bel_rowz HN.out.2.2 (by omega) _⟩
theorem isNought_no (b : Bool) (e : Int) (s : ByteArray) (w : World) (h : (s.toList == [48]) = false) : Calls Tryd.prog 17 #[numV 1 b e s] w fun x w' => x = .returned (.bool false) ∧ Below w.heap.size w w' := by
  go_enter Tryd.func17, Tryd.ntmps17
  go_wp2
  go_ret
  exact ⟨rfl, (Below.refl _ _).alloc (Nat.le_refl _) _⟩
theorem lowered_tx (b : Bool) (E exp : Int) (T : List Int) (n : Nat) (hc : Canon T) (hz : T ≠ [0]) (hn : E - exp = n) (hl : T.length + n ≤ 100) (hE : -7000 ≤ E ∧ E ≤ 7000) (he : -7000 ≤ exp ∧ exp ≤ 7000) (w : World) :
    Calls Tryd.prog 22 #[numV 1 b E (tx T), .int .i64 exp] w fun x w' => x = .returned (numV 1 b exp (tx (T ++ List.replicate n 0))) ∧ Below w.heap.size w w' := by
  have e1 : tn (vl T) = tx T := by unfold tn; rw [← nt_of T (vl T) hc rfl (by omega)]
  have e2 : tn (vl T * 10 ^ (E - exp).toNat) = tx (T ++ List.replicate n 0) := by
    unfold tn
    rw [hn, Int.toNat_natCast, ← vl_noughts, ← nt_of (T ++ List.replicate n 0) _ (canon_noughts T n hc hz) rfl (by rw [List.length_append, List.length_replicate]; omega)]
  have hb := vl_bd T hc.1
  have hbn := vl_bd (T ++ List.replicate n 0) (canon_noughts T n hc hz).1
  rw [vl_noughts] at hbn
  have p1 : (10 : Int) ^ T.length < 10 ^ 200 := by exact_mod_cast Nat.pow_lt_pow_right (by decide) (by omega)
  have p2 : (10 : Int) ^ (T ++ List.replicate n 0).length < 10 ^ 200 := by
    rw [List.length_append, List.length_replicate]
    exact_mod_cast Nat.pow_lt_pow_right (by decide) (by omega)
  have := lowered_anyz b E (vl T) exp w hE he (by omega) (by omega) ⟨hb.1, by omega⟩ (by rw [hn, Int.toNat_natCast]; exact ⟨hbn.1, by omega⟩)
  rwa [e1, e2] at this
/-- The closure's count, the shortest number's box. -/
def CQ (w : World) (P : Int) (bb p : Nat) (k : Int) (b : Bool) (e : Int) (s : ByteArray) (W : World) : Prop :=
  W.cell? ⟨bb, 0, none⟩ = some (.int .i64 P) ∧ bb < W.heap.size ∧ At4 W p (.int .i64 k) (.bool b) (.int .i64 e) (.string s) ∧ w.heap.size ≤ p ∧ p < W.heap.size ∧ Below w.heap.size w W
theorem CQ.next {w W W' : World} {P : Int} {bb p : Nat} {k : Int} {b : Bool} {e : Int} {s : ByteArray} (h : CQ w P bb p k b e s W) (hb : Below W.heap.size W W') : CQ w P bb p k b e s W' :=
  ⟨(hb.cell (p := ⟨bb, 0, none⟩) h.2.1).trans h.1, Nat.lt_of_lt_of_le h.2.1 hb.size, h.2.2.1.below hb h.2.2.2.2.1, h.2.2.2.1, Nat.lt_of_lt_of_le h.2.2.2.2.1 hb.size, bel1 h.2.2.2.2.2 hb⟩
theorem cq_put {w W : World} {P : Int} {bb p : Nat} {x y z u : Value} (hq : W.cell? ⟨bb, 0, none⟩ = some (.int .i64 P) ∧ bb < W.heap.size) (hp : At4 W p x y z u) (hne : bb ≠ p) (hwp : w.heap.size ≤ p) (hb : Below w.heap.size w W) (k : Int) (b : Bool) (e : Int) (s : ByteArray) :
    CQ w P bb p k b e s ((((W.setCell ⟨p, 0, none⟩ (.int .i64 k)).setCell ⟨p, 1, none⟩ (.bool b)).setCell ⟨p, 2, none⟩ (.int .i64 e)).setCell ⟨p, 3, none⟩ (.string s)) := by
  have ne : ∀ i, (⟨p, i, none⟩ : Addr) ≠ ⟨bb, 0, none⟩ := fun i e => hne (by cases e; rfl)
  have hl := World.block_lt_of_cell? _ _ hp.1
  have hB := bel_four hb hwp (.int .i64 k) (.bool b) (.int .i64 e) (.string s)
  have hsz : ((((W.setCell ⟨p, 0, none⟩ (.int .i64 k)).setCell ⟨p, 1, none⟩ (.bool b)).setCell ⟨p, 2, none⟩ (.int .i64 e)).setCell ⟨p, 3, none⟩ (.string s)).heap.size = W.heap.size := by simp
  refine ⟨?_, by rw [hsz]; exact hq.2, hp.put _ _ _ _, hwp, by rw [hsz]; exact hl, hB⟩
  rw [World.cell?_setCell_other _ _ _ _ (ne 3), World.cell?_setCell_other _ _ _ _ (ne 2), World.cell?_setCell_other _ _ _ _ (ne 1), World.cell?_setCell_other _ _ _ _ (ne 0)]
  exact hq.1
theorem cq_new {w W : World} {P : Int} {bb : Nat} (hq : W.cell? ⟨bb, 0, none⟩ = some (.int .i64 P) ∧ bb < W.heap.size) (hb : Below w.heap.size w W) (k : Int) (b : Bool) (e : Int) (s : ByteArray) :
    CQ w P bb W.heap.size k b e s (W.alloc (.cells #[.int .i64 k, .bool b, .int .i64 e, .string s] 25)) := by
  have hB : Below W.heap.size W (W.alloc (.cells #[.int .i64 k, .bool b, .int .i64 e, .string s] 25)) := (Below.refl _ _).alloc (Nat.le_refl _) _
  exact ⟨(hB.cell (p := ⟨bb, 0, none⟩) hq.2).trans hq.1, Nat.lt_of_lt_of_le hq.2 hB.size, at4_new W _ _ _ _, hb.size, by simp, bel1 hb hB⟩
set_option maxRecDepth 100000 in
set_option maxHeartbeats 4000000 in
theorem iCohort_fin (f : Int) (hf : f = 64 ∨ f = 128) (b : Bool) (e : Int) (T : List Int) (t : Nat) (hD : Dec T) (hT : ∃ T' d, T = T' ++ [d] ∧ d ≠ 0) (hc : Canon T) (hzT : T ≠ [0]) (hn : ((T.length + t : Nat) : Int) ≤ limP f) (he : limL f ≤ e ∧ e ≤ limH f) (hO : numB f 1 b e (tx (T ++ List.replicate t 0)) = true) (hz : ((tx (T ++ List.replicate t 0)).toList == [48]) = false)
    (J Z M : Nat) (lo : Int) (hJ : (J : Int) = min (limP f - (T.length + t : Nat)) (e - limL f)) (hlo : lo = e - J) (hZ : Z = t + J) (hM : (M : Int) = min (Z : Int) (limH f - lo) + 1) (w : World) :
    Calls Tryd.prog 6 #[.int .i64 f, numV 1 b e (tx (T ++ List.replicate t 0))] w fun x w' => ∃ v, x = .returned v ∧ HasN w' w.heap.size v (cohL b lo Z T M) ∧ Below w.heap.size w w' := by
  have hL34 : limP f ≤ 34 ∧ -6176 ≤ limL f ∧ limH f ≤ 6111 := limsz f hf
  have hTl : 0 < T.length := hc.2.1
  have zT := tx_size T
  have zL : (tx (T ++ List.replicate t 0)).size = T.length + t := by rw [tx_size, List.length_append, List.length_replicate]
  have HNb : Hid (∀ X, Calls Tryd.prog 8 #[.int .i64 f, numV 1 b e (tx (T ++ List.replicate t 0))] X fun x w' => x = .returned (.bool true) ∧ Below X.heap.size X w') := fun X => by
    have := iNumOk_any f 1 b e (tx (T ++ List.replicate t 0)) X (by omega)
    rwa [hO] at this
  have HNo : Hid (∀ X, Calls Tryd.prog 17 #[numV 1 b e (tx (T ++ List.replicate t 0))] X fun x w' => x = .returned (.bool false) ∧ Below X.heap.size X w') := fun X => isNought_no b e _ X hz
  have HWn : Hid (∀ X, Calls Tryd.prog 21 #[numV 1 b e (tx (T ++ List.replicate t 0))] X fun x w' => x = .returned (numV 1 b (e + t) (tx T)) ∧ Below X.heap.size X w') := fun X => withoutNoughts_any b e T t hD hT (by omega) (by omega) X
  have HLm : Hid (∀ X, Calls Tryd.prog 19 #[.int .i64 f] X fun r w' => r = .returned (.tuple #[.int .i64 (limP f), .int .i64 (limL f), .int .i64 (limH f)]) ∧ Below X.heap.size X w') := fun X => iLimits_any f X
  have HRm : Hid (∀ X, Calls Tryd.prog 20 #[.int .i64 f] X fun x w' => ∃ b, x = .returned (RmVz b) ∧ w'.cell? ⟨b, 0, none⟩ = some (.int .i64 (limP f)) ∧ X.heap.size ≤ b ∧ b < w'.heap.size ∧ Below X.heap.size X w') := fun X => roomIn_anyz f X
  have HR1 : Hid (∀ (c : Nat) X, X.cell? ⟨c, 0, none⟩ = some (.int .i64 (limP f)) → Calls Tryd.prog 34 #[.string (tx T), .pointer (some ⟨c, 0, none⟩)] X fun x w' => x = .returned (.int .i64 (limP f - (tx T).size)) ∧ w' = X) := fun c X h => room1_anyz c (limP f) (tx T) X h (by omega) (by omega)
  have HEn : Hid (∀ args w, (callFunc 34 args).run Tryd.prog w = .ok (.enter 34 args) w) := enters_of Tryd.func34 (by kernel_rfl) rfl
  have HLw : Hid (∀ (i : Nat), i < M → ∀ X, Calls Tryd.prog 22 #[numV 1 b (e + t) (tx T), .int .i64 (lo + (i : Int))] X fun x w' => x = .returned (numV 1 b (lo + (i : Int)) (tx (T ++ List.replicate (Z - i) 0))) ∧ Below X.heap.size X w') := fun i hi X => lowered_tx b (e + t) (lo + i) T (Z - i) hc hzT (by omega) (by omega) (by omega) (by omega) X
  have h4 := at4_new w (.int .i64 1) (.bool b) (.int .i64 e) (.string (tx (T ++ List.replicate t 0)))
  have HA : Hid (At4 (w.alloc (.cells #[.int .i64 1, .bool b, .int .i64 e, .string (tx (T ++ List.replicate t 0))] 25)) w.heap.size (.int .i64 1) (.bool b) (.int .i64 e) (.string (tx (T ++ List.replicate t 0))) ∧ Below w.heap.size w (w.alloc (.cells #[.int .i64 1, .bool b, .int .i64 e, .string (tx (T ++ List.replicate t 0))] 25)) ∧ w.heap.size < (w.alloc (.cells #[.int .i64 1, .bool b, .int .i64 e, .string (tx (T ++ List.replicate t 0))] 25)).heap.size) := ⟨h4, (Below.refl _ _).alloc (Nat.le_refl _) _, by simp⟩
  have hmx : max (limL f) (e + (t : Int) - (limP f - (T.length : Int))) = lo := by omega
  have HMn : Hid (∀ i : Nat, (lo + (i : Int) ≤ min (limH f) (e + (t : Int)) ↔ i < M)) := fun i => by omega
  have hM100 : M ≤ 100 := by omega
  have hlo7 : -7000 ≤ lo ∧ lo ≤ 7000 := by omega
  clear h4 hO hz hD hT hc hzT hJ hlo hZ hM
  generalize tx (T ++ List.replicate t 0) = TL at *
  go_enter Tryd.func6, Tryd.ntmps6
  go_wp2_with fail
  refine (HNb.out _).mono ?_
  rintro x w1 ⟨rfl, hb1⟩
  have HA1 : Hid (At4 w1 w.heap.size (.int .i64 1) (.bool b) (.int .i64 e) (.string TL) ∧ Below w.heap.size w w1 ∧ w.heap.size < w1.heap.size) := ⟨HA.out.1.below hb1 HA.out.2.2, bel1 HA.out.2.1 hb1, Nat.lt_of_lt_of_le HA.out.2.2 hb1.size⟩
  clear hb1 HA HNb
  obtain ⟨a0, a1, a2, a3, a4⟩ := HA1.out.1
  go_wp2_with fail
  clear a0 a1 a2 a3 a4
  refine (HNo.out _).mono ?_
  rintro x w2 ⟨rfl, hb2⟩
  have HA2 : Hid (At4 w2 w.heap.size (.int .i64 1) (.bool b) (.int .i64 e) (.string TL) ∧ Below w.heap.size w w2 ∧ w.heap.size < w2.heap.size) := ⟨HA1.out.1.below hb2 HA1.out.2.2, bel1 HA1.out.2.1 hb2, Nat.lt_of_lt_of_le HA1.out.2.2 hb2.size⟩
  clear hb2 HA1 HNo
  go_wp2_with fail
  refine (HLm.out _).mono ?_
  rintro x w3 ⟨rfl, hb3⟩
  have HA3 : Hid (At4 w3 w.heap.size (.int .i64 1) (.bool b) (.int .i64 e) (.string TL) ∧ Below w.heap.size w w3 ∧ w.heap.size < w3.heap.size) := ⟨HA2.out.1.below hb3 HA2.out.2.2, bel1 HA2.out.2.1 hb3, Nat.lt_of_lt_of_le HA2.out.2.2 hb3.size⟩
  clear hb3 HA2 HLm
  go_upto_region 6 with fail
  go_cut [8, 9] (fun r q wx => ∃ bb p, r = RmVz bb ∧ q = .pointer (some ⟨p, 0, none⟩) ∧ Hid (CQ w (limP f) bb p 1 b (e + t) (tx T) wx))
  case first =>
    have HCl : Hid (∀ W, Below w3.heap.size w3 W → At4 W w.heap.size (.int .i64 1) (.bool b) (.int .i64 e) (.string TL) ∧ ∀ o, At4 (W.alloc o) w.heap.size (.int .i64 1) (.bool b) (.int .i64 e) (.string TL)) := fun W hW => ⟨HA3.out.1.below hW HA3.out.2.2, fun o => (HA3.out.1.below hW HA3.out.2.2).alloc (Nat.lt_of_lt_of_le HA3.out.2.2 hW.size) o⟩
    obtain ⟨a0, a1, a2, a3, a4⟩ := HA3.out.1
    have l0 : ∀ o, (w3.alloc o).cell? ⟨w.heap.size, 0, none⟩ = some (.int .i64 1) := fun o => ((HCl.out w3 (Below.refl _ _)).2 o).1
    have l1 : ∀ o, (w3.alloc o).cell? ⟨w.heap.size, 1, none⟩ = some (.bool b) := fun o => ((HCl.out w3 (Below.refl _ _)).2 o).2.1
    have l2 : ∀ o, (w3.alloc o).cell? ⟨w.heap.size, 2, none⟩ = some (.int .i64 e) := fun o => ((HCl.out w3 (Below.refl _ _)).2 o).2.2.1
    have l3 : ∀ o, (w3.alloc o).cell? ⟨w.heap.size, 3, none⟩ = some (.string TL) := fun o => ((HCl.out w3 (Below.refl _ _)).2 o).2.2.2.1
    go_region_with (first
      | (go_at_call 20; refine (HRm.out _).mono ?_; rintro x wR ⟨bb, rfl, hbb, hble, hblt, hbR⟩
         first
           | have HBR : Hid (Below w3.heap.size w3 wR) := (Below.refl w3.heap.size w3).drew.trans (hbR.mono (Nat.le_refl _))
           | have HBR : Hid (Below w3.heap.size w3 wR) := ((Below.refl w3.heap.size w3).drew.alloc (Nat.le_refl _) _).trans (hbR.mono (by simp))
           | have HBR : Hid (Below w3.heap.size w3 wR) := HBW.out.trans (hbR.mono HBW.out.size)
           | have HBR : Hid (Below w3.heap.size w3 wR) := (HBW.out.alloc HBW.out.size _).trans (hbR.mono (by have := HBW.out.size; simp; omega))
         have HQR : Hid (wR.cell? ⟨bb, 0, none⟩ = some (.int .i64 (limP f)) ∧ bb < wR.heap.size) := ⟨hbb, hblt⟩
         have HLE : Hid (_ ≤ bb) := hble
         clear hbb hble hblt a0 a1 a2 a3 a4
         obtain ⟨⟨a0, a1, a2, a3, a4⟩, lay⟩ := HCl.out wR HBR.out
         have m0 := fun o => (lay o).1
         have m1 := fun o => (lay o).2.1
         have m2 := fun o => (lay o).2.2.1
         have m3 := fun o => (lay o).2.2.2.1
         clear lay
         first
           | (have HPR : Hid (At4 wR w3.heap.size (.int .i64 0) (.bool false) (.int .i64 0) (.string { data := #[] })) := (at4_new w3.drew (.int .i64 0) (.bool false) (.int .i64 0) (.string { data := #[] })).below hbR (by simp); obtain ⟨z0, z1, z2, z3, z4⟩ := HPR.out)
           | (have HPR : Hid (At4 wR wW.heap.size (.int .i64 0) (.bool false) (.int .i64 0) (.string { data := #[] })) := (at4_new wW (.int .i64 0) (.bool false) (.int .i64 0) (.string { data := #[] })).below hbR (by simp); obtain ⟨z0, z1, z2, z3, z4⟩ := HPR.out)
           | (have HPR : Hid (At4 wR w3.heap.size (.int .i64 0) (.bool false) (.int .i64 0) (.string { data := #[] })) := HPW.out.below hbR (World.block_lt_of_cell? _ _ HPW.out.1); clear z0 z1 z2 z3 z4; obtain ⟨z0, z1, z2, z3, z4⟩ := HPR.out)
           | skip)
      | (go_at_call 21; refine (HWn.out _).mono ?_; rintro x wW ⟨rfl, hbW⟩
         first
           | have HBW : Hid (Below w3.heap.size w3 wW) := (Below.refl w3.heap.size w3).drew.trans (hbW.mono (Nat.le_refl _))
           | have HBW : Hid (Below w3.heap.size w3 wW) := ((Below.refl w3.heap.size w3).drew.alloc (Nat.le_refl _) _).trans (hbW.mono (by simp))
           | have HBW : Hid (Below w3.heap.size w3 wW) := HBR.out.trans (hbW.mono HBR.out.size)
           | have HBW : Hid (Below w3.heap.size w3 wW) := (HBR.out.alloc HBR.out.size _).trans (hbW.mono (by have := HBR.out.size; simp; omega))
         first
           | (have HQW : Hid (wW.cell? ⟨bb, 0, none⟩ = some (.int .i64 (limP f)) ∧ bb < wW.heap.size) := ⟨(hbW.cell (p := ⟨bb, 0, none⟩) HQR.out.2).trans HQR.out.1, Nat.lt_of_lt_of_le HQR.out.2 hbW.size⟩)
           | (have HQW : Hid (wW.cell? ⟨bb, 0, none⟩ = some (.int .i64 (limP f)) ∧ bb < wW.heap.size) := by
                have q1 := ((Below.refl wR.heap.size wR).alloc (Nat.le_refl _) (.cells #[.int .i64 0, .bool false, .int .i64 0, .string { data := #[] }] 25))
                have q2 := bel1 q1 hbW
                exact ⟨(q2.cell (p := ⟨bb, 0, none⟩) HQR.out.2).trans HQR.out.1, Nat.lt_of_lt_of_le HQR.out.2 q2.size⟩)
           | skip
         first
           | (have HPW : Hid (At4 wW w3.heap.size (.int .i64 0) (.bool false) (.int .i64 0) (.string { data := #[] })) := (at4_new w3.drew (.int .i64 0) (.bool false) (.int .i64 0) (.string { data := #[] })).below hbW (by simp); obtain ⟨z0, z1, z2, z3, z4⟩ := HPW.out)
           | (have HPW : Hid (At4 wW wR.heap.size (.int .i64 0) (.bool false) (.int .i64 0) (.string { data := #[] })) := (at4_new wR (.int .i64 0) (.bool false) (.int .i64 0) (.string { data := #[] })).below hbW (by simp); obtain ⟨z0, z1, z2, z3, z4⟩ := HPW.out)
           | (have HPW : Hid (At4 wW w3.heap.size (.int .i64 0) (.bool false) (.int .i64 0) (.string { data := #[] })) := HPR.out.below hbW (World.block_lt_of_cell? _ _ HPR.out.1); clear z0 z1 z2 z3 z4; obtain ⟨z0, z1, z2, z3, z4⟩ := HPW.out)
           | skip))
    all_goals
      have HB9 : Hid (Below w.heap.size w wW) := bel1 HA3.out.2.1 HBW.out
      go_wp2
      go_meet
      case rel =>
        first
          | exact ⟨bb, _, rfl, rfl, cq_new HQW.out HB9.out 1 b (e + t) (tx T)⟩
          | exact ⟨bb, _, rfl, rfl, cq_put HQW.out HPW.out (Nat.ne_of_lt HQR.out.2) (Nat.le_trans HA3.out.2.1.size HBR.out.size) HB9.out 1 b (e + t) (tx T)⟩
          | exact ⟨bb, _, rfl, rfl, cq_put HQW.out HPW.out (by have := HLE.out; simp at this; omega) HA3.out.2.1.size HB9.out 1 b (e + t) (tx T)⟩
  case rest =>
    obtain ⟨bb, p, rfl, rfl, HC⟩ := hcut
    clear HA3 HRm HWn
    have hE := HEn.out
    unfold RmVz
    go_upto_region 7 with fail
    have HX0 : Hid (Below wc.heap.size wc wc.drew) := (Below.refl _ _).drew
    have hw1 : IntKind.i64.wrap (e + (t : Int) - (limP f - (T.length : Int))) = e + t - (limP f - T.length) := by rw [IntKind.wrap_i64]; omega
    refine wp_region_class (C := fun W => Below wc.heap.size wc W) (by kernel_rfl) (by kernel_rfl) HX0.out ?_
    repeat (refine wpQuiet_step (fun K hK => ?_); go_simp; first | (refine hK _ ?_; clear hK K) | (apply Exists.intro; refine ⟨fun wx hC => ?_, hK _ ?_⟩; (first | exact rfl | (obtain ⟨a0, a1, a2, a3, a4⟩ := (HC.out.next hC).2.2.1; go_simp; exact rfl) | (refine (HR1.out bb wx (HC.out.next hC).1).mono ?_; rintro x w' ⟨rfl, rfl⟩; exact ⟨rfl, hC⟩)); clear hK K))
    refine wpQuiet_nil ?_
    intro w5 hb5
    have HC5 : Hid (CQ w (limP f) bb p 1 b (e + t) (tx T) w5) := HC.out.next hb5
    clear hb5 HC HX0 HR1
    obtain ⟨i0, hi, hz0, hz1, hz2⟩ := info_parts infoNum
    have HO : Hid (HasN (w5.alloc (.cells #[] 25)) w5.heap.size (.slice (some ⟨w5.heap.size, 0, none⟩) 0 0) (cohL b lo Z T 0)) := World.ownsRow_made w5 #[] 0 (Nat.le_refl _) (Nat.zero_le _) rfl
    have hB6 : Below w5.heap.size w5 (w5.alloc (.cells #[] 25)) := (Below.refl _ _).alloc (Nat.le_refl _) _
    have HP6 : Hid (At4 (w5.alloc (.cells #[] 25)) p (.int .i64 1) (.bool b) (.int .i64 (e + t)) (.string (tx T)) ∧ Below w.heap.size w (w5.alloc (.cells #[] 25)) ∧ w5.heap.size ≤ (w5.alloc (.cells #[] 25)).heap.size) := ⟨(HC5.out.next hB6).2.2.1, bel1 HC5.out.2.2.2.2.2 hB6, hB6.size⟩
    have HPl : Hid (p < w5.heap.size ∧ w.heap.size ≤ p) := ⟨HC5.out.2.2.2.2.1, HC5.out.2.2.2.1⟩
    obtain ⟨mn, hmn⟩ : ∃ mn, min (limH f) (e + (t : Int)) = mn := ⟨_, rfl⟩
    rw [hmn] at HMn
    clear hw1 hmx HC5 hB6 hn he zT zL hf
    go_wp2
    go_loopg [11, 12] M (fun gk s11 s12 wx => ∃ i : Nat, i ≤ M ∧ Hid (gk = M - i) ∧ Hid (HasN wx w5.heap.size s11 (cohL b lo Z T i)) ∧ s12 = .int .i64 (lo + (i : Int)) ∧ Hid (At4 wx p (.int .i64 1) (.bool b) (.int .i64 (e + t)) (.string (tx T)) ∧ Below w.heap.size w wx ∧ w5.heap.size ≤ wx.heap.size))
    case atStart => exact ⟨0, Nat.zero_le _, rfl, HO, Ln.val_int (by omega), HP6⟩
    case round =>
      obtain ⟨i, hiM, hgk, hown, rfl, hA⟩ := hrel
      obtain ⟨a0, a1, a2, a3, a4⟩ := hA.out.1
      by_cases hlt : i < M
      · have hle : lo + (i : Int) ≤ mn := (HMn.out i).2 hlt
        have HL : Hid (∀ X, Calls Tryd.prog 22 #[numV 1 b (e + t) (tx T), .int .i64 (lo + (i : Int))] X fun x w' => x = .returned (numV 1 b (lo + (i : Int)) (tx (T ++ List.replicate (Z - i) 0))) ∧ Below X.heap.size X w') := HLw.out i hlt
        have HIt : Hid (itm b lo Z T i = (1, b, lo + (i : Int), tx (T ++ List.replicate (Z - i) 0))) := rfl
        generalize tx (T ++ List.replicate (Z - i) 0) = S at *
        have hlen := cohL_len b lo Z T i
        have w1 : IntKind.i64.wrap (lo + (i : Int) + 1) = lo + (i : Int) + 1 := by rw [IntKind.wrap_i64]; omega
        go_wp2_with fail
        clear a0 a1 a2 a3 a4
        refine (HL.out _).mono ?_
        rintro x w6 ⟨rfl, hb6⟩
        have HA6 : Hid (At4 w6 p (.int .i64 1) (.bool b) (.int .i64 (e + t)) (.string (tx T)) ∧ Below w.heap.size w w6 ∧ w5.heap.size ≤ w6.heap.size) := ⟨hA.out.1.below hb6 (World.block_lt_of_cell? _ _ hA.out.1.1), bel1 hA.out.2.1 hb6, Nat.le_trans hA.out.2.2 hb6.size⟩
        have hown0 : w6.ownsRow w5.heap.size 25 4 _ (cohL b lo Z T i).length (nq (cohL b lo Z T i)) := hown.out.below hb6 (Nat.le_refl _)
        rw [hlen] at hown0
        clear hb6 hA hown
        have hlt6 : p < w6.heap.size := World.block_lt_of_cell? _ _ HA6.out.1.1
        have hsz6 := HA6.out.2.2
        have hpl := HPl.out
        go_wp2_with (first | (at_builtin; refine wpList_append_own _ rfl _ _ 28 rfl w5.heap.size 25 i0 (.agg #[.int .i64 0, .bool false, .int .i64 0, .string { data := #[] }]) 4 40 Tryd.underlying28 hi hz0 hz1 hz2 rfl (by decide) _ _ _ rfl (hown0.alloc _) ⟨w6.heap.size, 0, none⟩ 1 1 [.int .i64 1, .bool b, .int .i64 (lo + (i : Int)), .string S] rfl rfl (num_new _ _ _ _ _) (num_cell _ _ _ _) (by unfold maxLen; omega) (by omega) (by simp; omega) ?_) | go_in)
        intro v' w7 hown7 hgrow _
        have hb7 : Below w.heap.size w w7 := Below.grown (HA6.out.2.1.alloc (by omega) _) hgrow (by simp; omega) (fun k hk => by have := (hown0.lt k hk).1; omega)
        have hs7 : w6.heap.size ≤ w7.heap.size := by have := hgrow.size; simp at this; omega
        have HA7 : Hid (At4 w7 p (.int .i64 1) (.bool b) (.int .i64 (e + t)) (.string (tx T)) ∧ Below w.heap.size w w7 ∧ w5.heap.size ≤ w7.heap.size) := ⟨at4_same (hgrow.block _ (by simp; omega) (fun hq => by have := (hown0.lt _ hq.symm).1; omega)) (HA6.out.1.alloc hlt6 _), hb7, by omega⟩
        have H7 : Hid (HasN w7 w5.heap.size v' (cohL b lo Z T (i + 1))) := by
          rw [cohL_succ, HIt.out]
          exact hasN_more hown7 (by rw [hlen])
        clear hown7 hgrow hown0 hb7 hlt6 HA6 hsz6 hpl hs7
        go_wp2
        go_roundg (M - (i + 1))
        case measure => have := hgk.out; omega
        case rel => exact ⟨i + 1, by omega, rfl, H7, Ln.val_int (by omega), HA7⟩
      · have hle : ¬ lo + (i : Int) ≤ mn := fun q => hlt ((HMn.out i).1 q)
        have ei : i = M := by omega
        subst ei
        have HF : Hid (HasN _ w.heap.size _ (cohL b lo Z T i)) := World.ownsRow.mono hown.out (Nat.le_trans HPl.out.2 (Nat.le_of_lt HPl.out.1))
        clear hlt
        go_wp2
        go_ret
        exact ⟨_, rfl, HF.out, hA.out.2.1⟩
end Go.Proofs.YtnkoeidolmiheaaDoor
namespace Go.Proofs.YtnkoeidolmiheaaDoor
open Go.RowKit
set_option linter.unusedVariables false
set_option maxRecDepth 100000
/-- What a cohort's function answers: a slice of its own with these numbers. -/
def Tells (fn : FuncId) (args : Array Value) (l : List Nmt) : Prop := ∀ X : World, Calls Tryd.prog fn args X fun x w' => ∃ v, x = .returned v ∧ HasN w' X.heap.size v l ∧ Below X.heap.size X w'
theorem sCohort_no (f k : Int) (b : Bool) (e : Int) (s : ByteArray) (hs : s.size ≤ 4611686018427387904) (h : numB f k b e s = false ∨ k ≠ 1) : Tells 7 #[.int .i64 f, numV k b e s] [] := by
  intro w
  have HNb : Hid (∀ X, Calls Tryd.prog 23 #[.int .i64 f, numV k b e s] X fun x w' => x = .returned (.bool (numB f k b e s)) ∧ Below X.heap.size X w') := fun X => sNumOk_any f k b e s X hs
  have h4 := at4_new w (.int .i64 k) (.bool b) (.int .i64 e) (.string s)
  have z1 : (w.alloc (.cells #[.int .i64 k, .bool b, .int .i64 e, .string s] 25)).heap.size = w.heap.size + 1 := by simp
  have b1 : Below w.heap.size w (w.alloc (.cells #[.int .i64 k, .bool b, .int .i64 e, .string s] 25)) := (Below.refl _ _).alloc (Nat.le_refl _) _
  have HH : Hid (numB f k b e s = false ∨ k ≠ 1) := h
  generalize numB f k b e s = O at *
  clear h hs
  go_enter Tryd.func7, Tryd.ntmps7
  go_upto_region 1 with fail
  generalize w.alloc (.cells #[.int .i64 k, .bool b, .int .i64 e, .string s] 25) = w1 at *
  have HO : Hid (HasN (w1.alloc (.cells #[] 25)) w.heap.size (.slice (some ⟨w1.heap.size, 0, none⟩) 0 0) []) := World.ownsRow_made w1 #[] 0 (by omega) (Nat.zero_le _) rfl
  have b2 : Below w1.heap.size w1 (w1.alloc (.cells #[] 25)) := (Below.refl _ _).alloc (Nat.le_refl _) _
  have HA : Hid (At4 (w1.alloc (.cells #[] 25)) w.heap.size (.int .i64 k) (.bool b) (.int .i64 e) (.string s) ∧ Below w.heap.size w (w1.alloc (.cells #[] 25))) := ⟨h4.below b2 (by omega), bel1 b1 b2⟩
  clear h4 b1 b2 z1
  obtain ⟨a0, a1, a2, a3, a4⟩ := HA.out.1
  go_wp2_with fail
  clear a0 a1 a2 a3 a4
  refine (HNb.out _).mono ?_
  rintro x w2 ⟨rfl, hb2⟩
  have HA2 : Hid (At4 w2 w.heap.size (.int .i64 k) (.bool b) (.int .i64 e) (.string s) ∧ Below w.heap.size w w2) := ⟨HA.out.1.below hb2 (World.block_lt_of_cell? _ _ HA.out.1.1), bel1 HA.out.2 hb2⟩
  have HO2 : Hid (HasN w2 w.heap.size (.slice (some ⟨w1.heap.size, 0, none⟩) 0 0) []) := HO.out.below hb2 (Nat.le_refl _)
  generalize (⟨w1.heap.size, 0, none⟩ : Addr) = ad at *
  clear hb2 HA HO HNb
  obtain ⟨a0, a1, a2, a3, a4⟩ := HA2.out.1
  cases O with
  | false =>
    go_wp2
    go_ret
    exact ⟨_, rfl, HO2.out, HA2.out.2⟩
  | true =>
    have hk : k ≠ 1 := HH.out.resolve_left (by decide)
    have hk1 : (k == 1) = false := beq_eq_false_iff_ne.2 hk
    go_wp2
    go_ret
    exact ⟨_, rfl, HO2.out, HA2.out.2⟩
theorem iCohort_no (f k : Int) (b : Bool) (e : Int) (s : ByteArray) (hs : s.size ≤ 4611686018427387904) (h : numB f k b e s = false ∨ k ≠ 1) : Tells 6 #[.int .i64 f, numV k b e s] [] := by
  intro w
  have HNb : Hid (∀ X, Calls Tryd.prog 8 #[.int .i64 f, numV k b e s] X fun x w' => x = .returned (.bool (numB f k b e s)) ∧ Below X.heap.size X w') := fun X => iNumOk_any f k b e s X hs
  have h4 := at4_new w (.int .i64 k) (.bool b) (.int .i64 e) (.string s)
  have HA : Hid (At4 (w.alloc (.cells #[.int .i64 k, .bool b, .int .i64 e, .string s] 25)) w.heap.size (.int .i64 k) (.bool b) (.int .i64 e) (.string s) ∧ Below w.heap.size w (w.alloc (.cells #[.int .i64 k, .bool b, .int .i64 e, .string s] 25))) := ⟨h4, (Below.refl _ _).alloc (Nat.le_refl _) _⟩
  have HH : Hid (numB f k b e s = false ∨ k ≠ 1) := h
  have HO : Hid (∀ W : World, HasN W w.heap.size (.slice none 0 0) []) := fun W => ⟨rfl, .inl ⟨rfl, rfl⟩⟩
  generalize numB f k b e s = O at *
  clear h hs h4
  go_enter Tryd.func6, Tryd.ntmps6
  go_wp2_with fail
  refine (HNb.out _).mono ?_
  rintro x w2 ⟨rfl, hb2⟩
  have HA2 : Hid (At4 w2 w.heap.size (.int .i64 k) (.bool b) (.int .i64 e) (.string s) ∧ Below w.heap.size w w2) := ⟨HA.out.1.below hb2 (World.block_lt_of_cell? _ _ HA.out.1.1), bel1 HA.out.2 hb2⟩
  clear hb2 HA HNb
  obtain ⟨a0, a1, a2, a3, a4⟩ := HA2.out.1
  cases O with
  | false =>
    go_wp2
    go_ret
    exact ⟨_, rfl, HO.out _, HA2.out.2⟩
  | true =>
    have hk : k ≠ 1 := HH.out.resolve_left (by decide)
    have hk1 : (k == 1) = false := beq_eq_false_iff_ne.2 hk
    go_wp2
    go_ret
    exact ⟨_, rfl, HO.out _, HA2.out.2⟩
theorem sCohort_zero (f : Int) (b : Bool) (e : Int) (hO : numB f 1 b e { data := #[48] } = true) : Tells 7 #[.int .i64 f, numV 1 b e { data := #[48] }] [(1, b, e, { data := #[48] })] := by
  intro w
  have HNb : Hid (∀ X, Calls Tryd.prog 23 #[.int .i64 f, numV 1 b e { data := #[48] }] X fun x w' => x = .returned (.bool true) ∧ Below X.heap.size X w') := fun X => by
    have := sNumOk_any f 1 b e { data := #[48] } X (by decide)
    rwa [hO] at this
  have h4 := at4_new w (.int .i64 1) (.bool b) (.int .i64 e) (.string { data := #[48] })
  have z1 : (w.alloc (.cells #[.int .i64 1, .bool b, .int .i64 e, .string { data := #[48] }] 25)).heap.size = w.heap.size + 1 := by simp
  have b1 : Below w.heap.size w (w.alloc (.cells #[.int .i64 1, .bool b, .int .i64 e, .string { data := #[48] }] 25)) := (Below.refl _ _).alloc (Nat.le_refl _) _
  obtain ⟨i0, hi, hz0, hz1, hz2⟩ := info_parts infoNum
  clear hO
  go_enter Tryd.func7, Tryd.ntmps7
  go_upto_region 1 with fail
  generalize w.alloc (.cells #[.int .i64 1, .bool b, .int .i64 e, .string { data := #[48] }] 25) = w1 at *
  have HO : Hid (HasN (w1.alloc (.cells #[] 25)) w.heap.size (.slice (some ⟨w1.heap.size, 0, none⟩) 0 0) []) := World.ownsRow_made w1 #[] 0 (by omega) (Nat.zero_le _) rfl
  have b2 : Below w1.heap.size w1 (w1.alloc (.cells #[] 25)) := (Below.refl _ _).alloc (Nat.le_refl _) _
  have HA : Hid (At4 (w1.alloc (.cells #[] 25)) w.heap.size (.int .i64 1) (.bool b) (.int .i64 e) (.string { data := #[48] }) ∧ Below w.heap.size w (w1.alloc (.cells #[] 25))) := ⟨h4.below b2 (by omega), bel1 b1 b2⟩
  clear h4 b1 b2 z1
  obtain ⟨a0, a1, a2, a3, a4⟩ := HA.out.1
  go_wp2_with fail
  clear a0 a1 a2 a3 a4
  refine (HNb.out _).mono ?_
  rintro x w2 ⟨rfl, hb2⟩
  have HA2 : Hid (At4 w2 w.heap.size (.int .i64 1) (.bool b) (.int .i64 e) (.string { data := #[48] }) ∧ Below w.heap.size w w2) := ⟨HA.out.1.below hb2 (World.block_lt_of_cell? _ _ HA.out.1.1), bel1 HA.out.2 hb2⟩
  have HO2 : Hid (HasN w2 w.heap.size (.slice (some ⟨w1.heap.size, 0, none⟩) 0 0) []) := HO.out.below hb2 (Nat.le_refl _)
  generalize (⟨w1.heap.size, 0, none⟩ : Addr) = ad at *
  clear hb2 HA HO HNb
  obtain ⟨a0, a1, a2, a3, a4⟩ := HA2.out.1
  have hsz2 := HA2.out.2.size
  have hown0 : w2.ownsRow w.heap.size 25 4 (.slice (some ad) 0 0) 0 [] := HO2.out
  go_wp2_with (first | (at_builtin; refine wpList_append_own _ rfl _ _ 28 rfl w.heap.size 25 i0 (.agg #[.int .i64 0, .bool false, .int .i64 0, .string { data := #[] }]) 4 40 Tryd.underlying28 hi hz0 hz1 hz2 rfl (by decide) _ _ _ rfl (hown0.alloc _) ⟨w2.heap.size, 0, none⟩ 1 1 [.int .i64 1, .bool b, .int .i64 e, .string { data := #[48] }] rfl rfl (num_new _ _ _ _ _) (num_cell _ _ _ _) (by unfold maxLen; omega) (by omega) (by simp; omega) ?_) | go_in)
  intro v' w5 hown5 hgrow _
  have hb5 : Below w.heap.size w w5 := Below.grown (HA2.out.2.alloc hsz2 _) hgrow (by simp; omega) (fun k hk => by have := (hown0.lt k hk).1; omega)
  have H5 : Hid (HasN w5 w.heap.size v' [(1, b, e, { data := #[48] })]) := hown5
  clear hown5 hgrow hown0 a0 a1 a2 a3 a4
  go_wp2
  go_ret
  exact ⟨v', rfl, H5.out, hb5⟩
theorem isNought_yes (b : Bool) (e : Int) (w : World) : Calls Tryd.prog 17 #[numV 1 b e { data := #[48] }] w fun x w' => x = .returned (.bool true) ∧ Below w.heap.size w w' := by
  go_enter Tryd.func17, Tryd.ntmps17
  go_wp2
  go_ret
  exact ⟨rfl, (Below.refl _ _).alloc (Nat.le_refl _) _⟩
theorem iCohort_zero (f : Int) (b : Bool) (e : Int) (hO : numB f 1 b e { data := #[48] } = true) : Tells 6 #[.int .i64 f, numV 1 b e { data := #[48] }] [(1, b, e, { data := #[48] })] := by
  intro w
  have HNb : Hid (∀ X, Calls Tryd.prog 8 #[.int .i64 f, numV 1 b e { data := #[48] }] X fun x w' => x = .returned (.bool true) ∧ Below X.heap.size X w') := fun X => by
    have := iNumOk_any f 1 b e { data := #[48] } X (by decide)
    rwa [hO] at this
  have HNo : Hid (∀ X, Calls Tryd.prog 17 #[numV 1 b e { data := #[48] }] X fun x w' => x = .returned (.bool true) ∧ Below X.heap.size X w') := fun X => isNought_yes b e X
  have HCp : Hid (∀ X, Calls Tryd.prog 18 #[numV 1 b e { data := #[48] }] X fun x w' => x = .returned (numV 1 b e { data := #[48] }) ∧ Below X.heap.size X w') := fun X => copied_anyz 1 b e { data := #[48] } X (by decide)
  have h4 := at4_new w (.int .i64 1) (.bool b) (.int .i64 e) (.string { data := #[48] })
  have HA : Hid (At4 (w.alloc (.cells #[.int .i64 1, .bool b, .int .i64 e, .string { data := #[48] }] 25)) w.heap.size (.int .i64 1) (.bool b) (.int .i64 e) (.string { data := #[48] }) ∧ Below w.heap.size w (w.alloc (.cells #[.int .i64 1, .bool b, .int .i64 e, .string { data := #[48] }] 25))) := ⟨h4, (Below.refl _ _).alloc (Nat.le_refl _) _⟩
  clear hO h4
  go_enter Tryd.func6, Tryd.ntmps6
  go_wp2_with fail
  refine (HNb.out _).mono ?_
  rintro x w1 ⟨rfl, hb1⟩
  have HA1 : Hid (At4 w1 w.heap.size (.int .i64 1) (.bool b) (.int .i64 e) (.string { data := #[48] }) ∧ Below w.heap.size w w1) := ⟨HA.out.1.below hb1 (World.block_lt_of_cell? _ _ HA.out.1.1), bel1 HA.out.2 hb1⟩
  clear hb1 HA HNb
  obtain ⟨a0, a1, a2, a3, a4⟩ := HA1.out.1
  go_wp2_with fail
  clear a0 a1 a2 a3 a4
  refine (HNo.out _).mono ?_
  rintro x w2 ⟨rfl, hb2⟩
  have HA2 : Hid (At4 w2 w.heap.size (.int .i64 1) (.bool b) (.int .i64 e) (.string { data := #[48] }) ∧ Below w.heap.size w w2) := ⟨HA1.out.1.below hb2 (World.block_lt_of_cell? _ _ HA1.out.1.1), bel1 HA1.out.2 hb2⟩
  clear hb2 HA1 HNo
  obtain ⟨a0, a1, a2, a3, a4⟩ := HA2.out.1
  go_wp2_with fail
  clear a0 a1 a2 a3 a4
  refine (HCp.out _).mono ?_
  rintro x w3 ⟨rfl, hb3⟩
  have HB3 : Hid (Below w.heap.size w w3) := bel1 HA2.out.2 hb3
  have HF : Hid (HasN (w3.alloc (.cells #[.int .i64 1, .bool b, .int .i64 e, .string { data := #[48] }] 25)) w.heap.size (.slice (some ⟨w3.heap.size, 0, none⟩) 1 1) [(1, b, e, { data := #[48] })]) := World.ownsRow_lit (base := w.heap.size) (e := 25) (size := 4) w3 #[.int .i64 1, .bool b, .int .i64 e, .string { data := #[48] }] 1 HB3.out.size (by decide) (by simp)
  clear hb3 HA2
  go_wp2
  go_ret
  exact ⟨_, rfl, HF.out, HB3.out.alloc HB3.out.size _⟩
theorem canon_part (T T' : List Int) (d : Int) (t : Nat) (hc : Canon (T ++ List.replicate t 0)) (hT : T = T' ++ [d]) (hd : d ≠ 0) : Canon T ∧ T ≠ [0] := by
  have hl : 0 < T.length := by rw [hT]; simp
  refine ⟨⟨fun x hx => hc.1 x (List.mem_append.2 (.inl hx)), hl, ?_⟩, fun q => ?_⟩
  · by_cases h1 : T.length = 1
    · exact .inl h1
    · rcases hc.2.2 with h | h
      · rw [List.length_append] at h; omega
      · right
        intro q
        apply h
        cases T with
        | nil => exact absurd hl (by decide)
        | cons x r => exact q
  · rw [q] at hT
    cases T' with
    | nil => simp at hT; exact hd hT.symm
    | cons x r => simp at hT
theorem cohort_both (f k : Int) (b : Bool) (e : Int) (s : ByteArray) (hs : s.size ≤ 4611686018427387904) : ∃ l : List Nmt, l.length ≤ 100 ∧ Tells 7 #[.int .i64 f, numV k b e s] l ∧ Tells 6 #[.int .i64 f, numV k b e s] l := by
  cases hO : numB f k b e s with
  | false => exact ⟨[], by decide, sCohort_no f k b e s hs (.inl hO), iCohort_no f k b e s hs (.inl hO)⟩
  | true =>
    by_cases hk : k = 1
    case neg => exact ⟨[], by decide, sCohort_no f k b e s hs (.inr hk), iCohort_no f k b e s hs (.inr hk)⟩
    subst hk
    obtain ⟨hf, hs1, -, hc⟩ := right_twoz f 1 b e s hO (by decide) (by decide)
    obtain ⟨cc, lp, e1, e2⟩ := hc rfl
    by_cases hz : dl s = [0]
    · have e0 : s = { data := #[48] } := by
        rw [hs1, hz]
        apply ByteArray.ext
        rw [tx_data]
        rfl
      subst e0
      exact ⟨[(1, b, e, { data := #[48] })], by simp, sCohort_zero f b e hO, iCohort_zero f b e hO⟩
    · obtain ⟨T, t, hL, T', d, hTd, hd⟩ := tail_noughts (dl s) (canon_some _ cc hz)
      generalize dl s = L at *
      subst hs1 hL
      obtain ⟨cT, zT⟩ := canon_part T T' d t cc hTd hd
      have hlen : ((T.length + t : Nat) : Int) ≤ limP f := by
        rw [List.length_append, List.length_replicate] at lp
        exact lp
      have h34 := limsz f hf
      have hne : ((tx (T ++ List.replicate t 0)).toList == [48]) = false := by
        refine beq_eq_false_iff_ne.2 fun q => hz ?_
        have : tx (T ++ List.replicate t 0) = tx [0] := by
          apply ByteArray.ext
          apply Array.toList_inj.1
          rw [← ByteArray.toList_eq, q, tx_data]
          rfl
        rw [← dl_tx (T ++ List.replicate t 0) cc.1, this]
        exact dl_tx [0] (fun d hd => by simp at hd; omega)
      obtain ⟨J, hJ⟩ : ∃ J : Nat, (J : Int) = min (limP f - (T.length + t : Nat)) (e - limL f) := ⟨(min (limP f - (T.length + t : Nat)) (e - limL f)).toNat, by omega⟩
      obtain ⟨M, hM⟩ : ∃ M : Nat, (M : Int) = min ((t + J : Nat) : Int) (limH f - (e - (J : Int))) + 1 := ⟨(min ((t + J : Nat) : Int) (limH f - (e - (J : Int))) + 1).toNat, by omega⟩
      refine ⟨cohL b (e - (J : Int)) (t + J) T M, by rw [cohL_len]; omega, fun X => ?_, fun X => ?_⟩
      · exact sCohort_fin f hf b e T t cT.1 ⟨T', d, hTd, hd⟩ hlen ⟨e1, e2⟩ hO hz J (t + J) M (e - (J : Int)) hJ rfl rfl hM X
      · exact iCohort_fin f hf b e T t cT.1 ⟨T', d, hTd, hd⟩ cT zT hlen ⟨e1, e2⟩ hO hne J (t + J) M (e - (J : Int)) hJ rfl rfl hM X
end Go.Proofs.YtnkoeidolmiheaaDoor
