/-
  Cohorts: what both sides tell, and the model's walk.
-/
import Derived.Test.YtcflomcankcggatDoorNmr
import Derived.Test.YtcflomcankcggatDoorChz
namespace Go.Proofs.YtcflomcankcggatDoor
open Go.RowKit
set_option linter.unusedVariables false
set_option maxRecDepth 100000
/-- The i-th of a cohort. -/
def itm (b : Bool) (lo : Int) (Z : Nat) (T : List Int) (i : Nat) : Nmt := (1, b, lo + i, tx (T ++ List.replicate (Z - i) 0))
def cohL (b : Bool) (lo : Int) (Z : Nat) (T : List Int) (M : Nat) : List Nmt := (List.range M).map (itm b lo Z T)
theorem cohL_succ (b : Bool) (lo : Int) (Z : Nat) (T : List Int) (M : Nat) : cohL b lo Z T (M + 1) = cohL b lo Z T M ++ [itm b lo Z T M] := by
  unfold cohL
  rw [List.range_succ, List.map_append]
  rfl
theorem cohL_len (b : Bool) (lo : Int) (Z : Nat) (T : List Int) (M : Nat) : (cohL b lo Z T M).length = M := by
  unfold cohL
  rw [List.length_map, List.length_range]
/-- Digits without noughts behind, and how many noughts: what is not nought has both. -/
theorem tail_noughts (L : List Int) (h : ∃ d ∈ L, d ≠ 0) : ∃ (T : List Int) (t : Nat), L = T ++ List.replicate t 0 ∧ ∃ T' d, T = T' ++ [d] ∧ d ≠ 0 := by
  have key : ∀ R : List Int, (∃ d ∈ R, d ≠ 0) → ∃ (T : List Int) (t : Nat), R.reverse = T ++ List.replicate t 0 ∧ ∃ T' d, T = T' ++ [d] ∧ d ≠ 0 := by
    intro R
    induction R with
    | nil => intro h; obtain ⟨d, hd, -⟩ := h; cases hd
    | cons x r ih =>
      intro h
      rw [List.reverse_cons]
      by_cases hx : x = 0
      · subst hx
        obtain ⟨T, t, e, hT⟩ := ih (by
          obtain ⟨d, hd, hn⟩ := h
          rcases List.mem_cons.1 hd with c | c
          · exact absurd c hn
          · exact ⟨d, c, hn⟩)
        refine ⟨T, t + 1, ?_, hT⟩
        rw [e, List.append_assoc, List.replicate_succ']
      · exact ⟨r.reverse ++ [x], 0, by simp, r.reverse, x, rfl, hx⟩
  have := key L.reverse (by obtain ⟨d, hd, hn⟩ := h; exact ⟨d, List.mem_reverse.2 hd, hn⟩)
  rwa [List.reverse_reverse] at this
theorem canon_some (L : List Int) (hc : Canon L) (hz : L ≠ [0]) : ∃ d ∈ L, d ≠ 0 := by
  cases L with
  | nil => exact absurd hc.2.1 (by decide)
  | cons x r =>
    refine ⟨x, List.mem_cons_self, fun hx => ?_⟩
    rcases hc.2.2 with h | h
    · rw [List.length_cons] at h
      have : r = [] := List.length_eq_zero_iff.1 (by omega)
      rw [hx, this] at hz
      exact hz rfl
    · exact h hx
/-- The last digit of a text with noughts behind. -/
theorem last_nought (T : List Int) (m : Nat) : (T ++ List.replicate (m + 1) 0).getD ((T ++ List.replicate (m + 1) 0).length - 1) 0 = 0 := by
  rw [List.replicate_succ', ← List.append_assoc]
  simp [List.getD]
theorem last_some (T' : List Int) (d : Int) : ((T' ++ [d]) ++ List.replicate 0 0).getD (((T' ++ [d]) ++ List.replicate 0 0).length - 1) 0 = d := by
  simp [List.getD]
theorem less_nought (T : List Int) (m : Nat) : (T ++ List.replicate (m + 1) 0).take ((T ++ List.replicate (m + 1) 0).length - 1) = T ++ List.replicate m 0 := by
  rw [List.replicate_succ', ← List.append_assoc, List.length_append, List.length_singleton, Nat.add_sub_cancel, List.take_left]
theorem dec_tail0 (T : List Int) (h : Dec T) (m : Nat) : Dec (T ++ List.replicate m 0) := fun d hd => by
  rcases List.mem_append.1 hd with c | c
  · exact h d c
  · have := (List.mem_replicate.1 c).2; omega
theorem at4_same {W W' : World} {b : Nat} {x y z u : Value} (e : W'.heap[b]? = W.heap[b]?) (h : At4 W b x y z u) : At4 W' b x y z u := by
  have c : ∀ i, W'.cell? ⟨b, i, none⟩ = W.cell? ⟨b, i, none⟩ := fun i => by simp only [World.cell?, e]
  have f : ∀ i, W'.frozen? ⟨b, i, none⟩ = W.frozen? ⟨b, i, none⟩ := fun i => by simp only [World.frozen?, e]
  exact ⟨(c 0).trans h.1, (c 1).trans h.2.1, (c 2).trans h.2.2.1, (c 3).trans h.2.2.2.1, fun i => (f i).trans (h.2.2.2.2 i)⟩
theorem num_new (W : World) (k : Int) (b : Bool) (e : Int) (s : ByteArray) : ∀ (i : Nat) (u : Value), [Value.int .i64 k, .bool b, .int .i64 e, .string s][i]? = some u → (W.alloc (.cells #[.int .i64 k, .bool b, .int .i64 e, .string s] 26)).cell? ((⟨W.heap.size, 0, none⟩ : Addr).add i) = some u := fun i u hu => by
  match i, hu with
  | 0, hu => simp at hu; subst hu; simp [Addr.add]
  | 1, hu => simp at hu; subst hu; simp [Addr.add]
  | 2, hu => simp at hu; subst hu; simp [Addr.add]
  | 3, hu => simp at hu; subst hu; simp [Addr.add]
theorem num_cell (k : Int) (b : Bool) (e : Int) (s : ByteArray) : ∀ u ∈ [Value.int .i64 k, .bool b, .int .i64 e, .string s], u.oneCell' = true := fun u hu => by
  simp at hu
  rcases hu with rfl | rfl | rfl | rfl <;> rfl
set_option maxRecDepth 100000 in
set_option maxHeartbeats 4000000 in
theorem sCohort_fin (f : Int) (hf : f = 64 ∨ f = 128) (b : Bool) (e : Int) (T : List Int) (t : Nat) (hD : Dec T) (hT : ∃ T' d, T = T' ++ [d] ∧ d ≠ 0) (hn : ((T.length + t : Nat) : Int) ≤ limP f) (he : limL f ≤ e ∧ e ≤ limH f) (hO : numB f 1 b e (tx (T ++ List.replicate t 0)) = true) (hz : T ++ List.replicate t 0 ≠ [0])
    (J Z M : Nat) (lo : Int) (hJ : (J : Int) = min (limP f - (T.length + t : Nat)) (e - limL f)) (hlo : lo = e - J) (hZ : Z = t + J) (hM : (M : Int) = min (Z : Int) (limH f - lo) + 1) (w : World) :
    Calls Tryd.prog 9 #[.int .i64 f, numV 1 b e (tx (T ++ List.replicate t 0))] w fun x w' => ∃ v, x = .returned v ∧ HasN w' w.heap.size v (cohL b lo Z T M) ∧ Below w.heap.size w w' := by
  obtain ⟨T', d, rfl, hd0⟩ := hT
  generalize hTT : T' ++ [d] = T at *
  have hL34 : limP f ≤ 34 ∧ -6176 ≤ limL f ∧ limH f ≤ 6111 := limsz f hf
  have hTl : 0 < T.length := by rw [← hTT]; simp
  obtain ⟨P, hP⟩ : ∃ P, limP f = P := ⟨_, rfl⟩
  obtain ⟨lw, hlw⟩ : ∃ P, limL f = P := ⟨_, rfl⟩
  obtain ⟨hg, hhg⟩ : ∃ P, limH f = P := ⟨_, rfl⟩
  have HLm : Hid (∀ X, Calls Tryd.prog 19 #[.int .i64 f] X fun r w' => r = .returned (.tuple #[.int .i64 P, .int .i64 lw, .int .i64 hg]) ∧ w' = X) := fun X => by
    have := Limits_any f X
    rwa [hP, hlw, hhg] at this
  rw [hP] at hn hJ hL34
  rw [hlw] at he hJ hL34
  rw [hhg] at he hM hL34
  have HNb : Hid (∀ X, Calls Tryd.prog 14 #[.int .i64 f, numV 1 b e (tx (T ++ List.replicate t 0))] X fun x w' => x = .returned (.bool true) ∧ Below X.heap.size X w') := fun X => by
    have := sNumOk_any f 1 b e (tx (T ++ List.replicate t 0)) X (by rw [tx_size, List.length_append, List.length_replicate]; omega)
    rwa [hO] at this
  have hne : ((tx (T ++ List.replicate t 0)).toList == [48]) = false := by
    refine beq_eq_false_iff_ne.2 fun q => hz ?_
    have : tx (T ++ List.replicate t 0) = tx [0] := by
      apply ByteArray.ext
      apply Array.toList_inj.1
      rw [← ByteArray.toList_eq, q, tx_data]
      rfl
    rw [← dl_tx (T ++ List.replicate t 0) (dec_tail0 T hD t), this]
    exact dl_tx [0] (fun d hd => by simp at hd; omega)
  have HD : Hid (Dec T) := hD
  have HTT : Hid (∃ T' d, T' ++ [d] = T ∧ d ≠ 0) := ⟨T', d, hTT, hd0⟩
  clear hO hz hD hP hlw hhg hf hTT hd0
  have h4 := at4_new w (.int .i64 1) (.bool b) (.int .i64 e) (.string (tx (T ++ List.replicate t 0)))
  have z1 : (w.alloc (.cells #[.int .i64 1, .bool b, .int .i64 e, .string (tx (T ++ List.replicate t 0))] 26)).heap.size = w.heap.size + 1 := by simp
  have b1 : Below w.heap.size w (w.alloc (.cells #[.int .i64 1, .bool b, .int .i64 e, .string (tx (T ++ List.replicate t 0))] 26)) := (Below.refl _ _).alloc (Nat.le_refl _) _
  have HZl : Hid ((tx (T ++ List.replicate t 0)).size = T.length + t) := by show _ = _; rw [tx_size, List.length_append, List.length_replicate]
  generalize hTL : tx (T ++ List.replicate t 0) = TL at *
  have HTL : Hid (tx (T ++ List.replicate t 0) = TL) := hTL
  clear hTL
  go_enter Tryd.func9, Tryd.ntmps9
  go_upto_region 1 with fail
  generalize w.alloc (.cells #[.int .i64 1, .bool b, .int .i64 e, .string TL] 26) = w1 at *
  have HO : Hid (HasN (w1.alloc (.cells #[] 26)) (w.heap.size + 1) (.slice (some ⟨w1.heap.size, 0, none⟩) 0 0) []) := World.ownsRow_made w1 #[] 0 (by omega) (Nat.zero_le _) rfl
  have b2 : Below w1.heap.size w1 (w1.alloc (.cells #[] 26)) := (Below.refl _ _).alloc (Nat.le_refl _) _
  have HA : Hid (At4 (w1.alloc (.cells #[] 26)) w.heap.size (.int .i64 1) (.bool b) (.int .i64 e) (.string TL) ∧ Below w.heap.size w (w1.alloc (.cells #[] 26))) := ⟨h4.below b2 (by omega), bel1 b1 b2⟩
  have HZ2 : Hid (w.heap.size < w1.heap.size) := by show _ < _; omega
  clear h4 b1 b2 z1
  obtain ⟨a0, a1, a2, a3, a4⟩ := HA.out.1
  go_wp2_with fail
  clear a0 a1 a2 a3 a4
  refine (HNb.out _).mono ?_
  rintro x w2 ⟨rfl, hb2⟩
  have HA2 : Hid (At4 w2 w.heap.size (.int .i64 1) (.bool b) (.int .i64 e) (.string TL) ∧ Below w.heap.size w w2) := ⟨HA.out.1.below hb2 (by have := HZ2.out; simp; omega), bel1 HA.out.2 hb2⟩
  have HO2 : Hid (HasN w2 (w.heap.size + 1) (.slice (some ⟨w1.heap.size, 0, none⟩) 0 0) []) := HO.out.below hb2 (Nat.le_refl _)
  generalize (⟨w1.heap.size, 0, none⟩ : Addr) = ad at *
  clear hb2 HA HO HNb HZ2
  obtain ⟨a0, a1, a2, a3, a4⟩ := HA2.out.1
  go_wp2_with fail
  refine (HLm.out _).mono ?_
  rintro x wq ⟨rfl, rfl⟩
  clear hne
  go_wp2
  go_loopg [9, 10] J (fun gk s9 s10 wx => ∃ j : Nat, j ≤ J ∧ Hid (gk = J - j) ∧ s9 = .string (tx (T ++ List.replicate (t + j) 0)) ∧ s10 = .int .i64 (e - (j : Int)) ∧ wx = wq)
  case atStart => exact ⟨0, Nat.zero_le _, rfl, by rw [← HTL.out]; rfl, Ln.val_int (by omega), rfl⟩
  case round =>
    obtain ⟨j, hj, hgk, rfl, rfl, hwr⟩ := hrel
    obtain rfl := hwr.symm
    have hzj : (tx (T ++ List.replicate (t + j) 0)).size = T.length + (t + j) := by rw [tx_size, List.length_append, List.length_replicate]
    by_cases hlt : j < J
    · have c1 : (T.length : Int) + ((t : Int) + (j : Int)) < P := by omega
      have c2 : lw < e - (j : Int) := by omega
      have hap : tx (T ++ List.replicate (t + j) 0) ++ { data := #[48] } = tx (T ++ List.replicate (t + (j + 1)) 0) := by
        rw [show ({ data := #[48] } : ByteArray) = tx [0] from by apply ByteArray.ext; rw [tx_data]; rfl, tx_append, List.append_assoc, ← List.replicate_succ']; rfl
      go_wp2
      go_roundg (J - (j + 1))
      case measure => have := hgk.out; omega
      case rel => exact ⟨j + 1, by omega, rfl, rfl, Ln.val_int (by omega), rfl⟩
    · have ej : j = J := by omega
      subst ej
      have HZz : Hid (Z = t + j) := hZ
      have HLo : Hid (lo = e - (j : Int)) := hlo
      have HMm : Hid ((M : Int) = min (Z : Int) (hg - lo) + 1) := hM
      have hM0 : 0 < M := by omega
      have hM40 : M ≤ 100 := by omega
      have hZ40 : Z ≤ 60 := by omega
      have hT40 : T.length ≤ 34 := by omega
      have hlo1 : -7000 ≤ lo ∧ lo ≤ hg := by omega
      have hg1 : hg ≤ 6111 := by omega
      have HTl : Hid (0 < T.length) := hTl
      have C2 : ((T.length : Int) + ((t : Int) + (j : Int)) < P ∧ ¬ lw < e - (j : Int)) ∨ ¬ (T.length : Int) + ((t : Int) + (j : Int)) < P := by omega
      have AS : Hid (∃ i : Nat, i < M ∧ Hid (M - 0 = M - i) ∧ Hid (HasN wq (w.heap.size + 1) (.slice (some ad) 0 0) (cohL b lo Z T i)) ∧ Value.string (tx (T ++ List.replicate (t + j) 0)) = .string (tx (T ++ List.replicate (Z - i) 0)) ∧ Value.int .i64 (e - (j : Int)) = .int .i64 (lo + (i : Int)) ∧ Hid (At4 wq w.heap.size (.int .i64 1) (.bool b) (.int .i64 e) (.string TL) ∧ Below w.heap.size w wq)) :=
        ⟨0, hM0, rfl, HO2, by rw [hZ]; rfl, by rw [hlo]; exact Ln.val_int (by omega), HA2⟩
      clear hJ hZ hlo hM hj hgk hlt HO2 HA2 he hL34 hn hTl
      rcases C2 with ⟨c1, c2⟩ | c1
      all_goals
        obtain ⟨i0, hi, hz0, hz1, hz2⟩ := info_parts infoNum
        go_wp2
        go_loopg [5, 9, 10] M (fun gk s5 s9 s10 wx => ∃ i : Nat, i < M ∧ Hid (gk = M - i) ∧ Hid (HasN wx (w.heap.size + 1) s5 (cohL b lo Z T i)) ∧ s9 = .string (tx (T ++ List.replicate (Z - i) 0)) ∧ s10 = .int .i64 (lo + (i : Int)) ∧ Hid (At4 wx w.heap.size (.int .i64 1) (.bool b) (.int .i64 e) (.string TL) ∧ Below w.heap.size w wx))
        case atStart => exact AS.out
        case round =>
          obtain ⟨i, hiM, hgk, hown, rfl, rfl, hA⟩ := hrel
          obtain ⟨m, hm⟩ : ∃ m, Z - i = m := ⟨_, rfl⟩
          have HIt : Hid (itm b lo Z T i = (1, b, lo + (i : Int), tx (T ++ List.replicate m 0))) := by show _ = _; unfold itm; rw [hm]
          rw [hm]
          have HIm : Hid (Z - i = m) := hm
          obtain ⟨N, hN⟩ : ∃ N, T.length + m = N + 1 := ⟨T.length + m - 1, by have := HTl.out; omega⟩
          obtain ⟨S, hS⟩ : ∃ S, tx (T ++ List.replicate m 0) = S := ⟨_, rfl⟩
          have hsz : S.size = N + 1 := by rw [← hS, tx_size, List.length_append, List.length_replicate, hN]
          have hSN : N < S.size := by omega
          have hN80 : N ≤ 100 := by omega
          have HLast : Hid (∃ x : Int, ((S[N]'hSN).toNat : Int) = x ∧ (m = 0 → (x == 48) = false) ∧ (m ≠ 0 → x = 48)) := by
            subst hS
            have hln : (T ++ List.replicate m 0).length = N + 1 := by rw [List.length_append, List.length_replicate, hN]
            refine ⟨_, tx_at (T ++ List.replicate m 0) (dec_tail0 T HD.out m) N hSN, fun q => ?_, fun q => ?_⟩
            · subst q
              obtain ⟨T', d, hTd, hd⟩ := HTT.out
              have := last_some T' d
              rw [hTd, hln, Nat.add_sub_cancel] at this
              rw [this]
              exact beq_eq_false_iff_ne.2 (by omega)
            · obtain ⟨m', rfl⟩ : ∃ m', m = m' + 1 := ⟨m - 1, by omega⟩
              have := last_nought T m'
              rw [hln, Nat.add_sub_cancel] at this
              rw [this]
              rfl
          have HCut : Hid (m ≠ 0 → S.extract 0 N = tx (T ++ List.replicate (Z - (i + 1)) 0)) := fun q => by
            subst hS
            obtain ⟨m', rfl⟩ : ∃ m', m = m' + 1 := ⟨m - 1, by omega⟩
            have hln : (T ++ List.replicate (m' + 1) 0).length = N + 1 := by rw [List.length_append, List.length_replicate, hN]
            rw [tx_take _ N (by omega), show Z - (i + 1) = m' by omega, ← less_nought T m', hln, Nat.add_sub_cancel]
          rw [hS] at HIt ⊢
          have hlen := cohL_len b lo Z T i
          have w1 : IntKind.i64.wrap (lo + (i : Int) + 1) = lo + (i : Int) + 1 := by rw [IntKind.wrap_i64]; omega
          clear hm hN hS
          obtain ⟨a0, a1, a2, a3, a4⟩ := hA.out.1
          go_wp2_with fail
          clear a0 a1 a2 a3 a4
          refine (l12Finite_anyz b S (lo + (i : Int)) _).mono ?_
          rintro x w4 ⟨rfl, hb4⟩
          have HA4 : Hid (At4 w4 w.heap.size (.int .i64 1) (.bool b) (.int .i64 e) (.string TL) ∧ Below w.heap.size w w4) := ⟨hA.out.1.below hb4 (World.block_lt_of_cell? _ _ hA.out.1.1), bel1 hA.out.2 hb4⟩
          have hown0 : w4.ownsRow (w.heap.size + 1) 26 4 _ (cohL b lo Z T i).length (nq (cohL b lo Z T i)) := hown.out.below hb4 (Nat.le_refl _)
          rw [hlen] at hown0
          clear hb4 hA hown
          have hlt4 : w.heap.size < w4.heap.size := World.block_lt_of_cell? _ _ HA4.out.1.1
          go_wp2_with (first | (at_builtin; refine wpList_append_own _ rfl _ _ 29 rfl (w.heap.size + 1) 26 i0 (.agg #[.int .i64 0, .bool false, .int .i64 0, .string { data := #[] }]) 4 40 Tryd.underlying29 hi hz0 hz1 hz2 rfl (by decide) _ _ _ rfl (hown0.alloc _) ⟨w4.heap.size, 0, none⟩ 1 1 [.int .i64 1, .bool b, .int .i64 (lo + (i : Int)), .string S] rfl rfl (num_new _ _ _ _ _) (num_cell _ _ _ _) (by unfold maxLen; omega) (by omega) (by simp; omega) ?_) | go_in)
          intro v' w5 hown5 hgrow _
          have hb5 : Below w.heap.size w w5 := Below.grown (HA4.out.2.alloc (Nat.le_of_lt hlt4) _) hgrow (by simp; omega) (fun k hk => by have := (hown0.lt k hk).1; omega)
          have HA5 : Hid (At4 w5 w.heap.size (.int .i64 1) (.bool b) (.int .i64 e) (.string TL) ∧ Below w.heap.size w w5) := ⟨at4_same (hgrow.block _ (by simp; omega) (fun hq => by have := (hown0.lt _ hq.symm).1; omega)) (HA4.out.1.alloc hlt4 _), hb5⟩
          have H5 : Hid (HasN w5 (w.heap.size + 1) v' (cohL b lo Z T (i + 1))) := by
            rw [cohL_succ, HIt.out]
            exact hasN_more hown5 (by rw [hlen])
          clear hown5 hgrow hown0 hb5 hlt4 HA4
          obtain ⟨x, hx, hx0, hx1⟩ := HLast.out
          have HX0 : Hid (m = 0 → (x == 48) = false) := hx0
          have HX1 : Hid (m ≠ 0 → x = 48) := hx1
          clear hx0 hx1 HLast
          by_cases hm0 : m = 0
          · have hx48 := HX0.out hm0
            have HMi : Hid (i + 1 = M) := by have := HMm.out; have := HIm.out; show _ = _; omega
            have HF : Hid (HasN w5 w.heap.size v' (cohL b lo Z T M)) := by rw [← HMi.out]; exact World.ownsRow.mono H5.out (Nat.le_succ _)
            clear HX0 HX1 hm0 HCut H5 AS
            go_wp2
            go_ret
            exact ⟨v', rfl, HF.out, HA5.out.2⟩
          · have hx48 := HX1.out hm0
            rw [hx48] at hx
            by_cases hhg : lo + (i : Int) = hg
            · have ce : (lo + (i : Int) == hg) = true := beq_iff_eq.2 hhg
              have HMi : Hid (i + 1 = M) := by have := HMm.out; have := HIm.out; show _ = _; omega
              have HF : Hid (HasN w5 w.heap.size v' (cohL b lo Z T M)) := by rw [← HMi.out]; exact World.ownsRow.mono H5.out (Nat.le_succ _)
              clear HX0 HX1 hm0 HCut H5 AS hhg hx48
              go_wp2
              go_ret
              exact ⟨v', rfl, HF.out, HA5.out.2⟩
            · have ce : (lo + (i : Int) == hg) = false := beq_eq_false_iff_ne.2 hhg
              have hcut := HCut.out hm0
              have HMi : Hid (i + 1 < M) := by have := HMm.out; have := HIm.out; show _ < _; omega
              clear HX0 HX1 hm0 HCut AS hx48 hhg
              go_wp2
              go_roundg (M - (i + 1))
              case measure => have := hgk.out; have := HMi.out; omega
              case rel => exact ⟨i + 1, HMi.out, rfl, H5, rfl, Ln.val_int (by omega), HA5⟩
end Go.Proofs.YtcflomcankcggatDoor
