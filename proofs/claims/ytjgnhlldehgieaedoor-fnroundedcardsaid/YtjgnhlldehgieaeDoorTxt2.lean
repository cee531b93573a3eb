/-
  The model's sums of decimal texts, walked.
-/
import Derived.Test.YtjgnhlldehgieaeDoorTxt
namespace Go.Proofs.YtjgnhlldehgieaeDoor
open Go.RowKit
set_option linter.unusedVariables false
set_option maxRecDepth 100000

theorem one_new (w : World) (x : Value) (T : TypeId) : ∀ j u, ([x] : List Value)[j]? = some u → (w.alloc (.cells #[x] T)).cell? ((⟨w.heap.size, 0, none⟩ : Addr).add j) = some u := by
  intro j u hu
  match j, hu with
  | 0, hu => simp at hu; subst hu; simp [Addr.add]
theorem one_cell (k : IntKind) (n : Int) : ∀ u ∈ ([.int k n] : List Value), u.oneCell' = true := by
  intro u hu; simp at hu; subst hu; rfl
/-- Digits, the low one first, as a text. -/
theorem l11Text_any (v : Value) (D : List Int) (base : Nat) (w : World) (h : Has w base v D) (hd : Dec D) (hp : 0 < D.length) (hl : D.length ≤ 1000) :
    Calls Tryd.prog 39 #[v] w fun e w' => e = .returned (.string (tx (strip D.reverse))) ∧ Below w.heap.size w w' := by
  obtain ⟨i0, hi, hz0, hz1, hz2⟩ := info_parts info8
  rcases h.form with ⟨_, rfl⟩ | ⟨g, ca, rfl, -, hgl, -, hca, -⟩
  · simp at hp
  have Hc : Hid (∀ i, i < D.length → w.cell? ⟨g, i, none⟩ = some (.int .i64 (D.getD i 0))) := hca
  have Hd : Hid (Dec D) := hd
  clear h hca hd
  generalize hn : D.length = n at *
  have Hn : Hid (D.length = n) := hn
  clear hn
  go_enter Tryd.func39, Tryd.ntmps39
  go_wp2
  go_loopw [3, 4] (fun b i wr => ∃ j : Nat, j ≤ n ∧ i = .int .i64 ((n : Int) - 1 - j) ∧ Hid (wr.ownsRow w.heap.size 5 1 b j (((D.reverse.take j).map (48 + ·)).map (Value.int .u8))) ∧ Below w.heap.size w wr) (fun _ i _ => (intOf i + 1).toNat)
  case atStart => exact ⟨0, Nat.zero_le _, Ln.val_int (by simp), World.ownsRow_made w #[] 0 (Nat.le_refl _) (Nat.zero_le _) rfl, (Below.refl _ _).alloc (Nat.le_refl _) _⟩
  case round =>
    obtain ⟨j, hj, rfl, hown, hbel⟩ := hrel
    have hsz := hbel.size
    by_cases hlt : j < n
    · have hge : (0 : Int) ≤ (n : Int) - 1 - j := by omega
      have hlt2 : (n : Int) - 1 - j < (n : Int) := by omega
      have hc : wr.cell? ⟨g, n - 1 - j, none⟩ = some (.int .i64 (D.getD (n - 1 - j) 0)) := (hbel.cell (p := ⟨g, n - 1 - j, none⟩) hgl).trans (Hc.out (n - 1 - j) (by omega))
      have hb := dec_at D Hd.out (n - 1 - j)
      have HT : Hid ((D.reverse.take (j + 1)) = D.reverse.take j ++ [D.getD (n - 1 - j) 0]) := by
        rw [Hid, List.take_succ_eq_append_getElem (by rw [List.length_reverse, Hn.out]; exact hlt)]
        congr 2
        rw [List.getElem_reverse]
        simp only [List.getD, Hn.out]
        rw [List.getElem?_eq_getElem (by rw [Hn.out]; omega)]
        rfl
      obtain ⟨d, hdd⟩ : ∃ d, d = D.getD (n - 1 - j) 0 := ⟨_, rfl⟩
      rw [← hdd] at hc hb
      have HT' : Hid ((D.reverse.take (j + 1)) = D.reverse.take j ++ [d]) := by rw [hdd]; exact HT
      clear HT hdd
      have hown0 := hown.out
      go_wp2_with (first | (at_builtin; refine wpList_append_own _ rfl _ _ 22 rfl w.heap.size 5 i0 (.int .u8 0) 1 1 Tryd.underlying22 hi hz0 hz1 hz2 rfl (by decide) _ _ _ rfl (hown0.alloc _) ⟨wr.heap.size, 0, none⟩ 1 1 [.int .u8 (48 + d)] rfl rfl ?c1 ?c2 ?c3 ?c4 ?c5 ?_) | go_in)
      case c1 =>
        intro i u hu
        match i, hu with
        | 0, hu => simp at hu; subst hu; simp [Addr.add]
      case c2 => intro u hu; simp at hu; subst hu; rfl
      case c3 => unfold maxLen; omega
      case c4 => omega
      case c5 => simp; omega
      · intro v' w3 hown3 hgrow _
        have hb3 : Below w.heap.size w w3 := Below.grown (hbel.alloc (by omega) _) hgrow (by simp; omega) (fun k hk => (hown0.lt k hk).1)
        have H3 : Hid (w3.ownsRow w.heap.size 5 1 v' (j + 1) (((D.reverse.take (j + 1)).map (48 + ·)).map (Value.int .u8))) := by
          rw [HT'.out]; simpa [Hid] using hown3
        clear hown3 hgrow hown0
        go_wp2
        go_roundw
        case rel => exact ⟨j + 1, by omega, Ln.val_int (by omega), H3, hb3⟩
        case measure => simp [intOf]; omega
    · have hd : decide ((0 : Int) ≤ (n : Int) - 1 - j) = false := by simp; omega
      have e : j = n := by omega
      subst e
      have hrl : (D.reverse.take j).length = j := by rw [List.length_take, List.length_reverse, Hn.out]; omega
      have hrt : D.reverse.take j = D.reverse := List.take_of_length_le (by rw [List.length_reverse, Hn.out]; omega)
      rw [hrt] at hown hrl
      have hown' := hown.out
      obtain ⟨g2, cap2, hv, hconv⟩ := text_of_row wr _ _ D.reverse (by rw [hrl]; exact hown') (by rw [hrl]; exact hp)
      rw [hrl] at hv
      rw [hv] at hconv ⊢
      have hcv := hconv 9 Tryd.underlying9
      have hpos : ((j : Int) == 0) = false := by simp; omega
      have Hrv : Hid (Dec D.reverse) := dec_rev D Hd.out
      have HRl : Hid (D.reverse.length = j) := hrl
      clear hconv hv hown' hown hrl hrt
      obtain ⟨R, hR⟩ : ∃ R, R = D.reverse := ⟨_, rfl⟩
      rw [← hR] at hcv Hrv HRl
      have HR : Hid (R = D.reverse) := hR
      clear hR
      go_wp2_with fail
      refine (l10Strip_any R _ Hrv.out (by rw [HRl.out]; exact hl)).mono ?_
      rintro e w' ⟨rfl, rfl⟩
      go_wp2
      go_ret
      exact ⟨by rw [← HR.out]; rfl, hbel⟩
set_option maxHeartbeats 2000000 in
/-- The sum of two texts. -/
theorem l11Add_any (a b : List Int) (w : World) (ha : Canon a) (hb : Canon b) (la : a.length ≤ 300) (lb : b.length ≤ 300) :
    Calls Tryd.prog 22 #[.string (tx a), .string (tx b)] w fun e w' => ∃ R, e = .returned (.string (tx R)) ∧ Canon R ∧ vl R = vl a + vl b ∧ R.length ≤ max a.length b.length + 1 ∧ Below w.heap.size w w' := by
  obtain ⟨i0, hi, hz0, hz1, hz2⟩ := info_parts info64
  have sa := tx_size a
  have sb := tx_size b
  have pa : 0 < (tx a).size := by have := ha.2.1; omega
  have la' : (tx a).size ≤ 300 := by omega
  have lb' : (tx b).size ≤ 300 := by omega
  have Hsa : Hid ((tx a).size = a.length) := sa
  have Hsb : Hid ((tx b).size = b.length) := sb
  have Ha : Hid (Dec a) := ha.1
  have Hb : Hid (Dec b) := hb.1
  clear ha hb sa sb
  go_enter Tryd.func22, Tryd.ntmps22
  go_wp2
  go_loopw [5, 6, 7] (fun d c i wr => ∃ j : Nat, i = .int .i64 j ∧ (j ≤ (tx a).size ∨ j ≤ (tx b).size ∨ j ≤ max (tx a).size (tx b).size + 1) ∧ ∃ (D : List Int) (cv : Int), c = .int .i64 cv ∧ 0 ≤ cv ∧ cv ≤ 1 ∧ (max (tx a).size (tx b).size < j → cv = 0) ∧ D.length = j ∧ Hid (Dec D ∧ lv D + 10 ^ j * cv = pv (lo a) j + pv (lo b) j) ∧ Hid (Has wr w.heap.size d D) ∧ Below w.heap.size w wr) (fun _ _ i _ => 1000 - (intOf i).toNat)
  case atStart => exact ⟨0, rfl, .inl (Nat.zero_le _), [], 0, rfl, by decide, by decide, fun _ => rfl, rfl, ⟨(fun d hd => by cases hd), by simp [lv, pv]⟩, none_own w, (Below.refl _ _).alloc (Nat.le_refl _) _⟩
  case round =>
    obtain ⟨j, rfl, hj, D, cv, rfl, c0, c1, hcz, hDl, hD, hh, hbel⟩ := hrel
    have hsz := hbel.size
    have hj301 : j ≤ 301 := by omega
    have hcase : j < (tx a).size ∨ ((tx a).size ≤ j ∧ decide (j < (tx a).size) = false ∧ j < (tx b).size) ∨ (((tx a).size ≤ j ∧ decide (j < (tx a).size) = false) ∧ ((tx b).size ≤ j ∧ decide (j < (tx b).size) = false) ∧ 0 < cv) ∨ (((tx a).size ≤ j ∧ decide (j < (tx a).size) = false) ∧ ((tx b).size ≤ j ∧ decide (j < (tx b).size) = false) ∧ cv ≤ 0 ∧ decide (0 < cv) = false) := by
      by_cases h1 : j < (tx a).size
      · exact .inl h1
      · by_cases h2 : j < (tx b).size
        · exact .inr (.inl ⟨by omega, by simpa using h1, h2⟩)
        · by_cases h3 : 0 < cv
          · exact .inr (.inr (.inl ⟨⟨by omega, by simpa using h1⟩, ⟨by omega, by simpa using h2⟩, h3⟩))
          · exact .inr (.inr (.inr ⟨⟨by omega, by simpa using h1⟩, ⟨by omega, by simpa using h2⟩, by omega, by simpa using h3⟩))
    have hnx : Hid ((j < (tx a).size ∨ j < (tx b).size ∨ 0 < cv) → j + 1 ≤ max (tx a).size (tx b).size + 1) := fun h => by
      rcases h with h | h | h
      · omega
      · omega
      · rcases Nat.lt_or_ge (max (tx a).size (tx b).size) j with c | c
        · have := hcz c; omega
        · omega
    have Hcz : Hid (max (tx a).size (tx b).size < j → cv = 0) := hcz
    have HDl : Hid (D.length = j) := hDl
    have Hst := add_step a b D j cv Ha.out Hb.out hD.out.1 hDl c0 c1 hD.out.2
    have HS : Hid (_ ∧ _ ∧ _ ∧ _) := Hst
    have ba := lo_bd a Ha.out j
    have bb := lo_bd b Hb.out j
    have Hoz : Hid (max (tx a).size (tx b).size < j + 1 → lo a j = 0 ∧ lo b j = 0) := fun h => ⟨lo_out a j (by have := Hsa.out; omega), lo_out b j (by have := Hsb.out; omega)⟩
    have hjm : Hid (j ≤ max (tx a).size (tx b).size + 1) := by rw [Hid]; omega
    clear hcz hj Hst hDl
    rcases hcase with hk | ⟨hk1, hk1', hk⟩ | ⟨⟨hk1, hk1'⟩, ⟨hk2, hk2'⟩, hk⟩ | ⟨⟨hk1, hk1'⟩, ⟨hk2, hk2'⟩, hk3, hk3'⟩
    rotate_right
    · have ea : a.length ≤ j := by have := Hsa.out; omega
      have eb : b.length ≤ j := by have := Hsb.out; omega
      have ez : cv = 0 := by omega
      have hv := hD.out.2
      rw [ez] at hv
      have HE : Hid (lv D = vl a + vl b) := add_end a b D j hv ea eb
      have Hpos : Hid (0 < D.length) := by have := Hsa.out; have := HDl.out; rw [Hid]; omega
      have Hle : Hid (D.length ≤ max a.length b.length + 1) := by
        rw [Hid, HDl.out]
        have := Hsa.out
        have := Hsb.out
        have := hjm.out
        omega
      clear ez hv
      go_wp2_with fail
      refine (l11Text_any _ D _ _ hh.out hD.out.1 Hpos.out (by rw [HDl.out]; omega)).mono ?_
      rintro e w1 ⟨rfl, hb1⟩
      go_wp2
      go_ret
      exact ⟨_, rfl, strip_canon _ (dec_rev D hD.out.1) (by rw [List.length_reverse]; exact Hpos.out), by rw [strip_vl, vl_rev, HE.out], Nat.le_trans (strip_len _) (by rw [List.length_reverse]; exact Hle.out), hbel.trans (hb1.mono hsz)⟩
    all_goals
      have Hnx := hnx.out (by first | exact .inl hk | exact .inr (.inl hk) | exact .inr (.inr hk))
      go_wp2_with fail
      refine (l11At_any a j _ Ha.out (by omega) (by omega)).mono ?_
      rintro e w' ⟨rfl, rfl⟩
      go_wp2_with fail
      refine (l11At_any b j _ Hb.out (by omega) (by omega)).mono ?_
      rintro e w' ⟨rfl, rfl⟩
      have hown0 := hh.out
      unfold Has at hown0
      rw [HDl.out] at hown0
      go_wp2_with (first | (at_builtin; refine wpList_append_own _ rfl _ _ 35 rfl w.heap.size 2 i0 (.int .i64 0) 1 8 Tryd.underlying35 hi hz0 hz1 hz2 rfl (by decide) _ _ _ rfl (hown0.alloc _) ⟨w'.heap.size, 0, none⟩ 1 1 [.int .i64 ((lo a j + lo b j + cv) % 10)] rfl rfl (one_new _ _ _) (one_cell _ _) (by unfold maxLen; omega) (by omega) (by simp; omega) ?_) | go_in)
      intro v' w3 hown3 hgrow _
      have hb3 : Below w.heap.size w w3 := Below.grown (hbel.alloc (by omega) _) hgrow (by simp; omega) (fun k hk => (hown0.lt k hk).1)
      have H3 : Hid (Has w3 w.heap.size v' (D ++ [(lo a j + lo b j + cv) % 10])) := by
        rw [Hid, Has]
        rw [List.length_append, HDl.out]
        simpa using hown3
      have hc1 : Hid (max (tx a).size (tx b).size < j + 1 → (lo a j + lo b j + cv) / 10 = 0) := fun h => by
        have := Hoz.out h
        rw [this.1, this.2]; omega
      clear hown3 hgrow hown0 hh
      go_wp2
      go_roundw
      case rel => exact ⟨j + 1, by go_num, .inr (.inr Hnx), _, _, rfl, HS.out.2.2.1, HS.out.2.2.2, hc1.out, by rw [List.length_append, HDl.out]; rfl, ⟨HS.out.1, HS.out.2.1⟩, H3, hb3⟩
      case measure => simp [intOf]; omega
end Go.Proofs.YtjgnhlldehgieaeDoor
