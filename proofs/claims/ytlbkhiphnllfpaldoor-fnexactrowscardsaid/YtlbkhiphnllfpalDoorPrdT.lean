/-
  What Product, Square, Column, PowerOf and Rows of the model answer, walked.
-/
import Derived.Deep.RegionWith
import Derived.Test.YtlbkhiphnllfpalDoorPrdS
import Derived.Test.YtlbkhiphnllfpalDoorMulS
import Derived.Test.YtlbkhiphnllfpalDoorSlU
namespace Go.Proofs.YtlbkhiphnllfpalDoor
open Go.RowKit
set_option linter.unusedVariables false
/-- The two words of a product. -/
def prF (a b : Int) : Nat → Int := prS (Ln.ln a) (Ln.ln b) 16
def prH (a b : Int) : Int := Sm (fun i => prF a b (16 + i)) 16
def prL (a b : Int) : Int := Sm (fun i => prF a b i) 16
theorem prF_nine (a b : Int) (ka : Ln.okB 0 a = true) (kb : Ln.okB 0 b = true) : Nine (fun i => prF a b (16 + i)) ∧ Nine (fun i => prF a b i) := by
  have h := prS_bd (Ln.ln a) (Ln.ln b) (ok_nine a ka) (ok_nine b kb) 16 (Nat.le_refl _)
  exact ⟨fun i _ => (h (16 + i)).1, fun i _ => (h i).1⟩
theorem pr_facts (a b : Int) (ka : Ln.okB 0 a = true) (kb : Ln.okB 0 b = true) :
    Ln.okB 0 (prH a b) = true ∧ Ln.okB 0 (prL a b) = true ∧ (0 ≤ prH a b ∧ prH a b ≤ 18446744073709551615) ∧ (0 ≤ prL a b ∧ prL a b ≤ 18446744073709551615) ∧
      vl (digits 0 (prL a b)) + 10 ^ 16 * vl (digits 0 (prH a b)) = vl (digits 0 a) * vl (digits 0 b) := by
  obtain ⟨h1, h2⟩ := prF_nine a b ka kb
  refine ⟨ok_Sm _ h1, ok_Sm _ h2, Sm_u64 _ h1, Sm_u64 _ h2, ?_⟩
  unfold prL prH
  rw [digits_Sm _ h1, digits_Sm _ h2, vl_highsF, vl_highsF, pv0 a ka, pv0 b kb, ← prS_pv (Ln.ln a) (Ln.ln b) 16 (Nat.le_refl _)]
  exact (pv_split (prF a b) 16 16).symm
/-- Two right words that stand together for the product are those. -/
theorem pr_told (a b h l : Int) (ka : Ln.okB 0 a = true) (kb : Ln.okB 0 b = true) (kh : Ln.okB 0 h = true) (kl : Ln.okB 0 l = true) (h0 : 0 ≤ h) (h1 : h ≤ 18446744073709551615) (l0 : 0 ≤ l) (l1 : l ≤ 18446744073709551615)
    (e : vl (digits 0 l) + 10 ^ 16 * vl (digits 0 h) = vl (digits 0 a) * vl (digits 0 b)) : h = prH a b ∧ l = prL a b := by
  obtain ⟨k1, k2, b1, b2, v⟩ := pr_facts a b ka kb
  rw [← v, pv0 l kl, pv0 h kh, pv0 _ k1, pv0 _ k2] at e
  have := two_same _ _ _ _ (ok_nine l kl) (ok_nine h kh) (ok_nine _ k2) (ok_nine _ k1) e
  rw [Sm_word l l0 l1, Sm_word h h0 h1, Sm_word _ b1.1 b1.2, Sm_word _ b2.1 b2.2] at this
  exact ⟨this.2, this.1⟩
/-- The model's packing of sixteen digits that lie somewhere in a row. -/
theorem l1Pack_at (g off ca : Nat) (f : Nat → Int) (hf : Nine f) (w : World) (hgl : g < w.heap.size) (hc : ∀ i, i < 16 → w.cell? ⟨g, off + i, none⟩ = some (.int .i64 (f (15 - i)))) :
    Calls Tryd.prog 31 #[.int .i64 1, .slice (some ⟨g, off, none⟩) 16 ca] w fun e w' => e = .returned (.int .u64 (Sm f 16)) ∧ Below w.heap.size w w' := by
  have hds : (highsF f 16).length = 16 := highsF_length f 16
  have Hpk : Hid (Ln.packN 0 (highsF f 16) = Sm f 16) := pack_highsF f hf
  have Hc : Hid (∀ i, i < 16 → w.cell? ⟨g, off + i, none⟩ = some (.int .i64 ((highsF f 16).getD i 0))) := fun i hi => by
    rw [hc i hi, List.getD, highsF_at f 16 i hi]; rfl
  have Hok : Hid (∀ i, i < 16 → 0 ≤ (highsF f 16).getD i 0 ∧ (highsF f 16).getD i 0 ≤ 9) := fun i hi => Ln.okDs_at _ (okDs_highsF f hf) i (by rw [hds]; exact hi)
  have Hl : Hid ((highsF f 16).length = 16) := hds
  clear hc hds hf
  generalize highsF f 16 = ds at *
  generalize Sm f 16 = S at *
  go_enter Tryd.func31, Tryd.ntmps31
  go_wp2
  go_loopw [5, 6] (fun a i wr => ∃ k : Nat, k ≤ 16 ∧ i = .int .i64 k ∧ a = .int .u64 (Ln.pk 0 ds k) ∧ Below w.heap.size w wr) (fun _ i _ => 16 - (intOf i).toNat)
  case atStart => exact ⟨0, Nat.zero_le _, rfl, rfl, Below.refl _ _⟩
  case round =>
    obtain ⟨k, hk, rfl, rfl, hbel⟩ := hrel
    have hsz := hbel.size
    by_cases hlt : k < 16
    · have hc := (hbel.cell (p := ⟨g, off + k, none⟩) hgl).trans (Hc.out k hlt)
      have hP : Hid (Ln.pk 0 ds (k + 1) = Ln.pk 0 ds k * 16 + (Ln.ff 0 (ds.getD k 0) : Int)) := Ln.pk_succ 0 ds k (by rw [Hl.out]; exact hlt)
      have hrm := Ln.pk_room 0 ds k (by rw [Hl.out]; exact hlt) (by rw [Hl.out]; exact Nat.le_refl _)
      have hin := Hok.out k hlt
      obtain ⟨d, hdd⟩ : ∃ d, d = ds.getD k 0 := ⟨_, rfl⟩
      rw [← hdd] at hc hin
      have Hd : Hid (d = ds.getD k 0) := hdd
      clear hdd
      have hfl := Ln.ff_lt 0 d
      go_wp2_with fail
      refine (l1FirstForm_any 0 d _ (by decide) (by omega) (by omega)).mono ?_
      rintro e w1 ⟨rfl, hb1⟩
      go_wp2
      go_roundw
      case rel => exact ⟨k + 1, by omega, by go_num, Ln.val_int (by rw [hP.out, ← Hd.out]), hbel.trans (hb1.mono hsz)⟩
      case measure => simp [intOf]; omega
    · go_wp2
      go_ret
      exact ⟨Ln.ret_int (by rw [Ln.pk_all 0 ds k (by rw [Hl.out]; omega), Hpk.out]), hbel⟩
theorem sprod_no (a b : Int) (w : World) (a0 : 0 ≤ a) (a1 : a ≤ 18446744073709551615) (b0 : 0 ≤ b) (b1 : b ≤ 18446744073709551615) (k : Ln.okB 0 a = false ∨ Ln.okB 0 b = false) :
    Calls Tryd.prog 25 #[.int .u64 a, .int .u64 b] w fun e w' => e = .returned (.tuple #[.int .u64 0, .int .u64 0, .bool false]) ∧ Below w.heap.size w w' := by
  cases ka : Ln.okB 0 a with
  | false =>
    have Ka : Hid (Ln.okB 0 a = false) := ka
    clear ka k
    go_enter Tryd.func25, Tryd.ntmps25
    go_wp2_with fail
    refine (l1PlainOk_any a _ a0 a1).mono ?_
    rintro e w1 ⟨rfl, hb1⟩
    rw [Ka.out]
    go_wp2
    go_ret3
    exact ⟨rfl, hb1⟩
  | true =>
    have kb : Ln.okB 0 b = false := by rcases k with h | h; rw [ka] at h; cases h; exact h
    have Ka : Hid (Ln.okB 0 a = true) := ka
    have Kb : Hid (Ln.okB 0 b = false) := kb
    clear ka k kb
    go_enter Tryd.func25, Tryd.ntmps25
    go_wp2_with fail
    refine (l1PlainOk_any a _ a0 a1).mono ?_
    rintro e w1 ⟨rfl, hb1⟩
    rw [Ka.out]
    go_wp2_with fail
    refine (l1PlainOk_any b _ b0 b1).mono ?_
    rintro e w2 ⟨rfl, hb2⟩
    rw [Kb.out]
    go_wp2
    go_ret3
    exact ⟨rfl, hb1.trans (hb2.mono hb1.size)⟩
set_option maxHeartbeats 1600000 in
theorem sprod_yes (a b : Int) (w : World) (a0 : 0 ≤ a) (a1 : a ≤ 18446744073709551615) (b0 : 0 ≤ b) (b1 : b ≤ 18446744073709551615) (ka : Ln.okB 0 a = true) (kb : Ln.okB 0 b = true) :
    Calls Tryd.prog 25 #[.int .u64 a, .int .u64 b] w fun e w' => e = .returned (.tuple #[.int .u64 (prH a b), .int .u64 (prL a b), .bool true]) ∧ Below w.heap.size w w' := by
  have na : Hid (Nine (Ln.ln a)) := ok_nine a ka
  have nb : Hid (Nine (Ln.ln b)) := ok_nine b kb
  have nn := prF_nine a b ka kb
  have Ka : Hid (Ln.okB 0 a = true) := ka
  have Kb : Hid (Ln.okB 0 b = true) := kb
  clear ka kb
  go_enter Tryd.func25, Tryd.ntmps25
  go_wp2_with fail
  refine (l1PlainOk_any a _ a0 a1).mono ?_
  rintro e w1 ⟨rfl, hb1⟩
  have hs1 := hb1.size
  rw [Ka.out]
  go_wp2_with fail
  refine (l1PlainOk_any b _ b0 b1).mono ?_
  rintro e w2 ⟨rfl, hb2⟩
  have hs2 := hb2.size
  rw [Kb.out]
  go_wp2_with fail
  refine (l1PlainDigits_any a _ a0 a1 Ka.out).mono ?_
  rintro e w3 ⟨va, rfl, hva, hb3⟩
  have hs3 := hb3.size
  go_wp2_with fail
  refine (l1PlainDigits_any b _ b0 b1 Kb.out).mono ?_
  rintro e w4 ⟨vb, rfl, hvb, hb4⟩
  have hs4 := hb4.size
  go_wp2_with fail
  refine (l5Product_any va vb (Ln.ln a) (Ln.ln b) _ _ _ (hva.below hb4 (Nat.le_refl _)) hvb na.out nb.out).mono ?_
  rintro e w5 ⟨rfl, hown, hb5⟩
  have hbel : Below w.heap.size w w5 := (((hb1.trans (hb2.mono hs1)).trans (hb3.mono (by omega))).trans (hb4.mono (by omega))).trans (hb5.mono (by omega))
  have hgl : w4.heap.size < w5.heap.size := by
    obtain ⟨_, h⟩ := hown
    rcases h with ⟨h, _⟩ | ⟨g, cap, cur, e, _, hc, _⟩
    · cases h
    · cases e; exact (Array.getElem?_eq_some_iff.1 hc).1
  have Hc : Hid (∀ q, q < 32 → w5.cell? ⟨w4.heap.size, q, none⟩ = some (.int .i64 (prF a b (31 - q)))) := fun q hq => by
    rw [World.ownsRow.cellAt hown q hq]
    have := row32_at (prS (Ln.ln a) (Ln.ln b) 16) q hq
    simp only [List.getElem?_map]
    unfold prF
    rw [← this, List.getD, List.getElem?_eq_getElem (by rw [row32_length]; omega)]
    rfl
  have HP : Hid (∀ W off ca, (off = 0 ∧ ca = 32 ∨ off = 16 ∧ ca = 16) → Below w5.heap.size w5 W → Calls Tryd.prog 31 #[.int .i64 1, .slice (some ⟨w4.heap.size, off, none⟩) 16 ca] W fun e w' => ∃ v, e = .returned (.int .u64 v) ∧ (off = 0 ∧ prH a b = v ∨ off = 16 ∧ prL a b = v) ∧ Below w5.heap.size w5 w') := fun W off ca ho hW => by
    rcases ho with ⟨rfl, rfl⟩ | ⟨rfl, rfl⟩
    · refine (l1Pack_at w4.heap.size 0 32 (fun i => prF a b (16 + i)) nn.1 W (Nat.lt_of_lt_of_le hgl hW.size) (fun i hi => ?_)).mono ?_
      · rw [hW.cell (p := ⟨w4.heap.size, 0 + i, none⟩) hgl, Nat.zero_add, Hc.out i (by omega), show 16 + (15 - i) = 31 - i by omega]
      · rintro e w' ⟨rfl, hb⟩
        exact ⟨_, rfl, .inl ⟨rfl, rfl⟩, hW.trans (hb.mono hW.size)⟩
    · refine (l1Pack_at w4.heap.size 16 16 (fun i => prF a b i) nn.2 W (Nat.lt_of_lt_of_le hgl hW.size) (fun i hi => ?_)).mono ?_
      · rw [hW.cell (p := ⟨w4.heap.size, 16 + i, none⟩) hgl, Hc.out (16 + i) (by omega), show 31 - (16 + i) = 15 - i by omega]
      · rintro e w' ⟨rfl, hb⟩
        exact ⟨_, rfl, .inr ⟨rfl, rfl⟩, hW.trans (hb.mono hW.size)⟩
  have hs5 := hbel.size
  clear hb1 hb2 hb3 hb4 hb5 hs1 hs2 hs3 hs4 hva hvb hown Hc nn na nb Ka Kb
  go_wp2
  go_region_with (go_at_call 31; refine (HP.out _ _ _ ?_ ?_).mono ?_; (first | exact .inl ⟨rfl, rfl⟩ | exact .inr ⟨rfl, rfl⟩); (first | exact (Below.refl _ _).drew | assumption); rintro e w6 ⟨v, rfl, hv, hb6⟩; rcases hv with ⟨hv, rfl⟩ | ⟨hv, rfl⟩ <;> (first | (exfalso; revert hv; decide) | clear hv))
  all_goals
    go_wp2
    go_ret3
    refine ⟨by simp [Act.put], hbel.trans (hb6.mono (by omega))⟩
theorem ssq_any (a : Int) (w : World) (a0 : 0 ≤ a) (a1 : a ≤ 18446744073709551615) :
    Calls Tryd.prog 14 #[.int .u64 a] w fun e w' => e = .returned (.tuple #[.int .u64 (if Ln.okB 0 a then prH a a else 0), .int .u64 (if Ln.okB 0 a then prL a a else 0), .bool (Ln.okB 0 a)]) ∧ Below w.heap.size w w' := by
  have h : ∀ W, Calls Tryd.prog 25 #[.int .u64 a, .int .u64 a] W fun e w' => e = .returned (.tuple #[.int .u64 (if Ln.okB 0 a then prH a a else 0), .int .u64 (if Ln.okB 0 a then prL a a else 0), .bool (Ln.okB 0 a)]) ∧ Below W.heap.size W w' := fun W => by
    cases k : Ln.okB 0 a with
    | true => exact sprod_yes a a W a0 a1 a0 a1 k k
    | false => exact sprod_no a a W a0 a1 a0 a1 (.inl k)
  generalize (if Ln.okB 0 a then prH a a else 0) = H at *
  generalize (if Ln.okB 0 a then prL a a else 0) = L at *
  generalize Ln.okB 0 a = b at *
  have HC : Hid (∀ W, Calls Tryd.prog 25 #[.int .u64 a, .int .u64 a] W fun e w' => e = .returned (.tuple #[.int .u64 H, .int .u64 L, .bool b]) ∧ Below W.heap.size W w') := h
  clear h
  go_enter Tryd.func14, Tryd.ntmps14
  go_wp2_with fail
  refine (HC.out _).mono ?_
  rintro e w1 ⟨rfl, hb1⟩
  go_wp2
  go_ret3
  exact ⟨rfl, hb1⟩
/-- The sum of a column, when i lanes of the first word have come. -/
def colS (fa fb : Nat → Int) (n : Nat) : Nat → Int
  | 0 => 0
  | i + 1 => colS fa fb n i + if i ≤ n ∧ n - i < 16 then fa i * fb (n - i) else 0
theorem colS_bd (fa fb : Nat → Int) (ha : Nine fa) (hb : Nine fb) (n i : Nat) (hi : i ≤ 16) : 0 ≤ colS fa fb n i ∧ colS fa fb n i ≤ 81 * (i : Int) := by
  induction i with
  | zero => exact ⟨Int.le_refl _, by show (0 : Int) ≤ 81 * 0; decide⟩
  | succ i ih =>
    have h := ih (by omega)
    unfold colS
    split
    · rename_i c
      have m := mul99 (fa i) (fb (n - i)) (ha i (by omega)).1 (ha i (by omega)).2 (hb (n - i) c.2).1 (hb (n - i) c.2).2
      omega
    · omega
theorem scol_no (a b n : Int) (w : World) (a0 : 0 ≤ a) (a1 : a ≤ 18446744073709551615) (b0 : 0 ≤ b) (b1 : b ≤ 18446744073709551615) (k : Ln.okB 0 a = false ∨ Ln.okB 0 b = false ∨ n < 0 ∨ 30 < n) :
    Calls Tryd.prog 12 #[.int .u64 a, .int .u64 b, .int .i64 n] w fun e w' => e = .returned (.int .i64 (-1)) ∧ Below w.heap.size w w' := by
  cases ka : Ln.okB 0 a with
  | false =>
    have Ka : Hid (Ln.okB 0 a = false) := ka
    clear ka k
    go_enter Tryd.func12, Tryd.ntmps12
    go_wp2_with fail
    refine (l1PlainOk_any a _ a0 a1).mono ?_
    rintro e w1 ⟨rfl, hb1⟩
    rw [Ka.out]
    go_wp2
    go_ret
    exact ⟨rfl, hb1⟩
  | true =>
    have Ka : Hid (Ln.okB 0 a = true) := ka
    cases kb : Ln.okB 0 b with
    | false =>
      have Kb : Hid (Ln.okB 0 b = false) := kb
      clear ka k kb
      go_enter Tryd.func12, Tryd.ntmps12
      go_wp2_with fail
      refine (l1PlainOk_any a _ a0 a1).mono ?_
      rintro e w1 ⟨rfl, hb1⟩
      rw [Ka.out]
      go_wp2_with fail
      refine (l1PlainOk_any b _ b0 b1).mono ?_
      rintro e w2 ⟨rfl, hb2⟩
      rw [Kb.out]
      go_wp2
      go_ret
      exact ⟨rfl, hb1.trans (hb2.mono hb1.size)⟩
    | true =>
      have Kb : Hid (Ln.okB 0 b = true) := kb
      have hn : n < 0 ∨ 30 < n := by rcases k with h | h | h; rw [ka] at h; cases h; rw [kb] at h; cases h; exact h
      clear ka k kb
      go_enter Tryd.func12, Tryd.ntmps12
      go_wp2_with fail
      refine (l1PlainOk_any a _ a0 a1).mono ?_
      rintro e w1 ⟨rfl, hb1⟩
      rw [Ka.out]
      go_wp2_with fail
      refine (l1PlainOk_any b _ b0 b1).mono ?_
      rintro e w2 ⟨rfl, hb2⟩
      rw [Kb.out]
      have hbf := hb1.trans (hb2.mono hb1.size)
      go_wp2_with fail
      refine (l1In_no n 0 30 _ hn).mono ?_
      rintro e w' ⟨rfl, rfl⟩
      go_wp2
      go_ret
      exact ⟨rfl, hbf⟩
theorem scol_yes (a b : Int) (n : Nat) (w : World) (a0 : 0 ≤ a) (a1 : a ≤ 18446744073709551615) (b0 : 0 ≤ b) (b1 : b ≤ 18446744073709551615) (ka : Ln.okB 0 a = true) (kb : Ln.okB 0 b = true) (hn : n ≤ 30) :
    Calls Tryd.prog 12 #[.int .u64 a, .int .u64 b, .int .i64 n] w fun e w' => e = .returned (.int .i64 (colS (Ln.ln a) (Ln.ln b) n 16)) ∧ Below w.heap.size w w' := by
  have na : Hid (Nine (Ln.ln a)) := ok_nine a ka
  have nb : Hid (Nine (Ln.ln b)) := ok_nine b kb
  have Ka : Hid (Ln.okB 0 a = true) := ka
  have Kb : Hid (Ln.okB 0 b = true) := kb
  clear ka kb
  go_enter Tryd.func12, Tryd.ntmps12
  go_wp2_with fail
  refine (l1PlainOk_any a _ a0 a1).mono ?_
  rintro e w1 ⟨rfl, hb1⟩
  rw [Ka.out]
  go_wp2_with fail
  refine (l1PlainOk_any b _ b0 b1).mono ?_
  rintro e w2 ⟨rfl, hb2⟩
  rw [Kb.out]
  have hbf := hb1.trans (hb2.mono hb1.size)
  go_wp2_with fail
  refine (l1In_yes n 0 30 _ (by omega) (by omega)).mono ?_
  rintro e w' ⟨rfl, hw⟩
  obtain rfl := hw.symm
  go_wp2
  go_loop [7, 8] (fun s i => ∃ j : Nat, j ≤ 16 ∧ i = .int .i64 j ∧ s = .int .i64 (colS (Ln.ln a) (Ln.ln b) n j)) (fun _ i => 16 - (intOf i).toNat)
  case atStart => exact ⟨0, Nat.zero_le _, rfl, rfl⟩
  case round =>
    obtain ⟨j, hj, rfl, rfl⟩ := hrel
    by_cases hlt : j < 16
    · have hC := colS_bd (Ln.ln a) (Ln.ln b) na.out nb.out n j (by omega)
      have Hs : Hid (colS (Ln.ln a) (Ln.ln b) n (j + 1) = colS (Ln.ln a) (Ln.ln b) n j + if j ≤ n ∧ n - j < 16 then Ln.ln a j * Ln.ln b (n - j) else 0) := rfl
      generalize colS (Ln.ln a) (Ln.ln b) n j = S at *
      by_cases h1 : j ≤ n
      · by_cases h2 : n - j < 16
        · have hA := na.out j hlt
          have hB := nb.out (n - j) h2
          have hm := mul99 _ _ hA.1 hA.2 hB.1 hB.2
          have e1 : (0 : Int) ≤ (n : Int) - (j : Int) := by omega
          have e2 : (n : Int) - (j : Int) < 16 := by omega
          go_wp2_with fail
          refine (l1Lane_any a _ j _ rfl (by omega) a0 a1).mono ?_
          rintro e w' ⟨rfl, rfl⟩
          go_wp2_with fail
          refine (l1Lane_any b _ (n - j) _ (by omega) (by omega) b0 b1).mono ?_
          rintro e w' ⟨rfl, rfl⟩
          go_wp2
          go_round
          case rel => exact ⟨j + 1, by omega, by go_num, Ln.val_int (by rw [Hs.out, if_pos ⟨h1, h2⟩])⟩
          case measure => simp [intOf]; omega
        · have e1 : (0 : Int) ≤ (n : Int) - (j : Int) := by omega
          have e2 : decide ((n : Int) - (j : Int) < 16) = false := by simp; omega
          go_wp2
          go_round
          case rel => exact ⟨j + 1, by omega, by go_num, Ln.val_int (by rw [Hs.out, if_neg (fun h => h2 h.2)]; omega)⟩
          case measure => simp [intOf]; omega
      · have e1 : decide ((0 : Int) ≤ (n : Int) - (j : Int)) = false := by simp; omega
        go_wp2
        go_round
        case rel => exact ⟨j + 1, by omega, by go_num, Ln.val_int (by rw [Hs.out, if_neg (fun h => by omega)]; omega)⟩
        case measure => simp [intOf]; omega
    · go_wp2
      go_ret
      have e : j = 16 := by omega
      subst e
      exact ⟨rfl, hbf⟩
/-- Powers by their last sixteen digits. -/
def pw (a : Int) : Nat → Int
  | 0 => 1
  | n + 1 => prL (pw a n) a
theorem pw_facts (a : Int) (ka : Ln.okB 0 a = true) (n : Nat) : Ln.okB 0 (pw a n) = true ∧ (0 ≤ pw a n ∧ pw a n ≤ 18446744073709551615) := by
  induction n with
  | zero => exact ⟨by show Ln.okB 0 1 = true; decide, by show (0 : Int) ≤ 1 ∧ (1 : Int) ≤ 18446744073709551615; decide⟩
  | succ n ih =>
    obtain ⟨_, k, _, b, _⟩ := pr_facts (pw a n) a ih.1 ka
    exact ⟨k, b⟩
theorem spow_no (a n : Int) (w : World) (a0 : 0 ≤ a) (a1 : a ≤ 18446744073709551615) (k : Ln.okB 0 a = false ∨ n < 0 ∨ 60 < n) :
    Calls Tryd.prog 16 #[.int .u64 a, .int .i64 n] w fun e w' => e = .returned (.tuple #[.int .u64 0, .bool false]) ∧ Below w.heap.size w w' := by
  cases ka : Ln.okB 0 a with
  | false =>
    have Ka : Hid (Ln.okB 0 a = false) := ka
    clear ka k
    go_enter Tryd.func16, Tryd.ntmps16
    go_wp2_with fail
    refine (l1PlainOk_any a _ a0 a1).mono ?_
    rintro e w1 ⟨rfl, hb1⟩
    rw [Ka.out]
    go_wp2
    go_ret2
    exact ⟨rfl, hb1⟩
  | true =>
    have Ka : Hid (Ln.okB 0 a = true) := ka
    have hn : n < 0 ∨ 60 < n := by rcases k with h | h; rw [ka] at h; cases h; exact h
    clear ka k
    go_enter Tryd.func16, Tryd.ntmps16
    go_wp2_with fail
    refine (l1PlainOk_any a _ a0 a1).mono ?_
    rintro e w1 ⟨rfl, hb1⟩
    rw [Ka.out]
    go_wp2_with fail
    refine (l1In_no n 0 60 _ hn).mono ?_
    rintro e w' ⟨rfl, rfl⟩
    go_wp2
    go_ret2
    exact ⟨rfl, hb1⟩
theorem spow_yes (a : Int) (n : Nat) (w : World) (a0 : 0 ≤ a) (a1 : a ≤ 18446744073709551615) (ka : Ln.okB 0 a = true) (hn : n ≤ 60) :
    Calls Tryd.prog 16 #[.int .u64 a, .int .i64 n] w fun e w' => e = .returned (.tuple #[.int .u64 (pw a n), .bool true]) ∧ Below w.heap.size w w' := by
  have Ka : Hid (Ln.okB 0 a = true) := ka
  clear ka
  go_enter Tryd.func16, Tryd.ntmps16
  go_wp2_with fail
  refine (l1PlainOk_any a _ a0 a1).mono ?_
  rintro e w1 ⟨rfl, hb1⟩
  rw [Ka.out]
  go_wp2_with fail
  refine (l1In_yes n 0 60 _ (by omega) (by omega)).mono ?_
  rintro e w' ⟨rfl, hw⟩
  obtain rfl := hw.symm
  have hs1 := hb1.size
  go_wp2
  go_loopw [1, 6] (fun nv p wr => ∃ j : Nat, j ≤ n ∧ nv = .int .i64 ((n : Int) - (j : Int)) ∧ p = .int .u64 (pw a j) ∧ Below w.heap.size w wr) (fun nv _ _ => (intOf nv).toNat)
  case atStart => exact ⟨0, Nat.zero_le _, Ln.val_int (by simp), rfl, hb1⟩
  case round =>
    obtain ⟨j, hj, rfl, rfl, hbel⟩ := hrel
    have hsz := hbel.size
    by_cases hlt : j < n
    · have hgt : (0 : Int) < (n : Int) - (j : Int) := by omega
      have hf := pw_facts a Ka.out j
      have Hk : Hid (Ln.okB 0 (pw a j) = true) := hf.1
      have hb := hf.2
      have Hs : Hid (pw a (j + 1) = prL (pw a j) a) := rfl
      clear hf
      generalize pw a j = p at *
      go_wp2_with fail
      refine (sprod_yes p a _ hb.1 hb.2 a0 a1 Hk.out Ka.out).mono ?_
      rintro e w2 ⟨rfl, hb2⟩
      go_wp2
      go_roundw
      case rel => exact ⟨j + 1, by omega, Ln.val_int (by omega), Ln.val_int Hs.out.symm, hbel.trans (hb2.mono hsz)⟩
      case measure => simp [intOf]; omega
    · have hd : decide ((0 : Int) < (n : Int) - (j : Int)) = false := by simp; omega
      have e : j = n := by omega
      subst e
      go_wp2
      go_ret2
      exact ⟨rfl, hbel⟩
end Go.Proofs.YtlbkhiphnllfpalDoor
