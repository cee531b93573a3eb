/-
  What a word stands for, as the laws' text of it, walked.
-/
import Derived.Test.YtlbkhiphnllfpacDoorTxt3
import Derived.Test.YtlbkhiphnllfpacDoorDigM
namespace Go.Proofs.YtlbkhiphnllfpacDoor
open Go.RowKit
set_option linter.unusedVariables false

theorem own_slice {w : World} {base : Nat} {e : TypeId} {s : Nat} {v : Value} {n : Nat} {xs : List Value} (h : w.ownsRow base e s v n xs) : ∃ a cap, v = .slice a n cap := by
  rcases h.2 with ⟨rfl, rfl⟩ | ⟨g, cap, cur, rfl, _⟩
  · exact ⟨_, _, rfl⟩
  · exact ⟨_, _, rfl⟩
theorem vl_take (ds : List Int) (k : Nat) (h : k < ds.length) : vl (ds.take (k + 1)) = vl (ds.take k) * 10 + ds.getD k 0 := by
  rw [List.take_succ_eq_append_getElem h, vl_snoc]
  simp [List.getD, h]
theorem zero_text : ({ data := #[48] } : ByteArray) = tx [0] := by
  apply ByteArray.ext; rw [tx_data]; rfl
theorem head_snoc (L : List Int) (d : Int) (h : L ≠ []) : (L ++ [d]).headD 0 = L.headD 0 := by
  cases L with
  | nil => exact absurd rfl h
  | cons => rfl
/-- What is kept of the first k digits: noughts ahead are left out. -/
def Kept (ds L : List Int) (k : Nat) : Prop := Dec L ∧ vl L = vl (ds.take k) ∧ (L = [] ∨ L.headD 0 ≠ 0) ∧ L.length ≤ k
theorem kept_add (ds L : List Int) (k : Nat) (hk : k < ds.length) (hd : Dec ds) (h : Kept ds L k) (hc : ds.getD k 0 ≠ 0 ∨ L ≠ []) : Kept ds (L ++ [ds.getD k 0]) (k + 1) := by
  obtain ⟨a, b, c, e⟩ := h
  refine ⟨fun x hx => ?_, by rw [vl_snoc, vl_take ds k hk, b], .inr ?_, by simp; omega⟩
  · rcases List.mem_append.1 hx with hx | hx
    · exact a x hx
    · rw [List.mem_singleton.1 hx]; exact dec_at ds hd k
  · by_cases hL : L = []
    · subst hL
      rcases hc with hc | hc
      · simpa using hc
      · exact absurd rfl hc
    · rw [head_snoc L _ hL]
      rcases c with c | c
      · exact absurd c hL
      · exact c
theorem kept_skip (ds : List Int) (k : Nat) (hk : k < ds.length) (h : Kept ds [] k) (hz : ds.getD k 0 = 0) : Kept ds [] (k + 1) := by
  obtain ⟨a, b, c, e⟩ := h
  refine ⟨a, ?_, .inl rfl, by simp⟩
  rw [vl_take ds k hk, ← b, hz]; rfl
set_option maxHeartbeats 800000 in
theorem value_any (m : Nat) (x : Int) (w : World) (hm : m < 3) (h0 : 0 ≤ x) (h1 : x ≤ 18446744073709551615) (hk : Ln.okB m x = true) :
    Calls Tryd.prog 13 #[.int .i64 ((m : Int) + 1), .int .u64 x] w fun e w' => ∃ R, e = .returned (.string (tx R)) ∧ Canon R ∧ vl R = vl (digits m x) ∧ R.length ≤ 16 ∧ Below w.heap.size w w' := by
  obtain ⟨i0, hi, hz0, hz1, hz2⟩ := info_parts info8
  have Hk : Hid (Ln.okB m x = true) := hk
  have hl16 : (digits m x).length = 16 := by unfold digits; rw [hk, if_pos rfl, highs_length]
  have hdd : Dec (digits m x) := fun d hd => by
    unfold digits at hd
    rw [hk, if_pos rfl] at hd
    obtain ⟨i, hi, rfl⟩ := highs_mem m x 16 (Nat.le_refl _) d hd
    exact ⟨(Ln.dig_bd m _).1, (Ln.okB_iff m x).1 hk i hi⟩
  have hsd := fun W => sdigits_any m x W hm h0 h1
  obtain ⟨ds, hds⟩ : ∃ ds, ds = digits m x := ⟨_, rfl⟩
  rw [← hds] at hl16 hdd hsd
  have Hds : Hid (ds = digits m x) := hds
  have Hl : Hid (ds.length = 16) := hl16
  have Hdd : Hid (Dec ds) := hdd
  have Hsd : Hid (∀ W, Calls Tryd.prog 33 #[.int .i64 ((m : Int) + 1), .int .u64 x] W fun e w' => ∃ v, e = .returned v ∧ Has w' W.heap.size v ds ∧ Below W.heap.size W w') := hsd
  clear hk hl16 hdd hsd hds
  go_enter Tryd.func13, Tryd.ntmps13
  go_wp2_with fail
  refine (Hsd.out _).mono ?_
  rintro e w1 ⟨v, rfl, hv, hb1⟩
  have hs1 := hb1.size
  rcases hv.form with ⟨_, e⟩ | ⟨g, ca, hv', -, hgl, -, hca, -⟩
  · have := Hl.out; rw [e] at this; cases this
  rw [hv', Hl.out]
  have Hc : Hid (∀ i, i < 16 → w1.cell? ⟨g, i, none⟩ = some (.int .i64 (ds.getD i 0))) := fun i hi => hca i (by rw [Hl.out]; exact hi)
  clear hv hv' hca
  go_wp2
  go_loopw [6, 7] (fun b i wr => ∃ (k : Nat) (L : List Int), k ≤ 16 ∧ i = .int .i64 k ∧ Hid (wr.ownsRow w1.heap.size 5 1 b L.length ((L.map (48 + ·)).map (Value.int .u8))) ∧ Hid (Kept ds L k) ∧ Below w1.heap.size w1 wr) (fun _ i _ => 16 - (intOf i).toNat)
  case atStart => exact ⟨0, [], Nat.zero_le _, rfl, World.ownsRow_made w1 #[] 0 (Nat.le_refl _) (Nat.zero_le _) rfl, ⟨(fun d hd => by cases hd), rfl, .inl rfl, Nat.le_refl _⟩, (Below.refl _ _).alloc (Nat.le_refl _) _⟩
  case round =>
    obtain ⟨k, L, hk, rfl, hown, hkep, hbel⟩ := hrel
    have hsz := hbel.size
    have hown0 := hown.out
    have hLk : L.length ≤ k := hkep.out.2.2.2
    obtain ⟨a, cap, hv⟩ := own_slice hown0
    rw [hv] at hown0 ⊢
    clear hown hv
    by_cases hlt : k < 16
    · have hc := (hbel.cell (p := ⟨g, k, none⟩) hgl).trans (Hc.out k hlt)
      have hlt' : (k : Int) < 16 := by omega
      have hdk := dec_at ds Hdd.out k
      have HA : Hid ((ds.getD k 0 ≠ 0 ∨ L ≠ []) → Kept ds (L ++ [ds.getD k 0]) (k + 1)) := fun h => kept_add ds L k (by rw [Hl.out]; exact hlt) Hdd.out hkep.out h
      have HB : Hid (L = [] → ds.getD k 0 = 0 → Kept ds [] (k + 1)) := fun e hz => kept_skip ds k (by rw [Hl.out]; exact hlt) (by rw [← e]; exact hkep.out) hz
      obtain ⟨d, hd⟩ : ∃ d, d = ds.getD k 0 := ⟨_, rfl⟩
      rw [← hd] at hc hdk HA HB
      clear hd
      have hcase : (d != 0) = true ∨ ((d != 0) = false ∧ 0 < L.length) ∨ ((d != 0) = false ∧ L.length = 0) := by
        by_cases hz : d = 0
        · rcases Nat.eq_zero_or_pos L.length with c | c
          · exact .inr (.inr ⟨by simp [hz], c⟩)
          · exact .inr (.inl ⟨by simp [hz], c⟩)
        · exact .inl (by simp [hz])
      rcases hcase with hz | ⟨hz, hp⟩ | ⟨hz, hp⟩
      rotate_right
      · have hL : L = [] := List.length_eq_zero_iff.1 hp
        subst hL
        have hd0 : d = 0 := by simpa using hz
        have HF : Hid (Kept ds [] (k + 1)) := HB.out rfl hd0
        have Hown : Hid (wr.ownsRow w1.heap.size 5 1 (.slice a 0 cap) ([] : List Int).length ((([] : List Int).map (48 + ·)).map (Value.int .u8))) := hown0
        clear hd0 hp hown0
        go_wp2
        go_roundw
        case rel => exact ⟨k + 1, [], by omega, by go_num, Hown, HF, hbel⟩
        case measure => simp [intOf]; omega
      all_goals
        have HF : Hid (Kept ds (L ++ [d]) (k + 1)) := HA.out (by first | exact .inl (by simpa using hz) | exact .inr (fun e => by rw [e] at hp; cases hp))
        go_wp2_with (first | (at_builtin; refine wpList_append_own _ rfl _ _ 22 rfl w1.heap.size 5 i0 (.int .u8 0) 1 1 Tryd.underlying22 hi hz0 hz1 hz2 rfl (by decide) _ _ _ rfl (hown0.alloc _) ⟨wr.heap.size, 0, none⟩ 1 1 [.int .u8 (48 + d)] rfl rfl (one_new _ _ _) (one_cell _ _) (by unfold maxLen; omega) (by omega) (by simp; omega) ?_) | go_in)
        intro v' w3 hown3 hgrow _
        have hb3 : Below w1.heap.size w1 w3 := Below.grown (hbel.alloc (by omega) _) hgrow (by simp; omega) (fun k hk => (hown0.lt k hk).1)
        have H3 : Hid (w3.ownsRow w1.heap.size 5 1 v' (L ++ [d]).length (((L ++ [d]).map (48 + ·)).map (Value.int .u8))) := by
          simpa [Hid] using hown3
        clear hown3 hgrow hown0
        go_wp2
        go_roundw
        case rel => exact ⟨k + 1, L ++ [d], by omega, by go_num, H3, HF, hb3⟩
        case measure => simp [intOf]; omega
    · have e16 : k = 16 := by omega
      subst e16
      have HV : Hid (vl L = vl ds) := by
        have := hkep.out.2.1
        rw [List.take_of_length_le (by rw [Hl.out]; exact Nat.le_refl _)] at this
        exact this
      have hbf : Below w.heap.size w wr := hb1.trans (hbel.mono hs1)
      rcases Nat.eq_zero_or_pos L.length with hp | hp
      · have hL : L = [] := List.length_eq_zero_iff.1 hp
        subst hL
        clear hp
        go_wp2
        go_ret
        exact ⟨[0], by rw [← zero_text]; rfl, canon_zero, by rw [← Hds.out, ← HV.out]; rfl, by decide, hbf⟩
      · obtain ⟨g2, cap2, hv2, hconv⟩ := text_of_row wr _ _ L hown0 hp
        have hcv := hconv 9 Tryd.underlying9
        have hne : ((L.length : Int) == 0) = false := beq_eq_false_iff_ne.2 (by omega)
        have HC : Hid (Canon L) := ⟨hkep.out.1, hp, .inr (by rcases hkep.out.2.2.1 with c | c; rw [c] at hp; cases hp; exact c)⟩
        clear hconv hv2 hown0
        go_wp2
        go_ret
        exact ⟨L, rfl, HC.out, by rw [HV.out, Hds.out], by omega, hbf⟩
theorem value_plain (x : Int) (w : World) (h0 : 0 ≤ x) (h1 : x ≤ 18446744073709551615) (hk : Ln.okB 0 x = true) :
    Calls Tryd.prog 13 #[.int .i64 1, .int .u64 x] w fun e w' => ∃ R, e = .returned (.string (tx R)) ∧ Canon R ∧ vl R = vl (digits 0 x) ∧ R.length ≤ 16 ∧ Below w.heap.size w w' :=
  value_any 0 x w (by decide) h0 h1 hk
end Go.Proofs.YtlbkhiphnllfpacDoor
