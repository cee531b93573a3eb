/-
  The model's small letters: l16Low, l16Digit, walked.
-/
import Derived.Test.YtdkpiofeidcffaaGreatDoorRno
import Derived.Test.YtdkpiofeidcffaaGreatDoorCls
import Derived.BigQuiet
import Derived.Laws.AppendOwn
import Derived.Laws.BytesArg
import Derived.Laws.IdiomStrings
import Derived.Deep.DeepCutAuto
import Derived.Test.YtdkpiofeidcffaaGreatDoorRni
namespace Go.Proofs.YtdkpiofeidcffaaGreatDoor
open Go.RowKit
set_option linter.unusedVariables false
set_option maxRecDepth 100000
set_option linter.unusedSimpArgs false
theorem info8r : (Tryz.prog.info? 5).map (fun i => (i.zero, i.size, i.bytes)) = some (some (.int .u8 0), 1, 1) := by kernel_rfl
/-- A row of bytes in memory of the call's own. -/
abbrev bcs (L : List UInt8) : List Value := L.map fun b => Value.int .u8 (b.toNat : Int)
def RowC (w : World) (base : Nat) (v : Value) (L : List UInt8) : Prop := w.ownsRow base 5 1 v L.length (bcs L)
theorem RowC.below {w w' : World} {base B : Nat} {v : Value} {L : List UInt8} (h : RowC w base v L) (hb : Below B w w') (hB : w.heap.size ≤ B) : RowC w' base v L := own_below h hb hB
theorem RowC.own {w : World} {base : Nat} {v : Value} {L : List UInt8} (h : RowC w base v L) : ∀ k, v.ownBlock = some k → base ≤ k := fun k hk => (World.ownsRow.lt h k hk).1
theorem rowC_nil (w : World) : RowC (w.alloc (.cells #[] 5)) w.heap.size (.slice (some ⟨w.heap.size, 0, none⟩) 0 0) [] :=
  World.ownsRow_made (e := 5) (size := 1) (base := w.heap.size) w #[] 0 (Nat.le_refl _) (Nat.zero_le _) rfl
theorem RowC.form {w : World} {base : Nat} {v : Value} {L : List UInt8} (h : RowC w base v L) : ∃ a cap, v = .slice a L.length cap := by
  rcases h.2 with ⟨rfl, h0⟩ | ⟨g, cap, cur, rfl, -⟩
  · exact ⟨none, 0, by rw [h0]⟩
  · exact ⟨_, cap, rfl⟩
theorem RowC.conv {w : World} {base : Nat} {v : Value} {L : List UInt8} (h : RowC w base v L) : (convert 22 9 v).run Tryz.prog w = .ok (.string ⟨L.toArray⟩) w := by
  have h0 := h
  rcases h.2 with ⟨rfl, hn⟩ | ⟨g, cap, cur, rfl, hg, hc, hn, hm, hs, ht⟩
  · obtain rfl := List.length_eq_zero_iff.1 hn
    exact run_convert_bytes_nil (P := Tryz.prog) w 22 5 Tryz.underlying22 Tryz.underlying5 0 0 9 Tryz.underlying9
  · refine run_convert_bytes_back (P := Tryz.prog) w 22 9 5 ⟨g, 0, none⟩ cap L Tryz.underlying22 Tryz.underlying5 Tryz.underlying9 (fun j hj => ?_)
    rw [rd_add, World.ownsRow.cellAt h0 j (by omega)]
    simp [List.getElem?_eq_getElem hj]
theorem rowC_more {w w2 : World} {base : Nat} {v v' : Value} {L : List UInt8} {b : UInt8} (h : w2.ownsRow base 5 1 v' (L.length + 1) (bcs L ++ [.int .u8 (b.toNat : Int)])) : RowC w2 base v' (L ++ [b]) := by
  unfold RowC bcs; simpa using h
theorem l16Digit_any (x : Int) (w : World) (h : 0 ≤ x ∧ x ≤ 255) : Calls Tryz.prog 38 #[.int .u8 x] w fun e w' => e = .returned (.bool (dgB x)) ∧ w' = w := by
  by_cases h1 : 48 ≤ x
  · by_cases h2 : x ≤ 57
    · have HD : Hid (dgB x = true) := decide_eq_true ⟨h1, h2⟩
      rw [HD.out]
      go_enter Tryz.func38, Tryz.ntmps38
      go_wp2
      go_ret
      exact ⟨rfl, rfl⟩
    · have HD : Hid (dgB x = false) := decide_eq_false (fun q => h2 q.2)
      rw [HD.out]
      go_enter Tryz.func38, Tryz.ntmps38
      go_wp2
      go_ret
      exact ⟨rfl, rfl⟩
  · have HD : Hid (dgB x = false) := decide_eq_false (fun q => h1 q.1)
    rw [HD.out]
    go_enter Tryz.func38, Tryz.ntmps38
    go_wp2
    go_ret
    exact ⟨rfl, rfl⟩
theorem one_cell8 (x : Int) : ∀ u ∈ [Value.int .u8 x], u.oneCell' = true := fun u hu => by
  obtain rfl : u = Value.int .u8 x := by simpa using hu
  rfl
theorem lowB_val (b : UInt8) : (65 ≤ (b.toNat : Int) ∧ (b.toNat : Int) ≤ 90 → ((lowB b).toNat : Int) = (b.toNat : Int) + 32) ∧ (¬ (65 ≤ (b.toNat : Int) ∧ (b.toNat : Int) ≤ 90) → lowB b = b) := by
  constructor
  · intro h
    unfold lowB
    rw [if_pos (by omega), UInt8.toNat_add]
    show (((b.toNat + 32) % 2 ^ 8 : Nat) : Int) = _
    omega
  · intro h
    unfold lowB
    rw [if_neg (by omega)]
theorem take_more (s : ByteArray) (q : Nat) (h : q < s.size) : s.data.toList.take (q + 1) = s.data.toList.take q ++ [s[q]] := by
  have hl : s.data.toList.length = s.size := Array.length_toList
  rw [List.take_succ_eq_append_getElem (by omega)]
  rfl
set_option maxHeartbeats 2000000 in
theorem l16Low_any (s : ByteArray) (w : World) (hs : s.size ≤ 200) :
    Calls Tryz.prog 35 #[.string s] w fun e w' => e = .returned (.string ⟨(s.data.toList.map lowB).toArray⟩) ∧ Below w.heap.size w w' := by
  obtain ⟨i0, hi, hz0, hz1, hz2⟩ := info_parts info8r
  obtain ⟨An, hAn⟩ : ∃ An, s.data.toList.map lowB = An := ⟨_, rfl⟩
  have HAn : Hid (s.data.toList.map lowB = An) := hAn
  rw [hAn]
  clear hAn
  have HR0 : Hid (RowC (w.alloc (.cells #[] 5)) w.heap.size (.slice (some ⟨w.heap.size, 0, none⟩) 0 0) ((s.data.toList.take 0).map lowB) ∧ Below w.heap.size w (w.alloc (.cells #[] 5))) := ⟨rowC_nil w, (Below.refl _ _).alloc (Nat.le_refl _) _⟩
  go_enter Tryz.func35, Tryz.ntmps35
  go_wp2
  go_loopw [3, 4] (fun v i wr => ∃ q : Nat, q ≤ s.size ∧ i = .int .i64 (q : Int) ∧ Hid (RowC wr w.heap.size v ((s.data.toList.take q).map lowB)) ∧ Hid (Below w.heap.size w wr)) (fun _ i _ => s.size - (intOf i).toNat)
  case atStart => exact ⟨0, Nat.zero_le _, rfl, HR0.out.1, HR0.out.2⟩
  case round =>
    clear HR0
    obtain ⟨q, hq, rfl, HR, HB⟩ := hrel
    by_cases hlt : q < s.size
    · have hlt' : (q : Int) < (s.size : Int) := by omega
      have HTk : Hid ((s.data.toList.take (q + 1)).map lowB = (s.data.toList.take q).map lowB ++ [lowB s[q]]) := by show _ = _; rw [take_more s q hlt, List.map_append]; rfl
      have hll : ((s.data.toList.take q).map lowB).length ≤ 200 := by rw [List.length_map, List.length_take]; omega
      go_upto_region 6 with fail
      obtain ⟨b, hb⟩ : ∃ b : UInt8, s[q] = b := ⟨_, rfl⟩
      rw [hb] at HTk ⊢
      have hbd : b.toNat < 256 := b.toNat_lt
      obtain ⟨hv1, hv2⟩ := lowB_val b
      generalize (s.data.toList.take q).map lowB = M at *
      have hsz := HB.out.size
      clear hb
      by_cases h1 : 65 ≤ (b.toNat : Int) ∧ (b.toNat : Int) ≤ 90
      · have e1 := hv1 h1
        obtain ⟨h1a, h1b⟩ := h1
        obtain ⟨c, hc⟩ : ∃ c, lowB b = c := ⟨_, rfl⟩
        rw [hc] at HTk e1
        have e2 : IntKind.u8.wrap ((b.toNat : Int) + 32) = (b.toNat : Int) + 32 := by rw [IntKind.wrap_u8]; omega
        clear hv1 hv2 hc
        generalize hy : (b.toNat : Int) = y at *
        clear hy
        go_wp2_with (first | (at_builtin; refine wpList_append_own _ rfl _ _ 22 rfl w.heap.size 5 i0 (.int .u8 0) 1 1 Tryz.underlying22 hi hz0 hz1 hz2 rfl (by decide) _ M.length (bcs M) rfl (World.ownsRow.alloc HR.out _) ⟨wr.heap.size, 0, none⟩ 1 1 [.int .u8 (y + 32)] rfl rfl (World.news_of_block (cs := #[.int .u8 (y + 32)]) (t := 5) (fr := (0, 0)) (heap_alloc_new wr _)) (one_cell8 _) (by unfold maxLen; omega) (by omega) (by simp; omega) ?_) | go_in)
        intro v' w3 hown3 hgrow _
        have H3 : Hid (RowC w3 w.heap.size v' (M ++ [c])) := by rw [← e1] at hown3; exact rowC_more (w := w3) (v := v') hown3
        have HB3 : Hid (Below w.heap.size w w3) := Below.grown (HB.out.alloc hsz _) hgrow (by simp; omega) (fun k hk => HR.out.own k hk)
        clear hown3 hgrow HR HB
        go_wp2
        go_roundw
        case rel => exact ⟨q + 1, by omega, by go_num, by rw [HTk.out]; exact H3, HB3⟩
        case measure => simp [intOf]; omega
      · have e1 := hv2 h1
        rw [e1] at HTk
        clear hv1 hv2 e1
        rcases (show ¬ 65 ≤ (b.toNat : Int) ∨ (65 ≤ (b.toNat : Int) ∧ ¬ (b.toNat : Int) ≤ 90) by omega) with h2 | ⟨h2, h3⟩
        all_goals clear h1
        · generalize hy : (b.toNat : Int) = y at *
          go_wp2_with (first | (at_builtin; refine wpList_append_own _ rfl _ _ 22 rfl w.heap.size 5 i0 (.int .u8 0) 1 1 Tryz.underlying22 hi hz0 hz1 hz2 rfl (by decide) _ M.length (bcs M) rfl (World.ownsRow.alloc HR.out _) ⟨wr.heap.size, 0, none⟩ 1 1 [.int .u8 y] rfl rfl (World.news_of_block (cs := #[.int .u8 y]) (t := 5) (fr := (0, 0)) (heap_alloc_new wr _)) (one_cell8 _) (by unfold maxLen; omega) (by omega) (by simp; omega) ?_) | go_in)
          intro v' w3 hown3 hgrow _
          have H3 : Hid (RowC w3 w.heap.size v' (M ++ [b])) := by rw [← hy] at hown3; exact rowC_more (w := w3) (v := v') hown3
          have HB3 : Hid (Below w.heap.size w w3) := Below.grown (HB.out.alloc hsz _) hgrow (by simp; omega) (fun k hk => HR.out.own k hk)
          clear hown3 hgrow HR HB
          go_wp2
          go_roundw
          case rel => exact ⟨q + 1, by omega, by go_num, by rw [HTk.out]; exact H3, HB3⟩
          case measure => simp [intOf]; omega
        · generalize hy : (b.toNat : Int) = y at *
          go_wp2_with (first | (at_builtin; refine wpList_append_own _ rfl _ _ 22 rfl w.heap.size 5 i0 (.int .u8 0) 1 1 Tryz.underlying22 hi hz0 hz1 hz2 rfl (by decide) _ M.length (bcs M) rfl (World.ownsRow.alloc HR.out _) ⟨wr.heap.size, 0, none⟩ 1 1 [.int .u8 y] rfl rfl (World.news_of_block (cs := #[.int .u8 y]) (t := 5) (fr := (0, 0)) (heap_alloc_new wr _)) (one_cell8 _) (by unfold maxLen; omega) (by omega) (by simp; omega) ?_) | go_in)
          intro v' w3 hown3 hgrow _
          have H3 : Hid (RowC w3 w.heap.size v' (M ++ [b])) := by rw [← hy] at hown3; exact rowC_more (w := w3) (v := v') hown3
          have HB3 : Hid (Below w.heap.size w w3) := Below.grown (HB.out.alloc hsz _) hgrow (by simp; omega) (fun k hk => HR.out.own k hk)
          clear hown3 hgrow HR HB
          go_wp2
          go_roundw
          case rel => exact ⟨q + 1, by omega, by go_num, by rw [HTk.out]; exact H3, HB3⟩
          case measure => simp [intOf]; omega
    · obtain rfl : q = s.size := by omega
      have HE : Hid ((s.data.toList.take s.size).map lowB = s.data.toList.map lowB) := by show _ = _; rw [List.take_of_length_le (by rw [Array.length_toList]; exact Nat.le_refl _)]
      have hcv := HR.out.conv
      rw [HE.out, HAn.out] at hcv
      clear HE HR
      go_wp2
      go_ret
      exact ⟨rfl, HB.out⟩
end Go.Proofs.YtdkpiofeidcffaaGreatDoor
