/-
  Naturals of the program: texts into digits and back, and what the functions on texts answer; walked.
-/
import Derived.Test.YtjgnhlldehgieaeDoorNas
namespace Go.Proofs.YtjgnhlldehgieaeDoor
open Go.RowKit
set_option linter.unusedVariables false
set_option maxRecDepth 100000
theorem rev_take (ds : List Int) (k : Nat) (hk : k < ds.length) : ds.reverse.take (k + 1) = ds.reverse.take k ++ [ds.getD (ds.length - 1 - k) 0] := by
  rw [List.take_succ_eq_append_getElem (by simpa using hk)]
  congr 2
  rw [List.getElem_reverse]
  simp [List.getD, show ds.length - 1 - k < ds.length by omega]
set_option maxHeartbeats 2000000 in
theorem nOf_any (ds : List Int) (w : World) (hd : Dec ds) (hl : ds.length ≤ 1000) :
    Calls Tryd.prog 73 #[.string (tx ds)] w fun e w' => ∃ u, e = .returned u ∧ NIsF w' w.heap.size u (vl ds) ∧ Below w.heap.size w w' := by
  obtain ⟨n, hn⟩ : ∃ n, ds.length = n := ⟨_, rfl⟩
  have hz : (tx ds).size = n := by rw [tx_size, hn]
  obtain ⟨w1, hrun, hown, hb1⟩ := nMake w n (by omega)
  have HO : Hid (NRow w1 w.heap.size w.heap.size n (List.replicate n 0)) := hown
  have HB : Hid (∀ k (hk : k < (tx ds).size), (((tx ds)[k]'hk).toNat : Int) = 48 + ds.getD k 0 ∧ 0 ≤ ds.getD k 0 ∧ ds.getD k 0 ≤ 9) := fun k hk => ⟨tx_at ds hd k hk, dec_at ds hd k⟩
  have HS : Hid (∀ k, k < n → ds.reverse.take (k + 1) = ds.reverse.take k ++ [ds.getD (n - 1 - k) 0]) := fun k hk => by
    rw [← hn] at hk ⊢; exact rev_take ds k hk
  have HL : Hid (∀ k, k ≤ n → (ds.reverse.take k).length = k) := fun k hk => by simp; omega
  have HT : Hid (∀ v W, NRd W v (ds.reverse.take n) → NAt w.heap.size v → Calls Tryd.prog 75 #[v] W fun e w' => ∃ u, e = .returned u ∧ NIsF W w.heap.size u (vl ds) ∧ w' = W) := fun v W hv ha => by
    rw [List.take_of_length_le (by simp; omega)] at hv
    exact nTrim_any v ds.reverse W w.heap.size hv ha (dec_rev ds hd) (by simp; omega)
  have hn1 : n ≤ 1000 := by omega
  generalize tx ds = S at *
  have hrun' : (Instr.makeSlice 84 (.int .i64 (S.size : Int)) (.int .i64 (S.size : Int))).run Tryd.prog w = .ok (.slice (some ⟨w.heap.size, 0, none⟩) n n) w1 := by rw [hz]; exact hrun
  have HZ : Hid (S.size = n) := hz
  have hz1 : S.size ≤ 1000 := by omega
  clear hown hd hrun hz hl hn
  go_enter Tryd.func73, Tryd.ntmps73
  go_wp2
  go_loopw [10] (fun i wr => ∃ k : Nat, k ≤ n ∧ i = .int .i64 (k : Int) ∧ Hid (NRow wr w.heap.size w.heap.size n (ds.reverse.take k ++ List.replicate (n - k) 0)) ∧ Below w.heap.size w wr) (fun i _ => n - (intOf i).toNat)
  case atStart => exact ⟨0, Nat.zero_le _, rfl, HO, hb1⟩
  case round =>
    obtain ⟨k, hk, rfl, HR, hbel⟩ := hrel
    clear hrun' HO hb1
    by_cases hlt : k < n
    · have hz := HZ.out
      have hlt' : (k : Int) < (S.size : Int) := by omega
      have hlt2 : (k : Int) < (n : Int) := by omega
      obtain ⟨p, hp⟩ : ∃ p, n - 1 - k = p := ⟨_, rfl⟩
      have ep : (S.size : Int) - 1 - (k : Int) = (p : Int) := by omega
      have hp1 : p < S.size := by omega
      have hp2 : (p : Int) < (S.size : Int) := by omega
      obtain ⟨hb, d0, d9⟩ := HB.out p hp1
      have hw : IntKind.u8.wrap (((S[p]'hp1).toNat : Int) - 48) = ds.getD p 0 := by
        rw [hb, show 48 + ds.getD p 0 - 48 = ds.getD p 0 by omega, IntKind.wrap_u8]; omega
      have hcell := HR.out.cell k hlt
      have hf := HR.out.frozen k
      have HN : Hid (NRow (wr.setCell ⟨w.heap.size, k, none⟩ (.int .u8 (ds.getD p 0))) w.heap.size w.heap.size n (ds.reverse.take (k + 1) ++ List.replicate (n - (k + 1)) 0)) := by
        have := HR.out.set k (ds.getD p 0)
        rw [fill_set _ n k _ (HL.out k hk) hlt, ← hp, ← HS.out k hlt] at this
        rw [hp] at this
        exact this
      clear hb hz hp
      generalize (ds.reverse.take k ++ List.replicate (n - k) 0).getD k 0 = o at *
      generalize ds.getD p 0 = d at *
      go_wp2
      go_roundw
      case rel => exact ⟨k + 1, by omega, by go_num, HN, hbel.setCell (Nat.le_refl _) _⟩
      case measure => simp [intOf]; omega
    · have e : k = n := by omega
      subst e
      have hz := HZ.out
      have hlt' : ¬ (k : Int) < (S.size : Int) := by omega
      have HT' : Hid (Calls Tryd.prog 75 #[.slice (some ⟨w.heap.size, 0, none⟩) k k] wr fun e w' => ∃ u, e = .returned u ∧ NIsF wr w.heap.size u (vl ds) ∧ w' = wr) := by
        have := HR.out
        rw [Nat.sub_self, List.replicate_zero, List.append_nil] at this
        exact HT.out _ _ this.rd ⟨_, _, _, rfl, Nat.le_refl _⟩
      clear hz
      go_wp2_with fail
      refine HT'.out.mono ?_
      rintro e w2 ⟨u, rfl, hu, rfl⟩
      have HU : Hid (NIsF w2 w.heap.size u (vl ds)) := hu
      clear hu
      go_wp2
      go_ret
      exact ⟨u, rfl, HU.out, hbel⟩
theorem ninfoB (w : World) (n : Nat) (hn : n ≤ 100000) : ∃ w1, (Instr.makeSlice 22 (.int .i64 (n : Int)) (.int .i64 (n : Int))).run Tryd.prog w = .ok (.slice (some ⟨w.heap.size, 0, none⟩) n n) w1 ∧ NRow w1 w.heap.size w.heap.size n (List.replicate n 0) ∧ Below w.heap.size w w1 := by
  obtain ⟨i0, hi, hz0, hz1, hz2⟩ := info_parts ninfo8
  obtain ⟨w1, hrun, hown, hgrow⟩ := run_make_full (P := Tryd.prog) w w.heap.size 22 5 i0 (.int .u8 0) 1 Tryd.underlying22 hi hz0 hz1 .i64 .i64 n (by rw [hz2]; omega) (by unfold maxLen; omega) (Nat.le_refl _)
  refine ⟨w1, hrun, ?_, Below.grown (Below.refl _ _) hgrow (Nat.le_refl _) (fun k hk => by cases hk)⟩
  rw [show (Value.int .u8 0).cells = #[Value.int .u8 0] from rfl, toList_madeCells_one, Nat.mul_one] at hown
  unfold NRow
  simpa using hown
theorem ntext_of (w : World) (base g n : Nat) (L : List Int) (h : NRow w base g n ((L.reverse).map (48 + ·))) (hl : L.length = n) :
    (convert 22 9 (.slice (some ⟨g, 0, none⟩) n n)).run Tryd.prog w = .ok (.string (tx L.reverse)) w := by
  have := run_convert_bytes_arg (P := Tryd.prog) w 22 5 Tryd.underlying22 Tryd.underlying5 g 0 n n (L.reverse.map (48 + ·)) (by simp [hl]) (fun i hi => by
      rw [Nat.zero_add]
      exact h.cell i hi)
  exact this 9 Tryd.underlying9
theorem text_take (L : List Int) (k : Nat) (hk : k < L.length) : ((L.take (k + 1)).reverse).map (48 + ·) = (48 + L.getD k 0) :: ((L.take k).reverse).map (48 + ·) := by
  rw [List.take_succ_eq_append_getElem hk, List.reverse_append, List.map_append]
  simp only [List.reverse_cons, List.reverse_nil, List.nil_append, List.map_cons, List.map_nil, List.getD, List.getElem?_eq_getElem hk, Option.getD_some, List.cons_append]
set_option maxHeartbeats 2000000 in
theorem nText_any (x : Value) (a : Int) (w : World) (hx : NIs w x a) (fa : NFit a 500) :
    Calls Tryd.prog 62 #[x] w fun e w' => e = .returned (.string (fitS (nt a))) ∧ Below w.heap.size w w' := by
  obtain ⟨X, ⟨g, cap, rfl, hcp, hgl, hcx⟩, cX, rfl⟩ := hx
  have lX := ncan_len X 500 cX fa
  by_cases h0 : X = []
  · subst h0
    have E : Hid (fitS (nt (lv [])) = { data := #[48] }) := by
      show fitS (nt 0) = _
      rw [nt_nought]; rfl
    rw [E.out]
    clear hcx cX fa
    go_enter Tryd.func62, Tryd.ntmps62
    go_wp2
    go_ret
    exact ⟨rfl, Below.refl _ _⟩
  · have hp : 0 < X.length := List.length_pos_iff.2 h0
    have hp' : ((X.length : Int) == 0) = false := beq_eq_false_iff_ne.2 (by omega)
    have en := ncan_nt X cX h0 lX
    have eln : (nt (lv X)).length = X.length := by rw [← en, List.length_reverse]
    by_cases hlong : X.length ≤ 200
    · have E : Hid (fitS (nt (lv X)) = tx X.reverse) := by show fitS (nt (lv X)) = _; unfold fitS; rw [eln, if_pos hlong, ← en]
      rw [E.out]
      obtain ⟨n, hn⟩ : ∃ n, X.length = n := ⟨_, rfl⟩
      obtain ⟨w1, hrun, hown, hb1⟩ := ninfoB w n (by omega)
      have HO : Hid (NRow w1 w.heap.size w.heap.size n (List.replicate n 0 ++ ((X.take 0).reverse).map (48 + ·))) := by
        show NRow _ _ _ _ _
        rw [List.take_zero]; simpa using hown
      have HC : Hid (∀ i, i < n → w.cell? ⟨g, i, none⟩ = some (.int .u8 (X.getD i 0))) := by rw [hn] at hcx; exact hcx
      have HB : Hid (∀ i, 0 ≤ X.getD i 0 ∧ X.getD i 0 ≤ 9) := fun i => dec_at X cX.1 i
      have HS : Hid (∀ k, k < n → (List.replicate (n - k) 0 ++ ((X.take k).reverse).map (48 + ·)).set (n - 1 - k) (48 + X.getD k 0) = List.replicate (n - (k + 1)) 0 ++ ((X.take (k + 1)).reverse).map (48 + ·)) := fun k hk => by
        rw [fill_set_back _ n k _ (by simp; omega) hk, text_take X k (by omega)]
      have HT : Hid (∀ W, NRow W w.heap.size w.heap.size n (List.replicate (n - n) 0 ++ ((X.take n).reverse).map (48 + ·)) → (convert 22 9 (.slice (some ⟨w.heap.size, 0, none⟩) n n)).run Tryd.prog W = .ok (.string (tx X.reverse)) W) := fun W hW => by
        rw [Nat.sub_self, List.replicate_zero, List.nil_append, List.take_of_length_le (by omega)] at hW
        exact ntext_of W w.heap.size w.heap.size n X hW hn
      rw [hn] at hp hp' hlong hcp ⊢
      have hlong' : ¬ (200 : Int) < (n : Int) := by omega
      generalize tx X.reverse = T at *
      clear hcx cX fa en eln E lX hown h0
      go_enter Tryd.func62, Tryd.ntmps62
      go_wp2
      go_loopw [18] (fun i wr => ∃ k : Nat, k ≤ n ∧ i = .int .i64 (k : Int) ∧ Hid (NRow wr w.heap.size w.heap.size n (List.replicate (n - k) 0 ++ ((X.take k).reverse).map (48 + ·))) ∧ Below w.heap.size w wr) (fun i _ => n - (intOf i).toNat)
      case atStart => exact ⟨0, Nat.zero_le _, rfl, HO, hb1⟩
      case round =>
        obtain ⟨k, hk, rfl, HR, hbel⟩ := hrel
        clear hrun HO hb1
        by_cases hlt : k < n
        · have hlt' : (k : Int) < (n : Int) := by omega
          obtain ⟨p, hp⟩ : ∃ p, n - 1 - k = p := ⟨_, rfl⟩
          have ep : (n : Int) - 1 - (k : Int) = (p : Int) := by omega
          have hpn : p < n := by omega
          have hpn' : (p : Int) < (n : Int) := by omega
          have hcx := (hbel.cell (p := ⟨g, k, none⟩) hgl).trans (HC.out k hlt)
          have hb := HB.out k
          have hcell := HR.out.cell p hpn
          have hf := HR.out.frozen p
          have HN : Hid (NRow (wr.setCell ⟨w.heap.size, p, none⟩ (.int .u8 (48 + X.getD k 0))) w.heap.size w.heap.size n (List.replicate (n - (k + 1)) 0 ++ ((X.take (k + 1)).reverse).map (48 + ·))) := by
            have := HR.out.set p (48 + X.getD k 0)
            rw [← hp, HS.out k hlt] at this
            rw [hp] at this
            exact this
          clear hp
          generalize (List.replicate (n - k) 0 ++ ((X.take k).reverse).map (48 + ·)).getD p 0 = o at *
          generalize X.getD k 0 = d at *
          go_wp2
          go_roundw
          case rel => exact ⟨k + 1, by omega, by go_num, HN, hbel.setCell (Nat.le_refl _) _⟩
          case measure => simp [intOf]; omega
        · have e : k = n := by omega
          subst e
          have hcv := HT.out wr HR.out
          clear HT
          go_wp2
          go_ret
          exact ⟨rfl, hbel⟩
    · have E : Hid (fitS (nt (lv X)) = { data := #[] }) := by show fitS (nt (lv X)) = _; unfold fitS; rw [eln, if_neg hlong]
      rw [E.out]
      have hlong' : (200 : Int) < (X.length : Int) := by omega
      clear hcx cX fa en eln E
      generalize X.length = n at *
      go_enter Tryd.func62, Tryd.ntmps62
      go_wp2
      go_ret
      exact ⟨rfl, Below.refl _ _⟩
end Go.Proofs.YtjgnhlldehgieaeDoor
