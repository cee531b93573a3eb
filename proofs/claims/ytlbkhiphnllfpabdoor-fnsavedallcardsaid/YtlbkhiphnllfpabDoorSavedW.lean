/-
  What the law of many words summed without carries answers, walked.
-/
import Derived.Test.YtlbkhiphnllfpabDoorSavedM
import Derived.Test.YtlbkhiphnllfpabDoorRow
import Derived.Test.YtlbkhiphnllfpabDoorValue
namespace Go.Proofs.YtlbkhiphnllfpabDoor
open Go.RowKit
set_option linter.unusedVariables false
set_option maxRecDepth 100000
set_option maxHeartbeats 1000000 in
theorem savedAll_walk (a0 : Option Addr) (len0 cap0 : Nat) (z0 : List Int) (w : World) (w0 : IsRow .u8 w a0 len0 cap0 z0) (ht : Tab w ∧ 0 < w.heap.size) :
    Calls Tryd.prog 3 #[.slice a0 len0 cap0] w fun e w' => e = .returned (.bool true) ∧ Below w.heap.size w w' := by
  by_cases hbig : 4096 < len0
  · clear w0
    go_enter Tryd.func3, Tryd.ntmps3
    go_wp2_with fail
    refine (big_yes _ _ _ _ hbig).mono ?_
    rintro e w' ⟨rfl, rfl⟩
    go_wp2
    go_ret
    exact ⟨rfl, Below.refl _ _⟩
  have hB : Hid (Bytes w.heap.size w a0 len0) := bytes_of_row w0
  clear w0
  obtain ⟨i0, hi, hz0, hz1, hz2⟩ := info_parts infoU64
  go_enter Tryd.func3, Tryd.ntmps3
  go_wp2_with fail
  refine (big_no _ _ _ _ hbig).mono ?_
  rintro e w' ⟨rfl, hw⟩
  obtain rfl := hw.symm
  go_wp2_with fail
  refine (DrawSaveAll_any _ _ _ _ (by omega) hB.out).mono ?_
  rintro e w1 ⟨v, zs, rfl, hv, hU, hl65, hb1⟩
  have hs1 := hb1.size
  have ht1 := ht.1.below hb1 ht.2
  have hz1' : 0 < w1.heap.size := by have := ht.2; omega
  by_cases hl : 64 < zs.length
  · have Hv : Hid (HasU w1 w.heap.size v zs) := hv
    obtain ⟨va, vc, ev, -⟩ := hv.len
    subst ev
    clear hv
    generalize hn : zs.length = n at *
    have hl' : (64 : Int) < (n : Int) := by omega
    have hi1 := fun W => iall_big (.slice va n vc) zs w.heap.size W
    have hi2 := fun W => sall_big (.slice va n vc) zs w.heap.size W
    rw [hn] at hi1 hi2
    have I1 : Hid (∀ W, HasU W w.heap.size (.slice va n vc) zs → Calls Tryd.prog 9 #[.slice va n vc] W fun e w' => e = .returned (.tuple #[.int .u64 0, .int .u64 0, .int .i64 0]) ∧ w' = W) := fun W h => hi1 W h hl
    have I2 : Hid (∀ W, HasU W w.heap.size (.slice va n vc) zs → Calls Tryd.prog 10 #[.slice va n vc] W fun e w' => e = .returned (.tuple #[.int .u64 0, .int .u64 0, .int .i64 0]) ∧ w' = W) := fun W h => hi2 W h hl
    clear hi1 hi2
    go_wp2_with fail
    refine (I1.out _ Hv.out).mono ?_
    rintro e w' ⟨rfl, hw⟩
    obtain rfl := hw.symm
    go_wp2_with fail
    refine (I2.out _ Hv.out).mono ?_
    rintro e w' ⟨rfl, hw⟩
    obtain rfl := hw.symm
    go_wp2
    go_ret
    exact ⟨rfl, hb1⟩
  obtain ⟨S, K, N, S', K', N', V, O, i1, i2, i3, i4, i5, i6, hV, kV, bV, bO⟩ := saved_facts zs hU (by omega)
  have I1 : Hid (∀ W v base, HasU W base v zs → Tab W → 0 < W.heap.size → Calls Tryd.prog 9 #[v] W fun e w' => e = .returned (.tuple #[.int .u64 S, .int .u64 K, .int .i64 N]) ∧ Below W.heap.size W w') := i1
  have I2 : Hid (∀ W v base, HasU W base v zs → Calls Tryd.prog 10 #[v] W fun e w' => e = .returned (.tuple #[.int .u64 S, .int .u64 K, .int .i64 N]) ∧ Below W.heap.size W w') := i2
  have I3 : Hid (∀ W, Tab W → 0 < W.heap.size → Calls Tryd.prog 11 #[.int .u64 S, .int .u64 K, .int .i64 N] W fun e w' => e = .returned (.tuple #[.int .u64 V, .int .i64 O]) ∧ Below W.heap.size W w') := i3
  have I4 : Hid (∀ W v base, HasU W base v zs.reverse → Tab W → 0 < W.heap.size → Calls Tryd.prog 9 #[v] W fun e w' => e = .returned (.tuple #[.int .u64 S', .int .u64 K', .int .i64 N']) ∧ Below W.heap.size W w') := i4
  have I5 : Hid (∀ W, Tab W → 0 < W.heap.size → Calls Tryd.prog 11 #[.int .u64 S', .int .u64 K', .int .i64 N'] W fun e w' => e = .returned (.tuple #[.int .u64 V, .int .i64 O]) ∧ Below W.heap.size W w') := i5
  have I6 : Hid (∀ W, Tab W → 0 < W.heap.size → Calls Tryd.prog 15 #[.int .u64 S, .int .u64 K] W fun e w' => e = .returned (.bool (V == 0)) ∧ Below W.heap.size W w') := i6
  have HV : Hid (vl (digits 0 V) + O * 10 ^ 16 = totL zs) := hV
  have HkV : Hid (Ln.okB 0 V = true) := kV
  clear i1 i2 i3 i4 i5 i6 hV kV
  have Hv : Hid (HasU w1 w.heap.size v zs) := hv
  have Hf : Hid (∃ va vc g, v = .slice va zs.length vc ∧ ∀ j, j < zs.length → va = some ⟨g, 0, none⟩ ∧ g < w1.heap.size ∧ w1.cell? ⟨g, j, none⟩ = some (.int .u64 (zs.getD j 0))) := by
    rcases hv.form with ⟨rfl, rfl⟩ | ⟨g, cap, rfl, -, hg, -, hc, -⟩
    · exact ⟨none, 0, 0, rfl, fun j hj => absurd hj (by simp)⟩
    · exact ⟨_, _, g, rfl, fun j hj => ⟨rfl, hg, hc j hj⟩⟩
  obtain ⟨va, vc, g, rfl, hc⟩ := Hf.out
  have Hc : Hid (∀ j, j < zs.length → va = some ⟨g, 0, none⟩ ∧ g < w1.heap.size ∧ w1.cell? ⟨g, j, none⟩ = some (.int .u64 (zs.getD j 0))) := hc
  clear hv hc Hf
  obtain ⟨n, hn⟩ : ∃ n, n = zs.length := ⟨_, rfl⟩
  rw [← hn] at hl hl65 Hc ⊢
  have Hv' : Hid (HasU w1 w.heap.size (.slice va n vc) zs) := by rw [hn]; exact Hv
  clear Hv
  have hle : decide ((64 : Int) < (n : Int)) = false := by simp; omega
  have hU' : Hid (U64s zs) := hU
  have hn' : Hid (n = zs.length) := hn
  clear hU hn
  go_wp2_with fail
  refine (I1.out _ _ _ Hv'.out ht1 hz1').mono ?_
  rintro e w2 ⟨rfl, hb2⟩
  have hs2 := hb2.size
  go_wp2_with fail
  refine (I2.out _ _ _ (Hv'.out.below hb2 (Nat.le_refl _))).mono ?_
  rintro e w3 ⟨rfl, hb3⟩
  have hb13 : Below w1.heap.size w1 w3 := hb2.trans (hb3.mono hs2)
  have hs3 := hb13.size
  have ht3 := ht1.below hb13 hz1'
  clear I1 I2 hb2 hb3 Hv'
  go_wp2_with fail
  refine (I3.out _ ht3 (by omega)).mono ?_
  rintro e w4 ⟨rfl, hb4⟩
  have hb14 : Below w1.heap.size w1 w4 := hb13.trans (hb4.mono hs3)
  have hs4 := hb14.size
  clear I3 hb4 hb13 ht3
  have hR0 : Hid (({ data := #[48] } : ByteArray) = tx [0]) := zero_text
  go_wp2
  go_loopw [12, 13, 14] (fun sm bk i wr => ∃ (j : Nat) (R : List Int), j ≤ n ∧ i = .int .i64 j ∧ sm = .string (tx R) ∧ Hid (Canon R ∧ vl R = totL (zs.take j)) ∧ R.length ≤ 17 + j ∧ Hid (HasU wr w1.heap.size bk (zs.take j).reverse) ∧ (∃ h cap, bk = .slice (some ⟨h, 0, none⟩) j cap) ∧ Below w1.heap.size w1 wr) (fun _ _ i _ => n - (intOf i).toNat)
  case atStart =>
    refine ⟨0, [0], Nat.zero_le _, rfl, by rw [hR0.out], ⟨canon_zero, rfl⟩, by simp, ?_, ⟨_, _, rfl⟩, hb14.alloc hs4 _⟩
    exact HasU.mono (World.ownsRow_made w4 #[] 0 (Nat.le_refl _) (Nat.zero_le _) rfl) hs4
  case round =>
    obtain ⟨j, R, hj, rfl, rfl, HR, lR, Hb, ⟨h, cap, rfl⟩, hbel⟩ := hrel
    have hsr := hbel.size
    by_cases hlt : j < n
    · obtain ⟨rfl, hgl, hc0⟩ := Hc.out j hlt
      have hzj := hU'.out.at j
      have hc := (hbel.cell (p := ⟨g, j, none⟩) hgl).trans hc0
      have hlt' : (j : Int) < (n : Int) := by omega
      have Hnx : Hid (zs.take (j + 1) = zs.take j ++ [zs.getD j 0] ∧ totL (zs.take (j + 1)) = totL (zs.take j) + W 1 (zs.getD j 0)) := ⟨take_next zs j (by rw [← hn'.out]; exact hlt), totL_next zs j (by rw [← hn'.out]; exact hlt)⟩
      obtain ⟨Lj, hLj⟩ : ∃ L, L = (zs.take j).reverse := ⟨_, rfl⟩
      have Hlen : Hid (Lj.length = j) := by rw [Hid, hLj, List.length_reverse, List.length_take, ← hn'.out]; omega
      have HbL : Hid (HasU wr w1.heap.size (.slice (some ⟨h, 0, none⟩) j cap) Lj) := by rw [Hid, hLj]; exact Hb.out
      have e7 : Hid ((zs.take (j + 1)).reverse = zs.getD j 0 :: Lj) := by rw [Hid, Hnx.out.1, List.reverse_append, hLj]; rfl
      clear hLj Hb
      generalize zs.getD j 0 = z at *
      clear hc0
      go_wp2_with fail
      refine (value_any 1 z _ (by decide) hzj.1 hzj.2 (ok_four _)).mono ?_
      rintro e w5 ⟨Rz, rfl, cz, vz, lz, hb5⟩
      have HZ : Hid (Canon Rz ∧ vl Rz = W 1 z) := ⟨cz, by rw [vz, W_vl 1 _ (ok_four _)]⟩
      have hb15 : Below w1.heap.size w1 w5 := hbel.trans (hb5.mono (by omega))
      have hs5 := hb15.size
      clear cz vz
      go_wp2_with fail
      refine (NatAdd_any R Rz _ HR.out.1 HZ.out.1 (by omega) (by omega)).mono ?_
      rintro e w6 ⟨R2, rfl, c2, v2, l2, hb6⟩
      have H2 : Hid (Canon R2 ∧ vl R2 = totL (zs.take (j + 1))) := ⟨c2, by rw [v2, HR.out.2, HZ.out.2, Hnx.out.2]⟩
      have hb16 : Below w1.heap.size w1 w6 := hb15.trans (hb6.mono (by omega))
      have hs6 := hb16.size
      have hs56 := hb6.size
      have hs5r := hb5.size
      have hc6 := (hb6.cell (p := ⟨g, j, none⟩) (show g < w5.heap.size by omega)).trans ((hb5.cell (p := ⟨g, j, none⟩) (show g < wr.heap.size by omega)).trans hc)
      have Hb6 : Hid (HasU w6 w1.heap.size (.slice (some ⟨h, 0, none⟩) j cap) Lj) := (HbL.out.below hb5 (Nat.le_refl _)).below hb6 (Nat.le_refl _)
      have Hca : Hid (∀ i u, (Lj.map (Value.int .u64))[i]? = some u → w6.cell? ⟨h, i, none⟩ = some u ∧ h < w6.heap.size) := fun i u hu => by
        rcases Hb6.out.form with ⟨ev, -⟩ | ⟨g', cap', ev, -, hg', -, hcc, -⟩
        · cases ev
        · have eg : h = g' := by
            injection ev with e1 _ _
            injection e1 with e1
            injection e1
          subst eg
          have hil : i < Lj.length := by
            have := (List.getElem?_eq_some_iff.1 hu).1
            simpa using this
          refine ⟨?_, hg'⟩
          rw [hcc i hil]
          rw [List.getElem?_map, List.getElem?_eq_getElem hil] at hu
          simp only [List.getD, List.getElem?_eq_getElem hil]
          simpa using hu
      clear c2 v2 hb5 hb6 hb15 hc HbL hbel hs5r
      go_wp2_with (first | (at_builtin; refine wpList_append_own _ rfl _ _ 24 rfl w1.heap.size 26 i0 (.int .u64 0) 1 8 Tryd.underlying24 hi hz0 hz1 hz2 rfl (by decide) _ 1 [.int .u64 z] rfl ?c0 ⟨h, 0, none⟩ j cap (Lj.map (Value.int .u64)) rfl ?c6 ?c1 ?c2 ?c3 ?c4 ?c5 ?_) | go_in)
      case c0 => exact World.ownsRow_lit (base := w1.heap.size) (e := 26) (size := 1) w6 #[.int .u64 z] 1 hs6 (by decide) (by simp)
      case c1 =>
        intro i u hu
        obtain ⟨a, b⟩ := Hca.out i u hu
        have bel : Below w6.heap.size w6 (w6.alloc (.cells #[.int .u64 z] 26)) := (Below.refl _ _).alloc (Nat.le_refl _) _
        have := (bel.cell (p := ⟨h, i, none⟩) b).trans a
        by_cases hi0 : i = 0
        · subst hi0; simpa [Addr.add] using this
        · simpa [Addr.add, hi0] using this
      case c2 => intro u hu; obtain ⟨y, -, rfl⟩ := List.mem_map.1 hu; rfl
      case c3 => unfold maxLen; omega
      case c4 => omega
      case c5 => simp; omega
      case c6 => rw [List.length_map, Hlen.out]; omega
      · intro v' w7 hown7 hgrow _
        have H7 : Hid (HasU w7 w1.heap.size v' (zs.take (j + 1)).reverse) := by
          rw [Hid, e7.out]
          unfold HasU
          rw [List.length_cons, Hlen.out, Nat.add_comm j 1]
          exact hown7
        have hsh : ∃ h cap, v' = .slice (some ⟨h, 0, none⟩) (j + 1) cap := by
          rcases H7.out.form with ⟨-, en⟩ | ⟨g', cap', ev, -⟩
          · rw [e7.out] at en; cases en
          · rw [e7.out, List.length_cons, Hlen.out] at ev; exact ⟨_, _, ev⟩
        have hb17 : Below w1.heap.size w1 w7 := Below.grown (hb16.alloc hs6 _) hgrow (by simp; omega) (fun k hk => by cases hk; exact hs6)
        clear hown7 hgrow
        go_wp2
        go_roundw
        case rel => exact ⟨j + 1, R2, by omega, by go_num, rfl, H2, by omega, H7, hsh, hb17⟩
        case measure => simp [intOf]; omega
    · have hd : decide ((j : Int) < (n : Int)) = false := by simp; omega
      obtain rfl : j = n := by omega
      have HT : Hid (zs.take j = zs) := by rw [Hid, hn'.out, List.take_length]
      have Hb' : Hid (HasU wr w1.heap.size (.slice (some ⟨h, 0, none⟩) j cap) zs.reverse) := by
        have := Hb.out
        rw [HT.out] at this
        exact this
      have HR' : Hid (Canon R ∧ vl R = totL zs) := by
        have := HR.out
        rw [HT.out] at this
        exact this
      have htr := ht1.below hbel hz1'
      clear Hb HR Hc
      go_wp2_with fail
      refine (I4.out _ _ _ Hb'.out htr (by omega)).mono ?_
      rintro e w5 ⟨rfl, hb5⟩
      have hb15 : Below w1.heap.size w1 w5 := hbel.trans (hb5.mono hsr)
      have hs5 := hb15.size
      have ht5 := ht1.below hb15 hz1'
      go_wp2_with fail
      refine (I5.out _ ht5 (by omega)).mono ?_
      rintro e w6 ⟨rfl, hb6⟩
      have hb16 : Below w1.heap.size w1 w6 := hb15.trans (hb6.mono hs5)
      have hs6 := hb16.size
      clear I4 I5 hb5 hb6 Hb' htr ht5
      go_wp2_with fail
      refine (value_plain V _ bV.1 bV.2 HkV.out).mono ?_
      rintro e w7 ⟨R5, rfl, c5, v5, l5, hb7⟩
      have H5 : Hid (Canon R5 ∧ vl R5 = vl (digits 0 V)) := ⟨c5, v5⟩
      have hb17 : Below w1.heap.size w1 w7 := hb16.trans (hb7.mono hs6)
      have hs7 := hb17.size
      clear c5 v5 hb7
      go_wp2_with fail
      refine (above_any R5 O _ H5.out.1 (by omega) bO.1 (by omega)).mono ?_
      rintro e w8 ⟨R6, rfl, c6, v6, l6, hb8⟩
      have hb18 : Below w1.heap.size w1 w8 := hb17.trans (hb8.mono hs7)
      have hs8 := hb18.size
      have ht8 := ht1.below hb18 hz1'
      have heq : R6 = R := canon_unique R6 R c6 HR'.out.1 (by rw [v6, H5.out.2, HV.out, HR'.out.2])
      clear c6 v6 hb8
      subst heq
      go_wp2_with fail
      refine (I6.out _ ht8 (by omega)).mono ?_
      rintro e w9 ⟨rfl, hb9⟩
      have hbf : Below w.heap.size w w9 := hb1.trans ((hb18.trans (hb9.mono hs8)).mono hs1)
      clear hb9
      go_wp2
      go_ret
      exact ⟨by simp, hbf⟩
end Go.Proofs.YtlbkhiphnllfpabDoor
