/-
  What the draw of digits gives, walked.
-/
import Derived.Test.YtlbkhiphnllfpabGrow
namespace Go.Proofs.Ytlbkhiphnllfpab
open Go.RowKit
set_option linter.unusedVariables false
def dig4 : Array Value := #[.int .i64 5, .int .i64 4, .int .i64 9, .int .i64 6]
theorem dig4_at (x : Int) (h0 : 0 ≤ x) (h1 : x < 4) : ∃ v : Int, dig4[x.toNat]? = some (.int .i64 v) := by
  obtain ⟨n, rfl⟩ := Int.eq_ofNat_of_zero_le h0
  match n, h1 with
  | 0, _ => exact ⟨_, rfl⟩
  | 1, _ => exact ⟨_, rfl⟩
  | 2, _ => exact ⟨_, rfl⟩
  | 3, _ => exact ⟨_, rfl⟩
def bad3 : Array Value := #[.int .i64 (-1), .int .i64 10, .int .i64 4611686018427387904]
theorem bad3_at (x : Int) (h0 : 0 ≤ x) (h1 : x < 3) : ∃ v : Int, bad3[x.toNat]? = some (.int .i64 v) := by
  obtain ⟨n, rfl⟩ := Int.eq_ofNat_of_zero_le h0
  match n, h1 with
  | 0, _ => exact ⟨_, rfl⟩
  | 1, _ => exact ⟨_, rfl⟩
  | 2, _ => exact ⟨_, rfl⟩
set_option maxHeartbeats 1600000 in
theorem DrawSigned_any (a : Option Addr) (len cap : Nat) (w : World) (hl : len ≤ 4096) (hb : Bytes w.heap.size w a len) :
    Calls Try.prog 6 #[.slice a len cap] w fun e w' => ∃ v zs, e = .returned v ∧ Has w' w.heap.size v zs ∧ zs.length ≤ 41 ∧ Below w.heap.size w w' := by
  have hB : Hid (Bytes w.heap.size w a len) := hb
  clear hb
  go_enter Try.func6, Try.ntmps6
  go_wp2_with fail
  refine (l1New_any a len cap _ hl hB.out).mono ?_
  rintro e w1 ⟨rfl, hc1, hb1⟩
  have Hb1 : Hid (Below w.heap.size w w1) := hb1
  have hs1 := hb1.size
  have hcl := hc1.lt.2
  obtain ⟨base, hbase⟩ : ∃ b, b = w1.heap.size := ⟨_, rfl⟩
  have hG : GrowN w.heap.size w.heap.size w1 (w1.alloc (.cells #[] 2)) base (.slice (some ⟨w1.heap.size, 0, none⟩) 0 0) [] := by
    rw [hbase]
    exact ⟨none_ownN w1, cur_alloc hc1 _, World.grownBy_alloc _ _ _, by simp, Nat.le_refl _⟩
  have hcb : w.heap.size < base := by omega
  clear hbase hc1 hb1
  go_wp2_with fail
  refine (l1Below_any w.heap.size w.heap.size 20 _ hG.2.1 (by decide) (by decide)).mono ?_
  rintro e w2 ⟨n0, rfl, n00, n01, hc2, hg2⟩
  obtain ⟨n, rfl⟩ := Int.eq_ofNat_of_zero_le n00
  have hG2 : Hid (GrowN w.heap.size w.heap.size w1 w2 base (.slice (some ⟨w1.heap.size, 0, none⟩) 0 0) []) := hG.draw hcb hc2 hg2
  clear hG hg2 hc2
  go_wp2
  go_loopw [4, 5] (fun v m wr => ∃ (k : Nat) (zs : List Int), m = .int .i64 k ∧ 1 ≤ k + zs.length ∧ k + zs.length ≤ 20 ∧ Hid (GrowN w.heap.size w.heap.size w1 wr base v zs)) (fun _ m _ => (intOf m).toNat)
  case atStart => exact ⟨n + 1, [], Ln.val_int (by omega), by simp, by simp; omega, hG2⟩
  case round =>
    obtain ⟨k, zs, rfl, hk0, hk, hG⟩ := hrel
    by_cases hlt : 0 < k
    · have hlt' : (0 : Int) < (k : Int) := by omega
      go_wp2_with fail
      refine (l1Below_any w.heap.size w.heap.size 10 _ hG.out.2.1 (by decide) (by decide)).mono ?_
      rintro e w3 ⟨d0, rfl, d00, d01, hc3, hg3⟩
      have hG3 := hG.out.draw hcb hc3 hg3
      clear hc3 hg3 hG
      go_wp2_with fail
      refine (l1Once_any w.heap.size w.heap.size 3 _ hG3.2.1 (by decide) (by decide)).mono ?_
      rintro e w4 ⟨b, rfl, hc4, hg4⟩
      have hG4 : Hid (GrowN w.heap.size w.heap.size w1 w4 base u4 zs) := hG3.draw hcb hc4 hg4
      clear hG3 hc4 hg4
      go_upto_if 20 with fail
      go_cut [6] (fun s wx => ∃ x : Int, s = .int .i64 x ∧ Hid (GrowN w.heap.size w.heap.size w1 wx base u4 zs))
      case first =>
        cases b
        · go_wp2
          go_meet
          case rel => exact ⟨_, rfl, hG4⟩
        · go_wp2_with fail
          refine (l1Below_any w.heap.size w.heap.size 4 _ (cur_alloc hG4.out.2.1 _) (by decide) (by decide)).mono ?_
          rintro e w5 ⟨y, rfl, y0, y1, hc5, hg5⟩
          obtain ⟨x, hx⟩ := dig4_at y y0 y1
          have hcell := lit_at (arr := dig4) hg5 (show w.heap.size < w4.heap.size by have := hG4.out.2.2.2.1; omega) y.toNat _ hx
          have hG5 : Hid (GrowN w.heap.size w.heap.size w1 w5 base u4 zs) := (hG4.out.alloc _).draw hcb hc5 hg5
          clear hc5 hg5 hx hG4
          go_wp2
          go_meet
          case rel => exact ⟨_, rfl, hG5⟩
      case rest =>
        obtain ⟨x, rfl, hG5⟩ := hcut
        clear hG4
        go_wp2_with (first | (at_builtin; refine wpList_app rfl _ _ rfl _ _ rfl rfl base wc.heap.size zs [x] (hG5.out.1.alloc _) (one_ownN wc _) (by simp; omega) (by have := hG5.out.2.2.2.1; simp; omega) ?_) | go_in)
        intro va w6 Ha6 hb6
        have hG6 : Hid (GrowN w.heap.size w.heap.size w1 w6 base va (zs ++ [x])) := (hG5.out.alloc _).app hcb Ha6.out hb6.out
        clear Ha6 hb6 hG5
        go_wp2
        go_roundw
        case rel => exact ⟨k - 1, zs ++ [x], Ln.val_int (by omega), by simp; omega, by simp; omega, hG6⟩
        case measure => simp [intOf]; omega
    · obtain rfl : k = 0 := by omega
      obtain ⟨g, cap', hu⟩ := hG.out.len
      subst hu
      have hz1 : 1 ≤ zs.length := by omega
      have hz2 : zs.length ≤ 20 := by omega
      clear hk0 hk
      go_wp2_with fail
      refine (l1Once_any w.heap.size w.heap.size 16 _ hG.out.2.1 (by decide) (by decide)).mono ?_
      rintro e w3 ⟨b, rfl, hc3, hg3⟩
      have hG3 : Hid (GrowN w.heap.size w.heap.size w1 w3 base (.slice (some ⟨g, 0, none⟩) zs.length cap') zs) := hG.out.draw hcb hc3 hg3
      clear hG hc3 hg3
      generalize hL : zs.length = L at *
      go_upto_if 31 with fail
      go_cut [] (fun wx => ∃ ys : List Int, Hid (ys.length = L) ∧ Hid (GrowN w.heap.size w.heap.size w1 wx base (.slice (some ⟨g, 0, none⟩) L cap') ys))
      case first =>
        cases b
        · go_wp2
          go_meet
          case rel => exact ⟨zs, hL, hG3⟩
        · go_wp2_with fail
          refine (l1Below_any w.heap.size w.heap.size (L : Int) _ hG3.out.2.1 (by omega) (by omega)).mono ?_
          rintro e w5 ⟨y, rfl, y0, y1, hc5, hg5⟩
          have hG5 := hG3.out.draw hcb hc5 hg5
          clear hc5 hg5 hG3
          go_wp2_with fail
          refine (l1Below_any w.heap.size w.heap.size 3 _ (cur_alloc hG5.2.1 _) (by decide) (by decide)).mono ?_
          rintro e w6 ⟨z, rfl, z0, z1, hc6, hg6⟩
          obtain ⟨x, hx⟩ := bad3_at z z0 z1
          have hcell := lit_at (arr := bad3) hg6 (show w.heap.size < w5.heap.size by have := hG5.2.2.2.1; omega) z.toNat _ hx
          have hG6 := (hG5.alloc (.cells bad3 2)).draw hcb hc6 hg6
          obtain ⟨i, rfl⟩ := Int.eq_ofNat_of_zero_le y0
          have hset := GrowN.set (by rw [hL]; exact hG6) hcb i (by omega) x
          rw [hL] at hset
          have hf := hset.1
          have hcc := hset.2.1
          have Hs : Hid (GrowN w.heap.size w.heap.size w1 (w6.setCell ⟨g, i, none⟩ (.int .i64 x)) base (.slice (some ⟨g, 0, none⟩) L cap') (zs.set i x)) := hset.2.2
          have Hl : Hid ((zs.set i x).length = L) := by show _ = _; rw [List.length_set]; exact hL
          generalize zs.set i x = zs' at *
          generalize zs.getD i 0 = o at *
          clear hset hG6 hG5 hc6 hg6 hx
          go_wp2
          go_meet
          case rel => exact ⟨_, Hl, Hs⟩
      case rest =>
        obtain ⟨ys, hyl, hG4⟩ := hcut
        clear hG3 hL
        go_wp2_with fail
        refine (l1Once_any w.heap.size w.heap.size 24 _ hG4.out.2.1 (by decide) (by decide)).mono ?_
        rintro e w5 ⟨b2, rfl, hc5, hg5⟩
        have hG5 : Hid (GrowN w.heap.size w.heap.size w1 w5 base (.slice (some ⟨g, 0, none⟩) L cap') ys) := hG4.out.draw hcb hc5 hg5
        clear hG4 hc5 hg5
        go_upto_if 44 with fail
        go_cut [4] (fun s wx => ∃ xs : List Int, xs.length ≤ 41 ∧ Hid (GrowN w.heap.size w.heap.size w1 wx base s xs))
        case first =>
          cases b2
          · go_wp2
            go_meet
            case rel => exact ⟨ys, by have := hyl.out; omega, hG5⟩
          · go_wp2
            go_loopw [4] (fun v wr => ∃ xs : List Int, xs.length ≤ 41 ∧ slen v = xs.length ∧ Hid (GrowN w.heap.size w.heap.size w1 wr base v xs)) (fun v _ => 41 - slen v)
            case atStart => exact ⟨ys, by have := hyl.out; omega, by rw [hyl.out]; rfl, hG5⟩
            case round =>
              obtain ⟨xs, hx, hlv, hG⟩ := hrel
              obtain ⟨g', cap'', hu⟩ := hG.out.len
              subst hu
              clear hlv hG5 hyl
              have HL : Hid (xs.length = xs.length) := rfl
              generalize hM : xs.length = M at *
              go_wp2_with fail
              refine (l1Below_any w.heap.size w.heap.size 2 _ hG.out.2.1 (by decide) (by decide)).mono ?_
              rintro e w6 ⟨y, rfl, y0, y1, hc6, hg6⟩
              have hG6 : Hid (GrowN w.heap.size w.heap.size w1 w6 base (.slice (some ⟨g', 0, none⟩) M cap'') xs) := hG.out.draw hcb hc6 hg6
              clear hG hc6 hg6
              by_cases hlt2 : (M : Int) < 40 + y
              · go_wp2_with (first | (at_builtin; refine wpList_app rfl _ _ rfl _ _ rfl rfl base w6.heap.size xs [5] (hG6.out.1.alloc _) (one_ownN w6 _) (by simp; omega) (by have := hG6.out.2.2.2.1; simp; omega) ?_) | go_in)
                intro va w7 Ha7 hb7
                have hG7 : Hid (GrowN w.heap.size w.heap.size w1 w7 base va (xs ++ [5])) := (hG6.out.alloc _).app hcb Ha7.out hb7.out
                clear Ha7 hb7 hG6
                obtain ⟨g7, cap7, hu7⟩ := hG7.out.len
                go_wp2
                go_roundw
                case rel => exact ⟨xs ++ [5], by simp; omega, by rw [hu7]; rfl, hG7⟩
                case measure => rw [hu7]; simp [slen]; omega
              · have hd : decide ((M : Int) < 40 + y) = false := by simp; omega
                go_wp2
                go_meet
                case rel => exact ⟨xs, by omega, hG6⟩
        case rest =>
          obtain ⟨xs, hx, hG6⟩ := hcut
          clear hG5
          go_wp2_with fail
          refine (l1Once_any w.heap.size w.heap.size 60 _ hG6.out.2.1 (by decide) (by decide)).mono ?_
          rintro e w7 ⟨b3, rfl, hc7, hg7⟩
          have hG7 := hG6.out.draw hcb hc7 hg7
          have Hv : Hid (Has w7 w.heap.size _ xs) := hG7.1.1.mono (by omega)
          have Hb7 : Hid (Below w.heap.size w w7) := Below.grown Hb1.out hG7.2.2.1 hs1 (fun k hk => by cases hk; exact Nat.le_refl _)
          have hs7 := Hb7.out.size
          clear hG7 hG6 hc7 hg7
          cases b3
          · go_wp2
            go_ret
            exact ⟨_, xs, rfl, Hv.out, hx, Hb7.out⟩
          · go_wp2
            go_ret
            exact ⟨_, [], rfl, (none_own w7).mono hs7, by simp, Hb7.out.alloc hs7 _⟩
end Go.Proofs.Ytlbkhiphnllfpab
