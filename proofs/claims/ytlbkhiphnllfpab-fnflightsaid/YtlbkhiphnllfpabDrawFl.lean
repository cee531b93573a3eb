/-
  What the draw of signed digits gives, walked.
-/
import Derived.Test.YtlbkhiphnllfpabGrow
namespace Go.Proofs.Ytlbkhiphnllfpab
open Go.RowKit
set_option linter.unusedVariables false
def out3 : Array Value := #[.int .i64 (-10), .int .i64 10, .int .i64 (-9223372036854775808)]
theorem out3_at (x : Int) (h0 : 0 ≤ x) (h1 : x < 3) : ∃ v : Int, out3[x.toNat]? = some (.int .i64 v) := by
  obtain ⟨n, rfl⟩ := Int.eq_ofNat_of_zero_le h0
  match n, h1 with
  | 0, _ => exact ⟨_, rfl⟩
  | 1, _ => exact ⟨_, rfl⟩
  | 2, _ => exact ⟨_, rfl⟩
set_option maxHeartbeats 1600000 in
theorem l3DrawList_any (B cb : Nat) (w : World) (hc : Cur B w cb) :
    Calls Try.prog 25 #[.pointer (some ⟨cb, 0, none⟩)] w fun e w' => ∃ v zs, e = .returned v ∧ HasN w' w.heap.size v zs ∧ zs.length ≤ 42 ∧ Cur B w' cb ∧ w.grownBy w' (some cb) := by
  obtain ⟨base, hbase⟩ : ∃ b, b = w.heap.size := ⟨_, rfl⟩
  have hG : GrowN B cb w (w.alloc (.cells #[] 2)) base (.slice (some ⟨w.heap.size, 0, none⟩) 0 0) [] := by
    rw [hbase]
    exact ⟨none_ownN w, cur_alloc hc _, World.grownBy_alloc _ _ _, by simp, Nat.le_refl _⟩
  have hcb : cb < base := by have := hc.lt; omega
  have Hbase : Hid (base = w.heap.size) := hbase
  clear hbase hc
  go_enter Try.func25, Try.ntmps25
  go_wp2_with fail
  refine (l1Below_any B cb 9 _ hG.2.1 (by decide) (by decide)).mono ?_
  rintro e w1 ⟨m0, rfl, m00, m01, hc1, hg1⟩
  have hG1 := hG.draw hcb hc1 hg1
  clear hG hc1 hg1
  go_wp2_with fail
  refine (l1Below_any B cb 20 _ hG1.2.1 (by decide) (by decide)).mono ?_
  rintro e w2 ⟨n0, rfl, n00, n01, hc2, hg2⟩
  obtain ⟨n, rfl⟩ := Int.eq_ofNat_of_zero_le n00
  have hG2 : Hid (GrowN B cb w w2 base (.slice (some ⟨w.heap.size, 0, none⟩) 0 0) []) := hG1.draw hcb hc2 hg2
  clear hG1 hg2 hc2
  go_wp2
  go_loopw [3, 5] (fun v m wr => ∃ (k : Nat) (zs : List Int), m = .int .i64 k ∧ k + zs.length ≤ 20 ∧ Hid (GrowN B cb w wr base v zs)) (fun _ m _ => (intOf m).toNat)
  case atStart => exact ⟨n, [], rfl, by simp; omega, hG2⟩
  case round =>
    obtain ⟨k, zs, rfl, hk, hG⟩ := hrel
    by_cases hlt : 0 < k
    · have hlt' : (0 : Int) < (k : Int) := by omega
      go_wp2_with fail
      refine (l1From_any B cb _ _ _ hG.out.2.1 (by omega) (by omega) (by omega)).mono ?_
      rintro e w3 ⟨x, rfl, x0, x1, hc3, hg3⟩
      have hG3 : Hid (GrowN B cb w w3 base u3 zs) := hG.out.draw hcb hc3 hg3
      clear hG hc3 hg3
      go_wp2_with (first | (at_builtin; refine wpList_app rfl _ _ rfl _ _ rfl rfl base w3.heap.size zs [x] (hG3.out.1.alloc _) (one_ownN w3 _) (by simp; omega) (by have := hG3.out.2.2.2.1; simp; omega) ?_) | go_in)
      intro va w6 Ha6 hb6
      have hG6 : Hid (GrowN B cb w w6 base va (zs ++ [x])) := (hG3.out.alloc _).app hcb Ha6.out hb6.out
      clear Ha6 hb6 hG3
      go_wp2
      go_roundw
      case rel => exact ⟨k - 1, zs ++ [x], Ln.val_int (by omega), by simp; omega, hG6⟩
      case measure => simp [intOf]; omega
    · obtain rfl : k = 0 := by omega
      obtain ⟨g, cap', hu⟩ := hG.out.len
      subst hu
      have hz2 : zs.length ≤ 20 := by omega
      clear hk
      generalize hL : zs.length = L at *
      go_upto_region 7 with fail
      go_cut [30] (fun s wx => ∃ c : Bool, s = .bool c ∧ (c = true → 0 < L) ∧ Hid (GrowN B cb w wx base (.slice (some ⟨g, 0, none⟩) L cap') zs))
      case first =>
        go_wp2_with fail
        refine (l1Once_any B cb 16 _ hG.out.2.1 (by decide) (by decide)).mono ?_
        rintro e w3 ⟨b, rfl, hc3, hg3⟩
        have hG3 : Hid (GrowN B cb w w3 base (.slice (some ⟨g, 0, none⟩) L cap') zs) := hG.out.draw hcb hc3 hg3
        clear hG hc3 hg3
        cases b
        · go_wp2
          go_meet
          case rel => exact ⟨false, rfl, by simp, hG3⟩
        · by_cases hp : 0 < L
          · have hp' : (0 : Int) < (L : Int) := by omega
            go_wp2
            go_meet
            case rel => exact ⟨true, rfl, fun _ => hp, hG3⟩
          · have hp' : decide ((0 : Int) < (L : Int)) = false := by simp; omega
            go_wp2
            go_meet
            case rel => exact ⟨false, rfl, by simp, hG3⟩
      case rest =>
        obtain ⟨c, rfl, hpc, hG3⟩ := hcut
        clear hG
        go_upto_if 30 with fail
        go_cut [] (fun wx => ∃ ys : List Int, Hid (ys.length = L) ∧ Hid (GrowN B cb w wx base (.slice (some ⟨g, 0, none⟩) L cap') ys))
        case first =>
          cases c
          · go_wp2
            go_meet
            case rel => exact ⟨zs, hL, hG3⟩
          · have hp := hpc rfl
            go_wp2_with fail
            refine (l1Below_any B cb (L : Int) _ hG3.out.2.1 (by omega) (by omega)).mono ?_
            rintro e w5 ⟨y, rfl, y0, y1, hc5, hg5⟩
            have hG5 := hG3.out.draw hcb hc5 hg5
            clear hc5 hg5 hG3
            go_wp2_with fail
            refine (l1Below_any B cb 3 _ (cur_alloc hG5.2.1 _) (by decide) (by decide)).mono ?_
            rintro e w6 ⟨z, rfl, z0, z1, hc6, hg6⟩
            obtain ⟨x, hx⟩ := out3_at z z0 z1
            have hcell := lit_at (arr := out3) hg6 (show cb < w5.heap.size by have := hG5.2.2.2.1; omega) z.toNat _ hx
            have hG6 := (hG5.alloc (.cells out3 2)).draw hcb hc6 hg6
            obtain ⟨i, rfl⟩ := Int.eq_ofNat_of_zero_le y0
            have hset := GrowN.set (by rw [hL]; exact hG6) hcb i (by omega) x
            rw [hL] at hset
            have hf := hset.1
            have hcc := hset.2.1
            have Hs : Hid (GrowN B cb w (w6.setCell ⟨g, i, none⟩ (.int .i64 x)) base (.slice (some ⟨g, 0, none⟩) L cap') (zs.set i x)) := hset.2.2
            have Hl : Hid ((zs.set i x).length = L) := by show _ = _; rw [List.length_set]; exact hL
            generalize zs.set i x = zs' at *
            generalize zs.getD i 0 = o at *
            clear hset hG6 hG5 hc6 hg6 hx
            go_wp2
            go_meet
            case rel => exact ⟨_, Hl, Hs⟩
        case rest =>
          obtain ⟨ys, hyl, hG4⟩ := hcut
          clear hG3 hL hpc
          go_wp2_with fail
          refine (l1Once_any B cb 24 _ hG4.out.2.1 (by decide) (by decide)).mono ?_
          rintro e w5 ⟨b2, rfl, hc5, hg5⟩
          have hG5 : Hid (GrowN B cb w w5 base (.slice (some ⟨g, 0, none⟩) L cap') ys) := hG4.out.draw hcb hc5 hg5
          clear hG4 hc5 hg5
          cases b2
          · go_wp2
            go_ret
            exact ⟨_, ys, rfl, hG5.out.1.mono (by have := Hbase.out; omega), by have := hyl.out; omega, hG5.out.2.1, hG5.out.2.2.1⟩
          · go_wp2
            go_loopw [3] (fun v wr => ∃ xs : List Int, xs.length ≤ 42 ∧ slen v = xs.length ∧ Hid (GrowN B cb w wr base v xs)) (fun v _ => 42 - slen v)
            case atStart => exact ⟨ys, by have := hyl.out; omega, by rw [hyl.out]; rfl, hG5⟩
            case round =>
              obtain ⟨xs, hx, hlv, hG⟩ := hrel
              obtain ⟨g', cap'', hu⟩ := hG.out.len
              subst hu
              clear hlv hG5 hyl
              generalize hM : xs.length = M at *
              go_wp2_with fail
              refine (l1Below_any B cb 3 _ hG.out.2.1 (by decide) (by decide)).mono ?_
              rintro e w6 ⟨y, rfl, y0, y1, hc6, hg6⟩
              have hG6 : Hid (GrowN B cb w w6 base (.slice (some ⟨g', 0, none⟩) M cap'') xs) := hG.out.draw hcb hc6 hg6
              clear hG hc6 hg6
              by_cases hlt2 : (M : Int) < 40 + y
              · go_wp2_with fail
                refine (l1From_any B cb (-9) 9 _ hG6.out.2.1 (by decide) (by decide) (by decide)).mono ?_
                rintro e w7 ⟨x, rfl, x0, x1, hc7, hg7⟩
                have hG7 : Hid (GrowN B cb w w7 base (.slice (some ⟨g', 0, none⟩) M cap'') xs) := hG6.out.draw hcb hc7 hg7
                clear hG6 hc7 hg7
                go_wp2_with (first | (at_builtin; refine wpList_app rfl _ _ rfl _ _ rfl rfl base w7.heap.size xs [x] (hG7.out.1.alloc _) (one_ownN w7 _) (by simp; omega) (by have := hG7.out.2.2.2.1; simp; omega) ?_) | go_in)
                intro va w8 Ha8 hb8
                have hG8 : Hid (GrowN B cb w w8 base va (xs ++ [x])) := (hG7.out.alloc _).app hcb Ha8.out hb8.out
                clear Ha8 hb8 hG7
                obtain ⟨g8, cap8, hu8⟩ := hG8.out.len
                go_wp2
                go_roundw
                case rel => exact ⟨xs ++ [x], by simp; omega, by rw [hu8]; rfl, hG8⟩
                case measure => rw [hu8]; simp [slen]; omega
              · have hd : decide ((M : Int) < 40 + y) = false := by simp; omega
                go_wp2
                go_ret
                exact ⟨_, xs, rfl, hG6.out.1.mono (by have := Hbase.out; omega), by omega, hG6.out.2.1, hG6.out.2.2.1⟩
theorem DrawFlight_any (a : Option Addr) (len cap : Nat) (w : World) (hl : len ≤ 4096) (hb : Bytes w.heap.size w a len) :
    Calls Try.prog 12 #[.slice a len cap] w fun e w' => ∃ v zs, e = .returned v ∧ Has w' w.heap.size v zs ∧ zs.length ≤ 42 ∧ Below w.heap.size w w' := by
  have hB : Hid (Bytes w.heap.size w a len) := hb
  clear hb
  go_enter Try.func12, Try.ntmps12
  go_wp2_with fail
  refine (l1New_any a len cap _ hl hB.out).mono ?_
  rintro e w1 ⟨rfl, hc1, hb1⟩
  have hs1 := hb1.size
  go_wp2_with fail
  refine (l3DrawList_any _ _ _ hc1).mono ?_
  rintro e w2 ⟨v, zs, rfl, hv, hz, hc2, hg2⟩
  have hbf : Below w.heap.size w w2 := Below.grown hb1 hg2 hs1 (fun k hk => by cases hk; exact Nat.le_refl _)
  have Hv : Hid (Has w2 w.heap.size v zs) := hv.1.mono hs1
  clear hg2 hc1 hc2 hv
  go_wp2
  go_ret
  exact ⟨_, zs, rfl, Hv.out, hz, hbf⟩
end Go.Proofs.Ytlbkhiphnllfpab
