/-
  The draws of naturals as texts, walked.
-/
import Derived.Test.YtjgnhlldehgieaeDoorDrawN
import Derived.Test.YtjgnhlldehgieaeDoorNatS
namespace Go.Proofs.YtjgnhlldehgieaeDoor
open Go.RowKit
set_option linter.unusedVariables false
set_option maxRecDepth 100000
def len5 : Array Value := #[.int .i64 4, .int .i64 20, .int .i64 40, .int .i64 100, .int .i64 110]
theorem len5_at (x : Int) (h0 : 0 ≤ x) (h1 : x < 5) : ∃ v : Int, len5[x.toNat]? = some (.int .i64 v) ∧ 1 ≤ v ∧ v ≤ 110 := by
  obtain ⟨n, rfl⟩ := Int.eq_ofNat_of_zero_le h0
  match n, h1 with
  | 0, _ => exact ⟨_, rfl, by omega, by omega⟩
  | 1, _ => exact ⟨_, rfl, by omega, by omega⟩
  | 2, _ => exact ⟨_, rfl, by omega, by omega⟩
  | 3, _ => exact ⟨_, rfl, by omega, by omega⟩
  | 4, _ => exact ⟨_, rfl, by omega, by omega⟩
def odd5 : Array Value := #[.string { data := #[] }, .string { data := #[48, 48] }, .string { data := #[48] }, .string { data := #[49, 120] }, .string { data := #[43, 49] }]
theorem odd5_at (x : Int) (h0 : 0 ≤ x) (h1 : x < 5) : ∃ v : ByteArray, odd5[x.toNat]? = some (.string v) ∧ v.size ≤ 300 := by
  obtain ⟨n, rfl⟩ := Int.eq_ofNat_of_zero_le h0
  match n, h1 with
  | 0, _ => exact ⟨_, rfl, by decide⟩
  | 1, _ => exact ⟨_, rfl, by decide⟩
  | 2, _ => exact ⟨_, rfl, by decide⟩
  | 3, _ => exact ⟨_, rfl, by decide⟩
  | 4, _ => exact ⟨_, rfl, by decide⟩
set_option maxRecDepth 100000 in
set_option maxHeartbeats 2000000 in
theorem l11Draw_any (B cb : Nat) (w : World) (hc : Cur B w cb) :
    Calls Tryd.prog 12 #[.pointer (some ⟨cb, 0, none⟩)] w fun e w' => ∃ s, e = .returned (.string s) ∧ s.size ≤ 300 ∧ Cur B w' cb ∧ w.grownBy w' (some cb) := by
  have hcl := hc.lt
  go_enter Tryd.func12, Tryd.ntmps12
  go_wp2_with fail
  refine (l1Below_any B cb 5 _ (cur_alloc hc _) (by decide) (by decide)).mono ?_
  rintro e w1 ⟨y, rfl, y0, y1, hc1, hg1⟩
  obtain ⟨v, hv, v0, v1⟩ := len5_at y y0 y1
  have hcell := lit_at (arr := len5) hg1 hcl.2 y.toNat _ hv
  have hg : w.grownBy w1 (some cb) := grown_trans (World.grownBy_alloc _ _ _) hg1
  have hl1 := hc1.lt
  clear hc hg1 hv
  go_wp2_with fail
  refine (l10DrawDigits_any B cb v _ hc1 v0 (by omega)).mono ?_
  rintro e w2 ⟨ds, rfl, hds, hdl, hc2, hg2⟩
  have hz : (tx ds).size ≤ 300 := by rw [tx_size]; omega
  replace hg := grown_trans hg hg2
  have hl2 := hc2.lt
  clear hc1 hg2 hds hdl hcell
  generalize tx ds = s0 at *
  go_wp2_with fail
  refine (l1Once_any B cb 40 _ hc2 (by decide) (by decide)).mono ?_
  rintro e w3 ⟨b3, rfl, hc3, hg3⟩
  have HG3 : Hid (w.grownBy w3 (some cb)) := grown_trans hg hg3
  have HC3 : Hid (Cur B w3 cb) := hc3
  have hl3 := hc3.lt
  clear hc2 hg3 hg hc3
  go_upto_if 12 with fail
  go_cut [3] (fun s wx => ∃ t : ByteArray, s = .string t ∧ t.size ≤ 300 ∧ Hid (Cur B wx cb) ∧ Hid (w.grownBy wx (some cb)))
  case first =>
    cases b3
    · go_wp2
      go_meet
      case rel => exact ⟨_, rfl, hz, HC3, HG3⟩
    · go_wp2_with fail
      refine (l1Below_any B cb 5 _ (cur_alloc HC3.out _) (by decide) (by decide)).mono ?_
      rintro e w4 ⟨x, rfl, x0, x1, hc4, hg4⟩
      obtain ⟨u, hu, hu3⟩ := odd5_at x x0 x1
      have hcell := lit_at (arr := odd5) hg4 hl3.2 x.toNat _ hu
      have HG4 : Hid (w.grownBy w4 (some cb)) := grown_trans (grown_trans HG3.out (World.grownBy_alloc _ _ _)) hg4
      have HC4 : Hid (Cur B w4 cb) := hc4
      clear hc4 hg4 hu HC3 HG3
      go_wp2
      go_meet
      case rel => exact ⟨_, rfl, hu3, HC4, HG4⟩
  case rest =>
    obtain ⟨t, rfl, ht, hc4, hg4⟩ := hcut
    clear HC3 HG3
    go_wp2_with fail
    refine (l1Once_any B cb 40 _ hc4.out (by decide) (by decide)).mono ?_
    rintro e w5 ⟨b5, rfl, hc5, hg5⟩
    have HG5 : Hid (w.grownBy w5 (some cb)) := grown_trans hg4.out hg5
    have HC5 : Hid (Cur B w5 cb) := hc5
    clear hc5 hg5 hc4 hg4
    cases b5
    · go_wp2
      go_ret
      exact ⟨_, rfl, ht, HC5.out, HG5.out⟩
    · go_wp2
      go_loopw [3] (fun s wr => ∃ u : ByteArray, s = .string u ∧ u.size ≤ 300 ∧ Hid (Cur B wr cb) ∧ Hid (w.grownBy wr (some cb))) (fun s _ => 400 - strSz s)
      case atStart => exact ⟨_, rfl, by decide, HC5, HG5⟩
      case round =>
        clear HC5 HG5
        obtain ⟨u, rfl, hu, hC, hG⟩ := hrel
        go_wp2_with fail
        refine (l1Below_any B cb 2 _ hC.out (by decide) (by decide)).mono ?_
        rintro e w6 ⟨x, rfl, x0, x1, hc6, hg6⟩
        have HG6 : Hid (w.grownBy w6 (some cb)) := grown_trans hG.out hg6
        have HC6 : Hid (Cur B w6 cb) := hc6
        clear hc6 hg6 hC hG
        by_cases hlt : (u.size : Int) < 200 + x
        · have hz1 : (u.size : Int) ≤ 8388608 := by omega
          have hz2 : (u ++ { data := #[57] }).size = u.size + 1 := by rw [ByteArray.size_append]; rfl
          have hz3 : Hid ((u ++ { data := #[57] }).size ≤ 300) := by rw [Hid, hz2]; omega
          have hm : Hid (400 - strSz (.string (u ++ { data := #[57] })) < 400 - strSz (.string u)) := by
            have a : strSz (.string (u ++ { data := #[57] })) = u.size + 1 := hz2
            have b : strSz (.string u) = u.size := rfl
            rw [Hid, a, b]; omega
          clear hz2
          go_wp2
          go_roundw
          case rel => exact ⟨_, rfl, hz3.out, HC6, HG6⟩
          case measure => exact hm.out
        · go_wp2
          go_ret
          exact ⟨_, rfl, hu, HC6.out, HG6.out⟩
theorem bytes_bel {w w1 : World} {a : Option Addr} {len : Nat} (h : Bytes w.heap.size w a len) (hb : Below w.heap.size w w1) : Bytes w1.heap.size w1 a len := by
  have hs := hb.size
  rcases h with h | ⟨b, off, rfl, hl, hz⟩
  · exact .inl h
  · refine .inr ⟨b, off, rfl, by omega, fun j hj => ?_⟩
    obtain ⟨z, hc, r⟩ := hz j hj
    exact ⟨z, (hb.cell (p := ⟨b, off + j, none⟩) hl).trans hc, r⟩
theorem fitS_size (L : List Int) : (fitS L).size ≤ 300 := by
  unfold fitS
  split
  · rw [tx_size]; omega
  · decide
end Go.Proofs.YtjgnhlldehgieaeDoor
