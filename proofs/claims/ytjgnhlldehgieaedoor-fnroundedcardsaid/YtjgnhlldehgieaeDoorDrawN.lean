/-
  The draws of numbers' digits, walked.
-/
import Derived.Test.YtjgnhlldehgieaeDoorDrawG
import Derived.Test.YtjgnhlldehgieaeDoorTxt
import Derived.Test.YtjgnhlldehgieaeDoorNum
import Derived.Deep.DeepCutAuto
namespace Go.Proofs.YtjgnhlldehgieaeDoor
open Go.RowKit
set_option linter.unusedVariables false
set_option maxRecDepth 100000
theorem l1Min_any (a b : Int) (w : World) : Calls Tryd.prog 40 #[.int .i64 a, .int .i64 b] w fun e w' => e = .returned (.int .i64 (if a < b then a else b)) ∧ w' = w := by
  by_cases h : a < b
  · rw [if_pos h]
    go_enter Tryd.func40, Tryd.ntmps40
    go_wp2
    go_ret
    exact ⟨rfl, rfl⟩
  · rw [if_neg h]
    go_enter Tryd.func40, Tryd.ntmps40
    go_wp2
    go_ret
    exact ⟨rfl, rfl⟩
theorem nconv1 (d : Int) (W : World) : (convert 22 9 (.slice (some ⟨W.heap.size, 0, none⟩) 1 1)).run Tryd.prog (W.alloc (.cells #[.int .u8 (48 + d)] 5)) = .ok (.string (tx [d])) (W.alloc (.cells #[.int .u8 (48 + d)] 5)) :=
  run_convert_bytes_arg (P := Tryd.prog) _ 22 5 Tryd.underlying22 Tryd.underlying5 W.heap.size 0 1 1 [48 + d] rfl (fun i hi => by
    match i, hi with
    | 0, _ => simp) 9 Tryd.underlying9
theorem dec_snoc (L : List Int) (x : Int) (h : Dec L) (h0 : 0 ≤ x) (h9 : x ≤ 9) : Dec (L ++ [x]) := fun d hd => by
  rcases List.mem_append.1 hd with c | c
  · exact h d c
  · simp at c; omega
set_option maxRecDepth 100000 in
set_option maxHeartbeats 4000000 in
theorem l10DrawDigits_any (B cb : Nat) (most : Int) (w : World) (hc : Cur B w cb) (hm : 1 ≤ most) (hm2 : most ≤ 200) :
    Calls Tryd.prog 23 #[.pointer (some ⟨cb, 0, none⟩), .int .i64 most] w fun e w' => ∃ ds, e = .returned (.string (tx ds)) ∧ Canon ds ∧ (ds.length : Int) ≤ most ∧ Cur B w' cb ∧ w.grownBy w' (some cb) := by
  go_enter Tryd.func23, Tryd.ntmps23
  go_wp2_with fail
  refine (l1Below_any B cb most _ hc (by omega) (by omega)).mono ?_
  rintro e w1 ⟨x1, rfl, x10, x11, hc1, hg1⟩
  go_wp2_with fail
  refine (l1Once_any B cb 3 _ hc1 (by decide) (by decide)).mono ?_
  rintro e w2 ⟨b2, rfl, hc2, hg2⟩
  have hg : Hid (w.grownBy w2 (some cb)) := grown_trans hg1 hg2
  clear hc hc1 hg1 hg2
  go_upto_if 14 with fail
  go_cut [5] (fun s wx => ∃ N : Int, s = .int .i64 N ∧ (1 ≤ N ∧ N ≤ most) ∧ Hid (Cur B wx cb) ∧ Hid (w.grownBy wx (some cb)))
  case first =>
    cases b2
    · go_wp2
      go_meet
      case rel => exact ⟨_, rfl, by omega, hc2, hg⟩
    · have hmin : 1 ≤ (if most < 4 then most else 4) ∧ (if most < 4 then most else 4) ≤ most ∧ (if most < 4 then most else 4) ≤ 4 := by split <;> omega
      go_wp2_with fail
      refine (l1Min_any most 4 _).mono ?_
      rintro e wy ⟨rfl, rfl⟩
      generalize (if most < 4 then most else (4 : Int)) = M at *
      go_wp2_with fail
      refine (l1Below_any B cb M _ hc2 (by omega) (by omega)).mono ?_
      rintro e w3 ⟨x3, rfl, x30, x31, hc3, hg3⟩
      have hg' : Hid (w.grownBy w3 (some cb)) := grown_trans hg.out hg3
      clear hg hg3 hc2
      go_wp2
      go_meet
      case rel => exact ⟨_, rfl, by omega, hc3, hg'⟩
  case rest =>
    obtain ⟨N, rfl, hN, hc3, hg3⟩ := hcut
    clear hg hc2 x10 x11
    go_wp2_with fail
    refine (l1Once_any B cb 6 _ hc3.out (by decide) (by decide)).mono ?_
    rintro e w4 ⟨b4, rfl, hc4, hg4⟩
    have hg : Hid (w.grownBy w4 (some cb)) := grown_trans hg3.out hg4
    have hC4 : Hid (Cur B w4 cb) := hc4
    clear hg3 hg4 hc3 hc4
    go_upto_if 21 with fail
    go_cut [5] (fun s wx => ∃ N : Int, s = .int .i64 N ∧ (1 ≤ N ∧ N ≤ most) ∧ wx = w4)
    case first =>
      cases b4
      · go_wp2
        go_meet
        case rel => exact ⟨_, rfl, hN, rfl⟩
      · go_wp2
        go_meet
        case rel => exact ⟨_, rfl, by omega, rfl⟩
    case rest =>
      obtain ⟨N, rfl, hN, rfl⟩ := hcut
      go_wp2_with fail
      refine (l1Below_any B cb 4 _ hC4.out (by decide) (by decide)).mono ?_
      rintro e w5 ⟨fl, rfl, f0, f1, hc5, hg5⟩
      have HG5 : Hid (w.grownBy w5 (some cb)) := grown_trans hg.out hg5
      have HC5 : Hid (Cur B w5 cb) := hc5
      clear hg hg5 hc5 hC4
      have ht0 : tx [] = { data := #[] } := by apply ByteArray.ext; rw [tx_data]; rfl
      have HT0 : Hid (tx [] = { data := #[] }) := ht0
      clear ht0
      go_wp2
      go_loopw [6] (fun s wr => ∃ L : List Int, s = .string (tx L) ∧ (L.length : Int) ≤ N ∧ Hid (Dec L) ∧ Hid (Cur B wr cb) ∧ Hid (w.grownBy wr (some cb))) (fun s _ => 200 - strSz s)
      case atStart => exact ⟨[], by rw [HT0.out], by simp; omega, (fun d hd => by cases hd), HC5, HG5⟩
      case round =>
        clear HC5 HG5
        obtain ⟨L, rfl, hL, hD, hC, hG⟩ := hrel
        have hz := tx_size L
        by_cases hlt : (L.length : Int) < N
        · have h1 : ((tx L).size : Int) < N := by omega
          go_wp2_with fail
          refine (l1Below_any B cb 10 _ hC.out (by decide) (by decide)).mono ?_
          rintro e w6 ⟨d, rfl, d0, d1, hc6, hg6⟩
          have HG6 : Hid (w.grownBy w6 (some cb)) := grown_trans hG.out hg6
          have HC6 : Hid (Cur B w6 cb) := hc6
          clear hG hg6 hc6 hC
          have hcase : (fl = 0 ∧ ¬ (0 : Int) < ((tx L).size : Int) ∧ decide ((0 : Int) < ((tx L).size : Int)) = false) ∨ (fl = 0 ∧ (0 : Int) < ((tx L).size : Int)) ∨ fl = 1 ∨ ((fl == 0) = false ∧ (fl == 1) = false) := by
            by_cases h0 : fl = 0
            · by_cases hl0 : L.length = 0
              · exact .inl ⟨h0, by omega, decide_eq_false (by omega)⟩
              · exact .inr (.inl ⟨h0, by omega⟩)
            · by_cases h9 : fl = 1
              · exact .inr (.inr (.inl h9))
              · exact .inr (.inr (.inr ⟨by simpa using h0, by simpa using h9⟩))
          rcases hcase with ⟨rfl, h2, h2'⟩ | ⟨rfl, h2⟩ | rfl | ⟨h2, h3⟩
          all_goals
            go_wp2_with fail
            refine (l1Once_any B cb 12 _ HC6.out (by decide) (by decide)).mono ?_
            rintro e w7 ⟨b7, rfl, hc7, hg7⟩
            have HG7 : Hid (w.grownBy w7 (some cb)) := grown_trans HG6.out hg7
            have HC7 : Hid (Cur B w7 cb) := hc7
            clear HG6 HC6 hg7 hc7
            go_upto_if 41 with fail
            go_cut [8] (fun s wx => ∃ x : Int, s = .int .i64 x ∧ (0 ≤ x ∧ x ≤ 9) ∧ wx = w7)
            case first =>
              cases b7
              · go_wp2
                go_meet
                case rel => exact ⟨_, rfl, by omega, rfl⟩
              · go_wp2
                go_meet
                case rel => exact ⟨_, rfl, by omega, rfl⟩
            case rest =>
              obtain ⟨x, rfl, hx, rfl⟩ := hcut
              have sL : ((tx L).size : Int) ≤ 8388608 := by omega
              have sd : ((tx [x]).size : Int) ≤ 8388608 := by rw [tx_size]; simp
              have hap : tx L ++ tx [x] = tx (L ++ [x]) := tx_append L [x]
              have hcv := nconv1 x wc
              have y1 : IntKind.i64.wrap (48 + x) = 48 + x := by rw [IntKind.wrap_i64]; omega
              have y2 : IntKind.u8.wrap (48 + x) = 48 + x := by rw [IntKind.wrap_u8]; omega
              have HL1 : Hid (Dec (L ++ [x])) := dec_snoc L x hD.out hx.1 hx.2
              have HC8 : Hid (Cur B (wc.alloc (.cells #[.int .u8 (48 + x)] 5)) cb) := cur_alloc HC7.out _
              have HG8 : Hid (w.grownBy (wc.alloc (.cells #[.int .u8 (48 + x)] 5)) (some cb)) := grown_trans HG7.out (World.grownBy_alloc _ _ _)
              have hlen : ((L ++ [x]).length : Int) ≤ N := by simp; omega
              have hmz : Hid (200 - strSz (.string (tx (L ++ [x]))) < 200 - strSz (.string (tx L))) := by
                have a : strSz (.string (tx (L ++ [x]))) = L.length + 1 := by show (tx _).size = _; rw [tx_size]; simp
                have b : strSz (.string (tx L)) = L.length := hz
                rw [Hid, a, b]; omega
              generalize L ++ [x] = L1 at *
              clear HC7 HG7 hz hD
              go_wp2
              go_roundw
              case rel => exact ⟨L1, rfl, hlen, HL1, HC8, HG8⟩
              case measure => exact hmz.out
        · have h1 : ¬ ((tx L).size : Int) < N := by omega
          have hp : 0 < L.length := by omega
          have Hs : Hid (Canon (strip L) ∧ ((strip L).length : Int) ≤ most) := ⟨strip_canon L hD.out hp, by have := strip_len L; omega⟩
          go_wp2_with fail
          refine (l10Strip_any L _ hD.out (by omega)).mono ?_
          rintro e wy ⟨rfl, rfl⟩
          go_wp2
          go_ret
          exact ⟨_, rfl, Hs.out.1, Hs.out.2, hC.out, hG.out⟩
end Go.Proofs.YtjgnhlldehgieaeDoor
