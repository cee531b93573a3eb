/-
  The fields of a word joined, by the program, walked.
-/
import Derived.Test.YtmjkpjmccdjkjadDoorFmt
import Derived.Test.YtmjkpjmccdjkjadDoorWid
import Derived.Test.YtmjkpjmccdjkjadDoorWrdR
import Derived.BigQuiet
import Derived.Deep.QuietTactic
import Derived.Deep.RegionWith
import Derived.Deep.DeepCutAuto
import Derived.Handy
namespace Go.Proofs.YtmjkpjmccdjkjadDoor
open Go.RowKit
set_option linter.unusedVariables false
set_option maxRecDepth 100000
set_option linter.unusedSimpArgs false
/-- Two words that are a number. -/
def IsW (W H L : Int) : Prop := H = W / 18446744073709551616 ∧ L = W % 18446744073709551616 ∧ 0 ≤ W ∧ W < 340282366920938463463374607431768211456
theorem IsW.zero : IsW 0 0 0 := ⟨rfl, rfl, by decide, by decide⟩
theorem IsW.bd {W H L : Int} (h : IsW W H L) : (0 ≤ H ∧ H ≤ 18446744073709551615) ∧ (0 ≤ L ∧ L ≤ 18446744073709551615) := by
  obtain ⟨rfl, rfl, h0, h1⟩ := h
  omega
theorem push_isW (W H L b : Int) (n : Nat) (w : World) (h : IsW W H L) (hn : Wn n) (h1 : W * 2 ^ n + b < 340282366920938463463374607431768211456) (b0 : 0 ≤ b) (b1 : b < 2 ^ n) :
    Calls Tryd.prog 40 #[wpV H L, .int .u16 b, .int .i64 n] w fun e w' => ∃ H' L', e = .returned (wpV H' L') ∧ Hid (IsW (W * 2 ^ n + b) H' L') ∧ Below w.heap.size w w' := by
  obtain ⟨rfl, rfl, h0, -⟩ := h
  have hp : (0 : Int) < 2 ^ n := Int.pow_pos (by decide)
  have hp : (0 : Int) ≤ W * 2 ^ n := Int.mul_nonneg h0 (Int.le_of_lt hp)
  exact (pushBits_any W b n w hn h0 (by omega) b0 b1).mono fun e w' ⟨e1, hb⟩ => ⟨_, _, e1, ⟨rfl, rfl, by omega, h1⟩, hb⟩
/-- Ten bits after ten bits. -/
def jn (W0 : Int) (ds : List Int) : Nat → Int
  | 0 => W0
  | k + 1 => jn W0 ds k * 2 ^ 10 + ds.getD k 0
theorem jn_bd (W0 : Int) (ds : List Int) (m : Nat) (h0 : 0 ≤ W0) (h1 : W0 < 2 ^ m) (hd : ∀ i, 0 ≤ ds.getD i 0 ∧ ds.getD i 0 < 1024) (k : Nat) : 0 ≤ jn W0 ds k ∧ jn W0 ds k < 2 ^ (m + 10 * k) := by
  induction k with
  | zero => exact ⟨h0, h1⟩
  | succ k ih =>
    have d := hd k
    unfold jn
    rw [show m + 10 * (k + 1) = (m + 10 * k) + 10 by omega, Int.pow_add, show (2 : Int) ^ 10 = 1024 by decide]
    omega
theorem pow_128 (n : Nat) (h : n ≤ 128) : (2 : Int) ^ n ≤ 340282366920938463463374607431768211456 := by
  have e : (340282366920938463463374607431768211456 : Int) = 2 ^ 128 := by decide
  rw [e]
  rcases Nat.lt_or_ge n 128 with h | h
  · exact Int.le_of_lt (Int.pow_lt_pow_of_lt (by decide) h)
  · rw [show n = 128 by omega]; exact Int.le_refl _
theorem jn_fits (W0 : Int) (ds : List Int) (m : Nat) (h0 : 0 ≤ W0) (h1 : W0 < 2 ^ m) (hd : ∀ i, 0 ≤ ds.getD i 0 ∧ ds.getD i 0 < 1024) (k : Nat) (hk : m + 10 * k ≤ 128) : jn W0 ds k < 340282366920938463463374607431768211456 := by
  have := jn_bd W0 ds m h0 h1 hd k
  have := pow_128 (m + 10 * k) hk
  omega
theorem put2w {w : World} {b : Nat} {u v : Value} (c0 : w.cell? ⟨b, 0, none⟩ = some u) (c1 : w.cell? ⟨b, 1, none⟩ = some v) (x y : Value) :
    ((w.setCell ⟨b, 0, none⟩ x).setCell ⟨b, 1, none⟩ y).cell? ⟨b, 0, none⟩ = some x ∧ ((w.setCell ⟨b, 0, none⟩ x).setCell ⟨b, 1, none⟩ y).cell? ⟨b, 1, none⟩ = some y := by
  refine ⟨?_, ?_⟩
  · rw [World.cell?_setCell_other _ _ _ _ (by simp)]; exact World.cell?_setCell_same _ _ _ c0
  · exact World.cell?_setCell_same _ _ _ (u := v) (by rw [World.cell?_setCell_other _ _ _ _ (by simp)]; exact c1)
theorem results_wd {fn : Func} {p : Tmp} {b : Nat} {x y : Value} (h : fn.results = #[.cell p 33]) (tmps : Array Value) (w : World) (hp : tmps[p]?.getD undef = .pointer (some ⟨b, 0, none⟩))
    (q0 : w.cell? ⟨b, 0, none⟩ = some x) (q1 : w.cell? ⟨b, 1, none⟩ = some y) : (results fn tmps).run Tryd.prog w = .ok (.agg #[x, y]) w := by
  simp [results, h, hp, go_sem, q0, q1]
/-- The fields' box and the answer's. -/
abbrev fbx (w : World) (b : Bool) (ld rs : Int) (v : Value) : World := (w.alloc (.cells #[.bool b, .int .u8 ld, .int .u16 rs, v] 65)).alloc (.cells #[.int .u64 0, .int .u64 0] 33)
/-- A word under way: its box p behind those two. -/
def JW (w : World) (b : Bool) (ld rs : Int) (v : Value) (wr : World) (p : Nat) (H L : Int) : Prop :=
  Below (w.heap.size + 2) (fbx w b ld rs v) wr ∧ w.heap.size + 2 ≤ p ∧ p < wr.heap.size ∧ wr.cell? ⟨p, 0, none⟩ = some (.int .u64 H) ∧ wr.cell? ⟨p, 1, none⟩ = some (.int .u64 L) ∧ ∀ i, wr.frozen? ⟨p, i, none⟩ = false
theorem fbx_cells {w W : World} {b : Bool} {ld rs : Int} {v : Value} (h : Below (w.heap.size + 2) (fbx w b ld rs v) W) : W.cell? ⟨w.heap.size, 0, none⟩ = some (.bool b) ∧ W.cell? ⟨w.heap.size, 1, none⟩ = some (.int .u8 ld) ∧ W.cell? ⟨w.heap.size, 2, none⟩ = some (.int .u16 rs) ∧ W.cell? ⟨w.heap.size, 3, none⟩ = some v ∧ W.cell? ⟨w.heap.size + 1, 0, none⟩ = some (.int .u64 0) ∧ W.cell? ⟨w.heap.size + 1, 1, none⟩ = some (.int .u64 0) ∧ ∀ i, W.frozen? ⟨w.heap.size + 1, i, none⟩ = false := by
  refine ⟨?_, ?_, ?_, ?_, ?_, ?_, fun i => ?_⟩
  · rw [h.cell (p := ⟨w.heap.size, 0, none⟩) (by simp)]; simp
  · rw [h.cell (p := ⟨w.heap.size, 1, none⟩) (by simp)]; simp
  · rw [h.cell (p := ⟨w.heap.size, 2, none⟩) (by simp)]; simp
  · rw [h.cell (p := ⟨w.heap.size, 3, none⟩) (by simp)]; simp
  · rw [h.cell (p := ⟨w.heap.size + 1, 0, none⟩) (by simp)]; simp
  · rw [h.cell (p := ⟨w.heap.size + 1, 1, none⟩) (by simp)]; simp
  · rw [h.frozen (p := ⟨w.heap.size + 1, i, none⟩) (by simp)]; simp
theorem fbx_out {w W : World} {b : Bool} {ld rs : Int} {v : Value} (h : Below (w.heap.size + 2) (fbx w b ld rs v) W) : Below w.heap.size w W := (((Below.refl _ _).alloc (Nat.le_refl _) _).alloc (by simp) _).trans (h.mono (by omega))
theorem fbx_room {w W : World} {b : Bool} {ld rs : Int} {v : Value} (h : Below (w.heap.size + 2) (fbx w b ld rs v) W) : w.heap.size + 2 ≤ W.heap.size := by
  have := h.size
  simpa using this
theorem fbx_next {w W w1 : World} {b : Bool} {ld rs : Int} {v : Value} (h : Below (w.heap.size + 2) (fbx w b ld rs v) W) (hb : Below W.heap.size W w1) : Below (w.heap.size + 2) (fbx w b ld rs v) w1 := h.trans (hb.mono (fbx_room h))
theorem JW.next {w wr w1 : World} {b : Bool} {ld rs : Int} {v : Value} {p : Nat} {H L : Int} (h : JW w b ld rs v wr p H L) (hb : Below wr.heap.size wr w1) : JW w b ld rs v w1 p H L := by
  obtain ⟨h1, h2, h3, h4, h5, h6⟩ := h
  exact ⟨fbx_next h1 hb, h2, Nat.lt_of_lt_of_le h3 hb.size, cell_of hb h4, cell_of hb h5, fun i => (hb.frozen (p := ⟨p, i, none⟩) h3).trans (h6 i)⟩
theorem JW.drew {w wr : World} {b : Bool} {ld rs : Int} {v : Value} {p : Nat} {H L : Int} (h : JW w b ld rs v wr p H L) : JW w b ld rs v wr.drew p H L := by
  obtain ⟨h1, h2, h3, h4, h5, h6⟩ := h
  exact ⟨h1.drew, h2, h3, h4, h5, h6⟩
theorem JW.put {w wr : World} {b : Bool} {ld rs : Int} {v : Value} {p : Nat} {H L : Int} (h : JW w b ld rs v wr p H L) (H' L' : Int) : JW w b ld rs v ((wr.setCell ⟨p, 0, none⟩ (.int .u64 H')).setCell ⟨p, 1, none⟩ (.int .u64 L')) p H' L' := by
  obtain ⟨h1, h2, h3, h4, h5, h6⟩ := h
  refine ⟨(h1.setCell h2 _).setCell h2 _, h2, by simpa using h3, ?_, ?_, fun i => by rw [World.frozen?_setCell, World.frozen?_setCell]; exact h6 i⟩
  · rw [World.cell?_setCell_other _ _ _ _ (by simp)]; exact World.cell?_setCell_same _ _ _ h4
  · exact World.cell?_setCell_same _ _ _ (u := .int .u64 L) (by rw [World.cell?_setCell_other _ _ _ _ (by simp)]; exact h5)
theorem JW.new {w wr : World} {b : Bool} {ld rs : Int} {v : Value} (H L : Int) (h : Below (w.heap.size + 2) (fbx w b ld rs v) wr) : JW w b ld rs v (wr.alloc (.cells #[.int .u64 H, .int .u64 L] 33)) wr.heap.size H L := by
  have hr := fbx_room h
  refine ⟨h.alloc hr _, hr, by simp, by simp, by simp, fun i => by simp⟩
set_option maxRecDepth 100000 in
set_option maxHeartbeats 4000000 in
theorem joinFields_64 (b : Bool) (ld rs : Int) (gb cap : Nat) (ds : List Int) (w : World) (hl : ds.length = 5) (hd : ∀ i, 0 ≤ ds.getD i 0 ∧ ds.getD i 0 < 1024) (hg : gb < w.heap.size) (hc : ∀ i, i < 5 → w.cell? ⟨gb, i, none⟩ = some (.int .i64 (ds.getD i 0))) (l0 : 0 ≤ ld) (l1 : ld < 32) (r0 : 0 ≤ rs) (r1 : rs < 2 ^ 8) :
    Calls Tryd.prog 27 #[.iface 42 (.agg #[]), .agg #[.bool b, .int .u8 ld, .int .u16 rs, .slice (some ⟨gb, 0, none⟩) 5 cap]] w fun e w' => ∃ H L, e = .returned (wpV H L) ∧ Hid (IsW (jn ((sgb b * 32 + ld) * 2 ^ 8 + rs) ds 5) H L) ∧ Below w.heap.size w w' := by
  have sb := sgb_bd b
  have HP1 : Hid (∀ X, Calls Tryd.prog 40 #[wpV 0 0, .int .u16 (sgb b), .int .i64 1] X fun e w' => ∃ H' L', e = .returned (wpV H' L') ∧ Hid (IsW (sgb b) H' L') ∧ Below X.heap.size X w') := fun X => by
    have := push_isW 0 0 0 (sgb b) 1 X IsW.zero (by unfold Wn; omega) (by omega) sb.1 (by omega)
    rw [show (0 : Int) * 2 ^ 1 + sgb b = sgb b by omega] at this
    exact this
  have HP2 : Hid (∀ X H L, IsW (sgb b) H L → Calls Tryd.prog 40 #[wpV H L, .int .u16 ld, .int .i64 5] X fun e w' => ∃ H' L', e = .returned (wpV H' L') ∧ Hid (IsW (sgb b * 32 + ld) H' L') ∧ Below X.heap.size X w') := fun X H L h => push_isW (sgb b) H L ld 5 X h (by unfold Wn; omega) (by omega) l0 (by omega)
  have HP3 : Hid (∀ X H L, IsW (sgb b * 32 + ld) H L → Calls Tryd.prog 40 #[wpV H L, .int .u16 rs, .int .i64 8] X fun e w' => ∃ H' L', e = .returned (wpV H' L') ∧ Hid (IsW ((sgb b * 32 + ld) * 2 ^ 8 + rs) H' L') ∧ Below X.heap.size X w') := fun X H L h => push_isW _ H L rs 8 X h (by unfold Wn; omega) (by omega) r0 r1
  have W0 : 0 ≤ (sgb b * 32 + ld) * 2 ^ 8 + rs ∧ (sgb b * 32 + ld) * 2 ^ 8 + rs < 2 ^ 14 := by omega
  have HP4 : Hid (∀ k X H L, k < 5 → IsW (jn ((sgb b * 32 + ld) * 2 ^ 8 + rs) ds k) H L → Calls Tryd.prog 40 #[wpV H L, .int .u16 (ds.getD k 0), .int .i64 10] X fun e w' => ∃ H' L', e = .returned (wpV H' L') ∧ Hid (IsW (jn ((sgb b * 32 + ld) * 2 ^ 8 + rs) ds (k + 1)) H' L') ∧ Below X.heap.size X w') := fun k X H L hk h =>
    push_isW _ H L (ds.getD k 0) 10 X h (by unfold Wn; omega) (by have := jn_fits _ ds 14 W0.1 W0.2 hd (k + 1) (by omega); unfold jn at this; exact this) (hd k).1 (by have := (hd k).2; omega)
  have HD : Hid (∀ i, 0 ≤ ds.getD i 0 ∧ ds.getD i 0 < 1024) := hd
  have HC : Hid (∀ i, i < 5 → w.cell? ⟨gb, i, none⟩ = some (.int .i64 (ds.getD i 0))) := hc
  generalize (sgb b * 32 + ld) * 2 ^ 8 + rs = Z at *
  generalize hQ : sgb b * 32 + ld = Q at *
  have HX : Hid (Below (w.heap.size + 2) (fbx w b ld rs (.slice (some ⟨gb, 0, none⟩) 5 cap)) (fbx w b ld rs (.slice (some ⟨gb, 0, none⟩) 5 cap))) := Below.refl _ _
  clear hd hc hQ r0 r1 W0 hl
  go_enter Tryd.func27, Tryd.ntmps27
  go_upto_if 10 with fail
  go_cut [5] (fun s wx => s = .int .u16 (sgb b) ∧ Hid (Below (w.heap.size + 2) (fbx w b ld rs (.slice (some ⟨gb, 0, none⟩) 5 cap)) wx))
  case first =>
    cases b
    · go_wp2
      go_meet
      case rel => exact ⟨rfl, HX⟩
    · go_wp2
      go_meet
      case rel => exact ⟨rfl, HX⟩
  case rest =>
    obtain ⟨rfl, HX1⟩ := hcut
    clear HX
    go_wp2_with fail
    refine (HP1.out _).mono ?_
    rintro e w1 ⟨H1, L1, rfl, hW1, hb1⟩
    have HJ1 : Hid (JW w b ld rs (.slice (some ⟨gb, 0, none⟩) 5 cap) (w1.alloc (.cells #[.int .u64 H1, .int .u64 L1] 33)) w1.heap.size H1 L1) := JW.new H1 L1 (fbx_next HX1.out hb1)
    clear hb1 HX1 HP1
    obtain ⟨c0, c1, c2, c3, -, -, -⟩ := fbx_cells HJ1.out.1
    obtain ⟨-, -, -, p0, p1, -⟩ := HJ1.out
    go_wp2_with fail
    refine (HP2.out _ _ _ hW1.out).mono ?_
    rintro e w2 ⟨H2, L2, rfl, hW2, hb2⟩
    have HJ2 : Hid (JW w b ld rs (.slice (some ⟨gb, 0, none⟩) 5 cap) w2 w1.heap.size H1 L1) := HJ1.out.next hb2
    clear hb2 HJ1 hW1 HP2 c0 c1 c2 c3 p0 p1
    generalize w1.heap.size = p at *
    clear w1
    have HJ3 : Hid (JW w b ld rs (.slice (some ⟨gb, 0, none⟩) 5 cap) ((w2.setCell ⟨p, 0, none⟩ (.int .u64 H2)).setCell ⟨p, 1, none⟩ (.int .u64 L2)) p H2 L2) := HJ2.out.put H2 L2
    obtain ⟨-, hp2, -, p0, p1, pf⟩ := HJ2.out
    have hpn : ¬ p = w.heap.size := by omega
    go_upto_region 6 with fail
    clear p0 p1 pf HJ2
    generalize (w2.setCell ⟨p, 0, none⟩ (.int .u64 H2)).setCell ⟨p, 1, none⟩ (.int .u64 L2) = w3 at *
    clear w2
    obtain ⟨-, -, -, p0, p1, pf⟩ := HJ3.out
    obtain ⟨c0, c1, c2, c3, -, -, -⟩ := fbx_cells HJ3.out.1
    go_cut [6] (fun s wx => s = .pointer (some ⟨p, 0, none⟩) ∧ ∃ H L, Hid (IsW Z H L) ∧ Hid (JW w b ld rs (.slice (some ⟨gb, 0, none⟩) 5 cap) wx p H L))
    case first =>
      go_region_with (first
        | (go_at_call 105; refine (restWidth_64 _).mono ?_; rintro e w4 ⟨rfl, hb4⟩; have HJ4 : Hid (JW w b ld rs (.slice (some ⟨gb, 0, none⟩) 5 cap) w4 p H2 L2) := HJ3.out.drew.next hb4; obtain ⟨-, -, -, r0, r1, rf⟩ := HJ4.out; obtain ⟨-, -, e2, -, -, -, -⟩ := fbx_cells HJ4.out.1)
        | (go_at_call 40; refine (HP3.out _ _ _ hW2.out).mono ?_; rintro e w5 ⟨H5, L5, rfl, hW5, hb5⟩; have HJ5 : Hid (JW w b ld rs (.slice (some ⟨gb, 0, none⟩) 5 cap) w5 p H2 L2) := HJ4.out.next hb5; obtain ⟨-, -, -, s0, s1, sf⟩ := HJ5.out))
      all_goals
        go_wp2
        go_meet
        case rel => exact ⟨rfl, _, _, hW5, HJ5.out.put H5 L5⟩
    case rest =>
      obtain ⟨rfl, H6, L6, hW6, HJ6⟩ := hcut
      clear HJ3 c0 c1 c2 c3 p0 p1 pf hW2 HP3
      obtain ⟨c0, c1, c2, c3, -, -, -⟩ := fbx_cells HJ6.out.1
      go_wp2
      clear c0 c1 c2 c3
      go_loopw [28] (fun i wr => ∃ k : Nat, k ≤ 5 ∧ i = .int .i64 (k : Int) ∧ ∃ H L, Hid (IsW (jn Z ds k) H L) ∧ Hid (JW w b ld rs (.slice (some ⟨gb, 0, none⟩) 5 cap) wr p H L)) (fun i _ => 5 - (intOf i).toNat)
      case atStart => exact ⟨0, Nat.zero_le _, rfl, H6, L6, hW6, HJ6⟩
      case round =>
        clear hW6 HJ6
        obtain ⟨k, hk, rfl, H7, L7, hW7, HJ7⟩ := hrel
        by_cases hlt : k < 5
        · have hlt' : (k : Int) < 5 := by omega
          have hel := ((fbx_out HJ7.out.1).cell (p := ⟨gb, k, none⟩) hg).trans (HC.out k hlt)
          have hdb := HD.out k
          have HPk : Hid (∀ X, Calls Tryd.prog 40 #[wpV H7 L7, .int .u16 (ds.getD k 0), .int .i64 10] X fun e w' => ∃ H' L', e = .returned (wpV H' L') ∧ Hid (IsW (jn Z ds (k + 1)) H' L') ∧ Below X.heap.size X w') := fun X => HP4.out k X H7 L7 hlt hW7.out
          have hcv : IntKind.u16.wrap (ds.getD k 0) = ds.getD k 0 := by rw [IntKind.wrap_u16]; omega
          generalize ds.getD k 0 = d at *
          obtain ⟨-, -, -, p0, p1, pf⟩ := HJ7.out
          go_wp2_with fail
          refine (HPk.out _).mono ?_
          rintro e w8 ⟨H8, L8, rfl, hW8, hb8⟩
          have HJ8 : Hid (JW w b ld rs (.slice (some ⟨gb, 0, none⟩) 5 cap) w8 p H7 L7) := HJ7.out.next hb8
          clear p0 p1 pf hb8 HJ7 hW7 HPk hel
          have HJ9 : Hid (JW w b ld rs (.slice (some ⟨gb, 0, none⟩) 5 cap) ((w8.setCell ⟨p, 0, none⟩ (.int .u64 H8)).setCell ⟨p, 1, none⟩ (.int .u64 L8)) p H8 L8) := HJ8.out.put H8 L8
          obtain ⟨-, -, -, p0, p1, pf⟩ := HJ8.out
          clear HJ8
          go_wp2
          go_roundw
          case rel => exact ⟨k + 1, by omega, by go_num, H8, L8, hW8, HJ9⟩
          case measure => simp [intOf]; omega
        · obtain rfl : k = 5 := by omega
          obtain ⟨-, -, -, p0, p1, pf⟩ := HJ7.out
          obtain ⟨-, -, -, -, c4, c5, c6⟩ := fbx_cells HJ7.out.1
          have HQ : Hid (_ ∧ _) := put2w c4 c5 (.int .u64 H7) (.int .u64 L7)
          have HB : Hid (Below w.heap.size w ((wr.setCell ⟨w.heap.size + 1, 0, none⟩ (.int .u64 H7)).setCell ⟨w.heap.size + 1, 1, none⟩ (.int .u64 L7))) := ((fbx_out HJ7.out.1).setCell (by simp) _).setCell (by simp) _
          clear HJ7
          go_wp2
          refine bodyPost_ret (results_wd rfl _ _ rfl HQ.out.1 HQ.out.2) rfl ?_
          exact ⟨_, _, rfl, hW7, HB.out⟩
set_option maxRecDepth 100000 in
set_option maxHeartbeats 4000000 in
theorem joinFields_128 (b : Bool) (ld rs : Int) (gb cap : Nat) (ds : List Int) (w : World) (hl : ds.length = 11) (hd : ∀ i, 0 ≤ ds.getD i 0 ∧ ds.getD i 0 < 1024) (hg : gb < w.heap.size) (hc : ∀ i, i < 11 → w.cell? ⟨gb, i, none⟩ = some (.int .i64 (ds.getD i 0))) (l0 : 0 ≤ ld) (l1 : ld < 32) (r0 : 0 ≤ rs) (r1 : rs < 2 ^ 12) :
    Calls Tryd.prog 27 #[.iface 48 (.agg #[]), .agg #[.bool b, .int .u8 ld, .int .u16 rs, .slice (some ⟨gb, 0, none⟩) 11 cap]] w fun e w' => ∃ H L, e = .returned (wpV H L) ∧ Hid (IsW (jn ((sgb b * 32 + ld) * 2 ^ 12 + rs) ds 11) H L) ∧ Below w.heap.size w w' := by
  have sb := sgb_bd b
  have HP1 : Hid (∀ X, Calls Tryd.prog 40 #[wpV 0 0, .int .u16 (sgb b), .int .i64 1] X fun e w' => ∃ H' L', e = .returned (wpV H' L') ∧ Hid (IsW (sgb b) H' L') ∧ Below X.heap.size X w') := fun X => by
    have := push_isW 0 0 0 (sgb b) 1 X IsW.zero (by unfold Wn; omega) (by omega) sb.1 (by omega)
    rw [show (0 : Int) * 2 ^ 1 + sgb b = sgb b by omega] at this
    exact this
  have HP2 : Hid (∀ X H L, IsW (sgb b) H L → Calls Tryd.prog 40 #[wpV H L, .int .u16 ld, .int .i64 5] X fun e w' => ∃ H' L', e = .returned (wpV H' L') ∧ Hid (IsW (sgb b * 32 + ld) H' L') ∧ Below X.heap.size X w') := fun X H L h => push_isW (sgb b) H L ld 5 X h (by unfold Wn; omega) (by omega) l0 (by omega)
  have HP3 : Hid (∀ X H L, IsW (sgb b * 32 + ld) H L → Calls Tryd.prog 40 #[wpV H L, .int .u16 rs, .int .i64 12] X fun e w' => ∃ H' L', e = .returned (wpV H' L') ∧ Hid (IsW ((sgb b * 32 + ld) * 2 ^ 12 + rs) H' L') ∧ Below X.heap.size X w') := fun X H L h => push_isW _ H L rs 12 X h (by unfold Wn; omega) (by omega) r0 r1
  have W0 : 0 ≤ (sgb b * 32 + ld) * 2 ^ 12 + rs ∧ (sgb b * 32 + ld) * 2 ^ 12 + rs < 2 ^ 18 := by omega
  have HP4 : Hid (∀ k X H L, k < 11 → IsW (jn ((sgb b * 32 + ld) * 2 ^ 12 + rs) ds k) H L → Calls Tryd.prog 40 #[wpV H L, .int .u16 (ds.getD k 0), .int .i64 10] X fun e w' => ∃ H' L', e = .returned (wpV H' L') ∧ Hid (IsW (jn ((sgb b * 32 + ld) * 2 ^ 12 + rs) ds (k + 1)) H' L') ∧ Below X.heap.size X w') := fun k X H L hk h =>
    push_isW _ H L (ds.getD k 0) 10 X h (by unfold Wn; omega) (by have := jn_fits _ ds 18 W0.1 W0.2 hd (k + 1) (by omega); unfold jn at this; exact this) (hd k).1 (by have := (hd k).2; omega)
  have HD : Hid (∀ i, 0 ≤ ds.getD i 0 ∧ ds.getD i 0 < 1024) := hd
  have HC : Hid (∀ i, i < 11 → w.cell? ⟨gb, i, none⟩ = some (.int .i64 (ds.getD i 0))) := hc
  generalize (sgb b * 32 + ld) * 2 ^ 12 + rs = Z at *
  generalize hQ : sgb b * 32 + ld = Q at *
  have HX : Hid (Below (w.heap.size + 2) (fbx w b ld rs (.slice (some ⟨gb, 0, none⟩) 11 cap)) (fbx w b ld rs (.slice (some ⟨gb, 0, none⟩) 11 cap))) := Below.refl _ _
  clear hd hc hQ r0 r1 W0 hl
  go_enter Tryd.func27, Tryd.ntmps27
  go_upto_if 10 with fail
  go_cut [5] (fun s wx => s = .int .u16 (sgb b) ∧ Hid (Below (w.heap.size + 2) (fbx w b ld rs (.slice (some ⟨gb, 0, none⟩) 11 cap)) wx))
  case first =>
    cases b
    · go_wp2
      go_meet
      case rel => exact ⟨rfl, HX⟩
    · go_wp2
      go_meet
      case rel => exact ⟨rfl, HX⟩
  case rest =>
    obtain ⟨rfl, HX1⟩ := hcut
    clear HX
    go_wp2_with fail
    refine (HP1.out _).mono ?_
    rintro e w1 ⟨H1, L1, rfl, hW1, hb1⟩
    have HJ1 : Hid (JW w b ld rs (.slice (some ⟨gb, 0, none⟩) 11 cap) (w1.alloc (.cells #[.int .u64 H1, .int .u64 L1] 33)) w1.heap.size H1 L1) := JW.new H1 L1 (fbx_next HX1.out hb1)
    clear hb1 HX1 HP1
    obtain ⟨c0, c1, c2, c3, -, -, -⟩ := fbx_cells HJ1.out.1
    obtain ⟨-, -, -, p0, p1, -⟩ := HJ1.out
    go_wp2_with fail
    refine (HP2.out _ _ _ hW1.out).mono ?_
    rintro e w2 ⟨H2, L2, rfl, hW2, hb2⟩
    have HJ2 : Hid (JW w b ld rs (.slice (some ⟨gb, 0, none⟩) 11 cap) w2 w1.heap.size H1 L1) := HJ1.out.next hb2
    clear hb2 HJ1 hW1 HP2 c0 c1 c2 c3 p0 p1
    generalize w1.heap.size = p at *
    clear w1
    have HJ3 : Hid (JW w b ld rs (.slice (some ⟨gb, 0, none⟩) 11 cap) ((w2.setCell ⟨p, 0, none⟩ (.int .u64 H2)).setCell ⟨p, 1, none⟩ (.int .u64 L2)) p H2 L2) := HJ2.out.put H2 L2
    obtain ⟨-, hp2, -, p0, p1, pf⟩ := HJ2.out
    have hpn : ¬ p = w.heap.size := by omega
    go_upto_region 6 with fail
    clear p0 p1 pf HJ2
    generalize (w2.setCell ⟨p, 0, none⟩ (.int .u64 H2)).setCell ⟨p, 1, none⟩ (.int .u64 L2) = w3 at *
    clear w2
    obtain ⟨-, -, -, p0, p1, pf⟩ := HJ3.out
    obtain ⟨c0, c1, c2, c3, -, -, -⟩ := fbx_cells HJ3.out.1
    go_cut [6] (fun s wx => s = .pointer (some ⟨p, 0, none⟩) ∧ ∃ H L, Hid (IsW Z H L) ∧ Hid (JW w b ld rs (.slice (some ⟨gb, 0, none⟩) 11 cap) wx p H L))
    case first =>
      go_region_with (first
        | (go_at_call 110; refine (restWidth_128 _).mono ?_; rintro e w4 ⟨rfl, hb4⟩; have HJ4 : Hid (JW w b ld rs (.slice (some ⟨gb, 0, none⟩) 11 cap) w4 p H2 L2) := HJ3.out.drew.next hb4; obtain ⟨-, -, -, r0, r1, rf⟩ := HJ4.out; obtain ⟨-, -, e2, -, -, -, -⟩ := fbx_cells HJ4.out.1)
        | (go_at_call 40; refine (HP3.out _ _ _ hW2.out).mono ?_; rintro e w5 ⟨H5, L5, rfl, hW5, hb5⟩; have HJ5 : Hid (JW w b ld rs (.slice (some ⟨gb, 0, none⟩) 11 cap) w5 p H2 L2) := HJ4.out.next hb5; obtain ⟨-, -, -, s0, s1, sf⟩ := HJ5.out))
      all_goals
        go_wp2
        go_meet
        case rel => exact ⟨rfl, _, _, hW5, HJ5.out.put H5 L5⟩
    case rest =>
      obtain ⟨rfl, H6, L6, hW6, HJ6⟩ := hcut
      clear HJ3 c0 c1 c2 c3 p0 p1 pf hW2 HP3
      obtain ⟨c0, c1, c2, c3, -, -, -⟩ := fbx_cells HJ6.out.1
      go_wp2
      clear c0 c1 c2 c3
      go_loopw [28] (fun i wr => ∃ k : Nat, k ≤ 11 ∧ i = .int .i64 (k : Int) ∧ ∃ H L, Hid (IsW (jn Z ds k) H L) ∧ Hid (JW w b ld rs (.slice (some ⟨gb, 0, none⟩) 11 cap) wr p H L)) (fun i _ => 11 - (intOf i).toNat)
      case atStart => exact ⟨0, Nat.zero_le _, rfl, H6, L6, hW6, HJ6⟩
      case round =>
        clear hW6 HJ6
        obtain ⟨k, hk, rfl, H7, L7, hW7, HJ7⟩ := hrel
        by_cases hlt : k < 11
        · have hlt' : (k : Int) < 11 := by omega
          have hel := ((fbx_out HJ7.out.1).cell (p := ⟨gb, k, none⟩) hg).trans (HC.out k hlt)
          have hdb := HD.out k
          have HPk : Hid (∀ X, Calls Tryd.prog 40 #[wpV H7 L7, .int .u16 (ds.getD k 0), .int .i64 10] X fun e w' => ∃ H' L', e = .returned (wpV H' L') ∧ Hid (IsW (jn Z ds (k + 1)) H' L') ∧ Below X.heap.size X w') := fun X => HP4.out k X H7 L7 hlt hW7.out
          have hcv : IntKind.u16.wrap (ds.getD k 0) = ds.getD k 0 := by rw [IntKind.wrap_u16]; omega
          generalize ds.getD k 0 = d at *
          obtain ⟨-, -, -, p0, p1, pf⟩ := HJ7.out
          go_wp2_with fail
          refine (HPk.out _).mono ?_
          rintro e w8 ⟨H8, L8, rfl, hW8, hb8⟩
          have HJ8 : Hid (JW w b ld rs (.slice (some ⟨gb, 0, none⟩) 11 cap) w8 p H7 L7) := HJ7.out.next hb8
          clear p0 p1 pf hb8 HJ7 hW7 HPk hel
          have HJ9 : Hid (JW w b ld rs (.slice (some ⟨gb, 0, none⟩) 11 cap) ((w8.setCell ⟨p, 0, none⟩ (.int .u64 H8)).setCell ⟨p, 1, none⟩ (.int .u64 L8)) p H8 L8) := HJ8.out.put H8 L8
          obtain ⟨-, -, -, p0, p1, pf⟩ := HJ8.out
          clear HJ8
          go_wp2
          go_roundw
          case rel => exact ⟨k + 1, by omega, by go_num, H8, L8, hW8, HJ9⟩
          case measure => simp [intOf]; omega
        · obtain rfl : k = 11 := by omega
          obtain ⟨-, -, -, p0, p1, pf⟩ := HJ7.out
          obtain ⟨-, -, -, -, c4, c5, c6⟩ := fbx_cells HJ7.out.1
          have HQ : Hid (_ ∧ _) := put2w c4 c5 (.int .u64 H7) (.int .u64 L7)
          have HB : Hid (Below w.heap.size w ((wr.setCell ⟨w.heap.size + 1, 0, none⟩ (.int .u64 H7)).setCell ⟨w.heap.size + 1, 1, none⟩ (.int .u64 L7))) := ((fbx_out HJ7.out.1).setCell (by simp) _).setCell (by simp) _
          clear HJ7
          go_wp2
          refine bodyPost_ret (results_wd rfl _ _ rfl HQ.out.1 HQ.out.2) rfl ?_
          exact ⟨_, _, rfl, hW7, HB.out⟩
end Go.Proofs.YtmjkpjmccdjkjadDoor
