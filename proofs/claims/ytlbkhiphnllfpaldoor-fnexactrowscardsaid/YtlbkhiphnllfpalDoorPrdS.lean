/-
  The model's product of two lists of sixteen digits, walked.
-/
import Derived.Test.YtlbkhiphnllfpalDoorPrdM
import Derived.Test.YtlbkhiphnllfpalDoorPack2
namespace Go.Proofs.YtlbkhiphnllfpalDoor
open Go.RowKit
set_option linter.unusedVariables false
/-- 32 digits, the highest place first. -/
def row32 (g : Nat → Int) : List Int := (List.range 32).map fun q => g (31 - q)
theorem row32_length (g : Nat → Int) : (row32 g).length = 32 := by simp [row32]
theorem row32_at (g : Nat → Int) (q : Nat) (h : q < 32) : (row32 g).getD q 0 = g (31 - q) := by
  simp [row32, List.getD, h]
theorem row32_upd (g : Nat → Int) (p : Nat) (v : Int) (h : p ≤ 31) : row32 (upd g p v) = (row32 g).set (31 - p) v := by
  apply List.ext_getElem?
  intro q
  by_cases hq : q < 32
  · by_cases e : q = 31 - p
    · subst e
      rw [List.getElem?_set_self (by rw [row32_length]; omega)]
      simp [row32, hq, show 31 - (31 - p) = p by omega, upd_at]
    · rw [List.getElem?_set_ne (by omega)]
      simp [row32, hq]
      rw [upd_off _ _ _ _ (by omega)]
  · rw [List.getElem?_eq_none (by rw [row32_length]; omega), List.getElem?_eq_none (by rw [List.length_set, row32_length]; omega)]
def noughts32 : Array Value := #[.int .i64 0, .int .i64 0, .int .i64 0, .int .i64 0, .int .i64 0, .int .i64 0, .int .i64 0, .int .i64 0, .int .i64 0, .int .i64 0, .int .i64 0, .int .i64 0, .int .i64 0, .int .i64 0, .int .i64 0, .int .i64 0, .int .i64 0, .int .i64 0, .int .i64 0, .int .i64 0, .int .i64 0, .int .i64 0, .int .i64 0, .int .i64 0, .int .i64 0, .int .i64 0, .int .i64 0, .int .i64 0, .int .i64 0, .int .i64 0, .int .i64 0, .int .i64 0]
theorem noughts32_own (w : World) : (w.alloc (.cells noughts32 2)).ownsRow w.heap.size 2 1 (.slice (some ⟨w.heap.size, 0, none⟩) 32 32) 32 ((row32 fun _ => 0).map (Value.int .i64)) :=
  World.ownsRow_lit (base := w.heap.size) (e := 2) (size := 1) w noughts32 32 (Nat.le_refl _) (by decide) (by simp [noughts32])
set_option maxHeartbeats 1600000 in
theorem l5Product_any (va vb : Value) (fa fb : Nat → Int) (ba bb : Nat) (w : World) (ha : Has w ba va (highsF fa 16)) (hb : Has w bb vb (highsF fb 16)) (na : Nine fa) (nb : Nine fb) :
    Calls Tryd.prog 34 #[va, vb] w fun e w' => e = .returned (.slice (some ⟨w.heap.size, 0, none⟩) 32 32) ∧ w'.ownsRow w.heap.size 2 1 (.slice (some ⟨w.heap.size, 0, none⟩) 32 32) 32 ((row32 (prS fa fb 16)).map (Value.int .i64)) ∧ Below w.heap.size w w' := by
  have hmk : ∀ w, (Instr.makeSlice 47 (.int .i64 32) (.int .i64 32)).run Tryd.prog w = .ok (.slice (some ⟨w.heap.size, 0, none⟩) 32 32) (w.alloc (.cells noughts32 2)) := fun _ => by kernel_rfl
  rcases ha.form with ⟨_, e⟩ | ⟨g, ca, rfl, -, hgl, -, hca, -⟩
  · have := congrArg List.length e; rw [highsF_length] at this; cases this
  rcases hb.form with ⟨_, e⟩ | ⟨g', cb, rfl, -, hgl', -, hcb, -⟩
  · have := congrArg List.length e; rw [highsF_length] at this; cases this
  have Hca : Hid (∀ i, i < 16 → w.cell? ⟨g, i, none⟩ = some (.int .i64 (fa (15 - i)))) := fun i hi => by
    have := hca i (by rw [highsF_length]; exact hi); rw [List.getD, highsF_at fa 16 i hi] at this; exact this
  have Hcb : Hid (∀ i, i < 16 → w.cell? ⟨g', i, none⟩ = some (.int .i64 (fb (15 - i)))) := fun i hi => by
    have := hcb i (by rw [highsF_length]; exact hi); rw [List.getD, highsF_at fb 16 i hi] at this; exact this
  rw [highsF_length, highsF_length]
  have Hna : Hid (Nine fa) := na
  have Hnb : Hid (Nine fb) := nb
  clear ha hb hca hcb na nb
  go_enter Tryd.func34, Tryd.ntmps34
  go_wp2
  go_loopw [6] (fun i wr => ∃ r : Nat, r ≤ 16 ∧ i = .int .i64 (15 - (r : Int)) ∧ Hid (wr.ownsRow w.heap.size 2 1 (.slice (some ⟨w.heap.size, 0, none⟩) 32 32) 32 ((row32 (prS fa fb r)).map (Value.int .i64))) ∧ Below w.heap.size w wr) (fun i _ => (intOf i + 1).toNat)
  case atStart => exact ⟨0, Nat.zero_le _, Ln.val_int (by simp), noughts32_own w, (Below.refl _ _).alloc (Nat.le_refl _) _⟩
  case round =>
    obtain ⟨r, hr, rfl, hown, hbel⟩ := hrel
    by_cases hlt : r < 16
    · have hge : (0 : Int) ≤ 15 - (r : Int) := by omega
      have hlt15 : 15 - (r : Int) < 16 := by omega
      have hA := Hna.out r hlt
      have hdg : Hid (Dg (r + 16) (prS fa fb r)) := prS_bd fa fb Hna.out Hnb.out r hr
      have Hrow : Hid (prS fa fb (r + 1) = rowS (fa r) fb r (prS fa fb r)) := rfl
      obtain ⟨G0, hG0⟩ : ∃ G, G = prS fa fb r := ⟨_, rfl⟩
      rw [← hG0] at hown hdg Hrow
      clear hG0
      have Hca' : Hid (w.cell? ⟨g, 15 - r, none⟩ = some (.int .i64 (fa r))) := by have := Hca.out (15 - r) (by omega); rwa [show 15 - (15 - r) = r by omega] at this
      generalize fa r = d at *
      go_wp2
      go_loopw [7, 8] (fun cv k wr => ∃ c : Nat, c ≤ 16 ∧ k = .int .i64 (15 - (c : Int)) ∧ cv = .int .i64 (inS d fb r G0 c).2 ∧ Hid (wr.ownsRow w.heap.size 2 1 (.slice (some ⟨w.heap.size, 0, none⟩) 32 32) 32 ((row32 (inS d fb r G0 c).1).map (Value.int .i64))) ∧ Below w.heap.size w wr) (fun _ k _ => (intOf k + 1).toNat)
      case atStart => exact ⟨0, Nat.zero_le _, Ln.val_int (by simp), rfl, hown, hbel⟩
      case round =>
        clear hown hbel
        obtain ⟨c, hc, rfl, rfl, hown, hbel⟩ := hrel
        have hbd := inS_bd d fb r G0 hA.1 hA.2 Hnb.out hdg.out c hc
        have hC := hbd.2
        have hG := hbd.1
        clear hbd
        have hs1 : Hid ((inS d fb r G0 (c + 1)).1 = upd (inS d fb r G0 c).1 (r + c) (((inS d fb r G0 c).1 (r + c) + d * fb c + (inS d fb r G0 c).2) % 10)) := rfl
        have hs2 : Hid ((inS d fb r G0 (c + 1)).2 = ((inS d fb r G0 c).1 (r + c) + d * fb c + (inS d fb r G0 c).2) / 10) := rfl
        have HR : Hid (c = 16 → rowS d fb r G0 = upd (inS d fb r G0 c).1 (r + 16) ((inS d fb r G0 c).1 (r + 16) + (inS d fb r G0 c).2)) := fun e => by subst e; rfl
        generalize (inS d fb r G0 c).1 = G at *
        generalize (inS d fb r G0 c).2 = y at *
        by_cases hlt2 : c < 16
        · have hge2 : (0 : Int) ≤ 15 - (c : Int) := by omega
          have hlt25 : 15 - (c : Int) < 16 := by omega
          have hB := Hnb.out c hlt2
          have hm := mul99 d (fb c) hA.1 hA.2 hB.1 hB.2
          have hq := (hG (r + c)).1
          have c1 : wr.cell? ⟨g, 15 - r, none⟩ = some (.int .i64 d) := (hbel.cell (p := ⟨g, 15 - r, none⟩) hgl).trans Hca'.out
          have c2 : wr.cell? ⟨g', 15 - c, none⟩ = some (.int .i64 (fb c)) := (hbel.cell (p := ⟨g', 15 - c, none⟩) hgl').trans (by rw [Hcb.out (15 - c) (by omega), show 15 - (15 - c) = c by omega])
          have hf := World.ownsRow.frozenAt hown.out (31 - (r + c))
          have c3 : wr.cell? ⟨w.heap.size, 31 - (r + c), none⟩ = some (.int .i64 (G (r + c))) := by
            rw [World.ownsRow.cellAt hown.out (31 - (r + c)) (by omega)]
            have := row32_at G (31 - (r + c)) (by omega)
            rw [show 31 - (31 - (r + c)) = r + c by omega] at this
            simp only [List.getElem?_map]
            rw [← this, List.getD, List.getElem?_eq_getElem (by rw [row32_length]; omega)]
            rfl
          have Hst : Hid (_ ∧ _) := World.ownsRow.stored hown.out (31 - (r + c)) (.int .i64 ((G (r + c) + d * fb c + y) % 10))
          have hix : 15 - (r : Int) + (15 - (c : Int)) + 1 < 32 := by omega
          have hix0 : (0 : Int) ≤ 15 - (r : Int) + (15 - (c : Int)) + 1 := by omega
          have hix1 : (15 - (r : Int) + (15 - (c : Int)) + 1).toNat = 31 - (r + c) := by omega
          clear hG HR
          generalize G (r + c) = z at *
          go_wp2
          go_quiet (fail)
          go_wp2
          go_roundw
          case rel =>
            refine ⟨c + 1, by omega, Ln.val_int (by omega), Ln.val_int hs2.out.symm, ?_, ?_⟩
            · have := Hst.out.1
              rw [hs1.out, row32_upd _ _ _ (by omega), List.map_set]
              exact this
            · exact below_drewN (hbel.setCell (Nat.le_refl _) _) _
          case measure => simp [intOf]; omega
        · have hd : decide ((0 : Int) ≤ 15 - (c : Int)) = false := by simp; omega
          have hq := (hG (r + 16))
          have hz : G (r + 16) = 0 := hq.2 (Nat.le_refl _)
          have hf := World.ownsRow.frozenAt hown.out (15 - r)
          have c3 : wr.cell? ⟨w.heap.size, 15 - r, none⟩ = some (.int .i64 (G (r + 16))) := by
            rw [World.ownsRow.cellAt hown.out (15 - r) (by omega)]
            have := row32_at G (15 - r) (by omega)
            rw [show 31 - (15 - r) = r + 16 by omega] at this
            simp only [List.getElem?_map]
            rw [← this, List.getD, List.getElem?_eq_getElem (by rw [row32_length]; omega)]
            rfl
          have Hst : Hid (_ ∧ _) := World.ownsRow.stored hown.out (15 - r) (.int .i64 (G (r + 16) + y))
          have hR := HR.out (by omega)
          have HR' : Hid (rowS d fb r G0 = upd G (r + 16) (G (r + 16) + y)) := hR
          have hqz := hq.1
          have hlt32 : 15 - (r : Int) < 32 := by omega
          clear hG HR hR hq hz
          generalize G (r + 16) = z at *
          go_wp2
          go_roundw
          case rel =>
            refine ⟨r + 1, by omega, Ln.val_int (by omega), ?_, ?_⟩
            · have := Hst.out.1
              rw [Hrow.out, HR'.out, row32_upd _ _ _ (by omega), List.map_set, show 31 - (r + 16) = 15 - r by omega]
              exact this
            · exact hbel.setCell (Nat.le_refl _) _
          case measure => simp [intOf]; omega
    · have hd : decide ((0 : Int) ≤ 15 - (r : Int)) = false := by simp; omega
      go_wp2
      go_ret
      have e : r = 16 := by omega
      subst e
      exact ⟨rfl, hown.out, hbel⟩
end Go.Proofs.YtlbkhiphnllfpalDoor
