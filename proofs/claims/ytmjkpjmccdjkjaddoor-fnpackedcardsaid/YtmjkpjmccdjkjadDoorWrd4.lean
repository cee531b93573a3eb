/-
  The model's packed words, walked.
-/
import Derived.Test.YtmjkpjmccdjkjadDoorWrd
import Derived.Test.YtmjkpjmccdjkjadDoorNum
import Derived.Test.YtmjkpjmccdjkjadDoorDcl
import Derived.Deep.DeepCutAuto
import Derived.Laws.ResultCell
import Derived.Deep.RegionHeld3
namespace Go.Proofs.YtmjkpjmccdjkjadDoor
open Go.RowKit
set_option linter.unusedVariables false
set_option maxRecDepth 100000
theorem lit_ownN (w : World) (zs : List Int) (h : zs.length ≤ 1000) : HasN (w.alloc (.cells (zs.map (Value.int .i64)).toArray 2)) w.heap.size (.slice (some ⟨w.heap.size, 0, none⟩) zs.length zs.length) zs := by
  refine ⟨?_, by simp⟩
  have := World.ownsRow_lit (base := w.heap.size) (e := 2) (size := 1) w (zs.map (Value.int .i64)).toArray zs.length (Nat.le_refl _) (by unfold maxLen; omega) (by simp)
  exact this
/-- A number's box, new. -/
abbrev nbx (w : World) (k : Int) (b : Bool) (e : Int) (s : ByteArray) : World := w.alloc (.cells #[.int .i64 k, .bool b, .int .i64 e, .string s] 25)
theorem nbx_size (w : World) (k : Int) (b : Bool) (e : Int) (s : ByteArray) : (nbx w k b e s).heap.size = w.heap.size + 1 := by simp [nbx]
/-- A list that grows behind a number's box. -/
def Bld (w N wr : World) (o : Value) (X : List Int) : Prop := HasN wr (w.heap.size + 1) o X ∧ Below (w.heap.size + 1) N wr ∧ w.heap.size + 1 ≤ wr.heap.size
theorem Bld.app {w N wr w4 : World} {o v : Value} {X Y : List Int} (h : Bld w N wr o X) (o2 : Obj) (h1 : HasN w4 (w.heap.size + 1) v (X ++ Y)) (h2 : ∀ B w0, Below B w0 (wr.alloc o2) → B ≤ w.heap.size + 1 → Below B w0 w4) : Bld w N w4 v (X ++ Y) := by
  have hb := h2 _ _ (h.2.1.alloc h.2.2 o2) (Nat.le_refl _)
  have hs := (h2 (w.heap.size + 1) (wr.alloc o2) (Below.refl _ _) (Nat.le_refl _)).size
  refine ⟨h1, hb, ?_⟩
  have := h.2.2
  simp at hs
  omega
theorem nbx_cells (w : World) (k : Int) (b : Bool) (e : Int) (s : ByteArray) : (nbx w k b e s).cell? ⟨w.heap.size, 0, none⟩ = some (.int .i64 k) ∧ (nbx w k b e s).cell? ⟨w.heap.size, 1, none⟩ = some (.bool b) ∧ (nbx w k b e s).cell? ⟨w.heap.size, 2, none⟩ = some (.int .i64 e) ∧ (nbx w k b e s).cell? ⟨w.heap.size, 3, none⟩ = some (.string s) := by
  refine ⟨?_, ?_, ?_, ?_⟩ <;> simp [nbx]
theorem Bld.cells {w wr : World} {o : Value} {X : List Int} {k : Int} {b : Bool} {e : Int} {s : ByteArray} (h : Bld w (nbx w k b e s) wr o X) : wr.cell? ⟨w.heap.size, 0, none⟩ = some (.int .i64 k) ∧ wr.cell? ⟨w.heap.size, 1, none⟩ = some (.bool b) ∧ wr.cell? ⟨w.heap.size, 2, none⟩ = some (.int .i64 e) ∧ wr.cell? ⟨w.heap.size, 3, none⟩ = some (.string s) := by
  obtain ⟨c0, c1, c2, c3⟩ := nbx_cells w k b e s
  have hb := h.2.1
  exact ⟨(hb.cell (p := ⟨w.heap.size, 0, none⟩) (by simp)).trans c0, (hb.cell (p := ⟨w.heap.size, 1, none⟩) (by simp)).trans c1, (hb.cell (p := ⟨w.heap.size, 2, none⟩) (by simp)).trans c2, (hb.cell (p := ⟨w.heap.size, 3, none⟩) (by simp)).trans c3⟩
theorem Bld.out {w wr : World} {o : Value} {X : List Int} {k : Int} {b : Bool} {e : Int} {s : ByteArray} (h : Bld w (nbx w k b e s) wr o X) : HasN wr w.heap.size o X ∧ Below w.heap.size w wr :=
  ⟨h.1.mono (by omega), ((Below.refl _ _).alloc (Nat.le_refl _) _).trans (h.2.1.mono (by omega))⟩
theorem Bld.start (w : World) (k : Int) (b : Bool) (e : Int) (s : ByteArray) : Bld w (nbx w k b e s) ((nbx w k b e s).alloc (.cells #[] 2)) (.slice (some ⟨w.heap.size + 1, 0, none⟩) 0 0) [] := by
  have h := none_ownN (nbx w k b e s)
  rw [nbx_size] at h
  refine ⟨h, ?_, by simp⟩
  have := (Below.refl (nbx w k b e s).heap.size (nbx w k b e s)).alloc (Nat.le_refl _) (.cells #[] 2)
  rw [nbx_size] at this
  exact this
set_option maxRecDepth 100000 in
set_option maxHeartbeats 2000000 in
theorem l10Bits_spc (k : Int) (b : Bool) (e : Int) (s : ByteArray) (r g : Nat) (bias : Int) (w : World) (hk : k = 2 ∨ k = 3 ∨ k = 4) (hr : 1 ≤ r) (hr2 : r ≤ 12) (hg : g ≤ 11) :
    Calls Tryd.prog 19 #[numV k b e s, .int .i64 r, .int .i64 g, .int .i64 bias] w fun x w' => ∃ v, x = .returned v ∧ HasN w' w.heap.size v (spcL k b r g) ∧ Below w.heap.size w w' := by
  have H0 : Hid (Bld w (nbx w k b e s) ((nbx w k b e s).alloc (.cells #[] 2)) (.slice (some ⟨w.heap.size + 1, 0, none⟩) 0 0) []) := Bld.start w k b e s
  have HL : Hid (∀ z, HasN (((nbx w k b e s).alloc (.cells #[] 2)).alloc (.cells #[.int .i64 z] 2)) (w.heap.size + 1 + 1) (.slice (some ⟨w.heap.size + 1 + 1, 0, none⟩) 1 1) [z]) := fun z => by
    have := one_ownN ((nbx w k b e s).alloc (.cells #[] 2)) z
    simpa using this
  go_enter Tryd.func19, Tryd.ntmps19
  go_upto_if 25 with fail
  go_cut [9] (fun o wx => Hid (Bld w (nbx w k b e s) wx o [sgb b]))
  case first =>
    cases b
    · go_wp2_with (first | (at_builtin; refine wpList_app rfl _ _ rfl _ _ rfl rfl (w.heap.size + 1) (w.heap.size + 1 + 1) [] [0] (H0.out.1.alloc _) (HL.out 0) (by simp) (by simp <;> omega) ?_) | go_in)
      intro v4 w4 h4 hb4
      have H4 : Hid (Bld w (nbx w k false e s) w4 v4 [sgb false]) := H0.out.app _ h4.out hb4.out
      clear h4 hb4 H0
      go_wp2
      go_meet
      case rel => exact H4
    · go_wp2_with (first | (at_builtin; refine wpList_app rfl _ _ rfl _ _ rfl rfl (w.heap.size + 1) (w.heap.size + 1 + 1) [] [1] (H0.out.1.alloc _) (HL.out 1) (by simp) (by simp <;> omega) ?_) | go_in)
      intro v4 w4 h4 hb4
      have H4 : Hid (Bld w (nbx w k true e s) w4 v4 [sgb true]) := H0.out.app _ h4.out hb4.out
      clear h4 hb4 H0
      go_wp2
      go_meet
      case rel => exact H4
  case rest =>
    rcases hk with rfl | rfl | rfl
    · obtain ⟨c0, c1, c2, c3⟩ := hcut.out.cells
      have HH : Hid (Bld w (nbx w 2 b e s) wc u9 [sgb b]) := hcut
      clear hcut
      go_wp2_with (first | (at_builtin; refine wpList_app rfl _ _ rfl _ _ rfl rfl (w.heap.size + 1) wc.heap.size [sgb b] [1, 1, 1, 1, 0] (HH.out.1.alloc _) (lit_ownN wc [1, 1, 1, 1, 0] (by decide)) (by simp) (by have := HH.out.2.2; simp <;> omega) ?_) | go_in)
      intro v5 w5 h5 hb5
      have H5 : Hid (Bld w (nbx w 2 b e s) w5 v5 ([sgb b] ++ [1, 1, 1, 1, 0])) := HH.out.app _ h5.out hb5.out
      clear h5 hb5 HH c0 c1 c2 c3
      obtain ⟨c0, c1, c2, c3⟩ := H5.out.cells
      have HE : Hid (spcL 2 b r g = ([sgb b] ++ [1, 1, 1, 1, 0]) ++ List.replicate (r + 10 * g) 0) := rfl
      obtain ⟨Z, hZ⟩ : ∃ Z, r + 10 * g = Z := ⟨_, rfl⟩
      rw [hZ] at HE
      have hP : ([sgb b] ++ [1, 1, 1, 1, 0]).length ≤ 10 := by simp
      generalize [sgb b] ++ [1, 1, 1, 1, 0] = P at *
      have hz : ((Z : Nat) : Int) = r + 10 * g := by omega
      have hZ2 : Z ≤ 122 := by omega
      have hl : P.length ≤ 10 := hP
      clear hZ
      go_wp2
      go_loopw [9, 10] (fun o z wr => ∃ j : Nat, j ≤ Z ∧ z = .int .i64 ((Z : Int) - j) ∧ Hid (Bld w (nbx w 2 b e s) wr o (P ++ List.replicate j 0))) (fun _ z _ => (intOf z).toNat)
      case atStart => exact ⟨0, Nat.zero_le _, Ln.val_int (by omega), by show Bld _ _ _ _ _; simpa using H5.out⟩
      case round =>
        obtain ⟨j, hj, rfl, hB⟩ := hrel
        by_cases hlt : j < Z
        · have h1 : (0 : Int) < (Z : Int) - j := by omega
          have HS : Hid (List.replicate (j + 1) (0 : Int) = List.replicate j 0 ++ [0]) := List.replicate_succ'
          go_wp2_with (first | (at_builtin; refine wpList_app rfl _ _ rfl _ _ rfl rfl (w.heap.size + 1) wr.heap.size (P ++ List.replicate j 0) [0] (hB.out.1.alloc _) (one_ownN wr 0) (by simp; omega) (by have := hB.out.2.2; simp <;> omega) ?_) | go_in)
          intro v6 w6 h6 hb6
          have H6 : Hid (Bld w (nbx w 2 b e s) w6 v6 (P ++ List.replicate (j + 1) 0)) := by
            have := hB.out.app (X := P ++ List.replicate j 0) (Y := [0]) _ (by rw [List.append_assoc]; exact h6.out) hb6.out
            rw [HS.out, ← List.append_assoc]
            exact this
          clear h6 hb6 HS hB H5
          go_wp2
          go_roundw
          case rel => exact ⟨j + 1, by omega, Ln.val_int (by omega), H6⟩
          case measure => simp [intOf]; omega
        · obtain rfl : j = Z := by omega
          have h1 : ¬ (0 : Int) < (j : Int) - j := by omega
          have HF : Hid (HasN wr w.heap.size u9 (spcL 2 b r g) ∧ Below w.heap.size w wr) := by rw [HE.out]; exact hB.out.out
          clear hB H5 HE
          go_wp2
          go_ret
          exact ⟨_, rfl, HF.out⟩
    · obtain ⟨c0, c1, c2, c3⟩ := hcut.out.cells
      have HH : Hid (Bld w (nbx w 3 b e s) wc u9 [sgb b]) := hcut
      clear hcut
      go_wp2_with (first | (at_builtin; refine wpList_app rfl _ _ rfl _ _ rfl rfl (w.heap.size + 1) wc.heap.size [sgb b] [1, 1, 1, 1, 1, 0] (HH.out.1.alloc _) (lit_ownN wc [1, 1, 1, 1, 1, 0] (by decide)) (by simp) (by have := HH.out.2.2; simp <;> omega) ?_) | go_in)
      intro v5 w5 h5 hb5
      have H5 : Hid (Bld w (nbx w 3 b e s) w5 v5 ([sgb b] ++ [1, 1, 1, 1, 1, 0])) := HH.out.app _ h5.out hb5.out
      clear h5 hb5 HH c0 c1 c2 c3
      obtain ⟨c0, c1, c2, c3⟩ := H5.out.cells
      have HE : Hid (spcL 3 b r g = ([sgb b] ++ [1, 1, 1, 1, 1, 0]) ++ List.replicate (r + 10 * g - 1) 0) := rfl
      obtain ⟨Z, hZ⟩ : ∃ Z, r + 10 * g - 1 = Z := ⟨_, rfl⟩
      rw [hZ] at HE
      have hP : ([sgb b] ++ [1, 1, 1, 1, 1, 0]).length ≤ 10 := by simp
      generalize [sgb b] ++ [1, 1, 1, 1, 1, 0] = P at *
      have hz : ((Z : Nat) : Int) = (r : Int) + 10 * g - 1 := by omega
      have hZ2 : Z ≤ 122 := by omega
      have hl : P.length ≤ 10 := hP
      clear hZ
      go_wp2
      go_loopw [9, 10] (fun o z wr => ∃ j : Nat, j ≤ Z ∧ z = .int .i64 ((Z : Int) - j) ∧ Hid (Bld w (nbx w 3 b e s) wr o (P ++ List.replicate j 0))) (fun _ z _ => (intOf z).toNat)
      case atStart => exact ⟨0, Nat.zero_le _, Ln.val_int (by omega), by show Bld _ _ _ _ _; simpa using H5.out⟩
      case round =>
        obtain ⟨j, hj, rfl, hB⟩ := hrel
        by_cases hlt : j < Z
        · have h1 : (0 : Int) < (Z : Int) - j := by omega
          have HS : Hid (List.replicate (j + 1) (0 : Int) = List.replicate j 0 ++ [0]) := List.replicate_succ'
          go_wp2_with (first | (at_builtin; refine wpList_app rfl _ _ rfl _ _ rfl rfl (w.heap.size + 1) wr.heap.size (P ++ List.replicate j 0) [0] (hB.out.1.alloc _) (one_ownN wr 0) (by simp; omega) (by have := hB.out.2.2; simp <;> omega) ?_) | go_in)
          intro v6 w6 h6 hb6
          have H6 : Hid (Bld w (nbx w 3 b e s) w6 v6 (P ++ List.replicate (j + 1) 0)) := by
            have := hB.out.app (X := P ++ List.replicate j 0) (Y := [0]) _ (by rw [List.append_assoc]; exact h6.out) hb6.out
            rw [HS.out, ← List.append_assoc]
            exact this
          clear h6 hb6 HS hB H5
          go_wp2
          go_roundw
          case rel => exact ⟨j + 1, by omega, Ln.val_int (by omega), H6⟩
          case measure => simp [intOf]; omega
        · obtain rfl : j = Z := by omega
          have h1 : ¬ (0 : Int) < (j : Int) - j := by omega
          have HF : Hid (HasN wr w.heap.size u9 (spcL 3 b r g) ∧ Below w.heap.size w wr) := by rw [HE.out]; exact hB.out.out
          clear hB H5 HE
          go_wp2
          go_ret
          exact ⟨_, rfl, HF.out⟩
    · obtain ⟨c0, c1, c2, c3⟩ := hcut.out.cells
      have HH : Hid (Bld w (nbx w 4 b e s) wc u9 [sgb b]) := hcut
      clear hcut
      go_wp2_with (first | (at_builtin; refine wpList_app rfl _ _ rfl _ _ rfl rfl (w.heap.size + 1) wc.heap.size [sgb b] [1, 1, 1, 1, 1, 1] (HH.out.1.alloc _) (lit_ownN wc [1, 1, 1, 1, 1, 1] (by decide)) (by simp) (by have := HH.out.2.2; simp <;> omega) ?_) | go_in)
      intro v5 w5 h5 hb5
      have H5 : Hid (Bld w (nbx w 4 b e s) w5 v5 ([sgb b] ++ [1, 1, 1, 1, 1, 1])) := HH.out.app _ h5.out hb5.out
      clear h5 hb5 HH c0 c1 c2 c3
      obtain ⟨c0, c1, c2, c3⟩ := H5.out.cells
      have HE : Hid (spcL 4 b r g = ([sgb b] ++ [1, 1, 1, 1, 1, 1]) ++ List.replicate (r + 10 * g - 1) 0) := rfl
      obtain ⟨Z, hZ⟩ : ∃ Z, r + 10 * g - 1 = Z := ⟨_, rfl⟩
      rw [hZ] at HE
      have hP : ([sgb b] ++ [1, 1, 1, 1, 1, 1]).length ≤ 10 := by simp
      generalize [sgb b] ++ [1, 1, 1, 1, 1, 1] = P at *
      have hz : ((Z : Nat) : Int) = (r : Int) + 10 * g - 1 := by omega
      have hZ2 : Z ≤ 122 := by omega
      have hl : P.length ≤ 10 := hP
      clear hZ
      go_wp2
      go_loopw [9, 10] (fun o z wr => ∃ j : Nat, j ≤ Z ∧ z = .int .i64 ((Z : Int) - j) ∧ Hid (Bld w (nbx w 4 b e s) wr o (P ++ List.replicate j 0))) (fun _ z _ => (intOf z).toNat)
      case atStart => exact ⟨0, Nat.zero_le _, Ln.val_int (by omega), by show Bld _ _ _ _ _; simpa using H5.out⟩
      case round =>
        obtain ⟨j, hj, rfl, hB⟩ := hrel
        by_cases hlt : j < Z
        · have h1 : (0 : Int) < (Z : Int) - j := by omega
          have HS : Hid (List.replicate (j + 1) (0 : Int) = List.replicate j 0 ++ [0]) := List.replicate_succ'
          go_wp2_with (first | (at_builtin; refine wpList_app rfl _ _ rfl _ _ rfl rfl (w.heap.size + 1) wr.heap.size (P ++ List.replicate j 0) [0] (hB.out.1.alloc _) (one_ownN wr 0) (by simp; omega) (by have := hB.out.2.2; simp <;> omega) ?_) | go_in)
          intro v6 w6 h6 hb6
          have H6 : Hid (Bld w (nbx w 4 b e s) w6 v6 (P ++ List.replicate (j + 1) 0)) := by
            have := hB.out.app (X := P ++ List.replicate j 0) (Y := [0]) _ (by rw [List.append_assoc]; exact h6.out) hb6.out
            rw [HS.out, ← List.append_assoc]
            exact this
          clear h6 hb6 HS hB H5
          go_wp2
          go_roundw
          case rel => exact ⟨j + 1, by omega, Ln.val_int (by omega), H6⟩
          case measure => simp [intOf]; omega
        · obtain rfl : j = Z := by omega
          have h1 : ¬ (0 : Int) < (j : Int) - j := by omega
          have HF : Hid (HasN wr w.heap.size u9 (spcL 4 b r g) ∧ Below w.heap.size w wr) := by rw [HE.out]; exact hB.out.out
          clear hB H5 HE
          go_wp2
          go_ret
          exact ⟨_, rfl, HF.out⟩
end Go.Proofs.YtmjkpjmccdjkjadDoor
namespace Go.Proofs.YtmjkpjmccdjkjadDoor
open Go.RowKit
set_option linter.unusedVariables false
set_option maxRecDepth 100000
theorem tx_zero_cons (X : List Int) : ({ data := #[48] } : ByteArray) ++ tx X = tx (0 :: X) := by
  have : ({ data := #[48] } : ByteArray) = tx [0] := by apply ByteArray.ext; rw [tx_data]; rfl
  rw [this, tx_append]; rfl
theorem noughts_more (j : Nat) (ds : List Int) : (0 : Int) :: (List.replicate j 0 ++ ds) = List.replicate (j + 1) 0 ++ ds := by rw [List.replicate_succ]; rfl
theorem bl_step (e : Int) (n j : Nat) : bl e n (j + 1) = bl e n j ++ [e / 2 ^ (n - 1 - j) % 2] := rfl
theorem Bld.drewN {w N wr : World} {o : Value} {X : List Int} (h : Bld w N wr o X) (n : Nat) : Bld w N (wr.drewN n) o X := ⟨h.1, below_drewN h.2.1 n, h.2.2⟩
theorem half_pow (x : Int) (j : Nat) (h : j ≤ 9) : (512 : Int) / 2 ^ j = 2 ^ (9 - j) := by
  obtain ⟨d, hd⟩ : ∃ d, 9 = j + d := ⟨9 - j, by omega⟩
  have e : (512 : Int) = 2 ^ d * 2 ^ j := by rw [← Int.pow_add, Nat.add_comm, ← hd]; decide
  rw [show 9 - j = d by omega, e, Int.mul_ediv_cancel _ (Int.ne_of_gt (pow2_pos j))]
theorem e_fits (e : Int) (r : Nat) (h : r ≤ 12) (h1 : e < 3 * 2 ^ r) : e < 12288 := by
  obtain ⟨d, hd⟩ : ∃ d, 12 = r + d := ⟨12 - r, by omega⟩
  have e2 : (4096 : Int) = 2 ^ r * 2 ^ d := by rw [← Int.pow_add, ← hd]; decide
  have a := pow2_pos r
  have b := pow2_pos d
  have := Int.mul_le_mul_of_nonneg_left (show (1 : Int) ≤ 2 ^ d by omega) (Int.le_of_lt a)
  omega
set_option maxRecDepth 100000 in
set_option maxHeartbeats 4000000 in
theorem l10Bits_fin (b : Bool) (E : Int) (ds : List Int) (r g : Nat) (bias : Int) (w : World) (hr : 1 ≤ r) (hr2 : r ≤ 12) (hg : g ≤ 11) (hc : Canon ds) (hl : ds.length ≤ 3 * g + 1) (e0 : 0 ≤ E + bias) (e1 : E + bias < 3 * 2 ^ r) :
    Calls Tryd.prog 19 #[numV 1 b E (tx ds), .int .i64 r, .int .i64 g, .int .i64 bias] w fun x w' => ∃ v, x = .returned v ∧ HasN w' w.heap.size v (finL b (E + bias) (npad (3 * g + 1) ds) r g) ∧ Below w.heap.size w w' := by
  have H0 : Hid (Bld w (nbx w 1 b E (tx ds)) ((nbx w 1 b E (tx ds)).alloc (.cells #[] 2)) (.slice (some ⟨w.heap.size + 1, 0, none⟩) 0 0) []) := Bld.start w 1 b E (tx ds)
  have HL : Hid (∀ z, HasN (((nbx w 1 b E (tx ds)).alloc (.cells #[] 2)).alloc (.cells #[.int .i64 z] 2)) (w.heap.size + 1 + 1) (.slice (some ⟨w.heap.size + 1 + 1, 0, none⟩) 1 1) [z]) := fun z => by
    have := one_ownN ((nbx w 1 b E (tx ds)).alloc (.cells #[] 2)) z
    simpa using this
  have HC : Hid (Canon ds) := hc
  have Hp : Hid (0 < ds.length) := hc.2.1
  have he : E + bias < 12288 := e_fits _ r hr2 e1
  have hh : 0 ≤ (E + bias) / 2 ^ r ∧ (E + bias) / 2 ^ r ≤ 2 := e_hi _ r e0 e1
  have Hh : Hid (0 ≤ (E + bias) / 2 ^ r ∧ (E + bias) / 2 ^ r ≤ 2) := hh
  have hwb : IntKind.i64.wrap (E + bias) = E + bias := by rw [IntKind.wrap_i64]; omega
  have HS : Hid (∀ (k : Int) X, Calls Tryd.prog 32 #[.int .i64 k] X fun e w' => e = .returned (.int .i64 (dcl k)) ∧ w' = X) := fun k X => sDeclet_any k X
  clear hc e1 hh
  go_enter Tryd.func19, Tryd.ntmps19
  go_upto_if 25 with fail
  go_cut [9] (fun o wx => Hid (Bld w (nbx w 1 b E (tx ds)) wx o [sgb b]))
  case first =>
    cases b
    · go_wp2_with (first | (at_builtin; refine wpList_app rfl _ _ rfl _ _ rfl rfl (w.heap.size + 1) (w.heap.size + 1 + 1) [] [0] (H0.out.1.alloc _) (HL.out 0) (by simp) (by simp <;> omega) ?_) | go_in)
      intro v4 w4 h4 hb4
      have H4 : Hid (Bld w (nbx w 1 false E (tx ds)) w4 v4 [sgb false]) := H0.out.app _ h4.out hb4.out
      clear h4 hb4 H0
      go_wp2
      go_meet
      case rel => exact H4
    · go_wp2_with (first | (at_builtin; refine wpList_app rfl _ _ rfl _ _ rfl rfl (w.heap.size + 1) (w.heap.size + 1 + 1) [] [1] (H0.out.1.alloc _) (HL.out 1) (by simp) (by simp <;> omega) ?_) | go_in)
      intro v4 w4 h4 hb4
      have H4 : Hid (Bld w (nbx w 1 true E (tx ds)) w4 v4 [sgb true]) := H0.out.app _ h4.out hb4.out
      clear h4 hb4 H0
      go_wp2
      go_meet
      case rel => exact H4
  case rest =>
    obtain ⟨c0, c1, c2, c3⟩ := hcut.out.cells
    have HH : Hid (Bld w (nbx w 1 b E (tx ds)) wc u9 [sgb b]) := hcut
    clear hcut H0 HL
    have hds := tx_size ds
    go_wp2
    go_loop [11] (fun s => ∃ j : Nat, j + ds.length ≤ 3 * g + 1 ∧ s = .string (tx (List.replicate j 0 ++ ds))) (fun s => 3 * g + 1 - strSz s)
    case atStart => exact ⟨0, by omega, rfl⟩
    case round =>
      obtain ⟨j, hj, rfl⟩ := hrel
      have hz : (tx (List.replicate j 0 ++ ds)).size = j + ds.length := by rw [tx_size]; simp
      by_cases hlt : j + ds.length < 3 * g + 1
      · have h1 : ((tx (List.replicate j 0 ++ ds)).size : Int) < 3 * (g : Int) + 1 := by omega
        have h2 : ((tx (List.replicate j 0 ++ ds)).size : Int) ≤ 8388608 := by omega
        have hap := tx_zero_cons (List.replicate j 0 ++ ds)
        rw [noughts_more] at hap
        have hm : Hid (3 * g + 1 - strSz (.string (tx (List.replicate (j + 1) 0 ++ ds))) < 3 * g + 1 - strSz (.string (tx (List.replicate j 0 ++ ds)))) := by
          have a : strSz (.string (tx (List.replicate (j + 1) 0 ++ ds))) = j + 1 + ds.length := by show (tx _).size = _; rw [tx_size]; simp
          have b : strSz (.string (tx (List.replicate j 0 ++ ds))) = j + ds.length := hz
          rw [Hid, a, b]; omega
        clear hz
        go_wp2
        go_round
        case rel => exact ⟨j + 1, by omega, rfl⟩
        case measure => exact hm.out
      · have ej : j = 3 * g + 1 - ds.length := by omega
        have HP : Hid (List.replicate j 0 ++ ds = npad (3 * g + 1) ds) := by rw [ej]; rfl
        rw [HP.out] at hz ⊢
        have HD : Hid (Dec (npad (3 * g + 1) ds)) := npad_dec _ _ HC.out.1
        clear HP ej HC
        generalize hSp : npad (3 * g + 1) ds = S at *
        have HSp : Hid (npad (3 * g + 1) ds = S) := hSp
        clear hSp
        have Hz : Hid ((tx S).size = 3 * g + 1) := by rw [Hid, hz]; omega
        have h1 : ¬ ((tx S).size : Int) < 3 * (g : Int) + 1 := by omega
        have h0 : 0 < (tx S).size := by omega
        have ht := tx_at S HD.out 0 h0
        have hd0 := dec_at S HD.out 0
        clear hz hds hj hlt Hp hl
        obtain ⟨F, hF⟩ : ∃ F, S.getD 0 0 = F := ⟨_, rfl⟩
        rw [hF] at ht hd0
        have wF : IntKind.u8.wrap ((((tx S)[0]'h0).toNat : Int) - 48) = F := by rw [IntKind.wrap_u8, ht]; omega
        clear ht
        have wF2 : IntKind.i64.wrap F = F := by rw [IntKind.wrap_i64]; omega
        have HD2 : Hid (∀ q, 0 ≤ (E + bias) / 2 ^ q ∧ (E + bias) / 2 ^ q < 12288) := fun q => by
          have a := Int.ediv_nonneg e0 (Int.le_of_lt (pow2_pos q))
          have b := Int.ediv_le_self (2 ^ q) e0
          omega
        have HF : Hid (S.getD 0 0 = F) := hF
        clear hF
        go_wp2
        go_loop [14, 15] (fun h i => ∃ j : Nat, j ≤ r ∧ i = .int .i64 j ∧ h = .int .i64 ((E + bias) / 2 ^ j)) (fun _ i => r - (intOf i).toNat)
        case atStart => exact ⟨0, Nat.zero_le _, rfl, Ln.val_int (by simp)⟩
        case round =>
          obtain ⟨j, hj, rfl, rfl⟩ := hrel
          by_cases hlt : j < r
          · have hlt' : (j : Int) < (r : Int) := by omega
            have hx := HD2.out j
            have HE : Hid ((E + bias) / 2 ^ (j + 1) = (E + bias) / 2 ^ j / 2) := div_pow_succ _ j
            generalize (E + bias) / 2 ^ j = X at *
            have m2 : Int.tdiv X 2 = X / 2 := Int.tdiv_eq_ediv_of_nonneg hx.1
            have w3 : IntKind.i64.wrap (X / 2) = X / 2 := by rw [IntKind.wrap_i64]; omega
            clear hx
            go_wp2
            go_round
            case rel => exact ⟨j + 1, by omega, by go_num, Ln.val_int HE.out.symm⟩
            case measure => simp [intOf]; omega
          · obtain rfl : j = r := by omega
            have hH := Hh.out
            obtain ⟨H, hHe⟩ : ∃ H, (E + bias) / 2 ^ j = H := ⟨_, rfl⟩
            have HHe : Hid ((E + bias) / 2 ^ j = H) := hHe
            rw [hHe] at hH ⊢
            clear hHe Hh hlt hj
            go_upto_if 101 with fail
            go_cut [9] (fun o wx => Hid (Bld w (nbx w 1 b E (tx ds)) wx o ([sgb b] ++ fvL H F)))
            case first =>
              have q1 : Int.tdiv H 2 = H / 2 := Int.tdiv_eq_ediv_of_nonneg hH.1
              have q2 : Int.tmod H 2 = H % 2 := Int.tmod_eq_emod_of_nonneg hH.1
              have q3 : Int.tdiv F 4 = F / 4 := Int.tdiv_eq_ediv_of_nonneg hd0.1
              have q4 : Int.tdiv F 2 = F / 2 := Int.tdiv_eq_ediv_of_nonneg hd0.1
              have q5 : Int.tmod F 2 = F % 2 := Int.tmod_eq_emod_of_nonneg hd0.1
              have q6 : Int.tmod (F / 2) 2 = F / 2 % 2 := Int.tmod_eq_emod_of_nonneg (by omega)
              have w1 : IntKind.i64.wrap (H / 2) = H / 2 := by rw [IntKind.wrap_i64]; omega
              have w2 : IntKind.i64.wrap (H % 2) = H % 2 := by rw [IntKind.wrap_i64]; omega
              have w3 : IntKind.i64.wrap (F / 4) = F / 4 := by rw [IntKind.wrap_i64]; omega
              have w4 : IntKind.i64.wrap (F / 2) = F / 2 := by rw [IntKind.wrap_i64]; omega
              have w5 : IntKind.i64.wrap (F % 2) = F % 2 := by rw [IntKind.wrap_i64]; omega
              have w6 : IntKind.i64.wrap (F / 2 % 2) = F / 2 % 2 := by rw [IntKind.wrap_i64]; omega
              have w7 : IntKind.i64.wrap (F - 8) = F - 8 := by rw [IntKind.wrap_i64]; omega
              by_cases hf : F < 8
              · have HV : Hid (fvL H F = [H / 2, H % 2, F / 4, F / 2 % 2, F % 2]) := by unfold fvL; rw [if_pos hf]; rfl
                go_wp2_with (first | (at_builtin; refine wpList_app rfl _ _ rfl _ _ rfl rfl (w.heap.size + 1) wc.heap.size [sgb b] [H / 2, H % 2, F / 4, F / 2 % 2, F % 2] (HH.out.1.alloc _) (lit_ownN wc [H / 2, H % 2, F / 4, F / 2 % 2, F % 2] (by simp)) (by simp) (by have := HH.out.2.2; simp <;> omega) ?_) | go_in)
                intro v5 w5 h5 hb5
                have H5 : Hid (Bld w (nbx w 1 b E (tx ds)) w5 v5 ([sgb b] ++ fvL H F)) := by rw [HV.out]; exact HH.out.app _ h5.out hb5.out
                clear h5 hb5 HH HV
                go_wp2
                go_meet
                case rel => exact H5
              · have HV : Hid (fvL H F = [1, 1, H / 2, H % 2, F - 8]) := by unfold fvL; rw [if_neg hf]; rfl
                go_wp2_with (first | (at_builtin; refine wpList_app rfl _ _ rfl _ _ rfl rfl (w.heap.size + 1) wc.heap.size [sgb b] [1, 1, H / 2, H % 2, F - 8] (HH.out.1.alloc _) (lit_ownN wc [1, 1, H / 2, H % 2, F - 8] (by simp)) (by simp) (by have := HH.out.2.2; simp <;> omega) ?_) | go_in)
                intro v5 w5 h5 hb5
                have H5 : Hid (Bld w (nbx w 1 b E (tx ds)) w5 v5 ([sgb b] ++ fvL H F)) := by rw [HV.out]; exact HH.out.app _ h5.out hb5.out
                clear h5 hb5 HH HV
                go_wp2
                go_meet
                case rel => exact H5
            case rest =>
              have H5 : Hid (Bld w (nbx w 1 b E (tx ds)) wc u9 ([sgb b] ++ fvL H F)) := hcut
              have hP : ([sgb b] ++ fvL H F).length = 6 := by rw [List.length_append, fvL_len]; rfl
              have HR : Hid (finL b (E + bias) (npad (3 * g + 1) ds) j g = ([sgb b] ++ fvL H F) ++ bl (E + bias) j j ++ grp S g) := by
                unfold finL
                rw [HSp.out, HF.out, HHe.out]; rfl
              clear hcut HHe HF wF wF2 hd0 hH
              generalize [sgb b] ++ fvL H F = P at *
              go_wp2
              go_loopw [9, 16] (fun o i wr => ∃ q : Nat, q ≤ j ∧ i = .int .i64 ((j : Int) - 1 - q) ∧ Hid (Bld w (nbx w 1 b E (tx ds)) wr o (P ++ bl (E + bias) j q))) (fun _ i _ => (intOf i + 1).toNat)
              case atStart => exact ⟨0, Nat.zero_le _, Ln.val_int (by simp), by show Bld _ _ _ _ _; simpa [bl] using H5.out⟩
              case round =>
                clear H5
                obtain ⟨q, hq, rfl, hB⟩ := hrel
                by_cases hlt : q < j
                · have h1 : (0 : Int) ≤ (j : Int) - 1 - q := by omega
                  go_wp2
                  go_loop [17, 18] (fun x i => ∃ t : Nat, t + q + 1 ≤ j ∧ i = .int .i64 t ∧ x = .int .i64 ((E + bias) / 2 ^ t)) (fun _ i => j - (intOf i).toNat)
                  case atStart => exact ⟨0, by omega, rfl, Ln.val_int (by simp)⟩
                  case round =>
                    obtain ⟨t, ht, rfl, rfl⟩ := hrel
                    have hx := HD2.out t
                    by_cases hlt2 : t + q + 1 < j
                    · have hlt' : (t : Int) < (j : Int) - 1 - q := by omega
                      have HE : Hid ((E + bias) / 2 ^ (t + 1) = (E + bias) / 2 ^ t / 2) := div_pow_succ _ t
                      generalize (E + bias) / 2 ^ t = X at *
                      have m2 : Int.tdiv X 2 = X / 2 := Int.tdiv_eq_ediv_of_nonneg hx.1
                      have w3 : IntKind.i64.wrap (X / 2) = X / 2 := by rw [IntKind.wrap_i64]; omega
                      clear hx
                      go_wp2
                      go_round
                      case rel => exact ⟨t + 1, by omega, by go_num, Ln.val_int HE.out.symm⟩
                      case measure => simp [intOf]; omega
                    · have hlt' : ¬ (t : Int) < (j : Int) - 1 - q := by omega
                      have HE : Hid (bl (E + bias) j (q + 1) = bl (E + bias) j q ++ [(E + bias) / 2 ^ t % 2]) := by rw [Hid, show t = j - 1 - q by omega]; rfl
                      have hbl := bl_len (E + bias) j q
                      generalize (E + bias) / 2 ^ t = X at *
                      have m2 : Int.tmod X 2 = X % 2 := Int.tmod_eq_emod_of_nonneg hx.1
                      have w3 : IntKind.i64.wrap (X % 2) = X % 2 := by rw [IntKind.wrap_i64]; omega
                      clear hx
                      go_wp2_with (first | (at_builtin; refine wpList_app rfl _ _ rfl _ _ rfl rfl (w.heap.size + 1) wr.heap.size (P ++ bl (E + bias) j q) [X % 2] (hB.out.1.alloc _) (one_ownN wr _) (by simp [hP, hbl]; omega) (by have := hB.out.2.2; simp <;> omega) ?_) | go_in)
                      intro v6 w6 h6 hb6
                      have H6 : Hid (Bld w (nbx w 1 b E (tx ds)) w6 v6 (P ++ bl (E + bias) j (q + 1))) := by
                        have := hB.out.app (X := P ++ bl (E + bias) j q) (Y := [X % 2]) _ (by first | exact h6.out | (rw [List.append_assoc]; exact h6.out)) hb6.out
                        rw [HE.out, ← List.append_assoc]
                        exact this
                      clear h6 hb6 HE hB
                      go_wp2
                      go_roundw
                      case rel => exact ⟨q + 1, by omega, Ln.val_int (by omega), H6⟩
                      case measure => simp [intOf]; omega
                · obtain rfl : q = j := by omega
                  have h1 : ¬ (0 : Int) ≤ (q : Int) - 1 - q := by omega
                  have hP2 : (P ++ bl (E + bias) q q).length ≤ 18 := by rw [List.length_append, bl_len, hP]; omega
                  clear HD2 hP hlt hq
                  generalize P ++ bl (E + bias) q q = P2 at *
                  go_wp2
                  go_loopw [9, 19] (fun o i wr => ∃ t : Nat, t ≤ g ∧ i = .int .i64 t ∧ Hid (∃ n, wr.drawn = n) ∧ Hid (Bld w (nbx w 1 b E (tx ds)) wr o (P2 ++ grp S t))) (fun _ i _ => g - (intOf i).toNat)
                  case atStart => exact ⟨0, Nat.zero_le _, rfl, ⟨_, rfl⟩, by show Bld _ _ _ _ _; simpa [grp] using hB.out⟩
                  case round =>
                    clear hB
                    obtain ⟨t, ht, rfl, -, hB⟩ := hrel
                    by_cases hlt : t < g
                    · have hlt' : (t : Int) < (g : Int) := by omega
                      obtain ⟨K, hK⟩ : ∃ K, 1 + 3 * t = K := ⟨_, rfl⟩
                      have hKi : (1 : Int) + 3 * (t : Int) = (K : Int) := by omega
                      have hz := Hz.out
                      have k0 : K < (tx S).size := by omega
                      have k1 : K + 1 < (tx S).size := by omega
                      have k2 : K + 2 < (tx S).size := by omega
                      have hK36 : K ≤ 40 := by omega
                      have z0 := tx_at S HD.out K k0
                      have z1 := tx_at S HD.out (K + 1) k1
                      have z2 := tx_at S HD.out (K + 2) k2
                      have d0 := dec_at S HD.out K
                      have d1 := dec_at S HD.out (K + 1)
                      have d2 := dec_at S HD.out (K + 2)
                      have HE : Hid (grp S (t + 1) = grp S t ++ bl (dcl (S.getD K 0 * 100 + S.getD (K + 1) 0 * 10 + S.getD (K + 2) 0)) 10 10) := by rw [← hK]; rfl
                      have hgl : (P2 ++ grp S t).length ≤ 130 := by rw [List.length_append, grp_len]; omega
                      clear hz hK
                      generalize S.getD K 0 = x0 at *
                      generalize S.getD (K + 1) 0 = x1 at *
                      generalize S.getD (K + 2) 0 = x2 at *
                      have a0 : IntKind.u8.wrap ((((tx S)[K]'k0).toNat : Int) - 48) = x0 := by rw [IntKind.wrap_u8, z0]; omega
                      have a1 : IntKind.u8.wrap ((((tx S)[K + 1]'k1).toNat : Int) - 48) = x1 := by rw [IntKind.wrap_u8, z1]; omega
                      have a2 : IntKind.u8.wrap ((((tx S)[K + 2]'k2).toNat : Int) - 48) = x2 := by rw [IntKind.wrap_u8, z2]; omega
                      clear z0 z1 z2
                      have b0 : IntKind.i64.wrap x0 = x0 := by rw [IntKind.wrap_i64]; omega
                      have b1 : IntKind.i64.wrap x1 = x1 := by rw [IntKind.wrap_i64]; omega
                      have b2 : IntKind.i64.wrap x2 = x2 := by rw [IntKind.wrap_i64]; omega
                      have y0 : IntKind.i64.wrap (x0 * 100) = x0 * 100 := by rw [IntKind.wrap_i64]; omega
                      have y1 : IntKind.i64.wrap (x1 * 10) = x1 * 10 := by rw [IntKind.wrap_i64]; omega
                      have y2 : IntKind.i64.wrap (x0 * 100 + x1 * 10) = x0 * 100 + x1 * 10 := by rw [IntKind.wrap_i64]; omega
                      have y3 : IntKind.i64.wrap (x0 * 100 + x1 * 10 + x2) = x0 * 100 + x1 * 10 + x2 := by rw [IntKind.wrap_i64]; omega
                      have hw1 : IntKind.i64.wrap ((K : Int) + 1) = (K : Int) + 1 := by rw [IntKind.wrap_i64]; omega
                      have hw2 : IntKind.i64.wrap ((K : Int) + 2) = (K : Int) + 2 := by rw [IntKind.wrap_i64]; omega
                      have hK1 : (K : Int) < ((tx S).size : Int) := by omega
                      have hK2 : (K : Int) + 1 < ((tx S).size : Int) := by omega
                      have hK3 : (K : Int) + 2 < ((tx S).size : Int) := by omega
                      have hp0 : (0 : Int) ≤ (K : Int) := by omega
                      have hp1 : (0 : Int) ≤ (K : Int) + 1 := by omega
                      have hp2 : (0 : Int) ≤ (K : Int) + 2 := by omega
                      have ht1 : ((K : Int) + 1).toNat = K + 1 := by omega
                      have ht2 : ((K : Int) + 2).toNat = K + 2 := by omega
                      have HX : Hid (∀ X, Calls Tryd.prog 32 #[.int .i64 (x0 * 100 + x1 * 10 + x2)] X fun e w' => e = .returned (.int .i64 (dcl (x0 * 100 + x1 * 10 + x2))) ∧ w' = X) := fun X => HS.out _ X
                      have hD : 0 ≤ dcl (x0 * 100 + x1 * 10 + x2) ∧ dcl (x0 * 100 + x1 * 10 + x2) ≤ 1023 := by
                        have := dcl_back (x0 * 100 + x1 * 10 + x2) (by omega) (by omega)
                        omega
                      generalize dcl (x0 * 100 + x1 * 10 + x2) = D at *
                      go_wp2
                      go_quiet (first | (go_at_call 32; refine Calls.quiet_of_same (HX.out _)))
                      go_wp2
                      clear a0 a1 a2 b0 b1 b2 y0 y1 y2 y3 hw1 hw2 HX d0 d1 d2
                      go_loopw [9, 22] (fun o k wr' => ∃ n : Nat, n ≤ 10 ∧ k = .int .i64 (512 / 2 ^ n) ∧ Hid (Bld w (nbx w 1 b E (tx ds)) wr' o ((P2 ++ grp S t) ++ bl D 10 n))) (fun _ k _ => (intOf k).toNat)
                      case atStart => exact ⟨0, Nat.zero_le _, Ln.val_int (by decide), by show Bld _ _ _ _ _; simpa [bl] using hB.out.drewN _⟩
                      case round =>
                        clear hB
                        obtain ⟨n, hn, rfl, hB⟩ := hrel
                        by_cases hlt2 : n < 10
                        · have hX : (512 : Int) / 2 ^ n = 2 ^ (9 - n) := half_pow 0 n (by omega)
                          have hX0 := pow2_pos (9 - n)
                          have HE2 : Hid (bl D 10 (n + 1) = bl D 10 n ++ [D / (512 / 2 ^ n) % 2]) := by rw [Hid, hX]; rfl
                          have HX5 : Hid ((512 : Int) / 2 ^ n ≤ 512) := Int.ediv_le_self _ (by decide)
                          have HE3 : Hid ((512 : Int) / 2 ^ (n + 1) = 512 / 2 ^ n / 2) := div_pow_succ 512 n
                          rw [← hX] at hX0
                          clear hX
                          generalize (512 : Int) / 2 ^ n = X at *
                          have hDX : 0 ≤ D / X ∧ D / X ≤ D := ⟨Int.ediv_nonneg hD.1 (Int.le_of_lt hX0), Int.ediv_le_self X hD.1⟩
                          have m1 : Int.tdiv D X = D / X := Int.tdiv_eq_ediv_of_nonneg hD.1
                          have m2 : Int.tmod (D / X) 2 = D / X % 2 := Int.tmod_eq_emod_of_nonneg hDX.1
                          have m3 : Int.tdiv X 2 = X / 2 := Int.tdiv_eq_ediv_of_nonneg (Int.le_of_lt hX0)
                          have hXn : (X == 0) = false := by simp; omega
                          have hX2 : X / 2 < X := by omega
                          have hbl := bl_len D 10 n
                          have hX5 : X ≤ 512 := HX5.out
                          have w1 : IntKind.i64.wrap (D / X) = D / X := by rw [IntKind.wrap_i64]; omega
                          have w2 : IntKind.i64.wrap (D / X % 2) = D / X % 2 := by rw [IntKind.wrap_i64]; omega
                          have w3 : IntKind.i64.wrap (X / 2) = X / 2 := by rw [IntKind.wrap_i64]; omega
                          clear hDX
                          go_wp2_with (first | (at_builtin; refine wpList_app rfl _ _ rfl _ _ rfl rfl (w.heap.size + 1) wr.heap.size ((P2 ++ grp S t) ++ bl D 10 n) [D / X % 2] (hB.out.1.alloc _) (one_ownN wr _) (by rw [List.length_append, hbl]; simp only [List.length_singleton]; omega) (by have := hB.out.2.2; simp <;> omega) ?_) | go_in)
                          intro v6 w6 h6 hb6
                          have H6 : Hid (Bld w (nbx w 1 b E (tx ds)) w6 v6 ((P2 ++ grp S t) ++ bl D 10 (n + 1))) := by
                            have := hB.out.app (X := (P2 ++ grp S t) ++ bl D 10 n) (Y := [D / X % 2]) _ (by first | exact h6.out | (simpa only [List.append_assoc] using h6.out)) hb6.out
                            rw [HE2.out, ← List.append_assoc]
                            exact this
                          clear h6 hb6 HE2 hB
                          go_wp2
                          go_roundw
                          case rel => exact ⟨n + 1, by omega, Ln.val_int HE3.out.symm, H6⟩
                          case measure => simp [intOf]; omega
                        · obtain rfl : n = 10 := by omega
                          have h0 : (512 : Int) / 2 ^ 10 = 0 := by decide
                          rw [h0]
                          have HB : Hid (Bld w (nbx w 1 b E (tx ds)) wr u9 (P2 ++ grp S (t + 1))) := by
                            rw [HE.out, ← List.append_assoc]; exact hB.out
                          clear hB h0
                          go_wp2
                          go_roundw
                          case rel => exact ⟨t + 1, by omega, by go_num, ⟨_, rfl⟩, HB⟩
                          case measure => simp [intOf]; omega
                    · obtain rfl : t = g := by omega
                      have hlt' : ¬ (t : Int) < (t : Int) := by omega
                      have HF : Hid (HasN wr w.heap.size u9 (finL b (E + bias) (npad (3 * t + 1) ds) q t) ∧ Below w.heap.size w wr) := by rw [HR.out]; exact hB.out.out
                      clear hB HR
                      go_wp2
                      go_ret
                      exact ⟨_, rfl, HF.out⟩
end Go.Proofs.YtmjkpjmccdjkjadDoor
namespace Go.Proofs.YtmjkpjmccdjkjadDoor
open Go.RowKit
set_option linter.unusedVariables false
set_option maxRecDepth 100000
theorem empty_tx (s : ByteArray) (h : s.toList.isEmpty = true) : s = tx [] := by
  have h1 : s.toList = [] := by simpa using h
  apply ByteArray.ext
  rw [tx_data]
  apply Array.toList_inj.1
  have : s.data.toList = [] := by
    have e : s.toList = s.data.toList := ByteArray.toList_eq s
    rw [← e]; exact h1
  rw [this]; rfl
/-- What is right in a format has digits that are a list. -/
theorem numB_right (f k : Int) (b : Bool) (e : Int) (s : ByteArray) (r g : Nat) (bias : Int) (hf : (f = 64 ∧ r = 8 ∧ g = 5 ∧ bias = 398) ∨ (f = 128 ∧ r = 12 ∧ g = 11 ∧ bias = 6176)) (h : numB f k b e s = true) : ∃ ds, s = tx ds ∧ Rt r g bias k b e ds := by
  have hL : limP f = 3 * (g : Int) + 1 ∧ limL f = -bias ∧ limH f = 3 * 2 ^ r - 1 - bias ∧ limP f ≠ 0 := by
    rcases hf with ⟨rfl, rfl, rfl, rfl⟩ | ⟨rfl, rfl, rfl, rfl⟩ <;> decide
  obtain ⟨l1, l2, l3, l4⟩ := hL
  unfold numB at h
  rw [if_neg l4] at h
  by_cases k1 : k = 1
  · rw [if_pos k1] at h
    simp only [Bool.and_eq_true, decide_eq_true_eq] at h
    obtain ⟨ds, hc, hl, hn, hs⟩ := natB_text _ _ h.1
    exact ⟨ds, hs, .inl ⟨k1, hc, by omega, by omega, by omega⟩⟩
  · rw [if_neg k1] at h
    by_cases k2 : k = 2
    · rw [if_pos k2] at h
      simp only [Bool.and_eq_true, decide_eq_true_eq] at h
      exact ⟨[], empty_tx s h.2, .inr (.inl ⟨k2, h.1, rfl⟩)⟩
    · rw [if_neg k2] at h
      by_cases k3 : k = 3 ∨ k = 4
      · rw [if_pos k3] at h
        simp only [Bool.and_eq_true, decide_eq_true_eq, Bool.not_eq_true'] at h
        exact ⟨[], empty_tx s h.2.1, .inr (.inr ⟨k3, h.1, rfl, h.2.2⟩)⟩
      · rw [if_neg k3] at h; cases h
theorem right_numB (f k : Int) (b : Bool) (e : Int) (ds : List Int) (r g : Nat) (bias : Int) (hf : (f = 64 ∧ r = 8 ∧ g = 5 ∧ bias = 398) ∨ (f = 128 ∧ r = 12 ∧ g = 11 ∧ bias = 6176)) (h : Rt r g bias k b e ds) : numB f k b e (tx ds) = true := by
  have hL : limP f = 3 * (g : Int) + 1 ∧ limL f = -bias ∧ limH f = 3 * 2 ^ r - 1 - bias ∧ limP f ≠ 0 := by
    rcases hf with ⟨rfl, rfl, rfl, rfl⟩ | ⟨rfl, rfl, rfl, rfl⟩ <;> decide
  obtain ⟨l1, l2, l3, l4⟩ := hL
  unfold numB
  rw [if_neg l4]
  rcases h with ⟨rfl, hc, hl, e0, e1⟩ | ⟨rfl, rfl, rfl⟩ | ⟨hk, rfl, rfl, rfl⟩
  · rw [if_pos rfl, natB_tx _ ds hc (by omega), decide_eq_true (by omega : limL f ≤ e), decide_eq_true (by omega : e ≤ limH f)]; rfl
  · rw [if_neg (by decide), if_pos rfl, tx_empty [] rfl]; rfl
  · rw [if_neg (by omega), if_neg (by omega), if_pos hk, tx_empty [] rfl]; rfl
theorem l10Bits_any (k : Int) (b : Bool) (e : Int) (ds : List Int) (r g : Nat) (bias : Int) (w : World) (hr : 1 ≤ r) (hr2 : r ≤ 12) (hg : g ≤ 11) (h : Rt r g bias k b e ds) :
    Calls Tryd.prog 19 #[numV k b e (tx ds), .int .i64 r, .int .i64 g, .int .i64 bias] w fun x w' => ∃ v, x = .returned v ∧ HasN w' w.heap.size v (pkL r g bias k b e ds) ∧ Below w.heap.size w w' := by
  unfold pkL
  rcases h with ⟨rfl, hc, hl, e0, e1⟩ | ⟨rfl, -, -⟩ | ⟨hk, -, -, -⟩
  · rw [if_pos rfl]; exact l10Bits_fin b e ds r g bias w hr hr2 hg hc hl e0 e1
  · rw [if_neg (by decide)]; exact l10Bits_spc 2 b e (tx ds) r g bias w (.inl rfl) hr hr2 hg
  · rw [if_neg (by omega)]; exact l10Bits_spc k b e (tx ds) r g bias w (.inr hk) hr hr2 hg
theorem l10Join_own (v : Value) (L : List Int) (base : Nat) (w : World) (h : HasN w base v L) (hB : Bit L) (hn : L.length ≤ 64) :
    Calls Tryd.prog 18 #[v] w fun e w' => e = .returned (.int .u64 (hbv L)) ∧ w' = w := by
  obtain ⟨g, cap, rfl, -, -, hc⟩ := h.form
  exact l10Join_at g 0 L.length cap 0 L w hn hB (fun i hi => by rw [Nat.zero_add]; exact hc i hi)
theorem sPack64_no (k : Int) (b : Bool) (e : Int) (s : ByteArray) (w : World) (hs : s.size ≤ 4611686018427387904) (h : numB 64 k b e s = false) :
    Calls Tryd.prog 7 #[numV k b e s] w fun x w' => x = .returned (.tuple #[.int .u64 0, .bool false]) ∧ Below w.heap.size w w' := by
  have HB : Hid (Below w.heap.size w (nbx w k b e s)) := (Below.refl _ _).alloc (Nat.le_refl _) _
  have H : Hid (numB 64 k b e s = false) := h
  clear h
  go_enter Tryd.func7, Tryd.ntmps7
  go_wp2_with fail
  refine (sNumOk_any 64 k b e s _ hs).mono ?_
  rintro x w1 ⟨rfl, hb1⟩
  rw [H.out]
  have HB1 : Hid (Below w.heap.size w w1) := HB.out.trans (hb1.mono (by simp))
  clear hb1
  go_wp2
  go_ret2
  exact ⟨rfl, HB1.out⟩
theorem sPack64_yes (k : Int) (b : Bool) (e : Int) (ds : List Int) (w : World) (h : Rt 8 5 398 k b e ds) :
    Calls Tryd.prog 7 #[numV k b e (tx ds)] w fun x w' => x = .returned (.tuple #[.int .u64 (pkW 8 5 398 k b e ds), .bool true]) ∧ Below w.heap.size w w' := by
  have HB : Hid (Below w.heap.size w (nbx w k b e (tx ds))) := (Below.refl _ _).alloc (Nat.le_refl _) _
  have HC := nbx_cells w k b e (tx ds)
  have HC' : Hid (_ ∧ _ ∧ _ ∧ _) := HC
  have H : Hid (numB 64 k b e (tx ds) = true) := right_numB 64 k b e ds 8 5 398 (.inl ⟨rfl, rfl, rfl, rfl⟩) h
  have hsz : Hid ((tx ds).size ≤ 4611686018427387904) := by
    rw [Hid, tx_size]
    rcases h with ⟨-, -, hl, -⟩ | ⟨-, -, rfl⟩ | ⟨-, -, rfl, -⟩
    · omega
    · decide
    · decide
  have HP : Hid (∀ W, Calls Tryd.prog 19 #[numV k b e (tx ds), .int .i64 8, .int .i64 5, .int .i64 398] W fun x w' => ∃ v, x = .returned v ∧ HasN w' W.heap.size v (pkL 8 5 398 k b e ds) ∧ Below W.heap.size W w') := fun W => l10Bits_any k b e ds 8 5 398 W (by decide) (by decide) (by decide) h
  obtain ⟨f1, f2, f3⟩ := pkL_facts 8 5 398 k b e ds (by decide) h
  have HF : Hid ((pkL 8 5 398 k b e ds).length = 64 ∧ Bit (pkL 8 5 398 k b e ds) ∧ hbv (pkL 8 5 398 k b e ds) = pkW 8 5 398 k b e ds) := ⟨f1, f2, f3⟩
  clear h HC f1 f2 f3
  go_enter Tryd.func7, Tryd.ntmps7
  go_wp2_with fail
  refine (sNumOk_any 64 k b e (tx ds) _ hsz.out).mono ?_
  rintro x w1 ⟨rfl, hb1⟩
  rw [H.out]
  have HB1 : Hid (Below w.heap.size w w1) := HB.out.trans (hb1.mono (by simp))
  have c0 := (hb1.cell (p := ⟨w.heap.size, 0, none⟩) (by simp)).trans HC'.out.1
  have c1 := (hb1.cell (p := ⟨w.heap.size, 1, none⟩) (by simp)).trans HC'.out.2.1
  have c2 := (hb1.cell (p := ⟨w.heap.size, 2, none⟩) (by simp)).trans HC'.out.2.2.1
  have c3 := (hb1.cell (p := ⟨w.heap.size, 3, none⟩) (by simp)).trans HC'.out.2.2.2
  clear hb1
  go_wp2_with fail
  refine (HP.out _).mono ?_
  rintro x w2 ⟨v, rfl, hv, hb2⟩
  have HB2 : Hid (Below w.heap.size w w2) := HB1.out.trans (hb2.mono HB1.out.size)
  clear hb2
  go_wp2_with fail
  refine (l10Join_own v _ _ _ hv HF.out.2.1 (by rw [HF.out.1]; decide)).mono ?_
  rintro x w3 ⟨rfl, rfl⟩
  rw [HF.out.2.2]
  clear hv
  go_wp2
  go_ret2
  exact ⟨rfl, HB2.out⟩
/-- A Wide's value. -/
abbrev wideV (h l : Int) : Value := .agg #[.int .u64 h, .int .u64 l]
theorem results_wide {fn : Func} {p t : Tmp} {b : Nat} {x y : Value} (h : fn.results = #[.cell p 33, .tmp t]) (tmps : Array Value) (w : World) (hp : tmps[p]?.getD undef = .pointer (some ⟨b, 0, none⟩))
    (q0 : w.cell? ⟨b, 0, none⟩ = some x) (q1 : w.cell? ⟨b, 1, none⟩ = some y) : (results fn tmps).run Tryd.prog w = .ok (.tuple #[.agg #[x, y], tmps.getD t undef]) w := by
  simp [results, h, hp, go_sem, q0, q1]
theorem put2 {w : World} {b : Nat} {u v : Value} (c0 : w.cell? ⟨b, 0, none⟩ = some u) (c1 : w.cell? ⟨b, 1, none⟩ = some v) (x y : Value) :
    ((w.setCell ⟨b, 0, none⟩ x).setCell ⟨b, 1, none⟩ y).cell? ⟨b, 0, none⟩ = some x ∧ ((w.setCell ⟨b, 0, none⟩ x).setCell ⟨b, 1, none⟩ y).cell? ⟨b, 1, none⟩ = some y := by
  refine ⟨?_, ?_⟩
  · rw [World.cell?_setCell_other _ _ _ _ (by simp)]; exact World.cell?_setCell_same _ _ _ c0
  · exact World.cell?_setCell_same _ _ _ (u := v) (by rw [World.cell?_setCell_other _ _ _ _ (by simp)]; exact c1)
/-- A number's box and a Wide's behind it. -/
abbrev nbw (w : World) (k : Int) (b : Bool) (e : Int) (s : ByteArray) : World := (nbx w k b e s).alloc (.cells #[.int .u64 0, .int .u64 0] 33)
theorem nbw_cells (w : World) (k : Int) (b : Bool) (e : Int) (s : ByteArray) : (nbw w k b e s).cell? ⟨w.heap.size, 0, none⟩ = some (.int .i64 k) ∧ (nbw w k b e s).cell? ⟨w.heap.size, 1, none⟩ = some (.bool b) ∧ (nbw w k b e s).cell? ⟨w.heap.size, 2, none⟩ = some (.int .i64 e) ∧ (nbw w k b e s).cell? ⟨w.heap.size, 3, none⟩ = some (.string s) ∧ (nbw w k b e s).cell? ⟨w.heap.size + 1, 0, none⟩ = some (.int .u64 0) ∧ (nbw w k b e s).cell? ⟨w.heap.size + 1, 1, none⟩ = some (.int .u64 0) ∧ (nbw w k b e s).frozen? ⟨w.heap.size + 1, 0, none⟩ = false ∧ (nbw w k b e s).frozen? ⟨w.heap.size + 1, 1, none⟩ = false := by
  refine ⟨?_, ?_, ?_, ?_, ?_, ?_, ?_, ?_⟩ <;> simp [nbw, nbx]
theorem sPack128_no (k : Int) (b : Bool) (e : Int) (s : ByteArray) (w : World) (hs : s.size ≤ 4611686018427387904) (h : numB 128 k b e s = false) :
    Calls Tryd.prog 12 #[numV k b e s] w fun x w' => x = .returned (.tuple #[wideV 0 0, .bool false]) ∧ Below w.heap.size w w' := by
  have HB : Hid (Below w.heap.size w (nbw w k b e s)) := ((Below.refl _ _).alloc (Nat.le_refl _) _).alloc (by simp) _
  have HC' : Hid (_ ∧ _ ∧ _ ∧ _ ∧ _ ∧ _ ∧ _ ∧ _) := nbw_cells w k b e s
  have H : Hid (numB 128 k b e s = false) := h
  clear h
  go_enter Tryd.func12, Tryd.ntmps12
  go_wp2_with fail
  refine (sNumOk_any 128 k b e s _ hs).mono ?_
  rintro x w1 ⟨rfl, hb1⟩
  rw [H.out]
  have HB1 : Hid (Below w.heap.size w w1) := HB.out.trans (hb1.mono (by simp; omega))
  have c4 := (hb1.cell (p := ⟨w.heap.size + 1, 0, none⟩) (by simp)).trans HC'.out.2.2.2.2.1
  have c5 := (hb1.cell (p := ⟨w.heap.size + 1, 1, none⟩) (by simp)).trans HC'.out.2.2.2.2.2.1
  have c6 := (hb1.frozen (p := ⟨w.heap.size + 1, 0, none⟩) (by simp)).trans HC'.out.2.2.2.2.2.2.1
  have c7 := (hb1.frozen (p := ⟨w.heap.size + 1, 1, none⟩) (by simp)).trans HC'.out.2.2.2.2.2.2.2
  clear hb1
  go_wp2
  refine bodyPost_ret (results_wide (b := w.heap.size + 1) rfl _ _ rfl (put2 c4 c5 _ _).1 (put2 c4 c5 _ _).2) rfl ?_
  · exact ⟨rfl, (HB1.out.setCell (by simp) _).setCell (by simp) _⟩
theorem Has.cap {w : World} {base g n cap : Nat} {zs : List Int} (h : Has w base (.slice (some ⟨g, 0, none⟩) n cap) zs) : zs.length ≤ cap ∧ cap ≤ 9223372036854775807 := by
  obtain ⟨hl, h⟩ := h
  rcases h with ⟨e, -⟩ | ⟨g', cap', cur, e, hg, hc, hn, hm, hs, ht⟩
  · cases e
  · cases e
    unfold maxLen at hm
    exact ⟨hn, by omega⟩
theorem hb_halves (L : List Int) (hl : L.length = 128) (hB : Bit L) : hb L 0 64 = hbv L / 18446744073709551616 ∧ hb L 64 64 = hbv L % 18446744073709551616 := by
  have e : hbv L = hb L 0 64 * 2 ^ 64 + hb L (0 + 64) 64 := by unfold hbv; rw [hl]; exact hb_split L 0 64 64
  have b := hb_bd L hB 64 64
  rw [Nat.zero_add, show (2 : Int) ^ 64 = 18446744073709551616 by decide] at e
  rw [show (2 : Int) ^ 64 = 18446744073709551616 by decide] at b
  omega
set_option maxRecDepth 100000 in
set_option maxHeartbeats 2000000 in
theorem sPack128_yes (k : Int) (b : Bool) (e : Int) (ds : List Int) (w : World) (h : Rt 12 11 6176 k b e ds) :
    Calls Tryd.prog 12 #[numV k b e (tx ds)] w fun x w' => x = .returned (.tuple #[wideV (pkW 12 11 6176 k b e ds / 18446744073709551616) (pkW 12 11 6176 k b e ds % 18446744073709551616), .bool true]) ∧ Below w.heap.size w w' := by
  have HB : Hid (Below w.heap.size w (nbw w k b e (tx ds))) := ((Below.refl _ _).alloc (Nat.le_refl _) _).alloc (by simp) _
  have HC' : Hid (_ ∧ _ ∧ _ ∧ _ ∧ _ ∧ _ ∧ _ ∧ _) := nbw_cells w k b e (tx ds)
  have H : Hid (numB 128 k b e (tx ds) = true) := right_numB 128 k b e ds 12 11 6176 (.inr ⟨rfl, rfl, rfl, rfl⟩) h
  have hsz : Hid ((tx ds).size ≤ 4611686018427387904) := by
    rw [Hid, tx_size]
    rcases h with ⟨-, -, hl, -⟩ | ⟨-, -, rfl⟩ | ⟨-, -, rfl, -⟩
    · omega
    · decide
    · decide
  have HP : Hid (∀ W, Calls Tryd.prog 19 #[numV k b e (tx ds), .int .i64 12, .int .i64 11, .int .i64 6176] W fun x w' => ∃ v, x = .returned v ∧ HasN w' W.heap.size v (pkL 12 11 6176 k b e ds) ∧ Below W.heap.size W w') := fun W => l10Bits_any k b e ds 12 11 6176 W (by decide) (by decide) (by decide) h
  obtain ⟨f1, f2, f3⟩ := pkL_facts 12 11 6176 k b e ds (by decide) h
  have f4 := hb_halves _ f1 f2
  rw [f3] at f4
  have HF : Hid ((pkL 12 11 6176 k b e ds).length = 128 ∧ Bit (pkL 12 11 6176 k b e ds) ∧ hb (pkL 12 11 6176 k b e ds) 0 64 = pkW 12 11 6176 k b e ds / 18446744073709551616 ∧ hb (pkL 12 11 6176 k b e ds) 64 64 = pkW 12 11 6176 k b e ds % 18446744073709551616) := ⟨f1, f2, f4.1, f4.2⟩
  clear h f1 f2 f3 f4
  generalize pkL 12 11 6176 k b e ds = L at *
  rw [← HF.out.2.2.1, ← HF.out.2.2.2]
  go_enter Tryd.func12, Tryd.ntmps12
  go_wp2_with fail
  refine (sNumOk_any 128 k b e (tx ds) _ hsz.out).mono ?_
  rintro x w1 ⟨rfl, hb1⟩
  rw [H.out]
  have hs1 : w.heap.size + 2 ≤ w1.heap.size := by have := hb1.size; simpa using this
  have HB1 : Hid (Below w.heap.size w w1) := HB.out.trans (hb1.mono (by simp; omega))
  have c0 := (hb1.cell (p := ⟨w.heap.size, 0, none⟩) (by simp; omega)).trans HC'.out.1
  have c1 := (hb1.cell (p := ⟨w.heap.size, 1, none⟩) (by simp; omega)).trans HC'.out.2.1
  have c2 := (hb1.cell (p := ⟨w.heap.size, 2, none⟩) (by simp; omega)).trans HC'.out.2.2.1
  have c3 := (hb1.cell (p := ⟨w.heap.size, 3, none⟩) (by simp; omega)).trans HC'.out.2.2.2.1
  have C4 : Hid (_ = _) := (hb1.cell (p := ⟨w.heap.size + 1, 0, none⟩) (by simp)).trans HC'.out.2.2.2.2.1
  have C5 : Hid (_ = _) := (hb1.cell (p := ⟨w.heap.size + 1, 1, none⟩) (by simp)).trans HC'.out.2.2.2.2.2.1
  have C6 : Hid (_ = _) := (hb1.frozen (p := ⟨w.heap.size + 1, 0, none⟩) (by simp)).trans HC'.out.2.2.2.2.2.2.1
  have C7 : Hid (_ = _) := (hb1.frozen (p := ⟨w.heap.size + 1, 1, none⟩) (by simp)).trans HC'.out.2.2.2.2.2.2.2
  clear hb1
  go_wp2_with fail
  refine (HP.out _).mono ?_
  rintro x w2 ⟨v, rfl, hv, hb2⟩
  have HB2 : Hid (Below w.heap.size w w2) := HB1.out.trans (hb2.mono HB1.out.size)
  have c4 : w2.cell? ⟨w.heap.size + 1, 0, none⟩ = _ := (hb2.cell (p := ⟨w.heap.size + 1, 0, none⟩) (by simp; omega)).trans C4.out
  have c5 : w2.cell? ⟨w.heap.size + 1, 1, none⟩ = _ := (hb2.cell (p := ⟨w.heap.size + 1, 1, none⟩) (by simp; omega)).trans C5.out
  have c6 : w2.frozen? ⟨w.heap.size + 1, 0, none⟩ = _ := (hb2.frozen (p := ⟨w.heap.size + 1, 0, none⟩) (by simp; omega)).trans C6.out
  have c7 : w2.frozen? ⟨w.heap.size + 1, 1, none⟩ = _ := (hb2.frozen (p := ⟨w.heap.size + 1, 1, none⟩) (by simp; omega)).trans C7.out
  obtain ⟨g, cap, rfl, -, -, hc⟩ := hv.form
  have hcap := hv.1.cap
  rw [HF.out.1] at hc hcap ⊢
  have JJ : Hid (∀ o cc, o ≤ 64 → Calls Tryd.prog 18 #[.slice (some ⟨g, o, none⟩) 64 cc] w2.drew fun e w' => e = .returned (.int .u64 (hb L o 64)) ∧ w' = w2.drew) := fun o cc ho => l10Join_at g o 64 cc o L w2.drew (by decide) HF.out.2.1 (fun i hi => hc (o + i) (by omega))
  have hcc1 : ¬ ((cap : Int) < 64) := by omega
  have hcc2 : ¬ cap = 64 := by omega
  clear hb2 hv hc c0 c1 c2 c3 HF hcap
  go_wp2
  go_region_held3 (fun _ => True) (trivial) (first | (go_at_call 18; refine (JJ.out _ _ (by decide)).mono ?_; rintro e w' ⟨rfl, rfl⟩))
  all_goals
    go_wp2
    refine bodyPost_ret (results_wide (b := w.heap.size + 1) rfl _ _ rfl (put2 (w := w2.drew) c4 c5 _ _).1 (put2 (w := w2.drew) c4 c5 _ _).2) rfl ?_
    exact ⟨rfl, (HB2.out.drew.setCell (by simp) _).setCell (by simp) _⟩
end Go.Proofs.YtmjkpjmccdjkjadDoor
