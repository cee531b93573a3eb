/-
  Mul of the model at any arguments, walked.
-/
import Derived.Test.YteofommckgeemaaGreatDoorSps
import Derived.Test.YteofommckgeemaaGreatDoorSpe
import Derived.Test.YteofommckgeemaaGreatDoorNatS
import Derived.Shelf.Abstract
import Derived.Deep.CutBlock
import Derived.Deep.DeepCutAuto
import Derived.Deep.LoopGhost
import Derived.Great.Walk
import Derived.Laws.CopyOwn
import Derived.Laws.Tables
import Derived.Test.YteofommckgeemaaGreatDoorRows
import Derived.WalkKit
import Derived.Test.YteofommckgeemaaGreatDoorFinP
import Derived.Test.YteofommckgeemaaGreatDoorFmt
import Derived.Test.YteofommckgeemaaGreatDoorSl
import Derived.Test.YteofommckgeemaaGreatDoorFinA
import Derived.OpenShut
import Derived.Test.YteofommckgeemaaGreatDoorSpa
import Derived.Test.YteofommckgeemaaGreatDoorQtl
import Derived.Test.YteofommckgeemaaGreatDoorTxtM

namespace Go.Proofs.YteofommckgeemaaGreatDoor
open Go.RowKit
set_option linter.unusedVariables false
set_option maxRecDepth 100000
theorem prR_turn (f mode : Int) (nx ny : Bool) (T : Bool × Int × Int) (want : Int) : prR f mode nx ny T want = prR f mode ny nx T want := by
  unfold prR
  by_cases h : nx = ny
  · subst h; rfl
  · have e : (T.2.2 = 0 ∧ nx ≠ ny) ↔ (T.2.2 = 0 ∧ ny ≠ nx) := ⟨fun q => ⟨q.1, fun c => h c.symm⟩, fun q => ⟨q.1, h⟩⟩
    simp only [e]
theorem limP_nat (f : Int) (hf : f = 64 ∨ f = 128) : ∃ P : Nat, limP f = (P : Int) ∧ 1 ≤ P ∧ P ≤ 34 := by
  rcases hf with rfl | rfl
  · exact ⟨16, rfl, by decide, by decide⟩
  · exact ⟨34, rfl, by decide, by decide⟩
theorem pair_same (f mode : Int) (hf : f = 64 ∨ f = 128) (nx : Bool) (ex : Int) (dx : List Int) (ny : Bool) (ey : Int) (dy : List Int) (cx : Canon dx) (zx : dx ≠ [0]) (cy : Canon dy) (zy : dy ≠ [0]) (hl : dx.length + dy.length ≤ 102) (hge : ¬ ex < ey) :
    prR f mode nx ny (sgT (limP f) nx ex (vl dx) ny ey (vl dy)) ey = (if (dx.length : Int) + ex < (dy.length : Int) + ey then sumY f mode ny ey dy nx ex dx ey else sumY f mode nx ex dx ny ey dy ey) := by
  obtain ⟨P, hP, hP1, hP2⟩ := limP_nat f hf
  have hxl := cx.2.1
  have hyl := cy.2.1
  have hsz : (tn (vl dy)).size = dy.length := tn_vl dy cy (by omega)
  unfold sgT
  by_cases hfar : ey + (dy.length : Int) ≤ ex - P - 1
  · have eF : sgF (limP f) ex (vl dy) ey = true := by unfold sgF farB; rw [hsz, hP]; exact decide_eq_true hfar
    have eE : sgE (limP f) ex (vl dy) ey = ex - P - 1 := by unfold sgE; rw [eF, if_pos rfl, hP]
    have eY : sgY (limP f) ex (vl dy) ey = 1 := by unfold sgY; rw [eF, if_pos rfl]
    have eX : sgX (limP f) ex (vl dx) (vl dy) ey = vl dx * 10 ^ (P + 1) := by unfold sgX; rw [eE, show (ex - (ex - (P : Int) - 1)).toNat = P + 1 by omega]
    rw [eE, eY, eX, if_neg (by omega)]
    exact far_same f mode P hP hP1 hP2 nx ex dx ny ey dy cx zx cy zy hl hfar
  · have eF : sgF (limP f) ex (vl dy) ey = false := by unfold sgF farB; rw [hsz, hP]; exact decide_eq_false hfar
    have eE : sgE (limP f) ex (vl dy) ey = ey := by unfold sgE; rw [eF]; rfl
    have eY : sgY (limP f) ex (vl dy) ey = vl dy := by unfold sgY; rw [eF]; rfl
    have eX : sgX (limP f) ex (vl dx) (vl dy) ey = vl dx * 10 ^ (ex - ey).toNat := by unfold sgX; rw [eE]
    have vx := vl_pos dx cx zx
    have vy := vl_pos dy cy zy
    have h1 : ¬ 180 < (dx.length : Int) + ex - ey := by omega
    have h2 : ¬ 180 < (dy.length : Int) + ey - ey := by omega
    have hX1 : 1 ≤ vl dx * 10 ^ (ex - ey).toNat := by
      have p := ten_pos (ex - ey).toNat
      have := Int.mul_le_mul_of_nonneg_right vx (Int.le_of_lt p)
      omega
    have key : prR f mode nx ny (esN nx (vl dx * 10 ^ (ex - ey).toNat) ny (vl dy), ey, esV nx (vl dx * 10 ^ (ex - ey).toNat) ny (vl dy)) ey = sumY f mode nx ex dx ny ey dy ey := by
      rw [near_same f mode nx _ ny (vl dy) ey hX1 vy, sumY_near f mode nx ex dx ny ey dy ey h1, show (ey - ey).toNat = 0 by omega, Int.pow_zero, Int.mul_one]
    rw [eE, eY, eX, key]
    split
    · exact sumY_turn f mode nx ex dx ny ey dy ey h1 h2
    · rfl
theorem sum_same (f mode : Int) (hf : f = 64 ∨ f = 128) (na : Bool) (ea : Int) (da : List Int) (nb : Bool) (eb : Int) (db : List Int) (ca : Canon da) (cb : Canon db) (hl : da.length + db.length ≤ 102) :
    (fsN f mode na ea (vl da) nb eb (vl db), fsR f mode na ea (vl da) nb eb (vl db)) = sumX f mode na ea da nb eb db := by
  have hal := ca.2.1
  have hbl := cb.2.1
  show prR f mode na nb (sfT (limP f) na ea (vl da) nb eb (vl db)) (min ea eb) = _
  unfold sumX
  by_cases za : da = [0]
  · have v0 : vl da = 0 := by rw [za]; rfl
    have e1 : sfT (limP f) na ea (vl da) nb eb (vl db) = (nb, eb, vl db) := by unfold sfT; rw [v0, if_pos rfl]
    rw [e1]
    by_cases zb : db = [0]
    · rw [if_pos ⟨za, zb⟩]
      have w0 : vl db = 0 := by rw [zb]; rfl
      unfold prR
      rw [w0, nt_0]
      by_cases hn : na = nb
      · subst hn
        simp only [ne_eq, not_true, and_false, if_false, if_true]
        rw [finD_0 f mode na eb (min ea eb) false false]
      · rw [if_pos (show (nb, eb, (0 : Int)).2.2 = 0 ∧ na ≠ nb from ⟨rfl, hn⟩), if_neg hn]
        rw [finD_0 f mode (decide (mode = 3)) eb (min ea eb) false false]
    · rw [if_neg (fun q => zb q.2), if_pos za]
      have w0 := vl_pos db cb zb
      unfold prR
      rw [if_neg (fun q => by have : vl db = 0 := q.1; omega)]
      simp only []
      rw [nt_vl db cb (by omega)]
  · rw [if_neg (fun q => za q.1), if_neg za]
    have v0 := vl_pos da ca za
    by_cases zb : db = [0]
    · rw [if_pos zb]
      have w0 : vl db = 0 := by rw [zb]; rfl
      have e1 : sfT (limP f) na ea (vl da) nb eb (vl db) = (na, ea, vl da) := by unfold sfT; rw [if_neg (by omega), w0, if_pos rfl]
      rw [e1]
      unfold prR
      rw [if_neg (fun q => by have : vl da = 0 := q.1; omega)]
      simp only []
      rw [nt_vl da ca (by omega)]
    · rw [if_neg zb]
      have w0 := vl_pos db cb zb
      by_cases hlt : ea < eb
      · have e1 : sfT (limP f) na ea (vl da) nb eb (vl db) = sgT (limP f) nb eb (vl db) na ea (vl da) := by unfold sfT; rw [if_neg (by omega), if_neg (by omega), if_pos hlt]
        rw [e1, show min ea eb = ea by omega, prR_turn, pair_same f mode hf nb eb db na ea da cb zb ca za (by omega) (by omega)]
        by_cases c1 : (da.length : Int) + ea < (db.length : Int) + eb
        · rw [if_pos c1, if_neg (by omega)]
        · rw [if_neg c1]
          by_cases c2 : (db.length : Int) + eb < (da.length : Int) + ea
          · rw [if_pos c2]
          · rw [if_neg c2]
            exact sumY_turn f mode nb eb db na ea da ea (by omega) (by omega)
      · have e1 : sfT (limP f) na ea (vl da) nb eb (vl db) = sgT (limP f) na ea (vl da) nb eb (vl db) := by unfold sfT; rw [if_neg (by omega), if_neg (by omega), if_neg hlt]
        rw [e1, show min ea eb = eb by omega, pair_same f mode hf na ea da nb eb db ca za cb zb hl hlt]
end Go.Proofs.YteofommckgeemaaGreatDoor

namespace Go.Proofs.YteofommckgeemaaGreatDoor
open Go.RowKit
set_option linter.unusedVariables false
set_option maxRecDepth 100000
theorem dl_empty (s : ByteArray) (h : s.size = 0) : s = tx (dl s) ∧ dl s = [] := by
  have e : s = { data := #[] } := by
    apply ByteArray.ext
    exact Array.eq_empty_of_size_eq_zero h
  subst e
  exact ⟨by apply ByteArray.ext; rw [tx_data]; rfl, rfl⟩
/-- A right number that is no NaN. -/
theorem right_two (f k : Int) (b : Bool) (e : Int) (s : ByteArray) (h : numB f k b e s = true) (h3 : k ≠ 3) (h4 : k ≠ 4) :
    (f = 64 ∨ f = 128) ∧ s = tx (dl s) ∧ (k = 1 ∨ k = 2) ∧ (k = 1 → Canon (dl s) ∧ ((dl s).length : Int) ≤ limP f ∧ limL f ≤ e ∧ e ≤ limH f) := by
  unfold numB at h
  by_cases h0 : limP f = 0
  · rw [if_pos h0] at h; cases h
  rw [if_neg h0] at h
  have hf : f = 64 ∨ f = 128 := by
    unfold limP at h0
    by_cases c : f = 64
    · exact .inl c
    · rw [if_neg c] at h0
      by_cases c2 : f = 128
      · exact .inr c2
      · rw [if_neg c2] at h0; exact absurd rfl h0
  by_cases h1 : k = 1
  · subst h1
    rw [if_pos rfl] at h
    simp only [Bool.and_eq_true, decide_eq_true_eq] at h
    obtain ⟨hn, hl, hh⟩ := h
    obtain ⟨hc, hlen, he⟩ := natB_dl (limP f) s hn
    exact ⟨hf, he, .inl rfl, fun _ => ⟨hc, hlen, hl, hh⟩⟩
  · rw [if_neg h1] at h
    by_cases h2 : k = 2
    · subst h2
      rw [if_pos rfl] at h
      simp only [Bool.and_eq_true] at h
      have hs : s.size = 0 := by
        have := h.2
        rw [ByteArray.toList_eq, List.isEmpty_iff] at this
        show s.data.size = 0
        rw [← Array.length_toList, this]; rfl
      exact ⟨hf, (dl_empty s hs).1, .inr rfl, fun c => by cases c⟩
    · rw [if_neg h2, if_neg (fun c => c.elim h3 h4)] at h
      cases h
end Go.Proofs.YteofommckgeemaaGreatDoor

namespace Go.Proofs.YteofommckgeemaaGreatDoor
open Go.RowKit
set_option linter.unusedVariables false
set_option maxRecDepth 100000
/-- A right infinity. -/
theorem right_inf (f : Int) (b : Bool) (e : Int) (s : ByteArray) (h : numB f 2 b e s = true) : e = 0 ∧ s = { data := #[] } := by
  unfold numB at h
  by_cases h0 : limP f = 0
  · rw [if_pos h0] at h; cases h
  rw [if_neg h0, if_neg (by decide), if_pos rfl] at h
  simp only [Bool.and_eq_true, decide_eq_true_eq] at h
  refine ⟨h.1, ?_⟩
  have hs : s.size = 0 := by
    have := h.2
    rw [ByteArray.toList_eq, List.isEmpty_iff] at this
    show s.data.size = 0
    rw [← Array.length_toList, this]; rfl
  apply ByteArray.ext
  exact Array.eq_empty_of_size_eq_zero hs
/-- What finishedSum tells of two right numbers that are no NaNs. -/
theorem fs_any (f mode : Int) (hmo : 1 ≤ mode ∧ mode ≤ 5) (ka : Int) (na : Bool) (ea : Int) (sa : ByteArray) (kb : Int) (nb : Bool) (eb : Int) (sb : ByteArray) (hA : numB f ka na ea sa = true) (hB : numB f kb nb eb sb = true) (a3 : ka ≠ 3) (a4 : ka ≠ 4) (b3 : kb ≠ 3) (b4 : kb ≠ 4) (w : World) :
    Calls Tryz.prog 76 #[.int .i64 f, .int .i64 mode, numV ka na ea sa, numV kb nb eb sb] w fun x w' => (x = .returned (rsD (addX f mode ka na ea (dl sa) kb nb eb (dl sb)).1 (addX f mode ka na ea (dl sa) kb nb eb (dl sb)).2) ∨ x = thrown (rsD (addX f mode ka na ea (dl sa) kb nb eb (dl sb)).1 (addX f mode ka na ea (dl sa) kb nb eb (dl sb)).2)) ∧ Below w.heap.size w w' := by
  obtain ⟨hf, ea1, ka1, ca⟩ := right_two f ka na ea sa hA a3 a4
  obtain ⟨-, eb1, kb1, cb⟩ := right_two f kb nb eb sb hB b3 b4
  have hL := lims f hf
  rcases ka1 with rfl | rfl
  · rcases kb1 with rfl | rfl
    · obtain ⟨c1, l1, x1, y1⟩ := ca rfl
      obtain ⟨c2, l2, x2, y2⟩ := cb rfl
      have v1 := vl_bd (dl sa) c1.1
      have v2 := vl_bd (dl sb) c2.1
      have h1 := c1.2.1
      have h2 := c2.2.1
      have := finishedSum_fin f mode hf hmo na ea (vl (dl sa)) nb eb (vl (dl sb)) (dl sa).length (dl sb).length w v1.1 v1.2 v2.1 v2.2 h1 h2 (by omega) (by omega) (by omega)
      rw [tn_tx, tn_tx, nt_vl _ c1 (by omega), nt_vl _ c2 (by omega), ← ea1, ← eb1] at this
      have es := sum_same f mode hf na ea (dl sa) nb eb (dl sb) c1 c2 (by omega)
      have ex : addX f mode 1 na ea (dl sa) 1 nb eb (dl sb) = sumX f mode na ea (dl sa) nb eb (dl sb) := by
        unfold addX
        rw [if_neg (fun q => absurd q.1 (by decide)), if_neg (by decide), if_neg (by decide)]
      rw [ex, ← es]
      dsimp only
      exact this.mono fun x w' h => ⟨.inl h.1, h.2⟩
    · obtain ⟨z1, z2⟩ := right_inf f nb eb sb hB
      have ex : addX f mode 1 na ea (dl sa) 2 nb eb (dl sb) = (nb, (2, 0, { data := #[] }, 0)) := by
        unfold addX
        rw [if_neg (fun q => absurd q.1 (by decide)), if_neg (by decide), if_pos rfl]
      rw [ex, z1, z2]
      exact (finishedSum_thrown f mode 1 na ea sa 2 nb 0 { data := #[] } w (rsV 2 nb 0 { data := #[] } 0) (by simp [tiE, tiX, tiA, tw2])).mono fun x w' h => ⟨.inr h.1, h.2⟩
  · obtain ⟨z1, z2⟩ := right_inf f na ea sa hA
    rcases kb1 with rfl | rfl
    · have ex : addX f mode 2 na ea (dl sa) 1 nb eb (dl sb) = (na, (2, 0, { data := #[] }, 0)) := by
        unfold addX
        rw [if_neg (fun q => absurd q.2.1 (by decide)), if_pos rfl]
      rw [ex, z1, z2]
      exact (finishedSum_thrown f mode 2 na 0 { data := #[] } 1 nb eb sb w (rsV 2 na 0 { data := #[] } 0) (by simp [tiE, tiX, tiA, tw2])).mono fun x w' h => ⟨.inr h.1, h.2⟩
    · obtain ⟨y1, y2⟩ := right_inf f nb eb sb hB
      by_cases hn : na = nb
      · subst hn
        have ex : addX f mode 2 na ea (dl sa) 2 na eb (dl sb) = (na, (2, 0, { data := #[] }, 0)) := by
          unfold addX
          rw [if_neg (fun q => q.2.2 rfl), if_pos rfl]
        rw [ex, z1, z2, y1, y2]
        exact (finishedSum_thrown f mode 2 na 0 { data := #[] } 2 na 0 { data := #[] } w (rsV 2 na 0 { data := #[] } 0) (by simp [tiE, tiX, tiA, tw2])).mono fun x w' h => ⟨.inr h.1, h.2⟩
      · have ex : addX f mode 2 na ea (dl sa) 2 nb eb (dl sb) = (false, (3, 0, { data := #[] }, 1)) := by
          unfold addX
          rw [if_pos ⟨rfl, rfl, hn⟩]
        rw [ex, z1, z2, y1, y2]
        exact (finishedSum_thrown f mode 2 na 0 { data := #[] } 2 nb 0 { data := #[] } w (rsV 3 false 0 { data := #[] } 1) (by simp [tiE, tiX, tiA, tw2, hn])).mono fun x w' h => ⟨.inr h.1, h.2⟩
/-- What the operations' closures see: format, mode, two numbers. -/
def Cap (X : World) (p : Nat) (f mode : Int) (ka : Int) (na : Bool) (ea : Int) (sa : ByteArray) (kb : Int) (nb : Bool) (eb : Int) (sb : ByteArray) : Prop :=
  X.cell? ⟨p, 0, none⟩ = some (.int .i64 f) ∧ X.cell? ⟨p + 1, 0, none⟩ = some (.int .i64 mode) ∧ At4r X (p + 2) (.int .i64 ka) (.bool na) (.int .i64 ea) (.string sa) ∧ At4r X (p + 3) (.int .i64 kb) (.bool nb) (.int .i64 eb) (.string sb)
theorem Cap.next {X X' : World} {p : Nat} {f mode : Int} {ka : Int} {na : Bool} {ea : Int} {sa : ByteArray} {kb : Int} {nb : Bool} {eb : Int} {sb : ByteArray} (h : Cap X p f mode ka na ea sa kb nb eb sb) (hb : Below X.heap.size X X') : Cap X' p f mode ka na ea sa kb nb eb sb := by
  have l3 := h.2.2.2.lt
  exact ⟨(hb.cell (p := ⟨p, 0, none⟩) (show p < X.heap.size by omega)).trans h.1, (hb.cell (p := ⟨p + 1, 0, none⟩) (show p + 1 < X.heap.size by omega)).trans h.2.1, h.2.2.1.next hb, h.2.2.2.next hb⟩
theorem right_ok (f mode : Int) (ka : Int) (na : Bool) (ea : Int) (sa : ByteArray) (kb : Int) (nb : Bool) (eb : Int) (sb : ByteArray) : rightB f mode 2 (tw2 ka kb) (tw2 na nb) (tw2 ea eb) (tw2 sa sb) = addO f mode ka na ea sa kb nb eb sb := by
  unfold rightB addO
  rw [okB2 (fun i => numB f (tw2 ka kb i) (tw2 na nb i) (tw2 ea eb i) (tw2 sa sb i))]
  rfl
set_option maxRecDepth 100000 in
set_option maxHeartbeats 1000000 in
theorem add1_any (p : Nat) (f mode : Int) (ka : Int) (na : Bool) (ea : Int) (sa : ByteArray) (kb : Int) (nb : Bool) (eb : Int) (sb : ByteArray) (X : World) (hsa : sa.size ≤ 4611686018427387904) (hsb : sb.size ≤ 4611686018427387904) (hC : Cap X p f mode ka na ea sa kb nb eb sb) :
    Calls Tryz.prog 74 #[.pointer (some ⟨p, 0, none⟩), .pointer (some ⟨p + 1, 0, none⟩), .pointer (some ⟨p + 2, 0, none⟩), .pointer (some ⟨p + 3, 0, none⟩)] X fun x w' => (x = .returned (rsD (addR f mode ka na ea sa kb nb eb sb).1 (addR f mode ka na ea sa kb nb eb sb).2) ∨ x = thrown (rsD (addR f mode ka na ea sa kb nb eb sb).1 (addR f mode ka na ea sa kb nb eb sb).2)) ∧ Below X.heap.size X w' := by
  obtain ⟨R, hR⟩ : ∃ R, addR f mode ka na ea sa kb nb eb sb = R := ⟨_, rfl⟩
  have HR : Hid (addR f mode ka na ea sa kb nb eb sb = R) := hR
  rw [hR]
  clear hR
  have HZ : Hid (At5 (X.alloc (.cells #[.int .i64 0, .bool false, .int .i64 0, .string { data := #[] }, .int .i64 0] 90)) X.heap.size (.int .i64 0) (.bool false) (.int .i64 0) (.string { data := #[] }) (.int .i64 0) ∧ Below X.heap.size X (X.alloc (.cells #[.int .i64 0, .bool false, .int .i64 0, .string { data := #[] }, .int .i64 0] 90)) ∧ Cap (X.alloc (.cells #[.int .i64 0, .bool false, .int .i64 0, .string { data := #[] }, .int .i64 0] 90)) p f mode ka na ea sa kb nb eb sb) := ⟨at5_new X _ _ _ _ _, (Below.refl _ _).alloc (Nat.le_refl _) _, hC.next ((Below.refl _ _).alloc (Nat.le_refl _) _)⟩
  obtain ⟨q0, q1, qa, qb⟩ := HZ.out.2.2
  obtain ⟨a0, a1, a2, a3, a4⟩ := qa.cells
  obtain ⟨c0, c1, c2, c3, c4⟩ := qb.cells
  clear qa qb
  have hzz := new_size X (.cells #[.int .i64 0, .bool false, .int .i64 0, .string { data := #[] }, .int .i64 0] 90)
  have HRw : Hid (NRw (rowW (X.alloc (.cells #[.int .i64 0, .bool false, .int .i64 0, .string { data := #[] }, .int .i64 0] 90)) ka na ea sa kb nb eb sb) (X.alloc (.cells #[.int .i64 0, .bool false, .int .i64 0, .string { data := #[] }, .int .i64 0] 90)).heap.size 2 (tw2 ka kb) (tw2 na nb) (tw2 ea eb) (tw2 sa sb) ∧ (X.alloc (.cells #[.int .i64 0, .bool false, .int .i64 0, .string { data := #[] }, .int .i64 0] 90)).heap.size < (rowW (X.alloc (.cells #[.int .i64 0, .bool false, .int .i64 0, .string { data := #[] }, .int .i64 0] 90)) ka na ea sa kb nb eb sb).heap.size) := row_new _ ka na ea sa kb nb eb sb
  rw [hzz] at HRw
  have HZr : Hid (At5 (rowW (X.alloc (.cells #[.int .i64 0, .bool false, .int .i64 0, .string { data := #[] }, .int .i64 0] 90)) ka na ea sa kb nb eb sb) X.heap.size (.int .i64 0) (.bool false) (.int .i64 0) (.string { data := #[] }) (.int .i64 0) ∧ Below X.heap.size X (rowW (X.alloc (.cells #[.int .i64 0, .bool false, .int .i64 0, .string { data := #[] }, .int .i64 0] 90)) ka na ea sa kb nb eb sb) ∧ Cap (rowW (X.alloc (.cells #[.int .i64 0, .bool false, .int .i64 0, .string { data := #[] }, .int .i64 0] 90)) ka na ea sa kb nb eb sb) p f mode ka na ea sa kb nb eb sb) := by
    have hb : Below (X.alloc (.cells #[.int .i64 0, .bool false, .int .i64 0, .string { data := #[] }, .int .i64 0] 90)).heap.size (X.alloc (.cells #[.int .i64 0, .bool false, .int .i64 0, .string { data := #[] }, .int .i64 0] 90)) (rowW (X.alloc (.cells #[.int .i64 0, .bool false, .int .i64 0, .string { data := #[] }, .int .i64 0] 90)) ka na ea sa kb nb eb sb) := (Below.refl _ _).alloc (Nat.le_refl _) _
    exact ⟨HZ.out.1.below hb HZ.out.1.lt, HZ.out.2.1.trans (hb.mono HZ.out.2.1.size), HZ.out.2.2.next hb⟩
  have HTs : Hid (∀ Y, NRw Y (X.heap.size + 1) 2 (tw2 ka kb) (tw2 na nb) (tw2 ea eb) (tw2 sa sb) → X.heap.size + 1 < Y.heap.size → Calls Tryz.prog 75 #[.int .i64 f, .int .i64 mode, .slice (some ⟨X.heap.size + 1, 0, none⟩) 2 2] Y fun x w' => x = tsE f mode 2 (tw2 ka kb) (tw2 na nb) (tw2 ea eb) (tw2 sa sb) ∧ Below Y.heap.size Y w') := fun Y h1 h2 => throwSpecials_any f mode 2 (X.heap.size + 1) _ _ _ _ Y (by decide) (by decide) h2 h1 (fun i hi => by match i, hi with
      | 0, _ => exact hsa
      | 1, _ => exact hsb)
  unfold tsE at HTs
  rw [right_ok] at HTs
  clear hC HZ hzz
  cases hO : addO f mode ka na ea sa kb nb eb sb with
  | false =>
    have ER : Hid (R = (false, (0, 0, { data := #[] }, 0))) := by show _ = _; rw [← HR.out]; unfold addR; rw [hO]; rfl
    rw [hO] at HTs
    simp only [Bool.false_eq_true, if_false] at HTs
    clear hO HR hsa hsb
    go_enter Tryz.func74, Tryz.ntmps74
    go_wp2_with fail
    refine (HTs.out _ HRw.out.1 HRw.out.2).mono ?_
    rintro x w1 ⟨rfl, hb1⟩
    go_wp2
    exact ⟨rfl, .inr (by rw [ER.out]), HZr.out.2.1.trans (hb1.mono HZr.out.2.1.size)⟩
  | true =>
    rw [hO] at HTs
    simp only [if_true] at HTs
    cases hS : spB 2 (tw2 ka kb) with
    | true =>
      have ER : Hid (R = (false, (3, 0, { data := #[] }, spF 2 (tw2 ka kb)))) := by show _ = _; rw [← HR.out]; unfold addR; rw [hO, hS]; rfl
      rw [hS] at HTs
      simp only [if_true] at HTs
      generalize spF 2 (tw2 ka kb) = FL at *
      clear hO hS HR hsa hsb
      go_enter Tryz.func74, Tryz.ntmps74
      go_wp2_with fail
      refine (HTs.out _ HRw.out.1 HRw.out.2).mono ?_
      rintro x w1 ⟨rfl, hb1⟩
      go_wp2
      exact ⟨rfl, .inr (by rw [ER.out]), HZr.out.2.1.trans (hb1.mono HZr.out.2.1.size)⟩
    | false =>
      have ER : R = addX f mode ka na ea (dl sa) kb nb eb (dl sb) := by rw [← HR.out]; unfold addR; rw [hO, hS]; rfl
      rw [hS] at HTs
      simp only [Bool.false_eq_true, if_false] at HTs
      have hO2 := hO
      unfold addO at hO2
      simp only [Bool.and_eq_true, decide_eq_true_eq] at hO2
      obtain ⟨hmo, hA, hBn⟩ := hO2
      have hnan := of_decide_eq_false hS
      have n0 : ka ≠ 3 ∧ ka ≠ 4 := ⟨fun h => hnan ⟨0, by decide, .inl h⟩, fun h => hnan ⟨0, by decide, .inr h⟩⟩
      have n1 : kb ≠ 3 ∧ kb ≠ 4 := ⟨fun h => hnan ⟨1, by decide, .inl h⟩, fun h => hnan ⟨1, by decide, .inr h⟩⟩
      have HFs : Hid (∀ Y, Calls Tryz.prog 76 #[.int .i64 f, .int .i64 mode, numV ka na ea sa, numV kb nb eb sb] Y fun x w' => (x = .returned (rsD R.1 R.2) ∨ x = thrown (rsD R.1 R.2)) ∧ Below Y.heap.size Y w') := fun Y => by rw [ER]; exact fs_any f mode hmo ka na ea sa kb nb eb sb hA hBn n0.1 n0.2 n1.1 n1.2 Y
      clear hO hS HR hsa hsb ER hmo hA hBn hnan n0 n1
      obtain ⟨R0, F1, F2, F3, F4⟩ := R
      go_enter Tryz.func74, Tryz.ntmps74
      go_wp2_with fail
      refine (HTs.out _ HRw.out.1 HRw.out.2).mono ?_
      rintro x w1 ⟨rfl, hb1⟩
      have HZ1 : Hid (At5 w1 X.heap.size (.int .i64 0) (.bool false) (.int .i64 0) (.string { data := #[] }) (.int .i64 0) ∧ Below X.heap.size X w1 ∧ Cap w1 p f mode ka na ea sa kb nb eb sb) := ⟨HZr.out.1.below hb1 HZr.out.1.lt, HZr.out.2.1.trans (hb1.mono HZr.out.2.1.size), HZr.out.2.2.next hb1⟩
      clear hb1 HZr HTs HRw q0 q1 a0 a1 a2 a3 a4 c0 c1 c2 c3 c4
      obtain ⟨q0, q1, qa, qb⟩ := HZ1.out.2.2
      obtain ⟨a0, a1, a2, a3, a4⟩ := qa.cells
      obtain ⟨c0, c1, c2, c3, c4⟩ := qb.cells
      clear qa qb
      go_wp2_with fail
      refine (HFs.out _).mono ?_
      rintro x w2 ⟨rfl | rfl, hb2⟩
      · have HZ2 : Hid (At5 w2 X.heap.size (.int .i64 0) (.bool false) (.int .i64 0) (.string { data := #[] }) (.int .i64 0) ∧ Below X.heap.size X w2) := ⟨HZ1.out.1.below hb2 HZ1.out.1.lt, HZ1.out.2.1.trans (hb2.mono HZ1.out.2.1.size)⟩
        clear hb2 HZ1 HFs q0 q1 a0 a1 a2 a3 a4 c0 c1 c2 c3 c4
        go_wp2_with (refine wpList_store_row rfl 90 (.tmp 4) (.tmp 15) rfl X.heap.size #[.int .i64 F1, .bool R0, .int .i64 F2, .string F3, .int .i64 F4] rfl rfl _ _ HZ2.out.1 (by kernel_rfl) rfl (one5 _ _ _ _ _) ?_)
        have hP := (HZ2.out.1.row (.int .i64 F1) (.bool R0) (.int .i64 F2) (.string F3) (.int .i64 F4)).cells
        refine bodyPost_ret (results_res rfl _ _ rfl hP.1 hP.2.1 hP.2.2.1 hP.2.2.2.1 hP.2.2.2.2.1) rfl ?_
        exact ⟨.inl rfl, bel_row HZ2.out.2 (Nat.le_refl _) _⟩
      · have HB2 : Hid (Below X.heap.size X w2) := HZ1.out.2.1.trans (hb2.mono HZ1.out.2.1.size)
        clear hb2 HZ1 HFs q0 q1 a0 a1 a2 a3 a4 c0 c1 c2 c3 c4
        go_wp2
        exact ⟨rfl, .inr rfl, HB2.out⟩
end Go.Proofs.YteofommckgeemaaGreatDoor
namespace Go.Proofs.YteofommckgeemaaGreatDoor
open Go.RowKit
set_option linter.unusedVariables false
set_option maxRecDepth 100000
/-- The boxes of an operation on two numbers. -/
abbrev capW (w : World) (f mode : Int) (ka : Int) (na : Bool) (ea : Int) (sa : ByteArray) (kb : Int) (nb : Bool) (eb : Int) (sb : ByteArray) : World :=
  ((((w.alloc (.cells #[.int .i64 f] 2)).alloc (.cells #[.int .i64 mode] 2)).alloc (.cells #[.int .i64 ka, .bool na, .int .i64 ea, .string sa] 78)).alloc (.cells #[.int .i64 kb, .bool nb, .int .i64 eb, .string sb] 78)).alloc (.cells #[.int .i64 0, .bool false, .int .i64 0, .string { data := #[] }, .int .i64 0] 90)
theorem cap_new (w : World) (f mode : Int) (ka : Int) (na : Bool) (ea : Int) (sa : ByteArray) (kb : Int) (nb : Bool) (eb : Int) (sb : ByteArray) :
    Cap (capW w f mode ka na ea sa kb nb eb sb) w.heap.size f mode ka na ea sa kb nb eb sb ∧ At5 (capW w f mode ka na ea sa kb nb eb sb) (w.heap.size + 4) (.int .i64 0) (.bool false) (.int .i64 0) (.string { data := #[] }) (.int .i64 0) ∧ Below w.heap.size w (capW w f mode ka na ea sa kb nb eb sb) := by
  unfold capW
  have c1 := new_cell1 w (.int .i64 f) 2
  have z1 := new_size w (.cells #[.int .i64 f] 2)
  have b1 : Below w.heap.size w (w.alloc (.cells #[.int .i64 f] 2)) := (Below.refl _ _).alloc (Nat.le_refl _) _
  generalize w.alloc (.cells #[.int .i64 f] 2) = w1 at *
  have c2 := new_cell1 w1 (.int .i64 mode) 2
  have z2 := new_size w1 (.cells #[.int .i64 mode] 2)
  have b2 : Below w1.heap.size w1 (w1.alloc (.cells #[.int .i64 mode] 2)) := (Below.refl _ _).alloc (Nat.le_refl _) _
  have c1' := (b2.cell (p := ⟨w.heap.size, 0, none⟩) (show w.heap.size < w1.heap.size by omega)).trans c1
  generalize w1.alloc (.cells #[.int .i64 mode] 2) = w2 at *
  have h3 := su_new w2 ka na ea sa kb nb eb sb
  rw [z1] at c2
  have e2 : w2.heap.size = w.heap.size + 2 := by omega
  have hb2 : Below w.heap.size w w2 := b1.trans (b2.mono b1.size)
  have hb3 : Below w2.heap.size w2 (suW w2 ka na ea sa kb nb eb sb) := h3.2.2.2.1
  refine ⟨⟨(hb3.cell (p := ⟨w.heap.size, 0, none⟩) (show w.heap.size < w2.heap.size by omega)).trans c1', (hb3.cell (p := ⟨w.heap.size + 1, 0, none⟩) (show w.heap.size + 1 < w2.heap.size by omega)).trans c2, ?_, ?_⟩, ?_, hb2.trans (hb3.mono hb2.size)⟩
  · have := h3.at1; rw [e2] at this; exact this
  · have := h3.at2; rw [e2] at this; exact this
  · have := h3.2.2.1; rw [e2] at this; exact this
set_option maxRecDepth 100000 in
set_option maxHeartbeats 1000000 in
theorem iAdd_any (f mode : Int) (ka : Int) (na : Bool) (ea : Int) (sa : ByteArray) (kb : Int) (nb : Bool) (eb : Int) (sb : ByteArray) (w : World) (hsa : sa.size ≤ 4611686018427387904) (hsb : sb.size ≤ 4611686018427387904) :
    Calls Tryz.prog 28 #[.int .i64 f, .int .i64 mode, numV ka na ea sa, numV kb nb eb sb] w fun x w' => x = .returned (rsD (addR f mode ka na ea sa kb nb eb sb).1 (addR f mode ka na ea sa kb nb eb sb).2) ∧ Below w.heap.size w w' := by
  have hmf : ∀ (fn : Fn) (first cap : Array Value) (w : World), (Instr.makeFunc fn first cap).run Tryz.prog w = .ok (.func fn first cap) w := fun _ _ _ _ => rfl
  have HN : Hid (Cap (capW w f mode ka na ea sa kb nb eb sb) w.heap.size f mode ka na ea sa kb nb eb sb ∧ At5 (capW w f mode ka na ea sa kb nb eb sb) (w.heap.size + 4) (.int .i64 0) (.bool false) (.int .i64 0) (.string { data := #[] }) (.int .i64 0) ∧ Below w.heap.size w (capW w f mode ka na ea sa kb nb eb sb)) := cap_new w f mode ka na ea sa kb nb eb sb
  obtain ⟨R, hR⟩ : ∃ R, addR f mode ka na ea sa kb nb eb sb = R := ⟨_, rfl⟩
  have H1 : ∀ X, Cap X w.heap.size f mode ka na ea sa kb nb eb sb → Calls Tryz.prog 74 #[.pointer (some ⟨w.heap.size, 0, none⟩), .pointer (some ⟨w.heap.size + 1, 0, none⟩), .pointer (some ⟨w.heap.size + 2, 0, none⟩), .pointer (some ⟨w.heap.size + 3, 0, none⟩)] X fun x w' => (x = .returned (rsD R.1 R.2) ∨ x = thrown (rsD R.1 R.2)) ∧ Below X.heap.size X w' := fun X hC => by
    rw [← hR]; exact add1_any w.heap.size f mode ka na ea sa kb nb eb sb X hsa hsb hC
  rw [hR]
  obtain ⟨R0, F1, F2, F3, F4⟩ := R
  have HF : Hid (Calls Tryz.prog 73 #[.func (.func 74) #[] #[.pointer (some ⟨w.heap.size, 0, none⟩), .pointer (some ⟨w.heap.size + 1, 0, none⟩), .pointer (some ⟨w.heap.size + 1 + 1, 0, none⟩), .pointer (some ⟨w.heap.size + 1 + 1 + 1, 0, none⟩)]] (capW w f mode ka na ea sa kb nb eb sb) fun e w' => e = .returned (rsV F1 R0 F2 F3 F4) ∧ Below (capW w f mode ka na ea sa kb nb eb sb).heap.size (capW w f mode ka na ea sa kb nb eb sb) w') :=
    atFace_any 74 _ (enters_of Tryz.func74 (by kernel_rfl) rfl) F1 R0 F2 F3 F4 _ (fun X hX => H1 X (HN.out.1.next hX))
  clear hR H1 hsa hsb
  go_enter Tryz.func28, Tryz.ntmps28
  go_wp2_with fail
  refine HF.out.mono ?_
  rintro x w1 ⟨rfl, hb1⟩
  have HZ1 : Hid (At5 w1 (w.heap.size + 4) (.int .i64 0) (.bool false) (.int .i64 0) (.string { data := #[] }) (.int .i64 0) ∧ Below w.heap.size w w1) := ⟨HN.out.2.1.below hb1 HN.out.2.1.lt, HN.out.2.2.trans (hb1.mono HN.out.2.2.size)⟩
  clear hb1 HN HF
  go_wp2_with (refine wpList_store_row rfl 90 (.tmp 8) (.tmp 10) rfl (w.heap.size + 4) #[.int .i64 F1, .bool R0, .int .i64 F2, .string F3, .int .i64 F4] rfl rfl _ _ HZ1.out.1 (by kernel_rfl) rfl (one5 _ _ _ _ _) ?_)
  have hP := (HZ1.out.1.row (.int .i64 F1) (.bool R0) (.int .i64 F2) (.string F3) (.int .i64 F4)).cells
  refine bodyPost_ret (results_res rfl _ _ rfl hP.1 hP.2.1 hP.2.2.1 hP.2.2.2.1 hP.2.2.2.2.1) rfl ?_
  exact ⟨rfl, bel_row HZ1.out.2 (by omega) _⟩
theorem otherSign_any (k : Int) (b : Bool) (e : Int) (s : ByteArray) (w : World) : Calls Tryz.prog 77 #[numV k b e s] w fun x w' => x = .returned (numV k (if k = 1 ∨ k = 2 then !b else b) e s) ∧ Below w.heap.size w w' := by
  by_cases h1 : k = 1
  · subst h1
    rw [if_pos (.inl rfl)]
    go_enter Tryz.func77, Tryz.ntmps77
    go_wp2
    have hP := at4_new (w.alloc (.cells #[.int .i64 1, .bool (!b), .int .i64 e, .string s] 78)) (.int .i64 1) (.bool (!b)) (.int .i64 e) (.string s)
    rw [show (w.alloc (.cells #[.int .i64 1, .bool (!b), .int .i64 e, .string s] 78)).heap.size = w.heap.size + 1 by simp] at hP
    refine bodyPost_ret (results_num rfl _ _ rfl hP.1 hP.2.1 hP.2.2.1 hP.2.2.2.1) rfl ?_
    exact ⟨rfl, bel_two _ _ _⟩
  · by_cases h2 : k = 2
    · subst h2
      rw [if_pos (.inr rfl)]
      go_enter Tryz.func77, Tryz.ntmps77
      go_wp2
      have hP := at4_new (w.alloc (.cells #[.int .i64 2, .bool (!b), .int .i64 e, .string s] 78)) (.int .i64 2) (.bool (!b)) (.int .i64 e) (.string s)
      rw [show (w.alloc (.cells #[.int .i64 2, .bool (!b), .int .i64 e, .string s] 78)).heap.size = w.heap.size + 1 by simp] at hP
      refine bodyPost_ret (results_num rfl _ _ rfl hP.1 hP.2.1 hP.2.2.1 hP.2.2.2.1) rfl ?_
      exact ⟨rfl, bel_two _ _ _⟩
    · rw [if_neg (fun h => h.elim h1 h2)]
      have c1 : (k == 1) = false := beq_eq_false_iff_ne.2 h1
      have c2 : (k == 2) = false := beq_eq_false_iff_ne.2 h2
      clear h1 h2
      go_enter Tryz.func77, Tryz.ntmps77
      go_wp2
      have hP := at4_new (w.alloc (.cells #[.int .i64 k, .bool b, .int .i64 e, .string s] 78)) (.int .i64 k) (.bool b) (.int .i64 e) (.string s)
      rw [show (w.alloc (.cells #[.int .i64 k, .bool b, .int .i64 e, .string s] 78)).heap.size = w.heap.size + 1 by simp] at hP
      refine bodyPost_ret (results_num rfl _ _ rfl hP.1 hP.2.1 hP.2.2.1 hP.2.2.2.1) rfl ?_
      exact ⟨rfl, bel_two _ _ _⟩
end Go.Proofs.YteofommckgeemaaGreatDoor
namespace Go.Proofs.YteofommckgeemaaGreatDoor
open Go.RowKit
set_option linter.unusedVariables false
set_option maxRecDepth 100000
/-- The other sign, but for NaNs. -/
def tuB (k : Int) (b : Bool) : Bool := if k = 1 ∨ k = 2 then !b else b
theorem numB_tu (f k : Int) (b : Bool) (e : Int) (s : ByteArray) : numB f k (tuB k b) e s = numB f k b e s := by
  unfold numB tuB
  by_cases h1 : k = 1
  · subst h1; simp
  · by_cases h2 : k = 2
    · subst h2; simp
    · rw [show (if k = 1 ∨ k = 2 then !b else b) = b from if_neg (fun q => q.elim h1 h2)]
def subR (f mode : Int) (ka : Int) (na : Bool) (ea : Int) (sa : ByteArray) (kb : Int) (nb : Bool) (eb : Int) (sb : ByteArray) : R5 := addR f mode ka na ea sa kb (tuB kb nb) eb sb
set_option maxRecDepth 100000 in
set_option maxHeartbeats 1000000 in
theorem iSub_any (f mode : Int) (ka : Int) (na : Bool) (ea : Int) (sa : ByteArray) (kb : Int) (nb : Bool) (eb : Int) (sb : ByteArray) (w : World) (hsa : sa.size ≤ 4611686018427387904) (hsb : sb.size ≤ 4611686018427387904) :
    Calls Tryz.prog 29 #[.int .i64 f, .int .i64 mode, numV ka na ea sa, numV kb nb eb sb] w fun x w' => x = .returned (rsD (subR f mode ka na ea sa kb nb eb sb).1 (subR f mode ka na ea sa kb nb eb sb).2) ∧ Below w.heap.size w w' := by
  have HS : Hid (SU w (((w.alloc (.cells #[.int .i64 ka, .bool na, .int .i64 ea, .string sa] 78)).alloc (.cells #[.int .i64 kb, .bool nb, .int .i64 eb, .string sb] 78)).alloc (.cells #[.int .i64 0, .bool false, .int .i64 0, .string { data := #[] }, .int .i64 0] 90)) ka na ea sa kb nb eb sb) := su_new w ka na ea sa kb nb eb sb
  have HTu : Hid (∀ X, Calls Tryz.prog 77 #[numV kb nb eb sb] X fun x w' => x = .returned (numV kb (tuB kb nb) eb sb) ∧ Below X.heap.size X w') := fun X => otherSign_any kb nb eb sb X
  have HAd : Hid (∀ X, Calls Tryz.prog 28 #[.int .i64 f, .int .i64 mode, numV ka na ea sa, numV kb (tuB kb nb) eb sb] X fun x w' => x = .returned (rsD (subR f mode ka na ea sa kb nb eb sb).1 (subR f mode ka na ea sa kb nb eb sb).2) ∧ Below X.heap.size X w') := fun X => iAdd_any f mode ka na ea sa kb (tuB kb nb) eb sb X hsa hsb
  generalize subR f mode ka na ea sa kb nb eb sb = R at *
  generalize tuB kb nb = tb at *
  obtain ⟨R0, F1, F2, F3, F4⟩ := R
  clear hsa hsb
  go_enter Tryz.func29, Tryz.ntmps29
  go_upto_region 1 with fail
  generalize ((w.alloc (.cells #[.int .i64 ka, .bool na, .int .i64 ea, .string sa] 78)).alloc (.cells #[.int .i64 kb, .bool nb, .int .i64 eb, .string sb] 78)).alloc (.cells #[.int .i64 0, .bool false, .int .i64 0, .string { data := #[] }, .int .i64 0] 90) = w1 at *
  have HX0 : Hid (Below w1.heap.size w1 w1.drew) := (Below.refl _ _).drew
  refine wp_region_tail (C := fun W => Below w1.heap.size w1 W) 5 (by kernel_rfl) (by kernel_rfl) HX0.out ?_
  simp only [List.take_succ_cons, List.take_zero, List.drop_succ_cons, List.drop_zero]
  repeat (refine wpQuiet_step (fun K hK => ?_); go_simp; first | (refine hK _ ?_; clear hK K) | (apply Exists.intro; refine ⟨fun wx hC => ?_, hK _ ?_⟩; (first | exact rfl | ((with_reducible refine Calls.class_of (HTu.out wx) ?_); exact fun w' hb => bel1 hC hb) | (obtain ⟨a0, a1, a2, a3, a4⟩ := (HS.out.next hC).at1.cells; go_simp; exact rfl) | (obtain ⟨a0, a1, a2, a3, a4⟩ := (HS.out.next hC).at2.cells; go_simp; exact rfl)); clear hK K))
  refine wpQuiet_nil ?_
  intro w2 hb2
  have HS2 : Hid (SU w w2 ka na ea sa kb nb eb sb) := HS.out.next hb2
  clear hb2 HS HX0 HTu
  go_wp2_with fail
  refine (HAd.out _).mono ?_
  rintro x w3 ⟨rfl, hb3⟩
  have HZ3 : Hid (At5 w3 (w.heap.size + 2) (.int .i64 0) (.bool false) (.int .i64 0) (.string { data := #[] }) (.int .i64 0) ∧ Below w.heap.size w w3) := sum_end HS2.out hb3
  clear hb3 HS2 HAd
  go_wp2_with (refine wpList_store_row rfl 90 (.tmp 8) (.tmp 14) rfl (w.heap.size + 2) #[.int .i64 F1, .bool R0, .int .i64 F2, .string F3, .int .i64 F4] rfl rfl _ _ HZ3.out.1 (by kernel_rfl) rfl (one5 _ _ _ _ _) ?_)
  have hP := (HZ3.out.1.row (.int .i64 F1) (.bool R0) (.int .i64 F2) (.string F3) (.int .i64 F4)).cells
  refine bodyPost_ret (results_res rfl _ _ rfl hP.1 hP.2.1 hP.2.2.1 hP.2.2.2.1 hP.2.2.2.2.1) rfl ?_
  exact ⟨rfl, bel_row HZ3.out.2 (by omega) _⟩
end Go.Proofs.YteofommckgeemaaGreatDoor
namespace Go.Proofs.YteofommckgeemaaGreatDoor
open Go.RowKit
set_option linter.unusedVariables false
set_option maxRecDepth 100000
/-- Infinities: is a nought among the two? -/
def z0B (ka : Int) (sa : ByteArray) : Bool := decide (ka = 1) && (sa.toList == [48])
end Go.Proofs.YteofommckgeemaaGreatDoor
namespace Go.Proofs.YteofommckgeemaaGreatDoor
open Go.RowKit
set_option linter.unusedVariables false
set_option maxRecDepth 100000
/-- What Mul tells of two right numbers that are no NaNs. -/
def mulX (f mode : Int) (ka : Int) (na : Bool) (ea : Int) (sa : ByteArray) (kb : Int) (nb : Bool) (eb : Int) (sb : ByteArray) : R5 :=
  if ka = 1 ∧ kb = 1 then (!(na == nb), finD f mode (!(na == nb)) (nt (vl (dl sa) * vl (dl sb))) (ea + eb) false (ea + eb))
  else if z0B ka sa || z0B kb sb then (false, (3, 0, { data := #[] }, 1)) else (!(na == nb), (2, 0, { data := #[] }, 0))
/-- What Mul tells. -/
def mulR (f mode : Int) (ka : Int) (na : Bool) (ea : Int) (sa : ByteArray) (kb : Int) (nb : Bool) (eb : Int) (sb : ByteArray) : R5 :=
  if addO f mode ka na ea sa kb nb eb sb then (if spB 2 (tw2 ka kb) then (false, (3, 0, { data := #[] }, spF 2 (tw2 ka kb))) else mulX f mode ka na ea sa kb nb eb sb)
  else (false, (0, 0, { data := #[] }, 0))
theorem mul_bd (da db : List Int) (ca : Canon da) (cb : Canon db) (la : da.length ≤ 34) (lb : db.length ≤ 34) : Nok (vl da * vl db) ∧ vl da * vl db < 10 ^ 68 := by
  have v1 := vl_bd da ca.1
  have v2 := vl_bd db cb.1
  have p1 := pow_mono da.length 34 la
  have p2 := pow_mono db.length 34 lb
  have h0 := Int.mul_nonneg v1.1 v2.1
  have h1 : vl da * vl db ≤ vl da * 10 ^ 34 := Int.mul_le_mul_of_nonneg_left (by omega) v1.1
  have h2 : vl da * 10 ^ 34 < 10 ^ 34 * 10 ^ 34 := Int.mul_lt_mul_of_pos_right (by omega) (ten_pos 34)
  rw [← Int.pow_add] at h2
  have h3 := pow_mono 68 200 (by decide)
  have h4 : vl da * vl db < 10 ^ 68 := by omega
  exact ⟨⟨h0, by omega⟩, h4⟩
end Go.Proofs.YteofommckgeemaaGreatDoor
