/-
  The program's Cohort, walked.
-/
import Derived.Test.YtcflomcankcggatDoorChs
namespace Go.Proofs.YtcflomcankcggatDoor
open Go.RowKit
set_option linter.unusedVariables false
set_option maxRecDepth 100000
theorem trimR_tx (T : List Int) (t : Nat) (hD : Dec T) (hT : ∃ T' d, T = T' ++ [d] ∧ d ≠ 0) : (⟨(Lib.trimRightB (tx (T ++ List.replicate t 0)).data.toList 48).toArray⟩ : ByteArray) = tx T := by
  apply ByteArray.ext
  rw [tx_data, tx_data]
  show (Lib.trimRightB ((T ++ List.replicate t 0).map fun (d : Int) => UInt8.ofNat (48 + d).toNat) 48).toArray = _
  congr 1
  rw [List.map_append, List.map_replicate]
  unfold Lib.trimRightB
  rw [List.reverse_append, List.reverse_replicate]
  have e0 : UInt8.ofNat (48 + (0 : Int)).toNat = 48 := rfl
  rw [e0, List.dropWhile_append_of_pos (by intro a ha; rw [(List.mem_replicate.1 ha).2]; rfl)]
  obtain ⟨T', d, rfl, hd⟩ := hT
  have hb := hD d (List.mem_append.2 (.inr (List.mem_singleton.2 rfl)))
  rw [List.map_append, List.reverse_append]
  show (List.dropWhile _ (UInt8.ofNat (48 + d).toNat :: _)).reverse = _
  have hne : (UInt8.ofNat (48 + d).toNat == 48) = false := by
    refine beq_eq_false_iff_ne.2 fun q => ?_
    have := congrArg UInt8.toNat q
    rw [UInt8.toNat_ofNat', Nat.mod_eq_of_lt (by omega)] at this
    have : (48 + d).toNat = 48 := this
    omega
  rw [List.dropWhile_cons_of_neg (by rw [hne]; exact Bool.false_ne_true)]
  simp
theorem build_num4 (k : Int) (b : Bool) (e : Int) (s : ByteArray) : ∀ w : World, (Instr.build 26 #[(0, .int .i64 k), (1, .bool b), (2, .int .i64 e), (3, .string s)]).run Tryd.prog w = .ok (numV k b e s) w := fun w => run_build w _ _ _ (by kernel_rfl)
set_option maxRecDepth 100000 in
theorem withoutNoughts_any (b : Bool) (e : Int) (T : List Int) (t : Nat) (hD : Dec T) (hT : ∃ T' d, T = T' ++ [d] ∧ d ≠ 0) (hl : T.length + t ≤ 34) (he : -7000 ≤ e ∧ e ≤ 7000) (w : World) :
    Calls Tryd.prog 25 #[numV 1 b e (tx (T ++ List.replicate t 0))] w fun x w' => x = .returned (numV 1 b (e + t) (tx T)) ∧ Below w.heap.size w w' := by
  have HTr : Hid (∀ X, Calls Tryd.prog 38 #[.string (tx (T ++ List.replicate t 0)), .string { data := #[48] }] X fun e w' => e = .returned (.string (tx T)) ∧ w' = X) := fun X => by
    have := Tryd.strings_TrimRight_one (tx (T ++ List.replicate t 0)) 48 (by decide) X (by rw [tx_size, List.length_append, List.length_replicate]; omega)
    rw [trimR_tx T t hD hT] at this
    exact this
  have z1 : (tx (T ++ List.replicate t 0)).size = T.length + t := by rw [tx_size, List.length_append, List.length_replicate]
  have z2 := tx_size T
  have hw1 : IntKind.i64.wrap ((T.length : Int) + (t : Int) - (T.length : Int)) = (t : Int) := by rw [IntKind.wrap_i64]; omega
  have hw2 : IntKind.i64.wrap (e + (t : Int)) = e + t := by rw [IntKind.wrap_i64]; omega
  generalize tx (T ++ List.replicate t 0) = TL at *
  generalize tx T = TT at *
  have hbn := build_numz 1 b (e + t) TT
  have HN : Hid (N2z w 1 b e TL ((w.alloc (.cells #[.int .i64 1, .bool b, .int .i64 e, .string TL] 26)).alloc (.cells #[.int .i64 0, .bool false, .int .i64 0, .string { data := #[] }] 26))) := n2_newz w 1 b e TL
  clear hD hT he
  go_enter Tryd.func25, Tryd.ntmps25
  go_wp2_with fail
  refine (HTr.out _).mono ?_
  rintro x wq ⟨rfl, rfl⟩
  obtain ⟨a0, a1, a2, a3, a4⟩ := HN.out.1.cells
  go_wp2_with (refine wpList_store_row rfl 26 (.tmp 2) (.tmp 19) rfl (w.heap.size + 1) #[.int .i64 1, .bool b, .int .i64 (e + t), .string TT] rfl rfl _ _ HN.out.2.1 (by kernel_rfl) rfl (one4z _ _ _ _) ?_)
  have hP := (HN.out.2.1.row (.int .i64 1) (.bool b) (.int .i64 (e + t)) (.string TT)).cells
  refine bodyPost_ret (results_num rfl _ _ rfl hP.1 hP.2.1 hP.2.2.1 hP.2.2.2.1) rfl ?_
  exact ⟨rfl, bel_rowz HN.out.2.2 (by omega) _⟩
theorem isNought_no (b : Bool) (e : Int) (s : ByteArray) (w : World) (h : (s.toList == [48]) = false) : Calls Tryd.prog 21 #[numV 1 b e s] w fun x w' => x = .returned (.bool false) ∧ Below w.heap.size w w' := by
  go_enter Tryd.func21, Tryd.ntmps21
  go_wp2
  go_ret
  exact ⟨rfl, (Below.refl _ _).alloc (Nat.le_refl _) _⟩
theorem lowered_tx (b : Bool) (E exp : Int) (T : List Int) (n : Nat) (hc : Canon T) (hz : T ≠ [0]) (hn : E - exp = n) (hl : T.length + n ≤ 100) (hE : -7000 ≤ E ∧ E ≤ 7000) (he : -7000 ≤ exp ∧ exp ≤ 7000) (w : World) :
    Calls Tryd.prog 26 #[numV 1 b E (tx T), .int .i64 exp] w fun x w' => x = .returned (numV 1 b exp (tx (T ++ List.replicate n 0))) ∧ Below w.heap.size w w' := by
  have e1 : tn (vl T) = tx T := by unfold tn; rw [← nt_of T (vl T) hc rfl (by omega)]
  have e2 : tn (vl T * 10 ^ (E - exp).toNat) = tx (T ++ List.replicate n 0) := by
    unfold tn
    rw [hn, Int.toNat_natCast, ← vl_noughts, ← nt_of (T ++ List.replicate n 0) _ (canon_noughts T n hc hz) rfl (by rw [List.length_append, List.length_replicate]; omega)]
  have hb := vl_bd T hc.1
  have hbn := vl_bd (T ++ List.replicate n 0) (canon_noughts T n hc hz).1
  rw [vl_noughts] at hbn
  have p1 : (10 : Int) ^ T.length < 10 ^ 200 := by exact_mod_cast Nat.pow_lt_pow_right (by decide) (by omega)
  have p2 : (10 : Int) ^ (T ++ List.replicate n 0).length < 10 ^ 200 := by
    rw [List.length_append, List.length_replicate]
    exact_mod_cast Nat.pow_lt_pow_right (by decide) (by omega)
  have := lowered_anyz b E (vl T) exp w hE he (by omega) (by omega) ⟨hb.1, by omega⟩ (by rw [hn, Int.toNat_natCast]; exact ⟨hbn.1, by omega⟩)
  rwa [e1, e2] at this
/-- The closure's count, the shortest number's box. -/
def CQ (w : World) (P : Int) (bb p : Nat) (k : Int) (b : Bool) (e : Int) (s : ByteArray) (W : World) : Prop :=
  W.cell? ⟨bb, 0, none⟩ = some (.int .i64 P) ∧ bb < W.heap.size ∧ At4 W p (.int .i64 k) (.bool b) (.int .i64 e) (.string s) ∧ w.heap.size ≤ p ∧ p < W.heap.size ∧ Below w.heap.size w W
theorem CQ.next {w W W' : World} {P : Int} {bb p : Nat} {k : Int} {b : Bool} {e : Int} {s : ByteArray} (h : CQ w P bb p k b e s W) (hb : Below W.heap.size W W') : CQ w P bb p k b e s W' :=
  ⟨(hb.cell (p := ⟨bb, 0, none⟩) h.2.1).trans h.1, Nat.lt_of_lt_of_le h.2.1 hb.size, h.2.2.1.below hb h.2.2.2.2.1, h.2.2.2.1, Nat.lt_of_lt_of_le h.2.2.2.2.1 hb.size, bel1 h.2.2.2.2.2 hb⟩
theorem cq_put {w W : World} {P : Int} {bb p : Nat} {x y z u : Value} (hq : W.cell? ⟨bb, 0, none⟩ = some (.int .i64 P) ∧ bb < W.heap.size) (hp : At4 W p x y z u) (hne : bb ≠ p) (hwp : w.heap.size ≤ p) (hb : Below w.heap.size w W) (k : Int) (b : Bool) (e : Int) (s : ByteArray) :
    CQ w P bb p k b e s ((((W.setCell ⟨p, 0, none⟩ (.int .i64 k)).setCell ⟨p, 1, none⟩ (.bool b)).setCell ⟨p, 2, none⟩ (.int .i64 e)).setCell ⟨p, 3, none⟩ (.string s)) := by
  have ne : ∀ i, (⟨p, i, none⟩ : Addr) ≠ ⟨bb, 0, none⟩ := fun i e => hne (by cases e; rfl)
  have hl := World.block_lt_of_cell? _ _ hp.1
  have hB := bel_four hb hwp (.int .i64 k) (.bool b) (.int .i64 e) (.string s)
  have hsz : ((((W.setCell ⟨p, 0, none⟩ (.int .i64 k)).setCell ⟨p, 1, none⟩ (.bool b)).setCell ⟨p, 2, none⟩ (.int .i64 e)).setCell ⟨p, 3, none⟩ (.string s)).heap.size = W.heap.size := by simp
  refine ⟨?_, by rw [hsz]; exact hq.2, hp.put _ _ _ _, hwp, by rw [hsz]; exact hl, hB⟩
  rw [World.cell?_setCell_other _ _ _ _ (ne 3), World.cell?_setCell_other _ _ _ _ (ne 2), World.cell?_setCell_other _ _ _ _ (ne 1), World.cell?_setCell_other _ _ _ _ (ne 0)]
  exact hq.1
theorem cq_new {w W : World} {P : Int} {bb : Nat} (hq : W.cell? ⟨bb, 0, none⟩ = some (.int .i64 P) ∧ bb < W.heap.size) (hb : Below w.heap.size w W) (k : Int) (b : Bool) (e : Int) (s : ByteArray) :
    CQ w P bb W.heap.size k b e s (W.alloc (.cells #[.int .i64 k, .bool b, .int .i64 e, .string s] 26)) := by
  have hB : Below W.heap.size W (W.alloc (.cells #[.int .i64 k, .bool b, .int .i64 e, .string s] 26)) := (Below.refl _ _).alloc (Nat.le_refl _) _
  exact ⟨(hB.cell (p := ⟨bb, 0, none⟩) hq.2).trans hq.1, Nat.lt_of_lt_of_le hq.2 hB.size, at4_new W _ _ _ _, hb.size, by simp, bel1 hb hB⟩
set_option maxRecDepth 100000 in
set_option maxHeartbeats 4000000 in
theorem iCohort_fin (f : Int) (hf : f = 64 ∨ f = 128) (b : Bool) (e : Int) (T : List Int) (t : Nat) (hD : Dec T) (hT : ∃ T' d, T = T' ++ [d] ∧ d ≠ 0) (hc : Canon T) (hzT : T ≠ [0]) (hn : ((T.length + t : Nat) : Int) ≤ limP f) (he : limL f ≤ e ∧ e ≤ limH f) (hO : numB f 1 b e (tx (T ++ List.replicate t 0)) = true) (hz : ((tx (T ++ List.replicate t 0)).toList == [48]) = false)
    (J Z M : Nat) (lo : Int) (hJ : (J : Int) = min (limP f - (T.length + t : Nat)) (e - limL f)) (hlo : lo = e - J) (hZ : Z = t + J) (hM : (M : Int) = min (Z : Int) (limH f - lo) + 1) (w : World) :
    Calls Tryd.prog 10 #[.int .i64 f, numV 1 b e (tx (T ++ List.replicate t 0))] w fun x w' => ∃ v, x = .returned v ∧ HasN w' w.heap.size v (cohL b lo Z T M) ∧ Below w.heap.size w w' := by
  have hL34 : limP f ≤ 34 ∧ -6176 ≤ limL f ∧ limH f ≤ 6111 := limsz f hf
  have hTl : 0 < T.length := hc.2.1
  have zT := tx_size T
  have zL : (tx (T ++ List.replicate t 0)).size = T.length + t := by rw [tx_size, List.length_append, List.length_replicate]
  have HNb : Hid (∀ X, Calls Tryd.prog 16 #[.int .i64 f, numV 1 b e (tx (T ++ List.replicate t 0))] X fun x w' => x = .returned (.bool true) ∧ Below X.heap.size X w') := fun X => by
    have := iNumOk_any f 1 b e (tx (T ++ List.replicate t 0)) X (by omega)
    rwa [hO] at this
  have HNo : Hid (∀ X, Calls Tryd.prog 21 #[numV 1 b e (tx (T ++ List.replicate t 0))] X fun x w' => x = .returned (.bool false) ∧ Below X.heap.size X w') := fun X => isNought_no b e _ X hz
  have HWn : Hid (∀ X, Calls Tryd.prog 25 #[numV 1 b e (tx (T ++ List.replicate t 0))] X fun x w' => x = .returned (numV 1 b (e + t) (tx T)) ∧ Below X.heap.size X w') := fun X => withoutNoughts_any b e T t hD hT (by omega) (by omega) X
  have HLm : Hid (∀ X, Calls Tryd.prog 23 #[.int .i64 f] X fun r w' => r = .returned (.tuple #[.int .i64 (limP f), .int .i64 (limL f), .int .i64 (limH f)]) ∧ Below X.heap.size X w') := fun X => iLimits_any f X
  have HRm : Hid (∀ X, Calls Tryd.prog 24 #[.int .i64 f] X fun x w' => ∃ b, x = .returned (RmVz b) ∧ w'.cell? ⟨b, 0, none⟩ = some (.int .i64 (limP f)) ∧ X.heap.size ≤ b ∧ b < w'.heap.size ∧ Below X.heap.size X w') := fun X => roomIn_anyz f X
  have HR1 : Hid (∀ (c : Nat) X, X.cell? ⟨c, 0, none⟩ = some (.int .i64 (limP f)) → Calls Tryd.prog 37 #[.string (tx T), .pointer (some ⟨c, 0, none⟩)] X fun x w' => x = .returned (.int .i64 (limP f - (tx T).size)) ∧ w' = X) := fun c X h => room1_anyz c (limP f) (tx T) X h (by omega) (by omega)
  have HEn : Hid (∀ args w, (callFunc 37 args).run Tryd.prog w = .ok (.enter 37 args) w) := enters_of Tryd.func37 (by kernel_rfl) rfl
  have HLw : Hid (∀ (i : Nat), i < M → ∀ X, Calls Tryd.prog 26 #[numV 1 b (e + t) (tx T), .int .i64 (lo + (i : Int))] X fun x w' => x = .returned (numV 1 b (lo + (i : Int)) (tx (T ++ List.replicate (Z - i) 0))) ∧ Below X.heap.size X w') := fun i hi X => lowered_tx b (e + t) (lo + i) T (Z - i) hc hzT (by omega) (by omega) (by omega) (by omega) X
  have h4 := at4_new w (.int .i64 1) (.bool b) (.int .i64 e) (.string (tx (T ++ List.replicate t 0)))
  have HA : Hid (At4 (w.alloc (.cells #[.int .i64 1, .bool b, .int .i64 e, .string (tx (T ++ List.replicate t 0))] 26)) w.heap.size (.int .i64 1) (.bool b) (.int .i64 e) (.string (tx (T ++ List.replicate t 0))) ∧ Below w.heap.size w (w.alloc (.cells #[.int .i64 1, .bool b, .int .i64 e, .string (tx (T ++ List.replicate t 0))] 26)) ∧ w.heap.size < (w.alloc (.cells #[.int .i64 1, .bool b, .int .i64 e, .string (tx (T ++ List.replicate t 0))] 26)).heap.size) := ⟨h4, (Below.refl _ _).alloc (Nat.le_refl _) _, by simp⟩
  have hmx : max (limL f) (e + (t : Int) - (limP f - (T.length : Int))) = lo := by omega
  have HMn : Hid (∀ i : Nat, (lo + (i : Int) ≤ min (limH f) (e + (t : Int)) ↔ i < M)) := fun i => by omega
  have hM100 : M ≤ 100 := by omega
  have hlo7 : -7000 ≤ lo ∧ lo ≤ 7000 := by omega
  clear h4 hO hz hD hT hc hzT hJ hlo hZ hM
  generalize tx (T ++ List.replicate t 0) = TL at *
  go_enter Tryd.func10, Tryd.ntmps10
  go_wp2_with fail
  refine (HNb.out _).mono ?_
  rintro x w1 ⟨rfl, hb1⟩
  have HA1 : Hid (At4 w1 w.heap.size (.int .i64 1) (.bool b) (.int .i64 e) (.string TL) ∧ Below w.heap.size w w1 ∧ w.heap.size < w1.heap.size) := ⟨HA.out.1.below hb1 HA.out.2.2, bel1 HA.out.2.1 hb1, Nat.lt_of_lt_of_le HA.out.2.2 hb1.size⟩
  clear hb1 HA HNb
  obtain ⟨a0, a1, a2, a3, a4⟩ := HA1.out.1
  go_wp2_with fail
  clear a0 a1 a2 a3 a4
  refine (HNo.out _).mono ?_
  rintro x w2 ⟨rfl, hb2⟩
  have HA2 : Hid (At4 w2 w.heap.size (.int .i64 1) (.bool b) (.int .i64 e) (.string TL) ∧ Below w.heap.size w w2 ∧ w.heap.size < w2.heap.size) := ⟨HA1.out.1.below hb2 HA1.out.2.2, bel1 HA1.out.2.1 hb2, Nat.lt_of_lt_of_le HA1.out.2.2 hb2.size⟩
  clear hb2 HA1 HNo
  go_wp2_with fail
  refine (HLm.out _).mono ?_
  rintro x w3 ⟨rfl, hb3⟩
  have HA3 : Hid (At4 w3 w.heap.size (.int .i64 1) (.bool b) (.int .i64 e) (.string TL) ∧ Below w.heap.size w w3 ∧ w.heap.size < w3.heap.size) := ⟨HA2.out.1.below hb3 HA2.out.2.2, bel1 HA2.out.2.1 hb3, Nat.lt_of_lt_of_le HA2.out.2.2 hb3.size⟩
  clear hb3 HA2 HLm
  go_upto_region 6 with fail
  go_cut [8, 9] (fun r q wx => ∃ bb p, r = RmVz bb ∧ q = .pointer (some ⟨p, 0, none⟩) ∧ Hid (CQ w (limP f) bb p 1 b (e + t) (tx T) wx))
  case first =>
    have HCl : Hid (∀ W, Below w3.heap.size w3 W → At4 W w.heap.size (.int .i64 1) (.bool b) (.int .i64 e) (.string TL) ∧ ∀ o, At4 (W.alloc o) w.heap.size (.int .i64 1) (.bool b) (.int .i64 e) (.string TL)) := fun W hW => ⟨HA3.out.1.below hW HA3.out.2.2, fun o => (HA3.out.1.below hW HA3.out.2.2).alloc (Nat.lt_of_lt_of_le HA3.out.2.2 hW.size) o⟩
    obtain ⟨a0, a1, a2, a3, a4⟩ := HA3.out.1
    have l0 : ∀ o, (w3.alloc o).cell? ⟨w.heap.size, 0, none⟩ = some (.int .i64 1) := fun o => ((HCl.out w3 (Below.refl _ _)).2 o).1
    have l1 : ∀ o, (w3.alloc o).cell? ⟨w.heap.size, 1, none⟩ = some (.bool b) := fun o => ((HCl.out w3 (Below.refl _ _)).2 o).2.1
    have l2 : ∀ o, (w3.alloc o).cell? ⟨w.heap.size, 2, none⟩ = some (.int .i64 e) := fun o => ((HCl.out w3 (Below.refl _ _)).2 o).2.2.1
    have l3 : ∀ o, (w3.alloc o).cell? ⟨w.heap.size, 3, none⟩ = some (.string TL) := fun o => ((HCl.out w3 (Below.refl _ _)).2 o).2.2.2.1
    go_region_with (first
      | (go_at_call 24; refine (HRm.out _).mono ?_; rintro x wR ⟨bb, rfl, hbb, hble, hblt, hbR⟩
         first
           | have HBR : Hid (Below w3.heap.size w3 wR) := (Below.refl w3.heap.size w3).drew.trans (hbR.mono (Nat.le_refl _))
           | have HBR : Hid (Below w3.heap.size w3 wR) := ((Below.refl w3.heap.size w3).drew.alloc (Nat.le_refl _) _).trans (hbR.mono (by simp))
           | have HBR : Hid (Below w3.heap.size w3 wR) := HBW.out.trans (hbR.mono HBW.out.size)
           | have HBR : Hid (Below w3.heap.size w3 wR) := (HBW.out.alloc HBW.out.size _).trans (hbR.mono (by have := HBW.out.size; simp; omega))
         have HQR : Hid (wR.cell? ⟨bb, 0, none⟩ = some (.int .i64 (limP f)) ∧ bb < wR.heap.size) := ⟨hbb, hblt⟩
         have HLE : Hid (_ ≤ bb) := hble
         clear hbb hble hblt a0 a1 a2 a3 a4
         obtain ⟨⟨a0, a1, a2, a3, a4⟩, lay⟩ := HCl.out wR HBR.out
         have m0 := fun o => (lay o).1
         have m1 := fun o => (lay o).2.1
         have m2 := fun o => (lay o).2.2.1
         have m3 := fun o => (lay o).2.2.2.1
         clear lay
         first
           | (have HPR : Hid (At4 wR w3.heap.size (.int .i64 0) (.bool false) (.int .i64 0) (.string { data := #[] })) := (at4_new w3.drew (.int .i64 0) (.bool false) (.int .i64 0) (.string { data := #[] })).below hbR (by simp); obtain ⟨z0, z1, z2, z3, z4⟩ := HPR.out)
           | (have HPR : Hid (At4 wR wW.heap.size (.int .i64 0) (.bool false) (.int .i64 0) (.string { data := #[] })) := (at4_new wW (.int .i64 0) (.bool false) (.int .i64 0) (.string { data := #[] })).below hbR (by simp); obtain ⟨z0, z1, z2, z3, z4⟩ := HPR.out)
           | (have HPR : Hid (At4 wR w3.heap.size (.int .i64 0) (.bool false) (.int .i64 0) (.string { data := #[] })) := HPW.out.below hbR (World.block_lt_of_cell? _ _ HPW.out.1); clear z0 z1 z2 z3 z4; obtain ⟨z0, z1, z2, z3, z4⟩ := HPR.out)
           | skip)
      | (go_at_call 25; refine (HWn.out _).mono ?_; rintro x wW ⟨rfl, hbW⟩
         first
           | have HBW : Hid (Below w3.heap.size w3 wW) := (Below.refl w3.heap.size w3).drew.trans (hbW.mono (Nat.le_refl _))
           | have HBW : Hid (Below w3.heap.size w3 wW) := ((Below.refl w3.heap.size w3).drew.alloc (Nat.le_refl _) _).trans (hbW.mono (by simp))
           | have HBW : Hid (Below w3.heap.size w3 wW) := HBR.out.trans (hbW.mono HBR.out.size)
           | have HBW : Hid (Below w3.heap.size w3 wW) := (HBR.out.alloc HBR.out.size _).trans (hbW.mono (by have := HBR.out.size; simp; omega))
         first
           | (have HQW : Hid (wW.cell? ⟨bb, 0, none⟩ = some (.int .i64 (limP f)) ∧ bb < wW.heap.size) := ⟨(hbW.cell (p := ⟨bb, 0, none⟩) HQR.out.2).trans HQR.out.1, Nat.lt_of_lt_of_le HQR.out.2 hbW.size⟩)
           | (have HQW : Hid (wW.cell? ⟨bb, 0, none⟩ = some (.int .i64 (limP f)) ∧ bb < wW.heap.size) := by
                have q1 := ((Below.refl wR.heap.size wR).alloc (Nat.le_refl _) (.cells #[.int .i64 0, .bool false, .int .i64 0, .string { data := #[] }] 26))
                have q2 := bel1 q1 hbW
                exact ⟨(q2.cell (p := ⟨bb, 0, none⟩) HQR.out.2).trans HQR.out.1, Nat.lt_of_lt_of_le HQR.out.2 q2.size⟩)
           | skip
         first
           | (have HPW : Hid (At4 wW w3.heap.size (.int .i64 0) (.bool false) (.int .i64 0) (.string { data := #[] })) := (at4_new w3.drew (.int .i64 0) (.bool false) (.int .i64 0) (.string { data := #[] })).below hbW (by simp); obtain ⟨z0, z1, z2, z3, z4⟩ := HPW.out)
           | (have HPW : Hid (At4 wW wR.heap.size (.int .i64 0) (.bool false) (.int .i64 0) (.string { data := #[] })) := (at4_new wR (.int .i64 0) (.bool false) (.int .i64 0) (.string { data := #[] })).below hbW (by simp); obtain ⟨z0, z1, z2, z3, z4⟩ := HPW.out)
           | (have HPW : Hid (At4 wW w3.heap.size (.int .i64 0) (.bool false) (.int .i64 0) (.string { data := #[] })) := HPR.out.below hbW (World.block_lt_of_cell? _ _ HPR.out.1); clear z0 z1 z2 z3 z4; obtain ⟨z0, z1, z2, z3, z4⟩ := HPW.out)
           | skip))
    all_goals
      have HB9 : Hid (Below w.heap.size w wW) := bel1 HA3.out.2.1 HBW.out
      go_wp2
      go_meet
      case rel =>
        first
          | exact ⟨bb, _, rfl, rfl, cq_new HQW.out HB9.out 1 b (e + t) (tx T)⟩
          | exact ⟨bb, _, rfl, rfl, cq_put HQW.out HPW.out (Nat.ne_of_lt HQR.out.2) (Nat.le_trans HA3.out.2.1.size HBR.out.size) HB9.out 1 b (e + t) (tx T)⟩
          | exact ⟨bb, _, rfl, rfl, cq_put HQW.out HPW.out (by have := HLE.out; simp at this; omega) HA3.out.2.1.size HB9.out 1 b (e + t) (tx T)⟩
  case rest =>
    obtain ⟨bb, p, rfl, rfl, HC⟩ := hcut
    clear HA3 HRm HWn
    have hE := HEn.out
    unfold RmVz
    go_upto_region 7 with fail
    have HX0 : Hid (Below wc.heap.size wc wc.drew) := (Below.refl _ _).drew
    have hw1 : IntKind.i64.wrap (e + (t : Int) - (limP f - (T.length : Int))) = e + t - (limP f - T.length) := by rw [IntKind.wrap_i64]; omega
    refine wp_region_class (C := fun W => Below wc.heap.size wc W) (by kernel_rfl) (by kernel_rfl) HX0.out ?_
    repeat (refine wpQuiet_step (fun K hK => ?_); go_simp; first | (refine hK _ ?_; clear hK K) | (apply Exists.intro; refine ⟨fun wx hC => ?_, hK _ ?_⟩; (first | exact rfl | (obtain ⟨a0, a1, a2, a3, a4⟩ := (HC.out.next hC).2.2.1; go_simp; exact rfl) | (refine (HR1.out bb wx (HC.out.next hC).1).mono ?_; rintro x w' ⟨rfl, rfl⟩; exact ⟨rfl, hC⟩)); clear hK K))
    refine wpQuiet_nil ?_
    intro w5 hb5
    have HC5 : Hid (CQ w (limP f) bb p 1 b (e + t) (tx T) w5) := HC.out.next hb5
    clear hb5 HC HX0 HR1
    obtain ⟨i0, hi, hz0, hz1, hz2⟩ := info_parts infoNum
    have HO : Hid (HasN (w5.alloc (.cells #[] 26)) w5.heap.size (.slice (some ⟨w5.heap.size, 0, none⟩) 0 0) (cohL b lo Z T 0)) := World.ownsRow_made w5 #[] 0 (Nat.le_refl _) (Nat.zero_le _) rfl
    have hB6 : Below w5.heap.size w5 (w5.alloc (.cells #[] 26)) := (Below.refl _ _).alloc (Nat.le_refl _) _
    have HP6 : Hid (At4 (w5.alloc (.cells #[] 26)) p (.int .i64 1) (.bool b) (.int .i64 (e + t)) (.string (tx T)) ∧ Below w.heap.size w (w5.alloc (.cells #[] 26)) ∧ w5.heap.size ≤ (w5.alloc (.cells #[] 26)).heap.size) := ⟨(HC5.out.next hB6).2.2.1, bel1 HC5.out.2.2.2.2.2 hB6, hB6.size⟩
    have HPl : Hid (p < w5.heap.size ∧ w.heap.size ≤ p) := ⟨HC5.out.2.2.2.2.1, HC5.out.2.2.2.1⟩
    obtain ⟨mn, hmn⟩ : ∃ mn, min (limH f) (e + (t : Int)) = mn := ⟨_, rfl⟩
    rw [hmn] at HMn
    clear hw1 hmx HC5 hB6 hn he zT zL hf
    go_wp2
    go_loopg [11, 12] M (fun gk s11 s12 wx => ∃ i : Nat, i ≤ M ∧ Hid (gk = M - i) ∧ Hid (HasN wx w5.heap.size s11 (cohL b lo Z T i)) ∧ s12 = .int .i64 (lo + (i : Int)) ∧ Hid (At4 wx p (.int .i64 1) (.bool b) (.int .i64 (e + t)) (.string (tx T)) ∧ Below w.heap.size w wx ∧ w5.heap.size ≤ wx.heap.size))
    case atStart => exact ⟨0, Nat.zero_le _, rfl, HO, Ln.val_int (by omega), HP6⟩
    case round =>
      obtain ⟨i, hiM, hgk, hown, rfl, hA⟩ := hrel
      obtain ⟨a0, a1, a2, a3, a4⟩ := hA.out.1
      by_cases hlt : i < M
      · have hle : lo + (i : Int) ≤ mn := (HMn.out i).2 hlt
        have HL : Hid (∀ X, Calls Tryd.prog 26 #[numV 1 b (e + t) (tx T), .int .i64 (lo + (i : Int))] X fun x w' => x = .returned (numV 1 b (lo + (i : Int)) (tx (T ++ List.replicate (Z - i) 0))) ∧ Below X.heap.size X w') := HLw.out i hlt
        have HIt : Hid (itm b lo Z T i = (1, b, lo + (i : Int), tx (T ++ List.replicate (Z - i) 0))) := rfl
        generalize tx (T ++ List.replicate (Z - i) 0) = S at *
        have hlen := cohL_len b lo Z T i
        have w1 : IntKind.i64.wrap (lo + (i : Int) + 1) = lo + (i : Int) + 1 := by rw [IntKind.wrap_i64]; omega
        go_wp2_with fail
        clear a0 a1 a2 a3 a4
        refine (HL.out _).mono ?_
        rintro x w6 ⟨rfl, hb6⟩
        have HA6 : Hid (At4 w6 p (.int .i64 1) (.bool b) (.int .i64 (e + t)) (.string (tx T)) ∧ Below w.heap.size w w6 ∧ w5.heap.size ≤ w6.heap.size) := ⟨hA.out.1.below hb6 (World.block_lt_of_cell? _ _ hA.out.1.1), bel1 hA.out.2.1 hb6, Nat.le_trans hA.out.2.2 hb6.size⟩
        have hown0 : w6.ownsRow w5.heap.size 26 4 _ (cohL b lo Z T i).length (nq (cohL b lo Z T i)) := hown.out.below hb6 (Nat.le_refl _)
        rw [hlen] at hown0
        clear hb6 hA hown
        have hlt6 : p < w6.heap.size := World.block_lt_of_cell? _ _ HA6.out.1.1
        have hsz6 := HA6.out.2.2
        have hpl := HPl.out
        go_wp2_with (first | (at_builtin; refine wpList_append_own _ rfl _ _ 29 rfl w5.heap.size 26 i0 (.agg #[.int .i64 0, .bool false, .int .i64 0, .string { data := #[] }]) 4 40 Tryd.underlying29 hi hz0 hz1 hz2 rfl (by decide) _ _ _ rfl (hown0.alloc _) ⟨w6.heap.size, 0, none⟩ 1 1 [.int .i64 1, .bool b, .int .i64 (lo + (i : Int)), .string S] rfl rfl (num_new _ _ _ _ _) (num_cell _ _ _ _) (by unfold maxLen; omega) (by omega) (by simp; omega) ?_) | go_in)
        intro v' w7 hown7 hgrow _
        have hb7 : Below w.heap.size w w7 := Below.grown (HA6.out.2.1.alloc (by omega) _) hgrow (by simp; omega) (fun k hk => by have := (hown0.lt k hk).1; omega)
        have hs7 : w6.heap.size ≤ w7.heap.size := by have := hgrow.size; simp at this; omega
        have HA7 : Hid (At4 w7 p (.int .i64 1) (.bool b) (.int .i64 (e + t)) (.string (tx T)) ∧ Below w.heap.size w w7 ∧ w5.heap.size ≤ w7.heap.size) := ⟨at4_same (hgrow.block _ (by simp; omega) (fun hq => by have := (hown0.lt _ hq.symm).1; omega)) (HA6.out.1.alloc hlt6 _), hb7, by omega⟩
        have H7 : Hid (HasN w7 w5.heap.size v' (cohL b lo Z T (i + 1))) := by
          rw [cohL_succ, HIt.out]
          exact hasN_more hown7 (by rw [hlen])
        clear hown7 hgrow hown0 hb7 hlt6 HA6 hsz6 hpl hs7
        go_wp2
        go_roundg (M - (i + 1))
        case measure => have := hgk.out; omega
        case rel => exact ⟨i + 1, by omega, rfl, H7, Ln.val_int (by omega), HA7⟩
      · have hle : ¬ lo + (i : Int) ≤ mn := fun q => hlt ((HMn.out i).1 q)
        have ei : i = M := by omega
        subst ei
        have HF : Hid (HasN _ w.heap.size _ (cohL b lo Z T i)) := World.ownsRow.mono hown.out (Nat.le_trans HPl.out.2 (Nat.le_of_lt HPl.out.1))
        clear hlt
        go_wp2
        go_ret
        exact ⟨_, rfl, HF.out, hA.out.2.1⟩
end Go.Proofs.YtcflomcankcggatDoor
