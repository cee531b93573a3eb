/-
  A line is answered, walked.
-/
import Derived.Test.YteofommckgeemaaGreatDoorBno
import Derived.Test.YteofommckgeemaaGreatDoorRni
import Derived.Test.YteofommckgeemaaGreatDoorFmt
import Derived.Deep.RegionWith
import Derived.Test.YteofommckgeemaaGreatDoorMuPs
import Derived.Test.YteofommckgeemaaGreatDoorNbd
import Derived.Orders
import Derived.Deep.Quiet
import Derived.ProofKit
import Derived.Test.YteofommckgeemaaGreatDoorRows
import Derived.Test.YteofommckgeemaaGreatDoorOrd
import Derived.Test.YteofommckgeemaaGreatDoorShh
import Derived.Shelf.Strings.Split
import Derived.Lib.IndexBytes
namespace Go.Proofs.YteofommckgeemaaGreatDoor
open Go.RowKit
set_option linter.unusedVariables false
set_option maxRecDepth 100000
set_option linter.unusedSimpArgs false
/-- The bench's state. -/
def St (W : World) (bb : Nat) (f m fl : Int) : Prop := W.heap[bb]? = some (.cells #[.int .i64 f, .int .i64 m, .int .i64 fl] 32)
theorem St.cells {W : World} {bb : Nat} {f m fl : Int} (h : St W bb f m fl) : W.cell? ⟨bb, 0, none⟩ = some (.int .i64 f) ∧ W.cell? ⟨bb, 1, none⟩ = some (.int .i64 m) ∧ W.cell? ⟨bb, 2, none⟩ = some (.int .i64 fl) ∧ W.frozen? ⟨bb, 0, none⟩ = false ∧ W.frozen? ⟨bb, 1, none⟩ = false ∧ W.frozen? ⟨bb, 2, none⟩ = false := by
  refine ⟨blk_cell h 0, blk_cell h 1, blk_cell h 2, ?_, ?_, ?_⟩
  all_goals
    unfold World.frozen?
    simp only [show W.heap[bb]? = _ from h]
    rfl
theorem fz_cells {W : World} {k : Nat} {cs : Array Value} {T : TypeId} (h : W.heap[k]? = some (.cells cs T)) (i : Nat) : W.frozen? ⟨k, i, none⟩ = false := by
  unfold World.frozen?; simp only [h]; simp
theorem St.next {W W' : World} {bb : Nat} {f m fl : Int} (h : St W bb f m fl) (hb : Below W.heap.size W W') : St W' bb f m fl := (hb.block bb (Array.getElem?_eq_some_iff.1 h).1).trans h
theorem St.lt {W : World} {bb : Nat} {f m fl : Int} (h : St W bb f m fl) : bb < W.heap.size := (Array.getElem?_eq_some_iff.1 h).1
/-- Words in a row. -/
def Wds (W : World) (g o : Nat) (ws : List ByteArray) : Prop := g < W.heap.size ∧ ∀ i s, ws[i]? = some s → W.cell? ⟨g, o + i, none⟩ = some (.string s)
theorem Wds.next {W W' : World} {g o : Nat} {ws : List ByteArray} (h : Wds W g o ws) (hb : Below W.heap.size W W') : Wds W' g o ws := ⟨Nat.lt_of_lt_of_le h.1 hb.size, fun i s hs => (hb.cell (p := ⟨g, o + i, none⟩) h.1).trans (h.2 i s hs)⟩
/-- What ReadNum tells of a word: the number n. -/
def RdIs (f m : Int) (s : ByteArray) (n : Nmt) : Prop := ∃ F, rdR f m s.data.toList = .tuple #[rsV n.1 n.2.1 n.2.2.1 n.2.2.2 F, .bool true]
/-- The numbers of words that all are read. -/
def RdAll (f m : Int) : List ByteArray → List Nmt → Prop
  | [], [] => True
  | s :: ws, n :: ns => RdIs f m s n ∧ RdAll f m ws ns
  | _, _ => False
theorem RdAll.len {f m : Int} {ws : List ByteArray} {ns : List Nmt} (h : RdAll f m ws ns) : ws.length = ns.length := by
  induction ws generalizing ns with
  | nil => cases ns with
    | nil => rfl
    | cons n ns => cases h
  | cons s ws ih => cases ns with
    | nil => cases h
    | cons n ns => rw [List.length_cons, List.length_cons, ih h.2]
theorem RdAll.at {f m : Int} {ws : List ByteArray} {ns : List Nmt} (h : RdAll f m ws ns) (i : Nat) (hi : i < ws.length) : ∃ s n, ws[i]? = some s ∧ ns[i]? = some n ∧ RdIs f m s n := by
  induction ws generalizing ns i with
  | nil => simp at hi
  | cons s ws ih => cases ns with
    | nil => cases h
    | cons n ns => cases i with
      | zero => exact ⟨s, n, rfl, rfl, h.1⟩
      | succ i => exact ih h.2 i (by simpa using hi)
theorem iReadNum_all (f m : Int) (s : ByteArray) (w : World) (hs : s.size ≤ 4611686018427387904) (hT : Lib.Utf8Tabs 4 5 w) :
    Calls Tryz.prog 177 #[.int .i64 f, .int .i64 m, .string s] w fun e w' => e = .returned (rdR f m s.data.toList) ∧ Below w.heap.size w w' := by
  have hl : s.data.toList.length = s.size := Array.length_toList
  unfold rdR
  rw [hl]
  split
  · rename_i h
    exact iReadNum_yes f m s w h.1 h.2.1 h.2.2 hT
  · rename_i h
    exact iReadNum_no f m s w hs h
def UTb (W : World) : Prop := Lib.Utf8Tabs 4 5 W
set_option maxRecDepth 100000 in
set_option maxHeartbeats 4000000 in
theorem readNums_yes (bb : Nat) (f m fl : Int) (g o cp : Nat) (ws : List ByteArray) (ns : List Nmt) (w : World) (hS : St w bb f m fl) (hW : Wds w g o ws) (hn : ws.length ≤ 1000) (hz : ∀ s ∈ ws, s.size ≤ 100000) (hR : RdAll f m ws ns) (hU : UTb w) :
    Calls Tryz.prog 102 #[.pointer (some ⟨bb, 0, none⟩), .slice (some ⟨g, o, none⟩) ws.length cp] w fun e w' => ∃ v, e = .returned (.tuple #[v, .nilIface]) ∧ HasN w' w.heap.size v ns ∧ Below w.heap.size w w' := by
  obtain ⟨i0, hi, hz0, hz1, hz2⟩ := info_parts infoNum
  have HW : Hid (∀ i, i < ws.length → ∀ X, Below w.heap.size w X → ∃ s n F, ns[i]? = some n ∧ X.cell? ⟨g, o + i, none⟩ = some (.string s) ∧ Hid (∀ Y, UTb Y → Calls Tryz.prog 177 #[.int .i64 f, .int .i64 m, .string s] Y fun e w' => e = .returned (.tuple #[rsV n.1 n.2.1 n.2.2.1 n.2.2.2 F, .bool true]) ∧ Below Y.heap.size Y w')) := fun i hi X hX => by
    obtain ⟨s, n, h1, h2, F, h3⟩ := hR.at i hi
    refine ⟨s, n, F, h2, (hW.next hX).2 i s h1, fun Y hY => ?_⟩
    have := iReadNum_all f m s Y (by have := hz s (List.mem_of_getElem? h1); omega) hY
    rw [h3] at this
    exact this
  have HS : Hid (∀ X, Below w.heap.size w X → St X bb f m fl) := fun X hX => hS.next hX
  have HU : Hid (∀ X, Below w.heap.size w X → UTb X) := fun X hX => Utf8Tabs_below hU hX
  have hlen := hR.len
  have hO0 : Hid (HasN (w.alloc (.cells #[] 78)) w.heap.size (.slice (some ⟨w.heap.size, 0, none⟩) 0 0) [] ∧ Below w.heap.size w (w.alloc (.cells #[] 78))) := by
    exact ⟨World.ownsRow_made w #[] 0 (Nat.le_refl _) (Nat.zero_le _) rfl, (Below.refl _ _).alloc (Nat.le_refl _) _⟩
  clear hS hW hz hR hU
  rw [hlen]
  rw [hlen] at HW hn
  clear hlen
  obtain ⟨N, hN⟩ : ∃ N, ns.length = N := ⟨_, rfl⟩
  have hNs : Hid (N = ns.length) := hN.symm
  rw [hN]
  rw [hN] at HW hn
  clear hN
  go_enter Tryz.func102, Tryz.ntmps102
  go_wp2
  go_loopw [6, 14] (fun v i wr => ∃ k : Nat, k ≤ N ∧ i = .int .i64 k ∧ Hid (HasN wr w.heap.size v (ns.take k)) ∧ Hid (Below w.heap.size w wr)) (fun _ i _ => N - (intOf i).toNat)
  case atStart => exact ⟨0, Nat.zero_le _, rfl, hO0.out.1, hO0.out.2⟩
  case round =>
    clear hO0
    obtain ⟨k, hk, rfl, hown, hbel⟩ := hrel
    by_cases hlt : k < N
    · obtain ⟨s, n, F, hnk, hcs, HR⟩ := HW.out k hlt _ hbel.out
      have hlt2 : (k : Int) < (N : Int) := by omega
      obtain ⟨c0, c1, -, -, -, -⟩ := (HS.out _ hbel.out).cells
      have HNk : Hid (ns[k]? = some n) := hnk
      obtain ⟨n1, n2, n3, n4⟩ := n
      clear hnk
      go_upto_region 5 with fail
      go_cut [9, 10] (fun p b wx => ∃ r : Nat, p = .pointer (some ⟨r, 0, none⟩) ∧ b = .bool true ∧ Hid (wx.heap[r]? = some (.cells #[.int .i64 n1, .bool n2, .int .i64 n3, .string n4, .int .i64 F] 90)) ∧ Hid (HasN wx w.heap.size u6 (ns.take k)) ∧ Hid (Below w.heap.size w wx))
      case first =>
        have HD0 : Hid (UTb wr.drew) := HU.out _ hbel.out.drew
        have HD1 : Hid (∀ o, UTb ((wr.alloc o).drew)) := fun o => HU.out _ (hbel.out.alloc hbel.out.size o).drew
        have k0 : ∀ o, (wr.alloc o).cell? ⟨bb, 0, none⟩ = some (.int .i64 f) := fun o => ((HS.out _ hbel.out).next ((Below.refl _ _).alloc (Nat.le_refl _) o)).cells.1
        have k1 : ∀ o, (wr.alloc o).cell? ⟨bb, 1, none⟩ = some (.int .i64 m) := fun o => ((HS.out _ hbel.out).next ((Below.refl _ _).alloc (Nat.le_refl _) o)).cells.2.1
        have kb : bb < wr.heap.size := (HS.out _ hbel.out).lt
        have kn : ¬ bb = wr.heap.size := Nat.ne_of_lt kb
        clear HS HU HW
        go_region_with (first
          | (go_at_call 177; refine (HR.out _ (by first | exact HD0.out | exact HD1.out _)).mono ?_; rintro e w5 ⟨rfl, hb5⟩; (first
            | (have q5 : w5.heap[wr.heap.size]? = some (.cells #[.int .i64 0, .bool false, .int .i64 0, .string { data := #[] }, .int .i64 0] 90) := (hb5.block wr.heap.size (by simp)).trans (blk_new wr _); have q6 := blk_cell q5 0; have q7 := blk_cell q5 1; have q8 := blk_cell q5 2; have q9 := blk_cell q5 3; have q10 := blk_cell q5 4; have q11 := fz_cells q5; have HB5 : Hid (Below wr.heap.size wr w5) := (((Below.refl _ _).alloc (Nat.le_refl _) _).drew).trans (hb5.mono (by simp)); simp only [List.getElem?_toArray, List.getElem?_cons_zero, List.getElem?_cons_succ] at q6 q7 q8 q9 q10)
            | (have HB5 : Hid (Below wr.heap.size wr w5) := (Below.refl wr.heap.size wr).drew.trans hb5))))
        all_goals
          go_wp2
          go_meet
          case rel =>
            first
              | (refine ⟨w5.heap.size, rfl, rfl, ?_, ?_, ?_⟩
                 all_goals unfold Hid
                 · with_reducible exact blk_new _ _
                 · exact hown.out.below (HB5.out.alloc HB5.out.size _) (Nat.le_refl _)
                 · exact hbel.out.trans ((HB5.out.alloc HB5.out.size _).mono hbel.out.size))
              | (have hf := ((((HB5.out.setCell (p := ⟨wr.heap.size, 0, none⟩) (Nat.le_refl _) (.int .i64 n1)).setCell (p := ⟨wr.heap.size, 1, none⟩) (Nat.le_refl _) (.bool n2)).setCell (p := ⟨wr.heap.size, 2, none⟩) (Nat.le_refl _) (.int .i64 n3)).setCell (p := ⟨wr.heap.size, 3, none⟩) (Nat.le_refl _) (.string n4)).setCell (p := ⟨wr.heap.size, 4, none⟩) (Nat.le_refl _) (.int .i64 F)
                 refine ⟨wr.heap.size, rfl, rfl, ?_, ?_, ?_⟩
                 all_goals unfold Hid
                 · exact At5.put q5 _ _ _ _ _
                 · exact hown.out.below hf (Nat.le_refl _)
                 · exact hbel.out.trans (hf.mono hbel.out.size))
      case rest =>
        obtain ⟨r, rfl, rfl, hr, hown2, hbel2⟩ := hcut
        have q0 := blk_cell hr.out 0
        have q1 := blk_cell hr.out 1
        have q2 := blk_cell hr.out 2
        have q3 := blk_cell hr.out 3
        simp only [List.getElem?_toArray, List.getElem?_cons_zero, List.getElem?_cons_succ] at q0 q1 q2 q3
        have hrl : ¬ r = wc.heap.size := Nat.ne_of_lt (Array.getElem?_eq_some_iff.1 hr.out).1
        have hns : k < ns.length := (List.getElem?_eq_some_iff.1 HNk.out).1
        have hown0 : wc.ownsRow w.heap.size 78 4 u6 k (nq (ns.take k)) := by
          have h := hown2.out
          unfold HasN HasV at h
          rwa [List.length_take, Nat.min_eq_left (Nat.le_of_lt hns)] at h
        have hs2 := hbel2.out.size
        clear hown hbel HR hown2 hr
        go_wp2_with (first | (at_builtin; refine wpList_append_own _ rfl _ _ 88 rfl w.heap.size 78 i0 (.agg #[.int .i64 0, .bool false, .int .i64 0, .string { data := #[] }]) 4 40 Tryz.underlying88 hi hz0 hz1 hz2 rfl (by decide) _ _ _ rfl (hown0.alloc _) ⟨wc.heap.size, 0, none⟩ 1 1 [.int .i64 n1, .bool n2, .int .i64 n3, .string n4] rfl rfl (num_new _ _ _ _ _) (num_cell _ _ _ _) (by unfold maxLen; omega) (by omega) (by simp; omega) ?_) | go_in)
        intro v' w6 hown6 hgrow _
        have HB6 : Hid (Below w.heap.size w w6) := Below.grown (hbel2.out.alloc hs2 _) hgrow (by simp; omega) (fun j hj => (hown0.lt j hj).1)
        have H6 : Hid (HasN w6 w.heap.size v' (ns.take (k + 1))) := by
          rw [Hid, List.take_add_one, HNk.out]
          exact hasN_more (p := (n1, n2, n3, n4)) hown6 (by rw [List.length_take, Nat.min_eq_left (Nat.le_of_lt hns)])
        clear hown6 hgrow hown0 hbel2 q0 q1 q2 q3
        go_wp2
        go_roundw
        case rel => exact ⟨k + 1, by omega, by go_num, H6, HB6⟩
        case measure => simp [intOf]; omega
    · have hk2 : k = N := by omega
      subst hk2
      have HF : Hid (HasN wr w.heap.size u6 ns) := by
        have h := hown.out
        rwa [hNs.out, List.take_length] at h
      clear hown HW HS HU
      go_wp2
      go_ret2
      exact ⟨u6, rfl, HF.out, hbel.out⟩
end Go.Proofs.YteofommckgeemaaGreatDoor
namespace Go.Proofs.YteofommckgeemaaGreatDoor
open Go.RowKit
set_option linter.unusedVariables false
set_option maxRecDepth 100000
set_option linter.unusedSimpArgs false
/-- The library's and the program's tables, in whatever world comes behind. -/
def TB (w0 : World) : Prop := ∀ X, Below w0.heap.size w0 X → PTab X ∧ UTb X ∧ KTab X
theorem TB.of {w0 : World} (h1 : PTab w0) (h2 : UTb w0) (h3 : KTab w0) : TB w0 := fun X hX => ⟨h1.next hX, Utf8Tabs_below h2 hX, h3.next hX⟩
/-- Behind a change of the bench alone what lay ahead of it stands. -/
theorem gb_bel {w0 W W' : World} {bb : Nat} (h : Below w0.heap.size w0 W) (hg : W.grownBy W' (some bb)) (hb : w0.heap.size ≤ bb) : Below w0.heap.size w0 W' := Below.grown h hg h.size (fun k hk => by cases hk; exact hb)
theorem gb_tr {W W' W'' : World} {r : Option Nat} (h : W.grownBy W' r) (g : W'.grownBy W'' r) : W.grownBy W'' r :=
  ⟨g.os.trans h.os, g.tape.trans h.tape, g.output.trans h.output, Nat.le_trans h.size g.size, fun i hi hn => (g.block i (Nat.lt_of_lt_of_le hi h.size) hn).trans (h.block i hi hn)⟩
theorem gb_of {W W' : World} (h : Below W.heap.size W W') (r : Option Nat) : W.grownBy W' r := ⟨h.os, h.tape, h.output, h.size, fun k hk _ => h.block k hk⟩
/-- Flags put together. -/
abbrev orF (a b : Int) : Int := bits .or .i64 a b
theorem st_set {W : World} {bb : Nat} {f m fl : Int} (h : St W bb f m fl) (x : Int) : St (W.setCell ⟨bb, 2, none⟩ (.int .i64 x)) bb f m x ∧ W.grownBy (W.setCell ⟨bb, 2, none⟩ (.int .i64 x)) (some bb) := by
  refine ⟨?_, ⟨rfl, rfl, rfl, by simp, fun k hk hn => Below.heap_setCell _ _ _ _ (fun e => hn (by rw [e]))⟩⟩
  have h' : W.heap[bb]? = some (.cells #[.int .i64 f, .int .i64 m, .int .i64 fl] 32) := h
  unfold St World.setCell
  simp [Array.getElem?_modify, h']
set_option maxRecDepth 100000 in
set_option maxHeartbeats 1000000 in
theorem shown_any (w0 : World) (hT : TB w0) (bb : Nat) (hbb : w0.heap.size ≤ bb) (f m fl : Int) (k : Int) (b : Bool) (e : Int) (s : ByteArray) (F : Int) (hs : s.size ≤ 4611686018427387904) (w : World) (hw : Below w0.heap.size w0 w) (hS : St w bb f m fl) :
    Calls Tryz.prog 72 #[.pointer (some ⟨bb, 0, none⟩), rsV k b e s F] w fun x w' => x = .returned (.string (shT k b e s)) ∧ St w' bb f m (orF fl F) ∧ w.grownBy w' (some bb) := by
  have HT : Hid (∀ X, Below w0.heap.size w0 X → Calls Tryz.prog 150 #[numV k b e s] X fun x w' => x = .returned (.string (shT k b e s)) ∧ Below X.heap.size X w') := fun X hX => iShowNum_any k b e s X hs (hT X hX).1
  obtain ⟨hS2, hG2⟩ := st_set hS (orF fl F)
  have hz2 : (w.setCell ⟨bb, 2, none⟩ (.int .i64 (orF fl F))).heap.size = w.heap.size := by simp
  have hA := blk_new (w.setCell ⟨bb, 2, none⟩ (.int .i64 (orF fl F))) (.cells #[.int .i64 k, .bool b, .int .i64 e, .string s, .int .i64 F] 90)
  rw [hz2] at hA
  have hba : Below (w.setCell ⟨bb, 2, none⟩ (.int .i64 (orF fl F))).heap.size (w.setCell ⟨bb, 2, none⟩ (.int .i64 (orF fl F))) ((w.setCell ⟨bb, 2, none⟩ (.int .i64 (orF fl F))).alloc (.cells #[.int .i64 k, .bool b, .int .i64 e, .string s, .int .i64 F] 90)).drew := ((Below.refl _ _).alloc (Nat.le_refl _) _).drew
  have hG : w.grownBy ((w.setCell ⟨bb, 2, none⟩ (.int .i64 (orF fl F))).alloc (.cells #[.int .i64 k, .bool b, .int .i64 e, .string s, .int .i64 F] 90)).drew (some bb) := gb_tr hG2 (gb_of hba _)
  have hS3 := hS2.next hba
  have hA3 : ((w.setCell ⟨bb, 2, none⟩ (.int .i64 (orF fl F))).alloc (.cells #[.int .i64 k, .bool b, .int .i64 e, .string s, .int .i64 F] 90)).drew.heap[w.heap.size]? = some (.cells #[.int .i64 k, .bool b, .int .i64 e, .string s, .int .i64 F] 90) := hA
  have HH : Hid (St ((w.setCell ⟨bb, 2, none⟩ (.int .i64 (orF fl F))).alloc (.cells #[.int .i64 k, .bool b, .int .i64 e, .string s, .int .i64 F] 90)).drew bb f m (orF fl F) ∧ w.grownBy ((w.setCell ⟨bb, 2, none⟩ (.int .i64 (orF fl F))).alloc (.cells #[.int .i64 k, .bool b, .int .i64 e, .string s, .int .i64 F] 90)).drew (some bb) ∧ ((w.setCell ⟨bb, 2, none⟩ (.int .i64 (orF fl F))).alloc (.cells #[.int .i64 k, .bool b, .int .i64 e, .string s, .int .i64 F] 90)).drew.heap[w.heap.size]? = some (.cells #[.int .i64 k, .bool b, .int .i64 e, .string s, .int .i64 F] 90) ∧ Below w0.heap.size w0 ((w.setCell ⟨bb, 2, none⟩ (.int .i64 (orF fl F))).alloc (.cells #[.int .i64 k, .bool b, .int .i64 e, .string s, .int .i64 F] 90)).drew) := ⟨hS3, hG, hA3, gb_bel hw hG hbb⟩
  have hbl := hS.lt
  obtain ⟨c0, c1, c2, z0, z1, z2⟩ := (hS.next ((Below.refl _ _).alloc (Nat.le_refl _) (.cells #[.int .i64 k, .bool b, .int .i64 e, .string s, .int .i64 F] 90))).cells
  have d4 := blk_cell (blk_new w (.cells #[.int .i64 k, .bool b, .int .i64 e, .string s, .int .i64 F] 90)) 4
  simp only [List.getElem?_toArray, List.getElem?_cons_zero, List.getElem?_cons_succ] at d4
  have hne : ¬ bb = w.heap.size := Nat.ne_of_lt hbl
  clear hS hS2 hG2 hG hA hA3 hS3 hba hz2 hw
  go_enter Tryz.func72, Tryz.ntmps72
  go_upto_region 1 with fail
  go_region
  generalize ((w.setCell ⟨bb, 2, none⟩ (.int .i64 (bits .or .i64 fl F))).alloc (.cells #[.int .i64 k, .bool b, .int .i64 e, .string s, .int .i64 F] 90)).drew = W at *
  have e0 := blk_cell HH.out.2.2.1 0
  have e1 := blk_cell HH.out.2.2.1 1
  have e2 := blk_cell HH.out.2.2.1 2
  have e3 := blk_cell HH.out.2.2.1 3
  simp only [List.getElem?_toArray, List.getElem?_cons_zero, List.getElem?_cons_succ] at e0 e1 e2 e3
  clear c0 c1 c2 z0 z1 z2 d4 hne hbl
  go_wp2_with fail
  refine (HT.out _ HH.out.2.2.2).mono ?_
  rintro x w2 ⟨rfl, hb2⟩
  have HF : Hid (St w2 bb f m (bits .or .i64 fl F) ∧ w.grownBy w2 (some bb)) := ⟨HH.out.1.next hb2, gb_tr HH.out.2.1 (gb_of hb2 _)⟩
  clear hb2 HH HT e0 e1 e2 e3
  go_wp2
  go_ret
  exact ⟨rfl, HF.out.1, HF.out.2⟩
theorem nm_at {W : World} {base : Nat} {v : Value} {l : List Nmt} (h : HasN W base v l) (hl : 0 < l.length) : ∃ g cap, v = .slice (some ⟨g, 0, none⟩) l.length cap ∧ g < W.heap.size ∧ base ≤ g ∧ ∀ i n, l[i]? = some n → W.cell? ⟨g, i * 4, none⟩ = some (.int .i64 n.1) ∧ W.cell? ⟨g, i * 4 + 1, none⟩ = some (.bool n.2.1) ∧ W.cell? ⟨g, i * 4 + 2, none⟩ = some (.int .i64 n.2.2.1) ∧ W.cell? ⟨g, i * 4 + 3, none⟩ = some (.string n.2.2.2) := by
  obtain ⟨a, cap, rfl, hg⟩ := HasV.form h (nq_length l)
  obtain ⟨g, rfl, hbg, hlt, hc⟩ := hg hl
  refine ⟨g, cap, rfl, hlt, hbg, fun i n hn => ?_⟩
  have hi := (List.getElem?_eq_some_iff.1 hn).1
  obtain ⟨q0, q1, q2, q3⟩ := nq_at l i n hn
  exact ⟨(hc _ (by omega)).trans q0, (hc _ (by omega)).trans q1, (hc _ (by omega)).trans q2, (hc _ (by omega)).trans q3⟩
end Go.Proofs.YteofommckgeemaaGreatDoor
namespace Go.Proofs.YteofommckgeemaaGreatDoor
set_option linter.unusedVariables false
set_option maxRecDepth 100000
set_option linter.unusedSimpArgs false
section
variable {P : Program} {ops : Array Oper}
/-- The slot of operation j, read. -/
def opV' (ops : Array Oper) (j : Nat) (a : Act) : Value := match (ops[j]?).bind (·.dst) with
  | some d => a.tmps.getD d undef
  | none => undef
/-- The slots of the region written anew. -/
def putL' (f : Nat → Value) : List Nat → Act → Act
  | [], a => a
  | d :: r, a => putL' f r (a.put (some d) (f d))
theorem putL_defers' (f : Nat → Value) (l : List Nat) (a : Act) : (putL' f l a).defers = a.defers := by
  induction l generalizing a with
  | nil => rfl
  | cons d r ih => exact ih _
theorem putL_size' (f : Nat → Value) (l : List Nat) (a : Act) : (putL' f l a).tmps.size = a.tmps.size := by
  induction l generalizing a with
  | nil => rfl
  | cons d r ih => rw [putL', ih]; simp [Act.put]
theorem putL_out' (f : Nat → Value) (l : List Nat) (a : Act) (k : Nat) (h : k ∉ l) : (putL' f l a).tmps[k]? = a.tmps[k]? := by
  induction l generalizing a with
  | nil => rfl
  | cons d r ih =>
    rw [putL', ih _ (fun q => h (List.mem_cons_of_mem _ q))]
    have : d ≠ k := fun q => h (by rw [q]; exact List.mem_cons_self)
    simp [Act.put, Array.getElem?_setIfInBounds, this]
theorem putL_in' (f : Nat → Value) (l : List Nat) (a : Act) (k : Nat) (h : k ∈ l) (hk : k < a.tmps.size) : (putL' f l a).tmps[k]? = some (f k) := by
  induction l generalizing a with
  | nil => cases h
  | cons d r ih =>
    rw [putL']
    by_cases hr : k ∈ r
    · exact ih _ hr (by simp [Act.put]; exact hk)
    · have : d = k := by rcases List.mem_cons.1 h with q | q; exact q.symm; exact absurd q hr
      subst this
      rw [putL_out' _ _ _ _ hr]
      simp [Act.put, Array.getElem?_setIfInBounds, hk]
/-- The frame but for the region's slots. -/
def FrmA' (l : List Nat) (a0 a : Act) : Prop := a.defers = a0.defers ∧ a.tmps.size = a0.tmps.size ∧ ∀ k, k ∉ l → a.tmps[k]? = a0.tmps[k]?
theorem FrmA'.eq {l : List Nat} {a0 a : Act} (h : FrmA' l a0 a) : a = putL' (fun d => a.tmps.getD d undef) l a0 := by
  obtain ⟨h1, h2, h3⟩ := h
  have e : a.tmps = (putL' (fun d => a.tmps.getD d undef) l a0).tmps := by
    apply Array.ext_getElem?
    intro k
    by_cases hk : k ∈ l
    · by_cases hs : k < a0.tmps.size
      · rw [putL_in' _ _ _ _ hk hs]
        have : k < a.tmps.size := by omega
        simp [Array.getD, this]
      · rw [Array.getElem?_eq_none (by omega), Array.getElem?_eq_none (by rw [putL_size']; omega)]
    · rw [putL_out' _ _ _ _ hk, h3 k hk]
  have e2 : a.defers = (putL' (fun d => a.tmps.getD d undef) l a0).defers := by rw [putL_defers']; exact h1
  generalize putL' (fun d => a.tmps.getD d undef) l a0 = b at e e2
  cases a
  cases b
  simp only at e e2
  rw [e, e2]
theorem FrmA'.put {l : List Nat} {a0 a : Act} (h : FrmA' l a0 a) (d : Nat) (hd : d ∈ l) (v : Value) : FrmA' l a0 (a.put (some d) v) := by
  obtain ⟨h1, h2, h3⟩ := h
  refine ⟨h1, by simpa [Act.put] using h2, fun k hk => ?_⟩
  have : d ≠ k := fun q => hk (by rw [← q]; exact hd)
  rw [← h3 k hk]
  simp [Act.put, Array.getElem?_setIfInBounds, this]
theorem put_same' (a : Act) (d : Nat) (v : Value) (h : d < a.tmps.size) : (a.put (some d) v).tmps.getD d undef = v := by
  rw [Array.getD_eq_getD_getElem?]; simp [Act.put, h]
theorem put_other' (a : Act) (d e : Nat) (v : Value) (h : d ≠ e) : (a.put (some d) v).tmps.getD e undef = a.tmps.getD e undef := by
  rw [Array.getD_eq_getD_getElem?, Array.getD_eq_getD_getElem?]; simp [Act.put, Array.getElem?_setIfInBounds, h]
/-- The shape of the region: each operation has a slot of its own, no guard, and waits for earlier ones alone. -/
def FcsB' (ops : Array Oper) (l : List Nat) (n : Nat) : Bool :=
  (List.range ops.size).all (fun i => match ops[i]? with
    | none => false
    | some o => o.guard.isNone && o.after.all (fun e => decide (e.on < i)) && decide (o.dst = some (l.getD i 0))) &&
  decide (l.length = ops.size) && decide l.Nodup && l.all (fun d => decide (d < n))
theorem wpAny_facts' {Q : Exit → Act → World → Prop} (l : List Nat) (a0 : Act) (G : Nat → Value → World → Prop) (S : Array Bool → World → Prop) (R : World → World → Prop)
    (hB : FcsB' ops l a0.tmps.size = true)
    (hG : ∀ j v w w', R w w' → G j v w → G j v w')
    (hs : ∀ (i : Nat) (o : Oper) (li : Array Bool) (a : Act) (w : World), ops[i]? = some o → li.size = ops.size → li.getD i true = false → S li w → FrmA' l a0 a → (∀ e ∈ o.after, Region.binds .any e = true → G e.on (opV' ops e.on a) w) → o.wp P a w (fun a' w' => ∃ v, a' = a.put o.dst v ∧ G i v w' ∧ S (li.setIfInBounds i true) w' ∧ R w w') Q)
    (hQ : ∀ (f : Nat → Value) (li : Array Bool) w, (∀ j, j < ops.size → li.getD j true = true) → S li w → (∀ j d, l[j]? = some d → G j (f d) w) → Q .normal (putL' f l a0) w) :
    ∀ (fuel : Nat) (listed : Array Bool) (a : Act) (w : World), listed.size = ops.size → (listed.toList.filter (!·)).length ≤ fuel → S listed w → FrmA' l a0 a → (∀ j, j < ops.size → listed.getD j true = true → G j (opV' ops j a) w) → wpAny P .any ops Q fuel listed a w := by
  unfold FcsB' at hB
  simp only [Bool.and_eq_true, decide_eq_true_eq, List.all_eq_true, List.mem_range] at hB
  obtain ⟨⟨⟨h1, h2⟩, h3⟩, h4⟩ := hB
  have hop : ∀ i o, ops[i]? = some o → o.guard = none ∧ (∀ e ∈ o.after, e.on < i) ∧ o.dst = some (l.getD i 0) ∧ i < ops.size := fun i o ho => by
    have hi := (Array.getElem?_eq_some_iff.1 ho).1
    have := h1 i hi
    rw [ho] at this
    simp only [Bool.and_eq_true, decide_eq_true_eq] at this
    obtain ⟨⟨g1, g2⟩, g3⟩ := this
    refine ⟨Option.isNone_iff_eq_none.1 g1, ?_, g3, hi⟩
    · intro e he
      have := Array.all_eq_true_iff_forall_mem.1 g2 e he
      exact of_decide_eq_true this
  have hval : ∀ j a, j < ops.size → opV' ops j a = a.tmps.getD (l.getD j 0) undef := fun j a hj => by
    unfold opV'
    have ho : ops[j]? = some ops[j] := Array.getElem?_eq_getElem hj
    rw [ho]
    simp only [Option.bind_some, (hop j _ ho).2.2.1]
  have hld : ∀ j, j < ops.size → l[j]? = some (l.getD j 0) := fun j hj => by
    rw [List.getD_eq_getElem?_getD, List.getElem?_eq_getElem (by omega)]; rfl
  have hfin : ∀ listed a w, listed.size = ops.size → Region.ready .any ops listed = [] → S listed w → FrmA' l a0 a → (∀ j, j < ops.size → listed.getD j true = true → G j (opV' ops j a) w) → Q .normal a w := fun listed a w hz hr hS hF hL => by
    have all : ∀ n j, j < n → j < ops.size → listed.getD j true = true := by
      intro n
      induction n with
      | zero => intro j hj; omega
      | succ n ih =>
        intro j hj hjs
        by_cases hjn : j < n
        · exact ih j hjn hjs
        · cases hc : listed.getD j true with
          | true => rfl
          | false =>
            have ho : ops[j]? = some ops[j] := Array.getElem?_eq_getElem hjs
            have : j ∈ Region.ready .any ops listed := mem_ready.2 ⟨hc, _, ho, fun e he _ => by
              have he2 := (hop j _ ho).2.1 e he
              have := ih e.on (by omega) (by omega)
              have hlt : e.on < listed.size := by omega
              simp only [Array.getD, hlt, dif_pos] at this ⊢
              exact this⟩
            rw [hr] at this
            cases this
    have e := hF.eq
    rw [e]
    refine hQ _ listed w (fun j hj => all (j + 1) j (by omega) hj) hS fun j d hj => ?_
    have hjs : j < ops.size := by have := (List.getElem?_eq_some_iff.1 hj).1; omega
    have := hL j hjs (all (j + 1) j (by omega) hjs)
    rw [hval j a hjs] at this
    rw [hld j hjs] at hj
    rw [← Option.some.inj hj]
    exact this
  intro fuel
  induction fuel with
  | zero =>
    intro listed a w hz hf hS hF hL
    have hr : Region.ready .any ops listed = [] := by
      cases hq : Region.ready .any ops listed with
      | nil => rfl
      | cons i r =>
        have hi : i ∈ Region.ready .any ops listed := by rw [hq]; exact List.mem_cons_self
        obtain ⟨hi1, o, ho, -⟩ := mem_ready.1 hi
        have hlt : i < listed.size := by rw [hz]; exact (hop i o ho).2.2.2
        have hm : false ∈ listed.toList.filter (!·) := by
          rw [List.mem_filter]
          refine ⟨?_, rfl⟩
          simp only [Array.getD, hlt, dif_pos] at hi1
          have : listed[i] ∈ listed.toList := Array.mem_toList_iff.2 (Array.getElem_mem hlt)
          rw [show listed[i] = false from hi1] at this
          exact this
        have := List.length_pos_of_mem hm
        omega
    exact ⟨hr, hfin listed a w hz hr hS hF hL⟩
  | succ fuel ih =>
    intro listed a w hz hf hS hF hL
    refine ⟨fun hr => hfin listed a w hz hr hS hF hL, fun i hi => ?_⟩
    obtain ⟨hi1, o, ho, hdep⟩ := mem_ready.1 hi
    obtain ⟨g1, g2, g3, g4⟩ := hop i o ho
    unfold wpOp
    simp only [ho]
    have hw : Region.wanted o (yielded ops a.tmps) = true := by simp [Region.wanted, g1]
    rw [if_pos hw]
    refine .inl (Oper.wp_mono ?_ (hs i o listed a w ho hz hi1 hS hF (fun e he hb => hL e.on (by have := g2 e he; omega) (by
      have := hdep e he hb
      have hlt : e.on < listed.size := by have := g2 e he; omega
      simp only [Array.getD, hlt, dif_pos] at this ⊢
      exact this))))
    rintro a' w' ⟨v, rfl, k1, k2, k3⟩
    have hlt : i < listed.size := by omega
    have hd : l.getD i 0 ∈ l := List.mem_of_getElem? (hld i g4)
    rw [g3]
    refine ih _ _ _ (by simp [hz]) ?_ k2 (hF.put _ hd v) fun j hj hjl => ?_
    · have e : (listed.setIfInBounds i true).toList = listed.toList.set i true := by simp
      rw [e]
      have hx : listed.toList[i]? = some false := by
        simp only [Array.getD, hlt, dif_pos] at hi1
        rw [Array.getElem?_toList, Array.getElem?_eq_getElem hlt]
        exact congrArg some hi1
      have key : ∀ (L : List Bool) (i : Nat), L[i]? = some false → ((L.set i true).filter (!·)).length + 1 = (L.filter (!·)).length := by
        intro L
        induction L with
        | nil => intro i h; simp at h
        | cons b L ihL =>
          intro i h
          cases i with
          | zero =>
            simp only [List.getElem?_cons_zero, Option.some.injEq] at h
            subst h
            simp
          | succ i =>
            have := ihL i (by simpa using h)
            simp only [List.set_cons_succ, List.filter_cons]
            split
            · simp only [List.length_cons]; omega
            · omega
      have := key _ _ hx
      omega
    · rw [hval j _ hj]
      by_cases hji : j = i
      · subst hji
        have hlt2 : l.getD j 0 < a.tmps.size := by
          have := h4 _ hd
          rw [hF.2.1]
          exact this
        have : (a.put (some (l.getD j 0)) v).tmps.getD (l.getD j 0) undef = v := put_same' a _ v hlt2
        rw [this]
        exact k1
      · have hne : l.getD i 0 ≠ l.getD j 0 := fun q => by
          have a1 := hld i g4
          have a2 := hld j hj
          rw [q] at a1
          exact hji ((List.getElem?_inj (show j < l.length by omega) h3).1 (a2.trans a1.symm))
        have : (a.put (some (l.getD i 0)) v).tmps.getD (l.getD j 0) undef = a.tmps.getD (l.getD j 0) undef := put_other' a _ _ v hne
        rw [this, ← hval j a hj]
        refine hG j _ w w' k3 (hL j hj ?_)
        rwa [Go.getD_set_ne true (fun q => hji q.symm)] at hjl
/-- THE REGION by facts. -/
theorem wp_region_facts' {id : Nat} {Q : Exit → Act → World → Prop} {a : Act} {w : World} (l : List Nat) (G : Nat → Value → World → Prop) (S : Array Bool → World → Prop) (R : World → World → Prop) (hm : P.follows .mixedOrders = true)
    (hB : FcsB' ops l a.tmps.size = true) (hS : S (Array.replicate ops.size false) w.drew)
    (hG : ∀ j v w w', R w w' → G j v w → G j v w')
    (hs : ∀ (i : Nat) (o : Oper) (li : Array Bool) (b : Act) (w : World), ops[i]? = some o → li.size = ops.size → li.getD i true = false → S li w → FrmA' l a b → (∀ e ∈ o.after, Region.binds .any e = true → G e.on (opV' ops e.on b) w) → ∀ K : Act → World → Prop, (∀ v w', G i v w' → S (li.setIfInBounds i true) w' → R w w' → K (b.put o.dst v) w') → o.wp P b w K Q)
    (hQ : ∀ (f : Nat → Value) (li : Array Bool) w, (∀ j, j < ops.size → li.getD j true = true) → S li w → (∀ j d, l[j]? = some d → G j (f d) w) → Q .normal (putL' f l a) w) : (Code.region id ops true).wp P Q a w := by
  refine wp_region_any hm (wpAny_facts' l a G S R hB hG (fun i o li b w h0 h1 h2 h3 h4 h5 => hs i o li b w h0 h1 h2 h3 h4 h5 _ (fun v w' k1 k2 k3 => ⟨v, rfl, k1, k2, k3⟩)) hQ _ _ _ _ (by simp) ?_ hS ⟨rfl, rfl, fun _ _ => rfl⟩ fun j hj hl => ?_)
  · refine Nat.le_trans (List.length_filter_le _ _) ?_
    simp
  · simp [Array.getD, hj] at hl
end
end Go.Proofs.YteofommckgeemaaGreatDoor
namespace Go.Proofs.YteofommckgeemaaGreatDoor
open Go.RowKit
set_option linter.unusedVariables false
set_option maxRecDepth 100000
set_option linter.unusedSimpArgs false
abbrev numW (n : Nmt) : Value := .agg #[.int .i64 n.1, .bool n.2.1, .int .i64 n.2.2.1, .string n.2.2.2]
def g1F (bb : Nat) (f m : Int) (F g cap : Nat) (na : Nmt) (k : Int) (b : Bool) (e : Int) (s : ByteArray) (fg : Int) (j : Nat) (v : Value) : Prop := match j with
  | 0 => v = (.pointer (some ⟨bb, 0, none⟩) : Value)
  | 1 => v = (.func (.func F) #[] #[] : Value)
  | 2 => v = (.pointer (some ⟨bb, 0, none⟩) : Value)
  | 3 => v = (.pointer (some ⟨bb, 0, none⟩) : Value)
  | 4 => v = (.pointer (some ⟨bb, 0, none⟩) : Value)
  | 5 => v = (.int .i64 f : Value)
  | 6 => v = (.pointer (some ⟨bb, 0, none⟩) : Value)
  | 7 => v = (.pointer (some ⟨bb, 0, none⟩) : Value)
  | 8 => v = (.pointer (some ⟨bb, 1, none⟩) : Value)
  | 9 => v = (.int .i64 m : Value)
  | 10 => v = (.slice (some ⟨g, 0, none⟩) 1 cap : Value)
  | 11 => v = (.pointer (some ⟨g, 0, none⟩) : Value)
  | 12 => v = numW na
  | 13 => v = rsV k b e s fg
  | 14 => v = (.string (shT k b e s) : Value)
  | 15 => v = (.string (shT k b e s) : Value)
  | _ => True
set_option maxRecDepth 100000 in
set_option maxHeartbeats 4000000 in
theorem t1_any (w0 : World) (hT : TB w0) (bb : Nat) (hbb : w0.heap.size ≤ bb) (f m fl : Int) (na : Nmt) (F : Nat) (k : Int) (b : Bool) (e : Int) (s : ByteArray) (fg : Int) (hs : s.size ≤ 4611686018427387904) (p q base : Nat) (v : Value) (w : World) (hw : Below w0.heap.size w0 w) (hS : St w bb f m fl)
    (hp : w.heap[p]? = some (.cells #[.pointer (some ⟨bb, 0, none⟩)] 55)) (hq : w.heap[q]? = some (.cells #[.func (.func F) #[] #[]] 64)) (hv : HasN w base v [na]) (hbase : bb < base)
    (hE : ∀ args X, (callFunc F args).run Tryz.prog X = .ok (.enter F args) X)
    (hF : ∀ X, Below w0.heap.size w0 X → Calls Tryz.prog F #[.int .i64 f, .int .i64 m, numW na] X fun r w' => r = .returned (rsV k b e s fg) ∧ Below X.heap.size X w') :
    Calls Tryz.prog 91 #[v, .pointer (some ⟨p, 0, none⟩), .pointer (some ⟨q, 0, none⟩)] w fun x w' => x = .returned (.string (shT k b e s)) ∧ St w' bb f m (orF fl fg) ∧ w.grownBy w' (some bb) := by
  obtain ⟨g, cap, rfl, hgl, hgb, hc⟩ := nm_at hv (by simp)
  simp only [List.length_cons, List.length_nil, Nat.zero_add, Nat.reduceAdd]
  have hSh : ∀ X, Below w0.heap.size w0 X → St X bb f m fl → Calls Tryz.prog 72 #[.pointer (some ⟨bb, 0, none⟩), rsV k b e s fg] X fun x w' => x = .returned (.string (shT k b e s)) ∧ St w' bb f m (orF fl fg) ∧ X.grownBy w' (some bb) := fun X h1 h2 => shown_any w0 hT bb hbb f m fl k b e s fg hs X h1 h2
  have hpl := (Array.getElem?_eq_some_iff.1 hp).1
  have hql := (Array.getElem?_eq_some_iff.1 hq).1
  have hpb : p ≠ bb := fun q => by rw [q] at hp; rw [show w.heap[bb]? = _ from hS] at hp; simp at hp
  have hqb : q ≠ bb := fun x => by rw [x] at hq; rw [show w.heap[bb]? = _ from hS] at hq; simp at hq
  have hgn : g ≠ bb := by omega
  have HG : Hid (∀ X, w.grownBy X (some bb) → X.cell? ⟨p, 0, none⟩ = some (.pointer (some ⟨bb, 0, none⟩)) ∧ X.cell? ⟨q, 0, none⟩ = some (.func (.func F) #[] #[]) ∧ ∀ i n, [na][i]? = some n → X.cell? ⟨g, i * 4, none⟩ = some (.int .i64 n.1) ∧ X.cell? ⟨g, i * 4 + 1, none⟩ = some (.bool n.2.1) ∧ X.cell? ⟨g, i * 4 + 2, none⟩ = some (.int .i64 n.2.2.1) ∧ X.cell? ⟨g, i * 4 + 3, none⟩ = some (.string n.2.2.2)) := fun X hX => by
    refine ⟨?_, ?_, fun i n hn => ?_⟩
    · exact blk_cell ((hX.block p hpl (fun h => hpb (Option.some.inj h))).trans hp) 0
    · exact blk_cell ((hX.block q hql (fun h => hqb (Option.some.inj h))).trans hq) 0
    · obtain ⟨a0, a1, a2, a3⟩ := hc i n hn
      have hn2 : ∀ j : Nat, (⟨g, j, none⟩ : Addr).block ≠ bb := fun j => hgn
      exact ⟨hX.cell a0 (fun h => hgn (Option.some.inj h)), hX.cell a1 (fun h => hgn (Option.some.inj h)), hX.cell a2 (fun h => hgn (Option.some.inj h)), hX.cell a3 (fun h => hgn (Option.some.inj h))⟩
  have HS0 : Hid (St w.drew bb f m fl ∧ w.grownBy w.drew (some bb) ∧ Below w0.heap.size w0 w.drew) := ⟨hS, ⟨rfl, rfl, rfl, Nat.le_refl _, fun _ _ _ => rfl⟩, hw.drew⟩
  clear hc hv hp hq hS hw hpl hql hpb hqb
  go_enter Tryz.func91, Tryz.ntmps91
  go_upto_region 1 with fail
  refine wp_region_facts' [5, 6, 7, 8, 9, 10, 11, 12, 13, 14, 15, 16, 17, 18, 19, 4] (fun j v _ => g1F bb f m F g cap na k b e s fg j v) (fun li X => ∃ x, x = (if li.getD 14 true then orF fl fg else fl) ∧ St X bb f m x ∧ w.grownBy X (some bb) ∧ Below w0.heap.size w0 X) (fun _ _ => True) (by kernel_rfl) (by kernel_rfl) ⟨fl, rfl, HS0.out⟩ (fun _ _ _ _ _ h => h) ?_ ?_
  · intro i o li bF X hio hls hli hS hFr hd K hK
    obtain ⟨x, hx, hSt, hgr, hbl⟩ := hS
    obtain ⟨y0, y1, yc⟩ := HG.out X hgr
    obtain ⟨c0, c1, c2, -, -, -⟩ := hSt.cells
    have hi30 : i < 16 := (Array.getElem?_eq_some_iff.1 hio).1
    have hsz : li.size = 16 := hls
    have p0 : bF.tmps.getD 0 undef = .slice (some ⟨g, 0, none⟩) 1 cap := by
      rw [Array.getD_eq_getD_getElem?, hFr.2.2 0 (by decide)]; rfl
    have p1 : bF.tmps.getD 1 undef = .pointer (some ⟨p, 0, none⟩) := by
      rw [Array.getD_eq_getD_getElem?, hFr.2.2 1 (by decide)]; rfl
    have p2 : bF.tmps.getD 2 undef = .pointer (some ⟨q, 0, none⟩) := by
      rw [Array.getD_eq_getD_getElem?, hFr.2.2 2 (by decide)]; rfl
    have hkp : ∀ j, j ≠ 14 → j < 16 → ∀ X', St X' bb f m x → w.grownBy X' (some bb) → Below w0.heap.size w0 X' → (∃ x, x = (if (li.setIfInBounds j true).getD 14 true then orF fl fg else fl) ∧ St X' bb f m x ∧ w.grownBy X' (some bb) ∧ Below w0.heap.size w0 X') := fun j hj hjl X' a1 a2 a3 => ⟨x, by rw [Go.getD_set_ne true hj]; exact hx, a1, a2, a3⟩
    rcases (show i = 0 ∨ i = 1 ∨ i = 2 ∨ i = 3 ∨ i = 4 ∨ i = 5 ∨ i = 6 ∨ i = 7 ∨ i = 8 ∨ i = 9 ∨ i = 10 ∨ i = 11 ∨ i = 12 ∨ i = 13 ∨ i = 14 ∨ i = 15 by omega) with rfl | rfl | rfl | rfl | rfl | rfl | rfl | rfl | rfl | rfl | rfl | rfl | rfl | rfl | rfl | rfl
    all_goals
      simp only [List.getElem?_toArray, List.getElem?_cons_succ, List.getElem?_cons_zero, Option.some.injEq] at hio
      subst hio
    · unfold Oper.wp
      simp [execOp, go_sem, Act.eval, p1, y0]
      exact hK _ _ rfl (hkp 0 (by decide) (by decide) _ hSt hgr hbl) trivial
    · unfold Oper.wp
      simp [execOp, go_sem, Act.eval, p2, y1]
      exact hK _ _ rfl (hkp 1 (by decide) (by decide) _ hSt hgr hbl) trivial
    · unfold Oper.wp
      simp [execOp, go_sem, Act.eval, p1, y0]
      exact hK _ _ rfl (hkp 2 (by decide) (by decide) _ hSt hgr hbl) trivial
    · have d0 : (bF.tmps.getD 7 undef) = (.pointer (some ⟨bb, 0, none⟩) : Value) := hd ⟨2, .data⟩ (by simp) rfl
      unfold Oper.wp
      simp [execOp, go_sem, Act.eval, d0]
      exact hK _ _ rfl (hkp 3 (by decide) (by decide) _ hSt hgr hbl) trivial
    · have d0 : (bF.tmps.getD 8 undef) = (.pointer (some ⟨bb, 0, none⟩) : Value) := hd ⟨3, .data⟩ (by simp) rfl
      unfold Oper.wp
      simp [execOp, go_sem, Act.eval, d0]
      exact hK _ _ rfl (hkp 4 (by decide) (by decide) _ hSt hgr hbl) trivial
    · have d0 : (bF.tmps.getD 9 undef) = (.pointer (some ⟨bb, 0, none⟩) : Value) := hd ⟨4, .data⟩ (by simp) rfl
      unfold Oper.wp
      simp [execOp, go_sem, Act.eval, d0, c0]
      exact hK _ _ rfl (hkp 5 (by decide) (by decide) _ hSt hgr hbl) trivial
    · unfold Oper.wp
      simp [execOp, go_sem, Act.eval, p1, y0]
      exact hK _ _ rfl (hkp 6 (by decide) (by decide) _ hSt hgr hbl) trivial
    · have d0 : (bF.tmps.getD 11 undef) = (.pointer (some ⟨bb, 0, none⟩) : Value) := hd ⟨6, .data⟩ (by simp) rfl
      unfold Oper.wp
      simp [execOp, go_sem, Act.eval, d0]
      exact hK _ _ rfl (hkp 7 (by decide) (by decide) _ hSt hgr hbl) trivial
    · have d0 : (bF.tmps.getD 12 undef) = (.pointer (some ⟨bb, 0, none⟩) : Value) := hd ⟨7, .data⟩ (by simp) rfl
      unfold Oper.wp
      simp [execOp, go_sem, Act.eval, d0]
      exact hK _ _ rfl (hkp 8 (by decide) (by decide) _ hSt hgr hbl) trivial
    · have d0 : (bF.tmps.getD 13 undef) = (.pointer (some ⟨bb, 1, none⟩) : Value) := hd ⟨8, .data⟩ (by simp) rfl
      unfold Oper.wp
      simp [execOp, go_sem, Act.eval, d0, c1]
      exact hK _ _ rfl (hkp 9 (by decide) (by decide) _ hSt hgr hbl) trivial
    · unfold Oper.wp
      simp [execOp, go_sem, Act.eval, p0]
      exact hK _ _ rfl (hkp 10 (by decide) (by decide) _ hSt hgr hbl) trivial
    · have d0 : (bF.tmps.getD 15 undef) = (.slice (some ⟨g, 0, none⟩) 1 cap : Value) := hd ⟨10, .data⟩ (by simp) rfl
      unfold Oper.wp
      simp [execOp, go_sem, Act.eval, d0]
      exact hK _ _ rfl (hkp 11 (by decide) (by decide) _ hSt hgr hbl) trivial
    · have d0 : (bF.tmps.getD 16 undef) = (.pointer (some ⟨g, 0, none⟩) : Value) := hd ⟨11, .data⟩ (by simp) rfl
      obtain ⟨a0, a1, a2, a3⟩ := yc 0 na rfl
      simp only [Nat.zero_mul, Nat.zero_add, Nat.one_mul, Nat.reduceMul, Nat.reduceAdd] at a0 a1 a2 a3
      unfold Oper.wp
      simp [execOp, go_sem, Act.eval, d0, a0, a1, a2, a3]
      exact hK _ _ rfl (hkp 12 (by decide) (by decide) _ hSt hgr hbl) trivial
    · have d1 : (bF.tmps.getD 6 undef) = (.func (.func F) #[] #[] : Value) := hd ⟨1, .data⟩ (by simp) rfl
      have d5 : (bF.tmps.getD 10 undef) = (.int .i64 f : Value) := hd ⟨5, .data⟩ (by simp) rfl
      have d9 : (bF.tmps.getD 14 undef) = (.int .i64 m : Value) := hd ⟨9, .data⟩ (by simp) rfl
      have e0 : (bF.tmps.getD 17 undef) = numW na := hd ⟨12, .data⟩ (by simp) rfl
      unfold Oper.wp
      simp [execOp, go_sem, Act.eval, d1, d5, d9, hE, e0]
      refine (hF _ hbl).mono ?_
      rintro r w' ⟨rfl, hb⟩
      exact hK _ _ rfl (hkp 13 (by decide) (by decide) _ (hSt.next hb) (gb_tr hgr (gb_of hb _)) (hbl.trans (hb.mono hbl.size))) trivial
    · rw [hli] at hx
      simp only [Bool.false_eq_true, if_false] at hx
      rw [hx] at hSt
      have d0 : (bF.tmps.getD 5 undef) = (.pointer (some ⟨bb, 0, none⟩) : Value) := hd ⟨0, .data⟩ (by simp) rfl
      have d1 : (bF.tmps.getD 18 undef) = rsV k b e s fg := hd ⟨13, .data⟩ (by simp) rfl
      unfold Oper.wp
      simp [execOp, go_sem, Act.eval, d0, d1]
      refine (hSh _ hbl hSt).mono ?_
      rintro r w' ⟨rfl, h1, h2⟩
      exact hK _ _ rfl ⟨orF fl fg, by rw [show (li.setIfInBounds 14 true).getD 14 true = true by simp [Array.getD, hsz]]; rfl, h1, gb_tr hgr h2, gb_bel hbl h2 hbb⟩ trivial
    · have d0 : (bF.tmps.getD 19 undef) = (.string (shT k b e s) : Value) := hd ⟨14, .data⟩ (by simp) rfl
      unfold Oper.wp
      simp [execOp, go_sem, Act.eval, d0]
      exact hK _ _ rfl (hkp 15 (by decide) (by decide) _ hSt hgr hbl) trivial
  · intro fV li X hall hS hl
    obtain ⟨x, hx, hSt, hgr, hbl⟩ := hS
    rw [hall 14 (by decide)] at hx
    simp only [if_true] at hx
    subst hx
    have h4 : fV 4 = .string (shT k b e s) := hl 15 4 rfl
    simp only [putL', Act.put, h4, List.setIfInBounds_toArray, List.set_cons_succ, List.set_cons_zero]
    simp only [Exit.then]
    go_wp2
    go_ret
    exact ⟨rfl, hSt, hgr⟩
def g2F (bb : Nat) (f m : Int) (F g cap : Nat) (na nb : Nmt) (k : Int) (b : Bool) (e : Int) (s : ByteArray) (fg : Int) (j : Nat) (v : Value) : Prop := match j with
  | 0 => v = (.pointer (some ⟨bb, 0, none⟩) : Value)
  | 1 => v = (.func (.func F) #[] #[] : Value)
  | 2 => v = (.pointer (some ⟨bb, 0, none⟩) : Value)
  | 3 => v = (.pointer (some ⟨bb, 0, none⟩) : Value)
  | 4 => v = (.pointer (some ⟨bb, 0, none⟩) : Value)
  | 5 => v = (.int .i64 f : Value)
  | 6 => v = (.pointer (some ⟨bb, 0, none⟩) : Value)
  | 7 => v = (.pointer (some ⟨bb, 0, none⟩) : Value)
  | 8 => v = (.pointer (some ⟨bb, 1, none⟩) : Value)
  | 9 => v = (.int .i64 m : Value)
  | 10 => v = (.slice (some ⟨g, 0, none⟩) 2 cap : Value)
  | 11 => v = (.pointer (some ⟨g, 0, none⟩) : Value)
  | 12 => v = numW na
  | 13 => v = (.slice (some ⟨g, 0, none⟩) 2 cap : Value)
  | 14 => v = (.pointer (some ⟨g, 4, none⟩) : Value)
  | 15 => v = numW nb
  | 16 => v = rsV k b e s fg
  | 17 => v = (.string (shT k b e s) : Value)
  | 18 => v = (.string (shT k b e s) : Value)
  | _ => True
set_option maxRecDepth 100000 in
set_option maxHeartbeats 4000000 in
theorem t2_any (w0 : World) (hT : TB w0) (bb : Nat) (hbb : w0.heap.size ≤ bb) (f m fl : Int) (na nb : Nmt) (F : Nat) (k : Int) (b : Bool) (e : Int) (s : ByteArray) (fg : Int) (hs : s.size ≤ 4611686018427387904) (p q base : Nat) (v : Value) (w : World) (hw : Below w0.heap.size w0 w) (hS : St w bb f m fl)
    (hp : w.heap[p]? = some (.cells #[.pointer (some ⟨bb, 0, none⟩)] 55)) (hq : w.heap[q]? = some (.cells #[.func (.func F) #[] #[]] 60)) (hv : HasN w base v [na, nb]) (hbase : bb < base)
    (hE : ∀ args X, (callFunc F args).run Tryz.prog X = .ok (.enter F args) X)
    (hF : ∀ X, Below w0.heap.size w0 X → Calls Tryz.prog F #[.int .i64 f, .int .i64 m, numW na, numW nb] X fun r w' => r = .returned (rsV k b e s fg) ∧ Below X.heap.size X w') :
    Calls Tryz.prog 71 #[v, .pointer (some ⟨p, 0, none⟩), .pointer (some ⟨q, 0, none⟩)] w fun x w' => x = .returned (.string (shT k b e s)) ∧ St w' bb f m (orF fl fg) ∧ w.grownBy w' (some bb) := by
  obtain ⟨g, cap, rfl, hgl, hgb, hc⟩ := nm_at hv (by simp)
  simp only [List.length_cons, List.length_nil, Nat.zero_add, Nat.reduceAdd]
  have hSh : ∀ X, Below w0.heap.size w0 X → St X bb f m fl → Calls Tryz.prog 72 #[.pointer (some ⟨bb, 0, none⟩), rsV k b e s fg] X fun x w' => x = .returned (.string (shT k b e s)) ∧ St w' bb f m (orF fl fg) ∧ X.grownBy w' (some bb) := fun X h1 h2 => shown_any w0 hT bb hbb f m fl k b e s fg hs X h1 h2
  have hpl := (Array.getElem?_eq_some_iff.1 hp).1
  have hql := (Array.getElem?_eq_some_iff.1 hq).1
  have hpb : p ≠ bb := fun q => by rw [q] at hp; rw [show w.heap[bb]? = _ from hS] at hp; simp at hp
  have hqb : q ≠ bb := fun x => by rw [x] at hq; rw [show w.heap[bb]? = _ from hS] at hq; simp at hq
  have hgn : g ≠ bb := by omega
  have HG : Hid (∀ X, w.grownBy X (some bb) → X.cell? ⟨p, 0, none⟩ = some (.pointer (some ⟨bb, 0, none⟩)) ∧ X.cell? ⟨q, 0, none⟩ = some (.func (.func F) #[] #[]) ∧ ∀ i n, [na, nb][i]? = some n → X.cell? ⟨g, i * 4, none⟩ = some (.int .i64 n.1) ∧ X.cell? ⟨g, i * 4 + 1, none⟩ = some (.bool n.2.1) ∧ X.cell? ⟨g, i * 4 + 2, none⟩ = some (.int .i64 n.2.2.1) ∧ X.cell? ⟨g, i * 4 + 3, none⟩ = some (.string n.2.2.2)) := fun X hX => by
    refine ⟨?_, ?_, fun i n hn => ?_⟩
    · exact blk_cell ((hX.block p hpl (fun h => hpb (Option.some.inj h))).trans hp) 0
    · exact blk_cell ((hX.block q hql (fun h => hqb (Option.some.inj h))).trans hq) 0
    · obtain ⟨a0, a1, a2, a3⟩ := hc i n hn
      have hn2 : ∀ j : Nat, (⟨g, j, none⟩ : Addr).block ≠ bb := fun j => hgn
      exact ⟨hX.cell a0 (fun h => hgn (Option.some.inj h)), hX.cell a1 (fun h => hgn (Option.some.inj h)), hX.cell a2 (fun h => hgn (Option.some.inj h)), hX.cell a3 (fun h => hgn (Option.some.inj h))⟩
  have HS0 : Hid (St w.drew bb f m fl ∧ w.grownBy w.drew (some bb) ∧ Below w0.heap.size w0 w.drew) := ⟨hS, ⟨rfl, rfl, rfl, Nat.le_refl _, fun _ _ _ => rfl⟩, hw.drew⟩
  clear hc hv hp hq hS hw hpl hql hpb hqb
  go_enter Tryz.func71, Tryz.ntmps71
  go_upto_region 1 with fail
  refine wp_region_facts' [5, 6, 7, 8, 9, 10, 11, 12, 13, 14, 15, 16, 17, 18, 19, 20, 21, 22, 4] (fun j v _ => g2F bb f m F g cap na nb k b e s fg j v) (fun li X => ∃ x, x = (if li.getD 17 true then orF fl fg else fl) ∧ St X bb f m x ∧ w.grownBy X (some bb) ∧ Below w0.heap.size w0 X) (fun _ _ => True) (by kernel_rfl) (by kernel_rfl) ⟨fl, rfl, HS0.out⟩ (fun _ _ _ _ _ h => h) ?_ ?_
  · intro i o li bF X hio hls hli hS hFr hd K hK
    obtain ⟨x, hx, hSt, hgr, hbl⟩ := hS
    obtain ⟨y0, y1, yc⟩ := HG.out X hgr
    obtain ⟨c0, c1, c2, -, -, -⟩ := hSt.cells
    have hi30 : i < 19 := (Array.getElem?_eq_some_iff.1 hio).1
    have hsz : li.size = 19 := hls
    have p0 : bF.tmps.getD 0 undef = .slice (some ⟨g, 0, none⟩) 2 cap := by
      rw [Array.getD_eq_getD_getElem?, hFr.2.2 0 (by decide)]; rfl
    have p1 : bF.tmps.getD 1 undef = .pointer (some ⟨p, 0, none⟩) := by
      rw [Array.getD_eq_getD_getElem?, hFr.2.2 1 (by decide)]; rfl
    have p2 : bF.tmps.getD 2 undef = .pointer (some ⟨q, 0, none⟩) := by
      rw [Array.getD_eq_getD_getElem?, hFr.2.2 2 (by decide)]; rfl
    have hkp : ∀ j, j ≠ 17 → j < 19 → ∀ X', St X' bb f m x → w.grownBy X' (some bb) → Below w0.heap.size w0 X' → (∃ x, x = (if (li.setIfInBounds j true).getD 17 true then orF fl fg else fl) ∧ St X' bb f m x ∧ w.grownBy X' (some bb) ∧ Below w0.heap.size w0 X') := fun j hj hjl X' a1 a2 a3 => ⟨x, by rw [Go.getD_set_ne true hj]; exact hx, a1, a2, a3⟩
    rcases (show i = 0 ∨ i = 1 ∨ i = 2 ∨ i = 3 ∨ i = 4 ∨ i = 5 ∨ i = 6 ∨ i = 7 ∨ i = 8 ∨ i = 9 ∨ i = 10 ∨ i = 11 ∨ i = 12 ∨ i = 13 ∨ i = 14 ∨ i = 15 ∨ i = 16 ∨ i = 17 ∨ i = 18 by omega) with rfl | rfl | rfl | rfl | rfl | rfl | rfl | rfl | rfl | rfl | rfl | rfl | rfl | rfl | rfl | rfl | rfl | rfl | rfl
    all_goals
      simp only [List.getElem?_toArray, List.getElem?_cons_succ, List.getElem?_cons_zero, Option.some.injEq] at hio
      subst hio
    · unfold Oper.wp
      simp [execOp, go_sem, Act.eval, p1, y0]
      exact hK _ _ rfl (hkp 0 (by decide) (by decide) _ hSt hgr hbl) trivial
    · unfold Oper.wp
      simp [execOp, go_sem, Act.eval, p2, y1]
      exact hK _ _ rfl (hkp 1 (by decide) (by decide) _ hSt hgr hbl) trivial
    · unfold Oper.wp
      simp [execOp, go_sem, Act.eval, p1, y0]
      exact hK _ _ rfl (hkp 2 (by decide) (by decide) _ hSt hgr hbl) trivial
    · have d0 : (bF.tmps.getD 7 undef) = (.pointer (some ⟨bb, 0, none⟩) : Value) := hd ⟨2, .data⟩ (by simp) rfl
      unfold Oper.wp
      simp [execOp, go_sem, Act.eval, d0]
      exact hK _ _ rfl (hkp 3 (by decide) (by decide) _ hSt hgr hbl) trivial
    · have d0 : (bF.tmps.getD 8 undef) = (.pointer (some ⟨bb, 0, none⟩) : Value) := hd ⟨3, .data⟩ (by simp) rfl
      unfold Oper.wp
      simp [execOp, go_sem, Act.eval, d0]
      exact hK _ _ rfl (hkp 4 (by decide) (by decide) _ hSt hgr hbl) trivial
    · have d0 : (bF.tmps.getD 9 undef) = (.pointer (some ⟨bb, 0, none⟩) : Value) := hd ⟨4, .data⟩ (by simp) rfl
      unfold Oper.wp
      simp [execOp, go_sem, Act.eval, d0, c0]
      exact hK _ _ rfl (hkp 5 (by decide) (by decide) _ hSt hgr hbl) trivial
    · unfold Oper.wp
      simp [execOp, go_sem, Act.eval, p1, y0]
      exact hK _ _ rfl (hkp 6 (by decide) (by decide) _ hSt hgr hbl) trivial
    · have d0 : (bF.tmps.getD 11 undef) = (.pointer (some ⟨bb, 0, none⟩) : Value) := hd ⟨6, .data⟩ (by simp) rfl
      unfold Oper.wp
      simp [execOp, go_sem, Act.eval, d0]
      exact hK _ _ rfl (hkp 7 (by decide) (by decide) _ hSt hgr hbl) trivial
    · have d0 : (bF.tmps.getD 12 undef) = (.pointer (some ⟨bb, 0, none⟩) : Value) := hd ⟨7, .data⟩ (by simp) rfl
      unfold Oper.wp
      simp [execOp, go_sem, Act.eval, d0]
      exact hK _ _ rfl (hkp 8 (by decide) (by decide) _ hSt hgr hbl) trivial
    · have d0 : (bF.tmps.getD 13 undef) = (.pointer (some ⟨bb, 1, none⟩) : Value) := hd ⟨8, .data⟩ (by simp) rfl
      unfold Oper.wp
      simp [execOp, go_sem, Act.eval, d0, c1]
      exact hK _ _ rfl (hkp 9 (by decide) (by decide) _ hSt hgr hbl) trivial
    · unfold Oper.wp
      simp [execOp, go_sem, Act.eval, p0]
      exact hK _ _ rfl (hkp 10 (by decide) (by decide) _ hSt hgr hbl) trivial
    · have d0 : (bF.tmps.getD 15 undef) = (.slice (some ⟨g, 0, none⟩) 2 cap : Value) := hd ⟨10, .data⟩ (by simp) rfl
      unfold Oper.wp
      simp [execOp, go_sem, Act.eval, d0]
      exact hK _ _ rfl (hkp 11 (by decide) (by decide) _ hSt hgr hbl) trivial
    · have d0 : (bF.tmps.getD 16 undef) = (.pointer (some ⟨g, 0, none⟩) : Value) := hd ⟨11, .data⟩ (by simp) rfl
      obtain ⟨a0, a1, a2, a3⟩ := yc 0 na rfl
      simp only [Nat.zero_mul, Nat.zero_add, Nat.one_mul, Nat.reduceMul, Nat.reduceAdd] at a0 a1 a2 a3
      unfold Oper.wp
      simp [execOp, go_sem, Act.eval, d0, a0, a1, a2, a3]
      exact hK _ _ rfl (hkp 12 (by decide) (by decide) _ hSt hgr hbl) trivial
    · unfold Oper.wp
      simp [execOp, go_sem, Act.eval, p0]
      exact hK _ _ rfl (hkp 13 (by decide) (by decide) _ hSt hgr hbl) trivial
    · have d0 : (bF.tmps.getD 18 undef) = (.slice (some ⟨g, 0, none⟩) 2 cap : Value) := hd ⟨13, .data⟩ (by simp) rfl
      unfold Oper.wp
      simp [execOp, go_sem, Act.eval, d0]
      exact hK _ _ rfl (hkp 14 (by decide) (by decide) _ hSt hgr hbl) trivial
    · have d0 : (bF.tmps.getD 19 undef) = (.pointer (some ⟨g, 4, none⟩) : Value) := hd ⟨14, .data⟩ (by simp) rfl
      obtain ⟨a0, a1, a2, a3⟩ := yc 1 nb rfl
      simp only [Nat.zero_mul, Nat.zero_add, Nat.one_mul, Nat.reduceMul, Nat.reduceAdd] at a0 a1 a2 a3
      unfold Oper.wp
      simp [execOp, go_sem, Act.eval, d0, a0, a1, a2, a3]
      exact hK _ _ rfl (hkp 15 (by decide) (by decide) _ hSt hgr hbl) trivial
    · have d1 : (bF.tmps.getD 6 undef) = (.func (.func F) #[] #[] : Value) := hd ⟨1, .data⟩ (by simp) rfl
      have d5 : (bF.tmps.getD 10 undef) = (.int .i64 f : Value) := hd ⟨5, .data⟩ (by simp) rfl
      have d9 : (bF.tmps.getD 14 undef) = (.int .i64 m : Value) := hd ⟨9, .data⟩ (by simp) rfl
      have e0 : (bF.tmps.getD 17 undef) = numW na := hd ⟨12, .data⟩ (by simp) rfl
      have e1 : (bF.tmps.getD 20 undef) = numW nb := hd ⟨15, .data⟩ (by simp) rfl
      unfold Oper.wp
      simp [execOp, go_sem, Act.eval, d1, d5, d9, hE, e0, e1]
      refine (hF _ hbl).mono ?_
      rintro r w' ⟨rfl, hb⟩
      exact hK _ _ rfl (hkp 16 (by decide) (by decide) _ (hSt.next hb) (gb_tr hgr (gb_of hb _)) (hbl.trans (hb.mono hbl.size))) trivial
    · rw [hli] at hx
      simp only [Bool.false_eq_true, if_false] at hx
      rw [hx] at hSt
      have d0 : (bF.tmps.getD 5 undef) = (.pointer (some ⟨bb, 0, none⟩) : Value) := hd ⟨0, .data⟩ (by simp) rfl
      have d1 : (bF.tmps.getD 21 undef) = rsV k b e s fg := hd ⟨16, .data⟩ (by simp) rfl
      unfold Oper.wp
      simp [execOp, go_sem, Act.eval, d0, d1]
      refine (hSh _ hbl hSt).mono ?_
      rintro r w' ⟨rfl, h1, h2⟩
      exact hK _ _ rfl ⟨orF fl fg, by rw [show (li.setIfInBounds 17 true).getD 17 true = true by simp [Array.getD, hsz]]; rfl, h1, gb_tr hgr h2, gb_bel hbl h2 hbb⟩ trivial
    · have d0 : (bF.tmps.getD 22 undef) = (.string (shT k b e s) : Value) := hd ⟨17, .data⟩ (by simp) rfl
      unfold Oper.wp
      simp [execOp, go_sem, Act.eval, d0]
      exact hK _ _ rfl (hkp 18 (by decide) (by decide) _ hSt hgr hbl) trivial
  · intro fV li X hall hS hl
    obtain ⟨x, hx, hSt, hgr, hbl⟩ := hS
    rw [hall 17 (by decide)] at hx
    simp only [if_true] at hx
    subst hx
    have h4 : fV 4 = .string (shT k b e s) := hl 18 4 rfl
    simp only [putL', Act.put, h4, List.setIfInBounds_toArray, List.set_cons_succ, List.set_cons_zero]
    simp only [Exit.then]
    go_wp2
    go_ret
    exact ⟨rfl, hSt, hgr⟩
def g3F (bb : Nat) (f m : Int) (F g cap : Nat) (na nb nc : Nmt) (k : Int) (b : Bool) (e : Int) (s : ByteArray) (fg : Int) (j : Nat) (v : Value) : Prop := match j with
  | 0 => v = (.pointer (some ⟨bb, 0, none⟩) : Value)
  | 1 => v = (.func (.func F) #[] #[] : Value)
  | 2 => v = (.pointer (some ⟨bb, 0, none⟩) : Value)
  | 3 => v = (.pointer (some ⟨bb, 0, none⟩) : Value)
  | 4 => v = (.pointer (some ⟨bb, 0, none⟩) : Value)
  | 5 => v = (.int .i64 f : Value)
  | 6 => v = (.pointer (some ⟨bb, 0, none⟩) : Value)
  | 7 => v = (.pointer (some ⟨bb, 0, none⟩) : Value)
  | 8 => v = (.pointer (some ⟨bb, 1, none⟩) : Value)
  | 9 => v = (.int .i64 m : Value)
  | 10 => v = (.slice (some ⟨g, 0, none⟩) 3 cap : Value)
  | 11 => v = (.pointer (some ⟨g, 0, none⟩) : Value)
  | 12 => v = numW na
  | 13 => v = (.slice (some ⟨g, 0, none⟩) 3 cap : Value)
  | 14 => v = (.pointer (some ⟨g, 4, none⟩) : Value)
  | 15 => v = numW nb
  | 16 => v = (.slice (some ⟨g, 0, none⟩) 3 cap : Value)
  | 17 => v = (.pointer (some ⟨g, 8, none⟩) : Value)
  | 18 => v = numW nc
  | 19 => v = rsV k b e s fg
  | 20 => v = (.string (shT k b e s) : Value)
  | 21 => v = (.string (shT k b e s) : Value)
  | _ => True
set_option maxRecDepth 100000 in
set_option maxHeartbeats 4000000 in
theorem t3_any (w0 : World) (hT : TB w0) (bb : Nat) (hbb : w0.heap.size ≤ bb) (f m fl : Int) (na nb nc : Nmt) (F : Nat) (k : Int) (b : Bool) (e : Int) (s : ByteArray) (fg : Int) (hs : s.size ≤ 4611686018427387904) (p q base : Nat) (v : Value) (w : World) (hw : Below w0.heap.size w0 w) (hS : St w bb f m fl)
    (hp : w.heap[p]? = some (.cells #[.pointer (some ⟨bb, 0, none⟩)] 55)) (hq : w.heap[q]? = some (.cells #[.func (.func F) #[] #[]] 62)) (hv : HasN w base v [na, nb, nc]) (hbase : bb < base)
    (hE : ∀ args X, (callFunc F args).run Tryz.prog X = .ok (.enter F args) X)
    (hF : ∀ X, Below w0.heap.size w0 X → Calls Tryz.prog F #[.int .i64 f, .int .i64 m, numW na, numW nb, numW nc] X fun r w' => r = .returned (rsV k b e s fg) ∧ Below X.heap.size X w') :
    Calls Tryz.prog 89 #[v, .pointer (some ⟨p, 0, none⟩), .pointer (some ⟨q, 0, none⟩)] w fun x w' => x = .returned (.string (shT k b e s)) ∧ St w' bb f m (orF fl fg) ∧ w.grownBy w' (some bb) := by
  obtain ⟨g, cap, rfl, hgl, hgb, hc⟩ := nm_at hv (by simp)
  simp only [List.length_cons, List.length_nil, Nat.zero_add, Nat.reduceAdd]
  have hSh : ∀ X, Below w0.heap.size w0 X → St X bb f m fl → Calls Tryz.prog 72 #[.pointer (some ⟨bb, 0, none⟩), rsV k b e s fg] X fun x w' => x = .returned (.string (shT k b e s)) ∧ St w' bb f m (orF fl fg) ∧ X.grownBy w' (some bb) := fun X h1 h2 => shown_any w0 hT bb hbb f m fl k b e s fg hs X h1 h2
  have hpl := (Array.getElem?_eq_some_iff.1 hp).1
  have hql := (Array.getElem?_eq_some_iff.1 hq).1
  have hpb : p ≠ bb := fun q => by rw [q] at hp; rw [show w.heap[bb]? = _ from hS] at hp; simp at hp
  have hqb : q ≠ bb := fun x => by rw [x] at hq; rw [show w.heap[bb]? = _ from hS] at hq; simp at hq
  have hgn : g ≠ bb := by omega
  have HG : Hid (∀ X, w.grownBy X (some bb) → X.cell? ⟨p, 0, none⟩ = some (.pointer (some ⟨bb, 0, none⟩)) ∧ X.cell? ⟨q, 0, none⟩ = some (.func (.func F) #[] #[]) ∧ ∀ i n, [na, nb, nc][i]? = some n → X.cell? ⟨g, i * 4, none⟩ = some (.int .i64 n.1) ∧ X.cell? ⟨g, i * 4 + 1, none⟩ = some (.bool n.2.1) ∧ X.cell? ⟨g, i * 4 + 2, none⟩ = some (.int .i64 n.2.2.1) ∧ X.cell? ⟨g, i * 4 + 3, none⟩ = some (.string n.2.2.2)) := fun X hX => by
    refine ⟨?_, ?_, fun i n hn => ?_⟩
    · exact blk_cell ((hX.block p hpl (fun h => hpb (Option.some.inj h))).trans hp) 0
    · exact blk_cell ((hX.block q hql (fun h => hqb (Option.some.inj h))).trans hq) 0
    · obtain ⟨a0, a1, a2, a3⟩ := hc i n hn
      have hn2 : ∀ j : Nat, (⟨g, j, none⟩ : Addr).block ≠ bb := fun j => hgn
      exact ⟨hX.cell a0 (fun h => hgn (Option.some.inj h)), hX.cell a1 (fun h => hgn (Option.some.inj h)), hX.cell a2 (fun h => hgn (Option.some.inj h)), hX.cell a3 (fun h => hgn (Option.some.inj h))⟩
  have HS0 : Hid (St w.drew bb f m fl ∧ w.grownBy w.drew (some bb) ∧ Below w0.heap.size w0 w.drew) := ⟨hS, ⟨rfl, rfl, rfl, Nat.le_refl _, fun _ _ _ => rfl⟩, hw.drew⟩
  clear hc hv hp hq hS hw hpl hql hpb hqb
  go_enter Tryz.func89, Tryz.ntmps89
  go_upto_region 1 with fail
  refine wp_region_facts' [5, 6, 7, 8, 9, 10, 11, 12, 13, 14, 15, 16, 17, 18, 19, 20, 21, 22, 23, 24, 25, 4] (fun j v _ => g3F bb f m F g cap na nb nc k b e s fg j v) (fun li X => ∃ x, x = (if li.getD 20 true then orF fl fg else fl) ∧ St X bb f m x ∧ w.grownBy X (some bb) ∧ Below w0.heap.size w0 X) (fun _ _ => True) (by kernel_rfl) (by kernel_rfl) ⟨fl, rfl, HS0.out⟩ (fun _ _ _ _ _ h => h) ?_ ?_
  · intro i o li bF X hio hls hli hS hFr hd K hK
    obtain ⟨x, hx, hSt, hgr, hbl⟩ := hS
    obtain ⟨y0, y1, yc⟩ := HG.out X hgr
    obtain ⟨c0, c1, c2, -, -, -⟩ := hSt.cells
    have hi30 : i < 22 := (Array.getElem?_eq_some_iff.1 hio).1
    have hsz : li.size = 22 := hls
    have p0 : bF.tmps.getD 0 undef = .slice (some ⟨g, 0, none⟩) 3 cap := by
      rw [Array.getD_eq_getD_getElem?, hFr.2.2 0 (by decide)]; rfl
    have p1 : bF.tmps.getD 1 undef = .pointer (some ⟨p, 0, none⟩) := by
      rw [Array.getD_eq_getD_getElem?, hFr.2.2 1 (by decide)]; rfl
    have p2 : bF.tmps.getD 2 undef = .pointer (some ⟨q, 0, none⟩) := by
      rw [Array.getD_eq_getD_getElem?, hFr.2.2 2 (by decide)]; rfl
    have hkp : ∀ j, j ≠ 20 → j < 22 → ∀ X', St X' bb f m x → w.grownBy X' (some bb) → Below w0.heap.size w0 X' → (∃ x, x = (if (li.setIfInBounds j true).getD 20 true then orF fl fg else fl) ∧ St X' bb f m x ∧ w.grownBy X' (some bb) ∧ Below w0.heap.size w0 X') := fun j hj hjl X' a1 a2 a3 => ⟨x, by rw [Go.getD_set_ne true hj]; exact hx, a1, a2, a3⟩
    rcases (show i = 0 ∨ i = 1 ∨ i = 2 ∨ i = 3 ∨ i = 4 ∨ i = 5 ∨ i = 6 ∨ i = 7 ∨ i = 8 ∨ i = 9 ∨ i = 10 ∨ i = 11 ∨ i = 12 ∨ i = 13 ∨ i = 14 ∨ i = 15 ∨ i = 16 ∨ i = 17 ∨ i = 18 ∨ i = 19 ∨ i = 20 ∨ i = 21 by omega) with rfl | rfl | rfl | rfl | rfl | rfl | rfl | rfl | rfl | rfl | rfl | rfl | rfl | rfl | rfl | rfl | rfl | rfl | rfl | rfl | rfl | rfl
    all_goals
      simp only [List.getElem?_toArray, List.getElem?_cons_succ, List.getElem?_cons_zero, Option.some.injEq] at hio
      subst hio
    · unfold Oper.wp
      simp [execOp, go_sem, Act.eval, p1, y0]
      exact hK _ _ rfl (hkp 0 (by decide) (by decide) _ hSt hgr hbl) trivial
    · unfold Oper.wp
      simp [execOp, go_sem, Act.eval, p2, y1]
      exact hK _ _ rfl (hkp 1 (by decide) (by decide) _ hSt hgr hbl) trivial
    · unfold Oper.wp
      simp [execOp, go_sem, Act.eval, p1, y0]
      exact hK _ _ rfl (hkp 2 (by decide) (by decide) _ hSt hgr hbl) trivial
    · have d0 : (bF.tmps.getD 7 undef) = (.pointer (some ⟨bb, 0, none⟩) : Value) := hd ⟨2, .data⟩ (by simp) rfl
      unfold Oper.wp
      simp [execOp, go_sem, Act.eval, d0]
      exact hK _ _ rfl (hkp 3 (by decide) (by decide) _ hSt hgr hbl) trivial
    · have d0 : (bF.tmps.getD 8 undef) = (.pointer (some ⟨bb, 0, none⟩) : Value) := hd ⟨3, .data⟩ (by simp) rfl
      unfold Oper.wp
      simp [execOp, go_sem, Act.eval, d0]
      exact hK _ _ rfl (hkp 4 (by decide) (by decide) _ hSt hgr hbl) trivial
    · have d0 : (bF.tmps.getD 9 undef) = (.pointer (some ⟨bb, 0, none⟩) : Value) := hd ⟨4, .data⟩ (by simp) rfl
      unfold Oper.wp
      simp [execOp, go_sem, Act.eval, d0, c0]
      exact hK _ _ rfl (hkp 5 (by decide) (by decide) _ hSt hgr hbl) trivial
    · unfold Oper.wp
      simp [execOp, go_sem, Act.eval, p1, y0]
      exact hK _ _ rfl (hkp 6 (by decide) (by decide) _ hSt hgr hbl) trivial
    · have d0 : (bF.tmps.getD 11 undef) = (.pointer (some ⟨bb, 0, none⟩) : Value) := hd ⟨6, .data⟩ (by simp) rfl
      unfold Oper.wp
      simp [execOp, go_sem, Act.eval, d0]
      exact hK _ _ rfl (hkp 7 (by decide) (by decide) _ hSt hgr hbl) trivial
    · have d0 : (bF.tmps.getD 12 undef) = (.pointer (some ⟨bb, 0, none⟩) : Value) := hd ⟨7, .data⟩ (by simp) rfl
      unfold Oper.wp
      simp [execOp, go_sem, Act.eval, d0]
      exact hK _ _ rfl (hkp 8 (by decide) (by decide) _ hSt hgr hbl) trivial
    · have d0 : (bF.tmps.getD 13 undef) = (.pointer (some ⟨bb, 1, none⟩) : Value) := hd ⟨8, .data⟩ (by simp) rfl
      unfold Oper.wp
      simp [execOp, go_sem, Act.eval, d0, c1]
      exact hK _ _ rfl (hkp 9 (by decide) (by decide) _ hSt hgr hbl) trivial
    · unfold Oper.wp
      simp [execOp, go_sem, Act.eval, p0]
      exact hK _ _ rfl (hkp 10 (by decide) (by decide) _ hSt hgr hbl) trivial
    · have d0 : (bF.tmps.getD 15 undef) = (.slice (some ⟨g, 0, none⟩) 3 cap : Value) := hd ⟨10, .data⟩ (by simp) rfl
      unfold Oper.wp
      simp [execOp, go_sem, Act.eval, d0]
      exact hK _ _ rfl (hkp 11 (by decide) (by decide) _ hSt hgr hbl) trivial
    · have d0 : (bF.tmps.getD 16 undef) = (.pointer (some ⟨g, 0, none⟩) : Value) := hd ⟨11, .data⟩ (by simp) rfl
      obtain ⟨a0, a1, a2, a3⟩ := yc 0 na rfl
      simp only [Nat.zero_mul, Nat.zero_add, Nat.one_mul, Nat.reduceMul, Nat.reduceAdd] at a0 a1 a2 a3
      unfold Oper.wp
      simp [execOp, go_sem, Act.eval, d0, a0, a1, a2, a3]
      exact hK _ _ rfl (hkp 12 (by decide) (by decide) _ hSt hgr hbl) trivial
    · unfold Oper.wp
      simp [execOp, go_sem, Act.eval, p0]
      exact hK _ _ rfl (hkp 13 (by decide) (by decide) _ hSt hgr hbl) trivial
    · have d0 : (bF.tmps.getD 18 undef) = (.slice (some ⟨g, 0, none⟩) 3 cap : Value) := hd ⟨13, .data⟩ (by simp) rfl
      unfold Oper.wp
      simp [execOp, go_sem, Act.eval, d0]
      exact hK _ _ rfl (hkp 14 (by decide) (by decide) _ hSt hgr hbl) trivial
    · have d0 : (bF.tmps.getD 19 undef) = (.pointer (some ⟨g, 4, none⟩) : Value) := hd ⟨14, .data⟩ (by simp) rfl
      obtain ⟨a0, a1, a2, a3⟩ := yc 1 nb rfl
      simp only [Nat.zero_mul, Nat.zero_add, Nat.one_mul, Nat.reduceMul, Nat.reduceAdd] at a0 a1 a2 a3
      unfold Oper.wp
      simp [execOp, go_sem, Act.eval, d0, a0, a1, a2, a3]
      exact hK _ _ rfl (hkp 15 (by decide) (by decide) _ hSt hgr hbl) trivial
    · unfold Oper.wp
      simp [execOp, go_sem, Act.eval, p0]
      exact hK _ _ rfl (hkp 16 (by decide) (by decide) _ hSt hgr hbl) trivial
    · have d0 : (bF.tmps.getD 21 undef) = (.slice (some ⟨g, 0, none⟩) 3 cap : Value) := hd ⟨16, .data⟩ (by simp) rfl
      unfold Oper.wp
      simp [execOp, go_sem, Act.eval, d0]
      exact hK _ _ rfl (hkp 17 (by decide) (by decide) _ hSt hgr hbl) trivial
    · have d0 : (bF.tmps.getD 22 undef) = (.pointer (some ⟨g, 8, none⟩) : Value) := hd ⟨17, .data⟩ (by simp) rfl
      obtain ⟨a0, a1, a2, a3⟩ := yc 2 nc rfl
      simp only [Nat.zero_mul, Nat.zero_add, Nat.one_mul, Nat.reduceMul, Nat.reduceAdd] at a0 a1 a2 a3
      unfold Oper.wp
      simp [execOp, go_sem, Act.eval, d0, a0, a1, a2, a3]
      exact hK _ _ rfl (hkp 18 (by decide) (by decide) _ hSt hgr hbl) trivial
    · have d1 : (bF.tmps.getD 6 undef) = (.func (.func F) #[] #[] : Value) := hd ⟨1, .data⟩ (by simp) rfl
      have d5 : (bF.tmps.getD 10 undef) = (.int .i64 f : Value) := hd ⟨5, .data⟩ (by simp) rfl
      have d9 : (bF.tmps.getD 14 undef) = (.int .i64 m : Value) := hd ⟨9, .data⟩ (by simp) rfl
      have e0 : (bF.tmps.getD 17 undef) = numW na := hd ⟨12, .data⟩ (by simp) rfl
      have e1 : (bF.tmps.getD 20 undef) = numW nb := hd ⟨15, .data⟩ (by simp) rfl
      have e2 : (bF.tmps.getD 23 undef) = numW nc := hd ⟨18, .data⟩ (by simp) rfl
      unfold Oper.wp
      simp [execOp, go_sem, Act.eval, d1, d5, d9, hE, e0, e1, e2]
      refine (hF _ hbl).mono ?_
      rintro r w' ⟨rfl, hb⟩
      exact hK _ _ rfl (hkp 19 (by decide) (by decide) _ (hSt.next hb) (gb_tr hgr (gb_of hb _)) (hbl.trans (hb.mono hbl.size))) trivial
    · rw [hli] at hx
      simp only [Bool.false_eq_true, if_false] at hx
      rw [hx] at hSt
      have d0 : (bF.tmps.getD 5 undef) = (.pointer (some ⟨bb, 0, none⟩) : Value) := hd ⟨0, .data⟩ (by simp) rfl
      have d1 : (bF.tmps.getD 24 undef) = rsV k b e s fg := hd ⟨19, .data⟩ (by simp) rfl
      unfold Oper.wp
      simp [execOp, go_sem, Act.eval, d0, d1]
      refine (hSh _ hbl hSt).mono ?_
      rintro r w' ⟨rfl, h1, h2⟩
      exact hK _ _ rfl ⟨orF fl fg, by rw [show (li.setIfInBounds 20 true).getD 20 true = true by simp [Array.getD, hsz]]; rfl, h1, gb_tr hgr h2, gb_bel hbl h2 hbb⟩ trivial
    · have d0 : (bF.tmps.getD 25 undef) = (.string (shT k b e s) : Value) := hd ⟨20, .data⟩ (by simp) rfl
      unfold Oper.wp
      simp [execOp, go_sem, Act.eval, d0]
      exact hK _ _ rfl (hkp 21 (by decide) (by decide) _ hSt hgr hbl) trivial
  · intro fV li X hall hS hl
    obtain ⟨x, hx, hSt, hgr, hbl⟩ := hS
    rw [hall 20 (by decide)] at hx
    simp only [if_true] at hx
    subst hx
    have h4 : fV 4 = .string (shT k b e s) := hl 21 4 rfl
    simp only [putL', Act.put, h4, List.setIfInBounds_toArray, List.set_cons_succ, List.set_cons_zero]
    simp only [Exit.then]
    go_wp2
    go_ret
    exact ⟨rfl, hSt, hgr⟩
end Go.Proofs.YteofommckgeemaaGreatDoor
namespace Go.Proofs.YteofommckgeemaaGreatDoor
open Go.RowKit
set_option linter.unusedVariables false
set_option maxRecDepth 100000
set_option linter.unusedSimpArgs false
abbrev cpN (f : Int) (na nb : Nmt) : Int := cpR f na.1 na.2.1 na.2.2.1 na.2.2.2 nb.1 nb.2.1 nb.2.2.1 nb.2.2.2
abbrev numX (n : Nmt) : Value := .agg #[.int .i64 n.1, .bool n.2.1, .int .i64 n.2.2.1, .string n.2.2.2]
def gcF (bb : Nat) (f : Int) (g cap : Nat) (na nb : Nmt) (j : Nat) (v : Value) : Prop := match j with
  | 0 => v = (.pointer (some ⟨bb, 0, none⟩) : Value)
  | 1 => v = (.pointer (some ⟨bb, 0, none⟩) : Value)
  | 2 => v = (.pointer (some ⟨bb, 0, none⟩) : Value)
  | 3 => v = (.int .i64 f : Value)
  | 4 => v = (.slice (some ⟨g, 0, none⟩) 2 cap : Value)
  | 5 => v = (.pointer (some ⟨g, 0, none⟩) : Value)
  | 6 => v = numX na
  | 7 => v = (.slice (some ⟨g, 0, none⟩) 2 cap : Value)
  | 8 => v = (.pointer (some ⟨g, 4, none⟩) : Value)
  | 9 => v = numX nb
  | 10 => v = (.int .i64 (cpN f na nb) : Value)
  | 11 => v = (.string ⟨(Lib.itoa (cpN f na nb)).toArray⟩ : Value)
  | 12 => v = (.string ⟨(Lib.itoa (cpN f na nb)).toArray⟩ : Value)
  | _ => True
set_option maxRecDepth 100000 in
set_option maxHeartbeats 4000000 in
theorem compared_any (w0 : World) (hT : TB w0) (bb : Nat) (f m fl : Int) (na nb : Nmt) (hza : na.2.2.2.size ≤ 4611686018427387904) (hzb : nb.2.2.2.size ≤ 4611686018427387904) (hc7 : -7000 ≤ cpN f na nb ∧ cpN f na nb ≤ 7000) (base : Nat) (v : Value) (w : World) (hw : Below w0.heap.size w0 w) (hS : St w bb f m fl) (hv : HasN w base v [na, nb]) :
    Calls Tryz.prog 39 #[.pointer (some ⟨bb, 0, none⟩), v] w fun x w' => x = .returned (.string ⟨(Lib.itoa (cpN f na nb)).toArray⟩) ∧ Below w.heap.size w w' := by
  obtain ⟨g, cap, rfl, hgl, hgb, hc⟩ := nm_at hv (by simp)
  simp only [List.length_cons, List.length_nil, Nat.zero_add, Nat.reduceAdd]
  have hF : ∀ X, Below w.heap.size w X → Calls Tryz.prog 104 #[.int .i64 f, numX na, numX nb] X fun x w' => x = .returned (.int .i64 (cpN f na nb)) ∧ Below X.heap.size X w' := fun X hX => iCompare_any f na.1 na.2.1 na.2.2.1 na.2.2.2 nb.1 nb.2.1 nb.2.2.1 nb.2.2.2 X hza hzb (hT X (hw.trans (hX.mono hw.size))).2.2
  have hP : ∀ X, Below w.heap.size w X → Calls Tryz.prog 103 #[.int .i64 (cpN f na nb), .int .i64 10] X fun e w' => e = .returned (.string ⟨(Lib.itoa (cpN f na nb)).toArray⟩) ∧ Below X.heap.size X w' := fun X hX => fmtInt_any _ hc7 X (hT X (hw.trans (hX.mono hw.size))).1
  have hE : ∀ args X, (callFunc 104 args).run Tryz.prog X = .ok (.enter 104 args) X := fun _ _ => rfl
  have HG : Hid (∀ X, Below w.heap.size w X → St X bb f m fl ∧ ∀ i n, [na, nb][i]? = some n → X.cell? ⟨g, i * 4, none⟩ = some (.int .i64 n.1) ∧ X.cell? ⟨g, i * 4 + 1, none⟩ = some (.bool n.2.1) ∧ X.cell? ⟨g, i * 4 + 2, none⟩ = some (.int .i64 n.2.2.1) ∧ X.cell? ⟨g, i * 4 + 3, none⟩ = some (.string n.2.2.2)) := fun X hX => by
    refine ⟨hS.next hX, fun i n hn => ?_⟩
    obtain ⟨a0, a1, a2, a3⟩ := hc i n hn
    exact ⟨(hX.cell hgl).trans a0, (hX.cell hgl).trans a1, (hX.cell hgl).trans a2, (hX.cell hgl).trans a3⟩
  clear hc hv hS hw
  go_enter Tryz.func39, Tryz.ntmps39
  go_upto_region 1 with fail
  refine wp_region_facts' [5, 6, 7, 8, 9, 10, 11, 12, 13, 14, 15, 16, 4] (fun j v _ => gcF bb f g cap na nb j v) (fun _ X => Below w.heap.size w X) (fun _ _ => True) (by kernel_rfl) (by kernel_rfl) (Below.refl _ _).drew (fun _ _ _ _ _ h => h) ?_ ?_
  · intro i o li bF X hio hls hli hbl hFr hd K hK
    obtain ⟨hSt, yc⟩ := HG.out X hbl
    obtain ⟨c0, c1, c2, -, -, -⟩ := hSt.cells
    have hi30 : i < 13 := (Array.getElem?_eq_some_iff.1 hio).1
    have p0 : bF.tmps.getD 0 undef = .pointer (some ⟨bb, 0, none⟩) := by
      rw [Array.getD_eq_getD_getElem?, hFr.2.2 0 (by decide)]; rfl
    have p1 : bF.tmps.getD 1 undef = .slice (some ⟨g, 0, none⟩) 2 cap := by
      rw [Array.getD_eq_getD_getElem?, hFr.2.2 1 (by decide)]; rfl
    rcases (show i = 0 ∨ i = 1 ∨ i = 2 ∨ i = 3 ∨ i = 4 ∨ i = 5 ∨ i = 6 ∨ i = 7 ∨ i = 8 ∨ i = 9 ∨ i = 10 ∨ i = 11 ∨ i = 12 by omega) with rfl | rfl | rfl | rfl | rfl | rfl | rfl | rfl | rfl | rfl | rfl | rfl | rfl
    all_goals
      simp only [List.getElem?_toArray, List.getElem?_cons_succ, List.getElem?_cons_zero, Option.some.injEq] at hio
      subst hio
    · unfold Oper.wp
      simp [execOp, go_sem, Act.eval, p0]
      exact hK _ _ rfl hbl trivial
    · have d0 : (bF.tmps.getD 5 undef) = (.pointer (some ⟨bb, 0, none⟩) : Value) := hd ⟨0, .data⟩ (by simp) rfl
      unfold Oper.wp
      simp [execOp, go_sem, Act.eval, d0]
      exact hK _ _ rfl hbl trivial
    · have d0 : (bF.tmps.getD 6 undef) = (.pointer (some ⟨bb, 0, none⟩) : Value) := hd ⟨1, .data⟩ (by simp) rfl
      unfold Oper.wp
      simp [execOp, go_sem, Act.eval, d0]
      exact hK _ _ rfl hbl trivial
    · have d0 : (bF.tmps.getD 7 undef) = (.pointer (some ⟨bb, 0, none⟩) : Value) := hd ⟨2, .data⟩ (by simp) rfl
      unfold Oper.wp
      simp [execOp, go_sem, Act.eval, d0, c0]
      exact hK _ _ rfl hbl trivial
    · unfold Oper.wp
      simp [execOp, go_sem, Act.eval, p1]
      exact hK _ _ rfl hbl trivial
    · have d0 : (bF.tmps.getD 9 undef) = (.slice (some ⟨g, 0, none⟩) 2 cap : Value) := hd ⟨4, .data⟩ (by simp) rfl
      unfold Oper.wp
      simp [execOp, go_sem, Act.eval, d0]
      exact hK _ _ rfl hbl trivial
    · have d0 : (bF.tmps.getD 10 undef) = (.pointer (some ⟨g, 0, none⟩) : Value) := hd ⟨5, .data⟩ (by simp) rfl
      obtain ⟨a0, a1, a2, a3⟩ := yc 0 na rfl
      simp only [Nat.zero_mul, Nat.zero_add, Nat.one_mul, Nat.reduceMul, Nat.reduceAdd] at a0 a1 a2 a3
      unfold Oper.wp
      simp [execOp, go_sem, Act.eval, d0, a0, a1, a2, a3]
      exact hK _ _ rfl hbl trivial
    · unfold Oper.wp
      simp [execOp, go_sem, Act.eval, p1]
      exact hK _ _ rfl hbl trivial
    · have d0 : (bF.tmps.getD 12 undef) = (.slice (some ⟨g, 0, none⟩) 2 cap : Value) := hd ⟨7, .data⟩ (by simp) rfl
      unfold Oper.wp
      simp [execOp, go_sem, Act.eval, d0]
      exact hK _ _ rfl hbl trivial
    · have d0 : (bF.tmps.getD 13 undef) = (.pointer (some ⟨g, 4, none⟩) : Value) := hd ⟨8, .data⟩ (by simp) rfl
      obtain ⟨a0, a1, a2, a3⟩ := yc 1 nb rfl
      simp only [Nat.zero_mul, Nat.zero_add, Nat.one_mul, Nat.reduceMul, Nat.reduceAdd] at a0 a1 a2 a3
      unfold Oper.wp
      simp [execOp, go_sem, Act.eval, d0, a0, a1, a2, a3]
      exact hK _ _ rfl hbl trivial
    · have d1 : (bF.tmps.getD 8 undef) = (.int .i64 f : Value) := hd ⟨3, .data⟩ (by simp) rfl
      have d2 : (bF.tmps.getD 11 undef) = numX na := hd ⟨6, .data⟩ (by simp) rfl
      have d3 : (bF.tmps.getD 14 undef) = numX nb := hd ⟨9, .data⟩ (by simp) rfl
      unfold Oper.wp
      simp [execOp, go_sem, Act.eval, d1, d2, d3, hE]
      refine (hF _ hbl).mono ?_
      rintro r w' ⟨rfl, hb⟩
      exact hK _ _ rfl (hbl.trans (hb.mono hbl.size)) trivial
    · have d1 : (bF.tmps.getD 15 undef) = (.int .i64 (cpN f na nb) : Value) := hd ⟨10, .data⟩ (by simp) rfl
      unfold Oper.wp
      simp [execOp, go_sem, Act.eval, d1]
      refine (hP _ hbl).mono ?_
      rintro r w' ⟨rfl, hb⟩
      exact hK _ _ rfl (hbl.trans (hb.mono hbl.size)) trivial
    · have d0 : (bF.tmps.getD 16 undef) = (.string ⟨(Lib.itoa (cpN f na nb)).toArray⟩ : Value) := hd ⟨11, .data⟩ (by simp) rfl
      unfold Oper.wp
      simp [execOp, go_sem, Act.eval, d0]
      exact hK _ _ rfl hbl trivial
  · intro fV li X hall hbl hl
    have h4 : fV 4 = .string ⟨(Lib.itoa (cpN f na nb)).toArray⟩ := hl 12 4 rfl
    simp only [putL', Act.put, h4, List.setIfInBounds_toArray, List.set_cons_succ, List.set_cons_zero]
    simp only [Exit.then]
    go_wp2
    go_ret
    exact ⟨rfl, hbl⟩
set_option maxRecDepth 100000 in
set_option maxHeartbeats 1000000 in
theorem takeFlags_any (w0 : World) (hT : TB w0) (bb : Nat) (hbb : w0.heap.size ≤ bb) (f m fl : Int) (hf : -7000 ≤ fl ∧ fl ≤ 7000) (v : Value) (w : World) (hw : Below w0.heap.size w0 w) (hS : St w bb f m fl) :
    Calls Tryz.prog 41 #[.pointer (some ⟨bb, 0, none⟩), v] w fun x w' => x = .returned (.tuple #[.string ⟨(Lib.itoa fl).toArray⟩, .nilIface]) ∧ St w' bb f m 0 ∧ w.grownBy w' (some bb) := by
  obtain ⟨hS2, hG2⟩ := st_set hS 0
  have HP : Hid (∀ X, Below w0.heap.size w0 X → Calls Tryz.prog 103 #[.int .i64 fl, .int .i64 10] X fun e w' => e = .returned (.string ⟨(Lib.itoa fl).toArray⟩) ∧ Below X.heap.size X w') := fun X hX => fmtInt_any _ hf X (hT X hX).1
  have HH : Hid (St (w.setCell ⟨bb, 2, none⟩ (.int .i64 0)) bb f m 0 ∧ w.grownBy (w.setCell ⟨bb, 2, none⟩ (.int .i64 0)) (some bb) ∧ Below w0.heap.size w0 (w.setCell ⟨bb, 2, none⟩ (.int .i64 0))) := ⟨hS2, hG2, gb_bel hw hG2 hbb⟩
  obtain ⟨c0, c1, c2, z0, z1, z2⟩ := hS.cells
  clear hS hS2 hG2 hw
  go_enter Tryz.func41, Tryz.ntmps41
  go_upto_region 3 with fail
  generalize (w.setCell ⟨bb, 2, none⟩ (.int .i64 0)) = W at *
  clear c0 c1 c2 z0 z1 z2
  go_wp2_with fail
  refine (HP.out _ HH.out.2.2).mono ?_
  rintro x w2 ⟨rfl, hb2⟩
  have HF : Hid (St w2 bb f m 0 ∧ w.grownBy w2 (some bb)) := ⟨HH.out.1.next hb2, gb_tr HH.out.2.1 (gb_of hb2 _)⟩
  clear hb2 HH HP
  go_wp2
  go_ret2
  exact ⟨rfl, HF.out.1, HF.out.2⟩
end Go.Proofs.YteofommckgeemaaGreatDoor
namespace Go.Proofs.YteofommckgeemaaGreatDoor
open Go.RowKit
set_option linter.unusedVariables false
set_option maxRecDepth 100000
set_option linter.unusedSimpArgs false
set_option maxRecDepth 100000 in
set_option maxHeartbeats 2000000 in
theorem nums_any (F : Nat) (xs ys : Array Value) (hE : ∀ args X, (callFunc F args).run Tryz.prog X = .ok (.enter F args) X) (bb : Nat) (f m fl : Int) (p q g o cp : Nat) (ws : List ByteArray) (ns : List Nmt) (ans : ByteArray) (fl' : Int) (w : World) (hS : St w bb f m fl)
    (hp : w.heap[p]? = some (.cells #[.pointer (some ⟨bb, 0, none⟩)] 55)) (hq : w.heap[q]? = some (.cells #[.func (.func F) xs ys] 66)) (hW : Wds w g o ws) (hn : ws.length ≤ 1000) (hz : ∀ s ∈ ws, s.size ≤ 100000) (hR : RdAll f m ws ns) (hU : UTb w)
    (hT : ∀ v X, Below w.heap.size w X → HasN X w.heap.size v ns → Calls Tryz.prog F (xs ++ #[v] ++ ys) X fun r w' => r = .returned (.string ans) ∧ St w' bb f m fl' ∧ X.grownBy w' (some bb)) :
    Calls Tryz.prog 101 #[.slice (some ⟨g, o, none⟩) ws.length cp, .pointer (some ⟨p, 0, none⟩), .pointer (some ⟨q, 0, none⟩)] w fun e w' => e = .returned (.tuple #[.string ans, .nilIface]) ∧ St w' bb f m fl' ∧ w.grownBy w' (some bb) := by
  have hR2 : Hid (Calls Tryz.prog 102 #[.pointer (some ⟨bb, 0, none⟩), .slice (some ⟨g, o, none⟩) ws.length cp] w fun e w' => ∃ v, e = .returned (.tuple #[v, .nilIface]) ∧ HasN w' w.heap.size v ns ∧ Below w.heap.size w w') := readNums_yes bb f m fl g o cp ws ns w hS hW hn hz hR hU
  have HT : Hid (∀ v X, Below w.heap.size w X → HasN X w.heap.size v ns → Calls Tryz.prog F (xs ++ #[v] ++ ys) X fun r w' => r = .returned (.string ans) ∧ St w' bb f m fl' ∧ X.grownBy w' (some bb)) := hT
  have c0 := blk_cell hp 0
  have HQ : Hid (∀ X, Below w.heap.size w X → X.cell? ⟨q, 0, none⟩ = some (.func (.func F) xs ys)) := fun X hX => (hX.cell (p := ⟨q, 0, none⟩) (Array.getElem?_eq_some_iff.1 hq).1).trans (blk_cell hq 0)
  simp only [List.getElem?_toArray, List.getElem?_cons_zero] at c0
  clear hS hp hq hW hn hz hR hU hT
  go_enter Tryz.func101, Tryz.ntmps101
  go_wp2_with fail
  refine hR2.out.mono ?_
  rintro e w1 ⟨v, rfl, hN, hB⟩
  have c1 := HQ.out _ hB
  have HN : Hid (HasN w1 w.heap.size v ns ∧ Below w.heap.size w w1) := ⟨hN, hB⟩
  clear hR2 hN hB HQ c0
  go_wp2_with fail
  refine Calls.mono (by simpa using HT.out _ _ HN.out.2 HN.out.1) ?_
  rintro r w' ⟨rfl, h1, h2⟩
  have HF : Hid (St w' bb f m fl' ∧ w.grownBy w' (some bb)) := ⟨h1, gb_tr (gb_of HN.out.2 _) h2⟩
  clear h1 h2 c1 HN HT
  go_wp2
  go_ret2
  exact ⟨rfl, HF.out.1, HF.out.2⟩
end Go.Proofs.YteofommckgeemaaGreatDoor
namespace Go.Proofs.YteofommckgeemaaGreatDoor
open Go.RowKit
set_option linter.unusedVariables false
set_option maxRecDepth 100000
set_option linter.unusedSimpArgs false
def gaF (hz F : Nat) (xs ys : Array Value) (g c cp : Nat) (ans : ByteArray) (j : Nat) (v : Value) : Prop := match j with
  | 0 => v = (.pointer (some ⟨hz, 1, none⟩) : Value)
  | 1 => v = (.func (.func F) xs ys : Value)
  | 2 => v = (.slice (some ⟨g, 0, none⟩) (c + 1) cp : Value)
  | 3 => v = (.slice (if cp = 1 then some ⟨g, 0, none⟩ else some ⟨g, 1, none⟩) c (cp - 1) : Value)
  | 4 => v = (.tuple #[.string ans, .nilIface] : Value)
  | 5 => v = (.string ans : Value)
  | 6 => v = (.nilIface : Value)
  | 7 => v = (.string ans : Value)
  | 8 => v = (.nilIface : Value)
  | _ => True
set_option maxRecDepth 100000 in
set_option maxHeartbeats 4000000 in
theorem answerWords_any (F : Nat) (xs ys : Array Value) (hE : ∀ args X, (callFunc F args).run Tryz.prog X = .ok (.enter F args) X) (mm : Nat) (es : Array MapEntry) (clock : Nat) (key : ByteArray) (c i : Nat) (hc : c ≤ 1000) (bb : Nat) (f m fl fl' : Int) (g : Nat) (cp : Nat) (ws : List ByteArray) (hcp : ws.length + 1 ≤ cp) (ans : ByteArray) (w : World)
    (hm : w.heap[mm]? = some (.map es clock)) (he : es.isEmpty = false) (hf : Instr.findNow .string (.string key) es.toList 0 = some (some (i, .agg #[.int .i64 c, .func (.func F) xs ys]))) (hl : ws.length = c) (hS : St w bb f m fl) (hW : Wds w g 0 (key :: ws))
    (hT : ∀ X, Below w.heap.size w X → Calls Tryz.prog F (xs ++ #[.slice (if cp = 1 then some ⟨g, 0, none⟩ else some ⟨g, 1, none⟩) c (cp - 1)] ++ ys) X fun r w' => r = .returned (.tuple #[.string ans, .nilIface]) ∧ St w' bb f m fl' ∧ X.grownBy w' (some bb)) :
    Calls Tryz.prog 43 #[.map (some mm), .slice (some ⟨g, 0, none⟩) (c + 1) cp] w fun e w' => e = .returned (.tuple #[.string ans, .nilIface]) ∧ St w' bb f m fl' ∧ w.grownBy w' (some bb) := by
  have HL := map_look w mm es clock key i _ hm he hf
  have HT : Hid (∀ X, Below w.heap.size w X → Calls Tryz.prog F (xs ++ #[.slice (if cp = 1 then some ⟨g, 0, none⟩ else some ⟨g, 1, none⟩) c (cp - 1)] ++ ys) X fun r w' => r = .returned (.tuple #[.string ans, .nilIface]) ∧ St w' bb f m fl' ∧ X.grownBy w' (some bb)) := hT
  have c0 : w.cell? ⟨g, 0, none⟩ = some (.string key) := by have := hW.2 0 key rfl; simpa using this
  have hA := blk_new w (.cells #[.int .i64 c, .func (.func F) xs ys] 58)
  have HS0 : Hid ((w.alloc (.cells #[.int .i64 c, .func (.func F) xs ys] 58)).drew.cell? ⟨w.heap.size, 1, none⟩ = some (.func (.func F) xs ys) ∧ w.heap.size < (w.alloc (.cells #[.int .i64 c, .func (.func F) xs ys] 58)).drew.heap.size ∧ Below w.heap.size w (w.alloc (.cells #[.int .i64 c, .func (.func F) xs ys] 58)).drew) := ⟨blk_cell hA 1, by simp [World.drew], ((Below.refl _ _).alloc (Nat.le_refl _) _).drew⟩
  have hbbw : bb ≠ w.heap.size := Nat.ne_of_lt hS.lt
  have hcz : (if c + 1 < cp then cp - 1 else cp - 1) = cp - 1 := by split <;> rfl
  clear hm hf hW hT hA hS
  go_enter Tryz.func43, Tryz.ntmps43
  go_wp2_with fail
  refine wp_region_facts' [30, 31, 32, 33, 34, 35, 36, 4, 5] (fun j v _ => gaF w.heap.size F xs ys g c cp ans j v) (fun li X => X.cell? ⟨w.heap.size, 1, none⟩ = some (.func (.func F) xs ys) ∧ w.heap.size < X.heap.size ∧ if li.getD 4 true then St X bb f m fl' ∧ w.grownBy X (some bb) else Below w.heap.size w X) (fun _ _ => True) (by kernel_rfl) (by kernel_rfl) HS0.out (fun _ _ _ _ _ h => h) ?_ ?_
  · intro i o li bF X hio hls hli hbl hFr hd K hK
    have hi30 : i < 9 := (Array.getElem?_eq_some_iff.1 hio).1
    have hsz : li.size = 9 := hls
    have p1 : bF.tmps.getD 1 undef = .slice (some ⟨g, 0, none⟩) (c + 1) cp := by
      rw [Array.getD_eq_getD_getElem?, hFr.2.2 1 (by decide)]; rfl
    have p6 : bF.tmps.getD 6 undef = .pointer (some ⟨w.heap.size, 0, none⟩) := by
      rw [Array.getD_eq_getD_getElem?, hFr.2.2 6 (by decide)]; rfl
    have hkp : ∀ j, j ≠ 4 → ∀ X', X'.cell? ⟨w.heap.size, 1, none⟩ = some (.func (.func F) xs ys) → w.heap.size < X'.heap.size → (if li.getD 4 true then St X' bb f m fl' ∧ w.grownBy X' (some bb) else Below w.heap.size w X') → (X'.cell? ⟨w.heap.size, 1, none⟩ = some (.func (.func F) xs ys) ∧ w.heap.size < X'.heap.size ∧ if (li.setIfInBounds j true).getD 4 true then St X' bb f m fl' ∧ w.grownBy X' (some bb) else Below w.heap.size w X') := fun j hj X' a1 a2 a3 => ⟨a1, a2, by rw [Go.getD_set_ne true hj]; exact a3⟩
    rcases (show i = 0 ∨ i = 1 ∨ i = 2 ∨ i = 3 ∨ i = 4 ∨ i = 5 ∨ i = 6 ∨ i = 7 ∨ i = 8 by omega) with rfl | rfl | rfl | rfl | rfl | rfl | rfl | rfl | rfl
    all_goals
      simp only [List.getElem?_toArray, List.getElem?_cons_succ, List.getElem?_cons_zero, Option.some.injEq] at hio
      subst hio
    · unfold Oper.wp
      simp [execOp, go_sem, Act.eval, p6]
      exact hK _ _ rfl (hkp 0 (by decide) _ hbl.1 hbl.2.1 hbl.2.2) trivial
    · have d0 : (bF.tmps.getD 30 undef) = (.pointer (some ⟨w.heap.size, 1, none⟩) : Value) := hd ⟨0, .data⟩ (by simp) rfl
      unfold Oper.wp
      simp [execOp, go_sem, Act.eval, d0, hbl.1]
      exact hK _ _ rfl (hkp 1 (by decide) _ hbl.1 hbl.2.1 hbl.2.2) trivial
    · unfold Oper.wp
      simp [execOp, go_sem, Act.eval, p1]
      exact hK _ _ rfl (hkp 2 (by decide) _ hbl.1 hbl.2.1 hbl.2.2) trivial
    · have d0 : (bF.tmps.getD 32 undef) = (.slice (some ⟨g, 0, none⟩) (c + 1) cp : Value) := hd ⟨2, .data⟩ (by simp) rfl
      unfold Oper.wp
      simp [execOp, go_sem, Act.eval, d0, show (1 : Int) ≤ (c : Int) + 1 by omega]
      exact hK _ _ rfl (hkp 3 (by decide) _ hbl.1 hbl.2.1 hbl.2.2) trivial
    · have d1 : (bF.tmps.getD 31 undef) = (.func (.func F) xs ys : Value) := hd ⟨1, .data⟩ (by simp) rfl
      have d3 : (bF.tmps.getD 33 undef) = (.slice (if cp = 1 then some ⟨g, 0, none⟩ else some ⟨g, 1, none⟩) c (cp - 1) : Value) := hd ⟨3, .data⟩ (by simp) rfl
      rw [hli] at hbl
      have hb0 := hbl.2.2
      simp only [Bool.false_eq_true, if_false] at hb0
      unfold Oper.wp
      simp [execOp, go_sem, Act.eval, d1, d3, hE]
      refine Calls.mono (by simpa using HT.out _ hb0) ?_
      rintro r w' ⟨rfl, h1, h2⟩
      exact hK _ _ rfl ⟨h2.cell hbl.1 (fun h => hbbw (Option.some.inj h).symm), Nat.lt_of_lt_of_le hbl.2.1 h2.size, by rw [show (li.setIfInBounds 4 true).getD 4 true = true by simp [Array.getD, hsz]]; exact ⟨h1, gb_tr (gb_of hb0 _) h2⟩⟩ trivial
    · have d0 : (bF.tmps.getD 34 undef) = (.tuple #[.string ans, .nilIface] : Value) := hd ⟨4, .data⟩ (by simp) rfl
      unfold Oper.wp
      simp [execOp, go_sem, Act.eval, d0]
      exact hK _ _ rfl (hkp 5 (by decide) _ hbl.1 hbl.2.1 hbl.2.2) trivial
    · have d0 : (bF.tmps.getD 34 undef) = (.tuple #[.string ans, .nilIface] : Value) := hd ⟨4, .data⟩ (by simp) rfl
      unfold Oper.wp
      simp [execOp, go_sem, Act.eval, d0]
      exact hK _ _ rfl (hkp 6 (by decide) _ hbl.1 hbl.2.1 hbl.2.2) trivial
    · have d0 : (bF.tmps.getD 35 undef) = (.string ans : Value) := hd ⟨5, .data⟩ (by simp) rfl
      unfold Oper.wp
      simp [execOp, go_sem, Act.eval, d0]
      exact hK _ _ rfl (hkp 7 (by decide) _ hbl.1 hbl.2.1 hbl.2.2) trivial
    · have d0 : (bF.tmps.getD 36 undef) = (.nilIface : Value) := hd ⟨6, .data⟩ (by simp) rfl
      unfold Oper.wp
      simp [execOp, go_sem, Act.eval, d0]
      exact hK _ _ rfl (hkp 8 (by decide) _ hbl.1 hbl.2.1 hbl.2.2) trivial
  · intro fV li X hall hbl hl
    rw [hall 4 (by decide)] at hbl
    have h4 : fV 4 = .string ans := hl 7 4 rfl
    have h5 : fV 5 = .nilIface := hl 8 5 rfl
    have hF := hbl.2.2
    simp only [if_true] at hF
    simp only [putL', Act.put, h4, h5, List.setIfInBounds_toArray, List.set_cons_succ, List.set_cons_zero]
    simp only [Exit.then]
    go_wp2
    go_ret2
    exact ⟨rfl, hF.1, hF.2⟩
end Go.Proofs.YteofommckgeemaaGreatDoor
namespace Go.Proofs.YteofommckgeemaaGreatDoor
open Go.RowKit Go.Shelf
set_option linter.unusedVariables false
set_option maxRecDepth 100000
/-- The pieces of a text between a byte's places. -/
def spl (c : UInt8) : List UInt8 → List (List UInt8)
  | [] => [[]]
  | b :: l => if b = c then [] :: spl c l else match spl c l with
    | [] => [[b]]
    | p :: ps => (b :: p) :: ps
theorem spl_ne (c : UInt8) (l : List UInt8) : spl c l ≠ [] := by
  cases l with
  | nil => exact List.cons_ne_nil _ _
  | cons b l =>
    unfold spl
    split
    · exact List.cons_ne_nil _ _
    · cases spl c l <;> exact List.cons_ne_nil _ _
theorem spl_len (c : UInt8) (l : List UInt8) : (spl c l).length = l.count c + 1 := by
  induction l with
  | nil => rfl
  | cons b l ih =>
    unfold spl
    split
    · rename_i h
      subst h
      rw [List.length_cons, ih, List.count_cons_self]
    · rename_i h
      rw [List.count_cons_of_ne (fun q => h q)]
      cases hs : spl c l with
      | nil => exact absurd hs (spl_ne c l)
      | cons p ps => rw [← ih, hs]; rfl
theorem splitK_spl (c : UInt8) : ∀ (n : Nat) (l : List UInt8), l.length ≤ n → Lib.splitK [c] 0 (l.count c) l = spl c l
  | _, [], _ => by unfold spl; rfl
  | 0, b :: l, h => by simp at h
  | n + 1, b :: l, h => by
    rw [List.length_cons] at h
    have ih := splitK_spl c n l (by omega)
    by_cases hb : b = c
    · subst hb
      rw [List.count_cons_self]
      unfold spl Lib.splitK
      rw [if_pos rfl, Lib.index_one]
      have e : Lib.indexByte (b :: l) b = 0 := by unfold Lib.indexByte; rw [if_pos (by simp)]
      rw [e]
      show [] :: Lib.splitK [b] 0 (List.count b l) l = _
      rw [ih]
    · rw [List.count_cons_of_ne (fun q => hb q)]
      unfold spl
      rw [if_neg hb]
      cases hk : l.count c with
      | zero =>
        rw [hk] at ih
        have e : spl c l = [l] := by rw [← ih]; rfl
        rw [e]; rfl
      | succ k =>
        rw [hk] at ih
        unfold Lib.splitK at ih ⊢
        rw [Lib.index_one] at ih ⊢
        have hg := Lib.indexByte_ge l c
        have e : Lib.indexByte (b :: l) c = if Lib.indexByte l c == -1 then -1 else Lib.indexByte l c + 1 := by
          conv => lhs; unfold Lib.indexByte
          rw [if_neg (by simpa using hb)]
        rw [e]
        by_cases h1 : Lib.indexByte l c = -1
        · rw [h1] at ih ⊢
          rw [if_pos (by rfl)] at ih
          rw [if_pos (by rfl), ← ih]
        · have h2 : (Lib.indexByte l c == -1) = false := beq_eq_false_iff_ne.2 h1
          rw [h2] at ih ⊢
          have h3 : (Lib.indexByte l c + 1 == -1) = false := beq_eq_false_iff_ne.2 (by omega)
          simp only [Bool.false_eq_true, if_false, h3] at ih ⊢
          rw [← ih]
          have h4 : (Lib.indexByte l c + 1).toNat = (Lib.indexByte l c).toNat + 1 := by omega
          simp only [h4, Nat.add_zero, List.take_succ_cons, List.length_singleton]
          try rfl
set_option maxHeartbeats 1000000 in
theorem split_one (s : ByteArray) (c : UInt8) (w : World) (hs : s.size < 4294967281) :
    Calls Tryz.prog 24 #[.string s, .string ⟨#[c]⟩] w fun e w' => e = .returned (.slice (some ⟨w.heap.size, 0, none⟩) (spl c s.data.toList).length (spl c s.data.toList).length) ∧ w' = w.alloc (.cells ((spl c s.data.toList).map fun l => Value.string ⟨l.toArray⟩).toArray 9) := by
  have h1 : 1 ≤ (⟨#[c]⟩ : ByteArray).size := Nat.le_refl _
  have hcount : Lib.countB s ⟨#[c]⟩ = s.data.toList.count c := Lib.count_one c s.data.toList
  have hlen := Lib.splitB_all ⟨#[c]⟩ h1 0 _ s rfl
  have hdat := Lib.splitB_data ⟨#[c]⟩ 0 (Lib.countB s ⟨#[c]⟩) s
  have hK : Lib.splitK [c] 0 (Lib.countB s ⟨#[c]⟩) s.data.toList = spl c s.data.toList := by rw [hcount]; exact splitK_spl c _ _ (Nat.le_refl _)
  have hpieces : (Lib.splitB ⟨#[c]⟩ 0 (Lib.countB s ⟨#[c]⟩) s).map Value.string = (spl c s.data.toList).map fun l => Value.string ⟨l.toArray⟩ := by
    rw [← hK, ← hdat, List.map_map]
    apply List.map_congr_left
    intro x _
    rfl
  have hcl : Lib.countB s ⟨#[c]⟩ + 1 = (spl c s.data.toList).length := by rw [spl_len, hcount]
  have hle := Lib.countB_le ⟨#[c]⟩ h1 s.size s (Nat.le_refl _)
  have cg := Any.strings_genSplit_core (ρ := Tryz.lays146_ren) { Tryz.lays146 with } (by kernel_rfl) s ⟨#[c]⟩ 0 (-1) (Lib.countB s ⟨#[c]⟩ + 1) w hs h1 (Nat.zero_le _)
    (fun x k hx => (Tryz.strings_Index_one x c _).mono fun e w' ⟨he, hw⟩ => ⟨by rw [he]; show Ending.returned (Value.int .i64 (Lib.indexByte x.data.toList c)) = Ending.returned (Value.int .i64 (Lib.index x.data.toList [c])); rw [Lib.index_one], hw⟩)
    ((Tryz.strings_Count_one s c w).mono fun e w' ⟨he, hw⟩ => ⟨by rw [he, hcount]; rfl, hw⟩)
    (by decide) (by decide) (by rw [if_pos (by decide)]; omega)
  rw [Nat.add_sub_cancel, hlen] at cg
  have e2 : Lib.cellsOf (Lib.splitB ⟨#[c]⟩ 0 (Lib.countB s ⟨#[c]⟩) s) (Lib.countB s ⟨#[c]⟩ + 1) = ((spl c s.data.toList).map fun l => Value.string ⟨l.toArray⟩).toArray := by
    rw [← hlen, Lib.cellsOf_full, hpieces]
  rw [e2, hcl] at cg
  have HC : Hid (Calls Tryz.prog 67 #[.string s, .string ⟨#[c]⟩, .int .i64 0, .int .i64 (-1)] w fun e w' => e = .returned (.slice (some ⟨w.heap.size, 0, none⟩) (spl c s.data.toList).length (spl c s.data.toList).length) ∧ w' = w.alloc (.cells ((spl c s.data.toList).map fun l => Value.string ⟨l.toArray⟩).toArray 9)) := cg
  clear cg e2 hcl hle hpieces hK hdat hlen hcount h1
  go_enter Tryz.func24, Tryz.ntmps24
  go_wp2_with fail
  refine HC.out.mono ?_
  rintro e w' ⟨rfl, hw⟩
  go_wp2
  go_ret
  exact ⟨rfl, rfl⟩
end Go.Proofs.YteofommckgeemaaGreatDoor
namespace Go.Proofs.YteofommckgeemaaGreatDoor
open Go.RowKit
set_option linter.unusedVariables false
set_option maxRecDepth 100000
set_option linter.unusedSimpArgs false
theorem asNil_any (v : Value) (w : World) : Calls Tryz.prog 44 #[.nilIface, v] w fun e w' => e = .returned (.bool false) ∧ w' = w := by
  go_enter Tryz.func44, Tryz.ntmps44
  go_wp2
  go_ret
  exact ⟨rfl, rfl⟩
set_option maxRecDepth 100000 in
set_option maxHeartbeats 2000000 in
theorem answerTo_any (mm bb : Nat) (f m fl fl' : Int) (s key : ByteArray) (ws : List ByteArray) (c : Nat) (ans : ByteArray) (w : World) (hs : s.size < 4294967281) (hsp : spl 32 s.data.toList = (key :: ws).map fun x => x.data.toList) (hl : ws.length = c) (hS : St w bb f m fl)
    (hT : ∀ X, Below w.heap.size w X → Wds X w.heap.size 0 (key :: ws) → St X bb f m fl → Calls Tryz.prog 43 #[.map (some mm), .slice (some ⟨w.heap.size, 0, none⟩) (c + 1) (c + 1)] X fun e w' => e = .returned (.tuple #[.string ans, .nilIface]) ∧ St w' bb f m fl' ∧ X.grownBy w' (some bb)) :
    Calls Tryz.prog 16 #[.map (some mm), .string s] w fun e w' => e = .returned (.string ans) ∧ St w' bb f m fl' ∧ w.grownBy w' (some bb) := by
  have hsl := split_one s 32 w hs
  rw [hsp] at hsl
  have e1 : ((key :: ws).map fun x => x.data.toList).length = c + 1 := by simp [hl]
  have e2 : (((key :: ws).map fun x => x.data.toList).map fun l => Value.string ⟨l.toArray⟩) = (key :: ws).map Value.string := by
    rw [List.map_map]; rfl
  rw [e1, e2] at hsl
  have hA := blk_new w (.cells ((key :: ws).map Value.string).toArray 9)
  have hB : Below w.heap.size w (w.alloc (.cells ((key :: ws).map Value.string).toArray 9)) := (Below.refl _ _).alloc (Nat.le_refl _) _
  have hWd : Wds (w.alloc (.cells ((key :: ws).map Value.string).toArray 9)) w.heap.size 0 (key :: ws) := by
    refine ⟨by simp, fun i x hx => ?_⟩
    rw [Nat.zero_add, blk_cell hA i, List.getElem?_toArray, List.getElem?_map, hx]; rfl
  have hC := hT _ hB hWd (hS.next hB)
  have HH : Hid (Calls Tryz.prog 43 #[.map (some mm), .slice (some ⟨w.heap.size, 0, none⟩) (c + 1) (c + 1)] (w.alloc (.cells ((key :: ws).map Value.string).toArray 9)) (fun e w' => e = .returned (.tuple #[.string ans, .nilIface]) ∧ St w' bb f m fl' ∧ (w.alloc (.cells ((key :: ws).map Value.string).toArray 9)).grownBy w' (some bb)) ∧ Below w.heap.size w (w.alloc (.cells ((key :: ws).map Value.string).toArray 9))) := ⟨hC, hB⟩
  clear hA hB hWd hC hT hS hsp e1 e2 hs
  go_enter Tryz.func16, Tryz.ntmps16
  go_wp2_with fail
  refine hsl.mono ?_
  rintro e w1 ⟨rfl, hw1⟩
  subst hw1
  generalize (w.alloc (.cells ((key :: ws).map Value.string).toArray 9)) = W at *
  clear hsl
  go_wp2_with fail
  refine HH.out.1.mono ?_
  rintro e w2 ⟨rfl, h1, h2⟩
  have HF : Hid (St w2 bb f m fl' ∧ w.grownBy w2 (some bb)) := ⟨h1, gb_tr (gb_of HH.out.2 _) h2⟩
  clear h1 h2 HH
  go_wp2_with fail
  refine (asNil_any _ _).mono ?_
  rintro e w3 ⟨rfl, hw3⟩
  subst hw3
  go_wp2
  go_ret
  exact ⟨rfl, HF.out.1.next ((Below.refl _ _).alloc (Nat.le_refl _) _), gb_tr HF.out.2 (gb_of ((Below.refl _ _).alloc (Nat.le_refl _) _) _)⟩
end Go.Proofs.YteofommckgeemaaGreatDoor
