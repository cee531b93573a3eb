/-
  The lines of a text, as the laws take them apart, walked.
-/
import Derived.Test.YteofommckgeemaaGreatDoorShh
import Derived.Test.YteofommckgeemaaGreatDoorRows
import Derived.Shelf.Strings.BuilderK
import Derived.ProofKit
import Derived.Test.YteofommckgeemaaGreatDoorBnb
import Derived.Shelf.Strings.MapGrows
import Derived.Test.YteofommckgeemaaGreatDoorOrd
namespace Go.Proofs.YteofommckgeemaaGreatDoor
open Go.RowKit Go.Shelf
set_option linter.unusedVariables false
set_option maxRecDepth 100000
theorem bSize : ∃ j, Tryz.prog.info? 37 = some j ∧ j.size = 2 := by
  obtain ⟨j, hj, hjs⟩ := Option.map_eq_some_iff.1 Tryz.Builder_Extra_169.toX72.sizeBuilder
  exact ⟨j, hj, hjs⟩
set_option maxHeartbeats 1000000 in
set_option maxRecDepth 100000 in
theorem bUsed_any (b : Nat) (w : World) (h0 : w.cell? ⟨b, 0, none⟩ = some (.pointer (some ⟨b, 0, none⟩))) :
    Calls Tryz.prog 42 #[.pointer (some ⟨b, 0, none⟩)] w fun e w' => e = .returned (.tuple #[]) ∧ w' = w := by
  obtain ⟨j, hj, hjs⟩ := bSize
  go_enter Tryz.func42, Tryz.ntmps42
  go_wp2
  rw [Lib.run_neq_ptr_same w _ Tryz.underlying35 hj]
  go_wp2
  go_end0
  exact ⟨rfl, rfl⟩
set_option maxHeartbeats 1000000 in
set_option maxRecDepth 100000 in
theorem bFresh_any (b : Nat) (w : World) (h0 : w.cell? ⟨b, 0, none⟩ = some (.pointer none)) (hsh : w.shape? b = some (37, 2)) (hfz : w.frozen? ⟨b, 0, none⟩ = false) :
    Calls Tryz.prog 42 #[.pointer (some ⟨b, 0, none⟩)] w fun e w' => e = .returned (.tuple #[]) ∧ w' = w.setCell ⟨b, 0, none⟩ (.pointer (some ⟨b, 0, none⟩)) := by
  obtain ⟨j, hj, hjs⟩ := bSize
  go_enter Tryz.func42, Tryz.ntmps42
  go_wp2
  rw [Lib.run_to_unsafe w ⟨b, 0, none⟩ Tryz.underlying35 Tryz.underlying135 hj (by rw [hjs]; decide) hsh (Nat.zero_lt_succ 1)]
  simp only [Result.andThen]
  rw [Oper.upon_value]
  go_wp2
  rw [run_callFunc_extern Tryz.func108 (by kernel_rfl) (by kernel_rfl) (by kernel_rfl) (e := Extern.AbiNoEscape.same) (by kernel_rfl)]
  rw [Lib.run_noEscape]
  simp only [Result.andThen]
  rw [Oper.upon_value]
  go_wp2
  rw [Lib.run_from_unsafe w ⟨b, 0, none⟩ Tryz.underlying135 Tryz.underlying35 hj hsh Tryz.Builder_Extra_169.toX72.liesBuilder]
  simp only [Result.andThen]
  rw [Oper.upon_value]
  go_wp2
  go_end0
  exact ⟨rfl, rfl⟩
/-- What a builder holds, and what stands besides. -/
def BldQ (B b : Nat) (bs : List Value) (w w' : World) : Prop := Lib.BuilderAtF 37 5 B b (.pointer (some ⟨b, 0, none⟩)) bs w' ∧ Below B w w' ∧ Lib.OthersKept 5 (some b) w w'
theorem bCopy_any (B b : Nat) (bs : List Value) (w : World) (h : Lib.IsBuilderF 37 5 B b bs w) :
    Calls Tryz.prog 42 #[.pointer (some ⟨b, 0, none⟩)] w fun e w' => e = .returned (.tuple #[]) ∧ BldQ B b bs w w' := by
  rcases h with h | h
  · refine (bFresh_any b w h.cell0 h.shape h.frozen0).mono ?_
    rintro e w' ⟨rfl, rfl⟩
    exact ⟨rfl, h.used _, (Below.refl B w).setCell (p := ⟨b, 0, none⟩) h.1 _, (Lib.OthersKept.refl _ _ w).setCell ⟨b, 0, none⟩ rfl _⟩
  · refine (bUsed_any b w h.cell0).mono ?_
    rintro e w' ⟨rfl, rfl⟩
    exact ⟨rfl, h, Below.refl B _, Lib.OthersKept.refl _ _ _⟩
set_option maxHeartbeats 2000000 in
set_option maxRecDepth 100000 in
theorem bWrite_any (B b : Nat) (bs : List Value) (s : ByteArray) (w : World) (h : Lib.IsBuilderF 37 5 B b bs w) (hlen : bs.length + s.size ≤ 140737488355328) (hBw : B ≤ w.heap.size) :
    Calls Tryz.prog 15 #[.pointer (some ⟨b, 0, none⟩), .string s] w fun e w' => e = .returned (.tuple #[.int .i64 s.size, .nilIface]) ∧ BldQ B b (bs ++ Lib.strCells s) w w' := by
  obtain ⟨i0, hi', hz0, hz1, hz2⟩ := info_parts Tryz.Builder_Extra_169.infoByte
  have hi : Tryz.prog.info? 5 = some i0 := hi'
  clear hi'
  go_enter Tryz.func15, Tryz.ntmps15
  go_wp2_with fail
  refine (bCopy_any B b bs _ h).mono ?_
  rintro e w1 ⟨rfl, ⟨hB, v, hbk, hown, hne⟩, hb1, hk1⟩
  have c0 : w1.cell? ⟨b, 0, none⟩ = some (.pointer (some ⟨b, 0, none⟩)) := by rw [Lib.cell_of_heap hbk]; rfl
  have c1 : w1.cell? ⟨b, 1, none⟩ = some v := by rw [Lib.cell_of_heap hbk]; rfl
  have hs1 := hb1.size
  go_wp2_with (at_builtin; refine Lib.wpList_append_own_stringF _ rfl _ _ 22 9 rfl B 5 i0 Tryz.underlying22 Tryz.underlying9 hi hz0 hz1 hz2 _ _ _ rfl hown s rfl ?c3 ?c4 ?c5 ?_)
  case c3 => unfold maxLen; omega
  case c4 => omega
  case c5 => omega
  intro v' w2 hown' hgrow _
  have hlt : b < w1.heap.size := (Array.getElem?_eq_some_iff.1 hbk).1
  have hb2 : w2.heap[b]? = some (.cells #[.pointer (some ⟨b, 0, none⟩), v] 37 (0, 0)) := (hgrow.block b hlt (fun e => hne e.symm)).trans hbk
  have d0 : w2.cell? ⟨b, 0, none⟩ = some (.pointer (some ⟨b, 0, none⟩)) := by rw [Lib.cell_of_heap hb2]; rfl
  have d1 : w2.cell? ⟨b, 1, none⟩ = some v := by rw [Lib.cell_of_heap hb2]; rfl
  have f1 : w2.frozen? ⟨b, 1, none⟩ = false := Lib.frozen_of_heap hb2 1
  obtain ⟨ao, n', cap, rfl⟩ : ∃ ao n' cap, v' = .slice ao n' cap := by
    rcases hown'.2 with ⟨hv, _⟩ | ⟨g, cap, cur, fz, hv, _⟩
    · exact ⟨_, _, _, hv⟩
    · exact ⟨_, _, _, hv⟩
  go_wp2
  go_ret2
  refine ⟨rfl, ?_, ?_, (hk1.grown hgrow (Lib.ownsRowF_kind hown)).setCell ⟨b, 1, none⟩ rfl _⟩
  · exact Lib.BuilderAtF.put hB hb2 (bs' := bs ++ Lib.strCells s) (by simpa [Lib.strCells_length] using hown') Tryz.Builder_Extra_169.neB5
  · exact (hb1.grown hgrow (by omega) (fun k hk => (hown.lt k hk).1)).setCell (p := ⟨b, 1, none⟩) hB _
end Go.Proofs.YteofommckgeemaaGreatDoor
namespace Go.Proofs.YteofommckgeemaaGreatDoor
open Go.RowKit
set_option linter.unusedVariables false
set_option maxRecDepth 100000
set_option linter.unusedSimpArgs false
set_option maxRecDepth 100000 in
set_option maxHeartbeats 2000000 in
theorem linesOf_any (s : ByteArray) (ls : List ByteArray) (n : Nat) (w : World) (hs : s.size < 4294967281) (hn : ls.length = n) (hn2 : n ≤ 200) (hsp : spl 10 s.data.toList = (ls ++ [(⟨#[]⟩ : ByteArray)]).map fun x : ByteArray => x.data.toList) :
    Calls Tryz.prog 13 #[.string s] w fun e w' => e = .returned (.slice (some ⟨w.heap.size, 0, none⟩) n (n + 1)) ∧ w' = w.alloc (.cells ((ls ++ [(⟨#[]⟩ : ByteArray)]).map Value.string).toArray 9) := by
  have hsl := split_one s 10 w hs
  rw [hsp] at hsl
  have e1 : ((ls ++ [(⟨#[]⟩ : ByteArray)]).map fun x : ByteArray => x.data.toList).length = n + 1 := by simp [hn]
  have e2 : (((ls ++ [(⟨#[]⟩ : ByteArray)]).map fun x : ByteArray => x.data.toList).map fun l : List UInt8 => Value.string ⟨l.toArray⟩) = (ls ++ [(⟨#[]⟩ : ByteArray)]).map Value.string := by
    rw [List.map_map]; rfl
  rw [e1, e2] at hsl
  have hA := blk_new w (.cells ((ls ++ [(⟨#[]⟩ : ByteArray)]).map Value.string).toArray 9)
  have c0 : (w.alloc (.cells ((ls ++ [(⟨#[]⟩ : ByteArray)]).map Value.string).toArray 9)).cell? ⟨w.heap.size, n, none⟩ = some (.string (⟨#[]⟩ : ByteArray)) := by
    rw [blk_cell hA n, List.getElem?_toArray, List.getElem?_map, List.getElem?_append_right (by omega)]
    simp [hn]
  clear hsp e1 e2 hA hs
  generalize (.cells ((ls ++ [(⟨#[]⟩ : ByteArray)]).map Value.string).toArray 9 : Obj) = ob at *
  go_enter Tryz.func13, Tryz.ntmps13
  go_wp2_with fail
  refine hsl.mono ?_
  rintro e w1 ⟨rfl, rfl⟩
  clear hsl
  go_wp2
  go_ret
  exact ⟨rfl, rfl⟩
theorem gb_bld {T e : TypeId} {B b bb : Nat} {bs : List Value} {W W' : World} (h : Lib.IsBuilderF T e B b bs W) (hg : W.grownBy W' (some bb)) (hb : bb < B) : Lib.IsBuilderF T e B b bs W' := by
  have key : ∀ p, Lib.BuilderAtF T e B b p bs W → Lib.BuilderAtF T e B b p bs W' := fun p h => by
    have hlt := h.lt
    obtain ⟨hB, v, hv, hown, hne⟩ := h
    exact ⟨hB, v, (hg.block b hlt (fun q => by have := Option.some.inj q; omega)).trans hv, hown.kept hg (.inr fun q => by have := (hown.lt _ q).1; omega), hne⟩
  exact h.elim (fun x => .inl (key _ x)) (fun x => .inr (key _ x))
theorem Kt.oth {W W' : World} {b : Nat} {cs : Array Value} {fr : Nat × Nat} (h : Lib.OthersKept 5 (some b) W W') (hb : W.heap[b]? = some (.cells cs 37 fr)) : Kt W W' := fun k o a x y z => by
  refine h k o a (fun q => ?_) x
  have := Option.some.inj q
  subst this
  rw [hb] at a
  exact y _ _ (Option.some.inj a).symm
theorem bld_blk {B b : Nat} {bs : List Value} {W : World} (h : Lib.IsBuilderF 37 5 B b bs W) : ∃ cs fr, W.heap[b]? = some (.cells cs 37 fr) := by
  rcases h with ⟨_, v, hv, _⟩ | ⟨_, v, hv, _⟩
  · exact ⟨_, _, hv⟩
  · exact ⟨_, _, hv⟩
/-- What the lines are answered by, put together. -/
def outs : List ByteArray → List UInt8
  | [] => []
  | a :: r => a.data.toList ++ 10 :: outs r
theorem outs_app (a b : List ByteArray) : outs (a ++ b) = outs a ++ outs b := by
  induction a with
  | nil => rfl
  | cons x r ih => rw [List.cons_append, outs, outs, ih, List.append_assoc]; rfl
theorem outs_len (a : List ByteArray) (h : ∀ x ∈ a, x.size ≤ 100000) : (outs a).length ≤ a.length * 100001 := by
  induction a with
  | nil => exact Nat.zero_le _
  | cons x r ih =>
    have h1 := h x List.mem_cons_self
    have h2 := ih (fun y hy => h y (List.mem_cons_of_mem _ hy))
    have h3 : x.data.toList.length = x.size := Array.length_toList
    rw [outs, List.length_append, List.length_cons, List.length_cons, h3]
    omega
/-- How it stands between two lines. -/
def BenI (w w1 : World) (m bb B : Nat) (fl : Int) (o : List UInt8) (X : World) : Prop := Kt w1 X ∧ RowsAt X m bb ∧ St X bb 64 1 fl ∧ Lib.IsBuilderF 37 5 B B (Lib.byteCells o) X ∧ Below w.heap.size w X ∧ B ≤ X.heap.size
theorem BenI.say {w w1 X X' : World} {m bb B : Nat} {fl fl' : Int} {o : List UInt8} (h : BenI w w1 m bb B fl o X) (hS : St X' bb 64 1 fl') (hg : X.grownBy X' (some bb)) (hb : bb < B) (hw : w.heap.size ≤ bb) : BenI w w1 m bb B fl' o X' := by
  obtain ⟨h1, h2, h3, h4, h5, h6⟩ := h
  have hk := Kt.of hg h3
  exact ⟨h1.trans hk, h2.next hk, hS, gb_bld h4 hg hb, gb_bel h5 hg hw, Nat.le_trans h6 hg.size⟩
theorem BenI.put {w w1 X X' : World} {m bb B : Nat} {fl : Int} {o : List UInt8} {a : ByteArray} (h : BenI w w1 m bb B fl o X) (hq : BldQ B B (Lib.byteCells o ++ Lib.strCells a) X X') (hb : bb < B) (hw : w.heap.size ≤ B) : BenI w w1 m bb B fl (o ++ a.data.toList) X' := by
  obtain ⟨h1, h2, h3, h4, h5, h6⟩ := h
  obtain ⟨q1, q2, q3⟩ := hq
  obtain ⟨cs, fr, hc⟩ := bld_blk h4
  have hk := Kt.oth q3 hc
  refine ⟨h1.trans hk, h2.next hk, (q2.block bb hb).trans h3, .inr ?_, h5.trans (q2.mono hw), Nat.le_trans h6 q2.size⟩
  rw [Lib.byteCells_append]
  exact q1
set_option maxRecDepth 100000 in
set_option maxHeartbeats 4000000 in
theorem Bench_any (w : World) (hT : TB w) (s : ByteArray) (ls ans : List ByteArray) (fls : Nat → Int) (h0 : fls 0 = 0) (n : Nat) (hn : ls.length = n) (hn2 : n ≤ 200) (hs : s.size ≤ 20000) (hsp : spl 10 s.data.toList = (ls ++ [(⟨#[]⟩ : ByteArray)]).map fun x : ByteArray => x.data.toList)
    (hne : ∀ x ∈ ls, x.toList.isEmpty = false) (hal : ans.length = n) (hsz : ∀ a ∈ ans, a.size ≤ 100000)
    (hA : ∀ k l a, ls[k]? = some l → ans[k]? = some a → ∀ mm bb X, w.heap.size ≤ bb → Below w.heap.size w X → RowsAt X mm bb → St X bb 64 1 (fls k) → Calls Tryz.prog 16 #[.map (some mm), .string l] X fun e w' => e = .returned (.string a) ∧ St w' bb 64 1 (fls (k + 1)) ∧ X.grownBy w' (some bb)) :
    Calls Tryz.prog 10 #[.string s] w fun e w' => e = .returned (.string ⟨(outs ans).toArray⟩) ∧ Below w.heap.size w w' := by
  have hL := linesOf_any s ls n w (by omega) hn hn2 hsp
  have hB1 : Below w.heap.size w (w.alloc (.cells ((ls ++ [(⟨#[]⟩ : ByteArray)]).map Value.string).toArray 9)) := (Below.refl _ _).alloc (Nat.le_refl _) _
  have hA1 := blk_new w (.cells ((ls ++ [(⟨#[]⟩ : ByteArray)]).map Value.string).toArray 9)
  have hz1 : (w.alloc (.cells ((ls ++ [(⟨#[]⟩ : ByteArray)]).map Value.string).toArray 9)).heap.size = w.heap.size + 1 := by simp
  have HL : Hid (∀ X : World, Kt (w.alloc (.cells ((ls ++ [(⟨#[]⟩ : ByteArray)]).map Value.string).toArray 9)) X → ∀ k l, ls[k]? = some l → X.cell? ⟨w.heap.size, k, none⟩ = some (.string l)) := fun X hK k l hk => by
    have hX := hK _ _ hA1 (fun cs fr e => by simp at e) (fun cs fr e => by simp at e) (fun cs fr e => by simp at e)
    rw [blk_cell hX k, List.getElem?_toArray, List.getElem?_map, List.getElem?_append_left (List.getElem?_eq_some_iff.1 hk).1, hk]; rfl
  have HA : Hid (_) := hA
  have HC : Hid (∀ k, k < n → ∃ l a, ls[k]? = some l ∧ ans[k]? = some a ∧ l.toList.isEmpty = false ∧ a.size ≤ 100000) := fun k hk => by
    have h1 : k < ls.length := by omega
    have h2 : k < ans.length := by omega
    exact ⟨ls[k], ans[k], List.getElem?_eq_getElem h1, List.getElem?_eq_getElem h2, hne _ (List.getElem_mem h1), hsz _ (List.getElem_mem h2)⟩
  have HO : Hid (∀ k, k ≤ n → (outs (ans.take k)).length ≤ 20020200) := fun k hk => by
    refine Nat.le_trans (outs_len _ fun x hx => hsz x (List.mem_of_mem_take hx)) ?_
    rw [List.length_take]
    have : min k ans.length ≤ 200 := by omega
    omega
  have HE : Hid (outs (ans.take n) = outs ans) := by rw [Hid, ← hal, List.take_length]
  clear hsp hne hsz hA hal
  go_enter Tryz.func10, Tryz.ntmps10
  go_wp2_with fail
  refine hL.mono ?_
  rintro e w1 ⟨rfl, hw1⟩
  rw [← hw1] at hB1 hz1 HL
  clear hL hw1 hA1
  have hbn := blk_new w1 (.cells #[.int .i64 64, .int .i64 1, .int .i64 0] 32)
  rw [hz1] at hbn
  have HS : Hid (St (w1.alloc (.cells #[.int .i64 64, .int .i64 1, .int .i64 0] 32)) (w.heap.size + 1) 64 1 (fls 0) ∧ Kt w1 (w1.alloc (.cells #[.int .i64 64, .int .i64 1, .int .i64 0] 32)) ∧ Below w.heap.size w (w1.alloc (.cells #[.int .i64 64, .int .i64 1, .int .i64 0] 32)) ∧ w.heap.size + 1 < (w1.alloc (.cells #[.int .i64 64, .int .i64 1, .int .i64 0] 32)).heap.size) :=
    ⟨by rw [h0]; exact hbn, Kt.bel ((Below.refl _ _).alloc (Nat.le_refl _) _), hB1.alloc hB1.size _, by simp; omega⟩
  clear hbn hB1
  go_wp2_with fail
  refine (rows_any _ _).mono ?_
  rintro e w3 ⟨m, rfl, hR, hb3⟩
  have HI : Hid (BenI w w1 m (w.heap.size + 1) w3.heap.size (fls 0) (outs (ans.take 0)) (w3.alloc (.cells #[.pointer none, .slice none 0 0] 37))) := by
    obtain ⟨q1, q2, q3, q4⟩ := HS.out
    have hb4 : Below w3.heap.size w3 (w3.alloc (.cells #[.pointer none, .slice none 0 0] 37)) := (Below.refl _ _).alloc (Nat.le_refl _) _
    refine ⟨q2.trans ((Kt.bel hb3).trans (Kt.bel hb4)), hR.next (Kt.bel hb4), (q1.next hb3).next hb4, .inl ⟨Nat.le_refl _, _, blk_new _ _, World.ownsRowF_nil _ _ _ _, by simp [Value.ownBlock]⟩, (q3.trans (hb3.mono q3.size)).trans (hb4.mono (Nat.le_trans q3.size hb3.size)), by simp⟩
  have hlt3 : w.heap.size + 1 < w3.heap.size := Nat.lt_of_lt_of_le HS.out.2.2.2 hb3.size
  generalize hBB : w3.heap.size = B at *
  clear hR hb3 HS
  go_upto_region 9 with fail
  generalize hbb : w.heap.size + 1 = bb at *
  have hwb : w.heap.size ≤ bb := by omega
  clear hbb hz1 hBB
  go_wp2
  go_loopw [21] (fun i wr => ∃ k : Nat, k ≤ n ∧ i = .int .i64 k ∧ Hid (BenI w w1 m bb B (fls k) (outs (ans.take k)) wr)) (fun i _ => n - (intOf i).toNat)
  case atStart => exact ⟨0, Nat.zero_le _, rfl, HI.out⟩
  case round =>
    clear HI
    obtain ⟨k, hk, rfl, hI⟩ := hrel
    by_cases hlt : k < n
    · obtain ⟨l, a, g1, g2, g3, g4⟩ := HC.out k hlt
      have hlt2 : (k : Int) < (n : Int) := by omega
      have hcl := HL.out wr hI.out.1 k l g1
      have HCa : Hid (Calls Tryz.prog 16 #[.map (some m), .string l] wr fun e w' => e = .returned (.string a) ∧ St w' bb 64 1 (fls (k + 1)) ∧ wr.grownBy w' (some bb)) := HA.out k l a g1 g2 m bb wr hwb hI.out.2.2.2.2.1 hI.out.2.1 hI.out.2.2.1
      have HT1 : Hid (outs (ans.take (k + 1)) = outs (ans.take k) ++ (a ++ ⟨#[10]⟩ : ByteArray).data.toList) := by
        rw [Hid, List.take_add_one, g2, Option.toList_some, outs_app]
        congr 1
      have ho := HO.out k hk
      have sA : (a.size : Int) ≤ 100000 := by omega
      have s1 : (⟨#[10]⟩ : ByteArray).size = 1 := rfl
      have sB : (a ++ ⟨#[10]⟩ : ByteArray).size = a.size + 1 := by rw [ByteArray.size_append]; rfl
      clear HC HL HA g1 g2 HO HE
      go_wp2_with fail
      refine HCa.out.mono ?_
      rintro e w5 ⟨rfl, hS5, hg5⟩
      have H5 : Hid (BenI w w1 m bb B (fls (k + 1)) (outs (ans.take k)) w5) := hI.out.say hS5 hg5 hlt3 hwb
      clear hS5 hg5 hI HCa hcl
      go_wp2_with fail
      have hWr := bWrite_any B B (Lib.byteCells (outs (ans.take k))) (a ++ ⟨#[10]⟩) w5 H5.out.2.2.2.1 (by rw [Lib.byteCells_length]; omega) H5.out.2.2.2.2.2
      refine hWr.mono ?_
      rintro e w6 ⟨rfl, hq⟩
      have H6 : Hid (BenI w w1 m bb B (fls (k + 1)) (outs (ans.take (k + 1))) w6) := by
        have := H5.out.put hq hlt3 (by omega)
        rw [Hid, HT1.out]; exact this
      clear hq H5
      go_wp2
      go_roundw
      case rel => exact ⟨k + 1, by omega, by go_num, H6⟩
      case measure => simp [intOf]; omega
    · have hk2 : k = n := by omega
      subst hk2
      have HF : Hid (BenI w w1 m bb B (fls k) (outs ans) wr) := by
        have h := hI.out
        rw [HE.out] at h
        exact h
      clear hI HC HL HA HO HE
      go_wp2_with fail
      refine (Tryz.Builder_String_any_k B B (outs ans) wr HF.out.2.2.2.1 HF.out.2.2.2.2.2).mono ?_
      rintro e w7 ⟨rfl, -, hb7, -⟩
      have H7 : Hid (Below w.heap.size w w7) := HF.out.2.2.2.2.1.trans (hb7.mono (by omega))
      clear hb7 HF
      go_wp2
      go_ret
      exact ⟨rfl, H7.out⟩
end Go.Proofs.YteofommckgeemaaGreatDoor
namespace Go.Proofs.YteofommckgeemaaGreatDoor
open Go.RowKit
set_option linter.unusedVariables false
set_option maxRecDepth 100000
set_option linter.unusedSimpArgs false
theorem Wds.tail {W : World} {g : Nat} {s : ByteArray} {ws : List ByteArray} (h : Wds W g 0 (s :: ws)) : Wds W g 1 ws := ⟨h.1, fun i x hx => by
  have := h.2 (i + 1) x hx
  rw [show (1 : Nat) + i = 0 + (i + 1) by omega]; exact this⟩
theorem oneLine_any (w0 : World) (hT : TB w0) (mm bb : Nat) (hbb : w0.heap.size ≤ bb) (X : World) (hX : Below w0.heap.size w0 X) (es : Array MapEntry) (clock : Nat) (hm : X.heap[mm]? = some (.map es clock)) (he : es.isEmpty = false) (key : ByteArray) (fv : Value) (i : Nat) (hf : Instr.findNow .string (.string key) es.toList 0 = some (some (i, .agg #[.int .i64 1, fv]))) (F : Nat) (hR : OneR X bb F fv) (hE : ∀ args X, (callFunc F args).run Tryz.prog X = .ok (.enter F args) X) (fl : Int) (hS : St X bb 64 1 fl) (s a : ByteArray) (na : Nmt) (hs : s.size < 4294967281) (hsp : spl 32 s.data.toList = [key, a].map fun x : ByteArray => x.data.toList) (hRa : RdIs 64 1 a na) (hza : a.size ≤ 100000) (k : Int) (bo : Bool) (e : Int) (t : ByteArray) (fg : Int) (ht : t.size ≤ 4611686018427387904)
    (hF : ∀ Y, Below w0.heap.size w0 Y → Calls Tryz.prog F #[.int .i64 64, .int .i64 1, numW na] Y fun r w' => r = .returned (rsV k bo e t fg) ∧ Below Y.heap.size Y w') :
    Calls Tryz.prog 16 #[.map (some mm), .string s] X fun e' w' => e' = .returned (.string (shT k bo e t)) ∧ St w' bb 64 1 (orF fl fg) ∧ X.grownBy w' (some bb) := by
  obtain ⟨tell, ⟨p, q, rfl, hp, hq⟩, ⟨p2, q2, rfl, hp2, hq2⟩⟩ := hR
  have hxl := hS.lt
  refine answerTo_any mm bb 64 1 fl (orF fl fg) s key [a] 1 (shT k bo e t) X hs hsp rfl hS fun Y hY hW hSY => ?_
  have hm2 := (hY.block mm (Array.getElem?_eq_some_iff.1 hm).1).trans hm
  refine answerWords_any 101 #[] #[.pointer (some ⟨p, 0, none⟩), .pointer (some ⟨q, 0, none⟩)] (fun _ _ => rfl) mm es clock key 1 i (by decide) bb 64 1 fl (orF fl fg) X.heap.size (1 + 1) [a] (Nat.le_refl _) (shT k bo e t) Y hm2 he hf rfl hSY hW fun Z hZ => ?_
  have hXZ : Below X.heap.size X Z := hY.trans (hZ.mono hY.size)
  have h0Z : Below w0.heap.size w0 Z := hX.trans (hXZ.mono hX.size)
  have kp := (hXZ.block p (Array.getElem?_eq_some_iff.1 hp).1).trans hp
  have kq := (hXZ.block q (Array.getElem?_eq_some_iff.1 hq).1).trans hq
  refine nums_any 91 #[] #[.pointer (some ⟨p2, 0, none⟩), .pointer (some ⟨q2, 0, none⟩)] (fun _ _ => rfl) bb 64 1 fl p q X.heap.size 1 1 [a] [na] (shT k bo e t) (orF fl fg) Z (hSY.next hZ) kp kq ((hW.next hZ).tail) (by simp) (fun x hx => ?_) ⟨hRa, trivial⟩ (hT Z h0Z).2.1 fun v V hV hN => ?_
  · simp only [List.mem_cons, List.not_mem_nil, or_false] at hx
    rcases hx with rfl <;> assumption
  · have hXV : Below X.heap.size X V := hXZ.trans (hV.mono hXZ.size)
    have h0V : Below w0.heap.size w0 V := h0Z.trans (hV.mono h0Z.size)
    exact t1_any w0 hT bb hbb 64 1 fl na F k bo e t fg ht p2 q2 Z.heap.size v V h0V ((hSY.next hZ).next hV) ((hXV.block p2 (Array.getElem?_eq_some_iff.1 hp2).1).trans hp2) ((hXV.block q2 (Array.getElem?_eq_some_iff.1 hq2).1).trans hq2) hN (Nat.lt_of_lt_of_le hxl hXZ.size) hE hF
theorem twoLine_any (w0 : World) (hT : TB w0) (mm bb : Nat) (hbb : w0.heap.size ≤ bb) (X : World) (hX : Below w0.heap.size w0 X) (es : Array MapEntry) (clock : Nat) (hm : X.heap[mm]? = some (.map es clock)) (he : es.isEmpty = false) (key : ByteArray) (fv : Value) (i : Nat) (hf : Instr.findNow .string (.string key) es.toList 0 = some (some (i, .agg #[.int .i64 2, fv]))) (F : Nat) (hR : TwoR X bb F fv) (hE : ∀ args X, (callFunc F args).run Tryz.prog X = .ok (.enter F args) X) (fl : Int) (hS : St X bb 64 1 fl) (s a b : ByteArray) (na nb : Nmt) (hs : s.size < 4294967281) (hsp : spl 32 s.data.toList = [key, a, b].map fun x : ByteArray => x.data.toList) (hRa : RdIs 64 1 a na) (hza : a.size ≤ 100000) (hRb : RdIs 64 1 b nb) (hzb : b.size ≤ 100000) (k : Int) (bo : Bool) (e : Int) (t : ByteArray) (fg : Int) (ht : t.size ≤ 4611686018427387904)
    (hF : ∀ Y, Below w0.heap.size w0 Y → Calls Tryz.prog F #[.int .i64 64, .int .i64 1, numW na, numW nb] Y fun r w' => r = .returned (rsV k bo e t fg) ∧ Below Y.heap.size Y w') :
    Calls Tryz.prog 16 #[.map (some mm), .string s] X fun e' w' => e' = .returned (.string (shT k bo e t)) ∧ St w' bb 64 1 (orF fl fg) ∧ X.grownBy w' (some bb) := by
  obtain ⟨tell, ⟨p, q, rfl, hp, hq⟩, ⟨p2, q2, rfl, hp2, hq2⟩⟩ := hR
  have hxl := hS.lt
  refine answerTo_any mm bb 64 1 fl (orF fl fg) s key [a, b] 2 (shT k bo e t) X hs hsp rfl hS fun Y hY hW hSY => ?_
  have hm2 := (hY.block mm (Array.getElem?_eq_some_iff.1 hm).1).trans hm
  refine answerWords_any 101 #[] #[.pointer (some ⟨p, 0, none⟩), .pointer (some ⟨q, 0, none⟩)] (fun _ _ => rfl) mm es clock key 2 i (by decide) bb 64 1 fl (orF fl fg) X.heap.size (2 + 1) [a, b] (Nat.le_refl _) (shT k bo e t) Y hm2 he hf rfl hSY hW fun Z hZ => ?_
  have hXZ : Below X.heap.size X Z := hY.trans (hZ.mono hY.size)
  have h0Z : Below w0.heap.size w0 Z := hX.trans (hXZ.mono hX.size)
  have kp := (hXZ.block p (Array.getElem?_eq_some_iff.1 hp).1).trans hp
  have kq := (hXZ.block q (Array.getElem?_eq_some_iff.1 hq).1).trans hq
  refine nums_any 71 #[] #[.pointer (some ⟨p2, 0, none⟩), .pointer (some ⟨q2, 0, none⟩)] (fun _ _ => rfl) bb 64 1 fl p q X.heap.size 1 2 [a, b] [na, nb] (shT k bo e t) (orF fl fg) Z (hSY.next hZ) kp kq ((hW.next hZ).tail) (by simp) (fun x hx => ?_) ⟨hRa, hRb, trivial⟩ (hT Z h0Z).2.1 fun v V hV hN => ?_
  · simp only [List.mem_cons, List.not_mem_nil, or_false] at hx
    rcases hx with rfl | rfl <;> assumption
  · have hXV : Below X.heap.size X V := hXZ.trans (hV.mono hXZ.size)
    have h0V : Below w0.heap.size w0 V := h0Z.trans (hV.mono h0Z.size)
    exact t2_any w0 hT bb hbb 64 1 fl na nb F k bo e t fg ht p2 q2 Z.heap.size v V h0V ((hSY.next hZ).next hV) ((hXV.block p2 (Array.getElem?_eq_some_iff.1 hp2).1).trans hp2) ((hXV.block q2 (Array.getElem?_eq_some_iff.1 hq2).1).trans hq2) hN (Nat.lt_of_lt_of_le hxl hXZ.size) hE hF
theorem thrLine_any (w0 : World) (hT : TB w0) (mm bb : Nat) (hbb : w0.heap.size ≤ bb) (X : World) (hX : Below w0.heap.size w0 X) (es : Array MapEntry) (clock : Nat) (hm : X.heap[mm]? = some (.map es clock)) (he : es.isEmpty = false) (key : ByteArray) (fv : Value) (i : Nat) (hf : Instr.findNow .string (.string key) es.toList 0 = some (some (i, .agg #[.int .i64 3, fv]))) (F : Nat) (hR : ThrR X bb F fv) (hE : ∀ args X, (callFunc F args).run Tryz.prog X = .ok (.enter F args) X) (fl : Int) (hS : St X bb 64 1 fl) (s a b c : ByteArray) (na nb nc : Nmt) (hs : s.size < 4294967281) (hsp : spl 32 s.data.toList = [key, a, b, c].map fun x : ByteArray => x.data.toList) (hRa : RdIs 64 1 a na) (hza : a.size ≤ 100000) (hRb : RdIs 64 1 b nb) (hzb : b.size ≤ 100000) (hRc : RdIs 64 1 c nc) (hzc : c.size ≤ 100000) (k : Int) (bo : Bool) (e : Int) (t : ByteArray) (fg : Int) (ht : t.size ≤ 4611686018427387904)
    (hF : ∀ Y, Below w0.heap.size w0 Y → Calls Tryz.prog F #[.int .i64 64, .int .i64 1, numW na, numW nb, numW nc] Y fun r w' => r = .returned (rsV k bo e t fg) ∧ Below Y.heap.size Y w') :
    Calls Tryz.prog 16 #[.map (some mm), .string s] X fun e' w' => e' = .returned (.string (shT k bo e t)) ∧ St w' bb 64 1 (orF fl fg) ∧ X.grownBy w' (some bb) := by
  obtain ⟨tell, ⟨p, q, rfl, hp, hq⟩, ⟨p2, q2, rfl, hp2, hq2⟩⟩ := hR
  have hxl := hS.lt
  refine answerTo_any mm bb 64 1 fl (orF fl fg) s key [a, b, c] 3 (shT k bo e t) X hs hsp rfl hS fun Y hY hW hSY => ?_
  have hm2 := (hY.block mm (Array.getElem?_eq_some_iff.1 hm).1).trans hm
  refine answerWords_any 101 #[] #[.pointer (some ⟨p, 0, none⟩), .pointer (some ⟨q, 0, none⟩)] (fun _ _ => rfl) mm es clock key 3 i (by decide) bb 64 1 fl (orF fl fg) X.heap.size (3 + 1) [a, b, c] (Nat.le_refl _) (shT k bo e t) Y hm2 he hf rfl hSY hW fun Z hZ => ?_
  have hXZ : Below X.heap.size X Z := hY.trans (hZ.mono hY.size)
  have h0Z : Below w0.heap.size w0 Z := hX.trans (hXZ.mono hX.size)
  have kp := (hXZ.block p (Array.getElem?_eq_some_iff.1 hp).1).trans hp
  have kq := (hXZ.block q (Array.getElem?_eq_some_iff.1 hq).1).trans hq
  refine nums_any 89 #[] #[.pointer (some ⟨p2, 0, none⟩), .pointer (some ⟨q2, 0, none⟩)] (fun _ _ => rfl) bb 64 1 fl p q X.heap.size 1 3 [a, b, c] [na, nb, nc] (shT k bo e t) (orF fl fg) Z (hSY.next hZ) kp kq ((hW.next hZ).tail) (by simp) (fun x hx => ?_) ⟨hRa, hRb, hRc, trivial⟩ (hT Z h0Z).2.1 fun v V hV hN => ?_
  · simp only [List.mem_cons, List.not_mem_nil, or_false] at hx
    rcases hx with rfl | rfl | rfl <;> assumption
  · have hXV : Below X.heap.size X V := hXZ.trans (hV.mono hXZ.size)
    have h0V : Below w0.heap.size w0 V := h0Z.trans (hV.mono h0Z.size)
    exact t3_any w0 hT bb hbb 64 1 fl na nb nc F k bo e t fg ht p2 q2 Z.heap.size v V h0V ((hSY.next hZ).next hV) ((hXV.block p2 (Array.getElem?_eq_some_iff.1 hp2).1).trans hp2) ((hXV.block q2 (Array.getElem?_eq_some_iff.1 hq2).1).trans hq2) hN (Nat.lt_of_lt_of_le hxl hXZ.size) hE hF
theorem cmpLine_any (w0 : World) (hT : TB w0) (mm bb : Nat) (hbb : w0.heap.size ≤ bb) (X : World) (hX : Below w0.heap.size w0 X) (es : Array MapEntry) (clock : Nat) (hm : X.heap[mm]? = some (.map es clock)) (he : es.isEmpty = false) (key : ByteArray) (fv : Value) (i : Nat) (hf : Instr.findNow .string (.string key) es.toList 0 = some (some (i, .agg #[.int .i64 2, fv]))) (hR : NumF X bb (.func (.func 39) #[.pointer (some ⟨bb, 0, none⟩)] #[]) fv) (fl : Int) (hS : St X bb 64 1 fl) (s a b : ByteArray) (na nb : Nmt) (hs : s.size < 4294967281) (hsp : spl 32 s.data.toList = [key, a, b].map fun x : ByteArray => x.data.toList) (hRa : RdIs 64 1 a na) (hza : a.size ≤ 100000) (hRb : RdIs 64 1 b nb) (hzb : b.size ≤ 100000) (hta : na.2.2.2.size ≤ 4611686018427387904) (htb : nb.2.2.2.size ≤ 4611686018427387904) (hc7 : -7000 ≤ cpN 64 na nb ∧ cpN 64 na nb ≤ 7000) :
    Calls Tryz.prog 16 #[.map (some mm), .string s] X fun e' w' => e' = .returned (.string ⟨(Lib.itoa (cpN 64 na nb)).toArray⟩) ∧ St w' bb 64 1 fl ∧ X.grownBy w' (some bb) := by
  obtain ⟨p, q, rfl, hp, hq⟩ := hR
  refine answerTo_any mm bb 64 1 fl fl s key [a, b] 2 _ X hs hsp rfl hS fun Y hY hW hSY => ?_
  have hm2 := (hY.block mm (Array.getElem?_eq_some_iff.1 hm).1).trans hm
  refine answerWords_any 101 #[] #[.pointer (some ⟨p, 0, none⟩), .pointer (some ⟨q, 0, none⟩)] (fun _ _ => rfl) mm es clock key 2 i (by decide) bb 64 1 fl fl X.heap.size (2 + 1) [a, b] (Nat.le_refl _) _ Y hm2 he hf rfl hSY hW fun Z hZ => ?_
  have hXZ : Below X.heap.size X Z := hY.trans (hZ.mono hY.size)
  have h0Z : Below w0.heap.size w0 Z := hX.trans (hXZ.mono hX.size)
  have kp := (hXZ.block p (Array.getElem?_eq_some_iff.1 hp).1).trans hp
  have kq := (hXZ.block q (Array.getElem?_eq_some_iff.1 hq).1).trans hq
  refine nums_any 39 #[.pointer (some ⟨bb, 0, none⟩)] #[] (fun _ _ => rfl) bb 64 1 fl p q X.heap.size 1 2 [a, b] [na, nb] _ fl Z (hSY.next hZ) kp kq ((hW.next hZ).tail) (by simp) (fun x hx => ?_) ⟨hRa, hRb, trivial⟩ (hT Z h0Z).2.1 fun v V hV hN => ?_
  · simp only [List.mem_cons, List.not_mem_nil, or_false] at hx
    rcases hx with rfl | rfl <;> assumption
  · have h0V : Below w0.heap.size w0 V := h0Z.trans (hV.mono h0Z.size)
    have hSV := (hSY.next hZ).next hV
    refine (compared_any w0 hT bb 64 1 fl na nb hta htb hc7 Z.heap.size v V h0V hSV hN).mono ?_
    rintro r w' ⟨rfl, hb⟩
    exact ⟨rfl, hSV.next hb, gb_of hb _⟩
theorem flgLine_any (w0 : World) (hT : TB w0) (mm bb : Nat) (hbb : w0.heap.size ≤ bb) (X : World) (hX : Below w0.heap.size w0 X) (es : Array MapEntry) (clock : Nat) (hm : X.heap[mm]? = some (.map es clock)) (he : es.isEmpty = false) (key : ByteArray) (i : Nat) (hf : Instr.findNow .string (.string key) es.toList 0 = some (some (i, .agg #[.int .i64 0, .func (.func 41) #[.pointer (some ⟨bb, 0, none⟩)] #[]]))) (fl : Int) (hS : St X bb 64 1 fl) (s : ByteArray) (hs : s.size < 4294967281) (hsp : spl 32 s.data.toList = [key].map fun x : ByteArray => x.data.toList) (hfl : -7000 ≤ fl ∧ fl ≤ 7000) :
    Calls Tryz.prog 16 #[.map (some mm), .string s] X fun e' w' => e' = .returned (.string ⟨(Lib.itoa fl).toArray⟩) ∧ St w' bb 64 1 0 ∧ X.grownBy w' (some bb) := by
  refine answerTo_any mm bb 64 1 fl 0 s key [] 0 _ X hs hsp rfl hS fun Y hY hW hSY => ?_
  have hm2 := (hY.block mm (Array.getElem?_eq_some_iff.1 hm).1).trans hm
  refine answerWords_any 41 #[.pointer (some ⟨bb, 0, none⟩)] #[] (fun _ _ => rfl) mm es clock key 0 i (by decide) bb 64 1 fl 0 X.heap.size (0 + 1) [] (Nat.le_refl _) _ Y hm2 he hf rfl hSY hW fun Z hZ => ?_
  have hXZ : Below X.heap.size X Z := hY.trans (hZ.mono hY.size)
  exact takeFlags_any w0 hT bb hbb 64 1 fl hfl _ Z (hX.trans (hXZ.mono hX.size)) (hSY.next hZ)
end Go.Proofs.YteofommckgeemaaGreatDoor
namespace Go.Proofs.YteofommckgeemaaGreatDoor
open Go.RowKit
set_option linter.unusedVariables false
set_option maxRecDepth 100000
set_option linter.unusedSimpArgs false
def Bytes (B : Nat) (w : World) (a : Option Addr) (len : Nat) : Prop :=
  len = 0 ∨ ∃ b off, a = some ⟨b, off, none⟩ ∧ b < B ∧ ∀ j, j < len → ∃ z : Int, w.cell? ⟨b, off + j, none⟩ = some (.int .u8 z) ∧ 0 ≤ z ∧ z ≤ 255
theorem bytes_of_row {w : World} {a : Option Addr} {len cap : Nat} {zs : List Int}
    (h : (a = none ∧ len = 0 ∧ cap = 0 ∧ zs = []) ∨ ∃ x, a = some x ∧ len ≤ cap ∧ cap ≤ maxLen ∧ zs.length = cap ∧ (∀ i, i < zs.length → w.cell? (x.add i) = some (.int .u8 (zs.getD i 0))) ∧ ∀ n ∈ zs, (Lit.int .u8 n).wf = true) : Bytes w.heap.size w a len := by
  rcases h with ⟨_, h, _⟩ | ⟨x, rfl, hl, _, hz, hc, hw⟩
  · exact .inl h
  · rcases Nat.eq_zero_or_pos len with h0 | hp
    · exact .inl h0
    · obtain ⟨b, off, rfl, hca⟩ := ints_at hc (by omega)
      refine .inr ⟨b, off, rfl, World.block_lt_of_cell? _ _ (hca 0 (by omega)), fun j hj => ⟨_, hca j (by omega), ?_⟩⟩
      have := range_u8 hw j
      simpa [List.getD] using this
theorem big_no (a : Option Addr) (len cap : Nat) (w : World) (h : ¬ 4096 < len) :
    Calls Tryz.prog 6 #[.slice a len cap] w fun e w' => e = .returned (.bool false) ∧ w' = w := by
  have h' : decide ((4096 : Int) < (len : Int)) = false := by simp; omega
  go_enter Tryz.func6, Tryz.ntmps6
  go_wp2
  go_ret
  exact ⟨rfl, rfl⟩
theorem Ln.val_int {k : IntKind} {a b : Int} (h : a = b) : Value.int k a = .int k b := by rw [h]
theorem pick_any (a : Option Addr) (len cap B : Nat) (n : Int) (w : World) (hl : len ≤ 5000) (hb : Bytes B w a len) (hn : 1 ≤ n ∧ n ≤ 10000000) :
    Calls Tryz.prog 7 #[.slice a len cap, .int .i64 n] w fun e w' => ∃ r : Int, e = .returned (.int .i64 r) ∧ (0 ≤ r ∧ r < n) ∧ w' = w := by
  have hB : Hid (Bytes B w a len) := hb
  clear hb
  go_enter Tryz.func7, Tryz.ntmps7
  go_wp2
  go_loop [5, 6] (fun k i => ∃ (x : Int) (j : Nat), j ≤ len ∧ i = .int .i64 j ∧ k = .int .i64 x ∧ 0 ≤ x ∧ x < 1000003) (fun _ i => len - (intOf i).toNat)
  case atStart => exact ⟨(len : Int), 0, Nat.zero_le _, rfl, rfl, by omega, by omega⟩
  case round =>
    obtain ⟨x, j, hj, rfl, rfl, hx0, hx1⟩ := hrel
    by_cases hlt : j < len
    · rcases hB.out with h0 | ⟨b, off, rfl, hbB, hc⟩
      · omega
      · obtain ⟨z, hz, z0, z1⟩ := hc j hlt
        have hlt' : (j : Int) < (len : Int) := by omega
        have hm : Int.tmod (x * 47 + z) 1000003 = (x * 47 + z) % 1000003 := Int.tmod_eq_emod_of_nonneg (by omega)
        clear hc hB
        go_wp2
        go_round
        case rel => exact ⟨(x * 47 + z) % 1000003, j + 1, by omega, by go_num, Ln.val_int (by omega), by omega, by omega⟩
        case measure => simp [intOf]; omega
    · have hj2 : j = len := by omega
      subst hj2
      have hm : Int.tmod x n = x % n := Int.tmod_eq_emod_of_nonneg hx0
      have hr0 := Int.emod_nonneg x (show n ≠ 0 by omega)
      have hr1 := Int.emod_lt_of_pos x (show 0 < n by omega)
      have hn0 : ¬ n = 0 := by omega
      go_wp2
      go_ret
      exact ⟨_, rfl, ⟨by omega, by omega⟩, rfl⟩
theorem canon_cons (d : Int) (r : List Int) (h0 : 0 < d) (h9 : d ≤ 9) (hr : Dec r) : Canon (d :: r) :=
  ⟨fun x hx => by rcases List.mem_cons.1 hx with e | e; omega; exact hr x e, by simp, .inr (by simp; omega)⟩
theorem dig_step (L : List Int) (r n : Int) (hd : Dec L) (h : vl L + 10 ^ L.length * r = n) (r0 : 0 ≤ r) (hn : n < 1000000000000000000) (hgo : L = [] ∨ 0 < r) :
    Dec (r % 10 :: L) ∧ vl (r % 10 :: L) + 10 ^ (r % 10 :: L).length * (r / 10) = n ∧ (r / 10 = 0 → Canon (r % 10 :: L)) ∧ (r % 10 :: L).length ≤ 20 := by
  refine ⟨fun x hx => ?_, ?_, fun hz => ?_, ?_⟩
  · rcases List.mem_cons.1 hx with e | e
    · omega
    · exact hd x e
  · rw [vl_cons, List.length_cons, Int.pow_succ, Int.mul_assoc, Int.add_assoc, ← Int.mul_add, show r % 10 + 10 * (r / 10) = r by omega]
    exact h
  · rcases hgo with e | e
    · subst e; exact canon_one _ (by omega) (by omega)
    · exact canon_cons _ _ (by omega) (by omega) hd
  · rcases hgo with e | e
    · subst e; simp
    · simp only [List.length_cons]
      rcases Nat.lt_or_ge L.length 18 with c | c
      · omega
      · exfalso
        have p := pow_mono 18 L.length c
        have q : (10 : Int) ^ 18 = 1000000000000000000 := by decide
        have v := (vl_bd L hd).1
        have m : 10 ^ L.length * 1 ≤ 10 ^ L.length * r := Int.mul_le_mul_of_nonneg_left (by omega) (by omega)
        omega
theorem tx_empty (L : List Int) (h : L = []) : (tx L).toList.isEmpty = true := by rw [h, tx_list]; rfl
theorem tx_some (L : List Int) (h : L ≠ []) : (tx L).toList.isEmpty = false := by
  rw [tx_list]; cases L with
  | nil => exact absurd rfl h
  | cons => rfl
def strSz : Value → Nat
  | .string b => b.size
  | _ => 0
theorem conv_one (d : Int) (W : World) : ∀ dst, Tryz.prog.underlying dst = some .string → (convert 22 dst (.slice (some ⟨W.heap.size, 0, none⟩) 1 1)).run Tryz.prog (W.alloc (.cells #[.int .u8 (48 + d)] 5)) = .ok (.string (tx [d])) (W.alloc (.cells #[.int .u8 (48 + d)] 5)) :=
  run_convert_bytes_arg (P := Tryz.prog) _ 22 5 Tryz.underlying22 Tryz.underlying5 W.heap.size 0 1 1 [48 + d] rfl (fun i hi => by
    match i, hi with
    | 0, _ => simp)
theorem digits_any (n : Int) (w : World) (h0 : 0 ≤ n) (h1 : n < 1000000000000000000) :
    Calls Tryz.prog 8 #[.int .i64 n] w fun e w' => ∃ R, e = .returned (.string (tx R)) ∧ Canon R ∧ vl R = n ∧ R.length ≤ 20 ∧ Below w.heap.size w w' := by
  have tz : Hid ((tx ([] : List Int)) = { data := #[] }) := by rw [Hid]; apply ByteArray.ext; rw [tx_data]; rfl
  go_enter Tryz.func8, Tryz.ntmps8
  go_wp2
  go_loopw [0, 3] (fun i s wr => ∃ (L : List Int) (r : Int), i = .int .i64 r ∧ s = .string (tx L) ∧ 0 ≤ r ∧ r < 1000000000000000000 ∧ L.length ≤ 20 ∧ Hid (Dec L ∧ vl L + 10 ^ L.length * r = n ∧ (L = [] ∨ (r = 0 → Canon L))) ∧ Below w.heap.size w wr) (fun i s _ => 2 * (intOf i).toNat + (1 - strSz s))
  case atStart => exact ⟨[], n, rfl, by rw [tz.out], h0, h1, by simp, ⟨(fun d hd => by cases hd), by simp [vl, lv], .inl rfl⟩, Below.refl _ _⟩
  case round =>
    obtain ⟨L, r, rfl, rfl, r0, r1, hL, hI, hbel⟩ := hrel
    have hsz := hbel.size
    have sL : ((tx L).size : Int) ≤ 8388608 := by rw [tx_size]; omega
    have sd : ((tx [r % 10]).size : Int) ≤ 8388608 := by rw [tx_size]; simp
    have hap : tx [r % 10] ++ tx L = tx (r % 10 :: L) := tx_append [r % 10] L
    have hcv := conv_one (r % 10) wr 9 Tryz.underlying9
    by_cases hgo : L = [] ∨ 0 < r
    · have HS : Hid (_ ∧ _ ∧ _ ∧ _) := dig_step L r n hI.out.1 hI.out.2.1 r0 h1 hgo
      have hm : Hid (2 * (r / 10).toNat + (1 - strSz (.string (tx (r % 10 :: L)))) < 2 * r.toNat + (1 - strSz (.string (tx L)))) := by
        have e1 : strSz (.string (tx (r % 10 :: L))) = L.length + 1 := by
          show (tx (r % 10 :: L)).size = _
          rw [tx_size]; simp
        have e2 : strSz (.string (tx L)) = L.length := tx_size L
        rw [Hid, e1, e2]
        rcases hgo with e | e
        · rw [e]; simp; omega
        · omega
      have q0 : 0 ≤ r / 10 := by omega
      have q1 : r / 10 < 1000000000000000000 := by omega
      have m0 : 0 ≤ r % 10 := by omega
      have m9 : r % 10 ≤ 9 := by omega
      by_cases hLe : L = []
      · have hE := tx_empty L hLe
        clear hLe hgo
        go_wp2
        go_roundw
        case rel => exact ⟨_, _, rfl, rfl, q0, q1, HS.out.2.2.2, ⟨HS.out.1, HS.out.2.1, .inr HS.out.2.2.1⟩, hbel.alloc (by omega) _⟩
        case measure => exact hm.out
      · have hE := tx_some L hLe
        have hr : 0 < r := by rcases hgo with e | e; exact absurd e hLe; exact e
        clear hLe hgo
        go_wp2
        go_roundw
        case rel => exact ⟨_, _, rfl, rfl, q0, q1, HS.out.2.2.2, ⟨HS.out.1, HS.out.2.1, .inr HS.out.2.2.1⟩, hbel.alloc (by omega) _⟩
        case measure => exact hm.out
    · have hLe : L ≠ [] := fun e => hgo (.inl e)
      have hE := tx_some L hLe
      have hr : r = 0 := by
        rcases Int.lt_or_le 0 r with c | c
        · exact absurd (.inr c) hgo
        · omega
      have HF : Hid (Canon L ∧ vl L = n) := by
        refine ⟨?_, ?_⟩
        · rcases hI.out.2.2 with e | e
          · exact absurd e hLe
          · exact e hr
        · have := hI.out.2.1; rw [hr] at this; omega
      have hr' : decide (0 < r) = false := by simp; omega
      clear hLe hgo hr
      go_wp2
      go_ret
      exact ⟨L, rfl, HF.out.1, HF.out.2, hL, hbel⟩
end Go.Proofs.YteofommckgeemaaGreatDoor
namespace Go.Proofs.YteofommckgeemaaGreatDoor
open Go.RowKit
set_option linter.unusedVariables false
set_option maxRecDepth 100000
set_option linter.unusedSimpArgs false
def lnStep (st : List ByteArray × List UInt8) (b : UInt8) : List ByteArray × List UInt8 := if b = 10 then (st.1 ++ [⟨st.2.toArray⟩], []) else (st.1, st.2 ++ [b])
def lnAt (l : List UInt8) (k : Nat) : List ByteArray × List UInt8 := (l.take k).foldl lnStep ([], [])
theorem lnAt_succ (l : List UInt8) (k : Nat) (b : UInt8) (h : l[k]? = some b) : lnAt l (k + 1) = lnStep (lnAt l k) b := by
  unfold lnAt
  rw [List.take_add_one, h, Option.toList_some, List.foldl_append]; rfl
theorem lnAt_pre (l : List UInt8) (k : Nat) (hk : k ≤ l.length) : ∃ p, l.take k = p ++ (lnAt l k).2 := by
  induction k with
  | zero => exact ⟨[], rfl⟩
  | succ k ih =>
    obtain ⟨p, hp⟩ := ih (by omega)
    have hb : l[k]? = some (l[k]'(by omega)) := List.getElem?_eq_getElem (by omega)
    rw [lnAt_succ l k _ hb, List.take_add_one, hb, Option.toList_some, hp]
    unfold lnStep
    by_cases c : l[k]'(by omega) = 10
    · rw [if_pos c]; exact ⟨_, (List.append_nil _).symm⟩
    · rw [if_neg c]; exact ⟨p, List.append_assoc _ _ _⟩
theorem lnAt_cur (l : List UInt8) (k : Nat) (hk : k ≤ l.length) : (lnAt l k).2.length ≤ k ∧ (lnAt l k).2 = (l.take k).drop (k - (lnAt l k).2.length) := by
  obtain ⟨p, hp⟩ := lnAt_pre l k hk
  have h := congrArg List.length hp
  rw [List.length_take, List.length_append, Nat.min_eq_left hk] at h
  refine ⟨by omega, ?_⟩
  rw [hp, show k - (lnAt l k).2.length = p.length by omega, List.drop_left]
theorem lnAt_cnt (l : List UInt8) (k : Nat) : (lnAt l k).1.length ≤ l.count 10 := by
  have key : ∀ (l : List UInt8) (st : List ByteArray × List UInt8), (l.foldl lnStep st).1.length = st.1.length + l.count 10 := by
    intro l
    induction l with
    | nil => intro st; rfl
    | cons b l ih =>
      intro st
      rw [List.foldl_cons, ih, List.count_cons]
      unfold lnStep
      by_cases c : b = 10
      · rw [if_pos c, if_pos (by simpa using c)]; simp; omega
      · rw [if_neg c, if_neg (by simpa using c)]; rfl
  unfold lnAt
  rw [key]
  have := (List.take_sublist k l).count_le 10
  show 0 + _ ≤ _
  omega
theorem lnS_run (a : List UInt8) (h : (10 : UInt8) ∉ a) (st : List ByteArray × List UInt8) : a.foldl lnStep st = (st.1, st.2 ++ a) := by
  induction a generalizing st with
  | nil => rw [List.foldl_nil, List.append_nil]
  | cons b a ih =>
    rw [List.foldl_cons, ih (fun q => h (List.mem_cons_of_mem _ q))]
    have c : ¬ b = 10 := fun q => h (by rw [q]; exact List.mem_cons_self)
    unfold lnStep
    rw [if_neg c, List.append_assoc]; rfl
theorem lnAt_outs (ans : List ByteArray) (h : ∀ a ∈ ans, (10 : UInt8) ∉ a.data.toList) : lnAt (outs ans) (outs ans).length = (ans, []) := by
  have key : ∀ (ans : List ByteArray), (∀ a ∈ ans, (10 : UInt8) ∉ a.data.toList) → ∀ P, (outs ans).foldl lnStep (P, []) = (P ++ ans, []) := by
    intro ans
    induction ans with
    | nil => intro _ P; rw [List.append_nil]; rfl
    | cons a r ih =>
      intro h P
      rw [outs, List.foldl_append, lnS_run _ (h a List.mem_cons_self), List.foldl_cons, List.nil_append]
      have : lnStep (P, a.data.toList) 10 = (P ++ [a], []) := by
        unfold lnStep; rw [if_pos rfl]
      rw [this, ih (fun y hy => h y (List.mem_cons_of_mem _ hy)), List.append_assoc]; rfl
  unfold lnAt
  rw [List.take_length, key ans h [], List.nil_append]
theorem outs_cnt (ans : List ByteArray) (h : ∀ a ∈ ans, (10 : UInt8) ∉ a.data.toList) : (outs ans).count 10 = ans.length := by
  induction ans with
  | nil => rfl
  | cons a r ih =>
    rw [outs, List.count_append, List.count_cons, ih (fun y hy => h y (List.mem_cons_of_mem _ hy)), List.count_eq_zero_of_not_mem (h a List.mem_cons_self)]
    simp
def HasS (w : World) (base : Nat) (v : Value) (l : List ByteArray) : Prop := w.ownsRow base 9 1 v l.length (l.map Value.string)
theorem infoStr : (Tryz.prog.info? 9).map (fun i => (i.zero, i.size, i.bytes)) = some (some (.string { data := #[] }), 1, 16) := by kernel_rfl
theorem str_new (W : World) (x : ByteArray) : ∀ (i : Nat) (u : Value), [Value.string x][i]? = some u → (W.alloc (.cells #[.string x] 9)).cell? ((⟨W.heap.size, 0, none⟩ : Addr).add i) = some u := fun i u hu => by
  match i, hu with
  | 0, hu => simp at hu; subst hu; simp [Addr.add]
theorem str_cell (x : ByteArray) : ∀ u ∈ [Value.string x], u.oneCell' = true := fun u hu => by
  simp at hu
  subst hu; rfl
theorem hasS_more {w : World} {base : Nat} {v : Value} {P : List ByteArray} {n : Nat} {x : ByteArray} (h : w.ownsRow base 9 1 v n (P.map Value.string ++ [Value.string x])) (hn : n = P.length + 1) : HasS w base v (P ++ [x]) := by
  unfold HasS
  rw [List.map_append, List.length_append]
  subst hn
  exact h
theorem ext_cur (s : ByteArray) (k : Nat) (hk : k ≤ s.size) : s.extract (k - (lnAt s.data.toList k).2.length) k = ⟨(lnAt s.data.toList k).2.toArray⟩ := by
  obtain ⟨h1, h2⟩ := lnAt_cur s.data.toList k (by rw [show s.data.toList.length = s.size from Array.length_toList]; exact hk)
  apply ByteArray.ext
  apply Array.toList_inj.1
  rw [ByteArray.data_extract, Array.toList_extract]
  show _ = (lnAt s.data.toList k).2
  conv => rhs; rw [h2]
  rw [List.extract_eq_take_drop, List.drop_take]
set_option maxRecDepth 100000 in
set_option maxHeartbeats 2000000 in
theorem lines_any (s : ByteArray) (ans : List ByteArray) (w : World) (hs : s.data.toList = outs ans) (hz : s.size ≤ 100000000) (h10 : ∀ a ∈ ans, (10 : UInt8) ∉ a.data.toList) (hn : ans.length ≤ 1000) :
    Calls Tryz.prog 9 #[.string s] w fun e w' => ∃ v, e = .returned v ∧ HasS w' w.heap.size v ans ∧ Below w.heap.size w w' := by
  obtain ⟨i0, hi, hz0, hz1, hz2⟩ := info_parts infoStr
  have hsl : s.data.toList.length = s.size := Array.length_toList
  have HC : Hid (∀ k, (lnAt s.data.toList k).1.length ≤ 1000) := fun k => by
    have := lnAt_cnt s.data.toList k
    rw [hs, outs_cnt ans h10] at this
    rw [hs]; omega
  have HF : Hid (lnAt s.data.toList s.size = (ans, [])) := by
    rw [Hid, ← hsl, hs]; exact lnAt_outs ans h10
  have H0 : Hid (HasS (w.alloc (.cells #[] 9)) w.heap.size (.slice (some ⟨w.heap.size, 0, none⟩) 0 0) (lnAt s.data.toList 0).1) := World.ownsRow_made w #[] 0 (Nat.le_refl _) (Nat.zero_le _) rfl
  clear hs h10 hn
  go_enter Tryz.func9, Tryz.ntmps9
  go_wp2
  go_loopw [3, 4, 5] (fun v f i wr => ∃ k : Nat, k ≤ s.size ∧ i = .int .i64 k ∧ f = .int .i64 ((k - (lnAt s.data.toList k).2.length : Nat)) ∧ Hid (HasS wr w.heap.size v (lnAt s.data.toList k).1) ∧ Hid (Below w.heap.size w wr)) (fun _ _ i _ => s.size - (intOf i).toNat)
  case atStart => exact ⟨0, Nat.zero_le _, rfl, rfl, H0.out, (Below.refl _ _).alloc (Nat.le_refl _) _⟩
  case round =>
    clear H0
    obtain ⟨k, hk, rfl, rfl, hown, hbel⟩ := hrel
    by_cases hlt : k < s.size
    · have hlt2 : (k : Int) < (s.size : Int) := by omega
      have hkl : k < s.data.toList.length := by omega
      have hb : s.data.toList[k]? = some (s.data.toList[k]'hkl) := List.getElem?_eq_getElem hkl
      have hbs : s.data.toList[k]'hkl = s[k]'hlt := rfl
      rw [hbs] at hb
      have hS := lnAt_succ s.data.toList k _ hb
      have hX := ext_cur s k hk
      have hcu := (lnAt_cur s.data.toList k (by omega)).1
      have hc1 := HC.out k
      unfold lnStep at hS
      by_cases c : s[k]'hlt = 10
      · rw [if_pos c] at hS
        have hT : (((s[k]'hlt).toNat : Int) == 10) = true := by rw [c]; rfl
        generalize hm : k - (lnAt s.data.toList k).2.length = f at *
        have hfk : f ≤ k := by omega
        have hfs : (f : Int) ≤ (k : Int) := by omega
        have HS2 : Hid (lnAt s.data.toList (k + 1) = ((lnAt s.data.toList k).1 ++ [⟨(lnAt s.data.toList k).2.toArray⟩], [])) := hS
        have hown0 : wr.ownsRow w.heap.size 9 1 u3 (lnAt s.data.toList k).1.length ((lnAt s.data.toList k).1.map Value.string) := hown.out
        have hs2 := hbel.out.size
        clear hS hb hown HC HF hsl c hbs hcu hm
        go_wp2_with (at_builtin; refine wpList_append_own _ rfl _ _ 26 rfl w.heap.size 9 i0 (.string { data := #[] }) 1 16 Tryz.underlying26 hi hz0 hz1 hz2 rfl (by decide) _ _ _ rfl (hown0.alloc _) ⟨wr.heap.size, 0, none⟩ 1 1 [.string ⟨(lnAt s.data.toList k).2.toArray⟩] rfl rfl (str_new _ _) (str_cell _) (by unfold maxLen; omega) (by omega) (by simp; omega) ?_)
        intro v' w6 hown6 hgrow _
        have HB6 : Hid (Below w.heap.size w w6) := Below.grown (hbel.out.alloc hs2 _) hgrow (by simp; omega) (fun j hj => (hown0.lt j hj).1)
        have H6 : Hid (HasS w6 w.heap.size v' (lnAt s.data.toList (k + 1)).1) := by
          rw [Hid, HS2.out]
          exact hasS_more hown6 rfl
        clear hown6 hgrow hown0 hbel hX
        go_wp2
        go_roundw
        case rel =>
          refine ⟨k + 1, by omega, by go_num, ?_, H6, HB6⟩
          rw [HS2.out]
          refine Ln.val_int ?_
          simp
        case measure => simp [intOf]; omega
      · rw [if_neg c] at hS
        have hT : (((s[k]'hlt).toNat : Int) == 10) = false := by
          simp only [beq_eq_false_iff_ne, ne_eq]
          intro q; apply c; apply UInt8.toNat_inj.1; show _ = 10; omega
        have HS2 : Hid (lnAt s.data.toList (k + 1) = ((lnAt s.data.toList k).1, (lnAt s.data.toList k).2 ++ [s[k]'hlt])) := hS
        clear hS hb HC HF hsl c hbs hX
        go_wp2
        go_roundw
        case rel =>
          refine ⟨k + 1, by omega, by go_num, ?_, ?_, hbel⟩
          · rw [HS2.out]
            simp only [List.length_append, List.length_cons, List.length_nil]
            refine Ln.val_int ?_
            omega
          · rw [Hid, HS2.out]; exact hown.out
        case measure => simp [intOf]; omega
    · have hk2 : k = s.size := by omega
      subst hk2
      have HG : Hid (HasS wr w.heap.size u3 ans) := by
        have h := hown.out
        rwa [HF.out] at h
      clear hown HC HF
      go_wp2
      go_ret
      exact ⟨u3, rfl, HG.out, hbel.out⟩
end Go.Proofs.YteofommckgeemaaGreatDoor
