/-
  The reader of texts: takesDigit where a digit comes, walked.
-/
import Derived.Deep.AppendLies
import Derived.Deep.RegionLaw
import Derived.Deep.DeepCutAuto
import Derived.BigRegion
import Derived.Test.YteofommckgeemaaGreatDoorReb
namespace Go.Proofs.YteofommckgeemaaGreatDoor
open Go.RowKit
set_option linter.unusedVariables false
set_option maxRecDepth 100000
theorem own_grw {w w' : World} {base cb : Nat} {e : TypeId} {s : Nat} {v : Value} {n : Nat} {xs : List Value} (h : w.ownsRow base e s v n xs) (hg : w.grownBy w' (some cb)) (hB : cb < base) : w'.ownsRow base e s v n xs := by
  obtain ⟨hl, h⟩ := h
  refine ⟨hl, ?_⟩
  rcases h with h | ⟨g, cap, cur, e, hgb, hc, r⟩
  · exact .inl h
  · have hlt := (Array.getElem?_eq_some_iff.1 hc).1
    exact .inr ⟨g, cap, cur, e, hgb, by rw [hg.block g hlt (fun e => by have e' : g = cb := (Option.some.inj e).symm ▸ rfl; omega)]; exact hc, r⟩
/-- The two boxes written behind the append. -/
theorem tdg_fin {w w1 : World} {B rb g db base : Nat} {R : List Int} {o : Nat} {D : List Int} {v : Value} {y : Int} (h : TDg w B rb g db base R o D) (h0 : o < R.length) (hv : w.cell? ⟨db, 0, none⟩ = some v) (hav : ∀ k, k < base → some k ≠ v.ownBlock) (hab : ∀ k, v.ownBlock = some k → base ≤ k) (ob : Obj)
    (hgrow : ((w.alloc ob).drew).grownBy w1 v.ownBlock) (gg cap' : Nat) (hown1 : w1.ownsRow base 21 1 (.slice (some ⟨gg, 0, none⟩) (D.length + 1) cap') (D.length + 1) (D.map (Value.int .i32) ++ [.int .i32 y])) (hD : D.length < 1000)
    (n o' c2 : Nat) (hn : R.length - o = n + 1) (ho : o + 1 < R.length → o' = o + 1) (hc : n ≤ c2) :
    TDg ((w1.setCell ⟨db, 0, none⟩ (.slice (some ⟨gg, 0, none⟩) (D.length + 1) cap')).setCell ⟨rb, 0, none⟩ (.slice (some ⟨g, o', none⟩) n c2)) B rb g db base R (o + 1) (D ++ [y])
    ∧ Below B w ((w1.setCell ⟨db, 0, none⟩ (.slice (some ⟨gg, 0, none⟩) (D.length + 1) cap')).setCell ⟨rb, 0, none⟩ (.slice (some ⟨g, o', none⟩) n c2)) ∧ ∀ k, k < base → k ≠ rb → k ≠ db → ((w1.setCell ⟨db, 0, none⟩ (.slice (some ⟨gg, 0, none⟩) (D.length + 1) cap')).setCell ⟨rb, 0, none⟩ (.slice (some ⟨g, o', none⟩) n c2)).heap[k]? = w.heap[k]? := by
  obtain ⟨hR, -, hfd, ⟨b1, b2, b3, b4, b5, b6, b7, b8, b9⟩, hl⟩ := h
  have hbl : ∀ k, k < base → w1.heap[k]? = w.heap[k]? := fun k hk => by
    have hs : k < (w.alloc ob).drew.heap.size := by
      show k < (w.alloc ob).heap.size
      simp
      omega
    rw [hgrow.block k hs (hav k hk)]
    show (w.alloc ob).heap[k]? = w.heap[k]?
    exact ((Below.refl w.heap.size w).alloc (Nat.le_refl _) ob).block k (by omega)
  have hsz : w.heap.size ≤ w1.heap.size := by
    have h1 := hgrow.size
    have h2 : (w.alloc ob).drew.heap.size = w.heap.size + 1 := by
      show (w.alloc ob).heap.size = _
      simp
    omega
  have hcell : ∀ k i, k < base → w1.cell? ⟨k, i, none⟩ = w.cell? ⟨k, i, none⟩ := fun k i hk => World.cell?_of_block (hbl k hk)
  have hfro : ∀ k i, k < base → w1.frozen? ⟨k, i, none⟩ = w.frozen? ⟨k, i, none⟩ := fun k i hk => World.frozen?_of_block (hbl k hk)
  -- the reader behind the append
  have hR1 : RDr w1 rb g R o := by
    obtain ⟨h1, ⟨⟨p, c, h2, h2o⟩, h2f⟩, h3, h4, h5, h6⟩ := hR
    exact ⟨h1, ⟨⟨p, c, (hcell rb 0 b4).trans h2, h2o⟩, (hfro rb 0 b4).trans h2f⟩, fun i hi => (hcell g i b5).trans (h3 i hi), h4, by omega, by omega⟩
  have hR2 : RDr (w1.setCell ⟨db, 0, none⟩ (.slice (some ⟨gg, 0, none⟩) (D.length + 1) cap')) rb g R o := by
    obtain ⟨h1, ⟨⟨p, c, h2, h2o⟩, h2f⟩, h3, h4, h5, h6⟩ := hR1
    refine ⟨h1, ⟨⟨p, c, ?_, h2o⟩, by rw [World.frozen?_setCell]; exact h2f⟩, fun i hi => ?_, h4, by simpa using h5, by simpa using h6⟩
    · rw [World.cell?_setCell_other _ _ _ _ (fun e => b7 (by cases e; rfl))]; exact h2
    · rw [World.cell?_setCell_other _ _ _ _ (fun e => b8 (by cases e; rfl))]; exact h3 i hi
  have hR3 := hR2.step h0 n o' c2 hn ho hc
  have hdb1 : w1.cell? ⟨db, 0, none⟩ = some v := (hcell db 0 b6).trans hv
  refine ⟨⟨hR3, ⟨.slice (some ⟨gg, 0, none⟩) (D.length + 1) cap', ?_, ?_⟩, ?_, ⟨b1, b2, b3, b4, b5, b6, b7, b8, by simp; omega⟩, by simp; omega⟩, ?_, fun k hk n1 n2 => ?_⟩
  · rw [World.cell?_setCell_other _ _ _ _ (fun e => b7 (by cases e; rfl))]
    exact World.cell?_setCell_same _ _ _ hdb1
  · have q := own_grw (own_grw hown1 (rd_grown db 0 (.slice (some ⟨gg, 0, none⟩) (D.length + 1) cap')) b6) (rd_grown rb 0 (.slice (some ⟨g, o', none⟩) n c2)) b4
    rw [List.length_append, List.map_append]
    exact q
  · rw [World.frozen?_setCell, World.frozen?_setCell, hfro db 0 b6]; exact hfd
  · have hB1 : Below B w w1 := ⟨hgrow.os.trans rfl, hgrow.tape.trans rfl, hgrow.output.trans rfl, hsz, fun k hk => hbl k (by omega)⟩
    exact (hB1.setCell (show B ≤ db by omega) _).setCell (show B ≤ rb by omega) _
  · rw [(rd_grown (W := w1.setCell ⟨db, 0, none⟩ (.slice (some ⟨gg, 0, none⟩) (D.length + 1) cap')) rb 0 (.slice (some ⟨g, o', none⟩) n c2)).block k (by simp; omega) (fun e => n1 (Option.some.inj e)), (rd_grown (W := w1) db 0 (.slice (some ⟨gg, 0, none⟩) (D.length + 1) cap')).block k (by omega) (fun e => n2 (Option.some.inj e))]
    exact hbl k hk
set_option maxRecDepth 100000 in
set_option maxHeartbeats 4000000 in
theorem takesDigit_yes (B rb g db base : Nat) (R : List Int) (off : Nat) (D : List Int) (w : World) (h : TDg w B rb g db base R off D) (h0 : off < R.length) (y : Int) (hy : R.getD off 0 = y) (hd : 48 ≤ y ∧ y ≤ 57) (hD : D.length < 1000) :
    Calls Tryz.prog 267 #[.pointer (some ⟨rb, 0, none⟩), .pointer (some ⟨db, 0, none⟩)] w fun e w' => e = .returned (.bool true) ∧ TDg w' B rb g db base R (off + 1) (D ++ [y]) ∧ Below B w w' ∧ ∀ k, k < base → k ≠ rb → k ≠ db → w'.heap[k]? = w.heap[k]? := by
  have HT : Hid (TDg w B rb g db base R off D) := h
  obtain ⟨⟨⟨h1, h3⟩, ⟨⟨o, c, hc, ho, hcc⟩, hf⟩, hl, -⟩, ⟨v, hv, hown⟩, hfd, ⟨b1, b2, b3, b4, b5, b6, b7, b8, b9⟩, -⟩ := h
  have c0 := hl off h0
  rw [hy] at c0
  obtain rfl := ho h0
  obtain ⟨n, hn⟩ : ∃ n, R.length - o = n + 1 := ⟨R.length - o - 1, by omega⟩
  rw [hn] at hc hcc
  obtain ⟨i0, hi, hz0, hz1, hz2⟩ := info_parts info32
  have y1 : ¬ y < 48 := by omega
  have y2 : ¬ 57 < y := by omega
  have af : ∀ k, k < base → some k ≠ v.ownBlock := fun k hk e => by
    rcases hown.2 with ⟨rfl, -⟩ | ⟨gq, cap, cur, rfl, hbq, -⟩
    · simp [Value.ownBlock] at e
    · simp [Value.ownBlock] at e; omega
  have ag : ∀ k, v.ownBlock = some k → base ≤ k := fun k e => by
    rcases hown.2 with ⟨rfl, -⟩ | ⟨gq, cap, cur, rfl, hbq, -⟩
    · simp [Value.ownBlock] at e
    · simp [Value.ownBlock] at e; omega
  have HOa : Hid ((w.alloc (.cells #[.int .i32 y] 21)).drew.ownsRow base 21 1 v D.length (D.map (Value.int .i32))) := (World.ownsRow.alloc hown _).drew
  have HNw : Hid (∀ (j : Nat) (u : Value), [Value.int .i32 y][j]? = some u → (w.alloc (.cells #[.int .i32 y] 21)).drew.cell? ((⟨w.heap.size, 0, none⟩ : Addr).add j) = some u) := World.news_of_block (cs := #[.int .i32 y]) (t := 21) (fr := (0, 0)) (heap_alloc_new w _)
  have HOc : Hid (∀ u ∈ [Value.int .i32 y], u.oneCell' = true) := fun u hu => by
    obtain rfl : u = Value.int .i32 y := by simpa using hu
    rfl
  have HLn : Hid (D.length + 1 ≤ maxLen) := by show _ ≤ _; unfold maxLen; omega
  have HBy : Hid ((D.length + 1) * 4 ≤ 140737488355328) := by show _ ≤ _; omega
  have HHs : Hid ((w.alloc (.cells #[.int .i32 y] 21)).drew.heap.size = w.heap.size + 1) := by
    show (w.alloc (.cells #[.int .i32 y] 21)).heap.size = _
    simp
  have HBs : Hid (base ≤ (w.alloc (.cells #[.int .i32 y] 21)).drew.heap.size) := by show _ ≤ _; rw [HHs.out]; omega
  have hw1 : rb < w.heap.size := by omega
  have hw2 : db < w.heap.size := by omega
  have hw3 : g < w.heap.size := by omega
  have HFin : Hid (∀ (w1 : World) (gg cap' : Nat), ((w.alloc (.cells #[.int .i32 y] 21)).drew).grownBy w1 v.ownBlock → w1.ownsRow base 21 1 (.slice (some ⟨gg, 0, none⟩) (D.length + 1) cap') (D.length + 1) (D.map (Value.int .i32) ++ [.int .i32 y]) → ∀ o' c2 : Nat, (o + 1 < R.length → o' = o + 1) → n ≤ c2 →
      TDg ((w1.setCell ⟨db, 0, none⟩ (.slice (some ⟨gg, 0, none⟩) (D.length + 1) cap')).setCell ⟨rb, 0, none⟩ (.slice (some ⟨g, o', none⟩) n c2)) B rb g db base R (o + 1) (D ++ [y]) ∧ Below B w ((w1.setCell ⟨db, 0, none⟩ (.slice (some ⟨gg, 0, none⟩) (D.length + 1) cap')).setCell ⟨rb, 0, none⟩ (.slice (some ⟨g, o', none⟩) n c2)) ∧ ∀ k, k < base → k ≠ rb → k ≠ db → ((w1.setCell ⟨db, 0, none⟩ (.slice (some ⟨gg, 0, none⟩) (D.length + 1) cap')).setCell ⟨rb, 0, none⟩ (.slice (some ⟨g, o', none⟩) n c2)).heap[k]? = w.heap[k]?) :=
    fun w1 gg cap' hg ho1 o' c2 h5 h6 => tdg_fin HT.out h0 hv af ag _ hg gg cap' ho1 hD n o' c2 hn h5 h6
  have HE : Hid (∀ (w1 : World), ((w.alloc (.cells #[.int .i32 y] 21)).drew).grownBy w1 v.ownBlock → ∀ k, k < base → w1.heap[k]? = w.heap[k]?) := fun w1 hg k hk => by
    have hs : k < (w.alloc (.cells #[.int .i32 y] 21)).drew.heap.size := by rw [HHs.out]; omega
    rw [hg.block k hs (af k hk)]
    exact ((Below.refl w.heap.size w).alloc (Nat.le_refl _) (.cells #[.int .i32 y] 21)).block k (by omega)
  have HB : Hid (rb < base ∧ db < base ∧ o + 1 < R.length + 1 ∧ R.length - o = n + 1) := ⟨b4, b6, by omega, hn⟩
  have al1 : ∀ ob, (w.alloc ob).cell? ⟨rb, 0, none⟩ = some (.slice (some ⟨g, o, none⟩) (n + 1) c) := fun ob => by rw [World.cell?_alloc_past _ _ _ hw1]; exact hc
  have al2 : ∀ ob, (w.alloc ob).cell? ⟨db, 0, none⟩ = some v := fun ob => by rw [World.cell?_alloc_past _ _ _ hw2]; exact hv
  have nn1 : ¬ rb = w.heap.size := by omega
  have nn2 : ¬ db = w.heap.size := by omega
  have nn3 : ¬ g = w.heap.size := by omega
  have hn1 : n ≤ 1000 := by omega
  clear hl hy ho hd hown af ag h1 h3 b1 b2 b3 b4 b5 b6 b8 b9 h0 hn
  rcases (show c = 1 ∨ ∃ c', c = c' + 2 by by_cases h : c = 1; exact .inl h; exact .inr ⟨c - 2, by omega⟩) with rfl | ⟨c', rfl⟩
  · obtain rfl : n = 0 := by omega
    go_enter Tryz.func267, Tryz.ntmps267
    go_upto_region 3 with fail
    go_cut [] (fun wx => Hid (TDg wx B rb g db base R (o + 1) (D ++ [y]) ∧ Below B w wx ∧ ∀ k, k < base → k ≠ rb → k ≠ db → wx.heap[k]? = w.heap[k]?))
    case first =>
      go_region_law (refine step_append_lies _ rfl (.tmp 33) (.tmp 40) 251 rfl base 21 i0 (.int .i32 0) 1 4 Tryz.underlying251 hi hz0 hz1 hz2 rfl (by decide) v D.length (D.map (Value.int .i32)) (by simp [Act.eval, Act.put]) HOa.out ⟨w.heap.size, 0, none⟩ 1 1 [.int .i32 y] (by simp [Act.eval, Act.put]) rfl HNw.out HOc.out (by decide) HLn.out HBy.out HBs.out (w.heap.size + 1) HHs.out ?_; intro gg cap' w1 hown1 hgrow hat hgl1; have HW1 := HFin.out w1 gg cap' hgrow hown1; have e1 : w1.cell? ⟨rb, 0, none⟩ = some (.slice (some ⟨g, o, none⟩) 1 1) := (World.cell?_of_block (HE.out w1 hgrow rb HB.out.1)).trans hc; have e2 : w1.cell? ⟨db, 0, none⟩ = some v := (World.cell?_of_block (HE.out w1 hgrow db HB.out.2.1)).trans hv; have e3 : w1.frozen? ⟨rb, 0, none⟩ = false := (World.frozen?_of_block (HE.out w1 hgrow rb HB.out.1)).trans hf; have e4 : w1.frozen? ⟨db, 0, none⟩ = false := (World.frozen?_of_block (HE.out w1 hgrow db HB.out.2.1)).trans hfd; have HW2 : Hid _ := HW1; clear HW1 hown1 hgrow hat hgl1)
      all_goals
        go_wp2
        go_meet
        case rel => exact HW2.out _ _ (fun q => by have := HB.out; omega) (by omega)
    case rest =>
      go_wp2
      go_ret
      exact ⟨rfl, hcut.out⟩
  · have hb1 : (1 : Int) ≤ (n : Int) + 1 := by omega
    have hb2 : (n : Int) + 1 ≤ (c' : Int) + 2 := by omega
    have hb3 : n + 1 ≤ c' + 2 := by omega
    have hb4 : n ≤ c' + 1 := by omega
    go_enter Tryz.func267, Tryz.ntmps267
    go_upto_region 3 with fail
    go_cut [] (fun wx => Hid (TDg wx B rb g db base R (o + 1) (D ++ [y]) ∧ Below B w wx ∧ ∀ k, k < base → k ≠ rb → k ≠ db → wx.heap[k]? = w.heap[k]?))
    case first =>
      go_region_law (refine step_append_lies _ rfl (.tmp 33) (.tmp 40) 251 rfl base 21 i0 (.int .i32 0) 1 4 Tryz.underlying251 hi hz0 hz1 hz2 rfl (by decide) v D.length (D.map (Value.int .i32)) (by simp [Act.eval, Act.put]) HOa.out ⟨w.heap.size, 0, none⟩ 1 1 [.int .i32 y] (by simp [Act.eval, Act.put]) rfl HNw.out HOc.out (by decide) HLn.out HBy.out HBs.out (w.heap.size + 1) HHs.out ?_; intro gg cap' w1 hown1 hgrow hat hgl1; have HW1 := HFin.out w1 gg cap' hgrow hown1; have e1 : w1.cell? ⟨rb, 0, none⟩ = some (.slice (some ⟨g, o, none⟩) (n + 1) (c' + 2)) := (World.cell?_of_block (HE.out w1 hgrow rb HB.out.1)).trans hc; have e2 : w1.cell? ⟨db, 0, none⟩ = some v := (World.cell?_of_block (HE.out w1 hgrow db HB.out.2.1)).trans hv; have e3 : w1.frozen? ⟨rb, 0, none⟩ = false := (World.frozen?_of_block (HE.out w1 hgrow rb HB.out.1)).trans hf; have e4 : w1.frozen? ⟨db, 0, none⟩ = false := (World.frozen?_of_block (HE.out w1 hgrow db HB.out.2.1)).trans hfd; have HW2 : Hid _ := HW1; clear HW1 hown1 hgrow hat hgl1)
      all_goals
        go_wp2
        go_meet
        case rel => exact HW2.out _ _ (fun q => by have := HB.out; omega) (by omega)
    case rest =>
      go_wp2
      go_ret
      exact ⟨rfl, hcut.out⟩
end Go.Proofs.YteofommckgeemaaGreatDoor
