/-
  Naturals of the program: differences, a digit more, noughts more; walked.
-/
import Derived.Test.YtjgnhlldehgieaqDoorNar
namespace Go.Proofs.YtjgnhlldehgieaqDoor
open Go.RowKit
set_option linter.unusedVariables false
set_option maxRecDepth 100000
theorem minus_end (X Y D : List Int) (n : Nat) (c : Int) (hX : NCan X) (hY : NCan Y) (hD : Dec D) (lD : D.length = n) (hn : n = X.length) (hle : lv Y ≤ lv X) (c0 : 0 ≤ c) (h : lv D + 10 ^ n * (-c) = pv (fun i => X.getD i 0) n - pv (fun i => Y.getD i 0) n) : lv D = lv X - lv Y := by
  have hl : Y.length ≤ X.length := by
    rcases Nat.lt_or_ge X.length Y.length with q | q
    · have := short_less X Y hX.1 hY q; omega
    · exact q
  rw [pv_all X n (by omega), pv_all Y n (by omega)] at h
  have bD := (lv_bd D hD).2
  rw [lD] at bD
  have hc : c = 0 := by
    rcases Int.lt_or_le 0 c with q | q
    · exfalso
      have : 10 ^ n * 1 ≤ 10 ^ n * c := Int.mul_le_mul_of_nonneg_left (by omega) (Int.le_of_lt (Int.pow_pos (by decide)))
      rw [Int.mul_neg] at h
      omega
    · omega
  rw [hc] at h
  omega
/-- A row of bytes of one's own, as long as it is, with the digits of a slice behind it. -/
theorem wpList_napp {w : World} {ops : Array Oper} {rest : List Oper} {o : Oper} {a : Act} {Q : Exit → Act → World → Prop} (hgd : o.guard = none) (s x : Operand)
    (ho : o.op = .call { callee := .builtin .append, args := #[s, x], argTypes := #[71, 71] }) (vd vs : Value) (hs : a.eval s = vd) (hx : a.eval x = vs)
    (base : Nat) (X Y : List Int) (hX : w.ownsRow base 5 1 vd X.length (X.map (Value.int .u8))) (hnil : vd ≠ .slice none 0 0) (hown0 : ∀ k, vd.ownBlock = some k → base ≤ k) (hY : NRd w vs Y) (hlen : X.length + Y.length ≤ 1000000) (hbase : base ≤ w.heap.size)
    (h : ∀ v' w', Hid (NRd w' v' (X ++ Y) ∧ NAt base v') → Hid (∀ B w0, Below B w0 w → B ≤ base → Below B w0 w') → wpList Tryd.prog ops Q rest (a.put o.dst v') w') : wpList Tryd.prog ops Q (o :: rest) a w := by
  obtain ⟨i0, hi, hz0, hz1, hz2⟩ := info_parts ninfo8
  obtain ⟨g, cap, rfl, hcp, hl, hc⟩ := hY
  refine wpList_append_own (P := Tryd.prog) w hgd s x 71 ho base 5 i0 (.int .u8 0) 1 1 Tryd.underlying71 hi hz0 hz1 hz2 rfl (by decide) vd X.length (X.map (Value.int .u8)) hs hX ⟨g, 0, none⟩ Y.length cap (Y.map (Value.int .u8)) hx (by simp) (fun j u hu => ?_) (fun u hu => ?_) (by unfold maxLen; omega) (by omega) hbase ?_
  · have hj : j < Y.length := by
      have := (List.getElem?_eq_some_iff.1 hu).1
      simpa using this
    rw [show (⟨g, 0, none⟩ : Addr).add j = ⟨g, j, none⟩ by unfold Addr.add; split <;> simp_all, hc j hj, ← hu]
    simp [List.getD, List.getElem?_eq_getElem hj]
  · obtain ⟨y, -, rfl⟩ := List.mem_map.1 hu
    rfl
  · intro v' w' hown hgrow hn
    refine h v' w' ?_ (fun B w0 hB hle => Below.grown hB hgrow (Nat.le_trans hle hbase) (fun k hk => Nat.le_trans hle (hown0 k hk)))
    have h0 := hown
    obtain ⟨hl', h'⟩ := hown
    rcases h' with ⟨e, _⟩ | ⟨g', cap', cur, rfl, hg', hc', hn', hm', hs', ht'⟩
    · exact absurd (hn.1 e).1 hnil
    · refine ⟨⟨g', cap', by rw [List.length_append], by rw [List.length_append]; exact hn', (Array.getElem?_eq_some_iff.1 hc').1, fun i hi => ?_⟩, g', _, _, rfl, hg'⟩
      rw [World.ownsRow.cellAt h0 i (by rw [List.length_append] at hi; omega), ← List.map_append, List.getElem?_map]
      simp only [List.getD, List.getElem?_eq_getElem hi]
      rfl
theorem one8 (w : World) (x : Int) : (w.alloc (.cells #[.int .u8 x] 5)).ownsRow w.heap.size 5 1 (.slice (some ⟨w.heap.size, 0, none⟩) 1 1) [x].length ([x].map (Value.int .u8)) :=
  World.ownsRow_lit (base := w.heap.size) (e := 5) (size := 1) w #[.int .u8 x] 1 (Nat.le_refl _) (by decide) (by simp)
end Go.Proofs.YtjgnhlldehgieaqDoor
