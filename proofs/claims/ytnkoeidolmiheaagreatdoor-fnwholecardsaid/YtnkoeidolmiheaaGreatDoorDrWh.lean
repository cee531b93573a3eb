/-
  The draws of a format, a mode and a number, walked: Whole.
-/
import Derived.Test.YtnkoeidolmiheaaGreatDoorDrawFt
import Derived.Test.YtnkoeidolmiheaaGreatDoorDrAd
import Derived.Test.YtnkoeidolmiheaaGreatDoorRdl
namespace Go.Proofs.YtnkoeidolmiheaaGreatDoor
open Go.RowKit
set_option linter.unusedVariables false
set_option maxRecDepth 100000
/-- The answer's box. -/
def A1 (w W : World) : Prop := At4 W w.heap.size (.int .i64 0) (.bool false) (.int .i64 0) (.string { data := #[] }) ∧ Below w.heap.size w W ∧ w.heap.size + 1 ≤ W.heap.size
abbrev a1W (w : World) : World := w.alloc (.cells #[.int .i64 0, .bool false, .int .i64 0, .string { data := #[] }] 25)
theorem a1_new (w : World) : A1 w (a1W w) ∧ (a1W w).heap.size = w.heap.size + 1 := by
  have h1 := at4_new w (.int .i64 0) (.bool false) (.int .i64 0) (.string { data := #[] })
  have z1 : (a1W w).heap.size = w.heap.size + 1 := new_size w (.cells #[.int .i64 0, .bool false, .int .i64 0, .string { data := #[] }] 25)
  have b1 : Below w.heap.size w (a1W w) := (Below.refl _ _).alloc (Nat.le_refl _) _
  exact ⟨⟨h1, b1, by omega⟩, z1⟩
theorem A1.next {w W W' : World} (h : A1 w W) (hb : Below W.heap.size W W') : A1 w W' := ⟨h.1.below hb (by have := h.2.2; omega), h.2.1.trans (hb.mono h.2.1.size), Nat.le_trans h.2.2 hb.size⟩
theorem A1.draw {w W W' : World} {cb : Nat} (h : A1 w W) (hg : W.grownBy W' (some cb)) (hc : w.heap.size + 1 ≤ cb) : A1 w W' :=
  ⟨h.1.grown hg (by omega) (by have := h.2.2; omega), Below.grown h.2.1 hg h.2.1.size (fun q hq => by cases hq; omega), Nat.le_trans h.2.2 hg.size⟩
theorem A1.fin {w W : World} (h : A1 w W) (x y z u : Value) : At4 ((((W.setCell ⟨w.heap.size, 0, none⟩ x).setCell ⟨w.heap.size, 1, none⟩ y).setCell ⟨w.heap.size, 2, none⟩ z).setCell ⟨w.heap.size, 3, none⟩ u) w.heap.size x y z u ∧ Below w.heap.size w ((((W.setCell ⟨w.heap.size, 0, none⟩ x).setCell ⟨w.heap.size, 1, none⟩ y).setCell ⟨w.heap.size, 2, none⟩ z).setCell ⟨w.heap.size, 3, none⟩ u) :=
  ⟨h.1.put x y z u, (((h.2.1.setCell (Nat.le_refl _) _).setCell (Nat.le_refl _) _).setCell (Nat.le_refl _) _).setCell (Nat.le_refl _) _⟩
theorem results_fm1 {fn : Func} {t1 t2 p : Tmp} {b : Nat} {x y z u : Value} (h : fn.results = #[.tmp t1, .tmp t2, .cell p 25]) (tmps : Array Value) (w : World) (hp : tmps[p]?.getD undef = .pointer (some ⟨b, 0, none⟩)) (h1 : At4 w b x y z u) : (results fn tmps).run Tryz.prog w = .ok (.tuple #[tmps.getD t1 undef, tmps.getD t2 undef, .agg #[x, y, z, u]]) w := by
  obtain ⟨a0, a1, a2, a3, -⟩ := h1
  unfold results
  rw [h]
  simp [hp, go_sem, a0, a1, a2, a3]
set_option maxRecDepth 100000 in
set_option maxHeartbeats 2000000 in
theorem DrawWhole_any (a : Option Addr) (len cap : Nat) (w : World) (hl : len ≤ 4096) (hb : Bytes w.heap.size w a len) :
    Calls Tryz.prog 22 #[.slice a len cap] w fun r w' => ∃ (f m : Int) (ka : Int) (na : Bool) (ea : Int) (sa : ByteArray), r = .returned (.tuple #[.int .i64 f, .int .i64 m, numV ka na ea sa]) ∧ sa.size ≤ 340 ∧ Below w.heap.size w w' := by
  obtain ⟨hA, hsz⟩ := a1_new w
  have hB : Hid (Bytes (a1W w).heap.size (a1W w) a len) := bytes_bel hb hA.2.1
  have HA : Hid (A1 w (a1W w)) := hA
  have HSz : Hid ((a1W w).heap.size = w.heap.size + 1) := hsz
  clear hb hA hsz
  go_enter Tryz.func22, Tryz.ntmps22
  go_wp2_with fail
  refine (l1New_any a len cap _ hl hB.out).mono ?_
  rintro e w0 ⟨he, hc0, hb0⟩
  rw [HSz.out] at he hc0
  subst he
  have HA0 : Hid (A1 w w0) := HA.out.next hb0
  clear hb0 HA hB HSz
  go_wp2_with fail
  refine (l10DrawFormat_any _ _ _ hc0).mono ?_
  rintro e w1 ⟨f, rfl, hc1, hg1⟩
  have HA1 : Hid (A1 w w1) := HA0.out.draw hg1 (Nat.le_refl _)
  clear hg1 hc0 HA0
  go_wp2_with fail
  refine (l12DrawMode_any _ _ _ hc1).mono ?_
  rintro e w2 ⟨m, rfl, hc2, hg2⟩
  have HA2 : Hid (A1 w w2) := HA1.out.draw hg2 (Nat.le_refl _)
  clear hg2 hc1 HA1
  go_wp2_with fail
  refine (l10DrawNum_any _ _ f _ hc2).mono ?_
  rintro e w3 ⟨ka, na, ea, sa, rfl, -, -, sz, hc3, hg3⟩
  have HA3 : Hid (A1 w w3) := HA2.out.draw hg3 (Nat.le_refl _)
  have HSz : Hid (sa.size ≤ 340) := sz
  clear hg3 hc2 hc3 HA2 sz
  obtain ⟨d0, d1, d2, d3, d4⟩ := HA3.out.1
  have d40 := d4 0
  have d41 := d4 1
  have d42 := d4 2
  have d43 := d4 3
  clear d4
  go_wp2
  have HP := HA3.out.fin (.int .i64 ka) (.bool na) (.int .i64 ea) (.string sa)
  refine bodyPost_ret (results_fm1 rfl _ _ rfl HP.1) rfl ?_
  exact ⟨f, m, ka, na, ea, sa, rfl, HSz.out, HP.2⟩
end Go.Proofs.YtnkoeidolmiheaaGreatDoor
