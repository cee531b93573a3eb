/-
  The reader of texts: digits and exponent put together, walked.
-/
import Derived.Laws.Cover4
import Derived.Laws.Tables
import Derived.Test.YteofommckgeemaaGreatDoorDtz
import Derived.Test.YteofommckgeemaaGreatDoorQtl
import Derived.Test.YteofommckgeemaaGreatDoorCls
namespace Go.Proofs.YteofommckgeemaaGreatDoor
open Go.RowKit
set_option linter.unusedVariables false
set_option maxRecDepth 100000
theorem add_at (g o j : Nat) : (⟨g, o, none⟩ : Addr).add j = ⟨g, o + j, none⟩ := by
  unfold Addr.add
  by_cases h : j = 0
  · subst h; rfl
  · rw [if_neg h]
theorem encode_digit (y : Int) (h : 48 ≤ y ∧ y ≤ 57) : Utf8.encode y = tx [y - 48] := by
  obtain ⟨n, rfl⟩ : ∃ n : Nat, y = n := ⟨y.toNat, by omega⟩
  rcases (show n = 48 ∨ n = 49 ∨ n = 50 ∨ n = 51 ∨ n = 52 ∨ n = 53 ∨ n = 54 ∨ n = 55 ∨ n = 56 ∨ n = 57 by omega) with rfl | rfl | rfl | rfl | rfl | rfl | rfl | rfl | rfl | rfl <;> (apply ByteArray.ext; rw [tx_data]; rfl)
theorem txr_more (a b : List Int) : tx a ++ tx b = tx (a ++ b) := by
  apply ByteArray.ext
  rw [ByteArray.data_append, tx_data, tx_data, tx_data]
  simp
theorem runes_tx (D : List Int) (h : ∀ y ∈ D, 48 ≤ y ∧ y ≤ 57) : runesBytes D = tx (D.map (· - 48)) := by
  have key : ∀ (l : List Int) (A : List Int), (∀ y ∈ l, 48 ≤ y ∧ y ≤ 57) → l.foldl (fun r n => r ++ Utf8.encode n) (tx A) = tx (A ++ l.map (· - 48)) := fun l => by
    induction l with
    | nil => intro A _; simp
    | cons x r ih =>
      intro A hl
      rw [List.foldl_cons, encode_digit x (hl x List.mem_cons_self), txr_more, ih _ (fun y hy => hl y (List.mem_cons_of_mem _ hy))]
      rw [List.map_cons, List.append_assoc]
      rfl
  have := key D [] h
  rw [List.nil_append] at this
  exact this
theorem TrimLeft_nil (w : World) : Calls Tryz.prog 302 #[.string { data := #[] }, .string { data := #[48] }] w fun e w' => e = .returned (.string { data := #[] }) ∧ w' = w := by
  go_enter Tryz.func302, Tryz.ntmps302
  go_wp2
  go_ret
  exact ⟨rfl, rfl⟩
theorem TrimLeft_all (ds : List Int) (w : World) (hd : Dec ds) (hs : ds.length ≤ 1000) :
    Calls Tryz.prog 302 #[.string (tx ds), .string { data := #[48] }] w fun e w' => e = .returned (.string (tx (dz ds))) ∧ w' = w := by
  by_cases h : 0 < ds.length
  · exact TrimLeft_any ds w hd hs h
  · have : ds = [] := List.length_eq_zero_iff.1 (by omega)
    subst this
    exact TrimLeft_nil w
theorem results_scal {fn : Func} {p : Tmp} {b : Nat} {x y : Value} (h : fn.results = #[.cell p 192]) (tmps : Array Value) (w : World) (hp : tmps[p]?.getD undef = .pointer (some ⟨b, 0, none⟩)) (h1 : w.cell? ⟨b, 0, none⟩ = some x) (h2 : w.cell? ⟨b, 1, none⟩ = some y) : (results fn tmps).run Tryz.prog w = .ok (.agg #[x, y]) w := by
  unfold results
  rw [h]
  simp [hp, go_sem, h1, h2]
set_option maxRecDepth 100000 in
set_option maxHeartbeats 2000000 in
theorem scaledBy_any (v : Value) (D : List Int) (base : Nat) (ex : Int) (w : World) (h : w.ownsRow base 21 1 v D.length (D.map (Value.int .i32))) (hd : ∀ y ∈ D, 48 ≤ y ∧ y ≤ 57) (hl : D.length ≤ 1000) (h0 : 0 < D.length) :
    Calls Tryz.prog 268 #[v, .int .i64 ex] w fun e w' => e = .returned (.agg #[.string (tx (strip (D.map (· - 48)))), .int .i64 ex]) ∧ Below w.heap.size w w' := by
  obtain ⟨a, cap, rfl, hg⟩ := r32_form h
  obtain ⟨g, rfl, -, hgl, hcap, hca⟩ := hg h0
  obtain ⟨m, hm⟩ : ∃ m, D.length = m + 1 := ⟨D.length - 1, by omega⟩
  -- the two parts
  have hspl : D = D.take m ++ [D.getD m 0] := by
    have : D.take (m + 1) = D.take m ++ [D[m]'(by omega)] := (List.take_append_getElem (by omega)).symm
    rw [← hm, List.take_length] at this
    rw [List.getD_eq_getElem?_getD, List.getElem?_eq_getElem (by omega)]
    exact this
  have hdA : ∀ y ∈ D.take m, 48 ≤ y ∧ y ≤ 57 := fun y hy => hd y (List.mem_of_mem_take hy)
  have hdd : 48 ≤ D.getD m 0 ∧ D.getD m 0 ≤ 57 := hd _ (by rw [List.getD_eq_getElem?_getD, List.getElem?_eq_getElem (show m < D.length by omega)]; exact List.getElem_mem _)
  have hcell : ∀ W, Below w.heap.size w W → ∀ j, j < D.length → W.cell? ⟨g, j, none⟩ = some (.int .i32 (D.getD j 0)) := fun W hW j hj => by
    rw [hW.cell (p := ⟨g, j, none⟩) hgl, hca j hj, List.getElem?_map, List.getD_eq_getElem?_getD, List.getElem?_eq_getElem hj]
    rfl
  have HC1 : Hid (∀ W, Below w.heap.size w W → (convert 251 9 (.slice (some ⟨g, 0, none⟩) m cap)).run Tryz.prog W = .ok (.string (tx ((D.take m).map (· - 48)))) W) := fun W hW => by
    rw [run_convert_runes W 251 9 21 ⟨g, 0, none⟩ m cap D (by omega) (by kernel_rfl) (by kernel_rfl) (by kernel_rfl) (fun j hj => by rw [add_at, Nat.zero_add]; exact hcell W hW j hj), runes_tx _ hdA]
  have HC2 : Hid (∀ W, Below w.heap.size w W → (convert 251 9 (.slice (some ⟨g, m, none⟩) 1 (cap - m))).run Tryz.prog W = .ok (.string (tx [D.getD m 0 - 48])) W) := fun W hW => by
    rw [run_convert_runes W 251 9 21 ⟨g, m, none⟩ 1 (cap - m) [D.getD m 0] (by simp) (by kernel_rfl) (by kernel_rfl) (by kernel_rfl) (fun j hj => by
      have : j = 0 := by simpa using hj
      subst this
      rw [add_at, Nat.add_zero]
      exact hcell W hW m (by omega)), runes_tx _ (fun y hy => by
      have : y = D.getD m 0 := by simpa using hy
      rw [this]; exact hdd)]
    rfl
  have HTr : Hid (∀ X, Calls Tryz.prog 302 #[.string (tx ((D.take m).map (· - 48))), .string { data := #[48] }] X fun e w' => e = .returned (.string (tx (dz ((D.take m).map (· - 48))))) ∧ w' = X) := fun X => TrimLeft_all _ X (fun x hx => by
    obtain ⟨y, hy, rfl⟩ := List.mem_map.1 hx
    have := hdA y hy
    omega) (by simp; omega)
  have HE : Hid (tx (dz ((D.take m).map (· - 48))) ++ tx [D.getD m 0 - 48] = tx (strip (D.map (· - 48)))) := by
    rw [Hid, txr_more, ← dz_strip]
    conv => rhs; rw [hspl]
    rw [List.map_append]
    rfl
  have hsz : (tx (dz ((D.take m).map (· - 48)))).size ≤ 1000 := by
    rw [tx_size]
    have := dz_len ((D.take m).map (· - 48))
    have h2 : ((D.take m).map (· - 48)).length ≤ m := by rw [List.length_map, List.length_take]; omega
    omega
  have hsz1 : (tx [D.getD m 0 - 48]).size = 1 := by rw [tx_size]; rfl
  clear hspl hdA hdd hcell h hd hca
  rw [hm]
  obtain ⟨T, hT⟩ : ∃ T, tx (strip (D.map (· - 48))) = T := ⟨_, rfl⟩
  rw [hT] at HE
  rw [hT]
  generalize tx (dz ((D.take m).map (· - 48))) = T1 at *
  generalize tx ((D.take m).map (· - 48)) = T0 at *
  generalize tx [D.getD m 0 - 48] = T2 at *
  have hbd : ∀ X : World, (Instr.build 192 #[(0, .string T), (1, .int .i64 ex)]).run Tryz.prog X = .ok (.agg #[.string T, .int .i64 ex]) X := fun X => run_build X _ _ _ (by kernel_rfl)
  have wk : IntKind.i64.wrap (((m + 1 : Nat) : Int) - 1) = (m : Int) := by rw [IntKind.wrap_i64]; omega
  have hwm : wrap64 (m : Int) = (m : Int) := by have := IntKind.wrap_i64 (m : Int); unfold wrap64; omega
  have hb1 : m ≤ cap := by omega
  have hb2 : m + 1 ≤ cap := by omega
  have hb3 : ¬ cap = m := by omega
  have hb4 : (m : Int) ≤ (cap : Int) := by omega
  have hb5 : (m : Int) ≤ (m : Int) + 1 := by omega
  have hz1 : (T1.size : Int) ≤ 8388608 := by omega
  have hz2 : (T2.size : Int) ≤ 8388608 := by omega
  have hz3 : ¬ 9223372036854775807 < T1.size + T2.size := by omega
  have hE := HE.out
  have hb0 : Below w.heap.size w (w.alloc (.cells #[.string { data := #[] }, .int .i64 0] 192)) := (Below.refl _ _).alloc (Nat.le_refl _) _
  have HB0 : Hid (Below w.heap.size w (w.alloc (.cells #[.string { data := #[] }, .int .i64 0] 192))) := hb0
  have HA0 : Hid ((w.alloc (.cells #[.string { data := #[] }, .int .i64 0] 192)).heap[w.heap.size]? = some (.cells #[.string { data := #[] }, .int .i64 0] 192 (0, 0))) := (MapKept.heap_alloc w _).1
  clear hb0 hl h0 hgl hcap hm HE hT hsz hsz1
  go_enter Tryz.func268, Tryz.ntmps268
  go_upto_region 2 with fail
  generalize (w.alloc (.cells #[.string { data := #[] }, .int .i64 0] 192)) = w0 at *
  have HX0 : Hid (Below w0.heap.size w0 w0.drew) := (Below.refl _ _).drew
  refine wp_region_tail (C := fun W => Below w0.heap.size w0 W) 12 (by kernel_rfl) (by kernel_rfl) HX0.out ?_
  simp only [List.take_succ_cons, List.take_zero, List.drop_succ_cons, List.drop_zero]
  repeat (refine wpQuiet_step (fun K hK => ?_); go_simp; first | (refine hK _ ?_; clear hK K) | (apply Exists.intro; refine ⟨fun wx hC => ?_, hK _ ?_⟩; (first | exact rfl | ((with_reducible refine (HTr.out wx).mono ?_); rintro e w' ⟨rfl, rfl⟩; exact ⟨rfl, hC⟩) | (have k1 := HC1.out wx (HB0.out.trans (hC.mono HB0.out.size)); have k2 := HC2.out wx (HB0.out.trans (hC.mono HB0.out.size)); go_simp; exact rfl)); clear hK K))
  refine wpQuiet_nil ?_
  intro w1 hb1'
  have HB1 : Hid (Below w.heap.size w w1) := HB0.out.trans (hb1'.mono HB0.out.size)
  have hbk : w1.heap[w.heap.size]? = some (.cells #[.string { data := #[] }, .int .i64 0] 192 (0, 0)) := (hb1'.block w.heap.size (Array.getElem?_eq_some_iff.1 HA0.out).1).trans HA0.out
  have d0 : w1.cell? ⟨w.heap.size, 0, none⟩ = some (.string { data := #[] }) := by unfold World.cell?; simp only [hbk]; rfl
  have d1 : w1.cell? ⟨w.heap.size, 1, none⟩ = some (.int .i64 0) := by unfold World.cell?; simp only [hbk]; rfl
  have f0 : w1.frozen? ⟨w.heap.size, 0, none⟩ = false := by unfold World.frozen?; simp only [hbk]; rfl
  have f1 : w1.frozen? ⟨w.heap.size, 1, none⟩ = false := by unfold World.frozen?; simp only [hbk]; rfl
  clear hb1' hbk HX0 HB0 HA0 HTr HC1 HC2
  go_wp2
  refine bodyPost_ret (results_scal (x := .string T) (y := .int .i64 ex) rfl _ _ rfl ?_ ?_) rfl ?_
  · rw [World.cell?_setCell_other _ _ _ _ (by simp)]
    exact World.cell?_setCell_same _ _ _ d0
  · exact World.cell?_setCell_same _ _ _ (by rw [World.cell?_setCell_other _ _ _ _ (by simp)]; exact d1)
  · exact ⟨rfl, (HB1.out.setCell (Nat.le_refl _) _).setCell (Nat.le_refl _) _⟩
end Go.Proofs.YteofommckgeemaaGreatDoor
