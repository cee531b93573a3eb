/-
  What Cohort takes of the sums, quotients and remainders, in a text of its own: a seat that has nothing else of them.
-/
import Derived.Test.YtnkoeidolmiheaaDoorRdz
import Derived.Test.YtnkoeidolmiheaaDoorNaz
import Derived.Test.YtnkoeidolmiheaaDoorNtL
import Derived.Test.YtnkoeidolmiheaaDoorIsR2
import Derived.Test.YtnkoeidolmiheaaDoorQtl
import Derived.Laws.Tables
import Derived.Deep.Onto
namespace Go.Proofs.YtnkoeidolmiheaaDoor
open Go.RowKit
set_option linter.unusedVariables false
set_option maxRecDepth 100000
theorem new_sizez (w : World) (o : Obj) : (w.alloc o).heap.size = w.heap.size + 1 := by
  show (w.heap.push o).size = w.heap.size + 1
  exact Array.size_push _
theorem new_atz (w : World) (o : Obj) : (w.alloc o).heap[w.heap.size]? = some o := by
  show (w.heap.push o)[w.heap.size]? = some o
  exact Array.getElem?_push_size
theorem new_cell1z (w : World) (x : Value) (T : TypeId) : (w.alloc (.cells #[x] T)).cell? ⟨w.heap.size, 0, none⟩ = some x := by
  have h := new_atz w (.cells #[x] T)
  unfold World.cell?
  simp only [h]
  rfl
theorem bel_rowz {B : Nat} {w W : World} (h : Below B w W) {b : Nat} (hb : B ≤ b) (cs : Array Value) : Below B w (W.setRow b cs) :=
  ⟨h.os, h.tape, h.output, by rw [show (W.setRow b cs).heap.size = W.heap.size by simp [World.setRow]]; exact h.size, fun k hk => (setRow_other W b k cs (by omega)).trans (h.block k hk)⟩
theorem l12Finite_anyz (b : Bool) (s : ByteArray) (e : Int) (w : World) : Calls Tryd.prog 24 #[.bool b, .string s, .int .i64 e] w fun x w' => x = .returned (numV 1 b e s) ∧ Below w.heap.size w w' := by
  go_enter Tryd.func24, Tryd.ntmps24
  go_wp2
  have hP := at4_new w (.int .i64 1) (.bool b) (.int .i64 e) (.string s)
  refine bodyPost_ret (results_num rfl _ _ rfl hP.1 hP.2.1 hP.2.2.1 hP.2.2.2.1) rfl ?_
  exact ⟨rfl, (Below.refl _ _).alloc (Nat.le_refl _) _⟩
def At4rz (W : World) (b : Nat) (x y z u : Value) : Prop := W.heap[b]? = some (.cells #[x, y, z, u] 25 (0, 0))
theorem at4r_newz (w : World) (x y z u : Value) : At4rz (w.alloc (.cells #[x, y, z, u] 25)) w.heap.size x y z u := new_atz w (.cells #[x, y, z, u] 25)
theorem At4rz.cells {w : World} {b : Nat} {x y z u : Value} (h : At4rz w b x y z u) : w.cell? ⟨b, 0, none⟩ = some x ∧ w.cell? ⟨b, 1, none⟩ = some y ∧ w.cell? ⟨b, 2, none⟩ = some z ∧ w.cell? ⟨b, 3, none⟩ = some u ∧ ∀ i, w.frozen? ⟨b, i, none⟩ = false := by
  unfold At4rz at h
  exact ⟨by simp [World.cell?, h], by simp [World.cell?, h], by simp [World.cell?, h], by simp [World.cell?, h], fun i => by simp [World.frozen?, h]⟩
theorem At4rz.lt {w : World} {b : Nat} {x y z u : Value} (h : At4rz w b x y z u) : b < w.heap.size := (Array.getElem?_eq_some_iff.1 h).1
theorem At4rz.below {w w' : World} {b B : Nat} {x y z u : Value} (h : At4rz w b x y z u) (hb : Below B w w') (hB : b < B) : At4rz w' b x y z u := (hb.block b hB).trans h
theorem At4rz.next {w w' : World} {b : Nat} {x y z u : Value} (h : At4rz w b x y z u) (hb : Below w.heap.size w w') : At4rz w' b x y z u := h.below hb h.lt
theorem At4rz.row {w : World} {b : Nat} {x y z u : Value} (h : At4rz w b x y z u) (x' y' z' u' : Value) : At4rz (w.setRow b #[x', y', z', u']) b x' y' z' u' := setRow_heap w b _ _ _ _ h
theorem At4rz.set3 {w : World} {b : Nat} {x y z u : Value} (h : At4rz w b x y z u) (u' : Value) : At4rz (w.setCell ⟨b, 3, none⟩ u') b x y z u' := by
  unfold At4rz at *
  simp [World.setCell, Array.getElem?_modify, h]
theorem At4rz.far {w : World} {b c : Nat} {x y z u : Value} (h : At4rz w b x y z u) (hc : c ≠ b) (i : Nat) (v : Value) : At4rz (w.setCell ⟨c, i, none⟩ v) b x y z u := by
  unfold At4rz at *
  simp [World.setCell, Array.getElem?_modify, h, hc]
theorem build_numz (k : Int) (b : Bool) (e : Int) (s : ByteArray) (w : World) : (Instr.build 25 #[(0, .int .i64 k), (1, .bool b), (2, .int .i64 e), (3, .string s)]).run Tryd.prog w = .ok (numV k b e s) w := run_build w _ _ _ (by kernel_rfl)
theorem one4z (k : Int) (b : Bool) (e : Int) (s : ByteArray) : (#[.int .i64 k, .bool b, .int .i64 e, .string s] : Array Value).all (·.oneCell') = true := by simp [Value.oneCell']
theorem dl_emptyz (s : ByteArray) (h : s.size = 0) : s = tx (dl s) ∧ dl s = [] := by
  have e : s = { data := #[] } := by
    apply ByteArray.ext
    exact Array.eq_empty_of_size_eq_zero h
  subst e
  exact ⟨by apply ByteArray.ext; rw [tx_data]; rfl, rfl⟩
theorem right_twoz (f k : Int) (b : Bool) (e : Int) (s : ByteArray) (h : numB f k b e s = true) (h3 : k ≠ 3) (h4 : k ≠ 4) :
    (f = 64 ∨ f = 128) ∧ s = tx (dl s) ∧ (k = 1 ∨ k = 2) ∧ (k = 1 → Canon (dl s) ∧ ((dl s).length : Int) ≤ limP f ∧ limL f ≤ e ∧ e ≤ limH f) := by
  unfold numB at h
  by_cases h0 : limP f = 0
  · rw [if_pos h0] at h; cases h
  rw [if_neg h0] at h
  have hf : f = 64 ∨ f = 128 := by
    unfold limP at h0
    by_cases c : f = 64
    · exact .inl c
    · rw [if_neg c] at h0
      by_cases c2 : f = 128
      · exact .inr c2
      · rw [if_neg c2] at h0; exact absurd rfl h0
  by_cases h1 : k = 1
  · subst h1
    rw [if_pos rfl] at h
    simp only [Bool.and_eq_true, decide_eq_true_eq] at h
    obtain ⟨hn, hl, hh⟩ := h
    obtain ⟨hc, hlen, he⟩ := natB_dl (limP f) s hn
    exact ⟨hf, he, .inl rfl, fun _ => ⟨hc, hlen, hl, hh⟩⟩
  · rw [if_neg h1] at h
    by_cases h2 : k = 2
    · subst h2
      rw [if_pos rfl] at h
      simp only [Bool.and_eq_true] at h
      have hs : s.size = 0 := by
        have := h.2
        rw [ByteArray.toList_eq, List.isEmpty_iff] at this
        show s.data.size = 0
        rw [← Array.length_toList, this]; rfl
      exact ⟨hf, (dl_emptyz s hs).1, .inr rfl, fun c => by cases c⟩
    · rw [if_neg h2, if_neg (fun c => c.elim h3 h4)] at h
      cases h
theorem limsz (f : Int) (hf : f = 64 ∨ f = 128) : limP f ≤ 34 ∧ -6176 ≤ limL f ∧ limH f ≤ 6111 := by
  rcases hf with rfl | rfl <;> decide
theorem shift_tnz {v n : Int} (h : Nok v) (h2 : Nok (v * 10 ^ n.toNat)) (h0 : 0 ≤ n) (h1 : n ≤ 200) : shiftS (tn v) n = tn (v * 10 ^ n.toNat) := by
  unfold shiftS
  rw [tn_ok h, decide_eq_true h0, decide_eq_true h1, nv_tn h, fit_tn h2]
  rfl
theorem tnSzz (v : Int) : (tn v).size ≤ 4611686018427387904 := Nat.le_trans (tn_size v) (by decide)
def N2z (w : World) (kx : Int) (nx : Bool) (ex : Int) (sx : ByteArray) (W : World) : Prop :=
  At4rz W w.heap.size (.int .i64 kx) (.bool nx) (.int .i64 ex) (.string sx) ∧ At4rz W (w.heap.size + 1) (.int .i64 0) (.bool false) (.int .i64 0) (.string { data := #[] }) ∧ Below w.heap.size w W
theorem n2_newz (w : World) (kx : Int) (nx : Bool) (ex : Int) (sx : ByteArray) : N2z w kx nx ex sx ((w.alloc (.cells #[.int .i64 kx, .bool nx, .int .i64 ex, .string sx] 25)).alloc (.cells #[.int .i64 0, .bool false, .int .i64 0, .string { data := #[] }] 25)) := by
  have h1 := at4r_newz w (.int .i64 kx) (.bool nx) (.int .i64 ex) (.string sx)
  have z1 := new_sizez w (.cells #[.int .i64 kx, .bool nx, .int .i64 ex, .string sx] 25)
  have b1 : Below w.heap.size w (w.alloc (.cells #[.int .i64 kx, .bool nx, .int .i64 ex, .string sx] 25)) := (Below.refl _ _).alloc (Nat.le_refl _) _
  generalize w.alloc (.cells #[.int .i64 kx, .bool nx, .int .i64 ex, .string sx] 25) = w1 at *
  have h2 := at4r_newz w1 (.int .i64 0) (.bool false) (.int .i64 0) (.string { data := #[] })
  have b2 : Below w1.heap.size w1 (w1.alloc (.cells #[.int .i64 0, .bool false, .int .i64 0, .string { data := #[] }] 25)) := (Below.refl _ _).alloc (Nat.le_refl _) _
  rw [z1] at h2
  exact ⟨h1.next b2, h2, b1.trans (b2.mono b1.size)⟩
theorem N2z.next {w W W' : World} {kx : Int} {nx : Bool} {ex : Int} {sx : ByteArray} (h : N2z w kx nx ex sx W) (hb : Below W.heap.size W W') : N2z w kx nx ex sx W' :=
  ⟨h.1.next hb, h.2.1.next hb, h.2.2.trans (hb.mono h.2.2.size)⟩
theorem copied_anyz (k : Int) (b : Bool) (e : Int) (s : ByteArray) (w : World) (hs : s.size ≤ 600) : Calls Tryd.prog 18 #[numV k b e s] w fun x w' => x = .returned (numV k b e s) ∧ Below w.heap.size w w' := by
  have HCl : Hid (∀ X, Calls Tryd.prog 33 #[.string s] X fun e w' => e = .returned (.string s) ∧ Below X.heap.size X w') := fun X => iClone_z s X hs
  clear hs
  have h1 := at4r_newz w (.int .i64 k) (.bool b) (.int .i64 e) (.string s)
  have z1 := new_sizez w (.cells #[.int .i64 k, .bool b, .int .i64 e, .string s] 25)
  have b1 : Below w.heap.size w (w.alloc (.cells #[.int .i64 k, .bool b, .int .i64 e, .string s] 25)) := (Below.refl _ _).alloc (Nat.le_refl _) _
  have h2 := at4r_newz (w.alloc (.cells #[.int .i64 k, .bool b, .int .i64 e, .string s] 25)) (.int .i64 0) (.bool false) (.int .i64 0) (.string { data := #[] })
  have b2 : Below (w.alloc (.cells #[.int .i64 k, .bool b, .int .i64 e, .string s] 25)).heap.size (w.alloc (.cells #[.int .i64 k, .bool b, .int .i64 e, .string s] 25)) ((w.alloc (.cells #[.int .i64 k, .bool b, .int .i64 e, .string s] 25)).alloc (.cells #[.int .i64 0, .bool false, .int .i64 0, .string { data := #[] }] 25)) := (Below.refl _ _).alloc (Nat.le_refl _) _
  rw [z1] at h2
  have HN : Hid (At4rz ((w.alloc (.cells #[.int .i64 k, .bool b, .int .i64 e, .string s] 25)).alloc (.cells #[.int .i64 0, .bool false, .int .i64 0, .string { data := #[] }] 25)) w.heap.size (.int .i64 k) (.bool b) (.int .i64 e) (.string s) ∧ At4rz ((w.alloc (.cells #[.int .i64 k, .bool b, .int .i64 e, .string s] 25)).alloc (.cells #[.int .i64 0, .bool false, .int .i64 0, .string { data := #[] }] 25)) (w.heap.size + 1) (.int .i64 0) (.bool false) (.int .i64 0) (.string { data := #[] }) ∧ Below w.heap.size w ((w.alloc (.cells #[.int .i64 k, .bool b, .int .i64 e, .string s] 25)).alloc (.cells #[.int .i64 0, .bool false, .int .i64 0, .string { data := #[] }] 25))) := ⟨h1.next b2, h2, b1.trans (b2.mono b1.size)⟩
  clear h1 z1 b1 h2 b2
  go_enter Tryd.func18, Tryd.ntmps18
  go_wp2_with fail
  refine (HCl.out _).mono ?_
  rintro x w1 ⟨rfl, hb1⟩
  have HN1 : Hid (At4rz w1 w.heap.size (.int .i64 k) (.bool b) (.int .i64 e) (.string s) ∧ At4rz w1 (w.heap.size + 1) (.int .i64 0) (.bool false) (.int .i64 0) (.string { data := #[] }) ∧ Below w.heap.size w w1) := ⟨HN.out.1.next hb1, HN.out.2.1.next hb1, HN.out.2.2.trans (hb1.mono HN.out.2.2.size)⟩
  have HN2 : Hid (At4rz (w1.setCell ⟨w.heap.size, 3, none⟩ (.string s)) w.heap.size (.int .i64 k) (.bool b) (.int .i64 e) (.string s) ∧ At4rz (w1.setCell ⟨w.heap.size, 3, none⟩ (.string s)) (w.heap.size + 1) (.int .i64 0) (.bool false) (.int .i64 0) (.string { data := #[] }) ∧ Below w.heap.size w (w1.setCell ⟨w.heap.size, 3, none⟩ (.string s))) := ⟨HN1.out.1.set3 _, HN1.out.2.1.far (by omega) _ _, HN1.out.2.2.setCell (Nat.le_refl _) _⟩
  obtain ⟨a0, a1, a2, a3, a4⟩ := HN1.out.1.cells
  obtain ⟨c0, c1, c2, c3, c4⟩ := HN2.out.1.cells
  clear hb1 HN HCl HN1
  go_wp2_with (refine wpList_store_row rfl 25 (.tmp 2) (.tmp 7) rfl (w.heap.size + 1) #[.int .i64 k, .bool b, .int .i64 e, .string s] rfl rfl _ _ HN2.out.2.1 (by kernel_rfl) rfl (one4z _ _ _ _) ?_)
  have hP := (HN2.out.2.1.row (.int .i64 k) (.bool b) (.int .i64 e) (.string s)).cells
  refine bodyPost_ret (results_num rfl _ _ rfl hP.1 hP.2.1 hP.2.2.1 hP.2.2.2.1) rfl ?_
  exact ⟨rfl, bel_rowz HN2.out.2.2 (by omega) _⟩
set_option maxRecDepth 100000 in
theorem lowered_anyz (na : Bool) (ea v e : Int) (w : World) (hea : -7000 ≤ ea ∧ ea ≤ 7000) (he : -7000 ≤ e ∧ e ≤ 7000) (h0 : 0 ≤ ea - e) (h1 : ea - e ≤ 200) (hv : Nok v) (hv2 : Nok (v * 10 ^ (ea - e).toNat)) :
    Calls Tryd.prog 22 #[numV 1 na ea (tn v), .int .i64 e] w fun x w' => x = .returned (numV 1 na e (tn (v * 10 ^ (ea - e).toNat))) ∧ Below w.heap.size w w' := by
  have HS : Hid (∀ X, Calls Tryd.prog 36 #[.string (tn v), .int .i64 (ea - e)] X fun x w' => x = .returned (.string (tn (v * 10 ^ (ea - e).toNat))) ∧ Below X.heap.size X w') := fun X => by
    have := iNatShift_any (tn v) (ea - e) X (tnSzz v)
    rwa [shift_tnz hv hv2 h0 h1] at this
  have hw1 : IntKind.i64.wrap (ea - e) = ea - e := by rw [IntKind.wrap_i64]; omega
  generalize tn (v * 10 ^ (ea - e).toNat) = T2 at *
  generalize tn v = T1 at *
  have hbn := build_numz 1 na e T2
  clear hv hv2 hea he h0 h1
  have HN : Hid (N2z w 1 na ea T1 ((w.alloc (.cells #[.int .i64 1, .bool na, .int .i64 ea, .string T1] 25)).alloc (.cells #[.int .i64 0, .bool false, .int .i64 0, .string { data := #[] }] 25))) := n2_newz w 1 na ea T1
  go_enter Tryd.func22, Tryd.ntmps22
  go_upto_region 1 with fail
  generalize (w.alloc (.cells #[.int .i64 1, .bool na, .int .i64 ea, .string T1] 25)).alloc (.cells #[.int .i64 0, .bool false, .int .i64 0, .string { data := #[] }] 25) = w0 at *
  have HX0 : Hid (Below w0.heap.size w0 w0.drew) := (Below.refl _ _).drew
  refine wp_region_tail (C := fun W => Below w0.heap.size w0 W) 11 (by kernel_rfl) (by kernel_rfl) HX0.out ?_
  simp only [List.take_succ_cons, List.take_zero, List.drop_succ_cons, List.drop_zero]
  repeat (refine wpQuiet_step (fun K hK => ?_); go_simp; first | (refine hK _ ?_; clear hK K) | (apply Exists.intro; refine ⟨fun wx hC => ?_, hK _ ?_⟩; (first | exact rfl | ((with_reducible refine Calls.class_of (HS.out wx) ?_); exact fun w' hb => bel1 hC hb) | (obtain ⟨a0, a1, a2, a3, a4⟩ := (HN.out.next hC).1.cells; go_simp; exact rfl)); clear hK K))
  refine wpQuiet_nil ?_
  intro w1 hb1
  have HN1 : Hid (N2z w 1 na ea T1 w1) := HN.out.next hb1
  clear hb1 HN HX0 HS
  go_wp2_with (refine wpList_store_row rfl 25 (.tmp 4) (.tmp 15) rfl (w.heap.size + 1) #[.int .i64 1, .bool na, .int .i64 e, .string T2] rfl rfl _ _ HN1.out.2.1 (by kernel_rfl) rfl (one4z _ _ _ _) ?_)
  have hP := (HN1.out.2.1.row (.int .i64 1) (.bool na) (.int .i64 e) (.string T2)).cells
  refine bodyPost_ret (results_num rfl _ _ rfl hP.1 hP.2.1 hP.2.2.1 hP.2.2.2.1) rfl ?_
  exact ⟨rfl, bel_rowz HN1.out.2.2 (by omega) _⟩
def RmVz (b : Nat) : Value := .func (.func 34) #[] #[.pointer (some ⟨b, 0, none⟩)]
theorem roomIn_anyz (f : Int) (w : World) : Calls Tryd.prog 20 #[.int .i64 f] w fun x w' => ∃ b, x = .returned (RmVz b) ∧ w'.cell? ⟨b, 0, none⟩ = some (.int .i64 (limP f)) ∧ w.heap.size ≤ b ∧ b < w'.heap.size ∧ Below w.heap.size w w' := by
  have hmf : ∀ (fn : Fn) (first cap : Array Value) (w : World), (Instr.makeFunc fn first cap).run Tryd.prog w = .ok (.func fn first cap) w := fun _ _ _ _ => rfl
  have HLm : Hid (∀ X, Calls Tryd.prog 19 #[.int .i64 f] X fun e w' => e = .returned (.tuple #[.int .i64 (limP f), .int .i64 (limL f), .int .i64 (limH f)]) ∧ Below X.heap.size X w') := fun X => iLimits_any f X
  generalize limL f = L0 at *
  generalize limH f = H0 at *
  generalize limP f = P at *
  go_enter Tryd.func20, Tryd.ntmps20
  go_wp2_with fail
  refine (HLm.out _).mono ?_
  rintro x w1 ⟨rfl, hb1⟩
  have HB1 : Hid (Below w.heap.size w w1) := hb1
  clear hb1 HLm
  go_wp2
  go_ret
  exact ⟨w1.heap.size, rfl, new_cell1z w1 _ _, HB1.out.size, by rw [new_sizez]; omega, HB1.out.alloc HB1.out.size _⟩
theorem room1_anyz (b : Nat) (P : Int) (s : ByteArray) (w : World) (hb : w.cell? ⟨b, 0, none⟩ = some (.int .i64 P)) (hP : 0 ≤ P ∧ P ≤ 34) (hs : s.size ≤ 600) :
    Calls Tryd.prog 34 #[.string s, .pointer (some ⟨b, 0, none⟩)] w fun x w' => x = .returned (.int .i64 (P - s.size)) ∧ w' = w := by
  have hw : IntKind.i64.wrap (P - (s.size : Int)) = P - s.size := by rw [IntKind.wrap_i64]; omega
  clear hP hs
  go_enter Tryd.func34, Tryd.ntmps34
  go_wp2
  go_ret
  exact ⟨rfl, rfl⟩
end Go.Proofs.YtnkoeidolmiheaaDoor
