/-
  The program's ShowNum, walked.
-/
import Derived.Test.YtdkpiofeidcffaaGreatDoorShb
import Derived.Test.YtdkpiofeidcffaaGreatDoorNumE
import Derived.Test.YtdkpiofeidcffaaGreatDoorShg
import Derived.Test.YtdkpiofeidcffaaGreatDoorIsR2
import Derived.Lib.SmallJoins
namespace Go.Proofs.YtdkpiofeidcffaaGreatDoor
open Go.RowKit
set_option linter.unusedVariables false
set_option maxRecDepth 100000
/-- The library's table of the powers of ten lies as its initialiser lays it. -/
def PTab (w : World) : Prop := Lib.TabIs Tryz.prog w "internal/strconv.uint64pow10" .u64 Lib.pow10Tab
theorem gPow : Tryz.prog.globalNamed "internal/strconv.uint64pow10" = some 2 := by kernel_rfl
theorem PTab.next {w w' : World} (h : PTab w) (hb : Below w.heap.size w w') : PTab w' := Go.Joins.tab_stays gPow h hb (Nat.le_refl _)
theorem belGrow (w : World) (k : Nat) (os : Array Obj) : Below w.heap.size w (Go.Sort.grow (w.drewN k) os) :=
  ⟨rfl, rfl, rfl, by show w.heap.size ≤ (w.heap ++ os).size; rw [Array.size_append]; omega, fun j hj => by show (w.heap ++ os)[j]? = w.heap[j]?; exact Array.getElem?_append_left hj⟩
theorem fmtInt_any (n : Int) (h : -7000 ≤ n ∧ n ≤ 7000) (w : World) (ht : PTab w) : Calls Tryz.prog 75 #[.int .i64 n, .int .i64 10] w fun e w' => e = .returned (.string ⟨(Lib.itoa n).toArray⟩) ∧ Below w.heap.size w w' := by
  refine (Tryz.strconv_FormatInt_10 n (by omega) (by omega) w ht).mono ?_
  rintro e w' ⟨rfl, k, os, rfl⟩
  exact ⟨rfl, belGrow _ _ _⟩
theorem itoa_neg' (n : Int) (h : n < 0) : (⟨(Lib.itoa n).toArray⟩ : ByteArray) = { data := #[45] } ++ tx (dcL (-n).toNat) := by
  unfold Lib.itoa
  rw [if_pos h, dcL_tx, show n.natAbs = (-n).toNat by omega]
  apply ByteArray.ext
  rw [ByteArray.data_append]
  show _ = #[45] ++ (Lib.decDigits (-n).toNat).toArray
  simp
theorem itoa_pos' (n : Int) (h : ¬ n < 0) : (⟨(Lib.itoa n).toArray⟩ : ByteArray) = tx (dcL n.toNat) := by
  unfold Lib.itoa
  rw [if_neg h, dcL_tx]
theorem withPoint_any (A B : List Int) (hA : A.length ≤ 100) (hB : B.length ≤ 100) (w : World) : Calls Tryz.prog 48 #[.string (tx A), .string (tx B)] w fun x w' => x = .returned (.string (ptT A B)) ∧ w' = w := by
  have z1 := tx_size A
  have z2 := tx_size B
  have hlen : (tx B).toList.isEmpty = decide (B = []) := by
    rw [ByteArray.toList_eq, tx_data]
    cases B <;> rfl
  by_cases h : B = []
  · have e : ptT A B = tx A := by rw [h, ptT_nil]
    rw [decide_eq_true h] at hlen
    rw [e]
    clear e h
    go_enter Tryz.func48, Tryz.ntmps48
    go_wp2
    go_ret
    exact ⟨rfl, rfl⟩
  · have e : ptT A B = tx A ++ { data := #[46] } ++ tx B := by unfold ptT; rw [if_neg h]
    rw [decide_eq_false h] at hlen
    rw [e]
    clear e h
    go_enter Tryz.func48, Tryz.ntmps48
    go_wp2
    go_ret
    exact ⟨rfl, rfl⟩
theorem withSign_any (x : Int) (h : -7000 ≤ x ∧ x ≤ 7000) (w : World) (ht : PTab w) : Calls Tryz.prog 50 #[.int .i64 x] w fun y w' => y = .returned (.string (pwT x)) ∧ Below w.heap.size w w' := by
  have HF : Hid (∀ X, PTab X → Calls Tryz.prog 75 #[.int .i64 x, .int .i64 10] X fun e w' => e = .returned (.string ⟨(Lib.itoa x).toArray⟩) ∧ Below X.heap.size X w') := fun X q => fmtInt_any x h X q
  have HT : Hid (PTab w) := ht
  clear ht
  by_cases hn : x < 0
  · have e : pwT x = (⟨(Lib.itoa x).toArray⟩ : ByteArray) := by rw [itoa_neg' x hn]; unfold pwT; rw [if_pos hn]
    rw [e]
    clear e
    generalize (⟨(Lib.itoa x).toArray⟩ : ByteArray) = T at *
    go_enter Tryz.func50, Tryz.ntmps50
    go_wp2_with fail
    refine (HF.out _ HT.out).mono ?_
    rintro y w1 ⟨rfl, hb1⟩
    go_wp2
    go_ret
    exact ⟨rfl, hb1⟩
  · have e : pwT x = { data := #[43] } ++ (⟨(Lib.itoa x).toArray⟩ : ByteArray) := by rw [itoa_pos' x hn]; unfold pwT; rw [if_neg hn]
    have hz : (⟨(Lib.itoa x).toArray⟩ : ByteArray).size ≤ 4 := by rw [itoa_pos' x hn, tx_size]; exact dcL_len _ (by omega)
    rw [e]
    clear e
    generalize (⟨(Lib.itoa x).toArray⟩ : ByteArray) = T at *
    go_enter Tryz.func50, Tryz.ntmps50
    go_wp2_with fail
    refine (HF.out _ HT.out).mono ?_
    rintro y w1 ⟨rfl, hb1⟩
    go_wp2
    go_ret
    exact ⟨rfl, hb1⟩
theorem pwT_size (x : Int) (h : -7000 ≤ x ∧ x ≤ 7000) : (pwT x).size ≤ 5 := by
  unfold pwT
  split
  · rw [ByteArray.size_append, tx_size]; have := dcL_len (-x).toNat (by omega); show 1 + _ ≤ _; omega
  · rw [ByteArray.size_append, tx_size]; have := dcL_len x.toNat (by omega); show 1 + _ ≤ _; omega
theorem ptT_size (A B : List Int) (hA : A.length ≤ 100) (hB : B.length ≤ 100) : (ptT A B).size ≤ 201 := by
  unfold ptT
  split
  · rw [tx_size]; omega
  · rw [ByteArray.size_append, ByteArray.size_append, tx_size, tx_size]; show _ + 1 + _ ≤ _; omega
theorem fnT_size (e : Int) (L : List Int) (hL : 0 < L.length) (hl : L.length ≤ 34) (he : -6176 ≤ e ∧ e ≤ 6111) : (fnT e L).size ≤ 300 := by
  unfold fnT
  split
  · rename_i h
    have := zpad_len ((-e).toNat + 1) L
    have := ptT_size ((zpad ((-e).toNat + 1) L).take ((zpad ((-e).toNat + 1) L).length - (-e).toNat)) ((zpad ((-e).toNat + 1) L).drop ((zpad ((-e).toNat + 1) L).length - (-e).toNat)) (by rw [List.length_take]; omega) (by rw [List.length_drop]; omega)
    omega
  · have h1 := ptT_size (L.take 1) (L.drop 1) (by rw [List.length_take]; omega) (by rw [List.length_drop]; omega)
    have h2 := pwT_size ((L.length : Int) - 1 + e) (by omega)
    rw [ByteArray.size_append, ByteArray.size_append]
    show _ + 1 + _ ≤ _
    omega
theorem usT_size (k : Int) (b : Bool) (e : Int) (s : ByteArray) (h : numB 128 k b e s = true) : (usT k e s).size ≤ 300 := by
  rcases right_128 k b e s h with ⟨rfl, hs, h0, h1, e0, e1⟩ | rfl | ⟨rfl, rfl⟩ | ⟨rfl, rfl⟩
  · exact fnT_size e (dl s) h0 h1 ⟨e0, e1⟩
  · unfold usT; rw [if_pos rfl]; decide
  · unfold usT; rw [if_neg (by decide), if_pos rfl]; decide
  · unfold usT; rw [if_neg (by decide), if_neg (by decide), if_pos rfl]; decide
set_option maxRecDepth 100000 in
set_option maxHeartbeats 1000000 in
theorem unsigned_near (b : Bool) (k : Nat) (L : List Int) (hL : 0 < L.length) (hl : L.length ≤ 34) (h6 : -6 ≤ (L.length : Int) - 1 - k) (w : World) :
    Calls Tryz.prog 20 #[numV 1 b (-(k : Int)) (tx L)] w fun x w' => x = .returned (.string (fnT (-(k : Int)) L)) ∧ Below w.heap.size w w' := by
  have hlen := zpad_len (k + 1) L
  obtain ⟨n, hn⟩ : ∃ n, (zpad (k + 1) L).length = n + k := ⟨(zpad (k + 1) L).length - k, by omega⟩
  rw [fnT_near k L h6 n hn]
  have HS : Hid (∀ X, Calls Tryz.prog 49 #[.string (tx L), .int .i64 k] X fun e w' => e = .returned (.tuple #[.string (tx ((zpad (k + 1) L).take n)), .string (tx ((zpad (k + 1) L).drop n))]) ∧ Below X.heap.size X w') := fun X => iSplit_z L k n (by omega) (by omega) hn X
  have HP : Hid (∀ X, Calls Tryz.prog 48 #[.string (tx ((zpad (k + 1) L).take n)), .string (tx ((zpad (k + 1) L).drop n))] X fun x w' => x = .returned (.string (ptT ((zpad (k + 1) L).take n) ((zpad (k + 1) L).drop n))) ∧ w' = X) := fun X => withPoint_any _ _ (by rw [List.length_take]; omega) (by rw [List.length_drop]; omega) X
  generalize tx ((zpad (k + 1) L).take n) = TA at *
  generalize tx ((zpad (k + 1) L).drop n) = TB at *
  generalize ptT ((zpad (k + 1) L).take n) ((zpad (k + 1) L).drop n) = TP at *
  have h4 := at4_new w (.int .i64 1) (.bool b) (.int .i64 (-(k : Int))) (.string (tx L))
  have HA : Hid (At4 (w.alloc (.cells #[.int .i64 1, .bool b, .int .i64 (-(k : Int)), .string (tx L)] 25)) w.heap.size (.int .i64 1) (.bool b) (.int .i64 (-(k : Int))) (.string (tx L)) ∧ Below w.heap.size w (w.alloc (.cells #[.int .i64 1, .bool b, .int .i64 (-(k : Int)), .string (tx L)] 25))) := ⟨h4, (Below.refl _ _).alloc (Nat.le_refl _) _⟩
  have w1 : IntKind.i64.wrap ((L.length : Int) - 1) = (L.length : Int) - 1 := by rw [IntKind.wrap_i64]; omega
  have w2 : IntKind.i64.wrap ((L.length : Int) - 1 + -(k : Int)) = (L.length : Int) - 1 + -(k : Int) := by rw [IntKind.wrap_i64]; omega
  have w3 : IntKind.i64.wrap ((k : Int)) = (k : Int) := by rw [IntKind.wrap_i64]; omega
  have h6' : -6 ≤ (L.length : Int) - 1 + -(k : Int) := by omega
  have hk0 : -(k : Int) ≤ 0 := by omega
  have hz := tx_size L
  clear h4 hlen hn h6
  go_enter Tryz.func20, Tryz.ntmps20
  go_wp2_with fail
  refine (HS.out _).mono ?_
  rintro x w1 ⟨rfl, hb1⟩
  go_wp2_with fail
  refine (HP.out _).mono ?_
  rintro x w2 ⟨rfl, rfl⟩
  go_wp2
  go_ret
  exact ⟨rfl, bel1 HA.out.2 hb1⟩
set_option maxRecDepth 100000 in
set_option maxHeartbeats 1000000 in
theorem unsigned_far (b : Bool) (e : Int) (L : List Int) (hL : 0 < L.length) (hl : L.length ≤ 34) (he : -6176 ≤ e ∧ e ≤ 6111) (h6 : ¬ (e ≤ 0 ∧ -6 ≤ (L.length : Int) - 1 + e)) (w : World) (ht : PTab w) :
    Calls Tryz.prog 20 #[numV 1 b e (tx L)] w fun x w' => x = .returned (.string (fnT e L)) ∧ Below w.heap.size w w' := by
  rw [fnT_far e L h6]
  have t1 := tx_take L 1 (by omega)
  have t2 := tx_drop L 1 (by omega)
  have hz := tx_size L
  rw [hz] at t2
  obtain ⟨x, hx⟩ : ∃ x, (L.length : Int) - 1 + e = x := ⟨_, rfl⟩
  have hx1 : -7000 ≤ x ∧ x ≤ 7000 := by omega
  have HP : Hid (∀ X, Calls Tryz.prog 48 #[.string (tx (L.take 1)), .string (tx (L.drop 1))] X fun x w' => x = .returned (.string (ptT (L.take 1) (L.drop 1))) ∧ w' = X) := fun X => withPoint_any _ _ (by rw [List.length_take]; omega) (by rw [List.length_drop]; omega) X
  have HS : Hid (∀ X, PTab X → Calls Tryz.prog 50 #[.int .i64 x] X fun y w' => y = .returned (.string (pwT x)) ∧ Below X.heap.size X w') := fun X q => withSign_any x hx1 X q
  have zP := ptT_size (L.take 1) (L.drop 1) (by rw [List.length_take]; omega) (by rw [List.length_drop]; omega)
  have zW := pwT_size x hx1
  have h4 := at4_new w (.int .i64 1) (.bool b) (.int .i64 e) (.string (tx L))
  have HA : Hid (At4 (w.alloc (.cells #[.int .i64 1, .bool b, .int .i64 e, .string (tx L)] 25)) w.heap.size (.int .i64 1) (.bool b) (.int .i64 e) (.string (tx L)) ∧ Below w.heap.size w (w.alloc (.cells #[.int .i64 1, .bool b, .int .i64 e, .string (tx L)] 25))) := ⟨h4, (Below.refl _ _).alloc (Nat.le_refl _) _⟩
  have HT : Hid (PTab w) := ht
  have w1 : IntKind.i64.wrap ((L.length : Int) - 1) = (L.length : Int) - 1 := by rw [IntKind.wrap_i64]; omega
  have w2 : IntKind.i64.wrap ((L.length : Int) - 1 + e) = (L.length : Int) - 1 + e := by rw [IntKind.wrap_i64]; omega
  have hb1 : (1 : Int) ≤ L.length := by omega
  rw [hx] at w2 h6 ⊢
  have HH6 : Hid (¬ (e ≤ 0 ∧ -6 ≤ x)) := h6
  have HC : Hid (e ≤ 0 → x < -6) := fun q => by omega
  generalize tx (L.take 1) = TA at *
  generalize tx (L.drop 1) = TB at *
  generalize ptT (L.take 1) (L.drop 1) = TP at *
  generalize pwT x = TW at *
  generalize tx L = TL at *
  clear h4 h6 ht
  have n1 : ¬ 9223372036854775807 < TP.size + 1 := by omega
  have n2 : ¬ 9223372036854775807 < TP.size + 1 + TW.size := by omega
  have HX0 : Hid (∀ wa : World, Below wa.heap.size wa wa.drew) := fun wa => (Below.refl _ _).drew
  by_cases c3 : e ≤ 0
  · have c4 := HC.out c3
    clear HC
    go_enter Tryz.func20, Tryz.ntmps20
    go_upto_region 11 with fail
    have HT0 : Hid (PTab (w.alloc (.cells #[.int .i64 1, .bool b, .int .i64 e, .string TL] 25))) := HT.out.next HA.out.2
    have hlt : Hid (w.heap.size < (w.alloc (.cells #[.int .i64 1, .bool b, .int .i64 e, .string TL] 25)).heap.size) := by show _ < _; simp
    generalize (w.alloc (.cells #[.int .i64 1, .bool b, .int .i64 e, .string TL] 25)) = w0 at *
    refine wp_region_class (C := fun W => Below w0.heap.size w0 W) (by kernel_rfl) (by kernel_rfl) (HX0.out w0) ?_
    repeat (refine wpQuiet_step (fun K hK => ?_); go_simp; first | (refine hK _ ?_; clear hK K) | (apply Exists.intro; refine ⟨fun wx hC => ?_, hK _ ?_⟩; (first | exact rfl | ((with_reducible refine Calls.class_of (HS.out wx (HT0.out.next hC)) ?_); exact fun w' hb => bel1 hC hb) | ((with_reducible refine (HP.out wx).mono ?_); rintro x w' ⟨rfl, rfl⟩; exact ⟨rfl, hC⟩) | (obtain ⟨a0, a1, a2, a3, a4⟩ := HA.out.1.below hC hlt.out; go_simp; exact rfl)); clear hK K))
    refine wpQuiet_nil ?_
    intro w2 hb2
    go_wp2
    go_ret
    exact ⟨rfl, bel1 HA.out.2 hb2⟩
  · clear HC
    go_enter Tryz.func20, Tryz.ntmps20
    go_upto_region 11 with fail
    have HT0 : Hid (PTab (w.alloc (.cells #[.int .i64 1, .bool b, .int .i64 e, .string TL] 25))) := HT.out.next HA.out.2
    have hlt : Hid (w.heap.size < (w.alloc (.cells #[.int .i64 1, .bool b, .int .i64 e, .string TL] 25)).heap.size) := by show _ < _; simp
    generalize (w.alloc (.cells #[.int .i64 1, .bool b, .int .i64 e, .string TL] 25)) = w0 at *
    refine wp_region_class (C := fun W => Below w0.heap.size w0 W) (by kernel_rfl) (by kernel_rfl) (HX0.out w0) ?_
    repeat (refine wpQuiet_step (fun K hK => ?_); go_simp; first | (refine hK _ ?_; clear hK K) | (apply Exists.intro; refine ⟨fun wx hC => ?_, hK _ ?_⟩; (first | exact rfl | ((with_reducible refine Calls.class_of (HS.out wx (HT0.out.next hC)) ?_); exact fun w' hb => bel1 hC hb) | ((with_reducible refine (HP.out wx).mono ?_); rintro x w' ⟨rfl, rfl⟩; exact ⟨rfl, hC⟩) | (obtain ⟨a0, a1, a2, a3, a4⟩ := HA.out.1.below hC hlt.out; go_simp; exact rfl)); clear hK K))
    refine wpQuiet_nil ?_
    intro w2 hb2
    go_wp2
    go_ret
    exact ⟨rfl, bel1 HA.out.2 hb2⟩
theorem unsigned_any (k : Int) (b : Bool) (e : Int) (s : ByteArray) (hO : numB 128 k b e s = true) (w : World) (ht : PTab w) :
    Calls Tryz.prog 20 #[numV k b e s] w fun x w' => x = .returned (.string (usT k e s)) ∧ Below w.heap.size w w' := by
  rcases right_128 k b e s hO with ⟨rfl, hs1, h0, h1, e0, e1⟩ | hk
  · have hu : usT 1 e s = fnT e (dl s) := by unfold usT; rw [if_neg (by decide), if_neg (by decide), if_neg (by decide)]
    rw [hu]
    generalize dl s = L at *
    subst hs1
    by_cases hn : e ≤ 0 ∧ -6 ≤ (L.length : Int) - 1 + e
    · obtain ⟨m, rfl⟩ : ∃ m : Nat, e = -(m : Int) := ⟨(-e).toNat, by omega⟩
      exact unsigned_near b m L h0 h1 (by omega) w
    · exact unsigned_far b e L h0 h1 ⟨e0, e1⟩ hn w ht
  · clear hO ht
    rcases hk with rfl | ⟨rfl, rfl⟩ | ⟨rfl, rfl⟩
    all_goals
      go_enter Tryz.func20, Tryz.ntmps20
      go_wp2
      go_ret
      exact ⟨rfl, (Below.refl _ _).alloc (Nat.le_refl _) _⟩
theorem iShowNum_any (k : Int) (b : Bool) (e : Int) (s : ByteArray) (w : World) (hs : s.size ≤ 4611686018427387904) (ht : PTab w) :
    Calls Tryz.prog 7 #[numV k b e s] w fun x w' => x = .returned (.string (shT k b e s)) ∧ Below w.heap.size w w' := by
  have HT : Hid (PTab w) := ht
  clear ht
  cases hO : numB 128 k b e s with
  | false =>
    have HNb : Hid (∀ X, Calls Tryz.prog 14 #[.int .i64 128, numV k b e s] X fun x w' => x = .returned (.bool false) ∧ Below X.heap.size X w') := fun X => by
      have := iNumOk_any 128 k b e s X hs
      rwa [hO] at this
    have hE : shT k b e s = { data := #[] } := by unfold shT; rw [hO]; rfl
    rw [hE]
    clear hE hO hs
    go_enter Tryz.func7, Tryz.ntmps7
    go_wp2_with fail
    refine (HNb.out _).mono ?_
    rintro x w1 ⟨rfl, hb1⟩
    go_wp2
    go_ret
    exact ⟨rfl, bel1 ((Below.refl _ _).alloc (Nat.le_refl _) _) hb1⟩
  | true =>
    have hE : shT k b e s = sgnT b ++ usT k e s := by unfold shT; rw [hO]; rfl
    rw [hE]
    have HNb : Hid (∀ X, Calls Tryz.prog 14 #[.int .i64 128, numV k b e s] X fun x w' => x = .returned (.bool true) ∧ Below X.heap.size X w') := fun X => by
      have := iNumOk_any 128 k b e s X hs
      rwa [hO] at this
    have zU := usT_size k b e s hO
    have HU : Hid (∀ X, PTab X → Calls Tryz.prog 20 #[numV k b e s] X fun x w' => x = .returned (.string (usT k e s)) ∧ Below X.heap.size X w') := fun X q => unsigned_any k b e s hO X q
    have HCl : Hid (∀ X, Calls Tryz.prog 19 #[.string (sgnT b ++ usT k e s)] X fun y w' => y = .returned (.string (sgnT b ++ usT k e s)) ∧ Below X.heap.size X w') := fun X => iClone_z (sgnT b ++ usT k e s) X (by
      rw [ByteArray.size_append]
      have : (sgnT b).size ≤ 1 := by cases b <;> decide
      omega)
    generalize usT k e s = TU at *
    have h4 := at4_new w (.int .i64 k) (.bool b) (.int .i64 e) (.string s)
    have HA : Hid (At4 (w.alloc (.cells #[.int .i64 k, .bool b, .int .i64 e, .string s] 25)) w.heap.size (.int .i64 k) (.bool b) (.int .i64 e) (.string s) ∧ Below w.heap.size w (w.alloc (.cells #[.int .i64 k, .bool b, .int .i64 e, .string s] 25))) := ⟨h4, (Below.refl _ _).alloc (Nat.le_refl _) _⟩
    clear h4 hO hs hE
    cases b
    all_goals
      first | rw [sgT_f] at HCl ⊢ | rw [sgT_t] at HCl ⊢
      go_enter Tryz.func7, Tryz.ntmps7
      go_wp2_with fail
      refine (HNb.out _).mono ?_
      rintro x w1 ⟨rfl, hb1⟩
      have HA1 : Hid (At4 w1 w.heap.size (.int .i64 k) (.bool _) (.int .i64 e) (.string s) ∧ Below w.heap.size w w1) := ⟨HA.out.1.below hb1 (by simp), HA.out.2.trans (hb1.mono HA.out.2.size)⟩
      have HT1 : Hid (PTab w1) := HT.out.next HA1.out.2
      obtain ⟨a0, a1, a2, a3, a4⟩ := HA1.out.1
      clear hb1 HA HNb HT
      go_wp2_with fail
      refine (HU.out _ HT1.out).mono ?_
      rintro x w2 ⟨rfl, hb2⟩
      clear a0 a1 a2 a3 a4
      go_wp2_with fail
      refine (HCl.out _).mono ?_
      rintro x w3 ⟨rfl, hb3⟩
      go_wp2
      go_ret
      exact ⟨rfl, bel1 (bel1 HA1.out.2 hb2) hb3⟩
end Go.Proofs.YtdkpiofeidcffaaGreatDoor
