/-
  Order of the program: Compare, Total; walked.
-/
import Derived.Test.YtnkoeidolmiheaaDoorOrc
import Derived.Test.YtnkoeidolmiheaaDoorTxt3
import Derived.Test.YtnkoeidolmiheaaDoorIsR2
import Derived.Laws.Tables
namespace Go.Proofs.YtnkoeidolmiheaaDoor
open Go.RowKit
set_option linter.unusedVariables false
set_option maxRecDepth 100000
theorem dw_snoc (c x : UInt8) (l : List UInt8) : (l ++ [x]).dropWhile (· == c) = if l.dropWhile (· == c) = [] then (if x = c then [] else [x]) else l.dropWhile (· == c) ++ [x] := by
  induction l with
  | nil =>
    by_cases h : x = c
    · subst h; simp
    · simp [h]
  | cons y r ih =>
    by_cases h : y = c
    · subst h
      rw [List.cons_append, List.dropWhile_cons_of_pos (by simp), List.dropWhile_cons_of_pos (by simp)]
      exact ih
    · rw [List.cons_append, List.dropWhile_cons_of_neg (by simpa using h), List.dropWhile_cons_of_neg (by simpa using h), if_neg (by simp)]
      rfl
theorem tr_cons (c x : UInt8) (l : List UInt8) : Lib.trimRightB (x :: l) c = if Lib.trimRightB l c = [] ∧ x = c then [] else x :: Lib.trimRightB l c := by
  unfold Lib.trimRightB
  rw [List.reverse_cons, dw_snoc]
  by_cases h : l.reverse.dropWhile (· == c) = []
  · rw [if_pos h, h]
    by_cases hx : x = c
    · rw [if_pos hx, if_pos ⟨rfl, hx⟩]; rfl
    · rw [if_neg hx, if_neg (fun q => hx q.2)]; rfl
  · rw [if_neg h, if_neg (fun q => h (List.reverse_eq_nil_iff.1 q.1))]
    simp
theorem tr_nil (c : UInt8) : Lib.trimRightB [] c = [] := rfl
/-- Of one length, no byte below c: without those at the end that are c, the order is the same. -/
theorem cmp_trim (c : UInt8) (a b : List UInt8) (hl : a.length = b.length) (ha : ∀ x ∈ a, ¬ x < c) (hb : ∀ x ∈ b, ¬ x < c) : Lib.compareBytes (Lib.trimRightB a c) (Lib.trimRightB b c) = Lib.compareBytes a b := by
  induction a generalizing b with
  | nil =>
    cases b with
    | nil => rfl
    | cons y s => cases hl
  | cons x r ih =>
    cases b with
    | nil => cases hl
    | cons y s =>
      have ih' := ih s (by simpa using hl) (fun z hz => ha z (List.mem_cons_of_mem _ hz)) (fun z hz => hb z (List.mem_cons_of_mem _ hz))
      have hx := ha x List.mem_cons_self
      have hy := hb y List.mem_cons_self
      rw [tr_cons, tr_cons]
      show _ = if x < y then (-1 : Int) else if y < x then 1 else Lib.compareBytes r s
      rw [← ih']
      have irr : ¬ c < c := UInt8.lt_irrefl c
      by_cases h1 : Lib.trimRightB r c = [] ∧ x = c
      · rw [if_pos h1]
        obtain ⟨e1, rfl⟩ := h1
        by_cases h2 : Lib.trimRightB s x = [] ∧ y = x
        · rw [if_pos h2]
          obtain ⟨e2, rfl⟩ := h2
          rw [if_neg irr, if_neg irr, e1, e2]
        · rw [if_neg h2]
          by_cases h3 : y = x
          · subst h3
            rw [if_neg irr, if_neg irr, e1]
            cases hs : Lib.trimRightB s y with
            | nil => exact absurd ⟨hs, rfl⟩ h2
            | cons z t => rfl
          · have : x < y := by
              rw [UInt8.lt_iff_toNat_lt] at hy ⊢
              have : y.toNat ≠ x.toNat := fun q => h3 (UInt8.toNat_inj.1 q)
              omega
            rw [if_pos this]; rfl
      · rw [if_neg h1]
        by_cases h2 : Lib.trimRightB s c = [] ∧ y = c
        · rw [if_pos h2]
          obtain ⟨e2, rfl⟩ := h2
          by_cases h3 : x = y
          · subst h3
            rw [if_neg irr, if_neg irr, e2]
            cases hs : Lib.trimRightB r x with
            | nil => exact absurd ⟨hs, rfl⟩ h1
            | cons z t => rfl
          · have : y < x := by
              rw [UInt8.lt_iff_toNat_lt] at hx ⊢
              have : x.toNat ≠ y.toNat := fun q => h3 (UInt8.toNat_inj.1 q)
              omega
            rw [if_neg (fun q => hx q), if_pos this]; rfl
        · rw [if_neg h2]; rfl
theorem tr_more (c : UInt8) (a : List UInt8) (k : Nat) : Lib.trimRightB (a ++ List.replicate k c) c = Lib.trimRightB a c := by
  unfold Lib.trimRightB
  rw [List.reverse_append, List.reverse_replicate]
  congr 1
  induction k with
  | zero => rfl
  | succ k ih => rw [List.replicate_succ, List.cons_append, List.dropWhile_cons_of_pos (by simp)]; exact ih
/-- The bytes of a text of digits. -/
theorem txBytes (ds : List Int) : (tx ds).data.toList = ds.map fun d => UInt8.ofNat (48 + d).toNat := by rw [tx_data]
theorem digByte (d : Int) (h : 0 ≤ d ∧ d ≤ 9) : (UInt8.ofNat (48 + d).toNat).toNat = (48 + d).toNat := by
  rw [UInt8.toNat_ofNat']; omega
/-- As many digits each: the order of the texts is that of the numbers. -/
theorem cmpTx (a b : List Int) (ha : Dec a) (hb : Dec b) (hl : a.length = b.length) : Lib.compareBytes (tx a).data.toList (tx b).data.toList = if vl a < vl b then -1 else if vl a = vl b then 0 else 1 := by
  rw [txBytes, txBytes]
  induction a generalizing b with
  | nil =>
    cases b with
    | nil => rfl
    | cons y s => cases hl
  | cons x r ih =>
    cases b with
    | nil => cases hl
    | cons y s =>
      have hl' : r.length = s.length := by simpa using hl
      have hr : Dec r := fun d hd => ha d (List.mem_cons_of_mem _ hd)
      have hs : Dec s := fun d hd => hb d (List.mem_cons_of_mem _ hd)
      have hx := ha x List.mem_cons_self
      have hy := hb y List.mem_cons_self
      have b1 := vl_bd r hr
      have b2 := vl_bd s hs
      rw [List.map_cons, List.map_cons]
      show (if UInt8.ofNat (48 + x).toNat < UInt8.ofNat (48 + y).toNat then (-1 : Int) else if UInt8.ofNat (48 + y).toNat < UInt8.ofNat (48 + x).toNat then 1 else Lib.compareBytes _ _) = _
      rw [ih s hr hs hl', vl_cons, vl_cons]
      rw [← hl'] at b2 ⊢
      have hp : (0 : Int) < 10 ^ r.length := Int.pow_pos (by decide)
      generalize (10 : Int) ^ r.length = m at *
      generalize vl r = u at *
      generalize vl s = v at *
      have l1 : (UInt8.ofNat (48 + x).toNat < UInt8.ofNat (48 + y).toNat) ↔ x < y := by
        rw [UInt8.lt_iff_toNat_lt, digByte x hx, digByte y hy]; omega
      have l2 : (UInt8.ofNat (48 + y).toNat < UInt8.ofNat (48 + x).toNat) ↔ y < x := by
        rw [UInt8.lt_iff_toNat_lt, digByte x hx, digByte y hy]; omega
      by_cases c1 : x < y
      · rw [if_pos (l1.2 c1)]
        have : m * (x + 1) ≤ m * y := Int.mul_le_mul_of_nonneg_left (by omega) (by omega)
        rw [Int.mul_add] at this
        rw [if_pos (by omega)]
      · rw [if_neg fun h => c1 (l1.1 h)]
        by_cases c2 : y < x
        · rw [if_pos (l2.2 c2)]
          have : m * (y + 1) ≤ m * x := Int.mul_le_mul_of_nonneg_left (by omega) (by omega)
          rw [Int.mul_add] at this
          rw [if_neg (by omega), if_neg (by omega)]
        · rw [if_neg fun h => c2 (l2.1 h)]
          obtain rfl : x = y := by omega
          simp only [show (u + m * x < v + m * x) = (u < v) from propext ⟨fun h => by omega, fun h => by omega⟩, show (u + m * x = v + m * x) = (u = v) from propext ⟨fun h => by omega, fun h => by omega⟩]

theorem digs_ge (ds : List Int) (h : Dec ds) : ∀ x ∈ (tx ds).data.toList, ¬ x < 48 := by
  rw [txBytes]
  intro x hx
  obtain ⟨d, hd, rfl⟩ := List.mem_map.1 hx
  rw [UInt8.lt_iff_toNat_lt, digByte d (h d hd)]
  have := h d hd
  show ¬ _ < 48
  omega
theorem dec_zeros (ds : List Int) (h : Dec ds) (k : Nat) : Dec (ds ++ List.replicate k 0) := fun d hd => by
  rcases List.mem_append.1 hd with q | q
  · exact h d q
  · have := (List.mem_replicate.1 q).2; omega
/-- As many digits each with noughts behind: the order of the texts without noughts is that of the numbers. -/
theorem cmp_trS (da db : List Int) (ha : Dec da) (hb : Dec db) (i j : Nat) (hl : da.length + i = db.length + j) : Lib.compareBytes (trS (tx da)).data.toList (trS (tx db)).data.toList = cI (vl da * 10 ^ i) (vl db * 10 ^ j) := by
  have e : ∀ (d : List Int) (k : Nat), (trS (tx d)).data.toList = Lib.trimRightB (tx (d ++ List.replicate k 0)).data.toList 48 := fun d k => by
    have q : (tx (d ++ List.replicate k 0)).data.toList = (tx d).data.toList ++ List.replicate k 48 := by
      rw [txBytes, txBytes, List.map_append, List.map_replicate]; rfl
    rw [q, tr_more]
    unfold trS
    simp
  rw [e da i, e db j, cmp_trim 48 _ _ (by rw [txBytes, txBytes]; simpa using hl) (digs_ge _ (dec_zeros da ha i)) (digs_ge _ (dec_zeros db hb j)), cmpTx _ _ (dec_zeros da ha i) (dec_zeros db hb j) (by simpa using hl), vl_noughts, vl_noughts]
  unfold cI
  generalize vl da * 10 ^ i = u
  generalize vl db * 10 ^ j = v
  by_cases h1 : u < v
  · rw [if_pos h1, if_pos h1]
  · rw [if_neg h1, if_neg h1]
    by_cases h2 : v < u
    · rw [if_pos h2, if_neg (by omega)]
    · rw [if_neg h2, if_pos (by omega)]
end Go.Proofs.YtnkoeidolmiheaaDoor
namespace Go.Proofs.YtnkoeidolmiheaaDoor
open Go.RowKit
set_option linter.unusedVariables false
set_option maxRecDepth 100000
theorem numB_bd (f k : Int) (b : Bool) (e : Int) (s : ByteArray) (h : numB f k b e s = true) : (f = 64 ∨ f = 128) ∧ (1 ≤ k ∧ k ≤ 4) ∧ s.size ≤ 34 ∧ (-6176 ≤ e ∧ e ≤ 6111) ∧ (k ≠ 1 → e = 0 ∧ s.size = 0) ∧ (k = 3 ∨ k = 4 → b = false) := by
  unfold numB at h
  by_cases hp : limP f = 0
  · rw [if_pos hp] at h; cases h
  rw [if_neg hp] at h
  have hf : f = 64 ∨ f = 128 := by
    unfold limP at hp
    by_cases h1 : f = 64
    · exact .inl h1
    · rw [if_neg h1] at hp
      by_cases h2 : f = 128
      · exact .inr h2
      · rw [if_neg h2] at hp; exact absurd rfl hp
  have hl : limP f ≤ 34 ∧ -6176 ≤ limL f ∧ limH f ≤ 6111 := by rcases hf with rfl | rfl <;> decide
  have hem : s.toList.isEmpty = true → s.size = 0 := fun hE => by
    have e : s.toList.length = s.size := by rw [ByteArray.toList_eq, Array.length_toList]; rfl
    rw [List.isEmpty_iff.1 hE] at e
    exact e.symm
  by_cases h1 : k = 1
  · rw [if_pos h1] at h
    unfold natB at h
    simp only [Bool.and_eq_true, decide_eq_true_eq] at h
    have h2 := h.1.1.1.2
    exact ⟨hf, by omega, by omega, by omega, fun q => absurd h1 q, fun q => by omega⟩
  · rw [if_neg h1] at h
    by_cases h2 : k = 2
    · rw [if_pos h2] at h
      simp only [Bool.and_eq_true, decide_eq_true_eq] at h
      have h3 := hem h.2
      exact ⟨hf, by omega, by omega, by omega, fun _ => ⟨h.1, h3⟩, fun q => by omega⟩
    · rw [if_neg h2] at h
      by_cases h3 : k = 3 ∨ k = 4
      · rw [if_pos h3] at h
        simp only [Bool.and_eq_true, decide_eq_true_eq, Bool.not_eq_true'] at h
        have h4 := hem h.2.1
        exact ⟨hf, by omega, by omega, by omega, fun _ => ⟨h.1, h4⟩, fun _ => h.2.2⟩
      · rw [if_neg h3] at h; cases h
theorem oNan_any (k : Int) (b : Bool) (e : Int) (s : ByteArray) (w : World) : Calls Tryd.prog 28 #[numV k b e s] w fun x w' => x = .returned (.bool ((k == 3) || (k == 4))) ∧ Below w.heap.size w w' := by
  cases h1 : (k == 3) with
  | true =>
    go_enter Tryd.func28, Tryd.ntmps28
    go_wp2
    go_ret
    exact ⟨rfl, (Below.refl _ _).alloc (Nat.le_refl _) _⟩
  | false =>
    go_enter Tryd.func28, Tryd.ntmps28
    go_wp2
    go_ret
    exact ⟨rfl, (Below.refl _ _).alloc (Nat.le_refl _) _⟩
theorem oRight_any (f : Int) (ka : Int) (na : Bool) (ea : Int) (sa : ByteArray) (kb : Int) (nb : Bool) (eb : Int) (sb : ByteArray) (w : World) (hsa : sa.size ≤ 4611686018427387904) (hsb : sb.size ≤ 4611686018427387904) :
    Calls Tryd.prog 27 #[.int .i64 f, numV ka na ea sa, numV kb nb eb sb] w fun x w' => x = .returned (.bool (numB f ka na ea sa && numB f kb nb eb sb)) ∧ Below w.heap.size w w' := by
  have HA : Hid (∀ X, Calls Tryd.prog 8 #[.int .i64 f, numV ka na ea sa] X fun x w' => x = .returned (.bool (numB f ka na ea sa)) ∧ Below X.heap.size X w') := fun X => iNumOk_any f ka na ea sa X hsa
  have HB : Hid (∀ X, Calls Tryd.prog 8 #[.int .i64 f, numV kb nb eb sb] X fun x w' => x = .returned (.bool (numB f kb nb eb sb)) ∧ Below X.heap.size X w') := fun X => iNumOk_any f kb nb eb sb X hsb
  obtain ⟨hN0, hb0, -⟩ := n2o_new w ka na ea sa kb nb eb sb
  have HN : Hid (N2o w.heap.size ka na ea sa kb nb eb sb ((w.alloc (.cells #[.int .i64 ka, .bool na, .int .i64 ea, .string sa] 25)).alloc (.cells #[.int .i64 kb, .bool nb, .int .i64 eb, .string sb] 25)) ∧ Below w.heap.size w ((w.alloc (.cells #[.int .i64 ka, .bool na, .int .i64 ea, .string sa] 25)).alloc (.cells #[.int .i64 kb, .bool nb, .int .i64 eb, .string sb] 25))) := ⟨hN0, hb0⟩
  clear hN0 hb0 hsa hsb
  generalize numB f ka na ea sa = RA at *
  generalize numB f kb nb eb sb = RB at *
  cases RA with
  | false =>
    go_enter Tryd.func27, Tryd.ntmps27
    go_wp2_with fail
    refine (HA.out _).mono ?_
    rintro x w1 ⟨rfl, hb1⟩
    have HB1 := HN.out.2.trans (hb1.mono HN.out.2.size)
    clear hb1 HN HA HB
    go_wp2
    go_ret
    exact ⟨rfl, HB1⟩
  | true =>
    go_enter Tryd.func27, Tryd.ntmps27
    go_wp2_with fail
    refine (HA.out _).mono ?_
    rintro x w1 ⟨rfl, hb1⟩
    have HN1 : Hid (N2o w.heap.size ka na ea sa kb nb eb sb w1 ∧ Below w.heap.size w w1) := ⟨HN.out.1.next hb1, HN.out.2.trans (hb1.mono HN.out.2.size)⟩
    clear hb1 HN HA
    obtain ⟨d0, d1, d2, d3, d4⟩ := HN1.out.1.2.cells
    go_wp2_with fail
    refine (HB.out _).mono ?_
    rintro x w2 ⟨rfl, hb2⟩
    have HB2 := HN1.out.2.trans (hb2.mono HN1.out.2.size)
    clear hb2 HN1 HB d0 d1 d2 d3 d4
    go_wp2
    go_ret
    exact ⟨rfl, HB2⟩
/-- Have both one quantum? -/
def sameR (f : Int) (ka : Int) (na : Bool) (ea : Int) (sa : ByteArray) (kb : Int) (nb : Bool) (eb : Int) (sb : ByteArray) : Bool :=
  (numB f ka na ea sa && numB f kb nb eb sb) && ((ea == eb) && ((ka == kb) || (((ka == 3) || (ka == 4)) && ((kb == 3) || (kb == 4)))))
end Go.Proofs.YtnkoeidolmiheaaDoor
namespace Go.Proofs.YtnkoeidolmiheaaDoor
open Go.RowKit
set_option linter.unusedVariables false
set_option maxRecDepth 100000
theorem cI_turn (x y : Int) : cI y x = -cI x y := by
  unfold cI
  by_cases h1 : x < y
  · rw [if_pos h1, if_neg (by omega), if_pos h1]; rfl
  · rw [if_neg h1]
    by_cases h2 : y < x
    · rw [if_pos h2, if_neg h1, if_pos h2]
    · rw [if_neg h2, if_neg h1, if_neg h2]; rfl
theorem orI_turn (x y x' y' : Int) (hx : x' = -x) (hy : y' = -y) : orI x' y' = -orI x y := by
  unfold orI
  subst hx hy
  by_cases h : x = 0
  · rw [if_pos h, if_pos (by omega)]
  · rw [if_neg h, if_neg (by omega)]
theorem cmpB_turn (a b : List UInt8) : Lib.compareBytes b a = -Lib.compareBytes a b := by
  induction a generalizing b with
  | nil => cases b <;> rfl
  | cons x r ih =>
    cases b with
    | nil => rfl
    | cons y s =>
      show (if y < x then (-1 : Int) else if x < y then 1 else Lib.compareBytes s r) = -(if x < y then (-1 : Int) else if y < x then 1 else Lib.compareBytes r s)
      by_cases h1 : x < y
      · have h2 : ¬ y < x := by rw [UInt8.lt_iff_toNat_lt] at h1 ⊢; omega
        rw [if_neg h2, if_pos h1, if_pos h1]; rfl
      · rw [if_neg h1, if_neg h1]
        by_cases h2 : y < x
        · rw [if_pos h2, if_pos h2]
        · rw [if_neg h2, if_neg h2]; exact ih s
theorem cszI_turn (ka ea : Int) (sa : ByteArray) (kb eb : Int) (sb : ByteArray) : cszI kb eb sb ka ea sa = -cszI ka ea sa kb eb sb := orI_turn _ _ _ _ (cI_turn _ _) (cmpB_turn _ _)
theorem cmpU_turn (x : Bool) (ka ea : Int) (sa : ByteArray) (kb eb : Int) (sb : ByteArray) : cmpU x kb eb sb ka ea sa = -cmpU x ka ea sa kb eb sb := by
  unfold cmpU
  cases x
  · exact orI_turn _ _ _ _ (cI_turn _ _) (cszI_turn _ _ _ _ _ _)
  · exact orI_turn _ _ _ _ (orI_turn _ _ _ _ (cI_turn _ _) (cszI_turn _ _ _ _ _ _)) (cI_turn _ _)
theorem nou_spec (k : Int) (s : ByteArray) (h : nouB k s = true) : k = 1 ∧ s = { data := #[48] } := by
  unfold nouB at h
  simp only [Bool.and_eq_true, beq_iff_eq] at h
  refine ⟨h.1, ?_⟩
  have h2 := h.2
  rw [ByteArray.toList_eq] at h2
  apply ByteArray.ext
  show s.data = #[48]
  rw [← Array.toArray_toList (xs := s.data), h2]
theorem trS_0 : (trS { data := #[48] }).data.toList = [] := by
  show Lib.trimRightB [48] 48 = []
  rfl
theorem trS_e : (trS { data := #[] }).data.toList = [] := rfl
theorem fpl_yes (k e : Int) (s : ByteArray) (h : nouB k s = true) : fpl k e s = -9223372036854775808 := by unfold fpl; rw [h]; rfl
theorem fpl_no (k e : Int) (s : ByteArray) (h : nouB k s = false) : fpl k e s = e + s.size := by unfold fpl; rw [h]; rfl
theorem cI_lt (x y : Int) (h : x < y) : cI x y = -1 := if_pos h
theorem cI_gt (x y : Int) (h : y < x) : cI x y = 1 := by unfold cI; rw [if_neg (by omega), if_pos h]
theorem cI_same (x : Int) : cI x x = 0 := by unfold cI; rw [if_neg (by omega), if_neg (by omega)]
/-- A nought is less than what is none, without signs. -/
theorem nou_less (f : Int) (ka : Int) (na : Bool) (ea : Int) (sa : ByteArray) (kb : Int) (nb : Bool) (eb : Int) (sb : ByteArray) (hb : numB f kb nb eb sb = true) (hk : kb = 1 ∨ kb = 2) (h1 : nouB ka sa = true) (h2 : nouB kb sb = false) : cmpU false ka ea sa kb eb sb = -1 := by
  obtain ⟨rfl, rfl⟩ := nou_spec ka sa h1
  unfold cmpU
  rw [if_neg (by decide)]
  rcases hk with rfl | rfl
  · obtain ⟨-, -, hs, he, -, -⟩ := numB_bd f 1 nb eb sb hb
    rw [show cI (kpl 1) (kpl 1) = 0 from rfl]
    show cszI _ _ _ _ _ _ = -1
    unfold cszI
    rw [fpl_yes _ _ _ h1, fpl_no _ _ _ h2, cI_lt _ _ (by omega)]; rfl
  · rfl
/-- Two noughts are of one size. -/
theorem nou_two (ka ea : Int) (sa : ByteArray) (kb eb : Int) (sb : ByteArray) (h1 : nouB ka sa = true) (h2 : nouB kb sb = true) : cszI ka ea sa kb eb sb = 0 := by
  unfold cszI
  rw [fpl_yes _ _ _ h1, fpl_yes _ _ _ h2]
  obtain ⟨rfl, rfl⟩ := nou_spec ka sa h1
  obtain ⟨rfl, rfl⟩ := nou_spec kb sb h2
  rw [cI_same, trS_0]; rfl
/-- What has no digits is of one size. -/
theorem size_0 (s : ByteArray) (h : s.size = 0) : s = { data := #[] } := by
  apply ByteArray.ext
  show s.data = #[]
  exact Array.eq_empty_of_size_eq_zero h
theorem oth_two (f : Int) (ka : Int) (na : Bool) (ea : Int) (sa : ByteArray) (kb : Int) (nb : Bool) (eb : Int) (sb : ByteArray) (ha : numB f ka na ea sa = true) (hb : numB f kb nb eb sb = true) (h1 : ka ≠ 1) (h2 : kb ≠ 1) : cszI ka ea sa kb eb sb = 0 ∧ ea = 0 ∧ eb = 0 := by
  obtain ⟨-, -, -, -, a4, -⟩ := numB_bd f ka na ea sa ha
  obtain ⟨-, -, -, -, b4, -⟩ := numB_bd f kb nb eb sb hb
  obtain ⟨rfl, sz⟩ := a4 h1
  obtain ⟨rfl, sz'⟩ := b4 h2
  obtain rfl := size_0 sa sz
  obtain rfl := size_0 sb sz'
  have n1 : ∀ k : Int, nouB k { data := #[] } = false := fun k => by unfold nouB; rw [show (({ data := #[] } : ByteArray).toList == [48]) = false by rw [ByteArray.toList_eq]; rfl, Bool.and_false]
  refine ⟨?_, rfl, rfl⟩
  unfold cszI
  rw [fpl_no _ _ _ (n1 _), fpl_no _ _ _ (n1 _), cI_same, trS_e]; rfl
theorem right_nat (f : Int) (b : Bool) (e : Int) (s : ByteArray) (h : numB f 1 b e s = true) : ∃ d, Canon d ∧ s = tx d := by
  unfold numB at h
  by_cases h0 : limP f = 0
  · rw [if_pos h0] at h; cases h
  rw [if_neg h0, if_pos rfl] at h
  simp only [Bool.and_eq_true, decide_eq_true_eq] at h
  obtain ⟨hc, -, he⟩ := natB_dl (limP f) s h.1
  exact ⟨dl s, hc, he⟩
/-- The model's sign. -/
def mSg (k : Int) (n : Bool) (s : ByteArray) : Int := if nouB k s then 0 else if n then -1 else 1
/-- What the model's comparison tells. -/
def mcV (ka : Int) (na : Bool) (ea : Int) (sa : ByteArray) (kb : Int) (nb : Bool) (eb : Int) (sb : ByteArray) : Int := if nouB ka sa && nouB kb sb then 0 else cmpR false ka na ea sa kb nb eb sb
theorem mc_less (f : Int) (ka : Int) (na : Bool) (ea : Int) (sa : ByteArray) (kb : Int) (nb : Bool) (eb : Int) (sb : ByteArray) (ha : numB f ka na ea sa = true) (hb : numB f kb nb eb sb = true) (h1 : ka = 1 ∨ ka = 2) (h2 : kb = 1 ∨ kb = 2) (h : mSg ka na sa < mSg kb nb sb) : mcV ka na ea sa kb nb eb sb = -1 := by
  unfold mcV
  unfold mSg at h
  cases za : nouB ka sa <;> cases zb : nouB kb sb <;> rw [za, zb] at h
  · cases na <;> cases nb <;> first | rfl | (exfalso; simp at h)
  · cases na
    · exfalso; first | (simp at h; done) | (split at h <;> simp at h)
    · cases nb
      · rfl
      · show cmpU false kb eb sb ka ea sa = -1
        exact nou_less f kb true eb sb ka true ea sa ha h1 zb za
  · cases nb
    · cases na
      · show cmpU false ka ea sa kb eb sb = -1
        exact nou_less f ka true ea sa kb false eb sb hb h2 za zb
      · rfl
    · exfalso; first | (simp at h; done) | (split at h <;> simp at h)
  · exfalso; first | (simp at h; done) | (split at h <;> simp at h)
theorem mc_more (f : Int) (ka : Int) (na : Bool) (ea : Int) (sa : ByteArray) (kb : Int) (nb : Bool) (eb : Int) (sb : ByteArray) (ha : numB f ka na ea sa = true) (hb : numB f kb nb eb sb = true) (h1 : ka = 1 ∨ ka = 2) (h2 : kb = 1 ∨ kb = 2) (h : mSg kb nb sb < mSg ka na sa) : mcV ka na ea sa kb nb eb sb = 1 := by
  unfold mcV
  unfold mSg at h
  cases za : nouB ka sa <;> cases zb : nouB kb sb <;> rw [za, zb] at h
  · cases na <;> cases nb <;> first | rfl | (exfalso; simp at h)
  · cases na
    · cases nb
      · show cmpU false ka ea sa kb eb sb = 1
        rw [cmpU_turn false kb eb sb ka ea sa, nou_less f kb true eb sb ka false ea sa ha h1 zb za]; rfl
      · rfl
    · exfalso; first | (simp at h; done) | (split at h <;> simp at h)
  · cases nb
    · exfalso; first | (simp at h; done) | (split at h <;> simp at h)
    · cases na
      · rfl
      · show cmpU false kb eb sb ka ea sa = 1
        rw [cmpU_turn false ka ea sa kb eb sb, nou_less f ka true ea sa kb true eb sb hb h2 za zb]; rfl
  · exfalso; first | (simp at h; done) | (split at h <;> simp at h)
theorem mc_none (ka : Int) (na : Bool) (ea : Int) (sa : ByteArray) (kb : Int) (nb : Bool) (eb : Int) (sb : ByteArray) (h : mSg ka na sa = mSg kb nb sb) (h0 : mSg ka na sa = 0) : mcV ka na ea sa kb nb eb sb = 0 := by
  have q : ∀ (k : Int) (n : Bool) (s : ByteArray), mSg k n s = 0 → nouB k s = true := fun k n s e => by
    unfold mSg at e
    cases z : nouB k s
    · rw [z] at e; cases n <;> (revert e; decide)
    · rfl
  unfold mcV
  rw [q _ _ _ h0, q _ _ _ (h ▸ h0)]; rfl
/-- Both of one sign, none a nought. -/
theorem mc_sign (ka : Int) (na : Bool) (ea : Int) (sa : ByteArray) (kb : Int) (nb : Bool) (eb : Int) (sb : ByteArray) (h : mSg ka na sa = mSg kb nb sb) (h0 : mSg ka na sa ≠ 0) : mcV ka na ea sa kb nb eb sb = mSg ka na sa * cmpU false ka ea sa kb eb sb ∧ nouB ka sa = false ∧ nouB kb sb = false ∧ (mSg ka na sa = 1 ∨ mSg ka na sa = -1) := by
  unfold mSg at h h0
  unfold mcV mSg
  cases za : nouB ka sa
  · cases zb : nouB kb sb
    · rw [za, zb] at h
      cases na <;> cases nb
      · exact ⟨by show cmpU false ka ea sa kb eb sb = 1 * cmpU false ka ea sa kb eb sb; rw [Int.one_mul], rfl, rfl, .inl rfl⟩
      · exfalso; first | (simp at h; done) | (split at h <;> simp at h)
      · exfalso; first | (simp at h; done) | (split at h <;> simp at h)
      · exact ⟨by show cmpU false kb eb sb ka ea sa = -1 * cmpU false ka ea sa kb eb sb; rw [cmpU_turn false ka ea sa kb eb sb, Int.neg_one_mul], rfl, rfl, .inr rfl⟩
    · rw [za, zb] at h
      cases na <;> (exfalso; simp at h)
  · rw [za] at h0; exact absurd rfl h0
/-- Of one sign, none a nought: by kinds and sizes. -/
theorem cu_inf2 (f : Int) (na : Bool) (ea : Int) (sa : ByteArray) (nb : Bool) (eb : Int) (sb : ByteArray) (ha : numB f 2 na ea sa = true) (hb : numB f 2 nb eb sb = true) : cmpU false 2 ea sa 2 eb sb = 0 := by
  unfold cmpU
  rw [if_neg (by decide), (oth_two f 2 na ea sa 2 nb eb sb ha hb (by decide) (by decide)).1]; rfl
theorem cu_infa (ea : Int) (sa : ByteArray) (eb : Int) (sb : ByteArray) : cmpU false 2 ea sa 1 eb sb = 1 := rfl
theorem cu_infb (ea : Int) (sa : ByteArray) (eb : Int) (sb : ByteArray) : cmpU false 1 ea sa 2 eb sb = -1 := rfl
theorem cu_fin (ea : Int) (sa : ByteArray) (eb : Int) (sb : ByteArray) (h1 : nouB 1 sa = false) (h2 : nouB 1 sb = false) : cmpU false 1 ea sa 1 eb sb = orI (cI (ea + sa.size) (eb + sb.size)) (Lib.compareBytes (trS sa).data.toList (trS sb).data.toList) := by
  unfold cmpU
  rw [if_neg (by decide), show cI (kpl 1) (kpl 1) = 0 from rfl]
  show cszI _ _ _ _ _ _ = _
  unfold cszI
  rw [fpl_no _ _ _ h1, fpl_no _ _ _ h2]
end Go.Proofs.YtnkoeidolmiheaaDoor
namespace Go.Proofs.YtnkoeidolmiheaaDoor
open Go.RowKit
set_option linter.unusedVariables false
set_option maxRecDepth 100000
/-- What Compare and Total tell. -/
def cpR (f : Int) (ka : Int) (na : Bool) (ea : Int) (sa : ByteArray) (kb : Int) (nb : Bool) (eb : Int) (sb : ByteArray) : Int :=
  if numB f ka na ea sa && numB f kb nb eb sb then (if ((ka == 3) || (ka == 4)) || ((kb == 3) || (kb == 4)) then 2 else if nouB ka sa && nouB kb sb then 0 else cmpR false ka na ea sa kb nb eb sb) else 3
def ttR (f : Int) (ka : Int) (na : Bool) (ea : Int) (sa : ByteArray) (kb : Int) (nb : Bool) (eb : Int) (sb : ByteArray) : Int :=
  if numB f ka na ea sa && numB f kb nb eb sb then cmpR true ka na ea sa kb nb eb sb else 3
theorem oCompare_right (x : Bool) (f : Int) (ka : Int) (na : Bool) (ea : Int) (sa : ByteArray) (kb : Int) (nb : Bool) (eb : Int) (sb : ByteArray) (w : World) (hA : numB f ka na ea sa = true) (hB : numB f kb nb eb sb = true) (hT : KTab w) :
    Calls Tryd.prog 29 #[.agg #[.bool x], numV ka na ea sa, numV kb nb eb sb] w fun r w' => r = .returned (.int .i64 (cmpR x ka na ea sa kb nb eb sb)) ∧ Below w.heap.size w w' := by
  obtain ⟨-, a1, a2, a3, -, -⟩ := numB_bd f ka na ea sa hA
  obtain ⟨-, b1, b2, b3, -, -⟩ := numB_bd f kb nb eb sb hB
  obtain ⟨ka', rfl⟩ : ∃ k : Nat, ka = (k : Int) := ⟨ka.toNat, by omega⟩
  obtain ⟨kb', rfl⟩ : ∃ k : Nat, kb = (k : Int) := ⟨kb.toNat, by omega⟩
  exact oCompare_any x ka' na ea sa kb' nb eb sb w (by omega) (by omega) (by omega) (by omega) (by omega) (by omega) hT
theorem build_ord (x : Bool) (w : World) : (Instr.build 55 #[(0, .bool x)]).run Tryd.prog w = .ok (.agg #[.bool x]) w := run_build w _ _ _ (by kernel_rfl)
theorem build_ord0 (w : World) : (Instr.build 55 #[]).run Tryd.prog w = .ok (.agg #[.bool false]) w := run_build w _ _ _ (by kernel_rfl)
theorem iTotal_any (f : Int) (ka : Int) (na : Bool) (ea : Int) (sa : ByteArray) (kb : Int) (nb : Bool) (eb : Int) (sb : ByteArray) (w : World) (hsa : sa.size ≤ 4611686018427387904) (hsb : sb.size ≤ 4611686018427387904) (hT : KTab w) :
    Calls Tryd.prog 10 #[.int .i64 f, numV ka na ea sa, numV kb nb eb sb] w fun r w' => r = .returned (.int .i64 (ttR f ka na ea sa kb nb eb sb)) ∧ Below w.heap.size w w' := by
  have HR : Hid (∀ X, Calls Tryd.prog 27 #[.int .i64 f, numV ka na ea sa, numV kb nb eb sb] X fun x w' => x = .returned (.bool (numB f ka na ea sa && numB f kb nb eb sb)) ∧ Below X.heap.size X w') := fun X => oRight_any f ka na ea sa kb nb eb sb X hsa hsb
  obtain ⟨hN0, hb0, -⟩ := n2o_new w ka na ea sa kb nb eb sb
  have HN : Hid (N2o w.heap.size ka na ea sa kb nb eb sb ((w.alloc (.cells #[.int .i64 ka, .bool na, .int .i64 ea, .string sa] 25)).alloc (.cells #[.int .i64 kb, .bool nb, .int .i64 eb, .string sb] 25)) ∧ Below w.heap.size w ((w.alloc (.cells #[.int .i64 ka, .bool na, .int .i64 ea, .string sa] 25)).alloc (.cells #[.int .i64 kb, .bool nb, .int .i64 eb, .string sb] 25))) := ⟨hN0, hb0⟩
  have HT : Hid (KTab w) := hT
  clear hN0 hb0 hsa hsb hT
  cases hR : (numB f ka na ea sa && numB f kb nb eb sb) with
  | false =>
    have E : Hid (ttR f ka na ea sa kb nb eb sb = 3) := by show _ = _; unfold ttR; rw [hR]; rfl
    rw [E.out]
    rw [hR] at HR
    clear hR HT E
    go_enter Tryd.func10, Tryd.ntmps10
    go_wp2_with fail
    refine (HR.out _).mono ?_
    rintro x w1 ⟨rfl, hb1⟩
    have HB1 := HN.out.2.trans (hb1.mono HN.out.2.size)
    clear hb1 HN HR
    go_wp2
    go_ret
    exact ⟨rfl, HB1⟩
  | true =>
    have E : Hid (ttR f ka na ea sa kb nb eb sb = cmpR true ka na ea sa kb nb eb sb) := by show _ = _; unfold ttR; rw [hR]; rfl
    have hh := Bool.and_eq_true_iff.1 hR
    have HC : Hid (∀ X, KTab X → Calls Tryd.prog 29 #[.agg #[.bool true], numV ka na ea sa, numV kb nb eb sb] X fun r w' => r = .returned (.int .i64 (cmpR true ka na ea sa kb nb eb sb)) ∧ Below X.heap.size X w') := fun X h => oCompare_right true f ka na ea sa kb nb eb sb X hh.1 hh.2 h
    rw [E.out]
    rw [hR] at HR
    clear hR hh E
    generalize cmpR true ka na ea sa kb nb eb sb = C at *
    have hbo := build_ord true
    go_enter Tryd.func10, Tryd.ntmps10
    go_wp2_with fail
    refine (HR.out _).mono ?_
    rintro x w1 ⟨rfl, hb1⟩
    have HN1 : Hid (N2o w.heap.size ka na ea sa kb nb eb sb w1 ∧ Below w.heap.size w w1) := ⟨HN.out.1.next hb1, HN.out.2.trans (hb1.mono HN.out.2.size)⟩
    clear hb1 HN HR
    obtain ⟨c0, c1, c2, c3, c4⟩ := HN1.out.1.1.cells
    obtain ⟨d0, d1, d2, d3, d4⟩ := HN1.out.1.2.cells
    go_wp2_with fail
    refine (HC.out _ (HT.out.next HN1.out.2)).mono ?_
    rintro x w2 ⟨rfl, hb2⟩
    have HB2 := HN1.out.2.trans (hb2.mono HN1.out.2.size)
    clear hb2 HN1 HC HT c0 c1 c2 c3 c4 d0 d1 d2 d3 d4
    go_wp2
    go_ret
    exact ⟨rfl, HB2⟩
set_option maxHeartbeats 1000000 in
theorem iCompare_any (f : Int) (ka : Int) (na : Bool) (ea : Int) (sa : ByteArray) (kb : Int) (nb : Bool) (eb : Int) (sb : ByteArray) (w : World) (hsa : sa.size ≤ 4611686018427387904) (hsb : sb.size ≤ 4611686018427387904) (hT : KTab w) :
    Calls Tryd.prog 9 #[.int .i64 f, numV ka na ea sa, numV kb nb eb sb] w fun r w' => r = .returned (.int .i64 (cpR f ka na ea sa kb nb eb sb)) ∧ Below w.heap.size w w' := by
  have HR : Hid (∀ X, Calls Tryd.prog 27 #[.int .i64 f, numV ka na ea sa, numV kb nb eb sb] X fun x w' => x = .returned (.bool (numB f ka na ea sa && numB f kb nb eb sb)) ∧ Below X.heap.size X w') := fun X => oRight_any f ka na ea sa kb nb eb sb X hsa hsb
  have HA : Hid (∀ X, Calls Tryd.prog 28 #[numV ka na ea sa] X fun x w' => x = .returned (.bool ((ka == 3) || (ka == 4))) ∧ Below X.heap.size X w') := fun X => oNan_any ka na ea sa X
  have HB : Hid (∀ X, Calls Tryd.prog 28 #[numV kb nb eb sb] X fun x w' => x = .returned (.bool ((kb == 3) || (kb == 4))) ∧ Below X.heap.size X w') := fun X => oNan_any kb nb eb sb X
  have HOa : Hid (∀ X, Calls Tryd.prog 17 #[numV ka na ea sa] X fun x w' => x = .returned (.bool (nouB ka sa)) ∧ Below X.heap.size X w') := fun X => oNought_any ka na ea sa X
  have HOb : Hid (∀ X, Calls Tryd.prog 17 #[numV kb nb eb sb] X fun x w' => x = .returned (.bool (nouB kb sb)) ∧ Below X.heap.size X w') := fun X => oNought_any kb nb eb sb X
  obtain ⟨hN0, hb0, -⟩ := n2o_new w ka na ea sa kb nb eb sb
  have HN : Hid (N2o w.heap.size ka na ea sa kb nb eb sb ((w.alloc (.cells #[.int .i64 ka, .bool na, .int .i64 ea, .string sa] 25)).alloc (.cells #[.int .i64 kb, .bool nb, .int .i64 eb, .string sb] 25)) ∧ Below w.heap.size w ((w.alloc (.cells #[.int .i64 ka, .bool na, .int .i64 ea, .string sa] 25)).alloc (.cells #[.int .i64 kb, .bool nb, .int .i64 eb, .string sb] 25))) := ⟨hN0, hb0⟩
  have HT : Hid (KTab w) := hT
  clear hN0 hb0 hsa hsb hT
  have HC : Hid ((numB f ka na ea sa && numB f kb nb eb sb) = true → ∀ X, KTab X → Calls Tryd.prog 29 #[.agg #[.bool false], numV ka na ea sa, numV kb nb eb sb] X fun r w' => r = .returned (.int .i64 (cmpR false ka na ea sa kb nb eb sb)) ∧ Below X.heap.size X w') := fun hR X h => oCompare_right false f ka na ea sa kb nb eb sb X (Bool.and_eq_true_iff.1 hR).1 (Bool.and_eq_true_iff.1 hR).2 h
  obtain ⟨RV, hRV⟩ : ∃ v, cpR f ka na ea sa kb nb eb sb = v := ⟨_, rfl⟩
  have HE : Hid ((if numB f ka na ea sa && numB f kb nb eb sb then (if ((ka == 3) || (ka == 4)) || ((kb == 3) || (kb == 4)) then 2 else if nouB ka sa && nouB kb sb then 0 else cmpR false ka na ea sa kb nb eb sb) else 3) = RV) := hRV
  rw [hRV]
  clear hRV
  generalize cmpR false ka na ea sa kb nb eb sb = C at *
  generalize (numB f ka na ea sa && numB f kb nb eb sb) = R at *
  generalize ((ka == 3) || (ka == 4)) = NA at *
  generalize ((kb == 3) || (kb == 4)) = NB at *
  generalize nouB ka sa = ZA at *
  generalize nouB kb sb = ZB at *
  have hbo := build_ord0
  cases R with
  | false =>
    go_enter Tryd.func9, Tryd.ntmps9
    go_wp2_with fail
    refine (HR.out _).mono ?_
    rintro x w1 ⟨rfl, hb1⟩
    have HN1 : Hid (N2o w.heap.size ka na ea sa kb nb eb sb w1 ∧ Below w.heap.size w w1) := ⟨HN.out.1.next hb1, HN.out.2.trans (hb1.mono HN.out.2.size)⟩
    clear hb1 HN
    try clear c0 c1 c2 c3 c4 d0 d1 d2 d3 d4
    obtain ⟨c0, c1, c2, c3, c4⟩ := HN1.out.1.1.cells
    obtain ⟨d0, d1, d2, d3, d4⟩ := HN1.out.1.2.cells
    go_wp2
    go_ret
    exact ⟨by rw [← HE.out]; rfl, HN1.out.2⟩
  | true =>
    cases NA with
    | true =>
      go_enter Tryd.func9, Tryd.ntmps9
      go_wp2_with fail
      refine (HR.out _).mono ?_
      rintro x w1 ⟨rfl, hb1⟩
      have HN1 : Hid (N2o w.heap.size ka na ea sa kb nb eb sb w1 ∧ Below w.heap.size w w1) := ⟨HN.out.1.next hb1, HN.out.2.trans (hb1.mono HN.out.2.size)⟩
      clear hb1 HN
      try clear c0 c1 c2 c3 c4 d0 d1 d2 d3 d4
      obtain ⟨c0, c1, c2, c3, c4⟩ := HN1.out.1.1.cells
      obtain ⟨d0, d1, d2, d3, d4⟩ := HN1.out.1.2.cells
      go_wp2_with fail
      refine (HA.out _).mono ?_
      rintro x w2 ⟨rfl, hb2⟩
      have HN2 : Hid (N2o w.heap.size ka na ea sa kb nb eb sb w2 ∧ Below w.heap.size w w2) := ⟨HN1.out.1.next hb2, HN1.out.2.trans (hb2.mono HN1.out.2.size)⟩
      clear hb2 HN1
      try clear c0 c1 c2 c3 c4 d0 d1 d2 d3 d4
      obtain ⟨c0, c1, c2, c3, c4⟩ := HN2.out.1.1.cells
      obtain ⟨d0, d1, d2, d3, d4⟩ := HN2.out.1.2.cells
      go_wp2
      go_ret
      exact ⟨by rw [← HE.out]; rfl, HN2.out.2⟩
    | false =>
      cases NB with
      | true =>
        go_enter Tryd.func9, Tryd.ntmps9
        go_wp2_with fail
        refine (HR.out _).mono ?_
        rintro x w1 ⟨rfl, hb1⟩
        have HN1 : Hid (N2o w.heap.size ka na ea sa kb nb eb sb w1 ∧ Below w.heap.size w w1) := ⟨HN.out.1.next hb1, HN.out.2.trans (hb1.mono HN.out.2.size)⟩
        clear hb1 HN
        try clear c0 c1 c2 c3 c4 d0 d1 d2 d3 d4
        obtain ⟨c0, c1, c2, c3, c4⟩ := HN1.out.1.1.cells
        obtain ⟨d0, d1, d2, d3, d4⟩ := HN1.out.1.2.cells
        go_wp2_with fail
        refine (HA.out _).mono ?_
        rintro x w2 ⟨rfl, hb2⟩
        have HN2 : Hid (N2o w.heap.size ka na ea sa kb nb eb sb w2 ∧ Below w.heap.size w w2) := ⟨HN1.out.1.next hb2, HN1.out.2.trans (hb2.mono HN1.out.2.size)⟩
        clear hb2 HN1
        try clear c0 c1 c2 c3 c4 d0 d1 d2 d3 d4
        obtain ⟨c0, c1, c2, c3, c4⟩ := HN2.out.1.1.cells
        obtain ⟨d0, d1, d2, d3, d4⟩ := HN2.out.1.2.cells
        go_wp2_with fail
        refine (HB.out _).mono ?_
        rintro x w3 ⟨rfl, hb3⟩
        have HN3 : Hid (N2o w.heap.size ka na ea sa kb nb eb sb w3 ∧ Below w.heap.size w w3) := ⟨HN2.out.1.next hb3, HN2.out.2.trans (hb3.mono HN2.out.2.size)⟩
        clear hb3 HN2
        try clear c0 c1 c2 c3 c4 d0 d1 d2 d3 d4
        obtain ⟨c0, c1, c2, c3, c4⟩ := HN3.out.1.1.cells
        obtain ⟨d0, d1, d2, d3, d4⟩ := HN3.out.1.2.cells
        go_wp2
        go_ret
        exact ⟨by rw [← HE.out]; rfl, HN3.out.2⟩
      | false =>
        cases ZA with
        | false =>
          go_enter Tryd.func9, Tryd.ntmps9
          go_wp2_with fail
          refine (HR.out _).mono ?_
          rintro x w1 ⟨rfl, hb1⟩
          have HN1 : Hid (N2o w.heap.size ka na ea sa kb nb eb sb w1 ∧ Below w.heap.size w w1) := ⟨HN.out.1.next hb1, HN.out.2.trans (hb1.mono HN.out.2.size)⟩
          clear hb1 HN
          try clear c0 c1 c2 c3 c4 d0 d1 d2 d3 d4
          obtain ⟨c0, c1, c2, c3, c4⟩ := HN1.out.1.1.cells
          obtain ⟨d0, d1, d2, d3, d4⟩ := HN1.out.1.2.cells
          go_wp2_with fail
          refine (HA.out _).mono ?_
          rintro x w2 ⟨rfl, hb2⟩
          have HN2 : Hid (N2o w.heap.size ka na ea sa kb nb eb sb w2 ∧ Below w.heap.size w w2) := ⟨HN1.out.1.next hb2, HN1.out.2.trans (hb2.mono HN1.out.2.size)⟩
          clear hb2 HN1
          try clear c0 c1 c2 c3 c4 d0 d1 d2 d3 d4
          obtain ⟨c0, c1, c2, c3, c4⟩ := HN2.out.1.1.cells
          obtain ⟨d0, d1, d2, d3, d4⟩ := HN2.out.1.2.cells
          go_wp2_with fail
          refine (HB.out _).mono ?_
          rintro x w3 ⟨rfl, hb3⟩
          have HN3 : Hid (N2o w.heap.size ka na ea sa kb nb eb sb w3 ∧ Below w.heap.size w w3) := ⟨HN2.out.1.next hb3, HN2.out.2.trans (hb3.mono HN2.out.2.size)⟩
          clear hb3 HN2
          try clear c0 c1 c2 c3 c4 d0 d1 d2 d3 d4
          obtain ⟨c0, c1, c2, c3, c4⟩ := HN3.out.1.1.cells
          obtain ⟨d0, d1, d2, d3, d4⟩ := HN3.out.1.2.cells
          go_wp2_with fail
          refine (HOa.out _).mono ?_
          rintro x w4 ⟨rfl, hb4⟩
          have HN4 : Hid (N2o w.heap.size ka na ea sa kb nb eb sb w4 ∧ Below w.heap.size w w4) := ⟨HN3.out.1.next hb4, HN3.out.2.trans (hb4.mono HN3.out.2.size)⟩
          clear hb4 HN3
          try clear c0 c1 c2 c3 c4 d0 d1 d2 d3 d4
          obtain ⟨c0, c1, c2, c3, c4⟩ := HN4.out.1.1.cells
          obtain ⟨d0, d1, d2, d3, d4⟩ := HN4.out.1.2.cells
          go_wp2_with fail
          refine (HC.out (by first | exact trivial | rfl) _ (HT.out.next HN4.out.2)).mono ?_
          rintro x w5 ⟨rfl, hb5⟩
          have HN5 : Hid (N2o w.heap.size ka na ea sa kb nb eb sb w5 ∧ Below w.heap.size w w5) := ⟨HN4.out.1.next hb5, HN4.out.2.trans (hb5.mono HN4.out.2.size)⟩
          clear hb5 HN4
          try clear c0 c1 c2 c3 c4 d0 d1 d2 d3 d4
          obtain ⟨c0, c1, c2, c3, c4⟩ := HN5.out.1.1.cells
          obtain ⟨d0, d1, d2, d3, d4⟩ := HN5.out.1.2.cells
          go_wp2
          go_ret
          exact ⟨by rw [← HE.out]; rfl, HN5.out.2⟩
        | true =>
          cases ZB with
          | false =>
            go_enter Tryd.func9, Tryd.ntmps9
            go_wp2_with fail
            refine (HR.out _).mono ?_
            rintro x w1 ⟨rfl, hb1⟩
            have HN1 : Hid (N2o w.heap.size ka na ea sa kb nb eb sb w1 ∧ Below w.heap.size w w1) := ⟨HN.out.1.next hb1, HN.out.2.trans (hb1.mono HN.out.2.size)⟩
            clear hb1 HN
            try clear c0 c1 c2 c3 c4 d0 d1 d2 d3 d4
            obtain ⟨c0, c1, c2, c3, c4⟩ := HN1.out.1.1.cells
            obtain ⟨d0, d1, d2, d3, d4⟩ := HN1.out.1.2.cells
            go_wp2_with fail
            refine (HA.out _).mono ?_
            rintro x w2 ⟨rfl, hb2⟩
            have HN2 : Hid (N2o w.heap.size ka na ea sa kb nb eb sb w2 ∧ Below w.heap.size w w2) := ⟨HN1.out.1.next hb2, HN1.out.2.trans (hb2.mono HN1.out.2.size)⟩
            clear hb2 HN1
            try clear c0 c1 c2 c3 c4 d0 d1 d2 d3 d4
            obtain ⟨c0, c1, c2, c3, c4⟩ := HN2.out.1.1.cells
            obtain ⟨d0, d1, d2, d3, d4⟩ := HN2.out.1.2.cells
            go_wp2_with fail
            refine (HB.out _).mono ?_
            rintro x w3 ⟨rfl, hb3⟩
            have HN3 : Hid (N2o w.heap.size ka na ea sa kb nb eb sb w3 ∧ Below w.heap.size w w3) := ⟨HN2.out.1.next hb3, HN2.out.2.trans (hb3.mono HN2.out.2.size)⟩
            clear hb3 HN2
            try clear c0 c1 c2 c3 c4 d0 d1 d2 d3 d4
            obtain ⟨c0, c1, c2, c3, c4⟩ := HN3.out.1.1.cells
            obtain ⟨d0, d1, d2, d3, d4⟩ := HN3.out.1.2.cells
            go_wp2_with fail
            refine (HOa.out _).mono ?_
            rintro x w4 ⟨rfl, hb4⟩
            have HN4 : Hid (N2o w.heap.size ka na ea sa kb nb eb sb w4 ∧ Below w.heap.size w w4) := ⟨HN3.out.1.next hb4, HN3.out.2.trans (hb4.mono HN3.out.2.size)⟩
            clear hb4 HN3
            try clear c0 c1 c2 c3 c4 d0 d1 d2 d3 d4
            obtain ⟨c0, c1, c2, c3, c4⟩ := HN4.out.1.1.cells
            obtain ⟨d0, d1, d2, d3, d4⟩ := HN4.out.1.2.cells
            go_wp2_with fail
            refine (HOb.out _).mono ?_
            rintro x w5 ⟨rfl, hb5⟩
            have HN5 : Hid (N2o w.heap.size ka na ea sa kb nb eb sb w5 ∧ Below w.heap.size w w5) := ⟨HN4.out.1.next hb5, HN4.out.2.trans (hb5.mono HN4.out.2.size)⟩
            clear hb5 HN4
            try clear c0 c1 c2 c3 c4 d0 d1 d2 d3 d4
            obtain ⟨c0, c1, c2, c3, c4⟩ := HN5.out.1.1.cells
            obtain ⟨d0, d1, d2, d3, d4⟩ := HN5.out.1.2.cells
            go_wp2_with fail
            refine (HC.out (by first | exact trivial | rfl) _ (HT.out.next HN5.out.2)).mono ?_
            rintro x w6 ⟨rfl, hb6⟩
            have HN6 : Hid (N2o w.heap.size ka na ea sa kb nb eb sb w6 ∧ Below w.heap.size w w6) := ⟨HN5.out.1.next hb6, HN5.out.2.trans (hb6.mono HN5.out.2.size)⟩
            clear hb6 HN5
            try clear c0 c1 c2 c3 c4 d0 d1 d2 d3 d4
            obtain ⟨c0, c1, c2, c3, c4⟩ := HN6.out.1.1.cells
            obtain ⟨d0, d1, d2, d3, d4⟩ := HN6.out.1.2.cells
            go_wp2
            go_ret
            exact ⟨by rw [← HE.out]; rfl, HN6.out.2⟩
          | true =>
            go_enter Tryd.func9, Tryd.ntmps9
            go_wp2_with fail
            refine (HR.out _).mono ?_
            rintro x w1 ⟨rfl, hb1⟩
            have HN1 : Hid (N2o w.heap.size ka na ea sa kb nb eb sb w1 ∧ Below w.heap.size w w1) := ⟨HN.out.1.next hb1, HN.out.2.trans (hb1.mono HN.out.2.size)⟩
            clear hb1 HN
            try clear c0 c1 c2 c3 c4 d0 d1 d2 d3 d4
            obtain ⟨c0, c1, c2, c3, c4⟩ := HN1.out.1.1.cells
            obtain ⟨d0, d1, d2, d3, d4⟩ := HN1.out.1.2.cells
            go_wp2_with fail
            refine (HA.out _).mono ?_
            rintro x w2 ⟨rfl, hb2⟩
            have HN2 : Hid (N2o w.heap.size ka na ea sa kb nb eb sb w2 ∧ Below w.heap.size w w2) := ⟨HN1.out.1.next hb2, HN1.out.2.trans (hb2.mono HN1.out.2.size)⟩
            clear hb2 HN1
            try clear c0 c1 c2 c3 c4 d0 d1 d2 d3 d4
            obtain ⟨c0, c1, c2, c3, c4⟩ := HN2.out.1.1.cells
            obtain ⟨d0, d1, d2, d3, d4⟩ := HN2.out.1.2.cells
            go_wp2_with fail
            refine (HB.out _).mono ?_
            rintro x w3 ⟨rfl, hb3⟩
            have HN3 : Hid (N2o w.heap.size ka na ea sa kb nb eb sb w3 ∧ Below w.heap.size w w3) := ⟨HN2.out.1.next hb3, HN2.out.2.trans (hb3.mono HN2.out.2.size)⟩
            clear hb3 HN2
            try clear c0 c1 c2 c3 c4 d0 d1 d2 d3 d4
            obtain ⟨c0, c1, c2, c3, c4⟩ := HN3.out.1.1.cells
            obtain ⟨d0, d1, d2, d3, d4⟩ := HN3.out.1.2.cells
            go_wp2_with fail
            refine (HOa.out _).mono ?_
            rintro x w4 ⟨rfl, hb4⟩
            have HN4 : Hid (N2o w.heap.size ka na ea sa kb nb eb sb w4 ∧ Below w.heap.size w w4) := ⟨HN3.out.1.next hb4, HN3.out.2.trans (hb4.mono HN3.out.2.size)⟩
            clear hb4 HN3
            try clear c0 c1 c2 c3 c4 d0 d1 d2 d3 d4
            obtain ⟨c0, c1, c2, c3, c4⟩ := HN4.out.1.1.cells
            obtain ⟨d0, d1, d2, d3, d4⟩ := HN4.out.1.2.cells
            go_wp2_with fail
            refine (HOb.out _).mono ?_
            rintro x w5 ⟨rfl, hb5⟩
            have HN5 : Hid (N2o w.heap.size ka na ea sa kb nb eb sb w5 ∧ Below w.heap.size w w5) := ⟨HN4.out.1.next hb5, HN4.out.2.trans (hb5.mono HN4.out.2.size)⟩
            clear hb5 HN4
            try clear c0 c1 c2 c3 c4 d0 d1 d2 d3 d4
            obtain ⟨c0, c1, c2, c3, c4⟩ := HN5.out.1.1.cells
            obtain ⟨d0, d1, d2, d3, d4⟩ := HN5.out.1.2.cells
            go_wp2
            go_ret
            exact ⟨by rw [← HE.out]; rfl, HN5.out.2⟩
end Go.Proofs.YtnkoeidolmiheaaDoor
