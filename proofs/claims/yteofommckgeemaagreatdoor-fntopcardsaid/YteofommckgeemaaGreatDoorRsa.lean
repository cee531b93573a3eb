/-
  The reader of texts: what holds at readScaled's labels; plain facts.
-/
import Derived.Test.YteofommckgeemaaGreatDoorDtz
import Derived.Test.YteofommckgeemaaGreatDoorRec
import Derived.Test.YteofommckgeemaaGreatDoorRee

namespace Go.Proofs.YteofommckgeemaaGreatDoor
set_option linter.unusedVariables false
set_option maxRecDepth 100000
/-- What a text tells: its digits, how many stand behind the point, the exponent's sign and digits. -/
abbrev Prt : Type := Option (List Int × Nat × Bool × List Int)
def dgB (y : Int) : Bool := decide (48 ≤ y ∧ y ≤ 57)
def pEnd (L : List Int) (D : List Int) (n : Nat) (neg : Bool) (P : List Int) : Prt := if L = [] then some (D, n, neg, P) else none
def pFin (L : List Int) (D : List Int) (n : Nat) (neg : Bool) (P : List Int) : Prt := if P = [] ∨ 5 < P.length then none else pEnd L D n neg P
def pExp : List Int → List Int → Nat → Bool → List Int → Prt
  | [], D, n, neg, P => pFin [] D n neg P
  | y :: r, D, n, neg, P => if dgB y then pExp r D n neg (P ++ [y]) else pFin (y :: r) D n neg P
/-- Behind E: a sign if there is one. -/
def pSgn : List Int → List Int → Nat → Prt
  | [], D, n => pExp [] D n false []
  | y :: r, D, n => if y = 43 then pExp r D n false [] else if y = 45 then pExp r D n true [] else pExp (y :: r) D n false []
def pMark : List Int → List Int → Nat → Prt
  | [], D, n => if D = [] then none else pEnd [] D n false []
  | y :: r, D, n => if D = [] then none else if y = 69 ∨ y = 101 then pSgn r D n else pEnd (y :: r) D n false []
def pFrc : List Int → List Int → Nat → Prt
  | [], D, n => pMark [] D n
  | y :: r, D, n => if dgB y then pFrc r (D ++ [y]) (n + 1) else pMark (y :: r) D n
def pWhl : List Int → List Int → Prt
  | [], D => pMark [] D 0
  | y :: r, D => if dgB y then pWhl r (D ++ [y]) else if y = 46 then pFrc r D 0 else pMark (y :: r) D 0
/-- What is told is right: digits, and no more than there were letters. -/
def PrtOk (N : Nat) (x : Prt) : Prop := ∀ D n neg P, x = some (D, n, neg, P) → (∀ y ∈ D, 48 ≤ y ∧ y ≤ 57) ∧ (∀ y ∈ P, 48 ≤ y ∧ y ≤ 57) ∧ 0 < D.length ∧ D.length ≤ N ∧ n ≤ D.length ∧ P.length ≤ 5
theorem pEnd_ok (N : Nat) (L D : List Int) (n : Nat) (neg : Bool) (P : List Int) (hD : ∀ y ∈ D, 48 ≤ y ∧ y ≤ 57) (hP : ∀ y ∈ P, 48 ≤ y ∧ y ≤ 57) (h0 : 0 < D.length) (hN : D.length ≤ N) (hn : n ≤ D.length) (h5 : P.length ≤ 5) : PrtOk N (pEnd L D n neg P) := fun D' n' neg' P' h => by
  unfold pEnd at h
  split at h
  · obtain ⟨rfl, rfl, rfl, rfl⟩ : D = D' ∧ n = n' ∧ neg = neg' ∧ P = P' := by simpa only [Option.some.injEq, Prod.mk.injEq] using h
    exact ⟨hD, hP, h0, hN, hn, h5⟩
  · cases h
theorem pFin_ok (N : Nat) (L D : List Int) (n : Nat) (neg : Bool) (P : List Int) (hD : ∀ y ∈ D, 48 ≤ y ∧ y ≤ 57) (hP : ∀ y ∈ P, 48 ≤ y ∧ y ≤ 57) (h0 : 0 < D.length) (hN : D.length ≤ N) (hn : n ≤ D.length) : PrtOk N (pFin L D n neg P) := by
  unfold pFin
  split
  · intro D' n' neg' P' h; cases h
  · rename_i h
    exact pEnd_ok N L D n neg P hD hP h0 hN hn (by omega)
theorem dg_of {y : Int} (h : dgB y = true) : 48 ≤ y ∧ y ≤ 57 := of_decide_eq_true h
theorem dec_more {D : List Int} {y : Int} (hD : ∀ y ∈ D, 48 ≤ y ∧ y ≤ 57) (hy : dgB y = true) : ∀ z ∈ D ++ [y], 48 ≤ z ∧ z ≤ 57 := fun z hz => by
  rcases List.mem_append.1 hz with h | h
  · exact hD z h
  · rw [List.mem_singleton.1 h]; exact dg_of hy
theorem pExp_ok (N : Nat) (L D : List Int) (n : Nat) (neg : Bool) (P : List Int) (hD : ∀ y ∈ D, 48 ≤ y ∧ y ≤ 57) (hP : ∀ y ∈ P, 48 ≤ y ∧ y ≤ 57) (h0 : 0 < D.length) (hN : D.length ≤ N) (hn : n ≤ D.length) : PrtOk N (pExp L D n neg P) := by
  induction L generalizing P with
  | nil => exact pFin_ok N [] D n neg P hD hP h0 hN hn
  | cons y r ih =>
    unfold pExp
    split
    · rename_i h
      exact ih (P ++ [y]) (dec_more hP h)
    · exact pFin_ok N (y :: r) D n neg P hD hP h0 hN hn
theorem pMark_ok (N : Nat) (L D : List Int) (n : Nat) (hD : ∀ y ∈ D, 48 ≤ y ∧ y ≤ 57) (hN : D.length ≤ N) (hn : n ≤ D.length) : PrtOk N (pMark L D n) := by
  have hnil : ∀ y ∈ ([] : List Int), 48 ≤ y ∧ y ≤ 57 := fun y hy => by cases hy
  have hnone : PrtOk N none := fun D' n' neg' P' h => by cases h
  cases L with
  | nil =>
    show PrtOk N (if D = [] then none else pEnd [] D n false [])
    split
    · exact hnone
    · rename_i h
      exact pEnd_ok N [] D n false [] hD hnil (List.length_pos_iff.2 h) hN hn (by simp)
  | cons y r =>
    show PrtOk N (if D = [] then none else if y = 69 ∨ y = 101 then pSgn r D n else pEnd (y :: r) D n false [])
    split
    · exact hnone
    · rename_i h
      have h0 := List.length_pos_iff.2 h
      split
      · cases r with
        | nil => exact pExp_ok N [] D n false [] hD hnil h0 hN hn
        | cons z t =>
          show PrtOk N (if z = 43 then pExp t D n false [] else if z = 45 then pExp t D n true [] else pExp (z :: t) D n false [])
          split
          · exact pExp_ok N t D n false [] hD hnil h0 hN hn
          · split
            · exact pExp_ok N t D n true [] hD hnil h0 hN hn
            · exact pExp_ok N (z :: t) D n false [] hD hnil h0 hN hn
      · exact pEnd_ok N (y :: r) D n false [] hD hnil h0 hN hn (by simp)
theorem pFrc_ok (N : Nat) (L D : List Int) (n : Nat) (hD : ∀ y ∈ D, 48 ≤ y ∧ y ≤ 57) (hN : D.length + L.length ≤ N) (hn : n ≤ D.length) : PrtOk N (pFrc L D n) := by
  induction L generalizing D n with
  | nil => exact pMark_ok N [] D n hD (by simpa using hN) hn
  | cons y r ih =>
    unfold pFrc
    rw [List.length_cons] at hN
    split
    · rename_i h
      exact ih (D ++ [y]) (n + 1) (dec_more hD h) (by rw [List.length_append, List.length_singleton]; omega) (by rw [List.length_append, List.length_singleton]; omega)
    · exact pMark_ok N (y :: r) D n hD (by omega) hn
theorem pWhl_ok (N : Nat) (L D : List Int) (hD : ∀ y ∈ D, 48 ≤ y ∧ y ≤ 57) (hN : D.length + L.length ≤ N) : PrtOk N (pWhl L D) := by
  induction L generalizing D with
  | nil => exact pMark_ok N [] D 0 hD (by simpa using hN) (Nat.zero_le _)
  | cons y r ih =>
    unfold pWhl
    rw [List.length_cons] at hN
    split
    · rename_i h
      exact ih (D ++ [y]) (dec_more hD h) (by rw [List.length_append, List.length_singleton]; omega)
    · split
      · exact pFrc_ok N r D 0 hD (by omega) (Nat.zero_le _)
      · exact pMark_ok N (y :: r) D 0 hD (by omega) (Nat.zero_le _)
end Go.Proofs.YteofommckgeemaaGreatDoor

namespace Go.Proofs.YteofommckgeemaaGreatDoor
open Go.RowKit
set_option linter.unusedVariables false
set_option maxRecDepth 100000
set_option linter.unusedSimpArgs false
/-- The frame: the reader, the three boxes, places and the exponent's sign; all else is scratch. -/
def RsF (s rb n : Nat) (neg : Bool) (a : Act) : Prop := ∃ u1 u3 u8 u9 u10 u11 u12 u13 u14 u15 u16 u17 u18 u19 u20 u21 u22 u23 u24 u25 u26 u27 u28 u29 u30 u31 u32 u33 u34 u35 u36 u37 u38 u39 u40 u41 u42 u43 u44 u45 u46 u47 u48 u49 u50 u51 u52 u53 : Value, a = { tmps := #[.pointer (some ⟨rb, 0, none⟩), u1, .pointer (some ⟨s, 0, none⟩), u3, .pointer (some ⟨s + 1, 0, none⟩), .pointer (some ⟨s + 2, 0, none⟩), .int .i64 (n : Int), .bool neg, u8, u9, u10, u11, u12, u13, u14, u15, u16, u17, u18, u19, u20, u21, u22, u23, u24, u25, u26, u27, u28, u29, u30, u31, u32, u33, u34, u35, u36, u37, u38, u39, u40, u41, u42, u43, u44, u45, u46, u47, u48, u49, u50, u51, u52, u53], defers := [] }
/-- The boxes of the answer and of the power, as they were laid. -/
def RsA (s : Nat) (W : World) : Prop := W.heap[s]? = some (.cells #[.string { data := #[] }, .int .i64 0] 192 (0, 0))
def RsP (s : Nat) (W : World) : Prop := W.heap[s + 2]? = some (.cells #[.slice none 0 0] 251 (0, 0))
def Dgs (D : List Int) : Prop := ∀ y ∈ D, 48 ≤ y ∧ y ≤ 57
theorem Dgs.more {D : List Int} {y : Int} (h : Dgs D) (hy : 48 ≤ y ∧ y ≤ 57) : Dgs (D ++ [y]) := fun z hz => by
  rcases List.mem_append.1 hz with h1 | h1
  · exact h z h1
  · rw [List.mem_singleton.1 h1]; exact hy
/-- Ahead of a power: the reader and the digits. -/
def RsD (w0 W : World) (B s rb g off : Nat) (R D : List Int) : Prop :=
  TDg W B rb g (s + 1) (s + 3) R off D ∧ RsA s W ∧ RsP s W ∧ Below B w0 W ∧ (D.length ≤ off ∧ Dgs D ∧ rb < s ∧ g < s ∧ B ≤ rb)
/-- Behind E: the reader and the power's digits; the digits as they were read. -/
def RsE (w0 W : World) (B s rb g off : Nat) (R D Pw : List Int) : Prop :=
  (∃ b2, s + 3 ≤ b2 ∧ TDg W B rb g (s + 2) b2 R off Pw ∧ (∃ v, W.cell? ⟨s + 1, 0, none⟩ = some v ∧ W.ownsRow (s + 3) 21 1 v D.length (D.map (Value.int .i32)) ∧ ∀ k, v.ownBlock = some k → k < b2)) ∧ RsA s W ∧ Below B w0 W ∧ (0 < D.length ∧ D.length ≤ off ∧ Pw.length ≤ off ∧ Dgs D ∧ Dgs Pw ∧ rb < s ∧ g < s ∧ B ≤ rb)
/-- At the end: both rows can be read. -/
def RsN (w0 W : World) (B s rb g off : Nat) (R D Pw : List Int) : Prop :=
  RDr W rb g R off ∧ (∃ v b1, W.cell? ⟨s + 1, 0, none⟩ = some v ∧ W.ownsRow b1 21 1 v D.length (D.map (Value.int .i32))) ∧ (∃ v b1, W.cell? ⟨s + 2, 0, none⟩ = some v ∧ W.ownsRow b1 21 1 v Pw.length (Pw.map (Value.int .i32))) ∧ RsA s W ∧ Below B w0 W ∧ (0 < D.length ∧ D.length ≤ 1000 ∧ Pw.length ≤ 5 ∧ Dgs D ∧ Dgs Pw ∧ B ≤ s ∧ s + 2 < W.heap.size)
/-- What holds at a label, with a measure: ten times the letters left, and a rank. -/
def RsJ (w0 : World) (B s rb g : Nat) (R : List Int) (X : Prt) (m : Nat) : Nat → Act → World → Prop
  | 0, a, W => ∃ off D, RsD w0 W B s rb g off R D ∧ X = pWhl (R.drop off) D ∧ RsF s rb 0 false a ∧ m = 10 * (R.length - off) + 6
  | 2, a, W => ∃ off D n, RsD w0 W B s rb g off R D ∧ X = pFrc (R.drop off) D n ∧ n ≤ off ∧ RsF s rb n false a ∧ m = 10 * (R.length - off) + 5
  | 1, a, W => ∃ off D n, RsD w0 W B s rb g off R D ∧ X = pMark (R.drop off) D n ∧ n ≤ off ∧ RsF s rb n false a ∧ m = 10 * (R.length - off) + 4
  | 5, a, W => ∃ off D n neg Pw, RsE w0 W B s rb g off R D Pw ∧ X = pExp (R.drop off) D n neg Pw ∧ n ≤ off ∧ RsF s rb n neg a ∧ m = 10 * (R.length - off) + 3
  | 4, a, W => ∃ off D n neg Pw, RsN w0 W B s rb g off R D Pw ∧ X = pEnd (R.drop off) D n neg Pw ∧ n ≤ 1000 ∧ RsF s rb n neg a ∧ m = 10 * (R.length - off) + 2
  | 3, a, W => ∃ off n neg, RsA s W ∧ Below B w0 W ∧ B ≤ s ∧ X = none ∧ RsF s rb n neg a ∧ m = 10 * (R.length - off) + 1
  | _, _, _ => False
theorem drop_at {R : List Int} {off : Nat} (h : off < R.length) : R.drop off = R.getD off 0 :: R.drop (off + 1) := by
  rw [List.getD_eq_getElem?_getD, List.getElem?_eq_getElem h]
  exact List.drop_eq_getElem_cons h
theorem drop_none {R : List Int} {off : Nat} (h : ¬ off < R.length) : R.drop off = [] := List.drop_eq_nil_iff.2 (by omega)
theorem dgB_yes {y : Int} (h : 48 ≤ y ∧ y ≤ 57) : dgB y = true := decide_eq_true h
theorem dgB_no {y : Int} (h : ¬ (48 ≤ y ∧ y ≤ 57)) : dgB y = false := decide_eq_false h
theorem pWhl_dig {R : List Int} {off : Nat} (D : List Int) (h : off < R.length) (hd : 48 ≤ R.getD off 0 ∧ R.getD off 0 ≤ 57) : pWhl (R.drop off) D = pWhl (R.drop (off + 1)) (D ++ [R.getD off 0]) := by
  rw [drop_at h]; simp only [pWhl, dgB_yes hd, if_true]
theorem pWhl_dot {R : List Int} {off : Nat} (D : List Int) (h : off < R.length) (hd : R.getD off 0 = 46) : pWhl (R.drop off) D = pFrc (R.drop (off + 1)) D 0 := by
  rw [drop_at h, hd]; simp only [pWhl, dgB_no (show ¬ ((48 : Int) ≤ 46 ∧ (46 : Int) ≤ 57) by decide), Bool.false_eq_true, if_false, if_true]
theorem pWhl_on {R : List Int} {off : Nat} (D : List Int) (h : ¬ (off < R.length ∧ 48 ≤ R.getD off 0 ∧ R.getD off 0 ≤ 57)) (hd : off < R.length → R.getD off 0 ≠ 46) : pWhl (R.drop off) D = pMark (R.drop off) D 0 := by
  by_cases h0 : off < R.length
  · rw [drop_at h0]; simp only [pWhl, dgB_no (fun q => h ⟨h0, q⟩), hd h0, Bool.false_eq_true, if_false]
  · rw [drop_none h0]; rfl
theorem pFrc_dig {R : List Int} {off : Nat} (D : List Int) (n : Nat) (h : off < R.length) (hd : 48 ≤ R.getD off 0 ∧ R.getD off 0 ≤ 57) : pFrc (R.drop off) D n = pFrc (R.drop (off + 1)) (D ++ [R.getD off 0]) (n + 1) := by
  rw [drop_at h]; simp only [pFrc, dgB_yes hd, if_true]
theorem pFrc_on {R : List Int} {off : Nat} (D : List Int) (n : Nat) (h : ¬ (off < R.length ∧ 48 ≤ R.getD off 0 ∧ R.getD off 0 ≤ 57)) : pFrc (R.drop off) D n = pMark (R.drop off) D n := by
  by_cases h0 : off < R.length
  · rw [drop_at h0]; simp only [pFrc, dgB_no (fun q => h ⟨h0, q⟩), Bool.false_eq_true, if_false]
  · rw [drop_none h0]; rfl
theorem pMark_nil (L : List Int) (n : Nat) : pMark L [] n = none := by cases L <;> rfl
theorem pMark_e {R : List Int} {off : Nat} {D : List Int} (n : Nat) (hD : D ≠ []) (h : off < R.length) (hd : R.getD off 0 = 69 ∨ R.getD off 0 = 101) : pMark (R.drop off) D n = pSgn (R.drop (off + 1)) D n := by
  rw [drop_at h]; simp only [pMark, hD, hd, if_false, if_true]
theorem pMark_on {R : List Int} {off : Nat} {D : List Int} (n : Nat) (hD : D ≠ []) (hd : off < R.length → ¬ (R.getD off 0 = 69 ∨ R.getD off 0 = 101)) : pMark (R.drop off) D n = pEnd (R.drop off) D n false [] := by
  by_cases h0 : off < R.length
  · rw [drop_at h0]; simp only [pMark, hD, hd h0, if_false]
  · rw [drop_none h0]; simp only [pMark, hD, if_false]
theorem pSgn_at (R : List Int) (off : Nat) (D : List Int) (n : Nat) : pSgn (R.drop off) D n = pExp (R.drop (sgO R off)) D n (sgB R off) [] := by
  by_cases h0 : off < R.length
  · rw [drop_at h0]
    by_cases h1 : R.getD off 0 = 43
    · rw [show sgO R off = off + 1 by unfold sgO; rw [if_pos ⟨h0, .inl h1⟩], show sgB R off = false by unfold sgB; exact decide_eq_false (fun q => by omega)]
      simp only [pSgn, h1, if_true]
    · by_cases h2 : R.getD off 0 = 45
      · rw [show sgO R off = off + 1 by unfold sgO; rw [if_pos ⟨h0, .inr h2⟩], show sgB R off = true by unfold sgB; exact decide_eq_true ⟨h0, h2⟩]
        simp only [pSgn, h2, if_true, show ¬ ((45 : Int) = 43) by decide, if_false]
      · rw [show sgO R off = off by unfold sgO; rw [if_neg (fun q => q.2.elim h1 h2)], show sgB R off = false by unfold sgB; exact decide_eq_false (fun q => h2 q.2), drop_at h0]
        simp only [pSgn, h1, h2, if_false]
  · rw [show sgO R off = off by unfold sgO; rw [if_neg (fun q => h0 q.1)], show sgB R off = false by unfold sgB; exact decide_eq_false (fun q => h0 q.1), drop_none h0]
    rfl
theorem sgO_le (R : List Int) (off : Nat) : off ≤ sgO R off := by unfold sgO; split <;> omega
theorem pExp_dig {R : List Int} {off : Nat} (D : List Int) (n : Nat) (neg : Bool) (Pw : List Int) (h : off < R.length) (hd : 48 ≤ R.getD off 0 ∧ R.getD off 0 ≤ 57) : pExp (R.drop off) D n neg Pw = pExp (R.drop (off + 1)) D n neg (Pw ++ [R.getD off 0]) := by
  rw [drop_at h]; simp only [pExp, dgB_yes hd, if_true]
theorem pExp_on {R : List Int} {off : Nat} (D : List Int) (n : Nat) (neg : Bool) (Pw : List Int) (h : ¬ (off < R.length ∧ 48 ≤ R.getD off 0 ∧ R.getD off 0 ≤ 57)) : pExp (R.drop off) D n neg Pw = pFin (R.drop off) D n neg Pw := by
  by_cases h0 : off < R.length
  · rw [drop_at h0]; simp only [pExp, dgB_no (fun q => h ⟨h0, q⟩), Bool.false_eq_true, if_false]
  · rw [drop_none h0]; rfl
theorem pFin_no (L D : List Int) (n : Nat) (neg : Bool) (Pw : List Int) (h : Pw.length = 0 ∨ 5 < Pw.length) : pFin L D n neg Pw = none := by
  unfold pFin
  rw [if_pos (h.imp List.length_eq_zero_iff.1 id)]
theorem pFin_on (L D : List Int) (n : Nat) (neg : Bool) (Pw : List Int) (h : ¬ Pw.length = 0) (h5 : Pw.length ≤ 5) : pFin L D n neg Pw = pEnd L D n neg Pw := by
  unfold pFin
  rw [if_neg (fun q => q.elim (fun e => h (by rw [e]; rfl)) (fun e => by omega))]
theorem pEnd_yes {R : List Int} {off : Nat} (D : List Int) (n : Nat) (neg : Bool) (Pw : List Int) (h : ¬ off < R.length) : pEnd (R.drop off) D n neg Pw = some (D, n, neg, Pw) := by
  unfold pEnd; rw [if_pos (drop_none h)]
theorem pEnd_no {R : List Int} {off : Nat} (D : List Int) (n : Nat) (neg : Bool) (Pw : List Int) (h : off < R.length) : pEnd (R.drop off) D n neg Pw = none := by
  unfold pEnd; rw [if_neg (by rw [drop_at h]; exact List.cons_ne_nil _ _)]
theorem own_blk {w w' : World} {base : Nat} {e : TypeId} {sz : Nat} {v : Value} {n : Nat} {xs : List Value} (h : w.ownsRow base e sz v n xs) (hk : ∀ k, v.ownBlock = some k → w'.heap[k]? = w.heap[k]?) : w'.ownsRow base e sz v n xs := by
  obtain ⟨hl, h⟩ := h
  refine ⟨hl, ?_⟩
  rcases h with h | ⟨g, cap, cur, e, hgb, hc, r⟩
  · exact .inl h
  · subst e
    exact .inr ⟨g, cap, cur, rfl, hgb, by rw [hk g rfl]; exact hc, r⟩
/-- A letter taken: the digits as they were. -/
theorem tdg_took {W W' : World} {B rb g db base : Nat} {R : List Int} {off off' : Nat} {D : List Int} (h : TDg W B rb g db base R off D) (hr : RDr W' rb g R off') (hg : W.grownBy W' (some rb)) : TDg W' B rb g db base R off' D := by
  obtain ⟨h1, ⟨v, hv, hown⟩, hfd, ⟨b1, b2, b3, b4, b5, b6, b7, b8, b9⟩, hl⟩ := h
  have hd : W'.heap[db]? = W.heap[db]? := hg.block db (by omega) (fun e => b7 (Option.some.inj e).symm)
  exact ⟨hr, ⟨v, (World.cell?_of_block hd).trans hv, own_grw hown hg b4⟩, (World.frozen?_of_block hd).trans hfd, ⟨b1, b2, b3, b4, b5, b6, b7, b8, Nat.le_trans b9 hg.size⟩, hl⟩
theorem bel_grw {W W' : World} {B rb : Nat} (hg : W.grownBy W' (some rb)) (h : B ≤ rb) (hB : B ≤ W.heap.size) : Below B W W' :=
  ⟨hg.os, hg.tape, hg.output, hg.size, fun k hk => hg.block k (by omega) (fun e => by have e' : k = rb := Option.some.inj e; omega)⟩
theorem tdg_size {W : World} {B rb g db base : Nat} {R : List Int} {off : Nat} {D : List Int} (h : TDg W B rb g db base R off D) : base ≤ W.heap.size := h.2.2.2.1.2.2.2.2.2.2.2.2
theorem RsD.took {w0 W W' : World} {B s rb g off off' : Nat} {R D : List Int} (h : RsD w0 W B s rb g off R D) (hr : RDr W' rb g R off') (hg : W.grownBy W' (some rb)) (ho : off ≤ off') : RsD w0 W' B s rb g off' R D := by
  obtain ⟨h1, h2, h3, h4, ⟨h5, h6, h7, h8, h9⟩⟩ := h
  have hs := tdg_size h1
  exact ⟨tdg_took h1 hr hg, (hg.block s (by omega) (fun e => by have e' : s = rb := Option.some.inj e; omega)).trans h2, (hg.block (s + 2) (by omega) (fun e => by have e' : s + 2 = rb := Option.some.inj e; omega)).trans h3, h4.trans ((bel_grw hg h9 (by omega))), ⟨by omega, h6, h7, h8, h9⟩⟩
theorem RsD.grow {w0 W W' : World} {B s rb g off : Nat} {R D : List Int} {y : Int} (h : RsD w0 W B s rb g off R D) (h1 : TDg W' B rb g (s + 1) (s + 3) R (off + 1) (D ++ [y])) (hy : 48 ≤ y ∧ y ≤ 57) (hb : Below B W W') (hk : ∀ k, k < s + 3 → k ≠ rb → k ≠ s + 1 → W'.heap[k]? = W.heap[k]?) : RsD w0 W' B s rb g (off + 1) R (D ++ [y]) := by
  obtain ⟨-, h2, h3, h4, ⟨h5, h6, h7, h8, h9⟩⟩ := h
  exact ⟨h1, (hk s (by omega) (by omega) (by omega)).trans h2, (hk (s + 2) (by omega) (by omega) (by omega)).trans h3, h4.trans hb, ⟨by rw [List.length_append, List.length_singleton]; omega, h6.more hy, h7, h8, h9⟩⟩
theorem own_lt {w : World} {base : Nat} {e : TypeId} {sz : Nat} {v : Value} {n : Nat} {xs : List Value} (h : w.ownsRow base e sz v n xs) : ∀ k, v.ownBlock = some k → base ≤ k ∧ k < w.heap.size := fun k hk => by
  rcases h.2 with ⟨rfl, -⟩ | ⟨g, cap, cur, rfl, hgb, hc, -⟩
  · cases hk
  · obtain rfl : g = k := by simpa [Value.ownBlock] using hk
    exact ⟨hgb, (Array.getElem?_eq_some_iff.1 hc).1⟩
theorem cell_blk {W : World} {b : Nat} {v : Value} {t : TypeId} (h : W.heap[b]? = some (.cells #[v] t (0, 0))) : W.cell? ⟨b, 0, none⟩ = some v := by unfold World.cell?; simp only [h]; rfl
theorem frz_blk {W : World} {b : Nat} {v : Value} {t : TypeId} (h : W.heap[b]? = some (.cells #[v] t (0, 0))) : W.frozen? ⟨b, 0, none⟩ = false := by unfold World.frozen?; simp only [h]; rfl
/-- The E is taken and the sign: the power begins. -/
theorem RsD.power {w0 W : World} {B s rb g off : Nat} {R D : List Int} (h : RsD w0 W B s rb g off R D) (hD : 0 < D.length) : RsE w0 W B s rb g off R D [] := by
  obtain ⟨h1, h2, h3, h4, ⟨h5, h6, h7, h8, h9⟩⟩ := h
  obtain ⟨k1, ⟨v, hv, hown⟩, hfd, ⟨b1, b2, b3, b4, b5, b6, b7, b8, b9⟩, hl⟩ := h1
  refine ⟨⟨W.heap.size, b9, ⟨k1, ⟨.slice none 0 0, cell_blk h3, ⟨rfl, .inl ⟨rfl, rfl⟩⟩⟩, frz_blk h3, ⟨b1, by omega, by omega, by omega, by omega, by omega, by omega, by omega, Nat.le_refl _⟩, by simp⟩, ⟨v, hv, hown, fun k hk => (own_lt hown k hk).2⟩⟩, h2, h4, ⟨hD, h5, Nat.zero_le _, h6, (fun y hy => by cases hy), h7, h8, h9⟩⟩
theorem RsE.grow {w0 W W' : World} {B s rb g off b2 : Nat} {R D Pw : List Int} {y : Int} {v : Value} (h : RsE w0 W B s rb g off R D Pw) (h0 : s + 3 ≤ b2) (hv : W.cell? ⟨s + 1, 0, none⟩ = some v) (hown : W.ownsRow (s + 3) 21 1 v D.length (D.map (Value.int .i32))) (hlt : ∀ k, v.ownBlock = some k → k < b2)
    (h1 : TDg W' B rb g (s + 2) b2 R (off + 1) (Pw ++ [y])) (hy : 48 ≤ y ∧ y ≤ 57) (hb : Below B W W') (hk : ∀ k, k < b2 → k ≠ rb → k ≠ s + 2 → W'.heap[k]? = W.heap[k]?) : RsE w0 W' B s rb g (off + 1) R D (Pw ++ [y]) := by
  obtain ⟨-, h2, h4, ⟨h5, h6, h7, h8, h9, h10, h11, h12⟩⟩ := h
  refine ⟨⟨b2, h0, h1, ⟨v, (World.cell?_of_block (hk (s + 1) (by omega) (by omega) (by omega))).trans hv, own_blk hown (fun k q => ?_), hlt⟩⟩, (hk s (by omega) (by omega) (by omega)).trans h2, h4.trans hb, ⟨h5, by omega, by rw [List.length_append, List.length_singleton]; omega, h8, h9.more hy, h10, h11, h12⟩⟩
  have := (own_lt hown k q).1
  exact hk k (hlt k q) (by omega) (by omega)
theorem RsE.done {w0 W : World} {B s rb g off : Nat} {R D Pw : List Int} (h : RsE w0 W B s rb g off R D Pw) (h5 : Pw.length ≤ 5) : RsN w0 W B s rb g off R D Pw := by
  obtain ⟨⟨b2, k0, ⟨k1, ⟨v2, hv2, hown2⟩, -, ⟨-, -, -, -, -, -, -, -, b9⟩, hl⟩, ⟨v, hv, hown, -⟩⟩, h2, h4, ⟨q1, q2, q3, q4, q5, q6, q7, q8⟩⟩ := h
  have := k1.1
  exact ⟨k1, ⟨v, _, hv, hown⟩, ⟨v2, _, hv2, hown2⟩, h2, h4, ⟨q1, by omega, h5, q4, q5, by omega, by omega⟩⟩
theorem RsD.done {w0 W : World} {B s rb g off : Nat} {R D : List Int} (h : RsD w0 W B s rb g off R D) (hD : 0 < D.length) : RsN w0 W B s rb g off R D [] := (h.power hD).done (by simp)
end Go.Proofs.YteofommckgeemaaGreatDoor
