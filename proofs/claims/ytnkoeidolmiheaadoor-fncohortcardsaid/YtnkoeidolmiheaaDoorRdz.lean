/-
  Noughts repeated, digits split, a text cloned, by the program: what a seat without the naturals takes.
-/
import Derived.Test.YtnkoeidolmiheaaDoorIsR2
import Derived.Test.YtnkoeidolmiheaaDoorRnd
import Derived.Lib.ItoaNum
import Derived.BigQuiet
import Derived.Deep.LoopGhost
import Derived.Deep.QuietTactic
import Derived.Test.YtnkoeidolmiheaaDoorIn
import Derived.Test.YtnkoeidolmiheaaDoorRdp
import Derived.Test.YtnkoeidolmiheaaDoorShf
namespace Go.Proofs.YtnkoeidolmiheaaDoor
open Go.RowKit
set_option linter.unusedVariables false
set_option maxRecDepth 100000
/-- The decimal digits of a whole number. -/
def dcL (n : Nat) : List Int := (Lib.decDigits n).map fun u => (u.toNat : Int) - 48
theorem dcL_tx (n : Nat) : tx (dcL n) = ⟨(Lib.decDigits n).toArray⟩ := by
  apply ByteArray.ext
  rw [tx_data]
  unfold dcL
  rw [List.map_map]
  congr 1
  rw [List.map_congr_left (g := id), List.map_id]
  intro u _
  show UInt8.ofNat (48 + ((u.toNat : Int) - 48)).toNat = u
  rw [show (48 + ((u.toNat : Int) - 48)).toNat = u.toNat by omega]
  exact UInt8.ofNat_toNat
theorem dcL_one {n : Nat} (h : n < 10) : dcL n = [(n : Int)] := by
  unfold dcL
  rw [Lib.decDigits, dif_pos h]
  show [(((UInt8.ofNat (48 + n)).toNat : Int) - 48)] = _
  rw [UInt8.toNat_ofNat', Nat.mod_eq_of_lt (by omega)]
  congr 1
  omega
theorem dcL_more {n : Nat} (h : ¬ n < 10) : dcL n = dcL (n / 10) ++ [((n % 10 : Nat) : Int)] := by
  unfold dcL
  rw [Lib.decDigits, dif_neg h, List.map_append]
  congr 1
  show [(((UInt8.ofNat (48 + n % 10)).toNat : Int) - 48)] = _
  rw [UInt8.toNat_ofNat', Nat.mod_eq_of_lt (by omega)]
  congr 1
  omega
theorem dcL_ne (n : Nat) : dcL n ≠ [] := by
  by_cases h : n < 10
  · rw [dcL_one h]; exact List.cons_ne_nil _ _
  · rw [dcL_more h]; exact fun q => by simp at q
theorem dcL_len (n : Nat) (h : n < 10000) : (dcL n).length ≤ 4 := by
  by_cases h1 : n < 10
  · rw [dcL_one h1]; simp
  rw [dcL_more h1]
  by_cases h2 : n / 10 < 10
  · rw [dcL_one h2]; simp
  rw [dcL_more h2]
  by_cases h3 : n / 10 / 10 < 10
  · rw [dcL_one h3]; simp
  rw [dcL_more h3, dcL_one (by omega : n / 10 / 10 / 10 < 10)]
  simp
/-- The parts of a text: a point ahead of what is behind it, if anything is; a power with its sign. -/
def ptT (A B : List Int) : ByteArray := if B = [] then tx A else tx A ++ { data := #[46] } ++ tx B
def pwT (x : Int) : ByteArray := if x < 0 then { data := #[45] } ++ tx (dcL (-x).toNat) else { data := #[43] } ++ tx (dcL x.toNat)
def fnT (e : Int) (L : List Int) : ByteArray :=
  if e ≤ 0 ∧ -6 ≤ (L.length : Int) - 1 + e then ptT ((zpad ((-e).toNat + 1) L).take ((zpad ((-e).toNat + 1) L).length - (-e).toNat)) ((zpad ((-e).toNat + 1) L).drop ((zpad ((-e).toNat + 1) L).length - (-e).toNat))
  else ptT (L.take 1) (L.drop 1) ++ { data := #[69] } ++ pwT ((L.length : Int) - 1 + e)
def sgnT (b : Bool) : ByteArray := if b then { data := #[45] } else { data := #[] }
def usT (k e : Int) (s : ByteArray) : ByteArray := if k = 2 then { data := #[73, 110, 102, 105, 110, 105, 116, 121] } else if k = 3 then { data := #[78, 97, 78] } else if k = 4 then { data := #[115, 78, 97, 78] } else fnT e (dl s)
def shT (k : Int) (b : Bool) (e : Int) (s : ByteArray) : ByteArray := if numB 128 k b e s then sgnT b ++ usT k e s else { data := #[] }
theorem emp_app (A : ByteArray) : ({ data := #[] } : ByteArray) ++ A = A := ByteArray.empty_append
theorem sgnT_app (b : Bool) (A B : ByteArray) : sgnT b ++ A ++ B = sgnT b ++ (A ++ B) := ByteArray.append_assoc
theorem nconv16 (d : Int) (W : World) : (convert 22 9 (.slice (some ⟨W.heap.size, 0, none⟩) 1 1)).run Tryd.prog (W.alloc (.cells #[.int .u8 (48 + d)] 5)) = .ok (.string (tx [d])) (W.alloc (.cells #[.int .u8 (48 + d)] 5)) :=
  run_convert_bytes_arg (P := Tryd.prog) _ 22 5 Tryd.underlying22 Tryd.underlying5 W.heap.size 0 1 1 [48 + d] rfl (fun i hi => by
    match i, hi with
    | 0, _ => simp) 9 Tryd.underlying9
/-- What is told so far of a number's digits, from the last one on. -/
def SoF (m : Nat) (n : Nat) (S : List Int) : Prop := (S = [] ∧ n = m) ∨ (S ≠ [] ∧ ((n = 0 ∧ dcL m = S) ∨ (0 < n ∧ dcL m = dcL n ++ S)))
theorem SoF.next {m n : Nat} {S : List Int} (h : SoF m n S) (hg : S = [] ∨ 0 < n) : SoF m (n / 10) (((n % 10 : Nat) : Int) :: S) := by
  refine .inr ⟨List.cons_ne_nil _ _, ?_⟩
  have key : dcL m = dcL n ++ S := by
    rcases h with ⟨rfl, rfl⟩ | ⟨h1, ⟨rfl, h2⟩ | ⟨h2, h3⟩⟩
    · rw [List.append_nil]
    · rcases hg with q | q
      · exact absurd q h1
      · omega
    · exact h3
  by_cases h10 : n < 10
  · refine .inl ⟨by omega, ?_⟩
    rw [key, dcL_one h10, Nat.mod_eq_of_lt h10]
    rfl
  · refine .inr ⟨by omega, ?_⟩
    rw [key, dcL_more h10, List.append_assoc]
    rfl
theorem SoF.last {m n : Nat} {S : List Int} (h : SoF m n S) (hg : S ≠ []) (h0 : n = 0) : dcL m = S := by
  rcases h with ⟨rfl, _⟩ | ⟨_, ⟨_, h2⟩ | ⟨h2, _⟩⟩
  · exact absurd rfl hg
  · exact h2
  · omega
end Go.Proofs.YtnkoeidolmiheaaDoor
namespace Go.Proofs.YtnkoeidolmiheaaDoor
open Go.RowKit
set_option linter.unusedVariables false
set_option maxRecDepth 100000
end Go.Proofs.YtnkoeidolmiheaaDoor
namespace Go.Proofs.YtnkoeidolmiheaaDoor
open Go.RowKit
set_option linter.unusedVariables false
set_option maxRecDepth 100000
theorem grown_tr {w w1 w2 : World} {r : Option Nat} (h : w.grownBy w1 r) (k : w1.grownBy w2 r) : w.grownBy w2 r :=
  ⟨k.os.trans h.os, k.tape.trans h.tape, k.output.trans h.output, Nat.le_trans h.size k.size, fun i hi hn => (k.block i (Nat.lt_of_lt_of_le hi h.size) hn).trans (h.block i hi hn)⟩
/-- A slice stays where only a block below its own turns. -/
theorem Has.grown {w w' : World} {base : Nat} {v : Value} {zs : List Int} {r : Option Nat} (h : Has w base v zs) (hg : w.grownBy w' r) (hr : ∀ k, r = some k → k < base) : Has w' base v zs := by
  obtain ⟨hl, h⟩ := h
  refine ⟨hl, ?_⟩
  rcases h with h | ⟨g, cap, cur, e, hgb, hc, q⟩
  · exact .inl h
  · have hlt := (Array.getElem?_eq_some_iff.1 hc).1
    exact .inr ⟨g, cap, cur, e, hgb, by rw [hg.block g hlt (fun e => by have := hr g e.symm; omega)]; exact hc, q⟩
/-- A slice stays where only a block that is not its own turns. -/
theorem Has.apart {w w' : World} {base : Nat} {v : Value} {zs : List Int} {r : Option Nat} (h : Has w base v zs) (hg : w.grownBy w' r) (hr : ∀ k, v.ownBlock = some k → r ≠ some k) : Has w' base v zs := by
  obtain ⟨hl, h⟩ := h
  refine ⟨hl, ?_⟩
  rcases h with h | ⟨g, cap, cur, e, hgb, hc, q⟩
  · exact .inl h
  · have hlt := (Array.getElem?_eq_some_iff.1 hc).1
    exact .inr ⟨g, cap, cur, e, hgb, by rw [hg.block g hlt (fun e' => hr g (by rw [e]; rfl) e'.symm)]; exact hc, q⟩
/-- A slice's own block lies from its base on and is there. -/
theorem Has.own {w : World} {base : Nat} {v : Value} {zs : List Int} (h : Has w base v zs) : ∀ k, v.ownBlock = some k → base ≤ k ∧ k < w.heap.size := fun k hk => by
  rcases h.form with ⟨rfl, -⟩ | ⟨g, cap, rfl, hb, hl, -⟩
  · cases hk
  · cases hk; exact ⟨hb, hl⟩
end Go.Proofs.YtnkoeidolmiheaaDoor
namespace Go.Proofs.YtnkoeidolmiheaaDoor
open Go.RowKit
set_option linter.unusedVariables false
set_option maxRecDepth 100000
abbrev Nmt : Type := Int × Bool × Int × ByteArray
def nq : List Nmt → List Value
  | [] => []
  | p :: r => .int .i64 p.1 :: .bool p.2.1 :: .int .i64 p.2.2.1 :: .string p.2.2.2 :: nq r
theorem nq_append (a b : List Nmt) : nq (a ++ b) = nq a ++ nq b := by
  induction a with
  | nil => rfl
  | cons p r ih => simp [nq, ih]
theorem nq_length (a : List Nmt) : (nq a).length = a.length * 4 := by
  induction a with
  | nil => rfl
  | cons p r ih => simp [nq, ih]; omega
theorem nq_at (a : List Nmt) (i : Nat) (p : Nmt) (h : a[i]? = some p) : (nq a)[i * 4]? = some (.int .i64 p.1) ∧ (nq a)[i * 4 + 1]? = some (.bool p.2.1) ∧ (nq a)[i * 4 + 2]? = some (.int .i64 p.2.2.1) ∧ (nq a)[i * 4 + 3]? = some (.string p.2.2.2) := by
  induction a generalizing i with
  | nil => simp at h
  | cons q r ih =>
    cases i with
    | zero => simp at h; subst h; simp [nq]
    | succ i =>
      have h' := ih i (by simpa using h)
      have e : (i + 1) * 4 = i * 4 + 4 := by omega
      rw [e]
      simp only [nq, List.getElem?_cons_succ]
      exact h'
/-- The slice v holds n numbers, whose cells in a row are xs. -/
def HasV (w : World) (base : Nat) (v : Value) (n : Nat) (xs : List Value) : Prop := w.ownsRow base 25 4 v n xs
def HasN (w : World) (base : Nat) (v : Value) (l : List Nmt) : Prop := HasV w base v l.length (nq l)
theorem hasN_more {w : World} {base : Nat} {v : Value} {P : List Nmt} {n : Nat} {p : Nmt} (h : w.ownsRow base 25 4 v n (nq P ++ [.int .i64 p.1, .bool p.2.1, .int .i64 p.2.2.1, .string p.2.2.2])) (hn : n = P.length + 1) : HasN w base v (P ++ [p]) := by
  unfold HasN HasV
  rw [nq_append, List.length_append]
  subst hn
  exact h
theorem HasV.below {w w' : World} {base B : Nat} {v : Value} {n : Nat} {xs : List Value} (h : HasV w base v n xs) (hb : Below B w w') (hB : w.heap.size ≤ B) : HasV w' base v n xs := own_below h hb hB
theorem HasN.below {w w' : World} {base B : Nat} {v : Value} {l : List Nmt} (h : HasN w base v l) (hb : Below B w w') (hB : w.heap.size ≤ B) : HasN w' base v l := own_below h hb hB
theorem HasV.form {w : World} {base : Nat} {v : Value} {n : Nat} {xs : List Value} (h : HasV w base v n xs) (hz : xs.length = n * 4) :
    ∃ a cap, v = .slice a n cap ∧ (0 < n → ∃ g, a = some ⟨g, 0, none⟩ ∧ base ≤ g ∧ g < w.heap.size ∧ ∀ i, i < n * 4 → w.cell? ⟨g, i, none⟩ = xs[i]?) := by
  have h0 := h
  obtain ⟨hl, h⟩ := h
  rcases h with ⟨rfl, h⟩ | ⟨g, cap, cur, rfl, hg, hc, hn, hm, hs, ht⟩
  · exact ⟨_, _, by rw [h], fun hp => by omega⟩
  · exact ⟨_, cap, rfl, fun hp => ⟨g, rfl, hg, (Array.getElem?_eq_some_iff.1 hc).1, fun i hi => World.ownsRow.cellAt h0 i (by omega)⟩⟩
theorem infoNum : (Tryd.prog.info? 25).map (fun i => (i.zero, i.size, i.bytes)) = some (some (.agg #[.int .i64 0, .bool false, .int .i64 0, .string { data := #[] }]), 4, 40) := by kernel_rfl
end Go.Proofs.YtnkoeidolmiheaaDoor
namespace Go.Proofs.YtnkoeidolmiheaaDoor
open Go.RowKit
set_option linter.unusedVariables false
set_option maxRecDepth 100000
theorem iClone_z (s : ByteArray) (w : World) (hs : s.size ≤ 600) :
    Calls Tryd.prog 33 #[.string s] w fun e w' => e = .returned (.string s) ∧ Below w.heap.size w w' := by
  go_enter Tryd.func33, Tryd.ntmps33
  go_wp2_with fail
  refine (Tryd.stringslite_Clone s _ (by omega)).mono ?_
  rintro e w1 ⟨rfl, hb⟩
  go_wp2
  go_ret
  exact ⟨rfl, hb⟩
end Go.Proofs.YtnkoeidolmiheaaDoor
