/-
  Plain fact on finishing: right digits with a right exponent that is wanted stay.
-/
import Derived.Lib.ItoaNum
import Derived.BigQuiet
import Derived.Deep.LoopGhost
import Derived.Test.YteofommckgeemaaGreatDoorFmt
import Derived.Test.YteofommckgeemaaGreatDoorSl
import Derived.Test.YteofommckgeemaaGreatDoorCls
import Derived.Test.YteofommckgeemaaGreatDoorRdp
import Derived.Test.YteofommckgeemaaGreatDoorShf
import Derived.Lib.SmallJoins
import Derived.Test.YteofommckgeemaaGreatDoorShg
import Derived.Test.YteofommckgeemaaGreatDoorNatS
import Derived.WalkKit
import Derived.KernelRfl
import Derived.Test.YteofommckgeemaaGreatDoorTxtM
import Derived.Test.YteofommckgeemaaGreatDoorFinA
namespace Go.Proofs.YteofommckgeemaaGreatDoor
open Go.RowKit
set_option linter.unusedVariables false
set_option maxRecDepth 100000
/-- The decimal digits of a whole number. -/
def dcL (n : Nat) : List Int := (Lib.decDigits n).map fun u => (u.toNat : Int) - 48
theorem dcL_tx (n : Nat) : tx (dcL n) = ⟨(Lib.decDigits n).toArray⟩ := by
  apply ByteArray.ext
  rw [tx_data]
  unfold dcL
  rw [List.map_map]
  congr 1
  rw [List.map_congr_left (g := id), List.map_id]
  intro u _
  show UInt8.ofNat (48 + ((u.toNat : Int) - 48)).toNat = u
  rw [show (48 + ((u.toNat : Int) - 48)).toNat = u.toNat by omega]
  exact UInt8.ofNat_toNat
theorem dcL_one {n : Nat} (h : n < 10) : dcL n = [(n : Int)] := by
  unfold dcL
  rw [Lib.decDigits, dif_pos h]
  show [(((UInt8.ofNat (48 + n)).toNat : Int) - 48)] = _
  rw [UInt8.toNat_ofNat', Nat.mod_eq_of_lt (by omega)]
  congr 1
  omega
theorem dcL_more {n : Nat} (h : ¬ n < 10) : dcL n = dcL (n / 10) ++ [((n % 10 : Nat) : Int)] := by
  unfold dcL
  rw [Lib.decDigits, dif_neg h, List.map_append]
  congr 1
  show [(((UInt8.ofNat (48 + n % 10)).toNat : Int) - 48)] = _
  rw [UInt8.toNat_ofNat', Nat.mod_eq_of_lt (by omega)]
  congr 1
  omega
theorem dcL_ne (n : Nat) : dcL n ≠ [] := by
  by_cases h : n < 10
  · rw [dcL_one h]; exact List.cons_ne_nil _ _
  · rw [dcL_more h]; exact fun q => by simp at q
theorem dcL_len (n : Nat) (h : n < 10000) : (dcL n).length ≤ 4 := by
  by_cases h1 : n < 10
  · rw [dcL_one h1]; simp
  rw [dcL_more h1]
  by_cases h2 : n / 10 < 10
  · rw [dcL_one h2]; simp
  rw [dcL_more h2]
  by_cases h3 : n / 10 / 10 < 10
  · rw [dcL_one h3]; simp
  rw [dcL_more h3, dcL_one (by omega : n / 10 / 10 / 10 < 10)]
  simp
/-- The parts of a text: a point ahead of what is behind it, if anything is; a power with its sign. -/
def ptT (A B : List Int) : ByteArray := if B = [] then tx A else tx A ++ { data := #[46] } ++ tx B
def pwT (x : Int) : ByteArray := if x < 0 then { data := #[45] } ++ tx (dcL (-x).toNat) else { data := #[43] } ++ tx (dcL x.toNat)
def fnT (e : Int) (L : List Int) : ByteArray :=
  if e ≤ 0 ∧ -6 ≤ (L.length : Int) - 1 + e then ptT ((zpad ((-e).toNat + 1) L).take ((zpad ((-e).toNat + 1) L).length - (-e).toNat)) ((zpad ((-e).toNat + 1) L).drop ((zpad ((-e).toNat + 1) L).length - (-e).toNat))
  else ptT (L.take 1) (L.drop 1) ++ { data := #[69] } ++ pwT ((L.length : Int) - 1 + e)
def sgnT (b : Bool) : ByteArray := if b then { data := #[45] } else { data := #[] }
def usT (k e : Int) (s : ByteArray) : ByteArray := if k = 2 then { data := #[73, 110, 102, 105, 110, 105, 116, 121] } else if k = 3 then { data := #[78, 97, 78] } else if k = 4 then { data := #[115, 78, 97, 78] } else fnT e (dl s)
def shT (k : Int) (b : Bool) (e : Int) (s : ByteArray) : ByteArray := if numB 128 k b e s then sgnT b ++ usT k e s else { data := #[] }
/-- What is told so far of a number's digits, from the last one on. -/
def SoF (m : Nat) (n : Nat) (S : List Int) : Prop := (S = [] ∧ n = m) ∨ (S ≠ [] ∧ ((n = 0 ∧ dcL m = S) ∨ (0 < n ∧ dcL m = dcL n ++ S)))
theorem SoF.next {m n : Nat} {S : List Int} (h : SoF m n S) (hg : S = [] ∨ 0 < n) : SoF m (n / 10) (((n % 10 : Nat) : Int) :: S) := by
  refine .inr ⟨List.cons_ne_nil _ _, ?_⟩
  have key : dcL m = dcL n ++ S := by
    rcases h with ⟨rfl, rfl⟩ | ⟨h1, ⟨rfl, h2⟩ | ⟨h2, h3⟩⟩
    · rw [List.append_nil]
    · rcases hg with q | q
      · exact absurd q h1
      · omega
    · exact h3
  by_cases h10 : n < 10
  · refine .inl ⟨by omega, ?_⟩
    rw [key, dcL_one h10, Nat.mod_eq_of_lt h10]
    rfl
  · refine .inr ⟨by omega, ?_⟩
    rw [key, dcL_more h10, List.append_assoc]
    rfl
theorem SoF.last {m n : Nat} {S : List Int} (h : SoF m n S) (hg : S ≠ []) (h0 : n = 0) : dcL m = S := by
  rcases h with ⟨rfl, _⟩ | ⟨_, ⟨_, h2⟩ | ⟨h2, _⟩⟩
  · exact absurd rfl hg
  · exact h2
  · omega
end Go.Proofs.YteofommckgeemaaGreatDoor

namespace Go.Proofs.YteofommckgeemaaGreatDoor
open Go.RowKit
set_option linter.unusedVariables false
set_option maxRecDepth 100000
theorem sgT_t : sgnT true = { data := #[45] } := rfl
theorem sgT_f : sgnT false = { data := #[] } := rfl
theorem ptT_nil (A : List Int) : ptT A [] = tx A := by unfold ptT; rw [if_pos rfl]
theorem fnT_near (k : Nat) (L : List Int) (h : -6 ≤ (L.length : Int) - 1 - k) (n : Nat) (hn : (zpad (k + 1) L).length = n + k) : fnT (-(k : Int)) L = ptT ((zpad (k + 1) L).take n) ((zpad (k + 1) L).drop n) := by
  unfold fnT
  rw [if_pos ⟨by omega, by omega⟩, show (- -(k : Int)).toNat = k by omega, hn, Nat.add_sub_cancel]
theorem fnT_far (e : Int) (L : List Int) (h : ¬ (e ≤ 0 ∧ -6 ≤ (L.length : Int) - 1 + e)) : fnT e L = ptT (L.take 1) (L.drop 1) ++ { data := #[69] } ++ pwT ((L.length : Int) - 1 + e) := by
  unfold fnT
  rw [if_neg h]
/-- What a number that is right in the greater format has. -/
theorem right_128 (k : Int) (b : Bool) (e : Int) (s : ByteArray) (h : numB 128 k b e s = true) :
    (k = 1 ∧ s = tx (dl s) ∧ 0 < (dl s).length ∧ (dl s).length ≤ 34 ∧ -6176 ≤ e ∧ e ≤ 6111) ∨ k = 2 ∨ (k = 3 ∧ b = false) ∨ (k = 4 ∧ b = false) := by
  unfold numB at h
  rw [if_neg (by decide)] at h
  by_cases h1 : k = 1
  · rw [if_pos h1] at h
    simp only [Bool.and_eq_true, decide_eq_true_eq] at h
    obtain ⟨hn, h2, h3⟩ := h
    obtain ⟨hc, hlen, he⟩ := natB_dl _ s hn
    have h34 : ((dl s).length : Int) ≤ 34 := hlen
    exact .inl ⟨h1, he, hc.2.1, by omega, h2, h3⟩
  · rw [if_neg h1] at h
    by_cases h2 : k = 2
    · exact .inr (.inl h2)
    · rw [if_neg h2] at h
      by_cases h3 : k = 3 ∨ k = 4
      · rw [if_pos h3] at h
        simp only [Bool.and_eq_true, Bool.not_eq_true'] at h
        rcases h3 with q | q
        · exact .inr (.inr (.inl ⟨q, h.2.2⟩))
        · exact .inr (.inr (.inr ⟨q, h.2.2⟩))
      · rw [if_neg h3] at h
        cases h
end Go.Proofs.YteofommckgeemaaGreatDoor
namespace Go.Proofs.YteofommckgeemaaGreatDoor
open Go.RowKit
set_option linter.unusedVariables false
set_option maxRecDepth 100000
theorem rep0_z (n : Nat) (hn : n ≤ 600) (w : World) :
    Calls Tryz.prog 184 #[.string { data := #[48] }, .int .i64 n] w fun e w' => e = .returned (.string (tx (List.replicate n 0))) ∧ Below w.heap.size w w' := by
  have := Tryz.strings_Repeat { data := #[48] } n w (by omega) (by show 1 * n ≤ _; omega)
  rw [show ({ data := #[48] } : ByteArray).data.toList = [48] from rfl, rep_tx] at this
  exact this
theorem iSplit_z (ds : List Int) (k n : Nat) (hl : ds.length ≤ 300) (hk : k ≤ 200) (hn : (zpad (k + 1) ds).length = n + k) (w : World) :
    Calls Tryz.prog 253 #[.string (tx ds), .int .i64 k] w fun e w' => e = .returned (.tuple #[.string (tx ((zpad (k + 1) ds).take n)), .string (tx ((zpad (k + 1) ds).drop n))]) ∧ Below w.heap.size w w' := by
  have hlen := zpad_len (k + 1) ds
  obtain ⟨j, hj⟩ : ∃ j : Nat, k + 1 - ds.length = j := ⟨_, rfl⟩
  have HZ : Hid (zpad (k + 1) ds = List.replicate j 0 ++ ds) := by show _ = _; unfold zpad; rw [hj]
  have hz := tx_size ds
  have w1 : IntKind.i64.wrap ((k : Int) + 1) = (k : Int) + 1 := by rw [IntKind.wrap_i64]; omega
  have w2 : IntKind.i64.wrap ((k : Int) + 1 - (ds.length : Int)) = (k : Int) + 1 - (ds.length : Int) := by rw [IntKind.wrap_i64]; omega
  have HR : Hid (∀ X, Calls Tryz.prog 184 #[.string { data := #[48] }, .int .i64 j] X fun e w' => e = .returned (.string (tx (List.replicate j 0))) ∧ Below X.heap.size X w') := fun X => rep0_z j (by omega) X
  have hap : tx (List.replicate j 0) ++ tx ds = tx (List.replicate j 0 ++ ds) := tx_append _ _
  have hz2 : (tx (List.replicate j 0)).size = j := by rw [tx_size, List.length_replicate]
  have t1 := tx_take (zpad (k + 1) ds) n (by omega)
  have t2 := tx_drop (zpad (k + 1) ds) n (by omega)
  have hsz : (tx (zpad (k + 1) ds)).size = n + k := by rw [tx_size, hn]
  have HL : Hid (ds.length ≤ 300 ∧ k ≤ 200 ∧ n + k = max (k + 1) ds.length ∧ k + 1 - ds.length = j) := ⟨hl, hk, by omega, hj⟩
  rw [HZ.out] at t1 t2 hsz ⊢
  rw [hsz] at t2
  clear hn hlen HZ
  generalize List.replicate j 0 ++ ds = D at *
  have hnn : n ≤ 600 := by have := HL.out; omega
  have hj2 : j ≤ 300 := by have := HL.out; omega
  have w3 : IntKind.i64.wrap ((n : Int) + (k : Int) - (k : Int)) = (n : Int) := by rw [IntKind.wrap_i64]; omega
  have b1 : (n : Int) ≤ (n : Int) + (k : Int) := by omega
  clear hj
  by_cases hd : (0 : Int) < (k : Int) + 1 - (ds.length : Int)
  · have HJ : Hid ((k : Int) + 1 - (ds.length : Int) = (j : Int)) := by have := HL.out; show _ = _; omega
    rw [HJ.out] at w2 hd
    have hJ := HJ.out
    go_enter Tryz.func253, Tryz.ntmps253
    go_wp2_with fail
    refine (HR.out _).mono ?_
    rintro e w2 ⟨rfl, hb⟩
    clear hJ HJ hd
    go_wp2_with fail
    go_quiet (fail)
    go_wp2
    go_ret2
    exact ⟨rfl, below_drewN hb _⟩
  · obtain rfl : j = 0 := by have := HL.out; omega
    have HR0 : Hid (∀ X, Calls Tryz.prog 184 #[.string { data := #[48] }, .int .i64 0] X fun e w' => e = .returned (.string (tx [])) ∧ Below X.heap.size X w') := HR.out
    have hap0 : tx [] ++ tx ds = tx D := hap
    have hz0 : (tx []).size = 0 := hz2
    clear hap hz2
    clear HR
    have hmx : max (0 : Int) ((k : Int) + 1 - (ds.length : Int)) = 0 := by omega
    go_enter Tryz.func253, Tryz.ntmps253
    go_wp2_with fail
    refine (HR0.out _).mono ?_
    rintro e w2 ⟨rfl, hb⟩
    clear hd hmx
    go_wp2_with fail
    go_quiet (fail)
    go_wp2
    go_ret2
    exact ⟨rfl, below_drewN hb _⟩
theorem iClone_z (s : ByteArray) (w : World) (hs : s.size ≤ 600) :
    Calls Tryz.prog 209 #[.string s] w fun e w' => e = .returned (.string s) ∧ Below w.heap.size w w' := by
  go_enter Tryz.func209, Tryz.ntmps209
  go_wp2_with fail
  refine (Tryz.stringslite_Clone s _ (by omega)).mono ?_
  rintro e w1 ⟨rfl, hb⟩
  go_wp2
  go_ret
  exact ⟨rfl, hb⟩
end Go.Proofs.YteofommckgeemaaGreatDoor
namespace Go.Proofs.YteofommckgeemaaGreatDoor
open Go.RowKit
set_option linter.unusedVariables false
set_option maxRecDepth 100000
/-- The library's table of the powers of ten lies as its initialiser lays it. -/
def PTab (w : World) : Prop := Lib.TabIs Tryz.prog w "internal/strconv.uint64pow10" .u64 Lib.pow10Tab
theorem gPow : Tryz.prog.globalNamed "internal/strconv.uint64pow10" = some 3 := by kernel_rfl
theorem PTab.next {w w' : World} (h : PTab w) (hb : Below w.heap.size w w') : PTab w' := Go.Joins.tab_stays gPow h hb (Nat.le_refl _)
theorem belGrow (w : World) (k : Nat) (os : Array Obj) : Below w.heap.size w (Go.Sort.grow (w.drewN k) os) :=
  ⟨rfl, rfl, rfl, by show w.heap.size ≤ (w.heap ++ os).size; rw [Array.size_append]; omega, fun j hj => by show (w.heap ++ os)[j]? = w.heap[j]?; exact Array.getElem?_append_left hj⟩
theorem fmtInt_any (n : Int) (h : -7000 ≤ n ∧ n ≤ 7000) (w : World) (ht : PTab w) : Calls Tryz.prog 103 #[.int .i64 n, .int .i64 10] w fun e w' => e = .returned (.string ⟨(Lib.itoa n).toArray⟩) ∧ Below w.heap.size w w' := by
  refine (Tryz.strconv_FormatInt_10 n (by omega) (by omega) w ht).mono ?_
  rintro e w' ⟨rfl, k, os, rfl⟩
  exact ⟨rfl, belGrow _ _ _⟩
theorem itoa_neg' (n : Int) (h : n < 0) : (⟨(Lib.itoa n).toArray⟩ : ByteArray) = { data := #[45] } ++ tx (dcL (-n).toNat) := by
  unfold Lib.itoa
  rw [if_pos h, dcL_tx, show n.natAbs = (-n).toNat by omega]
  apply ByteArray.ext
  rw [ByteArray.data_append]
  show _ = #[45] ++ (Lib.decDigits (-n).toNat).toArray
  simp
theorem itoa_pos' (n : Int) (h : ¬ n < 0) : (⟨(Lib.itoa n).toArray⟩ : ByteArray) = tx (dcL n.toNat) := by
  unfold Lib.itoa
  rw [if_neg h, dcL_tx]
theorem withPoint_any (A B : List Int) (hA : A.length ≤ 100) (hB : B.length ≤ 100) (w : World) : Calls Tryz.prog 252 #[.string (tx A), .string (tx B)] w fun x w' => x = .returned (.string (ptT A B)) ∧ w' = w := by
  have z1 := tx_size A
  have z2 := tx_size B
  have hlen : (tx B).toList.isEmpty = decide (B = []) := by
    rw [ByteArray.toList_eq, tx_data]
    cases B <;> rfl
  by_cases h : B = []
  · have e : ptT A B = tx A := by rw [h, ptT_nil]
    rw [decide_eq_true h] at hlen
    rw [e]
    clear e h
    go_enter Tryz.func252, Tryz.ntmps252
    go_wp2
    go_ret
    exact ⟨rfl, rfl⟩
  · have e : ptT A B = tx A ++ { data := #[46] } ++ tx B := by unfold ptT; rw [if_neg h]
    rw [decide_eq_false h] at hlen
    rw [e]
    clear e h
    go_enter Tryz.func252, Tryz.ntmps252
    go_wp2
    go_ret
    exact ⟨rfl, rfl⟩
theorem withSign_any (x : Int) (h : -7000 ≤ x ∧ x ≤ 7000) (w : World) (ht : PTab w) : Calls Tryz.prog 254 #[.int .i64 x] w fun y w' => y = .returned (.string (pwT x)) ∧ Below w.heap.size w w' := by
  have HF : Hid (∀ X, PTab X → Calls Tryz.prog 103 #[.int .i64 x, .int .i64 10] X fun e w' => e = .returned (.string ⟨(Lib.itoa x).toArray⟩) ∧ Below X.heap.size X w') := fun X q => fmtInt_any x h X q
  have HT : Hid (PTab w) := ht
  clear ht
  by_cases hn : x < 0
  · have e : pwT x = (⟨(Lib.itoa x).toArray⟩ : ByteArray) := by rw [itoa_neg' x hn]; unfold pwT; rw [if_pos hn]
    rw [e]
    clear e
    generalize (⟨(Lib.itoa x).toArray⟩ : ByteArray) = T at *
    go_enter Tryz.func254, Tryz.ntmps254
    go_wp2_with fail
    refine (HF.out _ HT.out).mono ?_
    rintro y w1 ⟨rfl, hb1⟩
    go_wp2
    go_ret
    exact ⟨rfl, hb1⟩
  · have e : pwT x = { data := #[43] } ++ (⟨(Lib.itoa x).toArray⟩ : ByteArray) := by rw [itoa_pos' x hn]; unfold pwT; rw [if_neg hn]
    have hz : (⟨(Lib.itoa x).toArray⟩ : ByteArray).size ≤ 4 := by rw [itoa_pos' x hn, tx_size]; exact dcL_len _ (by omega)
    rw [e]
    clear e
    generalize (⟨(Lib.itoa x).toArray⟩ : ByteArray) = T at *
    go_enter Tryz.func254, Tryz.ntmps254
    go_wp2_with fail
    refine (HF.out _ HT.out).mono ?_
    rintro y w1 ⟨rfl, hb1⟩
    go_wp2
    go_ret
    exact ⟨rfl, hb1⟩
theorem pwT_size (x : Int) (h : -7000 ≤ x ∧ x ≤ 7000) : (pwT x).size ≤ 5 := by
  unfold pwT
  split
  · rw [ByteArray.size_append, tx_size]; have := dcL_len (-x).toNat (by omega); show 1 + _ ≤ _; omega
  · rw [ByteArray.size_append, tx_size]; have := dcL_len x.toNat (by omega); show 1 + _ ≤ _; omega
theorem ptT_size (A B : List Int) (hA : A.length ≤ 100) (hB : B.length ≤ 100) : (ptT A B).size ≤ 201 := by
  unfold ptT
  split
  · rw [tx_size]; omega
  · rw [ByteArray.size_append, ByteArray.size_append, tx_size, tx_size]; show _ + 1 + _ ≤ _; omega
theorem fnT_size (e : Int) (L : List Int) (hL : 0 < L.length) (hl : L.length ≤ 34) (he : -6176 ≤ e ∧ e ≤ 6111) : (fnT e L).size ≤ 300 := by
  unfold fnT
  split
  · rename_i h
    have := zpad_len ((-e).toNat + 1) L
    have := ptT_size ((zpad ((-e).toNat + 1) L).take ((zpad ((-e).toNat + 1) L).length - (-e).toNat)) ((zpad ((-e).toNat + 1) L).drop ((zpad ((-e).toNat + 1) L).length - (-e).toNat)) (by rw [List.length_take]; omega) (by rw [List.length_drop]; omega)
    omega
  · have h1 := ptT_size (L.take 1) (L.drop 1) (by rw [List.length_take]; omega) (by rw [List.length_drop]; omega)
    have h2 := pwT_size ((L.length : Int) - 1 + e) (by omega)
    rw [ByteArray.size_append, ByteArray.size_append]
    show _ + 1 + _ ≤ _
    omega
theorem usT_size (k : Int) (b : Bool) (e : Int) (s : ByteArray) (h : numB 128 k b e s = true) : (usT k e s).size ≤ 300 := by
  rcases right_128 k b e s h with ⟨rfl, hs, h0, h1, e0, e1⟩ | rfl | ⟨rfl, rfl⟩ | ⟨rfl, rfl⟩
  · exact fnT_size e (dl s) h0 h1 ⟨e0, e1⟩
  · unfold usT; rw [if_pos rfl]; decide
  · unfold usT; rw [if_neg (by decide), if_pos rfl]; decide
  · unfold usT; rw [if_neg (by decide), if_neg (by decide), if_pos rfl]; decide
set_option maxRecDepth 100000 in
set_option maxHeartbeats 1000000 in
theorem unsigned_near (b : Bool) (k : Nat) (L : List Int) (hL : 0 < L.length) (hl : L.length ≤ 34) (h6 : -6 ≤ (L.length : Int) - 1 - k) (w : World) :
    Calls Tryz.prog 210 #[numV 1 b (-(k : Int)) (tx L)] w fun x w' => x = .returned (.string (fnT (-(k : Int)) L)) ∧ Below w.heap.size w w' := by
  have hlen := zpad_len (k + 1) L
  obtain ⟨n, hn⟩ : ∃ n, (zpad (k + 1) L).length = n + k := ⟨(zpad (k + 1) L).length - k, by omega⟩
  rw [fnT_near k L h6 n hn]
  have HS : Hid (∀ X, Calls Tryz.prog 253 #[.string (tx L), .int .i64 k] X fun e w' => e = .returned (.tuple #[.string (tx ((zpad (k + 1) L).take n)), .string (tx ((zpad (k + 1) L).drop n))]) ∧ Below X.heap.size X w') := fun X => iSplit_z L k n (by omega) (by omega) hn X
  have HP : Hid (∀ X, Calls Tryz.prog 252 #[.string (tx ((zpad (k + 1) L).take n)), .string (tx ((zpad (k + 1) L).drop n))] X fun x w' => x = .returned (.string (ptT ((zpad (k + 1) L).take n) ((zpad (k + 1) L).drop n))) ∧ w' = X) := fun X => withPoint_any _ _ (by rw [List.length_take]; omega) (by rw [List.length_drop]; omega) X
  generalize tx ((zpad (k + 1) L).take n) = TA at *
  generalize tx ((zpad (k + 1) L).drop n) = TB at *
  generalize ptT ((zpad (k + 1) L).take n) ((zpad (k + 1) L).drop n) = TP at *
  have h4 := at4_new w (.int .i64 1) (.bool b) (.int .i64 (-(k : Int))) (.string (tx L))
  have HA : Hid (At4 (w.alloc (.cells #[.int .i64 1, .bool b, .int .i64 (-(k : Int)), .string (tx L)] 78)) w.heap.size (.int .i64 1) (.bool b) (.int .i64 (-(k : Int))) (.string (tx L)) ∧ Below w.heap.size w (w.alloc (.cells #[.int .i64 1, .bool b, .int .i64 (-(k : Int)), .string (tx L)] 78))) := ⟨h4, (Below.refl _ _).alloc (Nat.le_refl _) _⟩
  have w1 : IntKind.i64.wrap ((L.length : Int) - 1) = (L.length : Int) - 1 := by rw [IntKind.wrap_i64]; omega
  have w2 : IntKind.i64.wrap ((L.length : Int) - 1 + -(k : Int)) = (L.length : Int) - 1 + -(k : Int) := by rw [IntKind.wrap_i64]; omega
  have w3 : IntKind.i64.wrap ((k : Int)) = (k : Int) := by rw [IntKind.wrap_i64]; omega
  have h6' : -6 ≤ (L.length : Int) - 1 + -(k : Int) := by omega
  have hk0 : -(k : Int) ≤ 0 := by omega
  have hz := tx_size L
  clear h4 hlen hn h6
  go_enter Tryz.func210, Tryz.ntmps210
  go_wp2_with fail
  refine (HS.out _).mono ?_
  rintro x w1 ⟨rfl, hb1⟩
  go_wp2_with fail
  refine (HP.out _).mono ?_
  rintro x w2 ⟨rfl, rfl⟩
  go_wp2
  go_ret
  exact ⟨rfl, bel1 HA.out.2 hb1⟩
set_option maxRecDepth 100000 in
set_option maxHeartbeats 1000000 in
theorem unsigned_far (b : Bool) (e : Int) (L : List Int) (hL : 0 < L.length) (hl : L.length ≤ 34) (he : -6176 ≤ e ∧ e ≤ 6111) (h6 : ¬ (e ≤ 0 ∧ -6 ≤ (L.length : Int) - 1 + e)) (w : World) (ht : PTab w) :
    Calls Tryz.prog 210 #[numV 1 b e (tx L)] w fun x w' => x = .returned (.string (fnT e L)) ∧ Below w.heap.size w w' := by
  rw [fnT_far e L h6]
  have t1 := tx_take L 1 (by omega)
  have t2 := tx_drop L 1 (by omega)
  have hz := tx_size L
  rw [hz] at t2
  obtain ⟨x, hx⟩ : ∃ x, (L.length : Int) - 1 + e = x := ⟨_, rfl⟩
  have hx1 : -7000 ≤ x ∧ x ≤ 7000 := by omega
  have HP : Hid (∀ X, Calls Tryz.prog 252 #[.string (tx (L.take 1)), .string (tx (L.drop 1))] X fun x w' => x = .returned (.string (ptT (L.take 1) (L.drop 1))) ∧ w' = X) := fun X => withPoint_any _ _ (by rw [List.length_take]; omega) (by rw [List.length_drop]; omega) X
  have HS : Hid (∀ X, PTab X → Calls Tryz.prog 254 #[.int .i64 x] X fun y w' => y = .returned (.string (pwT x)) ∧ Below X.heap.size X w') := fun X q => withSign_any x hx1 X q
  have zP := ptT_size (L.take 1) (L.drop 1) (by rw [List.length_take]; omega) (by rw [List.length_drop]; omega)
  have zW := pwT_size x hx1
  have h4 := at4_new w (.int .i64 1) (.bool b) (.int .i64 e) (.string (tx L))
  have HA : Hid (At4 (w.alloc (.cells #[.int .i64 1, .bool b, .int .i64 e, .string (tx L)] 78)) w.heap.size (.int .i64 1) (.bool b) (.int .i64 e) (.string (tx L)) ∧ Below w.heap.size w (w.alloc (.cells #[.int .i64 1, .bool b, .int .i64 e, .string (tx L)] 78))) := ⟨h4, (Below.refl _ _).alloc (Nat.le_refl _) _⟩
  have HT : Hid (PTab w) := ht
  have w1 : IntKind.i64.wrap ((L.length : Int) - 1) = (L.length : Int) - 1 := by rw [IntKind.wrap_i64]; omega
  have w2 : IntKind.i64.wrap ((L.length : Int) - 1 + e) = (L.length : Int) - 1 + e := by rw [IntKind.wrap_i64]; omega
  have hb1 : (1 : Int) ≤ L.length := by omega
  rw [hx] at w2 h6 ⊢
  have HH6 : Hid (¬ (e ≤ 0 ∧ -6 ≤ x)) := h6
  have HC : Hid (e ≤ 0 → x < -6) := fun q => by omega
  generalize tx (L.take 1) = TA at *
  generalize tx (L.drop 1) = TB at *
  generalize ptT (L.take 1) (L.drop 1) = TP at *
  generalize pwT x = TW at *
  generalize tx L = TL at *
  clear h4 h6 ht
  have n1 : ¬ 9223372036854775807 < TP.size + 1 := by omega
  have n2 : ¬ 9223372036854775807 < TP.size + 1 + TW.size := by omega
  have HX0 : Hid (∀ wa : World, Below wa.heap.size wa wa.drew) := fun wa => (Below.refl _ _).drew
  by_cases c3 : e ≤ 0
  · have c4 := HC.out c3
    clear HC
    go_enter Tryz.func210, Tryz.ntmps210
    go_upto_region 11 with fail
    have HT0 : Hid (PTab (w.alloc (.cells #[.int .i64 1, .bool b, .int .i64 e, .string TL] 78))) := HT.out.next HA.out.2
    have hlt : Hid (w.heap.size < (w.alloc (.cells #[.int .i64 1, .bool b, .int .i64 e, .string TL] 78)).heap.size) := by show _ < _; simp
    generalize (w.alloc (.cells #[.int .i64 1, .bool b, .int .i64 e, .string TL] 78)) = w0 at *
    refine wp_region_class (C := fun W => Below w0.heap.size w0 W) (by kernel_rfl) (by kernel_rfl) (HX0.out w0) ?_
    repeat (refine wpQuiet_step (fun K hK => ?_); go_simp; first | (refine hK _ ?_; clear hK K) | (apply Exists.intro; refine ⟨fun wx hC => ?_, hK _ ?_⟩; (first | exact rfl | ((with_reducible refine Calls.class_of (HS.out wx (HT0.out.next hC)) ?_); exact fun w' hb => bel1 hC hb) | ((with_reducible refine (HP.out wx).mono ?_); rintro x w' ⟨rfl, rfl⟩; exact ⟨rfl, hC⟩) | (obtain ⟨a0, a1, a2, a3, a4⟩ := HA.out.1.below hC hlt.out; go_simp; exact rfl)); clear hK K))
    refine wpQuiet_nil ?_
    intro w2 hb2
    go_wp2
    go_ret
    exact ⟨rfl, bel1 HA.out.2 hb2⟩
  · clear HC
    go_enter Tryz.func210, Tryz.ntmps210
    go_upto_region 11 with fail
    have HT0 : Hid (PTab (w.alloc (.cells #[.int .i64 1, .bool b, .int .i64 e, .string TL] 78))) := HT.out.next HA.out.2
    have hlt : Hid (w.heap.size < (w.alloc (.cells #[.int .i64 1, .bool b, .int .i64 e, .string TL] 78)).heap.size) := by show _ < _; simp
    generalize (w.alloc (.cells #[.int .i64 1, .bool b, .int .i64 e, .string TL] 78)) = w0 at *
    refine wp_region_class (C := fun W => Below w0.heap.size w0 W) (by kernel_rfl) (by kernel_rfl) (HX0.out w0) ?_
    repeat (refine wpQuiet_step (fun K hK => ?_); go_simp; first | (refine hK _ ?_; clear hK K) | (apply Exists.intro; refine ⟨fun wx hC => ?_, hK _ ?_⟩; (first | exact rfl | ((with_reducible refine Calls.class_of (HS.out wx (HT0.out.next hC)) ?_); exact fun w' hb => bel1 hC hb) | ((with_reducible refine (HP.out wx).mono ?_); rintro x w' ⟨rfl, rfl⟩; exact ⟨rfl, hC⟩) | (obtain ⟨a0, a1, a2, a3, a4⟩ := HA.out.1.below hC hlt.out; go_simp; exact rfl)); clear hK K))
    refine wpQuiet_nil ?_
    intro w2 hb2
    go_wp2
    go_ret
    exact ⟨rfl, bel1 HA.out.2 hb2⟩
theorem unsigned_any (k : Int) (b : Bool) (e : Int) (s : ByteArray) (hO : numB 128 k b e s = true) (w : World) (ht : PTab w) :
    Calls Tryz.prog 210 #[numV k b e s] w fun x w' => x = .returned (.string (usT k e s)) ∧ Below w.heap.size w w' := by
  rcases right_128 k b e s hO with ⟨rfl, hs1, h0, h1, e0, e1⟩ | hk
  · have hu : usT 1 e s = fnT e (dl s) := by unfold usT; rw [if_neg (by decide), if_neg (by decide), if_neg (by decide)]
    rw [hu]
    generalize dl s = L at *
    subst hs1
    by_cases hn : e ≤ 0 ∧ -6 ≤ (L.length : Int) - 1 + e
    · obtain ⟨m, rfl⟩ : ∃ m : Nat, e = -(m : Int) := ⟨(-e).toNat, by omega⟩
      exact unsigned_near b m L h0 h1 (by omega) w
    · exact unsigned_far b e L h0 h1 ⟨e0, e1⟩ hn w ht
  · clear hO ht
    rcases hk with rfl | ⟨rfl, rfl⟩ | ⟨rfl, rfl⟩
    all_goals
      go_enter Tryz.func210, Tryz.ntmps210
      go_wp2
      go_ret
      exact ⟨rfl, (Below.refl _ _).alloc (Nat.le_refl _) _⟩
theorem iShowNum_any (k : Int) (b : Bool) (e : Int) (s : ByteArray) (w : World) (hs : s.size ≤ 4611686018427387904) (ht : PTab w) :
    Calls Tryz.prog 150 #[numV k b e s] w fun x w' => x = .returned (.string (shT k b e s)) ∧ Below w.heap.size w w' := by
  have HT : Hid (PTab w) := ht
  clear ht
  cases hO : numB 128 k b e s with
  | false =>
    have HNb : Hid (∀ X, Calls Tryz.prog 152 #[.int .i64 128, numV k b e s] X fun x w' => x = .returned (.bool false) ∧ Below X.heap.size X w') := fun X => by
      have := iNumOk_any 128 k b e s X hs
      rwa [hO] at this
    have hE : shT k b e s = { data := #[] } := by unfold shT; rw [hO]; rfl
    rw [hE]
    clear hE hO hs
    go_enter Tryz.func150, Tryz.ntmps150
    go_wp2_with fail
    refine (HNb.out _).mono ?_
    rintro x w1 ⟨rfl, hb1⟩
    go_wp2
    go_ret
    exact ⟨rfl, bel1 ((Below.refl _ _).alloc (Nat.le_refl _) _) hb1⟩
  | true =>
    have hE : shT k b e s = sgnT b ++ usT k e s := by unfold shT; rw [hO]; rfl
    rw [hE]
    have HNb : Hid (∀ X, Calls Tryz.prog 152 #[.int .i64 128, numV k b e s] X fun x w' => x = .returned (.bool true) ∧ Below X.heap.size X w') := fun X => by
      have := iNumOk_any 128 k b e s X hs
      rwa [hO] at this
    have zU := usT_size k b e s hO
    have HU : Hid (∀ X, PTab X → Calls Tryz.prog 210 #[numV k b e s] X fun x w' => x = .returned (.string (usT k e s)) ∧ Below X.heap.size X w') := fun X q => unsigned_any k b e s hO X q
    have HCl : Hid (∀ X, Calls Tryz.prog 209 #[.string (sgnT b ++ usT k e s)] X fun y w' => y = .returned (.string (sgnT b ++ usT k e s)) ∧ Below X.heap.size X w') := fun X => iClone_z (sgnT b ++ usT k e s) X (by
      rw [ByteArray.size_append]
      have : (sgnT b).size ≤ 1 := by cases b <;> decide
      omega)
    generalize usT k e s = TU at *
    have h4 := at4_new w (.int .i64 k) (.bool b) (.int .i64 e) (.string s)
    have HA : Hid (At4 (w.alloc (.cells #[.int .i64 k, .bool b, .int .i64 e, .string s] 78)) w.heap.size (.int .i64 k) (.bool b) (.int .i64 e) (.string s) ∧ Below w.heap.size w (w.alloc (.cells #[.int .i64 k, .bool b, .int .i64 e, .string s] 78))) := ⟨h4, (Below.refl _ _).alloc (Nat.le_refl _) _⟩
    clear h4 hO hs hE
    cases b
    all_goals
      first | rw [sgT_f] at HCl ⊢ | rw [sgT_t] at HCl ⊢
      go_enter Tryz.func150, Tryz.ntmps150
      go_wp2_with fail
      refine (HNb.out _).mono ?_
      rintro x w1 ⟨rfl, hb1⟩
      have HA1 : Hid (At4 w1 w.heap.size (.int .i64 k) (.bool _) (.int .i64 e) (.string s) ∧ Below w.heap.size w w1) := ⟨HA.out.1.below hb1 (by simp), HA.out.2.trans (hb1.mono HA.out.2.size)⟩
      have HT1 : Hid (PTab w1) := HT.out.next HA1.out.2
      obtain ⟨a0, a1, a2, a3, a4⟩ := HA1.out.1
      clear hb1 HA HNb HT
      go_wp2_with fail
      refine (HU.out _ HT1.out).mono ?_
      rintro x w2 ⟨rfl, hb2⟩
      clear a0 a1 a2 a3 a4
      go_wp2_with fail
      refine (HCl.out _).mono ?_
      rintro x w3 ⟨rfl, hb3⟩
      go_wp2
      go_ret
      exact ⟨rfl, bel1 (bel1 HA1.out.2 hb2) hb3⟩
end Go.Proofs.YteofommckgeemaaGreatDoor
namespace Go.Proofs.YteofommckgeemaaGreatDoor
set_option linter.unusedVariables false
set_option maxRecDepth 100000
/-- Ten bits by the kind of the three digits and what is left of each. -/
def dcK (k b d f h j m : Int) : Int :=
  if k = 0 then b * 256 + d * 128 + f * 32 + h * 16 + j * 2 + m
  else if k = 1 then b * 256 + d * 128 + f * 32 + h * 16 + 8 + m
  else if k = 2 then b * 256 + d * 128 + j * 32 + h * 16 + 10 + m
  else if k = 4 then j * 256 + d * 128 + f * 32 + h * 16 + 12 + m
  else if k = 6 then j * 256 + d * 128 + h * 16 + 14 + m
  else if k = 5 then f * 256 + d * 128 + 32 + h * 16 + 14 + m
  else if k = 3 then b * 256 + d * 128 + 64 + h * 16 + 14 + m
  else d * 128 + 96 + h * 16 + 14 + m
/-- .. of three digits. -/
def dcD (x y z : Int) : Int := dcK (x / 8 * 4 + y / 8 * 2 + z / 8) (x % 8 / 2) (x % 2) (y % 8 / 2) (y % 2) (z % 8 / 2) (z % 2)
/-- .. of a number from 0 to 999; -1 of any other. -/
def dcl (n : Int) : Int := if 0 ≤ n ∧ n ≤ 999 then dcD (n / 100) (n / 10 % 10) (n % 10) else -1
/-- The number that ten bits stand for, by their fields. -/
def unK (b : Int) : Int :=
  let p := b / 256; let d := b / 128 % 2; let q := b / 32 % 4; let h := b / 16 % 2; let v := b / 8 % 2; let r := b / 2 % 4; let m := b % 2
  if v = 0 then (p * 2 + d) * 100 + (q * 2 + h) * 10 + (r * 2 + m)
  else if r = 0 then (p * 2 + d) * 100 + (q * 2 + h) * 10 + (8 + m)
  else if r = 1 then (p * 2 + d) * 100 + (8 + h) * 10 + (q * 2 + m)
  else if r = 2 then (8 + d) * 100 + (q * 2 + h) * 10 + (p * 2 + m)
  else if q = 0 then (8 + d) * 100 + (8 + h) * 10 + (p * 2 + m)
  else if q = 1 then (8 + d) * 100 + (p * 2 + h) * 10 + (8 + m)
  else if q = 2 then (p * 2 + d) * 100 + (8 + h) * 10 + (8 + m)
  else (8 + d) * 100 + (8 + h) * 10 + (8 + m)
/-- .. -1 of what is none. -/
def und (b : Int) : Int := if 0 ≤ b ∧ b ≤ 1023 then unK b else -1
/-- The canonical bits. -/
def can (b : Int) : Int := dcl (und b)
end Go.Proofs.YteofommckgeemaaGreatDoor
namespace Go.Proofs.YteofommckgeemaaGreatDoor
set_option linter.unusedVariables false
set_option maxRecDepth 100000
/-- What k bits of a list stand for, from the place i on, the high one first. -/
def hb (b : List Int) (i : Nat) : Nat → Int
  | 0 => 0
  | k + 1 => hb b i k * 2 + b.getD (i + k) 0
/-- What a list of bits stands for. -/
def hbv (b : List Int) : Int := hb b 0 b.length
end Go.Proofs.YteofommckgeemaaGreatDoor

namespace Go.Proofs.YteofommckgeemaaGreatDoor
set_option linter.unusedVariables false
set_option maxRecDepth 100000
theorem strip_self (ds : List Int) (h : Canon ds) : strip ds = ds := by
  obtain ⟨-, hp, hh⟩ := h
  match ds, hp, hh with
  | [d], _, _ => rfl
  | d :: e :: r, _, hh =>
    have : d ≠ 0 := by rcases hh with c | c; simp at c; exact c
    simp only [strip]
    rw [if_neg this]
theorem strip_noughts (n : Nat) (ds : List Int) (h : ds ≠ []) : strip (List.replicate n 0 ++ ds) = strip ds := by
  induction n with
  | zero => rfl
  | succ n ih =>
    rw [List.replicate_succ, List.cons_append]
    cases hq : List.replicate n (0 : Int) ++ ds with
    | nil => exact absurd (List.append_eq_nil_iff.1 hq).2 h
    | cons x y =>
      have : strip (0 :: x :: y) = strip (x :: y) := by simp [strip]
      rw [this, ← hq, ih]
end Go.Proofs.YteofommckgeemaaGreatDoor

namespace Go.Proofs.YteofommckgeemaaGreatDoor
set_option linter.unusedVariables false
set_option maxRecDepth 100000
/-- Right digits with a right exponent that is wanted stay. -/
theorem finD_self (f : Int) (hf : f = 64 ∨ f = 128) (mode : Int) (neg : Bool) (ds : List Int) (e : Int) (hc : Canon ds) (hl : (ds.length : Int) ≤ limP f) (h0 : limL f ≤ e) (h1 : e ≤ limH f) : finD f mode neg ds e false e = (1, e, tx ds, 0) := by
  unfold finD
  by_cases hz : ds = [0]
  · rw [if_pos hz]
    subst hz
    have et : tx [0] = { data := #[48] } := by apply ByteArray.ext; rw [tx_data]; rfl
    rw [et, show min (limH f) (max (limL f) e) = e by omega]
  · rw [if_neg hz]
    have hp : limP f ≤ 34 := (lims f hf).1
    have hj : finJ (limP f).toNat ds.length false = 0 := rfl
    have hdr : finDr (limP f).toNat ds.length (limL f) e = 0 := by unfold finDr; omega
    have hV : finV mode neg (vl ds) 0 false = vl ds := by
      unfold finV rndV rndU
      rw [if_neg (by decide)]
      have hm : vl ds % 10 ^ 0 = 0 := by rw [Int.pow_zero]; exact Int.emod_one _
      have hL : rndL (vl ds) 0 false = false := by unfold rndL; rw [hm]; rfl
      have hu : upB mode neg (halfI (vl ds % 10 ^ 0) (10 ^ 0) false 0) (rndL (vl ds) 0 false) (vl ds / 10 ^ 0) = false := by
        rw [hL]; simp [upB, halfI, upO]
      rw [hu, Int.pow_zero, Int.ediv_one]
      simp
    have hL : finLs (vl ds) 0 false = false := by
      unfold finLs
      rw [if_neg (by decide)]
      have hm : vl ds % 10 ^ 0 = 0 := by rw [Int.pow_zero]; exact Int.emod_one _
      unfold rndL; rw [hm]; rfl
    unfold finN
    simp only [hj, Nat.add_zero, Int.pow_zero, Int.mul_one]
    have e0 : e - ((0 : Nat) : Int) = e := by omega
    rw [e0, hdr, hV, hL, ← nt_of ds (vl ds) hc rfl (by omega)]
    have hT : finT (limP f).toNat ds = ds := by unfold finT; rw [if_neg (by omega)]
    have hTE : finTE (limP f).toNat ds (e + ((0 : Nat) : Int)) = e := by unfold finTE; rw [if_neg (by omega)]; omega
    have hA : fA ds e e (limH f) = 0 := by unfold fA; omega
    have hB : fB (ds.length - 0) (limP f).toNat (e + ((0 : Nat) : Int)) e (limL f) = 0 := by unfold fB; omega
    have h3D : fin3D false ds e e (limL f) (limH f) (limP f).toNat = ds := by unfold fin3D; rw [hA, hB]; simp
    have h3E : fin3E false ds e e (limL f) (limH f) (limP f).toNat = e := by unfold fin3E; rw [hA, hB]; simp
    rw [hT, hTE, h3D, h3E]
    have hC : fC ds.length (limP f).toNat e (limH f) = 0 := by unfold fC; omega
    unfold fin5
    have h4E : fin4E ds e (limH f) (limP f).toNat = e := by unfold fin4E; rw [hC]; omega
    have h4D : fin4D ds e (limH f) (limP f).toNat = ds := by unfold fin4D; rw [hC]; simp
    rw [h4E, h4D, if_pos h1]
    rfl
end Go.Proofs.YteofommckgeemaaGreatDoor
