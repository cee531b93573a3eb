/-
  Numbers and results held against each other by the laws, walked.
-/
import Derived.Test.YtdkpiofeidcffaaGreatDoorFinP
import Derived.Test.YtdkpiofeidcffaaGreatDoorRnd2
import Derived.Lib.ItoaNum
import Derived.BigQuiet
import Derived.Deep.LoopGhost
import Derived.Test.YtdkpiofeidcffaaGreatDoorRdi
import Derived.Test.YtdkpiofeidcffaaGreatDoorShf
import Derived.Deep.QuietTactic
namespace Go.Proofs.YtdkpiofeidcffaaGreatDoor
open Go.RowKit
set_option linter.unusedVariables false
set_option maxRecDepth 100000
/-- The decimal digits of a whole number. -/
def dcL (n : Nat) : List Int := (Lib.decDigits n).map fun u => (u.toNat : Int) - 48
theorem dcL_tx (n : Nat) : tx (dcL n) = ⟨(Lib.decDigits n).toArray⟩ := by
  apply ByteArray.ext
  rw [tx_data]
  unfold dcL
  rw [List.map_map]
  congr 1
  rw [List.map_congr_left (g := id), List.map_id]
  intro u _
  show UInt8.ofNat (48 + ((u.toNat : Int) - 48)).toNat = u
  rw [show (48 + ((u.toNat : Int) - 48)).toNat = u.toNat by omega]
  exact UInt8.ofNat_toNat
theorem dcL_one {n : Nat} (h : n < 10) : dcL n = [(n : Int)] := by
  unfold dcL
  rw [Lib.decDigits, dif_pos h]
  show [(((UInt8.ofNat (48 + n)).toNat : Int) - 48)] = _
  rw [UInt8.toNat_ofNat', Nat.mod_eq_of_lt (by omega)]
  congr 1
  omega
theorem dcL_more {n : Nat} (h : ¬ n < 10) : dcL n = dcL (n / 10) ++ [((n % 10 : Nat) : Int)] := by
  unfold dcL
  rw [Lib.decDigits, dif_neg h, List.map_append]
  congr 1
  show [(((UInt8.ofNat (48 + n % 10)).toNat : Int) - 48)] = _
  rw [UInt8.toNat_ofNat', Nat.mod_eq_of_lt (by omega)]
  congr 1
  omega
theorem dcL_ne (n : Nat) : dcL n ≠ [] := by
  by_cases h : n < 10
  · rw [dcL_one h]; exact List.cons_ne_nil _ _
  · rw [dcL_more h]; exact fun q => by simp at q
theorem dcL_len (n : Nat) (h : n < 10000) : (dcL n).length ≤ 4 := by
  by_cases h1 : n < 10
  · rw [dcL_one h1]; simp
  rw [dcL_more h1]
  by_cases h2 : n / 10 < 10
  · rw [dcL_one h2]; simp
  rw [dcL_more h2]
  by_cases h3 : n / 10 / 10 < 10
  · rw [dcL_one h3]; simp
  rw [dcL_more h3, dcL_one (by omega : n / 10 / 10 / 10 < 10)]
  simp
/-- The parts of a text: a point ahead of what is behind it, if anything is; a power with its sign. -/
def ptT (A B : List Int) : ByteArray := if B = [] then tx A else tx A ++ { data := #[46] } ++ tx B
def pwT (x : Int) : ByteArray := if x < 0 then { data := #[45] } ++ tx (dcL (-x).toNat) else { data := #[43] } ++ tx (dcL x.toNat)
def fnT (e : Int) (L : List Int) : ByteArray :=
  if e ≤ 0 ∧ -6 ≤ (L.length : Int) - 1 + e then ptT ((zpad ((-e).toNat + 1) L).take ((zpad ((-e).toNat + 1) L).length - (-e).toNat)) ((zpad ((-e).toNat + 1) L).drop ((zpad ((-e).toNat + 1) L).length - (-e).toNat))
  else ptT (L.take 1) (L.drop 1) ++ { data := #[69] } ++ pwT ((L.length : Int) - 1 + e)
def sgnT (b : Bool) : ByteArray := if b then { data := #[45] } else { data := #[] }
def usT (k e : Int) (s : ByteArray) : ByteArray := if k = 2 then { data := #[73, 110, 102, 105, 110, 105, 116, 121] } else if k = 3 then { data := #[78, 97, 78] } else if k = 4 then { data := #[115, 78, 97, 78] } else fnT e (dl s)
def shT (k : Int) (b : Bool) (e : Int) (s : ByteArray) : ByteArray := if numB 128 k b e s then sgnT b ++ usT k e s else { data := #[] }
theorem emp_app (A : ByteArray) : ({ data := #[] } : ByteArray) ++ A = A := ByteArray.empty_append
theorem sgnT_app (b : Bool) (A B : ByteArray) : sgnT b ++ A ++ B = sgnT b ++ (A ++ B) := ByteArray.append_assoc
theorem nconv16 (d : Int) (W : World) : (convert 22 9 (.slice (some ⟨W.heap.size, 0, none⟩) 1 1)).run Tryz.prog (W.alloc (.cells #[.int .u8 (48 + d)] 5)) = .ok (.string (tx [d])) (W.alloc (.cells #[.int .u8 (48 + d)] 5)) :=
  run_convert_bytes_arg (P := Tryz.prog) _ 22 5 Tryz.underlying22 Tryz.underlying5 W.heap.size 0 1 1 [48 + d] rfl (fun i hi => by
    match i, hi with
    | 0, _ => simp) 9 Tryz.underlying9
/-- What is told so far of a number's digits, from the last one on. -/
def SoF (m : Nat) (n : Nat) (S : List Int) : Prop := (S = [] ∧ n = m) ∨ (S ≠ [] ∧ ((n = 0 ∧ dcL m = S) ∨ (0 < n ∧ dcL m = dcL n ++ S)))
theorem SoF.next {m n : Nat} {S : List Int} (h : SoF m n S) (hg : S = [] ∨ 0 < n) : SoF m (n / 10) (((n % 10 : Nat) : Int) :: S) := by
  refine .inr ⟨List.cons_ne_nil _ _, ?_⟩
  have key : dcL m = dcL n ++ S := by
    rcases h with ⟨rfl, rfl⟩ | ⟨h1, ⟨rfl, h2⟩ | ⟨h2, h3⟩⟩
    · rw [List.append_nil]
    · rcases hg with q | q
      · exact absurd q h1
      · omega
    · exact h3
  by_cases h10 : n < 10
  · refine .inl ⟨by omega, ?_⟩
    rw [key, dcL_one h10, Nat.mod_eq_of_lt h10]
    rfl
  · refine .inr ⟨by omega, ?_⟩
    rw [key, dcL_more h10, List.append_assoc]
    rfl
theorem SoF.last {m n : Nat} {S : List Int} (h : SoF m n S) (hg : S ≠ []) (h0 : n = 0) : dcL m = S := by
  rcases h with ⟨rfl, _⟩ | ⟨_, ⟨_, h2⟩ | ⟨h2, _⟩⟩
  · exact absurd rfl hg
  · exact h2
  · omega
set_option maxRecDepth 100000 in
theorem l16Int_any (m : Nat) (hm : m < 1000000) (w : World) : Calls Tryz.prog 21 #[.int .i64 m] w fun x w' => x = .returned (.string (tx (dcL m))) ∧ Below w.heap.size w w' := by
  go_enter Tryz.func21, Tryz.ntmps21
  go_wp2
  go_loopg [0, 3] (m + 1) (fun gk s0 s3 wx => ∃ (n : Nat) (S : List Int), s0 = .int .i64 n ∧ s3 = .string (tx S) ∧ Hid (SoF m n S) ∧ n ≤ m ∧ S.length + n ≤ m + 1 ∧ Hid (gk = if S = [] then m + 1 else n) ∧ Below w.heap.size w wx)
  case atStart => exact ⟨m, [], rfl, by rw [show tx [] = { data := #[] } from by apply ByteArray.ext; rw [tx_data]; rfl], .inl ⟨rfl, rfl⟩, Nat.le_refl _, by simp, by show _ = _; rw [if_pos rfl], Below.refl _ _⟩
  case round =>
    obtain ⟨n, S, rfl, rfl, hS, hn, hln, hgk, hbel⟩ := hrel
    have hsz := hbel.size
    have hlen : (tx S).toList.isEmpty = decide (S = []) := by
      rw [ByteArray.toList_eq, tx_data]
      cases S <;> rfl
    by_cases hg : S = [] ∨ 0 < n
    · have e1 : Int.tmod (n : Int) 10 = ((n % 10 : Nat) : Int) := by rw [Int.tmod_eq_emod_of_nonneg (by omega)]; omega
      have e2 : Int.tdiv (n : Int) 10 = ((n / 10 : Nat) : Int) := by rw [Int.tdiv_eq_ediv_of_nonneg (by omega)]; omega
      have hd : n % 10 ≤ 9 := by omega
      have hq : n / 10 ≤ n := by omega
      have HN := hS.out.next hg
      have hap : tx [((n % 10 : Nat) : Int)] ++ tx S = tx (((n % 10 : Nat) : Int) :: S) := tx_append _ _
      have hz1 : (tx [((n % 10 : Nat) : Int)]).size = 1 := tx_size _
      have hz2 := tx_size S
      have hln2 : S.length + 1 + n / 10 ≤ m + 1 := by
        rcases hg with q | q
        · rw [q, List.length_nil] at hln ⊢; omega
        · omega
      have HG : Hid ((if (((n % 10 : Nat) : Int) :: S) = [] then m + 1 else n / 10) < gk) := by
        rw [hgk.out]
        show _ < _
        rw [if_neg (List.cons_ne_nil _ _)]
        by_cases q : S = []
        · rw [if_pos q]; omega
        · rw [if_neg q]
          rcases hg with c | c
          · exact absurd c q
          · omega
      have HN1 : Hid (SoF m (n / 10) (((n % 10 : Nat) : Int) :: S)) := HN
      clear HN hgk
      generalize n % 10 = r at *
      generalize n / 10 = q at *
      have hcv := fun W => nconv16 (r : Int) W
      have w1 : IntKind.i64.wrap (48 + (r : Int)) = 48 + r := by rw [IntKind.wrap_i64]; omega
      have w2 : IntKind.u8.wrap (48 + (r : Int)) = 48 + r := by rw [IntKind.wrap_u8]; omega
      have w3 : IntKind.i64.wrap (r : Int) = r := by rw [IntKind.wrap_i64]; omega
      have w4 : IntKind.i64.wrap (q : Int) = q := by rw [IntKind.wrap_i64]; omega
      by_cases hS0 : S = []
      · rw [decide_eq_true hS0] at hlen
        clear hS0 hg hS
        go_wp2
        go_roundg (if (((r : Nat) : Int) :: S) = [] then m + 1 else q)
        case measure => exact HG.out
        case rel => exact ⟨q, _, rfl, congrArg _ hap, HN1, by omega, by rw [List.length_cons]; omega, rfl, hbel.alloc (by omega) _⟩
      · have hg' : (0 : Int) < (n : Int) := by
          rcases hg with c | c
          · exact absurd c hS0
          · omega
        rw [decide_eq_false hS0] at hlen
        clear hS0 hg hS
        go_wp2
        go_roundg (if (((r : Nat) : Int) :: S) = [] then m + 1 else q)
        case measure => exact HG.out
        case rel => exact ⟨q, _, rfl, congrArg _ hap, HN1, by omega, by rw [List.length_cons]; omega, rfl, hbel.alloc (by omega) _⟩
    · have hS0 : S ≠ [] := fun q => hg (.inl q)
      have hn0 : n = 0 := by have : ¬ 0 < n := fun q => hg (.inr q); omega
      subst hn0
      rw [decide_eq_false hS0] at hlen
      have HE := hS.out.last hS0 rfl
      clear hg hS hgk
      go_wp2
      go_ret
      exact ⟨by rw [HE]; rfl, hbel⟩
end Go.Proofs.YtdkpiofeidcffaaGreatDoor
namespace Go.Proofs.YtdkpiofeidcffaaGreatDoor
open Go.RowKit
set_option linter.unusedVariables false
set_option maxRecDepth 100000
theorem rep0_z (n : Nat) (hn : n ≤ 600) (w : World) :
    Calls Tryz.prog 74 #[.string { data := #[48] }, .int .i64 n] w fun e w' => e = .returned (.string (tx (List.replicate n 0))) ∧ Below w.heap.size w w' := by
  have := Tryz.strings_Repeat { data := #[48] } n w (by omega) (by show 1 * n ≤ _; omega)
  rw [show ({ data := #[48] } : ByteArray).data.toList = [48] from rfl, rep_tx] at this
  exact this
theorem iSplit_z (ds : List Int) (k n : Nat) (hl : ds.length ≤ 300) (hk : k ≤ 200) (hn : (zpad (k + 1) ds).length = n + k) (w : World) :
    Calls Tryz.prog 49 #[.string (tx ds), .int .i64 k] w fun e w' => e = .returned (.tuple #[.string (tx ((zpad (k + 1) ds).take n)), .string (tx ((zpad (k + 1) ds).drop n))]) ∧ Below w.heap.size w w' := by
  have hlen := zpad_len (k + 1) ds
  obtain ⟨j, hj⟩ : ∃ j : Nat, k + 1 - ds.length = j := ⟨_, rfl⟩
  have HZ : Hid (zpad (k + 1) ds = List.replicate j 0 ++ ds) := by show _ = _; unfold zpad; rw [hj]
  have hz := tx_size ds
  have w1 : IntKind.i64.wrap ((k : Int) + 1) = (k : Int) + 1 := by rw [IntKind.wrap_i64]; omega
  have w2 : IntKind.i64.wrap ((k : Int) + 1 - (ds.length : Int)) = (k : Int) + 1 - (ds.length : Int) := by rw [IntKind.wrap_i64]; omega
  have HR : Hid (∀ X, Calls Tryz.prog 74 #[.string { data := #[48] }, .int .i64 j] X fun e w' => e = .returned (.string (tx (List.replicate j 0))) ∧ Below X.heap.size X w') := fun X => rep0_z j (by omega) X
  have hap : tx (List.replicate j 0) ++ tx ds = tx (List.replicate j 0 ++ ds) := tx_append _ _
  have hz2 : (tx (List.replicate j 0)).size = j := by rw [tx_size, List.length_replicate]
  have t1 := tx_take (zpad (k + 1) ds) n (by omega)
  have t2 := tx_drop (zpad (k + 1) ds) n (by omega)
  have hsz : (tx (zpad (k + 1) ds)).size = n + k := by rw [tx_size, hn]
  have HL : Hid (ds.length ≤ 300 ∧ k ≤ 200 ∧ n + k = max (k + 1) ds.length ∧ k + 1 - ds.length = j) := ⟨hl, hk, by omega, hj⟩
  rw [HZ.out] at t1 t2 hsz ⊢
  rw [hsz] at t2
  clear hn hlen HZ
  generalize List.replicate j 0 ++ ds = D at *
  have hnn : n ≤ 600 := by have := HL.out; omega
  have hj2 : j ≤ 300 := by have := HL.out; omega
  have w3 : IntKind.i64.wrap ((n : Int) + (k : Int) - (k : Int)) = (n : Int) := by rw [IntKind.wrap_i64]; omega
  have b1 : (n : Int) ≤ (n : Int) + (k : Int) := by omega
  clear hj
  by_cases hd : (0 : Int) < (k : Int) + 1 - (ds.length : Int)
  · have HJ : Hid ((k : Int) + 1 - (ds.length : Int) = (j : Int)) := by have := HL.out; show _ = _; omega
    rw [HJ.out] at w2 hd
    have hJ := HJ.out
    go_enter Tryz.func49, Tryz.ntmps49
    go_wp2_with fail
    refine (HR.out _).mono ?_
    rintro e w2 ⟨rfl, hb⟩
    clear hJ HJ hd
    go_wp2_with fail
    go_quiet (fail)
    go_wp2
    go_ret2
    exact ⟨rfl, below_drewN hb _⟩
  · obtain rfl : j = 0 := by have := HL.out; omega
    have HR0 : Hid (∀ X, Calls Tryz.prog 74 #[.string { data := #[48] }, .int .i64 0] X fun e w' => e = .returned (.string (tx [])) ∧ Below X.heap.size X w') := HR.out
    have hap0 : tx [] ++ tx ds = tx D := hap
    have hz0 : (tx []).size = 0 := hz2
    clear hap hz2
    clear HR
    have hmx : max (0 : Int) ((k : Int) + 1 - (ds.length : Int)) = 0 := by omega
    go_enter Tryz.func49, Tryz.ntmps49
    go_wp2_with fail
    refine (HR0.out _).mono ?_
    rintro e w2 ⟨rfl, hb⟩
    clear hd hmx
    go_wp2_with fail
    go_quiet (fail)
    go_wp2
    go_ret2
    exact ⟨rfl, below_drewN hb _⟩
theorem iClone_z (s : ByteArray) (w : World) (hs : s.size ≤ 600) :
    Calls Tryz.prog 19 #[.string s] w fun e w' => e = .returned (.string s) ∧ Below w.heap.size w w' := by
  go_enter Tryz.func19, Tryz.ntmps19
  go_wp2_with fail
  refine (Tryz.stringslite_Clone s _ (by omega)).mono ?_
  rintro e w1 ⟨rfl, hb⟩
  go_wp2
  go_ret
  exact ⟨rfl, hb⟩
end Go.Proofs.YtdkpiofeidcffaaGreatDoor
namespace Go.Proofs.YtdkpiofeidcffaaGreatDoor
open Go.RowKit
set_option linter.unusedVariables false
set_option maxRecDepth 100000
theorem eqNum_same (k : Int) (b : Bool) (e : Int) (s : ByteArray) (w : World) :
    Calls Tryz.prog 42 #[numV k b e s, numV k b e s] w fun r w' => r = .returned (.bool true) ∧ Below w.heap.size w w' := by
  go_enter Tryz.func42, Tryz.ntmps42
  go_wp2
  go_ret
  exact ⟨rfl, ((Below.refl _ _).alloc (Nat.le_refl _) _).alloc (by simp) _⟩
/-- A result's value. -/
abbrev resV (k : Int) (b : Bool) (e : Int) (s : ByteArray) (f : Int) : Value := .agg #[.int .i64 k, .bool b, .int .i64 e, .string s, .int .i64 f]
theorem eqResult_same (k : Int) (b : Bool) (e : Int) (s : ByteArray) (f : Int) (w : World) :
    Calls Tryz.prog 15 #[resV k b e s f, resV k b e s f] w fun r w' => r = .returned (.bool true) ∧ Below w.heap.size w w' := by
  have HB : Hid (Below w.heap.size w ((w.alloc (.cells #[.int .i64 k, .bool b, .int .i64 e, .string s, .int .i64 f] 30)).alloc (.cells #[.int .i64 k, .bool b, .int .i64 e, .string s, .int .i64 f] 30))) := ((Below.refl _ _).alloc (Nat.le_refl _) _).alloc (by simp) _
  have c1 : ((w.alloc (.cells #[.int .i64 k, .bool b, .int .i64 e, .string s, .int .i64 f] 30)).alloc (.cells #[.int .i64 k, .bool b, .int .i64 e, .string s, .int .i64 f] 30)).cell? ⟨w.heap.size, 4, none⟩ = some (.int .i64 f) := by simp
  have c2 : ((w.alloc (.cells #[.int .i64 k, .bool b, .int .i64 e, .string s, .int .i64 f] 30)).alloc (.cells #[.int .i64 k, .bool b, .int .i64 e, .string s, .int .i64 f] 30)).cell? ⟨w.heap.size + 1, 4, none⟩ = some (.int .i64 f) := by simp
  have C1 : Hid (_ = _) := c1
  have C2 : Hid (_ = _) := c2
  clear c1 c2
  go_enter Tryz.func15, Tryz.ntmps15
  go_wp2_with fail
  refine (eqNum_same k b e s _).mono ?_
  rintro r w3 ⟨rfl, hb⟩
  have d1 := (hb.cell (p := ⟨w.heap.size, 4, none⟩) (by simp; omega)).trans C1.out
  have d2 := (hb.cell (p := ⟨w.heap.size + 1, 4, none⟩) (by simp)).trans C2.out
  have HB3 : Hid (Below w.heap.size w w3) := HB.out.trans (hb.mono (by simp; omega))
  clear hb
  go_wp2
  go_ret
  exact ⟨rfl, HB3.out⟩
end Go.Proofs.YtdkpiofeidcffaaGreatDoor
