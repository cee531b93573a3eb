/-
  What the rows' list of package-level variables gives a walk: the library's tables of powers of ten and of UTF-8.
-/
import Derived.Test.YtdkpiofeidcffaaGreatDoorFinP
import Derived.Laws.StructEq
import Derived.Test.YtdkpiofeidcffaaGreatDoorRows
import Derived.WalkKit
import Derived.Test.YtdkpiofeidcffaaGreatDoorRns
import Derived.Test.YtdkpiofeidcffaaGreatDoorRni
import Derived.Test.YtdkpiofeidcffaaGreatDoorNumE
import Derived.Test.YtdkpiofeidcffaaGreatDoorPck
import Derived.Test.YtdkpiofeidcffaaGreatDoorShc
import Derived.Test.YtdkpiofeidcffaaGreatDoorDoorp
namespace Go.Proofs.YtdkpiofeidcffaaGreatDoor
open Go.RowKit
set_option linter.unusedVariables false
set_option maxRecDepth 100000
theorem neq_num_same (k : Int) (b : Bool) (e : Int) (s : ByteArray) (w : World) : (binOp .neq 25 (.agg #[.int .i64 k, .bool b, .int .i64 e, .string s]) (.agg #[.int .i64 k, .bool b, .int .i64 e, .string s])).run Tryz.prog w = .ok (.bool false) w := by
  have hS : Tryz.prog.underlying 25 = some (.struct (Tryz.prog.fieldsOf 25)) := by kernel_rfl
  have hp : Tryz.prog.stoodInHeld 25 = false := by kernel_rfl
  rw [run_neq_struct, show (10000 : Nat) = 9999 + 1 from rfl, run_equalIn_agg w 9999 25 _ _ hS hp]
  simp only [Program.fieldsOf, Tryz.underlying25]
  go_simp
theorem eqn_num_same (d : Nat) (k : Int) (b : Bool) (e : Int) (s : ByteArray) (w : World) : (Op.equalIn (d + 2) 25 (.agg #[.int .i64 k, .bool b, .int .i64 e, .string s]) (.agg #[.int .i64 k, .bool b, .int .i64 e, .string s])).run Tryz.prog w = .ok true w := by
  rw [run_equalIn_agg w (d + 1) 25 _ _ (by kernel_rfl) (by kernel_rfl)]
  simp only [Program.fieldsOf, Tryz.underlying25]
  go_simp
theorem eql_res_same (k : Int) (b : Bool) (e : Int) (s : ByteArray) (f : Int) (w : World) : (binOp .eql 30 (rsV k b e s f) (rsV k b e s f)).run Tryz.prog w = .ok (.bool true) w := by
  have h2 := eqn_num_same 9997 k b e s w
  rw [run_eql_struct, show (10000 : Nat) = 9999 + 1 from rfl, run_equalIn_agg w 9999 30 _ _ (by kernel_rfl) (by kernel_rfl)]
  simp only [Program.fieldsOf, Tryz.underlying30]
  have hpt : ∀ w : World, (part 25 #[.int .i64 k, .bool b, .int .i64 e, .string s, .int .i64 f] 0).run Tryz.prog w = .ok (.agg #[.int .i64 k, .bool b, .int .i64 e, .string s]) w := by
    intro w; go_simp
  simp only [Op.eqFields, Sem.run_bind, Sem.run_ite]
  rw [if_pos (by decide)]
  simp only [Result.andThen_ok, hpt, h2, show (9999 : Nat) = 9997 + 2 from rfl]
  clear h2 hpt
  go_simp
theorem neq_res_same (k : Int) (b : Bool) (e : Int) (s : ByteArray) (f : Int) (w : World) : (binOp .neq 30 (rsV k b e s f) (rsV k b e s f)).run Tryz.prog w = .ok (.bool false) w := by
  have h := eql_res_same k b e s f w
  rw [run_eql_struct] at h
  rw [run_neq_struct]
  cases hq : (Op.equalIn 10000 30 (rsV k b e s f) (rsV k b e s f)).run Tryz.prog w with
  | ok v w' =>
    rw [hq] at h
    simp [go_sem] at h ⊢
    exact h
  | halt h1 w1 => rw [hq] at h; simp [go_sem] at h
end Go.Proofs.YtdkpiofeidcffaaGreatDoor
namespace Go.Proofs.YtdkpiofeidcffaaGreatDoor
open Go.RowKit

/-- What is told of a slice of integers that came in: it is nil; or it leads to a row of 'cap' cells, the numbers 'zs' (the first 'len' are its elements, the rest its spare room), each fitting its kind. -/
def IsRow (k : IntKind) (w : World) (a : Option Addr) (len cap : Nat) (zs : List Int) : Prop :=
  (a = none ∧ len = 0 ∧ cap = 0 ∧ zs = []) ∨
  ∃ x, a = some x ∧ len ≤ cap ∧ cap ≤ maxLen ∧ zs.length = cap ∧ (∀ i, i < zs.length → w.cell? (x.add i) = some (.int k (zs.getD i 0))) ∧ ∀ n ∈ zs, (Lit.int k n).wf = true
theorem IsRow.below {k : IntKind} {w w' : World} {a : Option Addr} {len cap : Nat} {zs : List Int} (h : IsRow k w a len cap zs) (hb : Below w.heap.size w w') : IsRow k w' a len cap zs := by
  rcases h with h | ⟨x, rfl, h1, h2, h3, h4, h5⟩
  · exact .inl h
  · refine .inr ⟨x, rfl, h1, h2, h3, fun i hi => ?_, h5⟩
    have := h4 i hi
    exact (hb.cell (p := x.add i) (by have := World.block_lt_of_cell? _ _ this; exact this)).trans this
end Go.Proofs.YtdkpiofeidcffaaGreatDoor
namespace Go.Proofs.YtdkpiofeidcffaaGreatDoor
open Go.RowKit
set_option linter.unusedVariables false
set_option maxRecDepth 100000
theorem rdP_form (f m : Int) (neg : Bool) (x : Prt) : ∃ K N E S F t, rdP f m neg x = .tuple #[rsV K N E S F, .bool t] := by
  rcases x with _ | ⟨D, n, ng, P⟩
  · exact ⟨_, _, _, _, _, _, rfl⟩
  · exact ⟨_, _, _, _, _, _, rfl⟩
theorem rdR_form (f m : Int) (l : List UInt8) : ∃ K N E S F t, rdR f m l = .tuple #[rsV K N E S F, .bool t] := by
  unfold rdR
  split
  · unfold rdSt
    split
    · exact ⟨_, _, _, _, _, _, rfl⟩
    · exact rdP_form _ _ _ _
  · exact rdP_form _ _ _ _
theorem iReadNum_any (f m : Int) (s : ByteArray) (w : World) (hs : s.size ≤ 4611686018427387904) (hT : Lib.Utf8Tabs 0 1 w) :
    Calls Tryz.prog 10 #[.int .i64 f, .int .i64 m, .string s] w fun e w' => e = .returned (rdR f m s.data.toList) ∧ Below w.heap.size w w' := by
  have hl : s.data.toList.length = s.size := Array.length_toList
  unfold rdR
  rw [hl]
  split
  · rename_i h
    exact iReadNum_yes f m s w h.1 h.2.1 h.2.2 hT
  · rename_i h
    exact iReadNum_no f m s w hs h
theorem sReadNum_any (f m : Int) (s : ByteArray) (w : World) (hs : s.size ≤ 4611686018427387904) :
    Calls Tryz.prog 13 #[.int .i64 f, .int .i64 m, .string s] w fun e w' => e = .returned (rdR f m s.data.toList) ∧ Below w.heap.size w w' := by
  have hl : s.data.toList.length = s.size := Array.length_toList
  unfold rdR
  rw [hl]
  split
  · rename_i h
    exact sReadNum_yes f m s w h.1 h.2.1 h.2.2
  · rename_i h
    exact sReadNum_no f m s w hs h
set_option maxRecDepth 100000 in
set_option maxHeartbeats 2000000 in
theorem exReadNum_any (f m : Int) (s : ByteArray) (w : World) (hs : s.size ≤ 9223372036854775807) (hT : Lib.Utf8Tabs 0 1 w) :
    Calls Tryz.prog 4 #[.int .i64 f, .int .i64 m, .string s] w fun r w' => r = .returned (.bool true) ∧ Below w.heap.size w w' := by
  by_cases h1 : 1048576 < (s.size : Int)
  · clear hT
    go_enter Tryz.func4, Tryz.ntmps4
    go_wp2
    go_ret
    exact ⟨rfl, Below.refl _ _⟩
  · have HT : Hid (Lib.Utf8Tabs 0 1 w) := hT
    have HS : Hid (∀ X, Calls Tryz.prog 13 #[.int .i64 f, .int .i64 m, .string s] X fun e w' => e = .returned (rdR f m s.data.toList) ∧ Below X.heap.size X w') := fun X => sReadNum_any f m s X (by omega)
    have HI : Hid (∀ X, Below w.heap.size w X → Calls Tryz.prog 10 #[.int .i64 f, .int .i64 m, .string s] X fun e w' => e = .returned (rdR f m s.data.toList) ∧ Below X.heap.size X w') := fun X hX => iReadNum_any f m s X (by omega) (Utf8Tabs_below HT.out hX)
    obtain ⟨K, N, E, S, F, t, hR⟩ := rdR_form f m s.data.toList
    rw [hR] at HS HI
    have HEq : Hid (∀ X, Calls Tryz.prog 15 #[resV K N E S F, resV K N E S F] X fun r w' => r = .returned (.bool true) ∧ Below X.heap.size X w') := fun X => eqResult_same K N E S F X
    clear hR hT HT
    go_enter Tryz.func4, Tryz.ntmps4
    go_wp2_with fail
    refine (HS.out _).mono ?_
    rintro e w1 ⟨rfl, hb1⟩
    have HA1 : Hid (At5 (w1.alloc (.cells #[.int .i64 K, .bool N, .int .i64 E, .string S, .int .i64 F] 30)) w1.heap.size (.int .i64 K) (.bool N) (.int .i64 E) (.string S) (.int .i64 F) ∧ Below w.heap.size w (w1.alloc (.cells #[.int .i64 K, .bool N, .int .i64 E, .string S, .int .i64 F] 30))) := ⟨at5_new _ _ _ _ _ _, hb1.alloc hb1.size _⟩
    clear hb1 HS
    go_upto_region 4 with fail
    generalize w1.alloc (.cells #[.int .i64 K, .bool N, .int .i64 E, .string S, .int .i64 F] 30) = w2 at *
    go_wp2_with fail
    refine (HI.out _ HA1.out.2).mono ?_
    rintro e w3 ⟨rfl, hb3⟩
    have HA2 : Hid (At5 (w3.alloc (.cells #[.int .i64 K, .bool N, .int .i64 E, .string S, .int .i64 F] 30)) w3.heap.size (.int .i64 K) (.bool N) (.int .i64 E) (.string S) (.int .i64 F) ∧ At5 (w3.alloc (.cells #[.int .i64 K, .bool N, .int .i64 E, .string S, .int .i64 F] 30)) w1.heap.size (.int .i64 K) (.bool N) (.int .i64 E) (.string S) (.int .i64 F) ∧ Below w.heap.size w (w3.alloc (.cells #[.int .i64 K, .bool N, .int .i64 E, .string S, .int .i64 F] 30))) := ⟨at5_new _ _ _ _ _ _, (HA1.out.1.below hb3 HA1.out.1.lt).below ((Below.refl w3.heap.size w3).alloc (Nat.le_refl _) _) (Nat.lt_of_lt_of_le HA1.out.1.lt hb3.size), (HA1.out.2.trans (hb3.mono HA1.out.2.size)).alloc (Nat.le_trans HA1.out.2.size hb3.size) _⟩
    clear hb3 HI HA1
    go_upto_region 5 with fail
    generalize w3.alloc (.cells #[.int .i64 K, .bool N, .int .i64 E, .string S, .int .i64 F] 30) = w4 at *
    obtain ⟨a0, a1, a2, a3, a4, -⟩ := HA2.out.1.cells
    obtain ⟨b0, b1, b2, b3, b4, -⟩ := HA2.out.2.1.cells
    go_wp2_with fail
    refine (HEq.out _).mono ?_
    rintro e w5 ⟨rfl, hb5⟩
    have HB : Hid (Below w.heap.size w w5) := HA2.out.2.2.trans (hb5.mono HA2.out.2.2.size)
    clear hb5 HA2 HEq a0 a1 a2 a3 a4 b0 b1 b2 b3 b4
    go_wp2
    go_ret
    exact ⟨rfl, HB.out⟩
end Go.Proofs.YtdkpiofeidcffaaGreatDoor
namespace Go.Proofs.YtdkpiofeidcffaaGreatDoor
open Go.RowKit
set_option linter.unusedVariables false
set_option maxRecDepth 100000
theorem numB_bd (f k : Int) (b : Bool) (e : Int) (s : ByteArray) (h : numB f k b e s = true) : (f = 64 ∨ f = 128) ∧ (1 ≤ k ∧ k ≤ 4) ∧ s.size ≤ 34 ∧ (-6176 ≤ e ∧ e ≤ 6111) ∧ (k ≠ 1 → e = 0 ∧ s.size = 0) ∧ (k = 3 ∨ k = 4 → b = false) := by
  unfold numB at h
  by_cases hp : limP f = 0
  · rw [if_pos hp] at h; cases h
  rw [if_neg hp] at h
  have hf : f = 64 ∨ f = 128 := by
    unfold limP at hp
    by_cases h1 : f = 64
    · exact .inl h1
    · rw [if_neg h1] at hp
      by_cases h2 : f = 128
      · exact .inr h2
      · rw [if_neg h2] at hp; exact absurd rfl hp
  have hl : limP f ≤ 34 ∧ -6176 ≤ limL f ∧ limH f ≤ 6111 := by rcases hf with rfl | rfl <;> decide
  have hem : s.toList.isEmpty = true → s.size = 0 := fun hE => by
    have e : s.toList.length = s.size := by rw [ByteArray.toList_eq, Array.length_toList]; rfl
    rw [List.isEmpty_iff.1 hE] at e
    exact e.symm
  by_cases h1 : k = 1
  · rw [if_pos h1] at h
    unfold natB at h
    simp only [Bool.and_eq_true, decide_eq_true_eq] at h
    have h2 := h.1.1.1.2
    exact ⟨hf, by omega, by omega, by omega, fun q => absurd h1 q, fun q => by omega⟩
  · rw [if_neg h1] at h
    by_cases h2 : k = 2
    · rw [if_pos h2] at h
      simp only [Bool.and_eq_true, decide_eq_true_eq] at h
      have h3 := hem h.2
      exact ⟨hf, by omega, by omega, by omega, fun _ => ⟨h.1, h3⟩, fun q => by omega⟩
    · rw [if_neg h2] at h
      by_cases h3 : k = 3 ∨ k = 4
      · rw [if_pos h3] at h
        simp only [Bool.and_eq_true, decide_eq_true_eq, Bool.not_eq_true'] at h
        have h4 := hem h.2.1
        exact ⟨hf, by omega, by omega, by omega, fun _ => ⟨h.1, h4⟩, fun _ => h.2.2⟩
      · rw [if_neg h3] at h; cases h
end Go.Proofs.YtdkpiofeidcffaaGreatDoor
namespace Go.Proofs.YtdkpiofeidcffaaGreatDoor
open Go.RowKit
set_option linter.unusedVariables false
set_option maxRecDepth 100000
/-- The library's tables. -/
def TTab (w : World) : Prop := PTab w ∧ Lib.Utf8Tabs 0 1 w
theorem TTab.next {w w' : World} (h : TTab w) (hb : Below w.heap.size w w') : TTab w' := ⟨h.1.next hb, Utf8Tabs_below h.2 hb⟩
/-- A number in its block, and what lay below. -/
def T1 (w : World) (p : Nat) (k : Int) (b : Bool) (e : Int) (s : ByteArray) (W : World) : Prop := At4 W p (.int .i64 k) (.bool b) (.int .i64 e) (.string s) ∧ p < W.heap.size ∧ Below w.heap.size w W
theorem T1.next {w W W' : World} {p : Nat} {k : Int} {b : Bool} {e : Int} {s : ByteArray} (h : T1 w p k b e s W) (hb : Below W.heap.size W W') : T1 w p k b e s W' := ⟨h.1.below hb h.2.1, Nat.lt_of_lt_of_le h.2.1 hb.size, h.2.2.trans (hb.mono h.2.2.size)⟩
theorem t1_new {w W : World} (hb : Below w.heap.size w W) (k : Int) (b : Bool) (e : Int) (s : ByteArray) : T1 w W.heap.size k b e s (W.alloc (.cells #[.int .i64 k, .bool b, .int .i64 e, .string s] 25)) :=
  ⟨at4_new W _ _ _ _, by simp, hb.alloc hb.size _⟩
/-- A result in its block. -/
def T2 (p : Nat) (k : Int) (b : Bool) (e : Int) (s : ByteArray) (f : Int) (W : World) : Prop := At5 W p (.int .i64 k) (.bool b) (.int .i64 e) (.string s) (.int .i64 f)
theorem bytes_of_below {B : Nat} {w w' : World} {a : Option Addr} {len : Nat} (h : Bytes B w a len) (hb : Below B w w') : Bytes B w' a len := by
  rcases h with h | ⟨b, off, rfl, hbB, hc⟩
  · exact .inl h
  · refine .inr ⟨b, off, rfl, hbB, fun j hj => ?_⟩
    obtain ⟨z, hz, r⟩ := hc j hj
    exact ⟨z, (hb.cell (p := ⟨b, off + j, none⟩) hbB).trans hz, r⟩
theorem shT_empty (T : ByteArray) : T.toList.isEmpty = true ↔ T = { data := #[] } := by
  constructor
  · intro h
    have := List.isEmpty_iff.1 h
    rw [ByteArray.toList_eq] at this
    apply ByteArray.ext
    exact Array.toList_inj.1 this
  · rintro rfl; rw [ByteArray.toList_eq]; rfl
set_option maxRecDepth 100000 in
set_option maxHeartbeats 4000000 in
theorem fnTextBack_any (a0 : Option Addr) (len0 cap0 : Nat) (w : World) (hbig : ¬ 4096 < len0) (hb : Bytes w.heap.size w a0 len0) (hT : TTab w) :
    Calls Tryz.prog 3 #[.slice a0 len0 cap0] w fun e w' => e = .returned (.bool true) ∧ Below w.heap.size w w' := by
  have hB : Hid (Bytes w.heap.size w a0 len0) := hb
  have HK : Hid (∀ X, Below w.heap.size w X → TTab X) := fun X hX => hT.next hX
  clear hb hT
  go_enter Tryz.func3, Tryz.ntmps3
  go_wp2_with fail
  refine (big_no _ _ _ _ hbig).mono ?_
  rintro e w' ⟨rfl, hw⟩
  obtain rfl := hw.symm
  go_wp2_with fail
  refine (DrawShowNum_any _ _ _ _ (by omega) hB.out).mono ?_
  rintro e w1 ⟨kn, nn, en, sn, rfl, hsn, hb1⟩
  have zS : sn.size ≤ 4611686018427387904 := by omega
  have HSI : Hid (∀ X, TTab X → Calls Tryz.prog 7 #[numV kn nn en sn] X fun x w' => x = .returned (.string (shT kn nn en sn)) ∧ Below X.heap.size X w') := fun X hX => iShowNum_any kn nn en sn X zS hX.1
  have HSS : Hid (∀ X, Calls Tryz.prog 8 #[numV kn nn en sn] X fun x w' => x = .returned (.string (shT kn nn en sn)) ∧ Below X.heap.size X w') := fun X => sShowNum_any kn nn en sn X zS
  have HOk : Hid (∀ X, Calls Tryz.prog 9 #[.int .i64 128, numV kn nn en sn] X fun r w' => r = .returned (.bool (numB 128 kn nn en sn)) ∧ Below X.heap.size X w') := fun X => sNumOk_any 128 kn nn en sn X zS
  have HE : Hid ((numB 128 kn nn en sn = false ∧ (shT kn nn en sn).toList.isEmpty = true) ∨ ((shT kn nn en sn).toList.isEmpty = false ∧ ∀ m : Int, 1 ≤ m → m ≤ 5 → ∀ X, TTab X → Calls Tryz.prog 10 #[.int .i64 128, .int .i64 m, .string (shT kn nn en sn)] X fun e w' => e = .returned (.tuple #[rsV kn nn en sn 0, .bool true]) ∧ Below X.heap.size X w')) := by
    cases hO : numB 128 kn nn en sn with
    | false => exact .inl ⟨rfl, (shT_empty _).2 ((shT_none kn nn en sn).2 hO)⟩
    | true =>
      refine .inr ⟨?_, fun m h1 h5 X hX => ?_⟩
      · cases hc : (shT kn nn en sn).toList.isEmpty with
        | false => rfl
        | true => rw [(shT_none kn nn en sn).1 ((shT_empty _).1 hc)] at hO; cases hO
      · obtain ⟨q1, q2⟩ := text_back kn nn en sn m hO ⟨h1, h5⟩
        have := iReadNum_any 128 m (shT kn nn en sn) X (by omega) hX.2
        rw [q1] at this
        exact this
  have HM1 : Hid (T1 w w1.heap.size kn nn en sn (w1.alloc (.cells #[.int .i64 kn, .bool nn, .int .i64 en, .string sn] 25))) := t1_new hb1 kn nn en sn
  clear hsn zS hb1
  generalize shT kn nn en sn = T at *
  generalize numB 128 kn nn en sn = bO at *
  go_upto_region 4 with fail
  generalize (w1.alloc (.cells #[.int .i64 kn, .bool nn, .int .i64 en, .string sn] 25)) = w2 at *
  generalize w1.heap.size = p at *
  obtain ⟨c0, c1, c2, c3, c4⟩ := HM1.out.1
  go_wp2_with fail
  refine (HSI.out _ (HK.out _ HM1.out.2.2)).mono ?_
  rintro e w3 ⟨rfl, hb3⟩
  have HM3 : Hid (T1 w p kn nn en sn w3) := HM1.out.next hb3
  clear hb3 HM1 HSI c0 c1 c2 c3 c4
  obtain ⟨c0, c1, c2, c3, c4⟩ := HM3.out.1
  go_wp2_with fail
  refine (HSS.out _).mono ?_
  rintro e w4 ⟨rfl, hb4⟩
  have HM4 : Hid (T1 w p kn nn en sn w4) := HM3.out.next hb4
  clear hb4 HM3 HSS c0 c1 c2 c3 c4
  obtain ⟨c0, c1, c2, c3, c4⟩ := HM4.out.1
  rcases HE.out with ⟨rfl, hem⟩ | ⟨hem, hRd⟩
  · clear HE
    go_wp2_with fail
    refine (HOk.out _).mono ?_
    rintro e w5 ⟨rfl, hb5⟩
    have HM5 : Hid (Below w.heap.size w w5) := (HM4.out.next hb5).2.2
    clear hb5 HM4 HOk c0 c1 c2 c3 c4
    go_wp2
    go_ret
    exact ⟨rfl, HM5.out⟩
  · have HRd : Hid (∀ m : Int, 1 ≤ m → m ≤ 5 → ∀ X, TTab X → Calls Tryz.prog 10 #[.int .i64 128, .int .i64 m, .string T] X fun e w' => e = .returned (.tuple #[rsV kn nn en sn 0, .bool true]) ∧ Below X.heap.size X w') := hRd
    clear hRd HE HOk
    go_wp2_with fail
    refine (pick_any a0 len0 cap0 w.heap.size 5 w4 (by omega) (bytes_of_below hB.out HM4.out.2.2) (by decide)).mono ?_
    rintro e w5 ⟨r, rfl, hr, hw5⟩
    subst hw5
    have hwr : IntKind.i64.wrap (1 + r) = 1 + r := by rw [IntKind.wrap_i64]; omega
    have hwr1 : 1 ≤ 1 + r ∧ 1 + r ≤ 5 := by omega
    go_wp2_with fail
    refine (HRd.out (1 + r) hwr1.1 hwr1.2 _ (HK.out _ HM4.out.2.2)).mono ?_
    rintro e w6 ⟨rfl, hb6⟩
    have HM6 : Hid (At5 (w6.alloc (.cells #[.int .i64 kn, .bool nn, .int .i64 en, .string sn, .int .i64 0] 30)) w6.heap.size (.int .i64 kn) (.bool nn) (.int .i64 en) (.string sn) (.int .i64 0) ∧ T1 w p kn nn en sn (w6.alloc (.cells #[.int .i64 kn, .bool nn, .int .i64 en, .string sn, .int .i64 0] 30))) :=
      ⟨at5_new _ _ _ _ _ _, (HM4.out.next hb6).next ((Below.refl _ _).alloc (Nat.le_refl _) _)⟩
    clear hb6 HM4 HRd c0 c1 c2 c3 c4 hwr hr hwr1
    go_upto_region 10 with fail
    generalize w6.alloc (.cells #[.int .i64 kn, .bool nn, .int .i64 en, .string sn, .int .i64 0] 30) = w7 at *
    generalize w6.heap.size = q at *
    obtain ⟨c0, c1, c2, c3, c4⟩ := HM6.out.2.1
    obtain ⟨e0, e1, e2, e3, e4, -⟩ := HM6.out.1.cells
    have hneq := fun X => neq_num_same kn nn en sn X
    go_wp2_with fail
    refine (DrawReadNum_any _ _ _ _ (by omega) (bytes_bel hB.out HM6.out.2.2.2)).mono ?_
    rintro e w8 ⟨f, m2, t, rfl, ht, hb8⟩
    have HB8 : Hid (Below w.heap.size w w8) := (HM6.out.2.next hb8).2.2
    have HRI : Hid (∀ X, TTab X → Calls Tryz.prog 10 #[.int .i64 f, .int .i64 m2, .string t] X fun e w' => e = .returned (rdR f m2 t.data.toList) ∧ Below X.heap.size X w') := fun X hX => iReadNum_any f m2 t X (by omega) hX.2
    have HRS : Hid (∀ X, Calls Tryz.prog 13 #[.int .i64 f, .int .i64 m2, .string t] X fun e w' => e = .returned (rdR f m2 t.data.toList) ∧ Below X.heap.size X w') := fun X => sReadNum_any f m2 t X (by omega)
    have HN : Hid (∃ (K : Int) (N : Bool) (E : Int) (S : ByteArray) (F : Int) (d : Bool), rdR f m2 t.data.toList = .tuple #[rsV K N E S F, .bool d] ∧ ((d = false ∧ K = 0 ∧ N = false ∧ E = 0 ∧ S = { data := #[] } ∧ F = 0) ∨ (d = true ∧ ∀ X, Calls Tryz.prog 14 #[.int .i64 f, numV K N E S] X fun r w' => r = .returned (.bool true) ∧ Below X.heap.size X w'))) := by
      rcases rdR_told f m2 t.data.toList with q | ⟨K, N, E, S, F, q1, q2⟩
      · exact ⟨_, _, _, _, _, _, q, .inl ⟨rfl, rfl, rfl, rfl, rfl, rfl⟩⟩
      · refine ⟨K, N, E, S, F, true, q1, .inr ⟨rfl, fun X => ?_⟩⟩
        have := iNumOk_any f K N E S X (by have := (numB_bd f K N E S q2).2.2.1; omega)
        rw [q2] at this
        exact this
    clear hb8 HM6 c0 c1 c2 c3 c4 e0 e1 e2 e3 e4 hneq ht
    obtain ⟨K, N, E, S, F, d, hR, hD⟩ := HN.out
    have HD : Hid ((d = false ∧ K = 0 ∧ N = false ∧ E = 0 ∧ S = { data := #[] } ∧ F = 0) ∨ (d = true ∧ ∀ X, Calls Tryz.prog 14 #[.int .i64 f, numV K N E S] X fun r w' => r = .returned (.bool true) ∧ Below X.heap.size X w')) := hD
    rw [hR] at HRI HRS
    clear HN hR hD
    go_wp2_with fail
    refine (HRI.out _ (HK.out _ HB8.out)).mono ?_
    rintro e w9 ⟨rfl, hb9⟩
    have HM9 : Hid (At5 (w9.alloc (.cells #[.int .i64 K, .bool N, .int .i64 E, .string S, .int .i64 F] 30)) w9.heap.size (.int .i64 K) (.bool N) (.int .i64 E) (.string S) (.int .i64 F) ∧ Below w.heap.size w (w9.alloc (.cells #[.int .i64 K, .bool N, .int .i64 E, .string S, .int .i64 F] 30))) :=
      ⟨at5_new _ _ _ _ _ _, (HB8.out.trans (hb9.mono HB8.out.size)).alloc (Nat.le_trans HB8.out.size hb9.size) _⟩
    clear hb9 HB8 HRI
    go_upto_region 14 with fail
    generalize w9.alloc (.cells #[.int .i64 K, .bool N, .int .i64 E, .string S, .int .i64 F] 30) = wA at *
    generalize w9.heap.size = g at *
    go_wp2_with fail
    refine (HRS.out _).mono ?_
    rintro e wB ⟨rfl, hbB⟩
    have HMB : Hid (At5 (wB.alloc (.cells #[.int .i64 K, .bool N, .int .i64 E, .string S, .int .i64 F] 30)) wB.heap.size (.int .i64 K) (.bool N) (.int .i64 E) (.string S) (.int .i64 F) ∧ At5 (wB.alloc (.cells #[.int .i64 K, .bool N, .int .i64 E, .string S, .int .i64 F] 30)) g (.int .i64 K) (.bool N) (.int .i64 E) (.string S) (.int .i64 F) ∧ Below w.heap.size w (wB.alloc (.cells #[.int .i64 K, .bool N, .int .i64 E, .string S, .int .i64 F] 30))) :=
      ⟨at5_new _ _ _ _ _ _, (HM9.out.1.below hbB HM9.out.1.lt).below ((Below.refl wB.heap.size wB).alloc (Nat.le_refl _) _) (Nat.lt_of_lt_of_le HM9.out.1.lt hbB.size), (HM9.out.2.trans (hbB.mono HM9.out.2.size)).alloc (Nat.le_trans HM9.out.2.size hbB.size) _⟩
    clear hbB HM9 HRS
    go_upto_region 15 with fail
    generalize wB.alloc (.cells #[.int .i64 K, .bool N, .int .i64 E, .string S, .int .i64 F] 30) = wC at *
    generalize wB.heap.size = g2 at *
    obtain ⟨a0, a1, a2, a3, a4, -⟩ := HMB.out.1.cells
    obtain ⟨b0, b1, b2, b3, b4, -⟩ := HMB.out.2.1.cells
    have hEq := fun X => eql_res_same K N E S F X
    rcases HD.out with ⟨rfl, rfl, rfl, rfl, rfl, rfl⟩ | ⟨rfl, hOk⟩
    · clear HD
      go_wp2
      go_ret
      exact ⟨rfl, HMB.out.2.2⟩
    · have HOk : Hid (∀ X, Calls Tryz.prog 14 #[.int .i64 f, numV K N E S] X fun r w' => r = .returned (.bool true) ∧ Below X.heap.size X w') := hOk
      clear HD hOk
      go_wp2_with fail
      refine (HOk.out _).mono ?_
      rintro e wD ⟨rfl, hbD⟩
      have HBD : Hid (Below w.heap.size w wD) := HMB.out.2.2.trans (hbD.mono HMB.out.2.2.size)
      clear hbD HMB
      go_wp2
      go_ret
      exact ⟨rfl, HBD.out⟩
theorem fnTextBack_all (a0 : Option Addr) (len0 cap0 : Nat) (w : World) (hb : Bytes w.heap.size w a0 len0) (hT : TTab w) :
    Calls Tryz.prog 3 #[.slice a0 len0 cap0] w fun e w' => e = .returned (.bool true) ∧ Below w.heap.size w w' := by
  by_cases hbig : 4096 < len0
  · clear hb
    go_enter Tryz.func3, Tryz.ntmps3
    go_wp2_with fail
    refine (big_yes _ _ _ _ hbig).mono ?_
    rintro e w' ⟨rfl, rfl⟩
    go_wp2
    go_ret
    exact ⟨rfl, Below.refl _ _⟩
  exact fnTextBack_any a0 len0 cap0 w hbig hb hT
end Go.Proofs.YtdkpiofeidcffaaGreatDoor
namespace Go.Proofs.YtdkpiofeidcffaaGreatDoor
open Go.ChangeShapes Go.WideShapes Go.ChangeAt Go.RowKit
theorem ttabs_of_laid {W : World} {x y : String × DataW Unit} (h : laidMet Tryz.prog [x, y, ("internal/strconv.uint64pow10", Rows.laid_internal_strconv_uint64pow10), ("unicode/utf8.acceptRanges", Rows.laid_unicode_utf8_acceptRanges), ("unicode/utf8.first", Rows.laid_unicode_utf8_first)] W) : TTab W :=
  ⟨ptab_of_laid h, utabs_at h (.tail _ (.tail _ (.tail _ (.tail _ (.head _))))) (.tail _ (.tail _ (.tail _ (.head _))))⟩
end Go.Proofs.YtdkpiofeidcffaaGreatDoor
