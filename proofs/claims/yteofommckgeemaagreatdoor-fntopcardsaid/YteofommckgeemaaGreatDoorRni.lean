/-
  ReadNum of the program, walked.
-/
import Derived.Test.YteofommckgeemaaGreatDoorRnp
import Derived.Test.YteofommckgeemaaGreatDoorShg
import Derived.Test.YteofommckgeemaaGreatDoorRee
import Derived.Test.YteofommckgeemaaGreatDoorCls
import Derived.Test.YteofommckgeemaaGreatDoorFinA
import Derived.Laws.EntriesVeiled
import Derived.Laws.IdiomStrings
import Derived.Deep.DeepCutAuto
import Derived.Test.YteofommckgeemaaGreatDoorSpe
import Derived.Test.YteofommckgeemaaGreatDoorFmt
import Derived.Test.YteofommckgeemaaGreatDoorFnb

namespace Go.Proofs.YteofommckgeemaaGreatDoor
open Go.RowKit
set_option linter.unusedVariables false
set_option maxRecDepth 100000
set_option linter.unusedSimpArgs false
theorem smallLetter_any (x : Int) (W : World) (h : 0 ≤ x ∧ x ≤ 1114111) : Calls Tryz.prog 266 #[.int .i32 x] W fun e w' => e = .returned (.int .i32 (sml x)) ∧ w' = W := by
  by_cases h1 : 65 ≤ x
  · by_cases h2 : x ≤ 90
    · have e1 : IntKind.i32.wrap (x - 65) = x - 65 := by rw [IntKind.wrap_i32]; omega
      have e2 : IntKind.i32.wrap (x - 65 + 97) = x + 32 := by rw [IntKind.wrap_i32]; omega
      have HS : Hid (sml x = x + 32) := by show _ = _; unfold sml; rw [if_pos ⟨h1, h2⟩]
      rw [HS.out]
      go_enter Tryz.func266, Tryz.ntmps266
      go_wp2
      go_ret
      exact ⟨rfl, rfl⟩
    · have HS : Hid (sml x = x) := by show _ = _; unfold sml; rw [if_neg (by omega)]
      rw [HS.out]
      go_enter Tryz.func266, Tryz.ntmps266
      go_wp2
      go_ret
      exact ⟨rfl, rfl⟩
  · have HS : Hid (sml x = x) := by show _ = _; unfold sml; rw [if_neg (by omega)]
    rw [HS.out]
    go_enter Tryz.func266, Tryz.ntmps266
    go_wp2
    go_ret
    exact ⟨rfl, rfl⟩
def nmInf : List UInt8 := [105, 110, 102]
def nmInfinity : List UInt8 := [105, 110, 102, 105, 110, 105, 116, 121]
def nmNan : List UInt8 := [110, 97, 110]
def nmSnan : List UInt8 := [115, 110, 97, 110]
/-- The kind that a name stands for; 0 where it is none. -/
def knK (T : List UInt8) : Int := if T = nmInfinity ∨ T = nmInf then 2 else if T = nmNan then 3 else if T = nmSnan then 4 else 0
theorem enters_small : ∀ args w, (callFunc 266 args).run Tryz.prog w = .ok (.enter 266 args) w := enters_of Tryz.func266 (by kernel_rfl) rfl
set_option maxHeartbeats 2000000 in
theorem kindNamed_any (g o c : Nat) (L : List Int) (w : World) (hc : ∀ j, j < L.length → w.cell? ⟨g, o + j, none⟩ = some (.int .i32 (L.getD j 0))) (hl : L.length ≤ 1000) (hT : Lib.Utf8Tabs 4 5 w) :
    Calls Tryz.prog 227 #[.slice (some ⟨g, o, none⟩) L.length c] w fun e w' => e = .returned (.tuple #[.int .i64 (knK (Lib.mapD sml (runesBytes L).data.toList)), .bool (decide (knK (Lib.mapD sml (runesBytes L).data.toList) ≠ 0))]) ∧ Below w.heap.size w w' := by
  have HC : Hid ((convert 251 9 (.slice (some ⟨g, o, none⟩) L.length c)).run Tryz.prog w = .ok (.string (runesBytes L)) w) := by
    have := run_convert_runes (P := Tryz.prog) w 251 9 21 ⟨g, o, none⟩ L.length c L (Nat.le_refl _) (by kernel_rfl) (by kernel_rfl) (by kernel_rfl) (fun j hj => by rw [add_at]; exact hc j hj)
    rw [List.take_length] at this
    exact this
  have hsz := runesBytes_size_le L
  have HM : Hid (Calls Tryz.prog 265 #[.func (.func 266) #[] #[], .string (runesBytes L)] w fun e w' => e = .returned (.string ⟨(Lib.mapD sml (runesBytes L).data.toList).toArray⟩) ∧ Below w.heap.size w w') :=
    Tryz.strings_Map_runes 266 #[] enters_small sml (runesBytes L) w (by omega) (fun W x hx _ => by
      refine (smallLetter_any (x : Int) W (by omega)).mono ?_
      rintro e w' ⟨rfl, rfl⟩
      exact ⟨rfl, 0, rfl⟩) (fun x hx => sml_bd x hx) hT
  clear hsz hl hc hT
  generalize Lib.mapD sml (runesBytes L).data.toList = T at *
  generalize runesBytes L = S at *
  have hC := HC.out
  by_cases a1 : T = nmInfinity
  · subst a1
    have HK : Hid (knK nmInfinity = 2) := rfl
    unfold nmInfinity at HM
    go_enter Tryz.func227, Tryz.ntmps227
    go_wp2_with fail
    refine HM.out.mono ?_
    rintro e w1 ⟨rfl, hb⟩
    have HB : Hid (Below w.heap.size w w1) := hb
    clear hb HM
    go_wp2
    go_ret2
    exact ⟨by rw [HK.out]; rfl, HB.out⟩
  by_cases a2 : T = nmInf
  · subst a2
    have HK : Hid (knK nmInf = 2) := rfl
    unfold nmInf at HM
    go_enter Tryz.func227, Tryz.ntmps227
    go_wp2_with fail
    refine HM.out.mono ?_
    rintro e w1 ⟨rfl, hb⟩
    have HB : Hid (Below w.heap.size w w1) := hb
    clear hb HM
    go_wp2
    go_ret2
    exact ⟨by rw [HK.out]; rfl, HB.out⟩
  by_cases a3 : T = nmNan
  · subst a3
    have HK : Hid (knK nmNan = 3) := rfl
    unfold nmNan at HM
    go_enter Tryz.func227, Tryz.ntmps227
    go_wp2_with fail
    refine HM.out.mono ?_
    rintro e w1 ⟨rfl, hb⟩
    have HB : Hid (Below w.heap.size w w1) := hb
    clear hb HM
    go_wp2
    go_ret2
    exact ⟨by rw [HK.out]; rfl, HB.out⟩
  by_cases a4 : T = nmSnan
  · subst a4
    have HK : Hid (knK nmSnan = 4) := rfl
    unfold nmSnan at HM
    go_enter Tryz.func227, Tryz.ntmps227
    go_wp2_with fail
    refine HM.out.mono ?_
    rintro e w1 ⟨rfl, hb⟩
    have HB : Hid (Below w.heap.size w w1) := hb
    clear hb HM
    go_wp2
    go_ret2
    exact ⟨by rw [HK.out]; rfl, HB.out⟩
  have HK : Hid (knK T = 0) := by show _ = _; unfold knK; rw [if_neg (fun q => q.elim a1 a2), if_neg a3, if_neg a4]
  have b1 : (T == [105, 110, 102, 105, 110, 105, 116, 121]) = false := beq_eq_false_iff_ne.2 a1
  have b2 : (T == [105, 110, 102]) = false := beq_eq_false_iff_ne.2 a2
  have b3 : (T == [110, 97, 110]) = false := beq_eq_false_iff_ne.2 a3
  have b4 : (T == [115, 110, 97, 110]) = false := beq_eq_false_iff_ne.2 a4
  clear a1 a2 a3 a4
  go_enter Tryz.func227, Tryz.ntmps227
  go_wp2_with fail
  refine HM.out.mono ?_
  rintro e w1 ⟨rfl, hb⟩
  have HB : Hid (Below w.heap.size w w1) := hb
  clear hb HM
  go_wp2
  go_ret2
  exact ⟨by rw [HK.out]; rfl, HB.out⟩
end Go.Proofs.YteofommckgeemaaGreatDoor

namespace Go.Proofs.YteofommckgeemaaGreatDoor
open Go.RowKit
set_option linter.unusedVariables false
set_option maxRecDepth 100000
/-- A text behind its sign; whether that is a -. -/
def unS : List UInt8 → List UInt8
  | [] => []
  | b :: t => if b = 43 ∨ b = 45 then t else b :: t
def sgn : List UInt8 → Bool
  | [] => false
  | b :: _ => decide (b = 45)
def rdP (f m : Int) (neg : Bool) : Prt → Value
  | none => .tuple #[rsV 0 false 0 { data := #[] } 0, .bool false]
  | some (D, n, ng, P) => .tuple #[rsD neg (finD f m neg (strip (D.map (· - 48))) (scE n ng P) false (scE n ng P)), .bool true]
/-- Behind the sign. -/
def rdSt (f m : Int) (neg : Bool) (l : List UInt8) : Value :=
  if knK (l.map lowB) ≠ 0 then .tuple #[rsV (knK (l.map lowB)) (neg && decide (knK (l.map lowB) = 2)) 0 { data := #[] } 0, .bool true] else rdP f m neg (pWhl (bz l) [])
/-- What ReadNum tells. -/
def rdR (f m : Int) (l : List UInt8) : Value :=
  if (f = 64 ∨ f = 128) ∧ (1 ≤ m ∧ m ≤ 5) ∧ l.length ≤ 200 then rdSt f m (sgn l) (unS l) else rdP f m false none
theorem unS_cons (b : UInt8) (t : List UInt8) : unS (b :: t) = if b = 43 ∨ b = 45 then t else b :: t := rfl
theorem sgn_cons (b : UInt8) (t : List UInt8) : sgn (b :: t) = decide (b = 45) := rfl
theorem sgO_cons (x : Int) (t : List Int) : sgO (x :: t) 0 = if x = 43 ∨ x = 45 then 1 else 0 := by
  unfold sgO
  simp only [List.length_cons, Nat.zero_lt_succ, List.getD_cons_zero, true_and, Nat.zero_add]
theorem sgB_cons (x : Int) (t : List Int) : sgB (x :: t) 0 = decide (x = 45) := by
  unfold sgB
  simp only [List.length_cons, Nat.zero_lt_succ, List.getD_cons_zero, true_and]
theorem rn_sign (l : List UInt8) : sgB (rn l) 0 = sgn l ∧ (rn l).drop (sgO (rn l) 0) = rn (unS l) := by
  cases l with
  | nil => exact ⟨rfl, rfl⟩
  | cons b t =>
    rw [unS_cons, sgn_cons]
    by_cases h : b.toNat < 128
    · rw [rn_ascii b t h, sgO_cons, sgB_cons]
      have e43 : ((b.toNat : Int) = 43) ↔ b = 43 := by
        constructor
        · intro q; apply UInt8.toNat_inj.1; show b.toNat = 43; omega
        · rintro rfl; rfl
      have e45 : ((b.toNat : Int) = 45) ↔ b = 45 := by
        constructor
        · intro q; apply UInt8.toNat_inj.1; show b.toNat = 45; omega
        · rintro rfl; rfl
      simp only [e43, e45]
      refine ⟨trivial, ?_⟩
      split
      · rfl
      · rw [List.drop_zero, rn_ascii b t h]
    · obtain ⟨r, u, hr, h1, h2⟩ := rn_high b t (by omega)
      have n43 : ¬ b = 43 := fun q => by subst q; exact h (by decide)
      have n45 : ¬ b = 45 := fun q => by subst q; exact h (by decide)
      rw [if_neg (fun q => Or.elim q n43 n45), hr, sgO_cons, sgB_cons, if_neg (show ¬ (r = 43 ∨ r = 45) by omega), List.drop_zero]
      exact ⟨by rw [decide_eq_false (show ¬ r = 45 by omega), decide_eq_false n45], rfl⟩
theorem knK_rn (l : List UInt8) : knK (Lib.mapD sml (runesBytes (rn l)).data.toList) = knK (l.map lowB) := by
  have a1 := name_same l nmInfinity (by decide)
  have a2 := name_same l nmInf (by decide)
  have a3 := name_same l nmNan (by decide)
  have a4 := name_same l nmSnan (by decide)
  unfold knK
  simp only [a1, a2, a3, a4]
theorem knK_bd (T : List UInt8) : knK T = 0 ∨ knK T = 2 ∨ knK T = 3 ∨ knK T = 4 := by
  unfold knK
  split
  · exact .inr (.inl rfl)
  · split
    · exact .inr (.inr (.inl rfl))
    · split
      · exact .inr (.inr (.inr rfl))
      · exact .inl rfl
theorem unS_len (l : List UInt8) : (unS l).length ≤ l.length := by
  cases l with
  | nil => exact Nat.le_refl _
  | cons b t =>
    rw [unS_cons]
    split
    · rw [List.length_cons]; omega
    · exact Nat.le_refl _
/-- What was parsed can be finished. -/
theorem prt_fin {L : List Int} {D P : List Int} {n : Nat} {neg : Bool} (h : pWhl L [] = some (D, n, neg, P)) (hL : L.length ≤ 200) :
    Canon (strip (D.map (· - 48))) ∧ (strip (D.map (· - 48))).length ≤ 200 ∧ (-200000 ≤ scE n neg P ∧ scE n neg P ≤ 200000) := by
  obtain ⟨h1, h2, h3, h4, h5, h6⟩ := pWhl_ok L.length L [] (fun y hy => by cases hy) (by simp) D n neg P h
  have hd : Dec (D.map (· - 48)) := fun x hx => by
    obtain ⟨y, hy, rfl⟩ := List.mem_map.1 hx
    have := h1 y hy
    omega
  have hl := strip_len (D.map (· - 48))
  rw [List.length_map] at hl
  have hpe := pe_bd P h2
  have hpl : (10 : Int) ^ P.length ≤ 10 ^ 5 := by
    have := Nat.pow_le_pow_right (show 0 < 10 by decide) h6
    exact_mod_cast this
  refine ⟨strip_canon _ hd (by rw [List.length_map]; exact h3), by omega, ?_⟩
  unfold scE
  split <;> omega
end Go.Proofs.YteofommckgeemaaGreatDoor
namespace Go.Proofs.YteofommckgeemaaGreatDoor
open Go.RowKit
set_option linter.unusedVariables false
set_option maxRecDepth 100000
set_option linter.unusedSimpArgs false
theorem results_rsb {fn : Func} {p t : Tmp} {b : Nat} {x y z u v : Value} (h : fn.results = #[.cell p 90, .tmp t]) (tmps : Array Value) (w : World) (hp : tmps[p]?.getD undef = .pointer (some ⟨b, 0, none⟩))
    (q0 : w.cell? ⟨b, 0, none⟩ = some x) (q1 : w.cell? ⟨b, 1, none⟩ = some y) (q2 : w.cell? ⟨b, 2, none⟩ = some z) (q3 : w.cell? ⟨b, 3, none⟩ = some u) (q4 : w.cell? ⟨b, 4, none⟩ = some v) : (results fn tmps).run Tryz.prog w = .ok (.tuple #[.agg #[x, y, z, u, v], tmps.getD t undef]) w := by
  simp [results, h, hp, go_sem, q0, q1, q2, q3, q4]
theorem fmt_yes (f : Int) (hf : f = 64 ∨ f = 128) : ∃ V, ∀ X, Calls Tryz.prog 148 #[.int .i64 f] X fun e w' => e = .returned (.tuple #[V, .bool true]) ∧ w' = X := by
  rcases hf with rfl | rfl
  · exact ⟨_, fmtOf_64⟩
  · exact ⟨_, fmtOf_128⟩
theorem mode_yes (m : Int) (hm : 1 ≤ m ∧ m ≤ 5) : ∃ F : Nat, ∀ X, Calls Tryz.prog 149 #[.int .i64 m] X fun e w' => e = .returned (.tuple #[.agg #[fnV F], .bool true]) ∧ Below X.heap.size X w' := by
  obtain ⟨F, -, -, h⟩ := rounding_yes m hm
  exact ⟨F, h⟩
theorem build_numB (k : Int) (b : Bool) (w : World) : (Instr.build 78 #[(0, .int .i64 k), (1, .bool b)]).run Tryz.prog w = .ok (numV k b 0 { data := #[] }) w := run_build w _ _ _ (by kernel_rfl)
theorem build_resZ (w : World) : (Instr.build 90 #[]).run Tryz.prog w = .ok (rsV 0 false 0 { data := #[] } 0) w := run_build w _ _ _ (by kernel_rfl)
set_option maxRecDepth 100000 in
set_option maxHeartbeats 4000000 in
theorem iReadNum_no (f m : Int) (s : ByteArray) (w : World) (hs : s.size ≤ 4611686018427387904) (h : ¬ ((f = 64 ∨ f = 128) ∧ (1 ≤ m ∧ m ≤ 5) ∧ s.size ≤ 200)) :
    Calls Tryz.prog 177 #[.int .i64 f, .int .i64 m, .string s] w fun e w' => e = .returned (.tuple #[rsV 0 false 0 { data := #[] } 0, .bool false]) ∧ Below w.heap.size w w' := by
  have HRn : Hid (¬ (1 ≤ m ∧ m ≤ 5) → Hid (∀ X, Calls Tryz.prog 149 #[.int .i64 m] X fun e w' => e = .returned (.tuple #[.agg #[.nilFunc], .bool false]) ∧ Below X.heap.size X w')) := fun hm X => roundingOf_no m hm X
  have HRy : Hid (1 ≤ m ∧ m ≤ 5 → ∃ F : Nat, Hid (∀ X, Calls Tryz.prog 149 #[.int .i64 m] X fun e w' => e = .returned (.tuple #[.agg #[fnV F], .bool true]) ∧ Below X.heap.size X w')) := fun hm => mode_yes m hm
  by_cases hf : f = 64 ∨ f = 128
  · obtain ⟨V, hV⟩ := fmt_yes f hf
    have HV : Hid (∀ X, Calls Tryz.prog 148 #[.int .i64 f] X fun e w' => e = .returned (.tuple #[V, .bool true]) ∧ w' = X) := hV
    clear hV
    by_cases hm : 1 ≤ m ∧ m ≤ 5
    · obtain ⟨F, HF⟩ := HRy.out hm
      have hz : (200 : Int) < (s.size : Int) := by
        rcases Nat.lt_or_ge 200 s.size with q | q
        · omega
        · exact absurd ⟨hf, hm, q⟩ h
      clear hm hf h HRn HRy
      go_enter Tryz.func177, Tryz.ntmps177
      go_wp2_with fail
      refine (HV.out _).mono ?_
      rintro e w1 ⟨rfl, hw⟩
      subst hw
      go_wp2_with fail
      refine (HF.out _).mono ?_
      rintro e w1 ⟨rfl, hb⟩
      have HY : Hid (At5 (w1.alloc (.cells #[fnV F] 177)) w.heap.size (.int .i64 0) (.bool false) (.int .i64 0) (.string { data := #[] }) (.int .i64 0) ∧ Below w.heap.size w (w1.alloc (.cells #[fnV F] 177))) := ⟨((at5_new w (.int .i64 0) (.bool false) (.int .i64 0) (.string { data := #[] }) (.int .i64 0)).below hb (by simp)).below ((Below.refl w1.heap.size w1).alloc (Nat.le_refl _) _) (Nat.lt_of_lt_of_le (by simp) hb.size), (((Below.refl _ _).alloc (Nat.le_refl _) _).trans (hb.mono (by simp))).alloc (by have := hb.size; simp at this; omega) _⟩
      have hB := build_resZ
      clear hb HV HF
      go_upto_region 4 with fail
      generalize w1.alloc (.cells #[fnV F] 177) = w2 at *
      go_wp2_with (refine wpList_store_row rfl 90 (.tmp 6) (.tmp 39) rfl w.heap.size #[.int .i64 0, .bool false, .int .i64 0, .string { data := #[] }, .int .i64 0] rfl rfl _ _ HY.out.1 (by kernel_rfl) rfl (one5 _ _ _ _ _) ?_)
      have hP := (HY.out.1.row (.int .i64 0) (.bool false) (.int .i64 0) (.string { data := #[] }) (.int .i64 0)).cells
      refine bodyPost_ret (results_rsb rfl _ _ rfl hP.1 hP.2.1 hP.2.2.1 hP.2.2.2.1 hP.2.2.2.2.1) rfl ?_
      exact ⟨rfl, bel_row HY.out.2 (Nat.le_refl _) _⟩
    · have HF := HRn.out hm
      clear hm hf h HRn HRy
      go_enter Tryz.func177, Tryz.ntmps177
      go_wp2_with fail
      refine (HV.out _).mono ?_
      rintro e w1 ⟨rfl, hw⟩
      subst hw
      go_wp2_with fail
      refine (HF.out _).mono ?_
      rintro e w1 ⟨rfl, hb⟩
      have HY : Hid (At5 (w1.alloc (.cells #[.nilFunc] 177)) w.heap.size (.int .i64 0) (.bool false) (.int .i64 0) (.string { data := #[] }) (.int .i64 0) ∧ Below w.heap.size w (w1.alloc (.cells #[.nilFunc] 177))) := ⟨((at5_new w (.int .i64 0) (.bool false) (.int .i64 0) (.string { data := #[] }) (.int .i64 0)).below hb (by simp)).below ((Below.refl w1.heap.size w1).alloc (Nat.le_refl _) _) (Nat.lt_of_lt_of_le (by simp) hb.size), (((Below.refl _ _).alloc (Nat.le_refl _) _).trans (hb.mono (by simp))).alloc (by have := hb.size; simp at this; omega) _⟩
      have hB := build_resZ
      clear hb HV HF
      go_upto_region 4 with fail
      generalize w1.alloc (.cells #[.nilFunc] 177) = w2 at *
      go_wp2_with (refine wpList_store_row rfl 90 (.tmp 6) (.tmp 39) rfl w.heap.size #[.int .i64 0, .bool false, .int .i64 0, .string { data := #[] }, .int .i64 0] rfl rfl _ _ HY.out.1 (by kernel_rfl) rfl (one5 _ _ _ _ _) ?_)
      have hP := (HY.out.1.row (.int .i64 0) (.bool false) (.int .i64 0) (.string { data := #[] }) (.int .i64 0)).cells
      refine bodyPost_ret (results_rsb rfl _ _ rfl hP.1 hP.2.1 hP.2.2.1 hP.2.2.2.1 hP.2.2.2.2.1) rfl ?_
      exact ⟨rfl, bel_row HY.out.2 (Nat.le_refl _) _⟩
  · have HV : Hid (∀ X, Calls Tryz.prog 148 #[.int .i64 f] X fun e w' => e = .returned (.tuple #[.nilIface, .bool false]) ∧ w' = X) := fun X => fmtOf_no f X (fun q => hf (.inl q)) (fun q => hf (.inr q))
    by_cases hm : 1 ≤ m ∧ m ≤ 5
    · obtain ⟨F, HF⟩ := HRy.out hm
      clear hm hf h HRn HRy
      go_enter Tryz.func177, Tryz.ntmps177
      go_wp2_with fail
      refine (HV.out _).mono ?_
      rintro e w1 ⟨rfl, hw⟩
      subst hw
      go_wp2_with fail
      refine (HF.out _).mono ?_
      rintro e w1 ⟨rfl, hb⟩
      have HY : Hid (At5 (w1.alloc (.cells #[fnV F] 177)) w.heap.size (.int .i64 0) (.bool false) (.int .i64 0) (.string { data := #[] }) (.int .i64 0) ∧ Below w.heap.size w (w1.alloc (.cells #[fnV F] 177))) := ⟨((at5_new w (.int .i64 0) (.bool false) (.int .i64 0) (.string { data := #[] }) (.int .i64 0)).below hb (by simp)).below ((Below.refl w1.heap.size w1).alloc (Nat.le_refl _) _) (Nat.lt_of_lt_of_le (by simp) hb.size), (((Below.refl _ _).alloc (Nat.le_refl _) _).trans (hb.mono (by simp))).alloc (by have := hb.size; simp at this; omega) _⟩
      have hB := build_resZ
      clear hb HV HF
      go_upto_region 4 with fail
      generalize w1.alloc (.cells #[fnV F] 177) = w2 at *
      go_wp2_with (refine wpList_store_row rfl 90 (.tmp 6) (.tmp 39) rfl w.heap.size #[.int .i64 0, .bool false, .int .i64 0, .string { data := #[] }, .int .i64 0] rfl rfl _ _ HY.out.1 (by kernel_rfl) rfl (one5 _ _ _ _ _) ?_)
      have hP := (HY.out.1.row (.int .i64 0) (.bool false) (.int .i64 0) (.string { data := #[] }) (.int .i64 0)).cells
      refine bodyPost_ret (results_rsb rfl _ _ rfl hP.1 hP.2.1 hP.2.2.1 hP.2.2.2.1 hP.2.2.2.2.1) rfl ?_
      exact ⟨rfl, bel_row HY.out.2 (Nat.le_refl _) _⟩
    · have HF := HRn.out hm
      clear hm hf h HRn HRy
      go_enter Tryz.func177, Tryz.ntmps177
      go_wp2_with fail
      refine (HV.out _).mono ?_
      rintro e w1 ⟨rfl, hw⟩
      subst hw
      go_wp2_with fail
      refine (HF.out _).mono ?_
      rintro e w1 ⟨rfl, hb⟩
      have HY : Hid (At5 (w1.alloc (.cells #[.nilFunc] 177)) w.heap.size (.int .i64 0) (.bool false) (.int .i64 0) (.string { data := #[] }) (.int .i64 0) ∧ Below w.heap.size w (w1.alloc (.cells #[.nilFunc] 177))) := ⟨((at5_new w (.int .i64 0) (.bool false) (.int .i64 0) (.string { data := #[] }) (.int .i64 0)).below hb (by simp)).below ((Below.refl w1.heap.size w1).alloc (Nat.le_refl _) _) (Nat.lt_of_lt_of_le (by simp) hb.size), (((Below.refl _ _).alloc (Nat.le_refl _) _).trans (hb.mono (by simp))).alloc (by have := hb.size; simp at this; omega) _⟩
      have hB := build_resZ
      clear hb HV HF
      go_upto_region 4 with fail
      generalize w1.alloc (.cells #[.nilFunc] 177) = w2 at *
      go_wp2_with (refine wpList_store_row rfl 90 (.tmp 6) (.tmp 39) rfl w.heap.size #[.int .i64 0, .bool false, .int .i64 0, .string { data := #[] }, .int .i64 0] rfl rfl _ _ HY.out.1 (by kernel_rfl) rfl (one5 _ _ _ _ _) ?_)
      have hP := (HY.out.1.row (.int .i64 0) (.bool false) (.int .i64 0) (.string { data := #[] }) (.int .i64 0)).cells
      refine bodyPost_ret (results_rsb rfl _ _ rfl hP.1 hP.2.1 hP.2.2.1 hP.2.2.2.1 hP.2.2.2.2.1) rfl ?_
      exact ⟨rfl, bel_row HY.out.2 (Nat.le_refl _) _⟩
theorem conv_rn (s : ByteArray) (X : World) (hs : s.size ≤ 200) : ∃ (cap : Nat) (cs : Array Value), (convert 9 251 (.string s)).run Tryz.prog X = .ok (.slice (some ⟨X.heap.size, 0, none⟩) (rn s.data.toList).length cap) (X.drew.alloc (.cells cs 21)) ∧ (rn s.data.toList).length ≤ cap ∧ ∀ i, i < (rn s.data.toList).length → cs[i]? = some (.int .i32 ((rn s.data.toList).getD i 0)) := by
  have hsz : (Conv.runesFrom s s.size 0 #[]).size = (rn s.data.toList).length := by rw [runes_of]; simp
  have hlen : s.data.toList.length = s.size := Array.length_toList
  have hle := rn_len s.data.toList
  have h := run_runes_of_string (P := Tryz.prog) X 9 251 21 s Tryz.underlying9 Tryz.underlying251 Tryz.underlying21 (by rw [hsz]; omega)
  refine ⟨_, _, by rw [h, hsz], grownCap_ge _ _ _ _, fun i hi => ?_⟩
  rw [Array.getElem?_append_left (by rw [hsz]; exact hi), runes_of]
  simp [List.getD, hi]
/-- The reader's box, laid. -/
theorem rdr_new (X : World) (R : List Int) (cap : Nat) (cs : Array Value) (h1 : R.length ≤ cap) (h2 : ∀ i, i < R.length → cs[i]? = some (.int .i32 (R.getD i 0))) (hR : R.length ≤ 1000) :
    RDr ((X.drew.alloc (.cells cs 21)).alloc (.cells #[.slice (some ⟨X.heap.size, 0, none⟩) R.length cap] 253)) (X.heap.size + 1) X.heap.size R 0 ∧ Below X.heap.size X ((X.drew.alloc (.cells cs 21)).alloc (.cells #[.slice (some ⟨X.heap.size, 0, none⟩) R.length cap] 253)) := by
  have hb : Below X.heap.size X ((X.drew.alloc (.cells cs 21)).alloc (.cells #[.slice (some ⟨X.heap.size, 0, none⟩) R.length cap] 253)) := ((Below.refl _ _).drew.alloc (Nat.le_refl _) _).alloc (by simp) _
  have s1 : (X.drew.alloc (.cells cs 21)).heap.size = X.heap.size + 1 := by simp
  have s2 : ((X.drew.alloc (.cells cs 21)).alloc (.cells #[.slice (some ⟨X.heap.size, 0, none⟩) R.length cap] 253)).heap.size = X.heap.size + 2 := by simp
  have a1 : (X.drew.alloc (.cells cs 21)).heap[X.heap.size]? = some (.cells cs 21 (0, 0)) := (MapKept.heap_alloc X.drew _).1
  have a2 := (MapKept.heap_alloc (X.drew.alloc (.cells cs 21)) (.cells #[.slice (some ⟨X.heap.size, 0, none⟩) R.length cap] 253)).1
  have b2 : Below (X.heap.size + 1) (X.drew.alloc (.cells cs 21)) ((X.drew.alloc (.cells cs 21)).alloc (.cells #[.slice (some ⟨X.heap.size, 0, none⟩) R.length cap] 253)) := (Below.refl _ _).alloc (by simp) _
  rw [s1] at a2
  generalize (X.drew.alloc (.cells cs 21)).alloc (.cells #[.slice (some ⟨X.heap.size, 0, none⟩) R.length cap] 253) = Y at *
  have a3 := (b2.block X.heap.size (by omega)).trans a1
  refine ⟨⟨⟨Nat.zero_le _, hR⟩, ⟨⟨0, cap, cell_blk a2, fun _ => rfl, h1⟩, frz_blk a2⟩, fun i hi => ?_, by omega, by omega, by omega⟩, hb⟩
  unfold World.cell?
  simp only [a3]
  simpa using h2 i hi
set_option maxRecDepth 100000 in
set_option maxHeartbeats 4000000 in
theorem iReadNum_yes (f m : Int) (s : ByteArray) (w : World) (hf : f = 64 ∨ f = 128) (hm : 1 ≤ m ∧ m ≤ 5) (hs : s.size ≤ 200) (hT : Lib.Utf8Tabs 4 5 w) :
    Calls Tryz.prog 177 #[.int .i64 f, .int .i64 m, .string s] w fun e w' => e = .returned (rdSt f m (sgn s.data.toList) (unS s.data.toList)) ∧ Below w.heap.size w w' := by
  obtain ⟨V, hV⟩ := fmt_yes f hf
  have HV : Hid (∀ X, Calls Tryz.prog 148 #[.int .i64 f] X fun e w' => e = .returned (.tuple #[V, .bool true]) ∧ w' = X) := hV
  obtain ⟨F, hF⟩ := mode_yes m hm
  have HF : Hid (∀ X, Calls Tryz.prog 149 #[.int .i64 m] X fun e w' => e = .returned (.tuple #[.agg #[fnV F], .bool true]) ∧ Below X.heap.size X w') := hF
  have HT : Hid (Lib.Utf8Tabs 4 5 w) := hT
  have hz : ¬ (200 : Int) < (s.size : Int) := by omega
  have HM : Hid ((f = 64 ∨ f = 128) ∧ (1 ≤ m ∧ m ≤ 5) ∧ s.size ≤ 200) := ⟨hf, hm, hs⟩
  obtain ⟨An, hAn⟩ : ∃ An, rdSt f m (sgn s.data.toList) (unS s.data.toList) = An := ⟨_, rfl⟩
  have HAn : Hid (rdSt f m (sgn s.data.toList) (unS s.data.toList) = An) := hAn
  rw [hAn]
  clear hV hF hT hf hm hs hAn
  go_enter Tryz.func177, Tryz.ntmps177
  go_wp2_with fail
  refine (HV.out _).mono ?_
  rintro e w1 ⟨rfl, hw⟩
  subst hw
  go_wp2_with fail
  refine (HF.out _).mono ?_
  rintro e w1 ⟨rfl, hb⟩
  have HY : Hid (At5 (w1.alloc (.cells #[fnV F] 177)) w.heap.size (.int .i64 0) (.bool false) (.int .i64 0) (.string { data := #[] }) (.int .i64 0) ∧ Below w.heap.size w (w1.alloc (.cells #[fnV F] 177))) := ⟨((at5_new w (.int .i64 0) (.bool false) (.int .i64 0) (.string { data := #[] }) (.int .i64 0)).below hb (by simp)).below ((Below.refl w1.heap.size w1).alloc (Nat.le_refl _) _) (Nat.lt_of_lt_of_le (by simp) hb.size), (((Below.refl _ _).alloc (Nat.le_refl _) _).trans (hb.mono (by simp))).alloc (by have := hb.size; simp at this; omega) _⟩

  clear hb HV HF
  go_upto_region 5 with fail
  generalize w1.alloc (.cells #[fnV F] 177) = w2 at *
  go_cut [12] (fun p wx => ∃ rb g, p = .pointer (some ⟨rb, 0, none⟩) ∧ Hid (RDr wx rb g (rn s.data.toList) 0 ∧ At5 wx w.heap.size (.int .i64 0) (.bool false) (.int .i64 0) (.string { data := #[] }) (.int .i64 0) ∧ Below w.heap.size w wx ∧ w.heap.size + 1 ≤ rb))
  case first =>
    obtain ⟨cap, cs, hcv, h1, h2⟩ := conv_rn s w2 HM.out.2.2
    have HN : Hid (RDr ((w2.drew.alloc (.cells cs 21)).alloc (.cells #[.slice (some ⟨w2.heap.size, 0, none⟩) (rn s.data.toList).length cap] 253)) (w2.heap.size + 1) w2.heap.size (rn s.data.toList) 0 ∧ Below w2.heap.size w2 ((w2.drew.alloc (.cells cs 21)).alloc (.cells #[.slice (some ⟨w2.heap.size, 0, none⟩) (rn s.data.toList).length cap] 253))) :=
      rdr_new w2 _ cap cs h1 h2 (by have := rn_len s.data.toList; have hl : s.data.toList.length = s.size := Array.length_toList; have := HM.out.2.2; omega)
    clear h1 h2
    generalize (rn s.data.toList).length = n at *
    go_wp2
    go_meet
    case rel =>
      exact ⟨_, _, rfl, HN.out.1, HY.out.1.below HN.out.2 HY.out.1.lt, HY.out.2.trans (HN.out.2.mono HY.out.2.size), by have := HY.out.1.lt; omega⟩
  case rest =>
    obtain ⟨rb, g, rfl, HR⟩ := hcut
    have HTS : Hid (Calls Tryz.prog 226 #[.pointer (some ⟨rb, 0, none⟩)] wc fun e w' => e = .returned (.bool (sgB (rn s.data.toList) 0)) ∧ RDr w' rb g (rn s.data.toList) (sgO (rn s.data.toList) 0) ∧ wc.grownBy w' (some rb)) := takesSign_any rb g (rn s.data.toList) 0 wc HR.out.1
    go_wp2_with fail
    refine HTS.out.mono ?_
    rintro e wa ⟨rfl, ha1, ha2⟩
    obtain ⟨hsg, hdr⟩ := rn_sign s.data.toList
    have hlen : s.data.toList.length = s.size := Array.length_toList
    have hun := unS_len s.data.toList
    have hrl := rn_len (unS s.data.toList)
    have hRl := rn_len s.data.toList
    have hs2 := HM.out.2.2
    have h5a : At5 wa w.heap.size (.int .i64 0) (.bool false) (.int .i64 0) (.string { data := #[] }) (.int .i64 0) := (ha2.block w.heap.size HR.out.2.1.lt (fun e => by have e' : w.heap.size = rb := Option.some.inj e; have := HR.out.2.2.2; omega)).trans HR.out.2.1
    have hba : Below w.heap.size w wa := HR.out.2.2.1.trans (bel_grw ha2 (by have := HR.out.2.2.2; omega) HR.out.2.2.1.size)
    have hrb := HR.out.2.2.2
    rw [hsg]
    clear HTS HR ha2 hsg
    generalize sgn s.data.toList = neg at *
    generalize hR : rn s.data.toList = R at *
    generalize unS s.data.toList = u at *
    generalize sgO R 0 = off at *
    have HR2 : Hid (RDr wa rb g R off) := ha1
    obtain ⟨⟨k1, k2⟩, ⟨⟨o, c, hc, ho, hcc⟩, -⟩, hcl, -⟩ := ha1
    have eL : R.length - off = (rn u).length := by rw [← hdr, List.length_drop]
    rw [eL] at hc
    have HKn : Hid (Calls Tryz.prog 227 #[.slice (some ⟨g, o, none⟩) (rn u).length c] wa fun e w' => e = .returned (.tuple #[.int .i64 (knK (u.map lowB)), .bool (decide (knK (u.map lowB) ≠ 0))]) ∧ Below wa.heap.size wa w') := by
      have := kindNamed_any g o c (rn u) wa (fun j hj => by
        have h0 : off < R.length := by omega
        obtain rfl := ho h0
        rw [hcl (o + j) (by omega), ← hdr]
        simp [List.getD, List.getElem?_drop]) (by omega) (Utf8Tabs_below HT.out (hba.mono (Nat.le_refl _)))
      rw [knK_rn] at this
      exact this
    have HA2 : Hid (At5 wa w.heap.size (.int .i64 0) (.bool false) (.int .i64 0) (.string { data := #[] }) (.int .i64 0) ∧ Below w.heap.size w wa ∧ w.heap.size + 1 ≤ rb ∧ wa.heap.size = wa.heap.size) := ⟨h5a, hba, hrb, rfl⟩
    have HPf : Hid (∀ D n ng P, pWhl (bz u) [] = some (D, n, ng, P) → Canon (strip (D.map (· - 48))) ∧ (strip (D.map (· - 48))).length ≤ 200 ∧ (-200000 ≤ scE n ng P ∧ scE n ng P ≤ 200000)) := fun D n ng P q => prt_fin q (by unfold bz; rw [List.length_map]; omega)
    have HDr : Hid (pWhl (R.drop off) [] = pWhl (bz u) []) := by show _ = _; rw [hdr, pWhl_rn]
    clear hR hlen hun hrl hRl hs2 h5a hba hrb hdr k1 k2 ho hcc hcl eL HT
    generalize (rn u).length = nL at *
    go_wp2_with fail
    refine HKn.out.mono ?_
    rintro e wb ⟨rfl, hbb⟩
    have HQ : Hid (At5 wb w.heap.size (.int .i64 0) (.bool false) (.int .i64 0) (.string { data := #[] }) (.int .i64 0) ∧ Below w.heap.size w wb) := ⟨HA2.out.1.below hbb HA2.out.1.lt, HA2.out.2.1.trans (hbb.mono HA2.out.2.1.size)⟩
    have HR3 : Hid (RDr wb rb g R off ∧ w.heap.size + 1 ≤ rb) := ⟨HR2.out.next hbb, HA2.out.2.2.1⟩
    clear hbb HR2 HA2 HKn hc
    unfold rdSt at HAn
    have HKv : Hid (knK (u.map lowB) = 0 ∨ knK (u.map lowB) = 2 ∨ knK (u.map lowB) = 3 ∨ knK (u.map lowB) = 4) := knK_bd _
    generalize knK (u.map lowB) = K at *
    by_cases hK : K = 0
    · subst hK
      have HRs : Hid (Calls Tryz.prog 228 #[.pointer (some ⟨rb, 0, none⟩)] wb (RsQ wb (w.heap.size + 1) (pWhl (bz u) []))) := by
        have := readScaled_any (w.heap.size + 1) rb g off R wb HR3.out.1 HR3.out.2
        rw [HDr.out] at this
        exact this
      rw [if_neg (show ¬ ((0 : Int) ≠ 0) by decide)] at HAn
      clear HR3 HDr
      generalize pWhl (bz u) [] = Y at *
      go_wp2_with fail
      refine HRs.out.mono ?_
      rintro e wd ⟨rfl, hbd⟩
      have HQ2 : Hid (At5 wd w.heap.size (.int .i64 0) (.bool false) (.int .i64 0) (.string { data := #[] }) (.int .i64 0) ∧ Below w.heap.size w wd) := ⟨HQ.out.1.below hbd (Nat.lt_succ_self _), HQ.out.2.trans (hbd.mono (Nat.le_succ _))⟩
      clear hbd HQ HRs
      rcases Y with _ | ⟨D, n, ng, P⟩
      · have hB := build_resZ
        simp only [rdP] at HAn
        simp only [rsVal]
        have HQ3 : Hid (∀ ob, At5 (wd.alloc ob) w.heap.size (.int .i64 0) (.bool false) (.int .i64 0) (.string { data := #[] }) (.int .i64 0) ∧ Below w.heap.size w (wd.alloc ob)) := fun ob => ⟨HQ2.out.1.below ((Below.refl wd.heap.size wd).alloc (Nat.le_refl _) ob) HQ2.out.1.lt, HQ2.out.2.alloc HQ2.out.2.size ob⟩
        clear HQ2 HPf
        go_upto_region 12 with fail
        have HQ4 := HQ3.out (.cells #[.string { data := #[] }, .int .i64 0] 192)
        generalize wd.alloc (.cells #[.string { data := #[] }, .int .i64 0] 192) = we at *
        have HQ5 : Hid (At5 we w.heap.size (.int .i64 0) (.bool false) (.int .i64 0) (.string { data := #[] }) (.int .i64 0) ∧ Below w.heap.size w we) := HQ4
        clear HQ4 HQ3
        go_wp2_with (refine wpList_store_row rfl 90 (.tmp 6) (.tmp 65) rfl w.heap.size #[.int .i64 0, .bool false, .int .i64 0, .string { data := #[] }, .int .i64 0] rfl rfl _ _ HQ5.out.1 (by kernel_rfl) rfl (one5 _ _ _ _ _) ?_)
        have hP := (HQ5.out.1.row (.int .i64 0) (.bool false) (.int .i64 0) (.string { data := #[] }) (.int .i64 0)).cells
        refine bodyPost_ret (results_rsb rfl _ _ rfl hP.1 hP.2.1 hP.2.2.1 hP.2.2.2.1 hP.2.2.2.2.1) rfl ?_
        exact ⟨congrArg Ending.returned HAn.out, bel_row HQ5.out.2 (Nat.le_refl _) _⟩
      · obtain ⟨hc1, hc2, hc3⟩ := HPf.out D n ng P rfl
        have HFi : Hid (∀ X, Calls Tryz.prog 88 #[.int .i64 f, .int .i64 m, .bool neg, .string (tx (strip (D.map (· - 48)))), .int .i64 (scE n ng P), .bool false, .int .i64 (scE n ng P)] X fun x w' => x = .returned (rsD neg (finD f m neg (strip (D.map (· - 48))) (scE n ng P) false (scE n ng P))) ∧ Below X.heap.size X w') := fun X => iFinish_all f m HM.out.1 HM.out.2.1 neg (strip (D.map (· - 48))) (scE n ng P) (scE n ng P) X hc1 hc2 hc3 hc3
        simp only [rdP] at HAn
        simp only [rsVal]
        clear HPf hc1 hc2 hc3 HM
        obtain ⟨Fz, hFz⟩ : ∃ Fz, finD f m neg (strip (D.map (· - 48))) (scE n ng P) false (scE n ng P) = Fz := ⟨_, rfl⟩
        rw [hFz] at HFi HAn
        clear hFz
        generalize tx (strip (D.map (· - 48))) = T at *
        generalize scE n ng P = ex at *
        obtain ⟨F1, F2, F3, F4⟩ := Fz
        have HQ3 : Hid (∀ ob we, Below (wd.alloc ob).heap.size (wd.alloc ob) we → At5 we w.heap.size (.int .i64 0) (.bool false) (.int .i64 0) (.string { data := #[] }) (.int .i64 0) ∧ Below w.heap.size w we) := fun ob we hbe => ⟨(HQ2.out.1.below ((Below.refl wd.heap.size wd).alloc (Nat.le_refl _) ob) HQ2.out.1.lt).below hbe (Nat.lt_of_lt_of_le HQ2.out.1.lt (by simp)), (HQ2.out.2.alloc HQ2.out.2.size ob).trans (hbe.mono (by have := HQ2.out.2.size; simp; omega))⟩
        clear HQ2
        go_wp2_with fail
        refine (HFi.out _).mono ?_
        rintro x we ⟨rfl, hbe⟩
        have HQ5 : Hid (At5 we w.heap.size (.int .i64 0) (.bool false) (.int .i64 0) (.string { data := #[] }) (.int .i64 0) ∧ Below w.heap.size w we) := HQ3.out _ we hbe
        clear hbe HQ3 HFi
        go_wp2_with (refine wpList_store_row rfl 90 (.tmp 6) (.tmp 75) rfl w.heap.size #[.int .i64 F1, .bool neg, .int .i64 F2, .string F3, .int .i64 F4] rfl rfl _ _ HQ5.out.1 (by kernel_rfl) rfl (one5 _ _ _ _ _) ?_)
        have hP := (HQ5.out.1.row (.int .i64 F1) (.bool neg) (.int .i64 F2) (.string F3) (.int .i64 F4)).cells
        refine bodyPost_ret (results_rsb rfl _ _ rfl hP.1 hP.2.1 hP.2.2.1 hP.2.2.2.1 hP.2.2.2.2.1) rfl ?_
        exact ⟨congrArg Ending.returned HAn.out, bel_row HQ5.out.2 (Nat.le_refl _) _⟩
    · have hKv : K = 2 ∨ K = 3 ∨ K = 4 := HKv.out.resolve_left hK
      rw [if_pos hK] at HAn
      clear HR3 HDr HPf hK HKv
      rcases neg with _ | _ <;> rcases hKv with rfl | rfl | rfl
      · have hB1 := build_numB 2 false
        have hB2 := build_res0 2 false 0 { data := #[] }
        go_wp2_with (refine wpList_store_row rfl 90 (.tmp 6) (.tmp 58) rfl w.heap.size #[.int .i64 2, .bool false, .int .i64 0, .string { data := #[] }, .int .i64 0] rfl rfl _ _ HQ.out.1 (by kernel_rfl) rfl (one5 _ _ _ _ _) ?_)
        have hP := (HQ.out.1.row (.int .i64 2) (.bool false) (.int .i64 0) (.string { data := #[] }) (.int .i64 0)).cells
        refine bodyPost_ret (results_rsb rfl _ _ rfl hP.1 hP.2.1 hP.2.2.1 hP.2.2.2.1 hP.2.2.2.2.1) rfl ?_
        exact ⟨congrArg Ending.returned HAn.out, bel_row HQ.out.2 (Nat.le_refl _) _⟩
      · have hB1 := build_numB 3 false
        have hB2 := build_res0 3 false 0 { data := #[] }
        go_wp2_with (refine wpList_store_row rfl 90 (.tmp 6) (.tmp 58) rfl w.heap.size #[.int .i64 3, .bool false, .int .i64 0, .string { data := #[] }, .int .i64 0] rfl rfl _ _ HQ.out.1 (by kernel_rfl) rfl (one5 _ _ _ _ _) ?_)
        have hP := (HQ.out.1.row (.int .i64 3) (.bool false) (.int .i64 0) (.string { data := #[] }) (.int .i64 0)).cells
        refine bodyPost_ret (results_rsb rfl _ _ rfl hP.1 hP.2.1 hP.2.2.1 hP.2.2.2.1 hP.2.2.2.2.1) rfl ?_
        exact ⟨congrArg Ending.returned HAn.out, bel_row HQ.out.2 (Nat.le_refl _) _⟩
      · have hB1 := build_numB 4 false
        have hB2 := build_res0 4 false 0 { data := #[] }
        go_wp2_with (refine wpList_store_row rfl 90 (.tmp 6) (.tmp 58) rfl w.heap.size #[.int .i64 4, .bool false, .int .i64 0, .string { data := #[] }, .int .i64 0] rfl rfl _ _ HQ.out.1 (by kernel_rfl) rfl (one5 _ _ _ _ _) ?_)
        have hP := (HQ.out.1.row (.int .i64 4) (.bool false) (.int .i64 0) (.string { data := #[] }) (.int .i64 0)).cells
        refine bodyPost_ret (results_rsb rfl _ _ rfl hP.1 hP.2.1 hP.2.2.1 hP.2.2.2.1 hP.2.2.2.2.1) rfl ?_
        exact ⟨congrArg Ending.returned HAn.out, bel_row HQ.out.2 (Nat.le_refl _) _⟩
      · have hB1 := build_numB 2 true
        have hB2 := build_res0 2 true 0 { data := #[] }
        go_wp2_with (refine wpList_store_row rfl 90 (.tmp 6) (.tmp 58) rfl w.heap.size #[.int .i64 2, .bool true, .int .i64 0, .string { data := #[] }, .int .i64 0] rfl rfl _ _ HQ.out.1 (by kernel_rfl) rfl (one5 _ _ _ _ _) ?_)
        have hP := (HQ.out.1.row (.int .i64 2) (.bool true) (.int .i64 0) (.string { data := #[] }) (.int .i64 0)).cells
        refine bodyPost_ret (results_rsb rfl _ _ rfl hP.1 hP.2.1 hP.2.2.1 hP.2.2.2.1 hP.2.2.2.2.1) rfl ?_
        exact ⟨congrArg Ending.returned HAn.out, bel_row HQ.out.2 (Nat.le_refl _) _⟩
      · have hB1 := build_numB 3 false
        have hB2 := build_res0 3 false 0 { data := #[] }
        go_wp2_with (refine wpList_store_row rfl 90 (.tmp 6) (.tmp 58) rfl w.heap.size #[.int .i64 3, .bool false, .int .i64 0, .string { data := #[] }, .int .i64 0] rfl rfl _ _ HQ.out.1 (by kernel_rfl) rfl (one5 _ _ _ _ _) ?_)
        have hP := (HQ.out.1.row (.int .i64 3) (.bool false) (.int .i64 0) (.string { data := #[] }) (.int .i64 0)).cells
        refine bodyPost_ret (results_rsb rfl _ _ rfl hP.1 hP.2.1 hP.2.2.1 hP.2.2.2.1 hP.2.2.2.2.1) rfl ?_
        exact ⟨congrArg Ending.returned HAn.out, bel_row HQ.out.2 (Nat.le_refl _) _⟩
      · have hB1 := build_numB 4 false
        have hB2 := build_res0 4 false 0 { data := #[] }
        go_wp2_with (refine wpList_store_row rfl 90 (.tmp 6) (.tmp 58) rfl w.heap.size #[.int .i64 4, .bool false, .int .i64 0, .string { data := #[] }, .int .i64 0] rfl rfl _ _ HQ.out.1 (by kernel_rfl) rfl (one5 _ _ _ _ _) ?_)
        have hP := (HQ.out.1.row (.int .i64 4) (.bool false) (.int .i64 0) (.string { data := #[] }) (.int .i64 0)).cells
        refine bodyPost_ret (results_rsb rfl _ _ rfl hP.1 hP.2.1 hP.2.2.1 hP.2.2.2.1 hP.2.2.2.2.1) rfl ?_
        exact ⟨congrArg Ending.returned HAn.out, bel_row HQ.out.2 (Nat.le_refl _) _⟩
end Go.Proofs.YteofommckgeemaaGreatDoor
