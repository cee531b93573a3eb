/-
  The draws of two numbers of which one may be a product with the other, walked: Div.
-/
import Derived.Test.YtcflomcankcggafGreatDoorBx5
import Derived.Laws.StructEq
import Derived.Test.YtcflomcankcggafGreatDoorDrAd
import Derived.Test.YtcflomcankcggafGreatDoorBx4r
import Derived.Test.YtcflomcankcggafGreatDoorQtl
import Derived.Test.YtcflomcankcggafGreatDoorDrQz
import Derived.Test.YtcflomcankcggafGreatDoorMuP
import Derived.Test.YtcflomcankcggafGreatDoorDrawN
namespace Go.Proofs.YtcflomcankcggafGreatDoor
open Go.RowKit
set_option linter.unusedVariables false
set_option maxRecDepth 100000
theorem neq_num_same (k : Int) (b : Bool) (e : Int) (s : ByteArray) (w : World) : (binOp .neq 25 (.agg #[.int .i64 k, .bool b, .int .i64 e, .string s]) (.agg #[.int .i64 k, .bool b, .int .i64 e, .string s])).run Tryz.prog w = .ok (.bool false) w := by
  have hS : Tryz.prog.underlying 25 = some (.struct (Tryz.prog.fieldsOf 25)) := by kernel_rfl
  have hp : Tryz.prog.stoodInHeld 25 = false := by kernel_rfl
  rw [run_neq_struct, show (10000 : Nat) = 9999 + 1 from rfl, run_equalIn_agg w 9999 25 _ _ hS hp]
  simp only [Program.fieldsOf, Tryz.underlying25]
  go_simp
theorem eqn_num_same (d : Nat) (k : Int) (b : Bool) (e : Int) (s : ByteArray) (w : World) : (Op.equalIn (d + 2) 25 (.agg #[.int .i64 k, .bool b, .int .i64 e, .string s]) (.agg #[.int .i64 k, .bool b, .int .i64 e, .string s])).run Tryz.prog w = .ok true w := by
  rw [run_equalIn_agg w (d + 1) 25 _ _ (by kernel_rfl) (by kernel_rfl)]
  simp only [Program.fieldsOf, Tryz.underlying25]
  go_simp
theorem eql_res_same (k : Int) (b : Bool) (e : Int) (s : ByteArray) (f : Int) (w : World) : (binOp .eql 29 (rsV k b e s f) (rsV k b e s f)).run Tryz.prog w = .ok (.bool true) w := by
  have h2 := eqn_num_same 9997 k b e s w
  rw [run_eql_struct, show (10000 : Nat) = 9999 + 1 from rfl, run_equalIn_agg w 9999 29 _ _ (by kernel_rfl) (by kernel_rfl)]
  simp only [Program.fieldsOf, Tryz.underlying29]
  have hpt : ∀ w : World, (part 25 #[.int .i64 k, .bool b, .int .i64 e, .string s, .int .i64 f] 0).run Tryz.prog w = .ok (.agg #[.int .i64 k, .bool b, .int .i64 e, .string s]) w := by
    intro w; go_simp
  simp only [Op.eqFields, Sem.run_bind, Sem.run_ite]
  rw [if_pos (by decide)]
  simp only [Result.andThen_ok, hpt, h2, show (9999 : Nat) = 9997 + 2 from rfl]
  clear h2 hpt
  go_simp
theorem neq_res_same (k : Int) (b : Bool) (e : Int) (s : ByteArray) (f : Int) (w : World) : (binOp .neq 29 (rsV k b e s f) (rsV k b e s f)).run Tryz.prog w = .ok (.bool false) w := by
  have h := eql_res_same k b e s f w
  rw [run_eql_struct] at h
  rw [run_neq_struct]
  cases hq : (Op.equalIn 10000 29 (rsV k b e s f) (rsV k b e s f)).run Tryz.prog w with
  | ok v w' =>
    rw [hq] at h
    simp [go_sem] at h ⊢
    exact h
  | halt h1 w1 => rw [hq] at h; simp [go_sem] at h
end Go.Proofs.YtcflomcankcggafGreatDoor
namespace Go.Proofs.YtcflomcankcggafGreatDoor
open Go.RowKit
set_option linter.unusedVariables false
set_option maxRecDepth 100000
theorem numB_kind (f k : Int) (b : Bool) (e : Int) (s : ByteArray) (h : numB f k b e s = true) : k ≠ 0 := by
  intro hk
  subst hk
  unfold numB at h
  by_cases hp : limP f = 0
  · rw [if_pos hp] at h; cases h
  · rw [if_neg hp, if_neg (by decide), if_neg (by decide), if_neg (by decide)] at h; cases h
theorem numB_size (f k : Int) (b : Bool) (e : Int) (s : ByteArray) (h : numB f k b e s = true) : s.size ≤ 4611686018427387904 := by
  unfold numB at h
  by_cases hp : limP f = 0
  · rw [if_pos hp] at h; cases h
  rw [if_neg hp] at h
  have hl : limP f ≤ 34 := by unfold limP; split <;> (try split) <;> omega
  by_cases h1 : k = 1
  · rw [if_pos h1] at h
    unfold natB at h
    simp only [Bool.and_eq_true, decide_eq_true_eq] at h
    have := h.1.1.1.2
    omega
  · rw [if_neg h1] at h
    have hE : s.toList.isEmpty = true := by
      by_cases h2 : k = 2
      · rw [if_pos h2] at h; simp only [Bool.and_eq_true] at h; exact h.2
      · rw [if_neg h2] at h
        by_cases h3 : k = 3 ∨ k = 4
        · rw [if_pos h3] at h; simp only [Bool.and_eq_true] at h; exact h.2.1
        · rw [if_neg h3] at h; cases h
    have e : s.toList.length = s.size := by rw [ByteArray.toList_eq, Array.length_toList]; rfl
    rw [List.isEmpty_iff.1 hE] at e
    rw [← e]
    decide
theorem finite_any (k : Int) (b : Bool) (e : Int) (s : ByteArray) (w : World) : Calls Tryz.prog 13 #[numV k b e s] w fun x w' => x = .returned (.bool (decide (k = 1))) ∧ Below w.heap.size w w' := by
  go_enter Tryz.func13, Tryz.ntmps13
  go_wp2
  go_ret
  exact ⟨rfl, (Below.refl _ _).alloc (Nat.le_refl _) _⟩
/-- The two numbers in their blocks. -/
def MU (w : World) (p : Nat) (ka : Int) (na : Bool) (ea : Int) (sa : ByteArray) (kb : Int) (nb : Bool) (eb : Int) (sb : ByteArray) (W : World) : Prop :=
  At4r W p (.int .i64 ka) (.bool na) (.int .i64 ea) (.string sa) ∧ At4r W (p + 1) (.int .i64 kb) (.bool nb) (.int .i64 eb) (.string sb) ∧ Below w.heap.size w W
section
variable {w W W' : World} {p : Nat} {ka : Int} {na : Bool} {ea : Int} {sa : ByteArray} {kb : Int} {nb : Bool} {eb : Int} {sb : ByteArray}
theorem mu_new (w0 : World) (hw : Below w.heap.size w w0) (ka : Int) (na : Bool) (ea : Int) (sa : ByteArray) (kb : Int) (nb : Bool) (eb : Int) (sb : ByteArray) : MU w w0.heap.size ka na ea sa kb nb eb sb ((w0.alloc (.cells #[.int .i64 ka, .bool na, .int .i64 ea, .string sa] 25)).alloc (.cells #[.int .i64 kb, .bool nb, .int .i64 eb, .string sb] 25)) := by
  have h1 := at4r_new w0 (.int .i64 ka) (.bool na) (.int .i64 ea) (.string sa)
  have z1 : (w0.alloc (.cells #[.int .i64 ka, .bool na, .int .i64 ea, .string sa] 25)).heap.size = w0.heap.size + 1 := by simp
  have b1 : Below w0.heap.size w0 (w0.alloc (.cells #[.int .i64 ka, .bool na, .int .i64 ea, .string sa] 25)) := (Below.refl _ _).alloc (Nat.le_refl _) _
  generalize w0.alloc (.cells #[.int .i64 ka, .bool na, .int .i64 ea, .string sa] 25) = w1 at *
  have h2 := at4r_new w1 (.int .i64 kb) (.bool nb) (.int .i64 eb) (.string sb)
  have b2 : Below w1.heap.size w1 (w1.alloc (.cells #[.int .i64 kb, .bool nb, .int .i64 eb, .string sb] 25)) := (Below.refl _ _).alloc (Nat.le_refl _) _
  rw [z1] at h2
  exact ⟨h1.next b2, h2, hw.trans ((b1.trans (b2.mono b1.size)).mono hw.size)⟩
theorem MU.next (h : MU w p ka na ea sa kb nb eb sb W) (hb : Below W.heap.size W W') : MU w p ka na ea sa kb nb eb sb W' :=
  ⟨h.1.next hb, h.2.1.next hb, h.2.2.trans (hb.mono h.2.2.size)⟩
end
end Go.Proofs.YtcflomcankcggafGreatDoor
namespace Go.Proofs.YtcflomcankcggafGreatDoor
open Go.RowKit
set_option linter.unusedVariables false
set_option maxRecDepth 100000
theorem Q2.next {w W W' : World} {cb pa : Nat} {ka : Int} {na : Bool} {ea : Int} {sa : ByteArray} {kb : Int} {nb : Bool} {eb : Int} {sb : ByteArray} (h : Q2 w cb pa ka na ea sa kb nb eb sb W) (hb : Below W.heap.size W W') : Q2 w cb pa ka na ea sa kb nb eb sb W' := by
  obtain ⟨h1, h2, h3, h4, l1, l2, l3⟩ := h
  exact ⟨h1.below hb (by omega), h2.below hb (by omega), h3.next hb, cur_bel2 h4 hb, l1, l2, Nat.lt_of_lt_of_le l3 hb.size⟩
set_option maxRecDepth 100000 in
set_option maxHeartbeats 4000000 in
theorem DrawDiv_any (a : Option Addr) (len cap : Nat) (w : World) (hl : len ≤ 4096) (hb : Bytes w.heap.size w a len) :
    Calls Tryz.prog 24 #[.slice a len cap] w fun r w' => ∃ (f m : Int) (ka : Int) (na : Bool) (ea : Int) (sa : ByteArray) (kb : Int) (nb : Bool) (eb : Int) (sb : ByteArray), r = .returned (.tuple #[.int .i64 f, .int .i64 m, numV ka na ea sa, numV kb nb eb sb]) ∧ (sa.size ≤ 340 ∧ sb.size ≤ 340) ∧ Below w.heap.size w w' := by
  obtain ⟨hA, hsz⟩ := a2_new w
  have hB : Hid (Bytes (a2W w).heap.size (a2W w) a len) := bytes_bel hb hA.2.2.1
  have HA : Hid (A2 w (a2W w)) := hA
  have HSz : Hid ((a2W w).heap.size = w.heap.size + 2) := hsz
  have HBw : Hid (Bytes w.heap.size w a len) := hb
  clear hb hA hsz
  go_enter Tryz.func24, Tryz.ntmps24
  go_wp2_with fail
  refine (l1New_any a len cap _ hl hB.out).mono ?_
  rintro e w0 ⟨he, hc0, hb0⟩
  rw [HSz.out] at he hc0
  subst he
  have HA0 : Hid (A2 w w0) := HA.out.next hb0
  have HB0 : Hid (Bytes w0.heap.size w0 a len) := bytes_bel hB.out hb0
  have HC0 : Hid (Cur (w.heap.size + 2) w0 (w.heap.size + 2)) := hc0
  clear hb0 HA hB HSz hc0 HBw
  go_wp2_with fail
  refine (DrawAdd_any a len cap _ hl HB0.out).mono ?_
  rintro e w1 ⟨f, m, ka, na, ea, sa, kb, nb, eb, sb, rfl, hs, hb1⟩
  have HSs : Hid (sa.size ≤ 340 ∧ sb.size ≤ 340) := hs
  have HQ : Hid (Q2 w (w.heap.size + 2) w1.heap.size ka na ea sa kb nb eb sb ((w1.alloc (.cells #[.int .i64 ka, .bool na, .int .i64 ea, .string sa] 25)).alloc (.cells #[.int .i64 kb, .bool nb, .int .i64 eb, .string sb] 25))) := q2_new w w1 _ (HA0.out.next hb1) (cur_bel2 HC0.out hb1) (Nat.le_refl _) ka na ea sa kb nb eb sb
  clear hb1 HA0 HC0 HB0 hs
  go_upto_region 3 with fail
  generalize ((w1.alloc (.cells #[.int .i64 ka, .bool na, .int .i64 ea, .string sa] 25)).alloc (.cells #[.int .i64 kb, .bool nb, .int .i64 eb, .string sb] 25)) = w2 at *
  generalize w1.heap.size = pa at *
  generalize hcb : w.heap.size + 2 = cb at *
  have HCb : Hid (w.heap.size + 2 = cb) := hcb
  clear hcb
  have HNa : Hid (∀ X, Calls Tryz.prog 56 #[.int .i64 f, numV ka na ea sa] X fun x w' => x = .returned (.bool (numB f ka na ea sa)) ∧ Below X.heap.size X w') := fun X => sNumOk_any f ka na ea sa X (by have := HSs.out; omega)
  have HNb : Hid (∀ X, Calls Tryz.prog 56 #[.int .i64 f, numV kb nb eb sb] X fun x w' => x = .returned (.bool (numB f kb nb eb sb)) ∧ Below X.heap.size X w') := fun X => sNumOk_any f kb nb eb sb X (by have := HSs.out; omega)
  have HMo : Hid (∀ X, Calls Tryz.prog 68 #[.int .i64 m] X fun x w' => x = .returned (.bool (decide (1 ≤ m ∧ m ≤ 5))) ∧ w' = X) := fun X => l12Mode_any m X
  have HMu : Hid (∀ X, Calls Tryz.prog 12 #[.int .i64 f, .int .i64 m, numV ka na ea sa, numV kb nb eb sb] X fun x w' => x = .returned (rsD (mulR f m ka na ea sa kb nb eb sb).1 (mulR f m ka na ea sa kb nb eb sb).2) ∧ Below X.heap.size X w') := fun X => sMul_ok f m ka na ea sa kb nb eb sb X (by have := HSs.out; omega) (by have := HSs.out; omega)
  have HRt : (1 ≤ m ∧ m ≤ 5) → numB f ka na ea sa = true → numB f kb nb eb sb = true → numB f (mulR f m ka na ea sa kb nb eb sb).2.1 (mulR f m ka na ea sa kb nb eb sb).1 (mulR f m ka na ea sa kb nb eb sb).2.2.1 (mulR f m ka na ea sa kb nb eb sb).2.2.2.1 = true := fun h1 h2 h3 => mulR_right f m ka na ea sa kb nb eb sb (by unfold addO; rw [h2, h3, decide_eq_true h1]; rfl)
  generalize mulR f m ka na ea sa kb nb eb sb = R at *
  obtain ⟨R0, F1, F2, F3, F4⟩ := R
  dsimp only at HMu HRt
  have HRh : Hid ((1 ≤ m ∧ m ≤ 5) → numB f ka na ea sa = true → numB f kb nb eb sb = true → numB f F1 R0 F2 F3 = true) := HRt
  clear HRt
  go_wp2_with fail
  refine (l1Once_any cb cb 3 _ HQ.out.2.2.2.1 (by decide) (by decide)).mono ?_
  rintro x w3 ⟨b2, rfl, hc3, hg3⟩
  have HQ3 : Hid (Q2 w cb pa ka na ea sa kb nb eb sb w3) := HQ.out.draw hc3 hg3
  clear hc3 hg3 HQ
  cases b2
  case false =>
    go_upto_region 7 with fail
    try clear a0 a1 a2 a3 c0 c1 c2 c3
    obtain ⟨⟨a0, a1, a2, a3, -⟩, ⟨c0, c1, c2, c3, -⟩, ⟨⟨d0, d1, d2, d3, d4⟩, ⟨e0, e1, e2, e3, e4⟩, -⟩, -, m1, m2, -⟩ := HQ3.out
    have d40 := d4 0
    have d41 := d4 1
    have d42 := d4 2
    have d43 := d4 3
    have e40 := e4 0
    have e41 := e4 1
    have e42 := e4 2
    have e43 := e4 3
    have n0 : w.heap.size ≠ pa := by omega
    have n1 : w.heap.size ≠ pa + 1 := by omega
    have n2 : w.heap.size + 1 ≠ pa := by omega
    have n3 : w.heap.size + 1 ≠ pa + 1 := by omega
    have n4 : pa ≠ w.heap.size := by omega
    have n5 : pa + 1 ≠ w.heap.size := by omega
    have n6 : pa ≠ w.heap.size + 1 := by omega
    have n7 : pa + 1 ≠ w.heap.size + 1 := by omega
    clear d4 e4 m1 m2
    go_region
    have HP := HQ3.out.2.2.1.fin ka na ea sa kb nb eb sb
    clear n0 n1 n2 n3 n4 n5 n6 n7 a0 a1 a2 a3 c0 c1 c2 c3 d0 d1 d2 d3 e0 e1 e2 e3 d40 d41 d42 d43 e40 e41 e42 e43
    go_wp2
    refine bodyPost_ret (results_fmn rfl _ _ rfl rfl HP.1 HP.2.1) rfl ?_
    exact ⟨f, m, ka, na, ea, sa, kb, nb, eb, sb, rfl, HSs.out, HP.2.2⟩
  case true =>
    obtain ⟨a0, a1, a2, a3, -⟩ := HQ3.out.1
    obtain ⟨c0, c1, c2, c3, -⟩ := HQ3.out.2.1
    by_cases hka : ka = 1
    case neg =>
      have k1 : (ka == 1) = false := beq_eq_false_iff_ne.2 hka
      clear hka
      go_upto_region 7 with fail
      try clear a0 a1 a2 a3 c0 c1 c2 c3
      obtain ⟨⟨a0, a1, a2, a3, -⟩, ⟨c0, c1, c2, c3, -⟩, ⟨⟨d0, d1, d2, d3, d4⟩, ⟨e0, e1, e2, e3, e4⟩, -⟩, -, m1, m2, -⟩ := HQ3.out
      have d40 := d4 0
      have d41 := d4 1
      have d42 := d4 2
      have d43 := d4 3
      have e40 := e4 0
      have e41 := e4 1
      have e42 := e4 2
      have e43 := e4 3
      have n0 : w.heap.size ≠ pa := by omega
      have n1 : w.heap.size ≠ pa + 1 := by omega
      have n2 : w.heap.size + 1 ≠ pa := by omega
      have n3 : w.heap.size + 1 ≠ pa + 1 := by omega
      have n4 : pa ≠ w.heap.size := by omega
      have n5 : pa + 1 ≠ w.heap.size := by omega
      have n6 : pa ≠ w.heap.size + 1 := by omega
      have n7 : pa + 1 ≠ w.heap.size + 1 := by omega
      clear d4 e4 m1 m2
      go_region
      have HP := HQ3.out.2.2.1.fin ka na ea sa kb nb eb sb
      clear n0 n1 n2 n3 n4 n5 n6 n7 a0 a1 a2 a3 c0 c1 c2 c3 d0 d1 d2 d3 e0 e1 e2 e3 d40 d41 d42 d43 e40 e41 e42 e43
      go_wp2
      refine bodyPost_ret (results_fmn rfl _ _ rfl rfl HP.1 HP.2.1) rfl ?_
      exact ⟨f, m, ka, na, ea, sa, kb, nb, eb, sb, rfl, HSs.out, HP.2.2⟩
    subst hka
    by_cases hkb : kb = 1
    case neg =>
      have k1 : (kb == 1) = false := beq_eq_false_iff_ne.2 hkb
      clear hkb
      go_upto_region 7 with fail
      try clear a0 a1 a2 a3 c0 c1 c2 c3
      obtain ⟨⟨a0, a1, a2, a3, -⟩, ⟨c0, c1, c2, c3, -⟩, ⟨⟨d0, d1, d2, d3, d4⟩, ⟨e0, e1, e2, e3, e4⟩, -⟩, -, m1, m2, -⟩ := HQ3.out
      have d40 := d4 0
      have d41 := d4 1
      have d42 := d4 2
      have d43 := d4 3
      have e40 := e4 0
      have e41 := e4 1
      have e42 := e4 2
      have e43 := e4 3
      have n0 : w.heap.size ≠ pa := by omega
      have n1 : w.heap.size ≠ pa + 1 := by omega
      have n2 : w.heap.size + 1 ≠ pa := by omega
      have n3 : w.heap.size + 1 ≠ pa + 1 := by omega
      have n4 : pa ≠ w.heap.size := by omega
      have n5 : pa + 1 ≠ w.heap.size := by omega
      have n6 : pa ≠ w.heap.size + 1 := by omega
      have n7 : pa + 1 ≠ w.heap.size + 1 := by omega
      clear d4 e4 m1 m2
      go_region
      have HP := HQ3.out.2.2.1.fin 1 na ea sa kb nb eb sb
      clear n0 n1 n2 n3 n4 n5 n6 n7 a0 a1 a2 a3 c0 c1 c2 c3 d0 d1 d2 d3 e0 e1 e2 e3 d40 d41 d42 d43 e40 e41 e42 e43
      go_wp2
      refine bodyPost_ret (results_fmn rfl _ _ rfl rfl HP.1 HP.2.1) rfl ?_
      exact ⟨f, m, 1, na, ea, sa, kb, nb, eb, sb, rfl, HSs.out, HP.2.2⟩
    subst hkb
    go_wp2_with fail
    refine (HNa.out _).mono ?_
    rintro x w4 ⟨rfl, hb4⟩
    have HQ4 : Hid (Q2 w cb pa 1 na ea sa 1 nb eb sb w4) := HQ3.out.next hb4
    clear hb4 HQ3 a0 a1 a2 a3 c0 c1 c2 c3
    obtain ⟨a0, a1, a2, a3, -⟩ := HQ4.out.1
    obtain ⟨c0, c1, c2, c3, -⟩ := HQ4.out.2.1
    have HOa : Hid (∀ v, numB f 1 na ea sa = v → v = numB f 1 na ea sa) := fun v h => h.symm
    cases hOa : numB f 1 na ea sa
    case false =>
      clear HRh HOa
      go_upto_region 7 with fail
      try clear a0 a1 a2 a3 c0 c1 c2 c3
      obtain ⟨⟨a0, a1, a2, a3, -⟩, ⟨c0, c1, c2, c3, -⟩, ⟨⟨d0, d1, d2, d3, d4⟩, ⟨e0, e1, e2, e3, e4⟩, -⟩, -, m1, m2, -⟩ := HQ4.out
      have d40 := d4 0
      have d41 := d4 1
      have d42 := d4 2
      have d43 := d4 3
      have e40 := e4 0
      have e41 := e4 1
      have e42 := e4 2
      have e43 := e4 3
      have n0 : w.heap.size ≠ pa := by omega
      have n1 : w.heap.size ≠ pa + 1 := by omega
      have n2 : w.heap.size + 1 ≠ pa := by omega
      have n3 : w.heap.size + 1 ≠ pa + 1 := by omega
      have n4 : pa ≠ w.heap.size := by omega
      have n5 : pa + 1 ≠ w.heap.size := by omega
      have n6 : pa ≠ w.heap.size + 1 := by omega
      have n7 : pa + 1 ≠ w.heap.size + 1 := by omega
      clear d4 e4 m1 m2
      go_region
      have HP := HQ4.out.2.2.1.fin 1 na ea sa 1 nb eb sb
      clear n0 n1 n2 n3 n4 n5 n6 n7 a0 a1 a2 a3 c0 c1 c2 c3 d0 d1 d2 d3 e0 e1 e2 e3 d40 d41 d42 d43 e40 e41 e42 e43
      go_wp2
      refine bodyPost_ret (results_fmn rfl _ _ rfl rfl HP.1 HP.2.1) rfl ?_
      exact ⟨f, m, 1, na, ea, sa, 1, nb, eb, sb, rfl, HSs.out, HP.2.2⟩
    case true =>
    have HOA : Hid (numB f 1 na ea sa = true) := hOa
    clear hOa HOa
    go_wp2_with fail
    refine (HNb.out _).mono ?_
    rintro x w5 ⟨rfl, hb5⟩
    have HQ5 : Hid (Q2 w cb pa 1 na ea sa 1 nb eb sb w5) := HQ4.out.next hb5
    clear hb5 HQ4 a0 a1 a2 a3 c0 c1 c2 c3
    obtain ⟨a0, a1, a2, a3, -⟩ := HQ5.out.1
    obtain ⟨c0, c1, c2, c3, -⟩ := HQ5.out.2.1
    cases hOb : numB f 1 nb eb sb
    case false =>
      clear HRh
      go_upto_region 7 with fail
      try clear a0 a1 a2 a3 c0 c1 c2 c3
      obtain ⟨⟨a0, a1, a2, a3, -⟩, ⟨c0, c1, c2, c3, -⟩, ⟨⟨d0, d1, d2, d3, d4⟩, ⟨e0, e1, e2, e3, e4⟩, -⟩, -, m1, m2, -⟩ := HQ5.out
      have d40 := d4 0
      have d41 := d4 1
      have d42 := d4 2
      have d43 := d4 3
      have e40 := e4 0
      have e41 := e4 1
      have e42 := e4 2
      have e43 := e4 3
      have n0 : w.heap.size ≠ pa := by omega
      have n1 : w.heap.size ≠ pa + 1 := by omega
      have n2 : w.heap.size + 1 ≠ pa := by omega
      have n3 : w.heap.size + 1 ≠ pa + 1 := by omega
      have n4 : pa ≠ w.heap.size := by omega
      have n5 : pa + 1 ≠ w.heap.size := by omega
      have n6 : pa ≠ w.heap.size + 1 := by omega
      have n7 : pa + 1 ≠ w.heap.size + 1 := by omega
      clear d4 e4 m1 m2
      go_region
      have HP := HQ5.out.2.2.1.fin 1 na ea sa 1 nb eb sb
      clear n0 n1 n2 n3 n4 n5 n6 n7 a0 a1 a2 a3 c0 c1 c2 c3 d0 d1 d2 d3 e0 e1 e2 e3 d40 d41 d42 d43 e40 e41 e42 e43
      go_wp2
      refine bodyPost_ret (results_fmn rfl _ _ rfl rfl HP.1 HP.2.1) rfl ?_
      exact ⟨f, m, 1, na, ea, sa, 1, nb, eb, sb, rfl, HSs.out, HP.2.2⟩
    case true =>
    have HOB : Hid (numB f 1 nb eb sb = true) := hOb
    clear hOb
    go_wp2_with fail
    refine (HMo.out _).mono ?_
    rintro x wq ⟨rfl, rfl⟩
    by_cases hm5 : 1 ≤ m ∧ m ≤ 5
    case neg =>
      rw [decide_eq_false hm5]
      clear HRh hm5
      go_upto_region 7 with fail
      try clear a0 a1 a2 a3 c0 c1 c2 c3
      obtain ⟨⟨a0, a1, a2, a3, -⟩, ⟨c0, c1, c2, c3, -⟩, ⟨⟨d0, d1, d2, d3, d4⟩, ⟨e0, e1, e2, e3, e4⟩, -⟩, -, m1, m2, -⟩ := HQ5.out
      have d40 := d4 0
      have d41 := d4 1
      have d42 := d4 2
      have d43 := d4 3
      have e40 := e4 0
      have e41 := e4 1
      have e42 := e4 2
      have e43 := e4 3
      have n0 : w.heap.size ≠ pa := by omega
      have n1 : w.heap.size ≠ pa + 1 := by omega
      have n2 : w.heap.size + 1 ≠ pa := by omega
      have n3 : w.heap.size + 1 ≠ pa + 1 := by omega
      have n4 : pa ≠ w.heap.size := by omega
      have n5 : pa + 1 ≠ w.heap.size := by omega
      have n6 : pa ≠ w.heap.size + 1 := by omega
      have n7 : pa + 1 ≠ w.heap.size + 1 := by omega
      clear d4 e4 m1 m2
      go_region
      have HP := HQ5.out.2.2.1.fin 1 na ea sa 1 nb eb sb
      clear n0 n1 n2 n3 n4 n5 n6 n7 a0 a1 a2 a3 c0 c1 c2 c3 d0 d1 d2 d3 e0 e1 e2 e3 d40 d41 d42 d43 e40 e41 e42 e43
      go_wp2
      refine bodyPost_ret (results_fmn rfl _ _ rfl rfl HP.1 HP.2.1) rfl ?_
      exact ⟨f, m, 1, na, ea, sa, 1, nb, eb, sb, rfl, HSs.out, HP.2.2⟩
    rw [decide_eq_true hm5]
    have HR := HRh.out hm5 HOA.out HOB.out
    have HRr : Hid (numB f F1 R0 F2 F3 = true) := HR
    clear HR HRh hm5
    go_wp2_with fail
    refine (HMu.out _).mono ?_
    rintro x w6 ⟨rfl, hb6⟩
    have HQ6 : Hid (Q2 w cb pa 1 na ea sa 1 nb eb sb w6) := HQ5.out.next hb6
    have hb7 : Below w6.heap.size w6 (w6.alloc (.cells #[.int .i64 F1, .bool R0, .int .i64 F2, .string F3, .int .i64 F4] 29)) := (Below.refl _ _).alloc (Nat.le_refl _) _
    have HQ7 : Hid (Q2 w cb pa 1 na ea sa 1 nb eb sb (w6.alloc (.cells #[.int .i64 F1, .bool R0, .int .i64 F2, .string F3, .int .i64 F4] 29))) := HQ6.out.next hb7
    have HR7 : Hid (At5 (w6.alloc (.cells #[.int .i64 F1, .bool R0, .int .i64 F2, .string F3, .int .i64 F4] 29)) w6.heap.size (.int .i64 F1) (.bool R0) (.int .i64 F2) (.string F3) (.int .i64 F4) ∧ w.heap.size + 2 < w6.heap.size) := ⟨at5_new w6 _ _ _ _ _, by obtain ⟨-, -, -, -, q1, q2, q3⟩ := HQ6.out; omega⟩
    clear hb6 hb7 HQ6 HQ5 a0 a1 a2 a3 c0 c1 c2 c3
    go_upto_region 5 with fail
    generalize (w6.alloc (.cells #[.int .i64 F1, .bool R0, .int .i64 F2, .string F3, .int .i64 F4] 29)) = w7 at *
    generalize w6.heap.size = q at *
    obtain ⟨r0, r1, r2, r3, r4, r5⟩ := HR7.out.1.cells
    by_cases hF1 : F1 = 1
    case neg =>
      have k1 : (F1 == 1) = false := beq_eq_false_iff_ne.2 hF1
      clear hF1
      go_upto_region 7 with fail
      clear r0 r1 r2 r3 r4 r5
      go_upto_region 7 with fail
      try clear a0 a1 a2 a3 c0 c1 c2 c3
      obtain ⟨⟨a0, a1, a2, a3, -⟩, ⟨c0, c1, c2, c3, -⟩, ⟨⟨d0, d1, d2, d3, d4⟩, ⟨e0, e1, e2, e3, e4⟩, -⟩, -, m1, m2, -⟩ := HQ7.out
      have d40 := d4 0
      have d41 := d4 1
      have d42 := d4 2
      have d43 := d4 3
      have e40 := e4 0
      have e41 := e4 1
      have e42 := e4 2
      have e43 := e4 3
      have n0 : w.heap.size ≠ pa := by omega
      have n1 : w.heap.size ≠ pa + 1 := by omega
      have n2 : w.heap.size + 1 ≠ pa := by omega
      have n3 : w.heap.size + 1 ≠ pa + 1 := by omega
      have n4 : pa ≠ w.heap.size := by omega
      have n5 : pa + 1 ≠ w.heap.size := by omega
      have n6 : pa ≠ w.heap.size + 1 := by omega
      have n7 : pa + 1 ≠ w.heap.size + 1 := by omega
      clear d4 e4 m1 m2
      go_region
      have HP := HQ7.out.2.2.1.fin 1 na ea sa 1 nb eb sb
      clear n0 n1 n2 n3 n4 n5 n6 n7 a0 a1 a2 a3 c0 c1 c2 c3 d0 d1 d2 d3 e0 e1 e2 e3 d40 d41 d42 d43 e40 e41 e42 e43
      go_wp2
      refine bodyPost_ret (results_fmn rfl _ _ rfl rfl HP.1 HP.2.1) rfl ?_
      exact ⟨f, m, 1, na, ea, sa, 1, nb, eb, sb, rfl, HSs.out, HP.2.2⟩
    subst hF1
    have HF3 : Hid (F3.size ≤ 340) := by
      have h := HRr.out
      obtain ⟨hf, e1, -, hc⟩ := right_two f 1 R0 F2 F3 h (by decide) (by decide)
      obtain ⟨-, l1, -, -⟩ := hc rfl
      have := lims f hf
      show _ ≤ _
      rw [e1, tx_size]
      omega
    go_upto_region 6 with fail
    try clear a0 a1 a2 a3 c0 c1 c2 c3 r0 r1 r2 r3 r4 r5
    obtain ⟨r0, r1, r2, r3, r4, r5⟩ := HR7.out.1.cells
    obtain ⟨-, ⟨c0, c1, c2, c3, -⟩, ⟨⟨d0, d1, d2, d3, d4⟩, ⟨e0, e1, e2, e3, e4⟩, -⟩, -, m1, m2, -⟩ := HQ7.out
    have hq := HR7.out.2
    have d40 := d4 0
    have d41 := d4 1
    have d42 := d4 2
    have d43 := d4 3
    have e40 := e4 0
    have e41 := e4 1
    have e42 := e4 2
    have e43 := e4 3
    have n0 : w.heap.size ≠ q := by omega
    have n1 : w.heap.size ≠ pa + 1 := by omega
    have n2 : w.heap.size + 1 ≠ q := by omega
    have n3 : w.heap.size + 1 ≠ pa + 1 := by omega
    have n4 : q ≠ w.heap.size := by omega
    have n5 : pa + 1 ≠ w.heap.size := by omega
    have n6 : q ≠ w.heap.size + 1 := by omega
    have n7 : pa + 1 ≠ w.heap.size + 1 := by omega
    clear d4 e4 m1 m2 hq
    go_region
    have HP := HQ7.out.2.2.1.fin 1 R0 F2 F3 1 nb eb sb
    clear n0 n1 n2 n3 n4 n5 n6 n7 r0 r1 r2 r3 r4 r5 c0 c1 c2 c3 d0 d1 d2 d3 e0 e1 e2 e3 d40 d41 d42 d43 e40 e41 e42 e43
    go_wp2
    refine bodyPost_ret (results_fmn rfl _ _ rfl rfl HP.1 HP.2.1) rfl ?_
    exact ⟨f, m, 1, R0, F2, F3, 1, nb, eb, sb, rfl, ⟨HF3.out, HSs.out.2⟩, HP.2.2⟩
end Go.Proofs.YtcflomcankcggafGreatDoor
