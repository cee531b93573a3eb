/-
  The draws of two numbers of which one may take the other's exponent nearly, walked: Remainder.
-/
import Derived.Test.YtnkoeidolmiheaaGreatDoorIsR2
import Derived.Laws.StructEq
import Derived.Test.YtnkoeidolmiheaaGreatDoorDrAd
import Derived.Test.YtnkoeidolmiheaaGreatDoorPsd
import Derived.Test.YtnkoeidolmiheaaGreatDoorQtl
import Derived.Test.YtnkoeidolmiheaaGreatDoorSmO
import Derived.Deep.DeepCutAuto
namespace Go.Proofs.YtnkoeidolmiheaaGreatDoor
open Go.RowKit
set_option linter.unusedVariables false
set_option maxRecDepth 100000
theorem neq_num_same (k : Int) (b : Bool) (e : Int) (s : ByteArray) (w : World) : (binOp .neq 25 (.agg #[.int .i64 k, .bool b, .int .i64 e, .string s]) (.agg #[.int .i64 k, .bool b, .int .i64 e, .string s])).run Tryz.prog w = .ok (.bool false) w := by
  have hS : Tryz.prog.underlying 25 = some (.struct (Tryz.prog.fieldsOf 25)) := by kernel_rfl
  have hp : Tryz.prog.stoodInHeld 25 = false := by kernel_rfl
  rw [run_neq_struct, show (10000 : Nat) = 9999 + 1 from rfl, run_equalIn_agg w 9999 25 _ _ hS hp]
  simp only [Program.fieldsOf, Tryz.underlying25]
  go_simp
theorem eqn_num_same (d : Nat) (k : Int) (b : Bool) (e : Int) (s : ByteArray) (w : World) : (Op.equalIn (d + 2) 25 (.agg #[.int .i64 k, .bool b, .int .i64 e, .string s]) (.agg #[.int .i64 k, .bool b, .int .i64 e, .string s])).run Tryz.prog w = .ok true w := by
  rw [run_equalIn_agg w (d + 1) 25 _ _ (by kernel_rfl) (by kernel_rfl)]
  simp only [Program.fieldsOf, Tryz.underlying25]
  go_simp
theorem eql_res_same (k : Int) (b : Bool) (e : Int) (s : ByteArray) (f : Int) (w : World) : (binOp .eql 29 (rsV k b e s f) (rsV k b e s f)).run Tryz.prog w = .ok (.bool true) w := by
  have h2 := eqn_num_same 9997 k b e s w
  rw [run_eql_struct, show (10000 : Nat) = 9999 + 1 from rfl, run_equalIn_agg w 9999 29 _ _ (by kernel_rfl) (by kernel_rfl)]
  simp only [Program.fieldsOf, Tryz.underlying29]
  have hpt : ∀ w : World, (part 25 #[.int .i64 k, .bool b, .int .i64 e, .string s, .int .i64 f] 0).run Tryz.prog w = .ok (.agg #[.int .i64 k, .bool b, .int .i64 e, .string s]) w := by
    intro w; go_simp
  simp only [Op.eqFields, Sem.run_bind, Sem.run_ite]
  rw [if_pos (by decide)]
  simp only [Result.andThen_ok, hpt, h2, show (9999 : Nat) = 9997 + 2 from rfl]
  clear h2 hpt
  go_simp
theorem neq_res_same (k : Int) (b : Bool) (e : Int) (s : ByteArray) (f : Int) (w : World) : (binOp .neq 29 (rsV k b e s f) (rsV k b e s f)).run Tryz.prog w = .ok (.bool false) w := by
  have h := eql_res_same k b e s f w
  rw [run_eql_struct] at h
  rw [run_neq_struct]
  cases hq : (Op.equalIn 10000 29 (rsV k b e s f) (rsV k b e s f)).run Tryz.prog w with
  | ok v w' =>
    rw [hq] at h
    simp [go_sem] at h ⊢
    exact h
  | halt h1 w1 => rw [hq] at h; simp [go_sem] at h
end Go.Proofs.YtnkoeidolmiheaaGreatDoor
namespace Go.Proofs.YtnkoeidolmiheaaGreatDoor
open Go.RowKit
set_option linter.unusedVariables false
set_option maxRecDepth 100000
theorem numB_kind (f k : Int) (b : Bool) (e : Int) (s : ByteArray) (h : numB f k b e s = true) : k ≠ 0 := by
  intro hk
  subst hk
  unfold numB at h
  by_cases hp : limP f = 0
  · rw [if_pos hp] at h; cases h
  · rw [if_neg hp, if_neg (by decide), if_neg (by decide), if_neg (by decide)] at h; cases h
theorem numB_size (f k : Int) (b : Bool) (e : Int) (s : ByteArray) (h : numB f k b e s = true) : s.size ≤ 4611686018427387904 := by
  unfold numB at h
  by_cases hp : limP f = 0
  · rw [if_pos hp] at h; cases h
  rw [if_neg hp] at h
  have hl : limP f ≤ 34 := by unfold limP; split <;> (try split) <;> omega
  by_cases h1 : k = 1
  · rw [if_pos h1] at h
    unfold natB at h
    simp only [Bool.and_eq_true, decide_eq_true_eq] at h
    have := h.1.1.1.2
    omega
  · rw [if_neg h1] at h
    have hE : s.toList.isEmpty = true := by
      by_cases h2 : k = 2
      · rw [if_pos h2] at h; simp only [Bool.and_eq_true] at h; exact h.2
      · rw [if_neg h2] at h
        by_cases h3 : k = 3 ∨ k = 4
        · rw [if_pos h3] at h; simp only [Bool.and_eq_true] at h; exact h.2.1
        · rw [if_neg h3] at h; cases h
    have e : s.toList.length = s.size := by rw [ByteArray.toList_eq, Array.length_toList]; rfl
    rw [List.isEmpty_iff.1 hE] at e
    rw [← e]
    decide
theorem finite_any (k : Int) (b : Bool) (e : Int) (s : ByteArray) (w : World) : Calls Tryz.prog 12 #[numV k b e s] w fun x w' => x = .returned (.bool (decide (k = 1))) ∧ Below w.heap.size w w' := by
  go_enter Tryz.func12, Tryz.ntmps12
  go_wp2
  go_ret
  exact ⟨rfl, (Below.refl _ _).alloc (Nat.le_refl _) _⟩
/-- The two numbers in their blocks. -/
def MU (w : World) (p : Nat) (ka : Int) (na : Bool) (ea : Int) (sa : ByteArray) (kb : Int) (nb : Bool) (eb : Int) (sb : ByteArray) (W : World) : Prop :=
  At4r W p (.int .i64 ka) (.bool na) (.int .i64 ea) (.string sa) ∧ At4r W (p + 1) (.int .i64 kb) (.bool nb) (.int .i64 eb) (.string sb) ∧ Below w.heap.size w W
section
variable {w W W' : World} {p : Nat} {ka : Int} {na : Bool} {ea : Int} {sa : ByteArray} {kb : Int} {nb : Bool} {eb : Int} {sb : ByteArray}
theorem mu_new (w0 : World) (hw : Below w.heap.size w w0) (ka : Int) (na : Bool) (ea : Int) (sa : ByteArray) (kb : Int) (nb : Bool) (eb : Int) (sb : ByteArray) : MU w w0.heap.size ka na ea sa kb nb eb sb ((w0.alloc (.cells #[.int .i64 ka, .bool na, .int .i64 ea, .string sa] 25)).alloc (.cells #[.int .i64 kb, .bool nb, .int .i64 eb, .string sb] 25)) := by
  have h1 := at4r_new w0 (.int .i64 ka) (.bool na) (.int .i64 ea) (.string sa)
  have z1 : (w0.alloc (.cells #[.int .i64 ka, .bool na, .int .i64 ea, .string sa] 25)).heap.size = w0.heap.size + 1 := by simp
  have b1 : Below w0.heap.size w0 (w0.alloc (.cells #[.int .i64 ka, .bool na, .int .i64 ea, .string sa] 25)) := (Below.refl _ _).alloc (Nat.le_refl _) _
  generalize w0.alloc (.cells #[.int .i64 ka, .bool na, .int .i64 ea, .string sa] 25) = w1 at *
  have h2 := at4r_new w1 (.int .i64 kb) (.bool nb) (.int .i64 eb) (.string sb)
  have b2 : Below w1.heap.size w1 (w1.alloc (.cells #[.int .i64 kb, .bool nb, .int .i64 eb, .string sb] 25)) := (Below.refl _ _).alloc (Nat.le_refl _) _
  rw [z1] at h2
  exact ⟨h1.next b2, h2, hw.trans ((b1.trans (b2.mono b1.size)).mono hw.size)⟩
theorem MU.next (h : MU w p ka na ea sa kb nb eb sb W) (hb : Below W.heap.size W W') : MU w p ka na ea sa kb nb eb sb W' :=
  ⟨h.1.next hb, h.2.1.next hb, h.2.2.trans (hb.mono h.2.2.size)⟩
end
end Go.Proofs.YtnkoeidolmiheaaGreatDoor
namespace Go.Proofs.YtnkoeidolmiheaaGreatDoor
open Go.RowKit
set_option linter.unusedVariables false
set_option maxRecDepth 100000
/-- Two numbers in their boxes pa, pa + 1, the answers' boxes, the cursor. -/
def Q2 (w : World) (cb pa : Nat) (ka : Int) (na : Bool) (ea : Int) (sa : ByteArray) (kb : Int) (nb : Bool) (eb : Int) (sb : ByteArray) (W : World) : Prop :=
  At4 W pa (.int .i64 ka) (.bool na) (.int .i64 ea) (.string sa) ∧ At4 W (pa + 1) (.int .i64 kb) (.bool nb) (.int .i64 eb) (.string sb) ∧ A2 w W ∧ Cur cb W cb ∧ w.heap.size + 2 ≤ cb ∧ cb < pa ∧ pa + 1 < W.heap.size
section
variable {w W W' : World} {cb pa : Nat} {ka : Int} {na : Bool} {ea : Int} {sa : ByteArray} {kb : Int} {nb : Bool} {eb : Int} {sb : ByteArray}
theorem Q2.draw (h : Q2 w cb pa ka na ea sa kb nb eb sb W) (hc : Cur cb W' cb) (hg : W.grownBy W' (some cb)) : Q2 w cb pa ka na ea sa kb nb eb sb W' := by
  obtain ⟨h1, h2, h3, h4, l1, l2, l3⟩ := h
  exact ⟨h1.grown hg (by omega) (by omega), h2.grown hg (by omega) (by omega), h3.draw hg (by omega), hc, l1, l2, Nat.lt_of_lt_of_le l3 hg.size⟩
theorem Q2.drew (h : Q2 w cb pa ka na ea sa kb nb eb sb W) : Q2 w cb pa ka na ea sa kb nb eb sb W.drew := by
  obtain ⟨h1, h2, h3, h4, h5⟩ := h
  exact ⟨h1, h2, ⟨h3.1, h3.2.1, h3.2.2.1.drew, h3.2.2.2⟩, h4, h5⟩
theorem Q2.b2 (h : Q2 w cb pa ka na ea sa kb nb eb sb W) (v : Int) : Q2 w cb pa ka na ea sa kb nb v sb (W.setCell ⟨pa + 1, 2, none⟩ (.int .i64 v)) := by
  obtain ⟨h1, h2, h3, h4, l1, l2, l3⟩ := h
  exact ⟨h1.far (by omega) _ _, h2.put2 _, ⟨h3.1.far (by omega) _ _, h3.2.1.far (by omega) _ _, h3.2.2.1.setCell (show w.heap.size ≤ pa + 1 by omega) _, by have := h3.2.2.2; simpa using this⟩, cur_far h4 (by omega) _ _, l1, l2, by simpa using l3⟩
end
theorem q2_new (w W : World) (cb : Nat) (hA : A2 w W) (hc : Cur cb W cb) (hcb : w.heap.size + 2 ≤ cb) (ka : Int) (na : Bool) (ea : Int) (sa : ByteArray) (kb : Int) (nb : Bool) (eb : Int) (sb : ByteArray) :
    Q2 w cb W.heap.size ka na ea sa kb nb eb sb ((W.alloc (.cells #[.int .i64 ka, .bool na, .int .i64 ea, .string sa] 25)).alloc (.cells #[.int .i64 kb, .bool nb, .int .i64 eb, .string sb] 25)) := by
  have hlt := hc.lt.2
  have h1 := at4_new W (.int .i64 ka) (.bool na) (.int .i64 ea) (.string sa)
  have z1 := new_size W (.cells #[.int .i64 ka, .bool na, .int .i64 ea, .string sa] 25)
  have b1 : Below W.heap.size W (W.alloc (.cells #[.int .i64 ka, .bool na, .int .i64 ea, .string sa] 25)) := (Below.refl _ _).alloc (Nat.le_refl _) _
  generalize W.alloc (.cells #[.int .i64 ka, .bool na, .int .i64 ea, .string sa] 25) = w4 at *
  have h2 := at4_new w4 (.int .i64 kb) (.bool nb) (.int .i64 eb) (.string sb)
  have z2 := new_size w4 (.cells #[.int .i64 kb, .bool nb, .int .i64 eb, .string sb] 25)
  have b2 : Below w4.heap.size w4 (w4.alloc (.cells #[.int .i64 kb, .bool nb, .int .i64 eb, .string sb] 25)) := (Below.refl _ _).alloc (Nat.le_refl _) _
  rw [z1] at h2
  generalize w4.alloc (.cells #[.int .i64 kb, .bool nb, .int .i64 eb, .string sb] 25) = w5 at *
  have b3 : Below W.heap.size W w5 := b1.trans (b2.mono b1.size)
  exact ⟨h1.below b2 (by omega), h2, hA.next b3, cur_bel2 hc b3, hcb, hlt, by omega⟩
end Go.Proofs.YtnkoeidolmiheaaGreatDoor
namespace Go.Proofs.YtnkoeidolmiheaaGreatDoor
open Go.RowKit
set_option linter.unusedVariables false
set_option maxRecDepth 100000
abbrev rm4 : Array Value := #[.int .i64 160, .int .i64 161, .int .i64 (-160), .int .i64 (-161)]
theorem rm4_at (y : Int) (h0 : 0 ≤ y) (h1 : y < 4) : ∃ x : Int, rm4[y.toNat]? = some (.int .i64 x) := by
  rcases (show y = 0 ∨ y = 1 ∨ y = 2 ∨ y = 3 by omega) with rfl | rfl | rfl | rfl
  · exact ⟨_, rfl⟩
  · exact ⟨_, rfl⟩
  · exact ⟨_, rfl⟩
  · exact ⟨_, rfl⟩
theorem results_f2n {fn : Func} {t1 p q : Tmp} {b c : Nat} {x y z u x' y' z' u' : Value} (h : fn.results = #[.tmp t1, .cell p 25, .cell q 25]) (tmps : Array Value) (w : World) (hp : tmps[p]?.getD undef = .pointer (some ⟨b, 0, none⟩)) (hq : tmps[q]?.getD undef = .pointer (some ⟨c, 0, none⟩))
    (h1 : At4 w b x y z u) (h2 : At4 w c x' y' z' u') : (results fn tmps).run Tryz.prog w = .ok (.tuple #[tmps.getD t1 undef, .agg #[x, y, z, u], .agg #[x', y', z', u']]) w := by
  obtain ⟨a0, a1, a2, a3, -⟩ := h1
  obtain ⟨c0, c1, c2, c3, -⟩ := h2
  unfold results
  rw [h]
  simp [hp, hq, go_sem, a0, a1, a2, a3, c0, c1, c2, c3]
theorem Q2.next' {w W W' : World} {cb pa : Nat} {ka : Int} {na : Bool} {ea : Int} {sa : ByteArray} {kb : Int} {nb : Bool} {eb : Int} {sb : ByteArray} (h : Q2 w cb pa ka na ea sa kb nb eb sb W) (hb : Below W.heap.size W W') : Q2 w cb pa ka na ea sa kb nb eb sb W' := by
  obtain ⟨h1, h2, h3, h4, l1, l2, l3⟩ := h
  exact ⟨h1.below hb (by omega), h2.below hb (by omega), h3.next hb, cur_bel2 h4 hb, l1, l2, Nat.lt_of_lt_of_le l3 hb.size⟩
theorem Q2.alloc {w W : World} {cb pa : Nat} {ka : Int} {na : Bool} {ea : Int} {sa : ByteArray} {kb : Int} {nb : Bool} {eb : Int} {sb : ByteArray} (h : Q2 w cb pa ka na ea sa kb nb eb sb W) (o : Obj) : Q2 w cb pa ka na ea sa kb nb eb sb (W.alloc o) := h.next' ((Below.refl _ _).alloc (Nat.le_refl _) _)
set_option maxRecDepth 100000 in
set_option maxHeartbeats 4000000 in
theorem DrawRemainder_any (a : Option Addr) (len cap : Nat) (w : World) (hl : len ≤ 4096) (hb : Bytes w.heap.size w a len) :
    Calls Tryz.prog 16 #[.slice a len cap] w fun r w' => ∃ (f : Int) (ka : Int) (na : Bool) (ea : Int) (sa : ByteArray) (kb : Int) (nb : Bool) (eb : Int) (sb : ByteArray), r = .returned (.tuple #[.int .i64 f, numV ka na ea sa, numV kb nb eb sb]) ∧ (sa.size ≤ 340 ∧ sb.size ≤ 340) ∧ Below w.heap.size w w' := by
  obtain ⟨hA, hsz⟩ := a2_new w
  have hB : Hid (Bytes (a2W w).heap.size (a2W w) a len) := bytes_bel hb hA.2.2.1
  have HA : Hid (A2 w (a2W w)) := hA
  have HSz : Hid ((a2W w).heap.size = w.heap.size + 2) := hsz
  have HBw : Hid (Bytes w.heap.size w a len) := hb
  clear hb hA hsz
  go_enter Tryz.func16, Tryz.ntmps16
  go_wp2_with fail
  refine (l1New_any a len cap _ hl hB.out).mono ?_
  rintro e w0 ⟨he, hc0, hb0⟩
  rw [HSz.out] at he hc0
  subst he
  have HA0 : Hid (A2 w w0) := HA.out.next hb0
  have HB0 : Hid (Bytes w0.heap.size w0 a len) := bytes_bel hB.out hb0
  have HC0 : Hid (Cur (w.heap.size + 2) w0 (w.heap.size + 2)) := hc0
  clear hb0 HA hB HSz hc0 HBw
  go_wp2_with fail
  refine (DrawAdd_any a len cap _ hl HB0.out).mono ?_
  rintro e w1 ⟨f, m, ka, na, ea, sa, kb, nb, eb, sb, rfl, hs, hb1⟩
  have HSs : Hid (sa.size ≤ 340 ∧ sb.size ≤ 340) := hs
  have HQ : Hid (Q2 w (w.heap.size + 2) w1.heap.size ka na ea sa kb nb eb sb ((w1.alloc (.cells #[.int .i64 ka, .bool na, .int .i64 ea, .string sa] 25)).alloc (.cells #[.int .i64 kb, .bool nb, .int .i64 eb, .string sb] 25))) := q2_new w w1 _ (HA0.out.next hb1) (cur_bel2 HC0.out hb1) (Nat.le_refl _) ka na ea sa kb nb eb sb
  clear hb1 HA0 HC0 HB0 hs
  go_upto_region 3 with fail
  generalize ((w1.alloc (.cells #[.int .i64 ka, .bool na, .int .i64 ea, .string sa] 25)).alloc (.cells #[.int .i64 kb, .bool nb, .int .i64 eb, .string sb] 25)) = w2 at *
  generalize w1.heap.size = pa at *
  generalize hcb : w.heap.size + 2 = cb at *
  have HCb : Hid (w.heap.size + 2 = cb) := hcb
  clear hcb
  go_cut [31] (fun s wx => ∃ bb : Bool, s = .bool bb ∧ Hid (Q2 w cb pa ka na ea sa kb nb eb sb wx))
  case first =>
    obtain ⟨a0, a1, a2, a3, -⟩ := HQ.out.1
    obtain ⟨c0, c1, c2, c3, -⟩ := HQ.out.2.1
    by_cases hka : ka = 1
    case neg =>
      have k1 : (ka == 1) = false := beq_eq_false_iff_ne.2 hka
      clear hka
      go_wp2
      go_meet
      case rel => exact ⟨_, rfl, HQ⟩
    subst hka
    by_cases hkb : kb = 1
    case neg =>
      have k1 : (kb == 1) = false := beq_eq_false_iff_ne.2 hkb
      clear hkb
      go_wp2
      go_meet
      case rel => exact ⟨_, rfl, HQ⟩
    subst hkb
    go_wp2_with fail
    refine (l1Once_any cb cb 5 _ HQ.out.2.2.2.1 (by decide) (by decide)).mono ?_
    rintro x w3 ⟨b2, rfl, hc3, hg3⟩
    have HQ3 : Hid (Q2 w cb pa 1 na ea sa 1 nb eb sb w3) := HQ.out.draw hc3 hg3
    clear hc3 hg3 HQ a0 a1 a2 a3 c0 c1 c2 c3
    go_wp2
    go_meet
    case rel => exact ⟨_, rfl, HQ3⟩
  case rest =>
    obtain ⟨bb, rfl, HQ3⟩ := hcut
    clear HQ
    go_upto_if 31 with fail
    go_cut [] (fun wx => ∃ ev : Int, Hid (Q2 w cb pa ka na ea sa kb nb ev sb wx))
    case first =>
      cases bb
      case false =>
        go_wp2
        go_meet
        case rel => exact ⟨_, HQ3⟩
      case true =>
        go_upto_region 4 with fail
        go_cut [] (fun wx => ∃ ev : Int, Hid (Q2 w cb pa ka na ea sa kb nb ev sb wx))
        case first =>
          obtain ⟨a0, a1, a2, a3, -⟩ := HQ3.out.1
          obtain ⟨c0, c1, c2, c3, c4⟩ := HQ3.out.2.1
          have c42 := c4 2
          clear c4 a0 a1 a3 c0 c1 c3
          go_region_with (first
              | (go_at_call 76; refine (l1From_any cb cb (-25) 20 _ HQ3.out.drew.2.2.2.1 (by decide) (by decide) (by decide)).mono ?_; rintro r wA ⟨x, rfl, x0, x1, hcA, hgA⟩; have HTA : Hid (Q2 w cb pa ka na ea sa kb nb eb sb wA) := HQ3.out.drew.draw hcA hgA; obtain ⟨⟨-, -, p2, -, -⟩, ⟨-, -, r2, -, r4⟩, -⟩ := HTA.out; have r42 := r4 2; clear r4 hcA hgA))
          all_goals
            have HTB : Hid (Q2 w cb pa ka na ea sa kb nb (IntKind.i64.wrap (ea + x)) sb (wA.setCell ⟨pa + 1, 2, none⟩ (.int .i64 (IntKind.i64.wrap (ea + x))))) := HTA.out.b2 _
            generalize IntKind.i64.wrap (ea + x) = ev at *
            generalize wA.setCell ⟨pa + 1, 2, none⟩ (.int .i64 ev) = WB at *
            clear HQ3 HTA a2 c2 c42 p2 r2 r42 x0 x1
            go_wp2
            go_meet
            case rel => exact ⟨_, HTB⟩
        case rest =>
          obtain ⟨ev, HQ4⟩ := hcut
          clear HQ3
          go_wp2_with fail
          refine (l1Once_any cb cb 10 _ HQ4.out.2.2.2.1 (by decide) (by decide)).mono ?_
          rintro x w5 ⟨b2, rfl, hc5, hg5⟩
          have HQ5 : Hid (Q2 w cb pa ka na ea sa kb nb ev sb w5) := HQ4.out.draw hc5 hg5
          clear hc5 hg5 HQ4
          cases b2
          case false =>
            go_wp2
            go_meet
            case rel => exact ⟨_, HQ5⟩
          case true =>
            obtain ⟨a0, a1, a2, a3, -⟩ := HQ5.out.1
            obtain ⟨c0, c1, c2, c3, c4⟩ := HQ5.out.2.1
            have c42 := c4 2
            have HV5 : Hid (∀ y : Int, 0 ≤ y → y < 4 → ∃ v : Int, rm4[y.toNat]? = some (.int .i64 v)) := fun y h0 h1 => rm4_at y h0 h1
            have HV7 : Hid (∀ (y : Int) (v : Int), rm4[y.toNat]? = some (.int .i64 v) → ∀ h : y.toNat < 4, rm4[y.toNat]'h = .int .i64 v) := fun y v hv h => (Array.getElem?_eq_some_iff.1 hv).2
            have Hcbw : Hid (cb < w5.heap.size) := by obtain ⟨-, -, -, -, q1, q2, q3⟩ := HQ5.out; rw [Hid]; omega
            have hne1 : ¬ pa + 1 = w5.heap.size := by obtain ⟨-, -, -, -, q1, q2, q3⟩ := HQ5.out; omega
            have hz5 : ∀ o, (w5.alloc o).cell? ⟨pa, 2, none⟩ = some (.int .i64 ea) := fun o => (HQ5.out.alloc o).1.2.2.1
            have hz6 : ∀ o, (w5.alloc o).cell? ⟨pa + 1, 2, none⟩ = some (.int .i64 ev) := fun o => (HQ5.out.alloc o).2.1.2.2.1
            have hne0 : ¬ pa = w5.heap.size := by obtain ⟨-, -, -, -, q1, q2, q3⟩ := HQ5.out; omega
            clear c4 a0 a1 a3 c0 c1 c3
            go_upto_region 6 with fail
            go_region_with (first
                | (go_at_call 77; refine (l1Below_any cb cb 4 _ (by first | exact (HQ5.out.alloc _).drew.2.2.2.1 | exact HQ5.out.drew.2.2.2.1) (by decide) (by decide)).mono ?_; rintro r wA ⟨y, rfl, y0, y1, hcA, hgA⟩; obtain ⟨v, hv⟩ := HV5.out y y0 y1; have hv7 := HV7.out y v hv; (first | (have HTA : Hid (Q2 w cb pa ka na ea sa kb nb ev sb wA) := (HQ5.out.alloc _).drew.draw hcA hgA; have hcell := lit_at_drew (arr := rm4) hgA Hcbw.out y.toNat _ hv; have p2 := HTA.out.1.2.2.1; have r2 := HTA.out.2.1.2.2.1; have r42 := HTA.out.2.1.2.2.2.2 2; have hk3 : ∀ o, (wA.alloc o).cell? ⟨pa + 1, 2, none⟩ = some (.int .i64 ev) := fun o => (HTA.out.alloc o).2.1.2.2.1; have hk4 : ∀ o, (wA.alloc o).frozen? ⟨pa + 1, 2, none⟩ = false := fun o => (HTA.out.alloc o).2.1.2.2.2.2 2; have hk5 : ∀ o, (wA.alloc o).cell? ⟨pa, 2, none⟩ = some (.int .i64 ea) := fun o => (HTA.out.alloc o).1.2.2.1; have hk6 : ¬ pa + 1 = wA.heap.size := Nat.ne_of_lt HTA.out.2.2.2.2.2.2; have hk7 : ¬ pa = wA.heap.size := Nat.ne_of_lt (Nat.lt_of_succ_lt HTA.out.2.2.2.2.2.2); clear hcA hgA) | (have HTA : Hid (Q2 w cb pa ka na ea sa kb nb ev sb wA) := HQ5.out.drew.draw hcA hgA; have p2 := HTA.out.1.2.2.1; have r2 := HTA.out.2.1.2.2.1; have r42 := HTA.out.2.1.2.2.2.2 2; have hk3 : ∀ o, (wA.alloc o).cell? ⟨pa + 1, 2, none⟩ = some (.int .i64 ev) := fun o => (HTA.out.alloc o).2.1.2.2.1; have hk4 : ∀ o, (wA.alloc o).frozen? ⟨pa + 1, 2, none⟩ = false := fun o => (HTA.out.alloc o).2.1.2.2.2.2 2; have hk5 : ∀ o, (wA.alloc o).cell? ⟨pa, 2, none⟩ = some (.int .i64 ea) := fun o => (HTA.out.alloc o).1.2.2.1; have hk6 : ¬ pa + 1 = wA.heap.size := Nat.ne_of_lt HTA.out.2.2.2.2.2.2; have hk7 : ¬ pa = wA.heap.size := Nat.ne_of_lt (Nat.lt_of_succ_lt HTA.out.2.2.2.2.2.2); clear hcA hgA))))
            all_goals
              go_wp2
              go_meet
              case rel => exact ⟨_, by first | exact HTA.out.b2 _ | exact (HTA.out.b2 _).alloc _ | exact (HTA.out.alloc _).b2 _⟩
    case rest =>
      obtain ⟨ev, HQ4⟩ := hcut
      clear HQ3
      obtain ⟨⟨a0, a1, a2, a3, -⟩, ⟨c0, c1, c2, c3, -⟩, ⟨⟨d0, d1, d2, d3, d4⟩, ⟨e0, e1, e2, e3, e4⟩, -⟩, -, m1, m2, -⟩ := HQ4.out
      have d40 := d4 0
      have d41 := d4 1
      have d42 := d4 2
      have d43 := d4 3
      have e40 := e4 0
      have e41 := e4 1
      have e42 := e4 2
      have e43 := e4 3
      have n0 : w.heap.size ≠ pa := by omega
      have n1 : w.heap.size ≠ pa + 1 := by omega
      have n2 : w.heap.size + 1 ≠ pa := by omega
      have n3 : w.heap.size + 1 ≠ pa + 1 := by omega
      have n4 : pa ≠ w.heap.size := by omega
      have n5 : pa + 1 ≠ w.heap.size := by omega
      have n6 : pa ≠ w.heap.size + 1 := by omega
      have n7 : pa + 1 ≠ w.heap.size + 1 := by omega
      clear d4 e4 m1 m2
      go_upto_region 7 with fail
      go_region
      have HP := HQ4.out.2.2.1.fin ka na ea sa kb nb ev sb
      clear n0 n1 n2 n3 n4 n5 n6 n7 a0 a1 a2 a3 c0 c1 c2 c3 d0 d1 d2 d3 e0 e1 e2 e3 d40 d41 d42 d43 e40 e41 e42 e43
      go_wp2
      refine bodyPost_ret (results_f2n rfl _ _ rfl rfl HP.1 HP.2.1) rfl ?_
      exact ⟨f, ka, na, ea, sa, kb, nb, ev, sb, rfl, HSs.out, HP.2.2⟩
end Go.Proofs.YtnkoeidolmiheaaGreatDoor
