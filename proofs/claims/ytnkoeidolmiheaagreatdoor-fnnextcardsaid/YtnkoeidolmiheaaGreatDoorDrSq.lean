/-
  The draws of a format, a mode and a number that may be a square, walked: Sqrt.
-/
import Derived.Test.YtnkoeidolmiheaaGreatDoorDrawFt
import Derived.Test.YtnkoeidolmiheaaGreatDoorDrAd
import Derived.Test.YtnkoeidolmiheaaGreatDoorRdl
import Derived.Test.YtnkoeidolmiheaaGreatDoorMuP
import Derived.Test.YtnkoeidolmiheaaGreatDoorOrq
import Derived.Deep.DeepCutAuto
namespace Go.Proofs.YtnkoeidolmiheaaGreatDoor
open Go.RowKit
set_option linter.unusedVariables false
set_option maxRecDepth 100000
/-- The answer's box. -/
def A1 (w W : World) : Prop := At4 W w.heap.size (.int .i64 0) (.bool false) (.int .i64 0) (.string { data := #[] }) ∧ Below w.heap.size w W ∧ w.heap.size + 1 ≤ W.heap.size
abbrev a1W (w : World) : World := w.alloc (.cells #[.int .i64 0, .bool false, .int .i64 0, .string { data := #[] }] 25)
theorem a1_new (w : World) : A1 w (a1W w) ∧ (a1W w).heap.size = w.heap.size + 1 := by
  have h1 := at4_new w (.int .i64 0) (.bool false) (.int .i64 0) (.string { data := #[] })
  have z1 : (a1W w).heap.size = w.heap.size + 1 := new_size w (.cells #[.int .i64 0, .bool false, .int .i64 0, .string { data := #[] }] 25)
  have b1 : Below w.heap.size w (a1W w) := (Below.refl _ _).alloc (Nat.le_refl _) _
  exact ⟨⟨h1, b1, by omega⟩, z1⟩
theorem A1.next {w W W' : World} (h : A1 w W) (hb : Below W.heap.size W W') : A1 w W' := ⟨h.1.below hb (by have := h.2.2; omega), h.2.1.trans (hb.mono h.2.1.size), Nat.le_trans h.2.2 hb.size⟩
theorem A1.draw {w W W' : World} {cb : Nat} (h : A1 w W) (hg : W.grownBy W' (some cb)) (hc : w.heap.size + 1 ≤ cb) : A1 w W' :=
  ⟨h.1.grown hg (by omega) (by have := h.2.2; omega), Below.grown h.2.1 hg h.2.1.size (fun q hq => by cases hq; omega), Nat.le_trans h.2.2 hg.size⟩
theorem A1.fin {w W : World} (h : A1 w W) (x y z u : Value) : At4 ((((W.setCell ⟨w.heap.size, 0, none⟩ x).setCell ⟨w.heap.size, 1, none⟩ y).setCell ⟨w.heap.size, 2, none⟩ z).setCell ⟨w.heap.size, 3, none⟩ u) w.heap.size x y z u ∧ Below w.heap.size w ((((W.setCell ⟨w.heap.size, 0, none⟩ x).setCell ⟨w.heap.size, 1, none⟩ y).setCell ⟨w.heap.size, 2, none⟩ z).setCell ⟨w.heap.size, 3, none⟩ u) :=
  ⟨h.1.put x y z u, (((h.2.1.setCell (Nat.le_refl _) _).setCell (Nat.le_refl _) _).setCell (Nat.le_refl _) _).setCell (Nat.le_refl _) _⟩
theorem results_fm1 {fn : Func} {t1 t2 p : Tmp} {b : Nat} {x y z u : Value} (h : fn.results = #[.tmp t1, .tmp t2, .cell p 25]) (tmps : Array Value) (w : World) (hp : tmps[p]?.getD undef = .pointer (some ⟨b, 0, none⟩)) (h1 : At4 w b x y z u) : (results fn tmps).run Tryz.prog w = .ok (.tuple #[tmps.getD t1 undef, tmps.getD t2 undef, .agg #[x, y, z, u]]) w := by
  obtain ⟨a0, a1, a2, a3, -⟩ := h1
  unfold results
  rw [h]
  simp [hp, go_sem, a0, a1, a2, a3]
set_option maxRecDepth 100000 in
set_option maxHeartbeats 2000000 in
theorem DrawWhole_any (a : Option Addr) (len cap : Nat) (w : World) (hl : len ≤ 4096) (hb : Bytes w.heap.size w a len) :
    Calls Tryz.prog 22 #[.slice a len cap] w fun r w' => ∃ (f m : Int) (ka : Int) (na : Bool) (ea : Int) (sa : ByteArray), r = .returned (.tuple #[.int .i64 f, .int .i64 m, numV ka na ea sa]) ∧ sa.size ≤ 340 ∧ Below w.heap.size w w' := by
  obtain ⟨hA, hsz⟩ := a1_new w
  have hB : Hid (Bytes (a1W w).heap.size (a1W w) a len) := bytes_bel hb hA.2.1
  have HA : Hid (A1 w (a1W w)) := hA
  have HSz : Hid ((a1W w).heap.size = w.heap.size + 1) := hsz
  clear hb hA hsz
  go_enter Tryz.func22, Tryz.ntmps22
  go_wp2_with fail
  refine (l1New_any a len cap _ hl hB.out).mono ?_
  rintro e w0 ⟨he, hc0, hb0⟩
  rw [HSz.out] at he hc0
  subst he
  have HA0 : Hid (A1 w w0) := HA.out.next hb0
  clear hb0 HA hB HSz
  go_wp2_with fail
  refine (l10DrawFormat_any _ _ _ hc0).mono ?_
  rintro e w1 ⟨f, rfl, hc1, hg1⟩
  have HA1 : Hid (A1 w w1) := HA0.out.draw hg1 (Nat.le_refl _)
  clear hg1 hc0 HA0
  go_wp2_with fail
  refine (l12DrawMode_any _ _ _ hc1).mono ?_
  rintro e w2 ⟨m, rfl, hc2, hg2⟩
  have HA2 : Hid (A1 w w2) := HA1.out.draw hg2 (Nat.le_refl _)
  clear hg2 hc1 HA1
  go_wp2_with fail
  refine (l10DrawNum_any _ _ f _ hc2).mono ?_
  rintro e w3 ⟨ka, na, ea, sa, rfl, -, -, sz, hc3, hg3⟩
  have HA3 : Hid (A1 w w3) := HA2.out.draw hg3 (Nat.le_refl _)
  have HSz : Hid (sa.size ≤ 340) := sz
  clear hg3 hc2 hc3 HA2 sz
  obtain ⟨d0, d1, d2, d3, d4⟩ := HA3.out.1
  have d40 := d4 0
  have d41 := d4 1
  have d42 := d4 2
  have d43 := d4 3
  clear d4
  go_wp2
  have HP := HA3.out.fin (.int .i64 ka) (.bool na) (.int .i64 ea) (.string sa)
  refine bodyPost_ret (results_fm1 rfl _ _ rfl HP.1) rfl ?_
  exact ⟨f, m, ka, na, ea, sa, rfl, HSz.out, HP.2⟩
end Go.Proofs.YtnkoeidolmiheaaGreatDoor
namespace Go.Proofs.YtnkoeidolmiheaaGreatDoor
open Go.RowKit
set_option linter.unusedVariables false
set_option maxRecDepth 100000
theorem At4.one1 {W : World} {b : Nat} {x y z u : Value} (h : At4 W b x y z u) (v : Value) : At4 (W.setCell ⟨b, 1, none⟩ v) b x v z u := by
  obtain ⟨h0, h1, h2, h3, h4⟩ := h
  refine ⟨?_, World.cell?_setCell_same _ _ _ h1, ?_, ?_, fun i => by rw [World.frozen?_setCell]; exact h4 i⟩
  · rw [World.cell?_setCell_other _ _ _ _ (by simp)]; exact h0
  · rw [World.cell?_setCell_other _ _ _ _ (by simp)]; exact h2
  · rw [World.cell?_setCell_other _ _ _ _ (by simp)]; exact h3
/-- A number in its box pa, the answer's box, the cursor. -/
def Q1 (w : World) (cb pa : Nat) (k : Int) (n : Bool) (e : Int) (s : ByteArray) (W : World) : Prop :=
  At4 W pa (.int .i64 k) (.bool n) (.int .i64 e) (.string s) ∧ A1 w W ∧ Cur cb W cb ∧ w.heap.size + 1 ≤ cb ∧ cb < pa ∧ pa < W.heap.size
section
variable {w W W' : World} {cb pa : Nat} {k : Int} {n : Bool} {e : Int} {s : ByteArray}
theorem Q1.draw (h : Q1 w cb pa k n e s W) (hc : Cur cb W' cb) (hg : W.grownBy W' (some cb)) : Q1 w cb pa k n e s W' := by
  obtain ⟨h1, h2, h3, l1, l2, l3⟩ := h
  exact ⟨h1.grown hg (by omega) (by omega), h2.draw hg l1, hc, l1, l2, Nat.lt_of_lt_of_le l3 hg.size⟩
theorem Q1.next (h : Q1 w cb pa k n e s W) (hb : Below W.heap.size W W') : Q1 w cb pa k n e s W' := by
  obtain ⟨h1, h2, h3, l1, l2, l3⟩ := h
  exact ⟨h1.below hb (by omega), h2.next hb, cur_bel2 h3 hb, l1, l2, Nat.lt_of_lt_of_le l3 hb.size⟩
theorem A1.far (h : A1 w W) {q : Nat} (hq : w.heap.size + 1 ≤ q) (i : Nat) (v : Value) : A1 w (W.setCell ⟨q, i, none⟩ v) :=
  ⟨h.1.far (by omega) _ _, h.2.1.setCell (show w.heap.size ≤ q by omega) _, by have := h.2.2; simpa using this⟩
theorem Q1.set1 (h : Q1 w cb pa k n e s W) (v : Bool) : Q1 w cb pa k v e s (W.setCell ⟨pa, 1, none⟩ (.bool v)) := by
  obtain ⟨h1, h2, h3, l1, l2, l3⟩ := h
  exact ⟨h1.one1 _, h2.far (by omega) _ _, cur_far h3 (by omega) _ _, l1, l2, by simpa using l3⟩
theorem Q1.set2 (h : Q1 w cb pa k n e s W) (v : Int) : Q1 w cb pa k n v s (W.setCell ⟨pa, 2, none⟩ (.int .i64 v)) := by
  obtain ⟨h1, h2, h3, l1, l2, l3⟩ := h
  exact ⟨h1.put2 _, h2.far (by omega) _ _, cur_far h3 (by omega) _ _, l1, l2, by simpa using l3⟩
theorem Q1.set3 (h : Q1 w cb pa k n e s W) (v : ByteArray) : Q1 w cb pa k n e v (W.setCell ⟨pa, 3, none⟩ (.string v)) := by
  obtain ⟨h1, h2, h3, l1, l2, l3⟩ := h
  exact ⟨h1.set3 _, h2.far (by omega) _ _, cur_far h3 (by omega) _ _, l1, l2, by simpa using l3⟩
theorem Q1.alloc (h : Q1 w cb pa k n e s W) (o : Obj) : Q1 w cb pa k n e s (W.alloc o) := h.next ((Below.refl _ _).alloc (Nat.le_refl _) _)
theorem Q1.drew (h : Q1 w cb pa k n e s W) : Q1 w cb pa k n e s W.drew := by
  obtain ⟨h1, h2, h3, h4⟩ := h
  exact ⟨h1, ⟨h2.1, h2.2.1.drew, h2.2.2⟩, h3, h4⟩
theorem Q1.turn (h : Q1 w cb pa k n e s W) (k' : Int) (n' : Bool) (e' : Int) (s' : ByteArray) : Q1 w cb pa k' n' e' s' ((((W.setCell ⟨pa, 0, none⟩ (.int .i64 k')).setCell ⟨pa, 1, none⟩ (.bool n')).setCell ⟨pa, 2, none⟩ (.int .i64 e')).setCell ⟨pa, 3, none⟩ (.string s')) := by
  obtain ⟨h1, h2, h3, l1, l2, l3⟩ := h
  have hq : w.heap.size + 1 ≤ pa := by omega
  exact ⟨h1.put _ _ _ _, (((h2.far hq _ _).far hq _ _).far hq _ _).far hq _ _, cur_far (cur_far (cur_far (cur_far h3 (by omega) _ _) (by omega) _ _) (by omega) _ _) (by omega) _ _, l1, l2, by simpa using l3⟩
end
theorem q1_new (w W : World) (cb : Nat) (hA : A1 w W) (hc : Cur cb W cb) (hcb : w.heap.size + 1 ≤ cb) (k : Int) (n : Bool) (e : Int) (s : ByteArray) :
    Q1 w cb W.heap.size k n e s (W.alloc (.cells #[.int .i64 k, .bool n, .int .i64 e, .string s] 25)) := by
  have hlt := hc.lt.2
  have h1 := at4_new W (.int .i64 k) (.bool n) (.int .i64 e) (.string s)
  have z1 := new_size W (.cells #[.int .i64 k, .bool n, .int .i64 e, .string s] 25)
  have b1 : Below W.heap.size W (W.alloc (.cells #[.int .i64 k, .bool n, .int .i64 e, .string s] 25)) := (Below.refl _ _).alloc (Nat.le_refl _) _
  exact ⟨h1, hA.next b1, cur_bel2 hc b1, hcb, hlt, by omega⟩
theorem A1.find {w W : World} (h : A1 w W) (x y z u : Value) : At4 (((((W.setCell ⟨w.heap.size, 0, none⟩ x).setCell ⟨w.heap.size, 1, none⟩ y).setCell ⟨w.heap.size, 2, none⟩ z).setCell ⟨w.heap.size, 3, none⟩ u).drew) w.heap.size x y z u ∧ Below w.heap.size w (((((W.setCell ⟨w.heap.size, 0, none⟩ x).setCell ⟨w.heap.size, 1, none⟩ y).setCell ⟨w.heap.size, 2, none⟩ z).setCell ⟨w.heap.size, 3, none⟩ u).drew) :=
  by
  obtain ⟨h1, h2⟩ := h.fin x y z u
  generalize ((((W.setCell ⟨w.heap.size, 0, none⟩ x).setCell ⟨w.heap.size, 1, none⟩ y).setCell ⟨w.heap.size, 2, none⟩ z).setCell ⟨w.heap.size, 3, none⟩ u) = X at *
  exact ⟨h1, h2.drew⟩
theorem field_res' (k : Int) (b : Bool) (e : Int) (s : ByteArray) (fl : Int) (w : World) : (Instr.field 29 (rsV k b e s fl) 0).run Tryz.prog w = .ok (numV k b e s) w := by kernel_rfl
theorem mulR_size (f mode : Int) (ka : Int) (na : Bool) (ea : Int) (sa : ByteArray) (kb : Int) (nb : Bool) (eb : Int) (sb : ByteArray) : (mulR f mode ka na ea sa kb nb eb sb).2.2.2.1.size ≤ 340 := by
  cases hO : addO f mode ka na ea sa kb nb eb sb with
  | true =>
    obtain ⟨-, -, h, -⟩ := numB_bd _ _ _ _ _ (mulR_right f mode ka na ea sa kb nb eb sb hO)
    omega
  | false =>
    unfold mulR
    rw [hO, if_neg (by decide)]
    decide
set_option maxRecDepth 100000 in
set_option maxHeartbeats 4000000 in
theorem DrawSqrt_any (a : Option Addr) (len cap : Nat) (w : World) (hl : len ≤ 4096) (hb : Bytes w.heap.size w a len) :
    Calls Tryz.prog 9 #[.slice a len cap] w fun r w' => ∃ (f m : Int) (ka : Int) (na : Bool) (ea : Int) (sa : ByteArray), r = .returned (.tuple #[.int .i64 f, .int .i64 m, numV ka na ea sa]) ∧ sa.size ≤ 340 ∧ Below w.heap.size w w' := by
  obtain ⟨hA, hsz⟩ := a1_new w
  have hB : Hid (Bytes (a1W w).heap.size (a1W w) a len) := bytes_bel hb hA.2.1
  have HA : Hid (A1 w (a1W w)) := hA
  have HSz : Hid ((a1W w).heap.size = w.heap.size + 1) := hsz
  clear hb hA hsz
  go_enter Tryz.func9, Tryz.ntmps9
  go_wp2_with fail
  refine (l1New_any a len cap _ hl hB.out).mono ?_
  rintro e w0 ⟨he, hc0, hb0⟩
  rw [HSz.out] at he hc0
  subst he
  have HA0 : Hid (A1 w w0) := HA.out.next hb0
  clear hb0 HA hB HSz
  go_wp2_with fail
  refine (l10DrawFormat_any _ _ _ hc0).mono ?_
  rintro e w1 ⟨f, rfl, hc1, hg1⟩
  have HA1 : Hid (A1 w w1) := HA0.out.draw hg1 (Nat.le_refl _)
  clear hg1 hc0 HA0
  go_wp2_with fail
  refine (l12DrawMode_any _ _ _ hc1).mono ?_
  rintro e w2 ⟨m, rfl, hc2, hg2⟩
  have HA2 : Hid (A1 w w2) := HA1.out.draw hg2 (Nat.le_refl _)
  clear hg2 hc1 HA1
  go_wp2_with fail
  refine (l10DrawNum_any _ _ f _ hc2).mono ?_
  rintro e w3 ⟨ka, na, ea, sa, rfl, -, -, sz, hc3, hg3⟩
  have HSz : Hid (sa.size ≤ 340) := sz
  have HQ : Hid (Q1 w (w.heap.size + 1) w3.heap.size ka na ea sa (w3.alloc (.cells #[.int .i64 ka, .bool na, .int .i64 ea, .string sa] 25))) := q1_new w w3 _ (HA2.out.draw hg3 (Nat.le_refl _)) hc3 (Nat.le_refl _) ka na ea sa
  clear hg3 hc2 hc3 HA2 sz
  go_upto_region 5 with fail
  generalize (w3.alloc (.cells #[.int .i64 ka, .bool na, .int .i64 ea, .string sa] 25)) = w4 at *
  generalize w3.heap.size = pa at *
  generalize hcb : w.heap.size + 1 = cb at *
  have HCb : Hid (w.heap.size + 1 = cb) := hcb
  clear hcb
  go_cut [28] (fun s wx => ∃ bb : Bool, s = .bool bb ∧ Hid (Q1 w cb pa ka na ea sa wx))
  case first =>
    go_wp2_with fail
    refine (l1Once_any cb cb 5 _ HQ.out.2.2.1 (by decide) (by decide)).mono ?_
    rintro x w5 ⟨b2, rfl, hc5, hg5⟩
    have HQ3 : Hid (Q1 w cb pa ka na ea sa w5) := HQ.out.draw hc5 hg5
    clear hc5 hg5 HQ
    obtain ⟨a0, a1, a2, a3, -⟩ := HQ3.out.1
    cases b2
    all_goals
      go_wp2
      go_meet
      case rel => exact ⟨_, rfl, HQ3⟩
  case rest =>
    obtain ⟨bb, rfl, HQ3⟩ := hcut
    clear HQ
    go_upto_if 28 with fail
    go_cut [] (fun wx => ∃ n : Bool, Hid (Q1 w cb pa ka n ea sa wx))
    case first =>
      cases bb
      case false =>
        go_wp2
        go_meet
        case rel => exact ⟨_, HQ3⟩
      case true =>
        obtain ⟨a0, a1, a2, a3, a4⟩ := HQ3.out.1
        have a41 := a4 1
        clear a4
        go_wp2
        go_meet
        case rel => exact ⟨_, HQ3.out.set1 _⟩
    case rest =>
      obtain ⟨n, HQ4⟩ := hcut
      clear HQ3
      have HNa : Hid (∀ X, Calls Tryz.prog 43 #[.int .i64 f, numV ka n ea sa] X fun x w' => x = .returned (.bool (numB f ka n ea sa)) ∧ Below X.heap.size X w') := fun X => sNumOk_any f ka n ea sa X (by have := HSz.out; omega)
      have HFo : Hid (numB f ka n ea sa = true → f = 64 ∨ f = 128) := fun h => (numB_bd f ka n ea sa h).1
      generalize numB f ka n ea sa = OK at *
      go_upto_region 7 with fail
      go_cut [41] (fun s wx => ∃ bb : Bool, s = .bool bb ∧ Hid (bb = true → OK = true) ∧ Hid (Q1 w cb pa ka n ea sa wx))
      case first =>
        go_wp2_with fail
        refine (l1Once_any cb cb 3 _ HQ4.out.2.2.1 (by decide) (by decide)).mono ?_
        rintro x w5 ⟨b2, rfl, hc5, hg5⟩
        have HQ5 : Hid (Q1 w cb pa ka n ea sa w5) := HQ4.out.draw hc5 hg5
        clear hc5 hg5 HQ4
        cases b2
        case false =>
          go_wp2
          go_meet
          case rel => exact ⟨_, rfl, (fun h => by cases h), HQ5⟩
        case true =>
          obtain ⟨a0, a1, a2, a3, -⟩ := HQ5.out.1
          by_cases hka : ka = 1
          case neg =>
            have k1 : (ka == 1) = false := beq_eq_false_iff_ne.2 hka
            clear hka
            go_wp2
            go_meet
            case rel => exact ⟨_, rfl, (fun h => by cases h), HQ5⟩
          have k1 : (ka == 1) = true := beq_iff_eq.2 hka
          clear hka
          go_wp2_with fail
          refine (HNa.out _).mono ?_
          rintro x w6 ⟨rfl, hb6⟩
          have HQ6 : Hid (Q1 w cb pa ka n ea sa w6) := HQ5.out.next hb6
          clear hb6 HQ5 a0 a1 a2 a3
          go_wp2
          go_meet
          case rel => exact ⟨_, rfl, (fun h => h), HQ6⟩
      case rest =>
        obtain ⟨bb, rfl, HBB, HQ5⟩ := hcut
        clear HQ4
        go_upto_if 41 with fail
        go_cut [] (fun wx => ∃ k n e s, Hid (s.size ≤ 340) ∧ Hid (Q1 w cb pa k n e s wx))
        case first =>
          cases bb
          case false =>
            go_wp2
            go_meet
            case rel => exact ⟨_, _, _, _, HSz, HQ5⟩
          case true =>
            have hf := HFo.out (HBB.out rfl)
            obtain ⟨P, hP, hPf⟩ : ∃ P : Int, (P = 8 ∨ P = 17) ∧ limP f = 2 * P := by rcases hf with rfl | rfl; exact ⟨8, .inl rfl, by decide⟩; exact ⟨17, .inr rfl, by decide⟩
            have HLm : Hid (∀ X, Calls Tryz.prog 44 #[.int .i64 f] X fun r w' => r = .returned (.tuple #[.int .i64 (2 * P), .int .i64 (limL f), .int .i64 (limH f)]) ∧ w' = X) := fun X => by
              have := Limits_any f X
              rw [hPf] at this
              exact this
            clear hf hPf HFo HBB
            go_wp2_with fail
            refine (HLm.out _).mono ?_
            rintro x wq ⟨rfl, rfl⟩
            clear HLm
            generalize limL f = zl at *
            generalize limH f = zh at *
            obtain ⟨a0, a1, a2, a3, a4⟩ := HQ5.out.1
            have hs1 : (sa.size : Int) ≤ 340 := by have := HSz.out; omega
            go_upto_if 53 with fail
            go_cut [] (fun wx => ∃ s, Hid (s.size ≤ 340) ∧ Hid (Q1 w cb pa ka n ea s wx))
            case first =>
              have a43 := a4 3
              clear a4
              rcases hP with rfl | rfl
              · by_cases hgt : (8 : Int) < (sa.size : Int)
                · have hno : ¬ ((sa.size : Int) < 8) := by omega
                  have hex : (sa.extract 0 8).size ≤ 340 := by rw [ByteArray.size_extract]; omega
                  have HEx : Hid ((sa.extract 0 8).size ≤ 340) := hex
                  clear hex
                  go_wp2
                  go_meet
                  case rel => exact ⟨_, HEx, HQ5.out.set3 _⟩
                · go_wp2
                  go_meet
                  case rel => exact ⟨_, HSz, HQ5⟩
              · by_cases hgt : (17 : Int) < (sa.size : Int)
                · have hno : ¬ ((sa.size : Int) < 17) := by omega
                  have hex : (sa.extract 0 17).size ≤ 340 := by rw [ByteArray.size_extract]; omega
                  have HEx : Hid ((sa.extract 0 17).size ≤ 340) := hex
                  clear hex
                  go_wp2
                  go_meet
                  case rel => exact ⟨_, HEx, HQ5.out.set3 _⟩
                · go_wp2
                  go_meet
                  case rel => exact ⟨_, HSz, HQ5⟩
            case rest =>
              obtain ⟨s, HSs, HQ6⟩ := hcut
              clear HQ5 a0 a1 a2 a3 a4 hs1 hP
              have HMu : Hid (∀ X, Calls Tryz.prog 45 #[.int .i64 f, .int .i64 1, numV ka n ea s, numV ka n ea s] X fun x w' => x = .returned (rsD (mulR f 1 ka n ea s ka n ea s).1 (mulR f 1 ka n ea s ka n ea s).2) ∧ Below X.heap.size X w') := fun X => sMul_ok f 1 ka n ea s ka n ea s X (by have := HSs.out; omega) (by have := HSs.out; omega)
              have HRz : Hid ((mulR f 1 ka n ea s ka n ea s).2.2.2.1.size ≤ 340) := mulR_size _ _ _ _ _ _ _ _ _ _
              generalize mulR f 1 ka n ea s ka n ea s = R at *
              obtain ⟨R0, F1, F2, F3, F4⟩ := R
              have HMu' : Hid (∀ X, Calls Tryz.prog 45 #[.int .i64 f, .int .i64 1, numV ka n ea s, numV ka n ea s] X fun x w' => x = .returned (rsV F1 R0 F2 F3 F4) ∧ Below X.heap.size X w') := HMu
              have HRz' : Hid (F3.size ≤ 340) := HRz
              have hfl := field_res' F1 R0 F2 F3 F4
              clear HMu HRz
              obtain ⟨a0, a1, a2, a3, a4⟩ := HQ6.out.1
              go_wp2_with fail
              refine (HMu'.out _).mono ?_
              rintro x w8 ⟨rfl, hb8⟩
              have HQ8 : Hid (Q1 w cb pa ka n ea s w8) := HQ6.out.next hb8
              clear hb8 HQ6 a0 a1 a2 a3 a4 HMu'
              obtain ⟨a0, a1, a2, a3, a4⟩ := HQ8.out.1
              have a40 := a4 0
              have a41 := a4 1
              have a42 := a4 2
              have a43 := a4 3
              clear a4
              go_wp2
              go_meet
              case rel => exact ⟨_, _, _, _, HRz', HQ8.out.turn _ _ _ _⟩
        case rest =>
          obtain ⟨k, n', e, s, HSs, HQ6⟩ := hcut
          clear HQ5
          obtain ⟨⟨a0, a1, a2, a3, -⟩, ⟨⟨d0, d1, d2, d3, d4⟩, -⟩, -, m1, m2, -⟩ := HQ6.out
          have d40 := d4 0
          have d41 := d4 1
          have d42 := d4 2
          have d43 := d4 3
          have n0 : w.heap.size ≠ pa := by omega
          have n4 : pa ≠ w.heap.size := by omega
          clear d4 m1 m2
          go_upto_region 12 with fail
          go_region
          have HP := A1.find HQ6.out.2.1 (.int .i64 k) (.bool n') (.int .i64 e) (.string s)
          clear n0 n4 a0 a1 a2 a3 d0 d1 d2 d3 d40 d41 d42 d43
          go_wp2
          refine bodyPost_ret (results_fm1 rfl _ _ rfl HP.1) rfl ?_
          exact ⟨f, m, k, n', e, s, rfl, HSs.out, HP.2⟩
end Go.Proofs.YtnkoeidolmiheaaGreatDoor
