/-
  FnNext: the law's own walk.
-/
import Derived.Test.YtnkoeidolmiheaaGreatDoorDrSq
import Derived.Test.YtnkoeidolmiheaaGreatDoorDrRm
import Derived.Test.YtnkoeidolmiheaaGreatDoorDrCm
import Derived.Test.YtnkoeidolmiheaaGreatDoorNxv
import Derived.Test.YtnkoeidolmiheaaGreatDoorOrt
namespace Go.Proofs.YtnkoeidolmiheaaGreatDoor
open Go.RowKit
set_option linter.unusedVariables false
set_option maxRecDepth 100000
theorem results_f1n {fn : Func} {t1 p : Tmp} {b : Nat} {x y z u : Value} (h : fn.results = #[.tmp t1, .cell p 25]) (tmps : Array Value) (w : World) (hp : tmps[p]?.getD undef = .pointer (some ⟨b, 0, none⟩)) (h1 : At4 w b x y z u) : (results fn tmps).run Tryz.prog w = .ok (.tuple #[tmps.getD t1 undef, .agg #[x, y, z, u]]) w := by
  obtain ⟨a0, a1, a2, a3, -⟩ := h1
  unfold results
  rw [h]
  simp [hp, go_sem, a0, a1, a2, a3]
theorem Q1.len {w W : World} {cb pa : Nat} {k : Int} {n : Bool} {e : Int} {s : ByteArray} (h : Q1 w cb pa k n e s W) : digLen pa W = s.size := by
  unfold digLen
  rw [h.1.2.2.2.1]
  rfl
theorem lim_bds (f : Int) : 0 ≤ limP f ∧ limP f ≤ 34 ∧ -6176 ≤ limL f ∧ limL f ≤ 0 ∧ 0 ≤ limH f ∧ limH f ≤ 6111 := by
  unfold limP limL limH
  split <;> (try split) <;> omega
theorem nx3_at (x y z : Int) (i : Int) (h0 : 0 ≤ i) (h1 : i < 3) : ∃ v : Int, (#[.int .i64 x, .int .i64 y, .int .i64 z] : Array Value)[i.toNat]? = some (.int .i64 v) := by
  rcases (show i = 0 ∨ i = 1 ∨ i = 2 by omega) with rfl | rfl | rfl
  · exact ⟨_, rfl⟩
  · exact ⟨_, rfl⟩
  · exact ⟨_, rfl⟩
set_option maxRecDepth 100000 in
set_option maxHeartbeats 4000000 in
theorem DrawNextUp_any (a : Option Addr) (len cap : Nat) (w : World) (hl : len ≤ 4096) (hb : Bytes w.heap.size w a len) :
    Calls Tryz.prog 34 #[.slice a len cap] w fun r w' => ∃ (f : Int) (ka : Int) (na : Bool) (ea : Int) (sa : ByteArray), r = .returned (.tuple #[.int .i64 f, numV ka na ea sa]) ∧ sa.size ≤ 340 ∧ Below w.heap.size w w' := by
  obtain ⟨hA, hsz⟩ := a1_new w
  have hB : Hid (Bytes (a1W w).heap.size (a1W w) a len) := bytes_bel hb hA.2.1
  have HA : Hid (A1 w (a1W w)) := hA
  have HSz : Hid ((a1W w).heap.size = w.heap.size + 1) := hsz
  clear hb hA hsz
  go_enter Tryz.func34, Tryz.ntmps34
  go_wp2_with fail
  refine (l1New_any a len cap _ hl hB.out).mono ?_
  rintro e w0 ⟨he, hc0, hb0⟩
  rw [HSz.out] at he hc0
  subst he
  have HA0 : Hid (A1 w w0) := HA.out.next hb0
  clear hb0 HA hB HSz
  go_wp2_with fail
  refine (l10DrawFormat_any _ _ _ hc0).mono ?_
  rintro e w1 ⟨f, rfl, hc1, hg1⟩
  have HA1 : Hid (A1 w w1) := HA0.out.draw hg1 (Nat.le_refl _)
  clear hg1 hc0 HA0
  go_wp2_with fail
  refine (l10DrawNum_any _ _ f _ hc1).mono ?_
  rintro e w3 ⟨ka, na, ea, sa, rfl, -, -, sz, hc3, hg3⟩
  have HSz : Hid (sa.size ≤ 340) := sz
  have HQ : Hid (Q1 w (w.heap.size + 1) w3.heap.size ka na ea sa (w3.alloc (.cells #[.int .i64 ka, .bool na, .int .i64 ea, .string sa] 25))) := q1_new w w3 _ (HA1.out.draw hg3 (Nat.le_refl _)) hc3 (Nat.le_refl _) ka na ea sa
  clear hg3 hc1 hc3 HA1 sz
  go_upto_region 4 with fail
  generalize (w3.alloc (.cells #[.int .i64 ka, .bool na, .int .i64 ea, .string sa] 25)) = w4 at *
  generalize w3.heap.size = pa at *
  generalize hcb : w.heap.size + 1 = cb at *
  have HCb : Hid (w.heap.size + 1 = cb) := hcb
  clear hcb
  have HLm : Hid (∀ X, Calls Tryz.prog 44 #[.int .i64 f] X fun r w' => r = .returned (.tuple #[.int .i64 (limP f), .int .i64 (limL f), .int .i64 (limH f)]) ∧ w' = X) := fun X => Limits_any f X
  obtain ⟨p0, p1, l0, l1, h0, h1⟩ := lim_bds f
  generalize limP f = P at *
  generalize limL f = L at *
  generalize limH f = H at *
  have wl : IntKind.i64.wrap (L + 1) = L + 1 := by rw [IntKind.wrap_i64]; omega
  have HPd : Hid (0 ≤ P ∧ P ≤ 34) := ⟨p0, p1⟩
  clear p0 p1 l0 l1 h0 h1
  go_wp2_with fail
  refine (HLm.out _).mono ?_
  rintro x wq ⟨rfl, rfl⟩
  clear HLm
  go_upto_region 5 with fail
  go_cut [33] (fun s wx => ∃ bb : Bool, s = .bool bb ∧ Hid (Q1 w cb pa ka na ea sa wx))
  case first =>
    go_wp2_with fail
    refine (l1Once_any cb cb 4 _ HQ.out.2.2.1 (by decide) (by decide)).mono ?_
    rintro x w5 ⟨b2, rfl, hc5, hg5⟩
    have HQ3 : Hid (Q1 w cb pa ka na ea sa w5) := HQ.out.draw hc5 hg5
    clear hc5 hg5 HQ
    obtain ⟨a0, a1, a2, a3, -⟩ := HQ3.out.1
    cases b2
    case false =>
      go_wp2
      go_meet
      case rel => exact ⟨_, rfl, HQ3⟩
    case true =>
      by_cases hp : 0 < P
      · go_wp2
        go_meet
        case rel => exact ⟨_, rfl, HQ3⟩
      · go_wp2
        go_meet
        case rel => exact ⟨_, rfl, HQ3⟩
  case rest =>
    obtain ⟨bb, rfl, HQ3⟩ := hcut
    clear HQ
    go_upto_if 33 with fail
    go_cut [] (fun wx => ∃ e s, Hid (s.size ≤ 340) ∧ Hid (Q1 w cb pa ka na e s wx))
    case first =>
      cases bb
      case false =>
        go_wp2
        go_meet
        case rel => exact ⟨_, _, HSz, HQ3⟩
      case true =>
        obtain ⟨a0, a1, a2, a3, a4⟩ := HQ3.out.1
        have a43 := a4 3
        clear a4
        have HQ4 : Hid (Q1 w cb pa ka na ea { data := #[49] } (wc.setCell ⟨pa, 3, none⟩ (.string { data := #[49] }))) := HQ3.out.set3 _
        go_upto_region 7 with fail
        generalize wc.setCell ⟨pa, 3, none⟩ (.string { data := #[49] }) = w5 at *
        clear a0 a1 a2 a3 a43 HQ3
        go_wp2_with fail
        refine (l1Once_any cb cb 2 _ HQ4.out.2.2.1 (by decide) (by decide)).mono ?_
        rintro x w6 ⟨b2, rfl, hc6, hg6⟩
        have HQ6 : Hid (Q1 w cb pa ka na ea { data := #[49] } w6) := HQ4.out.draw hc6 hg6
        clear hc6 hg6 HQ4
        go_upto_if 36 with fail
        go_cut [] (fun wx => ∃ s, Hid (s.size ≤ 340) ∧ Hid (Q1 w cb pa ka na ea s wx))
        case first =>
          cases b2
          case false =>
            go_wp2
            go_meet
            case rel => exact ⟨_, (show ({ data := #[49] } : ByteArray).size ≤ 340 by decide), HQ6⟩
          case true =>
            go_wp2
            go_loopw [] (fun wr => ∃ s', Hid (1 ≤ s'.size ∧ s'.size ≤ 100) ∧ Hid (Q1 w cb pa ka na ea s' wr)) (fun wr => 400 - digLen pa wr)
            case atStart => exact ⟨_, (by show 1 ≤ ({ data := #[49] } : ByteArray).size ∧ ({ data := #[49] } : ByteArray).size ≤ 100; decide), HQ6⟩
            case round =>
              clear HQ6
              obtain ⟨s', hS1, hS⟩ := hrel
              obtain ⟨a0, a1, a2, a3, a4⟩ := hS.out.1
              have a43 := a4 3
              have hsz := hS1.out
              clear a4
              by_cases hlt : (s'.size : Int) < P
              · have hpd := HPd.out
                have hz1 : (s'.size : Int) ≤ 8388608 := by omega
                have hz2 : (s' ++ { data := #[57] }).size = s'.size + 1 := by rw [ByteArray.size_append]; rfl
                have HN : Hid (Q1 w cb pa ka na ea (s' ++ { data := #[57] }) (wr.setCell ⟨pa, 3, none⟩ (.string (s' ++ { data := #[57] })))) := hS.out.set3 _
                have hm : Hid (400 - digLen pa (wr.setCell ⟨pa, 3, none⟩ (.string (s' ++ { data := #[57] }))) < 400 - digLen pa wr) := by
                  rw [Hid, HN.out.len, hS.out.len, hz2]; omega
                have HZ : Hid (1 ≤ (s' ++ { data := #[57] }).size ∧ (s' ++ { data := #[57] }).size ≤ 100) := by rw [Hid, hz2]; omega
                clear hz2 hS hsz hpd
                go_wp2
                go_roundw
                case rel => exact ⟨_, HZ, HN⟩
                case measure => exact hm.out
              · have hno : ¬ ((s'.size : Int) < 1) := by omega
                have hz1 : (s'.size : Int) ≤ 8388608 := by omega
                have hex : ({ data := #[57] } ++ s'.extract 1 s'.size : ByteArray).size ≤ 340 := by
                  rw [ByteArray.size_append, ByteArray.size_extract]
                  have : ({ data := #[57] } : ByteArray).size = 1 := rfl
                  omega
                have HEx : Hid (({ data := #[57] } ++ s'.extract 1 s'.size : ByteArray).size ≤ 340) := hex
                clear hex hsz
                go_wp2
                go_meet
                case rel => exact ⟨_, HEx, hS.out.set3 _⟩
        case rest =>
          obtain ⟨s, HSs, HQ7⟩ := hcut
          clear HQ6
          go_wp2_with fail
          refine (l1Once_any cb cb 2 _ HQ7.out.2.2.1 (by decide) (by decide)).mono ?_
          rintro x w8 ⟨b3, rfl, hc8, hg8⟩
          have HQ8 : Hid (Q1 w cb pa ka na ea s w8) := HQ7.out.draw hc8 hg8
          clear hc8 hg8 HQ7
          cases b3
          case false =>
            go_wp2
            go_meet
            case rel => exact ⟨_, _, HSs, HQ8⟩
          case true =>
            have Hcbw : Hid (cb < w8.heap.size) := by obtain ⟨-, -, -, q1, q2, q3⟩ := HQ8.out; rw [Hid]; omega
            go_wp2_with fail
            refine (l1Below_any cb cb 3 _ (cur_alloc HQ8.out.2.2.1 _) (by decide) (by decide)).mono ?_
            rintro x w9 ⟨y, rfl, y0, y1, hc9, hg9⟩
            obtain ⟨v, hv⟩ := nx3_at L H (L + 1) y y0 y1
            have hcell := lit_at (arr := #[.int .i64 L, .int .i64 H, .int .i64 (L + 1)]) hg9 Hcbw.out y.toNat _ hv
            have HQ9 : Hid (Q1 w cb pa ka na ea s w9) := (HQ8.out.alloc _).draw hc9 hg9
            clear hc9 hg9 hv HQ8
            obtain ⟨a0, a1, a2, a3, a4⟩ := HQ9.out.1
            have a42 := a4 2
            clear a4
            go_wp2
            go_meet
            case rel => exact ⟨_, _, HSs, HQ9.out.set2 _⟩
    case rest =>
      obtain ⟨e, s, HSs, HQ6⟩ := hcut
      clear HQ3
      obtain ⟨⟨a0, a1, a2, a3, -⟩, ⟨⟨d0, d1, d2, d3, d4⟩, -⟩, -, m1, m2, -⟩ := HQ6.out
      have d40 := d4 0
      have d41 := d4 1
      have d42 := d4 2
      have d43 := d4 3
      have n0 : w.heap.size ≠ pa := by omega
      have n4 : pa ≠ w.heap.size := by omega
      clear d4 m1 m2
      go_upto_region 13 with fail
      go_region
      have HP := A1.find HQ6.out.2.1 (.int .i64 ka) (.bool na) (.int .i64 e) (.string s)
      clear n0 n4 a0 a1 a2 a3 d0 d1 d2 d3 d40 d41 d42 d43
      go_wp2
      refine bodyPost_ret (results_f1n rfl _ _ rfl HP.1) rfl ?_
      exact ⟨f, ka, na, e, s, rfl, HSs.out, HP.2⟩
end Go.Proofs.YtnkoeidolmiheaaGreatDoor
namespace Go.Proofs.YtnkoeidolmiheaaGreatDoor
open Go.RowKit
set_option linter.unusedVariables false
set_option maxRecDepth 100000
theorem nu_no (f : Int) (k : Int) (n : Bool) (e : Int) (s : ByteArray) (h : numB f k n e s = false) : nuR f k n e s = (false, (0, 0, { data := #[] }, 0)) := by
  unfold nuR ofR
  rw [nu_right, h]
  rfl
theorem nu_kind (f : Int) (k : Int) (n : Bool) (e : Int) (s : ByteArray) (h : numB f k n e s = true) : (nuR f k n e s).2.1 ≠ 0 := by
  by_cases h1 : k = 1
  · subst h1
    obtain ⟨uk, un, ue, us, dk, dn, de, ds, bk, bn, be, bs, bf, fk, fn, fe, fs, ff, hu, -, u0, -⟩ := next_all f n e s h
    rw [hu]
    exact u0
  · unfold nuR ofR
    rw [nu_right, h, if_pos rfl]
    by_cases hs : spB 1 (fun _ => k) = true
    · rw [if_pos hs]; show (3 : Int) ≠ 0; decide
    · rw [if_neg hs]
      have h34 : k ≠ 3 ∧ k ≠ 4 := ⟨fun q => hs (by unfold spB; exact decide_eq_true ⟨0, by decide, .inl q⟩), fun q => hs (by unfold spB; exact decide_eq_true ⟨0, by decide, .inr q⟩)⟩
      obtain ⟨-, -, hk, -⟩ := right_two f k n e s h h34.1 h34.2
      rcases hk with rfl | rfl
      · exact absurd rfl h1
      · unfold nuX
        rw [if_pos rfl]
        cases n
        · show (2 : Int) ≠ 0; decide
        · show (1 : Int) ≠ 0; decide
/-- The number and its two neighbours in their blocks. -/
def NS (w : World) (p q r : Nat) (ka : Int) (na : Bool) (ea : Int) (sa : ByteArray) (uk : Int) (un : Bool) (ue : Int) (us : ByteArray) (uf : Int) (dk : Int) (dn : Bool) (de : Int) (ds : ByteArray) (df : Int) (W : World) : Prop :=
  At4r W p (.int .i64 ka) (.bool na) (.int .i64 ea) (.string sa) ∧ At5 W q (.int .i64 uk) (.bool un) (.int .i64 ue) (.string us) (.int .i64 uf) ∧ At5 W r (.int .i64 dk) (.bool dn) (.int .i64 de) (.string ds) (.int .i64 df) ∧ Below w.heap.size w W
theorem NS.next {w W W' : World} {p q r : Nat} {ka : Int} {na : Bool} {ea : Int} {sa : ByteArray} {uk : Int} {un : Bool} {ue : Int} {us : ByteArray} {uf : Int} {dk : Int} {dn : Bool} {de : Int} {ds : ByteArray} {df : Int} (h : NS w p q r ka na ea sa uk un ue us uf dk dn de ds df W) (hb : Below W.heap.size W W') : NS w p q r ka na ea sa uk un ue us uf dk dn de ds df W' :=
  ⟨h.1.next hb, h.2.1.below hb h.2.1.lt, h.2.2.1.below hb h.2.2.1.lt, h.2.2.2.trans (hb.mono h.2.2.2.size)⟩
set_option maxRecDepth 100000 in
set_option maxHeartbeats 4000000 in
theorem fnNext_any (a0 : Option Addr) (len0 cap0 : Nat) (w : World) (hbig : ¬ 4096 < len0) (hb : Bytes w.heap.size w a0 len0) (hT : KTab w) :
    Calls Tryz.prog 7 #[.slice a0 len0 cap0] w fun e w' => e = .returned (.bool true) ∧ Below w.heap.size w w' := by
  have hB : Hid (Bytes w.heap.size w a0 len0) := hb
  have HK : Hid (∀ X, Below w.heap.size w X → KTab X) := fun X hX => hT.next hX
  have HBy : Hid (∀ X, Below w.heap.size w X → Bytes X.heap.size X a0 len0) := fun X hX => bytes_bel hb hX
  have HL : Hid (len0 ≤ 4096) := by show _ ≤ _; omega
  clear hb hT
  go_enter Tryz.func7, Tryz.ntmps7
  go_wp2_with fail
  refine (big_no _ _ _ _ hbig).mono ?_
  rintro e w' ⟨rfl, hw⟩
  obtain rfl := hw.symm
  go_wp2_with fail
  refine (DrawNextUp_any _ _ _ _ HL.out hB.out).mono ?_
  rintro e w1 ⟨f, ka, na, ea, sa, rfl, hsa, hb1⟩
  have zA : sa.size ≤ 4611686018427387904 := by omega
  obtain ⟨u, d, hu, hd⟩ : ∃ u d : R5o, nuR f ka na ea sa = u ∧ ndR f ka na ea sa = d := ⟨_, _, rfl, rfl⟩
  have HU1 : Hid (∀ X, Calls Tryz.prog 35 #[.int .i64 f, numV ka na ea sa] X fun x w' => x = .returned (rsD u.1 u.2) ∧ Below X.heap.size X w') := fun X => by rw [← hu]; exact iNextUp_ok f ka na ea sa X zA
  have HU2 : Hid (∀ X, Calls Tryz.prog 15 #[.int .i64 f, numV ka na ea sa] X fun x w' => x = .returned (rsD u.1 u.2) ∧ Below X.heap.size X w') := fun X => by rw [← hu]; exact sNextUp_any f ka na ea sa X zA
  have HD1 : Hid (∀ X, Calls Tryz.prog 36 #[.int .i64 f, numV ka na ea sa] X fun x w' => x = .returned (rsD d.1 d.2) ∧ Below X.heap.size X w') := fun X => by rw [← hd]; exact iNextDown_any f ka na ea sa X zA
  have HD2 : Hid (∀ X, Calls Tryz.prog 37 #[.int .i64 f, numV ka na ea sa] X fun x w' => x = .returned (rsD d.1 d.2) ∧ Below X.heap.size X w') := fun X => by rw [← hd]; exact sNextDown_any f ka na ea sa X zA
  have HO : Hid (u = (false, (0, 0, { data := #[] }, 0)) ∨ (u.2.1 ≠ 0 ∧ (ka = 1 → numB f 1 na ea sa = true))) := by
    cases hO : numB f ka na ea sa with
    | false => exact .inl (by rw [← hu]; exact nu_no f ka na ea sa hO)
    | true => exact .inr ⟨by rw [← hu]; exact nu_kind f ka na ea sa hO, fun h => by subst h; exact hO⟩
  have HA : Hid (ka = 1 → numB f 1 na ea sa = true → ∃ (uk : Int) (un : Bool) (ue : Int) (us : ByteArray) (dk : Int) (dn : Bool) (de : Int) (ds : ByteArray) (bk : Int) (bn : Bool) (be : Int) (bs : ByteArray) (bf : Int) (fk : Int) (fn : Bool) (fe : Int) (fs : ByteArray) (ff : Int),
      u = (un, (uk, ue, us, 0)) ∧ d = (dn, (dk, de, ds, 0))
      ∧ (∀ X, KTab X → Calls Tryz.prog 28 #[.int .i64 f, numV uk un ue us, numV 1 na ea sa] X fun x w' => x = .returned (.int .i64 1) ∧ Below X.heap.size X w')
      ∧ (∀ X, KTab X → Calls Tryz.prog 28 #[.int .i64 f, numV dk dn de ds, numV 1 na ea sa] X fun x w' => x = .returned (.int .i64 (-1)) ∧ Below X.heap.size X w')
      ∧ (∀ X, Calls Tryz.prog 21 #[.int .i64 f, numV uk un ue us] X fun r w' => r = .returned (.bool true) ∧ Below X.heap.size X w')
      ∧ (∀ X, Calls Tryz.prog 36 #[.int .i64 f, numV uk un ue us] X fun x w' => x = .returned (rsV bk bn be bs bf) ∧ Below X.heap.size X w')
      ∧ (∀ X, Calls Tryz.prog 35 #[.int .i64 f, numV dk dn de ds] X fun x w' => x = .returned (rsV fk fn fe fs ff) ∧ Below X.heap.size X w')
      ∧ (∀ X, KTab X → Calls Tryz.prog 28 #[.int .i64 f, numV bk bn be bs, numV 1 na ea sa] X fun x w' => x = .returned (.int .i64 0) ∧ Below X.heap.size X w')
      ∧ (∀ X, KTab X → Calls Tryz.prog 28 #[.int .i64 f, numV fk fn fe fs, numV 1 na ea sa] X fun x w' => x = .returned (.int .i64 0) ∧ Below X.heap.size X w')
      ∧ (∀ kb nb eb sb, sb.size ≤ 340 → ∃ (ob : Bool) (x1 x2 : Int), (∀ X, Calls Tryz.prog 21 #[.int .i64 f, numV kb nb eb sb] X fun r w' => r = .returned (.bool ob) ∧ Below X.heap.size X w')
        ∧ (∀ X, KTab X → Calls Tryz.prog 28 #[.int .i64 f, numV kb nb eb sb, numV 1 na ea sa] X fun x w' => x = .returned (.int .i64 x1) ∧ Below X.heap.size X w')
        ∧ (∀ X, KTab X → Calls Tryz.prog 28 #[.int .i64 f, numV kb nb eb sb, numV uk un ue us] X fun x w' => x = .returned (.int .i64 x2) ∧ Below X.heap.size X w')
        ∧ (ob = true → kb = 1 → 0 < x1 → ¬ x2 < 0))) := by
    intro hk hA
    subst hk
    obtain ⟨uk, un, ue, us, dk, dn, de, ds, bk, bn, be, bs, bf, fk, fn, fe, fs, ff, e1, e2, u0, uN, dN, uC, dC, uB, eb, ef, bN, fN, bC, fC⟩ := next_all f na ea sa hA
    have zu := numB_size f uk un ue us uN
    have zd := numB_size f dk dn de ds dN
    have zb := numB_size f bk bn be bs bN
    have zf := numB_size f fk fn fe fs fN
    refine ⟨uk, un, ue, us, dk, dn, de, ds, bk, bn, be, bs, bf, fk, fn, fe, fs, ff, by rw [← hu]; exact e1, by rw [← hd]; exact e2, fun X hX => ?_, fun X hX => ?_, fun X => ?_, fun X => ?_, fun X => ?_, fun X hX => ?_, fun X hX => ?_, fun kb nb eb' sb hsb => ?_⟩
    · have := iCompare_any f uk un ue us 1 na ea sa X zu zA hX
      rw [uC] at this
      exact this
    · have := iCompare_any f dk dn de ds 1 na ea sa X zd zA hX
      rw [dC] at this
      exact this
    · have := iNumOk_any f uk un ue us X zu
      rw [uN] at this
      exact this
    · have := iNextDown_any f uk un ue us X zu
      rw [eb] at this
      exact this
    · have := iNextUp_ok f dk dn de ds X zd
      rw [ef] at this
      exact this
    · have := iCompare_any f bk bn be bs 1 na ea sa X zb zA hX
      rw [bC] at this
      exact this
    · have := iCompare_any f fk fn fe fs 1 na ea sa X zf zA hX
      rw [fC] at this
      exact this
    · have zsb : sb.size ≤ 4611686018427387904 := by omega
      refine ⟨_, _, _, fun X => iNumOk_any f kb nb eb' sb X zsb, fun X hX => iCompare_any f kb nb eb' sb 1 na ea sa X zsb zA hX, fun X hX => iCompare_any f kb nb eb' sb uk un ue us X zsb zu hX, fun h1 h2 h3 => ?_⟩
      subst h2
      exact uB nb eb' sb h1 h3
  clear hu hd
  obtain ⟨un, uk, ue, us, uf⟩ := u
  obtain ⟨dn, dk, de, ds, df⟩ := d
  have HU1' : Hid (∀ X, Calls Tryz.prog 35 #[.int .i64 f, numV ka na ea sa] X fun x w' => x = .returned (rsV uk un ue us uf) ∧ Below X.heap.size X w') := HU1
  have HU2' : Hid (∀ X, Calls Tryz.prog 15 #[.int .i64 f, numV ka na ea sa] X fun x w' => x = .returned (rsV uk un ue us uf) ∧ Below X.heap.size X w') := HU2
  have HD1' : Hid (∀ X, Calls Tryz.prog 36 #[.int .i64 f, numV ka na ea sa] X fun x w' => x = .returned (rsV dk dn de ds df) ∧ Below X.heap.size X w') := HD1
  have HD2' : Hid (∀ X, Calls Tryz.prog 37 #[.int .i64 f, numV ka na ea sa] X fun x w' => x = .returned (rsV dk dn de ds df) ∧ Below X.heap.size X w') := HD2
  clear HU1 HU2 HD1 HD2
  have b2 : Below w1.heap.size w1 (w1.alloc (.cells #[.int .i64 ka, .bool na, .int .i64 ea, .string sa] 25)) := (Below.refl _ _).alloc (Nat.le_refl _) _
  have HM1 : Hid (At4r (w1.alloc (.cells #[.int .i64 ka, .bool na, .int .i64 ea, .string sa] 25)) w1.heap.size (.int .i64 ka) (.bool na) (.int .i64 ea) (.string sa) ∧ Below w.heap.size w (w1.alloc (.cells #[.int .i64 ka, .bool na, .int .i64 ea, .string sa] 25))) := ⟨at4r_new w1 _ _ _ _, hb1.trans (b2.mono hb1.size)⟩
  clear b2 hb1 hB hbig hsa zA
  go_wp2_with fail
  refine (HU1'.out _).mono ?_
  rintro x w3 ⟨rfl, hb3⟩
  have hb4 : Below w3.heap.size w3 (w3.alloc (.cells #[.int .i64 uk, .bool un, .int .i64 ue, .string us, .int .i64 uf] 29)) := (Below.refl _ _).alloc (Nat.le_refl _) _
  have hc4 := hb3.trans (hb4.mono hb3.size)
  have HM4 : Hid (At4r (w3.alloc (.cells #[.int .i64 uk, .bool un, .int .i64 ue, .string us, .int .i64 uf] 29)) w1.heap.size (.int .i64 ka) (.bool na) (.int .i64 ea) (.string sa) ∧ At5 (w3.alloc (.cells #[.int .i64 uk, .bool un, .int .i64 ue, .string us, .int .i64 uf] 29)) w3.heap.size (.int .i64 uk) (.bool un) (.int .i64 ue) (.string us) (.int .i64 uf) ∧ Below w.heap.size w (w3.alloc (.cells #[.int .i64 uk, .bool un, .int .i64 ue, .string us, .int .i64 uf] 29))) := ⟨HM1.out.1.next hc4, at5_new w3 _ _ _ _ _, HM1.out.2.trans (hc4.mono HM1.out.2.size)⟩
  clear hb3 hb4 hc4 HM1 HU1'
  go_upto_region 5 with fail
  generalize (w3.alloc (.cells #[.int .i64 uk, .bool un, .int .i64 ue, .string us, .int .i64 uf] 29)) = w4 at *
  generalize w1.heap.size = p at *
  generalize w3.heap.size = q at *
  obtain ⟨c0, c1, c2, c3, c4⟩ := HM4.out.1.cells
  go_wp2_with fail
  refine (HD1'.out _).mono ?_
  rintro x w5 ⟨rfl, hb5⟩
  have hb6 : Below w5.heap.size w5 (w5.alloc (.cells #[.int .i64 dk, .bool dn, .int .i64 de, .string ds, .int .i64 df] 29)) := (Below.refl _ _).alloc (Nat.le_refl _) _
  have hc6 := hb5.trans (hb6.mono hb5.size)
  have HM6 : Hid (NS w p q w5.heap.size ka na ea sa uk un ue us uf dk dn de ds df (w5.alloc (.cells #[.int .i64 dk, .bool dn, .int .i64 de, .string ds, .int .i64 df] 29))) := ⟨HM4.out.1.next hc6, HM4.out.2.1.below hc6 HM4.out.2.1.lt, at5_new w5 _ _ _ _ _, HM4.out.2.2.trans (hc6.mono HM4.out.2.2.size)⟩
  clear hb5 hb6 hc6 HM4 HD1' c0 c1 c2 c3 c4
  go_upto_region 6 with fail
  generalize (w5.alloc (.cells #[.int .i64 dk, .bool dn, .int .i64 de, .string ds, .int .i64 df] 29)) = w6 at *
  generalize w5.heap.size = r at *
  have HX0 : Hid (Below w6.heap.size w6 w6.drew) := (Below.refl _ _).drew
  refine wp_region_class (C := fun W => Below w6.heap.size w6 W) (by kernel_rfl) (by kernel_rfl) HX0.out ?_
  have hne1 := neq_res_same uk un ue us uf
  have hne2 := neq_res_same dk dn de ds df
  repeat (first | go_big_quiet_skip | (refine wpQuiet_step ?_; intro K hK; go_simp; first | go_big_quiet_on | (apply Exists.intro; refine ⟨fun wx hC => ?_, ?_⟩; (first | exact rfl | ((with_reducible refine Calls.class_of (HU2'.out wx) ?_); exact fun w' hb => bel1 hC hb) | ((with_reducible refine Calls.class_of (HD2'.out wx) ?_); exact fun w' hb => bel1 hC hb) | (obtain ⟨a0, a1, a2, a3, a4⟩ := (HM6.out.next hC).1.cells; go_simp; exact rfl) | (obtain ⟨a0, a1, a2, a3, a4, a5⟩ := (HM6.out.next hC).2.1.cells; go_simp; exact rfl) | (obtain ⟨a0, a1, a2, a3, a4, a5⟩ := (HM6.out.next hC).2.2.1.cells; go_simp; exact rfl)); go_big_quiet_on)))
  refine wpQuiet_nil ?_
  intro w7 hb7
  have HM7 : Hid (NS w p q r ka na ea sa uk un ue us uf dk dn de ds df w7) := HM6.out.next hb7
  clear hb7 HM6 HX0 HU2' HD2' hne1 hne2
  obtain ⟨c0, c1, c2, c3, c4⟩ := HM7.out.1.cells
  obtain ⟨r0, r1, r2, r3, r4, r5⟩ := HM7.out.2.1.cells
  rcases HO.out with hz | ⟨hk, hnum⟩
  · obtain ⟨rfl, rfl, rfl, rfl, rfl⟩ : un = false ∧ uk = 0 ∧ ue = 0 ∧ us = { data := #[] } ∧ uf = 0 := by simpa only [Prod.mk.injEq] using hz
    have heq := eql_res_same 0 false 0 { data := #[] } 0
    have hbd : ∀ w : World, (Instr.build 29 #[]).run Tryz.prog w = .ok (rsV 0 false 0 { data := #[] } 0) w := fun w => run_build w _ _ _ (by kernel_rfl)
    clear HO HA hz
    go_wp2
    go_ret
    exact ⟨rfl, HM7.out.2.2.2⟩
  have hk0 : ¬ uk = 0 := hk
  have hk0b : (uk == 0) = false := beq_eq_false_iff_ne.2 hk0
  have HNm : Hid (ka = 1 → numB f 1 na ea sa = true) := hnum
  clear HO hk hnum
  go_wp2_with fail
  refine (finite_any ka na ea sa _).mono ?_
  rintro x w8 ⟨rfl, hb8⟩
  have HM8 : Hid (NS w p q r ka na ea sa uk un ue us uf dk dn de ds df w8) := HM7.out.next hb8
  clear hb8 HM7 c0 c1 c2 c3 c4 r0 r1 r2 r3 r4 r5
  by_cases hka : ka = 1
  case neg =>
    rw [decide_eq_false hka]
    obtain ⟨r0, r1, r2, r3, r4, r5⟩ := HM8.out.2.1.cells
    clear hka HA HNm
    go_wp2
    go_ret
    exact ⟨rfl, HM8.out.2.2.2⟩
  rw [decide_eq_true hka]
  obtain ⟨uk', un', ue', us', dk', dn', de', ds', bk, bn, be, bs, bf, fk, fn, fe, fs, ff, e1, e2, g1, g2, g3, g4, g5, g6, g7, g8⟩ := HA.out hka (HNm.out hka)
  obtain ⟨rfl, rfl, rfl, rfl, rfl⟩ : un = un' ∧ uk = uk' ∧ ue = ue' ∧ us = us' ∧ uf = 0 := by simpa only [Prod.mk.injEq] using e1
  obtain ⟨rfl, rfl, rfl, rfl, rfl⟩ : dn = dn' ∧ dk = dk' ∧ de = de' ∧ ds = ds' ∧ df = 0 := by simpa only [Prod.mk.injEq] using e2
  subst hka
  have HQ1 : Hid (∀ X, KTab X → Calls Tryz.prog 28 #[.int .i64 f, numV uk un ue us, numV 1 na ea sa] X fun x w' => x = .returned (.int .i64 1) ∧ Below X.heap.size X w') := g1
  have HQ2 : Hid (∀ X, KTab X → Calls Tryz.prog 28 #[.int .i64 f, numV dk dn de ds, numV 1 na ea sa] X fun x w' => x = .returned (.int .i64 (-1)) ∧ Below X.heap.size X w') := g2
  have HQ3 : Hid (∀ X, Calls Tryz.prog 21 #[.int .i64 f, numV uk un ue us] X fun r w' => r = .returned (.bool true) ∧ Below X.heap.size X w') := g3
  have HQ4 : Hid (∀ X, Calls Tryz.prog 36 #[.int .i64 f, numV uk un ue us] X fun x w' => x = .returned (rsV bk bn be bs bf) ∧ Below X.heap.size X w') := g4
  have HQ5 : Hid (∀ X, Calls Tryz.prog 35 #[.int .i64 f, numV dk dn de ds] X fun x w' => x = .returned (rsV fk fn fe fs ff) ∧ Below X.heap.size X w') := g5
  have HQ6 : Hid (∀ X, KTab X → Calls Tryz.prog 28 #[.int .i64 f, numV bk bn be bs, numV 1 na ea sa] X fun x w' => x = .returned (.int .i64 0) ∧ Below X.heap.size X w') := g6
  have HQ7 : Hid (∀ X, KTab X → Calls Tryz.prog 28 #[.int .i64 f, numV fk fn fe fs, numV 1 na ea sa] X fun x w' => x = .returned (.int .i64 0) ∧ Below X.heap.size X w') := g7
  have HQ8 : Hid (_) := g8
  clear e1 e2 g1 g2 g3 g4 g5 g6 g7 g8 HA HNm hk0 hk0b
  obtain ⟨c0, c1, c2, c3, c4⟩ := HM8.out.1.cells
  obtain ⟨r0, r1, r2, r3, r4, r5⟩ := HM8.out.2.1.cells
  go_wp2_with fail
  refine (HQ1.out _ (HK.out _ HM8.out.2.2.2)).mono ?_
  rintro x w9 ⟨rfl, hb9⟩
  have HM9 : Hid (NS w p q r 1 na ea sa uk un ue us 0 dk dn de ds 0 w9) := HM8.out.next hb9
  clear hb9 HM8 HQ1 c0 c1 c2 c3 c4 r0 r1 r2 r3 r4 r5
  obtain ⟨c0, c1, c2, c3, c4⟩ := HM9.out.1.cells
  obtain ⟨d0, d1, d2, d3, d4, d5⟩ := HM9.out.2.2.1.cells
  go_wp2_with fail
  refine (HQ2.out _ (HK.out _ HM9.out.2.2.2)).mono ?_
  rintro x w10 ⟨rfl, hb10⟩
  have HM10 : Hid (NS w p q r 1 na ea sa uk un ue us 0 dk dn de ds 0 w10) := HM9.out.next hb10
  clear hb10 HM9 HQ2 c0 c1 c2 c3 c4 d0 d1 d2 d3 d4 d5
  obtain ⟨r0, r1, r2, r3, r4, r5⟩ := HM10.out.2.1.cells
  obtain ⟨d0, d1, d2, d3, d4, d5⟩ := HM10.out.2.2.1.cells
  go_wp2_with fail
  refine (DrawCompare_any _ _ _ _ HL.out (HBy.out _ HM10.out.2.2.2)).mono ?_
  rintro e w11 ⟨f2, ka2, na2, ea2, sa2, kb, nb, eb, sb, rfl, ⟨-, hsb⟩, hb11⟩
  clear r0 r1 r2 r3 r4 r5 d0 d1 d2 d3 d4 d5
  obtain ⟨ob, x1, x2, t1, t2, t3, t4⟩ := HQ8.out kb nb eb sb hsb
  have HT1 : Hid (∀ X, Calls Tryz.prog 21 #[.int .i64 f, numV kb nb eb sb] X fun r w' => r = .returned (.bool ob) ∧ Below X.heap.size X w') := t1
  have HT2 : Hid (∀ X, KTab X → Calls Tryz.prog 28 #[.int .i64 f, numV kb nb eb sb, numV 1 na ea sa] X fun x w' => x = .returned (.int .i64 x1) ∧ Below X.heap.size X w') := t2
  have HT3 : Hid (∀ X, KTab X → Calls Tryz.prog 28 #[.int .i64 f, numV kb nb eb sb, numV uk un ue us] X fun x w' => x = .returned (.int .i64 x2) ∧ Below X.heap.size X w') := t3
  have HT4 : Hid (ob = true → kb = 1 → 0 < x1 → ¬ x2 < 0) := fun h1 h2 h3 => by have := t4 h1 h2 h3; omega
  have HMU := mu_new (w := w10) w11 hb11 ka2 na2 ea2 sa2 kb nb eb sb
  have HMb : Hid (At4r ((w11.alloc (.cells #[.int .i64 ka2, .bool na2, .int .i64 ea2, .string sa2] 25)).alloc (.cells #[.int .i64 kb, .bool nb, .int .i64 eb, .string sb] 25)) (w11.heap.size + 1) (.int .i64 kb) (.bool nb) (.int .i64 eb) (.string sb) ∧ NS w p q r 1 na ea sa uk un ue us 0 dk dn de ds 0 ((w11.alloc (.cells #[.int .i64 ka2, .bool na2, .int .i64 ea2, .string sa2] 25)).alloc (.cells #[.int .i64 kb, .bool nb, .int .i64 eb, .string sb] 25))) := ⟨HMU.2.1, HM10.out.next HMU.2.2⟩
  clear t1 t2 t3 t4 HMU HM10 hb11 hsb HQ8 HBy HL
  go_upto_region 13 with fail
  generalize ((w11.alloc (.cells #[.int .i64 ka2, .bool na2, .int .i64 ea2, .string sa2] 25)).alloc (.cells #[.int .i64 kb, .bool nb, .int .i64 eb, .string sb] 25)) = w12 at *
  generalize w11.heap.size = t at *
  go_cut [106] (fun s wx => s = .bool false ∧ Hid (NS w p q r 1 na ea sa uk un ue us 0 dk dn de ds 0 wx))
  case first =>
    clear HQ3 HQ4 HQ5 HQ6 HQ7
    obtain ⟨b0, b1, b2, b3, b4⟩ := HMb.out.1.cells
    go_wp2_with fail
    refine (HT1.out _).mono ?_
    rintro x w13 ⟨rfl, hb13⟩
    have HM13 : Hid (At4r w13 (t + 1) (.int .i64 kb) (.bool nb) (.int .i64 eb) (.string sb) ∧ NS w p q r 1 na ea sa uk un ue us 0 dk dn de ds 0 w13) := ⟨HMb.out.1.next hb13, HMb.out.2.next hb13⟩
    clear hb13 HMb HT1 b0 b1 b2 b3 b4
    cases ob
    case false =>
      go_wp2
      go_meet
      case rel => exact ⟨rfl, HM13.out.2⟩
    obtain ⟨b0, b1, b2, b3, b4⟩ := HM13.out.1.cells
    go_wp2_with fail
    refine (finite_any kb nb eb sb _).mono ?_
    rintro x w14 ⟨rfl, hb14⟩
    have HM14 : Hid (At4r w14 (t + 1) (.int .i64 kb) (.bool nb) (.int .i64 eb) (.string sb) ∧ NS w p q r 1 na ea sa uk un ue us 0 dk dn de ds 0 w14) := ⟨HM13.out.1.next hb14, HM13.out.2.next hb14⟩
    clear hb14 HM13 b0 b1 b2 b3 b4
    by_cases hkb : kb = 1
    case neg =>
      rw [decide_eq_false hkb]
      clear hkb
      go_wp2
      go_meet
      case rel => exact ⟨rfl, HM14.out.2⟩
    rw [decide_eq_true hkb]
    obtain ⟨b0, b1, b2, b3, b4⟩ := HM14.out.1.cells
    obtain ⟨c0, c1, c2, c3, c4⟩ := HM14.out.2.1.cells
    have HKb : Hid (kb = 1) := hkb
    clear hkb
    go_wp2_with fail
    refine (HT2.out _ (HK.out _ HM14.out.2.2.2.2)).mono ?_
    rintro x w15 ⟨rfl, hb15⟩
    have HM15 : Hid (At4r w15 (t + 1) (.int .i64 kb) (.bool nb) (.int .i64 eb) (.string sb) ∧ NS w p q r 1 na ea sa uk un ue us 0 dk dn de ds 0 w15) := ⟨HM14.out.1.next hb15, HM14.out.2.next hb15⟩
    clear hb15 HM14 HT2 b0 b1 b2 b3 b4 c0 c1 c2 c3 c4
    by_cases hx : 0 < x1
    case neg =>
      go_wp2
      go_meet
      case rel => exact ⟨rfl, HM15.out.2⟩
    have hx2 := HT4.out (by first | exact trivial | exact rfl) HKb.out hx
    have HX2 : Hid (¬ x2 < 0) := by show ¬ x2 < 0; omega
    clear hx2
    obtain ⟨b0, b1, b2, b3, b4⟩ := HM15.out.1.cells
    obtain ⟨r0, r1, r2, r3, r4, r5⟩ := HM15.out.2.2.1.cells
    clear HT4 HKb
    go_wp2_with fail
    refine (HT3.out _ (HK.out _ HM15.out.2.2.2.2)).mono ?_
    rintro x w16 ⟨rfl, hb16⟩
    have HM16 : Hid (NS w p q r 1 na ea sa uk un ue us 0 dk dn de ds 0 w16) := HM15.out.2.next hb16
    clear hb16 HM15 HT3 b0 b1 b2 b3 b4 r0 r1 r2 r3 r4 r5
    go_wp2
    go_meet
    case rel => exact ⟨by rw [decide_eq_false (show ¬ x2 < 0 by have := HX2.out; omega)], HM16⟩
  case rest =>
    obtain ⟨rfl, HM16⟩ := hcut
    clear HMb HT1 HT2 HT3 HT4
    obtain ⟨r0, r1, r2, r3, r4, r5⟩ := HM16.out.2.1.cells
    go_wp2_with fail
    refine (HQ4.out _).mono ?_
    rintro x w17 ⟨rfl, hb17⟩
    have hb18 : Below w17.heap.size w17 (w17.alloc (.cells #[.int .i64 bk, .bool bn, .int .i64 be, .string bs, .int .i64 bf] 29)) := (Below.refl _ _).alloc (Nat.le_refl _) _
    have hc18 := hb17.trans (hb18.mono hb17.size)
    have HM18 : Hid (NS w p q r 1 na ea sa uk un ue us 0 dk dn de ds 0 (w17.alloc (.cells #[.int .i64 bk, .bool bn, .int .i64 be, .string bs, .int .i64 bf] 29)) ∧ At5 (w17.alloc (.cells #[.int .i64 bk, .bool bn, .int .i64 be, .string bs, .int .i64 bf] 29)) w17.heap.size (.int .i64 bk) (.bool bn) (.int .i64 be) (.string bs) (.int .i64 bf)) := ⟨HM16.out.next hc18, at5_new w17 _ _ _ _ _⟩
    clear hb17 hb18 hc18 HM16 HQ4 r0 r1 r2 r3 r4 r5
    go_upto_region 16 with fail
    generalize (w17.alloc (.cells #[.int .i64 bk, .bool bn, .int .i64 be, .string bs, .int .i64 bf] 29)) = w18 at *
    generalize w17.heap.size = v1 at *
    obtain ⟨d0, d1, d2, d3, d4, d5⟩ := HM18.out.1.2.2.1.cells
    go_wp2_with fail
    refine (HQ5.out _).mono ?_
    rintro x w19 ⟨rfl, hb19⟩
    have hb20 : Below w19.heap.size w19 (w19.alloc (.cells #[.int .i64 fk, .bool fn, .int .i64 fe, .string fs, .int .i64 ff] 29)) := (Below.refl _ _).alloc (Nat.le_refl _) _
    have hc20 := hb19.trans (hb20.mono hb19.size)
    have HM20 : Hid ((NS w p q r 1 na ea sa uk un ue us 0 dk dn de ds 0 (w19.alloc (.cells #[.int .i64 fk, .bool fn, .int .i64 fe, .string fs, .int .i64 ff] 29)) ∧ At5 (w19.alloc (.cells #[.int .i64 fk, .bool fn, .int .i64 fe, .string fs, .int .i64 ff] 29)) v1 (.int .i64 bk) (.bool bn) (.int .i64 be) (.string bs) (.int .i64 bf)) ∧ At5 (w19.alloc (.cells #[.int .i64 fk, .bool fn, .int .i64 fe, .string fs, .int .i64 ff] 29)) w19.heap.size (.int .i64 fk) (.bool fn) (.int .i64 fe) (.string fs) (.int .i64 ff)) := ⟨⟨HM18.out.1.next hc20, HM18.out.2.below hc20 HM18.out.2.lt⟩, at5_new w19 _ _ _ _ _⟩
    clear hb19 hb20 hc20 HM18 HQ5 d0 d1 d2 d3 d4 d5
    go_upto_region 17 with fail
    generalize (w19.alloc (.cells #[.int .i64 fk, .bool fn, .int .i64 fe, .string fs, .int .i64 ff] 29)) = w20 at *
    generalize w19.heap.size = v2 at *
    obtain ⟨r0, r1, r2, r3, r4, r5⟩ := HM20.out.1.1.2.1.cells
    go_wp2_with fail
    refine (HQ3.out _).mono ?_
    rintro x w21 ⟨rfl, hb21⟩
    have HM21 : Hid ((NS w p q r 1 na ea sa uk un ue us 0 dk dn de ds 0 w21 ∧ At5 w21 v1 (.int .i64 bk) (.bool bn) (.int .i64 be) (.string bs) (.int .i64 bf)) ∧ At5 w21 v2 (.int .i64 fk) (.bool fn) (.int .i64 fe) (.string fs) (.int .i64 ff)) := ⟨⟨HM20.out.1.1.next hb21, HM20.out.1.2.below hb21 HM20.out.1.2.lt⟩, HM20.out.2.below hb21 HM20.out.2.lt⟩
    clear hb21 HM20 HQ3 r0 r1 r2 r3 r4 r5
    obtain ⟨c0, c1, c2, c3, c4⟩ := HM21.out.1.1.1.cells
    obtain ⟨r0, r1, r2, r3, r4, r5⟩ := HM21.out.1.2.cells
    go_wp2_with fail
    refine (HQ6.out _ (HK.out _ HM21.out.1.1.2.2.2)).mono ?_
    rintro x w22 ⟨rfl, hb22⟩
    have HM22 : Hid (NS w p q r 1 na ea sa uk un ue us 0 dk dn de ds 0 w22 ∧ At5 w22 v2 (.int .i64 fk) (.bool fn) (.int .i64 fe) (.string fs) (.int .i64 ff)) := ⟨HM21.out.1.1.next hb22, HM21.out.2.below hb22 HM21.out.2.lt⟩
    clear hb22 HM21 HQ6 r0 r1 r2 r3 r4 r5 c0 c1 c2 c3 c4
    obtain ⟨c0, c1, c2, c3, c4⟩ := HM22.out.1.1.cells
    obtain ⟨r0, r1, r2, r3, r4, r5⟩ := HM22.out.2.cells
    go_wp2_with fail
    refine (HQ7.out _ (HK.out _ HM22.out.1.2.2.2)).mono ?_
    rintro x w23 ⟨rfl, hb23⟩
    have hbe := HM22.out.1.2.2.2.trans (hb23.mono HM22.out.1.2.2.2.size)
    clear hb23 HM22 HQ7 r0 r1 r2 r3 r4 r5 c0 c1 c2 c3 c4
    go_wp2
    go_ret
    exact ⟨rfl, hbe⟩
theorem fnNext_all (a0 : Option Addr) (len0 cap0 : Nat) (w : World) (hb : Bytes w.heap.size w a0 len0) (hT : KTab w) :
    Calls Tryz.prog 7 #[.slice a0 len0 cap0] w fun e w' => e = .returned (.bool true) ∧ Below w.heap.size w w' := by
  by_cases hbig : 4096 < len0
  · clear hb
    go_enter Tryz.func7, Tryz.ntmps7
    go_wp2_with fail
    refine (big_yes _ _ _ _ hbig).mono ?_
    rintro e w' ⟨rfl, rfl⟩
    go_wp2
    go_ret
    exact ⟨rfl, Below.refl _ _⟩
  exact fnNext_any a0 len0 cap0 w hbig hb hT
end Go.Proofs.YtnkoeidolmiheaaGreatDoor
