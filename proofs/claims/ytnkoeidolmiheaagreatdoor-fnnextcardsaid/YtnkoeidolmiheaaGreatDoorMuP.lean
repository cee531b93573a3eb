/-
  Plain facts on what Mul tells: it goes both ways, by one a number is itself, its results are right.
-/
import Derived.Test.YtnkoeidolmiheaaGreatDoorSpd
import Derived.Test.YtnkoeidolmiheaaGreatDoorQtl
import Derived.Test.YtnkoeidolmiheaaGreatDoorSmL
import Derived.Test.YtnkoeidolmiheaaGreatDoorNatS
import Derived.Test.YtnkoeidolmiheaaGreatDoorSmO
import Derived.Test.YtnkoeidolmiheaaGreatDoorSpt
import Derived.Test.YtnkoeidolmiheaaGreatDoorExc
import Derived.Test.YtnkoeidolmiheaaGreatDoorMuPs
import Derived.Test.YtnkoeidolmiheaaGreatDoorExh
namespace Go.Proofs.YtnkoeidolmiheaaGreatDoor
open Go.RowKit
set_option linter.unusedVariables false
set_option maxRecDepth 100000
theorem results_nt {fn : Func} {p t : Tmp} {b : Nat} {x y z u : Value} (h : fn.results = #[.cell p 25, .tmp t]) (tmps : Array Value) (w : World) (hp : tmps[p]?.getD undef = .pointer (some ⟨b, 0, none⟩))
    (q0 : w.cell? ⟨b, 0, none⟩ = some x) (q1 : w.cell? ⟨b, 1, none⟩ = some y) (q2 : w.cell? ⟨b, 2, none⟩ = some z) (q3 : w.cell? ⟨b, 3, none⟩ = some u) : (results fn tmps).run Tryz.prog w = .ok (.tuple #[.agg #[x, y, z, u], tmps.getD t undef]) w := by
  simp [results, h, hp, go_sem, q0, q1, q2, q3]
set_option maxRecDepth 100000 in
set_option maxHeartbeats 1000000 in
theorem l13Product_fin (na nb : Bool) (ea eb : Int) (da db : List Int) (w : World) (ca : Canon da) (cb : Canon db) (la : da.length ≤ 34) (lb : db.length ≤ 34) (ha : -7000 ≤ ea ∧ ea ≤ 7000) (hb : -7000 ≤ eb ∧ eb ≤ 7000) :
    Calls Tryz.prog 110 #[numV 1 na ea (tx da), numV 1 nb eb (tx db)] w fun x w' => x = .returned (.tuple #[numV 1 (!(na == nb)) (ea + eb) (tx (nt (vl da * vl db))), .bool true]) ∧ Below w.heap.size w w' := by
  have HMu : Hid (∀ X, Calls Tryz.prog 131 #[.string (tx da), .string (tx db)] X fun e w' => e = .returned (.string (tx (nt (vl da * vl db)))) ∧ Below X.heap.size X w') := fun X => by
    refine (l11Mul_any da db X ca cb (by omega) (by omega)).mono ?_
    rintro e w' ⟨R, rfl, hR, vR, lR, hbR⟩
    rw [nt_of R (vl da * vl db) hR vR (by omega)]
    exact ⟨rfl, hbR⟩
  have we : IntKind.i64.wrap (ea + eb) = ea + eb := by rw [IntKind.wrap_i64]; omega
  clear ca cb la lb ha hb
  obtain ⟨ng, hng⟩ : ∃ ng, (!(na == nb)) = ng := ⟨_, rfl⟩
  rw [hng]
  generalize tx (nt (vl da * vl db)) = TP at *
  generalize tx da = T1 at *
  generalize tx db = T2 at *
  have HFn : Hid (∀ X, Calls Tryz.prog 72 #[.bool ng, .string TP, .int .i64 (ea + eb)] X fun x w' => x = .returned (numV 1 ng (ea + eb) TP) ∧ Below X.heap.size X w') := fun X => l12Finite_any ng TP (ea + eb) X
  have HN : Hid (N3 w 1 na ea T1 1 nb eb T2 (((w.alloc (.cells #[.int .i64 1, .bool na, .int .i64 ea, .string T1] 25)).alloc (.cells #[.int .i64 1, .bool nb, .int .i64 eb, .string T2] 25)).alloc (.cells #[.int .i64 0, .bool false, .int .i64 0, .string { data := #[] }] 25))) := n3_new w 1 na ea T1 1 nb eb T2
  go_enter Tryz.func110, Tryz.ntmps110
  go_upto_region 5 with fail
  clear hng
  generalize ((w.alloc (.cells #[.int .i64 1, .bool na, .int .i64 ea, .string T1] 25)).alloc (.cells #[.int .i64 1, .bool nb, .int .i64 eb, .string T2] 25)).alloc (.cells #[.int .i64 0, .bool false, .int .i64 0, .string { data := #[] }] 25) = w0 at *
  have HX0 : Hid (Below w0.heap.size w0 w0.drew) := (Below.refl _ _).drew
  refine wp_region_tail (C := fun W => Below w0.heap.size w0 W) 11 (by kernel_rfl) (by kernel_rfl) HX0.out ?_
  simp only [List.take_succ_cons, List.take_zero, List.drop_succ_cons, List.drop_zero]
  repeat (refine wpQuiet_step (fun K hK => ?_); go_simp; first | (refine hK _ ?_; clear hK K) | (apply Exists.intro; refine ⟨fun wx hC => ?_, hK _ ?_⟩; (first | exact rfl | exact Calls.class_of (HMu.out wx) (fun w' hb => bel1 hC hb) | (obtain ⟨a0, a1, a2, a3, a4⟩ := (HN.out.next hC).1.cells; go_simp; exact rfl) | (obtain ⟨a0, a1, a2, a3, a4⟩ := (HN.out.next hC).2.1.cells; go_simp; exact rfl)); clear hK K))
  refine wpQuiet_nil ?_
  intro w1 hb1
  have HN1 : Hid (N3 w 1 na ea T1 1 nb eb T2 w1) := HN.out.next hb1
  clear hb1 HN HX0 HMu
  go_wp2_with fail
  refine (HFn.out _).mono ?_
  rintro x w2 ⟨rfl, hb2⟩
  have HN2 : Hid (N3 w 1 na ea T1 1 nb eb T2 w2) := HN1.out.next hb2
  clear hb2 HN1 HFn
  go_wp2_with (refine wpList_store_row rfl 25 (.tmp 4) (.tmp 54) rfl (w.heap.size + 2) #[.int .i64 1, .bool ng, .int .i64 (ea + eb), .string TP] rfl rfl _ _ HN2.out.2.2.1 (by kernel_rfl) rfl (one4 _ _ _ _) ?_)
  have hP := (HN2.out.2.2.1.row (.int .i64 1) (.bool ng) (.int .i64 (ea + eb)) (.string TP)).cells
  refine bodyPost_ret (results_nt rfl _ _ rfl hP.1 hP.2.1 hP.2.2.1 hP.2.2.2.1) rfl ?_
  exact ⟨rfl, bel_row HN2.out.2.2.2 (by omega) _⟩
theorem is_nought {s : ByteArray} (h : (s.toList == [48]) = true) : s = { data := #[48] } := by
  have := eq_of_beq h
  rw [ByteArray.toList_eq] at this
  apply ByteArray.ext
  apply Array.ext'
  exact this
/-- Infinities: is a nought among the two? -/
def z0B (ka : Int) (sa : ByteArray) : Bool := decide (ka = 1) && (sa.toList == [48])
set_option maxRecDepth 100000 in
set_option maxHeartbeats 1000000 in
theorem l13Product_inf (ka : Int) (na : Bool) (ea : Int) (sa : ByteArray) (kb : Int) (nb : Bool) (eb : Int) (sb : ByteArray) (w : World) (hk : (ka = 1 ∧ kb = 2) ∨ (ka = 2 ∧ kb = 1) ∨ (ka = 2 ∧ kb = 2)) :
    Calls Tryz.prog 110 #[numV ka na ea sa, numV kb nb eb sb] w fun x w' => x = .returned (.tuple #[numV 2 (!(na == nb)) 0 { data := #[] }, .bool (!(z0B ka sa || z0B kb sb))]) ∧ Below w.heap.size w w' := by
  have HN : Hid (N3 w ka na ea sa kb nb eb sb (n3W w ka na ea sa kb nb eb sb)) := n3_new w ka na ea sa kb nb eb sb
  obtain ⟨ng, hng⟩ : ∃ ng, (!(na == nb)) = ng := ⟨_, rfl⟩
  rw [hng]
  have hbi := build_inf ng
  obtain ⟨RB, hRB⟩ : ∃ r, (!(z0B ka sa || z0B kb sb)) = r := ⟨_, rfl⟩
  have HRB : Hid ((!(z0B ka sa || z0B kb sb)) = RB) := hRB
  rw [hRB]
  clear hRB
  rcases hk with ⟨rfl, rfl⟩ | ⟨rfl, rfl⟩ | ⟨rfl, rfl⟩
  · cases hz : (sa.toList == [48]) with
    | true =>
      have E : Hid (RB = false) := by show _ = _; rw [← HRB.out]; simp [z0B, hz]
      obtain rfl := is_nought hz
      clear hz
      go_enter Tryz.func110, Tryz.ntmps110
      go_upto_region 4 with fail
      go_wp2_with (refine wpList_store_row rfl 25 (.tmp 4) (.tmp 40) rfl (w.heap.size + 2) #[.int .i64 2, .bool ng, .int .i64 0, .string { data := #[] }] rfl rfl _ _ HN.out.2.2.1 (by kernel_rfl) rfl (one4 _ _ _ _) ?_)
      have hP := (HN.out.2.2.1.row (.int .i64 2) (.bool ng) (.int .i64 0) (.string { data := #[] })).cells
      refine bodyPost_ret (results_nt rfl _ _ rfl hP.1 hP.2.1 hP.2.2.1 hP.2.2.2.1) rfl ?_
      exact ⟨by rw [E.out]; rfl, bel_row HN.out.2.2.2 (by omega) _⟩
    | false =>
      have E : Hid (RB = true) := by show _ = _; rw [← HRB.out]; simp [z0B, hz]
      go_enter Tryz.func110, Tryz.ntmps110
      go_upto_region 4 with fail
      go_wp2_with (refine wpList_store_row rfl 25 (.tmp 4) (.tmp 40) rfl (w.heap.size + 2) #[.int .i64 2, .bool ng, .int .i64 0, .string { data := #[] }] rfl rfl _ _ HN.out.2.2.1 (by kernel_rfl) rfl (one4 _ _ _ _) ?_)
      have hP := (HN.out.2.2.1.row (.int .i64 2) (.bool ng) (.int .i64 0) (.string { data := #[] })).cells
      refine bodyPost_ret (results_nt rfl _ _ rfl hP.1 hP.2.1 hP.2.2.1 hP.2.2.2.1) rfl ?_
      exact ⟨by rw [E.out]; rfl, bel_row HN.out.2.2.2 (by omega) _⟩
  · cases hz : (sb.toList == [48]) with
    | true =>
      have E : Hid (RB = false) := by show _ = _; rw [← HRB.out]; simp [z0B, hz]
      obtain rfl := is_nought hz
      clear hz
      go_enter Tryz.func110, Tryz.ntmps110
      go_upto_region 4 with fail
      go_wp2_with (refine wpList_store_row rfl 25 (.tmp 4) (.tmp 40) rfl (w.heap.size + 2) #[.int .i64 2, .bool ng, .int .i64 0, .string { data := #[] }] rfl rfl _ _ HN.out.2.2.1 (by kernel_rfl) rfl (one4 _ _ _ _) ?_)
      have hP := (HN.out.2.2.1.row (.int .i64 2) (.bool ng) (.int .i64 0) (.string { data := #[] })).cells
      refine bodyPost_ret (results_nt rfl _ _ rfl hP.1 hP.2.1 hP.2.2.1 hP.2.2.2.1) rfl ?_
      exact ⟨by rw [E.out]; rfl, bel_row HN.out.2.2.2 (by omega) _⟩
    | false =>
      have E : Hid (RB = true) := by show _ = _; rw [← HRB.out]; simp [z0B, hz]
      go_enter Tryz.func110, Tryz.ntmps110
      go_upto_region 4 with fail
      go_wp2_with (refine wpList_store_row rfl 25 (.tmp 4) (.tmp 40) rfl (w.heap.size + 2) #[.int .i64 2, .bool ng, .int .i64 0, .string { data := #[] }] rfl rfl _ _ HN.out.2.2.1 (by kernel_rfl) rfl (one4 _ _ _ _) ?_)
      have hP := (HN.out.2.2.1.row (.int .i64 2) (.bool ng) (.int .i64 0) (.string { data := #[] })).cells
      refine bodyPost_ret (results_nt rfl _ _ rfl hP.1 hP.2.1 hP.2.2.1 hP.2.2.2.1) rfl ?_
      exact ⟨by rw [E.out]; rfl, bel_row HN.out.2.2.2 (by omega) _⟩
  · have E : Hid (RB = true) := by show _ = _; rw [← HRB.out]; simp [z0B]
    go_enter Tryz.func110, Tryz.ntmps110
    go_upto_region 4 with fail
    go_wp2_with (refine wpList_store_row rfl 25 (.tmp 4) (.tmp 40) rfl (w.heap.size + 2) #[.int .i64 2, .bool ng, .int .i64 0, .string { data := #[] }] rfl rfl _ _ HN.out.2.2.1 (by kernel_rfl) rfl (one4 _ _ _ _) ?_)
    have hP := (HN.out.2.2.1.row (.int .i64 2) (.bool ng) (.int .i64 0) (.string { data := #[] })).cells
    refine bodyPost_ret (results_nt rfl _ _ rfl hP.1 hP.2.1 hP.2.2.1 hP.2.2.2.1) rfl ?_
    exact ⟨by rw [E.out]; rfl, bel_row HN.out.2.2.2 (by omega) _⟩
end Go.Proofs.YtnkoeidolmiheaaGreatDoor
namespace Go.Proofs.YtnkoeidolmiheaaGreatDoor
open Go.RowKit
set_option linter.unusedVariables false
set_option maxRecDepth 100000
/-- What Mul tells of two right numbers that are no NaNs. -/
def mulX (f mode : Int) (ka : Int) (na : Bool) (ea : Int) (sa : ByteArray) (kb : Int) (nb : Bool) (eb : Int) (sb : ByteArray) : R5 :=
  if ka = 1 ∧ kb = 1 then (!(na == nb), finD f mode (!(na == nb)) (nt (vl (dl sa) * vl (dl sb))) (ea + eb) false (ea + eb))
  else if z0B ka sa || z0B kb sb then (false, (3, 0, { data := #[] }, 1)) else (!(na == nb), (2, 0, { data := #[] }, 0))
/-- What Mul tells. -/
def mulR (f mode : Int) (ka : Int) (na : Bool) (ea : Int) (sa : ByteArray) (kb : Int) (nb : Bool) (eb : Int) (sb : ByteArray) : R5 :=
  if addO f mode ka na ea sa kb nb eb sb then (if spB 2 (tw2 ka kb) then (false, (3, 0, { data := #[] }, spF 2 (tw2 ka kb))) else mulX f mode ka na ea sa kb nb eb sb)
  else (false, (0, 0, { data := #[] }, 0))
theorem mul_bd (da db : List Int) (ca : Canon da) (cb : Canon db) (la : da.length ≤ 34) (lb : db.length ≤ 34) : Nok (vl da * vl db) ∧ vl da * vl db < 10 ^ 68 := by
  have v1 := vl_bd da ca.1
  have v2 := vl_bd db cb.1
  have p1 := pow_mono da.length 34 la
  have p2 := pow_mono db.length 34 lb
  have h0 := Int.mul_nonneg v1.1 v2.1
  have h1 : vl da * vl db ≤ vl da * 10 ^ 34 := Int.mul_le_mul_of_nonneg_left (by omega) v1.1
  have h2 : vl da * 10 ^ 34 < 10 ^ 34 * 10 ^ 34 := Int.mul_lt_mul_of_pos_right (by omega) (ten_pos 34)
  rw [← Int.pow_add] at h2
  have h3 := pow_mono 68 200 (by decide)
  have h4 : vl da * vl db < 10 ^ 68 := by omega
  exact ⟨⟨h0, by omega⟩, h4⟩
set_option maxRecDepth 100000 in
set_option maxHeartbeats 1000000 in
theorem sMul_ok (f mode : Int) (ka : Int) (na : Bool) (ea : Int) (sa : ByteArray) (kb : Int) (nb : Bool) (eb : Int) (sb : ByteArray) (w : World) (hsa : sa.size ≤ 4611686018427387904) (hsb : sb.size ≤ 4611686018427387904) :
    Calls Tryz.prog 45 #[.int .i64 f, .int .i64 mode, numV ka na ea sa, numV kb nb eb sb] w fun x w' => x = .returned (rsD (mulR f mode ka na ea sa kb nb eb sb).1 (mulR f mode ka na ea sa kb nb eb sb).2) ∧ Below w.heap.size w w' := by
  have HS : Hid (SU w (suW w ka na ea sa kb nb eb sb) ka na ea sa kb nb eb sb) := su_new w ka na ea sa kb nb eb sb
  have HOk : Hid (∀ (g : Nat) X, g < X.heap.size → NRw X g 2 (tw2 ka kb) (tw2 na nb) (tw2 ea eb) (tw2 sa sb) → Calls Tryz.prog 57 #[.int .i64 f, .int .i64 mode, .slice (some ⟨g, 0, none⟩) 2 2] X fun x w' => x = .returned (.bool (addO f mode ka na ea sa kb nb eb sb)) ∧ Below X.heap.size X w') := fun g X hg hr =>
    (l13Ok_any f mode 2 g (tw2 ka kb) (tw2 na nb) (tw2 ea eb) (tw2 sa sb) X (by decide) hg hr (fun i hi => by match i, hi with
      | 0, _ => exact hsa
      | 1, _ => exact hsb)).mono (by
        rintro x w' ⟨rfl, hb⟩
        exact ⟨by rw [okB2 (fun i => numB f (tw2 ka kb i) (tw2 na nb i) (tw2 ea eb i) (tw2 sa sb i))]; rfl, hb⟩)
  have HSp : Hid (∀ (g : Nat) X, g < X.heap.size → NRw X g 2 (tw2 ka kb) (tw2 na nb) (tw2 ea eb) (tw2 sa sb) → Calls Tryz.prog 58 #[.slice (some ⟨g, 0, none⟩) 2 2] X fun x w' => x = .returned (.tuple #[rsV 3 false 0 { data := #[] } (spF 2 (tw2 ka kb)), .bool (spB 2 (tw2 ka kb))]) ∧ Below X.heap.size X w') := fun g X hg hr => l13Special_any 2 g _ _ _ _ X (by decide) hg hr
  obtain ⟨R, hR⟩ : ∃ R, mulR f mode ka na ea sa kb nb eb sb = R := ⟨_, rfl⟩
  have HR : Hid (mulR f mode ka na ea sa kb nb eb sb = R) := hR
  rw [hR]
  clear hR hsa hsb
  have hb0 := build_res00
  go_enter Tryz.func45, Tryz.ntmps45
  have hsz : (suW w ka na ea sa kb nb eb sb).heap.size = w.heap.size + 1 + 1 + 1 := by simp
  have hg0 := heap_at (suW w ka na ea sa kb nb eb sb) (.cells #[.int .i64 ka, .bool na, .int .i64 ea, .string sa, .int .i64 kb, .bool nb, .int .i64 eb, .string sb] 25)
  rw [hsz] at hg0
  have hsz4 : ((suW w ka na ea sa kb nb eb sb).alloc (.cells #[.int .i64 ka, .bool na, .int .i64 ea, .string sa, .int .i64 kb, .bool nb, .int .i64 eb, .string sb] 25)).heap.size = w.heap.size + 1 + 1 + 1 + 1 := by simp
  have HL : Hid (NRw ((suW w ka na ea sa kb nb eb sb).alloc (.cells #[.int .i64 ka, .bool na, .int .i64 ea, .string sa, .int .i64 kb, .bool nb, .int .i64 eb, .string sb] 25)) (w.heap.size + 1 + 1 + 1) 2 (tw2 ka kb) (tw2 na nb) (tw2 ea eb) (tw2 sa sb) ∧ w.heap.size + 1 + 1 + 1 < ((suW w ka na ea sa kb nb eb sb).alloc (.cells #[.int .i64 ka, .bool na, .int .i64 ea, .string sa, .int .i64 kb, .bool nb, .int .i64 eb, .string sb] 25)).heap.size) := ⟨nrw2 hg0, by rw [hsz4]; omega⟩
  clear hsz hg0 hsz4
  go_wp2_with fail
  refine (HOk.out (w.heap.size + 1 + 1 + 1) _ HL.out.2 HL.out.1).mono ?_
  rintro e w1 ⟨rfl, hb1⟩
  have HS1 : Hid (SU w w1 ka na ea sa kb nb eb sb) := (HS.out.alloc _).next hb1
  have HL1 : Hid (NRw w1 (w.heap.size + 1 + 1 + 1) 2 (tw2 ka kb) (tw2 na nb) (tw2 ea eb) (tw2 sa sb) ∧ w.heap.size + 1 + 1 + 1 < w1.heap.size) := ⟨HL.out.1.below hb1 HL.out.2, Nat.lt_of_lt_of_le HL.out.2 hb1.size⟩
  clear hb1 HL HS HOk
  cases hO : addO f mode ka na ea sa kb nb eb sb with
  | false =>
    have ER : Hid (R = (false, (0, 0, { data := #[] }, 0))) := by show _ = _; rw [← HR.out]; unfold mulR; rw [hO]; rfl
    have HZ3 : Hid (At5 w1 (w.heap.size + 2) (.int .i64 0) (.bool false) (.int .i64 0) (.string { data := #[] }) (.int .i64 0) ∧ Below w.heap.size w w1) := ⟨HS1.out.2.2.1, HS1.out.2.2.2.1⟩
    clear hO HSp HS1 HL1 HR
    go_wp2_with (refine wpList_store_row rfl 29 (.tmp 8) (.tmp 22) rfl (w.heap.size + 2) #[.int .i64 0, .bool false, .int .i64 0, .string { data := #[] }, .int .i64 0] rfl rfl _ _ HZ3.out.1 (by kernel_rfl) rfl (one5 _ _ _ _ _) ?_)
    have hP := (HZ3.out.1.row (.int .i64 0) (.bool false) (.int .i64 0) (.string { data := #[] }) (.int .i64 0)).cells
    refine bodyPost_ret (results_res rfl _ _ rfl hP.1 hP.2.1 hP.2.2.1 hP.2.2.2.1 hP.2.2.2.2.1) rfl ?_
    exact ⟨by rw [ER.out], bel_row HZ3.out.2 (by omega) _⟩
  | true =>
    go_wp2_with fail
    refine (HSp.out (w.heap.size + 1 + 1 + 1) _ HL1.out.2 HL1.out.1).mono ?_
    rintro e w2 ⟨rfl, hb2⟩
    have HS2 : Hid (SU w w2 ka na ea sa kb nb eb sb) := HS1.out.next hb2
    clear hb2 HL1 HS1 HSp hb0
    cases hB : spB 2 (tw2 ka kb) with
    | true =>
      have ER : Hid (R = (false, (3, 0, { data := #[] }, spF 2 (tw2 ka kb)))) := by show _ = _; rw [← HR.out]; unfold mulR; rw [hO, hB]; rfl
      clear hO hB HR
      generalize spF 2 (tw2 ka kb) = FL at *
      have HZ3 : Hid (At5 (w2.alloc (.cells #[.int .i64 3, .bool false, .int .i64 0, .string { data := #[] }, .int .i64 FL] 29)) (w.heap.size + 2) (.int .i64 0) (.bool false) (.int .i64 0) (.string { data := #[] }) (.int .i64 0) ∧ Below w.heap.size w (w2.alloc (.cells #[.int .i64 3, .bool false, .int .i64 0, .string { data := #[] }, .int .i64 FL] 29))) := ⟨(HS2.out.alloc _).2.2.1, (HS2.out.alloc _).2.2.2.1⟩
      go_wp2_with (refine wpList_store_row rfl 29 (.tmp 8) (.tmp 29) rfl (w.heap.size + 2) #[.int .i64 3, .bool false, .int .i64 0, .string { data := #[] }, .int .i64 FL] rfl rfl _ _ HZ3.out.1 (by kernel_rfl) rfl (one5 _ _ _ _ _) ?_)
      have hP := (HZ3.out.1.row (.int .i64 3) (.bool false) (.int .i64 0) (.string { data := #[] }) (.int .i64 FL)).cells
      refine bodyPost_ret (results_res rfl _ _ rfl hP.1 hP.2.1 hP.2.2.1 hP.2.2.2.1 hP.2.2.2.2.1) rfl ?_
      exact ⟨by rw [ER.out], bel_row HZ3.out.2 (by omega) _⟩
    | false =>
      have ER : R = mulX f mode ka na ea sa kb nb eb sb := by rw [← HR.out]; unfold mulR; rw [hO, hB]; rfl
      have hO2 := hO
      unfold addO at hO2
      simp only [Bool.and_eq_true, decide_eq_true_eq] at hO2
      obtain ⟨hmo, hA, hBn⟩ := hO2
      have hnan := of_decide_eq_false hB
      have n0 : ka ≠ 3 ∧ ka ≠ 4 := ⟨fun h => hnan ⟨0, by decide, .inl h⟩, fun h => hnan ⟨0, by decide, .inr h⟩⟩
      have n1 : kb ≠ 3 ∧ kb ≠ 4 := ⟨fun h => hnan ⟨1, by decide, .inl h⟩, fun h => hnan ⟨1, by decide, .inr h⟩⟩
      obtain ⟨hf, ea1, ka1, ca⟩ := right_two f ka na ea sa hA n0.1 n0.2
      obtain ⟨-, eb1, kb1, cb⟩ := right_two f kb nb eb sb hBn n1.1 n1.2
      have hL := lims f hf
      obtain ⟨ng, hng⟩ : ∃ ng, (!(na == nb)) = ng := ⟨_, rfl⟩
      have HS3 : Hid (SU w (w2.alloc (.cells #[.int .i64 3, .bool false, .int .i64 0, .string { data := #[] }, .int .i64 (spF 2 (tw2 ka kb))] 29)) ka na ea sa kb nb eb sb) := HS2.out.alloc _
      generalize spF 2 (tw2 ka kb) = FL at *
      obtain ⟨a0, a1, a2, a3, a4⟩ := HS3.out.at1.cells
      obtain ⟨c0, c1, c2, c3, c4⟩ := HS3.out.at2.cells
      by_cases hkk : ka = 1 ∧ kb = 1
      · obtain ⟨rfl, rfl⟩ := hkk
        obtain ⟨q1, l1, x1, y1⟩ := ca rfl
        obtain ⟨q2, l2, x2, y2⟩ := cb rfl
        obtain ⟨nk, -⟩ := mul_bd (dl sa) (dl sb) q1 q2 (by omega) (by omega)
        have HPr : Hid (∀ X, Calls Tryz.prog 110 #[numV 1 na ea sa, numV 1 nb eb sb] X fun x w' => x = .returned (.tuple #[numV 1 ng (ea + eb) (tx (nt (vl (dl sa) * vl (dl sb)))), .bool true]) ∧ Below X.heap.size X w') := fun X => by
          have := l13Product_fin na nb ea eb (dl sa) (dl sb) X q1 q2 (by omega) (by omega) (by omega) (by omega)
          rw [← ea1, ← eb1, hng] at this
          exact this
        have HFi : Hid (∀ X, Calls Tryz.prog 62 #[.int .i64 f, .int .i64 mode, .bool ng, .string (tx (nt (vl (dl sa) * vl (dl sb)))), .int .i64 (ea + eb), .bool false, .int .i64 (ea + eb)] X fun x w' => x = .returned (rsD R.1 R.2) ∧ Below X.heap.size X w') := fun X => by
          have := fin_ok f mode hf ng (nt (vl (dl sa) * vl (dl sb))) (ea + eb) false (ea + eb) X (nok_spec nk).1 (nok_len nk) (by omega) (by omega)
          rw [ER]
          unfold mulX
          rw [if_pos ⟨rfl, rfl⟩, hng]
          dsimp only
          exact this
        generalize tx (nt (vl (dl sa) * vl (dl sb))) = TP at *
        obtain ⟨R0, F1, F2, F3, F4⟩ := R
        generalize ea + eb = ep at *
        clear hO hB HR ER hmo hA hBn hnan n0 n1 hf ea1 ca eb1 cb hL hng q1 l1 x1 y1 q2 l2 x2 y2 nk HS2 ka1 kb1
        go_wp2_with fail
        refine (HPr.out _).mono ?_
        rintro e w3 ⟨rfl, hb3⟩
        have HS4 : Hid (SU w w3 1 na ea sa 1 nb eb sb) := HS3.out.next hb3
        clear hb3 HS3 HPr a0 a1 a2 a3 a4 c0 c1 c2 c3 c4
        have HS5 : Hid (SU w (w3.alloc (.cells #[.int .i64 1, .bool ng, .int .i64 ep, .string TP] 25)) 1 na ea sa 1 nb eb sb) := HS4.out.alloc _
        go_wp2_with fail
        refine (HFi.out _).mono ?_
        rintro e w4 ⟨rfl, hb4⟩
        have HZ3 : Hid (At5 w4 (w.heap.size + 2) (.int .i64 0) (.bool false) (.int .i64 0) (.string { data := #[] }) (.int .i64 0) ∧ Below w.heap.size w w4) := sum_end HS5.out hb4
        clear hb4 HS4 HS5 HFi
        go_wp2_with (refine wpList_store_row rfl 29 (.tmp 8) (.tmp 57) rfl (w.heap.size + 2) #[.int .i64 F1, .bool R0, .int .i64 F2, .string F3, .int .i64 F4] rfl rfl _ _ HZ3.out.1 (by kernel_rfl) rfl (one5 _ _ _ _ _) ?_)
        have hP := (HZ3.out.1.row (.int .i64 F1) (.bool R0) (.int .i64 F2) (.string F3) (.int .i64 F4)).cells
        refine bodyPost_ret (results_res rfl _ _ rfl hP.1 hP.2.1 hP.2.2.1 hP.2.2.2.1 hP.2.2.2.2.1) rfl ?_
        exact ⟨rfl, bel_row HZ3.out.2 (by omega) _⟩
      · have HPr : Hid (∀ X, Calls Tryz.prog 110 #[numV ka na ea sa, numV kb nb eb sb] X fun x w' => x = .returned (.tuple #[numV 2 ng 0 { data := #[] }, .bool (!(z0B ka sa || z0B kb sb))]) ∧ Below X.heap.size X w') := fun X => by
          have := l13Product_inf ka na ea sa kb nb eb sb X (by omega)
          rw [hng] at this
          exact this
        have ER2 : R = if z0B ka sa || z0B kb sb then (false, (3, 0, { data := #[] }, 1)) else (ng, (2, 0, { data := #[] }, 0)) := by
          rw [ER]; unfold mulX; rw [if_neg hkk, hng]
        cases hz : (z0B ka sa || z0B kb sb) with
        | true =>
          rw [hz] at HPr ER2
          have ER3 : Hid (R = (false, (3, 0, { data := #[] }, 1))) := ER2
          clear hO hB HR ER hmo hA hBn hnan n0 n1 hf ea1 ca eb1 cb hL hng HS2 ka1 kb1 ER2 hkk hz
          go_wp2_with fail
          refine (HPr.out _).mono ?_
          rintro e w3 ⟨rfl, hb3⟩
          have HS4 : Hid (SU w w3 ka na ea sa kb nb eb sb) := HS3.out.next hb3
          clear hb3 HS3 HPr a0 a1 a2 a3 a4 c0 c1 c2 c3 c4
          have HS5 : Hid (SU w (w3.alloc (.cells #[.int .i64 2, .bool ng, .int .i64 0, .string { data := #[] }] 25)) ka na ea sa kb nb eb sb) := HS4.out.alloc _
          go_wp2_with fail
          refine (l13Invalid_any _).mono ?_
          rintro e w4 ⟨rfl, hb4⟩
          have HZ3 : Hid (At5 w4 (w.heap.size + 2) (.int .i64 0) (.bool false) (.int .i64 0) (.string { data := #[] }) (.int .i64 0) ∧ Below w.heap.size w w4) := sum_end HS5.out hb4
          clear hb4 HS4 HS5
          go_wp2_with (refine wpList_store_row rfl 29 (.tmp 8) (.tmp 39) rfl (w.heap.size + 2) #[.int .i64 3, .bool false, .int .i64 0, .string { data := #[] }, .int .i64 1] rfl rfl _ _ HZ3.out.1 (by kernel_rfl) rfl (one5 _ _ _ _ _) ?_)
          have hP := (HZ3.out.1.row (.int .i64 3) (.bool false) (.int .i64 0) (.string { data := #[] }) (.int .i64 1)).cells
          refine bodyPost_ret (results_res rfl _ _ rfl hP.1 hP.2.1 hP.2.2.1 hP.2.2.2.1 hP.2.2.2.2.1) rfl ?_
          exact ⟨by rw [ER3.out], bel_row HZ3.out.2 (by omega) _⟩
        | false =>
          rw [hz] at HPr ER2
          have ER3 : Hid (R = (ng, (2, 0, { data := #[] }, 0))) := ER2
          clear hO hB HR ER hmo hA hBn hnan n0 n1 hf ea1 ca eb1 cb hL hng HS2 ka1 kb1 ER2 hkk hz
          go_wp2_with fail
          refine (HPr.out _).mono ?_
          rintro e w3 ⟨rfl, hb3⟩
          have HS4 : Hid (SU w w3 ka na ea sa kb nb eb sb) := HS3.out.next hb3
          clear hb3 HS3 HPr a0 a1 a2 a3 a4 c0 c1 c2 c3 c4
          have HS5 : Hid (SU w (w3.alloc (.cells #[.int .i64 2, .bool ng, .int .i64 0, .string { data := #[] }] 25)) ka na ea sa kb nb eb sb) := HS4.out.alloc _
          go_wp2_with fail
          refine (l13Inf_any ng _).mono ?_
          rintro e w4 ⟨rfl, hb4⟩
          have HZ3 : Hid (At5 w4 (w.heap.size + 2) (.int .i64 0) (.bool false) (.int .i64 0) (.string { data := #[] }) (.int .i64 0) ∧ Below w.heap.size w w4) := sum_end HS5.out hb4
          clear hb4 HS4 HS5
          go_wp2_with (refine wpList_store_row rfl 29 (.tmp 8) (.tmp 46) rfl (w.heap.size + 2) #[.int .i64 2, .bool ng, .int .i64 0, .string { data := #[] }, .int .i64 0] rfl rfl _ _ HZ3.out.1 (by kernel_rfl) rfl (one5 _ _ _ _ _) ?_)
          have hP := (HZ3.out.1.row (.int .i64 2) (.bool ng) (.int .i64 0) (.string { data := #[] }) (.int .i64 0)).cells
          refine bodyPost_ret (results_res rfl _ _ rfl hP.1 hP.2.1 hP.2.2.1 hP.2.2.2.1 hP.2.2.2.2.1) rfl ?_
          exact ⟨by rw [ER3.out], bel_row HZ3.out.2 (by omega) _⟩
end Go.Proofs.YtnkoeidolmiheaaGreatDoor
namespace Go.Proofs.YtnkoeidolmiheaaGreatDoor
set_option linter.unusedVariables false
set_option maxRecDepth 100000
theorem beq_turn (a b : Bool) : (a == b) = (b == a) := by cases a <;> cases b <;> rfl
theorem mulX_comm (f mode : Int) (ka : Int) (na : Bool) (ea : Int) (sa : ByteArray) (kb : Int) (nb : Bool) (eb : Int) (sb : ByteArray) : mulX f mode ka na ea sa kb nb eb sb = mulX f mode kb nb eb sb ka na ea sa := by
  unfold mulX
  rw [beq_turn na nb, Int.mul_comm (vl (dl sa)), Int.add_comm ea, Bool.or_comm (z0B ka sa)]
  by_cases h : ka = 1 ∧ kb = 1
  · rw [if_pos h, if_pos ⟨h.2, h.1⟩]
  · rw [if_neg h, if_neg (show ¬ (kb = 1 ∧ ka = 1) from fun c => h ⟨c.2, c.1⟩)]
/-- Products go both ways. -/
theorem mulR_comm (f mode : Int) (ka : Int) (na : Bool) (ea : Int) (sa : ByteArray) (kb : Int) (nb : Bool) (eb : Int) (sb : ByteArray) : mulR f mode ka na ea sa kb nb eb sb = mulR f mode kb nb eb sb ka na ea sa := by
  unfold mulR
  rw [addO_comm, spB_comm, spF_comm, mulX_comm]
/-- What Mul tells of right numbers is right. -/
theorem mulR_right (f mode : Int) (ka : Int) (na : Bool) (ea : Int) (sa : ByteArray) (kb : Int) (nb : Bool) (eb : Int) (sb : ByteArray) (hO : addO f mode ka na ea sa kb nb eb sb = true) :
    numB f (mulR f mode ka na ea sa kb nb eb sb).2.1 (mulR f mode ka na ea sa kb nb eb sb).1 (mulR f mode ka na ea sa kb nb eb sb).2.2.1 (mulR f mode ka na ea sa kb nb eb sb).2.2.2.1 = true := by
  have hO2 := hO
  unfold addO at hO2
  simp only [Bool.and_eq_true, decide_eq_true_eq] at hO2
  obtain ⟨hmo, hA, hBn⟩ := hO2
  have hp0 : limP f ≠ 0 := fun h => by unfold numB at hA; rw [if_pos h] at hA; cases hA
  have hN : ∀ fl : Int, numB f 3 false 0 { data := #[] } = true := fun _ => by
    unfold numB
    rw [if_neg hp0, if_neg (by decide), if_neg (by decide), if_pos (.inl rfl), ByteArray.toList_eq]
    rfl
  have hI : ∀ b : Bool, numB f 2 b 0 { data := #[] } = true := fun b => by
    unfold numB
    rw [if_neg hp0, if_neg (by decide), if_pos rfl, ByteArray.toList_eq]
    rfl
  obtain ⟨R, hR⟩ : ∃ R, mulR f mode ka na ea sa kb nb eb sb = R := ⟨_, rfl⟩
  rw [hR]
  unfold mulR at hR
  rw [hO, if_pos rfl] at hR
  cases hS : spB 2 (tw2 ka kb) with
  | true =>
    rw [hS, if_pos rfl] at hR
    rw [← hR]
    exact hN 0
  | false =>
    rw [hS, if_neg (by decide)] at hR
    have hnan := of_decide_eq_false hS
    have n0 : ka ≠ 3 ∧ ka ≠ 4 := ⟨fun h => hnan ⟨0, by decide, .inl h⟩, fun h => hnan ⟨0, by decide, .inr h⟩⟩
    have n1 : kb ≠ 3 ∧ kb ≠ 4 := ⟨fun h => hnan ⟨1, by decide, .inl h⟩, fun h => hnan ⟨1, by decide, .inr h⟩⟩
    obtain ⟨hf, ea1, ka1, ca⟩ := right_two f ka na ea sa hA n0.1 n0.2
    obtain ⟨-, eb1, kb1, cb⟩ := right_two f kb nb eb sb hBn n1.1 n1.2
    have hL := lims f hf
    unfold mulX at hR
    by_cases hkk : ka = 1 ∧ kb = 1
    · rw [if_pos hkk] at hR
      rw [← hR]
      obtain ⟨q1, l1, x1, y1⟩ := ca hkk.1
      obtain ⟨q2, l2, x2, y2⟩ := cb hkk.2
      obtain ⟨nk, -⟩ := mul_bd (dl sa) (dl sb) q1 q2 (by omega) (by omega)
      have := finD_right f hf mode (!(na == nb)) (nt (vl (dl sa) * vl (dl sb))) (ea + eb) (ea + eb) (nok_spec nk).1 (nok_len nk)
      dsimp only
      exact this
    · rw [if_neg hkk] at hR
      cases hz : (z0B ka sa || z0B kb sb) with
      | true =>
        rw [hz, if_pos rfl] at hR
        rw [← hR]
        exact hN 0
      | false =>
        rw [hz, if_neg (by decide)] at hR
        rw [← hR]
        exact hI _
/-- By one a number is itself. -/
theorem mulR_one (f mode : Int) (hmo : 1 ≤ mode ∧ mode ≤ 5) (na : Bool) (ea : Int) (sa : ByteArray) (hA : numB f 1 na ea sa = true) : mulR f mode 1 na ea sa 1 false 0 { data := #[49] } = (na, (1, ea, sa, 0)) := by
  obtain ⟨hf, ea1, -, ca⟩ := right_two f 1 na ea sa hA (by decide) (by decide)
  obtain ⟨q1, l1, x1, y1⟩ := ca rfl
  have hL := lims f hf
  have hp : limP f ≠ 0 ∧ 1 ≤ limP f ∧ limL f ≤ 0 ∧ 0 ≤ limH f := by rcases hf with rfl | rfl <;> decide
  have c1 : Canon [1] := ⟨fun d hd => by simp at hd; omega, by simp, .inl rfl⟩
  have et : tx [1] = { data := #[49] } := by apply ByteArray.ext; rw [tx_data]; rfl
  have hB : numB f 1 false 0 { data := #[49] } = true := by
    have := natB_tx (limP f) [1] c1 (by simp; omega)
    rw [et] at this
    unfold numB
    rw [if_neg hp.1, if_pos rfl, this]
    simp [hp.2.2.1, hp.2.2.2]
  have hO : addO f mode 1 na ea sa 1 false 0 { data := #[49] } = true := by
    unfold addO
    rw [hA, hB, decide_eq_true hmo]
    rfl
  have hS : spB 2 (tw2 1 1) = false := by
    refine decide_eq_false ?_
    rintro ⟨i, hi, q⟩
    match i, hi with
    | 0, _ => exact absurd q (by simp [tw2])
    | 1, _ => exact absurd q (by simp [tw2])
  have d1 : dl { data := #[49] } = [1] := by rfl
  have v1 : vl [1] = 1 := by rfl
  unfold mulR
  rw [hO, if_pos rfl, hS, if_neg (by decide)]
  unfold mulX
  rw [if_pos ⟨rfl, rfl⟩, d1, v1, Int.mul_one, Int.add_zero, nt_vl _ q1 (by omega), finD_self f hf mode _ (dl sa) ea q1 l1 x1 y1, ← ea1]
  cases na <;> rfl
end Go.Proofs.YtnkoeidolmiheaaGreatDoor
