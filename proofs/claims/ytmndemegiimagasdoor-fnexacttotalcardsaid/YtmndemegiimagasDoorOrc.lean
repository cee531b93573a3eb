/-
  Order of the program: the method that compares, walked.
-/
import Derived.Test.YtmndemegiimagasDoorOrb
namespace Go.Proofs.YtmndemegiimagasDoor
open Go.RowKit
set_option linter.unusedVariables false
set_option maxRecDepth 100000 in
set_option maxHeartbeats 1000000 in
theorem oCompare_any (x : Bool) (ka : Nat) (na : Bool) (ea : Int) (sa : ByteArray) (kb : Nat) (nb : Bool) (eb : Int) (sb : ByteArray) (w : World) (hka : 1 ≤ ka ∧ ka ≤ 4) (hkb : 1 ≤ kb ∧ kb ≤ 4) (hsa : sa.size ≤ 100) (hsb : sb.size ≤ 100) (hea : -20000 ≤ ea ∧ ea ≤ 20000) (heb : -20000 ≤ eb ∧ eb ≤ 20000) (hT : KTab w) :
    Calls Tryd.prog 17 #[.agg #[.bool x], numV ka na ea sa, numV kb nb eb sb] w fun r w' => r = .returned (.int .i64 (cmpR x ka na ea sa kb nb eb sb)) ∧ Below w.heap.size w w' := by
  have HN : Hid (N3o w.heap.size x ka na ea sa kb nb eb sb (((w.alloc (.cells #[.bool x] 34)).alloc (.cells #[.int .i64 ka, .bool na, .int .i64 ea, .string sa] 26)).alloc (.cells #[.int .i64 kb, .bool nb, .int .i64 eb, .string sb] 26)) ∧ Below w.heap.size w (((w.alloc (.cells #[.bool x] 34)).alloc (.cells #[.int .i64 ka, .bool na, .int .i64 ea, .string sa] 26)).alloc (.cells #[.int .i64 kb, .bool nb, .int .i64 eb, .string sb] 26))) := n3o_new w x ka na ea sa kb nb eb sb
  have HT : Hid (KTab (((w.alloc (.cells #[.bool x] 34)).alloc (.cells #[.int .i64 ka, .bool na, .int .i64 ea, .string sa] 26)).alloc (.cells #[.int .i64 kb, .bool nb, .int .i64 eb, .string sb] 26))) := hT.next HN.out.2
  have HC : Hid (∀ (kx : Nat) (nx : Bool) (ex : Int) (sx : ByteArray) (ky : Nat) (ny : Bool) (ey : Int) (sy : ByteArray), sx.size ≤ 100 → sy.size ≤ 100 → (-20000 ≤ ex ∧ ex ≤ 20000) → (-20000 ≤ ey ∧ ey ≤ 20000) → ∀ X, Calls Tryd.prog 29 #[numV kx nx ex sx, numV ky ny ey sy] X fun r w' => r = .returned (.int .i64 (cszI kx ex sx ky ey sy)) ∧ Below X.heap.size X w') := fun kx nx ex sx ky ny ey sy h1 h2 h3 h4 X => oSizes_any kx nx ex sx ky ny ey sy X h1 h2 h3 h4
  have HI : Hid (∀ (u v : Int) X, Calls Tryd.prog 28 #[.int .i64 u, .int .i64 v] X fun e w' => e = .returned (.int .i64 (cI u v)) ∧ w' = X) := fun u v X => oCmp_any u v X
  have HT0 : Hid (KTab w) := hT
  clear hT
  cases na with
  | true =>
    cases nb with
    | false =>
      clear HC HI HT HT0
      go_enter Tryd.func17, Tryd.ntmps17
      go_wp2
      go_ret
      exact ⟨rfl, HN.out.2⟩
    | true =>
      have E : Hid (cmpR x ka true ea sa kb true eb sb = cmpU x kb eb sb ka ea sa) := rfl
      rw [E.out]
      have HCz : Hid (∀ X, Calls Tryd.prog 29 #[numV kb true eb sb, numV ka true ea sa] X fun r w' => r = .returned (.int .i64 (cszI kb eb sb ka ea sa)) ∧ Below X.heap.size X w') := HC.out kb true eb sb ka true ea sa hsb hsa heb hea
      have HU : Hid (cmpU x kb eb sb ka ea sa = if x then orI (orI (cI (kpl kb) (kpl ka)) (cszI kb eb sb ka ea sa)) (cI eb ea) else orI (cI (kpl kb) (kpl ka)) (cszI kb eb sb ka ea sa)) := rfl
      rw [HU.out]
      have HCp : Hid (∀ X, Calls Tryd.prog 28 #[.int .i64 (kpl kb), .int .i64 (kpl ka)] X fun e w' => e = .returned (.int .i64 (cI (kpl kb) (kpl ka))) ∧ w' = X) := HI.out _ _
      have HCe : Hid (∀ X, Calls Tryd.prog 28 #[.int .i64 eb, .int .i64 ea] X fun e w' => e = .returned (.int .i64 (cI eb ea)) ∧ w' = X) := HI.out _ _
      clear E HU HC HI
      have ha0 : (0 : Int) ≤ (ka : Int) := by omega
      have ha1 : (ka : Int) < 5 := by omega
      have hb0 : (0 : Int) ≤ (kb : Int) := by omega
      have hb1 : (kb : Int) < 5 := by omega
      have HK : Hid (1 ≤ ka ∧ ka ≤ 4 ∧ 1 ≤ kb ∧ kb ≤ 4) := ⟨hka.1, hka.2, hkb.1, hkb.2⟩
      clear hka hkb hsa hsb hea heb
      generalize cszI kb eb sb ka ea sa = CZ at *
      generalize cI eb ea = CE at *
      generalize hKa : kpl kb = PA at *
      generalize hKb : kpl ka = PB at *
      have HPA : Hid (kpl kb = PA ∧ kpl ka = PB) := ⟨hKa, hKb⟩
      clear hKa hKb
      generalize cI PA PB = CK at *
      obtain ⟨O1, hO1⟩ : ∃ O, orI CK CZ = O := ⟨_, rfl⟩
      rw [hO1]
      have HOr : Hid (∀ (g : Nat) X, X.cell? ⟨g, 0, none⟩ = some (.int .i64 CK) → X.cell? ⟨g, 1, none⟩ = some (.int .i64 CZ) → Calls Tryd.prog 27 #[.slice (some ⟨g, 0, none⟩) 2 2] X fun e w' => e = .returned (.int .i64 O1) ∧ w' = X) := fun g X h0 h1 => hO1 ▸ oOr_any CK CZ g X h0 h1
      clear hO1
      clear HN HT
      have HN : Hid (N3o w.heap.size x kb true eb sb ka true ea sa (((w.alloc (.cells #[.bool x] 34)).alloc (.cells #[.int .i64 kb, .bool true, .int .i64 eb, .string sb] 26)).alloc (.cells #[.int .i64 ka, .bool true, .int .i64 ea, .string sa] 26)) ∧ Below w.heap.size w (((w.alloc (.cells #[.bool x] 34)).alloc (.cells #[.int .i64 kb, .bool true, .int .i64 eb, .string sb] 26)).alloc (.cells #[.int .i64 ka, .bool true, .int .i64 ea, .string sa] 26))) := n3o_new w x kb true eb sb ka true ea sa
      have HT : Hid (KTab (((w.alloc (.cells #[.bool x] 34)).alloc (.cells #[.int .i64 kb, .bool true, .int .i64 eb, .string sb] 26)).alloc (.cells #[.int .i64 ka, .bool true, .int .i64 ea, .string sa] 26))) := HT0.out.next HN.out.2
      clear HT0
      go_enter Tryd.func17, Tryd.ntmps17
      go_upto_region 7 with fail
      generalize (((w.alloc (.cells #[.bool x] 34)).alloc (.cells #[.int .i64 kb, .bool true, .int .i64 eb, .string sb] 26)).alloc (.cells #[.int .i64 ka, .bool true, .int .i64 ea, .string sa] 26)) = w0 at *
      have HX0 : Hid (Below w0.heap.size w0 w0.drew) := (Below.refl _ _).drew
      refine wp_region_tail (C := fun W => Below w0.heap.size w0 W) 12 (by kernel_rfl) (by kernel_rfl) HX0.out ?_
      simp only [List.take_succ_cons, List.take_zero, List.drop_succ_cons, List.drop_zero]
      repeat (refine wpQuiet_step (fun K hK => ?_); go_simp; first | (refine hK _ ?_; clear hK K) | (apply Exists.intro; refine ⟨fun wx hC => ?_, hK _ ?_⟩; (first | exact rfl | ((with_reducible refine Calls.class_of (HCz.out wx) ?_); exact (fun w' hb => bel1 hC hb)) | ((with_reducible refine (HCp.out wx).mono ?_); exact (fun _ _ h => ⟨h.1, by rw [h.2]; exact hC⟩)) | (obtain ⟨q0, q1, q2, q3, q4⟩ := (HN.out.1.next hC).2.1.cells; go_simp; exact rfl) | (obtain ⟨q0, q1, q2, q3, q4⟩ := (HN.out.1.next hC).2.2.cells; go_simp; exact rfl) | (have q0 := (HT.out.next hC).1 kb (by have := HK.out; omega) (by have := HK.out; omega); rw [HPA.out.1] at q0; go_simp; exact rfl) | (have q0 := (HT.out.next hC).1 ka (by have := HK.out; omega) (by have := HK.out; omega); rw [HPA.out.2] at q0; go_simp; exact rfl)); clear hK K))
      refine wpQuiet_nil ?_
      intro w2 hb2
      have HN2 : Hid (N3o w.heap.size x kb true eb sb ka true ea sa w2 ∧ Below w.heap.size w w2) := ⟨HN.out.1.next hb2, HN.out.2.trans (hb2.mono HN.out.2.size)⟩
      clear hb2 HN HX0 HT HCz HCp
      have HRn : Hid (∀ t, (w2.alloc (.cells #[.int .i64 CK, .int .i64 CZ] t)).cell? ⟨w2.heap.size, 0, none⟩ = some (.int .i64 CK) ∧ (w2.alloc (.cells #[.int .i64 CK, .int .i64 CZ] t)).cell? ⟨w2.heap.size, 1, none⟩ = some (.int .i64 CZ) ∧ Below w2.heap.size w2 (w2.alloc (.cells #[.int .i64 CK, .int .i64 CZ] t))) := rowI_new w2 CK CZ
      go_wp2_with fail
      refine (HOr.out w2.heap.size _ (HRn.out _).1 (HRn.out _).2.1).mono ?_
      rintro r w3 ⟨rfl, rfl⟩
      have HN3 : Hid (N3o w.heap.size x kb true eb sb ka true ea sa (w2.alloc (.cells #[.int .i64 CK, .int .i64 CZ] 3)) ∧ Below w.heap.size w (w2.alloc (.cells #[.int .i64 CK, .int .i64 CZ] 3))) := ⟨HN2.out.1.next (HRn.out _).2.2, HN2.out.2.trans ((HRn.out _).2.2.mono HN2.out.2.size)⟩
      clear HN2 HRn HOr
      generalize w2.alloc (.cells #[.int .i64 CK, .int .i64 CZ] 3) = w3 at *
      have q0 := HN3.out.1.box
      obtain ⟨c0, c1, c2, c3, c4⟩ := HN3.out.1.2.1.cells
      obtain ⟨d0, d1, d2, d3, d4⟩ := HN3.out.1.2.2.cells
      cases x with
      | false =>
        go_wp2
        go_ret
        exact ⟨rfl, HN3.out.2⟩
      | true =>
        go_wp2_with fail
        refine (HCe.out _).mono ?_
        rintro r w4 ⟨rfl, rfl⟩
        have HRm : Hid (∀ t, (w4.alloc (.cells #[.int .i64 O1, .int .i64 CE] t)).cell? ⟨w4.heap.size, 0, none⟩ = some (.int .i64 O1) ∧ (w4.alloc (.cells #[.int .i64 O1, .int .i64 CE] t)).cell? ⟨w4.heap.size, 1, none⟩ = some (.int .i64 CE) ∧ Below w4.heap.size w4 (w4.alloc (.cells #[.int .i64 O1, .int .i64 CE] t))) := rowI_new w4 O1 CE
        go_wp2_with fail
        refine (oOr_any O1 CE w4.heap.size _ (HRm.out _).1 (HRm.out _).2.1).mono ?_
        rintro r w5 ⟨rfl, rfl⟩
        have HB5 := HN3.out.2.trans ((HRm.out 3).2.2.mono HN3.out.2.size)
        go_wp2
        go_ret
        exact ⟨rfl, HB5⟩
  | false =>
    cases nb with
    | true =>
      clear HC HI HT HT0
      go_enter Tryd.func17, Tryd.ntmps17
      go_wp2
      go_ret
      exact ⟨rfl, HN.out.2⟩
    | false =>
      have E : Hid (cmpR x ka false ea sa kb false eb sb = cmpU x ka ea sa kb eb sb) := rfl
      rw [E.out]
      have HCz : Hid (∀ X, Calls Tryd.prog 29 #[numV ka false ea sa, numV kb false eb sb] X fun r w' => r = .returned (.int .i64 (cszI ka ea sa kb eb sb)) ∧ Below X.heap.size X w') := HC.out ka false ea sa kb false eb sb hsa hsb hea heb
      have HU : Hid (cmpU x ka ea sa kb eb sb = if x then orI (orI (cI (kpl ka) (kpl kb)) (cszI ka ea sa kb eb sb)) (cI ea eb) else orI (cI (kpl ka) (kpl kb)) (cszI ka ea sa kb eb sb)) := rfl
      rw [HU.out]
      have HCp : Hid (∀ X, Calls Tryd.prog 28 #[.int .i64 (kpl ka), .int .i64 (kpl kb)] X fun e w' => e = .returned (.int .i64 (cI (kpl ka) (kpl kb))) ∧ w' = X) := HI.out _ _
      have HCe : Hid (∀ X, Calls Tryd.prog 28 #[.int .i64 ea, .int .i64 eb] X fun e w' => e = .returned (.int .i64 (cI ea eb)) ∧ w' = X) := HI.out _ _
      clear E HU HC HI
      have ha0 : (0 : Int) ≤ (ka : Int) := by omega
      have ha1 : (ka : Int) < 5 := by omega
      have hb0 : (0 : Int) ≤ (kb : Int) := by omega
      have hb1 : (kb : Int) < 5 := by omega
      have HK : Hid (1 ≤ ka ∧ ka ≤ 4 ∧ 1 ≤ kb ∧ kb ≤ 4) := ⟨hka.1, hka.2, hkb.1, hkb.2⟩
      clear hka hkb hsa hsb hea heb
      generalize cszI ka ea sa kb eb sb = CZ at *
      generalize cI ea eb = CE at *
      generalize hKa : kpl ka = PA at *
      generalize hKb : kpl kb = PB at *
      have HPA : Hid (kpl ka = PA ∧ kpl kb = PB) := ⟨hKa, hKb⟩
      clear hKa hKb
      generalize cI PA PB = CK at *
      obtain ⟨O1, hO1⟩ : ∃ O, orI CK CZ = O := ⟨_, rfl⟩
      rw [hO1]
      have HOr : Hid (∀ (g : Nat) X, X.cell? ⟨g, 0, none⟩ = some (.int .i64 CK) → X.cell? ⟨g, 1, none⟩ = some (.int .i64 CZ) → Calls Tryd.prog 27 #[.slice (some ⟨g, 0, none⟩) 2 2] X fun e w' => e = .returned (.int .i64 O1) ∧ w' = X) := fun g X h0 h1 => hO1 ▸ oOr_any CK CZ g X h0 h1
      clear hO1
      clear HT0
      go_enter Tryd.func17, Tryd.ntmps17
      go_upto_region 7 with fail
      generalize (((w.alloc (.cells #[.bool x] 34)).alloc (.cells #[.int .i64 ka, .bool false, .int .i64 ea, .string sa] 26)).alloc (.cells #[.int .i64 kb, .bool false, .int .i64 eb, .string sb] 26)) = w0 at *
      have HX0 : Hid (Below w0.heap.size w0 w0.drew) := (Below.refl _ _).drew
      refine wp_region_tail (C := fun W => Below w0.heap.size w0 W) 12 (by kernel_rfl) (by kernel_rfl) HX0.out ?_
      simp only [List.take_succ_cons, List.take_zero, List.drop_succ_cons, List.drop_zero]
      repeat (refine wpQuiet_step (fun K hK => ?_); go_simp; first | (refine hK _ ?_; clear hK K) | (apply Exists.intro; refine ⟨fun wx hC => ?_, hK _ ?_⟩; (first | exact rfl | ((with_reducible refine Calls.class_of (HCz.out wx) ?_); exact (fun w' hb => bel1 hC hb)) | ((with_reducible refine (HCp.out wx).mono ?_); exact (fun _ _ h => ⟨h.1, by rw [h.2]; exact hC⟩)) | (obtain ⟨q0, q1, q2, q3, q4⟩ := (HN.out.1.next hC).2.1.cells; go_simp; exact rfl) | (obtain ⟨q0, q1, q2, q3, q4⟩ := (HN.out.1.next hC).2.2.cells; go_simp; exact rfl) | (have q0 := (HT.out.next hC).1 ka (by have := HK.out; omega) (by have := HK.out; omega); rw [HPA.out.1] at q0; go_simp; exact rfl) | (have q0 := (HT.out.next hC).1 kb (by have := HK.out; omega) (by have := HK.out; omega); rw [HPA.out.2] at q0; go_simp; exact rfl)); clear hK K))
      refine wpQuiet_nil ?_
      intro w2 hb2
      have HN2 : Hid (N3o w.heap.size x ka false ea sa kb false eb sb w2 ∧ Below w.heap.size w w2) := ⟨HN.out.1.next hb2, HN.out.2.trans (hb2.mono HN.out.2.size)⟩
      clear hb2 HN HX0 HT HCz HCp
      have HRn : Hid (∀ t, (w2.alloc (.cells #[.int .i64 CK, .int .i64 CZ] t)).cell? ⟨w2.heap.size, 0, none⟩ = some (.int .i64 CK) ∧ (w2.alloc (.cells #[.int .i64 CK, .int .i64 CZ] t)).cell? ⟨w2.heap.size, 1, none⟩ = some (.int .i64 CZ) ∧ Below w2.heap.size w2 (w2.alloc (.cells #[.int .i64 CK, .int .i64 CZ] t))) := rowI_new w2 CK CZ
      go_wp2_with fail
      refine (HOr.out w2.heap.size _ (HRn.out _).1 (HRn.out _).2.1).mono ?_
      rintro r w3 ⟨rfl, rfl⟩
      have HN3 : Hid (N3o w.heap.size x ka false ea sa kb false eb sb (w2.alloc (.cells #[.int .i64 CK, .int .i64 CZ] 3)) ∧ Below w.heap.size w (w2.alloc (.cells #[.int .i64 CK, .int .i64 CZ] 3))) := ⟨HN2.out.1.next (HRn.out _).2.2, HN2.out.2.trans ((HRn.out _).2.2.mono HN2.out.2.size)⟩
      clear HN2 HRn HOr
      generalize w2.alloc (.cells #[.int .i64 CK, .int .i64 CZ] 3) = w3 at *
      have q0 := HN3.out.1.box
      obtain ⟨c0, c1, c2, c3, c4⟩ := HN3.out.1.2.1.cells
      obtain ⟨d0, d1, d2, d3, d4⟩ := HN3.out.1.2.2.cells
      cases x with
      | false =>
        go_wp2
        go_ret
        exact ⟨rfl, HN3.out.2⟩
      | true =>
        go_wp2_with fail
        refine (HCe.out _).mono ?_
        rintro r w4 ⟨rfl, rfl⟩
        have HRm : Hid (∀ t, (w4.alloc (.cells #[.int .i64 O1, .int .i64 CE] t)).cell? ⟨w4.heap.size, 0, none⟩ = some (.int .i64 O1) ∧ (w4.alloc (.cells #[.int .i64 O1, .int .i64 CE] t)).cell? ⟨w4.heap.size, 1, none⟩ = some (.int .i64 CE) ∧ Below w4.heap.size w4 (w4.alloc (.cells #[.int .i64 O1, .int .i64 CE] t))) := rowI_new w4 O1 CE
        go_wp2_with fail
        refine (oOr_any O1 CE w4.heap.size _ (HRm.out _).1 (HRm.out _).2.1).mono ?_
        rintro r w5 ⟨rfl, rfl⟩
        have HB5 := HN3.out.2.trans ((HRm.out 3).2.2.mono HN3.out.2.size)
        go_wp2
        go_ret
        exact ⟨rfl, HB5⟩
end Go.Proofs.YtmndemegiimagasDoor
