/-
  Div of the model, walked.
-/
import Derived.Test.YtnkoeidolmiheaaGreatDoorWhj
import Derived.Test.YtnkoeidolmiheaaGreatDoorSmO
import Derived.Test.YtnkoeidolmiheaaGreatDoorQzp
import Derived.Test.YtnkoeidolmiheaaGreatDoorExj
namespace Go.Proofs.YtnkoeidolmiheaaGreatDoor
open Go.RowKit
set_option linter.unusedVariables false
set_option maxRecDepth 100000
/-- One number's box and a result's. -/
abbrev s1W (w : World) (ka : Int) (na : Bool) (ea : Int) (sa : ByteArray) : World := (w.alloc (.cells #[.int .i64 ka, .bool na, .int .i64 ea, .string sa] 25)).alloc (.cells #[.int .i64 0, .bool false, .int .i64 0, .string { data := #[] }, .int .i64 0] 29)
/-- What lies in them. -/
def S1 (w W : World) (ka : Int) (na : Bool) (ea : Int) (sa : ByteArray) : Prop :=
  At4r W w.heap.size (.int .i64 ka) (.bool na) (.int .i64 ea) (.string sa) ∧ At5 W (w.heap.size + 1) (.int .i64 0) (.bool false) (.int .i64 0) (.string { data := #[] }) (.int .i64 0) ∧ Below w.heap.size w W ∧ w.heap.size + 1 < W.heap.size
theorem s1_new (w : World) (ka : Int) (na : Bool) (ea : Int) (sa : ByteArray) : S1 w (s1W w ka na ea sa) ka na ea sa := by
  unfold s1W
  have h1 := at4r_new w (.int .i64 ka) (.bool na) (.int .i64 ea) (.string sa)
  have z1 := new_size w (.cells #[.int .i64 ka, .bool na, .int .i64 ea, .string sa] 25)
  have b1 : Below w.heap.size w (w.alloc (.cells #[.int .i64 ka, .bool na, .int .i64 ea, .string sa] 25)) := (Below.refl _ _).alloc (Nat.le_refl _) _
  generalize w.alloc (.cells #[.int .i64 ka, .bool na, .int .i64 ea, .string sa] 25) = w1 at *
  have h2 := at5_new w1 (.int .i64 0) (.bool false) (.int .i64 0) (.string { data := #[] }) (.int .i64 0)
  have z2 := new_size w1 (.cells #[.int .i64 0, .bool false, .int .i64 0, .string { data := #[] }, .int .i64 0] 29)
  have b2 : Below w1.heap.size w1 (w1.alloc (.cells #[.int .i64 0, .bool false, .int .i64 0, .string { data := #[] }, .int .i64 0] 29)) := (Below.refl _ _).alloc (Nat.le_refl _) _
  rw [z1] at h2
  exact ⟨h1.next b2, h2, b1.trans (b2.mono b1.size), by omega⟩
theorem S1.next {w W W' : World} {ka : Int} {na : Bool} {ea : Int} {sa : ByteArray} (h : S1 w W ka na ea sa) (hb : Below W.heap.size W W') : S1 w W' ka na ea sa :=
  ⟨h.1.next hb, h.2.1.below hb h.2.1.lt, h.2.2.1.trans (hb.mono h.2.2.1.size), Nat.lt_of_lt_of_le h.2.2.2 hb.size⟩
theorem S1.alloc {w W : World} {ka : Int} {na : Bool} {ea : Int} {sa : ByteArray} (h : S1 w W ka na ea sa) (o : Obj) : S1 w (W.alloc o) ka na ea sa := h.next ((Below.refl _ _).alloc (Nat.le_refl _) _)
theorem S1.end {w W W' : World} {ka : Int} {na : Bool} {ea : Int} {sa : ByteArray} (h : S1 w W ka na ea sa) (hb : Below W.heap.size W W') : At5 W' (w.heap.size + 1) (.int .i64 0) (.bool false) (.int .i64 0) (.string { data := #[] }) (.int .i64 0) ∧ Below w.heap.size w W' := ⟨(h.next hb).2.1, (h.next hb).2.2.1⟩
theorem tx_00 : tx (nt 0) = { data := #[48] } := by
  rw [← nt_of [0] 0 canon_zero rfl (by decide)]
  apply ByteArray.ext; rw [tx_data]; rfl
set_option maxRecDepth 100000 in
theorem l14Drop_any (mode : Int) (neg : Bool) (ds : List Int) (k : Int) (w : World) (hc : Canon ds) (hl : ds.length ≤ 100) (hk : 0 ≤ k) :
    Calls Tryz.prog 92 #[.int .i64 mode, .bool neg, .string (tx ds), .int .i64 k] w fun e w' => e = .returned (.tuple #[.string (tx (nt (drV mode neg (vl ds) k.toNat))), .bool (drL (vl ds) k.toNat)]) ∧ Below w.heap.size w w' := by
  have hb := vl_bd ds hc.1
  by_cases h2 : 200 < k
  · by_cases hz : ds = [0]
    · subst hz
      have hz0 : ((tx [0]).toList == [48]) = true := by rw [show tx [0] = { data := #[48] } by apply ByteArray.ext; rw [tx_data]; rfl, ByteArray.toList_eq]; rfl
      have e0 : vl [0] = 0 := rfl
      have E : Hid (tx (nt (drV mode neg (vl [0]) k.toNat)) = { data := #[48] } ∧ drL (vl [0]) k.toNat = false) := by
        rw [e0]
        obtain ⟨a, b⟩ := rnd_zero mode neg (min k.toNat 200)
        exact ⟨by unfold drV; rw [a]; exact tx_00, b⟩
      rw [E.out.1, E.out.2]
      clear E hb hc hl e0
      generalize tx [0] = T at *
      go_enter Tryz.func92, Tryz.ntmps92
      go_wp2
      go_ret2
      exact ⟨rfl, Below.refl _ _⟩
    · have hpos : 0 < vl ds := by
        have : vl ds ≠ 0 := fun c => hz (canon_nought ds hc c)
        omega
      obtain ⟨x, y⟩ := drop_far mode neg (vl ds) k.toNat hpos (Int.lt_of_lt_of_le hb.2 (pow_mono _ _ hl)) (by omega)
      have HR : Hid (∀ X, Calls Tryz.prog 129 #[.int .i64 mode, .bool neg, .string { data := #[49] }, .int .i64 200, .bool true] X fun e w' => e = .returned (.tuple #[.string (tx (nt (rndV mode neg 1 200 true))), .bool true]) ∧ Below X.heap.size X w') := fun X => by
        have := l12Round_any mode neg [1] 200 true X (canon_one 1 (by decide) (by decide)) (by decide) (by decide)
        rw [tx_1] at this
        exact this
      rw [x, y]
      have hz0 := tx_is0 ds hc.1 hz
      generalize tx (nt (rndV mode neg 1 200 true)) = T3 at *
      generalize tx ds = T at *
      clear x y hpos hb hc hl hz
      go_enter Tryz.func92, Tryz.ntmps92
      go_wp2_with fail
      refine (HR.out _).mono ?_
      rintro e w1 ⟨rfl, hb1⟩
      go_wp2
      go_ret2
      exact ⟨rfl, hb1⟩
  · have E : Hid (drV mode neg (vl ds) k.toNat = rndV mode neg (vl ds) k.toNat false ∧ drL (vl ds) k.toNat = rndL (vl ds) k.toNat false) := by
      unfold drV drL; rw [show min k.toNat 200 = k.toNat by omega]; exact ⟨rfl, rfl⟩
    rw [E.out.1, E.out.2]
    have HR : Hid (∀ X, Calls Tryz.prog 129 #[.int .i64 mode, .bool neg, .string (tx ds), .int .i64 k, .bool false] X fun e w' => e = .returned (.tuple #[.string (tx (nt (rndV mode neg (vl ds) k.toNat false))), .bool (rndL (vl ds) k.toNat false)]) ∧ Below X.heap.size X w') := fun X => by
      have := l12Round_any mode neg ds k.toNat false X hc (by omega) (by omega)
      rw [show ((k.toNat : Nat) : Int) = k by omega] at this
      exact this
    generalize tx (nt (rndV mode neg (vl ds) k.toNat false)) = T3 at *
    generalize rndL (vl ds) k.toNat false = lo at *
    generalize tx ds = T at *
    clear E hb hc hl
    go_enter Tryz.func92, Tryz.ntmps92
    go_wp2_with fail
    refine (HR.out _).mono ?_
    rintro e w1 ⟨rfl, hb1⟩
    go_wp2
    go_ret2
    exact ⟨rfl, hb1⟩
set_option maxRecDepth 100000 in
set_option maxHeartbeats 1000000 in
theorem sWhole_any (f mode : Int) (ka : Int) (na : Bool) (ea : Int) (sa : ByteArray) (w : World) (hsa : sa.size ≤ 4611686018427387904) :
    Calls Tryz.prog 24 #[.int .i64 f, .int .i64 mode, numV ka na ea sa] w fun x w' => x = .returned (rsD (whR f mode ka na ea sa).1 (whR f mode ka na ea sa).2) ∧ Below w.heap.size w w' := by
  have HS : Hid (S1 w (s1W w ka na ea sa) ka na ea sa) := s1_new w ka na ea sa
  have HOk : Hid (∀ (g : Nat) X, g < X.heap.size → NRw X g 1 (fun _ => ka) (fun _ => na) (fun _ => ea) (fun _ => sa) → Calls Tryz.prog 57 #[.int .i64 f, .int .i64 mode, .slice (some ⟨g, 0, none⟩) 1 1] X fun x w' => x = .returned (.bool (rightB f mode 1 (fun _ => ka) (fun _ => na) (fun _ => ea) (fun _ => sa))) ∧ Below X.heap.size X w') := fun g X hg hr =>
    l13Ok_any f mode 1 g (fun _ => ka) (fun _ => na) (fun _ => ea) (fun _ => sa) X (by decide) hg hr (fun _ _ => hsa)
  have HSp : Hid (∀ (g : Nat) X, g < X.heap.size → NRw X g 1 (fun _ => ka) (fun _ => na) (fun _ => ea) (fun _ => sa) → Calls Tryz.prog 58 #[.slice (some ⟨g, 0, none⟩) 1 1] X fun x w' => x = .returned (.tuple #[rsV 3 false 0 { data := #[] } (spF 1 (fun _ => ka)), .bool (spB 1 (fun _ => ka))]) ∧ Below X.heap.size X w') := fun g X hg hr => l13Special_any 1 g _ _ _ _ X (by decide) hg hr
  obtain ⟨R, hR⟩ : ∃ R, whR f mode ka na ea sa = R := ⟨_, rfl⟩
  have HR : Hid (whR f mode ka na ea sa = R) := hR
  rw [hR]
  clear hR hsa
  have hb0 := build_res00
  go_enter Tryz.func24, Tryz.ntmps24
  have hsz : (s1W w ka na ea sa).heap.size = w.heap.size + 1 + 1 := by simp
  have hg0 := heap_at (s1W w ka na ea sa) (.cells #[.int .i64 ka, .bool na, .int .i64 ea, .string sa] 25)
  rw [hsz] at hg0
  have hsz4 : ((s1W w ka na ea sa).alloc (.cells #[.int .i64 ka, .bool na, .int .i64 ea, .string sa] 25)).heap.size = w.heap.size + 1 + 1 + 1 := by simp
  have HL : Hid (NRw ((s1W w ka na ea sa).alloc (.cells #[.int .i64 ka, .bool na, .int .i64 ea, .string sa] 25)) (w.heap.size + 1 + 1) 1 (fun _ => ka) (fun _ => na) (fun _ => ea) (fun _ => sa) ∧ w.heap.size + 1 + 1 < ((s1W w ka na ea sa).alloc (.cells #[.int .i64 ka, .bool na, .int .i64 ea, .string sa] 25)).heap.size) := ⟨nrwO hg0, by rw [hsz4]; omega⟩
  clear hsz hg0 hsz4
  go_wp2_with fail
  refine (HOk.out (w.heap.size + 1 + 1) _ HL.out.2 HL.out.1).mono ?_
  rintro e w1 ⟨rfl, hb1⟩
  have HS1 : Hid (S1 w w1 ka na ea sa) := (HS.out.alloc _).next hb1
  have HL1 : Hid (NRw w1 (w.heap.size + 1 + 1) 1 (fun _ => ka) (fun _ => na) (fun _ => ea) (fun _ => sa) ∧ w.heap.size + 1 + 1 < w1.heap.size) := ⟨HL.out.1.below hb1 HL.out.2, Nat.lt_of_lt_of_le HL.out.2 hb1.size⟩
  clear hb1 HL HS HOk
  cases hO : rightB f mode 1 (fun _ => ka) (fun _ => na) (fun _ => ea) (fun _ => sa) with
  | false =>
    have ER : Hid (R = (false, (0, 0, { data := #[] }, 0))) := by show _ = _; rw [← HR.out]; unfold whR ofR; rw [hO]; rfl
    have HZ3 : Hid (At5 w1 (w.heap.size + 1) (.int .i64 0) (.bool false) (.int .i64 0) (.string { data := #[] }) (.int .i64 0) ∧ Below w.heap.size w w1) := ⟨HS1.out.2.1, HS1.out.2.2.1⟩
    clear hO HSp HS1 HL1 HR
    go_wp2_with (refine wpList_store_row rfl 29 (.tmp 6) (.tmp 19) rfl (w.heap.size + 1) #[.int .i64 0, .bool false, .int .i64 0, .string { data := #[] }, .int .i64 0] rfl rfl _ _ HZ3.out.1 (by kernel_rfl) rfl (one5 _ _ _ _ _) ?_)
    have hP := (HZ3.out.1.row (.int .i64 0) (.bool false) (.int .i64 0) (.string { data := #[] }) (.int .i64 0)).cells
    refine bodyPost_ret (results_res rfl _ _ rfl hP.1 hP.2.1 hP.2.2.1 hP.2.2.2.1 hP.2.2.2.2.1) rfl ?_
    exact ⟨by rw [ER.out], bel_row HZ3.out.2 (by omega) _⟩
  | true =>
    go_wp2_with fail
    refine (HSp.out (w.heap.size + 1 + 1) _ HL1.out.2 HL1.out.1).mono ?_
    rintro e w2 ⟨rfl, hb2⟩
    have HS2 : Hid (S1 w w2 ka na ea sa) := HS1.out.next hb2
    clear hb2 HL1 HS1 HSp hb0
    cases hB : spB 1 (fun _ => ka) with
    | true =>
      have ER : Hid (R = (false, (3, 0, { data := #[] }, spF 1 (fun _ => ka)))) := by show _ = _; rw [← HR.out]; unfold whR ofR; rw [hO, hB]; rfl
      clear hO hB HR
      generalize spF 1 (fun _ => ka) = FL at *
      have HZ3 : Hid (At5 (w2.alloc (.cells #[.int .i64 3, .bool false, .int .i64 0, .string { data := #[] }, .int .i64 FL] 29)) (w.heap.size + 1) (.int .i64 0) (.bool false) (.int .i64 0) (.string { data := #[] }) (.int .i64 0) ∧ Below w.heap.size w (w2.alloc (.cells #[.int .i64 3, .bool false, .int .i64 0, .string { data := #[] }, .int .i64 FL] 29))) := ⟨(HS2.out.alloc _).2.1, (HS2.out.alloc _).2.2.1⟩
      go_wp2_with (refine wpList_store_row rfl 29 (.tmp 6) (.tmp 26) rfl (w.heap.size + 1) #[.int .i64 3, .bool false, .int .i64 0, .string { data := #[] }, .int .i64 FL] rfl rfl _ _ HZ3.out.1 (by kernel_rfl) rfl (one5 _ _ _ _ _) ?_)
      have hP := (HZ3.out.1.row (.int .i64 3) (.bool false) (.int .i64 0) (.string { data := #[] }) (.int .i64 FL)).cells
      refine bodyPost_ret (results_res rfl _ _ rfl hP.1 hP.2.1 hP.2.2.1 hP.2.2.2.1 hP.2.2.2.2.1) rfl ?_
      exact ⟨by rw [ER.out], bel_row HZ3.out.2 (by omega) _⟩
    | false =>
      have ER : R = whX mode ka na ea sa := by rw [← HR.out]; unfold whR ofR; rw [hO, hB]; rfl
      have hrg := rgn_one hO hB
      have HS3 : Hid (S1 w (w2.alloc (.cells #[.int .i64 3, .bool false, .int .i64 0, .string { data := #[] }, .int .i64 (spF 1 (fun _ => ka))] 29)) ka na ea sa) := HS2.out.alloc _
      generalize spF 1 (fun _ => ka) = FL at *
      clear hO hB HR HS2
      obtain ⟨hm, hr⟩ := hrg
      obtain ⟨a0, a1, a2, a3, a4⟩ := HS3.out.1.cells
      by_cases hA : ka = 2 ∨ 0 ≤ ea
      · have EX : Hid (R = (na, (ka, ea, sa, 0))) := by show _ = _; rw [ER]; unfold whX; rw [if_pos hA]
        have hbr := build_res0 ka na ea sa
        have hk : (ka == 2) = true ∨ ((ka == 2) = false ∧ 0 ≤ ea) := by
          by_cases c : ka = 2
          · exact .inl (by rw [c]; rfl)
          · exact .inr ⟨beq_eq_false_iff_ne.2 c, hA.resolve_left c⟩
        have HZ3 : Hid (At5 (w2.alloc (.cells #[.int .i64 3, .bool false, .int .i64 0, .string { data := #[] }, .int .i64 FL] 29)) (w.heap.size + 1) (.int .i64 0) (.bool false) (.int .i64 0) (.string { data := #[] }) (.int .i64 0) ∧ Below w.heap.size w (w2.alloc (.cells #[.int .i64 3, .bool false, .int .i64 0, .string { data := #[] }, .int .i64 FL] 29))) := ⟨HS3.out.2.1, HS3.out.2.2.1⟩
        clear hA hr hm ER
        rcases hk with hk | ⟨hk, hge⟩
        · skip
          go_wp2_with (refine wpList_store_row rfl 29 (.tmp 6) (.tmp 36) rfl (w.heap.size + 1) #[.int .i64 ka, .bool na, .int .i64 ea, .string sa, .int .i64 0] rfl rfl _ _ HZ3.out.1 (by kernel_rfl) rfl (one5 _ _ _ _ _) ?_)
          have hP := (HZ3.out.1.row (.int .i64 ka) (.bool na) (.int .i64 ea) (.string sa) (.int .i64 0)).cells
          refine bodyPost_ret (results_res rfl _ _ rfl hP.1 hP.2.1 hP.2.2.1 hP.2.2.2.1 hP.2.2.2.2.1) rfl ?_
          exact ⟨by rw [EX.out], bel_row HZ3.out.2 (by omega) _⟩
        · skip
          go_wp2_with (refine wpList_store_row rfl 29 (.tmp 6) (.tmp 36) rfl (w.heap.size + 1) #[.int .i64 ka, .bool na, .int .i64 ea, .string sa, .int .i64 0] rfl rfl _ _ HZ3.out.1 (by kernel_rfl) rfl (one5 _ _ _ _ _) ?_)
          have hP := (HZ3.out.1.row (.int .i64 ka) (.bool na) (.int .i64 ea) (.string sa) (.int .i64 0)).cells
          refine bodyPost_ret (results_res rfl _ _ rfl hP.1 hP.2.1 hP.2.2.1 hP.2.2.2.1 hP.2.2.2.2.1) rfl ?_
          exact ⟨by rw [EX.out], bel_row HZ3.out.2 (by omega) _⟩
      · have hk1 : ka = 1 := by rcases hr.2.2.1 with c | c; exact c; exact absurd (.inl c) hA
        subst hk1
        have hlt : ¬ (0 ≤ ea) := fun c => hA (.inr c)
        obtain ⟨hs, nk, -, -, l34, l1, hz, he⟩ := hr.tn rfl
        obtain ⟨hc, -⟩ := hr.2.2.2.1 rfl
        have hst := hr.2.1
        have EX : Hid (R = (na, (1, 0, tx (nt (drV mode na (vl (dl sa)) (-ea).toNat)), 0))) := by show _ = _; rw [ER]; unfold whX; rw [if_neg hA]
        have HD : Hid (∀ X, Calls Tryz.prog 92 #[.int .i64 mode, .bool na, .string sa, .int .i64 (-ea)] X fun e w' => e = .returned (.tuple #[.string (tx (nt (drV mode na (vl (dl sa)) (-ea).toNat))), .bool (drL (vl (dl sa)) (-ea).toNat)]) ∧ Below X.heap.size X w') := fun X => by
          have := l14Drop_any mode na (dl sa) (-ea) X hc (by omega) (by omega)
          rw [← hst] at this
          exact this
        have hwr : IntKind.i64.wrap (-ea) = -ea := by rw [IntKind.wrap_i64]; omega
        generalize tx (nt (drV mode na (vl (dl sa)) (-ea).toNat)) = T3 at *
        generalize drL (vl (dl sa)) (-ea).toNat = lo at *
        have hbr := build_res0 1 na 0 T3
        clear hA hr hm ER hs nk l34 l1 hz he hc hst
        go_wp2_with fail
        refine (HD.out _).mono ?_
        rintro e w3 ⟨rfl, hb3⟩
        have HS4 : Hid (S1 w w3 1 na ea sa) := HS3.out.next hb3
        clear hb3 HS3 HD a0 a1 a2 a3 a4
        obtain ⟨a0, a1, a2, a3, a4⟩ := HS4.out.1.cells
        go_wp2_with fail
        refine (l12Finite_any na T3 0 _).mono ?_
        rintro e w4 ⟨rfl, hb4⟩
        have HZ3 : Hid (At5 w4 (w.heap.size + 1) (.int .i64 0) (.bool false) (.int .i64 0) (.string { data := #[] }) (.int .i64 0) ∧ Below w.heap.size w w4) := HS4.out.end hb4
        clear hb4 HS4 a0 a1 a2 a3 a4
        go_wp2_with (refine wpList_store_row rfl 29 (.tmp 6) (.tmp 53) rfl (w.heap.size + 1) #[.int .i64 1, .bool na, .int .i64 0, .string T3, .int .i64 0] rfl rfl _ _ HZ3.out.1 (by kernel_rfl) rfl (one5 _ _ _ _ _) ?_)
        have hP := (HZ3.out.1.row (.int .i64 1) (.bool na) (.int .i64 0) (.string T3) (.int .i64 0)).cells
        refine bodyPost_ret (results_res rfl _ _ rfl hP.1 hP.2.1 hP.2.2.1 hP.2.2.2.1 hP.2.2.2.2.1) rfl ?_
        exact ⟨by rw [EX.out], bel_row HZ3.out.2 (by omega) _⟩
end Go.Proofs.YtnkoeidolmiheaaGreatDoor
namespace Go.Proofs.YtnkoeidolmiheaaGreatDoor
open Go.RowKit
set_option linter.unusedVariables false
set_option maxRecDepth 100000
theorem SU.a4 {w W : World} {ka : Int} {na : Bool} {ea : Int} {sa : ByteArray} {kb : Int} {nb : Bool} {eb : Int} {sb : ByteArray} (h : SU w W ka na ea sa kb nb eb sb) : At4r W w.heap.size (.int .i64 ka) (.bool na) (.int .i64 ea) (.string sa) := h.1
theorem SU.b4 {w W : World} {ka : Int} {na : Bool} {ea : Int} {sa : ByteArray} {kb : Int} {nb : Bool} {eb : Int} {sb : ByteArray} (h : SU w W ka na ea sa kb nb eb sb) : At4r W (w.heap.size + 1) (.int .i64 kb) (.bool nb) (.int .i64 eb) (.string sb) := h.2.1
theorem SU.end {w W W' : World} {ka : Int} {na : Bool} {ea : Int} {sa : ByteArray} {kb : Int} {nb : Bool} {eb : Int} {sb : ByteArray} (h : SU w W ka na ea sa kb nb eb sb) (hb : Below W.heap.size W W') : At5 W' (w.heap.size + 2) (.int .i64 0) (.bool false) (.int .i64 0) (.string { data := #[] }) (.int .i64 0) ∧ Below w.heap.size w W' := ⟨(h.next hb).2.2.1, (h.next hb).2.2.2.1⟩
theorem At5.set4 {w : World} {b : Nat} {x y z u v : Value} (h : At5 w b x y z u v) (v' : Value) : At5 (w.setCell ⟨b, 4, none⟩ v') b x y z u v' := by
  unfold At5 at *
  simp [World.setCell, Array.getElem?_modify, h]
theorem At5.far {w : World} {b c : Nat} {x y z u v : Value} (h : At5 w b x y z u v) (hc : c ≠ b) (i : Nat) (v' : Value) : At5 (w.setCell ⟨c, i, none⟩ v') b x y z u v := by
  unfold At5 at *
  simp [World.setCell, Array.getElem?_modify, h, hc]
theorem l11Shift_is (a : List Int) (n : Int) (w : World) (ha : Canon a) (la : a.length ≤ 200) (h0 : 0 ≤ n) (hn : a = [0] ∨ n ≤ 200) :
    Calls Tryz.prog 64 #[.string (tx a), .int .i64 n] w fun e w' => e = .returned (.string (tx (nt (vl a * 10 ^ n.toNat)))) ∧ Below w.heap.size w w' := by
  by_cases hz : a = [0]
  · subst hz
    have hb : ((tx [0]).toList == [48]) = true := by rw [tx_zero]; rfl
    have E : Hid (tx (nt (vl [0] * 10 ^ n.toNat)) = tx [0]) := by
      show _ = _
      rw [show vl [0] = 0 from rfl, Int.zero_mul, ← nt_of [0] 0 canon_zero rfl (by decide)]
    rw [E.out]
    clear E hn
    generalize tx [0] = T at *
    go_enter Tryz.func64, Tryz.ntmps64
    go_wp2
    go_ret
    exact ⟨rfl, Below.refl _ _⟩
  · have hn2 := hn.resolve_left hz
    have := l11Shift_all a n.toNat w ha la (by omega)
    rw [show ((n.toNat : Nat) : Int) = n by omega] at this
    refine this.mono ?_
    rintro e w' ⟨R, rfl, hR, -, hb⟩
    exact ⟨by rw [hR], hb⟩
end Go.Proofs.YtnkoeidolmiheaaGreatDoor
namespace Go.Proofs.YtnkoeidolmiheaaGreatDoor
open Go.RowKit
set_option linter.unusedVariables false
set_option maxRecDepth 100000
theorem l11Div_is (a b : List Int) (w : World) (ha : Canon a) (hb : Canon b) (la : a.length ≤ 200) (lb : b.length ≤ 200) (hpos : vl b ≠ 0) :
    Calls Tryz.prog 84 #[.string (tx a), .string (tx b)] w fun e w' => e = .returned (.tuple #[.string (tx (nt (vl a / vl b))), .string (tx (nt (vl a % vl b)))]) ∧ Below w.heap.size w w' := by
  have h0 := (vl_bd b hb.1).1
  refine (l11Div_any a b w ha hb (by omega) (by omega) (by omega)).mono ?_
  rintro e w' ⟨Q, R, rfl, hQ, hR, vQ, vR, lQ, lR, hbb⟩
  exact ⟨by rw [nt_of Q _ hQ vQ (by omega), nt_of R _ hR vR (by omega)], hbb⟩
theorem Rgn.z48 {f e : Int} {s : ByteArray} (h : Rgn f 1 e s) : (s.toList == [48]) = zB 1 s := by
  obtain ⟨hc, -⟩ := h.2.2.2.1 rfl
  have hs := h.2.1
  unfold zB
  rw [decide_eq_true (rfl : (1 : Int) = 1), Bool.true_and]
  by_cases c : vl (dl s) = 0
  · rw [decide_eq_true c, hs, canon_nought (dl s) hc c, tx_zero]; rfl
  · rw [decide_eq_false c, hs]
    exact tx_is0 (dl s) hc.1 (fun q => c (by rw [q]; rfl))
end Go.Proofs.YtnkoeidolmiheaaGreatDoor
