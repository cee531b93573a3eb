/-
  Quantize of the model, walked.
-/
import Derived.Test.YtcflomcankcggafGreatDoorWhj
import Derived.Test.YtcflomcankcggafGreatDoorDrawN
import Derived.Test.YtcflomcankcggafGreatDoorExi
namespace Go.Proofs.YtcflomcankcggafGreatDoor
open Go.RowKit
set_option linter.unusedVariables false
set_option maxRecDepth 100000
/-- One number's box and a result's. -/
abbrev s1W (w : World) (ka : Int) (na : Bool) (ea : Int) (sa : ByteArray) : World := (w.alloc (.cells #[.int .i64 ka, .bool na, .int .i64 ea, .string sa] 25)).alloc (.cells #[.int .i64 0, .bool false, .int .i64 0, .string { data := #[] }, .int .i64 0] 29)
/-- What lies in them. -/
def S1 (w W : World) (ka : Int) (na : Bool) (ea : Int) (sa : ByteArray) : Prop :=
  At4r W w.heap.size (.int .i64 ka) (.bool na) (.int .i64 ea) (.string sa) ∧ At5 W (w.heap.size + 1) (.int .i64 0) (.bool false) (.int .i64 0) (.string { data := #[] }) (.int .i64 0) ∧ Below w.heap.size w W ∧ w.heap.size + 1 < W.heap.size
theorem s1_new (w : World) (ka : Int) (na : Bool) (ea : Int) (sa : ByteArray) : S1 w (s1W w ka na ea sa) ka na ea sa := by
  unfold s1W
  have h1 := at4r_new w (.int .i64 ka) (.bool na) (.int .i64 ea) (.string sa)
  have z1 := new_size w (.cells #[.int .i64 ka, .bool na, .int .i64 ea, .string sa] 25)
  have b1 : Below w.heap.size w (w.alloc (.cells #[.int .i64 ka, .bool na, .int .i64 ea, .string sa] 25)) := (Below.refl _ _).alloc (Nat.le_refl _) _
  generalize w.alloc (.cells #[.int .i64 ka, .bool na, .int .i64 ea, .string sa] 25) = w1 at *
  have h2 := at5_new w1 (.int .i64 0) (.bool false) (.int .i64 0) (.string { data := #[] }) (.int .i64 0)
  have z2 := new_size w1 (.cells #[.int .i64 0, .bool false, .int .i64 0, .string { data := #[] }, .int .i64 0] 29)
  have b2 : Below w1.heap.size w1 (w1.alloc (.cells #[.int .i64 0, .bool false, .int .i64 0, .string { data := #[] }, .int .i64 0] 29)) := (Below.refl _ _).alloc (Nat.le_refl _) _
  rw [z1] at h2
  exact ⟨h1.next b2, h2, b1.trans (b2.mono b1.size), by omega⟩
theorem S1.next {w W W' : World} {ka : Int} {na : Bool} {ea : Int} {sa : ByteArray} (h : S1 w W ka na ea sa) (hb : Below W.heap.size W W') : S1 w W' ka na ea sa :=
  ⟨h.1.next hb, h.2.1.below hb h.2.1.lt, h.2.2.1.trans (hb.mono h.2.2.1.size), Nat.lt_of_lt_of_le h.2.2.2 hb.size⟩
theorem S1.alloc {w W : World} {ka : Int} {na : Bool} {ea : Int} {sa : ByteArray} (h : S1 w W ka na ea sa) (o : Obj) : S1 w (W.alloc o) ka na ea sa := h.next ((Below.refl _ _).alloc (Nat.le_refl _) _)
theorem S1.end {w W W' : World} {ka : Int} {na : Bool} {ea : Int} {sa : ByteArray} (h : S1 w W ka na ea sa) (hb : Below W.heap.size W W') : At5 W' (w.heap.size + 1) (.int .i64 0) (.bool false) (.int .i64 0) (.string { data := #[] }) (.int .i64 0) ∧ Below w.heap.size w W' := ⟨(h.next hb).2.1, (h.next hb).2.2.1⟩
theorem tx_00 : tx (nt 0) = { data := #[48] } := by
  rw [← nt_of [0] 0 canon_zero rfl (by decide)]
  apply ByteArray.ext; rw [tx_data]; rfl
set_option maxRecDepth 100000 in
theorem l14Drop_any (mode : Int) (neg : Bool) (ds : List Int) (k : Int) (w : World) (hc : Canon ds) (hl : ds.length ≤ 100) (hk : 0 ≤ k) :
    Calls Tryz.prog 93 #[.int .i64 mode, .bool neg, .string (tx ds), .int .i64 k] w fun e w' => e = .returned (.tuple #[.string (tx (nt (drV mode neg (vl ds) k.toNat))), .bool (drL (vl ds) k.toNat)]) ∧ Below w.heap.size w w' := by
  have hb := vl_bd ds hc.1
  by_cases h2 : 200 < k
  · by_cases hz : ds = [0]
    · subst hz
      have hz0 : ((tx [0]).toList == [48]) = true := by rw [show tx [0] = { data := #[48] } by apply ByteArray.ext; rw [tx_data]; rfl, ByteArray.toList_eq]; rfl
      have e0 : vl [0] = 0 := rfl
      have E : Hid (tx (nt (drV mode neg (vl [0]) k.toNat)) = { data := #[48] } ∧ drL (vl [0]) k.toNat = false) := by
        rw [e0]
        obtain ⟨a, b⟩ := rnd_zero mode neg (min k.toNat 200)
        exact ⟨by unfold drV; rw [a]; exact tx_00, b⟩
      rw [E.out.1, E.out.2]
      clear E hb hc hl e0
      generalize tx [0] = T at *
      go_enter Tryz.func93, Tryz.ntmps93
      go_wp2
      go_ret2
      exact ⟨rfl, Below.refl _ _⟩
    · have hpos : 0 < vl ds := by
        have : vl ds ≠ 0 := fun c => hz (canon_nought ds hc c)
        omega
      obtain ⟨x, y⟩ := drop_far mode neg (vl ds) k.toNat hpos (Int.lt_of_lt_of_le hb.2 (pow_mono _ _ hl)) (by omega)
      have HR : Hid (∀ X, Calls Tryz.prog 101 #[.int .i64 mode, .bool neg, .string { data := #[49] }, .int .i64 200, .bool true] X fun e w' => e = .returned (.tuple #[.string (tx (nt (rndV mode neg 1 200 true))), .bool true]) ∧ Below X.heap.size X w') := fun X => by
        have := l12Round_any mode neg [1] 200 true X (canon_one 1 (by decide) (by decide)) (by decide) (by decide)
        rw [tx_1] at this
        exact this
      rw [x, y]
      have hz0 := tx_is0 ds hc.1 hz
      generalize tx (nt (rndV mode neg 1 200 true)) = T3 at *
      generalize tx ds = T at *
      clear x y hpos hb hc hl hz
      go_enter Tryz.func93, Tryz.ntmps93
      go_wp2_with fail
      refine (HR.out _).mono ?_
      rintro e w1 ⟨rfl, hb1⟩
      go_wp2
      go_ret2
      exact ⟨rfl, hb1⟩
  · have E : Hid (drV mode neg (vl ds) k.toNat = rndV mode neg (vl ds) k.toNat false ∧ drL (vl ds) k.toNat = rndL (vl ds) k.toNat false) := by
      unfold drV drL; rw [show min k.toNat 200 = k.toNat by omega]; exact ⟨rfl, rfl⟩
    rw [E.out.1, E.out.2]
    have HR : Hid (∀ X, Calls Tryz.prog 101 #[.int .i64 mode, .bool neg, .string (tx ds), .int .i64 k, .bool false] X fun e w' => e = .returned (.tuple #[.string (tx (nt (rndV mode neg (vl ds) k.toNat false))), .bool (rndL (vl ds) k.toNat false)]) ∧ Below X.heap.size X w') := fun X => by
      have := l12Round_any mode neg ds k.toNat false X hc (by omega) (by omega)
      rw [show ((k.toNat : Nat) : Int) = k by omega] at this
      exact this
    generalize tx (nt (rndV mode neg (vl ds) k.toNat false)) = T3 at *
    generalize rndL (vl ds) k.toNat false = lo at *
    generalize tx ds = T at *
    clear E hb hc hl
    go_enter Tryz.func93, Tryz.ntmps93
    go_wp2_with fail
    refine (HR.out _).mono ?_
    rintro e w1 ⟨rfl, hb1⟩
    go_wp2
    go_ret2
    exact ⟨rfl, hb1⟩
end Go.Proofs.YtcflomcankcggafGreatDoor
namespace Go.Proofs.YtcflomcankcggafGreatDoor
open Go.RowKit
set_option linter.unusedVariables false
set_option maxRecDepth 100000
theorem SU.a4 {w W : World} {ka : Int} {na : Bool} {ea : Int} {sa : ByteArray} {kb : Int} {nb : Bool} {eb : Int} {sb : ByteArray} (h : SU w W ka na ea sa kb nb eb sb) : At4r W w.heap.size (.int .i64 ka) (.bool na) (.int .i64 ea) (.string sa) := h.1
theorem SU.b4 {w W : World} {ka : Int} {na : Bool} {ea : Int} {sa : ByteArray} {kb : Int} {nb : Bool} {eb : Int} {sb : ByteArray} (h : SU w W ka na ea sa kb nb eb sb) : At4r W (w.heap.size + 1) (.int .i64 kb) (.bool nb) (.int .i64 eb) (.string sb) := h.2.1
theorem SU.end {w W W' : World} {ka : Int} {na : Bool} {ea : Int} {sa : ByteArray} {kb : Int} {nb : Bool} {eb : Int} {sb : ByteArray} (h : SU w W ka na ea sa kb nb eb sb) (hb : Below W.heap.size W W') : At5 W' (w.heap.size + 2) (.int .i64 0) (.bool false) (.int .i64 0) (.string { data := #[] }) (.int .i64 0) ∧ Below w.heap.size w W' := ⟨(h.next hb).2.2.1, (h.next hb).2.2.2.1⟩
theorem At5.set4 {w : World} {b : Nat} {x y z u v : Value} (h : At5 w b x y z u v) (v' : Value) : At5 (w.setCell ⟨b, 4, none⟩ v') b x y z u v' := by
  unfold At5 at *
  simp [World.setCell, Array.getElem?_modify, h]
theorem At5.far {w : World} {b c : Nat} {x y z u v : Value} (h : At5 w b x y z u v) (hc : c ≠ b) (i : Nat) (v' : Value) : At5 (w.setCell ⟨c, i, none⟩ v') b x y z u v := by
  unfold At5 at *
  simp [World.setCell, Array.getElem?_modify, h, hc]
theorem l11Shift_is (a : List Int) (n : Int) (w : World) (ha : Canon a) (la : a.length ≤ 200) (h0 : 0 ≤ n) (hn : a = [0] ∨ n ≤ 200) :
    Calls Tryz.prog 80 #[.string (tx a), .int .i64 n] w fun e w' => e = .returned (.string (tx (nt (vl a * 10 ^ n.toNat)))) ∧ Below w.heap.size w w' := by
  by_cases hz : a = [0]
  · subst hz
    have hb : ((tx [0]).toList == [48]) = true := by rw [tx_zero]; rfl
    have E : Hid (tx (nt (vl [0] * 10 ^ n.toNat)) = tx [0]) := by
      show _ = _
      rw [show vl [0] = 0 from rfl, Int.zero_mul, ← nt_of [0] 0 canon_zero rfl (by decide)]
    rw [E.out]
    clear E hn
    generalize tx [0] = T at *
    go_enter Tryz.func80, Tryz.ntmps80
    go_wp2
    go_ret
    exact ⟨rfl, Below.refl _ _⟩
  · have hn2 := hn.resolve_left hz
    have := l11Shift_all a n.toNat w ha la (by omega)
    rw [show ((n.toNat : Nat) : Int) = n by omega] at this
    refine this.mono ?_
    rintro e w' ⟨R, rfl, hR, -, hb⟩
    exact ⟨by rw [hR], hb⟩
set_option maxRecDepth 100000 in
set_option maxHeartbeats 4000000 in
theorem sQuantize_any (f mode : Int) (ka : Int) (na : Bool) (ea : Int) (sa : ByteArray) (kb : Int) (nb : Bool) (eb : Int) (sb : ByteArray) (w : World) (hsa : sa.size ≤ 4611686018427387904) (hsb : sb.size ≤ 4611686018427387904) :
    Calls Tryz.prog 33 #[.int .i64 f, .int .i64 mode, numV ka na ea sa, numV kb nb eb sb] w fun x w' => x = .returned (rsD (qzR f mode ka na ea sa kb nb eb sb).1 (qzR f mode ka na ea sa kb nb eb sb).2) ∧ Below w.heap.size w w' := by
  have HS : Hid (SU w (suW w ka na ea sa kb nb eb sb) ka na ea sa kb nb eb sb) := su_new w ka na ea sa kb nb eb sb
  have HOk : Hid (∀ (g : Nat) X, g < X.heap.size → NRw X g 2 (tw2 ka kb) (tw2 na nb) (tw2 ea eb) (tw2 sa sb) → Calls Tryz.prog 42 #[.int .i64 f, .int .i64 mode, .slice (some ⟨g, 0, none⟩) 2 2] X fun x w' => x = .returned (.bool (rightB f mode 2 (tw2 ka kb) (tw2 na nb) (tw2 ea eb) (tw2 sa sb))) ∧ Below X.heap.size X w') := fun g X hg hr =>
    l13Ok_any f mode 2 g (tw2 ka kb) (tw2 na nb) (tw2 ea eb) (tw2 sa sb) X (by decide) hg hr (fun i hi => by match i, hi with
      | 0, _ => exact hsa
      | 1, _ => exact hsb)
  have HSp : Hid (∀ (g : Nat) X, g < X.heap.size → NRw X g 2 (tw2 ka kb) (tw2 na nb) (tw2 ea eb) (tw2 sa sb) → Calls Tryz.prog 43 #[.slice (some ⟨g, 0, none⟩) 2 2] X fun x w' => x = .returned (.tuple #[rsV 3 false 0 { data := #[] } (spF 2 (tw2 ka kb)), .bool (spB 2 (tw2 ka kb))]) ∧ Below X.heap.size X w') := fun g X hg hr => l13Special_any 2 g _ _ _ _ X (by decide) hg hr
  obtain ⟨R, hR⟩ : ∃ R, qzR f mode ka na ea sa kb nb eb sb = R := ⟨_, rfl⟩
  have HR : Hid (qzR f mode ka na ea sa kb nb eb sb = R) := hR
  rw [hR]
  clear hR hsa hsb
  have hb0 := build_res00
  go_enter Tryz.func33, Tryz.ntmps33
  have hsz : (suW w ka na ea sa kb nb eb sb).heap.size = w.heap.size + 1 + 1 + 1 := by simp
  have hg0 := heap_at (suW w ka na ea sa kb nb eb sb) (.cells #[.int .i64 ka, .bool na, .int .i64 ea, .string sa, .int .i64 kb, .bool nb, .int .i64 eb, .string sb] 25)
  rw [hsz] at hg0
  have hsz4 : ((suW w ka na ea sa kb nb eb sb).alloc (.cells #[.int .i64 ka, .bool na, .int .i64 ea, .string sa, .int .i64 kb, .bool nb, .int .i64 eb, .string sb] 25)).heap.size = w.heap.size + 1 + 1 + 1 + 1 := by simp
  have HL : Hid (NRw ((suW w ka na ea sa kb nb eb sb).alloc (.cells #[.int .i64 ka, .bool na, .int .i64 ea, .string sa, .int .i64 kb, .bool nb, .int .i64 eb, .string sb] 25)) (w.heap.size + 1 + 1 + 1) 2 (tw2 ka kb) (tw2 na nb) (tw2 ea eb) (tw2 sa sb) ∧ w.heap.size + 1 + 1 + 1 < ((suW w ka na ea sa kb nb eb sb).alloc (.cells #[.int .i64 ka, .bool na, .int .i64 ea, .string sa, .int .i64 kb, .bool nb, .int .i64 eb, .string sb] 25)).heap.size) := ⟨nrw2 hg0, by rw [hsz4]; omega⟩
  clear hsz hg0 hsz4
  go_wp2_with fail
  refine (HOk.out (w.heap.size + 1 + 1 + 1) _ HL.out.2 HL.out.1).mono ?_
  rintro e w1 ⟨rfl, hb1⟩
  have HS1 : Hid (SU w w1 ka na ea sa kb nb eb sb) := (HS.out.alloc _).next hb1
  have HL1 : Hid (NRw w1 (w.heap.size + 1 + 1 + 1) 2 (tw2 ka kb) (tw2 na nb) (tw2 ea eb) (tw2 sa sb) ∧ w.heap.size + 1 + 1 + 1 < w1.heap.size) := ⟨HL.out.1.below hb1 HL.out.2, Nat.lt_of_lt_of_le HL.out.2 hb1.size⟩
  clear hb1 HL HS HOk
  cases hO : rightB f mode 2 (tw2 ka kb) (tw2 na nb) (tw2 ea eb) (tw2 sa sb) with
  | false =>
    have ER : Hid (R = (false, (0, 0, { data := #[] }, 0))) := by show _ = _; rw [← HR.out]; unfold qzR ofR; rw [hO]; rfl
    have HZ3 : Hid (At5 w1 (w.heap.size + 2) (.int .i64 0) (.bool false) (.int .i64 0) (.string { data := #[] }) (.int .i64 0) ∧ Below w.heap.size w w1) := ⟨HS1.out.2.2.1, HS1.out.2.2.2.1⟩
    clear hO HSp HS1 HL1 HR
    go_wp2_with (refine wpList_store_row rfl 29 (.tmp 8) (.tmp 26) rfl (w.heap.size + 2) #[.int .i64 0, .bool false, .int .i64 0, .string { data := #[] }, .int .i64 0] rfl rfl _ _ HZ3.out.1 (by kernel_rfl) rfl (one5 _ _ _ _ _) ?_)
    have hP := (HZ3.out.1.row (.int .i64 0) (.bool false) (.int .i64 0) (.string { data := #[] }) (.int .i64 0)).cells
    refine bodyPost_ret (results_res rfl _ _ rfl hP.1 hP.2.1 hP.2.2.1 hP.2.2.2.1 hP.2.2.2.2.1) rfl ?_
    exact ⟨by rw [ER.out], bel_row HZ3.out.2 (by omega) _⟩
  | true =>
    go_wp2_with fail
    refine (HSp.out (w.heap.size + 1 + 1 + 1) _ HL1.out.2 HL1.out.1).mono ?_
    rintro e w2 ⟨rfl, hb2⟩
    have HS2 : Hid (SU w w2 ka na ea sa kb nb eb sb) := HS1.out.next hb2
    clear hb2 HL1 HS1 HSp hb0
    cases hB : spB 2 (tw2 ka kb) with
    | true =>
      have ER : Hid (R = (false, (3, 0, { data := #[] }, spF 2 (tw2 ka kb)))) := by show _ = _; rw [← HR.out]; unfold qzR ofR; rw [hO, hB]; rfl
      clear hO hB HR
      generalize spF 2 (tw2 ka kb) = FL at *
      have HZ3 : Hid (At5 (w2.alloc (.cells #[.int .i64 3, .bool false, .int .i64 0, .string { data := #[] }, .int .i64 FL] 29)) (w.heap.size + 2) (.int .i64 0) (.bool false) (.int .i64 0) (.string { data := #[] }) (.int .i64 0) ∧ Below w.heap.size w (w2.alloc (.cells #[.int .i64 3, .bool false, .int .i64 0, .string { data := #[] }, .int .i64 FL] 29))) := ⟨(HS2.out.alloc _).2.2.1, (HS2.out.alloc _).2.2.2.1⟩
      go_wp2_with (refine wpList_store_row rfl 29 (.tmp 8) (.tmp 33) rfl (w.heap.size + 2) #[.int .i64 3, .bool false, .int .i64 0, .string { data := #[] }, .int .i64 FL] rfl rfl _ _ HZ3.out.1 (by kernel_rfl) rfl (one5 _ _ _ _ _) ?_)
      have hP := (HZ3.out.1.row (.int .i64 3) (.bool false) (.int .i64 0) (.string { data := #[] }) (.int .i64 FL)).cells
      refine bodyPost_ret (results_res rfl _ _ rfl hP.1 hP.2.1 hP.2.2.1 hP.2.2.2.1 hP.2.2.2.2.1) rfl ?_
      exact ⟨by rw [ER.out], bel_row HZ3.out.2 (by omega) _⟩
    | false =>
      have ER : R = qzX f mode ka na ea sa kb eb := by rw [← HR.out]; unfold qzR ofR; rw [hO, hB]; rfl
      have hrg := rgn_two hO hB
      have HSx : Hid (SU w (w2.alloc (.cells #[.int .i64 3, .bool false, .int .i64 0, .string { data := #[] }, .int .i64 (spF 2 (tw2 ka kb))] 29)) ka na ea sa kb nb eb sb) := HS2.out.alloc _
      generalize spF 2 (tw2 ka kb) = FL at *
      clear hO hB HR HS2
      obtain ⟨hm, hr, hrb⟩ := hrg
      obtain ⟨a0, a1, a2, a3, a4⟩ := HSx.out.a4.cells
      obtain ⟨c0, c1, c2, c3, c4⟩ := HSx.out.b4.cells
      unfold qzX at ER
      by_cases hA : ka = 2
      · by_cases hB : kb = 2
        · rw [if_pos ⟨hA, hB⟩] at ER
          have EX : Hid (R = (na, (2, 0, { data := #[] }, 0))) := ER
          subst hA hB
          clear hr hrb hm ER
          go_wp2_with fail
          refine (l13Inf_any na _).mono ?_
          rintro e w4 ⟨rfl, hb4⟩
          have HZ3 : Hid (At5 w4 (w.heap.size + 2) (.int .i64 0) (.bool false) (.int .i64 0) (.string { data := #[] }) (.int .i64 0) ∧ Below w.heap.size w w4) := HSx.out.end hb4
          clear hb4 HSx a0 a1 a2 a3 a4 c0 c1 c2 c3 c4
          go_wp2_with (refine wpList_store_row rfl 29 (.tmp 8) (.tmp 44) rfl (w.heap.size + 2) #[.int .i64 2, .bool na, .int .i64 0, .string { data := #[] }, .int .i64 0] rfl rfl _ _ HZ3.out.1 (by kernel_rfl) rfl (one5 _ _ _ _ _) ?_)
          have hP := (HZ3.out.1.row (.int .i64 2) (.bool na) (.int .i64 0) (.string { data := #[] }) (.int .i64 0)).cells
          refine bodyPost_ret (results_res rfl _ _ rfl hP.1 hP.2.1 hP.2.2.1 hP.2.2.2.1 hP.2.2.2.2.1) rfl ?_
          exact ⟨by rw [EX.out], bel_row HZ3.out.2 (by omega) _⟩
        · rw [if_neg (fun c => hB c.2), if_pos (.inl hA)] at ER
          have EX : Hid (R = (false, (3, 0, { data := #[] }, 1))) := ER
          have hkb : (kb == 2) = false := beq_eq_false_iff_ne.2 hB
          subst hA
          clear hr hrb hm ER hB
          go_wp2_with fail
          refine (l13Invalid_any _).mono ?_
          rintro e w4 ⟨rfl, hb4⟩
          have HZ3 : Hid (At5 w4 (w.heap.size + 2) (.int .i64 0) (.bool false) (.int .i64 0) (.string { data := #[] }) (.int .i64 0) ∧ Below w.heap.size w w4) := HSx.out.end hb4
          clear hb4 HSx a0 a1 a2 a3 a4 c0 c1 c2 c3 c4
          go_wp2_with (refine wpList_store_row rfl 29 (.tmp 8) (.tmp 53) rfl (w.heap.size + 2) #[.int .i64 3, .bool false, .int .i64 0, .string { data := #[] }, .int .i64 1] rfl rfl _ _ HZ3.out.1 (by kernel_rfl) rfl (one5 _ _ _ _ _) ?_)
          have hP := (HZ3.out.1.row (.int .i64 3) (.bool false) (.int .i64 0) (.string { data := #[] }) (.int .i64 1)).cells
          refine bodyPost_ret (results_res rfl _ _ rfl hP.1 hP.2.1 hP.2.2.1 hP.2.2.2.1 hP.2.2.2.2.1) rfl ?_
          exact ⟨by rw [EX.out], bel_row HZ3.out.2 (by omega) _⟩
      · have hk1 : ka = 1 := hr.2.2.1.resolve_right hA
        subst hk1
        rw [if_neg (fun c => hA c.1)] at ER
        by_cases hB : kb = 2
        · rw [if_pos (.inr hB)] at ER
          have EX : Hid (R = (false, (3, 0, { data := #[] }, 1))) := ER
          subst hB
          clear hr hrb hm ER hA
          go_wp2_with fail
          refine (l13Invalid_any _).mono ?_
          rintro e w4 ⟨rfl, hb4⟩
          have HZ3 : Hid (At5 w4 (w.heap.size + 2) (.int .i64 0) (.bool false) (.int .i64 0) (.string { data := #[] }) (.int .i64 0) ∧ Below w.heap.size w w4) := HSx.out.end hb4
          clear hb4 HSx a0 a1 a2 a3 a4 c0 c1 c2 c3 c4
          go_wp2_with (refine wpList_store_row rfl 29 (.tmp 8) (.tmp 53) rfl (w.heap.size + 2) #[.int .i64 3, .bool false, .int .i64 0, .string { data := #[] }, .int .i64 1] rfl rfl _ _ HZ3.out.1 (by kernel_rfl) rfl (one5 _ _ _ _ _) ?_)
          have hP := (HZ3.out.1.row (.int .i64 3) (.bool false) (.int .i64 0) (.string { data := #[] }) (.int .i64 1)).cells
          refine bodyPost_ret (results_res rfl _ _ rfl hP.1 hP.2.1 hP.2.2.1 hP.2.2.2.1 hP.2.2.2.2.1) rfl ?_
          exact ⟨by rw [EX.out], bel_row HZ3.out.2 (by omega) _⟩
        · have hkb1 : kb = 1 := hrb.2.2.1.resolve_right hB
          subst hkb1
          rw [if_neg (fun c => c.elim hA hB)] at ER
          clear hA hB
          obtain ⟨hs, nk, v0, -, l34, l1, hz, he⟩ := hr.tn rfl
          obtain ⟨-, -, -, -, -, -, -, heb⟩ := hrb.tn rfl
          obtain ⟨hc, hlp, -, -⟩ := hr.2.2.2.1 rfl
          have hst := hr.2.1
          have hL := lims f hr.1
          have hbd := vl_bd (dl sa) hc.1
          have hP : 0 ≤ limP f ∧ limP f ≤ 34 := by omega
          have HLm : Hid (∀ X, Calls Tryz.prog 76 #[.int .i64 f] X fun r w' => r = .returned (.tuple #[.int .i64 (limP f), .int .i64 (limL f), .int .i64 (limH f)]) ∧ w' = X) := fun X => Limits_any f X
          generalize limL f = LL at *
          generalize limH f = HH at *
          have hwe : IntKind.i64.wrap (ea - eb) = ea - eb := by rw [IntKind.wrap_i64]; omega
          have hwf : IntKind.i64.wrap (eb - ea) = eb - ea := by rw [IntKind.wrap_i64]; omega
          have hwg : IntKind.i64.wrap ((sa.size : Int) + ea) = sa.size + ea := by rw [IntKind.wrap_i64]; omega
          have hwh : IntKind.i64.wrap ((sa.size : Int) + ea - eb) = sa.size + ea - eb := by rw [IntKind.wrap_i64]; omega
          by_cases hge : eb ≤ ea
          · by_cases hbig : vl (dl sa) ≠ 0 ∧ limP f < (dl sa).length + (ea - eb)
            · rw [if_pos hbig] at ER
              have EX : Hid (R = (false, (3, 0, { data := #[] }, 1))) := ER
              have hz0 : (sa.toList == [48]) = false := by
                rw [hst]; exact tx_is0 (dl sa) hc.1 (fun c => hbig.1 (by rw [c]; rfl))
              have hgt : limP f < (sa.size : Int) + ea - eb := by have := hbig.2; omega
              clear hr hrb hm hs nk v0 l34 l1 hz he heb hc hlp hst hL hbd hP hbig ER
              generalize limP f = P at *
              go_wp2_with fail
              refine (HLm.out _).mono ?_
              rintro e wx ⟨rfl, rfl⟩
              clear HLm
              go_wp2_with fail
              refine (l13Invalid_any _).mono ?_
              rintro e w4 ⟨rfl, hb4⟩
              have HZ3 : Hid (At5 w4 (w.heap.size + 2) (.int .i64 0) (.bool false) (.int .i64 0) (.string { data := #[] }) (.int .i64 0) ∧ Below w.heap.size w w4) := HSx.out.end hb4
              clear hb4 HSx a0 a1 a2 a3 a4 c0 c1 c2 c3 c4
              go_wp2_with (refine wpList_store_row rfl 29 (.tmp 8) (.tmp 81) rfl (w.heap.size + 2) #[.int .i64 3, .bool false, .int .i64 0, .string { data := #[] }, .int .i64 1] rfl rfl _ _ HZ3.out.1 (by kernel_rfl) rfl (one5 _ _ _ _ _) ?_)
              have hP := (HZ3.out.1.row (.int .i64 3) (.bool false) (.int .i64 0) (.string { data := #[] }) (.int .i64 1)).cells
              refine bodyPost_ret (results_res rfl _ _ rfl hP.1 hP.2.1 hP.2.2.1 hP.2.2.2.1 hP.2.2.2.2.1) rfl ?_
              exact ⟨by rw [EX.out], bel_row HZ3.out.2 (by omega) _⟩
            · rw [if_neg hbig, if_pos hge] at ER
              have HSh : Hid (∀ X, Calls Tryz.prog 80 #[.string sa, .int .i64 (ea - eb)] X fun e w' => e = .returned (.string (tx (nt (vl (dl sa) * 10 ^ (ea - eb).toNat)))) ∧ Below X.heap.size X w') := fun X => by
                have := l11Shift_is (dl sa) (ea - eb) X hc (by omega) (by omega) (by
                  by_cases c : vl (dl sa) = 0
                  · exact .inl (canon_nought (dl sa) hc c)
                  · have : ¬ limP f < (dl sa).length + (ea - eb) := fun q => hbig ⟨c, q⟩
                    exact .inr (by omega))
                rw [← hst] at this
                exact this
              have hlen : ¬ (limP f < ((tx (nt (vl (dl sa) * 10 ^ (ea - eb).toNat))).size : Int)) := by
                rw [tx_size]
                by_cases c : vl (dl sa) = 0
                · rw [c, Int.zero_mul, ← nt_of [0] 0 canon_zero rfl (by decide)]
                  simp
                  omega
                · have hr1 : ¬ limP f < (dl sa).length + (ea - eb) := fun q => hbig ⟨c, q⟩
                  have h1 := Int.mul_lt_mul_of_pos_right hbd.2 (ten_pos (ea - eb).toNat)
                  rw [← Int.pow_add] at h1
                  have h2 := nt_short (vl (dl sa) * 10 ^ (ea - eb).toNat) ((dl sa).length + (ea - eb).toNat) (Int.mul_nonneg v0 (Int.le_of_lt (ten_pos _))) h1 (by omega) (by omega)
                  omega
              have hcond : (sa.toList == [48]) = true ∨ ((sa.toList == [48]) = false ∧ ¬ (limP f < (sa.size : Int) + ea - eb)) := by
                by_cases c : vl (dl sa) = 0
                · refine .inl ?_
                  rw [hst, canon_nought (dl sa) hc c, tx_zero]; rfl
                · refine .inr ⟨by rw [hst]; exact tx_is0 (dl sa) hc.1 (fun q => c (by rw [q]; rfl)), fun q => hbig ⟨c, by omega⟩⟩
              obtain ⟨T3, hT3⟩ : ∃ T, tx (nt (vl (dl sa) * 10 ^ (ea - eb).toNat)) = T := ⟨_, rfl⟩
              rw [hT3] at ER HSh hlen
              have EX : Hid (R = (na, (1, eb, T3, 0))) := ER
              clear hr hrb hm hs nk v0 l34 l1 hz he heb hc hlp hst hL hbd hP hbig ER hT3
              generalize limP f = P at *
              rcases hcond with hz0 | ⟨hz0, hgt⟩
              · go_wp2_with fail
                refine (HLm.out _).mono ?_
                rintro e wx ⟨rfl, rfl⟩
                clear HLm
                go_wp2_with fail
                refine (HSh.out _).mono ?_
                rintro e w4 ⟨rfl, hb4⟩
                have HSy : Hid (SU w w4 1 na ea sa 1 nb eb sb) := HSx.out.next hb4
                clear hb4 HSx HSh a0 a1 a2 a3 a4 c0 c1 c2 c3 c4
                obtain ⟨a0, a1, a2, a3, a4⟩ := HSy.out.a4.cells
                obtain ⟨c0, c1, c2, c3, c4⟩ := HSy.out.b4.cells
                have hbr := build_res0 1 na eb T3
                go_wp2_with fail
                refine (l12Finite_any na T3 eb _).mono ?_
                rintro e w5 ⟨rfl, hb5⟩
                have hq5 := HSy.out.next hb5
                have HQ5 : Hid (SU w w5 1 na ea sa 1 nb eb sb) := hq5
                have hb6 : Below w5.heap.size w5 (w5.alloc (.cells #[.int .i64 1, .bool na, .int .i64 eb, .string T3, .int .i64 0] 29)) := (Below.refl _ _).alloc (Nat.le_refl _) _
                have HZ6 : Hid (At5 (w5.alloc (.cells #[.int .i64 1, .bool na, .int .i64 eb, .string T3, .int .i64 0] 29)) (w.heap.size + 2) (.int .i64 0) (.bool false) (.int .i64 0) (.string { data := #[] }) (.int .i64 0) ∧ Below w.heap.size w (w5.alloc (.cells #[.int .i64 1, .bool na, .int .i64 eb, .string T3, .int .i64 0] 29)) ∧ At5 (w5.alloc (.cells #[.int .i64 1, .bool na, .int .i64 eb, .string T3, .int .i64 0] 29)) w5.heap.size (.int .i64 1) (.bool na) (.int .i64 eb) (.string T3) (.int .i64 0) ∧ w.heap.size + 2 < w5.heap.size) := ⟨(hq5.end hb6).1, (hq5.end hb6).2, at5_new w5 _ _ _ _ _, hq5.2.2.2.2⟩
                clear hb5 hb6 hq5 HSy a0 a1 a2 a3 a4 c0 c1 c2 c3 c4
                obtain ⟨g0, g1, g2, g3, g4, -⟩ := HZ6.out.2.2.1.cells
                have HZ7 : Hid (At5 (w5.alloc (.cells #[.int .i64 1, .bool na, .int .i64 eb, .string T3, .int .i64 0] 29)) (w.heap.size + 2) (.int .i64 0) (.bool false) (.int .i64 0) (.string { data := #[] }) (.int .i64 0) ∧ Below w.heap.size w (w5.alloc (.cells #[.int .i64 1, .bool na, .int .i64 eb, .string T3, .int .i64 0] 29))) := ⟨HZ6.out.1, HZ6.out.2.1⟩
                clear HZ6
                go_wp2_with (refine wpList_store_row rfl 29 (.tmp 8) (.tmp 116) rfl (w.heap.size + 2) #[.int .i64 1, .bool na, .int .i64 eb, .string T3, .int .i64 0] rfl rfl _ _ HZ7.out.1 (by kernel_rfl) rfl (one5 _ _ _ _ _) ?_)
                have hP := (HZ7.out.1.row (.int .i64 1) (.bool na) (.int .i64 eb) (.string T3) (.int .i64 0)).cells
                refine bodyPost_ret (results_res rfl _ _ rfl hP.1 hP.2.1 hP.2.2.1 hP.2.2.2.1 hP.2.2.2.2.1) rfl ?_
                exact ⟨by rw [EX.out], bel_row HZ7.out.2 (by omega) _⟩
              · go_wp2_with fail
                refine (HLm.out _).mono ?_
                rintro e wx ⟨rfl, rfl⟩
                clear HLm
                go_wp2_with fail
                refine (HSh.out _).mono ?_
                rintro e w4 ⟨rfl, hb4⟩
                have HSy : Hid (SU w w4 1 na ea sa 1 nb eb sb) := HSx.out.next hb4
                clear hb4 HSx HSh a0 a1 a2 a3 a4 c0 c1 c2 c3 c4
                obtain ⟨a0, a1, a2, a3, a4⟩ := HSy.out.a4.cells
                obtain ⟨c0, c1, c2, c3, c4⟩ := HSy.out.b4.cells
                have hbr := build_res0 1 na eb T3
                go_wp2_with fail
                refine (l12Finite_any na T3 eb _).mono ?_
                rintro e w5 ⟨rfl, hb5⟩
                have hq5 := HSy.out.next hb5
                have HQ5 : Hid (SU w w5 1 na ea sa 1 nb eb sb) := hq5
                have hb6 : Below w5.heap.size w5 (w5.alloc (.cells #[.int .i64 1, .bool na, .int .i64 eb, .string T3, .int .i64 0] 29)) := (Below.refl _ _).alloc (Nat.le_refl _) _
                have HZ6 : Hid (At5 (w5.alloc (.cells #[.int .i64 1, .bool na, .int .i64 eb, .string T3, .int .i64 0] 29)) (w.heap.size + 2) (.int .i64 0) (.bool false) (.int .i64 0) (.string { data := #[] }) (.int .i64 0) ∧ Below w.heap.size w (w5.alloc (.cells #[.int .i64 1, .bool na, .int .i64 eb, .string T3, .int .i64 0] 29)) ∧ At5 (w5.alloc (.cells #[.int .i64 1, .bool na, .int .i64 eb, .string T3, .int .i64 0] 29)) w5.heap.size (.int .i64 1) (.bool na) (.int .i64 eb) (.string T3) (.int .i64 0) ∧ w.heap.size + 2 < w5.heap.size) := ⟨(hq5.end hb6).1, (hq5.end hb6).2, at5_new w5 _ _ _ _ _, hq5.2.2.2.2⟩
                clear hb5 hb6 hq5 HSy a0 a1 a2 a3 a4 c0 c1 c2 c3 c4
                obtain ⟨g0, g1, g2, g3, g4, -⟩ := HZ6.out.2.2.1.cells
                have HZ7 : Hid (At5 (w5.alloc (.cells #[.int .i64 1, .bool na, .int .i64 eb, .string T3, .int .i64 0] 29)) (w.heap.size + 2) (.int .i64 0) (.bool false) (.int .i64 0) (.string { data := #[] }) (.int .i64 0) ∧ Below w.heap.size w (w5.alloc (.cells #[.int .i64 1, .bool na, .int .i64 eb, .string T3, .int .i64 0] 29))) := ⟨HZ6.out.1, HZ6.out.2.1⟩
                clear HZ6
                go_wp2_with (refine wpList_store_row rfl 29 (.tmp 8) (.tmp 116) rfl (w.heap.size + 2) #[.int .i64 1, .bool na, .int .i64 eb, .string T3, .int .i64 0] rfl rfl _ _ HZ7.out.1 (by kernel_rfl) rfl (one5 _ _ _ _ _) ?_)
                have hP := (HZ7.out.1.row (.int .i64 1) (.bool na) (.int .i64 eb) (.string T3) (.int .i64 0)).cells
                refine bodyPost_ret (results_res rfl _ _ rfl hP.1 hP.2.1 hP.2.2.1 hP.2.2.2.1 hP.2.2.2.2.1) rfl ?_
                exact ⟨by rw [EX.out], bel_row HZ7.out.2 (by omega) _⟩
          · have hbig : ¬ (vl (dl sa) ≠ 0 ∧ limP f < (dl sa).length + (ea - eb)) := fun c => by have := c.2; omega
            rw [if_neg hbig, if_neg hge] at ER
            have HD : Hid (∀ X, Calls Tryz.prog 93 #[.int .i64 mode, .bool na, .string sa, .int .i64 (eb - ea)] X fun e w' => e = .returned (.tuple #[.string (tx (nt (drV mode na (vl (dl sa)) (eb - ea).toNat))), .bool (drL (vl (dl sa)) (eb - ea).toNat)]) ∧ Below X.heap.size X w') := fun X => by
              have := l14Drop_any mode na (dl sa) (eb - ea) X hc (by omega) (by omega)
              rw [← hst] at this
              exact this
            have hlen : ¬ (limP f < ((tx (nt (drV mode na (vl (dl sa)) (eb - ea).toNat))).size : Int)) := by
              rw [tx_size]
              have := (drV_len mode na (vl (dl sa)) (eb - ea).toNat (limP f).toNat v0 (Int.lt_of_lt_of_le hbd.2 (pow_mono _ _ (by omega))) (by omega) (by omega) (by omega)).1
              omega
            obtain ⟨T3, hT3⟩ : ∃ T, tx (nt (drV mode na (vl (dl sa)) (eb - ea).toNat)) = T := ⟨_, rfl⟩
            obtain ⟨lo, hlo⟩ : ∃ l, drL (vl (dl sa)) (eb - ea).toNat = l := ⟨_, rfl⟩
            rw [hT3, hlo] at ER HD
            rw [hT3] at hlen
            have EX : Hid (R = (na, (1, eb, T3, if lo then 16 else 0))) := ER
            clear hr hrb hm hs nk v0 l34 l1 hz he heb hc hlp hst hL hbd hP hbig ER hT3 hlo
            generalize limP f = P at *
            go_wp2_with fail
            refine (HLm.out _).mono ?_
            rintro e wx ⟨rfl, rfl⟩
            clear HLm
            go_wp2_with fail
            refine (HD.out _).mono ?_
            rintro e w4 ⟨rfl, hb4⟩
            have HSy : Hid (SU w w4 1 na ea sa 1 nb eb sb) := HSx.out.next hb4
            clear hb4 HSx HD a0 a1 a2 a3 a4 c0 c1 c2 c3 c4
            obtain ⟨a0, a1, a2, a3, a4⟩ := HSy.out.a4.cells
            obtain ⟨c0, c1, c2, c3, c4⟩ := HSy.out.b4.cells
            have hbr := build_res0 1 na eb T3
            go_wp2_with fail
            refine (l12Finite_any na T3 eb _).mono ?_
            rintro e w5 ⟨rfl, hb5⟩
            have hq5 := HSy.out.next hb5
            have HQ5 : Hid (SU w w5 1 na ea sa 1 nb eb sb) := hq5
            have hb6 : Below w5.heap.size w5 (w5.alloc (.cells #[.int .i64 1, .bool na, .int .i64 eb, .string T3, .int .i64 0] 29)) := (Below.refl _ _).alloc (Nat.le_refl _) _
            have HZ6 : Hid (At5 (w5.alloc (.cells #[.int .i64 1, .bool na, .int .i64 eb, .string T3, .int .i64 0] 29)) (w.heap.size + 2) (.int .i64 0) (.bool false) (.int .i64 0) (.string { data := #[] }) (.int .i64 0) ∧ Below w.heap.size w (w5.alloc (.cells #[.int .i64 1, .bool na, .int .i64 eb, .string T3, .int .i64 0] 29)) ∧ At5 (w5.alloc (.cells #[.int .i64 1, .bool na, .int .i64 eb, .string T3, .int .i64 0] 29)) w5.heap.size (.int .i64 1) (.bool na) (.int .i64 eb) (.string T3) (.int .i64 0) ∧ w.heap.size + 2 < w5.heap.size) := ⟨(hq5.end hb6).1, (hq5.end hb6).2, at5_new w5 _ _ _ _ _, hq5.2.2.2.2⟩
            clear hb5 hb6 hq5 HSy a0 a1 a2 a3 a4 c0 c1 c2 c3 c4
            cases lo with
            | false =>
              obtain ⟨g0, g1, g2, g3, g4, -⟩ := HZ6.out.2.2.1.cells
              have HZ7 : Hid (At5 (w5.alloc (.cells #[.int .i64 1, .bool na, .int .i64 eb, .string T3, .int .i64 0] 29)) (w.heap.size + 2) (.int .i64 0) (.bool false) (.int .i64 0) (.string { data := #[] }) (.int .i64 0) ∧ Below w.heap.size w (w5.alloc (.cells #[.int .i64 1, .bool na, .int .i64 eb, .string T3, .int .i64 0] 29))) := ⟨HZ6.out.1, HZ6.out.2.1⟩
              clear HZ6
              go_wp2_with (refine wpList_store_row rfl 29 (.tmp 8) (.tmp 116) rfl (w.heap.size + 2) #[.int .i64 1, .bool na, .int .i64 eb, .string T3, .int .i64 0] rfl rfl _ _ HZ7.out.1 (by kernel_rfl) rfl (one5 _ _ _ _ _) ?_)
              have hP := (HZ7.out.1.row (.int .i64 1) (.bool na) (.int .i64 eb) (.string T3) (.int .i64 0)).cells
              refine bodyPost_ret (results_res rfl _ _ rfl hP.1 hP.2.1 hP.2.2.1 hP.2.2.2.1 hP.2.2.2.2.1) rfl ?_
              exact ⟨by rw [EX.out]; rfl, bel_row HZ7.out.2 (by omega) _⟩
            | true =>
              have HZ7 : Hid (At5 (w5.alloc (.cells #[.int .i64 1, .bool na, .int .i64 eb, .string T3, .int .i64 16] 29)) (w.heap.size + 2) (.int .i64 0) (.bool false) (.int .i64 0) (.string { data := #[] }) (.int .i64 0) ∧ Below w.heap.size w (w5.alloc (.cells #[.int .i64 1, .bool na, .int .i64 eb, .string T3, .int .i64 16] 29))) := HQ5.out.end ((Below.refl _ _).alloc (Nat.le_refl _) _)
              clear HZ6 HQ5
              go_wp2_with (refine wpList_store_row rfl 29 (.tmp 8) (.tmp 116) rfl (w.heap.size + 2) #[.int .i64 1, .bool na, .int .i64 eb, .string T3, .int .i64 16] rfl rfl _ _ HZ7.out.1 (by kernel_rfl) rfl (one5 _ _ _ _ _) ?_)
              have hP := (HZ7.out.1.row (.int .i64 1) (.bool na) (.int .i64 eb) (.string T3) (.int .i64 16)).cells
              refine bodyPost_ret (results_res rfl _ _ rfl hP.1 hP.2.1 hP.2.2.1 hP.2.2.2.1 hP.2.2.2.2.1) rfl ?_
              exact ⟨by rw [EX.out]; rfl, bel_row HZ7.out.2 (by omega) _⟩
end Go.Proofs.YtcflomcankcggafGreatDoor
