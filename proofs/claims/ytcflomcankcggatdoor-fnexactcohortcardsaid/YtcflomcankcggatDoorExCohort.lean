/-
  Cohorts of both sides at any arguments, and FnExactCohort's walk.
-/
import Derived.Test.YtcflomcankcggatDoorChi
import Derived.Test.YtcflomcankcggatDoorNms
import Derived.Test.YtcflomcankcggatDoorNumL
namespace Go.Proofs.YtcflomcankcggatDoor
open Go.RowKit
set_option linter.unusedVariables false
set_option maxRecDepth 100000
/-- What a cohort's function answers: a slice of its own with these numbers. -/
def Tells (fn : FuncId) (args : Array Value) (l : List Nmt) : Prop := ∀ X : World, Calls Tryd.prog fn args X fun x w' => ∃ v, x = .returned v ∧ HasN w' X.heap.size v l ∧ Below X.heap.size X w'
theorem sCohort_no (f k : Int) (b : Bool) (e : Int) (s : ByteArray) (hs : s.size ≤ 4611686018427387904) (h : numB f k b e s = false ∨ k ≠ 1) : Tells 9 #[.int .i64 f, numV k b e s] [] := by
  intro w
  have HNb : Hid (∀ X, Calls Tryd.prog 14 #[.int .i64 f, numV k b e s] X fun x w' => x = .returned (.bool (numB f k b e s)) ∧ Below X.heap.size X w') := fun X => sNumOk_any f k b e s X hs
  have h4 := at4_new w (.int .i64 k) (.bool b) (.int .i64 e) (.string s)
  have z1 : (w.alloc (.cells #[.int .i64 k, .bool b, .int .i64 e, .string s] 26)).heap.size = w.heap.size + 1 := by simp
  have b1 : Below w.heap.size w (w.alloc (.cells #[.int .i64 k, .bool b, .int .i64 e, .string s] 26)) := (Below.refl _ _).alloc (Nat.le_refl _) _
  have HH : Hid (numB f k b e s = false ∨ k ≠ 1) := h
  generalize numB f k b e s = O at *
  clear h hs
  go_enter Tryd.func9, Tryd.ntmps9
  go_upto_region 1 with fail
  generalize w.alloc (.cells #[.int .i64 k, .bool b, .int .i64 e, .string s] 26) = w1 at *
  have HO : Hid (HasN (w1.alloc (.cells #[] 26)) w.heap.size (.slice (some ⟨w1.heap.size, 0, none⟩) 0 0) []) := World.ownsRow_made w1 #[] 0 (by omega) (Nat.zero_le _) rfl
  have b2 : Below w1.heap.size w1 (w1.alloc (.cells #[] 26)) := (Below.refl _ _).alloc (Nat.le_refl _) _
  have HA : Hid (At4 (w1.alloc (.cells #[] 26)) w.heap.size (.int .i64 k) (.bool b) (.int .i64 e) (.string s) ∧ Below w.heap.size w (w1.alloc (.cells #[] 26))) := ⟨h4.below b2 (by omega), bel1 b1 b2⟩
  clear h4 b1 b2 z1
  obtain ⟨a0, a1, a2, a3, a4⟩ := HA.out.1
  go_wp2_with fail
  clear a0 a1 a2 a3 a4
  refine (HNb.out _).mono ?_
  rintro x w2 ⟨rfl, hb2⟩
  have HA2 : Hid (At4 w2 w.heap.size (.int .i64 k) (.bool b) (.int .i64 e) (.string s) ∧ Below w.heap.size w w2) := ⟨HA.out.1.below hb2 (World.block_lt_of_cell? _ _ HA.out.1.1), bel1 HA.out.2 hb2⟩
  have HO2 : Hid (HasN w2 w.heap.size (.slice (some ⟨w1.heap.size, 0, none⟩) 0 0) []) := HO.out.below hb2 (Nat.le_refl _)
  generalize (⟨w1.heap.size, 0, none⟩ : Addr) = ad at *
  clear hb2 HA HO HNb
  obtain ⟨a0, a1, a2, a3, a4⟩ := HA2.out.1
  cases O with
  | false =>
    go_wp2
    go_ret
    exact ⟨_, rfl, HO2.out, HA2.out.2⟩
  | true =>
    have hk : k ≠ 1 := HH.out.resolve_left (by decide)
    have hk1 : (k == 1) = false := beq_eq_false_iff_ne.2 hk
    go_wp2
    go_ret
    exact ⟨_, rfl, HO2.out, HA2.out.2⟩
theorem iCohort_no (f k : Int) (b : Bool) (e : Int) (s : ByteArray) (hs : s.size ≤ 4611686018427387904) (h : numB f k b e s = false ∨ k ≠ 1) : Tells 10 #[.int .i64 f, numV k b e s] [] := by
  intro w
  have HNb : Hid (∀ X, Calls Tryd.prog 16 #[.int .i64 f, numV k b e s] X fun x w' => x = .returned (.bool (numB f k b e s)) ∧ Below X.heap.size X w') := fun X => iNumOk_any f k b e s X hs
  have h4 := at4_new w (.int .i64 k) (.bool b) (.int .i64 e) (.string s)
  have HA : Hid (At4 (w.alloc (.cells #[.int .i64 k, .bool b, .int .i64 e, .string s] 26)) w.heap.size (.int .i64 k) (.bool b) (.int .i64 e) (.string s) ∧ Below w.heap.size w (w.alloc (.cells #[.int .i64 k, .bool b, .int .i64 e, .string s] 26))) := ⟨h4, (Below.refl _ _).alloc (Nat.le_refl _) _⟩
  have HH : Hid (numB f k b e s = false ∨ k ≠ 1) := h
  have HO : Hid (∀ W : World, HasN W w.heap.size (.slice none 0 0) []) := fun W => ⟨rfl, .inl ⟨rfl, rfl⟩⟩
  generalize numB f k b e s = O at *
  clear h hs h4
  go_enter Tryd.func10, Tryd.ntmps10
  go_wp2_with fail
  refine (HNb.out _).mono ?_
  rintro x w2 ⟨rfl, hb2⟩
  have HA2 : Hid (At4 w2 w.heap.size (.int .i64 k) (.bool b) (.int .i64 e) (.string s) ∧ Below w.heap.size w w2) := ⟨HA.out.1.below hb2 (World.block_lt_of_cell? _ _ HA.out.1.1), bel1 HA.out.2 hb2⟩
  clear hb2 HA HNb
  obtain ⟨a0, a1, a2, a3, a4⟩ := HA2.out.1
  cases O with
  | false =>
    go_wp2
    go_ret
    exact ⟨_, rfl, HO.out _, HA2.out.2⟩
  | true =>
    have hk : k ≠ 1 := HH.out.resolve_left (by decide)
    have hk1 : (k == 1) = false := beq_eq_false_iff_ne.2 hk
    go_wp2
    go_ret
    exact ⟨_, rfl, HO.out _, HA2.out.2⟩
theorem sCohort_zero (f : Int) (b : Bool) (e : Int) (hO : numB f 1 b e { data := #[48] } = true) : Tells 9 #[.int .i64 f, numV 1 b e { data := #[48] }] [(1, b, e, { data := #[48] })] := by
  intro w
  have HNb : Hid (∀ X, Calls Tryd.prog 14 #[.int .i64 f, numV 1 b e { data := #[48] }] X fun x w' => x = .returned (.bool true) ∧ Below X.heap.size X w') := fun X => by
    have := sNumOk_any f 1 b e { data := #[48] } X (by decide)
    rwa [hO] at this
  have h4 := at4_new w (.int .i64 1) (.bool b) (.int .i64 e) (.string { data := #[48] })
  have z1 : (w.alloc (.cells #[.int .i64 1, .bool b, .int .i64 e, .string { data := #[48] }] 26)).heap.size = w.heap.size + 1 := by simp
  have b1 : Below w.heap.size w (w.alloc (.cells #[.int .i64 1, .bool b, .int .i64 e, .string { data := #[48] }] 26)) := (Below.refl _ _).alloc (Nat.le_refl _) _
  obtain ⟨i0, hi, hz0, hz1, hz2⟩ := info_parts infoNum
  clear hO
  go_enter Tryd.func9, Tryd.ntmps9
  go_upto_region 1 with fail
  generalize w.alloc (.cells #[.int .i64 1, .bool b, .int .i64 e, .string { data := #[48] }] 26) = w1 at *
  have HO : Hid (HasN (w1.alloc (.cells #[] 26)) w.heap.size (.slice (some ⟨w1.heap.size, 0, none⟩) 0 0) []) := World.ownsRow_made w1 #[] 0 (by omega) (Nat.zero_le _) rfl
  have b2 : Below w1.heap.size w1 (w1.alloc (.cells #[] 26)) := (Below.refl _ _).alloc (Nat.le_refl _) _
  have HA : Hid (At4 (w1.alloc (.cells #[] 26)) w.heap.size (.int .i64 1) (.bool b) (.int .i64 e) (.string { data := #[48] }) ∧ Below w.heap.size w (w1.alloc (.cells #[] 26))) := ⟨h4.below b2 (by omega), bel1 b1 b2⟩
  clear h4 b1 b2 z1
  obtain ⟨a0, a1, a2, a3, a4⟩ := HA.out.1
  go_wp2_with fail
  clear a0 a1 a2 a3 a4
  refine (HNb.out _).mono ?_
  rintro x w2 ⟨rfl, hb2⟩
  have HA2 : Hid (At4 w2 w.heap.size (.int .i64 1) (.bool b) (.int .i64 e) (.string { data := #[48] }) ∧ Below w.heap.size w w2) := ⟨HA.out.1.below hb2 (World.block_lt_of_cell? _ _ HA.out.1.1), bel1 HA.out.2 hb2⟩
  have HO2 : Hid (HasN w2 w.heap.size (.slice (some ⟨w1.heap.size, 0, none⟩) 0 0) []) := HO.out.below hb2 (Nat.le_refl _)
  generalize (⟨w1.heap.size, 0, none⟩ : Addr) = ad at *
  clear hb2 HA HO HNb
  obtain ⟨a0, a1, a2, a3, a4⟩ := HA2.out.1
  have hsz2 := HA2.out.2.size
  have hown0 : w2.ownsRow w.heap.size 26 4 (.slice (some ad) 0 0) 0 [] := HO2.out
  go_wp2_with (first | (at_builtin; refine wpList_append_own _ rfl _ _ 29 rfl w.heap.size 26 i0 (.agg #[.int .i64 0, .bool false, .int .i64 0, .string { data := #[] }]) 4 40 Tryd.underlying29 hi hz0 hz1 hz2 rfl (by decide) _ _ _ rfl (hown0.alloc _) ⟨w2.heap.size, 0, none⟩ 1 1 [.int .i64 1, .bool b, .int .i64 e, .string { data := #[48] }] rfl rfl (num_new _ _ _ _ _) (num_cell _ _ _ _) (by unfold maxLen; omega) (by omega) (by simp; omega) ?_) | go_in)
  intro v' w5 hown5 hgrow _
  have hb5 : Below w.heap.size w w5 := Below.grown (HA2.out.2.alloc hsz2 _) hgrow (by simp; omega) (fun k hk => by have := (hown0.lt k hk).1; omega)
  have H5 : Hid (HasN w5 w.heap.size v' [(1, b, e, { data := #[48] })]) := hown5
  clear hown5 hgrow hown0 a0 a1 a2 a3 a4
  go_wp2
  go_ret
  exact ⟨v', rfl, H5.out, hb5⟩
theorem isNought_yes (b : Bool) (e : Int) (w : World) : Calls Tryd.prog 21 #[numV 1 b e { data := #[48] }] w fun x w' => x = .returned (.bool true) ∧ Below w.heap.size w w' := by
  go_enter Tryd.func21, Tryd.ntmps21
  go_wp2
  go_ret
  exact ⟨rfl, (Below.refl _ _).alloc (Nat.le_refl _) _⟩
theorem iCohort_zero (f : Int) (b : Bool) (e : Int) (hO : numB f 1 b e { data := #[48] } = true) : Tells 10 #[.int .i64 f, numV 1 b e { data := #[48] }] [(1, b, e, { data := #[48] })] := by
  intro w
  have HNb : Hid (∀ X, Calls Tryd.prog 16 #[.int .i64 f, numV 1 b e { data := #[48] }] X fun x w' => x = .returned (.bool true) ∧ Below X.heap.size X w') := fun X => by
    have := iNumOk_any f 1 b e { data := #[48] } X (by decide)
    rwa [hO] at this
  have HNo : Hid (∀ X, Calls Tryd.prog 21 #[numV 1 b e { data := #[48] }] X fun x w' => x = .returned (.bool true) ∧ Below X.heap.size X w') := fun X => isNought_yes b e X
  have HCp : Hid (∀ X, Calls Tryd.prog 22 #[numV 1 b e { data := #[48] }] X fun x w' => x = .returned (numV 1 b e { data := #[48] }) ∧ Below X.heap.size X w') := fun X => copied_anyz 1 b e { data := #[48] } X (by decide)
  have h4 := at4_new w (.int .i64 1) (.bool b) (.int .i64 e) (.string { data := #[48] })
  have HA : Hid (At4 (w.alloc (.cells #[.int .i64 1, .bool b, .int .i64 e, .string { data := #[48] }] 26)) w.heap.size (.int .i64 1) (.bool b) (.int .i64 e) (.string { data := #[48] }) ∧ Below w.heap.size w (w.alloc (.cells #[.int .i64 1, .bool b, .int .i64 e, .string { data := #[48] }] 26))) := ⟨h4, (Below.refl _ _).alloc (Nat.le_refl _) _⟩
  clear hO h4
  go_enter Tryd.func10, Tryd.ntmps10
  go_wp2_with fail
  refine (HNb.out _).mono ?_
  rintro x w1 ⟨rfl, hb1⟩
  have HA1 : Hid (At4 w1 w.heap.size (.int .i64 1) (.bool b) (.int .i64 e) (.string { data := #[48] }) ∧ Below w.heap.size w w1) := ⟨HA.out.1.below hb1 (World.block_lt_of_cell? _ _ HA.out.1.1), bel1 HA.out.2 hb1⟩
  clear hb1 HA HNb
  obtain ⟨a0, a1, a2, a3, a4⟩ := HA1.out.1
  go_wp2_with fail
  clear a0 a1 a2 a3 a4
  refine (HNo.out _).mono ?_
  rintro x w2 ⟨rfl, hb2⟩
  have HA2 : Hid (At4 w2 w.heap.size (.int .i64 1) (.bool b) (.int .i64 e) (.string { data := #[48] }) ∧ Below w.heap.size w w2) := ⟨HA1.out.1.below hb2 (World.block_lt_of_cell? _ _ HA1.out.1.1), bel1 HA1.out.2 hb2⟩
  clear hb2 HA1 HNo
  obtain ⟨a0, a1, a2, a3, a4⟩ := HA2.out.1
  go_wp2_with fail
  clear a0 a1 a2 a3 a4
  refine (HCp.out _).mono ?_
  rintro x w3 ⟨rfl, hb3⟩
  have HB3 : Hid (Below w.heap.size w w3) := bel1 HA2.out.2 hb3
  have HF : Hid (HasN (w3.alloc (.cells #[.int .i64 1, .bool b, .int .i64 e, .string { data := #[48] }] 26)) w.heap.size (.slice (some ⟨w3.heap.size, 0, none⟩) 1 1) [(1, b, e, { data := #[48] })]) := World.ownsRow_lit (base := w.heap.size) (e := 26) (size := 4) w3 #[.int .i64 1, .bool b, .int .i64 e, .string { data := #[48] }] 1 HB3.out.size (by decide) (by simp)
  clear hb3 HA2
  go_wp2
  go_ret
  exact ⟨_, rfl, HF.out, HB3.out.alloc HB3.out.size _⟩
theorem canon_part (T T' : List Int) (d : Int) (t : Nat) (hc : Canon (T ++ List.replicate t 0)) (hT : T = T' ++ [d]) (hd : d ≠ 0) : Canon T ∧ T ≠ [0] := by
  have hl : 0 < T.length := by rw [hT]; simp
  refine ⟨⟨fun x hx => hc.1 x (List.mem_append.2 (.inl hx)), hl, ?_⟩, fun q => ?_⟩
  · by_cases h1 : T.length = 1
    · exact .inl h1
    · rcases hc.2.2 with h | h
      · rw [List.length_append] at h; omega
      · right
        intro q
        apply h
        cases T with
        | nil => exact absurd hl (by decide)
        | cons x r => exact q
  · rw [q] at hT
    cases T' with
    | nil => simp at hT; exact hd hT.symm
    | cons x r => simp at hT
theorem cohort_both (f k : Int) (b : Bool) (e : Int) (s : ByteArray) (hs : s.size ≤ 4611686018427387904) : ∃ l : List Nmt, l.length ≤ 100 ∧ Tells 9 #[.int .i64 f, numV k b e s] l ∧ Tells 10 #[.int .i64 f, numV k b e s] l := by
  cases hO : numB f k b e s with
  | false => exact ⟨[], by decide, sCohort_no f k b e s hs (.inl hO), iCohort_no f k b e s hs (.inl hO)⟩
  | true =>
    by_cases hk : k = 1
    case neg => exact ⟨[], by decide, sCohort_no f k b e s hs (.inr hk), iCohort_no f k b e s hs (.inr hk)⟩
    subst hk
    obtain ⟨hf, hs1, -, hc⟩ := right_twoz f 1 b e s hO (by decide) (by decide)
    obtain ⟨cc, lp, e1, e2⟩ := hc rfl
    by_cases hz : dl s = [0]
    · have e0 : s = { data := #[48] } := by
        rw [hs1, hz]
        apply ByteArray.ext
        rw [tx_data]
        rfl
      subst e0
      exact ⟨[(1, b, e, { data := #[48] })], by simp, sCohort_zero f b e hO, iCohort_zero f b e hO⟩
    · obtain ⟨T, t, hL, T', d, hTd, hd⟩ := tail_noughts (dl s) (canon_some _ cc hz)
      generalize dl s = L at *
      subst hs1 hL
      obtain ⟨cT, zT⟩ := canon_part T T' d t cc hTd hd
      have hlen : ((T.length + t : Nat) : Int) ≤ limP f := by
        rw [List.length_append, List.length_replicate] at lp
        exact lp
      have h34 := limsz f hf
      have hne : ((tx (T ++ List.replicate t 0)).toList == [48]) = false := by
        refine beq_eq_false_iff_ne.2 fun q => hz ?_
        have : tx (T ++ List.replicate t 0) = tx [0] := by
          apply ByteArray.ext
          apply Array.toList_inj.1
          rw [← ByteArray.toList_eq, q, tx_data]
          rfl
        rw [← dl_tx (T ++ List.replicate t 0) cc.1, this]
        exact dl_tx [0] (fun d hd => by simp at hd; omega)
      obtain ⟨J, hJ⟩ : ∃ J : Nat, (J : Int) = min (limP f - (T.length + t : Nat)) (e - limL f) := ⟨(min (limP f - (T.length + t : Nat)) (e - limL f)).toNat, by omega⟩
      obtain ⟨M, hM⟩ : ∃ M : Nat, (M : Int) = min ((t + J : Nat) : Int) (limH f - (e - (J : Int))) + 1 := ⟨(min ((t + J : Nat) : Int) (limH f - (e - (J : Int))) + 1).toNat, by omega⟩
      refine ⟨cohL b (e - (J : Int)) (t + J) T M, by rw [cohL_len]; omega, fun X => ?_, fun X => ?_⟩
      · exact sCohort_fin f hf b e T t cT.1 ⟨T', d, hTd, hd⟩ hlen ⟨e1, e2⟩ hO hz J (t + J) M (e - (J : Int)) hJ rfl rfl hM X
      · exact iCohort_fin f hf b e T t cT.1 ⟨T', d, hTd, hd⟩ cT zT hlen ⟨e1, e2⟩ hO hne J (t + J) M (e - (J : Int)) hJ rfl rfl hM X
theorem markN_any (v : Value) (l : List Nmt) (base : Nat) (w : World) (h : HasN w base v l) (hb : base ≤ w.heap.size) (hn : l.length ≤ 100) :
    Calls Tryd.prog 12 #[v, .int .i64 1] w fun e w' => e = .returned (.int .i64 ((1 + 4 * l.length : Nat) : Int)) ∧ HasV w' base v l.length (mrk 1 (nq l) l.length) ∧ Below base w w' := by
  have ho : ∀ k, v.ownBlock = some k → base ≤ k := fun k hk => (World.ownsRow.lt h k hk).1
  refine (markN_own v (nq l) 1 base l.length w h (nq_length l) (by omega) (by decide) (by decide)).mono ?_
  rintro e w' ⟨rfl, h1, h2⟩
  exact ⟨rfl, h1, Below.grown (Below.refl _ _) h2 hb ho⟩
theorem heldN_any (v : Value) (l : List Nmt) (base : Nat) (w : World) (h : HasV w base v l.length (mrk 1 (nq l) l.length)) (hn : l.length ≤ 100) :
    Calls Tryd.prog 13 #[v, .int .i64 1] w fun e w' => e = .returned (.int .i64 ((1 + 4 * l.length : Nat) : Int)) ∧ Below w.heap.size w w' :=
  heldN_same v (mrk 1 (nq l) l.length) 1 base l.length w h (by rw [mrk_length, nq_length]) (by omega) (by decide) (by decide) (fun i hi => mrk_get 1 (nq l) l.length i hi (Nat.le_of_eq (nq_length l).symm))
set_option maxRecDepth 100000 in
set_option maxHeartbeats 1000000 in
theorem exCohort_any (a0 K : Int) (B : Bool) (E : Int) (S : ByteArray) (w : World) (hm : S.size ≤ 9223372036854775807) :
    Calls Tryd.prog 4 #[.int .i64 a0, numV K B E S] w fun r w' => r = .returned (.bool true) ∧ Below w.heap.size w w' := by
  have HX0 : Hid (Below (w.heap.size + 1) (nbl w K B E S) (nbl w K B E S)) := Below.refl _ _
  obtain ⟨c0, c1, c2, c3⟩ := nbl_cells HX0.out
  by_cases hs : (S.size : Int) ≤ 1048576
  case neg =>
    have HZ : Hid (∀ X, Calls Tryd.prog 5 #[numV K B E S, .int .i64 1048576] X fun r w' => r = .returned (.int .i64 (-1)) ∧ Below X.heap.size X w') := fun X => szNum_no K B E S 1048576 X (by decide) (by decide) hm (by omega)
    clear hm hs
    go_enter Tryd.func4, Tryd.ntmps4
    go_wp2_with fail
    refine (HZ.out _).mono ?_
    rintro r u1 ⟨rfl, hb1⟩
    have HX1 : Hid (Below (w.heap.size + 1) (nbl w K B E S) u1) := nbl_next HX0.out hb1
    clear hb1 HX0 c0 c1 c2 c3
    go_wp2
    go_ret
    exact ⟨rfl, nbl_out HX1.out⟩
  have HZ : Hid (∀ X, Calls Tryd.prog 5 #[numV K B E S, .int .i64 1048576] X fun r w' => r = .returned (.int .i64 (1048576 - S.size)) ∧ Below X.heap.size X w') := fun X => szNum_yes K B E S 1048576 X (by decide) (by decide) hm hs
  have HTo : Hid (∀ X, Calls Tryd.prog 7 #[numV K B E S] X fun r w' => r = .returned (numV K B E S) ∧ Below X.heap.size X w') := fun X => toNum_any K B E S X
  have hs2 : S.size ≤ 4611686018427387904 := by omega
  have hs3 : ¬ (1048576 - (S.size : Int)) < 0 := by omega
  obtain ⟨l, hl, hS, hI⟩ := cohort_both a0 K B E S hs2
  have HS : Hid (Tells 9 #[.int .i64 a0, numV K B E S] l) := hS
  have HI : Hid (Tells 10 #[.int .i64 a0, numV K B E S] l) := hI
  have HE : Hid (∀ va vb ba bb X, HasN X ba va l → HasN X bb vb l → Calls Tryd.prog 11 #[va, vb] X fun e w' => e = .returned (.bool true) ∧ Below X.heap.size X w') := fun va vb ba bb X h1 h2 => eqNumS_same va vb l ba bb X h1 h2 (by omega)
  have HMk : Hid (∀ v base X, HasN X base v l → base ≤ X.heap.size → Calls Tryd.prog 12 #[v, .int .i64 1] X fun e w' => e = .returned (.int .i64 ((1 + 4 * l.length : Nat) : Int)) ∧ HasV w' base v l.length (mrk 1 (nq l) l.length) ∧ Below base X w') := fun v base X h1 h2 => markN_any v l base X h1 h2 hl
  have HHd : Hid (∀ v base X, HasV X base v l.length (mrk 1 (nq l) l.length) → Calls Tryd.prog 13 #[v, .int .i64 1] X fun e w' => e = .returned (.int .i64 ((1 + 4 * l.length : Nat) : Int)) ∧ Below X.heap.size X w') := fun v base X h1 => heldN_any v l base X h1 hl
  obtain ⟨q, hq⟩ : ∃ q : Nat, 1 + 4 * l.length = q := ⟨_, rfl⟩
  rw [hq] at HMk HHd
  have hq0 : ¬ (q : Int) < 0 := by omega
  clear hm hs hs2 hS hI hq hl
  go_enter Tryd.func4, Tryd.ntmps4
  go_wp2_with fail
  refine (HZ.out _).mono ?_
  rintro r u1 ⟨rfl, hb1⟩
  have HX1 : Hid (Below (w.heap.size + 1) (nbl w K B E S) u1) := nbl_next HX0.out hb1
  clear hb1 HX0 c0 c1 c2 c3
  obtain ⟨c0, c1, c2, c3⟩ := nbl_cells HX1.out
  go_wp2_with fail
  refine (HTo.out _).mono ?_
  rintro r u2 ⟨rfl, hb2⟩
  have HX2 : Hid (Below (w.heap.size + 1) (nbl w K B E S) u2) := nbl_next HX1.out hb2
  clear hb2 HX1 c0 c1 c2 c3
  go_wp2_with fail
  refine (HS.out _).mono ?_
  rintro r u3 ⟨vw, rfl, hw3, hb3⟩
  have HX3 : Hid (Below (w.heap.size + 1) (nbl w K B E S) u3) := nbl_next HX2.out hb3
  have HW3 : Hid (HasN u3 u2.heap.size vw l) := hw3
  clear hb3 HX2 hw3
  obtain ⟨c0, c1, c2, c3⟩ := nbl_cells HX3.out
  go_wp2_with fail
  refine (HTo.out _).mono ?_
  rintro r u4 ⟨rfl, hb4⟩
  have HX4 : Hid (Below (w.heap.size + 1) (nbl w K B E S) u4) := nbl_next HX3.out hb4
  have HW4 : Hid (HasN u4 u2.heap.size vw l) := HW3.out.below hb4 (Nat.le_refl _)
  clear hb4 HX3 c0 c1 c2 c3 HW3
  go_wp2_with fail
  refine (HI.out _).mono ?_
  rintro r u5 ⟨vg, rfl, hg5, hb5⟩
  have HG5 : Hid (HasN u5 u4.heap.size vg l) := hg5
  have HW5 : Hid (HasN u5 u2.heap.size vw l) := HW4.out.below hb5 (Nat.le_refl _)
  have HB5 : Hid (Below u4.heap.size u4 u5) := hb5
  clear hb5 hg5
  go_wp2_with fail
  refine (HE.out _ _ _ _ _ HG5.out HW5.out).mono ?_
  rintro r u6 ⟨rfl, hb6⟩
  have HG6 : Hid (HasN u6 u4.heap.size vg l) := HG5.out.below hb6 (Nat.le_refl _)
  have HB6 : Hid (Below u4.heap.size u4 u6) := bel1 HB5.out hb6
  clear hb6 HG5 HB5 HW5
  go_wp2_with fail
  refine (HMk.out _ _ _ HG6.out HB6.out.size).mono ?_
  rintro r u7 ⟨rfl, hv7, hb7⟩
  have HV7 : Hid (HasV u7 u4.heap.size vg l.length (mrk 1 (nq l) l.length)) := hv7
  have HB7 : Hid (Below u4.heap.size u4 u7) := HB6.out.trans hb7
  clear hb7 HG6 HB6 hv7
  go_wp2_with fail
  refine (HHd.out _ _ _ HV7.out).mono ?_
  rintro r u8 ⟨rfl, hb8⟩
  have HV8 : Hid (HasV u8 u4.heap.size vg l.length (mrk 1 (nq l) l.length)) := HV7.out.below hb8 (Nat.le_refl _)
  have HB8 : Hid (Below u4.heap.size u4 u8) := bel1 HB7.out hb8
  have HX8 : Hid (Below (w.heap.size + 1) (nbl w K B E S) u8) := nbl_next HX4.out HB8.out
  have HW8 : Hid (HasN u8 u2.heap.size vw l) := HW4.out.below HB8.out (Nat.le_refl _)
  clear hb8 HV7 HB7 HX4 HB8 HW4
  obtain ⟨c0, c1, c2, c3⟩ := nbl_cells HX8.out
  go_wp2_with fail
  refine (HTo.out _).mono ?_
  rintro r u9 ⟨rfl, hb9⟩
  have HX9 : Hid (Below (w.heap.size + 1) (nbl w K B E S) u9) := nbl_next HX8.out hb9
  have HW9 : Hid (HasN u9 u2.heap.size vw l ∧ HasV u9 u4.heap.size vg l.length (mrk 1 (nq l) l.length)) := ⟨HW8.out.below hb9 (Nat.le_refl _), HV8.out.below hb9 (Nat.le_refl _)⟩
  clear hb9 HX8 c0 c1 c2 c3 HW8 HV8
  go_wp2_with fail
  refine (HI.out _).mono ?_
  rintro r u10 ⟨vh, rfl, hh10, hb10⟩
  have HX10 : Hid (Below (w.heap.size + 1) (nbl w K B E S) u10) := nbl_next HX9.out hb10
  have HW10 : Hid (HasN u10 u2.heap.size vw l ∧ HasV u10 u4.heap.size vg l.length (mrk 1 (nq l) l.length) ∧ HasN u10 u9.heap.size vh l) := ⟨HW9.out.1.below hb10 (Nat.le_refl _), HW9.out.2.below hb10 (Nat.le_refl _), hh10⟩
  clear hb10 HX9 HW9 hh10
  go_wp2_with fail
  refine (HE.out _ _ _ _ _ HW10.out.2.2 HW10.out.1).mono ?_
  rintro r u11 ⟨rfl, hb11⟩
  have HX11 : Hid (Below (w.heap.size + 1) (nbl w K B E S) u11) := nbl_next HX10.out hb11
  have HV11 : Hid (HasV u11 u4.heap.size vg l.length (mrk 1 (nq l) l.length)) := HW10.out.2.1.below hb11 (Nat.le_refl _)
  clear hb11 HX10 HW10
  go_wp2_with fail
  refine (HHd.out _ _ _ HV11.out).mono ?_
  rintro r u12 ⟨rfl, hb12⟩
  have HX12 : Hid (Below (w.heap.size + 1) (nbl w K B E S) u12) := nbl_next HX11.out hb12
  clear hb12 HX11 HV11
  go_wp2
  go_ret
  exact ⟨rfl, nbl_out HX12.out⟩
end Go.Proofs.YtcflomcankcggatDoor
