/-
  Sqrt of the model, walked.
-/
import Derived.Test.YtnkoeidolmiheaaGreatDoorExj
import Derived.Test.YtnkoeidolmiheaaGreatDoorFnr
import Derived.Test.YtnkoeidolmiheaaGreatDoorSpd
import Derived.Deep.RegionWith
import Derived.Deep.DeepCutAuto
import Derived.Test.YtnkoeidolmiheaaGreatDoorDvs
namespace Go.Proofs.YtnkoeidolmiheaaGreatDoor
open Go.RowKit
set_option linter.unusedVariables false
set_option maxRecDepth 100000
/-- A root, and what is left. -/
def Rt (M S R : Int) : Prop := S * S + R = M ∧ 0 ≤ S ∧ 0 ≤ R ∧ R ≤ 2 * S
theorem sq_le {a b : Int} (ha : 0 ≤ a) (h : a ≤ b) : a * a ≤ b * b := Int.mul_le_mul h h ha (Int.le_trans ha h)
/-- The root of a number with more noughts behind it. -/
theorem root_more (S R M T S2 R2 : Int) (hT : 0 < T) (h : Rt M S R) (h2 : Rt (M * (T * T)) S2 R2) : S * T ≤ S2 ∧ S2 < S * T + T ∧ (R = 0 → S2 = S * T ∧ R2 = 0) ∧ (R ≠ 0 → S2 - S * T ≠ 0 ∨ R2 ≠ 0) := by
  obtain ⟨e, s0, r0, r1⟩ := h
  obtain ⟨e2, s20, r20, r21⟩ := h2
  have tt : 0 < T * T := Int.mul_pos hT hT
  have st0 : 0 ≤ S * T := Int.mul_nonneg s0 (Int.le_of_lt hT)
  have hM : M * (T * T) = S * T * (S * T) + R * (T * T) := by rw [← e]; grind
  have hR : 0 ≤ R * (T * T) := Int.mul_nonneg r0 (Int.le_of_lt tt)
  have a1 : S * T ≤ S2 := by
    refine Int.not_lt.1 fun c => ?_
    have q := sq_le (show 0 ≤ S2 + 1 by omega) (show S2 + 1 ≤ S * T by omega)
    have x : (S2 + 1) * (S2 + 1) = S2 * S2 + 2 * S2 + 1 := by grind
    omega
  have a2 : S2 < S * T + T := by
    refine Int.not_le.1 fun c => ?_
    have q := sq_le (show 0 ≤ S * T + T by omega) c
    have x : (S * T + T) * (S * T + T) = S * T * (S * T) + (2 * S + 1) * (T * T) := by grind
    have y : R * (T * T) + (T * T) ≤ (2 * S + 1) * (T * T) := by
      have := Int.mul_le_mul_of_nonneg_right (show R + 1 ≤ 2 * S + 1 by omega) (Int.le_of_lt tt)
      rw [Int.add_mul, Int.one_mul] at this
      exact this
    omega
  refine ⟨a1, a2, fun c => ?_, fun c => ?_⟩
  · rw [c, Int.zero_mul, Int.add_zero] at hM
    have up : S2 ≤ S * T := by
      refine Int.not_lt.1 fun d => ?_
      have q := sq_le (show 0 ≤ S * T + 1 by omega) (show S * T + 1 ≤ S2 by omega)
      have x : (S * T + 1) * (S * T + 1) = S * T * (S * T) + 2 * (S * T) + 1 := by grind
      omega
    have e3 : S2 = S * T := by omega
    rw [e3] at e2
    exact ⟨e3, by omega⟩
  · rcases Int.lt_trichotomy (S2 - S * T) 0 with q | q | q
    · exact .inl (by omega)
    · refine .inr fun z => ?_
      have e3 : S2 = S * T := by omega
      rw [e3, z] at e2
      have hz : R * (T * T) = 0 := by omega
      rcases Int.mul_eq_zero.1 hz with k | k
      · exact c k
      · omega
    · exact .inl (by omega)
/-- How many noughts stand behind a number. -/
def sqK (f ea : Int) (la : Nat) : Nat := (2 * limP f - la + 1 + (if (ea - (2 * limP f - la + 1)) % 2 = 0 then 0 else 1)).toNat
/-- What Sqrt tells of a right number that is no NaN: S the root's digits, zz: nothing is left. -/
def sqX (f mode : Int) (ka : Int) (na : Bool) (ea : Int) (sa : ByteArray) (S : Int) (zz : Bool) : R5o :=
  if na = true ∧ zB ka sa = false then (false, (3, 0, { data := #[] }, 1))
  else if ka = 2 then (na, (2, 0, { data := #[] }, 0))
  else (na, finD f mode na (nt S) ((ea - sqK f ea (dl sa).length) / 2) (!zz) (ea / 2))
/-- What Sqrt tells. -/
def sqR (f mode : Int) (ka : Int) (na : Bool) (ea : Int) (sa : ByteArray) (S : Int) (zz : Bool) : R5o := ofR f mode 1 (fun _ => ka) (fun _ => na) (fun _ => ea) (fun _ => sa) (sqX f mode ka na ea sa S zz)
/-- That S is the root. -/
def SqH (f : Int) (ea : Int) (sa : ByteArray) (S : Int) (zz : Bool) : Prop := 0 ≤ vl (dl sa) → ∃ R, Rt (vl (dl sa) * 10 ^ sqK f ea (dl sa).length) S R ∧ decide (R = 0) = zz
theorem sq_some (f : Int) (ea : Int) (sa : ByteArray) : ∃ S zz, SqH f ea sa S zz := by
  by_cases h : 0 ≤ vl (dl sa)
  · have h0 : 0 ≤ vl (dl sa) * 10 ^ sqK f ea (dl sa).length := Int.mul_nonneg h (Int.le_of_lt (ten_pos _))
    obtain ⟨S, R, e, a, b, c⟩ := root_is (vl (dl sa) * 10 ^ sqK f ea (dl sa).length).toNat
    rw [show (((vl (dl sa) * 10 ^ sqK f ea (dl sa).length).toNat : Nat) : Int) = vl (dl sa) * 10 ^ sqK f ea (dl sa).length by omega] at e
    exact ⟨S, decide (R = 0), fun _ => ⟨R, ⟨e, a, b, c⟩, rfl⟩⟩
  · exact ⟨0, false, fun c => absurd c h⟩
/-- The root's digits: one more than the format has. -/
theorem sq_size (f : Int) (hf : f = 64 ∨ f = 128) (da : List Int) (ca : Canon da) (la : (da.length : Int) ≤ limP f) (ea : Int) (S R : Int) (h : Rt (vl da * 10 ^ sqK f ea da.length) S R) :
    Nok (vl da * 10 ^ sqK f ea da.length) ∧ Nok S ∧ Nok R ∧ S < 10 ^ ((limP f).toNat + 1) ∧ (vl da ≠ 0 → 10 ^ (limP f).toNat ≤ S) ∧ (vl da = 0 → S = 0 ∧ R = 0) ∧ (ea - sqK f ea da.length) % 2 = 0 := by
  have hP : 1 ≤ limP f ∧ limP f ≤ 34 := by rcases hf with rfl | rfl <;> decide
  have a := vl_bd da ca.1
  have pa := ca.2.1
  obtain ⟨k, hk⟩ : ∃ k, sqK f ea da.length = k := ⟨_, rfl⟩
  have hk1 : (da.length : Int) + k = 2 * limP f + 1 ∨ (da.length : Int) + k = 2 * limP f + 2 := by rw [← hk]; unfold sqK; split <;> omega
  have hpar : (ea - k) % 2 = 0 := by rw [← hk]; unfold sqK; split <;> omega
  rw [hk] at h ⊢
  obtain ⟨e, s0, r0, r1⟩ := h
  have h0 : 0 ≤ vl da * 10 ^ k := Int.mul_nonneg a.1 (Int.le_of_lt (ten_pos k))
  have h1 : vl da * 10 ^ k < 10 ^ (2 * (limP f).toNat + 2) := by
    have := Int.mul_lt_mul_of_pos_right a.2 (ten_pos k)
    rw [← Int.pow_add] at this
    exact Int.lt_of_lt_of_le this (pow_mono _ _ (by omega))
  have ss : 0 ≤ S * S := Int.mul_nonneg s0 s0
  have p1 : (10 : Int) ^ (2 * (limP f).toNat + 2) = 10 ^ ((limP f).toNat + 1) * 10 ^ ((limP f).toNat + 1) := by rw [← Int.pow_add]; congr 1; omega
  have p0 : (10 : Int) ^ (2 * (limP f).toNat) = 10 ^ (limP f).toNat * 10 ^ (limP f).toNat := by rw [← Int.pow_add]; congr 1; omega
  have hS1 : S < 10 ^ ((limP f).toNat + 1) := by
    refine Int.not_le.1 fun c => ?_
    have q := sq_le (Int.le_of_lt (ten_pos ((limP f).toNat + 1))) c
    omega
  have h7 := pow_mono (2 * (limP f).toNat + 2) 200 (by omega)
  have h8 := pow_mono ((limP f).toNat + 1) 200 (by omega)
  refine ⟨⟨h0, by omega⟩, ⟨s0, by omega⟩, ⟨r0, by omega⟩, hS1, fun hz => ?_, fun hz => ?_, hpar⟩
  · refine Int.not_lt.1 fun c => ?_
    have hlo := canon_lo da ca (fun q => hz (by rw [q]; rfl))
    have h2 := Int.mul_le_mul_of_nonneg_right hlo (Int.le_of_lt (ten_pos k))
    rw [← Int.pow_add] at h2
    have h3 := pow_mono (2 * (limP f).toNat) (da.length - 1 + k) (by omega)
    have q := sq_le (show 0 ≤ S + 1 by omega) (show S + 1 ≤ 10 ^ (limP f).toNat by omega)
    have x : (S + 1) * (S + 1) = S * S + 2 * S + 1 := by grind
    omega
  · rw [hz, Int.zero_mul] at e
    have hs : S * S = 0 := by omega
    rcases Int.mul_eq_zero.1 hs with c | c <;> exact ⟨c, by omega⟩
set_option maxHeartbeats 1000000 in
/-- More noughts behind the number give the same. -/
theorem sq_same (f mode : Int) (hf : f = 64 ∨ f = 128) (neg : Bool) (da : List Int) (ca : Canon da) (la : (da.length : Int) ≤ limP f) (hz : vl da ≠ 0) (ea : Int) (S R S2 R2 : Int) (h : Rt (vl da * 10 ^ sqK f ea da.length) S R) (n2 : Nat) (hn : n2 = (limP f).toNat * 2 + 6 + (ea - 2 * (ea / 2)).toNat) (h2 : Rt (vl da * 10 ^ n2) S2 R2) :
    finD f mode neg (nt S2) (ea / 2 - (limP f + 3)) (!decide (R2 = 0)) (ea / 2) = finD f mode neg (nt S) ((ea - sqK f ea da.length) / 2) (!decide (R = 0)) (ea / 2) ∧ Nok S2 ∧ Nok R2 := by
  have hP : 1 ≤ limP f ∧ limP f ≤ 34 := by rcases hf with rfl | rfl <;> decide
  obtain ⟨n1, nS, nR, hhi, hlo, -, hpar⟩ := sq_size f hf da ca la ea S R h
  have pa := ca.2.1
  have a := vl_bd da ca.1
  obtain ⟨k, hk⟩ : ∃ k, sqK f ea da.length = k := ⟨_, rfl⟩
  have hk1 : (da.length : Int) + k = 2 * limP f + 1 ∨ (da.length : Int) + k = 2 * limP f + 2 := by rw [← hk]; unfold sqK; split <;> omega
  rw [hk] at h hpar n1 ⊢
  obtain ⟨j, hj⟩ : ∃ j : Nat, n2 = k + (j + j) := ⟨(n2 - k) / 2, by omega⟩
  have hM : vl da * 10 ^ n2 = vl da * 10 ^ k * (10 ^ j * 10 ^ j) := by rw [hj, Int.pow_add, Int.pow_add, ← Int.mul_assoc]
  rw [hM] at h2
  obtain ⟨q1, q2, q3, q4⟩ := root_more S R _ (10 ^ j) S2 R2 (ten_pos j) h h2
  have hq := hlo hz
  have hq1 : 1 ≤ S := Int.le_trans (by have := ten_pos (limP f).toNat; omega) hq
  have hS2 : S2 < 10 ^ ((limP f).toNat + 1 + j) := by
    have x : (S + 1) * 10 ^ j ≤ 10 ^ ((limP f).toNat + 1) * 10 ^ j := Int.mul_le_mul_of_nonneg_right (by omega) (Int.le_of_lt (ten_pos j))
    rw [← Int.pow_add, Int.add_mul, Int.one_mul] at x
    omega
  have p9 := pow_mono ((limP f).toNat + 1 + j) 100 (by omega)
  have p8 := pow_mono 101 200 (by decide)
  have p7 : (10 : Int) ^ 101 = 10 ^ 100 * 10 := Int.pow_succ 10 100
  have N2 : Nok S2 := ⟨h2.2.1, by omega⟩
  have N3 : Nok R2 := ⟨h2.2.2.1, by have := h2.2.2.2; omega⟩
  refine ⟨?_, N2, N3⟩
  obtain ⟨c1, v1⟩ := nok_spec nS
  obtain ⟨c2, v2⟩ := nok_spec N2
  have s2p : 0 < S2 := Int.lt_of_lt_of_le (Int.mul_pos (by omega) (ten_pos j)) q1
  have z1 : nt S ≠ [0] := fun c => by rw [c] at v1; have : vl [0] = 0 := rfl; omega
  have z2 : nt S2 ≠ [0] := fun c => by rw [c] at v2; have : vl [0] = 0 := rfl; omega
  have l1 := len_lo _ c1 (limP f).toNat (by rw [v1]; exact hq)
  have l2 := canon_le _ c1 ((limP f).toNat + 1) (by omega) (by rw [v1]; exact hhi)
  have hex : (ea - (k : Int)) / 2 - (j : Int) = ea / 2 - (limP f + 3) := by omega
  have hfin := finN_scale (limP f).toNat (by omega) (limL f) (limH f) mode neg (nt S) (nt S2) ((ea - k) / 2) (!decide (R = 0)) (!decide (R2 = 0)) (ea / 2) j (S2 - S * 10 ^ j) c1 z1 c2 (by rw [v1, v2]; omega) (by omega) (by omega)
    (fun c => by
      have hr : R ≠ 0 := by simpa using c
      rcases q4 hr with d | d
      · exact .inl d
      · exact .inr (by simpa using d))
    (fun c => by
      have hr : R = 0 := by simpa using c
      obtain ⟨d1, d2⟩ := q3 hr
      exact ⟨by omega, by rw [d2]; rfl⟩) (by omega) (by omega)
  unfold finD
  rw [if_neg z1, if_neg z2, hfin, hex]
end Go.Proofs.YtnkoeidolmiheaaGreatDoor
namespace Go.Proofs.YtnkoeidolmiheaaGreatDoor
open Go.RowKit
set_option linter.unusedVariables false
set_option maxRecDepth 100000
theorem halfDown_any (e : Int) (w : World) (h0 : -100000 ≤ e) (h1 : e ≤ 100000) : Calls Tryz.prog 56 #[.int .i64 e] w fun x w' => x = .returned (.int .i64 (e / 2)) ∧ w' = w := by
  have hw : IntKind.i64.wrap (e / 2) = e / 2 := by rw [IntKind.wrap_i64]; omega
  clear h0 h1
  go_enter Tryz.func56, Tryz.ntmps56
  go_wp2
  go_ret
  exact ⟨rfl, rfl⟩
set_option maxRecDepth 100000 in
theorem rootShift_any (b : Nat) (f : Int) (na : Bool) (ea : Int) (sa : ByteArray) (w : World) (hr : Rgn f 1 ea sa) (hc : w.cell? ⟨b, 0, none⟩ = some (.int .i64 (limP f))) (hb : b < w.heap.size) :
    Calls Tryz.prog 51 #[RmV b, numV 1 na ea sa] w fun x w' => x = .returned (.int .i64 (sqK f ea (dl sa).length)) ∧ Below w.heap.size w w' := by
  have hP : 1 ≤ limP f ∧ limP f ≤ 34 := by rcases hr.1 with rfl | rfl <;> decide
  obtain ⟨-, -, -, -, l34, l1, hsz, hea⟩ := hr.tn rfl
  obtain ⟨-, lp, -, -⟩ := hr.2.2.2.1 rfl
  have HR1 : Hid (∀ Y, Y.cell? ⟨b, 0, none⟩ = some (.int .i64 (limP f)) → Calls Tryz.prog 113 #[.string sa, .pointer (some ⟨b, 0, none⟩)] Y fun x w' => x = .returned (.int .i64 (limP f - sa.size)) ∧ w' = Y) := fun Y h => room1_any b (limP f) sa Y h (by omega) hr.small
  have HEn : Hid (∀ args w, (callFunc 113 args).run Tryz.prog w = .ok (.enter 113 args) w) := enters_of Tryz.func113 (by kernel_rfl) rfl
  obtain ⟨s0, hs0⟩ : ∃ s, 2 * limP f - (sa.size : Int) + 1 = s := ⟨_, rfl⟩
  have hw1 : IntKind.i64.wrap (limP f - (sa.size : Int) + 1) = limP f - sa.size + 1 := by rw [IntKind.wrap_i64]; omega
  have hw2 : IntKind.i64.wrap (2 * (limP f - (sa.size : Int) + 1)) = 2 * (limP f - sa.size + 1) := by rw [IntKind.wrap_i64]; omega
  have hw3 : IntKind.i64.wrap (2 * (limP f - (sa.size : Int) + 1) + (sa.size : Int)) = 2 * (limP f - sa.size + 1) + sa.size := by rw [IntKind.wrap_i64]; omega
  have hw4 : IntKind.i64.wrap (2 * (limP f - (sa.size : Int) + 1) + (sa.size : Int) - 1) = s0 := by rw [IntKind.wrap_i64]; omega
  have hw5 : IntKind.i64.wrap (ea - s0) = ea - s0 := by rw [IntKind.wrap_i64]; omega
  have hw6 : IntKind.i64.wrap (s0 + 1) = s0 + 1 := by rw [IntKind.wrap_i64]; omega
  have hwm : IntKind.i64.wrap (Int.tmod (ea - s0) 2) = Int.tmod (ea - s0) 2 := by
    rw [IntKind.wrap_i64]
    have := Int.tmod_lt_of_pos (ea - s0) (show (0 : Int) < 2 by decide)
    have h2 : -2 < Int.tmod (ea - s0) 2 := by
      have := Int.lt_tmod_of_pos (ea - s0) (show (0 : Int) < 2 by decide)
      omega
    omega
  have hKE : (sqK f ea (dl sa).length : Int) = if (ea - s0) % 2 = 0 then s0 else s0 + 1 := by
    unfold sqK
    rw [← hsz, hs0]
    split <;> omega
  have htm : (Int.tmod (ea - s0) 2 = 0) ↔ (ea - s0) % 2 = 0 := by
    rw [← Int.dvd_iff_tmod_eq_zero, ← Int.dvd_iff_emod_eq_zero]
  have HB0 : Hid (w.cell? ⟨b, 0, none⟩ = some (.int .i64 (limP f)) ∧ b < w.heap.size) := ⟨hc, hb⟩
  generalize (sqK f ea (dl sa).length : Int) = KK at *
  have hN : At4r (w.alloc (.cells #[.int .i64 1, .bool na, .int .i64 ea, .string sa] 25)) w.heap.size (.int .i64 1) (.bool na) (.int .i64 ea) (.string sa) ∧ Below w.heap.size w (w.alloc (.cells #[.int .i64 1, .bool na, .int .i64 ea, .string sa] 25)) := ⟨at4r_new w _ _ _ _, (Below.refl _ _).alloc (Nat.le_refl _) _⟩
  have HN : Hid (At4r (w.alloc (.cells #[.int .i64 1, .bool na, .int .i64 ea, .string sa] 25)) w.heap.size (.int .i64 1) (.bool na) (.int .i64 ea) (.string sa) ∧ Below w.heap.size w (w.alloc (.cells #[.int .i64 1, .bool na, .int .i64 ea, .string sa] 25)) ∧ (w.alloc (.cells #[.int .i64 1, .bool na, .int .i64 ea, .string sa] 25)).cell? ⟨b, 0, none⟩ = some (.int .i64 (limP f)) ∧ b < (w.alloc (.cells #[.int .i64 1, .bool na, .int .i64 ea, .string sa] 25)).heap.size) := ⟨hN.1, hN.2, (hN.2.cell (p := ⟨b, 0, none⟩) hb).trans hc, Nat.lt_of_lt_of_le hb hN.2.size⟩
  clear hN hc hb hP l34 l1 hsz hea lp hr HB0 hs0
  generalize limP f = P at *
  generalize P - (sa.size : Int) = room at *
  by_cases hev : (ea - s0) % 2 = 0
  · have t0 : Int.tmod (ea - s0) 2 = 0 := htm.2 hev
    rw [if_pos hev] at hKE
    have EK : Hid (KK = s0) := hKE
    clear htm hev hKE
    have hE := HEn.out
    unfold RmV
    go_enter Tryz.func51, Tryz.ntmps51
    go_upto_region 1 with fail
    generalize w.alloc (.cells #[.int .i64 1, .bool na, .int .i64 ea, .string sa] 25) = w0 at *
    have HX0 : Hid (Below w0.heap.size w0 w0.drew) := (Below.refl _ _).drew
    refine wp_region_class (C := fun W => Below w0.heap.size w0 W) (by kernel_rfl) (by kernel_rfl) HX0.out ?_
    repeat (refine wpQuiet_step (fun K hK => ?_); go_simp; first | (refine hK _ ?_; clear hK K) | (apply Exists.intro; refine ⟨fun wx hC => ?_, hK _ ?_⟩; (first | exact rfl | (have hcc := (hC.cell (p := ⟨b, 0, none⟩) HN.out.2.2.2).trans HN.out.2.2.1; (with_reducible refine (HR1.out wx hcc).mono ?_); rintro x w' ⟨rfl, rfl⟩; exact ⟨rfl, hC⟩) | (obtain ⟨a0, a1, a2, a3, a4⟩ := (HN.out.1.next hC).cells; go_simp; exact rfl)); clear hK K))
    refine wpQuiet_nil ?_
    intro w1 hb1
    have HN1 : Hid (At4r w1 w.heap.size (.int .i64 1) (.bool na) (.int .i64 ea) (.string sa) ∧ Below w.heap.size w w1) := ⟨HN.out.1.next hb1, HN.out.2.1.trans (hb1.mono HN.out.2.1.size)⟩
    clear hb1 HN HX0 HR1 hE HEn hw1 hw2 hw3 hw4
    obtain ⟨a0, a1, a2, a3, a4⟩ := HN1.out.1.cells
    go_wp2
    go_ret
    exact ⟨by rw [EK.out]; rfl, HN1.out.2⟩
  · have t0 : (Int.tmod (ea - s0) 2 == 0) = false := beq_eq_false_iff_ne.2 (fun c => hev (htm.1 c))
    rw [if_neg hev] at hKE
    have EK : Hid (KK = s0 + 1) := hKE
    clear htm hev hKE
    have hE := HEn.out
    unfold RmV
    go_enter Tryz.func51, Tryz.ntmps51
    go_upto_region 1 with fail
    generalize w.alloc (.cells #[.int .i64 1, .bool na, .int .i64 ea, .string sa] 25) = w0 at *
    have HX0 : Hid (Below w0.heap.size w0 w0.drew) := (Below.refl _ _).drew
    refine wp_region_class (C := fun W => Below w0.heap.size w0 W) (by kernel_rfl) (by kernel_rfl) HX0.out ?_
    repeat (refine wpQuiet_step (fun K hK => ?_); go_simp; first | (refine hK _ ?_; clear hK K) | (apply Exists.intro; refine ⟨fun wx hC => ?_, hK _ ?_⟩; (first | exact rfl | (have hcc := (hC.cell (p := ⟨b, 0, none⟩) HN.out.2.2.2).trans HN.out.2.2.1; (with_reducible refine (HR1.out wx hcc).mono ?_); rintro x w' ⟨rfl, rfl⟩; exact ⟨rfl, hC⟩) | (obtain ⟨a0, a1, a2, a3, a4⟩ := (HN.out.1.next hC).cells; go_simp; exact rfl)); clear hK K))
    refine wpQuiet_nil ?_
    intro w1 hb1
    have HN1 : Hid (At4r w1 w.heap.size (.int .i64 1) (.bool na) (.int .i64 ea) (.string sa) ∧ Below w.heap.size w w1) := ⟨HN.out.1.next hb1, HN.out.2.1.trans (hb1.mono HN.out.2.1.size)⟩
    clear hb1 HN HX0 HR1 hE HEn hw1 hw2 hw3 hw4
    obtain ⟨a0, a1, a2, a3, a4⟩ := HN1.out.1.cells
    go_wp2
    go_ret
    exact ⟨by rw [EK.out]; rfl, HN1.out.2⟩
/-- What Sqrt's closure sees. -/
def Cp3 (X : World) (p : Nat) (f mode : Int) (ka : Int) (na : Bool) (ea : Int) (sa : ByteArray) : Prop := X.cell? ⟨p, 0, none⟩ = some (.int .i64 f) ∧ X.cell? ⟨p + 1, 0, none⟩ = some (.int .i64 mode) ∧ At4r X (p + 2) (.int .i64 ka) (.bool na) (.int .i64 ea) (.string sa)
theorem Cp3.next {X X' : World} {p : Nat} {f mode : Int} {ka : Int} {na : Bool} {ea : Int} {sa : ByteArray} (h : Cp3 X p f mode ka na ea sa) (hb : Below X.heap.size X X') : Cp3 X' p f mode ka na ea sa := by
  have l := h.2.2.lt
  exact ⟨(hb.cell (p := ⟨p, 0, none⟩) (show p < X.heap.size by omega)).trans h.1, (hb.cell (p := ⟨p + 1, 0, none⟩) (show p + 1 < X.heap.size by omega)).trans h.2.1, h.2.2.next hb⟩
theorem ti1_any (k : Int) (n : Bool) (e : Int) (s : ByteArray) (W : World) : Calls Tryz.prog 50 #[.slice (some ⟨W.heap.size, 0, none⟩) 1 1] (W.alloc (.cells #[.int .i64 k, .bool n, .int .i64 e, .string s] 25)) fun x w' => x = (if k = 2 then thrown (rsV k n e s 0) else .returned (.tuple #[])) ∧ Below (W.alloc (.cells #[.int .i64 k, .bool n, .int .i64 e, .string s] 25)).heap.size (W.alloc (.cells #[.int .i64 k, .bool n, .int .i64 e, .string s] 25)) w' := by
  have := throwInfinity_any 1 W.heap.size (fun _ => k) (fun _ => n) (fun _ => e) (fun _ => s) (W.alloc (.cells #[.int .i64 k, .bool n, .int .i64 e, .string s] 25)) (by decide) (by rw [new_size]; omega) (nrwO (heap_at W _))
  refine this.mono ?_
  rintro x w' ⟨rfl, hb⟩
  refine ⟨?_, hb⟩
  by_cases h : k = 2
  · subst h
    simp [tiE, tiX, tiA]
  · simp [tiE, tiX, tiA, h]
theorem rt_one (S R S' R' : Int) {M : Int} (h : Rt M S R) (h' : Rt M S' R') : S = S' ∧ R = R' := by
  obtain ⟨e, s0, r0, r1⟩ := h
  obtain ⟨e', s0', r0', r1'⟩ := h'
  have key : ∀ a b c d : Int, a * a + b = M → 0 ≤ a → 0 ≤ b → b ≤ 2 * a → c * c + d = M → 0 ≤ c → 0 ≤ d → ¬ a < c := fun a b c d h1 h2 h3 h4 h5 h6 h7 h8 => by
    have q := sq_le (show 0 ≤ a + 1 by omega) (show a + 1 ≤ c by omega)
    have x : (a + 1) * (a + 1) = a * a + 2 * a + 1 := by grind
    omega
  have k1 := key S R S' R' e s0 r0 r1 e' s0' r0'
  have k2 := key S' R' S R e' s0' r0' r1' e s0 r0
  have es : S = S' := by omega
  subst es
  exact ⟨rfl, by omega⟩
/-- What lies in memory while a root is worked out. -/
def ZS (X : World) (p : Nat) (f mode : Int) (na : Bool) (ea : Int) (sa : ByteArray) (W : World) : Prop := At5 W X.heap.size (.int .i64 0) (.bool false) (.int .i64 0) (.string { data := #[] }) (.int .i64 0) ∧ Below X.heap.size X W ∧ Cp3 W p f mode 1 na ea sa
theorem ZS.next {X W W' : World} {p : Nat} {f mode : Int} {na : Bool} {ea : Int} {sa : ByteArray} (h : ZS X p f mode na ea sa W) (hb : Below W.heap.size W W') : ZS X p f mode na ea sa W' := ⟨h.1.below hb h.1.lt, h.2.1.trans (hb.mono h.2.1.size), h.2.2.next hb⟩
set_option maxRecDepth 100000 in
set_option maxHeartbeats 4000000 in
theorem sqrt1_any (p : Nat) (f mode : Int) (ka : Int) (na : Bool) (ea : Int) (sa : ByteArray) (S : Int) (zz : Bool) (X : World) (hm : 1 ≤ mode ∧ mode ≤ 5) (hr : Rgn f ka ea sa) (hS : SqH f ea sa S zz) (hC : Cp3 X p f mode ka na ea sa) :
    Calls Tryz.prog 47 #[.pointer (some ⟨p + 2, 0, none⟩), .pointer (some ⟨p, 0, none⟩), .pointer (some ⟨p + 1, 0, none⟩)] X fun x w' => (x = .returned (rsD (sqX f mode ka na ea sa S zz).1 (sqX f mode ka na ea sa S zz).2) ∨ x = thrown (rsD (sqX f mode ka na ea sa S zz).1 (sqX f mode ka na ea sa S zz).2)) ∧ Below X.heap.size X w' := by
  have hb0 : Below X.heap.size X (X.alloc (.cells #[.int .i64 0, .bool false, .int .i64 0, .string { data := #[] }, .int .i64 0] 29)) := (Below.refl _ _).alloc (Nat.le_refl _) _
  have HZ : Hid (At5 (X.alloc (.cells #[.int .i64 0, .bool false, .int .i64 0, .string { data := #[] }, .int .i64 0] 29)) X.heap.size (.int .i64 0) (.bool false) (.int .i64 0) (.string { data := #[] }) (.int .i64 0) ∧ Below X.heap.size X (X.alloc (.cells #[.int .i64 0, .bool false, .int .i64 0, .string { data := #[] }, .int .i64 0] 29)) ∧ Cp3 (X.alloc (.cells #[.int .i64 0, .bool false, .int .i64 0, .string { data := #[] }, .int .i64 0] 29)) p f mode ka na ea sa) := ⟨at5_new X _ _ _ _ _, hb0, hC.next hb0⟩
  have HNa : Hid (∀ Y, Calls Tryz.prog 48 #[numV ka na ea sa] Y fun x w' => x = .returned (.bool (zB ka sa)) ∧ Below Y.heap.size Y w') := fun Y => isNought_rgn hr na Y
  have HTi : Hid (∀ W : World, Calls Tryz.prog 50 #[.slice (some ⟨W.heap.size, 0, none⟩) 1 1] (W.alloc (.cells #[.int .i64 ka, .bool na, .int .i64 ea, .string sa] 25)) fun x w' => x = (if ka = 2 then thrown (rsV ka na ea sa 0) else .returned (.tuple #[])) ∧ Below (W.alloc (.cells #[.int .i64 ka, .bool na, .int .i64 ea, .string sa] 25)).heap.size (W.alloc (.cells #[.int .i64 ka, .bool na, .int .i64 ea, .string sa] 25)) w') := fun W => ti1_any ka na ea sa W
  have HT0 : Hid (Calls Tryz.prog 50 #[.slice (some ⟨X.heap.size + 1, 0, none⟩) 1 1] ((X.alloc (.cells #[.int .i64 0, .bool false, .int .i64 0, .string { data := #[] }, .int .i64 0] 29)).alloc (.cells #[.int .i64 ka, .bool na, .int .i64 ea, .string sa] 25)) fun x w' => x = (if ka = 2 then thrown (rsV ka na ea sa 0) else .returned (.tuple #[])) ∧ Below ((X.alloc (.cells #[.int .i64 0, .bool false, .int .i64 0, .string { data := #[] }, .int .i64 0] 29)).alloc (.cells #[.int .i64 ka, .bool na, .int .i64 ea, .string sa] 25)).heap.size ((X.alloc (.cells #[.int .i64 0, .bool false, .int .i64 0, .string { data := #[] }, .int .i64 0] 29)).alloc (.cells #[.int .i64 ka, .bool na, .int .i64 ea, .string sa] 25)) w') := by
    have := HTi.out (X.alloc (.cells #[.int .i64 0, .bool false, .int .i64 0, .string { data := #[] }, .int .i64 0] 29))
    rwa [new_size] at this
  obtain ⟨R, hR⟩ : ∃ R, sqX f mode ka na ea sa S zz = R := ⟨_, rfl⟩
  rw [hR]
  unfold sqX at hR
  obtain ⟨q0, q1, qa⟩ := HZ.out.2.2
  obtain ⟨a0, a1, a2, a3, a4⟩ := qa.cells
  clear qa hb0 hC
  by_cases hinv : na = true ∧ zB ka sa = false
  · rw [if_pos hinv] at hR
    subst hR
    obtain ⟨rfl, hz⟩ := hinv
    rw [hz] at HNa
    clear hr hm hz hS HTi HT0
    go_enter Tryz.func47, Tryz.ntmps47
    go_wp2_with fail
    refine (HNa.out _).mono ?_
    rintro x w1 ⟨rfl, hb1⟩
    have HB1 : Hid (Below X.heap.size X w1) := HZ.out.2.1.trans (hb1.mono HZ.out.2.1.size)
    clear hb1 HZ HNa q0 q1 a0 a1 a2 a3 a4
    go_wp2_with fail
    refine (iInvalid_any _).mono ?_
    rintro x w4 ⟨rfl, hb4⟩
    go_wp2
    exact ⟨rfl, .inr rfl, HB1.out.trans (hb4.mono HB1.out.size)⟩
  rw [if_neg hinv] at hR
  by_cases hA : ka = 2
  · subst hA
    have hn0 : na = false := by
      cases na with
      | false => rfl
      | true => exact absurd ⟨rfl, rfl⟩ hinv
    subst hn0
    obtain ⟨rfl, rfl⟩ := hr.2.2.2.2 rfl
    rw [if_pos rfl] at hR HT0
    subst hR
    clear hr hm hinv hS HTi HNa
    go_enter Tryz.func47, Tryz.ntmps47
    go_wp2_with fail
    refine HT0.out.mono ?_
    rintro x w1 ⟨rfl, hb1⟩
    have hbq : Below X.heap.size X ((X.alloc (.cells #[.int .i64 0, .bool false, .int .i64 0, .string { data := #[] }, .int .i64 0] 29)).alloc (.cells #[.int .i64 2, .bool false, .int .i64 0, .string { data := #[] }] 25)) := HZ.out.2.1.alloc HZ.out.2.1.size _
    go_wp2
    exact ⟨rfl, .inr rfl, hbq.trans (hb1.mono hbq.size)⟩
  have hk1 : ka = 1 := hr.2.2.1.resolve_right hA
  subst hk1
  rw [if_neg hA] at hR HTi HT0
  obtain ⟨hsa, nka, v0a, -, l34a, l1a, hszA, hea⟩ := hr.tn rfl
  obtain ⟨ca, lpa, -, -⟩ := hr.2.2.2.1 rfl
  have hP : 1 ≤ limP f ∧ limP f ≤ 34 := by rcases hr.1 with rfl | rfl <;> decide
  obtain ⟨RR, hRt, hzz⟩ := hS v0a
  obtain ⟨n1, nS, nR, hhi, hlo, hze, hpar⟩ := sq_size f hr.1 (dl sa) ca lpa ea S RR hRt
  have HRs : Hid (∀ (b : Nat) Y, Y.cell? ⟨b, 0, none⟩ = some (.int .i64 (limP f)) → b < Y.heap.size → Calls Tryz.prog 51 #[RmV b, numV 1 na ea sa] Y fun x w' => x = .returned (.int .i64 (sqK f ea (dl sa).length)) ∧ Below Y.heap.size Y w') := fun b Y h1 h2 => rootShift_any b f na ea sa Y hr h1 h2
  have hkb : (sqK f ea (dl sa).length : Int) ≤ 100 := by unfold sqK; split <;> omega
  obtain ⟨k, hk⟩ : ∃ k, sqK f ea (dl sa).length = k := ⟨_, rfl⟩
  rw [hk] at HRs hRt n1 hpar hkb hR
  have HSh : Hid (∀ Y, Calls Tryz.prog 54 #[.string sa, .int .i64 k] Y fun e w' => e = .returned (.string (tn (vl (dl sa) * 10 ^ k))) ∧ Below Y.heap.size Y w') := fun Y => by
    have := iNatShift_any (tn (vl (dl sa))) k Y (tnSz _)
    rw [shift_tn nka (by simpa using n1) (by omega) (by omega), ← hsa] at this
    simpa using this
  have HRo : Hid (∀ Y, Calls Tryz.prog 53 #[.string (tn (vl (dl sa) * 10 ^ k))] Y fun e w' => e = .returned (.tuple #[.string (tn S), .string (tn RR)]) ∧ Below Y.heap.size Y w') := fun Y => by
    refine (iNatRoot_yes (tn (vl (dl sa) * 10 ^ k)) Y (tnSz _) (tn_ok n1)).mono ?_
    rintro e w' ⟨S', R', rfl, e1, s0, r0, r1, hb⟩
    rw [nv_tn n1] at e1
    obtain ⟨rfl, rfl⟩ := rt_one S' R' S RR ⟨e1, s0, r0, r1⟩ hRt
    exact ⟨rfl, hb⟩
  have hz0 : ((tn RR).toList == [48]) = zz := by
    rw [← hzz]
    by_cases c : RR = 0
    · rw [c, tn_0]; rfl
    · rw [tn_is0 nR c, decide_eq_false c]
  have HFi : Hid (∀ Y, Calls Tryz.prog 55 #[.int .i64 f, .int .i64 mode, .bool na, .string (tn S), .int .i64 ((ea - k) / 2), .bool (!zz), .int .i64 (ea / 2)] Y fun x w' => x = .returned (rsD R.1 R.2) ∧ Below Y.heap.size Y w') := fun Y => by
    obtain ⟨cq, vq⟩ := nok_spec nS
    have := iFinish_both f mode hr.1 hm na (nt S) ((ea - k) / 2) (!zz) (ea / 2) Y cq (nok_len nS) (fun h => by
      have hne : vl (dl sa) ≠ 0 := fun c => by
        rw [(hze c).2] at hzz
        rw [← hzz] at h
        cases h
      have h1 := hlo hne
      have h2 := len_lo _ cq (limP f).toNat (by rw [vq]; exact h1)
      refine ⟨fun c => ?_, by omega⟩
      rw [c] at h2
      simp at h2
      omega) (by omega) (by omega)
    rw [← hR]
    dsimp only
    exact this
  have HH1 : Hid (∀ Y, Calls Tryz.prog 56 #[.int .i64 (ea - k)] Y fun x w' => x = .returned (.int .i64 ((ea - k) / 2)) ∧ w' = Y) := fun Y => halfDown_any (ea - k) Y (by omega) (by omega)
  have HH2 : Hid (∀ Y, Calls Tryz.prog 56 #[.int .i64 ea] Y fun x w' => x = .returned (.int .i64 (ea / 2)) ∧ w' = Y) := fun Y => halfDown_any ea Y (by omega) (by omega)
  have hw1 : IntKind.i64.wrap (ea - (k : Int)) = ea - k := by rw [IntKind.wrap_i64]; omega
  have HRm : Hid (∀ Y, Calls Tryz.prog 52 #[.int .i64 f] Y fun x w' => ∃ b, x = .returned (RmV b) ∧ w'.cell? ⟨b, 0, none⟩ = some (.int .i64 (limP f)) ∧ Y.heap.size ≤ b ∧ b < w'.heap.size ∧ Below Y.heap.size Y w') := fun Y => roomIn_any f Y
  have hzn : na = true → zB 1 sa = true := fun h => by
    cases hq : zB 1 sa with
    | true => rfl
    | false => exact absurd ⟨h, hq⟩ hinv
  clear hr hm hinv hS hA hR hsa nka v0a l34a l1a hszA hea ca lpa hP hRt hzz n1 nS nR hhi hlo hze hpar hkb hk
  generalize tn (vl (dl sa) * 10 ^ k) = TM at *
  generalize tn S = TS at *
  generalize tn RR = TR at *
  generalize limP f = P at *
  generalize (k : Int) = K1 at *
  generalize (ea - K1) / 2 = E1 at *
  generalize ea / 2 = E2 at *
  obtain ⟨R0, F1, F2, F3, F4⟩ := R
  have hq1 : Below X.heap.size X ((X.alloc (.cells #[.int .i64 0, .bool false, .int .i64 0, .string { data := #[] }, .int .i64 0] 29)).alloc (.cells #[.int .i64 1, .bool na, .int .i64 ea, .string sa] 25)) := HZ.out.2.1.alloc HZ.out.2.1.size _
  have main : ∀ w2, ZS X p f mode na ea sa w2 → Hid (ZS X p f mode na ea sa w2) := fun _ h => h
  cases na with
  | true =>
    rw [hzn rfl] at HNa
    go_enter Tryz.func47, Tryz.ntmps47
    go_wp2_with fail
    refine (HNa.out _).mono ?_
    rintro x w1 ⟨rfl, hb1⟩
    have HZ1 : Hid (ZS X p f mode true ea sa w1) := ⟨HZ.out.1.below hb1 HZ.out.1.lt, HZ.out.2.1.trans (hb1.mono HZ.out.2.1.size), HZ.out.2.2.next hb1⟩
    clear hb1 HZ HNa q0 q1 a0 a1 a2 a3 a4 HT0 hzn hq1 main
    obtain ⟨q0, q1, qa⟩ := HZ1.out.2.2
    obtain ⟨a0, a1, a2, a3, a4⟩ := qa.cells
    clear qa
    go_wp2_with fail
    refine (HTi.out _).mono ?_
    rintro x w2 ⟨rfl, hb2⟩
    have hb3 : Below w1.heap.size w1 (w1.alloc (.cells #[.int .i64 1, .bool true, .int .i64 ea, .string sa] 25)) := (Below.refl _ _).alloc (Nat.le_refl _) _
    have HZ2 : Hid (ZS X p f mode true ea sa w2) := (HZ1.out.next hb3).next hb2
    clear hb2 hb3 HZ1 HTi q0 q1 a0 a1 a2 a3 a4
    obtain ⟨q0, q1, qa⟩ := HZ2.out.2.2
    obtain ⟨a0, a1, a2, a3, a4⟩ := qa.cells
    clear qa
    go_upto_region 4 with fail
    go_cut [4] (fun s wx => s = .int .i64 K1 ∧ Hid (ZS X p f mode true ea sa wx))
    case first =>
      go_region_with (first
        | (go_at_call 52; refine (HRm.out _).mono ?_; rintro x w3 ⟨b, rfl, hb, hle, hlt, hb3x⟩; have hb3 : Below w2.heap.size w2 w3 := (Below.refl w2.heap.size w2).drew.trans (hb3x.mono (Nat.le_refl _)); have HJ : Hid (ZS X p f mode true ea sa w3) := HZ2.out.next hb3; have HB : Hid (w3.cell? ⟨b, 0, none⟩ = some (.int .i64 P) ∧ b < w3.heap.size) := ⟨hb, hlt⟩; clear hb hle hlt hb3x hb3 q0 q1 a0 a1 a2 a3 a4; obtain ⟨a0, a1, a2, a3, a4⟩ := HJ.out.2.2.2.2.cells)
        | (go_at_call 51; refine (HRs.out b _ HB.out.1 HB.out.2).mono ?_; rintro x w4 ⟨rfl, hb4⟩; have HJ4 : Hid (ZS X p f mode true ea sa w4) := HJ.out.next hb4; clear hb4))
      all_goals
        go_wp2
        go_meet
        case rel => exact ⟨rfl, HJ4⟩
    case rest =>
      obtain ⟨rfl, HJ⟩ := hcut
      clear HZ2 HRm HRs q0 q1 a0 a1 a2 a3 a4
      obtain ⟨q0, q1, qa⟩ := HJ.out.2.2
      obtain ⟨a0, a1, a2, a3, a4⟩ := qa.cells
      clear qa
      go_wp2_with fail
      refine (HSh.out _).mono ?_
      rintro x w5 ⟨rfl, hb5⟩
      have HJ5 : Hid (ZS X p f mode true ea sa w5) := HJ.out.next hb5
      clear hb5 HJ HSh q0 q1 a0 a1 a2 a3 a4
      go_wp2_with fail
      refine (HRo.out _).mono ?_
      rintro x w6 ⟨rfl, hb6⟩
      have HJ6 : Hid (ZS X p f mode true ea sa w6) := HJ5.out.next hb6
      clear hb6 HJ5 HRo
      go_upto_region 6 with fail
      have HX1 : Hid (Below w6.heap.size w6 w6.drew) := (Below.refl _ _).drew
      refine wp_region_tail (C := fun W => Below w6.heap.size w6 W) 16 (by kernel_rfl) (by kernel_rfl) HX1.out ?_
      simp only [List.take_succ_cons, List.take_zero, List.drop_succ_cons, List.drop_zero]
      repeat (refine wpQuiet_step (fun K hK => ?_); go_simp; first | (refine hK _ ?_; clear hK K) | (apply Exists.intro; refine ⟨fun wx hC => ?_, hK _ ?_⟩; (first | exact rfl | ((with_reducible refine (HH1.out wx).mono ?_); rintro x w' ⟨rfl, rfl⟩; exact ⟨rfl, hC⟩) | ((with_reducible refine (HH2.out wx).mono ?_); rintro x w' ⟨rfl, rfl⟩; exact ⟨rfl, hC⟩) | ((with_reducible refine Calls.class_of (HFi.out wx) ?_); exact fun w' hb => bel1 hC hb) | (obtain ⟨q0, q1, qa⟩ := (HJ6.out.next hC).2.2; clear qa; go_simp; exact rfl) | (obtain ⟨q0, q1, qa⟩ := (HJ6.out.next hC).2.2; obtain ⟨a0, a1, a2, a3, a4⟩ := qa.cells; go_simp; exact rfl)); clear hK K))
      refine wpQuiet_nil ?_
      intro w7 hb7
      have HZ7 : Hid (At5 w7 X.heap.size (.int .i64 0) (.bool false) (.int .i64 0) (.string { data := #[] }) (.int .i64 0) ∧ Below X.heap.size X w7) := ⟨(HJ6.out.next hb7).1, (HJ6.out.next hb7).2.1⟩
      clear hb7 HJ6 HX1 HFi HH1 HH2
      go_wp2_with (refine wpList_store_row rfl 29 (.tmp 3) (.tmp 46) rfl X.heap.size #[.int .i64 F1, .bool R0, .int .i64 F2, .string F3, .int .i64 F4] rfl rfl _ _ HZ7.out.1 (by kernel_rfl) rfl (one5 _ _ _ _ _) ?_)
      have hP := (HZ7.out.1.row (.int .i64 F1) (.bool R0) (.int .i64 F2) (.string F3) (.int .i64 F4)).cells
      refine bodyPost_ret (results_res rfl _ _ rfl hP.1 hP.2.1 hP.2.2.1 hP.2.2.2.1 hP.2.2.2.2.1) rfl ?_
      exact ⟨.inl rfl, bel_row HZ7.out.2 (Nat.le_refl _) _⟩
  | false =>
    clear HTi hzn main HNa
    go_enter Tryz.func47, Tryz.ntmps47
    go_wp2_with fail
    refine HT0.out.mono ?_
    rintro x w2 ⟨rfl, hb2⟩
    have hb3 : Below (X.alloc (.cells #[.int .i64 0, .bool false, .int .i64 0, .string { data := #[] }, .int .i64 0] 29)).heap.size (X.alloc (.cells #[.int .i64 0, .bool false, .int .i64 0, .string { data := #[] }, .int .i64 0] 29)) ((X.alloc (.cells #[.int .i64 0, .bool false, .int .i64 0, .string { data := #[] }, .int .i64 0] 29)).alloc (.cells #[.int .i64 1, .bool false, .int .i64 ea, .string sa] 25)) := (Below.refl _ _).alloc (Nat.le_refl _) _
    have hz0' : ZS X p f mode false ea sa (X.alloc (.cells #[.int .i64 0, .bool false, .int .i64 0, .string { data := #[] }, .int .i64 0] 29)) := HZ.out
    have HZ2 : Hid (ZS X p f mode false ea sa w2) := (hz0'.next hb3).next hb2
    clear hb2 hb3 HZ hz0' HT0 q0 q1 a0 a1 a2 a3 a4 hq1
    obtain ⟨q0, q1, qa⟩ := HZ2.out.2.2
    obtain ⟨a0, a1, a2, a3, a4⟩ := qa.cells
    clear qa
    go_upto_region 4 with fail
    go_cut [4] (fun s wx => s = .int .i64 K1 ∧ Hid (ZS X p f mode false ea sa wx))
    case first =>
      go_region_with (first
        | (go_at_call 52; refine (HRm.out _).mono ?_; rintro x w3 ⟨b, rfl, hb, hle, hlt, hb3x⟩; have hb3 : Below w2.heap.size w2 w3 := (Below.refl w2.heap.size w2).drew.trans (hb3x.mono (Nat.le_refl _)); have HJ : Hid (ZS X p f mode false ea sa w3) := HZ2.out.next hb3; have HB : Hid (w3.cell? ⟨b, 0, none⟩ = some (.int .i64 P) ∧ b < w3.heap.size) := ⟨hb, hlt⟩; clear hb hle hlt hb3x hb3 q0 q1 a0 a1 a2 a3 a4; obtain ⟨a0, a1, a2, a3, a4⟩ := HJ.out.2.2.2.2.cells)
        | (go_at_call 51; refine (HRs.out b _ HB.out.1 HB.out.2).mono ?_; rintro x w4 ⟨rfl, hb4⟩; have HJ4 : Hid (ZS X p f mode false ea sa w4) := HJ.out.next hb4; clear hb4))
      all_goals
        go_wp2
        go_meet
        case rel => exact ⟨rfl, HJ4⟩
    case rest =>
      obtain ⟨rfl, HJ⟩ := hcut
      clear HZ2 HRm HRs q0 q1 a0 a1 a2 a3 a4
      obtain ⟨q0, q1, qa⟩ := HJ.out.2.2
      obtain ⟨a0, a1, a2, a3, a4⟩ := qa.cells
      clear qa
      go_wp2_with fail
      refine (HSh.out _).mono ?_
      rintro x w5 ⟨rfl, hb5⟩
      have HJ5 : Hid (ZS X p f mode false ea sa w5) := HJ.out.next hb5
      clear hb5 HJ HSh q0 q1 a0 a1 a2 a3 a4
      go_wp2_with fail
      refine (HRo.out _).mono ?_
      rintro x w6 ⟨rfl, hb6⟩
      have HJ6 : Hid (ZS X p f mode false ea sa w6) := HJ5.out.next hb6
      clear hb6 HJ5 HRo
      go_upto_region 6 with fail
      have HX1 : Hid (Below w6.heap.size w6 w6.drew) := (Below.refl _ _).drew
      refine wp_region_tail (C := fun W => Below w6.heap.size w6 W) 16 (by kernel_rfl) (by kernel_rfl) HX1.out ?_
      simp only [List.take_succ_cons, List.take_zero, List.drop_succ_cons, List.drop_zero]
      repeat (refine wpQuiet_step (fun K hK => ?_); go_simp; first | (refine hK _ ?_; clear hK K) | (apply Exists.intro; refine ⟨fun wx hC => ?_, hK _ ?_⟩; (first | exact rfl | ((with_reducible refine (HH1.out wx).mono ?_); rintro x w' ⟨rfl, rfl⟩; exact ⟨rfl, hC⟩) | ((with_reducible refine (HH2.out wx).mono ?_); rintro x w' ⟨rfl, rfl⟩; exact ⟨rfl, hC⟩) | ((with_reducible refine Calls.class_of (HFi.out wx) ?_); exact fun w' hb => bel1 hC hb) | (obtain ⟨q0, q1, qa⟩ := (HJ6.out.next hC).2.2; clear qa; go_simp; exact rfl) | (obtain ⟨q0, q1, qa⟩ := (HJ6.out.next hC).2.2; obtain ⟨a0, a1, a2, a3, a4⟩ := qa.cells; go_simp; exact rfl)); clear hK K))
      refine wpQuiet_nil ?_
      intro w7 hb7
      have HZ7 : Hid (At5 w7 X.heap.size (.int .i64 0) (.bool false) (.int .i64 0) (.string { data := #[] }) (.int .i64 0) ∧ Below X.heap.size X w7) := ⟨(HJ6.out.next hb7).1, (HJ6.out.next hb7).2.1⟩
      clear hb7 HJ6 HX1 HFi HH1 HH2
      go_wp2_with (refine wpList_store_row rfl 29 (.tmp 3) (.tmp 46) rfl X.heap.size #[.int .i64 F1, .bool R0, .int .i64 F2, .string F3, .int .i64 F4] rfl rfl _ _ HZ7.out.1 (by kernel_rfl) rfl (one5 _ _ _ _ _) ?_)
      have hP := (HZ7.out.1.row (.int .i64 F1) (.bool R0) (.int .i64 F2) (.string F3) (.int .i64 F4)).cells
      refine bodyPost_ret (results_res rfl _ _ rfl hP.1 hP.2.1 hP.2.2.1 hP.2.2.2.1 hP.2.2.2.2.1) rfl ?_
      exact ⟨.inl rfl, bel_row HZ7.out.2 (Nat.le_refl _) _⟩
set_option maxRecDepth 100000 in
set_option maxHeartbeats 1000000 in
theorem iSqrt_any (f mode : Int) (ka : Int) (na : Bool) (ea : Int) (sa : ByteArray) (S : Int) (zz : Bool) (w : World) (hsa : sa.size ≤ 4611686018427387904) (hS : SqH f ea sa S zz) :
    Calls Tryz.prog 10 #[.int .i64 f, .int .i64 mode, numV ka na ea sa] w fun x w' => x = .returned (rsD (sqR f mode ka na ea sa S zz).1 (sqR f mode ka na ea sa S zz).2) ∧ Below w.heap.size w w' := by
  have hmf : ∀ (fn : Fn) (first cap : Array Value) (w : World), (Instr.makeFunc fn first cap).run Tryz.prog w = .ok (.func fn first cap) w := fun _ _ _ _ => rfl
  have HE : Hid (∀ args w, (callFunc 47 args).run Tryz.prog w = .ok (.enter 47 args) w) := enters_of Tryz.func47 (by kernel_rfl) rfl
  obtain ⟨W, hW⟩ : ∃ W, (((w.alloc (.cells #[.int .i64 f] 2)).alloc (.cells #[.int .i64 mode] 2)).alloc (.cells #[.int .i64 ka, .bool na, .int .i64 ea, .string sa] 25)).alloc (.cells #[.int .i64 0, .bool false, .int .i64 0, .string { data := #[] }, .int .i64 0] 29) = W := ⟨_, rfl⟩
  have hN : Cp3 W w.heap.size f mode ka na ea sa ∧ At5 W (w.heap.size + 3) (.int .i64 0) (.bool false) (.int .i64 0) (.string { data := #[] }) (.int .i64 0) ∧ Below w.heap.size w W ∧ W.heap.size = w.heap.size + 4 := by
    rw [← hW]
    have c1 := new_cell1 w (.int .i64 f) 2
    have z1 := new_size w (.cells #[.int .i64 f] 2)
    have b1 : Below w.heap.size w (w.alloc (.cells #[.int .i64 f] 2)) := (Below.refl _ _).alloc (Nat.le_refl _) _
    generalize w.alloc (.cells #[.int .i64 f] 2) = w1 at *
    have c2 := new_cell1 w1 (.int .i64 mode) 2
    have z2 := new_size w1 (.cells #[.int .i64 mode] 2)
    have b2 : Below w1.heap.size w1 (w1.alloc (.cells #[.int .i64 mode] 2)) := (Below.refl _ _).alloc (Nat.le_refl _) _
    generalize w1.alloc (.cells #[.int .i64 mode] 2) = w2 at *
    have h3 := at4r_new w2 (.int .i64 ka) (.bool na) (.int .i64 ea) (.string sa)
    have z3 := new_size w2 (.cells #[.int .i64 ka, .bool na, .int .i64 ea, .string sa] 25)
    have b3 : Below w2.heap.size w2 (w2.alloc (.cells #[.int .i64 ka, .bool na, .int .i64 ea, .string sa] 25)) := (Below.refl _ _).alloc (Nat.le_refl _) _
    generalize w2.alloc (.cells #[.int .i64 ka, .bool na, .int .i64 ea, .string sa] 25) = w3 at *
    have h4 := at5_new w3 (.int .i64 0) (.bool false) (.int .i64 0) (.string { data := #[] }) (.int .i64 0)
    have z4 := new_size w3 (.cells #[.int .i64 0, .bool false, .int .i64 0, .string { data := #[] }, .int .i64 0] 29)
    have b4 : Below w3.heap.size w3 (w3.alloc (.cells #[.int .i64 0, .bool false, .int .i64 0, .string { data := #[] }, .int .i64 0] 29)) := (Below.refl _ _).alloc (Nat.le_refl _) _
    rw [z1] at c2
    rw [z2, z1] at h3
    rw [z3, z2, z1] at h4
    have b34 := b3.trans (b4.mono b3.size)
    have b24 := b2.trans (b34.mono b2.size)
    exact ⟨⟨(b24.cell (p := ⟨w.heap.size, 0, none⟩) (show w.heap.size < w1.heap.size by omega)).trans c1, (b34.cell (p := ⟨w.heap.size + 1, 0, none⟩) (show w.heap.size + 1 < w2.heap.size by omega)).trans c2, h3.next b4⟩, h4, b1.trans (b24.mono b1.size), by omega⟩
  have hb5 : Below W.heap.size W (W.alloc (.cells #[.int .i64 ka, .bool na, .int .i64 ea, .string sa] 25)) := (Below.refl _ _).alloc (Nat.le_refl _) _
  have hg := heap_at W (.cells #[.int .i64 ka, .bool na, .int .i64 ea, .string sa] 25)
  have hz5 := new_size W (.cells #[.int .i64 ka, .bool na, .int .i64 ea, .string sa] 25)
  have HO : Hid (Calls Tryz.prog 46 #[.int .i64 f, .int .i64 mode, .func (.func 47) #[] #[.pointer (some ⟨w.heap.size + 2, 0, none⟩), .pointer (some ⟨w.heap.size, 0, none⟩), .pointer (some ⟨w.heap.size + 1, 0, none⟩)], .slice (some ⟨W.heap.size, 0, none⟩) 1 1] (W.alloc (.cells #[.int .i64 ka, .bool na, .int .i64 ea, .string sa] 25)) fun x w' => x = .returned (rsD (sqR f mode ka na ea sa S zz).1 (sqR f mode ka na ea sa S zz).2) ∧ Below (W.alloc (.cells #[.int .i64 ka, .bool na, .int .i64 ea, .string sa] 25)).heap.size (W.alloc (.cells #[.int .i64 ka, .bool na, .int .i64 ea, .string sa] 25)) w') :=
    ofNumbers_any f mode 47 _ HE.out 1 W.heap.size (fun _ => ka) (fun _ => na) (fun _ => ea) (fun _ => sa) (sqX f mode ka na ea sa S zz) _ (by decide) (by decide) (by rw [hz5]; omega) (nrwO hg) (fun _ _ => hsa) (fun h1 h2 Y hY => by
      obtain ⟨hm, hr⟩ := rgn_one h1 h2
      exact sqrt1_any w.heap.size f mode ka na ea sa S zz Y hm hr hS ((hN.1.next hb5).next hY))
  have HZ : Hid (At5 (W.alloc (.cells #[.int .i64 ka, .bool na, .int .i64 ea, .string sa] 25)) (w.heap.size + 3) (.int .i64 0) (.bool false) (.int .i64 0) (.string { data := #[] }) (.int .i64 0) ∧ Below w.heap.size w (W.alloc (.cells #[.int .i64 ka, .bool na, .int .i64 ea, .string sa] 25))) := ⟨hN.2.1.below hb5 hN.2.1.lt, hN.2.2.1.trans (hb5.mono hN.2.2.1.size)⟩
  rw [hN.2.2.2] at HO
  obtain ⟨q0, q1, qa⟩ := hN.1
  obtain ⟨a0, a1, a2, a3, -⟩ := qa.cells
  rw [← hW] at HO HZ q0 q1 a0 a1 a2 a3
  clear hW hN hb5 hg hz5 hsa HE qa hS
  generalize sqR f mode ka na ea sa S zz = R at *
  obtain ⟨R0, F1, F2, F3, F4⟩ := R
  go_enter Tryz.func10, Tryz.ntmps10
  go_wp2_with fail
  refine HO.out.mono ?_
  rintro x w1 ⟨rfl, hb1⟩
  have HZ1 : Hid (At5 w1 (w.heap.size + 3) (.int .i64 0) (.bool false) (.int .i64 0) (.string { data := #[] }) (.int .i64 0) ∧ Below w.heap.size w w1) := ⟨HZ.out.1.below hb1 HZ.out.1.lt, HZ.out.2.trans (hb1.mono HZ.out.2.size)⟩
  clear hb1 HZ HO q0 q1 a0 a1 a2 a3
  go_wp2_with (refine wpList_store_row rfl 29 (.tmp 6) (.tmp 12) rfl (w.heap.size + 3) #[.int .i64 F1, .bool R0, .int .i64 F2, .string F3, .int .i64 F4] rfl rfl _ _ HZ1.out.1 (by kernel_rfl) rfl (one5 _ _ _ _ _) ?_)
  have hP := (HZ1.out.1.row (.int .i64 F1) (.bool R0) (.int .i64 F2) (.string F3) (.int .i64 F4)).cells
  refine bodyPost_ret (results_res rfl _ _ rfl hP.1 hP.2.1 hP.2.2.1 hP.2.2.2.1 hP.2.2.2.2.1) rfl ?_
  exact ⟨rfl, bel_row HZ1.out.2 (by omega) _⟩
end Go.Proofs.YtnkoeidolmiheaaGreatDoor
namespace Go.Proofs.YtnkoeidolmiheaaGreatDoor
open Go.RowKit
set_option linter.unusedVariables false
set_option maxRecDepth 100000
theorem rt_one2 (S R S' R' : Int) {M : Int} (h : Rt M S R) (h' : Rt M S' R') : S = S' ∧ R = R' := by
  obtain ⟨e, s0, r0, r1⟩ := h
  obtain ⟨e', s0', r0', r1'⟩ := h'
  have key : ∀ a b c d : Int, a * a + b = M → 0 ≤ a → 0 ≤ b → b ≤ 2 * a → c * c + d = M → 0 ≤ c → 0 ≤ d → ¬ a < c := fun a b c d h1 h2 h3 h4 h5 h6 h7 h8 => by
    have q := sq_le (show 0 ≤ a + 1 by omega) (show a + 1 ≤ c by omega)
    have x : (a + 1) * (a + 1) = a * a + 2 * a + 1 := by grind
    omega
  have k1 := key S R S' R' e s0 r0 r1 e' s0' r0'
  have k2 := key S' R' S R e' s0' r0' r1' e s0 r0
  have es : S = S' := by omega
  subst es
  exact ⟨rfl, by omega⟩
theorem l1Down_two (e : Int) (w : World) (h0 : -100000 ≤ e) (h1 : e ≤ 100000) : Calls Tryz.prog 61 #[.int .i64 e, .int .i64 2] w fun x w' => x = .returned (.int .i64 (e / 2)) ∧ w' = w := by
  obtain ⟨q, hq⟩ : ∃ q, Int.tdiv e 2 = q := ⟨_, rfl⟩
  obtain ⟨m, hm⟩ : ∃ m, Int.tmod e 2 = m := ⟨_, rfl⟩
  have hd : q * 2 + m = e := by rw [← hq, ← hm]; have := Int.mul_tdiv_add_tmod e 2; omega
  have hm1 : m < 2 := by rw [← hm]; exact Int.tmod_lt_of_pos e (by decide)
  have hm0 : -2 < m := by rw [← hm]; exact Int.lt_tmod_of_pos e (by decide)
  have hsg : (0 ≤ e → 0 ≤ m) ∧ (e < 0 → m ≤ 0) := by
    rw [← hm]
    refine ⟨fun h => Int.tmod_nonneg 2 h, fun h => ?_⟩
    have h2 := Int.tmod_nonneg 2 (show 0 ≤ -e by omega)
    rw [Int.neg_tmod] at h2
    omega
  have hw1 : IntKind.i64.wrap q = q := by rw [IntKind.wrap_i64]; omega
  have hw2 : IntKind.i64.wrap m = m := by rw [IntKind.wrap_i64]; omega
  have hw3 : IntKind.i64.wrap (q - 1) = q - 1 := by rw [IntKind.wrap_i64]; omega
  have E2 : Hid (e / 2 = if m < 0 then q - 1 else q) := by show _ = _; split <;> omega
  rw [E2.out]
  by_cases hneg : e < 0
  · by_cases hmz : m = 0
    · subst hmz
      rw [if_neg (by omega)]
      clear E2 hd hm1 hm0 hsg h0 h1
      go_enter Tryz.func61, Tryz.ntmps61
      go_wp2
      go_ret
      exact ⟨rfl, rfl⟩
    · have b1 : (m != 0) = true := by simpa using hmz
      rw [if_pos (by have := hsg.2 hneg; omega)]
      clear E2 hd hm1 hm0 hsg h0 h1
      go_enter Tryz.func61, Tryz.ntmps61
      go_wp2
      go_ret
      exact ⟨rfl, rfl⟩
  · by_cases hmz : m = 0
    · subst hmz
      rw [if_neg (by omega)]
      clear E2 hd hm1 hm0 hsg h0 h1
      go_enter Tryz.func61, Tryz.ntmps61
      go_wp2
      go_ret
      exact ⟨rfl, rfl⟩
    · have b1 : (m != 0) = true := by simpa using hmz
      rw [if_neg (by have := hsg.1 (by omega); omega)]
      clear E2 hd hm1 hm0 hsg h0 h1
      go_enter Tryz.func61, Tryz.ntmps61
      go_wp2
      go_ret
      exact ⟨rfl, rfl⟩
theorem canon_ten (D : List Int) (h : Canon D) (hz : D ≠ [0]) : Canon (D ++ [0]) ∧ vl (D ++ [0]) = vl D * 10 := by
  refine ⟨⟨fun d hd => ?_, by simp, .inr ?_⟩, ?_⟩
  · rcases List.mem_append.1 hd with q | q
    · exact h.1 d q
    · rw [List.mem_singleton.1 q]; decide
  · rcases h.2.2 with q | q
    · match D, q with
      | [x], _ => intro c; simp at c; exact hz (by rw [c])
    · cases D with
      | nil => exact absurd h.2.1 (by simp)
      | cons x r => simpa using q
  · rw [vl_append]
    show vl [0] + 10 ^ 1 * vl D = _
    rw [show vl [0] = 0 from rfl]; omega
set_option maxRecDepth 100000 in
set_option maxHeartbeats 4000000 in
theorem sSqrt_any (f mode : Int) (ka : Int) (na : Bool) (ea : Int) (sa : ByteArray) (S : Int) (zz : Bool) (w : World) (hsa : sa.size ≤ 4611686018427387904) (hS : SqH f ea sa S zz) :
    Calls Tryz.prog 11 #[.int .i64 f, .int .i64 mode, numV ka na ea sa] w fun x w' => x = .returned (rsD (sqR f mode ka na ea sa S zz).1 (sqR f mode ka na ea sa S zz).2) ∧ Below w.heap.size w w' := by
  have HSq : Hid (SqH f ea sa S zz) := hS
  clear hS
  have HS : Hid (S1 w (s1W w ka na ea sa) ka na ea sa) := s1_new w ka na ea sa
  have HOk : Hid (∀ (g : Nat) X, g < X.heap.size → NRw X g 1 (fun _ => ka) (fun _ => na) (fun _ => ea) (fun _ => sa) → Calls Tryz.prog 57 #[.int .i64 f, .int .i64 mode, .slice (some ⟨g, 0, none⟩) 1 1] X fun x w' => x = .returned (.bool (rightB f mode 1 (fun _ => ka) (fun _ => na) (fun _ => ea) (fun _ => sa))) ∧ Below X.heap.size X w') := fun g X hg hr =>
    l13Ok_any f mode 1 g (fun _ => ka) (fun _ => na) (fun _ => ea) (fun _ => sa) X (by decide) hg hr (fun _ _ => hsa)
  have HSp : Hid (∀ (g : Nat) X, g < X.heap.size → NRw X g 1 (fun _ => ka) (fun _ => na) (fun _ => ea) (fun _ => sa) → Calls Tryz.prog 58 #[.slice (some ⟨g, 0, none⟩) 1 1] X fun x w' => x = .returned (.tuple #[rsV 3 false 0 { data := #[] } (spF 1 (fun _ => ka)), .bool (spB 1 (fun _ => ka))]) ∧ Below X.heap.size X w') := fun g X hg hr => l13Special_any 1 g _ _ _ _ X (by decide) hg hr
  obtain ⟨R, hR⟩ : ∃ R, sqR f mode ka na ea sa S zz = R := ⟨_, rfl⟩
  have HR : Hid (sqR f mode ka na ea sa S zz = R) := hR
  rw [hR]
  clear hR hsa
  have hb0 := build_res00
  go_enter Tryz.func11, Tryz.ntmps11
  have hsz : (s1W w ka na ea sa).heap.size = w.heap.size + 1 + 1 := by simp
  have hg0 := heap_at (s1W w ka na ea sa) (.cells #[.int .i64 ka, .bool na, .int .i64 ea, .string sa] 25)
  rw [hsz] at hg0
  have hsz4 : ((s1W w ka na ea sa).alloc (.cells #[.int .i64 ka, .bool na, .int .i64 ea, .string sa] 25)).heap.size = w.heap.size + 1 + 1 + 1 := by simp
  have HL : Hid (NRw ((s1W w ka na ea sa).alloc (.cells #[.int .i64 ka, .bool na, .int .i64 ea, .string sa] 25)) (w.heap.size + 1 + 1) 1 (fun _ => ka) (fun _ => na) (fun _ => ea) (fun _ => sa) ∧ w.heap.size + 1 + 1 < ((s1W w ka na ea sa).alloc (.cells #[.int .i64 ka, .bool na, .int .i64 ea, .string sa] 25)).heap.size) := ⟨nrwO hg0, by rw [hsz4]; omega⟩
  clear hsz hg0 hsz4
  go_wp2_with fail
  refine (HOk.out (w.heap.size + 1 + 1) _ HL.out.2 HL.out.1).mono ?_
  rintro e w1 ⟨rfl, hb1⟩
  have HS1 : Hid (S1 w w1 ka na ea sa) := (HS.out.alloc _).next hb1
  have HL1 : Hid (NRw w1 (w.heap.size + 1 + 1) 1 (fun _ => ka) (fun _ => na) (fun _ => ea) (fun _ => sa) ∧ w.heap.size + 1 + 1 < w1.heap.size) := ⟨HL.out.1.below hb1 HL.out.2, Nat.lt_of_lt_of_le HL.out.2 hb1.size⟩
  clear hb1 HL HS HOk
  cases hO : rightB f mode 1 (fun _ => ka) (fun _ => na) (fun _ => ea) (fun _ => sa) with
  | false =>
    have ER : Hid (R = (false, (0, 0, { data := #[] }, 0))) := by show _ = _; rw [← HR.out]; unfold sqR ofR; rw [hO]; rfl
    have HZ3 : Hid (At5 w1 (w.heap.size + 1) (.int .i64 0) (.bool false) (.int .i64 0) (.string { data := #[] }) (.int .i64 0) ∧ Below w.heap.size w w1) := ⟨HS1.out.2.1, HS1.out.2.2.1⟩
    clear hO HSp HS1 HL1 HR
    go_wp2_with (refine wpList_store_row rfl 29 (.tmp 6) (.tmp 25) rfl (w.heap.size + 1) #[.int .i64 0, .bool false, .int .i64 0, .string { data := #[] }, .int .i64 0] rfl rfl _ _ HZ3.out.1 (by kernel_rfl) rfl (one5 _ _ _ _ _) ?_)
    have hP := (HZ3.out.1.row (.int .i64 0) (.bool false) (.int .i64 0) (.string { data := #[] }) (.int .i64 0)).cells
    refine bodyPost_ret (results_res rfl _ _ rfl hP.1 hP.2.1 hP.2.2.1 hP.2.2.2.1 hP.2.2.2.2.1) rfl ?_
    exact ⟨by rw [ER.out], bel_row HZ3.out.2 (by omega) _⟩
  | true =>
    go_wp2_with fail
    refine (HSp.out (w.heap.size + 1 + 1) _ HL1.out.2 HL1.out.1).mono ?_
    rintro e w2 ⟨rfl, hb2⟩
    have HS2 : Hid (S1 w w2 ka na ea sa) := HS1.out.next hb2
    clear hb2 HL1 HS1 HSp hb0
    cases hB : spB 1 (fun _ => ka) with
    | true =>
      have ER : Hid (R = (false, (3, 0, { data := #[] }, spF 1 (fun _ => ka)))) := by show _ = _; rw [← HR.out]; unfold sqR ofR; rw [hO, hB]; rfl
      clear hO hB HR
      generalize spF 1 (fun _ => ka) = FL at *
      have HZ3 : Hid (At5 (w2.alloc (.cells #[.int .i64 3, .bool false, .int .i64 0, .string { data := #[] }, .int .i64 FL] 29)) (w.heap.size + 1) (.int .i64 0) (.bool false) (.int .i64 0) (.string { data := #[] }) (.int .i64 0) ∧ Below w.heap.size w (w2.alloc (.cells #[.int .i64 3, .bool false, .int .i64 0, .string { data := #[] }, .int .i64 FL] 29))) := ⟨(HS2.out.alloc _).2.1, (HS2.out.alloc _).2.2.1⟩
      go_wp2_with (refine wpList_store_row rfl 29 (.tmp 6) (.tmp 32) rfl (w.heap.size + 1) #[.int .i64 3, .bool false, .int .i64 0, .string { data := #[] }, .int .i64 FL] rfl rfl _ _ HZ3.out.1 (by kernel_rfl) rfl (one5 _ _ _ _ _) ?_)
      have hP := (HZ3.out.1.row (.int .i64 3) (.bool false) (.int .i64 0) (.string { data := #[] }) (.int .i64 FL)).cells
      refine bodyPost_ret (results_res rfl _ _ rfl hP.1 hP.2.1 hP.2.2.1 hP.2.2.2.1 hP.2.2.2.2.1) rfl ?_
      exact ⟨by rw [ER.out], bel_row HZ3.out.2 (by omega) _⟩
    | false =>
      have ER : R = sqX f mode ka na ea sa S zz := by rw [← HR.out]; unfold sqR ofR; rw [hO, hB]; rfl
      have hrg := rgn_one hO hB
      have HSx : Hid (S1 w (w2.alloc (.cells #[.int .i64 3, .bool false, .int .i64 0, .string { data := #[] }, .int .i64 (spF 1 (fun _ => ka))] 29)) ka na ea sa) := HS2.out.alloc _
      generalize spF 1 (fun _ => ka) = FL at *
      clear hO hB HR HS2
      obtain ⟨hm, hr⟩ := hrg
      obtain ⟨a0, a1, a2, a3, a4⟩ := HSx.out.1.cells
      unfold sqX at ER
      by_cases hA : ka = 2
      · subst hA
        have hz : zB 2 sa = false := rfl
        cases na with
        | true =>
          rw [if_pos ⟨rfl, hz⟩] at ER
          have EX : Hid (R = (false, (3, 0, { data := #[] }, 1))) := ER
          clear hr hm ER hz HSq
          go_wp2_with fail
          refine (l13Invalid_any _).mono ?_
          rintro e w4 ⟨rfl, hb4⟩
          have HZ3 : Hid (At5 w4 (w.heap.size + 1) (.int .i64 0) (.bool false) (.int .i64 0) (.string { data := #[] }) (.int .i64 0) ∧ Below w.heap.size w w4) := HSx.out.end hb4
          clear hb4 HSx
          go_wp2_with (refine wpList_store_row rfl 29 (.tmp 6) (.tmp 38) rfl (w.heap.size + 1) #[.int .i64 3, .bool false, .int .i64 0, .string { data := #[] }, .int .i64 1] rfl rfl _ _ HZ3.out.1 (by kernel_rfl) rfl (one5 _ _ _ _ _) ?_)
          have hP := (HZ3.out.1.row (.int .i64 3) (.bool false) (.int .i64 0) (.string { data := #[] }) (.int .i64 1)).cells
          refine bodyPost_ret (results_res rfl _ _ rfl hP.1 hP.2.1 hP.2.2.1 hP.2.2.2.1 hP.2.2.2.2.1) rfl ?_
          exact ⟨by rw [EX.out], bel_row HZ3.out.2 (by omega) _⟩
        | false =>
          rw [if_neg (fun c => by cases c.1), if_pos rfl] at ER
          have EX : Hid (R = (false, (2, 0, { data := #[] }, 0))) := ER
          clear hr hm ER hz HSq
          go_wp2_with fail
          refine (l13Inf_any false _).mono ?_
          rintro e w4 ⟨rfl, hb4⟩
          have HZ3 : Hid (At5 w4 (w.heap.size + 1) (.int .i64 0) (.bool false) (.int .i64 0) (.string { data := #[] }) (.int .i64 0) ∧ Below w.heap.size w w4) := HSx.out.end hb4
          clear hb4 HSx
          go_wp2_with (refine wpList_store_row rfl 29 (.tmp 6) (.tmp 39) rfl (w.heap.size + 1) #[.int .i64 2, .bool false, .int .i64 0, .string { data := #[] }, .int .i64 0] rfl rfl _ _ HZ3.out.1 (by kernel_rfl) rfl (one5 _ _ _ _ _) ?_)
          have hP := (HZ3.out.1.row (.int .i64 2) (.bool false) (.int .i64 0) (.string { data := #[] }) (.int .i64 0)).cells
          refine bodyPost_ret (results_res rfl _ _ rfl hP.1 hP.2.1 hP.2.2.1 hP.2.2.2.1 hP.2.2.2.2.1) rfl ?_
          exact ⟨by rw [EX.out], bel_row HZ3.out.2 (by omega) _⟩
      · have hk1 : ka = 1 := hr.2.2.1.resolve_right hA
        subst hk1
        rw [if_neg hA] at ER
        have hz1 := hr.z48
        obtain ⟨hsa, nka, v0a, -, l34a, l1a, hszA, hea⟩ := hr.tn rfl
        obtain ⟨ca, lpa, -, -⟩ := hr.2.2.2.1 rfl
        have hsta := hr.2.1
        have hP : 1 ≤ limP f ∧ limP f ≤ 34 := by rcases hr.1 with rfl | rfl <;> decide
        have HDn : Hid (∀ X, Calls Tryz.prog 61 #[.int .i64 ea, .int .i64 2] X fun x w' => x = .returned (.int .i64 (ea / 2)) ∧ w' = X) := fun X => l1Down_two ea X (by omega) (by omega)
        obtain ⟨RR, hRt, hzz⟩ := HSq.out v0a
        obtain ⟨za, hza⟩ : ∃ z, zB 1 sa = z := ⟨_, rfl⟩
        rw [hza] at hz1 ER
        cases za with
        | true =>
          rw [if_neg (fun c => by cases c.2)] at ER
          have hva : vl (dl sa) = 0 := by
            unfold zB at hza
            simpa using hza
          have HFi : Hid (∀ X, Calls Tryz.prog 62 #[.int .i64 f, .int .i64 mode, .bool na, .string { data := #[48] }, .int .i64 (ea / 2), .bool false, .int .i64 (ea / 2)] X fun x w' => x = .returned (rsD R.1 R.2) ∧ Below X.heap.size X w') := fun X => by
            have h00 : nt 0 = [0] := (nt_of [0] 0 canon_zero rfl (by decide)).symm
            have hS0 := ((sq_size f hr.1 (dl sa) ca lpa ea S RR hRt).2.2.2.2.2.1 hva).1
            have hE : finD f mode na (nt S) ((ea - sqK f ea (dl sa).length) / 2) (!zz) (ea / 2) = finD f mode na [0] (ea / 2) false (ea / 2) := by
              rw [hS0, h00]
              unfold finD
              rw [if_pos rfl, if_pos rfl]
            have := fin_ok f mode hr.1 na [0] (ea / 2) false (ea / 2) X canon_zero (by decide) (by omega) (by omega)
            rw [show tx [0] = { data := #[48] } by apply ByteArray.ext; rw [tx_data]; rfl] at this
            rw [ER, hE]
            dsimp only
            exact this
          clear hr hm ER hza hA hva hsa nka v0a l34a l1a hszA hea ca lpa hsta hP hRt hzz HSq
          generalize ea / 2 = E2 at *
          obtain ⟨R0, F1, F2, F3, F4⟩ := R
          go_wp2_with fail
          refine (HDn.out _).mono ?_
          rintro e wx ⟨rfl, rfl⟩
          clear HDn
          go_wp2_with fail
          refine (HFi.out _).mono ?_
          rintro e w4 ⟨rfl, hb4⟩
          have HZ3 : Hid (At5 w4 (w.heap.size + 1) (.int .i64 0) (.bool false) (.int .i64 0) (.string { data := #[] }) (.int .i64 0) ∧ Below w.heap.size w w4) := HSx.out.end hb4
          clear hb4 HSx
          go_wp2_with (refine wpList_store_row rfl 29 (.tmp 6) (.tmp 52) rfl (w.heap.size + 1) #[.int .i64 F1, .bool R0, .int .i64 F2, .string F3, .int .i64 F4] rfl rfl _ _ HZ3.out.1 (by kernel_rfl) rfl (one5 _ _ _ _ _) ?_)
          have hP := (HZ3.out.1.row (.int .i64 F1) (.bool R0) (.int .i64 F2) (.string F3) (.int .i64 F4)).cells
          refine bodyPost_ret (results_res rfl _ _ rfl hP.1 hP.2.1 hP.2.2.1 hP.2.2.2.1 hP.2.2.2.2.1) rfl ?_
          exact ⟨rfl, bel_row HZ3.out.2 (by omega) _⟩
        | false =>
          cases na with
          | true =>
            rw [if_pos ⟨rfl, rfl⟩] at ER
            have EX : Hid (R = (false, (3, 0, { data := #[] }, 1))) := ER
            clear hr hm ER hza hA hsa nka v0a l34a l1a hszA hea ca lpa hsta hP hRt hzz HSq
            generalize ea / 2 = E2 at *
            go_wp2_with fail
            refine (HDn.out _).mono ?_
            rintro e wx ⟨rfl, rfl⟩
            clear HDn
            go_wp2_with fail
            refine (l13Invalid_any _).mono ?_
            rintro e w4 ⟨rfl, hb4⟩
            have HZ3 : Hid (At5 w4 (w.heap.size + 1) (.int .i64 0) (.bool false) (.int .i64 0) (.string { data := #[] }) (.int .i64 0) ∧ Below w.heap.size w w4) := HSx.out.end hb4
            clear hb4 HSx
            go_wp2_with (refine wpList_store_row rfl 29 (.tmp 6) (.tmp 55) rfl (w.heap.size + 1) #[.int .i64 3, .bool false, .int .i64 0, .string { data := #[] }, .int .i64 1] rfl rfl _ _ HZ3.out.1 (by kernel_rfl) rfl (one5 _ _ _ _ _) ?_)
            have hP := (HZ3.out.1.row (.int .i64 3) (.bool false) (.int .i64 0) (.string { data := #[] }) (.int .i64 1)).cells
            refine bodyPost_ret (results_res rfl _ _ rfl hP.1 hP.2.1 hP.2.2.1 hP.2.2.2.1 hP.2.2.2.2.1) rfl ?_
            exact ⟨by rw [EX.out], bel_row HZ3.out.2 (by omega) _⟩
          | false =>
            rw [if_neg (fun c => by cases c.1)] at ER
            have hva : vl (dl sa) ≠ 0 := by
              unfold zB at hza
              simpa using hza
            have hzl : dl sa ≠ [0] := fun c => hva (by rw [c]; rfl)
            obtain ⟨n2, hn2⟩ : ∃ n : Nat, n = (limP f).toNat * 2 + 6 + (ea - 2 * (ea / 2)).toNat := ⟨_, rfl⟩
            have m0 : 0 ≤ vl (dl sa) * 10 ^ n2 := Int.mul_nonneg v0a (Int.le_of_lt (ten_pos _))
            obtain ⟨S2, R2, e2, s20, r20, r21⟩ := root_is (vl (dl sa) * 10 ^ n2).toNat
            rw [show (((vl (dl sa) * 10 ^ n2).toNat : Nat) : Int) = vl (dl sa) * 10 ^ n2 by omega] at e2
            have hR2 : Rt (vl (dl sa) * 10 ^ n2) S2 R2 := ⟨e2, s20, r20, r21⟩
            obtain ⟨hsame, N2, N3⟩ := sq_same f mode hr.1 false (dl sa) ca lpa hva ea S RR S2 R2 hRt n2 hn2 hR2
            have hbd := vl_bd (dl sa) ca.1
            have N1 : Nok (vl (dl sa) * 10 ^ n2) := by
              refine ⟨m0, ?_⟩
              have := Int.mul_lt_mul_of_pos_right hbd.2 (ten_pos n2)
              rw [← Int.pow_add] at this
              exact Int.lt_of_lt_of_le this (pow_mono _ _ (by omega))
            have HLm : Hid (∀ X, Calls Tryz.prog 44 #[.int .i64 f] X fun r w' => r = .returned (.tuple #[.int .i64 (limP f), .int .i64 (limL f), .int .i64 (limH f)]) ∧ w' = X) := fun X => Limits_any f X
            have HRo : Hid (∀ X, Calls Tryz.prog 63 #[.string (tn (vl (dl sa) * 10 ^ n2))] X fun e w' => e = .returned (.tuple #[.string (tn S2), .string (tn R2)]) ∧ Below X.heap.size X w') := fun X => by
              refine (l11Root_any (nt (vl (dl sa) * 10 ^ n2)) X (nok_spec N1).1 (by have := nok_len N1; omega)).mono ?_
              rintro e w' ⟨Q, T, rfl, hQ, hT, hv, hv2, lQ, lT, hb⟩
              rw [(nok_spec N1).2] at hv
              obtain ⟨q1, q2⟩ := rt_one2 (vl Q) (vl T) S2 R2 ⟨hv, (vl_bd Q hQ.1).1, (vl_bd T hT.1).1, hv2⟩ hR2
              have := nok_len N1
              exact ⟨by rw [nt_of Q S2 hQ q1 (by omega), nt_of T R2 hT q2 (by omega)]; rfl, hb⟩
            obtain ⟨zz2, hzz2⟩ : ∃ z, decide (R2 = 0) = z := ⟨_, rfl⟩
            have hz0 : ((tn R2).toList == [48]) = zz2 := by
              rw [← hzz2]
              by_cases c : R2 = 0
              · rw [c, tn_0]; rfl
              · rw [tn_is0 N3 c, decide_eq_false c]
            have HFi : Hid (∀ X, Calls Tryz.prog 62 #[.int .i64 f, .int .i64 mode, .bool false, .string (tn S2), .int .i64 (ea / 2 - (limP f + 3)), .bool (!zz2), .int .i64 (ea / 2)] X fun x w' => x = .returned (rsD R.1 R.2) ∧ Below X.heap.size X w') := fun X => by
              have := fin_ok f mode hr.1 false (nt S2) (ea / 2 - (limP f + 3)) (!zz2) (ea / 2) X (nok_spec N2).1 (nok_len N2) (by omega) (by omega)
              rw [ER, ← hzz, ← hsame, hzz2]
              dsimp only
              exact this
            have hw1 : IntKind.i64.wrap (2 * (ea / 2)) = 2 * (ea / 2) := by rw [IntKind.wrap_i64]; omega
            have hw2 : IntKind.i64.wrap (limP f + 3) = limP f + 3 := by rw [IntKind.wrap_i64]; omega
            have hw3 : IntKind.i64.wrap (2 * (limP f + 3)) = 2 * (limP f + 3) := by rw [IntKind.wrap_i64]; omega
            have hw4 : IntKind.i64.wrap (ea / 2 - (limP f + 3)) = ea / 2 - (limP f + 3) := by rw [IntKind.wrap_i64]; omega
            by_cases hev : ea = 2 * (ea / 2)
            · have HSh : Hid (∀ X, Calls Tryz.prog 64 #[.string sa, .int .i64 (2 * (limP f + 3))] X fun e w' => e = .returned (.string (tn (vl (dl sa) * 10 ^ n2))) ∧ Below X.heap.size X w') := fun X => by
                have := l11Shift_is (dl sa) (2 * (limP f + 3)) X ca (by omega) (by omega) (.inr (by omega))
                rw [← hsta, show (2 * (limP f + 3)).toNat = n2 by omega] at this
                exact this
              have hbe : (ea == 2 * (ea / 2)) = true := by rw [← hev]; exact beq_self_eq_true _
              clear hr hm ER hza hA hva hzl hsa nka v0a l34a l1a hszA hea ca lpa hsta hP hRt hzz HSq hn2 m0 e2 s20 r20 r21 hR2 hsame N1 N2 N3 hbd hzz2 hev
              generalize tn (vl (dl sa) * 10 ^ n2) = TM at *
              generalize tn S2 = TS at *
              generalize tn R2 = TR at *
              generalize ea / 2 = E2 at *
              generalize limP f = P at *
              generalize limL f = L0 at *
              generalize limH f = H0 at *
              obtain ⟨R0, F1, F2, F3, F4⟩ := R
              go_wp2_with fail
              refine (HDn.out _).mono ?_
              rintro e wx ⟨rfl, rfl⟩
              clear HDn
              go_wp2_with fail
              refine (HLm.out _).mono ?_
              rintro e wx ⟨rfl, rfl⟩
              clear HLm
              go_wp2_with fail
              refine (HSh.out _).mono ?_
              rintro e w10 ⟨rfl, hb10⟩
              have HSy : Hid (S1 w w10 1 false ea sa) := HSx.out.next hb10
              clear hb10 HSx HSh a0 a1 a2 a3 a4
              go_wp2_with fail
              refine (HRo.out _).mono ?_
              rintro e w11 ⟨rfl, hb11⟩
              have HSz : Hid (S1 w w11 1 false ea sa) := HSy.out.next hb11
              clear hb11 HSy HRo
              go_wp2_with fail
              refine (HFi.out _).mono ?_
              rintro e w4 ⟨rfl, hb4⟩
              have HZ3 : Hid (At5 w4 (w.heap.size + 1) (.int .i64 0) (.bool false) (.int .i64 0) (.string { data := #[] }) (.int .i64 0) ∧ Below w.heap.size w w4) := HSz.out.end hb4
              clear hb4 HSz
              go_wp2_with (refine wpList_store_row rfl 29 (.tmp 6) (.tmp 90) rfl (w.heap.size + 1) #[.int .i64 F1, .bool R0, .int .i64 F2, .string F3, .int .i64 F4] rfl rfl _ _ HZ3.out.1 (by kernel_rfl) rfl (one5 _ _ _ _ _) ?_)
              have hP := (HZ3.out.1.row (.int .i64 F1) (.bool R0) (.int .i64 F2) (.string F3) (.int .i64 F4)).cells
              refine bodyPost_ret (results_res rfl _ _ rfl hP.1 hP.2.1 hP.2.2.1 hP.2.2.2.1 hP.2.2.2.2.1) rfl ?_
              exact ⟨rfl, bel_row HZ3.out.2 (by omega) _⟩
            · obtain ⟨ct, vt⟩ := canon_ten (dl sa) ca hzl
              have HSh : Hid (∀ X, Calls Tryz.prog 64 #[.string (tx (dl sa ++ [0])), .int .i64 (2 * (limP f + 3))] X fun e w' => e = .returned (.string (tn (vl (dl sa) * 10 ^ n2))) ∧ Below X.heap.size X w') := fun X => by
                have := l11Shift_is (dl sa ++ [0]) (2 * (limP f + 3)) X ct (by simp; omega) (by omega) (.inr (by omega))
                rw [vt] at this
                have e3 : vl (dl sa) * 10 * 10 ^ (2 * (limP f + 3)).toNat = vl (dl sa) * 10 ^ n2 := by
                  rw [Int.mul_assoc, ← Int.pow_succ', show (2 * (limP f + 3)).toNat + 1 = n2 by omega]
                rw [e3] at this
                exact this
              have hbe : (ea == 2 * (ea / 2)) = false := beq_eq_false_iff_ne.2 hev
              have hap : sa ++ { data := #[48] } = tx (dl sa ++ [0]) := by
                have := tx_more (dl sa)
                rw [← hsta] at this
                exact this
              have s1 : (sa.size : Int) ≤ 8388608 := by omega
              clear hr hm ER hza hA hva hzl hsa nka v0a l34a l1a hszA hea ca lpa hsta hP hRt hzz HSq hn2 m0 e2 s20 r20 r21 hR2 hsame N1 N2 N3 hbd hzz2 hev ct vt
              generalize tx (dl sa ++ [0]) = T0 at *
              generalize tn (vl (dl sa) * 10 ^ n2) = TM at *
              generalize tn S2 = TS at *
              generalize tn R2 = TR at *
              generalize ea / 2 = E2 at *
              generalize limP f = P at *
              generalize limL f = L0 at *
              generalize limH f = H0 at *
              obtain ⟨R0, F1, F2, F3, F4⟩ := R
              go_wp2_with fail
              refine (HDn.out _).mono ?_
              rintro e wx ⟨rfl, rfl⟩
              clear HDn
              go_wp2_with fail
              refine (HLm.out _).mono ?_
              rintro e wx ⟨rfl, rfl⟩
              clear HLm
              go_wp2_with fail
              refine (HSh.out _).mono ?_
              rintro e w10 ⟨rfl, hb10⟩
              have HSy : Hid (S1 w w10 1 false ea sa) := HSx.out.next hb10
              clear hb10 HSx HSh a0 a1 a2 a3 a4
              go_wp2_with fail
              refine (HRo.out _).mono ?_
              rintro e w11 ⟨rfl, hb11⟩
              have HSz : Hid (S1 w w11 1 false ea sa) := HSy.out.next hb11
              clear hb11 HSy HRo
              go_wp2_with fail
              refine (HFi.out _).mono ?_
              rintro e w4 ⟨rfl, hb4⟩
              have HZ3 : Hid (At5 w4 (w.heap.size + 1) (.int .i64 0) (.bool false) (.int .i64 0) (.string { data := #[] }) (.int .i64 0) ∧ Below w.heap.size w w4) := HSz.out.end hb4
              clear hb4 HSz
              go_wp2_with (refine wpList_store_row rfl 29 (.tmp 6) (.tmp 90) rfl (w.heap.size + 1) #[.int .i64 F1, .bool R0, .int .i64 F2, .string F3, .int .i64 F4] rfl rfl _ _ HZ3.out.1 (by kernel_rfl) rfl (one5 _ _ _ _ _) ?_)
              have hP := (HZ3.out.1.row (.int .i64 F1) (.bool R0) (.int .i64 F2) (.string F3) (.int .i64 F4)).cells
              refine bodyPost_ret (results_res rfl _ _ rfl hP.1 hP.2.1 hP.2.2.1 hP.2.2.2.1 hP.2.2.2.2.1) rfl ?_
              exact ⟨rfl, bel_row HZ3.out.2 (by omega) _⟩
end Go.Proofs.YtnkoeidolmiheaaGreatDoor
