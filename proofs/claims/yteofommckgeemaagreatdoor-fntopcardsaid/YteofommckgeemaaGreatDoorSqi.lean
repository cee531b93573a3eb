/-
  Sqrt of the program, walked.
-/
import Derived.Test.YteofommckgeemaaGreatDoorDvp
import Derived.Deep.RegionWith
import Derived.Deep.DeepCutAuto
import Derived.Test.YteofommckgeemaaGreatDoorFnr
import Derived.Test.YteofommckgeemaaGreatDoorFnb

namespace Go.Proofs.YteofommckgeemaaGreatDoor
open Go.RowKit
set_option linter.unusedVariables false
set_option maxRecDepth 100000
/-- A root, and what is left. -/
def Rt (M S R : Int) : Prop := S * S + R = M ∧ 0 ≤ S ∧ 0 ≤ R ∧ R ≤ 2 * S
theorem sq_le {a b : Int} (ha : 0 ≤ a) (h : a ≤ b) : a * a ≤ b * b := Int.mul_le_mul h h ha (Int.le_trans ha h)
/-- How many noughts stand behind a number. -/
def sqK (f ea : Int) (la : Nat) : Nat := (2 * limP f - la + 1 + (if (ea - (2 * limP f - la + 1)) % 2 = 0 then 0 else 1)).toNat
/-- What Sqrt tells of a right number that is no NaN: S the root's digits, zz: nothing is left. -/
def sqX (f mode : Int) (ka : Int) (na : Bool) (ea : Int) (sa : ByteArray) (S : Int) (zz : Bool) : R5o :=
  if na = true ∧ zB ka sa = false then (false, (3, 0, { data := #[] }, 1))
  else if ka = 2 then (na, (2, 0, { data := #[] }, 0))
  else (na, finD f mode na (nt S) ((ea - sqK f ea (dl sa).length) / 2) (!zz) (ea / 2))
/-- What Sqrt tells. -/
def sqR (f mode : Int) (ka : Int) (na : Bool) (ea : Int) (sa : ByteArray) (S : Int) (zz : Bool) : R5o := ofR f mode 1 (fun _ => ka) (fun _ => na) (fun _ => ea) (fun _ => sa) (sqX f mode ka na ea sa S zz)
/-- That S is the root. -/
def SqH (f : Int) (ea : Int) (sa : ByteArray) (S : Int) (zz : Bool) : Prop := 0 ≤ vl (dl sa) → ∃ R, Rt (vl (dl sa) * 10 ^ sqK f ea (dl sa).length) S R ∧ decide (R = 0) = zz
/-- The root's digits: one more than the format has. -/
theorem sq_size (f : Int) (hf : f = 64 ∨ f = 128) (da : List Int) (ca : Canon da) (la : (da.length : Int) ≤ limP f) (ea : Int) (S R : Int) (h : Rt (vl da * 10 ^ sqK f ea da.length) S R) :
    Nok (vl da * 10 ^ sqK f ea da.length) ∧ Nok S ∧ Nok R ∧ S < 10 ^ ((limP f).toNat + 1) ∧ (vl da ≠ 0 → 10 ^ (limP f).toNat ≤ S) ∧ (vl da = 0 → S = 0 ∧ R = 0) ∧ (ea - sqK f ea da.length) % 2 = 0 := by
  have hP : 1 ≤ limP f ∧ limP f ≤ 34 := by rcases hf with rfl | rfl <;> decide
  have a := vl_bd da ca.1
  have pa := ca.2.1
  obtain ⟨k, hk⟩ : ∃ k, sqK f ea da.length = k := ⟨_, rfl⟩
  have hk1 : (da.length : Int) + k = 2 * limP f + 1 ∨ (da.length : Int) + k = 2 * limP f + 2 := by rw [← hk]; unfold sqK; split <;> omega
  have hpar : (ea - k) % 2 = 0 := by rw [← hk]; unfold sqK; split <;> omega
  rw [hk] at h ⊢
  obtain ⟨e, s0, r0, r1⟩ := h
  have h0 : 0 ≤ vl da * 10 ^ k := Int.mul_nonneg a.1 (Int.le_of_lt (ten_pos k))
  have h1 : vl da * 10 ^ k < 10 ^ (2 * (limP f).toNat + 2) := by
    have := Int.mul_lt_mul_of_pos_right a.2 (ten_pos k)
    rw [← Int.pow_add] at this
    exact Int.lt_of_lt_of_le this (pow_mono _ _ (by omega))
  have ss : 0 ≤ S * S := Int.mul_nonneg s0 s0
  have p1 : (10 : Int) ^ (2 * (limP f).toNat + 2) = 10 ^ ((limP f).toNat + 1) * 10 ^ ((limP f).toNat + 1) := by rw [← Int.pow_add]; congr 1; omega
  have p0 : (10 : Int) ^ (2 * (limP f).toNat) = 10 ^ (limP f).toNat * 10 ^ (limP f).toNat := by rw [← Int.pow_add]; congr 1; omega
  have hS1 : S < 10 ^ ((limP f).toNat + 1) := by
    refine Int.not_le.1 fun c => ?_
    have q := sq_le (Int.le_of_lt (ten_pos ((limP f).toNat + 1))) c
    omega
  have h7 := pow_mono (2 * (limP f).toNat + 2) 200 (by omega)
  have h8 := pow_mono ((limP f).toNat + 1) 200 (by omega)
  refine ⟨⟨h0, by omega⟩, ⟨s0, by omega⟩, ⟨r0, by omega⟩, hS1, fun hz => ?_, fun hz => ?_, hpar⟩
  · refine Int.not_lt.1 fun c => ?_
    have hlo := canon_lo da ca (fun q => hz (by rw [q]; rfl))
    have h2 := Int.mul_le_mul_of_nonneg_right hlo (Int.le_of_lt (ten_pos k))
    rw [← Int.pow_add] at h2
    have h3 := pow_mono (2 * (limP f).toNat) (da.length - 1 + k) (by omega)
    have q := sq_le (show 0 ≤ S + 1 by omega) (show S + 1 ≤ 10 ^ (limP f).toNat by omega)
    have x : (S + 1) * (S + 1) = S * S + 2 * S + 1 := by grind
    omega
  · rw [hz, Int.zero_mul] at e
    have hs : S * S = 0 := by omega
    rcases Int.mul_eq_zero.1 hs with c | c <;> exact ⟨c, by omega⟩
end Go.Proofs.YteofommckgeemaaGreatDoor
namespace Go.Proofs.YteofommckgeemaaGreatDoor
open Go.RowKit
set_option linter.unusedVariables false
set_option maxRecDepth 100000
theorem halfDown_any (e : Int) (w : World) (h0 : -100000 ≤ e) (h1 : e ≤ 100000) : Calls Tryz.prog 97 #[.int .i64 e] w fun x w' => x = .returned (.int .i64 (e / 2)) ∧ w' = w := by
  have hw : IntKind.i64.wrap (e / 2) = e / 2 := by rw [IntKind.wrap_i64]; omega
  clear h0 h1
  go_enter Tryz.func97, Tryz.ntmps97
  go_wp2
  go_ret
  exact ⟨rfl, rfl⟩
set_option maxRecDepth 100000 in
theorem rootShift_any (b : Nat) (f : Int) (na : Bool) (ea : Int) (sa : ByteArray) (w : World) (hr : Rgn f 1 ea sa) (hc : w.cell? ⟨b, 0, none⟩ = some (.int .i64 (limP f))) (hb : b < w.heap.size) :
    Calls Tryz.prog 95 #[RmV b, numV 1 na ea sa] w fun x w' => x = .returned (.int .i64 (sqK f ea (dl sa).length)) ∧ Below w.heap.size w w' := by
  have hP : 1 ≤ limP f ∧ limP f ≤ 34 := by rcases hr.1 with rfl | rfl <;> decide
  obtain ⟨-, -, -, -, l34, l1, hsz, hea⟩ := hr.tn rfl
  obtain ⟨-, lp, -, -⟩ := hr.2.2.2.1 rfl
  have HR1 : Hid (∀ Y, Y.cell? ⟨b, 0, none⟩ = some (.int .i64 (limP f)) → Calls Tryz.prog 158 #[.string sa, .pointer (some ⟨b, 0, none⟩)] Y fun x w' => x = .returned (.int .i64 (limP f - sa.size)) ∧ w' = Y) := fun Y h => room1_any b (limP f) sa Y h (by omega) hr.small
  have HEn : Hid (∀ args w, (callFunc 158 args).run Tryz.prog w = .ok (.enter 158 args) w) := enters_of Tryz.func158 (by kernel_rfl) rfl
  obtain ⟨s0, hs0⟩ : ∃ s, 2 * limP f - (sa.size : Int) + 1 = s := ⟨_, rfl⟩
  have hw1 : IntKind.i64.wrap (limP f - (sa.size : Int) + 1) = limP f - sa.size + 1 := by rw [IntKind.wrap_i64]; omega
  have hw2 : IntKind.i64.wrap (2 * (limP f - (sa.size : Int) + 1)) = 2 * (limP f - sa.size + 1) := by rw [IntKind.wrap_i64]; omega
  have hw3 : IntKind.i64.wrap (2 * (limP f - (sa.size : Int) + 1) + (sa.size : Int)) = 2 * (limP f - sa.size + 1) + sa.size := by rw [IntKind.wrap_i64]; omega
  have hw4 : IntKind.i64.wrap (2 * (limP f - (sa.size : Int) + 1) + (sa.size : Int) - 1) = s0 := by rw [IntKind.wrap_i64]; omega
  have hw5 : IntKind.i64.wrap (ea - s0) = ea - s0 := by rw [IntKind.wrap_i64]; omega
  have hw6 : IntKind.i64.wrap (s0 + 1) = s0 + 1 := by rw [IntKind.wrap_i64]; omega
  have hwm : IntKind.i64.wrap (Int.tmod (ea - s0) 2) = Int.tmod (ea - s0) 2 := by
    rw [IntKind.wrap_i64]
    have := Int.tmod_lt_of_pos (ea - s0) (show (0 : Int) < 2 by decide)
    have h2 : -2 < Int.tmod (ea - s0) 2 := by
      have := Int.lt_tmod_of_pos (ea - s0) (show (0 : Int) < 2 by decide)
      omega
    omega
  have hKE : (sqK f ea (dl sa).length : Int) = if (ea - s0) % 2 = 0 then s0 else s0 + 1 := by
    unfold sqK
    rw [← hsz, hs0]
    split <;> omega
  have htm : (Int.tmod (ea - s0) 2 = 0) ↔ (ea - s0) % 2 = 0 := by
    rw [← Int.dvd_iff_tmod_eq_zero, ← Int.dvd_iff_emod_eq_zero]
  have HB0 : Hid (w.cell? ⟨b, 0, none⟩ = some (.int .i64 (limP f)) ∧ b < w.heap.size) := ⟨hc, hb⟩
  generalize (sqK f ea (dl sa).length : Int) = KK at *
  have hN : At4r (w.alloc (.cells #[.int .i64 1, .bool na, .int .i64 ea, .string sa] 78)) w.heap.size (.int .i64 1) (.bool na) (.int .i64 ea) (.string sa) ∧ Below w.heap.size w (w.alloc (.cells #[.int .i64 1, .bool na, .int .i64 ea, .string sa] 78)) := ⟨at4r_new w _ _ _ _, (Below.refl _ _).alloc (Nat.le_refl _) _⟩
  have HN : Hid (At4r (w.alloc (.cells #[.int .i64 1, .bool na, .int .i64 ea, .string sa] 78)) w.heap.size (.int .i64 1) (.bool na) (.int .i64 ea) (.string sa) ∧ Below w.heap.size w (w.alloc (.cells #[.int .i64 1, .bool na, .int .i64 ea, .string sa] 78)) ∧ (w.alloc (.cells #[.int .i64 1, .bool na, .int .i64 ea, .string sa] 78)).cell? ⟨b, 0, none⟩ = some (.int .i64 (limP f)) ∧ b < (w.alloc (.cells #[.int .i64 1, .bool na, .int .i64 ea, .string sa] 78)).heap.size) := ⟨hN.1, hN.2, (hN.2.cell (p := ⟨b, 0, none⟩) hb).trans hc, Nat.lt_of_lt_of_le hb hN.2.size⟩
  clear hN hc hb hP l34 l1 hsz hea lp hr HB0 hs0
  generalize limP f = P at *
  generalize P - (sa.size : Int) = room at *
  by_cases hev : (ea - s0) % 2 = 0
  · have t0 : Int.tmod (ea - s0) 2 = 0 := htm.2 hev
    rw [if_pos hev] at hKE
    have EK : Hid (KK = s0) := hKE
    clear htm hev hKE
    have hE := HEn.out
    unfold RmV
    go_enter Tryz.func95, Tryz.ntmps95
    go_upto_region 1 with fail
    generalize w.alloc (.cells #[.int .i64 1, .bool na, .int .i64 ea, .string sa] 78) = w0 at *
    have HX0 : Hid (Below w0.heap.size w0 w0.drew) := (Below.refl _ _).drew
    refine wp_region_class (C := fun W => Below w0.heap.size w0 W) (by kernel_rfl) (by kernel_rfl) HX0.out ?_
    repeat (refine wpQuiet_step (fun K hK => ?_); go_simp; first | (refine hK _ ?_; clear hK K) | (apply Exists.intro; refine ⟨fun wx hC => ?_, hK _ ?_⟩; (first | exact rfl | (have hcc := (hC.cell (p := ⟨b, 0, none⟩) HN.out.2.2.2).trans HN.out.2.2.1; (with_reducible refine (HR1.out wx hcc).mono ?_); rintro x w' ⟨rfl, rfl⟩; exact ⟨rfl, hC⟩) | (obtain ⟨a0, a1, a2, a3, a4⟩ := (HN.out.1.next hC).cells; go_simp; exact rfl)); clear hK K))
    refine wpQuiet_nil ?_
    intro w1 hb1
    have HN1 : Hid (At4r w1 w.heap.size (.int .i64 1) (.bool na) (.int .i64 ea) (.string sa) ∧ Below w.heap.size w w1) := ⟨HN.out.1.next hb1, HN.out.2.1.trans (hb1.mono HN.out.2.1.size)⟩
    clear hb1 HN HX0 HR1 hE HEn hw1 hw2 hw3 hw4
    obtain ⟨a0, a1, a2, a3, a4⟩ := HN1.out.1.cells
    go_wp2
    go_ret
    exact ⟨by rw [EK.out]; rfl, HN1.out.2⟩
  · have t0 : (Int.tmod (ea - s0) 2 == 0) = false := beq_eq_false_iff_ne.2 (fun c => hev (htm.1 c))
    rw [if_neg hev] at hKE
    have EK : Hid (KK = s0 + 1) := hKE
    clear htm hev hKE
    have hE := HEn.out
    unfold RmV
    go_enter Tryz.func95, Tryz.ntmps95
    go_upto_region 1 with fail
    generalize w.alloc (.cells #[.int .i64 1, .bool na, .int .i64 ea, .string sa] 78) = w0 at *
    have HX0 : Hid (Below w0.heap.size w0 w0.drew) := (Below.refl _ _).drew
    refine wp_region_class (C := fun W => Below w0.heap.size w0 W) (by kernel_rfl) (by kernel_rfl) HX0.out ?_
    repeat (refine wpQuiet_step (fun K hK => ?_); go_simp; first | (refine hK _ ?_; clear hK K) | (apply Exists.intro; refine ⟨fun wx hC => ?_, hK _ ?_⟩; (first | exact rfl | (have hcc := (hC.cell (p := ⟨b, 0, none⟩) HN.out.2.2.2).trans HN.out.2.2.1; (with_reducible refine (HR1.out wx hcc).mono ?_); rintro x w' ⟨rfl, rfl⟩; exact ⟨rfl, hC⟩) | (obtain ⟨a0, a1, a2, a3, a4⟩ := (HN.out.1.next hC).cells; go_simp; exact rfl)); clear hK K))
    refine wpQuiet_nil ?_
    intro w1 hb1
    have HN1 : Hid (At4r w1 w.heap.size (.int .i64 1) (.bool na) (.int .i64 ea) (.string sa) ∧ Below w.heap.size w w1) := ⟨HN.out.1.next hb1, HN.out.2.1.trans (hb1.mono HN.out.2.1.size)⟩
    clear hb1 HN HX0 HR1 hE HEn hw1 hw2 hw3 hw4
    obtain ⟨a0, a1, a2, a3, a4⟩ := HN1.out.1.cells
    go_wp2
    go_ret
    exact ⟨by rw [EK.out]; rfl, HN1.out.2⟩
/-- What Sqrt's closure sees. -/
def Cp3 (X : World) (p : Nat) (f mode : Int) (ka : Int) (na : Bool) (ea : Int) (sa : ByteArray) : Prop := X.cell? ⟨p, 0, none⟩ = some (.int .i64 f) ∧ X.cell? ⟨p + 1, 0, none⟩ = some (.int .i64 mode) ∧ At4r X (p + 2) (.int .i64 ka) (.bool na) (.int .i64 ea) (.string sa)
theorem Cp3.next {X X' : World} {p : Nat} {f mode : Int} {ka : Int} {na : Bool} {ea : Int} {sa : ByteArray} (h : Cp3 X p f mode ka na ea sa) (hb : Below X.heap.size X X') : Cp3 X' p f mode ka na ea sa := by
  have l := h.2.2.lt
  exact ⟨(hb.cell (p := ⟨p, 0, none⟩) (show p < X.heap.size by omega)).trans h.1, (hb.cell (p := ⟨p + 1, 0, none⟩) (show p + 1 < X.heap.size by omega)).trans h.2.1, h.2.2.next hb⟩
theorem ti1_any (k : Int) (n : Bool) (e : Int) (s : ByteArray) (W : World) : Calls Tryz.prog 80 #[.slice (some ⟨W.heap.size, 0, none⟩) 1 1] (W.alloc (.cells #[.int .i64 k, .bool n, .int .i64 e, .string s] 78)) fun x w' => x = (if k = 2 then thrown (rsV k n e s 0) else .returned (.tuple #[])) ∧ Below (W.alloc (.cells #[.int .i64 k, .bool n, .int .i64 e, .string s] 78)).heap.size (W.alloc (.cells #[.int .i64 k, .bool n, .int .i64 e, .string s] 78)) w' := by
  have := throwInfinity_any 1 W.heap.size (fun _ => k) (fun _ => n) (fun _ => e) (fun _ => s) (W.alloc (.cells #[.int .i64 k, .bool n, .int .i64 e, .string s] 78)) (by decide) (by rw [new_size]; omega) (nrwO (heap_at W _))
  refine this.mono ?_
  rintro x w' ⟨rfl, hb⟩
  refine ⟨?_, hb⟩
  by_cases h : k = 2
  · subst h
    simp [tiE, tiX, tiA]
  · simp [tiE, tiX, tiA, h]
theorem rt_one (S R S' R' : Int) {M : Int} (h : Rt M S R) (h' : Rt M S' R') : S = S' ∧ R = R' := by
  obtain ⟨e, s0, r0, r1⟩ := h
  obtain ⟨e', s0', r0', r1'⟩ := h'
  have key : ∀ a b c d : Int, a * a + b = M → 0 ≤ a → 0 ≤ b → b ≤ 2 * a → c * c + d = M → 0 ≤ c → 0 ≤ d → ¬ a < c := fun a b c d h1 h2 h3 h4 h5 h6 h7 h8 => by
    have q := sq_le (show 0 ≤ a + 1 by omega) (show a + 1 ≤ c by omega)
    have x : (a + 1) * (a + 1) = a * a + 2 * a + 1 := by grind
    omega
  have k1 := key S R S' R' e s0 r0 r1 e' s0' r0'
  have k2 := key S' R' S R e' s0' r0' r1' e s0 r0
  have es : S = S' := by omega
  subst es
  exact ⟨rfl, by omega⟩
/-- What lies in memory while a root is worked out. -/
def ZS (X : World) (p : Nat) (f mode : Int) (na : Bool) (ea : Int) (sa : ByteArray) (W : World) : Prop := At5 W X.heap.size (.int .i64 0) (.bool false) (.int .i64 0) (.string { data := #[] }) (.int .i64 0) ∧ Below X.heap.size X W ∧ Cp3 W p f mode 1 na ea sa
theorem ZS.next {X W W' : World} {p : Nat} {f mode : Int} {na : Bool} {ea : Int} {sa : ByteArray} (h : ZS X p f mode na ea sa W) (hb : Below W.heap.size W W') : ZS X p f mode na ea sa W' := ⟨h.1.below hb h.1.lt, h.2.1.trans (hb.mono h.2.1.size), h.2.2.next hb⟩
set_option maxRecDepth 100000 in
set_option maxHeartbeats 4000000 in
theorem sqrt1_any (p : Nat) (f mode : Int) (ka : Int) (na : Bool) (ea : Int) (sa : ByteArray) (S : Int) (zz : Bool) (X : World) (hm : 1 ≤ mode ∧ mode ≤ 5) (hr : Rgn f ka ea sa) (hS : SqH f ea sa S zz) (hC : Cp3 X p f mode ka na ea sa) :
    Calls Tryz.prog 92 #[.pointer (some ⟨p + 2, 0, none⟩), .pointer (some ⟨p, 0, none⟩), .pointer (some ⟨p + 1, 0, none⟩)] X fun x w' => (x = .returned (rsD (sqX f mode ka na ea sa S zz).1 (sqX f mode ka na ea sa S zz).2) ∨ x = thrown (rsD (sqX f mode ka na ea sa S zz).1 (sqX f mode ka na ea sa S zz).2)) ∧ Below X.heap.size X w' := by
  have hb0 : Below X.heap.size X (X.alloc (.cells #[.int .i64 0, .bool false, .int .i64 0, .string { data := #[] }, .int .i64 0] 90)) := (Below.refl _ _).alloc (Nat.le_refl _) _
  have HZ : Hid (At5 (X.alloc (.cells #[.int .i64 0, .bool false, .int .i64 0, .string { data := #[] }, .int .i64 0] 90)) X.heap.size (.int .i64 0) (.bool false) (.int .i64 0) (.string { data := #[] }) (.int .i64 0) ∧ Below X.heap.size X (X.alloc (.cells #[.int .i64 0, .bool false, .int .i64 0, .string { data := #[] }, .int .i64 0] 90)) ∧ Cp3 (X.alloc (.cells #[.int .i64 0, .bool false, .int .i64 0, .string { data := #[] }, .int .i64 0] 90)) p f mode ka na ea sa) := ⟨at5_new X _ _ _ _ _, hb0, hC.next hb0⟩
  have HNa : Hid (∀ Y, Calls Tryz.prog 93 #[numV ka na ea sa] Y fun x w' => x = .returned (.bool (zB ka sa)) ∧ Below Y.heap.size Y w') := fun Y => isNought_rgn hr na Y
  have HTi : Hid (∀ W : World, Calls Tryz.prog 80 #[.slice (some ⟨W.heap.size, 0, none⟩) 1 1] (W.alloc (.cells #[.int .i64 ka, .bool na, .int .i64 ea, .string sa] 78)) fun x w' => x = (if ka = 2 then thrown (rsV ka na ea sa 0) else .returned (.tuple #[])) ∧ Below (W.alloc (.cells #[.int .i64 ka, .bool na, .int .i64 ea, .string sa] 78)).heap.size (W.alloc (.cells #[.int .i64 ka, .bool na, .int .i64 ea, .string sa] 78)) w') := fun W => ti1_any ka na ea sa W
  have HT0 : Hid (Calls Tryz.prog 80 #[.slice (some ⟨X.heap.size + 1, 0, none⟩) 1 1] ((X.alloc (.cells #[.int .i64 0, .bool false, .int .i64 0, .string { data := #[] }, .int .i64 0] 90)).alloc (.cells #[.int .i64 ka, .bool na, .int .i64 ea, .string sa] 78)) fun x w' => x = (if ka = 2 then thrown (rsV ka na ea sa 0) else .returned (.tuple #[])) ∧ Below ((X.alloc (.cells #[.int .i64 0, .bool false, .int .i64 0, .string { data := #[] }, .int .i64 0] 90)).alloc (.cells #[.int .i64 ka, .bool na, .int .i64 ea, .string sa] 78)).heap.size ((X.alloc (.cells #[.int .i64 0, .bool false, .int .i64 0, .string { data := #[] }, .int .i64 0] 90)).alloc (.cells #[.int .i64 ka, .bool na, .int .i64 ea, .string sa] 78)) w') := by
    have := HTi.out (X.alloc (.cells #[.int .i64 0, .bool false, .int .i64 0, .string { data := #[] }, .int .i64 0] 90))
    rwa [new_size] at this
  obtain ⟨R, hR⟩ : ∃ R, sqX f mode ka na ea sa S zz = R := ⟨_, rfl⟩
  rw [hR]
  unfold sqX at hR
  obtain ⟨q0, q1, qa⟩ := HZ.out.2.2
  obtain ⟨a0, a1, a2, a3, a4⟩ := qa.cells
  clear qa hb0 hC
  by_cases hinv : na = true ∧ zB ka sa = false
  · rw [if_pos hinv] at hR
    subst hR
    obtain ⟨rfl, hz⟩ := hinv
    rw [hz] at HNa
    clear hr hm hz hS HTi HT0
    go_enter Tryz.func92, Tryz.ntmps92
    go_wp2_with fail
    refine (HNa.out _).mono ?_
    rintro x w1 ⟨rfl, hb1⟩
    have HB1 : Hid (Below X.heap.size X w1) := HZ.out.2.1.trans (hb1.mono HZ.out.2.1.size)
    clear hb1 HZ HNa q0 q1 a0 a1 a2 a3 a4
    go_wp2_with fail
    refine (iInvalid_any _).mono ?_
    rintro x w4 ⟨rfl, hb4⟩
    go_wp2
    exact ⟨rfl, .inr rfl, HB1.out.trans (hb4.mono HB1.out.size)⟩
  rw [if_neg hinv] at hR
  by_cases hA : ka = 2
  · subst hA
    have hn0 : na = false := by
      cases na with
      | false => rfl
      | true => exact absurd ⟨rfl, rfl⟩ hinv
    subst hn0
    obtain ⟨rfl, rfl⟩ := hr.2.2.2.2 rfl
    rw [if_pos rfl] at hR HT0
    subst hR
    clear hr hm hinv hS HTi HNa
    go_enter Tryz.func92, Tryz.ntmps92
    go_wp2_with fail
    refine HT0.out.mono ?_
    rintro x w1 ⟨rfl, hb1⟩
    have hbq : Below X.heap.size X ((X.alloc (.cells #[.int .i64 0, .bool false, .int .i64 0, .string { data := #[] }, .int .i64 0] 90)).alloc (.cells #[.int .i64 2, .bool false, .int .i64 0, .string { data := #[] }] 78)) := HZ.out.2.1.alloc HZ.out.2.1.size _
    go_wp2
    exact ⟨rfl, .inr rfl, hbq.trans (hb1.mono hbq.size)⟩
  have hk1 : ka = 1 := hr.2.2.1.resolve_right hA
  subst hk1
  rw [if_neg hA] at hR HTi HT0
  obtain ⟨hsa, nka, v0a, -, l34a, l1a, hszA, hea⟩ := hr.tn rfl
  obtain ⟨ca, lpa, -, -⟩ := hr.2.2.2.1 rfl
  have hP : 1 ≤ limP f ∧ limP f ≤ 34 := by rcases hr.1 with rfl | rfl <;> decide
  obtain ⟨RR, hRt, hzz⟩ := hS v0a
  obtain ⟨n1, nS, nR, hhi, hlo, hze, hpar⟩ := sq_size f hr.1 (dl sa) ca lpa ea S RR hRt
  have HRs : Hid (∀ (b : Nat) Y, Y.cell? ⟨b, 0, none⟩ = some (.int .i64 (limP f)) → b < Y.heap.size → Calls Tryz.prog 95 #[RmV b, numV 1 na ea sa] Y fun x w' => x = .returned (.int .i64 (sqK f ea (dl sa).length)) ∧ Below Y.heap.size Y w') := fun b Y h1 h2 => rootShift_any b f na ea sa Y hr h1 h2
  have hkb : (sqK f ea (dl sa).length : Int) ≤ 100 := by unfold sqK; split <;> omega
  obtain ⟨k, hk⟩ : ∃ k, sqK f ea (dl sa).length = k := ⟨_, rfl⟩
  rw [hk] at HRs hRt n1 hpar hkb hR
  have HSh : Hid (∀ Y, Calls Tryz.prog 87 #[.string sa, .int .i64 k] Y fun e w' => e = .returned (.string (tn (vl (dl sa) * 10 ^ k))) ∧ Below Y.heap.size Y w') := fun Y => by
    have := iNatShift_any (tn (vl (dl sa))) k Y (tnSz _)
    rw [shift_tn nka (by simpa using n1) (by omega) (by omega), ← hsa] at this
    simpa using this
  have HRo : Hid (∀ Y, Calls Tryz.prog 96 #[.string (tn (vl (dl sa) * 10 ^ k))] Y fun e w' => e = .returned (.tuple #[.string (tn S), .string (tn RR)]) ∧ Below Y.heap.size Y w') := fun Y => by
    refine (iNatRoot_yes (tn (vl (dl sa) * 10 ^ k)) Y (tnSz _) (tn_ok n1)).mono ?_
    rintro e w' ⟨S', R', rfl, e1, s0, r0, r1, hb⟩
    rw [nv_tn n1] at e1
    obtain ⟨rfl, rfl⟩ := rt_one S' R' S RR ⟨e1, s0, r0, r1⟩ hRt
    exact ⟨rfl, hb⟩
  have hz0 : ((tn RR).toList == [48]) = zz := by
    rw [← hzz]
    by_cases c : RR = 0
    · rw [c, tn_0]; rfl
    · rw [tn_is0 nR c, decide_eq_false c]
  have HFi : Hid (∀ Y, Calls Tryz.prog 88 #[.int .i64 f, .int .i64 mode, .bool na, .string (tn S), .int .i64 ((ea - k) / 2), .bool (!zz), .int .i64 (ea / 2)] Y fun x w' => x = .returned (rsD R.1 R.2) ∧ Below Y.heap.size Y w') := fun Y => by
    obtain ⟨cq, vq⟩ := nok_spec nS
    have := iFinish_both f mode hr.1 hm na (nt S) ((ea - k) / 2) (!zz) (ea / 2) Y cq (nok_len nS) (fun h => by
      have hne : vl (dl sa) ≠ 0 := fun c => by
        rw [(hze c).2] at hzz
        rw [← hzz] at h
        cases h
      have h1 := hlo hne
      have h2 := len_lo _ cq (limP f).toNat (by rw [vq]; exact h1)
      refine ⟨fun c => ?_, by omega⟩
      rw [c] at h2
      simp at h2
      omega) (by omega) (by omega)
    rw [← hR]
    dsimp only
    exact this
  have HH1 : Hid (∀ Y, Calls Tryz.prog 97 #[.int .i64 (ea - k)] Y fun x w' => x = .returned (.int .i64 ((ea - k) / 2)) ∧ w' = Y) := fun Y => halfDown_any (ea - k) Y (by omega) (by omega)
  have HH2 : Hid (∀ Y, Calls Tryz.prog 97 #[.int .i64 ea] Y fun x w' => x = .returned (.int .i64 (ea / 2)) ∧ w' = Y) := fun Y => halfDown_any ea Y (by omega) (by omega)
  have hw1 : IntKind.i64.wrap (ea - (k : Int)) = ea - k := by rw [IntKind.wrap_i64]; omega
  have HRm : Hid (∀ Y, Calls Tryz.prog 85 #[.int .i64 f] Y fun x w' => ∃ b, x = .returned (RmV b) ∧ w'.cell? ⟨b, 0, none⟩ = some (.int .i64 (limP f)) ∧ Y.heap.size ≤ b ∧ b < w'.heap.size ∧ Below Y.heap.size Y w') := fun Y => roomIn_any f Y
  have hzn : na = true → zB 1 sa = true := fun h => by
    cases hq : zB 1 sa with
    | true => rfl
    | false => exact absurd ⟨h, hq⟩ hinv
  clear hr hm hinv hS hA hR hsa nka v0a l34a l1a hszA hea ca lpa hP hRt hzz n1 nS nR hhi hlo hze hpar hkb hk
  generalize tn (vl (dl sa) * 10 ^ k) = TM at *
  generalize tn S = TS at *
  generalize tn RR = TR at *
  generalize limP f = P at *
  generalize (k : Int) = K1 at *
  generalize (ea - K1) / 2 = E1 at *
  generalize ea / 2 = E2 at *
  obtain ⟨R0, F1, F2, F3, F4⟩ := R
  have hq1 : Below X.heap.size X ((X.alloc (.cells #[.int .i64 0, .bool false, .int .i64 0, .string { data := #[] }, .int .i64 0] 90)).alloc (.cells #[.int .i64 1, .bool na, .int .i64 ea, .string sa] 78)) := HZ.out.2.1.alloc HZ.out.2.1.size _
  have main : ∀ w2, ZS X p f mode na ea sa w2 → Hid (ZS X p f mode na ea sa w2) := fun _ h => h
  cases na with
  | true =>
    rw [hzn rfl] at HNa
    go_enter Tryz.func92, Tryz.ntmps92
    go_wp2_with fail
    refine (HNa.out _).mono ?_
    rintro x w1 ⟨rfl, hb1⟩
    have HZ1 : Hid (ZS X p f mode true ea sa w1) := ⟨HZ.out.1.below hb1 HZ.out.1.lt, HZ.out.2.1.trans (hb1.mono HZ.out.2.1.size), HZ.out.2.2.next hb1⟩
    clear hb1 HZ HNa q0 q1 a0 a1 a2 a3 a4 HT0 hzn hq1 main
    obtain ⟨q0, q1, qa⟩ := HZ1.out.2.2
    obtain ⟨a0, a1, a2, a3, a4⟩ := qa.cells
    clear qa
    go_wp2_with fail
    refine (HTi.out _).mono ?_
    rintro x w2 ⟨rfl, hb2⟩
    have hb3 : Below w1.heap.size w1 (w1.alloc (.cells #[.int .i64 1, .bool true, .int .i64 ea, .string sa] 78)) := (Below.refl _ _).alloc (Nat.le_refl _) _
    have HZ2 : Hid (ZS X p f mode true ea sa w2) := (HZ1.out.next hb3).next hb2
    clear hb2 hb3 HZ1 HTi q0 q1 a0 a1 a2 a3 a4
    obtain ⟨q0, q1, qa⟩ := HZ2.out.2.2
    obtain ⟨a0, a1, a2, a3, a4⟩ := qa.cells
    clear qa
    go_upto_region 4 with fail
    go_cut [4] (fun s wx => s = .int .i64 K1 ∧ Hid (ZS X p f mode true ea sa wx))
    case first =>
      go_region_with (first
        | (go_at_call 85; refine (HRm.out _).mono ?_; rintro x w3 ⟨b, rfl, hb, hle, hlt, hb3x⟩; have hb3 : Below w2.heap.size w2 w3 := (Below.refl w2.heap.size w2).drew.trans (hb3x.mono (Nat.le_refl _)); have HJ : Hid (ZS X p f mode true ea sa w3) := HZ2.out.next hb3; have HB : Hid (w3.cell? ⟨b, 0, none⟩ = some (.int .i64 P) ∧ b < w3.heap.size) := ⟨hb, hlt⟩; clear hb hle hlt hb3x hb3 q0 q1 a0 a1 a2 a3 a4; obtain ⟨a0, a1, a2, a3, a4⟩ := HJ.out.2.2.2.2.cells)
        | (go_at_call 95; refine (HRs.out b _ HB.out.1 HB.out.2).mono ?_; rintro x w4 ⟨rfl, hb4⟩; have HJ4 : Hid (ZS X p f mode true ea sa w4) := HJ.out.next hb4; clear hb4))
      all_goals
        go_wp2
        go_meet
        case rel => exact ⟨rfl, HJ4⟩
    case rest =>
      obtain ⟨rfl, HJ⟩ := hcut
      clear HZ2 HRm HRs q0 q1 a0 a1 a2 a3 a4
      obtain ⟨q0, q1, qa⟩ := HJ.out.2.2
      obtain ⟨a0, a1, a2, a3, a4⟩ := qa.cells
      clear qa
      go_wp2_with fail
      refine (HSh.out _).mono ?_
      rintro x w5 ⟨rfl, hb5⟩
      have HJ5 : Hid (ZS X p f mode true ea sa w5) := HJ.out.next hb5
      clear hb5 HJ HSh q0 q1 a0 a1 a2 a3 a4
      go_wp2_with fail
      refine (HRo.out _).mono ?_
      rintro x w6 ⟨rfl, hb6⟩
      have HJ6 : Hid (ZS X p f mode true ea sa w6) := HJ5.out.next hb6
      clear hb6 HJ5 HRo
      go_upto_region 6 with fail
      have HX1 : Hid (Below w6.heap.size w6 w6.drew) := (Below.refl _ _).drew
      refine wp_region_tail (C := fun W => Below w6.heap.size w6 W) 16 (by kernel_rfl) (by kernel_rfl) HX1.out ?_
      simp only [List.take_succ_cons, List.take_zero, List.drop_succ_cons, List.drop_zero]
      repeat (refine wpQuiet_step (fun K hK => ?_); go_simp; first | (refine hK _ ?_; clear hK K) | (apply Exists.intro; refine ⟨fun wx hC => ?_, hK _ ?_⟩; (first | exact rfl | ((with_reducible refine (HH1.out wx).mono ?_); rintro x w' ⟨rfl, rfl⟩; exact ⟨rfl, hC⟩) | ((with_reducible refine (HH2.out wx).mono ?_); rintro x w' ⟨rfl, rfl⟩; exact ⟨rfl, hC⟩) | ((with_reducible refine Calls.class_of (HFi.out wx) ?_); exact fun w' hb => bel1 hC hb) | (obtain ⟨q0, q1, qa⟩ := (HJ6.out.next hC).2.2; clear qa; go_simp; exact rfl) | (obtain ⟨q0, q1, qa⟩ := (HJ6.out.next hC).2.2; obtain ⟨a0, a1, a2, a3, a4⟩ := qa.cells; go_simp; exact rfl)); clear hK K))
      refine wpQuiet_nil ?_
      intro w7 hb7
      have HZ7 : Hid (At5 w7 X.heap.size (.int .i64 0) (.bool false) (.int .i64 0) (.string { data := #[] }) (.int .i64 0) ∧ Below X.heap.size X w7) := ⟨(HJ6.out.next hb7).1, (HJ6.out.next hb7).2.1⟩
      clear hb7 HJ6 HX1 HFi HH1 HH2
      go_wp2_with (refine wpList_store_row rfl 90 (.tmp 3) (.tmp 46) rfl X.heap.size #[.int .i64 F1, .bool R0, .int .i64 F2, .string F3, .int .i64 F4] rfl rfl _ _ HZ7.out.1 (by kernel_rfl) rfl (one5 _ _ _ _ _) ?_)
      have hP := (HZ7.out.1.row (.int .i64 F1) (.bool R0) (.int .i64 F2) (.string F3) (.int .i64 F4)).cells
      refine bodyPost_ret (results_res rfl _ _ rfl hP.1 hP.2.1 hP.2.2.1 hP.2.2.2.1 hP.2.2.2.2.1) rfl ?_
      exact ⟨.inl rfl, bel_row HZ7.out.2 (Nat.le_refl _) _⟩
  | false =>
    clear HTi hzn main HNa
    go_enter Tryz.func92, Tryz.ntmps92
    go_wp2_with fail
    refine HT0.out.mono ?_
    rintro x w2 ⟨rfl, hb2⟩
    have hb3 : Below (X.alloc (.cells #[.int .i64 0, .bool false, .int .i64 0, .string { data := #[] }, .int .i64 0] 90)).heap.size (X.alloc (.cells #[.int .i64 0, .bool false, .int .i64 0, .string { data := #[] }, .int .i64 0] 90)) ((X.alloc (.cells #[.int .i64 0, .bool false, .int .i64 0, .string { data := #[] }, .int .i64 0] 90)).alloc (.cells #[.int .i64 1, .bool false, .int .i64 ea, .string sa] 78)) := (Below.refl _ _).alloc (Nat.le_refl _) _
    have hz0' : ZS X p f mode false ea sa (X.alloc (.cells #[.int .i64 0, .bool false, .int .i64 0, .string { data := #[] }, .int .i64 0] 90)) := HZ.out
    have HZ2 : Hid (ZS X p f mode false ea sa w2) := (hz0'.next hb3).next hb2
    clear hb2 hb3 HZ hz0' HT0 q0 q1 a0 a1 a2 a3 a4 hq1
    obtain ⟨q0, q1, qa⟩ := HZ2.out.2.2
    obtain ⟨a0, a1, a2, a3, a4⟩ := qa.cells
    clear qa
    go_upto_region 4 with fail
    go_cut [4] (fun s wx => s = .int .i64 K1 ∧ Hid (ZS X p f mode false ea sa wx))
    case first =>
      go_region_with (first
        | (go_at_call 85; refine (HRm.out _).mono ?_; rintro x w3 ⟨b, rfl, hb, hle, hlt, hb3x⟩; have hb3 : Below w2.heap.size w2 w3 := (Below.refl w2.heap.size w2).drew.trans (hb3x.mono (Nat.le_refl _)); have HJ : Hid (ZS X p f mode false ea sa w3) := HZ2.out.next hb3; have HB : Hid (w3.cell? ⟨b, 0, none⟩ = some (.int .i64 P) ∧ b < w3.heap.size) := ⟨hb, hlt⟩; clear hb hle hlt hb3x hb3 q0 q1 a0 a1 a2 a3 a4; obtain ⟨a0, a1, a2, a3, a4⟩ := HJ.out.2.2.2.2.cells)
        | (go_at_call 95; refine (HRs.out b _ HB.out.1 HB.out.2).mono ?_; rintro x w4 ⟨rfl, hb4⟩; have HJ4 : Hid (ZS X p f mode false ea sa w4) := HJ.out.next hb4; clear hb4))
      all_goals
        go_wp2
        go_meet
        case rel => exact ⟨rfl, HJ4⟩
    case rest =>
      obtain ⟨rfl, HJ⟩ := hcut
      clear HZ2 HRm HRs q0 q1 a0 a1 a2 a3 a4
      obtain ⟨q0, q1, qa⟩ := HJ.out.2.2
      obtain ⟨a0, a1, a2, a3, a4⟩ := qa.cells
      clear qa
      go_wp2_with fail
      refine (HSh.out _).mono ?_
      rintro x w5 ⟨rfl, hb5⟩
      have HJ5 : Hid (ZS X p f mode false ea sa w5) := HJ.out.next hb5
      clear hb5 HJ HSh q0 q1 a0 a1 a2 a3 a4
      go_wp2_with fail
      refine (HRo.out _).mono ?_
      rintro x w6 ⟨rfl, hb6⟩
      have HJ6 : Hid (ZS X p f mode false ea sa w6) := HJ5.out.next hb6
      clear hb6 HJ5 HRo
      go_upto_region 6 with fail
      have HX1 : Hid (Below w6.heap.size w6 w6.drew) := (Below.refl _ _).drew
      refine wp_region_tail (C := fun W => Below w6.heap.size w6 W) 16 (by kernel_rfl) (by kernel_rfl) HX1.out ?_
      simp only [List.take_succ_cons, List.take_zero, List.drop_succ_cons, List.drop_zero]
      repeat (refine wpQuiet_step (fun K hK => ?_); go_simp; first | (refine hK _ ?_; clear hK K) | (apply Exists.intro; refine ⟨fun wx hC => ?_, hK _ ?_⟩; (first | exact rfl | ((with_reducible refine (HH1.out wx).mono ?_); rintro x w' ⟨rfl, rfl⟩; exact ⟨rfl, hC⟩) | ((with_reducible refine (HH2.out wx).mono ?_); rintro x w' ⟨rfl, rfl⟩; exact ⟨rfl, hC⟩) | ((with_reducible refine Calls.class_of (HFi.out wx) ?_); exact fun w' hb => bel1 hC hb) | (obtain ⟨q0, q1, qa⟩ := (HJ6.out.next hC).2.2; clear qa; go_simp; exact rfl) | (obtain ⟨q0, q1, qa⟩ := (HJ6.out.next hC).2.2; obtain ⟨a0, a1, a2, a3, a4⟩ := qa.cells; go_simp; exact rfl)); clear hK K))
      refine wpQuiet_nil ?_
      intro w7 hb7
      have HZ7 : Hid (At5 w7 X.heap.size (.int .i64 0) (.bool false) (.int .i64 0) (.string { data := #[] }) (.int .i64 0) ∧ Below X.heap.size X w7) := ⟨(HJ6.out.next hb7).1, (HJ6.out.next hb7).2.1⟩
      clear hb7 HJ6 HX1 HFi HH1 HH2
      go_wp2_with (refine wpList_store_row rfl 90 (.tmp 3) (.tmp 46) rfl X.heap.size #[.int .i64 F1, .bool R0, .int .i64 F2, .string F3, .int .i64 F4] rfl rfl _ _ HZ7.out.1 (by kernel_rfl) rfl (one5 _ _ _ _ _) ?_)
      have hP := (HZ7.out.1.row (.int .i64 F1) (.bool R0) (.int .i64 F2) (.string F3) (.int .i64 F4)).cells
      refine bodyPost_ret (results_res rfl _ _ rfl hP.1 hP.2.1 hP.2.2.1 hP.2.2.2.1 hP.2.2.2.2.1) rfl ?_
      exact ⟨.inl rfl, bel_row HZ7.out.2 (Nat.le_refl _) _⟩
set_option maxRecDepth 100000 in
set_option maxHeartbeats 1000000 in
theorem iSqrt_any (f mode : Int) (ka : Int) (na : Bool) (ea : Int) (sa : ByteArray) (S : Int) (zz : Bool) (w : World) (hsa : sa.size ≤ 4611686018427387904) (hS : SqH f ea sa S zz) :
    Calls Tryz.prog 35 #[.int .i64 f, .int .i64 mode, numV ka na ea sa] w fun x w' => x = .returned (rsD (sqR f mode ka na ea sa S zz).1 (sqR f mode ka na ea sa S zz).2) ∧ Below w.heap.size w w' := by
  have hmf : ∀ (fn : Fn) (first cap : Array Value) (w : World), (Instr.makeFunc fn first cap).run Tryz.prog w = .ok (.func fn first cap) w := fun _ _ _ _ => rfl
  have HE : Hid (∀ args w, (callFunc 92 args).run Tryz.prog w = .ok (.enter 92 args) w) := enters_of Tryz.func92 (by kernel_rfl) rfl
  obtain ⟨W, hW⟩ : ∃ W, (((w.alloc (.cells #[.int .i64 f] 2)).alloc (.cells #[.int .i64 mode] 2)).alloc (.cells #[.int .i64 ka, .bool na, .int .i64 ea, .string sa] 78)).alloc (.cells #[.int .i64 0, .bool false, .int .i64 0, .string { data := #[] }, .int .i64 0] 90) = W := ⟨_, rfl⟩
  have hN : Cp3 W w.heap.size f mode ka na ea sa ∧ At5 W (w.heap.size + 3) (.int .i64 0) (.bool false) (.int .i64 0) (.string { data := #[] }) (.int .i64 0) ∧ Below w.heap.size w W ∧ W.heap.size = w.heap.size + 4 := by
    rw [← hW]
    have c1 := new_cell1 w (.int .i64 f) 2
    have z1 := new_size w (.cells #[.int .i64 f] 2)
    have b1 : Below w.heap.size w (w.alloc (.cells #[.int .i64 f] 2)) := (Below.refl _ _).alloc (Nat.le_refl _) _
    generalize w.alloc (.cells #[.int .i64 f] 2) = w1 at *
    have c2 := new_cell1 w1 (.int .i64 mode) 2
    have z2 := new_size w1 (.cells #[.int .i64 mode] 2)
    have b2 : Below w1.heap.size w1 (w1.alloc (.cells #[.int .i64 mode] 2)) := (Below.refl _ _).alloc (Nat.le_refl _) _
    generalize w1.alloc (.cells #[.int .i64 mode] 2) = w2 at *
    have h3 := at4r_new w2 (.int .i64 ka) (.bool na) (.int .i64 ea) (.string sa)
    have z3 := new_size w2 (.cells #[.int .i64 ka, .bool na, .int .i64 ea, .string sa] 78)
    have b3 : Below w2.heap.size w2 (w2.alloc (.cells #[.int .i64 ka, .bool na, .int .i64 ea, .string sa] 78)) := (Below.refl _ _).alloc (Nat.le_refl _) _
    generalize w2.alloc (.cells #[.int .i64 ka, .bool na, .int .i64 ea, .string sa] 78) = w3 at *
    have h4 := at5_new w3 (.int .i64 0) (.bool false) (.int .i64 0) (.string { data := #[] }) (.int .i64 0)
    have z4 := new_size w3 (.cells #[.int .i64 0, .bool false, .int .i64 0, .string { data := #[] }, .int .i64 0] 90)
    have b4 : Below w3.heap.size w3 (w3.alloc (.cells #[.int .i64 0, .bool false, .int .i64 0, .string { data := #[] }, .int .i64 0] 90)) := (Below.refl _ _).alloc (Nat.le_refl _) _
    rw [z1] at c2
    rw [z2, z1] at h3
    rw [z3, z2, z1] at h4
    have b34 := b3.trans (b4.mono b3.size)
    have b24 := b2.trans (b34.mono b2.size)
    exact ⟨⟨(b24.cell (p := ⟨w.heap.size, 0, none⟩) (show w.heap.size < w1.heap.size by omega)).trans c1, (b34.cell (p := ⟨w.heap.size + 1, 0, none⟩) (show w.heap.size + 1 < w2.heap.size by omega)).trans c2, h3.next b4⟩, h4, b1.trans (b24.mono b1.size), by omega⟩
  have hb5 : Below W.heap.size W (W.alloc (.cells #[.int .i64 ka, .bool na, .int .i64 ea, .string sa] 78)) := (Below.refl _ _).alloc (Nat.le_refl _) _
  have hg := heap_at W (.cells #[.int .i64 ka, .bool na, .int .i64 ea, .string sa] 78)
  have hz5 := new_size W (.cells #[.int .i64 ka, .bool na, .int .i64 ea, .string sa] 78)
  have HO : Hid (Calls Tryz.prog 82 #[.int .i64 f, .int .i64 mode, .func (.func 92) #[] #[.pointer (some ⟨w.heap.size + 2, 0, none⟩), .pointer (some ⟨w.heap.size, 0, none⟩), .pointer (some ⟨w.heap.size + 1, 0, none⟩)], .slice (some ⟨W.heap.size, 0, none⟩) 1 1] (W.alloc (.cells #[.int .i64 ka, .bool na, .int .i64 ea, .string sa] 78)) fun x w' => x = .returned (rsD (sqR f mode ka na ea sa S zz).1 (sqR f mode ka na ea sa S zz).2) ∧ Below (W.alloc (.cells #[.int .i64 ka, .bool na, .int .i64 ea, .string sa] 78)).heap.size (W.alloc (.cells #[.int .i64 ka, .bool na, .int .i64 ea, .string sa] 78)) w') :=
    ofNumbers_any f mode 92 _ HE.out 1 W.heap.size (fun _ => ka) (fun _ => na) (fun _ => ea) (fun _ => sa) (sqX f mode ka na ea sa S zz) _ (by decide) (by decide) (by rw [hz5]; omega) (nrwO hg) (fun _ _ => hsa) (fun h1 h2 Y hY => by
      obtain ⟨hm, hr⟩ := rgn_one h1 h2
      exact sqrt1_any w.heap.size f mode ka na ea sa S zz Y hm hr hS ((hN.1.next hb5).next hY))
  have HZ : Hid (At5 (W.alloc (.cells #[.int .i64 ka, .bool na, .int .i64 ea, .string sa] 78)) (w.heap.size + 3) (.int .i64 0) (.bool false) (.int .i64 0) (.string { data := #[] }) (.int .i64 0) ∧ Below w.heap.size w (W.alloc (.cells #[.int .i64 ka, .bool na, .int .i64 ea, .string sa] 78))) := ⟨hN.2.1.below hb5 hN.2.1.lt, hN.2.2.1.trans (hb5.mono hN.2.2.1.size)⟩
  rw [hN.2.2.2] at HO
  obtain ⟨q0, q1, qa⟩ := hN.1
  obtain ⟨a0, a1, a2, a3, -⟩ := qa.cells
  rw [← hW] at HO HZ q0 q1 a0 a1 a2 a3
  clear hW hN hb5 hg hz5 hsa HE qa hS
  generalize sqR f mode ka na ea sa S zz = R at *
  obtain ⟨R0, F1, F2, F3, F4⟩ := R
  go_enter Tryz.func35, Tryz.ntmps35
  go_wp2_with fail
  refine HO.out.mono ?_
  rintro x w1 ⟨rfl, hb1⟩
  have HZ1 : Hid (At5 w1 (w.heap.size + 3) (.int .i64 0) (.bool false) (.int .i64 0) (.string { data := #[] }) (.int .i64 0) ∧ Below w.heap.size w w1) := ⟨HZ.out.1.below hb1 HZ.out.1.lt, HZ.out.2.trans (hb1.mono HZ.out.2.size)⟩
  clear hb1 HZ HO q0 q1 a0 a1 a2 a3
  go_wp2_with (refine wpList_store_row rfl 90 (.tmp 6) (.tmp 12) rfl (w.heap.size + 3) #[.int .i64 F1, .bool R0, .int .i64 F2, .string F3, .int .i64 F4] rfl rfl _ _ HZ1.out.1 (by kernel_rfl) rfl (one5 _ _ _ _ _) ?_)
  have hP := (HZ1.out.1.row (.int .i64 F1) (.bool R0) (.int .i64 F2) (.string F3) (.int .i64 F4)).cells
  refine bodyPost_ret (results_res rfl _ _ rfl hP.1 hP.2.1 hP.2.2.1 hP.2.2.2.1 hP.2.2.2.2.1) rfl ?_
  exact ⟨rfl, bel_row HZ1.out.2 (by omega) _⟩
end Go.Proofs.YteofommckgeemaaGreatDoor
