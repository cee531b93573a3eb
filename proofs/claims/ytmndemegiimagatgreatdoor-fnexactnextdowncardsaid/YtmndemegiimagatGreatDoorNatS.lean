/-
  The model's arithmetic on naturals at any strings, by the numbers that they stand for, walked.
-/
import Derived.Test.YtmndemegiimagatGreatDoorTxtP
import Derived.OpenShut
import Derived.Test.YtmndemegiimagatGreatDoorNtM
namespace Go.Proofs.YtmndemegiimagatGreatDoor
open Go.RowKit
set_option linter.unusedVariables false
set_option maxRecDepth 100000
theorem byte_at (ds : List Int) (h : Dec ds) (k : Nat) (hk : k < (tx ds).size) : ∃ z : Int, (((tx ds)[k]'hk).toNat : Int) = z ∧ z = 48 + ds.getD k 0 ∧ 48 ≤ z ∧ z ≤ 57 := by
  have a := tx_at ds h k hk
  have b := dec_at ds h k
  exact ⟨_, rfl, a, by omega, by omega⟩
set_option maxHeartbeats 400000 in
theorem l11Sub_any (a b : List Int) (w : World) (ha : Canon a) (hb : Canon b) (la : a.length ≤ 1000) (h : vl b ≤ vl a) :
    Calls Tryz.prog 18 #[.string (tx a), .string (tx b)] w fun e w' => ∃ R, e = .returned (.string (tx R)) ∧ Canon R ∧ vl R = vl a - vl b ∧ R.length ≤ a.length ∧ Below w.heap.size w w' := by
  obtain ⟨i0, hi, hz0, hz1, hz2⟩ := info_parts info64
  have lb : b.length ≤ a.length := by
    rcases Nat.lt_or_ge a.length b.length with c | c
    · have := vl_short a b ha hb c; omega
    · exact c
  have sa := tx_size a
  have la' : (tx a).size ≤ 1000 := by omega
  have Hsa : Hid ((tx a).size = a.length) := sa
  have Hlb : Hid (b.length ≤ 1000) := by rw [Hid]; omega
  have Ha : Hid (Dec a) := ha.1
  have Hb : Hid (Dec b) := hb.1
  have Hp : Hid (0 < a.length) := ha.2.1
  have HE : Hid (lv (ups (sdg a b) a.length) = vl a - vl b ∧ Dec (ups (sdg a b) a.length)) := sub_all a b ha.1 hb.1 h lb
  clear ha hb sa h lb la
  go_enter Tryz.func18, Tryz.ntmps18
  go_wp2
  go_loopw [5, 6, 7] (fun d c i wr => ∃ j : Nat, j ≤ (tx a).size ∧ i = .int .i64 j ∧ c = .int .i64 (sbw a b j) ∧ Hid (Has wr w.heap.size d (ups (sdg a b) j)) ∧ Below w.heap.size w wr) (fun _ _ i _ => (tx a).size - (intOf i).toNat)
  case atStart => exact ⟨0, Nat.zero_le _, rfl, rfl, none_own w, (Below.refl _ _).alloc (Nat.le_refl _) _⟩
  case round =>
    obtain ⟨j, hj, rfl, rfl, hh, hbel⟩ := hrel
    have hsz := hbel.size
    by_cases hlt : j < (tx a).size
    · have ba := lo_bd a Ha.out j
      have bb := lo_bd b Hb.out j
      have bs := sbw_bd a b j
      have Ca : Hid (∀ W, Calls Tryz.prog 32 #[.string (tx a), .int .i64 j] W fun e w' => e = .returned (.int .i64 (lo a j)) ∧ w' = W) := fun W => l11At_any a j W Ha.out (by have := Hsa.out; omega) (by omega)
      have Cb : Hid (∀ W, Calls Tryz.prog 32 #[.string (tx b), .int .i64 j] W fun e w' => e = .returned (.int .i64 (lo b j)) ∧ w' = W) := fun W => l11At_any b j W Hb.out Hlb.out (by omega)
      have hlt' : (j : Int) < ((tx a).size : Int) := by omega
      have hown0 := hh.out
      unfold Has at hown0
      rw [ups_length] at hown0
      by_cases hneg : lo a j - lo b j - sbw a b j < 0
      · have es : sbw a b (j + 1) = 1 := by
          show (if lo a j - lo b j - sbw a b j < 0 then (1 : Int) else 0) = 1
          rw [if_pos hneg]
        have Es : Hid (sbw a b (j + 1) = 1) := es
        have Eu : Hid (ups (sdg a b) (j + 1) = ups (sdg a b) j ++ [lo a j - lo b j - sbw a b j + 10]) := by
          show ups (sdg a b) j ++ [lo a j - lo b j - sbw a b j + 10 * sbw a b (j + 1)] = _
          rw [es]; rfl
        clear es
        generalize lo a j = x at *
        generalize lo b j = y at *
        generalize sbw a b j = s at *
        go_wp2_with fail
        refine (Ca.out _).mono ?_
        rintro e w' ⟨rfl, hw⟩
        obtain rfl := hw.symm
        go_wp2_with fail
        refine (Cb.out _).mono ?_
        rintro e w' ⟨rfl, hw⟩
        obtain rfl := hw.symm
        go_wp2_with (first | (at_builtin; refine wpList_append_own _ rfl _ _ 55 rfl w.heap.size 2 i0 (.int .i64 0) 1 8 Tryz.underlying55 hi hz0 hz1 hz2 rfl (by decide) _ _ _ rfl (hown0.alloc _) ⟨wr.heap.size, 0, none⟩ 1 1 [.int .i64 (x - y - s + 10)] rfl rfl (one_new _ _ _) (one_cell _ _) (by unfold maxLen; omega) (by omega) (by simp; omega) ?_) | go_in)
        intro v' w3 hown3 hgrow _
        have hb3 : Below w.heap.size w w3 := Below.grown (hbel.alloc (by omega) _) hgrow (by simp; omega) (fun k hk => (hown0.lt k hk).1)
        have H3 : Hid (Has w3 w.heap.size v' (ups (sdg a b) (j + 1))) := by
          rw [Hid]
          unfold Has
          rw [ups_length, Eu.out]
          simpa using hown3
        clear hown3 hgrow hown0 hh
        go_wp2
        go_roundw
        case rel => exact ⟨j + 1, by omega, by go_num, Ln.val_int Es.out.symm, H3, hb3⟩
        case measure => simp [intOf]; omega
      · have es : sbw a b (j + 1) = 0 := by
          show (if lo a j - lo b j - sbw a b j < 0 then (1 : Int) else 0) = 0
          rw [if_neg hneg]
        have Es : Hid (sbw a b (j + 1) = 0) := es
        have Eu : Hid (ups (sdg a b) (j + 1) = ups (sdg a b) j ++ [lo a j - lo b j - sbw a b j]) := by
          show ups (sdg a b) j ++ [lo a j - lo b j - sbw a b j + 10 * sbw a b (j + 1)] = _
          rw [es, Int.mul_zero, Int.add_zero]
        clear es
        generalize lo a j = x at *
        generalize lo b j = y at *
        generalize sbw a b j = s at *
        go_wp2_with fail
        refine (Ca.out _).mono ?_
        rintro e w' ⟨rfl, hw⟩
        obtain rfl := hw.symm
        go_wp2_with fail
        refine (Cb.out _).mono ?_
        rintro e w' ⟨rfl, hw⟩
        obtain rfl := hw.symm
        go_wp2_with (first | (at_builtin; refine wpList_append_own _ rfl _ _ 55 rfl w.heap.size 2 i0 (.int .i64 0) 1 8 Tryz.underlying55 hi hz0 hz1 hz2 rfl (by decide) _ _ _ rfl (hown0.alloc _) ⟨wr.heap.size, 0, none⟩ 1 1 [.int .i64 (x - y - s)] rfl rfl (one_new _ _ _) (one_cell _ _) (by unfold maxLen; omega) (by omega) (by simp; omega) ?_) | go_in)
        intro v' w3 hown3 hgrow _
        have hb3 : Below w.heap.size w w3 := Below.grown (hbel.alloc (by omega) _) hgrow (by simp; omega) (fun k hk => (hown0.lt k hk).1)
        have H3 : Hid (Has w3 w.heap.size v' (ups (sdg a b) (j + 1))) := by
          rw [Hid]
          unfold Has
          rw [ups_length, Eu.out]
          simpa using hown3
        clear hown3 hgrow hown0 hh
        go_wp2
        go_roundw
        case rel => exact ⟨j + 1, by omega, by go_num, Ln.val_int Es.out.symm, H3, hb3⟩
        case measure => simp [intOf]; omega
    · have hd : decide ((j : Int) < ((tx a).size : Int)) = false := by simp; omega
      have ej : j = a.length := by have := Hsa.out; omega
      rw [ej] at hh
      have Hl : Hid ((ups (sdg a b) a.length).length = a.length) := ups_length _ _
      generalize ups (sdg a b) a.length = D at *
      go_wp2_with fail
      refine (l11Text_any _ D _ _ hh.out HE.out.2 (by rw [Hl.out]; exact Hp.out) (by rw [Hl.out]; have := Hsa.out; omega)).mono ?_
      rintro e w1 ⟨rfl, hb1⟩
      go_wp2
      go_ret
      exact ⟨_, rfl, strip_canon _ (dec_rev D HE.out.2) (by rw [List.length_reverse, Hl.out]; exact Hp.out), by rw [strip_vl, vl_rev, HE.out.1], Nat.le_trans (strip_len _) (by rw [List.length_reverse, Hl.out]; exact Nat.le_refl _), hbel.trans (hb1.mono hsz)⟩
end Go.Proofs.YtmndemegiimagatGreatDoor
namespace Go.Proofs.YtmndemegiimagatGreatDoor
open Go.RowKit
set_option linter.unusedVariables false
set_option maxRecDepth 100000
end Go.Proofs.YtmndemegiimagatGreatDoor
namespace Go.Proofs.YtmndemegiimagatGreatDoor
open Go.RowKit
set_option linter.unusedVariables false
set_option maxRecDepth 100000
end Go.Proofs.YtmndemegiimagatGreatDoor
namespace Go.Proofs.YtmndemegiimagatGreatDoor
open Go.RowKit
set_option linter.unusedVariables false
set_option maxRecDepth 100000
theorem canon_le (R : List Int) (h : Canon R) (k : Nat) (hp : 0 < k) (hk : vl R < 10 ^ k) : R.length ≤ k := by
  rcases Nat.lt_or_ge k R.length with c | c
  · have l := canon_low R h (by omega)
    have m := pow_mono k (R.length - 1) (by omega)
    omega
  · exact c
theorem conv_none (W : World) : ∀ dst, Tryz.prog.underlying dst = some .string → (convert 71 dst (.slice (some ⟨W.heap.size, 0, none⟩) 0 0)).run Tryz.prog (W.alloc (.cells #[] 5)) = .ok (.string (tx [])) (W.alloc (.cells #[] 5)) :=
  run_convert_bytes_arg (P := Tryz.prog) _ 71 5 Tryz.underlying71 Tryz.underlying5 W.heap.size 0 0 0 [] rfl (fun i hi => by simp at hi)
end Go.Proofs.YtmndemegiimagatGreatDoor
namespace Go.Proofs.YtmndemegiimagatGreatDoor
open Go.RowKit
set_option linter.unusedVariables false
set_option maxRecDepth 100000
def ok2 (s t : ByteArray) : Bool := natB 200 s && natB 200 t
theorem ok2_yes {s t : ByteArray} (h : ok2 s t = true) : natB 200 s = true ∧ natB 200 t = true := by
  unfold ok2 at h
  rw [Bool.and_eq_true] at h
  exact h
theorem ok2_no {s t : ByteArray} (h : ok2 s t = false) : natB 200 s = false ∨ (natB 200 s = true ∧ natB 200 t = false) := by
  unfold ok2 at h
  cases a : natB 200 s with
  | false => exact .inl rfl
  | true => rw [a] at h; exact .inr ⟨rfl, by simpa using h⟩
def cmpS (s t : ByteArray) : Int := if ok2 s t then cmpI (nv s) (nv t) else 2
def addS (s t : ByteArray) : ByteArray := if ok2 s t then fitS (nt (nv s + nv t)) else { data := #[] }
def subS (s t : ByteArray) : ByteArray := if ok2 s t then (if nv s < nv t then { data := #[] } else tx (nt (nv s - nv t))) else { data := #[] }
def mulS (s t : ByteArray) : ByteArray := if ok2 s t then fitS (nt (nv s * nv t)) else { data := #[] }
end Go.Proofs.YtmndemegiimagatGreatDoor
