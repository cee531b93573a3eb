/-
  The model's arithmetic on naturals at any strings, by the numbers that they stand for, walked.
-/
import Derived.Test.YtmndemegiimagasGreatDoorTxtP
import Derived.OpenShut
import Derived.Test.YtmndemegiimagasGreatDoorNtM
namespace Go.Proofs.YtmndemegiimagasGreatDoor
open Go.RowKit
set_option linter.unusedVariables false
set_option maxRecDepth 100000
theorem byte_at (ds : List Int) (h : Dec ds) (k : Nat) (hk : k < (tx ds).size) : ∃ z : Int, (((tx ds)[k]'hk).toNat : Int) = z ∧ z = 48 + ds.getD k 0 ∧ 48 ≤ z ∧ z ≤ 57 := by
  have a := tx_at ds h k hk
  have b := dec_at ds h k
  exact ⟨_, rfl, a, by omega, by omega⟩
set_option maxHeartbeats 400000 in
theorem l11Cmp_any (a b : List Int) (w : World) (ha : Canon a) (hb : Canon b) (la : a.length ≤ 1000) (lb : b.length ≤ 1000) :
    Calls Tryz.prog 53 #[.string (tx a), .string (tx b)] w fun e w' => e = .returned (.int .i64 (cmpI (vl a) (vl b))) ∧ Below w.heap.size w w' := by
  have sa := tx_size a
  have sb := tx_size b
  rcases Nat.lt_trichotomy a.length b.length with h | h | h
  · have H : Hid (cmpI (vl a) (vl b) = -1) := cmpI_lt _ _ (vl_short a b ha hb h)
    have h1 : (((tx a).size : Int) == ((tx b).size : Int)) = false := by simp; omega
    have h2 : ((tx a).size : Int) < ((tx b).size : Int) := by omega
    clear sa sb ha hb
    go_enter Tryz.func53, Tryz.ntmps53
    go_wp2
    go_ret
    exact ⟨Ln.ret_int H.out.symm, Below.refl _ _⟩
  · have hz : (tx a).size = (tx b).size := by omega
    have hz' : Hid ((tx a).size = (tx b).size) := hz
    have ls : (tx a).size ≤ 1000 := by omega
    have h1 : (((tx a).size : Int) == ((tx b).size : Int)) = true := by simp; omega
    have Hsa : Hid ((tx a).size = a.length) := sa
    have H : Hid (Canon a ∧ Canon b ∧ a.length = b.length) := ⟨ha, hb, h⟩
    clear sa sb ha hb hz h la lb
    go_enter Tryz.func53, Tryz.ntmps53
    go_wp2
    go_loopw [5] (fun i wr => ∃ k : Nat, k ≤ (tx a).size ∧ i = .int .i64 k ∧ Hid (∀ j, j < k → a.getD j 0 = b.getD j 0) ∧ Below w.heap.size w wr) (fun i _ => (tx a).size - (intOf i).toNat)
    case atStart => exact ⟨0, Nat.zero_le _, rfl, fun j hj => absurd hj (Nat.not_lt_zero j), Below.refl _ _⟩
    case round =>
      obtain ⟨k, hk, rfl, hp, hbel⟩ := hrel
      by_cases hlt : k < (tx a).size
      · have hltb : k < (tx b).size := by rw [← hz'.out]; exact hlt
        have ta := tx_at a H.out.1.1 k hlt
        have tb := tx_at b H.out.2.1.1 k hltb
        have da := dec_at a H.out.1.1 k
        have db := dec_at b H.out.2.1.1 k
        have hlt' : (k : Int) < ((tx a).size : Int) := by omega
        have hkl : k < a.length := by rw [← Hsa.out]; exact hlt
        rcases Int.lt_trichotomy (a.getD k 0) (b.getD k 0) with hx | hx | hx
        · have E : Hid (cmpI (vl a) (vl b) = -1) := cmpI_lt _ _ (vl_less a b H.out.1.1 H.out.2.1.1 H.out.2.2 k hkl hp.out hx)
          have hne : ((((tx a)[k]'hlt).toNat : Int) == (((tx b)[k]'hltb).toNat : Int)) = false := by simp only [beq_eq_false_iff_ne]; omega
          have hl2 : (((tx a)[k]'hlt).toNat : Int) < (((tx b)[k]'hltb).toNat : Int) := by omega
          clear ta tb da db hkl
          go_wp2
          go_quiet (fail)
          go_wp2
          go_quiet (fail)
          go_wp2
          go_ret
          exact ⟨Ln.ret_int E.out.symm, by first | exact hbel | exact below_drewN hbel _ | exact below_drewN (below_drewN hbel _) _⟩
        · have hne : ((((tx a)[k]'hlt).toNat : Int) == (((tx b)[k]'hltb).toNat : Int)) = true := by simp only [beq_iff_eq]; omega
          have hp1 : Hid (∀ j, j < k + 1 → a.getD j 0 = b.getD j 0) := fun j hj => by
            rcases Nat.lt_or_ge j k with h | h
            · exact hp.out j h
            · rw [show j = k by omega]; exact hx
          clear ta tb da db hkl hx
          go_wp2
          go_quiet (fail)
          go_wp2
          go_roundw
          case rel => exact ⟨k + 1, by omega, by go_num, hp1, by first | exact hbel | exact below_drewN hbel _⟩
          case measure => simp [intOf]; omega
        · have E : Hid (cmpI (vl a) (vl b) = 1) := cmpI_gt _ _ (vl_less b a H.out.2.1.1 H.out.1.1 H.out.2.2.symm k (by rw [← H.out.2.2]; exact hkl) (fun j hj => (hp.out j hj).symm) hx)
          have hne : ((((tx a)[k]'hlt).toNat : Int) == (((tx b)[k]'hltb).toNat : Int)) = false := by simp only [beq_eq_false_iff_ne]; omega
          have hl2 : decide ((((tx a)[k]'hlt).toNat : Int) < (((tx b)[k]'hltb).toNat : Int)) = false := by simp; omega
          have hl3 : ¬ (((tx a)[k]'hlt).toNat : Int) < (((tx b)[k]'hltb).toNat : Int) := by omega
          have hl4 : ¬ ((tx a)[k]'hlt).toNat < ((tx b)[k]'hltb).toNat := by omega
          have hl5 : ((tx b)[k]'hltb).toNat ≤ ((tx a)[k]'hlt).toNat := by omega
          clear ta tb da db hkl
          go_wp2
          go_quiet (fail)
          go_wp2
          go_quiet (fail)
          go_wp2
          go_ret
          exact ⟨Ln.ret_int E.out.symm, by first | exact hbel | exact below_drewN hbel _ | exact below_drewN (below_drewN hbel _) _⟩
      · have hd : decide ((k : Int) < ((tx a).size : Int)) = false := by simp; omega
        have E : Hid (cmpI (vl a) (vl b) = 0) := by
          rw [Hid, vl_even a b H.out.2.2 (fun j hj => hp.out j (by have := Hsa.out; omega))]; exact cmpI_eq _
        go_wp2
        go_ret
        exact ⟨Ln.ret_int E.out.symm, hbel⟩
  · have H : Hid (cmpI (vl a) (vl b) = 1) := cmpI_gt _ _ (vl_short b a hb ha h)
    have h1 : (((tx a).size : Int) == ((tx b).size : Int)) = false := by simp; omega
    have h2 : decide (((tx a).size : Int) < ((tx b).size : Int)) = false := by simp; omega
    have h3 : ¬ ((tx a).size : Int) < ((tx b).size : Int) := by omega
    have h4 : ¬ (tx a).size < (tx b).size := by omega
    have h5 : (tx b).size ≤ (tx a).size := by omega
    clear sa sb ha hb
    go_enter Tryz.func53, Tryz.ntmps53
    go_wp2
    go_ret
    exact ⟨Ln.ret_int H.out.symm, Below.refl _ _⟩
end Go.Proofs.YtmndemegiimagasGreatDoor
namespace Go.Proofs.YtmndemegiimagasGreatDoor
open Go.RowKit
set_option linter.unusedVariables false
set_option maxRecDepth 100000
end Go.Proofs.YtmndemegiimagasGreatDoor
namespace Go.Proofs.YtmndemegiimagasGreatDoor
open Go.RowKit
set_option linter.unusedVariables false
set_option maxRecDepth 100000
end Go.Proofs.YtmndemegiimagasGreatDoor
namespace Go.Proofs.YtmndemegiimagasGreatDoor
open Go.RowKit
set_option linter.unusedVariables false
set_option maxRecDepth 100000
theorem canon_le (R : List Int) (h : Canon R) (k : Nat) (hp : 0 < k) (hk : vl R < 10 ^ k) : R.length ≤ k := by
  rcases Nat.lt_or_ge k R.length with c | c
  · have l := canon_low R h (by omega)
    have m := pow_mono k (R.length - 1) (by omega)
    omega
  · exact c
theorem conv_none (W : World) : ∀ dst, Tryz.prog.underlying dst = some .string → (convert 80 dst (.slice (some ⟨W.heap.size, 0, none⟩) 0 0)).run Tryz.prog (W.alloc (.cells #[] 5)) = .ok (.string (tx [])) (W.alloc (.cells #[] 5)) :=
  run_convert_bytes_arg (P := Tryz.prog) _ 80 5 Tryz.underlying80 Tryz.underlying5 W.heap.size 0 0 0 [] rfl (fun i hi => by simp at hi)
theorem l11Zeros_none (w : World) :
    Calls Tryz.prog 40 #[.int .i64 0] w fun e w' => e = .returned (.string (tx [])) ∧ Below w.heap.size w w' := by
  have hcv := conv_none w 9 Tryz.underlying9
  generalize tx [] = T at *
  go_enter Tryz.func40, Tryz.ntmps40
  go_wp2
  go_loop [0, 3] (fun i b => i = .int .i64 0 ∧ b = .slice (some ⟨w.heap.size, 0, none⟩) 0 0) (fun _ _ => 0)
  case atStart => exact ⟨rfl, rfl⟩
  case round =>
    obtain ⟨rfl, rfl⟩ := hrel
    go_wp2
    go_ret
    exact ⟨rfl, (Below.refl _ _).alloc (Nat.le_refl _) _⟩
theorem l11Shift_none (a : List Int) (w : World) (ha : Canon a) (la : a.length ≤ 200) :
    Calls Tryz.prog 20 #[.string (tx a), .int .i64 0] w fun e w' => e = .returned (.string (tx a)) ∧ Below w.heap.size w w' := by
  have Ha : Hid (Canon a) := ha
  clear ha
  have s1 : ((tx a).size : Int) ≤ 8388608 := by rw [tx_size]; omega
  have s2 : ((tx []).size : Int) ≤ 8388608 := by rw [tx_size]; simp
  by_cases hz : a = [0]
  · have hb : ((tx a).toList == [48]) = true := by rw [hz, tx_zero]; rfl
    clear hz s1 s2
    go_enter Tryz.func20, Tryz.ntmps20
    go_wp2
    go_ret
    exact ⟨rfl, Below.refl _ _⟩
  · have hb := tx_is0 a Ha.out.1 hz
    have hap : tx a ++ tx [] = tx a := by rw [tx_append, List.append_nil]
    have Hzr : Hid (∀ w, Calls Tryz.prog 40 #[.int .i64 0] w fun e w' => e = .returned (.string (tx [])) ∧ Below w.heap.size w w') := l11Zeros_none
    clear hz
    generalize tx [] = T at *
    go_enter Tryz.func20, Tryz.ntmps20
    go_wp2_with fail
    refine (Hzr.out _).mono ?_
    rintro e w1 ⟨rfl, hb1⟩
    go_wp2
    go_ret
    exact ⟨rfl, hb1⟩
end Go.Proofs.YtmndemegiimagasGreatDoor
namespace Go.Proofs.YtmndemegiimagasGreatDoor
open Go.RowKit
set_option linter.unusedVariables false
set_option maxRecDepth 100000
def ok2 (s t : ByteArray) : Bool := natB 200 s && natB 200 t
theorem ok2_yes {s t : ByteArray} (h : ok2 s t = true) : natB 200 s = true ∧ natB 200 t = true := by
  unfold ok2 at h
  rw [Bool.and_eq_true] at h
  exact h
theorem ok2_no {s t : ByteArray} (h : ok2 s t = false) : natB 200 s = false ∨ (natB 200 s = true ∧ natB 200 t = false) := by
  unfold ok2 at h
  cases a : natB 200 s with
  | false => exact .inl rfl
  | true => rw [a] at h; exact .inr ⟨rfl, by simpa using h⟩
def cmpS (s t : ByteArray) : Int := if ok2 s t then cmpI (nv s) (nv t) else 2
def addS (s t : ByteArray) : ByteArray := if ok2 s t then fitS (nt (nv s + nv t)) else { data := #[] }
def subS (s t : ByteArray) : ByteArray := if ok2 s t then (if nv s < nv t then { data := #[] } else tx (nt (nv s - nv t))) else { data := #[] }
def mulS (s t : ByteArray) : ByteArray := if ok2 s t then fitS (nt (nv s * nv t)) else { data := #[] }
end Go.Proofs.YtmndemegiimagasGreatDoor
