/-
  RoundDigits of the model at any arguments, walked.
-/
import Derived.Test.YtjgnhlldehgieaeDoorRnd
import Derived.Test.YtjgnhlldehgieaeDoorIn
namespace Go.Proofs.YtjgnhlldehgieaeDoor
open Go.RowKit
set_option linter.unusedVariables false
set_option maxRecDepth 100000
theorem l12Mode_any (m : Int) (w : World) : Calls Tryd.prog 17 #[.int .i64 m] w fun e w' => e = .returned (.bool (decide (1 ≤ m ∧ m ≤ 5))) ∧ w' = w := by
  by_cases h : 1 ≤ m ∧ m ≤ 5
  · rw [decide_eq_true h]
    go_enter Tryd.func17, Tryd.ntmps17
    go_wp2_with fail
    refine (l1In_yes m 1 5 _ h.1 h.2).mono ?_
    rintro e w' ⟨rfl, rfl⟩
    go_wp2
    go_ret
    exact ⟨rfl, rfl⟩
  · rw [decide_eq_false h]
    go_enter Tryd.func17, Tryd.ntmps17
    go_wp2_with fail
    refine (l1In_no m 1 5 _ (by omega)).mono ?_
    rintro e w' ⟨rfl, rfl⟩
    go_wp2
    go_ret
    exact ⟨rfl, rfl⟩
theorem nOk_any (s : ByteArray) (w : World) (hs : s.size ≤ 4611686018427387904) :
    Calls Tryd.prog 18 #[.string s] w fun e w' => e = .returned (.bool (natB 200 s)) ∧ w' = w := by
  go_enter Tryd.func18, Tryd.ntmps18
  go_wp2_with fail
  refine (l10Nat_all s 200 _ hs).mono ?_
  rintro e w' ⟨rfl, rfl⟩
  go_wp2
  go_ret
  exact ⟨rfl, rfl⟩
/-- Arguments that RoundDigits takes. -/
def rdO (mode : Int) (s : ByteArray) (drop : Int) : Bool := decide (1 ≤ mode ∧ mode ≤ 5) && (natB 200 s && decide (0 ≤ drop ∧ drop ≤ 200))
def rdS (mode : Int) (neg : Bool) (s : ByteArray) (drop : Int) (rest : Bool) : ByteArray := if rdO mode s drop then tx (nt (rndV mode neg (nv s) drop.toNat rest)) else { data := #[] }
def rdL (mode : Int) (s : ByteArray) (drop : Int) (rest : Bool) : Bool := if rdO mode s drop then rndL (nv s) drop.toNat rest else false
set_option maxRecDepth 100000 in
theorem sRoundDigits_all (mode : Int) (neg : Bool) (s : ByteArray) (drop : Int) (rest : Bool) (w : World) (hs : s.size ≤ 4611686018427387904) :
    Calls Tryd.prog 7 #[.int .i64 mode, .bool neg, .string s, .int .i64 drop, .bool rest] w fun e w' => e = .returned (.tuple #[.string (rdS mode neg s drop rest), .bool (rdL mode s drop rest)]) ∧ Below w.heap.size w w' := by
  cases hO : rdO mode s drop with
  | false =>
    have HE : Hid (rdS mode neg s drop rest = { data := #[] } ∧ rdL mode s drop rest = false) := by
      show _ ∧ _
      unfold rdS rdL; rw [hO]; exact ⟨rfl, rfl⟩
    rw [HE.out.1, HE.out.2]
    cases hm : decide (1 ≤ mode ∧ mode ≤ 5) with
    | false =>
      have HM : Hid (decide (1 ≤ mode ∧ mode ≤ 5) = false) := hm
      clear hO hm
      go_enter Tryd.func7, Tryd.ntmps7
      go_wp2_with fail
      refine (l12Mode_any mode _).mono ?_
      rintro e w' ⟨rfl, rfl⟩
      rw [HM.out]
      go_wp2
      go_ret2
      exact ⟨rfl, Below.refl _ _⟩
    | true =>
      cases hn : natB 200 s with
      | false =>
        have HM : Hid (decide (1 ≤ mode ∧ mode ≤ 5) = true ∧ natB 200 s = false) := ⟨hm, hn⟩
        clear hO hm hn
        go_enter Tryd.func7, Tryd.ntmps7
        go_wp2_with fail
        refine (l12Mode_any mode _).mono ?_
        rintro e w' ⟨rfl, rfl⟩
        rw [HM.out.1]
        go_wp2_with fail
        refine (nOk_any s _ hs).mono ?_
        rintro e w' ⟨rfl, rfl⟩
        rw [HM.out.2]
        go_wp2
        go_ret2
        exact ⟨rfl, Below.refl _ _⟩
      | true =>
        have HM : Hid (decide (1 ≤ mode ∧ mode ≤ 5) = true ∧ natB 200 s = true) := ⟨hm, hn⟩
        have hd : drop < 0 ∨ 200 < drop := by
          unfold rdO at hO
          rw [hm, hn] at hO
          have := of_decide_eq_false (by simpa using hO : decide (0 ≤ drop ∧ drop ≤ 200) = false)
          omega
        clear hO hm hn
        go_enter Tryd.func7, Tryd.ntmps7
        go_wp2_with fail
        refine (l12Mode_any mode _).mono ?_
        rintro e w' ⟨rfl, rfl⟩
        rw [HM.out.1]
        go_wp2_with fail
        refine (nOk_any s _ hs).mono ?_
        rintro e w' ⟨rfl, rfl⟩
        rw [HM.out.2]
        go_wp2_with fail
        refine (l1In_no drop 0 200 _ hd).mono ?_
        rintro e w' ⟨rfl, hw⟩
        obtain rfl := hw
        go_wp2
        go_ret2
        exact ⟨rfl, Below.refl _ _⟩
  | true =>
    have HE : Hid (rdS mode neg s drop rest = tx (nt (rndV mode neg (nv s) drop.toNat rest)) ∧ rdL mode s drop rest = rndL (nv s) drop.toNat rest) := by
      show _ ∧ _
      unfold rdS rdL; rw [hO, if_pos rfl, if_pos rfl]; exact ⟨rfl, rfl⟩
    rw [HE.out.1, HE.out.2]
    unfold rdO at hO
    simp only [Bool.and_eq_true, decide_eq_true_eq] at hO
    obtain ⟨hm, hn, hd⟩ := hO
    obtain ⟨m, rfl⟩ := Int.eq_ofNat_of_zero_le hd.1
    obtain ⟨hc, hl, he⟩ := natB_dl 200 s hn
    have HM : Hid (decide (1 ≤ mode ∧ mode ≤ 5) = true ∧ natB 200 s = true) := ⟨decide_eq_true hm, hn⟩
    have HX : Hid (∀ X, Calls Tryd.prog 20 #[.int .i64 mode, .bool neg, .string s, .int .i64 (m : Int), .bool rest] X fun e w' => e = .returned (.tuple #[.string (tx (nt (rndV mode neg (nv s) (m : Int).toNat rest))), .bool (rndL (nv s) (m : Int).toNat rest)]) ∧ Below X.heap.size X w') := fun X => by
      have := l12Round_any mode neg (dl s) m rest X hc (by omega) (by omega)
      rw [← he] at this
      exact this
    clear hc hl he hn hm
    go_enter Tryd.func7, Tryd.ntmps7
    go_wp2_with fail
    refine (l12Mode_any mode _).mono ?_
    rintro e w' ⟨rfl, rfl⟩
    rw [HM.out.1]
    go_wp2_with fail
    refine (nOk_any s _ hs).mono ?_
    rintro e w' ⟨rfl, rfl⟩
    rw [HM.out.2]
    go_wp2_with fail
    refine (l1In_yes _ 0 200 _ hd.1 hd.2).mono ?_
    rintro e w' ⟨rfl, hw⟩
    obtain rfl := hw
    go_wp2_with fail
    refine (HX.out _).mono ?_
    rintro e w1 ⟨rfl, hb⟩
    go_wp2
    go_ret2
    exact ⟨rfl, hb⟩
end Go.Proofs.YtjgnhlldehgieaeDoor
