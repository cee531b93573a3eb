/-
  RoundDigits of the program at any arguments, walked.
-/
import Derived.Test.YtjgnhlldehgieaqDoorRdk
import Derived.Test.YtjgnhlldehgieaqDoorRnd2
import Derived.Shelf.Abstract
namespace Go.Proofs.YtjgnhlldehgieaqDoor
open Go.RowKit Go.Shelf
set_option linter.unusedVariables false
set_option maxRecDepth 100000
/-- A mode that is one: its function, and what that tells. -/
theorem rounding_yes (mode : Int) (hm : 1 ≤ mode ∧ mode ≤ 5) : ∃ F : Nat, (∀ args w, (callFunc F args).run Tryd.prog w = .ok (.enter F args) w)
    ∧ (∀ neg od p, (p = 0 ∨ p = 1 ∨ p = 2 ∨ p = 3) → ∀ X, Calls Tryd.prog F #[cutV neg od p] X fun e w' => e = .returned (.bool (grw mode neg od p)) ∧ Below X.heap.size X w')
    ∧ ∀ X, Calls Tryd.prog 10 #[.int .i64 mode] X fun e w' => e = .returned (.tuple #[.agg #[fnV F], .bool true]) ∧ Below X.heap.size X w' := by
  have hc : mode = 1 ∨ mode = 2 ∨ mode = 3 ∨ mode = 4 ∨ mode = 5 := by omega
  rcases hc with rfl | rfl | rfl | rfl | rfl
  · exact ⟨_, enters_of Tryd.func16 (by kernel_rfl) rfl, fun neg od p hp X => grow1 neg od p hp X, roundingOf_1⟩
  · exact ⟨_, enters_of Tryd.func17 (by kernel_rfl) rfl, fun neg od p hp X => grow2 neg od p hp X, roundingOf_2⟩
  · exact ⟨_, enters_of Tryd.func18 (by kernel_rfl) rfl, fun neg od p hp X => grow3 neg od p hp X, roundingOf_3⟩
  · exact ⟨_, enters_of Tryd.func19 (by kernel_rfl) rfl, fun neg od p hp X => grow4 neg od p hp X, roundingOf_4⟩
  · exact ⟨_, enters_of Tryd.func20 (by kernel_rfl) rfl, fun neg od p hp X => grow5 neg od p hp X, roundingOf_5⟩
set_option maxRecDepth 100000 in
set_option maxHeartbeats 1000000 in
theorem iRoundDigits_all (mode : Int) (neg : Bool) (s : ByteArray) (drop : Int) (rest : Bool) (w : World) (hs : s.size ≤ 4611686018427387904) :
    Calls Tryd.prog 5 #[.int .i64 mode, .bool neg, .string s, .int .i64 drop, .bool rest] w fun e w' => e = .returned (.tuple #[.string (rdS mode neg s drop rest), .bool (rdL mode s drop rest)]) ∧ Below w.heap.size w w' := by
  by_cases hm : 1 ≤ mode ∧ mode ≤ 5
  · obtain ⟨F, hent, HG0, HR0⟩ := rounding_yes mode hm
    have HG : Hid (∀ neg od p, (p = 0 ∨ p = 1 ∨ p = 2 ∨ p = 3) → ∀ X, Calls Tryd.prog F #[cutV neg od p] X fun e w' => e = .returned (.bool (grw mode neg od p)) ∧ Below X.heap.size X w') := HG0
    have HR : Hid (∀ X, Calls Tryd.prog 10 #[.int .i64 mode] X fun e w' => e = .returned (.tuple #[.agg #[fnV F], .bool true]) ∧ Below X.heap.size X w') := HR0
    clear HG0 HR0
    cases hn : natB 200 s with
    | false =>
      have HE : Hid (rdS mode neg s drop rest = { data := #[] } ∧ rdL mode s drop rest = false) := by
        show _ ∧ _
        unfold rdS rdL rdO; rw [hn]; simp
      have HN : Hid (natB 200 s = false) := hn
      rw [HE.out.1, HE.out.2]
      clear hn hm HE hent HG
      go_enter Tryd.func5, Tryd.ntmps5
      go_wp2_with fail
      refine (HR.out _).mono ?_
      rintro e w1 ⟨rfl, hb1⟩
      go_wp2_with fail
      refine (iNatOk_any s _ hs).mono ?_
      rintro e w2 ⟨rfl, rfl⟩
      rw [HN.out]
      go_wp2
      go_ret2
      exact ⟨rfl, hb1.alloc hb1.size _⟩
    | true =>
      have HN : Hid (natB 200 s = true) := hn
      by_cases hd : 0 ≤ drop ∧ drop ≤ 200
      · have HE : Hid (rdS mode neg s drop rest = tx (nt (rndV mode neg (nv s) drop.toNat rest)) ∧ rdL mode s drop rest = rndL (nv s) drop.toNat rest) := by
          have : rdO mode s drop = true := by unfold rdO; rw [hn, decide_eq_true hm, decide_eq_true hd]; rfl
          show _ ∧ _
          unfold rdS rdL; rw [this, if_pos rfl, if_pos rfl]; exact ⟨rfl, rfl⟩
        rw [HE.out.1, HE.out.2]
        obtain ⟨m, rfl⟩ := Int.eq_ofNat_of_zero_le hd.1
        obtain ⟨hc, hl, he⟩ := natB_dl 200 s hn
        have HX : Hid (∀ X, Calls Tryd.prog 12 #[.agg #[fnV F], .bool neg, .string s, .int .i64 (m : Int), .bool rest] X fun e w' => e = .returned (.tuple #[.string (tx (nt (rndV mode neg (nv s) (m : Int).toNat rest))), .bool (rndL (nv s) (m : Int).toNat rest)]) ∧ Below X.heap.size X w') := fun X => by
          have := roundOff_any F mode hent HG neg (dl s) m rest X hc (by omega) (by omega)
          rw [← he] at this
          exact this
        have d1 : ¬ (m : Int) < 0 := by omega
        have d2 : ¬ 200 < (m : Int) := by omega
        clear hc hl he hn hm HE hd hent HG
        generalize tx (nt (rndV mode neg (nv s) (m : Int).toNat rest)) = R at *
        generalize rndL (nv s) (m : Int).toNat rest = L at *
        go_enter Tryd.func5, Tryd.ntmps5
        go_wp2_with fail
        refine (HR.out _).mono ?_
        rintro e w1 ⟨rfl, hb1⟩
        go_wp2_with fail
        refine (iNatOk_any s _ hs).mono ?_
        rintro e w2 ⟨rfl, hw2⟩
        rw [HN.out]
        have hb2 : Below w.heap.size w w2 := by rw [hw2]; exact hb1.alloc hb1.size _
        have q0 := new_cell1 w1 (fnV F) 30
        rw [← hw2] at q0
        clear hw2 hb1
        go_wp2_with fail
        refine (HX.out _).mono ?_
        rintro e w3 ⟨rfl, hb3⟩
        go_wp2
        go_ret2
        exact ⟨rfl, hb2.trans (hb3.mono hb2.size)⟩
      · have HE : Hid (rdS mode neg s drop rest = { data := #[] } ∧ rdL mode s drop rest = false) := by
          have : rdO mode s drop = false := by unfold rdO; rw [decide_eq_false hd]; simp
          show _ ∧ _
          unfold rdS rdL; rw [this]; exact ⟨rfl, rfl⟩
        rw [HE.out.1, HE.out.2]
        clear hn hm HE hent HG
        by_cases d1 : drop < 0
        · clear hd
          go_enter Tryd.func5, Tryd.ntmps5
          go_wp2_with fail
          refine (HR.out _).mono ?_
          rintro e w1 ⟨rfl, hb1⟩
          go_wp2_with fail
          refine (iNatOk_any s _ hs).mono ?_
          rintro e w2 ⟨rfl, rfl⟩
          rw [HN.out]
          go_wp2
          go_ret2
          exact ⟨rfl, hb1.alloc hb1.size _⟩
        · have d2 : 200 < drop := by omega
          clear hd
          go_enter Tryd.func5, Tryd.ntmps5
          go_wp2_with fail
          refine (HR.out _).mono ?_
          rintro e w1 ⟨rfl, hb1⟩
          go_wp2_with fail
          refine (iNatOk_any s _ hs).mono ?_
          rintro e w2 ⟨rfl, rfl⟩
          rw [HN.out]
          go_wp2
          go_ret2
          exact ⟨rfl, hb1.alloc hb1.size _⟩
  · have HE : Hid (rdS mode neg s drop rest = { data := #[] } ∧ rdL mode s drop rest = false) := by
      have : rdO mode s drop = false := by unfold rdO; rw [decide_eq_false hm]; rfl
      show _ ∧ _
      unfold rdS rdL; rw [this]; exact ⟨rfl, rfl⟩
    rw [HE.out.1, HE.out.2]
    have HR : Hid (∀ X, Calls Tryd.prog 10 #[.int .i64 mode] X fun e w' => e = .returned (.tuple #[.agg #[.nilFunc], .bool false]) ∧ Below X.heap.size X w') := fun X => roundingOf_no mode hm X
    clear hm HE
    go_enter Tryd.func5, Tryd.ntmps5
    go_wp2_with fail
    refine (HR.out _).mono ?_
    rintro e w1 ⟨rfl, hb1⟩
    go_wp2
    go_ret2
    exact ⟨rfl, hb1.alloc hb1.size _⟩
end Go.Proofs.YtjgnhlldehgieaqDoor
