/-
  Plain and Flight of the program, walked.
-/
import Derived.Test.YtlbkhiphnllfpabSgn4
import Derived.Test.YtlbkhiphnllfpabSgn5
import Derived.Test.YtlbkhiphnllfpabSgn6
namespace Go.Proofs.Ytlbkhiphnllfpab
open Go.RowKit
set_option linter.unusedVariables false
theorem iPlain_any (v : Value) (ds : List Int) (base : Nat) (w : World) (h : Has w base v ds) :
    Calls Try.prog 10 #[v] w fun e w' => ∃ u, e = .returned (.tuple #[u, .bool (pok ds)]) ∧ Has w' w.heap.size u (plo ds) ∧ Below w.heap.size w w' := by
  obtain ⟨a, ca, rfl, hm⟩ := h.len
  have H : Hid (Has w base (.slice a ds.length ca) ds) := h
  clear h
  by_cases h1 : ds.length < 1
  · have h1' : (ds.length : Int) < 1 := by omega
    have HK : Hid (pok ds = false) := pok_few ds h1
    have He : Hid (plo ds = []) := by show _ = _; unfold plo; rw [HK.out]; rfl
    go_enter Try.func10, Try.ntmps10
    go_wp2
    go_ret2
    exact ⟨_, ret_pair HK.out.symm, by rw [He.out]; exact none_own w, (Below.refl _ _).alloc (Nat.le_refl _) _⟩
  have h1' : ¬ (ds.length : Int) < 1 := by omega
  by_cases h2 : 41 < ds.length
  · have h2' : (41 : Int) < (ds.length : Int) := by omega
    have HK : Hid (pok ds = false) := pok_not ds (l3_big ds h2)
    have He : Hid (plo ds = []) := by show _ = _; unfold plo; rw [HK.out]; rfl
    go_enter Try.func10, Try.ntmps10
    go_wp2
    go_ret2
    exact ⟨_, ret_pair HK.out.symm, by rw [He.out]; exact none_own w, (Below.refl _ _).alloc (Nat.le_refl _) _⟩
  have h2' : ¬ (41 : Int) < (ds.length : Int) := by omega
  cases hr : rng (-9) 9 ds with
  | false =>
    have Hr : Hid (rng (-9) 9 ds = false) := hr
    have HK : Hid (pok ds = false) := pok_not ds (by rw [l3_rng ds (by omega)]; exact hr)
    have He : Hid (plo ds = []) := by show _ = _; unfold plo; rw [HK.out]; rfl
    clear hr
    go_enter Try.func10, Try.ntmps10
    go_wp2_with fail
    refine (allSigned_any _ ds base _ H.out).mono ?_
    rintro e w' ⟨rfl, hw⟩
    obtain rfl := hw.symm
    rw [Hr.out]
    go_wp2
    go_ret2
    exact ⟨_, ret_pair HK.out.symm, by rw [He.out]; exact none_own w, (Below.refl _ _).alloc (Nat.le_refl _) _⟩
  | true =>
    have Hr : Hid (rng (-9) 9 ds = true) := hr
    have Hp : Hid (pok ds = !ng ds) := pok_ng ds (by omega) (by rw [l3_rng ds (by omega)]; exact hr)
    have hg : ng ds = false → plo ds = (reg ds ds.length).1 := fun e => by
      unfold plo; rw [Hp.out, e, reg_ng ds hr e]; rfl
    have Hg : Hid (ng ds = false → plo ds = (reg ds ds.length).1) := hg
    clear hr hg
    cases hn : ng ds with
    | true =>
      have Hn : Hid (ng ds = true) := hn
      have HK : Hid (pok ds = false) := by have := Hp.out; rw [hn] at this; exact this
      have He : Hid (plo ds = []) := by show _ = _; unfold plo; rw [HK.out]; rfl
      clear hn
      go_enter Try.func10, Try.ntmps10
      go_wp2_with fail
      refine (allSigned_any _ ds base _ H.out).mono ?_
      rintro e w' ⟨rfl, hw⟩
      obtain rfl := hw.symm
      rw [Hr.out]
      go_wp2_with fail
      refine (belowNought_any _ ds base _ H.out Hr.out).mono ?_
      rintro e w' ⟨rfl, hw⟩
      obtain rfl := hw.symm
      rw [Hn.out]
      go_wp2
      go_ret2
      exact ⟨_, ret_pair HK.out.symm, by rw [He.out]; exact none_own w, (Below.refl _ _).alloc (Nat.le_refl _) _⟩
    | false =>
      have Hn : Hid (ng ds = false) := hn
      have HK : Hid (pok ds = true) := by have := Hp.out; rw [hn] at this; exact this
      clear hn
      go_enter Try.func10, Try.ntmps10
      go_wp2_with fail
      refine (allSigned_any _ ds base _ H.out).mono ?_
      rintro e w' ⟨rfl, hw⟩
      obtain rfl := hw.symm
      rw [Hr.out]
      go_wp2_with fail
      refine (belowNought_any _ ds base _ H.out Hr.out).mono ?_
      rintro e w' ⟨rfl, hw⟩
      obtain rfl := hw.symm
      rw [Hn.out]
      go_wp2_with fail
      refine (fly_any _ ds base _ H.out (by omega) Hr.out).mono ?_
      rintro e w1 ⟨q, m, rfl, hq, hm', -, hb⟩
      have Hq : Hid (Has w1 w.heap.size q (plo ds)) := by show Has _ _ _ _; rw [Hg.out Hn.out]; exact hq
      clear hq hm'
      go_wp2
      go_ret2
      exact ⟨_, ret_pair HK.out.symm, Hq.out, hb⟩
theorem two_apart (b c : Nat) (h : b ≠ c) (n m p q : Nat) : ∀ k, (Value.slice (some ⟨b, 0, none⟩) n p).ownBlock = some k → (Value.slice (some ⟨c, 0, none⟩) m q).ownBlock ≠ some k := fun k e1 e2 => by
  cases e1; cases e2; exact h rfl
theorem iFlight_any (v : Value) (ds : List Int) (base : Nat) (w : World) (h : Has w base v ds) :
    Calls Try.prog 11 #[v] w fun e w' => ∃ q m, e = .returned (.tuple #[q, m]) ∧ Has w' w.heap.size q (flo ds).1 ∧ Has w' w.heap.size m (flo ds).2 ∧ (∀ k, q.ownBlock = some k → m.ownBlock ≠ some k) ∧ Below w.heap.size w w' := by
  obtain ⟨a, ca, rfl, hm⟩ := h.len
  have H : Hid (Has w base (.slice a ds.length ca) ds) := h
  clear h
  have Hq : Hid (Has ((w.alloc (.cells #[] 2)).alloc (.cells #[] 2)) w.heap.size (.slice (some ⟨w.heap.size, 0, none⟩) 0 0) []) := World.ownsRow.alloc (none_own w) _
  have Hm : Hid (Has ((w.alloc (.cells #[] 2)).alloc (.cells #[] 2)) w.heap.size (.slice (some ⟨w.heap.size + 1, 0, none⟩) 0 0) []) := by
    have := (none_own (w.alloc (.cells #[] 2))).mono (base' := w.heap.size) (by simp)
    rw [World.size_alloc] at this
    exact this
  have Hb : Hid (Below w.heap.size w ((w.alloc (.cells #[] 2)).alloc (.cells #[] 2))) := ((Below.refl _ _).alloc (Nat.le_refl _) _).alloc (by simp) _
  have Hap : Hid (∀ k, (Value.slice (some ⟨w.heap.size, 0, none⟩) 0 0).ownBlock = some k → (Value.slice (some ⟨w.heap.size + 1, 0, none⟩) 0 0).ownBlock ≠ some k) := two_apart _ _ (by omega) 0 0 0 0
  by_cases h2 : 40 < ds.length
  · have h2' : (40 : Int) < (ds.length : Int) := by omega
    have He : Hid (flo ds = ([], [])) := by show _ = _; unfold flo; rw [fok_big ds h2]; rfl
    go_enter Try.func11, Try.ntmps11
    go_wp2
    go_ret2
    exact ⟨_, _, rfl, by rw [He.out]; exact Hq.out, by rw [He.out]; exact Hm.out, Hap.out, Hb.out⟩
  have h2' : ¬ (40 : Int) < (ds.length : Int) := by omega
  cases hr : rng (-9) 9 ds with
  | false =>
    have Hr : Hid (rng (-9) 9 ds = false) := hr
    have He : Hid (flo ds = ([], [])) := by show _ = _; unfold flo; rw [fok_not ds (by rw [l3_rng ds (by omega)]; exact hr)]; rfl
    clear hr
    go_enter Try.func11, Try.ntmps11
    go_wp2_with fail
    refine (allSigned_any _ ds base _ H.out).mono ?_
    rintro e w' ⟨rfl, hw⟩
    obtain rfl := hw.symm
    rw [Hr.out]
    go_wp2
    go_ret2
    exact ⟨_, _, rfl, by rw [He.out]; exact Hq.out, by rw [He.out]; exact Hm.out, Hap.out, Hb.out⟩
  | true =>
    have Hr : Hid (rng (-9) 9 ds = true) := hr
    have He : Hid (flo ds = reg ds ds.length) := by show _ = _; unfold flo; rw [fok_yes ds (by rw [l3_rng ds (by omega)]; exact hr) (by omega)]; rfl
    clear hr
    go_enter Try.func11, Try.ntmps11
    go_wp2_with fail
    refine (allSigned_any _ ds base _ H.out).mono ?_
    rintro e w' ⟨rfl, hw⟩
    obtain rfl := hw.symm
    rw [Hr.out]
    go_wp2_with fail
    refine (fly_any _ ds base _ H.out (by omega) Hr.out).mono ?_
    rintro e w1 ⟨q, m, rfl, hq, hm', hap, hb⟩
    have Hq' : Hid (Has w1 w.heap.size q (flo ds).1) := by show Has _ _ _ _; rw [He.out]; exact hq
    have Hm' : Hid (Has w1 w.heap.size m (flo ds).2) := by show Has _ _ _ _; rw [He.out]; exact hm'
    have Hap : Hid (∀ k, q.ownBlock = some k → m.ownBlock ≠ some k) := hap
    clear hq hm' hap
    go_wp2
    go_ret2
    exact ⟨_, _, rfl, Hq'.out, Hm'.out, Hap.out, hb⟩
end Go.Proofs.Ytlbkhiphnllfpab
