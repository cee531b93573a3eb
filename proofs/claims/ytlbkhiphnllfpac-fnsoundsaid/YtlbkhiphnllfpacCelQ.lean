/-
  What a told digit of a cell means for the law on cells: plain facts.
-/
import Derived.Test.YtlbkhiphnllfpacCelP
namespace Go.Proofs.Ytlbkhiphnllfpac
set_option linter.unusedVariables false
set_option maxRecDepth 100000
theorem sCel_told (a u t D Y : Int) (h : (sCel a u t D Y).1 = 0) : ((5 ≤ a ∧ a ≤ 9) ∧ (1 ≤ u ∧ u ≤ 2) ∧ (1 ≤ t ∧ t ≤ 2)) ∧ (1 ≤ D ∧ D ≤ 99) ∧ (-1000000 ≤ Y ∧ Y ≤ 1000000) ∧ (-a ≤ (sCel a u t D Y).2 ∧ (sCel a u t D Y).2 ≤ a) ∧ Y ≤ bnd a u t D ∧
    hlds a (10 ^ u.toNat) (10 ^ t.toNat) (sCel a u t D Y).2 (cnE (9 * 10 ^ u.toNat) (10 * a * 10 ^ t.toNat) D Y 2) = true := by
  unfold sCel at h ⊢
  cases hp : prm a u t with
  | false => rw [hp] at h; simp at h
  | true =>
    have hpp := prm_parts a u t hp
    cases hr : rgd u D with
    | false => rw [hp, hr] at h; simp at h
    | true =>
      rw [hp, hr] at h
      simp only [if_true] at h ⊢
      rcases cel_out a (10 ^ u.toNat) (10 ^ t.toNat) D Y (by omega) with ⟨h1, _⟩ | ⟨h1, _⟩ | ⟨h1, h2, h3, h4, h5, h6⟩
      · omega
      · omega
      · exact ⟨hpp, rgd_bd u D hpp.2.1 hr, h2, ⟨h5, h6⟩, ((bnd_reach a u t D Y hp hr).1 h3).2, h4⟩
theorem sCel_else (a u t D Y : Int) (h : (sCel a u t D Y).1 ≠ 0) : (sCel a u t D Y).2 = 0 := by
  unfold sCel at h ⊢
  cases hp : prm a u t with
  | false => simp
  | true =>
    have hpp := prm_parts a u t hp
    cases hr : rgd u D with
    | false => simp
    | true =>
      rw [hp, hr] at h
      simp only [if_true] at h ⊢
      rcases cel_out a (10 ^ u.toNat) (10 ^ t.toNat) D Y (by omega) with ⟨_, h1, _⟩ | ⟨_, h1, _⟩ | ⟨h1, _⟩
      · exact h1
      · exact h1
      · exact absurd h1 h
end Go.Proofs.Ytlbkhiphnllfpac
