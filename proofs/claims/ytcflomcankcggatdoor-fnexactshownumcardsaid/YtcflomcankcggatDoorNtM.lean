/-
  Plain facts: the digits of a natural number, without noughts ahead; the digits of a string.
-/
import Derived.Test.YtcflomcankcggatDoorTxtM
import Derived.Test.YtcflomcankcggatDoorNatB
namespace Go.Proofs.YtcflomcankcggatDoor
set_option linter.unusedVariables false
set_option maxRecDepth 100000
/-- The last k digits of a number, the high one first. -/
def lastD (n : Int) : Nat → List Int
  | 0 => []
  | k + 1 => lastD (n / 10) k ++ [n % 10]
theorem lastD_len (n : Int) (k : Nat) : (lastD n k).length = k := by
  induction k generalizing n with
  | zero => rfl
  | succ k ih => simp [lastD, ih]
theorem lastD_dec (n : Int) (k : Nat) : Dec (lastD n k) := by
  induction k generalizing n with
  | zero => intro d hd; cases hd
  | succ k ih =>
    intro d hd
    rcases List.mem_append.1 hd with c | c
    · exact ih _ d c
    · simp at c; omega
theorem lastD_vl (n : Int) (k : Nat) (h0 : 0 ≤ n) (h1 : n < 10 ^ k) : vl (lastD n k) = n := by
  induction k generalizing n with
  | zero => simp at h1; simp [lastD, vl, lv]; omega
  | succ k ih =>
    simp only [lastD]
    rw [vl_snoc, ih (n / 10) (by omega) (by rw [Int.pow_succ] at h1; omega)]
    omega
/-- The digits of a number (below ten to the 500). -/
def nt (n : Int) : List Int := strip (lastD n 500)
theorem nt_spec (n : Int) (h0 : 0 ≤ n) (h1 : n < 10 ^ 500) : Canon (nt n) ∧ vl (nt n) = n := by
  unfold nt
  refine ⟨strip_canon _ (lastD_dec n 500) (by rw [lastD_len]; decide), ?_⟩
  rw [strip_vl]
  exact lastD_vl n 500 h0 h1
theorem nt_of (R : List Int) (n : Int) (h : Canon R) (hv : vl R = n) (hl : R.length ≤ 500) : R = nt n := by
  have b := vl_bd R h.1
  have h1 : n < 10 ^ 500 := by rw [← hv]; exact Int.lt_of_lt_of_le b.2 (pow_mono _ _ hl)
  obtain ⟨c, e⟩ := nt_spec n (by rw [← hv]; exact b.1) h1
  exact canon_unique R (nt n) h c (by rw [hv, e])
/-- The digits of a string. -/
def dl (s : ByteArray) : List Int := s.data.toList.map fun c => (c.toNat : Int) - 48
theorem dl_tx (ds : List Int) (h : Dec ds) : dl (tx ds) = ds := by
  unfold dl
  rw [tx_data]
  simp only [List.map_map]
  have : ∀ d ∈ ds, ((fun c : UInt8 => (c.toNat : Int) - 48) ∘ fun d : Int => UInt8.ofNat (48 + d).toNat) d = d := fun d hd => by
    have b := h d hd
    show ((UInt8.ofNat (48 + d).toNat).toNat : Int) - 48 = d
    rw [UInt8.toNat_ofNat']
    omega
  rw [List.map_congr_left this, List.map_id']
theorem natB_dl (n : Int) (s : ByteArray) (h : natB n s = true) : Canon (dl s) ∧ ((dl s).length : Int) ≤ n ∧ s = tx (dl s) := by
  obtain ⟨ds, hc, hl, hn, rfl⟩ := natB_text n s h
  rw [dl_tx ds hc.1]
  exact ⟨hc, hn, rfl⟩
/-- The number that a string stands for. -/
def nv (s : ByteArray) : Int := vl (dl s)
theorem nv_bd (n : Nat) (s : ByteArray) (h : natB n s = true) : 0 ≤ nv s ∧ nv s < 10 ^ n := by
  obtain ⟨hc, hl, -⟩ := natB_dl n s h
  have b := vl_bd (dl s) hc.1
  exact ⟨b.1, Int.lt_of_lt_of_le b.2 (pow_mono _ _ (by omega))⟩
/-- A text that has at most 200 digits; else nothing. -/
def fitS (L : List Int) : ByteArray := if L.length ≤ 200 then tx L else { data := #[] }
end Go.Proofs.YtcflomcankcggatDoor
