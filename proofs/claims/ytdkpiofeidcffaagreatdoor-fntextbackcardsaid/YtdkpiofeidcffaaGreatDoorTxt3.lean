/-
  The model's naturals as texts: NatAdd, NatShift, and the laws' digits, value and above, walked.
-/
import Derived.Test.YtdkpiofeidcffaaGreatDoorTxt
import Derived.Test.YtdkpiofeidcffaaGreatDoorTxtM
import Derived.Test.YtdkpiofeidcffaaGreatDoorIn
namespace Go.Proofs.YtdkpiofeidcffaaGreatDoor
open Go.RowKit
set_option linter.unusedVariables false
set_option maxRecDepth 100000
def digB (c : UInt8) : Bool := decide (48 ≤ c.toNat) && decide (c.toNat ≤ 57)
/-- Whether a string is a natural of at most n digits. -/
def natB (n : Int) (s : ByteArray) : Bool := decide (1 ≤ s.size) && decide ((s.size : Int) ≤ n) && (decide (s.size ≤ 1) || !(s.data.toList.headD 0 == 48)) && s.data.toList.all digB
theorem data_at (s : ByteArray) (k : Nat) (hk : k < s.size) : s.data.toList[k]? = some (s[k]'hk) := by
  have h : k < s.data.toList.length := by simpa using hk
  rw [List.getElem?_eq_getElem h]
  rfl
theorem head_at (s : ByteArray) (h : 0 < s.size) : s.data.toList.headD 0 = s[0]'h := by
  have := data_at s 0 h
  cases e : s.data.toList with
  | nil => rw [e] at this; cases this
  | cons c r => rw [e] at this; simpa using this
theorem natB_empty (n : Int) (s : ByteArray) (h : s.size < 1) : natB n s = false := by
  unfold natB; rw [decide_eq_false (by omega : ¬ 1 ≤ s.size)]; rfl
theorem natB_long (n : Int) (s : ByteArray) (h : n < (s.size : Int)) : natB n s = false := by
  unfold natB; rw [decide_eq_false (by omega : ¬ (s.size : Int) ≤ n)]; simp
theorem natB_zero (n : Int) (s : ByteArray) (h : 1 < s.size) (h0 : (s[0]'(by omega)).toNat = 48) : natB n s = false := by
  have e : s[0]'(by omega) = 48 := UInt8.toNat_inj.1 h0
  unfold natB
  rw [head_at s (by omega), e, decide_eq_false (by omega : ¬ s.size ≤ 1)]
  simp
theorem natB_bad (n : Int) (s : ByteArray) (k : Nat) (hk : k < s.size) (h : (s[k]'hk).toNat < 48 ∨ 57 < (s[k]'hk).toNat) : natB n s = false := by
  have hm : s[k]'hk ∈ s.data.toList := List.mem_of_getElem? (data_at s k hk)
  have hb : s.data.toList.all digB = false := by
    rw [List.all_eq_false]
    refine ⟨_, hm, ?_⟩
    unfold digB
    rcases h with h | h
    · rw [decide_eq_false (by omega : ¬ 48 ≤ (s[k]'hk).toNat)]; simp
    · rw [decide_eq_false (by omega : ¬ (s[k]'hk).toNat ≤ 57)]; simp
  unfold natB
  rw [hb]; simp
theorem natB_good (n : Int) (s : ByteArray) (h1 : 0 < s.size) (h2 : (s.size : Int) ≤ n) (h3 : s.size ≤ 1 ∨ (s[0]'h1).toNat ≠ 48) (h4 : ∀ k (hk : k < s.size), 48 ≤ (s[k]'hk).toNat ∧ (s[k]'hk).toNat ≤ 57) : natB n s = true := by
  have ha : s.data.toList.all digB = true := by
    rw [List.all_eq_true]
    intro c hc
    obtain ⟨k, hk, e⟩ := List.getElem_of_mem hc
    have hk' : k < s.size := by simpa using hk
    have d := data_at s k hk'
    rw [List.getElem?_eq_getElem hk, e] at d
    have := h4 k hk'
    rw [← Option.some.inj d] at this
    unfold digB; simp [this.1, this.2]
  have hz : (decide (s.size ≤ 1) || !(s.data.toList.headD 0 == 48)) = true := by
    rcases h3 with h | h
    · rw [decide_eq_true h]; rfl
    · rw [head_at s h1]
      have : (s[0]'h1 == 48) = false := beq_eq_false_iff_ne.2 (fun e => h (by rw [e]; rfl))
      rw [this]; simp
  unfold natB
  rw [ha, hz, decide_eq_true (by omega : 1 ≤ s.size), decide_eq_true h2]; rfl
/-- A natural is the text of its digits. -/
theorem natB_text (n : Int) (s : ByteArray) (h : natB n s = true) : ∃ ds, Canon ds ∧ ds.length = s.size ∧ (ds.length : Int) ≤ n ∧ s = tx ds := by
  have h1 : 0 < s.size := by
    rcases Nat.lt_or_ge s.size 1 with c | c
    · rw [natB_empty n s c] at h; cases h
    · exact c
  have h2 : (s.size : Int) ≤ n := by
    by_cases c : n < (s.size : Int)
    · rw [natB_long n s c] at h; cases h
    · omega
  have h4 : ∀ k (hk : k < s.size), 48 ≤ (s[k]'hk).toNat ∧ (s[k]'hk).toNat ≤ 57 := fun k hk => by
    by_cases c : (s[k]'hk).toNat < 48 ∨ 57 < (s[k]'hk).toNat
    · rw [natB_bad n s k hk c] at h; cases h
    · omega
  have h3 : s.size ≤ 1 ∨ (s[0]'h1).toNat ≠ 48 := by
    by_cases c : 1 < s.size
    · refine .inr fun e => ?_
      rw [natB_zero n s c e] at h; cases h
    · exact .inl (by omega)
  have hdat : ∀ c ∈ s.data.toList, 48 ≤ c.toNat ∧ c.toNat ≤ 57 := fun c hc => by
    obtain ⟨k, hk, e⟩ := List.getElem_of_mem hc
    have hk' : k < s.size := by simpa using hk
    have d := data_at s k hk'
    rw [List.getElem?_eq_getElem hk, e] at d
    rw [Option.some.inj d]
    exact h4 k hk'
  refine ⟨s.data.toList.map fun c => (c.toNat : Int) - 48, ⟨fun d hd => ?_, by simpa using h1, ?_⟩, by simp, by simpa using h2, ?_⟩
  · obtain ⟨c, hc, rfl⟩ := List.mem_map.1 hd
    have := hdat c hc
    omega
  · rcases h3 with c | c
    · exact .inl (by simp; omega)
    · refine .inr ?_
      have e := head_at s h1
      cases el : s.data.toList with
      | nil => have : s.data.toList.length = s.size := by simp
               rw [el] at this; simp at this; omega
      | cons x r =>
        rw [el] at e
        simp only [List.map_cons, List.headD_cons] at e ⊢
        rw [e]; omega
  · apply ByteArray.ext
    rw [tx_data]
    apply Array.toList_inj.1
    rw [List.map_map]
    simp only []
    have : ∀ c ∈ s.data.toList, ((fun d : Int => UInt8.ofNat (48 + d).toNat) ∘ fun c : UInt8 => (c.toNat : Int) - 48) c = c := fun c hc => by
      show UInt8.ofNat (48 + ((c.toNat : Int) - 48)).toNat = c
      rw [show (48 + ((c.toNat : Int) - 48)).toNat = c.toNat by omega]
      exact UInt8.ofNat_toNat
    rw [List.map_congr_left this]
    simp
theorem natB_tx (n : Int) (ds : List Int) (h : Canon ds) (hn : (ds.length : Int) ≤ n) : natB n (tx ds) = true := by
  have hs := tx_size ds
  have h1 : 0 < (tx ds).size := by have := h.2.1; omega
  refine natB_good n (tx ds) h1 (by omega) ?_ fun k hk => ?_
  · rcases h.2.2 with c | c
    · exact .inl (by omega)
    · refine .inr fun e => c ?_
      have t := tx_at ds h.1 0 h1
      have g : ds.getD 0 0 = ds.headD 0 := by cases ds <;> rfl
      omega
  · have t := tx_at ds h.1 k hk
    have b := dec_at ds h.1 k
    omega
set_option maxHeartbeats 800000 in
theorem l10Nat_all (s : ByteArray) (n : Int) (w : World) (hs : s.size ≤ 4611686018427387904) :
    Calls Tryz.prog 23 #[.string s, .int .i64 n] w fun e w' => e = .returned (.bool (natB n s)) ∧ w' = w := by
  by_cases hA : s.size < 1
  · have E : Hid (natB n s = false) := natB_empty n s hA
    have h1 : (s.size : Int) < 1 := by omega
    go_enter Tryz.func23, Tryz.ntmps23
    go_wp2
    go_ret
    exact ⟨Ln.ret_bool E.out.symm, rfl⟩
  have h1 : ¬ (s.size : Int) < 1 := by omega
  have h1' : decide ((s.size : Int) < 1) = false := by simpa using h1
  have h0 : 0 < s.size := by omega
  by_cases hB : n < (s.size : Int)
  · have E : Hid (natB n s = false) := natB_long n s hB
    go_enter Tryz.func23, Tryz.ntmps23
    go_wp2
    go_ret
    exact ⟨Ln.ret_bool E.out.symm, rfl⟩
  have h2' : decide (n < (s.size : Int)) = false := by simpa using hB
  by_cases hC : 1 < s.size ∧ (s[0]'h0).toNat = 48
  · have E : Hid (natB n s = false) := natB_zero n s hC.1 hC.2
    have h3 : (1 : Int) < (s.size : Int) := by omega
    have h4 : (((s[0]'h0).toNat : Int) == 48) = true := by simp only [beq_iff_eq]; omega
    clear hC
    go_enter Tryz.func23, Tryz.ntmps23
    go_wp2
    go_ret
    exact ⟨Ln.ret_bool E.out.symm, rfl⟩
  have hcase : decide ((1 : Int) < (s.size : Int)) = false ∨ ((1 : Int) < (s.size : Int) ∧ (((s[0]'h0).toNat : Int) == 48) = false) := by
    by_cases c : 1 < s.size
    · exact .inr ⟨by omega, beq_eq_false_iff_ne.2 (fun e => hC ⟨c, by omega⟩)⟩
    · exact .inl (by simp; omega)
  have HG : Hid ((∀ k (hk : k < s.size), 48 ≤ (s[k]'hk).toNat ∧ (s[k]'hk).toNat ≤ 57) → natB n s = true) := fun h => natB_good n s h0 (by omega) (by
    by_cases c : 1 < s.size
    · exact .inr fun e => hC ⟨c, e⟩
    · exact .inl (by omega)) h
  have HB : Hid (∀ k (hk : k < s.size), ((s[k]'hk).toNat < 48 ∨ 57 < (s[k]'hk).toNat) → natB n s = false) := fun k hk h => natB_bad n s k hk h
  clear hC hA hB h1
  generalize natB n s = r at *
  rcases hcase with h3 | ⟨h3, h4⟩
  all_goals
    go_enter Tryz.func23, Tryz.ntmps23
    go_wp2
    go_loop [5] (fun i => ∃ k : Nat, k ≤ s.size ∧ i = .int .i64 k ∧ Hid (∀ q (hq : q < s.size), q < k → 48 ≤ (s[q]'hq).toNat ∧ (s[q]'hq).toNat ≤ 57)) (fun i => s.size - (intOf i).toNat)
    case atStart => exact ⟨0, Nat.zero_le _, rfl, fun q hq h => absurd h (Nat.not_lt_zero q)⟩
    case round =>
      obtain ⟨k, hk, rfl, hz⟩ := hrel
      by_cases hlt : k < s.size
      · have hlt' : (k : Int) < (s.size : Int) := by omega
        by_cases hlo : (s[k]'hlt).toNat < 48
        · have hb1 : ((s[k]'hlt).toNat : Int) < 48 := by omega
          have E : Hid (r = false) := HB.out k hlt (.inl hlo)
          clear hlo
          go_wp2
          go_ret
          exact ⟨Ln.ret_bool E.out.symm, rfl⟩
        · have hb1 : decide (((s[k]'hlt).toNat : Int) < 48) = false := by simp; omega
          by_cases hhi : 57 < (s[k]'hlt).toNat
          · have hb2 : (57 : Int) < ((s[k]'hlt).toNat : Int) := by omega
            have E : Hid (r = false) := HB.out k hlt (.inr hhi)
            clear hlo hhi
            go_wp2
            go_ret
            exact ⟨Ln.ret_bool E.out.symm, rfl⟩
          · have hb2 : decide ((57 : Int) < ((s[k]'hlt).toNat : Int)) = false := by simp; omega
            have hz2 : Hid (∀ q (hq : q < s.size), q < k + 1 → 48 ≤ (s[q]'hq).toNat ∧ (s[q]'hq).toNat ≤ 57) := fun q hq h => by
              rcases Nat.lt_or_ge q k with c | c
              · exact hz.out q hq c
              · obtain rfl : q = k := by omega
                omega
            clear hlo hhi
            go_wp2
            go_round
            case rel => exact ⟨k + 1, by omega, by go_num, hz2⟩
            case measure => simp [intOf]; omega
      · have E : Hid (r = true) := HG.out fun q hq => hz.out q hq (by omega)
        go_wp2
        go_ret
        exact ⟨Ln.ret_bool E.out.symm, rfl⟩
end Go.Proofs.YtdkpiofeidcffaaGreatDoor
namespace Go.Proofs.YtdkpiofeidcffaaGreatDoor
set_option linter.unusedVariables false
set_option maxRecDepth 100000
/-- The last k digits of a number, the high one first. -/
def lastD (n : Int) : Nat → List Int
  | 0 => []
  | k + 1 => lastD (n / 10) k ++ [n % 10]
theorem lastD_len (n : Int) (k : Nat) : (lastD n k).length = k := by
  induction k generalizing n with
  | zero => rfl
  | succ k ih => simp [lastD, ih]
theorem lastD_dec (n : Int) (k : Nat) : Dec (lastD n k) := by
  induction k generalizing n with
  | zero => intro d hd; cases hd
  | succ k ih =>
    intro d hd
    rcases List.mem_append.1 hd with c | c
    · exact ih _ d c
    · simp at c; omega
theorem lastD_vl (n : Int) (k : Nat) (h0 : 0 ≤ n) (h1 : n < 10 ^ k) : vl (lastD n k) = n := by
  induction k generalizing n with
  | zero => simp at h1; simp [lastD, vl, lv]; omega
  | succ k ih =>
    simp only [lastD]
    rw [vl_snoc, ih (n / 10) (by omega) (by rw [Int.pow_succ] at h1; omega)]
    omega
/-- The digits of a number (below ten to the 500). -/
def nt (n : Int) : List Int := strip (lastD n 500)
theorem nt_spec (n : Int) (h0 : 0 ≤ n) (h1 : n < 10 ^ 500) : Canon (nt n) ∧ vl (nt n) = n := by
  unfold nt
  refine ⟨strip_canon _ (lastD_dec n 500) (by rw [lastD_len]; decide), ?_⟩
  rw [strip_vl]
  exact lastD_vl n 500 h0 h1
theorem nt_of (R : List Int) (n : Int) (h : Canon R) (hv : vl R = n) (hl : R.length ≤ 500) : R = nt n := by
  have b := vl_bd R h.1
  have h1 : n < 10 ^ 500 := by rw [← hv]; exact Int.lt_of_lt_of_le b.2 (pow_mono _ _ hl)
  obtain ⟨c, e⟩ := nt_spec n (by rw [← hv]; exact b.1) h1
  exact canon_unique R (nt n) h c (by rw [hv, e])
/-- The digits of a string. -/
def dl (s : ByteArray) : List Int := s.data.toList.map fun c => (c.toNat : Int) - 48
theorem dl_tx (ds : List Int) (h : Dec ds) : dl (tx ds) = ds := by
  unfold dl
  rw [tx_data]
  simp only [List.map_map]
  have : ∀ d ∈ ds, ((fun c : UInt8 => (c.toNat : Int) - 48) ∘ fun d : Int => UInt8.ofNat (48 + d).toNat) d = d := fun d hd => by
    have b := h d hd
    show ((UInt8.ofNat (48 + d).toNat).toNat : Int) - 48 = d
    rw [UInt8.toNat_ofNat']
    omega
  rw [List.map_congr_left this, List.map_id']
theorem natB_dl (n : Int) (s : ByteArray) (h : natB n s = true) : Canon (dl s) ∧ ((dl s).length : Int) ≤ n ∧ s = tx (dl s) := by
  obtain ⟨ds, hc, hl, hn, rfl⟩ := natB_text n s h
  rw [dl_tx ds hc.1]
  exact ⟨hc, hn, rfl⟩
/-- The number that a string stands for. -/
def nv (s : ByteArray) : Int := vl (dl s)
theorem nv_bd (n : Nat) (s : ByteArray) (h : natB n s = true) : 0 ≤ nv s ∧ nv s < 10 ^ n := by
  obtain ⟨hc, hl, -⟩ := natB_dl n s h
  have b := vl_bd (dl s) hc.1
  exact ⟨b.1, Int.lt_of_lt_of_le b.2 (pow_mono _ _ (by omega))⟩
/-- A text that has at most 200 digits; else nothing. -/
def fitS (L : List Int) : ByteArray := if L.length ≤ 200 then tx L else { data := #[] }
end Go.Proofs.YtdkpiofeidcffaaGreatDoor
namespace Go.Proofs.YtdkpiofeidcffaaGreatDoor
set_option linter.unusedVariables false
set_option maxRecDepth 100000
theorem vl_append (a b : List Int) : vl (a ++ b) = vl b + 10 ^ b.length * vl a := by
  unfold vl; rw [List.reverse_append, lv_append, List.length_reverse]
theorem dec_drop (a : List Int) (h : Dec a) (k : Nat) : Dec (a.drop k) := fun d hd => h d (List.mem_of_mem_drop hd)
theorem vl_at (a : List Int) (k : Nat) (hk : k < a.length) : vl a = vl (a.drop (k + 1)) + 10 ^ (a.length - (k + 1)) * a.getD k 0 + 10 ^ (a.length - k) * vl (a.take k) := by
  have e : a.drop k = a.getD k 0 :: a.drop (k + 1) := by
    rw [List.drop_eq_getElem_cons hk]; simp [List.getD, hk]
  have h : vl (a.take k ++ a.drop k) = vl a := by rw [List.take_append_drop]
  rw [vl_append, List.length_drop, e, vl_cons, List.length_drop] at h
  exact h.symm
theorem take_same (a b : List Int) (k : Nat) (hl : a.length = b.length) (hp : ∀ j, j < k → a.getD j 0 = b.getD j 0) : a.take k = b.take k := by
  apply List.ext_getElem?
  intro i
  by_cases hi : i < k
  · rw [List.getElem?_take_of_lt hi, List.getElem?_take_of_lt hi]
    by_cases ha : i < a.length
    · have := hp i hi
      rw [List.getD, List.getD, List.getElem?_eq_getElem ha, List.getElem?_eq_getElem (by omega)] at this
      rw [List.getElem?_eq_getElem ha, List.getElem?_eq_getElem (by omega)]
      simpa using this
    · rw [List.getElem?_eq_none (by omega), List.getElem?_eq_none (by omega)]
  · rw [List.getElem?_eq_none (by simp; omega), List.getElem?_eq_none (by simp; omega)]
/-- Two texts of one length, the first digit in which they differ. -/
theorem vl_less (a b : List Int) (ha : Dec a) (hb : Dec b) (hl : a.length = b.length) (k : Nat) (hk : k < a.length) (hp : ∀ j, j < k → a.getD j 0 = b.getD j 0) (hx : a.getD k 0 < b.getD k 0) : vl a < vl b := by
  have x := vl_at a k hk
  have y := vl_at b k (by omega)
  have t := take_same a b k hl hp
  have p := vl_bd _ (dec_drop a ha (k + 1))
  have q := vl_bd _ (dec_drop b hb (k + 1))
  rw [List.length_drop] at p q
  rw [← hl, ← t] at y
  rw [← hl] at q
  have m : 10 ^ (a.length - (k + 1)) * (a.getD k 0 + 1) ≤ 10 ^ (a.length - (k + 1)) * b.getD k 0 :=
    Int.mul_le_mul_of_nonneg_left (by omega) (Int.le_of_lt (Int.pow_pos (by decide)))
  rw [Int.mul_add, Int.mul_one] at m
  omega
theorem vl_short (a b : List Int) (ha : Canon a) (hb : Canon b) (hl : a.length < b.length) : vl a < vl b := by
  have p := (vl_bd a ha.1).2
  have hp := ha.2.1
  have q := canon_low b hb (by omega)
  have m := pow_mono a.length (b.length - 1) (by omega)
  omega
theorem vl_even (a b : List Int) (hl : a.length = b.length) (hp : ∀ j, j < a.length → a.getD j 0 = b.getD j 0) : a = b := by
  have := take_same a b a.length hl hp
  rwa [List.take_length, hl, List.take_length] at this
/-- -1, 0 or 1. -/
def cmpI (x y : Int) : Int := if x < y then -1 else if y < x then 1 else 0
theorem cmpI_lt (x y : Int) (h : x < y) : cmpI x y = -1 := by unfold cmpI; rw [if_pos h]
theorem cmpI_gt (x y : Int) (h : y < x) : cmpI x y = 1 := by unfold cmpI; rw [if_neg (by omega), if_pos h]
theorem cmpI_eq (x : Int) : cmpI x x = 0 := by unfold cmpI; simp
/-- The borrow into place k of a less b. -/
def sbw (a b : List Int) : Nat → Int
  | 0 => 0
  | k + 1 => if lo a k - lo b k - sbw a b k < 0 then 1 else 0
/-- The digit at place k of a less b. -/
def sdg (a b : List Int) (k : Nat) : Int := lo a k - lo b k - sbw a b k + 10 * sbw a b (k + 1)
theorem sbw_bd (a b : List Int) (k : Nat) : 0 ≤ sbw a b k ∧ sbw a b k ≤ 1 := by
  cases k with
  | zero =>
    show (0 : Int) ≤ 0 ∧ (0 : Int) ≤ 1
    decide
  | succ k => unfold sbw; split <;> decide
theorem sdg_bd (a b : List Int) (ha : Dec a) (hb : Dec b) (k : Nat) : 0 ≤ sdg a b k ∧ sdg a b k ≤ 9 := by
  have x := lo_bd a ha k
  have y := lo_bd b hb k
  have z := sbw_bd a b k
  unfold sdg
  rw [show sbw a b (k + 1) = if lo a k - lo b k - sbw a b k < 0 then 1 else 0 from rfl]
  split <;> omega
theorem sdg_pv (a b : List Int) (k : Nat) : pv (sdg a b) k = pv (lo a) k - pv (lo b) k + 10 ^ k * sbw a b k := by
  induction k with
  | zero => simp [pv, sbw]
  | succ k ih =>
    simp only [pv, Int.pow_succ]
    have key : ∀ p A B C D : Int, (A - B - C + 10 * D) * p = A * p - B * p - p * C + p * 10 * D := fun p A B C D => by
      rw [Int.add_mul, Int.sub_mul, Int.sub_mul, Int.mul_assoc p, Int.mul_comm p, Int.mul_comm p]
    have e := key (10 ^ k) (lo a k) (lo b k) (sbw a b k) (sbw a b (k + 1))
    have e2 : sdg a b k * 10 ^ k = (lo a k - lo b k - sbw a b k + 10 * sbw a b (k + 1)) * 10 ^ k := rfl
    omega
/-- The digits from the last on. -/
def ups (f : Nat → Int) : Nat → List Int
  | 0 => []
  | k + 1 => ups f k ++ [f k]
theorem ups_length (f : Nat → Int) (k : Nat) : (ups f k).length = k := by
  induction k with
  | zero => rfl
  | succ k ih => simp [ups, ih]
theorem ups_mem (f : Nat → Int) (k : Nat) (d : Int) (h : d ∈ ups f k) : ∃ i, i < k ∧ d = f i := by
  induction k with
  | zero => simp [ups] at h
  | succ k ih =>
    rcases List.mem_append.1 h with h | h
    · obtain ⟨i, hi, e⟩ := ih h; exact ⟨i, by omega, e⟩
    · exact ⟨k, by omega, by simpa using h⟩
theorem lv_ups (f : Nat → Int) (k : Nat) : lv (ups f k) = pv f k := by
  induction k with
  | zero => rfl
  | succ k ih =>
    simp only [ups, pv]
    rw [lv_append, ih, ups_length]
    simp [lv, Int.mul_comm]
/-- a less b, where a is no less. -/
theorem sub_all (a b : List Int) (ha : Dec a) (hb : Dec b) (h : vl b ≤ vl a) (hl : b.length ≤ a.length) : lv (ups (sdg a b) a.length) = vl a - vl b ∧ Dec (ups (sdg a b) a.length) := by
  have d : Dec (ups (sdg a b) a.length) := fun x hx => by
    obtain ⟨i, _, rfl⟩ := ups_mem _ _ _ hx; exact sdg_bd a b ha hb i
  refine ⟨?_, d⟩
  have e := sdg_pv a b a.length
  rw [pv_lo a _ (Nat.le_refl _), pv_lo b _ hl] at e
  have p := lv_bd _ d
  rw [lv_ups, ups_length] at p
  have z := sbw_bd a b a.length
  have q := vl_bd a ha
  have r := vl_bd b hb
  rw [lv_ups]
  rcases (show sbw a b a.length = 0 ∨ sbw a b a.length = 1 by omega) with s | s
  · rw [s, Int.mul_zero, Int.add_zero] at e; exact e
  · rw [s, Int.mul_one] at e; omega
end Go.Proofs.YtdkpiofeidcffaaGreatDoor
namespace Go.Proofs.YtdkpiofeidcffaaGreatDoor
open Go.RowKit
set_option linter.unusedVariables false
set_option maxRecDepth 100000

theorem one_new (w : World) (x : Value) (T : TypeId) : ∀ j u, ([x] : List Value)[j]? = some u → (w.alloc (.cells #[x] T)).cell? ((⟨w.heap.size, 0, none⟩ : Addr).add j) = some u := by
  intro j u hu
  match j, hu with
  | 0, hu => simp at hu; subst hu; simp [Addr.add]
theorem one_cell (k : IntKind) (n : Int) : ∀ u ∈ ([.int k n] : List Value), u.oneCell' = true := by
  intro u hu; simp at hu; subst hu; rfl
/-- Digits, the low one first, as a text. -/
theorem l11Text_any (v : Value) (D : List Int) (base : Nat) (w : World) (h : Has w base v D) (hd : Dec D) (hp : 0 < D.length) (hl : D.length ≤ 1000) :
    Calls Tryz.prog 108 #[v] w fun e w' => e = .returned (.string (tx (strip D.reverse))) ∧ Below w.heap.size w w' := by
  obtain ⟨i0, hi, hz0, hz1, hz2⟩ := info_parts info8
  rcases h.form with ⟨_, rfl⟩ | ⟨g, ca, rfl, -, hgl, -, hca, -⟩
  · simp at hp
  have Hc : Hid (∀ i, i < D.length → w.cell? ⟨g, i, none⟩ = some (.int .i64 (D.getD i 0))) := hca
  have Hd : Hid (Dec D) := hd
  clear h hca hd
  generalize hn : D.length = n at *
  have Hn : Hid (D.length = n) := hn
  clear hn
  go_enter Tryz.func108, Tryz.ntmps108
  go_wp2
  go_loopw [3, 4] (fun b i wr => ∃ j : Nat, j ≤ n ∧ i = .int .i64 ((n : Int) - 1 - j) ∧ Hid (wr.ownsRow w.heap.size 5 1 b j (((D.reverse.take j).map (48 + ·)).map (Value.int .u8))) ∧ Below w.heap.size w wr) (fun _ i _ => (intOf i + 1).toNat)
  case atStart => exact ⟨0, Nat.zero_le _, Ln.val_int (by simp), World.ownsRow_made w #[] 0 (Nat.le_refl _) (Nat.zero_le _) rfl, (Below.refl _ _).alloc (Nat.le_refl _) _⟩
  case round =>
    obtain ⟨j, hj, rfl, hown, hbel⟩ := hrel
    have hsz := hbel.size
    by_cases hlt : j < n
    · have hge : (0 : Int) ≤ (n : Int) - 1 - j := by omega
      have hlt2 : (n : Int) - 1 - j < (n : Int) := by omega
      have hc : wr.cell? ⟨g, n - 1 - j, none⟩ = some (.int .i64 (D.getD (n - 1 - j) 0)) := (hbel.cell (p := ⟨g, n - 1 - j, none⟩) hgl).trans (Hc.out (n - 1 - j) (by omega))
      have hb := dec_at D Hd.out (n - 1 - j)
      have HT : Hid ((D.reverse.take (j + 1)) = D.reverse.take j ++ [D.getD (n - 1 - j) 0]) := by
        rw [Hid, List.take_succ_eq_append_getElem (by rw [List.length_reverse, Hn.out]; exact hlt)]
        congr 2
        rw [List.getElem_reverse]
        simp only [List.getD, Hn.out]
        rw [List.getElem?_eq_getElem (by rw [Hn.out]; omega)]
        rfl
      obtain ⟨d, hdd⟩ : ∃ d, d = D.getD (n - 1 - j) 0 := ⟨_, rfl⟩
      rw [← hdd] at hc hb
      have HT' : Hid ((D.reverse.take (j + 1)) = D.reverse.take j ++ [d]) := by rw [hdd]; exact HT
      clear HT hdd
      have hown0 := hown.out
      go_wp2_with (first | (at_builtin; refine wpList_append_own _ rfl _ _ 22 rfl w.heap.size 5 i0 (.int .u8 0) 1 1 Tryz.underlying22 hi hz0 hz1 hz2 rfl (by decide) _ _ _ rfl (hown0.alloc _) ⟨wr.heap.size, 0, none⟩ 1 1 [.int .u8 (48 + d)] rfl rfl ?c1 ?c2 ?c3 ?c4 ?c5 ?_) | go_in)
      case c1 =>
        intro i u hu
        match i, hu with
        | 0, hu => simp at hu; subst hu; simp [Addr.add]
      case c2 => intro u hu; simp at hu; subst hu; rfl
      case c3 => unfold maxLen; omega
      case c4 => omega
      case c5 => simp; omega
      · intro v' w3 hown3 hgrow _
        have hb3 : Below w.heap.size w w3 := Below.grown (hbel.alloc (by omega) _) hgrow (by simp; omega) (fun k hk => (hown0.lt k hk).1)
        have H3 : Hid (w3.ownsRow w.heap.size 5 1 v' (j + 1) (((D.reverse.take (j + 1)).map (48 + ·)).map (Value.int .u8))) := by
          rw [HT'.out]; simpa [Hid] using hown3
        clear hown3 hgrow hown0
        go_wp2
        go_roundw
        case rel => exact ⟨j + 1, by omega, Ln.val_int (by omega), H3, hb3⟩
        case measure => simp [intOf]; omega
    · have hd : decide ((0 : Int) ≤ (n : Int) - 1 - j) = false := by simp; omega
      have e : j = n := by omega
      subst e
      have hrl : (D.reverse.take j).length = j := by rw [List.length_take, List.length_reverse, Hn.out]; omega
      have hrt : D.reverse.take j = D.reverse := List.take_of_length_le (by rw [List.length_reverse, Hn.out]; omega)
      rw [hrt] at hown hrl
      have hown' := hown.out
      obtain ⟨g2, cap2, hv, hconv⟩ := text_of_row wr _ _ D.reverse (by rw [hrl]; exact hown') (by rw [hrl]; exact hp)
      rw [hrl] at hv
      rw [hv] at hconv ⊢
      have hcv := hconv 9 Tryz.underlying9
      have hpos : ((j : Int) == 0) = false := by simp; omega
      have Hrv : Hid (Dec D.reverse) := dec_rev D Hd.out
      have HRl : Hid (D.reverse.length = j) := hrl
      clear hconv hv hown' hown hrl hrt
      obtain ⟨R, hR⟩ : ∃ R, R = D.reverse := ⟨_, rfl⟩
      rw [← hR] at hcv Hrv HRl
      have HR : Hid (R = D.reverse) := hR
      clear hR
      go_wp2_with fail
      refine (l10Strip_any R _ Hrv.out (by rw [HRl.out]; exact hl)).mono ?_
      rintro e w' ⟨rfl, rfl⟩
      go_wp2
      go_ret
      exact ⟨by rw [← HR.out]; rfl, hbel⟩
set_option maxHeartbeats 2000000 in
/-- The sum of two texts. -/
theorem l11Add_any (a b : List Int) (w : World) (ha : Canon a) (hb : Canon b) (la : a.length ≤ 300) (lb : b.length ≤ 300) :
    Calls Tryz.prog 90 #[.string (tx a), .string (tx b)] w fun e w' => ∃ R, e = .returned (.string (tx R)) ∧ Canon R ∧ vl R = vl a + vl b ∧ R.length ≤ max a.length b.length + 1 ∧ Below w.heap.size w w' := by
  obtain ⟨i0, hi, hz0, hz1, hz2⟩ := info_parts info64
  have sa := tx_size a
  have sb := tx_size b
  have pa : 0 < (tx a).size := by have := ha.2.1; omega
  have la' : (tx a).size ≤ 300 := by omega
  have lb' : (tx b).size ≤ 300 := by omega
  have Hsa : Hid ((tx a).size = a.length) := sa
  have Hsb : Hid ((tx b).size = b.length) := sb
  have Ha : Hid (Dec a) := ha.1
  have Hb : Hid (Dec b) := hb.1
  clear ha hb sa sb
  go_enter Tryz.func90, Tryz.ntmps90
  go_wp2
  go_loopw [5, 6, 7] (fun d c i wr => ∃ j : Nat, i = .int .i64 j ∧ (j ≤ (tx a).size ∨ j ≤ (tx b).size ∨ j ≤ max (tx a).size (tx b).size + 1) ∧ ∃ (D : List Int) (cv : Int), c = .int .i64 cv ∧ 0 ≤ cv ∧ cv ≤ 1 ∧ (max (tx a).size (tx b).size < j → cv = 0) ∧ D.length = j ∧ Hid (Dec D ∧ lv D + 10 ^ j * cv = pv (lo a) j + pv (lo b) j) ∧ Hid (Has wr w.heap.size d D) ∧ Below w.heap.size w wr) (fun _ _ i _ => 1000 - (intOf i).toNat)
  case atStart => exact ⟨0, rfl, .inl (Nat.zero_le _), [], 0, rfl, by decide, by decide, fun _ => rfl, rfl, ⟨(fun d hd => by cases hd), by simp [lv, pv]⟩, none_own w, (Below.refl _ _).alloc (Nat.le_refl _) _⟩
  case round =>
    obtain ⟨j, rfl, hj, D, cv, rfl, c0, c1, hcz, hDl, hD, hh, hbel⟩ := hrel
    have hsz := hbel.size
    have hj301 : j ≤ 301 := by omega
    have hcase : j < (tx a).size ∨ ((tx a).size ≤ j ∧ decide (j < (tx a).size) = false ∧ j < (tx b).size) ∨ (((tx a).size ≤ j ∧ decide (j < (tx a).size) = false) ∧ ((tx b).size ≤ j ∧ decide (j < (tx b).size) = false) ∧ 0 < cv) ∨ (((tx a).size ≤ j ∧ decide (j < (tx a).size) = false) ∧ ((tx b).size ≤ j ∧ decide (j < (tx b).size) = false) ∧ cv ≤ 0 ∧ decide (0 < cv) = false) := by
      by_cases h1 : j < (tx a).size
      · exact .inl h1
      · by_cases h2 : j < (tx b).size
        · exact .inr (.inl ⟨by omega, by simpa using h1, h2⟩)
        · by_cases h3 : 0 < cv
          · exact .inr (.inr (.inl ⟨⟨by omega, by simpa using h1⟩, ⟨by omega, by simpa using h2⟩, h3⟩))
          · exact .inr (.inr (.inr ⟨⟨by omega, by simpa using h1⟩, ⟨by omega, by simpa using h2⟩, by omega, by simpa using h3⟩))
    have hnx : Hid ((j < (tx a).size ∨ j < (tx b).size ∨ 0 < cv) → j + 1 ≤ max (tx a).size (tx b).size + 1) := fun h => by
      rcases h with h | h | h
      · omega
      · omega
      · rcases Nat.lt_or_ge (max (tx a).size (tx b).size) j with c | c
        · have := hcz c; omega
        · omega
    have Hcz : Hid (max (tx a).size (tx b).size < j → cv = 0) := hcz
    have HDl : Hid (D.length = j) := hDl
    have Hst := add_step a b D j cv Ha.out Hb.out hD.out.1 hDl c0 c1 hD.out.2
    have HS : Hid (_ ∧ _ ∧ _ ∧ _) := Hst
    have ba := lo_bd a Ha.out j
    have bb := lo_bd b Hb.out j
    have Hoz : Hid (max (tx a).size (tx b).size < j + 1 → lo a j = 0 ∧ lo b j = 0) := fun h => ⟨lo_out a j (by have := Hsa.out; omega), lo_out b j (by have := Hsb.out; omega)⟩
    have hjm : Hid (j ≤ max (tx a).size (tx b).size + 1) := by rw [Hid]; omega
    clear hcz hj Hst hDl
    rcases hcase with hk | ⟨hk1, hk1', hk⟩ | ⟨⟨hk1, hk1'⟩, ⟨hk2, hk2'⟩, hk⟩ | ⟨⟨hk1, hk1'⟩, ⟨hk2, hk2'⟩, hk3, hk3'⟩
    rotate_right
    · have ea : a.length ≤ j := by have := Hsa.out; omega
      have eb : b.length ≤ j := by have := Hsb.out; omega
      have ez : cv = 0 := by omega
      have hv := hD.out.2
      rw [ez] at hv
      have HE : Hid (lv D = vl a + vl b) := add_end a b D j hv ea eb
      have Hpos : Hid (0 < D.length) := by have := Hsa.out; have := HDl.out; rw [Hid]; omega
      have Hle : Hid (D.length ≤ max a.length b.length + 1) := by
        rw [Hid, HDl.out]
        have := Hsa.out
        have := Hsb.out
        have := hjm.out
        omega
      clear ez hv
      go_wp2_with fail
      refine (l11Text_any _ D _ _ hh.out hD.out.1 Hpos.out (by rw [HDl.out]; omega)).mono ?_
      rintro e w1 ⟨rfl, hb1⟩
      go_wp2
      go_ret
      exact ⟨_, rfl, strip_canon _ (dec_rev D hD.out.1) (by rw [List.length_reverse]; exact Hpos.out), by rw [strip_vl, vl_rev, HE.out], Nat.le_trans (strip_len _) (by rw [List.length_reverse]; exact Hle.out), hbel.trans (hb1.mono hsz)⟩
    all_goals
      have Hnx := hnx.out (by first | exact .inl hk | exact .inr (.inl hk) | exact .inr (.inr hk))
      go_wp2_with fail
      refine (l11At_any a j _ Ha.out (by omega) (by omega)).mono ?_
      rintro e w' ⟨rfl, rfl⟩
      go_wp2_with fail
      refine (l11At_any b j _ Hb.out (by omega) (by omega)).mono ?_
      rintro e w' ⟨rfl, rfl⟩
      have hown0 := hh.out
      unfold Has at hown0
      rw [HDl.out] at hown0
      go_wp2_with (first | (at_builtin; refine wpList_append_own _ rfl _ _ 41 rfl w.heap.size 2 i0 (.int .i64 0) 1 8 Tryz.underlying41 hi hz0 hz1 hz2 rfl (by decide) _ _ _ rfl (hown0.alloc _) ⟨w'.heap.size, 0, none⟩ 1 1 [.int .i64 ((lo a j + lo b j + cv) % 10)] rfl rfl (one_new _ _ _) (one_cell _ _) (by unfold maxLen; omega) (by omega) (by simp; omega) ?_) | go_in)
      intro v' w3 hown3 hgrow _
      have hb3 : Below w.heap.size w w3 := Below.grown (hbel.alloc (by omega) _) hgrow (by simp; omega) (fun k hk => (hown0.lt k hk).1)
      have H3 : Hid (Has w3 w.heap.size v' (D ++ [(lo a j + lo b j + cv) % 10])) := by
        rw [Hid, Has]
        rw [List.length_append, HDl.out]
        simpa using hown3
      have hc1 : Hid (max (tx a).size (tx b).size < j + 1 → (lo a j + lo b j + cv) / 10 = 0) := fun h => by
        have := Hoz.out h
        rw [this.1, this.2]; omega
      clear hown3 hgrow hown0 hh
      go_wp2
      go_roundw
      case rel => exact ⟨j + 1, by go_num, .inr (.inr Hnx), _, _, rfl, HS.out.2.2.1, HS.out.2.2.2, hc1.out, by rw [List.length_append, HDl.out]; rfl, ⟨HS.out.1, HS.out.2.1⟩, H3, hb3⟩
      case measure => simp [intOf]; omega
end Go.Proofs.YtdkpiofeidcffaaGreatDoor
namespace Go.Proofs.YtdkpiofeidcffaaGreatDoor
set_option linter.unusedVariables false
set_option maxRecDepth 100000
theorem lv_set (D : List Int) (p : Nat) (v : Int) (hp : p < D.length) : lv (D.set p v) = lv D + (v - D.getD p 0) * 10 ^ p := by
  induction D generalizing p with
  | nil => simp at hp
  | cons d r ih =>
    cases p with
    | zero => simp [lv]; omega
    | succ p =>
      have h := ih p (by simpa using hp)
      simp only [List.set_cons_succ, lv, List.getD_cons_succ]
      rw [h, Int.pow_succ, ← Int.mul_assoc, Int.mul_add]
      omega
theorem getD_set (D : List Int) (p q : Nat) (v : Int) (hp : p < D.length) : (D.set p v).getD q 0 = if q = p then v else D.getD q 0 := by
  simp only [List.getD, List.getElem?_set]
  by_cases h : p = q
  · subst h; simp [hp]
  · rw [if_neg h, if_neg (fun e => h e.symm)]
theorem dec_set (D : List Int) (p : Nat) (v : Int) (h : Dec D) (h0 : 0 ≤ v) (h9 : v ≤ 9) : Dec (D.set p v) := fun d hd => by
  rcases List.mem_or_eq_of_mem_set hd with hd | hd
  · exact h d hd
  · rw [hd]; exact ⟨h0, h9⟩
/-- What is told of the row while a's digit i is multiplied, k digits of b done, c carried. -/
def MI (a b : List Int) (i k : Nat) (D : List Int) (c : Int) : Prop :=
  D.length = a.length + b.length ∧ Dec D ∧ (∀ p, i + b.length + 1 ≤ p → D.getD p 0 = 0) ∧ (k ≤ b.length → D.getD (i + b.length) 0 = 0) ∧
  lv D + c * 10 ^ (i + k) = pv (lo a) i * vl b + lo a i * 10 ^ i * pv (lo b) k
/-- What is told of the row when i digits of a are done. -/
def MO (a b : List Int) (i : Nat) (D : List Int) : Prop :=
  D.length = a.length + b.length ∧ Dec D ∧ (∀ p, i + b.length ≤ p → D.getD p 0 = 0) ∧ lv D = pv (lo a) i * vl b
theorem MO_start (a b : List Int) : MO a b 0 (List.replicate (a.length + b.length) 0) := by
  have e : ∀ n, lv (List.replicate n 0) = 0 := fun n => by
    induction n with
    | zero => rfl
    | succ n ih => simp [List.replicate_succ, lv, ih]
  refine ⟨by simp, fun d hd => ?_, fun p _ => ?_, ?_⟩
  · have := (List.mem_replicate.1 hd).2; omega
  · simp only [List.getD, List.getElem?_replicate]; split <;> rfl
  · rw [e]; simp [pv]
theorem MO_row {a b : List Int} {i : Nat} {D : List Int} (h : MO a b i D) : MI a b i 0 D 0 := by
  obtain ⟨h1, h2, h3, h4⟩ := h
  exact ⟨h1, h2, fun p hp => h3 p (by omega), fun _ => h3 _ (Nat.le_refl _), by rw [h4]; simp [pv]⟩
theorem MI_step {a b : List Int} {i k : Nat} {D : List Int} {c : Int} (h : MI a b i k D c) (ha : Dec a) (hb : Dec b) (hi : i < a.length) (hk : k ≤ b.length) (c0 : 0 ≤ c) (c9 : c ≤ 9) :
    MI a b i (k + 1) (D.set (i + k) ((D.getD (i + k) 0 + lo a i * lo b k + c) % 10)) ((D.getD (i + k) 0 + lo a i * lo b k + c) / 10) ∧
    (0 ≤ (D.getD (i + k) 0 + lo a i * lo b k + c) / 10 ∧ (D.getD (i + k) 0 + lo a i * lo b k + c) / 10 ≤ 9) ∧ (k = b.length → (D.getD (i + k) 0 + lo a i * lo b k + c) / 10 = 0) ∧
    (0 ≤ D.getD (i + k) 0 ∧ D.getD (i + k) 0 ≤ 9) ∧ (0 ≤ lo a i * lo b k ∧ lo a i * lo b k ≤ 81) := by
  obtain ⟨h1, h2, h3, h4, h5⟩ := h
  have x := lo_bd a ha i
  have z := lo_bd b hb k
  have y := dec_at D h2 (i + k)
  have m : 0 ≤ lo a i * lo b k ∧ lo a i * lo b k ≤ 81 := by
    have h := Int.mul_nonneg x.1 z.1
    have g := Int.mul_le_mul x.2 z.2 z.1 (by decide)
    omega
  have hp : i + k < D.length := by omega
  refine ⟨⟨by rw [List.length_set, h1], dec_set _ _ _ h2 (by omega) (by omega), fun p hp' => ?_, fun hk' => ?_, ?_⟩, by omega, fun hkb => ?_, y, m⟩
  · rw [getD_set _ _ _ _ hp, if_neg (by omega)]; exact h3 p hp'
  · rw [getD_set _ _ _ _ hp, if_neg (by omega)]; exact h4 hk
  · rw [lv_set _ _ _ hp]
    have e : ∀ n : Int, n % 10 + 10 * (n / 10) = n := fun n => by omega
    have e' := e (D.getD (i + k) 0 + lo a i * lo b k + c)
    generalize (D.getD (i + k) 0 + lo a i * lo b k + c) % 10 = u at *
    generalize (D.getD (i + k) 0 + lo a i * lo b k + c) / 10 = v at *
    simp only [pv]
    rw [Int.mul_add, ← Int.add_assoc, ← h5, ← Nat.add_assoc, Int.pow_succ]
    have p2 : (10 : Int) ^ (i + k) = 10 ^ i * 10 ^ k := Int.pow_add ..
    have k1 : lo a i * 10 ^ i * (lo b k * 10 ^ k) = lo a i * lo b k * 10 ^ (i + k) := by
      rw [p2]; simp only [Int.mul_assoc, Int.mul_left_comm]
    rw [k1]
    generalize (10 : Int) ^ (i + k) = P at *
    generalize lo a i * lo b k = q at *
    generalize D.getD (i + k) 0 = g at *
    have k2 : (u - g) * P + v * (P * 10) = (u + 10 * v - g) * P := by
      rw [Int.sub_mul, Int.sub_mul, Int.add_mul, Int.mul_comm P 10, ← Int.mul_assoc, Int.mul_comm v 10]; omega
    rw [e'] at k2
    have k3 : (g + q + c - g) * P = q * P + c * P := by
      rw [show g + q + c - g = q + c by omega, Int.add_mul]
    omega
  · have e1 : D.getD (i + k) 0 = 0 := by rw [hkb]; exact h4 (by omega)
    have e2 : lo b k = 0 := lo_out b k (by omega)
    rw [e1, e2, Int.mul_zero]; omega
theorem MI_end {a b : List Int} {i k : Nat} {D : List Int} (h : MI a b i k D 0) (hk : b.length ≤ k) : MO a b (i + 1) D := by
  obtain ⟨h1, h2, h3, h4, h5⟩ := h
  refine ⟨h1, h2, fun p hp => h3 p (by omega), ?_⟩
  rw [Int.zero_mul, Int.add_zero, pv_lo b k hk] at h5
  rw [h5]
  simp only [pv]
  rw [Int.add_mul]
theorem MO_end {a b : List Int} {D : List Int} (h : MO a b a.length D) : lv D = vl a * vl b := by
  rw [h.2.2.2, pv_lo a _ (Nat.le_refl _)]
end Go.Proofs.YtdkpiofeidcffaaGreatDoor
namespace Go.Proofs.YtdkpiofeidcffaaGreatDoor
open Go.RowKit
set_option linter.unusedVariables false
set_option maxRecDepth 100000

/-- A byte of a digit, as a text. -/
theorem conv_one (d : Int) (W : World) : ∀ dst, Tryz.prog.underlying dst = some .string → (convert 22 dst (.slice (some ⟨W.heap.size, 0, none⟩) 1 1)).run Tryz.prog (W.alloc (.cells #[.int .u8 (48 + d)] 5)) = .ok (.string (tx [d])) (W.alloc (.cells #[.int .u8 (48 + d)] 5)) :=
  run_convert_bytes_arg (P := Tryz.prog) _ 22 5 Tryz.underlying22 Tryz.underlying5 W.heap.size 0 1 1 [48 + d] rfl (fun i hi => by
    match i, hi with
    | 0, _ => simp)
end Go.Proofs.YtdkpiofeidcffaaGreatDoor
