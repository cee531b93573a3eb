/-
  Plain facts: the digits of a natural number, without noughts ahead; the digits of a string.
-/
import Derived.Test.YtcflomcankcggatDoorSl
namespace Go.Proofs.YtcflomcankcggatDoor
open Go.RowKit
set_option linter.unusedVariables false
set_option maxRecDepth 100000

def strSz : Value → Nat
  | .string b => b.size
  | _ => 0
theorem l10Nat_any (ds : List Int) (n : Int) (w : World) (h : Canon ds) (hs : ds.length ≤ 1000) (hn : (ds.length : Int) ≤ n) (hn2 : n ≤ 1000) :
    Calls Tryd.prog 29 #[.string (tx ds), .int .i64 n] w fun e w' => e = .returned (.bool true) ∧ w' = w := by
  obtain ⟨hd, hp, hh⟩ := h
  have hz : (tx ds).size = ds.length := tx_size ds
  have Hd : Hid (Dec ds) := hd
  have h0 : 0 < (tx ds).size := by omega
  have h1 : ¬ ((tx ds).size : Int) < 1 := by omega
  have h1' : decide (((tx ds).size : Int) < 1) = false := by simpa using h1
  have h2 : ¬ n < ((tx ds).size : Int) := by omega
  have h2' : decide (n < ((tx ds).size : Int)) = false := by simpa using h2
  have hs' : (tx ds).size ≤ 1000 := by omega
  have ht := tx_at ds hd 0 h0
  have hA : Hid (∀ k (hk : k < (tx ds).size), 48 ≤ (((tx ds)[k]'hk).toNat : Int) ∧ (((tx ds)[k]'hk).toNat : Int) ≤ 57) := fun k hk => by
    have a := tx_at ds hd k hk
    have b := dec_at ds hd k
    omega
  have hcase : decide ((1 : Int) < ((tx ds).size : Int)) = false ∨ ((1 : Int) < ((tx ds).size : Int) ∧ ((((tx ds)[0]'h0).toNat : Int) == 48) = false) := by
    rcases Nat.lt_or_ge 1 ds.length with c | c
    · refine .inr ⟨by omega, ?_⟩
      rw [ht]
      have : ds.headD 0 ≠ 0 := by rcases hh with hh | hh; omega; exact hh
      have e : ds.getD 0 0 = ds.headD 0 := by cases ds <;> rfl
      rw [e]; exact beq_eq_false_iff_ne.2 (by omega)
    · exact .inl (by simp; omega)
  clear hz hd ht h1 h2 hh
  rcases hcase with h3 | ⟨h3, h4⟩
  all_goals
    go_enter Tryd.func29, Tryd.ntmps29
    go_wp2
    go_loop [5] (fun i => ∃ k : Nat, k ≤ (tx ds).size ∧ i = .int .i64 k) (fun i => (tx ds).size - (intOf i).toNat)
    case atStart => exact ⟨0, Nat.zero_le _, rfl⟩
    case round =>
      obtain ⟨k, hk, rfl⟩ := hrel
      by_cases hlt : k < (tx ds).size
      · have hb := hA.out k hlt
        have hb1 : decide ((((tx ds)[k]'hlt).toNat : Int) < 48) = false := by simp; omega
        have hb2 : decide ((57 : Int) < (((tx ds)[k]'hlt).toNat : Int)) = false := by simp; omega
        clear hb
        go_wp2
        go_round
        case rel => exact ⟨k + 1, by omega, by go_num⟩
        case measure => simp [intOf]; omega
      · go_wp2
        go_ret
        exact ⟨rfl, rfl⟩
theorem info8 : (Tryd.prog.info? 5).map (fun i => (i.zero, i.size, i.bytes)) = some (some (.int .u8 0), 1, 1) := by kernel_rfl
/-- A row of bytes that the call owns, as a text. -/
theorem text_of_row (w : World) (base : Nat) (v : Value) (ds : List Int) (h : w.ownsRow base 5 1 v ds.length ((ds.map (48 + ·)).map (Value.int .u8))) (hp : 0 < ds.length) :
    ∃ g cap, v = .slice (some ⟨g, 0, none⟩) ds.length cap ∧ ∀ dst, Tryd.prog.underlying dst = some .string → (convert 49 dst v).run Tryd.prog w = .ok (.string (tx ds)) w := by
  have h0 := h
  obtain ⟨hl, h⟩ := h
  rcases h with ⟨_, h⟩ | ⟨g, cap, cur, rfl, hg, hc, hn, hm, hs, ht⟩
  · omega
  · refine ⟨g, cap, rfl, ?_⟩
    have := run_convert_bytes_arg (P := Tryd.prog) w 49 5 Tryd.underlying49 Tryd.underlying5 g 0 ds.length cap (ds.map (48 + ·)) (by simp) (fun i hi => by
      rw [Nat.zero_add, World.ownsRow.cellAt h0 i (by omega)]
      simp [List.getD, hi])
    exact this
end Go.Proofs.YtcflomcankcggatDoor
namespace Go.Proofs.YtcflomcankcggatDoor
open Go.RowKit
set_option linter.unusedVariables false
set_option maxRecDepth 100000
def digB (c : UInt8) : Bool := decide (48 ≤ c.toNat) && decide (c.toNat ≤ 57)
/-- Whether a string is a natural of at most n digits. -/
def natB (n : Int) (s : ByteArray) : Bool := decide (1 ≤ s.size) && decide ((s.size : Int) ≤ n) && (decide (s.size ≤ 1) || !(s.data.toList.headD 0 == 48)) && s.data.toList.all digB
theorem data_at (s : ByteArray) (k : Nat) (hk : k < s.size) : s.data.toList[k]? = some (s[k]'hk) := by
  have h : k < s.data.toList.length := by simpa using hk
  rw [List.getElem?_eq_getElem h]
  rfl
theorem head_at (s : ByteArray) (h : 0 < s.size) : s.data.toList.headD 0 = s[0]'h := by
  have := data_at s 0 h
  cases e : s.data.toList with
  | nil => rw [e] at this; cases this
  | cons c r => rw [e] at this; simpa using this
theorem natB_empty (n : Int) (s : ByteArray) (h : s.size < 1) : natB n s = false := by
  unfold natB; rw [decide_eq_false (by omega : ¬ 1 ≤ s.size)]; rfl
theorem natB_long (n : Int) (s : ByteArray) (h : n < (s.size : Int)) : natB n s = false := by
  unfold natB; rw [decide_eq_false (by omega : ¬ (s.size : Int) ≤ n)]; simp
theorem natB_zero (n : Int) (s : ByteArray) (h : 1 < s.size) (h0 : (s[0]'(by omega)).toNat = 48) : natB n s = false := by
  have e : s[0]'(by omega) = 48 := UInt8.toNat_inj.1 h0
  unfold natB
  rw [head_at s (by omega), e, decide_eq_false (by omega : ¬ s.size ≤ 1)]
  simp
theorem natB_bad (n : Int) (s : ByteArray) (k : Nat) (hk : k < s.size) (h : (s[k]'hk).toNat < 48 ∨ 57 < (s[k]'hk).toNat) : natB n s = false := by
  have hm : s[k]'hk ∈ s.data.toList := List.mem_of_getElem? (data_at s k hk)
  have hb : s.data.toList.all digB = false := by
    rw [List.all_eq_false]
    refine ⟨_, hm, ?_⟩
    unfold digB
    rcases h with h | h
    · rw [decide_eq_false (by omega : ¬ 48 ≤ (s[k]'hk).toNat)]; simp
    · rw [decide_eq_false (by omega : ¬ (s[k]'hk).toNat ≤ 57)]; simp
  unfold natB
  rw [hb]; simp
theorem natB_good (n : Int) (s : ByteArray) (h1 : 0 < s.size) (h2 : (s.size : Int) ≤ n) (h3 : s.size ≤ 1 ∨ (s[0]'h1).toNat ≠ 48) (h4 : ∀ k (hk : k < s.size), 48 ≤ (s[k]'hk).toNat ∧ (s[k]'hk).toNat ≤ 57) : natB n s = true := by
  have ha : s.data.toList.all digB = true := by
    rw [List.all_eq_true]
    intro c hc
    obtain ⟨k, hk, e⟩ := List.getElem_of_mem hc
    have hk' : k < s.size := by simpa using hk
    have d := data_at s k hk'
    rw [List.getElem?_eq_getElem hk, e] at d
    have := h4 k hk'
    rw [← Option.some.inj d] at this
    unfold digB; simp [this.1, this.2]
  have hz : (decide (s.size ≤ 1) || !(s.data.toList.headD 0 == 48)) = true := by
    rcases h3 with h | h
    · rw [decide_eq_true h]; rfl
    · rw [head_at s h1]
      have : (s[0]'h1 == 48) = false := beq_eq_false_iff_ne.2 (fun e => h (by rw [e]; rfl))
      rw [this]; simp
  unfold natB
  rw [ha, hz, decide_eq_true (by omega : 1 ≤ s.size), decide_eq_true h2]; rfl
/-- A natural is the text of its digits. -/
theorem natB_text (n : Int) (s : ByteArray) (h : natB n s = true) : ∃ ds, Canon ds ∧ ds.length = s.size ∧ (ds.length : Int) ≤ n ∧ s = tx ds := by
  have h1 : 0 < s.size := by
    rcases Nat.lt_or_ge s.size 1 with c | c
    · rw [natB_empty n s c] at h; cases h
    · exact c
  have h2 : (s.size : Int) ≤ n := by
    by_cases c : n < (s.size : Int)
    · rw [natB_long n s c] at h; cases h
    · omega
  have h4 : ∀ k (hk : k < s.size), 48 ≤ (s[k]'hk).toNat ∧ (s[k]'hk).toNat ≤ 57 := fun k hk => by
    by_cases c : (s[k]'hk).toNat < 48 ∨ 57 < (s[k]'hk).toNat
    · rw [natB_bad n s k hk c] at h; cases h
    · omega
  have h3 : s.size ≤ 1 ∨ (s[0]'h1).toNat ≠ 48 := by
    by_cases c : 1 < s.size
    · refine .inr fun e => ?_
      rw [natB_zero n s c e] at h; cases h
    · exact .inl (by omega)
  have hdat : ∀ c ∈ s.data.toList, 48 ≤ c.toNat ∧ c.toNat ≤ 57 := fun c hc => by
    obtain ⟨k, hk, e⟩ := List.getElem_of_mem hc
    have hk' : k < s.size := by simpa using hk
    have d := data_at s k hk'
    rw [List.getElem?_eq_getElem hk, e] at d
    rw [Option.some.inj d]
    exact h4 k hk'
  refine ⟨s.data.toList.map fun c => (c.toNat : Int) - 48, ⟨fun d hd => ?_, by simpa using h1, ?_⟩, by simp, by simpa using h2, ?_⟩
  · obtain ⟨c, hc, rfl⟩ := List.mem_map.1 hd
    have := hdat c hc
    omega
  · rcases h3 with c | c
    · exact .inl (by simp; omega)
    · refine .inr ?_
      have e := head_at s h1
      cases el : s.data.toList with
      | nil => have : s.data.toList.length = s.size := by simp
               rw [el] at this; simp at this; omega
      | cons x r =>
        rw [el] at e
        simp only [List.map_cons, List.headD_cons] at e ⊢
        rw [e]; omega
  · apply ByteArray.ext
    rw [tx_data]
    apply Array.toList_inj.1
    rw [List.map_map]
    simp only []
    have : ∀ c ∈ s.data.toList, ((fun d : Int => UInt8.ofNat (48 + d).toNat) ∘ fun c : UInt8 => (c.toNat : Int) - 48) c = c := fun c hc => by
      show UInt8.ofNat (48 + ((c.toNat : Int) - 48)).toNat = c
      rw [show (48 + ((c.toNat : Int) - 48)).toNat = c.toNat by omega]
      exact UInt8.ofNat_toNat
    rw [List.map_congr_left this]
    simp
theorem natB_tx (n : Int) (ds : List Int) (h : Canon ds) (hn : (ds.length : Int) ≤ n) : natB n (tx ds) = true := by
  have hs := tx_size ds
  have h1 : 0 < (tx ds).size := by have := h.2.1; omega
  refine natB_good n (tx ds) h1 (by omega) ?_ fun k hk => ?_
  · rcases h.2.2 with c | c
    · exact .inl (by omega)
    · refine .inr fun e => c ?_
      have t := tx_at ds h.1 0 h1
      have g : ds.getD 0 0 = ds.headD 0 := by cases ds <;> rfl
      omega
  · have t := tx_at ds h.1 k hk
    have b := dec_at ds h.1 k
    omega
set_option maxHeartbeats 800000 in
theorem l10Nat_all (s : ByteArray) (n : Int) (w : World) (hs : s.size ≤ 4611686018427387904) :
    Calls Tryd.prog 29 #[.string s, .int .i64 n] w fun e w' => e = .returned (.bool (natB n s)) ∧ w' = w := by
  by_cases hA : s.size < 1
  · have E : Hid (natB n s = false) := natB_empty n s hA
    have h1 : (s.size : Int) < 1 := by omega
    go_enter Tryd.func29, Tryd.ntmps29
    go_wp2
    go_ret
    exact ⟨Ln.ret_bool E.out.symm, rfl⟩
  have h1 : ¬ (s.size : Int) < 1 := by omega
  have h1' : decide ((s.size : Int) < 1) = false := by simpa using h1
  have h0 : 0 < s.size := by omega
  by_cases hB : n < (s.size : Int)
  · have E : Hid (natB n s = false) := natB_long n s hB
    go_enter Tryd.func29, Tryd.ntmps29
    go_wp2
    go_ret
    exact ⟨Ln.ret_bool E.out.symm, rfl⟩
  have h2' : decide (n < (s.size : Int)) = false := by simpa using hB
  by_cases hC : 1 < s.size ∧ (s[0]'h0).toNat = 48
  · have E : Hid (natB n s = false) := natB_zero n s hC.1 hC.2
    have h3 : (1 : Int) < (s.size : Int) := by omega
    have h4 : (((s[0]'h0).toNat : Int) == 48) = true := by simp only [beq_iff_eq]; omega
    clear hC
    go_enter Tryd.func29, Tryd.ntmps29
    go_wp2
    go_ret
    exact ⟨Ln.ret_bool E.out.symm, rfl⟩
  have hcase : decide ((1 : Int) < (s.size : Int)) = false ∨ ((1 : Int) < (s.size : Int) ∧ (((s[0]'h0).toNat : Int) == 48) = false) := by
    by_cases c : 1 < s.size
    · exact .inr ⟨by omega, beq_eq_false_iff_ne.2 (fun e => hC ⟨c, by omega⟩)⟩
    · exact .inl (by simp; omega)
  have HG : Hid ((∀ k (hk : k < s.size), 48 ≤ (s[k]'hk).toNat ∧ (s[k]'hk).toNat ≤ 57) → natB n s = true) := fun h => natB_good n s h0 (by omega) (by
    by_cases c : 1 < s.size
    · exact .inr fun e => hC ⟨c, e⟩
    · exact .inl (by omega)) h
  have HB : Hid (∀ k (hk : k < s.size), ((s[k]'hk).toNat < 48 ∨ 57 < (s[k]'hk).toNat) → natB n s = false) := fun k hk h => natB_bad n s k hk h
  clear hC hA hB h1
  generalize natB n s = r at *
  rcases hcase with h3 | ⟨h3, h4⟩
  all_goals
    go_enter Tryd.func29, Tryd.ntmps29
    go_wp2
    go_loop [5] (fun i => ∃ k : Nat, k ≤ s.size ∧ i = .int .i64 k ∧ Hid (∀ q (hq : q < s.size), q < k → 48 ≤ (s[q]'hq).toNat ∧ (s[q]'hq).toNat ≤ 57)) (fun i => s.size - (intOf i).toNat)
    case atStart => exact ⟨0, Nat.zero_le _, rfl, fun q hq h => absurd h (Nat.not_lt_zero q)⟩
    case round =>
      obtain ⟨k, hk, rfl, hz⟩ := hrel
      by_cases hlt : k < s.size
      · have hlt' : (k : Int) < (s.size : Int) := by omega
        by_cases hlo : (s[k]'hlt).toNat < 48
        · have hb1 : ((s[k]'hlt).toNat : Int) < 48 := by omega
          have E : Hid (r = false) := HB.out k hlt (.inl hlo)
          clear hlo
          go_wp2
          go_ret
          exact ⟨Ln.ret_bool E.out.symm, rfl⟩
        · have hb1 : decide (((s[k]'hlt).toNat : Int) < 48) = false := by simp; omega
          by_cases hhi : 57 < (s[k]'hlt).toNat
          · have hb2 : (57 : Int) < ((s[k]'hlt).toNat : Int) := by omega
            have E : Hid (r = false) := HB.out k hlt (.inr hhi)
            clear hlo hhi
            go_wp2
            go_ret
            exact ⟨Ln.ret_bool E.out.symm, rfl⟩
          · have hb2 : decide ((57 : Int) < ((s[k]'hlt).toNat : Int)) = false := by simp; omega
            have hz2 : Hid (∀ q (hq : q < s.size), q < k + 1 → 48 ≤ (s[q]'hq).toNat ∧ (s[q]'hq).toNat ≤ 57) := fun q hq h => by
              rcases Nat.lt_or_ge q k with c | c
              · exact hz.out q hq c
              · obtain rfl : q = k := by omega
                omega
            clear hlo hhi
            go_wp2
            go_round
            case rel => exact ⟨k + 1, by omega, by go_num, hz2⟩
            case measure => simp [intOf]; omega
      · have E : Hid (r = true) := HG.out fun q hq => hz.out q hq (by omega)
        go_wp2
        go_ret
        exact ⟨Ln.ret_bool E.out.symm, rfl⟩
end Go.Proofs.YtcflomcankcggatDoor
namespace Go.Proofs.YtcflomcankcggatDoor
set_option linter.unusedVariables false
set_option maxRecDepth 100000
/-- The last k digits of a number, the high one first. -/
def lastD (n : Int) : Nat → List Int
  | 0 => []
  | k + 1 => lastD (n / 10) k ++ [n % 10]
theorem lastD_len (n : Int) (k : Nat) : (lastD n k).length = k := by
  induction k generalizing n with
  | zero => rfl
  | succ k ih => simp [lastD, ih]
theorem lastD_dec (n : Int) (k : Nat) : Dec (lastD n k) := by
  induction k generalizing n with
  | zero => intro d hd; cases hd
  | succ k ih =>
    intro d hd
    rcases List.mem_append.1 hd with c | c
    · exact ih _ d c
    · simp at c; omega
theorem lastD_vl (n : Int) (k : Nat) (h0 : 0 ≤ n) (h1 : n < 10 ^ k) : vl (lastD n k) = n := by
  induction k generalizing n with
  | zero => simp at h1; simp [lastD, vl, lv]; omega
  | succ k ih =>
    simp only [lastD]
    rw [vl_snoc, ih (n / 10) (by omega) (by rw [Int.pow_succ] at h1; omega)]
    omega
/-- The digits of a number (below ten to the 500). -/
def nt (n : Int) : List Int := strip (lastD n 500)
theorem nt_spec (n : Int) (h0 : 0 ≤ n) (h1 : n < 10 ^ 500) : Canon (nt n) ∧ vl (nt n) = n := by
  unfold nt
  refine ⟨strip_canon _ (lastD_dec n 500) (by rw [lastD_len]; decide), ?_⟩
  rw [strip_vl]
  exact lastD_vl n 500 h0 h1
theorem nt_of (R : List Int) (n : Int) (h : Canon R) (hv : vl R = n) (hl : R.length ≤ 500) : R = nt n := by
  have b := vl_bd R h.1
  have h1 : n < 10 ^ 500 := by rw [← hv]; exact Int.lt_of_lt_of_le b.2 (pow_mono _ _ hl)
  obtain ⟨c, e⟩ := nt_spec n (by rw [← hv]; exact b.1) h1
  exact canon_unique R (nt n) h c (by rw [hv, e])
/-- The digits of a string. -/
def dl (s : ByteArray) : List Int := s.data.toList.map fun c => (c.toNat : Int) - 48
theorem dl_tx (ds : List Int) (h : Dec ds) : dl (tx ds) = ds := by
  unfold dl
  rw [tx_data]
  simp only [List.map_map]
  have : ∀ d ∈ ds, ((fun c : UInt8 => (c.toNat : Int) - 48) ∘ fun d : Int => UInt8.ofNat (48 + d).toNat) d = d := fun d hd => by
    have b := h d hd
    show ((UInt8.ofNat (48 + d).toNat).toNat : Int) - 48 = d
    rw [UInt8.toNat_ofNat']
    omega
  rw [List.map_congr_left this, List.map_id']
theorem natB_dl (n : Int) (s : ByteArray) (h : natB n s = true) : Canon (dl s) ∧ ((dl s).length : Int) ≤ n ∧ s = tx (dl s) := by
  obtain ⟨ds, hc, hl, hn, rfl⟩ := natB_text n s h
  rw [dl_tx ds hc.1]
  exact ⟨hc, hn, rfl⟩
/-- The number that a string stands for. -/
def nv (s : ByteArray) : Int := vl (dl s)
theorem nv_bd (n : Nat) (s : ByteArray) (h : natB n s = true) : 0 ≤ nv s ∧ nv s < 10 ^ n := by
  obtain ⟨hc, hl, -⟩ := natB_dl n s h
  have b := vl_bd (dl s) hc.1
  exact ⟨b.1, Int.lt_of_lt_of_le b.2 (pow_mono _ _ (by omega))⟩
/-- A text that has at most 200 digits; else nothing. -/
def fitS (L : List Int) : ByteArray := if L.length ≤ 200 then tx L else { data := #[] }
end Go.Proofs.YtcflomcankcggatDoor
