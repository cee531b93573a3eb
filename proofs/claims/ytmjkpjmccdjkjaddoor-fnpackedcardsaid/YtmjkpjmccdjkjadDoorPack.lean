/-
  What LanePack answers, for the program and for its model alike, walked.
-/
import Derived.Test.YtmjkpjmccdjkjadDoorDig
import Derived.Test.YtmjkpjmccdjkjadDoorDigits
namespace Go.Proofs.YtmjkpjmccdjkjadDoor.Ln
/-- The least lane that stands for d under the weighting m + 1. -/
def ff (m : Nat) (d : Int) : Nat := ((List.range 16).find? (fun l : Nat => dig m (l : Int) == d)).getD 0
theorem ff_of (m : Nat) (d : Int) (l : Nat) (hl : l < 16) (h : dig m (l : Int) = d) (hn : ∀ j, j < l → dig m (j : Int) ≠ d) : ff m d = l := by
  unfold ff
  have : (List.range 16).find? (fun l : Nat => dig m (l : Int) == d) = some l := by
    rw [List.find?_range_eq_some]
    refine ⟨by simp [h], by simp [hl], fun j hj => by simp [hn j hj]⟩
  rw [this]; rfl
theorem ff_lt (m : Nat) (d : Int) : ff m d < 16 := by
  unfold ff
  cases h : (List.range 16).find? (fun l : Nat => dig m (l : Int) == d) with
  | none => decide
  | some l => have := List.mem_of_find?_eq_some h; simpa using this
theorem ex_all : ∀ m : Fin 3, ∀ d : Fin 10, ∃ l : Fin 16, dig m.val (l.val : Int) = (d.val : Int) := by decide +kernel
theorem ff_ex (m : Nat) (d : Int) (hm : m < 3) (h0 : 0 ≤ d) (h9 : d ≤ 9) : ∃ l : Nat, l < 16 ∧ dig m (l : Int) = d := by
  obtain ⟨n, rfl⟩ := Int.eq_ofNat_of_zero_le h0
  obtain ⟨l, hl⟩ := ex_all ⟨m, hm⟩ ⟨n, by omega⟩
  exact ⟨l.val, l.isLt, hl⟩
theorem ff_dig (m : Nat) (d : Int) (hm : m < 3) (h0 : 0 ≤ d) (h9 : d ≤ 9) : dig m (ff m d : Int) = d := by
  obtain ⟨l, hl, e⟩ := ff_ex m d hm h0 h9
  unfold ff
  cases h : (List.range 16).find? (fun l : Nat => dig m (l : Int) == d) with
  | none =>
    have := List.find?_eq_none.1 h l (by simp [hl])
    simp [e] at this
  | some k => have := List.find?_some h; simpa using this
/-- The word of a list of digits. -/
def packN (m : Nat) (ds : List Int) : Int := ds.foldl (fun a d => a * 16 + (ff m d : Int)) 0
/-- The word of the first k digits. -/
def pk (m : Nat) (ds : List Int) (k : Nat) : Int := packN m (ds.take k)
theorem pk_zero (m : Nat) (ds : List Int) : pk m ds 0 = 0 := rfl
theorem pk_succ (m : Nat) (ds : List Int) (k : Nat) (h : k < ds.length) : pk m ds (k + 1) = pk m ds k * 16 + (ff m (ds.getD k 0) : Int) := by
  unfold pk packN
  rw [List.take_succ_eq_append_getElem h, List.foldl_append]
  simp [List.getD, h]
theorem pk_all (m : Nat) (ds : List Int) (k : Nat) (h : ds.length ≤ k) : pk m ds k = packN m ds := by
  unfold pk; rw [List.take_of_length_le h]
theorem pk_bd (m : Nat) (ds : List Int) (k : Nat) (h : k ≤ ds.length) : 0 ≤ pk m ds k ∧ pk m ds k < 16 ^ k := by
  induction k with
  | zero => rw [pk_zero]; decide
  | succ k ih =>
    have a := ih (by omega)
    rw [pk_succ m ds k (by omega), Int.pow_succ]
    have b := ff_lt m (ds.getD k 0)
    omega
theorem pk_room (m : Nat) (ds : List Int) (k : Nat) (h : k < ds.length) (h16 : ds.length ≤ 16) : 0 ≤ pk m ds k ∧ pk m ds k ≤ 1152921504606846975 := by
  have a := pk_bd m ds k (by omega)
  have b : (16 : Int) ^ k ≤ 16 ^ 15 := by
    rcases Nat.lt_or_ge k 15 with h | h
    · exact Int.le_of_lt (Int.pow_lt_pow_of_lt (by decide) h)
    · rw [show k = 15 by omega]; exact Int.le_refl _
  have c : (16 : Int) ^ 15 = 1152921504606846976 := by decide
  omega
theorem or16 (a : Int) (b : Nat) (h0 : 0 ≤ a) (h1 : a ≤ 1152921504606846975) (hb : b < 16) : bits .or .u64 (a * 16) (b : Int) = a * 16 + b := by
  obtain ⟨n, rfl⟩ := Int.eq_ofNat_of_zero_le h0
  have := bits_or_u64_nat (n * 16) b (by omega) (by omega)
  rw [Int.natCast_mul] at this
  rw [show ((16 : Nat) : Int) = 16 from rfl] at this
  rw [this]
  have e := Nat.shiftLeft_add_eq_or_of_lt (show b < 2 ^ 4 by omega) n
  rw [Nat.shiftLeft_eq] at e
  rw [show (2 : Nat) ^ 4 = 16 from rfl] at e
  rw [← e]
  simp
/-- May the list be packed? -/
def okDs (ds : List Int) : Bool := decide (ds.length ≤ 16) && ds.all fun d => decide (0 ≤ d) && decide (d ≤ 9)
theorem okDs_yes (ds : List Int) (h16 : ds.length ≤ 16) (h : ∀ i, i < ds.length → 0 ≤ ds.getD i 0 ∧ ds.getD i 0 ≤ 9) : okDs ds = true := by
  unfold okDs
  rw [Bool.and_eq_true, List.all_eq_true]
  refine ⟨by simpa using h16, fun d hd => ?_⟩
  obtain ⟨i, hi, rfl⟩ := List.getElem_of_mem hd
  have := h i hi
  simp [List.getD, hi] at this
  simp [this]
theorem okDs_at (ds : List Int) (h : okDs ds = true) (i : Nat) (hi : i < ds.length) : 0 ≤ ds.getD i 0 ∧ ds.getD i 0 ≤ 9 := by
  unfold okDs at h
  rw [Bool.and_eq_true, List.all_eq_true] at h
  have := h.2 (ds[i]) (List.getElem_mem hi)
  simpa [List.getD, hi] using this
theorem okDs_len (ds : List Int) (h : okDs ds = true) : ds.length ≤ 16 := by
  unfold okDs at h; simp at h; exact h.1
theorem okDs_long (ds : List Int) (h : 16 < ds.length) : okDs ds = false := by
  unfold okDs; simp; omega
theorem okDs_no (ds : List Int) (i : Nat) (hi : i < ds.length) (h : ds.getD i 0 < 0 ∨ 9 < ds.getD i 0) : okDs ds = false := by
  cases e : okDs ds with
  | false => rfl
  | true => have := okDs_at ds e i hi; omega
def packV (m : Nat) (ds : List Int) : Int := if okDs ds then packN m ds else 0
end Go.Proofs.YtmjkpjmccdjkjadDoor.Ln
namespace Go.Proofs.YtmjkpjmccdjkjadDoor
open Go.RowKit
set_option linter.unusedVariables false
set_option maxRecDepth 100000

/-- The program's firstForm. -/
theorem firstForm_any (m : Nat) (d : Int) (w : World) (ht : Tab w) (hm : m < 3) (h0 : 0 ≤ d) (h9 : d ≤ 9) :
    Calls Tryd.prog 78 #[.int .i64 ((m : Int) + 1), .int .i64 d] w fun e w' => e = .returned (.int .u64 (Ln.ff m d)) ∧ w' = w := by
  obtain ⟨l0, hl0, he0⟩ := Ln.ff_ex m d hm h0 h9
  have He : Hid (Ln.dig m (l0 : Int) = d) := he0
  clear he0
  go_enter Tryd.func78, Tryd.ntmps78
  go_wp2
  go_loop [5] (fun i => ∃ k : Nat, k ≤ 15 ∧ i = .int .u64 k ∧ Hid (∀ j : Nat, j < k → Ln.dig m (j : Int) ≠ d)) (fun i => 15 - (intOf i).toNat)
  case atStart => exact ⟨0, Nat.zero_le _, rfl, fun j hj => absurd hj (Nat.not_lt_zero j)⟩
  case round =>
    obtain ⟨k, hk, rfl, hz⟩ := hrel
    by_cases hlt : k < 15
    · have hlt' : (k : Int) < 15 := by omega
      by_cases hd : Ln.dig m (k : Int) = d
      · have hb : (Ln.dig m (k : Int) != d) = false := by simp [hd]
        have Hd : Hid (Ln.dig m (k : Int) = d) := hd
        clear hd
        go_wp2_with fail
        refine (laneValue_any m _ _ ht hm (by omega) (by omega)).mono ?_
        rintro e w' ⟨rfl, rfl⟩
        go_wp2
        go_ret
        exact ⟨Ln.ret_int (by rw [Ln.ff_of m d k (by omega) Hd.out hz.out]), rfl⟩
      · have hb : (Ln.dig m (k : Int) != d) = true := by simp [hd]
        have Hd : Hid (Ln.dig m (k : Int) ≠ d) := hd
        clear hd
        go_wp2_with fail
        refine (laneValue_any m _ _ ht hm (by omega) (by omega)).mono ?_
        rintro e w' ⟨rfl, rfl⟩
        go_wp2
        go_round
        case rel => exact ⟨k + 1, by omega, by go_num, fun j hj => by rcases Nat.lt_or_ge j k with h | h; exact hz.out j h; rw [show j = k by omega]; exact Hd.out⟩
        case measure => simp [intOf]; omega
    · have hd : decide ((k : Int) < 15) = false := by simp; omega
      go_wp2
      go_ret
      refine ⟨Ln.ret_int ?_, rfl⟩
      have e : l0 = k := by
        rcases Nat.lt_or_ge l0 k with h | h
        · exact absurd He.out (hz.out l0 h)
        · omega
      rw [Ln.ff_of m d k (by omega) (by rw [← e]; exact He.out) hz.out]
/-- The program's LanePack at one of the three weightings. -/
theorem ipack_any (m : Nat) (v : Value) (ds : List Int) (base : Nat) (w : World) (ht : Tab w) (hm : m < 3) (h : Has w base v ds) :
    Calls Tryd.prog 67 #[.int .i64 ((m : Int) + 1), v] w fun e w' => e = .returned (.tuple #[.int .u64 (Ln.packV m ds), .bool (Ln.okDs ds)]) ∧ w' = w := by
  rcases Nat.lt_or_ge 16 ds.length with hl | hl
  · obtain ⟨a, cap, rfl, hmx⟩ := h.len
    have hd : (16 : Int) < (ds.length : Int) := by omega
    have e := Ln.okDs_long ds hl
    have E : Hid (Ln.okDs ds = false) := e
    clear h e
    go_enter Tryd.func67, Tryd.ntmps67
    go_wp2_with fail
    refine (isWeighting_yes m _ hm).mono ?_
    rintro e w' ⟨rfl, rfl⟩
    go_wp2
    go_ret2
    exact ⟨by unfold Ln.packV; rw [E.out]; rfl, rfl⟩
  · rcases h.form with ⟨rfl, rfl⟩ | ⟨g, ca, rfl, hgb, hgl, hmx, hca, hfz⟩
    · clear h hl
      go_enter Tryd.func67, Tryd.ntmps67
      go_wp2_with fail
      refine (isWeighting_yes m _ hm).mono ?_
      rintro e w' ⟨rfl, rfl⟩
      go_wp2
      go_loop [6, 19] (fun a i => i = .int .i64 0 ∧ a = .int .u64 0) (fun _ _ => 0)
      case atStart => exact ⟨rfl, rfl⟩
      case round =>
        obtain ⟨rfl, rfl⟩ := hrel
        go_wp2
        go_ret2
        exact ⟨rfl, rfl⟩
    · have Hc : Hid (∀ i, i < ds.length → w.cell? ⟨g, i, none⟩ = some (.int .i64 (ds.getD i 0))) := hca
      have hd : ¬ (16 : Int) < (ds.length : Int) := by omega
      clear h hca hfz
      go_enter Tryd.func67, Tryd.ntmps67
      go_wp2_with fail
      refine (isWeighting_yes m _ hm).mono ?_
      rintro e w' ⟨rfl, rfl⟩
      go_wp2
      go_loop [6, 19] (fun a i => ∃ k : Nat, k ≤ ds.length ∧ i = .int .i64 k ∧ a = .int .u64 (Ln.pk m ds k) ∧ Hid (∀ j, j < k → 0 ≤ ds.getD j 0 ∧ ds.getD j 0 ≤ 9)) (fun _ i => ds.length - (intOf i).toNat)
      case atStart => exact ⟨0, Nat.zero_le _, rfl, rfl, fun j hj => absurd hj (Nat.not_lt_zero j)⟩
      case round =>
        obtain ⟨k, hk, rfl, rfl, hz⟩ := hrel
        by_cases hlt : k < ds.length
        · have hc := Hc.out k hlt
          have hlt' : (k : Int) < (ds.length : Int) := by omega
          have hN : Hid (∀ i, i < ds.length → (ds.getD i 0 < 0 ∨ 9 < ds.getD i 0) → Ln.okDs ds = false) := fun i hi hx => Ln.okDs_no ds i hi hx
          have hP : Hid (Ln.pk m ds (k + 1) = Ln.pk m ds k * 16 + (Ln.ff m (ds.getD k 0) : Int)) := Ln.pk_succ m ds k hlt
          have hrm := Ln.pk_room m ds k hlt hl
          obtain ⟨d, hdd⟩ : ∃ d, d = ds.getD k 0 := ⟨_, rfl⟩
          rw [← hdd] at hc
          have Hd : Hid (d = ds.getD k 0) := hdd
          clear hdd
          by_cases h0 : d < 0
          · go_wp2
            go_ret2
            have E := hN.out k hlt (by rw [← Hd.out]; exact .inl h0)
            exact ⟨by unfold Ln.packV; rw [E]; rfl, rfl⟩
          · have h0' : decide (d < 0) = false := by simpa using h0
            by_cases h9 : 9 < d
            · go_wp2
              go_ret2
              have E := hN.out k hlt (by rw [← Hd.out]; exact .inr h9)
              exact ⟨by unfold Ln.packV; rw [E]; rfl, rfl⟩
            · have hfl := Ln.ff_lt m d
              have hor := Ln.or16 (Ln.pk m ds k) (Ln.ff m d) hrm.1 hrm.2 hfl
              go_wp2_with fail
              refine (firstForm_any m d _ ht hm (by omega) (by omega)).mono ?_
              rintro e w' ⟨rfl, rfl⟩
              go_wp2
              go_round
              case rel => exact ⟨k + 1, by omega, by go_num, Ln.val_int (by rw [hP.out, ← Hd.out]), fun j hj => by rcases Nat.lt_or_ge j k with h | h; exact hz.out j h; rw [show j = k by omega, ← Hd.out]; omega⟩
              case measure => simp [intOf]; omega
        · go_wp2
          go_ret2
          have E := Ln.okDs_yes ds hl (fun i hi => hz.out i (by omega))
          exact ⟨by unfold Ln.packV; rw [E, if_pos rfl, Ln.pk_all m ds k (by omega)]; rfl, rfl⟩
end Go.Proofs.YtmjkpjmccdjkjadDoor
