/-
  The program's parts of rounding, walked: digits split, odd ones, what is cut off held against a half, one more.
-/
import Derived.Test.YtdkpiofeidcffaaGreatDoorRnd2
import Derived.Test.YtdkpiofeidcffaaGreatDoorNatS
import Derived.Lib.TrimByte
import Derived.Lib.Bytealg
import Derived.Lib.Repeat
import Derived.Test.YtdkpiofeidcffaaGreatDoorShf
import Derived.Test.YtdkpiofeidcffaaGreatDoorNaz
import Derived.BigQuiet
namespace Go.Proofs.YtdkpiofeidcffaaGreatDoor
open Go.RowKit
set_option linter.unusedVariables false
set_option maxRecDepth 100000
theorem dw_all (c : UInt8) (l : List UInt8) (h : ∀ b ∈ l, b = c) : l.dropWhile (· == c) = [] := by
  induction l with
  | nil => rfl
  | cons x r ih =>
    have hx := h x List.mem_cons_self
    subst hx
    rw [List.dropWhile_cons_of_pos (by simp)]
    exact ih fun b hb => h b (List.mem_cons_of_mem _ hb)
theorem dw_some (c : UInt8) (l : List UInt8) (h : ∃ b ∈ l, b ≠ c) : ∃ x r, l.dropWhile (· == c) = x :: r ∧ x ≠ c := by
  induction l with
  | nil => obtain ⟨b, hb, _⟩ := h; cases hb
  | cons x r ih =>
    by_cases hx : x = c
    · subst hx
      rw [List.dropWhile_cons_of_pos (by simp)]
      obtain ⟨b, hb, hn⟩ := h
      rcases List.mem_cons.1 hb with e | e
      · exact absurd e hn
      · exact ih ⟨b, e, hn⟩
    · exact ⟨x, r, List.dropWhile_cons_of_neg (by simpa using hx), hx⟩
theorem trim_all (l : List UInt8) (c : UInt8) (h : ∀ b ∈ l, b = c) : Lib.trimB l c = [] := by
  unfold Lib.trimB Lib.trimLeftB Lib.trimRightB
  rw [dw_all c l.reverse fun b hb => h b (List.mem_reverse.1 hb)]
  rfl
theorem trim_some (l : List UInt8) (c : UInt8) (h : ∃ b ∈ l, b ≠ c) : Lib.trimB l c ≠ [] := by
  unfold Lib.trimB Lib.trimLeftB Lib.trimRightB
  obtain ⟨b, hb, hn⟩ := h
  obtain ⟨x, r, e, hx⟩ := dw_some c l.reverse ⟨b, List.mem_reverse.2 hb, hn⟩
  rw [e]
  obtain ⟨y, q, e2, _⟩ := dw_some c (x :: r).reverse ⟨x, List.mem_reverse.2 List.mem_cons_self, hx⟩
  rw [e2]
  exact List.cons_ne_nil _ _
/-- The bytes of a text of digits. -/
theorem tx_bytes (ds : List Int) : (tx ds).data.toList = ds.map fun d => UInt8.ofNat (48 + d).toNat := by rw [tx_data]
theorem dig_byte (d : Int) (h : 0 ≤ d ∧ d ≤ 9) : (UInt8.ofNat (48 + d).toNat).toNat = (48 + d).toNat := by
  rw [UInt8.toNat_ofNat']; omega
theorem dig_byte_eq (d e : Int) (h : 0 ≤ d ∧ d ≤ 9) (h' : 0 ≤ e ∧ e ≤ 9) : (UInt8.ofNat (48 + d).toNat = UInt8.ofNat (48 + e).toNat) ↔ d = e := by
  refine ⟨fun q => ?_, fun q => by rw [q]⟩
  have := congrArg UInt8.toNat q
  rw [dig_byte d h, dig_byte e h'] at this
  omega
/-- All digits are c. -/
theorem trimTx_all (ds : List Int) (c : Int) (h : ∀ d ∈ ds, d = c) : (⟨(Lib.trimB (tx ds).data.toList (UInt8.ofNat (48 + c).toNat)).toArray⟩ : ByteArray) = { data := #[] } := by
  rw [trim_all _ _ fun b hb => by
    rw [tx_bytes] at hb
    obtain ⟨d, hd, rfl⟩ := List.mem_map.1 hb
    rw [h d hd]]
theorem trimTx_some (ds : List Int) (c : Int) (hD : Dec ds) (hc : 0 ≤ c ∧ c ≤ 9) (h : ¬ ∀ d ∈ ds, d = c) : (⟨(Lib.trimB (tx ds).data.toList (UInt8.ofNat (48 + c).toNat)).toArray⟩ : ByteArray).toList.isEmpty = false := by
  rw [ByteArray.toList_eq]
  show (Lib.trimB (tx ds).data.toList (UInt8.ofNat (48 + c).toNat)).isEmpty = false
  rw [List.isEmpty_eq_false_iff]
  intro q2
  refine trim_some _ _ ?_ q2
  rw [tx_bytes]
  apply Classical.byContradiction
  intro hn
  refine h fun d hd => ?_
  apply Classical.byContradiction
  intro hne
  exact hn ⟨_, List.mem_map.2 ⟨d, hd, rfl⟩, fun e => hne ((dig_byte_eq d c (hD d hd) hc).1 e)⟩
/-- As many digits each: the order of the texts is that of the numbers. -/
theorem cmp_tx (a b : List Int) (ha : Dec a) (hb : Dec b) (hl : a.length = b.length) : Lib.compareBytes (tx a).data.toList (tx b).data.toList = if vl a < vl b then -1 else if vl a = vl b then 0 else 1 := by
  rw [tx_bytes, tx_bytes]
  induction a generalizing b with
  | nil =>
    cases b with
    | nil => rfl
    | cons y s => cases hl
  | cons x r ih =>
    cases b with
    | nil => cases hl
    | cons y s =>
      have hl' : r.length = s.length := by simpa using hl
      have hr : Dec r := fun d hd => ha d (List.mem_cons_of_mem _ hd)
      have hs : Dec s := fun d hd => hb d (List.mem_cons_of_mem _ hd)
      have hx := ha x List.mem_cons_self
      have hy := hb y List.mem_cons_self
      have b1 := vl_bd r hr
      have b2 := vl_bd s hs
      rw [List.map_cons, List.map_cons]
      show (if UInt8.ofNat (48 + x).toNat < UInt8.ofNat (48 + y).toNat then (-1 : Int) else if UInt8.ofNat (48 + y).toNat < UInt8.ofNat (48 + x).toNat then 1 else Lib.compareBytes _ _) = _
      rw [ih s hr hs hl', vl_cons, vl_cons]
      rw [← hl'] at b2 ⊢
      have hp : (0 : Int) < 10 ^ r.length := Int.pow_pos (by decide)
      generalize (10 : Int) ^ r.length = m at *
      generalize vl r = u at *
      generalize vl s = v at *
      have l1 : (UInt8.ofNat (48 + x).toNat < UInt8.ofNat (48 + y).toNat) ↔ x < y := by
        rw [UInt8.lt_iff_toNat_lt, dig_byte x hx, dig_byte y hy]; omega
      have l2 : (UInt8.ofNat (48 + y).toNat < UInt8.ofNat (48 + x).toNat) ↔ y < x := by
        rw [UInt8.lt_iff_toNat_lt, dig_byte x hx, dig_byte y hy]; omega
      by_cases c1 : x < y
      · rw [if_pos (l1.2 c1)]
        have : m * (x + 1) ≤ m * y := Int.mul_le_mul_of_nonneg_left (by omega) (by omega)
        rw [Int.mul_add] at this
        rw [if_pos (by omega)]
      · rw [if_neg fun h => c1 (l1.1 h)]
        by_cases c2 : y < x
        · rw [if_pos (l2.2 c2)]
          have : m * (y + 1) ≤ m * x := Int.mul_le_mul_of_nonneg_left (by omega) (by omega)
          rw [Int.mul_add] at this
          rw [if_neg (by omega), if_neg (by omega)]
        · rw [if_neg fun h => c2 (l2.1 h)]
          obtain rfl : x = y := by omega
          simp only [show (u + m * x < v + m * x) = (u < v) from propext ⟨fun h => by omega, fun h => by omega⟩, show (u + m * x = v + m * x) = (u = v) from propext ⟨fun h => by omega, fun h => by omega⟩]
/-- What was cut off, held against a half: nothing, less, a half, more. -/
def prt (r m : Int) (rest : Bool) : Int := if r = 0 then (if rest then 1 else 0) else if 2 * r < m then 1 else if 2 * r = m ∧ rest = false then 2 else 3
/-- A mode's word. -/
def grw (mode : Int) (neg od : Bool) (p : Int) : Bool :=
  if mode = 1 then decide (p = 3) || (decide (p = 2) && od) else if mode = 3 then neg && decide (p ≠ 0) else if mode = 4 then !neg && decide (p ≠ 0) else if mode = 5 then decide (2 ≤ p) else false
theorem prt_lost (v : Int) (k : Nat) (rest : Bool) : decide (prt (v % 10 ^ k) (10 ^ k) rest ≠ 0) = rndL v k rest := by
  unfold prt rndL
  by_cases h : v % 10 ^ k = 0
  · rw [if_pos h, h]; cases rest <;> rfl
  · rw [if_neg h, decide_eq_true h, Bool.or_true]
    refine decide_eq_true ?_
    split
    · decide
    · split <;> decide
theorem prt_half (v : Int) (k : Nat) (rest : Bool) :
    decide (prt (v % 10 ^ k) (10 ^ k) rest = 3) = decide (0 < halfI (v % 10 ^ k) (10 ^ k) rest k) ∧ decide (prt (v % 10 ^ k) (10 ^ k) rest = 2) = decide (halfI (v % 10 ^ k) (10 ^ k) rest k = 0)
      ∧ decide (2 ≤ prt (v % 10 ^ k) (10 ^ k) rest) = decide (0 ≤ halfI (v % 10 ^ k) (10 ^ k) rest k) := by
  have hp : (0 : Int) < 10 ^ k := Int.pow_pos (by decide)
  by_cases hk : k = 0
  · subst hk
    have : v % 10 ^ 0 = 0 := by rw [Int.pow_zero]; omega
    unfold prt halfI
    rw [if_pos this, if_pos rfl]
    cases rest <;> decide
  · unfold prt halfI
    rw [if_neg hk]
    generalize (10 : Int) ^ k = m at *
    generalize v % m = r at *
    by_cases h0 : r = 0
    · subst h0
      rw [if_pos rfl, if_pos (show 2 * (0 : Int) < m by omega)]
      cases rest <;> decide
    · rw [if_neg h0]
      by_cases h1 : 2 * r < m
      · rw [if_pos h1, if_pos h1]; decide
      · rw [if_neg h1, if_neg h1]
        by_cases h2 : 2 * r = m ∧ rest = false
        · rw [if_pos h2, if_pos h2]; decide
        · rw [if_neg h2, if_neg h2]; decide
theorem grw_up (mode : Int) (neg : Bool) (v : Int) (k : Nat) (rest : Bool) :
    grw mode neg (decide ((v / 10 ^ k) % 2 = 1)) (prt (v % 10 ^ k) (10 ^ k) rest) = rndU mode neg v k rest := by
  unfold rndU upB upO grw
  obtain ⟨a, b, c⟩ := prt_half v k rest
  rw [prt_lost, a, b, c, Bool.and_comm neg, Bool.and_comm (!neg)]
/-- What is kept of a canonical list is canonical. -/
theorem kept_canon (ds : List Int) (h : Canon ds) (k n : Nat) (hn : (zpad (k + 1) ds).length = n + k) : Canon ((zpad (k + 1) ds).take n) := by
  have hlen := zpad_len (k + 1) ds
  have hd := zpad_dec (k + 1) ds h.1
  by_cases hk : ds.length ≤ k
  · obtain rfl : n = 1 := by omega
    unfold zpad
    rw [show k + 1 - ds.length = (k - ds.length) + 1 by omega, List.replicate_succ, List.cons_append, List.take_succ_cons, List.take_zero]
    exact canon_one 0 (by decide) (by decide)
  · have e : zpad (k + 1) ds = ds := by unfold zpad; rw [show k + 1 - ds.length = 0 by omega]; rfl
    rw [e] at hn hd ⊢
    refine ⟨fun d hq => hd d (List.mem_of_mem_take hq), by rw [List.length_take]; omega, ?_⟩
    by_cases h1 : n = 1
    · left; rw [List.length_take]; omega
    · right
      rcases h.2.2 with c | c
      · omega
      · cases ds with
        | nil => exact absurd h.2.1 (by decide)
        | cons x r =>
          obtain ⟨m, rfl⟩ : ∃ m, n = m + 1 := ⟨n - 1, by omega⟩
          exact c
/-- Nines and one more. -/
theorem nines_vl (L : List Int) (h : ∀ d ∈ L, d = 9) : vl L + 1 = 10 ^ L.length := by
  induction L with
  | nil => rfl
  | cons x r ih =>
    have := ih fun d hd => h d (List.mem_cons_of_mem _ hd)
    rw [vl_cons, h x List.mem_cons_self, List.length_cons, Int.pow_succ]
    omega
theorem not_nines_vl (L : List Int) (hD : Dec L) (h : ¬ ∀ d ∈ L, d = 9) : vl L + 1 < 10 ^ L.length := by
  induction L with
  | nil => exact absurd (fun d hd => by cases hd) h
  | cons x r ih =>
    have hr : Dec r := fun d hd => hD d (List.mem_cons_of_mem _ hd)
    have hx := hD x List.mem_cons_self
    have b := vl_bd r hr
    have hp : (0 : Int) < 10 ^ r.length := Int.pow_pos (by decide)
    rw [vl_cons, List.length_cons, Int.pow_succ]
    by_cases h9 : x = 9
    · subst h9
      have := ih hr fun q => h fun d hd => by
        rcases List.mem_cons.1 hd with e | e
        · exact e
        · exact q d e
      omega
    · have : 10 ^ r.length * (x + 1) ≤ 10 ^ r.length * 9 := Int.mul_le_mul_of_nonneg_left (by omega) (by omega)
      rw [Int.mul_add] at this
      generalize (10 : Int) ^ r.length * x = q at *
      omega
theorem vl_ten (n : Nat) : vl (1 :: List.replicate n 0) = 10 ^ n := by
  have := vl_noughts_ahead n []
  rw [List.append_nil] at this
  rw [vl_cons, List.length_replicate, this]
  show (0 : Int) + _ = _
  omega
theorem ten_canon (n : Nat) : Canon (1 :: List.replicate n 0) := by
  refine ⟨fun d hd => ?_, by simp, .inr (by show (1 : Int) ≠ 0; decide)⟩
  rcases List.mem_cons.1 hd with e | e
  · omega
  · have := (List.mem_replicate.1 e).2; omega
/-- Copies of the text of a nought. -/
theorem rep_tx (n : Nat) : (⟨(Lib.repeatL [48] n).toArray⟩ : ByteArray) = tx (List.replicate n 0) := by
  have e : ∀ n, Lib.repeatL [48] n = List.replicate n 48 := fun n => by
    have := Lib.repeatL_replicate 48 1 n
    rw [Nat.mul_one] at this
    exact this
  apply ByteArray.ext
  rw [tx_data, e]
  simp
/-- One more, by texts. -/
theorem addS_one (L : List Int) (h : Canon L) (hl : L.length ≤ 200) (hn : ¬ ∀ d ∈ L, d = 9) : addS (tx L) { data := #[49] } = tx (nt (vl L + 1)) := by
  have b := not_nines_vl L h.1 hn
  have v0 := vl_bd L h.1
  have e1 : ({ data := #[49] } : ByteArray) = tx [1] := tx_1.symm
  have n1 := natB_tx 200 L h (by omega)
  have n2 := natB_tx 200 [1] (canon_one 1 (by decide) (by decide)) (by decide)
  have d1 : nv (tx L) = vl L := by
    obtain ⟨hc, hl2, he⟩ := natB_dl 200 (tx L) n1
    have : dl (tx L) = L := by
      unfold dl
      rw [tx_bytes, List.map_map]
      refine (List.map_congr_left fun d hd => ?_).trans (List.map_id' L)
      have := h.1 d hd
      show (((UInt8.ofNat (48 + d).toNat).toNat : Int)) - 48 = d
      rw [dig_byte d this]; omega
    unfold nv; rw [this]
  have d2 : nv (tx [1]) = 1 := by decide +kernel
  unfold addS
  rw [e1, d1, d2]
  have ho : ok2 (tx L) (tx [1]) = true := by unfold ok2; rw [n1, n2]; rfl
  rw [ho, if_pos rfl]
  unfold fitS
  have hp : (10 : Int) ^ L.length ≤ 10 ^ 200 := by exact_mod_cast (Nat.pow_le_pow_right (by decide) hl : 10 ^ L.length ≤ 10 ^ 200)
  have hp2 : (10 : Int) ^ 200 ≤ 10 ^ 500 := by decide +kernel
  have s := nt_spec (vl L + 1) (by omega) (by omega)
  rw [if_pos (canon_le _ s.1 200 (by decide) (by rw [s.2]; omega))]
end Go.Proofs.YtdkpiofeidcffaaGreatDoor
namespace Go.Proofs.YtdkpiofeidcffaaGreatDoor
open Go.RowKit
set_option linter.unusedVariables false
set_option maxRecDepth 100000
theorem all0_vl (G : List Int) (h : Dec G) : (∀ d ∈ G, d = 0) ↔ vl G = 0 := by
  have s := some1_vl G h
  unfold some1 at s
  refine ⟨fun q => ?_, fun q => fun d hd => ?_⟩
  · apply Classical.byContradiction
    intro hn
    rw [decide_eq_true hn] at s
    obtain ⟨d, hd, hx⟩ := List.any_eq_true.1 s
    rw [q d hd] at hx
    cases hx
  · rw [decide_eq_false (by simpa using q)] at s
    have := List.any_eq_false.1 s d hd
    simpa using this
theorem trim0_yes (G : List Int) (h : ∀ d ∈ G, d = 0) (hl : G.length ≤ 600) (w : World) :
    Calls Tryz.prog 121 #[.string (tx G), .string { data := #[48] }] w fun e w' => e = .returned (.string { data := #[] }) ∧ Below w.heap.size w w' := by
  have := Tryz.strings_Trim_one (tx G) 48 (by decide) w (by rw [tx_size]; omega)
  rw [show (48 : UInt8) = UInt8.ofNat (48 + (0 : Int)).toNat from rfl, trimTx_all G 0 h] at this
  refine this.mono ?_
  rintro e w' ⟨rfl, rfl | rfl⟩
  · exact ⟨rfl, Below.refl _ _⟩
  · exact ⟨rfl, (Below.refl _ _).drew⟩
theorem trim0_no (G : List Int) (hD : Dec G) (h : ¬ ∀ d ∈ G, d = 0) (hl : G.length ≤ 600) (w : World) :
    Calls Tryz.prog 121 #[.string (tx G), .string { data := #[48] }] w fun e w' => ∃ T : ByteArray, T.toList.isEmpty = false ∧ e = .returned (.string T) ∧ Below w.heap.size w w' := by
  have := Tryz.strings_Trim_one (tx G) 48 (by decide) w (by rw [tx_size]; omega)
  have hT := trimTx_some G 0 hD (by decide) h
  refine this.mono ?_
  rintro e w' ⟨rfl, rfl | rfl⟩
  · exact ⟨_, hT, rfl, Below.refl _ _⟩
  · exact ⟨_, hT, rfl, (Below.refl _ _).drew⟩
theorem trim9_yes (G : List Int) (h : ∀ d ∈ G, d = 9) (hl : G.length ≤ 600) (w : World) :
    Calls Tryz.prog 121 #[.string (tx G), .string { data := #[57] }] w fun e w' => e = .returned (.string { data := #[] }) ∧ Below w.heap.size w w' := by
  have := Tryz.strings_Trim_one (tx G) 57 (by decide) w (by rw [tx_size]; omega)
  rw [show (57 : UInt8) = UInt8.ofNat (48 + (9 : Int)).toNat from rfl, trimTx_all G 9 h] at this
  refine this.mono ?_
  rintro e w' ⟨rfl, rfl | rfl⟩
  · exact ⟨rfl, Below.refl _ _⟩
  · exact ⟨rfl, (Below.refl _ _).drew⟩
theorem trim9_no (G : List Int) (hD : Dec G) (h : ¬ ∀ d ∈ G, d = 9) (hl : G.length ≤ 600) (w : World) :
    Calls Tryz.prog 121 #[.string (tx G), .string { data := #[57] }] w fun e w' => ∃ T : ByteArray, T.toList.isEmpty = false ∧ e = .returned (.string T) ∧ Below w.heap.size w w' := by
  have := Tryz.strings_Trim_one (tx G) 57 (by decide) w (by rw [tx_size]; omega)
  have hT := trimTx_some G 9 hD (by decide) h
  refine this.mono ?_
  rintro e w' ⟨rfl, rfl | rfl⟩
  · exact ⟨_, hT, rfl, Below.refl _ _⟩
  · exact ⟨_, hT, rfl, (Below.refl _ _).drew⟩
theorem rep0_any (n : Nat) (hn : n ≤ 600) (w : World) :
    Calls Tryz.prog 74 #[.string { data := #[48] }, .int .i64 n] w fun e w' => e = .returned (.string (tx (List.replicate n 0))) ∧ Below w.heap.size w w' := by
  have := Tryz.strings_Repeat { data := #[48] } n w (by omega) (by show 1 * n ≤ _; omega)
  rw [show ({ data := #[48] } : ByteArray).data.toList = [48] from rfl, rep_tx] at this
  exact this
theorem iOdd_any (L : List Int) (hD : Dec L) (hp : 0 < L.length) (hl : L.length ≤ 600) (w : World) :
    Calls Tryz.prog 103 #[.string (tx L)] w fun e w' => e = .returned (.bool (decide (vl L % 2 = 1))) ∧ w' = w := by
  have hz := tx_size L
  have hs1 : L.length - 1 < (tx L).size := by omega
  have za := tx_at L hD (L.length - 1) hs1
  have zd := dec_at L hD (L.length - 1)
  have HM : Hid (vl L % 2 = L.getD (L.length - 1) 0 % 2) := vl_mod2 L hD hp
  generalize L.getD (L.length - 1) 0 = dd at *
  have a0 : IntKind.u8.wrap ((((tx L)[L.length - 1]'hs1).toNat : Int) - 48) = dd := by rw [IntKind.wrap_u8, za]; omega
  have a1 : Int.tmod dd 2 = dd % 2 := Int.tmod_eq_emod_of_nonneg zd.1
  have a2 : IntKind.u8.wrap (dd % 2) = dd % 2 := by rw [IntKind.wrap_u8]; omega
  have a3 : IntKind.i64.wrap ((L.length : Int) - 1) = (L.length : Int) - 1 := by rw [IntKind.wrap_i64]; omega
  have a4 : (0 : Int) ≤ (L.length : Int) - 1 := by omega
  have a5 : (L.length : Int) - 1 < (L.length : Int) := by omega
  have a6 : ((L.length : Int) - 1).toNat = L.length - 1 := by omega
  rw [HM.out]
  clear za zd HM
  go_enter Tryz.func103, Tryz.ntmps103
  go_wp2
  go_ret
  exact ⟨rfl, rfl⟩
theorem iPart_any (G : List Int) (rest : Bool) (hD : Dec G) (hl : G.length ≤ 500) (w : World) :
    Calls Tryz.prog 104 #[.string (tx G), .bool rest] w fun e w' => e = .returned (.int .i64 (prt (vl G) (10 ^ G.length) rest)) ∧ Below w.heap.size w w' := by
  by_cases h0 : ∀ d ∈ G, d = 0
  · have hv := (all0_vl G hD).1 h0
    have HE : Hid (prt (vl G) (10 ^ G.length) rest = if rest then 1 else 0) := by show _ = _; unfold prt; rw [if_pos hv]
    have HT : Hid (∀ X, Calls Tryz.prog 121 #[.string (tx G), .string { data := #[48] }] X fun e w' => e = .returned (.string { data := #[] }) ∧ Below X.heap.size X w') := fun X => trim0_yes G h0 (by omega) X
    rw [HE.out]
    clear hv HE h0 hD
    cases rest
    all_goals
      go_enter Tryz.func104, Tryz.ntmps104
      go_wp2_with fail
      refine (HT.out _).mono ?_
      rintro e w1 ⟨rfl, hb⟩
      go_wp2
      go_ret
      exact ⟨rfl, hb⟩
  · have hv : vl G ≠ 0 := fun q => h0 ((all0_vl G hD).2 q)
    obtain ⟨n, hn⟩ : ∃ n, G.length = n + 1 := ⟨G.length - 1, by
      cases G with
      | nil => exact absurd (fun d hd => by cases hd) h0
      | cons x r => simp⟩
    have HT : Hid (∀ X, Calls Tryz.prog 121 #[.string (tx G), .string { data := #[48] }] X fun e w' => ∃ T : ByteArray, T.toList.isEmpty = false ∧ e = .returned (.string T) ∧ Below X.heap.size X w') := fun X => trim0_no G hD h0 (by omega) X
    have HR : Hid (∀ X, Calls Tryz.prog 74 #[.string { data := #[48] }, .int .i64 n] X fun e w' => e = .returned (.string (tx (List.replicate n 0))) ∧ Below X.heap.size X w') := fun X => rep0_any n (by omega) X
    have hap : ({ data := #[53] } : ByteArray) ++ tx (List.replicate n 0) = tx (5 :: List.replicate n 0) := by
      have : ({ data := #[53] } : ByteArray) = tx [5] := by apply ByteArray.ext; rw [tx_data]; rfl
      rw [this, tx_append]; rfl
    have hH : Dec (5 :: List.replicate n 0) := fun d hd => by
      rcases List.mem_cons.1 hd with e | e
      · omega
      · have := (List.mem_replicate.1 e).2; omega
    have hHv : vl (5 :: List.replicate n 0) * 2 = 10 ^ G.length := by
      have := vl_noughts_ahead n []
      rw [List.append_nil] at this
      rw [vl_cons, List.length_replicate, this, hn, Int.pow_succ]
      show ((0 : Int) + _) * 2 = _
      omega
    have hcm := cmp_tx G (5 :: List.replicate n 0) hD hH (by rw [List.length_cons, List.length_replicate, hn])
    have HCm : Hid (∀ X, Calls Tryz.prog 122 #[.string (tx G), .string (tx (5 :: List.replicate n 0))] X fun e w' => e = .returned (.int .i64 (if vl G < vl (5 :: List.replicate n 0) then -1 else if vl G = vl (5 :: List.replicate n 0) then 0 else 1)) ∧ w' = X) := fun X => by
      have := Tryz.strings_Compare (tx G) (tx (5 :: List.replicate n 0)) X
      rw [hcm] at this
      exact this
    have hz : (tx G).size = n + 1 := by rw [tx_size, hn]
    have hz2 : (tx (List.replicate n 0)).size = n := by rw [tx_size, List.length_replicate]
    have w1 : IntKind.i64.wrap (((n : Int) + 1) - 1) = (n : Int) := by rw [IntKind.wrap_i64]; omega
    have hn5 : n ≤ 500 := by omega
    clear hcm hH
    generalize (5 :: List.replicate n 0 : List Int) = H at *
    have HV : Hid (prt (vl G) (10 ^ G.length) rest = if vl G < vl H then 1 else if vl G = vl H ∧ rest = false then 2 else 3) := by
      show _ = _
      unfold prt
      rw [if_neg hv, ← hHv]
      simp only [show (2 * vl G < vl H * 2) = (vl G < vl H) from propext ⟨fun h => by omega, fun h => by omega⟩, show (2 * vl G = vl H * 2) = (vl G = vl H) from propext ⟨fun h => by omega, fun h => by omega⟩]
    rw [HV.out]
    clear HV hHv hv h0 hD hn hl
    generalize vl G = u at *
    generalize vl H = v at *
    have hk : Hid (∀ C : Int, (if u < v then (-1 : Int) else if u = v then 0 else 1) = C → ∀ X, Calls Tryz.prog 122 #[.string (tx G), .string (tx H)] X fun e w' => e = .returned (.int .i64 C) ∧ w' = X) := fun C hC X => by rw [← hC]; exact HCm.out X
    clear HCm
    by_cases c1 : u < v
    · have HK : Hid (∀ X, Calls Tryz.prog 122 #[.string (tx G), .string (tx H)] X fun e w' => e = .returned (.int .i64 (-1)) ∧ w' = X) := hk.out (-1) (if_pos c1)
      rw [if_pos c1]
      clear hk c1
      go_enter Tryz.func104, Tryz.ntmps104
      go_wp2_with fail
      refine (HT.out _).mono ?_
      rintro e w2 ⟨T, hT, rfl, hb⟩
      go_wp2_with fail
      refine (HR.out _).mono ?_
      rintro e w3 ⟨rfl, hb3⟩
      go_wp2_with fail
      refine (HK.out _).mono ?_
      rintro e w4 ⟨rfl, rfl⟩
      go_wp2
      go_ret
      exact ⟨rfl, hb.trans (hb3.mono hb.size)⟩
    · rw [if_neg c1]
      by_cases c2 : u = v
      · have HK : Hid (∀ X, Calls Tryz.prog 122 #[.string (tx G), .string (tx H)] X fun e w' => e = .returned (.int .i64 0) ∧ w' = X) := hk.out 0 (by rw [if_neg c1, if_pos c2])
        clear hk
        cases rest
        · rw [if_pos ⟨c2, rfl⟩]
          clear c1 c2
          go_enter Tryz.func104, Tryz.ntmps104
          go_wp2_with fail
          refine (HT.out _).mono ?_
          rintro e w2 ⟨T, hT, rfl, hb⟩
          go_wp2_with fail
          refine (HR.out _).mono ?_
          rintro e w3 ⟨rfl, hb3⟩
          go_wp2_with fail
          refine (HK.out _).mono ?_
          rintro e w4 ⟨rfl, rfl⟩
          go_wp2
          go_ret
          exact ⟨rfl, hb.trans (hb3.mono hb.size)⟩
        · rw [if_neg fun q => by cases q.2]
          clear c1 c2
          go_enter Tryz.func104, Tryz.ntmps104
          go_wp2_with fail
          refine (HT.out _).mono ?_
          rintro e w2 ⟨T, hT, rfl, hb⟩
          go_wp2_with fail
          refine (HR.out _).mono ?_
          rintro e w3 ⟨rfl, hb3⟩
          go_wp2_with fail
          refine (HK.out _).mono ?_
          rintro e w4 ⟨rfl, rfl⟩
          go_wp2
          go_ret
          exact ⟨rfl, hb.trans (hb3.mono hb.size)⟩
      · have HK : Hid (∀ X, Calls Tryz.prog 122 #[.string (tx G), .string (tx H)] X fun e w' => e = .returned (.int .i64 1) ∧ w' = X) := hk.out 1 (by rw [if_neg c1, if_neg c2])
        rw [if_neg fun q => c2 q.1]
        clear hk c1 c2
        go_enter Tryz.func104, Tryz.ntmps104
        go_wp2_with fail
        refine (HT.out _).mono ?_
        rintro e w2 ⟨T, hT, rfl, hb⟩
        go_wp2_with fail
        refine (HR.out _).mono ?_
        rintro e w3 ⟨rfl, hb3⟩
        go_wp2_with fail
        refine (HK.out _).mono ?_
        rintro e w4 ⟨rfl, rfl⟩
        go_wp2
        go_ret
        exact ⟨rfl, hb.trans (hb3.mono hb.size)⟩
end Go.Proofs.YtdkpiofeidcffaaGreatDoor
