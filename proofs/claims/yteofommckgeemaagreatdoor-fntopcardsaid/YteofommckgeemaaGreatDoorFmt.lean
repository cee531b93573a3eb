/-
  The two formats behind their interface, walked.
-/
import Derived.Test.YteofommckgeemaaGreatDoorSl
import Derived.Test.YteofommckgeemaaGreatDoorTxtM
import Derived.Handy
import Derived.Test.YteofommckgeemaaGreatDoorRows
import Derived.WalkKit
import Derived.Laws.Tables
import Derived.Deep.DeepCutAuto

namespace Go.Proofs.YteofommckgeemaaGreatDoor
open Go.RowKit
set_option linter.unusedVariables false
set_option maxRecDepth 100000
def digB (c : UInt8) : Bool := decide (48 ≤ c.toNat) && decide (c.toNat ≤ 57)
/-- Whether a string is a natural of at most n digits. -/
def natB (n : Int) (s : ByteArray) : Bool := decide (1 ≤ s.size) && decide ((s.size : Int) ≤ n) && (decide (s.size ≤ 1) || !(s.data.toList.headD 0 == 48)) && s.data.toList.all digB
theorem data_at (s : ByteArray) (k : Nat) (hk : k < s.size) : s.data.toList[k]? = some (s[k]'hk) := by
  have h : k < s.data.toList.length := by simpa using hk
  rw [List.getElem?_eq_getElem h]
  rfl
theorem head_at (s : ByteArray) (h : 0 < s.size) : s.data.toList.headD 0 = s[0]'h := by
  have := data_at s 0 h
  cases e : s.data.toList with
  | nil => rw [e] at this; cases this
  | cons c r => rw [e] at this; simpa using this
theorem natB_empty (n : Int) (s : ByteArray) (h : s.size < 1) : natB n s = false := by
  unfold natB; rw [decide_eq_false (by omega : ¬ 1 ≤ s.size)]; rfl
theorem natB_long (n : Int) (s : ByteArray) (h : n < (s.size : Int)) : natB n s = false := by
  unfold natB; rw [decide_eq_false (by omega : ¬ (s.size : Int) ≤ n)]; simp
theorem natB_zero (n : Int) (s : ByteArray) (h : 1 < s.size) (h0 : (s[0]'(by omega)).toNat = 48) : natB n s = false := by
  have e : s[0]'(by omega) = 48 := UInt8.toNat_inj.1 h0
  unfold natB
  rw [head_at s (by omega), e, decide_eq_false (by omega : ¬ s.size ≤ 1)]
  simp
theorem natB_bad (n : Int) (s : ByteArray) (k : Nat) (hk : k < s.size) (h : (s[k]'hk).toNat < 48 ∨ 57 < (s[k]'hk).toNat) : natB n s = false := by
  have hm : s[k]'hk ∈ s.data.toList := List.mem_of_getElem? (data_at s k hk)
  have hb : s.data.toList.all digB = false := by
    rw [List.all_eq_false]
    refine ⟨_, hm, ?_⟩
    unfold digB
    rcases h with h | h
    · rw [decide_eq_false (by omega : ¬ 48 ≤ (s[k]'hk).toNat)]; simp
    · rw [decide_eq_false (by omega : ¬ (s[k]'hk).toNat ≤ 57)]; simp
  unfold natB
  rw [hb]; simp
theorem natB_good (n : Int) (s : ByteArray) (h1 : 0 < s.size) (h2 : (s.size : Int) ≤ n) (h3 : s.size ≤ 1 ∨ (s[0]'h1).toNat ≠ 48) (h4 : ∀ k (hk : k < s.size), 48 ≤ (s[k]'hk).toNat ∧ (s[k]'hk).toNat ≤ 57) : natB n s = true := by
  have ha : s.data.toList.all digB = true := by
    rw [List.all_eq_true]
    intro c hc
    obtain ⟨k, hk, e⟩ := List.getElem_of_mem hc
    have hk' : k < s.size := by simpa using hk
    have d := data_at s k hk'
    rw [List.getElem?_eq_getElem hk, e] at d
    have := h4 k hk'
    rw [← Option.some.inj d] at this
    unfold digB; simp [this.1, this.2]
  have hz : (decide (s.size ≤ 1) || !(s.data.toList.headD 0 == 48)) = true := by
    rcases h3 with h | h
    · rw [decide_eq_true h]; rfl
    · rw [head_at s h1]
      have : (s[0]'h1 == 48) = false := beq_eq_false_iff_ne.2 (fun e => h (by rw [e]; rfl))
      rw [this]; simp
  unfold natB
  rw [ha, hz, decide_eq_true (by omega : 1 ≤ s.size), decide_eq_true h2]; rfl
/-- A natural is the text of its digits. -/
theorem natB_text (n : Int) (s : ByteArray) (h : natB n s = true) : ∃ ds, Canon ds ∧ ds.length = s.size ∧ (ds.length : Int) ≤ n ∧ s = tx ds := by
  have h1 : 0 < s.size := by
    rcases Nat.lt_or_ge s.size 1 with c | c
    · rw [natB_empty n s c] at h; cases h
    · exact c
  have h2 : (s.size : Int) ≤ n := by
    by_cases c : n < (s.size : Int)
    · rw [natB_long n s c] at h; cases h
    · omega
  have h4 : ∀ k (hk : k < s.size), 48 ≤ (s[k]'hk).toNat ∧ (s[k]'hk).toNat ≤ 57 := fun k hk => by
    by_cases c : (s[k]'hk).toNat < 48 ∨ 57 < (s[k]'hk).toNat
    · rw [natB_bad n s k hk c] at h; cases h
    · omega
  have h3 : s.size ≤ 1 ∨ (s[0]'h1).toNat ≠ 48 := by
    by_cases c : 1 < s.size
    · refine .inr fun e => ?_
      rw [natB_zero n s c e] at h; cases h
    · exact .inl (by omega)
  have hdat : ∀ c ∈ s.data.toList, 48 ≤ c.toNat ∧ c.toNat ≤ 57 := fun c hc => by
    obtain ⟨k, hk, e⟩ := List.getElem_of_mem hc
    have hk' : k < s.size := by simpa using hk
    have d := data_at s k hk'
    rw [List.getElem?_eq_getElem hk, e] at d
    rw [Option.some.inj d]
    exact h4 k hk'
  refine ⟨s.data.toList.map fun c => (c.toNat : Int) - 48, ⟨fun d hd => ?_, by simpa using h1, ?_⟩, by simp, by simpa using h2, ?_⟩
  · obtain ⟨c, hc, rfl⟩ := List.mem_map.1 hd
    have := hdat c hc
    omega
  · rcases h3 with c | c
    · exact .inl (by simp; omega)
    · refine .inr ?_
      have e := head_at s h1
      cases el : s.data.toList with
      | nil => have : s.data.toList.length = s.size := by simp
               rw [el] at this; simp at this; omega
      | cons x r =>
        rw [el] at e
        simp only [List.map_cons, List.headD_cons] at e ⊢
        rw [e]; omega
  · apply ByteArray.ext
    rw [tx_data]
    apply Array.toList_inj.1
    rw [List.map_map]
    simp only []
    have : ∀ c ∈ s.data.toList, ((fun d : Int => UInt8.ofNat (48 + d).toNat) ∘ fun c : UInt8 => (c.toNat : Int) - 48) c = c := fun c hc => by
      show UInt8.ofNat (48 + ((c.toNat : Int) - 48)).toNat = c
      rw [show (48 + ((c.toNat : Int) - 48)).toNat = c.toNat by omega]
      exact UInt8.ofNat_toNat
    rw [List.map_congr_left this]
    simp
theorem natB_tx (n : Int) (ds : List Int) (h : Canon ds) (hn : (ds.length : Int) ≤ n) : natB n (tx ds) = true := by
  have hs := tx_size ds
  have h1 : 0 < (tx ds).size := by have := h.2.1; omega
  refine natB_good n (tx ds) h1 (by omega) ?_ fun k hk => ?_
  · rcases h.2.2 with c | c
    · exact .inl (by omega)
    · refine .inr fun e => c ?_
      have t := tx_at ds h.1 0 h1
      have g : ds.getD 0 0 = ds.headD 0 := by cases ds <;> rfl
      omega
  · have t := tx_at ds h.1 k hk
    have b := dec_at ds h.1 k
    omega
end Go.Proofs.YteofommckgeemaaGreatDoor
namespace Go.Proofs.YteofommckgeemaaGreatDoor
open Go.RowKit
set_option linter.unusedVariables false
set_option maxRecDepth 100000
/-- A number's value. -/
abbrev numV (k : Int) (b : Bool) (e : Int) (s : ByteArray) : Value := .agg #[.int .i64 k, .bool b, .int .i64 e, .string s]
/-- The formats' digits and bounds. -/
def limP (f : Int) : Int := if f = 64 then 16 else if f = 128 then 34 else 0
def limL (f : Int) : Int := if f = 64 then -398 else if f = 128 then -6176 else 0
def limH (f : Int) : Int := if f = 64 then 369 else if f = 128 then 6111 else 0
/-- Whether a number is right in a format. -/
def numB (f k : Int) (b : Bool) (e : Int) (s : ByteArray) : Bool :=
  if limP f = 0 then false
  else if k = 1 then natB (limP f) s && (decide (limL f ≤ e) && decide (e ≤ limH f))
  else if k = 2 then decide (e = 0) && s.toList.isEmpty
  else if k = 3 ∨ k = 4 then decide (e = 0) && (s.toList.isEmpty && !b)
  else false
end Go.Proofs.YteofommckgeemaaGreatDoor
namespace Go.Proofs.YteofommckgeemaaGreatDoor
open Go.RowKit
set_option linter.unusedVariables false
set_option maxRecDepth 100000
/-- A Result. -/
abbrev rsV (k : Int) (b : Bool) (e : Int) (s : ByteArray) (f : Int) : Value := .agg #[.int .i64 k, .bool b, .int .i64 e, .string s, .int .i64 f]
theorem results_res {fn : Func} {p : Tmp} {b : Nat} {x y z u v : Value} (h : fn.results = #[.cell p 90]) (tmps : Array Value) (w : World) (hp : tmps[p]?.getD undef = .pointer (some ⟨b, 0, none⟩))
    (q0 : w.cell? ⟨b, 0, none⟩ = some x) (q1 : w.cell? ⟨b, 1, none⟩ = some y) (q2 : w.cell? ⟨b, 2, none⟩ = some z) (q3 : w.cell? ⟨b, 3, none⟩ = some u) (q4 : w.cell? ⟨b, 4, none⟩ = some v) : (results fn tmps).run Tryz.prog w = .ok (.agg #[x, y, z, u, v]) w := by
  simp [results, h, hp, go_sem, q0, q1, q2, q3, q4]
/-- A Result's five cells in a block, which may be written. -/
def At5 (W : World) (b : Nat) (x y z u v : Value) : Prop := W.heap[b]? = some (.cells #[x, y, z, u, v] 90 (0, 0))
theorem at5_new (w : World) (x y z u v : Value) : At5 (w.alloc (.cells #[x, y, z, u, v] 90)) w.heap.size x y z u v := by
  unfold At5 World.alloc
  simp
theorem At5.cells {w : World} {b : Nat} {x y z u v : Value} (h : At5 w b x y z u v) : w.cell? ⟨b, 0, none⟩ = some x ∧ w.cell? ⟨b, 1, none⟩ = some y ∧ w.cell? ⟨b, 2, none⟩ = some z ∧ w.cell? ⟨b, 3, none⟩ = some u ∧ w.cell? ⟨b, 4, none⟩ = some v ∧ ∀ i, w.frozen? ⟨b, i, none⟩ = false := by
  unfold At5 at h
  exact ⟨by simp [World.cell?, h], by simp [World.cell?, h], by simp [World.cell?, h], by simp [World.cell?, h], by simp [World.cell?, h], fun i => by simp [World.frozen?, h]⟩
theorem At5.lt {w : World} {b : Nat} {x y z u v : Value} (h : At5 w b x y z u v) : b < w.heap.size := (Array.getElem?_eq_some_iff.1 h).1
theorem At5.below {w w' : World} {b B : Nat} {x y z u v : Value} (h : At5 w b x y z u v) (hb : Below B w w') (hB : b < B) : At5 w' b x y z u v := (hb.block b hB).trans h
theorem At5.put {w : World} {b : Nat} {x y z u v : Value} (h : At5 w b x y z u v) (x' y' z' u' v' : Value) : At5 (((((w.setCell ⟨b, 0, none⟩ x').setCell ⟨b, 1, none⟩ y').setCell ⟨b, 2, none⟩ z').setCell ⟨b, 3, none⟩ u').setCell ⟨b, 4, none⟩ v') b x' y' z' u' v' := by
  unfold At5 at *
  simp [World.setCell, Array.getElem?_modify, h]
theorem one5 (k : Int) (b : Bool) (e : Int) (s : ByteArray) (f : Int) : (#[.int .i64 k, .bool b, .int .i64 e, .string s, .int .i64 f] : Array Value).all (·.oneCell') = true := by simp [Value.oneCell']
theorem At5.row {w : World} {b : Nat} {x y z u v : Value} (h : At5 w b x y z u v) (x' y' z' u' v' : Value) : At5 (w.setRow b #[x', y', z', u', v']) b x' y' z' u' v' := setRow_heap w b _ _ _ _ h
theorem bel_row {B : Nat} {w W : World} (h : Below B w W) {b : Nat} (hb : B ≤ b) (cs : Array Value) : Below B w (W.setRow b cs) :=
  ⟨h.os, h.tape, h.output, by rw [show (W.setRow b cs).heap.size = W.heap.size by simp [World.setRow]]; exact h.size, fun k hk => (setRow_other W b k cs (by omega)).trans (h.block k hk)⟩
theorem build_res (k : Int) (b : Bool) (e : Int) (s : ByteArray) (f : Int) (w : World) : (Instr.build 90 #[(0, numV k b e s), (1, .int .i64 f)]).run Tryz.prog w = .ok (rsV k b e s f) w := run_build w _ _ _ (by kernel_rfl)
theorem build_res0 (k : Int) (b : Bool) (e : Int) (s : ByteArray) (w : World) : (Instr.build 90 #[(0, numV k b e s)]).run Tryz.prog w = .ok (rsV k b e s 0) w := run_build w _ _ _ (by kernel_rfl)
theorem build_inf (b : Bool) (w : World) : (Instr.build 78 #[(0, .int .i64 2), (1, .bool b)]).run Tryz.prog w = .ok (numV 2 b 0 { data := #[] }) w := run_build w _ _ _ (by kernel_rfl)
end Go.Proofs.YteofommckgeemaaGreatDoor

namespace Go.Proofs.YteofommckgeemaaGreatDoor
set_option linter.unusedVariables false
set_option maxRecDepth 100000
/-- The last k digits of a number, the high one first. -/
def lastD (n : Int) : Nat → List Int
  | 0 => []
  | k + 1 => lastD (n / 10) k ++ [n % 10]
theorem lastD_len (n : Int) (k : Nat) : (lastD n k).length = k := by
  induction k generalizing n with
  | zero => rfl
  | succ k ih => simp [lastD, ih]
theorem lastD_dec (n : Int) (k : Nat) : Dec (lastD n k) := by
  induction k generalizing n with
  | zero => intro d hd; cases hd
  | succ k ih =>
    intro d hd
    rcases List.mem_append.1 hd with c | c
    · exact ih _ d c
    · simp at c; omega
theorem lastD_vl (n : Int) (k : Nat) (h0 : 0 ≤ n) (h1 : n < 10 ^ k) : vl (lastD n k) = n := by
  induction k generalizing n with
  | zero => simp at h1; simp [lastD, vl, lv]; omega
  | succ k ih =>
    simp only [lastD]
    rw [vl_snoc, ih (n / 10) (by omega) (by rw [Int.pow_succ] at h1; omega)]
    omega
/-- The digits of a number (below ten to the 500). -/
def nt (n : Int) : List Int := strip (lastD n 500)
theorem nt_spec (n : Int) (h0 : 0 ≤ n) (h1 : n < 10 ^ 500) : Canon (nt n) ∧ vl (nt n) = n := by
  unfold nt
  refine ⟨strip_canon _ (lastD_dec n 500) (by rw [lastD_len]; decide), ?_⟩
  rw [strip_vl]
  exact lastD_vl n 500 h0 h1
theorem nt_of (R : List Int) (n : Int) (h : Canon R) (hv : vl R = n) (hl : R.length ≤ 500) : R = nt n := by
  have b := vl_bd R h.1
  have h1 : n < 10 ^ 500 := by rw [← hv]; exact Int.lt_of_lt_of_le b.2 (pow_mono _ _ hl)
  obtain ⟨c, e⟩ := nt_spec n (by rw [← hv]; exact b.1) h1
  exact canon_unique R (nt n) h c (by rw [hv, e])
/-- The digits of a string. -/
def dl (s : ByteArray) : List Int := s.data.toList.map fun c => (c.toNat : Int) - 48
theorem dl_tx (ds : List Int) (h : Dec ds) : dl (tx ds) = ds := by
  unfold dl
  rw [tx_data]
  simp only [List.map_map]
  have : ∀ d ∈ ds, ((fun c : UInt8 => (c.toNat : Int) - 48) ∘ fun d : Int => UInt8.ofNat (48 + d).toNat) d = d := fun d hd => by
    have b := h d hd
    show ((UInt8.ofNat (48 + d).toNat).toNat : Int) - 48 = d
    rw [UInt8.toNat_ofNat']
    omega
  rw [List.map_congr_left this, List.map_id']
theorem natB_dl (n : Int) (s : ByteArray) (h : natB n s = true) : Canon (dl s) ∧ ((dl s).length : Int) ≤ n ∧ s = tx (dl s) := by
  obtain ⟨ds, hc, hl, hn, rfl⟩ := natB_text n s h
  rw [dl_tx ds hc.1]
  exact ⟨hc, hn, rfl⟩
/-- The number that a string stands for. -/
def nv (s : ByteArray) : Int := vl (dl s)
theorem nv_bd (n : Nat) (s : ByteArray) (h : natB n s = true) : 0 ≤ nv s ∧ nv s < 10 ^ n := by
  obtain ⟨hc, hl, -⟩ := natB_dl n s h
  have b := vl_bd (dl s) hc.1
  exact ⟨b.1, Int.lt_of_lt_of_le b.2 (pow_mono _ _ (by omega))⟩
/-- A text that has at most 200 digits; else nothing. -/
def fitS (L : List Int) : ByteArray := if L.length ≤ 200 then tx L else { data := #[] }
end Go.Proofs.YteofommckgeemaaGreatDoor

namespace Go.Proofs.YteofommckgeemaaGreatDoor
set_option linter.unusedVariables false
set_option maxRecDepth 100000
theorem vl_append (a b : List Int) : vl (a ++ b) = vl b + 10 ^ b.length * vl a := by
  unfold vl; rw [List.reverse_append, lv_append, List.length_reverse]
/-- -1, 0 or 1. -/
def cmpI (x y : Int) : Int := if x < y then -1 else if y < x then 1 else 0
theorem cmpI_lt (x y : Int) (h : x < y) : cmpI x y = -1 := by unfold cmpI; rw [if_pos h]
theorem cmpI_gt (x y : Int) (h : y < x) : cmpI x y = 1 := by unfold cmpI; rw [if_neg (by omega), if_pos h]
theorem cmpI_eq (x : Int) : cmpI x x = 0 := by unfold cmpI; simp
end Go.Proofs.YteofommckgeemaaGreatDoor

namespace Go.Proofs.YteofommckgeemaaGreatDoor
set_option linter.unusedVariables false
set_option maxRecDepth 100000
/-- Noughts ahead, as far as m digits. -/
def zpad (m : Nat) (ds : List Int) : List Int := List.replicate (m - ds.length) 0 ++ ds
theorem zpad_len (m : Nat) (ds : List Int) : (zpad m ds).length = max m ds.length := by
  unfold zpad; rw [List.length_append, List.length_replicate]; omega
theorem zpad_dec (m : Nat) (ds : List Int) (h : Dec ds) : Dec (zpad m ds) := fun d hd => by
  rcases List.mem_append.1 hd with c | c
  · have := (List.mem_replicate.1 c).2; omega
  · exact h d c
theorem vl_noughts_ahead (n : Nat) (ds : List Int) : vl (List.replicate n 0 ++ ds) = vl ds := by
  induction n with
  | zero => rfl
  | succ n ih => rw [List.replicate_succ, List.cons_append, vl_cons, ih]; omega
theorem zpad_vl (m : Nat) (ds : List Int) : vl (zpad m ds) = vl ds := vl_noughts_ahead _ _
/-- The number above and below a cut. -/
theorem cut_vl_two (D : List Int) (h : Dec D) (n k : Nat) (hl : D.length = n + k) : vl (D.take n) = vl D / 10 ^ k ∧ vl (D.drop n) = vl D % 10 ^ k := by
  have e : vl D = vl (D.drop n) + 10 ^ k * vl (D.take n) := by
    have := vl_append (D.take n) (D.drop n)
    rw [List.take_append_drop] at this
    rw [this, List.length_drop, show D.length - n = k by omega]
  have b := vl_bd (D.drop n) (fun d hd => h d (List.mem_of_mem_drop hd))
  rw [List.length_drop, show D.length - n = k by omega] at b
  have hp : (0 : Int) < 10 ^ k := Int.pow_pos (by decide)
  rw [e]
  refine ⟨?_, ?_⟩
  · rw [Int.add_mul_ediv_left _ _ (Int.ne_of_gt hp), Int.ediv_eq_zero_of_lt b.1 b.2, Int.zero_add]
  · rw [Int.add_mul_emod_self_left, Int.emod_eq_of_lt b.1 b.2]
/-- Is one of the digits not a nought? -/
def some1 (l : List Int) : Bool := l.any fun d => !(d == 0)
theorem some1_vl (l : List Int) (h : Dec l) : some1 l = decide (vl l ≠ 0) := by
  induction l with
  | nil => rfl
  | cons d r ih =>
    have hr : Dec r := fun x hx => h x (List.mem_cons_of_mem _ hx)
    have hd := h d (List.mem_cons_self)
    have b := vl_bd r hr
    have hp : (0 : Int) < 10 ^ r.length := Int.pow_pos (by decide)
    unfold some1
    rw [List.any_cons]
    have ih' : (r.any fun d => !(d == 0)) = decide (vl r ≠ 0) := ih hr
    rw [ih', vl_cons]
    by_cases hz : d = 0
    · subst hz; simp
    · have h1 : (d == 0) = false := by simpa using hz
      have h2 : 0 < 10 ^ r.length * d := Int.mul_pos hp (by omega)
      rw [h1, decide_eq_true (by omega : vl r + 10 ^ r.length * d ≠ 0)]
      rfl
/-- What is rounded off stands below, at or above a half. -/
def halfI (r m : Int) (rest : Bool) (k : Nat) : Int := if k = 0 then -1 else if 2 * r < m then -1 else if 2 * r = m ∧ rest = false then 0 else 1
/-- Is one more kept? -/
def upO (mode : Int) (neg : Bool) (half : Int) (lost : Bool) (od : Bool) : Bool :=
  if mode = 1 then decide (0 < half) || (decide (half = 0) && od) else if mode = 3 then lost && neg else if mode = 4 then lost && !neg else if mode = 5 then decide (0 ≤ half) else false
def upB (mode : Int) (neg : Bool) (half : Int) (lost : Bool) (q : Int) : Bool := upO mode neg half lost (decide (q % 2 = 1))
/-- What is left when k digits are rounded off, and whether something was. -/
def rndL (v : Int) (k : Nat) (rest : Bool) : Bool := rest || decide (v % 10 ^ k ≠ 0)
def rndU (mode : Int) (neg : Bool) (v : Int) (k : Nat) (rest : Bool) : Bool := upB mode neg (halfI (v % 10 ^ k) (10 ^ k) rest k) (rndL v k rest) (v / 10 ^ k)
def rndV (mode : Int) (neg : Bool) (v : Int) (k : Nat) (rest : Bool) : Int := v / 10 ^ k + (if rndU mode neg v k rest then 1 else 0)
end Go.Proofs.YteofommckgeemaaGreatDoor
namespace Go.Proofs.YteofommckgeemaaGreatDoor
open Go.RowKit
set_option linter.unusedVariables false
set_option maxRecDepth 100000
theorem tx_take (D : List Int) (n : Nat) (hn : n ≤ D.length) : (tx D).extract 0 n = tx (D.take n) := by
  apply ByteArray.ext
  rw [ByteArray.data_extract, tx_data, tx_data]
  simp [List.map_take]
theorem tx_drop (D : List Int) (n : Nat) (hn : n ≤ D.length) : (tx D).extract n (tx D).size = tx (D.drop n) := by
  apply ByteArray.ext
  rw [ByteArray.data_extract, tx_size, tx_data, tx_data]
  simp [List.map_drop, List.take_of_length_le]
theorem vl_mod2 (l : List Int) (h : Dec l) (hp : 0 < l.length) : vl l % 2 = l.getD (l.length - 1) 0 % 2 := by
  have e := vl_append (l.take (l.length - 1)) (l.drop (l.length - 1))
  rw [List.take_append_drop] at e
  have hd : l.drop (l.length - 1) = [l.getD (l.length - 1) 0] := by
    have hi : l.length - 1 < l.length := by omega
    rw [List.drop_eq_getElem_cons hi, List.getD, List.getElem?_eq_getElem hi, List.drop_of_length_le (by omega)]
    rfl
  rw [hd] at e
  rw [e]
  have : vl [l.getD (l.length - 1) 0] = l.getD (l.length - 1) 0 := by simp [vl, lv]
  rw [this]
  simp
  omega
theorem tx_1 : tx [1] = { data := #[49] } := by apply ByteArray.ext; rw [tx_data]; rfl
end Go.Proofs.YteofommckgeemaaGreatDoor
namespace Go.Proofs.YteofommckgeemaaGreatDoor
open Go.RowKit
set_option linter.unusedVariables false
set_option maxRecDepth 100000
theorem one4 (k : Int) (b : Bool) (e : Int) (s : ByteArray) : (#[.int .i64 k, .bool b, .int .i64 e, .string s] : Array Value).all (·.oneCell') = true := by simp [Value.oneCell']
theorem build_nan (w : World) : (Instr.build 78 #[(0, .int .i64 3)]).run Tryz.prog w = .ok (numV 3 false 0 { data := #[] }) w := run_build w _ _ _ (by kernel_rfl)
/-- Numbers in a row, four cells each. -/
def NRw (W : World) (g n : Nat) (K : Nat → Int) (B : Nat → Bool) (E : Nat → Int) (S : Nat → ByteArray) : Prop :=
  ∀ i, i < n → W.cell? ⟨g, i * 4, none⟩ = some (.int .i64 (K i)) ∧ W.cell? ⟨g, i * 4 + 1, none⟩ = some (.bool (B i)) ∧ W.cell? ⟨g, i * 4 + 2, none⟩ = some (.int .i64 (E i)) ∧ W.cell? ⟨g, i * 4 + 3, none⟩ = some (.string (S i))
theorem NRw.below {W w1 : World} {g n Bd : Nat} {K : Nat → Int} {B : Nat → Bool} {E : Nat → Int} {S : Nat → ByteArray} (h : NRw W g n K B E S) (hb : Below Bd W w1) (hg : g < Bd) : NRw w1 g n K B E S := fun i hi =>
  ⟨(hb.cell (p := ⟨g, i * 4, none⟩) hg).trans (h i hi).1, (hb.cell (p := ⟨g, i * 4 + 1, none⟩) hg).trans (h i hi).2.1, (hb.cell (p := ⟨g, i * 4 + 2, none⟩) hg).trans (h i hi).2.2.1, (hb.cell (p := ⟨g, i * 4 + 3, none⟩) hg).trans (h i hi).2.2.2⟩
theorem bel_two (w : World) (o o' : Obj) : Below w.heap.size w ((w.alloc o).alloc o') := ((Below.refl _ _).alloc (Nat.le_refl _) _).alloc (by simp) _
/-- The flags and whether there is a NaN. -/
def spF (n : Nat) (K : Nat → Int) : Int := if ∃ i, i < n ∧ K i = 4 then 1 else 0
def spB (n : Nat) (K : Nat → Int) : Bool := decide (∃ i, i < n ∧ (K i = 3 ∨ K i = 4))
end Go.Proofs.YteofommckgeemaaGreatDoor
namespace Go.Proofs.YteofommckgeemaaGreatDoor
open Go.RowKit
set_option linter.unusedVariables false
set_option maxRecDepth 100000
theorem digitCount_64 (w : World) : Calls Tryz.prog 365 #[.agg #[]] w fun e w' => e = .returned (.int .i64 16) ∧ Below w.heap.size w w' := by
  go_enter Tryz.func365, Tryz.ntmps365
  go_wp2
  go_ret
  exact ⟨rfl, (Below.refl _ _).alloc (Nat.le_refl _) _⟩
theorem md_digitCount_64 (n : Nat) (X : World) : (method (n + 1) 208 (.agg #[]) "loop.example/g00085/impl.digitCount").run Tryz.prog X = .ok (365, .agg #[]) X := by kernel_rfl
theorem leastExp_64 (w : World) : Calls Tryz.prog 367 #[.agg #[]] w fun e w' => e = .returned (.int .i64 (-398)) ∧ Below w.heap.size w w' := by
  go_enter Tryz.func367, Tryz.ntmps367
  go_wp2
  go_ret
  exact ⟨rfl, (Below.refl _ _).alloc (Nat.le_refl _) _⟩
theorem md_leastExp_64 (n : Nat) (X : World) : (method (n + 1) 208 (.agg #[]) "loop.example/g00085/impl.leastExp").run Tryz.prog X = .ok (367, .agg #[]) X := by kernel_rfl
theorem greatestExp_64 (w : World) : Calls Tryz.prog 366 #[.agg #[]] w fun e w' => e = .returned (.int .i64 369) ∧ Below w.heap.size w w' := by
  go_enter Tryz.func366, Tryz.ntmps366
  go_wp2
  go_ret
  exact ⟨rfl, (Below.refl _ _).alloc (Nat.le_refl _) _⟩
theorem md_greatestExp_64 (n : Nat) (X : World) : (method (n + 1) 208 (.agg #[]) "loop.example/g00085/impl.greatestExp").run Tryz.prog X = .ok (366, .agg #[]) X := by kernel_rfl
theorem fmtOf_64 (w : World) : Calls Tryz.prog 148 #[.int .i64 64] w fun e w' => e = .returned (.tuple #[.iface 208 (.agg #[]), .bool true]) ∧ w' = w := by
  go_enter Tryz.func148, Tryz.ntmps148
  go_wp2
  go_ret2
  exact ⟨rfl, rfl⟩
theorem digitCount_128 (w : World) : Calls Tryz.prog 370 #[.agg #[]] w fun e w' => e = .returned (.int .i64 34) ∧ Below w.heap.size w w' := by
  go_enter Tryz.func370, Tryz.ntmps370
  go_wp2
  go_ret
  exact ⟨rfl, (Below.refl _ _).alloc (Nat.le_refl _) _⟩
theorem md_digitCount_128 (n : Nat) (X : World) : (method (n + 1) 211 (.agg #[]) "loop.example/g00085/impl.digitCount").run Tryz.prog X = .ok (370, .agg #[]) X := by kernel_rfl
theorem leastExp_128 (w : World) : Calls Tryz.prog 372 #[.agg #[]] w fun e w' => e = .returned (.int .i64 (-6176)) ∧ Below w.heap.size w w' := by
  go_enter Tryz.func372, Tryz.ntmps372
  go_wp2
  go_ret
  exact ⟨rfl, (Below.refl _ _).alloc (Nat.le_refl _) _⟩
theorem md_leastExp_128 (n : Nat) (X : World) : (method (n + 1) 211 (.agg #[]) "loop.example/g00085/impl.leastExp").run Tryz.prog X = .ok (372, .agg #[]) X := by kernel_rfl
theorem greatestExp_128 (w : World) : Calls Tryz.prog 371 #[.agg #[]] w fun e w' => e = .returned (.int .i64 6111) ∧ Below w.heap.size w w' := by
  go_enter Tryz.func371, Tryz.ntmps371
  go_wp2
  go_ret
  exact ⟨rfl, (Below.refl _ _).alloc (Nat.le_refl _) _⟩
theorem md_greatestExp_128 (n : Nat) (X : World) : (method (n + 1) 211 (.agg #[]) "loop.example/g00085/impl.greatestExp").run Tryz.prog X = .ok (371, .agg #[]) X := by kernel_rfl
theorem fmtOf_128 (w : World) : Calls Tryz.prog 148 #[.int .i64 128] w fun e w' => e = .returned (.tuple #[.iface 211 (.agg #[]), .bool true]) ∧ w' = w := by
  go_enter Tryz.func148, Tryz.ntmps148
  go_wp2
  go_ret2
  exact ⟨rfl, rfl⟩
theorem fmtOf_no (f : Int) (w : World) (h1 : f ≠ 64) (h2 : f ≠ 128) : Calls Tryz.prog 148 #[.int .i64 f] w fun e w' => e = .returned (.tuple #[.nilIface, .bool false]) ∧ w' = w := by
  have e1 : (f == 64) = false := beq_eq_false_iff_ne.2 h1
  have e2 : (f == 128) = false := beq_eq_false_iff_ne.2 h2
  go_enter Tryz.func148, Tryz.ntmps148
  go_wp2
  go_ret2
  exact ⟨rfl, rfl⟩
end Go.Proofs.YteofommckgeemaaGreatDoor
