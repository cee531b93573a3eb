/-
  Plain facts for FnRatio: noughts behind, with the exponent that they stand for asked back; a number by one.
-/
import Derived.Test.YteofommckgeemaaGreatDoorNbd
import Derived.Test.YteofommckgeemaaGreatDoorFmt
import Derived.Test.YteofommckgeemaaGreatDoorOrd
import Derived.Test.YteofommckgeemaaGreatDoorExc
import Derived.Test.YteofommckgeemaaGreatDoorSpe
import Derived.Test.YteofommckgeemaaGreatDoorSps
import Derived.Test.YteofommckgeemaaGreatDoorSmn
import Derived.Test.YteofommckgeemaaGreatDoorDvp
import Derived.Test.YteofommckgeemaaGreatDoorSpa
import Derived.Test.YteofommckgeemaaGreatDoorMuPs

namespace Go.Proofs.YteofommckgeemaaGreatDoor
open Go.RowKit
set_option linter.unusedVariables false
set_option maxRecDepth 100000
theorem dw_snoc (c x : UInt8) (l : List UInt8) : (l ++ [x]).dropWhile (· == c) = if l.dropWhile (· == c) = [] then (if x = c then [] else [x]) else l.dropWhile (· == c) ++ [x] := by
  induction l with
  | nil =>
    by_cases h : x = c
    · subst h; simp
    · simp [h]
  | cons y r ih =>
    by_cases h : y = c
    · subst h
      rw [List.cons_append, List.dropWhile_cons_of_pos (by simp), List.dropWhile_cons_of_pos (by simp)]
      exact ih
    · rw [List.cons_append, List.dropWhile_cons_of_neg (by simpa using h), List.dropWhile_cons_of_neg (by simpa using h), if_neg (by simp)]
      rfl
theorem tr_cons (c x : UInt8) (l : List UInt8) : Lib.trimRightB (x :: l) c = if Lib.trimRightB l c = [] ∧ x = c then [] else x :: Lib.trimRightB l c := by
  unfold Lib.trimRightB
  rw [List.reverse_cons, dw_snoc]
  by_cases h : l.reverse.dropWhile (· == c) = []
  · rw [if_pos h, h]
    by_cases hx : x = c
    · rw [if_pos hx, if_pos ⟨rfl, hx⟩]; rfl
    · rw [if_neg hx, if_neg (fun q => hx q.2)]; rfl
  · rw [if_neg h, if_neg (fun q => h (List.reverse_eq_nil_iff.1 q.1))]
    simp
/-- Of one length, no byte below c: without those at the end that are c, the order is the same. -/
theorem cmp_trim (c : UInt8) (a b : List UInt8) (hl : a.length = b.length) (ha : ∀ x ∈ a, ¬ x < c) (hb : ∀ x ∈ b, ¬ x < c) : Lib.compareBytes (Lib.trimRightB a c) (Lib.trimRightB b c) = Lib.compareBytes a b := by
  induction a generalizing b with
  | nil =>
    cases b with
    | nil => rfl
    | cons y s => cases hl
  | cons x r ih =>
    cases b with
    | nil => cases hl
    | cons y s =>
      have ih' := ih s (by simpa using hl) (fun z hz => ha z (List.mem_cons_of_mem _ hz)) (fun z hz => hb z (List.mem_cons_of_mem _ hz))
      have hx := ha x List.mem_cons_self
      have hy := hb y List.mem_cons_self
      rw [tr_cons, tr_cons]
      show _ = if x < y then (-1 : Int) else if y < x then 1 else Lib.compareBytes r s
      rw [← ih']
      have irr : ¬ c < c := UInt8.lt_irrefl c
      by_cases h1 : Lib.trimRightB r c = [] ∧ x = c
      · rw [if_pos h1]
        obtain ⟨e1, rfl⟩ := h1
        by_cases h2 : Lib.trimRightB s x = [] ∧ y = x
        · rw [if_pos h2]
          obtain ⟨e2, rfl⟩ := h2
          rw [if_neg irr, if_neg irr, e1, e2]
        · rw [if_neg h2]
          by_cases h3 : y = x
          · subst h3
            rw [if_neg irr, if_neg irr, e1]
            cases hs : Lib.trimRightB s y with
            | nil => exact absurd ⟨hs, rfl⟩ h2
            | cons z t => rfl
          · have : x < y := by
              rw [UInt8.lt_iff_toNat_lt] at hy ⊢
              have : y.toNat ≠ x.toNat := fun q => h3 (UInt8.toNat_inj.1 q)
              omega
            rw [if_pos this]; rfl
      · rw [if_neg h1]
        by_cases h2 : Lib.trimRightB s c = [] ∧ y = c
        · rw [if_pos h2]
          obtain ⟨e2, rfl⟩ := h2
          by_cases h3 : x = y
          · subst h3
            rw [if_neg irr, if_neg irr, e2]
            cases hs : Lib.trimRightB r x with
            | nil => exact absurd ⟨hs, rfl⟩ h1
            | cons z t => rfl
          · have : y < x := by
              rw [UInt8.lt_iff_toNat_lt] at hx ⊢
              have : x.toNat ≠ y.toNat := fun q => h3 (UInt8.toNat_inj.1 q)
              omega
            rw [if_neg (fun q => hx q), if_pos this]; rfl
        · rw [if_neg h2]; rfl
theorem tr_more (c : UInt8) (a : List UInt8) (k : Nat) : Lib.trimRightB (a ++ List.replicate k c) c = Lib.trimRightB a c := by
  unfold Lib.trimRightB
  rw [List.reverse_append, List.reverse_replicate]
  congr 1
  induction k with
  | zero => rfl
  | succ k ih => rw [List.replicate_succ, List.cons_append, List.dropWhile_cons_of_pos (by simp)]; exact ih
/-- The bytes of a text of digits. -/
theorem txBytes (ds : List Int) : (tx ds).data.toList = ds.map fun d => UInt8.ofNat (48 + d).toNat := by rw [tx_data]
theorem digByte (d : Int) (h : 0 ≤ d ∧ d ≤ 9) : (UInt8.ofNat (48 + d).toNat).toNat = (48 + d).toNat := by
  rw [UInt8.toNat_ofNat']; omega
/-- As many digits each: the order of the texts is that of the numbers. -/
theorem cmpTx (a b : List Int) (ha : Dec a) (hb : Dec b) (hl : a.length = b.length) : Lib.compareBytes (tx a).data.toList (tx b).data.toList = if vl a < vl b then -1 else if vl a = vl b then 0 else 1 := by
  rw [txBytes, txBytes]
  induction a generalizing b with
  | nil =>
    cases b with
    | nil => rfl
    | cons y s => cases hl
  | cons x r ih =>
    cases b with
    | nil => cases hl
    | cons y s =>
      have hl' : r.length = s.length := by simpa using hl
      have hr : Dec r := fun d hd => ha d (List.mem_cons_of_mem _ hd)
      have hs : Dec s := fun d hd => hb d (List.mem_cons_of_mem _ hd)
      have hx := ha x List.mem_cons_self
      have hy := hb y List.mem_cons_self
      have b1 := vl_bd r hr
      have b2 := vl_bd s hs
      rw [List.map_cons, List.map_cons]
      show (if UInt8.ofNat (48 + x).toNat < UInt8.ofNat (48 + y).toNat then (-1 : Int) else if UInt8.ofNat (48 + y).toNat < UInt8.ofNat (48 + x).toNat then 1 else Lib.compareBytes _ _) = _
      rw [ih s hr hs hl', vl_cons, vl_cons]
      rw [← hl'] at b2 ⊢
      have hp : (0 : Int) < 10 ^ r.length := Int.pow_pos (by decide)
      generalize (10 : Int) ^ r.length = m at *
      generalize vl r = u at *
      generalize vl s = v at *
      have l1 : (UInt8.ofNat (48 + x).toNat < UInt8.ofNat (48 + y).toNat) ↔ x < y := by
        rw [UInt8.lt_iff_toNat_lt, digByte x hx, digByte y hy]; omega
      have l2 : (UInt8.ofNat (48 + y).toNat < UInt8.ofNat (48 + x).toNat) ↔ y < x := by
        rw [UInt8.lt_iff_toNat_lt, digByte x hx, digByte y hy]; omega
      by_cases c1 : x < y
      · rw [if_pos (l1.2 c1)]
        have : m * (x + 1) ≤ m * y := Int.mul_le_mul_of_nonneg_left (by omega) (by omega)
        rw [Int.mul_add] at this
        rw [if_pos (by omega)]
      · rw [if_neg fun h => c1 (l1.1 h)]
        by_cases c2 : y < x
        · rw [if_pos (l2.2 c2)]
          have : m * (y + 1) ≤ m * x := Int.mul_le_mul_of_nonneg_left (by omega) (by omega)
          rw [Int.mul_add] at this
          rw [if_neg (by omega), if_neg (by omega)]
        · rw [if_neg fun h => c2 (l2.1 h)]
          obtain rfl : x = y := by omega
          simp only [show (u + m * x < v + m * x) = (u < v) from propext ⟨fun h => by omega, fun h => by omega⟩, show (u + m * x = v + m * x) = (u = v) from propext ⟨fun h => by omega, fun h => by omega⟩]

theorem digs_ge (ds : List Int) (h : Dec ds) : ∀ x ∈ (tx ds).data.toList, ¬ x < 48 := by
  rw [txBytes]
  intro x hx
  obtain ⟨d, hd, rfl⟩ := List.mem_map.1 hx
  rw [UInt8.lt_iff_toNat_lt, digByte d (h d hd)]
  have := h d hd
  show ¬ _ < 48
  omega
theorem dec_zeros (ds : List Int) (h : Dec ds) (k : Nat) : Dec (ds ++ List.replicate k 0) := fun d hd => by
  rcases List.mem_append.1 hd with q | q
  · exact h d q
  · have := (List.mem_replicate.1 q).2; omega
/-- As many digits each with noughts behind: the order of the texts without noughts is that of the numbers. -/
theorem cmp_trS (da db : List Int) (ha : Dec da) (hb : Dec db) (i j : Nat) (hl : da.length + i = db.length + j) : Lib.compareBytes (trS (tx da)).data.toList (trS (tx db)).data.toList = cI (vl da * 10 ^ i) (vl db * 10 ^ j) := by
  have e : ∀ (d : List Int) (k : Nat), (trS (tx d)).data.toList = Lib.trimRightB (tx (d ++ List.replicate k 0)).data.toList 48 := fun d k => by
    have q : (tx (d ++ List.replicate k 0)).data.toList = (tx d).data.toList ++ List.replicate k 48 := by
      rw [txBytes, txBytes, List.map_append, List.map_replicate]; rfl
    rw [q, tr_more]
    unfold trS
    simp
  rw [e da i, e db j, cmp_trim 48 _ _ (by rw [txBytes, txBytes]; simpa using hl) (digs_ge _ (dec_zeros da ha i)) (digs_ge _ (dec_zeros db hb j)), cmpTx _ _ (dec_zeros da ha i) (dec_zeros db hb j) (by simpa using hl), vl_noughts, vl_noughts]
  unfold cI
  generalize vl da * 10 ^ i = u
  generalize vl db * 10 ^ j = v
  by_cases h1 : u < v
  · rw [if_pos h1, if_pos h1]
  · rw [if_neg h1, if_neg h1]
    by_cases h2 : v < u
    · rw [if_pos h2, if_neg (by omega)]
    · rw [if_neg h2, if_pos (by omega)]
end Go.Proofs.YteofommckgeemaaGreatDoor

namespace Go.Proofs.YteofommckgeemaaGreatDoor
open Go.RowKit
set_option linter.unusedVariables false
set_option maxRecDepth 100000
theorem nou_spec (k : Int) (s : ByteArray) (h : nouB k s = true) : k = 1 ∧ s = { data := #[48] } := by
  unfold nouB at h
  simp only [Bool.and_eq_true, beq_iff_eq] at h
  refine ⟨h.1, ?_⟩
  have h2 := h.2
  rw [ByteArray.toList_eq] at h2
  apply ByteArray.ext
  show s.data = #[48]
  rw [← Array.toArray_toList (xs := s.data), h2]
theorem fpl_yes (k e : Int) (s : ByteArray) (h : nouB k s = true) : fpl k e s = -9223372036854775808 := by unfold fpl; rw [h]; rfl
theorem fpl_no (k e : Int) (s : ByteArray) (h : nouB k s = false) : fpl k e s = e + s.size := by unfold fpl; rw [h]; rfl
theorem cI_lt (x y : Int) (h : x < y) : cI x y = -1 := if_pos h
theorem cI_same (x : Int) : cI x x = 0 := by unfold cI; rw [if_neg (by omega), if_neg (by omega)]
/-- A nought is less than what is none, without signs. -/
theorem nou_less (f : Int) (ka : Int) (na : Bool) (ea : Int) (sa : ByteArray) (kb : Int) (nb : Bool) (eb : Int) (sb : ByteArray) (hb : numB f kb nb eb sb = true) (hk : kb = 1 ∨ kb = 2) (h1 : nouB ka sa = true) (h2 : nouB kb sb = false) : cmpU false ka ea sa kb eb sb = -1 := by
  obtain ⟨rfl, rfl⟩ := nou_spec ka sa h1
  unfold cmpU
  rw [if_neg (by decide)]
  rcases hk with rfl | rfl
  · obtain ⟨-, -, hs, he, -, -⟩ := numB_bd f 1 nb eb sb hb
    rw [show cI (kpl 1) (kpl 1) = 0 from rfl]
    show cszI _ _ _ _ _ _ = -1
    unfold cszI
    rw [fpl_yes _ _ _ h1, fpl_no _ _ _ h2, cI_lt _ _ (by omega)]; rfl
  · rfl
/-- The model's sign. -/
def mSg (k : Int) (n : Bool) (s : ByteArray) : Int := if nouB k s then 0 else if n then -1 else 1
/-- What the model's comparison tells. -/
def mcV (ka : Int) (na : Bool) (ea : Int) (sa : ByteArray) (kb : Int) (nb : Bool) (eb : Int) (sb : ByteArray) : Int := if nouB ka sa && nouB kb sb then 0 else cmpR false ka na ea sa kb nb eb sb
theorem mc_less (f : Int) (ka : Int) (na : Bool) (ea : Int) (sa : ByteArray) (kb : Int) (nb : Bool) (eb : Int) (sb : ByteArray) (ha : numB f ka na ea sa = true) (hb : numB f kb nb eb sb = true) (h1 : ka = 1 ∨ ka = 2) (h2 : kb = 1 ∨ kb = 2) (h : mSg ka na sa < mSg kb nb sb) : mcV ka na ea sa kb nb eb sb = -1 := by
  unfold mcV
  unfold mSg at h
  cases za : nouB ka sa <;> cases zb : nouB kb sb <;> rw [za, zb] at h
  · cases na <;> cases nb <;> first | rfl | (exfalso; simp at h)
  · cases na
    · exfalso; first | (simp at h; done) | (split at h <;> simp at h)
    · cases nb
      · rfl
      · show cmpU false kb eb sb ka ea sa = -1
        exact nou_less f kb true eb sb ka true ea sa ha h1 zb za
  · cases nb
    · cases na
      · show cmpU false ka ea sa kb eb sb = -1
        exact nou_less f ka true ea sa kb false eb sb hb h2 za zb
      · rfl
    · exfalso; first | (simp at h; done) | (split at h <;> simp at h)
  · exfalso; first | (simp at h; done) | (split at h <;> simp at h)
theorem cu_fin (ea : Int) (sa : ByteArray) (eb : Int) (sb : ByteArray) (h1 : nouB 1 sa = false) (h2 : nouB 1 sb = false) : cmpU false 1 ea sa 1 eb sb = orI (cI (ea + sa.size) (eb + sb.size)) (Lib.compareBytes (trS sa).data.toList (trS sb).data.toList) := by
  unfold cmpU
  rw [if_neg (by decide), show cI (kpl 1) (kpl 1) = 0 from rfl]
  show cszI _ _ _ _ _ _ = _
  unfold cszI
  rw [fpl_no _ _ _ h1, fpl_no _ _ _ h2]
end Go.Proofs.YteofommckgeemaaGreatDoor

namespace Go.Proofs.YteofommckgeemaaGreatDoor
set_option linter.unusedVariables false
set_option maxRecDepth 100000
/-- Of one value and sign: alike. -/
theorem alike_fin (f : Int) (n : Bool) (ea : Int) (da : List Int) (eb : Int) (db : List Int) (hA : numB f 1 n ea (tx da) = true) (hB : numB f 1 n eb (tx db) = true) (ca : Canon da) (cb : Canon db) (za : da ≠ [0]) (zb : db ≠ [0]) (h : SV (vl da) ea (vl db) eb) : cpR f 1 n ea (tx da) 1 n eb (tx db) = 0 := by
  have n1 := ca.2.1
  have n2 := cb.2.1
  have hz : ∀ (d : List Int), Canon d → d ≠ [0] → nouB 1 (tx d) = false := fun d hc hz => by
    unfold nouB
    rw [tx_is0 d hc.1 hz, Bool.and_false]
  have key : ∀ (e1 : Int) (d1 : List Int) (e2 : Int) (d2 : List Int), Canon d1 → Canon d2 → d1 ≠ [0] → d2 ≠ [0] → SV (vl d1) e1 (vl d2) e2 → cmpU false 1 e1 (tx d1) 1 e2 (tx d2) = 0 := fun e1 d1 e2 d2 c1 c2 z1 z2 hs => by
    have m1 := c1.2.1
    have m2 := c2.2.1
    have hlen : (d1.length : Int) + e1 = d2.length + e2 := by
      rcases hs with ⟨h, hv⟩ | ⟨h, hv⟩
      · have := len_more d2 d1 c2 z2 c1 (e2 - e1).toNat 0 (by rw [hv]; omega) (by decide) (ten_pos _)
        omega
      · have := len_more d1 d2 c1 z1 c2 (e1 - e2).toNat 0 (by rw [hv]; omega) (by decide) (ten_pos _)
        omega
    rw [cu_fin e1 (tx d1) e2 (tx d2) (hz d1 c1 z1) (hz d2 c2 z2), tx_size, tx_size, show e1 + (d1.length : Int) = e2 + (d2.length : Int) by omega, cI_same]
    show Lib.compareBytes _ _ = 0
    rw [cmp_trS d1 d2 c1.1 c2.1 (e1 - min e1 e2).toNat (e2 - min e1 e2).toNat (by omega), sv_at hs (min e1 e2) (by omega) (by omega), cI_same]
  unfold cpR
  rw [hA, hB, Bool.and_self, if_pos rfl, if_neg (by decide), hz da ca za, hz db cb zb, if_neg (by decide)]
  unfold cmpR
  cases n
  · exact key ea da eb db ca cb za zb h
  · exact key eb db ea da cb ca zb za h.symm
end Go.Proofs.YteofommckgeemaaGreatDoor

namespace Go.Proofs.YteofommckgeemaaGreatDoor
set_option linter.unusedVariables false
set_option maxRecDepth 100000
section
variable (f : Int) (mode : Int) (n1 : Bool) (e1 : Int) (d1 : List Int) (n2 : Bool) (e2 : Int) (d2 : List Int) (M : Int)
end
/-- Sums of two finite numbers that are right. -/
theorem addR_fin (f mode : Int) (hmo : 1 ≤ mode ∧ mode ≤ 5) (na : Bool) (ea : Int) (sa : ByteArray) (nb : Bool) (eb : Int) (sb : ByteArray) (hA : numB f 1 na ea sa = true) (hB : numB f 1 nb eb sb = true) : addR f mode 1 na ea sa 1 nb eb sb = sumX f mode na ea (dl sa) nb eb (dl sb) := by
  have hO : addO f mode 1 na ea sa 1 nb eb sb = true := by
    unfold addO
    rw [hA, hB, decide_eq_true hmo]
    rfl
  have hS : spB 2 (tw2 1 1) = false := decide_eq_false (by
    rintro ⟨i, hi, h⟩
    match i, hi with
    | 0, _ => rcases h with h | h <;> cases h
    | 1, _ => rcases h with h | h <;> cases h)
  unfold addR addX
  rw [hO, if_pos rfl, hS, if_neg (by decide), if_neg (fun h => absurd h.1 (by decide)), if_neg (by decide), if_neg (by decide)]
end Go.Proofs.YteofommckgeemaaGreatDoor

namespace Go.Proofs.YteofommckgeemaaGreatDoor
set_option linter.unusedVariables false
set_option maxRecDepth 100000
section
variable (f : Int) (mode : Int) (na : Bool) (ea : Int) (da : List Int) (nb : Bool) (eb : Int) (db : List Int)
end
/-- A number less itself. -/
theorem sub_self (f mode : Int) (hmo : 1 ≤ mode ∧ mode ≤ 5) (na : Bool) (ea : Int) (sa : ByteArray) (hA : numB f 1 na ea sa = true) : subR f mode 1 na ea sa 1 na ea sa = (decide (mode = 3), (1, ea, { data := #[48] }, 0)) := by
  obtain ⟨hf, ea1, -, ca⟩ := right_two f 1 na ea sa hA (by decide) (by decide)
  obtain ⟨q1, l1, x1, y1⟩ := ca rfl
  have hL := lims f hf
  have hu : tuB 1 na = !na := if_pos (.inl rfl)
  have hB' : numB f 1 (!na) ea sa = true := by rw [← hu, numB_tu]; exact hA
  have hne : na ≠ !na := by cases na <;> decide
  have hfz : ∀ g : Bool, finD f mode g [0] ea false ea = (1, ea, { data := #[48] }, 0) := fun g => by
    unfold finD
    rw [if_pos rfl, show min (limH f) (max (limL f) ea) = ea by omega]
  unfold subR
  rw [hu, addR_fin f mode hmo na ea sa (!na) ea sa hA hB']
  unfold sumX
  rw [show min ea ea = ea from Int.min_self ea]
  by_cases hz : dl sa = [0]
  · rw [if_pos ⟨hz, hz⟩, if_neg hne, hfz]
  · rw [if_neg (fun q => hz q.1), if_neg hz, if_neg hz, if_neg (Int.lt_irrefl _)]
    unfold sumY
    rw [if_neg (by omega), if_neg hne, if_pos rfl, hfz]
end Go.Proofs.YteofommckgeemaaGreatDoor

namespace Go.Proofs.YteofommckgeemaaGreatDoor
set_option linter.unusedVariables false
set_option maxRecDepth 100000
theorem rnd_exact (mode : Int) (neg : Bool) (v : Int) (k : Nat) (hmod : v % 10 ^ k = 0) : rndV mode neg v k false = v / 10 ^ k := by
  unfold rndV rndU
  have hU : upB mode neg (halfI (v % 10 ^ k) (10 ^ k) false k) (rndL v k false) (v / 10 ^ k) = false := by
    have hr : rndL v k false = false := by unfold rndL; rw [hmod]; rfl
    have hh : halfI (v % 10 ^ k) (10 ^ k) false k = -1 := by
      unfold halfI
      rw [hmod]
      by_cases c : k = 0
      · rw [if_pos c]
      · rw [if_neg c, if_pos (by have := ten_pos k; omega)]
    rw [hr, hh]
    unfold upB upO
    by_cases m1 : mode = 1
    · rw [if_pos m1]; rfl
    · rw [if_neg m1]
      by_cases m3 : mode = 3
      · rw [if_pos m3]; rfl
      · rw [if_neg m3]
        by_cases m4 : mode = 4
        · rw [if_pos m4]; rfl
        · rw [if_neg m4]
          by_cases m5 : mode = 5
          · rw [if_pos m5]; rfl
          · rw [if_neg m5]
  rw [hU]; simp
section
variable (f mode : Int) (na : Bool) (ea : Int) (sa : ByteArray) (nb : Bool) (eb : Int) (sb : ByteArray)
end
end Go.Proofs.YteofommckgeemaaGreatDoor

namespace Go.Proofs.YteofommckgeemaaGreatDoor
set_option linter.unusedVariables false
set_option maxRecDepth 100000
theorem finD_noughts (f : Int) (hf : f = 64 ∨ f = 128) (mode : Int) (neg : Bool) (ds : List Int) (e : Int) (K : Nat) (hc : Canon ds) (hz : ds ≠ [0]) (hl : (ds.length : Int) ≤ limP f) (h0 : limL f ≤ e) (h1 : e ≤ limH f) (hK : K ≤ 100) : finD f mode neg (nt (vl ds * 10 ^ K)) (e - K) false e = (1, e, tx ds, 0) := by
  have hp : limP f ≤ 34 := (lims f hf).1
  have n1 := hc.2.1
  have cN : ∀ k : Nat, Canon (ds ++ List.replicate k 0) := fun k => canon_noughts ds k hc hz
  have eN : ∀ k : Nat, k ≤ 100 → nt (vl ds * 10 ^ k) = ds ++ List.replicate k 0 := fun k hk => (nt_of _ _ (cN k) (vl_noughts ds k) (by simp; omega)).symm
  have v1 := vl_pos ds hc hz
  have zN : nt (vl ds * 10 ^ K) ≠ [0] := fun q => by
    rw [eN K hK] at q
    have := congrArg vl q
    rw [vl_noughts, show vl [0] = 0 from rfl] at this
    have := Int.mul_pos (show 0 < vl ds by omega) (ten_pos K)
    omega
  rw [finD_ne _ _ _ _ _ _ _ zN, eN K hK]
  have hj : finJ (limP f).toNat (ds ++ List.replicate K 0).length false = 0 := rfl
  have hlen : (ds ++ List.replicate K (0 : Int)).length = ds.length + K := by simp
  obtain ⟨dr, hdr⟩ : ∃ dr, finDr (limP f).toNat (ds.length + K) (limL f) (e - K) = dr := ⟨_, rfl⟩
  have hdK : dr ≤ K ∧ (ds.length : Int) + K - dr ≤ limP f := by rw [← hdr]; unfold finDr; omega
  obtain ⟨j, hjK⟩ : ∃ j, K = j + dr := ⟨K - dr, by omega⟩
  have hmod : vl ds * 10 ^ K % 10 ^ dr = 0 := by rw [hjK, Int.pow_add, ← Int.mul_assoc]; exact Int.mul_emod_left _ _
  have hdiv : vl ds * 10 ^ K / 10 ^ dr = vl ds * 10 ^ j := by rw [hjK, Int.pow_add, ← Int.mul_assoc]; exact Int.mul_ediv_cancel _ (Int.ne_of_gt (ten_pos dr))
  have hV : finV mode neg (vl ds * 10 ^ K) dr false = vl ds * 10 ^ j := by
    unfold finV
    rw [if_neg (by omega), rnd_exact mode neg _ dr hmod, hdiv]
  have hL : finLs (vl ds * 10 ^ K) dr false = false := by
    unfold finLs
    rw [if_neg (by omega)]
    unfold rndL; rw [hmod]; rfl
  unfold finN
  simp only [hj, Nat.add_zero, Int.pow_zero, Int.mul_one]
  have e0 : e - (K : Int) - ((0 : Nat) : Int) = e - K := by omega
  rw [e0, vl_noughts, hlen, hdr, hV, hL, eN j (by omega)]
  obtain ⟨D, hD⟩ : ∃ D, ds ++ List.replicate j (0 : Int) = D := ⟨_, rfl⟩
  have lD : D.length = ds.length + j := by rw [← hD]; simp
  rw [hD]
  have hT : finT (limP f).toNat D = D := by unfold finT; rw [if_neg (by omega)]
  have hTE : finTE (limP f).toNat D (e - (K : Int) + (dr : Int)) = e - j := by unfold finTE; rw [if_neg (by omega)]; omega
  have htz : j ≤ tz D := by
    rcases Nat.lt_or_ge (tz D) j with c | c
    · exfalso
      rcases tz_stop D (by omega) with q | q
      · omega
      · apply q
        rw [show D.length - 1 - tz D = ds.length + (j - 1 - tz D) by omega]
        generalize tz D = t at *
        rw [← hD, List.getD, List.getElem?_append_right (by omega), List.getElem?_replicate_of_lt (by omega)]
        rfl
    · exact c
  have hA : fA D (e - j) e (limH f) = j := by unfold fA; omega
  have hB : fB (D.length - j) (limP f).toNat (e - (j : Int) + (j : Int)) e (limL f) = 0 := by unfold fB; omega
  have h3D : fin3D false D (e - j) e (limL f) (limH f) (limP f).toNat = ds := by
    unfold fin3D
    rw [hA, hB, if_neg (by decide), lD, ← hD]
    simp
  have h3E : fin3E false D (e - j) e (limL f) (limH f) (limP f).toNat = e := by unfold fin3E; rw [hA, hB, if_neg (by decide)]; omega
  rw [hT, hTE, h3D, h3E]
  have hC : fC ds.length (limP f).toNat e (limH f) = 0 := by unfold fC; omega
  unfold fin5
  have h4E : fin4E ds e (limH f) (limP f).toNat = e := by unfold fin4E; rw [hC]; omega
  have h4D : fin4D ds e (limH f) (limP f).toNat = ds := by unfold fin4D; rw [hC]; simp
  rw [h4E, h4D, if_pos h1]
  rfl
end Go.Proofs.YteofommckgeemaaGreatDoor
