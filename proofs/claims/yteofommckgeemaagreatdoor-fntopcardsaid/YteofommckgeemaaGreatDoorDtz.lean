/-
  Noughts ahead trimmed by strings.TrimLeft; walked.
-/
import Derived.Test.YteofommckgeemaaGreatDoorReb
import Derived.Test.YteofommckgeemaaGreatDoorTxtM
import Derived.Handy
import Derived.Test.YteofommckgeemaaGreatDoorSl
import Derived.Test.YteofommckgeemaaGreatDoorCls

namespace Go.Proofs.YteofommckgeemaaGreatDoor
open Go.RowKit
set_option linter.unusedVariables false
set_option maxRecDepth 100000
theorem r32_form {w : World} {base : Nat} {v : Value} {n : Nat} {xs : List Value} (h : w.ownsRow base 21 1 v n xs) :
    ∃ a cap, v = .slice a n cap ∧ (0 < n → ∃ g, a = some ⟨g, 0, none⟩ ∧ base ≤ g ∧ g < w.heap.size ∧ n ≤ cap ∧ ∀ i, i < n → w.cell? ⟨g, i, none⟩ = xs[i]?) := by
  have h0 := h
  obtain ⟨hl, h⟩ := h
  rcases h with ⟨rfl, h⟩ | ⟨g, cap, cur, rfl, hg, hc, hn, hm, hs, ht⟩
  · exact ⟨_, _, by rw [h], fun hp => by omega⟩
  · exact ⟨_, cap, rfl, fun hp => ⟨g, rfl, hg, (Array.getElem?_eq_some_iff.1 hc).1, by omega, fun i hi => World.ownsRow.cellAt h0 i (by omega)⟩⟩
/-- The number that letters are the digits of. -/
def pe (D : List Int) : Int := D.foldl (fun p y => 10 * p + (y - 48)) 0
theorem pe_more (D : List Int) (y : Int) : pe (D ++ [y]) = 10 * pe D + (y - 48) := by
  unfold pe
  rw [List.foldl_append]
  rfl
theorem pe_bd (D : List Int) (h : ∀ y ∈ D, 48 ≤ y ∧ y ≤ 57) : 0 ≤ pe D ∧ pe D < 10 ^ D.length := by
  have key : ∀ (l : List Int), (∀ y ∈ l, 48 ≤ y ∧ y ≤ 57) → 0 ≤ pe l.reverse ∧ pe l.reverse < 10 ^ l.length := fun l => by
    induction l with
    | nil => intro _; exact ⟨by decide, by decide⟩
    | cons x r ih =>
      intro hl
      obtain ⟨i1, i2⟩ := ih (fun y hy => hl y (List.mem_cons_of_mem _ hy))
      have hx := hl x List.mem_cons_self
      rw [List.reverse_cons, pe_more, List.length_cons, Int.pow_succ]
      exact ⟨by omega, by omega⟩
  have := key D.reverse (fun y hy => h y (List.mem_reverse.1 hy))
  rw [List.reverse_reverse, List.length_reverse] at this
  exact this
set_option maxHeartbeats 1000000 in
theorem exponentOf_any (neg : Bool) (v : Value) (D : List Int) (base : Nat) (w : World) (h : w.ownsRow base 21 1 v D.length (D.map (Value.int .i32))) (hd : ∀ y ∈ D, 48 ≤ y ∧ y ≤ 57) (hl : D.length ≤ 5) :
    Calls Tryz.prog 269 #[.bool neg, v] w fun e w' => e = .returned (.int .i64 (if neg then -pe D else pe D)) ∧ w' = w := by
  obtain ⟨a, cap, rfl, hg⟩ := r32_form h
  have HA : Hid (0 < D.length → ∃ g, a = some ⟨g, 0, none⟩ ∧ base ≤ g ∧ g < w.heap.size ∧ D.length ≤ cap ∧ ∀ i, i < D.length → w.cell? ⟨g, i, none⟩ = (D.map (Value.int .i32))[i]?) := hg
  have HD : Hid (∀ y ∈ D, 48 ≤ y ∧ y ≤ 57) := hd
  have HL : Hid (D.length ≤ 5) := hl
  clear h hg hd
  go_enter Tryz.func269, Tryz.ntmps269
  go_wp2
  go_loopw [5, 10] (fun pw i wr => ∃ k : Nat, k ≤ D.length ∧ i = .int .i64 k ∧ pw = .int .i64 (pe (D.take k)) ∧ wr = w) (fun _ i _ => D.length - (intOf i).toNat)
  case atStart => exact ⟨0, Nat.zero_le _, rfl, rfl, rfl⟩
  case round =>
    obtain ⟨k, hk, rfl, rfl, rfl⟩ := hrel
    by_cases hlt : k < D.length
    · obtain ⟨g, rfl, -, hgl, -, hca⟩ := HA.out (by omega)
      have hget : D[k]? = some D[k] := List.getElem?_eq_getElem hlt
      have c0 : wr.cell? ⟨g, k, none⟩ = some (.int .i32 D[k]) := by
        rw [hca k hlt, List.getElem?_map, hget]; rfl
      have hy := HD.out D[k] (List.getElem_mem hlt)
      have ht : D.take (k + 1) = D.take k ++ [D[k]] := (List.take_append_getElem hlt).symm
      have hp := pe_bd (D.take k) (fun y hy => HD.out y (List.mem_of_mem_take hy))
      have hp2 := pe_more (D.take k) D[k]
      rw [← ht] at hp2
      have hq : pe (D.take k) < 100000 := by
        have h1 : (10 : Int) ^ (D.take k).length ≤ 10 ^ 5 := pow_mono _ _ (by rw [List.length_take]; have := HL.out; omega)
        have h2 : (10 : Int) ^ 5 = 100000 := by decide
        omega
      have hk1 : (k : Int) < (D.length : Int) := by omega
      obtain ⟨Q, hQe⟩ : ∃ Q, pe (D.take (k + 1)) = Q := ⟨_, rfl⟩
      rw [hQe] at hp2
      have HQe : Hid (pe (D.take (k + 1)) = Q) := hQe
      clear hQe
      generalize pe (D.take k) = P at *
      generalize D[k] = y at *
      have w1 : IntKind.i64.wrap (10 * P) = 10 * P := by rw [IntKind.wrap_i64]; omega
      have w2 : IntKind.i32.wrap (y - 48) = y - 48 := by rw [IntKind.wrap_i32]; omega
      have w4 : IntKind.i64.wrap (y - 48) = y - 48 := by rw [IntKind.wrap_i64]; omega
      have w3 : IntKind.i64.wrap (10 * P + (y - 48)) = Q := by rw [IntKind.wrap_i64]; omega
      have HQ : Hid (Q = 10 * P + (y - 48)) := hp2
      have hl5 : D.length ≤ 5 := HL.out
      clear hca hget ht hp hp2 hq hy hl
      go_wp2
      go_roundw
      case rel => exact ⟨k + 1, by omega, by go_num, by rw [HQe.out], by first | exact rfl | exact trivial⟩
      case measure => simp [intOf]; omega
    · obtain rfl : k = D.length := by omega
      have hp := pe_bd D HD.out
      have hq : pe D < 100000 := by
        have h1 : (10 : Int) ^ D.length ≤ 10 ^ 5 := pow_mono _ _ (by have := HL.out; omega)
        have h2 : (10 : Int) ^ 5 = 100000 := by decide
        omega
      obtain ⟨P, hPe⟩ : ∃ P, pe D = P := ⟨_, rfl⟩
      rw [List.take_length, hPe]
      rw [hPe] at hp hq
      have HPe : Hid (pe D = P) := hPe
      have w1 : IntKind.i64.wrap (-P) = -P := by rw [IntKind.wrap_i64]; omega
      clear hp hq hl hPe
      cases neg
      all_goals
        go_wp2
        go_ret
        exact ⟨by rw [HPe.out]; rfl, rfl⟩
end Go.Proofs.YteofommckgeemaaGreatDoor
namespace Go.Proofs.YteofommckgeemaaGreatDoor
open Go.RowKit
set_option linter.unusedVariables false
set_option maxRecDepth 100000
set_option linter.unusedSimpArgs false
/-- Noughts ahead struck, all of them. -/
def dz : List Int → List Int
  | [] => []
  | d :: r => if d = 0 then dz r else d :: r
theorem dz_strip (A : List Int) (d : Int) : strip (A ++ [d]) = dz A ++ [d] := by
  induction A with
  | nil => rfl
  | cons x r ih =>
    cases r with
    | nil =>
      show strip [x, d] = dz [x] ++ [d]
      unfold strip dz
      split <;> rfl
    | cons y t =>
      show strip (x :: y :: (t ++ [d])) = dz (x :: y :: t) ++ [d]
      by_cases h : x = 0
      · have e1 : strip (x :: y :: (t ++ [d])) = strip (y :: (t ++ [d])) := by simp only [strip]; rw [if_pos h]
        have e2 : dz (x :: y :: t) = dz (y :: t) := by rw [dz, if_pos h]
        rw [e1, e2]
        exact ih
      · have e1 : strip (x :: y :: (t ++ [d])) = x :: y :: (t ++ [d]) := by simp only [strip]; rw [if_neg h]
        have e2 : dz (x :: y :: t) = x :: y :: t := by rw [dz, if_neg h]
        rw [e1, e2]
        rfl
theorem dz_len (A : List Int) : (dz A).length ≤ A.length := by
  induction A with
  | nil => simp [dz]
  | cons x r ih => unfold dz; split <;> simp <;> omega
def strZ : Value → Nat
  | .string b => b.size
  | _ => 0
theorem trimLeftByte_any (ds : List Int) (w : World) (hd : Dec ds) (hs : ds.length ≤ 1000) :
    Calls Tryz.prog 318 #[.string (tx ds), .int .u8 48] w fun e w' => e = .returned (.string (tx (dz ds))) ∧ w' = w := by
  go_enter Tryz.func318, Tryz.ntmps318
  go_wp2
  go_loop [0] (fun s => ∃ r : List Int, s = .string (tx r) ∧ Hid (Dec r ∧ dz r = dz ds) ∧ r.length ≤ 1000) (fun s => strZ s)
  case atStart => exact ⟨ds, rfl, ⟨hd, rfl⟩, hs⟩
  case round =>
    obtain ⟨r, rfl, hr, hl⟩ := hrel
    have hz := tx_size r
    match r, hr, hl, hz with
    | [], hr, hl, hz =>
      have h2 : decide ((0 : Int) < ((tx []).size : Int)) = false := by rw [hz]; decide
      clear hz
      go_wp2
      go_ret
      exact ⟨by rw [← hr.out.2]; rfl, rfl⟩
    | d :: r, hr, hl, hz =>
      have h1 : (0 : Int) < ((tx (d :: r)).size : Int) := by rw [hz]; simp <;> omega
      have h0 : 0 < (tx (d :: r)).size := by omega
      have ht := tx_at (d :: r) hr.out.1 0 h0
      have htl := tx_tail d r
      have hsz1 : Hid ((tx r).size < (tx (d :: r)).size) := by rw [Hid, tx_size, tx_size]; simp
      have hDr : Hid (Dec r) := fun x hx => hr.out.1 x (List.mem_cons_of_mem _ hx)
      have HZ : Hid (dz (d :: r) = if d = 0 then dz r else d :: r) := by rw [Hid, dz]
      have Hl : Hid (r.length ≤ 1000) := by rw [Hid]; simp at hl ⊢; omega
      by_cases hdz : d = 0
      · have hb : ((((tx (d :: r))[0]'h0).toNat : Int) == 48) = true := by rw [ht]; simp [hdz]
        have Hdz : Hid (d = 0) := hdz
        clear hz ht hdz
        go_wp2
        go_round
        case rel => exact ⟨r, rfl, ⟨hDr.out, by rw [← hr.out.2, HZ.out, if_pos Hdz.out]⟩, Hl.out⟩
        case measure => exact hsz1.out
      · have hb : ((((tx (d :: r))[0]'h0).toNat : Int) == 48) = false := by rw [ht]; simp; omega
        clear hz ht htl
        go_wp2
        go_ret
        exact ⟨by rw [← hr.out.2, HZ.out, if_neg hdz]; rfl, rfl⟩
theorem TrimLeft_any (ds : List Int) (w : World) (hd : Dec ds) (hs : ds.length ≤ 1000) (hp : 0 < ds.length) :
    Calls Tryz.prog 302 #[.string (tx ds), .string { data := #[48] }] w fun e w' => e = .returned (.string (tx (dz ds))) ∧ w' = w := by
  have H : Hid (∀ X, Calls Tryz.prog 318 #[.string (tx ds), .int .u8 48] X fun e w' => e = .returned (.string (tx (dz ds))) ∧ w' = X) := fun X => trimLeftByte_any ds X hd hs
  have hz := tx_size ds
  have he : (tx ds).toList.isEmpty = false := by
    cases h : (tx ds).toList.isEmpty with
    | false => rfl
    | true =>
      have h2 : (tx ds).data.toList.length = ds.length := by simpa using hz
      have h1 : (tx ds).toList = [] := by simpa using h
      rw [ByteArray.toList_eq] at h1
      rw [h1] at h2
      simp at h2; omega
  generalize tx (dz ds) = R at *
  generalize tx ds = T at *
  go_enter Tryz.func302, Tryz.ntmps302
  go_wp2_with fail
  refine (H.out _).mono ?_
  rintro e w1 ⟨rfl, rfl⟩
  go_wp2
  go_ret
  exact ⟨rfl, rfl⟩
end Go.Proofs.YteofommckgeemaaGreatDoor
