/-
  Texts of decimal digits: what the model's helpers on them answer, walked.
-/
import Derived.Test.YtdkpiofeidcffaaGreatDoorIn
import Derived.Test.YtdkpiofeidcffaaGreatDoorTxtM
namespace Go.Proofs.YtdkpiofeidcffaaGreatDoor
open Go.RowKit
set_option linter.unusedVariables false
set_option maxRecDepth 100000

theorem l11At_any (ds : List Int) (i : Nat) (w : World) (hd : Dec ds) (hs : ds.length ≤ 1000) (hi : i ≤ 2000) :
    Calls Tryz.prog 107 #[.string (tx ds), .int .i64 i] w fun e w' => e = .returned (.int .i64 (lo ds i)) ∧ w' = w := by
  have hz : (tx ds).size = ds.length := tx_size ds
  have Hz : Hid ((tx ds).size = ds.length) := hz
  by_cases h : i < ds.length
  · have h1 : i < (tx ds).size := by omega
    have h2 : (tx ds).size ≤ 1000 := by omega
    have h3 : (i : Int) < ((tx ds).size : Int) := by omega
    clear hz
    go_enter Tryz.func107, Tryz.ntmps107
    go_wp2
    go_ret
    refine ⟨Ln.ret_int ?_, rfl⟩
    rw [tx_at ds hd, lo_in ds i h, Hz.out]
    have := dec_at ds hd (ds.length - 1 - i)
    omega
  · have h1 : ((tx ds).size : Int) ≤ (i : Int) := by omega
    clear hz
    go_enter Tryz.func107, Tryz.ntmps107
    go_wp2
    go_ret
    exact ⟨Ln.ret_int (lo_out ds i (by omega)).symm, rfl⟩
def strSz : Value → Nat
  | .string b => b.size
  | _ => 0
theorem l10Strip_any (ds : List Int) (w : World) (hd : Dec ds) (hs : ds.length ≤ 1000) :
    Calls Tryz.prog 40 #[.string (tx ds)] w fun e w' => e = .returned (.string (tx (strip ds))) ∧ w' = w := by
  go_enter Tryz.func40, Tryz.ntmps40
  go_wp2
  go_loop [0] (fun s => ∃ r : List Int, s = .string (tx r) ∧ Hid (Dec r ∧ strip r = strip ds) ∧ r.length ≤ 1000) (fun s => strSz s)
  case atStart => exact ⟨ds, rfl, ⟨hd, rfl⟩, hs⟩
  case round =>
    obtain ⟨r, rfl, hr, hl⟩ := hrel
    have hz := tx_size r
    match r, hr, hl, hz with
    | [], hr, hl, hz =>
      have h1 : ¬ (1 : Int) < ((tx []).size : Int) := by rw [hz]; decide
      have h2 : decide ((1 : Int) < ((tx []).size : Int)) = false := by simpa using h1
      clear hz
      go_wp2
      go_ret
      exact ⟨by rw [← hr.out.2]; rfl, rfl⟩
    | [d], hr, hl, hz =>
      have h2 : decide ((1 : Int) < ((tx [d]).size : Int)) = false := by rw [hz]; rfl
      clear hz
      go_wp2
      go_ret
      exact ⟨by rw [← hr.out.2]; rfl, rfl⟩
    | d :: e :: r, hr, hl, hz =>
      have h1 : (1 : Int) < ((tx (d :: e :: r)).size : Int) := by rw [hz]; simp; omega
      have h0 : 0 < (tx (d :: e :: r)).size := by omega
      have ht := tx_at (d :: e :: r) hr.out.1 0 h0
      have htl := tx_tail d (e :: r)
      have hsz1 : Hid ((tx (e :: r)).size < (tx (d :: e :: r)).size) := by rw [Hid, tx_size, tx_size]; simp
      have hDr : Hid (Dec (e :: r)) := fun x hx => hr.out.1 x (List.mem_cons_of_mem _ hx)
      have HZ : Hid (strip (d :: e :: r) = if d = 0 then strip (e :: r) else d :: e :: r) := by rw [Hid]; simp only [strip]
      have Hl : Hid ((e :: r).length ≤ 1000) := by rw [Hid]; simp at hl ⊢; omega
      by_cases hdz : d = 0
      · have hb : ((((tx (d :: e :: r))[0]'h0).toNat : Int) == 48) = true := by rw [ht]; simp [hdz]
        have Hdz : Hid (d = 0) := hdz
        clear hz ht hdz
        go_wp2
        go_round
        case rel => exact ⟨e :: r, rfl, ⟨hDr.out, by rw [← hr.out.2, HZ.out, if_pos Hdz.out]⟩, Hl.out⟩
        case measure => exact hsz1.out
      · have hb : ((((tx (d :: e :: r))[0]'h0).toNat : Int) == 48) = false := by rw [ht]; simp; omega
        clear hz ht htl
        go_wp2
        go_ret
        exact ⟨by rw [← hr.out.2, HZ.out, if_neg hdz]; rfl, rfl⟩
theorem l10Nat_any (ds : List Int) (n : Int) (w : World) (h : Canon ds) (hs : ds.length ≤ 1000) (hn : (ds.length : Int) ≤ n) (hn2 : n ≤ 1000) :
    Calls Tryz.prog 23 #[.string (tx ds), .int .i64 n] w fun e w' => e = .returned (.bool true) ∧ w' = w := by
  obtain ⟨hd, hp, hh⟩ := h
  have hz : (tx ds).size = ds.length := tx_size ds
  have Hd : Hid (Dec ds) := hd
  have h0 : 0 < (tx ds).size := by omega
  have h1 : ¬ ((tx ds).size : Int) < 1 := by omega
  have h1' : decide (((tx ds).size : Int) < 1) = false := by simpa using h1
  have h2 : ¬ n < ((tx ds).size : Int) := by omega
  have h2' : decide (n < ((tx ds).size : Int)) = false := by simpa using h2
  have hs' : (tx ds).size ≤ 1000 := by omega
  have ht := tx_at ds hd 0 h0
  have hA : Hid (∀ k (hk : k < (tx ds).size), 48 ≤ (((tx ds)[k]'hk).toNat : Int) ∧ (((tx ds)[k]'hk).toNat : Int) ≤ 57) := fun k hk => by
    have a := tx_at ds hd k hk
    have b := dec_at ds hd k
    omega
  have hcase : decide ((1 : Int) < ((tx ds).size : Int)) = false ∨ ((1 : Int) < ((tx ds).size : Int) ∧ ((((tx ds)[0]'h0).toNat : Int) == 48) = false) := by
    rcases Nat.lt_or_ge 1 ds.length with c | c
    · refine .inr ⟨by omega, ?_⟩
      rw [ht]
      have : ds.headD 0 ≠ 0 := by rcases hh with hh | hh; omega; exact hh
      have e : ds.getD 0 0 = ds.headD 0 := by cases ds <;> rfl
      rw [e]; exact beq_eq_false_iff_ne.2 (by omega)
    · exact .inl (by simp; omega)
  clear hz hd ht h1 h2 hh
  rcases hcase with h3 | ⟨h3, h4⟩
  all_goals
    go_enter Tryz.func23, Tryz.ntmps23
    go_wp2
    go_loop [5] (fun i => ∃ k : Nat, k ≤ (tx ds).size ∧ i = .int .i64 k) (fun i => (tx ds).size - (intOf i).toNat)
    case atStart => exact ⟨0, Nat.zero_le _, rfl⟩
    case round =>
      obtain ⟨k, hk, rfl⟩ := hrel
      by_cases hlt : k < (tx ds).size
      · have hb := hA.out k hlt
        have hb1 : decide ((((tx ds)[k]'hlt).toNat : Int) < 48) = false := by simp; omega
        have hb2 : decide ((57 : Int) < (((tx ds)[k]'hlt).toNat : Int)) = false := by simp; omega
        clear hb
        go_wp2
        go_round
        case rel => exact ⟨k + 1, by omega, by go_num⟩
        case measure => simp [intOf]; omega
      · go_wp2
        go_ret
        exact ⟨rfl, rfl⟩
theorem info8 : (Tryz.prog.info? 5).map (fun i => (i.zero, i.size, i.bytes)) = some (some (.int .u8 0), 1, 1) := by kernel_rfl
/-- A row of bytes that the call owns, as a text. -/
theorem text_of_row (w : World) (base : Nat) (v : Value) (ds : List Int) (h : w.ownsRow base 5 1 v ds.length ((ds.map (48 + ·)).map (Value.int .u8))) (hp : 0 < ds.length) :
    ∃ g cap, v = .slice (some ⟨g, 0, none⟩) ds.length cap ∧ ∀ dst, Tryz.prog.underlying dst = some .string → (convert 22 dst v).run Tryz.prog w = .ok (.string (tx ds)) w := by
  have h0 := h
  obtain ⟨hl, h⟩ := h
  rcases h with ⟨_, h⟩ | ⟨g, cap, cur, rfl, hg, hc, hn, hm, hs, ht⟩
  · omega
  · refine ⟨g, cap, rfl, ?_⟩
    have := run_convert_bytes_arg (P := Tryz.prog) w 22 5 Tryz.underlying22 Tryz.underlying5 g 0 ds.length cap (ds.map (48 + ·)) (by simp) (fun i hi => by
      rw [Nat.zero_add, World.ownsRow.cellAt h0 i (by omega)]
      simp [List.getD, hi])
    exact this
end Go.Proofs.YtdkpiofeidcffaaGreatDoor
