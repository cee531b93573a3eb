/-
  Texts of decimal digits: what the model's helpers on them answer, walked.
-/
import Derived.Test.YtcflomcankcggatDoorSl
import Derived.Test.YtcflomcankcggatDoorTxtM
namespace Go.Proofs.YtcflomcankcggatDoor
open Go.RowKit
set_option linter.unusedVariables false
set_option maxRecDepth 100000

def strSz : Value → Nat
  | .string b => b.size
  | _ => 0
theorem l10Nat_any (ds : List Int) (n : Int) (w : World) (h : Canon ds) (hs : ds.length ≤ 1000) (hn : (ds.length : Int) ≤ n) (hn2 : n ≤ 1000) :
    Calls Tryd.prog 29 #[.string (tx ds), .int .i64 n] w fun e w' => e = .returned (.bool true) ∧ w' = w := by
  obtain ⟨hd, hp, hh⟩ := h
  have hz : (tx ds).size = ds.length := tx_size ds
  have Hd : Hid (Dec ds) := hd
  have h0 : 0 < (tx ds).size := by omega
  have h1 : ¬ ((tx ds).size : Int) < 1 := by omega
  have h1' : decide (((tx ds).size : Int) < 1) = false := by simpa using h1
  have h2 : ¬ n < ((tx ds).size : Int) := by omega
  have h2' : decide (n < ((tx ds).size : Int)) = false := by simpa using h2
  have hs' : (tx ds).size ≤ 1000 := by omega
  have ht := tx_at ds hd 0 h0
  have hA : Hid (∀ k (hk : k < (tx ds).size), 48 ≤ (((tx ds)[k]'hk).toNat : Int) ∧ (((tx ds)[k]'hk).toNat : Int) ≤ 57) := fun k hk => by
    have a := tx_at ds hd k hk
    have b := dec_at ds hd k
    omega
  have hcase : decide ((1 : Int) < ((tx ds).size : Int)) = false ∨ ((1 : Int) < ((tx ds).size : Int) ∧ ((((tx ds)[0]'h0).toNat : Int) == 48) = false) := by
    rcases Nat.lt_or_ge 1 ds.length with c | c
    · refine .inr ⟨by omega, ?_⟩
      rw [ht]
      have : ds.headD 0 ≠ 0 := by rcases hh with hh | hh; omega; exact hh
      have e : ds.getD 0 0 = ds.headD 0 := by cases ds <;> rfl
      rw [e]; exact beq_eq_false_iff_ne.2 (by omega)
    · exact .inl (by simp; omega)
  clear hz hd ht h1 h2 hh
  rcases hcase with h3 | ⟨h3, h4⟩
  all_goals
    go_enter Tryd.func29, Tryd.ntmps29
    go_wp2
    go_loop [5] (fun i => ∃ k : Nat, k ≤ (tx ds).size ∧ i = .int .i64 k) (fun i => (tx ds).size - (intOf i).toNat)
    case atStart => exact ⟨0, Nat.zero_le _, rfl⟩
    case round =>
      obtain ⟨k, hk, rfl⟩ := hrel
      by_cases hlt : k < (tx ds).size
      · have hb := hA.out k hlt
        have hb1 : decide ((((tx ds)[k]'hlt).toNat : Int) < 48) = false := by simp; omega
        have hb2 : decide ((57 : Int) < (((tx ds)[k]'hlt).toNat : Int)) = false := by simp; omega
        clear hb
        go_wp2
        go_round
        case rel => exact ⟨k + 1, by omega, by go_num⟩
        case measure => simp [intOf]; omega
      · go_wp2
        go_ret
        exact ⟨rfl, rfl⟩
theorem info8 : (Tryd.prog.info? 5).map (fun i => (i.zero, i.size, i.bytes)) = some (some (.int .u8 0), 1, 1) := by kernel_rfl
/-- A row of bytes that the call owns, as a text. -/
theorem text_of_row (w : World) (base : Nat) (v : Value) (ds : List Int) (h : w.ownsRow base 5 1 v ds.length ((ds.map (48 + ·)).map (Value.int .u8))) (hp : 0 < ds.length) :
    ∃ g cap, v = .slice (some ⟨g, 0, none⟩) ds.length cap ∧ ∀ dst, Tryd.prog.underlying dst = some .string → (convert 49 dst v).run Tryd.prog w = .ok (.string (tx ds)) w := by
  have h0 := h
  obtain ⟨hl, h⟩ := h
  rcases h with ⟨_, h⟩ | ⟨g, cap, cur, rfl, hg, hc, hn, hm, hs, ht⟩
  · omega
  · refine ⟨g, cap, rfl, ?_⟩
    have := run_convert_bytes_arg (P := Tryd.prog) w 49 5 Tryd.underlying49 Tryd.underlying5 g 0 ds.length cap (ds.map (48 + ·)) (by simp) (fun i hi => by
      rw [Nat.zero_add, World.ownsRow.cellAt h0 i (by omega)]
      simp [List.getD, hi])
    exact this
end Go.Proofs.YtcflomcankcggatDoor
