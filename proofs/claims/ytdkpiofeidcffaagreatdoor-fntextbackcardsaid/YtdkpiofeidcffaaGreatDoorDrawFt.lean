/-
  The draw of a format, walked.
-/
import Derived.Test.YtdkpiofeidcffaaGreatDoorDrawN
import Derived.Test.YtdkpiofeidcffaaGreatDoorNatS
import Derived.Deep.DeepCutAuto
namespace Go.Proofs.YtdkpiofeidcffaaGreatDoor
open Go.RowKit
set_option linter.unusedVariables false
set_option maxRecDepth 100000
def len5 : Array Value := #[.int .i64 4, .int .i64 20, .int .i64 40, .int .i64 100, .int .i64 110]
theorem len5_at (x : Int) (h0 : 0 ≤ x) (h1 : x < 5) : ∃ v : Int, len5[x.toNat]? = some (.int .i64 v) ∧ 1 ≤ v ∧ v ≤ 110 := by
  obtain ⟨n, rfl⟩ := Int.eq_ofNat_of_zero_le h0
  match n, h1 with
  | 0, _ => exact ⟨_, rfl, by omega, by omega⟩
  | 1, _ => exact ⟨_, rfl, by omega, by omega⟩
  | 2, _ => exact ⟨_, rfl, by omega, by omega⟩
  | 3, _ => exact ⟨_, rfl, by omega, by omega⟩
  | 4, _ => exact ⟨_, rfl, by omega, by omega⟩
def odd5 : Array Value := #[.string { data := #[] }, .string { data := #[48, 48] }, .string { data := #[48] }, .string { data := #[49, 120] }, .string { data := #[43, 49] }]
theorem odd5_at (x : Int) (h0 : 0 ≤ x) (h1 : x < 5) : ∃ v : ByteArray, odd5[x.toNat]? = some (.string v) ∧ v.size ≤ 300 := by
  obtain ⟨n, rfl⟩ := Int.eq_ofNat_of_zero_le h0
  match n, h1 with
  | 0, _ => exact ⟨_, rfl, by decide⟩
  | 1, _ => exact ⟨_, rfl, by decide⟩
  | 2, _ => exact ⟨_, rfl, by decide⟩
  | 3, _ => exact ⟨_, rfl, by decide⟩
  | 4, _ => exact ⟨_, rfl, by decide⟩
theorem bytes_bel {w w1 : World} {a : Option Addr} {len : Nat} (h : Bytes w.heap.size w a len) (hb : Below w.heap.size w w1) : Bytes w1.heap.size w1 a len := by
  have hs := hb.size
  rcases h with h | ⟨b, off, rfl, hl, hz⟩
  · exact .inl h
  · refine .inr ⟨b, off, rfl, by omega, fun j hj => ?_⟩
    obtain ⟨z, hc, r⟩ := hz j hj
    exact ⟨z, (hb.cell (p := ⟨b, off + j, none⟩) hl).trans hc, r⟩
theorem fitS_size (L : List Int) : (fitS L).size ≤ 300 := by
  unfold fitS
  split
  · rw [tx_size]; omega
  · decide
end Go.Proofs.YtdkpiofeidcffaaGreatDoor
namespace Go.Proofs.YtdkpiofeidcffaaGreatDoor
open Go.RowKit
set_option linter.unusedVariables false
set_option maxRecDepth 100000
def mod3 : Array Value := #[.int .i64 0, .int .i64 6, .int .i64 (-1)]
theorem mod3_at (x : Int) (h0 : 0 ≤ x) (h1 : x < 3) : ∃ v : Int, mod3[x.toNat]? = some (.int .i64 v) := by
  obtain ⟨n, rfl⟩ := Int.eq_ofNat_of_zero_le h0
  match n, h1 with
  | 0, _ => exact ⟨_, rfl⟩
  | 1, _ => exact ⟨_, rfl⟩
  | 2, _ => exact ⟨_, rfl⟩
def drp4 : Array Value := #[.int .i64 (-1), .int .i64 200, .int .i64 201, .int .i64 0]
theorem drp4_at (x : Int) (h0 : 0 ≤ x) (h1 : x < 4) : ∃ v : Int, drp4[x.toNat]? = some (.int .i64 v) := by
  obtain ⟨n, rfl⟩ := Int.eq_ofNat_of_zero_le h0
  match n, h1 with
  | 0, _ => exact ⟨_, rfl⟩
  | 1, _ => exact ⟨_, rfl⟩
  | 2, _ => exact ⟨_, rfl⟩
  | 3, _ => exact ⟨_, rfl⟩
set_option maxRecDepth 100000 in
theorem l12DrawMode_any (B cb : Nat) (w : World) (hc : Cur B w cb) :
    Calls Tryz.prog 32 #[.pointer (some ⟨cb, 0, none⟩)] w fun e w' => ∃ m : Int, e = .returned (.int .i64 m) ∧ Cur B w' cb ∧ w.grownBy w' (some cb) := by
  have hcl := hc.lt
  go_enter Tryz.func32, Tryz.ntmps32
  go_wp2_with fail
  refine (l1Once_any B cb 30 _ hc (by decide) (by decide)).mono ?_
  rintro e w1 ⟨b1, rfl, hc1, hg1⟩
  have hl1 := hc1.lt
  have HG1 : Hid (w.grownBy w1 (some cb)) := hg1
  have HC1 : Hid (Cur B w1 cb) := hc1
  clear hc hc1 hg1
  cases b1
  · go_wp2_with fail
    refine (l1Below_any B cb 5 _ HC1.out (by decide) (by decide)).mono ?_
    rintro e w2 ⟨y, rfl, y0, y1, hc2, hg2⟩
    have HG2 : Hid (w.grownBy w2 (some cb)) := grown_trans HG1.out hg2
    have HC2 : Hid (Cur B w2 cb) := hc2
    have hw : IntKind.i64.wrap (1 + y) = 1 + y := by rw [IntKind.wrap_i64]; omega
    clear hc2 hg2 HG1 HC1
    go_wp2
    go_ret
    exact ⟨_, rfl, HC2.out, HG2.out⟩
  · go_wp2_with fail
    refine (l1Below_any B cb 3 _ (cur_alloc HC1.out _) (by decide) (by decide)).mono ?_
    rintro e w2 ⟨y, rfl, y0, y1, hc2, hg2⟩
    obtain ⟨v, hv⟩ := mod3_at y y0 y1
    have hcell := lit_at (arr := mod3) hg2 hl1.2 y.toNat _ hv
    have HG2 : Hid (w.grownBy w2 (some cb)) := grown_trans (grown_trans HG1.out (World.grownBy_alloc _ _ _)) hg2
    have HC2 : Hid (Cur B w2 cb) := hc2
    clear hc2 hg2 HG1 HC1 hv
    go_wp2
    go_ret
    exact ⟨_, rfl, HC2.out, HG2.out⟩
end Go.Proofs.YtdkpiofeidcffaaGreatDoor
namespace Go.Proofs.YtdkpiofeidcffaaGreatDoor
open Go.RowKit
set_option linter.unusedVariables false
set_option maxRecDepth 100000
def fmt3 : Array Value := #[.int .i64 0, .int .i64 32, .int .i64 (-1)]
def fmt4 : Array Value := #[.int .i64 64, .int .i64 64, .int .i64 128]
theorem fmt3_at (x : Int) (h0 : 0 ≤ x) (h1 : x < 3) : ∃ v : Int, fmt3[x.toNat]? = some (.int .i64 v) := by
  obtain ⟨n, rfl⟩ := Int.eq_ofNat_of_zero_le h0
  match n, h1 with
  | 0, _ => exact ⟨_, rfl⟩
  | 1, _ => exact ⟨_, rfl⟩
  | 2, _ => exact ⟨_, rfl⟩
theorem fmt4_at (x : Int) (h0 : 0 ≤ x) (h1 : x < 3) : ∃ v : Int, fmt4[x.toNat]? = some (.int .i64 v) := by
  obtain ⟨n, rfl⟩ := Int.eq_ofNat_of_zero_le h0
  match n, h1 with
  | 0, _ => exact ⟨_, rfl⟩
  | 1, _ => exact ⟨_, rfl⟩
  | 2, _ => exact ⟨_, rfl⟩
set_option maxRecDepth 100000 in
theorem l10DrawFormat_any (B cb : Nat) (w : World) (hc : Cur B w cb) :
    Calls Tryz.prog 31 #[.pointer (some ⟨cb, 0, none⟩)] w fun e w' => ∃ m : Int, e = .returned (.int .i64 m) ∧ Cur B w' cb ∧ w.grownBy w' (some cb) := by
  have hcl := hc.lt
  go_enter Tryz.func31, Tryz.ntmps31
  go_wp2_with fail
  refine (l1Once_any B cb 24 _ hc (by decide) (by decide)).mono ?_
  rintro e w1 ⟨b1, rfl, hc1, hg1⟩
  have hl1 := hc1.lt
  have HG1 : Hid (w.grownBy w1 (some cb)) := hg1
  have HC1 : Hid (Cur B w1 cb) := hc1
  clear hc hc1 hg1
  cases b1
  · go_wp2_with fail
    refine (l1Below_any B cb 3 _ (cur_alloc HC1.out _) (by decide) (by decide)).mono ?_
    rintro e w2 ⟨y, rfl, y0, y1, hc2, hg2⟩
    obtain ⟨v, hv⟩ := fmt4_at y y0 y1
    have hcell := lit_at (arr := fmt4) hg2 hl1.2 y.toNat _ hv
    have HG2 : Hid (w.grownBy w2 (some cb)) := grown_trans (grown_trans HG1.out (World.grownBy_alloc _ _ _)) hg2
    have HC2 : Hid (Cur B w2 cb) := hc2
    clear hc2 hg2 HG1 HC1 hv
    go_wp2
    go_ret
    exact ⟨_, rfl, HC2.out, HG2.out⟩
  · go_wp2_with fail
    refine (l1Below_any B cb 3 _ (cur_alloc HC1.out _) (by decide) (by decide)).mono ?_
    rintro e w2 ⟨y, rfl, y0, y1, hc2, hg2⟩
    obtain ⟨v, hv⟩ := fmt3_at y y0 y1
    have hcell := lit_at (arr := fmt3) hg2 hl1.2 y.toNat _ hv
    have HG2 : Hid (w.grownBy w2 (some cb)) := grown_trans (grown_trans HG1.out (World.grownBy_alloc _ _ _)) hg2
    have HC2 : Hid (Cur B w2 cb) := hc2
    clear hc2 hg2 HG1 HC1 hv
    go_wp2
    go_ret
    exact ⟨_, rfl, HC2.out, HG2.out⟩
end Go.Proofs.YtdkpiofeidcffaaGreatDoor
