/-
  The program's rounding, walked.
-/
import Derived.BigQuiet
import Derived.Test.YteofommckgeemaaGreatDoorRdp
import Derived.Test.YteofommckgeemaaGreatDoorShf
import Derived.Test.YteofommckgeemaaGreatDoorNaz
import Derived.Laws.EntriesVeiled
import Derived.Deep.RegionWith
namespace Go.Proofs.YteofommckgeemaaGreatDoor
open Go.RowKit
set_option linter.unusedVariables false
set_option maxRecDepth 100000
theorem all0_vl (G : List Int) (h : Dec G) : (∀ d ∈ G, d = 0) ↔ vl G = 0 := by
  have s := some1_vl G h
  unfold some1 at s
  refine ⟨fun q => ?_, fun q => fun d hd => ?_⟩
  · apply Classical.byContradiction
    intro hn
    rw [decide_eq_true hn] at s
    obtain ⟨d, hd, hx⟩ := List.any_eq_true.1 s
    rw [q d hd] at hx
    cases hx
  · rw [decide_eq_false (by simpa using q)] at s
    have := List.any_eq_false.1 s d hd
    simpa using this
theorem trim0_yes (G : List Int) (h : ∀ d ∈ G, d = 0) (hl : G.length ≤ 600) (w : World) :
    Calls Tryz.prog 297 #[.string (tx G), .string { data := #[48] }] w fun e w' => e = .returned (.string { data := #[] }) ∧ Below w.heap.size w w' := by
  have := Tryz.strings_Trim_one (tx G) 48 (by decide) w (by rw [tx_size]; omega)
  rw [show (48 : UInt8) = UInt8.ofNat (48 + (0 : Int)).toNat from rfl, trimTx_all G 0 h] at this
  refine this.mono ?_
  rintro e w' ⟨rfl, rfl | rfl⟩
  · exact ⟨rfl, Below.refl _ _⟩
  · exact ⟨rfl, (Below.refl _ _).drew⟩
theorem trim0_no (G : List Int) (hD : Dec G) (h : ¬ ∀ d ∈ G, d = 0) (hl : G.length ≤ 600) (w : World) :
    Calls Tryz.prog 297 #[.string (tx G), .string { data := #[48] }] w fun e w' => ∃ T : ByteArray, T.toList.isEmpty = false ∧ e = .returned (.string T) ∧ Below w.heap.size w w' := by
  have := Tryz.strings_Trim_one (tx G) 48 (by decide) w (by rw [tx_size]; omega)
  have hT := trimTx_some G 0 hD (by decide) h
  refine this.mono ?_
  rintro e w' ⟨rfl, rfl | rfl⟩
  · exact ⟨_, hT, rfl, Below.refl _ _⟩
  · exact ⟨_, hT, rfl, (Below.refl _ _).drew⟩
theorem trim9_yes (G : List Int) (h : ∀ d ∈ G, d = 9) (hl : G.length ≤ 600) (w : World) :
    Calls Tryz.prog 297 #[.string (tx G), .string { data := #[57] }] w fun e w' => e = .returned (.string { data := #[] }) ∧ Below w.heap.size w w' := by
  have := Tryz.strings_Trim_one (tx G) 57 (by decide) w (by rw [tx_size]; omega)
  rw [show (57 : UInt8) = UInt8.ofNat (48 + (9 : Int)).toNat from rfl, trimTx_all G 9 h] at this
  refine this.mono ?_
  rintro e w' ⟨rfl, rfl | rfl⟩
  · exact ⟨rfl, Below.refl _ _⟩
  · exact ⟨rfl, (Below.refl _ _).drew⟩
theorem trim9_no (G : List Int) (hD : Dec G) (h : ¬ ∀ d ∈ G, d = 9) (hl : G.length ≤ 600) (w : World) :
    Calls Tryz.prog 297 #[.string (tx G), .string { data := #[57] }] w fun e w' => ∃ T : ByteArray, T.toList.isEmpty = false ∧ e = .returned (.string T) ∧ Below w.heap.size w w' := by
  have := Tryz.strings_Trim_one (tx G) 57 (by decide) w (by rw [tx_size]; omega)
  have hT := trimTx_some G 9 hD (by decide) h
  refine this.mono ?_
  rintro e w' ⟨rfl, rfl | rfl⟩
  · exact ⟨_, hT, rfl, Below.refl _ _⟩
  · exact ⟨_, hT, rfl, (Below.refl _ _).drew⟩
theorem rep0_any (n : Nat) (hn : n ≤ 600) (w : World) :
    Calls Tryz.prog 184 #[.string { data := #[48] }, .int .i64 n] w fun e w' => e = .returned (.string (tx (List.replicate n 0))) ∧ Below w.heap.size w w' := by
  have := Tryz.strings_Repeat { data := #[48] } n w (by omega) (by show 1 * n ≤ _; omega)
  rw [show ({ data := #[48] } : ByteArray).data.toList = [48] from rfl, rep_tx] at this
  exact this
theorem iOdd_any (L : List Int) (hD : Dec L) (hp : 0 < L.length) (hl : L.length ≤ 600) (w : World) :
    Calls Tryz.prog 260 #[.string (tx L)] w fun e w' => e = .returned (.bool (decide (vl L % 2 = 1))) ∧ w' = w := by
  have hz := tx_size L
  have hs1 : L.length - 1 < (tx L).size := by omega
  have za := tx_at L hD (L.length - 1) hs1
  have zd := dec_at L hD (L.length - 1)
  have HM : Hid (vl L % 2 = L.getD (L.length - 1) 0 % 2) := vl_mod2 L hD hp
  generalize L.getD (L.length - 1) 0 = dd at *
  have a0 : IntKind.u8.wrap ((((tx L)[L.length - 1]'hs1).toNat : Int) - 48) = dd := by rw [IntKind.wrap_u8, za]; omega
  have a1 : Int.tmod dd 2 = dd % 2 := Int.tmod_eq_emod_of_nonneg zd.1
  have a2 : IntKind.u8.wrap (dd % 2) = dd % 2 := by rw [IntKind.wrap_u8]; omega
  have a3 : IntKind.i64.wrap ((L.length : Int) - 1) = (L.length : Int) - 1 := by rw [IntKind.wrap_i64]; omega
  have a4 : (0 : Int) ≤ (L.length : Int) - 1 := by omega
  have a5 : (L.length : Int) - 1 < (L.length : Int) := by omega
  have a6 : ((L.length : Int) - 1).toNat = L.length - 1 := by omega
  rw [HM.out]
  clear za zd HM
  go_enter Tryz.func260, Tryz.ntmps260
  go_wp2
  go_ret
  exact ⟨rfl, rfl⟩
theorem iPart_any (G : List Int) (rest : Bool) (hD : Dec G) (hl : G.length ≤ 500) (w : World) :
    Calls Tryz.prog 261 #[.string (tx G), .bool rest] w fun e w' => e = .returned (.int .i64 (prt (vl G) (10 ^ G.length) rest)) ∧ Below w.heap.size w w' := by
  by_cases h0 : ∀ d ∈ G, d = 0
  · have hv := (all0_vl G hD).1 h0
    have HE : Hid (prt (vl G) (10 ^ G.length) rest = if rest then 1 else 0) := by show _ = _; unfold prt; rw [if_pos hv]
    have HT : Hid (∀ X, Calls Tryz.prog 297 #[.string (tx G), .string { data := #[48] }] X fun e w' => e = .returned (.string { data := #[] }) ∧ Below X.heap.size X w') := fun X => trim0_yes G h0 (by omega) X
    rw [HE.out]
    clear hv HE h0 hD
    cases rest
    all_goals
      go_enter Tryz.func261, Tryz.ntmps261
      go_wp2_with fail
      refine (HT.out _).mono ?_
      rintro e w1 ⟨rfl, hb⟩
      go_wp2
      go_ret
      exact ⟨rfl, hb⟩
  · have hv : vl G ≠ 0 := fun q => h0 ((all0_vl G hD).2 q)
    obtain ⟨n, hn⟩ : ∃ n, G.length = n + 1 := ⟨G.length - 1, by
      cases G with
      | nil => exact absurd (fun d hd => by cases hd) h0
      | cons x r => simp⟩
    have HT : Hid (∀ X, Calls Tryz.prog 297 #[.string (tx G), .string { data := #[48] }] X fun e w' => ∃ T : ByteArray, T.toList.isEmpty = false ∧ e = .returned (.string T) ∧ Below X.heap.size X w') := fun X => trim0_no G hD h0 (by omega) X
    have HR : Hid (∀ X, Calls Tryz.prog 184 #[.string { data := #[48] }, .int .i64 n] X fun e w' => e = .returned (.string (tx (List.replicate n 0))) ∧ Below X.heap.size X w') := fun X => rep0_any n (by omega) X
    have hap : ({ data := #[53] } : ByteArray) ++ tx (List.replicate n 0) = tx (5 :: List.replicate n 0) := by
      have : ({ data := #[53] } : ByteArray) = tx [5] := by apply ByteArray.ext; rw [tx_data]; rfl
      rw [this, tx_append]; rfl
    have hH : Dec (5 :: List.replicate n 0) := fun d hd => by
      rcases List.mem_cons.1 hd with e | e
      · omega
      · have := (List.mem_replicate.1 e).2; omega
    have hHv : vl (5 :: List.replicate n 0) * 2 = 10 ^ G.length := by
      have := vl_noughts_ahead n []
      rw [List.append_nil] at this
      rw [vl_cons, List.length_replicate, this, hn, Int.pow_succ]
      show ((0 : Int) + _) * 2 = _
      omega
    have hcm := cmp_tx G (5 :: List.replicate n 0) hD hH (by rw [List.length_cons, List.length_replicate, hn])
    have HCm : Hid (∀ X, Calls Tryz.prog 276 #[.string (tx G), .string (tx (5 :: List.replicate n 0))] X fun e w' => e = .returned (.int .i64 (if vl G < vl (5 :: List.replicate n 0) then -1 else if vl G = vl (5 :: List.replicate n 0) then 0 else 1)) ∧ w' = X) := fun X => by
      have := Tryz.strings_Compare (tx G) (tx (5 :: List.replicate n 0)) X
      rw [hcm] at this
      exact this
    have hz : (tx G).size = n + 1 := by rw [tx_size, hn]
    have hz2 : (tx (List.replicate n 0)).size = n := by rw [tx_size, List.length_replicate]
    have w1 : IntKind.i64.wrap (((n : Int) + 1) - 1) = (n : Int) := by rw [IntKind.wrap_i64]; omega
    have hn5 : n ≤ 500 := by omega
    clear hcm hH
    generalize (5 :: List.replicate n 0 : List Int) = H at *
    have HV : Hid (prt (vl G) (10 ^ G.length) rest = if vl G < vl H then 1 else if vl G = vl H ∧ rest = false then 2 else 3) := by
      show _ = _
      unfold prt
      rw [if_neg hv, ← hHv]
      simp only [show (2 * vl G < vl H * 2) = (vl G < vl H) from propext ⟨fun h => by omega, fun h => by omega⟩, show (2 * vl G = vl H * 2) = (vl G = vl H) from propext ⟨fun h => by omega, fun h => by omega⟩]
    rw [HV.out]
    clear HV hHv hv h0 hD hn hl
    generalize vl G = u at *
    generalize vl H = v at *
    have hk : Hid (∀ C : Int, (if u < v then (-1 : Int) else if u = v then 0 else 1) = C → ∀ X, Calls Tryz.prog 276 #[.string (tx G), .string (tx H)] X fun e w' => e = .returned (.int .i64 C) ∧ w' = X) := fun C hC X => by rw [← hC]; exact HCm.out X
    clear HCm
    by_cases c1 : u < v
    · have HK : Hid (∀ X, Calls Tryz.prog 276 #[.string (tx G), .string (tx H)] X fun e w' => e = .returned (.int .i64 (-1)) ∧ w' = X) := hk.out (-1) (if_pos c1)
      rw [if_pos c1]
      clear hk c1
      go_enter Tryz.func261, Tryz.ntmps261
      go_wp2_with fail
      refine (HT.out _).mono ?_
      rintro e w2 ⟨T, hT, rfl, hb⟩
      go_wp2_with fail
      refine (HR.out _).mono ?_
      rintro e w3 ⟨rfl, hb3⟩
      go_wp2_with fail
      refine (HK.out _).mono ?_
      rintro e w4 ⟨rfl, rfl⟩
      go_wp2
      go_ret
      exact ⟨rfl, hb.trans (hb3.mono hb.size)⟩
    · rw [if_neg c1]
      by_cases c2 : u = v
      · have HK : Hid (∀ X, Calls Tryz.prog 276 #[.string (tx G), .string (tx H)] X fun e w' => e = .returned (.int .i64 0) ∧ w' = X) := hk.out 0 (by rw [if_neg c1, if_pos c2])
        clear hk
        cases rest
        · rw [if_pos ⟨c2, rfl⟩]
          clear c1 c2
          go_enter Tryz.func261, Tryz.ntmps261
          go_wp2_with fail
          refine (HT.out _).mono ?_
          rintro e w2 ⟨T, hT, rfl, hb⟩
          go_wp2_with fail
          refine (HR.out _).mono ?_
          rintro e w3 ⟨rfl, hb3⟩
          go_wp2_with fail
          refine (HK.out _).mono ?_
          rintro e w4 ⟨rfl, rfl⟩
          go_wp2
          go_ret
          exact ⟨rfl, hb.trans (hb3.mono hb.size)⟩
        · rw [if_neg fun q => by cases q.2]
          clear c1 c2
          go_enter Tryz.func261, Tryz.ntmps261
          go_wp2_with fail
          refine (HT.out _).mono ?_
          rintro e w2 ⟨T, hT, rfl, hb⟩
          go_wp2_with fail
          refine (HR.out _).mono ?_
          rintro e w3 ⟨rfl, hb3⟩
          go_wp2_with fail
          refine (HK.out _).mono ?_
          rintro e w4 ⟨rfl, rfl⟩
          go_wp2
          go_ret
          exact ⟨rfl, hb.trans (hb3.mono hb.size)⟩
      · have HK : Hid (∀ X, Calls Tryz.prog 276 #[.string (tx G), .string (tx H)] X fun e w' => e = .returned (.int .i64 1) ∧ w' = X) := hk.out 1 (by rw [if_neg c1, if_neg c2])
        rw [if_neg fun q => c2 q.1]
        clear hk c1 c2
        go_enter Tryz.func261, Tryz.ntmps261
        go_wp2_with fail
        refine (HT.out _).mono ?_
        rintro e w2 ⟨T, hT, rfl, hb⟩
        go_wp2_with fail
        refine (HR.out _).mono ?_
        rintro e w3 ⟨rfl, hb3⟩
        go_wp2_with fail
        refine (HK.out _).mono ?_
        rintro e w4 ⟨rfl, rfl⟩
        go_wp2
        go_ret
        exact ⟨rfl, hb.trans (hb3.mono hb.size)⟩
end Go.Proofs.YteofommckgeemaaGreatDoor

namespace Go.Proofs.YteofommckgeemaaGreatDoor
open Go.RowKit
set_option linter.unusedVariables false
set_option maxRecDepth 100000
theorem iSplit_any (ds : List Int) (k n : Nat) (hl : ds.length ≤ 300) (hk : k ≤ 200) (hn : (zpad (k + 1) ds).length = n + k) (w : World) :
    Calls Tryz.prog 253 #[.string (tx ds), .int .i64 k] w fun e w' => e = .returned (.tuple #[.string (tx ((zpad (k + 1) ds).take n)), .string (tx ((zpad (k + 1) ds).drop n))]) ∧ Below w.heap.size w w' := by
  have hlen := zpad_len (k + 1) ds
  obtain ⟨j, hj⟩ : ∃ j : Nat, k + 1 - ds.length = j := ⟨_, rfl⟩
  have HZ : Hid (zpad (k + 1) ds = List.replicate j 0 ++ ds) := by show _ = _; unfold zpad; rw [hj]
  have hz := tx_size ds
  have w1 : IntKind.i64.wrap ((k : Int) + 1) = (k : Int) + 1 := by rw [IntKind.wrap_i64]; omega
  have w2 : IntKind.i64.wrap ((k : Int) + 1 - (ds.length : Int)) = (k : Int) + 1 - (ds.length : Int) := by rw [IntKind.wrap_i64]; omega
  have HR : Hid (∀ X, Calls Tryz.prog 184 #[.string { data := #[48] }, .int .i64 j] X fun e w' => e = .returned (.string (tx (List.replicate j 0))) ∧ Below X.heap.size X w') := fun X => rep0_any j (by omega) X
  have hap : tx (List.replicate j 0) ++ tx ds = tx (List.replicate j 0 ++ ds) := tx_append _ _
  have hz2 : (tx (List.replicate j 0)).size = j := by rw [tx_size, List.length_replicate]
  have t1 := tx_take (zpad (k + 1) ds) n (by omega)
  have t2 := tx_drop (zpad (k + 1) ds) n (by omega)
  have hsz : (tx (zpad (k + 1) ds)).size = n + k := by rw [tx_size, hn]
  have HL : Hid (ds.length ≤ 300 ∧ k ≤ 200 ∧ n + k = max (k + 1) ds.length ∧ k + 1 - ds.length = j) := ⟨hl, hk, by omega, hj⟩
  rw [HZ.out] at t1 t2 hsz ⊢
  rw [hsz] at t2
  clear hn hlen HZ
  generalize List.replicate j 0 ++ ds = D at *
  have hnn : n ≤ 600 := by have := HL.out; omega
  have hj2 : j ≤ 300 := by have := HL.out; omega
  have w3 : IntKind.i64.wrap ((n : Int) + (k : Int) - (k : Int)) = (n : Int) := by rw [IntKind.wrap_i64]; omega
  have b1 : (n : Int) ≤ (n : Int) + (k : Int) := by omega
  clear hj
  by_cases hd : (0 : Int) < (k : Int) + 1 - (ds.length : Int)
  · have HJ : Hid ((k : Int) + 1 - (ds.length : Int) = (j : Int)) := by have := HL.out; show _ = _; omega
    rw [HJ.out] at w2 hd
    have hJ := HJ.out
    go_enter Tryz.func253, Tryz.ntmps253
    go_wp2_with fail
    refine (HR.out _).mono ?_
    rintro e w2 ⟨rfl, hb⟩
    clear hJ HJ hd
    go_wp2_with fail
    go_quiet (fail)
    go_wp2
    go_ret2
    exact ⟨rfl, below_drewN hb _⟩
  · obtain rfl : j = 0 := by have := HL.out; omega
    have HR0 : Hid (∀ X, Calls Tryz.prog 184 #[.string { data := #[48] }, .int .i64 0] X fun e w' => e = .returned (.string (tx [])) ∧ Below X.heap.size X w') := HR.out
    have hap0 : tx [] ++ tx ds = tx D := hap
    have hz0 : (tx []).size = 0 := hz2
    clear hap hz2
    clear HR
    have hmx : max (0 : Int) ((k : Int) + 1 - (ds.length : Int)) = 0 := by omega
    go_enter Tryz.func253, Tryz.ntmps253
    go_wp2_with fail
    refine (HR0.out _).mono ?_
    rintro e w2 ⟨rfl, hb⟩
    clear hd hmx
    go_wp2_with fail
    go_quiet (fail)
    go_wp2
    go_ret2
    exact ⟨rfl, below_drewN hb _⟩
theorem iOneMore_any (L : List Int) (h : Canon L) (hl : L.length ≤ 200) (w : World) :
    Calls Tryz.prog 262 #[.string (tx L)] w fun e w' => e = .returned (.string (tx (nt (vl L + 1)))) ∧ Below w.heap.size w w' := by
  by_cases h9 : ∀ d ∈ L, d = 9
  · have HE : Hid (nt (vl L + 1) = 1 :: List.replicate L.length 0) := (nt_of _ _ (ten_canon _) (by rw [vl_ten, nines_vl L h9]) (by rw [List.length_cons, List.length_replicate]; omega)).symm
    have HT : Hid (∀ X, Calls Tryz.prog 297 #[.string (tx L), .string { data := #[57] }] X fun e w' => e = .returned (.string { data := #[] }) ∧ Below X.heap.size X w') := fun X => trim9_yes L h9 (by omega) X
    have HR : Hid (∀ X, Calls Tryz.prog 184 #[.string { data := #[48] }, .int .i64 (L.length : Int)] X fun e w' => e = .returned (.string (tx (List.replicate L.length 0))) ∧ Below X.heap.size X w') := fun X => rep0_any L.length (by omega) X
    have hap : ({ data := #[49] } : ByteArray) ++ tx (List.replicate L.length 0) = tx (1 :: List.replicate L.length 0) := by rw [← tx_1, tx_append]; rfl
    have hz := tx_size L
    have hz2 : (tx (List.replicate L.length 0)).size = L.length := by rw [tx_size, List.length_replicate]
    rw [HE.out]
    clear h9 h HE
    go_enter Tryz.func262, Tryz.ntmps262
    go_wp2_with fail
    refine (HT.out _).mono ?_
    rintro e w2 ⟨rfl, hb⟩
    go_wp2_with fail
    refine (HR.out _).mono ?_
    rintro e w3 ⟨rfl, hb3⟩
    go_wp2
    go_ret
    exact ⟨rfl, hb.trans (hb3.mono hb.size)⟩
  · have HA : Hid (∀ X, Calls Tryz.prog 255 #[.string (tx L), .string { data := #[49] }] X fun e w' => e = .returned (.string (tx (nt (vl L + 1)))) ∧ Below X.heap.size X w') := fun X => by
      have := iNatAdd_any (tx L) { data := #[49] } X (by rw [tx_size]; omega) (by decide)
      rw [addS_one L h hl h9] at this
      exact this
    have HT : Hid (∀ X, Calls Tryz.prog 297 #[.string (tx L), .string { data := #[57] }] X fun e w' => ∃ T : ByteArray, T.toList.isEmpty = false ∧ e = .returned (.string T) ∧ Below X.heap.size X w') := fun X => trim9_no L h.1 h9 (by omega) X
    clear h9 h
    generalize nt (vl L + 1) = R at *
    go_enter Tryz.func262, Tryz.ntmps262
    go_wp2_with fail
    refine (HT.out _).mono ?_
    rintro e w2 ⟨T, hT, rfl, hb⟩
    go_wp2_with fail
    refine (HA.out _).mono ?_
    rintro e w3 ⟨rfl, hb3⟩
    go_wp2
    go_ret
    exact ⟨rfl, hb.trans (hb3.mono hb.size)⟩
/-- What a mode asks of a number whose last digits go. -/
abbrev cutV (neg od : Bool) (p : Int) : Value := .agg #[.bool neg, .bool od, .int .i64 p]
set_option maxRecDepth 100000 in
theorem grow1 (neg od : Bool) (p : Int) (hp : p = 0 ∨ p = 1 ∨ p = 2 ∨ p = 3) (w : World) : Calls Tryz.prog 204 #[cutV neg od p] w fun e w' => e = .returned (.bool (grw 1 neg od p)) ∧ Below w.heap.size w w' := by
  rcases hp with rfl | rfl | rfl | rfl <;> cases neg <;> cases od
  all_goals
    go_enter Tryz.func204, Tryz.ntmps204
    go_wp2
    go_ret
    exact ⟨rfl, (Below.refl _ _).alloc (Nat.le_refl _) _⟩
set_option maxRecDepth 100000 in
theorem grow2 (neg od : Bool) (p : Int) (hp : p = 0 ∨ p = 1 ∨ p = 2 ∨ p = 3) (w : World) : Calls Tryz.prog 205 #[cutV neg od p] w fun e w' => e = .returned (.bool (grw 2 neg od p)) ∧ Below w.heap.size w w' := by
  rcases hp with rfl | rfl | rfl | rfl <;> cases neg <;> cases od
  all_goals
    go_enter Tryz.func205, Tryz.ntmps205
    go_wp2
    go_ret
    exact ⟨rfl, (Below.refl _ _).alloc (Nat.le_refl _) _⟩
set_option maxRecDepth 100000 in
theorem grow3 (neg od : Bool) (p : Int) (hp : p = 0 ∨ p = 1 ∨ p = 2 ∨ p = 3) (w : World) : Calls Tryz.prog 206 #[cutV neg od p] w fun e w' => e = .returned (.bool (grw 3 neg od p)) ∧ Below w.heap.size w w' := by
  rcases hp with rfl | rfl | rfl | rfl <;> cases neg <;> cases od
  all_goals
    go_enter Tryz.func206, Tryz.ntmps206
    go_wp2
    go_ret
    exact ⟨rfl, (Below.refl _ _).alloc (Nat.le_refl _) _⟩
set_option maxRecDepth 100000 in
theorem grow4 (neg od : Bool) (p : Int) (hp : p = 0 ∨ p = 1 ∨ p = 2 ∨ p = 3) (w : World) : Calls Tryz.prog 207 #[cutV neg od p] w fun e w' => e = .returned (.bool (grw 4 neg od p)) ∧ Below w.heap.size w w' := by
  rcases hp with rfl | rfl | rfl | rfl <;> cases neg <;> cases od
  all_goals
    go_enter Tryz.func207, Tryz.ntmps207
    go_wp2
    go_ret
    exact ⟨rfl, (Below.refl _ _).alloc (Nat.le_refl _) _⟩
set_option maxRecDepth 100000 in
theorem grow5 (neg od : Bool) (p : Int) (hp : p = 0 ∨ p = 1 ∨ p = 2 ∨ p = 3) (w : World) : Calls Tryz.prog 208 #[cutV neg od p] w fun e w' => e = .returned (.bool (grw 5 neg od p)) ∧ Below w.heap.size w w' := by
  rcases hp with rfl | rfl | rfl | rfl <;> cases neg <;> cases od
  all_goals
    go_enter Tryz.func208, Tryz.ntmps208
    go_wp2
    go_ret
    exact ⟨rfl, (Below.refl _ _).alloc (Nat.le_refl _) _⟩
end Go.Proofs.YteofommckgeemaaGreatDoor
namespace Go.Proofs.YteofommckgeemaaGreatDoor
open Go.RowKit
set_option linter.unusedVariables false
set_option maxRecDepth 100000
theorem iClone_any (s : ByteArray) (w : World) (hs : s.size ≤ 600) :
    Calls Tryz.prog 209 #[.string s] w fun e w' => e = .returned (.string s) ∧ Below w.heap.size w w' := by
  go_enter Tryz.func209, Tryz.ntmps209
  go_wp2_with fail
  refine (Tryz.stringslite_Clone s _ (by omega)).mono ?_
  rintro e w1 ⟨rfl, hb⟩
  go_wp2
  go_ret
  exact ⟨rfl, hb⟩
abbrev fnV (F : Nat) : Value := .func (.func F) #[] #[]
theorem results_rd {fn : Func} {p t : Tmp} {b : Nat} {x : Value} (h : fn.results = #[.cell p 177, .tmp t]) (tmps : Array Value) (w : World) (hp : tmps[p]?.getD undef = .pointer (some ⟨b, 0, none⟩))
    (q0 : w.cell? ⟨b, 0, none⟩ = some x) : (results fn tmps).run Tryz.prog w = .ok (.tuple #[.agg #[x], tmps.getD t undef]) w := by
  simp [results, h, hp, go_sem, q0]
theorem new_at (w : World) (o : Obj) : (w.alloc o).heap[w.heap.size]? = some o := by
  show (w.heap.push o)[w.heap.size]? = some o
  exact Array.getElem?_push_size
theorem new_size (w : World) (o : Obj) : (w.alloc o).heap.size = w.heap.size + 1 := by
  show (w.heap.push o).size = w.heap.size + 1
  exact Array.size_push _
theorem new_cell1 (w : World) (x : Value) (T : TypeId) : (w.alloc (.cells #[x] T)).cell? ⟨w.heap.size, 0, none⟩ = some x := by
  have h := new_at w (.cells #[x] T)
  unfold World.cell?
  simp only [h]
  rfl
theorem new3 (w : World) (x y z : Value) (T : TypeId) : (w.alloc (.cells #[x, y, z] T)).cell? ⟨w.heap.size, 2, none⟩ = some z := by
  have h := new_at w (.cells #[x, y, z] T)
  unfold World.cell?
  simp only [h]
  rfl
theorem two_cell (w : World) (x : Value) (T : TypeId) (o : Obj) : ((w.alloc (.cells #[x] T)).alloc o).cell? ⟨w.heap.size, 0, none⟩ = some x := by
  have h2 : w.heap.size < (w.alloc (.cells #[x] T)).heap.size := by rw [new_size]; omega
  exact (((Below.refl _ (w.alloc (.cells #[x] T))).alloc (Nat.le_refl _) o).cell (p := ⟨w.heap.size, 0, none⟩) h2).trans (new_cell1 w x T)
theorem two_below (w : World) (o o' : Obj) : Below w.heap.size w ((w.alloc o).alloc o') := ((Below.refl _ _).alloc (Nat.le_refl _) _).alloc (by rw [new_size]; omega) _
set_option maxRecDepth 100000 in
theorem roundingOf_1 (w : World) :
    Calls Tryz.prog 149 #[.int .i64 1] w fun e w' => e = .returned (.tuple #[.agg #[fnV 204], .bool true]) ∧ Below w.heap.size w w' := by
  go_enter Tryz.func149, Tryz.ntmps149
  go_wp2
  refine bodyPost_ret (results_rd rfl _ _ rfl (two_cell _ _ _ _)) rfl ?_
  exact ⟨rfl, two_below _ _ _⟩
set_option maxRecDepth 100000 in
theorem roundingOf_2 (w : World) :
    Calls Tryz.prog 149 #[.int .i64 2] w fun e w' => e = .returned (.tuple #[.agg #[fnV 205], .bool true]) ∧ Below w.heap.size w w' := by
  go_enter Tryz.func149, Tryz.ntmps149
  go_wp2
  refine bodyPost_ret (results_rd rfl _ _ rfl (two_cell _ _ _ _)) rfl ?_
  exact ⟨rfl, two_below _ _ _⟩
set_option maxRecDepth 100000 in
theorem roundingOf_3 (w : World) :
    Calls Tryz.prog 149 #[.int .i64 3] w fun e w' => e = .returned (.tuple #[.agg #[fnV 206], .bool true]) ∧ Below w.heap.size w w' := by
  go_enter Tryz.func149, Tryz.ntmps149
  go_wp2
  refine bodyPost_ret (results_rd rfl _ _ rfl (two_cell _ _ _ _)) rfl ?_
  exact ⟨rfl, two_below _ _ _⟩
set_option maxRecDepth 100000 in
theorem roundingOf_4 (w : World) :
    Calls Tryz.prog 149 #[.int .i64 4] w fun e w' => e = .returned (.tuple #[.agg #[fnV 207], .bool true]) ∧ Below w.heap.size w w' := by
  go_enter Tryz.func149, Tryz.ntmps149
  go_wp2
  refine bodyPost_ret (results_rd rfl _ _ rfl (two_cell _ _ _ _)) rfl ?_
  exact ⟨rfl, two_below _ _ _⟩
set_option maxRecDepth 100000 in
theorem roundingOf_5 (w : World) :
    Calls Tryz.prog 149 #[.int .i64 5] w fun e w' => e = .returned (.tuple #[.agg #[fnV 208], .bool true]) ∧ Below w.heap.size w w' := by
  go_enter Tryz.func149, Tryz.ntmps149
  go_wp2
  refine bodyPost_ret (results_rd rfl _ _ rfl (two_cell _ _ _ _)) rfl ?_
  exact ⟨rfl, two_below _ _ _⟩
set_option maxRecDepth 100000 in
theorem roundingOf_no (m : Int) (hm : ¬ (1 ≤ m ∧ m ≤ 5)) (w : World) :
    Calls Tryz.prog 149 #[.int .i64 m] w fun e w' => e = .returned (.tuple #[.agg #[.nilFunc], .bool false]) ∧ Below w.heap.size w w' := by
  by_cases h1 : m < 1
  · go_enter Tryz.func149, Tryz.ntmps149
    go_wp2
    refine bodyPost_ret (results_rd rfl _ _ rfl (two_cell _ _ _ _)) rfl ?_
    exact ⟨rfl, two_below _ _ _⟩
  · have h2 : 5 < m := by omega
    clear hm
    go_enter Tryz.func149, Tryz.ntmps149
    go_wp2
    refine bodyPost_ret (results_rd rfl _ _ rfl (two_cell _ _ _ _)) rfl ?_
    exact ⟨rfl, two_below _ _ _⟩
theorem up_lost (mode : Int) (neg : Bool) (v : Int) (k : Nat) (rest : Bool) (h : rndU mode neg v k rest = true) : rndL v k rest = true := by
  rw [← grw_up] at h
  rw [← prt_lost]
  refine decide_eq_true fun q => ?_
  rw [q] at h
  unfold grw at h
  revert h
  repeat' split
  all_goals simp
theorem prt_cases (r m : Int) (rest : Bool) : prt r m rest = 0 ∨ prt r m rest = 1 ∨ prt r m rest = 2 ∨ prt r m rest = 3 := by
  unfold prt
  repeat' split
  all_goals simp
set_option maxRecDepth 100000 in
set_option maxHeartbeats 1000000 in
theorem roundOff_any (F : Nat) (mode : Int) (hent : ∀ args w, (callFunc F args).run Tryz.prog w = .ok (.enter F args) w)
    (HG : Hid (∀ neg od p, (p = 0 ∨ p = 1 ∨ p = 2 ∨ p = 3) → ∀ X, Calls Tryz.prog F #[cutV neg od p] X fun e w' => e = .returned (.bool (grw mode neg od p)) ∧ Below X.heap.size X w'))
    (neg : Bool) (ds : List Int) (k : Nat) (rest : Bool) (w : World) (hc : Canon ds) (hl : ds.length ≤ 200) (hk : k ≤ 200) :
    Calls Tryz.prog 222 #[.agg #[fnV F], .bool neg, .string (tx ds), .int .i64 k, .bool rest] w fun e w' => e = .returned (.tuple #[.string (tx (nt (rndV mode neg (vl ds) k rest))), .bool (rndL (vl ds) k rest)]) ∧ Below w.heap.size w w' := by
  have hlen := zpad_len (k + 1) ds
  obtain ⟨n, hn⟩ : ∃ n, (zpad (k + 1) ds).length = n + k := ⟨(zpad (k + 1) ds).length - k, by omega⟩
  have HS : Hid (∀ X, Calls Tryz.prog 253 #[.string (tx ds), .int .i64 k] X fun e w' => e = .returned (.tuple #[.string (tx ((zpad (k + 1) ds).take n)), .string (tx ((zpad (k + 1) ds).drop n))]) ∧ Below X.heap.size X w') := fun X => iSplit_any ds k n (by omega) hk hn X
  have hK := kept_canon ds hc k n hn
  have cv := cut_vl_two (zpad (k + 1) ds) (zpad_dec _ _ hc.1) n k hn
  rw [zpad_vl] at cv
  have hKl : ((zpad (k + 1) ds).take n).length = n := by rw [List.length_take]; omega
  have hGl : ((zpad (k + 1) ds).drop n).length = k := by rw [List.length_drop]; omega
  have dG : Dec ((zpad (k + 1) ds).drop n) := fun d hd => zpad_dec _ _ hc.1 d (List.mem_of_mem_drop hd)
  have hn2 : n ≤ 200 ∧ 0 < n := by omega
  clear hlen hn hl
  generalize (zpad (k + 1) ds).take n = K at *
  generalize (zpad (k + 1) ds).drop n = G at *
  have HO : Hid (∀ X, Calls Tryz.prog 260 #[.string (tx K)] X fun e w' => e = .returned (.bool (decide ((vl ds / 10 ^ k) % 2 = 1))) ∧ w' = X) := fun X => by
    have := iOdd_any K hK.1 (by omega) (by omega) X
    rw [cv.1] at this
    exact this
  have HP : Hid (∀ X, Calls Tryz.prog 261 #[.string (tx G), .bool rest] X fun e w' => e = .returned (.int .i64 (prt (vl ds % 10 ^ k) (10 ^ k) rest)) ∧ Below X.heap.size X w') := fun X => by
    have := iPart_any G rest dG (by omega) X
    rw [cv.2, hGl] at this
    exact this
  have HU : Hid (∀ X, Calls Tryz.prog F #[cutV neg (decide ((vl ds / 10 ^ k) % 2 = 1)) (prt (vl ds % 10 ^ k) (10 ^ k) rest)] X fun e w' => e = .returned (.bool (rndU mode neg (vl ds) k rest)) ∧ Below X.heap.size X w') := fun X => by
    have := HG.out neg (decide ((vl ds / 10 ^ k) % 2 = 1)) (prt (vl ds % 10 ^ k) (10 ^ k) rest) (prt_cases _ _ _) X
    rw [grw_up] at this
    exact this
  have HA : Hid (∀ X, Calls Tryz.prog 262 #[.string (tx K)] X fun e w' => e = .returned (.string (tx (nt (vl ds / 10 ^ k + 1)))) ∧ Below X.heap.size X w') := fun X => by
    have := iOneMore_any K hK (by omega) X
    rw [cv.1] at this
    exact this
  have HC : Hid (∀ X, Calls Tryz.prog 209 #[.string (tx K)] X fun e w' => e = .returned (.string (tx K)) ∧ Below X.heap.size X w') := fun X => iClone_any (tx K) X (by rw [tx_size]; omega)
  have HK : Hid (K = nt (vl ds / 10 ^ k)) := nt_of K _ hK cv.1 (by omega)
  have HL : Hid (decide (prt (vl ds % 10 ^ k) (10 ^ k) rest ≠ 0) = rndL (vl ds) k rest) := prt_lost _ _ _
  have HUL : Hid (rndU mode neg (vl ds) k rest = true → rndL (vl ds) k rest = true) := up_lost _ _ _ _ _
  have HRV : Hid (rndV mode neg (vl ds) k rest = vl ds / 10 ^ k + (if rndU mode neg (vl ds) k rest then 1 else 0)) := rfl
  have wk : IntKind.i64.wrap (k : Int) = (k : Int) := by rw [IntKind.wrap_i64]; omega
  clear HG cv hK dG hGl hKl hc
  generalize rndU mode neg (vl ds) k rest = U at *
  generalize rndV mode neg (vl ds) k rest = RV at *
  generalize rndL (vl ds) k rest = LO at *
  generalize prt (vl ds % 10 ^ k) (10 ^ k) rest = PP at *
  generalize (decide ((vl ds / 10 ^ k) % 2 = 1)) = OD at *
  generalize vl ds / 10 ^ k = Q at *
  go_enter Tryz.func222, Tryz.ntmps222
  go_wp2_with fail
  refine (HS.out _).mono ?_
  rintro e w1 ⟨rfl, hb1⟩
  go_wp2_with fail
  refine (HO.out _).mono ?_
  rintro e w2 ⟨rfl, rfl⟩
  go_wp2_with fail
  refine (HP.out _).mono ?_
  rintro e w3 ⟨rfl, hb3⟩
  have hsz : w.heap.size < (w.alloc (.cells #[fnV F] 177)).heap.size := by rw [new_size]; omega
  have c0 := new_cell1 w (fnV F) 177
  have c1 := (hb1.cell (p := ⟨w.heap.size, 0, none⟩) hsz).trans c0
  have c3 := (hb3.cell (p := ⟨w.heap.size, 0, none⟩) (Nat.lt_of_lt_of_le hsz hb1.size)).trans c1
  have hw3 : w.heap.size < w3.heap.size := Nat.lt_of_lt_of_le hsz (Nat.le_trans hb1.size hb3.size)
  have HB : Hid (Below w.heap.size w w3 ∧ w.heap.size < w3.heap.size) := ⟨(((Below.refl _ w).alloc (Nat.le_refl _) _).trans (hb1.mono (Nat.le_of_lt hsz))).trans (hb3.mono (Nat.le_of_lt (Nat.lt_of_lt_of_le hsz hb1.size))), hw3⟩
  have cX : ∀ o, (w3.alloc o).cell? ⟨w.heap.size, 0, none⟩ = some (.func (.func F) #[] #[]) := fun o => (((Below.refl _ w3).alloc (Nat.le_refl _) o).cell (p := ⟨w.heap.size, 0, none⟩) hw3).trans c3
  clear hsz c0 c1 c3 hw3 hb1 hb3
  go_wp2_with fail
  refine (HU.out _).mono ?_
  rintro e w4 ⟨rfl, hb4⟩
  have HB4 : Hid (Below w.heap.size w w4) := by
    have h1 := new_size w3 (.cells #[.bool neg, .bool OD, .int .i64 PP] 249)
    exact (HB.out.1.trans ((Below.refl _ w3).alloc (Nat.le_of_lt HB.out.2) _)).trans (hb4.mono (by rw [h1]; have := HB.out.2; omega))
  have hlt : w3.heap.size < (w3.alloc (.cells #[.bool neg, .bool OD, .int .i64 PP] 249)).heap.size := by rw [new_size]; omega
  have q2 := (hb4.cell (p := ⟨w3.heap.size, 2, none⟩) hlt).trans (new3 w3 (.bool neg) (.bool OD) (.int .i64 PP) 249)
  have HQ : Hid (w3.heap.size < w4.heap.size) := Nat.lt_of_lt_of_le hlt hb4.size
  clear hb4 HB cX hlt
  cases U
  · have HR : Hid (RV = Q) := by have := HRV.out; show _ = _; simpa using this
    have HX : Hid ((PP != 0) = LO) := by
      show _ = _
      rw [← HL.out]
      by_cases h : PP = 0
      · subst h; rfl
      · simp [h]
    have HQ2 : Hid (∀ w5, Below w4.drew.heap.size w4.drew w5 → w5.cell? ⟨w3.heap.size, 2, none⟩ = some (.int .i64 PP) ∧ Below w.heap.size w w5) := fun w5 h => ⟨(h.cell (p := ⟨w3.heap.size, 2, none⟩) HQ.out).trans q2, HB4.out.drew.trans (h.mono HB4.out.size)⟩
    go_wp2_with fail
    go_region_with (go_at_call 209; refine (HC.out _).mono ?_; rintro e w5 ⟨rfl, hb5⟩; obtain ⟨q5, hB5⟩ := HQ2.out _ hb5; clear hb5)
    all_goals
      go_wp2
      go_ret2
      exact ⟨by rw [HR.out, ← HK.out, ← HX.out]; rfl, hB5⟩
  · have hLO : LO = true := HUL.out rfl
    subst hLO
    have HR : Hid (RV = Q + 1) := by have := HRV.out; show _ = _; simpa using this
    go_wp2_with fail
    refine (HA.out _).mono ?_
    rintro e w5 ⟨rfl, hb5⟩
    go_wp2
    go_ret2
    exact ⟨by rw [HR.out]; rfl, HB4.out.trans (hb5.mono HB4.out.size)⟩
end Go.Proofs.YteofommckgeemaaGreatDoor
