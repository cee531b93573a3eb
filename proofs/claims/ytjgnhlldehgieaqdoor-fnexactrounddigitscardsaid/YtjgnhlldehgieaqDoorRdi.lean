/-
  The program's parts of rounding, walked: digits split, odd ones, what is cut off held against a half, one more.
-/
import Derived.Test.YtjgnhlldehgieaqDoorRdp
import Derived.Test.YtjgnhlldehgieaqDoorShf
import Derived.Test.YtjgnhlldehgieaqDoorNaz
import Derived.BigQuiet
namespace Go.Proofs.YtjgnhlldehgieaqDoor
open Go.RowKit
set_option linter.unusedVariables false
set_option maxRecDepth 100000
theorem all0_vl (G : List Int) (h : Dec G) : (∀ d ∈ G, d = 0) ↔ vl G = 0 := by
  have s := some1_vl G h
  unfold some1 at s
  refine ⟨fun q => ?_, fun q => fun d hd => ?_⟩
  · apply Classical.byContradiction
    intro hn
    rw [decide_eq_true hn] at s
    obtain ⟨d, hd, hx⟩ := List.any_eq_true.1 s
    rw [q d hd] at hx
    cases hx
  · rw [decide_eq_false (by simpa using q)] at s
    have := List.any_eq_false.1 s d hd
    simpa using this
theorem trim0_yes (G : List Int) (h : ∀ d ∈ G, d = 0) (hl : G.length ≤ 600) (w : World) :
    Calls Tryd.prog 30 #[.string (tx G), .string { data := #[48] }] w fun e w' => e = .returned (.string { data := #[] }) ∧ Below w.heap.size w w' := by
  have := Tryd.strings_Trim_one (tx G) 48 (by decide) w (by rw [tx_size]; omega)
  rw [show (48 : UInt8) = UInt8.ofNat (48 + (0 : Int)).toNat from rfl, trimTx_all G 0 h] at this
  refine this.mono ?_
  rintro e w' ⟨rfl, rfl | rfl⟩
  · exact ⟨rfl, Below.refl _ _⟩
  · exact ⟨rfl, (Below.refl _ _).drew⟩
theorem trim0_no (G : List Int) (hD : Dec G) (h : ¬ ∀ d ∈ G, d = 0) (hl : G.length ≤ 600) (w : World) :
    Calls Tryd.prog 30 #[.string (tx G), .string { data := #[48] }] w fun e w' => ∃ T : ByteArray, T.toList.isEmpty = false ∧ e = .returned (.string T) ∧ Below w.heap.size w w' := by
  have := Tryd.strings_Trim_one (tx G) 48 (by decide) w (by rw [tx_size]; omega)
  have hT := trimTx_some G 0 hD (by decide) h
  refine this.mono ?_
  rintro e w' ⟨rfl, rfl | rfl⟩
  · exact ⟨_, hT, rfl, Below.refl _ _⟩
  · exact ⟨_, hT, rfl, (Below.refl _ _).drew⟩
theorem trim9_yes (G : List Int) (h : ∀ d ∈ G, d = 9) (hl : G.length ≤ 600) (w : World) :
    Calls Tryd.prog 30 #[.string (tx G), .string { data := #[57] }] w fun e w' => e = .returned (.string { data := #[] }) ∧ Below w.heap.size w w' := by
  have := Tryd.strings_Trim_one (tx G) 57 (by decide) w (by rw [tx_size]; omega)
  rw [show (57 : UInt8) = UInt8.ofNat (48 + (9 : Int)).toNat from rfl, trimTx_all G 9 h] at this
  refine this.mono ?_
  rintro e w' ⟨rfl, rfl | rfl⟩
  · exact ⟨rfl, Below.refl _ _⟩
  · exact ⟨rfl, (Below.refl _ _).drew⟩
theorem trim9_no (G : List Int) (hD : Dec G) (h : ¬ ∀ d ∈ G, d = 9) (hl : G.length ≤ 600) (w : World) :
    Calls Tryd.prog 30 #[.string (tx G), .string { data := #[57] }] w fun e w' => ∃ T : ByteArray, T.toList.isEmpty = false ∧ e = .returned (.string T) ∧ Below w.heap.size w w' := by
  have := Tryd.strings_Trim_one (tx G) 57 (by decide) w (by rw [tx_size]; omega)
  have hT := trimTx_some G 9 hD (by decide) h
  refine this.mono ?_
  rintro e w' ⟨rfl, rfl | rfl⟩
  · exact ⟨_, hT, rfl, Below.refl _ _⟩
  · exact ⟨_, hT, rfl, (Below.refl _ _).drew⟩
theorem rep0_any (n : Nat) (hn : n ≤ 600) (w : World) :
    Calls Tryd.prog 29 #[.string { data := #[48] }, .int .i64 n] w fun e w' => e = .returned (.string (tx (List.replicate n 0))) ∧ Below w.heap.size w w' := by
  have := Tryd.strings_Repeat { data := #[48] } n w (by omega) (by show 1 * n ≤ _; omega)
  rw [show ({ data := #[48] } : ByteArray).data.toList = [48] from rfl, rep_tx] at this
  exact this
theorem iOdd_any (L : List Int) (hD : Dec L) (hp : 0 < L.length) (hl : L.length ≤ 600) (w : World) :
    Calls Tryd.prog 23 #[.string (tx L)] w fun e w' => e = .returned (.bool (decide (vl L % 2 = 1))) ∧ w' = w := by
  have hz := tx_size L
  have hs1 : L.length - 1 < (tx L).size := by omega
  have za := tx_at L hD (L.length - 1) hs1
  have zd := dec_at L hD (L.length - 1)
  have HM : Hid (vl L % 2 = L.getD (L.length - 1) 0 % 2) := vl_mod2 L hD hp
  generalize L.getD (L.length - 1) 0 = dd at *
  have a0 : IntKind.u8.wrap ((((tx L)[L.length - 1]'hs1).toNat : Int) - 48) = dd := by rw [IntKind.wrap_u8, za]; omega
  have a1 : Int.tmod dd 2 = dd % 2 := Int.tmod_eq_emod_of_nonneg zd.1
  have a2 : IntKind.u8.wrap (dd % 2) = dd % 2 := by rw [IntKind.wrap_u8]; omega
  have a3 : IntKind.i64.wrap ((L.length : Int) - 1) = (L.length : Int) - 1 := by rw [IntKind.wrap_i64]; omega
  have a4 : (0 : Int) ≤ (L.length : Int) - 1 := by omega
  have a5 : (L.length : Int) - 1 < (L.length : Int) := by omega
  have a6 : ((L.length : Int) - 1).toNat = L.length - 1 := by omega
  rw [HM.out]
  clear za zd HM
  go_enter Tryd.func23, Tryd.ntmps23
  go_wp2
  go_ret
  exact ⟨rfl, rfl⟩
theorem iPart_any (G : List Int) (rest : Bool) (hD : Dec G) (hl : G.length ≤ 500) (w : World) :
    Calls Tryd.prog 24 #[.string (tx G), .bool rest] w fun e w' => e = .returned (.int .i64 (prt (vl G) (10 ^ G.length) rest)) ∧ Below w.heap.size w w' := by
  by_cases h0 : ∀ d ∈ G, d = 0
  · have hv := (all0_vl G hD).1 h0
    have HE : Hid (prt (vl G) (10 ^ G.length) rest = if rest then 1 else 0) := by show _ = _; unfold prt; rw [if_pos hv]
    have HT : Hid (∀ X, Calls Tryd.prog 30 #[.string (tx G), .string { data := #[48] }] X fun e w' => e = .returned (.string { data := #[] }) ∧ Below X.heap.size X w') := fun X => trim0_yes G h0 (by omega) X
    rw [HE.out]
    clear hv HE h0 hD
    cases rest
    all_goals
      go_enter Tryd.func24, Tryd.ntmps24
      go_wp2_with fail
      refine (HT.out _).mono ?_
      rintro e w1 ⟨rfl, hb⟩
      go_wp2
      go_ret
      exact ⟨rfl, hb⟩
  · have hv : vl G ≠ 0 := fun q => h0 ((all0_vl G hD).2 q)
    obtain ⟨n, hn⟩ : ∃ n, G.length = n + 1 := ⟨G.length - 1, by
      cases G with
      | nil => exact absurd (fun d hd => by cases hd) h0
      | cons x r => simp⟩
    have HT : Hid (∀ X, Calls Tryd.prog 30 #[.string (tx G), .string { data := #[48] }] X fun e w' => ∃ T : ByteArray, T.toList.isEmpty = false ∧ e = .returned (.string T) ∧ Below X.heap.size X w') := fun X => trim0_no G hD h0 (by omega) X
    have HR : Hid (∀ X, Calls Tryd.prog 29 #[.string { data := #[48] }, .int .i64 n] X fun e w' => e = .returned (.string (tx (List.replicate n 0))) ∧ Below X.heap.size X w') := fun X => rep0_any n (by omega) X
    have hap : ({ data := #[53] } : ByteArray) ++ tx (List.replicate n 0) = tx (5 :: List.replicate n 0) := by
      have : ({ data := #[53] } : ByteArray) = tx [5] := by apply ByteArray.ext; rw [tx_data]; rfl
      rw [this, tx_append]; rfl
    have hH : Dec (5 :: List.replicate n 0) := fun d hd => by
      rcases List.mem_cons.1 hd with e | e
      · omega
      · have := (List.mem_replicate.1 e).2; omega
    have hHv : vl (5 :: List.replicate n 0) * 2 = 10 ^ G.length := by
      have := vl_noughts_ahead n []
      rw [List.append_nil] at this
      rw [vl_cons, List.length_replicate, this, hn, Int.pow_succ]
      show ((0 : Int) + _) * 2 = _
      omega
    have hcm := cmp_tx G (5 :: List.replicate n 0) hD hH (by rw [List.length_cons, List.length_replicate, hn])
    have HCm : Hid (∀ X, Calls Tryd.prog 31 #[.string (tx G), .string (tx (5 :: List.replicate n 0))] X fun e w' => e = .returned (.int .i64 (if vl G < vl (5 :: List.replicate n 0) then -1 else if vl G = vl (5 :: List.replicate n 0) then 0 else 1)) ∧ w' = X) := fun X => by
      have := Tryd.strings_Compare (tx G) (tx (5 :: List.replicate n 0)) X
      rw [hcm] at this
      exact this
    have hz : (tx G).size = n + 1 := by rw [tx_size, hn]
    have hz2 : (tx (List.replicate n 0)).size = n := by rw [tx_size, List.length_replicate]
    have w1 : IntKind.i64.wrap (((n : Int) + 1) - 1) = (n : Int) := by rw [IntKind.wrap_i64]; omega
    have hn5 : n ≤ 500 := by omega
    clear hcm hH
    generalize (5 :: List.replicate n 0 : List Int) = H at *
    have HV : Hid (prt (vl G) (10 ^ G.length) rest = if vl G < vl H then 1 else if vl G = vl H ∧ rest = false then 2 else 3) := by
      show _ = _
      unfold prt
      rw [if_neg hv, ← hHv]
      simp only [show (2 * vl G < vl H * 2) = (vl G < vl H) from propext ⟨fun h => by omega, fun h => by omega⟩, show (2 * vl G = vl H * 2) = (vl G = vl H) from propext ⟨fun h => by omega, fun h => by omega⟩]
    rw [HV.out]
    clear HV hHv hv h0 hD hn hl
    generalize vl G = u at *
    generalize vl H = v at *
    have hk : Hid (∀ C : Int, (if u < v then (-1 : Int) else if u = v then 0 else 1) = C → ∀ X, Calls Tryd.prog 31 #[.string (tx G), .string (tx H)] X fun e w' => e = .returned (.int .i64 C) ∧ w' = X) := fun C hC X => by rw [← hC]; exact HCm.out X
    clear HCm
    by_cases c1 : u < v
    · have HK : Hid (∀ X, Calls Tryd.prog 31 #[.string (tx G), .string (tx H)] X fun e w' => e = .returned (.int .i64 (-1)) ∧ w' = X) := hk.out (-1) (if_pos c1)
      rw [if_pos c1]
      clear hk c1
      go_enter Tryd.func24, Tryd.ntmps24
      go_wp2_with fail
      refine (HT.out _).mono ?_
      rintro e w2 ⟨T, hT, rfl, hb⟩
      go_wp2_with fail
      refine (HR.out _).mono ?_
      rintro e w3 ⟨rfl, hb3⟩
      go_wp2_with fail
      refine (HK.out _).mono ?_
      rintro e w4 ⟨rfl, rfl⟩
      go_wp2
      go_ret
      exact ⟨rfl, hb.trans (hb3.mono hb.size)⟩
    · rw [if_neg c1]
      by_cases c2 : u = v
      · have HK : Hid (∀ X, Calls Tryd.prog 31 #[.string (tx G), .string (tx H)] X fun e w' => e = .returned (.int .i64 0) ∧ w' = X) := hk.out 0 (by rw [if_neg c1, if_pos c2])
        clear hk
        cases rest
        · rw [if_pos ⟨c2, rfl⟩]
          clear c1 c2
          go_enter Tryd.func24, Tryd.ntmps24
          go_wp2_with fail
          refine (HT.out _).mono ?_
          rintro e w2 ⟨T, hT, rfl, hb⟩
          go_wp2_with fail
          refine (HR.out _).mono ?_
          rintro e w3 ⟨rfl, hb3⟩
          go_wp2_with fail
          refine (HK.out _).mono ?_
          rintro e w4 ⟨rfl, rfl⟩
          go_wp2
          go_ret
          exact ⟨rfl, hb.trans (hb3.mono hb.size)⟩
        · rw [if_neg fun q => by cases q.2]
          clear c1 c2
          go_enter Tryd.func24, Tryd.ntmps24
          go_wp2_with fail
          refine (HT.out _).mono ?_
          rintro e w2 ⟨T, hT, rfl, hb⟩
          go_wp2_with fail
          refine (HR.out _).mono ?_
          rintro e w3 ⟨rfl, hb3⟩
          go_wp2_with fail
          refine (HK.out _).mono ?_
          rintro e w4 ⟨rfl, rfl⟩
          go_wp2
          go_ret
          exact ⟨rfl, hb.trans (hb3.mono hb.size)⟩
      · have HK : Hid (∀ X, Calls Tryd.prog 31 #[.string (tx G), .string (tx H)] X fun e w' => e = .returned (.int .i64 1) ∧ w' = X) := hk.out 1 (by rw [if_neg c1, if_neg c2])
        rw [if_neg fun q => c2 q.1]
        clear hk c1 c2
        go_enter Tryd.func24, Tryd.ntmps24
        go_wp2_with fail
        refine (HT.out _).mono ?_
        rintro e w2 ⟨T, hT, rfl, hb⟩
        go_wp2_with fail
        refine (HR.out _).mono ?_
        rintro e w3 ⟨rfl, hb3⟩
        go_wp2_with fail
        refine (HK.out _).mono ?_
        rintro e w4 ⟨rfl, rfl⟩
        go_wp2
        go_ret
        exact ⟨rfl, hb.trans (hb3.mono hb.size)⟩
end Go.Proofs.YtjgnhlldehgieaqDoor
