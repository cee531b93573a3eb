/-
  A number read from a word, by the program: what lies where meanwhile.
-/
import Derived.Test.YtmjkpjmccdjkjadDoorTbs
import Derived.Test.YtmjkpjmccdjkjadDoorDcZ
import Derived.Test.YtmjkpjmccdjkjadDoorWrdR
import Derived.Test.YtmjkpjmccdjkjadDoorFmt
import Derived.Handy
import Derived.Test.YtmjkpjmccdjkjadDoorCut64
import Derived.Test.YtmjkpjmccdjkjadDoorCut128
import Derived.Test.YtmjkpjmccdjkjadDoorSpw
import Derived.Test.YtmjkpjmccdjkjadDoorNum
namespace Go.Proofs.YtmjkpjmccdjkjadDoor
open Go.RowKit
set_option linter.unusedVariables false
set_option maxRecDepth 100000
set_option linter.unusedSimpArgs false
/-- Noughts ahead struck, all of them. -/
def dz : List Int → List Int
  | [] => []
  | d :: r => if d = 0 then dz r else d :: r
theorem dz_strip (A : List Int) (d : Int) : strip (A ++ [d]) = dz A ++ [d] := by
  induction A with
  | nil => rfl
  | cons x r ih =>
    cases r with
    | nil =>
      show strip [x, d] = dz [x] ++ [d]
      unfold strip dz
      split <;> rfl
    | cons y t =>
      show strip (x :: y :: (t ++ [d])) = dz (x :: y :: t) ++ [d]
      by_cases h : x = 0
      · have e1 : strip (x :: y :: (t ++ [d])) = strip (y :: (t ++ [d])) := by simp only [strip]; rw [if_pos h]
        have e2 : dz (x :: y :: t) = dz (y :: t) := by rw [dz, if_pos h]
        rw [e1, e2]
        exact ih
      · have e1 : strip (x :: y :: (t ++ [d])) = x :: y :: (t ++ [d]) := by simp only [strip]; rw [if_neg h]
        have e2 : dz (x :: y :: t) = x :: y :: t := by rw [dz, if_neg h]
        rw [e1, e2]
        rfl
theorem dz_len (A : List Int) : (dz A).length ≤ A.length := by
  induction A with
  | nil => simp [dz]
  | cons x r ih => unfold dz; split <;> simp <;> omega
def strZ : Value → Nat
  | .string b => b.size
  | _ => 0
theorem trimLeftByte_any (ds : List Int) (w : World) (hd : Dec ds) (hs : ds.length ≤ 1000) :
    Calls Tryd.prog 53 #[.string (tx ds), .int .u8 48] w fun e w' => e = .returned (.string (tx (dz ds))) ∧ w' = w := by
  go_enter Tryd.func53, Tryd.ntmps53
  go_wp2
  go_loop [0] (fun s => ∃ r : List Int, s = .string (tx r) ∧ Hid (Dec r ∧ dz r = dz ds) ∧ r.length ≤ 1000) (fun s => strZ s)
  case atStart => exact ⟨ds, rfl, ⟨hd, rfl⟩, hs⟩
  case round =>
    obtain ⟨r, rfl, hr, hl⟩ := hrel
    have hz := tx_size r
    match r, hr, hl, hz with
    | [], hr, hl, hz =>
      have h2 : decide ((0 : Int) < ((tx []).size : Int)) = false := by rw [hz]; decide
      clear hz
      go_wp2
      go_ret
      exact ⟨by rw [← hr.out.2]; rfl, rfl⟩
    | d :: r, hr, hl, hz =>
      have h1 : (0 : Int) < ((tx (d :: r)).size : Int) := by rw [hz]; simp <;> omega
      have h0 : 0 < (tx (d :: r)).size := by omega
      have ht := tx_at (d :: r) hr.out.1 0 h0
      have htl := tx_tail d r
      have hsz1 : Hid ((tx r).size < (tx (d :: r)).size) := by rw [Hid, tx_size, tx_size]; simp
      have hDr : Hid (Dec r) := fun x hx => hr.out.1 x (List.mem_cons_of_mem _ hx)
      have HZ : Hid (dz (d :: r) = if d = 0 then dz r else d :: r) := by rw [Hid, dz]
      have Hl : Hid (r.length ≤ 1000) := by rw [Hid]; simp at hl ⊢; omega
      by_cases hdz : d = 0
      · have hb : ((((tx (d :: r))[0]'h0).toNat : Int) == 48) = true := by rw [ht]; simp [hdz]
        have Hdz : Hid (d = 0) := hdz
        clear hz ht hdz
        go_wp2
        go_round
        case rel => exact ⟨r, rfl, ⟨hDr.out, by rw [← hr.out.2, HZ.out, if_pos Hdz.out]⟩, Hl.out⟩
        case measure => exact hsz1.out
      · have hb : ((((tx (d :: r))[0]'h0).toNat : Int) == 48) = false := by rw [ht]; simp; omega
        clear hz ht htl
        go_wp2
        go_ret
        exact ⟨by rw [← hr.out.2, HZ.out, if_neg hdz]; rfl, rfl⟩
theorem TrimLeft_any (ds : List Int) (w : World) (hd : Dec ds) (hs : ds.length ≤ 1000) (hp : 0 < ds.length) :
    Calls Tryd.prog 48 #[.string (tx ds), .string { data := #[48] }] w fun e w' => e = .returned (.string (tx (dz ds))) ∧ w' = w := by
  have H : Hid (∀ X, Calls Tryd.prog 53 #[.string (tx ds), .int .u8 48] X fun e w' => e = .returned (.string (tx (dz ds))) ∧ w' = X) := fun X => trimLeftByte_any ds X hd hs
  have hz := tx_size ds
  have he : (tx ds).toList.isEmpty = false := by
    cases h : (tx ds).toList.isEmpty with
    | false => rfl
    | true =>
      have h2 : (tx ds).data.toList.length = ds.length := by simpa using hz
      have h1 : (tx ds).toList = [] := by simpa using h
      rw [ByteArray.toList_eq] at h1
      rw [h1] at h2
      simp at h2; omega
  generalize tx (dz ds) = R at *
  generalize tx ds = T at *
  go_enter Tryd.func48, Tryd.ntmps48
  go_wp2_with fail
  refine (H.out _).mono ?_
  rintro e w1 ⟨rfl, rfl⟩
  go_wp2
  go_ret
  exact ⟨rfl, rfl⟩
end Go.Proofs.YtmjkpjmccdjkjadDoor
namespace Go.Proofs.YtmjkpjmccdjkjadDoor
open Go.RowKit
set_option linter.unusedVariables false
set_option maxRecDepth 100000
set_option linter.unusedSimpArgs false
theorem info8d : (Tryd.prog.info? 5).map (fun i => (i.zero, i.size, i.bytes)) = some (some (.int .u8 0), 1, 1) := by kernel_rfl
/-- A row of digits' signs in memory of the call's own. -/
def RowB (w : World) (base : Nat) (v : Value) (L : List Int) : Prop := w.ownsRow base 5 1 v L.length ((L.map (48 + ·)).map (Value.int .u8))
theorem RowB.below {w w' : World} {base B : Nat} {v : Value} {L : List Int} (h : RowB w base v L) (hb : Below B w w') (hB : w.heap.size ≤ B) : RowB w' base v L := own_below h hb hB
theorem RowB.own {w : World} {base : Nat} {v : Value} {L : List Int} (h : RowB w base v L) : ∀ k, v.ownBlock = some k → base ≤ k := fun k hk => (World.ownsRow.lt h k hk).1
theorem RowB.form {w : World} {base : Nat} {v : Value} {L : List Int} (h : RowB w base v L) (hp : 0 < L.length) : ∃ g cap, v = .slice (some ⟨g, 0, none⟩) L.length cap ∧ L.length ≤ cap ∧ cap ≤ 9223372036854775807 ∧ ∀ i, i < L.length → w.cell? ⟨g, i, none⟩ = some (.int .u8 ((L.map (48 + ·)).getD i 0)) := by
  have h0 := h
  obtain ⟨hl, h⟩ := h
  rcases h with ⟨_, h⟩ | ⟨g, cap, cur, e, hg, hc, hn, hm, hs, ht⟩
  · omega
  · unfold maxLen at hm
    refine ⟨g, cap, e, hn, by omega, fun i hi => ?_⟩
    have h1 := h0
    rw [e] at h1
    rw [World.ownsRow.cellAt h1 i (by omega)]
    simp [List.getD, hi]
theorem conv_at (w : World) (g o m cap : Nat) (L : List Int) (hl : L.length = m) (hc : ∀ i, i < m → w.cell? ⟨g, o + i, none⟩ = some (.int .u8 ((L.map (48 + ·)).getD i 0))) : (convert 22 9 (.slice (some ⟨g, o, none⟩) m cap)).run Tryd.prog w = .ok (.string (tx L)) w :=
  run_convert_bytes_arg (P := Tryd.prog) w 22 5 Tryd.underlying22 Tryd.underlying5 g o m cap (L.map (48 + ·)) (by simp [hl]) hc 9 Tryd.underlying9
set_option maxRecDepth 100000 in
set_option maxHeartbeats 4000000 in
theorem digitsText_any (f W : Int) (g gb cap : Nat) (w : World) (ht : Tabs w) (f0 : 0 ≤ f) (f9 : f ≤ 9) (hg : 0 < g) (hg11 : g ≤ 11) (hgb : gb < w.heap.size) (hc : ∀ i, i < g → w.cell? ⟨gb, i, none⟩ = some (.int .i64 (W / 2 ^ (10 * (g - 1 - i)) % 1024))) :
    Calls Tryd.prog 35 #[.int .u8 f, .slice (some ⟨gb, 0, none⟩) g cap] w fun e w' => e = .returned (.string (tx (strip (f :: uD g W g)))) ∧ Below w.heap.size w w' := by
  obtain ⟨i0, hi, hz0, hz1, hz2⟩ := info_parts info8d
  have HT : Hid (Tabs w) := ht
  have HC : Hid (∀ i, i < g → w.cell? ⟨gb, i, none⟩ = some (.int .i64 (W / 2 ^ (10 * (g - 1 - i)) % 1024))) := hc
  have HDec : Hid (∀ q, Dec (f :: uD g W q) ∧ (f :: uD g W q).length = 3 * q + 1) := fun q => ⟨fun d hd => by rcases List.mem_cons.1 hd with c | c; (rw [c]; exact ⟨f0, f9⟩); exact uD_dec g W q d c, by rw [List.length_cons, uD_len]⟩
  have HUn : Hid (∀ x X, Below w.heap.size w X → Calls Tryd.prog 47 #[.int .i64 x] X fun e w' => e = .returned (.int .i64 (und x)) ∧ Below X.heap.size X w') := fun x X hb => by
    have h := ht.below hb (Nat.le_refl _)
    exact iUndeclet_any x X h.1 h.2.1 h.2.2.1
  have HSt : Hid (∀ q, f :: uD g W (q + 1) = (f :: uD g W q) ++ thr (und (W / 2 ^ (10 * (g - 1 - q)) % 1024))) := fun q => rfl
  have HUb : Hid (∀ q, 0 ≤ und (W / 2 ^ (10 * (g - 1 - q)) % 1024) ∧ und (W / 2 ^ (10 * (g - 1 - q)) % 1024) ≤ 999) := fun q => by
    generalize hx : W / 2 ^ (10 * (g - 1 - q)) % 1024 = x
    have := und_back x (by omega) (by omega)
    unfold und
    rw [if_pos (by omega)]
    exact this.2
  have hw48 : IntKind.u8.wrap (48 + f) = 48 + f := by rw [IntKind.wrap_u8]; omega
  have HR0 : Hid (RowB (w.alloc (.cells #[.int .u8 (48 + f)] 5)) w.heap.size (.slice (some ⟨w.heap.size, 0, none⟩) 1 1) (f :: uD g W 0) ∧ Below w.heap.size w (w.alloc (.cells #[.int .u8 (48 + f)] 5))) := ⟨World.ownsRow_lit (base := w.heap.size) (e := 5) (size := 1) w #[.int .u8 (48 + f)] 1 (Nat.le_refl _) (by decide) (by simp), (Below.refl _ _).alloc (Nat.le_refl _) _⟩
  clear ht hc f0 f9
  go_enter Tryd.func35, Tryd.ntmps35
  go_wp2
  clear hw48
  go_loopw [5, 17] (fun v i wr => ∃ q : Nat, q ≤ g ∧ i = .int .i64 (q : Int) ∧ Hid (RowB wr w.heap.size v (f :: uD g W q)) ∧ Hid (Below w.heap.size w wr)) (fun _ i _ => g - (intOf i).toNat)
  case atStart => exact ⟨0, Nat.zero_le _, rfl, HR0.out.1, HR0.out.2⟩
  case round =>
    clear HR0
    obtain ⟨q, hq, rfl, HR, HB⟩ := hrel
    by_cases hlt : q < g
    · have hlt' : (q : Int) < (g : Int) := by omega
      have hel := (HB.out.cell (p := ⟨gb, q, none⟩) hgb).trans (HC.out q hlt)
      have HUq : Hid (Calls Tryd.prog 47 #[.int .i64 (W / 2 ^ (10 * (g - 1 - q)) % 1024)] wr fun e w' => e = .returned (.int .i64 (und (W / 2 ^ (10 * (g - 1 - q)) % 1024))) ∧ Below wr.heap.size wr w') := HUn.out _ wr HB.out
      have hub := HUb.out q
      have HSq : Hid (f :: uD g W (q + 1) = (f :: uD g W q) ++ thr (und (W / 2 ^ (10 * (g - 1 - q)) % 1024))) := HSt.out q
      have hln := (HDec.out q).2
      generalize und (W / 2 ^ (10 * (g - 1 - q)) % 1024) = U at *
      generalize W / 2 ^ (10 * (g - 1 - q)) % 1024 = D at *
      generalize f :: uD g W q = L at *
      have a1 : Int.tdiv U 100 = U / 100 := Int.tdiv_eq_ediv_of_nonneg hub.1
      have a2 : Int.tdiv U 10 = U / 10 := Int.tdiv_eq_ediv_of_nonneg hub.1
      have a3 : Int.tmod (U / 10) 10 = U / 10 % 10 := Int.tmod_eq_emod_of_nonneg (by omega)
      have a4 : Int.tmod U 10 = U % 10 := Int.tmod_eq_emod_of_nonneg hub.1
      have b1 : 0 ≤ U / 100 ∧ U / 100 ≤ 9 := by omega
      have b2 : 0 ≤ U / 10 ∧ U / 10 ≤ 99 := by omega
      have b3 : 0 ≤ U / 10 % 10 ∧ U / 10 % 10 ≤ 9 := by omega
      have b4 : 0 ≤ U % 10 ∧ U % 10 ≤ 9 := by omega
      have HT3 : Hid (thr U = [U / 100, U / 10 % 10, U % 10]) := rfl
      generalize U / 100 = x0 at *
      generalize U / 10 % 10 = x1 at *
      generalize U % 10 = x2 at *
      generalize U / 10 = t at *
      rw [HT3.out] at HSq
      clear HT3
      go_wp2_with fail
      refine HUq.out.mono ?_
      rintro e w1 ⟨rfl, hb1⟩
      have HR1 : Hid (RowB w1 w.heap.size u5 (L ++ [x0, x1, x2].take 0)) := by show RowB _ _ _ _; rw [List.take_zero, List.append_nil]; exact HR.out.below hb1 (Nat.le_refl _)
      have HB1 : Hid (Below w.heap.size w w1) := HB.out.trans (hb1.mono HB.out.size)
      clear hb1 HR HB HUq hel
      go_wp2
      clear a1 a2 a3 a4
      go_loopw [5, 31] (fun v i wr => ∃ k : Nat, k ≤ 3 ∧ i = .int .i64 (k : Int) ∧ Hid (RowB wr w.heap.size v (L ++ [x0, x1, x2].take k)) ∧ Hid (Below w.heap.size w wr)) (fun _ i _ => 3 - (intOf i).toNat)
      case atStart => exact ⟨0, Nat.zero_le _, rfl, HR1, HB1⟩
      case round =>
        clear HR1 HB1
        obtain ⟨k, hk, rfl, HR2, HB2⟩ := hrel
        have hcase : (∃ y : Int, k < 3 ∧ (0 ≤ y ∧ y ≤ 9) ∧ [x0, x1, x2].take (k + 1) = [x0, x1, x2].take k ++ [y] ∧ ∀ Wd, (Instr.index 87 (.agg #[.int .i64 x0, .int .i64 x1, .int .i64 x2]) (.int .i64 (k : Int))).run Tryd.prog Wd = .ok (.int .i64 y) Wd) ∨ k = 3 := by
          match k, hk with
          | 0, _ => exact .inl ⟨x0, by decide, b1, rfl, fun Wd => by kernel_rfl⟩
          | 1, _ => exact .inl ⟨x1, by decide, b3, rfl, fun Wd => by kernel_rfl⟩
          | 2, _ => exact .inl ⟨x2, by decide, b4, rfl, fun Wd => by kernel_rfl⟩
          | 3, _ => exact .inr rfl
        rcases hcase with ⟨y, hk3, hy, hst, hel⟩ | rfl
        · have hk3' : (k : Int) < 3 := by omega
          have Hst : Hid ([x0, x1, x2].take (k + 1) = [x0, x1, x2].take k ++ [y]) := hst
          clear hst
          have hy8 : IntKind.u8.wrap y = y := by rw [IntKind.wrap_u8]; omega
          have hy48 : IntKind.u8.wrap (48 + y) = 48 + y := by rw [IntKind.wrap_u8]; omega
          have hlen : (L ++ [x0, x1, x2].take k).length ≤ 40 := by simp; omega
          have hsz := HB2.out.size
          obtain ⟨M, hMe⟩ : ∃ M, L ++ [x0, x1, x2].take k = M := ⟨_, rfl⟩
          rw [hMe] at hlen HR2
          have HMe : Hid (L ++ [x0, x1, x2].take (k + 1) = M ++ [y]) := by show _ = _; rw [Hst.out, ← List.append_assoc, hMe]
          clear hMe
          go_wp2_with (first | (at_builtin; refine wpList_append_own _ rfl _ _ 22 rfl w.heap.size 5 i0 (.int .u8 0) 1 1 Tryd.underlying22 hi hz0 hz1 hz2 rfl (by decide) _ M.length ((M.map (48 + ·)).map (Value.int .u8)) rfl (World.ownsRow.alloc HR2.out _) ⟨wr.heap.size, 0, none⟩ 1 1 [.int .u8 (48 + y)] rfl rfl ?c1 ?c2 ?c3 ?c4 ?c5 ?_) | go_in)
          case c1 =>
            intro i u hu
            match i, hu with
            | 0, hu => simp at hu; subst hu; simp [Addr.add]
          case c2 => intro u hu; simp at hu; subst hu; rfl
          case c3 => unfold maxLen; omega
          case c4 => omega
          case c5 => simp; omega
          · intro v' w3 hown3 hgrow _
            have H3 : Hid (RowB w3 w.heap.size v' (M ++ [y])) := by show RowB _ _ _ _; unfold RowB; simpa using hown3
            have HB3 : Hid (Below w.heap.size w w3) := Below.grown (HB2.out.alloc hsz _) hgrow (by simp; omega) (fun k hk => HR2.out.own k hk)
            clear hown3 hgrow HR2 HB2 hel
            go_wp2
            go_roundw
            case rel => exact ⟨k + 1, by omega, by go_num, by rw [HMe.out]; exact H3, HB3⟩
            case measure => simp [intOf]; omega
        · go_wp2
          go_roundw
          case rel => exact ⟨q + 1, by omega, by go_num, by rw [HSq.out]; exact HR2, HB2⟩
          case measure => simp [intOf]; omega
    · obtain rfl : q = g := by omega
      obtain ⟨hdec, hln⟩ := HDec.out q
      obtain ⟨gq, cap', e, hn, hm, hcell⟩ := HR.out.form (by omega)
      have hgq : gq < wr.heap.size := World.block_lt_of_cell? wr ⟨gq, 0, none⟩ (hcell 0 (by omega))
      obtain ⟨L, hLe⟩ : ∃ L, f :: uD q W q = L := ⟨_, rfl⟩
      have HLe : Hid (f :: uD q W q = L) := hLe
      rw [hLe] at hdec hln e hn hcell
      clear hLe
      obtain ⟨A, d, rfl⟩ : ∃ A d, L = A ++ [d] := by
        rcases List.eq_nil_or_concat L with h | ⟨A, d, h⟩
        · rw [h] at hln; simp at hln
        · exact ⟨A, d, by simpa using h⟩
      have hm1 : (A ++ [d]).length = A.length + 1 := by simp
      rw [hm1] at e hn hcell hln
      subst e
      have hA : Dec A := fun x hx => hdec x (List.mem_append_left _ hx)
      have hcA : ∀ i, i < A.length → wr.cell? ⟨gq, 0 + i, none⟩ = some (.int .u8 ((A.map (48 + ·)).getD i 0)) := fun i hi => by
        have := hcell i (by omega)
        rw [Nat.zero_add, this, List.map_append]
        simp only [List.getD]
        rw [List.getElem?_append_left (by simpa using hi)]
      have hcd : ∀ i, i < 1 → wr.cell? ⟨gq, A.length + i, none⟩ = some (.int .u8 (([d].map (48 + ·)).getD i 0)) := fun i hi => by
        obtain rfl : i = 0 := by omega
        have := hcell A.length (by omega)
        rw [Nat.add_zero, this, List.map_append]
        simp only [List.getD]
        rw [List.getElem?_append_right (by simp)]
        simp
      have hv1 : ∀ n c, (convert 22 9 (.slice (some ⟨gq, 0, none⟩) A.length c)).run Tryd.prog (wr.drewN n) = .ok (.string (tx A)) (wr.drewN n) := fun n c => conv_at (wr.drewN n) gq 0 A.length c A rfl hcA
      have hv2 : ∀ n c, (convert 22 9 (.slice (some ⟨gq, A.length, none⟩) 1 c)).run Tryd.prog (wr.drewN n) = .ok (.string (tx [d])) (wr.drewN n) := fun n c => conv_at (wr.drewN n) gq A.length 1 c [d] rfl hcd
      have HTL : Hid (∀ X, Calls Tryd.prog 48 #[.string (tx A), .string { data := #[48] }] X fun e w' => e = .returned (.string (tx (dz A))) ∧ w' = X) := fun X => TrimLeft_any A X hA (by omega) (by omega)
      have HE : Hid (tx (dz A) ++ tx [d] = tx (strip (f :: uD q W q))) := by show _ = _; rw [HLe.out, tx_append, dz_strip]
      have hs1 : (tx (dz A)).size ≤ 1000 := by have := dz_len A; rw [tx_size]; omega
      have hs2 : (tx [d]).size = 1 := by rw [tx_size]; rfl
      have k2 : ¬ (cap' : Int) < (A.length : Int) := by omega
      have k3 : ¬ (cap' : Int) < (A.length : Int) + 1 := by omega
      have k4 : ¬ cap' = A.length := by omega
      have k5 : ¬ (cap' : Int) = (A.length : Int) := by omega
      clear HR hcell hcA hcd hA hdec hm1 hgq HLe
      generalize tx (dz A) = TA at *
      generalize tx [d] = TD at *
      generalize tx A = T0 at *
      have hA1 : A.length ≤ 33 := by omega
      clear hln
      generalize A.length = m at *
      go_wp2
      go_quiet (first | (go_at_call 48; refine Calls.quiet_of_same (HTL.out _)))
      go_wp2
      go_ret
      exact ⟨by rw [← HE.out]; rfl, below_drewN HB.out _⟩
end Go.Proofs.YtmjkpjmccdjkjadDoor
namespace Go.Proofs.YtmjkpjmccdjkjadDoor
open Go.RowKit
set_option linter.unusedVariables false
set_option maxRecDepth 100000
set_option linter.unusedSimpArgs false
theorem txn : tx [] = { data := #[] } := by apply ByteArray.ext; rw [tx_data]; rfl
/-- The word's box and the answer's. -/
abbrev qbx (w : World) (H L : Int) : World := (w.alloc (.cells #[.int .u64 H, .int .u64 L] 33)).alloc (.cells #[.int .i64 0, .bool false, .int .i64 0, .string { data := #[] }] 25)
theorem qbx_out {w W : World} {H L : Int} (h : Below (w.heap.size + 2) (qbx w H L) W) : Below w.heap.size w W := (((Below.refl _ _).alloc (Nat.le_refl _) _).alloc (by simp) _).trans (h.mono (by omega))
theorem qbx_room {w W : World} {H L : Int} (h : Below (w.heap.size + 2) (qbx w H L) W) : w.heap.size + 2 ≤ W.heap.size := by
  have := h.size
  simpa using this
theorem qbx_next {w W w1 : World} {H L : Int} (h : Below (w.heap.size + 2) (qbx w H L) W) (hb : Below W.heap.size W w1) : Below (w.heap.size + 2) (qbx w H L) w1 := h.trans (hb.mono (qbx_room h))
theorem qbx_at {w W : World} {H L : Int} (h : Below (w.heap.size + 2) (qbx w H L) W) : At4 W (w.heap.size + 1) (.int .i64 0) (.bool false) (.int .i64 0) (.string { data := #[] }) := by
  have n := at4_new (w.alloc (.cells #[.int .u64 H, .int .u64 L] 33)) (.int .i64 0) (.bool false) (.int .i64 0) (.string { data := #[] })
  rw [show (w.alloc (.cells #[.int .u64 H, .int .u64 L] 33)).heap.size = w.heap.size + 1 by simp] at n
  exact n.below h (by omega)
theorem up_drew {w5 w6 : World} (h : Below w5.drew.heap.size w5.drew w6) : Below w5.heap.size w5 w6 := (Below.refl _ _).drew.trans h
/-- A number's fields in their box p, its declets in gb. -/
def UW (w : World) (H L : Int) (g : Nat) (b : Bool) (LD RS : Int) (D : Nat → Int) (wx : World) (p gb : Nat) : Prop :=
  Below (w.heap.size + 2) (qbx w H L) wx ∧ At4 wx p (.bool b) (.int .u8 LD) (.int .u16 RS) (.slice (some ⟨gb, 0, none⟩) g g) ∧ gb < wx.heap.size ∧ ∀ i, i < g → wx.cell? ⟨gb, i, none⟩ = some (.int .i64 (D i))
theorem UW.next {w wx w1 : World} {H L : Int} {g : Nat} {b : Bool} {LD RS : Int} {D : Nat → Int} {p gb : Nat} (h : UW w H L g b LD RS D wx p gb) (hb : Below wx.heap.size wx w1) : UW w H L g b LD RS D w1 p gb :=
  ⟨qbx_next h.1 hb, h.2.1.same hb, Nat.lt_of_lt_of_le h.2.2.1 hb.size, fun i hi => cell_of hb (h.2.2.2 i hi)⟩
theorem UW.drew {w wx : World} {H L : Int} {g : Nat} {b : Bool} {LD RS : Int} {D : Nat → Int} {p gb : Nat} (h : UW w H L g b LD RS D wx p gb) : UW w H L g b LD RS D wx.drew p gb := h.next (Below.refl _ _).drew
theorem UW.new {w w1 : World} {H L : Int} {g : Nat} {b : Bool} {LD RS : Int} {D : Nat → Int} {gb : Nat} (h : Below (w.heap.size + 2) (qbx w H L) w1) (hg : gb < w1.heap.size) (hc : ∀ i, i < g → w1.cell? ⟨gb, i, none⟩ = some (.int .i64 (D i))) : UW w H L g b LD RS D (w1.alloc (.cells #[.bool b, .int .u8 LD, .int .u16 RS, .slice (some ⟨gb, 0, none⟩) g g] 65)) w1.heap.size gb :=
  ⟨h.alloc (qbx_room h) _, new4 w1 _ _ _ _ _, by simp; omega, fun i hi => al_of (hc i hi) _⟩
theorem UW.fin {w wx : World} {H L : Int} {g : Nat} {b : Bool} {LD RS : Int} {D : Nat → Int} {p gb : Nat} (h : UW w H L g b LD RS D wx p gb) (x y z u : Value) : At4 (res4 wx (w.heap.size + 1) x y z u) (w.heap.size + 1) x y z u ∧ Below w.heap.size w (res4 wx (w.heap.size + 1) x y z u) :=
  ⟨(qbx_at h.1).put x y z u, bel_four (qbx_out h.1) (by omega) x y z u⟩
end Go.Proofs.YtmjkpjmccdjkjadDoor
