/-
  RoundDigits of the model at any arguments, walked.
-/
import Derived.Test.YtdkpiofeidcffaaGreatDoorTxt3
import Derived.Deep.DeepCutAuto
import Derived.Test.YtdkpiofeidcffaaGreatDoorIn
namespace Go.Proofs.YtdkpiofeidcffaaGreatDoor
set_option linter.unusedVariables false
set_option maxRecDepth 100000
/-- Noughts ahead, as far as m digits. -/
def zpad (m : Nat) (ds : List Int) : List Int := List.replicate (m - ds.length) 0 ++ ds
theorem zpad_len (m : Nat) (ds : List Int) : (zpad m ds).length = max m ds.length := by
  unfold zpad; rw [List.length_append, List.length_replicate]; omega
theorem zpad_dec (m : Nat) (ds : List Int) (h : Dec ds) : Dec (zpad m ds) := fun d hd => by
  rcases List.mem_append.1 hd with c | c
  · have := (List.mem_replicate.1 c).2; omega
  · exact h d c
theorem vl_noughts_ahead (n : Nat) (ds : List Int) : vl (List.replicate n 0 ++ ds) = vl ds := by
  induction n with
  | zero => rfl
  | succ n ih => rw [List.replicate_succ, List.cons_append, vl_cons, ih]; omega
theorem zpad_vl (m : Nat) (ds : List Int) : vl (zpad m ds) = vl ds := vl_noughts_ahead _ _
/-- The number above and below a cut. -/
theorem cut_vl_two (D : List Int) (h : Dec D) (n k : Nat) (hl : D.length = n + k) : vl (D.take n) = vl D / 10 ^ k ∧ vl (D.drop n) = vl D % 10 ^ k := by
  have e : vl D = vl (D.drop n) + 10 ^ k * vl (D.take n) := by
    have := vl_append (D.take n) (D.drop n)
    rw [List.take_append_drop] at this
    rw [this, List.length_drop, show D.length - n = k by omega]
  have b := vl_bd (D.drop n) (fun d hd => h d (List.mem_of_mem_drop hd))
  rw [List.length_drop, show D.length - n = k by omega] at b
  have hp : (0 : Int) < 10 ^ k := Int.pow_pos (by decide)
  rw [e]
  refine ⟨?_, ?_⟩
  · rw [Int.add_mul_ediv_left _ _ (Int.ne_of_gt hp), Int.ediv_eq_zero_of_lt b.1 b.2, Int.zero_add]
  · rw [Int.add_mul_emod_self_left, Int.emod_eq_of_lt b.1 b.2]
/-- Is one of the digits not a nought? -/
def some1 (l : List Int) : Bool := l.any fun d => !(d == 0)
theorem some1_vl (l : List Int) (h : Dec l) : some1 l = decide (vl l ≠ 0) := by
  induction l with
  | nil => rfl
  | cons d r ih =>
    have hr : Dec r := fun x hx => h x (List.mem_cons_of_mem _ hx)
    have hd := h d (List.mem_cons_self)
    have b := vl_bd r hr
    have hp : (0 : Int) < 10 ^ r.length := Int.pow_pos (by decide)
    unfold some1
    rw [List.any_cons]
    have ih' : (r.any fun d => !(d == 0)) = decide (vl r ≠ 0) := ih hr
    rw [ih', vl_cons]
    by_cases hz : d = 0
    · subst hz; simp
    · have h1 : (d == 0) = false := by simpa using hz
      have h2 : 0 < 10 ^ r.length * d := Int.mul_pos hp (by omega)
      rw [h1, decide_eq_true (by omega : vl r + 10 ^ r.length * d ≠ 0)]
      rfl
/-- What is rounded off stands below, at or above a half. -/
def halfI (r m : Int) (rest : Bool) (k : Nat) : Int := if k = 0 then -1 else if 2 * r < m then -1 else if 2 * r = m ∧ rest = false then 0 else 1
/-- Is one more kept? -/
def upO (mode : Int) (neg : Bool) (half : Int) (lost : Bool) (od : Bool) : Bool :=
  if mode = 1 then decide (0 < half) || (decide (half = 0) && od) else if mode = 3 then lost && neg else if mode = 4 then lost && !neg else if mode = 5 then decide (0 ≤ half) else false
def upB (mode : Int) (neg : Bool) (half : Int) (lost : Bool) (q : Int) : Bool := upO mode neg half lost (decide (q % 2 = 1))
/-- What is left when k digits are rounded off, and whether something was. -/
def rndL (v : Int) (k : Nat) (rest : Bool) : Bool := rest || decide (v % 10 ^ k ≠ 0)
def rndU (mode : Int) (neg : Bool) (v : Int) (k : Nat) (rest : Bool) : Bool := upB mode neg (halfI (v % 10 ^ k) (10 ^ k) rest k) (rndL v k rest) (v / 10 ^ k)
def rndV (mode : Int) (neg : Bool) (v : Int) (k : Nat) (rest : Bool) : Int := v / 10 ^ k + (if rndU mode neg v k rest then 1 else 0)
/-- The first digit that goes, and what stands behind it. -/
theorem half_told (g : List Int) (h : Dec g) (rest : Bool) (x : Int) (r : List Int) (e : g = x :: r) :
    halfI (vl g) (10 ^ g.length) rest g.length = (if 5 < x ∨ (x = 5 ∧ (rest || some1 r) = true) then 1 else if x < 5 then -1 else 0) := by
  subst e
  have hr : Dec r := fun y hy => h y (List.mem_cons_of_mem _ hy)
  have hx := h x (List.mem_cons_self)
  have b := vl_bd r hr
  have hp : (0 : Int) < 10 ^ r.length := Int.pow_pos (by decide)
  have hs := some1_vl r hr
  unfold halfI
  rw [if_neg (by simp), vl_cons, List.length_cons, Int.pow_succ]
  generalize (10 : Int) ^ r.length = m at *
  generalize vl r = y at *
  have hmx : x = 0 ∨ x = 1 ∨ x = 2 ∨ x = 3 ∨ x = 4 ∨ x = 5 ∨ x = 6 ∨ x = 7 ∨ x = 8 ∨ x = 9 := by omega
  by_cases h5 : x = 5
  · subst h5
    cases rest with
    | true =>
      rw [if_neg (by omega), if_neg (by simp), if_pos (.inr ⟨rfl, rfl⟩)]
    | false =>
      rw [Bool.false_or, hs]
      by_cases hy : y = 0
      · subst hy
        rw [if_neg (by omega), if_pos ⟨by omega, rfl⟩, if_neg (by simp), if_neg (by omega)]
      · rw [if_neg (by omega), if_neg (by omega), if_pos (.inr ⟨rfl, decide_eq_true hy⟩)]
  · by_cases hlt : x < 5
    · have : 2 * (y + m * x) < m * 10 := by
        rcases hmx with e | e | e | e | e | e | e | e | e | e <;> subst e <;> omega
      rw [if_pos this, if_neg (by omega), if_pos hlt]
    · have : m * 10 < 2 * (y + m * x) := by
        rcases hmx with e | e | e | e | e | e | e | e | e | e <;> subst e <;> omega
      rw [if_neg (by omega), if_neg (by omega), if_pos (.inl (by omega))]
end Go.Proofs.YtdkpiofeidcffaaGreatDoor
namespace Go.Proofs.YtdkpiofeidcffaaGreatDoor
open Go.RowKit
set_option linter.unusedVariables false
set_option maxRecDepth 100000
theorem tx_take (D : List Int) (n : Nat) (hn : n ≤ D.length) : (tx D).extract 0 n = tx (D.take n) := by
  apply ByteArray.ext
  rw [ByteArray.data_extract, tx_data, tx_data]
  simp [List.map_take]
theorem tx_drop (D : List Int) (n : Nat) (hn : n ≤ D.length) : (tx D).extract n (tx D).size = tx (D.drop n) := by
  apply ByteArray.ext
  rw [ByteArray.data_extract, tx_size, tx_data, tx_data]
  simp [List.map_drop, List.take_of_length_le]
theorem some1_take (l : List Int) (j : Nat) (hj : j < l.length) : some1 (l.take (j + 1)) = (some1 (l.take j) || !(l.getD j 0 == 0)) := by
  unfold some1
  rw [List.take_succ_eq_append_getElem hj, List.any_append, List.getD, List.getElem?_eq_getElem hj]
  simp
theorem zero_cons (j : Nat) (ds : List Int) : ({ data := #[48] } : ByteArray) ++ tx (List.replicate j 0 ++ ds) = tx (List.replicate (j + 1) 0 ++ ds) := by
  have : ({ data := #[48] } : ByteArray) = tx [0] := by apply ByteArray.ext; rw [tx_data]; rfl
  rw [this, tx_append, List.replicate_succ]; rfl
theorem vl_mod2 (l : List Int) (h : Dec l) (hp : 0 < l.length) : vl l % 2 = l.getD (l.length - 1) 0 % 2 := by
  have e := vl_append (l.take (l.length - 1)) (l.drop (l.length - 1))
  rw [List.take_append_drop] at e
  have hd : l.drop (l.length - 1) = [l.getD (l.length - 1) 0] := by
    have hi : l.length - 1 < l.length := by omega
    rw [List.drop_eq_getElem_cons hi, List.getD, List.getElem?_eq_getElem hi, List.drop_of_length_le (by omega)]
    rfl
  rw [hd] at e
  rw [e]
  have : vl [l.getD (l.length - 1) 0] = l.getD (l.length - 1) 0 := by simp [vl, lv]
  rw [this]
  simp
  omega
theorem half_cases (r m : Int) (rest : Bool) (k : Nat) : halfI r m rest k = -1 ∨ halfI r m rest k = 0 ∨ halfI r m rest k = 1 := by
  unfold halfI
  split
  · exact .inl rfl
  · split
    · exact .inl rfl
    · split
      · exact .inr (.inl rfl)
      · exact .inr (.inr rfl)
theorem tx_1 : tx [1] = { data := #[49] } := by apply ByteArray.ext; rw [tx_data]; rfl
set_option maxRecDepth 100000 in
set_option maxHeartbeats 4000000 in
theorem l12Round_any (mode : Int) (neg : Bool) (ds : List Int) (k : Nat) (rest : Bool) (w : World) (hc : Canon ds) (hl : ds.length ≤ 300) (hk : k ≤ 200) :
    Calls Tryz.prog 72 #[.int .i64 mode, .bool neg, .string (tx ds), .int .i64 k, .bool rest] w fun e w' => e = .returned (.tuple #[.string (tx (nt (rndV mode neg (vl ds) k rest))), .bool (rndL (vl ds) k rest)]) ∧ Below w.heap.size w w' := by
  have HC : Hid (Canon ds) := hc
  have Hp : 0 < ds.length := hc.2.1
  clear hc
  go_enter Tryz.func72, Tryz.ntmps72
  go_wp2
  go_loop [2] (fun s => ∃ j : Nat, j + ds.length ≤ max (k + 1) ds.length ∧ s = .string (tx (List.replicate j 0 ++ ds))) (fun s => 600 - strSz s)
  case atStart => exact ⟨0, by omega, rfl⟩
  case round =>
    obtain ⟨j, hj, rfl⟩ := hrel
    have hz : (tx (List.replicate j 0 ++ ds)).size = j + ds.length := by rw [tx_size]; simp
    by_cases hlt : j + ds.length ≤ k
    · have h1 : ((tx (List.replicate j 0 ++ ds)).size : Int) ≤ (k : Int) := by omega
      have h2 : ((tx (List.replicate j 0 ++ ds)).size : Int) ≤ 8388608 := by omega
      have hap := zero_cons j ds
      have hm : Hid (600 - strSz (.string (tx (List.replicate (j + 1) 0 ++ ds))) < 600 - strSz (.string (tx (List.replicate j 0 ++ ds)))) := by
        have a : strSz (.string (tx (List.replicate (j + 1) 0 ++ ds))) = j + 1 + ds.length := by show (tx _).size = _; rw [tx_size]; simp
        have b : strSz (.string (tx (List.replicate j 0 ++ ds))) = j + ds.length := hz
        rw [Hid, a, b]; omega
      clear hz
      go_wp2
      go_round
      case rel => exact ⟨j + 1, by omega, rfl⟩
      case measure => exact hm.out
    · have ej : j = (k + 1) - ds.length := by omega
      have HP : Hid (List.replicate j 0 ++ ds = zpad (k + 1) ds) := by rw [ej]; rfl
      rw [HP.out] at hz ⊢
      have HD : Hid (Dec (zpad (k + 1) ds) ∧ vl (zpad (k + 1) ds) = vl ds) := ⟨zpad_dec _ _ HC.out.1, zpad_vl _ _⟩
      clear HP ej HC
      generalize zpad (k + 1) ds = D at *
      obtain ⟨n, hn⟩ : ∃ n, D.length = n + k := ⟨D.length - k, by have := tx_size D; omega⟩
      have hsz : (tx D).size = n + k := by rw [tx_size]; exact hn
      have hn1 : 1 ≤ n := by omega
      have hn2 : n ≤ 300 := by omega
      have h1 : ¬ ((tx D).size : Int) ≤ (k : Int) := by omega
      have t1 := tx_take D n (by omega)
      have t2 := tx_drop D n (by omega)
      rw [hsz] at t2
      have cv := cut_vl_two D HD.out.1 n k hn
      rw [HD.out.2] at cv
      have hkl : (D.take n).length = n := by rw [List.length_take]; omega
      have hgl : (D.drop n).length = k := by rw [List.length_drop]; omega
      have dK : Dec (D.take n) := fun d hd => HD.out.1 d (List.mem_of_mem_take hd)
      have dG : Dec (D.drop n) := fun d hd => HD.out.1 d (List.mem_of_mem_drop hd)
      have w1 : IntKind.i64.wrap (((tx D).size : Int) - (k : Int)) = (n : Int) := by rw [IntKind.wrap_i64]; omega
      have w2 : IntKind.i64.wrap (k : Int) = (k : Int) := by rw [IntKind.wrap_i64]; omega
      have b1 : (n : Int) ≤ ((tx D).size : Int) := by omega
      generalize hKp : D.take n = KP at *
      generalize hGn : D.drop n = GN at *
      have HV : Hid (vl KP = vl ds / 10 ^ k ∧ vl GN = vl ds % 10 ^ k ∧ KP.length = n ∧ GN.length = k ∧ Dec KP ∧ Dec GN) := ⟨cv.1, cv.2, hkl, hgl, dK, dG⟩
      clear hj hlt hz cv hkl hgl dK dG hKp hGn HD hn Hp hl
      have hG := tx_size GN
      rw [HV.out.2.2.2.1] at hG
      go_wp2
      go_loop [16, 17] (fun b i => ∃ j : Nat, j ≤ k ∧ i = .int .i64 j ∧ b = .bool (rest || some1 (GN.take j))) (fun _ i => k - (intOf i).toNat)
      case atStart => exact ⟨0, Nat.zero_le _, rfl, by simp [some1]⟩
      case round =>
        obtain ⟨j, hj, rfl, rfl⟩ := hrel
        by_cases hlt : j < k
        · have hlt' : (j : Int) < (k : Int) := by omega
          have hs : j < (tx GN).size := by omega
          have za := tx_at GN HV.out.2.2.2.2.2 j hs
          have db := dec_at GN HV.out.2.2.2.2.2 j
          have st : some1 (GN.take (j + 1)) = (some1 (GN.take j) || !(GN.getD j 0 == 0)) := some1_take GN j (by rw [HV.out.2.2.2.1]; exact hlt)
          have HS : Hid (some1 (GN.take (j + 1)) = (some1 (GN.take j) || !(GN.getD j 0 == 0))) := st
          have hx : ((((tx GN)[j]'hs).toNat : Int) != 48) = !(GN.getD j 0 == 0) := by
            rw [za]
            by_cases h : GN.getD j 0 = 0
            · rw [h]; rfl
            · rw [beq_eq_false_iff_ne.2 h]
              have : (48 + GN.getD j 0 == (48 : Int)) = false := beq_eq_false_iff_ne.2 (by omega)
              show (!(48 + GN.getD j 0 == 48)) = _
              rw [this]
          clear st za db
          generalize some1 (GN.take j) = L0 at *
          generalize (GN.getD j 0 == 0) = Z at *
          cases rest <;> cases L0
          all_goals
            go_wp2
            go_round
            case rel => exact ⟨j + 1, by omega, by go_num, by rw [HS.out]; cases Z <;> rfl⟩
            case measure => simp [intOf]; omega
        · obtain rfl : j = k := by omega
          have hT : GN.take j = GN := List.take_of_length_le (by rw [HV.out.2.2.2.1]; exact Nat.le_refl _)
          rw [hT]
          have HLs : Hid ((rest || some1 GN) = rndL (vl ds) j rest) := by
            show _ = _
            unfold rndL
            rw [some1_vl GN HV.out.2.2.2.2.2, HV.out.2.1]
          obtain ⟨LO, hLO⟩ : ∃ LO, (rest || some1 GN) = LO := ⟨_, rfl⟩
          rw [hLO] at HLs ⊢
          clear hT hLO
          have HH : Hid (GN = [] → halfI (vl ds % 10 ^ j) (10 ^ j) rest j = -1) := fun h => by
            have : j = 0 := by rw [← HV.out.2.2.2.1, h]; rfl
            unfold halfI; rw [if_pos this]
          have HH2 : Hid (∀ x r, GN = x :: r → halfI (vl ds % 10 ^ j) (10 ^ j) rest j = (if 5 < x ∨ (x = 5 ∧ (rest || some1 r) = true) then 1 else if x < 5 then -1 else 0)) := fun x r h => by
            have := half_told GN HV.out.2.2.2.2.2 rest x r h
            rw [HV.out.2.2.2.1, HV.out.2.1] at this
            exact this
          obtain ⟨HF, hHF⟩ : ∃ HF, halfI (vl ds % 10 ^ j) (10 ^ j) rest j = HF := ⟨_, rfl⟩
          have HHF : Hid (halfI (vl ds % 10 ^ j) (10 ^ j) rest j = HF) := hHF
          rw [hHF] at HH HH2
          clear hHF
          go_upto_if 54 with fail
          go_cut [15] (fun h wx => h = .int .i64 HF ∧ wx = w)
          case first =>
            by_cases hj0 : j = 0
            · have hgn : GN = [] := List.length_eq_zero_iff.1 (by rw [HV.out.2.2.2.1]; exact hj0)
              obtain rfl := HH.out hgn
              have hz : ¬ (0 : Int) < (j : Int) := by omega
              clear hgn HH HH2 hlt hj hj0
              go_wp2
              go_meet
              case rel => exact ⟨rfl, rfl⟩
            · obtain ⟨x, r, hgn⟩ : ∃ x r, GN = x :: r := by
                cases hq : GN with
                | nil => have := HV.out.2.2.2.1; rw [hq] at this; exact absurd this.symm hj0
                | cons x r => exact ⟨x, r, rfl⟩
              have HHx := HH2.out x r hgn
              have hz : (0 : Int) < (j : Int) := by omega
              have hs0 : 0 < (tx GN).size := by omega
              have hB := tx_at GN HV.out.2.2.2.2.2 0 hs0
              have hxd : 0 ≤ x ∧ x ≤ 9 := HV.out.2.2.2.2.2 x (by rw [hgn]; exact List.mem_cons_self)
              have hg0 : GN.getD 0 0 = x := by rw [hgn]; rfl
              rw [hg0] at hB
              have hrl : r.length + 1 = j := by rw [← HV.out.2.2.2.1, hgn]; rfl
              have HGr : Hid (∀ t, GN.getD (t + 1) 0 = r.getD t 0) := fun t => by rw [hgn]; rfl
              have HGd : Hid (Dec GN) := HV.out.2.2.2.2.2
              obtain ⟨BY, hBY⟩ : ∃ BY : Int, (((tx GN)[0]'hs0).toNat : Int) = BY := ⟨_, rfl⟩
              rw [hBY] at hB
              have HBy : Hid (BY = 48 + x) := hB
              clear hgn hg0 HH HH2 hlt hj hB
              go_wp2
              go_loop [19, 20] (fun b i => ∃ t : Nat, t ≤ r.length ∧ i = .int .i64 ((t + 1 : Nat) : Int) ∧ b = .bool (rest || some1 (r.take t))) (fun _ i => j - (intOf i).toNat)
              case atStart => exact ⟨0, Nat.zero_le _, rfl, by simp [some1]⟩
              case round =>
                obtain ⟨t, ht, rfl, rfl⟩ := hrel
                by_cases hlt : t < r.length
                · have hlt' : ((t + 1 : Nat) : Int) < (j : Int) := by omega
                  have hs : t + 1 < (tx GN).size := by omega
                  have za := tx_at GN HGd.out (t + 1) hs
                  rw [HGr.out t] at za
                  have HS : Hid (some1 (r.take (t + 1)) = (some1 (r.take t) || !(r.getD t 0 == 0))) := some1_take r t hlt
                  have db := dec_at GN HGd.out (t + 1)
                  rw [HGr.out t] at db
                  have hx : ((((tx GN)[t + 1]'hs).toNat : Int) != 48) = !(r.getD t 0 == 0) := by
                    rw [za]
                    by_cases h : r.getD t 0 = 0
                    · rw [h]; rfl
                    · rw [beq_eq_false_iff_ne.2 h]
                      have : (48 + r.getD t 0 == (48 : Int)) = false := beq_eq_false_iff_ne.2 (by omega)
                      show (!(48 + r.getD t 0 == 48)) = _
                      rw [this]
                  clear za db
                  generalize some1 (r.take t) = L0 at *
                  generalize (r.getD t 0 == 0) = Z at *
                  cases rest <;> cases L0
                  all_goals
                    go_wp2
                    go_round
                    case rel => exact ⟨t + 1, by omega, by go_num, by rw [HS.out]; cases Z <;> rfl⟩
                    case measure => simp [intOf]; omega
                · obtain rfl : t = r.length := by omega
                  have hlt' : ¬ ((r.length + 1 : Nat) : Int) < (j : Int) := by omega
                  have hT : r.take r.length = r := List.take_length
                  rw [hT]
                  generalize (rest || some1 r) = MO at *
                  have hB := HBy.out
                  by_cases h5 : x = 5
                  · subst h5
                    have e1 : ¬ (53 : Int) < BY := by omega
                    have e2 : (BY == 53) = true := by simp; omega
                    have e3 : ¬ BY < 53 := by omega
                    clear hB HBy
                    cases MO
                    · rw [if_neg (by simp), if_neg (by omega)] at HHx
                      subst HHx
                      go_wp2
                      go_meet
                      case rel => exact ⟨rfl, rfl⟩
                    · rw [if_pos (.inr ⟨rfl, rfl⟩)] at HHx
                      subst HHx
                      go_wp2
                      go_meet
                      case rel => exact ⟨rfl, rfl⟩
                  · by_cases h6 : 5 < x
                    · have e1 : (53 : Int) < BY := by omega
                      rw [if_pos (.inl h6)] at HHx
                      subst HHx
                      clear hB h5
                      go_wp2
                      go_meet
                      case rel => exact ⟨rfl, rfl⟩
                    · have e1 : ¬ (53 : Int) < BY := by omega
                      have e2 : (BY == 53) = false := beq_eq_false_iff_ne.2 (by omega)
                      have e3 : BY < 53 := by omega
                      rw [if_neg (by omega), if_pos (by omega)] at HHx
                      subst HHx
                      clear hB h5 h6
                      go_wp2
                      go_meet
                      case rel => exact ⟨rfl, rfl⟩
          case rest =>
            obtain ⟨rfl, hw⟩ := hcut
            obtain rfl := hw
            have hKc : Canon (strip KP) := strip_canon KP HV.out.2.2.2.2.1 (by rw [HV.out.2.2.1]; omega)
            have hKv : vl (strip KP) = vl ds / 10 ^ j := by rw [strip_vl, HV.out.1]
            have hKl : (strip KP).length ≤ 300 := by have := strip_len KP; rw [HV.out.2.2.1] at this; omega
            have hHc := half_cases (vl ds % 10 ^ j) (10 ^ j) rest j
            rw [HHF.out] at hHc
            have HU : Hid (rndU mode neg (vl ds) j rest = upB mode neg HF LO (vl ds / 10 ^ j)) := by
              show _ = _
              unfold rndU
              rw [HHF.out, ← HLs.out]
            clear HH HH2 HHF hlt hj
            go_wp2_with fail
            refine (l10Strip_any KP _ HV.out.2.2.2.2.1 (by rw [HV.out.2.2.1]; omega)).mono ?_
            rintro e w' ⟨rfl, rfl⟩
            generalize strip KP = S at *
            have HS : Hid (Canon S ∧ vl S = vl ds / 10 ^ j) := ⟨hKc, hKv⟩
            have hSz := tx_size S
            have hSp : 0 < S.length := hKc.2.1
            have hs1 : S.length - 1 < (tx S).size := by omega
            have za := tx_at S hKc.1 (S.length - 1) hs1
            have zd := dec_at S hKc.1 (S.length - 1)
            have zm := vl_mod2 S hKc.1 hSp
            rw [hKv] at zm
            have hodd : ((S.getD (S.length - 1) 0 % 2 : Int) == 1) = decide ((vl ds / 10 ^ j) % 2 = 1) := by
              rw [← zm]; rfl
            obtain ⟨U, hU⟩ : ∃ U, upB mode neg HF LO (vl ds / 10 ^ j) = U := ⟨_, rfl⟩
            rw [hU] at HU
            have HUd : upO mode neg HF LO (decide ((vl ds / 10 ^ j) % 2 = 1)) = U := hU
            have HFt : Hid (U = false → S = nt (rndV mode neg (vl ds) j rest)) := fun h => by
              have hr : rndV mode neg (vl ds) j rest = vl ds / 10 ^ j := by unfold rndV; rw [HU.out, h]; simp
              rw [hr]
              exact nt_of S _ HS.out.1 HS.out.2 (by omega)
            have HA : Hid (U = true → ∀ X, Calls Tryz.prog 90 #[.string (tx S), .string { data := #[49] }] X fun e w' => e = .returned (.string (tx (nt (rndV mode neg (vl ds) j rest)))) ∧ Below X.heap.size X w') := fun h X => by
              have hr : rndV mode neg (vl ds) j rest = vl ds / 10 ^ j + 1 := by unfold rndV; rw [HU.out, h]; simp
              rw [hr, ← tx_1]
              refine (l11Add_any S [1] X HS.out.1 (canon_one 1 (by decide) (by decide)) (by omega) (by decide)).mono ?_
              rintro e w' ⟨R, he, hc, hv, hl, hb⟩
              rw [nt_of R _ hc (by rw [hv, HS.out.2]; first | done | rfl) (by have : ([1] : List Int).length = 1 := rfl; omega)] at he
              exact ⟨he, hb⟩
            generalize S.getD (S.length - 1) 0 = dd at *
            have a0 : IntKind.u8.wrap ((((tx S)[S.length - 1]'hs1).toNat : Int) - 48) = dd := by rw [IntKind.wrap_u8, za]; omega
            have a1 : Int.tmod dd 2 = dd % 2 := Int.tmod_eq_emod_of_nonneg zd.1
            have a2 : IntKind.u8.wrap (dd % 2) = dd % 2 := by rw [IntKind.wrap_u8]; omega
            have a3 : IntKind.i64.wrap ((S.length : Int) - 1) = (S.length : Int) - 1 := by rw [IntKind.wrap_i64]; omega
            have a4 : (0 : Int) ≤ (S.length : Int) - 1 := by omega
            have a5 : (S.length : Int) - 1 < (S.length : Int) := by omega
            have a6 : ((S.length : Int) - 1).toNat = S.length - 1 := by omega
            clear za zd zm hKc hKv hU
            generalize (decide ((vl ds / 10 ^ j) % 2 = 1)) = OD at *
            by_cases m1 : mode = 1
            · subst m1
              rcases hHc with rfl | rfl | rfl
              · have hU : U = false := by rw [← HUd]; rfl
                subst hU
                have HR : Hid (S = nt _) := HFt.out rfl
                clear HUd HA HFt
                go_wp2
                go_ret2
                exact ⟨by rw [← HR.out, ← HLs.out]; rfl, Below.refl _ _⟩
              · cases OD
                · have hU : U = false := by rw [← HUd]; rfl
                  subst hU
                  have HR : Hid (S = nt _) := HFt.out rfl
                  clear HUd HA HFt
                  go_wp2
                  go_ret2
                  exact ⟨by rw [← HR.out, ← HLs.out]; rfl, Below.refl _ _⟩
                · have hU : U = true := by rw [← HUd]; rfl
                  subst hU
                  have HX : Hid (∀ X, Calls Tryz.prog 90 #[.string (tx S), .string { data := #[49] }] X fun e w' => e = .returned (.string (tx (nt (rndV 1 neg (vl ds) j rest)))) ∧ Below X.heap.size X w') := HA.out rfl
                  clear HUd HA HFt
                  go_wp2_with fail
                  refine (HX.out _).mono ?_
                  rintro e w2 ⟨rfl, hb2⟩
                  go_wp2
                  go_ret2
                  exact ⟨by rw [← HLs.out]; rfl, hb2⟩
              · have hU : U = true := by rw [← HUd]; rfl
                subst hU
                have HX : Hid (∀ X, Calls Tryz.prog 90 #[.string (tx S), .string { data := #[49] }] X fun e w' => e = .returned (.string (tx (nt (rndV 1 neg (vl ds) j rest)))) ∧ Below X.heap.size X w') := HA.out rfl
                clear HUd HA HFt
                go_wp2_with fail
                refine (HX.out _).mono ?_
                rintro e w2 ⟨rfl, hb2⟩
                go_wp2
                go_ret2
                exact ⟨by rw [← HLs.out]; rfl, hb2⟩
            · by_cases m3 : mode = 3
              · subst m3
                cases LO
                · have hU : U = false := by rw [← HUd]; rfl
                  subst hU
                  have HR : Hid (S = nt _) := HFt.out rfl
                  clear HUd HA HFt
                  go_wp2
                  go_ret2
                  exact ⟨by rw [← HR.out, ← HLs.out]; rfl, Below.refl _ _⟩
                · cases neg
                  · have hU : U = false := by rw [← HUd]; rfl
                    subst hU
                    have HR : Hid (S = nt _) := HFt.out rfl
                    clear HUd HA HFt
                    go_wp2
                    go_ret2
                    exact ⟨by rw [← HR.out, ← HLs.out]; rfl, Below.refl _ _⟩
                  · have hU : U = true := by rw [← HUd]; rfl
                    subst hU
                    have HX : Hid (∀ X, Calls Tryz.prog 90 #[.string (tx S), .string { data := #[49] }] X fun e w' => e = .returned (.string (tx (nt (rndV 3 true (vl ds) j rest)))) ∧ Below X.heap.size X w') := HA.out rfl
                    clear HUd HA HFt
                    go_wp2_with fail
                    refine (HX.out _).mono ?_
                    rintro e w2 ⟨rfl, hb2⟩
                    go_wp2
                    go_ret2
                    exact ⟨by rw [← HLs.out]; rfl, hb2⟩
              · by_cases m4 : mode = 4
                · subst m4
                  cases LO
                  · have hU : U = false := by rw [← HUd]; rfl
                    subst hU
                    have HR : Hid (S = nt _) := HFt.out rfl
                    clear HUd HA HFt
                    go_wp2
                    go_ret2
                    exact ⟨by rw [← HR.out, ← HLs.out]; rfl, Below.refl _ _⟩
                  · cases neg
                    · have hU : U = true := by rw [← HUd]; rfl
                      subst hU
                      have HX : Hid (∀ X, Calls Tryz.prog 90 #[.string (tx S), .string { data := #[49] }] X fun e w' => e = .returned (.string (tx (nt (rndV 4 false (vl ds) j rest)))) ∧ Below X.heap.size X w') := HA.out rfl
                      clear HUd HA HFt
                      go_wp2_with fail
                      refine (HX.out _).mono ?_
                      rintro e w2 ⟨rfl, hb2⟩
                      go_wp2
                      go_ret2
                      exact ⟨by rw [← HLs.out]; rfl, hb2⟩
                    · have hU : U = false := by rw [← HUd]; rfl
                      subst hU
                      have HR : Hid (S = nt _) := HFt.out rfl
                      clear HUd HA HFt
                      go_wp2
                      go_ret2
                      exact ⟨by rw [← HR.out, ← HLs.out]; rfl, Below.refl _ _⟩
                · by_cases m5 : mode = 5
                  · subst m5
                    rcases hHc with rfl | rfl | rfl
                    · have hU : U = false := by rw [← HUd]; rfl
                      subst hU
                      have HR : Hid (S = nt _) := HFt.out rfl
                      clear HUd HA HFt
                      go_wp2
                      go_ret2
                      exact ⟨by rw [← HR.out, ← HLs.out]; rfl, Below.refl _ _⟩
                    · have hU : U = true := by rw [← HUd]; rfl
                      subst hU
                      have HX : Hid (∀ X, Calls Tryz.prog 90 #[.string (tx S), .string { data := #[49] }] X fun e w' => e = .returned (.string (tx (nt (rndV 5 neg (vl ds) j rest)))) ∧ Below X.heap.size X w') := HA.out rfl
                      clear HUd HA HFt
                      go_wp2_with fail
                      refine (HX.out _).mono ?_
                      rintro e w2 ⟨rfl, hb2⟩
                      go_wp2
                      go_ret2
                      exact ⟨by rw [← HLs.out]; rfl, hb2⟩
                    · have hU : U = true := by rw [← HUd]; rfl
                      subst hU
                      have HX : Hid (∀ X, Calls Tryz.prog 90 #[.string (tx S), .string { data := #[49] }] X fun e w' => e = .returned (.string (tx (nt (rndV 5 neg (vl ds) j rest)))) ∧ Below X.heap.size X w') := HA.out rfl
                      clear HUd HA HFt
                      go_wp2_with fail
                      refine (HX.out _).mono ?_
                      rintro e w2 ⟨rfl, hb2⟩
                      go_wp2
                      go_ret2
                      exact ⟨by rw [← HLs.out]; rfl, hb2⟩
                  · have c1 : (mode == 1) = false := by simpa using m1
                    have c3 : (mode == 3) = false := by simpa using m3
                    have c4 : (mode == 4) = false := by simpa using m4
                    have c5 : (mode == 5) = false := by simpa using m5
                    have hU : U = false := by rw [← HUd]; unfold upO; rw [if_neg m1, if_neg m3, if_neg m4, if_neg m5]
                    subst hU
                    have HR : Hid (S = nt _) := HFt.out rfl
                    clear HUd HA HFt m1 m3 m4 m5
                    go_wp2
                    go_ret2
                    exact ⟨by rw [← HR.out, ← HLs.out]; rfl, Below.refl _ _⟩
end Go.Proofs.YtdkpiofeidcffaaGreatDoor
namespace Go.Proofs.YtdkpiofeidcffaaGreatDoor
open Go.RowKit
set_option linter.unusedVariables false
set_option maxRecDepth 100000
theorem l12Mode_any (m : Int) (w : World) : Calls Tryz.prog 34 #[.int .i64 m] w fun e w' => e = .returned (.bool (decide (1 ≤ m ∧ m ≤ 5))) ∧ w' = w := by
  by_cases h : 1 ≤ m ∧ m ≤ 5
  · rw [decide_eq_true h]
    go_enter Tryz.func34, Tryz.ntmps34
    go_wp2_with fail
    refine (l1In_yes m 1 5 _ h.1 h.2).mono ?_
    rintro e w' ⟨rfl, rfl⟩
    go_wp2
    go_ret
    exact ⟨rfl, rfl⟩
  · rw [decide_eq_false h]
    go_enter Tryz.func34, Tryz.ntmps34
    go_wp2_with fail
    refine (l1In_no m 1 5 _ (by omega)).mono ?_
    rintro e w' ⟨rfl, rfl⟩
    go_wp2
    go_ret
    exact ⟨rfl, rfl⟩
/-- Arguments that RoundDigits takes. -/
def rdO (mode : Int) (s : ByteArray) (drop : Int) : Bool := decide (1 ≤ mode ∧ mode ≤ 5) && (natB 200 s && decide (0 ≤ drop ∧ drop ≤ 200))
def rdS (mode : Int) (neg : Bool) (s : ByteArray) (drop : Int) (rest : Bool) : ByteArray := if rdO mode s drop then tx (nt (rndV mode neg (nv s) drop.toNat rest)) else { data := #[] }
def rdL (mode : Int) (s : ByteArray) (drop : Int) (rest : Bool) : Bool := if rdO mode s drop then rndL (nv s) drop.toNat rest else false
end Go.Proofs.YtdkpiofeidcffaaGreatDoor
