/-
  The letters of a text (its runes) against its bytes: plain facts. Each letter below 128 is its own byte, and the first byte above 127 makes a letter above 127, at which the parse refuses and no name is met.
-/
import Derived.Deep.DeepCutAuto
import Derived.Test.YteofommckgeemaaGreatDoorRse
import Derived.Test.YteofommckgeemaaGreatDoorLbl
import Derived.Test.YteofommckgeemaaGreatDoorQtl
import Derived.Test.YteofommckgeemaaGreatDoorCls
import Derived.Lib.MapLaws
import Derived.Lib.TrimAscii
import Derived.Lib.TrimUEq
import Derived.Lib.TrimU
import Derived.Laws.Cover4
import Derived.Test.YteofommckgeemaaGreatDoorRsa
namespace Go.Proofs.YteofommckgeemaaGreatDoor
open Go.RowKit
set_option linter.unusedVariables false
set_option maxRecDepth 100000
set_option linter.unusedSimpArgs false
theorem rs_labels (c : Code) (hc : ∃ r, Tryz.f228.body = some (.seq r (.scope c))) : ∀ l, l ≤ 5 → ∃ X, findLabel c l = some (Code.skip.seq X) := by
  obtain ⟨r, hr⟩ := hc
  simp only [Tryz.f228, Option.some.injEq, Code.seq.injEq, Code.scope.injEq] at hr
  obtain ⟨-, rfl⟩ := hr
  intro l hl
  rcases (show l = 0 ∨ l = 1 ∨ l = 2 ∨ l = 3 ∨ l = 4 ∨ l = 5 by omega) with rfl | rfl | rfl | rfl | rfl | rfl <;> exact ⟨_, by (simp only [findLabel, Nat.reduceBEq, Bool.false_eq_true, if_false, if_true, Option.getD_some, BEq.rfl, ↓reduceIte]) <;> rfl⟩
theorem rs_le {w0 : World} {B s rb g : Nat} {R : List Int} {Y : Prt} {m l : Nat} {a : Act} {W : World} (h : RsJ w0 B s rb g R Y m l a W) : l ≤ 5 := by
  rcases Nat.lt_or_ge 5 l with h1 | h1
  · obtain ⟨k, rfl⟩ : ∃ k, l = k + 6 := ⟨l - 6, by omega⟩
    exact absurd h (by unfold RsJ; exact id)
  · exact h1
theorem rs_pass (c : Code) (hc : ∃ r, Tryz.f228.body = some (.seq r (.scope c))) (w0 : World) (B s rb g : Nat) (R : List Int) (Y : Prt) (m l : Nat) (a : Act) (W : World) (h : RsJ w0 B s rb g R Y m l a W) :
    ((findLabel c l).getD .skip).wp Tryz.prog (jmpE (fun l' a' w' => ∃ m', m' < m ∧ RsJ w0 B s rb g R Y m' l' a' w') (bodyPost Tryz.prog Tryz.f228 (RsQ w0 B Y))) a W := by
  have hl := rs_le h
  obtain ⟨X, hX⟩ := rs_labels c hc l hl
  rw [hX, Option.getD_some]
  refine wp_seq (wp_skip ?_)
  show X.wp _ _ _ _
  rcases (show l = 0 ∨ l = 1 ∨ l = 2 ∨ l = 3 ∨ l = 4 ∨ l = 5 by omega) with rfl | rfl | rfl | rfl | rfl | rfl
  · exact rs0 c hc X hX w0 B s rb g R Y m m (Nat.le_refl _) a W h
  · exact rs1 c hc X hX w0 B s rb g R Y m m (Nat.le_refl _) a W h
  · exact rs2 c hc X hX w0 B s rb g R Y m m (Nat.le_refl _) a W h
  · exact rs3 c hc X hX w0 B s rb g R Y m m (Nat.le_refl _) a W h
  · exact rs4 c hc X hX w0 B s rb g R Y m m (Nat.le_refl _) a W h
  · exact rs5 c hc X hX w0 B s rb g R Y m m (Nat.le_refl _) a W h
set_option maxRecDepth 100000 in
theorem rs_begin (B rb g off : Nat) (R : List Int) (w : World) (h : RDr w rb g R off) (hB : B ≤ rb) :
    RsD w (((w.alloc (.cells #[.string { data := #[] }, .int .i64 0] 192)).alloc (.cells #[.slice none 0 0] 251)).alloc (.cells #[.slice none 0 0] 251)) B w.heap.size rb g off R [] := by
  have hb : Below w.heap.size w (((w.alloc (.cells #[.string { data := #[] }, .int .i64 0] 192)).alloc (.cells #[.slice none 0 0] 251)).alloc (.cells #[.slice none 0 0] 251)) := (((Below.refl _ _).alloc (Nat.le_refl _) _).alloc (by simp) _).alloc (by simp; omega) _
  have hr := h.next hb
  obtain ⟨-, -, -, r1, r2, r3⟩ := h
  have s1 : (w.alloc (.cells #[.string { data := #[] }, .int .i64 0] 192)).heap.size = w.heap.size + 1 := by simp
  have s2 : ((w.alloc (.cells #[.string { data := #[] }, .int .i64 0] 192)).alloc (.cells #[.slice none 0 0] 251)).heap.size = w.heap.size + 2 := by simp
  have s3 : (((w.alloc (.cells #[.string { data := #[] }, .int .i64 0] 192)).alloc (.cells #[.slice none 0 0] 251)).alloc (.cells #[.slice none 0 0] 251)).heap.size = w.heap.size + 3 := by simp
  generalize hw3 : ((w.alloc (.cells #[.string { data := #[] }, .int .i64 0] 192)).alloc (.cells #[.slice none 0 0] 251)).alloc (.cells #[.slice none 0 0] 251) = w3 at *
  generalize hw2 : (w.alloc (.cells #[.string { data := #[] }, .int .i64 0] 192)).alloc (.cells #[.slice none 0 0] 251) = w2 at *
  generalize hw1 : w.alloc (.cells #[.string { data := #[] }, .int .i64 0] 192) = w1 at *
  have a1 : w1.heap[w.heap.size]? = some (.cells #[.string { data := #[] }, .int .i64 0] 192 (0, 0)) := by rw [← hw1]; exact (MapKept.heap_alloc w _).1
  have a2 : w2.heap[w1.heap.size]? = some (.cells #[.slice none 0 0] 251 (0, 0)) := by rw [← hw2]; exact (MapKept.heap_alloc w1 _).1
  have a3 : w3.heap[w2.heap.size]? = some (.cells #[.slice none 0 0] 251 (0, 0)) := by rw [← hw3]; exact (MapKept.heap_alloc w2 _).1
  have b2 : Below w1.heap.size w1 w2 := by rw [← hw2]; exact (Below.refl _ _).alloc (Nat.le_refl _) _
  have b3 : Below w2.heap.size w2 w3 := by rw [← hw3]; exact (Below.refl _ _).alloc (Nat.le_refl _) _
  rw [s1] at a2 b2
  rw [s2] at a3 b3
  have c1 := (b3.block w.heap.size (by omega)).trans ((b2.block w.heap.size (by omega)).trans a1)
  have c2 := (b3.block (w.heap.size + 1) (by omega)).trans a2
  exact ⟨⟨hr, ⟨.slice none 0 0, cell_blk c2, ⟨rfl, .inl ⟨rfl, rfl⟩⟩⟩, frz_blk c2, ⟨hB, by omega, by omega, by omega, by omega, by omega, by omega, by omega, by omega⟩, by simp⟩, c1, a3, hb.mono (by omega), ⟨Nat.zero_le _, (fun y hy => by cases hy), r2, r3, hB⟩⟩
set_option maxRecDepth 100000 in
set_option maxHeartbeats 4000000 in
theorem readScaled_any (B rb g off : Nat) (R : List Int) (w : World) (h : RDr w rb g R off) (hB : B ≤ rb) : Calls Tryz.prog 228 #[.pointer (some ⟨rb, 0, none⟩)] w (RsQ w B (pWhl (R.drop off) [])) := by
  have HD : Hid _ := rs_begin B rb g off R w h hB
  obtain ⟨Y, hY⟩ : ∃ Y, pWhl (R.drop off) [] = Y := ⟨_, rfl⟩
  have HY : Hid (Y = pWhl (R.drop off) []) := hY.symm
  rw [hY]
  obtain ⟨s, hs⟩ : ∃ s, w.heap.size = s := ⟨_, rfl⟩
  have HS : Hid (w.heap.size = s) := hs
  clear h hB hY hs
  go_enter Tryz.func228, Tryz.ntmps228
  go_wp2
  refine wp_scope_ms (J := fun m l a W => RsJ w B w.heap.size rb g R Y m l a W) (fun m l a W hJ => ?_) (10 * (R.length - off) + 6) ?_ (fun m l a W hJ => rs_pass _ ⟨_, rfl⟩ w B w.heap.size rb g R Y m l a W hJ)
  · obtain ⟨X, hX⟩ := rs_labels _ ⟨_, rfl⟩ l (rs_le hJ)
    rw [hX]; rfl
  · go_wp2
    refine wp_label ?_
    go_step
    go_step
    refine rs0 _ ⟨_, rfl⟩ _ (by (simp only [findLabel, Nat.reduceBEq, Bool.false_eq_true, if_false, if_true, Option.getD_some, BEq.rfl, ↓reduceIte]) <;> rfl) w B w.heap.size rb g R Y (10 * (R.length - off) + 6) (10 * (R.length - off) + 6) (Nat.le_refl _) _ _ ⟨off, [], HD.out, HY.out, ?_, rfl⟩
    exact ⟨_, _, _, _, _, _, _, _, _, _, _, _, _, _, _, _, _, _, _, _, _, _, _, _, _, _, _, _, _, _, _, _, _, _, _, _, _, _, _, _, _, _, _, _, _, _, _, _, rfl⟩
end Go.Proofs.YteofommckgeemaaGreatDoor
namespace Go.Proofs.YteofommckgeemaaGreatDoor
open Go.RowKit
set_option linter.unusedVariables false
set_option maxRecDepth 100000
set_option linter.unusedSimpArgs false
def rnL : Nat → List UInt8 → List Int
  | 0, _ => []
  | n + 1, l => if l = [] then [] else ((Lib.decodeL l).1 : Int) :: rnL n (l.drop (Lib.decodeL l).2)
/-- The letters of bytes. -/
def rn (l : List UInt8) : List Int := rnL l.length l
theorem rnL_nil : ∀ n, rnL n [] = []
  | 0 => rfl
  | n + 1 => by unfold rnL; rw [if_pos rfl]
theorem rnL_fuel : ∀ (n m : Nat) (l : List UInt8), l.length ≤ n → l.length ≤ m → rnL n l = rnL m l
  | 0, m, l, h1, h2 => by
    obtain rfl : l = [] := List.length_eq_zero_iff.1 (by omega)
    rw [rnL_nil, rnL_nil]
  | n + 1, 0, l, h1, h2 => by
    obtain rfl : l = [] := List.length_eq_zero_iff.1 (by omega)
    rw [rnL_nil, rnL_nil]
  | n + 1, m + 1, l, h1, h2 => by
    unfold rnL
    by_cases h : l = []
    · rw [if_pos h, if_pos h]
    · rw [if_neg h, if_neg h]
      have hw := Lib.decodeL_width l
      have hl : 0 < l.length := List.length_pos_iff.2 h
      rw [rnL_fuel n m (l.drop (Lib.decodeL l).2) (by rw [List.length_drop]; omega) (by rw [List.length_drop]; omega)]
theorem rn_nil : rn [] = [] := rfl
theorem rn_step (l : List UInt8) (h : l ≠ []) : rn l = ((Lib.decodeL l).1 : Int) :: rn (l.drop (Lib.decodeL l).2) := by
  have hw := Lib.decodeL_width l
  have hl : 0 < l.length := List.length_pos_iff.2 h
  obtain ⟨n, hn⟩ : ∃ n, l.length = n + 1 := ⟨l.length - 1, by omega⟩
  unfold rn
  rw [hn]
  conv => lhs; unfold rnL
  rw [if_neg h, rnL_fuel n _ (l.drop (Lib.decodeL l).2) (by rw [List.length_drop]; omega) (Nat.le_refl _)]
theorem rnL_len : ∀ (n : Nat) (l : List UInt8), (rnL n l).length ≤ n
  | 0, _ => Nat.le_refl _
  | n + 1, l => by
    unfold rnL
    split
    · exact Nat.zero_le _
    · rw [List.length_cons]; have := rnL_len n (l.drop (Lib.decodeL l).2); omega
theorem rn_len (l : List UInt8) : (rn l).length ≤ l.length := rnL_len _ _
theorem runesFrom_rn (s : ByteArray) : ∀ (fuel i : Nat) (acc : Array Value), s.size - i ≤ fuel → Conv.runesFrom s fuel i acc = acc ++ ((rn (s.data.toList.drop i)).map (Value.int .i32)).toArray
  | 0, i, acc, h => by
    have hl : s.data.toList.length = s.size := Array.length_toList
    rw [List.drop_eq_nil_iff.2 (by omega), rn_nil]
    simp [Conv.runesFrom]
  | fuel + 1, i, acc, h => by
    have hl : s.data.toList.length = s.size := Array.length_toList
    unfold Conv.runesFrom
    by_cases hi : i < s.size
    · rw [if_pos hi]
      have hd : Lib.decodeL (s.data.toList.drop i) = Utf8.decode s i := Lib.decodeL_drop s i
      have hw := Lib.decodeL_width (s.data.toList.drop i)
      rw [hd] at hw
      rw [rn_step (s.data.toList.drop i) (by rw [ne_eq, List.drop_eq_nil_iff]; omega), hd, List.drop_drop]
      show Conv.runesFrom s fuel (i + (Utf8.decode s i).2) (acc.push (.int .i32 (Int.ofNat (Utf8.decode s i).1))) = _
      rw [runesFrom_rn s fuel (i + (Utf8.decode s i).2) _ (by omega)]
      apply Array.ext'
      simp
    · rw [if_neg hi, List.drop_eq_nil_iff.2 (by omega), rn_nil]
      simp
theorem runes_of (s : ByteArray) : Conv.runesFrom s s.size 0 #[] = ((rn s.data.toList).map (Value.int .i32)).toArray := by
  rw [runesFrom_rn s s.size 0 #[] (by omega), List.drop_zero]
  simp
theorem rn_ascii (b : UInt8) (l : List UInt8) (h : b.toNat < 128) : rn (b :: l) = (b.toNat : Int) :: rn l := by
  rw [rn_step _ (List.cons_ne_nil _ _), Lib.decodeL_ascii b l h]
  rfl
theorem dec_high (b : UInt8) (l : List UInt8) (h : 128 ≤ b.toNat) : 128 ≤ (Lib.decodeL (b :: l)).1 := by
  rw [Lib.decodeL_N]
  have hb : ((b :: l).getD 0 0).toNat = b.toNat := rfl
  rw [hb]
  rcases Lib.decodeN_shape (b :: l).length b.toNat ((b :: l).getD 1 0).toNat ((b :: l).getD 2 0).toNat ((b :: l).getD 3 0).toNat with ⟨h1, -⟩ | ⟨-, -, -, h1, h2⟩ | ⟨-, -, -, -, h1, -, h2⟩ | ⟨-, -, -, -, -, h1, -, h2⟩ | h2
  · omega
  · rw [h2]; exact h1
  · rw [h2]; show 128 ≤ _; omega
  · rw [h2]; show 128 ≤ _; omega
  · rw [h2]; decide
theorem rn_high (b : UInt8) (l : List UInt8) (h : 128 ≤ b.toNat) : ∃ r t, rn (b :: l) = r :: t ∧ 128 ≤ r ∧ r ≤ 1114111 := by
  refine ⟨_, _, rn_step _ (List.cons_ne_nil _ _), ?_, ?_⟩
  · have := dec_high b l h; omega
  · have := Lib.decodeL_rune (b :: l); omega
def bz (l : List UInt8) : List Int := l.map (fun b => (b.toNat : Int))
theorem bz_cons (b : UInt8) (l : List UInt8) : bz (b :: l) = (b.toNat : Int) :: bz l := rfl
theorem pEnd_cons (x : Int) (L : List Int) (D : List Int) (n : Nat) (neg : Bool) (P : List Int) : pEnd (x :: L) D n neg P = none := by
  unfold pEnd; rw [if_neg (List.cons_ne_nil _ _)]
theorem pFin_cons (x y : Int) (L M : List Int) (D : List Int) (n : Nat) (neg : Bool) (P : List Int) : pFin (x :: L) D n neg P = pFin (y :: M) D n neg P := by
  unfold pFin; rw [pEnd_cons, pEnd_cons]
theorem dgB_high {r : Int} (h : 128 ≤ r) : dgB r = false := decide_eq_false (by omega)
theorem pExp_rn (l : List UInt8) (D : List Int) (n : Nat) (neg : Bool) (P : List Int) : pExp (rn l) D n neg P = pExp (bz l) D n neg P := by
  induction l generalizing P with
  | nil => rfl
  | cons b l ih =>
    rw [bz_cons]
    by_cases h : b.toNat < 128
    · rw [rn_ascii b l h]
      simp only [pExp]
      split
      · exact ih _
      · exact pFin_cons _ _ _ _ _ _ _ _
    · obtain ⟨r, t, hr, h1, -⟩ := rn_high b l (by omega)
      rw [hr]
      simp only [pExp, dgB_high h1, dgB_high (show (128 : Int) ≤ (b.toNat : Int) by omega), Bool.false_eq_true, if_false]
      exact pFin_cons _ _ _ _ _ _ _ _
theorem pSgn_rn (l : List UInt8) (D : List Int) (n : Nat) : pSgn (rn l) D n = pSgn (bz l) D n := by
  cases l with
  | nil => rfl
  | cons b l =>
    have hp : ∀ neg, pExp (rn (b :: l)) D n neg [] = pExp (bz (b :: l)) D n neg [] := fun neg => pExp_rn _ _ _ _ _
    rw [bz_cons] at hp ⊢
    by_cases h : b.toNat < 128
    · rw [rn_ascii b l h] at hp ⊢
      simp only [pSgn]
      split
      · exact pExp_rn _ _ _ _ _
      · split
        · exact pExp_rn _ _ _ _ _
        · exact hp _
    · obtain ⟨r, t, hr, h1, -⟩ := rn_high b l (by omega)
      rw [hr] at hp ⊢
      simp only [pSgn]
      rw [if_neg (by omega), if_neg (by omega), if_neg (by omega), if_neg (by omega)]
      exact hp _
theorem pMark_rn (l : List UInt8) (D : List Int) (n : Nat) : pMark (rn l) D n = pMark (bz l) D n := by
  cases l with
  | nil => rfl
  | cons b l =>
    rw [bz_cons]
    by_cases h : b.toNat < 128
    · rw [rn_ascii b l h]
      simp only [pMark]
      split
      · rfl
      · split
        · exact pSgn_rn _ _ _
        · rw [pEnd_cons, pEnd_cons]
    · obtain ⟨r, t, hr, h1, -⟩ := rn_high b l (by omega)
      rw [hr]
      simp only [pMark]
      rw [if_neg (show ¬ (r = 69 ∨ r = 101) by omega), if_neg (show ¬ ((b.toNat : Int) = 69 ∨ (b.toNat : Int) = 101) by omega), pEnd_cons, pEnd_cons]
theorem pFrc_rn (l : List UInt8) (D : List Int) (n : Nat) : pFrc (rn l) D n = pFrc (bz l) D n := by
  induction l generalizing D n with
  | nil => rfl
  | cons b l ih =>
    have hp := pMark_rn (b :: l) D n
    rw [bz_cons] at hp ⊢
    by_cases h : b.toNat < 128
    · rw [rn_ascii b l h] at hp ⊢
      simp only [pFrc]
      split
      · exact ih _ _
      · exact hp
    · obtain ⟨r, t, hr, h1, -⟩ := rn_high b l (by omega)
      rw [hr] at hp ⊢
      simp only [pFrc, dgB_high h1, dgB_high (show (128 : Int) ≤ (b.toNat : Int) by omega), Bool.false_eq_true, if_false]
      exact hp
theorem pWhl_rn (l : List UInt8) (D : List Int) : pWhl (rn l) D = pWhl (bz l) D := by
  induction l generalizing D with
  | nil => rfl
  | cons b l ih =>
    have hp := pMark_rn (b :: l) D 0
    rw [bz_cons] at hp ⊢
    by_cases h : b.toNat < 128
    · rw [rn_ascii b l h] at hp ⊢
      simp only [pWhl]
      split
      · exact ih _
      · split
        · exact pFrc_rn _ _ _
        · exact hp
    · obtain ⟨r, t, hr, h1, -⟩ := rn_high b l (by omega)
      rw [hr] at hp ⊢
      simp only [pWhl, dgB_high h1, dgB_high (show (128 : Int) ≤ (b.toNat : Int) by omega), Bool.false_eq_true, if_false]
      rw [if_neg (show ¬ r = 46 by omega), if_neg (show ¬ (b.toNat : Int) = 46 by omega)]
      exact hp
/-- What makes A to Z small, of letters and of bytes. -/
def sml (x : Int) : Int := if 65 ≤ x ∧ x ≤ 90 then x + 32 else x
def lowB (b : UInt8) : UInt8 := if 65 ≤ b.toNat ∧ b.toNat ≤ 90 then b + 32 else b
theorem enc_ascii (r : Int) (h0 : 0 ≤ r) (h1 : r < 128) : (Utf8.encode r).data.toList = [UInt8.ofNat r.toNat] := by
  have hv : Utf8.valid r = true := by unfold Utf8.valid; simp; omega
  unfold Utf8.encode
  simp only [hv, if_true]
  rw [if_pos (by omega)]
theorem enc_high (r : Int) (h0 : 128 ≤ r) (h1 : r ≤ 1114111) : ∃ c t, (Utf8.encode r).data.toList = c :: t ∧ 128 ≤ c.toNat := by
  unfold Utf8.encode
  simp only
  have hc : 128 ≤ (if Utf8.valid r = true then r.toNat else Utf8.runeError) ∧ (if Utf8.valid r = true then r.toNat else Utf8.runeError) ≤ 1114111 := by
    split
    · omega
    · decide
  generalize (if Utf8.valid r = true then r.toNat else Utf8.runeError) = c at hc
  have e : ∀ n, 128 ≤ n → n < 256 → 128 ≤ (UInt8.ofNat n).toNat := fun n h1 h2 => by rw [UInt8.toNat_ofNat']; omega
  rw [if_neg (by omega)]
  split
  · exact ⟨_, _, rfl, e _ (by omega) (by omega)⟩
  · split
    · exact ⟨_, _, rfl, e _ (by omega) (by omega)⟩
    · exact ⟨_, _, rfl, e _ (by omega) (by omega)⟩
theorem encR_ascii (r : Int) (h0 : 0 ≤ r) (h1 : r < 128) : Lib.encodeRune r = [UInt8.ofNat r.toNat] := by
  unfold Lib.encodeRune
  rw [Lib.encodeRuneZ_one h0 (by omega)]
  rfl
theorem encR_high (r : Int) (h0 : 128 ≤ r) : ∃ c t, Lib.encodeRune r = c :: t ∧ 128 ≤ c.toNat := by
  unfold Lib.encodeRune Lib.encodeRuneZ
  have e : ∀ x : Int, 128 ≤ x → x < 256 → 128 ≤ (x.toNat.toUInt8).toNat := fun x h1 h2 => by
    show 128 ≤ (UInt8.ofNat x.toNat).toNat
    rw [UInt8.toNat_ofNat']; omega
  rw [if_neg (by omega)]
  split
  · exact ⟨_, _, rfl, e _ (by omega) (by omega)⟩
  · split
    · exact ⟨_, _, rfl, e _ (by omega) (by omega)⟩
    · split
      · exact ⟨_, _, rfl, e _ (by omega) (by omega)⟩
      · exact ⟨_, _, rfl, by decide⟩
theorem foldl_runes (ns : List Int) : ∀ s : ByteArray, (ns.foldl (fun r n => r ++ Utf8.encode n) s).data.toList = s.data.toList ++ (ns.foldl (fun r n => r ++ Utf8.encode n) ByteArray.empty).data.toList := by
  induction ns with
  | nil => intro s; simp
  | cons n ns ih =>
    intro s
    rw [List.foldl_cons, List.foldl_cons, ih (s ++ Utf8.encode n), ih (ByteArray.empty ++ Utf8.encode n)]
    simp
theorem runesB_cons (r : Int) (L : List Int) : (runesBytes (r :: L)).data.toList = (Utf8.encode r).data.toList ++ (runesBytes L).data.toList := by
  unfold runesBytes
  rw [List.foldl_cons, foldl_runes]
  simp
theorem lowB_sml (b : UInt8) (h : b.toNat < 128) : UInt8.ofNat (sml (b.toNat : Int)).toNat = lowB b ∧ 0 ≤ sml (b.toNat : Int) ∧ sml (b.toNat : Int) < 128 := by
  unfold sml lowB
  split
  · rename_i h1
    rw [if_pos (by omega)]
    refine ⟨?_, by omega, by omega⟩
    apply UInt8.toNat_inj.1
    rw [UInt8.toNat_ofNat', UInt8.toNat_add]
    show ((b.toNat : Int) + 32).toNat % 2 ^ 8 = (b.toNat + 32) % 2 ^ 8
    congr 1
  · rw [if_neg (by omega)]
    refine ⟨?_, by omega, by omega⟩
    apply UInt8.toNat_inj.1
    rw [UInt8.toNat_ofNat']
    omega
theorem lowB_high (b : UInt8) (h : 128 ≤ b.toNat) : lowB b = b := by unfold lowB; rw [if_neg (by omega)]
/-- A name is met by the letters where it is met by the bytes. -/
theorem name_same (l nm : List UInt8) (hn : ∀ c ∈ nm, c.toNat < 128) : Lib.mapD sml (runesBytes (rn l)).data.toList = nm ↔ l.map lowB = nm := by
  induction l generalizing nm with
  | nil => exact Iff.rfl
  | cons b l ih =>
    by_cases h : b.toNat < 128
    · rw [rn_ascii b l h, runesB_cons, enc_ascii _ (by omega) (by omega), show UInt8.ofNat ((b.toNat : Int).toNat) = b by simp, List.singleton_append,
        Lib.mapD_step _ _ (List.cons_ne_nil _ _), Lib.decodeL_ascii b _ h]
      obtain ⟨e1, e2, e3⟩ := lowB_sml b h
      show (if 0 ≤ sml (b.toNat : Int) then Lib.encodeRune (sml (b.toNat : Int)) else []) ++ Lib.mapD sml (runesBytes (rn l)).data.toList = nm ↔ _
      rw [if_pos e2, encR_ascii _ e2 e3, e1, List.map_cons, List.singleton_append]
      cases nm with
      | nil => simp
      | cons c nm => rw [List.cons.injEq, List.cons.injEq, ih nm (fun x hx => hn x (List.mem_cons_of_mem _ hx))]
    · have hb : 128 ≤ b.toNat := by omega
      obtain ⟨r, t, hr, h1, h2⟩ := rn_high b l hb
      obtain ⟨c, u, hc, h3⟩ := enc_high r h1 h2
      have h4 := dec_high c (u ++ (runesBytes t).data.toList) h3
      rw [hr, runesB_cons, hc, List.cons_append, Lib.mapD_step _ _ (List.cons_ne_nil _ _)]
      generalize (Lib.decodeL (c :: (u ++ (runesBytes t).data.toList))).1 = q at h4
      have hq : sml (q : Int) = q := by unfold sml; rw [if_neg (by omega)]
      obtain ⟨c2, u2, hc2, h5⟩ := encR_high (q : Int) (by omega)
      rw [hq, if_pos (by omega), hc2, List.cons_append, List.map_cons, lowB_high b hb]
      constructor
      · intro q; rw [← q] at hn; have := hn c2 List.mem_cons_self; omega
      · intro q; rw [← q] at hn; have := hn b List.mem_cons_self; omega
theorem sml_bd (x : Nat) (h : x ≤ 1114111) : 0 ≤ sml (x : Int) ∧ sml (x : Int) ≤ 2147483647 := by unfold sml; split <;> omega
end Go.Proofs.YteofommckgeemaaGreatDoor
