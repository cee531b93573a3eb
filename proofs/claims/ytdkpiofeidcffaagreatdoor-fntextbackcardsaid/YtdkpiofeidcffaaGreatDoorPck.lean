/-
  A number picked of a code's bytes, walked.
-/
import Derived.Test.YtdkpiofeidcffaaGreatDoorRno
import Derived.Test.YtdkpiofeidcffaaGreatDoorShb
import Derived.Test.YtdkpiofeidcffaaGreatDoorWrdR
import Derived.Test.YtdkpiofeidcffaaGreatDoorRgt
import Derived.Test.YtdkpiofeidcffaaGreatDoorFcs
import Derived.Test.YtdkpiofeidcffaaGreatDoorDrawFt
import Derived.Test.YtdkpiofeidcffaaGreatDoorDrawNm
import Derived.Laws.IdiomStrings
import Derived.Laws.BytesArg
import Derived.Lib.SlBytesConst
import Derived.Test.YtdkpiofeidcffaaGreatDoorDrawN
import Derived.BigQuiet
namespace Go.Proofs.YtdkpiofeidcffaaGreatDoor
open Go.RowKit
set_option linter.unusedVariables false
set_option maxRecDepth 100000
theorem bz_app (a b : List UInt8) : bz (a ++ b) = bz a ++ bz b := by unfold bz; rw [List.map_append]
theorem ba_list (a b : ByteArray) : (a ++ b).data.toList = a.data.toList ++ b.data.toList := by rw [ByteArray.data_append, Array.toList_append]
theorem txl (ds : List Int) : (tx ds).data.toList = ds.map fun d => UInt8.ofNat (48 + d).toNat := by rw [tx_data]
theorem bz_tx (ds : List Int) (h : Dec ds) : bz (tx ds).data.toList = ds.map (48 + ·) := by
  rw [txl]
  unfold bz
  rw [List.map_map]
  apply List.map_congr_left
  intro d hd
  have := h d hd
  show (((UInt8.ofNat (48 + d).toNat).toNat : Nat) : Int) = 48 + d
  rw [UInt8.toNat_ofNat']
  omega
theorem up_down (ds : List Int) : (ds.map (48 + ·)).map (· - 48) = ds := by
  rw [List.map_map]
  conv => rhs; rw [← List.map_id ds]
  apply List.map_congr_left
  intro d _
  show 48 + d - 48 = d
  omega
theorem dgB_up (d : Int) (h : 0 ≤ d ∧ d ≤ 9) : dgB (48 + d) = true := decide_eq_true (by omega)
theorem pWhl_digits (A : List Int) (h : Dec A) (r D : List Int) : pWhl (A.map (48 + ·) ++ r) D = pWhl r (D ++ A.map (48 + ·)) := by
  induction A generalizing D with
  | nil => rw [List.map_nil, List.nil_append, List.append_nil]
  | cons d A ih =>
    rw [List.map_cons, List.cons_append]
    conv => lhs; unfold pWhl
    rw [if_pos (dgB_up d (h d List.mem_cons_self)), ih (fun x hx => h x (List.mem_cons_of_mem _ hx)), List.append_assoc, List.singleton_append]
theorem pFrc_digits (A : List Int) (h : Dec A) (r D : List Int) (n : Nat) : pFrc (A.map (48 + ·) ++ r) D n = pFrc r (D ++ A.map (48 + ·)) (n + A.length) := by
  induction A generalizing D n with
  | nil => rw [List.map_nil, List.nil_append, List.append_nil]; rfl
  | cons d A ih =>
    rw [List.map_cons, List.cons_append]
    conv => lhs; unfold pFrc
    rw [if_pos (dgB_up d (h d List.mem_cons_self)), ih (fun x hx => h x (List.mem_cons_of_mem _ hx)), List.append_assoc, List.singleton_append, List.length_cons, Nat.add_right_comm, Nat.add_assoc]
theorem pExp_digits (A : List Int) (h : Dec A) (D : List Int) (n : Nat) (ng : Bool) (P : List Int) : pExp (A.map (48 + ·)) D n ng P = pFin [] D n ng (P ++ A.map (48 + ·)) := by
  induction A generalizing P with
  | nil => rw [List.map_nil, List.append_nil]; rfl
  | cons d A ih =>
    rw [List.map_cons]
    conv => lhs; unfold pExp
    rw [if_pos (dgB_up d (h d List.mem_cons_self)), ih (fun x hx => h x (List.mem_cons_of_mem _ hx)), List.append_assoc, List.singleton_append]
theorem pWhl_mark (t D : List Int) (ht : t = [] ∨ ∃ u, t = 69 :: u) : pWhl t D = pMark t D 0 := by
  rcases ht with rfl | ⟨u, rfl⟩
  · rfl
  · conv => lhs; unfold pWhl
    rw [if_neg (by decide), if_neg (by decide)]
theorem pFrc_mark (t D : List Int) (n : Nat) (ht : t = [] ∨ ∃ u, t = 69 :: u) : pFrc t D n = pMark t D n := by
  rcases ht with rfl | ⟨u, rfl⟩
  · rfl
  · conv => lhs; unfold pFrc
    rw [if_neg (by decide)]
theorem pWhl_pt (A B : List Int) (hA : Dec A) (hB : Dec B) (t : List Int) (ht : t = [] ∨ ∃ u, t = 69 :: u) :
    pWhl (bz (ptT A B).data.toList ++ t) [] = pMark t ((A ++ B).map (48 + ·)) B.length := by
  unfold ptT
  split
  · rename_i h
    subst h
    rw [bz_tx A hA, pWhl_digits A hA, List.nil_append, pWhl_mark t _ ht, List.append_nil]; rfl
  · rw [ba_list, ba_list, bz_app, bz_app, bz_tx A hA, bz_tx B hB, List.append_assoc, List.append_assoc, pWhl_digits A hA, List.nil_append]
    have e : bz ({ data := #[46] } : ByteArray).data.toList = [46] := rfl
    rw [e, List.singleton_append]
    conv => lhs; unfold pWhl
    rw [if_neg (by decide), if_pos rfl, pFrc_digits B hB, pFrc_mark t _ _ ht, Nat.zero_add, List.map_append]
theorem dcL_dec (n : Nat) : Dec (dcL n) := by
  induction n using Nat.strongRecOn with
  | ind n ih =>
    by_cases h : n < 10
    · rw [dcL_one h]; intro d hd; rw [List.mem_singleton.1 hd]; omega
    · rw [dcL_more h]
      intro d hd
      rcases List.mem_append.1 hd with q | q
      · exact ih (n / 10) (by omega) d q
      · rw [List.mem_singleton.1 q]; omega
theorem pe_dcL (n : Nat) : pe ((dcL n).map (48 + ·)) = n := by
  induction n using Nat.strongRecOn with
  | ind n ih =>
    by_cases h : n < 10
    · rw [dcL_one h]
      show 10 * 0 + ((48 + (n : Int)) - 48) = n
      omega
    · rw [dcL_more h, List.map_append, List.map_cons, List.map_nil, pe_more, ih (n / 10) (by omega)]
      omega
/-- A sign and a power's digits behind E. -/
theorem pSgn_pw (x : Int) (hx : -10000 < x ∧ x < 10000) (D : List Int) (n : Nat) :
    ∃ ng P, pSgn (bz (pwT x).data.toList) D n = some (D, n, ng, P) ∧ scE n ng P = x - n := by
  have key : ∀ (m : Nat), m < 10000 → ∀ ng, pExp ((dcL m).map (48 + ·)) D n ng [] = some (D, n, ng, (dcL m).map (48 + ·)) := fun m hm ng => by
    rw [pExp_digits _ (dcL_dec m), List.nil_append]
    unfold pFin
    have h1 := dcL_len m hm
    have h2 := List.length_pos_iff.2 (dcL_ne m)
    rw [if_neg, pEnd, if_pos rfl]
    rintro (q | q)
    · exact dcL_ne m (List.map_eq_nil_iff.1 q)
    · rw [List.length_map] at q; omega
  by_cases h : x < 0
  · have e : bz (pwT x).data.toList = 45 :: (dcL (-x).toNat).map (48 + ·) := by
      unfold pwT
      rw [if_pos h, ba_list, bz_app, bz_tx _ (dcL_dec _)]; rfl
    refine ⟨true, (dcL (-x).toNat).map (48 + ·), ?_, ?_⟩
    · rw [e]
      exact key _ (by omega) true
    · unfold scE
      rw [if_pos rfl, pe_dcL]; omega
  · have e : bz (pwT x).data.toList = 43 :: (dcL x.toNat).map (48 + ·) := by
      unfold pwT
      rw [if_neg h, ba_list, bz_app, bz_tx _ (dcL_dec _)]; rfl
    refine ⟨false, (dcL x.toNat).map (48 + ·), ?_, ?_⟩
    · rw [e]
      exact key _ (by omega) false
    · unfold scE
      rw [if_neg (by decide), pe_dcL]; omega
theorem strip_zpad (m : Nat) (L : List Int) (h : Canon L) : strip (zpad m L) = L := by
  unfold zpad
  rw [strip_noughts _ _ (fun e => by have := h.2.1; rw [e] at this; simp at this), strip_self L h]
/-- The number's text, parsed, is the number. -/
theorem show_parse (e : Int) (L : List Int) (hC : Canon L) (hl : L.length ≤ 34) (he : -6176 ≤ e ∧ e ≤ 6111) :
    ∃ D n ng P, pWhl (bz (fnT e L).data.toList) [] = some (D, n, ng, P) ∧ strip (D.map (· - 48)) = L ∧ scE n ng P = e := by
  unfold fnT
  split
  · rename_i h
    generalize hk : (-e).toNat = k
    have hz := zpad_len (k + 1) L
    have hd := zpad_dec (k + 1) L hC.1
    generalize hn : (zpad (k + 1) L).length - k = n
    have hp := pWhl_pt ((zpad (k + 1) L).take n) ((zpad (k + 1) L).drop n) (fun d hd' => hd d (List.mem_of_mem_take hd')) (fun d hd' => hd d (List.mem_of_mem_drop hd')) [] (.inl rfl)
    rw [List.append_nil, List.take_append_drop] at hp
    have hne : (zpad (k + 1) L).map (48 + ·) ≠ [] := fun q => by
      have := congrArg List.length q
      rw [List.length_map, List.length_nil] at this
      omega
    refine ⟨(zpad (k + 1) L).map (48 + ·), ((zpad (k + 1) L).drop n).length, false, [], ?_, ?_, ?_⟩
    · rw [hp]
      show (if _ = [] then none else pEnd [] _ _ false []) = _
      rw [if_neg hne]
      rfl
    · rw [up_down, strip_zpad _ L hC]
    · have e0 : pe [] = 0 := rfl
      unfold scE
      rw [if_neg (by decide), e0, List.length_drop]
      omega
  · have hb := hC.2.1
    have hT : Dec (L.take 1) := fun d hd' => hC.1 d (List.mem_of_mem_take hd')
    have hD : Dec (L.drop 1) := fun d hd' => hC.1 d (List.mem_of_mem_drop hd')
    obtain ⟨ng, P, h1, h2⟩ := pSgn_pw ((L.length : Int) - 1 + e) (by omega) (L.map (48 + ·)) (L.drop 1).length
    have hne : L.map (48 + ·) ≠ [] := fun q => by
      have := congrArg List.length q
      rw [List.length_map, List.length_nil] at this
      omega
    refine ⟨L.map (48 + ·), (L.drop 1).length, ng, P, ?_, ?_, ?_⟩
    · rw [ba_list, ba_list, bz_app, bz_app, List.append_assoc]
      have e1 : bz ({ data := #[69] } : ByteArray).data.toList = [69] := rfl
      rw [e1, List.singleton_append, pWhl_pt _ _ hT hD _ (.inr ⟨_, rfl⟩), List.take_append_drop]
      show (if _ = [] then none else if (69 : Int) = 69 ∨ (69 : Int) = 101 then pSgn _ _ _ else _) = _
      rw [if_neg hne, if_pos (.inl rfl), h1]
    · rw [up_down, strip_self L hC]
    · rw [h2, List.length_drop]; omega
theorem ptT_head (A B : List Int) (hA : A ≠ []) : ∃ r, (ptT A B).data.toList = UInt8.ofNat (48 + A.headD 0).toNat :: r := by
  cases A with
  | nil => exact absurd rfl hA
  | cons d A =>
    unfold ptT
    split
    · exact ⟨_, by rw [txl]; rfl⟩
    · refine ⟨(A.map fun d => UInt8.ofNat (48 + d).toNat) ++ ({ data := #[46] } : ByteArray).data.toList ++ (tx B).data.toList, ?_⟩
      rw [ba_list, ba_list, txl (d :: A), List.map_cons, List.cons_append, List.cons_append]
      rfl
theorem fnT_head (e : Int) (L : List Int) (hC : Canon L) : ∃ (d : Int) (r : List UInt8), 0 ≤ d ∧ d ≤ 9 ∧ (fnT e L).data.toList = UInt8.ofNat (48 + d).toNat :: r := by
  have hhd : ∀ A : List Int, A ≠ [] → Dec A → 0 ≤ A.headD 0 ∧ A.headD 0 ≤ 9 := fun A hA hd => by
    cases A with
    | nil => exact absurd rfl hA
    | cons d A => exact hd d List.mem_cons_self
  unfold fnT
  split
  · rename_i h
    generalize hk : (-e).toNat = k
    have hz := zpad_len (k + 1) L
    have hd := zpad_dec (k + 1) L hC.1
    have hA : (zpad (k + 1) L).take ((zpad (k + 1) L).length - k) ≠ [] := fun q => by
      have := congrArg List.length q
      rw [List.length_take, List.length_nil] at this
      omega
    obtain ⟨r, hr⟩ := ptT_head _ ((zpad (k + 1) L).drop ((zpad (k + 1) L).length - k)) hA
    obtain ⟨h0, h9⟩ := hhd _ hA (fun d hd' => hd d (List.mem_of_mem_take hd'))
    exact ⟨_, r, h0, h9, hr⟩
  · have hb := hC.2.1
    have hA : L.take 1 ≠ [] := fun q => by
      have := congrArg List.length q
      rw [List.length_take, List.length_nil] at this
      omega
    obtain ⟨r, hr⟩ := ptT_head _ (L.drop 1) hA
    obtain ⟨h0, h9⟩ := hhd _ hA (fun d hd' => hC.1 d (List.mem_of_mem_take hd'))
    refine ⟨_, r ++ ({ data := #[69] } : ByteArray).data.toList ++ (pwT ((L.length : Int) - 1 + e)).data.toList, h0, h9, ?_⟩
    rw [ba_list, ba_list, hr, List.cons_append, List.cons_append]
theorem txs (ds : List Int) : (tx ds).data.toList.length = ds.length := by rw [txl, List.length_map]
theorem ptT_len (A B : List Int) : (ptT A B).data.toList.length ≤ A.length + 1 + B.length := by
  unfold ptT
  split
  · rw [txs]; omega
  · rw [ba_list, ba_list, List.length_append, List.length_append, txs, txs]
    show A.length + 1 + B.length ≤ _
    omega
theorem pwT_len (x : Int) (hx : -10000 < x ∧ x < 10000) : (pwT x).data.toList.length ≤ 5 := by
  unfold pwT
  split
  · have := dcL_len (-x).toNat (by omega)
    rw [ba_list, List.length_append, txs]
    show 1 + _ ≤ 5
    omega
  · have := dcL_len x.toNat (by omega)
    rw [ba_list, List.length_append, txs]
    show 1 + _ ≤ 5
    omega
theorem fnT_len (e : Int) (L : List Int) (hC : Canon L) (hl : L.length ≤ 34) (he : -6176 ≤ e ∧ e ≤ 6111) : (fnT e L).data.toList.length ≤ 100 := by
  have hb := hC.2.1
  unfold fnT
  split
  · rename_i h
    generalize hk : (-e).toNat = k
    have hz := zpad_len (k + 1) L
    have := ptT_len ((zpad (k + 1) L).take ((zpad (k + 1) L).length - k)) ((zpad (k + 1) L).drop ((zpad (k + 1) L).length - k))
    rw [List.length_take, List.length_drop] at this
    omega
  · have h1 := ptT_len (L.take 1) (L.drop 1)
    rw [List.length_take, List.length_drop] at h1
    have h2 := pwT_len ((L.length : Int) - 1 + e) (by omega)
    rw [ba_list, ba_list, List.length_append, List.length_append]
    show _ + 1 + _ ≤ 100
    omega
theorem knK_digit (d : Int) (h0 : 0 ≤ d) (h9 : d ≤ 9) (r : List UInt8) : knK ((UInt8.ofNat (48 + d).toNat :: r).map lowB) = 0 := by
  obtain ⟨c, hc, hc2⟩ : ∃ c : UInt8, c.toNat ≤ 57 ∧ lowB (UInt8.ofNat (48 + d).toNat) = c := by
    refine ⟨_, ?_, rfl⟩
    have e : (UInt8.ofNat (48 + d).toNat).toNat = (48 + d).toNat := by rw [UInt8.toNat_ofNat']; omega
    unfold lowB
    rw [if_neg (by rw [e]; omega), e]
    omega
  have n1 : ∀ x : UInt8, 57 < x.toNat → ∀ u v : List UInt8, ¬ c :: u = x :: v := fun x hx u v q => by
    have := (List.cons.inj q).1
    subst this
    omega
  rw [List.map_cons, hc2]
  unfold knK nmInfinity nmInf nmNan nmSnan
  rw [if_neg (fun q => Or.elim q (n1 _ (by decide) _ _) (n1 _ (by decide) _ _)), if_neg (n1 _ (by decide) _ _), if_neg (n1 _ (by decide) _ _)]
theorem sgn_digit (b : Bool) (d : Int) (h0 : 0 ≤ d) (h9 : d ≤ 9) (r : List UInt8) : sgn ((sgnT b).data.toList ++ UInt8.ofNat (48 + d).toNat :: r) = b ∧ unS ((sgnT b).data.toList ++ UInt8.ofNat (48 + d).toNat :: r) = UInt8.ofNat (48 + d).toNat :: r := by
  have e : (UInt8.ofNat (48 + d).toNat).toNat = (48 + d).toNat := by rw [UInt8.toNat_ofNat']; omega
  have n43 : ¬ UInt8.ofNat (48 + d).toNat = 43 := fun q => by
    rw [q] at e
    have : (48 + d).toNat = 43 := e.symm
    omega
  have n45 : ¬ UInt8.ofNat (48 + d).toNat = 45 := fun q => by
    rw [q] at e
    have : (48 + d).toNat = 45 := e.symm
    omega
  cases b with
  | true => exact ⟨rfl, rfl⟩
  | false =>
    show sgn (UInt8.ofNat (48 + d).toNat :: r) = false ∧ unS (UInt8.ofNat (48 + d).toNat :: r) = _
    rw [sgn_cons, unS_cons, decide_eq_false n45, if_neg (fun q => Or.elim q n43 n45)]
    exact ⟨rfl, rfl⟩
/-- A number that is right is read back from its text, whatever the mode. -/
theorem text_back (k : Int) (b : Bool) (e : Int) (s : ByteArray) (m : Int) (hO : numB 128 k b e s = true) (hm : 1 ≤ m ∧ m ≤ 5) :
    rdR 128 m (shT k b e s).data.toList = .tuple #[rsV k b e s 0, .bool true] ∧ (shT k b e s).size ≤ 200 := by
  have hsh : shT k b e s = sgnT b ++ usT k e s := by unfold shT; rw [hO]; rfl
  have hsz : (shT k b e s).size = (shT k b e s).data.toList.length := Array.length_toList.symm
  rw [hsz]
  rw [hsh]
  rcases right_128 k b e s hO with ⟨rfl, hs, hp, hl, he⟩ | hk
  · have hC : Canon (dl s) := by
      have h := hO
      unfold numB at h
      rw [if_neg (by decide), if_pos rfl] at h
      simp only [Bool.and_eq_true] at h
      exact (natB_dl _ _ h.1).1
    have hus : usT 1 e s = fnT e (dl s) := by
      unfold usT
      rw [if_neg (by decide), if_neg (by decide), if_neg (by decide)]
    rw [hus, ba_list]
    have hlen := fnT_len e (dl s) hC hl he
    obtain ⟨d, r, h0, h9, hr⟩ := fnT_head e (dl s) hC
    obtain ⟨D, n, ng, P, p1, p2, p3⟩ := show_parse e (dl s) hC hl he
    obtain ⟨g1, g2⟩ := sgn_digit b d h0 h9 r
    have hsl : (sgnT b).data.toList.length ≤ 1 := by cases b <;> decide
    have hz : ((sgnT b).data.toList ++ (fnT e (dl s)).data.toList).length ≤ 200 := by rw [List.length_append]; omega
    refine ⟨?_, hz⟩
    unfold rdR
    rw [if_pos ⟨.inr rfl, hm, hz⟩]
    rw [hr] at p1 ⊢
    rw [g1, g2]
    unfold rdSt
    rw [knK_digit d h0 h9 r, if_neg (fun q => q rfl), p1]
    show Value.tuple #[rsD b (finD 128 m b (strip (D.map (· - 48))) (scE n ng P) false (scE n ng P)), .bool true] = _
    rw [p2, p3, finD_self 128 (.inr rfl) m b (dl s) e hC (by show _ ≤ (34 : Int); omega) (by show (-6176 : Int) ≤ _; omega) (by show _ ≤ (6111 : Int); omega), ← hs]
  · have hes : e = 0 ∧ s = { data := #[] } := by
      have h := hO
      unfold numB at h
      rw [if_neg (by decide)] at h
      have he : s.toList.isEmpty = true → s = { data := #[] } := fun q => by
        apply ByteArray.ext
        have := List.isEmpty_iff.1 q
        rw [ByteArray.toList_eq] at this
        exact Array.toList_inj.1 this
      rcases hk with rfl | ⟨rfl, rfl⟩ | ⟨rfl, rfl⟩
      · rw [if_neg (by decide), if_pos rfl] at h
        simp only [Bool.and_eq_true, decide_eq_true_eq] at h
        exact ⟨h.1, he h.2⟩
      · rw [if_neg (by decide), if_neg (by decide), if_pos (by decide)] at h
        simp only [Bool.and_eq_true, decide_eq_true_eq] at h
        exact ⟨h.1, he h.2.1⟩
      · rw [if_neg (by decide), if_neg (by decide), if_pos (by decide)] at h
        simp only [Bool.and_eq_true, decide_eq_true_eq] at h
        exact ⟨h.1, he h.2.1⟩
    obtain ⟨rfl, rfl⟩ := hes
    have nm : ∀ (k : Int) (b : Bool) (l : List UInt8), l.length ≤ 200 → sgn l = b → knK ((unS l).map lowB) = k → k ≠ 0 → (b && decide (k = 2)) = b → rdR 128 m l = .tuple #[rsV k b 0 { data := #[] } 0, .bool true] := fun k b l h1 h2 h3 h4 h5 => by
      unfold rdR
      rw [if_pos ⟨.inr rfl, hm, h1⟩]
      unfold rdSt
      rw [h2, h3, if_pos h4, h5]
    rcases hk with rfl | ⟨rfl, rfl⟩ | ⟨rfl, rfl⟩
    · cases b with
      | false => exact ⟨nm 2 false _ (by decide) rfl (by decide) (by decide) rfl, by decide⟩
      | true => exact ⟨nm 2 true _ (by decide) rfl (by decide) (by decide) rfl, by decide⟩
    · exact ⟨nm 3 false _ (by decide) rfl (by decide) (by decide) rfl, by decide⟩
    · exact ⟨nm 4 false _ (by decide) rfl (by decide) (by decide) rfl, by decide⟩
theorem shT_none (k : Int) (b : Bool) (e : Int) (s : ByteArray) : (shT k b e s = { data := #[] }) ↔ numB 128 k b e s = false := by
  constructor
  · intro h
    cases hO : numB 128 k b e s with
    | false => rfl
    | true =>
      have h1 := (text_back k b e s 1 hO (by decide)).1
      rw [h] at h1
      exact absurd h1 (by
        have : rdR 128 1 ({ data := #[] } : ByteArray).data.toList = .tuple #[rsV 0 false 0 { data := #[] } 0, .bool false] := rfl
        rw [this]
        intro q
        injection q with q
        have := congrArg (fun a : Array Value => a[1]?) q
        simp at this)
  · intro h; unfold shT; rw [h]; rfl
/-- What is read is right in the format, or nothing. -/
theorem rdR_told (f m : Int) (l : List UInt8) : rdR f m l = .tuple #[rsV 0 false 0 { data := #[] } 0, .bool false] ∨ ∃ k b e s F, rdR f m l = .tuple #[rsV k b e s F, .bool true] ∧ numB f k b e s = true := by
  unfold rdR
  split
  · rename_i h
    have hp : limP f ≠ 0 := by rcases h.1 with rfl | rfl <;> decide
    have hun := unS_len l
    unfold rdSt
    split
    · rename_i hk
      refine .inr ⟨_, _, _, _, _, rfl, ?_⟩
      unfold numB
      rw [if_neg hp]
      rcases knK_bd ((unS l).map lowB) with q | q | q | q
      · exact absurd q hk
      · rw [q, if_neg (by decide), if_pos rfl, ByteArray.toList_eq]; rfl
      · rw [q, if_neg (by decide), if_neg (by decide), if_pos (by decide), ByteArray.toList_eq]; cases sgn l <;> rfl
      · rw [q, if_neg (by decide), if_neg (by decide), if_pos (by decide), ByteArray.toList_eq]; cases sgn l <;> rfl
    · cases hx : pWhl (bz (unS l)) [] with
      | none => exact .inl rfl
      | some x =>
        obtain ⟨D, n, ng, P⟩ := x
        have hz : (bz (unS l)).length ≤ 200 := by unfold bz; rw [List.length_map]; omega
        obtain ⟨c1, c2, c3⟩ := prt_fin hx hz
        exact .inr ⟨_, _, _, _, _, rfl, finD_right f h.1 m _ _ _ _ c1 c2⟩
  · exact .inl rfl
end Go.Proofs.YtdkpiofeidcffaaGreatDoor
namespace Go.Proofs.YtdkpiofeidcffaaGreatDoor
open Go.RowKit
set_option linter.unusedVariables false
set_option maxRecDepth 100000
set_option linter.unusedSimpArgs false
/-- A slice of n short texts beside the cursor. -/
def fSl (cb n : Nat) (v : Value) (w : World) : Prop := ∃ b, v = .slice (some ⟨b, 0, none⟩) n n ∧ b ≠ cb ∧ b < w.heap.size ∧ ∀ i, i < n → ∃ s : ByteArray, w.cell? ⟨b, i, none⟩ = some (.string s) ∧ s.size ≤ 20
def fIx (n : Int) (v : Value) : Prop := ∃ x : Int, v = .int .i64 x ∧ 0 ≤ x ∧ x < n
def fAd (cb : Nat) (v : Value) (w : World) : Prop := ∃ (b i : Nat) (s : ByteArray), v = .pointer (some ⟨b, i, none⟩) ∧ b ≠ cb ∧ b < w.heap.size ∧ w.cell? ⟨b, i, none⟩ = some (.string s) ∧ s.size ≤ 20
def fSt (m : Nat) (v : Value) : Prop := ∃ s : ByteArray, v = .string s ∧ s.size ≤ m
theorem fSl.next {cb n : Nat} {v : Value} {w w' : World} (h : fSl cb n v w) (hg : w.grownBy w' (some cb)) : fSl cb n v w' := by
  obtain ⟨b, h1, h2, h3, h4⟩ := h
  refine ⟨b, h1, h2, Nat.lt_of_lt_of_le h3 hg.size, fun i hi => ?_⟩
  obtain ⟨s, hs, hz⟩ := h4 i hi
  exact ⟨s, hg.cell hs (fun e => h2 (Option.some.inj e)), hz⟩
theorem fAd.next {cb : Nat} {v : Value} {w w' : World} (h : fAd cb v w) (hg : w.grownBy w' (some cb)) : fAd cb v w' := by
  obtain ⟨b, i, s, h1, h2, h3, h4, h5⟩ := h
  exact ⟨b, i, s, h1, h2, Nat.lt_of_lt_of_le h3 hg.size, hg.cell h4 (fun e => h2 (Option.some.inj e)), h5⟩
theorem fSl_new {cb n : Nat} (w : World) (arr : Array Value) (T : TypeId) (hc : cb < w.heap.size) (hn : arr.size = n) (ha : ∀ i, i < n → ∃ s : ByteArray, arr[i]? = some (.string s) ∧ s.size ≤ 20) : fSl cb n (.slice (some ⟨w.heap.size, 0, none⟩) n n) (w.alloc (.cells arr T)) := by
  refine ⟨w.heap.size, rfl, by omega, by simp, fun i hi => ?_⟩
  obtain ⟨s, hs, hz⟩ := ha i hi
  refine ⟨s, ?_, hz⟩
  have h := (MapKept.heap_alloc w (.cells arr T)).1
  unfold World.cell?
  simp only [h]
  exact hs
/-- What holds of each value of the region. -/
def gTx (cb : Nat) (j : Nat) (v : Value) (w : World) : Prop := match j with
  | 0 => fSl cb 3 v w | 5 => fSl cb 4 v w | 11 => fSl cb 2 v w | 17 => fSl cb 4 v w | 23 => fSl cb 8 v w
  | 1 | 6 | 12 | 18 | 24 => v = .pointer (some ⟨cb, 0, none⟩)
  | 2 => fIx 3 v | 7 => fIx 4 v | 13 => fIx 2 v | 19 => fIx 4 v | 25 => fIx 8 v
  | 3 | 8 | 14 | 20 | 26 => fAd cb v w
  | 4 | 9 | 15 | 21 | 27 => fSt 20 v
  | 10 => fSt 40 v | 16 => fSt 60 v | 22 => fSt 80 v | _ => fSt 100 v
theorem gTx.next (cb : Nat) (j : Nat) (v : Value) (w w' : World) (hg : w.grownBy w' (some cb)) (h : gTx cb j v w) : gTx cb j v w' := by
  unfold gTx at h ⊢
  split at h
  all_goals first | exact h.next hg | exact h
set_option maxRecDepth 100000 in
set_option maxHeartbeats 4000000 in
theorem drTx_region {X : Code} (hX : X = selC [1, 1, 0, 1, 2] ((Tryz.f33.body).getD .skip)) (B cb : Nat) (a0 : Act) (w : World) (Q : Exit → Act → World → Prop) (h0 : a0.tmps[0]? = some (.pointer (some ⟨cb, 0, none⟩))) (hz : a0.tmps.size = 85) (hc : Cur B w cb)
    (HQ : ∀ (f : Nat → Value) (s : ByteArray) (w' : World), f 3 = .string s → s.size ≤ 100 → Cur B w' cb → w.grownBy w' (some cb) → Q .normal (putL f [15, 16, 17, 18, 19, 20, 21, 22, 23, 24, 25, 26, 27, 28, 29, 30, 31, 32, 33, 34, 35, 36, 37, 38, 39, 40, 41, 42, 43, 3] a0) w') : X.wp Tryz.prog Q a0 w := by
  subst hX
  simp only [Tryz.f33, selC, Option.getD_some]
  have hcB : Cur B w.drew cb := hc
  refine wp_region_facts [15, 16, 17, 18, 19, 20, 21, 22, 23, 24, 25, 26, 27, 28, 29, 30, 31, 32, 33, 34, 35, 36, 37, 38, 39, 40, 41, 42, 43, 3] (gTx cb) (fun W => Cur B W cb ∧ w.grownBy W (some cb)) (fun W W' => W.grownBy W' (some cb)) (by kernel_rfl) (by rw [hz]; kernel_rfl) ⟨hcB, ⟨rfl, rfl, rfl, Nat.le_refl _, fun _ _ _ => rfl⟩⟩ (fun j v W W' hR h => gTx.next cb j v W W' hR h) ?_ ?_
  · intro i o b W hio hS hF hd K hK
    have hi := (Array.getElem?_eq_some_iff.1 hio).1
    have hi30 : i < 30 := hi
    have hg0 : ∀ X : World, X.grownBy X (some cb) := fun X => ⟨rfl, rfl, rfl, Nat.le_refl _, fun _ _ _ => rfl⟩
    have p0 : b.tmps.getD 0 undef = .pointer (some ⟨cb, 0, none⟩) := by
      rw [Array.getD_eq_getD_getElem?, hF.2.2 0 (by decide), h0]; rfl
    rcases (show i = 0 ∨ i = 1 ∨ i = 2 ∨ i = 3 ∨ i = 4 ∨ i = 5 ∨ i = 6 ∨ i = 7 ∨ i = 8 ∨ i = 9 ∨ i = 10 ∨ i = 11 ∨ i = 12 ∨ i = 13 ∨ i = 14 ∨ i = 15 ∨ i = 16 ∨ i = 17 ∨ i = 18 ∨ i = 19 ∨ i = 20 ∨ i = 21 ∨ i = 22 ∨ i = 23 ∨ i = 24 ∨ i = 25 ∨ i = 26 ∨ i = 27 ∨ i = 28 ∨ i = 29 by omega) with rfl | rfl | rfl | rfl | rfl | rfl | rfl | rfl | rfl | rfl | rfl | rfl | rfl | rfl | rfl | rfl | rfl | rfl | rfl | rfl | rfl | rfl | rfl | rfl | rfl | rfl | rfl | rfl | rfl | rfl
    all_goals
      simp only [List.getElem?_toArray, List.getElem?_cons_succ, List.getElem?_cons_zero, Option.some.injEq] at hio
      subst hio
    · unfold Oper.wp
      simp [execOp, go_sem, Act.eval]
      exact hK _ _ (fSl_new W _ _ hS.1.lt.2 rfl (fun i hi => by rcases (show i = 0 ∨ i = 1 ∨ i = 2 by omega) with rfl | rfl | rfl <;> exact ⟨_, rfl, by decide⟩)) ⟨cur_alloc hS.1 _, grown_trans hS.2 (World.grownBy_alloc _ _ _)⟩ (World.grownBy_alloc _ _ _)
    · unfold Oper.wp
      simp [execOp, go_sem, Act.eval, p0]
      exact hK _ _ rfl hS (hg0 _)
    · have d0 : (b.tmps.getD 16 undef) = .pointer (some ⟨cb, 0, none⟩) := hd ⟨1, .data⟩ (by simp) rfl
      unfold Oper.wp
      simp [execOp, go_sem, Act.eval, d0]
      refine (l1Below_any B cb 3 _ hS.1 (by decide) (by decide)).mono ?_
      rintro e w' ⟨x, rfl, x0, x1, hc', hg'⟩
      exact hK _ _ ⟨x, rfl, x0, x1⟩ ⟨hc', grown_trans hS.2 hg'⟩ hg'
    · have d0 : fSl cb 3 (b.tmps.getD 15 undef) W := hd ⟨0, .data⟩ (by simp) rfl
      have d1 : fIx 3 (b.tmps.getD 17 undef) := hd ⟨2, .data⟩ (by simp) rfl
      obtain ⟨bb, e1, n1, n2, n3⟩ := d0
      obtain ⟨x, e2, x0, x1⟩ := d1
      obtain ⟨k, rfl⟩ := Int.eq_ofNat_of_zero_le x0
      obtain ⟨s, hs, hz'⟩ := n3 k (by omega)
      have hk : k < 3 := by omega
      unfold Oper.wp
      simp [execOp, go_sem, Act.eval, e1, e2, x1, hk]
      exact hK _ _ ⟨bb, k, s, rfl, n1, n2, hs, hz'⟩ hS (hg0 _)
    · have d0 : fAd cb (b.tmps.getD 18 undef) W := hd ⟨3, .data⟩ (by simp) rfl
      obtain ⟨bb, i, s, e1, n1, n2, n3, n4⟩ := d0
      unfold Oper.wp
      simp [execOp, go_sem, Act.eval, e1, n3]
      exact hK _ _ ⟨s, rfl, n4⟩ hS (hg0 _)
    · unfold Oper.wp
      simp [execOp, go_sem, Act.eval]
      exact hK _ _ (fSl_new W _ _ hS.1.lt.2 rfl (fun i hi => by rcases (show i = 0 ∨ i = 1 ∨ i = 2 ∨ i = 3 by omega) with rfl | rfl | rfl | rfl <;> exact ⟨_, rfl, by decide⟩)) ⟨cur_alloc hS.1 _, grown_trans hS.2 (World.grownBy_alloc _ _ _)⟩ (World.grownBy_alloc _ _ _)
    · unfold Oper.wp
      simp [execOp, go_sem, Act.eval, p0]
      exact hK _ _ rfl hS (hg0 _)
    · have d0 : (b.tmps.getD 21 undef) = .pointer (some ⟨cb, 0, none⟩) := hd ⟨6, .data⟩ (by simp) rfl
      unfold Oper.wp
      simp [execOp, go_sem, Act.eval, d0]
      refine (l1Below_any B cb 4 _ hS.1 (by decide) (by decide)).mono ?_
      rintro e w' ⟨x, rfl, x0, x1, hc', hg'⟩
      exact hK _ _ ⟨x, rfl, x0, x1⟩ ⟨hc', grown_trans hS.2 hg'⟩ hg'
    · have d0 : fSl cb 4 (b.tmps.getD 20 undef) W := hd ⟨5, .data⟩ (by simp) rfl
      have d1 : fIx 4 (b.tmps.getD 22 undef) := hd ⟨7, .data⟩ (by simp) rfl
      obtain ⟨bb, e1, n1, n2, n3⟩ := d0
      obtain ⟨x, e2, x0, x1⟩ := d1
      obtain ⟨k, rfl⟩ := Int.eq_ofNat_of_zero_le x0
      obtain ⟨s, hs, hz'⟩ := n3 k (by omega)
      have hk : k < 4 := by omega
      unfold Oper.wp
      simp [execOp, go_sem, Act.eval, e1, e2, x1, hk]
      exact hK _ _ ⟨bb, k, s, rfl, n1, n2, hs, hz'⟩ hS (hg0 _)
    · have d0 : fAd cb (b.tmps.getD 23 undef) W := hd ⟨8, .data⟩ (by simp) rfl
      obtain ⟨bb, i, s, e1, n1, n2, n3, n4⟩ := d0
      unfold Oper.wp
      simp [execOp, go_sem, Act.eval, e1, n3]
      exact hK _ _ ⟨s, rfl, n4⟩ hS (hg0 _)
    · have d0 : fSt 20 (b.tmps.getD 19 undef) := hd ⟨4, .data⟩ (by simp) rfl
      have d1 : fSt 20 (b.tmps.getD 24 undef) := hd ⟨9, .data⟩ (by simp) rfl
      obtain ⟨s, e1, z1⟩ := d0
      obtain ⟨t, e2, z2⟩ := d1
      have hn : ¬ 9223372036854775807 < s.size + t.size := by omega
      unfold Oper.wp
      simp [execOp, go_sem, Act.eval, e1, e2, hn]
      exact hK _ _ ⟨s ++ t, rfl, by rw [ByteArray.size_append]; omega⟩ hS (hg0 _)
    · unfold Oper.wp
      simp [execOp, go_sem, Act.eval]
      exact hK _ _ (fSl_new W _ _ hS.1.lt.2 rfl (fun i hi => by rcases (show i = 0 ∨ i = 1 by omega) with rfl | rfl <;> exact ⟨_, rfl, by decide⟩)) ⟨cur_alloc hS.1 _, grown_trans hS.2 (World.grownBy_alloc _ _ _)⟩ (World.grownBy_alloc _ _ _)
    · unfold Oper.wp
      simp [execOp, go_sem, Act.eval, p0]
      exact hK _ _ rfl hS (hg0 _)
    · have d0 : (b.tmps.getD 27 undef) = .pointer (some ⟨cb, 0, none⟩) := hd ⟨12, .data⟩ (by simp) rfl
      unfold Oper.wp
      simp [execOp, go_sem, Act.eval, d0]
      refine (l1Below_any B cb 2 _ hS.1 (by decide) (by decide)).mono ?_
      rintro e w' ⟨x, rfl, x0, x1, hc', hg'⟩
      exact hK _ _ ⟨x, rfl, x0, x1⟩ ⟨hc', grown_trans hS.2 hg'⟩ hg'
    · have d0 : fSl cb 2 (b.tmps.getD 26 undef) W := hd ⟨11, .data⟩ (by simp) rfl
      have d1 : fIx 2 (b.tmps.getD 28 undef) := hd ⟨13, .data⟩ (by simp) rfl
      obtain ⟨bb, e1, n1, n2, n3⟩ := d0
      obtain ⟨x, e2, x0, x1⟩ := d1
      obtain ⟨k, rfl⟩ := Int.eq_ofNat_of_zero_le x0
      obtain ⟨s, hs, hz'⟩ := n3 k (by omega)
      have hk : k < 2 := by omega
      unfold Oper.wp
      simp [execOp, go_sem, Act.eval, e1, e2, x1, hk]
      exact hK _ _ ⟨bb, k, s, rfl, n1, n2, hs, hz'⟩ hS (hg0 _)
    · have d0 : fAd cb (b.tmps.getD 29 undef) W := hd ⟨14, .data⟩ (by simp) rfl
      obtain ⟨bb, i, s, e1, n1, n2, n3, n4⟩ := d0
      unfold Oper.wp
      simp [execOp, go_sem, Act.eval, e1, n3]
      exact hK _ _ ⟨s, rfl, n4⟩ hS (hg0 _)
    · have d0 : fSt 40 (b.tmps.getD 25 undef) := hd ⟨10, .data⟩ (by simp) rfl
      have d1 : fSt 20 (b.tmps.getD 30 undef) := hd ⟨15, .data⟩ (by simp) rfl
      obtain ⟨s, e1, z1⟩ := d0
      obtain ⟨t, e2, z2⟩ := d1
      have hn : ¬ 9223372036854775807 < s.size + t.size := by omega
      unfold Oper.wp
      simp [execOp, go_sem, Act.eval, e1, e2, hn]
      exact hK _ _ ⟨s ++ t, rfl, by rw [ByteArray.size_append]; omega⟩ hS (hg0 _)
    · unfold Oper.wp
      simp [execOp, go_sem, Act.eval]
      exact hK _ _ (fSl_new W _ _ hS.1.lt.2 rfl (fun i hi => by rcases (show i = 0 ∨ i = 1 ∨ i = 2 ∨ i = 3 by omega) with rfl | rfl | rfl | rfl <;> exact ⟨_, rfl, by decide⟩)) ⟨cur_alloc hS.1 _, grown_trans hS.2 (World.grownBy_alloc _ _ _)⟩ (World.grownBy_alloc _ _ _)
    · unfold Oper.wp
      simp [execOp, go_sem, Act.eval, p0]
      exact hK _ _ rfl hS (hg0 _)
    · have d0 : (b.tmps.getD 33 undef) = .pointer (some ⟨cb, 0, none⟩) := hd ⟨18, .data⟩ (by simp) rfl
      unfold Oper.wp
      simp [execOp, go_sem, Act.eval, d0]
      refine (l1Below_any B cb 4 _ hS.1 (by decide) (by decide)).mono ?_
      rintro e w' ⟨x, rfl, x0, x1, hc', hg'⟩
      exact hK _ _ ⟨x, rfl, x0, x1⟩ ⟨hc', grown_trans hS.2 hg'⟩ hg'
    · have d0 : fSl cb 4 (b.tmps.getD 32 undef) W := hd ⟨17, .data⟩ (by simp) rfl
      have d1 : fIx 4 (b.tmps.getD 34 undef) := hd ⟨19, .data⟩ (by simp) rfl
      obtain ⟨bb, e1, n1, n2, n3⟩ := d0
      obtain ⟨x, e2, x0, x1⟩ := d1
      obtain ⟨k, rfl⟩ := Int.eq_ofNat_of_zero_le x0
      obtain ⟨s, hs, hz'⟩ := n3 k (by omega)
      have hk : k < 4 := by omega
      unfold Oper.wp
      simp [execOp, go_sem, Act.eval, e1, e2, x1, hk]
      exact hK _ _ ⟨bb, k, s, rfl, n1, n2, hs, hz'⟩ hS (hg0 _)
    · have d0 : fAd cb (b.tmps.getD 35 undef) W := hd ⟨20, .data⟩ (by simp) rfl
      obtain ⟨bb, i, s, e1, n1, n2, n3, n4⟩ := d0
      unfold Oper.wp
      simp [execOp, go_sem, Act.eval, e1, n3]
      exact hK _ _ ⟨s, rfl, n4⟩ hS (hg0 _)
    · have d0 : fSt 60 (b.tmps.getD 31 undef) := hd ⟨16, .data⟩ (by simp) rfl
      have d1 : fSt 20 (b.tmps.getD 36 undef) := hd ⟨21, .data⟩ (by simp) rfl
      obtain ⟨s, e1, z1⟩ := d0
      obtain ⟨t, e2, z2⟩ := d1
      have hn : ¬ 9223372036854775807 < s.size + t.size := by omega
      unfold Oper.wp
      simp [execOp, go_sem, Act.eval, e1, e2, hn]
      exact hK _ _ ⟨s ++ t, rfl, by rw [ByteArray.size_append]; omega⟩ hS (hg0 _)
    · unfold Oper.wp
      simp [execOp, go_sem, Act.eval]
      exact hK _ _ (fSl_new W _ _ hS.1.lt.2 rfl (fun i hi => by rcases (show i = 0 ∨ i = 1 ∨ i = 2 ∨ i = 3 ∨ i = 4 ∨ i = 5 ∨ i = 6 ∨ i = 7 by omega) with rfl | rfl | rfl | rfl | rfl | rfl | rfl | rfl <;> exact ⟨_, rfl, by decide⟩)) ⟨cur_alloc hS.1 _, grown_trans hS.2 (World.grownBy_alloc _ _ _)⟩ (World.grownBy_alloc _ _ _)
    · unfold Oper.wp
      simp [execOp, go_sem, Act.eval, p0]
      exact hK _ _ rfl hS (hg0 _)
    · have d0 : (b.tmps.getD 39 undef) = .pointer (some ⟨cb, 0, none⟩) := hd ⟨24, .data⟩ (by simp) rfl
      unfold Oper.wp
      simp [execOp, go_sem, Act.eval, d0]
      refine (l1Below_any B cb 8 _ hS.1 (by decide) (by decide)).mono ?_
      rintro e w' ⟨x, rfl, x0, x1, hc', hg'⟩
      exact hK _ _ ⟨x, rfl, x0, x1⟩ ⟨hc', grown_trans hS.2 hg'⟩ hg'
    · have d0 : fSl cb 8 (b.tmps.getD 38 undef) W := hd ⟨23, .data⟩ (by simp) rfl
      have d1 : fIx 8 (b.tmps.getD 40 undef) := hd ⟨25, .data⟩ (by simp) rfl
      obtain ⟨bb, e1, n1, n2, n3⟩ := d0
      obtain ⟨x, e2, x0, x1⟩ := d1
      obtain ⟨k, rfl⟩ := Int.eq_ofNat_of_zero_le x0
      obtain ⟨s, hs, hz'⟩ := n3 k (by omega)
      have hk : k < 8 := by omega
      unfold Oper.wp
      simp [execOp, go_sem, Act.eval, e1, e2, x1, hk]
      exact hK _ _ ⟨bb, k, s, rfl, n1, n2, hs, hz'⟩ hS (hg0 _)
    · have d0 : fAd cb (b.tmps.getD 41 undef) W := hd ⟨26, .data⟩ (by simp) rfl
      obtain ⟨bb, i, s, e1, n1, n2, n3, n4⟩ := d0
      unfold Oper.wp
      simp [execOp, go_sem, Act.eval, e1, n3]
      exact hK _ _ ⟨s, rfl, n4⟩ hS (hg0 _)
    · have d0 : fSt 80 (b.tmps.getD 37 undef) := hd ⟨22, .data⟩ (by simp) rfl
      have d1 : fSt 20 (b.tmps.getD 42 undef) := hd ⟨27, .data⟩ (by simp) rfl
      obtain ⟨s, e1, z1⟩ := d0
      obtain ⟨t, e2, z2⟩ := d1
      have hn : ¬ 9223372036854775807 < s.size + t.size := by omega
      unfold Oper.wp
      simp [execOp, go_sem, Act.eval, e1, e2, hn]
      exact hK _ _ ⟨s ++ t, rfl, by rw [ByteArray.size_append]; omega⟩ hS (hg0 _)
    · have d0 : fSt 100 (b.tmps.getD 43 undef) := hd ⟨28, .data⟩ (by simp) rfl
      obtain ⟨s, e1, z1⟩ := d0
      unfold Oper.wp
      simp [execOp, go_sem, Act.eval, e1]
      exact hK _ _ ⟨s, rfl, z1⟩ hS (hg0 _)
  · intro f W hS hl
    have := hl 29 3 rfl
    obtain ⟨s, h1, h2⟩ : fSt 100 (f 3) := this
    exact HQ f s W h1 h2 hS.1 hS.2
abbrev dt12 : Array Value := #[.string { data := #[105, 110, 102] }, .string { data := #[45, 73, 78, 70, 73, 78, 73, 84, 89] }, .string { data := #[110, 97, 110] }, .string { data := #[45, 115, 78, 97, 78] }, .string { data := #[43, 73, 110, 102] }, .string { data := #[78, 97, 110, 49] }, .string { data := #[105, 110, 102, 105, 110, 105, 116] }, .string { data := #[] }, .string { data := #[46] }, .string { data := #[49, 46, 46, 50] }, .string { data := #[49, 101] }, .string { data := #[49, 32] }]
theorem dt12_at (i : Int) (h0 : 0 ≤ i) (h1 : i < 12) : ∃ v : ByteArray, dt12[i.toNat]? = some (.string v) ∧ v.size ≤ 300 := by
  rcases (show i = 0 ∨ i = 1 ∨ i = 2 ∨ i = 3 ∨ i = 4 ∨ i = 5 ∨ i = 6 ∨ i = 7 ∨ i = 8 ∨ i = 9 ∨ i = 10 ∨ i = 11 by omega) with rfl | rfl | rfl | rfl | rfl | rfl | rfl | rfl | rfl | rfl | rfl | rfl
  all_goals exact ⟨_, rfl, by decide⟩
abbrev dt8 : Array Value := #[.int .u8 48, .int .u8 46, .int .u8 101, .int .u8 69, .int .u8 43, .int .u8 45, .int .u8 120, .int .u8 57]
theorem dt8_at (i : Int) (h0 : 0 ≤ i) (h1 : i < 8) : ∃ z : Int, dt8[i.toNat]? = some (.int .u8 z) := by
  rcases (show i = 0 ∨ i = 1 ∨ i = 2 ∨ i = 3 ∨ i = 4 ∨ i = 5 ∨ i = 6 ∨ i = 7 by omega) with rfl | rfl | rfl | rfl | rfl | rfl | rfl | rfl
  all_goals exact ⟨_, rfl⟩
/-- n bytes in a block of their own. -/
def By (W : World) (g n : Nat) : Prop := g < W.heap.size ∧ ∀ i, i < n → (∃ z : Int, W.cell? ⟨g, i, none⟩ = some (.int .u8 z)) ∧ W.frozen? ⟨g, i, none⟩ = false
theorem By.draw {W W' : World} {g n cb : Nat} (h : By W g n) (hg : W.grownBy W' (some cb)) (hn : g ≠ cb) : By W' g n := by
  obtain ⟨h1, h2⟩ := h
  have hb : W'.heap[g]? = W.heap[g]? := hg.block g h1 (fun e => hn (Option.some.inj e))
  refine ⟨Nat.lt_of_lt_of_le h1 hg.size, fun i hi => ?_⟩
  have c : W'.cell? ⟨g, i, none⟩ = W.cell? ⟨g, i, none⟩ := by unfold World.cell?; simp only [hb]
  have f : W'.frozen? ⟨g, i, none⟩ = W.frozen? ⟨g, i, none⟩ := by unfold World.frozen?; simp only [hb]
  rw [c, f]
  exact h2 i hi
theorem By.set {W : World} {g n : Nat} (h : By W g n) (k : Nat) (z : Int) : By (W.setCell ⟨g, k, none⟩ (.int .u8 z)) g n := by
  obtain ⟨h1, h2⟩ := h
  refine ⟨by simpa using h1, fun i hi => ⟨?_, by rw [World.frozen?_setCell]; exact (h2 i hi).2⟩⟩
  obtain ⟨⟨y, hy⟩, -⟩ := h2 i hi
  by_cases hk : k = i
  · subst hk
    exact ⟨z, World.cell?_setCell_same _ _ _ hy⟩
  · exact ⟨y, by rw [World.cell?_setCell_other _ _ _ _ (by simp [hk])]; exact hy⟩
theorem By.text {W : World} {g n : Nat} (h : By W g n) : ∃ s : ByteArray, s.size = n ∧ ∀ cap, (convert 22 9 (.slice (some ⟨g, 0, none⟩) n cap)).run Tryz.prog W = .ok (.string s) W := by
  have key : ∀ m, m ≤ n → ∃ xs : List Int, xs.length = m ∧ ∀ i, i < m → W.cell? ⟨g, i, none⟩ = some (.int .u8 (xs.getD i 0)) := by
    intro m
    induction m with
    | zero => intro _; exact ⟨[], rfl, fun i hi => by omega⟩
    | succ m ih =>
      intro hm
      obtain ⟨xs, h1, h2⟩ := ih (by omega)
      obtain ⟨⟨z, hz⟩, -⟩ := h.2 m (by omega)
      refine ⟨xs ++ [z], by rw [List.length_append, h1]; rfl, fun i hi => ?_⟩
      by_cases hk : i < m
      · rw [h2 i hk, List.getD_eq_getElem?_getD, List.getD_eq_getElem?_getD, List.getElem?_append_left (by omega)]
      · obtain rfl : i = m := by omega
        rw [hz, List.getD_eq_getElem?_getD, List.getElem?_append_right (by omega), h1, Nat.sub_self]; rfl
  obtain ⟨xs, h1, h2⟩ := key n (Nat.le_refl _)
  refine ⟨strOfNums xs, ?_, fun cap => run_convert_bytes_arg W 22 5 Tryz.underlying22 Tryz.underlying5 g 0 n cap xs h1 (fun i hi => by rw [Nat.zero_add]; exact h2 i hi) 9 Tryz.underlying9⟩
  rw [← h1]
  simp [strOfNums, ByteArray.size]
theorem by_new (W : World) (S : ByteArray) : ∃ (cap : Nat) (o : Obj), (convert 9 22 (.string S)).run Tryz.prog W = .ok (.slice (some ⟨W.heap.size, 0, none⟩) S.size cap) (W.drew.alloc o) ∧ By (W.drew.alloc o) W.heap.size S.size := by
  refine ⟨_, _, run_bytes_of_string W 9 22 5 S Tryz.underlying9 Tryz.underlying22 Tryz.underlying5, ?_⟩
  have h := (MapKept.heap_alloc W.drew (.cells (bytesRow S (grownCap W S.size 0 5)) 5 ((bytesRow S (grownCap W S.size 0 5)).size, (bytesRow S (grownCap W S.size 0 5)).size + 1))).1
  have hs : W.drew.heap.size = W.heap.size := rfl
  rw [hs] at h
  have hz : S.size ≤ (bytesRow S (grownCap W S.size 0 5)).size := by unfold bytesRow; rw [Array.size_append, Array.size_map]; exact Nat.le_add_right _ _
  refine ⟨by simp, fun i hi => ⟨⟨S[i].toNat, ?_⟩, ?_⟩⟩
  · unfold World.cell?
    simp only [h]
    show (bytesRow S _)[i]? = _
    unfold bytesRow
    rw [Array.getElem?_append_left (by rw [Array.size_map]; exact hi), Array.getElem?_map, Array.getElem?_eq_getElem hi]
    rfl
  · unfold World.frozen?
    simp only [h]
    simp
    omega
theorem shT_len (k : Int) (b : Bool) (e : Int) (s : ByteArray) : (shT k b e s).size ≤ 200 := by
  cases hO : numB 128 k b e s with
  | true => exact (text_back k b e s 1 hO (by decide)).2
  | false => rw [(shT_none k b e s).2 hO]; decide
theorem gr_bel {w w1 : World} (h : Below w.heap.size w w1) (r : Option Nat) : w.grownBy w1 r := ⟨h.os, h.tape, h.output, h.size, fun k hk _ => h.block k hk⟩
theorem cu_bel {B cb : Nat} {w w' : World} (h : Cur B w cb) (bel : Below w.heap.size w w') : Cur B w' cb := by
  obtain ⟨a, len, cap, i, h, hB, hcb, hlen, hi, hby, c0, c1, c2, f1, f2⟩ := h
  refine ⟨a, len, cap, i, h, hB, Nat.lt_of_lt_of_le hcb bel.size, hlen, hi, hby.grown (gr_bel bel (some cb)) hB, ?_, ?_, ?_, ?_, ?_⟩
  · exact (bel.cell (p := ⟨cb, 0, none⟩) hcb).trans c0
  · exact (bel.cell (p := ⟨cb, 1, none⟩) hcb).trans c1
  · exact (bel.cell (p := ⟨cb, 2, none⟩) hcb).trans c2
  · exact (bel.frozen (p := ⟨cb, 1, none⟩) hcb).trans f1
  · exact (bel.frozen (p := ⟨cb, 2, none⟩) hcb).trans f2
/-- The cursor, and what has grown. -/
def CG (B cb : Nat) (w W : World) : Prop := Cur B W cb ∧ w.grownBy W (some cb)
theorem CG.draw {B cb : Nat} {w W W' : World} (h : CG B cb w W) (hc : Cur B W' cb) (hg : W.grownBy W' (some cb)) : CG B cb w W' := ⟨hc, grown_trans h.2 hg⟩
theorem CG.next {B cb : Nat} {w W W' : World} (h : CG B cb w W) (hb : Below W.heap.size W W') : CG B cb w W' := ⟨cu_bel h.1 hb, grown_trans h.2 (gr_bel hb _)⟩
theorem CG.alloc {B cb : Nat} {w W : World} (h : CG B cb w W) (o : Obj) : CG B cb w (W.alloc o) := h.next ((Below.refl _ _).alloc (Nat.le_refl _) _)
theorem lit_atF {w w2 : World} {arr : Array Value} {T : TypeId} {fr : Nat × Nat} {cb : Nat} (hg : (w.alloc (.cells arr T fr)).grownBy w2 (some cb)) (hcb : cb < w.heap.size) (i : Nat) (v : Value) (hv : arr[i]? = some v) : w2.cell? ⟨w.heap.size, i, none⟩ = some v := by
  refine hg.cell ?_ (fun e => by have e' : w.heap.size = cb := Option.some.inj e; omega)
  have h := (MapKept.heap_alloc w (.cells arr T fr)).1
  unfold World.cell?
  simp only [h]
  exact hv
theorem CG.drew {B cb : Nat} {w W : World} (h : CG B cb w W) : CG B cb w W.drew := ⟨h.1, h.2.os, h.2.tape, h.2.output, h.2.size, h.2.block⟩
set_option maxRecDepth 100000 in
set_option maxHeartbeats 4000000 in
theorem l16DrawText_any (B cb : Nat) (w : World) (hc : Cur B w cb) :
    Calls Tryz.prog 33 #[.pointer (some ⟨cb, 0, none⟩)] w fun e w' => ∃ s : ByteArray, e = .returned (.string s) ∧ s.size ≤ 300 ∧ Cur B w' cb ∧ w.grownBy w' (some cb) := by
  have HC : Hid (CG B cb w w) := ⟨hc, World.grownBy.refl _ _⟩
  have hcl := hc.lt.2
  clear hc
  go_enter Tryz.func33, Tryz.ntmps33
  go_wp2_with fail
  refine (l1Below_any B cb 2 _ (HC.out.alloc _).1 (by decide) (by decide)).mono ?_
  rintro e w1 ⟨y, rfl, y0, y1, hc1, hg1⟩
  have HC1 : Hid (CG B cb w w1) := (HC.out.alloc _).draw hc1 hg1
  obtain ⟨F, hF⟩ : ∃ F : Int, (#[.int .i64 64, .int .i64 128] : Array Value)[y.toNat]? = some (.int .i64 F) := by
    rcases (show y = 0 ∨ y = 1 by omega) with rfl | rfl
    · exact ⟨_, rfl⟩
    · exact ⟨_, rfl⟩
  have hcell := lit_at (arr := #[.int .i64 64, .int .i64 128]) hg1 hcl y.toNat _ hF
  clear hc1 hg1 hF HC
  go_wp2_with fail
  refine (l10DrawNum_any B cb F _ HC1.out.1).mono ?_
  rintro e w2 ⟨ka, na, ea, sa, rfl, -, -, sz, hc2, hg2⟩
  have HC2 : Hid (CG B cb w w2) := HC1.out.draw hc2 hg2
  clear hc2 hg2 HC1 hcell
  go_wp2_with fail
  refine (sShowNum_any ka na ea sa _ (by omega)).mono ?_
  rintro e w3 ⟨rfl, hb3⟩
  have HC3 : Hid (CG B cb w w3) := HC2.out.next hb3
  have HS : Hid ((shT ka na ea sa).size ≤ 300) := Nat.le_trans (shT_len ka na ea sa) (by decide)
  clear hb3 HC2 sz
  generalize shT ka na ea sa = s0 at *
  go_wp2_with fail
  refine (l1Once_any B cb 3 _ HC3.out.1 (by decide) (by decide)).mono ?_
  rintro e w4 ⟨b4, rfl, hc4, hg4⟩
  have HC4 : Hid (CG B cb w w4) := HC3.out.draw hc4 hg4
  clear hc4 hg4 HC3
  go_upto_if 14 with fail
  go_cut [3] (fun s wx => ∃ S : ByteArray, s = .string S ∧ Hid (S.size ≤ 300) ∧ Hid (CG B cb w wx))
  case first =>
    cases b4
    · go_wp2
      go_meet
      case rel => exact ⟨_, rfl, HS, HC4⟩
    · go_upto_region 3 with fail
      refine drTx_region (by simp only [Tryz.f33, selC, Option.getD_some]) B cb _ _ _ rfl rfl HC4.out.1 ?_
      intro f s w5 h3 hs hc5 hg5
      have HC5 : Hid (CG B cb w w5) := HC4.out.draw hc5 hg5
      simp only [putL, Act.put, h3, List.setIfInBounds_toArray, List.set_cons_succ, List.set_cons_zero]
      simp only [Exit.then]
      go_wp2
      go_meet
      case rel => exact ⟨_, rfl, Nat.le_trans hs (by decide), HC5⟩
  case rest =>
    obtain ⟨S, rfl, HS5, HC5⟩ := hcut
    clear HC4 HS
    go_wp2_with fail
    refine (l1Once_any B cb 6 _ HC5.out.1 (by decide) (by decide)).mono ?_
    rintro e w6 ⟨b6, rfl, hc6, hg6⟩
    have HC6 : Hid (CG B cb w w6) := HC5.out.draw hc6 hg6
    clear hc6 hg6 HC5
    go_upto_if 45 with fail
    go_cut [3] (fun s wx => ∃ S : ByteArray, s = .string S ∧ Hid (S.size ≤ 300) ∧ Hid (CG B cb w wx))
    case first =>
      cases b6
      · go_wp2
        go_meet
        case rel => exact ⟨_, rfl, HS5, HC6⟩
      · have Hl : Hid (cb < w6.heap.size) := HC6.out.1.lt.2
        go_wp2_with fail
        refine (l1Below_any B cb 12 _ (HC6.out.alloc _).1 (by decide) (by decide)).mono ?_
        rintro e w7 ⟨y, rfl, y0, y1, hc7, hg7⟩
        have HC7 : Hid (CG B cb w w7) := (HC6.out.alloc _).draw hc7 hg7
        obtain ⟨v, hv, hvs⟩ := dt12_at y y0 y1
        have HV : Hid (v.size ≤ 300) := hvs
        have hcell := lit_at (arr := dt12) hg7 Hl.out y.toNat _ hv
        clear hc7 hg7 hv hvs HC6
        go_wp2
        go_meet
        case rel => exact ⟨_, rfl, HV, HC7⟩
    case rest =>
      obtain ⟨S, rfl, HS6, HC7⟩ := hcut
      clear HC6 HS5
      go_upto_region 6 with fail
      go_cut [57] (fun s wx => ∃ c : Bool, s = .bool c ∧ Hid (c = true → 0 < S.size) ∧ Hid (CG B cb w wx))
      case first =>
        go_wp2_with fail
        refine (l1Once_any B cb 8 _ HC7.out.1 (by decide) (by decide)).mono ?_
        rintro e w8 ⟨b8, rfl, hc8, hg8⟩
        have HC8 : Hid (CG B cb w w8) := HC7.out.draw hc8 hg8
        clear hc8 hg8 HC7
        cases b8
        · go_wp2
          go_meet
          case rel => exact ⟨_, rfl, (fun q => by cases q), HC8⟩
        · by_cases hz : 0 < S.size
          · have hz2 : decide ((0 : Int) < (S.size : Int)) = true := decide_eq_true (by omega)
            have HZ : Hid (0 < S.size) := hz
            go_wp2
            go_meet
            case rel => exact ⟨_, rfl, (fun _ => HZ.out), HC8⟩
          · have hz2 : decide ((0 : Int) < (S.size : Int)) = false := decide_eq_false (by omega)
            have hz3 : ¬ (0 : Int) < (S.size : Int) := by omega
            go_wp2
            go_meet
            case rel => exact ⟨_, rfl, (fun q => by cases q), HC8⟩
      case rest =>
        obtain ⟨c8, rfl, HP8, HC8⟩ := hcut
        clear HC7
        go_upto_if 57 with fail
        go_cut [3] (fun s wx => ∃ S : ByteArray, s = .string S ∧ Hid (S.size ≤ 300) ∧ Hid (CG B cb w wx))
        case first =>
          cases c8
          · go_wp2
            go_meet
            case rel => exact ⟨_, rfl, HS6, HC8⟩
          · obtain ⟨cap, o, hcv, hby⟩ := by_new wc S
            have hl := HC8.out.1.lt.2
            have hs0 : 0 < S.size := HP8.out rfl
            have HSz : Hid (S.size ≤ 300 ∧ 0 < S.size) := ⟨HS6.out, hs0⟩
            have HBy : Hid (By (wc.alloc o).drew wc.heap.size S.size ∧ CG B cb w (wc.alloc o).drew ∧ cb < wc.heap.size ∧ w.heap.size ≤ wc.heap.size) := ⟨hby, (HC8.out.alloc o).drew, hl, HC8.out.2.size⟩
            clear hby hl HC8 HP8 HS6 hs0
            go_upto_region 8 with fail
            generalize (wc.alloc o).drew = w9 at *
            generalize wc.heap.size = g at *
            clear hcv
            generalize S.size = n at *
            go_wp2_with fail
            refine (l1Below_any B cb (n : Int) _ HBy.out.2.1.1 (by have := HSz.out; omega) (by have := HSz.out; omega)).mono ?_
            rintro e w10 ⟨x, rfl, x0, x1, hc10, hg10⟩
            have HBa : Hid (By w10 g n ∧ CG B cb w w10 ∧ cb < g ∧ w.heap.size ≤ g) := ⟨HBy.out.1.draw hg10 (Nat.ne_of_gt HBy.out.2.2.1), HBy.out.2.1.draw hc10 hg10, HBy.out.2.2⟩
            have Hl : Hid (cb < w10.heap.size) := hc10.lt.2
            clear hc10 hg10 HBy
            obtain ⟨k, rfl⟩ := Int.eq_ofNat_of_zero_le x0
            have hk : k < n := by omega
            have hcs := fun (W : World) (C : Array Value) (n c : Nat) => Lib.run_convert_bytes_const (P := Tryz.prog) W 22 5 C n c Tryz.underlying22 Tryz.underlying5
            go_wp2_with fail
            refine (l1Below_any B cb 8 _ (HBa.out.2.1.alloc _).1 (by decide) (by decide)).mono ?_
            rintro e w11 ⟨y, rfl, y0, y1, hc11, hg11⟩
            obtain ⟨z, hz⟩ := dt8_at y y0 y1
            have hcell := lit_atF (arr := dt8) hg11 Hl.out y.toNat _ hz
            have HBb : Hid (By w11 g n ∧ CG B cb w w11 ∧ cb < g ∧ w.heap.size ≤ g) := ⟨(HBa.out.1.draw (World.grownBy_alloc _ _ _) (Nat.ne_of_gt HBa.out.2.2.1)).draw hg11 (Nat.ne_of_gt HBa.out.2.2.1), (HBa.out.2.1.alloc _).draw hc11 hg11, HBa.out.2.2⟩
            clear hc11 hg11 hz HBa
            obtain ⟨⟨u, hu⟩, hf⟩ := HBb.out.1.2 k hk
            have HBc : Hid (By (w11.setCell ⟨g, k, none⟩ (.int .u8 z)) g n ∧ CG B cb w (w11.setCell ⟨g, k, none⟩ (.int .u8 z))) := ⟨HBb.out.1.set k z, cur_far HBb.out.2.1.1 HBb.out.2.2.1 _ _, grown_far HBb.out.2.1.2 HBb.out.2.2.2 _ _⟩
            clear HBb
            go_upto_region 9 with fail
            generalize w11.setCell ⟨g, k, none⟩ (.int .u8 z) = w12 at *
            obtain ⟨T, hT, hcv⟩ := HBc.out.1.text
            have hcv := hcv cap
            have HT : Hid (T.size ≤ 300) := by rw [Hid, hT]; exact HSz.out.1
            clear hcell hu hf hT
            go_wp2
            go_meet
            case rel => exact ⟨_, rfl, HT, HBc.out.2⟩
        case rest =>
          obtain ⟨S, rfl, HS9, HC9⟩ := hcut
          clear HC8 HP8 HS6
          go_wp2_with fail
          refine (l1Once_any B cb 60 _ HC9.out.1 (by decide) (by decide)).mono ?_
          rintro e w10 ⟨b10, rfl, hc10, hg10⟩
          have HC10 : Hid (CG B cb w w10) := HC9.out.draw hc10 hg10
          clear hc10 hg10 HC9
          cases b10
          · go_wp2
            go_ret
            exact ⟨S, rfl, HS9.out, HC10.out.1, HC10.out.2⟩
          · go_wp2
            go_loopw [3] (fun s wr => ∃ S : ByteArray, s = .string S ∧ S.size ≤ 202 ∧ Hid (CG B cb w wr)) (fun s _ => 400 - strSz s)
            case atStart => exact ⟨_, rfl, by decide, HC10⟩
            case round =>
              clear HC10 HS9
              obtain ⟨S, rfl, hz, HC⟩ := hrel
              go_wp2_with fail
              refine (l1Below_any B cb 2 _ HC.out.1 (by decide) (by decide)).mono ?_
              rintro e w11 ⟨y, rfl, y0, y1, hc11, hg11⟩
              have HC11 : Hid (CG B cb w w11) := HC.out.draw hc11 hg11
              clear hc11 hg11 HC
              by_cases hlt : (S.size : Int) < 200 + y
              · have hz1 : (S.size : Int) ≤ 8388608 := by omega
                have hz2 : (S ++ { data := #[51] }).size = S.size + 1 := by rw [ByteArray.size_append]; rfl
                have HM : Hid ((S ++ { data := #[51] }).size ≤ 202 ∧ 400 - (S ++ { data := #[51] }).size < 400 - S.size) := ⟨by omega, by omega⟩
                clear hz2
                go_wp2
                go_roundw
                case rel => exact ⟨_, rfl, HM.out.1, HC11⟩
                case measure => exact HM.out.2
              · have HZ : Hid (S.size ≤ 300) := Nat.le_trans hz (by decide)
                go_wp2
                go_ret
                exact ⟨S, rfl, HZ.out, HC11.out.1, HC11.out.2⟩
end Go.Proofs.YtdkpiofeidcffaaGreatDoor
namespace Go.Proofs.YtdkpiofeidcffaaGreatDoor
open Go.RowKit
set_option linter.unusedVariables false
set_option maxRecDepth 100000
set_option linter.unusedSimpArgs false
/-- The answer's box. -/
def B1 (w W : World) : Prop := At4 W w.heap.size (.int .i64 0) (.bool false) (.int .i64 0) (.string { data := #[] }) ∧ Below w.heap.size w W ∧ w.heap.size + 1 ≤ W.heap.size
abbrev b1W (w : World) : World := w.alloc (.cells #[.int .i64 0, .bool false, .int .i64 0, .string { data := #[] }] 25)
theorem b1_new (w : World) : B1 w (b1W w) ∧ (b1W w).heap.size = w.heap.size + 1 := by
  have h1 := at4_new w (.int .i64 0) (.bool false) (.int .i64 0) (.string { data := #[] })
  have z1 : (b1W w).heap.size = w.heap.size + 1 := by simp
  have b1 : Below w.heap.size w (b1W w) := (Below.refl _ _).alloc (Nat.le_refl _) _
  exact ⟨⟨h1, b1, by omega⟩, z1⟩
theorem B1.next {w W W' : World} (h : B1 w W) (hb : Below W.heap.size W W') : B1 w W' := ⟨h.1.below hb (by have := h.2.2; omega), h.2.1.trans (hb.mono h.2.1.size), Nat.le_trans h.2.2 hb.size⟩
theorem B1.draw {w W W' : World} {cb : Nat} (h : B1 w W) (hg : W.grownBy W' (some cb)) (hc : w.heap.size + 1 ≤ cb) : B1 w W' :=
  ⟨h.1.grown hg (by omega) (by have := h.2.2; omega), Below.grown h.2.1 hg h.2.1.size (fun q hq => by cases hq; omega), Nat.le_trans h.2.2 hg.size⟩
theorem B1.fin {w W : World} (h : B1 w W) (x y z u : Value) : At4 ((((W.setCell ⟨w.heap.size, 0, none⟩ x).setCell ⟨w.heap.size, 1, none⟩ y).setCell ⟨w.heap.size, 2, none⟩ z).setCell ⟨w.heap.size, 3, none⟩ u) w.heap.size x y z u ∧ Below w.heap.size w ((((W.setCell ⟨w.heap.size, 0, none⟩ x).setCell ⟨w.heap.size, 1, none⟩ y).setCell ⟨w.heap.size, 2, none⟩ z).setCell ⟨w.heap.size, 3, none⟩ u) :=
  ⟨h.1.put x y z u, (((h.2.1.setCell (Nat.le_refl _) _).setCell (Nat.le_refl _) _).setCell (Nat.le_refl _) _).setCell (Nat.le_refl _) _⟩
theorem B1.alloc {w W : World} (h : B1 w W) (o : Obj) : B1 w (W.alloc o) := h.next ((Below.refl _ _).alloc (Nat.le_refl _) _)
set_option maxRecDepth 100000 in
set_option maxHeartbeats 4000000 in
theorem DrawShowNum_any (a : Option Addr) (len cap : Nat) (w : World) (hl : len ≤ 4096) (hb : Bytes w.heap.size w a len) :
    Calls Tryz.prog 6 #[.slice a len cap] w fun r w' => ∃ (ka : Int) (na : Bool) (ea : Int) (sa : ByteArray), r = .returned (numV ka na ea sa) ∧ sa.size ≤ 340 ∧ Below w.heap.size w w' := by
  obtain ⟨hA, hsz⟩ := b1_new w
  have hB : Hid (Bytes (b1W w).heap.size (b1W w) a len) := bytes_bel hb hA.2.1
  have HA : Hid (B1 w (b1W w)) := hA
  have HSz : Hid ((b1W w).heap.size = w.heap.size + 1) := hsz
  clear hb hA hsz
  go_enter Tryz.func6, Tryz.ntmps6
  go_wp2_with fail
  refine (l1New_any a len cap _ hl hB.out).mono ?_
  rintro e w0 ⟨he, hc0, hb0⟩
  rw [HSz.out] at he hc0
  subst he
  have HA0 : Hid (B1 w w0) := HA.out.next hb0
  have Hl : Hid (w.heap.size + 1 < w0.heap.size) := hc0.lt.2
  clear hb0 HA hB HSz
  go_wp2_with fail
  refine (l1Below_any _ _ 2 _ (cur_alloc hc0 _) (by decide) (by decide)).mono ?_
  rintro e w1 ⟨y, rfl, y0, y1, hc1, hg1⟩
  obtain ⟨F, hF⟩ : ∃ F : Int, (#[.int .i64 64, .int .i64 128] : Array Value)[y.toNat]? = some (.int .i64 F) := by
    rcases (show y = 0 ∨ y = 1 by omega) with rfl | rfl
    · exact ⟨_, rfl⟩
    · exact ⟨_, rfl⟩
  have hcell := lit_at (arr := #[.int .i64 64, .int .i64 128]) hg1 Hl.out y.toNat _ hF
  have HA1 : Hid (B1 w w1) := (HA0.out.alloc _).draw hg1 (Nat.le_refl _)
  clear hg1 hc0 HA0 hF
  go_wp2_with fail
  refine (l10DrawNum_any _ _ F _ hc1).mono ?_
  rintro e w3 ⟨ka, na, ea, sa, rfl, -, -, sz, hc3, hg3⟩
  have HSz : Hid (sa.size ≤ 340) := sz
  have HA3 : Hid (B1 w w3) := HA1.out.draw hg3 (Nat.le_refl _)
  clear hg3 hc1 hc3 HA1 sz hcell
  obtain ⟨d0, d1, d2, d3, d4⟩ := HA3.out.1
  have d40 := d4 0
  have d41 := d4 1
  have d42 := d4 2
  have d43 := d4 3
  have hP := HA3.out.fin (.int .i64 ka) (.bool na) (.int .i64 ea) (.string sa)
  have HP : Hid (Below w.heap.size w ((((w3.setCell ⟨w.heap.size, 0, none⟩ (.int .i64 ka)).setCell ⟨w.heap.size, 1, none⟩ (.bool na)).setCell ⟨w.heap.size, 2, none⟩ (.int .i64 ea)).setCell ⟨w.heap.size, 3, none⟩ (.string sa))) := hP.2
  obtain ⟨hP1, hP2, hP3, hP4, -⟩ := hP.1
  have HP1 : Hid (((((w3.setCell ⟨w.heap.size, 0, none⟩ (.int .i64 ka)).setCell ⟨w.heap.size, 1, none⟩ (.bool na)).setCell ⟨w.heap.size, 2, none⟩ (.int .i64 ea)).setCell ⟨w.heap.size, 3, none⟩ (.string sa)).cell? ⟨w.heap.size, 0, none⟩ = some (.int .i64 ka) ∧ ((((w3.setCell ⟨w.heap.size, 0, none⟩ (.int .i64 ka)).setCell ⟨w.heap.size, 1, none⟩ (.bool na)).setCell ⟨w.heap.size, 2, none⟩ (.int .i64 ea)).setCell ⟨w.heap.size, 3, none⟩ (.string sa)).cell? ⟨w.heap.size, 1, none⟩ = some (.bool na) ∧ ((((w3.setCell ⟨w.heap.size, 0, none⟩ (.int .i64 ka)).setCell ⟨w.heap.size, 1, none⟩ (.bool na)).setCell ⟨w.heap.size, 2, none⟩ (.int .i64 ea)).setCell ⟨w.heap.size, 3, none⟩ (.string sa)).cell? ⟨w.heap.size, 2, none⟩ = some (.int .i64 ea) ∧ ((((w3.setCell ⟨w.heap.size, 0, none⟩ (.int .i64 ka)).setCell ⟨w.heap.size, 1, none⟩ (.bool na)).setCell ⟨w.heap.size, 2, none⟩ (.int .i64 ea)).setCell ⟨w.heap.size, 3, none⟩ (.string sa)).cell? ⟨w.heap.size, 3, none⟩ = some (.string sa)) := ⟨hP1, hP2, hP3, hP4⟩
  clear hP hP1 hP2 hP3 hP4 HA3 d4
  go_wp2
  refine bodyPost_ret (results_num rfl _ _ rfl HP1.out.1 HP1.out.2.1 HP1.out.2.2.1 HP1.out.2.2.2) rfl ?_
  exact ⟨ka, na, ea, sa, rfl, HSz.out, HP.out⟩
set_option maxRecDepth 100000 in
set_option maxHeartbeats 4000000 in
theorem DrawReadNum_any (a : Option Addr) (len cap : Nat) (w : World) (hl : len ≤ 4096) (hb : Bytes w.heap.size w a len) :
    Calls Tryz.prog 12 #[.slice a len cap] w fun r w' => ∃ (f m : Int) (t : ByteArray), r = .returned (.tuple #[.int .i64 f, .int .i64 m, .string t]) ∧ t.size ≤ 300 ∧ Below w.heap.size w w' := by
  have hB : Hid (Bytes w.heap.size w a len) := hb
  clear hb
  go_enter Tryz.func12, Tryz.ntmps12
  go_wp2_with fail
  refine (l1New_any a len cap _ hl hB.out).mono ?_
  rintro e w0 ⟨rfl, hc0, hb0⟩
  have HB0 : Hid (Below w.heap.size w w0) := hb0
  clear hb0 hB
  go_wp2_with fail
  refine (l10DrawFormat_any _ _ _ hc0).mono ?_
  rintro e w1 ⟨f, rfl, hc1, hg1⟩
  have HB1 : Hid (Below w.heap.size w w1) := Below.grown HB0.out hg1 HB0.out.size (fun q hq => by cases hq; exact Nat.le_refl _)
  clear hg1 hc0 HB0
  go_wp2_with fail
  refine (l12DrawMode_any _ _ _ hc1).mono ?_
  rintro e w2 ⟨m, rfl, hc2, hg2⟩
  have HB2 : Hid (Below w.heap.size w w2) := Below.grown HB1.out hg2 HB1.out.size (fun q hq => by cases hq; exact Nat.le_refl _)
  clear hg2 hc1 HB1
  go_wp2_with fail
  refine (l16DrawText_any _ _ _ hc2).mono ?_
  rintro e w3 ⟨t, rfl, ht, hc3, hg3⟩
  have HB3 : Hid (t.size ≤ 300 ∧ Below w.heap.size w w3) := ⟨ht, Below.grown HB2.out hg3 HB2.out.size (fun q hq => by cases hq; exact Nat.le_refl _)⟩
  clear hg3 hc2 hc3 HB2 ht
  go_wp2
  refine bodyPost_ret (results_tmp3 rfl _ _ _) rfl ?_
  exact ⟨f, m, t, rfl, HB3.out.1, HB3.out.2⟩
end Go.Proofs.YtdkpiofeidcffaaGreatDoor
namespace Go.Proofs.YtdkpiofeidcffaaGreatDoor
open Go.RowKit
set_option linter.unusedVariables false
set_option maxRecDepth 100000
theorem pick_any (a : Option Addr) (len cap B : Nat) (n : Int) (w : World) (hl : len ≤ 5000) (hb : Bytes B w a len) (hn : 1 ≤ n ∧ n ≤ 10000000) :
    Calls Tryz.prog 11 #[.slice a len cap, .int .i64 n] w fun e w' => ∃ r : Int, e = .returned (.int .i64 r) ∧ (0 ≤ r ∧ r < n) ∧ w' = w := by
  have hB : Hid (Bytes B w a len) := hb
  clear hb
  go_enter Tryz.func11, Tryz.ntmps11
  go_wp2
  go_loop [5, 6] (fun k i => ∃ (x : Int) (j : Nat), j ≤ len ∧ i = .int .i64 j ∧ k = .int .i64 x ∧ 0 ≤ x ∧ x < 1000003) (fun _ i => len - (intOf i).toNat)
  case atStart => exact ⟨(len : Int), 0, Nat.zero_le _, rfl, rfl, by omega, by omega⟩
  case round =>
    obtain ⟨x, j, hj, rfl, rfl, hx0, hx1⟩ := hrel
    by_cases hlt : j < len
    · rcases hB.out with h0 | ⟨b, off, rfl, hbB, hc⟩
      · omega
      · obtain ⟨z, hz, z0, z1⟩ := hc j hlt
        have hlt' : (j : Int) < (len : Int) := by omega
        have hm : Int.tmod (x * 47 + z) 1000003 = (x * 47 + z) % 1000003 := Int.tmod_eq_emod_of_nonneg (by omega)
        clear hc hB
        go_wp2
        go_round
        case rel => exact ⟨(x * 47 + z) % 1000003, j + 1, by omega, by go_num, Ln.val_int (by omega), by omega, by omega⟩
        case measure => simp [intOf]; omega
    · have hj2 : j = len := by omega
      subst hj2
      have hm : Int.tmod x n = x % n := Int.tmod_eq_emod_of_nonneg hx0
      have hr0 := Int.emod_nonneg x (show n ≠ 0 by omega)
      have hr1 := Int.emod_lt_of_pos x (show 0 < n by omega)
      have hn0 : ¬ n = 0 := by omega
      go_wp2
      go_ret
      exact ⟨_, rfl, ⟨by omega, by omega⟩, rfl⟩
end Go.Proofs.YtdkpiofeidcffaaGreatDoor
