/-
  What the draw of many words in fours gives, walked.
-/
import Derived.Test.YtlbkhiphnllfpabDoorDrawS
import Derived.Test.YtlbkhiphnllfpabDoorSlU
namespace Go.Proofs.YtlbkhiphnllfpabDoor
open Go.RowKit
set_option linter.unusedVariables false
set_option maxRecDepth 100000
theorem own_grown {w w' : World} {base cb : Nat} {e : TypeId} {s : Nat} {v : Value} {n : Nat} {xs : List Value} (h : w.ownsRow base e s v n xs) (hg : w.grownBy w' (some cb)) (hB : cb < base) : w'.ownsRow base e s v n xs := by
  obtain ⟨hl, h⟩ := h
  refine ⟨hl, ?_⟩
  rcases h with h | ⟨g, cap, cur, e, hgb, hc, r⟩
  · exact .inl h
  · have hlt := (Array.getElem?_eq_some_iff.1 hc).1
    exact .inr ⟨g, cap, cur, e, hgb, by rw [hg.block g hlt (fun e => by have e' : g = cb := (Option.some.inj e).symm ▸ rfl; omega)]; exact hc, r⟩
theorem HasU.mono {w : World} {base base' : Nat} {v : Value} {zs : List Int} (h : HasU w base v zs) (hb : base' ≤ base) : HasU w base' v zs := by
  obtain ⟨hl, h⟩ := h
  refine ⟨hl, ?_⟩
  rcases h with h | ⟨g, cap, cur, e, hgb, r⟩
  · exact .inl h
  · exact .inr ⟨g, cap, cur, e, Nat.le_trans hb hgb, r⟩
theorem cur_upto {B cb : Nat} {w w' : World} (h : Cur B w cb) (bel : Below (cb + 1) w w') : Cur B w' cb := by
  obtain ⟨a, len, cap, i, h, hB, hcb, hlen, hi, hby, c0, c1, c2, f1, f2⟩ := h
  refine ⟨a, len, cap, i, h, hB, Nat.lt_of_lt_of_le hcb bel.size, hlen, hi, ?_, ?_, ?_, ?_, ?_, ?_⟩
  · rcases hby with h0 | ⟨b, off, rfl, hb, hz⟩
    · exact .inl h0
    · refine .inr ⟨b, off, rfl, hb, fun j hj => ?_⟩
      obtain ⟨z, hc, r⟩ := hz j hj
      exact ⟨z, (bel.cell (p := ⟨b, off + j, none⟩) (show b < cb + 1 by omega)).trans hc, r⟩
  · exact (bel.cell (p := ⟨cb, 0, none⟩) (Nat.lt_succ_self _)).trans c0
  · exact (bel.cell (p := ⟨cb, 1, none⟩) (Nat.lt_succ_self _)).trans c1
  · exact (bel.cell (p := ⟨cb, 2, none⟩) (Nat.lt_succ_self _)).trans c2
  · exact (bel.frozen (p := ⟨cb, 1, none⟩) (Nat.lt_succ_self _)).trans f1
  · exact (bel.frozen (p := ⟨cb, 2, none⟩) (Nat.lt_succ_self _)).trans f2
/-- A slice value's number of elements. -/
def lenV : Value → Nat
  | .slice _ n _ => n
  | _ => 0
/-- Words. -/
def U64s (zs : List Int) : Prop := ∀ z ∈ zs, 0 ≤ z ∧ z ≤ 18446744073709551615
theorem U64s.snoc {zs : List Int} (h : U64s zs) {z : Int} (hz : 0 ≤ z ∧ z ≤ 18446744073709551615) : U64s (zs ++ [z]) := fun y hy => by
  rcases List.mem_append.1 hy with hy | hy
  · exact h y hy
  · rw [List.mem_singleton] at hy; rw [hy]; exact hz
/-- What is told of the row of words while it grows. -/
def Grows (w0 w : World) (base : Nat) (v : Value) (zs : List Int) : Prop := HasU w base v zs ∧ U64s zs ∧ Cur w0.heap.size w w0.heap.size ∧ Below w0.heap.size w0 w ∧ base ≤ w.heap.size
set_option maxHeartbeats 1600000 in
theorem DrawSaveAll_any (a : Option Addr) (len cap : Nat) (w : World) (hl : len ≤ 4096) (hb : Bytes w.heap.size w a len) :
    Calls Tryd.prog 8 #[.slice a len cap] w fun e w' => ∃ v zs, e = .returned v ∧ HasU w' w.heap.size v zs ∧ U64s zs ∧ zs.length ≤ 65 ∧ Below w.heap.size w w' := by
  obtain ⟨i0, hi, hz0, hz1, hz2⟩ := info_parts infoU64
  have hB : Hid (Bytes w.heap.size w a len) := hb
  clear hb
  go_enter Tryd.func8, Tryd.ntmps8
  go_wp2_with fail
  refine (l1New_any a len cap _ hl hB.out).mono ?_
  rintro e w1 ⟨rfl, hc1, hb1⟩
  have hs1 := hb1.size
  have hcl := hc1.lt
  obtain ⟨base, hbase⟩ : ∃ b, b = w1.heap.size := ⟨_, rfl⟩
  have hG : Grows w (w1.alloc (.cells #[] 26)) base (.slice (some ⟨w1.heap.size, 0, none⟩) 0 0) [] := by
    rw [hbase]
    exact ⟨World.ownsRow_made w1 #[] 0 (Nat.le_refl _) (Nat.zero_le _) rfl, fun z hz => (by simp at hz), cur_alloc hc1 _, hb1.alloc hs1 _, by simp⟩
  have hcb : w.heap.size < base := by omega
  have hgw : w1.grownBy (w1.alloc (.cells #[] 26)) (some w.heap.size) := World.grownBy_alloc _ _ _
  clear hbase
  go_wp2_with fail
  refine (l1Below_any w.heap.size w.heap.size 12 _ hG.2.2.1 (by decide) (by decide)).mono ?_
  rintro e w2 ⟨n0, rfl, n00, n01, hc2, hg2⟩
  obtain ⟨n, rfl⟩ := Int.eq_ofNat_of_zero_le n00
  have hG2 : Hid (Grows w w2 base (.slice (some ⟨w1.heap.size, 0, none⟩) 0 0) []) := ⟨own_grown hG.1 hg2 hcb, hG.2.1, hc2, Below.grown hG.2.2.2.1 hg2 hG.2.2.2.1.size (fun k hk => by cases hk; exact Nat.le_refl _), Nat.le_trans hG.2.2.2.2 hg2.size⟩
  clear hG hg2 hc2 hgw hc1 hb1
  go_wp2
  go_loopw [4, 5] (fun v m wr => ∃ (k : Nat) (zs : List Int), m = .int .i64 k ∧ k + zs.length ≤ 11 ∧ Hid (Grows w wr base v zs)) (fun _ m _ => (intOf m).toNat)
  case atStart => exact ⟨n, [], rfl, by simp; omega, hG2⟩
  case round =>
    obtain ⟨k, zs, rfl, hk, hG⟩ := hrel
    obtain ⟨hoq, hUq, hcq, hbq, hsq⟩ := hG.out
    clear hG
    by_cases hlt : 0 < k
    · have hlt' : (0 : Int) < (k : Int) := by omega
      go_wp2_with fail
      refine (l2DrawFour_any w.heap.size w.heap.size _ hcq).mono ?_
      rintro e w3 ⟨x, rfl, hx, hc3, hg3⟩
      have hown3 := own_grown hoq hg3 hcb
      have hb3 : Below w.heap.size w w3 := Below.grown hbq hg3 hbq.size (fun k hk => by cases hk; exact Nat.le_refl _)
      have hs3 := hb3.size
      have hsz3 : base ≤ w3.heap.size := Nat.le_trans hsq hg3.size
      clear hg3 hcq hbq hoq
      go_wp2_with (first | (at_builtin; refine wpList_append_own _ rfl _ _ 24 rfl base 26 i0 (.int .u64 0) 1 8 Tryd.underlying24 hi hz0 hz1 hz2 rfl (by decide) _ _ _ rfl (hown3.alloc _) ⟨w3.heap.size, 0, none⟩ 1 1 [.int .u64 x] rfl rfl ?c1 ?c2 ?c3 ?c4 ?c5 ?_) | go_in)
      case c1 =>
        intro i u hu
        match i, hu with
        | 0, hu => simp at hu; subst hu; simp [Addr.add]
      case c2 => intro u hu; simp at hu; subst hu; rfl
      case c3 => unfold maxLen; omega
      case c4 => omega
      case c5 => simp; omega
      · intro v' w4 hown4 hgrow _
        have hG4 : Hid (Grows w w4 base v' (zs ++ [x])) := by
          refine ⟨?_, hUq.snoc hx, cur_upto (cur_alloc hc3 _) (Below.grown (Below.refl _ _) hgrow (by simp; omega) (fun k hk => by have := (hown3.lt k hk).1; omega)), Below.grown (hb3.alloc (by omega) _) hgrow (by simp; omega) (fun k hk => by have := (hown3.lt k hk).1; omega), ?_⟩
          · unfold HasU; simpa using hown4
          · have := hgrow.size; simp at this; omega
        clear hown4 hgrow hown3 hc3 hb3
        go_wp2
        go_roundw
        case rel => exact ⟨k - 1, zs ++ [x], Ln.val_int (by omega), by simp; omega, hG4⟩
        case measure => simp [intOf]; omega
    · obtain rfl : k = 0 := by omega
      go_wp2_with fail
      refine (l1Once_any w.heap.size w.heap.size 24 _ hcq (by decide) (by decide)).mono ?_
      rintro e w3 ⟨b, rfl, hc3, hg3⟩
      have hown3 := own_grown hoq hg3 hcb
      have hb3 : Below w.heap.size w w3 := Below.grown hbq hg3 hbq.size (fun k hk => by cases hk; exact Nat.le_refl _)
      have hG3 : Hid (Grows w w3 base _ zs) := ⟨hown3, hUq, hc3, hb3, Nat.le_trans hsq hg3.size⟩
      clear hown3 hb3 hg3 hcq hbq hoq hc3 hUq
      cases b
      · go_wp2
        go_ret
        exact ⟨_, zs, rfl, hG3.out.1.mono (by omega), hG3.out.2.1, by omega, hG3.out.2.2.2.1⟩
      · go_wp2
        go_loopw [4] (fun v wr => ∃ (zs : List Int), zs.length ≤ 65 ∧ lenV v = zs.length ∧ Hid (Grows w wr base v zs)) (fun v _ => 65 - lenV v)
        case atStart =>
          obtain ⟨a, c, ev, -⟩ := hG3.out.1.len
          exact ⟨zs, by omega, by rw [ev]; rfl, hG3⟩
        case round =>
          obtain ⟨zs, hk, hlv, hG⟩ := hrel
          obtain ⟨hoq, hUq, hcq, hbq, hsq⟩ := hG.out
          obtain ⟨va, vc, ev, -⟩ := HasU.len hoq
          clear hG hG3
          subst ev
          generalize hzl : zs.length = L at *
          go_wp2_with fail
          refine (l1Below_any w.heap.size w.heap.size 2 _ hcq (by decide) (by decide)).mono ?_
          rintro e w5 ⟨y, rfl, y0, y1, hc5, hg5⟩
          have hoq' := own_grown hoq hg5 hcb
          have hbq' : Below w.heap.size w w5 := Below.grown hbq hg5 hbq.size (fun k hk => by cases hk; exact Nat.le_refl _)
          have hsq' : base ≤ w5.heap.size := Nat.le_trans hsq hg5.size
          clear hoq hbq hsq hcq hg5
          have hoq := hoq'
          have hbq := hbq'
          have hsq := hsq'
          have hcq := hc5
          clear hoq' hbq' hsq' hc5
          by_cases hlt : (L : Int) < 64 + y
          · go_wp2_with fail
            refine (l2DrawFour_any w.heap.size w.heap.size _ hcq).mono ?_
            rintro e w3 ⟨x, rfl, hx, hc3, hg3⟩
            have hown3 := own_grown hoq hg3 hcb
            have hb3 : Below w.heap.size w w3 := Below.grown hbq hg3 hbq.size (fun k hk => by cases hk; exact Nat.le_refl _)
            have hs3 := hb3.size
            have hsz3 : base ≤ w3.heap.size := Nat.le_trans hsq hg3.size
            clear hg3 hcq hbq hoq
            go_wp2_with (first | (at_builtin; refine wpList_append_own _ rfl _ _ 24 rfl base 26 i0 (.int .u64 0) 1 8 Tryd.underlying24 hi hz0 hz1 hz2 rfl (by decide) _ _ _ rfl (hown3.alloc _) ⟨w3.heap.size, 0, none⟩ 1 1 [.int .u64 x] rfl rfl ?c1 ?c2 ?c3 ?c4 ?c5 ?_) | go_in)
            case c1 =>
              intro i u hu
              match i, hu with
              | 0, hu => simp at hu; subst hu; simp [Addr.add]
            case c2 => intro u hu; simp at hu; subst hu; rfl
            case c3 => unfold maxLen; omega
            case c4 => omega
            case c5 => simp; omega
            · intro v' w4 hown4 hgrow _
              have hG4 : Hid (Grows w w4 base v' (zs ++ [x])) := by
                refine ⟨?_, hUq.snoc hx, cur_upto (cur_alloc hc3 _) (Below.grown (Below.refl _ _) hgrow (by simp; omega) (fun k hk => by have := (hown3.lt k hk).1; omega)), Below.grown (hb3.alloc (by omega) _) hgrow (by simp; omega) (fun k hk => by have := (hown3.lt k hk).1; omega), ?_⟩
                · unfold HasU; simpa [hzl] using hown4
                · have := hgrow.size; simp at this; omega
              clear hown4 hgrow hown3 hc3 hb3
              go_wp2
              go_roundw
              case rel => exact ⟨zs ++ [x], by simp; omega, by (obtain ⟨a, c, ev, -⟩ := hG4.out.1.len; rw [ev]; rfl), hG4⟩
              case measure =>
                obtain ⟨a, c, ev, -⟩ := hG4.out.1.len
                rw [ev]
                simp [lenV]; omega
          · have hd : decide ((L : Int) < 64 + y) = false := by simp; omega
            go_wp2
            go_ret
            exact ⟨_, zs, rfl, HasU.mono (base := base) hoq (by omega), hUq, by omega, hbq⟩
end Go.Proofs.YtlbkhiphnllfpabDoor
