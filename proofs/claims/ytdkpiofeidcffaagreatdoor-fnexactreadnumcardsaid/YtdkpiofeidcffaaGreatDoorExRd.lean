/-
  FnExactReadNum: the law's own walk.
-/
import Derived.Test.YtdkpiofeidcffaaGreatDoorRns
import Derived.Test.YtdkpiofeidcffaaGreatDoorRni
import Derived.Test.YtdkpiofeidcffaaGreatDoorNumE
namespace Go.Proofs.YtdkpiofeidcffaaGreatDoor
open Go.RowKit
set_option linter.unusedVariables false
set_option maxRecDepth 100000
theorem rdP_form (f m : Int) (neg : Bool) (x : Prt) : ∃ K N E S F t, rdP f m neg x = .tuple #[rsV K N E S F, .bool t] := by
  rcases x with _ | ⟨D, n, ng, P⟩
  · exact ⟨_, _, _, _, _, _, rfl⟩
  · exact ⟨_, _, _, _, _, _, rfl⟩
theorem rdR_form (f m : Int) (l : List UInt8) : ∃ K N E S F t, rdR f m l = .tuple #[rsV K N E S F, .bool t] := by
  unfold rdR
  split
  · unfold rdSt
    split
    · exact ⟨_, _, _, _, _, _, rfl⟩
    · exact rdP_form _ _ _ _
  · exact rdP_form _ _ _ _
theorem iReadNum_any (f m : Int) (s : ByteArray) (w : World) (hs : s.size ≤ 4611686018427387904) (hT : Lib.Utf8Tabs 0 1 w) :
    Calls Tryz.prog 10 #[.int .i64 f, .int .i64 m, .string s] w fun e w' => e = .returned (rdR f m s.data.toList) ∧ Below w.heap.size w w' := by
  have hl : s.data.toList.length = s.size := Array.length_toList
  unfold rdR
  rw [hl]
  split
  · rename_i h
    exact iReadNum_yes f m s w h.1 h.2.1 h.2.2 hT
  · rename_i h
    exact iReadNum_no f m s w hs h
theorem sReadNum_any (f m : Int) (s : ByteArray) (w : World) (hs : s.size ≤ 4611686018427387904) :
    Calls Tryz.prog 13 #[.int .i64 f, .int .i64 m, .string s] w fun e w' => e = .returned (rdR f m s.data.toList) ∧ Below w.heap.size w w' := by
  have hl : s.data.toList.length = s.size := Array.length_toList
  unfold rdR
  rw [hl]
  split
  · rename_i h
    exact sReadNum_yes f m s w h.1 h.2.1 h.2.2
  · rename_i h
    exact sReadNum_no f m s w hs h
set_option maxRecDepth 100000 in
set_option maxHeartbeats 2000000 in
theorem exReadNum_any (f m : Int) (s : ByteArray) (w : World) (hs : s.size ≤ 9223372036854775807) (hT : Lib.Utf8Tabs 0 1 w) :
    Calls Tryz.prog 4 #[.int .i64 f, .int .i64 m, .string s] w fun r w' => r = .returned (.bool true) ∧ Below w.heap.size w w' := by
  by_cases h1 : 1048576 < (s.size : Int)
  · clear hT
    go_enter Tryz.func4, Tryz.ntmps4
    go_wp2
    go_ret
    exact ⟨rfl, Below.refl _ _⟩
  · have HT : Hid (Lib.Utf8Tabs 0 1 w) := hT
    have HS : Hid (∀ X, Calls Tryz.prog 13 #[.int .i64 f, .int .i64 m, .string s] X fun e w' => e = .returned (rdR f m s.data.toList) ∧ Below X.heap.size X w') := fun X => sReadNum_any f m s X (by omega)
    have HI : Hid (∀ X, Below w.heap.size w X → Calls Tryz.prog 10 #[.int .i64 f, .int .i64 m, .string s] X fun e w' => e = .returned (rdR f m s.data.toList) ∧ Below X.heap.size X w') := fun X hX => iReadNum_any f m s X (by omega) (Utf8Tabs_below HT.out hX)
    obtain ⟨K, N, E, S, F, t, hR⟩ := rdR_form f m s.data.toList
    rw [hR] at HS HI
    have HEq : Hid (∀ X, Calls Tryz.prog 15 #[resV K N E S F, resV K N E S F] X fun r w' => r = .returned (.bool true) ∧ Below X.heap.size X w') := fun X => eqResult_same K N E S F X
    clear hR hT HT
    go_enter Tryz.func4, Tryz.ntmps4
    go_wp2_with fail
    refine (HS.out _).mono ?_
    rintro e w1 ⟨rfl, hb1⟩
    have HA1 : Hid (At5 (w1.alloc (.cells #[.int .i64 K, .bool N, .int .i64 E, .string S, .int .i64 F] 30)) w1.heap.size (.int .i64 K) (.bool N) (.int .i64 E) (.string S) (.int .i64 F) ∧ Below w.heap.size w (w1.alloc (.cells #[.int .i64 K, .bool N, .int .i64 E, .string S, .int .i64 F] 30))) := ⟨at5_new _ _ _ _ _ _, hb1.alloc hb1.size _⟩
    clear hb1 HS
    go_upto_region 4 with fail
    generalize w1.alloc (.cells #[.int .i64 K, .bool N, .int .i64 E, .string S, .int .i64 F] 30) = w2 at *
    go_wp2_with fail
    refine (HI.out _ HA1.out.2).mono ?_
    rintro e w3 ⟨rfl, hb3⟩
    have HA2 : Hid (At5 (w3.alloc (.cells #[.int .i64 K, .bool N, .int .i64 E, .string S, .int .i64 F] 30)) w3.heap.size (.int .i64 K) (.bool N) (.int .i64 E) (.string S) (.int .i64 F) ∧ At5 (w3.alloc (.cells #[.int .i64 K, .bool N, .int .i64 E, .string S, .int .i64 F] 30)) w1.heap.size (.int .i64 K) (.bool N) (.int .i64 E) (.string S) (.int .i64 F) ∧ Below w.heap.size w (w3.alloc (.cells #[.int .i64 K, .bool N, .int .i64 E, .string S, .int .i64 F] 30))) := ⟨at5_new _ _ _ _ _ _, (HA1.out.1.below hb3 HA1.out.1.lt).below ((Below.refl w3.heap.size w3).alloc (Nat.le_refl _) _) (Nat.lt_of_lt_of_le HA1.out.1.lt hb3.size), (HA1.out.2.trans (hb3.mono HA1.out.2.size)).alloc (Nat.le_trans HA1.out.2.size hb3.size) _⟩
    clear hb3 HI HA1
    go_upto_region 5 with fail
    generalize w3.alloc (.cells #[.int .i64 K, .bool N, .int .i64 E, .string S, .int .i64 F] 30) = w4 at *
    obtain ⟨a0, a1, a2, a3, a4, -⟩ := HA2.out.1.cells
    obtain ⟨b0, b1, b2, b3, b4, -⟩ := HA2.out.2.1.cells
    go_wp2_with fail
    refine (HEq.out _).mono ?_
    rintro e w5 ⟨rfl, hb5⟩
    have HB : Hid (Below w.heap.size w w5) := HA2.out.2.2.trans (hb5.mono HA2.out.2.2.size)
    clear hb5 HA2 HEq a0 a1 a2 a3 a4 b0 b1 b2 b3 b4
    go_wp2
    go_ret
    exact ⟨rfl, HB.out⟩
end Go.Proofs.YtdkpiofeidcffaaGreatDoor
