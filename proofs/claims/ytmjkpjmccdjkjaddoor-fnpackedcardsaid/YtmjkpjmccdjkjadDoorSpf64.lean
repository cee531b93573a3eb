/-
  The fields of a number that is not finite, in one of the formats, by the program, walked.
-/
import Derived.Test.YtmjkpjmccdjkjadDoorSpw
namespace Go.Proofs.YtmjkpjmccdjkjadDoor
open Go.RowKit
set_option linter.unusedVariables false
set_option maxRecDepth 100000
set_option linter.unusedSimpArgs false
theorem mk_64 (w : World) : (Instr.makeSlice 45 (.int .i64 5) (.int .i64 5)).run Tryd.prog w = .ok (.slice (some ⟨w.heap.size, 0, none⟩) 5 5) (w.alloc (.cells #[.int .i64 0, .int .i64 0, .int .i64 0, .int .i64 0, .int .i64 0] 2)) := by kernel_rfl
theorem zs_64 : ∀ i, i < 5 → (#[.int .i64 0, .int .i64 0, .int .i64 0, .int .i64 0, .int .i64 0] : Array Value)[i]? = some (.int .i64 0) := fun i hi => by
  match i, hi with
  | 0, _ | 1, _ | 2, _ | 3, _ | 4, _ => rfl
set_option maxRecDepth 100000 in
set_option maxHeartbeats 4000000 in
theorem specialFields_64 (k : Int) (b : Bool) (e : Int) (s : ByteArray) (w : World) (hk : k = 2 ∨ k = 3 ∨ k = 4) :
    Calls Tryd.prog 29 #[.iface 42 (.agg #[]), numV k b e s] w fun x w' => ∃ gb, x = .returned (flV b (if k = 2 then 30 else 31) (if k = 4 then 128 else 0) (.slice (some ⟨gb, 0, none⟩) 5 5)) ∧ gb < w'.heap.size ∧ (∀ i, i < 5 → w'.cell? ⟨gb, i, none⟩ = some (.int .i64 0)) ∧ Below w.heap.size w w' := by
  have HX0 : Hid (Below (w.heap.size + 2) (gbx w k b e s) (gbx w k b e s)) := Below.refl _ _
  obtain ⟨c0, c1, c2, c3, -, -, -, -, -⟩ := gbx_cells HX0.out
  have hmk := mk_64
  go_enter Tryd.func29, Tryd.ntmps29
  go_upto_region 1 with fail
  go_cut [5] (fun q wx => ∃ p gb, q = .pointer (some ⟨p, 0, none⟩) ∧ Hid (SPW w k b e s 5 wx p gb 31 0))
  case first =>
    go_region_with (first
      | (go_at_call 44; refine (decletsIn_64 _).mono ?_; rintro r w4 ⟨rfl, hb4⟩; first | (have HX4 := sp_arm0 hb4; obtain ⟨d0, d1, d2, d3, -, -, -, -, -⟩ := gbx_cells HX4; have u1 := al_of d1; have v1 := fun o o' => al_of (al_of d1 o) o') | (obtain ⟨HX4, r0, r1, r2, r3, rf, hr4⟩ := sp_arm1 hb4; have t0 := al_of r0; have t1 := al_of r1; have t2 := al_of r2; have t3 := al_of r3; have tf := fun i => alf_of (p := w.heap.size + 1 + 1) (i := i) (by omega) (rf i); obtain ⟨d0, d1, d2, d3, -, -, -, -, -⟩ := gbx_cells HX4; have u1 := al_of d1; have v1 := fun o o' => al_of (al_of d1 o) o')))
    all_goals
      go_wp2
      go_meet
      case rel => first | exact ⟨_, _, rfl, spA 5 _ zs_64 HX4⟩ | exact ⟨_, _, rfl, spB 5 _ zs_64 HX4⟩ | exact ⟨_, _, rfl, spC 5 _ zs_64 HX4 r0 r1 r2 r3 rf⟩
  case rest =>
    obtain ⟨p, gb, rfl, HS⟩ := hcut
    clear c0 c1 c2 c3 HX0 hmk
    obtain ⟨d0, d1, d2, d3, -, -, -, -, -⟩ := gbx_cells HS.out.1
    obtain ⟨e0, e1, e2, e3, ef⟩ := HS.out.2.2.2.1
    rcases hk with rfl | rfl | rfl
    · have HS2 : Hid (SPW w 2 b e s 5 (wc.setCell ⟨p, 1, none⟩ (.int .u8 30)) p gb 30 0) := HS.out.lead 30
      obtain ⟨f0, f1, f2, f3, ff⟩ := HS2.out.2.2.2.1
      obtain ⟨-, -, -, -, g0, g1, g2, g3, gf⟩ := gbx_cells HS2.out.1
      have HF : Hid (_ ∧ _) := HS2.out.fin (.bool b) (.int .u8 30) (.int .u16 0) (.slice (some ⟨gb, 0, none⟩) 5 5)
      clear HS HS2
      go_wp2
      refine bodyPost_ret (results_fl rfl _ _ rfl HF.out.1.1 HF.out.1.2.1 HF.out.1.2.2.1 HF.out.1.2.2.2.1) rfl ?_
      exact ⟨gb, rfl, HF.out.2⟩
    · obtain ⟨-, -, -, -, g0, g1, g2, g3, gf⟩ := gbx_cells HS.out.1
      have HF : Hid (_ ∧ _) := HS.out.fin (.bool b) (.int .u8 31) (.int .u16 0) (.slice (some ⟨gb, 0, none⟩) 5 5)
      clear HS
      go_wp2
      refine bodyPost_ret (results_fl rfl _ _ rfl HF.out.1.1 HF.out.1.2.1 HF.out.1.2.2.1 HF.out.1.2.2.2.1) rfl ?_
      exact ⟨gb, rfl, HF.out.2⟩
    · go_wp2_with fail
      refine (restWidth_64 _).mono ?_
      rintro r w6 ⟨rfl, hb6⟩
      have HS6 : Hid (SPW w 4 b e s 5 w6 p gb 31 0) := HS.out.next hb6
      clear e0 e1 e2 e3 ef d0 d1 d2 d3 HS hb6
      obtain ⟨e0, e1, e2, e3, ef⟩ := HS6.out.2.2.2.1
      have HS2 : Hid (SPW w 4 b e s 5 (w6.setCell ⟨p, 2, none⟩ (.int .u16 128)) p gb 31 128) := HS6.out.rest 128
      obtain ⟨f0, f1, f2, f3, ff⟩ := HS2.out.2.2.2.1
      obtain ⟨-, -, -, -, g0, g1, g2, g3, gf⟩ := gbx_cells HS2.out.1
      have HF : Hid (_ ∧ _) := HS2.out.fin (.bool b) (.int .u8 31) (.int .u16 128) (.slice (some ⟨gb, 0, none⟩) 5 5)
      clear HS6 HS2
      go_wp2
      refine bodyPost_ret (results_fl rfl _ _ rfl HF.out.1.1 HF.out.1.2.1 HF.out.1.2.2.1 HF.out.1.2.2.2.1) rfl ?_
      exact ⟨gb, rfl, HF.out.2⟩
end Go.Proofs.YtmjkpjmccdjkjadDoor
