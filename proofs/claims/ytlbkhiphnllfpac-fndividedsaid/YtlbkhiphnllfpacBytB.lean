/-
  The bytes that are drawn from, where all is kept.
-/
import Derived.Test.YtlbkhiphnllfpacGtx
import Derived.Test.YtlbkhiphnllfpacDraw
namespace Go.Proofs.Ytlbkhiphnllfpac
open Go.RowKit
set_option linter.unusedVariables false
set_option maxRecDepth 100000
theorem Bytes.blw {W w : World} {a : Option Addr} {len : Nat} (h : Bytes W.heap.size W a len) (hb : Blw W.heap.size W w) : Bytes w.heap.size w a len := by
  rcases h with h | ⟨b, off, e, hlt, hz⟩
  · exact .inl h
  · refine .inr ⟨b, off, e, Nat.lt_of_lt_of_le hlt hb.size, fun j hj => ?_⟩
    obtain ⟨z, hc, r⟩ := hz j hj
    exact ⟨z, (World.cell?_of_block (w := W) (hb.block b hlt)).trans hc, r⟩
end Go.Proofs.Ytlbkhiphnllfpac
