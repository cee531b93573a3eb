/- Steps. -/
import Derived.Test.YteofommckgeemaaGreatDoorEAJ
namespace Go.Proofs.YteofommckgeemaaGreatDoor
open Go.RowKit Go.Proofs.Tryz
set_option linter.unusedVariables false
set_option maxRecDepth 100000
set_option maxHeartbeats 8000000
theorem Fa(f a:Int)(k:f=64\/f=128):Et f a:=λneg b e rest c w i j d g=>by
 by_cases h:b=[0]
 ·subst h;have:=Le f a neg e rest c w;have l:tx [0]={data:=#[48]}:=by apply De;rw[AR];rfl
  rw[l];exact this
 ·have m:Al f a neg b e rest c=CJ (AF f).toNat (AV f) (Ad f) a neg b e rest c:=zyn h;rw[m];rcases k with rfl|rfl
  ·exact IC 64 a neg b e rest c 16 (-398) 369 w rfl rfl rfl (by decide) (by decide) (by decide) (by decide) (by decide) (by decide) i h j d.1 d.2 g.1 g.2
  ·exact IC 128 a neg b e rest c 34 (-6176) 6111 w rfl rfl rfl (by decide) (by decide) (by decide) (by decide) (by decide) (by decide) i h j d.1 d.2 g.1 g.2
end Go.Proofs.YteofommckgeemaaGreatDoor
