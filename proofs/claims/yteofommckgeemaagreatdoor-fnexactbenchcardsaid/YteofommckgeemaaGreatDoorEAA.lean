/- Steps. -/
import Derived.Laws.Tables
import Derived.WalkKit
import Derived.ProofKit
import Derived.Deep.QuietTactic
import Derived.BigQuiet
import Derived.WalkSmall
import Derived.Laws.BytesArg
import Derived.Handy
import Derived.BigRegion
import Derived.Deep.DeepCutAuto
import Derived.Great.Walk
import Derived.OwnWalk
import Derived.Laws.AppendOwn
import Derived.Laws.EntriesVeiled
import Derived.WideMake
import Derived.MapKept
import Derived.RangeFuncRecord
import Derived.Deep.Quiet
import Derived.Deep.RegionHeld3
import Derived.Deep.AppendLies
import Derived.Deep.RegionLaw
import Derived.StillTail
import Derived.Laws.Cover4
import Derived.Scope
import Derived.Lib.MapLaws
import Derived.Lib.TrimAscii
import Derived.Lib.TrimUEq
import Derived.Lib.TrimU
import Derived.OpenShut
import Derived.Lib.TrimByte
import Derived.Lib.Bytealg
import Derived.Lib.Repeat
import Derived.Deep.LoopGhost
import Derived.Deep.RegionWith
import Derived.Shelf.Abstract
import Derived.Deep.CutBlock
import Derived.Laws.IdiomStrings
import Derived.Lib.ItoaNum
import Derived.Lib.SmallJoins
import Derived.Orders
import Derived.Shelf.Strings.Split
import Derived.Lib.IndexBytes
import Derived.Shelf.Strings.BuilderK
import Derived.Shelf.Strings.MapGrows
import Derived.LaidEql
import Derived.Stop.Asserts
import Derived.RowKitTokens
import Derived.Lib.AtoiErrMem
import Derived.WalkLawsBesides
import Derived.Laws.Cells
import Derived.Maps.AppendAt
import Derived.Laws.CopyOwn
import Derived.Below
import Derived.Laws.Bits64b
import Derived.KernelRfl
import Derived.Laws.Externs
import Derived.Laws.ResultCell
import Derived.Tactics
import Derived.Tactics2
import Derived.Defers
import Derived.Recover
import Derived.Laws.Pointers
import Derived.Lib.AppendStr
import Derived.OpenVars
import Derived.LaidMore
import Derived.Lib.LaidU8T
import Derived.Stop.Joined
import Derived.Stop.LaidErr
import Derived.Lib.LaidTab
import Derived.LaidHandle
import Derived.Lay
import Derived.Test.YteofommckgeemaaGreatDoorRows
namespace Go.Proofs.YteofommckgeemaaGreatDoor
open Go.RowKit Go.Proofs.Tryz
set_option linter.unusedVariables false
set_option linter.unusedSimpArgs false
set_option maxRecDepth 100000
set_option maxHeartbeats 8000000
abbrev cB(f:FuncId)(args:Array Value)(w:World)(v:Value):Prop:=Calls Tryz.prog f args w λe w'=>e=.returned v/\Below w.heap.size w w'
abbrev cA(f:FuncId)(args:Array Value)(v:Value):Prop:=∀w,Calls Tryz.prog f args w λe w'=>e=.returned v/\Below w.heap.size w w'
abbrev cE(f:FuncId)(args:Array Value)(w:World)(v:Value):Prop:=Calls Tryz.prog f args w λe w'=>e=.returned v/\w'=w
abbrev cF(f:FuncId)(args:Array Value)(v:Value):Prop:=∀w,Calls Tryz.prog f args w λe w'=>e=.returned v/\w'=w
abbrev Ei(k:Int)(b:Bool)(e:Int)(s:ByteArray)(f:Int):Obj:=.cells #[.int .i64 k,.bool b,.int .i64 e,.string s,.int .i64 f] 90
abbrev AY(k:Int)(b:Bool)(e:Int)(s:ByteArray):Obj:=.cells #[.int .i64 k,.bool b,.int .i64 e,.string s] 78
abbrev A2:Obj:=.cells #[.int .i64 0,.bool false,.int .i64 0,.string {data:=#[]},.int .i64 0] 90
abbrev VU:Obj:=.cells #[.int .i64 0,.bool false,.int .i64 0,.string {data:=#[]}] 78
theorem zq{p:Prop}(h:p):Hid p:=h
theorem bA{w:World}{o:Obj}:Below w.heap.size w (w.alloc o):=(Below.refl _ _).alloc (Nat.le_refl _) _
theorem dR(w:World):Hid (Below w.heap.size w w.drew):=(Below.refl _ _).drew
theorem Dn{x y:Int}(h:x=y/\-9223372036854775808<=y/\y<9223372036854775808):IntKind.i64.wrap x=y:=by rw[IntKind.wrap_i64];omega
abbrev AB:=ByteArray
abbrev AA:=World
abbrev AG:=List Int
abbrev AK:=Value
abbrev AD:=Below
theorem zyn.{u}{c:Prop}{h:Decidable c}(k:¬c){α:Sort u}{t e:α}:ite c t e=e:=if_neg k
theorem zyp.{u}{c:Prop}{h:Decidable c}(k:c){α:Sort u}{t e:α}:ite c t e=t:=if_pos k
theorem AS(n:Nat):n<=n:=Nat.le_refl n
theorem pD{α:Type}{i:Nat}{b:α}{xs:Array α}:xs[i]?=some b↔∃h:i<xs.size,xs[i]'h=b:=Array.getElem?_eq_some_iff
theorem oc{α:Type}[BEq α][LawfulBEq α]{a b:α}:(a==b)=false↔a≠b:=beq_eq_false_iff_ne
theorem By{p:Prop}[Decidable p](h:¬p):decide p=false:=decide_eq_false h
theorem Bz{p:Prop}[Decidable p](h:p):decide p=true:=decide_eq_true h
theorem Dq{α:Type}{l:List α}{i:Nat}(h:i<l.length):l[i]?=some l[i]:=List.getElem?_eq_getElem h
theorem BI(B:Nat)(w:World):Below B w w:=Below.refl B w
theorem GG{α:Type}{n:Nat}{a:α}:(List.replicate n a).length=n:=List.length_replicate
theorem Dc{α:Type}{s t:List α}:(s++t).length=s.length+t.length:=List.length_append
theorem Cd{α:Type}{a b:α}:(some a).getD b=a:=Option.getD_some
theorem B9(n:Nat):0<=n:=Nat.zero_le n
theorem Fx(w:World)(a b:Addr)(v:Value)(h:a≠b):(w.setCell a v).cell? b=w.cell? b:=World.cell?_setCell_other w a b v h
theorem DU{n m k:Nat}(h:n<m)(g:m<=k):n<k:=Nat.lt_of_lt_of_le h g
theorem If{a b c:Int}(h:a<=b)(g:0<=c):a*c<=b*c:=Int.mul_le_mul_of_nonneg_right h g
theorem FS{a b c:Int}(h:a<b)(g:b<=c):a<c:=Int.lt_of_lt_of_le h g
theorem CP{a b:Int}(h:a<b):a<=b:=Int.le_of_lt h
theorem FQ{α:Type}{i:Nat}{l:List α}:(l.take i).length=min i l.length:=List.length_take
theorem Hy{α:Type}{a:α}{l:List α}{i:Nat}:(a::l).take (i+1)=a::l.take i:=List.take_succ_cons
theorem Ia{α:Type}{a:α}{l:List α}{i:Nat}:(a::l).drop (i+1)=l.drop i:=List.drop_succ_cons
theorem Gy{α:Type}{a b:α}(h:some a=some b):a=b:=Option.some.inj h
theorem GH{α:Type}(y:α){a:α}{l:List α}(h:a∈l):a∈y::l:=List.mem_cons_of_mem y h
theorem De{x y:ByteArray}(h:x.data=y.data):x=y:=ByteArray.ext h
theorem Do{P:Program}{fn:Func}{R:Ending->World->Prop}{a:Act}{w:World}{v:Value}(h:(results fn a.tmps).run P w=.ok v w)(g:a.defers=[])(k:R (.returned v) w):bodyPost P fn R .ret a w:=bodyPost_ret h g k
theorem Gx{α:Type}{a:α}{l:List α}:a∈a::l:=List.mem_cons_self
theorem DT{n m k:Nat}(h:n<=m)(g:m<=k):n<=k:=Nat.le_trans h g
theorem Cv(a:Int)(m n:Nat):a^(m+n)=a^m*a^n:=Int.pow_add a m n
theorem NH{a b c:Int}(h:a<=b)(g:0<=c):c*a<=c*b:=Int.mul_le_mul_of_nonneg_left h g
theorem zxe.{u}{α:Sort u}(a:α):∃b,a=b:=⟨a,rfl⟩
theorem zw(y:Int)(h:-9223372036854775808<=y/\y<9223372036854775808):IntKind.i64.wrap y=y:=by rw[IntKind.wrap_i64];omega
theorem Ab{a b:Prop}(x:a)(y:b):Hid (a/\b):=⟨x,y⟩
theorem J9{a b c:Prop}(x:a)(y:b)(z:c):Hid (a/\b/\c):=⟨x,y,z⟩
theorem eh{a b c d:Prop}(x:a)(y:b)(z:c)(u:d):Hid (a/\b/\c/\d):=⟨x,y,z,u⟩
theorem cm{P:Program}{f:FuncId}{args:Array Value}{w:World}{E:Ending}{R:World->Prop}{Q:Ending->World->Prop}(h:Calls P f args w λe w'=>e=E/\R w')(k:∀w',R w'->Q E w'):Calls P f args w Q:=h.mono (by rintro e w' ⟨q,r⟩;rw[q];exact k _ r)
theorem ce{P:Program}{f:FuncId}{args:Array Value}{w W:World}{E:Ending}{Q:Ending->World->Prop}(h:Calls P f args w λe w'=>e=E/\w'=W)(k:Q E W):Calls P f args w Q:=h.mono (by rintro e w' ⟨q,r⟩;rw[q,r];exact k)
theorem rR{fn:Func}{p:Tmp}{b:Nat}{x y z u v:Value}{J:Prop}{R:Ending->World->Prop}{a:Act}{w:World}(q:w.cell? ⟨b,0,none⟩=some x/\w.cell? ⟨b,1,none⟩=some y/\w.cell? ⟨b,2,none⟩=some z/\w.cell? ⟨b,3,none⟩=some u/\w.cell? ⟨b,4,none⟩=some v/\J)
 (k:R (.returned (.agg #[x,y,z,u,v])) w) (h:fn.results=#[.cell p 90]:=by rfl) (hp:a.tmps[p]?.getD undef=.pointer (some ⟨b,0,none⟩):=by rfl) (hd:a.defers=[]:=by rfl):bodyPost Tryz.prog fn R .ret a w:=by
 obtain⟨q0,q1,q2,q3,q4,-⟩:=q;exact bodyPost_ret (by simp[results,h,hp,go_sem,q0,q1,q2,q3,q4]) hd k
theorem rB{fn:Func}{p t:Tmp}{b:Nat}{x y z u v:Value}{J:Prop}{R:Ending->World->Prop}{a:Act}{w:World}(q:w.cell? ⟨b,0,none⟩=some x/\w.cell? ⟨b,1,none⟩=some y/\w.cell? ⟨b,2,none⟩=some z/\w.cell? ⟨b,3,none⟩=some u/\w.cell? ⟨b,4,none⟩=some v/\J)
 (k:R (.returned (.tuple #[.agg #[x,y,z,u,v],a.tmps.getD t undef])) w) (h:fn.results=#[.cell p 90,.tmp t]:=by rfl) (hp:a.tmps[p]?.getD undef=.pointer (some ⟨b,0,none⟩):=by rfl) (hd:a.defers=[]:=by rfl):bodyPost Tryz.prog fn R .ret a w:=by
 obtain⟨q0,q1,q2,q3,q4,-⟩:=q;exact bodyPost_ret (by simp[results,h,hp,go_sem,q0,q1,q2,q3,q4]) hd k
theorem rN{fn:Func}{p:Tmp}{b:Nat}{x y z u:Value}{J:Prop}{R:Ending->World->Prop}{a:Act}{w:World}(q:w.cell? ⟨b,0,none⟩=some x/\w.cell? ⟨b,1,none⟩=some y/\w.cell? ⟨b,2,none⟩=some z/\w.cell? ⟨b,3,none⟩=some u/\J)
 (k:R (.returned (.agg #[x,y,z,u])) w) (h:fn.results=#[.cell p 78]:=by rfl) (hp:a.tmps[p]?.getD undef=.pointer (some ⟨b,0,none⟩):=by rfl) (hd:a.defers=[]:=by rfl):bodyPost Tryz.prog fn R .ret a w:=by
 obtain⟨q0,q1,q2,q3,-⟩:=q;exact bodyPost_ret (by simp[results,h,hp,go_sem,q0,q1,q2,q3]) hd k
theorem sR{ops:Array Oper}{rest:List Oper}{o:Oper}{a:Act}{w:World}{Q:Exit->Act->World->Prop}{b:Nat}{x y z u v:Value}(H:w.heap[b]?=some (.cells #[x,y,z,u,v] 90 (0,0)))(k:Int)(n:Bool)(e:Int)(s:ByteArray)(f:Int){X Y:Operand}
 (h:wpList Tryz.prog ops Q rest (a.put o.dst undef) (w.setRow b #[.int .i64 k,.bool n,.int .i64 e,.string s,.int .i64 f])) (hg:o.guard=none:=by rfl) (ho:o.op=.store 90 X Y:=by rfl) (hx:a.eval X=.pointer (some ⟨b,0,none⟩):=by rfl) (hy:a.eval Y=.agg #[.int .i64 k,.bool n,.int .i64 e,.string s,.int .i64 f]:=by rfl):wpList Tryz.prog ops Q (o::rest) a w:=
 wpList_store_row hg _ X Y ho b _ hx hy _ _ H (by kernel_rfl) rfl (by simp[Value.oneCell']) h
theorem sN{ops:Array Oper}{rest:List Oper}{o:Oper}{a:Act}{w:World}{Q:Exit->Act->World->Prop}{b:Nat}{x y z u:Value}(H:w.heap[b]?=some (.cells #[x,y,z,u] 78 (0,0)))(k:Int)(n:Bool)(e:Int)(s:ByteArray){X Y:Operand}
 (h:wpList Tryz.prog ops Q rest (a.put o.dst undef) (w.setRow b #[.int .i64 k,.bool n,.int .i64 e,.string s])) (hg:o.guard=none:=by rfl) (ho:o.op=.store 78 X Y:=by rfl) (hx:a.eval X=.pointer (some ⟨b,0,none⟩):=by rfl) (hy:a.eval Y=.agg #[.int .i64 k,.bool n,.int .i64 e,.string s]:=by rfl):wpList Tryz.prog ops Q (o::rest) a w:=
 wpList_store_row hg _ X Y ho b _ hx hy _ _ H (by kernel_rfl) rfl (by simp[Value.oneCell']) h
theorem sC{ops:Array Oper}{rest:List Oper}{o:Oper}{a:Act}{w:World}{Q:Exit->Act->World->Prop}{b:Nat}{x y:Value}(H:w.heap[b]?=some (.cells #[x,y] 192 (0,0)))(s:ByteArray)(e:Int){X Y:Operand}
 (h:wpList Tryz.prog ops Q rest (a.put o.dst undef) (w.setRow b #[.string s,.int .i64 e])) (hg:o.guard=none:=by rfl) (ho:o.op=.store 192 X Y:=by rfl) (hx:a.eval X=.pointer (some ⟨b,0,none⟩):=by rfl) (hy:a.eval Y=.agg #[.string s,.int .i64 e]:=by rfl):wpList Tryz.prog ops Q (o::rest) a w:=
 wpList_store_row hg _ X Y ho b _ hx hy _ _ H (by kernel_rfl) rfl (by simp[Value.oneCell']) h
theorem A1{w:World}{b:Nat}{x y z u v:Value}(h:w.heap[b]?=some (.cells #[x,y,z,u,v] 90 (0,0)))(k:Int)(n:Bool)(e:Int)(s:ByteArray)(f:Int):(w.setRow b #[.int .i64 k,.bool n,.int .i64 e,.string s,.int .i64 f]).cell? ⟨b,0,none⟩=some (.int .i64 k)/\(w.setRow b #[.int .i64 k,.bool n,.int .i64 e,.string s,.int .i64 f]).cell? ⟨b,1,none⟩=some (.bool n)/\(w.setRow b #[.int .i64 k,.bool n,.int .i64 e,.string s,.int .i64 f]).cell? ⟨b,2,none⟩=some (.int .i64 e)/\(w.setRow b #[.int .i64 k,.bool n,.int .i64 e,.string s,.int .i64 f]).cell? ⟨b,3,none⟩=some (.string s)/\(w.setRow b #[.int .i64 k,.bool n,.int .i64 e,.string s,.int .i64 f]).cell? ⟨b,4,none⟩=some (.int .i64 f)/\∀i,(w.setRow b #[.int .i64 k,.bool n,.int .i64 e,.string s,.int .i64 f]).frozen? ⟨b,i,none⟩=false:=by
 have H:(w.setRow b #[.int .i64 k,.bool n,.int .i64 e,.string s,.int .i64 f]).heap[b]?=some (.cells #[.int .i64 k,.bool n,.int .i64 e,.string s,.int .i64 f] 90 (0,0)):=setRow_heap w b _ _ _ _ h;generalize w.setRow b #[.int .i64 k,.bool n,.int .i64 e,.string s,.int .i64 f]=W at*
 exact⟨by simp[World.cell?,H],by simp[World.cell?,H],by simp[World.cell?,H],by simp[World.cell?,H],by simp[World.cell?,H],λi=>by simp[World.frozen?,H]⟩
end Go.Proofs.YteofommckgeemaaGreatDoor
