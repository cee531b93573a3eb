/- Steps. -/
import Derived.Test.YteofommckgeemaaGreatDoorEAI
namespace Go.Proofs.YteofommckgeemaaGreatDoor
open Go.RowKit Go.Proofs.Tryz
set_option linter.unusedVariables false
set_option maxRecDepth 100000
set_option maxHeartbeats 8000000
theorem ii(P:Program)(ts:Array TypeId)(t:TypeId)(x y z n:Int)(h:max (max x y) z=n)(w:AA):(Builtin.max_ ts t #[.int .i64 x,.int .i64 y,.int .i64 z]).run P w=.ok (.int .i64 n) w:=by
 have e:(if z>(if y>x then y else x) then z else(if y>x then y else x))=n:=by
  rw[<-h]
  repeat' split
  all_goals omega
 simp[Builtin.max_,Builtin.max2,e]
theorem KU{c:Func}{p t:Tmp}{b:Nat}{x y:AK}(h:c.results=#[.cell p 192,.tmp t])(a:Array AK)(w:AA)(d:a[p]?.getD undef=.pointer (some ⟨b,0,none⟩))
 (e:w.cell? ⟨b,0,none⟩=some x) (f:w.cell? ⟨b,1,none⟩=some y):(results c a).run prog w=.ok (.tuple #[.agg #[x,y],a.getD t undef]) w:=by
 simp[results,h,d,go_sem,e,f]
abbrev o1(w:AA)(Fn:Nat)(s:AB)(e:Int):AA:=((w.alloc (.cells #[DF Fn] 177)).alloc (.cells #[.string s,.int .i64 e] 192)).alloc (.cells #[.string ⟨#[]⟩,.int .i64 0] 192)
def XD(w:AA)(Fn:Nat)(s:AB)(e:Int)(W:AA):Prop:=W.heap[w.heap.size]?=some (.cells #[DF Fn] 177 (0,0))/\Ce W (w.heap.size+1) 192 (.string s) (.int .i64 e)/\Ce W (w.heap.size+2) 192 (.string ⟨#[]⟩) (.int .i64 0)/\AD w.heap.size w W/\w.heap.size+3<=W.heap.size
theorem gM(w:AA)(Fn:Nat)(s:AB)(e:Int):XD w Fn s e (o1 w Fn s e):=by
 obtain⟨a,b,c⟩:=Sh (w.alloc (.cells #[DF Fn] 177)) s e;have z:=AN w (.cells #[DF Fn] 177);have d:=Gb w (.cells #[DF Fn] 177);have f:=QG (w.alloc (.cells #[DF Fn] 177)) s e;rw[z] at a b f;refine⟨(c.block w.heap.size (by rw[z];omega)).trans d,a,b,bA.trans (c.mono (by rw[z];omega)),?_⟩;show w.heap.size+3<=(jP _ s e).heap.size
 omega
theorem XD.next{w W b:AA}{Fn:Nat}{s:AB}{e:Int}(h:XD w Fn s e W)(a:AD W.heap.size W b):XD w Fn s e b:=
 ⟨(a.block _ (by have:=h.2.2.2.2;omega)).trans h.1,h.2.1.below a h.2.1.lt,h.2.2.1.below a h.2.2.1.lt,h.2.2.2.1.trans (a.mono h.2.2.2.1.size),DT h.2.2.2.2 a.size⟩
theorem XD.drew{w W:AA}{Fn:Nat}{s:AB}{e:Int}(h:XD w Fn s e W):XD w Fn s e W.drew:=⟨h.1,h.2.1,h.2.2.1,h.2.2.2.1.drew,h.2.2.2.2⟩
theorem pG{B:Nat}{w W:AA}(h:AD B w W)(n:Nat):AD B w (W.drewN n):=⟨h.os,h.tape,h.output,h.size,h.block⟩
theorem XD.drewN{w W:AA}{Fn:Nat}{s:AB}{e:Int}(h:XD w Fn s e W)(n:Nat):XD w Fn s e (W.drewN n):=⟨h.1,h.2.1,h.2.2.1,pG h.2.2.2.1 n,h.2.2.2.2⟩
theorem XD.fn{w W:AA}{Fn:Nat}{s:AB}{e:Int}(h:XD w Fn s e W):W.cell? ⟨w.heap.size,0,none⟩=some (DF Fn):=by
 unfold World.cell?;simp only[h.1];rfl
theorem X9{T:TypeId}{f:Int}{P:Nat}{t hi:Int}(hf:Fm T f P t hi)(Fn:Nat)(u:Int)(aB:∀args w,(callFunc Fn args).run prog w=.ok (.enter Fn args) w)
 (HG:Hid (∀neg od p,(p=0\/p=1\/p=2\/p=3)->cA Fn #[Kj neg od p] (.bool (V4 u neg od p))))
 (neg:Bool) (g:AG) (e:Int) (w:AA) (hc:AJ g) (hl:g.length<=200) (rest:Bool) (hp:rest=true->P<g.length) (he:-200000<=e/\e<=200000) (a:Nat) (A:BX P g.length t e=a) (b:AG) (J:nt (Cw u neg (vl g) a rest)=b) (K:Bool) (ai:Bq (vl g) a rest=K):
 cB 166 #[.agg #[DF Fn],.iface T (.agg #[]),.bool neg,Mb (tx g) e,.bool rest] w (.tuple #[Mb (tx (BY P b)) (A8 P b (e+a)),.bool K]):=by
 have hq:=hf.num;obtain⟨j,m,o,aj,ak,al,am,an,ao,ap⟩:∃(j:AG) (m:Nat) (o:Bool),(200<a->j=[1]/\m=200/\o=true)/\(¬200<a->j=g/\m=a/\o=rest)/\AJ j/\j.length<=200/\m<=200/\BC u neg (vl j) m o=Cw u neg (vl g) a rest/\BJ (vl j) m o=Bq (vl g) a rest:=by
  by_cases h:200<a
  ·refine⟨[1],200,true,λ_=>⟨rfl,rfl,rfl⟩,λc=>absurd h c,BL 1 (by decide) (by decide),by simp,by decide,?_,?_⟩
   ·unfold Cw;rw[zyp h];rfl
   ·unfold Bq;rw[zyp h];rfl
  ·refine⟨g,a,rest,λc=>absurd c h,λ_=>⟨rfl,rfl,rfl⟩,hc,hl,by omega,?_,?_⟩
   ·unfold Cw;rw[zyn h]
   ·unfold Bq;rw[zyn h]
 have L:=Ab aj ak;have aq:Hid (cA 222 #[.agg #[DF Fn],.bool neg,.string (tx j),.int .i64 (m:Int),.bool o] (.tuple #[.string (tx b),.bool K])):=λX=>by
  rw[<-J,<-ai,<-ao,<-ap];exact JK Fn u aB HG neg j m o X al am an
 have aO:b.length<=500:=by rw[<-J];exact IU _
 have M:Hid (rest=false->max (max ((g.length:Int)-P) (t-e)) 0=(a:Int)):=λ_=>by rw[<-A];unfold BX;omega
 have B:Hid (rest=true->max (max ((g.length:Int)-P) (t-e)) 1=(a:Int)/\¬(g.length:Int)<P):=λh=>by have:=hp h;rw[<-A];unfold BX;omega
 have aP:(a:Int)<=200000:=by rw[<-A];unfold BX;omega
 have N:Hid (cA 220 #[Mb (tx g) e] (.int .i64 g.length)):=λX=>by
  have:=IX (tx g) e X (by rw[AE];omega);rwa[AE] at this
 have D:=zq (gM w Fn (tx g) e);have aC:=zw ((g.length:Int)-P) (by omega);have aD:=zw (t-e) (by omega);have aE:=zw (e+(a:Int)) (by omega);clear hp;clear aj ak al am an ao ap hc hl A J ai HG;obtain⟨TT,O⟩:=zxe (tx (BY P b));obtain⟨XX,Q⟩:=zxe (A8 P b (e+a));have q:=Ab O Q;rw[O,Q];clear O Q;rcases hf.cases with⟨rfl,R,av,aF⟩|⟨rfl,R,av,aF⟩
 all_goals
  go_enter func166,ntmps166;cases rest
  have S:=zq (M (by decide));clear M B;go_wp2_with fail;refine cm (R _) λE v=>?_;have F:=zq (D.next v);clear v D
  rotate_left
  have S:=zq (B (by decide)).1;have aQ:=(B (by decide)).2;clear M B;go_wp2_with fail;refine cm (R _) λw0 aw=>?_;have U:=zq (D.next aw);clear aw D;obtain⟨G,n⟩:=U.2.1.cells;go_wp2_with fail;refine cm (N _) λE v=>?_;have F:=zq (U.next v);clear v U G n
 all_goals
  have ax:=dR E;have aG:=ii prog #[2,2,2] 2 _ _ _ _ S;go_upto_region 6 with fail;refine AP (C:=AD E.heap.size E) ax ?_;repeat (go_big_quiet_step ((intro V;rename_i x;first|exact rfl|exact Calls.class_of (N x) (λw' W=>BQ V W)|(simp only[CN,B7];go_simp;exact Calls.class_of (av x) (λw' W=>BQ V W))|(obtain⟨G,n⟩:=(F.next V).2.1.cells;go_simp;exact rfl))))
  refine wpQuiet_nil ?_;intro w2 ay;have Y:=zq (F.next ay);clear ay ax F aG aC aD N S;go_upto_region 7 with fail;obtain⟨G,n⟩:=Y.2.1.cells;go_quiet (fail);have H:=zq (Y.drewN nq);generalize w2.drewN nq=w3 at*
  clear G n Y;go_upto_if 51 with fail;go_cut [15,14,4] (λd k r x=>d=.string (tx j)/\k=.int .i64 (m:Int)/\r=.bool o/\x=w3);case first=>
   by_cases h:200<a
   ·obtain⟨n,I,y⟩:=L.1 h;have Z:(200:Int)<(a:Int):=by omega
    have i:Hid (tx j={data:=#[49]}/\(m:Int)=200/\o=true):=⟨by rw[n];exact SC,by omega,y⟩;clear n I y h;go_wp2;go_meet;case rel=>exact⟨by rw[i.out.1],by rw[i.out.2.1],by rw[i.out.2.2],rfl⟩
   ·obtain⟨n,I,y⟩:=L.2 h;have Z:¬(200:Int)<(a:Int):=by omega
    have i:=J9 n I y;clear n I y h;go_wp2;go_meet;case rel=>exact⟨by rw[i.out.1],by rw[i.out.2.1],by rw[i.out.2.2],rfl⟩
  case rest=>
   obtain⟨rfl,rfl,rfl,rfl⟩:=hcut;have aK:=H.fn;clear L;go_wp2_with fail;refine cm (aq _) λw4 aa=>?_;have s:=Ab ((H.next aa).2.2.1) ((H.next aa).2.2.2.1);clear aa H aq aK;obtain⟨l,ab⟩:=zxe (e+(a:Int));have aS:-200000<=l/\l<=400000:=by omega
   rw[ab] at q;rw[ab];clear aE ab;have aT:=AE b;by_cases h:P<b.length
   ·have Z:(P:Int)<(b.length:Int):=by omega
    have ht:=C8 b P (by omega);have aV:(P:Int)<=(b.length:Int):=by omega
    have i:Hid (TT=tx (b.take P)/\XX=l+1):=⟨by rw[<-q.out.1];unfold BY;rw[zyp h],by rw[<-q.out.2];unfold A8;rw[zyp h]⟩;have x:=zw (l+1) (by omega);have aL:=GM (tx (b.take P)) (l+1);generalize tx (b.take P)=T2 at*
    clear h q;go_wp2_with (refine sC s.1 T2 (l+1) ?_);have z:=(s.1.row (.string T2) (.int .i64 (l+1))).cells;refine Do (KU rfl _ _ rfl z.1 z.2) rfl ?_;exact⟨by rw[i.out.1,i.out.2];rfl,AC s.2 (by omega) _⟩
   ·have Z:¬(P:Int)<(b.length:Int):=by omega
    have i:Hid (TT=tx b/\XX=l):=⟨by rw[<-q.out.1];unfold BY;rw[zyn h],by rw[<-q.out.2];unfold A8;rw[zyn h]⟩;have aL:=GM (tx b) l;clear h q;go_wp2_with (refine sC s.1 (tx b) l ?_);have z:=(s.1.row (.string (tx b)) (.int .i64 l)).cells;refine Do (KU rfl _ _ rfl z.1 z.2) rfl ?_;exact⟨by rw[i.out.1,i.out.2];rfl,AC s.2 (by omega) _⟩
end Go.Proofs.YteofommckgeemaaGreatDoor
