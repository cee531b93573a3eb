/- Steps. -/
import Derived.Test.YteofommckgeemaaGreatDoorEAE
namespace Go.Proofs.YteofommckgeemaaGreatDoor
open Go.RowKit Go.Proofs.Tryz
set_option linter.unusedVariables false
set_option linter.unusedSimpArgs false
set_option maxRecDepth 100000
set_option maxHeartbeats 8000000
def Jb(W H L:Int):Prop:=H=W/18446744073709551616/\L=W%18446744073709551616/\0<=W/\W<340282366920938463463374607431768211456
theorem Jb.zero:Jb 0 0 0:=⟨rfl,rfl,by decide,by decide⟩
theorem Jb.bd{W H L:Int}(h:Jb W H L):(0<=H/\H<=18446744073709551615)/\(0<=L/\L<=18446744073709551615):=by
 obtain⟨rfl,rfl,a,b⟩:=h;omega
theorem JG(W H L b:Int)(n:Nat)(w:AA)(h:Jb W H L)(i:Wn n)(j:W*2^n+b<340282366920938463463374607431768211456)(k:0<=b)(l:b<2^n):
 Calls prog 279 #[J8 H L,.int .u16 b,.int .i64 n] w λe a=>∃c d,e=.returned (J8 c d)/\Hid (Jb (W*2^n+b) c d)/\AD w.heap.size w a:=by
 obtain⟨rfl,rfl,f,-⟩:=h;have g:(0:Int)<2^n:=Int.pow_pos (by decide);have g:=Int.mul_nonneg f (CP g);exact(PP W b n w i f (by omega) k l).mono λe a ⟨m,o⟩=>⟨_,_,m,⟨rfl,rfl,by omega,j⟩,o⟩
def jn(a:Int)(b:AG):Nat->Int
 |0=>a
 |k+1=>jn a b k*2^10+b.getD k 0
theorem my(a:Int)(b:AG)(m:Nat)(c:0<=a)(e:a<2^m)(f:∀i,0<=b.getD i 0/\b.getD i 0<1024)(k:Nat):0<=jn a b k/\jn a b k<2^(m+10*k):=by
 induction k with
 |zero=>exact⟨c,e⟩
 |succ k ih=>
  have d:=f k;unfold jn;rw[show m+10*(k+1)=(m+10*k)+10 by omega,Cv,show(2:Int)^10=1024 by decide];omega
theorem iO(n:Nat)(h:n<=128):(2:Int)^n<=340282366920938463463374607431768211456:=by
 have e:(340282366920938463463374607431768211456:Int)=2^128:=by decide
 rw[e];rcases Nat.lt_or_ge n 128 with h|h
 ·exact CP (Int.pow_lt_pow_of_lt (by decide) h)
 ·rw[show n=128 by omega];exact Int.le_refl _
theorem gO(a:Int)(b:AG)(m:Nat)(c:0<=a)(d:a<2^m)(e:∀i,0<=b.getD i 0/\b.getD i 0<1024)(k:Nat)(f:m+10*k<=128):jn a b k<340282366920938463463374607431768211456:=by
 have:=my a b m c d e k;have:=iO (m+10*k) f;omega
theorem je{w:AA}{b:Nat}{u v:AK}(a:w.cell? ⟨b,0,none⟩=some u)(c:w.cell? ⟨b,1,none⟩=some v)(x y:AK):
 ((w.setCell ⟨b,0,none⟩ x).setCell ⟨b,1,none⟩ y).cell? ⟨b,0,none⟩=some x/\((w.setCell ⟨b,0,none⟩ x).setCell ⟨b,1,none⟩ y).cell? ⟨b,1,none⟩=some y:=by
 refine⟨?_,?_⟩
 ·rw[Fx _ _ _ _ (by simp)];exact World.cell?_setCell_same _ _ _ a
 ·exact World.cell?_setCell_same _ _ _ (u:=v) (by rw[Fx _ _ _ _ (by simp)];exact c)
theorem Tp{a:Func}{p:Tmp}{b:Nat}{x y:AK}(h:a.results=#[.cell p 100])(c:Array AK)(w:AA)(d:c[p]?.getD undef=.pointer (some ⟨b,0,none⟩))
 (e:w.cell? ⟨b,0,none⟩=some x) (f:w.cell? ⟨b,1,none⟩=some y):(results a c).run prog w=.ok (.agg #[x,y]) w:=by
 simp[results,h,d,go_sem,e,f]
abbrev fD(w:AA)(b:Bool)(a rs:Int)(v:AK):AA:=(w.alloc (.cells #[.bool b,.int .u8 a,.int .u16 rs,v] 268)).alloc (.cells #[.int .u64 0,.int .u64 0] 100)
def JW(w:AA)(b:Bool)(a rs:Int)(v:AK)(wr:AA)(p:Nat)(H L:Int):Prop:=
 AD (w.heap.size+2) (fD w b a rs v) wr/\w.heap.size+2<=p/\p<wr.heap.size/\wr.cell? ⟨p,0,none⟩=some (.int .u64 H)/\wr.cell? ⟨p,1,none⟩=some (.int .u64 L)/\∀i,wr.frozen? ⟨p,i,none⟩=false
theorem E4{w W:AA}{b:Bool}{a rs:Int}{v:AK}(h:AD (w.heap.size+2) (fD w b a rs v) W):W.cell? ⟨w.heap.size,0,none⟩=some (.bool b)/\W.cell? ⟨w.heap.size,1,none⟩=some (.int .u8 a)/\W.cell? ⟨w.heap.size,2,none⟩=some (.int .u16 rs)/\W.cell? ⟨w.heap.size,3,none⟩=some v/\W.cell? ⟨w.heap.size+1,0,none⟩=some (.int .u64 0)/\W.cell? ⟨w.heap.size+1,1,none⟩=some (.int .u64 0)/\∀i,W.frozen? ⟨w.heap.size+1,i,none⟩=false:=by
 refine⟨?_,?_,?_,?_,?_,?_,λi=>?_⟩
 ·rw[h.cell (p:=⟨w.heap.size,0,none⟩) (by simp)];simp
 ·rw[h.cell (p:=⟨w.heap.size,1,none⟩) (by simp)];simp
 ·rw[h.cell (p:=⟨w.heap.size,2,none⟩) (by simp)];simp
 ·rw[h.cell (p:=⟨w.heap.size,3,none⟩) (by simp)];simp
 ·rw[h.cell (p:=⟨w.heap.size+1,0,none⟩) (by simp)];simp
 ·rw[h.cell (p:=⟨w.heap.size+1,1,none⟩) (by simp)];simp
 ·rw[h.frozen (p:=⟨w.heap.size+1,i,none⟩) (by simp)];simp
theorem Uc{w W:AA}{b:Bool}{a rs:Int}{v:AK}(h:AD (w.heap.size+2) (fD w b a rs v) W):AD w.heap.size w W:=(bA.alloc (by simp) _).trans (h.mono (by omega))
theorem QT{w W:AA}{b:Bool}{a rs:Int}{v:AK}(h:AD (w.heap.size+2) (fD w b a rs v) W):w.heap.size+2<=W.heap.size:=by
 have:=h.size;simpa using this
theorem QS{w W a:AA}{b:Bool}{c rs:Int}{v:AK}(h:AD (w.heap.size+2) (fD w b c rs v) W)(d:AD W.heap.size W a):AD (w.heap.size+2) (fD w b c rs v) a:=h.trans (d.mono (QT h))
theorem JW.next{w wr c:AA}{b:Bool}{d rs:Int}{v:AK}{p:Nat}{H L:Int}(h:JW w b d rs v wr p H L)(a:AD wr.heap.size wr c):JW w b d rs v c p H L:=by
 obtain⟨f,g,e,j,k,l⟩:=h;exact⟨QS f a,g,DU e a.size,Bc a j,Bc a k,λi=>(a.frozen (p:=⟨p,i,none⟩) e).trans (l i)⟩
theorem JW.drew{w wr:AA}{b:Bool}{a rs:Int}{v:AK}{p:Nat}{H L:Int}(h:JW w b a rs v wr p H L):JW w b a rs v wr.drew p H L:=by
 obtain⟨c,d,e,f,g,i⟩:=h;exact⟨c.drew,d,e,f,g,i⟩
theorem JW.put{w wr:AA}{b:Bool}{c rs:Int}{v:AK}{p:Nat}{H L:Int}(h:JW w b c rs v wr p H L)(d e:Int):JW w b c rs v ((wr.setCell ⟨p,0,none⟩ (.int .u64 d)).setCell ⟨p,1,none⟩ (.int .u64 e)) p d e:=by
 obtain⟨f,a,g,j,k,l⟩:=h;refine⟨(f.setCell a _).setCell a _,a,by simpa using g,?_,?_,λi=>by rw[World.frozen?_setCell,World.frozen?_setCell];exact l i⟩
 ·rw[Fx _ _ _ _ (by simp)];exact World.cell?_setCell_same _ _ _ j
 ·exact World.cell?_setCell_same _ _ _ (u:=.int .u64 L) (by rw[Fx _ _ _ _ (by simp)];exact k)
theorem JW.new{w wr:AA}{b:Bool}{a rs:Int}{v:AK}(H L:Int)(h:AD (w.heap.size+2) (fD w b a rs v) wr):JW w b a rs v (wr.alloc (.cells #[.int .u64 H,.int .u64 L] 100)) wr.heap.size H L:=by
 have c:=QT h;refine⟨h.alloc c _,c,by simp,by simp,by simp,λi=>by simp⟩
def Jf(T:TypeId)(g q:Nat):Prop:=(T=208/\g=8/\q=5)\/(T=211/\g=12/\q=11)
theorem Dz{T:TypeId}{g q:Nat}(y:Jf T g q)(b:Bool)(a rs:Int)(f m:Nat)(c:AG)(w:AA)(hl:c.length=q)(z:∀i,0<=c.getD i 0/\c.getD i 0<1024)(hg:f<w.heap.size)(hc:∀i,i<q->w.cell? ⟨f,i,none⟩=some (.int .i64 (c.getD i 0)))(l0:0<=a)(l1:a<32)(S:0<=rs)(r1:rs<2^g):
 Calls prog 236 #[.iface T (.agg #[]),.agg #[.bool b,.int .u8 a,.int .u16 rs,.slice (some ⟨f,0,none⟩) q m]] w λe n=>∃H L,e=.returned (J8 H L)/\Hid (Jb (jn ((C4 b*32+a)*2^g+rs) c q) H L)/\AD w.heap.size w n:=by
 have hq:(g=8/\q=5)\/(g=12/\q=11):=by rcases y with⟨-,h⟩|⟨-,h⟩;exact .inl h;exact .inr h
 have sb:=Tx b;have ag:Hid (∀X,Calls prog 279 #[J8 0 0,.int .u16 (C4 b),.int .i64 1] X λe n=>∃j l,e=.returned (J8 j l)/\Hid (Jb (C4 b) j l)/\AD X.heap.size X n):=λX=>by
  have:=JG 0 0 0 (C4 b) 1 X Jb.zero (by unfold Wn;omega) (by omega) sb.1 (by omega);rw[show(0:Int)*2^1+C4 b=C4 b by omega] at this;exact this
 have ah:Hid (∀X H L,Jb (C4 b) H L->Calls prog 279 #[J8 H L,.int .u16 a,.int .i64 5] X λe n=>∃j l,e=.returned (J8 j l)/\Hid (Jb (C4 b*32+a) j l)/\AD X.heap.size X n):=λX H L h=>JG (C4 b) H L a 5 X h (by unfold Wn;omega) (by omega) l0 (by omega);have ai:Hid (∀X H L,Jb (C4 b*32+a) H L->Calls prog 279 #[J8 H L,.int .u16 rs,.int .i64 g] X λe n=>∃j l,e=.returned (J8 j l)/\Hid (Jb ((C4 b*32+a)*2^g+rs) j l)/\AD X.heap.size X n):=λX H L h=>by rcases y with⟨-,rfl,rfl⟩|⟨-,rfl,rfl⟩<;>exact JG _ H L rs _ X h (by unfold Wn;omega) (by omega) S (by omega)
 have U:0<=(C4 b*32+a)*2^g+rs/\(C4 b*32+a)*2^g+rs<2^(g+6):=by rcases y with⟨-,rfl,rfl⟩|⟨-,rfl,rfl⟩<;>omega
 have aB:Hid (∀k X H L,k<q->Jb (jn ((C4 b*32+a)*2^g+rs) c k) H L->Calls prog 279 #[J8 H L,.int .u16 (c.getD k 0),.int .i64 10] X λe n=>∃j l,e=.returned (J8 j l)/\Hid (Jb (jn ((C4 b*32+a)*2^g+rs) c (k+1)) j l)/\AD X.heap.size X n):=λk X H L hk h=>
  JG _ H L (c.getD k 0) 10 X h (by unfold Wn;omega) (by have:=gO _ c (g+6) U.1 U.2 z (k+1) (by omega);unfold jn at this;exact this) (z k).1 (by have:=(z k).2;omega)
 have HD:Hid (∀i,0<=c.getD i 0/\c.getD i 0<1024):=z;have HC:Hid (∀i,i<q->w.cell? ⟨f,i,none⟩=some (.int .i64 (c.getD i 0))):=hc;generalize (C4 b*32+a)*2^g+rs=Z at*
 generalize hQ:C4 b*32+a=Q at*
 have V:Hid (AD (w.heap.size+2) (fD w b a rs (.slice (some ⟨f,0,none⟩) q m)) (fD w b a rs (.slice (some ⟨f,0,none⟩) q m))):=BI _ _;clear z hc hQ S r1 U hl;have I:(T=208/\Hid (cA 368 #[.agg #[]] (.int .i64 g)))\/(T=211/\Hid (cA 373 #[.agg #[]] (.int .i64 g))):=by
  rcases y with⟨h,rfl,-⟩|⟨h,rfl,-⟩
  ·exact .inl ⟨h,D8⟩
  ·exact .inr ⟨h,DS⟩
 clear y;rcases I with⟨rfl,I⟩|⟨rfl,I⟩
 all_goals
  go_enter func236,ntmps236;go_upto_if 10 with fail;go_cut [5] (λs W=>s=.int .u16 (C4 b)/\Hid (AD (w.heap.size+2) (fD w b a rs (.slice (some ⟨f,0,none⟩) q m)) W));case first=>
   cases b
   ·go_wp2;go_meet;case rel=>exact⟨rfl,V⟩
   ·go_wp2;go_meet;case rel=>exact⟨rfl,V⟩
  case rest=>
   obtain⟨rfl,aj⟩:=hcut;clear V;go_wp2_with fail;refine(ag.out _).mono ?_;rintro e A ⟨J,K,rfl,ak,al⟩;have M:Hid (JW w b a rs (.slice (some ⟨f,0,none⟩) q m) (A.alloc (.cells #[.int .u64 J,.int .u64 K] 100)) A.heap.size J K):=JW.new J K (QS aj.out al);clear al aj ag;obtain⟨B,C,D,E,-,-,-⟩:=E4 M.out.1;obtain⟨-,-,-,o,r,-⟩:=M.out;go_wp2_with fail;refine(ah.out _ _ _ ak.out).mono ?_;rintro e N ⟨v,x,rfl,am,an⟩;have Y:Hid (JW w b a rs (.slice (some ⟨f,0,none⟩) q m) N A.heap.size J K):=M.out.next an;clear an M ak ah B C D E o r;generalize A.heap.size=p at*
   clear A;have O:Hid (JW w b a rs (.slice (some ⟨f,0,none⟩) q m) ((N.setCell ⟨p,0,none⟩ (.int .u64 v)).setCell ⟨p,1,none⟩ (.int .u64 x)) p v x):=Y.out.put v x;obtain⟨-,aX,-,o,r,u⟩:=Y.out;have aY:¬p=w.heap.size:=by omega
   go_upto_region 6 with fail;clear o r u Y;generalize (N.setCell ⟨p,0,none⟩ (.int .u64 v)).setCell ⟨p,1,none⟩ (.int .u64 x)=w3 at*
   clear N;obtain⟨-,-,-,o,r,u⟩:=O.out;obtain⟨B,C,D,E,-,-,-⟩:=E4 O.out.1;go_cut [6] (λs W=>s=.pointer (some ⟨p,0,none⟩)/\∃H L,Hid (Jb Z H L)/\Hid (JW w b a rs (.slice (some ⟨f,0,none⟩) q m) W p H L));case first=>
    go_region_with (first
     |((first|go_at_call 368|go_at_call 373);refine(I.out _).mono ?_;rintro e w4 ⟨rfl,aH⟩;have aa:Hid (JW w b a rs (.slice (some ⟨f,0,none⟩) q m) w4 p v x):=O.out.drew.next aH;obtain⟨-,-,-,S,r1,rf⟩:=aa.out;obtain⟨-,-,e2,-,-,-,-⟩:=E4 aa.out.1)
     |(go_at_call 279;refine(ai.out _ _ _ am.out).mono ?_;rintro e w5 ⟨H5,L5,rfl,aL,aM⟩;have ao:Hid (JW w b a rs (.slice (some ⟨f,0,none⟩) q m) w5 p v x):=aa.out.next aM;obtain⟨-,-,-,s0,s1,sf⟩:=ao.out))
    all_goals
     go_wp2;go_meet;case rel=>exact⟨rfl,_,_,aL,ao.out.put H5 L5⟩
   case rest=>
    obtain⟨rfl,H6,L6,ap,ab⟩:=hcut;clear O B C D E o r u am ai;obtain⟨B,C,D,E,-,-,-⟩:=E4 ab.out.1;go_wp2;clear B C D E;go_loopw [28] (λi wr=>∃k:Nat,k<=q/\i=.int .i64 (k:Int)/\∃H L,Hid (Jb (jn Z c k) H L)/\Hid (JW w b a rs (.slice (some ⟨f,0,none⟩) q m) wr p H L)) (λi _=>q-(intOf i).toNat);case atStart=>exact⟨0,B9 _,rfl,H6,L6,ap,ab⟩
    case round=>
     clear ap ab;obtain⟨k,hk,rfl,F,G,ac,t⟩:=hrel;by_cases aq:k<q
     ·have a6:(k:Int)<q:=by omega
      have aP:=((Uc t.out.1).cell (p:=⟨f,k,none⟩) hg).trans (HC.out k aq);have a7:=HD.out k;have ar:Hid (∀X,Calls prog 279 #[J8 F G,.int .u16 (c.getD k 0),.int .i64 10] X λe n=>∃j l,e=.returned (J8 j l)/\Hid (Jb (jn Z c (k+1)) j l)/\AD X.heap.size X n):=λX=>aB.out k X F G aq ac.out;have a8:IntKind.u16.wrap (c.getD k 0)=c.getD k 0:=by rw[IntKind.wrap_u16];omega
      generalize c.getD k 0=d at*
      obtain⟨-,-,-,o,r,u⟩:=t.out;go_wp2_with fail;refine(ar.out _).mono ?_;rintro e w8 ⟨P,R,rfl,aQ,av⟩;have ad:Hid (JW w b a rs (.slice (some ⟨f,0,none⟩) q m) w8 p F G):=t.out.next av;clear o r u av t ac ar aP;have aR:Hid (JW w b a rs (.slice (some ⟨f,0,none⟩) q m) ((w8.setCell ⟨p,0,none⟩ (.int .u64 P)).setCell ⟨p,1,none⟩ (.int .u64 R)) p P R):=ad.out.put P R;obtain⟨-,-,-,o,r,u⟩:=ad.out;clear ad;go_wp2;go_roundw;case rel=>exact⟨k+1,by omega,by go_num,P,R,aQ,aR⟩
      case measure=>simp[intOf];omega
     ·obtain rfl:k=q:=by omega
      obtain⟨-,-,-,o,r,u⟩:=t.out;obtain⟨-,-,-,-,c4,c5,c6⟩:=E4 t.out.1;have HQ:Hid (_/\_):=je c4 c5 (.int .u64 F) (.int .u64 G);have HB:Hid (AD w.heap.size w ((wr.setCell ⟨w.heap.size+1,0,none⟩ (.int .u64 F)).setCell ⟨w.heap.size+1,1,none⟩ (.int .u64 G))):=((Uc t.out.1).setCell (by simp) _).setCell (by simp) _;clear t;go_wp2;refine Do (Tp rfl _ _ rfl HQ.out.1 HQ.out.2) rfl ?_;exact⟨_,_,rfl,ac,HB.out⟩
end Go.Proofs.YteofommckgeemaaGreatDoor
