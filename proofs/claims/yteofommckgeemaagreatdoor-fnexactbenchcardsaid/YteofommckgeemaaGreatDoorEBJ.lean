/- Steps. -/
import Derived.Test.YteofommckgeemaaGreatDoorEBF
namespace Go.Proofs.YteofommckgeemaaGreatDoor
open Go.RowKit Go.Proofs.Tryz
set_option linter.unusedVariables false
set_option maxRecDepth 100000
set_option maxHeartbeats 8000000
def Rt(M S R:Int):Prop:=S*S+R=M/\0<=S/\0<=R/\R<=2*S
theorem MT{a b:Int}(c:0<=a)(h:a<=b):a*a<=b*b:=Int.mul_le_mul h h c (Int.le_trans c h)
theorem Ws(S R M T a f:Int)(g:0<T)(h:Rt M S R)(l:Rt (M*(T*T)) a f):S*T<=a/\a<S*T+T/\(R=0->a=S*T/\f=0)/\(R≠0->a-S*T≠0\/f≠0):=by
 obtain⟨e,m,n,t⟩:=h;obtain⟨i,u,v,w⟩:=l;have j:=Int.mul_pos g g;have A:=Int.mul_nonneg m (CP g);have o:M*(T*T)=S*T*(S*T)+R*(T*T):=by rw[<-e];grind
 have B:=Int.mul_nonneg n (CP j);have p:S*T<=a:=by
  refine Int.not_lt.1 λc=>?_;have q:=MT (show 0<=a+1 by omega) (show a+1<=S*T by omega);have x:(a+1)*(a+1)=a*a+2*a+1:=by grind
  omega
 have r:a<S*T+T:=by
  refine Int.not_le.1 λc=>?_;have q:=MT (show 0<=S*T+T by omega) c;have x:(S*T+T)*(S*T+T)=S*T*(S*T)+(2*S+1)*(T*T):=by grind
  have y:R*(T*T)+(T*T)<=(2*S+1)*(T*T):=by
   have:=If (show R+1<=2*S+1 by omega) (CP j);rw[Int.add_mul,Int.one_mul] at this;exact this
  omega
 refine⟨p,r,λc=>?_,λc=>?_⟩
 ·rw[c,Int.zero_mul,Int.add_zero] at o;have C:a<=S*T:=by
   refine Int.not_lt.1 λd=>?_;have q:=MT (show 0<=S*T+1 by omega) (show S*T+1<=a by omega);have x:(S*T+1)*(S*T+1)=S*T*(S*T)+2*(S*T)+1:=by grind
   omega
  have b:a=S*T:=by omega
  rw[b] at i;exact⟨b,by omega⟩
 ·rcases Int.lt_trichotomy (a-S*T) 0 with q|q|q
  ·exact .inl (by omega)
  ·refine .inr λz=>?_;have b:a=S*T:=by omega
   rw[b,z] at i;have s:R*(T*T)=0:=by omega
   rcases Int.mul_eq_zero.1 s with k|k
   ·exact c k
   ·omega
  ·exact .inl (by omega)
def LI(f b:Int)(a:Nat):Nat:=(2*AF f-a+1+(if (b-(2*AF f-a+1))%2=0 then 0 else 1)).toNat
def eD(f e:Int)(c:Int)(a:Bool)(b:Int)(d:AB)(S:Int)(g:Bool):VY:=
 if a=true/\zB c d=false then(false,(3,0,{data:=#[]},1))
 else if c=2 then(a,(2,0,{data:=#[]},0))
 else(a,Al f e a (nt S) ((b-LI f b (dl d).length)/2) (!g) (b/2))
def XN(f a:Int)(b:Int)(c:Bool)(d:Int)(e:AB)(S:Int)(g:Bool):VY:=GF f a 1 (λ_=>b) (λ_=>c) (λ_=>d) (λ_=>e) (eD f a b c d e S g)
def n6(f:Int)(b:Int)(a:AB)(S:Int)(c:Bool):Prop:=0<=vl (dl a)->∃R,Rt (vl (dl a)*10^LI f b (dl a).length) S R/\decide (R=0)=c
theorem iz(f:Int)(g:Int)(d:AB):∃S i,n6 f g d S i:=by
 by_cases h:0<=vl (dl d)
 ·have j:0<=vl (dl d)*10^LI f g (dl d).length:=Int.mul_nonneg h (CP (AL _));obtain⟨S,R,e,a,b,c⟩:=U7 (vl (dl d)*10^LI f g (dl d).length).toNat;rw[show(((vl (dl d)*10^LI f g (dl d).length).toNat:Nat):Int)=vl (dl d)*10^LI f g (dl d).length by omega] at e;exact⟨S,decide (R=0),λ_=>⟨R,⟨e,a,b,c⟩,rfl⟩⟩
 ·exact⟨0,false,λc=>absurd c h⟩
theorem Pj(f:Int)(m:f=64\/f=128)(b:AG)(g:AJ b)(v:(b.length:Int)<=AF f)(d:Int)(S R:Int)(h:Rt (vl b*10^LI f d b.length) S R):
 Bp (vl b*10^LI f d b.length)/\Bp S/\Bp R/\S<10^((AF f).toNat+1)/\(vl b≠0->10^(AF f).toNat<=S)/\(vl b=0->S=0/\R=0)/\(d-LI f d b.length)%2=0:=by
 have w:1<=AF f/\AF f<=34:=by rcases m with rfl|rfl<;>decide
 have a:=AZ b g.1;have y:=g.2.1;obtain⟨k,i⟩:=zxe (LI f d b.length);have z:(b.length:Int)+k=2*AF f+1\/(b.length:Int)+k=2*AF f+2:=by rw[<-i];unfold LI;split<;>omega
 have n:(d-k)%2=0:=by rw[<-i];unfold LI;split<;>omega
 rw[i] at h ⊢;obtain⟨e,j,o,A⟩:=h;have p:=Int.mul_nonneg a.1 (CP (AL k));have B:vl b*10^k<10^(2*(AF f).toNat+2):=by
  have:=Int.mul_lt_mul_of_pos_right a.2 (AL k);rw[<-Cv] at this;exact FS this (AI _ _ (by omega))
 have C:=Int.mul_nonneg j j;have D:(10:Int)^(2*(AF f).toNat+2)=10^((AF f).toNat+1)*10^((AF f).toNat+1):=by rw[<-Cv];congr 1;omega
 have E:(10:Int)^(2*(AF f).toNat)=10^(AF f).toNat*10^(AF f).toNat:=by rw[<-Cv];congr 1;omega
 have r:S<10^((AF f).toNat+1):=by
  refine Int.not_le.1 λc=>?_;have q:=MT (CP (AL ((AF f).toNat+1))) c;omega
 have F:=AI (2*(AF f).toNat+2) 200 (by omega);have G:=AI ((AF f).toNat+1) 200 (by omega);refine⟨⟨p,by omega⟩,⟨j,by omega⟩,⟨o,by omega⟩,r,λl=>?_,λl=>?_,n⟩
 ·refine Int.not_lt.1 λc=>?_;have s:=EJ b g (λq=>l (by rw[q];rfl));have t:=If s (CP (AL k));rw[<-Cv] at t;have H:=AI (2*(AF f).toNat) (b.length-1+k) (by omega);have q:=MT (show 0<=S+1 by omega) (show S+1<=10^(AF f).toNat by omega);have x:(S+1)*(S+1)=S*S+2*S+1:=by grind
  omega
 ·rw[l,Int.zero_mul] at e;have u:S*S=0:=by omega
  rcases Int.mul_eq_zero.1 u with c|c<;>exact⟨c,by omega⟩
theorem iy(f o:Int)(s:f=64\/f=128)(neg:Bool)(b:AG)(p:AJ b)(z:(b.length:Int)<=AF f)(A:vl b≠0)(e:Int)(S R g i:Int)(h:Rt (vl b*10^LI f e b.length) S R)(l:Nat)(T:l=(AF f).toNat*2+6+(e-2*(e/2)).toNat)(m:Rt (vl b*10^l) g i):
 Al f o neg (nt g) (e/2-(AF f+3)) (!decide (i=0)) (e/2)=Al f o neg (nt S) ((e-LI f e b.length)/2) (!decide (R=0)) (e/2)/\Bp g/\Bp i:=by
 have U:1<=AF f/\AF f<=34:=by rcases s with rfl|rfl<;>decide
 obtain⟨B,C,V,D,E,-,F⟩:=Pj f s b p z e S R h;have W:=p.2.1;have a:=AZ b p.1;obtain⟨k,t⟩:=zxe (LI f e b.length);have X:(b.length:Int)+k=2*AF f+1\/(b.length:Int)+k=2*AF f+2:=by rw[<-t];unfold LI;split<;>omega
 rw[t] at h F B ⊢;obtain⟨j,G⟩:∃j:Nat,l=k+(j+j):=⟨(l-k)/2,by omega⟩;have H:vl b*10^l=vl b*10^k*(10^j*10^j):=by rw[G,Cv,Cv,<-Int.mul_assoc]
 rw[H] at m;obtain⟨I,Y,J,K⟩:=Ws S R _ (10^j) g i (AL j) h m;have u:=E A;have Z:1<=S:=Int.le_trans (by have:=AL (AF f).toNat;omega) u;have aa:g<10^((AF f).toNat+1+j):=by
  have x:(S+1)*10^j<=10^((AF f).toNat+1)*10^j:=If (by omega) (CP (AL j));rw[<-Cv,Int.add_mul,Int.one_mul] at x;omega
 have p9:=AI ((AF f).toNat+1+j) 100 (by omega);have p8:=AI 101 200 (by decide);have p7:=Int.pow_succ 10 100;have v:Bp g:=⟨m.2.1,by omega⟩;have L:Bp i:=⟨m.2.2.1,by have:=m.2.2.2;omega⟩;refine⟨?_,v,L⟩;obtain⟨q,n⟩:=Ae C;obtain⟨M,w⟩:=Ae v;have ae:0<g:=FS (Int.mul_pos (by omega) (AL j)) I;have y:nt S≠[0]:=λc=>by rw[c] at n;have:vl [0]=0:=rfl;omega
 have N:nt g≠[0]:=λc=>by rw[c] at w;have:vl [0]=0:=rfl;omega
 have l1:=Ox _ q (AF f).toNat (by rw[n];exact u);have l2:=Bu _ q ((AF f).toNat+1) (by omega) (by rw[n];exact D);have O:(e-(k:Int))/2-(j:Int)=e/2-(AF f+3):=by omega
 have P:=LZ (AF f).toNat (by omega) (AV f) (Ad f) o neg (nt S) (nt g) ((e-k)/2) (!decide (R=0)) (!decide (i=0)) (e/2) j (g-S*10^j) q y M (by rw[n,w];omega) (by omega) (by omega)
  (λc=>by
    have r:R≠0:=by simpa using c
    rcases K r with d|d
    ·exact .inl d
    ·exact .inr (by simpa using d))
  (λc=>by
    have r:R=0:=by simpa using c
    obtain⟨d1,Q⟩:=J r;exact⟨by omega,by rw[Q];rfl⟩) (by omega) (by omega)
 unfold Al;rw[zyn y,zyn N,P,O]
end Go.Proofs.YteofommckgeemaaGreatDoor
