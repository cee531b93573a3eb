/- Steps. -/
import Derived.Test.YteofommckgeemaaGreatDoorEAG
import Derived.Test.YteofommckgeemaaGreatDoorEAC
namespace Go.Proofs.YteofommckgeemaaGreatDoor
open Go.RowKit Go.Proofs.Tryz
set_option linter.unusedVariables false
set_option linter.unusedSimpArgs false
set_option maxRecDepth 100000
set_option maxHeartbeats 8000000
def N0(s b n:Nat)(neg:Bool)(a:Act):Prop:=∃c d e f g h i j k l m o p q r t u v w x y z A B C D E F G H I J K L M N O P Q R S T U V W X Y Z:AK,a={tmps:=#[.pointer (some ⟨b,0,none⟩),c,.pointer (some ⟨s,0,none⟩),d,.pointer (some ⟨s+1,0,none⟩),.pointer (some ⟨s+2,0,none⟩),.int .i64 (n:Int),.bool neg,e,f,g,h,i,j,k,l,m,o,p,q,r,t,u,v,w,x,y,z,A,B,C,D,E,F,G,H,I,J,K,L,M,N,O,P,Q,R,S,T,U,V,W,X,Y,Z],defers:=[]}
def jx(s:Nat)(W:AA):Prop:=W.heap[s]?=some (.cells #[.string ⟨#[]⟩,.int .i64 0] 192 (0,0))
def o0(s:Nat)(W:AA):Prop:=W.heap[s+2]?=some (.cells #[.slice none 0 0] 251 (0,0))
def fM(D:AG):Prop:=∀y∈D,48<=y/\y<=57
theorem fM.more{D:AG}{y:Int}(h:fM D)(b:48<=y/\y<=57):fM (D++[y]):=λz c=>by
 rcases List.mem_append.1 c with a|a
 ·exact h z a
 ·rw[List.mem_singleton.1 a];exact b
def UH(w0 W:AA)(B s a g b:Nat)(R D:AG):Prop:=
 Mh W B a g (s+1) (s+3) R b D/\jx s W/\o0 s W/\AD B w0 W/\(D.length<=b/\fM D/\a<s/\g<s/\B<=a)
def jy(w0 W:AA)(B s a g b:Nat)(R D c:AG):Prop:=
 (∃d,s+3<=d/\Mh W B a g (s+2) d R b c/\(∃v,W.cell? ⟨s+1,0,none⟩=some v/\W.ownsRow (s+3) 21 1 v D.length (D.map (Value.int .i32))/\∀k,v.ownBlock=some k->k<d))/\jx s W/\AD B w0 W/\(0<D.length/\D.length<=b/\c.length<=b/\fM D/\fM c/\a<s/\g<s/\B<=a)
def oG(w0 W:AA)(B s c g d:Nat)(R D a:AG):Prop:=
 Jh W c g R d/\(∃v b,W.cell? ⟨s+1,0,none⟩=some v/\W.ownsRow b 21 1 v D.length (D.map (Value.int .i32)))/\(∃v b,W.cell? ⟨s+2,0,none⟩=some v/\W.ownsRow b 21 1 v a.length (a.map (Value.int .i32)))/\jx s W/\AD B w0 W/\(0<D.length/\D.length<=1000/\a.length<=5/\fM D/\fM a/\B<=s/\s+2<W.heap.size)
def Ic(w0:AA)(B s c g:Nat)(R:AG)(X:Kh)(m:Nat):Nat->Act->AA->Prop
 |0,a,W=>∃b D,UH w0 W B s c g b R D/\X=Ch (R.drop b) D/\N0 s c 0 false a/\m=10*(R.length-b)+6
 |2,a,W=>∃b D n,UH w0 W B s c g b R D/\X=GA (R.drop b) D n/\n<=b/\N0 s c n false a/\m=10*(R.length-b)+5
 |1,a,W=>∃b D n,UH w0 W B s c g b R D/\X=Ba (R.drop b) D n/\n<=b/\N0 s c n false a/\m=10*(R.length-b)+4
 |5,a,W=>∃b D n neg d,jy w0 W B s c g b R D d/\X=CZ (R.drop b) D n neg d/\n<=b/\N0 s c n neg a/\m=10*(R.length-b)+3
 |4,a,W=>∃b D n neg d,oG w0 W B s c g b R D d/\X=Gh (R.drop b) D n neg d/\n<=1000/\N0 s c n neg a/\m=10*(R.length-b)+2
 |3,a,W=>∃b n neg,jx s W/\AD B w0 W/\B<=s/\X=none/\N0 s c n neg a/\m=10*(R.length-b)+1
 |_,_,_=>False
theorem Cl{R:AG}{a:Nat}(h:a<R.length):R.drop a=R.getD a 0::R.drop (a+1):=by
 rw[List.getD_eq_getElem?_getD,Dq h];exact List.drop_eq_getElem_cons h
theorem EE{R:AG}{a:Nat}(h:¬a<R.length):R.drop a=[]:=List.drop_eq_nil_iff.2 (by omega)
theorem Io{y:Int}(h:48<=y/\y<=57):K5 y=true:=Bz h
theorem IL{y:Int}(h:¬(48<=y/\y<=57)):K5 y=false:=By h
theorem ZZ{R:AG}{a:Nat}(D:AG)(h:a<R.length)(b:48<=R.getD a 0/\R.getD a 0<=57):Ch (R.drop a) D=Ch (R.drop (a+1)) (D++[R.getD a 0]):=by
 rw[Cl h];simp only[Ch,Io b,if_true]
theorem Za{R:AG}{a:Nat}(D:AG)(h:a<R.length)(b:R.getD a 0=46):Ch (R.drop a) D=GA (R.drop (a+1)) D 0:=by
 rw[Cl h,b];simp only[Ch,IL (show¬((48:Int)<=46/\(46:Int)<=57) by decide),Bool.false_eq_true,if_false,if_true]
theorem iJ{R:AG}{a:Nat}(D:AG)(h:¬(a<R.length/\48<=R.getD a 0/\R.getD a 0<=57))(c:a<R.length->R.getD a 0≠46):Ch (R.drop a) D=Ba (R.drop a) D 0:=by
 by_cases b:a<R.length
 ·rw[Cl b];simp only[Ch,IL (λq=>h ⟨b,q⟩),c b,Bool.false_eq_true,if_false]
 ·rw[EE b];rfl
theorem ZV{R:AG}{a:Nat}(D:AG)(n:Nat)(h:a<R.length)(b:48<=R.getD a 0/\R.getD a 0<=57):GA (R.drop a) D n=GA (R.drop (a+1)) (D++[R.getD a 0]) (n+1):=by
 rw[Cl h];simp only[GA,Io b,if_true]
theorem iC{R:AG}{a:Nat}(D:AG)(n:Nat)(h:¬(a<R.length/\48<=R.getD a 0/\R.getD a 0<=57)):GA (R.drop a) D n=Ba (R.drop a) D n:=by
 by_cases b:a<R.length
 ·rw[Cl b];simp only[GA,IL (λq=>h ⟨b,q⟩),Bool.false_eq_true,if_false]
 ·rw[EE b];rfl
theorem Nd(L:AG)(n:Nat):Ba L [] n=none:=by cases L<;>rfl
theorem Ux{R:AG}{a:Nat}{D:AG}(n:Nat)(b:D≠[])(h:a<R.length)(c:R.getD a 0=69\/R.getD a 0=101):Ba (R.drop a) D n=FB (R.drop (a+1)) D n:=by
 rw[Cl h];simp only[Ba,b,c,if_false,if_true]
theorem ZY{R:AG}{a:Nat}{D:AG}(n:Nat)(c:D≠[])(d:a<R.length->¬(R.getD a 0=69\/R.getD a 0=101)):Ba (R.drop a) D n=Gh (R.drop a) D n false []:=by
 by_cases b:a<R.length
 ·rw[Cl b];simp only[Ba,c,d b,if_false]
 ·rw[EE b];simp only[Ba,c,if_false]
theorem Uy(R:AG)(a:Nat)(D:AG)(n:Nat):FB (R.drop a) D n=CZ (R.drop (Ie R a)) D n (Kp R a) []:=by
 by_cases b:a<R.length
 ·rw[Cl b];by_cases d:R.getD a 0=43
  ·rw[show Ie R a=a+1 by unfold Ie;rw[zyp ⟨b,.inl d⟩],show Kp R a=false by unfold Kp;exact By (λq=>by omega)];simp only[FB,d,if_true]
  ·by_cases c:R.getD a 0=45
   ·rw[show Ie R a=a+1 by unfold Ie;rw[zyp ⟨b,.inr c⟩],show Kp R a=true by unfold Kp;exact Bz ⟨b,c⟩];simp only[FB,c,if_true,show¬((45:Int)=43) by decide,if_false]
   ·rw[show Ie R a=a by unfold Ie;rw[zyn (λq=>q.2.elim d c)],show Kp R a=false by unfold Kp;exact By (λq=>c q.2),Cl b];simp only[FB,d,c,if_false]
 ·rw[show Ie R a=a by unfold Ie;rw[zyn (λq=>b q.1)],show Kp R a=false by unfold Kp;exact By (λq=>b q.1),EE b];rfl
theorem J1(R:AG)(a:Nat):a<=Ie R a:=by unfold Ie;split<;>omega
theorem ZU{R:AG}{a:Nat}(D:AG)(n:Nat)(neg:Bool)(b:AG)(h:a<R.length)(c:48<=R.getD a 0/\R.getD a 0<=57):CZ (R.drop a) D n neg b=CZ (R.drop (a+1)) D n neg (b++[R.getD a 0]):=by
 rw[Cl h];simp only[CZ,Io c,if_true]
theorem hZ{R:AG}{a:Nat}(D:AG)(n:Nat)(neg:Bool)(c:AG)(h:¬(a<R.length/\48<=R.getD a 0/\R.getD a 0<=57)):CZ (R.drop a) D n neg c=Hu (R.drop a) D n neg c:=by
 by_cases b:a<R.length
 ·rw[Cl b];simp only[CZ,IL (λq=>h ⟨b,q⟩),Bool.false_eq_true,if_false]
 ·rw[EE b];rfl
theorem h7(L D:AG)(n:Nat)(neg:Bool)(a:AG)(h:a.length=0\/5<a.length):Hu L D n neg a=none:=by
 unfold Hu;rw[zyp (h.imp List.length_eq_zero_iff.1 id)]
theorem iA(L D:AG)(n:Nat)(neg:Bool)(a:AG)(h:¬a.length=0)(b:a.length<=5):Hu L D n neg a=Gh L D n neg a:=by
 unfold Hu;rw[zyn (λq=>q.elim (λe=>h (by rw[e];rfl)) (λe=>by omega))]
theorem ZR{R:AG}{a:Nat}(D:AG)(n:Nat)(neg:Bool)(b:AG)(h:¬a<R.length):Gh (R.drop a) D n neg b=some (D,n,neg,b):=by
 unfold Gh;rw[zyp (EE h)]
theorem g9{R:AG}{a:Nat}(D:AG)(n:Nat)(neg:Bool)(b:AG)(h:a<R.length):Gh (R.drop a) D n neg b=none:=by
 unfold Gh;rw[zyn (by rw[Cl h];exact List.cons_ne_nil _ _)]
theorem PF{w a:AA}{base:Nat}{e:TypeId}{b:Nat}{v:AK}{n:Nat}{xs:List AK}(h:w.ownsRow base e b v n xs)(c:∀k,v.ownBlock=some k->a.heap[k]?=w.heap[k]?):a.ownsRow base e b v n xs:=by
 obtain⟨d,h⟩:=h;refine⟨d,?_⟩;rcases h with h|⟨g,f,i,e,j,l,r⟩
 ·exact .inl h
 ·subst e;exact .inr ⟨g,f,i,rfl,j,by rw[c g rfl];exact l,r⟩
theorem eK{W b:AA}{B c g a base:Nat}{R:AG}{l f:Nat}{D:AG}(h:Mh W B c g a base R l D)(m:Jh b c g R f)(d:W.grownBy b (some c)):Mh b B c g a base R f D:=by
 obtain⟨z,⟨v,n,o⟩,p,⟨q,r,s,i,t,u,j,w,x⟩,y⟩:=h;have k:b.heap[a]?=W.heap[a]?:=d.block a (by omega) (λe=>j (Gy e).symm);exact⟨m,⟨v,(World.cell?_of_block k).trans n,PG o d i⟩,(World.frozen?_of_block k).trans p,⟨q,r,s,i,t,u,j,w,DT x d.size⟩,y⟩
theorem UK{W b:AA}{B c:Nat}(a:W.grownBy b (some c))(h:B<=c)(d:B<=W.heap.size):AD B W b:=
 ⟨a.os,a.tape,a.output,a.size,λk f=>a.block k (by omega) (λe=>by have g:=Gy e;omega)⟩
theorem eJ{W:AA}{B a g b base:Nat}{R:AG}{c:Nat}{D:AG}(h:Mh W B a g b base R c D):base<=W.heap.size:=h.2.2.2.1.2.2.2.2.2.2.2.2
theorem UH.took{w0 W c:AA}{B s a g f d:Nat}{R D:AG}(h:UH w0 W B s a g f R D)(k:Jh c a g R d)(b:W.grownBy c (some a))(t:f<=d):UH w0 c B s a g d R D:=by
 obtain⟨i,l,m,n,⟨u,o,p,q,j⟩⟩:=h;have v:=eJ i;exact⟨eK i k b,(b.block s (by omega) (λe=>by have r:=Gy e;omega)).trans l,(b.block (s+2) (by omega) (λe=>by have r:s+2=a:=Gy e;omega)).trans m,n.trans ((UK b j (by omega))),⟨by omega,o,p,q,j⟩⟩
theorem UH.grow{w0 W a:AA}{B s b g c:Nat}{R D:AG}{y:Int}(h:UH w0 W B s b g c R D)(e:Mh a B b g (s+1) (s+3) R (c+1) (D++[y]))(f:48<=y/\y<=57)(i:AD B W a)(d:∀k,k<s+3->k≠b->k≠s+1->a.heap[k]?=W.heap[k]?):UH w0 a B s b g (c+1) R (D++[y]):=by
 obtain⟨-,j,l,m,⟨r,n,o,p,q⟩⟩:=h;exact⟨e,(d s (by omega) (by omega) (by omega)).trans j,(d (s+2) (by omega) (by omega) (by omega)).trans l,m.trans i,⟨by rw[Dc,List.length_singleton];omega,n.more f,o,p,q⟩⟩
theorem PH{w:AA}{base:Nat}{e:TypeId}{b:Nat}{v:AK}{n:Nat}{xs:List AK}(h:w.ownsRow base e b v n xs):∀k,v.ownBlock=some k->base<=k/\k<w.heap.size:=λk a=>by
 rcases h.2 with⟨rfl,-⟩|⟨g,f,i,rfl,c,d,-⟩
 ·cases a
 ·obtain rfl:g=k:=by simpa[Value.ownBlock] using a
  exact⟨c,(Array.getElem?_eq_some_iff.1 d).1⟩
theorem LR{W:AA}{b:Nat}{v:AK}{t:TypeId}(h:W.heap[b]?=some (.cells #[v] t (0,0))):W.cell? ⟨b,0,none⟩=some v:=by unfold World.cell?;simp only[h];rfl
theorem OZ{W:AA}{b:Nat}{v:AK}{t:TypeId}(h:W.heap[b]?=some (.cells #[v] t (0,0))):W.frozen? ⟨b,0,none⟩=false:=by unfold World.frozen?;simp only[h];rfl
theorem UH.power{w0 W:AA}{B s a g b:Nat}{R D:AG}(h:UH w0 W B s a g b R D)(e:0<D.length):jy w0 W B s a g b R D []:=by
 obtain⟨f,i,c,j,⟨l,m,n,o,p⟩⟩:=h;obtain⟨q,⟨v,r,d⟩,z,⟨t,A,C,E,F,G,H,I,u⟩,J⟩:=f;refine⟨⟨W.heap.size,u,⟨q,⟨.slice none 0 0,LR c,⟨rfl,.inl ⟨rfl,rfl⟩⟩⟩,OZ c,⟨t,by omega,by omega,by omega,by omega,by omega,by omega,by omega,AS _⟩,by simp⟩,⟨v,r,d,λk w=>(PH d k w).2⟩⟩,i,j,⟨e,l,B9 _,m,(λy x=>by cases x),n,o,p⟩⟩
theorem jy.grow{w0 W b:AA}{B s c g d a:Nat}{R D e:AG}{y:Int}{v:AK}(h:jy w0 W B s c g d R D e)(l:s+3<=a)(m:W.cell? ⟨s+1,0,none⟩=some v)(i:W.ownsRow (s+3) 21 1 v D.length (D.map (Value.int .i32)))(j:∀k,v.ownBlock=some k->k<a)
 (n:Mh b B c g (s+2) a R (d+1) (e++[y])) (o:48<=y/\y<=57) (p:AD B W b) (f:∀k,k<a->k≠c->k≠s+2->b.heap[k]?=W.heap[k]?):jy w0 b B s c g (d+1) R D (e++[y]):=by
 obtain⟨-,r,t,⟨u,E,F,w,x,z,A,C⟩⟩:=h;refine⟨⟨a,l,n,⟨v,(World.cell?_of_block (f (s+1) (by omega) (by omega) (by omega))).trans m,PF i (λk q=>?_),j⟩⟩,(f s (by omega) (by omega) (by omega)).trans r,t.trans p,⟨u,by omega,by rw[Dc,List.length_singleton];omega,w,x.more o,z,A,C⟩⟩;have:=(PH i k q).1;exact f k (j k q) (by omega) (by omega)
theorem jy.done{w0 W:AA}{B s b g c:Nat}{R D a:AG}(h:jy w0 W B s b g c R D a)(e:a.length<=5):oG w0 W B s b g c R D a:=by
 obtain⟨⟨r,t,⟨d,⟨f,i,j⟩,-,⟨-,-,-,-,-,-,-,-,u⟩,w⟩,⟨v,k,l,-⟩⟩,m,n,⟨o,x,y,p,q,z,A,C⟩⟩:=h;have:=d.1;exact⟨d,⟨v,_,k,l⟩,⟨f,_,i,j⟩,m,n,⟨o,by omega,e,p,q,by omega,by omega⟩⟩
theorem UH.done{w0 W:AA}{B s a g b:Nat}{R D:AG}(h:UH w0 W B s a g b R D)(c:0<D.length):oG w0 W B s a g b R D []:=(h.power c).done (by simp)
def Gp(n:Nat)(neg:Bool)(P:AG):Int:=(if neg then -pe P else pe P)-(n:Int)
def Rs:Kh->AK
 |none=>.tuple #[.agg #[.string ⟨#[]⟩,.int .i64 0],.bool false]
 |some (D,n,neg,P)=>.tuple #[.agg #[.string (tx (AU (D.map (·-48)))),.int .i64 (Gp n neg P)],.bool true]
def et(w0:AA)(B:Nat)(X:Kh)(e:Ending)(a:AA):Prop:=e=.returned (Rs X)/\AD B w0 a
theorem KT{c:Func}{p t:Tmp}{b:Nat}{x y:AK}(h:c.results=#[.cell p 192,.tmp t])(a:Array AK)(w:AA)(d:a[p]?.getD undef=.pointer (some ⟨b,0,none⟩))(e:w.cell? ⟨b,0,none⟩=some x)(f:w.cell? ⟨b,1,none⟩=some y):(results c a).run prog w=.ok (.tuple #[.agg #[x,y],a.getD t undef]) w:=by
 simp[results,h,d,go_sem,e,f]
theorem J0{s:Nat}{W:AA}(h:jx s W):W.cell? ⟨s,0,none⟩=some (.string ⟨#[]⟩)/\W.cell? ⟨s,1,none⟩=some (.int .i64 0)/\W.frozen? ⟨s,0,none⟩=false/\W.frozen? ⟨s,1,none⟩=false:=by
 unfold jx at h;refine⟨?_,?_,?_,?_⟩
 ·unfold World.cell?;simp only[h];rfl
 ·unfold World.cell?;simp only[h];rfl
 ·unfold World.frozen?;simp only[h];rfl
 ·unfold World.frozen?;simp only[h];rfl
theorem ov(c:Code)(d:∃r,f228.body=some (.seq r (.scope c)))(X:Code)(e:findLabel c 3=some (Code.skip.seq X))(w0:AA)(B s f g:Nat)(R:AG)(Y:Kh)(M m:Nat)(p:m<=M)(a:Act)(W:AA)(h:Ic w0 B s f g R Y m 3 a W):
 X.wp prog (Ff (λq t u=>∃i,i<M/\Ic w0 B s f g R Y i q t u) (bodyPost prog f228 (et w0 B Y))) a W:=by
 obtain⟨A,n,neg,j,k,l,rfl,⟨C,D,E,F,G,H,I,J,K,L,N,O,P,Q,S,T,U,V,Z,aa,ab,ac,ad,ae,af,ag,ah,ai,aj,ak,al,am,an,ao,ap,aq,ar,au,av,aw,ax,ay,az,aA,aB,aC,aD,aE,rfl⟩,-⟩:=h;have v:=zq d;obtain⟨r,o⟩:=d;simp only[f228,Option.some.injEq,Code.seq.injEq,Code.scope.injEq] at o;obtain⟨-,rfl⟩:=o;simp only[findLabel,Nat.reduceBEq,Bool.false_eq_true,if_false,if_true,Cd,BEq.rfl,↓reduceIte,Option.some.injEq,Code.seq.injEq] at e;obtain⟨-,rfl⟩:=e;obtain⟨w,z,f0,f1⟩:=J0 j;have b:=Ab k l;clear j k l p v;go_wp2;refine Do (KT (x:=.string ⟨#[]⟩) (y:=.int .i64 0) rfl _ _ rfl ?_ ?_) rfl ?_
 ·rw[Fx _ _ _ _ (by simp)];exact World.cell?_setCell_same _ _ _ w
 ·exact World.cell?_setCell_same _ _ _ (by rw[Fx _ _ _ _ (by simp)];exact z)
 ·exact⟨rfl,(b.1.setCell b.2 _).setCell b.2 _⟩
theorem ow(c:Code)(hc:∃r,f228.body=some (.seq r (.scope c)))(X:Code)(hX:findLabel c 4=some (Code.skip.seq X))(w0:AA)(B s t g:Nat)(R:AG)(Y:Kh)(M m:Nat)(hM:m<=M)(a:Act)(W:AA)(h:Ic w0 B s t g R Y m 4 a W):
 X.wp prog (Ff (λl' a' j=>∃m',m'<M/\Ic w0 B s t g R Y m' l' a' j) (bodyPost prog f228 (et w0 B Y))) a W:=by
 obtain⟨l,D,n,neg,d,hN,F,hn,⟨u1,u3,u8,u9,a2,a3,a5,a6,a7,a8,a9,ba,bb,bc,be,bf,bg,bh,bi,bj,bk,bm,bo,bp,bq,br,bs,bt,bu,bv,bx,bB,bC,bD,bE,bF,bG,bH,bI,bJ,bK,bL,bM,bN,bO,bP,bQ,bR,rfl⟩,hm⟩:=h;have HC:=zq hc;obtain⟨r,hr⟩:=hc;simp only[f228,Option.some.injEq,Code.seq.injEq,Code.scope.injEq] at hr;obtain⟨-,rfl⟩:=hr;simp only[findLabel,Nat.reduceBEq,Bool.false_eq_true,if_false,if_true,Cd,BEq.rfl,↓reduceIte,Option.some.injEq,Code.seq.injEq] at hX;obtain⟨-,rfl⟩:=hX;obtain⟨hR,⟨v,b1,hv,G⟩,⟨H,b2,am,I⟩,u,J,⟨w,A,Q,S,K,L,q7⟩⟩:=hN;obtain⟨⟨h1,h3⟩,⟨⟨o,cp,aq,-,-⟩,-⟩,-⟩:=hR;by_cases N:l<R.length
 ·have HJ:Hid (∀a,N0 s t n neg a->Ic w0 B s t g R Y (10*(R.length-l)+1) 3 a W):=λa ha=>⟨l,n,neg,u,J,L,by rw[F,g9 _ _ _ _ N],ha,rfl⟩;have HM:Hid (10*(R.length-l)+1<=M):=by show _<=_;omega
  obtain⟨z,hz⟩:∃z,R.length-l=z+1:=⟨R.length-l-1,by omega⟩;rw[hz] at aq;have bT:z<=1000:=by omega
  clear u J F w A Q S K L q7 hv G am I hm hM h1 h3 N hn;clear hz;go_wp2;refine wp_label ?_;go_step;go_step;refine ov _ HC _ (by(simp only[findLabel,Nat.reduceBEq,Bool.false_eq_true,if_false,if_true,Cd,BEq.rfl,↓reduceIte])<;>rfl) w0 B s t g R Y M _ HM _ W (HJ _ ?_);iterate 48 apply Exists.intro
  exact rfl
 ·have e0:R.length-l=0:=by omega
  rw[e0] at aq;rw[ZR _ _ _ _ N] at F;subst F;obtain⟨d0,d1,f0,f1⟩:=J0 u;have aP:s<W.heap.size:=by omega
  have HA:=zq u;have E:=J9 J L aP;have U:Hid (∀b,AD W.heap.size W b->cE 269 #[.bool neg,H] b (.int .i64 (if neg then -pe d else pe d))):=λb f=>LX neg H d b2 b (PF I (λk Z=>f.block k (PH I k Z).2)) K Q;have aQ:=Ra d K;have aR:(10:Int)^d.length<=10^5:=by
   have:=Nat.pow_le_pow_right (show 0<10 by decide) Q
   exact_mod_cast this
  obtain⟨i,O⟩:=zxe (if neg then -pe d else pe d);have bU:-100000<=i/\i<=100000:=by
   rw[<-O];split<;>omega
  have ay:Gp n neg d=i-(n:Int):=by unfold Gp;rw[O]
  rw[O] at U;have aa:Hid (∀b,AD W.heap.size W b->cB 268 #[v,.int .i64 (i-(n:Int))] b (.agg #[.string (tx (AU (D.map (·-48)))),.int .i64 (i-(n:Int))])):=λb f=>Pf v D b1 (i-(n:Int)) b (PF G (λk Z=>f.block k (PH G k Z).2)) S A w;have az:∀b,AD W.heap.size W b->b.cell? ⟨s+1,0,none⟩=some v:=λb f=>(f.cell (p:=⟨s+1,0,none⟩) (by show s+1<_;omega)).trans hv;have aA:∀b,AD W.heap.size W b->b.cell? ⟨s+2,0,none⟩=some H:=λb f=>(f.cell (p:=⟨s+2,0,none⟩) (by show s+2<_;omega)).trans am;have HL:Hid (∀b,AD W.heap.size W b->b.cell? ⟨s+1,0,none⟩=some v/\b.cell? ⟨s+2,0,none⟩=some H):=λb f=>⟨az b f,aA b f⟩;have wk:=zw (i-(n:Int)) (by omega);have HQ:Hid (Rs (some (D,n,neg,d))=.tuple #[.agg #[.string (tx (AU (D.map (·-48)))),.int .i64 (i-(n:Int))],.bool true]):=congrArg (λz=>Value.tuple #[Value.agg #[.string (tx (AU (D.map (·-48)))),.int .i64 z],.bool true]) ay;obtain⟨T,hT⟩:=zxe (tx (AU (D.map (·-48))));rw[hT] at aa HQ;generalize hV:Rs (some (D,n,neg,d))=V at*
  have HV:Hid (∀e j,e=.returned V->AD B w0 j->et w0 B (some (D,n,neg,d)) e j):=λe j w A=>⟨by rw[w];exact congrArg _ hV.symm,A⟩;clear ay aQ aR O az aA u J w A S K L q7 G I hm hM h1 h3 N hn e0;go_upto_region 13 with fail;have aC:=dR W;refine AM (C:=λW'=>AD W.heap.size W W') 7 aC ?_;simp only[Hy,List.take_zero,Ia,List.drop_zero];repeat (go_big_quiet_step ((intro q;rename_i P;first|exact rfl|((with_reducible refine(U.out P q).mono ?_);rintro e j ⟨rfl,rfl⟩;exact⟨rfl,q⟩)|((with_reducible refine(aa.out P q).mono ?_);rintro e j ⟨rfl,hb⟩;exact⟨rfl,q.trans (hb.mono q.size)⟩)|(have k1:=(HL.out P q).1;have k2:=(HL.out P q).2;go_simp;exact rfl))))
  refine wpQuiet_nil ?_;intro w1 ac;have ad:=Ab (E.1.trans (ac.mono (by have:=E.out;omega))) E.2.1;obtain⟨d0,d1,f0,f1⟩:=J0 (show jx s w1 from(ac.block s E.2.2).trans HA);clear ac aC E U aa HL HA;go_wp2;refine Do (KT (x:=.string T) (y:=.int .i64 (i-(n:Int))) rfl _ _ rfl ?_ ?_) rfl ?_
  ·rw[Fx _ _ _ _ (by simp)];exact World.cell?_setCell_same _ _ _ d0
  ·exact World.cell?_setCell_same _ _ _ (by rw[Fx _ _ _ _ (by simp)];exact d1)
  ·exact HV _ _ (by rw[HQ];rfl) ((ad.1.setCell ad.2 _).setCell ad.2 _)
theorem oV(c:Code)(hc:∃r,f228.body=some (.seq r (.scope c)))(X:Code)(hX:findLabel c 5=some (Code.skip.seq X))(w0:AA)(B s d g:Nat)(R:AG)(Y:Kh)(M m:Nat)(S:m<=M)(a:Act)(W:AA)(h:Ic w0 B s d g R Y m 5 a W):
 X.wp prog (Ff (λl' a' w=>∃j,j<M/\Ic w0 B s d g R Y j l' a' w) (bodyPost prog f228 (et w0 B Y))) a W:=by
 obtain⟨b,D,n,neg,f,hE,x,T,⟨u1,u3,u8,u9,aF,aG,aH,aI,aJ,aK,aL,aM,aN,aO,aP,aQ,aR,aS,aT,aU,aV,aW,aX,aY,aZ,a0,a1,a2,a3,a5,a6,a7,a8,a9,ba,bb,bc,be,bf,bg,bh,bi,bj,bk,bm,bo,bp,bq,rfl⟩,U⟩:=h;have V:=zq hc;obtain⟨r,hr⟩:=hc;simp only[f228,Option.some.injEq,Code.seq.injEq,Code.scope.injEq] at hr;obtain⟨-,rfl⟩:=hr;simp only[findLabel,Nat.reduceBEq,Bool.false_eq_true,if_false,if_true,Cd,BEq.rfl,↓reduceIte,Option.some.injEq,Code.seq.injEq] at hX;obtain⟨-,rfl⟩:=hX;have p:=zq hE;obtain⟨⟨q,C,t,⟨v,E,F,G⟩⟩,H,I,⟨Z,q2,q3,q4,q5,q6,q7,q8⟩⟩:=hE;by_cases i:b<R.length/\48<=R.getD b 0/\R.getD b 0<=57
 ·have J:R.length<=1000:=t.1.1.2;have u:Hid (Calls prog 267 #[.pointer (some ⟨d,0,none⟩),.pointer (some ⟨s+2,0,none⟩)] W λe w=>e=.returned (.bool true)/\Mh w B d g (s+2) q R (b+1) (f++[R.getD b 0])/\AD B W w/\∀k,k<q->k≠d->k≠s+2->w.heap[k]?=W.heap[k]?):=ES B d g (s+2) q R b f W t i.1 _ rfl i.2 (by omega);have o:Hid (∀y,Mh y B d g (s+2) q R (b+1) (f++[R.getD b 0])->AD B W y->(∀k,k<q->k≠d->k≠s+2->y.heap[k]?=W.heap[k]?)->∀a,N0 s d n neg a->∃j,j<M/\Ic w0 B s d g R Y j 5 a y):=λy K L N a z=>
   ⟨10*(R.length-(b+1))+3,by omega,b+1,D,n,neg,f++[R.getD b 0],p.grow C E F G K i.2 L N,by rw[x,ZU _ _ _ _ i.1 i.2],by omega,z,rfl⟩
  clear t E F G H I Z q2 q3 q4 q5 q6 q7 q8 x T U S J p i C V;go_wp2_with fail;refine u.mono ?_;rintro e O ⟨rfl,K,L,N⟩;have an:=o O K L N;have ar:=zq an;clear an o K L N u;go_wp2;refine wp_goto ?_;try simp only[Exit.then,Ff]
  refine ar _ ?_;iterate 48 apply Exists.intro
  exact rfl
 ·have u:=zq (Ep B d g (s+2) q R b f W t i);have P:Y=Hu (R.drop b) D n neg f:=by rw[x,hZ _ _ _ _ i]
  have au:f.length<=1000:=by have:=t.1.1;omega
  obtain⟨-,⟨v2,av,ah⟩,-⟩:=t;obtain⟨pa,pc,rfl,-⟩:=JH ah;by_cases Q:f.length=0\/5<f.length
  ·have o:Hid (∀a,N0 s d n neg a->∃j,j<M/\Ic w0 B s d g R Y j 3 a W):=λa z=>⟨10*(R.length-b)+1,by omega,b,n,neg,H,I,by omega,by rw[P,h7 _ _ _ _ _ Q],z,rfl⟩;generalize f.length=l at*
   clear E F ah G H I Z q2 q3 q4 q5 q6 q7 q8 x P T U S p i C V;rcases Nat.eq_zero_or_pos l with rfl|hp
   ·clear Q;go_wp2_with fail;refine cm u λO A=>?_;subst A;go_wp2;refine wp_goto ?_;try simp only[Exit.then,Ff]
    refine o _ ?_;iterate 48 apply Exists.intro
    exact rfl
   ·have ax:5<(l:Int):=by omega
    have ay:((l:Int)==0)=false:=beq_eq_false_iff_ne.2 (by omega);have bu:¬(l:Int)=0:=by omega
    clear Q hp;go_wp2_with fail;refine cm u λO A=>?_;subst A;go_wp2;refine wp_goto ?_;try simp only[Exit.then,Ff]
    refine o _ ?_;iterate 48 apply Exists.intro
    exact rfl
  ·obtain⟨h5,h0⟩:f.length<=5/\¬f.length=0:=by omega
   have o:Hid (∀a,N0 s d n neg a->Ic w0 B s d g R Y (10*(R.length-b)+2) 4 a W):=λa z=>⟨b,D,n,neg,f,p.done h5,by rw[P,iA _ _ _ _ _ h0 h5],by have:=p.1;obtain⟨_,_,az,_⟩:=this;have:=az.1.1;omega,z,rfl⟩;have HM:Hid (10*(R.length-b)+2<=M):=by show _<=_;omega
   obtain⟨l,J⟩:∃l,f.length=l+1:=⟨f.length-1,by omega⟩;rw[J] at av h5;have ax:¬5<((l:Int)+1):=by omega
   have ay:(((l:Int)+1)==0)=false:=beq_eq_false_iff_ne.2 (by omega);clear E F ah G H I Z q2 q3 q4 q5 q6 q7 q8 x P T U S p i C Q h0 au J;go_wp2_with fail;refine cm u λO A=>?_;subst A;go_wp2;refine wp_label ?_;go_step;go_step;refine ow _ V _ (by(simp only[findLabel,Nat.reduceBEq,Bool.false_eq_true,if_false,if_true,Cd,BEq.rfl,↓reduceIte])<;>rfl) w0 B s d g R Y M _ HM _ _ (o _ ?_);iterate 48 apply Exists.intro
   exact rfl
theorem ot(c:Code)(hc:∃r,f228.body=some (.seq r (.scope c)))(X:Code)(hX:findLabel c 1=some (Code.skip.seq X))(w0:AA)(B s d g:Nat)(R:AG)(Y:Kh)(M m:Nat)(hM:m<=M)(a:Act)(W:AA)(h:Ic w0 B s d g R Y m 1 a W):
 X.wp prog (Ff (λl' a' G=>∃t,t<M/\Ic w0 B s d g R Y t l' a' G) (bodyPost prog f228 (et w0 B Y))) a W:=by
 obtain⟨b,D,n,hD,P,U,⟨u1,u3,u8,u9,aE,aF,aG,aH,aI,aJ,aK,aL,aM,aN,aO,aP,aQ,aR,aS,aT,aU,aV,aW,aX,aY,aZ,a0,a1,a2,a3,a5,a6,a7,a8,a9,ba,bb,bc,be,bf,bg,bh,bi,bj,bk,bm,bo,bp,rfl⟩,hm⟩:=h;have Q:=zq hc;obtain⟨r,hr⟩:=hc;simp only[f228,Option.some.injEq,Code.seq.injEq,Code.scope.injEq] at hr;obtain⟨-,rfl⟩:=hr;simp only[findLabel,Nat.reduceBEq,Bool.false_eq_true,if_false,if_true,Cd,BEq.rfl,↓reduceIte,Option.some.injEq,Code.seq.injEq] at hX;obtain⟨-,rfl⟩:=hX;have u:=zq hD;obtain⟨hT,V,hP,Z,⟨q1,q2,q3,q4,q5⟩⟩:=hD;have S:=hT.1;obtain⟨-,⟨v,hv,aa⟩,-⟩:=hT;obtain⟨va,vc,rfl,-⟩:=JH aa;have av:b<=R.length/\R.length<=1000:=S.1;by_cases T:D=[]
 ·subst T;have i:Hid (∀a,N0 s d n false a->∃t,t<M/\Ic w0 B s d g R Y t 3 a W):=λa w=>⟨10*(R.length-b)+1,by omega,b,n,false,V,Z,by omega,by rw[P,Nd],w,rfl⟩;rw[List.length_nil] at hv;clear aa V Z hP q1 q2 q3 q4 q5 P U hm hM u Q S av;go_wp2;refine wp_goto ?_;try simp only[Exit.then,Ff]
  refine i _ ?_;iterate 48 apply Exists.intro
  exact rfl
 ·have y:=zq (List.length_pos_iff.2 T);have C:=zq T;have E:=zq P;have j:Hid (n<=b/\(M>=10*(R.length-b)+4/\b<=1000)):=⟨U,by omega,by omega⟩;have H:Hid (∀x,Calls prog 264 #[.pointer (some ⟨d,0,none⟩),.int .i32 x] W λe G=>(b<R.length/\R.getD b 0=x/\e=.returned (.bool true)/\Jh G d g R (b+1)/\W.grownBy G (some d))\/((b<R.length->R.getD b 0≠x)/\e=.returned (.bool false)/\G=W)):=λx=>J5 d g R b x W S;obtain⟨l,hl⟩:∃l,D.length=l+1:=⟨D.length-1,by have:=y.out;omega⟩;rw[hl] at hv;have bs:(((l:Int)+1)==0)=false:=beq_eq_false_iff_ne.2 (by omega);have bt:l<=1000:=by omega
  clear aa V Z hP q1 q2 q3 q4 q5 P U hm hM T hl S av;go_wp2_with fail;refine(H 69).mono ?_;rintro e F (⟨f,I,rfl,A,J⟩|⟨f,rfl,hw⟩)
  ·have K:=zq (u.took A J (by omega));have L:R.getD b 0=69\/R.getD b 0=101:=.inl I;have N:=zq (Eq d g R (b+1) F A);have i:Hid (∀k,Jh k d g R (Ie R (b+1))->F.grownBy k (some d)->∀a,N0 s d n (Kp R (b+1)) a->Ic w0 B s d g R Y (10*(R.length-Ie R (b+1))+3) 5 a k):=λk o p a w=>⟨Ie R (b+1),D,n,Kp R (b+1),[],(K.took o p (J1 _ _)).power y,by rw[E,Ux n C.out f L,Uy],by have:=J1 R (b+1);have:=j.1;omega,w,rfl⟩;have HM:Hid (10*(R.length-Ie R (b+1))+3<=M):=by show _<=_;have:=J1 R (b+1);have:=j.2;omega
   clear L f I A J H K u y C E j;generalize Kp R (b+1)=nb at*
   go_wp2_with fail;refine N.mono ?_;rintro e w2 ⟨rfl,o,p⟩;have O:=i w2 o p;have ad:=zq O;clear o p O i N;go_wp2;refine wp_label ?_;go_step;go_step;refine oV _ Q _ (by(simp only[findLabel,Nat.reduceBEq,Bool.false_eq_true,if_false,if_true,Cd,BEq.rfl,↓reduceIte])<;>rfl) w0 B s d g R Y M _ HM _ _ (ad _ ?_);iterate 48 apply Exists.intro
   exact rfl
  ·subst hw;have ae:=zq f;clear f;go_wp2_with fail;refine(H 101).mono ?_;rintro e F (⟨f,I,rfl,A,J⟩|⟨f,rfl,hw⟩)
   ·clear ae;have K:=zq (u.took A J (by omega));have L:R.getD b 0=69\/R.getD b 0=101:=.inr I;have N:=zq (Eq d g R (b+1) F A);have i:Hid (∀k,Jh k d g R (Ie R (b+1))->F.grownBy k (some d)->∀a,N0 s d n (Kp R (b+1)) a->Ic w0 B s d g R Y (10*(R.length-Ie R (b+1))+3) 5 a k):=λk o p a w=>⟨Ie R (b+1),D,n,Kp R (b+1),[],(K.took o p (J1 _ _)).power y,by rw[E,Ux n C.out f L,Uy],by have:=J1 R (b+1);have:=j.1;omega,w,rfl⟩;have HM:Hid (10*(R.length-Ie R (b+1))+3<=M):=by show _<=_;have:=J1 R (b+1);have:=j.2;omega
    clear L f I A J H K u y C E j;generalize Kp R (b+1)=nb at*
    go_wp2_with fail;refine N.mono ?_;rintro e w2 ⟨rfl,o,p⟩;have O:=i w2 o p;have ad:=zq O;clear o p O i N;go_wp2;refine wp_label ?_;go_step;go_step;refine oV _ Q _ (by(simp only[findLabel,Nat.reduceBEq,Bool.false_eq_true,if_false,if_true,Cd,BEq.rfl,↓reduceIte])<;>rfl) w0 B s d g R Y M _ HM _ _ (ad _ ?_);iterate 48 apply Exists.intro
    exact rfl
   ·subst hw;have i:Hid (∀a,N0 s d n false a->∃t,t<M/\Ic w0 B s d g R Y t 4 a F):=λa w=>⟨10*(R.length-b)+2,by have:=j.out;omega,b,D,n,false,[],u.done y,by rw[E,ZY n C.out (λz=>λq=>q.elim (ae.out z) (f z))],by have:=j.out;omega,w,rfl⟩;clear H u y C E j ae f Q;go_wp2;refine wp_goto ?_;try simp only[Exit.then,Ff]
    refine i _ ?_;iterate 48 apply Exists.intro
    exact rfl
theorem ou(c:Code)(C:∃r,f228.body=some (.seq r (.scope c)))(X:Code)(E:findLabel c 2=some (Code.skip.seq X))(w0:AA)(B s d g:Nat)(R:AG)(Y:Kh)(M m:Nat)(F:m<=M)(a:Act)(W:AA)(h:Ic w0 B s d g R Y m 2 a W):
 X.wp prog (Ff (λl' a' i=>∃j,j<M/\Ic w0 B s d g R Y j l' a' i) (bodyPost prog f228 (et w0 B Y))) a W:=by
 obtain⟨b,D,n,G,p,y,⟨u1,u3,u8,u9,aj,ak,al,am,an,ao,ap,aq,ar,au,av,aw,ax,ay,az,aA,aB,aC,aD,aE,aF,aG,aH,aI,aJ,aK,aL,aM,aN,aO,aP,aQ,aR,aS,aT,aU,aV,aW,aX,aY,aZ,a0,a1,a2,rfl⟩,H⟩:=h;have I:=zq C;obtain⟨r,J⟩:=C;simp only[f228,Option.some.injEq,Code.seq.injEq,Code.scope.injEq] at J;obtain⟨-,rfl⟩:=J;simp only[findLabel,Nat.reduceBEq,Bool.false_eq_true,if_false,if_true,Cd,BEq.rfl,↓reduceIte,Option.some.injEq,Code.seq.injEq] at E;obtain⟨-,rfl⟩:=E;have q:=zq G;obtain⟨l,K,L,N,⟨O,P,Q,S,T⟩⟩:=G;have z:=l.1;have U:b<=R.length/\R.length<=1000:=z.1;by_cases f:b<R.length/\48<=R.getD b 0/\R.getD b 0<=57
 ·have t:Hid (Calls prog 267 #[.pointer (some ⟨d,0,none⟩),.pointer (some ⟨s+1,0,none⟩)] W λe i=>e=.returned (.bool true)/\Mh i B d g (s+1) (s+3) R (b+1) (D++[R.getD b 0])/\AD B W i/\∀k,k<s+3->k≠d->k≠s+1->i.heap[k]?=W.heap[k]?):=ES B d g (s+1) (s+3) R b D W l f.1 _ rfl f.2 (by omega);have u:Hid (∀o,Mh o B d g (s+1) (s+3) R (b+1) (D++[R.getD b 0])->AD B W o->(∀k,k<s+3->k≠d->k≠s+1->o.heap[k]?=W.heap[k]?)->∀a,N0 s d (n+1) false a->∃j,j<M/\Ic w0 B s d g R Y j 2 a o):=λo v w x a A=>
   ⟨10*(R.length-(b+1))+5,by omega,b+1,D++[R.getD b 0],n+1,q.grow v f.2 w x,by rw[p,ZV _ _ f.1 f.2],by omega,A,rfl⟩
  have wn:=zw ((n:Int)+1) (by omega);clear l K N L O P Q S T p H F q f I z U y;go_wp2_with fail;refine t.mono ?_;rintro e V ⟨rfl,v,w,x⟩;have Z:=u V v w x;have ac:=zq Z;clear Z u v w x t;go_wp2;refine wp_goto ?_;try simp only[Exit.then,Ff]
  refine ac _ ?_;iterate 48 apply Exists.intro
  exact rfl
 ·have t:=zq (Ep B d g (s+1) (s+3) R b D W l f);have u:Hid (∀a,N0 s d n false a->Ic w0 B s d g R Y (10*(R.length-b)+4) 1 a W):=λa A=>⟨b,D,n,q,by rw[p,iC _ _ f],y,A,rfl⟩;have HM:Hid (10*(R.length-b)+4<=M):=by show _<=_;omega
  clear l K N L O P Q S T p H F q f z U y;go_wp2_with fail;refine cm t λV hw=>?_;subst hw;go_wp2;refine wp_label ?_;go_step;go_step;refine ot _ I _ (by(simp only[findLabel,Nat.reduceBEq,Bool.false_eq_true,if_false,if_true,Cd,BEq.rfl,↓reduceIte])<;>rfl) w0 B s d g R Y M _ HM _ _ (u _ ?_);iterate 48 apply Exists.intro
  exact rfl
theorem oq(c:Code)(G:∃r,f228.body=some (.seq r (.scope c)))(X:Code)(H:findLabel c 0=some (Code.skip.seq X))(w0:AA)(B s d g:Nat)(R:AG)(Y:Kh)(M m:Nat)(I:m<=M)(a:Act)(W:AA)(h:Ic w0 B s d g R Y m 0 a W):
 X.wp prog (Ff (λl' a' i=>∃l,l<M/\Ic w0 B s d g R Y l l' a' i) (bodyPost prog f228 (et w0 B Y))) a W:=by
 obtain⟨b,D,J,y,⟨u1,u3,u8,u9,an,ao,ap,aq,ar,au,av,aw,ax,ay,az,aA,aB,aC,aD,aE,aF,aG,aH,aI,aJ,aK,aL,aM,aN,aO,aP,aQ,aR,aS,aT,aU,aV,aW,aX,aY,aZ,a0,a1,a2,a3,a5,a6,a7,rfl⟩,K⟩:=h;have C:=zq G;obtain⟨r,L⟩:=G;simp only[f228,Option.some.injEq,Code.seq.injEq,Code.scope.injEq] at L;obtain⟨-,rfl⟩:=L;simp only[findLabel,Nat.reduceBEq,Bool.false_eq_true,if_false,if_true,Cd,BEq.rfl,↓reduceIte,Option.some.injEq,Code.seq.injEq] at H;obtain⟨-,rfl⟩:=H;have p:=zq J;obtain⟨u,N,O,P,⟨Q,S,T,U,V⟩⟩:=J;have z:=u.1;have Z:b<=R.length/\R.length<=1000:=z.1;by_cases j:b<R.length/\48<=R.getD b 0/\R.getD b 0<=57
 ·have q:Hid (Calls prog 267 #[.pointer (some ⟨d,0,none⟩),.pointer (some ⟨s+1,0,none⟩)] W λe i=>e=.returned (.bool true)/\Mh i B d g (s+1) (s+3) R (b+1) (D++[R.getD b 0])/\AD B W i/\∀k,k<s+3->k≠d->k≠s+1->i.heap[k]?=W.heap[k]?):=ES B d g (s+1) (s+3) R b D W u j.1 _ rfl j.2 (by omega);have t:Hid (∀v,Mh v B d g (s+1) (s+3) R (b+1) (D++[R.getD b 0])->AD B W v->(∀k,k<s+3->k≠d->k≠s+1->v.heap[k]?=W.heap[k]?)->∀a,N0 s d 0 false a->∃l,l<M/\Ic w0 B s d g R Y l 0 a v):=λv f n A a w=>
   ⟨10*(R.length-(b+1))+6,by omega,b+1,D++[R.getD b 0],p.grow f j.2 n A,by rw[y,ZZ _ j.1 j.2],w,rfl⟩
  clear u N P O Q S T U V y K I p j C z Z;go_wp2_with fail;refine q.mono ?_;rintro e w1 ⟨rfl,f,n,A⟩;have ab:=t w1 f n A;have ah:=zq ab;clear ab t f n A q;go_wp2;refine wp_goto ?_;try simp only[Exit.then,Ff]
  refine ah _ ?_;iterate 48 apply Exists.intro
  exact rfl
 ·have q:=zq (Ep B d g (s+1) (s+3) R b D W u j);have E:Hid (∀x,Calls prog 264 #[.pointer (some ⟨d,0,none⟩),.int .i32 x] W λe i=>(b<R.length/\R.getD b 0=x/\e=.returned (.bool true)/\Jh i d g R (b+1)/\W.grownBy i (some d))\/((b<R.length->R.getD b 0≠x)/\e=.returned (.bool false)/\i=W)):=λx=>J5 d g R b x W z;have o:Hid (Y=Ch (R.drop b) D/\¬(b<R.length/\48<=R.getD b 0/\R.getD b 0<=57)/\10*(R.length-b)+6<=M):=⟨y,j,by omega⟩;clear u N P O Q S T U V y K I j z Z;go_wp2_with fail;refine cm q λw1 F=>?_;subst F;go_wp2_with fail;refine(E 46).mono ?_;rintro e w2 (⟨f,n,rfl,p4,p5⟩|⟨f,rfl,F⟩)
  ·have t:Hid (∀a,N0 s d 0 false a->Ic w0 B s d g R Y (10*(R.length-(b+1))+5) 2 a w2):=λa w=>⟨b+1,D,0,p.took p4 p5 (by omega),by rw[o.out.1,Za _ f n],by omega,w,rfl⟩;have HM:Hid (10*(R.length-(b+1))+5<=M):=by show _<=_;have:=o.out;omega
   clear E q p o f n p4 p5;go_wp2;refine wp_label ?_;go_step;go_step;refine ou _ C _ (by(simp only[findLabel,Nat.reduceBEq,Bool.false_eq_true,if_false,if_true,Cd,BEq.rfl,↓reduceIte])<;>rfl) w0 B s d g R Y M _ HM _ _ (t _ ?_);iterate 48 apply Exists.intro
   exact rfl
  ·subst F;have t:Hid (∀a,N0 s d 0 false a->∃l,l<M/\Ic w0 B s d g R Y l 1 a w2):=λa w=>⟨10*(R.length-b)+4,by have:=o.out;omega,b,D,0,p,by rw[o.out.1,iJ _ o.out.2.1 f],by omega,w,rfl⟩;clear E q p o f C;go_wp2;refine wp_goto ?_;try simp only[Exit.then,Ff]
   exact t _ ⟨_,_,_,_,_,_,_,_,_,_,_,_,_,_,_,_,_,_,_,_,_,_,_,_,_,_,_,_,_,_,_,_,_,_,_,_,_,_,_,_,_,_,_,_,_,_,_,_,rfl⟩
theorem Nq(c:Code)(b:∃r,f228.body=some (.seq r (.scope c))):∀l,l<=5->∃X,findLabel c l=some (Code.skip.seq X):=by
 obtain⟨r,a⟩:=b;simp only[f228,Option.some.injEq,Code.seq.injEq,Code.scope.injEq] at a;obtain⟨-,rfl⟩:=a;intro l d;rcases(show l=0\/l=1\/l=2\/l=3\/l=4\/l=5 by omega) with rfl|rfl|rfl|rfl|rfl|rfl<;>exact⟨_,by(simp only[findLabel,Nat.reduceBEq,Bool.false_eq_true,if_false,if_true,Cd,BEq.rfl,↓reduceIte])<;>rfl⟩
theorem ji{w0:AA}{B s c g:Nat}{R:AG}{Y:Kh}{m l:Nat}{a:Act}{W:AA}(h:Ic w0 B s c g R Y m l a W):l<=5:=by
 rcases Nat.lt_or_ge 5 l with b|b
 ·obtain⟨k,rfl⟩:∃k,l=k+6:=⟨l-6,by omega⟩;exact absurd h (by unfold Ic;exact id)
 ·exact b
theorem ie(c:Code)(d:∃r,f228.body=some (.seq r (.scope c)))(w0:AA)(B s b g:Nat)(R:AG)(Y:Kh)(m l:Nat)(a:Act)(W:AA)(h:Ic w0 B s b g R Y m l a W):
 ((findLabel c l).getD .skip).wp prog (Ff (λi j k=>∃f,f<m/\Ic w0 B s b g R Y f i j k) (bodyPost prog f228 (et w0 B Y))) a W:=by
 have n:=ji h;obtain⟨X,e⟩:=Nq c d l n;rw[e,Cd];refine wp_seq (wp_skip ?_);show X.wp _ _ _ _
 rcases(show l=0\/l=1\/l=2\/l=3\/l=4\/l=5 by omega) with rfl|rfl|rfl|rfl|rfl|rfl
 ·exact oq c d X e w0 B s b g R Y m m (AS _) a W h
 ·exact ot c d X e w0 B s b g R Y m m (AS _) a W h
 ·exact ou c d X e w0 B s b g R Y m m (AS _) a W h
 ·exact ov c d X e w0 B s b g R Y m m (AS _) a W h
 ·exact ow c d X e w0 B s b g R Y m m (AS _) a W h
 ·exact oV c d X e w0 B s b g R Y m m (AS _) a W h
theorem Z1(B c g e:Nat)(R:AG)(w:AA)(h:Jh w c g R e)(f:B<=c):
 UH w (((w.alloc (.cells #[.string ⟨#[]⟩,.int .i64 0] 192)).alloc (.cells #[.slice none 0 0] 251)).alloc (.cells #[.slice none 0 0] 251)) B w.heap.size c g e R []:=by
 have i:AD w.heap.size w (((w.alloc (.cells #[.string ⟨#[]⟩,.int .i64 0] 192)).alloc (.cells #[.slice none 0 0] 251)).alloc (.cells #[.slice none 0 0] 251)):=(bA.alloc (by simp) _).alloc (by simp;omega) _;have q:=h.next i;obtain⟨-,-,-,C,r,s⟩:=h;have t:(w.alloc (.cells #[.string ⟨#[]⟩,.int .i64 0] 192)).heap.size=w.heap.size+1:=by simp
 have u:((w.alloc (.cells #[.string ⟨#[]⟩,.int .i64 0] 192)).alloc (.cells #[.slice none 0 0] 251)).heap.size=w.heap.size+2:=by simp
 have D:(((w.alloc (.cells #[.string ⟨#[]⟩,.int .i64 0] 192)).alloc (.cells #[.slice none 0 0] 251)).alloc (.cells #[.slice none 0 0] 251)).heap.size=w.heap.size+3:=by simp
 generalize j:((w.alloc (.cells #[.string ⟨#[]⟩,.int .i64 0] 192)).alloc (.cells #[.slice none 0 0] 251)).alloc (.cells #[.slice none 0 0] 251)=k at*
 generalize l:(w.alloc (.cells #[.string ⟨#[]⟩,.int .i64 0] 192)).alloc (.cells #[.slice none 0 0] 251)=a at*
 generalize v:w.alloc (.cells #[.string ⟨#[]⟩,.int .i64 0] 192)=b at*
 have x:b.heap[w.heap.size]?=some (.cells #[.string ⟨#[]⟩,.int .i64 0] 192 (0,0)):=by rw[<-v];exact(MapKept.heap_alloc w _).1
 have m:a.heap[b.heap.size]?=some (.cells #[.slice none 0 0] 251 (0,0)):=by rw[<-l];exact(MapKept.heap_alloc b _).1
 have n:k.heap[a.heap.size]?=some (.cells #[.slice none 0 0] 251 (0,0)):=by rw[<-j];exact(MapKept.heap_alloc a _).1
 have o:AD b.heap.size b a:=by rw[<-l];exact bA
 have d:AD a.heap.size a k:=by rw[<-j];exact bA
 rw[t] at m o;rw[u] at n d;have z:=(d.block w.heap.size (by omega)).trans ((o.block w.heap.size (by omega)).trans x);have p:=(d.block (w.heap.size+1) (by omega)).trans m;exact⟨⟨q,⟨.slice none 0 0,LR p,⟨rfl,.inl ⟨rfl,rfl⟩⟩⟩,OZ p,⟨f,by omega,by omega,by omega,by omega,by omega,by omega,by omega,by omega⟩,by simp⟩,z,n,i.mono (by omega),⟨B9 _,(λy A=>by cases A),r,s,f⟩⟩
theorem MF(B c g b:Nat)(R:AG)(w:AA)(h:Jh w c g R b)(f:B<=c):Calls prog 228 #[.pointer (some ⟨c,0,none⟩)] w (et w B (Ch (R.drop b) [])):=by
 have j:Hid _:=Z1 B c g b R w h f;obtain⟨Y,d⟩:=zxe (Ch (R.drop b) []);have k:=zq d.symm;rw[d];obtain⟨s,i⟩:=zxe w.heap.size;have o:=zq i;clear h f d i;go_enter func228,ntmps228;go_wp2;refine SJ (J:=λm l a W=>Ic w B w.heap.size c g R Y m l a W) (λm l a W e=>?_) (10*(R.length-b)+6) ?_ (λm l a W e=>ie _ ⟨_,rfl⟩ w B w.heap.size c g R Y m l a W e)
 ·obtain⟨X,n⟩:=Nq _ ⟨_,rfl⟩ l (ji e);rw[n];rfl
 ·go_wp2;refine wp_label ?_;go_step;go_step;refine oq _ ⟨_,rfl⟩ _ (by(simp only[findLabel,Nat.reduceBEq,Bool.false_eq_true,if_false,if_true,Cd,BEq.rfl,↓reduceIte])<;>rfl) w B w.heap.size c g R Y (10*(R.length-b)+6) (10*(R.length-b)+6) (AS _) _ _ ⟨b,[],j,k,?_,rfl⟩;iterate 48 apply Exists.intro
  exact rfl
def Pn:List UInt8->List UInt8
 |[]=>[]
 |b::t=>if b=43\/b=45 then t else b::t
def SO:List UInt8->Bool
 |[]=>false
 |b::_=>decide (b=45)
def Zo(f m:Int)(neg:Bool):Kh->AK
 |none=>.tuple #[BA 0 false 0 {data:=#[]} 0,.bool false]
 |some (D,n,ng,P)=>.tuple #[BE neg (Al f m neg (AU (D.map (·-48))) (Gp n ng P) false (Gp n ng P)),.bool true]
def PR(f m:Int)(neg:Bool)(l:List UInt8):AK:=
 if GE (l.map CS)≠0 then .tuple #[BA (GE (l.map CS)) (neg&&decide (GE (l.map CS)=2)) 0 {data:=#[]} 0,.bool true] else Zo f m neg (Ch (bz l) [])
def XL(f m:Int)(l:List UInt8):AK:=
 if (f=64\/f=128)/\(1<=m/\m<=5)/\l.length<=200 then PR f m (SO l) (Pn l) else Zo f m false none
theorem MY(b:UInt8)(t:List UInt8):Pn (b::t)=if b=43\/b=45 then t else b::t:=rfl
theorem R8(b:UInt8)(t:List UInt8):SO (b::t)=decide (b=45):=rfl
theorem R7(x:Int)(t:AG):Ie (x::t) 0=if x=43\/x=45 then 1 else 0:=by
 unfold Ie;simp only[List.length_cons,Nat.zero_lt_succ,List.getD_cons_zero,true_and,Nat.zero_add]
theorem R6(x:Int)(t:AG):Kp (x::t) 0=decide (x=45):=by
 unfold Kp;simp only[List.length_cons,Nat.zero_lt_succ,List.getD_cons_zero,true_and]
theorem ia(l:List UInt8):Kp (rn l) 0=SO l/\(rn l).drop (Ie (rn l) 0)=rn (Pn l):=by
 cases l with
 |nil=>exact⟨rfl,rfl⟩
 |cons b t=>
  rw[MY,R8];by_cases h:b.toNat<128
  ·rw[Da b t h,R7,R6];have c:((b.toNat:Int)=43)↔b=43:=by
    constructor
    ·intro q;apply UInt8.toNat_inj.1;show b.toNat=43;omega
    ·rintro rfl;rfl
   have d:((b.toNat:Int)=45)↔b=45:=by
    constructor
    ·intro q;apply UInt8.toNat_inj.1;show b.toNat=45;omega
    ·rintro rfl;rfl
   simp only[c,d];refine⟨trivial,?_⟩;split
   ·rfl
   ·rw[List.drop_zero,Da b t h]
  ·obtain⟨r,u,e,g,i⟩:=Fs b t (by omega);have f:¬b=43:=λq=>by subst q;exact h (by decide)
   have a:¬b=45:=λq=>by subst q;exact h (by decide)
   rw[zyn (λq=>Or.elim q f a),e,R7,R6,zyn (show¬(r=43\/r=45) by omega),List.drop_zero];exact⟨by rw[By (show¬r=45 by omega),By a],rfl⟩
theorem ke(l:List UInt8):GE (Lib.mapD Ka (runesBytes (rn l)).data.toList)=GE (l.map CS):=by
 have a:=G9 l B4 (by decide);have b:=G9 l I7 (by decide);have c:=G9 l I8 (by decide);have d:=G9 l Fp (by decide);unfold GE;simp only[a,b,c,d]
theorem Yo(T:List UInt8):GE T=0\/GE T=2\/GE T=3\/GE T=4:=by
 unfold GE;split
 ·exact .inr (.inl rfl)
 ·split
  ·exact .inr (.inr (.inl rfl))
  ·split
   ·exact .inr (.inr (.inr rfl))
   ·exact .inl rfl
theorem VP(l:List UInt8):(Pn l).length<=l.length:=by
 cases l with
 |nil=>exact AS _
 |cons b t=>
  rw[MY];split
  ·rw[List.length_cons];omega
  ·exact AS _
theorem PN{L:AG}{D P:AG}{n:Nat}{neg:Bool}(h:Ch L []=some (D,n,neg,P))(j:L.length<=200):
 AJ (AU (D.map (·-48)))/\(AU (D.map (·-48))).length<=200/\(-200000<=Gp n neg P/\Gp n neg P<=200000):=by
 obtain⟨b,c,d,k,l,e⟩:=iI L.length L [] (λy a=>by cases a) (by simp) D n neg P h;have f:Au (D.map (·-48)):=λx g=>by
  obtain⟨y,a,rfl⟩:=List.mem_map.1 g;have:=b y a;omega
 have i:=Bf (D.map (·-48));rw[List.length_map] at i;have m:=Ra P c;have o:(10:Int)^P.length<=10^5:=by
  have:=Nat.pow_le_pow_right (show 0<10 by decide) e
  exact_mod_cast this
 refine⟨BK _ f (by rw[List.length_map];exact d),by omega,?_⟩;unfold Gp;split<;>omega
end Go.Proofs.YteofommckgeemaaGreatDoor
