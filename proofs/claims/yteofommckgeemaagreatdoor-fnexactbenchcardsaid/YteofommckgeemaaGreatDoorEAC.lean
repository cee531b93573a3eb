/- Steps. -/
import Derived.Test.YteofommckgeemaaGreatDoorEAB
namespace Go.Proofs.YteofommckgeemaaGreatDoor
open Go.RowKit Go.Proofs.Tryz
set_option linter.unusedVariables false
set_option maxRecDepth 100000
set_option maxHeartbeats 8000000
theorem Cq(m:Int)(w:AA):cE 51 #[.int .i64 m] w (.bool (decide (1<=m/\m<=5))):=by
 by_cases h:1<=m/\m<=5
 ·rw[Bz h];go_enter func51,ntmps51;go_wp2_with fail;refine(Lg m 1 5 _ h.1 h.2).mono ?_;rintro e a ⟨rfl,rfl⟩;go_wp2;go_ret;exact⟨rfl,rfl⟩
 ·rw[By h];go_enter func51,ntmps51;go_wp2_with fail;refine ce (Ov m 1 5 _ (by omega)) ?_;go_wp2;go_ret;exact⟨rfl,rfl⟩
def Zn(a:Int)(s:AB)(b:Int):Bool:=decide (1<=a/\a<=5)&&(Be 200 s&&decide (0<=b/\b<=200))
def Zq(a:Int)(neg:Bool)(s:AB)(b:Int)(rest:Bool):AB:=if Zn a s b then tx (nt (BC a neg (nv s) b.toNat rest)) else{data:=#[]}
def Zm(b:Int)(s:AB)(a:Int)(rest:Bool):Bool:=if Zn b s a then BJ (nv s) a.toNat rest else false
def fK:AG->Nat
 |[]=>0
 |[_]=>0
 |d::e::r=>if d=0 then fK (e::r)+1 else 0
def tz(D:AG):Nat:=fK D.reverse
theorem eU(l:AG)(i:Nat)(h:i<fK l):i+1<l.length/\l.getD i 0=0:=by
 induction l generalizing i with
 |nil=>simp[fK] at h
 |cons d r ih=>cases r with
  |nil=>simp[fK] at h
  |cons e s=>
   simp only[fK] at h;split at h
   ·rename_i c;cases i with
    |zero=>exact⟨by simp,by simp[c]⟩
    |succ i=>
     obtain⟨a,b⟩:=ih i (by omega);exact⟨by simp at a ⊢;omega,by simpa using b⟩
   ·omega
theorem eV(l:AG):l.length<=fK l+1\/l.getD (fK l) 0≠0:=by
 induction l with
 |nil=>exact .inl (by simp)
 |cons d r ih=>cases r with
  |nil=>exact .inl (by simp)
  |cons e s=>
   simp only[fK];split
   ·rename_i a;rcases ih with c|c
    ·exact .inl (by simp at c ⊢;omega)
    ·exact .inr (by simpa using c)
   ·rename_i a;exact .inr (by simpa using a)
theorem Zt(D:AG)(i:Nat)(h:i<D.length):D.reverse.getD i 0=D.getD (D.length-1-i) 0:=by
 simp only[List.getD];rw[List.getElem?_reverse h]
theorem jB(D:AG)(i:Nat)(h:i<tz D):i+1<D.length/\D.getD (D.length-1-i) 0=0:=by
 obtain⟨a,b⟩:=eU D.reverse i h;rw[List.length_reverse] at a;rw[Zt D i (by omega)] at b;exact⟨a,b⟩
theorem jC(D:AG)(a:0<D.length):D.length<=tz D+1\/D.getD (D.length-1-tz D) 0≠0:=by
 rcases eV D.reverse with c|c
 ·rw[List.length_reverse] at c;exact .inl c
 ·rcases Nat.lt_or_ge (fK D.reverse) D.length with q|q
  ·rw[Zt D _ q] at c;exact .inr c
  ·exact .inl (by unfold tz;omega)
def fA(D:AG)(e a b:Int):Nat:=min (min (a-e).toNat (b-e).toNat) (tz D)
def fB(n p:Nat)(e a b:Int):Nat:=min (min (e-a).toNat (p-n)) (e-b).toNat
def fC(n p:Nat)(e a:Int):Nat:=min (e-a).toNat (p-n)
theorem OR(D:AG)(e c d:Int)(i:Nat)(h:i<fA D e c d):e+i<c/\e+i<d/\i+1<D.length/\D.getD (D.length-1-i) 0=0:=by
 unfold fA at h;obtain⟨a,b⟩:=jB D i (by omega);exact⟨by omega,by omega,a,b⟩
theorem Ub(D:AG)(e a b:Int)(f:0<D.length):¬e+fA D e a b<a\/¬e+fA D e a b<b\/D.length<=fA D e a b+1\/D.getD (D.length-1-fA D e a b) 0≠0:=by
 have g:=jC D f;by_cases d:fA D e a b=tz D
 ·rw[d];rcases g with c|c
  ·exact .inr (.inr (.inl c))
  ·exact .inr (.inr (.inr c))
 ·unfold fA at d ⊢;by_cases h:(a-e).toNat<=(b-e).toNat
  ·exact .inl (by omega)
  ·exact .inr (.inl (by omega))
theorem OQ(D:AG)(e a b:Int)(d:0<D.length):fA D e a b<D.length:=by
 rcases Nat.eq_zero_or_pos (fA D e a b) with c|c
 ·omega
 ·have:=(OR D e a b (fA D e a b-1) (by omega)).2.2.1;omega
theorem fs(n p:Nat)(e a b:Int)(i:Nat)(h:i<fB n p e a b):a<e-i/\b<e-i/\n+i<p:=by
 unfold fB at h;omega
theorem ft(n p:Nat)(e a b:Int):¬a<e-fB n p e a b\/¬(n+fB n p e a b<p)\/¬b<e-fB n p e a b:=by
 unfold fB;omega
theorem fu(n p:Nat)(e a:Int)(i:Nat)(h:i<fC n p e a):a<e-i/\n+i<p:=by
 unfold fC at h;omega
theorem fw(n p:Nat)(e a:Int):¬a<e-fC n p e a\/¬(n+fC n p e a<p):=by
 unfold fC;omega
def Bv(c:Bool)(D:AG)(e a d b:Int)(p:Nat):AG:=
 if c then D else D.take (D.length-fA D e a b)++List.replicate (fB (D.length-fA D e a b) p (e+fA D e a b) a d) 0
def CL(c:Bool)(D:AG)(e a d b:Int)(p:Nat):Int:=
 if c then e else e+fA D e a b-fB (D.length-fA D e a b) p (e+fA D e a b) a d
def E5(D:AG)(e a:Int)(p:Nat):AG:=D++List.replicate (fC D.length p e a) 0
def EZ(D:AG)(e a:Int)(p:Nat):Int:=e-fC D.length p e a
def FZ(a:Int)(neg:Bool):Bool:=decide (a=2)||((decide (a=3)&& !neg)||(decide (a=4)&&neg))
def Ht(p:Nat)(a b:Int)(neg:Bool)(D:AG)(e c:Int):Int×Int×AB×Int:=
 if EZ D e a p<=a then(1,EZ D e a p,tx (E5 D e a p),c)
 else if FZ b neg then(1,a,tx (List.replicate p 9),20) else(2,0,{data:=#[]},20)
def BY(p:Nat)(D:AG):AG:=if p<D.length then D.take p else D
def A8(p:Nat)(D:AG)(e:Int):Int:=if p<D.length then e+1 else e
def Dh(a:Bool)(size b:Int)(p:Nat):Int:=if a then(if size<=b+p-1 then 24 else 16) else 0
def Cw(a:Int)(neg:Bool)(v:Int)(b:Nat)(rest:Bool):Int:=if 200<b then BC a neg 1 200 true else BC a neg v b rest
def Bq(v:Int)(a:Nat)(rest:Bool):Bool:=if 200<a then BJ 1 200 true else BJ v a rest
def Di(p n:Nat)(rest:Bool):Nat:=if rest then p+1-n else 0
def BX(p n:Nat)(a e:Int):Nat:=(max (max 0 ((n:Int)-p)) (a-e)).toNat
def CJ(p:Nat)(b c d:Int)(neg:Bool)(a:AG)(e:Int)(rest:Bool)(f:Int):Int×Int×AB×Int:=
 let j:=Di p a.length rest
 let n:=a.length+j
 let e1:=e-j
 let dr:=BX p n b e1
 let D:=nt (Cw d neg (vl a*10^j) dr rest)
 let lost:=Bq (vl a*10^j) dr rest
 let D3:=BY p D
 let e3:=A8 p D (e1+dr)
 Ht p c d neg (Bv lost D3 e3 f b c p) (CL lost D3 e3 f b c p) (Dh lost (a.length+e) b p)
theorem kr(D:AG)(p:Nat)(v:Int)(a:p<D.length):lv (D.set p v)=lv D+(v-D.getD p 0)*10^p:=by
 induction D generalizing p with
 |nil=>simp at a
 |cons d r ih=>
  cases p with
  |zero=>simp[lv];omega
  |succ p=>
   have h:=ih p (by simpa using a);simp only[List.set_cons_succ,lv,List.getD_cons_succ];rw[h,Int.pow_succ,<-Int.mul_assoc,Int.mul_add];omega
theorem Qa(D:AG)(p q:Nat)(v:Int)(a:p<D.length):(D.set p v).getD q 0=if q=p then v else D.getD q 0:=by
 simp only[List.getD,List.getElem?_set];by_cases h:p=q
 ·subst h;simp[a]
 ·rw[zyn h,zyn (λe=>h e.symm)]
theorem fh(D:AG)(p:Nat)(v:Int)(h:Au D)(b:0<=v)(c:v<=9):Au (D.set p v):=λd a=>by
 rcases List.mem_or_eq_of_mem_set a with a|a
 ·exact h d a
 ·rw[a];exact⟨b,c⟩
def MI(a b:AG)(i k:Nat)(D:AG)(c:Int):Prop:=
 D.length=a.length+b.length/\Au D/\(∀p,i+b.length+1<=p->D.getD p 0=0)/\(k<=b.length->D.getD (i+b.length) 0=0)/\
 lv D+c*10^(i+k)=pv (lo a) i*vl b+lo a i*10^i*pv (lo b) k
def MO(a b:AG)(i:Nat)(D:AG):Prop:=
 D.length=a.length+b.length/\Au D/\(∀p,i+b.length<=p->D.getD p 0=0)/\lv D=pv (lo a) i*vl b
theorem XS(a b:AG):MO a b 0 (List.replicate (a.length+b.length) 0):=by
 have e:∀n,lv (List.replicate n 0)=0:=λn=>by
  induction n with
  |zero=>rfl
  |succ n ih=>simp[List.replicate_succ,lv,ih]
 refine⟨by simp,λd c=>?_,λp _=>?_,?_⟩
 ·have:=(List.mem_replicate.1 c).2;omega
 ·simp only[List.getD,List.getElem?_replicate];split<;>rfl
 ·rw[e];simp[pv]
theorem jv{a b:AG}{i:Nat}{D:AG}(h:MO a b i D):MI a b i 0 D 0:=by
 obtain⟨d,e,c,f⟩:=h;exact⟨d,e,λp g=>c p (by omega),λ_=>c _ (AS _),by rw[f];simp[pv]⟩
theorem fN{a b:AG}{i k:Nat}{D:AG}{c:Int}(h:MI a b i k D c)(l:Au a)(o:Au b)(J:i<a.length)(r:k<=b.length)(K:0<=c)(L:c<=9):
 MI a b i (k+1) (D.set (i+k) ((D.getD (i+k) 0+lo a i*lo b k+c)%10)) ((D.getD (i+k) 0+lo a i*lo b k+c)/10)/\
 (0<=(D.getD (i+k) 0+lo a i*lo b k+c)/10/\(D.getD (i+k) 0+lo a i*lo b k+c)/10<=9)/\(k=b.length->(D.getD (i+k) 0+lo a i*lo b k+c)/10=0)/\
 (0<=D.getD (i+k) 0/\D.getD (i+k) 0<=9)/\(0<=lo a i*lo b k/\lo a i*lo b k<=81):=by
 obtain⟨s,f,t,j,w⟩:=h;have x:=GX a l i;have z:=GX b o k;have y:=Ah D f (i+k);have m:0<=lo a i*lo b k/\lo a i*lo b k<=81:=by
  have h:=Int.mul_nonneg x.1 z.1;have g:=Int.mul_le_mul x.2 z.2 z.1 (by decide);omega
 have d:i+k<D.length:=by omega
 refine⟨⟨by rw[List.length_set,s],fh _ _ _ f (by omega) (by omega),λp A=>?_,λM=>?_,?_⟩,by omega,λB=>?_,y,m⟩
 ·rw[Qa _ _ _ _ d,zyn (by omega)];exact t p A
 ·rw[Qa _ _ _ _ d,zyn (by omega)];exact j r
 ·rw[kr _ _ _ d];have e:∀n:Int,n%10+10*(n/10)=n:=λn=>by omega
  have C:=e (D.getD (i+k) 0+lo a i*lo b k+c);generalize (D.getD (i+k) 0+lo a i*lo b k+c)%10=u at*
  generalize (D.getD (i+k) 0+lo a i*lo b k+c)/10=v at*
  simp only[pv];rw[Int.mul_add,<-Int.add_assoc,<-w,<-Nat.add_assoc,Int.pow_succ];have E:(10:Int)^(i+k)=10^i*10^k:=Cv ..;have F:lo a i*10^i*(lo b k*10^k)=lo a i*lo b k*10^(i+k):=by
   rw[E];simp only[Int.mul_assoc,Int.mul_left_comm]
  rw[F];generalize (10:Int)^(i+k)=P at*
  generalize lo a i*lo b k=q at*
  generalize D.getD (i+k) 0=g at*
  have G:(u-g)*P+v*(P*10)=(u+10*v-g)*P:=by
   rw[Int.sub_mul,Int.sub_mul,Int.add_mul,Int.mul_comm P 10,<-Int.mul_assoc,Int.mul_comm v 10];omega
  rw[C] at G;have N:(g+q+c-g)*P=q*P+c*P:=by
   rw[show g+q+c-g=q+c by omega,Int.add_mul]
  omega
 ·have H:D.getD (i+k) 0=0:=by rw[B];exact j (by omega)
  have I:lo b k=0:=Lk b k (by omega);rw[H,I,Int.mul_zero];omega
theorem jt{a b:AG}{i k:Nat}{D:AG}(h:MI a b i k D 0)(d:b.length<=k):MO a b (i+1) D:=by
 obtain⟨e,f,g,j,c⟩:=h;refine⟨e,f,λp l=>g p (by omega),?_⟩;rw[Int.zero_mul,Int.add_zero,Nh b k d] at c;rw[c];simp only[pv];rw[Int.add_mul]
theorem ju{a b:AG}{D:AG}(h:MO a b a.length D):lv D=vl a*vl b:=by
 rw[h.2.2.2,Nh a _ (AS _)]
theorem pH(a b:List Int)(w:World)(s:AJ a)(E:AJ b)(Y:a.length<=400)(Z:b.length<=400):
 Calls prog 192 #[.string (tx a),.string (tx b)] w λe F=>∃R,e=.returned (.string (tx R))/\AJ R/\vl R=vl a*vl b/\R.length<=a.length+b.length/\Below w.heap.size w F:=by
 obtain⟨i0,hi,ac,ad,ae⟩:=info_parts Jq;have t:=AE a;have u:=AE b;have G:=s.2.1;obtain⟨ay,az⟩:(tx a).size<=400/\(tx b).size<=400:=by omega
 have d:=Ab t u;have v:=zq s.1;have H:=zq E.1;have I:=zq G;obtain⟨y,J,f,K⟩:=run_make_full (P:=prog) w w.heap.size 80 2 i0 (.int .i64 0) 1 underlying80 hi ac ad .i64 .i64 ((tx a).size+(tx b).size) (by rw[ae];omega) (by unfold maxLen;omega) (Nat.le_refl _);have L:Below w.heap.size w y:=Below.grown (Below.refl _ _) K (Nat.le_refl _) (λk hk=>by cases hk);have M:=zq (XS a b);have N:Hid (y.ownsRow w.heap.size 2 1 (.slice (some ⟨w.heap.size,0,none⟩) ((tx a).size+(tx b).size) ((tx a).size+(tx b).size)) ((tx a).size+(tx b).size) ((List.replicate (a.length+b.length) 0).map (Value.int .i64))):=by
  have:=f;rw[show(Value.int .i64 0).cells=#[Value.int .i64 0] from rfl,toList_madeCells_one,Nat.mul_one] at this;rw[<-t,<-u];simpa[Hid] using this
 have ag:(Instr.makeSlice 80 (.int .i64 (((tx a).size:Int)+((tx b).size:Int))) (.int .i64 (((tx a).size:Int)+((tx b).size:Int)))).run prog w=.ok (.slice (some ⟨w.heap.size,0,none⟩) ((tx a).size+(tx b).size) ((tx a).size+(tx b).size)) y:=by
  have:=J;rw[show(((tx a).size+(tx b).size:Nat):Int)=((tx a).size:Int)+((tx b).size:Int) from Int.natCast_add _ _] at this;exact this
 clear f K J t u s E G Y Z;generalize List.replicate (a.length+b.length) (0:Int)=D0 at*
 go_enter func192,ntmps192;go_wp2;go_loopw [6] (λi wr=>∃(j:Nat) (D:List Int),j<=(tx a).size/\i=.int .i64 j/\Hid (MO a b j D)/\Hid (wr.ownsRow w.heap.size 2 1 (.slice (some ⟨w.heap.size,0,none⟩) ((tx a).size+(tx b).size) ((tx a).size+(tx b).size)) ((tx a).size+(tx b).size) (D.map (Value.int .i64)))/\Below w.heap.size w wr) (λi _=>(tx a).size-(intOf i).toNat);case atStart=>exact⟨0,D0,Nat.zero_le _,rfl,M,N,L⟩
 case round=>
  clear M N L ag;obtain⟨j,D,hj,rfl,p,f,n⟩:=hrel;have A:=n.size;by_cases ai:j<(tx a).size
  ·have aB:(j:Int)<((tx a).size:Int):=by omega
   have ba:=GX a v j;have Ca:Hid (cF 195 #[.string (tx a),.int .i64 j] (.int .i64 (lo a j))):=λW=>EG a j W v (by have:=d.out;omega) (by omega);have o:=zq (jv p);clear p;go_wp2_with fail;refine cm (Ca _) λF hw=>?_;obtain rfl:=hw.symm;go_wp2;go_loopw [7,9] (λc k wr=>∃(q:Nat) (m:List Int) (l:Int),q<=(tx b).size+1/\k=.int .i64 q/\c=.int .i64 l/\(0<=l/\l<=9)/\((tx b).size<q->l=0)/\Hid (MI a b j q m l)/\Hid (wr.ownsRow w.heap.size 2 1 (.slice (some ⟨w.heap.size,0,none⟩) ((tx a).size+(tx b).size) ((tx a).size+(tx b).size)) ((tx a).size+(tx b).size) (m.map (Value.int .i64)))/\Below w.heap.size w wr) (λ_ k _=>(tx b).size+1-(intOf k).toNat);case atStart=>exact⟨0,D,0,Nat.zero_le _,rfl,rfl,⟨Int.le_refl _,by decide⟩,λ_=>rfl,o,f,n⟩
   case round=>
    clear o f n A;obtain⟨q,m,l,hq,rfl,rfl,O,Q,o,f,n⟩:=hrel;have A:=n.size;have al:(q<(tx b).size/\(q:Int)<((tx b).size:Int))\/(q<=(tx b).size/\((tx b).size<=q/\decide (q<(tx b).size)=false/\decide ((q:Int)<((tx b).size:Int))=false)/\0<l)\/((tx b).size<=q/\decide ((q:Int)<((tx b).size:Int))=false/\l=0):=by
     rcases Nat.lt_or_ge q (tx b).size with h|h
     ·exact .inl ⟨h,by omega⟩
     ·rcases(show l=0\/0<l by omega) with e|e
      ·exact .inr (.inr ⟨h,by simp;omega,e⟩)
      ·exact .inr (.inl ⟨by have:=Q;omega,⟨h,by simp;omega,by simp;omega⟩,e⟩)
    clear Q;rcases al with⟨B,S⟩|⟨B,⟨S,aE,aF⟩,aG⟩|⟨B,S,rfl⟩
    rotate_right
    ·have am:=zq (jt o (by rw[<-d.out.2];exact B));go_wp2;go_roundw;case rel=>exact⟨j+1,m,by omega,by go_num,am,f,n⟩
     case measure=>simp[intOf];omega
    all_goals
     have T:q<=b.length:=by rw[<-d.out.2];omega
     have St:=fN o v H (by rw[<-d.out.1];exact ai) T O.1 O.2;obtain⟨U,S2,V,S4,S5⟩:=St;have ap:=zq U;have aq:Hid ((tx b).size<q+1->(m.getD (j+q) 0+lo a j*lo b q+l)/10=0):=λh=>V (by rw[<-d.out.2];omega);have ar:Hid (_/\_):=World.ownsRow.stored f (j+q) (.int .i64 ((m.getD (j+q) 0+lo a j*lo b q+l)%10));have au:m.length=(tx a).size+(tx b).size:=by rw[o.out.1,<-d.out.1,<-d.out.2]
     have hf:=World.ownsRow.frozenAt f (j+q);have hc:wr.cell? ⟨w.heap.size,j+q,none⟩=some (.int .i64 (m.getD (j+q) 0)):=by
      rw[World.ownsRow.cellAt f.out (j+q) (by omega)];simp only[List.getElem?_map,List.getD];rw[List.getElem?_eq_getElem (by omega)];rfl
     have Cb:Hid (cF 195 #[.string (tx b),.int .i64 q] (.int .i64 (lo b q))):=λW=>EG b q W H (by have:=d.out;omega) (by omega);obtain⟨aL,aM⟩:(j:Int)+(q:Int)<(((tx a).size+(tx b).size:Nat):Int)/\0<=(j:Int)+(q:Int):=by omega
     have aN:((j:Int)+(q:Int)).toNat=j+q:=by omega
     clear U V o f au T;generalize m.getD (j+q) 0=g at*
     generalize lo a j=x at*
     generalize lo b q=z at*
     go_wp2;go_quiet (first|(go_at_call 195;refine Calls.quiet_of_same (Cb _)));go_wp2;go_roundw;case rel=>
      refine⟨q+1,_,_,by omega,by go_num,rfl,S2,aq,ap,?_,Go.below_drewN (n.setCell (Nat.le_refl _) _) _⟩;have:=ar.1;rw[Hid,List.map_set];exact this
     case measure=>simp[intOf];omega
  ·have hd:decide ((j:Int)<((tx a).size:Int))=false:=by simp;omega
   have X:j=a.length:=by have:=d.1;omega
   have r:=zq p.1;have HH:Hid (Er wr w.heap.size (.slice (some ⟨w.heap.size,0,none⟩) ((tx a).size+(tx b).size) ((tx a).size+(tx b).size)) D):=by
    rw[Hid];unfold Er;rw[r,<-d.out.1,<-d.out.2];exact f
   have C:Hid (lv D=vl a*vl b/\Au D):=by
    have h:=p.out;rw[X] at h;exact⟨ju h,h.2.1⟩
   clear p f X;go_wp2_with fail;refine(GU _ D _ _ HH C.2 (by rw[r];have:=I.out;omega) (by rw[r,<-d.out.1,<-d.out.2];omega)).mono ?_;rintro e w2 ⟨rfl,ax⟩;go_wp2;go_ret;exact⟨_,rfl,BK _ (DO D C.2) (by rw[List.length_reverse,r];have:=I.out;omega),by rw[B8,Pq,C.out.1],Nat.le_trans (Bf _) (by rw[List.length_reverse,r];exact Nat.le_refl _),n.trans (ax.mono A)⟩
theorem Iz(n:Nat)(w:World)(p:0<n)(C:n<=200):
 cB 194 #[.int .i64 n] w (.string (tx (List.replicate n 0))):=by
 obtain⟨q,r,s,t,u⟩:=info_parts Yj;go_enter func194,ntmps194;go_wp2;go_loopw [0,3] (λi b wr=>∃j:Nat,j<=n/\i=.int .i64 ((n:Int)-j)/\Hid (wr.ownsRow w.heap.size 5 1 b j ((((List.replicate j (0:Int))).map (48+ ·)).map (Value.int .u8)))/\Below w.heap.size w wr) (λi _ _=>(intOf i).toNat);case atStart=>exact⟨0,Nat.zero_le _,Ln.val_int (by simp),World.ownsRow_made w #[] 0 (Nat.le_refl _) (Nat.zero_le _) rfl,bA⟩
 case round=>
  obtain⟨j,D,rfl,h,c⟩:=hrel;have E:=c.size;have a:=h.out;by_cases F:j<n
  ·have G:(0:Int)<(n:Int)-j:=by omega
   go_wp2_with (first|(at_builtin;refine wpList_append_own _ rfl _ _ 22 rfl w.heap.size 5 q (.int .u8 0) 1 1 underlying22 r s t u rfl (by decide) _ _ _ rfl (a.alloc _) ⟨wr.heap.size,0,none⟩ 1 1 [.int .u8 48] rfl rfl (JC _ _ _) (Gf _ _) (by unfold maxLen;omega) (by omega) (by simp;omega) ?_)|go_in);intro v l m o _;have x:Below w.heap.size w l:=Below.grown (c.alloc (by omega) _) o (by simp;omega) (λk y=>(a.lt k y).1);have z:Hid (l.ownsRow w.heap.size 5 1 v (j+1) (((List.replicate (j+1) (0:Int)).map (48+ ·)).map (Value.int .u8))):=by
    rw[List.replicate_succ'];simpa[Hid] using m
   clear m o a;go_wp2;go_roundw;case rel=>exact⟨j+1,by omega,Ln.val_int (by omega),z,x⟩
   case measure=>simp[intOf];omega
  ·have e:j=n:=by omega
   subst e;obtain⟨H,I,d,f⟩:=Gs wr _ _ (List.replicate j (0:Int)) (by rw[List.length_replicate];exact a) (by rw[List.length_replicate];exact p);rw[List.length_replicate] at d;rw[d] at f ⊢;have A:=f 9 underlying9;obtain⟨R,g⟩:∃R,R=List.replicate j (0:Int):=⟨_,rfl⟩;rw[<-g] at A;have B:=zq g;clear f d h a g;go_wp2;go_ret;exact⟨by rw[<-B];rfl,c⟩
theorem Iy(a:AG)(n:Nat)(w:AA)(i:AJ a)(s:a.length<=200)(k:0<n)(l:n<=200):
 Calls prog 133 #[.string (tx a),.int .i64 n] w λe m=>∃R,e=.returned (.string (tx R))/\AJ R/\vl R=vl a*10^n/\R.length<=a.length+n/\AD w.heap.size w m:=by
 have c:=zq i;clear i;have o:((tx a).size:Int)<=8388608:=by rw[AE];omega
 have j:((tx (List.replicate n (0:Int))).size:Int)<=8388608:=by rw[AE,GG];omega
 by_cases b:a=[0]
 ·have p:((tx a).toList==[48])=true:=by rw[b,Fv];rfl
  have d:=zq b;clear b o j;go_enter func133,ntmps133;go_wp2;go_ret;refine⟨a,rfl,c,?_,by omega,BI _ _⟩;rw[d];show(0:Int)=0*10^n
  omega
 ·have p:=Bo a c.1 b;have d:=zq b;obtain⟨R,f⟩:∃R,R=List.replicate n (0:Int):=⟨_,rfl⟩;have g:=λw=>Iz n w k l;rw[<-f] at j g;have h:=zq f;have q:=zq g;have t:=Ax a R;clear b f g;go_enter func133,ntmps133;go_wp2_with fail;refine cm (q _) λu r=>?_;go_wp2;go_ret;refine⟨a++R,rfl,?_,?_,?_,r⟩
  ·rw[h];exact BT a n c d
  ·rw[h];exact Bb a n
  ·rw[h];simp
theorem DG(a b:List Int)(w:World)(f:AJ a)(g:AJ b)(A:a.length<=1000)(B:b.length<=1000):
 cB 193 #[.string (tx a),.string (tx b)] w (.int .i64 (Ay (vl a) (vl b))):=by
 have o:=AE a;have q:=AE b;rcases Nat.lt_trichotomy a.length b.length with h|h|h
 ·have H:=zq (Ck _ _ (JY a b f g h));have v:(((tx a).size:Int)==((tx b).size:Int))=false:=by simp;omega
  have C:((tx a).size:Int)<((tx b).size:Int):=by omega
  clear o q f g;go_enter func193,ntmps193;go_wp2;go_ret;exact⟨Ln.ret_int H.symm,Below.refl _ _⟩
 ·have x:(tx a).size=(tx b).size:=by omega
  have D:=zq x;have I:(tx a).size<=1000:=by omega
  have v:(((tx a).size:Int)==((tx b).size:Int))=true:=by simp;omega
  have y:=zq o;have H:Hid (AJ a/\AJ b/\a.length=b.length):=⟨f,g,h⟩;clear o q f g x h A B;go_enter func193,ntmps193;go_wp2;go_loopw [5] (λi wr=>∃k:Nat,k<=(tx a).size/\i=.int .i64 k/\Hid (∀j,j<k->a.getD j 0=b.getD j 0)/\Below w.heap.size w wr) (λi _=>(tx a).size-(intOf i).toNat);case atStart=>exact⟨0,Nat.zero_le _,rfl,λj m=>absurd m (Nat.not_lt_zero j),Below.refl _ _⟩
  case round=>
   obtain⟨k,J,rfl,p,d⟩:=hrel;by_cases c:k<(tx a).size
   ·have e:k<(tx b).size:=by rw[<-D];exact c
    have r:=C7 a H.1.1 k c;have s:=C7 b H.2.1.1 k e;have t:=Ah a H.1.1 k;have u:=Ah b H.2.1.1 k;have K:(k:Int)<((tx a).size:Int):=by omega
    have n:k<a.length:=by rw[<-y];exact c
    rcases Int.lt_trichotomy (a.getD k 0) (b.getD k 0) with l|l|l
    ·have E:=zq (Ck _ _ (VR a b H.1.1 H.2.1.1 H.2.2 k n p l));have z:((((tx a)[k]'c).toNat:Int)==(((tx b)[k]'e).toNat:Int))=false:=by simp only[beq_eq_false_iff_ne];omega
     have F:(((tx a)[k]'c).toNat:Int)<(((tx b)[k]'e).toNat:Int):=by omega
     clear r s t u n;go_wp2;go_quiet (fail);go_wp2;go_quiet (fail);go_wp2;go_ret;exact⟨Ln.ret_int E.symm,by first|exact d|exact Go.below_drewN d _|exact Go.below_drewN (Go.below_drewN d _) _⟩
    ·have z:((((tx a)[k]'c).toNat:Int)==(((tx b)[k]'e).toNat:Int))=true:=by simp only[beq_iff_eq];omega
     have G:Hid (∀j,j<k+1->a.getD j 0=b.getD j 0):=λj m=>by
      rcases Nat.lt_or_ge j k with h|h
      ·exact p j h
      ·rw[show j=k by omega];exact l
     clear r s t u n l;go_wp2;go_quiet (fail);go_wp2;go_roundw;case rel=>exact⟨k+1,by omega,by go_num,G,by first|exact d|exact Go.below_drewN d _⟩
     case measure=>simp[intOf];omega
    ·have E:=zq (Du _ _ (VR b a H.2.1.1 H.1.1 H.2.2.symm k (by rw[<-H.out.2.2];exact n) (λj m=>(p j m).symm) l));have z:((((tx a)[k]'c).toNat:Int)==(((tx b)[k]'e).toNat:Int))=false:=by simp only[beq_eq_false_iff_ne];omega
     have F:decide ((((tx a)[k]'c).toNat:Int)<(((tx b)[k]'e).toNat:Int))=false:=by simp;omega
     obtain⟨L,M⟩:¬(((tx a)[k]'c).toNat:Int)<(((tx b)[k]'e).toNat:Int)/\¬((tx a)[k]'c).toNat<((tx b)[k]'e).toNat:=by omega
     have N:((tx b)[k]'e).toNat<=((tx a)[k]'c).toNat:=by omega
     clear r s t u n;go_wp2;go_quiet (fail);go_wp2;go_quiet (fail);go_wp2;go_ret;exact⟨Ln.ret_int E.symm,by first|exact d|exact Go.below_drewN d _|exact Go.below_drewN (Go.below_drewN d _) _⟩
   ·have O:decide ((k:Int)<((tx a).size:Int))=false:=by simp;omega
    have E:Hid (Ay (vl a) (vl b)=0):=by
     rw[Hid,jI a b H.out.2.2 (λj m=>p.out j (by have:=y.out;omega))];exact Kz _
    go_wp2;go_ret;exact⟨Ln.ret_int E.symm,d⟩
 ·have H:=zq (Du _ _ (JY b a g f h));have v:(((tx a).size:Int)==((tx b).size:Int))=false:=by simp;omega
  have C:decide (((tx a).size:Int)<((tx b).size:Int))=false:=by simp;omega
  obtain⟨P,Q⟩:¬((tx a).size:Int)<((tx b).size:Int)/\¬(tx a).size<(tx b).size:=by omega
  have R:(tx b).size<=(tx a).size:=by omega
  clear o q f g;go_enter func193,ntmps193;go_wp2;go_ret;exact⟨Ln.ret_int H.symm,Below.refl _ _⟩
theorem Cn(a b:List Int)(w:World)(m:AJ a)(t:AJ b)(X:a.length<=1000)(h:vl b<=vl a):
 Calls prog 138 #[.string (tx a),.string (tx b)] w λe n=>∃R,e=.returned (.string (tx R))/\AJ R/\vl R=vl a-vl b/\R.length<=a.length/\Below w.heap.size w n:=by
 obtain⟨I,J,K,L,M⟩:=info_parts Jq;have N:b.length<=a.length:=by
  rcases Nat.lt_or_ge a.length b.length with c|c
  ·have:=JY a b m t c;omega
  ·exact c
 have O:=AE a;have ac:(tx a).size<=1000:=by omega
 have z:=zq O;have Y:Hid (b.length<=1000):=by rw[Hid];omega
 have P:=zq m.1;have Q:=zq t.1;have S:=zq m.2.1;have A:=zq (i1 a b m.1 t.1 h N);clear m t O h N X;go_enter func138,ntmps138;go_wp2;go_loopw [5,6,7] (λd c i wr=>∃j:Nat,j<=(tx a).size/\i=.int .i64 j/\c=.int .i64 (Id a b j)/\Hid (Er wr w.heap.size d (NG (Pg a b) j))/\Below w.heap.size w wr) (λ_ _ i _=>(tx a).size-(intOf i).toNat);case atStart=>exact⟨0,Nat.zero_le _,rfl,rfl,Lo w,bA⟩
 case round=>
  obtain⟨j,hj,rfl,rfl,o,u⟩:=hrel;have Z:=u.size;by_cases ae:j<(tx a).size
  ·have ba:=GX a P j;have bb:=GX b Q j;have bs:=Tw a b j;have T:=zq λW=>EG a j W P (by have:=z.out;omega) (by omega);have U:=zq λW=>EG b j W Q Y (by omega);have ai:(j:Int)<((tx a).size:Int):=by omega
   have f:=o.out;unfold Er at f;rw[DM] at f;by_cases V:lo a j-lo b j-Id a b j<0
   ·have g:Id a b (j+1)=1:=by
     show(if lo a j-lo b j-Id a b j<0 then(1:Int) else 0)=1
     rw[if_pos V]
    have B:=zq g;have C:Hid (NG (Pg a b) (j+1)=NG (Pg a b) j++[lo a j-lo b j-Id a b j+10]):=by
     show NG (Pg a b) j++[lo a j-lo b j-Id a b j+10*Id a b (j+1)]=_
     rw[g];rfl
    clear g;generalize lo a j=x at*
    generalize lo b j=y at*
    generalize Id a b j=s at*
    go_wp2_with fail;refine cm (T _) λn l=>?_;obtain rfl:=l.symm;go_wp2_with fail;refine cm (U _) λn l=>?_;obtain rfl:=l.symm;go_wp2_with (first|(at_builtin;refine wpList_append_own _ rfl _ _ 80 rfl w.heap.size 2 I (.int .i64 0) 1 8 underlying80 J K L M rfl (by decide) _ _ _ rfl (f.alloc _) ⟨wr.heap.size,0,none⟩ 1 1 [.int .i64 (x-y-s+10)] rfl rfl (JC _ _ _) (Gf _ _) (by unfold maxLen;omega) (by omega) (by simp;omega) ?_)|go_in);intro E p q r _;have F:Below w.heap.size w p:=Below.grown (u.alloc (by omega) _) r (by simp;omega) (λk G=>(f.lt k G).1);have H:Hid (Er p w.heap.size E (NG (Pg a b) (j+1))):=by
     rw[Hid];unfold Er;rw[DM,C];simpa using q
    clear q r f o;go_wp2;go_roundw;case rel=>exact⟨j+1,by omega,by go_num,Ln.val_int B.symm,H,F⟩
    case measure=>simp[intOf];omega
   ·have g:Id a b (j+1)=0:=by
     show(if lo a j-lo b j-Id a b j<0 then(1:Int) else 0)=0
     rw[if_neg V]
    have B:=zq g;have C:Hid (NG (Pg a b) (j+1)=NG (Pg a b) j++[lo a j-lo b j-Id a b j]):=by
     show NG (Pg a b) j++[lo a j-lo b j-Id a b j+10*Id a b (j+1)]=_
     rw[g,Int.mul_zero,Int.add_zero]
    clear g;generalize lo a j=x at*
    generalize lo b j=y at*
    generalize Id a b j=s at*
    go_wp2_with fail;refine cm (T _) λn l=>?_;obtain rfl:=l.symm;go_wp2_with fail;refine cm (U _) λn l=>?_;obtain rfl:=l.symm;go_wp2_with (first|(at_builtin;refine wpList_append_own _ rfl _ _ 80 rfl w.heap.size 2 I (.int .i64 0) 1 8 underlying80 J K L M rfl (by decide) _ _ _ rfl (f.alloc _) ⟨wr.heap.size,0,none⟩ 1 1 [.int .i64 (x-y-s)] rfl rfl (JC _ _ _) (Gf _ _) (by unfold maxLen;omega) (by omega) (by simp;omega) ?_)|go_in);intro E p q r _;have F:Below w.heap.size w p:=Below.grown (u.alloc (by omega) _) r (by simp;omega) (λk G=>(f.lt k G).1);have H:Hid (Er p w.heap.size E (NG (Pg a b) (j+1))):=by
     rw[Hid];unfold Er;rw[DM,C];simpa using q
    clear q r f o;go_wp2;go_roundw;case rel=>exact⟨j+1,by omega,by go_num,Ln.val_int B.symm,H,F⟩
    case measure=>simp[intOf];omega
  ·have hd:decide ((j:Int)<((tx a).size:Int))=false:=by simp;omega
   have ej:j=a.length:=by have:=z.out;omega
   rw[ej] at o;have v:Hid ((NG (Pg a b) a.length).length=a.length):=DM _ _;generalize NG (Pg a b) a.length=D at*
   go_wp2_with fail;refine(GU _ D _ _ o A.2 (by rw[v];exact S) (by rw[v];have:=z.out;omega)).mono ?_;rintro e w1 ⟨rfl,ab⟩;go_wp2;go_ret;exact⟨_,rfl,BK _ (DO D A.2) (by rw[List.length_reverse,v];exact S),by rw[B8,Pq,A.out.1],Nat.le_trans (Bf _) (by rw[List.length_reverse,v];exact Nat.le_refl _),u.trans (ab.mono Z)⟩
theorem Bu(R:AG)(h:AJ R)(k:Nat)(a:0<k)(b:vl R<10^k):R.length<=k:=by
 rcases Nat.lt_or_ge k R.length with c|c
 ·have l:=EB R h (by omega);have m:=AI k (R.length-1) (by omega);omega
 ·exact c
theorem Vp(W:AA):∀a,prog.underlying a=some .string->(convert 22 a (.slice (some ⟨W.heap.size,0,none⟩) 0 0)).run prog (W.alloc (.cells #[] 5))=.ok (.string (tx [])) (W.alloc (.cells #[] 5)):=
 run_convert_bytes_arg (P:=prog) _ 22 5 underlying22 underlying5 W.heap.size 0 0 0 [] rfl (λi b=>by simp at b)
theorem My(w:AA):
 cB 194 #[.int .i64 0] w (.string (tx [])):=by
 have a:=Vp w 9 underlying9;generalize tx []=T at*
 go_enter func194,ntmps194;go_wp2;go_loop [0,3] (λi b=>i=.int .i64 0/\b=.slice (some ⟨w.heap.size,0,none⟩) 0 0) (λ_ _=>0);case atStart=>exact⟨rfl,rfl⟩
 case round=>
  obtain⟨rfl,rfl⟩:=hrel;go_wp2;go_ret;exact⟨rfl,bA⟩
theorem IB(a:AG)(w:AA)(c:AJ a)(j:a.length<=200):
 cB 133 #[.string (tx a),.int .i64 0] w (.string (tx a)):=by
 have d:=zq c;clear c;have e:((tx a).size:Int)<=8388608:=by rw[AE];omega
 have f:((tx []).size:Int)<=8388608:=by rw[AE];simp
 by_cases b:a=[0]
 ·have g:((tx a).toList==[48])=true:=by rw[b,Fv];rfl
  clear b e f;go_enter func133,ntmps133;go_wp2;go_ret;exact⟨rfl,BI _ _⟩
 ·have g:=Bo a d.1 b;have k:tx a++tx []=tx a:=by rw[Ax,List.append_nil]
  have h:=zq My;clear b;generalize tx []=T at*
  go_enter func133,ntmps133;go_wp2_with fail;refine cm (h _) λl i=>?_;go_wp2;go_ret;exact⟨rfl,i⟩
def M3(s t:AB):Bool:=Be 200 s&&Be 200 t
theorem Hf{s t:AB}(h:M3 s t=true):Be 200 s=true/\Be 200 t=true:=by
 unfold M3 at h;rw[Bool.and_eq_true] at h;exact h
theorem lF{s t:AB}(h:M3 s t=false):Be 200 s=false\/(Be 200 s=true/\Be 200 t=false):=by
 unfold M3 at h;cases a:Be 200 s with
 |false=>exact .inl rfl
 |true=>rw[a] at h;exact .inr ⟨rfl,by simpa using h⟩
def Sk(s t:AB):Int:=if M3 s t then Ay (nv s) (nv t) else 2
def Mi(s t:AB):AB:=if M3 s t then DE (nt (nv s+nv t)) else{data:=#[]}
def MU(s t:AB):AB:=if M3 s t then(if nv s<nv t then{data:=#[]} else tx (nt (nv s-nv t))) else{data:=#[]}
def RC(s t:AB):AB:=if M3 s t then DE (nt (nv s*nv t)) else{data:=#[]}
theorem Le(f o:Int)(neg:Bool)(e:Int)(rest:Bool)(c:Int)(w:AA):
 Calls prog 122 #[.int .i64 f,.int .i64 o,.bool neg,.string {data:=#[48]},.int .i64 e,.bool rest,.int .i64 c] w λx q=>
  x=.returned (BA 1 neg (min (Ad f) (max (AV f) c)) {data:=#[48]} 0)/\AD w.heap.size w q:=by
 have a:Hid (Z5 (w.alloc A2) w.heap.size/\AD w.heap.size w (w.alloc A2)):=⟨Af w _ _ _ _ _,bA⟩;generalize j:Ad f=k;generalize l:AV f=d;have m:=Ab j l;clear j l;obtain⟨R,g⟩:=zxe (min k (max d c));have r:=zq g;rw[g];clear g;go_enter func122,ntmps122;go_wp2_with fail;refine cm (Ag f _) λt n=>?_;rw[m.out.1,m.out.2];rw[<-n] at a;clear n;generalize AF f=p at*
 go_wp2_with fail;refine ce (I1 d c _) ?_;go_wp2_with fail;refine ce (C0 k (max d c) _) ?_;rw[r];go_wp2_with fail;refine cm (Aj neg {data:=#[48]} R _) λs h=>?_;have i:=Ab (a.1.below h a.1.lt) (a.2.trans (h.mono a.2.size));clear h a;obtain⟨u,v,y,z,A,b⟩:=i.1.cells;have B:=b 0;have C:=b 1;have D:=b 2;have E:=b 3;have F:=b 4;clear b;have G:=AT 1 neg R {data:=#[48]} s;go_wp2;refine rR ((i.1.put (.int .i64 1) (.bool neg) (.int .i64 R) (.string {data:=#[48]}) (.int .i64 0)).cells) ?_;exact⟨rfl,Ez i.2 (AS _) _ _ _ _ _⟩
def Al(f c:Int)(neg:Bool)(a:AG)(e:Int)(rest:Bool)(b:Int):Int×Int×AB×Int:=
 if a=[0] then(1,min (Ad f) (max (AV f) b),{data:=#[48]},0) else CJ (AF f).toNat (AV f) (Ad f) c neg a e rest b
abbrev BE(neg:Bool)(F:Int×Int×AB×Int):AK:=BA F.1 neg F.2.1 F.2.2.1 F.2.2.2
def Et(f c:Int):Prop:=∀(neg:Bool) (a:AG) (e:Int) (rest:Bool) (b:Int) (w:AA),AJ a->a.length<=200->(-200000<=e/\e<=200000)->(-200000<=b/\b<=200000)->
 cB 122 #[.int .i64 f,.int .i64 c,.bool neg,.string (tx a),.int .i64 e,.bool rest,.int .i64 b] w (BE neg (Al f c neg a e rest b))
theorem Li(f:Int)(a:f=64\/f=128):AF f<=34/\-6176<=AV f/\Ad f<=6111:=by
 rcases a with rfl|rfl<;>decide
theorem kG(c:UInt8)(l:List UInt8)(h:∀b∈l,b=c):l.dropWhile (·==c)=[]:=by
 induction l with
 |nil=>rfl
 |cons x r ih=>
  have a:=h x Gx;subst a;rw[List.dropWhile_cons_of_pos (by simp)];exact ih λb d=>h b (GH _ d)
theorem Ua(c:UInt8)(l:List UInt8)(h:∃b∈l,b≠c):∃x r,l.dropWhile (·==c)=x::r/\x≠c:=by
 induction l with
 |nil=>obtain⟨b,a,_⟩:=h;cases a
 |cons x r ih=>
  by_cases d:x=c
  ·subst d;rw[List.dropWhile_cons_of_pos (by simp)];obtain⟨b,a,f⟩:=h;rcases List.mem_cons.1 a with e|e
   ·exact absurd e f
   ·exact ih ⟨b,e,f⟩
  ·exact⟨x,r,List.dropWhile_cons_of_neg (by simpa using d),d⟩
theorem eP(l:List UInt8)(c:UInt8)(h:∀b∈l,b=c):Lib.trimB l c=[]:=by
 unfold Lib.trimB Lib.trimLeftB Lib.trimRightB;rw[kG c l.reverse λb a=>h b (List.mem_reverse.1 a)];rfl
theorem W8(l:List UInt8)(c:UInt8)(h:∃b∈l,b≠c):Lib.trimB l c≠[]:=by
 unfold Lib.trimB Lib.trimLeftB Lib.trimRightB;obtain⟨b,a,d⟩:=h;obtain⟨x,r,e,f⟩:=Ua c l.reverse ⟨b,List.mem_reverse.2 a,d⟩;rw[e];obtain⟨y,q,g,_⟩:=Ua c (x::r).reverse ⟨x,List.mem_reverse.2 Gx,f⟩;rw[g];exact List.cons_ne_nil _ _
theorem FP(a:AG):(tx a).data.toList=a.map λd=>UInt8.ofNat (48+d).toNat:=by rw[AR]
theorem EK(d:Int)(h:0<=d/\d<=9):(UInt8.ofNat (48+d).toNat).toNat=(48+d).toNat:=by
 rw[UInt8.toNat_ofNat'];omega
theorem KB(d e:Int)(h:0<=d/\d<=9)(a:0<=e/\e<=9):(UInt8.ofNat (48+d).toNat=UInt8.ofNat (48+e).toNat)↔d=e:=by
 refine⟨λq=>?_,λq=>by rw[q]⟩;have:=congrArg UInt8.toNat q;rw[EK d h,EK e a] at this;omega
theorem MX(a:AG)(c:Int)(h:∀d∈a,d=c):(⟨(Lib.trimB (tx a).data.toList (UInt8.ofNat (48+c).toNat)).toArray⟩:AB)={data:=#[]}:=by
 rw[eP _ _ λb e=>by
  rw[FP] at e;obtain⟨d,f,rfl⟩:=List.mem_map.1 e;rw[h d f]]
theorem Ke(a:AG)(c:Int)(f:Au a)(g:0<=c/\c<=9)(h:¬∀d∈a,d=c):(⟨(Lib.trimB (tx a).data.toList (UInt8.ofNat (48+c).toNat)).toArray⟩:AB).toList.isEmpty=false:=by
 rw[ByteArray.toList_eq];show(Lib.trimB (tx a).data.toList (UInt8.ofNat (48+c).toNat)).isEmpty=false
 rw[List.isEmpty_eq_false_iff];intro i;refine W8 _ _ ?_ i;rw[FP];apply Classical.byContradiction;intro j;refine h λd b=>?_;apply Classical.byContradiction;intro k;exact j ⟨_,List.mem_map.2 ⟨d,b,rfl⟩,λe=>k ((KB d c (f d b) g).1 e)⟩
theorem j9(a b:AG)(f:Au a)(g:Au b)(c:a.length=b.length):Lib.compareBytes (tx a).data.toList (tx b).data.toList=if vl a<vl b then -1 else if vl a=vl b then 0 else 1:=by
 rw[FP,FP];induction a generalizing b with
 |nil=>
  cases b with
  |nil=>rfl
  |cons y s=>cases c
 |cons x r ih=>
  cases b with
  |nil=>cases c
  |cons y s=>
   have i:r.length=s.length:=by simpa using c
   have j:Au r:=λd e=>f d (GH _ e);have k:Au s:=λd e=>g d (GH _ e);have l:=f x Gx;have n:=g y Gx;have z:=AZ r j;have w:=AZ s k;rw[List.map_cons,List.map_cons];show(if UInt8.ofNat (48+x).toNat<UInt8.ofNat (48+y).toNat then(-1:Int) else if UInt8.ofNat (48+y).toNat<UInt8.ofNat (48+x).toNat then 1 else Lib.compareBytes _ _)=_
   rw[ih s j k i,Br,Br];rw[<-i] at w ⊢;have A:(0:Int)<10^r.length:=Int.pow_pos (by decide);generalize (10:Int)^r.length=m at*
   generalize vl r=u at*
   generalize vl s=v at*
   have o:(UInt8.ofNat (48+x).toNat<UInt8.ofNat (48+y).toNat)↔x<y:=by
    rw[UInt8.lt_iff_toNat_lt,EK x l,EK y n];omega
   have p:(UInt8.ofNat (48+y).toNat<UInt8.ofNat (48+x).toNat)↔y<x:=by
    rw[UInt8.lt_iff_toNat_lt,EK x l,EK y n];omega
   by_cases q:x<y
   ·rw[zyp (o.2 q)];have:m*(x+1)<=m*y:=NH (by omega) (by omega);rw[Int.mul_add] at this;rw[zyp (by omega)]
   ·rw[zyn λh=>q (o.1 h)];by_cases t:y<x
    ·rw[zyp (p.2 t)];have:m*(y+1)<=m*x:=NH (by omega) (by omega);rw[Int.mul_add] at this;rw[zyn (by omega),zyn (by omega)]
    ·rw[zyn λh=>t (p.1 h)];obtain rfl:x=y:=by omega
     simp only[show(u+m*x<v+m*x)=(u<v) from propext ⟨λh=>by omega,λh=>by omega⟩,show(u+m*x=v+m*x)=(u=v) from propext ⟨λh=>by omega,λh=>by omega⟩]
def L4(r m:Int)(rest:Bool):Int:=if r=0 then(if rest then 1 else 0) else if 2*r<m then 1 else if 2*r=m/\rest=false then 2 else 3
def V4(a:Int)(neg b:Bool)(p:Int):Bool:=
 if a=1 then decide (p=3)||(decide (p=2)&&b) else if a=3 then neg&&decide (p≠0) else if a=4 then !neg&&decide (p≠0) else if a=5 then decide (2<=p) else false
theorem L7(v:Int)(k:Nat)(rest:Bool):decide (L4 (v%10^k) (10^k) rest≠0)=BJ v k rest:=by
 unfold L4 BJ;by_cases h:v%10^k=0
 ·rw[zyp h,h];cases rest<;>rfl
 ·rw[zyn h,Bz h,Bool.or_true];refine Bz ?_;split
  ·decide
  ·split<;>decide
theorem Zh(v:Int)(k:Nat)(rest:Bool):
 decide (L4 (v%10^k) (10^k) rest=3)=decide (0<BU (v%10^k) (10^k) rest k)/\decide (L4 (v%10^k) (10^k) rest=2)=decide (BU (v%10^k) (10^k) rest k=0)
  /\decide (2<=L4 (v%10^k) (10^k) rest)=decide (0<=BU (v%10^k) (10^k) rest k):=by
 have e:(0:Int)<10^k:=Int.pow_pos (by decide);by_cases c:k=0
 ·subst c;have:v%10^0=0:=by rw[Int.pow_zero];omega
  unfold L4 BU;rw[zyp this,zyp rfl];cases rest<;>decide
 ·unfold L4 BU;rw[zyn c];generalize (10:Int)^k=m at*
  generalize v%m=r at*
  by_cases d:r=0
  ·subst d;rw[zyp rfl,zyp (show 2*(0:Int)<m by omega)];cases rest<;>decide
  ·rw[zyn d];by_cases a:2*r<m
   ·rw[zyp a,zyp a];decide
   ·rw[zyn a,zyn a];by_cases b:2*r=m/\rest=false
    ·rw[zyp b,zyp b];decide
    ·rw[zyn b,zyn b];decide
theorem YR(d:Int)(neg:Bool)(v:Int)(k:Nat)(rest:Bool):
 V4 d neg (decide ((v/10^k)%2=1)) (L4 (v%10^k) (10^k) rest)=Ft d neg v k rest:=by
 unfold Ft jl mI V4;obtain⟨a,b,c⟩:=Zh v k rest;rw[L7,a,b,c,Bool.and_comm neg,Bool.and_comm (!neg)]
theorem S7(a:AG)(h:AJ a)(k n:Nat)(f:(Ak (k+1) a).length=n+k):AJ ((Ak (k+1) a).take n):=by
 have i:=C9 (k+1) a;have b:=Ja (k+1) a h.1;by_cases j:a.length<=k
 ·obtain rfl:n=1:=by omega
  unfold Ak;rw[show k+1-a.length=(k-a.length)+1 by omega,List.replicate_succ,List.cons_append,Hy,List.take_zero];exact BL 0 (by decide) (by decide)
 ·have e:Ak (k+1) a=a:=by unfold Ak;rw[show k+1-a.length=0 by omega];rfl
  rw[e] at f b ⊢;refine⟨λd g=>b d (List.mem_of_mem_take g),by rw[FQ];omega,?_⟩;by_cases l:n=1
  ·left;rw[FQ];omega
  ·right
   rcases h.2.2 with c|c
   ·omega
   ·cases a with
    |nil=>exact absurd h.2.1 (by decide)
    |cons x r=>
     obtain⟨m,rfl⟩:∃m,n=m+1:=⟨n-1,by omega⟩;exact c
theorem ZF(L:AG)(h:∀d∈L,d=9):vl L+1=10^L.length:=by
 induction L with
 |nil=>rfl
 |cons x r ih=>
  have:=ih λd a=>h d (GH _ a);rw[Br,h x Gx,List.length_cons,Int.pow_succ];omega
theorem O6(L:AG)(c:Au L)(h:¬∀d∈L,d=9):vl L+1<10^L.length:=by
 induction L with
 |nil=>exact absurd (λd a=>by cases a) h
 |cons x r ih=>
  have f:Au r:=λd a=>c d (GH _ a);have i:=c x Gx;have b:=AZ r f;have j:(0:Int)<10^r.length:=Int.pow_pos (by decide);rw[Br,List.length_cons,Int.pow_succ];by_cases g:x=9
  ·subst g;have:=ih f λq=>h λd a=>by
    rcases List.mem_cons.1 a with e|e
    ·exact e
    ·exact q d e
   omega
  ·have:10^r.length*(x+1)<=10^r.length*9:=NH (by omega) (by omega);rw[Int.mul_add] at this;generalize (10:Int)^r.length*x=q at*
   omega
theorem mK(n:Nat):vl (1::List.replicate n 0)=10^n:=by
 have:=DN n [];rw[List.append_nil] at this;rw[Br,GG,this];show(0:Int)+_=_
 omega
theorem W1(n:Nat):AJ (1::List.replicate n 0):=by
 refine⟨λd a=>?_,by simp,.inr (by show(1:Int)≠0;decide)⟩;rcases List.mem_cons.1 a with e|e
 ·omega
 ·have:=(List.mem_replicate.1 e).2;omega
theorem Zs(n:Nat):(⟨(Lib.repeatL [48] n).toArray⟩:AB)=tx (List.replicate n 0):=by
 have e:∀n,Lib.repeatL [48] n=List.replicate n 48:=λn=>by
  have:=Lib.repeatL_replicate 48 1 n;rw[Nat.mul_one] at this;exact this
 apply De;rw[AR,e];simp
theorem XW(L:AG)(h:AJ L)(c:L.length<=200)(e:¬∀d∈L,d=9):Mi (tx L) {data:=#[49]}=tx (nt (vl L+1)):=by
 have b:=O6 L h.1 e;have m:=AZ L h.1;have f:({data:=#[49]}:AB)=tx [1]:=SC.symm;have a:=D2 200 L h (by omega);have g:=D2 200 [1] (BL 1 (by decide) (by decide)) (by decide);have i:nv (tx L)=vl L:=by
  obtain⟨n,o,p⟩:=Fk 200 (tx L) a;have:dl (tx L)=L:=by
   unfold dl;rw[FP,List.map_map];refine(List.map_congr_left λd j=>?_).trans (List.map_id' L);have:=h.1 d j;show(((UInt8.ofNat (48+d).toNat).toNat:Int))-48=d
   rw[EK d this];omega
  unfold nv;rw[this]
 have k:nv (tx [1])=1:=by decide+kernel
 unfold Mi;rw[f,i,k];have l:M3 (tx L) (tx [1])=true:=by unfold M3;rw[a,g];rfl
 rw[l,zyp rfl];unfold DE;have q:(10:Int)^L.length<=10^200:=by exact_mod_cast (Nat.pow_le_pow_right (by decide) c:10^L.length<=10^200)
 have r:(10:Int)^200<=10^500:=by decide+kernel
 have s:=B5 (vl L+1) (by omega) (by omega);rw[zyp (Bu _ s.1 200 (by decide) (by rw[s.2];omega))]
def Kg(L:AG):Prop:=Au L/\(L=[]\/L.getD (L.length-1) 0≠0)
def Ac(n:Int)(k:Nat):Prop:=n<10^k
theorem I4(L:AG)(p:Nat)(a:p<L.length):lv L=lv (L.take p)+10^p*(L.getD p 0+10*lv (L.drop (p+1))):=by
 have e:L=L.take p++(L[p]::L.drop (p+1)):=by
  rw[<-List.drop_eq_getElem_cons a,List.take_append_drop]
 have c:(L.take p).length=p:=by rw[FQ];omega
 have b:=CT (L.take p) (L[p]::L.drop (p+1));rw[<-e,c] at b;rw[b];simp[lv,List.getD,a]
theorem GY(L:AG)(p:Nat)(a:p<L.length):lv (L.take (p+1))=lv (L.take p)+10^p*L.getD p 0:=by
 have b:(L.take p).length=p:=by rw[FQ];omega
 rw[List.take_succ_eq_append_getElem a,CT,b];simp[lv,List.getD,a]
theorem Te(L:AG)(p:Nat)(d:Int)(a:p<L.length):lv (L.set p d)=lv L+10^p*(d-L.getD p 0):=by
 have c:=I4 L p a;have b:=I4 (L.set p d) p (by simpa using a);rw[List.take_set_of_le (by omega),List.drop_set_of_lt (by omega)] at b;have e:(L.set p d).getD p 0=d:=by simp[List.getD,a]
 rw[e] at b;rw[b,c];simp only[Int.mul_add,Int.mul_sub];omega
theorem Tc(L:AG)(p:Nat)(d:Int)(h:Au L)(b:0<=d)(e:d<=9):Au (L.set p d):=λx a=>by
 rcases List.mem_or_eq_of_mem_set a with c|c
 ·exact h x c
 ·omega
theorem LW(L:AG)(p:Nat)(h:Au L):Au (L.take p):=λx a=>h x (List.mem_of_mem_take a)
theorem GO(n:Nat):Au (List.replicate n 0):=λx a=>by
 have:=(List.mem_replicate.1 a).2;omega
theorem Us(L:AG)(d:Int)(h:Au L)(b:0<=d)(e:d<=9):Au (L++[d]):=λx a=>by
 rcases List.mem_append.1 a with c|c
 ·exact h x c
 ·simp at c;omega
theorem UW(L M:AG)(h:Au L)(a:Au M):Au (L++M):=λx b=>by
 rcases List.mem_append.1 b with c|c
 ·exact h x c
 ·exact a x c
theorem IS(n:Nat):lv (List.replicate n 0)=0:=by
 induction n with
 |zero=>rfl
 |succ n ih=>rw[List.replicate_succ];simp[lv,ih]
theorem O2(L:AG)(p:Nat)(h:Au L)(a:p<=L.length):0<=lv (L.take p)/\lv (L.take p)<10^p:=by
 have b:=IG (L.take p) (LW L p h);rw[FQ,Nat.min_eq_left a] at b;exact b
theorem Ll(L:AG)(h:Kg L)(a:0<L.length):10^(L.length-1)<=lv L:=by
 obtain⟨e,f⟩:=h;have f:L.getD (L.length-1) 0≠0:=by
  rcases f with c|c
  ·rw[c] at a;simp at a
  ·exact c
 have s:=GY L (L.length-1) (by omega);rw[Nat.sub_add_cancel a,List.take_length] at s;have b:=(O2 L (L.length-1) e (by omega)).1;have d:=Ah L e (L.length-1);have p:(0:Int)<10^(L.length-1):=Int.pow_pos (by decide);have:10^(L.length-1)*1<=10^(L.length-1)*L.getD (L.length-1) 0:=NH (by omega) (CP p);omega
theorem Bk(L:AG)(k:Nat)(h:Kg L)(a:Ac (lv L) k):L.length<=k:=by
 rcases Nat.lt_or_ge k L.length with c|c
 ·exfalso;have l:=Ll L h (by omega);have m:=AI k (L.length-1) (by omega);unfold Ac at a;omega
 ·exact c
theorem IY(X Y:AG)(a:Au X)(c:Kg Y)(d:X.length<Y.length):lv X<lv Y:=by
 have b:=(IG X a).2;have l:=Ll Y c (by omega);have m:=AI X.length (Y.length-1) (by omega);omega
theorem Y4(X Y:AG)(p:Nat)(a:Au X)(b:Au Y)(c:p<X.length)(d:p<Y.length)(e:X.drop (p+1)=Y.drop (p+1))(g:X.getD p 0<Y.getD p 0):lv X<lv Y:=by
 rw[I4 X p c,I4 Y p d,e];have h:=O2 X p a (by omega);have i:=O2 Y p b (by omega);have f:(0:Int)<10^p:=Int.pow_pos (by decide);have:10^p*(X.getD p 0+1)<=10^p*Y.getD p 0:=NH (by omega) (CP f);simp only[Int.mul_add] at this ⊢;omega
theorem Vr(X Y:AG)(p:Nat)(a:p<X.length)(b:p<Y.length)(d:X.drop (p+1)=Y.drop (p+1))(c:X.getD p 0=Y.getD p 0):X.drop p=Y.drop p:=by
 rw[List.drop_eq_getElem_cons a,List.drop_eq_getElem_cons b,d];simp[List.getD,a,b] at c;rw[c]
theorem gf(L:AG)(h:Kg L)(a:L≠[])(b:L.length<=500):L.reverse=nt (lv L):=by
 refine BW L.reverse _ ⟨DO L h.1,?_,?_⟩ (Pq L) (by simpa using b)
 ·rw[List.length_reverse];exact List.length_pos_iff.2 a
 ·refine .inr ?_;have d:=List.length_pos_iff.2 a;rcases h.2 with c|c
  ·exact absurd c a
  ·intro e;apply c;rw[List.headD_eq_head?_getD,List.head?_reverse,List.getLast?_eq_getElem?] at e;exact e
theorem Wf:nt 0=[0]:=(BW [0] 0 Az rfl (by decide)).symm
theorem RH(L:AG)(h:Kg L)(a:lv L=0):L=[]:=by
 rcases Nat.eq_zero_or_pos L.length with c|c
 ·exact List.length_eq_zero_iff.1 c
 ·have:=Ll L h c;have b:(0:Int)<10^(L.length-1):=Int.pow_pos (by decide);omega
theorem QI(D:AG)(j:Nat)(V c s x:Int)(a:D.length=j)(h:lv D+10^j*c=V)(d:s=x+c):lv (D++[s%10])+10^(j+1)*(s/10)=V+10^j*x:=by
 rw[CT,a];simp only[lv,Int.pow_succ];have k:∀p r q:Int,r+10*q=x+c->p*(r+10*0)+p*10*q=p*x+p*c:=λp r q b=>by
  rw[Int.mul_zero,Int.add_zero,Int.mul_assoc,<-Int.mul_add,b,Int.mul_add]
 have e:=k (10^j) (s%10) (s/10) (by omega);omega
theorem MA(L:AG)(j:Nat)(a:L.length<=j):pv (λi=>L.getD i 0) j=lv L:=by
 rw[U2 _ L.length j a (λi b=>by simp[List.getD,List.getElem?_eq_none b]),U3 L L.length (AS _),List.take_length]
theorem LY(D:AG)(n j:Nat)(d:Int)(a:D.length=j)(c:j<n):(D++List.replicate (n-j) 0).set j d=(D++[d])++List.replicate (n-(j+1)) 0:=by
 rw[List.set_append_right _ _ (by omega),a,Nat.sub_self];obtain⟨m,b⟩:∃m,n-j=m+1:=⟨n-j-1,by omega⟩;rw[b,List.replicate_succ,List.set_cons_zero,show n-(j+1)=m by omega,List.append_assoc];rfl
theorem Mp(D:AG)(n k:Nat)(d:Int)(b:D.length=k)(c:k<n):(List.replicate (n-k) 0++D).set (n-1-k) d=List.replicate (n-(k+1)) 0++(d::D):=by
 rw[List.set_append_left _ _ (by simp;omega)];have:(List.replicate (n-k) (0:Int)).set (n-1-k) d=List.replicate (n-(k+1)) 0++[d]:=by
  obtain⟨m,a⟩:∃m,n-k=m+1:=⟨n-k-1,by omega⟩;rw[a,show n-1-k=m by omega,show n-(k+1)=m by omega,List.replicate_succ',List.set_append_right _ _ (by simp),GG,Nat.sub_self];rfl
 rw[this,List.append_assoc];rfl
def VX(w:AA)(v:AK)(L:AG):Prop:=∃g a:Nat,v=.slice (some ⟨g,0,none⟩) L.length a/\L.length<=a/\g<w.heap.size/\∀i,i<L.length->w.cell? ⟨g,i,none⟩=some (.int .u8 (L.getD i 0))
def Eu(w:AA)(v:AK)(n:Int):Prop:=∃L,VX w v L/\Kg L/\lv L=n
def mS(b:Nat)(v:AK):Prop:=∃g n a:Nat,v=.slice (some ⟨g,0,none⟩) n a/\b<=g
def CD(w:AA)(b:Nat)(v:AK)(n:Int):Prop:=Eu w v n/\mS b v
theorem CD.mono{w:AA}{b c:Nat}{v:AK}{n:Int}(h:CD w b v n)(a:c<=b):CD w c v n:=by
 obtain⟨h,g,m,d,e,f⟩:=h;exact⟨h,g,m,d,e,DT a f⟩
theorem VX.below{w a:AA}{B:Nat}{v:AK}{L:AG}(h:VX w v L)(b:AD B w a)(m:w.heap.size<=B):VX a v L:=by
 obtain⟨g,c,e,d,f,j⟩:=h;have k:g<a.heap.size:=by
  have:=b.block g (by omega);rw[Array.getElem?_eq_getElem f] at this;exact(Array.getElem?_eq_some_iff.1 this).1
 exact⟨g,c,e,d,k,λi l=>(b.cell (p:=⟨g,i,none⟩) (by show g<B;omega)).trans (j i l)⟩
theorem Eu.below{w a:AA}{B:Nat}{v:AK}{n:Int}(h:Eu w v n)(b:AD B w a)(c:w.heap.size<=B):Eu a v n:=by
 obtain⟨L,h,r⟩:=h;exact⟨L,h.below b c,r⟩
theorem CD.below{w a:AA}{B b:Nat}{v:AK}{n:Int}(h:CD w b v n)(c:AD B w a)(d:w.heap.size<=B):CD a b v n:=⟨h.1.below c d,h.2⟩
theorem CD.set{w:AA}{b:Nat}{v:AK}{n:Int}(h:CD w b v n)(q k:Nat)(x:AK)(p:q<b):CD (w.setCell ⟨q,k,none⟩ x) b v n:=by
 obtain⟨⟨L,⟨g,c,rfl,d,f,j⟩,r⟩,s,m,t,e,l⟩:=h;cases e
 have a:(w.setCell ⟨q,k,none⟩ x).heap[g]?=w.heap[g]?:=Below.heap_setCell _ _ _ _ (λe=>by have:g=q:=e;omega);refine⟨⟨L,⟨g,c,rfl,d,?_,λi o=>?_⟩,r⟩,g,_,_,rfl,l⟩
 ·rw[Array.getElem?_eq_getElem f] at a;exact(Array.getElem?_eq_some_iff.1 a).1
 ·rw[<-j i o];unfold World.cell?;rw[a]
def Bl(w:AA)(base g n:Nat)(L:AG):Prop:=w.ownsRow base 5 1 (.slice (some ⟨g,0,none⟩) n n) n (L.map (Value.int .u8))
theorem Bl.len{w:AA}{base g n:Nat}{L:AG}(h:Bl w base g n L):L.length=n:=by
 have:=h.1;simpa using this
theorem Bl.lt{w:AA}{base g n:Nat}{L:AG}(h:Bl w base g n L):base<=g/\g<w.heap.size:=by
 obtain⟨c,h⟩:=h;rcases h with⟨h,_⟩|⟨d,f,i,e,a,b,r⟩
 ·cases h
 ·cases e;exact⟨a,(Array.getElem?_eq_some_iff.1 b).1⟩
theorem Bl.cell{w:AA}{base g n:Nat}{L:AG}(h:Bl w base g n L)(k:Nat)(a:k<n):w.cell? ⟨g,k,none⟩=some (.int .u8 (L.getD k 0)):=by
 have b:=h.len;rw[World.ownsRow.cellAt h k (by omega)];simp only[List.getElem?_map,List.getD];rw[Dq (by omega)];rfl
theorem Bl.frozen{w:AA}{base g n:Nat}{L:AG}(h:Bl w base g n L)(k:Nat):w.frozen? ⟨g,k,none⟩=false:=World.ownsRow.frozenAt h k
theorem Bl.set{w:AA}{base g n:Nat}{L:AG}(h:Bl w base g n L)(k:Nat)(x:Int):Bl (w.setCell ⟨g,k,none⟩ (.int .u8 x)) base g n (L.set k x):=by
 have:=(World.ownsRow.stored h k (.int .u8 x)).1;unfold Bl;simpa using this
theorem Bl.rd{w:AA}{base g n:Nat}{L:AG}(h:Bl w base g n L):VX w (.slice (some ⟨g,0,none⟩) n n) L:=
 ⟨g,n,by rw[h.len],by rw[h.len];exact AS _,h.lt.2,λi a=>h.cell i (by rw[<-h.len];exact a)⟩
theorem Bl.below{w a:AA}{base g n B:Nat}{L:AG}(h:Bl w base g n L)(b:AD B w a)(c:w.heap.size<=B):Bl a base g n L:=Ct h b c
def ox:AK->Nat
 |.slice _ n _=>n
 |_=>0
theorem K8(v:AK)(L:AG)(p:Nat)(w:AA)(h:VX w v L)(d:p<=100000)(e:L.length<=100000):
 cE 224 #[v,.int .i64 (p:Int)] w (.int .u8 (L.getD p 0)):=by
 obtain⟨g,f,rfl,i,j,a⟩:=h;by_cases b:p<L.length
 ·have k:=a p b;have c:(p:Int)<(L.length:Int):=by omega
  generalize L.getD p 0=x at*
  clear a;generalize L.length=n at*
  go_enter func224,ntmps224;go_wp2;go_ret;exact⟨rfl,rfl⟩
 ·have E:Hid (L.getD p 0=0):=by show _=_;simp[List.getD,List.getElem?_eq_none (Nat.le_of_not_lt b)]
  have c:¬(p:Int)<(L.length:Int):=by omega
  rw[E];clear a E;generalize L.length=n at*
  go_enter func224,ntmps224;go_wp2;go_ret;exact⟨rfl,rfl⟩
theorem DI(v:AK)(L:AG)(w:AA)(b:Nat)(h:VX w v L)(a:mS b v)(j:Au L)(C:L.length<=100000):
 Calls prog 218 #[v] w λe D=>∃u,e=.returned u/\CD w b u (lv L)/\D=w:=by
 obtain⟨g,f,rfl,F,G,l⟩:=h;obtain⟨O,P,Q,H,q⟩:=a;cases H
 have r:=zq l;have I:Hid (∀i,0<=L.getD i 0/\L.getD i 0<=9):=λi=>Ah L j i;have o:Hid (∀m,m<=L.length->lv (L.take m)=lv L->(m=0\/L.getD (m-1) 0≠0)->CD w b (.slice (some ⟨g,0,none⟩) m f) (lv L)):=λm s a d=>by
  have p:(L.take m).length=m:=by rw[FQ];omega
  refine⟨⟨L.take m,⟨g,f,by rw[p],by omega,G,λi t=>?_⟩,⟨LW L m j,?_⟩,a⟩,g,m,f,rfl,q⟩
  ·rw[p] at t;rw[l i (by omega)];simp[List.getD,List.getElem?_take_of_lt t]
  ·rcases d with c|c
   ·exact .inl (List.length_eq_zero_iff.1 (by omega))
   ·rcases Nat.eq_zero_or_pos m with J|J
    ·exact .inl (List.length_eq_zero_iff.1 (by omega))
    ·refine .inr ?_;rw[p];simpa[List.getD,List.getElem?_take_of_lt (show m-1<m by omega)] using c
 have y:Hid (∀k,k<L.length->L.getD k 0=0->lv (L.take (k+1))=lv (L.take k)):=λk K d=>by
  rw[GY L k K,d];omega
 have z:Hid (lv (L.take L.length)=lv L):=by show _=_;rw[List.take_length]
 obtain⟨n,A⟩:=zxe L.length;rw[A] at r o y z C F ⊢;clear l j A q;go_enter func218,ntmps218;go_wp2;go_loop [0] (λx=>∃m:Nat,m<=n/\x=.slice (some ⟨g,0,none⟩) m f/\Hid (lv (L.take m)=lv L)) (λx=>ox x);case atStart=>exact⟨n,AS _,rfl,z⟩
 case round=>
  obtain⟨m,s,rfl,a⟩:=hrel;rcases Nat.eq_zero_or_pos m with B|B
  ·subst B;have E:=zq (o 0 (by omega) a (.inl rfl));go_wp2;go_ret;exact⟨_,rfl,E,rfl⟩
  ·obtain⟨k,rfl⟩:∃k,m=k+1:=⟨m-1,by omega⟩;have M:=r k (by omega);have R:=I k;have S:(0:Int)<(k:Int)+1:=by omega
   by_cases d:L.getD k 0=0
   ·have N:Hid (lv (L.take k)=lv L):=by
     show _=_
     rw[<-y.out k (by omega) d];exact a
    rw[d] at M;clear d a;go_wp2;go_round;case rel=>exact⟨k,by omega,rfl,N⟩
    case measure=>simp[ox]
   ·have E:=zq (o (k+1) s a (.inr (by simpa using d)));generalize L.getD k 0=x at*
    clear a;go_wp2;go_ret;exact⟨_,rfl,E,rfl⟩
theorem E8(x:Int)(w:AA):cE 295 #[.int .i64 x] w (.bool false):=by
 go_enter func295,ntmps295;go_wp2;go_ret;exact⟨by simp,rfl⟩
theorem G8(x:Int)(w:AA):cE 296 #[.int .u8 x] w (.bool false):=by
 go_enter func296,ntmps296;go_wp2;go_ret;exact⟨by simp,rfl⟩
theorem ZD(x y:Int)(w:AA):cE 258 #[.int .i64 x,.int .i64 y] w (.int .i64 (Ay x y)):=by
 have b:Hid ((x<y->Ay x y=-1)/\(y<x->Ay x y=1)/\(x=y->Ay x y=0)):=⟨Ck x y,Du x y,λe=>e▸Kz x⟩;generalize Ay x y=C at*
 by_cases c:x<y
 ·have E:=zq (b.1 c);go_enter func258,ntmps258;go_wp2_with fail;refine(E8 x _).mono ?_;rintro e a ⟨rfl,rfl⟩;go_wp2_with fail;refine(E8 y _).mono ?_;rintro e a ⟨rfl,rfl⟩;go_wp2;go_ret;exact⟨by rw[E];rfl,rfl⟩
 ·by_cases d:y<x
  ·have E:=zq (b.2.1 d);go_enter func258,ntmps258;go_wp2_with fail;refine(E8 x _).mono ?_;rintro e a ⟨rfl,rfl⟩;go_wp2_with fail;refine(E8 y _).mono ?_;rintro e a ⟨rfl,rfl⟩;go_wp2;go_ret;exact⟨by rw[E];rfl,rfl⟩
  ·have E:=zq (b.2.2 (by omega));go_enter func258,ntmps258;go_wp2_with fail;refine(E8 x _).mono ?_;rintro e a ⟨rfl,rfl⟩;go_wp2_with fail;refine ce (E8 y _) ?_;go_wp2;go_ret;exact⟨by rw[E];rfl,rfl⟩
theorem gd(x y:Int)(w:AA):cE 259 #[.int .u8 x,.int .u8 y] w (.int .i64 (Ay x y)):=by
 have b:Hid ((x<y->Ay x y=-1)/\(y<x->Ay x y=1)/\(x=y->Ay x y=0)):=⟨Ck x y,Du x y,λe=>e▸Kz x⟩;generalize Ay x y=C at*
 by_cases c:x<y
 ·have E:=zq (b.1 c);go_enter func259,ntmps259;go_wp2_with fail;refine(G8 x _).mono ?_;rintro e a ⟨rfl,rfl⟩;go_wp2_with fail;refine(G8 y _).mono ?_;rintro e a ⟨rfl,rfl⟩;go_wp2;go_ret;exact⟨by rw[E];rfl,rfl⟩
 ·by_cases d:y<x
  ·have E:=zq (b.2.1 d);go_enter func259,ntmps259;go_wp2_with fail;refine(G8 x _).mono ?_;rintro e a ⟨rfl,rfl⟩;go_wp2_with fail;refine(G8 y _).mono ?_;rintro e a ⟨rfl,rfl⟩;go_wp2;go_ret;exact⟨by rw[E];rfl,rfl⟩
  ·have E:=zq (b.2.2 (by omega));go_enter func259,ntmps259;go_wp2_with fail;refine(G8 x _).mono ?_;rintro e a ⟨rfl,rfl⟩;go_wp2_with fail;refine ce (G8 y _) ?_;go_wp2;go_ret;exact⟨by rw[E];rfl,rfl⟩
theorem gU(X Y:AG)(a:Kg X)(b:Kg Y)(d:X.length≠Y.length):Ay (X.length:Int) (Y.length:Int)=Ay (lv X) (lv Y):=by
 rcases Nat.lt_or_ge X.length Y.length with c|c
 ·rw[Ck _ _ (by omega),Ck _ _ (IY X Y a.1 b c)]
 ·rw[Du _ _ (by omega),Du _ _ (IY Y X b.1 a (by omega))]
theorem fi(X Y:AG)(p:Nat)(a:Kg X)(b:Kg Y)(d:p<X.length)(e:p<Y.length)(f:X.drop (p+1)=Y.drop (p+1))(g:X.getD p 0≠Y.getD p 0):Ay (X.getD p 0) (Y.getD p 0)=Ay (lv X) (lv Y):=by
 rcases Int.lt_or_gt_of_ne g with c|c
 ·rw[Ck _ _ c,Ck _ _ (Y4 X Y p a.1 b.1 d e f c)]
 ·rw[Du _ _ c,Du _ _ (Y4 Y X p b.1 a.1 e d f.symm c)]
theorem CV(x y:AK)(a b:Int)(w:AA)(P:Eu w x a)(Q:Eu w y b)(v:Ac a 1000)(z:Ac b 1000):
 cB 216 #[x,y] w (.int .i64 (Ay a b)):=by
 obtain⟨X,⟨g,cg,rfl,R,S,A⟩,l,rfl⟩:=P;obtain⟨Y,⟨k,ck,rfl,H,T,B⟩,o,rfl⟩:=Q;have U:=Bk X 1000 l v;have V:=Bk Y 1000 o z;by_cases r:X.length=Y.length
 ·have I:=zq A;have D:=zq B;have J:=zq λp s c K=>fi X Y p l o s (by omega) c K;have L:=zq λp s c f=>Vr X Y p s (by omega) c f;have Z:Hid (X.drop 0=Y.drop 0->Ay (lv X) (lv Y)=0):=λh=>by
   rw[List.drop_zero,List.drop_zero] at h;rw[h];exact Kz _
  have M:Hid (X.drop X.length=Y.drop X.length):=by show _=_;rw[List.drop_length,r,List.drop_length]
  generalize Ay (lv X) (lv Y)=C at*
  rw[<-r] at H D ⊢;obtain⟨n,N⟩:=zxe X.length;rw[N] at I D J L M U R H ⊢;clear A B l o V r v z N;go_enter func216,ntmps216;go_wp2;go_loopw [19] (λi wr=>∃q:Nat,q<=n/\i=.int .i64 (q:Int)/\Hid (X.drop (n-q)=Y.drop (n-q))/\AD w.heap.size w wr) (λi _=>n-(intOf i).toNat);case atStart=>exact⟨0,B9 _,rfl,M,BI _ _⟩
  case round=>
   obtain⟨q,hq,rfl,c,j⟩:=hrel;by_cases ag:q<n
   ·obtain⟨p,s⟩:=zxe (n-1-q);have t:Hid (X.drop (p+1)=Y.drop (p+1)):=by
     have:=c.out;rwa[show n-q=p+1 by omega] at this
    obtain⟨ep,ai⟩:(n:Int)-1-(q:Int)=(p:Int)/\(p:Int)<(n:Int):=by omega
    obtain⟨aj,u⟩:(q:Int)<(n:Int)/\p<n:=by omega
    have O:=(j.cell (p:=⟨g,p,none⟩) S).trans (I p u);have F:=(j.cell (p:=⟨k,p,none⟩) T).trans (D p u);by_cases f:X.getD p 0=Y.getD p 0
    ·have HN:Hid (X.drop (n-(q+1))=Y.drop (n-(q+1))):=by
      show _=_
      rw[show n-(q+1)=p by omega];exact L p u t f
     rw[<-f] at F;generalize X.getD p 0=d at*
     clear f c t;go_wp2;go_quiet (fail);go_wp2;go_roundw;case rel=>exact⟨q+1,by omega,by go_num,HN,Go.below_drewN j _⟩
     case measure=>simp[intOf];omega
    ·have E:=zq (J p u t f);have G:Hid (cF 259 #[.int .u8 (X.getD p 0),.int .u8 (Y.getD p 0)] (.int .i64 C)):=λW=>by
      rw[<-E];exact gd _ _ W
     have ak:(X.getD p 0==Y.getD p 0)=false:=beq_eq_false_iff_ne.2 f;generalize X.getD p 0=d at*
     generalize Y.getD p 0=d' at*
     clear c t E;go_wp2;go_quiet (fail);have h3:(wr.drewN nq).cell? ⟨g,p,none⟩=some (.int .u8 d):=by simpa using O
     have h4:(wr.drewN nq).cell? ⟨k,p,none⟩=some (.int .u8 d'):=by simpa using F
     have ac:=Go.below_drewN j nq;clear O F j;generalize wr.drewN nq=an at*
     go_wp2;go_quiet (first|(go_at_call 259;refine Calls.quiet_of_same (G _)));go_wp2;go_ret;exact⟨rfl,Go.below_drewN ac _⟩
   ·have e:q=n:=by omega
    subst e;have E:=zq (Z (by have:=c.out;rwa[Nat.sub_self] at this));go_wp2;go_ret;exact⟨by rw[E];rfl,j⟩
 ·have E:=zq (gU X Y l o r);have G:Hid (cF 258 #[.int .i64 (X.length:Int),.int .i64 (Y.length:Int)] (.int .i64 (Ay (lv X) (lv Y)))):=λW=>by
   rw[<-E];exact ZD _ _ W
  have K:((X.length:Int)==(Y.length:Int))=false:=beq_eq_false_iff_ne.2 (by omega);generalize Ay (lv X) (lv Y)=C at*
  generalize X.length=n at*
  generalize Y.length=m at*
  clear A B l o E v z;go_enter func216,ntmps216;go_wp2_with fail;refine ce (G _) ?_;go_wp2;go_ret;exact⟨rfl,BI _ _⟩
theorem Td:(prog.info? 5).map (λi=>(i.zero,i.size,i.bytes))=some (some (.int .u8 0),1,1):=by kernel_rfl
theorem NV(w:AA)(n:Nat)(l:n<=100000):∃a,(Instr.makeSlice 183 (.int .i64 (n:Int)) (.int .i64 (n:Int))).run prog w=.ok (.slice (some ⟨w.heap.size,0,none⟩) n n) a/\Bl a w.heap.size w.heap.size n (List.replicate n 0)/\AD w.heap.size w a:=by
 obtain⟨c,d,e,f,g⟩:=info_parts Td;obtain⟨a,h,b,i⟩:=run_make_full (P:=prog) w w.heap.size 183 5 c (.int .u8 0) 1 underlying183 d e f .i64 .i64 n (by rw[g];omega) (by unfold maxLen;omega) (AS _);refine⟨a,h,?_,Below.grown (BI _ _) i (AS _) (λk j=>by cases j)⟩;rw[show(Value.int .u8 0).cells=#[Value.int .u8 0] from rfl,toList_madeCells_one,Nat.mul_one] at b;unfold Bl;simpa using b
theorem Bl.below1{w a:AA}{base g n:Nat}{L:AG}(h:Bl w base g n L)(b:AD w.heap.size w a):Bl a base g n L:=h.below b (AS _)
theorem Ze(X Y D:AG)(n:Nat)(c:Int)(a:Au X)(b:Au Y)(d:Au D)(g:D.length=n)(j:n=max X.length Y.length+1)(k:0<=c)(h:lv D+10^n*c=pv (λi=>X.getD i 0) n+pv (λi=>Y.getD i 0) n):lv D=lv X+lv Y:=by
 rw[MA X n (by omega),MA Y n (by omega)] at h;have l:=(IG X a).2;have m:=(IG Y b).2;have o:=AI X.length (n-1) (by omega);have p:=AI Y.length (n-1) (by omega);have r:=(IG D d).1;have e:(10:Int)^n=10^(n-1)*10:=by rw[<-Int.pow_succ];congr 1;omega
 have s:(0:Int)<10^(n-1):=Int.pow_pos (by decide);have f:c=0:=by
  rcases Int.lt_or_le 0 c with q|q
  ·exfalso;have:10^n*1<=10^n*c:=NH (by omega) (CP (Int.pow_pos (by decide)));omega
  ·omega
 rw[f] at h;omega
theorem Ju(x y:AK)(a b:Int)(w:AA)(hx:Eu w x a)(hy:Eu w y b)(L:Ac a 1000)(M:Ac b 1000):
 Calls prog 225 #[x,y] w λe C=>∃u,e=.returned u/\CD C w.heap.size u (a+b)/\AD w.heap.size w C:=by
 obtain⟨X,N,E,rfl⟩:=hx;obtain⟨Y,O,F,rfl⟩:=hy;have lX:=Bk X 1000 E L;have lY:=Bk Y 1000 F M;obtain⟨n,P⟩:=zxe (max X.length Y.length+1);obtain⟨Q,A,R,S⟩:=NV w n (by omega);have T:=zq R;have ag:Hid (∀p,p<=n->∀W,AD w.heap.size w W->cE 224 #[x,.int .i64 (p:Int)] W (.int .u8 (X.getD p 0))):=λp hp W I=>K8 x X p W (N.below I (AS _)) (by omega) (by omega);have ai:Hid (∀p,p<=n->∀W,AD w.heap.size w W->cE 224 #[y,.int .i64 (p:Int)] W (.int .u8 (Y.getD p 0))):=λp hp W I=>K8 y Y p W (O.below I (AS _)) (by omega) (by omega);have HE:=zq λD c t lD J h=>Ze X Y D n c E.1 F.1 t lD P.symm J h;have al:=zq λp=>Ah X E.1 p;have am:=zq λp=>Ah Y F.1 p;obtain⟨g,cg,rfl,-,-,-⟩:=N;obtain⟨k,ck,rfl,-,-,-⟩:=O;obtain⟨an,aG⟩:max (X.length:Int) (Y.length:Int)+1=(n:Int)/\n<=1001:=by omega
 clear E F L M R P;generalize X.length=q at*
 generalize Y.length=r at*
 have K:q<r->(Instr.makeSlice 183 (.int .i64 ((r:Int)+1)) (.int .i64 ((r:Int)+1))).run prog w=.ok (.slice (some ⟨w.heap.size,0,none⟩) n n) Q:=λh=>by
  rw[show(r:Int)+1=n by omega];exact A
 have U:¬q<r->(Instr.makeSlice 183 (.int .i64 ((q:Int)+1)) (.int .i64 ((q:Int)+1))).run prog w=.ok (.slice (some ⟨w.heap.size,0,none⟩) n n) Q:=λh=>by
  rw[show(q:Int)+1=n by omega];exact A
 clear A an;by_cases V:q<r;have ao:max (q:Int) (r:Int)=(r:Int):=by omega
 rotate_left
 have ao:max (q:Int) (r:Int)=(q:Int):=by omega
 all_goals first|have A:=K V|have A:=U V
 all_goals clear K U
 all_goals
  go_enter func225,ntmps225;go_wp2;go_loopw [6,19] (λc i wr=>∃(j:Nat) (D:AG) (f:Int),j<=n/\c=.int .u8 f/\i=.int .i64 (j:Int)/\0<=f/\f<=1/\Hid (Bl wr w.heap.size w.heap.size n (D++List.replicate (n-j) 0)/\D.length=j/\Au D/\lv D+10^j*f=pv (λi=>X.getD i 0) j+pv (λi=>Y.getD i 0) j)/\AD w.heap.size w wr) (λ_ i _=>n-(intOf i).toNat);case atStart=>exact⟨0,[],0,B9 _,rfl,rfl,by omega,by omega,⟨T,rfl,(λd hd=>by cases hd),rfl⟩,S⟩
  case round=>
   obtain⟨j,D,f,Z,rfl,rfl,J,c1,G,H⟩:=hrel;clear A T S;by_cases aa:j<n
   ·have aI:(j:Int)<(n:Int):=by omega
    have bx:=al j;have aK:=am j;have ab:=ag j Z wr H;have ac:=ai j Z wr H;have aq:=zq ab;have ar:=zq ac;clear ab ac;obtain⟨v,z,t,B⟩:=G.out;have aL:=v.cell j aa;have hf:=v.frozen j;have HN:Hid (∀s,s=X.getD j 0+Y.getD j 0+f->Bl (wr.setCell ⟨w.heap.size,j,none⟩ (.int .u8 (s%10))) w.heap.size w.heap.size n ((D++[s%10])++List.replicate (n-(j+1)) 0)/\(D++[s%10]).length=j+1/\Au (D++[s%10])/\lv (D++[s%10])+10^(j+1)*(s/10)=pv (λi=>X.getD i 0) (j+1)+pv (λi=>Y.getD i 0) (j+1)):=λs hs=>by
     refine⟨?_,by simp[z],Us D _ t (by omega) (by omega),?_⟩
     ·rw[<-LY D n j (s%10) z aa];exact v.set j (s%10)
     ·rw[QI D j _ f s (X.getD j 0+Y.getD j 0) z B hs];simp only[pv,Int.mul_comm (10^j),Int.add_mul];omega
    clear v z t B G;generalize (D++List.replicate (n-j) 0).getD j 0=o at*
    generalize X.getD j 0=l at*
    generalize Y.getD j 0=m at*
    have ht:Int.tmod (l+m+f) 10=(l+m+f)%10:=Int.tmod_eq_emod_of_nonneg (by omega);have hq:Int.tdiv (l+m+f) 10=(l+m+f)/10:=Int.tdiv_eq_ediv_of_nonneg (by omega);obtain⟨aP,K⟩:0<=(l+m+f)%10/\(l+m+f)%10<10:=by omega
    obtain⟨aw,ax⟩:0<=(l+m+f)/10/\(l+m+f)/10<=1:=by omega
    go_wp2_with fail;refine aq.mono ?_;rintro e w2 ⟨rfl,rfl⟩;go_wp2_with fail;refine cm ar λw3 az=>?_;obtain rfl:=az;go_wp2;go_roundw;case rel=>exact⟨j+1,D++[(l+m+f)%10],(l+m+f)/10,by omega,rfl,by go_num,aw,ax,HN _ rfl,H.setCell (AS _) _⟩
    case measure=>simp[intOf];omega
   ·have e:j=n:=by omega
    subst e;obtain⟨v,z,t,B⟩:=G.out;rw[Nat.sub_self,List.replicate_zero,List.append_nil] at v;have HT:Hid (Calls prog 218 #[.slice (some ⟨w.heap.size,0,none⟩) j j] wr λe C=>∃u,e=.returned u/\CD wr w.heap.size u (lv X+lv Y)/\C=wr):=by
     have:=DI _ D wr w.heap.size v.rd ⟨_,_,_,rfl,AS _⟩ t (by omega);rw[HE.out D f t z J B] at this;exact this
    clear v z t B G;go_wp2_with fail;refine HT.mono ?_;rintro e w2 ⟨u,rfl,hu,rfl⟩;have HU:=zq hu;clear hu;go_wp2;go_ret;exact⟨u,rfl,HU,H⟩
theorem WU(X Y D:AG)(n:Nat)(c:Int)(a:Kg X)(b:Kg Y)(d:Au D)(e:D.length=n)(j:n=X.length)(k:lv Y<=lv X)(l:0<=c)(h:lv D+10^n*(-c)=pv (λi=>X.getD i 0) n-pv (λi=>Y.getD i 0) n):lv D=lv X-lv Y:=by
 have m:Y.length<=X.length:=by
  rcases Nat.lt_or_ge X.length Y.length with q|q
  ·have:=IY X Y a.1 b q;omega
  ·exact q
 rw[MA X n (by omega),MA Y n (by omega)] at h;have f:=(IG D d).2;rw[e] at f;have g:c=0:=by
  rcases Int.lt_or_le 0 c with q|q
  ·exfalso;have:10^n*1<=10^n*c:=NH (by omega) (CP (Int.pow_pos (by decide)));rw[Int.mul_neg] at h;omega
  ·omega
 rw[g] at h;omega
theorem IT(x y:AK)(a b:Int)(w:AA)(S:Eu w x a)(T:Eu w y b)(K:Ac a 1000)(L:Ac b 1000)(M:b<=a):
 Calls prog 217 #[x,y] w λe z=>∃u,e=.returned u/\CD z w.heap.size u (a-b)/\AD w.heap.size w z:=by
 obtain⟨X,U,B,rfl⟩:=S;obtain⟨Y,N,C,rfl⟩:=T;have V:=Bk X 1000 B K;have lY:=Bk Y 1000 C L;obtain⟨n,H⟩:=zxe X.length;obtain⟨w1,Z,O,P⟩:=NV w n (by omega);have Q:=zq O;have aa:Hid (∀p,p<=n->∀W,AD w.heap.size w W->cE 224 #[y,.int .i64 (p:Int)] W (.int .u8 (Y.getD p 0))):=λp hp W hW=>K8 y Y p W (N.below hW (AS _)) (by omega) (by omega);have HE:=zq λD c r lD I h=>WU X Y D n c B C r lD H.symm M I h;have ae:=zq λp=>Ah X B.1 p;have af:=zq λp=>Ah Y C.1 p;obtain⟨g,cg,rfl,ag,ah,E⟩:=U;obtain⟨k,ck,rfl,-,-,-⟩:=N;rw[H] at ag E V ⊢;have aj:=zq E;clear B C K L O H E M;generalize Y.length=ly at*
 go_enter func217,ntmps217;go_wp2;go_loopw [6,15] (λc i wr=>∃(j:Nat) (D:AG) (f:Int),j<=n/\c=.int .u8 f/\i=.int .i64 (j:Int)/\0<=f/\f<=1/\Hid (Bl wr w.heap.size w.heap.size n (D++List.replicate (n-j) 0)/\D.length=j/\Au D/\lv D+10^j*(-f)=pv (λi=>X.getD i 0) j-pv (λi=>Y.getD i 0) j)/\AD w.heap.size w wr) (λ_ i _=>n-(intOf i).toNat);case atStart=>exact⟨0,[],0,B9 _,rfl,rfl,by omega,by omega,⟨Q,rfl,(λd hd=>by cases hd),rfl⟩,P⟩
 case round=>
  obtain⟨j,D,f,hj,rfl,rfl,I,c1,F,G⟩:=hrel;clear Z Q P;by_cases J:j<n
  ·have ay:(j:Int)<(n:Int):=by omega
   have bx:=ae j;have aA:=af j;have an:Hid (∀m,Calls prog 224 #[.slice (some ⟨k,0,none⟩) ly ck,.int .i64 (j:Int)] (wr.drewN m) λe z=>e=.returned (.int .u8 (Y.getD j 0))/\z=wr.drewN m):=λm=>aa j hj _ (Go.below_drewN G m);have E:=(G.cell (p:=⟨g,j,none⟩) ah).trans (aj j J);obtain⟨t,v,r,A⟩:=F.out;have aB:=t.cell j J;have hf:=t.frozen j;have aD:g≠w.heap.size:=by omega
   have HN:Hid (∀m s,s=10+X.getD j 0-Y.getD j 0-f->Bl ((wr.drewN m).setCell ⟨w.heap.size,j,none⟩ (.int .u8 (s%10))) w.heap.size w.heap.size n ((D++[s%10])++List.replicate (n-(j+1)) 0)/\(D++[s%10]).length=j+1/\Au (D++[s%10])/\lv (D++[s%10])+10^(j+1)*(-(1-s/10))=pv (λi=>X.getD i 0) (j+1)-pv (λi=>Y.getD i 0) (j+1)):=λm s hs=>by
    refine⟨?_,by simp[v],Us D _ r (by omega) (by omega),?_⟩
    ·rw[<-LY D n j (s%10) v J];exact(t.below (Go.below_drewN (BI _ _) m) (AS _)).set j (s%10)
    ·have:=QI D j _ (-f) (s-10) (X.getD j 0-Y.getD j 0) v A (by omega);rw[show(s-10)%10=s%10 by omega,show(s-10)/10=-(1-s/10) by omega] at this;rw[this];simp only[pv,Int.mul_comm (10^j),Int.sub_mul];omega
   clear t v r A F;generalize (D++List.replicate (n-j) 0).getD j 0=o at*
   generalize X.getD j 0=l at*
   generalize Y.getD j 0=q at*
   have ht:Int.tmod (10+l-q-f) 10=(10+l-q-f)%10:=Int.tmod_eq_emod_of_nonneg (by omega);have hq:Int.tdiv (10+l-q-f) 10=(10+l-q-f)/10:=Int.tdiv_eq_ediv_of_nonneg (by omega);obtain⟨aH,aI⟩:0<=(10+l-q-f)%10/\(10+l-q-f)%10<10:=by omega
   obtain⟨aJ,aK⟩:0<=(10+l-q-f)/10/\(10+l-q-f)/10<=1:=by omega
   go_wp2;go_quiet (first|(go_at_call 224;refine Calls.quiet_of_same (an _)));go_wp2;go_roundw;case rel=>exact⟨j+1,D++[(10+l-q-f)%10],1-(10+l-q-f)/10,by omega,rfl,by go_num,by omega,by omega,HN nq _ rfl,(Go.below_drewN G nq).setCell (AS _) _⟩
   case measure=>simp[intOf];omega
  ·have e:j=n:=by omega
   subst e;obtain⟨t,v,r,A⟩:=F.out;rw[Nat.sub_self,List.replicate_zero,List.append_nil] at t;have HT:Hid (Calls prog 218 #[.slice (some ⟨w.heap.size,0,none⟩) j j] wr λe z=>∃u,e=.returned u/\CD wr w.heap.size u (lv X-lv Y)/\z=wr):=by
    have:=DI _ D wr w.heap.size t.rd ⟨_,_,_,rfl,AS _⟩ r (by omega);rw[HE.out D f r v I A] at this;exact this
   clear t v r A F;go_wp2_with fail;refine HT.mono ?_;rintro e w2 ⟨u,rfl,R,rfl⟩;have HU:=zq R;clear R;go_wp2;go_ret;exact⟨u,rfl,HU,G⟩
theorem Kf{w:AA}{m:Array Oper}{rest:List Oper}{o:Oper}{a:Act}{Q:Exit->Act->AA->Prop}(z:o.guard=none)(s x:Operand)
 (A:o.op=.call {callee:=.builtin .append,args:=#[s,x],argTypes:=#[183,183]}) (b n:AK) (C:a.eval s=b) (D:a.eval x=n)
 (base:Nat) (X Y:AG) (E:w.ownsRow base 5 1 b X.length (X.map (Value.int .u8))) (F:b≠.slice none 0 0) (G:∀k,b.ownBlock=some k->base<=k) (H:VX w n Y) (ac:X.length+Y.length<=1000000) (p:base<=w.heap.size)
 (h:∀c d,Hid (VX d c (X++Y)/\mS base c)->Hid (∀B w0,AD B w0 w->B<=base->AD B w0 d)->wpList prog m Q rest (a.put o.dst c) d):wpList prog m Q (o::rest) a w:=by
 obtain⟨I,f,J,K,L⟩:=info_parts Td;obtain⟨g,M,rfl,ad,hl,N⟩:=H;refine wpList_append_own (P:=prog) w z s x 183 A base 5 I (.int .u8 0) 1 1 underlying183 f J K L rfl (by decide) b X.length (X.map (Value.int .u8)) C E ⟨g,0,none⟩ Y.length M (Y.map (Value.int .u8)) D (by simp) (λj u l=>?_) (λu l=>?_) (by unfold maxLen;omega) (by omega) p ?_
 ·have q:j<Y.length:=by
   have:=(List.getElem?_eq_some_iff.1 l).1;simpa using this
  rw[show(⟨g,0,none⟩:Addr).add j=⟨g,j,none⟩ by unfold Addr.add;split<;>simp_all,N j q,<-l];simp[List.getD,Dq q]
 ·obtain⟨y,-,rfl⟩:=List.mem_map.1 l;rfl
 ·intro c d r O R;refine h c d ?_ (λB w0 S t=>Below.grown S O (DT t p) (λk T=>DT t (G k T)));have U:=r;obtain⟨af,V⟩:=r;rcases V with⟨e,_⟩|⟨v,W,ag,rfl,Z,aa,ab,ah,ai,aj⟩
  ·exact absurd (R.1 e).1 F
  ·refine⟨⟨v,W,by rw[Dc],by rw[Dc];exact ab,(Array.getElem?_eq_some_iff.1 aa).1,λi f=>?_⟩,v,_,_,rfl,Z⟩;rw[World.ownsRow.cellAt U i (by rw[Dc] at f;omega),<-List.map_append,List.getElem?_map];simp only[List.getD,Dq f];rfl
theorem oQ(w:AA)(x:Int):(w.alloc (.cells #[.int .u8 x] 5)).ownsRow w.heap.size 5 1 (.slice (some ⟨w.heap.size,0,none⟩) 1 1) [x].length ([x].map (Value.int .u8)):=
 World.ownsRow_lit (base:=w.heap.size) (e:=5) (size:=1) w #[.int .u8 x] 1 (AS _) (by decide) (by simp)
theorem DY(x:AK)(a d:Int)(w:AA)(j:Eu w x a)(f:Ac a 1000)(B:0<=d)(C:d<=9):
 Calls prog 215 #[x,.int .u8 d] w λe b=>∃u,e=.returned u/\CD b w.heap.size u (10*a+d)/\AD w.heap.size w b:=by
 obtain⟨X,g,c,rfl⟩:=j;have l:=Bk X 1000 c f;have m:Hid (VX (w.alloc (.cells #[.int .u8 d] 5)) x X):=g.below ((BI w.heap.size w).alloc (AS _) _) (AS _);have n:Hid (∀v W,VX W v ([d]++X)->mS w.heap.size v->Calls prog 218 #[v] W λe b=>∃u,e=.returned u/\CD W w.heap.size u (10*lv X+d)/\b=W):=λv W o p=>by
  have:=DI v ([d]++X) W w.heap.size o p (UW [d] X (λz q=>by simp at q;omega) c.1) (by simp;omega);rw[show lv ([d]++X)=10*lv X+d by simp[lv];omega] at this;exact this
 have r:Hid (1+X.length<=1000000):=by show _<=_;omega
 clear g c f l;go_enter func215,ntmps215;go_wp2_with (first|(at_builtin;refine Kf rfl _ _ rfl _ _ rfl rfl w.heap.size [d] X (oQ w d) (show(Value.slice (some ⟨w.heap.size,0,none⟩) 1 1)≠.slice none 0 0 by simp) (λk s=>by cases s;exact AS _) m r (by simp) ?_));intro t b h y;go_wp2_with fail;refine(n t b h.1 h.2).mono ?_;rintro e D ⟨u,rfl,i,rfl⟩;have A:=zq i;clear i;go_wp2;go_ret;exact⟨u,rfl,A,y _ _ ((BI w.heap.size w).alloc (AS _) _) (AS _)⟩
theorem Ta(x:AK)(a:Int)(n:Nat)(w:AA)(l:Eu w x a)(f:Ac a 1000)(E:n<=200):
 Calls prog 164 #[x,.int .i64 (n:Int)] w λe b=>∃u,e=.returned u/\CD b w.heap.size u (a*10^n)/\AD w.heap.size w b:=by
 obtain⟨X,g,c,rfl⟩:=l;have m:=Bk X 1000 c f;obtain⟨o,F,h,d⟩:=NV w n (by omega);have p:=zq (g.below d (AS _));have q:Hid (o.ownsRow w.heap.size 5 1 (.slice (some ⟨w.heap.size,0,none⟩) n n) (List.replicate n (0:Int)).length ((List.replicate n (0:Int)).map (Value.int .u8))):=by
  have:=h;unfold Bl at this;rw[GG];exact this
 have r:Hid (∀v W,VX W v (List.replicate n 0++X)->mS w.heap.size v->Calls prog 218 #[v] W λe b=>∃u,e=.returned u/\CD W w.heap.size u (lv X*10^n)/\b=W):=λv W s t=>by
  have:=DI v (List.replicate n 0++X) W w.heap.size s t (UW _ X (GO n) c.1) (by simp;omega);rw[CT,IS,GG,Int.zero_add,Int.mul_comm] at this;exact this
 have y:Hid ((List.replicate n (0:Int)).length+X.length<=1000000):=by show _<=_;rw[GG];omega
 have z:=d.size;clear g c f m h;go_enter func164,ntmps164;go_wp2_with (first|(at_builtin;refine Kf rfl _ _ rfl _ _ rfl rfl w.heap.size (List.replicate n 0) X q (show(Value.slice (some ⟨w.heap.size,0,none⟩) n n)≠.slice none 0 0 by simp) (λk A=>by cases A;exact AS _) p y z ?_));intro B b i C;go_wp2_with fail;refine(r B b i.1 i.2).mono ?_;rintro e G ⟨u,rfl,j,rfl⟩;have D:=zq j;clear j;go_wp2;go_ret;exact⟨u,rfl,D,C _ _ d (AS _)⟩
theorem Zu(a:AG)(k:Nat)(b:k<a.length):a.reverse.take (k+1)=a.reverse.take k++[a.getD (a.length-1-k) 0]:=by
 rw[List.take_succ_eq_append_getElem (by simpa using b)];congr 2;rw[List.getElem_reverse];simp[List.getD,show a.length-1-k<a.length by omega]
theorem ge(a:AG)(w:AA)(g:Au a)(D:a.length<=1000):
 Calls prog 163 #[.string (tx a)] w λe f=>∃u,e=.returned u/\CD f w.heap.size u (vl a)/\AD w.heap.size w f:=by
 obtain⟨n,j⟩:=zxe a.length;have c:(tx a).size=n:=by rw[AE,j]
 obtain⟨E,q,r,s⟩:=NV w n (by omega);have t:=zq r;have F:Hid (∀k (b:k<(tx a).size),(((tx a)[k]'b).toNat:Int)=48+a.getD k 0/\0<=a.getD k 0/\a.getD k 0<=9):=λk b=>⟨C7 a g k b,Ah a g k⟩;have G:Hid (∀k,k<n->a.reverse.take (k+1)=a.reverse.take k++[a.getD (n-1-k) 0]):=λk b=>by
  rw[<-j] at b ⊢;exact Zu a k b
 have H:Hid (∀k,k<=n->(a.reverse.take k).length=k):=λk b=>by simp;omega
 have I:Hid (∀v W,VX W v (a.reverse.take n)->mS w.heap.size v->Calls prog 218 #[v] W λe f=>∃u,e=.returned u/\CD W w.heap.size u (vl a)/\f=W):=λv W x J=>by
  rw[List.take_of_length_le (by simp;omega)] at x;exact DI v a.reverse W w.heap.size x J (DO a g) (by simp;omega)
 have P:n<=1000:=by omega
 generalize tx a=S at*
 have K:(Instr.makeSlice 183 (.int .i64 (S.size:Int)) (.int .i64 (S.size:Int))).run prog w=.ok (.slice (some ⟨w.heap.size,0,none⟩) n n) E:=by rw[c];exact q
 have y:=zq c;have Q:S.size<=1000:=by omega
 clear r g q c D j;go_enter func163,ntmps163;go_wp2;go_loopw [10] (λi wr=>∃k:Nat,k<=n/\i=.int .i64 (k:Int)/\Hid (Bl wr w.heap.size w.heap.size n (a.reverse.take k++List.replicate (n-k) 0))/\AD w.heap.size w wr) (λi _=>n-(intOf i).toNat);case atStart=>exact⟨0,B9 _,rfl,t,s⟩
 case round=>
  obtain⟨k,b,rfl,h,z⟩:=hrel;clear K t s;by_cases l:k<n
  ·have c:=y.out;obtain⟨L,R⟩:(k:Int)<(S.size:Int)/\(k:Int)<(n:Int):=by omega
   obtain⟨p,m⟩:=zxe (n-1-k);obtain⟨T,A⟩:(S.size:Int)-1-(k:Int)=(p:Int)/\p<S.size:=by omega
   have U:(p:Int)<(S.size:Int):=by omega
   obtain⟨B,V,X⟩:=F p A;have Y:IntKind.u8.wrap (((S[p]'A).toNat:Int)-48)=a.getD p 0:=by
    rw[B,show 48+a.getD p 0-48=a.getD p 0 by omega,IntKind.wrap_u8];omega
   have Z:=h.cell k l;have hf:=h.frozen k;have M:Hid (Bl (wr.setCell ⟨w.heap.size,k,none⟩ (.int .u8 (a.getD p 0))) w.heap.size w.heap.size n (a.reverse.take (k+1)++List.replicate (n-(k+1)) 0)):=by
    have:=h.set k (a.getD p 0);rw[LY _ n k _ (H.out k b) l,<-m,<-G.out k l] at this;rw[m] at this;exact this
   clear B c m;generalize (a.reverse.take k++List.replicate (n-k) 0).getD k 0=o at*
   generalize a.getD p 0=d at*
   go_wp2;go_roundw;case rel=>exact⟨k+1,by omega,by go_num,M,z.setCell (AS _) _⟩
   case measure=>simp[intOf];omega
  ·have e:k=n:=by omega
   subst e;have c:=y.out;have L:¬(k:Int)<(S.size:Int):=by omega
   have N:Hid (Calls prog 218 #[.slice (some ⟨w.heap.size,0,none⟩) k k] wr λe f=>∃u,e=.returned u/\CD wr w.heap.size u (vl a)/\f=wr):=by
    have:=h.out;rw[Nat.sub_self,List.replicate_zero,List.append_nil] at this;exact I _ _ this.rd ⟨_,_,_,rfl,AS _⟩
   clear c;go_wp2_with fail;refine N.mono ?_;rintro e w2 ⟨u,rfl,C,rfl⟩;have O:=zq C;clear C;go_wp2;go_ret;exact⟨u,rfl,O,z⟩
theorem k6(w:AA)(n:Nat)(l:n<=100000):∃a,(Instr.makeSlice 22 (.int .i64 (n:Int)) (.int .i64 (n:Int))).run prog w=.ok (.slice (some ⟨w.heap.size,0,none⟩) n n) a/\Bl a w.heap.size w.heap.size n (List.replicate n 0)/\AD w.heap.size w a:=by
 obtain⟨c,d,e,f,g⟩:=info_parts Td;obtain⟨a,h,b,i⟩:=run_make_full (P:=prog) w w.heap.size 22 5 c (.int .u8 0) 1 underlying22 d e f .i64 .i64 n (by rw[g];omega) (by unfold maxLen;omega) (AS _);refine⟨a,h,?_,Below.grown (BI _ _) i (AS _) (λk j=>by cases j)⟩;rw[show(Value.int .u8 0).cells=#[Value.int .u8 0] from rfl,toList_madeCells_one,Nat.mul_one] at b;unfold Bl;simpa using b
theorem ZH(w:AA)(base g n:Nat)(L:AG)(h:Bl w base g n ((L.reverse).map (48+ ·)))(a:L.length=n):
 (convert 22 9 (.slice (some ⟨g,0,none⟩) n n)).run prog w=.ok (.string (tx L.reverse)) w:=by
 have:=run_convert_bytes_arg (P:=prog) w 22 5 underlying22 underlying5 g 0 n n (L.reverse.map (48+ ·)) (by simp[a]) (λi b=>by
  rw[Nat.zero_add];exact h.cell i b)
 exact this 9 underlying9
theorem W2(L:AG)(k:Nat)(a:k<L.length):((L.take (k+1)).reverse).map (48+ ·)=(48+L.getD k 0)::((L.take k).reverse).map (48+ ·):=by
 rw[List.take_succ_eq_append_getElem a,List.reverse_append,List.map_append];simp only[List.reverse_cons,List.reverse_nil,List.nil_append,List.map_cons,List.map_nil,List.getD,Dq a,Cd,List.cons_append]
theorem Cr(x:AK)(a:Int)(w:AA)(F:Eu w x a)(h:Ac a 500):
 cB 161 #[x] w (.string (DE (nt a))):=by
 obtain⟨X,⟨g,R,rfl,G,H,b⟩,c,rfl⟩:=F;have u:=Bk X 500 c h;by_cases j:X=[]
 ·subst j;have E:Hid (DE (nt (lv []))={data:=#[48]}):=by
   show DE (nt 0)=_
   rw[Wf];rfl
  rw[E];clear b c h;go_enter func161,ntmps161;go_wp2;go_ret;exact⟨rfl,BI _ _⟩
 ·have f:=List.length_pos_iff.2 j;have I:((X.length:Int)==0)=false:=beq_eq_false_iff_ne.2 (by omega);have l:=gf X c j u;have m:(nt (lv X)).length=X.length:=by rw[<-l,List.length_reverse]
  by_cases r:X.length<=200
  ·have E:Hid (DE (nt (lv X))=tx X.reverse):=by show DE (nt (lv X))=_;unfold DE;rw[m,zyp r,<-l]
   rw[E];obtain⟨n,s⟩:=zxe X.length;obtain⟨J,K,v,y⟩:=k6 w n (by omega);have z:Hid (Bl J w.heap.size w.heap.size n (List.replicate n 0++((X.take 0).reverse).map (48+ ·))):=by
    show Bl _ _ _ _ _
    rw[List.take_zero];simpa using v
   have L:Hid (∀i,i<n->w.cell? ⟨g,i,none⟩=some (.int .u8 (X.getD i 0))):=by rw[s] at b;exact b
   have M:=zq λi=>Ah X c.1 i;have N:Hid (∀k,k<n->(List.replicate (n-k) 0++((X.take k).reverse).map (48+ ·)).set (n-1-k) (48+X.getD k 0)=List.replicate (n-(k+1)) 0++((X.take (k+1)).reverse).map (48+ ·)):=λk A=>by
    rw[Mp _ n k _ (by simp;omega) A,W2 X k (by omega)]
   have B:Hid (∀W,Bl W w.heap.size w.heap.size n (List.replicate (n-n) 0++((X.take n).reverse).map (48+ ·))->(convert 22 9 (.slice (some ⟨w.heap.size,0,none⟩) n n)).run prog W=.ok (.string (tx X.reverse)) W):=λW C=>by
    rw[Nat.sub_self,List.replicate_zero,List.nil_append,List.take_of_length_le (by omega)] at C;exact ZH W w.heap.size w.heap.size n X C s
   rw[s] at f I r G ⊢;have O:¬(200:Int)<(n:Int):=by omega
   generalize tx X.reverse=T at*
   clear b c h l m E u v j;go_enter func161,ntmps161;go_wp2;go_loopw [18] (λi wr=>∃k:Nat,k<=n/\i=.int .i64 (k:Int)/\Hid (Bl wr w.heap.size w.heap.size n (List.replicate (n-k) 0++((X.take k).reverse).map (48+ ·)))/\AD w.heap.size w wr) (λi _=>n-(intOf i).toNat);case atStart=>exact⟨0,B9 _,rfl,z,y⟩
   case round=>
    obtain⟨k,A,rfl,q,t⟩:=hrel;clear K z y;by_cases D:k<n
    ·have S:(k:Int)<(n:Int):=by omega
     obtain⟨p,f⟩:=zxe (n-1-k);obtain⟨U,P⟩:(n:Int)-1-(k:Int)=(p:Int)/\p<n:=by omega
     have V:(p:Int)<(n:Int):=by omega
     have b:=(t.cell (p:=⟨g,k,none⟩) H).trans (L k D);have Y:=M k;have Z:=q.cell p P;have hf:=q.frozen p;have Q:Hid (Bl (wr.setCell ⟨w.heap.size,p,none⟩ (.int .u8 (48+X.getD k 0))) w.heap.size w.heap.size n (List.replicate (n-(k+1)) 0++((X.take (k+1)).reverse).map (48+ ·))):=by
      have:=q.set p (48+X.getD k 0);rw[<-f,N.out k D] at this;rw[f] at this;exact this
     clear f;generalize (List.replicate (n-k) 0++((X.take k).reverse).map (48+ ·)).getD p 0=o at*
     generalize X.getD k 0=d at*
     go_wp2;go_roundw;case rel=>exact⟨k+1,by omega,by go_num,Q,t.setCell (AS _) _⟩
     case measure=>simp[intOf];omega
    ·have e:k=n:=by omega
     subst e;have ab:=B wr q;clear B;go_wp2;go_ret;exact⟨rfl,t⟩
  ·have E:Hid (DE (nt (lv X))={data:=#[]}):=by show DE (nt (lv X))=_;unfold DE;rw[m,zyn r]
   rw[E];have O:(200:Int)<(X.length:Int):=by omega
   clear b c h l m E;generalize X.length=n at*
   go_enter func161,ntmps161;go_wp2;go_ret;exact⟨rfl,BI _ _⟩
theorem eM(P:AG)(i j:Nat)(A a b c s V:Int)(d:i+j<P.length)(h:lv P+10^(i+j)*c=A+10^i*a*V)(e:s=P.getD (i+j) 0+a*b+c):
 lv (P.set (i+j) (s%10))+10^(i+(j+1))*(s/10)=A+10^i*a*(V+b*10^j):=by
 rw[Te P (i+j) _ d,show i+(j+1)=i+j+1 by omega,Int.pow_succ];have f:s=s%10+10*(s/10):=by omega
 rw[Cv] at h ⊢;generalize s%10=r at*
 generalize s/10=u at*
 generalize (10:Int)^i=p at*
 generalize (10:Int)^j=q at*
 generalize P.getD (i+j) 0=K at*
 grind
theorem W4(P X Y:AG)(i:Nat)(c:Int)(a:i<X.length)(b:i+Y.length<P.length)(d:P.getD (i+Y.length) 0=0)(h:lv P+10^(i+Y.length)*c=lv (X.take i)*lv Y+10^i*X.getD i 0*pv (λi=>Y.getD i 0) Y.length):
 lv (P.set (i+Y.length) c)=lv (X.take (i+1))*lv Y:=by
 rw[Te P _ _ b,d,GY X i a];rw[MA Y Y.length (AS _)] at h;generalize (10:Int)^(i+Y.length)=p at*
 grind
theorem pF(P:AG)(k q:Nat)(d:Int)(h:k≠q):(P.set k d).getD q 0=P.getD q 0:=by
 simp[List.getD,List.getElem?_set_ne h]
theorem JJ(n q:Nat):(List.replicate n (0:Int)).getD q 0=0:=by
 simp only[List.getD,List.getElem?_replicate];split<;>rfl
def TI(w wr:AA)(N:Nat)(X Y:AG)(i j:Nat)(c:Int):Prop:=
 ∃P,Bl wr w.heap.size w.heap.size N P/\Au P/\(∀q,i+Y.length<=q->P.getD q 0=0)/\lv P+10^(i+j)*c=lv (X.take i)*lv Y+10^i*X.getD i 0*pv (λi=>Y.getD i 0) j
theorem TI.first{w wr:AA}{N:Nat}{X Y:AG}{i:Nat}{P:AG}(a:Bl wr w.heap.size w.heap.size N P)(b:Au P)(c:∀q,i+Y.length<=q->P.getD q 0=0)(d:lv P=lv (X.take i)*lv Y):TI w wr N X Y i 0 0:=
 ⟨P,a,b,c,by rw[d];simp[pv]⟩
theorem WS(a b k c:Int)(e:0<=a)(f:a<=9)(d:0<=b)(g:b<=9):0<=a*b/\a*b<=81:=by
 refine⟨Int.mul_nonneg e d,?_⟩;exact Int.le_trans (Int.mul_le_mul f g d (by decide)) (by decide)
theorem Tb(x y:AK)(a b:Int)(w:AA)(hx:Eu w x a)(hy:Eu w y b)(T:Ac a 1000)(U:Ac b 1000):
 Calls prog 214 #[x,y] w λe B=>∃u,e=.returned u/\CD B w.heap.size u (a*b)/\AD w.heap.size w B:=by
 obtain⟨X,rX,F,rfl⟩:=hx;obtain⟨Y,rY,G,rfl⟩:=hy;have lX:=Bk X 1000 F T;have lY:=Bk Y 1000 G U;obtain⟨n,V⟩:=zxe X.length;obtain⟨m,C⟩:=zxe Y.length;obtain⟨N,hN⟩:=zxe (n+m);obtain⟨W,Z,aa,ab⟩:=NV w N (by omega);have an:(Instr.makeSlice 183 (.int .i64 ((n:Int)+(m:Int))) (.int .i64 ((n:Int)+(m:Int)))).run prog w=.ok (.slice (some ⟨w.heap.size,0,none⟩) N N) W:=by
  rw[show(n:Int)+(m:Int)=(N:Int) by omega];exact Z
 have HO:Hid (TI w W N X Y 0 0 0):=TI.first aa (GO N) (λq _=>JJ N q) (by rw[IS,List.take_zero];simp[lv]);have ao:=zq λp=>Ah X F.1 p;have ap:=zq λp=>Ah Y G.1 p;obtain⟨g,cg,rfl,aq,ar,H⟩:=rX;obtain⟨k,ck,rfl,au,av,I⟩:=rY;rw[V] at aq H lX ⊢;rw[C] at au I lY ⊢;have aw:=zq H;have ax:=zq I;have HT:Hid (∀wr,TI w wr N X Y n 0 0->Calls prog 218 #[.slice (some ⟨w.heap.size,0,none⟩) N N] wr λe B=>∃u,e=.returned u/\CD wr w.heap.size u (lv X*lv Y)/\B=wr):=λwr ⟨P,f,o,v,t⟩=>by
  have:=DI _ P wr w.heap.size f.rd ⟨_,_,_,rfl,AS _⟩ o (by rw[f.len];omega);rw[List.take_of_length_le (by omega)] at t;rw[show lv P=lv X*lv Y by simpa[pv] using t] at this;exact this
 have az:Hid (∀wr i j c,i<n->j<m->0<=c->TI w wr N X Y i j c->∃K,wr.cell? ⟨w.heap.size,i+j,none⟩=some (.int .u8 K)/\0<=K/\K<=9/\wr.frozen? ⟨w.heap.size,i+j,none⟩=false/\(∀M s,s=K+X.getD i 0*Y.getD j 0+c->TI w ((wr.drewN M).setCell ⟨w.heap.size,i+j,none⟩ (.int .u8 (s%10))) N X Y i (j+1) (s/10))):=λwr i j c hi hj z ⟨P,f,o,v,t⟩=>by
  have aB:=f.len;refine⟨P.getD (i+j) 0,f.cell (i+j) (by omega),(Ah P o _).1,(Ah P o _).2,f.frozen _,λM s hs=>⟨P.set (i+j) (s%10),?_,Tc P _ _ o (by omega) (by omega),λq J=>?_,?_⟩⟩
  ·exact(f.below (Go.below_drewN (BI _ _) M) (AS _)).set (i+j) (s%10)
  ·rw[pF _ _ _ _ (by omega)];exact v q J
  ·exact eM P i j _ (X.getD i 0) (Y.getD j 0) c s _ (by omega) t hs
 have aD:Hid (∀wr i c,i<n->0<=c->c<=9->TI w wr N X Y i m c->∃K,wr.cell? ⟨w.heap.size,i+m,none⟩=some (.int .u8 K)/\wr.frozen? ⟨w.heap.size,i+m,none⟩=false/\TI w (wr.setCell ⟨w.heap.size,i+m,none⟩ (.int .u8 c)) N X Y (i+1) 0 0):=λwr i c hi z L ⟨P,f,o,v,t⟩=>by
  have aB:=f.len;refine⟨P.getD (i+m) 0,f.cell (i+m) (by omega),f.frozen _,TI.first (f.set (i+m) c) (Tc P _ _ o z L) (λq J=>?_) ?_⟩
  ·rw[pF _ _ _ _ (by omega)];exact v q (by omega)
  ·have:=W4 P X Y i c (by omega) (by omega) (v _ (AS _)) (by rw[C];exact t);rw[C] at this;exact this
 clear F G T U aa Z H I V C;go_enter func214,ntmps214;go_wp2;go_loopw [18] (λi wr=>∃q:Nat,q<=n/\i=.int .i64 (q:Int)/\Hid (TI w wr N X Y q 0 0)/\AD w.heap.size w wr) (λi _=>n-(intOf i).toNat);case atStart=>exact⟨0,B9 _,rfl,HO,ab⟩
 case round=>
  obtain⟨q,J,rfl,O,Q⟩:=hrel;clear an HO ab;by_cases R:q<n
  ·have aP:(q:Int)<(n:Int):=by omega
   have bx:=ao q;go_wp2;go_loopw [7,24] (λc j wr=>∃(r:Nat) (d:Int),r<=m/\c=.int .u8 d/\j=.int .i64 (r:Int)/\0<=d/\d<=9/\Hid (TI w wr N X Y q r d)/\AD w.heap.size w wr) (λ_ j _=>m-(intOf j).toNat);case atStart=>exact⟨0,0,B9 _,rfl,rfl,by omega,by omega,O,Q⟩
   case round=>
    obtain⟨r,d,hr,rfl,rfl,z,L,D,E⟩:=hrel;clear O Q;by_cases ae:r<m
    ·have aR:(r:Int)<(m:Int):=by omega
     have af:=ap r;have h1:=(E.cell (p:=⟨g,q,none⟩) ar).trans (aw q R);have h2:=(E.cell (p:=⟨k,r,none⟩) av).trans (ax r ae);obtain⟨K,h3,k0,k9,h4,A⟩:=az wr q r d R ae z D;have S:=zq A;clear A D;obtain⟨p0,p1⟩:=WS (X.getD q 0) (Y.getD r 0) 0 0 bx.1 bx.2 af.1 af.2;obtain⟨aG,aH⟩:(q:Int)+(r:Int)<(N:Int)/\0<=(q:Int)+(r:Int):=by omega
     generalize X.getD q 0=h at*
     generalize Y.getD r 0=l at*
     have ht:Int.tmod (K+h*l+d) 10=(K+h*l+d)%10:=Int.tmod_eq_emod_of_nonneg (by omega);have aZ:Int.tdiv (K+h*l+d) 10=(K+h*l+d)/10:=Int.tdiv_eq_ediv_of_nonneg (by omega);obtain⟨a0,a1⟩:0<=(K+h*l+d)%10/\(K+h*l+d)%10<10:=by omega
     obtain⟨aI,aJ⟩:0<=(K+h*l+d)/10/\(K+h*l+d)/10<=9:=by omega
     go_wp2;go_quiet (fail);go_wp2;go_roundw;case rel=>exact⟨r+1,(K+h*l+d)/10,by omega,rfl,by go_num,aI,aJ,S nq _ rfl,(Go.below_drewN E nq).setCell (AS _) _⟩
     case measure=>simp[intOf];omega
    ·have e:r=m:=by omega
     subst e;obtain⟨K,h3,h4,A⟩:=aD wr q d R z L D;have S:=zq A;obtain⟨aG,aH⟩:(q:Int)+(r:Int)<(N:Int)/\0<=(q:Int)+(r:Int):=by omega
     clear A D;go_wp2;go_roundw;case rel=>exact⟨q+1,by omega,by go_num,S,E.setCell (AS _) _⟩
     case measure=>simp[intOf];omega
  ·have e:q=n:=by omega
   subst e;go_wp2_with fail;refine(HT _ O).mono ?_;rintro e w2 ⟨u,rfl,hu,rfl⟩;have HU:=zq hu;clear hu;go_wp2;go_ret;exact⟨u,rfl,HU,Q⟩
theorem Ac.le{a b:Int}{k:Nat}(h:Ac b k)(c:a<=b):Ac a k:=by unfold Ac at*;omega
theorem Ac.mono{a:Int}{k m:Nat}(h:Ac a k)(b:k<=m):Ac a m:=by unfold Ac at*;have:=AI k m b;omega
theorem Ac.ten{a b:Int}{k:Nat}(h:Ac b k)(c:a<10*b):Ac a (k+1):=by unfold Ac at*;rw[Int.pow_succ];omega
theorem Lm(w:AA):CD (w.alloc (.cells #[] 5)) w.heap.size (.slice (some ⟨w.heap.size,0,none⟩) 0 0) 0:=
 ⟨⟨[],⟨w.heap.size,0,rfl,AS _,by simp,λi a=>by cases a⟩,⟨(λd b=>by cases b),.inl rfl⟩,rfl⟩,_,_,_,rfl,AS _⟩
theorem Eu.nn{w:AA}{v:AK}{n:Int}(h:Eu w v n):0<=n:=by
 obtain⟨L,-,a,rfl⟩:=h;exact(IG L a.1).1
def P6(w wr:AA)(N:Nat)(X:AG)(b:Int)(p:Nat)(R:Int):Prop:=
 ∃Q,Bl wr w.heap.size w.heap.size N Q/\Au Q/\(∀t,t<p->Q.getD t 0=0)/\b*lv Q+10^p*R+lv (X.take p)=lv X
def SQ(w wr:AA)(N:Nat)(X:AG)(b:Int)(p:Nat)(S R:Int):Prop:=
 ∃Q,Bl wr w.heap.size w.heap.size N Q/\Au Q/\(∀t,t<p->Q.getD t 0=0)/\b*lv Q+10^p*R+lv (X.take p)=lv X/\Q.getD p 0*b+R=S
theorem P6.below{w wr a:AA}{N:Nat}{X:AG}{b:Int}{p:Nat}{R:Int}(h:P6 w wr N X b p R)(c:AD wr.heap.size wr a):P6 w a N X b p R:=by
 obtain⟨Q,d,r⟩:=h;exact⟨Q,d.below c (AS _),r⟩
theorem SQ.below{w wr a:AA}{N:Nat}{X:AG}{b:Int}{p:Nat}{S R:Int}(h:SQ w wr N X b p S R)(c:AD wr.heap.size wr a):SQ w a N X b p S R:=by
 obtain⟨Q,d,r⟩:=h;exact⟨Q,d.below c (AS _),r⟩
theorem P6.start{w wr:AA}{N:Nat}{X:AG}{b:Int}(h:Bl wr w.heap.size w.heap.size N (List.replicate N 0))(a:X.length=N):P6 w wr N X b N 0:=
 ⟨_,h,GO N,λt _=>JJ N t,by rw[IS,List.take_of_length_le (by omega)];simp⟩
theorem P6.into{w wr:AA}{N:Nat}{X:AG}{b:Int}{p:Nat}{R:Int}(h:P6 w wr N X b (p+1) R)(d:p<X.length):SQ w wr N X b p (10*R+X.getD p 0) (10*R+X.getD p 0):=by
 obtain⟨Q,f,g,a,c⟩:=h;refine⟨Q,f,g,λt i=>a t (by omega),?_,by rw[a p (by omega)];omega⟩;rw[GY X p d,Int.pow_succ] at c;rw[<-c];generalize (10:Int)^p=e
 grind
theorem SQ.out{w wr:AA}{N:Nat}{X:AG}{b:Int}{p:Nat}{S R:Int}(h:SQ w wr N X b p S R):P6 w wr N X b p R:=by
 obtain⟨Q,a,c,d,e,-⟩:=h;exact⟨Q,a,c,d,e⟩
theorem SQ.low{b S R q:Int}(a:S<10*b)(d:0<b)(e:b<=R)(h:q*b+R=S):q<=8:=by
 rcases Int.lt_or_le 8 q with c|c
 ·exfalso;have:9*b<=q*b:=If (by omega) (by omega);omega
 ·exact c
theorem SQ.step{w wr:AA}{N:Nat}{X:AG}{b:Int}{p:Nat}{S R:Int}(h:SQ w wr N X b p S R)(f:p<N)(g:S<10*b)(i:0<b)(j:b<=R):
 ∃q,wr.cell? ⟨w.heap.size,p,none⟩=some (.int .u8 q)/\0<=q/\q<=8/\wr.frozen? ⟨w.heap.size,p,none⟩=false/\SQ w (wr.setCell ⟨w.heap.size,p,none⟩ (.int .u8 (q+1))) N X b p S (R-b):=by
 obtain⟨Q,a,c,k,l,d⟩:=h;have r:=a.len;have m:=SQ.low g i j d;have n:=Ah Q c p;refine⟨Q.getD p 0,a.cell p f,n.1,m,a.frozen p,Q.set p (Q.getD p 0+1),a.set p _,Tc Q p _ c (by omega) (by omega),λt o=>?_,?_,?_⟩
 ·rw[pF _ _ _ _ (by omega)];exact k t o
 ·rw[Te Q p _ (by omega),<-l];generalize (10:Int)^p=e
  grind
 ·have e:(Q.set p (Q.getD p 0+1)).getD p 0=Q.getD p 0+1:=by
   simp[List.getD,show p<Q.length by omega]
  rw[e,<-d]
  grind
theorem P6.fin{w wr:AA}{N:Nat}{X:AG}{b:Int}{R:Int}(h:P6 w wr N X b 0 R)(g:0<b)(c:0<=R)(d:R<b):∃Q,Bl wr w.heap.size w.heap.size N Q/\Au Q/\lv Q=lv X/b/\R=lv X%b:=by
 obtain⟨Q,e,f,-,a⟩:=h;rw[Int.pow_zero,List.take_zero,Int.one_mul,show lv []=0 from rfl,Int.add_zero] at a;refine⟨Q,e,f,?_,?_⟩
 ·rw[<-a,Int.mul_add_ediv_left _ _ (by omega),Int.ediv_eq_zero_of_lt c d];omega
 ·rw[<-a,Int.mul_add_emod_self_left,Int.emod_eq_of_lt c d]
theorem RF(x y:AK)(a b:Int)(w:AA)(hx:Eu w x a)(G:Eu w y b)(fa:Ac a 900)(s:Ac b 900)(N:0<b):
 Calls prog 160 #[x,y] w λe f=>∃u v,e=.returned (.tuple #[u,v])/\CD f w.heap.size u (a/b)/\CD f w.heap.size v (a%b)/\AD w.heap.size w f:=by
 obtain⟨X,rX,O,rfl⟩:=hx;have lX:=Bk X 900 O fa;obtain⟨n,P⟩:=zxe X.length;obtain⟨U,aE,V,Y⟩:=NV w n (by omega);have aj:=Y.size;obtain⟨H,I⟩:=zxe (U.alloc (.cells #[] 5));have ak:AD w.heap.size w H:=by rw[<-I];exact Y.alloc aj _
 have HO:Hid (P6 w H n X b n 0):=by
  rw[<-I];exact P6.start (V.below1 bA) P
 have am:Hid (CD H (w.heap.size+1) (.slice (some ⟨U.heap.size,0,none⟩) 0 0) 0):=by rw[<-I];exact(Lm U).mono V.lt.2
 have HY:Hid (∀W,AD w.heap.size w W->Eu W y b):=λW B=>G.below B (AS _);have aF:Hid (∀p,0<=X.getD p 0/\X.getD p 0<=9):=λp=>Ah X O.1 p;have an:Hid (∀W v R,AD w.heap.size w W->Eu W v R->R<10*b->cB 216 #[v,y] W (.int .i64 (Ay R b))):=λW v R B D l=>CV v y R b W D (G.below B (AS _)) ((s.ten l).mono (by decide)) (s.mono (by decide));have aG:Hid (∀W v R,AD w.heap.size w W->Eu W v R->R<10*b->b<=R->Calls prog 217 #[v,y] W λe f=>∃u,e=.returned u/\CD f W.heap.size u (R-b)/\AD W.heap.size W f):=λW v R B D l J=>IT v y R b W D (G.below B (AS _)) ((s.ten l).mono (by decide)) (s.mono (by decide)) J;have aH:Hid (∀W v R d,Eu W v R->R<b->0<=d->d<=9->Calls prog 215 #[v,.int .u8 d] W λe f=>∃u,e=.returned u/\CD f W.heap.size u (10*R+d)/\AD W.heap.size W f):=λW v R d D l d0 d9=>DY v R d W D ((s.le (CP l)).mono (by decide)) d0 d9;have aK:Hid (∀W p R,p<n->P6 w W n X b (p+1) R->SQ w W n X b p (10*R+X.getD p 0) (10*R+X.getD p 0)):=λW p R hp h=>h.into (by omega);have ap:Hid (∀W R,P6 w W n X b 0 R->0<=R->R<b->R=lv X%b/\Calls prog 218 #[.slice (some ⟨w.heap.size,0,none⟩) n n] W λe f=>∃u,e=.returned u/\CD W w.heap.size u (lv X/b)/\f=W):=λW R h Z K=>by
  obtain⟨Q,l,hD,e1,L⟩:=h.fin N Z K;refine⟨L,?_⟩;have:=DI _ Q W w.heap.size l.rd ⟨_,_,_,rfl,AS _⟩ hD (by rw[l.len];omega);rw[e1] at this;exact this
 obtain⟨g,cg,rfl,aN,aO,aa⟩:=rX;rw[P] at aN aa lX ⊢;have aP:=zq aa;clear O fa s V aa P G;subst I;go_enter func160,ntmps160;go_wp2;go_loopw [7,16] (λv i wr=>∃(q:Nat) (R:Int),q<=n/\i=.int .i64 (q:Int)/\0<=R/\R<b/\Hid (P6 w wr n X b (n-q) R)/\Hid (CD wr (w.heap.size+1) v R)/\AD w.heap.size w wr) (λ_ i _=>n-(intOf i).toNat);case atStart=>exact⟨0,0,B9 _,rfl,Int.le_refl _,N,HO,am,ak⟩
 case round=>
  obtain⟨q,R,hq,rfl,Z,K,m,j,c⟩:=hrel;clear aE HO Y ak am aj;by_cases a9:q<n
  ·have ba:(q:Int)<(n:Int):=by omega
   obtain⟨p,hp⟩:=zxe (n-1-q);obtain⟨ep,ab⟩:(n:Int)-1-(q:Int)=(p:Int)/\p<n:=by omega
   have bc:(p:Int)<(n:Int):=by omega
   have h1:=(c.cell (p:=⟨g,p,none⟩) aO).trans (aP p ab);have bx:=aF p;have ac:Hid (SQ w wr n X b p (10*R+X.getD p 0) (10*R+X.getD p 0)):=aK wr p R ab (by have:=m.out;rwa[show n-q=p+1 by omega] at this);have EP:Hid (n-(q+1)=p):=by show _=_;omega
   have HZ:Hid (w.heap.size+1<=wr.heap.size):=by obtain⟨Q,hQ,-⟩:=ac.out;exact hQ.lt.2
   clear m hp;generalize X.getD p 0=d at*
   go_wp2_with fail;refine(aH _ _ R d j.1 K bx.1 bx.2).mono ?_;rintro e w3 ⟨u,rfl,o,ae⟩;have E:=zq (o.mono HZ);have af:=zq (ac.below ae);have ar:AD w.heap.size w w3:=c.trans (ae.mono c.size);obtain⟨S,hS⟩:=zxe (10*R+d);rw[hS] at E af;obtain⟨aU,aV⟩:0<=S/\S<10*b:=by omega
   clear o ae ac j c hS h1;go_wp2;go_loopg [7] S.toNat (λgk v wx=>∃T:Int,0<=T/\T<=S/\gk=T.toNat/\Hid (SQ w wx n X b p S T)/\Hid (CD wx (w.heap.size+1) v T)/\AD w.heap.size w wx);case atStart=>exact⟨S,aU,Int.le_refl _,rfl,af,E,ar⟩
   case round=>
    clear E af ar;obtain⟨T,t0,t1,av,m,j,c⟩:=hrel;have HG:=zq av;clear av;by_cases J:b<=T
    ·have z:Hid (0<=Ay T b/\Ay T b<=1):=by
      show _/\_
      unfold Ay;rw[zyn (by omega)];split<;>omega
     go_wp2_with fail;refine cm (an _ _ T c j.1 (by omega)) λr k=>?_;have bf:=z.1;have bg:=z.2;generalize Ay T b=C at*
     have M:Hid (CD r (w.heap.size+1) _ T):=j.below k (AS _);have F:Hid (SQ w r n X b p S T):=m.below k;have A:AD w.heap.size w r:=c.trans (k.mono c.size);have aZ:Hid (w.heap.size+1<=r.heap.size):=by obtain⟨Q,hQ,-⟩:=F.out;exact hQ.lt.2
     clear k j m c z;go_wp2_with fail;refine(aG _ _ T A M.1 (by omega) J).mono ?_;rintro e w5 ⟨u,rfl,o,ah⟩;have ax:=zq (o.mono aZ);have a0:AD w.heap.size w w5:=A.trans (ah.mono A.size);obtain⟨t,h3,q0,q8,h4,h5⟩:=(F.below ah).step ab aV N J;have a1:=zq h5;have a2:Hid (CD (w5.setCell ⟨w.heap.size,p,none⟩ (.int .u8 (t+1))) (w.heap.size+1) u (T-b)):=ax.out.set _ _ _ (Nat.lt_succ_self _);clear h5 o ah M F A ax;go_wp2;go_roundg (T-b).toNat;case measure=>have:=HG.out;omega
     case rel=>exact⟨T-b,by omega,by omega,rfl,a1,a2,a0.setCell (AS _) _⟩
    ·have z:Hid (Ay T b=-1):=Ck _ _ (by omega);have az:Hid (P6 w _ n X b p T):=m.out.out;go_wp2_with fail;refine cm (an _ _ T c j.1 (by omega)) λr k=>?_;rw[z.out];have M:Hid (CD r (w.heap.size+1) _ T):=j.below k (AS _);have F:Hid (P6 w r n X b p T):=az.out.below k;have A:AD w.heap.size w r:=c.trans (k.mono c.size);clear k j m c z az;go_wp2;go_roundw;case rel=>exact⟨q+1,T,by omega,by go_num,t0,by omega,by rw[EP.out];exact F,M,A⟩
     case measure=>simp[intOf];omega
  ·have e:q=n:=by omega
   subst e;obtain⟨L,hT⟩:=ap wr R (by have:=m.out;rwa[Nat.sub_self] at this) Z K;have E2:=zq L;have HT:=zq hT;clear L hT ap;go_wp2_with fail;refine HT.mono ?_;rintro e H ⟨u,rfl,o,rfl⟩;have E:=zq o;clear o;go_wp2;go_ret2;exact⟨u,_,rfl,E,by rw[<-E2];exact j.mono (Nat.le_succ _),c⟩
theorem Q5(L:AG)(p:Nat):lv (L.take (p+1))=lv (L.take p)+10^p*L.getD p 0:=by
 rcases Nat.lt_or_ge p L.length with c|c
 ·exact GY L p c
 ·rw[List.take_of_length_le (by omega),List.take_of_length_le c];simp[List.getD,List.getElem?_eq_none c]
theorem Ac.big{R z:Int}{k:Nat}(h:Ac R k)(a:z<=1000*(R+1)):Ac z (k+4):=by
 unfold Ac at*
 have b:(0:Int)<10^k:=Int.pow_pos (by decide);rw[show(10:Int)^(k+4)=10^k*10000 by rw[Cv];rfl];omega
def RI(X:AG)(t:Nat)(S R:Int):Prop:=0<=S/\0<=R/\R<=2*S/\10^(2*t)*(S*S+R)+lv (X.take (2*t))=lv X
theorem RI.start(X:AG)(t:Nat)(h:X.length<=2*t):RI X t 0 0:=⟨by decide,by decide,by decide,by rw[List.take_of_length_le h];simp⟩
theorem RI.small{X:AG}{t:Nat}{S R:Int}(h:RI X t S R)(b:Au X)(k:Nat)(d:Ac (lv X) k):Ac S k/\Ac R k:=by
 obtain⟨a,e,f,g⟩:=h;have i:(0:Int)<10^(2*t):=Int.pow_pos (by decide);have j:=(IG (X.take (2*t)) (LW X _ b)).1;have l:=Int.mul_nonneg a a;have m:1*(S*S+R)<=10^(2*t)*(S*S+R):=If (by omega) (by omega);have s:S<=S*S:=by
  rcases Int.lt_or_le 0 S with c|c
  ·have:S*1<=S*S:=NH (by omega) a;omega
  ·omega
 unfold Ac at*
 exact⟨by omega,by omega⟩
theorem RI.next{X:AG}{t:Nat}{S R T d:Int}(h:RI X (t+1) S R)(b:0<=T)(c:0<=d)(f:T+(20*S+d)*d=100*R+10*X.getD (2*t+1) 0+X.getD (2*t) 0)(g:T<20*S+2*d+1):RI X t (10*S+d) T:=by
 obtain⟨i,j,k,a⟩:=h;refine⟨by omega,b,by omega,?_⟩;rw[show 2*(t+1)=2*t+1+1 by omega,Q5,Q5,Int.pow_succ,Int.pow_succ] at a;rw[<-a];generalize (10:Int)^(2*t)=e at*
 generalize X.getD (2*t+1) 0=l at*
 generalize X.getD (2*t) 0=m at*
 grind
theorem RI.digit{S R T d f g:Int}(h:R<=2*S)(i:0<=S)(a:f<=9)(b:g<=9)(j:0<=d)(k:d<=9)(l:T+(20*S+d)*d=100*R+10*f+g)(m:20*S+2*d+1<=T):d<=8:=by
 rcases Int.lt_or_le 8 d with c|c
 ·exfalso;have e:d=9:=by omega
  subst e;omega
 ·exact c
theorem gh(w:AA)(d:Int)(h:1<=d)(c:d<=9):Eu (w.alloc (.cells #[.int .u8 d] 5)) (.slice (some ⟨w.heap.size,0,none⟩) 1 1) d:=by
 refine⟨[d],⟨w.heap.size,1,rfl,AS _,by simp,λi a=>?_⟩,⟨(λx b=>by simp at b;omega),.inr (by simp;omega)⟩,by simp[lv]⟩;have e:i=0:=by simp at a;exact a
 subst e;simp
theorem WV(x:AK)(a:Int)(w:AA)(hx:Eu w x a)(fa:Ac a 500):
 Calls prog 171 #[x] w λe w'=>∃u v,e=.returned (.tuple #[u,v])/\(∃S R:Int,Eu w' u S/\Eu w' v R/\S*S+R=a/\0<=S/\0<=R/\R<=2*S)/\AD w.heap.size w w':=by
 obtain⟨X,rX,J,rfl⟩:=hx;have lX:=Bk X 500 J fa;obtain⟨n,hn⟩:=zxe X.length;obtain⟨P,hP⟩:=zxe ((n+1)/2);obtain⟨w2,K⟩:=zxe ((w.alloc (.cells #[] 5)).alloc (.cells #[] 5));have aB:AD w.heap.size w w2:=by rw[<-K];exact((BI w.heap.size w).alloc (AS _) _).alloc (by simp) _
 have aC:Hid (Eu w2 (.slice (some ⟨w.heap.size,0,none⟩) 0 0) 0):=by
  rw[<-K];exact(Lm w).1.below bA (AS _)
 have aD:Hid (Eu w2 (.slice (some ⟨w.heap.size+1,0,none⟩) 0 0) 0):=by
  rw[<-K];have:=(Lm (w.alloc (.cells #[] 5))).1;show Eu _ _ _
  simpa using this
 have HO:=zq (RI.start X P (by omega));have bb:Hid (∀t S R,RI X t S R->Ac S 500/\Ac R 500):=λt S R h=>h.small J.1 500 fa;have aF:Hid (∀p,0<=X.getD p 0/\X.getD p 0<=9):=λp=>Ah X J.1 p;have ag:Hid (∀W (p:Nat),AD w.heap.size w W->p<=1000->cE 224 #[x,.int .i64 (p:Int)] W (.int .u8 (X.getD p 0))):=λW p A hp=>K8 x X p W (rX.below A (AS _)) (by omega) (by omega);have bc:Hid (∀S R,RI X 0 S R->S*S+R=lv X/\0<=S/\0<=R/\R<=2*S):=λS R ⟨h0,h1,h2,h3⟩=>⟨by simpa[lv] using h3,h0,h1,h2⟩;obtain⟨g,cg,rfl,bg,bh,bi⟩:=rX;rw[hn] at bg lX ag ⊢;have bj:Int.tdiv ((n:Int)+1) 2=(P:Int):=by rw[Int.tdiv_eq_ediv_of_nonneg (by omega)];omega
 have bO:P<=251:=by omega
 clear J fa bi hn hP bh;subst K;go_enter func171,ntmps171;go_wp2;go_loopw [4,5,18] (λu v i wr=>∃(q:Nat) (S R:Int),q<=P/\i=.int .i64 (q:Int)/\Hid (RI X (P-q) S R)/\Hid (Eu wr u S)/\Hid (Eu wr v R)/\AD w.heap.size w wr) (λ_ _ i _=>P-(intOf i).toNat);case atStart=>exact⟨0,0,0,B9 _,rfl,HO,aC,aD,aB⟩
 case round=>
  obtain⟨q,S,R,hq,rfl,HR,l,f,b⟩:=hrel;clear HO aB aC aD bj;by_cases bQ:q<P
  ·have bR:(q:Int)<(P:Int):=by omega
   obtain⟨t,ht⟩:=zxe (P-1-q);obtain⟨ep,bT⟩:(P:Int)-1-(q:Int)=(t:Int)/\t<=250:=by omega
   have L:Hid (RI X (t+1) S R):=by
    have:=HR.out;rwa[show P-q=t+1 by omega] at this
   have EP:Hid (P-(q+1)=t):=by show _=_;omega
   obtain⟨fS,fR⟩:=bb _ S R L;obtain⟨s0,r0,r2,-⟩:=L.out;have b1:=aF (2*t+1);have b0:=aF (2*t);have M:=zq fS;have FR:=zq fR;have bq:Hid (∀W,AD w.heap.size w W->cE 224 #[.slice (some ⟨g,0,none⟩) n cg,.int .i64 (2*(t:Int)+1)] W (.int .u8 (X.getD (2*t+1) 0))):=λW A=>by
    have:=ag W (2*t+1) A (by omega);rw[show((2*t+1:Nat):Int)=2*(t:Int)+1 by omega] at this;exact this
   have br:Hid (∀W,AD w.heap.size w W->cE 224 #[.slice (some ⟨g,0,none⟩) n cg,.int .i64 (2*(t:Int))] W (.int .u8 (X.getD (2*t) 0))):=λW A=>by
    have:=ag W (2*t) A (by omega);rw[show((2*t:Nat):Int)=2*(t:Int) by omega] at this;exact this
   have bs:Hid (∀T d,0<=T->0<=d->T+(20*S+d)*d=100*R+10*X.getD (2*t+1) 0+X.getD (2*t) 0->T<20*S+2*d+1->RI X t (10*S+d) T):=λT d t0 B h1 h2=>L.next t0 B h1 h2;clear fS fR HR L ht;generalize X.getD (2*t+1) 0=N at*
   generalize X.getD (2*t) 0=x0 at*
   go_wp2_with fail;refine ce (bq _ b) ?_;go_wp2_with fail;refine(DY _ R N _ f (FR.mono (by decide)) b1.1 b1.2).mono ?_;rintro e w4 ⟨v4,rfl,aJ,ap⟩;have aK:=zq aJ.1;have aL:=zq (l.below ap (AS _));have O:=b.trans (ap.mono b.size);clear aJ ap f l b;go_wp2_with fail;refine ce (br _ O) ?_;go_wp2_with fail;refine(DY _ (10*R+N) x0 _ aK ((FR.big (by omega)).mono (by decide)) b0.1 b0.2).mono ?_;rintro e w6 ⟨v6,rfl,aM,aq⟩;have ar:=zq aM.1;have Q:=zq (aL.below aq (AS _));have au:=O.trans (aq.mono O.size);clear aM aq aK aL O;obtain⟨m,aN⟩:=zxe (10*(10*R+N)+x0);rw[aN] at ar;have aO:Hid (m=100*R+10*N+x0):=by show _=_;omega
   have k:Hid (Ac m 900/\Ac (20*S+100) 900):=by
    exact⟨(FR.big (by omega)).mono (by decide),(M.big (by omega)).mono (by decide)⟩
   have bt:0<=m:=by omega
   clear aN;go_wp2_with fail;refine(Ju _ _ S S _ Q Q (M.mono (by decide)) (M.mono (by decide))).mono ?_;rintro e w7 ⟨z7,rfl,aP,U⟩;have aQ:=zq aP.1;have aR:=zq (ar.below U (AS _));have aS:=zq (Q.below U (AS _));have av:=au.trans (U.mono au.size);clear aP U ar Q au;go_wp2_with fail;refine(DY _ (S+S) 1 _ aQ ((k.2.le (by omega)).mono (by decide)) (by decide) (by decide)).mono ?_;rintro e w8 ⟨z8,rfl,aT,V⟩;have aU:Hid (Eu w8 z8 (20*S+2*0+1)):=by
    have:=aT.1;rwa[show 10*(S+S)+1=20*S+2*0+1 by omega] at this
   have aV:=zq (aR.below V (AS _));have aW:=zq (aS.below V (AS _));have aX:=av.trans (V.mono av.size);clear aT V aR aS av aQ;go_wp2;go_loopg [5,9,10] m.toNat (λgk v o c Y=>∃(T d:Int),0<=T/\T<=m/\0<=d/\d<=9/\gk=T.toNat/\c=.int .u8 d/\Hid (T+(20*S+d)*d=m)/\Hid (Eu Y v T)/\Hid (Eu Y o (20*S+2*d+1))/\Hid (Eu Y u4 S)/\AD w.heap.size w Y);case atStart=>exact⟨m,0,bt,Int.le_refl _,by decide,by decide,rfl,rfl,by show _=_;omega,aV,aU,aW,aX⟩
   case round=>
    clear aV aU aW aX;obtain⟨T,d,t0,t1,B,d9,aZ,rfl,D,f,E,l,b⟩:=hrel;have HG:=zq aZ;clear aZ;by_cases a0:20*S+2*d+1<=T
    ·have z:Hid (0<=Ay T (20*S+2*d+1)/\Ay T (20*S+2*d+1)<=1):=by
      show _/\_
      unfold Ay;rw[zyn (by omega)];split<;>omega
     have h8:d<=8:=RI.digit r2 s0 b1.2 b0.2 B d9 (by rw[D];exact aO) a0;have bC:Hid (T-(20*S+2*d+1)+(20*S+(d+1))*(d+1)=m):=by
      show _=_
      rw[<-D];grind
     go_wp2_with fail;refine cm (CV _ _ T (20*S+2*d+1) _ f E ((k.1.le t1).mono (by decide)) ((k.2.le (by omega)).mono (by decide))) λw9 j=>?_;have b2:=z.1;have b3:=z.2;generalize Ay T (20*S+2*d+1)=C at*
     have F:=zq (f.below j (AS _));have ax:=zq (E.below j (AS _));have G:=zq (l.below j (AS _));have y:=b.trans (j.mono b.size);clear j f E l b z D;go_wp2_with fail;refine(IT _ _ T (20*S+2*d+1) _ F ax ((k.1.le t1).mono (by decide)) ((k.2.le (by omega)).mono (by decide)) a0).mono ?_;rintro e r ⟨ua,rfl,H,s⟩;have Z:=zq H.1;have a1:=zq (ax.below s (AS _));have aa:=zq (G.below s (AS _));have I:AD w.heap.size w r:=y.trans (s.mono y.size);have a2:=zq (gh r 2 (by decide) (by decide));clear H s F ax G y;have ab:AD r.heap.size r (r.alloc (.cells #[.int .u8 2] 5)):=bA;have a3:=zq (Z.below ab (AS _));have a5:=zq (a1.below ab (AS _));have a6:=zq (aa.below ab (AS _));have ay:AD w.heap.size w (r.alloc (.cells #[.int .u8 2] 5)):=I.alloc I.size _;clear ab Z a1 aa I;go_wp2_with fail;refine(Ju _ _ (20*S+2*d+1) 2 _ a5 a2 ((k.2.le (by omega)).mono (by decide)) ((k.2.le (by omega)).mono (by decide))).mono ?_;rintro e wc ⟨uc,rfl,a7,ac⟩;have bH:Hid (Eu wc uc (20*S+2*(d+1)+1)):=by
      have:=a7.1;rwa[show 20*S+2*d+1+2=20*S+2*(d+1)+1 by omega] at this
     have bI:=zq (a3.below ac (AS _));have bJ:=zq (a6.below ac (AS _));have bK:=ay.trans (ac.mono ay.size);clear a7 ac a3 a5 a6 ay a2;go_wp2;go_roundg (T-(20*S+2*d+1)).toNat;case measure=>have:=HG.out;omega
     case rel=>exact⟨T-(20*S+2*d+1),d+1,by omega,by omega,by omega,by omega,rfl,rfl,bC,bI,bH,bJ,bK⟩
    ·have z:Hid (Ay T (20*S+2*d+1)=-1):=Ck _ _ (by omega);have bL:=zq (bs T d t0 B (by rw[D];exact aO) (by omega));go_wp2_with fail;refine cm (CV _ _ T (20*S+2*d+1) _ f E ((k.1.le t1).mono (by decide)) ((k.2.le (by omega)).mono (by decide))) λw9 j=>?_;rw[z.out];have F:=zq (f.below j (AS _));have G:=zq (l.below j (AS _));have y:=b.trans (j.mono b.size);clear j f E l b z D;go_wp2_with fail;refine(DY _ S d _ G (M.mono (by decide)) B d9).mono ?_;rintro e r ⟨ua,rfl,H,s⟩;have aa:=zq H.1;have Z:=zq (F.below s (AS _));have I:AD w.heap.size w r:=y.trans (s.mono y.size);clear H s F G y;go_wp2;go_roundw;case rel=>exact⟨q+1,10*S+d,T,by omega,by go_num,by rw[EP];exact bL,aa,Z,I⟩
     case measure=>simp[intOf];omega
  ·have e:q=P:=by omega
   subst e;have HF:=zq (bc S R (by have:=HR.out;rwa[Nat.sub_self] at this));go_wp2;go_ret2;exact⟨_,_,rfl,⟨S,R,l,f,HF⟩,b⟩
theorem mF(a:AG)(j:Nat)(c:j<a.length):(tx a).extract j (j+1)=tx [a.getD j 0]:=by
 apply De;rw[ByteArray.data_extract,AR,AR];simp only[List.getD,Dq c,Cd];apply Array.ext
 ·simp;omega
 ·intro i d b;simp at b;subst b;simp
theorem Fw(a:AG)(j:Nat)(b:j<a.length):vl (a.take (j+1))=vl (a.take j)*10+a.getD j 0:=by
 rw[List.take_succ_eq_append_getElem b,CX];simp[List.getD,b]
theorem Xt(A B Q R:Int)(h:Q*B+R=A)(a:0<=R)(b:R<B):Q=A/B/\R=A%B:=by
 have e:A=R+B*Q:=by rw[Int.mul_comm];omega
 have c:B≠0:=by omega
 constructor
 ·rw[e,Int.add_mul_ediv_left _ _ c,Int.ediv_eq_zero_of_lt a b];omega
 ·rw[e,Int.add_mul_emod_self_left,Int.emod_eq_of_lt a b]
theorem Yx(a b:AG)(d:AJ a)(e:AJ b)(h:vl a<=vl b):a.length<=b.length:=by
 rcases Nat.lt_or_ge b.length a.length with c|c
 ·have:=JY b a e d c;omega
 ·exact c
theorem fd(x y:Int)(h:y<=x):0<=Ay x y:=by
 unfold Ay;rw[zyn (by omega)];split<;>decide
theorem S8(a b:AG)(w:AA)(C:AJ a)(T:AJ b)(la:a.length<=900)(lb:b.length<=900)(U:0<vl b):
 Calls prog 132 #[.string (tx a),.string (tx b)] w λe D=>∃Q R,e=.returned (.tuple #[.string (tx Q),.string (tx R)])/\AJ Q/\AJ R/\vl Q=vl a/vl b/\vl R=vl a%vl b/\Q.length<=a.length/\R.length<=b.length/\AD w.heap.size w D:=by
 obtain⟨i0,hi,aq,ar,au⟩:=info_parts Yj;have V:=AE a;have aX:(tx a).size<=900:=by omega
 have Z:=zq V;have Ha:=zq C;have u:=zq T;have Hv:=zq U;have Hp:0<(tx a).size:=by have:=C.2.1;omega
 have ax:Hid (({data:=#[48]}:AB)=tx [0]):=by
  rw[Hid];apply De;rw[AR];rfl
 clear C T U V la;go_enter func132,ntmps132;go_wp2;go_loopw [6,7,8] (λq r i wr=>∃(j:Nat) (Q R:AG),j<=(tx a).size/\i=.int .i64 j/\r=.string (tx R)/\Hid (AJ R/\vl R<vl b/\Au Q/\Q.length=j/\vl Q*vl b+vl R=vl (a.take j))/\Hid (wr.ownsRow w.heap.size 5 1 q j ((Q.map (48+ ·)).map (Value.int .u8)))/\AD w.heap.size w wr) (λ_ _ i _=>(tx a).size-(intOf i).toNat);case atStart=>exact⟨0,[],[0],B9 _,rfl,by rw[ax],⟨Az,Hv,(λd hd=>by cases hd),rfl,by show(0:Int)*vl b+0=0;omega⟩,World.ownsRow_made w #[] 0 (AS _) (B9 _) rfl,bA⟩
 case round=>
  obtain⟨j,Q,R,hj,rfl,rfl,h,n,l⟩:=hrel;have v:=l.size;by_cases ay:j<(tx a).size
  ·have a0:(j:Int)<((tx a).size:Int):=by omega
   have E:j<a.length:=by rw[<-Z];exact ay
   have Hx:=zq (mF a j E);have bd:=Ah a Ha.1 j;have HT:=zq (Fw a j E);have lR:R.length<=b.length:=Yx R b h.1 u (by have:=h.2.1;omega);generalize a.getD j 0=d at*
   clear E;have F:Hid (Au (R++[d])):=λx g=>by
    rcases List.mem_append.1 g with g|g
    ·exact h.1.1 x g
    ·rw[List.mem_singleton] at g;rw[g];exact bd
   obtain⟨aB,aC⟩:(j:Int)+1<=((tx a).size:Int)/\(j:Int)<=(j:Int)+1:=by omega
   have aD:j+1<=(tx a).size:=by omega
   have aE:(tx R).size<=1000:=by rw[AE];omega
   have ac:(R++[d]).length<=1000:=by rw[Dc];show R.length+1<=1000;omega
   have y:Hid (AJ (AU (R++[d]))/\vl (AU (R++[d]))=vl R*10+d/\(AU (R++[d])).length<=b.length+1):=⟨BK _ F (by rw[Dc];show 0<R.length+1;omega),by rw[B8,CX],DT (Bf _) (by rw[Dc];show R.length+1<=b.length+1;omega)⟩;have a2:b.length+1<=901:=by omega
   go_wp2_with fail;rw[Hx,Ax];refine cm (Bj (R++[d]) _ F ac) λD G=>?_;obtain rfl:=G.symm;generalize AU (R++[d])=S at*
   have hT:Hid (vl S<10*vl b):=by
    rw[Hid,y.out.2.1];have:=h.2.1;omega
   clear Hx F ac aE aB aC aD;go_wp2;go_loopw [7,9] (λr k wr=>∃(q:Nat) (f:AG),q<=9/\r=.string (tx f)/\k=.int .u8 q/\Hid (AJ f/\vl f+q*vl b=vl S/\f.length<=b.length+1)/\AD w.heap.size w wr/\Hid (wr.ownsRow w.heap.size 5 1 u6 j ((Q.map (48+ ·)).map (Value.int .u8)))) (λ_ k _=>10-(intOf k).toNat);case atStart=>exact⟨0,S,by omega,rfl,rfl,⟨y.1,by show vl S+0*vl b=vl S;omega,y.2.2⟩,l,n⟩
   case round=>
    clear n l v;obtain⟨q,f,hq,rfl,rfl,o,l,n⟩:=hrel;have v:=l.size;have ad:f.length<=1000:=by have:=o.2.2;omega
    have H:=zq λW=>DG f b W o.1 u ad (by omega);by_cases z:vl b<=vl f
    ·have I:=fd _ _ z;have Cs:=zq λW=>Cn f b W o.1 u ad z;have a5:q<=8:=by
      have J:=o.2.1;have h2:=hT.out;rcases Nat.lt_or_ge q 9 with c|c
      ·omega
      ·have e9:(q:Int)=9:=by omega
       rw[e9] at J;omega
     have Hn:Hid (vl f-vl b+((q+1:Nat):Int)*vl b=vl S):=by
      have J:=o.2.1;rw[Hid,Int.natCast_add,Int.add_mul];show vl f-vl b+((q:Int)*vl b+1*vl b)=vl S
      omega
     generalize Ay (vl f) (vl b)=c at*
     clear z;go_wp2_with fail;refine cm (H _) λw1 m=>?_;have aK:=m.size;have p:=Ct n m (AS _);go_wp2_with fail;refine(Cs _).mono ?_;rintro e w2 ⟨A,rfl,c2,v2,l2,K⟩;have H2:Hid (AJ A/\vl A+((q+1:Nat):Int)*vl b=vl S/\A.length<=b.length+1):=⟨c2,by rw[v2];exact Hn,by have:=o.2.2;omega⟩;have aN:=zq (Ct p K (AS _));have aO:AD w.heap.size w w2:=(l.trans (m.mono v)).trans (K.mono (by omega));clear c2 v2 p m K;go_wp2;go_roundw;case rel=>exact⟨q+1,A,by omega,rfl,by go_num,H2,aO,aN⟩
     case measure=>simp[intOf];omega
    ·have I:Ay (vl f) (vl b)=-1:=Ck _ _ (by omega);have Hq:Hid (AJ f/\vl f<vl b/\Au (Q++[(q:Int)])/\(Q++[(q:Int)]).length=j+1/\vl (Q++[(q:Int)])*vl b+vl f=vl (a.take (j+1))):=by
      refine⟨o.1,by omega,λx g=>?_,?_,?_⟩
      ·rcases List.mem_append.1 g with g|g
       ·exact h.2.2.1 x g
       ·rw[List.mem_singleton] at g;rw[g];omega
      ·rw[Dc,h.out.2.2.2.1];rfl
      ·rw[CX,HT,Int.add_mul,Int.mul_assoc,Int.mul_comm 10,<-Int.mul_assoc];have J:=o.2.1;have h2:=y.2.1;have h3:=h.2.2.2.2;generalize vl Q*vl b=X at*
       generalize (q:Int)*vl b=Y at*
       omega
     have aQ:Hid (cA 193 #[.string (tx f),.string (tx b)] (.int .i64 (-1))):=by rw[<-I];exact H
     clear H I z;go_wp2_with fail;refine cm (aQ _) λw1 m=>?_;have aK:=m.size;have p:=Ct n m (AS _);have aR:=l.trans (m.mono v);clear m n l;go_wp2_with (first|(at_builtin;refine wpList_append_own _ rfl _ _ 22 rfl w.heap.size 5 i0 (.int .u8 0) 1 1 underlying22 hi aq ar au rfl (by decide) _ _ _ rfl (p.alloc _) ⟨w1.heap.size,0,none⟩ 1 1 [.int .u8 (48+(q:Int))] rfl rfl (JC _ _ _) (Gf _ _) (by unfold maxLen;omega) (by omega) (by simp;omega) ?_)|go_in);intro v' w3 ai aj _;have aT:AD w.heap.size w w3:=Below.grown (aR.alloc (by omega) _) aj (by simp;omega) (λk hk=>(p.lt k hk).1);have H3:Hid (w3.ownsRow w.heap.size 5 1 v' (j+1) (((Q++[(q:Int)]).map (48+ ·)).map (Value.int .u8))):=by
      rw[Hid];simpa using ai
     clear ai aj p;go_wp2;go_roundw;case rel=>exact⟨j+1,Q++[(q:Int)],f,by omega,by go_num,rfl,Hq,H3,aT⟩
     case measure=>simp[intOf];omega
  ·have hd:decide ((j:Int)<((tx a).size:Int))=false:=by simp;omega
   have ej:j=a.length:=by have:=Z.out;omega
   obtain⟨B,rb,L,t,M⟩:=h.out;rw[ej,List.take_length] at M;obtain⟨g2,a9,N,O⟩:=Gs wr _ _ Q (by rw[t];exact n) (by rw[t];omega);rw[t] at N;rw[N] at O ⊢;have ba:=O 9 underlying9;have P:=Xt _ _ _ _ M (AZ R B.1).1 rb;have s:Hid (AJ (AU Q)/\AJ R/\vl (AU Q)=vl a/vl b/\vl R=vl a%vl b/\(AU Q).length<=a.length/\R.length<=b.length):=⟨BK Q L (by rw[t];omega),B,by rw[B8];exact P.1,P.2,DT (Bf _) (by omega),Yx R b B u (by omega)⟩;have am:Hid (Au Q/\Q.length<=1000):=⟨L,by omega⟩;clear O N n B rb L t M P ej h;go_wp2_with fail;refine cm (Bj Q _ am.1 am.2) λD G=>?_;obtain rfl:=G.symm;go_wp2;go_ret2;exact⟨_,_,rfl,s.1,s.2.1,s.2.2.1,s.2.2.2.1,s.2.2.2.2.1,s.2.2.2.2.2,l⟩
theorem Nn(S R P a k:Int)(h:S*S+R=P)(e:R<=2*S)(f:0<=R)(g:0<=S)(i:0<=a)(j:a<=99)(l:0<=k)(m:k<=9)(n:(S*20+k)*k<=R*100+a)(b:k=9\/R*100+a<(S*20+(k+1))*(k+1)):
 (S*10+k)*(S*10+k)+(R*100+a-(S*20+k)*k)=P*100+a/\R*100+a-(S*20+k)*k<=2*(S*10+k):=by
 have o:(S*10+k)*(S*10+k)=S*S*100+(S*20+k)*k:=by
  rw[Int.add_mul,Int.add_mul,Int.mul_add,Int.mul_add];have:S*10*(S*10)=S*S*100:=by
   rw[Int.mul_assoc,Int.mul_left_comm 10 S 10,<-Int.mul_assoc];rfl
  have c:S*10*k=S*k*10:=by rw[Int.mul_assoc,Int.mul_comm 10,<-Int.mul_assoc]
  have p:k*(S*10)=S*k*10:=by rw[Int.mul_comm k,c]
  have q:S*20*k=S*k*20:=by rw[Int.mul_assoc,Int.mul_comm 20,<-Int.mul_assoc]
  omega
 have r:(S*20+(k+1))*(k+1)=(S*20+k)*k+(S*20+2*k+1):=by
  rw[Int.mul_add,Int.mul_one,Int.add_mul,Int.add_mul,Int.add_mul];omega
 refine⟨by omega,?_⟩;rcases b with d|s
 ·subst d;have:(S*20+9)*9=S*180+81:=by rw[Int.add_mul,Int.mul_assoc];rfl
  omega
 ·omega
theorem mG(a:AG)(j:Nat)(b:j+1<a.length):(tx a).extract j (j+2)=tx [a.getD j 0,a.getD (j+1) 0]:=by
 apply De;rw[ByteArray.data_extract,AR,AR];simp only[List.getD,Dq b,Dq (show j<a.length by omega),Cd];apply Array.ext
 ·simp;omega
 ·intro i d c;simp at c;rcases(show i=0\/i=1 by omega) with rfl|rfl
  ·simp
  ·simp
theorem LS(d:Int)(W:AA):∀a,prog.underlying a=some .string->(convert 22 a (.slice (some ⟨W.heap.size,0,none⟩) 1 1)).run prog (W.alloc (.cells #[.int .u8 (48+d)] 5))=.ok (.string (tx [d])) (W.alloc (.cells #[.int .u8 (48+d)] 5)):=
 run_convert_bytes_arg (P:=prog) _ 22 5 underlying22 underlying5 W.heap.size 0 1 1 [48+d] rfl (λi b=>by
  match i,b with
  |0,_=>simp)
theorem Gz(a:AG)(d:Int)(h:Au a)(c:0<=d)(e:d<=9):Au (a++[d]):=λx b=>by
 rcases List.mem_append.1 b with b|b
 ·exact h x b
 ·rw[List.mem_singleton] at b;rw[b];exact⟨c,e⟩
def RT(A:AG)(i:Nat)(S R:AG):Prop:=AJ S/\AJ R/\vl S*vl S+vl R=vl (A.take i)/\vl R<=2*vl S/\S.length<=i+1/\R.length<=i+1
theorem XT(A:AG):RT A 0 [0] [0]:=⟨Az,Az,rfl,by decide,by decide,by decide⟩
theorem SH(A:AG)(j:Nat)(a:j+1<A.length):vl (A.take (j+2))=vl (A.take j)*100+(A.getD j 0*10+A.getD (j+1) 0):=by
 rw[Fw A (j+1) a,Fw A j (by omega)];omega
theorem Qu(a:AG)(w:AA)(ha:AJ a)(la:a.length<=290):
 Calls prog 135 #[.string (tx a)] w λe O=>∃S R,e=.returned (.tuple #[.string (tx S),.string (tx R)])/\AJ S/\AJ R/\vl S*vl S+vl R=vl a/\vl R<=2*vl S/\S.length<=a.length+2/\R.length<=a.length+2/\AD w.heap.size w O:=by
 have sa:=AE a;have t0:({data:=#[48]}:AB)=tx [0]:=by apply De;rw[AR];rfl
 have ax:({data:=#[50,48]}:AB)=tx [2,0]:=by apply De;rw[AR];rfl
 have ay:AJ [2,0]:=⟨λd C=>by simp at C;omega,by decide,.inr (by decide)⟩;have az:(((((tx a).size:Int)%2)==1)=false/\a.length%2=0)\/(((((tx a).size:Int)%2)==1)=true/\a.length%2=1):=by
  rcases(show a.length%2=0\/a.length%2=1 by omega) with h|h
  ·exact .inl ⟨by simp;omega,h⟩
  ·exact .inr ⟨by simp;omega,h⟩
 have hA:∃A:AG,Au A/\A.length%2=0/\vl A=vl a/\A.length<=a.length+1/\((((((tx a).size:Int)%2)==1)=false/\A=a)\/((((((tx a).size:Int)%2)==1)=true)/\({data:=#[48]}:AB)++tx a=tx A)):=by
  rcases az with⟨Q,y⟩|⟨Q,y⟩
  ·exact⟨a,ha.1,y,rfl,by omega,.inl ⟨Q,rfl⟩⟩
  ·refine⟨0::a,λd C=>?_,by simp;omega,by rw[Br,Int.mul_zero,Int.add_zero],by simp,.inr ⟨Q,by rw[t0,Ax];rfl⟩⟩;rcases List.mem_cons.1 C with rfl|C
   ·exact⟨by decide,by decide⟩
   ·exact ha.1 d C
 obtain⟨A,dA,eA,vA,lA,hA⟩:=hA;have U:=eh dA eA vA lA;have T0:=zq t0;have aD:=Ab ax ay;have sA:(tx A).size<=291:=by rw[AE];omega
 have bs:(tx a).size<=290:=by omega
 have aE:=zq (AE A);have a1:Hid ((tx A).size%2=0):=by rw[Hid,AE];exact eA
 clear dA eA vA lA t0 ax ay az sa ha;generalize a2:vl a=va at*
 generalize a5:a.length=na at*
 clear a2 a5;rcases hA with⟨a6,rfl⟩|⟨a6,bt⟩
 all_goals
  go_enter func135,ntmps135;go_wp2;go_loopw [4,5,6] (λs r i wr=>∃(j:Nat) (S R:AG),j<=(tx A).size/\i=.int .i64 j/\s=.string (tx S)/\r=.string (tx R)/\Hid (RT A j S R/\j%2=0)/\AD w.heap.size w wr) (λ_ _ i _=>(tx A).size-(intOf i).toNat);case atStart=>exact⟨0,[0],[0],B9 _,rfl,by rw[T0],by rw[T0],⟨XT A,rfl⟩,BI _ _⟩
  case round=>
   obtain⟨j,S,R,hj,rfl,rfl,rfl,b,v⟩:=hrel;have E:=v.size;by_cases bv:j<(tx A).size
   ·have bx:j+2<=(tx A).size:=by have:=a1.out;have:=b.2;omega
    have aj:j+1<A.length:=by rw[<-aE];omega
    have Hx:=zq (mG A j aj);have b1:=Ah A U.1 j;have b2:=Ah A U.1 (j+1);have HT:=zq (SH A j aj);generalize A.getD j 0=o at*
    generalize A.getD (j+1) 0=p at*
    clear aj;have lR:=b.1.2.2.2.2.2;have lS:=b.1.2.2.2.2.1;have HD:Hid (Au (R++[o,p])):=λx F=>by
     rcases List.mem_append.1 F with F|F
     ·exact b.1.2.1.1 x F
     ·simp at F;omega
    have V:(R++[o,p]).length=R.length+2:=by rw[Dc];rfl
    have f:Hid (AJ (AU (R++[o,p]))/\vl (AU (R++[o,p]))=vl R*100+(o*10+p)/\(AU (R++[o,p])).length<=j+3):=⟨BK _ HD (by rw[V];omega),by rw[B8,show R++[o,p]=(R++[o])++[p] by simp,CX,CX];omega,DT (Bf _) (by rw[V];omega)⟩;obtain⟨a7,a8⟩:(j:Int)+2<=((tx A).size:Int)/\(j:Int)<=(j:Int)+2:=by omega
    have bE:(j:Int)<((tx A).size:Int):=by omega
    have bF:(tx R).size<=1000:=by rw[AE];omega
    have bG:(tx S).size<=1000:=by rw[AE];omega
    have aJ:(R++[o,p]).length<=1000:=by rw[V];omega
    clear V;go_wp2_with fail;rw[Hx,Ax];refine cm (Bj (R++[o,p]) _ HD aJ) λO G=>?_;obtain rfl:=G.symm;generalize AU (R++[o,p])=g at*
    clear Hx HD aJ a7 a8;go_wp2_with fail;rw[aD.out.1];refine(pH S [2,0] _ b.1.1 aD.2 (by omega) (by decide)).mono ?_;rintro e w1 ⟨T,rfl,cT,vT,lT,aM⟩;have Y:Hid (AJ T/\vl T=vl S*20/\T.length<=j+3):=⟨cT,vT,by have y:([2,0]:AG).length=2:=rfl;omega⟩;have al:=v.trans (aM.mono E);have ba:=al.size;clear cT vT lT aM v E;go_wp2;go_loopw [8,9] (λk st wr=>∃(q:Nat) (P:AG),q<=9/\k=.int .u8 q/\st=.string (tx P)/\Hid (AJ P/\vl P=(vl S*20+q)*q/\vl P<=vl g/\P.length<=400)/\AD w.heap.size w wr) (λk _ _=>9-(intOf k).toNat);case atStart=>exact⟨0,[0],by omega,rfl,by rw[T0],⟨Az,by show(0:Int)=(vl S*20+0)*0;rw[Int.mul_zero],(AZ g f.1.1).1,by decide⟩,al⟩
    case round=>
     clear al ba;obtain⟨q,P,hq,rfl,rfl,n,v⟩:=hrel;have E:=v.size;by_cases bJ:q<9
     ·have aN:=LS ((q:Int)+1) wr 9 underlying9;rw[show 48+((q:Int)+1)=48+(q:Int)+1 by omega] at aN;have bc:(q:Int)<9:=by omega
      have Z:Hid (AJ [(q:Int)+1]/\vl [(q:Int)+1]=(q:Int)+1):=⟨BL _ (by omega) (by omega),by show(q:Int)+1+10*0=_;omega⟩;go_wp2_with fail;refine(Fg T [(q:Int)+1] _ Y.1 Z.1 (by have:=Y.2.2;omega) (by show 1<=300;decide)).mono ?_;rintro e w2 ⟨T1,rfl,c1,v1,l1,aR⟩;have bK:T1.length<=j+4:=by
       have Q:=Y.2.2;have y:([(q:Int)+1]:AG).length=1:=rfl;rw[y] at l1;omega
      have H1:Hid (AJ T1/\vl T1=vl S*20+(q+1)):=⟨c1,by rw[v1,Y.out.2.1,Z.out.2]⟩;have aT:AD w.heap.size w w2:=(v.alloc E _).trans (aR.mono (by simp;omega));have bf:=aT.size;clear c1 v1 l1 aR;go_wp2_with fail;refine(pH T1 [(q:Int)+1] _ H1.1 Z.1 (by omega) (by show 1<=400;decide)).mono ?_;rintro e w3 ⟨X,rfl,cX,vX,lX,aW⟩;have z:Hid (AJ X/\vl X=(vl S*20+(q+1))*(q+1)/\X.length<=400):=⟨cX,by rw[vX,H1.out.2,Z.out.2],by have y:([(q:Int)+1]:AG).length=1:=rfl;rw[y] at lX;omega⟩;have an:=aT.trans (aW.mono bf);have aX:=an.size;have Cc:=zq λW=>DG X g W cX f.1 (by have:=z.2.2;omega) (by have:=f.2.2;omega);clear cX vX lX aW aN;by_cases ac:vl g<vl X
      ·have ec:=Du _ _ ac;have aZ:Hid (cA 193 #[.string (tx X),.string (tx g)] (.int .i64 1)):=by rw[<-ec];exact Cc
       have H:Hid ((q:Int)=9\/vl g<(vl S*20+((q:Int)+1))*((q:Int)+1)):=.inr (by rw[<-z.out.2.1];exact ac);clear Cc ec ac z;go_wp2_with fail;refine cm (aZ _) λw4 I=>?_;have ad:=an.trans (I.mono aX);have ao:=ad.size;clear I aZ;have ap:=zq λW=>Cn g P W f.1 n.1 (by have:=f.2.2;omega) n.2.2.1;have J:Hid (∀m:AG,AJ m->vl m=vl g-vl P->m.length<=g.length->RT A (j+2) (AU (S++[(q:Int)])) m/\(j+2)%2=0):=λm u t B=>by
        have K:=Nn (vl S) (vl R) (vl (A.take j)) (o*10+p) q b.1.2.2.1 b.1.2.2.2.1 (AZ R b.1.2.1.1).1 (AZ S b.1.1.1).1 (by omega) (by omega) (by omega) (by omega) (by rw[<-n.out.2.1,<-f.out.2.1];exact n.2.2.1) (by rw[<-f.out.2.1];exact H);have dS:Au (S++[(q:Int)]):=Gz S q b.1.1.1 (by omega) (by omega);have lS:=b.1.2.2.2.2.1;have bh:=f.2.2;refine⟨⟨BK _ dS (by rw[Dc];show 0<S.length+1;omega),u,?_,?_,DT (Bf _) (by rw[Dc];show S.length+1<=j+2+1;omega),by omega⟩,by have:=b.2;omega⟩
        ·rw[B8,CX,t,HT,n.out.2.1,f.out.2.1];exact K.1
        ·rw[B8,CX,t,n.out.2.1,f.out.2.1];exact K.2
       have L:Hid (Au (S++[(q:Int)])/\(S++[(q:Int)]).length<=1000):=⟨Gz S q b.1.1.1 (by omega) (by omega),by rw[Dc];show S.length+1<=1000;have:=b.1.2.2.2.2.1;omega⟩;clear H n;go_wp2_with fail;refine(ap _).mono ?_;rintro e w5 ⟨m,rfl,u,t,B,M⟩;have au:=zq (J m u t B);have N:=ad.trans (M.mono ao);have av:=N.size;have bi:=LS (q:Int) w5 9 underlying9;have bj:(tx [(q:Int)]).size<=1000:=by rw[AE];show 1<=1000;decide
       obtain⟨bk,bm⟩:((tx [(q:Int)]).size:Int)<=1000/\((tx S).size:Int)<=1000:=by omega
       clear u t B M J;go_wp2_with fail;rw[Ax];refine cm (Bj (S++[(q:Int)]) _ L.1 L.2) λO G=>?_;obtain rfl:=G.symm;have aw:=N.alloc av (.cells #[.int .u8 (48+(q:Int))] 5);go_wp2;go_roundw;case rel=>exact⟨j+2,_,m,by omega,by go_num,rfl,rfl,au,aw⟩
       case measure=>simp[intOf];omega
      ·have bM:Ay (vl X) (vl g)<=0:=by(unfold Ay;split<;>(try split)<;>omega)
       have bN:decide (0<Ay (vl X) (vl g))=false:=by simp;omega
       have bo:Hid (AJ X/\vl X=(vl S*20+((q+1:Nat):Int))*((q+1:Nat):Int)/\vl X<=vl g/\X.length<=400):=⟨z.1,z.2.1,by omega,z.2.2⟩;generalize Ay (vl X) (vl g)=c at*
       clear ac z;go_wp2_with fail;refine cm (Cc _) λw4 I=>?_;have bp:=an.trans (I.mono aX);clear I Cc;go_wp2;go_roundw;case rel=>exact⟨q+1,X,by omega,by go_num,rfl,bo,bp⟩
       case measure=>simp[intOf];omega
     ·have bc:decide ((q:Int)<9)=false:=by simp;omega
      have H:Hid ((q:Int)=9\/vl g<(vl S*20+((q:Int)+1))*((q:Int)+1)):=.inl (by omega);have ad:=v;have ao:=E;have ap:=zq λW=>Cn g P W f.1 n.1 (by have:=f.2.2;omega) n.2.2.1;have J:Hid (∀m:AG,AJ m->vl m=vl g-vl P->m.length<=g.length->RT A (j+2) (AU (S++[(q:Int)])) m/\(j+2)%2=0):=λm u t B=>by
       have K:=Nn (vl S) (vl R) (vl (A.take j)) (o*10+p) q b.1.2.2.1 b.1.2.2.2.1 (AZ R b.1.2.1.1).1 (AZ S b.1.1.1).1 (by omega) (by omega) (by omega) (by omega) (by rw[<-n.out.2.1,<-f.out.2.1];exact n.2.2.1) (by rw[<-f.out.2.1];exact H);have dS:Au (S++[(q:Int)]):=Gz S q b.1.1.1 (by omega) (by omega);have lS:=b.1.2.2.2.2.1;have bh:=f.2.2;refine⟨⟨BK _ dS (by rw[Dc];show 0<S.length+1;omega),u,?_,?_,DT (Bf _) (by rw[Dc];show S.length+1<=j+2+1;omega),by omega⟩,by have:=b.2;omega⟩
       ·rw[B8,CX,t,HT,n.out.2.1,f.out.2.1];exact K.1
       ·rw[B8,CX,t,n.out.2.1,f.out.2.1];exact K.2
      have L:Hid (Au (S++[(q:Int)])/\(S++[(q:Int)]).length<=1000):=⟨Gz S q b.1.1.1 (by omega) (by omega),by rw[Dc];show S.length+1<=1000;have:=b.1.2.2.2.2.1;omega⟩;clear H n;go_wp2_with fail;refine(ap _).mono ?_;rintro e w5 ⟨m,rfl,u,t,B,M⟩;have au:=zq (J m u t B);have N:=ad.trans (M.mono ao);have av:=N.size;have bi:=LS (q:Int) w5 9 underlying9;have bj:(tx [(q:Int)]).size<=1000:=by rw[AE];show 1<=1000;decide
      obtain⟨bk,bm⟩:((tx [(q:Int)]).size:Int)<=1000/\((tx S).size:Int)<=1000:=by omega
      clear u t B M J;go_wp2_with fail;rw[Ax];refine cm (Bj (S++[(q:Int)]) _ L.1 L.2) λO G=>?_;obtain rfl:=G.symm;have aw:=N.alloc av (.cells #[.int .u8 (48+(q:Int))] 5);go_wp2;go_roundw;case rel=>exact⟨j+2,_,m,by omega,by go_num,rfl,rfl,au,aw⟩
      case measure=>simp[intOf];omega
   ·have C:decide ((j:Int)<((tx A).size:Int))=false:=by simp;omega
    have D:Hid (AJ S/\AJ R/\vl S*vl S+vl R=va/\vl R<=2*vl S/\S.length<=na+2/\R.length<=na+2):=by
     have h:=b.1;have e:j=A.length:=by have:=aE.out;omega
     have l:=U.2.2.2;unfold RT at h;rw[e,List.take_length,U.out.2.2.1] at h;exact⟨h.1,h.2.1,h.2.2.1,h.2.2.2.1,by have:=h.2.2.2.2.1;omega,by have:=h.2.2.2.2.2;omega⟩
    clear b;go_wp2;go_ret2;exact⟨S,R,rfl,D.1,D.2.1,D.2.2.1,D.2.2.2.1,D.2.2.2.2.1,D.2.2.2.2.2,v⟩
end Go.Proofs.YteofommckgeemaaGreatDoor
