/- Steps. -/
import Derived.Test.YteofommckgeemaaGreatDoorEAG
import Derived.Test.YteofommckgeemaaGreatDoorEAC
namespace Go.Proofs.YteofommckgeemaaGreatDoor
open Go.RowKit Go.Proofs.Tryz
set_option linter.unusedVariables false
set_option linter.unusedSimpArgs false
set_option maxRecDepth 100000
set_option maxHeartbeats 8000000
def OJ(s t:AB):AB:=if M3 s t then(if nv t=0 then{data:=#[]} else tx (nt (nv s/nv t))) else{data:=#[]}
def OK(s t:AB):AB:=if M3 s t then(if nv t=0 then{data:=#[]} else tx (nt (nv s%nv t))) else{data:=#[]}
theorem Bg(a:AG)(h:AJ a)(b:vl a=0):a=[0]:=FX a [0] h Az (by rw[b];rfl)
def C5(s:AB)(n:Int):AB:=if Be 200 s&&(decide (0<=n)&&decide (n<=200)) then DE (nt (nv s*10^n.toNat)) else{data:=#[]}
theorem BS(a:AG)(n:Nat)(w:AA)(b:AJ a)(f:a.length<=200)(g:n<=200):
 Calls prog 133 #[.string (tx a),.int .i64 n] w λe c=>∃R,e=.returned (.string (tx R))/\R=nt (vl a*10^n)/\R.length<=500/\AD w.heap.size w c:=by
 rcases Nat.eq_zero_or_pos n with h|h
 ·subst h;refine cm (IB a w b f) λc d=>?_;exact⟨a,rfl,BW a _ b (by simp) (by omega),by omega,d⟩
 ·refine(Iy a n w b f h g).mono ?_;rintro e c ⟨R,rfl,i,j,k,d⟩;exact⟨R,rfl,BW R _ i j (by omega),by omega,d⟩
theorem Yd(s:AB)(n:Int)(w:AA)(G:s.size<=4611686018427387904):
 cE 219 #[.string s,.int .i64 n] w (.bool (Be n s)):=by
 by_cases f:s.size<1
 ·have E:=zq (Fl n s f);have x:(s.size:Int)=0:=by omega
  clear f;go_enter func219,ntmps219;go_wp2;go_ret;exact⟨Ln.ret_bool E.symm,rfl⟩
 have x:((s.size:Int)==0)=false:=beq_eq_false_iff_ne.2 (by omega);have d:0<s.size:=by omega
 by_cases g:n<(s.size:Int)
 ·have E:=zq (Hc n s g);go_enter func219,ntmps219;go_wp2;go_ret;exact⟨Ln.ret_bool E.symm,rfl⟩
 have H:decide (n<(s.size:Int))=false:=by simpa using g
 have l:=zq λh y=>Hb n s d (by omega) y h;have z:=zq λh e=>Hd n s h e;have m:=zq λk o h=>I6 n s k o h;clear f g;generalize Be n s=r at*
 go_enter func219,ntmps219;go_wp2;go_loop [17] (λi=>∃k:Nat,k<=s.size/\i=.int .i64 k/\Hid (∀q (b:q<s.size),q<k->48<=(s[q]'b).toNat/\(s[q]'b).toNat<=57)) (λi=>s.size-(intOf i).toNat);case atStart=>exact⟨0,B9 _,rfl,λq b h=>absurd h (Nat.not_lt_zero q)⟩
 case round=>
  obtain⟨k,o,rfl,e⟩:=hrel;by_cases a:k<s.size
  ·have I:(k:Int)<(s.size:Int):=by omega
   by_cases A:(s[k]'a).toNat<48
   ·have p:((s[k]'a).toNat:Int)<48:=by omega
    go_wp2;go_ret;exact⟨Ln.ret_bool (m k a (.inl A)).symm,rfl⟩
   ·have p:¬((s[k]'a).toNat:Int)<48:=by omega
    have J:=By p;by_cases B:57<(s[k]'a).toNat
    ·have C:(57:Int)<((s[k]'a).toNat:Int):=by omega
     go_wp2;go_ret;exact⟨Ln.ret_bool (m k a (.inr B)).symm,rfl⟩
    ·have C:¬(57:Int)<((s[k]'a).toNat:Int):=by omega
     go_wp2;go_round;case rel=>exact⟨k+1,by omega,by go_num,λq b h=>by rcases Nat.lt_or_ge q k with c|c;exact e q b c;obtain rfl:q=k:=(by omega);omega⟩
     case measure=>simp[intOf];omega
  ·have K:¬(k:Int)<(s.size:Int):=by omega
   have t:=zq λq b=>e q b (by omega);clear e;by_cases u:s.size<=1
   ·have D:(s.size:Int)=1:=by omega
    have E:=zq (l t (.inl u));clear u;go_wp2;go_ret;exact⟨Ln.ret_bool E.symm,rfl⟩
   ·have D:((s.size:Int)==1)=false:=beq_eq_false_iff_ne.2 (by omega);by_cases j:(s[0]'d).toNat=48
    ·have v:((s[0]'d).toNat:Int)=48:=by omega
     have E:=zq (z (by omega) j);clear j;go_wp2;go_ret;exact⟨Ln.ret_bool E.symm,rfl⟩
    ·have v:(((s[0]'d).toNat:Int)==48)=false:=beq_eq_false_iff_ne.2 (by omega);have E:=zq (l t (.inr j));have F:Hid ((((s[0]'d).toNat:Int)!=48)=true):=by show _=_;rw[bne,v];rfl
     go_wp2;go_ret;exact⟨Ln.ret_bool (by rw[F,E]),rfl⟩
theorem A0(s:AB)(w:AA)(a:s.size<=4611686018427387904):
 cE 162 #[.string s] w (.bool (Be 200 s)):=by
 go_enter func162,ntmps162;go_wp2_with fail;refine ce (Yd s 200 _ a) ?_;go_wp2;go_ret;exact⟨rfl,rfl⟩
theorem Dl(s:AB)(h:Be 200 s=true):Ac (nv s) 200:=(Gd 200 s h).2
theorem Tf(n:Int)(k:Nat)(a:0<=n)(b:Ac n k)(g:1<=k)(d:k<=500):(nt n).length<=k:=by
 have e:Ac n 500:=by unfold Ac at*;have:=AI k 500 d;omega
 obtain⟨f,h⟩:=B5 n a e;rcases Nat.lt_or_ge k (nt n).length with c|c
 ·exfalso;have l:=EB (nt n) f (by omega);have m:=AI k ((nt n).length-1) (by omega);unfold Ac at b;omega
 ·exact c
theorem La(n:Int)(a:0<=n)(b:Ac n 200):DE (nt n)=tx (nt n):=by
 unfold DE;rw[zyp (Tf n 200 a b (by decide) (by decide))]
theorem I5(s:AB)(w:AA)(h:Be 200 s=true):
 Calls prog 163 #[.string s] w λe a=>∃u,e=.returned u/\CD a w.heap.size u (nv s)/\AD w.heap.size w a:=by
 obtain⟨b,c,e⟩:=Fk 200 s h;have:=ge (dl s) w b.1 (by omega);rw[<-e] at this;exact this
theorem JA(s t:AB)(w:AA)(c:s.size<=4611686018427387904)(f:t.size<=4611686018427387904)(h:M3 s t=false):
 cB 159 #[.string s,.string t] w (.tuple #[.slice none 0 0,.slice none 0 0,.bool false]):=by
 rcases lF h with a|⟨a,d⟩
 ·have b:=zq a;clear h a;go_enter func159,ntmps159;go_wp2_with fail;refine(A0 s _ c).mono ?_;rintro e g ⟨rfl,rfl⟩;rw[b];go_wp2;refine Do (results_tmp3 rfl _ _ _) rfl ?_;exact⟨rfl,BI _ _⟩
 ·have b:=Ab a d;clear h a d;go_enter func159,ntmps159;go_wp2_with fail;refine(A0 s _ c).mono ?_;rintro e g ⟨rfl,rfl⟩;rw[b.out.1];go_wp2_with fail;refine ce (A0 t _ f) ?_;rw[b.out.2];go_wp2;refine Do (results_tmp3 rfl _ _ _) rfl ?_;exact⟨rfl,BI _ _⟩
theorem Gc(s t:AB)(w:AA)(l:s.size<=4611686018427387904)(m:t.size<=4611686018427387904)(h:M3 s t=true):
 Calls prog 159 #[.string s,.string t] w λe a=>∃u v,e=.returned (.tuple #[u,v,.bool true])/\Eu a u (nv s)/\Eu a v (nv t)/\AD w.heap.size w a:=by
 obtain⟨f,g⟩:=Hf h;have b:=Ab f g;clear h f g;go_enter func159,ntmps159;go_wp2_with fail;refine(A0 s _ l).mono ?_;rintro e a ⟨rfl,rfl⟩;rw[b.out.1];go_wp2_with fail;refine(A0 t _ m).mono ?_;rintro e a ⟨rfl,rfl⟩;rw[b.out.2];go_wp2_with fail;refine(I5 s _ b.1).mono ?_;rintro e q ⟨u,rfl,i,c⟩;have j:=zq i.1;clear i;go_wp2_with fail;refine(I5 t _ b.2).mono ?_;rintro e r ⟨v,rfl,k,d⟩;have n:=zq k.1;have o:=zq (j.below d (AS _));have p:=zq (c.trans (d.mono c.size));clear k c d j;go_wp2;refine Do (results_tmp3 rfl _ _ _) rfl ?_;exact⟨u,v,rfl,o,n,p⟩
theorem Qk(s t:AB)(w:AA)(i:s.size<=4611686018427387904)(j:t.size<=4611686018427387904):
 cB 256 #[.string s,.string t] w (.int .i64 (Sk s t)):=by
 cases h:M3 s t with
 |false=>
  have b:Hid (Sk s t=2):=by unfold Sk;rw[h];rfl
  rw[b];have c:=zq λW=>JA s t W i j h;clear h;go_enter func256,ntmps256;go_wp2_with fail;refine cm (c _) λo a=>?_;have d:=zq a;clear a;go_wp2;go_ret;exact⟨rfl,d⟩
 |true=>
  obtain⟨f,g⟩:=Hf h;have p:=Dl s f;have q:=Dl t g;have r:=(Gd 200 s f).1;have x:=(Gd 200 t g).1;have c:=zq λW=>Gc s t W i j h;have b:Hid (Sk s t=Ay (nv s) (nv t)):=by unfold Sk;rw[h];rfl
  rw[b];have k:Hid (Ac (nv s) 1000/\Ac (nv t) 1000):=⟨by unfold Ac at*;have:=AI 200 1000 (by decide);omega,by unfold Ac at*;have:=AI 200 1000 (by decide);omega⟩;clear p q r x;clear h f g;go_enter func256,ntmps256;go_wp2_with fail;refine(c _).mono ?_;rintro e o ⟨u,v,rfl,l,m,a⟩;have y:=zq l;have z:=zq m;clear l m;go_wp2_with fail;refine cm (CV _ _ _ _ _ y z k.1 k.2) λA n=>?_;have d:=zq (a.trans (n.mono a.size));clear a n;go_wp2;go_ret;exact⟨rfl,d⟩
theorem fz(a b:Int)(c:Ac a 200)(d:Ac b 200):Ac (a+b) 500:=by
 unfold Ac at*
 have h:=AI 201 500 (by decide);have i:=Int.pow_succ 10 200;have j:(0:Int)<10^200:=Int.pow_pos (by decide);generalize (10:Int)^200=e at*
 generalize (10:Int)^201=f at*
 generalize (10:Int)^500=g at*
 omega
theorem f9(a b:Int)(c:Ac a 200)(d:Ac b 200)(h:0<=a)(j:0<=b):Ac (a*b) 500:=by
 unfold Ac at*
 have k:=AI 400 500 (by decide);have l:=Cv 10 200 200;have i:(0:Int)<10^200:=Int.pow_pos (by decide);generalize (10:Int)^200=e at*
 generalize (10:Int)^400=f at*
 generalize (10:Int)^500=g at*
 have m:=NH (CP d) h;have n:=Int.mul_lt_mul_of_pos_right c i;omega
theorem KG(s t:AB)(w:AA)(j:s.size<=4611686018427387904)(k:t.size<=4611686018427387904):
 cB 255 #[.string s,.string t] w (.string (Mi s t)):=by
 cases h:M3 s t with
 |false=>
  have b:Hid (Mi s t={data:=#[]}):=by unfold Mi;rw[h];rfl
  rw[b];have c:=zq λW=>JA s t W j k h;clear h;go_enter func255,ntmps255;go_wp2_with fail;refine cm (c _) λB a=>?_;have d:=zq a;clear a;go_wp2;go_ret;exact⟨rfl,d⟩
 |true=>
  obtain⟨f,g⟩:=Hf h;have l:=Dl s f;have m:=Dl t g;have C:=(Gd 200 s f).1;have D:=(Gd 200 t g).1;have c:=zq λW=>Gc s t W j k h;have b:Hid (Mi s t=DE (nt (nv s+nv t))):=by show Mi s t=_;unfold Mi;rw[h,zyp rfl]
  rw[b];have n:Hid (Ac (nv s) 1000/\Ac (nv t) 1000):=⟨by unfold Ac at*;have:=AI 200 1000 (by decide);omega,by unfold Ac at*;have:=AI 200 1000 (by decide);omega⟩;have E:=zq (fz _ _ l m);clear l m C D;clear h f g;go_enter func255,ntmps255;go_wp2_with fail;refine(c _).mono ?_;rintro e B ⟨u,v,rfl,o,p,a⟩;have q:=zq o;have r:=zq p;clear o p;go_wp2_with fail;refine(Ju _ _ _ _ _ q r n.1 n.2).mono ?_;rintro e G ⟨x,rfl,y,z⟩;have F:=zq y.1;have i:=a.trans (z.mono a.size);clear a z y q r;go_wp2_with fail;refine cm (Cr _ _ _ F E) λH A=>?_;have d:=zq (i.trans (A.mono i.size));clear i A;go_wp2;go_ret;exact⟨rfl,d⟩
theorem Qm(s t:AB)(w:AA)(j:s.size<=4611686018427387904)(k:t.size<=4611686018427387904):
 cB 155 #[.string s,.string t] w (.string (RC s t)):=by
 cases h:M3 s t with
 |false=>
  have b:Hid (RC s t={data:=#[]}):=by unfold RC;rw[h];rfl
  rw[b];have c:=zq λW=>JA s t W j k h;clear h;go_enter func155,ntmps155;go_wp2_with fail;refine cm (c _) λD a=>?_;have d:=zq a;clear a;go_wp2;go_ret;exact⟨rfl,d⟩
 |true=>
  obtain⟨f,g⟩:=Hf h;have l:=Dl s f;have m:=Dl t g;have n:=(Gd 200 s f).1;have o:=(Gd 200 t g).1;have c:=zq λW=>Gc s t W j k h;have b:Hid (RC s t=DE (nt (nv s*nv t))):=by show RC s t=_;unfold RC;rw[h,zyp rfl]
  rw[b];have p:Hid (Ac (nv s) 1000/\Ac (nv t) 1000):=⟨by unfold Ac at*;have:=AI 200 1000 (by decide);omega,by unfold Ac at*;have:=AI 200 1000 (by decide);omega⟩;have E:=zq (f9 _ _ l m n o);clear l m n o;clear h f g;go_enter func155,ntmps155;go_wp2_with fail;refine(c _).mono ?_;rintro e D ⟨u,v,rfl,q,r,a⟩;have y:=zq q;have z:=zq r;clear q r;go_wp2_with fail;refine(Tb _ _ _ _ _ y z p.1 p.2).mono ?_;rintro e G ⟨x,rfl,A,B⟩;have F:=zq A.1;have i:=a.trans (B.mono a.size);clear a B A y z;go_wp2_with fail;refine cm (Cr _ _ _ F E) λH C=>?_;have d:=zq (i.trans (C.mono i.size));clear i C;go_wp2;go_ret;exact⟨rfl,d⟩
theorem KH(s t:AB)(w:AA)(y:s.size<=4611686018427387904)(z:t.size<=4611686018427387904):
 cB 257 #[.string s,.string t] w (.string (MU s t)):=by
 cases h:M3 s t with
 |false=>
  have f:Hid (MU s t={data:=#[]}):=by unfold MU;rw[h];rfl
  rw[f];have n:=zq λW=>JA s t W y z h;clear h;go_enter func257,ntmps257;go_wp2_with fail;refine cm (n _) λA a=>?_;have g:=zq a;clear a;go_wp2;go_ret;exact⟨rfl,g⟩
 |true=>
  obtain⟨o,p⟩:=Hf h;have B:=Dl s o;have D:=Dl t p;have E:=(Gd 200 s o).1;have F:=(Gd 200 t p).1;have n:=zq λW=>Gc s t W y z h;have c:Hid (Ac (nv s) 1000/\Ac (nv t) 1000):=⟨by unfold Ac at*;have:=AI 200 1000 (by decide);omega,by unfold Ac at*;have:=AI 200 1000 (by decide);omega⟩;by_cases d:nv s<nv t
  ·have f:Hid (MU s t={data:=#[]}):=by show MU s t=_;unfold MU;rw[h,zyp rfl,zyp d]
   rw[f];have i:=zq (Ck _ _ d);clear B D E F d;clear h o p;go_enter func257,ntmps257;go_wp2_with fail;refine(n _).mono ?_;rintro e A ⟨u,v,rfl,j,k,a⟩;have l:=zq j;have m:=zq k;clear j k;go_wp2_with fail;refine cm (CV _ _ _ _ _ l m c.1 c.2) λL b=>?_;rw[i];have g:=zq (a.trans (b.mono a.size));clear a b;go_wp2;go_ret;exact⟨rfl,g⟩
  ·have f:Hid (MU s t=DE (nt (nv s-nv t))):=by
    show MU s t=_
    unfold MU;rw[h,zyp rfl,zyn d,La _ (by omega) (by unfold Ac at*;omega)]
   rw[f];have M:Hid (Ac (nv s-nv t) 500):=by
    show Ac _ _
    unfold Ac at*;have:=AI 200 500 (by decide);omega
   have N:Hid (nv t<=nv s):=by show _<=_;omega
   have i:Hid (0<=Ay (nv s) (nv t)/\Ay (nv s) (nv t)<=1):=by show _/\_;unfold Ay;rw[zyn d];split<;>omega
   clear B D E F d;clear h o p;go_enter func257,ntmps257;go_wp2_with fail;refine(n _).mono ?_;rintro e A ⟨u,v,rfl,j,k,a⟩;have l:=zq j;have m:=zq k;clear j k;go_wp2_with fail;refine cm (CV _ _ _ _ _ l m c.1 c.2) λL b=>?_;have G:=zq (l.below b (AS _));have H:=zq (m.below b (AS _));have q:=a.trans (b.mono a.size);have P:=i.1;have Q:=i.2;generalize Ay (nv s) (nv t)=C at*
   have R:decide (C<0)=false:=By (by omega);clear a b l m i;go_wp2_with fail;refine(IT _ _ _ _ _ G H c.1 c.2 N).mono ?_;rintro e S ⟨x,rfl,I,J⟩;have O:=zq I.1;have r:=q.trans (J.mono q.size);clear q J I G H;go_wp2_with fail;refine cm (Cr _ _ _ O M) λT K=>?_;have g:=zq (r.trans (K.mono r.size));clear r K;go_wp2;go_ret;exact⟨rfl,g⟩
theorem Ql(s t:AB)(w:AA)(G:s.size<=4611686018427387904)(H:t.size<=4611686018427387904):
 cB 86 #[.string s,.string t] w (.tuple #[.string (OJ s t),.string (OK s t)]):=by
 cases h:M3 s t with
 |false=>
  have f:Hid (OJ s t={data:=#[]}/\OK s t={data:=#[]}):=by unfold OJ OK;rw[h];exact⟨rfl,rfl⟩
  rw[f.out.1,f.out.2];have l:=zq λW=>JA s t W G H h;clear h;go_enter func86,ntmps86;go_wp2_with fail;refine cm (l _) λI a=>?_;have i:=zq a;clear a;go_wp2;go_ret2;exact⟨rfl,i⟩
 |true=>
  obtain⟨m,o⟩:=Hf h;have J:=Dl s m;have r:=Dl t o;have p:=(Gd 200 s m).1;have z:=(Gd 200 t o).1;have l:=zq λW=>Gc s t W G H h;have K:Hid (Ac (nv s) 900/\Ac (nv t) 900):=⟨by unfold Ac at*;have:=AI 200 900 (by decide);omega,by unfold Ac at*;have:=AI 200 900 (by decide);omega⟩;by_cases b:nv t=0
  ·have f:Hid (OJ s t={data:=#[]}/\OK s t={data:=#[]}):=by
    show _/\_
    unfold OJ OK;rw[h,zyp rfl,zyp rfl,zyp b,zyp b];exact⟨rfl,rfl⟩
   rw[f.out.1,f.out.2];have A:Hid (∀W v,Eu W v (nv t)->∃g c,v=.slice (some ⟨g,0,none⟩) 0 c):=λW v d=>by
    obtain⟨L,⟨g,c,e,-⟩,B,q⟩:=d;rw[RH L B (by rw[q,b])] at e;exact⟨g,c,e⟩
   clear J r p z b;clear h m o;go_enter func86,ntmps86;go_wp2_with fail;refine(l _).mono ?_;rintro e I ⟨u,v,rfl,j,d,a⟩;have C:=zq j;have k:=zq d;clear j d;obtain⟨g,c,rfl⟩:=A _ _ k;have i:=zq a;clear a;go_wp2;go_ret2;exact⟨rfl,i⟩
  ·have M:=Int.ediv_nonneg p z;have N:0<=nv s%nv t:=Int.emod_nonneg _ b;have V:nv s/nv t<=nv s:=Int.ediv_le_self _ p;have X:nv s%nv t<nv t:=Int.emod_lt_of_pos _ (by omega);have f:Hid (OJ s t=DE (nt (nv s/nv t))/\OK s t=DE (nt (nv s%nv t))):=by
    show _/\_
    unfold OJ OK;rw[h,zyp rfl,zyp rfl,zyn b,zyn b,La _ M (by unfold Ac at*;omega),La _ N (by unfold Ac at*;omega)];exact⟨rfl,rfl⟩
   rw[f.out.1,f.out.2];have O:Hid (Ac (nv s/nv t) 500/\Ac (nv s%nv t) 500):=by
    show _/\_
    have:=AI 200 500 (by decide);unfold Ac at*;exact⟨by omega,by omega⟩
   have Y:Hid (0<nv t):=by show _<_;omega
   have A:Hid (∀W v,Eu W v (nv t)->∃(g c n:Nat),v=.slice (some ⟨g,0,none⟩) n c/\((n:Int)==0)=false/\n<=200):=λW v d=>by
    obtain⟨L,⟨g,c,e,-⟩,B,q⟩:=d;refine⟨g,c,L.length,e,beq_eq_false_iff_ne.2 λe0=>b ?_,Bk L 200 B (by rw[q];exact r)⟩;rw[<-q,List.length_eq_zero_iff.1 (show L.length=0 by omega)];rfl
   clear J r p z b M N V X;clear h m o;go_enter func86,ntmps86;go_wp2_with fail;refine(l _).mono ?_;rintro e I ⟨u,v,rfl,j,d,a⟩;have C:=zq j;have k:=zq d;clear j d;obtain⟨g,c,n,rfl,ab,ac⟩:=A _ _ k;go_wp2_with fail;refine(RF _ _ _ _ _ C k K.1 K.2 Y).mono ?_;rintro e w2 ⟨x,y,rfl,P,Q,R⟩;have S:=zq P.1;have T:=zq Q.1;have D:=a.trans (R.mono a.size);clear a R P Q C k;go_wp2_with fail;refine cm (Cr _ _ _ S O.1) λw3 E=>?_;have Z:=zq (T.below E (AS _));have F:=D.trans (E.mono D.size);clear D E S T;go_wp2_with fail;refine cm (Cr _ _ _ Z O.2) λw4 U=>?_;have i:=zq (F.trans (U.mono F.size));clear F U;go_wp2;go_ret2;exact⟨rfl,i⟩
theorem Of(s:AB)(w:AA)(I:s.size<=4611686018427387904)(h:Be 200 s=true):
 Calls prog 96 #[.string s] w λe m=>∃S R:Int,e=.returned (.tuple #[.string (tx (nt S)),.string (tx (nt R))])/\S*S+R=nv s/\0<=S/\0<=R/\R<=2*S/\AD w.heap.size w m:=by
 have H:=zq h;have J:=Dl s h;have K:Hid (Ac (nv s) 500):=by show Ac _ _;unfold Ac at*;have:=AI 200 500 (by decide);omega
 have L:Hid (∀S R:Int,S*S+R=nv s->0<=S->0<=R->DE (nt S)=tx (nt S)/\DE (nt R)=tx (nt R)/\Ac S 500/\Ac R 500):=λS R P d M=>by
  have Q:=Int.mul_nonneg d d;have T:S<=S*S:=by
   rcases Int.lt_or_le 0 S with c|c
   ·have:S*1<=S*S:=NH (by omega) d;omega
   ·omega
  have a:Ac S 200:=by unfold Ac at*;omega
  have b:Ac R 200:=by unfold Ac at*;omega
  have:=AI 200 500 (by decide);exact⟨La S d a,La R M b,by unfold Ac at*;omega,by unfold Ac at*;omega⟩
 clear h J;go_enter func96,ntmps96;go_wp2_with fail;refine(A0 s _ I).mono ?_;rintro e m ⟨rfl,rfl⟩;rw[H];go_wp2_with fail;refine(I5 s _ H).mono ?_;rintro e U ⟨u,rfl,n,g⟩;have o:=zq n.1;clear n;go_wp2_with fail;refine(WV _ _ _ o K).mono ?_;rintro e V ⟨x,y,rfl,⟨S,R,p,q,a,b,i,r⟩,t⟩;obtain⟨v,z,A,B⟩:=L S R a b i;have C:=zq p;have D:=zq q;have E:=Ab A B;have F:=Ab v z;have f:=eh a b i r;have j:=g.trans (t.mono g.size);clear g t p q o v z A B a b i r;go_wp2_with fail;refine cm (Cr _ _ _ C E.1) λW k=>?_;have N:=zq (D.below k (AS _));have l:=j.trans (k.mono j.size);clear j k C D;go_wp2_with fail;refine cm (Cr _ _ _ N E.2) λX G=>?_;have O:=zq (l.trans (G.mono l.size));clear l G;rw[F.out.1,F.out.2];go_wp2;go_ret2;exact⟨S,R,rfl,f.1,f.2.1,f.2.2.1,f.2.2.2,O⟩
theorem U7(n:Nat):∃S R:Int,S*S+R=(n:Int)/\0<=S/\0<=R/\R<=2*S:=by
 induction n with
 |zero=>exact⟨0,0,by decide,by decide,by decide,by decide⟩
 |succ n ih=>
  obtain⟨S,R,b,a,c,d⟩:=ih;by_cases h:R+1<=2*S
  ·exact⟨S,R+1,by omega,a,by omega,h⟩
  ·refine⟨S+1,0,?_,by omega,by decide,by omega⟩;have e:(S+1)*(S+1)=S*S+2*S+1:=by rw[Int.add_mul,Int.mul_add];omega
   omega
theorem V0(a:Int)(n:Nat)(c:Ac a 200)(f:n<=200):Ac (a*10^n) 500:=by
 unfold Ac at*
 have b:=AI (200+n) 500 (by omega);rw[Cv] at b;have d:(0:Int)<10^n:=Int.pow_pos (by decide);have e:=Int.mul_lt_mul_of_pos_right c d;exact FS e b
theorem DQ(s:AB)(n:Int)(w:AA)(c:s.size<=4611686018427387904):
 cB 87 #[.string s,.int .i64 n] w (.string (C5 s n)):=by
 cases h:Be 200 s with
 |false=>
  have a:Hid (C5 s n={data:=#[]}):=by show C5 s n=_;unfold C5;rw[h];rfl
  rw[a];have b:=zq h;clear h;go_enter func87,ntmps87;go_wp2_with fail;refine(A0 s _ c).mono ?_;rintro e i ⟨rfl,rfl⟩;rw[b];go_wp2;go_ret;exact⟨rfl,BI _ _⟩
 |true=>
  have b:=zq h;by_cases d:0<=n/\n<=200
  ·have a:Hid (C5 s n=DE (nt (nv s*10^n.toNat))):=by show C5 s n=_;unfold C5;rw[h,Bz d.1,Bz d.2];exact zyp (by decide)
   rw[a];obtain⟨m,rfl⟩:=Int.eq_ofNat_of_zero_le d.1;have j:=Dl s h;have k:m<=200:=by omega
   have y:Hid (Ac (nv s) 1000):=by show Ac _ _;unfold Ac at*;have:=AI 200 1000 (by decide);omega
   have z:=zq (V0 _ _ j k);obtain⟨l,o⟩:¬(m:Int)<0/\¬(200:Int)<(m:Int):=by omega
   have C:=By o;rw[Int.toNat_natCast];clear h j a;go_enter func87,ntmps87;go_wp2_with fail;refine(A0 s _ c).mono ?_;rintro e i ⟨rfl,rfl⟩;rw[b];go_wp2_with fail;refine(I5 s _ b).mono ?_;rintro e D ⟨u,rfl,p,f⟩;have q:=zq p.1;clear p;go_wp2_with fail;refine(Ta _ _ m _ q y k).mono ?_;rintro e E ⟨x,rfl,r,t⟩;have A:=zq r.1;have g:=f.trans (t.mono f.size);clear f t r q;go_wp2_with fail;refine cm (Cr _ _ _ A z) λF v=>?_;have B:=zq (g.trans (v.mono g.size));clear g v;go_wp2;go_ret;exact⟨rfl,B⟩
  ·have a:Hid (C5 s n={data:=#[]}):=by
    show C5 s n=_
    unfold C5;rw[zyn];simp;omega
   rw[a];clear h;by_cases l:n<0
   ·go_enter func87,ntmps87;go_wp2_with fail;refine(A0 s _ c).mono ?_;rintro e i ⟨rfl,rfl⟩;rw[b];go_wp2;go_ret;exact⟨rfl,BI _ _⟩
   ·have o:(200:Int)<n:=by omega
    have G:=By l;go_enter func87,ntmps87;go_wp2_with fail;refine ce (A0 s _ c) ?_;rw[b];go_wp2;go_ret;exact⟨rfl,BI _ _⟩
theorem UI(G:AG)(h:Au G):(∀d∈G,d=0)↔vl G=0:=by
 have s:=MR G h;unfold C6 at s;refine⟨λq=>?_,λq=>λd a=>?_⟩
 ·apply Classical.byContradiction;intro c;rw[Bz c] at s;obtain⟨d,a,b⟩:=List.any_eq_true.1 s;rw[q d a] at b;cases b
 ·rw[By (by simpa using q)] at s;have:=List.any_eq_false.1 s d a;simpa using this
theorem W6(G:AG)(h:∀d∈G,d=0)(a:G.length<=600)(w:AA):
 cB 297 #[.string (tx G),.string {data:=#[48]}] w (.string ⟨#[]⟩):=by
 have:=strings_Trim_one (tx G) 48 (by decide) w (by rw[AE];omega);rw[show(48:UInt8)=UInt8.ofNat (48+(0:Int)).toNat from rfl,MX G 0 h] at this;refine this.mono ?_;rintro e b ⟨rfl,rfl|rfl⟩
 ·exact⟨rfl,BI _ _⟩
 ·exact⟨rfl,(BI _ _).drew⟩
theorem eN(G:AG)(c:Au G)(h:¬∀d∈G,d=0)(f:G.length<=600)(w:AA):
 Calls prog 297 #[.string (tx G),.string {data:=#[48]}] w λe a=>∃T:AB,T.toList.isEmpty=false/\e=.returned (.string T)/\AD w.heap.size w a:=by
 have:=strings_Trim_one (tx G) 48 (by decide) w (by rw[AE];omega);have b:=Ke G 0 c (by decide) h;refine this.mono ?_;rintro e a ⟨rfl,rfl|rfl⟩
 ·exact⟨_,b,rfl,BI _ _⟩
 ·exact⟨_,b,rfl,(BI _ _).drew⟩
theorem W7(G:AG)(h:∀d∈G,d=9)(a:G.length<=600)(w:AA):
 cB 297 #[.string (tx G),.string {data:=#[57]}] w (.string ⟨#[]⟩):=by
 have:=strings_Trim_one (tx G) 57 (by decide) w (by rw[AE];omega);rw[show(57:UInt8)=UInt8.ofNat (48+(9:Int)).toNat from rfl,MX G 9 h] at this;refine this.mono ?_;rintro e b ⟨rfl,rfl|rfl⟩
 ·exact⟨rfl,BI _ _⟩
 ·exact⟨rfl,(BI _ _).drew⟩
theorem eO(G:AG)(c:Au G)(h:¬∀d∈G,d=9)(f:G.length<=600)(w:AA):
 Calls prog 297 #[.string (tx G),.string {data:=#[57]}] w λe a=>∃T:AB,T.toList.isEmpty=false/\e=.returned (.string T)/\AD w.heap.size w a:=by
 have:=strings_Trim_one (tx G) 57 (by decide) w (by rw[AE];omega);have b:=Ke G 9 c (by decide) h;refine this.mono ?_;rintro e a ⟨rfl,rfl|rfl⟩
 ·exact⟨_,b,rfl,BI _ _⟩
 ·exact⟨_,b,rfl,(BI _ _).drew⟩
theorem Gl(n:Nat)(a:n<=600)(w:AA):
 cB 184 #[.string {data:=#[48]},.int .i64 n] w (.string (tx (List.replicate n 0))):=by
 have:=strings_Repeat {data:=#[48]} n w (by omega) (by show 1*n<=_;omega);rw[show({data:=#[48]}:AB).data.toList=[48] from rfl,Zs] at this;exact this
theorem Ye(L:AG)(b:Au L)(g:0<L.length)(h:L.length<=600)(w:AA):
 cE 260 #[.string (tx L)] w (.bool (decide (vl L%2=1))):=by
 have i:=AE L;have c:L.length-1<(tx L).size:=by omega
 have d:=C7 L b (L.length-1) c;have e:=Ah L b (L.length-1);have f:=zq (VS L b g);generalize L.getD (L.length-1) 0=a at*
 have j:IntKind.u8.wrap ((((tx L)[L.length-1]'c).toNat:Int)-48)=a:=by rw[IntKind.wrap_u8,d];omega
 have k:Int.tmod a 2=a%2:=Int.tmod_eq_emod_of_nonneg e.1;have l:IntKind.u8.wrap (a%2)=a%2:=by rw[IntKind.wrap_u8];omega
 have m:=zw ((L.length:Int)-1) (by omega);obtain⟨n,o⟩:(0:Int)<=(L.length:Int)-1/\(L.length:Int)-1<(L.length:Int):=by omega
 have p:((L.length:Int)-1).toNat=L.length-1:=by omega
 rw[f];clear d e f;go_enter func260,ntmps260;go_wp2;go_ret;exact⟨rfl,rfl⟩
theorem WB(G:AG)(rest:Bool)(i:Au G)(K:G.length<=500)(w:AA):
 cB 261 #[.string (tx G),.bool rest] w (.int .i64 (L4 (vl G) (10^G.length) rest)):=by
 by_cases c:∀d∈G,d=0
 ·have m:=(UI G i).1 c;have A:Hid (L4 (vl G) (10^G.length) rest=if rest then 1 else 0):=by show _=_;unfold L4;rw[zyp m]
  have j:=zq λX=>W6 G c (by omega) X;rw[A];clear m A c i;cases rest
  all_goals
   go_enter func261,ntmps261;go_wp2_with fail;refine cm (j _) λL a=>?_;go_wp2;go_ret;exact⟨rfl,a⟩
 ·have m:vl G≠0:=λq=>c ((UI G i).2 q);obtain⟨n,o⟩:∃n,G.length=n+1:=⟨G.length-1,by
   cases G with
   |nil=>exact absurd (λd s=>by cases s) c
   |cons x r=>simp⟩
  have j:=zq λX=>eN G i c (by omega) X;have p:=zq λX=>Gl n (by omega) X;have N:({data:=#[53]}:AB)++tx (List.replicate n 0)=tx (5::List.replicate n 0):=by
   have:({data:=#[53]}:AB)=tx [5]:=by apply De;rw[AR];rfl
   rw[this,Ax];rfl
  have B:Au (5::List.replicate n 0):=λd s=>by
   rcases List.mem_cons.1 s with e|e
   ·omega
   ·have:=(List.mem_replicate.1 e).2;omega
  have D:vl (5::List.replicate n 0)*2=10^G.length:=by
   have:=DN n [];rw[List.append_nil] at this;rw[Br,GG,this,o,Int.pow_succ];show((0:Int)+_)*2=_
   omega
  have E:=j9 G (5::List.replicate n 0) i B (by rw[List.length_cons,GG,o]);have F:Hid (cF 276 #[.string (tx G),.string (tx (5::List.replicate n 0))] (.int .i64 (if vl G<vl (5::List.replicate n 0) then -1 else if vl G=vl (5::List.replicate n 0) then 0 else 1))):=λX=>by
   have:=strings_Compare (tx G) (tx (5::List.replicate n 0)) X;rw[E] at this;exact this
  have O:(tx G).size=n+1:=by rw[AE,o]
  have P:(tx (List.replicate n 0)).size=n:=by rw[AE,GG]
  have L:IntKind.i64.wrap (((n:Int)+1)-1)=(n:Int):=Dn (by omega);have Q:n<=500:=by omega
  clear E B;generalize (5::List.replicate n 0:AG)=H at*
  have I:Hid (L4 (vl G) (10^G.length) rest=if vl G<vl H then 1 else if vl G=vl H/\rest=false then 2 else 3):=by
   show _=_
   unfold L4;rw[zyn m,<-D];simp only[show(2*vl G<vl H*2)=(vl G<vl H) from propext ⟨λh=>by omega,λh=>by omega⟩,show(2*vl G=vl H*2)=(vl G=vl H) from propext ⟨λh=>by omega,λh=>by omega⟩]
  rw[I];clear I D m c i o K;generalize vl G=u at*
  generalize vl H=v at*
  have k:Hid (∀C:Int,(if u<v then(-1:Int) else if u=v then 0 else 1)=C->cF 276 #[.string (tx G),.string (tx H)] (.int .i64 C)):=λC M X=>by rw[<-M];exact F X
  clear F;by_cases b:u<v
  ·have l:=zq (k (-1) (zyp b));rw[zyp b];clear k b;go_enter func261,ntmps261;go_wp2_with fail;refine(j _).mono ?_;rintro e t ⟨T,y,rfl,a⟩;go_wp2_with fail;refine cm (p _) λz f=>?_;go_wp2_with fail;refine(l _).mono ?_;rintro e J ⟨rfl,rfl⟩;go_wp2;go_ret;exact⟨rfl,a.trans (f.mono a.size)⟩
  ·rw[zyn b];by_cases g:u=v
   ·have l:=zq (k 0 (by rw[zyn b,zyp g]));clear k;cases rest
    ·rw[zyp ⟨g,rfl⟩];clear b g;go_enter func261,ntmps261;go_wp2_with fail;refine(j _).mono ?_;rintro e t ⟨T,y,rfl,a⟩;go_wp2_with fail;refine cm (p _) λz f=>?_;go_wp2_with fail;refine(l _).mono ?_;rintro e J ⟨rfl,rfl⟩;go_wp2;go_ret;exact⟨rfl,a.trans (f.mono a.size)⟩
    ·rw[zyn λq=>by cases q.2];clear b g;go_enter func261,ntmps261;go_wp2_with fail;refine(j _).mono ?_;rintro e t ⟨T,y,rfl,a⟩;go_wp2_with fail;refine cm (p _) λz f=>?_;go_wp2_with fail;refine(l _).mono ?_;rintro e J ⟨rfl,rfl⟩;go_wp2;go_ret;exact⟨rfl,a.trans (f.mono a.size)⟩
   ·have l:=zq (k 1 (by rw[zyn b,zyn g]));rw[zyn λq=>g q.1];clear k b g;go_enter func261,ntmps261;go_wp2_with fail;refine(j _).mono ?_;rintro e t ⟨T,y,rfl,a⟩;go_wp2_with fail;refine cm (p _) λz f=>?_;go_wp2_with fail;refine ce (l _) ?_;go_wp2;go_ret;exact⟨rfl,a.trans (f.mono a.size)⟩
theorem Sz(a:AG)(k n:Nat)(r:a.length<=300)(s:k<=200)(i:(Ak (k+1) a).length=n+k)(w:AA):
 cB 253 #[.string (tx a),.int .i64 k] w (.tuple #[.string (tx ((Ak (k+1) a).take n)),.string (tx ((Ak (k+1) a).drop n))]):=by
 have t:=C9 (k+1) a;obtain⟨j,c⟩:=zxe (k+1-a.length);have l:Hid (Ak (k+1) a=List.replicate j 0++a):=by show _=_;unfold Ak;rw[c]
 have z:=AE a;have A:=zw ((k:Int)+1) (by omega);have d:=zw ((k:Int)+1-(a.length:Int)) (by omega);have e:=zq λX=>Gl j (by omega) X;have m:tx (List.replicate j 0)++tx a=tx (List.replicate j 0++a):=Ax _ _;have o:(tx (List.replicate j 0)).size=j:=by rw[AE,GG]
 have u:=C8 (Ak (k+1) a) n (by omega);have p:=Hm (Ak (k+1) a) n (by omega);have q:(tx (Ak (k+1) a)).size=n+k:=by rw[AE,i]
 have b:Hid (a.length<=300/\k<=200/\n+k=max (k+1) a.length/\k+1-a.length=j):=⟨r,s,by omega,c⟩;rw[l] at u p q ⊢;rw[q] at p;clear i t l;generalize List.replicate j 0++a=D at*
 have B:n<=600:=by have:=b.out;omega
 have C:j<=300:=by have:=b.out;omega
 have E:IntKind.i64.wrap ((n:Int)+(k:Int)-(k:Int))=(n:Int):=Dn (by omega);have F:(n:Int)<=(n:Int)+(k:Int):=by omega
 clear c;by_cases f:(0:Int)<(k:Int)+1-(a.length:Int)
 ·have g:Hid ((k:Int)+1-(a.length:Int)=(j:Int)):=by have:=b.out;show _=_;omega
  rw[g] at d f;have v:=g.out;go_enter func253,ntmps253;go_wp2_with fail;refine cm (e _) λd h=>?_;clear v g f;go_wp2_with fail;go_quiet (fail);go_wp2;go_ret2;exact⟨rfl,Go.below_drewN h _⟩
 ·obtain rfl:j=0:=by have:=b.out;omega
  have x:=zq e;have G:tx []++tx a=tx D:=m;have H:(tx []).size=0:=o;clear m o;clear e;have y:max (0:Int) ((k:Int)+1-(a.length:Int))=0:=by omega
  go_enter func253,ntmps253;go_wp2_with fail;refine cm (x _) λd h=>?_;clear f y;go_wp2_with fail;go_quiet (fail);go_wp2;go_ret2;exact⟨rfl,Go.below_drewN h _⟩
theorem Og(L:AG)(h:AJ L)(i:L.length<=200)(w:AA):
 cB 262 #[.string (tx L)] w (.string (tx (nt (vl L+1)))):=by
 by_cases a:∀d∈L,d=9
 ·have g:Hid (nt (vl L+1)=1::List.replicate L.length 0):=(BW _ _ (W1 _) (by rw[mK,ZF L a]) (by rw[List.length_cons,GG];omega)).symm;have c:=zq λX=>W7 L a (by omega) X;have j:=zq λX=>Gl L.length (by omega) X;have n:({data:=#[49]}:AB)++tx (List.replicate L.length 0)=tx (1::List.replicate L.length 0):=by rw[<-SC,Ax];rfl
  have o:=AE L;have p:(tx (List.replicate L.length 0)).size=L.length:=by rw[AE,GG]
  rw[g];clear a h g;go_enter func262,ntmps262;go_wp2_with fail;refine cm (c _) λk b=>?_;go_wp2_with fail;refine cm (j _) λl f=>?_;go_wp2;go_ret;exact⟨rfl,b.trans (f.mono b.size)⟩
 ·have m:Hid (cA 255 #[.string (tx L),.string {data:=#[49]}] (.string (tx (nt (vl L+1))))):=λX=>by
   have:=KG (tx L) {data:=#[49]} X (by rw[AE];omega) (by decide);rw[XW L h i a] at this;exact this
  have c:=zq λX=>eO L h.1 a (by omega) X;clear a h;generalize nt (vl L+1)=R at*
  go_enter func262,ntmps262;go_wp2_with fail;refine(c _).mono ?_;rintro e k ⟨T,q,rfl,b⟩;go_wp2_with fail;refine cm (m _) λl f=>?_;go_wp2;go_ret;exact⟨rfl,b.trans (f.mono b.size)⟩
abbrev Kj(neg a:Bool)(p:Int):AK:=.agg #[.bool neg,.bool a,.int .i64 p]
theorem mp(neg a:Bool)(p:Int)(b:p=0\/p=1\/p=2\/p=3)(w:AA):cB 204 #[Kj neg a p] w (.bool (V4 1 neg a p)):=by
 rcases b with rfl|rfl|rfl|rfl<;>cases neg<;>cases a
 all_goals
  go_enter func204,ntmps204;go_wp2;go_ret;exact⟨rfl,bA⟩
theorem mq(neg a:Bool)(p:Int)(b:p=0\/p=1\/p=2\/p=3)(w:AA):cB 205 #[Kj neg a p] w (.bool (V4 2 neg a p)):=by
 rcases b with rfl|rfl|rfl|rfl<;>cases neg<;>cases a
 all_goals
  go_enter func205,ntmps205;go_wp2;go_ret;exact⟨rfl,bA⟩
theorem mr(neg a:Bool)(p:Int)(b:p=0\/p=1\/p=2\/p=3)(w:AA):cB 206 #[Kj neg a p] w (.bool (V4 3 neg a p)):=by
 rcases b with rfl|rfl|rfl|rfl<;>cases neg<;>cases a
 all_goals
  go_enter func206,ntmps206;go_wp2;go_ret;exact⟨rfl,bA⟩
theorem ms(neg a:Bool)(p:Int)(b:p=0\/p=1\/p=2\/p=3)(w:AA):cB 207 #[Kj neg a p] w (.bool (V4 4 neg a p)):=by
 rcases b with rfl|rfl|rfl|rfl<;>cases neg<;>cases a
 all_goals
  go_enter func207,ntmps207;go_wp2;go_ret;exact⟨rfl,bA⟩
theorem mt(neg a:Bool)(p:Int)(b:p=0\/p=1\/p=2\/p=3)(w:AA):cB 208 #[Kj neg a p] w (.bool (V4 5 neg a p)):=by
 rcases b with rfl|rfl|rfl|rfl<;>cases neg<;>cases a
 all_goals
  go_enter func208,ntmps208;go_wp2;go_ret;exact⟨rfl,bA⟩
theorem o7(k:Int)(b:Bool)(e:Int)(s:AB):(#[.int .i64 k,.bool b,.int .i64 e,.string s]:Array AK).all (·.oneCell')=true:=by simp[Value.oneCell']
theorem Jj(w:AA):(Instr.build 78 #[(0,.int .i64 3)]).run prog w=.ok (AH 3 false 0 {data:=#[]}) w:=run_build w _ _ _ (by kernel_rfl)
def EY(W:AA)(g n:Nat)(K:Nat->Int)(B:Nat->Bool)(E:Nat->Int)(S:Nat->AB):Prop:=
 ∀i,i<n->W.cell? ⟨g,i*4,none⟩=some (.int .i64 (K i))/\W.cell? ⟨g,i*4+1,none⟩=some (.bool (B i))/\W.cell? ⟨g,i*4+2,none⟩=some (.int .i64 (E i))/\W.cell? ⟨g,i*4+3,none⟩=some (.string (S i))
theorem EY.below{W d:AA}{g n e:Nat}{K:Nat->Int}{B:Nat->Bool}{E:Nat->Int}{S:Nat->AB}(h:EY W g n K B E S)(a:AD e W d)(b:g<e):EY d g n K B E S:=λi c=>
 ⟨(a.cell (p:=⟨g,i*4,none⟩) b).trans (h i c).1,(a.cell (p:=⟨g,i*4+1,none⟩) b).trans (h i c).2.1,(a.cell (p:=⟨g,i*4+2,none⟩) b).trans (h i c).2.2.1,(a.cell (p:=⟨g,i*4+3,none⟩) b).trans (h i c).2.2.2⟩
theorem IQ(w:AA):cB 121 #[] w (AH 3 false 0 {data:=#[]}):=by
 have a:=Jj;go_enter func121,ntmps121;go_wp2;refine rN (CE w (.int .i64 3) (.bool false) (.int .i64 0) (.string ⟨#[]⟩)) ?_;exact⟨rfl,bA⟩
theorem Aq(w:AA):cB 129 #[] w (BA 3 false 0 {data:=#[]} 1):=by
 have d:=Af w (.int .i64 0) (.bool false) (.int .i64 0) (.string ⟨#[]⟩) (.int .i64 0);have e:AD w.heap.size w (w.alloc A2):=bA;have a:=Ab d e;clear d e;have f:=Bt 3 false 0 {data:=#[]} 1;go_enter func129,ntmps129;go_wp2_with fail;refine cm (IQ _) λg b=>?_;have c:=Ab (a.1.below b a.1.lt) (a.2.trans (b.mono a.2.size));clear b a;go_wp2_with (refine sR c.1 3 false 0 ⟨#[]⟩ 1 ?_);refine rR (A1 c.1 3 false 0 ⟨#[]⟩ 1) ?_;exact⟨rfl,AC c.2 (AS _) _⟩
theorem BG(b:Bool)(w:AA):cB 120 #[.bool b] w (BA 2 b 0 {data:=#[]} 0):=by
 have a:=EA b;have c:=AT 2 b 0 {data:=#[]};go_enter func120,ntmps120;go_wp2;refine rR ((Af w (.int .i64 2) (.bool b) (.int .i64 0) (.string ⟨#[]⟩) (.int .i64 0)).cells) ?_;exact⟨rfl,bA⟩
theorem FU(w:AA)(o a:Obj):AD w.heap.size w ((w.alloc o).alloc a):=bA.alloc (by simp) _
theorem Qz(k:Int)(b:Bool)(e:Int)(s:AB)(w:AA):cB 127 #[AH k b e s] w (AH k (if k=1\/k=2 then !b else b) e s):=by
 by_cases c:k=1
 ·subst c;rw[zyp (.inl rfl)];go_enter func127,ntmps127;go_wp2;have a:=CE (w.alloc (AY 1 (!b) e s)) (.int .i64 1) (.bool (!b)) (.int .i64 e) (.string s);rw[show(w.alloc (AY 1 (!b) e s)).heap.size=w.heap.size+1 by simp] at a;refine rN a ?_;exact⟨rfl,FU _ _ _⟩
 ·by_cases d:k=2
  ·subst d;rw[zyp (.inr rfl)];go_enter func127,ntmps127;go_wp2;have a:=CE (w.alloc (AY 2 (!b) e s)) (.int .i64 2) (.bool (!b)) (.int .i64 e) (.string s);rw[show(w.alloc (AY 2 (!b) e s)).heap.size=w.heap.size+1 by simp] at a;refine rN a ?_;exact⟨rfl,FU _ _ _⟩
  ·rw[zyn (λh=>h.elim c d)];have f:(k==1)=false:=beq_eq_false_iff_ne.2 c;have g:(k==2)=false:=beq_eq_false_iff_ne.2 d;clear c d;go_enter func127,ntmps127;go_wp2;have a:=CE (w.alloc (AY k b e s)) (.int .i64 k) (.bool b) (.int .i64 e) (.string s);rw[show(w.alloc (AY k b e s)).heap.size=w.heap.size+1 by simp] at a;refine rN a ?_;exact⟨rfl,FU _ _ _⟩
theorem DH(f m:Int)(n g:Nat)(K:Nat->Int)(B:Nat->Bool)(E:Nat->Int)(S:Nat->AB)(w:AA)(N:n<=3)(k:g<w.heap.size)(l:EY w g n K B E S)(o:∀i,i<n->(S i).size<=4611686018427387904):
 cB 124 #[.int .i64 f,.int .i64 m,.slice (some ⟨g,0,none⟩) n n] w (.bool (decide (1<=m/\m<=5)&&decide (∀i,i<n->AQ f (K i) (B i) (E i) (S i)=true))):=by
 by_cases b:1<=m/\m<=5
 ·rw[Bz b,Bool.true_and];have p:=zq (Bz b);have v:=Ab l k;have J:=zq o;clear b l o k;obtain⟨R,q⟩:=zxe (decide (∀i,i<n->AQ f (K i) (B i) (E i) (S i)=true));have x:=zq q;rw[q];clear q;go_enter func124,ntmps124;go_wp2_with fail;refine(Cq m _).mono ?_;rintro e y ⟨rfl,rfl⟩;rw[p];go_wp2;go_loopw [7] (λs wr=>∃j:Nat,j<=n/\s=.int .i64 j/\Hid (∀i,i<j->AQ f (K i) (B i) (E i) (S i)=true)/\Hid (AD y.heap.size y wr)) (λs _=>n-(intOf s).toNat);case atStart=>exact⟨0,B9 _,rfl,λi L=>by omega,BI _ _⟩
  case round=>
   obtain⟨j,O,rfl,z,d⟩:=hrel;by_cases r:j<n
   ·obtain⟨A,C,D,F⟩:=(v.1.below d v.2) j r;have P:(j:Int)<(n:Int):=by omega
    have a:=zq λX=>Bn f (K j) (B j) (E j) (S j) X (J j r);have M:Hid (AQ f (K j) (B j) (E j) (S j)=AQ f (K j) (B j) (E j) (S j)):=rfl;obtain⟨V,t⟩:=zxe (AQ f (K j) (B j) (E j) (S j));have G:=zq t;rw[t] at a;clear t M;generalize K j=Q at A a;generalize B j=T at C a;generalize E j=U at D a;generalize S j=W at F a;go_wp2_with fail;refine cm (a _) λY H=>?_;have I:=zq (d.trans (H.mono d.size));clear H d A C D F a;cases V
    ·have u:Hid (R=false):=by
      show _=_
      rw[<-x];exact By λh=>by have:=h j r;rw[G] at this;cases this
     go_wp2;go_ret;exact⟨by rw[u];rfl,I⟩
    ·go_wp2;go_roundw;case rel=>exact⟨j+1,by omega,by go_num,λi L=>by
      by_cases c:i<j
      ·exact z i c
      ·obtain rfl:i=j:=by omega
       exact G,I⟩
     case measure=>simp[intOf];omega
   ·obtain rfl:j=n:=by omega
    have u:Hid (R=true):=by
     show _=_
     rw[<-x];exact Bz z
    go_wp2;go_ret;exact⟨by rw[u];rfl,d⟩
 ·rw[By b,Bool.false_and];have p:=zq (By b);clear b l o k;go_enter func124,ntmps124;go_wp2_with fail;refine ce (Cq m _) ?_;rw[p];go_wp2;go_ret;exact⟨rfl,BI _ _⟩
theorem MG{c:Func}{p t:Tmp}{b:Nat}{x y z u v:AK}(h:c.results=#[.cell p 90,.tmp t])(a:Array AK)(w:AA)(d:a[p]?.getD undef=.pointer (some ⟨b,0,none⟩))
 (e:w.cell? ⟨b,0,none⟩=some x) (f:w.cell? ⟨b,1,none⟩=some y) (g:w.cell? ⟨b,2,none⟩=some z) (i:w.cell? ⟨b,3,none⟩=some u) (j:w.cell? ⟨b,4,none⟩=some v):(results c a).run prog w=.ok (.tuple #[.agg #[x,y,z,u,v],a.getD t undef]) w:=by
 simp[results,h,d,go_sem,e,f,g,i,j]
def DL(n:Nat)(K:Nat->Int):Int:=if ∃i,i<n/\K i=4 then 1 else 0
def GB(n:Nat)(K:Nat->Int):Bool:=decide (∃i,i<n/\(K i=3\/K i=4))
theorem BZ(n g:Nat)(K:Nat->Int)(B:Nat->Bool)(E:Nat->Int)(S:Nat->AB)(w:AA)(N:n<=3)(A:g<w.heap.size)(C:EY w g n K B E S):
 cB 125 #[.slice (some ⟨g,0,none⟩) n n] w (.tuple #[BA 3 false 0 {data:=#[]} (DL n K),.bool (GB n K)]):=by
 have t:=Af w (.int .i64 0) (.bool false) (.int .i64 0) (.string ⟨#[]⟩) (.int .i64 0);have o:AD w.heap.size w (w.alloc A2):=bA;obtain⟨W,D⟩:=zxe (w.alloc A2);have u:=C.below o A;rw[D] at t o u;have e:=Ab t o;have J:=zq u;clear t o C u A;go_enter func125,ntmps125;go_wp2;clear D;go_loop [4,5] (λb s=>∃j:Nat,j<=n/\s=.int .i64 j/\b=.bool (decide (∃i,i<j/\K i=3))/\Hid (∀i,i<j->K i≠4)) (λ_ s=>n-(intOf s).toNat);case atStart=>exact⟨0,B9 _,rfl,by simp,λi f=>by omega⟩
 case round=>
  obtain⟨j,O,rfl,rfl,l⟩:=hrel;by_cases v:j<n
  ·obtain⟨F,-,-,-⟩:=J j v;have P:(j:Int)<(n:Int):=by omega
   obtain⟨V,x⟩:=zxe (decide (∃i,i<j/\K i=3));have G:=zq x;rw[x];obtain⟨y,z⟩:=zxe (K j);have p:=zq z;rw[z] at F;clear x z;by_cases q:y=4
   ·subst q;have m:Hid (DL n K=1/\GB n K=true):=⟨zyp ⟨j,v,p⟩,Bz ⟨j,v,.inr p⟩⟩;clear l;go_wp2_with fail;refine cm (Aq _) λL h=>?_;have k:=Ab (e.1.below h e.1.lt) (e.2.trans (h.mono e.2.size));clear h e F;go_wp2_with (refine sR k.1 3 false 0 ⟨#[]⟩ 1 ?_);have d:=A1 k.1 3 false 0 ⟨#[]⟩ 1;refine Do (MG rfl _ _ rfl d.1 d.2.1 d.2.2.1 d.2.2.2.1 d.2.2.2.2.1) rfl ?_;exact⟨by rw[m.out.1,m.out.2];rfl,AC k.2 (AS _) _⟩
   ·have Q:(y==4)=false:=beq_eq_false_iff_ne.2 q;have H:Hid (∀i,i<j+1->K i≠4):=λi f=>by
     by_cases c:i<j
     ·exact l i c
     ·obtain rfl:i=j:=by omega
      rw[p];exact q
    have I:Hid (decide (∃i,i<j+1/\K i=3)=(V||(y==3))):=by
     show _=_
     rw[<-G];by_cases c:∃i,i<j/\K i=3
     ·rw[Bz c,Bool.true_or];obtain⟨i,f,a⟩:=c;exact Bz ⟨i,by omega,a⟩
     ·rw[By c,Bool.false_or,<-p];by_cases r:K j=3
      ·rw[Bz ⟨j,by omega,r⟩,r];rfl
      ·rw[beq_eq_false_iff_ne.2 r];refine By ?_;rintro⟨i,f,a⟩;by_cases M:i<j
       ·exact c ⟨i,M,a⟩
       ·obtain rfl:i=j:=by omega
        exact r a
    clear q l G;cases V
    ·go_wp2;go_round;case rel=>exact⟨j+1,by omega,by go_num,by rw[I];rfl,H⟩
     case measure=>simp[intOf];omega
    ·go_wp2;go_round;case rel=>exact⟨j+1,by omega,by go_num,by rw[I];rfl,H⟩
     case measure=>simp[intOf];omega
  ·obtain rfl:j=n:=by omega
   have m:Hid (DL j K=0/\GB j K=decide (∃i,i<j/\K i=3)):=by
    refine⟨zyn ?_,?_⟩
    ·rintro⟨i,f,a⟩;exact l i f a
    ·unfold GB;refine decide_eq_decide.2 ⟨?_,?_⟩
     ·rintro⟨i,f,a|a⟩
      ·exact⟨i,f,a⟩
      ·exact absurd a (l i f)
     ·rintro⟨i,f,a⟩;exact⟨i,f,.inl a⟩
   generalize decide (∃i,i<j/\K i=3)=V at*
   have R:=AT 3 false 0 {data:=#[]};go_wp2_with fail;refine cm (IQ _) λL h=>?_;have k:=Ab (e.1.below h e.1.lt) (e.2.trans (h.mono e.2.size));clear h e;go_wp2_with (refine sR k.1 3 false 0 ⟨#[]⟩ 0 ?_);have d:=A1 k.1 3 false 0 ⟨#[]⟩ 0;refine Do (MG rfl _ _ rfl d.1 d.2.1 d.2.2.1 d.2.2.2.1 d.2.2.2.2.1) rfl ?_;exact⟨by rw[m.out.1,m.out.2];rfl,AC k.2 (AS _) _⟩
theorem JX(D:AG):tx D++{data:=#[48]}=tx (D++[0]):=by
 have:({data:=#[48]}:AB)=tx [0]:=by apply De;rw[AR];rfl
 rw[this,Ax]
theorem VN(D:AG):tx D++{data:=#[57]}=tx (D++[9]):=by
 have:({data:=#[57]}:AB)=tx [9]:=by apply De;rw[AR];rfl
 rw[this,Ax]
theorem IU(n:Int):(nt n).length<=500:=by
 unfold nt;exact DT (Bf _) (by rw[Js];exact AS _)
theorem Hi(e:Int)(neg:Bool)(v:Int)(k:Nat)(rest:Bool)(f:0<=v)(h:v<10^300):0<=BC e neg v k rest/\BC e neg v k rest<10^500:=by
 have g:(0:Int)<10^k:=Int.pow_pos (by decide);have a:=Int.ediv_nonneg f (CP g);have b:=Int.ediv_le_self (10^k) f;have c:=AI 301 500 (by decide);have d:=Int.pow_succ 10 300;unfold BC;generalize v/10^k=q at*
 generalize (10:Int)^300=x at*
 generalize (10:Int)^301=y at*
 generalize (10:Int)^500=z at*
 split<;>omega
theorem Ud(f:Bool)(D:AG)(e c g d:Int)(p:Nat)(h:0<D.length)(i:D.length<=500)(j:p<=34):0<(Bv f D e c g d p).length/\(Bv f D e c g d p).length<=534/\e-34<=CL f D e c g d p/\CL f D e c g d p<=e+500:=by
 unfold Bv CL;cases f with
 |true=>exact⟨h,by simp;omega,by simp;omega,by simp;omega⟩
 |false=>
  have a:=OQ D e c d h;have b:fB (D.length-fA D e c d) p (e+fA D e c d) c g<=34:=by unfold fB;omega
  simp only[Bool.false_eq_true,if_false];rw[Dc,FQ,GG];omega
theorem lN(n:Nat)(a:n<=600)(w:AA):
 cB 184 #[.string {data:=#[48]},.int .i64 n] w (.string (tx (List.replicate n 0))):=by
 have:=strings_Repeat {data:=#[48]} n w (by omega) (by show 1*n<=_;omega);rw[show({data:=#[48]}:AB).data.toList=[48] from rfl,Zs] at this;exact this
theorem Yf(a:AG)(k n:Nat)(r:a.length<=300)(s:k<=200)(i:(Ak (k+1) a).length=n+k)(w:AA):
 cB 253 #[.string (tx a),.int .i64 k] w (.tuple #[.string (tx ((Ak (k+1) a).take n)),.string (tx ((Ak (k+1) a).drop n))]):=by
 have t:=C9 (k+1) a;obtain⟨j,c⟩:=zxe (k+1-a.length);have l:Hid (Ak (k+1) a=List.replicate j 0++a):=by show _=_;unfold Ak;rw[c]
 have z:=AE a;have A:=zw ((k:Int)+1) (by omega);have d:=zw ((k:Int)+1-(a.length:Int)) (by omega);have e:=zq λX=>lN j (by omega) X;have m:tx (List.replicate j 0)++tx a=tx (List.replicate j 0++a):=Ax _ _;have o:(tx (List.replicate j 0)).size=j:=by rw[AE,GG]
 have u:=C8 (Ak (k+1) a) n (by omega);have p:=Hm (Ak (k+1) a) n (by omega);have q:(tx (Ak (k+1) a)).size=n+k:=by rw[AE,i]
 have b:Hid (a.length<=300/\k<=200/\n+k=max (k+1) a.length/\k+1-a.length=j):=⟨r,s,by omega,c⟩;rw[l] at u p q ⊢;rw[q] at p;clear i t l;generalize List.replicate j 0++a=D at*
 have B:n<=600:=by have:=b.out;omega
 have C:j<=300:=by have:=b.out;omega
 have E:IntKind.i64.wrap ((n:Int)+(k:Int)-(k:Int))=(n:Int):=Dn (by omega);have F:(n:Int)<=(n:Int)+(k:Int):=by omega
 clear c;by_cases f:(0:Int)<(k:Int)+1-(a.length:Int)
 ·have g:Hid ((k:Int)+1-(a.length:Int)=(j:Int)):=by have:=b.out;show _=_;omega
  rw[g] at d f;have v:=g.out;go_enter func253,ntmps253;go_wp2_with fail;refine cm (e _) λd h=>?_;clear v g f;go_wp2_with fail;go_quiet (fail);go_wp2;go_ret2;exact⟨rfl,Go.below_drewN h _⟩
 ·obtain rfl:j=0:=by have:=b.out;omega
  have x:=zq e;have G:tx []++tx a=tx D:=m;have H:(tx []).size=0:=o;clear m o;clear e;have y:max (0:Int) ((k:Int)+1-(a.length:Int))=0:=by omega
  go_enter func253,ntmps253;go_wp2_with fail;refine cm (x _) λd h=>?_;clear f y;go_wp2_with fail;go_quiet (fail);go_wp2;go_ret2;exact⟨rfl,Go.below_drewN h _⟩
theorem YZ(s:AB)(w:AA)(b:s.size<=600):
 cB 209 #[.string s] w (.string s):=by
 go_enter func209,ntmps209;go_wp2_with fail;refine cm (stringslite_Clone s _ (by omega)) λc a=>?_;go_wp2;go_ret;exact⟨rfl,a⟩
theorem Tz.next{W a:AA}(h:Tz W)(b:AD W.heap.size W a):Tz a:=(b.cell (p:=⟨9,15,none⟩) (World.block_lt_of_cell? _ _ h)).trans h
theorem gL(k n U:Nat)(a:n+k=16)(h:U<16^k):tx (List.replicate n 0)++(⟨(G4 k U).toArray⟩:AB)=⟨(G4 16 U).toArray⟩:=by
 rw[show 16=k+n by omega,gJ k n U h];apply De;rw[ByteArray.data_append,AR,List.map_replicate];simp
theorem KF(U:Nat)(i:U<18446744073709551616)(w:AA)(a:Tz w):
 cB 106 #[.int .u64 U] w (.string ⟨(G4 16 U).toArray⟩):=by
 have b:=zq (YG U i w a);clear a;go_enter func106,ntmps106;go_wp2_with fail;refine b.mono ?_;rintro e c ⟨⟨k,j,l,d,rfl⟩,f⟩;obtain⟨n,m⟩:=zxe (16-k);have g:=gL k n U (by omega) d;have r:(⟨(G4 k U).toArray⟩:AB).size=k:=by show(G4 k U).toArray.size=k;rw[List.size_toArray,Ea]
 have o:Hid (cB 184 #[.string {data:=#[48]},.int .i64 (16-(k:Int))] c (.string (tx (List.replicate n 0)))):=by
  rw[show(16:Int)-(k:Int)=(n:Int) by omega];exact Gl n (by omega) c
 have s:(tx (List.replicate n 0)).size=n:=by rw[AE,GG]
 have t:¬9223372036854775807<n+k:=by omega
 have u:=zw (16-(k:Int)) (by omega);generalize (⟨(G4 k U).toArray⟩:AB)=D at*
 generalize tx (List.replicate n 0)=Z at*
 have h:=zq f;have p:=zq g;clear g j l d m f b;go_wp2_with (first|(go_at_call 184;refine o.mono ?_;rintro e v ⟨rfl,q⟩)|go_in);go_ret;exact⟨by rw[<-p];rfl,h.trans (q.mono h.size)⟩
def Bp(n:Int):Prop:=0<=n/\n<10^200
def tn(n:Int):AB:=tx (nt n)
theorem nF:(10:Int)^200<=10^500:=AI 200 500 (by decide)
theorem AL(k:Nat):(0:Int)<10^k:=Int.pow_pos (by decide)
theorem Ae{n:Int}(h:Bp n):AJ (nt n)/\vl (nt n)=n:=B5 n h.1 (FS h.2 nF)
theorem Cm{n:Int}(h:Bp n):(nt n).length<=200:=by
 obtain⟨a,b⟩:=Ae h;rcases Nat.lt_or_ge 200 (nt n).length with c|c
 ·exfalso;have l:=EB (nt n) a (by omega);have m:=AI 200 ((nt n).length-1) (by omega);rw[b] at l;exact absurd (FS h.2 (Int.le_trans m l)) (Int.lt_irrefl _)
 ·exact c
theorem Nx{n:Int}(h:Bp n):Be 200 (tn n)=true:=D2 200 (nt n) (Ae h).1 (by have:=Cm h;omega)
theorem Ef{n:Int}(h:Bp n):nv (tn n)=n:=by
 obtain⟨a,b⟩:=Ae h;unfold nv tn;rw[jS _ a.1,b]
theorem VL(n:Int):(tn n).size<=500:=by
 unfold tn nt;rw[AE];exact DT (Bf _) (by rw[Js];exact AS _)
theorem OU{n:Int}(h:Bp n):DE (nt n)=tn n:=by
 unfold DE;rw[zyp (Cm h)];rfl
theorem Lu{x y:Int}(a:Bp x)(b:Bp y):M3 (tn x) (tn y)=true:=by unfold M3;rw[Nx a,Nx b];rfl
theorem j8{x y:Int}(a:Bp x)(b:Bp y):Sk (tn x) (tn y)=Ay x y:=by
 unfold Sk;rw[Lu a b,zyp rfl,Ef a,Ef b]
theorem j2{x y:Int}(a:Bp x)(b:Bp y):Mi (tn x) (tn y)=DE (nt (x+y)):=by
 unfold Mi;rw[Lu a b,zyp rfl,Ef a,Ef b]
theorem ku{x y:Int}(a:Bp x)(b:Bp y):RC (tn x) (tn y)=DE (nt (x*y)):=by
 unfold RC;rw[Lu a b,zyp rfl,Ef a,Ef b]
theorem eG{x y:Int}(a:Bp x)(b:Bp y)(h:y<=x):MU (tn x) (tn y)=tn (x-y):=by
 unfold MU;rw[Lu a b,zyp rfl,Ef a,Ef b,zyn (by omega)];rfl
theorem mA{x y:Int}(a:Bp x)(b:Bp y)(h:(tn x).toList=(tn y).toList):x=y:=by
 have:=eT (nt x) (nt y) (Ae a).1.1 (Ae b).1.1 h;rw[<-(Ae a).2,<-(Ae b).2,this]
theorem nd{x y:Int}(a:Bp x)(b:Bp y)(h:x≠y):((tn x).toList==(tn y).toList)=false:=beq_eq_false_iff_ne.2 λe=>h (mA a b e)
theorem RL:Bp 0:=⟨Int.le_refl _,AL _⟩
theorem T7:(tn 0).toList=[48]:=by
 have:nt 0=[0]:=(BW [0] 0 Az rfl (by decide)).symm;unfold tn;rw[this];exact Fv
theorem J6{x:Int}(a:Bp x)(h:x≠0):((tn x).toList==[48])=false:=by rw[<-T7];exact nd a RL h
theorem Bp.le{x y:Int}(h:Bp y)(a:0<=x)(b:x<=y):Bp x:=⟨a,Int.lt_of_le_of_lt b h.2⟩
theorem Xs{x y:Int}(a:Bp x)(b:Bp y)(h:y≠0):OJ (tn x) (tn y)=tn (x/y)/\OK (tn x) (tn y)=tn (x%y):=by
 unfold OJ OK;rw[Lu a b,zyp rfl,zyp rfl,Ef a,Ef b,zyn h,zyn h];exact⟨rfl,rfl⟩
theorem Oy(R:AG)(h:AJ R)(m:Nat)(e:1<=m)(g:10^(m-1)<=vl R)(f:vl R<10^m):R.length=m:=by
 have a:=Bu R h m e f;rcases Nat.lt_or_ge R.length m with c|c
 ·have b:=(AZ R h.1).2;have d:=AI R.length (m-1) (by omega);omega
 ·omega
theorem EJ(R:AG)(h:AJ R)(a:R≠[0]):10^(R.length-1)<=vl R:=by
 rcases Nat.lt_or_ge 1 R.length with c|c
 ·exact EB R h c
 ·have:R.length=1:=by have:=h.2.1;omega
  rw[this];have b:=(AZ R h.1).1;have:vl R≠0:=λe=>a (Bg R h e);show(10:Int)^0<=vl R
  rw[Int.pow_zero];omega
theorem I3(R c:AG)(h:AJ R)(e:R≠[0])(f:AJ c)(k:Nat)(r:Int)(d:vl c=vl R*10^k+r)(g:0<=r)(i:r<10^k):c.length=R.length+k:=by
 have j:=h.2.1;have a:=EJ R h e;have b:=(AZ R h.1).2;have p:=AL k;refine Oy c f _ (by omega) ?_ ?_
 ·rw[show R.length+k-1=R.length-1+k by omega,Cv,d];have:=If a (CP p);omega
 ·rw[Cv,d];have:(vl R+1)*10^k<=10^R.length*10^k:=If (by omega) (CP p);rw[Int.add_mul] at this;omega
theorem QN(v r:Int)(k d:Nat)(h:0<=r)(i:r<10^k):(v*10^k+r)/10^(d+k)=v/10^d/\(v*10^k+r)%10^(d+k)=v%10^d*10^k+r:=by
 have f:=AL k;have j:=AL d;have e:(v*10^k+r)/10^(d+k)=v/10^d:=by
  rw[Nat.add_comm d k,Cv,<-Int.ediv_ediv_of_nonneg (CP f)];congr 1;rw[Int.add_comm,Int.add_mul_ediv_right _ _ (Int.ne_of_gt f),Int.ediv_eq_zero_of_lt h i,Int.zero_add]
 refine⟨e,?_⟩;have a:=Int.mul_ediv_add_emod (v*10^k+r) (10^(d+k));have b:=Int.mul_ediv_add_emod v (10^d);rw[e,Cv] at a;rw[Cv];have c:v*10^k=10^d*(v/10^d)*10^k+v%10^d*10^k:=by rw[<-Int.add_mul,b]
 have g:(10:Int)^d*10^k*(v/10^d)=10^d*(v/10^d)*10^k:=by rw[Int.mul_assoc,Int.mul_comm (10^k) (v/10^d),<-Int.mul_assoc]
 rw[g] at a;omega
theorem SA(d:Nat)(h:1<=d):∃m:Int,(10:Int)^d=10*m:=⟨10^(d-1),by rw[<-Int.pow_succ',show d-1+1=d by omega]⟩
theorem V6(ρ r:Int)(k d:Nat)(g:1<=d)(b:Bool)(l:0<=r)(n:r<10^k)(i:r≠0\/b=true):BU (ρ*10^k+r) (10^(d+k)) b (d+k)=BU ρ (10^d) true d:=by
 obtain⟨m,j⟩:=SA d g;have e:=AL k;unfold BU;rw[zyn (show¬d+k=0 by omega),zyn (show¬d=0 by omega),Cv,j];generalize (10:Int)^k=T at*
 by_cases h:2*ρ<10*m
 ·rw[zyp h,zyp ?_];have a:2*ρ+2<=10*m:=by omega
  have:=If a (CP e);rw[Int.add_mul,Int.mul_assoc 2 ρ T] at this;omega
 ·have a:10*m<=2*ρ:=by omega
  have:=If a (CP e);rw[Int.mul_assoc 2 ρ T] at this;rw[zyn h,zyn (by omega:¬2*(ρ*T+r)<10*m*T),zyn (λq=>Bool.noConfusion q.2:¬(2*ρ=10*m/\true=false))];refine zyn ?_;rintro⟨o,f⟩;rcases i with c|c
  ·omega
  ·rw[c] at f;cases f
theorem U6(f:Int)(neg:Bool)(v:Int)(d:Nat)(n:Nat)(c:0<=v)(g:v<10^n)(e:n+1<=d):BC f neg v d true=BC f neg 1 200 true:=by
 have j:=AL n;have h:∀(v:Int) (d n:Nat),0<=v->v<10^n->n+1<=d->v/10^d=0/\BU (v%10^d) (10^d) true d=-1:=λv d n c g e=>by
  have a:=AI (n+1) d e;have b:=Int.pow_succ 10 n;have j:=AL n;have i:v<10^d:=by omega
  refine⟨Int.ediv_eq_zero_of_lt c i,?_⟩;rw[Int.emod_eq_of_lt c i];unfold BU;rw[zyn (by omega),zyp (by omega)]
 obtain⟨a,b⟩:=h v d n c g e;obtain⟨k,l⟩:=h 1 200 1 (by decide) (by decide) (by decide);unfold BC Ft jl BJ;rw[a,b,k,l];simp
theorem Jn(p:Nat)(M:1<=p)(i t h:Int)(neg:Bool)(a f:AG)(e:Int)(g:Bool)(u:Int)(k:Nat)(r:Int)(v:AJ a)(y:a≠[0])(z:AJ f)(j:vl f=vl a*10^k+r)(l:0<=r)(m:r<10^k)(n:r≠0\/g=true)
 (N:p+1<=a.length) (O:a.length+k<=198):CJ p i t h neg a e true u=CJ p i t h neg f (e-k) g u:=by
 have w:=I3 a f v y z k r j l m;have A:Di p a.length true=0:=by unfold Di;rw[zyp rfl];omega
 have B:Di p f.length g=0:=by unfold Di;cases g<;>simp;omega
 obtain⟨d,o⟩:=zxe (BX p a.length i e);have C:1<=d:=by rw[<-o];unfold BX;omega
 have D:BX p f.length i (e-k)=d+k:=by rw[<-o,w];unfold BX;omega
 obtain⟨E,q⟩:=QN (vl a) r k d l m;have F:Bq (vl a) d true=true:=by unfold Bq BJ;split<;>rfl
 have G:Bq (vl f) (d+k) g=true:=by
  unfold Bq BJ;split
  ·rfl
  ·rcases n with c|c
   ·rw[j,q];have s:=Int.emod_nonneg (vl a) (Int.ne_of_gt (AL d));have:=Int.mul_nonneg s (CP (AL k));rw[Bz (show vl a%10^d*10^k+r≠0 by omega),Bool.or_true]
   ·rw[c,Bool.true_or]
 have H:BC h neg (vl f) (d+k) g=BC h neg (vl a) d true:=by
  have I:BJ (vl f) (d+k) g=BJ (vl a) d true:=by
   unfold BJ;rw[Bool.true_or];rcases n with c|c
   ·rw[j,q];have s:=Int.emod_nonneg (vl a) (Int.ne_of_gt (AL d));have:=Int.mul_nonneg s (CP (AL k));rw[Bz (show vl a%10^d*10^k+r≠0 by omega),Bool.or_true]
   ·rw[c,Bool.true_or]
  unfold BC Ft;rw[I,j,E,q,V6 (vl a%10^d) r k d C g l m n]
 have J:Cw h neg (vl f) (d+k) g=Cw h neg (vl a) d true:=by
  unfold Cw;by_cases c:200<d
  ·rw[zyp c,zyp (by omega)]
  ·rw[zyn c];by_cases x:200<d+k
   ·rw[zyp x];have b:=AZ a v.1;exact(U6 h neg (vl a) d a.length b.1 b.2 (by omega)).symm
   ·rw[zyn x];exact H
 unfold CJ;simp only[A,B,Nat.add_zero,Int.pow_zero,Int.mul_one];rw[show e-((0:Nat):Int)=e by simp,show e-(k:Int)-((0:Nat):Int)=e-k by simp,o,D,F,G,J,w];obtain⟨K,L⟩:e-(k:Int)+((d+k:Nat):Int)=e+(d:Int)/\((a.length+k:Nat):Int)+(e-(k:Int))=(a.length:Int)+e:=by omega
 rw[K,L]
theorem Vy(p:Nat)(B:1<=p)(g h f:Int)(neg:Bool)(a:AG)(e i:Int)(n:AJ a)(o:vl a%10=9)(C:p+1<=a.length):CJ p g h f neg a e true i=CJ p g h f neg a e false i:=by
 have r:Di p a.length true=0:=by unfold Di;rw[zyp rfl];omega
 have s:Di p a.length false=0:=by unfold Di;simp
 obtain⟨d,j⟩:=zxe (BX p a.length g e);have t:1<=d:=by rw[<-j];unfold BX;omega
 obtain⟨m,u⟩:=SA d t;have b:=(AZ a n.1).1;have k:vl a%10^d%10=9:=by
  rw[u,Int.emod_emod_of_dvd _ (Int.dvd_mul_right 10 m)];exact o
 have v:vl a%10^d≠0:=λc=>by rw[c] at k;cases k
 have l:BJ (vl a) d true=BJ (vl a) d false:=by unfold BJ;rw[Bz v];rfl
 have w:BU (vl a%10^d) (10^d) true d=BU (vl a%10^d) (10^d) false d:=by
  unfold BU;have x:¬(2*(vl a%10^d)=10^d/\true=false):=λq=>Bool.noConfusion q.2;have y:¬(2*(vl a%10^d)=10^d/\false=false):=λq=>by have:=q.1;omega
  rw[zyn x,zyn y]
 have z:Cw f neg (vl a) d true=Cw f neg (vl a) d false:=by
  unfold Cw BC Ft;rw[l,w]
 have A:Bq (vl a) d true=Bq (vl a) d false:=by unfold Bq;rw[l]
 unfold CJ;simp only[r,s,Nat.add_zero,Int.pow_zero,Int.mul_one];rw[show e-((0:Nat):Int)=e by simp,j,z,A]
theorem Gv(d:AG)(h:AJ d)(a:d≠[0]):1<=vl d:=by
 have b:=(AZ d h.1).1;have:vl d≠0:=λe=>a (Bg d h e);omega
def P5(D:AG):Prop:=Au D/\0<D.length/\D.headD 0≠0
theorem P5.canon{D:AG}(h:P5 D):AJ D:=⟨h.1,h.2.1,.inr h.2.2⟩
theorem P5.take{D:AG}(h:P5 D)(k:Nat)(b:0<k):P5 (D.take k):=by
 refine⟨λd a=>h.1 d (List.mem_of_mem_take a),by have:=h.2.1;simp;omega,?_⟩;cases D with
 |nil=>exact absurd h.2.1 (by simp)
 |cons x r=>cases k with
  |zero=>omega
  |succ k=>simpa using h.2.2
theorem P5.zeros{D:AG}(h:P5 D)(k:Nat):P5 (D++List.replicate k 0):=by
 refine⟨λd a=>?_,by have:=h.2.1;simp;omega,?_⟩
 ·rcases List.mem_append.1 a with q|q
  ·exact h.1 d q
  ·rw[List.mem_replicate] at q;omega
 ·cases D with
  |nil=>exact absurd h.2.1 (by simp)
  |cons x r=>simpa using h.2.2
theorem kU(D:AG)(h:AJ D)(a:vl D≠0):P5 D:=by
 refine⟨h.1,h.2.1,?_⟩;rcases h.2.2 with q|q
 ·match D,q with
  |[x],_=>
   show x≠0
   intro h;subst h;exact a (by rfl)
 ·exact q
theorem Sp(f:Int)(g:f=64\/f=128)(b:Int)(neg:Bool)(D:AG)(e c:Int)(h:AJ D)(r:D.length<=(AF f).toNat)(s:AV f<=e)(i:P5 D\/e<=Ad f):
 AQ f (Ht (AF f).toNat (Ad f) b neg D e c).1 neg (Ht (AF f).toNat (Ad f) b neg D e c).2.1 (Ht (AF f).toNat (Ad f) b neg D e c).2.2.1=true:=by
 have a:AF f≠0/\0<AF f/\AV f<=Ad f:=by rcases g with rfl|rfl<;>decide
 unfold Ht;split
 ·rename_i j;show AQ f 1 neg (EZ D e (Ad f) (AF f).toNat) (tx (E5 D e (Ad f) (AF f).toNat))=true
  unfold AQ;rw[zyn a.1,zyp rfl];have t:fC D.length (AF f).toNat e (Ad f)<=(AF f).toNat-D.length/\(fC D.length (AF f).toNat e (Ad f):Int)<=(e-Ad f).toNat:=by unfold fC;omega
  have k:(E5 D e (Ad f) (AF f).toNat).length=D.length+fC D.length (AF f).toNat e (Ad f):=by unfold E5;simp
  have l:AJ (E5 D e (Ad f) (AF f).toNat):=by
   unfold E5;rcases i with q|q
   ·exact(q.zeros _).canon
   ·have:fC D.length (AF f).toNat e (Ad f)=0:=by unfold fC;omega
    rw[this];simpa using h
  have m:=D2 (AF f) _ l (by rw[k];omega);rw[m];have n:AV f<=EZ D e (Ad f) (AF f).toNat:=by unfold EZ;omega
  simp[n,j]
 ·split
  ·show AQ f 1 neg (Ad f) (tx (List.replicate (AF f).toNat 9))=true
   unfold AQ;rw[zyn a.1,zyp rfl];have o:AJ (List.replicate (AF f).toNat (9:Int)):=by
    refine⟨λd p=>by rw[List.mem_replicate] at p;omega,by simp;omega,.inr ?_⟩;cases hq:(AF f).toNat with
    |zero=>omega
    |succ q=>simp[List.replicate_succ]
   rw[D2 (AF f) _ o (by simp;omega)];simp[a.2.2]
  ·show AQ f 2 neg 0 {data:=#[]}=true
   unfold AQ;rw[zyn a.1,zyn (by decide),zyp rfl,ByteArray.toList_eq];rfl
theorem So(d:Bool)(D:AG)(e a c b:Int)(p:Nat)(f:AJ D)(g:D.length<=p)(i:c<=e)(j:d=false->P5 D):
 AJ (Bv d D e a c b p)/\(Bv d D e a c b p).length<=p/\c<=CL d D e a c b p/\(d=false->P5 (Bv d D e a c b p)):=by
 unfold Bv CL;cases d with
 |true=>exact⟨f,g,i,λh=>by cases h⟩
 |false=>
  have k:=j rfl;have l:=OQ D e a b f.2.1;have m:fB (D.length-fA D e a b) p (e+fA D e a b) a c<=p-(D.length-fA D e a b)/\fB (D.length-fA D e a b) p (e+fA D e a b) a c<=(e+fA D e a b-c).toNat:=by unfold fB;omega
  simp only[Bool.false_eq_true,if_false];have q:=(k.take (D.length-fA D e a b) (by omega)).zeros (fB (D.length-fA D e a b) p (e+fA D e a b) a c);refine⟨q.canon,?_,by omega,λ_=>q⟩;simp;omega
theorem Ss(p:Nat)(hp:1<=p)(D:List Int)(hC:AJ D)(hl:D.length<=p+1):AJ (BY p D)/\(BY p D).length<=p/\(P5 D->P5 (BY p D)):=by
 unfold BY
 split
 ·rename_i h
  have hd:P5 D:=⟨hC.1,hC.2.1,by rcases hC.2.2 with q|q<;>first|omega|exact q⟩
  have q:=hd.take p (by omega)
  exact⟨q.canon,by simp;omega,λ_=>q⟩
 ·exact⟨hC,by omega,id⟩
theorem Sr(f:Int)(s:f=64\/f=128)(j:Int)(neg:Bool)(a:AG)(e g:Int)(k:AJ a)(t:a≠[0])(Z:a.length<=200):
 AQ f (CJ (AF f).toNat (AV f) (Ad f) j neg a e false g).1 neg (CJ (AF f).toNat (AV f) (Ad f) j neg a e false g).2.1 (CJ (AF f).toNat (AV f) (Ad f) j neg a e false g).2.2.1=true:=by
 have D:1<=(AF f).toNat/\(AF f).toNat<=34/\AV f<=Ad f:=by rcases s with rfl|rfl<;>decide
 have E:=AZ a k.1;have aa:=Gv a k t;have u:Di (AF f).toNat a.length false=0:=rfl;unfold CJ;simp only[u,Nat.add_zero,Int.pow_zero,Int.mul_one];have v:BX (AF f).toNat a.length (AV f) (e-(0:Nat))=(max (max 0 ((a.length:Int)-(AF f).toNat)) (AV f-e)).toNat:=by unfold BX;simp
 rw[v];generalize F:(max (max 0 ((a.length:Int)-(AF f).toNat)) (AV f-e)).toNat=b;obtain⟨ab,ac⟩:AV f<=e+b/\(a.length:Int)-(AF f).toNat<=b:=by omega
 have w:(a.length:Int)-(AF f).toNat<b->0<b->e+b=AV f:=by omega
 clear F v u;generalize x:(AF f).toNat=p at*
 generalize c:Cw j neg (vl a) b false=q;generalize i:Bq (vl a) b false=d;have G:0<=q/\q<10^(p+1)/\(d=false->q≠0)/\(q=0->e+b=AV f):=by
  have ad:=Int.add_one_le_of_lt (AL p);have ae:(10:Int)^(p+1)=10^p*10:=Int.pow_succ ..;by_cases y:200<b
  ·unfold Cw at c;unfold Bq at i;rw[zyp y] at c i;have H:d=true:=by rw[<-i];rfl
   have I:(1:Int)/10^200=0:=by decide
   unfold BC at c;rw[I] at c;have J:q=0\/q=1:=by rw[<-c];split<;>simp
   refine⟨by omega,by omega,λh=>(by rw[H] at h;cases h),λ_=>w (by omega) (by omega)⟩
  ·unfold Cw at c;unfold Bq at i;rw[zyn y] at c i;unfold BC at c;have z:=AL b;have af:0<=vl a/10^b:=Int.ediv_nonneg (by omega) (by omega);have ag:vl a/10^b<10^p:=by
    refine Int.ediv_lt_of_lt_mul z ?_;rw[<-Cv];exact FS E.2 (AI _ _ (by omega))
   have J:q=vl a/10^b\/q=vl a/10^b+1:=by rw[<-c];split<;>simp
   refine⟨by omega,by omega,λh K=>?_,λK=>?_⟩
   ·rw[<-i] at h;have L:vl a%10^b=0:=by simpa[BJ] using h
    have m:vl a/10^b=0:=by omega
    have:=Int.emod_add_mul_ediv (vl a) (10^b);rw[L,m] at this;simp at this;omega
   ·have m:vl a/10^b=0:=by omega
    have ah:vl a<10^b:=by
     have:=Int.emod_add_mul_ediv (vl a) (10^b);rw[m] at this;have:=Int.emod_lt_of_pos (vl a) z;simp at*
     omega
    have ai:=EJ a k t;have:¬b<=a.length-1:=λh=>by
     have:=AI b (a.length-1) h;omega
    have:=k.2.1;exact w (by omega) (by omega)
 obtain⟨M,A,N,O⟩:=G;have P:q<10^500:=FS A (AI _ _ (by omega));obtain⟨l,n⟩:=B5 q M P;have Q:(nt q).length<=p+1:=Bu _ l (p+1) (by omega) (by rw[n];exact A);have B:q≠0->P5 (nt q):=λh=>kU _ l (by rw[n];exact h);obtain⟨R,S,C⟩:=Ss p D.1 (nt q) l Q;have te:AV f<=A8 p (nt q) (e-(0:Nat)+b):=by unfold A8;split<;>omega
 have T:q=0->A8 p (nt q) (e-(0:Nat)+b)<=Ad f:=λh=>by
  have aj:(nt q).length<=1:=Bu _ l 1 (by omega) (by rw[n,h];decide);have:=O h;unfold A8;rw[zyn (by omega)];omega
 generalize BY p (nt q)=o at*
 generalize A8 p (nt q) (e-(0:Nat)+b)=r at*
 obtain⟨U,V,W,X⟩:=So d o r g (AV f) (Ad f) p R S te (λh=>C (B (N h)));have Y:P5 (Bv d o r g (AV f) (Ad f) p)\/CL d o r g (AV f) (Ad f) p<=Ad f:=by
  cases d with
  |false=>exact .inl (X rfl)
  |true=>
   by_cases h:q=0
   ·exact .inr (T h)
   ·exact .inl (C (B h))
 have:=Sp f s j neg _ _ (Dh d (a.length+e) (AV f) p) U (by rw[x];exact V) W Y;rw[x] at this;exact this
theorem Sq(f:Int)(g:f=64\/f=128)(c:Int)(neg:Bool)(a:AG)(e b:Int)(i:AJ a)(j:a.length<=200):
 AQ f (Al f c neg a e false b).1 neg (Al f c neg a e false b).2.1 (Al f c neg a e false b).2.2.1=true:=by
 unfold Al;by_cases h:a=[0]
 ·rw[zyp h];have k:AF f≠0/\1<=AF f/\AV f<=Ad f:=by rcases g with rfl|rfl<;>decide
  have l:Be (AF f) {data:=#[48]}=true:=by
   have:=D2 (AF f) [0] ⟨λd m=>by simp at m;omega,by simp,.inl rfl⟩ (by simp;omega);have n:tx [0]={data:=#[48]}:=by apply De;rw[AR];rfl
   rw[n] at this;exact this
  show AQ f 1 neg (min (Ad f) (max (AV f) b)) {data:=#[48]}=true
  unfold AQ;rw[zyn k.1,zyp rfl,l];obtain⟨o,p⟩:AV f<=min (Ad f) (max (AV f) b)/\min (Ad f) (max (AV f) b)<=Ad f:=by omega
  simp[o,p]
 ·rw[zyn h];exact Sr f g c neg a e b i h j
def SU(w W:AA)(a:Int)(b:Bool)(c:Int)(d:AB)(e:Int)(f:Bool)(g:Int)(h:AB):Prop:=
 W.heap[w.heap.size]?=some (.cells #[.int .i64 a,.bool b,.int .i64 c,.string d] 78 (0,0))/\W.heap[w.heap.size+1]?=some (.cells #[.int .i64 e,.bool f,.int .i64 g,.string h] 78 (0,0))
  /\Ib W (w.heap.size+2) (.int .i64 0) (.bool false) (.int .i64 0) (.string ⟨#[]⟩) (.int .i64 0)/\AD w.heap.size w W/\w.heap.size+2<W.heap.size
abbrev EW(w:AA)(a:Int)(b:Bool)(c:Int)(d:AB)(e:Int)(f:Bool)(g:Int)(h:AB):AA:=
 ((w.alloc (AY a b c d)).alloc (AY e f g h)).alloc A2
theorem Bi(w:AA)(o:Obj):(w.alloc o).heap[w.heap.size]?=some o:=by
 show(w.heap.push o)[w.heap.size]?=some o
 exact Array.getElem?_push_size
theorem BP(w:AA)(a:Int)(b:Bool)(c:Int)(d:AB)(e:Int)(f:Bool)(g:Int)(h:AB):SU w (EW w a b c d e f g h) a b c d e f g h:=by
 have j:(w.alloc (AY a b c d)).heap.size=w.heap.size+1:=by simp
 have i:((w.alloc (AY a b c d)).alloc (AY e f g h)).heap.size=w.heap.size+2:=by simp
 have m:=(BI w.heap.size w).alloc (AS _) (AY a b c d);have n:=Bi w (AY a b c d);have k:=Bi (w.alloc (AY a b c d)) (AY e f g h);have l:=Bi ((w.alloc (AY a b c d)).alloc (AY e f g h)) A2;rw[j] at k;rw[i] at l;refine⟨(Below.heap_alloc _ _ _ (by rw[i];omega)).trans ((Below.heap_alloc _ _ _ (by rw[j];omega)).trans n),(Below.heap_alloc _ _ _ (by rw[i];omega)).trans k,l,(m.alloc (by rw[j];omega) _).alloc (by rw[i];omega) _,by simp⟩
theorem SU.next{w W b:AA}{c:Int}{d:Bool}{e:Int}{f:AB}{g:Int}{i:Bool}{j:Int}{k:AB}(h:SU w W c d e f g i j k)(a:AD W.heap.size W b):SU w b c d e f g i j k:=
 ⟨(a.block _ (by have:=h.2.2.2.2;omega)).trans h.1,(a.block _ (by have:=h.2.2.2.2;omega)).trans h.2.1,(a.block _ h.2.2.2.2).trans h.2.2.1,h.2.2.2.1.trans (a.mono h.2.2.2.1.size),DU h.2.2.2.2 a.size⟩
theorem SU.drewN{w W:AA}{a:Int}{b:Bool}{c:Int}{d:AB}{e:Int}{f:Bool}{g:Int}{i:AB}(h:SU w W a b c d e f g i)(n:Nat):SU w (W.drewN n) a b c d e f g i:=⟨h.1,h.2.1,h.2.2.1,Go.below_drewN h.2.2.2.1 n,h.2.2.2.2⟩
theorem SU.drew{w W:AA}{a:Int}{b:Bool}{c:Int}{d:AB}{e:Int}{f:Bool}{g:Int}{i:AB}(h:SU w W a b c d e f g i):SU w W.drew a b c d e f g i:=⟨h.1,h.2.1,h.2.2.1,h.2.2.2.1.drew,h.2.2.2.2⟩
theorem AW{W:AA}{g:Nat}{c:Array AK}{T:TypeId}(h:W.heap[g]?=some (.cells c T (0,0)))(i:Nat):W.cell? ⟨g,i,none⟩=c[i]?:=by
 unfold World.cell?;simp only[h];rfl
theorem SU.cells{w W:AA}{g:Int}{a:Bool}{b:Int}{c:AB}{i:Int}{d:Bool}{e:Int}{f:AB}(h:SU w W g a b c i d e f):
 (W.cell? ⟨w.heap.size,1,none⟩=some (.bool a)/\W.cell? ⟨w.heap.size,2,none⟩=some (.int .i64 b)/\W.cell? ⟨w.heap.size,3,none⟩=some (.string c))
   /\W.cell? ⟨w.heap.size+1,1,none⟩=some (.bool d)/\W.cell? ⟨w.heap.size+1,2,none⟩=some (.int .i64 e)/\W.cell? ⟨w.heap.size+1,3,none⟩=some (.string f):=
 ⟨⟨(AW h.1 1).trans rfl,(AW h.1 2).trans rfl,(AW h.1 3).trans rfl⟩,(AW h.2.1 1).trans rfl,(AW h.2.1 2).trans rfl,(AW h.2.1 3).trans rfl⟩
theorem Gu:tx [0]={data:=#[48]}:=by apply De;rw[AR];rfl
theorem Ar{w W a:AA}{c:Int}{d:Bool}{e:Int}{f:AB}{g:Int}{i:Bool}{j:Int}{k:AB}(h:SU w W c d e f g i j k)(b:AD W.heap.size W a):
 Z5 a (w.heap.size+2)/\AD w.heap.size w a:=⟨(h.next b).2.2.1,(h.next b).2.2.2.1⟩
theorem WJ(f a:Int)(l:Et f a)(m:Int)(b:Bool)(c:Int)(n:Int)(e:Bool)(d:Int)(w:AA)(x:-13000<=c/\c<=13000)(z:-13000<=d/\d<=13000):
 cB 191 #[.int .i64 f,.int .i64 a,AH m b c (tx [0]),AH n e d (tx [0])] w (BE (if b=e then b else decide (a=3)) (Al f a (if b=e then b else decide (a=3)) [0] (min c d) false (min c d))):=by
 have h:=zq (BP w m b c (tx [0]) n e d (tx [0]));obtain⟨M,i⟩:=zxe (min c d);have A:=zq i;rw[i];obtain⟨g,j⟩:=zxe (if b=e then b else decide (a=3));have o:=zq j;rw[j];have p:Hid (cA 122 #[.int .i64 f,.int .i64 a,.bool g,.string {data:=#[48]},.int .i64 M,.bool false,.int .i64 M] (BE g (Al f a g [0] M false M))):=λX=>by
  have:=l g [0] M false M X (BL 0 (by decide) (by decide)) (by simp) (by omega) (by omega);rw[Gu] at this;exact this
 rw[Gu] at h ⊢;clear i j x z l;generalize Al f a g [0] M false M=F at*
 obtain⟨q,r,s,t⟩:=F;go_enter func191,ntmps191;go_wp2_with fail;refine ce (C0 c d _) ?_;rw[A];cases b<;>cases e
 all_goals
  have u:=o.out;simp only[if_true,if_false,Bool.false_eq_true,reduceCtorEq] at u;subst u;clear o;go_wp2_with fail;refine cm (p _) λC v=>?_;have k:=zq (Ar h v);clear v h p;go_wp2_with (refine sR k.1 q _ r s t ?_);have B:=λy=>A1 k.1 q y r s t;refine rR (B _) ?_;exact⟨rfl,AC k.2 (by omega) _⟩
theorem WH(f e:Int)(k:Et f e)(l:Int)(m:Bool)(c:Int)(n:Int)(d:Bool)(a:Int)(b:AG)(w:AA)(g:AJ b)(o:b≠[0])(v:b.length<=100)(x:-13000<=c/\c<=13000)(z:-13000<=a/\a<=13000):
 cB 191 #[.int .i64 f,.int .i64 e,AH l m c (tx [0]),AH n d a (tx b)] w (BE d (Al f e d b a false (min c a))):=by
 have h:=zq (BP w l m c (tx [0]) n d a (tx b));obtain⟨M,i⟩:=zxe (min c a);have A:=zq i;rw[i];have C:=Bo b g.1 o;have p:=zq λX=>k d b a false M X g (by omega) (by omega) (by omega);rw[Gu] at h ⊢;clear i x z k g o v;generalize Al f e d b a false M=F at*
 obtain⟨q,r,s,t⟩:=F;generalize tx b=T at*
 go_enter func191,ntmps191;go_wp2_with fail;refine ce (C0 c a _) ?_;rw[A];go_wp2_with fail;refine cm (p _) λD u=>?_;have j:=zq (Ar h u);clear u h p;go_wp2_with (refine sR j.1 q _ r s t ?_);have B:=λy=>A1 j.1 q y r s t;refine rR (B _) ?_;exact⟨rfl,AC j.2 (by omega) _⟩
theorem WI(f e:Int)(k:Et f e)(l:Int)(d:Bool)(a:Int)(m:Int)(n:Bool)(c:Int)(b:AG)(w:AA)(g:AJ b)(o:b≠[0])(v:b.length<=100)(x:-13000<=a/\a<=13000)(z:-13000<=c/\c<=13000):
 cB 191 #[.int .i64 f,.int .i64 e,AH l d a (tx b),AH m n c (tx [0])] w (BE d (Al f e d b a false (min a c))):=by
 have h:=zq (BP w l d a (tx b) m n c (tx [0]));obtain⟨M,i⟩:=zxe (min a c);have A:=zq i;rw[i];have C:=Bo b g.1 o;have p:=zq λX=>k d b a false M X g (by omega) (by omega) (by omega);rw[Gu] at h ⊢;clear i x z k g o v;generalize Al f e d b a false M=F at*
 obtain⟨q,r,s,t⟩:=F;generalize tx b=T at*
 go_enter func191,ntmps191;go_wp2_with fail;refine ce (C0 a c _) ?_;rw[A];go_wp2_with fail;refine cm (p _) λD u=>?_;have j:=zq (Ar h u);clear u h p;go_wp2_with (refine sR j.1 q _ r s t ?_);have B:=λy=>A1 j.1 q y r s t;refine rR (B _) ?_;exact⟨rfl,AC j.2 (by omega) _⟩
theorem V5(ρ:Int)(k d:Nat)(b:1<=d):BU (ρ*10^k) (10^(d+k)) false (d+k)=BU ρ (10^d) false d:=by
 have a:=AL k;unfold BU;rw[zyn (show¬d+k=0 by omega),zyn (show¬d=0 by omega),Cv];generalize (10:Int)^k=T at*
 generalize (10:Int)^d=M at*
 have e:=(Int.mul_assoc 2 ρ T).symm;rw[e];by_cases h:2*ρ<M
 ·rw[zyp h,zyp (Int.mul_lt_mul_of_pos_right h a)]
 ·rw[zyn h,zyn (λc=>h (Int.lt_of_mul_lt_mul_right c (CP a)))];by_cases q:2*ρ=M
  ·rw[zyp (show 2*ρ*T=M*T/\false=false from⟨by rw[q],rfl⟩),zyp (show 2*ρ=M/\false=false from⟨q,rfl⟩)]
  ·rw[zyn (show¬(2*ρ*T=M*T/\false=false) fromλc=>q (Int.eq_of_mul_eq_mul_right (Int.ne_of_gt a) c.1)),zyn (show¬(2*ρ=M/\false=false) fromλc=>q c.1)]
theorem Rk(c:Int)(neg:Bool)(v:Int)(d:Nat)(n:Nat)(k:0<v)(i:v<10^n)(e:n+1<=d):BC c neg v d false=BC c neg 1 200 true/\BJ v d false=true:=by
 have a:=AI (n+1) d e;have b:=Int.pow_succ 10 n;have j:v<10^d:=by omega
 have f:v%10^d=v:=Int.emod_eq_of_lt (by omega) j;have g:BJ v d false=true:=by unfold BJ;rw[f,Bz (by omega:v≠0)];rfl
 refine⟨?_,g⟩;rw[<-U6 c neg v d n (by omega) i e];have h:∀r,BU (v%10^d) (10^d) r d=-1:=λr=>by
  rw[f];unfold BU;rw[zyn (by omega),zyp (by omega)]
 unfold BC Ft;rw[g,h,h];rfl
theorem Vx(p:Nat)(J:1<=p)(i o g:Int)(neg:Bool)(a f:AG)(e:Int)(q:Int)(k:Nat)(m:AJ a)(r:a≠[0])(z:AJ f)(s:vl f=vl a*10^k)
 (K:p+1<=a.length) (L:a.length+k<=198):CJ p i o g neg a e false q=CJ p i o g neg f (e-k) false q:=by
 have A:vl f=vl a*10^k+0:=by omega
 have t:=I3 a f m r z k 0 A (Int.le_refl _) (AL k);have B:Di p a.length false=0:=rfl;have C:Di p f.length false=0:=rfl;obtain⟨d,n⟩:=zxe (BX p a.length i e);have D:1<=d:=by rw[<-n];unfold BX;omega
 have E:BX p f.length i (e-k)=d+k:=by rw[<-n,t];unfold BX;omega
 obtain⟨u,j⟩:=QN (vl a) 0 k d (Int.le_refl _) (AL k);rw[Int.add_zero] at u j;rw[Int.add_zero] at j;have b:=AZ a m.1;have F:0<vl a:=by
  have:vl a≠0:=λc=>r (Bg a m c);omega
 have v:BJ (vl f) (d+k) false=BJ (vl a) d false:=by
  unfold BJ;rw[s,j];congr 1;refine decide_eq_decide.2 ⟨λh c=>h (by rw[c,Int.zero_mul]),λh c=>?_⟩;rcases Int.mul_eq_zero.1 c with c|c
  ·exact h c
  ·exact absurd c (Int.ne_of_gt (AL k))
 have G:BC g neg (vl f) (d+k) false=BC g neg (vl a) d false:=by
  unfold BC Ft;rw[v,s,u,j,V5 _ k d D]
 have w:Cw g neg (vl f) (d+k) false=Cw g neg (vl a) d false/\Bq (vl f) (d+k) false=Bq (vl a) d false:=by
  unfold Cw Bq;by_cases c:200<d
  ·rw[zyp c,zyp (by omega),zyp c,zyp (by omega)];exact⟨rfl,rfl⟩
  ·rw[zyn c,zyn c];by_cases l:200<d+k
   ·rw[zyp l,zyp l];obtain⟨x,y⟩:=Rk g neg (vl a) d a.length F b.2 (by omega);rw[x,y];exact⟨rfl,rfl⟩
   ·rw[zyn l,zyn l];exact⟨G,v⟩
 unfold CJ;simp only[B,C,Nat.add_zero,Int.pow_zero,Int.mul_one];rw[show e-((0:Nat):Int)=e by simp,show e-(k:Int)-((0:Nat):Int)=e-k by simp,n,E,w.1,w.2,t];obtain⟨H,I⟩:e-(k:Int)+((d+k:Nat):Int)=e+(d:Int)/\((a.length+k:Nat):Int)+(e-(k:Int))=(a.length:Int)+e:=by omega
 rw[H,I]
theorem LZ(p:Nat)(i:1<=p)(c d f:Int)(neg:Bool)(a b:AG)(e:Int)(rest g:Bool)(h:Int)(k:Nat)(r:Int)(j:AJ a)(l:a≠[0])(m:AJ b)(q:vl b=vl a*10^k+r)(s:0<=r)(t:r<10^k)
 (u:rest=true->r≠0\/g=true) (v:rest=false->r=0/\g=false)
 (n:p+1<=a.length) (o:a.length+k<=198):CJ p c d f neg a e rest h=CJ p c d f neg b (e-k) g h:=by
 cases rest with
 |true=>exact Jn p i c d f neg a b e g h k r j l m q s t (u rfl) n o
 |false=>
  obtain⟨rfl,rfl⟩:=v rfl;exact Vx p i c d f neg a b e h k j l m (by omega) n o
def Pv(a:Int)(neg:Bool)(v:Int)(k:Nat):Int:=BC a neg v (min k 200) false
def ew(v:Int)(k:Nat):Bool:=BJ v (min k 200) false
theorem Rl(d:Int)(neg:Bool)(k:Nat):BC d neg 0 k false=0/\BJ 0 k false=false:=by
 have a:(0:Int)%10^k=0:=Int.zero_emod _;have e:(0:Int)/10^k=0:=Int.zero_ediv _;have b:BJ 0 k false=false:=by unfold BJ;rw[a];rfl
 refine⟨?_,b⟩;have g:=AL k;have f:BU 0 (10^k) false k=-1:=by
  unfold BU;by_cases c:k=0
  ·rw[zyp c]
  ·rw[zyn c,zyp (by omega)]
 unfold BC Ft;rw[e,a,b,f];simp[jl,mI]
theorem Xw(a:Int)(neg:Bool)(v:Int)(k:Nat)(b:0<v)(c:v<10^100)(d:200<k):Pv a neg v k=BC a neg 1 200 true/\ew v k=true:=by
 unfold Pv ew;rw[show min k 200=200 by omega];exact Rk a neg v 200 100 b c (by omega)
theorem kE(b:Int)(neg:Bool)(v:Int)(k:Nat)(p:Nat)(d:0<=v)(g:v<10^p)(h:1<=p)(i:1<=k):0<=Pv b neg v k/\Pv b neg v k<=10^(p-1):=by
 have c:=AL (min k 200);have a:=Int.ediv_nonneg d (CP c);have j:v/10^(min k 200)<10^(p-1):=by
  refine Int.ediv_lt_of_lt_mul c ?_;have f:=AI 1 (min k 200) (by omega);have e:(10:Int)^p=10^(p-1)*10:=by rw[<-Int.pow_succ,show(p-1).succ=p by omega]
  have:=NH f (CP (AL (p-1)));rw[show(10:Int)^1=10 from rfl] at this;omega
 unfold Pv BC;split<;>omega
theorem RM(n:Int)(p:Nat)(b:0<=n)(a:n<10^p)(c:1<=p)(d:p<=500):(nt n).length<=p:=by
 have:=B5 n b (FS a (AI _ _ d));exact Bu _ this.1 p c (by rw[this.2];exact a)
theorem fj(c:Int)(neg:Bool)(v:Int)(k:Nat)(p:Nat)(f:0<=v)(g:v<10^p)(d:1<=p)(i:p<=300)(h:1<=k):(nt (Pv c neg v k)).length<=p/\AJ (nt (Pv c neg v k)):=by
 obtain⟨a,b⟩:=kE c neg v k p f g d h;have e:(10:Int)^p=10^(p-1)*10:=by rw[<-Int.pow_succ,show(p-1).succ=p by omega]
 have q:=AL (p-1);exact⟨RM _ p a (by omega) d (by omega),(B5 _ a (FS (by omega:Pv c neg v k<10^p) (AI _ _ (by omega)))).1⟩
end Go.Proofs.YteofommckgeemaaGreatDoor
