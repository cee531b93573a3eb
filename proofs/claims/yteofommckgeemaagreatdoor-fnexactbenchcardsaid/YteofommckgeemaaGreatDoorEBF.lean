/- Steps. -/
import Derived.Test.YteofommckgeemaaGreatDoorEAO
import Derived.Test.YteofommckgeemaaGreatDoorEBC
import Derived.Test.YteofommckgeemaaGreatDoorEAT
import Derived.Test.YteofommckgeemaaGreatDoorEAY
import Derived.Test.YteofommckgeemaaGreatDoorEAZ
import Derived.Test.YteofommckgeemaaGreatDoorEBE
namespace Go.Proofs.YteofommckgeemaaGreatDoor
open Go.RowKit Go.Proofs.Tryz
set_option linter.unusedVariables false
set_option linter.unusedSimpArgs false
set_option maxRecDepth 100000
set_option maxHeartbeats 8000000
def Pk(f d:Int)(c:Bool)(a:Int)(e:AG)(g:Bool)(b:Int)(h:AG):Bool×(Int×Int×AB×Int):=
 if e=[0]/\h=[0] then((if c=g then c else decide (d=3)),Al f d (if c=g then c else decide (d=3)) [0] (min a b) false (min a b))
 else if e=[0] then(g,Al f d g h b false (min a b))
 else if h=[0] then(c,Al f d c e a false (min a b))
 else if (e.length:Int)+a<(h.length:Int)+b then GC f d g b h c a e (min a b)
 else GC f d c a e g b h (min a b)
theorem Lf(f l:Int)(u:Et f l)(m:Int)(n:Bool)(a:Int)(b:AG)(o:Int)(p:Bool)(c:Int)(d:AG)(q:Int)(j:Bool)(e:Int)(g:AG)(r:Int)(k:Bool)(h:Int)(i:AG)(M:Int)(w:AA)
 (v:min a c=M) (x:AJ b) (y:b≠[0]) (z:AJ d) (A:d≠[0]) (B:b.length<=100) (C:d.length<=100) (D:-13000<=a/\a<=13000) (E:-13000<=c/\c<=13000)
 (F:((b.length:Int)+a<(d.length:Int)+c/\q=o/\j=p/\e=c/\g=d/\r=m/\k=n/\h=a/\i=b)\/(¬(b.length:Int)+a<(d.length:Int)+c/\q=m/\j=n/\e=a/\g=b/\r=o/\k=p/\h=c/\i=d)):
 cB 191 #[.int .i64 f,.int .i64 l,AH m n a (tx b),AH o p c (tx d)] w (BE (GC f l j e g k h i M).1 (GC f l j e g k h i M).2):=by
 unfold GC;by_cases s:180<(g.length:Int)+e-M
 ·rw[zyp s];dsimp only;exact TE f l u m n a b o p c d q j e g r k h i M w v x y z A B C D E F s
 ·rw[zyn s];by_cases t:j=k
  ·rw[zyp t];dsimp only;exact Qy f l u m n a b o p c d q j e g r k h i M w v x y z A B C D E F s t
  ·rw[zyn t];by_cases G:vl g*10^(e-M).toNat=vl i*10^(h-M).toNat
   ·rw[zyp G];dsimp only;exact Qv f l u m n a b o p c d q j e g r k h i M w v x y z A B C D E F s t G
   ·rw[zyn G];by_cases H:vl i*10^(h-M).toNat<vl g*10^(e-M).toNat
    ·rw[zyp H];dsimp only;exact Qx f l u m n a b o p c d q j e g r k h i M w v x y z A B C D E F s t H
    ·rw[zyn H];dsimp only;exact Qw f l u m n a b o p c d q j e g r k h i M w v x y z A B C D E F s t (by omega)
theorem TC(f i:Int)(n:Et f i)(j:Int)(e:Bool)(a:Int)(d:AG)(k:Int)(g:Bool)(b:Int)(c:AG)(w:AA)
 (r:AJ d) (s:AJ c) (t:d.length<=100) (u:c.length<=100) (o:-13000<=a/\a<=13000) (p:-13000<=b/\b<=13000):
 cB 191 #[.int .i64 f,.int .i64 i,AH j e a (tx d),AH k g b (tx c)] w (BE (Pk f i e a d g b c).1 (Pk f i e a d g b c).2):=by
 unfold Pk;by_cases m:d=[0]
 ·by_cases l:c=[0]
  ·subst m l;rw[zyp ⟨rfl,rfl⟩];dsimp only;exact WJ f i n j e a k g b w o p
  ·subst m;rw[zyn λh=>l h.2,zyp rfl];dsimp only;exact WH f i n j e a k g b c w s l u o p
 ·rw[zyn λh=>m h.1,zyn m];by_cases l:c=[0]
  ·subst l;rw[zyp rfl];dsimp only;exact WI f i n j e a k g b d w r m t o p
  ·rw[zyn l];by_cases q:(d.length:Int)+a<(c.length:Int)+b
   ·rw[zyp q];exact Lf f i n j e a d k g b c k g b c j e a d (min a b) w rfl r m s l t u o p (.inl ⟨q,rfl,rfl,rfl,rfl,rfl,rfl,rfl,rfl⟩)
   ·rw[zyn q];exact Lf f i n j e a d k g b c j e a d k g b c (min a b) w rfl r m s l t u o p (.inr ⟨q,rfl,rfl,rfl,rfl,rfl,rfl,rfl,rfl⟩)
abbrev R5:=Bool×(Int×Int×AB×Int)
def Bd(f e:Int)(c:Int)(a:Bool)(g:Int)(h:AG)(d:Int)(b:Bool)(i:Int)(j:AG):R5:=
 if c=2/\d=2/\a≠b then(false,(3,0,{data:=#[]},1))
 else if c=2 then(a,(2,0,{data:=#[]},0))
 else if d=2 then(b,(2,0,{data:=#[]},0))
 else Pk f e a g h b i j
theorem On(f j:Int)(b:Int)(c:AB)(d:Int)(e:AB)(w:AA):
 cB 126 #[.int .i64 f,.int .i64 j,AH 2 false b c,AH 2 true d e] w (BE false (3,0,{data:=#[]},1)):=by
 have g:=zq (BP w 2 false b c 2 true d e);have h:=zq λX=>Aq X;go_enter func126,ntmps126;go_wp2_with fail;refine cm (h _) λl i=>?_;have a:=zq (Ar g i);clear i g h;go_wp2_with (refine sR a.1 3 _ 0 ⟨#[]⟩ 1 ?_);have k:=λy=>A1 a.1 3 y 0 ⟨#[]⟩ 1;refine rR (k _) ?_;exact⟨rfl,AC a.2 (by omega) _⟩
theorem Oo(f j:Int)(b:Int)(c:AB)(d:Int)(e:AB)(w:AA):
 cB 126 #[.int .i64 f,.int .i64 j,AH 2 true b c,AH 2 false d e] w (BE false (3,0,{data:=#[]},1)):=by
 have g:=zq (BP w 2 true b c 2 false d e);have h:=zq λX=>Aq X;go_enter func126,ntmps126;go_wp2_with fail;refine cm (h _) λl i=>?_;have a:=zq (Ar g i);clear i g h;go_wp2_with (refine sR a.1 3 _ 0 ⟨#[]⟩ 1 ?_);have k:=λy=>A1 a.1 3 y 0 ⟨#[]⟩ 1;refine rR (k _) ?_;exact⟨rfl,AC a.2 (by omega) _⟩
theorem Op(f j:Int)(b:Int)(c:AB)(d:Int)(e:AB)(w:AA):
 cB 126 #[.int .i64 f,.int .i64 j,AH 2 false b c,AH 2 false d e] w (BE false (2,0,{data:=#[]},0)):=by
 have g:=zq (BP w 2 false b c 2 false d e);have h:=zq λX=>BG false X;go_enter func126,ntmps126;go_wp2_with fail;refine cm (h _) λl i=>?_;have a:=zq (Ar g i);clear i g h;go_wp2_with (refine sR a.1 2 _ 0 ⟨#[]⟩ 0 ?_);have k:=λy=>A1 a.1 2 y 0 ⟨#[]⟩ 0;refine rR (k _) ?_;exact⟨rfl,AC a.2 (by omega) _⟩
theorem Oq(f j:Int)(b:Int)(c:AB)(d:Int)(e:AB)(w:AA):
 cB 126 #[.int .i64 f,.int .i64 j,AH 2 true b c,AH 2 true d e] w (BE true (2,0,{data:=#[]},0)):=by
 have g:=zq (BP w 2 true b c 2 true d e);have h:=zq λX=>BG true X;go_enter func126,ntmps126;go_wp2_with fail;refine cm (h _) λl i=>?_;have a:=zq (Ar g i);clear i g h;go_wp2_with (refine sR a.1 2 _ 0 ⟨#[]⟩ 0 ?_);have k:=λy=>A1 a.1 2 y 0 ⟨#[]⟩ 0;refine rR (k _) ?_;exact⟨rfl,AC a.2 (by omega) _⟩
theorem Yt(f l:Int)(a c:Bool)(d:Int)(e:AB)(g:Int)(h:AB)(w:AA):
 cB 126 #[.int .i64 f,.int .i64 l,AH 2 a d e,AH 1 c g h] w (BE a (2,0,{data:=#[]},0)):=by
 have i:=zq (BP w 2 a d e 1 c g h);have j:=zq λX=>BG a X;go_enter func126,ntmps126;go_wp2_with fail;refine cm (j _) λn k=>?_;have b:=zq (Ar i k);clear k i j;go_wp2_with (refine sR b.1 2 _ 0 ⟨#[]⟩ 0 ?_);have m:=λy=>A1 b.1 2 y 0 ⟨#[]⟩ 0;refine rR (m _) ?_;exact⟨rfl,AC b.2 (by omega) _⟩
theorem Yu(f l:Int)(c a:Bool)(d:Int)(e:AB)(g:Int)(h:AB)(w:AA):
 cB 126 #[.int .i64 f,.int .i64 l,AH 1 c d e,AH 2 a g h] w (BE a (2,0,{data:=#[]},0)):=by
 have i:=zq (BP w 1 c d e 2 a g h);have j:=zq λX=>BG a X;go_enter func126,ntmps126;go_wp2_with fail;refine cm (j _) λn k=>?_;have b:=zq (Ar i k);clear k i j;go_wp2_with (refine sR b.1 2 _ 0 ⟨#[]⟩ 0 ?_);have m:=λy=>A1 b.1 2 y 0 ⟨#[]⟩ 0;refine rR (m _) ?_;exact⟨rfl,AC b.2 (by omega) _⟩
theorem S9(f i:Int)(a b:Bool)(c:Int)(d:AB)(e:Int)(g:AB)(w:AA)(j:Bool)(F:Int×Int×AB×Int)
 (k:Hid (cA 191 #[.int .i64 f,.int .i64 i,AH 1 a c d,AH 1 b e g] (BE j F))):
 cB 126 #[.int .i64 f,.int .i64 i,AH 1 a c d,AH 1 b e g] w (BE j F):=by
 have l:=zq (BP w 1 a c d 1 b e g);obtain⟨m,n,o,p⟩:=F;go_enter func126,ntmps126;go_wp2_with fail;refine cm (k _) λs q=>?_;have h:=zq (Ar l q);clear q l k;go_wp2_with (refine sR h.1 m _ n o p ?_);have r:=λy=>A1 h.1 m y n o p;refine rR (r _) ?_;exact⟨rfl,AC h.2 (by omega) _⟩
theorem IP(f e:Int)(l:Et f e)(i:Int)(g:Bool)(a:Int)(b:AG)(j:Int)(h:Bool)(c:Int)(d:AG)(w:AA)
 (m:i=1\/i=2) (k:j=1\/j=2) (n:i=1->AJ b/\b.length<=100/\-13000<=a/\a<=13000) (o:j=1->AJ d/\d.length<=100/\-13000<=c/\c<=13000):
 cB 126 #[.int .i64 f,.int .i64 e,AH i g a (tx b),AH j h c (tx d)] w (BE (Bd f e i g a b j h c d).1 (Bd f e i g a b j h c d).2):=by
 unfold Bd;rcases m with rfl|rfl
 ·rcases k with rfl|rfl
  ·rw[zyn (by simp),zyn (by decide),zyn (by decide)];obtain⟨p,q,r⟩:=n rfl;obtain⟨s,t,u⟩:=o rfl;exact S9 f e g h a (tx b) c (tx d) w _ _ (λX=>TC f e l 1 g a b 1 h c d X p s q t r u)
  ·rw[zyn (by simp),zyn (by decide),zyp rfl];exact Yu f e g h a (tx b) c (tx d) w
 ·rcases k with rfl|rfl
  ·rw[zyn (by simp),zyp rfl];exact Yt f e g h a (tx b) c (tx d) w
  ·cases g<;>cases h
   ·rw[zyn (by simp),zyp rfl];exact Op f e a (tx b) c (tx d) w
   ·rw[zyp ⟨rfl,rfl,by decide⟩];exact On f e a (tx b) c (tx d) w
   ·rw[zyp ⟨rfl,rfl,by decide⟩];exact Oo f e a (tx b) c (tx d) w
   ·rw[zyn (by simp),zyp rfl];exact Oq f e a (tx b) c (tx d) w
def AX{α:Type}(a b:α)(i:Nat):α:=if i=0 then a else b
theorem We{W:AA}{g:Nat}{T:TypeId}{a:Int}{b:Bool}{c:Int}{d:AB}{e:Int}{f:Bool}{j:Int}{k:AB}(h:W.heap[g]?=some (.cells #[.int .i64 a,.bool b,.int .i64 c,.string d,.int .i64 e,.bool f,.int .i64 j,.string k] T (0,0))):
 EY W g 2 (AX a e) (AX b f) (AX c j) (AX d k):=λi l=>by
 match i,l with
 |0,_=>exact⟨(AW h 0).trans rfl,(AW h 1).trans rfl,(AW h 2).trans rfl,(AW h 3).trans rfl⟩
 |1,_=>exact⟨(AW h 4).trans rfl,(AW h 5).trans rfl,(AW h 6).trans rfl,(AW h 7).trans rfl⟩
theorem SU.kinds{w W:AA}{a:Int}{c:Bool}{d:Int}{e:AB}{b:Int}{f:Bool}{g:Int}{i:AB}(h:SU w W a c d e b f g i):W.cell? ⟨w.heap.size,0,none⟩=some (.int .i64 a)/\W.cell? ⟨w.heap.size+1,0,none⟩=some (.int .i64 b):=
 ⟨(AW h.1 0).trans rfl,(AW h.2.1 0).trans rfl⟩
theorem SU.alloc{w W:AA}{a:Int}{b:Bool}{c:Int}{d:AB}{e:Int}{f:Bool}{g:Int}{i:AB}(h:SU w W a b c d e f g i)(o:Obj):SU w (W.alloc o) a b c d e f g i:=h.next ((BI _ _).alloc (AS _) o)
theorem CK(w:AA):(Instr.build 90 #[]).run prog w=.ok (BA 0 false 0 {data:=#[]} 0) w:=run_build w _ _ _ (by kernel_rfl)
theorem lG(g:Nat->Bool)[Decidable (∀i,i<2->g i=true)]:decide (∀i,i<2->g i=true)=(g 0&&g 1):=by
 by_cases h:∀i,i<2->g i=true
 ·rw[Bz h,h 0 (by decide),h 1 (by decide)];rfl
 ·rw[By h];cases h0:g 0 with
  |false=>rfl
  |true=>
   cases h1:g 1 with
   |false=>rfl
   |true=>exact absurd (λi a=>by
    match i,a with
    |0,_=>exact h0
    |1,_=>exact h1) h
def Hs(f a:Int)(b:Int)(c:Bool)(d:Int)(e:AB)(g:Int)(h:Bool)(i:Int)(j:AB):Bool:=decide (1<=a/\a<=5)&&(AQ f b c d e&&AQ f g h i j)
def Dg(f c:Int)(a:Int)(d:Bool)(e:Int)(g:AB)(b:Int)(h:Bool)(i:Int)(j:AB):R5:=
 if Hs f c a d e g b h i j then(if GB 2 (AX a b) then(false,(3,0,{data:=#[]},DL 2 (AX a b))) else Bd f c a d e (dl g) b h i (dl j))
 else(false,(0,0,{data:=#[]},0))
theorem Z3(f l:Int)(a:Int)(e:Bool)(h:Int)(c:AB)(b:Int)(j:Bool)(k:Int)(d:AB)(w:AA)(G:c.size<=4611686018427387904)(H:d.size<=4611686018427387904)
 (r:Hid (Hs f l a e h c b j k d=true->GB 2 (AX a b)=false->cA 126 #[.int .i64 f,.int .i64 l,AH a e h c,AH b j k d] (BE (Bd f l a e h (dl c) b j k (dl d)).1 (Bd f l a e h (dl c) b j k (dl d)).2))):
 cB 54 #[.int .i64 f,.int .i64 l,AH a e h c,AH b j k d] w (BE (Dg f l a e h c b j k d).1 (Dg f l a e h c b j k d).2):=by
 have I:=zq (BP w a e h c b j k d);have J:Hid (∀(g:Nat) X,g<X.heap.size->EY X g 2 (AX a b) (AX e j) (AX h k) (AX c d)->cB 124 #[.int .i64 f,.int .i64 l,.slice (some ⟨g,0,none⟩) 2 2] X (.bool (Hs f l a e h c b j k d))):=λg X z A=>
  (DH f l 2 g (AX a b) (AX e j) (AX h k) (AX c d) X (by decide) z A (λi W=>by match i,W with
    |0,_=>exact G
    |1,_=>exact H)).mono (by
     rintro x w' ⟨rfl,Y⟩;exact⟨by rw[lG (λi=>AQ f (AX a b i) (AX e j i) (AX h k i) (AX c d i))];rfl,Y⟩)
 have B:Hid (∀(g:Nat) X,g<X.heap.size->EY X g 2 (AX a b) (AX e j) (AX h k) (AX c d)->cB 125 #[.slice (some ⟨g,0,none⟩) 2 2] X (.tuple #[BA 3 false 0 {data:=#[]} (DL 2 (AX a b)),.bool (GB 2 (AX a b))])):=λg X z A=>BZ 2 g _ _ _ _ X (by decide) z A;obtain⟨R,C⟩:=zxe (Dg f l a e h c b j k d);have s:=zq C;rw[C];clear C G H;have Z:=CK;go_enter func54,ntmps54;have K:(EW w a e h c b j k d).heap.size=w.heap.size+1+1+1:=by simp
 have D:=Bi (EW w a e h c b j k d) (.cells #[.int .i64 a,.bool e,.int .i64 h,.string c,.int .i64 b,.bool j,.int .i64 k,.string d] 78);rw[K] at D;have L:((EW w a e h c b j k d).alloc (.cells #[.int .i64 a,.bool e,.int .i64 h,.string c,.int .i64 b,.bool j,.int .i64 k,.string d] 78)).heap.size=w.heap.size+1+1+1+1:=by simp
 have n:Hid (EY ((EW w a e h c b j k d).alloc (.cells #[.int .i64 a,.bool e,.int .i64 h,.string c,.int .i64 b,.bool j,.int .i64 k,.string d] 78)) (w.heap.size+1+1+1) 2 (AX a b) (AX e j) (AX h k) (AX c d)/\w.heap.size+1+1+1<((EW w a e h c b j k d).alloc (.cells #[.int .i64 a,.bool e,.int .i64 h,.string c,.int .i64 b,.bool j,.int .i64 k,.string d] 78)).heap.size):=⟨We D,by rw[L];omega⟩;clear K D L;go_wp2_with fail;refine cm (J (w.heap.size+1+1+1) _ n.2 n.1) λM t=>?_;have p:=zq ((I.alloc _).next t);have u:=Ab (n.1.below t n.2) (DU n.2 t.size);clear t n I J;cases hO:Hs f l a e h c b j k d with
 |false=>
  have o:Hid (R=(false,(0,0,{data:=#[]},0))):=by show _=_;rw[<-s];unfold Dg;rw[hO];rfl
  have m:Hid (Z5 M (w.heap.size+2)/\AD w.heap.size w M):=⟨p.2.2.1,p.2.2.2.1⟩;clear hO r B p u;go_wp2_with (refine sR m.1 0 false 0 ⟨#[]⟩ 0 ?_);refine rR (A1 m.1 0 false 0 ⟨#[]⟩ 0) ?_;exact⟨by rw[o],AC m.2 (by omega) _⟩
 |true=>
  go_wp2_with fail;refine cm (B (w.heap.size+1+1+1) _ u.2 u.1) λE N=>?_;have v:=zq (p.next N);clear N u p B Z;cases hB:GB 2 (AX a b) with
  |true=>
   have o:Hid (R=(false,(3,0,{data:=#[]},DL 2 (AX a b)))):=by show _=_;rw[<-s];unfold Dg;rw[hO,hB];rfl
   clear hO hB r;generalize DL 2 (AX a b)=q at*
   have m:Hid (Z5 (E.alloc (Ei 3 false 0 ⟨#[]⟩ q)) (w.heap.size+2)/\AD w.heap.size w (E.alloc (Ei 3 false 0 ⟨#[]⟩ q))):=⟨(v.out.alloc _).2.2.1,(v.out.alloc _).2.2.2.1⟩;go_wp2_with (refine sR m.1 3 false 0 ⟨#[]⟩ q ?_);refine rR (A1 m.1 3 false 0 ⟨#[]⟩ q) ?_;exact⟨by rw[o],AC m.2 (by omega) _⟩
  |false=>
   have o:Hid (R=Bd f l a e h (dl c) b j k (dl d)):=by show _=_;rw[<-s];unfold Dg;rw[hO,hB];rfl
   have F:=r hO hB;rw[<-o] at F;have O:=zq F;clear hO hB r F o s;obtain⟨P,Q,S,T,U⟩:=R;have y:Hid (SU w (E.alloc (Ei 3 false 0 ⟨#[]⟩ (DL 2 (AX a b)))) a e h c b j k d):=v.out.alloc _;generalize DL 2 (AX a b)=q at*
   obtain⟨⟨q1,q2,q3⟩,r1,r2,r3⟩:=y.cells;obtain⟨q0,r0⟩:=y.kinds;clear v;go_wp2_with fail;refine cm (O _) λwd V=>?_;have m:=zq (Ar y V);clear V y O q0 q1 q2 q3 r0 r1 r2 r3;go_wp2_with (refine sR m.1 Q P S T U ?_);refine rR (A1 m.1 Q P S T U) ?_;exact⟨rfl,AC m.2 (by omega) _⟩
theorem Xu(s:AB)(h:s.size=0):s=tx (dl s)/\dl s=[]:=by
 have e:s={data:=#[]}:=by
  apply De;exact Array.eq_empty_of_size_eq_zero h
 subst e;exact⟨by apply De;rw[AR];rfl,rfl⟩
theorem Av(f k:Int)(b:Bool)(e:Int)(s:AB)(h:AQ f k b e s=true)(l:k≠3)(m:k≠4):
 (f=64\/f=128)/\s=tx (dl s)/\(k=1\/k=2)/\(k=1->AJ (dl s)/\((dl s).length:Int)<=AF f/\AV f<=e/\e<=Ad f):=by
 unfold AQ at h;by_cases a:AF f=0
 ·rw[zyp a] at h;cases h
 rw[zyn a] at h;have d:f=64\/f=128:=by
  unfold AF at a;by_cases c:f=64
  ·exact .inl c
  ·rw[zyn c] at a;by_cases g:f=128
   ·exact .inr g
   ·rw[zyn g] at a;exact absurd rfl a
 by_cases i:k=1
 ·subst i;rw[zyp rfl] at h;simp only[Bool.and_eq_true,decide_eq_true_eq] at h;obtain⟨n,o,p⟩:=h;obtain⟨q,r,t⟩:=Fk (AF f) s n;exact⟨d,t,.inl rfl,λ_=>⟨q,r,o,p⟩⟩
 ·rw[zyn i] at h;by_cases j:k=2
  ·subst j;rw[zyp rfl] at h;simp only[Bool.and_eq_true] at h;have u:s.size=0:=by
    have:=h.2;rw[ByteArray.toList_eq,List.isEmpty_iff] at this;show s.data.size=0
    rw[<-Array.length_toList,this];rfl
   exact⟨d,(Xu s u).1,.inr rfl,λc=>by cases c⟩
  ·rw[zyn j,zyn (λc=>c.elim l m)] at h;cases h
theorem Z2(f g:Int)(s:(f=64\/f=128)->Et f g)(a:Int)(i:Bool)(j:Int)(d:AB)(b:Int)(k:Bool)(m:Int)(e:AB)(w:AA)(t:d.size<=4611686018427387904)(u:e.size<=4611686018427387904):
 cB 54 #[.int .i64 f,.int .i64 g,AH a i j d,AH b k m e] w (BE (Dg f g a i j d b k m e).1 (Dg f g a i j d b k m e).2):=by
 refine Z3 f g a i j d b k m e w t u ?_;intro o v X;unfold Hs at o;simp only[Bool.and_eq_true] at o;obtain⟨-,z,A⟩:=o;have n:=of_decide_eq_false v;have p:a≠3/\a≠4:=⟨λh=>n ⟨0,by decide,.inl h⟩,λh=>n ⟨0,by decide,.inr h⟩⟩;have q:b≠3/\b≠4:=⟨λh=>n ⟨1,by decide,.inl h⟩,λh=>n ⟨1,by decide,.inr h⟩⟩;obtain⟨r,B,C,D⟩:=Av f a i j d z p.1 p.2;obtain⟨-,E,F,G⟩:=Av f b k m e A q.1 q.2;have H:=Li f r;have:=IP f g (s r) a i j (dl d) b k m (dl e) X C F (λh=>by obtain⟨c,l,x,y⟩:=D h;exact⟨c,by omega,by omega,by omega⟩) (λh=>by obtain⟨c,l,x,y⟩:=G h;exact⟨c,by omega,by omega,by omega⟩);rw[<-B,<-E] at this;exact this
theorem DJ{c:Func}{p t:Tmp}{b:Nat}{x y z u:AK}(h:c.results=#[.cell p 78,.tmp t])(a:Array AK)(w:AA)(d:a[p]?.getD undef=.pointer (some ⟨b,0,none⟩))
 (e:w.cell? ⟨b,0,none⟩=some x) (f:w.cell? ⟨b,1,none⟩=some y) (g:w.cell? ⟨b,2,none⟩=some z) (i:w.cell? ⟨b,3,none⟩=some u):(results c a).run prog w=.ok (.tuple #[.agg #[x,y,z,u],a.getD t undef]) w:=by
 simp[results,h,d,go_sem,e,f,g,i]
theorem GV(f g:Bool)(a b:Int)(c d:AG)(w:AA)(r:AJ c)(s:AJ d)(B:c.length<=34)(D:d.length<=34)(E:-7000<=a/\a<=7000)(o:-7000<=b/\b<=7000):
 cB 128 #[AH 1 f a (tx c),AH 1 g b (tx d)] w (.tuple #[AH 1 (!(f==g)) (a+b) (tx (nt (vl c*vl d))),.bool true]):=by
 have t:Hid (cA 192 #[.string (tx c),.string (tx d)] (.string (tx (nt (vl c*vl d))))):=λX=>by
  refine(pH c d X r s (by omega) (by omega)).mono ?_;rintro e F ⟨R,rfl,G,H,Q,I⟩;rw[BW R (vl c*vl d) G H (by omega)];exact⟨rfl,I⟩
 have S:=zw (a+b) (by omega);clear r s B D E o;obtain⟨h,u⟩:=zxe (!(f==g));rw[u];generalize tx (nt (vl c*vl d))=i at*
 generalize tx c=j at*
 generalize tx d=k at*
 have v:Hid (cA 130 #[.bool h,.string i,.int .i64 (a+b)] (AH 1 h (a+b) i)):=λX=>Aj h i (a+b) X;have l:Hid (N3 w 1 f a j 1 g b k (((w.alloc (AY 1 f a j)).alloc (AY 1 g b k)).alloc VU)):=GZ w 1 f a j 1 g b k;go_enter func128,ntmps128;go_upto_region 5 with fail;clear u;generalize ((w.alloc (AY 1 f a j)).alloc (AY 1 g b k)).alloc VU=w0 at*
 have x:=dR w0;refine AM (C:=AD w0.heap.size w0) 11 x.out ?_;simp only[Hy,List.take_zero,Ia,List.drop_zero];repeat (refine wpQuiet_step (λK m=>?_);go_simp;first|(refine m _ ?_;clear m K)|(apply Exists.intro;refine⟨λJ p=>?_,m _ ?_⟩;(first|exact rfl|exact Calls.class_of (t.out J) (λF o=>BQ p o)|(obtain⟨L,M,N,O,P⟩:=(l.out.next p).1.cells;go_simp;exact rfl)|(obtain⟨L,M,N,O,P⟩:=(l.out.next p).2.1.cells;go_simp;exact rfl));clear m K))
 refine wpQuiet_nil ?_;intro T y;have z:=zq (l.next y);clear y l x t;go_wp2_with fail;refine cm (v _) λU A=>?_;have q:=zq (z.next A);clear A z v;go_wp2_with (refine sN q.2.2.1 1 h (a+b) i ?_);have n:=(q.2.2.1.row (.int .i64 1) (.bool h) (.int .i64 (a+b)) (.string i)).cells;refine Do (DJ rfl _ _ rfl n.1 n.2.1 n.2.2.1 n.2.2.2.1) rfl ?_;exact⟨rfl,AC q.2.2.2 (by omega) _⟩
theorem NR{s:AB}(h:(s.toList==[48])=true):s={data:=#[48]}:=by
 have:=eq_of_beq h;rw[ByteArray.toList_eq] at this;apply De;apply Array.ext';exact this
def F8(a:Int)(b:AB):Bool:=decide (a=1)&&(b.toList==[48])
theorem EN(d:Int)(j:Bool)(m:Int)(f:AB)(e:Int)(k:Bool)(n:Int)(g:AB)(w:AA)(o:(d=1/\e=2)\/(d=2/\e=1)\/(d=2/\e=2)):
 cB 128 #[AH d j m f,AH e k n g] w (.tuple #[AH 2 (!(j==k)) 0 {data:=#[]},.bool (!(F8 d f||F8 e g))]):=by
 have b:=zq (GZ w d j m f e k n g);obtain⟨c,p⟩:=zxe (!(j==k));rw[p];have q:=EA c;obtain⟨h,l⟩:=zxe (!(F8 d f||F8 e g));have i:=zq l;rw[l];clear l;rcases o with⟨rfl,rfl⟩|⟨rfl,rfl⟩|⟨rfl,rfl⟩
 ·cases hz:(f.toList==[48]) with
  |true=>
   have E:Hid (h=false):=by show _=_;rw[<-i];simp[F8,hz]
   obtain rfl:=NR hz;clear hz;go_enter func128,ntmps128;go_upto_region 4 with fail;go_wp2_with (refine sN b.2.2.1 2 c 0 ⟨#[]⟩ ?_);have a:=(b.2.2.1.row (.int .i64 2) (.bool c) (.int .i64 0) (.string ⟨#[]⟩)).cells;refine Do (DJ rfl _ _ rfl a.1 a.2.1 a.2.2.1 a.2.2.2.1) rfl ?_;exact⟨by rw[E];rfl,AC b.2.2.2 (by omega) _⟩
  |false=>
   have E:Hid (h=true):=by show _=_;rw[<-i];simp[F8,hz]
   go_enter func128,ntmps128;go_upto_region 4 with fail;go_wp2_with (refine sN b.2.2.1 2 c 0 ⟨#[]⟩ ?_);have a:=(b.2.2.1.row (.int .i64 2) (.bool c) (.int .i64 0) (.string ⟨#[]⟩)).cells;refine Do (DJ rfl _ _ rfl a.1 a.2.1 a.2.2.1 a.2.2.2.1) rfl ?_;exact⟨by rw[E];rfl,AC b.2.2.2 (by omega) _⟩
 ·cases hz:(g.toList==[48]) with
  |true=>
   have E:Hid (h=false):=by show _=_;rw[<-i];simp[F8,hz]
   obtain rfl:=NR hz;clear hz;go_enter func128,ntmps128;go_upto_region 4 with fail;go_wp2_with (refine sN b.2.2.1 2 c 0 ⟨#[]⟩ ?_);have a:=(b.2.2.1.row (.int .i64 2) (.bool c) (.int .i64 0) (.string ⟨#[]⟩)).cells;refine Do (DJ rfl _ _ rfl a.1 a.2.1 a.2.2.1 a.2.2.2.1) rfl ?_;exact⟨by rw[E];rfl,AC b.2.2.2 (by omega) _⟩
  |false=>
   have E:Hid (h=true):=by show _=_;rw[<-i];simp[F8,hz]
   go_enter func128,ntmps128;go_upto_region 4 with fail;go_wp2_with (refine sN b.2.2.1 2 c 0 ⟨#[]⟩ ?_);have a:=(b.2.2.1.row (.int .i64 2) (.bool c) (.int .i64 0) (.string ⟨#[]⟩)).cells;refine Do (DJ rfl _ _ rfl a.1 a.2.1 a.2.2.1 a.2.2.2.1) rfl ?_;exact⟨by rw[E];rfl,AC b.2.2.2 (by omega) _⟩
 ·have E:Hid (h=true):=by show _=_;rw[<-i];simp[F8]
  go_enter func128,ntmps128;go_upto_region 4 with fail;go_wp2_with (refine sN b.2.2.1 2 c 0 ⟨#[]⟩ ?_);have a:=(b.2.2.1.row (.int .i64 2) (.bool c) (.int .i64 0) (.string ⟨#[]⟩)).cells;refine Do (DJ rfl _ _ rfl a.1 a.2.1 a.2.2.1 a.2.2.2.1) rfl ?_;exact⟨by rw[E];rfl,AC b.2.2.2 (by omega) _⟩
def Nz(f:Int)(k:Int)(e:Int)(s:AB):Prop:=(f=64\/f=128)/\s=tx (dl s)/\(k=1\/k=2)/\(k=1->AJ (dl s)/\((dl s).length:Int)<=AF f/\AV f<=e/\e<=Ad f)/\(k=2->e=0/\s={data:=#[]})
theorem Tq(f k:Int)(b:Bool)(e:Int)(s:AB)(h:AQ f k b e s=true)(i:k≠3)(j:k≠4):Nz f k e s:=by
 obtain⟨a,l,c,d⟩:=Av f k b e s h i j;refine⟨a,l,c,d,λm=>?_⟩;subst m;unfold AQ at h;by_cases g:AF f=0
 ·rw[zyp g] at h;cases h
 rw[zyn g,zyn (by decide),zyp rfl] at h;simp only[Bool.and_eq_true,decide_eq_true_eq] at h;refine⟨h.1,?_⟩;have n:s.size=0:=by
  have:=h.2;rw[ByteArray.toList_eq,List.isEmpty_iff] at this;show s.data.size=0
  rw[<-Array.length_toList,this];rfl
 apply De;exact Array.eq_empty_of_size_eq_zero n
theorem U4{f m:Int}{k:Int}{b:Bool}{e:Int}{s:AB}(h:BO f m 1 (λ_=>k) (λ_=>b) (λ_=>e) (λ_=>s)=true)(d:GB 1 (λ_=>k)=false):(1<=m/\m<=5)/\Nz f k e s:=by
 unfold BO at h;simp only[Bool.and_eq_true,decide_eq_true_eq] at h;have a:=of_decide_eq_false d;exact⟨h.1,Tq f k b e s (h.2 0 (by decide)) (λc=>a ⟨0,by decide,.inl c⟩) (λc=>a ⟨0,by decide,.inr c⟩)⟩
theorem LE{f m:Int}{a b:Int}{k l:Bool}{e g:Int}{i j:AB}(h:BO f m 2 (AX a b) (AX k l) (AX e g) (AX i j)=true)(n:GB 2 (AX a b)=false):(1<=m/\m<=5)/\Nz f a e i/\Nz f b g j:=by
 unfold BO at h;simp only[Bool.and_eq_true,decide_eq_true_eq] at h;have d:=of_decide_eq_false n;exact⟨h.1,Tq f a k e i (h.2 0 (by decide)) (λc=>d ⟨0,by decide,.inl c⟩) (λc=>d ⟨0,by decide,.inr c⟩),Tq f b l g j (h.2 1 (by decide)) (λc=>d ⟨1,by decide,.inl c⟩) (λc=>d ⟨1,by decide,.inr c⟩)⟩
theorem Nz.tn{f k e:Int}{s:AB}(h:Nz f k e s)(d:k=1):s=tn (vl (dl s))/\Bp (vl (dl s))/\0<=vl (dl s)/\vl (dl s)<10^(AF f).toNat/\(dl s).length<=34/\1<=(dl s).length/\s.size=(dl s).length/\(-7000<=e/\e<=7000):=by
 obtain⟨g,b,-,i,-⟩:=h;obtain⟨c,l,x,y⟩:=i d;have n:=Li f g;have a:=AZ (dl s) c.1;have j:(dl s).length<=34:=by omega
 have m:=c.2.1;refine⟨?_,⟨a.1,FS a.2 (AI _ _ (by omega))⟩,a.1,FS a.2 (AI _ _ (by omega)),j,m,?_,by omega,by omega⟩
 ·show s=tx (nt (vl (dl s)))
  rw[<-BW (dl s) (vl (dl s)) c rfl (by omega)];exact b
 ·rw[b,AE,<-b]
theorem Nz.small{f k e:Int}{s:AB}(h:Nz f k e s):s.size<=600:=by
 rcases h.2.2.1 with c|c
 ·obtain⟨-,-,-,-,l,-,z,-⟩:=h.tn c;omega
 ·rw[(h.2.2.2.2 c).2];decide
def oF(X:AA)(p:Nat)(a:Int)(b:Int)(c:Bool)(d:Int)(e:AB):Prop:=X.cell? ⟨p,0,none⟩=some (.int .i64 a)/\A4 X (p+1) b c d e
theorem oF.next{X a:AA}{p:Nat}{b:Int}{c:Int}{d:Bool}{e:Int}{f:AB}(h:oF X p b c d e f)(g:AD X.heap.size X a):oF a p b c d e f:=
 ⟨(g.cell (p:=⟨p,0,none⟩) (show p<X.heap.size by have:=h.2.lt;omega)).trans h.1,h.2.next g⟩
def zB(k:Int)(s:AB):Bool:=decide (k=1)&&decide (vl (dl s)=0)
theorem Dy{f k e:Int}{s:AB}(h:Nz f k e s)(b:Bool)(w:AA):cB 93 #[AH k b e s] w (.bool (zB k s)):=by
 rcases h.2.2.1 with rfl|rfl
 ·obtain⟨a,c,-⟩:=h.tn rfl;have:=BR b e (vl (dl s)) w c;rw[<-a] at this;exact this
 ·exact Ix b e s w
def XP(X:AA)(p:Nat)(f a:Int)(b:Int)(c:Bool)(d:Int)(e:AB)(g:Int)(h:Bool)(i:Int)(j:AB):Prop:=
 X.cell? ⟨p,0,none⟩=some (.int .i64 f)/\X.cell? ⟨p+1,0,none⟩=some (.int .i64 a)/\A4 X (p+2) b c d e/\A4 X (p+3) g h i j
theorem XP.next{X b:AA}{p:Nat}{f c:Int}{d:Int}{e:Bool}{g:Int}{i:AB}{j:Int}{k:Bool}{l:Int}{m:AB}(h:XP X p f c d e g i j k l m)(a:AD X.heap.size X b):XP b p f c d e g i j k l m:=by
 have n:=h.2.2.2.lt;exact⟨(a.cell (p:=⟨p,0,none⟩) (show p<X.heap.size by omega)).trans h.1,(a.cell (p:=⟨p+1,0,none⟩) (show p+1<X.heap.size by omega)).trans h.2.1,h.2.2.1.next a,h.2.2.2.next a⟩
abbrev Sl(w:AA)(f a:Int)(b:Int)(c:Bool)(d:Int)(e:AB)(g:Int)(h:Bool)(i:Int)(j:AB):AA:=
 ((((w.alloc (.cells #[.int .i64 f] 2)).alloc (.cells #[.int .i64 a] 2)).alloc (AY b c d e)).alloc (AY g h i j)).alloc A2
theorem UR(w:AA)(f b:Int)(c:Int)(d:Bool)(e:Int)(g:AB)(h:Int)(i:Bool)(j:Int)(k:AB):
 XP (Sl w f b c d e g h i j k) w.heap.size f b c d e g h i j k/\Z5 (Sl w f b c d e g h i j k) (w.heap.size+4)/\AD w.heap.size w (Sl w f b c d e g h i j k)/\(Sl w f b c d e g h i j k).heap.size=w.heap.size+5:=by
 unfold Sl;have u:=A9 w (.int .i64 f) 2;have v:=AN w (.cells #[.int .i64 f] 2);have q:AD w.heap.size w (w.alloc (.cells #[.int .i64 f] 2)):=bA;generalize w.alloc (.cells #[.int .i64 f] 2)=l at*
 have r:=A9 l (.int .i64 b) 2;have y:=AN l (.cells #[.int .i64 b] 2);have s:AD l.heap.size l (l.alloc (.cells #[.int .i64 b] 2)):=bA;have x:=(s.cell (p:=⟨w.heap.size,0,none⟩) (show w.heap.size<l.heap.size by omega)).trans u;generalize l.alloc (.cells #[.int .i64 b] 2)=a at*
 have m:=BP a c d e g h i j k;have z:(EW a c d e g h i j k).heap.size=a.heap.size+3:=by
  unfold EW;rw[AN,AN,AN]
 rw[v] at r;have n:a.heap.size=w.heap.size+2:=by omega
 have t:=q.trans (s.mono q.size);have o:AD a.heap.size a (EW a c d e g h i j k):=m.2.2.2.1;refine⟨⟨(o.cell (p:=⟨w.heap.size,0,none⟩) (show w.heap.size<a.heap.size by omega)).trans x,(o.cell (p:=⟨w.heap.size+1,0,none⟩) (show w.heap.size+1<a.heap.size by omega)).trans r,?_,?_⟩,?_,t.trans (o.mono t.size),?_⟩
 ·have:=m.1;rwa[n] at this
 ·have:=m.2.1;rwa[n] at this
 ·have:=m.2.2.1;rwa[n] at this
 ·show(EW a c d e g h i j k).heap.size=_
  omega
theorem Rn(W:AA)(a:Int)(b:Bool)(c:Int)(d:AB)(e:Int)(f:Bool)(g:Int)(h:AB):EY (W.alloc (.cells #[.int .i64 a,.bool b,.int .i64 c,.string d,.int .i64 e,.bool f,.int .i64 g,.string h] 78)) W.heap.size 2 (AX a e) (AX b f) (AX c g) (AX d h)/\W.heap.size<(W.alloc (.cells #[.int .i64 a,.bool b,.int .i64 c,.string d,.int .i64 e,.bool f,.int .i64 g,.string h] 78)).heap.size:=
 ⟨We (Bi W _),by rw[AN];omega⟩
def er(b:Nat):AK:=.func (.func 158) #[] #[.pointer (some ⟨b,0,none⟩)]
theorem IW(f:Int)(w:AA):Calls prog 85 #[.int .i64 f] w λx a=>∃b,x=.returned (er b)/\a.cell? ⟨b,0,none⟩=some (.int .i64 (AF f))/\w.heap.size<=b/\b<a.heap.size/\AD w.heap.size w a:=by
 have j:∀(d:Fn) (first e:Array AK) (w:AA),(Instr.makeFunc d first e).run prog w=.ok (.func d first e) w:=λ_ _ _ _=>rfl;have g:=zq λX=>Eb f X;generalize AV f=k at*
 generalize Ad f=l at*
 generalize AF f=P at*
 go_enter func85,ntmps85;go_wp2_with fail;refine cm (g _) λh i=>?_;have c:=zq i;clear i g;go_wp2;go_ret;exact⟨h.heap.size,rfl,A9 h _ _,c.size,by rw[AN];omega,c.alloc c.size _⟩
theorem Hj(b:Nat)(P:Int)(s:AB)(w:AA)(d:w.cell? ⟨b,0,none⟩=some (.int .i64 P))(a:0<=P/\P<=34)(c:s.size<=600):
 cE 158 #[.string s,.pointer (some ⟨b,0,none⟩)] w (.int .i64 (P-s.size)):=by
 have e:IntKind.i64.wrap (P-(s.size:Int))=P-s.size:=Dn (by omega);clear a c;go_enter func158,ntmps158;go_wp2;go_ret;exact⟨rfl,rfl⟩
def Zl(f h:Int)(e:Int)(d:Bool)(b:Int)(c:AB)(g:Int)(a:Int):VY:=
 if e=2/\g=2 then(d,(2,0,{data:=#[]},0))
 else if e=2\/g=2 then(false,(3,0,{data:=#[]},1))
 else if vl (dl c)≠0/\AF f<(dl c).length+(b-a) then(false,(3,0,{data:=#[]},1))
 else if a<=b then(d,(1,a,tx (nt (vl (dl c)*10^(b-a).toNat)),0))
 else(d,(1,a,tx (nt (Pv h d (vl (dl c)) (a-b).toNat)),if ew (vl (dl c)) (a-b).toNat then 16 else 0))
def XK(f a:Int)(b:Int)(c:Bool)(d:Int)(e:AB)(g:Int)(i:Bool)(h:Int)(j:AB):VY:=GF f a 2 (AX b g) (AX c i) (AX d h) (AX e j) (Zl f a b c d e g h)
theorem jN(d:Int)(e:Bool)(v b c:Int)(n:Nat)(j:0<=v)(k:v<10^n)(s:n<=34)(l:v≠0->n+(b-c)<=34):
 Bp (v*10^(D7 (b-c)).toNat)/\(c<=b->BC d e (v*10^(D7 (b-c)).toNat) (D7 (c-b)).toNat false=v*10^(b-c).toNat/\BJ (v*10^(D7 (b-c)).toNat) (D7 (c-b)).toNat false=false)
  /\(¬c<=b->BC d e (v*10^(D7 (b-c)).toNat) (D7 (c-b)).toNat false=Pv d e v (c-b).toNat/\BJ (v*10^(D7 (b-c)).toNat) (D7 (c-b)).toNat false=ew v (c-b).toNat):=by
 have m:∀x:Int,BC d e x 0 false=x/\BJ x 0 false=false:=λx=>by
  have o:x%10^0=0:=by rw[Int.pow_zero];exact Int.emod_one _
  have g:BJ x 0 false=false:=by unfold BJ;rw[o];rfl
  refine⟨?_,g⟩;unfold BC Ft;rw[g,Int.pow_zero,Int.ediv_one];simp[jl,BU,mI]
 by_cases i:v=0
 ·subst i;simp only[Int.zero_mul];refine⟨RL,λh=>?_,λh=>?_⟩
  ·exact Rl d e _
  ·have f:(D7 (c-b)).toNat=min (c-b).toNat 200:=by unfold D7;omega
   rw[f];exact⟨rfl,rfl⟩
 ·have t:=l i;have p:(D7 (b-c)).toNat=(b-c).toNat:=by unfold D7;omega
  rw[p];have q:Bp (v*10^(b-c).toNat):=by
   refine⟨Int.mul_nonneg j (CP (AL _)),?_⟩;have a:=Int.mul_lt_mul_of_pos_right k (AL (b-c).toNat);rw[<-Cv] at a;exact FS a (AI _ _ (by omega))
  refine⟨q,λh=>?_,λh=>?_⟩
  ·have f:(D7 (c-b)).toNat=0:=by unfold D7;omega
   rw[f];exact m _
  ·have f:(D7 (c-b)).toNat=min (c-b).toNat 200:=by unfold D7;omega
   have r:(b-c).toNat=0:=by omega
   rw[f,r,Int.pow_zero,Int.mul_one];exact⟨rfl,rfl⟩
def Jd(f:Int)(a b:Nat):Nat:=(AF f-a+b+1).toNat
def Pw(f j:Int)(g:Int)(c:Bool)(h:Int)(b:AB)(e:Int)(d:Bool)(i:Int)(a:AB):VY:=
 if (g=2/\e=2)\/(zB g b=true/\zB e a=true) then(false,(3,0,{data:=#[]},1))
 else if g=2 then(!(c==d),(2,0,{data:=#[]},0))
 else if e=2 then(!(c==d),(1,AV f,{data:=#[48]},0))
 else if zB e a=true then(!(c==d),(2,0,{data:=#[]},2))
 else(!(c==d),Al f j (!(c==d)) (nt (vl (dl b)*10^Jd f (dl b).length (dl a).length/vl (dl a))) (h-i-Jd f (dl b).length (dl a).length) (!decide (vl (dl b)*10^Jd f (dl b).length (dl a).length%vl (dl a)=0)) (h-i))
def XH(f a:Int)(b:Int)(c:Bool)(d:Int)(e:AB)(g:Int)(h:Bool)(i:Int)(j:AB):VY:=GF f a 2 (AX b g) (AX c h) (AX d i) (AX e j) (Pw f a b c d e g h i j)
theorem Ox(R:AG)(h:AJ R)(m:Nat)(a:10^m<=vl R):m<R.length:=by
 rcases Nat.lt_or_ge m R.length with c|c
 ·exact c
 ·have b:=(AZ R h.1).2;have d:=AI R.length m c;omega
theorem UZ(f:Int)(n:f=64\/f=128)(d e:AG)(g:AJ d)(j:AJ e)(u:(d.length:Int)<=AF f)(v:(e.length:Int)<=AF f)(o:vl e≠0):
 Bp (vl d*10^Jd f d.length e.length)/\Bp (vl d*10^Jd f d.length e.length/vl e)/\Bp (vl d*10^Jd f d.length e.length%vl e)/\(vl d≠0->10^(AF f).toNat<=vl d*10^Jd f d.length e.length/vl e)/\vl d*10^Jd f d.length e.length/vl e<10^70:=by
 have w:1<=AF f/\AF f<=34:=by rcases n with rfl|rfl<;>decide
 have a:=AZ d g.1;have b:=AZ e j.1;have x:=g.2.1;have y:=j.2.1;obtain⟨k,l⟩:=zxe (Jd f d.length e.length);have z:(d.length:Int)+k=AF f+e.length+1:=by rw[<-l];unfold Jd;omega
 rw[l];have A:vl d*10^k<10^70:=by
  have:=Int.mul_lt_mul_of_pos_right a.2 (AL k);rw[<-Cv] at this;exact FS this (AI _ _ (by omega))
 have h:=Int.mul_nonneg a.1 (CP (AL k));have i:0<vl e:=by have:=b.1;omega
 have p:=Int.ediv_nonneg h (CP i);have B:=Int.ediv_le_self (vl e) h;have q:=Int.emod_nonneg (vl d*10^k) o;have C:=Int.emod_lt_of_pos (vl d*10^k) i;have D:=AI 70 200 (by decide);have E:vl e<10^200:=FS b.2 (AI _ _ (by omega));refine⟨⟨h,by omega⟩,⟨p,by omega⟩,⟨q,by omega⟩,λr=>?_,by omega⟩;refine Int.le_ediv_of_mul_le i ?_;have s:=EJ d g (λc=>r (by rw[c];rfl));have m:=If s (CP (AL k));rw[<-Cv] at m;have t:(10:Int)^(AF f).toNat*vl e<=10^(AF f).toNat*10^e.length:=NH (by omega) (CP (AL _));rw[<-Cv] at t;rw[show d.length-1+k=(AF f).toNat+e.length by omega] at m;omega
theorem fm(M b:Int)(a:0<b):M*100/b=M/b*100+M%b*100/b/\M*100%b=M%b*100%b/\0<=M%b*100/b/\M%b*100/b<100:=by
 have e:=Int.mul_ediv_add_emod M b;have d:=Int.emod_nonneg M (Int.ne_of_gt a);have f:=Int.emod_lt_of_pos M a;have h:M*100=M%b*100+b*(M/b*100):=by
  have c:=congrArg (·*100) e;simp only[Int.add_mul] at c;rw[<-c,Int.mul_assoc];omega
 refine⟨?_,?_,Int.ediv_nonneg (by omega) (CP a),Int.ediv_lt_of_lt_mul a (by omega)⟩
 ·rw[h,Int.add_mul_ediv_left _ _ (Int.ne_of_gt a)];omega
 ·rw[h,Int.add_mul_emod_self_left]
theorem fo(f l:Int)(x:f=64\/f=128)(neg:Bool)(g d:AG)(m:AJ g)(n:AJ d)(G:(g.length:Int)<=AF f)(H:(d.length:Int)<=AF f)(o:vl d≠0)(I:vl g≠0)(i:Int):
 Al f l neg (nt (vl g*10^(Jd f g.length d.length+2)/vl d)) (i-((Jd f g.length d.length+2:Nat):Int)) (!decide (vl g*10^(Jd f g.length d.length+2)%vl d=0)) i
  =Al f l neg (nt (vl g*10^Jd f g.length d.length/vl d)) (i-Jd f g.length d.length) (!decide (vl g*10^Jd f g.length d.length%vl d=0)) i
 /\Bp (vl g*10^(Jd f g.length d.length+2))/\Bp (vl g*10^(Jd f g.length d.length+2)/vl d)/\Bp (vl g*10^(Jd f g.length d.length+2)%vl d):=by
 have S:1<=AF f/\AF f<=34:=by rcases x with rfl|rfl<;>decide
 obtain⟨p,q,y,r,s⟩:=UZ f x g d m n G H o;have b:=AZ d n.1;have t:0<vl d:=by have:=b.1;omega
 have T:=m.2.1;have U:=n.2.1;have a:=AZ g m.1;obtain⟨k,z⟩:=zxe (Jd f g.length d.length);have V:(g.length:Int)+k=AF f+d.length+1:=by rw[<-z];unfold Jd;omega
 rw[z] at p q y r s ⊢;obtain⟨M,u⟩:=zxe (vl g*10^k);have J:vl g*10^(k+2)=M*100:=by
  rw[Cv,<-Int.mul_assoc,u];rfl
 rw[u] at p q y r s ⊢;rw[J];obtain⟨K,A,L,N⟩:=fm M (vl d) t;have W:M<10^70:=by
  have:=Int.mul_lt_mul_of_pos_right a.2 (AL k);rw[<-Cv,u] at this;exact FS this (AI _ _ (by omega))
 have X:=Cv 10 70 2;have Y:=AI 72 200 (by decide);have Z:=p.1;have B:Bp (M*100):=⟨by omega,by omega⟩;have C:Bp (M*100/vl d):=B.le (Int.ediv_nonneg (by omega) (CP t)) (Int.ediv_le_self _ (by omega));have O:Bp (M*100%vl d):=by
  have r1:=Int.emod_lt_of_pos (M*100) t;have p3:vl d<10^200:=FS b.2 (AI _ _ (by omega));exact⟨Int.emod_nonneg _ o,by omega⟩
 refine⟨?_,B,C,O⟩;have D:=r I;have ac:1<=M/vl d:=Int.le_trans (by have:=AL (AF f).toNat;omega) D;obtain⟨v,j⟩:=Ae q;obtain⟨P,E⟩:=Ae C;have F:nt (M/vl d)≠[0]:=λc=>by rw[c] at j;have:vl [0]=0:=rfl;omega
 have Q:nt (M*100/vl d)≠[0]:=λc=>by rw[c] at E;have:vl [0]=0:=rfl;omega
 have l1:=Ox _ v (AF f).toNat (by rw[j];exact D);have l2:=Bu _ v 70 (by decide) (by rw[j];exact s);have R:=LZ (AF f).toNat (by omega) (AV f) (Ad f) l neg (nt (M/vl d)) (nt (M*100/vl d)) (i-k) (!decide (M%vl d=0)) (!decide (M*100%vl d=0)) i 2 (M%vl d*100/vl d) v F P (by rw[j,E,K];rfl) L (by exact N)
  (λh=>by
    have w:M%vl d≠0:=by simpa using h
    by_cases c:M%vl d*100/vl d=0
    ·refine .inr ?_;rw[A];have r0:=Int.emod_nonneg M o;have e:=Int.mul_ediv_add_emod (M%vl d*100) (vl d);rw[c,Int.mul_zero,Int.zero_add] at e;rw[e];simp;omega
    ·exact .inl c)
  (λh=>by
    have w:M%vl d=0:=by simpa using h
    refine⟨by rw[w,Int.zero_mul,Int.zero_ediv],?_⟩;rw[A,w,Int.zero_mul,Int.zero_emod];rfl) (by omega) (by omega)
 unfold Al;rw[zyn F,zyn Q,R,show i-(k:Int)-((2:Nat):Int)=i-((k+2:Nat):Int) by omega]
theorem VF(f a:Int)(d:Int)(e:Bool)(g:Int)(b:AB)(h:Int)(i:Bool)(j:Int)(c:AB)(w:AA)(k:b.size<=4611686018427387904)(l:c.size<=4611686018427387904):
 cB 54 #[.int .i64 f,.int .i64 a,AH d e g b,AH h i j c] w (BE (Dg f a d e g b h i j c).1 (Dg f a d e g b h i j c).2):=Z2 f a (λm=>Fa f a m) d e g b h i j c w k l
abbrev lq(w:AA)(a:Int)(b:Bool)(c:Int)(d:AB):AA:=(w.alloc (AY a b c d)).alloc A2
def S1(w W:AA)(a:Int)(b:Bool)(c:Int)(d:AB):Prop:=
 A4 W w.heap.size a b c d/\Z5 W (w.heap.size+1)/\AD w.heap.size w W/\w.heap.size+1<W.heap.size
theorem lr(w:AA)(a:Int)(b:Bool)(c:Int)(d:AB):S1 w (lq w a b c d) a b c d:=by
 unfold lq;have i:=As w (.int .i64 a) (.bool b) (.int .i64 c) (.string d);have j:=AN w (AY a b c d);have f:AD w.heap.size w (w.alloc (AY a b c d)):=bA;generalize w.alloc (AY a b c d)=e at*
 have g:=Af e (.int .i64 0) (.bool false) (.int .i64 0) (.string ⟨#[]⟩) (.int .i64 0);have k:=AN e A2;have h:AD e.heap.size e (e.alloc A2):=bA;rw[j] at g;exact⟨i.next h,g,f.trans (h.mono f.size),by omega⟩
theorem S1.next{w W b:AA}{c:Int}{d:Bool}{e:Int}{f:AB}(h:S1 w W c d e f)(a:AD W.heap.size W b):S1 w b c d e f:=
 ⟨h.1.next a,h.2.1.below a h.2.1.lt,h.2.2.1.trans (a.mono h.2.2.1.size),DU h.2.2.2 a.size⟩
theorem S1.alloc{w W:AA}{a:Int}{b:Bool}{c:Int}{d:AB}(h:S1 w W a b c d)(o:Obj):S1 w (W.alloc o) a b c d:=h.next bA
theorem S1.end{w W a:AA}{c:Int}{d:Bool}{e:Int}{f:AB}(h:S1 w W c d e f)(b:AD W.heap.size W a):Z5 a (w.heap.size+1)/\AD w.heap.size w a:=⟨(h.next b).2.1,(h.next b).2.2.1⟩
theorem nh:tx (nt 0)={data:=#[48]}:=by
 rw[<-BW [0] 0 Az rfl (by decide)];apply De;rw[AR];rfl
theorem Q0(e:Int)(neg:Bool)(d:AG)(k:Int)(w:AA)(f:AJ d)(g:d.length<=100)(r:0<=k):
 cB 136 #[.int .i64 e,.bool neg,.string (tx d),.int .i64 k] w (.tuple #[.string (tx (nt (Pv e neg (vl d) k.toNat))),.bool (ew (vl d) k.toNat)]):=by
 have h:=AZ d f.1;by_cases s:200<k
 ·by_cases i:d=[0]
  ·subst i;have o:((tx [0]).toList==[48])=true:=by rw[show tx [0]={data:=#[48]} by apply De;rw[AR];rfl,ByteArray.toList_eq];rfl
   have m:vl [0]=0:=rfl;have E:Hid (tx (nt (Pv e neg (vl [0]) k.toNat))={data:=#[48]}/\ew (vl [0]) k.toNat=false):=by
    rw[m];obtain⟨a,b⟩:=Rl e neg (min k.toNat 200);exact⟨by unfold Pv;rw[a];exact nh,b⟩
   rw[E.out.1,E.out.2];clear E h f g m;generalize tx [0]=T at*
   go_enter func136,ntmps136;go_wp2;go_ret2;exact⟨rfl,BI _ _⟩
  ·have n:0<vl d:=by
    have:vl d≠0:=λc=>i (Bg d f c);omega
   obtain⟨x,y⟩:=Xw e neg (vl d) k.toNat n (FS h.2 (AI _ _ g)) (by omega);have j:Hid (cA 190 #[.int .i64 e,.bool neg,.string {data:=#[49]},.int .i64 200,.bool true] (.tuple #[.string (tx (nt (BC e neg 1 200 true))),.bool true])):=λX=>by
    have:=Fh e neg [1] 200 true X (BL 1 (by decide) (by decide)) (by decide) (by decide);rw[SC] at this;exact this
   rw[x,y];have o:=Bo d f.1 i;generalize tx (nt (BC e neg 1 200 true))=p at*
   generalize tx d=T at*
   clear x y n h f g i;go_enter func136,ntmps136;go_wp2_with fail;refine cm (j _) λq l=>?_;go_wp2;go_ret2;exact⟨rfl,l⟩
 ·have E:Hid (Pv e neg (vl d) k.toNat=BC e neg (vl d) k.toNat false/\ew (vl d) k.toNat=BJ (vl d) k.toNat false):=by
   unfold Pv ew;rw[show min k.toNat 200=k.toNat by omega];exact⟨rfl,rfl⟩
  rw[E.out.1,E.out.2];have j:Hid (cA 190 #[.int .i64 e,.bool neg,.string (tx d),.int .i64 k,.bool false] (.tuple #[.string (tx (nt (BC e neg (vl d) k.toNat false))),.bool (BJ (vl d) k.toNat false)])):=λX=>by
   have:=Fh e neg d k.toNat false X f (by omega) (by omega);rw[show((k.toNat:Nat):Int)=k by omega] at this;exact this
  generalize tx (nt (BC e neg (vl d) k.toNat false))=p at*
  generalize BJ (vl d) k.toNat false=t at*
  generalize tx d=T at*
  clear E h f g;go_enter func136,ntmps136;go_wp2_with fail;refine cm (j _) λq l=>?_;go_wp2;go_ret2;exact⟨rfl,l⟩
theorem SU.a4{w W:AA}{a:Int}{b:Bool}{c:Int}{d:AB}{e:Int}{f:Bool}{g:Int}{i:AB}(h:SU w W a b c d e f g i):A4 W w.heap.size a b c d:=h.1
theorem SU.b4{w W:AA}{e:Int}{f:Bool}{g:Int}{i:AB}{a:Int}{b:Bool}{c:Int}{d:AB}(h:SU w W e f g i a b c d):A4 W (w.heap.size+1) a b c d:=h.2.1
theorem SU.end{w W a:AA}{c:Int}{d:Bool}{e:Int}{f:AB}{g:Int}{i:Bool}{j:Int}{k:AB}(h:SU w W c d e f g i j k)(b:AD W.heap.size W a):Z5 a (w.heap.size+2)/\AD w.heap.size w a:=⟨(h.next b).2.2.1,(h.next b).2.2.2.1⟩
theorem Ib.far{w:AA}{b c:Nat}{x y z u v:AK}(h:Ib w b x y z u v)(a:c≠b)(i:Nat)(d:AK):Ib (w.setCell ⟨c,i,none⟩ d) b x y z u v:=by
 unfold Ib at*
 simp[World.setCell,Array.getElem?_modify,h,a]
theorem Ec(a:AG)(n:Int)(w:AA)(f:AJ a)(g:a.length<=200)(i:0<=n)(b:a=[0]\/n<=200):
 cB 133 #[.string (tx a),.int .i64 n] w (.string (tx (nt (vl a*10^n.toNat)))):=by
 by_cases c:a=[0]
 ·subst c;have d:((tx [0]).toList==[48])=true:=by rw[Fv];rfl
  have E:Hid (tx (nt (vl [0]*10^n.toNat))=tx [0]):=by
   show _=_
   rw[show vl [0]=0 from rfl,Int.zero_mul,<-BW [0] 0 Az rfl (by decide)]
  rw[E];clear E b;generalize tx [0]=T at*
  go_enter func133,ntmps133;go_wp2;go_ret;exact⟨rfl,BI _ _⟩
 ·have j:=b.resolve_left c;have:=BS a n.toNat w f g (by omega);rw[show((n.toNat:Nat):Int)=n by omega] at this;refine this.mono ?_;rintro e k ⟨R,rfl,h,-,d⟩;exact⟨by rw[h],d⟩
theorem NC(f x:Int)(m:Int)(b:Bool)(h:Int)(d:AB)(l:Int)(r:Bool)(a:Int)(p:AB)(w:AA)(aF:d.size<=4611686018427387904)(aG:p.size<=4611686018427387904):
 cB 60 #[.int .i64 f,.int .i64 x,AH m b h d,AH l r a p] w (BE (XK f x m b h d l r a p).1 (XK f x m b h d l r a p).2):=by
 have HS:=zq (BP w m b h d l r a p);have aI:Hid (∀(g:Nat) X,g<X.heap.size->EY X g 2 (AX m l) (AX b r) (AX h a) (AX d p)->cB 124 #[.int .i64 f,.int .i64 x,.slice (some ⟨g,0,none⟩) 2 2] X (.bool (BO f x 2 (AX m l) (AX b r) (AX h a) (AX d p)))):=λg X hg y=>
  DH f x 2 g (AX m l) (AX b r) (AX h a) (AX d p) X (by decide) hg y (λi hi=>by match i,hi with
   |0,_=>exact aF
   |1,_=>exact aG)
 have ao:Hid (∀(g:Nat) X,g<X.heap.size->EY X g 2 (AX m l) (AX b r) (AX h a) (AX d p)->cB 125 #[.slice (some ⟨g,0,none⟩) 2 2] X (.tuple #[BA 3 false 0 {data:=#[]} (DL 2 (AX m l)),.bool (GB 2 (AX m l))])):=λg X hg y=>BZ 2 g _ _ _ _ X (by decide) hg y;obtain⟨R,hR⟩:=zxe (XK f x m b h d l r a p);have Z:=zq hR;rw[hR];clear hR aF aG;have aZ:=CK;go_enter func60,ntmps60;have aJ:(EW w m b h d l r a p).heap.size=w.heap.size+1+1+1:=by simp
 have aq:=Bi (EW w m b h d l r a p) (.cells #[.int .i64 m,.bool b,.int .i64 h,.string d,.int .i64 l,.bool r,.int .i64 a,.string p] 78);rw[aJ] at aq;have aK:((EW w m b h d l r a p).alloc (.cells #[.int .i64 m,.bool b,.int .i64 h,.string d,.int .i64 l,.bool r,.int .i64 a,.string p] 78)).heap.size=w.heap.size+1+1+1+1:=by simp
 have HL:Hid (EY ((EW w m b h d l r a p).alloc (.cells #[.int .i64 m,.bool b,.int .i64 h,.string d,.int .i64 l,.bool r,.int .i64 a,.string p] 78)) (w.heap.size+1+1+1) 2 (AX m l) (AX b r) (AX h a) (AX d p)/\w.heap.size+1+1+1<((EW w m b h d l r a p).alloc (.cells #[.int .i64 m,.bool b,.int .i64 h,.string d,.int .i64 l,.bool r,.int .i64 a,.string p] 78)).heap.size):=⟨We aq,by rw[aK];omega⟩;clear aJ aq aK;go_wp2_with fail;refine cm (aI (w.heap.size+1+1+1) _ HL.2 HL.1) λw1 aj=>?_;have ae:=zq ((HS.alloc _).next aj);have ak:=Ab (HL.1.below aj HL.2) (DU HL.2 aj.size);clear aj HL HS aI;cases hO:BO f x 2 (AX m l) (AX b r) (AX h a) (AX d p) with
 |false=>
  have n:Hid (R=(false,(0,0,{data:=#[]},0))):=by show _=_;rw[<-Z];unfold XK GF;rw[hO];rfl
  have o:Hid (Z5 w1 (w.heap.size+2)/\AD w.heap.size w w1):=⟨ae.2.2.1,ae.2.2.2.1⟩;clear hO ao ae ak Z;go_wp2_with (refine sR o.1 0 false 0 ⟨#[]⟩ 0 ?_);refine rR (A1 o.1 0 false 0 ⟨#[]⟩ 0) ?_;exact⟨by rw[n],AC o.2 (by omega) _⟩
 |true=>
  go_wp2_with fail;refine cm (ao (w.heap.size+1+1+1) _ ak.2 ak.1) λw2 aM=>?_;have al:=zq (ae.next aM);clear aM ak ae ao aZ;cases t:GB 2 (AX m l) with
  |true=>
   have n:Hid (R=(false,(3,0,{data:=#[]},DL 2 (AX m l)))):=by show _=_;rw[<-Z];unfold XK GF;rw[hO,t];rfl
   clear hO t Z;generalize DL 2 (AX m l)=FL at*
   have o:Hid (Z5 (w2.alloc (Ei 3 false 0 ⟨#[]⟩ FL)) (w.heap.size+2)/\AD w.heap.size w (w2.alloc (Ei 3 false 0 ⟨#[]⟩ FL))):=⟨(al.out.alloc _).2.2.1,(al.out.alloc _).2.2.2.1⟩;go_wp2_with (refine sR o.1 3 false 0 ⟨#[]⟩ FL ?_);refine rR (A1 o.1 3 false 0 ⟨#[]⟩ FL) ?_;exact⟨by rw[n],AC o.2 (by omega) _⟩
  |false=>
   have n:R=Zl f x m b h d l a:=by rw[<-Z];unfold XK GF;rw[hO,t];rfl
   have a0:=LE hO t;have v:Hid (SU w (w2.alloc (Ei 3 false 0 ⟨#[]⟩ (DL 2 (AX m l)))) m b h d l r a p):=al.out.alloc _;generalize DL 2 (AX m l)=FL at*
   clear hO t Z al;obtain⟨hm,y,T⟩:=a0;obtain⟨C,D,E,F,G⟩:=v.a4.cells;obtain⟨H,I,J,K,L⟩:=v.b4.cells;unfold Zl at n;by_cases S:m=2
   ·by_cases t:l=2
    ·rw[zyp ⟨S,t⟩] at n;have M:=zq n;subst S t;clear y T hm n;go_wp2_with fail;refine cm (BG b _) λw4 s=>?_;have o:=zq (v.end s);clear s v C D E F G H I J K L;go_wp2_with (refine sR o.1 2 b 0 ⟨#[]⟩ 0 ?_);refine rR (A1 o.1 2 b 0 ⟨#[]⟩ 0) ?_;exact⟨by rw[M],AC o.2 (by omega) _⟩
    ·rw[zyn (λc=>t c.2),zyp (.inl S)] at n;have M:=zq n;have a7:(l==2)=false:=beq_eq_false_iff_ne.2 t;subst S;clear y T hm n t;go_wp2_with fail;refine cm (Aq _) λw4 s=>?_;have o:=zq (v.end s);clear s v C D E F G H I J K L;go_wp2_with (refine sR o.1 3 false 0 ⟨#[]⟩ 1 ?_);refine rR (A1 o.1 3 false 0 ⟨#[]⟩ 1) ?_;exact⟨by rw[M],AC o.2 (by omega) _⟩
   ·have a1:=y.2.2.1.resolve_right S;subst a1;rw[zyn (λc=>S c.1)] at n;by_cases t:l=2
    ·rw[zyp (.inr t)] at n;have M:=zq n;subst t;clear y T hm n S;go_wp2_with fail;refine cm (Aq _) λw4 s=>?_;have o:=zq (v.end s);clear s v C D E F G H I J K L;go_wp2_with (refine sR o.1 3 false 0 ⟨#[]⟩ 1 ?_);refine rR (A1 o.1 3 false 0 ⟨#[]⟩ 1) ?_;exact⟨by rw[M],AC o.2 (by omega) _⟩
    ·have a2:=T.2.2.1.resolve_right t;subst a2;rw[zyn (λc=>c.elim S t)] at n;clear S t;obtain⟨hs,nk,v0,-,aw,l1,hz,he⟩:=y.tn rfl;obtain⟨-,-,-,-,-,-,-,aA⟩:=T.tn rfl;obtain⟨Q,aB,-,-⟩:=y.2.2.2.1 rfl;have U:=y.2.1;have hL:=Li f y.1;have ah:=AZ (dl d) Q.1;have Y:0<=AF f/\AF f<=34:=by omega
     have V:=zq λX=>Ag f X;generalize AV f=LL at*
     generalize Ad f=HH at*
     have ba:=zw (h-a) (by omega);have bb:=zw (a-h) (by omega);have bc:IntKind.i64.wrap ((d.size:Int)+h)=d.size+h:=Dn (by omega);have be:IntKind.i64.wrap ((d.size:Int)+h-a)=d.size+h-a:=Dn (by omega);by_cases aN:a<=h
     ·by_cases N:vl (dl d)≠0/\AF f<(dl d).length+(h-a)
      ·rw[zyp N] at n;have M:=zq n;have aO:(d.toList==[48])=false:=by
        rw[U];exact Bo (dl d) Q.1 (λc=>N.1 (by rw[c];rfl))
       have a3:AF f<(d.size:Int)+h-a:=by have:=N.2;omega
       clear y T hm hs nk v0 aw l1 hz he aA Q aB U hL ah Y N n;generalize AF f=P at*
       go_wp2_with fail;refine(V _).mono ?_;rintro e wx ⟨rfl,rfl⟩;clear V;go_wp2_with fail;refine cm (Aq _) λw4 s=>?_;have o:=zq (v.end s);clear s v C D E F G H I J K L;go_wp2_with (refine sR o.1 3 false 0 ⟨#[]⟩ 1 ?_);have Y:=A1 o.1 3 false 0 ⟨#[]⟩ 1;refine rR Y ?_;exact⟨by rw[M],AC o.2 (by omega) _⟩
      ·rw[zyn N,zyp aN] at n;have ai:Hid (cA 133 #[.string d,.int .i64 (h-a)] (.string (tx (nt (vl (dl d)*10^(h-a).toNat))))):=λX=>by
        have:=Ec (dl d) (h-a) X Q (by omega) (by omega) (by
         by_cases c:vl (dl d)=0
         ·exact .inl (Bg (dl d) Q c)
         ·have:¬AF f<(dl d).length+(h-a):=λq=>N ⟨c,q⟩;exact .inr (by omega))
        rw[<-U] at this;exact this
       have aD:¬(AF f<((tx (nt (vl (dl d)*10^(h-a).toNat))).size:Int)):=by
        rw[AE];by_cases c:vl (dl d)=0
        ·rw[c,Int.zero_mul,<-BW [0] 0 Az rfl (by decide)];simp;omega
        ·have bf:¬AF f<(dl d).length+(h-a):=λq=>N ⟨c,q⟩;have h1:=Int.mul_lt_mul_of_pos_right ah.2 (AL (h-a).toNat);rw[<-Cv] at h1;have h2:=RM (vl (dl d)*10^(h-a).toNat) ((dl d).length+(h-a).toNat) (Int.mul_nonneg v0 (CP (AL _))) h1 (by omega) (by omega);omega
       have a5:(d.toList==[48])=true\/((d.toList==[48])=false/\¬(AF f<(d.size:Int)+h-a)):=by
        by_cases c:vl (dl d)=0
        ·refine .inl ?_;rw[U,Bg (dl d) Q c,Fv];rfl
        ·refine .inr ⟨by rw[U];exact Bo (dl d) Q.1 (λq=>c (by rw[q];rfl)),λq=>N ⟨c,by omega⟩⟩
       obtain⟨j,ad⟩:=zxe (tx (nt (vl (dl d)*10^(h-a).toNat)));rw[ad] at n ai aD;have M:=zq n;clear y T hm hs nk v0 aw l1 hz he aA Q aB U hL ah Y N n ad;generalize AF f=P at*
       rcases a5 with aO|⟨aO,a3⟩
       ·go_wp2_with fail;refine(V _).mono ?_;rintro e wx ⟨rfl,rfl⟩;clear V;go_wp2_with fail;refine cm (ai _) λw4 s=>?_;have B:=zq (v.next s);clear s v ai C D E F G H I J K L;obtain⟨C,D,E,F,G⟩:=B.a4.cells;obtain⟨H,I,J,K,L⟩:=B.b4.cells;have aR:=AT 1 b a j;go_wp2_with fail;refine cm (Aj b j a _) λk W=>?_;have u:=B.next W;have am:=zq u;have O:AD k.heap.size k (k.alloc (Ei 1 b a j 0)):=bA;have z:Hid (Z5 (k.alloc (Ei 1 b a j 0)) (w.heap.size+2)/\AD w.heap.size w (k.alloc (Ei 1 b a j 0))/\A5 (k.alloc (Ei 1 b a j 0)) k.heap.size 1 b a j 0/\w.heap.size+2<k.heap.size):=⟨(u.end O).1,(u.end O).2,Af k _ _ _ _ _,u.2.2.2.2⟩;clear W O u B C D E F G H I J K L;obtain⟨g0,g1,g2,g3,g4,-⟩:=z.2.2.1.cells;have A:Hid (Z5 (k.alloc (Ei 1 b a j 0)) (w.heap.size+2)/\AD w.heap.size w (k.alloc (Ei 1 b a j 0))):=⟨z.1,z.2.1⟩;clear z;go_wp2_with (refine sR A.1 1 b a j 0 ?_);refine rR (A1 A.1 1 b a j 0) ?_;exact⟨by rw[M],AC A.2 (by omega) _⟩
       ·go_wp2_with fail;refine(V _).mono ?_;rintro e wx ⟨rfl,rfl⟩;clear V;go_wp2_with fail;refine cm (ai _) λw4 s=>?_;have B:=zq (v.next s);clear s v ai C D E F G H I J K L;obtain⟨C,D,E,F,G⟩:=B.a4.cells;obtain⟨H,I,J,K,L⟩:=B.b4.cells;have aR:=AT 1 b a j;go_wp2_with fail;refine cm (Aj b j a _) λk W=>?_;have u:=B.next W;have am:=zq u;have O:AD k.heap.size k (k.alloc (Ei 1 b a j 0)):=bA;have z:Hid (Z5 (k.alloc (Ei 1 b a j 0)) (w.heap.size+2)/\AD w.heap.size w (k.alloc (Ei 1 b a j 0))/\A5 (k.alloc (Ei 1 b a j 0)) k.heap.size 1 b a j 0/\w.heap.size+2<k.heap.size):=⟨(u.end O).1,(u.end O).2,Af k _ _ _ _ _,u.2.2.2.2⟩;clear W O u B C D E F G H I J K L;obtain⟨g0,g1,g2,g3,g4,-⟩:=z.2.2.1.cells;have A:Hid (Z5 (k.alloc (Ei 1 b a j 0)) (w.heap.size+2)/\AD w.heap.size w (k.alloc (Ei 1 b a j 0))):=⟨z.1,z.2.1⟩;clear z;go_wp2_with (refine sR A.1 1 b a j 0 ?_);have Y:=A1 A.1 1 b a j 0;refine rR Y ?_;exact⟨by rw[M],AC A.2 (by omega) _⟩
     ·have N:¬(vl (dl d)≠0/\AF f<(dl d).length+(h-a)):=λc=>by have:=c.2;omega
      rw[zyn N,zyn aN] at n;have HD:Hid (cA 136 #[.int .i64 x,.bool b,.string d,.int .i64 (a-h)] (.tuple #[.string (tx (nt (Pv x b (vl (dl d)) (a-h).toNat))),.bool (ew (vl (dl d)) (a-h).toNat)])):=λX=>by
       have:=Q0 x b (dl d) (a-h) X Q (by omega) (by omega);rw[<-U] at this;exact this
      have aD:¬(AF f<((tx (nt (Pv x b (vl (dl d)) (a-h).toNat))).size:Int)):=by
       rw[AE];have:=(fj x b (vl (dl d)) (a-h).toNat (AF f).toNat v0 (FS ah.2 (AI _ _ (by omega))) (by omega) (by omega) (by omega)).1;omega
      obtain⟨j,ad⟩:=zxe (tx (nt (Pv x b (vl (dl d)) (a-h).toNat)));obtain⟨lo,aX⟩:=zxe (ew (vl (dl d)) (a-h).toNat);rw[ad,aX] at n HD;rw[ad] at aD;have M:=zq n;clear y T hm hs nk v0 aw l1 hz he aA Q aB U hL ah Y N n ad aX;generalize AF f=P at*
      go_wp2_with fail;refine ce (V _) ?_;clear V;go_wp2_with fail;refine cm (HD _) λw4 s=>?_;have B:=zq (v.next s);clear s v HD C D E F G H I J K L;obtain⟨C,D,E,F,G⟩:=B.a4.cells;obtain⟨H,I,J,K,L⟩:=B.b4.cells;have aR:=AT 1 b a j;go_wp2_with fail;refine cm (Aj b j a _) λk W=>?_;have u:=B.next W;have am:=zq u;have O:AD k.heap.size k (k.alloc (Ei 1 b a j 0)):=bA;have z:Hid (Z5 (k.alloc (Ei 1 b a j 0)) (w.heap.size+2)/\AD w.heap.size w (k.alloc (Ei 1 b a j 0))/\A5 (k.alloc (Ei 1 b a j 0)) k.heap.size 1 b a j 0/\w.heap.size+2<k.heap.size):=⟨(u.end O).1,(u.end O).2,Af k _ _ _ _ _,u.2.2.2.2⟩;clear W O u B C D E F G H I J K L;cases lo with
      |false=>
       obtain⟨g0,g1,g2,g3,g4,-⟩:=z.2.2.1.cells;have A:Hid (Z5 (k.alloc (Ei 1 b a j 0)) (w.heap.size+2)/\AD w.heap.size w (k.alloc (Ei 1 b a j 0))):=⟨z.1,z.2.1⟩;clear z;go_wp2_with (refine sR A.1 1 b a j 0 ?_);refine rR (A1 A.1 1 b a j 0) ?_;exact⟨by rw[M];rfl,AC A.2 (by omega) _⟩
      |true=>
       have A:Hid (Z5 (k.alloc (Ei 1 b a j 16)) (w.heap.size+2)/\AD w.heap.size w (k.alloc (Ei 1 b a j 16))):=am.out.end bA;clear z am;go_wp2_with (refine sR A.1 1 b a j 16 ?_);refine rR (A1 A.1 1 b a j 16) ?_;exact⟨by rw[M];rfl,AC A.2 (by omega) _⟩
theorem M7(p:Nat)(f v:Int)(Z:Int)(g:Bool)(j:Int)(e:AB)(S:Int)(nb:Bool)(a:Int)(sb:AB)(X:AA)(hm:1<=v/\v<=5)(B:Nz f Z j e)(af:Nz f S a sb)(s:XP X p f v Z g j e S nb a sb):
 Calls prog 98 #[.pointer (some ⟨p+2,0,none⟩),.pointer (some ⟨p+3,0,none⟩),.pointer (some ⟨p,0,none⟩),.pointer (some ⟨p+1,0,none⟩)] X λx w'=>(x=.returned (BE (Zl f v Z g j e S a).1 (Zl f v Z g j e S a).2)\/x=Aa (BE (Zl f v Z g j e S a).1 (Zl f v Z g j e S a).2))/\AD X.heap.size X w':=by
 have aA:AD X.heap.size X (X.alloc A2):=bA;have i:Hid (Z5 (X.alloc A2) X.heap.size/\AD X.heap.size X (X.alloc A2)/\XP (X.alloc A2) p f v Z g j e S nb a sb):=⟨Af X _ _ _ _ _,aA,s.next aA⟩;obtain⟨R,y⟩:=zxe (Zl f v Z g j e S a);rw[y];unfold Zl at y;obtain⟨D,E,z,A⟩:=i.2.2;obtain⟨m,n,o,q,r⟩:=z.cells;obtain⟨F,G,H,I,J⟩:=A.cells;clear z A aA s;have T:Hid (∀Y,Calls prog 85 #[.int .i64 f] Y λx w'=>∃b,x=.returned (er b)/\w'.cell? ⟨b,0,none⟩=some (.int .i64 (AF f))/\Y.heap.size<=b/\b<w'.heap.size/\AD Y.heap.size Y w'):=λY=>IW f Y;by_cases hA:Z=2
 ·subst hA;obtain⟨e0,s0⟩:=B.2.2.2.2 rfl;subst e0 s0;by_cases W:S=2
  ·subst W;rw[zyp ⟨rfl,rfl⟩] at y;subst y;have ap:=AT 2 g 0 {data:=#[]};clear B af hm T;have d:=Ab i.1 i.2.1;clear i;go_enter func98,ntmps98;go_wp2_with (refine sR d.1 2 g 0 ⟨#[]⟩ 0 ?_);refine rR (A1 d.1 2 g 0 ⟨#[]⟩ 0) ?_;exact⟨.inl rfl,AC d.2 (AS _) _⟩
  ·rw[zyn (λc=>W c.2),zyp (.inl rfl)] at y;subst y;have a0:(S==2)=false:=beq_eq_false_iff_ne.2 W;clear B af hm W;go_enter func98,ntmps98;go_wp2_with fail;refine(T _).mono ?_;rintro x k ⟨b,rfl,t,aa,O,l⟩;have d:=Ab (i.2.1.trans (l.mono i.2.1.size)) (i.2.2.next l);clear t aa O l i T D E m n o q r F G H I J;obtain⟨D,E,z,A⟩:=d.2;obtain⟨m,n,o,q,r⟩:=z.cells;obtain⟨F,G,H,I,J⟩:=A.cells;clear z A;go_upto_region 4 with fail;go_quiet (fail);have ac:=zq (Go.below_drewN d.1 nq);generalize k.drewN nq=w2 at*
   clear d D E m n o q r F G H I J;go_wp2_with fail;refine cm (A6 _) λw4 L=>?_;go_wp2;exact⟨rfl,.inr rfl,ac.trans (L.mono ac.size)⟩
 ·have aW:=B.2.2.1.resolve_right hA;subst aW;rw[zyn (λc=>hA c.1)] at y;by_cases W:S=2
  ·rw[zyp (.inr W)] at y;subst y W;clear B af hm hA;go_enter func98,ntmps98;go_wp2_with fail;refine(T _).mono ?_;rintro x k ⟨b,rfl,t,aa,O,l⟩;have d:=Ab (i.2.1.trans (l.mono i.2.1.size)) (i.2.2.next l);clear t aa O l i T D E m n o q r F G H I J;obtain⟨D,E,z,A⟩:=d.2;obtain⟨m,n,o,q,r⟩:=z.cells;obtain⟨F,G,H,I,J⟩:=A.cells;clear z A;go_upto_region 4 with fail;go_quiet (fail);have ac:=zq (Go.below_drewN d.1 nq);generalize k.drewN nq=w2 at*
   clear d D E m n o q r F G H I J;go_wp2_with fail;refine cm (A6 _) λw4 L=>?_;go_wp2;exact⟨rfl,.inr rfl,ac.trans (L.mono ac.size)⟩
  ·have aX:=af.2.2.1.resolve_right W;subst aX;rw[zyn (λc=>c.elim hA W)] at y;clear hA W;obtain⟨hs,nk,v0,-,aE,l1,hz,he⟩:=B.tn rfl;obtain⟨-,-,-,-,-,-,-,aG⟩:=af.tn rfl;obtain⟨hc,aQ,-,-⟩:=B.2.2.2.1 rfl;have hL:=Li f B.1;have aI:=AZ (dl e) hc.1;have hP:0<=AF f/\AF f<=34:=by omega
   have ab:Hid (cA 93 #[AH 1 g j e] (.bool (decide (vl (dl e)=0)))):=λY=>Dy B g Y;have a1:=zw (j-a) (by omega);by_cases ad:vl (dl e)≠0/\AF f<(dl e).length+(j-a)
   ·rw[zyp ad] at y;subst y;rw[By ad.1] at ab;have au:AF f-(e.size:Int)<j-a:=by have:=ad.2;omega
    have am:Hid (∀(b:Nat) Y,Y.cell? ⟨b,0,none⟩=some (.int .i64 (AF f))->cE 158 #[.string e,.pointer (some ⟨b,0,none⟩)] Y (.int .i64 (AF f-e.size))):=λb Y h=>Hj b (AF f) e Y h hP B.small;have HE:Hid (∀args w,(callFunc 158 args).run prog w=.ok (.enter 158 args) w):=enters_of func158 (by kernel_rfl) rfl;clear B af hm hs nk v0 aE l1 hz he aG hc aQ hL aI hP ad;generalize AF f=P at*
    generalize P-(e.size:Int)=aY at*
    go_enter func98,ntmps98;go_wp2_with fail;refine(T _).mono ?_;rintro x k ⟨b,rfl,t,aa,O,l⟩;have d:=eh (i.2.1.trans (l.mono i.2.1.size)) (i.2.2.next l) t O;clear t aa O l i T D E m n o q r F G H I J;unfold er;go_upto_region 4 with fail;have ae:=dR k;have hE:=HE.out;refine AP (C:=AD k.heap.size k) ae ?_;repeat (go_big_quiet_step ((intro s;rename_i wx;first|exact rfl|((with_reducible refine Calls.class_of (ab.out wx) ?_);exactλw' t=>BQ s t)|((with_reducible refine(am.out b wx ((s.cell (p:=⟨b,0,none⟩) d.out.2.2.2).trans d.out.2.2.1)).mono ?_);rintro x w' ⟨rfl,rfl⟩;exact⟨rfl,s⟩)|(obtain⟨m,n,o,q,r⟩:=(d.out.2.1.next s).2.2.1.cells;go_simp;exact rfl)|(obtain⟨m,n,o,q,r⟩:=(d.out.2.1.next s).2.2.2.cells;go_simp;exact rfl))))
    refine wpQuiet_nil ?_;intro w2 Q;have ac:=zq (d.1.trans (Q.mono d.1.size));clear Q d ae ab am;go_wp2_with fail;refine cm (A6 _) λw4 L=>?_;go_wp2;exact⟨rfl,.inr rfl,ac.trans (L.mono ac.size)⟩
   ·rw[zyn ad] at y;have aS:vl (dl e)≠0->(dl e).length+(j-a)<=34:=λh=>by
     have:¬AF f<(dl e).length+(j-a):=λc=>ad ⟨h,c⟩;omega
    obtain⟨aT,aK,aL⟩:=jN v g (vl (dl e)) j a (dl e).length v0 aI.2 aE aS;have aM:=λY=>SI v hm g j (vl (dl e)) a Y he aG nk aT;obtain⟨u,av⟩:=zxe (tx (nt (BC v g (vl (dl e)*10^(D7 (j-a)).toNat) (D7 (a-j)).toNat false)));obtain⟨lo,ax⟩:=zxe (BJ (vl (dl e)*10^(D7 (j-a)).toNat) (D7 (a-j)).toNat false);rw[av,ax] at aM;have ay:Hid (cA 99 #[.int .i64 v,AH 1 g j e,.int .i64 a] (.tuple #[AH 1 g a (u),.bool lo])):=λY=>by
     have:=aM Y;rw[<-hs] at this;exact this
    have ER:Hid (R=(g,(1,a,u,if lo then 16 else 0))):=by
     show _=_
     rw[<-y];by_cases c:a<=j
     ·rw[zyp c,<-av,<-ax,(aK c).1,(aK c).2];rfl
     ·rw[zyn c,<-av,<-ax,(aL c).1,(aL c).2]
    have am:Hid (∀(b:Nat) Y,Y.cell? ⟨b,0,none⟩=some (.int .i64 (AF f))->cE 158 #[.string e,.pointer (some ⟨b,0,none⟩)] Y (.int .i64 (AF f-e.size))):=λb Y h=>Hj b (AF f) e Y h hP B.small;have HE:Hid (∀args w,(callFunc 158 args).run prog w=.ok (.enter 158 args) w):=enters_of func158 (by kernel_rfl) rfl;have au:vl (dl e)≠0->¬(AF f-(e.size:Int)<j-a):=λh c=>ad ⟨h,by omega⟩;clear B af hm hs nk v0 aE l1 hz he aG hc aQ hL aI hP ad aS aT aK aL aM av ax y;generalize AF f=P at*
    generalize P-(e.size:Int)=aY at*
    by_cases hv:vl (dl e)=0
    ·rw[Bz hv] at ab;clear au hv am;go_enter func98,ntmps98;go_wp2_with fail;refine(T _).mono ?_;rintro x k ⟨b,rfl,t,aa,O,l⟩;have d:Hid (Z5 k X.heap.size/\AD X.heap.size X k/\XP k p f v 1 g j e 1 nb a sb/\k.cell? ⟨b,0,none⟩=some (.int .i64 P)/\b<k.heap.size):=⟨i.1.below l i.1.lt,i.2.1.trans (l.mono i.2.1.size),i.2.2.next l,t,O⟩;clear t aa O l i T D E m n o q r F G H I J;unfold er;go_upto_region 4 with fail;have ae:=dR k;refine AP (C:=AD k.heap.size k) ae ?_;repeat (first|go_big_quiet_skip|(refine wpQuiet_step ?_;intro K hK;go_simp;first|go_big_quiet_on|(apply Exists.intro;refine⟨λwx s=>?_,?_⟩;(first|exact rfl|((with_reducible refine Calls.class_of (ab.out wx) ?_);exactλw' t=>BQ s t)|(obtain⟨m,n,o,q,r⟩:=(d.out.2.2.1.next s).2.2.1.cells;go_simp;exact rfl)|(obtain⟨m,n,o,q,r⟩:=(d.out.2.2.1.next s).2.2.2.cells;go_simp;exact rfl));go_big_quiet_on)))
     refine wpQuiet_nil ?_;intro w2 Q;have M:=J9 (d.1.below Q d.1.lt) (d.2.1.trans (Q.mono d.2.1.size)) (d.2.2.1.next Q);clear Q d ae ab;obtain⟨D,E,z,A⟩:=M.2.2;obtain⟨m,n,o,q,r⟩:=z.cells;obtain⟨F,G,H,I,J⟩:=A.cells;clear z A;go_wp2_with fail;refine cm (ay _) λU ai=>?_;have L:AD U.heap.size U (U.alloc (AY 1 g a u)):=bA;have V:Z5 U X.heap.size/\AD X.heap.size X U:=⟨M.1.below ai M.1.lt,M.2.1.trans (ai.mono M.2.1.size)⟩;have N:=Ab (V.1.below L V.1.lt) (V.2.trans (L.mono V.2.size));clear ai L M V ay D E m n o q r F G H I J;cases lo with
     |true=>
      have ap:=Bt 1 g a u 16;go_wp2_with (refine sR N.1 1 g a u 16 ?_);refine rR (A1 N.1 1 g a u 16) ?_;exact⟨.inl (by rw[ER];rfl),AC N.2 (AS _) _⟩
     |false=>
      have ap:=AT 1 g a u;go_wp2_with (refine sR N.1 1 g a u 0 ?_);refine rR (A1 N.1 1 g a u 0) ?_;exact⟨.inl (by rw[ER];rfl),AC N.2 (AS _) _⟩
    ·rw[By hv] at ab;have a3:=au hv;clear au hv;go_enter func98,ntmps98;go_wp2_with fail;refine(T _).mono ?_;rintro x k ⟨b,rfl,t,aa,O,l⟩;have d:Hid (Z5 k X.heap.size/\AD X.heap.size X k/\XP k p f v 1 g j e 1 nb a sb/\k.cell? ⟨b,0,none⟩=some (.int .i64 P)/\b<k.heap.size):=⟨i.1.below l i.1.lt,i.2.1.trans (l.mono i.2.1.size),i.2.2.next l,t,O⟩;clear t aa O l i T D E m n o q r F G H I J;unfold er;go_upto_region 4 with fail;have ae:=dR k;have hE:=HE.out;refine AP (C:=AD k.heap.size k) ae ?_;repeat (go_big_quiet_step ((intro s;rename_i wx;first|exact rfl|((with_reducible refine Calls.class_of (ab.out wx) ?_);exactλw' t=>BQ s t)|((with_reducible refine(am.out b wx ((s.cell (p:=⟨b,0,none⟩) d.out.2.2.2.2).trans d.out.2.2.2.1)).mono ?_);rintro x w' ⟨rfl,rfl⟩;exact⟨rfl,s⟩)|(obtain⟨m,n,o,q,r⟩:=(d.out.2.2.1.next s).2.2.1.cells;go_simp;exact rfl)|(obtain⟨m,n,o,q,r⟩:=(d.out.2.2.1.next s).2.2.2.cells;go_simp;exact rfl))))
     refine wpQuiet_nil ?_;intro w2 Q;have M:=J9 (d.1.below Q d.1.lt) (d.2.1.trans (Q.mono d.2.1.size)) (d.2.2.1.next Q);clear Q d ae ab;obtain⟨D,E,z,A⟩:=M.2.2;obtain⟨m,n,o,q,r⟩:=z.cells;obtain⟨F,G,H,I,J⟩:=A.cells;clear z A;go_wp2_with fail;refine cm (ay _) λU ai=>?_;have L:AD U.heap.size U (U.alloc (AY 1 g a u)):=bA;have V:Z5 U X.heap.size/\AD X.heap.size X U:=⟨M.1.below ai M.1.lt,M.2.1.trans (ai.mono M.2.1.size)⟩;have N:=Ab (V.1.below L V.1.lt) (V.2.trans (L.mono V.2.size));clear ai L M V ay D E m n o q r F G H I J;cases lo with
     |true=>
      have ap:=Bt 1 g a u 16;go_wp2_with (refine sR N.1 1 g a u 16 ?_);refine rR (A1 N.1 1 g a u 16) ?_;exact⟨.inl (by rw[ER];rfl),AC N.2 (AS _) _⟩
     |false=>
      have ap:=AT 1 g a u;go_wp2_with (refine sR N.1 1 g a u 0 ?_);refine rR (A1 N.1 1 g a u 0) ?_;exact⟨.inl (by rw[ER];rfl),AC N.2 (AS _) _⟩
theorem Sc(a b:AB):(a++b).size=a.size+b.size:=ByteArray.size_append
theorem jd(A B:AG):(KR A B).size<=A.length+1+B.length:=by
 unfold KR;split
 ·rw[AE];omega
 ·rw[Sc,Sc,AE,AE];show A.length+1+B.length<=_
  omega
theorem nH(x:Int)(a:-10000<x/\x<10000):(Re x).size<=5:=by
 unfold Re;split
 ·have:=FY (-x).toNat (by omega);rw[Sc,AE];show 1+_<=5
  omega
 ·have:=FY x.toNat (by omega);rw[Sc,AE];show 1+_<=5
  omega
theorem mi(e:Int)(L:AG)(a:AJ L)(c:L.length<=34)(d:-6176<=e/\e<=6111):(Su e L).size<=100:=by
 have f:=a.2.1;unfold Su;split
 ·rename_i h;generalize g:(-e).toNat=k;have i:=C9 (k+1) L;have:=jd ((Ak (k+1) L).take ((Ak (k+1) L).length-k)) ((Ak (k+1) L).drop ((Ak (k+1) L).length-k));rw[FQ,List.length_drop] at this;omega
 ·have b:=jd (L.take 1) (L.drop 1);rw[FQ,List.length_drop] at b;have j:=nH ((L.length:Int)-1+e) (by omega);rw[Sc,Sc];show _+1+_<=100
  omega
theorem KZ(k:Int)(b:Bool)(e:Int)(s:AB):(FI k b e s).size<=101:=by
 unfold FI;split
 ·rename_i h;have i:(DB b).size<=1:=by cases b<;>decide
  rw[Sc];have j:(P3 k e s).size<=100:=by
   unfold P3;by_cases a:k=2
   ·rw[zyp a];decide
   rw[zyn a];by_cases c:k=3
   ·rw[zyp c];decide
   rw[zyn c];by_cases d:k=4
   ·rw[zyp d];decide
   rw[zyn d];obtain⟨-,-,q,f⟩:=Av 128 k b e s h c d;obtain⟨g,l,m,n⟩:=f (q.resolve_right a);have o:AF 128=34:=by decide
   have p:AV 128=-6176:=by decide
   have r:Ad 128=6111:=by decide
   exact mi e (dl s) g (by omega) (by omega)
  omega
 ·decide
theorem mb(x y:Int):-1<=cI x y/\cI x y<=1:=by unfold cI;split<;>(try split)<;>omega
theorem jc(x y:Int)(a:-1<=x/\x<=1)(b:-1<=y/\y<=1):-1<=Lw x y/\Lw x y<=1:=by unfold Lw;split<;>assumption
theorem mf(c d:Int)(e:AB)(f g:Int)(h:AB):-1<=EU c d e f g h/\EU c d e f g h<=1:=by
 have i:∀x y,-1<=Lib.compareBytes x y/\Lib.compareBytes x y<=1:=λx=>by
  induction x with
  |nil=>intro y;cases y<;>simp[Lib.compareBytes]
  |cons a x ih=>
   intro y;cases y with
   |nil=>simp[Lib.compareBytes]
   |cons b y=>
    unfold Lib.compareBytes;split
    ·decide
    ·split
     ·decide
     ·exact ih y
 exact jc _ _ (mb _ _) (i _ _)
theorem me(f a:Int)(h:Bool)(b:Int)(c:AB)(d:Int)(i:Bool)(e:Int)(g:AB):-1<=UT f a h b c d i e g/\UT f a h b c d i e g<=3:=by
 have j:∀a b c d e g,-1<=DA false a b c d e g/\DA false a b c d e g<=1:=λa b c d e g=>by
  unfold DA;rw[zyn (by decide)];exact jc _ _ (mb _ _) (mf _ _ _ _ _ _)
 unfold UT;split
 ·split
  ·decide
  ·split
   ·decide
   ·unfold Ml;split
    ·decide
    ·split
     ·decide
     ·split
      ·have:=j d e g a b c;omega
      ·have:=j a b c d e g;omega
 ·decide
end Go.Proofs.YteofommckgeemaaGreatDoor
