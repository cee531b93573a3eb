/- Steps. -/
import Derived.Test.YteofommckgeemaaGreatDoorEBG
import Derived.Test.YteofommckgeemaaGreatDoorEBJ
namespace Go.Proofs.YteofommckgeemaaGreatDoor
open Go.RowKit Go.Proofs.Tryz
set_option linter.unusedVariables false
set_option maxRecDepth 100000
set_option maxHeartbeats 8000000
theorem Oe(f b:Int)(d:f=64\/f=128)(g:1<=b/\b<=5)(neg:Bool)(a:AG)(e c:Int)(w:AA)(h:AJ a)(i:a≠[0])(j:a.length<=200)(m:AF f<a.length)(k:-200000<=e/\e<=200000)(l:-200000<=c/\c<=200000):
 cB 88 #[.int .i64 f,.int .i64 b,.bool neg,.string (tx a),.int .i64 e,.bool true,.int .i64 c] w (BE neg (Al f b neg a e true c)):=by
 obtain⟨T,P,n,o,d,p,q,r⟩:=Uf f d;exact NP d b g neg a e c w h i j true (λ_=>by omega) k l
theorem Iw(f b:Int)(d:f=64\/f=128)(g:1<=b/\b<=5)(neg:Bool)(a:AG)(e:Int)(rest:Bool)(c:Int)(w:AA)(h:AJ a)(i:a.length<=200)(j:rest=true->a≠[0]/\AF f<a.length)(k:-200000<=e/\e<=200000)(l:-200000<=c/\c<=200000):
 cB 88 #[.int .i64 f,.int .i64 b,.bool neg,.string (tx a),.int .i64 e,.bool rest,.int .i64 c] w (BE neg (Al f b neg a e rest c)):=by
 cases rest with
 |false=>exact GS f b d g neg a e c w h i k l
 |true=>exact Oe f b d g neg a e c w h (j rfl).1 i (j rfl).2 k l
def TQ(w:AA)(i:Nat)(a:Int)(b:Bool)(c:Int)(d:AB)(e:Int)(f:Bool)(g:Int)(h:AB)(j:Bool)(W:AA):Prop:=
 A4 W w.heap.size a b c d/\A4 W (w.heap.size+1) e f g h/\A4 W i 2 j 0 ⟨#[]⟩/\AD w.heap.size w W
theorem TQ.next{w W b:AA}{i:Nat}{c:Int}{d:Bool}{e:Int}{f:AB}{g:Int}{j:Bool}{k:Int}{l:AB}{m:Bool}(h:TQ w i c d e f g j k l m W)(a:AD W.heap.size W b):TQ w i c d e f g j k l m b:=
 ⟨h.1.next a,h.2.1.next a,h.2.2.1.next a,h.2.2.2.trans (a.mono h.2.2.2.size)⟩
def mB(f:Int)(a:Bool)(b c:Int)(e d:Bool):Ending:=
 if (b=2/\c=2)\/(e=true/\d=true) then Aa (BA 3 false 0 {data:=#[]} 1)
 else if b=2 then Aa (BA 2 a 0 {data:=#[]} 0)
 else if c=2 then Aa (BA 1 a (AV f) {data:=#[48]} 0)
 else if d=true then Aa (BA 2 a 0 {data:=#[]} 2)
 else .returned (.tuple #[])
theorem JV(f:Int)(z:Int)(na:Bool)(ea:Int)(J:AB)(A:Int)(nb:Bool)(eb:Int)(sb:AB)(w:AA)(hr:Nz f z ea J)(ai:Nz f A eb sb):
 Calls prog 84 #[.int .i64 f,AH z na ea J,AH A nb eb sb] w λx w'=>x=mB f (!(na==nb)) z A (zB z J) (zB A sb)/\AD w.heap.size w w':=by
 have G:=zq λX=>Eb f X;have aj:=zq λX=>Dy hr na X;have ae:=zq λX=>Dy ai nb X;obtain⟨I,ak⟩:=zxe (!(na==nb));rw[ak];have am:z=2->zB z J=false:=λh=>by rw[h];rfl
 have al:A=2->zB A sb=false:=λh=>by rw[h];rfl
 obtain⟨RE,u⟩:=zxe (mB f I z A (zB z J) (zB A sb));rw[u];unfold mB at u;generalize zB z J=za at*
 generalize zB A sb=zb at*
 generalize AV f=L0 at*
 generalize Ad f=H0 at*
 generalize AF f=P0 at*
 have aT:=EA I;have H:Hid (∀W,AD (((w.alloc (AY z na ea J)).alloc (AY A nb eb sb))).heap.size ((w.alloc (AY z na ea J)).alloc (AY A nb eb sb)) W->TQ w W.heap.size z na ea J A nb eb sb I (W.alloc (AY 2 I 0 ⟨#[]⟩))/\A4 W w.heap.size z na ea J/\A4 W (w.heap.size+1) A nb eb sb):=λW hW=>by
  have h1:=As w (.int .i64 z) (.bool na) (.int .i64 ea) (.string J);have z1:=AN w (AY z na ea J);have b1:AD w.heap.size w (w.alloc (AY z na ea J)):=bA;generalize w.alloc (AY z na ea J)=y at*
  have h2:=As y (.int .i64 A) (.bool nb) (.int .i64 eb) (.string sb);have b2:AD y.heap.size y (y.alloc (AY A nb eb sb)):=bA;rw[z1] at h2;have aC:=(h1.next b2).next hW;have aD:=h2.next hW;have aE:=b1.trans (b2.mono b1.size);have aF:=aE.trans (hW.mono aE.size);have bn:AD W.heap.size W (W.alloc (AY 2 I 0 ⟨#[]⟩)):=bA;exact⟨⟨aC.next bn,aD.next bn,As W _ _ _ _,aF.trans (bn.mono aF.size)⟩,aC,aD⟩
 by_cases Y:z=2
 ·have aL:=am Y;subst aL Y;by_cases K:A=2
  ·have aw:=al K;subst aw K;rw[zyp (.inl ⟨rfl,rfl⟩)] at u;have Z:=zq u;clear u am al hr ai aj ae;go_enter func84,ntmps84;go_wp2_with fail;refine cm (G _) λy q=>?_;obtain⟨a,r,s⟩:=H _ q;obtain⟨d,e,g,i,j⟩:=r.cells;obtain⟨k,l,m,n,o⟩:=s.cells;obtain⟨L,M,N,O,P⟩:=a.1.cells;obtain⟨Q,R,S,T,U⟩:=a.2.1.cells;have t:=zq a;clear q a r s H G;go_wp2_with fail;refine cm (A6 _) λwz ax=>?_;go_wp2;exact⟨rfl,by rw[<-Z],(t.next ax).2.2.2⟩
  ·rw[zyn (by rintro(c|c);exact K c.2;cases c.1),zyp rfl] at u;have Z:=zq u;have aU:(A==2)=false:=beq_eq_false_iff_ne.2 K;clear u am al hr ai K ae;go_enter func84,ntmps84;go_wp2_with fail;refine cm (G _) λy q=>?_;obtain⟨a,r,s⟩:=H _ q;obtain⟨d,e,g,i,j⟩:=r.cells;obtain⟨k,l,m,n,o⟩:=s.cells;obtain⟨L,M,N,O,P⟩:=a.1.cells;obtain⟨Q,R,S,T,U⟩:=a.2.1.cells;have t:=zq a;clear q a r s H G;go_wp2_with fail;generalize y.heap.size=b1 at*
   refine cm (aj _) λw2 v=>?_;have b:=zq (t.next v);clear d e g i j k l m n o L M N O P Q R S T U ak;obtain⟨d,e,g,i,j⟩:=b.1.cells;obtain⟨k,l,m,n,o⟩:=b.2.1.cells;obtain⟨B,C,D,E,F⟩:=b.2.2.1.cells;clear v t;have ay:=AT 2 I 0 {data:=#[]};have az:=EI 2 I 0 {data:=#[]} 0;go_wp2;exact⟨rfl,by rw[<-Z],b.2.2.2⟩
 ·have aN:=hr.2.2.1.resolve_right Y;subst aN;by_cases K:A=2
  ·have aw:=al K;subst aw K;rw[zyn (by rintro(c|c);exact Y c.1;cases c.2),zyn Y,zyp rfl] at u;have Z:=zq u;clear u am al hr ai Y;cases za with
   |true=>
    go_enter func84,ntmps84;go_wp2_with fail;refine cm (G _) λy q=>?_;obtain⟨a,r,s⟩:=H _ q;obtain⟨d,e,g,i,j⟩:=r.cells;obtain⟨k,l,m,n,o⟩:=s.cells;obtain⟨L,M,N,O,P⟩:=a.1.cells;obtain⟨Q,R,S,T,U⟩:=a.2.1.cells;have t:=zq a;clear q a r s H G;go_wp2_with fail;generalize y.heap.size=b1 at*
    refine cm (aj _) λw2 v=>?_;have b:=zq (t.next v);clear d e g i j k l m n o L M N O P Q R S T U ak;obtain⟨d,e,g,i,j⟩:=b.1.cells;obtain⟨k,l,m,n,o⟩:=b.2.1.cells;obtain⟨B,C,D,E,F⟩:=b.2.2.1.cells;clear v t;go_wp2_with fail;refine cm (ae _) λw3 V=>?_;have p:=zq (b.next V);clear d e g i j k l m n o B C D E F;obtain⟨d,e,g,i,j⟩:=p.1.cells;obtain⟨k,l,m,n,o⟩:=p.2.1.cells;obtain⟨B,C,D,E,F⟩:=p.2.2.1.cells;clear V b;have ay:=Cp 1 I L0 {data:=#[48]};have az:=AT 1 I L0 {data:=#[48]};have aO:=EI 1 I L0 {data:=#[48]} 0;go_wp2;exact⟨rfl,by rw[<-Z],p.2.2.2⟩
   |false=>
    clear ae;go_enter func84,ntmps84;go_wp2_with fail;refine cm (G _) λy q=>?_;obtain⟨a,r,s⟩:=H _ q;obtain⟨d,e,g,i,j⟩:=r.cells;obtain⟨k,l,m,n,o⟩:=s.cells;obtain⟨L,M,N,O,P⟩:=a.1.cells;obtain⟨Q,R,S,T,U⟩:=a.2.1.cells;have t:=zq a;clear q a r s H G;go_wp2_with fail;generalize y.heap.size=b1 at*
    refine cm (aj _) λw2 v=>?_;have b:=zq (t.next v);clear d e g i j k l m n o L M N O P Q R S T U ak;obtain⟨d,e,g,i,j⟩:=b.1.cells;obtain⟨k,l,m,n,o⟩:=b.2.1.cells;obtain⟨B,C,D,E,F⟩:=b.2.2.1.cells;clear v t;have ay:=Cp 1 I L0 {data:=#[48]};have az:=AT 1 I L0 {data:=#[48]};have aO:=EI 1 I L0 {data:=#[48]} 0;go_wp2;exact⟨rfl,by rw[<-Z],b.2.2.2⟩
  ·have aP:=ai.2.2.1.resolve_right K;subst aP;cases zb with
   |true=>
    cases za with
    |true=>
     rw[zyp (.inr ⟨rfl,rfl⟩)] at u;have Z:=zq u;clear u am al hr ai Y K;go_enter func84,ntmps84;go_wp2_with fail;refine cm (G _) λy q=>?_;obtain⟨a,r,s⟩:=H _ q;obtain⟨d,e,g,i,j⟩:=r.cells;obtain⟨k,l,m,n,o⟩:=s.cells;obtain⟨L,M,N,O,P⟩:=a.1.cells;obtain⟨Q,R,S,T,U⟩:=a.2.1.cells;have t:=zq a;clear q a r s H G;go_wp2_with fail;generalize y.heap.size=b1 at*
     refine cm (aj _) λw2 v=>?_;have b:=zq (t.next v);clear d e g i j k l m n o L M N O P Q R S T U ak;obtain⟨d,e,g,i,j⟩:=b.1.cells;obtain⟨k,l,m,n,o⟩:=b.2.1.cells;obtain⟨B,C,D,E,F⟩:=b.2.2.1.cells;clear v t;go_wp2_with fail;refine cm (ae _) λw3 V=>?_;have p:=zq (b.next V);clear d e g i j k l m n o B C D E F;obtain⟨d,e,g,i,j⟩:=p.1.cells;obtain⟨k,l,m,n,o⟩:=p.2.1.cells;obtain⟨B,C,D,E,F⟩:=p.2.2.1.cells;clear V b;go_wp2_with fail;refine cm (A6 _) λwz ax=>?_;go_wp2;exact⟨rfl,by rw[<-Z],(p.next ax).2.2.2⟩
    |false=>
     rw[zyn (by rintro(c|c);exact Y c.1;cases c.1),zyn Y,zyn K,zyp rfl] at u;have Z:=zq u;clear u am al hr ai Y K;go_enter func84,ntmps84;go_wp2_with fail;refine cm (G _) λy q=>?_;obtain⟨a,r,s⟩:=H _ q;obtain⟨d,e,g,i,j⟩:=r.cells;obtain⟨k,l,m,n,o⟩:=s.cells;obtain⟨L,M,N,O,P⟩:=a.1.cells;obtain⟨Q,R,S,T,U⟩:=a.2.1.cells;have t:=zq a;clear q a r s H G;go_wp2_with fail;generalize y.heap.size=b1 at*
     refine cm (aj _) λw2 v=>?_;have b:=zq (t.next v);clear d e g i j k l m n o L M N O P Q R S T U ak;obtain⟨d,e,g,i,j⟩:=b.1.cells;obtain⟨k,l,m,n,o⟩:=b.2.1.cells;obtain⟨B,C,D,E,F⟩:=b.2.2.1.cells;clear v t;go_wp2_with fail;refine cm (ae _) λw3 V=>?_;have p:=zq (b.next V);clear d e g i j k l m n o B C D E F;obtain⟨d,e,g,i,j⟩:=p.1.cells;obtain⟨k,l,m,n,o⟩:=p.2.1.cells;obtain⟨B,C,D,E,F⟩:=p.2.2.1.cells;clear V b;have ay:=Bt 2 I 0 {data:=#[]} 2;have az:=EI 2 I 0 {data:=#[]} 2;go_wp2;exact⟨rfl,by rw[<-Z],p.2.2.2⟩
   |false=>
    rw[zyn (by rintro(c|c);exact Y c.1;cases c.2),zyn Y,zyn K,zyn (by decide)] at u;have Z:=zq u;clear u am al hr ai Y K;cases za with
    |true=>
     go_enter func84,ntmps84;go_wp2_with fail;refine cm (G _) λy q=>?_;obtain⟨a,r,s⟩:=H _ q;obtain⟨d,e,g,i,j⟩:=r.cells;obtain⟨k,l,m,n,o⟩:=s.cells;obtain⟨L,M,N,O,P⟩:=a.1.cells;obtain⟨Q,R,S,T,U⟩:=a.2.1.cells;have t:=zq a;clear q a r s H G;go_wp2_with fail;generalize y.heap.size=b1 at*
     refine cm (aj _) λw2 v=>?_;have b:=zq (t.next v);clear d e g i j k l m n o L M N O P Q R S T U ak;obtain⟨d,e,g,i,j⟩:=b.1.cells;obtain⟨k,l,m,n,o⟩:=b.2.1.cells;obtain⟨B,C,D,E,F⟩:=b.2.2.1.cells;clear v t;go_wp2_with fail;refine cm (ae _) λw3 V=>?_;have p:=zq (b.next V);clear d e g i j k l m n o B C D E F;obtain⟨d,e,g,i,j⟩:=p.1.cells;obtain⟨k,l,m,n,o⟩:=p.2.1.cells;obtain⟨B,C,D,E,F⟩:=p.2.2.1.cells;clear V b;go_wp2_with fail;refine cm (ae _) λw4 aG=>?_;have aq:=zq (p.next aG);clear d e g i j k l m n o B C D E F;obtain⟨d,e,g,i,j⟩:=aq.1.cells;obtain⟨k,l,m,n,o⟩:=aq.2.1.cells;obtain⟨B,C,D,E,F⟩:=aq.2.2.1.cells;clear aG p;go_wp2;first|go_end0|refine Do (results_none rfl _ _ _) rfl ?_
     exact⟨by rw[<-Z],aq.2.2.2⟩
    |false=>
     go_enter func84,ntmps84;go_wp2_with fail;refine cm (G _) λy q=>?_;obtain⟨a,r,s⟩:=H _ q;obtain⟨d,e,g,i,j⟩:=r.cells;obtain⟨k,l,m,n,o⟩:=s.cells;obtain⟨L,M,N,O,P⟩:=a.1.cells;obtain⟨Q,R,S,T,U⟩:=a.2.1.cells;have t:=zq a;clear q a r s H G;go_wp2_with fail;generalize y.heap.size=b1 at*
     refine cm (aj _) λw2 v=>?_;have b:=zq (t.next v);clear d e g i j k l m n o L M N O P Q R S T U ak;obtain⟨d,e,g,i,j⟩:=b.1.cells;obtain⟨k,l,m,n,o⟩:=b.2.1.cells;obtain⟨B,C,D,E,F⟩:=b.2.2.1.cells;clear v t;go_wp2_with fail;refine cm (ae _) λw3 V=>?_;have p:=zq (b.next V);clear d e g i j k l m n o B C D E F;obtain⟨d,e,g,i,j⟩:=p.1.cells;obtain⟨k,l,m,n,o⟩:=p.2.1.cells;obtain⟨B,C,D,E,F⟩:=p.2.2.1.cells;clear V b;go_wp2;first|go_end0|refine Do (results_none rfl _ _ _) rfl ?_
     exact⟨by rw[<-Z],p.2.2.2⟩
theorem W5(f i:Int)(b:Int)(d:Bool)(j:Int)(e:AB)(a:Int)(g:Bool)(k:Int)(c:AB)(l:b=1\/b=2)(m:a=1\/a=2)(h:¬(b=1/\a=1/\zB a c=false)):
 mB f (!(d==g)) b a (zB b e) (zB a c)=Aa (BE (Pw f i b d j e a g k c).1 (Pw f i b d j e a g k c).2):=by
 unfold mB Pw;split
 ·rfl
 ·rename_i q;split
  ·rfl
  ·rename_i n;split
   ·rfl
   ·rename_i o;split
    ·rfl
    ·rename_i p;refine absurd ⟨l.resolve_right n,m.resolve_right o,?_⟩ h;simpa using p
def ZJ(X:AA)(p:Nat)(f a:Int)(c:Bool)(d:Int)(e:AB)(g:Bool)(h:Int)(i:AB)(b:Nat)(P:Int)(W:AA):Prop:=
 Z5 W X.heap.size/\AD X.heap.size X W/\XP W p f a 1 c d e 1 g h i/\W.cell? ⟨b,0,none⟩=some (.int .i64 P)/\b<W.heap.size
theorem ZJ.next{X W c:AA}{p:Nat}{f d:Int}{e:Bool}{g:Int}{i:AB}{j:Bool}{k:Int}{l:AB}{b:Nat}{P:Int}(h:ZJ X p f d e g i j k l b P W)(a:AD W.heap.size W c):ZJ X p f d e g i j k l b P c:=
 ⟨h.1.below a h.1.lt,h.2.1.trans (a.mono h.2.1.size),h.2.2.1.next a,(a.cell (p:=⟨b,0,none⟩) h.2.2.2.2).trans h.2.2.2.1,DU h.2.2.2.2 a.size⟩
theorem Xq(p:Nat)(f i:Int)(o:Int)(j:Bool)(e:Int)(a:AB)(m:Int)(l:Bool)(g:Int)(d:AB)(X:AA)(hm:1<=i/\i<=5)(y:Nz f o e a)(L:Nz f m g d)(n:XP X p f i o j e a m l g d):
 Calls prog 83 #[.pointer (some ⟨p,0,none⟩),.pointer (some ⟨p+2,0,none⟩),.pointer (some ⟨p+3,0,none⟩),.pointer (some ⟨p+1,0,none⟩)] X λx w'=>(x=.returned (BE (Pw f i o j e a m l g d).1 (Pw f i o j e a m l g d).2)\/x=Aa (BE (Pw f i o j e a m l g d).1 (Pw f i o j e a m l g d).2))/\AD X.heap.size X w':=by
 have ah:AD X.heap.size X (X.alloc A2):=bA;have z:Hid (Z5 (X.alloc A2) X.heap.size/\AD X.heap.size X (X.alloc A2)/\XP (X.alloc A2) p f i o j e a m l g d):=⟨Af X _ _ _ _ _,ah,n.next ah⟩;have U:=zq λY=>JV f o j e a m l g d Y y L;obtain⟨M,N,B,D⟩:=z.2.2;obtain⟨q,s,u,v,w⟩:=B.cells;obtain⟨E,F,G,H,I⟩:=D.cells;clear B D ah n;by_cases ai:o=1/\m=1/\zB m d=false;case neg=>
  have J:=W5 f i o j e a m l g d y.2.2.1 L.2.2.1 ai;rw[J] at U;generalize Pw f i o j e a m l g d=R at*
  obtain⟨R0,F1,F2,F3,F4⟩:=R;clear J ai hm y L;go_enter func83,ntmps83;go_wp2_with fail;refine cm (U _) λw1 O=>?_;go_wp2;exact⟨rfl,.inr rfl,z.2.1.trans (O.mono z.2.1.size)⟩
 obtain⟨rfl,rfl,Q⟩:=ai;have aa:vl (dl d)≠0:=by
  unfold zB at Q;simpa using Q
 have J:mB f (!(j==l)) 1 1 (zB 1 a) (zB 1 d)=.returned (.tuple #[]):=by
  unfold mB;rw[Q,zyn (by rintro(c|c);exact absurd c.1 (by decide);cases c.2),zyn (by decide),zyn (by decide),zyn (by decide)]
 rw[J] at U;obtain⟨V,ap⟩:=zxe (!(j==l));obtain⟨aA,aB,aW,-,aX,aY,aZ,a0⟩:=y.tn rfl;obtain⟨aC,aq,a1,-,a2,a3,a5,a6⟩:=L.tn rfl;obtain⟨ca,aE,-,-⟩:=y.2.2.2.1 rfl;obtain⟨cb,aG,-,-⟩:=L.2.2.2.1 rfl;have hP:1<=AF f/\AF f<=34:=by rcases y.1 with rfl|rfl<;>decide
 obtain⟨W,n2,n3,au,aH⟩:=UZ f y.1 (dl a) (dl d) ca cb aE aG aa;obtain⟨k,hk⟩:=zxe (Jd f (dl a).length (dl d).length);have a8:(k:Int)=AF f-a.size+d.size+1:=by rw[<-hk];unfold Jd;omega
 have EX:Pw f i 1 j e a 1 l g d=(V,Al f i V (nt (vl (dl a)*10^k/vl (dl d))) (e-g-k) (!decide (vl (dl a)*10^k%vl (dl d)=0)) (e-g)):=by
  unfold Pw;rw[zyn (by rintro(c|c);exact absurd c.1 (by decide);rw[Q] at c;cases c.2),zyn (by decide),zyn (by decide),zyn (by rw[Q];decide),ap,hk]
 rw[hk] at W n2 n3 au aH;have aJ:Hid (cA 87 #[.string a,.int .i64 k] (.string (tn (vl (dl a)*10^k)))):=λY=>by
  have:=DQ (tn (vl (dl a))) k Y (T6 _);rw[MP aB (by simpa using W) (by omega) (by omega),<-aA] at this;simpa using this
 have aK:Hid (cA 86 #[.string (tn (vl (dl a)*10^k)),.string d] (.tuple #[.string (tn (vl (dl a)*10^k/vl (dl d))),.string (tn (vl (dl a)*10^k%vl (dl d)))])):=λY=>by
  have:=Ql (tn (vl (dl a)*10^k)) (tn (vl (dl d))) Y (T6 _) (T6 _);rw[(Xs W aq aa).1,(Xs W aq aa).2,<-aC] at this;exact this
 obtain⟨zz,Z⟩:=zxe (decide (vl (dl a)*10^k%vl (dl d)=0));have bk:((tn (vl (dl a)*10^k%vl (dl d))).toList==[48])=zz:=by
  rw[<-Z];by_cases c:vl (dl a)*10^k%vl (dl d)=0
  ·rw[c,T7];rfl
  ·rw[J6 n3 c,By c]
 have aL:Hid (cA 88 #[.int .i64 f,.int .i64 i,.bool V,.string (tn (vl (dl a)*10^k/vl (dl d))),.int .i64 (e-g-k),.bool (!zz),.int .i64 (e-g)] (BE (Pw f i 1 j e a 1 l g d).1 (Pw f i 1 j e a 1 l g d).2)):=λY=>by
  obtain⟨cq,vq⟩:=Ae n2;have:=Iw f i y.1 hm V (nt (vl (dl a)*10^k/vl (dl d))) (e-g-k) (!zz) (e-g) Y cq (Cm n2) (λh=>by
   have ba:vl (dl a)≠0:=λc=>by
    rw[c,Int.zero_mul,Int.zero_emod] at Z;rw[<-Z] at h;cases h
   have h1:=au ba;have h2:=Ox _ cq (AF f).toNat (by rw[vq];exact h1);refine⟨λc=>?_,by omega⟩;rw[c] at h2;simp at h2;omega) (by omega) (by omega)
  rw[EX,Z];dsimp only;exact this
 generalize Pw f i 1 j e a 1 l g d=R at*
 obtain⟨R0,F1,F2,F3,F4⟩:=R;have bc:=zw (e-g) (by omega);have be:IntKind.i64.wrap (AF f-(a.size:Int)+(d.size:Int))=AF f-a.size+d.size:=Dn (by omega);have bf:IntKind.i64.wrap (AF f-(a.size:Int)+(d.size:Int)+1)=(k:Int):=Dn (by omega);have bm:IntKind.i64.wrap (e-g-(k:Int))=e-g-k:=Dn (by omega);have aO:=zq λY=>IW f Y;have aP:=zq λb Y h=>Hj b (AF f) a Y h (by omega) y.small;have bg:=zq (enters_of func158 (by kernel_rfl) rfl);have bo:(!(j==l))=V:=ap;clear y L hm J aa Q EX aA aB aW aX aY aZ a0 aC aq a1 a2 a3 a5 a6 ca aE cb aG hP W n2 n3 au aH hk a8 Z ap;generalize tn (vl (dl a)*10^k/vl (dl d))=bp at*
 generalize tn (vl (dl a)*10^k%vl (dl d))=bq at*
 generalize tn (vl (dl a)*10^k)=br at*
 generalize AF f=P at*
 generalize P-(a.size:Int)=bs at*
 generalize (k:Int)=K1 at*
 go_enter func83,ntmps83;go_wp2_with fail;refine cm (U _) λw1 O=>?_;have K:=J9 (z.1.below O z.1.lt) (z.2.1.trans (O.mono z.2.1.size)) (z.2.2.next O);clear O z U M N q s u v w E F G H I;obtain⟨M,N,B,D⟩:=K.2.2;obtain⟨q,s,u,v,w⟩:=B.cells;obtain⟨E,F,G,H,I⟩:=D.cells;clear B D;go_upto_region 2 with fail;go_cut [5,6] (λr t S=>∃b,r=er b/\t=.int .i64 (e-g)/\Hid (ZJ X p f i j e a l g d b P S));case first=>
  go_region_with (go_at_call 85;refine(aO _).mono ?_;rintro x w2 ⟨b,rfl,T,bi,aQ,aR⟩;have ad:=(BI w1.heap.size w1).drew.trans (aR.mono (AS _));have A:Hid (ZJ X p f i j e a l g d b P w2):=⟨K.1.below ad K.1.lt,K.2.1.trans (ad.mono K.2.1.size),K.2.2.next ad,T,aQ⟩;clear T bi aQ aR ad M N q s u v w E F G H I;obtain⟨q,s,u,v,w⟩:=A.2.2.1.2.2.1.cells;obtain⟨E,F,G,H,I⟩:=A.2.2.1.2.2.2.cells);all_goals
   go_wp2;go_meet;case rel=>exact⟨b,rfl,rfl,A⟩
 case rest=>
  obtain⟨b,rfl,rfl,A⟩:=hcut;clear K aO bc M N q s u v w E F G H I;unfold er;have J:=bg.out;go_upto_region 3 with fail;have aS:=dR wc;refine AP (C:=AD wc.heap.size wc) aS ?_;repeat (go_big_quiet_step ((intro n;rename_i S;first|exact rfl|(have bj:=(A.out.next n).2.2.2.1;(with_reducible refine(aP.out b S bj).mono ?_);rintro x w' ⟨rfl,rfl⟩;exact⟨rfl,n⟩)|(obtain⟨q,s,u,v,w⟩:=(A.out.next n).2.2.1.2.2.1.cells;go_simp;exact rfl)|(obtain⟨q,s,u,v,w⟩:=(A.out.next n).2.2.1.2.2.2.cells;go_simp;exact rfl))))
  refine wpQuiet_nil ?_;intro w3 aT;have ae:=zq (A.next aT);clear aT A aS aP J be bf;go_upto_region 4 with fail;have aU:=dR w3;refine AP (C:=AD w3.heap.size w3) aU ?_;repeat (go_big_quiet_step ((intro n;rename_i S;first|exact rfl|((with_reducible refine Calls.class_of (aJ.out S) ?_);exactλw' T=>BQ n T)|((with_reducible refine Calls.class_of (aK.out S) ?_);exactλw' T=>BQ n T)|(obtain⟨q,s,u,v,w⟩:=(ae.out.next n).2.2.1.2.2.1.cells;go_simp;exact rfl)|(obtain⟨q,s,u,v,w⟩:=(ae.out.next n).2.2.1.2.2.2.cells;go_simp;exact rfl))))
  refine wpQuiet_nil ?_;intro w4 aV;have af:=zq (ae.next aV);clear aV ae aU aJ aK;obtain⟨M,N,B,D⟩:=af.2.2.1;obtain⟨q,s,u,v,w⟩:=B.cells;obtain⟨E,F,G,H,I⟩:=D.cells;clear B D;go_wp2_with fail;refine cm (aL _) λw5 ax=>?_;have ay:=Ab ((af.next ax).1) ((af.next ax).2.1);clear ax af aL M N q s u v w E F G H I;go_wp2_with (refine sR ay.1 F1 R0 F2 F3 F4 ?_);refine rR (A1 ay.1 F1 R0 F2 F3 F4) ?_;exact⟨.inl rfl,AC ay.2 (AS _) _⟩
theorem Ya(f k:Int)(c:Int)(d:Bool)(e:Int)(a:AB)(g:Int)(h:Bool)(j:Int)(b:AB)(w:AA)(s:a.size<=4611686018427387904)(t:b.size<=4611686018427387904):
 cB 31 #[.int .i64 f,.int .i64 k,AH c d e a,AH g h j b] w (BE (XH f k c d e a g h j b).1 (XH f k c d e a g h j b).2):=by
 have ab:∀(u:Fn) (first v:Array AK) (w:AA),(Instr.makeFunc u first v).run prog w=.ok (.func u first v) w:=λ_ _ _ _=>rfl;have x:=zq (enters_of func83 (by kernel_rfl) rfl);obtain⟨W,p⟩:=zxe (Sl w f k c d e a g h j b);have l:=UR w f k c d e a g h j b;rw[p] at l;have n:AD W.heap.size W (W.alloc (.cells #[.int .i64 c,.bool d,.int .i64 e,.string a,.int .i64 g,.bool h,.int .i64 j,.string b] 78)):=bA;obtain⟨y,z⟩:=Rn W c d e a g h j b;have o:Hid (cB 82 #[.int .i64 f,.int .i64 k,.func (.func 83) #[] #[.pointer (some ⟨w.heap.size,0,none⟩),.pointer (some ⟨w.heap.size+2,0,none⟩),.pointer (some ⟨w.heap.size+3,0,none⟩),.pointer (some ⟨w.heap.size+1,0,none⟩)],.slice (some ⟨W.heap.size,0,none⟩) 2 2] (W.alloc (.cells #[.int .i64 c,.bool d,.int .i64 e,.string a,.int .i64 g,.bool h,.int .i64 j,.string b] 78)) (BE (XH f k c d e a g h j b).1 (XH f k c d e a g h j b).2)):=
  DR f k 83 _ x 2 W.heap.size (AX c g) (AX d h) (AX e j) (AX a b) (Pw f k c d e a g h j b) _ (by decide) (by decide) z y (λi S=>by match i,S with
   |0,_=>exact s
   |1,_=>exact t) (λT U Y V=>by
   obtain⟨X,Z,aa⟩:=LE T U;exact Xq w.heap.size f k c d e a g h j b Y X Z aa ((l.1.next n).next V))
 have m:=Ab (l.2.1.below n l.2.1.lt) (l.2.2.1.trans (n.mono l.2.2.1.size));rw[l.2.2.2] at o;obtain⟨A,B,C,D⟩:=l.1;obtain⟨E,F,G,H,-⟩:=C.cells;obtain⟨I,J,K,L,-⟩:=D.cells;rw[<-p] at o m A B E F G H I J K L;clear p l n y z s t x C D;generalize XH f k c d e a g h j b=R at*
 obtain⟨M,N,O,P,Q⟩:=R;go_enter func31,ntmps31;go_wp2_with fail;refine cm o λw1 q=>?_;have r:=Ab (m.1.below q m.1.lt) (m.2.trans (q.mono m.2.size));clear q m o A B E F G H I J K L;go_wp2_with (refine sR r.1 N M O P Q ?_);refine rR (A1 r.1 N M O P Q) ?_;exact⟨rfl,AC r.2 (by omega) _⟩
theorem Iu(e:Int)(w:AA)(a:-100000<=e)(b:e<=100000):cE 97 #[.int .i64 e] w (.int .i64 (e/2)):=by
 have c:=zw (e/2) (by omega);clear a b;go_enter func97,ntmps97;go_wp2;go_ret;exact⟨rfl,rfl⟩
theorem M9(b:Nat)(f:Int)(i:Bool)(d:Int)(a:AB)(w:AA)(n:Nz f 1 d a)(y:w.cell? ⟨b,0,none⟩=some (.int .i64 (AF f)))(s:b<w.heap.size):
 cB 95 #[er b,AH 1 i d a] w (.int .i64 (LI f d (dl a).length)):=by
 have Q:1<=AF f/\AF f<=34:=by rcases n.1 with rfl|rfl<;>decide
 obtain⟨-,-,-,-,R,S,J,T⟩:=n.tn rfl;obtain⟨-,U,-,-⟩:=n.2.2.2.1 rfl;have t:=zq λY h=>Hj b (AF f) a Y h (by omega) n.small;have u:=zq (enters_of func158 (by kernel_rfl) rfl);obtain⟨e,K⟩:=zxe (2*AF f-(a.size:Int)+1);have L:IntKind.i64.wrap (AF f-(a.size:Int)+1)=AF f-a.size+1:=Dn (by omega);have M:IntKind.i64.wrap (2*(AF f-(a.size:Int)+1))=2*(AF f-a.size+1):=Dn (by omega);have N:IntKind.i64.wrap (2*(AF f-(a.size:Int)+1)+(a.size:Int))=2*(AF f-a.size+1)+a.size:=Dn (by omega);have O:IntKind.i64.wrap (2*(AF f-(a.size:Int)+1)+(a.size:Int)-1)=e:=Dn (by omega);have aa:=zw (d-e) (by omega);have ab:=zw (e+1) (by omega);have ac:IntKind.i64.wrap (Int.tmod (d-e) 2)=Int.tmod (d-e) 2:=by
  rw[IntKind.wrap_i64];have:=Int.tmod_lt_of_pos (d-e) (show(0:Int)<2 by decide);have h2:-2<Int.tmod (d-e) 2:=by
   have:=Int.lt_tmod_of_pos (d-e) (show(0:Int)<2 by decide);omega
  omega
 have l:(LI f d (dl a).length:Int)=if (d-e)%2=0 then e else e+1:=by
  unfold LI;rw[<-J,K];split<;>omega
 have v:(Int.tmod (d-e) 2=0)↔(d-e)%2=0:=by
  rw[<-Int.dvd_iff_tmod_eq_zero,<-Int.dvd_iff_emod_eq_zero]
 have V:=Ab y s;generalize (LI f d (dl a).length:Int)=KK at*
 have o:A4 (w.alloc (AY 1 i d a)) w.heap.size 1 i d a/\AD w.heap.size w (w.alloc (AY 1 i d a)):=⟨As w _ _ _ _,bA⟩;have g:Hid (A4 (w.alloc (AY 1 i d a)) w.heap.size 1 i d a/\AD w.heap.size w (w.alloc (AY 1 i d a))/\(w.alloc (AY 1 i d a)).cell? ⟨b,0,none⟩=some (.int .i64 (AF f))/\b<(w.alloc (AY 1 i d a)).heap.size):=⟨o.1,o.2,(o.2.cell (p:=⟨b,0,none⟩) s).trans y,DU s o.2.size⟩;clear o y s Q R S J T U n V K;generalize AF f=P at*
 generalize P-(a.size:Int)=af at*
 by_cases m:(d-e)%2=0
 ·have W:=v.2 m;rw[zyp m] at l;have z:=zq l;clear v m l;have A:=u.out;unfold er;go_enter func95,ntmps95;go_upto_region 1 with fail;generalize w.alloc (AY 1 i d a)=w0 at*
  have q:=dR w0;refine AP (C:=AD w0.heap.size w0) q ?_;repeat (go_big_quiet_step ((intro j;rename_i B;first|exact rfl|(have D:=(j.cell (p:=⟨b,0,none⟩) g.out.2.2.2).trans g.out.2.2.1;(with_reducible refine(t.out B D).mono ?_);rintro x X ⟨rfl,rfl⟩;exact⟨rfl,j⟩)|(obtain⟨E,F,G,H,I⟩:=(g.out.1.next j).cells;go_simp;exact rfl))))
  refine wpQuiet_nil ?_;intro Z k;have r:=Ab (g.1.next k) (g.2.1.trans (k.mono g.2.1.size));clear k g q t A u L M N O;obtain⟨E,F,G,H,I⟩:=r.1.cells;go_wp2;go_ret;exact⟨by rw[z];rfl,r.2⟩
 ·have W:(Int.tmod (d-e) 2==0)=false:=beq_eq_false_iff_ne.2 (λc=>m (v.1 c));rw[zyn m] at l;have z:=zq l;clear v m l;have A:=u.out;unfold er;go_enter func95,ntmps95;go_upto_region 1 with fail;generalize w.alloc (AY 1 i d a)=w0 at*
  have q:=dR w0;refine AP (C:=AD w0.heap.size w0) q ?_;repeat (go_big_quiet_step ((intro j;rename_i B;first|exact rfl|(have D:=(j.cell (p:=⟨b,0,none⟩) g.out.2.2.2).trans g.out.2.2.1;(with_reducible refine(t.out B D).mono ?_);rintro x X ⟨rfl,rfl⟩;exact⟨rfl,j⟩)|(obtain⟨E,F,G,H,I⟩:=(g.out.1.next j).cells;go_simp;exact rfl))))
  refine wpQuiet_nil ?_;intro Z k;have r:=Ab (g.1.next k) (g.2.1.trans (k.mono g.2.1.size));clear k g q t A u L M N O;obtain⟨E,F,G,H,I⟩:=r.1.cells;go_wp2;go_ret;exact⟨by rw[z];rfl,r.2⟩
def jr(X:AA)(p:Nat)(f a:Int)(b:Int)(c:Bool)(d:Int)(e:AB):Prop:=X.cell? ⟨p,0,none⟩=some (.int .i64 f)/\X.cell? ⟨p+1,0,none⟩=some (.int .i64 a)/\A4 X (p+2) b c d e
theorem jr.next{X b:AA}{p:Nat}{f c:Int}{d:Int}{e:Bool}{g:Int}{i:AB}(h:jr X p f c d e g i)(a:AD X.heap.size X b):jr b p f c d e g i:=by
 have l:=h.2.2.lt;exact⟨(a.cell (p:=⟨p,0,none⟩) (show p<X.heap.size by omega)).trans h.1,(a.cell (p:=⟨p+1,0,none⟩) (show p+1<X.heap.size by omega)).trans h.2.1,h.2.2.next a⟩
theorem i7(k:Int)(n:Bool)(e:Int)(s:AB)(W:AA):Calls prog 80 #[.slice (some ⟨W.heap.size,0,none⟩) 1 1] (W.alloc (AY k n e s)) λx a=>x=(if k=2 then Aa (BA k n e s 0) else .returned (.tuple #[]))/\AD (W.alloc (AY k n e s)).heap.size (W.alloc (AY k n e s)) a:=by
 have:=CH 1 W.heap.size (λ_=>k) (λ_=>n) (λ_=>e) (λ_=>s) (W.alloc (AY k n e s)) (by decide) (by rw[AN];omega) (k7 (Bi W _));refine cm this λa b=>?_;refine⟨?_,b⟩;by_cases h:k=2
 ·subst h;simp[Md,Nw,Hl]
 ·simp[Md,Nw,Hl,h]
theorem lm(S R f g:Int){M:Int}(h:Rt M S R)(o:Rt M f g):S=f/\R=g:=by
 obtain⟨e,i,j,p⟩:=h;obtain⟨k,l,m,r⟩:=o;have n:∀a b c d:Int,a*a+b=M->0<=a->0<=b->b<=2*a->c*c+d=M->0<=c->0<=d->¬a<c:=λa b c d t u v w y z A B=>by
  have q:=MT (show 0<=a+1 by omega) (show a+1<=c by omega);have x:(a+1)*(a+1)=a*a+2*a+1:=by grind
  omega
 have C:=n S R f g e i j p k l m;have D:=n f g S R k l m r e i j;have s:S=f:=by omega
 subst s;exact⟨rfl,by omega⟩
def ZS(X:AA)(p:Nat)(f a:Int)(b:Bool)(c:Int)(d:AB)(W:AA):Prop:=Z5 W X.heap.size/\AD X.heap.size X W/\jr W p f a 1 b c d
theorem ZS.next{X W b:AA}{p:Nat}{f c:Int}{d:Bool}{e:Int}{g:AB}(h:ZS X p f c d e g W)(a:AD W.heap.size W b):ZS X p f c d e g b:=⟨h.1.below a h.1.lt,h.2.1.trans (a.mono h.2.1.size),h.2.2.next a⟩
theorem Wz(p:Nat)(f t:Int)(u:Int)(i:Bool)(a:Int)(d:AB)(S:Int)(G:Bool)(X:AA)(hm:1<=t/\t<=5)(z:Nz f u a d)(hS:n6 f a d S G)(w:jr X p f t u i a d):
 Calls prog 92 #[.pointer (some ⟨p+2,0,none⟩),.pointer (some ⟨p,0,none⟩),.pointer (some ⟨p+1,0,none⟩)] X λx I=>(x=.returned (BE (eD f t u i a d S G).1 (eD f t u i a d S G).2)\/x=Aa (BE (eD f t u i a d S G).1 (eD f t u i a d S G).2))/\AD X.heap.size X I:=by
 have aE:AD X.heap.size X (X.alloc A2):=bA;have v:Hid (Z5 (X.alloc A2) X.heap.size/\AD X.heap.size X (X.alloc A2)/\jr (X.alloc A2) p f t u i a d):=⟨Af X _ _ _ _ _,aE,w.next aE⟩;have J:=zq λY=>Dy z i Y;have L:=zq λW=>i7 u i a d W;have M:Hid (Calls prog 80 #[.slice (some ⟨X.heap.size+1,0,none⟩) 1 1] ((X.alloc A2).alloc (AY u i a d)) λx I=>x=(if u=2 then Aa (BA u i a d 0) else .returned (.tuple #[]))/\AD ((X.alloc A2).alloc (AY u i a d)).heap.size ((X.alloc A2).alloc (AY u i a d)) I):=by
  have:=L (X.alloc A2);rwa[AN] at this
 obtain⟨R,A⟩:=zxe (eD f t u i a d S G);rw[A];unfold eD at A;obtain⟨j,l,g⟩:=v.2.2;obtain⟨m,n,o,q,r⟩:=g.cells;clear g aE w;by_cases N:i=true/\zB u d=false
 ·rw[zyp N] at A;subst A;obtain⟨rfl,hz⟩:=N;rw[hz] at J;clear z hm hz hS L M;go_enter func92,ntmps92;go_wp2_with fail;refine cm (J _) λZ H=>?_;have aN:=zq (v.2.1.trans (H.mono v.2.1.size));clear H v J j l m n o q r;go_wp2_with fail;refine cm (A6 _) λw4 O=>?_;go_wp2;exact⟨rfl,.inr rfl,aN.trans (O.mono aN.size)⟩
 rw[zyn N] at A;by_cases hA:u=2
 ·subst hA;have a7:i=false:=by
   cases i with
   |false=>rfl
   |true=>exact absurd ⟨rfl,rfl⟩ N
  subst a7;obtain⟨rfl,rfl⟩:=z.2.2.2.2 rfl;rw[zyp rfl] at A M;subst A;clear z hm N hS L J;go_enter func92,ntmps92;go_wp2_with fail;refine cm M λZ H=>?_;have aP:AD X.heap.size X ((X.alloc A2).alloc (AY 2 false 0 ⟨#[]⟩)):=v.out.2.1.alloc v.out.2.1.size _;go_wp2;exact⟨rfl,.inr rfl,aP.trans (H.mono aP.size)⟩
 have a8:=z.2.2.1.resolve_right hA;subst a8;rw[zyn hA] at A L M;obtain⟨aQ,aR,aS,-,a9,ba,bb,bc⟩:=z.tn rfl;obtain⟨ca,aU,-,-⟩:=z.2.2.2.1 rfl;have hP:1<=AF f/\AF f<=34:=by rcases z.1 with rfl|rfl<;>decide
 obtain⟨RR,ao,ap⟩:=hS aS;obtain⟨n1,nS,nR,bf,aW,aX,aY⟩:=Pj f z.1 (dl d) ca aU a S RR ao;have ac:=zq λb Y h1 h2=>M9 b f i a d Y z h1 h2;have aZ:(LI f a (dl d).length:Int)<=100:=by unfold LI;split<;>omega
 obtain⟨k,hk⟩:=zxe (LI f a (dl d).length);rw[hk] at ac ao n1 aY aZ A;have ar:Hid (cA 87 #[.string d,.int .i64 k] (.string (tn (vl (dl d)*10^k)))):=λY=>by
  have:=DQ (tn (vl (dl d))) k Y (T6 _);rw[MP aR (by simpa using n1) (by omega) (by omega),<-aQ] at this;simpa using this
 have au:Hid (cA 96 #[.string (tn (vl (dl d)*10^k))] (.tuple #[.string (tn S),.string (tn RR)])):=λY=>by
  refine(Of (tn (vl (dl d)*10^k)) Y (T6 _) (Nx n1)).mono ?_;rintro e I ⟨S',R',rfl,e1,s0,r0,r1,B⟩;rw[Ef n1] at e1;obtain⟨rfl,rfl⟩:=lm S' R' S RR ⟨e1,s0,r0,r1⟩ ao;exact⟨rfl,B⟩
 have bs:((tn RR).toList==[48])=G:=by
  rw[<-ap];by_cases c:RR=0
  ·rw[c,T7];rfl
  ·rw[J6 nR c,By c]
 have av:Hid (cA 88 #[.int .i64 f,.int .i64 t,.bool i,.string (tn S),.int .i64 ((a-k)/2),.bool (!G),.int .i64 (a/2)] (BE R.1 R.2)):=λY=>by
  obtain⟨cq,vq⟩:=Ae nS;have:=Iw f t z.1 hm i (nt S) ((a-k)/2) (!G) (a/2) Y cq (Cm nS) (λh=>by
   have bo:vl (dl d)≠0:=λc=>by
    rw[(aX c).2] at ap;rw[<-ap] at h;cases h
   have h1:=aW bo;have h2:=Ox _ cq (AF f).toNat (by rw[vq];exact h1);refine⟨λc=>?_,by omega⟩;rw[c] at h2;simp at h2;omega) (by omega) (by omega)
  rw[<-A];dsimp only;exact this
 have aw:=zq λY=>Iu (a-k) Y (by omega) (by omega);have ax:=zq λY=>Iu a Y (by omega) (by omega);have bt:IntKind.i64.wrap (a-(k:Int))=a-k:=Dn (by omega);have ay:=zq λY=>IW f Y;have aH:i=true->zB 1 d=true:=λh=>by
  cases hq:zB 1 d with
  |true=>rfl
  |false=>exact absurd ⟨h,hq⟩ N
 clear z hm N hS hA A aQ aR aS a9 ba bb bc ca aU hP ao ap n1 nS nR bf aW aX aY aZ hk;generalize tn (vl (dl d)*10^k)=TM at*
 generalize tn S=TS at*
 generalize tn RR=TR at*
 generalize AF f=P at*
 generalize (k:Int)=K1 at*
 generalize (a-K1)/2=E1 at*
 generalize a/2=E2 at*
 obtain⟨R0,F1,F2,F3,F4⟩:=R;have a3:AD X.heap.size X ((X.alloc A2).alloc (AY 1 i a d)):=v.out.2.1.alloc v.out.2.1.size _;have a5:∀K,ZS X p f t i a d K->Hid (ZS X p f t i a d K):=λ_ h=>h;cases i with
 |true=>
  rw[aH rfl] at J;go_enter func92,ntmps92;go_wp2_with fail;refine cm (J _) λZ H=>?_;have aJ:Hid (ZS X p f t true a d Z):=⟨v.1.below H v.1.lt,v.2.1.trans (H.mono v.2.1.size),v.2.2.next H⟩;clear H v J j l m n o q r M aH a3 a5;obtain⟨j,l,g⟩:=aJ.2.2;obtain⟨m,n,o,q,r⟩:=g.cells;clear g;go_wp2_with fail;refine cm (L _) λK ad=>?_;have D:AD Z.heap.size Z (Z.alloc (AY 1 true a d)):=bA;have Q:=zq ((aJ.next D).next ad);clear ad D aJ L j l m n o q r;obtain⟨j,l,g⟩:=Q.2.2;obtain⟨m,n,o,q,r⟩:=g.cells;clear g;go_upto_region 4 with fail;go_cut [4] (λs E=>s=.int .i64 K1/\Hid (ZS X p f t true a d E));case first=>
   go_region_with (first
    |(go_at_call 85;refine(ay _).mono ?_;rintro x w3 ⟨b,rfl,B,aK,ae,af⟩;have D:=(BI K.heap.size K).drew.trans (af.mono (AS _));have y:=zq (Q.next D);have HB:=Ab B ae;clear B aK ae af D j l m n o q r;obtain⟨m,n,o,q,r⟩:=y.2.2.2.2.cells)
    |(go_at_call 95;refine cm (ac b _ HB.1 HB.2) λw4 O=>?_;have aL:=zq (y.next O);clear O))
   all_goals
    go_wp2;go_meet;case rel=>exact⟨rfl,aL⟩
  case rest=>
   obtain⟨rfl,y⟩:=hcut;clear Q ay ac j l m n o q r;obtain⟨j,l,g⟩:=y.2.2;obtain⟨m,n,o,q,r⟩:=g.cells;clear g;go_wp2_with fail;refine cm (ar _) λw5 ah=>?_;have ai:=zq (y.next ah);clear ah y ar j l m n o q r;go_wp2_with fail;refine cm (au _) λT aj=>?_;have F:=zq (ai.next aj);clear aj ai au;go_upto_region 6 with fail;have ak:=dR T;refine AM (C:=AD T.heap.size T) 16 ak ?_;simp only[Hy,List.take_zero,Ia,List.drop_zero];repeat (go_big_quiet_step ((intro w;rename_i E;first|exact rfl|((with_reducible refine(aw.out E).mono ?_);rintro x I ⟨rfl,rfl⟩;exact⟨rfl,w⟩)|((with_reducible refine(ax.out E).mono ?_);rintro x I ⟨rfl,rfl⟩;exact⟨rfl,w⟩)|((with_reducible refine Calls.class_of (av.out E) ?_);exactλw' B=>BQ w B)|(obtain⟨j,l,g⟩:=(F.out.next w).2.2;clear g;go_simp;exact rfl)|(obtain⟨j,l,g⟩:=(F.out.next w).2.2;obtain⟨m,n,o,q,r⟩:=g.cells;go_simp;exact rfl))))
   refine wpQuiet_nil ?_;intro w7 U;have V:=Ab ((F.next U).1) ((F.next U).2.1);clear U F ak av aw ax;go_wp2_with (refine sR V.1 F1 R0 F2 F3 F4 ?_);refine rR (A1 V.1 F1 R0 F2 F3 F4) ?_;exact⟨.inl rfl,AC V.2 (AS _) _⟩
 |false=>
  clear L aH a5 J;go_enter func92,ntmps92;go_wp2_with fail;refine cm M λK ad=>?_;have D:AD (X.alloc A2).heap.size (X.alloc A2) ((X.alloc A2).alloc (AY 1 false a d)):=bA;have a6:ZS X p f t false a d (X.alloc A2):=v;have Q:=zq ((a6.next D).next ad);clear ad D v a6 M j l m n o q r a3;obtain⟨j,l,g⟩:=Q.2.2;obtain⟨m,n,o,q,r⟩:=g.cells;clear g;go_upto_region 4 with fail;go_cut [4] (λs E=>s=.int .i64 K1/\Hid (ZS X p f t false a d E));case first=>
   go_region_with (first
    |(go_at_call 85;refine(ay _).mono ?_;rintro x w3 ⟨b,rfl,B,aK,ae,af⟩;have D:=(BI K.heap.size K).drew.trans (af.mono (AS _));have y:=zq (Q.next D);have HB:=Ab B ae;clear B aK ae af D j l m n o q r;obtain⟨m,n,o,q,r⟩:=y.2.2.2.2.cells)
    |(go_at_call 95;refine cm (ac b _ HB.1 HB.2) λw4 O=>?_;have aL:=zq (y.next O);clear O))
   all_goals
    go_wp2;go_meet;case rel=>exact⟨rfl,aL⟩
  case rest=>
   obtain⟨rfl,y⟩:=hcut;clear Q ay ac j l m n o q r;obtain⟨j,l,g⟩:=y.2.2;obtain⟨m,n,o,q,r⟩:=g.cells;clear g;go_wp2_with fail;refine cm (ar _) λw5 ah=>?_;have ai:=zq (y.next ah);clear ah y ar j l m n o q r;go_wp2_with fail;refine cm (au _) λT aj=>?_;have F:=zq (ai.next aj);clear aj ai au;go_upto_region 6 with fail;have ak:=dR T;refine AM (C:=AD T.heap.size T) 16 ak ?_;simp only[Hy,List.take_zero,Ia,List.drop_zero];repeat (go_big_quiet_step ((intro w;rename_i E;first|exact rfl|((with_reducible refine(aw.out E).mono ?_);rintro x I ⟨rfl,rfl⟩;exact⟨rfl,w⟩)|((with_reducible refine(ax.out E).mono ?_);rintro x I ⟨rfl,rfl⟩;exact⟨rfl,w⟩)|((with_reducible refine Calls.class_of (av.out E) ?_);exactλw' B=>BQ w B)|(obtain⟨j,l,g⟩:=(F.out.next w).2.2;clear g;go_simp;exact rfl)|(obtain⟨j,l,g⟩:=(F.out.next w).2.2;obtain⟨m,n,o,q,r⟩:=g.cells;go_simp;exact rfl))))
   refine wpQuiet_nil ?_;intro w7 U;have V:=Ab ((F.next U).1) ((F.next U).2.1);clear U F ak av aw ax;go_wp2_with (refine sR V.1 F1 R0 F2 F3 F4 ?_);refine rR (A1 V.1 F1 R0 F2 F3 F4) ?_;exact⟨.inl rfl,AC V.2 (AS _) _⟩
theorem WC(f e:Int)(c:Int)(d:Bool)(b:Int)(a:AB)(S:Int)(g:Bool)(w:AA)(t:a.size<=4611686018427387904)(u:n6 f b a S g):
 cB 35 #[.int .i64 f,.int .i64 e,AH c d b a] w (BE (XN f e c d b a S g).1 (XN f e c d b a S g).2):=by
 have ai:∀(v:Fn) (first x:Array AK) (w:AA),(Instr.makeFunc v first x).run prog w=.ok (.func v first x) w:=λ_ _ _ _=>rfl;have y:=zq (enters_of func92 (by kernel_rfl) rfl);obtain⟨W,o⟩:=zxe ((((w.alloc (.cells #[.int .i64 f] 2)).alloc (.cells #[.int .i64 e] 2)).alloc (AY c d b a)).alloc A2);have h:jr W w.heap.size f e c d b a/\Z5 W (w.heap.size+3)/\AD w.heap.size w W/\W.heap.size=w.heap.size+4:=by
  rw[<-o];have c1:=A9 w (.int .i64 f) 2;have q:=AN w (.cells #[.int .i64 f] 2);have z:AD w.heap.size w (w.alloc (.cells #[.int .i64 f] 2)):=bA;generalize w.alloc (.cells #[.int .i64 f] 2)=i at*
  have A:=A9 i (.int .i64 e) 2;have B:=AN i (.cells #[.int .i64 e] 2);have C:AD i.heap.size i (i.alloc (.cells #[.int .i64 e] 2)):=bA;generalize i.alloc (.cells #[.int .i64 e] 2)=j at*
  have D:=As j (.int .i64 c) (.bool d) (.int .i64 b) (.string a);have z3:=AN j (AY c d b a);have E:AD j.heap.size j (j.alloc (AY c d b a)):=bA;generalize j.alloc (AY c d b a)=l at*
  have F:=Af l (.int .i64 0) (.bool false) (.int .i64 0) (.string ⟨#[]⟩) (.int .i64 0);have z4:=AN l A2;have G:AD l.heap.size l (l.alloc A2):=bA;rw[q] at A;rw[B,q] at D;rw[z3,B,q] at F;have H:=E.trans (G.mono E.size);have I:=C.trans (H.mono C.size);exact⟨⟨(I.cell (p:=⟨w.heap.size,0,none⟩) (show w.heap.size<i.heap.size by omega)).trans c1,(H.cell (p:=⟨w.heap.size+1,0,none⟩) (show w.heap.size+1<j.heap.size by omega)).trans A,D.next G⟩,F,z.trans (I.mono z.size),by omega⟩
 have m:AD W.heap.size W (W.alloc (AY c d b a)):=bA;have J:=Bi W (AY c d b a);have K:=AN W (AY c d b a);have n:Hid (cB 82 #[.int .i64 f,.int .i64 e,.func (.func 92) #[] #[.pointer (some ⟨w.heap.size+2,0,none⟩),.pointer (some ⟨w.heap.size,0,none⟩),.pointer (some ⟨w.heap.size+1,0,none⟩)],.slice (some ⟨W.heap.size,0,none⟩) 1 1] (W.alloc (AY c d b a)) (BE (XN f e c d b a S g).1 (XN f e c d b a S g).2)):=
  DR f e 92 _ y 1 W.heap.size (λ_=>c) (λ_=>d) (λ_=>b) (λ_=>a) (eD f e c d b a S g) _ (by decide) (by decide) (by rw[K];omega) (k7 J) (λ_ _=>t) (λh1 h2 Y hY=>by
   obtain⟨hm,hr⟩:=U4 h1 h2;exact Wz w.heap.size f e c d b a S g Y hm hr u ((h.1.next m).next hY))
 have k:=Ab (h.2.1.below m h.2.1.lt) (h.2.2.1.trans (m.mono h.2.2.1.size));rw[h.2.2.2] at n;obtain⟨L,M,N⟩:=h.1;obtain⟨O,P,Q,T,-⟩:=N.cells;rw[<-o] at n k L M O P Q T;clear o h m J K t y N u;generalize XN f e c d b a S g=R at*
 obtain⟨U,V,X,Z,F4⟩:=R;go_enter func35,ntmps35;go_wp2_with fail;refine cm n λi r=>?_;have s:=Ab (k.1.below r k.1.lt) (k.2.trans (r.mono k.2.size));clear r k n L M O P Q T;go_wp2_with (refine sR s.1 V U X Z F4 ?_);refine rR (A1 s.1 V U X Z F4) ?_;exact⟨rfl,AC s.2 (by omega) _⟩
end Go.Proofs.YteofommckgeemaaGreatDoor
