/- Steps. -/
import Derived.Test.YteofommckgeemaaGreatDoorEBG
import Derived.Test.YteofommckgeemaaGreatDoorEBJ
namespace Go.Proofs.YteofommckgeemaaGreatDoor
open Go.RowKit Go.Proofs.Tryz
set_option linter.unusedVariables false
set_option linter.unusedSimpArgs false
set_option maxRecDepth 100000
set_option maxHeartbeats 8000000
theorem FO(v:Int):tn v=tx (nt v):=rfl
theorem Ir(f a:Int)(i:f=64\/f=128)(j:1<=a/\a<=5)(k:Int)(neg:Bool)(e v b:Int)(w:AA)(d:Bp v)(l:-200000<=e/\e<=200000)(m:-200000<=b/\b<=200000):
 cB 81 #[.int .i64 f,.int .i64 a,AH k neg e (tn v),.int .i64 b] w (BE neg (Al f a neg (nt v) e false b)):=by
 have n:Hid (cA 88 #[.int .i64 f,.int .i64 a,.bool neg,.string (tn v),.int .i64 e,.bool false,.int .i64 b] (BE neg (Al f a neg (nt v) e false b))):=λX=>GS f a i j neg (nt v) e b X (Ae d).1 (Cm d) l m;generalize Al f a neg (nt v) e false b=t at*
 obtain⟨o,p,q,r⟩:=t;generalize tn v=T at*
 have c:Hid (Z5 ((w.alloc (AY k neg e T)).alloc A2) (w.heap.size+1)/\AD w.heap.size w ((w.alloc (AY k neg e T)).alloc A2)):=by
  have s:=Af (w.alloc (AY k neg e T)) (.int .i64 0) (.bool false) (.int .i64 0) (.string ⟨#[]⟩) (.int .i64 0);rw[show(w.alloc (AY k neg e T)).heap.size=w.heap.size+1 from AN _ _] at s;exact⟨s,CC _ _ _⟩
 clear d l m j i;go_enter func81,ntmps81;go_wp2_with fail;refine cm (n _) λu g=>?_;have h:=Ab (c.1.below g c.1.lt) (c.2.trans (g.mono c.2.size));clear g c n;go_wp2_with (refine sR h.1 o neg p q r ?_);refine rR (A1 h.1 o neg p q r) ?_;exact⟨rfl,AC h.2 (by omega) _⟩
def Wx(p:Int)(c:Bool)(a x:Int)(d:Bool)(b y:Int):Bool×Int×Int:=(OP c (Ph p a x y b) d (Mc p a y b),MM p a y b,Mn c (Ph p a x y b) d (Mc p a y b))
def Es(p:Int)(e:Bool)(c a:Int)(f:Bool)(d b:Int):Bool×Int×Int:=
 if a=0 then(f,d,b) else if b=0 then(e,c,a) else if c<d then Wx p f d b e c a else Wx p e c a f d b
theorem FK{n:Int}{k:Nat}(c:0<=n)(h:n<10^k)(d:1<=k)(e:k<=200):Bp n/\(tn n).size<=k/\1<=(tn n).size:=by
 have a:Bp n:=⟨c,FS h (AI _ _ e)⟩;obtain⟨b,f⟩:=Ae a;rw[FO,AE];exact⟨a,Bu (nt n) b k d (by rw[f];exact h),b.2.1⟩
theorem VG(p b x:Int)(e y:Int)(m n:Nat)(s:0<=p/\p<=34)(i:0<=x)(j:x<10^m)(f:0<=y)(g:y<10^n)(t:1<=m)(k:1<=n)(u:m+n<=120)(v:¬b<e):
 (0<=b-MM p b y e/\b-MM p b y e<=155)/\Bp (Ph p b x y e)/\Bp (Ph p b x y e+Mc p b y e)/\0<=Mc p b y e:=by
 obtain⟨w,z,-⟩:=FK f g k (by omega);have l:0<=b-MM p b y e/\b-MM p b y e<=n+35:=by
  unfold MM ir Mo;by_cases c:e+((tn y).size:Int)<=b-p-1
  ·rw[Bz c,zyp rfl];omega
  ·rw[By c,zyn Bool.false_ne_true];omega
 have o:0<=Ph p b x y e/\Ph p b x y e<10^(m+n+35):=by
  unfold Ph;obtain⟨d,q⟩:=zxe ((b-MM p b y e).toNat);have A:d<=n+35:=by omega
  rw[q];have h:=AL d;refine⟨Int.mul_nonneg i (CP h),?_⟩;have a:=Int.mul_lt_mul_of_pos_right j h;rw[<-Cv] at a;exact FS a (AI _ _ (by omega))
 have r:0<=Mc p b y e/\Mc p b y e<=10^(m+n+35):=by
  unfold Mc;split
  ·exact⟨by decide,by have:=AL (m+n+35);omega⟩
  ·exact⟨f,Int.le_trans (CP g) (AI _ _ (by omega))⟩
 have B:(10:Int)^(m+n+36)=10^(m+n+35)*10:=Int.pow_succ 10 (m+n+35);have C:=AI (m+n+36) 200 (by omega);have D:=AL (m+n+35);refine⟨⟨l.1,by omega⟩,⟨o.1,by omega⟩,⟨by omega,by omega⟩,r.1⟩
theorem T5(f:Int)(e:Bool)(c a:Int)(g:Bool)(d b:Int)(m n:Nat)(w:AA)(o:0<=AF f/\AF f<=34)(y:0<=a)(z:a<10^m)(A:0<=b)(B:b<10^n)(C:1<=m)(D:1<=n)(K:m+n<=120)(G:-20000<=c/\c<=20000)(H:-20000<=d/\d<=20000):
 cB 154 #[.int .i64 f,AH 1 e c (tn a),AH 1 g d (tn b)] w (AH 1 (Es (AF f) e c a g d b).1 (Es (AF f) e c a g d b).2.1 (tn (Es (AF f) e c a g d b).2.2)):=by
 obtain⟨p,-,-⟩:=FK y z C (by omega);obtain⟨q,-,-⟩:=FK A B D (by omega);have F:=zq (GZ w 1 e c (tn a) 1 g d (tn b));by_cases i:a=0
 ·have E:Hid (Es (AF f) e c a g d b=(g,d,b)):=zyp i;rw[E];have r:Hid (cA 93 #[AH 1 e c (tn a)] (.bool true)):=λX=>by
   have:=BR e c a X p;rwa[Bz i] at this
  generalize tn a=L at*
  generalize tn b=M at*
  clear E y z A B p q G H o i C D K;go_enter func154,ntmps154;go_wp2_with fail;refine cm (r _) λT l=>?_;have h:=zq (F.next l);obtain⟨s,t,u,v,x⟩:=h.2.1.cells;clear l F r;go_wp2_with (refine sN h.2.2.1 1 g d M ?_);refine rN ((h.2.2.1.row (.int .i64 1) (.bool g) (.int .i64 d) (.string M)).cells) ?_;exact⟨rfl,AC h.2.2.2 (by omega) _⟩
 ·have r:Hid (cA 93 #[AH 1 e c (tn a)] (.bool false)):=λX=>by
   have:=BR e c a X p;rwa[By i] at this
  by_cases j:b=0
  ·have E:Hid (Es (AF f) e c a g d b=(e,c,a)):=(zyn i).trans (zyp j);rw[E];have I:Hid (cA 93 #[AH 1 g d (tn b)] (.bool true)):=λX=>by
    have:=BR g d b X q;rwa[Bz j] at this
   generalize tn a=L at*
   generalize tn b=M at*
   clear E y z A B p q G H o i j C D K;go_enter func154,ntmps154;go_wp2_with fail;refine cm (r _) λT l=>?_;have h:=zq (F.next l);obtain⟨s,t,u,v,x⟩:=h.2.1.cells;clear l F r;go_wp2_with fail;refine cm (I _) λZ J=>?_;have k:=zq (h.next J);clear J h I s t u v x;obtain⟨s,t,u,v,x⟩:=k.1.cells;go_wp2_with (refine sN k.2.2.1 1 e c L ?_);refine rN ((k.2.2.1.row (.int .i64 1) (.bool e) (.int .i64 c) (.string L)).cells) ?_;exact⟨rfl,AC k.2.2.2 (by omega) _⟩
  ·by_cases N:c<d
   ·have E:Hid (Es (AF f) e c a g d b=Wx (AF f) g d b e c a):=((zyn i).trans (zyn j)).trans (zyp N);rw[E];obtain⟨O,P,Q,-⟩:=VG (AF f) d b c a n m o A B y z D C (by omega) (by omega);have R:Hid (cA 154 #[.int .i64 f,AH 1 g d (tn b),AH 1 e c (tn a)] (AH 1 (Wx (AF f) g d b e c a).1 (Wx (AF f) g d b e c a).2.1 (tn (Wx (AF f) g d b e c a).2.2))):=λX=>MV f g d b e c a X o q p j i H G (by omega) ⟨O.1,by omega⟩ P Q;have I:Hid (cA 93 #[AH 1 g d (tn b)] (.bool false)):=λX=>by
     have:=BR g d b X q;rwa[By j] at this
    generalize Wx (AF f) g d b e c a=ST at*
    obtain⟨U,V,RV⟩:=ST;simp only at R;generalize tn RV=W at*
    generalize tn a=L at*
    generalize tn b=M at*
    clear E y z A B p q G H o i j O P Q C D K;go_enter func154,ntmps154;go_wp2_with fail;refine cm (r _) λT l=>?_;have h:=zq (F.next l);obtain⟨s,t,u,v,x⟩:=h.2.1.cells;clear l F r;go_wp2_with fail;refine cm (I _) λZ J=>?_;have k:=zq (h.next J);clear J h I s t u v x;obtain⟨a0,a1,a2,a3,a4⟩:=k.1.cells;obtain⟨s,t,u,v,x⟩:=k.2.1.cells;go_wp2_with fail;refine cm (R _) λw3 Y=>?_;have S:=zq (k.next Y);clear Y k R a0 a1 a2 a3 a4 s t u v x;go_wp2_with (refine sN S.2.2.1 1 U V W ?_);refine rN ((S.2.2.1.row (.int .i64 1) (.bool U) (.int .i64 V) (.string W)).cells) ?_;exact⟨rfl,AC S.2.2.2 (by omega) _⟩
   ·have E:Hid (Es (AF f) e c a g d b=Wx (AF f) e c a g d b):=((zyn i).trans (zyn j)).trans (zyn N);rw[E];obtain⟨O,P,Q,-⟩:=VG (AF f) c a d b m n o y z A B C D K N;exact MV f e c a g d b w o p q i j G H N ⟨O.1,by omega⟩ P Q
def YI(f h:Int)(c:Bool)(e a:Int)(d:Bool)(g b:Int):Bool:=if (Es (AF f) c e a d g b).2.2=0/\c≠d then decide (h=3) else(Es (AF f) c e a d g b).1
def kP(f h:Int)(e:Bool)(c a:Int)(g:Bool)(d b:Int):Int×Int×AB×Int:=Al f h (YI f h e c a g d b) (nt (Es (AF f) e c a g d b).2.2) (Es (AF f) e c a g d b).2.1 false (min c d)
theorem jU(b:Bool)(x:Int)(c:Bool)(y:Int)(d:Bp x)(e:0<=y)(a:Bp (x+y)):Bp (Mn b x c y):=by
 unfold Mn;split
 ·exact a
 ·split
  ·exact a.le (by omega) (by have:=d.1;omega)
  ·exact a.le (by omega) (by omega)
theorem nX(p:Int)(e:Bool)(c a:Int)(f:Bool)(d b:Int)(m n:Nat)(s:0<=p/\p<=34)(g:0<=a)(h:a<10^m)(i:0<=b)(j:b<10^n)(k:1<=m)(l:1<=n)(t:m+n<=120)(u:-20000<=c/\c<=20000)(v:-20000<=d/\d<=20000):
 Bp (Es p e c a f d b).2.2/\-20200<=(Es p e c a f d b).2.1/\(Es p e c a f d b).2.1<=20000:=by
 obtain⟨w,-,-⟩:=FK g h k (by omega);obtain⟨x,-,-⟩:=FK i j l (by omega);unfold Es;split
 ·exact⟨x,by show -20200<=d;omega,v.2⟩
 ·split
  ·exact⟨w,by show -20200<=c;omega,u.2⟩
  ·split
   ·obtain⟨y,o,q,r⟩:=VG p d b c a n m s i j g h l k (by omega) (by omega);exact⟨jU f _ e _ o r q,by show -20200<=MM p d a c;omega,by show MM p d a c<=20000;omega⟩
   ·obtain⟨y,o,q,r⟩:=VG p c a d b m n s g h i j k l t (by omega);exact⟨jU e _ f _ o r q,by show -20200<=MM p c b d;omega,by show MM p c b d<=20000;omega⟩
theorem SU.at1{w W:AA}{a:Int}{b:Bool}{c:Int}{d:AB}{e:Int}{f:Bool}{g:Int}{i:AB}(h:SU w W a b c d e f g i):A4 W w.heap.size a b c d:=h.1
theorem SU.at2{w W:AA}{e:Int}{f:Bool}{g:Int}{i:AB}{a:Int}{b:Bool}{c:Int}{d:AB}(h:SU w W e f g i a b c d):A4 W (w.heap.size+1) a b c d:=h.2.1
theorem SU.set1{w W:AA}{a:Int}{d:Bool}{e:Int}{f:AB}{g:Int}{j:Bool}{k:Int}{l:AB}(h:SU w W a d e f g j k l){b:Nat}(m:w.heap.size+2<b)(i:Nat)(v:AK):SU w (W.setCell ⟨b,i,none⟩ v) a d e f g j k l:=by
 refine⟨h.at1.far (by omega) i v,h.at2.far (by omega) i v,?_,h.2.2.2.1.setCell (show w.heap.size<=b by omega) v,?_⟩
 ·have:=h.2.2.1;unfold Ib at this ⊢;simp[World.setCell,Array.getElem?_modify,this];intro c;omega
 ·have:=h.2.2.2.2;simp[World.setCell];exact this
abbrev Gn(W:AA)(a:Int)(b:Bool)(c:Int)(d:AB)(e:Int)(f:Bool)(g:Int)(h:AB):AA:=W.alloc (.cells #[.int .i64 a,.bool b,.int .i64 c,.string d,.int .i64 e,.bool f,.int .i64 g,.string h] 78)
theorem LG(W:AA)(a:Int)(b:Bool)(c:Int)(d:AB)(e:Int)(f:Bool)(g:Int)(h:AB):EY (Gn W a b c d e f g h) W.heap.size 2 (AX a e) (AX b f) (AX c g) (AX d h)/\W.heap.size<(Gn W a b c d e f g h).heap.size:=
 ⟨We (Bi W _),by rw[show(Gn W a b c d e f g h).heap.size=W.heap.size+1 from AN _ _];omega⟩
theorem Ap(f p:Int)(a:Int)(b:Bool)(c:Int)(d:AB)(e:Int)(g:Bool)(h:Int)(i:AB)(w:AA)(r:AK)(m:Md 2 (AX a e) (AX b g) (AX c h) (AX d i)=Aa r):
 Calls prog 76 #[.int .i64 f,.int .i64 p,AH a b c d,AH e g h i] w λx j=>x=Aa r/\AD w.heap.size w j:=by
 have n:=zq (BP w a b c d e g h i);obtain⟨W,q⟩:=zxe (EW w a b c d e g h i);have k:Hid (EY (Gn (EW w a b c d e g h i) a b c d e g h i) (EW w a b c d e g h i).heap.size 2 (AX a e) (AX b g) (AX c h) (AX d i)/\(EW w a b c d e g h i).heap.size<(Gn (EW w a b c d e g h i) a b c d e g h i).heap.size):=LG _ a b c d e g h i;have l:(EW w a b c d e g h i).heap.size=w.heap.size+1+1+1:=by simp
 have o:Hid (AD w.heap.size w (Gn (EW w a b c d e g h i) a b c d e g h i)):=n.2.2.2.1.alloc (by rw[l];omega) _;rw[l] at k;have s:Hid (∀X,EY X (w.heap.size+1+1+1) 2 (AX a e) (AX b g) (AX c h) (AX d i)->w.heap.size+1+1+1<X.heap.size->Calls prog 80 #[.slice (some ⟨w.heap.size+1+1+1,0,none⟩) 2 2] X λx j=>x=Aa r/\AD X.heap.size X j):=λX t u=>by
  rw[<-m];exact CH 2 (w.heap.size+1+1+1) _ _ _ _ X (by decide) u t
 clear m q W l n;go_enter func76,ntmps76;go_wp2_with fail;refine cm (s _ k.1 k.2) λy v=>?_;go_wp2;exact⟨rfl,rfl,o.trans (v.mono o.size)⟩
theorem Dj(f mode:Int)(hf:f=64\/f=128)(hmo:1<=mode/\mode<=5)(na:Bool)(ea a:Int)(nb:Bool)(eb b:Int)(m n:Nat)(w:World)(ha:0<=a)(ham:a<10^m)(hb:0<=b)(hbn:b<10^n)(hm:1<=m)(hn:1<=n)(hmn:m+n<=120)(hea:-20000<=ea/\ea<=20000)(heb:-20000<=eb/\eb<=20000):
 Calls Tryz.prog 76 #[.int .i64 f,.int .i64 mode,AH 1 na ea (tn a),AH 1 nb eb (tn b)] w λx w'=>x=.returned (BE (YI f mode na ea a nb eb b) (kP f mode na ea a nb eb b))/\Below w.heap.size w w':=by
 have hp:0<=AF f/\AF f<=34:=by rcases hf with rfl|rfl<;>decide
 have HSf:Hid (∀X,Calls Tryz.prog 154 #[.int .i64 f,AH 1 na ea (tn a),AH 1 nb eb (tn b)] X λr w'=>r=.returned (AH 1 (Es (AF f) na ea a nb eb b).1 (Es (AF f) na ea a nb eb b).2.1 (tn (Es (AF f) na ea a nb eb b).2.2))/\Below X.heap.size X w'):=λX=>T5 f na ea a nb eb b m n X hp ha ham hb hbn hm hn hmn hea heb
 obtain⟨k1,k2,k3⟩:=nX (AF f) na ea a nb eb b m n hp ha ham hb hbn hm hn hmn hea heb
 have HFn:Hid (∀X,Calls Tryz.prog 81 #[.int .i64 f,.int .i64 mode,AH 1 (YI f mode na ea a nb eb b) (Es (AF f) na ea a nb eb b).2.1 (tn (Es (AF f) na ea a nb eb b).2.2),.int .i64 (min ea eb)] X λx w'=>x=.returned (BE (YI f mode na ea a nb eb b) (kP f mode na ea a nb eb b))/\Below X.heap.size X w'):=λX=>by
  unfold kP
  exact Ir f mode hf hmo 1 (YI f mode na ea a nb eb b) (Es (AF f) na ea a nb eb b).2.1 (Es (AF f) na ea a nb eb b).2.2 (min ea eb) X k1 (by omega) (by omega)
 have HIs:Hid (∀X,Calls Tryz.prog 93 #[AH 1 (Es (AF f) na ea a nb eb b).1 (Es (AF f) na ea a nb eb b).2.1 (tn (Es (AF f) na ea a nb eb b).2.2)] X λx w'=>x=.returned (.bool (decide ((Es (AF f) na ea a nb eb b).2.2=0)))/\Below X.heap.size X w'):=λX=>BR _ _ _ X k1
 have HE:Hid (YI f mode na ea a nb eb b=if decide ((Es (AF f) na ea a nb eb b).2.2=0)=true/\na≠nb then decide (mode=3) else(Es (AF f) na ea a nb eb b).1):=by
  show _=_
  unfold YI
  simp only[decide_eq_true_eq]
 have HTi:Hid (Md 2 (AX 1 1) (AX na nb) (AX ea eb) (AX (tn a) (tn b))=.returned (.tuple #[])):=by
  show _=_
  simp[Md,Nw,Hl,AX]
 generalize kP f mode na ea a nb eb b=FR at*
 generalize YI f mode na ea a nb eb b=FN at*
 generalize Es (AF f) na ea a nb eb b=ST at*
 obtain⟨SN,SE,SV⟩:=ST
 obtain⟨F1,F2,F3,F4⟩:=FR
 simp only at HSf HFn HIs HE
 generalize decide (SV=0)=Z at*
 generalize tn SV=TS at*
 generalize tn a=S1 at*
 generalize tn b=S2 at*
 clear k1 k2 k3 hp ha ham hb hbn hm hn hmn hea heb hf hmo
 have HS:Hid (SU w (EW w 1 na ea S1 1 nb eb S2) 1 na ea S1 1 nb eb S2):=BP w 1 na ea S1 1 nb eb S2
 have HR:Hid (EY (Gn (EW w 1 na ea S1 1 nb eb S2) 1 na ea S1 1 nb eb S2) (EW w 1 na ea S1 1 nb eb S2).heap.size 2 (AX 1 1) (AX na nb) (AX ea eb) (AX S1 S2)/\(EW w 1 na ea S1 1 nb eb S2).heap.size<(Gn (EW w 1 na ea S1 1 nb eb S2) 1 na ea S1 1 nb eb S2).heap.size):=LG _ 1 na ea S1 1 nb eb S2
 have hz:(EW w 1 na ea S1 1 nb eb S2).heap.size=w.heap.size+1+1+1:=by simp
 rw[hz] at HR
 have HSr:Hid (SU w (Gn (EW w 1 na ea S1 1 nb eb S2) 1 na ea S1 1 nb eb S2) 1 na ea S1 1 nb eb S2):=HS.out.alloc _
 have HT:Hid (∀X,EY X (w.heap.size+1+1+1) 2 (AX 1 1) (AX na nb) (AX ea eb) (AX S1 S2)->w.heap.size+1+1+1<X.heap.size->Calls Tryz.prog 80 #[.slice (some ⟨w.heap.size+1+1+1,0,none⟩) 2 2] X λx w'=>x=.returned (.tuple #[])/\Below X.heap.size X w'):=λX h1 h2=>by
  rw[<-HTi.out];exact CH 2 (w.heap.size+1+1+1) _ _ _ _ X (by decide) h2 h1
 clear hz HS HTi
 go_enter Tryz.func76,Tryz.ntmps76
 go_wp2_with fail
 refine(HT.out _ HR.out.1 HR.out.2).mono ?_
 rintro x w1 ⟨rfl,hb1⟩
 have HS1:Hid (SU w w1 1 na ea S1 1 nb eb S2):=HSr.out.next hb1
 clear hb1 HSr HR HT
 obtain⟨a0,a1,a2,a3,a4⟩:=HS1.out.at1.cells
 obtain⟨c0,c1,c2,c3,c4⟩:=HS1.out.at2.cells
 go_wp2_with fail
 refine(HSf.out _).mono ?_
 rintro x w2 ⟨rfl,hb2⟩
 have HS2:Hid (SU w w2 1 na ea S1 1 nb eb S2):=HS1.out.next hb2
 clear hb2 HS1 HSf a0 a1 a2 a3 a4 c0 c1 c2 c3 c4
 have HS3:Hid (SU w (w2.alloc (.cells #[.int .i64 1,.bool SN,.int .i64 SE,.string TS] 78)) 1 na ea S1 1 nb eb S2/\B6 (w2.alloc (.cells #[.int .i64 1,.bool SN,.int .i64 SE,.string TS] 78)) w2.heap.size (.int .i64 1) (.bool SN) (.int .i64 SE) (.string TS)/\w.heap.size+2<w2.heap.size):=⟨HS2.out.alloc _,As w2 _ _ _ _,HS2.out.2.2.2.2⟩
 clear HS2
 go_wp2_with fail
 refine(HIs.out _).mono ?_
 rintro x w4 ⟨rfl,hb4⟩
 have HS4:Hid (SU w w4 1 na ea S1 1 nb eb S2/\B6 w4 w2.heap.size (.int .i64 1) (.bool SN) (.int .i64 SE) (.string TS)/\w.heap.size+2<w2.heap.size):=⟨HS3.out.1.next hb4,HS3.out.2.1.next hb4,HS3.out.2.2⟩
 clear hb4 HS3 HIs
 generalize w2.heap.size=b9 at*
 obtain⟨a0,a1,a2,a3,a4⟩:=HS4.out.1.at1.cells
 obtain⟨c0,c1,c2,c3,c4⟩:=HS4.out.1.at2.cells
 obtain⟨g0,g1,g2,g3,g4⟩:=HS4.out.2.1.cells
 by_cases hc:Z=true/\na≠nb
 ·have E:Hid (FN=(mode==3)):=by
   show _=_
   rw[HE.out,if_pos hc]
   by_cases h3:mode=3
   ·rw[decide_eq_true h3,h3];rfl
   ·rw[decide_eq_false h3];exact(beq_eq_false_iff_ne.2 h3).symm
  obtain⟨hz,hne⟩:=hc
  subst hz
  have hneb:(na==nb)=false:=beq_eq_false_iff_ne.2 hne
  rw[E.out] at HFn
  clear HE hne
  have HS5:Hid (SU w (w4.setCell ⟨b9,1,none⟩ (.bool (mode==3))) 1 na ea S1 1 nb eb S2/\B6 (w4.setCell ⟨b9,1,none⟩ (.bool (mode==3))) b9 (.int .i64 1) (.bool (mode==3)) (.int .i64 SE) (.string TS)):=⟨HS4.out.1.set1 HS4.out.2.2 _ _,HS4.out.2.1.set1 _⟩
  obtain⟨p0,p1,p2,p3,p4⟩:=HS5.out.1.at1.cells
  obtain⟨r0,r1,r2,r3,r4⟩:=HS5.out.1.at2.cells
  obtain⟨t0,t1,t2,t3,t4⟩:=HS5.out.2.cells
  go_wp2_with fail
  refine(HFn.out _).mono ?_
  rintro x w6 ⟨rfl,hb6⟩
  have HZ6:Hid (Ib w6 (w.heap.size+2) (.int .i64 0) (.bool false) (.int .i64 0) (.string {data:=#[]}) (.int .i64 0)/\Below w.heap.size w w6):=Ar HS5.out.1 hb6
  clear hb6 HS5 HFn p0 p1 p2 p3 p4 r0 r1 r2 r3 r4 t0 t1 t2 t3 t4
  go_wp2_with (refine wpList_store_row rfl 90 (.tmp 8) (.tmp 38) rfl (w.heap.size+2) #[.int .i64 F1,.bool (mode==3),.int .i64 F2,.string F3,.int .i64 F4] rfl rfl _ _ HZ6.out.1 (by kernel_rfl) rfl (o8 _ _ _ _ _) ?_)
  have hP:=(HZ6.out.1.row (.int .i64 F1) (.bool (mode==3)) (.int .i64 F2) (.string F3) (.int .i64 F4)).cells
  refine bodyPost_ret (KS rfl _ _ rfl hP.1 hP.2.1 hP.2.2.1 hP.2.2.2.1 hP.2.2.2.2.1) rfl ?_
  exact⟨by rw[E.out],AC HZ6.out.2 (by omega) _⟩
 ·have E:Hid (FN=SN):=by show _=_;rw[HE.out,if_neg hc]
  rw[E.out] at HFn
  clear HE
  cases Z with
  |false=>
   clear hc
   go_wp2_with fail
   refine(HFn.out _).mono ?_
   rintro x w6 ⟨rfl,hb6⟩
   have HZ6:Hid (Ib w6 (w.heap.size+2) (.int .i64 0) (.bool false) (.int .i64 0) (.string {data:=#[]}) (.int .i64 0)/\Below w.heap.size w w6):=Ar HS4.out.1 hb6
   clear hb6 HS4 HFn a0 a1 a2 a3 a4 c0 c1 c2 c3 c4 g0 g1 g2 g3 g4
   go_wp2_with (refine wpList_store_row rfl 90 (.tmp 8) (.tmp 38) rfl (w.heap.size+2) #[.int .i64 F1,.bool SN,.int .i64 F2,.string F3,.int .i64 F4] rfl rfl _ _ HZ6.out.1 (by kernel_rfl) rfl (o8 _ _ _ _ _) ?_)
   have hP:=(HZ6.out.1.row (.int .i64 F1) (.bool SN) (.int .i64 F2) (.string F3) (.int .i64 F4)).cells
   refine bodyPost_ret (KS rfl _ _ rfl hP.1 hP.2.1 hP.2.2.1 hP.2.2.2.1 hP.2.2.2.2.1) rfl ?_
   exact⟨by rw[E.out],AC HZ6.out.2 (by omega) _⟩
  |true=>
   have heq:na=nb:=Classical.byContradiction λh=>hc ⟨rfl,h⟩
   have hneb:(na==nb)=true:=by rw[heq];exact beq_self_eq_true _
   clear hc heq
   go_wp2_with fail
   refine(HFn.out _).mono ?_
   rintro x w6 ⟨rfl,hb6⟩
   have HZ6:Hid (Ib w6 (w.heap.size+2) (.int .i64 0) (.bool false) (.int .i64 0) (.string {data:=#[]}) (.int .i64 0)/\Below w.heap.size w w6):=Ar HS4.out.1 hb6
   clear hb6 HS4 HFn a0 a1 a2 a3 a4 c0 c1 c2 c3 c4 g0 g1 g2 g3 g4
   go_wp2_with (refine wpList_store_row rfl 90 (.tmp 8) (.tmp 38) rfl (w.heap.size+2) #[.int .i64 F1,.bool SN,.int .i64 F2,.string F3,.int .i64 F4] rfl rfl _ _ HZ6.out.1 (by kernel_rfl) rfl (o8 _ _ _ _ _) ?_)
   have hP:=(HZ6.out.1.row (.int .i64 F1) (.bool SN) (.int .i64 F2) (.string F3) (.int .i64 F4)).cells
   refine bodyPost_ret (KS rfl _ _ rfl hP.1 hP.2.1 hP.2.2.1 hP.2.2.2.1 hP.2.2.2.2.1) rfl ?_
   exact⟨by rw[E.out],AC HZ6.out.2 (by omega) _⟩
def RD(f j:Int)(c:Int)(a:Bool)(d:Int)(e:AB)(g:Int)(b:Bool)(h:Int)(i:AB):R5:=
 if c=1/\g=1 then(!(a==b),Al f j (!(a==b)) (nt (vl (dl e)*vl (dl i))) (d+h) false (d+h))
 else if F8 c e||F8 g i then(false,(3,0,{data:=#[]},1)) else(!(a==b),(2,0,{data:=#[]},0))
def Fj(f c:Int)(a:Int)(d:Bool)(e:Int)(g:AB)(b:Int)(h:Bool)(i:Int)(j:AB):R5:=
 if Hs f c a d e g b h i j then(if GB 2 (AX a b) then(false,(3,0,{data:=#[]},DL 2 (AX a b))) else RD f c a d e g b h i j)
 else(false,(0,0,{data:=#[]},0))
theorem O4(a b:AG)(d:AJ a)(e:AJ b)(f:a.length<=34)(g:b.length<=34):Bp (vl a*vl b)/\vl a*vl b<10^68:=by
 have c:=AZ a d.1;have h:=AZ b e.1;have l:=AI a.length 34 f;have m:=AI b.length 34 g;have i:=Int.mul_nonneg c.1 h.1;have n:vl a*vl b<=vl a*10^34:=NH (by omega) c.1;have j:vl a*10^34<10^34*10^34:=Int.mul_lt_mul_of_pos_right (by omega) (AL 34);rw[<-Cv] at j;have o:=AI 68 200 (by decide);have k:vl a*vl b<10^68:=by omega
 exact⟨⟨i,by omega⟩,k⟩
theorem im(f o:Int)(a:Int)(k:Bool)(e:Int)(b:AB)(c:Int)(l:Bool)(j:Int)(d:AB)(w:AA)(ax:b.size<=4611686018427387904)(ay:d.size<=4611686018427387904):
 cB 56 #[.int .i64 f,.int .i64 o,AH a k e b,AH c l j d] w (BE (Fj f o a k e b c l j d).1 (Fj f o a k e b c l j d).2):=by
 have HS:=zq (BP w a k e b c l j d);have aA:Hid (∀(g:Nat) X,g<X.heap.size->EY X g 2 (AX a c) (AX k l) (AX e j) (AX b d)->cB 124 #[.int .i64 f,.int .i64 o,.slice (some ⟨g,0,none⟩) 2 2] X (.bool (Hs f o a k e b c l j d))):=λg X W Y=>
  (DH f o 2 g (AX a c) (AX k l) (AX e j) (AX b d) X (by decide) W Y (λi hi=>by match i,hi with
    |0,_=>exact ax
    |1,_=>exact ay)).mono (by
     rintro x w' ⟨rfl,hb⟩;exact⟨by rw[lG (λi=>AQ f (AX a c i) (AX k l i) (AX e j i) (AX b d i))];rfl,hb⟩)
 have Z:Hid (∀(g:Nat) X,g<X.heap.size->EY X g 2 (AX a c) (AX k l) (AX e j) (AX b d)->cB 125 #[.slice (some ⟨g,0,none⟩) 2 2] X (.tuple #[BA 3 false 0 {data:=#[]} (DL 2 (AX a c)),.bool (GB 2 (AX a c))])):=λg X W Y=>BZ 2 g _ _ _ _ X (by decide) W Y;obtain⟨R,hR⟩:=zxe (Fj f o a k e b c l j d);have r:=zq hR;rw[hR];clear hR ax ay;have aN:=CK;go_enter func56,ntmps56;have aB:(EW w a k e b c l j d).heap.size=w.heap.size+1+1+1:=by simp
 have ab:=Bi (EW w a k e b c l j d) (.cells #[.int .i64 a,.bool k,.int .i64 e,.string b,.int .i64 c,.bool l,.int .i64 j,.string d] 78);rw[aB] at ab;have aC:((EW w a k e b c l j d).alloc (.cells #[.int .i64 a,.bool k,.int .i64 e,.string b,.int .i64 c,.bool l,.int .i64 j,.string d] 78)).heap.size=w.heap.size+1+1+1+1:=by simp
 have D:Hid (EY ((EW w a k e b c l j d).alloc (.cells #[.int .i64 a,.bool k,.int .i64 e,.string b,.int .i64 c,.bool l,.int .i64 j,.string d] 78)) (w.heap.size+1+1+1) 2 (AX a c) (AX k l) (AX e j) (AX b d)/\w.heap.size+1+1+1<((EW w a k e b c l j d).alloc (.cells #[.int .i64 a,.bool k,.int .i64 e,.string b,.int .i64 c,.bool l,.int .i64 j,.string d] 78)).heap.size):=⟨We ab,by rw[aC];omega⟩;clear aB ab aC;go_wp2_with fail;refine cm (aA (w.heap.size+1+1+1) _ D.2 D.1) λw1 L=>?_;have G:=zq ((HS.alloc _).next L);have M:=Ab (D.1.below L D.2) (DU D.2 L.size);clear L D HS aA;cases hO:Hs f o a k e b c l j d with
 |false=>
  have p:Hid (R=(false,(0,0,{data:=#[]},0))):=by show _=_;rw[<-r];unfold Fj;rw[hO];rfl
  have m:Hid (Z5 w1 (w.heap.size+2)/\AD w.heap.size w w1):=⟨G.2.2.1,G.2.2.2.1⟩;clear hO Z G M r;go_wp2_with (refine sR m.1 0 false 0 ⟨#[]⟩ 0 ?_);refine rR (A1 m.1 0 false 0 ⟨#[]⟩ 0) ?_;exact⟨by rw[p.out],AC m.out.2 (by omega) _⟩
 |true=>
  go_wp2_with fail;refine cm (Z (w.heap.size+1+1+1) _ M.2 M.1) λN aE=>?_;have E:Hid (SU w N a k e b c l j d):=G.next aE;clear aE M G Z aN;cases hB:GB 2 (AX a c) with
  |true=>
   have p:Hid (R=(false,(3,0,{data:=#[]},DL 2 (AX a c)))):=by show _=_;rw[<-r];unfold Fj;rw[hO,hB];rfl
   clear hO hB r;generalize DL 2 (AX a c)=H at*
   have m:Hid (Z5 (N.alloc (Ei 3 false 0 ⟨#[]⟩ H)) (w.heap.size+2)/\AD w.heap.size w (N.alloc (Ei 3 false 0 ⟨#[]⟩ H))):=⟨(E.out.alloc _).2.2.1,(E.out.alloc _).2.2.2.1⟩;go_wp2_with (refine sR m.1 3 false 0 ⟨#[]⟩ H ?_);refine rR (A1 m.1 3 false 0 ⟨#[]⟩ H) ?_;exact⟨by rw[p.out],AC m.out.2 (by omega) _⟩
  |false=>
   have p:R=RD f o a k e b c l j d:=by rw[<-r];unfold Fj;rw[hO,hB];rfl
   have ac:=hO;unfold Hs at ac;simp only[Bool.and_eq_true,decide_eq_true_eq] at ac;obtain⟨ad,O,P⟩:=ac;have B:=of_decide_eq_false hB;have I:a≠3/\a≠4:=⟨λh=>B ⟨0,by decide,.inl h⟩,λh=>B ⟨0,by decide,.inr h⟩⟩;have J:c≠3/\c≠4:=⟨λh=>B ⟨1,by decide,.inl h⟩,λh=>B ⟨1,by decide,.inr h⟩⟩;obtain⟨K,Q,ae,S⟩:=Av f a k e b O I.1 I.2;obtain⟨-,T,af,U⟩:=Av f c l j d P J.1 J.2;have hL:=Li f K;obtain⟨n,C⟩:=zxe (!(k==l));have s:Hid (SU w (N.alloc (Ei 3 false 0 ⟨#[]⟩ (DL 2 (AX a c)))) a k e b c l j d):=E.out.alloc _;generalize DL 2 (AX a c)=H at*
   obtain⟨a0,a1,a2,a3,a4⟩:=s.at1.cells;obtain⟨c0,c1,c2,c3,c4⟩:=s.at2.cells;by_cases V:a=1/\c=1
   ·obtain⟨rfl,rfl⟩:=V;obtain⟨q1,l1,x1,y1⟩:=S rfl;obtain⟨q2,l2,x2,y2⟩:=U rfl;obtain⟨nk,-⟩:=O4 (dl b) (dl d) q1 q2 (by omega) (by omega);have q:Hid (cA 128 #[AH 1 k e b,AH 1 l j d] (.tuple #[AH 1 n (e+j) (tx (nt (vl (dl b)*vl (dl d)))),.bool true])):=λX=>by
     have:=GV k l e j (dl b) (dl d) X q1 q2 (by omega) (by omega) (by omega) (by omega);rw[<-Q,<-T,C] at this;exact this
    have aF:Hid (cA 122 #[.int .i64 f,.int .i64 o,.bool n,.string (tx (nt (vl (dl b)*vl (dl d)))),.int .i64 (e+j),.bool false,.int .i64 (e+j)] (BE R.1 R.2)):=λX=>by
     have:=Fa f o K n (nt (vl (dl b)*vl (dl d))) (e+j) false (e+j) X (Ae nk).1 (Cm nk) (by omega) (by omega);rw[p];unfold RD;rw[zyp ⟨rfl,rfl⟩,C];dsimp only;exact this
    generalize tx (nt (vl (dl b)*vl (dl d)))=TP at*
    obtain⟨R0,F1,F2,F3,F4⟩:=R;generalize e+j=ep at*
    clear hO hB r p ad O P B I J K Q S T U hL C q1 l1 x1 y1 q2 l2 x2 y2 nk E ae af;go_wp2_with fail;refine cm (q _) λt u=>?_;have v:Hid (SU w t 1 k e b 1 l j d):=s.next u;clear u s q a0 a1 a2 a3 a4 c0 c1 c2 c3 c4;have y:Hid (SU w (t.alloc (AY 1 n ep TP)) 1 k e b 1 l j d):=v.out.alloc _;go_wp2_with fail;refine cm (aF _) λz A=>?_;have m:Hid (Z5 z (w.heap.size+2)/\AD w.heap.size w z):=Ar y A;clear A v y aF;go_wp2_with (refine sR m.1 F1 R0 F2 F3 F4 ?_);refine rR (A1 m.1 F1 R0 F2 F3 F4) ?_;exact⟨rfl,AC m.2 (by omega) _⟩
   ·have q:Hid (cA 128 #[AH a k e b,AH c l j d] (.tuple #[AH 2 n 0 {data:=#[]},.bool (!(F8 a b||F8 c d))])):=λX=>by
     have:=EN a k e b c l j d X (by omega);rw[C] at this;exact this
    have F:R=if F8 a b||F8 c d then(false,(3,0,{data:=#[]},1)) else(n,(2,0,{data:=#[]},0)):=by
     rw[p];unfold RD;rw[zyn V,C]
    cases hz:(F8 a b||F8 c d) with
    |true=>
     rw[hz] at q F;have aw:Hid (R=(false,(3,0,{data:=#[]},1))):=F;clear hO hB r p ad O P B I J K Q S T U hL C E ae af F V hz;go_wp2_with fail;refine cm (q _) λt u=>?_;have v:Hid (SU w t a k e b c l j d):=s.next u;clear u s q a0 a1 a2 a3 a4 c0 c1 c2 c3 c4;have y:Hid (SU w (t.alloc (AY 2 n 0 ⟨#[]⟩)) a k e b c l j d):=v.out.alloc _;go_wp2_with fail;refine cm (Aq _) λz A=>?_;have m:Hid (Z5 z (w.heap.size+2)/\AD w.heap.size w z):=Ar y A;clear A v y;go_wp2_with (refine sR m.1 3 false 0 ⟨#[]⟩ 1 ?_);refine rR (A1 m.1 3 false 0 ⟨#[]⟩ 1) ?_;exact⟨by rw[aw.out],AC m.out.2 (by omega) _⟩
    |false=>
     rw[hz] at q F;have aw:Hid (R=(n,(2,0,{data:=#[]},0))):=F;clear hO hB r p ad O P B I J K Q S T U hL C E ae af F V hz;go_wp2_with fail;refine cm (q _) λt u=>?_;have v:Hid (SU w t a k e b c l j d):=s.next u;clear u s q a0 a1 a2 a3 a4 c0 c1 c2 c3 c4;have y:Hid (SU w (t.alloc (AY 2 n 0 ⟨#[]⟩)) a k e b c l j d):=v.out.alloc _;go_wp2_with fail;refine cm (BG n _) λz A=>?_;have m:Hid (Z5 z (w.heap.size+2)/\AD w.heap.size w z):=Ar y A;clear A v y;go_wp2_with (refine sR m.1 2 n 0 ⟨#[]⟩ 0 ?_);refine rR (A1 m.1 2 n 0 ⟨#[]⟩ 0) ?_;exact⟨by rw[aw.out],AC m.out.2 (by omega) _⟩
def Dm{α:Type}(a b c:α)(i:Nat):α:=if i=0 then a else if i=1 then b else c
theorem nB{W:AA}{g:Nat}{T:TypeId}{a:Int}{b:Bool}{c:Int}{d:AB}{e:Int}{f:Bool}{j:Int}{k:AB}{l:Int}{m:Bool}{n:Int}{o:AB}(h:W.heap[g]?=some (.cells #[.int .i64 a,.bool b,.int .i64 c,.string d,.int .i64 e,.bool f,.int .i64 j,.string k,.int .i64 l,.bool m,.int .i64 n,.string o] T (0,0))):
 EY W g 3 (Dm a e l) (Dm b f m) (Dm c j n) (Dm d k o):=λi p=>by
 match i,p with
 |0,_=>exact⟨(AW h 0).trans rfl,(AW h 1).trans rfl,(AW h 2).trans rfl,(AW h 3).trans rfl⟩
 |1,_=>exact⟨(AW h 4).trans rfl,(AW h 5).trans rfl,(AW h 6).trans rfl,(AW h 7).trans rfl⟩
 |2,_=>exact⟨(AW h 8).trans rfl,(AW h 9).trans rfl,(AW h 10).trans rfl,(AW h 11).trans rfl⟩
theorem nD(g:Nat->Bool)[Decidable (∀i,i<3->g i=true)]:decide (∀i,i<3->g i=true)=(g 0&&(g 1&&g 2)):=by
 by_cases h:∀i,i<3->g i=true
 ·rw[Bz h,h 0 (by decide),h 1 (by decide),h 2 (by decide)];rfl
 ·rw[By h];cases h0:g 0 with
  |false=>rfl
  |true=>
   cases h1:g 1 with
   |false=>rfl
   |true=>
    cases h2:g 2 with
    |false=>rfl
    |true=>exact absurd (λi a=>by
     match i,a with
     |0,_=>exact h0
     |1,_=>exact h1
     |2,_=>exact h2) h
theorem mE:tx []={data:=#[]}:=by apply De;rw[AR];rfl
def QW(f a:Int)(b:Int)(c:Bool)(d:Int)(e:AB)(g:Int)(h:Bool)(i:Int)(j:AB)(k:Int)(l:Bool)(m:Int)(n:AB):Bool:=decide (1<=a/\a<=5)&&(AQ f b c d e&&(AQ f g h i j&&AQ f k l m n))
def Ms(f a:Int)(b:Int)(c:Bool)(m:Int)(d:AB)(e:Int)(g:Bool)(n:Int)(h:AB)(i:Int)(j:Bool)(k:Int)(l:AB):R5:=
 if b=1/\e=1 then Bd f a 1 (!(c==g)) (m+n) (nt (vl (dl d)*vl (dl h))) i j k (dl l)
 else if F8 b d||F8 e h then(false,(3,0,{data:=#[]},1)) else Bd f a 2 (!(c==g)) 0 [] i j k (dl l)
def Fb(f d:Int)(a:Int)(e:Bool)(g:Int)(h:AB)(b:Int)(i:Bool)(j:Int)(k:AB)(c:Int)(l:Bool)(m:Int)(n:AB):R5:=
 if QW f d a e g h b i j k c l m n then(if GB 3 (Dm a b c) then(false,(3,0,{data:=#[]},DL 3 (Dm a b c))) else Ms f d a e g h b i j k c l m n)
 else(false,(0,0,{data:=#[]},0))
def j0(w W:AA)(a:Int)(b:Bool)(c:Int)(d:AB)(e:Int)(f:Bool)(g:Int)(h:AB)(i:Int)(j:Bool)(k:Int)(l:AB):Prop:=
 A4 W w.heap.size a b c d/\A4 W (w.heap.size+1) e f g h/\A4 W (w.heap.size+2) i j k l
  /\Z5 W (w.heap.size+3)/\AD w.heap.size w W/\w.heap.size+3<W.heap.size
abbrev Pl(w:AA)(a:Int)(b:Bool)(c:Int)(d:AB)(e:Int)(f:Bool)(g:Int)(h:AB)(i:Int)(j:Bool)(k:Int)(l:AB):AA:=
 (((w.alloc (AY a b c d)).alloc (AY e f g h)).alloc (AY i j k l)).alloc A2
theorem j0.next{w W b:AA}{c:Int}{d:Bool}{e:Int}{f:AB}{g:Int}{i:Bool}{j:Int}{k:AB}{l:Int}{m:Bool}{n:Int}{o:AB}(h:j0 w W c d e f g i j k l m n o)(a:AD W.heap.size W b):j0 w b c d e f g i j k l m n o:=
 ⟨h.1.next a,h.2.1.next a,h.2.2.1.next a,h.2.2.2.1.below a h.2.2.2.2.2,h.2.2.2.2.1.trans (a.mono h.2.2.2.2.1.size),DU h.2.2.2.2.2 a.size⟩
theorem j0.alloc{w W:AA}{a:Int}{b:Bool}{c:Int}{d:AB}{e:Int}{f:Bool}{g:Int}{i:AB}{j:Int}{k:Bool}{l:Int}{m:AB}(h:j0 w W a b c d e f g i j k l m)(o:Obj):j0 w (W.alloc o) a b c d e f g i j k l m:=h.next ((BI _ _).alloc (AS _) o)
theorem VJ(w:AA)(a:Int)(b:Bool)(c:Int)(d:AB)(e:Int)(f:Bool)(g:Int)(h:AB)(i:Int)(j:Bool)(k:Int)(l:AB):j0 w (Pl w a b c d e f g h i j k l) a b c d e f g h i j k l:=by
 have m:(w.alloc (AY a b c d)).heap.size=w.heap.size+1:=AN _ _;have n:((w.alloc (AY a b c d)).alloc (AY e f g h)).heap.size=w.heap.size+2:=by rw[AN (w.alloc (AY a b c d)) _,m]
 have o:(((w.alloc (AY a b c d)).alloc (AY e f g h)).alloc (AY i j k l)).heap.size=w.heap.size+3:=by rw[AN ((w.alloc (AY a b c d)).alloc (AY e f g h)) _,n]
 have u:=(BI w.heap.size w).alloc (AS _) (AY a b c d);have v:B6 (w.alloc (AY a b c d)) w.heap.size _ _ _ _:=As w (.int .i64 a) (.bool b) (.int .i64 c) (.string d);have q:=As (w.alloc (AY a b c d)) (.int .i64 e) (.bool f) (.int .i64 g) (.string h);have r:=As ((w.alloc (AY a b c d)).alloc (AY e f g h)) (.int .i64 i) (.bool j) (.int .i64 k) (.string l);have s:=Bi (((w.alloc (AY a b c d)).alloc (AY e f g h)).alloc (AY i j k l)) A2;rw[m] at q;rw[n] at r;rw[o] at s;have x:AD (w.alloc (AY a b c d)).heap.size (w.alloc (AY a b c d)) ((w.alloc (AY a b c d)).alloc (AY e f g h)):=bA;have t:AD ((w.alloc (AY a b c d)).alloc (AY e f g h)).heap.size ((w.alloc (AY a b c d)).alloc (AY e f g h)) (((w.alloc (AY a b c d)).alloc (AY e f g h)).alloc (AY i j k l)):=bA;have p:AD (((w.alloc (AY a b c d)).alloc (AY e f g h)).alloc (AY i j k l)).heap.size (((w.alloc (AY a b c d)).alloc (AY e f g h)).alloc (AY i j k l)) (Pl w a b c d e f g h i j k l):=bA;refine⟨((v.next x).next t).next p,(q.next t).next p,r.next p,s,((u.alloc (by rw[m];omega) _).alloc (by rw[n];omega) _).alloc (by rw[o];omega) _,?_⟩;rw[AN (((w.alloc (AY a b c d)).alloc (AY e f g h)).alloc (AY i j k l)) _,o];omega
theorem il(f t:Int)(a:Int)(n:Bool)(k:Int)(b:AB)(d:Int)(o:Bool)(m:Int)(e:AB)(j:Int)(r:Bool)(q:Int)(p:AB)(w:AA)(aS:b.size<=4611686018427387904)(aT:e.size<=4611686018427387904)(aU:p.size<=4611686018427387904):
 cB 58 #[.int .i64 f,.int .i64 t,AH a n k b,AH d o m e,AH j r q p] w (BE (Fb f t a n k b d o m e j r q p).1 (Fb f t a n k b d o m e j r q p).2):=by
 have HS:=zq (VJ w a n k b d o m e j r q p);have aW:Hid (∀(g:Nat) X,g<X.heap.size->EY X g 3 (Dm a d j) (Dm n o r) (Dm k m q) (Dm b e p)->cB 124 #[.int .i64 f,.int .i64 t,.slice (some ⟨g,0,none⟩) 3 3] X (.bool (QW f t a n k b d o m e j r q p))):=λg X hg hr=>
  (DH f t 3 g (Dm a d j) (Dm n o r) (Dm k m q) (Dm b e p) X (by decide) hg hr (λi hi=>by match i,hi with
    |0,_=>exact aS
    |1,_=>exact aT
    |2,_=>exact aU)).mono (by
     rintro x w' ⟨rfl,hb⟩;exact⟨by rw[nD (λi=>AQ f (Dm a d j i) (Dm n o r i) (Dm k m q i) (Dm b e p i))];rfl,hb⟩)
 have ap:Hid (∀(g:Nat) X,g<X.heap.size->EY X g 3 (Dm a d j) (Dm n o r) (Dm k m q) (Dm b e p)->cB 125 #[.slice (some ⟨g,0,none⟩) 3 3] X (.tuple #[BA 3 false 0 {data:=#[]} (DL 3 (Dm a d j)),.bool (GB 3 (Dm a d j))])):=λg X hg hr=>BZ 3 g _ _ _ _ X (by decide) hg hr;obtain⟨R,hR⟩:=zxe (Fb f t a n k b d o m e j r q p);have C:=zq hR;rw[hR];clear hR aS aT aU;have a7:=CK;have aX:(Pl w a n k b d o m e j r q p).heap.size=w.heap.size+1+1+1+1:=by simp
 have ar:=Bi (Pl w a n k b d o m e j r q p) (.cells #[.int .i64 a,.bool n,.int .i64 k,.string b,.int .i64 d,.bool o,.int .i64 m,.string e,.int .i64 j,.bool r,.int .i64 q,.string p] 78);rw[aX] at ar;have aY:((Pl w a n k b d o m e j r q p).alloc (.cells #[.int .i64 a,.bool n,.int .i64 k,.string b,.int .i64 d,.bool o,.int .i64 m,.string e,.int .i64 j,.bool r,.int .i64 q,.string p] 78)).heap.size=w.heap.size+1+1+1+1+1:=by simp
 have I:Hid (EY ((Pl w a n k b d o m e j r q p).alloc (.cells #[.int .i64 a,.bool n,.int .i64 k,.string b,.int .i64 d,.bool o,.int .i64 m,.string e,.int .i64 j,.bool r,.int .i64 q,.string p] 78)) (w.heap.size+1+1+1+1) 3 (Dm a d j) (Dm n o r) (Dm k m q) (Dm b e p)/\w.heap.size+1+1+1+1<((Pl w a n k b d o m e j r q p).alloc (.cells #[.int .i64 a,.bool n,.int .i64 k,.string b,.int .i64 d,.bool o,.int .i64 m,.string e,.int .i64 j,.bool r,.int .i64 q,.string p] 78)).heap.size):=⟨nB ar,by rw[aY];omega⟩;clear aX ar aY;go_enter func58,ntmps58;go_wp2_with fail;refine cm (aW (w.heap.size+1+1+1+1) _ I.2 I.1) λw1 ad=>?_;have L:=zq ((HS.alloc _).next ad);have ae:=Ab (I.1.below ad I.2) (DU I.2 ad.size);clear ad I HS aW;cases hO:QW f t a n k b d o m e j r q p with
 |false=>
  have z:Hid (R=(false,(0,0,{data:=#[]},0))):=by show _=_;rw[<-C];unfold Fb;rw[hO];rfl
  have s:Hid (Z5 w1 (w.heap.size+3)/\AD w.heap.size w w1):=⟨L.2.2.2.1,L.2.2.2.2.1⟩;clear hO ap L ae C;go_wp2_with (refine sR s.1 0 false 0 ⟨#[]⟩ 0 ?_);refine rR (A1 s.1 0 false 0 ⟨#[]⟩ 0) ?_;exact⟨by rw[z],AC s.2 (by omega) _⟩
 |true=>
  go_wp2_with fail;refine cm (ap (w.heap.size+1+1+1+1) _ ae.2 ae.1) λw2 hb2=>?_;have J:=zq (L.next hb2);clear hb2 ae L ap a7;cases hB:GB 3 (Dm a d j) with
  |true=>
   have z:Hid (R=(false,(3,0,{data:=#[]},DL 3 (Dm a d j)))):=by show _=_;rw[<-C];unfold Fb;rw[hO,hB];rfl
   clear hO hB C;generalize DL 3 (Dm a d j)=M at*
   have s:Hid (Z5 (w2.alloc (Ei 3 false 0 ⟨#[]⟩ M)) (w.heap.size+3)/\AD w.heap.size w (w2.alloc (Ei 3 false 0 ⟨#[]⟩ M))):=⟨(J.out.alloc _).2.2.2.1,(J.out.alloc _).2.2.2.2.1⟩;go_wp2_with (refine sR s.1 3 false 0 ⟨#[]⟩ M ?_);refine rR (A1 s.1 3 false 0 ⟨#[]⟩ M) ?_;exact⟨by rw[z],AC s.2 (by omega) _⟩
  |false=>
   have z:R=Ms f t a n k b d o m e j r q p:=by rw[<-C];unfold Fb;rw[hO,hB];rfl
   have av:=hO;unfold QW at av;simp only[Bool.and_eq_true,decide_eq_true_eq] at av;obtain⟨aw,hA,ag,ah⟩:=av;have B:=of_decide_eq_false hB;have N:a≠3/\a≠4:=⟨λh=>B ⟨0,by decide,.inl h⟩,λh=>B ⟨0,by decide,.inr h⟩⟩;have O:d≠3/\d≠4:=⟨λh=>B ⟨1,by decide,.inl h⟩,λh=>B ⟨1,by decide,.inr h⟩⟩;have P:j≠3/\j≠4:=⟨λh=>B ⟨2,by decide,.inl h⟩,λh=>B ⟨2,by decide,.inr h⟩⟩;obtain⟨K,ai,ax,ca⟩:=Av f a n k b hA N.1 N.2;obtain⟨-,ak,ay,cb⟩:=Av f d o m e ag O.1 O.2;obtain⟨-,Q,S,cc⟩:=Av f j r q p ah P.1 P.2;have hL:=Li f K;have T:j=1->AJ (dl p)/\(dl p).length<=100/\-13000<=q/\q<=13000:=λh=>by obtain⟨c,l,x,y⟩:=cc h;exact⟨c,by omega,by omega,by omega⟩
   obtain⟨A,D⟩:=zxe (!(n==o));have E:Hid (j0 w (w2.alloc (Ei 3 false 0 ⟨#[]⟩ (DL 3 (Dm a d j)))) a n k b d o m e j r q p):=J.out.alloc _;generalize DL 3 (Dm a d j)=M at*
   obtain⟨a0,a1,a2,a3,a4⟩:=E.1.cells;obtain⟨c0,c1,c2,c3,c4⟩:=E.2.1.cells;by_cases U:a=1/\d=1
   ·obtain⟨rfl,rfl⟩:=U;obtain⟨q1,l1,x1,y1⟩:=ca rfl;obtain⟨q2,l2,x2,y2⟩:=cb rfl;obtain⟨nk,lt68⟩:=O4 (dl b) (dl e) q1 q2 (by omega) (by omega);have l68:(nt (vl (dl b)*vl (dl e))).length<=68:=Tf _ 68 nk.1 (by unfold Ac;exact lt68) (by decide) (by decide);have F:Hid (cA 128 #[AH 1 n k b,AH 1 o m e] (.tuple #[AH 1 A (k+m) (tx (nt (vl (dl b)*vl (dl e)))),.bool true])):=λX=>by
     have:=GV n o k m (dl b) (dl e) X q1 q2 (by omega) (by omega) (by omega) (by omega);rw[<-ai,<-ak,D] at this;exact this
    have V:Hid (cA 126 #[.int .i64 f,.int .i64 t,AH 1 A (k+m) (tx (nt (vl (dl b)*vl (dl e)))),AH j r q p] (BE R.1 R.2)):=λX=>by
     have:=IP f t (Fa f t K) 1 A (k+m) (nt (vl (dl b)*vl (dl e))) j r q (dl p) X (.inl rfl) S (λ_=>⟨(Ae nk).1,DT l68 (by decide),by omega,by omega⟩) T;rw[<-Q] at this;rw[z];unfold Ms;rw[zyp ⟨rfl,rfl⟩,D];exact this
    generalize tx (nt (vl (dl b)*vl (dl e)))=TP at*
    obtain⟨W,Y,Z,F3,F4⟩:=R;generalize k+m=ep at*
    clear hO hB C z aw hA ag ah B N O P K ai ca ak cb Q cc T hL D J ax ay S q1 l1 x1 y1 q2 l2 x2 y2 nk lt68 l68;go_wp2_with fail;refine cm (F _) λw3 G=>?_;have H:=zq (E.next G);clear G E F a0 a1 a2 a3 a4 c0 c1 c2 c3 c4;have u:Hid (j0 w (w3.alloc (AY 1 A ep TP)) 1 n k b 1 o m e j r q p):=H.out.alloc _;obtain⟨g0,g1,g2,g3,g4⟩:=u.2.2.1.cells;go_wp2_with fail;refine cm (V _) λw4 v=>?_;have s:=Ab ((u.next v).2.2.2.1) ((u.next v).2.2.2.2.1);clear v H u V g0 g1 g2 g3 g4;go_wp2_with (refine sR s.1 Y W Z F3 F4 ?_);refine rR (A1 s.1 Y W Z F3 F4) ?_;exact⟨rfl,AC s.2 (by omega) _⟩
   ·cases hz:(F8 a b||F8 d e) with
    |true=>
     have F:Hid (cA 128 #[AH a n k b,AH d o m e] (.tuple #[AH 2 A 0 {data:=#[]},.bool false])):=λX=>by
      have:=EN a n k b d o m e X (by omega);rw[D,hz] at this;exact this
     have bh:Hid (R=(false,(3,0,{data:=#[]},1))):=by show _=_;rw[z];unfold Ms;rw[zyn U,zyp hz]
     clear hO hB C z aw hA ag ah B N O P K ai ca ak cb Q cc T hL D J ax ay S U hz;go_wp2_with fail;refine cm (F _) λw3 G=>?_;have H:=zq (E.next G);clear G E F a0 a1 a2 a3 a4 c0 c1 c2 c3 c4;have u:Hid (j0 w (w3.alloc (AY 2 A 0 ⟨#[]⟩)) a n k b d o m e j r q p):=H.out.alloc _;go_wp2_with fail;refine cm (Aq _) λw4 v=>?_;have s:=Ab ((u.next v).2.2.2.1) ((u.next v).2.2.2.2.1);clear v H u;go_wp2_with (refine sR s.1 3 false 0 ⟨#[]⟩ 1 ?_);refine rR (A1 s.1 3 false 0 ⟨#[]⟩ 1) ?_;exact⟨by rw[bh],AC s.2 (by omega) _⟩
    |false=>
     have F:Hid (cA 128 #[AH a n k b,AH d o m e] (.tuple #[AH 2 A 0 {data:=#[]},.bool true])):=λX=>by
      have:=EN a n k b d o m e X (by omega);rw[D,hz] at this;exact this
     have V:Hid (cA 126 #[.int .i64 f,.int .i64 t,AH 2 A 0 {data:=#[]},AH j r q p] (BE R.1 R.2)):=λX=>by
      have:=IP f t (Fa f t K) 2 A 0 [] j r q (dl p) X (.inr rfl) S (λh=>by cases h) T;rw[<-Q,mE] at this;rw[z];unfold Ms;rw[zyn U,D,hz,zyn (by decide)];exact this
     obtain⟨W,Y,Z,F3,F4⟩:=R;clear hO hB C z aw hA ag ah B N O P K ai ca ak cb Q cc T hL D J ax ay S U hz;go_wp2_with fail;refine cm (F _) λw3 G=>?_;have H:=zq (E.next G);clear G E F a0 a1 a2 a3 a4 c0 c1 c2 c3 c4;have u:Hid (j0 w (w3.alloc (AY 2 A 0 ⟨#[]⟩)) a n k b d o m e j r q p):=H.out.alloc _;obtain⟨g0,g1,g2,g3,g4⟩:=u.2.2.1.cells;go_wp2_with fail;refine cm (V _) λw4 v=>?_;have s:=Ab ((u.next v).2.2.2.1) ((u.next v).2.2.2.2.1);clear v H u V g0 g1 g2 g3 g4;go_wp2_with (refine sR s.1 Y W Z F3 F4 ?_);refine rR (A1 s.1 Y W Z F3 F4) ?_;exact⟨rfl,AC s.2 (by omega) _⟩
theorem F6(d:AG)(h:AJ d)(a:d.length<=500):nt (vl d)=d:=(BW d (vl d) h rfl a).symm
theorem nC:nt 0=[0]:=(BW [0] 0 Az rfl (by decide)).symm
theorem Fq{v:Int}(h:Bp v)(a:v≠0):nt v≠[0]:=λe=>a (by rw[<-(Ae h).2,e];rfl)
theorem Dx(f b:Int)(neg:Bool)(a:AG)(e:Int)(rest:Bool)(c:Int)(h:a≠[0]):Al f b neg a e rest c=CJ (AF f).toNat (AV f) (Ad f) b neg a e rest c:=zyn h
theorem X5(f a:Int)(neg:Bool)(e c:Int)(rest d:Bool)(b:Int):Al f a neg [0] e rest b=Al f a neg [0] c d b:=by
 unfold Al;rw[zyp rfl,zyp rfl]
theorem ne(d:AG)(h:AJ d)(a:d.length<=500):(tn (vl d)).size=d.length:=by rw[FO,F6 d h a,AE]
def U1(f a:Int)(b c:Bool)(T:Bool×Int×Int)(d:Int):Bool×(Int×Int×AB×Int):=
 ((if T.2.2=0/\b≠c then decide (a=3) else T.1),Al f a (if T.2.2=0/\b≠c then decide (a=3) else T.1) (nt T.2.2) T.2.1 false d)
theorem WY(f c:Int)(b:Bool)(X:Int)(d:Bool)(Y a:Int)(i:1<=X)(j:1<=Y):
 U1 f c b d (OP b X d Y,a,Mn b X d Y) a=
  (if b=d then(b,Al f c b (nt (X+Y)) a false a) else if X=Y then(decide (c=3),Al f c (decide (c=3)) [0] a false a) else if Y<X then(b,Al f c b (nt (X-Y)) a false a) else(d,Al f c d (nt (Y-X)) a false a)):=by
 unfold U1 OP Mn;by_cases e:b=d
 ·simp only[zyp e];rw[zyn (λq=>q.2 e)]
 ·simp only[zyn e];by_cases g:X=Y
  ·subst g;simp only[Int.lt_irrefl,if_false,Int.sub_self,if_true];rw[zyp ⟨trivial,e⟩,nC]
  ·rw[zyn g];by_cases h:X<Y
   ·simp only[zyp h];rw[zyn (λq=>by have:=q.1;omega),zyn (show¬Y<X by omega)]
   ·simp only[zyn h];rw[zyn (λq=>by have:=q.1;omega),zyp (show Y<X by omega)]
theorem FJ(f a:Int)(d:Bool)(b:Int)(c:AG)(i:Bool)(e:Int)(g:AG)(M:Int)(h:¬180<(c.length:Int)+b-M):GC f a d b c i e g M=
 (if d=i then(d,Al f a d (nt (vl c*10^(b-M).toNat+vl g*10^(e-M).toNat)) M false M) else if vl c*10^(b-M).toNat=vl g*10^(e-M).toNat then(decide (a=3),Al f a (decide (a=3)) [0] M false M) else if vl g*10^(e-M).toNat<vl c*10^(b-M).toNat then(d,Al f a d (nt (vl c*10^(b-M).toNat-vl g*10^(e-M).toNat)) M false M) else(i,Al f a i (nt (vl g*10^(e-M).toNat-vl c*10^(b-M).toNat)) M false M)):=by
 unfold GC;rw[zyn h]
theorem Nt(f j:Int)(a:Bool)(b:Int)(d:AG)(e:Bool)(g:Int)(i:AG)(M:Int)(h:¬180<(d.length:Int)+b-M)(m:¬180<(i.length:Int)+g-M):GC f j a b d e g i M=GC f j e g i a b d M:=by
 rw[FJ f j a b d e g i M h,FJ f j e g i a b d M m];generalize vl d*10^(b-M).toNat=X;generalize vl i*10^(g-M).toNat=Y;by_cases c:a=e
 ·subst c;rw[zyp rfl,zyp rfl,Int.add_comm X Y]
 ·rw[zyn c,zyn (show¬e=a fromλq=>c q.symm)];by_cases k:X=Y
  ·subst k;rw[zyp rfl,zyp rfl]
  ·rw[zyn k,zyn (show¬Y=X fromλq=>k q.symm)];by_cases l:Y<X
   ·rw[zyp l,zyn (show¬X<Y by omega)]
   ·rw[zyn l,zyp (show X<Y by omega)]
theorem X3(f j:Int)(P:Nat)(hP:AF f=(P:Int))(G:1<=P)(ar:P<=34)(e:Bool)(g:Int)(d:AG)(l:Bool)(h:Int)(i:AG)(z:AJ d)(Y:d≠[0])(H:AJ i)(zy:i≠[0])(hl:d.length+i.length<=102)
 (av:h+(i.length:Int)<=g-P-1):
 U1 f j e l (OP e (vl d*10^(P+1)) l 1,g-P-1,Mn e (vl d*10^(P+1)) l 1) h=GC f j e g d l h i h:=by
 have u:=Gv d z Y;have vy:=Gv i H zy;have I:=(AZ d z.1).2;have Z:=(AZ i H.1).2;have ax:=H.2.1;have E:=AL (P+1);have lx:vl d<10^102:=FS I (AI _ _ (by omega));obtain⟨D,hD⟩:=zxe ((g-h).toNat);obtain⟨az,aA⟩:(D:Int)=g-h/\P+1+i.length<=D:=by omega
 have J:(h-h).toNat=0:=by omega
 have A:∀(k:Nat) (r:Int),k<=90->0<=r->r<10^k->Bp (vl d*10^k+r):=λk r hk J h1=>by
  have p:=AL k;refine⟨by have:=Int.mul_nonneg (show 0<=vl d by omega) (CP p);omega,?_⟩;have a:(vl d+1)*10^k<=10^102*10^k:=If (by omega) (CP p);rw[<-Cv,Int.add_mul] at a;have:=AI (102+k) 200 (by omega);omega
 have aC:(10:Int)<=10^(P+1):=by have:=AI 1 (P+1) (by omega);omega
 have aD:10<=vl d*10^(P+1):=by
  have:=If u (CP E);omega
 have v:(AF f).toNat=P:=by omega
 by_cases n:e=l
 ·
  have K:OP e (vl d*10^(P+1)) l 1=e:=zyp n;have L:Mn e (vl d*10^(P+1)) l 1=vl d*10^(P+1)+1:=zyp n;unfold U1;simp only[K,L];rw[zyn (λq=>q.2 n)];have w:=A P 0 (by omega) (Int.le_refl _) (AL P);rw[Int.add_zero] at w;obtain⟨s,t⟩:=Ae w;have F:nt (vl d*10^P)≠[0]:=Fq w (by have:=If u (CP (AL P));have:=AL P;omega);have lB:(nt (vl d*10^P)).length=d.length+P:=I3 d _ z Y s P 0 (by rw[t];omega) (Int.le_refl _) (AL P);have aj:=z.2.1;have x:∀(m:AG) (k:Nat) (r:Int) (o:Bool),AJ m->vl m=vl d*10^P*10^k+r->0<=r->r<10^k->(r≠0\/o=true)->d.length+P+k<=198->CJ P (AV f) (Ad f) j e (nt (vl d*10^P)) (g-P) true h=CJ P (AV f) (Ad f) j e m (g-P-k) o h:=λm k r o M N O Q R hk=>
   Jn P G (AV f) (Ad f) j e _ m (g-P) o h k r s F M (by rw[N,t]) O Q R (by omega) (by omega)
  have n1:=A (P+1) 1 (by omega) (by decide) (by omega);obtain⟨c1,v1⟩:=Ae n1;have k1:=x (nt (vl d*10^(P+1)+1)) 1 1 false c1 (by rw[v1,Int.mul_assoc,<-Cv]) (by decide) (by decide) (.inl (by decide)) (by omega);rw[Dx f j e _ _ _ _ (Fq n1 (by omega)),v];have e1:g-(P:Int)-1=g-(P:Int)-((1:Nat):Int):=by omega
  rw[e1,<-k1];by_cases B:180<(d.length:Int)+g-h
  ·unfold GC;rw[zyp B,zyp n,Int.sub_zero];have y:=A 40 0 (by omega) (Int.le_refl _) (AL 40);rw[Int.add_zero] at y;obtain⟨S,T⟩:=Ae y;have U:=x (nt (vl d*10^40)) (40-P) 0 true S (by rw[T,Int.mul_assoc,<-Cv,show P+(40-P)=40 by omega];omega) (Int.le_refl _) (AL _) (.inr rfl) (by omega);rw[Dx f j e _ _ _ _ (Fq y (by have:=If u (CP (AL 40));have:=AL 40;omega)),v,U];rw[show g-(P:Int)-((40-P:Nat):Int)=g-40 by omega]
  ·rw[FJ f j e g d l h i h B,zyp n,hD,J,Int.pow_zero,Int.mul_one];have ad:vl i<10^(D-P):=FS Z (AI _ _ (by omega));have C:Bp (vl d*10^D+vl i):=by
    have p:=AL D;refine⟨by have:=Int.mul_nonneg (show 0<=vl d by omega) (CP p);omega,?_⟩;have a:(vl d+1)*10^D<=10^d.length*10^D:=If (by omega) (CP p);rw[<-Cv,Int.add_mul] at a;have:=AI (d.length+D) 200 (by omega);have:=AI (D-P) D (by omega);omega
   obtain⟨V,W⟩:=Ae C;have X:=x (nt (vl d*10^D+vl i)) (D-P) (vl i) false V (by rw[W,Int.mul_assoc,<-Cv,show P+(D-P)=D by omega]) (by omega) ad (.inl (by omega)) (by omega);rw[Dx f j e _ _ _ _ (Fq C (by have:=Int.mul_nonneg (show 0<=vl d by omega) (CP (AL D));omega)),v,X];rw[show g-(P:Int)-((D-P:Nat):Int)=h by omega]
 ·
  have K:OP e (vl d*10^(P+1)) l 1=e:=(zyn n).trans (zyn (by omega));have L:Mn e (vl d*10^(P+1)) l 1=vl d*10^(P+1)-1:=(zyn n).trans (zyn (by omega));unfold U1;simp only[K,L];rw[zyn (λq=>by have:=q.1;omega)];have w:Bp (vl d*10^(P+1)-1):=(A (P+1) 0 (by omega) (Int.le_refl _) E).le (by omega) (by omega);obtain⟨s,t⟩:=Ae w;have F:nt (vl d*10^(P+1)-1)≠[0]:=Fq w (by omega);have aj:=z.2.1;have ae:P+1<=(nt (vl d*10^(P+1)-1)).length:=by
   rcases Nat.lt_or_ge (nt (vl d*10^(P+1)-1)).length (P+1) with c|c
   ·exfalso;have b:=(AZ _ s.1).2;rw[t] at b;have q:=AI (nt (vl d*10^(P+1)-1)).length P (by omega);have q2:=Int.pow_succ 10 P;have q3:=If u (CP E);have q4:=AL P;omega
   ·exact c
  have aG:(nt (vl d*10^(P+1)-1)).length<=d.length+(P+1):=by
   refine Bu _ s _ (by omega) ?_;rw[t,show(10:Int)^(d.length+(P+1))=10^d.length*10^(P+1) from Cv _ _ _];have:=Int.mul_lt_mul_of_pos_right I E;omega
  have x:∀(m:AG) (k:Nat) (r:Int) (o:Bool),AJ m->vl m=(vl d*10^(P+1)-1)*10^k+r->0<=r->r<10^k->(r≠0\/o=true)->d.length+(P+1)+k<=198->CJ P (AV f) (Ad f) j e (nt (vl d*10^(P+1)-1)) (g-P-1) true h=CJ P (AV f) (Ad f) j e m (g-P-1-k) o h:=λm k r o M N O Q R hk=>
   Jn P G (AV f) (Ad f) j e _ m (g-P-1) o h k r s F M (by rw[N,t]) O Q R ae (by omega)
  have h9:vl (nt (vl d*10^(P+1)-1))%10=9:=by
   rw[t,Int.pow_succ,<-Int.mul_assoc];omega
  rw[Dx f j e _ _ _ _ F,v,<-Vy P G (AV f) (Ad f) j e _ _ _ s h9 ae];by_cases B:180<(d.length:Int)+g-h
  ·unfold GC;rw[zyp B,zyn n];have y:Bp (vl d*10^40-1):=by
    have q:=A 40 0 (by omega) (Int.le_refl _) (AL 40);have q3:=If u (CP (AL 40));have:=AL 40;exact q.le (by omega) (by omega)
   obtain⟨S,T⟩:=Ae y;have p:=AL (39-P);have U:=x (nt (vl d*10^40-1)) (39-P) (10^(39-P)-1) true S (by
    rw[T,Int.sub_mul,Int.mul_assoc,<-Cv,show P+1+(39-P)=40 by omega];omega) (by omega) (by omega) (.inr rfl) (by omega)
   have q3:=If u (CP (AL 40));have q4:(10:Int)^1<=10^40:=AI 1 40 (by decide);rw[show(10:Int)^1=10 from rfl] at q4;generalize (10:Int)^40=aH at*
   rw[Dx f j e _ _ _ _ (Fq y (by omega)),v,U];rw[show g-(P:Int)-1-((39-P:Nat):Int)=g-40 by omega]
  ·have ad:vl i<10^(D-(P+1)):=FS Z (AI _ _ (by omega));have p:=AL (D-(P+1));have ah:(10:Int)^D=10^(P+1)*10^(D-(P+1)):=by rw[<-Cv,show P+1+(D-(P+1))=D by omega]
   have ap:vl i<vl d*10^D:=by
    rw[ah,<-Int.mul_assoc];have:1*10^(D-(P+1))<=vl d*10^(P+1)*10^(D-(P+1)):=If (by omega) (CP p);omega
   rw[FJ f j e g d l h i h B,zyn n,hD,J,Int.pow_zero,Int.mul_one,zyn (by omega),zyp ap];have C:Bp (vl d*10^D-vl i):=by
    refine⟨by omega,?_⟩;have a:=Int.mul_lt_mul_of_pos_right I (AL D);rw[<-Cv] at a;have:=AI (d.length+D) 200 (by omega);omega
   obtain⟨V,W⟩:=Ae C;have X:=x (nt (vl d*10^D-vl i)) (D-(P+1)) (10^(D-(P+1))-vl i) false V (by
    rw[W,Int.sub_mul,Int.mul_assoc,<-ah];omega) (by omega) (by omega) (.inl (by omega)) (by omega)
   rw[Dx f j e _ _ _ _ (Fq C (by omega)),v,X];rw[show g-(P:Int)-1-((D-(P+1):Nat):Int)=h by omega]
theorem Wh(neg:Bool)(v:Int)(k:Nat)(h:v%10^k≠0):BC 4 neg v k false=v/10^k+(if neg then 0 else 1):=by
 have e:Ft 4 neg v k false= !neg:=by
  unfold Ft jl mI;rw[zyn (show¬(4:Int)=1 by decide),zyn (show¬(4:Int)=3 by decide),zyp rfl];unfold BJ;rw[Bz h];cases neg<;>rfl
 unfold BC;rw[e];cases neg<;>rfl
theorem Fr(P:Nat)(c d:Int)(neg:Bool)(a:AG)(e g:Int)(b:Nat)(h:BX P a.length c e=b)(l:b<=200)(f:vl a%10^b≠0):
 CJ P c d 4 neg a e false g=Ht P d 4 neg (BY P (nt (vl a/10^b+(if neg then 0 else 1)))) (A8 P (nt (vl a/10^b+(if neg then 0 else 1))) (e+b)) (Dh true (a.length+e) c P):=by
 have i:Di P a.length false=0:=by unfold Di;simp
 have j:Bq (vl a) b false=true:=by
  unfold Bq;rw[zyn (by omega)];unfold BJ;rw[Bz f];rfl
 have k:Cw 4 neg (vl a) b false=vl a/10^b+(if neg then 0 else 1):=by
  unfold Cw;rw[zyn (by omega),Wh neg (vl a) b f]
 unfold CJ;simp only[i,Nat.add_zero,Int.pow_zero,Int.mul_one];rw[show e-((0:Nat):Int)=e by simp,h,j,k];unfold Bv CL;rw[zyp rfl,zyp rfl]
theorem K6(P:Nat)(a:Int)(neg:Bool)(D:AG)(e b:Int)(d:e<=a):Ht P a 4 neg D e b=(1,e,tx D,b):=by
 have c:fC D.length P e a=0:=by unfold fC;omega
 unfold Ht EZ E5;rw[c];simp only[List.replicate_zero,List.append_nil];rw[zyp (by omega)];simp
theorem X4(P:Nat)(a:Int)(D:AG)(e b:Int)(d:¬e<=a)(f:P<=D.length):Ht P a 4 false D e b=(2,0,{data:=#[]},20):=by
 have c:fC D.length P e a=0:=by unfold fC;omega
 unfold Ht EZ E5;rw[c];rw[zyn (by omega),zyn (by decide)]
def Tg(P L:Nat)(e a:Int):Nat:=min (P-L) (e-a).toNat
def KP(P:Nat)(a b:Int)(d:AG)(e:Int):Int×Int×AB:=
 let D:=nt (vl d*10^Tg P d.length e a+1)
 if A8 P D (e-Tg P d.length e a)<=b then(1,A8 P D (e-Tg P d.length e a),tx (BY P D)) else(2,0,{data:=#[]})
def KO(P:Nat)(a:Int)(d:AG)(e:Int):Int×Int×AB:=
 let D:=nt (vl d*10^Tg P d.length e a-1)
 if D.length<P/\a<e-Tg P d.length e a then(1,e-Tg P d.length e a-1,tx (List.replicate P 9)) else(1,e-Tg P d.length e a,tx D)
theorem kD(X M:Int)(h:2<=M):(X*M+1)/M=X/\(X*M+1)%M=1:=by
 have a:(X*M+1)%M=1:=by
  rw[Int.add_comm,Int.add_mul_emod_self_right];exact Int.emod_eq_of_lt (by omega) (by omega)
 refine⟨?_,a⟩;rw[Int.add_comm,Int.add_mul_ediv_right _ _ (by omega),Int.ediv_eq_zero_of_lt (by omega) (by omega)];omega
theorem Xr(X M:Int)(h:2<=M):(X*M-1)/M=X-1/\(X*M-1)%M=M-1:=by
 have e:X*M-1=(M-1)+(X-1)*M:=by rw[Int.sub_mul];omega
 rw[e];refine⟨?_,?_⟩
 ·rw[Int.add_mul_ediv_right _ _ (by omega),Int.ediv_eq_zero_of_lt (by omega) (by omega)];omega
 ·rw[Int.add_mul_emod_self_right];exact Int.emod_eq_of_lt (by omega) (by omega)
theorem Kd(k:Nat)(h:1<=k):(2:Int)<=10^k:=by
 have:=AI 1 k h;rw[Int.pow_one] at this;omega
theorem L3(n:Nat)(h:1<=n):(10:Int)^n=10^(n-1)*10:=by
 obtain⟨m,rfl⟩:∃m,n=m+1:=⟨n-1,by omega⟩;rw[show m+1-1=m by omega];exact Int.pow_succ 10 m
section
variable (P : Nat) (low high : Int) (d : List Int) (e : Int) (k : Nat)
theorem kO(y:1<=P)(z:P<=34)(f:AJ d)(n:d≠[0])(A:d.length<=P)(B:low<=e)(C:e<=high)(g:(k:Int)=(if low<=e-P-1 then(P:Int)+1 else e-low+1))(a:AG)(o:AJ a)(h:vl a=vl d*10^k+1)(i:Int):
 ∃p,CJ P low high 4 false a (e-k) false i=((KP P low high d e).1,(KP P low high d e).2.1,(KP P low high d e).2.2,p):=by
 have E:=f.2.1;obtain⟨j,l⟩:=zxe (Tg P d.length e low);have F:j<=P-d.length/\(j:Int)<=e-low/\(j=P-d.length\/(j:Int)=e-low):=by rw[<-l];unfold Tg;omega
 have q:1<=k/\j+1<=k/\k<=P+1:=by
  split at g<;>omega
 have r:a.length=d.length+k:=I3 d a f n o k 1 h (by decide) (by have:=Kd k q.1;omega);have s:BX P a.length low (e-k)=k-j:=by
  rw[r];unfold BX;split at g<;>omega
 have t:(10:Int)^k=10^j*10^(k-j):=by rw[<-Cv,show j+(k-j)=k by omega]
 obtain⟨u,v⟩:=kD (vl d*10^j) (10^(k-j)) (Kd _ (by omega));have m:vl a=vl d*10^j*10^(k-j)+1:=by rw[h,t,Int.mul_assoc]
 rw[Fr P low high false a (e-k) i (k-j) s (by omega) (by rw[m,v];decide),m,u];rw[zyn (by decide)];have w:e-(k:Int)+((k-j:Nat):Int)=e-j:=by omega
 rw[w];unfold KP;rw[l];simp only;obtain⟨D,x⟩:=zxe (nt (vl d*10^j+1));rw[x];by_cases b:A8 P D (e-j)<=high
 ·rw[zyp b,K6 P high false (BY P D) _ _ b];exact⟨_,rfl⟩
 ·rw[zyn b,X4 P high (BY P D) _ _ b (by
   unfold A8 at b;unfold BY;by_cases c:P<D.length
   ·rw[zyp c,FQ];omega
   ·rw[zyn c] at b;omega)]
  exact⟨_,rfl⟩
theorem RK(P:Nat):AJ (List.replicate (P+1) 9)/\vl (List.replicate (P+1) 9)=10^(P+1)-1:=by
 have a:∀n:Nat,vl (List.replicate n 9)=10^n-1:=λn=>by
  induction n with
  |zero=>rfl
  |succ n ih=>
   rw[List.replicate_succ',CX,ih,Int.pow_succ];omega
 refine⟨⟨λx b=>by have:=(List.mem_replicate.1 b).2;omega,by simp,.inr (by simp[List.replicate_succ])⟩,a _⟩
theorem kN(U:2<=P)(V:P<=34)(o:AJ d)(K:d≠[0])(W:d.length<=P)(X:low<=e)(Y:e<=high)(l:(k:Int)=(if low<=e-P-1 then(P:Int)+1 else e-low+1))(a:AG)(p:AJ a)(c:vl a=vl d*10^k-1)(q:Int):
 ∃L,CJ P low high 4 true a (e-k) false q=((KO P low d e).1,(KO P low d e).2.1,(KO P low d e).2.2,L):=by
 have Z:=o.2.1;obtain⟨j,B⟩:=zxe (Tg P d.length e low);have aa:j<=P-d.length/\(j:Int)<=e-low/\(j=P-d.length\/(j:Int)=e-low):=by rw[<-B];unfold Tg;omega
 have M:1<=k/\j+1<=k/\k<=P+1:=by
  split at l<;>omega
 have lo:=EJ d o K;have C:=(AZ d o.1).2;have tk:=Kd k M.1;have E:=AL j;have N:(10:Int)^k=10^j*10^(k-j):=by rw[<-Cv,show j+(k-j)=k by omega]
 have O:0<=vl d*10^j-1:=by
  have F:(1:Int)<=vl d:=by have:=AL (d.length-1);omega
  have:1*10^j<=vl d*10^j:=If F (CP E);omega
 have G:vl d*10^j-1<10^(d.length+j):=by
  have:vl d*10^j<10^d.length*10^j:=Int.mul_lt_mul_of_pos_right C E;rw[<-Cv] at this;omega
 obtain⟨m,r⟩:=B5 (vl d*10^j-1) O (FS G (AI _ _ (by omega)));obtain⟨D,s⟩:=zxe (nt (vl d*10^j-1));rw[s] at m r;have ad:D.length<=d.length+j:=Bu D m _ (by omega) (by rw[r];exact G);unfold KO;rw[B];simp only;rw[s];by_cases f:vl d=10^(d.length-1)/\low<e-j
 ·
  obtain⟨f,Q⟩:=f;have R:j=P-d.length:=by omega
  have t:a.length=d.length+k-1:=by
   refine Oy a p _ (by omega) ?_ ?_
   ·have u:=L3 (d.length+k-1) (by omega);have g:vl d*10^k=10^(d.length+k-1):=by rw[f,<-Cv,show d.length-1+k=d.length+k-1 by omega]
    have:=AL (d.length+k-1-1);rw[c,g,u];omega
   ·have g:vl d*10^k=10^(d.length+k-1):=by rw[f,<-Cv,show d.length-1+k=d.length+k-1 by omega]
    rw[c,g];omega
  have v:BX P a.length low (e-k)=k-j-1:=by
   rw[t];unfold BX;split at l<;>omega
  have H:1<=k-j-1:=by
   split at l<;>omega
  have i:vl a=10^P*10^(k-j-1)-1:=by
   rw[c,f,<-Cv,<-Cv,show d.length-1+k=P+(k-j-1) by omega]
  obtain⟨w,x⟩:=Xr (10^P) (10^(k-j-1)) (Kd _ H);have S:=Kd _ H;rw[Fr P low high true a (e-k) q (k-j-1) v (by omega) (by rw[i,x];omega),i,w,zyp rfl,Int.add_zero];obtain⟨b,rfl⟩:∃b,P=b+1:=⟨P-1,by omega⟩;have T:nt (10^(b+1)-1)=List.replicate (b+1) 9:=(BW _ _ (RK b).1 (RK b).2 (by rw[GG];omega)).symm;rw[T];have y:BY (b+1) (List.replicate (b+1) 9)=List.replicate (b+1) 9:=by unfold BY;rw[zyn (by rw[GG];omega)]
  have z:A8 (b+1) (List.replicate (b+1) 9) (e-(k:Int)+((k-j-1:Nat):Int))=e-j-1:=by unfold A8;rw[zyn (by rw[GG];omega)];omega
  rw[y,z,K6 _ _ _ _ _ _ (by omega)];have A:D.length<b+1/\low<e-(j:Int):=by
   refine⟨?_,Q⟩;have I:vl D<10^b:=by
    rw[r,f,<-Cv,show d.length-1+j=b by omega];omega
   have:=Bu D m b (by omega) I;omega
  rw[zyp A];exact⟨_,rfl⟩
 ·
  have t:a.length=d.length+k\/(a.length=d.length+k-1/\¬low<e-j):=by
   by_cases n:vl d=10^(d.length-1)
   ·right
    refine⟨?_,λh=>f ⟨n,h⟩⟩;refine Oy a p _ (by omega) ?_ ?_
    ·have u:=L3 (d.length+k-1) (by omega);have g:vl d*10^k=10^(d.length+k-1):=by rw[n,<-Cv,show d.length-1+k=d.length+k-1 by omega]
     have:=AL (d.length+k-1-1);rw[c,g,u];omega
    ·have g:vl d*10^k=10^(d.length+k-1):=by rw[n,<-Cv,show d.length-1+k=d.length+k-1 by omega]
     rw[c,g];omega
   ·left
    refine Oy a p _ (by omega) ?_ ?_
    ·have:(10^(d.length-1)+1)*10^k<=vl d*10^k:=If (by omega) (by omega);rw[Int.add_mul,<-Cv,show d.length-1+k=d.length+k-1 by omega] at this;rw[c];omega
    ·have:vl d*10^k<10^d.length*10^k:=Int.mul_lt_mul_of_pos_right C (by omega);rw[<-Cv] at this;rw[c];omega
  have v:BX P a.length low (e-k)=k-j:=by
   unfold BX;rcases t with h|⟨h,J⟩<;>rw[h]<;>split at l<;>omega
  have i:vl a=vl d*10^j*10^(k-j)-1:=by rw[c,N,Int.mul_assoc]
  obtain⟨w,x⟩:=Xr (vl d*10^j) (10^(k-j)) (Kd _ (by omega));have S:=Kd (k-j) (by omega);rw[Fr P low high true a (e-k) q (k-j) v (by omega) (by rw[i,x];omega),i,w,zyp rfl,Int.add_zero,s];have y:BY P D=D:=by unfold BY;rw[zyn (by omega)]
  have z:A8 P D (e-(k:Int)+((k-j:Nat):Int))=e-j:=by unfold A8;rw[zyn (by omega)];omega
  rw[y,z,K6 _ _ _ _ _ _ (by omega)];have A:¬(D.length<P/\low<e-(j:Int)):=by
   rintro⟨F,J⟩;have n:vl d≠10^(d.length-1):=λh=>f ⟨h,J⟩;have R:j=P-d.length:=by omega
   have:(10^(d.length-1)+1)*10^j<=vl d*10^j:=If (by omega) (by omega);rw[Int.add_mul,<-Cv,show d.length-1+j=P-1 by omega] at this;have I:=(AZ D m.1).2;have:=AI D.length (P-1) (by omega);omega
  rw[zyn A];exact⟨_,rfl⟩
end
def M2(f:Int)(n:Bool)(e:Int)(d:AG):Bool×Int×Int×AB:=
 if d=[0] then(false,1,AV f,tx [1]) else if n then(true,KO (AF f).toNat (AV f) d e) else(false,KP (AF f).toNat (AV f) (Ad f) d e)
theorem gi:nt 1=[1]:=(BW [1] 1 (BL 1 (by decide) (by decide)) rfl (by decide)).symm
theorem Q2(f:Int)(a:f=64\/f=128):2<=(AF f).toNat/\(AF f).toNat<=34/\AF f=((AF f).toNat:Int)/\AV f<=Ad f/\-6176<=AV f/\Ad f<=6111:=by
 rcases a with rfl|rfl<;>decide
theorem go(f:Int)(G:f=64\/f=128)(n:Bool)(e:Int)(d:AG)(b:AJ d)(z:d.length<=(AF f).toNat)(A:AV f<=e)(B:e<=Ad f):
 ∃g,YI f 4 n e (vl d) false (AV f-1) 1=(M2 f n e d).1/\kP f 4 n e (vl d) false (AV f-1) 1=((M2 f n e d).2.1,(M2 f n e d).2.2.1,(M2 f n e d).2.2.2,g):=by
 obtain⟨H,C,I,J,T,U⟩:=Q2 f G;generalize l:(AF f).toNat=P at*
 generalize m:AV f=a at*
 generalize o:Ad f=r at*
 unfold M2 kP YI;rw[l,m,o];by_cases i:d=[0]
 ·subst i;rw[zyp rfl];have s:Es (AF f) n e (vl [0]) false (a-1) 1=(false,a-1,1):=by unfold Es;rw[zyp (show vl [0]=0 from rfl)]
  rw[s];simp only;rw[zyn (λh=>absurd h.1 (by decide)),gi,Dx _ _ _ _ _ _ _ (by decide),l,m,o];rw[Fr P a r false [1] (a-1) _ 1 (by unfold BX;show(max (max 0 (((1:Nat):Int)-P)) (a-(a-1))).toNat=1;omega) (by decide) (by decide)];rw[show vl [1]/10^1+(if false=true then(0:Int) else 1)=1 by decide,gi];have K:BY P [1]=[1]:=by unfold BY;rw[zyn (by show¬P<1;omega)]
  have L:A8 P [1] (a-1+((1:Nat):Int))=a:=by unfold A8;rw[zyn (by show¬P<1;omega)];omega
  rw[K,L,K6 _ _ _ _ _ _ J];exact⟨_,rfl,rfl⟩
 ·rw[zyn i];have V:=EJ d b i;have M:=(AZ d b.1).2;have N:(1:Int)<=vl d:=by have:=AL (d.length-1);omega
  have W:=b.2.1;obtain⟨E,t⟩:=zxe (MM (AF f) e 1 (a-1));have O:Mc (AF f) e 1 (a-1)=1:=by unfold Mc;split<;>rfl
  have p:e-E=(if a<=e-P-1 then(P:Int)+1 else e-a+1):=by
   rw[<-t];unfold MM ir Mo;rw[show(tn 1).size=1 by rw[FO,gi,AE];rfl,I];by_cases c:a<=e-P-1
   ·rw[zyp c,zyp (by simp only[decide_eq_true_eq];omega)];omega
   ·rw[zyn c,zyn (by simp only[decide_eq_true_eq];omega)];omega
  obtain⟨k,Q⟩:=zxe ((e-E).toNat);have D:(k:Int)=e-E:=by split at p<;>omega
  have R:1<=k/\k<=P+1:=by split at p<;>omega
  have S:Ph (AF f) e (vl d) 1 (a-1)=vl d*10^k:=by unfold Ph;rw[t,Q]
  have s:Es (AF f) n e (vl d) false (a-1) 1=(OP n (vl d*10^k) false 1,E,Mn n (vl d*10^k) false 1):=by
   unfold Es;rw[zyn (by omega),zyn (by decide),zyn (by omega)];unfold Wx;rw[S,O,t]
  rw[s];simp only;have X:=Kd k R.1;have Y:2<=vl d*10^k:=by
   have:1*10^k<=vl d*10^k:=If N (by omega);omega
  have Z:vl d*10^k<10^(d.length+k):=by
   have:vl d*10^k<10^d.length*10^k:=Int.mul_lt_mul_of_pos_right M (by omega);rw[<-Cv] at this;exact this
  have aa:(10:Int)^(d.length+k)<=10^499:=AI _ _ (by omega);have ab:(10:Int)^500=10^499*10:=L3 500 (by decide);have ac:=AL 499;have F:E=e-k:=by omega
  cases n with
  |false=>
   have u:OP false (vl d*10^k) false 1=false:=by unfold OP;rw[zyp rfl]
   have v:Mn false (vl d*10^k) false 1=vl d*10^k+1:=by unfold Mn;rw[zyp rfl]
   rw[u,v,zyn (by omega)];obtain⟨w,j⟩:=B5 (vl d*10^k+1) (by omega) (by omega);have x:nt (vl d*10^k+1)≠[0]:=λq=>by rw[q] at j;have:vl [0]=0:=rfl;omega
   rw[Dx _ _ _ _ _ _ _ x,l,m,o,F];obtain⟨g,y⟩:=kO P a r d e k (by omega) C b i z A B (by rw[D];exact p) _ w j (min e (a-1));rw[y];exact⟨g,rfl,rfl⟩
  |true=>
   have u:OP true (vl d*10^k) false 1=true:=by unfold OP;rw[zyn (by decide),zyn (by omega)]
   have v:Mn true (vl d*10^k) false 1=vl d*10^k-1:=by unfold Mn;rw[zyn (by decide),zyn (by omega)]
   rw[u,v,zyn (by omega)];obtain⟨w,j⟩:=B5 (vl d*10^k-1) (by omega) (by omega);have x:nt (vl d*10^k-1)≠[0]:=λq=>by rw[q] at j;have:vl [0]=0:=rfl;omega
   rw[Dx _ _ _ _ _ _ _ x,l,m,o,F];obtain⟨g,y⟩:=kN P a r d e k H C b i z A B (by rw[D];exact p) _ w j (min e (a-1));rw[y];exact⟨g,rfl,rfl⟩
theorem Qb(f:Int)(d:f=64\/f=128)(w:AA):cB 176 #[.int .i64 f] w (AH 1 false (AV f-1) (tn 1)):=by
 have e:=zq λX=>Eb f X;obtain⟨-,-,-,-,i,j⟩:=Q2 f d;have k:AV f<=6111:=by rcases d with rfl|rfl<;>decide
 have l:=zw (AV f-1) (by omega);have g:tn 1={data:=#[49]}:=by rw[FO,gi];apply De;rw[AR];rfl
 rw[g];have m:=Cp 1 false (AV f-1) {data:=#[49]};have a:Hid (Z4 (w.alloc VU) w.heap.size/\AD w.heap.size w (w.alloc VU)):=⟨As w _ _ _ _,bA⟩;clear i j k g;generalize AF f=n at*
 generalize AV f=h at*
 generalize Ad f=o at*
 go_enter func176,ntmps176;go_wp2_with fail;refine cm (e _) λp b=>?_;have c:=Ab (a.1.next b) (a.2.trans (b.mono a.2.size));clear b a e;go_wp2_with (refine sN c.1 1 false (h-1) {data:=#[49]} ?_);refine rN ((c.1.row (.int .i64 1) (.bool false) (.int .i64 (h-1)) (.string {data:=#[49]})).cells) ?_;exact⟨rfl,AC c.2 (AS _) _⟩
theorem OS(f:Int)(c:f=64\/f=128)(b:AK)(a:b=if f=64 then .iface 208 (.agg #[]) else .iface 211 (.agg #[]))(neg:Bool)(w:AA):cB 175 #[b,.bool neg] w (AH 1 neg (Ad f) (tx (List.replicate (AF f).toNat 9))):=by
 rcases c with rfl|rfl
 ·rw[zyp rfl] at a;subst a;exact IM (f:=64) (.inl ⟨rfl,rfl,rfl,rfl,rfl⟩) neg w
 ·rw[zyn (by decide)] at a;subst a;exact IM (f:=128) (.inr ⟨rfl,rfl,rfl,rfl,rfl⟩) neg w
theorem V2(f:Int)(a:f=64\/f=128)(w:AA):cE 148 #[.int .i64 f] w (.tuple #[if f=64 then .iface 208 (.agg #[]) else .iface 211 (.agg #[]),.bool true]):=by
 rcases a with rfl|rfl
 ·exact Is w
 ·exact G1 w
def RO(f:Int)(k:Int)(n:Bool)(e:Int)(s:AB):VY:=
 if k=2 then(if n then(true,(1,Ad f,tx (List.replicate (AF f).toNat 9),0)) else(false,(2,0,{data:=#[]},0)))
 else((M2 f n e (dl s)).1,((M2 f n e (dl s)).2.1,(M2 f n e (dl s)).2.2.1,(M2 f n e (dl s)).2.2.2,0))
theorem Yi(f:Int)(b:Bool)(e:Int)(s:AB)(h:AQ f 2 b e s=true):e=0/\s={data:=#[]}:=by
 unfold AQ at h;by_cases a:AF f=0
 ·rw[zyp a] at h;cases h
 rw[zyn a,zyn (by decide),zyp rfl] at h;simp only[Bool.and_eq_true,decide_eq_true_eq] at h;refine⟨h.1,?_⟩;have c:=h.2;rw[ByteArray.toList_eq,List.isEmpty_iff] at c;apply De;exact Array.toList_eq_nil_iff.1 c
def jw(X:AA)(p:Nat)(f k:Int)(n:Bool)(e:Int)(s:AB):Prop:=X.cell? ⟨p,0,none⟩=some (.int .i64 f)/\A4 X (p+1) k n e s/\p<X.heap.size
theorem jw.next{X b:AA}{p:Nat}{f k:Int}{n:Bool}{e:Int}{s:AB}(h:jw X p f k n e s)(a:AD X.heap.size X b):jw b p f k n e s:=⟨(a.cell (p:=⟨p,0,none⟩) h.2.2).trans h.1,h.2.1.next a,DU h.2.2 a.size⟩
theorem Vw(k:Int)(b:Bool)(e:Int)(s:AB)(a:Int)(w:AA):(Instr.field 90 (BA k b e s a) 0).run prog w=.ok (AH k b e s) w:=by kernel_rfl
theorem WZ(p:Nat)(f:Int)(k:Int)(n:Bool)(e:Int)(s:AB)(X:AA)(m:AQ f k n e s=true)(u:k≠3)(v:k≠4)(c:jw X p f k n e s):
 Calls prog 174 #[.pointer (some ⟨p+1,0,none⟩),.pointer (some ⟨p,0,none⟩)] X λx F=>(x=.returned (BE (RO f k n e s).1 (RO f k n e s).2)\/x=Aa (BE (RO f k n e s).1 (RO f k n e s).2))/\AD X.heap.size X F:=by
 obtain⟨g,w,ah,y⟩:=Av f k n e s m u v;have Q:=Af X (.int .i64 0) (.bool false) (.int .i64 0) (.string ⟨#[]⟩) (.int .i64 0);have b:AD X.heap.size X (X.alloc A2):=bA;have a:=J9 Q b (c.next b);clear Q b c;have o:=zq λX=>Qb f g X;obtain⟨G,S,-⟩:=a.2.2;obtain⟨H,I,J,K,-⟩:=S.cells;clear S;rcases ah with rfl|rfl
 ·
  obtain⟨q,hl,T,U⟩:=y rfl;obtain⟨p2,ak,pP,lh,l1,l2⟩:=Q2 f g;have b:=AZ (dl s) q.1;have V:(dl s).length<=(AF f).toNat:=by omega
  obtain⟨W,Z,e2⟩:=go f g n e (dl s) q V T U;have ab:s=tn (vl (dl s)):=by rw[FO,F6 (dl s) q (by omega)];exact w
  have r:Hid (cA 76 #[.int .i64 f,.int .i64 4,AH 1 n e s,AH 1 false (AV f-1) (tn 1)] (BA (M2 f n e (dl s)).2.1 (M2 f n e (dl s)).1 (M2 f n e (dl s)).2.2.1 (M2 f n e (dl s)).2.2.2 W)):=λY=>by
   have:=Dj f 4 g (by omega) n e (vl (dl s)) false (AV f-1) 1 (dl s).length 1 Y b.1 b.2 (by decide) (by decide) (by have:=q.2.1;omega) (by decide) (by omega) (by omega) (by omega);rw[Z,e2,<-ab] at this;exact this
  have E:Hid (RO f 1 n e s=((M2 f n e (dl s)).1,((M2 f n e (dl s)).2.1,(M2 f n e (dl s)).2.2.1,(M2 f n e (dl s)).2.2.2,0))):=by show _=_;unfold RO;rw[zyn (by decide)]
  rw[E];clear E Z e2 ab b V p2 ak pP lh l1 l2 q hl T U y w m u v g;generalize M2 f n e (dl s)=R at*
  obtain⟨z,A,B,D⟩:=R;generalize tn 1=T1 at*
  generalize AV f-1=L1 at*
  have ay:=Vw A z B D W;have ar:=AT A z B D;go_enter func174,ntmps174;go_upto_region 4 with fail;generalize L:X.alloc A2=j at*
  clear L;have t:=dR j;refine AM (C:=AD j.heap.size j) 4 t ?_;simp only[Hy,List.take_zero,Ia,List.drop_zero];repeat (go_big_quiet_step ((intro c;rename_i M;first|exact rfl|((with_reducible refine Calls.class_of (o.out M) ?_);exact(λF b=>BQ c b))|(have N:=(a.out.2.2.next c).1;go_simp;exact rfl)|(obtain⟨N,u1,u2,u3,u4⟩:=(a.out.2.2.next c).2.1.cells;go_simp;exact rfl))))
  refine wpQuiet_nil ?_;intro w1 l;have h:=Ab (a.1.below l a.1.lt) (a.2.1.trans (l.mono a.2.1.size));clear l a t o G H I J K;go_wp2_with fail;refine cm (r _) λw2 d=>?_;have i:=Ab (h.1.below d h.1.lt) (h.2.trans (d.mono h.2.size));clear d h r;go_wp2_with (refine sR i.1 A z B D 0 ?_);refine rR (A1 i.1 A z B D 0) ?_;exact⟨.inl rfl,AC i.2 (AS _) _⟩
 ·
  obtain⟨rfl,rfl⟩:=Yi f n e s m;cases n with
  |true=>
   have ae:=zq λX=>V2 f g X;have af:=zq λX=>OS f g _ rfl true X;have E:Hid (RO f 2 true 0 {data:=#[]}=(true,(1,Ad f,tx (List.replicate (AF f).toNat 9),0))):=rfl;rw[E];clear E o g y w m u v;generalize (if f=64 then Value.iface 208 (.agg #[]) else .iface 211 (.agg #[]))=FM at*
   generalize tx (List.replicate (AF f).toNat 9)=O at*
   generalize Ad f=P at*
   have ar:=AT 1 true P O;go_enter func174,ntmps174;go_wp2_with fail;refine(ae _).mono ?_;rintro x w1 ⟨rfl,rfl⟩;go_wp2_with fail;refine cm (af _) λw2 d=>?_;have i:=Ab (a.1.below d a.1.lt) (a.2.1.trans (d.mono a.2.1.size));clear d a af ae G H I J K;go_wp2_with (refine sR i.1 1 true P O 0 ?_);refine rR (A1 i.1 1 true P O 0) ?_;exact⟨.inl rfl,AC i.2 (AS _) _⟩
  |false=>
   have ag:Md 2 (AX 2 1) (AX false false) (AX 0 (AV f-1)) (AX {data:=#[]} (tn 1))=Aa (BA 2 false 0 {data:=#[]} 0):=by
    simp[Md,Nw,Hl,AX]
   have r:=zq λY=>Ap f 4 2 false 0 {data:=#[]} 1 false (AV f-1) (tn 1) Y _ ag;have E:Hid (RO f 2 false 0 {data:=#[]}=(false,(2,0,{data:=#[]},0))):=rfl;rw[E];clear E ag g y w m u v;generalize tn 1=T1 at*
   generalize AV f-1=L1 at*
   go_enter func174,ntmps174;go_upto_region 4 with fail;generalize L:X.alloc A2=j at*
   clear L;have t:=dR j;refine AM (C:=AD j.heap.size j) 4 t ?_;simp only[Hy,List.take_zero,Ia,List.drop_zero];repeat (go_big_quiet_step ((intro c;rename_i M;first|exact rfl|((with_reducible refine Calls.class_of (o.out M) ?_);exact(λF b=>BQ c b))|(have N:=(a.out.2.2.next c).1;go_simp;exact rfl)|(obtain⟨N,u1,u2,u3,u4⟩:=(a.out.2.2.next c).2.1.cells;go_simp;exact rfl))))
   refine wpQuiet_nil ?_;intro w1 l;have h:=zq (a.2.1.trans (l.mono a.2.1.size));clear l a t o G H I J K;go_wp2_with fail;refine cm (r _) λw2 d=>?_;have i:=h.trans (d.mono h.size);clear d h r;go_wp2;exact⟨rfl,.inr rfl,i⟩
theorem Qn(f:Int)(k:Int)(n:Bool)(e:Int)(s:AB)(w:AA)(B:s.size<=4611686018427387904):
 cB 100 #[.int .i64 f,AH k n e s] w (BE (GF f 4 1 (λ_=>k) (λ_=>n) (λ_=>e) (λ_=>s) (RO f k n e s)).1 (GF f 4 1 (λ_=>k) (λ_=>n) (λ_=>e) (λ_=>s) (RO f k n e s)).2):=by
 have al:∀(C:Fn) (first D:Array AK) (w:AA),(Instr.makeFunc C first D).run prog w=.ok (.func C first D) w:=λ_ _ _ _=>rfl;have E:∀args w,(callFunc 174 args).run prog w=.ok (.enter 174 args) w:=enters_of func174 (by kernel_rfl) rfl;obtain⟨W,q⟩:=zxe (((w.alloc (.cells #[.int .i64 f] 2)).alloc (AY k n e s)).alloc A2);have F:=A9 w (.int .i64 f) 2;have r:=AN w (.cells #[.int .i64 f] 2);have t:AD w.heap.size w (w.alloc (.cells #[.int .i64 f] 2)):=bA;generalize G:w.alloc (.cells #[.int .i64 f] 2)=a at*
 have u:=As a (.int .i64 k) (.bool n) (.int .i64 e) (.string s);have H:=AN a (AY k n e s);have h:AD a.heap.size a (a.alloc (AY k n e s)):=bA;generalize I:a.alloc (AY k n e s)=b at*
 have g:=Af b (.int .i64 0) (.bool false) (.int .i64 0) (.string ⟨#[]⟩) (.int .i64 0);have j:=AN b A2;have l:AD b.heap.size b (b.alloc A2):=bA;rw[q] at g j l;rw[r] at u;rw[H,r] at g j;have ab:jw a w.heap.size f k n e s\/True:=.inr trivial;have J:jw W w.heap.size f k n e s:=by
  have hq:b.cell? ⟨w.heap.size,0,none⟩=some (.int .i64 f):=(h.cell (p:=⟨w.heap.size,0,none⟩) (show w.heap.size<a.heap.size by omega)).trans F;exact jw.next (X:=b) ⟨hq,u,by omega⟩ l
 have v:=t.trans ((h.trans (l.mono h.size)).mono t.size);have x:=As W (.int .i64 k) (.bool n) (.int .i64 e) (.string s);have m:AD W.heap.size W (W.alloc (AY k n e s)):=bA;have K:EY (W.alloc (AY k n e s)) W.heap.size 1 (λ_=>k) (λ_=>n) (λ_=>e) (λ_=>s):=by
  obtain⟨q0,q1,q2,q3,-⟩:=x.cells;intro i hi;obtain rfl:i=0:=by omega
  exact⟨q0,q1,q2,q3⟩
 have o:Hid (cB 82 #[.int .i64 f,.int .i64 4,.func (.func 174) #[] #[.pointer (some ⟨w.heap.size+1,0,none⟩),.pointer (some ⟨w.heap.size,0,none⟩)],.slice (some ⟨W.heap.size,0,none⟩) 1 1] (W.alloc (AY k n e s)) (BE (GF f 4 1 (λ_=>k) (λ_=>n) (λ_=>e) (λ_=>s) (RO f k n e s)).1 (GF f 4 1 (λ_=>k) (λ_=>n) (λ_=>e) (λ_=>s) (RO f k n e s)).2)):=
  DR f 4 174 _ E 1 W.heap.size (λ_=>k) (λ_=>n) (λ_=>e) (λ_=>s) (RO f k n e s) _ (by decide) (by decide) x.lt K (λi hi=>B) (λy g2 Y hY=>by
   have hr:AQ f k n e s=true:=by
    unfold BO at y;simp only[Bool.and_eq_true,decide_eq_true_eq] at y;exact y.2 0 (by decide)
   have L:=of_decide_eq_false g2;exact WZ w.heap.size f k n e s Y hr (λc=>L ⟨0,by decide,.inl c⟩) (λc=>L ⟨0,by decide,.inr c⟩) ((J.next m).next hY))
 have d:=Ab (g.below m g.lt) (v.trans (m.mono v.size));obtain⟨M,N,-⟩:=J;obtain⟨O,P,Q,S,-⟩:=N.cells;rw[j] at o;rw[<-q,<-I,<-G] at o d M O P Q S;clear q G I F r t u H h g j l ab v x m K N B E;generalize GF f 4 1 (λ_=>k) (λ_=>n) (λ_=>e) (λ_=>s) (RO f k n e s)=R at*
 obtain⟨T,U,V,Z,F4⟩:=R;go_enter func100,ntmps100;go_wp2_with fail;refine cm o λw4 z=>?_;have A:=Ab (d.1.below z d.1.lt) (d.2.trans (z.mono d.2.size));clear z d o M O P Q S;go_wp2_with (refine sR A.1 U T V Z F4 ?_);refine rR (A1 A.1 U T V Z F4) ?_;exact⟨rfl,AC A.2 (by omega) _⟩
theorem Em{P:Program}{b:Array Oper}{Q:Exit->Act->AA->Prop}{K:Act->AA->Prop}{a:Act}{w:AA}(c:∀a w,Code.wp P Code.ret Q a w->K a w)(h:Q .ret a w):Hid (wpList P b (Exit.then K Q) [] a w):=c _ _ (wp_ret h)
def NB(w:AA)(k:Int)(n:Bool)(e:Int)(s:AB)(W:AA):Prop:=A4 W w.heap.size k n e s/\Z5 W (w.heap.size+1)/\EY W (w.heap.size+2) 1 (λ_=>k) (λ_=>n) (λ_=>e) (λ_=>s)/\AD w.heap.size w W/\w.heap.size+2<W.heap.size
theorem NB.next{w W b:AA}{k:Int}{n:Bool}{e:Int}{s:AB}(h:NB w k n e s W)(a:AD W.heap.size W b):NB w k n e s b:=⟨h.1.next a,h.2.1.below a h.2.1.lt,h.2.2.1.below a h.2.2.2.2,h.2.2.2.1.trans (a.mono h.2.2.2.1.size),DU h.2.2.2.2 a.size⟩
abbrev oA(w:AA)(k:Int)(n:Bool)(e:Int)(s:AB):AA:=((w.alloc (AY k n e s)).alloc A2).alloc (AY k n e s)
theorem O5(w:AA)(k:Int)(n:Bool)(e:Int)(s:AB):NB w k n e s (oA w k n e s):=by
 unfold oA;have l:=As w (.int .i64 k) (.bool n) (.int .i64 e) (.string s);have g:=AN w (AY k n e s);have h:AD w.heap.size w (w.alloc (AY k n e s)):=bA;generalize w.alloc (AY k n e s)=a at*
 have c:=Af a (.int .i64 0) (.bool false) (.int .i64 0) (.string ⟨#[]⟩) (.int .i64 0);have m:=AN a A2;have d:AD a.heap.size a (a.alloc A2):=bA;generalize a.alloc A2=b at*
 have j:=As b (.int .i64 k) (.bool n) (.int .i64 e) (.string s);have u:=AN b (AY k n e s);have f:AD b.heap.size b (b.alloc (AY k n e s)):=bA;rw[m,g] at j;rw[g] at c;have o:=d.trans (f.mono d.size);refine⟨(l.next d).next f,c.below f c.lt,?_,h.trans (o.mono h.size),by omega⟩;obtain⟨p,q,r,t,-⟩:=j.cells;intro i v;obtain rfl:i=0:=by omega
 exact⟨p,q,r,t⟩
theorem ZN(b:Bool)[Decidable (∀i:Nat,i<1->b=true)]:decide (∀i:Nat,i<1->b=true)=b:=by
 by_cases h:b=true
 ·rw[show decide (∀i:Nat,i<1->b=true)=true from decide_eq_true λ_ _=>h,h]
 ·have h':b=false:=by simpa using h
  rw[show decide (∀i:Nat,i<1->b=true)=false from decide_eq_false λc=>h (c 0 (by decide)),h']
theorem eS:({data:=#[49]}:AB)=tx [1]:=by apply De;rw[AR];rfl
theorem ZL(f k:Int)(n:Bool)(e:Int)(s:AB)(w:AA)(b:s.size<=4611686018427387904):cB 124 #[.int .i64 f,.int .i64 1,.slice (some ⟨w.heap.size+2,0,none⟩) 1 1] (oA w k n e s) (.bool (AQ f k n e s)):=by
 have a:=O5 w k n e s;have:=DH f 1 1 (w.heap.size+2) (λ_=>k) (λ_=>n) (λ_=>e) (λ_=>s) (oA w k n e s) (by decide) a.2.2.2.2 a.2.2.1 (λ_ _=>b);rw[show(decide (1<=(1:Int)/\(1:Int)<=5))=true from rfl,Bool.true_and,ZN] at this;exact this
theorem jb(g:Nat)(k:Int)(n:Bool)(e:Int)(s:AB)(X:AA)(h:EY X g 1 (λ_=>k) (λ_=>n) (λ_=>e) (λ_=>s))(a:g<X.heap.size):cB 125 #[.slice (some ⟨g,0,none⟩) 1 1] X (.tuple #[BA 3 false 0 {data:=#[]} (DL 1 (λ_=>k)),.bool (GB 1 (λ_=>k))]):=BZ 1 g _ _ _ _ X (by decide) a h
theorem lC(w:AA):(Instr.build 90 #[]).run prog w=.ok (BA 0 false 0 {data:=#[]} 0) w:=run_build w _ _ _ (by kernel_rfl)
theorem k8(d:AG)(J:Nat)(b:AJ d)(c:d≠[0])(g:d.length+J<=34):cA 137 #[.string (tx (d++List.replicate J 0)),.string {data:=#[49]}] (.string (tx (nt (vl d*10^J+1)))):=λX=>by
 have h:(d++List.replicate J 0).length<=34:=by rw[Dc,GG];omega
 rw[eS];refine(Fg _ [1] X (BT d J b c) (BL 1 (by decide) (by decide)) (by omega) (by decide)).mono ?_;rintro x i ⟨R,rfl,e,a,j,f⟩;rw[Bb,show vl [1]=1 from rfl] at a;rw[<-BW R _ e a (by have:([1]:AG).length=1:=rfl;omega)];exact⟨rfl,f⟩
theorem lE(d:AG)(J:Nat)(a:AJ d)(b:d≠[0])(h:d.length+J<=34):cA 138 #[.string (tx (d++List.replicate J 0)),.string {data:=#[49]}] (.string (tx (nt (vl d*10^J-1)))):=λX=>by
 have i:(d++List.replicate J 0).length<=34:=by rw[Dc,GG];omega
 have e:(1:Int)<=vl d:=by have:=EJ d a b;have:=AL (d.length-1);omega
 rw[eS];refine(Cn _ [1] X (BT d J a b) (BL 1 (by decide) (by decide)) (by omega) (by
  rw[Bb,show vl [1]=1 from rfl];have:1*10^J<=vl d*10^J:=If e (CP (AL J));have:=AL J;omega)).mono ?_
 rintro x j ⟨R,rfl,f,c,k,g⟩;rw[Bb,show vl [1]=1 from rfl] at c;rw[<-BW R _ f c (by omega)];exact⟨rfl,g⟩
theorem ls(f:Int)(k:Int)(n:Bool)(e:Int)(s:AB)(w:AA)(b:s.size<=4611686018427387904)(c:AQ f k n e s=false):
 cB 61 #[.int .i64 f,AH k n e s] w (BA 0 false 0 {data:=#[]} 0):=by
 have i:=lC;have d:=zq (O5 w k n e s);have g:=zq (ZL f k n e s w b);rw[c] at g;clear b c;go_enter func61,ntmps61;go_wp2_with fail;refine cm g λj h=>?_;have a:=zq (d.next h);clear h d;obtain⟨l,m,o,p,q⟩:=a.1.cells;go_wp2_with (refine sR a.2.1 0 false 0 ⟨#[]⟩ 0 (Hid.out ?_));refine Em (by assumption) ?_;try simp only[Exit.then]
 refine rR (A1 a.2.1 0 false 0 ⟨#[]⟩ 0) ?_;exact⟨rfl,AC a.2.2.2.1 (by omega) _⟩
theorem io(f:Int)(k:Int)(n:Bool)(e:Int)(s:AB)(w:AA)(d:s.size<=4611686018427387904)(g:AQ f k n e s=true)(h:GB 1 (λ_=>k)=true):
 cB 61 #[.int .i64 f,AH k n e s] w (BA 3 false 0 {data:=#[]} (DL 1 (λ_=>k))):=by
 have y:=lC;have i:=zq (O5 w k n e s);have j:=zq (ZL f k n e s w d);have l:=zq (jb (w.heap.size+2) k n e s);generalize DL 1 (λ_=>k)=b at*
 rw[g] at j;rw[h] at l;clear d g h;go_enter func61,ntmps61;go_wp2_with fail;refine cm j λz m=>?_;have a:=zq (i.next m);clear m i;obtain⟨p,q,r,t,u⟩:=a.1.cells;go_wp2_with fail;refine cm (l _ a.2.2.1 a.2.2.2.2) λA v=>?_;have x:=zq (a.next v);clear v a p q r t u;obtain⟨p,q,r,t,u⟩:=x.1.cells;have c:=zq (x.next (bA (o:=Ei 3 false 0 ⟨#[]⟩ b)));go_wp2_with (refine sR c.2.1 3 false 0 ⟨#[]⟩ b (Hid.out ?_));refine Em (by assumption) ?_;try simp only[Exit.then]
 refine rR (A1 c.2.1 3 false 0 ⟨#[]⟩ b) ?_;exact⟨rfl,AC c.2.2.2.1 (by omega) _⟩
def o5(P:Nat)(a b k:Int)(n:Bool)(e:Int)(s:AB)(R:AK):Prop:=
 (k=2/\n=true/\R=BA 1 true b (tx (List.replicate P 9)) 0)\/(k=2/\n=false/\R=BA 2 false e s 0)\/(k=1/\(s.toList==[48])=true/\R=BA 1 false a (tx [1]) 0)\/
 ∃d J,k=1/\s=tx d/\(AJ d/\d≠[0]/\d.length<=P/\a<=e/\e<=b/\Tg P d.length e a=J)/\
  ∀D E,nt (vl d*10^J+1)=D->nt (vl d*10^J-1)=E->
   R=if n=true then(if E.length<P/\a<e-J then BA 1 true (e-J-1) (tx (List.replicate P 9)) 0 else BA 1 true (e-J) (tx E) 0)
    else if D.length<=P then BA 1 false (e-J) (tx D) 0 else if e-J+1<=b then BA 1 false (e-J+1) (tx (D.take P)) 0 else BA 2 false 0 {data:=#[]} 0
theorem Pa(f:Int)(k:Int)(n:Bool)(e:Int)(s:AB)(w:AA)(R:AK)(aq:s.size<=4611686018427387904)(hr:AQ f k n e s=true)(hs:GB 1 (λ_=>k)=false)(hf:f=64\/f=128)(c:o5 (AF f).toNat (AV f) (Ad f) k n e s R):
 cB 61 #[.int .i64 f,AH k n e s] w R:=by
 have a5:=lC;have HN:=zq (O5 w k n e s);have ax:=zq (ZL f k n e s w aq);have ay:=zq (jb (w.heap.size+2) k n e s);obtain⟨p2,a7,pP,lh,l1,l2⟩:=Q2 f hf;have Y:=zq (Ag f);rw[pP] at Y;generalize DL 1 (λ_=>k)=SF at*
 generalize (AF f).toNat=P at*
 generalize AV f=l at*
 generalize Ad f=v at*
 have aB:Hid (∀i,∃S m,S=tx (List.replicate i 9)/\S.size=m/\m=i/\S++{data:=#[57]}=tx (List.replicate (i+1) 9)):=λi=>⟨_,_,rfl,by rw[AE,GG],rfl,by rw[VN,<-List.replicate_succ']⟩;have G:=zq c;rw[hr] at ax;rw[hs] at ay;clear aq hr hs hf pP c;go_enter func61,ntmps61;go_wp2_with fail;refine cm ax λw1 aC=>?_;have H:=zq (HN.next aC);clear aC HN;obtain⟨y,z,A,B,C⟩:=H.1.cells;go_wp2_with fail;refine cm (ay _ H.2.2.1 H.2.2.2.2) λw2 aD=>?_;have Z:=zq (H.next aD);clear aD H y z A B C;obtain⟨y,z,A,B,C⟩:=Z.1.cells;have g:=zq (Z.next (bA (o:=Ei 3 false 0 ⟨#[]⟩ SF)));clear Z y z A B C;obtain⟨y,z,A,B,C⟩:=g.1.cells;go_wp2_with fail;refine ce (Y _) ?_;generalize w2.alloc (Ei 3 false 0 ⟨#[]⟩ SF)=w3 at*
 clear Y;go_wp2;go_loopg [11] P (λgk s wx=>∃i:Nat,i<=P/\gk=P-i/\s=.string (tx (List.replicate i 9))/\wx=w3);case atStart=>exact⟨0,B9 _,rfl,rfl,rfl⟩
 case round=>
  obtain⟨i,hi,I,rfl,r⟩:=hrel;have K:=zq I;clear I;obtain⟨S,m,hS,y1,aF,y3⟩:=aB i;rw[<-hS];have aG:=zq hS;clear hS;by_cases ae:i<P
  ·have HW:=zq r;obtain⟨z4,z5⟩:(m:Int)<(P:Int)/\(m:Int)<=8388608:=by omega
   clear aF r;go_wp2;go_roundg (P-(i+1));case measure=>have:=K.out;omega
   case rel=>exact⟨i+1,by omega,rfl,rfl,HW⟩
  ·have ei:i=P:=by omega
   subst ei;have ah:=r.symm;subst ah;have z4:¬(m:Int)<(i:Int):=by omega
   have aH:=zq aG.symm;clear aF ae y3 K aG aB;rcases G.out with⟨rfl,rfl,p⟩|⟨rfl,rfl,p⟩|⟨rfl,M,p⟩|⟨d,J,rfl,rfl,⟨N,M,hl,he,hh,hJ⟩,p⟩
   ·clear G;go_wp2_with fail;refine cm (Aj true S v _) λw4 O=>?_;have u:=zq (g.next O);clear O g;have F:=AT 1 true v S w4;go_wp2_with (refine sR u.2.1 1 true v S 0 (Hid.out ?_));refine Em (by assumption) ?_;try simp only[Exit.then]
    refine rR (A1 u.2.1 1 true v S 0) ?_;exact⟨by rw[p,aH],AC u.2.2.2.1 (by omega) _⟩
   ·clear G;have F:=AT 2 false e s;go_wp2_with (refine sR g.2.1 2 false e s 0 (Hid.out ?_));refine Em (by assumption) ?_;try simp only[Exit.then]
    refine rR (A1 g.2.1 2 false e s 0) ?_;exact⟨by rw[p],AC g.2.2.2.1 (by omega) _⟩
   ·clear G;go_wp2_with fail;refine cm (Aj false {data:=#[49]} l _) λw4 O=>?_;have u:=zq (g.next O);clear O g;have F:=AT 1 false l {data:=#[49]} w4;go_wp2_with (refine sR u.2.1 1 false l {data:=#[49]} 0 (Hid.out ?_));refine Em (by assumption) ?_;try simp only[Exit.then]
    refine rR (A1 u.2.1 1 false l {data:=#[49]} 0) ?_;exact⟨by rw[p,eS],AC u.2.2.2.1 (by omega) _⟩
   ·have aU:=AE d;have bf:=Bo d N.1 M;have aV:J<=i-d.length/\(J:Int)<=e-l/\(J=i-d.length\/(J:Int)=e-l):=by rw[<-hJ];unfold Tg;omega
    have aW:=N.2.1;have V:=zq (k8 d J N M (by omega));have W:=zq (lE d J N M (by omega));obtain⟨U0,X⟩:=zxe (tx (d++List.replicate J 0));obtain⟨D,hD⟩:=zxe (nt (vl d*10^J+1));obtain⟨E,hE⟩:=zxe (nt (vl d*10^J-1));have Q:=zq (p D E hD hE);have sD:=AE D;have sE:=AE E;have aJ:=zq X;rw[X,hD] at V;rw[X,hE] at W;have al:Hid (∀i,i<=J->∃S m,S=tx (d++List.replicate i 0)/\S.size=m/\m=d.length+i/\S++{data:=#[48]}=tx (d++List.replicate (i+1) 0)):=λi hi=>⟨_,_,rfl,by rw[AE,Dc,GG],rfl,by rw[JX,List.append_assoc,<-List.replicate_succ']⟩;obtain⟨L,hL⟩:=zxe d.length;rw[hL] at aU aV hl aW al;clear G p hD hE X hJ N M hL;go_wp2;go_loopg [12,13] J (λgk t x wx=>∃i:Nat,i<=J/\gk=J-i/\t=.string (tx (d++List.replicate i 0))/\x=.int .i64 (e-(i:Int))/\wx=w3);case atStart=>exact⟨0,B9 _,rfl,by rw[List.replicate_zero,List.append_nil],by simp,rfl⟩
    case round=>
     obtain⟨j,hj,I,rfl,rfl,r⟩:=hrel;have K:=zq I;clear I;obtain⟨T,m2,hT,y1,aL,y3⟩:=al j hj;rw[<-hT];have aM:=zq hT;have wj:=zw (e-(j:Int)-1) (by omega);clear hT;by_cases ae:j<J
     ·have HW:=zq r;obtain⟨z4,z5⟩:(m2:Int)<(i:Int)/\(m2:Int)<=8388608:=by omega
      have z6:l<e-(j:Int):=by omega
      clear aL r;go_wp2;go_roundg (J-(j+1));case measure=>have:=K.out;omega
      case rel=>exact⟨j+1,by omega,rfl,rfl,by go_num,HW⟩
     ·have ej:j=J:=by omega
      subst ej;have ah:=r.symm;subst ah;have a1:T=U0:=by rw[aM];exact aJ
      subst a1;have bj:=zw (e-(j:Int)+1) (by omega);clear ae y3 K aM al aJ;by_cases z4:(m2:Int)<(i:Int);have z6:¬l<e-(j:Int):=by omega
      all_goals
       clear aL;cases n with
       |false=>
        clear W;go_wp2_with fail;refine cm (V _) λw5 U=>?_;have h:=zq (g.next U);clear U g V y z A B C;by_cases y4:(i:Int)<(D.length:Int)
        ·obtain⟨y6,y7⟩:¬(D.length:Int)<(i:Int)/\i<=D.length:=by omega
         by_cases y5:v<e-(j:Int)+1
         ·go_wp2_with fail;refine cm (BG false _) λq b=>?_;have a:=zq (h.next b);clear b h;go_wp2_with (refine sR a.2.1 2 false 0 ⟨#[]⟩ 0 (Hid.out ?_));refine Em (by assumption) ?_;try simp only[Exit.then]
          refine rR (A1 a.2.1 2 false 0 ⟨#[]⟩ 0) ?_;exact⟨by rw[Q,zyn (by decide),zyn (by omega),zyn (by omega)],AC a.2.2.2.1 (by omega) _⟩
         ·have hx:=C8 D i y7;go_wp2_with fail;refine cm (Aj false (tx (D.take i)) (e-(j:Int)+1) _) λq b=>?_;have a:=zq (h.next b);clear b h;have F:=AT 1 false (e-(j:Int)+1) (tx (D.take i)) q;go_wp2_with (refine sR a.2.1 1 false (e-(j:Int)+1) (tx (D.take i)) 0 (Hid.out ?_));refine Em (by assumption) ?_;try simp only[Exit.then]
          refine rR (A1 a.2.1 1 false (e-(j:Int)+1) (tx (D.take i)) 0) ?_;exact⟨by rw[Q,zyn (by decide),zyn (by omega),zyp (by omega)],AC a.2.2.2.1 (by omega) _⟩
        ·have y5:¬v<e-(j:Int):=by omega
         go_wp2_with fail;refine cm (Aj false (tx D) (e-(j:Int)) _) λq b=>?_;have a:=zq (h.next b);clear b h;have F:=AT 1 false (e-(j:Int)) (tx D) q;go_wp2_with (refine sR a.2.1 1 false (e-(j:Int)) (tx D) 0 (Hid.out ?_));refine Em (by assumption) ?_;try simp only[Exit.then]
         refine rR (A1 a.2.1 1 false (e-(j:Int)) (tx D) 0) ?_;exact⟨by rw[Q,zyn (by decide),zyp (by omega)],AC a.2.2.2.1 (by omega) _⟩
       |true=>
        clear V;go_wp2_with fail;refine cm (W _) λw5 U=>?_;have h:=zq (g.next U);clear U g W y z A B C;by_cases y4:(E.length:Int)<(i:Int)/\l<e-(j:Int)
        ·have y5:=y4.2;have y6:=y4.1;try omega
         all_goals
          go_wp2_with fail;refine cm (Aj true S (e-(j:Int)-1) _) λq b=>?_;have a:=zq (h.next b);clear b h;have F:=AT 1 true (e-(j:Int)-1) S q;go_wp2_with (refine sR a.2.1 1 true (e-(j:Int)-1) S 0 (Hid.out ?_));refine Em (by assumption) ?_;try simp only[Exit.then]
          refine rR (A1 a.2.1 1 true (e-(j:Int)-1) S 0) ?_;exact⟨by rw[Q,zyp (by decide),zyp (by omega),aH],AC a.2.2.2.1 (by omega) _⟩
        ·by_cases y5:(E.length:Int)<(i:Int);have y6:¬l<e-(j:Int):=by omega
         all_goals
          go_wp2_with fail;refine cm (Aj true (tx E) (e-(j:Int)) _) λq b=>?_;have a:=zq (h.next b);clear b h;have F:=AT 1 true (e-(j:Int)) (tx E) q;go_wp2_with (refine sR a.2.1 1 true (e-(j:Int)) (tx E) 0 (Hid.out ?_));refine Em (by assumption) ?_;try simp only[Exit.then]
          refine rR (A1 a.2.1 1 true (e-(j:Int)) (tx E) 0) ?_;exact⟨by rw[Q,zyp (by decide),zyn (by omega)],AC a.2.2.2.1 (by omega) _⟩
def gj(f:Int)(k:Int)(n:Bool)(e:Int)(s:AB):VY:=GF f 4 1 (λ_=>k) (λ_=>n) (λ_=>e) (λ_=>s) (RO f k n e s)
theorem ZI(f:Int)(k:Int)(n:Bool)(e:Int)(s:AB):BO f 4 1 (λ_=>k) (λ_=>n) (λ_=>e) (λ_=>s)=AQ f k n e s:=by
 unfold BO;rw[show(decide (1<=(4:Int)/\(4:Int)<=5))=true from rfl,Bool.true_and];exact ZN (AQ f k n e s)
theorem Ry(f:Int)(k:Int)(n:Bool)(e:Int)(s:AB)(w:AA)(b:s.size<=4611686018427387904):
 cB 61 #[.int .i64 f,AH k n e s] w (BE (gj f k n e s).1 (gj f k n e s).2):=by
 unfold gj GF;rw[ZI];cases hr:AQ f k n e s with
 |false=>exact ls f k n e s w b hr
 |true=>
  rw[zyp rfl];cases hs:GB 1 (λ_=>k) with
  |true=>
   rw[zyp rfl];exact io f k n e s w b hr hs
  |false=>
   rw[zyn (by decide)];have m:=of_decide_eq_false hs;obtain⟨g,o,u,p⟩:=Av f k n e s hr (λc=>m ⟨0,by decide,.inl c⟩) (λc=>m ⟨0,by decide,.inr c⟩);unfold RO;rcases u with rfl|rfl
   ·rw[zyn (by decide)];obtain⟨q,v,y,z⟩:=p rfl;obtain⟨C,F,G,H,I,J⟩:=Q2 f g;have r:(dl s).length<=(AF f).toNat:=by omega
    obtain⟨d,t⟩:=zxe (dl s);rw[t] at o q r ⊢;subst o;clear t p v;unfold M2;by_cases i:d=[0]
    ·subst i;rw[zyp rfl];exact Pa f 1 n e (tx [0]) w _ b hr hs g (.inr (.inr (.inl ⟨rfl,by rw[ByteArray.toList_eq,AR];rfl,rfl⟩)))
    ·rw[zyn i];refine Pa f 1 n e (tx d) w _ b hr hs g (.inr (.inr (.inr ⟨d,_,rfl,rfl,⟨q,i,r,y,z,rfl⟩,λD E A B=>?_⟩)));cases n with
     |false=>
      rw[zyn (by decide),zyn (by decide)];unfold KP;simp only;rw[A];by_cases a:D.length<=(AF f).toNat
      ·have j:∀x,A8 (AF f).toNat D x=x:=λx=>by unfold A8;rw[zyn (by omega)]
       have l:BY (AF f).toNat D=D:=by unfold BY;rw[zyn (by omega)]
       rw[j,l,zyp (by omega),zyp a]
      ·have j:∀x,A8 (AF f).toNat D x=x+1:=λx=>by unfold A8;rw[zyp (by omega)]
       have l:BY (AF f).toNat D=D.take (AF f).toNat:=by unfold BY;rw[zyp (by omega)]
       rw[j,l,zyn a];by_cases h:e-Tg (AF f).toNat d.length e (AV f)+1<=Ad f
       ·rw[zyp h,zyp h]
       ·rw[zyn h,zyn h]
     |true=>
      rw[zyp rfl,zyp rfl];unfold KO;simp only;rw[B];by_cases a:E.length<(AF f).toNat/\AV f<e-Tg (AF f).toNat d.length e (AV f)
      ·rw[zyp a,zyp a]
      ·rw[zyn a,zyn a]
   ·rw[zyp rfl];obtain⟨rfl,rfl⟩:=Yi f n e s hr;cases n with
    |true=>exact Pa f 2 true 0 {data:=#[]} w _ b hr hs g (.inl ⟨rfl,rfl,rfl⟩)
    |false=>exact Pa f 2 false 0 {data:=#[]} w _ b hr hs g (.inr (.inl ⟨rfl,rfl,rfl⟩))
theorem Sy(f:Int)(k:Int)(n:Bool)(e:Int)(s:AB)(w:AA)(a:s.size<=4611686018427387904):
 cB 100 #[.int .i64 f,AH k n e s] w (BE (gj f k n e s).1 (gj f k n e s).2):=Qn f k n e s w a
theorem Zg(f d:Int)(a b:Bool)(T:Bool×Int×Int)(g:Int):U1 f d a b T g=U1 f d b a T g:=by
 unfold U1;by_cases h:a=b
 ·subst h;rfl
 ·have e:(T.2.2=0/\a≠b)↔(T.2.2=0/\b≠a):=⟨λq=>⟨q.1,λc=>h c.symm⟩,λq=>⟨q.1,h⟩⟩;simp only[e]
theorem Yz(f:Int)(a:f=64\/f=128):∃P:Nat,AF f=(P:Int)/\1<=P/\P<=34:=by
 rcases a with rfl|rfl
 ·exact⟨16,rfl,by decide,by decide⟩
 ·exact⟨34,rfl,by decide,by decide⟩
theorem Nf(f h:Int)(v:f=64\/f=128)(e:Bool)(c:Int)(d:AG)(g:Bool)(a:Int)(b:AG)(m:AJ d)(r:d≠[0])(k:AJ b)(s:b≠[0])(w:d.length+b.length<=102)(E:¬c<a):
 U1 f h e g (Wx (AF f) e c (vl d) g a (vl b)) a=(if (d.length:Int)+c<(b.length:Int)+a then GC f h g a b e c d a else GC f h e c d g a b a):=by
 obtain⟨P,l,x,y⟩:=Yz f v;have F:=m.2.1;have G:=k.2.1;have t:(tn (vl b)).size=b.length:=ne b k (by omega);unfold Wx;by_cases n:a+(b.length:Int)<=c-P-1
 ·have i:ir (AF f) c (vl b) a=true:=by unfold ir Mo;rw[t,l];exact Bz n
  have j:MM (AF f) c (vl b) a=c-P-1:=by unfold MM;rw[i,zyp rfl,l]
  have o:Mc (AF f) c (vl b) a=1:=by unfold Mc;rw[i,zyp rfl]
  have q:Ph (AF f) c (vl d) (vl b) a=vl d*10^(P+1):=by unfold Ph;rw[j,show(c-(c-(P:Int)-1)).toNat=P+1 by omega]
  rw[j,o,q,zyn (by omega)];exact X3 f h P l x y e c d g a b m r k s w n
 ·have i:ir (AF f) c (vl b) a=false:=by unfold ir Mo;rw[t,l];exact By n
  have j:MM (AF f) c (vl b) a=a:=by unfold MM;rw[i];rfl
  have o:Mc (AF f) c (vl b) a=vl b:=by unfold Mc;rw[i];rfl
  have q:Ph (AF f) c (vl d) (vl b) a=vl d*10^(c-a).toNat:=by unfold Ph;rw[j]
  have z:=Gv d m r;have A:=Gv b k s;obtain⟨u,B⟩:¬180<(d.length:Int)+c-a/\¬180<(b.length:Int)+a-a:=by omega
  have C:1<=vl d*10^(c-a).toNat:=by
   have p:=AL (c-a).toNat;have:=If z (CP p);omega
  have D:U1 f h e g (OP e (vl d*10^(c-a).toNat) g (vl b),a,Mn e (vl d*10^(c-a).toNat) g (vl b)) a=GC f h e c d g a b a:=by
   rw[WY f h e _ g (vl b) a C A,FJ f h e c d g a b a u,show(a-a).toNat=0 by omega,Int.pow_zero,Int.mul_one]
  rw[j,o,q,D];split
  ·exact Nt f h e c d g a b a u B
  ·rfl
theorem R9(f i:Int)(p:f=64\/f=128)(e:Bool)(c:Int)(d:AG)(g:Bool)(a:Int)(b:AG)(m:AJ d)(l:AJ b)(u:d.length+b.length<=102):
 (YI f i e c (vl d) g a (vl b),kP f i e c (vl d) g a (vl b))=Pk f i e c d g a b:=by
 have v:=m.2.1;have w:=l.2.1;show U1 f i e g (Es (AF f) e c (vl d) g a (vl b)) (min c a)=_
 unfold Pk;by_cases j:d=[0]
 ·have r:vl d=0:=by rw[j];rfl
  have k:Es (AF f) e c (vl d) g a (vl b)=(g,a,vl b):=by unfold Es;rw[r,zyp rfl]
  rw[k];by_cases h:b=[0]
  ·rw[zyp ⟨j,h⟩];have w0:vl b=0:=by rw[h];rfl
   unfold U1;rw[w0,nC];by_cases n:e=g
   ·subst n;simp only[ne_eq,not_true,and_false,if_false,if_true];rw[X5 f i e a (min c a) false false]
   ·rw[zyp (show(g,a,(0:Int)).2.2=0/\e≠g from⟨rfl,n⟩),zyn n];rw[X5 f i (decide (i=3)) a (min c a) false false]
  ·rw[zyn (λq=>h q.2),zyp j];have w0:=Gv b l h;unfold U1;rw[zyn (λq=>by have:vl b=0:=q.1;omega)];simp only[];rw[F6 b l (by omega)]
 ·rw[zyn (λq=>j q.1),zyn j];have r:=Gv d m j;by_cases h:b=[0]
  ·rw[zyp h];have w0:vl b=0:=by rw[h];rfl
   have k:Es (AF f) e c (vl d) g a (vl b)=(e,c,vl d):=by unfold Es;rw[zyn (by omega),w0,zyp rfl]
   rw[k];unfold U1;rw[zyn (λq=>by have:vl d=0:=q.1;omega)];simp only[];rw[F6 d m (by omega)]
  ·rw[zyn h];have w0:=Gv b l h;by_cases o:c<a
   ·have k:Es (AF f) e c (vl d) g a (vl b)=Wx (AF f) g a (vl b) e c (vl d):=by unfold Es;rw[zyn (by omega),zyn (by omega),zyp o]
    rw[k,show min c a=c by omega,Zg,Nf f i p g a b e c d l h m j (by omega) (by omega)];by_cases s:(d.length:Int)+c<(b.length:Int)+a
    ·rw[zyp s,zyn (by omega)]
    ·rw[zyn s];by_cases t:(b.length:Int)+a<(d.length:Int)+c
     ·rw[zyp t]
     ·rw[zyn t];exact Nt f i g a b e c d c (by omega) (by omega)
   ·have k:Es (AF f) e c (vl d) g a (vl b)=Wx (AF f) e c (vl d) g a (vl b):=by unfold Es;rw[zyn (by omega),zyn (by omega),zyn o]
    rw[k,show min c a=a by omega,Nf f i p e c d g a b m j l h u o]
theorem FG(f:Int)(b:Bool)(e:Int)(s:AB)(h:AQ f 2 b e s=true):e=0/\s={data:=#[]}:=by
 unfold AQ at h;by_cases a:AF f=0
 ·rw[zyp a] at h;cases h
 rw[zyn a,zyn (by decide),zyp rfl] at h;simp only[Bool.and_eq_true,decide_eq_true_eq] at h;refine⟨h.1,?_⟩;have c:s.size=0:=by
  have:=h.2;rw[ByteArray.toList_eq,List.isEmpty_iff] at this;show s.data.size=0
  rw[<-Array.length_toList,this];rfl
 apply De;exact Array.eq_empty_of_size_eq_zero c
theorem kQ(f d:Int)(D:1<=d/\d<=5)(j:Int)(a:Bool)(i:Int)(e:AB)(k:Int)(b:Bool)(g:Int)(c:AB)(z:AQ f j a i e=true)(s:AQ f k b g c=true)(E:j≠3)(F:j≠4)(G:k≠3)(H:k≠4)(w:AA):
 Calls prog 76 #[.int .i64 f,.int .i64 d,AH j a i e,AH k b g c] w λx m=>(x=.returned (BE (Bd f d j a i (dl e) k b g (dl c)).1 (Bd f d j a i (dl e) k b g (dl c)).2)\/x=Aa (BE (Bd f d j a i (dl e) k b g (dl c)).1 (Bd f d j a i (dl e) k b g (dl c)).2))/\AD w.heap.size w m:=by
 obtain⟨t,I,J,K⟩:=Av f j a i e z E F;obtain⟨-,L,A,M⟩:=Av f k b g c s G H;have Q:=Li f t;rcases J with rfl|rfl
 ·rcases A with rfl|rfl
  ·obtain⟨p,R,S,u⟩:=K rfl;obtain⟨r,T,U,v⟩:=M rfl;have B:=AZ (dl e) p.1;have C:=AZ (dl c) r.1;have N:=p.2.1;have O:=r.2.1;have:=Dj f d t D a i (vl (dl e)) b g (vl (dl c)) (dl e).length (dl c).length w B.1 B.2 C.1 C.2 N O (by omega) (by omega) (by omega);rw[FO,FO,F6 _ p (by omega),F6 _ r (by omega),<-I,<-L] at this;have P:=R9 f d t a i (dl e) b g (dl c) p r (by omega);have l:Bd f d 1 a i (dl e) 1 b g (dl c)=Pk f d a i (dl e) b g (dl c):=by
    unfold Bd;rw[zyn (λq=>absurd q.1 (by decide)),zyn (by decide),zyn (by decide)]
   rw[l,<-P];dsimp only;exact this.mono λx m h=>⟨.inl h.1,h.2⟩
  ·obtain⟨n,o⟩:=FG f b g c s;have l:Bd f d 1 a i (dl e) 2 b g (dl c)=(b,(2,0,{data:=#[]},0)):=by
    unfold Bd;rw[zyn (λq=>absurd q.1 (by decide)),zyn (by decide),zyp rfl]
   rw[l,n,o];exact(Ap f d 1 a i e 2 b 0 {data:=#[]} w (BA 2 b 0 {data:=#[]} 0) (by simp[Md,Nw,Hl,AX])).mono λx m h=>⟨.inr h.1,h.2⟩
 ·obtain⟨n,o⟩:=FG f a i e z;rcases A with rfl|rfl
  ·have l:Bd f d 2 a i (dl e) 1 b g (dl c)=(a,(2,0,{data:=#[]},0)):=by
    unfold Bd;rw[zyn (λq=>absurd q.2.1 (by decide)),zyp rfl]
   rw[l,n,o];exact(Ap f d 2 a 0 {data:=#[]} 1 b g c w (BA 2 a 0 {data:=#[]} 0) (by simp[Md,Nw,Hl,AX])).mono λx m h=>⟨.inr h.1,h.2⟩
  ·obtain⟨u,v⟩:=FG f b g c s;by_cases y:a=b
   ·subst y;have l:Bd f d 2 a i (dl e) 2 a g (dl c)=(a,(2,0,{data:=#[]},0)):=by
     unfold Bd;rw[zyn (λq=>q.2.2 rfl),zyp rfl]
    rw[l,n,o,u,v];exact(Ap f d 2 a 0 {data:=#[]} 2 a 0 {data:=#[]} w (BA 2 a 0 {data:=#[]} 0) (by simp[Md,Nw,Hl,AX])).mono λx m h=>⟨.inr h.1,h.2⟩
   ·have l:Bd f d 2 a i (dl e) 2 b g (dl c)=(false,(3,0,{data:=#[]},1)):=by
     unfold Bd;rw[zyp ⟨rfl,rfl,y⟩]
    rw[l,n,o,u,v];exact(Ap f d 2 a 0 {data:=#[]} 2 b 0 {data:=#[]} w (BA 3 false 0 {data:=#[]} 1) (by simp[Md,Nw,Hl,AX,y])).mono λx m h=>⟨.inr h.1,h.2⟩
def en(X:AA)(p:Nat)(f a:Int)(b:Int)(c:Bool)(d:Int)(e:AB)(g:Int)(h:Bool)(i:Int)(j:AB):Prop:=
 X.cell? ⟨p,0,none⟩=some (.int .i64 f)/\X.cell? ⟨p+1,0,none⟩=some (.int .i64 a)/\A4 X (p+2) b c d e/\A4 X (p+3) g h i j
theorem en.next{X b:AA}{p:Nat}{f c:Int}{d:Int}{e:Bool}{g:Int}{i:AB}{j:Int}{k:Bool}{l:Int}{m:AB}(h:en X p f c d e g i j k l m)(a:AD X.heap.size X b):en b p f c d e g i j k l m:=by
 have n:=h.2.2.2.lt;exact⟨(a.cell (p:=⟨p,0,none⟩) (show p<X.heap.size by omega)).trans h.1,(a.cell (p:=⟨p+1,0,none⟩) (show p+1<X.heap.size by omega)).trans h.2.1,h.2.2.1.next a,h.2.2.2.next a⟩
theorem Ri(f k:Int)(a:Int)(b:Bool)(c:Int)(d:AB)(e:Int)(g:Bool)(h:Int)(j:AB):BO f k 2 (AX a e) (AX b g) (AX c h) (AX d j)=Hs f k a b c d e g h j:=by
 unfold BO Hs;rw[lG (λi=>AQ f (AX a e i) (AX b g i) (AX c h i) (AX d j i))];rfl
theorem XV(p:Nat)(f l:Int)(a:Int)(e:Bool)(g:Int)(c:AB)(b:Int)(j:Bool)(k:Int)(d:AB)(X:AA)(A:c.size<=4611686018427387904)(B:d.size<=4611686018427387904)(W:en X p f l a e g c b j k d):
 Calls prog 74 #[.pointer (some ⟨p,0,none⟩),.pointer (some ⟨p+1,0,none⟩),.pointer (some ⟨p+2,0,none⟩),.pointer (some ⟨p+3,0,none⟩)] X λx v=>(x=.returned (BE (Dg f l a e g c b j k d).1 (Dg f l a e g c b j k d).2)\/x=Aa (BE (Dg f l a e g c b j k d).1 (Dg f l a e g c b j k d).2))/\AD X.heap.size X v:=by
 obtain⟨R,O⟩:=zxe (Dg f l a e g c b j k d);have t:=zq O;rw[O];clear O;have s:Hid (Z5 (X.alloc A2) X.heap.size/\AD X.heap.size X (X.alloc A2)/\en (X.alloc A2) p f l a e g c b j k d):=⟨Af X _ _ _ _ _,bA,W.next bA⟩;obtain⟨C,D,w,y⟩:=s.2.2;obtain⟨E,F,G,H,I⟩:=w.cells;obtain⟨J,K,L,M,N⟩:=y.cells;clear w y;have Z:=AN X A2;have q:Hid (EY (Gn (X.alloc A2) a e g c b j k d) (X.alloc A2).heap.size 2 (AX a b) (AX e j) (AX g k) (AX c d)/\(X.alloc A2).heap.size<(Gn (X.alloc A2) a e g c b j k d).heap.size):=LG _ a e g c b j k d;rw[Z] at q;have n:Hid (Z5 (Gn (X.alloc A2) a e g c b j k d) X.heap.size/\AD X.heap.size X (Gn (X.alloc A2) a e g c b j k d)/\en (Gn (X.alloc A2) a e g c b j k d) p f l a e g c b j k d):=by
  have P:AD (X.alloc A2).heap.size (X.alloc A2) (Gn (X.alloc A2) a e g c b j k d):=bA;exact⟨s.1.below P s.1.lt,s.2.1.trans (P.mono s.2.1.size),s.2.2.next P⟩
 have m:Hid (∀Y,EY Y (X.heap.size+1) 2 (AX a b) (AX e j) (AX g k) (AX c d)->X.heap.size+1<Y.heap.size->Calls prog 75 #[.int .i64 f,.int .i64 l,.slice (some ⟨X.heap.size+1,0,none⟩) 2 2] Y λx v=>x=SB f l 2 (AX a b) (AX e j) (AX g k) (AX c d)/\AD Y.heap.size Y v):=λY h1 h2=>CI f l 2 (X.heap.size+1) _ _ _ _ Y (by decide) (by decide) h2 h1 (λi hi=>by match i,hi with
  |0,_=>exact A
  |1,_=>exact B)
 unfold SB at m;rw[Ri] at m;clear W s Z;cases hO:Hs f l a e g c b j k d with
 |false=>
  have u:Hid (R=(false,(0,0,{data:=#[]},0))):=by show _=_;rw[<-t];unfold Dg;rw[hO];rfl
  rw[hO] at m;simp only[Bool.false_eq_true,if_false] at m;clear hO t A B;go_enter func74,ntmps74;go_wp2_with fail;refine cm (m _ q.1 q.2) λw1 r=>?_;go_wp2;exact⟨rfl,.inr (by rw[u]),n.2.1.trans (r.mono n.2.1.size)⟩
 |true=>
  rw[hO] at m;simp only[if_true] at m;cases hS:GB 2 (AX a b) with
  |true=>
   have u:Hid (R=(false,(3,0,{data:=#[]},DL 2 (AX a b)))):=by show _=_;rw[<-t];unfold Dg;rw[hO,hS];rfl
   rw[hS] at m;simp only[if_true] at m;generalize DL 2 (AX a b)=FL at*
   clear hO hS t A B;go_enter func74,ntmps74;go_wp2_with fail;refine cm (m _ q.1 q.2) λw1 r=>?_;go_wp2;exact⟨rfl,.inr (by rw[u]),n.2.1.trans (r.mono n.2.1.size)⟩
  |false=>
   have u:R=Bd f l a e g (dl c) b j k (dl d):=by rw[<-t];unfold Dg;rw[hO,hS];rfl
   rw[hS] at m;simp only[Bool.false_eq_true,if_false] at m;have Q:=hO;unfold Hs at Q;simp only[Bool.and_eq_true,decide_eq_true_eq] at Q;obtain⟨ab,hA,ad⟩:=Q;have z:=of_decide_eq_false hS;have S:a≠3/\a≠4:=⟨λh=>z ⟨0,by decide,.inl h⟩,λh=>z ⟨0,by decide,.inr h⟩⟩;have T:b≠3/\b≠4:=⟨λh=>z ⟨1,by decide,.inl h⟩,λh=>z ⟨1,by decide,.inr h⟩⟩;have U:Hid (∀Y,Calls prog 76 #[.int .i64 f,.int .i64 l,AH a e g c,AH b j k d] Y λx v=>(x=.returned (BE R.1 R.2)\/x=Aa (BE R.1 R.2))/\AD Y.heap.size Y v):=λY=>by rw[u];exact kQ f l ab a e g c b j k d hA ad S.1 S.2 T.1 T.2 Y
   clear hO hS t A B u ab hA ad z S T;obtain⟨R0,F1,F2,F3,F4⟩:=R;go_enter func74,ntmps74;go_wp2_with fail;refine cm (m _ q.1 q.2) λw1 r=>?_;have o:=J9 (n.1.below r n.1.lt) (n.2.1.trans (r.mono n.2.1.size)) (n.2.2.next r);clear r n m q C D E F G H I J K L M N;obtain⟨C,D,w,y⟩:=o.2.2;obtain⟨E,F,G,H,I⟩:=w.cells;obtain⟨J,K,L,M,N⟩:=y.cells;clear w y;go_wp2_with fail;refine(U _).mono ?_;rintro x w2 ⟨rfl|rfl,hb2⟩
   ·have V:=Ab (o.1.below hb2 o.1.lt) (o.2.1.trans (hb2.mono o.2.1.size));clear hb2 o U C D E F G H I J K L M N;go_wp2_with (refine sR V.1 F1 R0 F2 F3 F4 ?_);refine rR (A1 V.1 F1 R0 F2 F3 F4) ?_;exact⟨.inl rfl,AC V.2 (AS _) _⟩
   ·have am:=zq (o.2.1.trans (hb2.mono o.2.1.size));clear hb2 o U C D E F G H I J K L M N;go_wp2;exact⟨rfl,.inr rfl,am⟩
abbrev Vn(w:AA)(f a:Int)(b:Int)(c:Bool)(d:Int)(e:AB)(g:Int)(h:Bool)(i:Int)(j:AB):AA:=
 ((((w.alloc (.cells #[.int .i64 f] 2)).alloc (.cells #[.int .i64 a] 2)).alloc (AY b c d e)).alloc (AY g h i j)).alloc A2
theorem UQ(w:AA)(f a:Int)(d:Int)(e:Bool)(g:Int)(h:AB)(i:Int)(j:Bool)(k:Int)(l:AB):
 en (Vn w f a d e g h i j k l) w.heap.size f a d e g h i j k l/\Z5 (Vn w f a d e g h i j k l) (w.heap.size+4)/\AD w.heap.size w (Vn w f a d e g h i j k l):=by
 unfold Vn;have u:=A9 w (.int .i64 f) 2;have v:=AN w (.cells #[.int .i64 f] 2);have q:AD w.heap.size w (w.alloc (.cells #[.int .i64 f] 2)):=bA;generalize w.alloc (.cells #[.int .i64 f] 2)=b at*
 have r:=A9 b (.int .i64 a) 2;have y:=AN b (.cells #[.int .i64 a] 2);have s:AD b.heap.size b (b.alloc (.cells #[.int .i64 a] 2)):=bA;have x:=(s.cell (p:=⟨w.heap.size,0,none⟩) (show w.heap.size<b.heap.size by omega)).trans u;generalize b.alloc (.cells #[.int .i64 a] 2)=c at*
 have m:=BP c d e g h i j k l;rw[v] at r;have n:c.heap.size=w.heap.size+2:=by omega
 have t:=q.trans (s.mono q.size);have o:AD c.heap.size c (EW c d e g h i j k l):=m.2.2.2.1;refine⟨⟨(o.cell (p:=⟨w.heap.size,0,none⟩) (show w.heap.size<c.heap.size by omega)).trans x,(o.cell (p:=⟨w.heap.size+1,0,none⟩) (show w.heap.size+1<c.heap.size by omega)).trans r,?_,?_⟩,?_,t.trans (o.mono t.size)⟩
 ·have:=m.at1;rwa[n] at this
 ·have:=m.at2;rwa[n] at this
 ·have:=m.2.2.1;rwa[n] at this
theorem Qh(f c:Int)(d:Int)(e:Bool)(g:Int)(a:AB)(h:Int)(i:Bool)(j:Int)(b:AB)(w:AA)(t:a.size<=4611686018427387904)(u:b.size<=4611686018427387904):
 cB 28 #[.int .i64 f,.int .i64 c,AH d e g a,AH h i j b] w (BE (Dg f c d e g a h i j b).1 (Dg f c d e g a h i j b).2):=by
 have E:∀(v:Fn) (first y:Array AK) (w:AA),(Instr.makeFunc v first y).run prog w=.ok (.func v first y) w:=λ_ _ _ _=>rfl;have k:=zq (UQ w f c d e g a h i j b);obtain⟨R,q⟩:=zxe (Dg f c d e g a h i j b);have z:∀X,en X w.heap.size f c d e g a h i j b->Calls prog 74 #[.pointer (some ⟨w.heap.size,0,none⟩),.pointer (some ⟨w.heap.size+1,0,none⟩),.pointer (some ⟨w.heap.size+2,0,none⟩),.pointer (some ⟨w.heap.size+3,0,none⟩)] X λx B=>(x=.returned (BE R.1 R.2)\/x=Aa (BE R.1 R.2))/\AD X.heap.size X B:=λX C=>by
  rw[<-q];exact XV w.heap.size f c d e g a h i j b X t u C
 rw[q];obtain⟨l,m,n,o,p⟩:=R;have A:Hid (cB 73 #[.func (.func 74) #[] #[.pointer (some ⟨w.heap.size,0,none⟩),.pointer (some ⟨w.heap.size+1,0,none⟩),.pointer (some ⟨w.heap.size+1+1,0,none⟩),.pointer (some ⟨w.heap.size+1+1+1,0,none⟩)]] (Vn w f c d e g a h i j b) (BA m l n o p)):=
  FT 74 _ (enters_of func74 (by kernel_rfl) rfl) m l n o p _ (λX D=>z X (k.1.next D))
 clear q z t u;go_enter func28,ntmps28;go_wp2_with fail;refine cm A λF r=>?_;have s:=Ab (k.2.1.below r k.2.1.lt) (k.2.2.trans (r.mono k.2.2.size));clear r k A;go_wp2_with (refine sR s.1 m l n o p ?_);refine rR (A1 s.1 m l n o p) ?_;exact⟨rfl,AC s.2 (by omega) _⟩
theorem M4(k:Int)(b:Bool)(e:Int)(s:AB)(w:AA):cB 77 #[AH k b e s] w (AH k (if k=1\/k=2 then !b else b) e s):=by
 by_cases c:k=1
 ·subst c;rw[zyp (.inl rfl)];go_enter func77,ntmps77;go_wp2;have a:=CE (w.alloc (AY 1 (!b) e s)) (.int .i64 1) (.bool (!b)) (.int .i64 e) (.string s);rw[show(w.alloc (AY 1 (!b) e s)).heap.size=w.heap.size+1 by simp] at a;refine rN a ?_;exact⟨rfl,FU _ _ _⟩
 ·by_cases d:k=2
  ·subst d;rw[zyp (.inr rfl)];go_enter func77,ntmps77;go_wp2;have a:=CE (w.alloc (AY 2 (!b) e s)) (.int .i64 2) (.bool (!b)) (.int .i64 e) (.string s);rw[show(w.alloc (AY 2 (!b) e s)).heap.size=w.heap.size+1 by simp] at a;refine rN a ?_;exact⟨rfl,FU _ _ _⟩
  ·rw[zyn (λh=>h.elim c d)];have f:(k==1)=false:=beq_eq_false_iff_ne.2 c;have g:(k==2)=false:=beq_eq_false_iff_ne.2 d;clear c d;go_enter func77,ntmps77;go_wp2;have a:=CE (w.alloc (AY k b e s)) (.int .i64 k) (.bool b) (.int .i64 e) (.string s);rw[show(w.alloc (AY k b e s)).heap.size=w.heap.size+1 by simp] at a;refine rN a ?_;exact⟨rfl,FU _ _ _⟩
def eQ(k:Int)(b:Bool):Bool:=if k=1\/k=2 then !b else b
theorem gm(f k:Int)(b:Bool)(e:Int)(s:AB):AQ f k (eQ k b) e s=AQ f k b e s:=by
 unfold AQ eQ;by_cases a:k=1
 ·subst a;simp
 ·by_cases c:k=2
  ·subst c;simp
  ·rw[show(if k=1\/k=2 then !b else b)=b from zyn (λq=>q.elim a c)]
def Kr(f b:Int)(c:Int)(d:Bool)(e:Int)(g:AB)(a:Int)(h:Bool)(i:Int)(j:AB):R5:=Dg f b c d e g a (eQ a h) i j
theorem W0(f e:Int)(g:Int)(i:Bool)(j:Int)(k:AB)(a:Int)(b:Bool)(c:Int)(d:AB)(h:AQ f a b c d=false):Kr f e g i j k a b c d=(false,(0,0,{data:=#[]},0)):=by
 unfold Kr Dg Hs;rw[gm,h,Bool.and_false,Bool.and_false];rfl
theorem ip(f k:Int)(h:Int)(i:Bool)(j:Int)(g:AB)(a:Int)(b:Bool)(d:Int)(c:AB)(w:AA)(A:g.size<=4611686018427387904)(n:c.size<=4611686018427387904):
 cB 55 #[.int .i64 f,.int .i64 k,AH h i j g,AH a b d c] w (BE (Kr f k h i j g a b d c).1 (Kr f k h i j g a b d c).2):=by
 have D:=zq (BP w h i j g a b d c);have E:Hid (cA 114 #[.int .i64 f,AH a b d c] (.bool (AQ f a b d c))):=λX=>Bn f a b d c X n;have o:Hid (cA 127 #[AH a b d c] (AH a (eQ a b) d c)):=λX=>Qz a b d c X;have p:Hid (cA 54 #[.int .i64 f,.int .i64 k,AH h i j g,AH a (eQ a b) d c] (BE (Kr f k h i j g a b d c).1 (Kr f k h i j g a b d c).2)):=λX=>VF f k h i j g a (eQ a b) d c X A n;have q:=zq (W0 f k h i j g a b d c);generalize Kr f k h i j g a b d c=R at*
 generalize AQ f a b d c=B at*
 generalize eQ a b=U at*
 obtain⟨r,s,t,u,v⟩:=R;have K:=CK;clear A n;go_enter func55,ntmps55;go_wp2_with fail;refine(E _).mono ?_;rintro x y ⟨rfl,F⟩;have l:=zq (D.next F);clear F D E;cases B with
 |false=>
  have L:Hid ((r,s,t,u,v)=((false,(0,0,{data:=#[]},0)):R5)):=q rfl;have m:=Ab l.2.2.1 l.2.2.2.1;clear l o p q;go_wp2_with (refine sR m.1 0 false 0 ⟨#[]⟩ 0 ?_);refine rR (A1 m.1 0 false 0 ⟨#[]⟩ 0) ?_;have:=L.out;injection this with e0 e
  injection e with e1 e
  injection e with e2 e
  injection e with e3 e4
  subst e0 e1 e2 e3 e4;exact⟨rfl,AC m.2 (by omega) _⟩
 |true=>
  clear q K;go_upto_region 3 with fail;have G:=dR y;refine AM (C:=AD y.heap.size y) 5 G ?_;simp only[Hy,List.take_zero,Ia,List.drop_zero];repeat (go_big_quiet_step ((intro z;rename_i M;first|exact rfl|((with_reducible refine Calls.class_of (o.out M) ?_);exactλw' N=>BQ z N)|(obtain⟨O,P,Q,S,T⟩:=(l.out.next z).at1.cells;go_simp;exact rfl)|(obtain⟨O,P,Q,S,T⟩:=(l.out.next z).at2.cells;go_simp;exact rfl))))
  refine wpQuiet_nil ?_;intro V H;have I:=zq (l.next H);clear H l G o;go_wp2_with fail;refine(p _).mono ?_;rintro x W ⟨rfl,J⟩;have m:=zq (Ar I J);clear J I p;go_wp2_with (refine sR m.1 s r t u v ?_);refine rR (A1 m.1 s r t u v) ?_;exact⟨rfl,AC m.2 (by omega) _⟩
theorem Yg(f j:Int)(g:Int)(h:Bool)(i:Int)(e:AB)(a:Int)(b:Bool)(d:Int)(c:AB)(w:AA)(p:e.size<=4611686018427387904)(q:c.size<=4611686018427387904):
 cB 29 #[.int .i64 f,.int .i64 j,AH g h i e,AH a b d c] w (BE (Kr f j g h i e a b d c).1 (Kr f j g h i e a b d c).2):=by
 have k:Hid (SU w (((w.alloc (AY g h i e)).alloc (AY a b d c)).alloc A2) g h i e a b d c):=BP w g h i e a b d c;have r:Hid (cA 77 #[AH a b d c] (AH a (eQ a b) d c)):=λX=>M4 a b d c X;have s:Hid (cA 28 #[.int .i64 f,.int .i64 j,AH g h i e,AH a (eQ a b) d c] (BE (Kr f j g h i e a b d c).1 (Kr f j g h i e a b d c).2)):=λX=>Qh f j g h i e a (eQ a b) d c X p q;generalize Kr f j g h i e a b d c=R at*
 generalize eQ a b=M at*
 obtain⟨t,u,v,x,y⟩:=R;clear p q;go_enter func29,ntmps29;go_upto_region 1 with fail;generalize ((w.alloc (AY g h i e)).alloc (AY a b d c)).alloc A2=m at*
 have z:=dR m;refine AM (C:=AD m.heap.size m) 5 z.out ?_;simp only[Hy,List.take_zero,Ia,List.drop_zero];repeat (refine wpQuiet_step (λK l=>?_);go_simp;first|(refine l _ ?_;clear l K)|(apply Exists.intro;refine⟨λE n=>?_,l _ ?_⟩;(first|exact rfl|((with_reducible refine Calls.class_of (r.out E) ?_);exactλw' F=>BQ n F)|(obtain⟨G,H,I,J,L⟩:=(k.out.next n).at1.cells;go_simp;exact rfl)|(obtain⟨G,H,I,J,L⟩:=(k.out.next n).at2.cells;go_simp;exact rfl));clear l K))
 refine wpQuiet_nil ?_;intro N A;have B:=zq (k.next A);clear A k z r;go_wp2_with fail;refine cm (s _) λO D=>?_;have o:=zq (Ar B D);clear D B s;go_wp2_with (refine sR o.1 u t v x y ?_);refine rR (A1 o.1 u t v x y) ?_;exact⟨rfl,AC o.2 (by omega) _⟩
def RW(F:Int×Int×AB×Int):Prop:=F.2.2.1.size<=100000/\0<=F.2.2.2/\F.2.2.2<32
theorem Jw(k e a:Int)(D:AG)(h:D.length<=100000)(b:0<=a)(c:a<32):RW (k,e,tx D,a):=⟨by show(tx D).size<=_;rw[AE];exact h,b,c⟩
theorem DC(k e a:Int)(b:0<=a)(c:a<32):RW (k,e,{data:=#[]},a):=⟨B9 _,b,c⟩
theorem Yy(f:Int)(a:f=64\/f=128):(AF f).toNat<=34:=by rcases a with rfl|rfl<;>decide
theorem GQ(f k:Int)(o:f=64\/f=128)(neg:Bool)(d:AG)(e:Int)(rest:Bool)(i:Int):RW (Al f k neg d e rest i):=by
 have r:=Yy f o;unfold Al;split
 ·exact⟨by show(1:Nat)<=_;decide,Int.le_refl _,by show(0:Int)<32;decide⟩
 ·unfold CJ;dsimp only;have s:=IU (Cw k neg (vl d*10^Di (AF f).toNat d.length rest) (BX (AF f).toNat (d.length+Di (AF f).toNat d.length rest) (AV f) (e-(Di (AF f).toNat d.length rest:Nat))) rest);generalize nt _=D at*
  generalize Bq _ _ _=g;generalize (AF f).toNat=p at*
  have m:∀E e w l h,(BY p E).length<=E.length/\(Bv g E e w l h p).length<=E.length+p:=λE e w l h=>by
   constructor
   ·unfold BY;split
    ·rw[FQ];omega
    ·exact AS _
   ·unfold Bv;split
    ·omega
    ·rw[Dc,FQ,GG];unfold fB;omega
  generalize A8 _ _ _=j;have t:=(m D j i (AV f) (Ad f)).1;have u:=(m (BY p D) j i (AV f) (Ad f)).2;generalize Bv g (BY p D) j i (AV f) (Ad f) p=v at*
  generalize CL _ _ _ _ _ _ _=x;have q:∀a b c,0<=Dh g a b c/\Dh g a b c<32:=λa b c=>by
   unfold Dh;split
   ·split<;>decide
   ·decide
  have n:=q (d.length+e) (AV f) p;generalize Dh g (d.length+e) (AV f) p=F at*
  unfold Ht;split
  ·refine Jw _ _ _ _ ?_ n.1 n.2;unfold E5;rw[Dc,GG];unfold fC;omega
  ·split
   ·exact Jw _ _ _ _ (by rw[GG];omega) (by decide) (by decide)
   ·exact DC _ _ _ (by decide) (by decide)
theorem d7(n:Nat)(K:Nat->Int):0<=DL n K/\DL n K<32:=by unfold DL;split<;>decide
theorem PC(n:Nat)(K:Nat->Int):RW (3,0,{data:=#[]},DL n K):=DC _ _ _ (d7 n K).1 (d7 n K).2
theorem Uu:RW (0,0,{data:=#[]},0):=DC _ _ _ (by decide) (by decide)
theorem eH(f a:Int)(b:f=64\/f=128)(c:Bool)(d:Int)(e:AG)(g:Bool)(h:Int)(i:AG)(M:Int):RW (GC f a c d e g h i M).2:=by
 unfold GC;have H:=GQ f a b;generalize Al f a=j at*
 repeat' split
 all_goals exact H _ _ _ _ _
theorem QB(f a:Int)(b:f=64\/f=128)(c:Int)(d:Bool)(e:Int)(g:AG)(h:Int)(i:Bool)(j:Int)(k:AG):RW (Bd f a c d e g h i j k).2:=by
 unfold Bd
 repeat' split
 ·exact DC _ _ _ (by decide) (by decide)
 ·exact DC _ _ _ (by decide) (by decide)
 ·exact DC _ _ _ (by decide) (by decide)
 ·unfold Pk;have H:=GQ f a b;have l:=eH f a b;generalize Al f a=m at*
  generalize GC f a=n at*
  repeat' split
  all_goals first|exact H _ _ _ _ _|exact l _ _ _ _ _ _ _
theorem QA(f a:Int)(b:f=64\/f=128)(c:Int)(d:Bool)(e:Int)(g:AB)(h:Int)(i:Bool)(j:Int)(k:AB):RW (Dg f a c d e g h i j k).2:=by
 unfold Dg;have H:=QB f a b;generalize Bd f a=l at*
 repeat' split
 ·exact PC _ _
 ·exact H _ _ _ _ _ _ _ _
 ·exact Uu
theorem ZC(f a:Int)(b:f=64\/f=128)(c:Int)(d:Bool)(e:Int)(g:AB)(h:Int)(i:Bool)(j:Int)(k:AB):RW (Fj f a c d e g h i j k).2:=by
 unfold Fj
 repeat' split
 ·exact PC _ _
 ·unfold RD;have H:=GQ f a b;generalize Al f a=l at*
  repeat' split
  ·exact H _ _ _ _ _
  ·exact DC _ _ _ (by decide) (by decide)
  ·exact DC _ _ _ (by decide) (by decide)
 ·exact Uu
theorem YF(f a:Int)(b:f=64\/f=128)(c:Int)(d:Bool)(e:Int)(g:AB)(h:Int)(i:Bool)(j:Int)(k:AB)(l:Int)(m:Bool)(n:Int)(o:AB):RW (Fb f a c d e g h i j k l m n o).2:=by
 unfold Fb
 repeat' split
 ·exact PC _ _
 ·unfold Ms;have H:=QB f a b;generalize Bd f a=p at*
  repeat' split
  ·exact H _ _ _ _ _ _ _ _
  ·exact DC _ _ _ (by decide) (by decide)
  ·exact H _ _ _ _ _ _ _ _
 ·exact Uu
theorem K9(f m:Int)(n:Nat)(K:Nat->Int)(B:Nat->Bool)(E:Nat->Int)(S:Nat->AB)(R:VY)(h:RW R.2):RW (GF f m n K B E S R).2:=by
 unfold GF
 repeat' split
 ·exact PC _ _
 ·exact h
 ·exact Uu
theorem fk(f a:Int)(b:f=64\/f=128)(c:Int)(d:Bool)(e:Int)(g:AB)(h:Int)(i:Bool)(j:Int)(k:AB):RW (XH f a c d e g h i j k).2:=by
 refine K9 _ _ _ _ _ _ _ _ ?_;unfold Pw;have H:=GQ f a b;generalize Al f a=l at*
 repeat' split
 ·exact DC _ _ _ (by decide) (by decide)
 ·exact DC _ _ _ (by decide) (by decide)
 ·exact⟨by show(1:Nat)<=_;decide,Int.le_refl _,by show(0:Int)<32;decide⟩
 ·exact DC _ _ _ (by decide) (by decide)
 ·exact H _ _ _ _ _
theorem ix(f a:Int)(b:f=64\/f=128)(c:Int)(d:Bool)(e:Int)(g:AB)(S:Int)(h:Bool):RW (XN f a c d e g S h).2:=by
 refine K9 _ _ _ _ _ _ _ _ ?_;unfold eD;have H:=GQ f a b;generalize Al f a=i at*
 repeat' split
 ·exact DC _ _ _ (by decide) (by decide)
 ·exact DC _ _ _ (by decide) (by decide)
 ·exact H _ _ _ _ _
theorem iT(f b:Int)(l:f=64\/f=128)(c:Int)(d:Bool)(e:Int)(g:AB)(h:Int)(i:Bool)(j:Int)(k:AB):RW (XK f b c d e g h i j k).2:=by
 refine K9 _ _ _ _ _ _ _ _ ?_;unfold Zl;have a:=IU;generalize nt=m at*
 repeat' split
 ·exact DC _ _ _ (by decide) (by decide)
 ·exact DC _ _ _ (by decide) (by decide)
 ·exact DC _ _ _ (by decide) (by decide)
 ·exact Jw _ _ _ _ (DT (a _) (by decide)) (by decide) (by decide)
 ·exact Jw _ _ _ _ (DT (a _) (by decide)) (by decide) (by decide)
 ·exact Jw _ _ _ _ (DT (a _) (by decide)) (by decide) (by decide)
theorem gl(f:Int)(b:f=64\/f=128)(k:Int)(n:Bool)(e:Int)(s:AB):RW (gj f k n e s).2:=by
 have d:=Yy f b;have a:(List.replicate (AF f).toNat (9:Int)).length<=100000:=by rw[GG];omega
 have c:∀p D,(BY p D).length<=D.length:=λp D=>by
  unfold BY;split
  ·rw[FQ];omega
  ·exact AS _
 refine K9 _ _ _ _ _ _ _ _ ?_;unfold RO;split
 ·split
  ·exact Jw _ _ _ _ a (by decide) (by decide)
  ·exact DC _ _ _ (by decide) (by decide)
 ·refine⟨?_,Int.le_refl _,by show(0:Int)<32;decide⟩;show(M2 f n e (dl s)).2.2.2.size<=100000
  unfold M2;split
  ·show(tx [1]).size<=_
   rw[AE];decide
  ·split
   ·show(KO _ _ _ _).2.2.size<=_
    unfold KO;dsimp only;split
    ·show(tx _).size<=_
     rw[AE];exact a
    ·show(tx _).size<=_
     rw[AE];exact DT (IU _) (by decide)
   ·show(KP _ _ _ _ _).2.2.size<=_
    unfold KP;dsimp only;split
    ·show(tx _).size<=_
     rw[AE];exact DT (c _ _) (DT (IU _) (by decide))
    ·exact B9 _
end Go.Proofs.YteofommckgeemaaGreatDoor
