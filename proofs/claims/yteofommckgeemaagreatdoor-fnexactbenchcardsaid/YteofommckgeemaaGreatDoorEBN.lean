/- Steps. -/
import Derived.Test.YteofommckgeemaaGreatDoorEBH
import Derived.Test.YteofommckgeemaaGreatDoorEBM
namespace Go.Proofs.YteofommckgeemaaGreatDoor
open Go.RowKit Go.Proofs.Tryz
set_option linter.unusedVariables false
set_option linter.unusedSimpArgs false
set_option maxRecDepth 100000
set_option maxHeartbeats 8000000
theorem mN(v:Int)(h:Bp v):F8 1 (tn v)=decide (v=0):=by
 unfold F8;rw[Bz (rfl:(1:Int)=1),Bool.true_and];by_cases a:v=0
 ·subst a;rw[T7];rfl
 ·rw[J6 h a,By a]
theorem II(e f:Bool)(c d a b:Int)(w:AA)(p:Bp a)(g:Bp b)(q:Bp (a*b))(v:-7000<=c/\c<=7000)(x:-7000<=d/\d<=7000):
 cB 79 #[AH 1 e c (tn a),AH 1 f d (tn b)] w (AH 1 (!(e==f)) (c+d) (tn (a*b))):=by
 have r:Hid (cA 155 #[.string (tn a),.string (tn b)] (.string (tn (a*b)))):=λX=>by
  have:=Qm (tn a) (tn b) X (Gt a) (Gt b);rwa[ku p g,OU q] at this
 have F:=zw (c+d) (by omega);obtain⟨l,s⟩:=zxe (!(e==f));rw[s];generalize tn (a*b)=m at*
 generalize tn a=h at*
 generalize tn b=i at*
 clear p g q v x;have G:=Cp 1 l (c+d) m;have j:Hid (N3 w 1 e c h 1 f d i (((w.alloc (AY 1 e c h)).alloc (AY 1 f d i)).alloc VU)):=GZ w 1 e c h 1 f d i;go_enter func79,ntmps79;go_upto_region 3 with fail;clear s;generalize ((w.alloc (AY 1 e c h)).alloc (AY 1 f d i)).alloc VU=w0 at*
 have t:=dR w0;refine AM (C:=AD w0.heap.size w0) 11 t.out ?_;simp only[Hy,List.take_zero,Ia,List.drop_zero];repeat (refine wpQuiet_step (λK k=>?_);go_simp;first|(refine k _ ?_;clear k K)|(apply Exists.intro;refine⟨λy n=>?_,k _ ?_⟩;(first|exact rfl|exact Calls.class_of (r.out y) (λH g=>BQ n g)|(obtain⟨z,A,B,D,E⟩:=(j.out.next n).1.cells;go_simp;exact rfl)|(obtain⟨z,A,B,D,E⟩:=(j.out.next n).2.1.cells;go_simp;exact rfl));clear k K))
 refine wpQuiet_nil ?_;intro I u;have o:=zq (j.next u);clear u j t r;go_wp2_with (refine sN o.2.2.1 1 l (c+d) m ?_);refine rN ((o.2.2.1.row (.int .i64 1) (.bool l) (.int .i64 (c+d)) (.string m)).cells) ?_;exact⟨rfl,AC o.2.2.2 (by omega) _⟩
def oD(a:Bool)(z:Bool):Ending:=if z then Aa (BA 3 false 0 {data:=#[]} 1) else .returned (AH 2 a 0 {data:=#[]})
theorem IJ(i:Int)(s:Bool)(A:Int)(B:AB)(j:Int)(t:Bool)(C:Int)(D:AB)(F G:Bool)(w:AA)(R:¬(i=1/\j=1))
 (c:Hid (cA 93 #[AH i s A B] (.bool F))) (g:Hid (cA 93 #[AH j t C D] (.bool G))):
 Calls prog 79 #[AH i s A B,AH j t C D] w λx I=>x=oD (!(s==t)) (F||G)/\AD w.heap.size w I:=by
 obtain⟨k,T⟩:=zxe (!(s==t));rw[T];have d:=zq (GZ w i s A B j t C D);have V:=EA k;obtain⟨v,J⟩:=zxe (i==1);obtain⟨y,K⟩:=zxe (j==1);have S:(v&&y)=false:=by
  rw[<-J,<-K];by_cases L:i=1
  ·have l:j≠1:=λl=>R ⟨L,l⟩;rw[beq_eq_false_iff_ne.2 l,Bool.and_false]
  ·rw[beq_eq_false_iff_ne.2 L,Bool.false_and]
 obtain⟨H,M⟩:=zxe (oD k (F||G));have u:=zq M;rw[M];clear M R;have U:∀(v y:Bool),(i==1)=v->(j==1)=y->(v&&y)=false->Calls prog 79 #[AH i s A B,AH j t C D] w λx I=>x=H/\AD w.heap.size w I:=λN O L l h=>by
  clear J K S;cases F with
  |true=>
   have E:Hid (H=Aa (BA 3 false 0 {data:=#[]} 1)):=by show _=_;rw[<-u];rfl
   clear u;cases N with
   |true=>
    obtain rfl:O=false:=by simpa using h
    clear h;go_enter func79,ntmps79;go_upto_region 4 with fail;go_wp2_with fail;refine cm (c _) λz b=>?_;have a:=zq (d.next b);clear b d c g;go_wp2_with fail;refine cm (A6 _) λP m=>?_;go_wp2;exact⟨rfl,by rw[E],(a.next m).2.2.2⟩
   |false=>
    clear h l;go_enter func79,ntmps79;go_upto_region 4 with fail;go_wp2_with fail;refine cm (c _) λz b=>?_;have a:=zq (d.next b);clear b d c g;go_wp2_with fail;refine cm (A6 _) λP m=>?_;go_wp2;exact⟨rfl,by rw[E],(a.next m).2.2.2⟩
  |false=>
   cases G with
   |true=>
    have E:Hid (H=Aa (BA 3 false 0 {data:=#[]} 1)):=by show _=_;rw[<-u];rfl
    clear u;cases N with
    |true=>
     obtain rfl:O=false:=by simpa using h
     clear h;go_enter func79,ntmps79;go_upto_region 4 with fail;go_wp2_with fail;refine cm (c _) λz b=>?_;have a:=zq (d.next b);obtain⟨n,o,p,q,r⟩:=a.2.1.cells;clear b d c;go_wp2_with fail;refine cm (g _) λQ e=>?_;have f:=zq (a.next e);clear e a g n o p q r;go_wp2_with fail;refine cm (A6 _) λP m=>?_;go_wp2;exact⟨rfl,by rw[E],(f.next m).2.2.2⟩
    |false=>
     clear h l;go_enter func79,ntmps79;go_upto_region 4 with fail;go_wp2_with fail;refine cm (c _) λz b=>?_;have a:=zq (d.next b);obtain⟨n,o,p,q,r⟩:=a.2.1.cells;clear b d c;go_wp2_with fail;refine cm (g _) λQ e=>?_;have f:=zq (a.next e);clear e a g n o p q r;go_wp2_with fail;refine cm (A6 _) λP m=>?_;go_wp2;exact⟨rfl,by rw[E],(f.next m).2.2.2⟩
   |false=>
    have E:Hid (H=.returned (AH 2 k 0 {data:=#[]})):=by show _=_;rw[<-u];rfl
    clear u;cases N with
    |true=>
     obtain rfl:O=false:=by simpa using h
     clear h;go_enter func79,ntmps79;go_upto_region 4 with fail;go_wp2_with fail;refine cm (c _) λz b=>?_;have a:=zq (d.next b);obtain⟨n,o,p,q,r⟩:=a.2.1.cells;clear b d c;go_wp2_with fail;refine cm (g _) λQ e=>?_;have f:=zq (a.next e);clear e a g n o p q r;go_upto_region 6 with fail;go_wp2_with (refine sN f.2.2.1 2 k 0 ⟨#[]⟩ ?_);refine rN ((f.2.2.1.row (.int .i64 2) (.bool k) (.int .i64 0) (.string ⟨#[]⟩)).cells) ?_;exact⟨by rw[E],AC f.2.2.2 (by omega) _⟩
    |false=>
     clear h l;go_enter func79,ntmps79;go_upto_region 4 with fail;go_wp2_with fail;refine cm (c _) λz b=>?_;have a:=zq (d.next b);obtain⟨n,o,p,q,r⟩:=a.2.1.cells;clear b d c;go_wp2_with fail;refine cm (g _) λQ e=>?_;have f:=zq (a.next e);clear e a g n o p q r;go_upto_region 6 with fail;go_wp2_with (refine sN f.2.2.1 2 k 0 ⟨#[]⟩ ?_);refine rN ((f.2.2.1.row (.int .i64 2) (.bool k) (.int .i64 0) (.string ⟨#[]⟩)).cells) ?_;exact⟨by rw[E],AC f.2.2.2 (by omega) _⟩
 exact U v y J K S
theorem oP{W:AA}{g:Nat}{T:TypeId}{k:Int}{n:Bool}{e:Int}{s:AB}(h:W.heap[g]?=some (.cells #[.int .i64 k,.bool n,.int .i64 e,.string s] T (0,0))):EY W g 1 (λ_=>k) (λ_=>n) (λ_=>e) (λ_=>s):=λi a=>by
 match i,a with
 |0,_=>exact⟨(AW h 0).trans rfl,(AW h 1).trans rfl,(AW h 2).trans rfl,(AW h 3).trans rfl⟩
theorem o9(k:Int)(n:Bool)(e:Int)(s:AB):Md 1 (λ_=>k) (λ_=>n) (λ_=>e) (λ_=>s)=if k=2 then Aa (BA k n e s 0) else .returned (.tuple #[]):=by
 by_cases h:k=2
 ·subst h;simp[Md,Nw,Hl]
 ·simp[Md,Nw,Hl,h]
theorem Cz(f k:Int)(b:Bool)(e:Int)(s:AB)(h:AQ f k b e s=true)(g:k≠3)(i:k≠4)(w:AA):cB 93 #[AH k b e s] w (.bool (F8 k s)):=by
 obtain⟨j,l,m,c⟩:=Av f k b e s h g i;have o:=Li f j;rcases m with rfl|rfl
 ·obtain⟨a,p,q,r⟩:=c rfl;have v:=AZ (dl s) a.1;have d:Bp (vl (dl s)):=⟨v.1,FS v.2 (AI _ _ (by omega))⟩;have n:s=tn (vl (dl s)):=by rw[FO,F6 _ a (by omega)];exact l
  have:=BR b e (vl (dl s)) w d;rw[<-mN _ d,<-n] at this;exact this
 ·exact Ix b e s w
theorem Y9(p:Nat)(f t:Int)(j:Int)(o:Bool)(c:Int)(a:ByteArray)(l:Int)(q:Bool)(d:Int)(b:ByteArray)(X:World)(al:a.size<=4611686018427387904)(am:b.size<=4611686018427387904)(hC:en X p f t j o c a l q d b):
 Calls prog 78 #[.pointer (some ⟨p,0,none⟩),.pointer (some ⟨p+1,0,none⟩),.pointer (some ⟨p+2,0,none⟩),.pointer (some ⟨p+3,0,none⟩)] X λx G=>(x=.returned (BE (Fj f t j o c a l q d b).1 (Fj f t j o c a l q d b).2)\/x=Aa (BE (Fj f t j o c a l q d b).1 (Fj f t j o c a l q d b).2))/\Below X.heap.size X G:=by
 obtain⟨R,hR⟩:∃R,Fj f t j o c a l q d b=R:=⟨_,rfl⟩;have HR:Hid (Fj f t j o c a l q d b=R):=hR;rw[hR];clear hR;have HZ:Hid (Z5 (X.alloc A2) X.heap.size/\Below X.heap.size X (X.alloc A2)/\en (X.alloc A2) p f t j o c a l q d b):=⟨Af X _ _ _ _ _,bA,hC.next bA⟩;obtain⟨H,I,D,E⟩:=HZ.2.2;obtain⟨K,L,M,N,O⟩:=D.cells;obtain⟨P,Q,S,T,U⟩:=E.cells;clear D E;have a2:=AN X A2;have A:Hid (EY (Gn (X.alloc A2) j o c a l q d b) (X.alloc A2).heap.size 2 (AX j l) (AX o q) (AX c d) (AX a b)/\(X.alloc A2).heap.size<(Gn (X.alloc A2) j o c a l q d b).heap.size):=LG _ j o c a l q d b;rw[a2] at A;have u:Hid (Z5 (Gn (X.alloc A2) j o c a l q d b) X.heap.size/\Below X.heap.size X (Gn (X.alloc A2) j o c a l q d b)/\en (Gn (X.alloc A2) j o c a l q d b) p f t j o c a l q d b):=by
  have hb:Below (X.alloc A2).heap.size (X.alloc A2) (Gn (X.alloc A2) j o c a l q d b):=bA;exact⟨HZ.1.below hb HZ.1.lt,HZ.2.1.trans (hb.mono HZ.2.1.size),HZ.2.2.next hb⟩
 have w:Hid (∀Y,EY Y (X.heap.size+1) 2 (AX j l) (AX o q) (AX c d) (AX a b)->X.heap.size+1<Y.heap.size->Calls prog 75 #[.int .i64 f,.int .i64 t,.slice (some ⟨X.heap.size+1,0,none⟩) 2 2] Y λx G=>x=SB f t 2 (AX j l) (AX o q) (AX c d) (AX a b)/\Below Y.heap.size Y G):=λY h1 h2=>CI f t 2 (X.heap.size+1) _ _ _ _ Y (by decide) (by decide) h2 h1 (λi hi=>by match i,hi with
  |0,_=>exact al
  |1,_=>exact am)
 unfold SB at w;rw[Ri] at w;clear hC HZ a2;cases hO:Hs f t j o c a l q d b with
 |false=>
  have V:Hid (R=(false,(0,0,{data:=#[]},0))):=by show _=_;rw[<-HR];unfold Fj;rw[hO];rfl
  rw[hO] at w;simp only[Bool.false_eq_true,if_false] at w;clear hO HR al am;go_enter func78,ntmps78;go_wp2_with fail;refine cm (w _ A.1 A.2) λF y=>?_;go_wp2;exact⟨rfl,.inr (by rw[V]),u.2.1.trans (y.mono u.2.1.size)⟩
 |true=>
  rw[hO] at w;simp only[if_true] at w;cases hS:GB 2 (AX j l) with
  |true=>
   have V:Hid (R=(false,(3,0,{data:=#[]},DL 2 (AX j l)))):=by show _=_;rw[<-HR];unfold Fj;rw[hO,hS];rfl
   rw[hS] at w;simp only[if_true] at w;generalize DL 2 (AX j l)=FL at*
   clear hO hS HR al am;go_enter func78,ntmps78;go_wp2_with fail;refine cm (w _ A.1 A.2) λF y=>?_;go_wp2;exact⟨rfl,.inr (by rw[V]),u.2.1.trans (y.mono u.2.1.size)⟩
  |false=>
   have V:R=RD f t j o c a l q d b:=by rw[<-HR];unfold Fj;rw[hO,hS];rfl
   rw[hS] at w;simp only[Bool.false_eq_true,if_false] at w;have aQ:=hO;unfold Hs at aQ;simp only[Bool.and_eq_true,decide_eq_true_eq] at aQ;obtain⟨aE,hA,aq⟩:=aQ;have ae:=of_decide_eq_false hS;have n0:j≠3/\j≠4:=⟨λh=>ae ⟨0,by decide,.inl h⟩,λh=>ae ⟨0,by decide,.inr h⟩⟩;have n1:l≠3/\l≠4:=⟨λh=>ae ⟨1,by decide,.inl h⟩,λh=>ae ⟨1,by decide,.inr h⟩⟩;obtain⟨hf,aF,aR,ca⟩:=Av f j o c a hA n0.1 n0.2;obtain⟨-,aH,aS,cb⟩:=Av f l q d b aq n1.1 n1.2;have hL:=Li f hf;obtain⟨m,ah⟩:∃m,(!(o==q))=m:=⟨_,rfl⟩;have au:Hid (∀(k:Int) (n:Bool) (e:Int) (s:ByteArray) Y g,Y.heap[g]?=some (.cells #[.int .i64 k,.bool n,.int .i64 e,.string s] 78 (0,0))->g<Y.heap.size->Calls prog 80 #[.slice (some ⟨g,0,none⟩) 1 1] Y λx G=>x=(if k=2 then Aa (BA k n e s 0) else .returned (.tuple #[]))/\Below Y.heap.size Y G):=λk n e s Y g h1 h2=>by
    rw[<-o9 k n e s];exact CH 1 g _ _ _ _ Y (by decide) h2 (oP h1)
   by_cases av:j=1/\l=1
   ·obtain⟨rfl,rfl⟩:=av;obtain⟨aJ,l1,x1,y1⟩:=ca rfl;obtain⟨aK,l2,x2,y2⟩:=cb rfl;obtain⟨nk,-⟩:=O4 (dl a) (dl b) aJ aK (by omega) (by omega);have v1:=AZ (dl a) aJ.1;have v2:=AZ (dl b) aK.1;have a3:Bp (vl (dl a)):=⟨v1.1,Int.lt_of_lt_of_le v1.2 (AI _ _ (by omega))⟩;have a5:Bp (vl (dl b)):=⟨v2.1,Int.lt_of_lt_of_le v2.2 (AI _ _ (by omega))⟩;have aa:Hid (cA 79 #[AH 1 o c a,AH 1 q d b] (AH 1 m (c+d) (tn (vl (dl a)*vl (dl b))))):=λY=>by
     have:=II o q c d (vl (dl a)) (vl (dl b)) Y a3 a5 nk (by omega) (by omega);rw[FO (vl (dl a)),FO (vl (dl b)),F6 _ aJ (by omega),F6 _ aK (by omega),<-aF,<-aH,ah] at this;exact this
    have a6:Hid (cA 81 #[.int .i64 f,.int .i64 t,AH 1 m (c+d) (tn (vl (dl a)*vl (dl b))),.int .i64 (c+d)] (BE R.1 R.2)):=λY=>by
     have:=Ir f t hf aE 1 m (c+d) (vl (dl a)*vl (dl b)) (c+d) Y nk (by omega) (by omega);rw[V];unfold RD;rw[if_pos ⟨rfl,rfl⟩,ah];dsimp only;exact this
    generalize tn (vl (dl a)*vl (dl b))=B at*
    generalize c+d=C at*
    clear hO hS HR al am V aE hA aq ae n0 n1 hf aF ca aH cb hL ah aJ l1 x1 y1 aK l2 x2 y2 nk v1 v2 a3 a5 aR aS;obtain⟨R0,F1,F2,F3,F4⟩:=R;go_enter func78,ntmps78;go_wp2_with fail;refine cm (w _ A.1 A.2) λF y=>?_;have z:Hid (Z5 F X.heap.size/\Below X.heap.size X F/\en F p f t 1 o c a 1 q d b):=⟨u.1.below y u.1.lt,u.2.1.trans (y.mono u.2.1.size),u.2.2.next y⟩;clear y u w A H I K L M N O P Q S T U;obtain⟨H,I,D,E⟩:=z.2.2;obtain⟨K,L,M,N,O⟩:=D.cells;obtain⟨P,Q,S,T,U⟩:=E.cells;clear D E;go_wp2_with fail;refine cm (aa _) λr J=>?_;have an:Hid (Z5 r X.heap.size/\Below X.heap.size X r/\en r p f t 1 o c a 1 q d b):=⟨z.1.below J z.1.lt,z.2.1.trans (J.mono z.2.1.size),z.2.2.next J⟩;clear J z aa H I K L M N O P Q S T U;obtain⟨v,aw⟩:∃W,r.alloc (AY 1 m C B)=W:=⟨_,rfl⟩;have aL:Below r.heap.size r v:=by rw[<-aw];exact bA
    have bc:A4 v r.heap.size 1 m C B:=by rw[<-aw];exact As r _ _ _ _
    have ai:Hid (Z5 v X.heap.size/\Below X.heap.size X v/\en v p f t 1 o c a 1 q d b/\A4 v r.heap.size 1 m C B):=⟨an.1.below aL an.1.lt,an.2.1.trans (aL.mono an.2.1.size),an.2.2.next aL,bc⟩;have ax:v.heap.size=r.heap.size+1:=by rw[<-aw];exact AN _ _
    have ay:Below v.heap.size v (v.alloc (AY 1 m C B)):=bA;have az:=Bi v (AY 1 m C B);have aA:v.heap.size<(v.alloc (AY 1 m C B)).heap.size:=Nat.lt_of_lt_of_eq (Nat.lt_succ_self _) (AN _ _).symm;have ac:Hid (Z5 (v.alloc (AY 1 m C B)) X.heap.size/\Below X.heap.size X (v.alloc (AY 1 m C B))/\en (v.alloc (AY 1 m C B)) p f t 1 o c a 1 q d b/\A4 (v.alloc (AY 1 m C B)) r.heap.size 1 m C B):=⟨ai.1.below ay ai.1.lt,ai.2.1.trans (ay.mono ai.2.1.size),ai.2.2.1.next ay,ai.2.2.2.next ay⟩;have aB:Hid (cB 80 #[.slice (some ⟨r.heap.size+1,0,none⟩) 1 1] (v.alloc (AY 1 m C B)) (.tuple #[])):=by
     have:=au 1 m C B _ v.heap.size az aA;rw[if_neg (by decide),ax] at this;exact this
    rw[<-aw] at aB ac;clear aw aL bc ai ax ay az aA au an;go_wp2_with fail;refine cm aB λw5 aj=>?_;have ak:Hid (Z5 w5 X.heap.size/\Below X.heap.size X w5/\en w5 p f t 1 o c a 1 q d b/\A4 w5 r.heap.size 1 m C B):=⟨ac.1.below aj ac.1.lt,ac.2.1.trans (aj.mono ac.2.1.size),ac.2.2.1.next aj,ac.2.2.2.next aj⟩;clear aj ac aB;obtain⟨H,I,D,E⟩:=ak.2.2.1;obtain⟨g0,g1,g2,g3,g4⟩:=ak.2.2.2.cells;clear D E;generalize r.heap.size=b5 at*
    go_wp2_with fail;refine cm (a6 _) λw6 aX=>?_;have aY:Hid (Z5 w6 X.heap.size/\Below X.heap.size X w6):=⟨ak.1.below aX ak.1.lt,ak.2.1.trans (aX.mono ak.2.1.size)⟩;clear aX ak a6 H I g0 g1 g2 g3 g4;go_wp2_with (refine sR aY.1 F1 R0 F2 F3 F4 ?_);refine rR (A1 aY.1 F1 R0 F2 F3 F4) ?_;exact⟨.inl rfl,AC aY.2 (Nat.le_refl _) _⟩
   ·have aa:Hid (∀Y,Calls prog 79 #[AH j o c a,AH l q d b] Y λx G=>x=oD m (F8 j a||F8 l b)/\Below Y.heap.size Y G):=λY=>by
     rw[<-ah];exact IJ j o c a l q d b (F8 j a) (F8 l b) Y av (λZ=>Cz f j o c a hA n0.1 n0.2 Z) (λZ=>Cz f l q d b aq n1.1 n1.2 Z)
    have ao:R=if F8 j a||F8 l b then(false,(3,0,{data:=#[]},1)) else(m,(2,0,{data:=#[]},0)):=by
     rw[V];unfold RD;rw[if_neg av,ah]
    cases hz:(F8 j a||F8 l b) with
    |true=>
     rw[hz] at aa ao;have aZ:Hid (R=(false,(3,0,{data:=#[]},1))):=ao;have aD:Hid (∀Y,Calls prog 79 #[AH j o c a,AH l q d b] Y λx G=>x=Aa (BA 3 false 0 {data:=#[]} 1)/\Below Y.heap.size Y G):=aa;clear hO hS HR al am V aE hA aq ae n0 n1 hf aF ca aH cb hL ah aR aS ao av hz aa au;go_enter func78,ntmps78;go_wp2_with fail;refine cm (w _ A.1 A.2) λF y=>?_;have z:Hid (Z5 F X.heap.size/\Below X.heap.size X F/\en F p f t j o c a l q d b):=⟨u.1.below y u.1.lt,u.2.1.trans (y.mono u.2.1.size),u.2.2.next y⟩;clear y u w A H I K L M N O P Q S T U;obtain⟨H,I,D,E⟩:=z.2.2;obtain⟨K,L,M,N,O⟩:=D.cells;obtain⟨P,Q,S,T,U⟩:=E.cells;clear D E;go_wp2_with fail;refine cm (aD _) λr J=>?_;have bu:Hid (Below X.heap.size X r):=z.2.1.trans (J.mono z.2.1.size);clear J z aD H I K L M N O P Q S T U;go_wp2;exact⟨rfl,.inr (by rw[aZ.out]),bu.out⟩
    |false=>
     rw[hz] at aa ao;have aZ:Hid (R=(m,(2,0,{data:=#[]},0))):=ao;have aD:Hid (cA 79 #[AH j o c a,AH l q d b] (AH 2 m 0 {data:=#[]})):=aa;clear hO hS HR al am V aE hA aq ae n0 n1 hf aF ca aH cb hL ah aR aS ao av hz aa;go_enter func78,ntmps78;go_wp2_with fail;refine cm (w _ A.1 A.2) λF y=>?_;have z:Hid (Z5 F X.heap.size/\Below X.heap.size X F/\en F p f t j o c a l q d b):=⟨u.1.below y u.1.lt,u.2.1.trans (y.mono u.2.1.size),u.2.2.next y⟩;clear y u w A H I K L M N O P Q S T U;obtain⟨H,I,D,E⟩:=z.2.2;obtain⟨K,L,M,N,O⟩:=D.cells;obtain⟨P,Q,S,T,U⟩:=E.cells;clear D E;go_wp2_with fail;refine cm (aD _) λr J=>?_;have a0:Below X.heap.size X r:=z.2.1.trans (J.mono z.2.1.size);clear J z aD H I K L M N O P Q S T U;have ax:(r.alloc (AY 2 m 0 ⟨#[]⟩)).heap.size=r.heap.size+1:=AN _ _;have az:=Bi (r.alloc (AY 2 m 0 ⟨#[]⟩)) (AY 2 m 0 ⟨#[]⟩);have aA:(r.alloc (AY 2 m 0 ⟨#[]⟩)).heap.size<((r.alloc (AY 2 m 0 ⟨#[]⟩)).alloc (AY 2 m 0 ⟨#[]⟩)).heap.size:=Nat.lt_of_lt_of_eq (Nat.lt_succ_self _) (AN _ _).symm;have aB:Hid (Calls prog 80 #[.slice (some ⟨r.heap.size+1,0,none⟩) 1 1] ((r.alloc (AY 2 m 0 ⟨#[]⟩)).alloc (AY 2 m 0 ⟨#[]⟩)) λx G=>x=Aa (BA 2 m 0 {data:=#[]} 0)/\Below ((r.alloc (AY 2 m 0 ⟨#[]⟩)).alloc (AY 2 m 0 ⟨#[]⟩)).heap.size ((r.alloc (AY 2 m 0 ⟨#[]⟩)).alloc (AY 2 m 0 ⟨#[]⟩)) G):=by
      have:=au 2 m 0 {data:=#[]} _ _ az aA;rw[if_pos rfl,ax] at this;exact this
     have bf:Hid (Below X.heap.size X ((r.alloc (AY 2 m 0 ⟨#[]⟩)).alloc (AY 2 m 0 ⟨#[]⟩))):=a0.trans ((CC r _ _).mono a0.size);clear ax az aA au a0;go_wp2_with fail;refine cm aB λw5 aj=>?_;go_wp2;exact⟨rfl,.inr (by rw[aZ]),bf.trans (aj.mono bf.size)⟩
theorem Yc(f c:Int)(d:Int)(e:Bool)(g:Int)(a:AB)(h:Int)(i:Bool)(j:Int)(b:AB)(w:AA)(t:a.size<=4611686018427387904)(u:b.size<=4611686018427387904):
 cB 30 #[.int .i64 f,.int .i64 c,AH d e g a,AH h i j b] w (BE (Fj f c d e g a h i j b).1 (Fj f c d e g a h i j b).2):=by
 have E:∀(v:Fn) (first y:Array AK) (w:AA),(Instr.makeFunc v first y).run prog w=.ok (.func v first y) w:=λ_ _ _ _=>rfl;have k:=zq (UQ w f c d e g a h i j b);obtain⟨R,q⟩:=zxe (Fj f c d e g a h i j b);have z:∀X,en X w.heap.size f c d e g a h i j b->Calls prog 78 #[.pointer (some ⟨w.heap.size,0,none⟩),.pointer (some ⟨w.heap.size+1,0,none⟩),.pointer (some ⟨w.heap.size+2,0,none⟩),.pointer (some ⟨w.heap.size+3,0,none⟩)] X λx B=>(x=.returned (BE R.1 R.2)\/x=Aa (BE R.1 R.2))/\AD X.heap.size X B:=λX C=>by
  rw[<-q];exact Y9 w.heap.size f c d e g a h i j b X t u C
 rw[q];obtain⟨l,m,n,o,p⟩:=R;have A:Hid (cB 73 #[.func (.func 78) #[] #[.pointer (some ⟨w.heap.size,0,none⟩),.pointer (some ⟨w.heap.size+1,0,none⟩),.pointer (some ⟨w.heap.size+1+1,0,none⟩),.pointer (some ⟨w.heap.size+1+1+1,0,none⟩)]] (Vn w f c d e g a h i j b) (BA m l n o p)):=
  FT 78 _ (enters_of func78 (by kernel_rfl) rfl) m l n o p _ (λX D=>z X (k.1.next D))
 clear q z t u;go_enter func30,ntmps30;go_wp2_with fail;refine cm A λF r=>?_;have s:=Ab (k.2.1.below r k.2.1.lt) (k.2.2.trans (r.mono k.2.2.size));clear r k A;go_wp2_with (refine sR s.1 m l n o p ?_);refine rR (A1 s.1 m l n o p) ?_;exact⟨rfl,AC s.2 (by omega) _⟩
theorem gC(f c:Int)(l:f=64\/f=128)(t:1<=c/\c<=5)(g:Bool)(d v:Int)(j:Bp v)(o:v<10^68)(F:-13000<=d/\d<=13000)(i:Int)(a:Bool)(e:Int)(b:AB)(p:AQ f i a e b=true)(u:i≠3)(y:i≠4)(w:AA):
 Calls prog 76 #[.int .i64 f,.int .i64 c,AH 1 g d (tn v),AH i a e b] w λx m=>(x=.returned (BE (Bd f c 1 g d (nt v) i a e (dl b)).1 (Bd f c 1 g d (nt v) i a e (dl b)).2)\/x=Aa (BE (Bd f c 1 g d (nt v) i a e (dl b)).1 (Bd f c 1 g d (nt v) i a e (dl b)).2))/\AD w.heap.size w m:=by
 obtain⟨-,z,A,B⟩:=Av f i a e b p u y;have G:=Li f l;rcases A with rfl|rfl
 ·obtain⟨k,H,I,J⟩:=B rfl;have r:=AZ (dl b) k.1;have C:=k.2.1;have K:(nt v).length<=68:=Tf _ 68 j.1 (by unfold Ac;exact o) (by decide) (by decide);have:=Dj f c l t g d v a e (vl (dl b)) 68 (dl b).length w j.1 o r.1 r.2 (by decide) C (by omega) (by omega) (by omega);rw[FO (vl (dl b)),F6 _ k (by omega),<-z] at this;have s:=R9 f c l g d (nt v) a e (dl b) (Ae j).1 k (by omega);rw[(Ae j).2] at s;have n:Bd f c 1 g d (nt v) 1 a e (dl b)=Pk f c g d (nt v) a e (dl b):=by
   unfold Bd;rw[zyn (λq=>absurd q.1 (by decide)),zyn (by decide),zyn (by decide)]
  rw[n,<-s];dsimp only;exact this.mono λx m h=>⟨.inl h.1,h.2⟩
 ·obtain⟨D,E⟩:=FG f a e b p;have n:Bd f c 1 g d (nt v) 2 a e (dl b)=(a,(2,0,{data:=#[]},0)):=by
   unfold Bd;rw[zyn (λq=>absurd q.1 (by decide)),zyn (by decide),zyp rfl]
  rw[n,D,E];exact(Ap f c 1 g d (tn v) 2 a 0 {data:=#[]} w (BA 2 a 0 {data:=#[]} 0) (by simp[Md,Nw,Hl,AX])).mono λx m h=>⟨.inr h.1,h.2⟩
theorem gD(f e:Int)(a:Bool)(g:Int)(b:Bool)(c:Int)(d:AB)(l:AQ f g b c d=true)(o:g≠3)(p:g≠4)(w:AA):
 Calls prog 76 #[.int .i64 f,.int .i64 e,AH 2 a 0 {data:=#[]},AH g b c d] w λx j=>(x=.returned (BE (Bd f e 2 a 0 [] g b c (dl d)).1 (Bd f e 2 a 0 [] g b c (dl d)).2)\/x=Aa (BE (Bd f e 2 a 0 [] g b c (dl d)).1 (Bd f e 2 a 0 [] g b c (dl d)).2))/\AD w.heap.size w j:=by
 obtain⟨s,t,r,u⟩:=Av f g b c d l o p;rcases r with rfl|rfl
 ·have i:Bd f e 2 a 0 [] 1 b c (dl d)=(a,(2,0,{data:=#[]},0)):=by
   unfold Bd;rw[zyn (λq=>absurd q.2.1 (by decide)),zyp rfl]
  rw[i];exact(Ap f e 2 a 0 {data:=#[]} 1 b c d w (BA 2 a 0 {data:=#[]} 0) (by simp[Md,Nw,Hl,AX])).mono λx j h=>⟨.inr h.1,h.2⟩
 ·obtain⟨m,n⟩:=FG f b c d l;by_cases k:a=b
  ·subst k;have i:Bd f e 2 a 0 [] 2 a c (dl d)=(a,(2,0,{data:=#[]},0)):=by
    unfold Bd;rw[zyn (λq=>q.2.2 rfl),zyp rfl]
   rw[i,m,n];exact(Ap f e 2 a 0 {data:=#[]} 2 a 0 {data:=#[]} w (BA 2 a 0 {data:=#[]} 0) (by simp[Md,Nw,Hl,AX])).mono λx j h=>⟨.inr h.1,h.2⟩
  ·have i:Bd f e 2 a 0 [] 2 b c (dl d)=(false,(3,0,{data:=#[]},1)):=by
    unfold Bd;rw[zyp ⟨rfl,rfl,k⟩]
   rw[i,m,n];exact(Ap f e 2 a 0 {data:=#[]} 2 b 0 {data:=#[]} w (BA 3 false 0 {data:=#[]} 1) (by simp[Md,Nw,Hl,AX,k])).mono λx j h=>⟨.inr h.1,h.2⟩
def SP(X:AA)(p:Nat)(f a:Int)(b:Int)(c:Bool)(d:Int)(e:AB)(g:Int)(h:Bool)(i:Int)(j:AB)(k:Int)(l:Bool)(m:Int)(n:AB):Prop:=
 X.cell? ⟨p,0,none⟩=some (.int .i64 f)/\X.cell? ⟨p+1,0,none⟩=some (.int .i64 a)/\A4 X (p+2) b c d e/\A4 X (p+3) g h i j/\A4 X (p+4) k l m n
theorem SP.next{X b:AA}{p:Nat}{f c:Int}{d:Int}{e:Bool}{g:Int}{i:AB}{j:Int}{k:Bool}{l:Int}{m:AB}{n:Int}{o:Bool}{q:Int}{r:AB}(h:SP X p f c d e g i j k l m n o q r)(a:AD X.heap.size X b):SP b p f c d e g i j k l m n o q r:=by
 have s:=h.2.2.2.2.lt;exact⟨(a.cell (p:=⟨p,0,none⟩) (show p<X.heap.size by omega)).trans h.1,(a.cell (p:=⟨p+1,0,none⟩) (show p+1<X.heap.size by omega)).trans h.2.1,h.2.2.1.next a,h.2.2.2.1.next a,h.2.2.2.2.next a⟩
theorem Wr(f o:Int)(a:Int)(b:Bool)(c:Int)(d:AB)(e:Int)(g:Bool)(h:Int)(j:AB)(k:Int)(l:Bool)(m:Int)(n:AB):BO f o 3 (Dm a e k) (Dm b g l) (Dm c h m) (Dm d j n)=QW f o a b c d e g h j k l m n:=by
 unfold BO QW;rw[nD (λi=>AQ f (Dm a e k i) (Dm b g l i) (Dm c h m i) (Dm d j n i))];rfl
theorem YE(p:Nat)(f s:Int)(c:Int)(k:Bool)(e:Int)(a:AB)(d:Int)(l:Bool)(g:Int)(b:AB)(j:Int)(n:Bool)(o:Int)(m:AB)(X:AA)(ag:a.size<=4611686018427387904)(ah:b.size<=4611686018427387904)(ai:m.size<=4611686018427387904)(y:SP X p f s c k e a d l g b j n o m):
 Calls prog 90 #[.pointer (some ⟨p,0,none⟩),.pointer (some ⟨p+1,0,none⟩),.pointer (some ⟨p+2,0,none⟩),.pointer (some ⟨p+3,0,none⟩),.pointer (some ⟨p+4,0,none⟩)] X λx A=>(x=.returned (BE (Fb f s c k e a d l g b j n o m).1 (Fb f s c k e a d l g b j n o m).2)\/x=Aa (BE (Fb f s c k e a d l g b j n o m).1 (Fb f s c k e a d l g b j n o m).2))/\AD X.heap.size X A:=by
 obtain⟨R,hR⟩:=zxe (Fb f s c k e a d l g b j n o m);have O:=zq hR;rw[hR];clear hR;have aT:AD X.heap.size X (X.alloc A2):=bA;have P:Hid (Z5 (X.alloc A2) X.heap.size/\AD X.heap.size X (X.alloc A2)/\SP (X.alloc A2) p f s c k e a d l g b j n o m):=⟨Af X _ _ _ _ _,aT,y.next aT⟩;obtain⟨Q,T,J,qb,qc⟩:=P.2.2;obtain⟨B,D,E,F,H⟩:=J.cells;obtain⟨c0,c1,c2,c3,c4⟩:=qb.cells;obtain⟨d0,d1,d2,d3,d4⟩:=qc.cells;clear J qb qc;have a3:(X.alloc A2).heap.size=X.heap.size+1:=AN X _;have z:Hid (EY ((X.alloc A2).alloc (.cells #[.int .i64 c,.bool k,.int .i64 e,.string a,.int .i64 d,.bool l,.int .i64 g,.string b,.int .i64 j,.bool n,.int .i64 o,.string m] 78)) (X.alloc A2).heap.size 3 (Dm c d j) (Dm k l n) (Dm e g o) (Dm a b m)/\(X.alloc A2).heap.size<((X.alloc A2).alloc (.cells #[.int .i64 c,.bool k,.int .i64 e,.string a,.int .i64 d,.bool l,.int .i64 g,.string b,.int .i64 j,.bool n,.int .i64 o,.string m] 78)).heap.size):=⟨nB (Bi (X.alloc A2) _),Nat.lt_of_lt_of_eq (Nat.lt_succ_self _) (AN _ _).symm⟩;rw[a3] at z;have r:Hid (Z5 ((X.alloc A2).alloc (.cells #[.int .i64 c,.bool k,.int .i64 e,.string a,.int .i64 d,.bool l,.int .i64 g,.string b,.int .i64 j,.bool n,.int .i64 o,.string m] 78)) X.heap.size/\AD X.heap.size X ((X.alloc A2).alloc (.cells #[.int .i64 c,.bool k,.int .i64 e,.string a,.int .i64 d,.bool l,.int .i64 g,.string b,.int .i64 j,.bool n,.int .i64 o,.string m] 78))/\SP ((X.alloc A2).alloc (.cells #[.int .i64 c,.bool k,.int .i64 e,.string a,.int .i64 d,.bool l,.int .i64 g,.string b,.int .i64 j,.bool n,.int .i64 o,.string m] 78)) p f s c k e a d l g b j n o m):=by
  have U:AD (X.alloc A2).heap.size (X.alloc A2) ((X.alloc A2).alloc (.cells #[.int .i64 c,.bool k,.int .i64 e,.string a,.int .i64 d,.bool l,.int .i64 g,.string b,.int .i64 j,.bool n,.int .i64 o,.string m] 78)):=bA;exact⟨P.1.below U P.1.lt,P.2.1.trans (U.mono P.2.1.size),P.2.2.next U⟩
 have t:Hid (∀Y,EY Y (X.heap.size+1) 3 (Dm c d j) (Dm k l n) (Dm e g o) (Dm a b m)->X.heap.size+1<Y.heap.size->Calls prog 75 #[.int .i64 f,.int .i64 s,.slice (some ⟨X.heap.size+1,0,none⟩) 3 3] Y λx A=>x=SB f s 3 (Dm c d j) (Dm k l n) (Dm e g o) (Dm a b m)/\AD Y.heap.size Y A):=λY h1 h2=>CI f s 3 (X.heap.size+1) _ _ _ _ Y (by decide) (by decide) h2 h1 (λi hi=>by match i,hi with
  |0,_=>exact ag
  |1,_=>exact ah
  |2,_=>exact ai)
 unfold SB at t;rw[Wr] at t;clear y P a3 aT;cases hO:QW f s c k e a d l g b j n o m with
 |false=>
  have I:Hid (R=(false,(0,0,{data:=#[]},0))):=by show _=_;rw[<-O];unfold Fb;rw[hO];rfl
  rw[hO] at t;simp only[Bool.false_eq_true,if_false] at t;clear hO O ag ah ai;go_enter func90,ntmps90;go_wp2_with fail;refine cm (t _ z.1 z.2) λG u=>?_;go_wp2;exact⟨rfl,.inr (by rw[I]),r.2.1.trans (u.mono r.2.1.size)⟩
 |true=>
  rw[hO] at t;simp only[if_true] at t;cases hS:GB 3 (Dm c d j) with
  |true=>
   have I:Hid (R=(false,(3,0,{data:=#[]},DL 3 (Dm c d j)))):=by show _=_;rw[<-O];unfold Fb;rw[hO,hS];rfl
   rw[hS] at t;simp only[if_true] at t;generalize DL 3 (Dm c d j)=FL at*
   clear hO hS O ag ah ai;go_enter func90,ntmps90;go_wp2_with fail;refine cm (t _ z.1 z.2) λG u=>?_;go_wp2;exact⟨rfl,.inr (by rw[I]),r.2.1.trans (u.mono r.2.1.size)⟩
  |false=>
   have I:R=Ms f s c k e a d l g b j n o m:=by rw[<-O];unfold Fb;rw[hO,hS];rfl
   rw[hS] at t;simp only[Bool.false_eq_true,if_false] at t;have aU:=hO;unfold QW at aU;simp only[Bool.and_eq_true,decide_eq_true_eq] at aU;obtain⟨aL,hA,aA,aB⟩:=aU;have L:=of_decide_eq_false hS;have V:c≠3/\c≠4:=⟨λh=>L ⟨0,by decide,.inl h⟩,λh=>L ⟨0,by decide,.inr h⟩⟩;have n1:d≠3/\d≠4:=⟨λh=>L ⟨1,by decide,.inl h⟩,λh=>L ⟨1,by decide,.inr h⟩⟩;have n2:j≠3/\j≠4:=⟨λh=>L ⟨2,by decide,.inl h⟩,λh=>L ⟨2,by decide,.inr h⟩⟩;obtain⟨hf,aM,aV,ca⟩:=Av f c k e a hA V.1 V.2;obtain⟨-,aO,aW,cb⟩:=Av f d l g b aA n1.1 n1.2;have hL:=Li f hf;obtain⟨ng,ac⟩:=zxe (!(k==l));by_cases ak:c=1/\d=1
   ·obtain⟨rfl,rfl⟩:=ak;obtain⟨aQ,l1,x1,y1⟩:=ca rfl;obtain⟨aR,l2,x2,y2⟩:=cb rfl;obtain⟨nk,a5⟩:=O4 (dl a) (dl b) aQ aR (by omega) (by omega);have v1:=AZ (dl a) aQ.1;have v2:=AZ (dl b) aR.1;have a6:Bp (vl (dl a)):=⟨v1.1,FS v1.2 (AI _ _ (by omega))⟩;have a7:Bp (vl (dl b)):=⟨v2.1,FS v2.2 (AI _ _ (by omega))⟩;have ad:Hid (cA 79 #[AH 1 k e a,AH 1 l g b] (AH 1 ng (e+g) (tn (vl (dl a)*vl (dl b))))):=λY=>by
     have:=II k l e g (vl (dl a)) (vl (dl b)) Y a6 a7 nk (by omega) (by omega);rw[FO (vl (dl a)),FO (vl (dl b)),F6 _ aQ (by omega),F6 _ aR (by omega),<-aM,<-aO,ac] at this;exact this
    have ae:Hid (∀Y,Calls prog 76 #[.int .i64 f,.int .i64 s,AH 1 ng (e+g) (tn (vl (dl a)*vl (dl b))),AH j n o m] Y λx A=>(x=.returned (BE (R).1 (R).2)\/x=Aa (BE (R).1 (R).2))/\AD Y.heap.size Y A):=λY=>by
     have:=gC f s hf aL ng (e+g) (vl (dl a)*vl (dl b)) nk a5 (by omega) j n o m aB n2.1 n2.2 Y;rw[I];unfold Ms;rw[zyp ⟨rfl,rfl⟩,ac];exact this
    generalize tn (vl (dl a)*vl (dl b))=TP at*
    generalize e+g=ep at*
    clear hO hS O ag ah ai I aL hA aA aB L V n1 n2 hf aM ca aO cb hL ac aV aW aQ l1 x1 y1 aR l2 x2 y2 nk a5 v1 v2 a6 a7;obtain⟨R0,F1,F2,F3,F4⟩:=R;go_enter func90,ntmps90;go_wp2_with fail;refine cm (t _ z.1 z.2) λG u=>?_;have q:=J9 (r.1.below u r.1.lt) (r.2.1.trans (u.mono r.2.1.size)) (r.2.2.next u);clear u r t z Q T B D E F H c0 c1 c2 c3 c4 d0 d1 d2 d3 d4;have aI:=dR G;go_upto_region 2 with fail;refine AM (C:=AD G.heap.size G) 6 aI ?_;simp only[Hy,List.take_zero,Ia,List.drop_zero];repeat (go_big_quiet_step ((intro y;rename_i wx;first|exact rfl|exact Calls.class_of (ad wx) (λA U=>BQ y U)|(obtain⟨Q,T,J⟩:=q.2.2.next y;clear J;go_simp;exact rfl)|(obtain⟨B,D,E,F,H⟩:=(q.2.2.next y).2.2.1.cells;go_simp;exact rfl)|(obtain⟨B,D,E,F,H⟩:=(q.2.2.next y).2.2.2.1.cells;go_simp;exact rfl)|(obtain⟨B,D,E,F,H⟩:=(q.2.2.next y).2.2.2.2.cells;go_simp;exact rfl))))
    refine wpQuiet_nil ?_;intro w2 M;have w:=Ab (q.1.below M q.1.lt) (q.2.1.trans (M.mono q.2.1.size));clear M q ad aI;go_wp2_with fail;refine(ae _).mono ?_;rintro x w3 ⟨rfl|rfl,hb3⟩
    ·have af:=Ab (w.1.below hb3 w.1.lt) (w.2.trans (hb3.mono w.2.size));clear hb3 w ae;go_wp2_with (refine sR af.1 F1 R0 F2 F3 F4 ?_);refine rR (A1 af.1 F1 R0 F2 F3 F4) ?_;exact⟨.inl rfl,AC af.2 (AS _) _⟩
    ·have a2:=zq (w.2.trans (hb3.mono w.2.size));clear hb3 w ae;go_wp2;exact⟨rfl,.inr rfl,a2⟩
   ·have al:∀Y,Calls prog 79 #[AH c k e a,AH d l g b] Y λx A=>x=oD ng (F8 c a||F8 d b)/\AD Y.heap.size Y A:=λY=>by
     rw[<-ac];exact IJ c k e a d l g b (F8 c a) (F8 d b) Y ak (λZ=>Cz f c k e a hA V.1 V.2 Z) (λZ=>Cz f d l g b aA n1.1 n1.2 Z)
    cases hz:(F8 c a||F8 d b) with
    |true=>
     rw[hz] at al;have bk:Hid (R=(false,(3,0,{data:=#[]},1))):=by show _=_;rw[I];unfold Ms;rw[zyn ak,zyp hz]
     have ad:=zq al;clear hO hS O ag ah ai I aL hA aA aB L V n1 n2 hf aM ca aO cb hL ac aV aW ak hz al;go_enter func90,ntmps90;go_wp2_with fail;refine cm (t _ z.1 z.2) λG u=>?_;have q:=J9 (r.1.below u r.1.lt) (r.2.1.trans (u.mono r.2.1.size)) (r.2.2.next u);clear u r t z Q T B D E F H c0 c1 c2 c3 c4 d0 d1 d2 d3 d4;obtain⟨Q,T,J,qb,qc⟩:=q.2.2;obtain⟨B,D,E,F,H⟩:=J.cells;obtain⟨c0,c1,c2,c3,c4⟩:=qb.cells;obtain⟨d0,d1,d2,d3,d4⟩:=qc.cells;clear J qb qc;go_upto_region 2 with fail;have am:(λW:AA=>W.cell? ⟨p,0,none⟩=some (.int .i64 f)/\W.cell? ⟨p+1,0,none⟩=some (.int .i64 s)/\W.cell? ⟨p+2,0,none⟩=some (.int .i64 c)/\W.cell? ⟨p+2,1,none⟩=some (.bool k)/\W.cell? ⟨p+2,2,none⟩=some (.int .i64 e)/\W.cell? ⟨p+2,3,none⟩=some (.string a)/\W.cell? ⟨p+3,0,none⟩=some (.int .i64 d)/\W.cell? ⟨p+3,1,none⟩=some (.bool l)/\W.cell? ⟨p+3,2,none⟩=some (.int .i64 g)/\W.cell? ⟨p+3,3,none⟩=some (.string b)/\W.cell? ⟨p+4,0,none⟩=some (.int .i64 j)/\W.cell? ⟨p+4,1,none⟩=some (.bool n)/\W.cell? ⟨p+4,2,none⟩=some (.int .i64 o)/\W.cell? ⟨p+4,3,none⟩=some (.string m)) G.drew:=⟨Q,T,B,D,E,F,c0,c1,c2,c3,d0,d1,d2,d3⟩;refine wp_region_held_drew (S:=λW=>W.cell? ⟨p,0,none⟩=some (.int .i64 f)/\W.cell? ⟨p+1,0,none⟩=some (.int .i64 s)/\W.cell? ⟨p+2,0,none⟩=some (.int .i64 c)/\W.cell? ⟨p+2,1,none⟩=some (.bool k)/\W.cell? ⟨p+2,2,none⟩=some (.int .i64 e)/\W.cell? ⟨p+2,3,none⟩=some (.string a)/\W.cell? ⟨p+3,0,none⟩=some (.int .i64 d)/\W.cell? ⟨p+3,1,none⟩=some (.bool l)/\W.cell? ⟨p+3,2,none⟩=some (.int .i64 g)/\W.cell? ⟨p+3,3,none⟩=some (.string b)/\W.cell? ⟨p+4,0,none⟩=some (.int .i64 j)/\W.cell? ⟨p+4,1,none⟩=some (.bool n)/\W.cell? ⟨p+4,2,none⟩=some (.int .i64 o)/\W.cell? ⟨p+4,3,none⟩=some (.string m)) (by kernel_rfl) am (λ_=>?_);refine wpAnyH_take (i:=0) (v:=.int .i64 f) rfl (by kernel_rfl) (by kernel_rfl) (by kernel_rfl) (λ_ _ _ h=>h) (Or.inl ⟨by rfl,?_⟩) am ?_
     ·intro W N;try dsimp only at N
      go_split_ands;go_simp
     try simp only[Act.put,List.setIfInBounds_toArray,List.set_cons_zero,List.set_cons_succ]
     refine wpAnyH_take (i:=1) (v:=.int .i64 s) rfl (by kernel_rfl) (by kernel_rfl) (by kernel_rfl) (λ_ _ _ h=>h) (Or.inl ⟨by rfl,?_⟩) am ?_
     ·intro W N;try dsimp only at N
      go_split_ands;go_simp
     try simp only[Act.put,List.setIfInBounds_toArray,List.set_cons_zero,List.set_cons_succ]
     refine wpAnyH_take (i:=2) (v:=AH c k e a) rfl (by kernel_rfl) (by kernel_rfl) (by kernel_rfl) (λ_ _ _ h=>h) (Or.inl ⟨by rfl,?_⟩) am ?_
     ·intro W N;try dsimp only at N
      go_split_ands;go_simp
     try simp only[Act.put,List.setIfInBounds_toArray,List.set_cons_zero,List.set_cons_succ]
     refine wpAnyH_take (i:=3) (v:=AH d l g b) rfl (by kernel_rfl) (by kernel_rfl) (by kernel_rfl) (λ_ _ _ h=>h) (Or.inl ⟨by rfl,?_⟩) am ?_
     ·intro W N;try dsimp only at N
      go_split_ands;go_simp
     try simp only[Act.put,List.setIfInBounds_toArray,List.set_cons_zero,List.set_cons_succ]
     refine wpAnyH_take (i:=5) (v:=AH j n o m) rfl (by kernel_rfl) (by kernel_rfl) (by kernel_rfl) (λ_ _ _ h=>h) (Or.inl ⟨by rfl,?_⟩) am ?_
     ·intro W N;try dsimp only at N
      go_split_ands;go_simp
     try simp only[Act.put,List.setIfInBounds_toArray,List.set_cons_zero,List.set_cons_succ]
     refine wpAnyH_ready (rs:=[4]) (by kernel_rfl) (by simp) ?_;refine AllReadyH.cons rfl (λK hK=>?_) AllReadyH.nil;clear hK;go_simp;go_at_call 79;refine cm (ad _) λw2 M=>?_;have hE:=q.2.1.drew.trans (M.mono q.2.1.size);go_simp;exact⟨rfl,.inr (by rw[bk]),hE⟩
    |false=>
     rw[hz] at al;have ad:=zq al;have ae:Hid (∀Y,Calls prog 76 #[.int .i64 f,.int .i64 s,AH 2 ng 0 {data:=#[]},AH j n o m] Y λx A=>(x=.returned (BE (R).1 (R).2)\/x=Aa (BE (R).1 (R).2))/\AD Y.heap.size Y A):=λY=>by
      have:=gD f s ng j n o m aB n2.1 n2.2 Y;rw[I];unfold Ms;rw[zyn ak,ac,hz,zyn (by decide)];exact this
     clear hO hS O ag ah ai I aL hA aA aB L V n1 n2 hf aM ca aO cb hL ac aV aW ak hz al;obtain⟨R0,F1,F2,F3,F4⟩:=R;go_enter func90,ntmps90;go_wp2_with fail;refine cm (t _ z.1 z.2) λG u=>?_;have q:=J9 (r.1.below u r.1.lt) (r.2.1.trans (u.mono r.2.1.size)) (r.2.2.next u);clear u r t z Q T B D E F H c0 c1 c2 c3 c4 d0 d1 d2 d3 d4;have aI:=dR G;go_upto_region 2 with fail;refine AM (C:=AD G.heap.size G) 6 aI ?_;simp only[Hy,List.take_zero,Ia,List.drop_zero];repeat (go_big_quiet_step ((intro y;rename_i wx;first|exact rfl|exact Calls.class_of (ad wx) (λA U=>BQ y U)|(obtain⟨Q,T,J⟩:=q.2.2.next y;clear J;go_simp;exact rfl)|(obtain⟨B,D,E,F,H⟩:=(q.2.2.next y).2.2.1.cells;go_simp;exact rfl)|(obtain⟨B,D,E,F,H⟩:=(q.2.2.next y).2.2.2.1.cells;go_simp;exact rfl)|(obtain⟨B,D,E,F,H⟩:=(q.2.2.next y).2.2.2.2.cells;go_simp;exact rfl))))
     refine wpQuiet_nil ?_;intro w2 M;have w:=Ab (q.1.below M q.1.lt) (q.2.1.trans (M.mono q.2.1.size));clear M q ad aI;go_wp2_with fail;refine(ae _).mono ?_;rintro x w3 ⟨rfl|rfl,hb3⟩
     ·have af:=Ab (w.1.below hb3 w.1.lt) (w.2.trans (hb3.mono w.2.size));clear hb3 w ae;go_wp2_with (refine sR af.1 F1 R0 F2 F3 F4 ?_);refine rR (A1 af.1 F1 R0 F2 F3 F4) ?_;exact⟨.inl rfl,AC af.2 (AS _) _⟩
     ·have a2:=zq (w.2.trans (hb3.mono w.2.size));clear hb3 w ae;go_wp2;exact⟨rfl,.inr rfl,a2⟩
abbrev QH(w:AA)(f a:Int)(b:Int)(c:Bool)(d:Int)(e:AB)(g:Int)(h:Bool)(i:Int)(j:AB)(k:Int)(l:Bool)(m:Int)(n:AB):AA:=
 Pl ((w.alloc (.cells #[.int .i64 f] 2)).alloc (.cells #[.int .i64 a] 2)) b c d e g h i j k l m n
theorem Xj(w:AA)(f a:Int)(d:Int)(e:Bool)(g:Int)(h:AB)(i:Int)(j:Bool)(k:Int)(l:AB)(m:Int)(n:Bool)(o:Int)(q:AB):
 SP (QH w f a d e g h i j k l m n o q) w.heap.size f a d e g h i j k l m n o q/\Z5 (QH w f a d e g h i j k l m n o q) (w.heap.size+5)/\AD w.heap.size w (QH w f a d e g h i j k l m n o q):=by
 unfold QH;have z:=A9 w (.int .i64 f) 2;have A:=AN w (.cells #[.int .i64 f] 2);have u:AD w.heap.size w (w.alloc (.cells #[.int .i64 f] 2)):=bA;generalize w.alloc (.cells #[.int .i64 f] 2)=b at*
 have v:=A9 b (.int .i64 a) 2;have C:=AN b (.cells #[.int .i64 a] 2);have x:AD b.heap.size b (b.alloc (.cells #[.int .i64 a] 2)):=bA;have B:=(x.cell (p:=⟨w.heap.size,0,none⟩) (show w.heap.size<b.heap.size by omega)).trans z;generalize b.alloc (.cells #[.int .i64 a] 2)=c at*
 have r:=VJ c d e g h i j k l m n o q;rw[A] at v;have s:c.heap.size=w.heap.size+2:=by omega
 have y:=u.trans (x.mono u.size);have t:AD c.heap.size c (Pl c d e g h i j k l m n o q):=r.2.2.2.2.1;refine⟨⟨(t.cell (p:=⟨w.heap.size,0,none⟩) (show w.heap.size<c.heap.size by omega)).trans B,(t.cell (p:=⟨w.heap.size+1,0,none⟩) (show w.heap.size+1<c.heap.size by omega)).trans v,?_,?_,?_⟩,?_,y.trans (t.mono y.size)⟩
 ·have:=r.1;rwa[s] at this
 ·have:=r.2.1;rwa[s] at this
 ·have:=r.2.2.1;rwa[s] at this
 ·have:=r.2.2.2.1;rwa[s] at this
theorem Yb(f d:Int)(e:Int)(g:Bool)(h:Int)(a:AB)(i:Int)(j:Bool)(k:Int)(b:AB)(l:Int)(m:Bool)(n:Int)(c:AB)(w:AA)(z:a.size<=4611686018427387904)(A:b.size<=4611686018427387904)(B:c.size<=4611686018427387904):
 cB 33 #[.int .i64 f,.int .i64 d,AH e g h a,AH i j k b,AH l m n c] w (BE (Fb f d e g h a i j k b l m n c).1 (Fb f d e g h a i j k b l m n c).2):=by
 have J:∀(C:Fn) (first D:Array AK) (w:AA),(Instr.makeFunc C first D).run prog w=.ok (.func C first D) w:=λ_ _ _ _=>rfl;have o:=zq (Xj w f d e g h a i j k b l m n c);obtain⟨R,u⟩:=zxe (Fb f d e g h a i j k b l m n c);have E:∀X,SP X w.heap.size f d e g h a i j k b l m n c->Calls prog 90 #[.pointer (some ⟨w.heap.size,0,none⟩),.pointer (some ⟨w.heap.size+1,0,none⟩),.pointer (some ⟨w.heap.size+2,0,none⟩),.pointer (some ⟨w.heap.size+3,0,none⟩),.pointer (some ⟨w.heap.size+4,0,none⟩)] X λx G=>(x=.returned (BE R.1 R.2)\/x=Aa (BE R.1 R.2))/\AD X.heap.size X G:=λX H=>by
  rw[<-u];exact YE w.heap.size f d e g h a i j k b l m n c X z A B H
 rw[u];obtain⟨p,q,r,s,t⟩:=R;have F:Hid (cB 73 #[.func (.func 90) #[] #[.pointer (some ⟨w.heap.size,0,none⟩),.pointer (some ⟨w.heap.size+1,0,none⟩),.pointer (some ⟨w.heap.size+1+1,0,none⟩),.pointer (some ⟨w.heap.size+1+1+1,0,none⟩),.pointer (some ⟨w.heap.size+1+1+1+1,0,none⟩)]] (QH w f d e g h a i j k b l m n c) (BA q p r s t)):=
  FT 90 _ (enters_of func90 (by kernel_rfl) rfl) q p r s t _ (λX I=>E X (o.1.next I))
 clear u E z A B;go_enter func33,ntmps33;go_wp2_with fail;refine cm F λK v=>?_;have y:=Ab (o.2.1.below v o.2.1.lt) (o.2.2.trans (v.mono o.2.2.size));clear v o F;go_wp2_with (refine sR y.1 q p r s t ?_);refine rR (A1 y.1 q p r s t) ?_;exact⟨rfl,AC y.2 (by omega) _⟩
theorem ig(S R f g:Int){M:Int}(h:Rt M S R)(o:Rt M f g):S=f/\R=g:=by
 obtain⟨e,i,j,p⟩:=h;obtain⟨k,l,m,r⟩:=o;have n:∀a b c d:Int,a*a+b=M->0<=a->0<=b->b<=2*a->c*c+d=M->0<=c->0<=d->¬a<c:=λa b c d t u v w y z A B=>by
  have q:=MT (show 0<=a+1 by omega) (show a+1<=c by omega);have x:(a+1)*(a+1)=a*a+2*a+1:=by grind
  omega
 have C:=n S R f g e i j p k l m;have D:=n f g S R k l m r e i j;have s:S=f:=by omega
 subst s;exact⟨rfl,by omega⟩
theorem TH(e:Int)(w:AA)(d:-100000<=e)(f:e<=100000):cE 134 #[.int .i64 e,.int .i64 2] w (.int .i64 (e/2)):=by
 obtain⟨q,l⟩:=zxe (Int.tdiv e 2);obtain⟨m,g⟩:=zxe (Int.tmod e 2);have i:q*2+m=e:=by rw[<-l,<-g];have:=Int.mul_tdiv_add_tmod e 2;omega
 have j:m<2:=by rw[<-g];exact Int.tmod_lt_of_pos e (by decide)
 have k:-2<m:=by rw[<-g];exact Int.lt_tmod_of_pos e (by decide)
 have a:(0<=e->0<=m)/\(e<0->m<=0):=by
  rw[<-g];refine⟨λh=>Int.tmod_nonneg 2 h,λh=>?_⟩;have n:=Int.tmod_nonneg 2 (show 0<=-e by omega);rw[Int.neg_tmod] at n;omega
 have r:=zw q (by omega);have s:=zw m (by omega);have t:=zw (q-1) (by omega);have b:Hid (e/2=if m<0 then q-1 else q):=by show _=_;split<;>omega
 rw[b];by_cases o:e<0
 ·by_cases c:m=0
  ·subst c;rw[zyn (by omega)];clear b i j k a d f;go_enter func134,ntmps134;go_wp2;go_ret;exact⟨rfl,rfl⟩
  ·have p:(m !=0)=true:=by simpa using c
   rw[zyp (by have:=a.2 o;omega)];clear b i j k a d f;go_enter func134,ntmps134;go_wp2;go_ret;exact⟨rfl,rfl⟩
 ·by_cases c:m=0
  ·subst c;rw[zyn (by omega)];clear b i j k a d f;go_enter func134,ntmps134;go_wp2;go_ret;exact⟨rfl,rfl⟩
  ·have p:(m !=0)=true:=by simpa using c
   rw[zyn (by have:=a.1 (by omega);omega)];clear b i j k a d f;go_enter func134,ntmps134;go_wp2;go_ret;exact⟨rfl,rfl⟩
theorem Vm(D:AG)(h:AJ D)(a:D≠[0]):AJ (D++[0])/\vl (D++[0])=vl D*10:=by
 refine⟨⟨λd b=>?_,by simp,.inr ?_⟩,?_⟩
 ·rcases List.mem_append.1 b with q|q
  ·exact h.1 d q
  ·rw[List.mem_singleton.1 q];decide
 ·rcases h.2.2 with q|q
  ·match D,q with
   |[x],_=>intro c;simp at c;exact a (by rw[c])
  ·cases D with
   |nil=>exact absurd h.2.1 (by simp)
   |cons x r=>simpa using q
 ·rw[Ho];show vl [0]+10^1*vl D=_
  rw[show vl [0]=0 from rfl];omega
theorem Ww(f o:Int)(h:Int)(i:Bool)(b:Int)(a:AB)(S:Int)(G:Bool)(w:AA)(C:a.size<=4611686018427387904)(hS:n6 f b a S G):
 cB 59 #[.int .i64 f,.int .i64 o,AH h i b a] w (BE (XN f o h i b a S G).1 (XN f o h i b a S G).2):=by
 have D:=zq hS;clear hS;have HS:=zq (lr w h i b a);have aR:Hid (∀(g:Nat) X,g<X.heap.size->EY X g 1 (λ_=>h) (λ_=>i) (λ_=>b) (λ_=>a)->cB 124 #[.int .i64 f,.int .i64 o,.slice (some ⟨g,0,none⟩) 1 1] X (.bool (BO f o 1 (λ_=>h) (λ_=>i) (λ_=>b) (λ_=>a)))):=λg X hg k=>
  DH f o 1 g (λ_=>h) (λ_=>i) (λ_=>b) (λ_=>a) X (by decide) hg k (λ_ _=>C)
 have az:Hid (∀(g:Nat) X,g<X.heap.size->EY X g 1 (λ_=>h) (λ_=>i) (λ_=>b) (λ_=>a)->cB 125 #[.slice (some ⟨g,0,none⟩) 1 1] X (.tuple #[BA 3 false 0 {data:=#[]} (DL 1 (λ_=>h)),.bool (GB 1 (λ_=>h))])):=λg X hg k=>BZ 1 g _ _ _ _ X (by decide) hg k;obtain⟨R,hR⟩:=zxe (XN f o h i b a S G);have H:=zq hR;rw[hR];clear hR C;have a8:=CK;go_enter func59,ntmps59;have aS:(lq w h i b a).heap.size=w.heap.size+1+1:=by simp
 have aB:=Bi (lq w h i b a) (AY h i b a);rw[aS] at aB;have aT:((lq w h i b a).alloc (AY h i b a)).heap.size=w.heap.size+1+1+1:=by simp
 have I:Hid (EY ((lq w h i b a).alloc (AY h i b a)) (w.heap.size+1+1) 1 (λ_=>h) (λ_=>i) (λ_=>b) (λ_=>a)/\w.heap.size+1+1<((lq w h i b a).alloc (AY h i b a)).heap.size):=⟨k7 aB,by rw[aT];omega⟩;clear aS aB aT;go_wp2_with fail;refine cm (aR (w.heap.size+1+1) _ I.2 I.1) λw1 af=>?_;have U:=zq ((HS.alloc _).next af);have ag:=Ab (I.1.below af I.2) (DU I.2 af.size);clear af I HS aR;cases hO:BO f o 1 (λ_=>h) (λ_=>i) (λ_=>b) (λ_=>a) with
 |false=>
  have j:Hid (R=(false,(0,0,{data:=#[]},0))):=by show _=_;rw[<-H];unfold XN GF;rw[hO];rfl
  have d:Hid (Z5 w1 (w.heap.size+1)/\AD w.heap.size w w1):=⟨U.2.1,U.2.2.1⟩;clear hO az U ag H;go_wp2_with (refine sR d.1 0 false 0 ⟨#[]⟩ 0 ?_);refine rR (A1 d.1 0 false 0 ⟨#[]⟩ 0) ?_;exact⟨by rw[j],AC d.2 (by omega) _⟩
 |true=>
  go_wp2_with fail;refine cm (az (w.heap.size+1+1) _ ag.2 ag.1) λw2 aV=>?_;have ah:=zq (U.next aV);clear aV ag U az a8;cases hB:GB 1 (λ_=>h) with
  |true=>
   have j:Hid (R=(false,(3,0,{data:=#[]},DL 1 (λ_=>h)))):=by show _=_;rw[<-H];unfold XN GF;rw[hO,hB];rfl
   clear hO hB H;generalize DL 1 (λ_=>h)=V at*
   have d:Hid (Z5 (w2.alloc (Ei 3 false 0 ⟨#[]⟩ V)) (w.heap.size+1)/\AD w.heap.size w (w2.alloc (Ei 3 false 0 ⟨#[]⟩ V))):=⟨(ah.out.alloc _).2.1,(ah.out.alloc _).2.2.1⟩;go_wp2_with (refine sR d.1 3 false 0 ⟨#[]⟩ V ?_);refine rR (A1 d.1 3 false 0 ⟨#[]⟩ V) ?_;exact⟨by rw[j],AC d.2 (by omega) _⟩
  |false=>
   have j:R=eD f o h i b a S G:=by rw[<-H];unfold XN GF;rw[hO,hB];rfl
   have a9:=U4 hO hB;have p:Hid (S1 w (w2.alloc (Ei 3 false 0 ⟨#[]⟩ (DL 1 (λ_=>h)))) h i b a):=ah.out.alloc _;generalize DL 1 (λ_=>h)=V at*
   clear hO hB H ah;obtain⟨J,k⟩:=a9;obtain⟨a0,a1,a2,a3,a4⟩:=p.1.cells;unfold eD at j;by_cases E:h=2
   ·subst E;have hz:zB 2 a=false:=rfl;cases i with
    |true=>
     rw[zyp ⟨rfl,hz⟩] at j;have W:=zq j;clear k J j hz D;go_wp2_with fail;refine cm (Aq _) λY l=>?_;have d:=zq (p.end l);clear l p;go_wp2_with (refine sR d.1 3 false 0 ⟨#[]⟩ 1 ?_);refine rR (A1 d.1 3 false 0 ⟨#[]⟩ 1) ?_;exact⟨by rw[W],AC d.2 (by omega) _⟩
    |false=>
     rw[zyn (λc=>by cases c.1),zyp rfl] at j;have W:=zq j;clear k J j hz D;go_wp2_with fail;refine cm (BG false _) λY l=>?_;have d:=zq (p.end l);clear l p;go_wp2_with (refine sR d.1 2 false 0 ⟨#[]⟩ 0 ?_);refine rR (A1 d.1 2 false 0 ⟨#[]⟩ 0) ?_;exact⟨by rw[W],AC d.2 (by omega) _⟩
   ·have ba:=k.2.2.1.resolve_right E;subst ba;rw[zyn E] at j;have bb:=k.z48;obtain⟨C,ai,K,-,aj,ak,al,am⟩:=k.tn rfl;obtain⟨s,L,-,-⟩:=k.2.2.2.1 rfl;have M:=k.2.1;have q:1<=AF f/\AF f<=34:=by rcases k.1 with rfl|rfl<;>decide
    have v:=zq λX=>TH b X (by omega) (by omega);obtain⟨RR,N,Z⟩:=D K;obtain⟨za,t⟩:=zxe (zB 1 a);rw[t] at bb j;cases za with
    |true=>
     rw[zyn (λc=>by cases c.2)] at j;have F:vl (dl a)=0:=by
      unfold zB at t;simpa using t
     have an:Hid (cA 122 #[.int .i64 f,.int .i64 o,.bool i,.string {data:=#[48]},.int .i64 (b/2),.bool false,.int .i64 (b/2)] (BE R.1 R.2)):=λX=>by
      have be:nt 0=[0]:=(BW [0] 0 Az rfl (by decide)).symm;have bf:=((Pj f k.1 (dl a) s L b S RR N).2.2.2.2.2.1 F).1;have hE:Al f o i (nt S) ((b-LI f b (dl a).length)/2) (!G) (b/2)=Al f o i [0] (b/2) false (b/2):=by
       rw[bf,be];unfold Al;rw[zyp rfl,zyp rfl]
      have:=Fa f o k.1 i [0] (b/2) false (b/2) X Az (by decide) (by omega) (by omega);rw[show tx [0]={data:=#[48]} by apply De;rw[AR];rfl] at this;rw[j,hE];dsimp only;exact this
     clear k J j t E F C ai K aj ak al am s L M q N Z D;generalize b/2=E2 at*
     obtain⟨x,y,z,A,B⟩:=R;go_wp2_with fail;refine(v _).mono ?_;rintro e wx ⟨rfl,rfl⟩;clear v;go_wp2_with fail;refine cm (an _) λY l=>?_;have d:=zq (p.end l);clear l p;go_wp2_with (refine sR d.1 y x z A B ?_);have q:=A1 d.1 y x z A B;refine rR q ?_;exact⟨rfl,AC d.2 (by omega) _⟩
    |false=>
     cases i with
     |true=>
      rw[zyp ⟨rfl,rfl⟩] at j;have W:=zq j;clear k J j t E C ai K aj ak al am s L M q N Z D;generalize b/2=E2 at*
      go_wp2_with fail;refine(v _).mono ?_;rintro e wx ⟨rfl,rfl⟩;clear v;go_wp2_with fail;refine cm (Aq _) λY l=>?_;have d:=zq (p.end l);clear l p;go_wp2_with (refine sR d.1 3 false 0 ⟨#[]⟩ 1 ?_);have q:=A1 d.1 3 false 0 ⟨#[]⟩ 1;refine rR q ?_;exact⟨by rw[W],AC d.2 (by omega) _⟩
     |false=>
      rw[zyn (λc=>by cases c.1)] at j;have F:vl (dl a)≠0:=by
       unfold zB at t;simpa using t
      have aF:dl a≠[0]:=λc=>F (by rw[c];rfl);obtain⟨m,aG⟩:∃n:Nat,n=(AF f).toNat*2+6+(b-2*(b/2)).toNat:=⟨_,rfl⟩;have m0:0<=vl (dl a)*10^m:=Int.mul_nonneg K (CP (AL _));obtain⟨u,r,e2,aI,aJ,aK⟩:=U7 (vl (dl a)*10^m).toNat;rw[show(((vl (dl a)*10^m).toNat:Nat):Int)=vl (dl a)*10^m by omega] at e2;have aq:Rt (vl (dl a)*10^m) u r:=⟨e2,aI,aJ,aK⟩;obtain⟨aL,N2,N3⟩:=iy f o k.1 false (dl a) s L F b S RR u r N m aG aq;have aN:=AZ (dl a) s.1;have O:Bp (vl (dl a)*10^m):=by
       refine⟨m0,?_⟩;have:=Int.mul_lt_mul_of_pos_right aN.2 (AL m);rw[<-Cv] at this;exact FS this (AI _ _ (by omega))
      have au:=zq λX=>Ag f X;have av:Hid (cA 135 #[.string (tn (vl (dl a)*10^m))] (.tuple #[.string (tn u),.string (tn r)])):=λX=>by
       refine(Qu (nt (vl (dl a)*10^m)) X (Ae O).1 (by have:=Cm O;omega)).mono ?_;rintro e w' ⟨Q,T,rfl,hQ,hT,hv,bh,lQ,lT,hb⟩;rw[(Ae O).2] at hv;obtain⟨q1,q2⟩:=ig (vl Q) (vl T) u r ⟨hv,(AZ Q hQ.1).1,(AZ T hT.1).1,bh⟩ aq;have:=Cm O;exact⟨by rw[BW Q u hQ q1 (by omega),BW T r hT q2 (by omega)];rfl,hb⟩
      obtain⟨aO,aw⟩:=zxe (decide (r=0));have bD:((tn r).toList==[48])=aO:=by
       rw[<-aw];by_cases c:r=0
       ·rw[c,T7];rfl
       ·rw[J6 N3 c,By c]
      have an:Hid (cA 122 #[.int .i64 f,.int .i64 o,.bool false,.string (tn u),.int .i64 (b/2-(AF f+3)),.bool (!aO),.int .i64 (b/2)] (BE R.1 R.2)):=λX=>by
       have:=Fa f o k.1 false (nt u) (b/2-(AF f+3)) (!aO) (b/2) X (Ae N2).1 (Cm N2) (by omega) (by omega);rw[j,<-Z,<-aL,aw];dsimp only;exact this
      have bE:=zw (2*(b/2)) (by omega);have bF:=zw (AF f+3) (by omega);have bG:=zw (2*(AF f+3)) (by omega);have bH:=zw (b/2-(AF f+3)) (by omega);by_cases ax:b=2*(b/2)
      ·have aa:Hid (cA 133 #[.string a,.int .i64 (2*(AF f+3))] (.string (tn (vl (dl a)*10^m)))):=λX=>by
        have:=Ec (dl a) (2*(AF f+3)) X s (by omega) (by omega) (.inr (by omega));rw[<-M,show(2*(AF f+3)).toNat=m by omega] at this;exact this
       have bm:(b==2*(b/2))=true:=by rw[<-ax];exact beq_self_eq_true _
       clear k J j t E F aF C ai K aj ak al am s L M q N Z D aG m0 e2 aI aJ aK aq aL O N2 N3 aN aw ax;generalize tn (vl (dl a)*10^m)=TM at*
       generalize tn u=TS at*
       generalize tn r=TR at*
       generalize b/2=E2 at*
       generalize AF f=P at*
       generalize AV f=L0 at*
       generalize Ad f=H0 at*
       obtain⟨x,y,z,A,B⟩:=R;go_wp2_with fail;refine(v _).mono ?_;rintro e wx ⟨rfl,rfl⟩;clear v;go_wp2_with fail;refine(au _).mono ?_;rintro e wx ⟨rfl,rfl⟩;clear au;go_wp2_with fail;refine cm (aa _) λbt ab=>?_;have ac:=zq (p.next ab);clear ab p aa a0 a1 a2 a3 a4;go_wp2_with fail;refine cm (av _) λbu ad=>?_;have ae:=zq (ac.next ad);clear ad ac av;go_wp2_with fail;refine cm (an _) λY l=>?_;have d:=zq (ae.end l);clear l ae;go_wp2_with (refine sR d.1 y x z A B ?_);have q:=A1 d.1 y x z A B;refine rR q ?_;exact⟨rfl,AC d.2 (by omega) _⟩
      ·obtain⟨ct,vt⟩:=Vm (dl a) s aF;have aa:Hid (cA 133 #[.string (tx (dl a++[0])),.int .i64 (2*(AF f+3))] (.string (tn (vl (dl a)*10^m)))):=λX=>by
        have:=Ec (dl a++[0]) (2*(AF f+3)) X ct (by simp;omega) (by omega) (.inr (by omega));rw[vt] at this;have e3:vl (dl a)*10*10^(2*(AF f+3)).toNat=vl (dl a)*10^m:=by
         rw[Int.mul_assoc,<-Int.pow_succ',show(2*(AF f+3)).toNat+1=m by omega]
        rw[e3] at this;exact this
       have bm:(b==2*(b/2))=false:=beq_eq_false_iff_ne.2 ax;have bI:a++{data:=#[48]}=tx (dl a++[0]):=by
        have:=JX (dl a);rw[<-M] at this;exact this
       have s1:(a.size:Int)<=8388608:=by omega
       clear k J j t E F aF C ai K aj ak al am s L M q N Z D aG m0 e2 aI aJ aK aq aL O N2 N3 aN aw ax ct vt;generalize tx (dl a++[0])=T0 at*
       generalize tn (vl (dl a)*10^m)=TM at*
       generalize tn u=TS at*
       generalize tn r=TR at*
       generalize b/2=E2 at*
       generalize AF f=P at*
       generalize AV f=L0 at*
       generalize Ad f=H0 at*
       obtain⟨x,y,z,A,B⟩:=R;go_wp2_with fail;refine(v _).mono ?_;rintro e wx ⟨rfl,rfl⟩;clear v;go_wp2_with fail;refine ce (au _) ?_;clear au;go_wp2_with fail;refine cm (aa _) λbt ab=>?_;have ac:=zq (p.next ab);clear ab p aa a0 a1 a2 a3 a4;go_wp2_with fail;refine cm (av _) λbu ad=>?_;have ae:=zq (ac.next ad);clear ad ac av;go_wp2_with fail;refine cm (an _) λY l=>?_;have d:=zq (ae.end l);clear l ae;go_wp2_with (refine sR d.1 y x z A B ?_);refine rR (A1 d.1 y x z A B) ?_;exact⟨rfl,AC d.2 (by omega) _⟩
end Go.Proofs.YteofommckgeemaaGreatDoor
