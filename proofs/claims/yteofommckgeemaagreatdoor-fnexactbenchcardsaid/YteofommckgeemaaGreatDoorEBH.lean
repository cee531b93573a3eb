/- Steps. -/
import Derived.Test.YteofommckgeemaaGreatDoorEBF
namespace Go.Proofs.YteofommckgeemaaGreatDoor
open Go.RowKit Go.Proofs.Tryz
set_option linter.unusedVariables false
set_option maxRecDepth 100000
set_option maxHeartbeats 8000000
theorem WG(a b:AG)(w:AA)(d:AJ a)(c:AJ b)(k:a.length<=200)(l:b.length<=200)(m:vl b≠0):
 cB 132 #[.string (tx a),.string (tx b)] w (.tuple #[.string (tx (nt (vl a/vl b))),.string (tx (nt (vl a%vl b)))]):=by
 have n:=(AZ b c.1).1;refine(S8 a b w d c (by omega) (by omega) (by omega)).mono ?_;rintro e o ⟨Q,R,rfl,f,g,h,i,p,q,j⟩;exact⟨by rw[BW Q _ f h (by omega),BW R _ g i (by omega)],j⟩
theorem Nz.z48{f e:Int}{s:AB}(h:Nz f 1 e s):(s.toList==[48])=zB 1 s:=by
 obtain⟨a,-⟩:=h.2.2.2.1 rfl;have b:=h.2.1;unfold zB;rw[Bz (rfl:(1:Int)=1),Bool.true_and];by_cases c:vl (dl s)=0
 ·rw[Bz c,b,Bg (dl s) a c,Fv];rfl
 ·rw[By c,b];exact Bo (dl s) a.1 (λq=>c (by rw[q];rfl))
theorem Z6(f v:Int)(m:Int)(q:Bool)(h:Int)(a:AB)(l:Int)(r:Bool)(j:Int)(b:AB)(w:AA)(Z:a.size<=4611686018427387904)(aa:b.size<=4611686018427387904):
 cB 57 #[.int .i64 f,.int .i64 v,AH m q h a,AH l r j b] w (BE (XH f v m q h a l r j b).1 (XH f v m q h a l r j b).2):=by
 have HS:=zq (BP w m q h a l r j b);have aP:Hid (∀(g:Nat) X,g<X.heap.size->EY X g 2 (AX m l) (AX q r) (AX h j) (AX a b)->cB 124 #[.int .i64 f,.int .i64 v,.slice (some ⟨g,0,none⟩) 2 2] X (.bool (BO f v 2 (AX m l) (AX q r) (AX h j) (AX a b)))):=λg X hg t=>
  DH f v 2 g (AX m l) (AX q r) (AX h j) (AX a b) X (by decide) hg t (λi hi=>by match i,hi with
   |0,_=>exact Z
   |1,_=>exact aa)
 have ay:Hid (∀(g:Nat) X,g<X.heap.size->EY X g 2 (AX m l) (AX q r) (AX h j) (AX a b)->cB 125 #[.slice (some ⟨g,0,none⟩) 2 2] X (.tuple #[BA 3 false 0 {data:=#[]} (DL 2 (AX m l)),.bool (GB 2 (AX m l))])):=λg X hg t=>BZ 2 g _ _ _ _ X (by decide) hg t;obtain⟨R,hR⟩:=zxe (XH f v m q h a l r j b);have U:=zq hR;rw[hR];clear hR Z aa;have bg:=CK;go_enter func57,ntmps57;have aQ:(EW w m q h a l r j b).heap.size=w.heap.size+1+1+1:=by simp
 have aA:=Bi (EW w m q h a l r j b) (.cells #[.int .i64 m,.bool q,.int .i64 h,.string a,.int .i64 l,.bool r,.int .i64 j,.string b] 78);rw[aQ] at aA;have aR:((EW w m q h a l r j b).alloc (.cells #[.int .i64 m,.bool q,.int .i64 h,.string a,.int .i64 l,.bool r,.int .i64 j,.string b] 78)).heap.size=w.heap.size+1+1+1+1:=by simp
 have V:Hid (EY ((EW w m q h a l r j b).alloc (.cells #[.int .i64 m,.bool q,.int .i64 h,.string a,.int .i64 l,.bool r,.int .i64 j,.string b] 78)) (w.heap.size+1+1+1) 2 (AX m l) (AX q r) (AX h j) (AX a b)/\w.heap.size+1+1+1<((EW w m q h a l r j b).alloc (.cells #[.int .i64 m,.bool q,.int .i64 h,.string a,.int .i64 l,.bool r,.int .i64 j,.string b] 78)).heap.size):=⟨We aA,by rw[aR];omega⟩;clear aQ aA aR;go_wp2_with fail;refine cm (aP (w.heap.size+1+1+1) _ V.2 V.1) λw1 aj=>?_;have ab:=zq ((HS.alloc _).next aj);have ak:=Ab (V.1.below aj V.2) (DU V.2 aj.size);clear aj V HS aP;cases hO:BO f v 2 (AX m l) (AX q r) (AX h j) (AX a b) with
 |false=>
  have n:Hid (R=(false,(0,0,{data:=#[]},0))):=by show _=_;rw[<-U];unfold XH GF;rw[hO];rfl
  have d:Hid (Z5 w1 (w.heap.size+2)/\AD w.heap.size w w1):=⟨ab.2.2.1,ab.2.2.2.1⟩;clear hO ay ab ak U;go_wp2_with (refine sR d.1 0 false 0 ⟨#[]⟩ 0 ?_);refine rR (A1 d.1 0 false 0 ⟨#[]⟩ 0) ?_;exact⟨by rw[n],AC d.2 (by omega) _⟩
 |true=>
  go_wp2_with fail;refine cm (ay (w.heap.size+1+1+1) _ ak.2 ak.1) λw2 aT=>?_;have am:=zq (ab.next aT);clear aT ak ab ay bg;cases u:GB 2 (AX m l) with
  |true=>
   have n:Hid (R=(false,(3,0,{data:=#[]},DL 2 (AX m l)))):=by show _=_;rw[<-U];unfold XH GF;rw[hO,u];rfl
   clear hO u U;generalize DL 2 (AX m l)=W at*
   have d:Hid (Z5 (w2.alloc (Ei 3 false 0 ⟨#[]⟩ W)) (w.heap.size+2)/\AD w.heap.size w (w2.alloc (Ei 3 false 0 ⟨#[]⟩ W))):=⟨(am.out.alloc _).2.2.1,(am.out.alloc _).2.2.2.1⟩;go_wp2_with (refine sR d.1 3 false 0 ⟨#[]⟩ W ?_);refine rR (A1 d.1 3 false 0 ⟨#[]⟩ W) ?_;exact⟨by rw[n],AC d.2 (by omega) _⟩
  |false=>
   have n:R=Pw f v m q h a l r j b:=by rw[<-U];unfold XH GF;rw[hO,u];rfl
   have bh:=LE hO u;have s:Hid (SU w (w2.alloc (Ei 3 false 0 ⟨#[]⟩ (DL 2 (AX m l)))) m q h a l r j b):=am.out.alloc _;generalize DL 2 (AX m l)=W at*
   clear hO u U am;obtain⟨T,t,x⟩:=bh;obtain⟨H,I,J,K,L⟩:=s.a4.cells;obtain⟨M,N,O,Q,S⟩:=s.b4.cells;obtain⟨p,bi⟩:=zxe (!(q==r));have D:=zq λX=>Ag f X;unfold Pw at n;rw[bi] at n;by_cases y:m=2
   ·subst y;have z:zB 2 a=false:=rfl;by_cases u:l=2
    ·rw[zyp (.inl ⟨rfl,u⟩)] at n;have E:=zq n;subst u;clear t x T n z;generalize AF f=P at*
     generalize AV f=A at*
     generalize Ad f=Y at*
     go_wp2_with fail;refine(D _).mono ?_;rintro e B ⟨rfl,rfl⟩;go_wp2_with fail;refine cm (Aq _) λF o=>?_;have d:=zq (s.end o);clear o s H I J K L M N O Q S;go_wp2_with (refine sR d.1 3 false 0 ⟨#[]⟩ 1 ?_);refine rR (A1 d.1 3 false 0 ⟨#[]⟩ 1) ?_;exact⟨by rw[E],AC d.2 (by omega) _⟩
    ·have aB:=x.2.2.1.resolve_right u;subst aB;rw[zyn (by rintro(c|c);exact u c.2;rw[z] at c;cases c.1),zyp rfl] at n;have E:=zq n;have aU:=x.z48;generalize zB 1 b=zb at*
     clear t x T n z u;generalize AF f=P at*
     generalize AV f=A at*
     generalize Ad f=Y at*
     cases zb with
     |true=>
      go_wp2_with fail;refine(D _).mono ?_;rintro e B ⟨rfl,rfl⟩;go_wp2_with fail;refine cm (BG p _) λF o=>?_;have d:=zq (s.end o);clear o s H I J K L M N O Q S;go_wp2_with (refine sR d.1 2 p 0 ⟨#[]⟩ 0 ?_);refine rR (A1 d.1 2 p 0 ⟨#[]⟩ 0) ?_;exact⟨by rw[E],AC d.2 (by omega) _⟩
     |false=>
      go_wp2_with fail;refine(D _).mono ?_;rintro e B ⟨rfl,rfl⟩;go_wp2_with fail;refine cm (BG p _) λF o=>?_;have d:=zq (s.end o);clear o s H I J K L M N O Q S;go_wp2_with (refine sR d.1 2 p 0 ⟨#[]⟩ 0 ?_);refine rR (A1 d.1 2 p 0 ⟨#[]⟩ 0) ?_;exact⟨by rw[E],AC d.2 (by omega) _⟩
   ·have bj:=t.2.2.1.resolve_right y;subst bj;have bk:=t.z48;by_cases u:l=2
    ·subst u;have G:zB 2 b=false:=rfl;rw[zyn (by rintro(c|c);exact y c.1;rw[G] at c;cases c.2),zyn y,zyp rfl] at n;have E:=zq n;generalize zB 1 a=za at*
     clear t x T n G y;generalize AF f=P at*
     generalize AV f=A at*
     generalize Ad f=Y at*
     have bC:=AT 1 p A {data:=#[48]};cases za with
     |true=>
      go_wp2_with fail;refine(D _).mono ?_;rintro e B ⟨rfl,rfl⟩;go_wp2_with fail;refine cm (Aj p {data:=#[48]} A _) λF o=>?_;have d:=zq (s.end o);clear o s H I J K L M N O Q S;go_wp2_with (refine sR d.1 1 p A {data:=#[48]} 0 ?_);refine rR (A1 d.1 1 p A {data:=#[48]} 0) ?_;exact⟨by rw[E],AC d.2 (by omega) _⟩
     |false=>
      go_wp2_with fail;refine(D _).mono ?_;rintro e B ⟨rfl,rfl⟩;go_wp2_with fail;refine cm (Aj p {data:=#[48]} A _) λF o=>?_;have d:=zq (s.end o);clear o s H I J K L M N O Q S;go_wp2_with (refine sR d.1 1 p A {data:=#[48]} 0 ?_);refine rR (A1 d.1 1 p A {data:=#[48]} 0) ?_;exact⟨by rw[E],AC d.2 (by omega) _⟩
    ·have aB:=x.2.2.1.resolve_right u;subst aB;have aU:=x.z48;obtain⟨za,z⟩:=zxe (zB 1 a);obtain⟨zb,G⟩:=zxe (zB 1 b);rw[z] at bk n;rw[G] at aU n;cases zb with
     |true=>
      cases za with
      |true=>
       rw[zyp (.inr ⟨rfl,rfl⟩)] at n;have E:=zq n;clear t x T n z G y u;generalize AF f=P at*
       generalize AV f=A at*
       generalize Ad f=Y at*
       go_wp2_with fail;refine(D _).mono ?_;rintro e B ⟨rfl,rfl⟩;go_wp2_with fail;refine cm (Aq _) λF o=>?_;have d:=zq (s.end o);clear o s H I J K L M N O Q S;go_wp2_with (refine sR d.1 3 false 0 ⟨#[]⟩ 1 ?_);refine rR (A1 d.1 3 false 0 ⟨#[]⟩ 1) ?_;exact⟨by rw[E],AC d.2 (by omega) _⟩
      |false=>
       rw[zyn (by rintro(c|c);exact y c.1;cases c.1),zyn y,zyn u,zyp rfl] at n;have E:=zq n;clear t x T n z G y u;generalize AF f=P at*
       generalize AV f=A at*
       generalize Ad f=Y at*
       go_wp2_with fail;refine(D _).mono ?_;rintro e B ⟨rfl,rfl⟩;go_wp2_with fail;refine cm (BG p _) λF o=>?_;have d:Hid (Z5 (F.alloc (Ei 2 p 0 ⟨#[]⟩ 2)) (w.heap.size+2)/\AD w.heap.size w (F.alloc (Ei 2 p 0 ⟨#[]⟩ 2))):=(s.out.next o).end bA;clear o s H I J K L M N O Q S;go_wp2_with (refine sR d.1 2 p 0 ⟨#[]⟩ 2 ?_);refine rR (A1 d.1 2 p 0 ⟨#[]⟩ 2) ?_;exact⟨by rw[E],AC d.2 (by omega) _⟩
     |false=>
      rw[zyn (by rintro(c|c);exact y c.1;cases c.2),zyn y,zyn u,zyn (by decide)] at n;have ao:vl (dl b)≠0:=by
       unfold zB at G;simpa using G
      obtain⟨Z,aV,aW,-,aX,aY,aZ,a0⟩:=t.tn rfl;obtain⟨aa,a1,a2,-,a3,a5,a6,a7⟩:=x.tn rfl;obtain⟨ca,aD,-,-⟩:=t.2.2.2.1 rfl;obtain⟨cb,aE,-,-⟩:=x.2.2.2.1 rfl;have aF:=t.2.1;have aG:=x.2.1;have hP:1<=AF f/\AF f<=34:=by rcases t.1 with rfl|rfl<;>decide
      have bD:=zw (h-j) (by omega);cases za with
      |true=>
       have ac:vl (dl a)=0:=by
        unfold zB at z;simpa using z
       have au:Hid (cA 122 #[.int .i64 f,.int .i64 v,.bool p,.string {data:=#[48]},.int .i64 (h-j),.bool false,.int .i64 (h-j)] (BE R.1 R.2)):=λX=>by
        have bm:nt 0=[0]:=(BW [0] 0 Az rfl (by decide)).symm;have hE:Al f v p (nt (vl (dl a)*10^Jd f (dl a).length (dl b).length/vl (dl b))) (h-j-Jd f (dl a).length (dl b).length) (!decide (vl (dl a)*10^Jd f (dl a).length (dl b).length%vl (dl b)=0)) (h-j)=Al f v p [0] (h-j) false (h-j):=by
         rw[ac,Int.zero_mul,Int.zero_ediv,bm];unfold Al;rw[zyp rfl,zyp rfl]
        have:=Fa f v t.1 p [0] (h-j) false (h-j) X Az (by decide) (by omega) (by omega);rw[show tx [0]={data:=#[48]} by apply De;rw[AR];rfl] at this;rw[n,hE];dsimp only;exact this
       clear t x T n z G y u ao ac Z aV aW aX aY aZ a0 aa a1 a2 a3 a5 a6 a7 ca aD cb aE aF aG hP;generalize AF f=P at*
       generalize AV f=A at*
       generalize Ad f=Y at*
       obtain⟨R0,F1,F2,F3,F4⟩:=R;go_wp2_with fail;refine(D _).mono ?_;rintro e B ⟨rfl,rfl⟩;go_wp2_with fail;refine cm (au _) λF o=>?_;have d:=zq (s.end o);clear o s H I J K L M N O Q S;go_wp2_with (refine sR d.1 F1 R0 F2 F3 F4 ?_);have hP:=A1 d.1 F1 R0 F2 F3 F4;refine rR hP ?_;exact⟨rfl,AC d.2 (by omega) _⟩
      |false=>
       have ac:vl (dl a)≠0:=by
        unfold zB at z;simpa using z
       obtain⟨aH,N1,N2,N3⟩:=fo f v t.1 p (dl a) (dl b) ca cb aD aE ao ac (h-j);obtain⟨k,hk⟩:=zxe (Jd f (dl a).length (dl b).length+2);have bp:(k:Int)=AF f+3+b.size-a.size:=by rw[<-hk];unfold Jd;omega
       rw[hk] at aH N1 N2 N3;have a8:Hid (cA 133 #[.string a,.int .i64 k] (.string (tn (vl (dl a)*10^k)))):=λX=>by
        have:=Ec (dl a) k X ca (by omega) (by omega) (.inr (by omega));rw[<-aF,show((k:Int)).toNat=k by omega] at this;exact this
       have a9:Hid (cA 132 #[.string (tn (vl (dl a)*10^k)),.string b] (.tuple #[.string (tn (vl (dl a)*10^k/vl (dl b))),.string (tn (vl (dl a)*10^k%vl (dl b)))])):=λX=>by
        have:=WG (nt (vl (dl a)*10^k)) (dl b) X (Ae N1).1 cb (Cm N1) (by omega) ao;rw[(Ae N1).2,<-aG] at this;exact this
       obtain⟨zz,aL⟩:=zxe (decide (vl (dl a)*10^k%vl (dl b)=0));have bE:((tn (vl (dl a)*10^k%vl (dl b))).toList==[48])=zz:=by
        rw[<-aL];by_cases c:vl (dl a)*10^k%vl (dl b)=0
        ·rw[c,T7];rfl
        ·rw[J6 N3 c,By c]
       have au:Hid (cA 122 #[.int .i64 f,.int .i64 v,.bool p,.string (tn (vl (dl a)*10^k/vl (dl b))),.int .i64 (h-j-k),.bool (!zz),.int .i64 (h-j)] (BE R.1 R.2)):=λX=>by
        have:=Fa f v t.1 p (nt (vl (dl a)*10^k/vl (dl b))) (h-j-k) (!zz) (h-j) X (Ae N2).1 (Cm N2) (by omega) (by omega);rw[n,<-aH,aL];dsimp only;exact this
       have bq:=zw (AF f+3) (by omega);have br:IntKind.i64.wrap (AF f+3+(b.size:Int))=AF f+3+b.size:=Dn (by omega);have bs:IntKind.i64.wrap (AF f+3+(b.size:Int)-(a.size:Int))=(k:Int):=Dn (by omega);have bF:IntKind.i64.wrap (h-j-(k:Int))=h-j-k:=Dn (by omega);have ba:Hid (cF 131 #[.int .i64 0,.int .i64 k] (.int .i64 k)):=λX=>by
        have:=I1 0 k X;rwa[show max (0:Int) k=k by omega] at this
       clear t x T n z G y u ao ac Z aV aW aX aY aZ a0 aa a1 a2 a3 a5 a6 a7 ca aD cb aE aF aG hP aH N1 N2 N3 hk bp aL;generalize tn (vl (dl a)*10^k/vl (dl b))=bG at*
       generalize tn (vl (dl a)*10^k%vl (dl b))=bH at*
       generalize tn (vl (dl a)*10^k)=bI at*
       generalize (k:Int)=K1 at*
       generalize AF f=P at*
       generalize AV f=A at*
       generalize Ad f=Y at*
       obtain⟨R0,F1,F2,F3,F4⟩:=R;go_wp2_with fail;refine(D _).mono ?_;rintro e B ⟨rfl,rfl⟩;go_wp2_with fail;refine(D _).mono ?_;rintro e B ⟨rfl,rfl⟩;go_wp2_with fail;refine(ba _).mono ?_;rintro e B ⟨rfl,rfl⟩;clear ba D bq br bs;go_upto_region 28 with fail;generalize w2.alloc (Ei 3 false 0 ⟨#[]⟩ W)=w3 at*
       have bb:=dR w3;refine AP (C:=AD w3.heap.size w3) bb ?_;repeat (go_big_quiet_step ((intro hC;rename_i B;first|exact rfl|((with_reducible refine Calls.class_of (a8.out B) ?_);exactλw' hb=>BQ hC hb)|((with_reducible refine Calls.class_of (a9.out B) ?_);exactλw' hb=>BQ hC hb)|(obtain⟨g0,g1,g2,g3,g4⟩:=(s.out.next hC).a4.cells;go_simp;exact rfl)|(obtain⟨g0,g1,g2,g3,g4⟩:=(s.out.next hC).b4.cells;go_simp;exact rfl))))
       refine wpQuiet_nil ?_;intro w5 bc;have be:=zq (s.next bc);clear bc s bb a8 a9 H I J K L M N O Q S;go_wp2_with fail;refine cm (au _) λF o=>?_;have d:=zq (be.end o);clear o be au;go_wp2_with (refine sR d.1 F1 R0 F2 F3 F4 ?_);refine rR (A1 d.1 F1 R0 F2 F3 F4) ?_;exact⟨rfl,AC d.2 (by omega) _⟩
end Go.Proofs.YteofommckgeemaaGreatDoor
