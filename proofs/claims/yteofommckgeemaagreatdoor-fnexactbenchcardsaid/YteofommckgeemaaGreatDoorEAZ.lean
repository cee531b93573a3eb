/- Steps. -/
import Derived.Test.YteofommckgeemaaGreatDoorEAU
namespace Go.Proofs.YteofommckgeemaaGreatDoor
open Go.RowKit Go.Proofs.Tryz
set_option linter.unusedVariables false
set_option maxRecDepth 100000
set_option maxHeartbeats 8000000
theorem Qw(f L:Int)(HF:Et f L)(W:Int)(Y:Bool)(k:Int)(i:AG)(Z:Int)(nb:Bool)(l:Int)(j:AG)(N:Int)(q:Bool)(a:Int)(b:AG)(O:Int)(m:Bool)(c:Int)(d:AG)(M:Int)(w:AA)
 (hM:min k l=M) (P:AJ i) (Q:i≠[0]) (S:AJ j) (T:j≠[0]) (la:i.length<=100) (lb:j.length<=100) (ha:-13000<=k/\k<=13000) (hb:-13000<=l/\l<=13000)
 (hs:((i.length:Int)+k<(j.length:Int)+l/\N=Z/\q=nb/\a=l/\b=j/\O=W/\m=Y/\c=k/\d=i)\/(¬(i.length:Int)+k<(j.length:Int)+l/\N=W/\q=Y/\a=k/\b=i/\O=Z/\m=nb/\c=l/\d=j)) (bE:¬180<(b.length:Int)+a-M) (hn:q≠m) (aQ:vl b*10^(a-M).toNat<vl d*10^(c-M).toNat):
 cB 191 #[.int .i64 f,.int .i64 L,AH W Y k (tx i),AH Z nb l (tx j)] w (BE m (Al f L m (nt (vl d*10^(c-M).toNat-vl b*10^(a-M).toNat)) M false M)):=by
 have HM:=zq hM;have HS:=zq (BP w N q a (tx b) O m c (tx d));have aS:=Bo i P.1 Q;have aT:=Bo j S.1 T;have aU:=AE i;have aV:=AE j;have aW:=zw ((i.length:Int)+k) (by omega);have aX:=zw ((j.length:Int)+l) (by omega);have A:=zq hs;have g1:AJ b/\b≠[0]/\b.length<=100/\(-13000<=a/\a<=13000)/\AJ d/\d≠[0]/\d.length<=100/\(-13000<=c/\c<=13000)/\M=min a c:=by
  rcases hs with⟨-,-,-,rfl,rfl,-,-,rfl,rfl⟩|⟨-,-,-,rfl,rfl,-,-,rfl,rfl⟩
  ·exact⟨S,T,lb,hb,P,Q,la,ha,by omega⟩
  ·exact⟨P,Q,la,ha,S,T,lb,hb,by omega⟩
 have HC:=zq g1;obtain⟨c1,z1,l1,x1,c2,z2,l2,x2,hm⟩:=g1;obtain⟨au,av⟩:M<=a/\M<=c:=by omega
 have aw:(d.length:Int)+c-M<=180:=by
  rcases A.out with⟨h,-,-,rfl,rfl,-,-,rfl,rfl⟩|⟨h,-,-,rfl,rfl,-,-,rfl,rfl⟩<;>omega
 obtain⟨ax,a1,ay,az⟩:=Ee b a M c1 au (by omega);obtain⟨aA,a2,aB,aC⟩:=Ee d c M c2 av aw;have a3:=Int.pow_succ 10 180;have a5:(0:Int)<10^180:=Int.pow_pos (by decide);have bI:=AE b;have wA:=zw ((b.length:Int)+a) (by omega);have wB:=zw ((b.length:Int)+a-M) (by omega);have wC:=zw (a-M) (by omega);have wD:=zw (c-M) (by omega);have H1:Hid (cA 133 #[.string (tx b),.int .i64 (a-M)] (.string (tx (nt (vl b*10^(a-M).toNat))))):=λX=>by
  have B:=BS b (a-M).toNat X c1 (by omega) ay;rw[<-az] at B;refine B.mono ?_;rintro e w' ⟨R,C,D,-,E⟩;rw[D] at C;exact⟨C,E⟩
 have H2:Hid (cA 133 #[.string (tx d),.int .i64 (c-M)] (.string (tx (nt (vl d*10^(c-M).toNat))))):=λX=>by
  have B:=BS d (c-M).toNat X c2 (by omega) aB;rw[<-aC] at B;refine B.mono ?_;rintro e w' ⟨R,C,D,-,E⟩;rw[D] at C;exact⟨C,E⟩
 have MB:-13000<=M/\M<=13000:=by omega
 clear hs P Q S T hm hM au av aw ay az aB aC la lb ha hb z1 z2 l2 HC;generalize hX:vl b*10^(a-M).toNat=x at*
 generalize hY:vl d*10^(c-M).toNat=y at*
 clear hX hY;obtain⟨cX,U,lX⟩:=C1 x ax (by omega);obtain⟨cY,V,lY⟩:=C1 y aA (by omega);have G:Hid (cA 193 #[.string (tx (nt x)),.string (tx (nt y))] (.int .i64 (Ay x y))):=λX=>by
  have:=DG (nt x) (nt y) X cX cY (by omega) (by omega);rw[U,V] at this;exact this
 have HN:=zq hn;clear hn;have EC:Hid (Ay x y=(-1)):=by show _=_;unfold Ay;rw[zyp (by omega)]
 rw[EC] at G;have aH:Hid (cA 138 #[.string (tx (nt y)),.string (tx (nt x))] (.string (tx (nt (y-x))))):=λX=>by
  refine(Cn (nt y) (nt x) X cY cX (by omega) (by rw[U,V];omega)).mono ?_;rintro e w' ⟨R,rfl,D,vR,lR,E⟩;rw[BW R (y-x) D (by rw[vR,U,V]) (by omega)];exact⟨rfl,E⟩
 obtain⟨cZ,vZ,lZ⟩:=C1 (y-x) (by omega) (by omega);have HX:=zq λX=>HF m _ M false M X cZ (by omega) (by omega) (by omega);clear aQ cZ vZ lZ;clear HF cX U lX cY V lY ax a1 aA a2 a3 a5;generalize Al f L m (nt (y-x)) M false M=F at*
 obtain⟨F1,F2,F3,F4⟩:=F;generalize tx (nt (y-x))=TZ at*
 generalize tx (nt x)=TX at*
 generalize tx (nt y)=TY at*
 go_enter func191,ntmps191;go_wp2_with fail;refine ce (C0 k l _) ?_;rw[HM];go_upto_if 80 with fail;go_cut [81,82] (λx y wx=>wx=EW w N q a (tx b) O m c (tx d));case first=>
  rcases A.out with⟨bg,rfl,rfl,rfl,rfl,rfl,rfl,rfl,rfl⟩|⟨bg,rfl,rfl,rfl,rfl,rfl,rfl,rfl,rfl⟩
  ·clear A;go_wp2;go_meet;case rel=>rfl
  ·clear A;go_wp2;go_meet;case rel=>rfl
 case rest=>
  obtain rfl:=hcut;clear A aS aT aU aV aW aX;clear c1 c2;generalize tx b=T1 at*
  generalize tx d=T2 at*
  go_wp2_with fail;refine cm (H1 _) λw2 aO=>?_;have am:=zq (HS.next aO);obtain⟨⟨r,s,t⟩,u,v,z⟩:=am.cells;clear aO HS H1;go_wp2_with fail;refine cm (H2 _) λw3 aP=>?_;have n:=zq (am.next aP);clear r s t u v z;obtain⟨⟨r,s,t⟩,u,v,z⟩:=n.cells;clear aP am H2;cases q<;>cases m
  ·exact absurd rfl HN
  ·go_wp2_with fail;refine cm (G _) λw5 H=>?_;have o:=zq (n.next H);clear r s t u v z;obtain⟨⟨r,s,t⟩,u,v,z⟩:=o.cells;clear H n G;have n:=o;clear o;go_wp2_with fail;go_region_with (first
    |(go_at_call 138;refine cm (aH _) λw4 I=>?_;have J:=zq (n.drew.next I);clear I;obtain⟨⟨y1,y2,y3⟩,z1,z2,z3⟩:=J.cells)
    |(go_at_call 122;refine cm (HX _) λwd K=>?_;have p:=zq (Ar J K);clear K;obtain⟨p0,p1,p2,p3,p4,g⟩:=p.1.cells;have f0:=g 0;have f1:=g 1;have f2:=g 2;have f3:=g 3;have f4:=g 4;clear g))
   all_goals
    go_wp2;refine rR ((p.1.put (.int .i64 F1) (.bool true) (.int .i64 F2) (.string F3) (.int .i64 F4)).cells) ?_;exact⟨rfl,Ez p.2 (by omega) _ _ _ _ _⟩
  ·go_wp2_with fail;refine cm (G _) λw5 H=>?_;have o:=zq (n.next H);clear r s t u v z;obtain⟨⟨r,s,t⟩,u,v,z⟩:=o.cells;clear H n G;have n:=o;clear o;go_wp2_with fail;go_region_with (first
    |(go_at_call 138;refine cm (aH _) λw4 I=>?_;have J:=zq (n.drew.next I);clear I;obtain⟨⟨y1,y2,y3⟩,z1,z2,z3⟩:=J.cells)
    |(go_at_call 122;refine cm (HX _) λwd K=>?_;have p:=zq (Ar J K);clear K;obtain⟨p0,p1,p2,p3,p4,g⟩:=p.1.cells;have f0:=g 0;have f1:=g 1;have f2:=g 2;have f3:=g 3;have f4:=g 4;clear g))
   all_goals
    go_wp2;refine rR ((p.1.put (.int .i64 F1) (.bool false) (.int .i64 F2) (.string F3) (.int .i64 F4)).cells) ?_;exact⟨rfl,Ez p.2 (by omega) _ _ _ _ _⟩
  ·exact absurd rfl HN
end Go.Proofs.YteofommckgeemaaGreatDoor
