/- Steps. -/
import Derived.Test.YteofommckgeemaaGreatDoorEBB
namespace Go.Proofs.YteofommckgeemaaGreatDoor
open Go.RowKit Go.Proofs.Tryz
set_option linter.unusedVariables false
set_option maxRecDepth 100000
set_option maxHeartbeats 8000000
theorem Ee(d:AG)(e M:Int)(c:AJ d)(g:M<=e)(h:(d.length:Int)+e-M<=180):0<=vl d*10^(e-M).toNat/\vl d*10^(e-M).toNat<10^180/\(e-M).toNat<=200/\e-M=((e-M).toNat:Int):=by
 have b:=AZ d c.1;have a:(0:Int)<10^(e-M).toNat:=Int.pow_pos (by decide);refine⟨Int.mul_nonneg b.1 (CP a),?_,by have:=c.2.1;omega,by omega⟩;have f:=Int.mul_lt_mul_of_pos_right b.2 a;rw[<-Cv] at f;exact FS f (AI _ _ (by omega))
theorem C1(v:Int)(c:0<=v)(b:v<10^181):AJ (nt v)/\vl (nt v)=v/\(nt v).length<=181:=by
 have d:(10:Int)^181<10^500:=by decide+kernel
 have a:=B5 v c (Int.lt_trans b d);exact⟨a.1,a.2,Bu _ a.1 181 (by decide) (by rw[a.2];exact b)⟩
theorem Qy(f s:Int)(T:Et f s)(D:Int)(E:Bool)(k:Int)(g:AG)(G:Int)(H:Bool)(l:Int)(i:AG)(t:Int)(j:Bool)(a:Int)(b:AG)(u:Int)(v:Bool)(c:Int)(d:AG)(M:Int)(w:AA)
 (U:min k l=M) (z:AJ g) (A:g≠[0]) (B:AJ i) (C:i≠[0]) (I:g.length<=100) (J:i.length<=100) (K:-13000<=k/\k<=13000) (L:-13000<=l/\l<=13000)
 (N:((g.length:Int)+k<(i.length:Int)+l/\t=G/\j=H/\a=l/\b=i/\u=D/\v=E/\c=k/\d=g)\/(¬(g.length:Int)+k<(i.length:Int)+l/\t=D/\j=E/\a=k/\b=g/\u=G/\v=H/\c=l/\d=i)) (ba:¬180<(b.length:Int)+a-M) (hn:j=v):
 cB 191 #[.int .i64 f,.int .i64 s,AH D E k (tx g),AH G H l (tx i)] w (BE j (Al f s j (nt (vl b*10^(a-M).toNat+vl d*10^(c-M).toNat)) M false M)):=by
 have HM:=zq U;have V:=zq (BP w t j a (tx b) u v c (tx d));have aH:=Bo g z.1 A;have aI:=Bo i B.1 C;have aJ:=AE g;have aK:=AE i;have aL:=zw ((g.length:Int)+k) (by omega);have aM:=zw ((i.length:Int)+l) (by omega);have n:=zq N;have W:AJ b/\b≠[0]/\b.length<=100/\(-13000<=a/\a<=13000)/\AJ d/\d≠[0]/\d.length<=100/\(-13000<=c/\c<=13000)/\M=min a c:=by
  rcases N with⟨-,-,-,rfl,rfl,-,-,rfl,rfl⟩|⟨-,-,-,rfl,rfl,-,-,rfl,rfl⟩
  ·exact⟨B,C,J,L,z,A,I,K,by omega⟩
  ·exact⟨z,A,I,K,B,C,J,L,by omega⟩
 have HC:=zq W;obtain⟨O,Y,l1,x1,P,Z,l2,x2,hm⟩:=W;obtain⟨aa,ab⟩:M<=a/\M<=c:=by omega
 have ac:(d.length:Int)+c-M<=180:=by
  rcases n.out with⟨h,-,-,rfl,rfl,-,-,rfl,rfl⟩|⟨h,-,-,rfl,rfl,-,-,rfl,rfl⟩<;>omega
 obtain⟨ad,aQ,ae,af⟩:=Ee b a M O aa (by omega);obtain⟨ag,aR,ah,ai⟩:=Ee d c M P ab ac;have aS:=Int.pow_succ 10 180;have aT:(0:Int)<10^180:=Int.pow_pos (by decide);have bf:=AE b;have wA:=zw ((b.length:Int)+a) (by omega);have wB:=zw ((b.length:Int)+a-M) (by omega);have wC:=zw (a-M) (by omega);have wD:=zw (c-M) (by omega);have H1:Hid (cA 133 #[.string (tx b),.int .i64 (a-M)] (.string (tx (nt (vl b*10^(a-M).toNat))))):=λX=>by
  have o:=BS b (a-M).toNat X O (by omega) ae;rw[<-af] at o;refine o.mono ?_;rintro e w' ⟨R,p,q,-,r⟩;rw[q] at p;exact⟨p,r⟩
 have H2:Hid (cA 133 #[.string (tx d),.int .i64 (c-M)] (.string (tx (nt (vl d*10^(c-M).toNat))))):=λX=>by
  have o:=BS d (c-M).toNat X P (by omega) ah;rw[<-ai] at o;refine o.mono ?_;rintro e w' ⟨R,p,q,-,r⟩;rw[q] at p;exact⟨p,r⟩
 have MB:-13000<=M/\M<=13000:=by omega
 clear N z A B C hm U aa ab ac ae af ah ai I J K L Y Z l2 HC;generalize hX:vl b*10^(a-M).toNat=x at*
 generalize hY:vl d*10^(c-M).toNat=y at*
 clear hX hY;obtain⟨cX,vX,lX⟩:=C1 x ad (by omega);obtain⟨cY,vY,lY⟩:=C1 y ag (by omega);have aY:Hid (cA 137 #[.string (tx (nt x)),.string (tx (nt y))] (.string (tx (nt (x+y))))):=λX=>by
  refine(Fg (nt x) (nt y) X cX cY (by omega) (by omega)).mono ?_;rintro e w' ⟨R,rfl,q,vR,lR,r⟩;rw[BW R (x+y) q (by rw[vR,vX,vY]) (by omega)];exact⟨rfl,r⟩
 obtain⟨cZ,vZ,lZ⟩:=C1 (x+y) (by omega) (by omega);have HX:=zq λX=>T j _ M false M X cZ (by omega) (by omega) (by omega);clear T cZ vZ lZ cX vX lX cY vY lY ad aQ ag aR aS aT;generalize Al f s j (nt (x+y)) M false M=F at*
 obtain⟨F1,F2,F3,F4⟩:=F;generalize tx (nt (x+y))=TZ at*
 generalize tx (nt x)=TX at*
 generalize tx (nt y)=TY at*
 subst hn;go_enter func191,ntmps191;go_wp2_with fail;refine ce (C0 k l _) ?_;rw[HM];go_upto_if 80 with fail;go_cut [81,82] (λx y wx=>wx=EW w t j a (tx b) u j c (tx d));case first=>
  rcases n.out with⟨a9,rfl,rfl,rfl,rfl,rfl,rfl,rfl,rfl⟩|⟨a9,rfl,rfl,rfl,rfl,rfl,rfl,rfl,rfl⟩
  ·clear n;go_wp2;go_meet;case rel=>rfl
  ·clear n;go_wp2;go_meet;case rel=>rfl
 case rest=>
  obtain rfl:=hcut;clear n aH aI aJ aK aL aM;clear O P;generalize tx b=T1 at*
  generalize tx d=T2 at*
  go_wp2_with fail;refine cm (H1 _) λw2 ar=>?_;have Q:=zq (V.next ar);obtain⟨⟨q1,q2,q3⟩,r1,r2,r3⟩:=Q.cells;clear ar V H1;go_wp2_with fail;refine cm (H2 _) λw3 aA=>?_;have aB:=zq (Q.next aA);clear q1 q2 q3 r1 r2 r3;obtain⟨⟨q1,q2,q3⟩,r1,r2,r3⟩:=aB.cells;clear aA Q H2;go_wp2_with fail;go_region_with (first
   |(go_at_call 137;refine cm (aY _) λw4 aC=>?_;have aD:=zq (aB.drew.next aC);clear aC;obtain⟨⟨y1,y2,y3⟩,Y,Z,z3⟩:=aD.cells)
   |(go_at_call 122;refine cm (HX _) λwd aE=>?_;have S:=zq (Ar aD aE);clear aE;obtain⟨p0,p1,p2,p3,p4,m⟩:=S.1.cells;have f0:=m 0;have f1:=m 1;have f2:=m 2;have f3:=m 3;have f4:=m 4;clear m))
  all_goals
   go_wp2;refine rR ((S.1.put (.int .i64 F1) (.bool j) (.int .i64 F2) (.string F3) (.int .i64 F4)).cells) ?_;exact⟨rfl,Ez S.2 (by omega) _ _ _ _ _⟩
end Go.Proofs.YteofommckgeemaaGreatDoor
