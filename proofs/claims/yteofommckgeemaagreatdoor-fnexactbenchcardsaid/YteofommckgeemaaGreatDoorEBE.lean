/- Steps. -/
import Derived.Test.YteofommckgeemaaGreatDoorEAU
namespace Go.Proofs.YteofommckgeemaaGreatDoor
open Go.RowKit Go.Proofs.Tryz
set_option linter.unusedVariables false
set_option maxRecDepth 100000
set_option maxHeartbeats 8000000
theorem Qv(f g:Int)(HF:Et f g)(U:Int)(V:Bool)(l:Int)(i:AG)(W:Int)(Y:Bool)(m:Int)(j:AG)(H:Int)(n:Bool)(a:Int)(b:AG)(I:Int)(o:Bool)(c:Int)(d:AG)(M:Int)(w:AA)
 (hM:min l m=M) (J:AJ i) (K:i≠[0]) (L:AJ j) (N:j≠[0]) (Z:i.length<=100) (lb:j.length<=100) (ha:-13000<=l/\l<=13000) (hb:-13000<=m/\m<=13000)
 (hs:((i.length:Int)+l<(j.length:Int)+m/\H=W/\n=Y/\a=m/\b=j/\I=U/\o=V/\c=l/\d=i)\/(¬(i.length:Int)+l<(j.length:Int)+m/\H=U/\n=V/\a=l/\b=i/\I=W/\o=Y/\c=m/\d=j)) (bc:¬180<(b.length:Int)+a-M) (hn:n≠o) (aK:vl b*10^(a-M).toNat=vl d*10^(c-M).toNat):
 cB 191 #[.int .i64 f,.int .i64 g,AH U V l (tx i),AH W Y m (tx j)] w (BE (decide (g=3)) (Al f g (decide (g=3)) [0] M false M)):=by
 have HM:=zq hM;have HS:=zq (BP w H n a (tx b) I o c (tx d));have aM:=Bo i J.1 K;have aN:=Bo j L.1 N;have aO:=AE i;have aP:=AE j;have aQ:=zw ((i.length:Int)+l) (by omega);have aR:=zw ((j.length:Int)+m) (by omega);have A:=zq hs;have g1:AJ b/\b≠[0]/\b.length<=100/\(-13000<=a/\a<=13000)/\AJ d/\d≠[0]/\d.length<=100/\(-13000<=c/\c<=13000)/\M=min a c:=by
  rcases hs with⟨-,-,-,rfl,rfl,-,-,rfl,rfl⟩|⟨-,-,-,rfl,rfl,-,-,rfl,rfl⟩
  ·exact⟨L,N,lb,hb,J,K,Z,ha,by omega⟩
  ·exact⟨J,K,Z,ha,L,N,lb,hb,by omega⟩
 have HC:=zq g1;obtain⟨c1,z1,l1,x1,c2,z2,l2,x2,hm⟩:=g1;obtain⟨aq,ar⟩:M<=a/\M<=c:=by omega
 have au:(d.length:Int)+c-M<=180:=by
  rcases A.out with⟨h,-,-,rfl,rfl,-,-,rfl,rfl⟩|⟨h,-,-,rfl,rfl,-,-,rfl,rfl⟩<;>omega
 obtain⟨av,aX,aw,ax⟩:=Ee b a M c1 aq (by omega);obtain⟨ay,aY,az,aA⟩:=Ee d c M c2 ar au;have aZ:=Int.pow_succ 10 180;have a0:(0:Int)<10^180:=Int.pow_pos (by decide);have bh:=AE b;have wA:=zw ((b.length:Int)+a) (by omega);have wB:=zw ((b.length:Int)+a-M) (by omega);have wC:=zw (a-M) (by omega);have wD:=zw (c-M) (by omega);have H1:Hid (cA 133 #[.string (tx b),.int .i64 (a-M)] (.string (tx (nt (vl b*10^(a-M).toNat))))):=λX=>by
  have B:=BS b (a-M).toNat X c1 (by omega) aw;rw[<-ax] at B;refine B.mono ?_;rintro e w' ⟨R,C,hR,-,ah⟩;rw[hR] at C;exact⟨C,ah⟩
 have H2:Hid (cA 133 #[.string (tx d),.int .i64 (c-M)] (.string (tx (nt (vl d*10^(c-M).toNat))))):=λX=>by
  have B:=BS d (c-M).toNat X c2 (by omega) az;rw[<-aA] at B;refine B.mono ?_;rintro e w' ⟨R,C,hR,-,ah⟩;rw[hR] at C;exact⟨C,ah⟩
 have MB:-13000<=M/\M<=13000:=by omega
 clear hs J K L N hm hM aq ar au aw ax az aA Z lb ha hb z1 z2 l2 HC;generalize hX:vl b*10^(a-M).toNat=x at*
 generalize hY:vl d*10^(c-M).toNat=y at*
 clear hX hY;obtain⟨cX,vX,lX⟩:=C1 x av (by omega);obtain⟨cY,vY,lY⟩:=C1 y ay (by omega);have D:Hid (cA 193 #[.string (tx (nt x)),.string (tx (nt y))] (.int .i64 (Ay x y))):=λX=>by
  have:=DG (nt x) (nt y) X cX cY (by omega) (by omega);rw[vX,vY] at this;exact this
 have HN:=zq hn;clear hn;have EC:Hid (Ay x y=0):=by show _=_;unfold Ay;rw[zyn (by omega),zyn (by omega)]
 rw[EC] at D;have O:Hid (cA 122 #[.int .i64 f,.int .i64 g,.bool (decide (g=3)),.string {data:=#[48]},.int .i64 M,.bool false,.int .i64 M] (BE (decide (g=3)) (Al f g (decide (g=3)) [0] M false M))):=λX=>by
  have:=HF (decide (g=3)) [0] M false M X (BL 0 (by decide) (by decide)) (by simp) (by omega) (by omega);rw[Gu] at this;exact this
 clear aK;clear HF cX vX lX cY vY lY av aX ay aY aZ a0;generalize Al f g (decide (g=3)) [0] M false M=F at*
 obtain⟨P,Q,S,T⟩:=F;generalize tx (nt x)=TX at*
 generalize tx (nt y)=TY at*
 go_enter func191,ntmps191;go_wp2_with fail;refine ce (C0 l m _) ?_;rw[HM];go_upto_if 80 with fail;go_cut [81,82] (λx y wx=>wx=EW w H n a (tx b) I o c (tx d));case first=>
  rcases A.out with⟨a9,rfl,rfl,rfl,rfl,rfl,rfl,rfl,rfl⟩|⟨a9,rfl,rfl,rfl,rfl,rfl,rfl,rfl,rfl⟩
  ·clear A;go_wp2;go_meet;case rel=>rfl
  ·clear A;go_wp2;go_meet;case rel=>rfl
 case rest=>
  obtain rfl:=hcut;clear A aM aN aO aP aQ aR;clear c1 c2;generalize tx b=T1 at*
  generalize tx d=T2 at*
  go_wp2_with fail;refine cm (H1 _) λw2 aH=>?_;have aj:=zq (HS.next aH);obtain⟨⟨r,s,t⟩,u,v,z⟩:=aj.cells;clear aH HS H1;go_wp2_with fail;refine cm (H2 _) λw3 aI=>?_;have k:=zq (aj.next aI);clear r s t u v z;obtain⟨⟨r,s,t⟩,u,v,z⟩:=k.cells;clear aI aj H2;have aJ:(n==o)=false:=by cases n<;>cases o<;>first|rfl|exact absurd rfl HN
  cases n<;>cases o
  ·exact absurd rfl HN
  ·clear aJ;go_wp2_with fail;refine cm (D _) λw5 E=>?_;have p:=zq (k.next E);clear r s t u v z;obtain⟨⟨r,s,t⟩,u,v,z⟩:=p.cells;clear E k D;have k:=p;clear p;go_wp2_with fail;refine cm (O _) λwd G=>?_;have q:=zq (Ar k G);clear G k O;go_wp2_with (refine sR q.1 P _ Q S T ?_);have hP:=λy=>A1 q.1 P y Q S T;refine rR (hP _) ?_;exact⟨rfl,AC q.2 (by omega) _⟩
  ·clear aJ;go_wp2_with fail;refine cm (D _) λw5 E=>?_;have p:=zq (k.next E);clear r s t u v z;obtain⟨⟨r,s,t⟩,u,v,z⟩:=p.cells;clear E k D;have k:=p;clear p;go_wp2_with fail;refine cm (O _) λwd G=>?_;have q:=zq (Ar k G);clear G k O;go_wp2_with (refine sR q.1 P _ Q S T ?_);have hP:=λy=>A1 q.1 P y Q S T;refine rR (hP _) ?_;exact⟨rfl,AC q.2 (by omega) _⟩
  ·exact absurd rfl HN
end Go.Proofs.YteofommckgeemaaGreatDoor
