/- Steps. -/
import Derived.Test.YteofommckgeemaaGreatDoorEAD
namespace Go.Proofs.YteofommckgeemaaGreatDoor
open Go.RowKit Go.Proofs.Tryz
set_option linter.unusedVariables false
set_option maxRecDepth 100000
set_option maxHeartbeats 8000000
def GC(f b:Int)(a:Bool)(c:Int)(d:AG)(h:Bool)(e:Int)(g:AG)(M:Int):Bool×(Int×Int×AB×Int):=
 if 180<(d.length:Int)+c-M then(a,Al f b a (nt (vl d*10^40-if a=h then 0 else 1)) (c-40) true M)
 else if a=h then(a,Al f b a (nt (vl d*10^(c-M).toNat+vl g*10^(e-M).toNat)) M false M)
 else if vl d*10^(c-M).toNat=vl g*10^(e-M).toNat then(decide (b=3),Al f b (decide (b=3)) [0] M false M)
 else if vl g*10^(e-M).toNat<vl d*10^(c-M).toNat then(a,Al f b a (nt (vl d*10^(c-M).toNat-vl g*10^(e-M).toNat)) M false M)
 else(h,Al f b h (nt (vl g*10^(e-M).toNat-vl d*10^(c-M).toNat)) M false M)
theorem Wb(d:AG)(h:AJ d)(a:d≠[0]):tx d++tx (List.replicate 40 0)=tx (d++List.replicate 40 0)/\AJ (d++List.replicate 40 0)/\vl (d++List.replicate 40 0)=vl d*10^40/\(d++List.replicate 40 0).length=d.length+40:=
 ⟨Ax _ _,BT d 40 h a,Bb d 40,by simp⟩
theorem TE(f J:Int)(HF:Et f J)(T:Int)(U:Bool)(m:Int)(k:AG)(V:Int)(W:Bool)(n:Int)(l:AG)(A:Int)(b:Bool)(c:Int)(a:AG)(B:Int)(d:Bool)(o:Int)(p:AG)(M:Int)(w:AA)
 (hM:min m n=M) (K:AJ k) (L:k≠[0]) (N:AJ l) (O:l≠[0]) (Y:k.length<=100) (Z:l.length<=100) (ha:-13000<=m/\m<=13000) (hb:-13000<=n/\n<=13000)
 (hs:((k.length:Int)+m<(l.length:Int)+n/\A=V/\b=W/\c=n/\a=l/\B=T/\d=U/\o=m/\p=k)\/(¬(k.length:Int)+m<(l.length:Int)+n/\A=T/\b=U/\c=m/\a=k/\B=V/\d=W/\o=n/\p=l)) (aY:180<(a.length:Int)+c-M):
 cB 191 #[.int .i64 f,.int .i64 J,AH T U m (tx k),AH V W n (tx l)] w (BE b (Al f J b (nt (vl a*10^40-if b=d then 0 else 1)) (c-40) true M)):=by
 have HM:=zq hM;have g:=zq (BP w A b c (tx a) B d o (tx p));have aE:=Bo k K.1 L;have aF:=Bo l N.1 O;have aG:=AE k;have aH:=AE l;have aI:=zw ((k.length:Int)+m) (by omega);have aJ:=zw ((l.length:Int)+n) (by omega);have P:=zq hs;have g1:AJ a/\a≠[0]/\a.length<=100/\(-13000<=c/\c<=13000)/\AJ p/\p≠[0]/\p.length<=100/\(-13000<=o/\o<=13000)/\M=min c o:=by
  rcases hs with⟨-,-,-,rfl,rfl,-,-,rfl,rfl⟩|⟨-,-,-,rfl,rfl,-,-,rfl,rfl⟩
  ·exact⟨N,O,Z,hb,K,L,Y,ha,by omega⟩
  ·exact⟨K,L,Y,ha,N,O,Z,hb,by omega⟩
 have HC:=zq g1;obtain⟨Q,z1,l1,x1,c2,z2,l2,x2,hm⟩:=g1;obtain⟨a3,S,E,an⟩:=Wb a Q z1;have a5:(tx (List.replicate 40 0)).size=40:=by rw[AE,GG]
 have a6:=AE a;have a7:=zw (c-40) (by omega);have wA:=zw ((a.length:Int)+c) (by omega);have wB:=zw ((a.length:Int)+c-M) (by omega);clear hs K L N O hm hM;have aO:=zq λX=>Iz 40 X (by decide) (by decide);have ao:(0:Int)<10^40:=by decide
 have v1:1<=vl a:=by
  have:=AZ a Q.1;rcases Int.lt_or_eq_of_le this.1 with h|h
  ·omega
  ·exact absurd (Bg a Q h.symm) z1
 have aP:(10:Int)^40<=vl a*10^40:=by
  have:1*(10:Int)^40<=vl a*10^40:=If v1 (CP ao);omega
 have C:Hid (b=d->a++List.replicate 40 0=nt (vl a*10^40-if b=d then 0 else 1)):=λh=>BW _ _ S (by rw[E,zyp h];omega) (by omega);have D:Hid (b≠d->cA 138 #[.string (tx (a++List.replicate 40 0)),.string {data:=#[49]}] (.string (tx (nt (vl a*10^40-if b=d then 0 else 1))))):=λh X=>by
  rw[zyn h,<-SC];have aq:vl [1]=1:=by decide
  refine(Cn (a++List.replicate 40 0) [1] X S (BL 1 (by decide) (by decide)) (by omega) (by rw[aq,E];omega)).mono ?_;rintro e w' ⟨R,rfl,hR,vR,lR,aS⟩;rw[BW R _ hR (by rw[vR,E,aq]) (by omega)];exact⟨rfl,aS⟩
 have ae:Hid (AJ (nt (vl a*10^40-if b=d then 0 else 1))/\(nt (vl a*10^40-if b=d then 0 else 1)).length<=200):=by
  have j:=(AZ (a++List.replicate 40 0) S.1);rw[E,an] at j;have bc:(10:Int)^(a.length+40)<=10^140:=AI _ _ (by omega);have h5:(10:Int)^140<10^500:=by decide+kernel
  have aU:0<=vl a*10^40-(if b=d then 0 else 1):=by split<;>omega
  have ar:vl a*10^40-(if b=d then 0 else 1)<10^140:=by split<;>omega
  have sp:=B5 _ aU (Int.lt_trans ar h5);exact⟨sp.1,DT (Bu _ sp.1 140 (by decide) (by rw[sp.2];exact ar)) (by decide)⟩
 have q:=zq λX=>HF b _ (c-40) true M X ae.1 ae.2 (by omega) (by have:=HC.out;omega);clear HF ae aP S E an Q z1 c2 z2 v1 ao Y Z ha hb;generalize nt (vl a*10^40-if b=d then 0 else 1)=NT at*
 generalize Al f J b NT (c-40) true M=F at*
 obtain⟨r,s,t,u⟩:=F;generalize a++List.replicate 40 0=be at*
 generalize tx (List.replicate 40 0)=bf at*
 go_enter func191,ntmps191;go_wp2_with fail;refine ce (C0 m n _) ?_;rw[HM];go_upto_if 80 with fail;go_cut [81,82] (λx y wx=>wx=EW w A b c (tx a) B d o (tx p));case first=>
  rcases P.out with⟨aX,rfl,rfl,rfl,rfl,rfl,rfl,rfl,rfl⟩|⟨aX,rfl,rfl,rfl,rfl,rfl,rfl,rfl,rfl⟩
  ·clear P;go_wp2;go_meet;case rel=>rfl
  ·clear P;go_wp2;go_meet;case rel=>rfl
 case rest=>
  obtain rfl:=hcut;clear P aE aF aG aH aI aJ;generalize tx a=T1 at*
  generalize tx p=T2 at*
  go_wp2_with fail;go_region_with (go_at_call 194;refine cm (aO _) λw2 aw=>?_;have ag:=zq (g.drew.next aw);clear aw;obtain⟨⟨q1,q2,q3⟩,r1,r2,r3⟩:=ag.cells);all_goals
   clear g;have g:=ag;clear ag;cases b<;>cases d
   ·have ED:=zq (C rfl);clear C D;go_wp2_with fail;rw[ED];refine cm (q _) λwd j=>?_;have i:=zq (Ar g j);clear j g q;go_wp2_with (refine sR i.1 r _ s t u ?_);have v:=λy=>A1 i.1 r y s t u;refine rR (v _) ?_;exact⟨rfl,AC i.2 (by omega) _⟩
   ·have G:=D (by decide);have H:=zq G;clear C D G;go_wp2_with fail;refine cm (H _) λw3 I=>?_;have z:=g.next I;obtain⟨⟨q1,q2,q3⟩,r1,r2,r3⟩:=z.cells
    replace g:Hid (SU w w3 A false c T1 B true o T2):=z
    clear z I H;go_wp2_with fail;refine cm (q _) λwd j=>?_;have i:=zq (Ar g j);clear j g q;go_wp2_with (refine sR i.1 r _ s t u ?_);have v:=λy=>A1 i.1 r y s t u;refine rR (v _) ?_;exact⟨rfl,AC i.2 (by omega) _⟩
   ·have G:=D (by decide);have H:=zq G;clear C D G;go_wp2_with fail;refine cm (H _) λw3 I=>?_;have z:=g.next I;obtain⟨⟨q1,q2,q3⟩,r1,r2,r3⟩:=z.cells
    replace g:Hid (SU w w3 A true c T1 B false o T2):=z
    clear z I H;go_wp2_with fail;refine cm (q _) λwd j=>?_;have i:=zq (Ar g j);clear j g q;go_wp2_with (refine sR i.1 r _ s t u ?_);have v:=λy=>A1 i.1 r y s t u;refine rR (v _) ?_;exact⟨rfl,AC i.2 (by omega) _⟩
   ·have ED:=zq (C rfl);clear C D;go_wp2_with fail;rw[ED];refine cm (q _) λwd j=>?_;have i:=zq (Ar g j);clear j g q;go_wp2_with (refine sR i.1 r _ s t u ?_);have v:=λy=>A1 i.1 r y s t u;refine rR (v _) ?_;exact⟨rfl,AC i.2 (by omega) _⟩
end Go.Proofs.YteofommckgeemaaGreatDoor
