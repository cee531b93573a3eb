/- Steps. -/
import Derived.Test.YteofommckgeemaaGreatDoorEAV
namespace Go.Proofs.YteofommckgeemaaGreatDoor
open Go.RowKit Go.Proofs.Tryz
set_option linter.unusedVariables false
set_option linter.unusedSimpArgs false
set_option maxRecDepth 100000
set_option maxHeartbeats 8000000
def UD(p:List Nat)(Q:Exit->Act->AA->Prop)(K:Act->AA->Prop):Prop:=∀a w,(BB p ((f53.body).getD .skip)).wp prog Q a w->K a w
theorem iZ(X:Code)(hX:X=BB [1,1,1,1,1,1,1,1,1,1,1,1] ((f53.body).getD .skip))(w W:AA)(f m:Int)(V:f=64\/f=128)(neg:Bool)(a v:AK)(i:Nat)(n:Nat)(U:AB)(q:Nat)(D:List UInt8)(Y:Kh){u2 u3 u4 u5 u7 u8 u9 av aw ax ay az aA aB aC aD aE aF aG aH aI aJ aK aL aM aN aO aP aQ aR aS aT aU aV aW aX aY aZ a0 a1 a2 u49 u50 a6 a7 a8 a9 ba bb bc be bf bg bh bi bj bk bm bo bp bq br bs bt bu bv bx bB bC bD bE bF bG bH bI bJ bK bL bM bN bO bP bQ bR bS bT bU bV bW bX bY bZ b0 b1 b2 b3 b5 b6 b7 b8 b9 ca cb cc cd cf cg ch ci cj ck cl cn co cp cq cr cs ct cu cv cw cx cy cz cC cD cG cH cJ cK cL cM cN cO cP cQ cR cS cT cU cV cW cX cY cZ c0 c1 c2 c3 c4 c5 c6 c7 c8 c9 da db dc dd de df dg dh di dj dk dm dn dp dq dr ds dt du dv dw dx dy dA dC dD dE dF dG dH dI dJ dK dL:AK}(K:U.size<=200)(L:n<=200)(Z:D.length<=200)(s:UF w i W v D)(hA:Zo f m neg Y=a)(k:∀D n M P,Y=some (D,n,M,P)->AJ (AU (D.map (·-48)))/\(AU (D.map (·-48))).length<=200/\(-200000<=Gp n M P/\Gp n M P<=200000))
 (hq:q<=U.size) (d:Y=Ba ((bz U.data.toList).drop q) (bz D) n):
 X.wp prog (bodyPost prog f53 (VZ w a)) {tmps:=#[.int .i64 f,.int .i64 m,u2,u3,u4,u5,.pointer (some ⟨w.heap.size,0,none⟩),u7,u8,u9,av,.string U,.bool neg,v,aw,.int .i64 (-(n:Int)),.int .i64 (q:Int),ax,ay,az,aA,aB,aC,aD,aE,aF,aG,aH,aI,aJ,aK,aL,aM,aN,aO,aP,aQ,aR,aS,aT,aU,aV,aW,aX,aY,aZ,a0,a1,a2,u49,u50,a6,a7,a8,a9,ba,bb,bc,be,bf,bg,bh,bi,bj,bk,bm,bo,bp,bq,br,bs,bt,bu,bv,bx,bB,bC,bD,bE,bF,bG,bH,bI,bJ,bK,bL,bM,bN,bO,bP,bQ,bR,bS,bT,bU,bV,bW,bX,bY,bZ,b0,b1,b2,b3,b5,b6,b7,b8,b9,ca,cb,cc,cd,cf,cg,ch,ci,cj,ck,cl,cn,co,cp,cq,cr,cs,ct,cu,cv,cw,cx,cy,cz,cC,cD,cG,cH,cJ,cK,cL,cM,cN,cO,cP,cQ,cR,cS,cT,cU,cV,cW,cX,cY,cZ,c0,c1,c2,c3,c4,c5,c6,c7,c8,c9,da,db,dc,dd,de,df,dg,dh,di,dj,dk,dm,dn,dp,dq,dr,ds,dt,du,dv,dw,dx,dy,dA,dC,dD,dE,dF,dG,dH,dI,dJ,dK,dL],defers:=[]} W:=by
 have o:=zq s;have g:=zq hA;have p:=zq k;have r:=Ab s.2.1 s.2.2.1;have N:=zq V;obtain⟨va,vc,C⟩:=s.1.form;subst hX;clear s hA k V;by_cases E:D=[]
 ·subst E;rw[List.length_nil] at C;subst C;have O:Hid (.tuple #[BA 0 false 0 {data:=#[]} 0,.bool false]=a):=by
   have h:=g.out;rw[d,show bz []=[] from rfl,Nd] at h;exact h
  have hB:=BM;clear d g p L o;generalize c:bodyPost prog f53 (VZ w a)=F;simp only[f53,BB,Cd];subst c;refine wp_seq_k λK0 G=>?_;clear G Z K hq;go_wp2_with (refine sR r.1 0 false 0 ⟨#[]⟩ 0 ?_);have k:=A1 r.1 0 false 0 ⟨#[]⟩ 0
  (try simp only[Exit.inBlock,Exit.then])
  refine rB k ?_;exact⟨congrArg Ending.returned O,AC r.2 (AS _) _⟩
 have ac:bz D≠[]:=λe=>E (List.length_eq_zero_iff.1 (by rw[<-Jk,e];rfl));have t:=zq ac;obtain⟨l,hl⟩:∃l,D.length=l+1:=⟨D.length-1,by have:D.length≠0:=λe=>E (List.length_eq_zero_iff.1 e);omega⟩;rw[hl] at C Z;subst C;have Q:Hid (D.length<=200):=by show _<=_;omega
 have dQ:(((l:Int)+1)==0)=false:=beq_eq_false_iff_ne.2 (by omega);clear E ac hl;generalize c:bodyPost prog f53 (VZ w a)=F;simp only[f53,BB,Cd];subst c;refine wp_seq_k λK0 G=>?_;have ae:UD [1,1,1,1,1,1,1,1,1,1,1,1,1] (bodyPost prog f53 (VZ w a)) K0:=λx y z=>G x y (by simp only[f53,BB,Cd] at z;exact z);clear G;go_wp2;refine ae _ _ ?_;generalize c:bodyPost prog f53 (VZ w a)=F;simp only[f53,BB,Cd];subst c;clear ae dQ;refine wp_seq_k λu a5=>?_;have H:UD [1,1,1,1,1,1,1,1,1,1,1,1,1,1] (bodyPost prog f53 (VZ w a)) u:=λx y z=>a5 x y (by simp only[f53,BB,Cd] at z;exact z);clear a5;by_cases R:q<U.size
 ·have dS:(q:Int)<(U.size:Int):=by omega
  have dV:U[q].toNat<256:=U[q].toNat_lt;by_cases b:(U[q].toNat:Int)=69\/(U[q].toNat:Int)=101
  ·have ag:Hid (Y=FB ((bz U.data.toList).drop (q+1)) (bz D) n):=by show _=_;rw[d,Dt U q R,ZW _ _ _ _ t.out b]
   have wq:=zw ((q:Int)+1) (by omega);clear d t;rcases b with b|b
   ·skip
    go_upto_region 31 with fail;rename_i I j K3 a3;have A:UD [1,1,1,1,1,1,1,1,1,1,1,1,1,0,1,2,1] (Exit.then u (bodyPost prog f53 (VZ w a))) I:=λx y z=>j x y (by simp only[f53,BB,Cd] at z;exact z);clear j;go_wp2;refine A _ _ ?_;generalize c:bodyPost prog f53 (VZ w a)=F;simp only[f53,BB,Cd];subst c;clear A;go_upto_region 34 with fail;rename_i K1 B;have S:Hid _:=B;clear B;go_wp2;refine S _ _ ?_;refine Zv _ ?_ w W f m neg a _ i n U (q+1) D Y u _ (by omega) K L Q o g p (by omega) ag ?_
    ·simp only[f53,BB,Cd]
    ·unfold mQ
     intros
     refine H _ _ ?_;refine Tr _ rfl w _ f m N neg a _ i _ (by assumption)
   ·skip
    go_upto_region 31 with fail;rename_i I j K3 a3;have A:UD [1,1,1,1,1,1,1,1,1,1,1,1,1,0,1,2,1] (Exit.then u (bodyPost prog f53 (VZ w a))) I:=λx y z=>j x y (by simp only[f53,BB,Cd] at z;exact z);clear j;go_wp2;refine A _ _ ?_;generalize c:bodyPost prog f53 (VZ w a)=F;simp only[f53,BB,Cd];subst c;clear A;go_upto_region 34 with fail;rename_i K1 B;have S:Hid _:=B;clear B;go_wp2;refine S _ _ ?_;refine Zv _ ?_ w W f m neg a _ i n U (q+1) D Y u _ (by omega) K L Q o g p (by omega) ag ?_
    ·simp only[f53,BB,Cd]
    ·unfold mQ
     intros
     refine H _ _ ?_;refine Tr _ rfl w _ f m N neg a _ i _ (by assumption)
  ·have O:Hid (.tuple #[BA 0 false 0 {data:=#[]} 0,.bool false]=a):=by
    have h:=g.out;rw[d,Dt U q R,ZX _ _ _ _ b] at h;exact h
   have aj:Hid (((U[q].toNat:Int)!=69&&(U[q].toNat:Int)!=101)=true):=by
    show _=_
    rw[bne_iff_ne.2 (λe=>b (.inl e)),bne_iff_ne.2 (λe=>b (.inr e))];rfl
   have dX:¬(U[q].toNat:Int)=69:=λe=>b (.inl e);have dY:¬(U[q].toNat:Int)=101:=λe=>b (.inr e);have hB:=BM;clear o g p d b t H;go_upto_region 31 with fail;rename_i I j K3 a3;clear j;go_upto_if 124 with fail;refine wp_cond_true (congrArg Value.bool aj) ?_;clear aj;go_wp2_with (refine sR r.1 0 false 0 ⟨#[]⟩ 0 ?_);have k:=A1 r.1 0 false 0 ⟨#[]⟩ 0
   (try simp only[Exit.inBlock,Exit.then])
   refine rB k ?_;exact⟨congrArg Ending.returned O,AC r.2 (AS _) _⟩
 ·have dS:¬(q:Int)<(U.size:Int):=by omega
  have T:Y=some (bz D,n,false,[]):=by rw[d,OF U q R,Wi _ _ t.out]
  have J:=p _ _ _ _ T;have ak:Gp n false []=-(n:Int):=by unfold Gp pe;simp
  have H4:Hid (mT w f m neg a i (.slice va (l+1) vc) (-(n:Int)) W):=⟨D,n,false,[],o,ak.symm,by rw[<-T];exact g,J.1,J.2.1,Q,J.2.2⟩;clear T J ak d t p g o;go_wp2;refine H _ _ ?_;exact Tr _ rfl w _ f m N neg a _ i _ H4
end Go.Proofs.YteofommckgeemaaGreatDoor
