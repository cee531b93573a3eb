/- Steps. -/
import Derived.Test.YteofommckgeemaaGreatDoorEAD
namespace Go.Proofs.YteofommckgeemaaGreatDoor
open Go.RowKit Go.Proofs.Tryz
set_option linter.unusedVariables false
set_option maxRecDepth 100000
set_option maxHeartbeats 8000000
theorem ON{P:Program}{b:Array Oper}{Q:Exit->Act->AA->Prop}{K:Act->AA->Prop}{a:Act}{w:AA}(c:∀a w,Code.wp P Code.ret Q a w->K a w)(h:Q .ret a w):Hid (wpList P b (Exit.then K Q) [] a w):=c _ _ (wp_ret h)
theorem IC(f o:Int)(neg:Bool)(a:AG)(e:Int)(rest:Bool)(q:Int)(P:Nat)(l b:Int)(w:AA)
 (hP:AF f=P) (hL:AV f=l) (hH:Ad f=b) (p1:1<=P) (p2:P<=34) (l1:-6176<=l) (l2:l<=-398) (h1:369<=b) (h2:b<=6111)
 (hc:AJ a) (hz:a≠[0]) (hl:a.length<=200) (e1:-200000<=e) (e2:e<=200000) (w1:-200000<=q) (w2:q<=200000):
 Calls prog 122 #[.int .i64 f,.int .i64 o,.bool neg,.string (tx a),.int .i64 e,.bool rest,.int .i64 q] w λx w'=>
  x=.returned (BA (CJ P l b o neg a e rest q).1 neg (CJ P l b o neg a e rest q).2.1 (CJ P l b o neg a e rest q).2.2.1 (CJ P l b o neg a e rest q).2.2.2)/\AD w.heap.size w w':=by
 have bN:=Bo a hc.1 hz;have bO:0<a.length:=hc.2.1;have HC:=Ab hc hz;have HL:=J9 hP hL hH;have HZ:Hid (Z5 (w.alloc A2) w.heap.size/\AD w.heap.size w (w.alloc A2)):=⟨Af w _ _ _ _ _,bA⟩;have hJ:Hid (Di P a.length rest<=35/\(∀i,i<Di P a.length rest->rest=true/\a.length+i<=P)/\(rest=false\/P<a.length+Di P a.length rest)/\(rest=false->Di P a.length rest=0)):=by
  show _/\_/\_/\_
  unfold Di;cases rest with
  |true=>exact⟨by simp;omega,λi H=>⟨rfl,by simp at H;omega⟩,.inr (by simp;omega),λh=>by cases h⟩
  |false=>exact⟨by simp,λi H=>by simp at H,.inl rfl,λ_=>rfl⟩
 clear hc hz hP hL hH;obtain⟨FN,a8⟩:=zxe (CJ P l b o neg a e rest q);have bP:=zq a8;rw[a8];clear a8;obtain⟨j,hj⟩:=zxe (Di P a.length rest);have bQ:=zq hj;rw[hj] at hJ;clear hj;obtain⟨bR,bS,bT,bU⟩:=hJ.out;have bV:=zq bS;have bW:=zq bT;have cL:=zq bU;clear hJ bS bT bU;go_enter func122,ntmps122;go_wp2_with fail;refine cm (Ag f _) λwa bY=>?_;rw[HL.out.1,HL.out.2.1,HL.out.2.2];rw[<-bY] at HZ;clear bY;go_upto_block 0 with fail;go_cut [3,4] (λs x v=>s=.string (tx (a++List.replicate j 0))/\x=.int .i64 (e-(j:Int))/\v=wa);case first=>
  go_wp2_with fail;go_loopg [3,4] j (λgk s x v=>∃i:Nat,i<=j/\gk=j-i/\s=.string (tx (a++List.replicate i 0))/\x=.int .i64 (e-(i:Int))/\v=wa);case atStart=>exact⟨0,B9 _,rfl,by simp,by simp,rfl⟩
  case round=>
   obtain⟨i,H,M,rfl,rfl,J⟩:=hrel;have HG:=zq M;have D:=zq J;clear M J;have aS:(tx (a++List.replicate i 0)).size=a.length+i:=by rw[AE];simp
   by_cases K:i<j
   ·obtain⟨hr,bZ⟩:=bV i K;subst hr;obtain⟨c0,b0⟩:((tx (a++List.replicate i 0)).size:Int)<=(P:Int)/\((tx (a++List.replicate i 0)).size:Int)<=8388608:=by omega
    have c1:tx (a++List.replicate i 0)++{data:=#[48]}=tx (a++List.replicate (i+1) 0):=by
     rw[JX,List.append_assoc,List.replicate_succ']
    clear aS bZ;go_wp2;go_roundg (j-(i+1));case measure=>have:=HG.out;omega
    case rel=>exact⟨i+1,by omega,rfl,rfl,by go_num,D⟩
   ·have ei:i=j:=by omega
    subst ei;rcases bW.out with hr|c2
    ·subst hr;go_wp2;go_meet;case rel=>exact⟨rfl,rfl,D⟩
    ·have c3:¬((tx (a++List.replicate i 0)).size:Int)<=(P:Int):=by omega
     cases rest with
     |true=>
      go_wp2;go_meet;case rel=>exact⟨rfl,rfl,D⟩
     |false=>
      go_wp2;go_meet;case rel=>exact⟨rfl,rfl,D⟩
 case rest=>
  obtain⟨rfl,rfl,rfl⟩:=hcut;have ar:Hid (AJ (a++List.replicate j 0)/\vl (a++List.replicate j 0)=vl a*10^j/\(a++List.replicate j 0).length=a.length+j):=⟨BT a j HC.1 HC.2,Bb a j,by simp⟩;have aS:(tx (a++List.replicate j 0)).size=a.length+j:=by rw[AE];simp
  have bb:a.length+j<=235:=by omega
  generalize a++List.replicate j 0=D1 at*
  obtain⟨n1,bc⟩:=zxe (a.length+j);obtain⟨U,be⟩:=zxe (e-(j:Int));have bf:=Ab bc be;rw[bc] at ar aS bb;rw[be];have hx2:-200035<=U/\U<=200000:=by omega
  obtain⟨hn2,b5⟩:0<n1/\(n1:Int)+U=(a.length:Int)+e:=by omega
  have bg:=zq b5;obtain⟨F,bh⟩:=zxe (BX P n1 l U);have b6:max (max 0 ((n1:Int)-(P:Int))) (l-U)=(F:Int):=by rw[<-bh];unfold BX;omega
  have b7:=zq b6;have b8:=zq bh;have b9:(F:Int)<=200000:=by omega
  clear bh b6 bc be b5 bV bW cL;obtain⟨I,Q,V,ca,ak,au,aT,cb,bi,cc⟩:∃(I:AG) (Q:Nat) (V:Bool),(200<F->I=[1]/\Q=200/\V=true)/\(¬200<F->I=D1/\Q=F/\V=rest)/\AJ I/\I.length<=300/\Q<=200/\BC o neg (vl I) Q V=Cw o neg (vl a*10^j) F rest/\BJ (vl I) Q V=Bq (vl a*10^j) F rest:=by
   by_cases h:200<F
   ·refine⟨[1],200,true,λ_=>⟨rfl,rfl,rfl⟩,λc=>absurd h c,BL 1 (by decide) (by decide),by simp,by decide,?_,?_⟩
    ·unfold Cw;rw[zyp h];rfl
    ·unfold Bq;rw[zyp h];rfl
   ·refine⟨D1,F,rest,λc=>absurd c h,λ_=>⟨rfl,rfl,rfl⟩,ar.1,by rw[ar.out.2.2];omega,by omega,?_,?_⟩
    ·unfold Cw;rw[zyn h,ar.out.2.1]
    ·unfold Bq;rw[zyn h,ar.out.2.1]
  have bj:=Ab ca ak;have bk:Hid (cA 190 #[.int .i64 o,.bool neg,.string (tx I),.int .i64 (Q:Int),.bool V] (.tuple #[.string (tx (nt (Cw o neg (vl a*10^j) F rest))),.bool (Bq (vl a*10^j) F rest)])):=λX=>by
   rw[<-bi,<-cc];exact Fh o neg I Q V X au aT cb
  have ah:Hid (AJ (nt (Cw o neg (vl a*10^j) F rest))/\(nt (Cw o neg (vl a*10^j) F rest)).length<=500):=by
   rw[<-bi];exact⟨(B5 _ (Hi o neg (vl I) Q V (AZ I au.1).1 (FS (AZ I au.1).2 (AI _ _ aT))).1 (Hi o neg (vl I) Q V (AZ I au.1).1 (FS (AZ I au.1).2 (AI _ _ aT))).2).1,IU _⟩
  clear ca ak au aT cb bi cc ar;obtain⟨u,ak⟩:=zxe (nt (Cw o neg (vl a*10^j) F rest));obtain⟨W,bm⟩:=zxe (Bq (vl a*10^j) F rest);have bo:=Ab ak bm;rw[ak,bm] at bk;rw[ak] at ah;clear ak bm;have HE:Hid (Ht P b o neg (Bv W (BY P u) (A8 P u (U+F)) q l b P) (CL W (BY P u) (A8 P u (U+F)) q l b P) (Dh W (a.length+e) l P)=FN):=by
   show _=_
   rw[<-bP];show _=CJ P l b o neg a e rest q
   unfold CJ;simp only[bQ.out,bf.out.1,bf.out.2,b8.out,bo.out.1,bo.out.2]
  clear bP bQ bf b8 bo HC HL;go_wp2_with fail;refine(I1 0 ((n1:Int)-(P:Int)) _).mono ?_;rintro x wb ⟨rfl,rfl⟩;go_wp2_with fail;refine(I1 (max 0 ((n1:Int)-(P:Int))) (l-U) _).mono ?_;rintro x wb ⟨rfl,rfl⟩;rw[b7];generalize max (0:Int) ((n1:Int)-(P:Int))=mx at*
  go_upto_if 70 with fail;go_cut [20,21,22] (λd k r v=>d=.string (tx I)/\k=.int .i64 (Q:Int)/\r=.bool V/\v=wb);case first=>
   by_cases h:200<F
   ·obtain⟨q1,q2,q3⟩:=bj.1 h;have h':(200:Int)<(F:Int):=by omega
    have y:Hid (tx I={data:=#[49]}/\(Q:Int)=200/\V=true):=⟨by rw[q1];exact SC,by omega,q3⟩;clear q1 q2 q3 h;go_wp2;go_meet;case rel=>exact⟨by rw[y.out.1],by rw[y.out.2.1],by rw[y.out.2.2],rfl⟩
   ·obtain⟨q1,q2,q3⟩:=bj.2 h;have h':¬(200:Int)<(F:Int):=by omega
    have y:=J9 q1 q2 q3;clear q1 q2 q3 h;go_wp2;go_meet;case rel=>exact⟨by rw[y.out.1],by rw[y.out.2.1],by rw[y.out.2.2],rfl⟩
  case rest=>
   obtain⟨rfl,rfl,rfl,rfl⟩:=hcut;clear bj b7;go_wp2_with fail;refine cm (bk _) λwd Y=>?_;have N:=Ab (HZ.1.below Y HZ.1.lt) (HZ.2.trans (Y.mono HZ.2.size));clear HZ Y bk;have aa:0<u.length:=ah.1.2.1;have ai:u.length<=500:=ah.2;obtain⟨x3,bq⟩:=zxe (U+(F:Int));rw[bq] at HE;have cM:-200035<=x3/\x3<=400000:=by omega
   go_upto_if 86 with fail;go_cut [20,4] (λd x v=>d=.string (tx (BY P u))/\x=.int .i64 (A8 P u x3)/\v=wd);case first=>
    have c5:=AE u;by_cases h:P<u.length
    ·have h':(P:Int)<(u.length:Int):=by omega
     have y:Hid (BY P u=u.take P/\A8 P u x3=x3+1):=⟨by unfold BY;rw[zyp h],by unfold A8;rw[zyp h]⟩;have ht:=C8 u P (by omega);have bZ:(P:Int)<=(u.length:Int):=by omega
     clear h;go_wp2;go_meet;case rel=>exact⟨by rw[y.out.1],by rw[y.out.2],rfl⟩
    ·have h':¬(P:Int)<(u.length:Int):=by omega
     have y:Hid (BY P u=u/\A8 P u x3=x3):=⟨by unfold BY;rw[zyn h],by unfold A8;rw[zyn h]⟩;clear h;go_wp2;go_meet;case rel=>exact⟨by rw[y.out.1],by rw[y.out.2],rfl⟩
   case rest=>
    obtain⟨rfl,rfl,rfl⟩:=hcut;have HT:Hid (Au (BY P u)/\0<(BY P u).length/\(BY P u).length<=500):=by
     show _/\_/\_
     unfold BY;split
     ·exact⟨λx hx=>ah.1.1 x (List.mem_of_mem_take hx),by rw[FQ];omega,by rw[FQ];omega⟩
     ·exact⟨ah.1.1,aa,ai⟩
    have cN:-200035<=A8 P u x3/\A8 P u x3<=400001:=by unfold A8;split<;>omega
    generalize BY P u=p at*
    generalize A8 P u x3=t at*
    clear ah aa ai;have aa:=HT.2.1;have ai:=HT.2.2;go_upto_if 92 with fail;go_cut [20,4,24] (λd x g v=>d=.string (tx (Bv W p t q l b P))/\x=.int .i64 (CL W p t q l b P)/\g=.int .i64 (Dh W (a.length+e) l P)/\v=wc);case first=>
     cases W with
     |true=>
      have y:Hid (Bv true p t q l b P=p/\CL true p t q l b P=t):=⟨rfl,rfl⟩;by_cases h:(a.length:Int)+e<=l+(P:Int)-1
      ·have h':(n1:Int)+U<=l+(P:Int)-1:=by have:=bg.out;omega
       have E2:Hid (Dh true (a.length+e) l P=24):=by show _=_;unfold Dh;rw[zyp rfl,zyp h]
       clear h;go_wp2;go_meet;case rel=>exact⟨by rw[y.out.1],by rw[y.out.2],by rw[E2],rfl⟩
      ·have h':¬(n1:Int)+U<=l+(P:Int)-1:=by have:=bg.out;omega
       have E2:Hid (Dh true (a.length+e) l P=16):=by show _=_;unfold Dh;rw[zyp rfl,zyn h]
       clear h;go_wp2;go_meet;case rel=>exact⟨by rw[y.out.1],by rw[y.out.2],by rw[E2],rfl⟩
     |false=>
      obtain⟨n,hn⟩:=zxe p.length;obtain⟨A,hA⟩:=zxe (fA p t q b);obtain⟨B,hB⟩:=zxe (fB (n-A) P (t+(A:Int)) q l);have y:Hid (Bv false p t q l b P=p.take (n-A)++List.replicate B 0/\CL false p t q l b P=t+(A:Int)-(B:Int)/\Dh false (a.length+e) l P=0):=by
       show _/\_/\_
       unfold Bv CL Dh;rw[hA,hn,hB];exact⟨rfl,rfl,rfl⟩
      have cf:Hid (∀i:Nat,i<A->t+(i:Int)<q/\t+(i:Int)<b/\i+1<n/\p.getD (n-1-i) 0=0):=λi H=>by
       have:=OR p t q b i (by omega);rwa[hn] at this
      have cg:Hid (¬t+(A:Int)<q\/¬t+(A:Int)<b\/n<=A+1\/p.getD (n-1-A) 0≠0):=by
       have:=Ub p t q b aa;rwa[hA,hn] at this
      have cO:A<n:=by have:=OQ p t q b aa;omega
      have ch:Hid (∀i:Nat,i<B->q<t+(A:Int)-(i:Int)/\l<t+(A:Int)-(i:Int)/\n-A+i<P):=λi H=>fs (n-A) P (t+(A:Int)) q l i (by omega);have ci:Hid (¬q<t+(A:Int)-(B:Int)\/¬(n-A+B<P)\/¬l<t+(A:Int)-(B:Int)):=by
       have:=ft (n-A) P (t+(A:Int)) q l;rwa[hB] at this
      have c7:B<=34:=by rw[<-hB];unfold fB;omega
      have HX:Hid (∀k:Nat,k<n->∃S,S=tx (p.take (k+1))/\S.size=k+1/\(∀Z:k<S.size,((S[k]'Z).toNat:Int)=48+p.getD k 0)/\S.extract 0 k=tx (p.take k)/\0<=p.getD k 0/\p.getD k 0<=9):=λk Z=>by
       have hl:(p.take (k+1)).length=k+1:=by rw[FQ];omega
       refine⟨_,rfl,by rw[AE,hl],λh=>?_,?_,Ah p HT.1 k⟩
       ·rw[C7 _ (λx hx=>HT.out.1 x (List.mem_of_mem_take hx)) k h];simp[List.getD,List.getElem?_take_of_lt (Nat.lt_succ_self k)]
       ·rw[C8 _ k (by omega),List.take_take,Nat.min_eq_left (by omega)]
      have ck:Hid (tx p=tx (p.take (n-0))):=by show _=_;rw[Nat.sub_zero,List.take_of_length_le (by omega)]
      rw[hn] at aa ai;have Hn:=zq hn;clear hA hB hn;go_upto_block 2 with fail;go_cut [20,4] (λd x v=>d=.string (tx (p.take (n-A)))/\x=.int .i64 (t+(A:Int))/\v=wc);case first=>
       go_wp2_with fail;go_loopg [20,4] A (λgk d x v=>∃i:Nat,i<=A/\gk=A-i/\d=.string (tx (p.take (n-i)))/\x=.int .i64 (t+(i:Int))/\v=wc);case atStart=>exact⟨0,B9 _,rfl,by rw[ck],by simp,rfl⟩
       case round=>
        obtain⟨i,H,M,rfl,rfl,J⟩:=hrel;have HG:=zq M;have D:=zq J;clear M J;obtain⟨k,Z⟩:=zxe (n-1-i);have al:n-i=k+1:=by omega
        rw[al];obtain⟨S,L,y1,y2,y3,y4,y5⟩:=HX k (by omega);have ac:=zq L;rw[<-L];clear L;obtain⟨m,hm⟩:=zxe (k+1)
        replace y1:=y1.trans hm
        have aX:k<S.size:=by rw[y1];omega
        have aj:=y2 aX;have wm:IntKind.i64.wrap ((m:Int)-1)=(k:Int):=Dn (by omega);obtain⟨km,da⟩:(k:Int)<=(m:Int)/\(k:Int)<(m:Int):=by omega
        have db:¬(k:Int)<0:=by omega
        have HM:=eh hm Z y4 y5;clear y2 y4 y5 hm;by_cases K:i<A
        ·obtain⟨z1,z2,z3,z4⟩:=cf i K;rw[Z] at z4;have y6:(((S[k]'aX).toNat:Int))=48:=by rw[aj,z4];rfl
         have z5:(1:Int)<(m:Int):=by have:=HM.1;omega
         have HK:Hid (n-(i+1)=k):=by show _=_;omega
         clear aj z3 z4 Z al;go_wp2;go_roundg (A-(i+1));case measure=>have:=HG.out;omega
         case rel=>exact⟨i+1,by omega,rfl,by rw[HK],by go_num,D⟩
        ·have ei:i=A:=by omega
         subst ei;have HK:Hid (Value.string S=Value.string (tx (p.take (n-i)))):=by show _=_;rw[al];exact congrArg Value.string ac
         by_cases g1:t+(i:Int)<q
         ·by_cases g2:(1:Int)<(m:Int)
          ·by_cases g3:p.getD k 0=0
           ·have g4:¬t+(i:Int)<b:=by
             rcases cg.out with c|c|c|c
             ·omega
             ·omega
             ·have:=HM.out;omega
             ·rw[Z] at c;exact absurd g3 c
            have y6:(((S[k]'aX).toNat:Int))=48:=by rw[aj,g3];rfl
            clear Z al g3 aj K;go_wp2;go_meet;case rel=>exact⟨HK,rfl,D⟩
           ·have g5:(((S[k]'aX).toNat:Int)==48)=false:=by
             rw[aj];exact beq_eq_false_iff_ne.2 (by omega)
            clear Z al g3 aj K;go_wp2;go_meet;case rel=>exact⟨HK,rfl,D⟩
          ·clear Z al K aj;go_wp2;go_meet;case rel=>exact⟨HK,rfl,D⟩
         ·clear Z al K aj;go_wp2;go_meet;case rel=>exact⟨HK,rfl,D⟩
      case rest=>
       obtain⟨rfl,rfl,rfl⟩:=hcut;have bu:Hid (∀i,i<=B->(tx (p.take (n-A)++List.replicate i 0)).size=n-A+i):=λi H=>by
        have:=Hn.out;rw[AE,Dc,FQ,GG];omega
       have aY:Hid (tx (p.take (n-A))=tx (p.take (n-A)++List.replicate 0 0)):=by show _=_;simp
       clear cf cg HX ck;generalize p.take (n-A)=D4 at*
       obtain⟨m,hm⟩:=zxe (n-A);rw[hm] at bu ch ci;have de:m<=500:=by omega
       have df:-200035<=t+(A:Int)/\t+(A:Int)<=400501:=by omega
       generalize t+(A:Int)=x6 at*
       have cR:Hid (∀i,i<=B->∃S z,S=tx (D4++List.replicate i 0)/\S.size=z/\z=m+i/\S++{data:=#[48]}=tx (D4++List.replicate (i+1) 0)):=λi H=>⟨_,_,rfl,bu i H,rfl,by rw[JX,List.append_assoc,List.replicate_succ']⟩;clear bu hm HT Hn cO aa ai;go_upto_block 4 with fail;go_cut [20,4] (λd x v=>d=.string (tx (D4++List.replicate B 0))/\x=.int .i64 (x6-(B:Int))/\v=wc);case first=>
        go_wp2_with fail;go_loopg [20,4] B (λgk d x v=>∃i:Nat,i<=B/\gk=B-i/\d=.string (tx (D4++List.replicate i 0))/\x=.int .i64 (x6-(i:Int))/\v=wc);case atStart=>exact⟨0,B9 _,rfl,by rw[aY],by simp,rfl⟩
        case round=>
         obtain⟨i,H,M,rfl,rfl,J⟩:=hrel;have HG:=zq M;have D:=zq J;clear M J;obtain⟨S,z,L,y1,O,y3⟩:=cR i H;have ac:=Ab L O;rw[<-L];have b0:z<=600:=by omega
         clear L;by_cases K:i<B
         ·obtain⟨z1,z2,z3⟩:=ch.out i K;obtain⟨z4,z5⟩:(z:Int)<(P:Int)/\(z:Int)<=8388608:=by omega
          clear O z3;go_wp2;go_roundg (B-(i+1));case measure=>have:=HG.out;omega
          case rel=>exact⟨i+1,by omega,rfl,rfl,by go_num,D⟩
         ·have ei:i=B:=by omega
          subst ei;clear K;by_cases g1:q<x6-(i:Int)
          ·by_cases g2:(z:Int)<(P:Int)
           ·have g3:¬l<x6-(i:Int):=by
             rcases ci.out with c|c|c
             ·omega
             ·omega
             ·omega
            clear O;go_wp2;go_meet;case rel=>exact⟨by rw[ac.out.1],rfl,D⟩
           ·clear O;go_wp2;go_meet;case rel=>exact⟨by rw[ac.out.1],rfl,D⟩
          ·clear O;go_wp2;go_meet;case rel=>exact⟨by rw[ac.out.1],rfl,D⟩
       case rest=>
        obtain⟨rfl,rfl,rfl⟩:=hcut;go_wp2;go_meet;case rel=>exact⟨by rw[y.out.1],by rw[y.out.2.1],by rw[y.out.2.2],rfl⟩
    case rest=>
     obtain⟨rfl,rfl,rfl,rfl⟩:=hcut;obtain⟨b1,b2,b3,b4⟩:=Ud W p t q l b P aa ai p2;generalize Bv W p t q l b P=R at*
     generalize CL W p t q l b P=G at*
     generalize Dh W (a.length+e) l P=fl at*
     clear HT aS bg;have cu:-200600<=G/\G<=400600:=by omega
     clear b3 b4 cN cM;obtain⟨n5,aJ⟩:=zxe R.length;obtain⟨C,hC⟩:=zxe (fC n5 P G b);have cv:Hid (∀i:Nat,i<C->b<G-(i:Int)/\n5+i<P):=λi H=>fu n5 P G b i (by omega);have ah:Hid (¬b<G-(C:Int)\/¬(n5+C<P)):=by
      have:=fw n5 P G b;rwa[hC] at this
     have cw:C<=34:=by rw[<-hC];unfold fC;omega
     have a2:Hid ((G-(C:Int)<=b->FN=(1,G-(C:Int),tx (R++List.replicate C 0),fl))/\(¬G-(C:Int)<=b->(FZ o neg=true->FN=(1,b,tx (List.replicate P 9),20))/\(FZ o neg=false->FN=(2,0,{data:=#[]},20)))):=by
      have hx:EZ R G b P=G-(C:Int):=by unfold EZ;rw[aJ,hC]
      have hd:E5 R G b P=R++List.replicate C 0:=by unfold E5;rw[aJ,hC]
      rw[<-HE];unfold Ht;rw[hx,hd];exact⟨λh=>by rw[zyp h],λh=>⟨λg=>by rw[zyn h,g,zyp rfl],λg=>by rw[zyn h,g];rfl⟩⟩
     have cx:Hid (∀i,i<=C->∃S z,S=tx (R++List.replicate i 0)/\S.size=z/\z=n5+i/\S++{data:=#[48]}=tx (R++List.replicate (i+1) 0)):=λi H=>⟨_,_,rfl,by rw[AE,Dc,GG,aJ],rfl,by rw[JX,List.append_assoc,List.replicate_succ']⟩;have aY:Hid (tx R=tx (R++List.replicate 0 0)):=by show _=_;simp
     rw[aJ] at b1 b2;clear hC aJ HE;go_upto_block 6 with fail;go_cut [20,4] (λd x v=>d=.string (tx (R++List.replicate C 0))/\x=.int .i64 (G-(C:Int))/\v=wc);case first=>
      go_wp2_with fail;go_loopg [20,4] C (λgk d x v=>∃i:Nat,i<=C/\gk=C-i/\d=.string (tx (R++List.replicate i 0))/\x=.int .i64 (G-(i:Int))/\v=wc);case atStart=>exact⟨0,B9 _,rfl,by rw[aY],by simp,rfl⟩
      case round=>
       obtain⟨i,H,M,rfl,rfl,J⟩:=hrel;have HG:=zq M;have D:=zq J;clear M J;obtain⟨S,z,L,y1,O,y3⟩:=cx i H;have ac:=Ab L O;rw[<-L];have b0:z<=600:=by omega
       clear L;by_cases K:i<C
       ·obtain⟨z1,z3⟩:=cv.out i K;obtain⟨z4,z5⟩:(z:Int)<(P:Int)/\(z:Int)<=8388608:=by omega
        clear O z3;go_wp2;go_roundg (C-(i+1));case measure=>have:=HG.out;omega
        case rel=>exact⟨i+1,by omega,rfl,rfl,by go_num,D⟩
       ·have ei:i=C:=by omega
        subst ei;clear K;by_cases g1:b<G-(i:Int)
        ·have g2:¬(z:Int)<(P:Int):=by
          rcases ah.out with c|c
          ·omega
          ·omega
         clear O;go_wp2;go_meet;case rel=>exact⟨by rw[ac.out.1],rfl,D⟩
        ·clear O;go_wp2;go_meet;case rel=>exact⟨by rw[ac.out.1],rfl,D⟩
     case rest=>
      obtain⟨rfl,rfl,rfl⟩:=hcut;clear cv ah cx aY;generalize tx (R++List.replicate C 0)=T at*
      have cy:-200700<=G-(C:Int)/\G-(C:Int)<=400600:=by omega
      generalize G-(C:Int)=x8 at*
      by_cases cz:x8<=b
      ·as_aux_lemma=>
       have EF:=zq (a2.1 cz);clear a2;clear hl e1 e2 w1 w2 bN bO bR bb hx2 hn2 b9 bq aa ai cu b2 b1 cw cy p1 l1 l2;go_wp2_with fail;refine cm (Aj neg T x8 _) λwd Y=>?_;have an:=Ab (N.1.below Y N.1.lt) (N.2.trans (Y.mono N.2.size));clear Y N;have cC:=Bt 1 neg x8 T fl wd;go_wp2_with (refine sR an.1 1 neg x8 T fl (Hid.out ?_));refine ON (by assumption) ?_;try simp only[Exit.then]
       refine rR (A1 an.1 1 neg x8 T fl) ?_;exact⟨by rw[EF],AC an.2 (AS _) _⟩
      ·obtain⟨cD,cG⟩:=a2.2 cz;have bB:=zq cD;have bC:=zq cG;clear a2 cD cG;clear hl e1 e2 w1 w2 bN bO bR bb hx2 hn2 b9 bq aa ai cu b2 b1 cw cy p1 l1 l2;go_upto_region 38 with fail;go_cut [185] (λc v=>c=.bool (FZ o neg)/\v=wc);case first=>
        as_aux_lemma=>
         by_cases m2:o=2
         ·have E:Hid (FZ o neg=true):=by show _=_;unfold FZ;rw[Bz m2];rfl
          have cV:(o==2)=true:=by rw[m2];rfl
          clear m2;go_wp2;go_meet;case rel=>exact⟨by rw[E],rfl⟩
         ·have cV:(o==2)=false:=beq_eq_false_iff_ne.2 m2;have ap:=By m2;by_cases m3:o=3
          ·have cH:(o==4)=false:=beq_eq_false_iff_ne.2 (by omega);have E:Hid (FZ o neg= !neg):=by show _=_;unfold FZ;rw[ap,Bz m3,By (show¬o=4 by omega)];cases neg<;>rfl
           have cW:(o==3)=true:=by rw[m3];rfl
           clear m3 m2;cases neg
           ·clear ap;go_wp2;go_meet;case rel=>exact⟨by rw[E];rfl,rfl⟩
           ·clear ap;go_wp2;go_meet;case rel=>exact⟨by rw[E];rfl,rfl⟩
          ·have cW:(o==3)=false:=beq_eq_false_iff_ne.2 m3;have a3:=By m3;by_cases m4:o=4
           ·have E:Hid (FZ o neg=neg):=by show _=_;unfold FZ;rw[ap,a3,Bz m4];cases neg<;>rfl
            have cH:(o==4)=true:=by rw[m4];rfl
            clear ap a3 m4 m3 m2;cases neg
            ·go_wp2;go_meet;case rel=>exact⟨by rw[E],rfl⟩
            ·go_wp2;go_meet;case rel=>exact⟨by rw[E],rfl⟩
           ·have cH:(o==4)=false:=beq_eq_false_iff_ne.2 m4;have E:Hid (FZ o neg=false):=by show _=_;unfold FZ;rw[ap,a3,By m4];cases neg<;>rfl
            clear ap a3;go_wp2;go_meet;case rel=>exact⟨by rw[E],rfl⟩
       case rest=>
        obtain⟨rfl,rfl⟩:=hcut;cases hG:FZ o neg with
        |true=>
         as_aux_lemma=>
          have EF:=zq (bB hG);clear bB bC hG;have cX:Hid (∀i,∃S z,S=tx (List.replicate i 9)/\S.size=z/\z=i/\S++{data:=#[57]}=tx (List.replicate (i+1) 9)):=λi=>⟨_,_,rfl,by rw[AE,GG],rfl,by rw[VN,List.replicate_succ']⟩;go_wp2;go_loopg [25] P (λgk s v=>∃i:Nat,i<=P/\gk=P-i/\s=.string (tx (List.replicate i 9))/\v=wc);case atStart=>exact⟨0,B9 _,rfl,rfl,rfl⟩
          case round=>
           obtain⟨i,H,M,rfl,J⟩:=hrel;have HG:=zq M;clear M;obtain⟨S,z,L,y1,O,y3⟩:=cX i;rw[<-L];have ac:=zq L;clear L;by_cases K:i<P
           ·have D:=zq J;obtain⟨z4,z5⟩:(z:Int)<(P:Int)/\(z:Int)<=8388608:=by omega
            clear O J;go_wp2;go_roundg (P-(i+1));case measure=>have:=HG.out;omega
            case rel=>exact⟨i+1,by omega,rfl,rfl,D⟩
           ·have ei:i=P:=by omega
            subst ei;subst J;have z4:¬(z:Int)<(i:Int):=by omega
            clear O K y3;go_wp2_with fail;refine cm (Aj neg S b _) λwd Y=>?_;have an:=Ab (N.1.below Y N.1.lt) (N.2.trans (Y.mono N.2.size));clear Y N;have cC:=Bt 1 neg b S 20 wd;go_wp2_with (refine sR an.1 1 neg b S 20 (Hid.out ?_));refine ON (by assumption) ?_;try simp only[Exit.then]
            refine rR (A1 an.1 1 neg b S 20) ?_;exact⟨by rw[EF,ac],AC an.2 (AS _) _⟩
        |false=>
         as_aux_lemma=>
          have EF:=zq (bC hG);clear bB bC hG;have dg:=EA neg wc;have cC:=Bt 2 neg 0 {data:=#[]} 20 wc;go_wp2_with (refine sR N.1 2 neg 0 ⟨#[]⟩ 20 (Hid.out ?_));refine ON (by assumption) ?_;try simp only[Exit.then]
          refine rR (A1 N.1 2 neg 0 ⟨#[]⟩ 20) ?_;exact⟨by rw[EF],AC N.2 (AS _) _⟩
end Go.Proofs.YteofommckgeemaaGreatDoor
