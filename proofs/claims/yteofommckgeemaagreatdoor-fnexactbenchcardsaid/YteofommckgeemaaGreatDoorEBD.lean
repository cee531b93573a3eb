/- Steps. -/
import Derived.Test.YteofommckgeemaaGreatDoorEAX
namespace Go.Proofs.YteofommckgeemaaGreatDoor
open Go.RowKit Go.Proofs.Tryz
set_option linter.unusedVariables false
set_option maxRecDepth 100000
set_option maxHeartbeats 8000000
def SK(w:AA)(Fn a b:Nat)(s:AB)(e:Int)(W:AA):Prop:=Z5 W w.heap.size/\W.heap[a]?=some (.cells #[DF Fn] 177 (0,0))/\Ce W b 192 (.string s) (.int .i64 e)/\AD w.heap.size w W/\w.heap.size<a/\a<b
theorem SK.next{w W c:AA}{Fn d b:Nat}{s:AB}{e:Int}(h:SK w Fn d b s e W)(a:AD W.heap.size W c):SK w Fn d b s e c:=
 ⟨h.1.below a h.1.lt,(a.block _ (Nat.lt_trans h.2.2.2.2.2 h.2.2.1.lt)).trans h.2.1,h.2.2.1.below a h.2.2.1.lt,h.2.2.2.1.trans (a.mono h.2.2.2.1.size),h.2.2.2.2⟩
theorem SK.put{w W:AA}{Fn a b:Nat}{s:AB}{e:Int}(h:SK w Fn a b s e W)(d:AB)(f:Int):SK w Fn a b d f (W.setRow b #[.string d,.int .i64 f]):=
 have c:=h.2.2.2.2
 ⟨(setRow_other W b w.heap.size _ (by omega)).trans h.1,(setRow_other W b a _ (by omega)).trans h.2.1,h.2.2.1.row _ _,AC h.2.2.2.1 (by omega) _,c⟩
theorem SK.fn{w W:AA}{Fn a b:Nat}{s:AB}{e:Int}(h:SK w Fn a b s e W):W.cell? ⟨a,0,none⟩=some (DF Fn):=by
 unfold World.cell?;simp only[h.2.1];rfl
theorem SK.alloc{w W:AA}{Fn f b:Nat}{s a:AB}{e d:Int}(h:SK w Fn f b s e W):SK w Fn f W.heap.size a d (W.alloc (.cells #[.string a,.int .i64 d] 192)):=
 have c:=h.next ((BI _ W).alloc (AS _) (.cells #[.string a,.int .i64 d] 192))
 ⟨c.1,c.2.1,GK W _ _ _,c.2.2.2.1,c.2.2.2.2.1,Nat.lt_trans h.2.2.2.2.2 h.2.2.1.lt⟩
theorem WD{w a:AA}{Fn:Nat}{s:AB}{e:Int}(h:Z5 a w.heap.size)(d:AD w.heap.size w a)(W:AA)(f:W=(a.alloc (.cells #[.nilFunc] 177)).setRow a.heap.size #[DF Fn]):
 a.heap.size<W.heap.size/\SK w Fn a.heap.size W.heap.size s e (W.alloc (.cells #[.string s,.int .i64 e] 192)):=by
 subst f;have i:((a.alloc (.cells #[.nilFunc] 177)).setRow a.heap.size #[DF Fn]).heap.size=a.heap.size+1:=by
  show(((a.alloc (.cells #[.nilFunc] 177)).setRow a.heap.size #[DF Fn]).heap).size=_
  rw[show(((a.alloc (.cells #[.nilFunc] 177)).setRow a.heap.size #[DF Fn]).heap).size=(a.alloc (.cells #[.nilFunc] 177)).heap.size by simp[World.setRow],AN]
 have g:((a.alloc (.cells #[.nilFunc] 177)).setRow a.heap.size #[DF Fn]).heap[a.heap.size]?=some (.cells #[DF Fn] 177 (0,0)):=setRow_heap _ _ _ _ _ _ (Gb a (.cells #[.nilFunc] 177));have b:AD a.heap.size a ((a.alloc (.cells #[.nilFunc] 177)).setRow a.heap.size #[DF Fn]):=AC bA (AS _) _;generalize (a.alloc (.cells #[.nilFunc] 177)).setRow a.heap.size #[DF Fn]=W at*
 have c:AD W.heap.size W (W.alloc (.cells #[.string s,.int .i64 e] 192)):=bA;refine⟨by omega,h.below (b.trans (c.mono b.size)) h.lt,(c.block _ (by omega)).trans g,GK W _ _ _,d.trans ((b.trans (c.mono b.size)).mono d.size),h.lt,by omega⟩
theorem G5(e:Int)(w:AA)(h:-200000<=e/\e<=200000):cE 165 #[.int .i64 e] w (.bool true):=by
 obtain⟨a,b⟩:=h;go_enter func165,ntmps165;go_wp2;go_ret;exact⟨rfl,rfl⟩
theorem X8(p:Nat)(b f h:Int)(neg:Bool)(a:AG)(e i:Int)(rest:Bool)(j:rest=true->p<a.length)(c:Nat)(k:BX p a.length b e=c)(d:AG)(l:nt (Cw h neg (vl a) c rest)=d)(g:Bool)(m:Bq (vl a) c rest=g):
 CJ p b f h neg a e rest i=Ht p f h neg (Bv g (BY p d) (A8 p d (e+c)) i b f p) (CL g (BY p d) (A8 p d (e+c)) i b f p) (Dh g (a.length+e) b p):=by
 subst k l m;have n:Di p a.length rest=0:=by
  unfold Di;cases rest with
  |false=>rfl
  |true=>rw[zyp rfl];have:=j rfl;omega
 unfold CJ;simp only[n];simp
theorem NP{T:TypeId}{f:Int}{P:Nat}{k b:Int}(u:Fm T f P k b)(c:Int)(hm:1<=c/\c<=5)(neg:Bool)(a:AG)(e d:Int)(w:AA)(Q:AJ a)(hz:a≠[0])(hl:a.length<=200)(rest:Bool)(hp:rest=true->P<a.length)(he:-200000<=e/\e<=200000)(aw:-200000<=d/\d<=200000):
 cB 88 #[.int .i64 f,.int .i64 c,.bool neg,.string (tx a),.int .i64 e,.bool rest,.int .i64 d] w (BE neg (Al f c neg a e rest d)):=by
 have hq:=u.num;obtain⟨Fn,ay,aW,aX⟩:=D9 c hm;have HG:=zq aW;have HR:=zq aX;clear aW aX;obtain⟨r,af⟩:=zxe (BX P a.length k e);obtain⟨n,ag⟩:=zxe (nt (Cw c neg (vl a) r rest));obtain⟨l,aA⟩:=zxe (Bq (vl a) r rest);have aB:Hid (cA 166 #[.agg #[DF Fn],.iface T (.agg #[]),.bool neg,Mb (tx a) e,.bool rest] (.tuple #[Mb (tx (BY P n)) (A8 P n (e+r)),.bool l])):=λX=>X9 u Fn c ay HG neg a e X Q hl rest hp he r af n ag l aA;have aC:Hid (cA 170 #[.agg #[DF Fn],.iface T (.agg #[]),.bool neg] (if FZ c neg then AH 1 neg b (tx (List.replicate P 9)) else AH 2 neg 0 {data:=#[]})):=λX=>Tj u Fn c hm ay HG neg X;have bj:(r:Int)<=200000:=by rw[<-af];unfold BX;omega
 have E:AJ n/\n.length<=500:=by
  rw[<-ag];refine⟨?_,IU _⟩;have hv:=AZ a Q.1;have v:vl a<10^300:=FS hv.2 (AI _ _ (by omega));unfold Cw;split
  ·have y:(1:Int)<10^300:=FS (by decide:(1:Int)<10^1) (AI 1 300 (by decide));exact(B5 _ (Hi c neg 1 200 true (by decide) y).1 (Hi c neg 1 200 true (by decide) y).2).1
  ·exact(B5 _ (Hi c neg (vl a) r rest hv.1 v).1 (Hi c neg (vl a) r rest hv.1 v).2).1
 have R:Hid (Al f c neg a e rest d=Ht P b c neg (Bv l (BY P n) (A8 P n (e+r)) d k b P) (CL l (BY P n) (A8 P n (e+r)) d k b P) (Dh l (a.length+e) k P)):=by
  show _=_
  unfold Al;rw[zyn hz];have:=X8 P k b c neg a e d rest hp r af n ag l aA;rcases u with⟨-,rfl,rfl,rfl,rfl⟩|⟨-,rfl,rfl,rfl,rfl⟩<;>exact this
 obtain⟨m,aE⟩:=zxe (BY P n);obtain⟨p,aF⟩:=zxe (A8 P n (e+r));have H:Au m/\0<m.length/\m.length<=500:=by
  rw[<-aE];unfold BY;split
  ·exact⟨λx hx=>E.1.1 x (List.mem_of_mem_take hx),by rw[FQ];have:=E.1.2.1;omega,by rw[FQ];have:=E.2;omega⟩
  ·exact⟨E.1.1,E.1.2.1,E.2⟩
 have bm:-200000<=p/\p<=400001:=by rw[<-aF];unfold A8;split<;>omega
 rw[aE,aF] at aB R;have aG:=zq λX=>Q4 u a e X (by omega) (by omega);have aH:=zq λX=>Rb u m p d X H.1 H.2.1 H.2.2 (by omega) aw;obtain⟨q,S⟩:=zxe (Bv l m p d k b P);obtain⟨i,U⟩:=zxe (CL l m p d k b P);obtain⟨I,ah⟩:=zxe (Dh l (a.length+e) k P);have aZ:=Ud l m p d k b P H.2.1 H.2.2 (by omega);rw[S,U] at aZ;rw[S,U,ah] at R;have a0:Hid (cA 169 #[Mb (tx q) i,.iface T (.agg #[]),.int .i64 b] (Mb (tx (E5 q i b P)) (EZ q i b P))):=λX=>NU u q i b X (by omega) (by omega) (by omega);have aI:Hid ((l=true->q=m/\i=p/\I=Dh true (a.length+e) k P)/\(l=false->q=Bv false m p d k b P/\i=CL false m p d k b P/\I=0)):=by
  refine⟨λh=>?_,λh=>?_⟩
  ·subst h;exact⟨S.symm,U.symm,ah.symm⟩
  ·subst h;exact⟨S.symm,U.symm,ah.symm⟩
 have a1:Hid (i<=500000/\-300000<=i):=⟨by omega,by omega⟩;obtain⟨FD,aJ⟩:=zxe (Al f c neg a e rest d);rw[aJ];rw[aJ] at R;have bE:=Bo a Q.1 hz;have a2:Hid (cF 162 #[.string (tx a)] (.bool true)):=λX=>by
  have:=A0 (tx a) X (by rw[AE];omega);rwa[D2 200 a Q (by omega)] at this
 have a3:=zq λX=>G5 e X he;have a5:=zq λX=>G5 d X aw;have V:Hid (Z5 (w.alloc A2) w.heap.size/\AD w.heap.size w (w.alloc A2)):=⟨Af w _ _ _ _ _,bA⟩;clear hp;clear af ag aA bj E aE aF H bm S U ah aZ aJ Q hz hl he aw hm HG ay;rcases u.cases with⟨rfl,bo,bp,ai⟩|⟨rfl,bo,bp,ai⟩
 all_goals
  go_enter func88,ntmps88;go_wp2_with fail;refine ce (OW u _) ?_;go_wp2_with fail;refine cm (HR _) λW aK=>?_;have aL:=Ab (V.1.below aK V.1.lt) (V.2.trans (aK.mono V.2.size));clear aK V HR;have a6:=Gb W (.cells #[.nilFunc] 177);have a7:(#[DF Fn]:Array AK).all (·.oneCell')=true:=by simp[Value.oneCell']
  go_wp2_with (refine wpList_store_row rfl 177 (.tmp 17) (.tmp 32) rfl W.heap.size #[DF Fn] rfl rfl _ _ a6 (by kernel_rfl) rfl a7 ?_);obtain⟨w2,aM⟩:=zxe ((W.alloc (.cells #[.nilFunc] 177)).setRow W.heap.size #[DF Fn]);obtain⟨br,aj⟩:=WD (Fn:=Fn) (s:=tx a) (e:=e) aL.1 aL.2 w2 aM.symm;have aN:=zq aj;have bs:=aj.fn;obtain⟨Y,Z⟩:=aj.2.2.1.cells;rw[aM];clear a6 a7 aM aL br aj;generalize W.heap.size=b1 at*
  refine(a2 _).mono ?_;rintro x z ⟨rfl,rfl⟩;go_wp2_with fail;refine ce (a3 _) ?_;go_wp2_with fail;refine(a5 _).mono ?_;rintro x wz ⟨rfl,rfl⟩;clear a2 a3 a5;have bt:=GM (tx a) e;go_wp2_with fail;refine cm (aB _) λJ L=>?_;have F:Hid (SK w Fn b1 wz.heap.size (tx a) e J/\SK w Fn b1 J.heap.size (tx m) p (J.alloc (.cells #[.string (tx m),.int .i64 p] 192))):=⟨aN.out.next L,(aN.out.next L).alloc⟩;clear L aN aB bs Y Z bt;generalize wz.heap.size=b2 at*
  go_upto_if 88 with fail;generalize L:J.heap.size=b3 at*
  go_cut [21] (λg z=>g=.int .i64 I/\Hid (SK w Fn b1 b3 (tx q) i z));case first=>
   cases l with
   |true=>
    obtain⟨y,h2,h3⟩:=aI.1 rfl;rw[<-h3] at aG;have HE:=Ab y h2;have hq:∀o,(J.alloc o).cell? ⟨b2,0,none⟩=some (.string (tx a))/\(J.alloc o).cell? ⟨b2,1,none⟩=some (.int .i64 e):=λo=>(F.1.next ((BI _ _).alloc (AS _) o)).2.2.1.cells;obtain⟨Y,Z⟩:=hq (.cells #[.string (tx m),.int .i64 p] 192);clear y h2 h3 hq L;go_wp2_with fail;refine cm (aG _) λw4 ac=>?_;have an:=zq (F.2.next ac);clear ac F Y Z;go_wp2;go_meet;case rel=>exact⟨rfl,by rw[HE.out.1,HE.out.2];exact an⟩
   |false=>
    obtain⟨y,h2,h3⟩:=aI.2 rfl;rw[<-y,<-h2] at aH;have HE:=zq h3;obtain⟨Y,Z⟩:=F.2.2.2.1.cells;clear y h2 h3 L;go_wp2_with fail;refine cm (aH _) λw4 ac=>?_;have an:=zq (F.2.next ac);have bv:=zq an.2.2.1;clear ac F Y Z;go_wp2_with (refine sC bv (tx q) i ?_);go_meet;case rel=>exact⟨by rw[HE],an.put _ _⟩
  case rest=>
   obtain⟨rfl,aO⟩:=hcut;clear F aI aG aH;have ba:=dR wc;go_upto_region 13 with fail;refine AM (C:=AD wc.heap.size wc) 4 ba ?_;simp only[Hy,List.take_zero,Ia,List.drop_zero];repeat (refine wpQuiet_step (λK j=>?_);go_simp;first|(refine j _ ?_;clear j K)|(apply Exists.intro;refine⟨λz A=>?_,j _ ?_⟩;(first|exact rfl|(simp only[CG,B3];go_simp;exact Calls.class_of (ai z) (λw' v=>BQ A v))|(obtain⟨q0,q1⟩:=(aO.next A).2.2.1.cells;go_simp;exact rfl));clear j K))
   refine wpQuiet_nil ?_;intro w6 aR;have bc:=zq (aO.next aR);clear aR aO ba;have M:=zq R.symm;have aR:-300000<=EZ q i b P/\EZ q i b P<=500000:=by have:=a1.out;unfold EZ fC;omega
   unfold Ht at M;generalize E5 q i b P=B at*
   generalize EZ q i b P=t at*
   clear R a1;go_wp2_with fail;refine cm (a0 _) λw7 bf=>?_;have aS:=zq (bc.next bf);have bg:=zq aS.2.2.1;clear bf bc a0;go_wp2_with (refine sC bg (tx B) t ?_);have N:Hid (SK w Fn b1 b3 (tx B) t (w7.setRow b3 #[.string (tx B),.int .i64 t])):=aS.out.put _ _;generalize w7.setRow b3 #[.string (tx B),.int .i64 t]=w8 at*
   clear aS bg;have ao:=dR w8;by_cases ap:t<=b
   ·have bx:¬(b<t):=by omega
    rw[zyp ap] at M;clear ap aC;go_upto_region 14 with fail;refine AP (C:=AD w8.heap.size w8) ao.out ?_;repeat (refine wpQuiet_step (λK j=>?_);go_simp;first|(refine j _ ?_;clear j K)|(apply Exists.intro;refine⟨λz A=>?_,j _ ?_⟩;(first|exact rfl|(simp only[CG,B3];go_simp;exact Calls.class_of (ai z) (λw' v=>BQ A v))|(obtain⟨q0,q1⟩:=(N.next A).2.2.1.cells;go_simp;exact rfl));clear j K))
    refine wpQuiet_nil ?_;intro w9 ae;have D:=zq (N.next ae);have bh:=zq D.1;obtain⟨q0,q1⟩:=D.2.2.1.cells;clear ae N ao;have bG:=Cp 1 neg t (tx B);have bi:=Bt 1 neg t (tx B) I;go_wp2_with (refine sR bh 1 neg t (tx B) I ?_);refine rR (A1 bh 1 neg t (tx B) I) ?_;exact⟨by rw[<-M],AC D.2.2.2.1 (AS _) _⟩
   ·have bx:b<t:=by omega
    rw[zyn ap] at M;clear ap;go_upto_region 14 with fail;refine AP (C:=AD w8.heap.size w8) ao.out ?_;repeat (refine wpQuiet_step (λK j=>?_);go_simp;first|(refine j _ ?_;clear j K)|(apply Exists.intro;refine⟨λz A=>?_,j _ ?_⟩;(first|exact rfl|(simp only[CG,B3];go_simp;exact Calls.class_of (ai z) (λw' v=>BQ A v))|(obtain⟨q0,q1⟩:=(N.next A).2.2.1.cells;go_simp;exact rfl));clear j K))
    refine wpQuiet_nil ?_;intro w9 ae;have D:=zq (N.next ae);have bC:=D.fn;clear ae N ao;go_wp2_with fail;refine cm (aC _) λwv aT=>?_;have O:=Ab ((D.next aT).1) ((D.next aT).2.2.2.1);clear aT D bC aC;generalize FZ c neg=G at*
    generalize tx (List.replicate P 9)=NN at*
    cases G with
    |true=>
     have bi:=Bt 1 neg b NN 20;simp only[if_true];go_wp2_with (refine sR O.1 1 neg b NN 20 ?_);refine rR (A1 O.1 1 neg b NN 20) ?_;exact⟨by rw[<-M];rfl,AC O.2 (AS _) _⟩
    |false=>
     have bi:=Bt 2 neg 0 {data:=#[]} 20;simp only[Bool.false_eq_true,if_false];go_wp2_with (refine sR O.1 2 neg 0 ⟨#[]⟩ 20 ?_);refine rR (A1 O.1 2 neg 0 ⟨#[]⟩ 20) ?_;exact⟨by rw[<-M];rfl,AC O.2 (AS _) _⟩
end Go.Proofs.YteofommckgeemaaGreatDoor
