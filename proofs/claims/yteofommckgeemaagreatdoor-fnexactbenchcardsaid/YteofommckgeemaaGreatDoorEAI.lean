/- Steps. -/
import Derived.Test.YteofommckgeemaaGreatDoorEAH
namespace Go.Proofs.YteofommckgeemaaGreatDoor
open Go.RowKit Go.Proofs.Tryz
set_option linter.unusedVariables false
set_option maxRecDepth 100000
set_option maxHeartbeats 8000000
theorem oY(D:AG)(c:Au D)(k:Nat)(e:D.length=k+1):Lib.hasSuffix (tx D).data.toList [48]=decide (D.getD k 0=0):=by
 rw[<-Lib.hasSuffix_of_drop,FP];have f:(D.map λd=>UInt8.ofNat (48+d).toNat).length=k+1:=by simp[e]
 rw[f,Bz (show([48]:List UInt8).length<=k+1 by simp),Bool.true_and];have a:k<D.length:=by omega
 have g:(D.map λd=>UInt8.ofNat (48+d).toNat).drop (k+1-([48]:List UInt8).length)=[UInt8.ofNat (48+D.getD k 0).toNat]:=by
  rw[show k+1-([48]:List UInt8).length=k by simp,<-List.map_drop,List.drop_eq_getElem_cons a,List.drop_eq_nil_of_le (by omega)];simp[List.getD,Dq a]
 rw[g];have b:=Ah D c k;by_cases h:D.getD k 0=0
 ·rw[h,Bz rfl];rfl
 ·rw[By h];have:=λq=>h ((KB (D.getD k 0) 0 ⟨b.1,b.2⟩ (by decide)).1 q);simp only[List.cons_beq_cons,Bool.and_eq_false_iff];exact .inl (beq_eq_false_iff_ne.2 this)
abbrev oe(w:AA)(s:AB)(e:Int):AA:=w.alloc (.cells #[.string s,.int .i64 e] 192)
abbrev mU(w:AA)(s:AB)(e:Int):AA->Prop:=λW=>AD (w.heap.size+1) (oe w s e) W
theorem OB{w:AA}{s:AB}{e:Int}{W:AA}(h:mU w s e W):Ce W w.heap.size 192 (.string s) (.int .i64 e)/\AD w.heap.size w W:=
 ⟨(GK w 192 (.string s) (.int .i64 e)).below h (by omega),bA.trans (h.mono (by omega))⟩
theorem Ey{w:AA}{s:AB}{e:Int}{W a:AA}(h:mU w s e W)(b:AD W.heap.size W a):mU w s e a:=h.trans (b.mono (by have:=h.size;simp at this;exact this))
theorem iW(n:Nat):(⟨(Lib.repeatL [57] n).toArray⟩:AB)=tx (List.replicate n 9):=by
 have e:∀n,Lib.repeatL [57] n=List.replicate n 57:=λn=>by
  have:=Lib.repeatL_replicate 57 1 n;rw[Nat.mul_one] at this;exact this
 apply De;rw[AR,e];simp
theorem Zr(n:Nat)(a:n<=600)(w:AA):
 cB 184 #[.string {data:=#[57]},.int .i64 n] w (.string (tx (List.replicate n 9))):=by
 have:=strings_Repeat {data:=#[57]} n w (by omega) (by show 1*n<=_;omega);rw[show({data:=#[57]}:AB).data.toList=[57] from rfl,iW] at this;exact this
theorem Vk(b:Bool)(w:AA):(Instr.build 249 #[(0,.bool b),(2,.int .i64 3)]).run prog w=.ok (Kj b false 3) w:=run_build w _ _ _ (by kernel_rfl)
theorem V3(a:Int)(neg:Bool)(c:1<=a/\a<=5):V4 a neg false 3= !FZ a neg:=by
 have b:a=1\/a=2\/a=3\/a=4\/a=5:=by omega
 rcases b with rfl|rfl|rfl|rfl|rfl<;>cases neg<;>rfl
theorem Q4{T:TypeId}{f:Int}{P:Nat}{b t:Int}(o:Fm T f P b t)(D:AG)(e:Int)(w:AA)(p:D.length<=600)(q:-1000000<=e/\e<=1000000):
 cB 167 #[.iface T (.agg #[]),Mb (tx D) e] w (.int .i64 (Dh true (D.length+e) b P)):=by
 have F:=o.num;rcases o.cases with⟨rfl,j,k,u⟩|⟨rfl,j,k,u⟩
 all_goals
  have r:Hid (cA 220 #[Mb (tx D) e] (.int .i64 D.length)):=λX=>by
   have:=IX (tx D) e X (by rw[AE];omega);rwa[AE] at this
  have s:Hid (mU w (tx D) e (oe w (tx D) e).drew):=(BI _ _).drew;have v:=zw ((D.length:Int)+e) (by omega);obtain⟨l,m⟩:=zxe ((D.length:Int)+e);rw[m] at v;by_cases h:l<=b+P-1
  ·have E:Hid (Dh true (D.length+e) b P=24):=by show _=_;unfold Dh;rw[m,zyp rfl];exact zyp (by omega)
   rw[E];have x:l<(b+P):=by omega
   have y:=zw (b+(P:Int)) (by omega);clear h q p;go_enter func167,ntmps167;go_upto_region 1 with fail;refine AP (C:=mU w (tx D) e) s ?_;repeat (go_big_quiet_step ((intro c;rename_i d;first|exact rfl|exact Calls.class_of (r d) (λg a=>Ey c a)|(simp only[CU,CF,CN,B7];go_simp;first|exact Calls.class_of (j d) (λg a=>Ey c a)|exact Calls.class_of (k d) (λg a=>Ey c a))|(obtain⟨z,A⟩:=(OB c).1.cells;go_simp;exact rfl))))
   refine wpQuiet_nil ?_;intro B i;have n:=(OB i).2;clear i;go_wp2;go_ret;exact⟨rfl,n⟩
  ·have E:Hid (Dh true (D.length+e) b P=16):=by show _=_;unfold Dh;rw[m,zyp rfl];exact zyn (by omega)
   rw[E];have x:¬l<(b+P):=by omega
   have y:=zw (b+(P:Int)) (by omega);clear h q p;go_enter func167,ntmps167;go_upto_region 1 with fail;refine AP (C:=mU w (tx D) e) s ?_;repeat (go_big_quiet_step ((intro c;rename_i d;first|exact rfl|exact Calls.class_of (r d) (λg a=>Ey c a)|(simp only[CU,CF,CN,B7];go_simp;first|exact Calls.class_of (j d) (λg a=>Ey c a)|exact Calls.class_of (k d) (λg a=>Ey c a))|(obtain⟨z,A⟩:=(OB c).1.cells;go_simp;exact rfl))))
   refine wpQuiet_nil ?_;intro B i;have n:=(OB i).2;clear i;go_wp2;go_ret;exact⟨rfl,n⟩
theorem IM{T:TypeId}{f:Int}{P:Nat}{o a:Int}(k:Fm T f P o a)(neg:Bool)(w:AA):
 cB 175 #[.iface T (.agg #[]),.bool neg] w (AH 1 neg a (tx (List.replicate P 9))):=by
 have q:=k.num;have l:=zq λX=>Zr P (by omega) X;generalize tx (List.replicate P 9)=e at*
 have b:Hid (Z4 (w.alloc VU) w.heap.size/\AD w.heap.size w (w.alloc VU)):=⟨As w _ _ _ _,bA⟩;have r:=Cp 1 neg a e;rcases k.cases with⟨rfl,m,p,n⟩|⟨rfl,m,p,n⟩
 all_goals
  go_enter func175,ntmps175;go_wp2_with fail;refine cm (n _) λs g=>?_;have c:=Ab (b.1.next g) (b.2.trans (g.mono b.2.size));clear g b;go_wp2_with fail;refine cm (m _) λt h=>?_;have d:=Ab (c.1.next h) (c.2.trans (h.mono c.2.size));clear h c;go_wp2_with fail;refine cm (l _) λu i=>?_;have j:=Ab (d.1.next i) (d.2.trans (i.mono d.2.size));clear i d l;go_wp2_with (refine sN j.1 1 neg a e ?_);refine rN ((j.1.row (.int .i64 1) (.bool neg) (.int .i64 a) (.string e)).cells) ?_;exact⟨rfl,AC j.2 (AS _) _⟩
theorem Tj{T:TypeId}{f:Int}{P:Nat}{s c:Int}(e:Fm T f P s c)(Fn:Nat)(a:Int)(t:1<=a/\a<=5)(A:∀args w,(callFunc Fn args).run prog w=.ok (.enter Fn args) w)
 (l:Hid (∀neg m p,(p=0\/p=1\/p=2\/p=3)->cA Fn #[Kj neg m p] (.bool (V4 a neg m p))))
 (neg:Bool) (w:AA):
 cB 170 #[.agg #[DF Fn],.iface T (.agg #[]),.bool neg] w (if FZ a neg then AH 1 neg c (tx (List.replicate P 9)) else AH 2 neg 0 {data:=#[]}):=by
 have B:=e.num;have n:Hid (cA Fn #[Kj neg false 3] (.bool (!FZ a neg))):=λX=>by
  have:=l neg false 3 (by decide) X;rwa[V3 a neg t] at this
 clear l;have o:=zq λX=>IM e neg X;generalize tx (List.replicate P 9)=g at*
 have u:=Vk neg;generalize FZ a neg=G at*
 obtain⟨C,h⟩:=zxe (if G then AH 1 neg c g else AH 2 neg 0 {data:=#[]});have q:=zq h;rw[h];clear h;have v:=Db w (DF Fn) 177 VU;have d:Hid (Z4 ((w.alloc (.cells #[DF Fn] 177)).alloc VU) (w.heap.size+1)/\AD w.heap.size w ((w.alloc (.cells #[DF Fn] 177)).alloc VU)):=by
  have r:=As (w.alloc (.cells #[DF Fn] 177)) (.int .i64 0) (.bool false) (.int .i64 0) (.string ⟨#[]⟩);rw[show(w.alloc (.cells #[DF Fn] 177)).heap.size=w.heap.size+1 from AN _ _] at r;exact⟨r,CC _ _ _⟩
 rcases e.cases with⟨rfl,x,y,z⟩|⟨rfl,x,y,z⟩
 all_goals
  go_enter func170,ntmps170;go_wp2_with fail;refine cm (n _) λD i=>?_;have b:=Ab (d.1.next i) (d.2.trans (i.mono d.2.size));clear i d n v u;cases G with
  |true=>
   simp only[Bool.not_true];go_wp2_with fail;refine cm (o _) λE j=>?_;have k:=Ab (b.1.next j) (b.2.trans (j.mono b.2.size));clear j b o;go_wp2_with (refine sN k.1 1 neg c g ?_);refine rN ((k.1.row (.int .i64 1) (.bool neg) (.int .i64 c) (.string g)).cells) ?_;exact⟨by rw[<-q];rfl,AC k.2 (by omega) _⟩
  |false=>
   have F:=EA neg;simp only[Bool.not_false];go_wp2_with (refine sN b.1 2 neg 0 ⟨#[]⟩ ?_);refine rN ((b.1.row (.int .i64 2) (.bool neg) (.int .i64 0) (.string ⟨#[]⟩)).cells) ?_;exact⟨by rw[<-q];rfl,AC b.2 (by omega) _⟩
theorem Rb{T:TypeId}{f:Int}{P:Nat}{j b:Int}(E:Fm T f P j b)(D:AG)(e a:Int)(w:AA)(hD:Au D)(F:0<D.length)(hl:D.length<=500)(he:-500000<=e/\e<=500000)(aS:-200000<=a/\a<=200000):
 cB 168 #[.iface T (.agg #[]),Mb (tx D) e,.int .i64 a] w (Mb (tx (Bv false D e a j b P)) (CL false D e a j b P)):=by
 have hq:=E.num;obtain⟨n,t⟩:=zxe D.length;obtain⟨A,G⟩:=zxe (fA D e a b);have aU:A<n:=by have:=OQ D e a b F;omega
 have U:Hid (∀i:Nat,i<A->e+(i:Int)<a/\e+(i:Int)<b/\i+1<n/\D.getD (n-1-i) 0=0):=λi H=>by
  have:=OR D e a b i (by omega);rwa[t] at this
 have V:Hid (¬e+(A:Int)<a\/¬e+(A:Int)<b\/n<=A+1\/D.getD (n-1-A) 0≠0):=by
  have:=Ub D e a b F;rwa[G,t] at this
 have Y:Hid (∀k:Nat,k<n->∃S,S=tx (D.take (k+1))/\S.size=k+1/\Lib.hasSuffix S.data.toList [48]=decide (D.getD k 0=0)/\S.extract 0 k=tx (D.take k)):=λk l=>by
  have Z:(D.take (k+1)).length=k+1:=by rw[FQ];omega
  refine⟨_,rfl,by rw[AE,Z],?_,?_⟩
  ·rw[oY _ (λx hx=>hD x (List.mem_of_mem_take hx)) k Z];exact decide_eq_decide.2 (by simp[List.getD,List.getElem?_take_of_lt (Nat.lt_succ_self k)])
  ·rw[C8 _ k (by omega),List.take_take,Nat.min_eq_left (by omega)]
 obtain⟨o,u⟩:=zxe (D.take (n-A));have l4:o.length=n-A:=by rw[<-u,FQ];omega
 obtain⟨H,ab⟩:=zxe (min a b);obtain⟨I,J⟩:=zxe (max a j);have ac:Hid (cA 169 #[Mb (tx o) (e+A),.iface T (.agg #[]),.int .i64 I] (Mb (tx (Bv false D e a j b P)) (CL false D e a j b P))):=λX=>by
  have:=NU E o (e+A) I X (by omega) (by omega) (by omega);have ec:fC o.length P (e+A) I=fB (n-A) P (e+A) a j:=by rw[l4,<-J];unfold fC fB;omega
  rw[ec] at this;unfold Bv CL;rw[zyn Bool.false_ne_true,zyn Bool.false_ne_true,G,t,u];exact this
 generalize Bv false D e a j b P=D5 at*
 generalize CL false D e a j b P=e5 at*
 have v:=Ab ab J;have af:Hid (tx D=tx (D.take (n-0))):=by show _=_;rw[Nat.sub_zero,List.take_of_length_le (by omega)]
 have ag:Hid (tx (D.take (n-A))=tx o):=by show _=_;rw[u]
 have aV:n<=500:=by omega
 obtain⟨ah,ai,aj⟩:=Sh w (tx D) e;have p:=J9 ah ai aj;clear ab J G t u l4 hl F ah ai aj;rcases E.cases with⟨rfl,aC,ak,al⟩|⟨rfl,aC,ak,al⟩
 all_goals
  go_enter func168,ntmps168;go_wp2_with fail;refine cm (al _) λw1 y=>?_;have K:=J9 (p.1.below y p.1.lt) (p.2.1.below y p.2.1.lt) (p.2.2.trans (y.mono p.2.2.size));clear y p;have aD:=v.1;go_upto_block 0 with fail;clear aD;go_cut [] (λg=>Hid (Ce g w.heap.size 192 (.string (tx o)) (.int .i64 (e+(A:Int)))/\Ce g (w.heap.size+1) 192 (.string ⟨#[]⟩) (.int .i64 0)/\AD w.heap.size w g));case first=>
   go_wp2_with fail;go_loopg [] A (λgk g=>∃i:Nat,i<=A/\gk=A-i/\Hid (Ce g w.heap.size 192 (.string (tx (D.take (n-i)))) (.int .i64 (e+(i:Int)))/\Ce g (w.heap.size+1) 192 (.string ⟨#[]⟩) (.int .i64 0)/\AD w.heap.size w g));case atStart=>exact⟨0,B9 _,rfl,by rw[<-af];exact⟨by simpa using K.1,K.2⟩⟩
   case round=>
    obtain⟨i,aX,am,h⟩:=hrel;have HG:=zq am;clear am;obtain⟨k,l⟩:=zxe (n-1-i);have s:n-i=k+1:=by omega
    obtain⟨S,hS,y1,y2,y3⟩:=Y k (by omega);have aq:Hid (Value.string (tx (D.take (n-i)))=Value.string S):=by show _=_;rw[s,<-hS]
    have d:Hid (Ce wr w.heap.size 192 (.string S) (.int .i64 (e+(i:Int)))/\Ce wr (w.heap.size+1) 192 (.string ⟨#[]⟩) (.int .i64 0)/\AD w.heap.size w wr):=by
     have:=h.out;rw[aq] at this;exact this
    obtain⟨q0,q1⟩:=d.1.cells;have q:Hid (cF 223 #[.string S,.string {data:=#[48]}] (.bool (decide (D.getD k 0=0)))):=λX=>by
     have:=strings_HasSuffix S {data:=#[48]} X (by omega);rw[show({data:=#[48]}:AB).data.toList=[48] from rfl,y2] at this;exact this
    obtain⟨m,L⟩:=zxe (k+1)
    replace y1:=y1.trans L
    have wm:IntKind.i64.wrap ((m:Int)-1)=(k:Int):=Dn (by omega);obtain⟨km,a1⟩:(k:Int)<=(m:Int)/\¬(k:Int)<0:=by omega
    have HM:=Ab L l;clear y2 h hS L;by_cases z:i<A
    ·obtain⟨z1,z2,z3,M⟩:=U i z;rw[l] at M;have g1:e+(i:Int)<H:=by have:=v.1;omega
     have g2:(1:Int)<(m:Int):=by have:=HM.1;omega
     have we:IntKind.i64.wrap (e+(i:Int)+1)=e+((i+1:Nat):Int):=Dn (by omega);have N:Hid (cF 223 #[.string S,.string {data:=#[48]}] (.bool true)):=by
      have:=q.out;rw[Bz M] at this;exact this
     have HK:Hid (n-(i+1)=k):=by show _=_;omega
     have a3:=GM (tx (D.take k)) (e+((i+1:Nat):Int));clear z1 z2 z3 M l s q;go_wp2_with fail;refine(N _).mono ?_;rintro x wy ⟨rfl,rfl⟩;go_upto_region 3 with fail;refine AM (C:=λW=>W=wy.drew) 10 rfl ?_;simp only[Hy,List.take_zero,Ia,List.drop_zero];repeat (go_big_quiet_step ((intro B;rename_i g;first|exact rfl|(subst B;go_simp;exact rfl))))
     refine wpQuiet_nil ?_;intro wz hz;subst hz;have r:=zq d.1;go_wp2_with (refine sC r (tx (D.take k)) (e+((i+1:Nat):Int)) ?_);go_roundg (A-(i+1));case measure=>have:=HG.out;omega
     case rel=>exact⟨i+1,by omega,rfl,by rw[HK];exact r.row _ _,(show Ce wy.drew (w.heap.size+1) _ _ _ from d.2.1).other (by omega) _,AC (d.2.2.drew) (AS _) _⟩
    ·have ei:i=A:=by omega
     subst ei;have O:Hid (Ce wr w.heap.size 192 (.string (tx o)) (.int .i64 (e+(i:Int)))/\Ce wr (w.heap.size+1) 192 (.string ⟨#[]⟩) (.int .i64 0)/\AD w.heap.size w wr):=by
      have:=d.out;rw[<-aq,ag] at this;exact this
     by_cases g1:e+(i:Int)<H
     ·by_cases g2:(1:Int)<(m:Int)
      ·have g3:¬D.getD k 0=0:=by
        have h1:=v.1;have h2:=HM.out;rcases V.out with c|c|c|c
        ·omega
        ·omega
        ·omega
        ·rw[l] at c;exact c
       have N:Hid (cF 223 #[.string S,.string {data:=#[48]}] (.bool false)):=by
        have:=q.out;rw[By g3] at this;exact this
       clear l s q g3 z;go_wp2_with fail;refine ce (N _) ?_;go_wp2;go_meet;case rel=>exact O
      ·clear l s z q;go_wp2;go_meet;case rel=>exact O
     ·clear l s z q;go_wp2;go_meet;case rel=>exact O
  case rest=>
   have h:=hcut;have aw:=dR wc;have a8:=v.2;clear hcut K U V Y af ag;go_upto_region 4 with fail;refine AM (C:=AD wc.heap.size wc) 6 aw ?_;simp only[Hy,List.take_zero,Ia,List.drop_zero];repeat (go_big_quiet_step ((intro B;rename_i g;first|exact rfl|(simp only[CN,B7];go_simp;exact Calls.class_of (ak g) (λw' hb=>BQ B hb))|(obtain⟨q0,q1⟩:=(h.1.below B h.1.lt).cells;go_simp;exact rfl))))
   refine wpQuiet_nil ?_;intro w2 Q;have d:=Ab (h.2.1.below Q h.2.1.lt) (h.2.2.trans (Q.mono h.2.2.size));clear Q h aw;go_wp2_with fail;refine cm (ac _) λw3 R=>?_;have r:=Ab (d.1.below R d.1.lt) (d.2.trans (R.mono d.2.size));clear R d ac;go_wp2_with (refine sC r.1 (tx D5) e5 ?_);have hP:=(r.1.row (.string (tx D5)) (.int .i64 e5)).cells;refine Do (IV rfl _ _ rfl hP.1 hP.2) rfl ?_;exact⟨rfl,AC r.2 (by omega) _⟩
end Go.Proofs.YteofommckgeemaaGreatDoor
