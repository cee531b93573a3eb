/- Steps. -/
import Derived.Test.YteofommckgeemaaGreatDoorEAF
import Derived.Test.YteofommckgeemaaGreatDoorEAD
import Derived.Test.YteofommckgeemaaGreatDoorEAL
import Derived.Test.YteofommckgeemaaGreatDoorEAM
namespace Go.Proofs.YteofommckgeemaaGreatDoor
open Go.RowKit Go.Proofs.Tryz
set_option linter.unusedVariables false
set_option linter.unusedSimpArgs false
set_option maxRecDepth 100000
set_option maxHeartbeats 8000000
def Ev(w:AA):Prop:=Lib.TabIs prog w "internal/strconv.uint64pow10" .u64 Lib.pow10Tab
theorem mm:prog.globalNamed "internal/strconv.uint64pow10"=some 3:=by kernel_rfl
theorem Ev.next{w a:AA}(h:Ev w)(b:AD w.heap.size w a):Ev a:=Go.Joins.tab_stays mm h b (AS _)
theorem UJ(w:AA)(k:Nat)(a:Array Obj):AD w.heap.size w (Go.Sort.grow (w.drewN k) a):=
 ⟨rfl,rfl,rfl,by show w.heap.size<=(w.heap++a).size;rw[Array.size_append];omega,λj b=>by show(w.heap++a)[j]?=w.heap[j]?;exact Array.getElem?_append_left b⟩
theorem Fc(n:Int)(h:-7000<=n/\n<=7000)(w:AA)(a:Ev w):cB 103 #[.int .i64 n,.int .i64 10] w (.string ⟨(Lib.itoa n).toArray⟩):=by
 refine(strconv_FormatInt_10 n (by omega) (by omega) w a).mono ?_;rintro e b ⟨rfl,k,c,rfl⟩;exact⟨rfl,UJ _ _ _⟩
theorem NS(n:Int)(h:n<0):(⟨(Lib.itoa n).toArray⟩:AB)={data:=#[45]}++tx (Jc (-n).toNat):=by
 unfold Lib.itoa;rw[zyp h,Xo,show n.natAbs=(-n).toNat by omega];apply De;rw[ByteArray.data_append];show _=#[45]++(Lib.decDigits (-n).toNat).toArray
 simp
theorem Jr(n:Int)(h:¬n<0):(⟨(Lib.itoa n).toArray⟩:AB)=tx (Jc n.toNat):=by
 unfold Lib.itoa;rw[zyn h,Xo]
theorem IK(A B:AG)(b:A.length<=100)(c:B.length<=100)(w:AA):cE 252 #[.string (tx A),.string (tx B)] w (.string (KR A B)):=by
 have d:=AE A;have f:=AE B;have a:(tx B).toList.isEmpty=decide (B=[]):=by
  rw[ByteArray.toList_eq,AR];cases B<;>rfl
 by_cases h:B=[]
 ·have e:KR A B=tx A:=by rw[h,PO]
  rw[Bz h] at a;rw[e];clear e h;go_enter func252,ntmps252;go_wp2;go_ret;exact⟨rfl,rfl⟩
 ·have e:KR A B=tx A++{data:=#[46]}++tx B:=by unfold KR;rw[zyn h]
  rw[By h] at a;rw[e];clear e h;go_enter func252,ntmps252;go_wp2;go_ret;exact⟨rfl,rfl⟩
theorem Pr(x:Int)(h:-7000<=x/\x<=7000)(w:AA)(c:Ev w):cB 254 #[.int .i64 x] w (.string (Re x)):=by
 have d:=zq λX q=>Fc x h X q;have f:=zq c;clear c;by_cases a:x<0
 ·have e:Re x=(⟨(Lib.itoa x).toArray⟩:AB):=by rw[NS x a];unfold Re;rw[zyp a]
  rw[e];clear e;generalize (⟨(Lib.itoa x).toArray⟩:AB)=T at*
  go_enter func254,ntmps254;go_wp2_with fail;refine cm (d _ f) λg b=>?_;go_wp2;go_ret;exact⟨rfl,b⟩
 ·have e:Re x={data:=#[43]}++(⟨(Lib.itoa x).toArray⟩:AB):=by rw[Jr x a];unfold Re;rw[zyn a]
  have i:(⟨(Lib.itoa x).toArray⟩:AB).size<=4:=by rw[Jr x a,AE];exact FY _ (by omega)
  rw[e];clear e;generalize (⟨(Lib.itoa x).toArray⟩:AB)=T at*
  go_enter func254,ntmps254;go_wp2_with fail;refine cm (d _ f) λg b=>?_;go_wp2;go_ret;exact⟨rfl,b⟩
theorem Rf(x:Int)(h:-7000<=x/\x<=7000):(Re x).size<=5:=by
 unfold Re;split
 ·rw[ByteArray.size_append,AE];have:=FY (-x).toNat (by omega);show 1+_<=_;omega
 ·rw[ByteArray.size_append,AE];have:=FY x.toNat (by omega);show 1+_<=_;omega
theorem L9(A B:AG)(a:A.length<=100)(b:B.length<=100):(KR A B).size<=201:=by
 unfold KR;split
 ·rw[AE];omega
 ·rw[ByteArray.size_append,ByteArray.size_append,AE,AE];show _+1+_<=_;omega
theorem YH(e:Int)(L:AG)(a:0<L.length)(b:L.length<=34)(c:-6176<=e/\e<=6111):(Su e L).size<=300:=by
 unfold Su;split
 ·rename_i h;have:=C9 ((-e).toNat+1) L;have:=L9 ((Ak ((-e).toNat+1) L).take ((Ak ((-e).toNat+1) L).length-(-e).toNat)) ((Ak ((-e).toNat+1) L).drop ((Ak ((-e).toNat+1) L).length-(-e).toNat)) (by rw[FQ];omega) (by rw[List.length_drop];omega);omega
 ·have d:=L9 (L.take 1) (L.drop 1) (by rw[FQ];omega) (by rw[List.length_drop];omega);have f:=Rf ((L.length:Int)-1+e) (by omega);rw[ByteArray.size_append,ByteArray.size_append];show _+1+_<=_
  omega
theorem eX(k:Int)(b:Bool)(e:Int)(s:AB)(h:AQ 128 k b e s=true):(P3 k e s).size<=300:=by
 rcases Jz k b e s h with⟨rfl,g,a,c,d,f⟩|rfl|⟨rfl,rfl⟩|⟨rfl,rfl⟩
 ·exact YH e (dl s) a c ⟨d,f⟩
 ·unfold P3;rw[zyp rfl];decide
 ·unfold P3;rw[zyn (by decide),zyp rfl];decide
 ·unfold P3;rw[zyn (by decide),zyn (by decide),zyp rfl];decide
theorem NF(b:Bool)(k:Nat)(L:AG)(l:0<L.length)(m:L.length<=34)(c:-6<=(L.length:Int)-1-k)(w:AA):
 cB 210 #[AH 1 b (-(k:Int)) (tx L)] w (.string (Su (-(k:Int)) L)):=by
 have e:=C9 (k+1) L;obtain⟨n,a⟩:∃n,(Ak (k+1) L).length=n+k:=⟨(Ak (k+1) L).length-k,by omega⟩;rw[QX k L c n a];have f:=zq λX=>Yf L k n (by omega) (by omega) a X;have g:Hid (cF 252 #[.string (tx ((Ak (k+1) L).take n)),.string (tx ((Ak (k+1) L).drop n))] (.string (KR ((Ak (k+1) L).take n) ((Ak (k+1) L).drop n)))):=λX=>IK _ _ (by rw[FQ];omega) (by rw[List.length_drop];omega) X;generalize tx ((Ak (k+1) L).take n)=o at*
 generalize tx ((Ak (k+1) L).drop n)=p at*
 generalize KR ((Ak (k+1) L).take n) ((Ak (k+1) L).drop n)=q at*
 have d:=CE w (.int .i64 1) (.bool b) (.int .i64 (-(k:Int))) (.string (tx L));have h:Hid (F9 (w.alloc (AY 1 b (-(k:Int)) (tx L))) w.heap.size (.int .i64 1) (.bool b) (.int .i64 (-(k:Int))) (.string (tx L))/\AD w.heap.size w (w.alloc (AY 1 b (-(k:Int)) (tx L)))):=⟨d,bA⟩;have i:=zw ((L.length:Int)-1) (by omega);have r:=zw ((L.length:Int)-1+-(k:Int)) (by omega);have s:IntKind.i64.wrap ((k:Int))=(k:Int):=Dn (by omega);obtain⟨t,u⟩:-6<=(L.length:Int)-1+-(k:Int)/\-(k:Int)<=0:=by omega
 have v:=AE L;clear d e a c;go_enter func210,ntmps210;go_wp2_with fail;refine cm (f _) λi j=>?_;go_wp2_with fail;refine ce (g _) ?_;go_wp2;go_ret;exact⟨rfl,BQ h.2 j⟩
theorem Pp(b:Bool)(e:Int)(L:AG)(M:0<L.length)(N:L.length<=34)(O:-6176<=e/\e<=6111)(f:¬(e<=0/\-6<=(L.length:Int)-1+e))(w:AA)(o:Ev w):
 cB 210 #[AH 1 b e (tx L)] w (.string (Su e L)):=by
 rw[Ug e L f];have P:=C8 L 1 (by omega);have z:=Hm L 1 (by omega);have A:=AE L;rw[A] at z;obtain⟨x,B⟩:=zxe ((L.length:Int)-1+e);have p:-7000<=x/\x<=7000:=by omega
 have r:Hid (cF 252 #[.string (tx (L.take 1)),.string (tx (L.drop 1))] (.string (KR (L.take 1) (L.drop 1)))):=λX=>IK _ _ (by rw[FQ];omega) (by rw[List.length_drop];omega) X;have s:=zq λX q=>Pr x p X q;have Q:=L9 (L.take 1) (L.drop 1) (by rw[FQ];omega) (by rw[List.length_drop];omega);have R:=Rf x p;have t:=CE w (.int .i64 1) (.bool b) (.int .i64 e) (.string (tx L));have c:Hid (F9 (w.alloc (AY 1 b e (tx L))) w.heap.size (.int .i64 1) (.bool b) (.int .i64 e) (.string (tx L))/\AD w.heap.size w (w.alloc (AY 1 b e (tx L)))):=⟨t,bA⟩;have u:=zq o;have S:=zw ((L.length:Int)-1) (by omega);have i:=zw ((L.length:Int)-1+e) (by omega);have T:(1:Int)<=L.length:=by omega
 rw[B] at i f ⊢;have U:=zq f;have j:Hid (e<=0->x< -6):=λq=>by omega
 generalize tx (L.take 1)=V at*
 generalize tx (L.drop 1)=W at*
 generalize KR (L.take 1) (L.drop 1)=v at*
 generalize Re x=D at*
 generalize tx L=g at*
 clear t f o;obtain⟨Y,Z⟩:¬9223372036854775807<v.size+1/\¬9223372036854775807<v.size+1+D.size:=by omega
 have y:Hid (∀h:AA,AD h.heap.size h h.drew):=λh=>(BI _ _).drew;by_cases E:e<=0
 ·have c4:=j E;clear j;go_enter func210,ntmps210;go_upto_region 11 with fail;have k:=zq (u.next c.2);have l:Hid (w.heap.size<(w.alloc (AY 1 b e g)).heap.size):=by show _<_;simp
  generalize (w.alloc (AY 1 b e g))=w0 at*
  refine AP (C:=AD w0.heap.size w0) (y w0) ?_;repeat (go_big_quiet_step ((intro a;rename_i d;first|exact rfl|((with_reducible refine Calls.class_of (s.out d (k.out.next a)) ?_);exactλw' m=>BQ a m)|((with_reducible refine(r.out d).mono ?_);rintro x F ⟨rfl,rfl⟩;exact⟨rfl,a⟩)|(obtain⟨G,H,I,J,K⟩:=c.out.1.below a l.out;go_simp;exact rfl))))
  refine wpQuiet_nil ?_;intro i n;go_wp2;go_ret;exact⟨rfl,BQ c.2 n⟩
 ·clear j;go_enter func210,ntmps210;go_upto_region 11 with fail;have k:=zq (u.next c.2);have l:Hid (w.heap.size<(w.alloc (AY 1 b e g)).heap.size):=by show _<_;simp
  generalize (w.alloc (AY 1 b e g))=w0 at*
  refine AP (C:=AD w0.heap.size w0) (y w0) ?_;repeat (go_big_quiet_step ((intro a;rename_i d;first|exact rfl|((with_reducible refine Calls.class_of (s.out d (k.out.next a)) ?_);exactλw' m=>BQ a m)|((with_reducible refine(r.out d).mono ?_);rintro x F ⟨rfl,rfl⟩;exact⟨rfl,a⟩)|(obtain⟨G,H,I,J,K⟩:=c.out.1.below a l.out;go_simp;exact rfl))))
  refine wpQuiet_nil ?_;intro i n;go_wp2;go_ret;exact⟨rfl,BQ c.2 n⟩
theorem Po(k:Int)(b:Bool)(e:Int)(s:AB)(a:AQ 128 k b e s=true)(w:AA)(c:Ev w):
 cB 210 #[AH k b e s] w (.string (P3 k e s)):=by
 rcases Jz k b e s a with⟨rfl,g,d,f,h,i⟩|j
 ·have l:P3 1 e s=Su e (dl s):=by unfold P3;rw[zyn (by decide),zyn (by decide),zyn (by decide)]
  rw[l];generalize dl s=L at*
  subst g;by_cases n:e<=0/\-6<=(L.length:Int)-1+e
  ·obtain⟨m,rfl⟩:∃m:Nat,e=-(m:Int):=⟨(-e).toNat,by omega⟩;exact NF b m L d f (by omega) w
  ·exact Pp b e L d f ⟨h,i⟩ n w c
 ·clear a c;rcases j with rfl|⟨rfl,rfl⟩|⟨rfl,rfl⟩
  all_goals
   go_enter func210,ntmps210;go_wp2;go_ret;exact⟨rfl,bA⟩
theorem Ol(k:Int)(b:Bool)(e:Int)(s:AB)(w:AA)(d:s.size<=4611686018427387904)(j:Ev w):
 cB 150 #[AH k b e s] w (.string (FI k b e s)):=by
 have l:=zq j;clear j;cases hO:AQ 128 k b e s with
 |false=>
  have f:Hid (cA 152 #[.int .i64 128,AH k b e s] (.bool false)):=λX=>by
   have:=EM 128 k b e s X d;rwa[hO] at this
  have a:FI k b e s={data:=#[]}:=by unfold FI;rw[hO];rfl
  rw[a];clear a hO d;go_enter func150,ntmps150;go_wp2_with fail;refine cm (f _) λn c=>?_;go_wp2;go_ret;exact⟨rfl,BQ bA c⟩
 |true=>
  have a:FI k b e s=DB b++P3 k e s:=by unfold FI;rw[hO];rfl
  rw[a];have f:Hid (cA 152 #[.int .i64 128,AH k b e s] (.bool true)):=λX=>by
   have:=EM 128 k b e s X d;rwa[hO] at this
  have A:=eX k b e s hO;have o:=zq λX q=>Po k b e s hO X q;have h:Hid (cA 209 #[.string (DB b++P3 k e s)] (.string (DB b++P3 k e s))):=λX=>YZ (DB b++P3 k e s) X (by
   rw[ByteArray.size_append];have:(DB b).size<=1:=by cases b<;>decide
   omega)
  generalize P3 k e s=B at*
  have m:=CE w (.int .i64 k) (.bool b) (.int .i64 e) (.string s);have g:Hid (F9 (w.alloc (AY k b e s)) w.heap.size (.int .i64 k) (.bool b) (.int .i64 e) (.string s)/\AD w.heap.size w (w.alloc (AY k b e s))):=⟨m,bA⟩;clear m hO d a;cases b
  all_goals
   first|rw[KX] at h ⊢|rw[KY] at h ⊢
   go_enter func150,ntmps150;go_wp2_with fail;refine cm (f _) λn c=>?_;have i:=Ab (g.1.below c (by simp)) (g.2.trans (c.mono g.2.size));have p:=zq (l.next i.2);obtain⟨r,t,u,v,x⟩:=i.1;clear c g f l;go_wp2_with fail;refine cm (o _ p) λC y=>?_;clear r t u v x;go_wp2_with fail;refine cm (h _) λD z=>?_;go_wp2;go_ret;exact⟨rfl,BQ (BQ i.2 y) z⟩
abbrev El(n:Int):AB:=⟨(Lib.itoa n).toArray⟩
def XG:AG:=[1,2,3,4,5,64,128]
def jR(s:AB)(n:Int)(b:Bool):Prop:=∀k∈XG,(b=true/\n=k)↔s=El k
def EV(w:AA):Prop:=(∃te a,w.cell? ⟨6,0,none⟩=some (.iface te a))/\∃te a,w.cell? ⟨7,0,none⟩=some (.iface te a)
theorem EV.next{W e:AA}(h:EV W)(f:AD W.heap.size W e):EV e:=by
 obtain⟨⟨a,b,g⟩,c,d,i⟩:=h;exact⟨⟨a,b,(f.cell (p:=⟨6,0,none⟩) (World.block_lt_of_cell? _ _ g)).trans g⟩,c,d,(f.cell (p:=⟨7,0,none⟩) (World.block_lt_of_cell? _ _ i)).trans i⟩
theorem Zb(l:List UInt8)(v:Int)(h:Lib.parseIntB 64 l=.ok v):-9223372036854775808<=v/\v<=9223372036854775807:=by
 cases l with
 |nil=>cases h
 |cons c r=>
  simp only[Lib.parseIntB] at h;generalize Lib.parseUintB 64 (if c.toNat=43\/c.toNat=45 then r else c::r)=P at h;cases P with
  |«syntax»=>cases h
  |range=>cases h
  |ok u=>
   dsimp only at h;split at h
   ·cases h
   ·split at h
    ·cases h
    ·cases h
     split<;>omega
theorem Gj:∀k∈XG,Lib.parseIntB 64 (El k).data.toList=.ok k:=by
 intro k a;simp only[XG,List.mem_cons,List.not_mem_nil,or_false] at a;rcases a with rfl|rfl|rfl|rfl|rfl|rfl|rfl<;>kernel_rfl
theorem Ul(a b:Int)(d:a∈XG)(e:b∈XG)(h:El a=El b):a=b:=by
 have c:=Gj a d;rw[h,Gj b e] at c;cases c;rfl
theorem PK(s:AB)(l:s.size<=100000)(w:AA)(i:EV w):Calls prog 203 #[.string s,.int .i64 10,.int .i64 64] w λe f=>((∃v,Lib.parseIntB 64 s.data.toList=.ok v/\e=.returned (.tuple #[.int .i64 v,.nilIface]))\/((∀v,Lib.parseIntB 64 s.data.toList≠.ok v)/\∃n T p,e=.returned (.tuple #[.int .i64 n,.iface T p])))/\AD w.heap.size w f:=by
 obtain⟨⟨a,b,j⟩,c,d,k⟩:=i;cases h:Lib.parseIntB 64 s.data.toList with
 |ok v=>
  refine(strconv_ParseInt_10_at64_ok s (by omega) v h w).mono ?_;rintro e f ⟨rfl,rfl|⟨t,rfl⟩⟩
  ·exact⟨.inl ⟨v,rfl,rfl⟩,BI _ _⟩
  ·exact⟨.inl ⟨v,rfl,rfl⟩,Lib.bytesWorld_below _ _ _⟩
 |«syntax»=>
  refine(strconv_ParseInt_10_at64_syntax s (by omega) h _ w j (.inr ⟨_,_,rfl⟩)).mono ?_;rintro e f ⟨N,rfl,-,-,g⟩;exact⟨.inr ⟨(by intro v q;cases q),_,_,_,rfl⟩,g⟩
 |range=>
  refine(strconv_ParseInt_10_at64_range s (by omega) h _ w k (.inr ⟨_,_,rfl⟩)).mono ?_;rintro e f ⟨N,rfl,-,-,g⟩;exact⟨.inr ⟨(by intro v q;cases q),_,_,_,rfl⟩,g⟩
theorem l8(a b:AB)(h:a≠b):(a.toList==b.toList)=false:=by
 rw[ByteArray.toList_eq,ByteArray.toList_eq];exact beq_eq_false_iff_ne.2 λe=>h (De (Array.ext' e))
theorem ME(s:AB)(z:s.size<=100000)(w:AA)(t:EV w)(u:Ev w):Calls prog 147 #[.string s] w λe x=>(∃n b,e=.returned (.tuple #[.int .i64 n,.bool b])/\Hid (jR s n b))/\AD w.heap.size w x:=by
 have j:=zq (PK s z w t);have l:Hid (∀X,AD w.heap.size w X->Ev X):=λX A=>u.next A;clear t u;go_enter func147,ntmps147;go_wp2_with fail;refine j.mono ?_;rintro e y ⟨⟨v,c,rfl⟩|⟨c,n,T,p,rfl⟩,hb1⟩
 ·have a:=zq hb1;have m:=Zb _ _ c;have o:Hid (cB 103 #[.int .i64 v,.int .i64 10] y (.string (El v))):=(strconv_FormatInt_10 v m.1 m.2 y (l _ a)).mono (by rintro e x ⟨rfl,k,C,rfl⟩;exact⟨rfl,UJ _ _ _⟩);have i:=zq c;clear c hb1 m j l;by_cases h:El v=s
  ·have d:Hid (jR s v true):=λk f=>⟨λq=>by rw[<-q.2];exact h.symm,λq=>⟨rfl,by have g:=i.out;rw[q,Gj k f] at g;cases g;rfl⟩⟩;rw[h] at o;clear h i;go_wp2_with (first|(go_at_call 103;refine o.mono ?_;rintro e B ⟨rfl,r⟩)|go_in);go_ret2;exact⟨⟨_,_,rfl,d⟩,a.trans (r.mono a.size)⟩
  ·have d:Hid (jR s 0 false):=λk f=>⟨λq=>absurd q.1 Bool.false_ne_true,λq=>by
    have g:=i.out;rw[q,Gj k f] at g;cases g;exact absurd q.symm h⟩
   have D:=l8 _ _ h;generalize El v=V at*
   clear h i;go_wp2_with (first|(go_at_call 103;refine o.mono ?_;rintro e B ⟨rfl,r⟩)|go_in);go_ret2;exact⟨⟨_,_,rfl,d⟩,a.trans (r.mono a.size)⟩
 ·have d:Hid (jR s 0 false):=λk f=>⟨λq=>absurd q.1 Bool.false_ne_true,λq=>absurd (by rw[q];exact Gj k f) (c k)⟩;have a:=zq hb1;clear c hb1 j l;go_wp2;go_ret2;exact⟨⟨_,_,rfl,d⟩,a⟩
theorem kd(Z:Int)(S:AG)(b:Au S)(g:Nat)(D:AG)(a:∀k,k<g->D.getD k 0=E0 (fJ S k))(k:Nat)(c:k<=g):jn Z D k=Z*2^(10*k)+kB S k:=by
 induction k with
 |zero=>simp[jn,kB]
 |succ k ih=>
  unfold jn;rw[ih (by omega),a k (by omega),show 10*(k+1)=10*k+10 by omega,Cv,show(2:Int)^10=1024 by decide];simp only[kB];rw[Int.add_mul,Int.mul_assoc,Int.add_assoc]
theorem UY(S:AG)(g k:Nat)(h:k<g):(Iq (S.drop 1) g).getD k 0=E0 (fJ S k):=by
 rw[kF _ g k h,GP,GP,GP];unfold fJ;rw[show 1+(3*k+1)=1+3*k+1 by omega,show 1+(3*k+2)=1+3*k+2 by omega]
theorem Xx(S:AG)(a:Au S)(g i:Nat):0<=(Iq (S.drop 1) g).getD i 0/\(Iq (S.drop 1) g).getD i 0<1024:=by
 by_cases h:i<g
 ·rw[UY S g i h];have:=UV S a i;omega
 ·rw[List.getD,List.getElem?_eq_none (by rw[Dw];omega)];simp
theorem Yl(b:Bool)(V:Int)(S:AG)(a:Au S)(r g:Nat):jn ((C4 b*32+fv (V/2^r) (S.getD 0 0))*2^r+V%2^r) (Iq (S.drop 1) g) g=Vz b V S r g:=by
 rw[kd _ S a g _ (λk c=>UY S g k c) g (AS _)];rfl
theorem gP(Z:Int)(D:AG)(a:∀k,D.getD k 0=0)(k:Nat):jn Z D k=Z*2^(10*k):=by
 induction k with
 |zero=>simp[jn]
 |succ k ih=>
  unfold jn;rw[ih,a k,show 10*(k+1)=10*k+10 by omega,Cv,Int.add_zero,Int.mul_assoc]
theorem Ym(k:Int)(b:Bool)(r g:Nat)(f:0<r)(a:k=2\/k=3\/k=4)(D:AG)(c:∀k,D.getD k 0=0):
 jn ((C4 b*32+(if k=2 then 30 else 31))*2^r+(if k=4 then 2^(r-1) else 0)) D g=T3 k b r g:=by
 rw[gP _ D c];unfold T3;obtain⟨m,rfl⟩:∃m,r=m+1:=⟨r-1,by omega⟩;rw[show m+1-1=m by omega,show m+1+10*g-1=m+10*g by omega,Cv 2 m (10*g),Int.pow_succ];generalize (2:Int)^m=p;generalize (2:Int)^(10*g)=q;have d:(C4 b*32+(if k=2 then 30 else 31))*(p*2)+(if k=4 then p else 0)=(C4 b*64+(if k=2 then 60 else if k=3 then 62 else 63))*p:=by
  have e:∀x:Int,x*(p*2)=x*2*p:=λx=>by rw[Int.mul_comm p 2,Int.mul_assoc]
  rw[e];rcases a with rfl|rfl|rfl
  ·rw[zyp rfl,zyn (by decide),zyp rfl,Int.add_zero];congr 1;omega
  ·rw[zyn (by decide),zyn (by decide),zyn (by decide),zyp rfl,Int.add_zero];congr 1;omega
  ·rw[zyn (by decide),zyp rfl,zyn (by decide),zyn (by decide)];rw[show C4 b*64+63=(C4 b*32+31)*2+1 by omega,Int.add_mul _ 1 p,Int.one_mul]
 rw[d,Int.mul_assoc]
theorem QP(s:AB)(h:s.toList.isEmpty=true):s=tx []:=by
 have a:s.toList=[]:=by simpa using h
 apply De;rw[AR];apply Array.toList_inj.1;have:s.data.toList=[]:=by
  have e:=ByteArray.toList_eq s;rw[<-e];exact a
 rw[this];rfl
theorem Lq(f k:Int)(b:Bool)(e:Int)(s:AB)(r g:Nat)(a:Int)(l:(f=64/\r=8/\g=5/\a=398)\/(f=128/\r=12/\g=11/\a=6176))(h:AQ f k b e s=true):∃c,s=tx c/\P9 r g a k b e c:=by
 have m:AF f=3*(g:Int)+1/\AV f=-a/\Ad f=3*2^r-1-a/\AF f≠0:=by
  rcases l with⟨rfl,rfl,rfl,rfl⟩|⟨rfl,rfl,rfl,rfl⟩<;>decide
 obtain⟨q,t,u,n⟩:=m;unfold AQ at h;rw[zyn n] at h;by_cases d:k=1
 ·rw[zyp d] at h;simp only[Bool.and_eq_true,decide_eq_true_eq] at h;obtain⟨c,o,v,w,p⟩:=NW _ _ h.1;exact⟨c,p,.inl ⟨d,o,by omega,by omega,by omega⟩⟩
 ·rw[zyn d] at h;by_cases i:k=2
  ·rw[zyp i] at h;simp only[Bool.and_eq_true,decide_eq_true_eq] at h;exact⟨[],QP s h.2,.inr (.inl ⟨i,h.1,rfl⟩)⟩
  ·rw[zyn i] at h;by_cases j:k=3\/k=4
   ·rw[zyp j] at h;simp only[Bool.and_eq_true,decide_eq_true_eq,Bool.not_eq_true'] at h;exact⟨[],QP s h.2.1,.inr (.inr ⟨j,h.1,rfl,h.2.2⟩)⟩
   ·rw[zyn j] at h;cases h
theorem DK(f k:Int)(b:Bool)(e:Int)(c:AG)(r g:Nat)(a:Int)(d:(f=64/\r=8/\g=5/\a=398)\/(f=128/\r=12/\g=11/\a=6176))(h:P9 r g a k b e c):AQ f k b e (tx c)=true:=by
 have i:AF f=3*(g:Int)+1/\AV f=-a/\Ad f=3*2^r-1-a/\AF f≠0:=by
  rcases d with⟨rfl,rfl,rfl,rfl⟩|⟨rfl,rfl,rfl,rfl⟩<;>decide
 obtain⟨n,o,p,j⟩:=i;unfold AQ;rw[zyn j];rcases h with⟨rfl,l,q,s,t⟩|⟨rfl,rfl,rfl⟩|⟨m,rfl,rfl,rfl⟩
 ·rw[zyp rfl,D2 _ c l (by omega),Bz (by omega:AV f<=e),Bz (by omega:e<=Ad f)];rfl
 ·rw[zyn (by decide),zyp rfl,SD [] rfl];rfl
 ·rw[zyn (by omega),zyn (by omega),zyp m,SD [] rfl];rfl
theorem KI(k:Int)(b:Bool)(e:Int)(a:AG)(r g:Nat)(c:Int)(w:AA)(d:1<=r)(f:r<=12)(i:g<=11)(h:P9 r g c k b e a):
 Calls prog 142 #[AH k b e (tx a),.int .i64 r,.int .i64 g,.int .i64 c] w λx j=>∃v,x=.returned v/\Bs j w.heap.size v (lI r g c k b e a)/\AD w.heap.size w j:=by
 unfold lI;rcases h with⟨rfl,l,m,n,o⟩|⟨rfl,-,-⟩|⟨p,-,-,-⟩
 ·rw[zyp rfl];exact Qs b e a r g c w d f i l m n o
 ·rw[zyn (by decide)];exact KJ 2 b e (tx a) r g c w (.inl rfl) d f i
 ·rw[zyn (by omega)];exact KJ k b e (tx a) r g c w (.inr p) d f i
theorem Qt(v:AK)(L:AG)(base:Nat)(w:AA)(h:Bs w base v L)(a:Pt L)(b:L.length<=64):
 cE 141 #[v] w (.int .u64 (KE L)):=by
 obtain⟨g,c,rfl,-,-,d⟩:=h.form;exact Ld g 0 L.length c 0 L w b a (λi e=>by rw[Nat.zero_add];exact d i e)
theorem Rz(k:Int)(b:Bool)(e:Int)(a:AG)(w:AA)(h:P9 8 5 398 k b e a):
 cB 63 #[AH k b e (tx a)] w (.tuple #[.int .u64 (Dd 8 5 398 k b e a),.bool true]):=by
 have q:Hid (AD w.heap.size w (Fo w k b e (tx a))):=bA;have g:=NX w k b e (tx a);have d:=zq g;have H:=zq (DK 64 k b e a 8 5 398 (.inl ⟨rfl,rfl,rfl,rfl⟩) h);have r:Hid ((tx a).size<=4611686018427387904):=by
  rw[Hid,AE];rcases h with⟨-,-,u,-⟩|⟨-,-,rfl⟩|⟨-,-,rfl,-⟩
  ·omega
  ·decide
  ·decide
 have s:=zq λW=>KI k b e a 8 5 398 W (by decide) (by decide) (by decide) h;obtain⟨i,j,l⟩:=Jx 8 5 398 k b e a (by decide) h;have f:=J9 i j l;clear h g i j l;go_enter func63,ntmps63;go_wp2_with fail;refine cm (Bn 64 k b e (tx a) _ r) λy c=>?_;rw[H];have m:=zq (q.trans (c.mono (by simp)));have z:=(c.cell (p:=⟨w.heap.size,0,none⟩) (by simp)).trans d.1;have A:=(c.cell (p:=⟨w.heap.size,1,none⟩) (by simp)).trans d.2.1;have B:=(c.cell (p:=⟨w.heap.size,2,none⟩) (by simp)).trans d.2.2.1;have C:=(c.cell (p:=⟨w.heap.size,3,none⟩) (by simp)).trans d.2.2.2;clear c;go_wp2_with fail;refine(s _).mono ?_;rintro x D ⟨v,rfl,n,o⟩;have t:=zq (m.trans (o.mono m.size));clear o;go_wp2_with fail;refine(Qt v _ _ _ n f.2.1 (by rw[f.out.1];decide)).mono ?_;rintro x E ⟨rfl,rfl⟩;rw[f.out.2.2];clear n;go_wp2;go_ret2;exact⟨rfl,t⟩
abbrev jq(h l:Int):AK:=.agg #[.int .u64 h,.int .u64 l]
theorem CW{c:Func}{p t:Tmp}{b:Nat}{x y:AK}(h:c.results=#[.cell p 100,.tmp t])(a:Array AK)(w:AA)(d:a[p]?.getD undef=.pointer (some ⟨b,0,none⟩))
 (e:w.cell? ⟨b,0,none⟩=some x) (f:w.cell? ⟨b,1,none⟩=some y):(results c a).run prog w=.ok (.tuple #[.agg #[x,y],a.getD t undef]) w:=by
 simp[results,h,d,go_sem,e,f]
theorem nG{w:AA}{b:Nat}{u v:AK}(a:w.cell? ⟨b,0,none⟩=some u)(c:w.cell? ⟨b,1,none⟩=some v)(x y:AK):
 ((w.setCell ⟨b,0,none⟩ x).setCell ⟨b,1,none⟩ y).cell? ⟨b,0,none⟩=some x/\((w.setCell ⟨b,0,none⟩ x).setCell ⟨b,1,none⟩ y).cell? ⟨b,1,none⟩=some y:=by
 refine⟨?_,?_⟩
 ·rw[Fx _ _ _ _ (by simp)];exact World.cell?_setCell_same _ _ _ a
 ·exact World.cell?_setCell_same _ _ _ (u:=v) (by rw[Fx _ _ _ _ (by simp)];exact c)
abbrev fF(w:AA)(k:Int)(b:Bool)(e:Int)(s:AB):AA:=(Fo w k b e s).alloc (.cells #[.int .u64 0,.int .u64 0] 100)
theorem WX(w:AA)(k:Int)(b:Bool)(e:Int)(s:AB):(fF w k b e s).cell? ⟨w.heap.size,0,none⟩=some (.int .i64 k)/\(fF w k b e s).cell? ⟨w.heap.size,1,none⟩=some (.bool b)/\(fF w k b e s).cell? ⟨w.heap.size,2,none⟩=some (.int .i64 e)/\(fF w k b e s).cell? ⟨w.heap.size,3,none⟩=some (.string s)/\(fF w k b e s).cell? ⟨w.heap.size+1,0,none⟩=some (.int .u64 0)/\(fF w k b e s).cell? ⟨w.heap.size+1,1,none⟩=some (.int .u64 0)/\(fF w k b e s).frozen? ⟨w.heap.size+1,0,none⟩=false/\(fF w k b e s).frozen? ⟨w.heap.size+1,1,none⟩=false:=by
 refine⟨?_,?_,?_,?_,?_,?_,?_,?_⟩<;>simp[fF,Fo]
theorem Er.cap{w:AA}{base g n a:Nat}{zs:AG}(h:Er w base (.slice (some ⟨g,0,none⟩) n a) zs):zs.length<=a/\a<=9223372036854775807:=by
 obtain⟨d,h⟩:=h;rcases h with⟨e,-⟩|⟨f,i,j,e,k,l,b,c,m,o⟩
 ·cases e
 ·cases e
  unfold maxLen at c;exact⟨b,by omega⟩
theorem V8(L:AG)(a:L.length=128)(c:Pt L):hb L 0 64=KE L/18446744073709551616/\hb L 64 64=KE L%18446744073709551616:=by
 have e:KE L=hb L 0 64*2^64+hb L (0+64) 64:=by unfold KE;rw[a];exact Qd L 0 64 64
 have b:=YT L c 64 64;rw[Nat.zero_add,show(2:Int)^64=18446744073709551616 by decide] at e;rw[show(2:Int)^64=18446744073709551616 by decide] at b;omega
theorem Pb(k:Int)(b:Bool)(e:Int)(a:AG)(w:AA)(h:P9 12 11 6176 k b e a):
 cB 65 #[AH k b e (tx a)] w (.tuple #[jq (Dd 12 11 6176 k b e a/18446744073709551616) (Dd 12 11 6176 k b e a%18446744073709551616),.bool true]):=by
 have D:Hid (AD w.heap.size w (fF w k b e (tx a))):=bA.alloc (by simp) _;have d:=zq (WX w k b e (tx a));have H:=zq (DK 128 k b e a 12 11 6176 (.inr ⟨rfl,rfl,rfl,rfl⟩) h);have E:Hid ((tx a).size<=4611686018427387904):=by
  rw[Hid,AE];rcases h with⟨-,-,T,-⟩|⟨-,-,rfl⟩|⟨-,-,rfl,-⟩
  ·omega
  ·decide
  ·decide
 have F:=zq λW=>KI k b e a 12 11 6176 W (by decide) (by decide) (by decide) h;obtain⟨n,q,u⟩:=Jx 12 11 6176 k b e a (by decide) h;have m:=V8 _ n q;rw[u] at m;have l:=eh n q m.1 m.2;clear h n q u m;generalize lI 12 11 6176 k b e a=L at*
 rw[<-l.out.2.2.1,<-l.out.2.2.2];go_enter func65,ntmps65;go_wp2_with fail;refine cm (Bn 128 k b e (tx a) _ E) λG c=>?_;rw[H];have U:w.heap.size+2<=G.heap.size:=by have:=c.size;simpa using this
 have y:=zq (D.trans (c.mono (by simp;omega)));have I:=(c.cell (p:=⟨w.heap.size,0,none⟩) (by simp;omega)).trans d.1;have J:=(c.cell (p:=⟨w.heap.size,1,none⟩) (by simp;omega)).trans d.2.1;have K:=(c.cell (p:=⟨w.heap.size,2,none⟩) (by simp;omega)).trans d.2.2.1;have M:=(c.cell (p:=⟨w.heap.size,3,none⟩) (by simp;omega)).trans d.2.2.2.1;have N:=zq ((c.cell (p:=⟨w.heap.size+1,0,none⟩) (by simp)).trans d.2.2.2.2.1);have O:=zq ((c.cell (p:=⟨w.heap.size+1,1,none⟩) (by simp)).trans d.2.2.2.2.2.1);have P:=zq ((c.frozen (p:=⟨w.heap.size+1,0,none⟩) (by simp)).trans d.2.2.2.2.2.2.1);have Q:=zq ((c.frozen (p:=⟨w.heap.size+1,1,none⟩) (by simp)).trans d.2.2.2.2.2.2.2);clear c;go_wp2_with fail;refine(F _).mono ?_;rintro x f ⟨v,rfl,r,j⟩;have R:=zq (y.trans (j.mono y.size));have z:f.cell? ⟨w.heap.size+1,0,none⟩=_:=(j.cell (p:=⟨w.heap.size+1,0,none⟩) (by simp;omega)).trans N;have A:f.cell? ⟨w.heap.size+1,1,none⟩=_:=(j.cell (p:=⟨w.heap.size+1,1,none⟩) (by simp;omega)).trans O;have V:f.frozen? ⟨w.heap.size+1,0,none⟩=_:=(j.frozen (p:=⟨w.heap.size+1,0,none⟩) (by simp;omega)).trans P;have X:f.frozen? ⟨w.heap.size+1,1,none⟩=_:=(j.frozen (p:=⟨w.heap.size+1,1,none⟩) (by simp;omega)).trans Q;obtain⟨g,B,rfl,-,-,s⟩:=r.form;have C:=r.1.cap;rw[l.out.1] at s C ⊢;have S:Hid (∀o t,o<=64->cE 141 #[.slice (some ⟨g,o,none⟩) 64 t] f.drew (.int .u64 (hb L o 64))):=λo t Y=>Ld g o 64 t o L f.drew (by decide) l.2.1 (λi Z=>s (o+i) (by omega));obtain⟨aa,ab⟩:¬((B:Int)<64)/\¬B=64:=by omega
 clear j r s I J K M l C;go_wp2;go_region_held3 (λ_=>True) (trivial) (first|(go_at_call 141;refine(S _ _ (by decide)).mono ?_;rintro e w' ⟨rfl,rfl⟩));all_goals
  go_wp2;refine Do (CW (b:=w.heap.size+1) rfl _ _ rfl (nG (w:=f.drew) z A _ _).1 (nG (w:=f.drew) z A _ _).2) rfl ?_;exact⟨rfl,(R.drew.setCell (by simp) _).setCell (by simp) _⟩
end Go.Proofs.YteofommckgeemaaGreatDoor
