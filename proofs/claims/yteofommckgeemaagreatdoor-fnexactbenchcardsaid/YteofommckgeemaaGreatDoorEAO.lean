/- Steps. -/
import Derived.Test.YteofommckgeemaaGreatDoorEAC
import Derived.Test.YteofommckgeemaaGreatDoorEAE
import Derived.Test.YteofommckgeemaaGreatDoorEAL
namespace Go.Proofs.YteofommckgeemaaGreatDoor
open Go.RowKit Go.Proofs.Tryz
set_option linter.unusedVariables false
set_option maxRecDepth 100000
set_option maxHeartbeats 8000000
theorem RS(k:Int)(b:Bool)(e:Int)(s:AB)(w:AA):cB 180 #[AH k b e s] w (.bool ((k==3)||(k==4))):=by
 cases h1:(k==3) with
 |true=>
  go_enter func180,ntmps180;go_wp2;go_ret;exact⟨rfl,bA⟩
 |false=>
  go_enter func180,ntmps180;go_wp2;go_ret;exact⟨rfl,bA⟩
theorem Th(f:Int)(e:Int)(g:Bool)(h:Int)(b:AB)(i:Int)(j:Bool)(k:Int)(c:AB)(w:AA)(o:b.size<=4611686018427387904)(p:c.size<=4611686018427387904):
 cB 179 #[.int .i64 f,AH e g h b,AH i j k c] w (.bool (AQ f e g h b&&AQ f i j k c)):=by
 have l:=zq λX=>EM f e g h b X o;have n:=zq λX=>EM f i j k c X p;obtain⟨q,r,-⟩:=G7 w e g h b i j k c;have a:=Ab q r;clear q r o p;generalize AQ f e g h b=t at*
 generalize AQ f i j k c=D at*
 cases t with
 |false=>
  go_enter func179,ntmps179;go_wp2_with fail;refine cm (l _) λu d=>?_;have v:=a.2.trans (d.mono a.2.size);clear d a l n;go_wp2;go_ret;exact⟨rfl,v⟩
 |true=>
  go_enter func179,ntmps179;go_wp2_with fail;refine cm (l _) λu d=>?_;have m:=Ab (a.1.next d) (a.2.trans (d.mono a.2.size));clear d a l;obtain⟨x,y,z,A,B⟩:=m.1.2.cells;go_wp2_with fail;refine cm (n _) λE s=>?_;have C:=m.2.trans (s.mono m.2.size);clear s m n x y z A B;go_wp2;go_ret;exact⟨rfl,C⟩
def UT(f:Int)(a:Int)(e:Bool)(g:Int)(c:AB)(b:Int)(h:Bool)(i:Int)(d:AB):Int:=
 if AQ f a e g c&&AQ f b h i d then(if ((a==3)||(a==4))||((b==3)||(b==4)) then 2 else if BN a c&&BN b d then 0 else Ml false a e g c b h i d) else 3
theorem Lr(x:Bool)(f:Int)(a:Int)(c:Bool)(d:Int)(e:AB)(b:Int)(g:Bool)(h:Int)(i:AB)(w:AA)(j:AQ f a c d e=true)(l:AQ f b g h i=true)(m:Hr w):
 cB 181 #[.agg #[.bool x],AH a c d e,AH b g h i] w (.int .i64 (Ml x a c d e b g h i)):=by
 obtain⟨-,p,q,r,-,-⟩:=C2 f a c d e j;obtain⟨-,s,t,u,-,-⟩:=C2 f b g h i l;obtain⟨n,rfl⟩:∃k:Nat,a=(k:Int):=⟨a.toNat,by omega⟩;obtain⟨o,rfl⟩:∃k:Nat,b=(k:Int):=⟨b.toNat,by omega⟩;exact O9 x n c d e o g h i w (by omega) (by omega) (by omega) (by omega) (by omega) (by omega) m
theorem Sg(w:AA):(Instr.build 204 #[]).run prog w=.ok (.agg #[.bool false]) w:=run_build w _ _ _ (by kernel_rfl)
theorem Od(f:Int)(a:Int)(q:Bool)(r:Int)(c:AB)(b:Int)(s:Bool)(t:Int)(d:AB)(w:AA)(V:c.size<=4611686018427387904)(W:d.size<=4611686018427387904)(Y:Hr w):
 cB 104 #[.int .i64 f,AH a q r c,AH b s t d] w (.int .i64 (UT f a q r c b s t d)):=by
 have M:Hid (cA 179 #[.int .i64 f,AH a q r c,AH b s t d] (.bool (AQ f a q r c&&AQ f b s t d))):=λX=>Th f a q r c b s t d X V W;have O:Hid (cA 180 #[AH a q r c] (.bool ((a==3)||(a==4)))):=λX=>RS a q r c X;have P:Hid (cA 180 #[AH b s t d] (.bool ((b==3)||(b==4)))):=λX=>RS b s t d X;have Q:Hid (cA 93 #[AH a q r c] (.bool (BN a c))):=λX=>Ge a q r c X;have Z:Hid (cA 93 #[AH b s t d] (.bool (BN b d))):=λX=>Ge b s t d X;obtain⟨aa,ab,-⟩:=G7 w a q r c b s t d;have x:=Ab aa ab;have HT:=zq Y;clear aa ab V W Y;have HC:Hid ((AQ f a q r c&&AQ f b s t d)=true->∀X,Hr X->cB 181 #[.agg #[.bool false],AH a q r c,AH b s t d] X (.int .i64 (Ml false a q r c b s t d))):=λhR X h=>Lr false f a q r c b s t d X (Bool.and_eq_true_iff.1 hR).1 (Bool.and_eq_true_iff.1 hR).2 h;obtain⟨RV,S⟩:=zxe (UT f a q r c b s t d);have N:Hid ((if AQ f a q r c&&AQ f b s t d then(if ((a==3)||(a==4))||((b==3)||(b==4)) then 2 else if BN a c&&BN b d then 0 else Ml false a q r c b s t d) else 3)=RV):=S;rw[S];clear S;generalize Ml false a q r c b s t d=C at*
 generalize (AQ f a q r c&&AQ f b s t d)=R at*
 generalize ((a==3)||(a==4))=NA at*
 generalize ((b==3)||(b==4))=NB at*
 generalize BN a c=ZA at*
 generalize BN b d=ZB at*
 have al:=Sg;cases R with
 |false=>
  go_enter func104,ntmps104;go_wp2_with fail;refine cm (M _) λD z=>?_;have u:Hid (Jg w.heap.size a q r c b s t d D/\AD w.heap.size w D):=⟨x.1.next z,x.2.trans (z.mono x.2.size)⟩;clear z x;try clear e g i j k l m n o p
  obtain⟨e,g,i,j,k⟩:=u.1.1.cells;obtain⟨l,m,n,o,p⟩:=u.1.2.cells;go_wp2;go_ret;exact⟨by rw[<-N.out];rfl,u.out.2⟩
 |true=>
  cases NA with
  |true=>
   go_enter func104,ntmps104;go_wp2_with fail;refine cm (M _) λD z=>?_;have u:Hid (Jg w.heap.size a q r c b s t d D/\AD w.heap.size w D):=⟨x.1.next z,x.2.trans (z.mono x.2.size)⟩;clear z x;try clear e g i j k l m n o p
   obtain⟨e,g,i,j,k⟩:=u.1.1.cells;obtain⟨l,m,n,o,p⟩:=u.1.2.cells;go_wp2_with fail;refine cm (O _) λG B=>?_;have v:Hid (Jg w.heap.size a q r c b s t d G/\AD w.heap.size w G):=⟨u.1.next B,u.2.trans (B.mono u.2.size)⟩;clear B u;try clear e g i j k l m n o p
   obtain⟨e,g,i,j,k⟩:=v.1.1.cells;obtain⟨l,m,n,o,p⟩:=v.1.2.cells;go_wp2;go_ret;exact⟨by rw[<-N.out];rfl,v.out.2⟩
  |false=>
   cases NB with
   |true=>
    go_enter func104,ntmps104;go_wp2_with fail;refine cm (M _) λD z=>?_;have u:Hid (Jg w.heap.size a q r c b s t d D/\AD w.heap.size w D):=⟨x.1.next z,x.2.trans (z.mono x.2.size)⟩;clear z x;try clear e g i j k l m n o p
    obtain⟨e,g,i,j,k⟩:=u.1.1.cells;obtain⟨l,m,n,o,p⟩:=u.1.2.cells;go_wp2_with fail;refine cm (O _) λG B=>?_;have v:Hid (Jg w.heap.size a q r c b s t d G/\AD w.heap.size w G):=⟨u.1.next B,u.2.trans (B.mono u.2.size)⟩;clear B u;try clear e g i j k l m n o p
    obtain⟨e,g,i,j,k⟩:=v.1.1.cells;obtain⟨l,m,n,o,p⟩:=v.1.2.cells;go_wp2_with fail;refine cm (P _) λH E=>?_;have y:Hid (Jg w.heap.size a q r c b s t d H/\AD w.heap.size w H):=⟨v.1.next E,v.2.trans (E.mono v.2.size)⟩;clear E v;try clear e g i j k l m n o p
    obtain⟨e,g,i,j,k⟩:=y.1.1.cells;obtain⟨l,m,n,o,p⟩:=y.1.2.cells;go_wp2;go_ret;exact⟨by rw[<-N.out];rfl,y.out.2⟩
   |false=>
    cases ZA with
    |false=>
     go_enter func104,ntmps104;go_wp2_with fail;refine cm (M _) λD z=>?_;have u:Hid (Jg w.heap.size a q r c b s t d D/\AD w.heap.size w D):=⟨x.1.next z,x.2.trans (z.mono x.2.size)⟩;clear z x;try clear e g i j k l m n o p
     obtain⟨e,g,i,j,k⟩:=u.1.1.cells;obtain⟨l,m,n,o,p⟩:=u.1.2.cells;go_wp2_with fail;refine cm (O _) λG B=>?_;have v:Hid (Jg w.heap.size a q r c b s t d G/\AD w.heap.size w G):=⟨u.1.next B,u.2.trans (B.mono u.2.size)⟩;clear B u;try clear e g i j k l m n o p
     obtain⟨e,g,i,j,k⟩:=v.1.1.cells;obtain⟨l,m,n,o,p⟩:=v.1.2.cells;go_wp2_with fail;refine cm (P _) λH E=>?_;have y:Hid (Jg w.heap.size a q r c b s t d H/\AD w.heap.size w H):=⟨v.1.next E,v.2.trans (E.mono v.2.size)⟩;clear E v;try clear e g i j k l m n o p
     obtain⟨e,g,i,j,k⟩:=y.1.1.cells;obtain⟨l,m,n,o,p⟩:=y.1.2.cells;go_wp2_with fail;refine cm (Q _) λK I=>?_;have A:Hid (Jg w.heap.size a q r c b s t d K/\AD w.heap.size w K):=⟨y.1.next I,y.2.trans (I.mono y.2.size)⟩;clear I y;try clear e g i j k l m n o p
     obtain⟨e,g,i,j,k⟩:=A.1.1.cells;obtain⟨l,m,n,o,p⟩:=A.1.2.cells;go_wp2_with fail;refine cm (HC (by first|exact trivial|rfl) _ (HT.next A.2)) λL J=>?_;have F:Hid (Jg w.heap.size a q r c b s t d L/\AD w.heap.size w L):=⟨A.1.next J,A.2.trans (J.mono A.2.size)⟩;clear J A;try clear e g i j k l m n o p
     obtain⟨e,g,i,j,k⟩:=F.1.1.cells;obtain⟨l,m,n,o,p⟩:=F.1.2.cells;go_wp2;go_ret;exact⟨by rw[<-N.out];rfl,F.out.2⟩
    |true=>
     cases ZB with
     |false=>
      go_enter func104,ntmps104;go_wp2_with fail;refine cm (M _) λD z=>?_;have u:Hid (Jg w.heap.size a q r c b s t d D/\AD w.heap.size w D):=⟨x.1.next z,x.2.trans (z.mono x.2.size)⟩;clear z x;try clear e g i j k l m n o p
      obtain⟨e,g,i,j,k⟩:=u.1.1.cells;obtain⟨l,m,n,o,p⟩:=u.1.2.cells;go_wp2_with fail;refine cm (O _) λG B=>?_;have v:Hid (Jg w.heap.size a q r c b s t d G/\AD w.heap.size w G):=⟨u.1.next B,u.2.trans (B.mono u.2.size)⟩;clear B u;try clear e g i j k l m n o p
      obtain⟨e,g,i,j,k⟩:=v.1.1.cells;obtain⟨l,m,n,o,p⟩:=v.1.2.cells;go_wp2_with fail;refine cm (P _) λH E=>?_;have y:Hid (Jg w.heap.size a q r c b s t d H/\AD w.heap.size w H):=⟨v.1.next E,v.2.trans (E.mono v.2.size)⟩;clear E v;try clear e g i j k l m n o p
      obtain⟨e,g,i,j,k⟩:=y.1.1.cells;obtain⟨l,m,n,o,p⟩:=y.1.2.cells;go_wp2_with fail;refine cm (Q _) λK I=>?_;have A:Hid (Jg w.heap.size a q r c b s t d K/\AD w.heap.size w K):=⟨y.1.next I,y.2.trans (I.mono y.2.size)⟩;clear I y;try clear e g i j k l m n o p
      obtain⟨e,g,i,j,k⟩:=A.1.1.cells;obtain⟨l,m,n,o,p⟩:=A.1.2.cells;go_wp2_with fail;refine cm (Z _) λL J=>?_;have F:Hid (Jg w.heap.size a q r c b s t d L/\AD w.heap.size w L):=⟨A.1.next J,A.2.trans (J.mono A.2.size)⟩;clear J A;try clear e g i j k l m n o p
      obtain⟨e,g,i,j,k⟩:=F.1.1.cells;obtain⟨l,m,n,o,p⟩:=F.1.2.cells;go_wp2_with fail;refine cm (HC (by first|exact trivial|rfl) _ (HT.next F.2)) λw6 T=>?_;have U:Hid (Jg w.heap.size a q r c b s t d w6/\AD w.heap.size w w6):=⟨F.1.next T,F.2.trans (T.mono F.2.size)⟩;clear T F;try clear e g i j k l m n o p
      obtain⟨e,g,i,j,k⟩:=U.1.1.cells;obtain⟨l,m,n,o,p⟩:=U.1.2.cells;go_wp2;go_ret;exact⟨by rw[<-N.out];rfl,U.out.2⟩
     |true=>
      go_enter func104,ntmps104;go_wp2_with fail;refine cm (M _) λD z=>?_;have u:Hid (Jg w.heap.size a q r c b s t d D/\AD w.heap.size w D):=⟨x.1.next z,x.2.trans (z.mono x.2.size)⟩;clear z x;try clear e g i j k l m n o p
      obtain⟨e,g,i,j,k⟩:=u.1.1.cells;obtain⟨l,m,n,o,p⟩:=u.1.2.cells;go_wp2_with fail;refine cm (O _) λG B=>?_;have v:Hid (Jg w.heap.size a q r c b s t d G/\AD w.heap.size w G):=⟨u.1.next B,u.2.trans (B.mono u.2.size)⟩;clear B u;try clear e g i j k l m n o p
      obtain⟨e,g,i,j,k⟩:=v.1.1.cells;obtain⟨l,m,n,o,p⟩:=v.1.2.cells;go_wp2_with fail;refine cm (P _) λH E=>?_;have y:Hid (Jg w.heap.size a q r c b s t d H/\AD w.heap.size w H):=⟨v.1.next E,v.2.trans (E.mono v.2.size)⟩;clear E v;try clear e g i j k l m n o p
      obtain⟨e,g,i,j,k⟩:=y.1.1.cells;obtain⟨l,m,n,o,p⟩:=y.1.2.cells;go_wp2_with fail;refine cm (Q _) λK I=>?_;have A:Hid (Jg w.heap.size a q r c b s t d K/\AD w.heap.size w K):=⟨y.1.next I,y.2.trans (I.mono y.2.size)⟩;clear I y;try clear e g i j k l m n o p
      obtain⟨e,g,i,j,k⟩:=A.1.1.cells;obtain⟨l,m,n,o,p⟩:=A.1.2.cells;go_wp2_with fail;refine cm (Z _) λL J=>?_;have F:Hid (Jg w.heap.size a q r c b s t d L/\AD w.heap.size w L):=⟨A.1.next J,A.2.trans (J.mono A.2.size)⟩;clear J A;try clear e g i j k l m n o p
      obtain⟨e,g,i,j,k⟩:=F.1.1.cells;obtain⟨l,m,n,o,p⟩:=F.1.2.cells;go_wp2;go_ret;exact⟨by rw[<-N.out];rfl,F.out.2⟩
theorem Kx(x y:Int):cI y x=-cI x y:=by
 unfold cI;by_cases a:x<y
 ·rw[zyp a,zyn (by omega),zyp a];rfl
 ·rw[zyn a];by_cases b:y<x
  ·rw[zyp b,zyn a,zyp b]
  ·rw[zyn b,zyn a,zyn b];rfl
theorem JD(x y a b:Int)(c:a=-x)(d:b=-y):Lw a b=-Lw x y:=by
 unfold Lw;subst c d;by_cases h:x=0
 ·rw[zyp h,zyp (by omega)]
 ·rw[zyn h,zyn (by omega)]
theorem Vo(a b:List UInt8):Lib.compareBytes b a=-Lib.compareBytes a b:=by
 induction a generalizing b with
 |nil=>cases b<;>rfl
 |cons x r ih=>
  cases b with
  |nil=>rfl
  |cons y s=>
   show(if y<x then(-1:Int) else if x<y then 1 else Lib.compareBytes s r)=-(if x<y then(-1:Int) else if y<x then 1 else Lib.compareBytes r s)
   by_cases d:x<y
   ·have c:¬y<x:=by rw[UInt8.lt_iff_toNat_lt] at d ⊢;omega
    rw[zyn c,zyp d,zyp d];rfl
   ·rw[zyn d,zyn d];by_cases c:y<x
    ·rw[zyp c,zyp c]
    ·rw[zyn c,zyn c];exact ih s
theorem NM(a b:Int)(c:AB)(d e:Int)(f:AB):EU d e f a b c=-EU a b c d e f:=JD _ _ _ _ (Kx _ _) (Vo _ _)
theorem Jl(x:Bool)(a b:Int)(c:AB)(d e:Int)(f:AB):DA x d e f a b c=-DA x a b c d e f:=by
 unfold DA;cases x
 ·exact JD _ _ _ _ (Kx _ _) (NM _ _ _ _ _ _)
 ·exact JD _ _ _ _ (JD _ _ _ _ (Kx _ _) (NM _ _ _ _ _ _)) (Kx _ _)
theorem ZG(k:Int)(s:AB)(h:BN k s=true):k=1/\s={data:=#[48]}:=by
 unfold BN at h;simp only[Bool.and_eq_true,beq_iff_eq] at h;refine⟨h.1,?_⟩;have a:=h.2;rw[ByteArray.toList_eq] at a;apply De;show s.data=#[48]
 rw[<-Array.toArray_toList (xs:=s.data),a]
theorem nf:(Ny {data:=#[]}).data.toList=[]:=rfl
theorem gB(k e:Int)(s:AB)(h:BN k s=true):Px k e s=-9223372036854775808:=by unfold Px;rw[h];rfl
theorem Lb(k e:Int)(s:AB)(h:BN k s=false):Px k e s=e+s.size:=by unfold Px;rw[h];rfl
theorem jQ(x y:Int)(h:x<y):cI x y=-1:=zyp h
theorem ma(x y:Int)(h:y<x):cI x y=1:=by unfold cI;rw[zyn (by omega),zyp h]
theorem UP(x:Int):cI x x=0:=by unfold cI;rw[zyn (by omega),zyn (by omega)]
theorem I9(f:Int)(c:Int)(m:Bool)(i:Int)(d:AB)(a:Int)(g:Bool)(e:Int)(b:AB)(j:AQ f a g e b=true)(k:a=1\/a=2)(h:BN c d=true)(l:BN a b=false):DA false c i d a e b=-1:=by
 obtain⟨rfl,rfl⟩:=ZG c d h;unfold DA;rw[zyn (by decide)];rcases k with rfl|rfl
 ·obtain⟨-,-,n,o,-,-⟩:=C2 f 1 g e b j;rw[show cI (IA 1) (IA 1)=0 from rfl];show EU _ _ _ _ _ _=-1
  unfold EU;rw[gB _ _ _ h,Lb _ _ _ l,jQ _ _ (by omega)];rfl
 ·rfl
theorem dU(s:AB)(h:s.size=0):s={data:=#[]}:=by
 apply De;show s.data=#[]
 exact Array.eq_empty_of_size_eq_zero h
theorem gz(f:Int)(a:Int)(h:Bool)(b:Int)(c:AB)(d:Int)(i:Bool)(e:Int)(g:AB)(l:AQ f a h b c=true)(m:AQ f d i e g=true)(n:a≠1)(o:d≠1):EU a b c d e g=0/\b=0/\e=0:=by
 obtain⟨-,-,-,-,p,-⟩:=C2 f a h b c l;obtain⟨-,-,-,-,q,-⟩:=C2 f d i e g m;obtain⟨rfl,r⟩:=p n;obtain⟨rfl,s⟩:=q o;obtain rfl:=dU c r;obtain rfl:=dU g s;have j:∀k:Int,BN k {data:=#[]}=false:=λk=>by unfold BN;rw[show(({data:=#[]}:AB).toList==[48])=false by rw[ByteArray.toList_eq];rfl,Bool.and_false]
 refine⟨?_,rfl,rfl⟩;unfold EU;rw[Lb _ _ _ (j _),Lb _ _ _ (j _),UP,nf];rfl
theorem Nm(f:Int)(b:Bool)(e:Int)(s:AB)(h:AQ f 1 b e s=true):∃d,AJ d/\s=tx d:=by
 unfold AQ at h;by_cases a:AF f=0
 ·rw[zyp a] at h;cases h
 rw[zyn a,zyp rfl] at h;simp only[Bool.and_eq_true,decide_eq_true_eq] at h;obtain⟨c,-,g⟩:=Fk (AF f) s h.1;exact⟨dl s,c,g⟩
def G6(k:Int)(n:Bool)(s:AB):Int:=if BN k s then 0 else if n then -1 else 1
def XI(a:Int)(e:Bool)(f:Int)(b:AB)(c:Int)(g:Bool)(h:Int)(d:AB):Int:=if BN a b&&BN c d then 0 else Ml false a e f b c g h d
theorem gZ(f:Int)(a:Int)(e:Bool)(g:Int)(c:AB)(b:Int)(i:Bool)(j:Int)(d:AB)(k:AQ f a e g c=true)(l:AQ f b i j d=true)(m:a=1\/a=2)(n:b=1\/b=2)(h:G6 a e c<G6 b i d):XI a e g c b i j d=-1:=by
 unfold XI;unfold G6 at h;cases za:BN a c<;>cases zb:BN b d<;>rw[za,zb] at h
 ·cases e<;>cases i<;>first|rfl|(exfalso;simp at h)
 ·cases e
  ·exfalso;first|(simp at h;done)|(split at h<;>simp at h)
  ·cases i
   ·rfl
   ·show DA false b j d a g c=-1
    exact I9 f b true j d a true g c k m zb za
 ·cases i
  ·cases e
   ·show DA false a g c b j d=-1
    exact I9 f a true g c b false j d l n za zb
   ·rfl
  ·exfalso;first|(simp at h;done)|(split at h<;>simp at h)
 ·exfalso;first|(simp at h;done)|(split at h<;>simp at h)
theorem ga(f:Int)(a:Int)(i:Bool)(e:Int)(c:AB)(b:Int)(j:Bool)(g:Int)(d:AB)(k:AQ f a i e c=true)(l:AQ f b j g d=true)(m:a=1\/a=2)(n:b=1\/b=2)(h:G6 b j d<G6 a i c):XI a i e c b j g d=1:=by
 unfold XI;unfold G6 at h;cases za:BN a c<;>cases zb:BN b d<;>rw[za,zb] at h
 ·cases i<;>cases j<;>first|rfl|(exfalso;simp at h)
 ·cases i
  ·cases j
   ·show DA false a e c b g d=1
    rw[Jl false b g d a e c,I9 f b true g d a false e c k m zb za];rfl
   ·rfl
  ·exfalso;first|(simp at h;done)|(split at h<;>simp at h)
 ·cases j
  ·exfalso;first|(simp at h;done)|(split at h<;>simp at h)
  ·cases i
   ·rfl
   ·show DA false b g d a e c=1
    rw[Jl false a e c b g d,I9 f a true e c b true g d l n za zb];rfl
 ·exfalso;first|(simp at h;done)|(split at h<;>simp at h)
theorem gb(a:Int)(b:Bool)(j:Int)(c:AB)(d:Int)(f:Bool)(l:Int)(g:AB)(h:G6 a b c=G6 d f g)(i:G6 a b c=0):XI a b j c d f l g=0:=by
 have q:∀(k:Int) (n:Bool) (s:AB),G6 k n s=0->BN k s=true:=λk n s e=>by
  unfold G6 at e;cases z:BN k s
  ·rw[z] at e;cases n<;>(revert e;decide)
  ·rfl
 unfold XI;rw[q _ _ _ i,q _ _ _ (h▸i)];rfl
theorem gc(a:Int)(e:Bool)(f:Int)(b:AB)(c:Int)(i:Bool)(g:Int)(d:AB)(h:G6 a e b=G6 c i d)(j:G6 a e b≠0):XI a e f b c i g d=G6 a e b*DA false a f b c g d/\BN a b=false/\BN c d=false/\(G6 a e b=1\/G6 a e b=-1):=by
 unfold G6 at h j;unfold XI G6;cases za:BN a b
 ·cases zb:BN c d
  ·rw[za,zb] at h;cases e<;>cases i
   ·exact⟨by show DA false a f b c g d=1*DA false a f b c g d;rw[Int.one_mul],rfl,rfl,.inl rfl⟩
   ·exfalso;first|(simp at h;done)|(split at h<;>simp at h)
   ·exfalso;first|(simp at h;done)|(split at h<;>simp at h)
   ·exact⟨by show DA false c g d a f b=-1*DA false a f b c g d;rw[Jl false a f b c g d,Int.neg_one_mul],rfl,rfl,.inr rfl⟩
  ·rw[za,zb] at h;cases e<;>(exfalso;simp at h)
 ·rw[za] at j;exact absurd rfl j
theorem fg(f:Int)(e:Bool)(a:Int)(b:AB)(g:Bool)(c:Int)(d:AB)(h:AQ f 2 e a b=true)(i:AQ f 2 g c d=true):DA false 2 a b 2 c d=0:=by
 unfold DA;rw[zyn (by decide),(gz f 2 e a b 2 g c d h i (by decide) (by decide)).1];rfl
theorem kA(c:Int)(a:AB)(d:Int)(b:AB)(e:BN 1 a=false)(f:BN 1 b=false):DA false 1 c a 1 d b=Lw (cI (c+a.size) (d+b.size)) (Lib.compareBytes (Ny a).data.toList (Ny b).data.toList):=by
 unfold DA;rw[zyn (by decide),show cI (IA 1) (IA 1)=0 from rfl];show EU _ _ _ _ _ _=_
 unfold EU;rw[Lb _ _ _ e,Lb _ _ _ f]
theorem KL(k:Int)(b:Bool)(e:Int)(s:AB)(w:AA):cB 197 #[AH k b e s] w (.int .i64 (G6 k b s)):=by
 have E:Hid (G6 k b s=if BN k s then 0 else if b then -1 else 1):=rfl;rw[E];cases h1:(k==1) with
 |false=>
  have a:Hid (BN k s=false):=by show _=_;unfold BN;rw[h1];rfl
  rw[a];cases b
  all_goals
   go_enter func197,ntmps197;go_wp2;go_ret;exact⟨rfl,bA⟩
 |true=>
  cases h2:(s.toList==[48]) with
  |false=>
   have a:Hid (BN k s=false):=by show _=_;unfold BN;rw[h1,h2];rfl
   rw[a];cases b
   all_goals
    go_enter func197,ntmps197;go_wp2;go_ret;exact⟨rfl,bA⟩
  |true=>
   have a:Hid (BN k s=true):=by show _=_;unfold BN;rw[h1,h2];rfl
   rw[a];go_enter func197,ntmps197;go_wp2;go_ret;exact⟨rfl,bA⟩
theorem gp(x y:Int)(w:AA):cE 189 #[.int .i64 x,.int .i64 y] w (.int .i64 (min x y)):=by
 by_cases h:x<y
 ·have E:Hid (min x y=x):=by show _=_;omega
  rw[E];go_enter func189,ntmps189;go_wp2;go_ret;exact⟨rfl,rfl⟩
 ·have E:Hid (min x y=y):=by show _=_;omega
  rw[E];go_enter func189,ntmps189;go_wp2;go_ret;exact⟨rfl,rfl⟩
theorem NZ(a:AG)(n:Nat)(w:AA)(b:AJ a)(f:a≠[0])(d:a.length<=200)(g:n<=200):cB 133 #[.string (tx a),.int .i64 n] w (.string (tx (a++List.replicate n 0))):=by
 rcases Nat.eq_zero_or_pos n with h|h
 ·subst h;refine cm (IB a w b d) λi c=>?_;exact⟨by simp,c⟩
 ·refine(Iy a n w b d h g).mono ?_;rintro e i ⟨R,rfl,j,k,l,c⟩;exact⟨by rw[FX R (a++List.replicate n 0) j (BT a n b f) (by rw[k,Bb])],c⟩
theorem O7(d:AG)(h:BN 1 (tx d)=false):d≠[0]:=by
 rintro rfl;have:BN 1 (tx [0])=true:=by unfold BN;rw[ByteArray.toList_eq,AR];rfl
 rw[this] at h;cases h
theorem TF(f:Int)(z:Int)(B:Bool)(c:Int)(v:AB)(A:Int)(D:Bool)(d:Int)(y:AB)(w:AA)(G:AQ f z B c v=true)(H:AQ f A D d y=true)(I:z=1\/z=2)(J:A=1\/A=2):
 cB 140 #[AH z B c v,AH A D d y] w (.int .i64 (XI z B c v A D d y)):=by
 have P:=zq λX=>KL z B c v X;have K:=zq λX=>KL A D d y X;obtain⟨az,aA,-⟩:=G7 w z B c v A D d y;have e:=Ab az aA;clear az aA;by_cases Y:G6 z B v=G6 A D y;case neg=>
  have hb:(G6 z B v==G6 A D y)=false:=beq_eq_false_iff_ne.2 Y;by_cases aK:G6 z B v<G6 A D y
  ·have E:=zq (gZ f z B c v A D d y G H I J aK);rw[E];clear G H I J E;generalize G6 z B v=T at*
   generalize G6 A D y=SY at*
   go_enter func140,ntmps140;go_wp2_with fail;refine cm (P _) λU t=>?_;have a:=Ab (e.1.next t) (e.2.trans (t.mono e.2.size));clear t e;try clear g h k l m n o p q s
   obtain⟨g,h,k,l,m⟩:=a.1.1.cells;obtain⟨n,o,p,q,s⟩:=a.1.2.cells;go_wp2_with fail;refine cm (K _) λV u=>?_;have b:=Ab (a.1.next u) (a.2.trans (u.mono a.2.size));clear u a;try clear g h k l m n o p q s
   obtain⟨g,h,k,l,m⟩:=b.1.1.cells;obtain⟨n,o,p,q,s⟩:=b.1.2.cells;go_wp2;go_ret;exact⟨rfl,b.2⟩
  ·have E:=zq (ga f z B c v A D d y G H I J (by omega));rw[E];clear G H I J E;generalize G6 z B v=T at*
   generalize G6 A D y=SY at*
   go_enter func140,ntmps140;go_wp2_with fail;refine cm (P _) λU t=>?_;have a:=Ab (e.1.next t) (e.2.trans (t.mono e.2.size));clear t e;try clear g h k l m n o p q s
   obtain⟨g,h,k,l,m⟩:=a.1.1.cells;obtain⟨n,o,p,q,s⟩:=a.1.2.cells;go_wp2_with fail;refine cm (K _) λV u=>?_;have b:=Ab (a.1.next u) (a.2.trans (u.mono a.2.size));clear u a;try clear g h k l m n o p q s
   obtain⟨g,h,k,l,m⟩:=b.1.1.cells;obtain⟨n,o,p,q,s⟩:=b.1.2.cells;go_wp2;go_ret;exact⟨rfl,b.2⟩
 by_cases Z:G6 z B v=0
 ·have E:=zq (gb z B c v A D d y Y Z);rw[E];rw[<-Y,Z] at K;rw[Z] at P;clear G H I J E Y Z;go_enter func140,ntmps140;go_wp2_with fail;refine cm (P _) λU t=>?_;have a:=Ab (e.1.next t) (e.2.trans (t.mono e.2.size));clear t e;try clear g h k l m n o p q s
  obtain⟨g,h,k,l,m⟩:=a.1.1.cells;obtain⟨n,o,p,q,s⟩:=a.1.2.cells;go_wp2_with fail;refine cm (K _) λV u=>?_;have b:=Ab (a.1.next u) (a.2.trans (u.mono a.2.size));clear u a;try clear g h k l m n o p q s
  obtain⟨g,h,k,l,m⟩:=b.1.1.cells;obtain⟨n,o,p,q,s⟩:=b.1.2.cells;go_wp2;go_ret;exact⟨rfl,b.2⟩
 obtain⟨hE,za,zb,W⟩:=gc z B c v A D d y Y Z;rw[hE];have aY:(G6 z B v==0)=false:=beq_eq_false_iff_ne.2 Z;rw[<-Y] at K;clear Y hE Z;generalize G6 z B v=T at*
 have L:IntKind.i64.wrap T=T/\IntKind.i64.wrap (-T)=-T:=by
  rw[IntKind.wrap_i64,IntKind.wrap_i64];rcases W with rfl|rfl<;>exact⟨rfl,rfl⟩
 have wm:∀r:Int,(r=0\/r=1\/r=-1)->IntKind.i64.wrap (T*r)=T*r:=λr hr=>by
  rw[IntKind.wrap_i64];rcases W with rfl|rfl<;>rcases hr with rfl|rfl|rfl<;>rfl
 obtain⟨R,S⟩:=zxe (DA false z c v A d y);rw[S];by_cases Q:z=2
 ·have q1:(z==2)=true:=by rw[Q];rfl
  by_cases F:A=2
  ·have q2:(A==2)=true:=by rw[F];rfl
   have E:R=0:=by rw[<-S];subst Q F;exact fg f B c v D d y G H
   clear L;subst E;rw[Int.mul_zero];try clear L
   clear G H wm W S I J Q F za zb;go_enter func140,ntmps140;go_wp2_with fail;refine cm (P _) λU t=>?_;have a:=Ab (e.1.next t) (e.2.trans (t.mono e.2.size));clear t e;try clear g h k l m n o p q s
   obtain⟨g,h,k,l,m⟩:=a.1.1.cells;obtain⟨n,o,p,q,s⟩:=a.1.2.cells;go_wp2_with fail;refine cm (K _) λV u=>?_;have b:=Ab (a.1.next u) (a.2.trans (u.mono a.2.size));clear u a;try clear g h k l m n o p q s
   obtain⟨g,h,k,l,m⟩:=b.1.1.cells;obtain⟨n,o,p,q,s⟩:=b.1.2.cells;go_wp2;go_ret;exact⟨rfl,b.2⟩
  ·have q2:(A==2)=false:=beq_eq_false_iff_ne.2 F;have E:R=1:=by rw[<-S];obtain rfl:=J.resolve_right F;subst Q;rfl
   have wr:=L.1;subst E;rw[Int.mul_one];try clear L
   clear G H wm W S I J Q F za zb;go_enter func140,ntmps140;go_wp2_with fail;refine cm (P _) λU t=>?_;have a:=Ab (e.1.next t) (e.2.trans (t.mono e.2.size));clear t e;try clear g h k l m n o p q s
   obtain⟨g,h,k,l,m⟩:=a.1.1.cells;obtain⟨n,o,p,q,s⟩:=a.1.2.cells;go_wp2_with fail;refine cm (K _) λV u=>?_;have b:=Ab (a.1.next u) (a.2.trans (u.mono a.2.size));clear u a;try clear g h k l m n o p q s
   obtain⟨g,h,k,l,m⟩:=b.1.1.cells;obtain⟨n,o,p,q,s⟩:=b.1.2.cells;go_wp2;go_ret;exact⟨rfl,b.2⟩
 ·have q1:(z==2)=false:=beq_eq_false_iff_ne.2 Q;by_cases F:A=2
  ·have q2:(A==2)=true:=by rw[F];rfl
   have E:R=-1:=by rw[<-S];obtain rfl:=I.resolve_right Q;subst F;rfl
   have wr:=L.2;subst E;rw[Int.mul_neg_one];try clear L
   clear G H wm W S I J Q F za zb;go_enter func140,ntmps140;go_wp2_with fail;refine cm (P _) λU t=>?_;have a:=Ab (e.1.next t) (e.2.trans (t.mono e.2.size));clear t e;try clear g h k l m n o p q s
   obtain⟨g,h,k,l,m⟩:=a.1.1.cells;obtain⟨n,o,p,q,s⟩:=a.1.2.cells;go_wp2_with fail;refine cm (K _) λV u=>?_;have b:=Ab (a.1.next u) (a.2.trans (u.mono a.2.size));clear u a;try clear g h k l m n o p q s
   obtain⟨g,h,k,l,m⟩:=b.1.1.cells;obtain⟨n,o,p,q,s⟩:=b.1.2.cells;go_wp2;go_ret;exact⟨rfl,b.2⟩
  ·have q2:(A==2)=false:=beq_eq_false_iff_ne.2 F;have e1:=I.resolve_right Q;have e2:=J.resolve_right F;have ae:Lw (cI (c+v.size) (d+y.size)) (Lib.compareBytes (Ny v).data.toList (Ny y).data.toList)=R:=by
    rw[<-S];subst e1 e2;exact(kA c v d y za zb).symm
   have ag:=e1▸G;have ah:=e2▸H;have ai:=e1▸za;have aj:=e2▸zb;clear G H e1 e2 I J Q F za zb S;obtain⟨-,-,lA,eA,-,-⟩:=C2 f 1 B c v ag;obtain⟨-,-,lB,eB,-,-⟩:=C2 f 1 D d y ah;have wa:=zw ((v.size:Int)+c) (by omega);have wb:=zw ((y.size:Int)+d) (by omega);by_cases hm:(v.size:Int)+c<(y.size:Int)+d
   ·have E:R=-1:=by rw[<-ae,jQ _ _ (by omega)];rfl
    subst E;have wr:=L.2;rw[Int.mul_neg_one];clear L;clear ag ah wm W lA lB eA eB ae ai aj;go_enter func140,ntmps140;go_wp2_with fail;refine cm (P _) λU t=>?_;have a:=Ab (e.1.next t) (e.2.trans (t.mono e.2.size));clear t e;try clear g h k l m n o p q s
    obtain⟨g,h,k,l,m⟩:=a.1.1.cells;obtain⟨n,o,p,q,s⟩:=a.1.2.cells;go_wp2_with fail;refine cm (K _) λV u=>?_;have b:=Ab (a.1.next u) (a.2.trans (u.mono a.2.size));clear u a;try clear g h k l m n o p q s
    obtain⟨g,h,k,l,m⟩:=b.1.1.cells;obtain⟨n,o,p,q,s⟩:=b.1.2.cells;go_wp2;go_ret;exact⟨rfl,b.2⟩
   by_cases aD:(y.size:Int)+d<(v.size:Int)+c
   ·have E:R=1:=by rw[<-ae,ma _ _ (by omega)];rfl
    subst E;have wr:=L.1;rw[Int.mul_one];clear L;clear ag ah wm W lA lB eA eB ae ai aj;go_enter func140,ntmps140;go_wp2_with fail;refine cm (P _) λU t=>?_;have a:=Ab (e.1.next t) (e.2.trans (t.mono e.2.size));clear t e;try clear g h k l m n o p q s
    obtain⟨g,h,k,l,m⟩:=a.1.1.cells;obtain⟨n,o,p,q,s⟩:=a.1.2.cells;go_wp2_with fail;refine cm (K _) λV u=>?_;have b:=Ab (a.1.next u) (a.2.trans (u.mono a.2.size));clear u a;try clear g h k l m n o p q s
    obtain⟨g,h,k,l,m⟩:=b.1.1.cells;obtain⟨n,o,p,q,s⟩:=b.1.2.cells;go_wp2;go_ret;exact⟨rfl,b.2⟩
   obtain⟨N,ca,rfl⟩:=Nm f B c v ag;obtain⟨O,cb,rfl⟩:=Nm f D d y ah;have sA:=AE N;have sB:=AE O;rw[sA] at lA wa hm aD;rw[sB] at lB wb hm aD;have HE:Hid (cI (vl N*10^(c-min c d).toNat) (vl O*10^(d-min c d).toNat)=R):=by
    show _=_
    rw[<-ae,show c+((tx N).size:Int)=d+((tx O).size:Int) by omega,UP];exact(fc N O ca.1 cb.1 _ _ (by omega)).symm
   have HM:=zq λX=>gp c d X;obtain⟨x3,x4⟩:(c-min c d).toNat<=100/\(d-min c d).toNat<=100:=by omega
   have v1:IntKind.i64.wrap (c-min c d)=((c-min c d).toNat:Int):=Dn (by omega);have v2:IntKind.i64.wrap (d-min c d)=((d-min c d).toNat:Int):=Dn (by omega);generalize (c-min c d).toNat=i at*
   generalize (d-min c d).toNat=j at*
   generalize min c d=M at*
   have aE:=zq λX=>NZ N i X ca (O7 N ai) (by omega) (by omega);have aF:=zq λX=>NZ O j X cb (O7 O aj) (by omega) (by omega);have aG:Hid (cA 193 #[.string (tx (N++List.replicate i 0)),.string (tx (O++List.replicate j 0))] (.int .i64 R)):=λX=>by
    have:=DG _ _ X (BT N i ca (O7 N ai)) (BT O j cb (O7 O aj)) (by simp;omega) (by simp;omega);rw[Bb,Bb] at this;rw[<-HE];exact this
   have wr:=wm R (by rw[<-HE];unfold cI;split<;>(try split)<;>omega);clear L ag ah wm W lA lB eA eB ae ca cb x3 x4 HE ai aj;generalize tx (N++List.replicate i 0)=UA at*
   generalize tx (O++List.replicate j 0)=UB at*
   generalize tx N=TA at*
   generalize tx O=TB at*
   go_enter func140,ntmps140;go_wp2_with fail;refine cm (P _) λU t=>?_;have a:=Ab (e.1.next t) (e.2.trans (t.mono e.2.size));clear t e;try clear g h k l m n o p q s
   obtain⟨g,h,k,l,m⟩:=a.1.1.cells;obtain⟨n,o,p,q,s⟩:=a.1.2.cells;go_wp2_with fail;refine cm (K _) λV u=>?_;have b:=Ab (a.1.next u) (a.2.trans (u.mono a.2.size));clear u a;try clear g h k l m n o p q s
   obtain⟨g,h,k,l,m⟩:=b.1.1.cells;obtain⟨n,o,p,q,s⟩:=b.1.2.cells;go_wp2_with fail;refine(HM _).mono ?_;rintro x w3 ⟨rfl,rfl⟩;go_upto_region 13 with fail;have aH:=dR w3;refine AP (C:=AD w3.heap.size w3) aH ?_;repeat (go_big_quiet_step ((intro hC;rename_i wx;first|exact rfl|((with_reducible refine Calls.class_of (aE.out wx) ?_);exact(λw' hb=>BQ hC hb))|((with_reducible refine Calls.class_of (aF.out wx) ?_);exact(λw' hb=>BQ hC hb))|((with_reducible refine Calls.class_of (aG.out wx) ?_);exact(λw' hb=>BQ hC hb))|(obtain⟨q0,q1,q2,q3,q4⟩:=(b.out.1.next hC).1.cells;go_simp;exact rfl)|(obtain⟨q0,q1,q2,q3,q4⟩:=(b.out.1.next hC).2.cells;go_simp;exact rfl))))
   refine wpQuiet_nil ?_;intro w4 aJ;have aX:=b.2.trans (aJ.mono b.2.size);clear aJ b aH aE aF aG g h k l m n o p q s;go_wp2;go_ret;exact⟨rfl,aX⟩
theorem I0(k:Int)(b:Bool)(e:Int)(s:AB)(w:AA):cB 139 #[AH k b e s] w (.bool ((k==3)||(k==4))):=by
 cases h1:(k==3) with
 |true=>
  go_enter func139,ntmps139;go_wp2;go_ret;exact⟨rfl,bA⟩
 |false=>
  go_enter func139,ntmps139;go_wp2;go_ret;exact⟨rfl,bA⟩
theorem PZ(f:Int)(o:Int)(u:Bool)(v:Int)(r:AB)(p:Int)(x:Bool)(y:Int)(s:AB)(w:AA)(R:r.size<=4611686018427387904)(S:s.size<=4611686018427387904):
 cB 62 #[.int .i64 f,AH o u v r,AH p x y s] w (.int .i64 (UT f o u v r p x y s)):=by
 have J:Hid (cA 114 #[.int .i64 f,AH o u v r] (.bool (AQ f o u v r))):=λX=>Bn f o u v r X R;have K:Hid (cA 114 #[.int .i64 f,AH p x y s] (.bool (AQ f p x y s))):=λX=>Bn f p x y s X S;have M:Hid (cA 139 #[AH o u v r] (.bool ((o==3)||(o==4)))):=λX=>I0 o u v r X;have T:Hid (cA 139 #[AH p x y s] (.bool ((p==3)||(p==4)))):=λX=>I0 p x y s X;obtain⟨U,V,-⟩:=G7 w o u v r p x y s;have t:=Ab U V;clear U V;obtain⟨H,N⟩:=zxe (UT f o u v r p x y s);have D:Hid ((if AQ f o u v r&&AQ f p x y s then(if ((o==3)||(o==4))||((p==3)||(p==4)) then 2 else XI o u v r p x y s) else 3)=H):=N;have I:Hid (AQ f o u v r=true->AQ f p x y s=true->((o==3)||(o==4))=false->((p==3)||(p==4))=false->cA 140 #[AH o u v r,AH p x y s] (.int .i64 (XI o u v r p x y s))):=λa b Z h2 X=>by
  obtain⟨-,k1,-⟩:=C2 f o u v r a;obtain⟨-,k2,-⟩:=C2 f p x y s b;simp only[Bool.or_eq_false_iff,oc] at Z h2;exact TF f o u v r p x y s X a b (by omega) (by omega)
 rw[N];clear N R S;generalize XI o u v r p x y s=W at*
 generalize AQ f o u v r=RA at*
 generalize AQ f p x y s=RB at*
 generalize ((o==3)||(o==4))=NA at*
 generalize ((p==3)||(p==4))=NB at*
 cases RA with
 |false=>
  have E:3=H:=D.out;subst E;clear D I;go_enter func62,ntmps62;go_wp2_with fail;refine cm (J _) λL z=>?_;have c:=Ab (t.1.next z) (t.2.trans (z.mono t.2.size));clear z t;try clear d e g h i j k l m n
  obtain⟨d,e,g,h,i⟩:=c.1.1.cells;obtain⟨j,k,l,m,n⟩:=c.1.2.cells;go_wp2;go_ret;exact⟨rfl,c.2⟩
 |true=>
  cases RB with
  |false=>
   have E:3=H:=D.out;subst E;clear D I;go_enter func62,ntmps62;go_wp2_with fail;refine cm (J _) λL z=>?_;have c:=Ab (t.1.next z) (t.2.trans (z.mono t.2.size));clear z t;try clear d e g h i j k l m n
   obtain⟨d,e,g,h,i⟩:=c.1.1.cells;obtain⟨j,k,l,m,n⟩:=c.1.2.cells;go_wp2_with fail;refine cm (K _) λO B=>?_;have q:=Ab (c.1.next B) (c.2.trans (B.mono c.2.size));clear B c;try clear d e g h i j k l m n
   obtain⟨d,e,g,h,i⟩:=q.1.1.cells;obtain⟨j,k,l,m,n⟩:=q.1.2.cells;go_wp2;go_ret;exact⟨rfl,q.2⟩
  |true=>
   cases NA with
   |true=>
    have E:2=H:=D.out;subst E;clear D I;go_enter func62,ntmps62;go_wp2_with fail;refine cm (J _) λL z=>?_;have c:=Ab (t.1.next z) (t.2.trans (z.mono t.2.size));clear z t;try clear d e g h i j k l m n
    obtain⟨d,e,g,h,i⟩:=c.1.1.cells;obtain⟨j,k,l,m,n⟩:=c.1.2.cells;go_wp2_with fail;refine cm (K _) λO B=>?_;have q:=Ab (c.1.next B) (c.2.trans (B.mono c.2.size));clear B c;try clear d e g h i j k l m n
    obtain⟨d,e,g,h,i⟩:=q.1.1.cells;obtain⟨j,k,l,m,n⟩:=q.1.2.cells;go_wp2_with fail;refine cm (M _) λY C=>?_;have A:=Ab (q.1.next C) (q.2.trans (C.mono q.2.size));clear C q;try clear d e g h i j k l m n
    obtain⟨d,e,g,h,i⟩:=A.1.1.cells;obtain⟨j,k,l,m,n⟩:=A.1.2.cells;go_wp2;go_ret;exact⟨rfl,A.2⟩
   |false=>
    cases NB with
    |true=>
     have E:2=H:=D.out;subst E;clear D I;go_enter func62,ntmps62;go_wp2_with fail;refine cm (J _) λL z=>?_;have c:=Ab (t.1.next z) (t.2.trans (z.mono t.2.size));clear z t;try clear d e g h i j k l m n
     obtain⟨d,e,g,h,i⟩:=c.1.1.cells;obtain⟨j,k,l,m,n⟩:=c.1.2.cells;go_wp2_with fail;refine cm (K _) λO B=>?_;have q:=Ab (c.1.next B) (c.2.trans (B.mono c.2.size));clear B c;try clear d e g h i j k l m n
     obtain⟨d,e,g,h,i⟩:=q.1.1.cells;obtain⟨j,k,l,m,n⟩:=q.1.2.cells;go_wp2_with fail;refine cm (M _) λY C=>?_;have A:=Ab (q.1.next C) (q.2.trans (C.mono q.2.size));clear C q;try clear d e g h i j k l m n
     obtain⟨d,e,g,h,i⟩:=A.1.1.cells;obtain⟨j,k,l,m,n⟩:=A.1.2.cells;go_wp2_with fail;refine cm (T _) λw4 G=>?_;have F:=Ab (A.1.next G) (A.2.trans (G.mono A.2.size));clear G A;try clear d e g h i j k l m n
     obtain⟨d,e,g,h,i⟩:=F.1.1.cells;obtain⟨j,k,l,m,n⟩:=F.1.2.cells;go_wp2;go_ret;exact⟨rfl,F.2⟩
    |false=>
     have E:W=H:=D.out;subst E;have ag:Hid (cA 140 #[AH o u v r,AH p x y s] (.int .i64 W)):=I rfl rfl rfl rfl;clear D I;go_enter func62,ntmps62;go_wp2_with fail;refine cm (J _) λL z=>?_;have c:=Ab (t.1.next z) (t.2.trans (z.mono t.2.size));clear z t;try clear d e g h i j k l m n
     obtain⟨d,e,g,h,i⟩:=c.1.1.cells;obtain⟨j,k,l,m,n⟩:=c.1.2.cells;go_wp2_with fail;refine cm (K _) λO B=>?_;have q:=Ab (c.1.next B) (c.2.trans (B.mono c.2.size));clear B c;try clear d e g h i j k l m n
     obtain⟨d,e,g,h,i⟩:=q.1.1.cells;obtain⟨j,k,l,m,n⟩:=q.1.2.cells;go_wp2_with fail;refine cm (M _) λY C=>?_;have A:=Ab (q.1.next C) (q.2.trans (C.mono q.2.size));clear C q;try clear d e g h i j k l m n
     obtain⟨d,e,g,h,i⟩:=A.1.1.cells;obtain⟨j,k,l,m,n⟩:=A.1.2.cells;go_wp2_with fail;refine cm (T _) λw4 G=>?_;have F:=Ab (A.1.next G) (A.2.trans (G.mono A.2.size));clear G A;try clear d e g h i j k l m n
     obtain⟨d,e,g,h,i⟩:=F.1.1.cells;obtain⟨j,k,l,m,n⟩:=F.1.2.cells;go_wp2_with fail;refine cm (ag _) λw5 P=>?_;have Q:=Ab (F.1.next P) (F.2.trans (P.mono F.2.size));clear P F;try clear d e g h i j k l m n
     obtain⟨d,e,g,h,i⟩:=Q.1.1.cells;obtain⟨j,k,l,m,n⟩:=Q.1.2.cells;go_wp2;go_ret;exact⟨rfl,Q.2⟩
end Go.Proofs.YteofommckgeemaaGreatDoor
