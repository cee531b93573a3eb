/- Steps. -/
import Derived.Test.YteofommckgeemaaGreatDoorEAB
namespace Go.Proofs.YteofommckgeemaaGreatDoor
open Go.RowKit Go.Proofs.Tryz
set_option linter.unusedVariables false
set_option maxRecDepth 100000
set_option maxHeartbeats 8000000
def Jc(n:Nat):AG:=(Lib.decDigits n).map λu=>(u.toNat:Int)-48
theorem Xo(n:Nat):tx (Jc n)=⟨(Lib.decDigits n).toArray⟩:=by
 apply De;rw[AR];unfold Jc;rw[List.map_map];congr 1;rw[List.map_congr_left (g:=id),List.map_id];intro u _;show UInt8.ofNat (48+((u.toNat:Int)-48)).toNat=u
 rw[show(48+((u.toNat:Int)-48)).toNat=u.toNat by omega];exact UInt8.ofNat_toNat
theorem In{n:Nat}(h:n<10):Jc n=[(n:Int)]:=by
 unfold Jc;rw[Lib.decDigits,dif_pos h];show[(((UInt8.ofNat (48+n)).toNat:Int)-48)]=_
 rw[UInt8.toNat_ofNat',Nat.mod_eq_of_lt (by omega)];congr 1;omega
theorem Im{n:Nat}(h:¬n<10):Jc n=Jc (n/10)++[((n%10:Nat):Int)]:=by
 unfold Jc;rw[Lib.decDigits,dif_neg h,List.map_append];congr 1;show[(((UInt8.ofNat (48+n%10)).toNat:Int)-48)]=_
 rw[UInt8.toNat_ofNat',Nat.mod_eq_of_lt (by omega)];congr 1;omega
theorem FY(n:Nat)(h:n<10000):(Jc n).length<=4:=by
 by_cases a:n<10
 ·rw[In a];simp
 rw[Im a];by_cases b:n/10<10
 ·rw[In b];simp
 rw[Im b];by_cases c:n/10/10<10
 ·rw[In c];simp
 rw[Im c,In (by omega:n/10/10/10<10)];simp
def KR(A B:AG):AB:=if B=[] then tx A else tx A++{data:=#[46]}++tx B
def Re(x:Int):AB:=if x<0 then{data:=#[45]}++tx (Jc (-x).toNat) else{data:=#[43]}++tx (Jc x.toNat)
def Su(e:Int)(L:AG):AB:=
 if e<=0/\-6<=(L.length:Int)-1+e then KR ((Ak ((-e).toNat+1) L).take ((Ak ((-e).toNat+1) L).length-(-e).toNat)) ((Ak ((-e).toNat+1) L).drop ((Ak ((-e).toNat+1) L).length-(-e).toNat))
 else KR (L.take 1) (L.drop 1)++{data:=#[69]}++Re ((L.length:Int)-1+e)
def DB(b:Bool):AB:=if b then{data:=#[45]} else{data:=#[]}
def P3(k e:Int)(s:AB):AB:=if k=2 then{data:=#[73,110,102,105,110,105,116,121]} else if k=3 then{data:=#[78,97,78]} else if k=4 then{data:=#[115,78,97,78]} else Su e (dl s)
def FI(k:Int)(b:Bool)(e:Int)(s:AB):AB:=if AQ 128 k b e s then DB b++P3 k e s else{data:=#[]}
theorem gg(d:Int)(W:AA):(convert 22 9 (.slice (some ⟨W.heap.size,0,none⟩) 1 1)).run prog (W.alloc (.cells #[.int .u8 (48+d)] 5))=.ok (.string (tx [d])) (W.alloc (.cells #[.int .u8 (48+d)] 5)):=
 run_convert_bytes_arg (P:=prog) _ 22 5 underlying22 underlying5 W.heap.size 0 1 1 [48+d] rfl (λi a=>by
  match i,a with
  |0,_=>simp) 9 underlying9
def j1(m:Nat)(n:Nat)(S:AG):Prop:=(S=[]/\n=m)\/(S≠[]/\((n=0/\Jc m=S)\/(0<n/\Jc m=Jc n++S)))
theorem j1.next{m n:Nat}{S:AG}(h:j1 m n S)(c:S=[]\/0<n):j1 m (n/10) (((n%10:Nat):Int)::S):=by
 refine .inr ⟨List.cons_ne_nil _ _,?_⟩;have b:Jc m=Jc n++S:=by
  rcases h with⟨rfl,rfl⟩|⟨d,⟨rfl,e⟩|⟨e,f⟩⟩
  ·rw[List.append_nil]
  ·rcases c with q|q
   ·exact absurd q d
   ·omega
  ·exact f
 by_cases a:n<10
 ·refine .inl ⟨by omega,?_⟩;rw[b,In a,Nat.mod_eq_of_lt a];rfl
 ·refine .inr ⟨by omega,?_⟩;rw[b,Im a,List.append_assoc];rfl
theorem j1.last{m n:Nat}{S:AG}(h:j1 m n S)(b:S≠[])(c:n=0):Jc m=S:=by
 rcases h with⟨rfl,_⟩|⟨_,⟨_,a⟩|⟨a,_⟩⟩
 ·exact absurd rfl b
 ·exact a
 ·omega
theorem Fi(m:Nat)(hm:m<1000000)(w:World):cB 52 #[.int .i64 m] w (.string (tx (Jc m))):=by
 go_enter func52,ntmps52;go_wp2;go_loopg [0,3] (m+1) (λgk s0 s3 wx=>∃(n:Nat) (S:List Int),s0=.int .i64 n/\s3=.string (tx S)/\Hid (j1 m n S)/\n<=m/\S.length+n<=m+1/\Hid (gk=if S=[] then m+1 else n)/\Below w.heap.size w wx);case atStart=>exact⟨m,[],rfl,by rw[show tx []={data:=#[]} from by apply ByteArray.ext;rw[AR];rfl],.inl ⟨rfl,rfl⟩,Nat.le_refl _,by simp,by show _=_;rw[if_pos rfl],Below.refl _ _⟩
 case round=>
  obtain⟨n,S,rfl,rfl,hS,hn,hln,hgk,hbel⟩:=hrel;have hsz:=hbel.size;have hlen:(tx S).toList.isEmpty=decide (S=[]):=by
   rw[ByteArray.toList_eq,AR];cases S<;>rfl
  by_cases hg:S=[]\/0<n
  ·have e1:Int.tmod (n:Int) 10=((n%10:Nat):Int):=by rw[Int.tmod_eq_emod_of_nonneg (by omega)];omega
   have e2:Int.tdiv (n:Int) 10=((n/10:Nat):Int):=by rw[Int.tdiv_eq_ediv_of_nonneg (by omega)];omega
   obtain⟨hd,hq⟩:n%10<=9/\n/10<=n:=by omega
   have HN:=hS.out.next hg;have hap:tx [((n%10:Nat):Int)]++tx S=tx (((n%10:Nat):Int)::S):=Ax _ _;have hz1:(tx [((n%10:Nat):Int)]).size=1:=AE _;have hz2:=AE S;have hln2:S.length+1+n/10<=m+1:=by
    rcases hg with q|q
    ·rw[q,List.length_nil] at hln ⊢;omega
    ·omega
   have HG:Hid ((if (((n%10:Nat):Int)::S)=[] then m+1 else n/10)<gk):=by
    rw[hgk.out];show _<_
    rw[if_neg (List.cons_ne_nil _ _)];by_cases q:S=[]
    ·rw[if_pos q];omega
    ·rw[if_neg q];rcases hg with c|c
     ·exact absurd c q
     ·omega
   have HN1:Hid (j1 m (n/10) (((n%10:Nat):Int)::S)):=HN;clear HN hgk;generalize n%10=r at*
   generalize n/10=q at*
   have hcv:=λW=>gg (r:Int) W;have w1:IntKind.i64.wrap (48+(r:Int))=48+r:=Dn (by omega);have w2:IntKind.u8.wrap (48+(r:Int))=48+r:=by rw[IntKind.wrap_u8];omega
   have w3:IntKind.i64.wrap (r:Int)=r:=Dn (by omega);have w4:IntKind.i64.wrap (q:Int)=q:=Dn (by omega);by_cases hS0:S=[]
   ·rw[decide_eq_true hS0] at hlen;clear hS0 hg hS;go_wp2;go_roundg (if (((r:Nat):Int)::S)=[] then m+1 else q);case measure=>exact HG.out
    case rel=>exact⟨q,_,rfl,congrArg _ hap,HN1,by omega,by rw[List.length_cons];omega,rfl,hbel.alloc (by omega) _⟩
   ·have hg':(0:Int)<(n:Int):=by
     rcases hg with c|c
     ·exact absurd c hS0
     ·omega
    rw[decide_eq_false hS0] at hlen;clear hS0 hg hS;go_wp2;go_roundg (if (((r:Nat):Int)::S)=[] then m+1 else q);case measure=>exact HG.out
    case rel=>exact⟨q,_,rfl,congrArg _ hap,HN1,by omega,by rw[List.length_cons];omega,rfl,hbel.alloc (by omega) _⟩
  ·have hS0:S≠[]:=λq=>hg (.inl q);have hn0:n=0:=by have:¬0<n:=λq=>hg (.inr q);omega
   subst hn0;rw[decide_eq_false hS0] at hlen;have HE:=hS.out.last hS0 rfl;clear hg hS hgk;go_wp2;go_ret;exact⟨by rw[HE];rfl,hbel⟩
theorem KY:DB true={data:=#[45]}:=rfl
theorem KX:DB false={data:=#[]}:=rfl
theorem L8(S:AB)(A B:AG)(h:B≠[]):S++tx A++{data:=#[46]}++tx B=S++KR A B:=by
 unfold KR;rw[zyn h,ByteArray.append_assoc,ByteArray.append_assoc,ByteArray.append_assoc]
theorem PO(A:AG):KR A []=tx A:=by unfold KR;rw[zyp rfl]
theorem lK(S:AB)(x:Int)(h:x<0):S++{data:=#[69,45]}++tx (Jc (-x).toNat)=S++{data:=#[69]}++Re x:=by
 unfold Re;rw[zyp h];have e:({data:=#[69,45]}:AB)={data:=#[69]}++{data:=#[45]}:=rfl;rw[e];simp only[ByteArray.append_assoc]
theorem lL(S:AB)(x:Int)(h:¬x<0):S++{data:=#[69,43]}++tx (Jc x.toNat)=S++{data:=#[69]}++Re x:=by
 unfold Re;rw[zyn h];have e:({data:=#[69,43]}:AB)={data:=#[69]}++{data:=#[43]}:=rfl;rw[e];simp only[ByteArray.append_assoc]
theorem QX(k:Nat)(L:AG)(h:-6<=(L.length:Int)-1-k)(n:Nat)(a:(Ak (k+1) L).length=n+k):Su (-(k:Int)) L=KR ((Ak (k+1) L).take n) ((Ak (k+1) L).drop n):=by
 unfold Su;rw[zyp ⟨by omega,by omega⟩,show(- -(k:Int)).toNat=k by omega,a,Nat.add_sub_cancel]
theorem Ug(e:Int)(L:AG)(h:¬(e<=0/\-6<=(L.length:Int)-1+e)):Su e L=KR (L.take 1) (L.drop 1)++{data:=#[69]}++Re ((L.length:Int)-1+e):=by
 unfold Su;rw[zyn h]
theorem Tv(b:Bool)(k:Nat)(L:AG)(r:0<L.length)(hl:L.length<=34)(t:-6<=(L.length:Int)-1-k)(u:AQ 128 1 b (-(k:Int)) (tx L)=true)(w:AA):
 cB 46 #[AH 1 b (-(k:Int)) (tx L)] w (.string (DB b++Su (-(k:Int)) L)):=by
 have I:=C9 (k+1) L;obtain⟨n,c⟩:∃n,(Ak (k+1) L).length=n+k:=⟨(Ak (k+1) L).length-k,by omega⟩;obtain⟨ad,ae⟩:n<=40/\k<=40:=by omega
 rw[QX k L t n c];have f:=C8 (Ak (k+1) L) n (by omega);have d:=Hm (Ak (k+1) L) n (by omega);have a:(tx (Ak (k+1) L)).size=n+k:=by rw[AE,c]
 rw[a] at d;have v:Hid (k=0->Ak (k+1) L=L/\n=L.length):=λq=>by
  subst q;have:Ak (0+1) L=L:=by unfold Ak;rw[show 0+1-L.length=0 by omega];rfl
  rw[this] at c;exact⟨this,by omega⟩
 have x:Hid (Ak (k+1) L=List.replicate (k+1-L.length) 0++L):=rfl;have y:Hid (cA 114 #[.int .i64 128,AH 1 b (-(k:Int)) (tx L)] (.bool true)):=λX=>by
  have:=Bn 128 1 b (-(k:Int)) (tx L) X (by rw[AE];omega);rwa[u] at this
 have z:Hid (((Ak (k+1) L).drop n).length=k):=by show _=_;rw[List.length_drop];omega
 have A:=CE w (.int .i64 1) (.bool b) (.int .i64 (-(k:Int))) (.string (tx L));have e:Hid (F9 (w.alloc (AY 1 b (-(k:Int)) (tx L))) w.heap.size (.int .i64 1) (.bool b) (.int .i64 (-(k:Int))) (.string (tx L))/\AD w.heap.size w (w.alloc (AY 1 b (-(k:Int)) (tx L)))):=⟨A,bA⟩;have B:=zw ((L.length:Int)-1) (by omega);have J:=zw ((L.length:Int)-1+-(k:Int)) (by omega);have K:IntKind.i64.wrap ((k:Int))=(k:Int):=Dn (by omega);have M:IntKind.i64.wrap ((n:Int)+(k:Int)+-(k:Int))=(n:Int):=Dn (by omega);obtain⟨N,O⟩:-6<=(L.length:Int)-1+-(k:Int)/\-(k:Int)<=0:=by omega
 have P:(n:Int)<=(n:Int)+(k:Int):=by omega
 have hz:=AE L;clear A u I c t;cases b
 all_goals
  go_enter func46,ntmps46;go_wp2_with fail;refine cm (y _) λB g=>?_;have h:=Ab (e.1.below g (by simp)) (e.2.trans (g.mono e.2.size));clear g e y;obtain⟨a0,a1,Q,a3,a4⟩:=h.1;go_wp2;go_loopg [4] (k+1-L.length) (λR s S=>∃j:Nat,j<=k+1-L.length/\Hid (R=k+1-L.length-j)/\s=.string (tx (List.replicate j 0++L))/\S=B);case atStart=>exact⟨0,B9 _,rfl,rfl,rfl⟩
  case round=>
   obtain⟨j,T,C,rfl,U⟩:=hrel;obtain rfl:=U.symm;have i:(tx (List.replicate j 0++L)).size=j+L.length:=by rw[AE,Dc,GG]
   by_cases V:j<k+1-L.length
   ·have D:(j:Int)+(L.length:Int)<=(k:Int):=by omega
    have W:({data:=#[48]}:AB)++tx (List.replicate j 0++L)=tx (List.replicate (j+1) 0++L):=by
     rw[show({data:=#[48]}:AB)=tx [0] from by apply De;rw[AR];rfl,Ax,List.replicate_succ];rfl
    clear f d a;go_wp2;go_roundg (k+1-L.length-(j+1));case measure=>have:=C.out;omega
    case rel=>exact⟨j+1,by omega,rfl,congrArg _ W,rfl⟩
   ·have E:j=k+1-L.length:=by omega
    have l:Hid (List.replicate j 0++L=Ak (k+1) L):=by rw[E];exact x.symm
    have Y:j+L.length=n+k:=by rw[<-i,l,a]
    rw[l] at i ⊢;have D:¬(n:Int)+(k:Int)<=(k:Int):=by omega
    clear i Y E V T l C;by_cases m:k=0
    ·subst m;obtain⟨Z,q2⟩:=v rfl;rw[Z] at a f d ⊢;subst q2;have F:-((0:Nat):Int)=0:=rfl;rw[F] at Q;have ak:¬(L.length:Int)<=0:=by omega
     have al:L≠[]:=λq=>by rw[q] at r;exact absurd r (by decide)
     clear f d a D J K M N O P F;go_wp2;go_ret;refine⟨?_,h.2⟩;rw[PO];rfl
    ·have am:-(k:Int)≠0:=by omega
     have o:(Ak (k+1) L).drop n≠[]:=λq=>by have:=z.out;rw[q] at this;exact m this.symm
     have G:=L8 (DB false) ((Ak (k+1) L).take n) _ o;have H:=L8 (DB true) ((Ak (k+1) L).take n) _ o;rw[KX] at G;rw[KY] at H;clear o z x v m;have z1:(tx ((Ak (k+1) L).take n)).size<=40:=by rw[AE,FQ];omega
     have z2:(tx ((Ak (k+1) L).drop n)).size<=80:=by rw[AE,List.length_drop];have:=C9 (k+1) L;omega
     generalize tx ((Ak (k+1) L).take n)=TA at*
     generalize tx ((Ak (k+1) L).drop n)=TB at*
     generalize tx (Ak (k+1) L)=TD at*
     obtain⟨TP,p⟩:=zxe (KR ((Ak (k+1) L).take n) ((Ak (k+1) L).drop n));rw[p] at G H;have ab:=zq p;clear p;go_wp2_with fail;go_quiet (fail);go_wp2;go_ret;exact⟨by rw[ab];rfl,Go.below_drewN h.2 _⟩
theorem Wv(b:Bool)(e:Int)(L:AG)(Q:0<L.length)(R:L.length<=34)(T:-6176<=e/\e<=6111)(s:¬(e<=0/\-6<=(L.length:Int)-1+e))(D:AQ 128 1 b e (tx L)=true)(w:AA):
 cB 46 #[AH 1 b e (tx L)] w (.string (DB b++Su e L)):=by
 rw[Ug e L s];have U:=C8 L 1 (by omega);have K:=Hm L 1 (by omega);have M:=AE L;rw[M] at K;obtain⟨x,A⟩:=zxe ((L.length:Int)-1+e);have V:-7000<=x/\x<=7000:=by omega
 have E:Hid (cA 114 #[.int .i64 128,AH 1 b e (tx L)] (.bool true)):=λX=>by
  have:=Bn 128 1 b e (tx L) X (by rw[AE];omega);rwa[D] at this
 have F:=CE w (.int .i64 1) (.bool b) (.int .i64 e) (.string (tx L));have t:Hid (F9 (w.alloc (AY 1 b e (tx L))) w.heap.size (.int .i64 1) (.bool b) (.int .i64 e) (.string (tx L))/\AD w.heap.size w (w.alloc (AY 1 b e (tx L)))):=⟨F,bA⟩;have N:=zw ((L.length:Int)-1) (by omega);have p:=zw ((L.length:Int)-1+e) (by omega);have W:=zw (-x) (by omega);rw[A] at p s ⊢;have n:Hid (x<0->cA 52 #[.int .i64 (-x)] (.string (tx (Jc (-x).toNat)))):=λO X=>by
  have:=Fi (-x).toNat (by omega) X;rwa[show(((-x).toNat:Nat):Int)=-x by omega] at this
 have o:Hid (0<=x->cA 52 #[.int .i64 x] (.string (tx (Jc x.toNat)))):=λO X=>by
  have:=Fi x.toNat (by omega) X;rwa[show((x.toNat:Nat):Int)=x by omega] at this
 have Y:(tx (Jc (-x).toNat)).size<=4/\(tx (Jc x.toNat)).size<=4:=⟨by rw[AE];exact FY _ (by omega),by rw[AE];exact FY _ (by omega)⟩;have Z:(tx (L.take 1)).size<=1:=by rw[AE,FQ];omega
 have z2:(tx (L.drop 1)).size<=40:=by rw[AE,List.length_drop];omega
 have zP:(KR (L.take 1) (L.drop 1)).size<=80:=by
  unfold KR;split
  ·omega
  ·rw[ByteArray.size_append,ByteArray.size_append];show _+1+_<=_;omega
 have u:Hid (∀S:AB,(L.length:Int)<=1->S++tx (L.take 1)=S++KR (L.take 1) (L.drop 1)):=λS r=>by
  have:L.drop 1=[]:=List.drop_eq_nil_of_le (by omega);rw[this,PO]
 have v:Hid (∀S:AB,(1:Int)<L.length->S++tx (L.take 1)++{data:=#[46]}++tx (L.drop 1)=S++KR (L.take 1) (L.drop 1)):=λS r=>L8 S _ _ λq=>by
  have:=congrArg List.length q;rw[List.length_drop,List.length_nil] at this;omega
 have d:=zq λS h=>lK S x h;have f:=zq λS h=>lL S x (by omega);generalize tx (L.take 1)=TA at*
 generalize tx (L.drop 1)=TB at*
 generalize KR (L.take 1) (L.drop 1)=a at*
 generalize tx (Jc (-x).toNat)=TN at*
 generalize tx (Jc x.toNat)=TM at*
 generalize Re x=G at*
 generalize tx L=TL at*
 have H:DB b++(a++{data:=#[69]}++G)=DB b++a++{data:=#[69]}++G:=by simp only[ByteArray.append_assoc]
 rw[H];have y:(1:Int)<=L.length:=by omega
 clear F D H;have z:=zq s;clear s;cases b
 all_goals
  go_enter func46,ntmps46;go_wp2_with fail;refine cm (E _) λN y=>?_;have c:=Ab (t.1.below y (by simp)) (t.2.trans (y.mono t.2.size));clear y t E;obtain⟨a0,a1,a2,a3,a4⟩:=c.1;by_cases I:(1:Int)<L.length
  ·have r:=v (DB false) I;have B:=v (DB true) I;rw[KX] at r;rw[KY] at B;clear u v;by_cases g:x<0
   ·have i:=n g;have j:=d (DB false++a) g;have k:=d (DB true++a) g;rw[KX] at j;rw[KY] at k;clear d f n o;by_cases C:e<=0
    ·have P:x< -6:=by have:=z.out;omega
     go_wp2_with fail;refine cm (i _) λp l=>?_;go_wp2;go_ret;exact⟨rfl,c.2.trans (l.mono c.2.size)⟩
    ·exact absurd A (by omega)
   ·have m:0<=x:=by omega
    have i:=o m;have j:=f (DB false++a) m;have k:=f (DB true++a) m;rw[KX] at j;rw[KY] at k;have C:¬e<=0:=λq=>by have:=z.out;omega
    clear d f n o;go_wp2_with fail;refine cm (i _) λp l=>?_;go_wp2;go_ret;exact⟨rfl,c.2.trans (l.mono c.2.size)⟩
  ·have J:(L.length:Int)<=1:=by omega
   have r:=u (DB false) J;have B:=u (DB true) J;rw[KX] at r;rw[KY] at B;clear u v;by_cases g:x<0
   ·have i:=n g;have j:=d (DB false++a) g;have k:=d (DB true++a) g;rw[KX] at j;rw[KY] at k;clear d f n o;by_cases C:e<=0
    ·have P:x< -6:=by have:=z.out;omega
     go_wp2_with fail;refine cm (i _) λp l=>?_;go_wp2;go_ret;exact⟨rfl,c.2.trans (l.mono c.2.size)⟩
    ·exact absurd A (by omega)
   ·have m:0<=x:=by omega
    have i:=o m;have j:=f (DB false++a) m;have k:=f (DB true++a) m;rw[KX] at j;rw[KY] at k;have C:¬e<=0:=λq=>by have:=z.out;omega
    clear d f n o;go_wp2_with fail;refine cm (i _) λp l=>?_;go_wp2;go_ret;exact⟨rfl,c.2.trans (l.mono c.2.size)⟩
theorem Jz(k:Int)(b:Bool)(e:Int)(s:AB)(h:AQ 128 k b e s=true):
 (k=1/\s=tx (dl s)/\0<(dl s).length/\(dl s).length<=34/\-6176<=e/\e<=6111)\/k=2\/(k=3/\b=false)\/(k=4/\b=false):=by
 unfold AQ at h;rw[zyn (by decide)] at h;by_cases d:k=1
 ·rw[zyp d] at h;simp only[Bool.and_eq_true,decide_eq_true_eq] at h;obtain⟨f,c,a⟩:=h;obtain⟨g,i,j⟩:=Fk _ s f;have l:((dl s).length:Int)<=34:=i;exact .inl ⟨d,j,g.2.1,by omega,c,a⟩
 ·rw[zyn d] at h;by_cases c:k=2
  ·exact .inr (.inl c)
  ·rw[zyn c] at h;by_cases a:k=3\/k=4
   ·rw[zyp a] at h;simp only[Bool.and_eq_true,Bool.not_eq_true'] at h;rcases a with q|q
    ·exact .inr (.inr (.inl ⟨q,h.2.2⟩))
    ·exact .inr (.inr (.inr ⟨q,h.2.2⟩))
   ·rw[zyn a] at h;cases h
theorem Pe(k:Int)(b:Bool)(e:Int)(s:AB)(w:AA)(h:s.size<=4611686018427387904):
 cB 46 #[AH k b e s] w (.string (FI k b e s)):=by
 cases hO:AQ 128 k b e s with
 |false=>
  have d:Hid (cA 114 #[.int .i64 128,AH k b e s] (.bool false)):=λX=>by
   have:=Bn 128 k b e s X h;rwa[hO] at this
  have f:FI k b e s={data:=#[]}:=by unfold FI;rw[hO];rfl
  rw[f];clear f hO h;go_enter func46,ntmps46;go_wp2_with fail;refine cm (d _) λi a=>?_;go_wp2;go_ret;exact⟨rfl,BQ bA a⟩
 |true=>
  have f:FI k b e s=DB b++P3 k e s:=by unfold FI;rw[hO];rfl
  rw[f];rcases Jz k b e s hO with⟨rfl,o,j,l,p,q⟩|r
  ·have t:P3 1 e s=Su e (dl s):=by unfold P3;rw[zyn (by decide),zyn (by decide),zyn (by decide)]
   rw[t];generalize dl s=L at*
   subst o;by_cases u:e<=0/\-6<=(L.length:Int)-1+e
   ·obtain⟨m,rfl⟩:∃m:Nat,e=-(m:Int):=⟨(-e).toNat,by omega⟩;exact Tv b m L j l (by omega) hO w
   ·exact Wv b e L j l ⟨p,q⟩ u hO w
  ·have d:Hid (cA 114 #[.int .i64 128,AH k b e s] (.bool true)):=λX=>by
    have:=Bn 128 k b e s X h;rwa[hO] at this
   have n:=CE w (.int .i64 k) (.bool b) (.int .i64 e) (.string s);have c:Hid (F9 (w.alloc (AY k b e s)) w.heap.size (.int .i64 k) (.bool b) (.int .i64 e) (.string s)/\AD w.heap.size w (w.alloc (AY k b e s))):=⟨n,bA⟩;clear n hO h f;rcases r with rfl|⟨rfl,rfl⟩|⟨rfl,rfl⟩
   ·cases b
    all_goals
     go_enter func46,ntmps46;go_wp2_with fail;refine cm (d _) λi a=>?_;have g:=Ab (c.1.below a (by simp)) (c.2.trans (a.mono c.2.size));obtain⟨v,x,y,z,A⟩:=g.1;clear a c d;go_wp2;go_ret;exact⟨rfl,g.2⟩
   all_goals
    go_enter func46,ntmps46;go_wp2_with fail;refine cm (d _) λi a=>?_;have g:=Ab (c.1.below a (by simp)) (c.2.trans (a.mono c.2.size));obtain⟨v,x,y,z,A⟩:=g.1;clear a c d;go_wp2;go_ret;exact⟨rfl,g.2⟩
def GI(W:AA)(b:Nat)(x y z u:AK):Prop:=W.heap[b]?=some (.cells #[x,y,z,u] 78 (0,0))
theorem LO(w:AA)(x y z u:AK):GI (w.alloc (.cells #[x,y,z,u] 78)) w.heap.size x y z u:=(MapKept.heap_alloc w (.cells #[x,y,z,u] 78)).1
theorem GI.cells{w:AA}{b:Nat}{x y z u:AK}(h:GI w b x y z u):w.cell? ⟨b,0,none⟩=some x/\w.cell? ⟨b,1,none⟩=some y/\w.cell? ⟨b,2,none⟩=some z/\w.cell? ⟨b,3,none⟩=some u/\∀i,w.frozen? ⟨b,i,none⟩=false:=by
 unfold GI at h;exact⟨by simp[World.cell?,h],by simp[World.cell?,h],by simp[World.cell?,h],by simp[World.cell?,h],λi=>by simp[World.frozen?,h]⟩
theorem GI.lt{w:AA}{b:Nat}{x y z u:AK}(h:GI w b x y z u):b<w.heap.size:=(Array.getElem?_eq_some_iff.1 h).1
theorem GI.below{w a:AA}{b B:Nat}{x y z u:AK}(h:GI w b x y z u)(c:AD B w a)(d:b<B):GI a b x y z u:=(c.block b d).trans h
theorem GI.next{w a:AA}{b:Nat}{x y z u:AK}(h:GI w b x y z u)(c:AD w.heap.size w a):GI a b x y z u:=h.below c h.lt
abbrev mV(w:AA)(a:Int)(b:Bool)(c:Int)(d:AB)(e:Int)(f:Bool)(g:Int)(h:AB):AA:=(w.alloc (AY a b c d)).alloc (AY e f g h)
def Jg(p:Nat)(a:Int)(b:Bool)(c:Int)(d:AB)(e:Int)(f:Bool)(g:Int)(h:AB)(W:AA):Prop:=
 GI W p (.int .i64 a) (.bool b) (.int .i64 c) (.string d)/\GI W (p+1) (.int .i64 e) (.bool f) (.int .i64 g) (.string h)
theorem G7(w:AA)(a:Int)(b:Bool)(c:Int)(d:AB)(e:Int)(f:Bool)(g:Int)(h:AB):Jg w.heap.size a b c d e f g h (mV w a b c d e f g h)/\AD w.heap.size w (mV w a b c d e f g h)/\(mV w a b c d e f g h).heap.size=w.heap.size+2:=by
 unfold mV;have m:=LO w (.int .i64 a) (.bool b) (.int .i64 c) (.string d);have n:(w.alloc (AY a b c d)).heap.size=w.heap.size+1:=by simp
 have j:AD w.heap.size w (w.alloc (AY a b c d)):=bA;generalize w.alloc (AY a b c d)=i at*
 have k:=LO i (.int .i64 e) (.bool f) (.int .i64 g) (.string h);have o:(i.alloc (AY e f g h)).heap.size=i.heap.size+1:=by simp
 have l:AD i.heap.size i (i.alloc (AY e f g h)):=bA;rw[n] at k;exact⟨⟨m.next l,k⟩,j.trans (l.mono j.size),by omega⟩
theorem Jg.next{p:Nat}{W a:AA}{b:Int}{c:Bool}{d:Int}{e:AB}{f:Int}{g:Bool}{i:Int}{j:AB}(h:Jg p b c d e f g i j W)(k:AD W.heap.size W a):Jg p b c d e f g i j a:=⟨h.1.next k,h.2.next k⟩
def cI(x y:Int):Int:=if x<y then -1 else if y<x then 1 else 0
def Lw(x y:Int):Int:=if x=0 then y else x
def BN(k:Int)(s:AB):Bool:=(k==1)&&(s.toList==[48])
def Px(k e:Int)(s:AB):Int:=if BN k s then -9223372036854775808 else e+s.size
def Ny(s:AB):AB:=⟨(Lib.trimRightB s.data.toList 48).toArray⟩
def EU(c d:Int)(a:AB)(e f:Int)(b:AB):Int:=Lw (cI (Px c d a) (Px e f b)) (Lib.compareBytes (Ny a).data.toList (Ny b).data.toList)
theorem E9(x:Int)(w:AA):cE 275 #[.int .i64 x] w (.bool false):=by
 go_enter func275,ntmps275;go_wp2;go_ret;exact⟨by simp,rfl⟩
theorem RQ(x y:Int)(w:AA):cE 234 #[.int .i64 x,.int .i64 y] w (.int .i64 (cI x y)):=by
 by_cases b:x<y
 ·have E:Hid (cI x y=-1):=zyp b;rw[E];go_enter func234,ntmps234;go_wp2_with fail;refine(E9 x _).mono ?_;rintro e a ⟨rfl,rfl⟩;go_wp2_with fail;refine(E9 y _).mono ?_;rintro e a ⟨rfl,rfl⟩;go_wp2;go_ret;exact⟨rfl,rfl⟩
 ·by_cases c:y<x
  ·have E:Hid (cI x y=1):=by show _=_;unfold cI;rw[zyn b,zyp c]
   rw[E];go_enter func234,ntmps234;go_wp2_with fail;refine(E9 x _).mono ?_;rintro e a ⟨rfl,rfl⟩;go_wp2_with fail;refine(E9 y _).mono ?_;rintro e a ⟨rfl,rfl⟩;go_wp2;go_ret;exact⟨rfl,rfl⟩
  ·have E:Hid (cI x y=0):=by show _=_;unfold cI;rw[zyn b,zyn c]
   rw[E];go_enter func234,ntmps234;go_wp2_with fail;refine(E9 x _).mono ?_;rintro e a ⟨rfl,rfl⟩;go_wp2_with fail;refine ce (E9 y _) ?_;go_wp2;go_ret;exact⟨rfl,rfl⟩
theorem JB(x y:Int)(g:Nat)(w:AA)(n:w.cell? ⟨g,0,none⟩=some (.int .i64 x))(o:w.cell? ⟨g,1,none⟩=some (.int .i64 y)):
 cE 233 #[.slice (some ⟨g,0,none⟩) 2 2] w (.int .i64 (Lw x y)):=by
 obtain⟨R,e⟩:=zxe (Lw x y);have f:=zq e;rw[e];clear e;go_enter func233,ntmps233;go_wp2;go_loopw [8] (λs wr=>∃j:Nat,j<=2/\s=.int .i64 j/\Hid (0<j->x=0)/\Hid (1<j->y=0)/\wr=w) (λs _=>2-(intOf s).toNat);case atStart=>exact⟨0,B9 _,rfl,λh=>by omega,λh=>by omega,rfl⟩
 case round=>
  obtain⟨j,k,rfl,b,c,rfl⟩:=hrel
  match j,k with
  |0,_=>
   by_cases a:x=0
   ·subst a;clear b c;go_wp2;go_roundw;case rel=>exact⟨1,by omega,by go_num,by first|exactλ_=>trivial|exactλ_=>rfl,λh=>by omega,by first|exact trivial|rfl⟩
    case measure=>simp[intOf]
   ·have l:(x==0)=false:=by simpa using a
    have d:Hid (R=x):=by show _=_;rw[<-f];exact zyn a
    clear b c a;go_wp2;go_ret;exact⟨by rw[d];rfl,rfl⟩
  |1,_=>
   have i:=b (by omega);subst i;by_cases a:y=0
   ·subst a;clear b c;go_wp2;go_roundw;case rel=>exact⟨2,by omega,by go_num,by first|exactλ_=>trivial|exactλ_=>rfl,by first|exactλ_=>trivial|exactλ_=>rfl,by first|exact trivial|rfl⟩
    case measure=>simp[intOf]
   ·have l:(y==0)=false:=by simpa using a
    have d:Hid (R=y):=by show _=_;rw[<-f];exact zyp rfl
    clear b c a;go_wp2;go_ret;exact⟨by rw[d];rfl,rfl⟩
  |2,_=>
   have i:=b (by omega);have m:=c (by omega);subst i m;have d:Hid (R=0):=by show _=_;rw[<-f];exact zyp rfl
   clear b c;go_wp2;go_ret;exact⟨by rw[d];rfl,rfl⟩
theorem Ge(k:Int)(b:Bool)(e:Int)(s:AB)(w:AA):cB 93 #[AH k b e s] w (.bool (BN k s)):=by
 cases h1:(k==1) with
 |false=>
  have E:Hid (BN k s=false):=by show _=_;unfold BN;rw[h1];rfl
  rw[E];go_enter func93,ntmps93;go_wp2;go_ret;exact⟨rfl,bA⟩
 |true=>
  cases h2:(s.toList==[48]) with
  |false=>
   have E:Hid (BN k s=false):=by show _=_;unfold BN;rw[h1,h2];rfl
   rw[E];go_enter func93,ntmps93;go_wp2;go_ret;exact⟨rfl,bA⟩
  |true=>
   have E:Hid (BN k s=true):=by show _=_;unfold BN;rw[h1,h2];rfl
   rw[E];go_enter func93,ntmps93;go_wp2;go_ret;exact⟨rfl,bA⟩
theorem Na(s:AB)(w:AA)(a:s.size<=100):cE 277 #[.string s,.string {data:=#[48]}] w (.string (Ny s)):=
 strings_TrimRight_one s 48 (by decide) w (by omega)
theorem Ls(k:Int)(b:Bool)(e:Int)(s:AB)(w:AA)(h:s.size<=100)(i:-20000<=e/\e<=20000):cB 278 #[AH k b e s] w (.int .i64 (Px k e s)):=by
 have d:=zq λX=>Ge k b e s X;have f:Hid (Px k e s=if BN k s then -9223372036854775808 else e+s.size):=rfl;have l:IntKind.i64.wrap (e+(s.size:Int))=e+s.size:=Dn (by omega);have a:Hid (GI (w.alloc (AY k b e s)) w.heap.size (.int .i64 k) (.bool b) (.int .i64 e) (.string s)/\AD w.heap.size w (w.alloc (AY k b e s))):=⟨LO w _ _ _ _,bA⟩;rw[f];generalize BN k s=Z at*
 clear f i h;cases Z with
 |true=>
  go_enter func278,ntmps278;go_wp2_with fail;refine cm (d _) λj c=>?_;go_wp2;go_ret;exact⟨rfl,a.2.trans (c.mono a.2.size)⟩
 |false=>
  go_enter func278,ntmps278;go_wp2_with fail;refine cm (d _) λj c=>?_;have g:=Ab (a.1.next c) (a.2.trans (c.mono a.2.size));clear c a d;obtain⟨m,n,o,p,q⟩:=g.1.cells;go_wp2;go_ret;exact⟨rfl,g.2⟩
theorem Gm(w:AA)(x y:Int)(t:TypeId):(w.alloc (.cells #[.int .i64 x,.int .i64 y] t)).cell? ⟨w.heap.size,0,none⟩=some (.int .i64 x)/\(w.alloc (.cells #[.int .i64 x,.int .i64 y] t)).cell? ⟨w.heap.size,1,none⟩=some (.int .i64 y)/\AD w.heap.size w (w.alloc (.cells #[.int .i64 x,.int .i64 y] t)):=by
 have h:=(MapKept.heap_alloc w (.cells #[.int .i64 x,.int .i64 y] t)).1;exact⟨by unfold World.cell?;simp only[h];rfl,by unfold World.cell?;simp only[h];rfl,bA⟩
theorem Ti(e:Int)(j:Bool)(c:Int)(a:AB)(f:Int)(k:Bool)(d:Int)(b:AB)(w:AA)(p:a.size<=100)(q:b.size<=100)(A:-20000<=c/\c<=20000)(B:-20000<=d/\d<=20000):
 cB 235 #[AH e j c a,AH f k d b] w (.int .i64 (EU e c a f d b)):=by
 have D:=zq λX=>Na a X p;have E:=zq λX=>Na b X q;have F:=zq λX=>strings_Compare (Ny a) (Ny b) X;have G:=zq λX=>Ls e j c a X p A;have H:=zq λX=>Ls f k d b X q B;have I:Hid (cF 234 #[.int .i64 (Px e c a),.int .i64 (Px f d b)] (.int .i64 (cI (Px e c a) (Px f d b)))):=λX=>RQ _ _ X;have J:Hid (EU e c a f d b=Lw (cI (Px e c a) (Px f d b)) (Lib.compareBytes (Ny a).data.toList (Ny b).data.toList)):=rfl;rw[J];obtain⟨L,m,T⟩:=G7 w e j c a f k d b;have n:Hid (Jg w.heap.size e j c a f k d b ((w.alloc (AY e j c a)).alloc (AY f k d b))/\AD w.heap.size w ((w.alloc (AY e j c a)).alloc (AY f k d b))):=⟨L,m⟩;clear L m T J p q A B;generalize cI (Px e c a) (Px f d b)=M at*
 generalize Px e c a=W at*
 generalize Px f d b=Y at*
 generalize Lib.compareBytes (Ny a).data.toList (Ny b).data.toList=N at*
 generalize Ny a=Z at*
 generalize Ny b=TB at*
 go_enter func235,ntmps235;go_upto_region 1 with fail;generalize ((w.alloc (AY e j c a)).alloc (AY f k d b))=w0 at*
 have O:=dR w0;refine AP (C:=AD w0.heap.size w0) O.out ?_;repeat (refine wpQuiet_step (λK i=>?_);go_simp;first|(refine i _ ?_;clear i K)|(apply Exists.intro;refine⟨λl g=>?_,i _ ?_⟩;(first|exact rfl|((with_reducible refine(D.out l).mono ?_);exact(λ_ _ h=>⟨h.1,by rw[h.2];exact g⟩))|((with_reducible refine(E.out l).mono ?_);exact(λ_ _ h=>⟨h.1,by rw[h.2];exact g⟩))|((with_reducible refine(F.out l).mono ?_);exact(λ_ _ h=>⟨h.1,by rw[h.2];exact g⟩))|(obtain⟨r,s,t,u,v⟩:=(n.out.1.next g).1.cells;go_simp;exact rfl)|(obtain⟨r,s,t,u,v⟩:=(n.out.1.next g).2.cells;go_simp;exact rfl));clear i K))
 refine wpQuiet_nil ?_;intro x m;have o:=Ab (n.1.next m) (n.2.trans (m.mono n.2.size));clear m;clear O n D E F;go_upto_region 2 with fail;have P:=dR x;refine AM (C:=AD x.heap.size x) 6 P ?_;simp only[Hy,List.take_zero,Ia,List.drop_zero];repeat (refine wpQuiet_step (λK i=>?_);go_simp;first|(refine i _ ?_;clear i K)|(apply Exists.intro;refine⟨λl g=>?_,i _ ?_⟩;(first|exact rfl|((with_reducible refine Calls.class_of (G.out l) ?_);exact(λU y=>BQ g y))|((with_reducible refine Calls.class_of (H.out l) ?_);exact(λU y=>BQ g y))|((with_reducible refine(I.out l).mono ?_);exact(λ_ _ h=>⟨h.1,by rw[h.2];exact g⟩))|(obtain⟨r,s,t,u,v⟩:=(o.out.1.next g).1.cells;go_simp;exact rfl)|(obtain⟨r,s,t,u,v⟩:=(o.out.1.next g).2.cells;go_simp;exact rfl));clear i K))
 refine wpQuiet_nil ?_;intro Q R;have S:=zq (o.2.trans (R.mono o.2.size));clear R o P G H I;have z:=zq (Gm Q M N);go_wp2_with fail;refine ce (JB M N Q.heap.size _ (z _).1 (z _).2.1) ?_;have V:=S.trans ((z 3).2.2.mono S.size);go_wp2;go_ret;exact⟨rfl,V⟩
def IA(k:Int):Int:=if k=1 then 0 else if k=2 then 1 else if k=4 then 2 else 3
def Hr(w:AA):Prop:=(∀k:Nat,1<=k->k<=4->w.cell? ⟨1,k,none⟩=some (.int .i64 (IA k)))/\1<w.heap.size
theorem Hr.below{B:Nat}{w a:AA}(h:Hr w)(b:AD B w a)(c:1<B):Hr a:=
 ⟨λk d e=>(b.cell (p:=⟨1,k,none⟩) c).trans (h.1 k d e),DU h.2 b.size⟩
theorem Hr.next{w a:AA}(h:Hr w)(b:AD w.heap.size w a):Hr a:=h.below b h.2
def DA(x:Bool)(a c:Int)(e:AB)(b d:Int)(f:AB):Int:=
 if x then Lw (Lw (cI (IA a) (IA b)) (EU a c e b d f)) (cI c d) else Lw (cI (IA a) (IA b)) (EU a c e b d f)
def Ml(x:Bool)(b:Int)(a:Bool)(c:Int)(d:AB)(e:Int)(f:Bool)(g:Int)(h:AB):Int:=
 if a&& !f then -1 else if f&& !a then 1 else if a then DA x e g h b c d else DA x b c d e g h
def XF(p:Nat)(x:Bool)(a:Int)(b:Bool)(c:Int)(d:AB)(e:Int)(f:Bool)(g:Int)(h:AB)(W:AA):Prop:=
 W.heap[p]?=some (.cells #[.bool x] 204 (0,0))/\GI W (p+1) (.int .i64 a) (.bool b) (.int .i64 c) (.string d)/\GI W (p+2) (.int .i64 e) (.bool f) (.int .i64 g) (.string h)
theorem XF.next{p:Nat}{x:Bool}{W b:AA}{c:Int}{d:Bool}{e:Int}{f:AB}{g:Int}{i:Bool}{j:Int}{k:AB}(h:XF p x c d e f g i j k W)(a:AD W.heap.size W b):XF p x c d e f g i j k b:=
 ⟨(a.block p (Array.getElem?_eq_some_iff.1 h.1).1).trans h.1,h.2.1.next a,h.2.2.next a⟩
theorem XF.box{p:Nat}{x:Bool}{W:AA}{a:Int}{b:Bool}{c:Int}{d:AB}{e:Int}{f:Bool}{g:Int}{i:AB}(h:XF p x a b c d e f g i W):W.cell? ⟨p,0,none⟩=some (.bool x):=by
 unfold World.cell?;simp only[h.1];rfl
theorem Uq(w:AA)(x:Bool)(a:Int)(b:Bool)(c:Int)(d:AB)(e:Int)(f:Bool)(g:Int)(h:AB):
 XF w.heap.size x a b c d e f g h (mV (w.alloc (.cells #[.bool x] 204)) a b c d e f g h)/\AD w.heap.size w (mV (w.alloc (.cells #[.bool x] 204)) a b c d e f g h):=by
 have l:=(MapKept.heap_alloc w (.cells #[.bool x] 204)).1;have m:(w.alloc (.cells #[.bool x] 204)).heap.size=w.heap.size+1:=by simp
 have j:AD w.heap.size w (w.alloc (.cells #[.bool x] 204)):=bA;generalize w.alloc (.cells #[.bool x] 204)=n at*
 obtain⟨i,k,o⟩:=G7 n a b c d e f g h;rw[m] at i;exact⟨⟨(k.block _ (by omega)).trans l,i.1,i.2⟩,j.trans (k.mono j.size)⟩
theorem O9(x:Bool)(a:Nat)(A:Bool)(c:Int)(e:AB)(b:Nat)(s:Bool)(d:Int)(f:AB)(w:AA)(I:1<=a/\a<=4)(J:1<=b/\b<=4)(ad:e.size<=100)(ae:f.size<=100)(af:-20000<=c/\c<=20000)(ag:-20000<=d/\d<=20000)(hT:Hr w):
 cB 181 #[.agg #[.bool x],AH a A c e,AH b s d f] w (.int .i64 (Ml x a A c e b s d f)):=by
 have l:Hid (XF w.heap.size x a A c e b s d f (((w.alloc (.cells #[.bool x] 204)).alloc (AY a A c e)).alloc (AY b s d f))/\AD w.heap.size w (((w.alloc (.cells #[.bool x] 204)).alloc (AY a A c e)).alloc (AY b s d f))):=Uq w x a A c e b s d f;have q:Hid (Hr (((w.alloc (.cells #[.bool x] 204)).alloc (AY a A c e)).alloc (AY b s d f))):=hT.next l.2;have K:Hid (∀(kx:Nat) (nx:Bool) (L:Int) (N:AB) (ky:Nat) (ny:Bool) (M:Int) (O:AB),N.size<=100->O.size<=100->(-20000<=L/\L<=20000)->(-20000<=M/\M<=20000)->cA 235 #[AH kx nx L N,AH ky ny M O] (.int .i64 (EU kx L N ky M O))):=λkx nx L N ky ny M O P h2 h3 h4 X=>Ti kx nx L N ky ny M O X P h2 h3 h4;have B:Hid (∀(u v:Int) X,cE 234 #[.int .i64 u,.int .i64 v] X (.int .i64 (cI u v))):=λu v X=>RQ u v X;have Q:=zq hT;clear hT;cases A with
 |true=>
  cases s with
  |false=>
   clear K B q Q;go_enter func181,ntmps181;go_wp2;go_ret;exact⟨rfl,l.2⟩
  |true=>
   have E:Hid (Ml x a true c e b true d f=DA x b d f a c e):=rfl;rw[E];have R:Hid (cA 235 #[AH b true d f,AH a true c e] (.int .i64 (EU b d f a c e))):=K b true d f a true c e ae ad ag af;have S:Hid (DA x b d f a c e=if x then Lw (Lw (cI (IA b) (IA a)) (EU b d f a c e)) (cI d c) else Lw (cI (IA b) (IA a)) (EU b d f a c e)):=rfl;rw[S];have T:Hid (cF 234 #[.int .i64 (IA b),.int .i64 (IA a)] (.int .i64 (cI (IA b) (IA a)))):=B.out _ _;have ao:Hid (cF 234 #[.int .i64 d,.int .i64 c] (.int .i64 (cI d c))):=B.out _ _;clear E S K B;obtain⟨aC,aD⟩:(0:Int)<=(a:Int)/\(a:Int)<5:=by omega
   obtain⟨aE,aF⟩:(0:Int)<=(b:Int)/\(b:Int)<5:=by omega
   have y:Hid (1<=a/\a<=4/\1<=b/\b<=4):=⟨I.1,I.2,J.1,J.2⟩;clear I J ad ae af ag;generalize EU b d f a c e=j at*
   generalize cI d c=U at*
   generalize V:IA b=PA at*
   generalize W:IA a=PB at*
   have Y:Hid (IA b=PA/\IA a=PB):=⟨V,W⟩;clear V W;generalize cI PA PB=k at*
   obtain⟨D,F⟩:=zxe (Lw k j);rw[F];have Z:Hid (∀(g:Nat) X,X.cell? ⟨g,0,none⟩=some (.int .i64 k)->X.cell? ⟨g,1,none⟩=some (.int .i64 j)->cE 233 #[.slice (some ⟨g,0,none⟩) 2 2] X (.int .i64 D)):=λg X h0 P=>F▸JB k j g X h0 P;clear F;clear l q;have l:Hid (XF w.heap.size x b true d f a true c e (((w.alloc (.cells #[.bool x] 204)).alloc (AY b true d f)).alloc (AY a true c e))/\AD w.heap.size w (((w.alloc (.cells #[.bool x] 204)).alloc (AY b true d f)).alloc (AY a true c e))):=Uq w x b true d f a true c e;have q:Hid (Hr (((w.alloc (.cells #[.bool x] 204)).alloc (AY b true d f)).alloc (AY a true c e))):=Q.next l.2;clear Q;go_enter func181,ntmps181;go_upto_region 7 with fail;generalize (((w.alloc (.cells #[.bool x] 204)).alloc (AY b true d f)).alloc (AY a true c e))=w0 at*
   have aa:=dR w0;refine AM (C:=AD w0.heap.size w0) 12 aa.out ?_;simp only[Hy,List.take_zero,Ia,List.drop_zero];repeat (go_big_quiet_step ((intro m;rename_i wx;first|exact rfl|((with_reducible refine Calls.class_of (R.out wx) ?_);exact(λw' hb=>BQ m hb))|((with_reducible refine(T.out wx).mono ?_);exact(λ_ _ h=>⟨h.1,by rw[h.2];exact m⟩))|(obtain⟨n,q1,q2,q3,q4⟩:=(l.out.1.next m).2.1.cells;go_simp;exact rfl)|(obtain⟨n,q1,q2,q3,q4⟩:=(l.out.1.next m).2.2.cells;go_simp;exact rfl)|(have n:=(q.out.next m).1 b (by have:=y.out;omega) (by have:=y.out;omega);rw[Y.out.1] at n;go_simp;exact rfl)|(have n:=(q.out.next m).1 a (by have:=y.out;omega) (by have:=y.out;omega);rw[Y.out.2] at n;go_simp;exact rfl))))
   refine wpQuiet_nil ?_;intro i G;have z:Hid (XF w.heap.size x b true d f a true c e i/\AD w.heap.size w i):=⟨l.1.next G,l.2.trans (G.mono l.2.size)⟩;clear G l aa q R T;have p:Hid (∀t,(i.alloc (.cells #[.int .i64 k,.int .i64 j] t)).cell? ⟨i.heap.size,0,none⟩=some (.int .i64 k)/\(i.alloc (.cells #[.int .i64 k,.int .i64 j] t)).cell? ⟨i.heap.size,1,none⟩=some (.int .i64 j)/\AD i.heap.size i (i.alloc (.cells #[.int .i64 k,.int .i64 j] t))):=Gm i k j;go_wp2_with fail;refine(Z i.heap.size _ (p _).1 (p _).2.1).mono ?_;rintro r w3 ⟨rfl,rfl⟩;have o:Hid (XF w.heap.size x b true d f a true c e (i.alloc (.cells #[.int .i64 k,.int .i64 j] 3))/\AD w.heap.size w (i.alloc (.cells #[.int .i64 k,.int .i64 j] 3))):=⟨z.out.1.next (p.out _).2.2,z.out.2.trans ((p.out _).2.2.mono z.out.2.size)⟩;clear z p Z;generalize i.alloc (.cells #[.int .i64 k,.int .i64 j] 3)=w3 at*
   have n:=o.1.box;obtain⟨c0,c1,c2,c3,c4⟩:=o.1.2.1.cells;obtain⟨d0,d1,d2,d3,d4⟩:=o.1.2.2.cells;cases x with
   |false=>
    go_wp2;go_ret;exact⟨rfl,o.2⟩
   |true=>
    go_wp2_with fail;refine(ao _).mono ?_;rintro r w4 ⟨rfl,rfl⟩;have H:=zq (Gm w4 D U);go_wp2_with fail;refine(JB D U w4.heap.size _ (H _).1 (H _).2.1).mono ?_;rintro r w5 ⟨rfl,rfl⟩;have ay:=o.2.trans ((H 3).2.2.mono o.2.size);go_wp2;go_ret;exact⟨rfl,ay⟩
 |false=>
  cases s with
  |true=>
   clear K B q Q;go_enter func181,ntmps181;go_wp2;go_ret;exact⟨rfl,l.2⟩
  |false=>
   have E:Hid (Ml x a false c e b false d f=DA x a c e b d f):=rfl;rw[E];have R:=zq (K a false c e b false d f ad ae af ag);have S:Hid (DA x a c e b d f=if x then Lw (Lw (cI (IA a) (IA b)) (EU a c e b d f)) (cI c d) else Lw (cI (IA a) (IA b)) (EU a c e b d f)):=rfl;rw[S];have T:Hid (cF 234 #[.int .i64 (IA a),.int .i64 (IA b)] (.int .i64 (cI (IA a) (IA b)))):=B.out _ _;have ao:Hid (cF 234 #[.int .i64 c,.int .i64 d] (.int .i64 (cI c d))):=B.out _ _;clear E S K B;obtain⟨aC,aD⟩:(0:Int)<=(a:Int)/\(a:Int)<5:=by omega
   obtain⟨aE,aF⟩:(0:Int)<=(b:Int)/\(b:Int)<5:=by omega
   have y:Hid (1<=a/\a<=4/\1<=b/\b<=4):=⟨I.1,I.2,J.1,J.2⟩;clear I J ad ae af ag;generalize EU a c e b d f=j at*
   generalize cI c d=U at*
   generalize V:IA a=PA at*
   generalize W:IA b=PB at*
   have Y:=Ab V W;clear V W;generalize cI PA PB=k at*
   obtain⟨D,F⟩:=zxe (Lw k j);rw[F];have Z:Hid (∀(g:Nat) X,X.cell? ⟨g,0,none⟩=some (.int .i64 k)->X.cell? ⟨g,1,none⟩=some (.int .i64 j)->cE 233 #[.slice (some ⟨g,0,none⟩) 2 2] X (.int .i64 D)):=λg X h0 P=>F▸JB k j g X h0 P;clear F;clear Q;go_enter func181,ntmps181;go_upto_region 7 with fail;generalize (((w.alloc (.cells #[.bool x] 204)).alloc (AY a false c e)).alloc (AY b false d f))=w0 at*
   have aa:=dR w0;refine AM (C:=AD w0.heap.size w0) 12 aa.out ?_;simp only[Hy,List.take_zero,Ia,List.drop_zero];repeat (go_big_quiet_step ((intro m;rename_i wx;first|exact rfl|((with_reducible refine Calls.class_of (R.out wx) ?_);exact(λw' hb=>BQ m hb))|((with_reducible refine(T.out wx).mono ?_);exact(λ_ _ h=>⟨h.1,by rw[h.2];exact m⟩))|(obtain⟨n,q1,q2,q3,q4⟩:=(l.out.1.next m).2.1.cells;go_simp;exact rfl)|(obtain⟨n,q1,q2,q3,q4⟩:=(l.out.1.next m).2.2.cells;go_simp;exact rfl)|(have n:=(q.out.next m).1 a (by have:=y.out;omega) (by have:=y.out;omega);rw[Y.out.1] at n;go_simp;exact rfl)|(have n:=(q.out.next m).1 b (by have:=y.out;omega) (by have:=y.out;omega);rw[Y.out.2] at n;go_simp;exact rfl))))
   refine wpQuiet_nil ?_;intro i G;have z:Hid (XF w.heap.size x a false c e b false d f i/\AD w.heap.size w i):=⟨l.1.next G,l.2.trans (G.mono l.2.size)⟩;clear G l aa q R T;have p:Hid (∀t,(i.alloc (.cells #[.int .i64 k,.int .i64 j] t)).cell? ⟨i.heap.size,0,none⟩=some (.int .i64 k)/\(i.alloc (.cells #[.int .i64 k,.int .i64 j] t)).cell? ⟨i.heap.size,1,none⟩=some (.int .i64 j)/\AD i.heap.size i (i.alloc (.cells #[.int .i64 k,.int .i64 j] t))):=Gm i k j;go_wp2_with fail;refine(Z i.heap.size _ (p _).1 (p _).2.1).mono ?_;rintro r w3 ⟨rfl,rfl⟩;have o:Hid (XF w.heap.size x a false c e b false d f (i.alloc (.cells #[.int .i64 k,.int .i64 j] 3))/\AD w.heap.size w (i.alloc (.cells #[.int .i64 k,.int .i64 j] 3))):=⟨z.out.1.next (p.out _).2.2,z.out.2.trans ((p.out _).2.2.mono z.out.2.size)⟩;clear z p Z;generalize i.alloc (.cells #[.int .i64 k,.int .i64 j] 3)=w3 at*
   have n:=o.1.box;obtain⟨c0,c1,c2,c3,c4⟩:=o.1.2.1.cells;obtain⟨d0,d1,d2,d3,d4⟩:=o.1.2.2.cells;cases x with
   |false=>
    go_wp2;go_ret;exact⟨rfl,o.2⟩
   |true=>
    go_wp2_with fail;refine(ao _).mono ?_;rintro r w4 ⟨rfl,rfl⟩;have H:=zq (Gm w4 D U);go_wp2_with fail;refine ce (JB D U w4.heap.size _ (H _).1 (H _).2.1) ?_;have ay:=o.2.trans ((H 3).2.2.mono o.2.size);go_wp2;go_ret;exact⟨rfl,ay⟩
theorem C2(f k:Int)(b:Bool)(e:Int)(s:AB)(h:AQ f k b e s=true):(f=64\/f=128)/\(1<=k/\k<=4)/\s.size<=34/\(-6176<=e/\e<=6111)/\(k≠1->e=0/\s.size=0)/\(k=3\/k=4->b=false):=by
 unfold AQ at h;by_cases a:AF f=0
 ·rw[zyp a] at h;cases h
 rw[zyn a] at h;have g:f=64\/f=128:=by
  unfold AF at a;by_cases c:f=64
  ·exact .inl c
  ·rw[zyn c] at a;by_cases d:f=128
   ·exact .inr d
   ·rw[zyn d] at a;exact absurd rfl a
 have n:AF f<=34/\-6176<=AV f/\Ad f<=6111:=by rcases g with rfl|rfl<;>decide
 have j:s.toList.isEmpty=true->s.size=0:=λl=>by
  have e:s.toList.length=s.size:=by rw[ByteArray.toList_eq,Array.length_toList];rfl
  rw[List.isEmpty_iff.1 l] at e;exact e.symm
 by_cases c:k=1
 ·rw[zyp c] at h;unfold Be at h;simp only[Bool.and_eq_true,decide_eq_true_eq] at h;have d:=h.1.1.1.2;exact⟨g,by omega,by omega,by omega,λq=>absurd c q,λq=>by omega⟩
 ·rw[zyn c] at h;by_cases d:k=2
  ·rw[zyp d] at h;simp only[Bool.and_eq_true,decide_eq_true_eq] at h;have i:=j h.2;exact⟨g,by omega,by omega,by omega,λ_=>⟨h.1,i⟩,λq=>by omega⟩
  ·rw[zyn d] at h;by_cases i:k=3\/k=4
   ·rw[zyp i] at h;simp only[Bool.and_eq_true,decide_eq_true_eq,Bool.not_eq_true'] at h;have m:=j h.2.1;exact⟨g,by omega,by omega,by omega,λ_=>⟨h.1,m⟩,λ_=>h.2.2⟩
   ·rw[zyn i] at h;cases h
section
variable {P : Program} {ops : Array Oper} {md : Region.Mode} {C : Option Nat → World → Prop}
def N7(P:Program)(c:Array Oper)(C:Option Nat->AA->Prop)(o:Oper)(v:AK)(a:Act):Prop:=∀b,YieldsIn P c (C b) o v a
theorem N7.put{c d:Oper}{v u:AK}{a:Act}(f:N7 P ops C c v a)(g:c.apart ops d=true)(h:∀cs b,c.op≠.select cs b):N7 P ops C c v (a.put d.dst u):=λb=>by
 obtain⟨i,j,e⟩:=Oper.apart_spec g;exact(f b).of_same (execOp_put c h a d.dst u e) (wanted_put c a d.dst u e)
end
theorem fp(c x:UInt8)(l:List UInt8):(l++[x]).dropWhile (·==c)=if l.dropWhile (·==c)=[] then(if x=c then[] else[x]) else l.dropWhile (·==c)++[x]:=by
 induction l with
 |nil=>
  by_cases h:x=c
  ·subst h;simp
  ·simp[h]
 |cons y r ih=>
  by_cases h:y=c
  ·subst h;rw[List.cons_append,List.dropWhile_cons_of_pos (by simp),List.dropWhile_cons_of_pos (by simp)];exact ih
  ·rw[List.cons_append,List.dropWhile_cons_of_neg (by simpa using h),List.dropWhile_cons_of_neg (by simpa using h),zyn (by simp)];rfl
theorem VM(c x:UInt8)(l:List UInt8):Lib.trimRightB (x::l) c=if Lib.trimRightB l c=[]/\x=c then[] else x::Lib.trimRightB l c:=by
 unfold Lib.trimRightB;rw[List.reverse_cons,fp];by_cases h:l.reverse.dropWhile (·==c)=[]
 ·rw[zyp h,h];by_cases a:x=c
  ·rw[zyp a,zyp ⟨rfl,a⟩];rfl
  ·rw[zyn a,zyn (λq=>a q.2)];rfl
 ·rw[zyn h,zyn (λq=>h (List.reverse_eq_nil_iff.1 q.1))];simp
theorem Xn(c:UInt8)(a b:List UInt8)(h:a.length=b.length)(k:∀x∈a,¬x<c)(l:∀x∈b,¬x<c):Lib.compareBytes (Lib.trimRightB a c) (Lib.trimRightB b c)=Lib.compareBytes a b:=by
 induction a generalizing b with
 |nil=>
  cases b with
  |nil=>rfl
  |cons y s=>cases h
 |cons x r ih=>
  cases b with
  |nil=>cases h
  |cons y s=>
   have o:=ih s (by simpa using h) (λz i=>k z (GH _ i)) (λz i=>l z (GH _ i));have m:=k x Gx;have p:=l y Gx;rw[VM,VM];show _=if x<y then(-1:Int) else if y<x then 1 else Lib.compareBytes r s
   rw[<-o];have e:=UInt8.lt_irrefl c;by_cases g:Lib.trimRightB r c=[]/\x=c
   ·rw[zyp g];obtain⟨n,rfl⟩:=g;by_cases d:Lib.trimRightB s x=[]/\y=x
    ·rw[zyp d];obtain⟨j,rfl⟩:=d;rw[zyn e,zyn e,n,j]
    ·rw[zyn d];by_cases f:y=x
     ·subst f;rw[zyn e,zyn e,n];cases hs:Lib.trimRightB s y with
      |nil=>exact absurd ⟨hs,rfl⟩ d
      |cons z t=>rfl
     ·have:x<y:=by
       rw[UInt8.lt_iff_toNat_lt] at p ⊢;have:y.toNat≠x.toNat:=λq=>f (UInt8.toNat_inj.1 q);omega
      rw[zyp this];rfl
   ·rw[zyn g];by_cases d:Lib.trimRightB s c=[]/\y=c
    ·rw[zyp d];obtain⟨j,rfl⟩:=d;by_cases f:x=y
     ·subst f;rw[zyn e,zyn e,j];cases hs:Lib.trimRightB r x with
      |nil=>exact absurd ⟨hs,rfl⟩ g
      |cons z t=>rfl
     ·have:y<x:=by
       rw[UInt8.lt_iff_toNat_lt] at m ⊢;have:x.toNat≠y.toNat:=λq=>f (UInt8.toNat_inj.1 q);omega
      rw[zyn (λq=>m q),zyp this];rfl
    ·rw[zyn d];rfl
theorem jA(c:UInt8)(a:List UInt8)(k:Nat):Lib.trimRightB (a++List.replicate k c) c=Lib.trimRightB a c:=by
 unfold Lib.trimRightB;rw[List.reverse_append,List.reverse_replicate];congr 1;induction k with
 |zero=>rfl
 |succ k ih=>rw[List.replicate_succ,List.cons_append,List.dropWhile_cons_of_pos (by simp)];exact ih
theorem Fu(a:AG):(tx a).data.toList=a.map λd=>UInt8.ofNat (48+d).toNat:=by rw[AR]
theorem Ip(d:Int)(h:0<=d/\d<=9):(UInt8.ofNat (48+d).toNat).toNat=(48+d).toNat:=by
 rw[UInt8.toNat_ofNat'];omega
theorem mc(a b:AG)(f:Au a)(g:Au b)(c:a.length=b.length):Lib.compareBytes (tx a).data.toList (tx b).data.toList=if vl a<vl b then -1 else if vl a=vl b then 0 else 1:=by
 rw[Fu,Fu];induction a generalizing b with
 |nil=>
  cases b with
  |nil=>rfl
  |cons y s=>cases c
 |cons x r ih=>
  cases b with
  |nil=>cases c
  |cons y s=>
   have i:r.length=s.length:=by simpa using c
   have j:Au r:=λd e=>f d (GH _ e);have k:Au s:=λd e=>g d (GH _ e);have l:=f x Gx;have n:=g y Gx;have z:=AZ r j;have w:=AZ s k;rw[List.map_cons,List.map_cons];show(if UInt8.ofNat (48+x).toNat<UInt8.ofNat (48+y).toNat then(-1:Int) else if UInt8.ofNat (48+y).toNat<UInt8.ofNat (48+x).toNat then 1 else Lib.compareBytes _ _)=_
   rw[ih s j k i,Br,Br];rw[<-i] at w ⊢;have A:(0:Int)<10^r.length:=Int.pow_pos (by decide);generalize (10:Int)^r.length=m at*
   generalize vl r=u at*
   generalize vl s=v at*
   have o:(UInt8.ofNat (48+x).toNat<UInt8.ofNat (48+y).toNat)↔x<y:=by
    rw[UInt8.lt_iff_toNat_lt,Ip x l,Ip y n];omega
   have p:(UInt8.ofNat (48+y).toNat<UInt8.ofNat (48+x).toNat)↔y<x:=by
    rw[UInt8.lt_iff_toNat_lt,Ip x l,Ip y n];omega
   by_cases q:x<y
   ·rw[zyp (o.2 q)];have:m*(x+1)<=m*y:=NH (by omega) (by omega);rw[Int.mul_add] at this;rw[zyp (by omega)]
   ·rw[zyn λh=>q (o.1 h)];by_cases t:y<x
    ·rw[zyp (p.2 t)];have:m*(y+1)<=m*x:=NH (by omega) (by omega);rw[Int.mul_add] at this;rw[zyn (by omega),zyn (by omega)]
    ·rw[zyn λh=>t (p.1 h)];obtain rfl:x=y:=by omega
     simp only[show(u+m*x<v+m*x)=(u<v) from propext ⟨λh=>by omega,λh=>by omega⟩,show(u+m*x=v+m*x)=(u=v) from propext ⟨λh=>by omega,λh=>by omega⟩]
theorem UX(a:AG)(h:Au a):∀x∈(tx a).data.toList,¬x<48:=by
 rw[Fu];intro x c;obtain⟨d,b,rfl⟩:=List.mem_map.1 c;rw[UInt8.lt_iff_toNat_lt,Ip d (h d b)];have:=h d b;show¬_<48
 omega
theorem G0(a:AG)(h:Au a)(k:Nat):Au (a++List.replicate k 0):=λd b=>by
 rcases List.mem_append.1 b with q|q
 ·exact h d q
 ·have:=(List.mem_replicate.1 q).2;omega
theorem fc(a b:AG)(f:Au a)(g:Au b)(i j:Nat)(h:a.length+i=b.length+j):Lib.compareBytes (Ny (tx a)).data.toList (Ny (tx b)).data.toList=cI (vl a*10^i) (vl b*10^j):=by
 have e:∀(d:AG) (k:Nat),(Ny (tx d)).data.toList=Lib.trimRightB (tx (d++List.replicate k 0)).data.toList 48:=λd k=>by
  have q:(tx (d++List.replicate k 0)).data.toList=(tx d).data.toList++List.replicate k 48:=by
   rw[Fu,Fu,List.map_append,List.map_replicate];rfl
  rw[q,jA];unfold Ny;simp
 rw[e a i,e b j,Xn 48 _ _ (by rw[Fu,Fu];simpa using h) (UX _ (G0 a f i)) (UX _ (G0 b g j)),mc _ _ (G0 a f i) (G0 b g j) (by simpa using h),Bb,Bb];unfold cI;generalize vl a*10^i=u;generalize vl b*10^j=v;by_cases c:u<v
 ·rw[zyp c,zyp c]
 ·rw[zyn c,zyn c];by_cases l:v<u
  ·rw[zyp l,zyn (by omega)]
  ·rw[zyn l,zyp (by omega)]
end Go.Proofs.YteofommckgeemaaGreatDoor
