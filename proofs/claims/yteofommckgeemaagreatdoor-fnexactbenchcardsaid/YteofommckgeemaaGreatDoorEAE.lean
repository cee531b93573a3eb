/- Steps. -/
import Derived.Test.YteofommckgeemaaGreatDoorEAB
namespace Go.Proofs.YteofommckgeemaaGreatDoor
open Go.RowKit Go.Proofs.Tryz
set_option linter.unusedVariables false
set_option linter.unusedSimpArgs false
set_option maxRecDepth 100000
set_option maxHeartbeats 8000000
theorem DP(w:AA):cB 365 #[.agg #[]] w (.int .i64 16):=by
 go_enter func365,ntmps365;go_wp2;go_ret;exact⟨rfl,bA⟩
theorem CU(n:Nat)(X:AA):(method (n+1) 208 (.agg #[]) "loop.example/g00085/impl.digitCount").run prog X=.ok (365,.agg #[]) X:=by kernel_rfl
theorem KN(w:AA):cB 367 #[.agg #[]] w (.int .i64 (-398)):=by
 go_enter func367,ntmps367;go_wp2;go_ret;exact⟨rfl,bA⟩
theorem CN(n:Nat)(X:AA):(method (n+1) 208 (.agg #[]) "loop.example/g00085/impl.leastExp").run prog X=.ok (367,.agg #[]) X:=by kernel_rfl
theorem GR(w:AA):cB 366 #[.agg #[]] w (.int .i64 369):=by
 go_enter func366,ntmps366;go_wp2;go_ret;exact⟨rfl,bA⟩
theorem CG(n:Nat)(X:AA):(method (n+1) 208 (.agg #[]) "loop.example/g00085/impl.greatestExp").run prog X=.ok (366,.agg #[]) X:=by kernel_rfl
theorem fT(w:AA):cB 364 #[.agg #[]] w (.int .i64 398):=by
 go_enter func364,ntmps364;go_wp2;go_ret;exact⟨rfl,bA⟩
theorem TV(n:Nat)(X:AA):(method (n+1) 208 (.agg #[]) "loop.example/g00085/impl.bias").run prog X=.ok (364,.agg #[]) X:=by kernel_rfl
theorem D8(w:AA):cB 368 #[.agg #[]] w (.int .i64 8):=by
 go_enter func368,ntmps368;go_wp2;go_ret;exact⟨rfl,bA⟩
theorem Is(w:AA):cE 148 #[.int .i64 64] w (.tuple #[.iface 208 (.agg #[]),.bool true]):=by
 go_enter func148,ntmps148;go_wp2;go_ret2;exact⟨rfl,rfl⟩
theorem OI(w:AA):cB 283 #[.iface 208 (.agg #[])] w (.int .i64 5):=by
 go_enter func283,ntmps283;go_wp2_with fail;refine cm (DP _) λb a=>?_;go_wp2;go_ret;exact⟨rfl,a⟩
theorem Cx(w:AA):cB 370 #[.agg #[]] w (.int .i64 34):=by
 go_enter func370,ntmps370;go_wp2;go_ret;exact⟨rfl,bA⟩
theorem CF(n:Nat)(X:AA):(method (n+1) 211 (.agg #[]) "loop.example/g00085/impl.digitCount").run prog X=.ok (370,.agg #[]) X:=by kernel_rfl
theorem I2(w:AA):cB 372 #[.agg #[]] w (.int .i64 (-6176)):=by
 go_enter func372,ntmps372;go_wp2;go_ret;exact⟨rfl,bA⟩
theorem B7(n:Nat)(X:AA):(method (n+1) 211 (.agg #[]) "loop.example/g00085/impl.leastExp").run prog X=.ok (372,.agg #[]) X:=by kernel_rfl
theorem F0(w:AA):cB 371 #[.agg #[]] w (.int .i64 6111):=by
 go_enter func371,ntmps371;go_wp2;go_ret;exact⟨rfl,bA⟩
theorem B3(n:Nat)(X:AA):(method (n+1) 211 (.agg #[]) "loop.example/g00085/impl.greatestExp").run prog X=.ok (371,.agg #[]) X:=by kernel_rfl
theorem Xb(w:AA):cB 369 #[.agg #[]] w (.int .i64 6176):=by
 go_enter func369,ntmps369;go_wp2;go_ret;exact⟨rfl,bA⟩
theorem Q7(n:Nat)(X:AA):(method (n+1) 211 (.agg #[]) "loop.example/g00085/impl.bias").run prog X=.ok (369,.agg #[]) X:=by kernel_rfl
theorem DS(w:AA):cB 373 #[.agg #[]] w (.int .i64 12):=by
 go_enter func373,ntmps373;go_wp2;go_ret;exact⟨rfl,bA⟩
theorem G1(w:AA):cE 148 #[.int .i64 128] w (.tuple #[.iface 211 (.agg #[]),.bool true]):=by
 go_enter func148,ntmps148;go_wp2;go_ret2;exact⟨rfl,rfl⟩
theorem Mm(w:AA):cB 283 #[.iface 211 (.agg #[])] w (.int .i64 11):=by
 go_enter func283,ntmps283;go_wp2_with fail;refine cm (Cx _) λb a=>?_;go_wp2;go_ret;exact⟨rfl,a⟩
theorem It(f:Int)(w:AA)(a:f≠64)(b:f≠128):cE 148 #[.int .i64 f] w (.tuple #[.nilIface,.bool false]):=by
 have c:(f==64)=false:=beq_eq_false_iff_ne.2 a;have d:(f==128)=false:=beq_eq_false_iff_ne.2 b;go_enter func148,ntmps148;go_wp2;go_ret2;exact⟨rfl,rfl⟩
theorem Eb(f:Int)(w:AA):cB 157 #[.int .i64 f] w (.tuple #[.int .i64 (AF f),.int .i64 (AV f),.int .i64 (Ad f)]):=by
 by_cases b:f=64
 ·subst b;show cB 157 #[.int .i64 64] w (.tuple #[.int .i64 16,.int .i64 (-398),.int .i64 369])
  go_enter func157,ntmps157;go_wp2_with fail;refine(Is _).mono ?_;rintro e h ⟨rfl,rfl⟩;go_wp2_with fail;refine cm (DP _) λi a=>?_;go_wp2_with fail;refine cm (KN _) λj d=>?_;go_wp2_with fail;refine cm (GR _) λk g=>?_;go_wp2;go_ret3;exact⟨rfl,(a.trans (d.mono a.size)).trans (g.mono (DT a.size d.size))⟩
 ·by_cases c:f=128
  ·subst c;show cB 157 #[.int .i64 128] w (.tuple #[.int .i64 34,.int .i64 (-6176),.int .i64 6111])
   go_enter func157,ntmps157;go_wp2_with fail;refine(G1 _).mono ?_;rintro e h ⟨rfl,rfl⟩;go_wp2_with fail;refine cm (Cx _) λi a=>?_;go_wp2_with fail;refine cm (I2 _) λj d=>?_;go_wp2_with fail;refine cm (F0 _) λk g=>?_;go_wp2;go_ret3;exact⟨rfl,(a.trans (d.mono a.size)).trans (g.mono (DT a.size d.size))⟩
  ·have e:AF f=0/\AV f=0/\Ad f=0:=by unfold AF AV Ad;rw[zyn b,zyn c,zyn b,zyn c,zyn b,zyn c];exact⟨rfl,rfl,rfl⟩
   rw[e.1,e.2.1,e.2.2];clear e;go_enter func157,ntmps157;go_wp2_with fail;refine ce (It f _ b c) ?_;clear b c;go_wp2;go_ret3;exact⟨rfl,BI _ _⟩
def Fm(T:TypeId)(f:Int)(P:Nat)(a b:Int):Prop:=(T=208/\f=64/\P=16/\a=-398/\b=369)\/(T=211/\f=128/\P=34/\a=-6176/\b=6111)
theorem Fm.num{T:TypeId}{f:Int}{P:Nat}{a b:Int}(h:Fm T f P a b):(P=16/\a=-398/\b=369)\/(P=34/\a=-6176/\b=6111):=by
 rcases h with⟨-,-,h⟩|⟨-,-,h⟩
 ·exact .inl h
 ·exact .inr h
theorem Fm.cases{T:TypeId}{f:Int}{P:Nat}{a b:Int}(h:Fm T f P a b):
 (T=208/\Hid (cA 365 #[.agg #[]] (.int .i64 P))/\Hid (cA 367 #[.agg #[]] (.int .i64 a))/\Hid (cA 366 #[.agg #[]] (.int .i64 b)))\/
 (T=211/\Hid (cA 370 #[.agg #[]] (.int .i64 P))/\Hid (cA 372 #[.agg #[]] (.int .i64 a))/\Hid (cA 371 #[.agg #[]] (.int .i64 b))):=by
 rcases h with⟨rfl,-,rfl,rfl,rfl⟩|⟨rfl,-,rfl,rfl,rfl⟩
 ·exact .inl ⟨rfl,DP,KN,GR⟩
 ·exact .inr ⟨rfl,Cx,I2,F0⟩
theorem OW{T:TypeId}{f:Int}{P:Nat}{a b:Int}(h:Fm T f P a b)(w:AA):cE 148 #[.int .i64 f] w (.tuple #[.iface T (.agg #[]),.bool true]):=by
 rcases h with⟨rfl,rfl,-⟩|⟨rfl,rfl,-⟩
 ·exact Is w
 ·exact G1 w
theorem Uf(f:Int)(c:f=64\/f=128):∃T P a b,Fm T f P a b/\AF f=(P:Int)/\AV f=a/\Ad f=b:=by
 rcases c with rfl|rfl
 ·exact⟨_,_,_,_,.inl ⟨rfl,rfl,rfl,rfl,rfl⟩,rfl,rfl,rfl⟩
 ·exact⟨_,_,_,_,.inr ⟨rfl,rfl,rfl,rfl,rfl⟩,rfl,rfl,rfl⟩
theorem Mu(s:AB)(n:Int)(w:AA)(G:s.size<=4611686018427387904):
 cE 219 #[.string s,.int .i64 n] w (.bool (Be n s)):=by
 by_cases f:s.size<1
 ·have E:=zq (Fl n s f);have x:(s.size:Int)=0:=by omega
  clear f;go_enter func219,ntmps219;go_wp2;go_ret;exact⟨Ln.ret_bool E.symm,rfl⟩
 have x:((s.size:Int)==0)=false:=beq_eq_false_iff_ne.2 (by omega);have d:0<s.size:=by omega
 by_cases g:n<(s.size:Int)
 ·have E:=zq (Hc n s g);go_enter func219,ntmps219;go_wp2;go_ret;exact⟨Ln.ret_bool E.symm,rfl⟩
 have H:decide (n<(s.size:Int))=false:=by simpa using g
 have l:=zq λh y=>Hb n s d (by omega) y h;have z:=zq λh e=>Hd n s h e;have m:=zq λk o h=>I6 n s k o h;clear f g;generalize Be n s=r at*
 go_enter func219,ntmps219;go_wp2;go_loop [17] (λi=>∃k:Nat,k<=s.size/\i=.int .i64 k/\Hid (∀q (b:q<s.size),q<k->48<=(s[q]'b).toNat/\(s[q]'b).toNat<=57)) (λi=>s.size-(intOf i).toNat);case atStart=>exact⟨0,B9 _,rfl,λq b h=>absurd h (Nat.not_lt_zero q)⟩
 case round=>
  obtain⟨k,o,rfl,e⟩:=hrel;by_cases a:k<s.size
  ·have I:(k:Int)<(s.size:Int):=by omega
   by_cases A:(s[k]'a).toNat<48
   ·have p:((s[k]'a).toNat:Int)<48:=by omega
    go_wp2;go_ret;exact⟨Ln.ret_bool (m k a (.inl A)).symm,rfl⟩
   ·have p:¬((s[k]'a).toNat:Int)<48:=by omega
    have J:=By p;by_cases B:57<(s[k]'a).toNat
    ·have C:(57:Int)<((s[k]'a).toNat:Int):=by omega
     go_wp2;go_ret;exact⟨Ln.ret_bool (m k a (.inr B)).symm,rfl⟩
    ·have C:¬(57:Int)<((s[k]'a).toNat:Int):=by omega
     go_wp2;go_round;case rel=>exact⟨k+1,by omega,by go_num,λq b h=>by rcases Nat.lt_or_ge q k with c|c;exact e q b c;obtain rfl:q=k:=(by omega);omega⟩
     case measure=>simp[intOf];omega
  ·have K:¬(k:Int)<(s.size:Int):=by omega
   have t:=zq λq b=>e q b (by omega);clear e;by_cases u:s.size<=1
   ·have D:(s.size:Int)=1:=by omega
    have E:=zq (l t (.inl u));clear u;go_wp2;go_ret;exact⟨Ln.ret_bool E.symm,rfl⟩
   ·have D:((s.size:Int)==1)=false:=beq_eq_false_iff_ne.2 (by omega);by_cases j:(s[0]'d).toNat=48
    ·have v:((s[0]'d).toNat:Int)=48:=by omega
     have E:=zq (z (by omega) j);clear j;go_wp2;go_ret;exact⟨Ln.ret_bool E.symm,rfl⟩
    ·have v:(((s[0]'d).toNat:Int)==48)=false:=beq_eq_false_iff_ne.2 (by omega);have E:=zq (l t (.inr j));have F:Hid ((((s[0]'d).toNat:Int)!=48)=true):=by show _=_;rw[bne,v];rfl
     go_wp2;go_ret;exact⟨Ln.ret_bool (by rw[F,E]),rfl⟩
abbrev Ur(w:AA)(k:Int)(b:Bool)(e:Int)(s:AB):AA:=w.alloc (AY k b e s)
theorem WW{w W:AA}{k:Int}{b:Bool}{e:Int}{s:AB}(h:AD (w.heap.size+1) (Ur w k b e s) W):W.cell? ⟨w.heap.size,0,none⟩=some (.int .i64 k)/\W.cell? ⟨w.heap.size,1,none⟩=some (.bool b)/\W.cell? ⟨w.heap.size,2,none⟩=some (.int .i64 e)/\W.cell? ⟨w.heap.size,3,none⟩=some (.string s):=by
 refine⟨?_,?_,?_,?_⟩
 ·rw[h.cell (p:=⟨w.heap.size,0,none⟩) (by simp)];simp
 ·rw[h.cell (p:=⟨w.heap.size,1,none⟩) (by simp)];simp
 ·rw[h.cell (p:=⟨w.heap.size,2,none⟩) (by simp)];simp
 ·rw[h.cell (p:=⟨w.heap.size,3,none⟩) (by simp)];simp
theorem He{w W:AA}{k:Int}{b:Bool}{e:Int}{s:AB}(h:AD (w.heap.size+1) (Ur w k b e s) W):AD w.heap.size w W:=bA.trans (h.mono (by omega))
theorem Ga{w W a:AA}{k:Int}{b:Bool}{e:Int}{s:AB}(h:AD (w.heap.size+1) (Ur w k b e s) W)(c:AD W.heap.size W a):AD (w.heap.size+1) (Ur w k b e s) a:=h.trans (c.mono (by have:=h.size;simp at this;omega))
theorem Qq{T:TypeId}{f:Int}{P:Nat}{a c:Int}(j:Fm T f P a c)(b:Bool)(e:Int)(s:AB)(w:AA)(p:s.size<=4611686018427387904):
 cB 211 #[.iface T (.agg #[]),AH 1 b e s] w (.bool (Be P s&&(decide (a<=e)&&decide (e<=c)))):=by
 have q:Hid (AD (w.heap.size+1) (Ur w 1 b e s) (Ur w 1 b e s).drew):=(BI _ _).drew;have r:=zq λX=>Mu s P X p;generalize Be P s=t at*
 rcases j.cases with⟨rfl,k,l,m⟩|⟨rfl,k,l,m⟩
 all_goals
  clear j;cases t
  rotate_left
  by_cases n:a<=e;rw[show(true&&(decide (a<=e)&&decide (e<=c)))=decide (e<=c) by rw[Bz n];rfl]
  rotate_left
  rw[show(true&&(decide (a<=e)&&decide (e<=c)))=false by rw[By n];rfl];all_goals
   go_enter func211,ntmps211;go_upto_region 3 with fail;refine AP (C:=AD (w.heap.size+1) (Ur w 1 b e s)) q ?_;repeat (go_big_quiet_step ((intro d;rename_i i;first|exact rfl|exact(r i).mono (λ_ _ h=>⟨h.1,by rw[h.2];exact d⟩)|(simp only[CU,CN,CG,CF,B7,B3];go_simp;first|exact Calls.class_of (k i) (λo g=>Ga d g)|exact Calls.class_of (l i) (λo g=>Ga d g)|exact Calls.class_of (m i) (λo g=>Ga d g))|(obtain⟨v,x,y,z⟩:=WW d;go_simp;exact rfl))))
   refine wpQuiet_nil ?_;intro A u;go_wp2;go_ret;exact⟨rfl,He u⟩
theorem Qr(T:TypeId)(f k:Int)(a:AF f≠0)(b:Bool)(e:Int)(s:AB)(w:AA)(n:s.size<=4611686018427387904)(g:k≠1):
 cB 211 #[.iface T (.agg #[]),AH k b e s] w (.bool (AQ f k b e s)):=by
 have i:Hid (AD w.heap.size w (Ur w k b e s)):=bA;have o:(k==1)=false:=beq_eq_false_iff_ne.2 g;by_cases j:k=2
 ·subst j;clear g;by_cases c:e=0
  ·subst c;have E:Hid (AQ f 2 b 0 s=s.toList.isEmpty):=by show _=_;unfold AQ;rw[zyn a,zyn (by decide),zyp rfl];rfl
   clear a;go_enter func211,ntmps211;go_wp2;go_ret;exact⟨Ln.ret_bool E.symm,i⟩
  ·have m:(e==0)=false:=by simpa using c
   have E:Hid (AQ f 2 b e s=false):=by show _=_;unfold AQ;rw[zyn a,zyn (by decide),zyp rfl,By c];rfl
   clear a;go_enter func211,ntmps211;go_wp2;go_ret;exact⟨Ln.ret_bool E.symm,i⟩
 have p:(k==2)=false:=beq_eq_false_iff_ne.2 j;by_cases d:k=3\/k=4
 ·have l:Hid (AQ f k b e s=(decide (e=0)&&(s.toList.isEmpty&& !b))):=by show _=_;unfold AQ;rw[zyn a,zyn g,zyn j,zyp d]
  generalize AQ f k b e s=R at*
  clear a g j;by_cases c:e=0
  ·subst c;cases hb:s.toList.isEmpty with
   |false=>
    have E:Hid (R=false):=by show _=_;rw[l,hb];rfl
    rcases d with rfl|rfl
    all_goals
     go_enter func211,ntmps211;go_wp2;go_ret;exact⟨Ln.ret_bool E.symm,i⟩
   |true=>
    have E:Hid (R= !b):=by show _=_;rw[l,hb];rfl
    rcases d with rfl|rfl
    all_goals
     go_enter func211,ntmps211;go_wp2;go_ret;exact⟨Ln.ret_bool E.symm,i⟩
  ·have m:(e==0)=false:=by simpa using c
   have E:Hid (R=false):=by show _=_;rw[l,By c];rfl
   clear c;rcases d with rfl|rfl
   all_goals
    go_enter func211,ntmps211;go_wp2;go_ret;exact⟨Ln.ret_bool E.symm,i⟩
 ·have q:(k==3)=false:=beq_eq_false_iff_ne.2 (λh=>d (.inl h));have r:(k==4)=false:=beq_eq_false_iff_ne.2 (λh=>d (.inr h));have E:Hid (AQ f k b e s=false):=by show _=_;unfold AQ;rw[zyn a,zyn g,zyn j,zyn d]
  clear a g j d;go_enter func211,ntmps211;go_wp2;go_ret;exact⟨Ln.ret_bool E.symm,i⟩
theorem E7{T:TypeId}{f:Int}{P:Nat}{c d:Int}(a:Fm T f P c d)(k:Int)(b:Bool)(e:Int)(s:AB)(w:AA)(g:s.size<=4611686018427387904):
 cB 211 #[.iface T (.agg #[]),AH k b e s] w (.bool (AQ f k b e s)):=by
 by_cases h:k=1
 ·subst h;have E:AQ f 1 b e s=(Be P s&&(decide (c<=e)&&decide (e<=d))):=by rcases a with⟨-,rfl,rfl,rfl,rfl⟩|⟨-,rfl,rfl,rfl,rfl⟩<;>(unfold AQ;rw[zyn (by decide),zyp rfl];rfl)
  rw[E];exact Qq a b e s w g
 ·exact Qr T f k (by rcases a with⟨-,rfl,-⟩|⟨-,rfl,-⟩<;>decide) b e s w g h
theorem EM(f k:Int)(b:Bool)(e:Int)(s:AB)(w:AA)(i:s.size<=4611686018427387904):
 cB 152 #[.int .i64 f,AH k b e s] w (.bool (AQ f k b e s)):=by
 have c:Hid (AD (w.heap.size+1) (Ur w k b e s) (Ur w k b e s)):=BI _ _;by_cases a:f=64\/f=128
 ·obtain⟨T,P,o,p,a,-⟩:=Uf f a;have j:=zq λX=>E7 a k b e s X i;generalize AQ f k b e s=R at*
  go_enter func152,ntmps152;go_wp2_with fail;refine ce (OW a _) ?_;go_wp2_with fail;refine cm (j _) λq l=>?_;have m:=Ga c l;go_wp2;go_ret;exact⟨rfl,He m⟩
 have d:f≠64:=λh=>a (.inl h);have g:f≠128:=λh=>a (.inr h);clear a;have E:Hid (AQ f k b e s=false):=by show _=_;unfold AQ AF;rw[zyn d,zyn g,zyp rfl]
 go_enter func152,ntmps152;go_wp2_with fail;refine cm (It f _ d g) λr n=>?_;subst n;go_wp2;go_ret;exact⟨Ln.ret_bool E.symm,He c⟩
end Go.Proofs.YteofommckgeemaaGreatDoor
namespace Go.Proofs.YteofommckgeemaaGreatDoor.Bm
open Go.RowKit Go.Proofs.Tryz
set_option linter.unusedVariables false
set_option linter.unusedSimpArgs false
set_option maxRecDepth 100000
set_option maxHeartbeats 8000000
theorem ofInt_nat(n a:Nat)(h:a<2^n):(BitVec.ofInt n (a:Int)).toNat=a:=by
 rw[BitVec.ofInt_natCast,BitVec.toNat_ofNat];exact Nat.mod_eq_of_lt h
theorem or_i64(a b:Nat)(c:a<2^63)(d:b<2^63):bits .or .i64 (a:Int) (b:Int)=((a|||b:Nat):Int):=by
 have e:=Nat.or_lt_two_pow c d;show IntKind.i64.wrap ((BitVec.ofInt 64 (a:Int)|||BitVec.ofInt 64 (b:Int)).toNat:Int)=_
 rw[BitVec.toNat_or,ofInt_nat 64 a (by omega),ofInt_nat 64 b (by omega),IntKind.wrap_i64];omega
theorem and_u16(a b:Nat)(d:a<2^16)(c:b<2^16):bits .and .u16 (a:Int) (b:Int)=((a&&& b:Nat):Int):=by
 have e:a&&& b<2^16:=Nat.and_lt_two_pow _ c;show IntKind.u16.wrap ((BitVec.ofInt 16 (a:Int)&&& BitVec.ofInt 16 (b:Int)).toNat:Int)=_
 rw[BitVec.toNat_and,ofInt_nat 16 a d,ofInt_nat 16 b c,IntKind.wrap_u16];omega
theorem or_nat(a b k:Nat)(h:b<2^k):a*2^k|||b=a*2^k+b:=by
 have e:=Nat.shiftLeft_add_eq_or_of_lt h a;rw[Nat.shiftLeft_eq] at e;exact e.symm
theorem mask_nat(a k:Nat):a&&& (2^k-1)=a%2^k:=Nat.and_two_pow_sub_one_eq_mod a k
theorem one_u64(a:Int)(b:0<=a)(c:a<18446744073709551616):bits .and .u64 a 1=a%2:=by
 obtain⟨n,rfl⟩:=Int.eq_ofNat_of_zero_le b;have:=bits_and_u64_nat n 1 (by omega) (by decide);rw[show((1:Nat):Int)=1 from rfl] at this;rw[this,show(1:Nat)=2^1-1 from rfl,mask_nat];omega
theorem cast_pow(k:Nat):((2^k:Nat):Int)=(2:Int)^k:=by simp
theorem join_u64(a b:Int)(k:Nat)(c:0<=a)(d:a*2^k<18446744073709551616)(e:0<=b)(f:b<2^k)(g:k<=63):bits .or .u64 (a*2^k) b=a*2^k+b:=by
 obtain⟨n,rfl⟩:=Int.eq_ofNat_of_zero_le c;obtain⟨m,rfl⟩:=Int.eq_ofNat_of_zero_le e;rw[<-cast_pow,<-Int.natCast_mul] at d ⊢;rw[<-cast_pow] at f;have h:m<2^k:=by omega
 have i:2^k<=2^63:=Nat.pow_le_pow_right (by decide) g;rw[bits_or_u64_nat (n*2^k) m (by omega) (by omega),or_nat n m k h,Int.natCast_add]
theorem join_i64(a b:Int)(k:Nat)(c:0<=a)(d:a*2^k<9223372036854775808)(e:0<=b)(f:b<2^k)(g:k<=62):bits .or .i64 (a*2^k) b=a*2^k+b:=by
 obtain⟨n,rfl⟩:=Int.eq_ofNat_of_zero_le c;obtain⟨m,rfl⟩:=Int.eq_ofNat_of_zero_le e;rw[<-cast_pow,<-Int.natCast_mul] at d ⊢;rw[<-cast_pow] at f;have h:m<2^k:=by omega
 have i:2^k<=2^62:=Nat.pow_le_pow_right (by decide) g;rw[or_i64 (n*2^k) m (by omega) (by omega),or_nat n m k h,Int.natCast_add]
theorem mask_u16(a:Int)(k:Nat)(b:0<=a)(d:a<65536)(c:k<=16):bits .and .u16 a (2^k-1)=a%2^k:=by
 obtain⟨n,rfl⟩:=Int.eq_ofNat_of_zero_le b;have f:2^k<=2^16:=Nat.pow_le_pow_right (by decide) c;have g:0<2^k:=Nat.pow_pos (by decide);have e:(2:Int)^k-1=((2^k-1:Nat):Int):=by rw[<-cast_pow];omega
 rw[e,and_u16 n (2^k-1) (by omega) (by omega),mask_nat,Int.natCast_emod,cast_pow]
end Go.Proofs.YteofommckgeemaaGreatDoor.Bm
namespace Go.Proofs.YteofommckgeemaaGreatDoor
open Go.RowKit Go.Proofs.Tryz
set_option linter.unusedVariables false
set_option linter.unusedSimpArgs false
set_option maxRecDepth 100000
set_option maxHeartbeats 8000000
abbrev J8(h l:Int):AK:=.agg #[.int .u64 h,.int .u64 l]
def nu(W:Int):AK:=J8 (W/18446744073709551616) (W%18446744073709551616)
def Wn(n:Nat):Prop:=n=1\/n=5\/n=8\/n=10\/n=12
def oR(h l:Int)(n:Nat):Int:=bits .or .u64 (IntKind.u64.wrap (h*2^n)) (l/2^(64-n))
def oS(l b:Int)(n:Nat):Int:=bits .or .u64 (IntKind.u64.wrap (l*2^n)) b
theorem eR(x:Int):IntKind.u64.wrap x=x%18446744073709551616:=IntKind.wrap_u64 x
theorem Zi(W b:Int)(n:Nat)(d:Wn n)(e:0<=W)(f:W*2^n<340282366920938463463374607431768211456)(g:0<=b)(h:b<2^n):
 oR (W/18446744073709551616) (W%18446744073709551616) n=(W*2^n+b)/18446744073709551616/\oS (W%18446744073709551616) b n=(W*2^n+b)%18446744073709551616:=by
 unfold oR oS;rw[eR,eR];rcases d with rfl|rfl|rfl|rfl|rfl
 ·rw[show(2:Int)^1=2 by decide,show(2:Int)^(64-1)=9223372036854775808 by decide] at*
  have a:=Bm.join_u64 (W/18446744073709551616) (W%18446744073709551616/9223372036854775808) 1 (by omega) (by omega) (by omega) (by omega) (by omega);have c:=Bm.join_u64 (W%9223372036854775808) b 1 (by omega) (by omega) (by omega) (by omega) (by omega);rw[show(2:Int)^1=2 by decide] at a c;rw[show W/18446744073709551616*2%18446744073709551616=W/18446744073709551616*2 by omega,a,show W%18446744073709551616*2%18446744073709551616=W%9223372036854775808*2 by omega,c];refine⟨?_,?_⟩<;>omega
 ·rw[show(2:Int)^5=32 by decide,show(2:Int)^(64-5)=576460752303423488 by decide] at*
  have a:=Bm.join_u64 (W/18446744073709551616) (W%18446744073709551616/576460752303423488) 5 (by omega) (by omega) (by omega) (by omega) (by omega);have c:=Bm.join_u64 (W%576460752303423488) b 5 (by omega) (by omega) (by omega) (by omega) (by omega);rw[show(2:Int)^5=32 by decide] at a c;rw[show W/18446744073709551616*32%18446744073709551616=W/18446744073709551616*32 by omega,a,show W%18446744073709551616*32%18446744073709551616=W%576460752303423488*32 by omega,c];refine⟨?_,?_⟩<;>omega
 ·rw[show(2:Int)^8=256 by decide,show(2:Int)^(64-8)=72057594037927936 by decide] at*
  have a:=Bm.join_u64 (W/18446744073709551616) (W%18446744073709551616/72057594037927936) 8 (by omega) (by omega) (by omega) (by omega) (by omega);have c:=Bm.join_u64 (W%72057594037927936) b 8 (by omega) (by omega) (by omega) (by omega) (by omega);rw[show(2:Int)^8=256 by decide] at a c;rw[show W/18446744073709551616*256%18446744073709551616=W/18446744073709551616*256 by omega,a,show W%18446744073709551616*256%18446744073709551616=W%72057594037927936*256 by omega,c];refine⟨?_,?_⟩<;>omega
 ·rw[show(2:Int)^10=1024 by decide,show(2:Int)^(64-10)=18014398509481984 by decide] at*
  have a:=Bm.join_u64 (W/18446744073709551616) (W%18446744073709551616/18014398509481984) 10 (by omega) (by omega) (by omega) (by omega) (by omega);have c:=Bm.join_u64 (W%18014398509481984) b 10 (by omega) (by omega) (by omega) (by omega) (by omega);rw[show(2:Int)^10=1024 by decide] at a c;rw[show W/18446744073709551616*1024%18446744073709551616=W/18446744073709551616*1024 by omega,a,show W%18446744073709551616*1024%18446744073709551616=W%18014398509481984*1024 by omega,c];refine⟨?_,?_⟩<;>omega
 ·rw[show(2:Int)^12=4096 by decide,show(2:Int)^(64-12)=4503599627370496 by decide] at*
  have a:=Bm.join_u64 (W/18446744073709551616) (W%18446744073709551616/4503599627370496) 12 (by omega) (by omega) (by omega) (by omega) (by omega);have c:=Bm.join_u64 (W%4503599627370496) b 12 (by omega) (by omega) (by omega) (by omega) (by omega);rw[show(2:Int)^12=4096 by decide] at a c;rw[show W/18446744073709551616*4096%18446744073709551616=W/18446744073709551616*4096 by omega,a,show W%18446744073709551616*4096%18446744073709551616=W%4503599627370496*4096 by omega,c];refine⟨?_,?_⟩<;>omega
theorem nw(n:Nat)(a:Wn n):1<=n/\n<=12:=by unfold Wn at a;omega
theorem jM(n:Nat)(a:Wn n):IntKind.u16.wrap (1*2^n)=2^n/\IntKind.u16.wrap (2^n)=2^n/\IntKind.u16.wrap (2^n-1)=2^n-1/\2<=(2:Int)^n/\(2:Int)^n<=4096:=by
 rcases a with rfl|rfl|rfl|rfl|rfl<;>decide
theorem PP(W b:Int)(n:Nat)(w:AA)(a:Wn n)(h:0<=W)(c:W*2^n<340282366920938463463374607431768211456)(i:0<=b)(d:b<2^n):
 cB 279 #[nu W,.int .u16 b,.int .i64 n] w (nu (W*2^n+b)):=by
 obtain⟨e,f⟩:=Zi W b n a h c i d;have m:=jM n a;have j:=nw n a;have k:b<=65535:=by omega
 have l:0<=W/18446744073709551616/\0<=W%18446744073709551616/\W%18446744073709551616<=18446744073709551615:=by omega
 have o:IntKind.i64.wrap (64-(n:Int))=((64-n:Nat):Int):=Dn (by omega);have g:Hid (nu (W*2^n+b)=J8 (oR (W/18446744073709551616) (W%18446744073709551616) n) (oS (W%18446744073709551616) b n)):=by show _=_;unfold nu;rw[e,f]
 rw[g];clear e f g m c d a;unfold nu;generalize W/18446744073709551616=H at*
 generalize W%18446744073709551616=L at*
 go_enter func279,ntmps279;go_wp2;go_region;go_wp2;go_returns;exact⟨rfl,(bA.alloc (by simp) _).drew⟩
def oh(k b d f h j m:Int):Int:=
 if k=0 then b*256+d*128+f*32+h*16+j*2+m
 else if k=1 then b*256+d*128+f*32+h*16+8+m
 else if k=2 then b*256+d*128+j*32+h*16+10+m
 else if k=4 then j*256+d*128+f*32+h*16+12+m
 else if k=6 then j*256+d*128+h*16+14+m
 else if k=5 then f*256+d*128+32+h*16+14+m
 else if k=3 then b*256+d*128+64+h*16+14+m
 else d*128+96+h*16+14+m
def og(x y z:Int):Int:=oh (x/8*4+y/8*2+z/8) (x%8/2) (x%2) (y%8/2) (y%2) (z%8/2) (z%2)
def E0(n:Int):Int:=if 0<=n/\n<=999 then og (n/100) (n/10%10) (n%10) else -1
def mj(b:Int):Int:=if b/2%8=7/\b/32%4=3 then b%256 else b
def ob(b:Int):Int:=
 let p:=b/256;let d:=b/128%2;let q:=b/32%4;let h:=b/16%2;let v:=b/8%2;let r:=b/2%4;let m:=b%2
 if v=0 then(p*2+d)*100+(q*2+h)*10+(r*2+m)
 else if r=0 then(p*2+d)*100+(q*2+h)*10+(8+m)
 else if r=1 then(p*2+d)*100+(8+h)*10+(q*2+m)
 else if r=2 then(8+d)*100+(q*2+h)*10+(p*2+m)
 else if q=0 then(8+d)*100+(8+h)*10+(p*2+m)
 else if q=1 then(8+d)*100+(p*2+h)*10+(8+m)
 else if q=2 then(p*2+d)*100+(8+h)*10+(8+m)
 else(8+d)*100+(8+h)*10+(8+m)
def pB(b:Int):Int:=if 0<=b/\b<=1023 then ob b else -1
def pC(b:Int):Int:=E0 (pB b)
theorem oZ:(List.range 1000).all (λn=>decide (ob (E0 n)=n/\0<=E0 n/\E0 n<=1023/\mj (E0 n)=E0 n))=true:=by kernel_rfl
theorem QJ(n:Int)(a:0<=n)(b:n<=999):ob (E0 n)=n/\0<=E0 n/\E0 n<=1023/\mj (E0 n)=E0 n:=by
 obtain⟨N,rfl⟩:=Int.eq_ofNat_of_zero_le a;exact of_decide_eq_true (List.all_eq_true.1 oZ N (List.mem_range.2 (by omega)))
theorem LU(n:Int)(h:¬(0<=n/\n<=999)):E0 n=-1:=by unfold E0;rw[zyn h]
def hb(b:AG)(i:Nat):Nat->Int
 |0=>0
 |k+1=>hb b i k*2+b.getD (i+k) 0
def KE(b:AG):Int:=hb b 0 b.length
theorem Qc(a b:AG)(i j k:Nat)(h:∀q,q<k->a.getD (i+q) 0=b.getD (j+q) 0):hb a i k=hb b j k:=by
 induction k with
 |zero=>rfl
 |succ k ih=>unfold hb;rw[ih λq c=>h q (by omega),h k (by omega)]
theorem G2(a b:AG)(q:Nat)(h:q<a.length):(a++b).getD q 0=a.getD q 0:=by
 rw[List.getD,List.getElem?_append_left h];rfl
theorem Fe(a b:AG)(q:Nat):(a++b).getD (a.length+q) 0=b.getD q 0:=by
 rw[List.getD,List.getElem?_append_right (by omega),Nat.add_sub_cancel_left];rfl
theorem Qd(b:AG)(i k m:Nat):hb b i (k+m)=hb b i k*2^m+hb b (i+k) m:=by
 induction m with
 |zero=>simp[hb]
 |succ m ih=>
  rw[show k+(m+1)=(k+m)+1 by omega];show hb b i (k+m)*2+b.getD (i+(k+m)) 0=_+(hb b (i+k) m*2+b.getD (i+k+m) 0)
  rw[ih,Int.pow_succ,Int.add_mul,Int.mul_assoc,Nat.add_assoc i k m];omega
theorem EL(a b:AG):KE (a++b)=KE a*2^b.length+KE b:=by
 unfold KE;rw[Dc,Qd,Nat.zero_add,Qc (a++b) a 0 0 a.length λq c=>by rw[Nat.zero_add];exact G2 a b q c];rw[Qc (a++b) b a.length 0 b.length λq c=>by rw[Nat.zero_add];exact Fe a b q]
theorem Ci(n:Nat):(0:Int)<2^n:=Int.pow_pos (by decide)
def Pt(b:AG):Prop:=∀i,0<=b.getD i 0/\b.getD i 0<=1
theorem YT(b:AG)(h:Pt b)(i k:Nat):0<=hb b i k/\hb b i k<2^k:=by
 induction k with
 |zero=>simp[hb]
 |succ k ih=>
  have:=h (i+k);unfold hb;rw[Int.pow_succ];omega
theorem B1(a b:AG)(d:Pt a)(e:Pt b):Pt (a++b):=λi=>by
 rcases Nat.lt_or_ge i a.length with c|c
 ·rw[G2 a b i c];exact d i
 ·rw[show i=a.length+(i-a.length) by omega,Fe];exact e _
theorem UL:Pt []:=λi=>by simp
theorem Ij(x:Int)(a:0<=x)(b:x<=1):Pt [x]:=λi=>by
 cases i with
 |zero=>simpa using⟨a,b⟩
 |succ i=>simp
theorem QC(n:Nat):Pt (List.replicate n 0):=λi=>by
 simp only[List.getD,List.getElem?_replicate];split<;>simp
theorem Sw(n:Nat):KE (List.replicate n 0)=0:=by
 have:∀k,hb (List.replicate n 0) 0 k=0:=λk=>by
  induction k with
  |zero=>rfl
  |succ k ih=>
   unfold hb;rw[ih];simp only[List.getD,List.getElem?_replicate];split<;>simp
 exact this _
def bl(e:Int)(n:Nat):Nat->AG
 |0=>[]
 |j+1=>bl e n j++[e/2^(n-1-j)%2]
theorem Ek(e:Int)(n j:Nat):(bl e n j).length=j:=by
 induction j with
 |zero=>rfl
 |succ j ih=>simp[bl,ih]
theorem mZ(e:Int)(n j i:Nat)(h:i<j):(bl e n j).getD i 0=e/2^(n-1-i)%2:=by
 induction j with
 |zero=>omega
 |succ j ih=>
  simp only[bl];by_cases c:i<j
  ·rw[G2 _ _ _ (by rw[Ek];exact c)];exact ih c
  ·obtain rfl:i=j:=by omega
   have:=Fe (bl e n i) [e/2^(n-1-i)%2] 0;rw[Ek] at this;exact this
theorem Xc(e:Int)(n j:Nat):Pt (bl e n j):=by
 induction j with
 |zero=>exact UL
 |succ j ih=>exact B1 _ _ ih (Ij _ (by omega) (by omega))
theorem Y8(q m:Int)(a:0<m):q%(m*2)=(q/2%m)*2+q%2:=by
 have b:=Int.mul_ediv_add_emod (q/2) m;have c:=Int.emod_nonneg (q/2) (show m≠0 by omega);have d:=Int.emod_lt_of_pos (q/2) a;generalize q/2%m=r at*
 generalize q/2/m=k at*
 have e:q=(r*2+q%2)+(m*2)*k:=by
  rw[Int.mul_assoc,Int.mul_comm 2 k,<-Int.mul_assoc];omega
 have:q%(m*2)=((r*2+q%2)+(m*2)*k)%(m*2):=congrArg (·%(m*2)) e;rw[Int.add_mul_emod_self_left] at this;rw[this];exact Int.emod_eq_of_lt (by omega) (by omega)
theorem Dv(e:Int)(k:Nat):e/2^(k+1)=e/2^k/2:=by
 rw[Int.pow_succ,Int.ediv_ediv_of_nonneg (CP (Ci k))]
theorem mu(e:Int)(n i k:Nat)(h:i+k<=n):hb (bl e n n) i k=e/2^(n-i-k)%2^k:=by
 induction k with
 |zero=>simp[hb,Int.emod_one]
 |succ k ih=>
  unfold hb;rw[ih (by omega),mZ e n n (i+k) (by omega),Int.pow_succ,Y8 _ _ (Ci k)];rw[show n-1-(i+k)=n-i-(k+1) by omega,show n-i-k=(n-i-(k+1))+1 by omega,Dv]
theorem YU(e:Int)(n:Nat):KE (bl e n n)=e%2^n:=by
 unfold KE;rw[Ek,mu e n 0 n (by omega),Nat.sub_zero,Nat.sub_self,Int.pow_zero,Int.ediv_one]
def C4(b:Bool):Int:=if b then 1 else 0
theorem Tx(b:Bool):0<=C4 b/\C4 b<=1:=by cases b<;>decide
def Py(h f:Int):AG:=if f<8 then[h/2,h%2,f/4,f/2%2,f%2] else[1,1,h/2,h%2,f-8]
def fv(h f:Int):Int:=if f<8 then h*8+f else 24+h*2+(f-8)
theorem GL(a b c d e:Int)(f:0<=a/\a<=1)(g:0<=b/\b<=1)(h:0<=c/\c<=1)(j:0<=d/\d<=1)(k:0<=e/\e<=1):Pt [a,b,c,d,e]:=λi=>by
 match i with
 |0=>exact f
 |1=>exact g
 |2=>exact h
 |3=>exact j
 |4=>exact k
 |n+5=>simp
theorem Uh(a b c d e:Int):KE [a,b,c,d,e]=a*16+b*8+c*4+d*2+e:=by
 simp[KE,hb];omega
theorem Oa(h f:Int):(Py h f).length=5:=by unfold Py;split<;>rfl
theorem gE(h f:Int)(a:0<=h)(b:h<=2)(c:0<=f)(d:f<=9):Pt (Py h f):=by
 unfold Py;split
 ·exact GL _ _ _ _ _ (by omega) (by omega) (by omega) (by omega) (by omega)
 ·exact GL _ _ _ _ _ (by omega) (by omega) (by omega) (by omega) (by omega)
theorem kR(h f:Int)(a:0<=h)(b:h<=2)(c:0<=f)(d:f<=9):KE (Py h f)=fv h f:=by
 unfold Py fv;split
 ·rw[Uh];omega
 ·rw[Uh];omega
theorem jW(h f:Int)(a:0<=h)(b:h<=2)(c:0<=f)(d:f<=9):0<=fv h f/\fv h f<30:=by
 unfold fv;split<;>omega
def fJ(s:AG)(g:Nat):Int:=s.getD (1+3*g) 0*100+s.getD (1+3*g+1) 0*10+s.getD (1+3*g+2) 0
theorem mD(s:AG)(h:Au s)(g:Nat):0<=fJ s g/\fJ s g<=999:=by
 have a:=Ah s h (1+3*g);have b:=Ah s h (1+3*g+1);have c:=Ah s h (1+3*g+2);unfold fJ;omega
def Pz(s:AG):Nat->AG
 |0=>[]
 |g+1=>Pz s g++bl (E0 (fJ s g)) 10 10
def kB(s:AG):Nat->Int
 |0=>0
 |g+1=>kB s g*1024+E0 (fJ s g)
theorem Ob(s:AG)(g:Nat):(Pz s g).length=10*g:=by
 induction g with
 |zero=>rfl
 |succ g ih=>simp only[Pz,Dc,ih,Ek];omega
theorem gH(s:AG)(g:Nat):Pt (Pz s g):=by
 induction g with
 |zero=>exact UL
 |succ g ih=>exact B1 _ _ ih (Xc _ _ _)
theorem UV(s:AG)(h:Au s)(g:Nat):0<=E0 (fJ s g)/\E0 (fJ s g)<=1023:=by
 have t:=mD s h g;have:=QJ _ t.1 t.2;omega
theorem kT(s:AG)(h:Au s)(g:Nat):KE (Pz s g)=kB s g:=by
 induction g with
 |zero=>rfl
 |succ g ih=>
  have d:=UV s h g;simp only[Pz,kB];rw[EL,ih,YU,Ek];rw[Int.emod_eq_of_lt d.1 (by omega)];rfl
def Mq(b:Bool)(e:Int)(s:AG)(r g:Nat):AG:=[C4 b]++Py (e/2^r) (s.getD 0 0)++bl e r r++Pz s g
def Vz(b:Bool)(e:Int)(s:AG)(r g:Nat):Int:=((C4 b*32+fv (e/2^r) (s.getD 0 0))*2^r+e%2^r)*2^(10*g)+kB s g
theorem X7(b:Bool)(e:Int)(s:AG)(r g:Nat):(Mq b e s r g).length=6+r+10*g:=by
 unfold Mq;simp only[Dc,Oa,Ek,Ob,List.length_singleton]
theorem kJ(e:Int)(r:Nat)(b:0<=e)(c:e<3*2^r):0<=e/2^r/\e/2^r<=2:=by
 have a:=Ci r;refine⟨Int.ediv_nonneg b (CP a),?_⟩;have:e/2^r<3:=Int.ediv_lt_of_lt_mul a c;omega
theorem X6(b:Bool)(e:Int)(s:AG)(r g:Nat)(c:Au s)(f:0<=e)(i:e<3*2^r):Pt (Mq b e s r g):=by
 have h:=kJ e r f i;have d:=Ah s c 0;have a:=Tx b;exact B1 _ _ (B1 _ _ (B1 _ _ (Ij _ a.1 a.2) (gE _ _ h.1 h.2 d.1 d.2)) (Xc _ _ _)) (gH _ _)
theorem fx(b:Bool)(e:Int)(s:AG)(r g:Nat)(a:Au s)(c:0<=e)(f:e<3*2^r):KE (Mq b e s r g)=Vz b e s r g:=by
 have h:=kJ e r c f;have d:=Ah s a 0;unfold Mq Vz;rw[EL,EL,EL,kT s a,YU,kR _ _ h.1 h.2 d.1 d.2,Ob,Ek,Oa];simp[KE,hb]
def iv(k:Int):AG:=if k=2 then[1,1,1,1,0] else if k=3 then[1,1,1,1,1,0] else[1,1,1,1,1,1]
def l5(k:Int)(m:Nat):Nat:=if k=2 then m else m-1
def J3(k:Int)(b:Bool)(r g:Nat):AG:=[C4 b]++iv k++List.replicate (l5 k (r+10*g)) 0
def T3(k:Int)(b:Bool)(r g:Nat):Int:=(C4 b*64+(if k=2 then 60 else if k=3 then 62 else 63))*2^(r+10*g-1)
theorem eC(k:Int)(b:Bool)(r g:Nat)(a:0<r):(J3 k b r g).length=6+r+10*g:=by
 unfold J3 iv l5;simp only[Dc,GG,List.length_singleton];split
 ·simp;omega
 ·split<;>simp<;>omega
theorem d8(k:Int)(b:Bool)(r g:Nat):Pt (J3 k b r g):=by
 have a:=Tx b;refine B1 _ _ (B1 _ _ (Ij _ a.1 a.2) ?_) (QC _);unfold iv;split
 ·exact GL _ _ _ _ _ (by omega) (by omega) (by omega) (by omega) (by omega)
 ·split
  ·exact B1 [1,1,1,1,1] [0] (GL _ _ _ _ _ (by omega) (by omega) (by omega) (by omega) (by omega)) (Ij _ (by omega) (by omega))
  ·exact B1 [1,1,1,1,1] [1] (GL _ _ _ _ _ (by omega) (by omega) (by omega) (by omega) (by omega)) (Ij _ (by omega) (by omega))
theorem iw(k:Int)(b:Bool)(r g:Nat)(a:0<r):KE (J3 k b r g)=T3 k b r g:=by
 unfold J3 T3;rw[EL,Sw,Int.add_zero,GG];unfold iv l5;split
 ·rw[show r+10*g=(r+10*g-1)+1 by omega,Int.pow_succ];rw[show r+10*g-1+1-1=r+10*g-1 by omega];generalize (2:Int)^(r+10*g-1)=z;have:KE ([C4 b]++[1,1,1,1,0])=C4 b*32+30:=by simp[KE,hb];omega
  rw[this,Int.mul_comm z 2,<-Int.mul_assoc];congr 1;omega
 ·split
  ·have:KE ([C4 b]++[1,1,1,1,1,0])=C4 b*64+62:=by simp[KE,hb];omega
   rw[this]
  ·have:KE ([C4 b]++[1,1,1,1,1,1])=C4 b*64+63:=by simp[KE,hb];omega
   rw[this]
def Bs(w:AA)(base:Nat)(v:AK)(zs:AG):Prop:=Er w base v zs/\v≠.slice none 0 0
theorem Bs.form{w:AA}{base:Nat}{v:AK}{zs:AG}(h:Bs w base v zs):∃g a,v=.slice (some ⟨g,0,none⟩) zs.length a/\base<=g/\g<w.heap.size/\∀i,i<zs.length->w.cell? ⟨g,i,none⟩=some (.int .i64 (zs.getD i 0)):=by
 rcases h.1.form with⟨e,-⟩|⟨g,a,e,b,c,-,d,-⟩
 ·exact absurd e h.2
 ·exact⟨g,a,e,b,c,d⟩
theorem Er.mono{w:AA}{base a:Nat}{v:AK}{zs:AG}(h:Er w base v zs)(b:a<=base):Er w a v zs:=by
 obtain⟨c,h⟩:=h;refine⟨c,?_⟩;rcases h with h|⟨g,d,f,e,i,r⟩
 ·exact .inl h
 ·exact .inr ⟨g,d,f,e,DT b i,r⟩
theorem Bs.mono{w:AA}{base a:Nat}{v:AK}{zs:AG}(h:Bs w base v zs)(b:a<=base):Bs w a v zs:=⟨h.1.mono b,h.2⟩
theorem Bs.below{w a:AA}{base B:Nat}{v:AK}{zs:AG}(h:Bs w base v zs)(b:AD B w a)(c:w.heap.size<=B):Bs a base v zs:=⟨h.1.below b c,h.2⟩
theorem Bs.alloc{w:AA}{base:Nat}{v:AK}{zs:AG}(h:Bs w base v zs)(o:Obj):Bs (w.alloc o) base v zs:=⟨World.ownsRow.alloc h.1 o,h.2⟩
theorem Wa(w:AA):Bs (w.alloc (.cells #[] 2)) w.heap.size (.slice (some ⟨w.heap.size,0,none⟩) 0 0) []:=⟨Lo w,by simp⟩
theorem DZ(w:AA)(x:Int):Bs (w.alloc (.cells #[.int .i64 x] 2)) w.heap.size (.slice (some ⟨w.heap.size,0,none⟩) 1 1) [x]:=
 ⟨World.ownsRow_lit (base:=w.heap.size) (e:=2) (size:=1) w #[.int .i64 x] 1 (AS _) (by decide) (by simp),by simp⟩
theorem Bs.own{w:AA}{base:Nat}{v:AK}{zs:AG}(h:Bs w base v zs):∀k,v.ownBlock=some k->base<=k:=λk a=>by
 obtain⟨g,c,rfl,b,-⟩:=h.form;cases a;exact b
theorem A7{w:AA}{l:Array Oper}{rest:List Oper}{o:Oper}{a:Act}{Q:Exit->Act->AA->Prop}(r:o.guard=none)(s x:Operand)
 (t:o.op=.call {callee:=.builtin .append,args:=#[s,x],argTypes:=#[80,80]}) (f m:AK) (v:a.eval s=f) (z:a.eval x=m)
 (base A:Nat) (X Y:AG) (i:Bs w base f X) (C:Bs w A m Y) (R:X.length+Y.length<=1000000) (n:base<=w.heap.size)
 (h:∀c b,Hid (Bs b base c (X++Y))->Hid (∀B w0,AD B w0 w->B<=base->AD B w0 b)->wpList prog l Q rest (a.put o.dst c) b):wpList prog l Q (o::rest) a w:=by
 obtain⟨D,E,F,G,H⟩:=info_parts Jq;obtain⟨g,I,rfl,S,T,J⟩:=C.form;refine wpList_append_own (P:=prog) w r s x 80 t base 2 D (.int .i64 0) 1 8 underlying80 E F G H rfl (by decide) f X.length (X.map (Value.int .i64)) v i.1 ⟨g,0,none⟩ Y.length I (Y.map (Value.int .i64)) z (by simp) (λj u d=>?_) (λu d=>?_) (by unfold maxLen;omega) (by omega) n ?_
 ·have p:j<Y.length:=by
   have:=(List.getElem?_eq_some_iff.1 d).1;simpa using this
  rw[show(⟨g,0,none⟩:Addr).add j=⟨g,j,none⟩ by unfold Addr.add;split<;>simp_all,J j p,<-d];simp[List.getD,Dq p]
 ·obtain⟨y,-,rfl⟩:=List.mem_map.1 d;rfl
 ·intro c b K L M;refine h c b ⟨?_,λe=>i.2 (M.1 e).1⟩ (λB w0 N q=>Below.grown N L (DT q n) (λk O=>DT q (i.own k O)));unfold Er;simpa using K
def P9(r g:Nat)(c:Int)(k:Int)(b:Bool)(e:Int)(a:AG):Prop:=
 (k=1/\AJ a/\a.length<=3*g+1/\0<=e+c/\e+c<3*2^r)\/(k=2/\e=0/\a=[])\/((k=3\/k=4)/\e=0/\a=[]/\b=false)
def BD(m:Nat)(a:AG):AG:=List.replicate (m-a.length) 0++a
def Dd(r g:Nat)(a:Int)(k:Int)(b:Bool)(e:Int)(c:AG):Int:=if k=1 then Vz b (e+a) (BD (3*g+1) c) r g else T3 k b r g
theorem Lp(m:Nat)(a:AG)(h:a.length<=m):(BD m a).length=m:=by
 unfold BD;rw[Dc,GG];omega
theorem EO(m:Nat)(a:AG)(h:Au a):Au (BD m a):=λd b=>by
 rcases List.mem_append.1 b with c|c
 ·have:=(List.mem_replicate.1 c).2;omega
 ·exact h d c
def lI(r g:Nat)(a:Int)(k:Int)(b:Bool)(e:Int)(c:AG):AG:=if k=1 then Mq b (e+a) (BD (3*g+1) c) r g else J3 k b r g
theorem Jx(r g:Nat)(a:Int)(k:Int)(b:Bool)(e:Int)(d:AG)(i:0<r)(h:P9 r g a k b e d):
 (lI r g a k b e d).length=6+r+10*g/\Pt (lI r g a k b e d)/\KE (lI r g a k b e d)=Dd r g a k b e d:=by
 unfold lI Dd;by_cases f:k=1
 ·rw[zyp f,zyp f];rcases h with⟨-,j,n,l,m⟩|⟨c,-⟩|⟨c,-⟩
  ·exact⟨X7 _ _ _ _ _,X6 _ _ _ _ _ (EO _ _ j.1) l m,fx _ _ _ _ _ (EO _ _ j.1) l m⟩
  ·omega
  ·omega
 ·rw[zyn f,zyn f];exact⟨eC _ _ _ _ i,d8 _ _ _ _,iw _ _ _ _ i⟩
theorem Lz(r g:Nat)(a:Int)(k:Int)(b:Bool)(e:Int)(c:AG)(d:0<r)(h:P9 r g a k b e c):0<=Dd r g a k b e c/\Dd r g a k b e c<2^(6+r+10*g):=by
 obtain⟨f,i,j⟩:=Jx r g a k b e c d h;rw[<-j,<-f];exact YT _ i 0 _
theorem Yw:∀h:Fin 3,∀f:Fin 10,(f.val<8->bits .or .u8 ((h.val:Int)*8) (f.val:Int)=fv h.val f.val)/\(8<=f.val->bits .or .u8 (bits .or .u8 24 ((h.val:Int)*2)) ((f.val:Int)-8)=fv h.val f.val):=by decide+kernel
theorem Lh(h f:Int)(w:AA)(a:0<=h)(d:h<=2)(b:0<=f)(g:f<=9):
 cE 282 #[.int .u8 h,.int .u8 f] w (.int .u8 (fv h f)):=by
 obtain⟨H,rfl⟩:=Int.eq_ofNat_of_zero_le a;obtain⟨F,rfl⟩:=Int.eq_ofNat_of_zero_le b;have t:=Yw ⟨H,by omega⟩ ⟨F,by omega⟩;by_cases i:(F:Int)<8
 ·have e:=t.1 (by simp;omega);simp only at e;clear t;have c:IntKind.u8.wrap ((H:Int)*8)=H*8:=by rw[IntKind.wrap_u8];omega
  go_enter func282,ntmps282;go_wp2;go_ret;exact⟨Ln.ret_int (by first|exact e|rfl),rfl⟩
 ·have e:=t.2 (by simp;omega);simp only at e;clear t;have c:IntKind.u8.wrap ((H:Int)*2)=H*2:=by rw[IntKind.wrap_u8];omega
  have j:IntKind.u8.wrap ((F:Int)-8)=F-8:=by rw[IntKind.wrap_u8];omega
  go_enter func282,ntmps282;go_wp2;go_ret;exact⟨Ln.ret_int (by first|exact e|rfl),rfl⟩
def P2(m:Nat)(a:AG):Nat->AG
 |0=>List.replicate m 0
 |k+1=>(P2 m a k).set (m-a.length+k) (a.getD k 0)
theorem LD(m:Nat)(a:AG)(k:Nat):(P2 m a k).length=m:=by
 induction k with
 |zero=>simp[P2]
 |succ k ih=>simp[P2,ih]
theorem lH(m:Nat)(a:AG)(h:a.length<=m)(k i:Nat)(d:k<=a.length):(P2 m a k).getD i 0=if m-a.length<=i/\i<m-a.length+k then a.getD (i-(m-a.length)) 0 else 0:=by
 induction k with
 |zero=>
  rw[zyn (by omega)];simp only[P2,List.getD,List.getElem?_replicate];split<;>rfl
 |succ k ih=>
  unfold P2;by_cases c:i=m-a.length+k
  ·subst c;rw[zyp (by omega)];simp only[List.getD,List.getElem?_set,LD];rw[zyp trivial,zyp (by omega)];simp
  ·have:((P2 m a k).set (m-a.length+k) (a.getD k 0)).getD i 0=(P2 m a k).getD i 0:=by
    simp only[List.getD,List.getElem?_set];rw[zyn (λe=>c e.symm)]
   rw[this,ih (by omega)];by_cases b:m-a.length<=i/\i<m-a.length+k
   ·rw[zyp b,zyp (by omega)]
   ·rw[zyn b,zyn (by omega)]
theorem iL(m:Nat)(a:AG)(h:a.length<=m):P2 m a a.length=BD m a:=by
 apply List.ext_getElem
 ·rw[LD,Lp m a h]
 ·intro i d e;rw[LD] at d;have g:∀(L:AG) (b:i<L.length),L[i]=L.getD i 0:=λL b=>by rw[List.getD,Dq b];rfl
  rw[g,g,lH m a h a.length i (AS _)];unfold BD;by_cases c:i<m-a.length
  ·rw[zyn (by omega),G2 _ _ _ (by simp;omega)];simp only[List.getD,List.getElem?_replicate];rw[zyp c];rfl
  ·rw[zyp (by omega),show i=(List.replicate (m-a.length) (0:Int)).length+(i-(m-a.length)) by simp;omega,Fe];simp
theorem FC(a:AG)(m:Nat)(w:AA)(f:Au a)(g:a.length<=m)(M:m<=34)(N:0<m):
 Calls prog 280 #[.string (tx a),.int .i64 m] w λe h=>∃v,e=.returned v/\Bs h w.heap.size v (BD m a)/\AD w.heap.size w h:=by
 obtain⟨x,y,z,B,C⟩:=info_parts Jq;obtain⟨j,D,b,l⟩:=run_make_full (P:=prog) w w.heap.size 80 2 x (.int .i64 0) 1 underlying80 y z B .i64 .i64 m (by rw[C];omega) (by unfold maxLen;omega) (AS _);have n:=AE a;have o:Hid (j.ownsRow w.heap.size 2 1 (.slice (some ⟨w.heap.size,0,none⟩) m m) m ((P2 m a 0).map (Value.int .i64))/\AD w.heap.size w j):=by
  refine⟨?_,Below.grown (BI _ _) l (AS _) (λk c=>by cases c)⟩;have:=b;rw[Nat.mul_one,show(Value.int .i64 0).cells=#[Value.int .i64 0] from rfl,toList_madeCells_one] at this;simpa[P2] using this
 have E:Hid (∀k (c:k<(tx a).size),(((tx a)[k]'c).toNat:Int)=48+a.getD k 0):=λk c=>C7 a f k c;have F:Hid (∀k,0<=a.getD k 0/\a.getD k 0<=9):=λk=>Ah a f k;have p:=zq (LD m a);have q:Hid (P2 m a (tx a).size=BD m a):=by show _=_;rw[n];exact iL m a g
 clear b l f;obtain⟨G,O⟩:(m:Int)-((tx a).size:Int)=((m-a.length:Nat):Int)/\(tx a).size<=m:=by omega
 have Q:(m-a.length)+(tx a).size<=m:=by omega
 have H:Hid (∀k,P2 m a (k+1)=(P2 m a k).set (m-a.length+k) (a.getD k 0)):=λk=>rfl;clear n g;generalize m-a.length=A at*
 generalize tx a=T at*
 go_enter func280,ntmps280;go_wp2;clear D G;go_loopw [16] (λi wr=>∃k:Nat,k<=T.size/\i=.int .i64 (k:Int)/\Hid (wr.ownsRow w.heap.size 2 1 (.slice (some ⟨w.heap.size,0,none⟩) m m) m ((P2 m a k).map (Value.int .i64)))/\Hid (AD w.heap.size w wr)) (λi _=>T.size-(intOf i).toNat);case atStart=>exact⟨0,B9 _,rfl,o.1,o.2⟩
 case round=>
  obtain⟨k,c,rfl,b,r⟩:=hrel;by_cases s:k<T.size
  ·have R:(k:Int)<(T.size:Int):=by omega
   have t:=E k s;have S:=F k;have I:=zq (H k);have J:=p k;generalize a.getD k 0=d at*
   have U:IntKind.u8.wrap (((T[k]'s).toNat:Int)-48)=d:=by rw[IntKind.wrap_u8,t];omega
   clear t;have V:=World.ownsRow.frozenAt b (A+k);have W:wr.cell? ⟨w.heap.size,A+k,none⟩=some (.int .i64 ((P2 m a k).getD (A+k) 0)):=by
    rw[World.ownsRow.cellAt b.out (A+k) (by omega)];simp only[List.getElem?_map,List.getD];rw[Dq (by rw[J];omega)];rfl
   have K:=zq (World.ownsRow.stored b (A+k) (.int .i64 d));obtain⟨X,Y⟩:(A:Int)+(k:Int)<(m:Int)/\0<=(A:Int)+(k:Int):=by omega
   have Z:((A:Int)+(k:Int)).toNat=A+k:=by omega
   generalize (P2 m a k).getD (A+k) 0=aa at*
   go_wp2;go_roundw;case rel=>
    refine⟨k+1,by omega,by go_num,?_,r.setCell (AS _) _⟩;have:=K.1;rw[I];rw[Hid,List.map_set];exact this
   case measure=>simp[intOf];omega
  ·obtain rfl:k=T.size:=by omega
   have L:Hid (Bs wr w.heap.size (.slice (some ⟨w.heap.size,0,none⟩) m m) (BD m a)):=by
    refine⟨?_,by simp⟩;have:=b.out;rw[q] at this;unfold Er;have u:=p T.size;rw[q] at u;rw[u];exact this
   clear b;go_wp2;go_ret;exact⟨_,rfl,L,r⟩
theorem CO{a:Func}{p:Tmp}{b:Nat}{x y z u:AK}(h:a.results=#[.cell p 268])(c:Array AK)(w:AA)(d:c[p]?.getD undef=.pointer (some ⟨b,0,none⟩))
 (e:w.cell? ⟨b,0,none⟩=some x) (f:w.cell? ⟨b,1,none⟩=some y) (g:w.cell? ⟨b,2,none⟩=some z) (i:w.cell? ⟨b,3,none⟩=some u):(results a c).run prog w=.ok (.agg #[x,y,z,u]) w:=by
 simp[results,h,d,go_sem,e,f,g,i]
abbrev jV(b:Bool)(a rs:Int)(v:AK):AK:=.agg #[.bool b,.int .u8 a,.int .u16 rs,v]
abbrev Je(w:AA)(k:Int)(b:Bool)(e:Int)(s:AB):AA:=(Ur w k b e s).alloc (.cells #[.bool false,.int .u8 0,.int .u16 0,.slice none 0 0] 268)
theorem Ai{w W:AA}{k:Int}{b:Bool}{e:Int}{s:AB}(h:AD (w.heap.size+2) (Je w k b e s) W):W.cell? ⟨w.heap.size,0,none⟩=some (.int .i64 k)/\W.cell? ⟨w.heap.size,1,none⟩=some (.bool b)/\W.cell? ⟨w.heap.size,2,none⟩=some (.int .i64 e)/\W.cell? ⟨w.heap.size,3,none⟩=some (.string s)/\
 W.cell? ⟨w.heap.size+1,0,none⟩=some (.bool false)/\W.cell? ⟨w.heap.size+1,1,none⟩=some (.int .u8 0)/\W.cell? ⟨w.heap.size+1,2,none⟩=some (.int .u16 0)/\W.cell? ⟨w.heap.size+1,3,none⟩=some (.slice none 0 0)/\∀i,W.frozen? ⟨w.heap.size+1,i,none⟩=false:=by
 refine⟨?_,?_,?_,?_,?_,?_,?_,?_,λi=>?_⟩
 ·rw[h.cell (p:=⟨w.heap.size,0,none⟩) (by simp)];simp
 ·rw[h.cell (p:=⟨w.heap.size,1,none⟩) (by simp)];simp
 ·rw[h.cell (p:=⟨w.heap.size,2,none⟩) (by simp)];simp
 ·rw[h.cell (p:=⟨w.heap.size,3,none⟩) (by simp)];simp
 ·rw[h.cell (p:=⟨w.heap.size+1,0,none⟩) (by simp)];simp
 ·rw[h.cell (p:=⟨w.heap.size+1,1,none⟩) (by simp)];simp
 ·rw[h.cell (p:=⟨w.heap.size+1,2,none⟩) (by simp)];simp
 ·rw[h.cell (p:=⟨w.heap.size+1,3,none⟩) (by simp)];simp
 ·rw[h.frozen (p:=⟨w.heap.size+1,i,none⟩) (by simp)];simp
theorem K7{w W:AA}{k:Int}{b:Bool}{e:Int}{s:AB}(h:AD (w.heap.size+2) (Je w k b e s) W):AD w.heap.size w W:=(bA.alloc (by simp) _).trans (h.mono (by omega))
theorem E6{w W:AA}{k:Int}{b:Bool}{e:Int}{s:AB}(h:AD (w.heap.size+2) (Je w k b e s) W):w.heap.size+2<=W.heap.size:=by
 have:=h.size;simpa using this
theorem DX{w W a:AA}{k:Int}{b:Bool}{e:Int}{s:AB}(h:AD (w.heap.size+2) (Je w k b e s) W)(c:AD W.heap.size W a):AD (w.heap.size+2) (Je w k b e s) a:=h.trans (c.mono (E6 h))
abbrev oW(w:AA)(k:Int)(b:Bool)(e:Int)(s:AB):AA:=(Je w k b e s).alloc (.cells #[.bool false,.int .u8 0,.int .u16 0,.slice none 0 0] 268)
theorem YP(w:AA)(k:Int)(b:Bool)(e:Int)(s:AB):(Je w k b e s).heap.size=w.heap.size+1+1:=by simp
theorem kw(X:AA)(x y z u:AK)(t:TypeId):(X.alloc (.cells #[x,y,z,u] t)).cell? ⟨X.heap.size,0,none⟩=some x/\(X.alloc (.cells #[x,y,z,u] t)).cell? ⟨X.heap.size,1,none⟩=some y/\(X.alloc (.cells #[x,y,z,u] t)).cell? ⟨X.heap.size,2,none⟩=some z/\(X.alloc (.cells #[x,y,z,u] t)).cell? ⟨X.heap.size,3,none⟩=some u/\∀i,(X.alloc (.cells #[x,y,z,u] t)).frozen? ⟨X.heap.size,i,none⟩=false:=by
 refine⟨?_,?_,?_,?_,λi=>?_⟩<;>simp
theorem LH{w a:AA}{k:Int}{b:Bool}{e:Int}{s:AB}(h:AD (Je w k b e s).drew.heap.size (Je w k b e s).drew a):AD (w.heap.size+2) (Je w k b e s) a:=
 DX (BI _ _).drew h
theorem Cg{b:AA}{a:Addr}{v:AK}(h:b.cell? a=some v)(o:Obj):(b.alloc o).cell? a=some v:=by
 rw[((BI b.heap.size b).alloc (AS _) o).cell (World.block_lt_of_cell? b a h)];exact h
theorem XZ{a:AA}{p i:Nat}(b:p<a.heap.size)(h:a.frozen? ⟨p,i,none⟩=false)(o:Obj):(a.alloc o).frozen? ⟨p,i,none⟩=false:=
 (((BI a.heap.size a).alloc (AS _) o).frozen (p:=⟨p,i,none⟩) b).trans h
theorem VH{w a:AA}{k:Int}{b:Bool}{e:Int}{s:AB}(h:AD (oW w k b e s).drew.heap.size (oW w k b e s).drew a):AD (w.heap.size+2) (Je w k b e s) a/\a.cell? ⟨w.heap.size+1+1,0,none⟩=some (.bool false)/\a.cell? ⟨w.heap.size+1+1,1,none⟩=some (.int .u8 0)/\a.cell? ⟨w.heap.size+1+1,2,none⟩=some (.int .u16 0)/\a.cell? ⟨w.heap.size+1+1,3,none⟩=some (.slice none 0 0)/\(∀i,a.frozen? ⟨w.heap.size+1+1,i,none⟩=false)/\w.heap.size+3<=a.heap.size:=by
 obtain⟨c,d,f,g,j⟩:=kw (Je w k b e s) (.bool false) (.int .u8 0) (.int .u16 0) (.slice none 0 0) 268;rw[YP] at c d f g j;have m:=h.size;have l:(oW w k b e s).drew.heap.size=w.heap.size+3:=by simp
 exact⟨DX (((BI _ _).alloc (by simp) _).drew) h,Bc h c,Bc h d,Bc h f,Bc h g,λi=>(h.frozen (p:=⟨w.heap.size+1+1,i,none⟩) (by rw[l];simp)).trans (j i),by omega⟩
theorem kz(X:AA)(cs:Array AK)(t:TypeId)(i:Nat):(X.alloc (.cells cs t)).cell? ⟨X.heap.size,i,none⟩=cs[i]?:=by
 have h:=(MapKept.heap_alloc X (.cells cs t)).1;unfold World.cell?;simp only[h];rfl
def SM(w:AA)(k:Int)(b:Bool)(e:Int)(s:AB)(g:Nat)(a:AA)(p c:Nat)(d rs:Int):Prop:=
 AD (w.heap.size+2) (Je w k b e s) a/\w.heap.size+2<=p/\p<a.heap.size/\F9 a p (.bool b) (.int .u8 d) (.int .u16 rs) (.slice (some ⟨c,0,none⟩) g g)/\w.heap.size+2<=c/\c<a.heap.size/\c≠p/\∀i,i<g->a.cell? ⟨c,i,none⟩=some (.int .i64 0)
theorem F9.same{W a:AA}{b:Nat}{x y z u:AK}(h:F9 W b x y z u)(c:AD W.heap.size W a):F9 a b x y z u:=h.below c (World.block_lt_of_cell? W _ h.1)
theorem F9.set1{W:AA}{b:Nat}{x y z u:AK}(h:F9 W b x y z u)(v:AK):F9 (W.setCell ⟨b,1,none⟩ v) b x v z u:=by
 obtain⟨a,c,d,e,f⟩:=h;refine⟨?_,World.cell?_setCell_same _ _ _ c,?_,?_,λi=>by rw[World.frozen?_setCell];exact f i⟩
 ·rw[Fx _ _ _ _ (by simp)];exact a
 ·rw[Fx _ _ _ _ (by simp)];exact d
 ·rw[Fx _ _ _ _ (by simp)];exact e
theorem F9.set2{W:AA}{b:Nat}{x y z u:AK}(h:F9 W b x y z u)(v:AK):F9 (W.setCell ⟨b,2,none⟩ v) b x y v u:=by
 obtain⟨a,c,d,e,f⟩:=h;refine⟨?_,?_,World.cell?_setCell_same _ _ _ d,?_,λi=>by rw[World.frozen?_setCell];exact f i⟩
 ·rw[Fx _ _ _ _ (by simp)];exact a
 ·rw[Fx _ _ _ _ (by simp)];exact c
 ·rw[Fx _ _ _ _ (by simp)];exact e
theorem Bh{W:AA}{b g i j:Nat}{v u:AK}(a:g≠b)(h:W.cell? ⟨g,i,none⟩=some u):(W.setCell ⟨b,j,none⟩ v).cell? ⟨g,i,none⟩=some u:=by
 rw[Fx _ _ _ _ (λe=>a (by cases e;rfl))];exact h
theorem SM.next{w c d:AA}{k:Int}{b:Bool}{e:Int}{s:AB}{g p f:Nat}{j rs:Int}(h:SM w k b e s g c p f j rs)(a:AD c.heap.size c d):SM w k b e s g d p f j rs:=by
 obtain⟨l,m,n,o,q,r,t,u⟩:=h;exact⟨DX l a,m,DU n a.size,o.same a,q,DU r a.size,t,λi v=>Bc a (u i v)⟩
theorem SM.lead{w a:AA}{k:Int}{b:Bool}{e:Int}{s:AB}{g p c:Nat}{l rs:Int}(h:SM w k b e s g a p c l rs)(d:Int):SM w k b e s g (a.setCell ⟨p,1,none⟩ (.int .u8 d)) p c d rs:=by
 obtain⟨m,f,n,o,q,r,j,t⟩:=h;exact⟨m.setCell f _,f,by simpa using n,o.set1 _,q,by simpa using r,j,λi u=>Bh j (t i u)⟩
theorem SM.rest{w a:AA}{k:Int}{b:Bool}{e:Int}{s:AB}{g p c:Nat}{d rs:Int}(h:SM w k b e s g a p c d rs)(f:Int):SM w k b e s g (a.setCell ⟨p,2,none⟩ (.int .u16 f)) p c d f:=by
 obtain⟨m,j,n,o,q,r,l,t⟩:=h;exact⟨m.setCell j _,j,by simpa using n,o.set2 _,q,by simpa using r,l,λi u=>Bh l (t i u)⟩
abbrev Jy(W:AA)(b:Nat)(x y z u:AK):AA:=(((W.setCell ⟨b,0,none⟩ x).setCell ⟨b,1,none⟩ y).setCell ⟨b,2,none⟩ z).setCell ⟨b,3,none⟩ u
theorem YO{w W:AA}{k:Int}{b:Bool}{e:Int}{s:AB}(h:AD (w.heap.size+2) (Je w k b e s) W):F9 W (w.heap.size+1) (.bool false) (.int .u8 0) (.int .u16 0) (.slice none 0 0):=by
 obtain⟨-,-,-,-,a,c,d,f,g⟩:=Ai h;exact⟨a,c,d,f,g⟩
theorem SM.fin{w a:AA}{k:Int}{b:Bool}{e:Int}{s:AB}{g p c:Nat}{j rs:Int}(h:SM w k b e s g a p c j rs)(x y z u:AK):F9 (Jy a (w.heap.size+1) x y z u) (w.heap.size+1) x y z u/\c<(Jy a (w.heap.size+1) x y z u).heap.size/\(∀i,i<g->(Jy a (w.heap.size+1) x y z u).cell? ⟨c,i,none⟩=some (.int .i64 0))/\AD w.heap.size w (Jy a (w.heap.size+1) x y z u):=by
 obtain⟨f,o,q,r,t,l,v,m⟩:=h;have d:c≠w.heap.size+1:=by omega
 exact⟨(YO f).put x y z u,by simpa[Jy] using l,λi n=>Bh d (Bh d (Bh d (Bh d (m i n)))),LP (K7 f) (by omega) x y z u⟩
theorem oy{w a:AA}{k:Int}{b:Bool}{e:Int}{s:AB}(g:Nat)(cs:Array AK)(d:∀i,i<g->cs[i]?=some (.int .i64 0))(h:AD (w.heap.size+2) (Je w k b e s) a):SM w k b e s g ((a.alloc (.cells cs 2)).alloc (.cells #[.bool b,.int .u8 31,.int .u16 0,.slice (some ⟨a.heap.size,0,none⟩) g g] 268)) (a.heap.size+1) a.heap.size 31 0:=by
 have c:=E6 h;have n:=kw (a.alloc (.cells cs 2)) (.bool b) (.int .u8 31) (.int .u16 0) (.slice (some ⟨a.heap.size,0,none⟩) g g) 268;rw[show(a.alloc (.cells cs 2)).heap.size=a.heap.size+1 by simp] at n;refine⟨(h.alloc c _).alloc (by simp;omega) _,by omega,by simp,n,c,by simp<;>omega,by omega,λi f=>?_⟩;exact Cg ((kz a cs 2 i).trans (d i f)) _
theorem nZ{w a:AA}{k:Int}{b:Bool}{e:Int}{s:AB}(g:Nat)(cs:Array AK)(d:∀i,i<g->cs[i]?=some (.int .i64 0))(h:AD (w.heap.size+2) (Je w k b e s) a):SM w k b e s g ((a.alloc (.cells #[.bool b,.int .u8 31,.int .u16 0,.slice (some ⟨a.heap.size+1,0,none⟩) g g] 268)).alloc (.cells cs 2)) a.heap.size (a.heap.size+1) 31 0:=by
 have c:=E6 h;have n:=kw a (.bool b) (.int .u8 31) (.int .u16 0) (.slice (some ⟨a.heap.size+1,0,none⟩) g g) 268;refine⟨(h.alloc c _).alloc (by simp;omega) _,c,by simp<;>omega,F9.alloc n (by simp) _,by omega,by simp,by omega,λi f=>?_⟩;have:=kz (a.alloc (.cells #[.bool b,.int .u8 31,.int .u16 0,.slice (some ⟨a.heap.size+1,0,none⟩) g g] 268)) cs 2 i;rw[show(a.alloc (.cells #[.bool b,.int .u8 31,.int .u16 0,.slice (some ⟨a.heap.size+1,0,none⟩) g g] 268)).heap.size=a.heap.size+1 by simp] at this;exact this.trans (d i f)
theorem oz{w a:AA}{k:Int}{b:Bool}{e:Int}{s:AB}(g:Nat)(cs:Array AK)(l:∀i,i<g->cs[i]?=some (.int .i64 0))(h:AD (w.heap.size+2) (Je w k b e s) a)(d:a.cell? ⟨w.heap.size+1+1,0,none⟩=some (.bool false))(m:a.cell? ⟨w.heap.size+1+1,1,none⟩=some (.int .u8 0))(n:a.cell? ⟨w.heap.size+1+1,2,none⟩=some (.int .u16 0))(o:a.cell? ⟨w.heap.size+1+1,3,none⟩=some (.slice none 0 0))(p:∀i,a.frozen? ⟨w.heap.size+1+1,i,none⟩=false):SM w k b e s g (Jy (a.alloc (.cells cs 2)) (w.heap.size+1+1) (.bool b) (.int .u8 31) (.int .u16 0) (.slice (some ⟨a.heap.size,0,none⟩) g g)) (w.heap.size+1+1) a.heap.size 31 0:=by
 have f:=E6 h;have j:=World.block_lt_of_cell? a _ d;have q:F9 a (w.heap.size+1+1) (.bool false) (.int .u8 0) (.int .u16 0) (.slice none 0 0):=⟨d,m,n,o,p⟩;have c:a.heap.size≠w.heap.size+1+1:=by simp at j;omega
 have r:w.heap.size+1+1<a.heap.size:=j;refine⟨LP (h.alloc f _) (by omega) _ _ _ _,by omega,by simp[Jy];omega,(q.alloc r _).put _ _ _ _,f,by simp[Jy],c,λi t=>?_⟩;exact Bh c (Bh c (Bh c (Bh c ((kz a cs 2 i).trans (l i t)))))
def Lc(c:Int):Prop:=(97<=c/\c<=107)\/c=109
def Z8(c:Int):Nat:=if c=109 then 0 else(108-c).toNat
theorem kZ:(List.range 110).all (λn:Nat=>decide (97<=n/\n≠108->firstIdx {data:=#[97,98,99,100,101,102,103,104,105,106,107,109]} n.toUInt8=11-(Z8 n:Int)))=true:=by kernel_rfl
theorem mw(c:Int)(h:Lc c):firstIdx {data:=#[97,98,99,100,101,102,103,104,105,106,107,109]} c.toNat.toUInt8=11-(Z8 c:Int):=by
 obtain⟨n,rfl⟩:=Int.eq_ofNat_of_zero_le (show 0<=c by unfold Lc at h;omega);have:=of_decide_eq_true (List.all_eq_true.1 kZ n (List.mem_range.2 (by unfold Lc at h;omega)));exact this (by unfold Lc at h;omega)
theorem Z9(c:Int)(h:Lc c):Z8 c<=11:=by unfold Z8;unfold Lc at h;split<;>omega
theorem gN(s:AB)(c:Int)(w:AA):(callFunc 288 #[.string s,.int .u8 c]).run prog w=.ok (.value (.int .i64 (firstIdx s c.toNat.toUInt8))) w:=by
 rw[run_callFunc_extern func288 (by kernel_rfl) (by kernel_rfl) (by kernel_rfl) (e:=Extern.BytealgIndexByte.indexByte) (by kernel_rfl),run_indexByte_string];rfl
theorem MN(c:Int)(w:AA)(h:Lc c):
 cE 339 #[.int .u8 c] w (.int .i64 (Z8 c)):=by
 have a:∀w:AA,(callFunc 288 #[.string {data:=#[97,98,99,100,101,102,103,104,105,106,107,109]},.int .u8 c]).run prog w=.ok (.value (.int .i64 (11-(Z8 c:Int)))) w:=λw=>by rw[gN,mw c h]
 have b:=Z9 c h;clear h;generalize Z8 c=s at*
 go_enter func339,ntmps339;go_wp2_with (first|simp only[a]|go_in);go_ret;exact⟨Ln.ret_int (by omega),rfl⟩
def bn(x:Int)(c:Int):Int:=x/2^Z8 c%2
theorem QD(x c:Int):0<=bn x c/\bn x c<=1:=by unfold bn;omega
theorem kC(x:Int)(n:Nat)(a:0<=x)(b:x<=18446744073709551615):0<=x/2^n/\x/2^n<=18446744073709551615:=by
 have:=Int.ediv_le_self (2^n) a;exact⟨Int.ediv_nonneg a (CP (Int.pow_pos (by decide))),by omega⟩
theorem Ds(x c:Int)(w:AA)(h:Lc c)(a:0<=x)(b:x<=18446744073709551615):
 cE 333 #[.int .u64 x,.int .u8 c] w (.int .i64 (bn x c)):=by
 have e:=Z9 c h;have d:=kC x (Z8 c) a b;have f:bits .and .u64 (x/2^Z8 c) 1=bn x c:=Bm.one_u64 _ d.1 (by omega);have g:=QD x c;generalize bn x c=B at*
 go_enter func333,ntmps333;go_wp2_with fail;refine ce (MN c _ h) ?_;clear h;generalize Z8 c=s at*
 go_wp2;go_ret;exact⟨rfl,rfl⟩
theorem H9(c:Int)(w:AA):
 cE 340 #[.int .u8 c] w (.bool (decide (c=48\/c=49))):=by
 by_cases h:c=48
 ·subst h;go_enter func340,ntmps340;go_wp2;go_ret;exact⟨rfl,rfl⟩
 ·by_cases a:c=49
  ·subst a;go_enter func340,ntmps340;go_wp2;go_ret;exact⟨rfl,rfl⟩
  ·have e:decide (c=48\/c=49)=false:=By (λb=>b.elim h a);rw[e];have d:(c==48)=false:=by simpa using h
   have f:(c==49)=false:=by simpa using a
   clear h a e;go_enter func340,ntmps340;go_wp2;go_ret;exact⟨rfl,rfl⟩
theorem MZ(b:Int)(w:AA)(a:0<=b)(c:b<=1):
 cE 341 #[.int .u8 (48+b)] w (.int .i64 b):=by
 have h:IntKind.u8.wrap (48+b-48)=b:=by rw[IntKind.wrap_u8];omega
 go_enter func341,ntmps341;go_wp2;go_ret;exact⟨Ln.ret_int (by omega),rfl⟩
theorem TJ(x j:Int)(i:Nat)(w:AA)(a:j=(i:Int))(c:i<=15)(b:0<=x)(d:x<=18446744073709551615):
 cE 143 #[.int .u64 x,.int .i64 j] w (.int .i64 (Ln.ln x i)):=by
 subst a;go_enter func143,ntmps143;go_wp2;go_ret;exact⟨Ln.ret_int (Ln.ln_mod x i b),rfl⟩
end Go.Proofs.YteofommckgeemaaGreatDoor
namespace Go.Proofs.YteofommckgeemaaGreatDoor.Ln
open Go.RowKit Go.Proofs.Tryz
set_option linter.unusedVariables false
set_option linter.unusedSimpArgs false
set_option maxRecDepth 100000
set_option maxHeartbeats 8000000
def wt(m k:Nat):Int:=((([[8,4,2,1],[4,2,2,1],[5,2,1,1]]:List (AG)).getD m []).getD k 0)
def part(m:Nat)(l:Int):Nat->Int
 |0=>0
 |k+1=>part m l k+(if l/2^(3-k)%2=1 then wt m k else 0)
def dig(m:Nat)(l:Int):Int:=part m l 4
theorem part_yes(m:Nat)(l:Int)(k:Nat)(h:l/2^(3-k)%2=1):part m l k+wt m k=part m l (k+1):=by
 show _=part m l k+_;rw[zyp h]
theorem part_no(m:Nat)(l:Int)(k:Nat)(h:¬l/2^(3-k)%2=1):part m l k=part m l (k+1):=by
 show _=part m l k+_;rw[zyn h,Int.add_zero]
theorem wt_bd(m k:Nat):0<=wt m k/\wt m k<=8:=by
 unfold wt
 match m,k with
 |0,0|0,1|0,2|0,3|1,0|1,1|1,2|1,3|2,0|2,1|2,2|2,3=>decide
 |0,k+4|1,k+4|2,k+4=>simp
 |m+3,k=>simp
theorem part_bd(m:Nat)(l:Int)(k:Nat):0<=part m l k/\part m l k<=8*k:=by
 induction k with
 |zero=>exact⟨Int.le_refl _,Int.le_refl _⟩
 |succ k ih=>
  have:=wt_bd m k;show 0<=part m l k+_/\part m l k+_<=_
  split<;>omega
theorem sh_bd(l:Int)(j:Nat)(c:0<=l)(d:l<=15):0<=l/2^j/\l/2^j<=15:=by
 have a:0<=l/2^j:=Int.ediv_nonneg c (CP (Int.pow_pos (by decide)));have b:=Int.ediv_le_self (2^j) c;omega
theorem bit_and(l:Int)(j:Nat)(c:0<=l)(d:l<=15):bits .and .u64 (l/2^j) 1=l/2^j%2:=by
 obtain⟨a,b⟩:=sh_bd l j c d;obtain⟨n,e⟩:=Int.eq_ofNat_of_zero_le a;rw[e] at b ⊢;have:=bits_and_u64_nat n 1 (by omega) (by decide);rw[show((1:Nat):Int)=1 from rfl] at this;rw[this,Nat.and_one_is_mod];rfl
theorem bit_yes(l:Int)(j:Nat)(a:0<=l)(b:l<=15)(h:l/2^j%2=1):(bits .and .u64 (l/2^j) 1==1)=true:=by
 rw[bit_and l j a b,h];rfl
theorem bit_no(l:Int)(j:Nat)(a:0<=l)(b:l<=15)(h:¬l/2^j%2=1):(bits .and .u64 (l/2^j) 1==1)=false:=by
 rw[bit_and l j a b];simp[h]
def Ok(m:Nat)(x:Int):Prop:=∀i,i<16->dig m (ln x i)<=9
def okB(m:Nat)(x:Int):Bool:=(List.range 16).all λi=>decide (dig m (ln x i)<=9)
end Go.Proofs.YteofommckgeemaaGreatDoor.Ln
namespace Go.Proofs.YteofommckgeemaaGreatDoor
open Go.RowKit Go.Proofs.Tryz
set_option linter.unusedVariables false
set_option linter.unusedSimpArgs false
set_option maxRecDepth 100000
set_option maxHeartbeats 8000000
def XU(w:AA):Prop:=∀m k:Nat,m<3->k<4->w.cell? ⟨11,m*4+k,none⟩=some (.int .i64 (Ln.wt m k))
theorem Dk(m:Nat)(w:AA)(c:m<3):
 cE 337 #[.int .i64 ((m:Int)+1)] w (.bool true):=by
 obtain⟨a,b⟩:(1:Int)<=(m:Int)+1/\(m:Int)+1<=3:=by omega
 go_enter func337,ntmps337;go_wp2;go_ret;exact⟨rfl,rfl⟩
theorem IF(m:Nat)(l:Int)(w:AA)(e:XU w)(f:m<3)(c:0<=l)(d:l<=15):
 cE 342 #[.int .i64 ((m:Int)+1),.int .u64 l] w (.int .i64 (Ln.dig m l)):=by
 go_enter func342,ntmps342;go_wp2;go_loop [5,7] (λv i=>∃k:Nat,k<=4/\i=.int .i64 k/\v=.int .i64 (Ln.part m l k)) (λ_ i=>4-(intOf i).toNat);case atStart=>exact⟨0,B9 _,rfl,rfl⟩
 case round=>
  obtain⟨k,j,rfl,rfl⟩:=hrel;by_cases g:k<4
  ·have n:=e m k f g;have o:=Ln.part_bd m l k;have p:=Ln.wt_bd m k;by_cases a:l/2^(3-k)%2=1
   ·have h:=Ln.bit_yes l (3-k) c d a;have b:=zq a;clear a;go_wp2;go_round;case rel=>exact⟨k+1,by omega,by go_num,Ln.val_int (Ln.part_yes m l k b)⟩
    case measure=>simp[intOf];omega
   ·have h:=Ln.bit_no l (3-k) c d a;have b:=zq a;clear a;go_wp2;go_round;case rel=>exact⟨k+1,by omega,by go_num,Ln.val_int (Ln.part_no m l k b)⟩
    case measure=>simp[intOf];omega
  ·go_wp2;go_ret;exact⟨Ln.ret_int (by rw[show k=4 by omega];rfl),rfl⟩
theorem XU.below{B:Nat}{w a:AA}(b:XU w)(c:AD B w a)(d:11<B):XU a:=λm k e f=>by
 rw[c.cell (p:=⟨11,m*4+k,none⟩) d];exact b m k e f
end Go.Proofs.YteofommckgeemaaGreatDoor
namespace Go.Proofs.YteofommckgeemaaGreatDoor.Ln
open Go.RowKit Go.Proofs.Tryz
set_option linter.unusedVariables false
set_option linter.unusedSimpArgs false
set_option maxRecDepth 100000
set_option maxHeartbeats 8000000
def ff(m:Nat)(d:Int):Nat:=((List.range 16).find? (λl:Nat=>dig m (l:Int)==d)).getD 0
theorem ff_of(m:Nat)(d:Int)(l:Nat)(a:l<16)(h:dig m (l:Int)=d)(b:∀j,j<l->dig m (j:Int)≠d):ff m d=l:=by
 unfold ff;have:(List.range 16).find? (λl:Nat=>dig m (l:Int)==d)=some l:=by
  rw[List.find?_range_eq_some];refine⟨by simp[h],by simp[a],λj c=>by simp[b j c]⟩
 rw[this];rfl
theorem ff_lt(m:Nat)(d:Int):ff m d<16:=by
 unfold ff;cases h:(List.range 16).find? (λl:Nat=>dig m (l:Int)==d) with
 |none=>decide
 |some l=>have:=List.mem_of_find?_eq_some h;simpa using this
theorem ex_all:∀m:Fin 3,∀d:Fin 10,∃l:Fin 16,dig m.val (l.val:Int)=(d.val:Int):=by decide+kernel
theorem ff_ex(m:Nat)(d:Int)(a:m<3)(b:0<=d)(e:d<=9):∃l:Nat,l<16/\dig m (l:Int)=d:=by
 obtain⟨n,rfl⟩:=Int.eq_ofNat_of_zero_le b;obtain⟨l,c⟩:=ex_all ⟨m,a⟩ ⟨n,by omega⟩;exact⟨l.val,l.isLt,c⟩
def packN(m:Nat)(b:AG):Int:=b.foldl (λa d=>a*16+(ff m d:Int)) 0
def pk(m:Nat)(a:AG)(k:Nat):Int:=packN m (a.take k)
theorem pk_zero(m:Nat)(a:AG):pk m a 0=0:=rfl
theorem pk_succ(m:Nat)(a:AG)(k:Nat)(h:k<a.length):pk m a (k+1)=pk m a k*16+(ff m (a.getD k 0):Int):=by
 unfold pk packN;rw[List.take_succ_eq_append_getElem h,List.foldl_append];simp[List.getD,h]
theorem pk_all(m:Nat)(a:AG)(k:Nat)(h:a.length<=k):pk m a k=packN m a:=by
 unfold pk;rw[List.take_of_length_le h]
theorem pk_bd(m:Nat)(c:AG)(k:Nat)(h:k<=c.length):0<=pk m c k/\pk m c k<16^k:=by
 induction k with
 |zero=>rw[pk_zero];decide
 |succ k ih=>
  have a:=ih (by omega);rw[pk_succ m c k (by omega),Int.pow_succ];have b:=ff_lt m (c.getD k 0);omega
theorem pk_room(m:Nat)(d:AG)(k:Nat)(h:k<d.length)(e:d.length<=16):0<=pk m d k/\pk m d k<=1152921504606846975:=by
 have a:=pk_bd m d k (by omega);have b:(16:Int)^k<=16^15:=by
  rcases Nat.lt_or_ge k 15 with h|h
  ·exact CP (Int.pow_lt_pow_of_lt (by decide) h)
  ·rw[show k=15 by omega];exact Int.le_refl _
 have c:(16:Int)^15=1152921504606846976:=by decide
 omega
theorem or16(a:Int)(b:Nat)(c:0<=a)(d:a<=1152921504606846975)(f:b<16):bits .or .u64 (a*16) (b:Int)=a*16+b:=by
 obtain⟨n,rfl⟩:=Int.eq_ofNat_of_zero_le c;have:=bits_or_u64_nat (n*16) b (by omega) (by omega);rw[Int.natCast_mul] at this;rw[show((16:Nat):Int)=16 from rfl] at this;rw[this];have e:=Nat.shiftLeft_add_eq_or_of_lt (show b<2^4 by omega) n;rw[Nat.shiftLeft_eq] at e;rw[show(2:Nat)^4=16 from rfl] at e;rw[<-e];simp
def okDs(a:AG):Bool:=decide (a.length<=16)&&a.all λd=>decide (0<=d)&&decide (d<=9)
theorem okDs_yes(a:AG)(c:a.length<=16)(h:∀i,i<a.length->0<=a.getD i 0/\a.getD i 0<=9):okDs a=true:=by
 unfold okDs;rw[Bool.and_eq_true,List.all_eq_true];refine⟨by simpa using c,λd e=>?_⟩;obtain⟨i,b,rfl⟩:=List.getElem_of_mem e;have:=h i b;simp[List.getD,b] at this;simp[this]
theorem okDs_at(a:AG)(h:okDs a=true)(i:Nat)(b:i<a.length):0<=a.getD i 0/\a.getD i 0<=9:=by
 unfold okDs at h;rw[Bool.and_eq_true,List.all_eq_true] at h;have:=h.2 (a[i]) (List.getElem_mem b);simpa[List.getD,b] using this
theorem okDs_long(a:AG)(h:16<a.length):okDs a=false:=by
 unfold okDs;simp;omega
theorem okDs_no(a:AG)(i:Nat)(b:i<a.length)(h:a.getD i 0<0\/9<a.getD i 0):okDs a=false:=by
 cases e:okDs a with
 |false=>rfl
 |true=>have:=okDs_at a e i b;omega
def packV(m:Nat)(a:AG):Int:=if okDs a then packN m a else 0
end Go.Proofs.YteofommckgeemaaGreatDoor.Ln
namespace Go.Proofs.YteofommckgeemaaGreatDoor
open Go.RowKit Go.Proofs.Tryz
set_option linter.unusedVariables false
set_option linter.unusedSimpArgs false
set_option maxRecDepth 100000
set_option maxHeartbeats 8000000
def jY(m:Nat)(x:Int):Nat->AG
 |0=>[]
 |j+1=>jY m x j++[Ln.dig m (Ln.ln x (15-j))]
def oH(m:Nat)(x:Int):AG:=if Ln.okB m x then jY m x 16 else[]
def oC:Array AK:=#[.int .i64 0,.int .i64 0,.int .i64 0,.int .i64 0,.int .i64 0,.int .i64 0,.int .i64 0,.int .i64 0,.int .i64 0,.int .i64 0,.int .i64 0,.int .i64 0,.int .i64 0,.int .i64 0,.int .i64 0,.int .i64 0]
theorem Mr(m:Nat)(d:Int)(w:AA)(l:XU w)(c:m<3)(q:0<=d)(r:d<=9):
 cE 338 #[.int .i64 ((m:Int)+1),.int .i64 d] w (.int .u64 (Ln.ff m d)):=by
 obtain⟨f,t,n⟩:=Ln.ff_ex m d c q r;have o:=zq n;clear n;go_enter func338,ntmps338;go_wp2;go_loop [5] (λi=>∃k:Nat,k<=15/\i=.int .u64 k/\Hid (∀j:Nat,j<k->Ln.dig m (j:Int)≠d)) (λi=>15-(intOf i).toNat);case atStart=>exact⟨0,B9 _,rfl,λj p=>absurd p (Nat.not_lt_zero j)⟩
 case round=>
  obtain⟨k,u,rfl,b⟩:=hrel;by_cases v:k<15
  ·have x:(k:Int)<15:=by omega
   by_cases a:Ln.dig m (k:Int)=d
   ·have s:(Ln.dig m (k:Int)!=d)=false:=by simp[a]
    have g:=zq a;clear a;go_wp2_with fail;refine(IF m _ _ l c (by omega) (by omega)).mono ?_;rintro e y ⟨rfl,rfl⟩;go_wp2;go_ret;exact⟨Ln.ret_int (by rw[Ln.ff_of m d k (by omega) g.out b.out]),rfl⟩
   ·have s:(Ln.dig m (k:Int)!=d)=true:=by simp[a]
    have g:=zq a;clear a;go_wp2_with fail;refine ce (IF m _ _ l c (by omega) (by omega)) ?_;go_wp2;go_round;case rel=>exact⟨k+1,by omega,by go_num,λj p=>by rcases Nat.lt_or_ge j k with h|h;exact b j h;rw[show j=k by omega];exact g⟩
    case measure=>simp[intOf];omega
  ·have a:decide ((k:Int)<15)=false:=by simp;omega
   go_wp2;go_ret;refine⟨Ln.ret_int ?_,rfl⟩;have e:f=k:=by
    rcases Nat.lt_or_ge f k with h|h
    ·exact absurd o (b f h)
    ·omega
   rw[Ln.ff_of m d k (by omega) (by rw[<-e];exact o.out) b.out]
theorem WE(m:Nat)(v:AK)(b:AG)(base:Nat)(w:AA)(z:XU w)(l:m<3)(h:Er w base v b):
 cE 332 #[.int .i64 ((m:Int)+1),v] w (.tuple #[.int .u64 (Ln.packV m b),.bool (Ln.okDs b)]):=by
 rcases Nat.lt_or_ge 16 b.length with c|c
 ·obtain⟨a,K,rfl,A⟩:=h.len;have B:(16:Int)<(b.length:Int):=by omega
  have e:=Ln.okDs_long b c;have E:=zq e;clear h e;go_enter func332,ntmps332;go_wp2_with fail;refine(Dk m _ l).mono ?_;rintro e p ⟨rfl,rfl⟩;go_wp2;go_ret2;exact⟨by unfold Ln.packV;rw[E];rfl,rfl⟩
 ·rcases h.form with⟨rfl,rfl⟩|⟨g,L,rfl,M,N,A,q,C⟩
  ·clear h c;go_enter func332,ntmps332;go_wp2_with fail;refine(Dk m _ l).mono ?_;rintro e p ⟨rfl,rfl⟩;go_wp2;go_loop [6,19] (λa i=>i=.int .i64 0/\a=.int .u64 0) (λ_ _=>0);case atStart=>exact⟨rfl,rfl⟩
   case round=>
    obtain⟨rfl,rfl⟩:=hrel;go_wp2;go_ret2;exact⟨rfl,rfl⟩
  ·have D:=zq q;have B:¬(16:Int)<(b.length:Int):=by omega
   clear h q C;go_enter func332,ntmps332;go_wp2_with fail;refine(Dk m _ l).mono ?_;rintro e p ⟨rfl,rfl⟩;go_wp2;go_loop [6,19] (λa i=>∃k:Nat,k<=b.length/\i=.int .i64 k/\a=.int .u64 (Ln.pk m b k)/\Hid (∀j,j<k->0<=b.getD j 0/\b.getD j 0<=9)) (λ_ i=>b.length-(intOf i).toNat);case atStart=>exact⟨0,B9 _,rfl,rfl,λj r=>absurd r (Nat.not_lt_zero j)⟩
   case round=>
    obtain⟨k,O,rfl,rfl,s⟩:=hrel;by_cases f:k<b.length
    ·have F:=D k f;have P:(k:Int)<(b.length:Int):=by omega
     have t:Hid (∀i,i<b.length->(b.getD i 0<0\/9<b.getD i 0)->Ln.okDs b=false):=λi u G=>Ln.okDs_no b i u G;have H:=zq (Ln.pk_succ m b k f);have x:=Ln.pk_room m b k f c;obtain⟨d,o⟩:∃d,d=b.getD k 0:=⟨_,rfl⟩;rw[<-o] at F;have n:=zq o;clear o;by_cases y:d<0
     ·go_wp2;go_ret2;have E:=t k f (by rw[<-n];exact .inl y);exact⟨by unfold Ln.packV;rw[E];rfl,rfl⟩
     ·have Q:decide (d<0)=false:=by simpa using y
      by_cases I:9<d
      ·go_wp2;go_ret2;have E:=t k f (by rw[<-n];exact .inr I);exact⟨by unfold Ln.packV;rw[E];rfl,rfl⟩
      ·have J:=Ln.ff_lt m d;have R:=Ln.or16 (Ln.pk m b k) (Ln.ff m d) x.1 x.2 J;go_wp2_with fail;refine ce (Mr m d _ z l (by omega) (by omega)) ?_;go_wp2;go_round;case rel=>exact⟨k+1,by omega,by go_num,Ln.val_int (by rw[H,<-n]),λj r=>by rcases Nat.lt_or_ge j k with h|h;exact s j h;rw[show j=k by omega,<-n];omega⟩
       case measure=>simp[intOf];omega
    ·go_wp2;go_ret2;have E:=Ln.okDs_yes b c (λi u=>s i (by omega));exact⟨by unfold Ln.packV;rw[E,zyp rfl,Ln.pk_all m b k (by omega)];rfl,rfl⟩
def oE:Nat->AG
 |0=>[98,99,100,102,103,104,48,106,107,109]
 |1=>[98,99,100,102,103,104,49,48,48,109]
 |2=>[98,99,100,106,107,104,49,48,49,109]
 |3=>[98,99,100,49,48,104,49,49,49,109]
 |4=>[106,107,100,102,103,104,49,49,48,109]
 |5=>[102,103,100,48,49,104,49,49,49,109]
 |6=>[106,107,100,48,48,104,49,49,49,109]
 |_=>[48,48,100,49,49,104,49,49,49,109]
def Wu(r:Nat):AB:={data:=((oE r).map λc=>c.toNat.toUInt8).toArray}
def PY(r k:Nat):Int:=(oE r).getD k 0
theorem Tu:∀r:Fin 8,(Wu r.val).size=10/\∀k:Fin 10,((Wu r.val).data.getD k.val 0).toNat=(PY r.val k.val).toNat/\48<=PY r.val k.val/\(PY r.val k.val=48\/PY r.val k.val=49\/(97<=PY r.val k.val/\PY r.val k.val<=107)\/PY r.val k.val=109):=by decide+kernel
theorem VE(r:Nat)(a:r<8):(Wu r).size=10:=(Tu ⟨r,a⟩).1
theorem ij(r k:Nat)(b:r<8)(a:k<(Wu r).size):(((Wu r)[k]'a).toNat:Int)=PY r k:=by
 have d:=VE r b;have h:=((Tu ⟨r,b⟩).2 ⟨k,by omega⟩);have e:(Wu r)[k]'a=(Wu r).data.getD k 0:=by
  have c:k<(Wu r).data.size:=a;show(Wu r).data[k]'c=_
  rw[Array.getD_eq_getD_getElem?,Array.getElem?_eq_getElem c];rfl
 rw[e,h.1];exact Int.toNat_of_nonneg (Int.le_trans (by decide) h.2.1)
theorem ik(r k:Nat)(a:r<8)(b:k<10):PY r k=48\/PY r k=49\/Lc (PY r k):=by
 have:=(Tu ⟨r,a⟩).2 ⟨k,b⟩;exact this.2.2
def KA(w:AA):Prop:=∀r,r<8->w.cell? ⟨10,r,none⟩=some (.string (Wu r))
theorem KA.below{B:Nat}{w a:AA}(b:KA w)(c:AD B w a)(d:10<B):KA a:=λr e=>by
 rw[c.cell (p:=⟨10,r,none⟩) d];exact b r e
def Ks(x c:Int):Int:=if c=48\/c=49 then c-48 else bn x c
theorem VT(x c:Int):0<=Ks x c/\Ks x c<=1:=by
 have:=QD x c;unfold Ks;split<;>omega
def JZ(x:Int)(r:Nat):Nat->Int
 |0=>0
 |k+1=>JZ x r k*2+Ks x (PY r k)
theorem jK(x:Int)(r k:Nat):0<=JZ x r k/\JZ x r k<2^k:=by
 induction k with
 |zero=>simp[JZ]
 |succ k ih=>
  have:=VT x (PY r k);unfold JZ;rw[Int.pow_succ];omega
theorem XB(x:Int)(r k:Nat)(a:k<=10):0<=JZ x r k/\JZ x r k<=1023:=by
 have:=jK x r k;have:(2:Int)^k<=2^10:=by
  rcases Nat.lt_or_ge k 10 with h|h
  ·exact CP (Int.pow_lt_pow_of_lt (by decide) h)
  ·rw[show k=10 by omega];exact Int.le_refl _
 rw[show(2:Int)^10=1024 by decide] at this;omega
theorem gy(a b:Int)(c:0<=a)(e:a<4611686018427387904)(d:0<=b)(f:b<=1):bits .or .i64 (a*2) b=a*2+b:=by
 have:=Bm.join_i64 a b 1 c (by omega) d (by omega) (by omega);rw[show(2:Int)^1=2 by decide] at this;exact this
def T9(n:Int):Int:=n/100*256+n/10%10*16+n%10
def jp(n:Int):Int:=n/100/8*4+n/10%10/8*2+n%10/8
theorem mL:(List.range 1000).all (λn:Nat=>decide (JZ (T9 n) (jp n).toNat 10=E0 n/\bn (T9 n) 97*4+bn (T9 n) 101*2+bn (T9 n) 105=jp n/\0<=jp n/\jp n<8))=true:=by kernel_rfl
theorem lJ:(List.range 1000).all (λn:Nat=>decide (Ln.packV 0 [(n:Int)/100,(n:Int)/10%10,(n:Int)%10]=T9 n))=true:=by kernel_rfl
theorem eZ(n:Int)(a:0<=n)(b:n<=999):JZ (T9 n) (jp n).toNat 10=E0 n/\bn (T9 n) 97*4+bn (T9 n) 101*2+bn (T9 n) 105=jp n/\0<=jp n/\jp n<8:=by
 obtain⟨N,rfl⟩:=Int.eq_ofNat_of_zero_le a;exact of_decide_eq_true (List.all_eq_true.1 mL N (List.mem_range.2 (by omega)))
theorem Zc(n:Int)(a:0<=n)(b:n<=999):Ln.packV 0 [n/100,n/10%10,n%10]=T9 n:=by
 obtain⟨N,rfl⟩:=Int.eq_ofNat_of_zero_le a;exact of_decide_eq_true (List.all_eq_true.1 lJ N (List.mem_range.2 (by omega)))
theorem kV(A B C:Int)(a:0<=A)(b:A<=1)(c:0<=B)(d:B<=1)(e:0<=C)(f:C<=1):bits .or .i64 (bits .or .i64 (A*4) (B*2)) C=A*4+B*2+C:=by
 rcases(show A=0\/A=1 by omega) with rfl|rfl<;>rcases(show B=0\/B=1 by omega) with rfl|rfl<;>rcases(show C=0\/C=1 by omega) with rfl|rfl<;>rfl
theorem Tt(x c:Int)(w:AA)(h:c=48\/c=49\/Lc c)(i:0<=x)(j:x<=18446744073709551615):
 cE 334 #[.int .u64 x,.int .u8 c] w (.int .i64 (Ks x c)):=by
 by_cases a:c=48\/c=49
 ·have e:Hid (Ks x c=c-48):=by show _=_;unfold Ks;rw[zyp a]
  have b:=H9 c w;rw[Bz a] at b;have d:=MZ (c-48) w (by omega) (by omega);rw[show 48+(c-48)=c by omega] at d;have f:=zq b;have k:=zq d;clear b d h a;rw[e];go_enter func334,ntmps334;go_wp2_with fail;refine f.mono ?_;rintro e g ⟨rfl,rfl⟩;go_wp2_with fail;refine k.mono ?_;rintro e g ⟨rfl,rfl⟩;go_wp2;go_ret;exact⟨rfl,rfl⟩
 ·have e:Hid (Ks x c=bn x c):=by show _=_;unfold Ks;rw[zyn a]
  have l:Lc c:=by rcases h with h|h|h;exact absurd (.inl h) a;exact absurd (.inr h) a;exact h
  have b:=H9 c w;rw[By a] at b;have f:=zq b;clear b h a;rw[e];go_enter func334,ntmps334;go_wp2_with fail;refine f.mono ?_;rintro e g ⟨rfl,rfl⟩;go_wp2_with fail;refine ce (Ds x c _ l i j) ?_;go_wp2;go_ret;exact⟨rfl,rfl⟩
theorem W3(w:AA)(x y z:Int):Er (w.alloc (.cells #[.int .i64 x,.int .i64 y,.int .i64 z] 2)) w.heap.size (.slice (some ⟨w.heap.size,0,none⟩) 3 3) [x,y,z]:=
 World.ownsRow_lit (base:=w.heap.size) (e:=2) (size:=1) w #[.int .i64 x,.int .i64 y,.int .i64 z] 3 (AS _) (by decide) (by simp)
theorem Kv(n:Int)(w:AA)(m:XU w)(o:KA w)(Y:11<w.heap.size)(Z:10<w.heap.size)(d:0<=n)(G:n<=999):
 cB 327 #[.int .i64 n] w (.int .i64 (E0 n)):=by
 obtain⟨f,p,H,f4⟩:=eZ n d G;have J:=Zc n d G;have a1:Int.tdiv n 100=n/100:=Int.tdiv_eq_ediv_of_nonneg d;have a2:Int.tdiv n 10=n/10:=Int.tdiv_eq_ediv_of_nonneg d;have a3:Int.tmod (n/10) 10=n/10%10:=Int.tmod_eq_emod_of_nonneg (by omega);have a4:Int.tmod n 10=n%10:=Int.tmod_eq_emod_of_nonneg d;have b1:0<=n/100/\n/100<=9:=by omega
 have b2:0<=n/10/\n/10<=99:=by omega
 have b3:0<=n/10%10/\n/10%10<=9:=by omega
 have b4:0<=n%10/\n%10<=9:=by omega
 have g:0<=T9 n/\T9 n<=4095:=by unfold T9;omega
 obtain⟨r,K⟩:=Int.eq_ofNat_of_zero_le H;rw[K] at f p f4;rw[Int.toNat_natCast] at f;have j:r<8:=by omega
 have HT:=zq m;have HD:=zq o;have HF:=zq f;have q:Hid (AD w.heap.size w (w.alloc (.cells #[.int .i64 (n/100),.int .i64 (n/10%10),.int .i64 (n%10)] 2))):=bA;have L:Hid (Calls prog 332 #[.int .i64 1,.slice (some ⟨w.heap.size,0,none⟩) 3 3] (w.alloc (.cells #[.int .i64 (n/100),.int .i64 (n/10%10),.int .i64 (n%10)] 2)) λe M=>∃b,e=.returned (.tuple #[.int .u64 (T9 n),.bool b])/\M=(w.alloc (.cells #[.int .i64 (n/100),.int .i64 (n/10%10),.int .i64 (n%10)] 2))):=by
  have:=WE 0 _ _ _ _ (m.below q Y) (by decide) (W3 w (n/100) (n/10%10) (n%10));rw[J] at this;exact this.mono λe M h=>⟨_,h.1,h.2⟩
 have ac:=zq (o.below q Z);generalize hD:T9 n=D at*
 clear m o f H K J hD;generalize E0 n=R at*
 generalize n/100=x at*
 generalize n/10%10=y at*
 generalize n%10=z at*
 generalize n/10=t at*
 have s:=QD D 97;have u:=QD D 101;have v:=QD D 105;have N:=kV _ _ _ s.1 s.2 u.1 u.2 v.1 v.2;rw[p] at N;have O:=zq λX=>Ds D 97 X (.inl ⟨by decide,by decide⟩) g.1 (by omega);have P:=zq λX=>Ds D 101 X (.inl ⟨by decide,by decide⟩) g.1 (by omega);have Q:=zq λX=>Ds D 105 X (.inl ⟨by decide,by decide⟩) g.1 (by omega);generalize bn D 97=A at*
 generalize bn D 101=E at*
 generalize bn D 105=I at*
 clear p;go_enter func327,ntmps327;go_wp2_with fail;refine L.mono ?_;rintro e w1 ⟨bb,rfl,ae⟩;generalize hW:w.alloc (.cells #[.int .i64 x,.int .i64 y,.int .i64 z] 2)=W at*
 subst ae;clear hW L;go_wp2_with fail;refine cm (O _) λF c=>?_;subst c;go_wp2_with fail;refine cm (P _) λF c=>?_;subst c;go_wp2_with fail;refine cm (Q _) λF c=>?_;subst c;have ag:=ac r j;have aC:=VE r j;have ah:=zq λk l=>ij r k j l;have ai:=zq λk l=>ik r k j l;generalize Wu r=S at*
 go_wp2;clear O P Q s u v N ag;go_loop [6,34] (λa i=>∃k:Nat,k<=10/\i=.int .i64 (k:Int)/\a=.int .i64 (JZ D r k)) (λ_ i=>10-(intOf i).toNat);case atStart=>exact⟨0,B9 _,rfl,rfl⟩
 case round=>
  obtain⟨k,l,rfl,rfl⟩:=hrel;by_cases aj:k<10
  ·obtain⟨aD,ak⟩:(k:Int)<10/\k<S.size:=by omega
   have hc:=ah k ak;have al:=XB D r k (by omega);have T:=ai k aj;have V:=VT D (PY r k);have HS:Hid (JZ D r (k+1)=JZ D r k*2+Ks D (PY r k)):=rfl;have an:=zq λX=>Tt D (PY r k) X T g.1 (by omega);clear T;have ho:=gy (JZ D r k) (Ks D (PY r k)) al.1 (by omega) V.1 V.2;generalize Ks D (PY r k)=B at*
   generalize PY r k=C at*
   generalize JZ D r k=U at*
   go_wp2_with fail;refine cm (an _) λF c=>?_;subst c;go_wp2;go_round;case rel=>exact⟨k+1,by omega,by go_num,Ln.val_int (by rw[HS])⟩
   case measure=>simp[intOf];omega
  ·obtain rfl:k=10:=by omega
   go_wp2;go_ret;exact⟨Ln.ret_int HF,q⟩
theorem Qi(n:Int)(w:AA)(a:XU w)(b:KA w)(c:11<w.heap.size)(d:10<w.heap.size):
 cB 312 #[.int .i64 n] w (.int .i64 (E0 n)):=by
 by_cases f:n<0
 ·rw[LU n (by omega)];go_enter func312,ntmps312;go_wp2;go_ret;exact⟨rfl,BI _ _⟩
 ·by_cases g:(1000:Int)<=n
  ·rw[LU n (by omega)];go_enter func312,ntmps312;go_wp2;go_ret;exact⟨rfl,BI _ _⟩
  ·have H:=zq (Kv n w a b c d (by omega) (by omega));clear a b;go_enter func312,ntmps312;go_wp2_with fail;refine cm H λh e=>?_;go_wp2;go_ret;exact⟨rfl,e⟩
def Dr(w:AA):Prop:=XU w/\KA w/\11<w.heap.size/\10<w.heap.size
theorem Dr.below{B:Nat}{w b:AA}(h:Dr w)(a:AD B w b)(c:w.heap.size<=B):Dr b:=
 ⟨h.1.below a (DU h.2.2.1 c),h.2.1.below a (DU h.2.2.2 c),DU h.2.2.1 a.size,DU h.2.2.2 a.size⟩
theorem Dr.at{B:Nat}{w b:AA}(h:Dr w)(a:AD B w b)(c:11<B)(d:10<B):Dr b:=
 ⟨h.1.below a c,h.2.1.below a d,DU h.2.2.1 a.size,DU h.2.2.2 a.size⟩
theorem Dr.alloc{w:AA}(h:Dr w)(o:Obj):Dr (w.alloc o):=h.below ((BI _ _).alloc (AS _) o) (AS _)
theorem Dr.declet{w:AA}(h:Dr w)(n:Int):cB 312 #[.int .i64 n] w (.int .i64 (E0 n)):=Qi n w h.1 h.2.1 h.2.2.1 h.2.2.2
def fl(f:Nat->Int):Nat->AG
 |0=>[]
 |k+1=>f k::fl f k
def Ma(a b:Int)(c:AG):Bool:=c.all λd=>decide (a<=d)&&decide (d<=b)
theorem PX(a b:Int)(c:AG)(h:∀i,i<c.length->a<=c.getD i 0/\c.getD i 0<=b):Ma a b c=true:=by
 unfold Ma;rw[List.all_eq_true];intro d g;obtain⟨i,f,e⟩:=List.getElem_of_mem g;have:=h i f;rw[List.getD,Dq f] at this;simp only[Cd] at this;rw[e] at this;simp[this.1,this.2]
theorem Ts(a b:Int)(c:AG)(h:Ma a b c=true)(i:Nat)(d:i<c.length):a<=c.getD i 0/\c.getD i 0<=b:=by
 unfold Ma at h;rw[List.all_eq_true] at h;have:=h _ (List.getElem_mem d);rw[List.getD,Dq d];simpa using this
theorem ll(a b:Int)(c:AG)(i:Nat)(d:i<c.length)(h:c.getD i 0<a\/b<c.getD i 0):Ma a b c=false:=by
 cases e:Ma a b c with
 |false=>rfl
 |true=>have:=Ts a b c e i d;omega
def sc(a:AG):Nat->Int
 |0=>0
 |k+1=>if 6<=lo a k+sc a k\/(lo a k+sc a k=5/\5<=lo a (k+1)) then 1 else 0
def bw(a:AG):Nat->Int
 |0=>0
 |k+1=>if lo a k-bw a k<0 then 1 else 0
def pd(a:AG)(k:Nat):Int:=lo a k-bw a k+10*bw a (k+1)
def plain(a:AG):AG:=fl (pd a) a.length
theorem Zx(a b d:Int)(r:AG)(h:Ma a b (d::r)=true):a<=d/\d<=b/\Ma a b r=true:=by
 unfold Ma at h ⊢;simp only[List.all_cons,Bool.and_eq_true,decide_eq_true_eq] at h;exact⟨h.1.1,h.1.2,h.2⟩
theorem Zy(a b:Int)(c:AG)(h:Ma a b c=true)(k:Nat):Ma a b (c.take k)=true:=by
 unfold Ma at h ⊢;rw[List.all_eq_true] at h ⊢
 exactλd e=>h d (List.mem_of_mem_take e)
theorem mJ(e:AG)(h:Ma (-9) 9 e=true):-(10^e.length)<vl e/\vl e<10^e.length:=by
 induction e with
 |nil=>exact⟨by decide,by decide⟩
 |cons d r ih=>
  obtain⟨a,b,c⟩:=Zx _ _ _ _ h;have i:=ih c;rw[Br,List.length_cons,Int.pow_succ];have f:(0:Int)<=10^r.length:=CP (Int.pow_pos (by decide));have u:=NH b f;have l:=NH a f;omega
def ng(a:AG):Bool:=decide (vl a<0)
theorem jJ(a:AG)(k:Nat)(b:k<a.length):vl (a.take (k+1))=vl (a.take k)*10+a.getD k 0:=by
 rw[List.take_succ_eq_append_getElem b,CX];simp[List.getD,b]
theorem T8(d:AG)(h:Ma (-9) 9 d=true)(k:Nat)(e:k<=17):-100000000000000000<vl (d.take k)/\vl (d.take k)<100000000000000000:=by
 have a:=mJ _ (Zy _ _ d h k);have b:(10:Int)^(d.take k).length<=10^17:=AI _ _ (by rw[FQ];omega);have c:(10:Int)^17=100000000000000000:=by decide
 omega
def l3(a:AG):Bool:=decide (a.length<=41)&&Ma (-9) 9 a
theorem O1(x:Int)(a:0<=x)(b:x<=9):Int.tmod x 2=x%2/\(0<=x%2/\x%2<=1)/\Int.tmod x 8=x%8/\(0<=x%8/\x%8<=7)/\Int.tdiv (x%8) 2=x%8/2/\(0<=x%8/2/\x%8/2<=3)/\Int.tdiv x 8=x/8/\(x/8=0\/x/8=1):=
 ⟨Int.tmod_eq_emod_of_nonneg a,by omega,Int.tmod_eq_emod_of_nonneg a,by omega,Int.tdiv_eq_ediv_of_nonneg (by omega),by omega,Int.tdiv_eq_ediv_of_nonneg a,by omega⟩
theorem Rx(n:Int)(w:AA)(b:0<=n)(g:n<=999):
 cE 198 #[.int .i64 n] w (.int .i64 (E0 n)):=by
 have a:Hid (E0 n=og (n/100) (n/10%10) (n%10)):=by show _=_;unfold E0;rw[zyp ⟨b,g⟩]
 have q:Int.tdiv n 100=n/100:=Int.tdiv_eq_ediv_of_nonneg b;have r:Int.tdiv n 10=n/10:=Int.tdiv_eq_ediv_of_nonneg b;have s:Int.tmod (n/10) 10=n/10%10:=Int.tmod_eq_emod_of_nonneg (by omega);have u:Int.tmod n 10=n%10:=Int.tmod_eq_emod_of_nonneg b;have i:0<=n/100/\n/100<=9:=by omega
 have v:0<=n/10/\n/10<=99:=by omega
 have j:0<=n/10%10/\n/10%10<=9:=by omega
 have k:0<=n%10/\n%10<=9:=by omega
 generalize n/100=x at*
 generalize n/10%10=y at*
 generalize n%10=z at*
 generalize n/10=t at*
 obtain⟨A,B,C,D,E,F,l,c⟩:=O1 x i.1 i.2;obtain⟨G,H,I,J,K,L,o,e⟩:=O1 y j.1 j.2;obtain⟨M,N,O,P,Q,R,p,f⟩:=O1 z k.1 k.2
 replace a:Hid (E0 n=oh (x/8*4+y/8*2+z/8) (x%8/2) (x%2) (y%8/2) (y%2) (z%8/2) (z%2)):=a
 generalize x%8/2=S at*
 generalize y%8/2=T at*
 generalize z%8/2=U at*
 generalize x%8=V at*
 generalize y%8=W at*
 generalize z%8=X at*
 generalize x%2=d at*
 generalize y%2=h at*
 generalize z%2=m at*
 go_enter func198,ntmps198;go_wp2_with fail;refine ce (Lg n 0 999 _ b g) ?_;rcases c with c|c<;>rcases e with e|e<;>rcases f with f|f<;>rw[c] at l a<;>rw[e] at o a<;>rw[f] at p a<;>clear c e f<;>(go_wp2;go_ret;refine⟨Ln.ret_int ?_,rfl⟩;rw[a];rfl)
theorem Rw(n:Int)(w:AA):
 cE 198 #[.int .i64 n] w (.int .i64 (E0 n)):=by
 by_cases h:0<=n/\n<=999
 ·exact Rx n w h.1 h.2
 rw[LU n h];go_enter func198,ntmps198;go_wp2_with fail;refine ce (Ov n 0 999 _ (by omega)) ?_;go_wp2;go_ret;exact⟨rfl,rfl⟩
def Iq(a:AG):Nat->AG
 |0=>[]
 |k+1=>Iq a k++[E0 (a.getD (3*k) 0*100+a.getD (3*k+1) 0*10+a.getD (3*k+2) 0)]
theorem Dw(a:AG)(k:Nat):(Iq a k).length=k:=by
 induction k with
 |zero=>rfl
 |succ k ih=>simp[Iq,ih]
theorem kF(a:AG)(n k:Nat)(h:k<n):(Iq a n).getD k 0=E0 (a.getD (3*k) 0*100+a.getD (3*k+1) 0*10+a.getD (3*k+2) 0):=by
 induction n with
 |zero=>omega
 |succ n ih=>
  simp only[Iq];by_cases b:k<n
  ·rw[<-ih b,List.getD,List.getElem?_append_left (by rw[Dw];exact b)];rfl
  ·obtain rfl:k=n:=by omega
   rw[List.getD,List.getElem?_append_right (by rw[Dw];omega),Dw,Nat.sub_self];rfl
def mg(a:AG):Bool:=decide (a.length<=33/\a.length%3=0)&&Ma 0 9 a
def Mg(w:AA)(g o:Nat)(a:AG):Prop:=∀i,i<a.length->w.cell? ⟨g,o+i,none⟩=some (.int .i64 (a.getD i 0))
theorem Mg.below{B:Nat}{w a:AA}{g o:Nat}{b:AG}(h:Mg w g o b)(c:AD B w a)(d:g<B):Mg a g o b:=λi e=>by
 rw[c.cell (p:=⟨g,o+i,none⟩) d];exact h i e
theorem Ih(g o s:Nat)(c:AG)(a b:Int)(w:AA)(h:Mg w g o c)(A:c.length<=9223372036854775807):
 cE 310 #[.slice (some ⟨g,o,none⟩) c.length s,.int .i64 a,.int .i64 b] w (.bool (Ma a b c)):=by
 have t:=zq h;have m:=zq λi n u=>ll a b c i n u;have v:=zq (PX a b c);clear h;generalize Ma a b c=r at*
 go_enter func310,ntmps310;go_wp2;go_loop [11] (λi=>∃k:Nat,k<=c.length/\i=.int .i64 k/\Hid (∀j,j<k->a<=c.getD j 0/\c.getD j 0<=b)) (λi=>c.length-(intOf i).toNat);case atStart=>exact⟨0,B9 _,rfl,λj p=>absurd p (Nat.not_lt_zero j)⟩
 case round=>
  obtain⟨k,B,rfl,q⟩:=hrel;by_cases e:k<c.length
  ·have x:=t k e;have C:(k:Int)<(c.length:Int):=by omega
   obtain⟨d,f⟩:∃d,d=c.getD k 0:=⟨_,rfl⟩;rw[<-f] at x;have l:=zq f;clear f;by_cases y:d<a
   ·go_wp2;go_ret;exact⟨Ln.ret_bool (m k e (by rw[<-l];exact .inl y)).symm,rfl⟩
   ·by_cases z:b<d
    ·go_wp2;go_ret;exact⟨Ln.ret_bool (m k e (by rw[<-l];exact .inr z)).symm,rfl⟩
    ·go_wp2;go_round;case rel=>exact⟨k+1,by omega,by go_num,λj p=>by rcases Nat.lt_or_ge j k with h|h;exact q j h;rw[show j=k by omega,<-l];omega⟩
     case measure=>simp[intOf];omega
  ·go_wp2;go_ret;exact⟨Ln.ret_bool (v (λi n=>q i (by omega))).symm,rfl⟩
theorem N9(g o b:Nat)(a:AG)(w:AA)(h:Mg w g o a)(c:a.length<=9223372036854775807):
 cE 326 #[.slice (some ⟨g,o,none⟩) a.length b] w (.bool (Ma (-9) 9 a)):=by
 have H:=zq h;clear h;go_enter func326,ntmps326;go_wp2_with fail;refine ce (Ih g o b a (-9) 9 _ H c) ?_;go_wp2;go_ret;exact⟨rfl,rfl⟩
theorem S0(g o c:Nat)(a:AG)(w:AA)(h:Mg w g o a)(u:a.length<=18)(b:Ma (-9) 9 a=true):
 cE 311 #[.slice (some ⟨g,o,none⟩) a.length c] w (.tuple #[.int .i64 (vl a),.bool true]):=by
 have v:¬(18:Int)<(a.length:Int):=by omega
 have H:Hid (cE 326 #[.slice (some ⟨g,o,none⟩) a.length c] w (.bool true)):=by
  have:=N9 g o c a w h (by omega);rw[b] at this;exact this
 have f:=zq b;have j:Hid (∀i,i<a.length->w.cell? ⟨g,o+i,none⟩=some (.int .i64 (a.getD i 0))):=h;have l:Hid (vl (a.take a.length)=vl a):=by show _=_;rw[List.take_length]
 have m:=zq (jJ a);have p:=zq (T8 a b);clear b h;generalize x:a.length=n at*
 go_enter func311,ntmps311;go_wp2_with fail;refine cm H λy r=>?_;obtain rfl:=r.symm;go_wp2;go_loop [4,17] (λs i=>∃k:Nat,k<=n/\i=.int .i64 k/\s=.int .i64 (vl (a.take k))) (λ_ i=>n-(intOf i).toNat);case atStart=>exact⟨0,B9 _,rfl,by simp[vl,lv]⟩
 case round=>
  obtain⟨k,z,rfl,rfl⟩:=hrel;by_cases e:k<n
  ·have A:(k:Int)<(n:Int):=by omega
   have B:=j.out k e;have C:=p k (by omega);have D:=Ts _ _ a f k (by omega);have t:Hid (∃q:Nat,q<=n/\Value.int .i64 ((k:Int)+1)=.int .i64 q/\Value.int .i64 (vl (a.take k)*10+a.getD k 0)=.int .i64 (vl (a.take q))):=⟨k+1,by omega,by go_num,by rw[m.out k e]⟩;generalize vl (a.take k)=N at*
   generalize a.getD k 0=d at*
   go_wp2;go_round;case rel=>exact t
   case measure=>simp[intOf];omega
  ·obtain rfl:k=n:=by omega
   rw[l];go_wp2;go_ret2;exact⟨rfl,rfl⟩
theorem jL(g o b:Nat)(x y z:Int)(w:AA)(h:0<=x/\x<=9)(j:0<=y/\y<=9)(k:0<=z/\z<=9)(c:w.cell? ⟨g,o,none⟩=some (.int .i64 x))(d:w.cell? ⟨g,o+1,none⟩=some (.int .i64 y))(e:w.cell? ⟨g,o+2,none⟩=some (.int .i64 z)):
 cE 311 #[.slice (some ⟨g,o,none⟩) 3 b] w (.tuple #[.int .i64 (x*100+y*10+z),.bool true]):=by
 have f:Mg w g o [x,y,z]:=λi a=>by
  match i,a with
  |0,_=>exact c
  |1,_=>exact d
  |2,_=>exact e
 have:=S0 g o b [x,y,z] w f (by simp) (PX _ _ _ λi a=>by
  match i,a with
  |0,_=>simp;omega
  |1,_=>simp;omega
  |2,_=>simp;omega)
 rw[show vl [x,y,z]=x*100+y*10+z by simp[vl,lv];omega] at this;exact this
theorem Vt(a:AG)(b:mg a=true):a.length<=33/\a.length%3=0/\Ma 0 9 a=true:=by
 unfold mg at b;rw[Bool.and_eq_true] at b;have h:=of_decide_eq_true b.1;exact⟨h.1,h.2,b.2⟩
theorem ib(a:AG)(b:Ma 0 9 a=true)(i:Nat):0<=a.getD i 0/\a.getD i 0<=9:=by
 by_cases c:i<a.length
 ·exact Ts _ _ a b i c
 ·rw[List.getD,List.getElem?_eq_none (by omega)];simp
theorem Iv(g o b:Nat)(a:AG)(w:AA)(E:Dr w)(h:Mg w g o a)(v:g<w.heap.size)(aw:a.length<=b)(ax:b<=9223372036854775807)(s:mg a=true):
 Calls prog 281 #[.slice (some ⟨g,o,none⟩) a.length b] w λe F=>∃u,e=.returned (.tuple #[u,.bool true])/\Bs F w.heap.size u (Iq a (a.length/3))/\AD w.heap.size w F:=by
 obtain⟨X,Y,Z,aa,ab⟩:=info_parts Jq;obtain⟨h1,h2,x⟩:=Vt a s;obtain⟨M,hM⟩:∃M,a.length=3*M:=⟨a.length/3,by omega⟩;rw[show a.length/3=M by omega];have y:=zq (ib a x);have z:Hid (∀i,i<a.length->w.cell? ⟨g,o+i,none⟩=some (.int .i64 (a.getD i 0))):=h;have HL:=zq (Dw a);have HT:Hid (Dr w):=E;have G:Hid (cE 310 #[.slice (some ⟨g,o,none⟩) a.length b,.int .i64 0,.int .i64 9] w (.bool true)):=by
  have:=Ih g o b a 0 9 w h (by omega);rw[x] at this;exact this
 obtain⟨H,ag,f,I⟩:=run_make_own (P:=prog) w w.heap.size 80 2 X (.int .i64 0) 1 underlying80 Y Z aa .i64 .i64 M (by rw[ab];omega) (by unfold maxLen;omega) (AS _);have J:Hid (Bs H w.heap.size (.slice (some ⟨w.heap.size,0,none⟩) 0 M) []/\AD w.heap.size w H):=⟨⟨f,by simp⟩,Below.grown (BI _ _) I (AS _) (λk s=>by cases s)⟩;have az:¬(33:Int)<(a.length:Int):=by omega
 have ah:Int.tmod (a.length:Int) 3=0:=by rw[Int.tmod_eq_emod_of_nonneg (by omega)];omega
 have ai:Int.tdiv (a.length:Int) 3=(M:Int):=by rw[Int.tdiv_eq_ediv_of_nonneg (by omega)];omega
 obtain⟨aA,aB⟩:a.length<=3*M/\3*M<=a.length:=by omega
 clear h s h2 x hM E f I;generalize a.length=n at*
 go_enter func281,ntmps281;go_wp2_with fail;refine cm G λl A=>?_;subst A;go_wp2;clear G ag ah ai;go_loopw [4,5] (λu i wr=>∃j:Nat,j<=M/\i=.int .i64 ((3*j:Nat):Int)/\Hid (Bs wr l.heap.size u (Iq a j))/\Hid (AD l.heap.size l wr)) (λ_ i _=>n-(intOf i).toNat);case atStart=>exact⟨0,B9 _,rfl,J.1,J.2⟩
 case round=>
  obtain⟨j,hj,rfl,f,d⟩:=hrel;by_cases aD:j<M
  ·obtain⟨K,t⟩:=zxe (3*j);have L:=(d.out.cell (p:=⟨g,o+K,none⟩) v).trans (z.out K (by omega));have N:=(d.out.cell (p:=⟨g,o+(K+1),none⟩) v).trans (z.out (K+1) (by omega));have O:=(d.out.cell (p:=⟨g,o+(K+2),none⟩) v).trans (z.out (K+2) (by omega));have d0:=y K;have d1:=y (K+1);have d2:=y (K+2);have Q:Hid (Iq a (j+1)=Iq a j++[E0 (a.getD K 0*100+a.getD (K+1) 0*10+a.getD (K+2) 0)]):=by rw[<-t];rfl
   have aE:=HL j;generalize a.getD K 0=m at*
   generalize a.getD (K+1) 0=q at*
   generalize a.getD (K+2) 0=r at*
   generalize Iq a j=P0 at*
   have an:=d.size;obtain⟨aF,aG⟩:(K:Int)<(n:Int)/\(K:Int)+3<=(n:Int):=by omega
   obtain⟨aH,aI⟩:¬(b:Int)<(K:Int)+3/\¬b=K:=by omega
   have aJ:¬(b:Int)=(K:Int):=by omega
   have R:Hid (∀c,cE 311 #[.slice (some ⟨g,o+K,none⟩) 3 c] wr (.tuple #[.int .i64 (m*100+q*10+r),.bool true])):=λc=>jL g (o+K) c m q r wr d0 d1 d2 L N O;have S:Hid (cB 312 #[.int .i64 (m*100+q*10+r)] wr (.int .i64 (E0 (m*100+q*10+r)))):=(HT.out.below d.out (AS _)).declet _;rw[t];have HK:=zq t;clear t L N O;generalize E0 (m*100+q*10+r)=D at*
   go_wp2_with fail;refine cm (R _) λw3 A=>?_;subst A;go_wp2_with fail;refine cm S λT B=>?_;have U:=f.below B (AS _);have C:=zq (d.trans (B.mono an));have ap:=C.size;clear f d B R S;go_wp2_with (first|(at_builtin;refine A7 rfl _ _ rfl _ _ rfl rfl l.heap.size T.heap.size P0 [D] (U.alloc _) (DZ T D) (by simp;omega) (by simp<;>omega) ?_)|go_in);intro v6 w6 V W;have H6:Hid (Bs w6 l.heap.size v6 (Iq a (j+1))):=by rw[Q];exact V
   have av:=zq (W _ _ (C.alloc ap _) (AS _));clear V W Q U C;go_wp2;go_roundw;case rel=>exact⟨j+1,by omega,Ln.val_int (by have:=HK.out;omega),H6,av⟩
   case measure=>simp[intOf];omega
  ·obtain rfl:j=M:=by omega
   have aL:¬(((3*j:Nat):Int)<(n:Int)):=by omega
   go_wp2;go_ret2;exact⟨_,rfl,f,d⟩
theorem G3{w:AA}{base:Nat}{v:AK}{zs:AG}(h:Bs w base v zs):∃g a,v=.slice (some ⟨g,0,none⟩) zs.length a/\base<=g/\g<w.heap.size/\zs.length<=a/\a<=9223372036854775807/\∀i,i<zs.length->w.cell? ⟨g,i,none⟩=some (.int .i64 (zs.getD i 0)):=by
 obtain⟨g,a,e,c,d,f⟩:=h.form;obtain⟨m,j⟩:=h.1;rcases j with⟨b,-⟩|⟨n,o,p,b,-,-,k,l,-,-⟩
 ·exact absurd b h.2
 ·rw[e] at b;cases b
  unfold maxLen at l;exact⟨g,a,e,c,d,k,by omega,f⟩
def FW(w:AA)(b:Bool)(E:Int)(s:AB)(g:Nat)(F:Int)(D:AG)(a:AA)(d c:Nat):Prop:=
 AD (w.heap.size+2) (Je w 1 b E s) a/\a.cell? ⟨d,0,none⟩=some (.int .i64 F)/\w.heap.size+2<=c/\c<a.heap.size/\∀i,i<g->a.cell? ⟨c,i,none⟩=some (.int .i64 (D.getD i 0))
theorem FW.next{w c d:AA}{b:Bool}{E:Int}{s:AB}{g:Nat}{F:Int}{D:AG}{e f:Nat}(h:FW w b E s g F D c e f)(a:AD c.heap.size c d):FW w b E s g F D d e f:=
 ⟨DX h.1 a,Bc a h.2.1,h.2.2.1,DU h.2.2.2.1 a.size,λi j=>Bc a (h.2.2.2.2 i j)⟩
theorem FW.drew{w a:AA}{b:Bool}{E:Int}{s:AB}{g:Nat}{F:Int}{D:AG}{c d:Nat}(h:FW w b E s g F D a c d):FW w b E s g F D a.drew c d:=h.next (BI _ _).drew
theorem FW.fin{w a:AA}{b:Bool}{E:Int}{s:AB}{g:Nat}{F:Int}{D:AG}{f c:Nat}(h:FW w b E s g F D a f c)(x y z u:AK):F9 (Jy a (w.heap.size+1) x y z u) (w.heap.size+1) x y z u/\c<(Jy a (w.heap.size+1) x y z u).heap.size/\(∀i,i<g->(Jy a (w.heap.size+1) x y z u).cell? ⟨c,i,none⟩=some (.int .i64 (D.getD i 0)))/\AD w.heap.size w (Jy a (w.heap.size+1) x y z u):=by
 obtain⟨e,m,n,j,k⟩:=h;have d:c≠w.heap.size+1:=by omega
 exact⟨(YO e).put x y z u,by simpa[Jy] using j,λi l=>Bh d (Bh d (Bh d (Bh d (k i l)))),LP (K7 e) (by omega) x y z u⟩
theorem QO(S:AG)(m:Nat)(h:Au S)(c:S.length=3*m+1)(d:m<=11):mg (S.drop 1)=true/\(S.drop 1).length=3*m:=by
 have a:(S.drop 1).length=3*m:=by rw[List.length_drop];omega
 refine⟨?_,a⟩;unfold mg;rw[Bz (by rw[a];omega),Bool.true_and];refine PX _ _ _ λi b=>?_;have:(S.drop 1).getD i 0∈S:=by
  rw[List.getD,Dq b];exact List.mem_of_mem_drop (List.getElem_mem b)
 exact h _ this
theorem GP(S:AG)(i:Nat):(S.drop 1).getD i 0=S.getD (1+i) 0:=by rw[Nat.add_comm 1 i];simp[List.getD,List.getElem?_drop]
theorem Zf(n:Nat)(h:n<=64):(2:Int)^n<=18446744073709551616:=by
 obtain⟨d,c⟩:∃d,64=n+d:=⟨64-n,by omega⟩;have e:(18446744073709551616:Int)=2^n*2^d:=by rw[<-Cv,<-c];decide
 rw[e];have a:=Ci n;have b:=Ci d;have:=NH (show(1:Int)<=2^d by omega) (CP a);omega
theorem jX(b:AG)(h:Pt b)(i k:Nat)(a:k<=64):0<=hb b i k/\hb b i k<18446744073709551616:=by
 have:=YT b h i k;have:=Zf k a;omega
theorem Ld(g o n k q:Nat)(b:AG)(w:AA)(p:n<=64)(e:Pt b)(f:∀i,i<n->w.cell? ⟨g,o+i,none⟩=some (.int .i64 (b.getD (q+i) 0))):
 cE 141 #[.slice (some ⟨g,o,none⟩) n k] w (.int .u64 (hb b q n)):=by
 have l:=zq f;have a:=zq e;clear f e;go_enter func141,ntmps141;go_wp2;go_loop [3,4] (λv i=>∃j:Nat,j<=n/\i=.int .i64 j/\v=.int .u64 (hb b q j)) (λ_ i=>n-(intOf i).toNat);case atStart=>exact⟨0,B9 _,rfl,rfl⟩
 case round=>
  obtain⟨j,r,rfl,rfl⟩:=hrel;by_cases m:j<n
  ·have s:(j:Int)<(n:Int):=by omega
   have c:=l j m;have d:=a (q+j);have x:=jX b a q j (by omega);have y:=jX b a q (j+1) (by omega);have h:Hid (hb b q (j+1)=hb b q j*2+b.getD (q+j) 0):=rfl;rw[h] at y;generalize hb b q j=X at*
   generalize b.getD (q+j) 0=D at*
   have t:IntKind.u64.wrap (X*2)=X*2:=by rw[IntKind.wrap_u64];omega
   have u:IntKind.u64.wrap D=D:=by rw[IntKind.wrap_u64];omega
   have z:IntKind.u64.wrap (X*2+D)=X*2+D:=by rw[IntKind.wrap_u64];omega
   clear x y d;go_wp2;go_round;case rel=>exact⟨j+1,by omega,by go_num,Ln.val_int h.symm⟩
   case measure=>simp[intOf];omega
  ·obtain rfl:j=n:=by omega
   go_wp2;go_ret;exact⟨rfl,rfl⟩
theorem GW(w:AA)(zs:AG)(h:zs.length<=1000):Bs (w.alloc (.cells (zs.map (Value.int .i64)).toArray 2)) w.heap.size (.slice (some ⟨w.heap.size,0,none⟩) zs.length zs.length) zs:=by
 refine⟨?_,by simp⟩;have:=World.ownsRow_lit (base:=w.heap.size) (e:=2) (size:=1) w (zs.map (Value.int .i64)).toArray zs.length (AS _) (by unfold maxLen;omega) (by simp);exact this
abbrev Fo(w:AA)(k:Int)(b:Bool)(e:Int)(s:AB):AA:=w.alloc (AY k b e s)
theorem RG(w:AA)(k:Int)(b:Bool)(e:Int)(s:AB):(Fo w k b e s).heap.size=w.heap.size+1:=by simp[Fo]
def Fy(w N wr:AA)(o:AK)(X:AG):Prop:=Bs wr (w.heap.size+1) o X/\AD (w.heap.size+1) N wr/\w.heap.size+1<=wr.heap.size
theorem Fy.app{w N wr a:AA}{o v:AK}{X Y:AG}(h:Fy w N wr o X)(b:Obj)(d:Bs a (w.heap.size+1) v (X++Y))(c:∀B w0,AD B w0 (wr.alloc b)->B<=w.heap.size+1->AD B w0 a):Fy w N a v (X++Y):=by
 have e:=c _ _ (h.2.1.alloc h.2.2 b) (AS _);have f:=(c (w.heap.size+1) (wr.alloc b) (BI _ _) (AS _)).size;refine⟨d,e,?_⟩;have:=h.2.2;simp at f;omega
theorem NX(w:AA)(k:Int)(b:Bool)(e:Int)(s:AB):(Fo w k b e s).cell? ⟨w.heap.size,0,none⟩=some (.int .i64 k)/\(Fo w k b e s).cell? ⟨w.heap.size,1,none⟩=some (.bool b)/\(Fo w k b e s).cell? ⟨w.heap.size,2,none⟩=some (.int .i64 e)/\(Fo w k b e s).cell? ⟨w.heap.size,3,none⟩=some (.string s):=by
 refine⟨?_,?_,?_,?_⟩<;>simp[Fo]
theorem Fy.cells{w wr:AA}{o:AK}{X:AG}{k:Int}{b:Bool}{e:Int}{s:AB}(h:Fy w (Fo w k b e s) wr o X):wr.cell? ⟨w.heap.size,0,none⟩=some (.int .i64 k)/\wr.cell? ⟨w.heap.size,1,none⟩=some (.bool b)/\wr.cell? ⟨w.heap.size,2,none⟩=some (.int .i64 e)/\wr.cell? ⟨w.heap.size,3,none⟩=some (.string s):=by
 obtain⟨c,d,f,g⟩:=NX w k b e s;have a:=h.2.1;exact⟨(a.cell (p:=⟨w.heap.size,0,none⟩) (by simp)).trans c,(a.cell (p:=⟨w.heap.size,1,none⟩) (by simp)).trans d,(a.cell (p:=⟨w.heap.size,2,none⟩) (by simp)).trans f,(a.cell (p:=⟨w.heap.size,3,none⟩) (by simp)).trans g⟩
theorem Fy.out{w wr:AA}{o:AK}{X:AG}{k:Int}{b:Bool}{e:Int}{s:AB}(h:Fy w (Fo w k b e s) wr o X):Bs wr w.heap.size o X/\AD w.heap.size w wr:=
 ⟨h.1.mono (by omega),bA.trans (h.2.1.mono (by omega))⟩
theorem Fy.start(w:AA)(k:Int)(b:Bool)(e:Int)(s:AB):Fy w (Fo w k b e s) ((Fo w k b e s).alloc (.cells #[] 2)) (.slice (some ⟨w.heap.size+1,0,none⟩) 0 0) []:=by
 have h:=Wa (Fo w k b e s);rw[RG] at h;refine⟨h,?_,by simp⟩;have:=(BI (Fo w k b e s).heap.size (Fo w k b e s)).alloc (AS _) (.cells #[] 2);rw[RG] at this;exact this
theorem KJ(k:Int)(b:Bool)(e:Int)(s:AB)(r g:Nat)(U:Int)(w:AA)(V:k=2\/k=3\/k=4)(hr:1<=r)(ad:r<=12)(hg:g<=11):
 Calls prog 142 #[AH k b e s,.int .i64 r,.int .i64 g,.int .i64 U] w λx K=>∃v,x=.returned v/\Bs K w.heap.size v (J3 k b r g)/\AD w.heap.size w K:=by
 have A:=zq (Fy.start w k b e s);have L:Hid (∀z,Bs (((Fo w k b e s).alloc (.cells #[] 2)).alloc (.cells #[.int .i64 z] 2)) (w.heap.size+1+1) (.slice (some ⟨w.heap.size+1+1,0,none⟩) 1 1) [z]):=λz=>by
  have:=DZ ((Fo w k b e s).alloc (.cells #[] 2)) z;simpa using this
 go_enter func142,ntmps142;go_upto_if 25 with fail;go_cut [9] (λo W=>Hid (Fy w (Fo w k b e s) W o [C4 b]));case first=>
  cases b
  ·go_wp2_with (first|(at_builtin;refine A7 rfl _ _ rfl _ _ rfl rfl (w.heap.size+1) (w.heap.size+1+1) [] [0] (A.1.alloc _) (L 0) (by simp) (by simp<;>omega) ?_)|go_in);intro v4 w4 B C;have J:=zq (A.app _ B C);clear B C A;go_wp2;go_meet;case rel=>exact J
  ·go_wp2_with (first|(at_builtin;refine A7 rfl _ _ rfl _ _ rfl rfl (w.heap.size+1) (w.heap.size+1+1) [] [1] (A.1.alloc _) (L 1) (by simp) (by simp<;>omega) ?_)|go_in);intro v4 w4 B C;have J:=zq (A.app _ B C);clear B C A;go_wp2;go_meet;case rel=>exact J
 case rest=>
  rcases V with rfl|rfl|rfl
  ·obtain⟨h,i,l,m⟩:=hcut.cells;have c:=zq hcut;clear hcut;go_wp2_with (first|(at_builtin;refine A7 rfl _ _ rfl _ _ rfl rfl (w.heap.size+1) wc.heap.size [C4 b] [1,1,1,1,0] (c.1.alloc _) (GW wc [1,1,1,1,0] (by decide)) (by simp) (by have:=c.2.2;simp<;>omega) ?_)|go_in);intro M N n p;have d:=zq (c.app _ n p);clear n p c h i l m;obtain⟨h,i,l,m⟩:=d.cells;have f:Hid (J3 2 b r g=([C4 b]++[1,1,1,1,0])++List.replicate (r+10*g) 0):=rfl;obtain⟨Z,q⟩:=zxe (r+10*g);rw[q] at f;have D:([C4 b]++[1,1,1,1,0]).length<=10:=by simp
   generalize [C4 b]++[1,1,1,1,0]=P at*
   obtain⟨O,Q⟩:((Z:Nat):Int)=r+10*g/\Z<=122:=by omega
   have R:P.length<=10:=D;clear q;go_wp2;go_loopw [9,10] (λo z wr=>∃j:Nat,j<=Z/\z=.int .i64 ((Z:Int)-j)/\Hid (Fy w (Fo w 2 b e s) wr o (P++List.replicate j 0))) (λ_ z _=>(intOf z).toNat);case atStart=>exact⟨0,B9 _,Ln.val_int (by omega),by show Fy _ _ _ _ _;simpa using d.out⟩
   case round=>
    obtain⟨j,S,rfl,a⟩:=hrel;by_cases T:j<Z
    ·have E:(0:Int)<(Z:Int)-j:=by omega
     have t:Hid (List.replicate (j+1) (0:Int)=List.replicate j 0++[0]):=List.replicate_succ';go_wp2_with (first|(at_builtin;refine A7 rfl _ _ rfl _ _ rfl rfl (w.heap.size+1) wr.heap.size (P++List.replicate j 0) [0] (a.1.alloc _) (DZ wr 0) (by simp;omega) (by have:=a.2.2;simp<;>omega) ?_)|go_in);intro F G u y;have H:Hid (Fy w (Fo w 2 b e s) G F (P++List.replicate (j+1) 0)):=by
      have:=a.app (X:=P++List.replicate j 0) (Y:=[0]) _ (by rw[List.append_assoc];exact u) y;rw[t,<-List.append_assoc];exact this
     clear u y t a d;go_wp2;go_roundw;case rel=>exact⟨j+1,by omega,Ln.val_int (by omega),H⟩
     case measure=>simp[intOf];omega
    ·obtain rfl:j=Z:=by omega
     have E:¬(0:Int)<(j:Int)-j:=by omega
     have I:Hid (Bs wr w.heap.size u9 (J3 2 b r g)/\AD w.heap.size w wr):=by rw[f.out];exact a.out.out
     clear a d f;go_wp2;go_ret;exact⟨_,rfl,I⟩
  ·obtain⟨h,i,l,m⟩:=hcut.cells;have c:=zq hcut;clear hcut;go_wp2_with (first|(at_builtin;refine A7 rfl _ _ rfl _ _ rfl rfl (w.heap.size+1) wc.heap.size [C4 b] [1,1,1,1,1,0] (c.1.alloc _) (GW wc [1,1,1,1,1,0] (by decide)) (by simp) (by have:=c.2.2;simp<;>omega) ?_)|go_in);intro M N n p;have d:=zq (c.app _ n p);clear n p c h i l m;obtain⟨h,i,l,m⟩:=d.cells;have f:Hid (J3 3 b r g=([C4 b]++[1,1,1,1,1,0])++List.replicate (r+10*g-1) 0):=rfl;obtain⟨Z,q⟩:=zxe (r+10*g-1);rw[q] at f;have D:([C4 b]++[1,1,1,1,1,0]).length<=10:=by simp
   generalize [C4 b]++[1,1,1,1,1,0]=P at*
   obtain⟨O,Q⟩:((Z:Nat):Int)=(r:Int)+10*g-1/\Z<=122:=by omega
   have R:P.length<=10:=D;clear q;go_wp2;go_loopw [9,10] (λo z wr=>∃j:Nat,j<=Z/\z=.int .i64 ((Z:Int)-j)/\Hid (Fy w (Fo w 3 b e s) wr o (P++List.replicate j 0))) (λ_ z _=>(intOf z).toNat);case atStart=>exact⟨0,B9 _,Ln.val_int (by omega),by show Fy _ _ _ _ _;simpa using d.out⟩
   case round=>
    obtain⟨j,S,rfl,a⟩:=hrel;by_cases T:j<Z
    ·have E:(0:Int)<(Z:Int)-j:=by omega
     have t:Hid (List.replicate (j+1) (0:Int)=List.replicate j 0++[0]):=List.replicate_succ';go_wp2_with (first|(at_builtin;refine A7 rfl _ _ rfl _ _ rfl rfl (w.heap.size+1) wr.heap.size (P++List.replicate j 0) [0] (a.1.alloc _) (DZ wr 0) (by simp;omega) (by have:=a.2.2;simp<;>omega) ?_)|go_in);intro F G u y;have H:Hid (Fy w (Fo w 3 b e s) G F (P++List.replicate (j+1) 0)):=by
      have:=a.app (X:=P++List.replicate j 0) (Y:=[0]) _ (by rw[List.append_assoc];exact u) y;rw[t,<-List.append_assoc];exact this
     clear u y t a d;go_wp2;go_roundw;case rel=>exact⟨j+1,by omega,Ln.val_int (by omega),H⟩
     case measure=>simp[intOf];omega
    ·obtain rfl:j=Z:=by omega
     have E:¬(0:Int)<(j:Int)-j:=by omega
     have I:Hid (Bs wr w.heap.size u9 (J3 3 b r g)/\AD w.heap.size w wr):=by rw[f.out];exact a.out.out
     clear a d f;go_wp2;go_ret;exact⟨_,rfl,I⟩
  ·obtain⟨h,i,l,m⟩:=hcut.cells;have c:=zq hcut;clear hcut;go_wp2_with (first|(at_builtin;refine A7 rfl _ _ rfl _ _ rfl rfl (w.heap.size+1) wc.heap.size [C4 b] [1,1,1,1,1,1] (c.1.alloc _) (GW wc [1,1,1,1,1,1] (by decide)) (by simp) (by have:=c.2.2;simp<;>omega) ?_)|go_in);intro M N n p;have d:=zq (c.app _ n p);clear n p c h i l m;obtain⟨h,i,l,m⟩:=d.cells;have f:Hid (J3 4 b r g=([C4 b]++[1,1,1,1,1,1])++List.replicate (r+10*g-1) 0):=rfl;obtain⟨Z,q⟩:=zxe (r+10*g-1);rw[q] at f;have D:([C4 b]++[1,1,1,1,1,1]).length<=10:=by simp
   generalize [C4 b]++[1,1,1,1,1,1]=P at*
   obtain⟨O,Q⟩:((Z:Nat):Int)=(r:Int)+10*g-1/\Z<=122:=by omega
   have R:P.length<=10:=D;clear q;go_wp2;go_loopw [9,10] (λo z wr=>∃j:Nat,j<=Z/\z=.int .i64 ((Z:Int)-j)/\Hid (Fy w (Fo w 4 b e s) wr o (P++List.replicate j 0))) (λ_ z _=>(intOf z).toNat);case atStart=>exact⟨0,B9 _,Ln.val_int (by omega),by show Fy _ _ _ _ _;simpa using d.out⟩
   case round=>
    obtain⟨j,S,rfl,a⟩:=hrel;by_cases T:j<Z
    ·have E:(0:Int)<(Z:Int)-j:=by omega
     have t:Hid (List.replicate (j+1) (0:Int)=List.replicate j 0++[0]):=List.replicate_succ';go_wp2_with (first|(at_builtin;refine A7 rfl _ _ rfl _ _ rfl rfl (w.heap.size+1) wr.heap.size (P++List.replicate j 0) [0] (a.1.alloc _) (DZ wr 0) (by simp;omega) (by have:=a.2.2;simp<;>omega) ?_)|go_in);intro F G u y;have H:Hid (Fy w (Fo w 4 b e s) G F (P++List.replicate (j+1) 0)):=by
      have:=a.app (X:=P++List.replicate j 0) (Y:=[0]) _ (by rw[List.append_assoc];exact u) y;rw[t,<-List.append_assoc];exact this
     clear u y t a d;go_wp2;go_roundw;case rel=>exact⟨j+1,by omega,Ln.val_int (by omega),H⟩
     case measure=>simp[intOf];omega
    ·obtain rfl:j=Z:=by omega
     have E:¬(0:Int)<(j:Int)-j:=by omega
     have I:Hid (Bs wr w.heap.size u9 (J3 4 b r g)/\AD w.heap.size w wr):=by rw[f.out];exact a.out.out
     clear a d f;go_wp2;go_ret;exact⟨_,rfl,I⟩
theorem Pm(X:AG):({data:=#[48]}:AB)++tx X=tx (0::X):=by
 have:({data:=#[48]}:AB)=tx [0]:=by apply De;rw[AR];rfl
 rw[this,Ax];rfl
theorem O8(j:Nat)(a:AG):(0:Int)::(List.replicate j 0++a)=List.replicate (j+1) 0++a:=by rw[List.replicate_succ];rfl
theorem Fy.drewN{w N wr:AA}{o:AK}{X:AG}(h:Fy w N wr o X)(n:Nat):Fy w N (wr.drewN n) o X:=⟨h.1,Go.below_drewN h.2.1 n,h.2.2⟩
theorem YS(x:Int)(j:Nat)(h:j<=9):(512:Int)/2^j=2^(9-j):=by
 obtain⟨d,a⟩:∃d,9=j+d:=⟨9-j,by omega⟩;have e:(512:Int)=2^d*2^j:=by rw[<-Cv,Nat.add_comm,<-a];decide
 rw[show 9-j=d by omega,e,Int.mul_ediv_cancel _ (Int.ne_of_gt (Ci j))]
theorem kI(e:Int)(r:Nat)(h:r<=12)(f:e<3*2^r):e<12288:=by
 obtain⟨d,c⟩:∃d,12=r+d:=⟨12-r,by omega⟩;have g:(4096:Int)=2^r*2^d:=by rw[<-Cv,<-c];decide
 have a:=Ci r;have b:=Ci d;have:=NH (show(1:Int)<=2^d by omega) (CP a);omega
theorem Qs(b:Bool)(E:Int)(c:AG)(r g:Nat)(d:Int)(w:AA)(hr:1<=r)(aW:r<=12)(hg:g<=11)(hc:AJ c)(hl:c.length<=3*g+1)(e0:0<=E+d)(e1:E+d<3*2^r):
 Calls prog 142 #[AH 1 b E (tx c),.int .i64 r,.int .i64 g,.int .i64 d] w λx w'=>∃v,x=.returned v/\Bs w' w.heap.size v (Mq b (E+d) (BD (3*g+1) c) r g)/\AD w.heap.size w w':=by
 have A:=zq (Fy.start w 1 b E (tx c));have HL:Hid (∀z,Bs (((Fo w 1 b E (tx c)).alloc (.cells #[] 2)).alloc (.cells #[.int .i64 z] 2)) (w.heap.size+1+1) (.slice (some ⟨w.heap.size+1+1,0,none⟩) 1 1) [z]):=λz=>by
  have:=DZ ((Fo w 1 b E (tx c)).alloc (.cells #[] 2)) z;simpa using this
 have HC:=zq hc;have Hp:=zq hc.2.1;have he:E+d<12288:=kI _ r aW e1;have hh:0<=(E+d)/2^r/\(E+d)/2^r<=2:=kJ _ r e0 e1;have Hh:=zq hh;have bG:IntKind.i64.wrap (E+d)=E+d:=Dn (by omega);have HS:Hid (∀(k:Int) X,cE 198 #[.int .i64 k] X (.int .i64 (E0 k))):=λk X=>Rw k X;clear hc e1 hh;go_enter func142,ntmps142;go_upto_if 25 with fail;go_cut [9] (λo wx=>Hid (Fy w (Fo w 1 b E (tx c)) wx o [C4 b]));case first=>
  cases b
  ·go_wp2_with (first|(at_builtin;refine A7 rfl _ _ rfl _ _ rfl rfl (w.heap.size+1) (w.heap.size+1+1) [] [0] (A.1.alloc _) (HL 0) (by simp) (by simp<;>omega) ?_)|go_in);intro v4 w4 M N;have H4:=zq (A.app _ M N);clear M N A;go_wp2;go_meet;case rel=>exact H4
  ·go_wp2_with (first|(at_builtin;refine A7 rfl _ _ rfl _ _ rfl rfl (w.heap.size+1) (w.heap.size+1+1) [] [1] (A.1.alloc _) (HL 1) (by simp) (by simp<;>omega) ?_)|go_in);intro v4 w4 M N;have H4:=zq (A.app _ M N);clear M N A;go_wp2;go_meet;case rel=>exact H4
 case rest=>
  obtain⟨c0,c1,c2,c3⟩:=hcut.cells;have p:=zq hcut;clear hcut A HL;have hds:=AE c;go_wp2;go_loop [11] (λs=>∃j:Nat,j+c.length<=3*g+1/\s=.string (tx (List.replicate j 0++c))) (λs=>3*g+1-Gr s);case atStart=>exact⟨0,by omega,rfl⟩
  case round=>
   obtain⟨j,hj,rfl⟩:=hrel;have B:(tx (List.replicate j 0++c)).size=j+c.length:=by rw[AE];simp
   by_cases J:j+c.length<3*g+1
   ·obtain⟨h1,h2⟩:((tx (List.replicate j 0++c)).size:Int)<3*(g:Int)+1/\((tx (List.replicate j 0++c)).size:Int)<=8388608:=by omega
    have hap:=Pm (List.replicate j 0++c);rw[O8] at hap;have hm:Hid (3*g+1-Gr (.string (tx (List.replicate (j+1) 0++c)))<3*g+1-Gr (.string (tx (List.replicate j 0++c)))):=by
     have a:Gr (.string (tx (List.replicate (j+1) 0++c)))=j+1+c.length:=by show(tx _).size=_;rw[AE];simp
     have b:Gr (.string (tx (List.replicate j 0++c)))=j+c.length:=B;rw[Hid,a,b];omega
    clear B;go_wp2;go_round;case rel=>exact⟨j+1,by omega,rfl⟩
    case measure=>exact hm
   ·have ej:j=3*g+1-c.length:=by omega
    have HP:Hid (List.replicate j 0++c=BD (3*g+1) c):=by rw[ej];rfl
    rw[HP] at B ⊢;have u:Hid (Au (BD (3*g+1) c)):=EO _ _ HC.out.1;clear HP ej HC;generalize aI:BD (3*g+1) c=S at*
    have a5:=zq aI;clear aI;have Hz:Hid ((tx S).size=3*g+1):=by rw[Hid,B];omega
    obtain⟨h1,O⟩:¬((tx S).size:Int)<3*(g:Int)+1/\0<(tx S).size:=by omega
    have Q:=C7 S u 0 O;have R:=Ah S u 0;clear B hds hj J Hp hl;obtain⟨F,hF⟩:=zxe (S.getD 0 0);rw[hF] at Q R;have wF:IntKind.u8.wrap ((((tx S)[0]'O).toNat:Int)-48)=F:=by rw[IntKind.wrap_u8,Q];omega
    clear Q;have a8:IntKind.i64.wrap F=F:=Dn (by omega);have ao:Hid (∀q,0<=(E+d)/2^q/\(E+d)/2^q<12288):=λq=>by
     have a:=Int.ediv_nonneg e0 (CP (Ci q));have b:=Int.ediv_le_self (2^q) e0;omega
    have Z:=zq hF;clear hF;go_wp2;go_loop [14,15] (λh i=>∃j:Nat,j<=r/\i=.int .i64 j/\h=.int .i64 ((E+d)/2^j)) (λ_ i=>r-(intOf i).toNat);case atStart=>exact⟨0,B9 _,rfl,Ln.val_int (by simp)⟩
    case round=>
     obtain⟨j,hj,rfl,rfl⟩:=hrel;by_cases J:j<r
     ·have aa:(j:Int)<(r:Int):=by omega
      have C:=ao j;have y:Hid ((E+d)/2^(j+1)=(E+d)/2^j/2):=Dv _ j;generalize (E+d)/2^j=X at*
      have m2:Int.tdiv X 2=X/2:=Int.tdiv_eq_ediv_of_nonneg C.1;have w3:IntKind.i64.wrap (X/2)=X/2:=Dn (by omega);clear C;go_wp2;go_round;case rel=>exact⟨j+1,by omega,by go_num,Ln.val_int y.symm⟩
      case measure=>simp[intOf];omega
     ·obtain rfl:j=r:=by omega
      have hH:=Hh.out;obtain⟨H,aq⟩:=zxe ((E+d)/2^j);have aJ:=zq aq;rw[aq] at hH ⊢;clear aq Hh J hj;go_upto_if 101 with fail;go_cut [9] (λo wx=>Hid (Fy w (Fo w 1 b E (tx c)) wx o ([C4 b]++Py H F)));case first=>
       have q1:Int.tdiv H 2=H/2:=Int.tdiv_eq_ediv_of_nonneg hH.1;have q2:Int.tmod H 2=H%2:=Int.tmod_eq_emod_of_nonneg hH.1;have q3:Int.tdiv F 4=F/4:=Int.tdiv_eq_ediv_of_nonneg R.1;have q4:Int.tdiv F 2=F/2:=Int.tdiv_eq_ediv_of_nonneg R.1;have q5:Int.tmod F 2=F%2:=Int.tmod_eq_emod_of_nonneg R.1;have q6:Int.tmod (F/2) 2=F/2%2:=Int.tmod_eq_emod_of_nonneg (by omega);have w1:IntKind.i64.wrap (H/2)=H/2:=Dn (by omega);have w2:IntKind.i64.wrap (H%2)=H%2:=Dn (by omega);have w3:IntKind.i64.wrap (F/4)=F/4:=Dn (by omega);have w4:IntKind.i64.wrap (F/2)=F/2:=Dn (by omega);have w5:IntKind.i64.wrap (F%2)=F%2:=Dn (by omega);have w6:IntKind.i64.wrap (F/2%2)=F/2%2:=Dn (by omega);have w7:IntKind.i64.wrap (F-8)=F-8:=Dn (by omega);by_cases hf:F<8
       ·have T:Hid (Py H F=[H/2,H%2,F/4,F/2%2,F%2]):=by unfold Py;rw[zyp hf];rfl
        go_wp2_with (first|(at_builtin;refine A7 rfl _ _ rfl _ _ rfl rfl (w.heap.size+1) wc.heap.size [C4 b] [H/2,H%2,F/4,F/2%2,F%2] (p.1.alloc _) (GW wc [H/2,H%2,F/4,F/2%2,F%2] (by simp)) (by simp) (by have:=p.2.2;simp<;>omega) ?_)|go_in);intro v5 w5 U V;have L:Hid (Fy w (Fo w 1 b E (tx c)) w5 v5 ([C4 b]++Py H F)):=by rw[T];exact p.app _ U V
        clear U V p T;go_wp2;go_meet;case rel=>exact L
       ·have T:Hid (Py H F=[1,1,H/2,H%2,F-8]):=by unfold Py;rw[zyn hf];rfl
        go_wp2_with (first|(at_builtin;refine A7 rfl _ _ rfl _ _ rfl rfl (w.heap.size+1) wc.heap.size [C4 b] [1,1,H/2,H%2,F-8] (p.1.alloc _) (GW wc [1,1,H/2,H%2,F-8] (by simp)) (by simp) (by have:=p.2.2;simp<;>omega) ?_)|go_in);intro v5 w5 U V;have L:Hid (Fy w (Fo w 1 b E (tx c)) w5 v5 ([C4 b]++Py H F)):=by rw[T];exact p.app _ U V
        clear U V p T;go_wp2;go_meet;case rel=>exact L
      case rest=>
       have L:Hid (Fy w (Fo w 1 b E (tx c)) wc u9 ([C4 b]++Py H F)):=hcut;have hP:([C4 b]++Py H F).length=6:=by rw[Dc,Oa];rfl
       have HR:Hid (Mq b (E+d) (BD (3*g+1) c) j g=([C4 b]++Py H F)++bl (E+d) j j++Pz S g):=by
        unfold Mq;rw[a5,Z,aJ];rfl
       clear hcut aJ Z wF a8 R hH;generalize [C4 b]++Py H F=P at*
       go_wp2;go_loopw [9,16] (λo i wr=>∃q:Nat,q<=j/\i=.int .i64 ((j:Int)-1-q)/\Hid (Fy w (Fo w 1 b E (tx c)) wr o (P++bl (E+d) j q))) (λ_ i _=>(intOf i+1).toNat);case atStart=>exact⟨0,B9 _,Ln.val_int (by simp),by show Fy _ _ _ _ _;simpa[bl] using L.out⟩
       case round=>
        clear L;obtain⟨q,hq,rfl,e⟩:=hrel;by_cases J:q<j
        ·have h1:(0:Int)<=(j:Int)-1-q:=by omega
         go_wp2;go_loop [17,18] (λx i=>∃t:Nat,t+q+1<=j/\i=.int .i64 t/\x=.int .i64 ((E+d)/2^t)) (λ_ i=>j-(intOf i).toNat);case atStart=>exact⟨0,by omega,rfl,Ln.val_int (by simp)⟩
         case round=>
          obtain⟨t,Q,rfl,rfl⟩:=hrel;have C:=ao t;by_cases bc:t+q+1<j
          ·have aa:(t:Int)<(j:Int)-1-q:=by omega
           have y:Hid ((E+d)/2^(t+1)=(E+d)/2^t/2):=Dv _ t;generalize (E+d)/2^t=X at*
           have m2:Int.tdiv X 2=X/2:=Int.tdiv_eq_ediv_of_nonneg C.1;have w3:IntKind.i64.wrap (X/2)=X/2:=Dn (by omega);clear C;go_wp2;go_round;case rel=>exact⟨t+1,by omega,by go_num,Ln.val_int y.symm⟩
           case measure=>simp[intOf];omega
          ·have aa:¬(t:Int)<(j:Int)-1-q:=by omega
           have y:Hid (bl (E+d) j (q+1)=bl (E+d) j q++[(E+d)/2^t%2]):=by rw[Hid,show t=j-1-q by omega];rfl
           have av:=Ek (E+d) j q;generalize (E+d)/2^t=X at*
           have m2:Int.tmod X 2=X%2:=Int.tmod_eq_emod_of_nonneg C.1;have w3:=zw (X%2) (by omega);clear C;go_wp2_with (first|(at_builtin;refine A7 rfl _ _ rfl _ _ rfl rfl (w.heap.size+1) wr.heap.size (P++bl (E+d) j q) [X%2] (e.1.alloc _) (DZ wr _) (by simp[hP,av];omega) (by have:=e.2.2;simp<;>omega) ?_)|go_in);intro v6 w6 G W;have H6:Hid (Fy w (Fo w 1 b E (tx c)) w6 v6 (P++bl (E+d) j (q+1))):=by
            have:=e.app (X:=P++bl (E+d) j q) (Y:=[X%2]) _ (by first|exact G|(rw[List.append_assoc];exact G)) W;rw[y,<-List.append_assoc];exact this
           clear G W y e;go_wp2;go_roundw;case rel=>exact⟨q+1,by omega,Ln.val_int (by omega),H6⟩
           case measure=>simp[intOf];omega
        ·obtain rfl:q=j:=by omega
         have h1:¬(0:Int)<=(q:Int)-1-q:=by omega
         have bT:(P++bl (E+d) q q).length<=18:=by rw[Dc,Ek,hP];omega
         clear ao hP J hq;generalize P++bl (E+d) q q=I at*
         go_wp2;go_loopw [9,19] (λo i wr=>∃t:Nat,t<=g/\i=.int .i64 t/\Hid (∃n,wr.drawn=n)/\Hid (Fy w (Fo w 1 b E (tx c)) wr o (I++Pz S t))) (λ_ i _=>g-(intOf i).toNat);case atStart=>exact⟨0,B9 _,rfl,⟨_,rfl⟩,by show Fy _ _ _ _ _;simpa[Pz] using e.out⟩
         case round=>
          clear e;obtain⟨t,Q,rfl,-,e⟩:=hrel;by_cases J:t<g
          ·have aa:(t:Int)<(g:Int):=by omega
           obtain⟨K,hK⟩:=zxe (1+3*t);have bU:(1:Int)+3*(t:Int)=(K:Int):=by omega
           have B:=Hz.out;obtain⟨k0,k1⟩:K<(tx S).size/\K+1<(tx S).size:=by omega
           obtain⟨k2,bV⟩:K+2<(tx S).size/\K<=40:=by omega
           have z0:=C7 S u K k0;have z1:=C7 S u (K+1) k1;have z2:=C7 S u (K+2) k2;have d0:=Ah S u K;have d1:=Ah S u (K+1);have d2:=Ah S u (K+2);have y:Hid (Pz S (t+1)=Pz S t++bl (E0 (S.getD K 0*100+S.getD (K+1) 0*10+S.getD (K+2) 0)) 10 10):=by rw[<-hK];rfl
           have bW:(I++Pz S t).length<=130:=by rw[Dc,Ob];omega
           clear B hK;generalize S.getD K 0=f at*
           generalize S.getD (K+1) 0=l at*
           generalize S.getD (K+2) 0=m at*
           have a0:IntKind.u8.wrap ((((tx S)[K]'k0).toNat:Int)-48)=f:=by rw[IntKind.wrap_u8,z0];omega
           have a1:IntKind.u8.wrap ((((tx S)[K+1]'k1).toNat:Int)-48)=l:=by rw[IntKind.wrap_u8,z1];omega
           have a2:IntKind.u8.wrap ((((tx S)[K+2]'k2).toNat:Int)-48)=m:=by rw[IntKind.wrap_u8,z2];omega
           clear z0 z1 z2;have b0:=zw f (by omega);have b1:=zw l (by omega);have b2:=zw m (by omega);have y0:=zw (f*100) (by omega);have y1:=zw (l*10) (by omega);have y2:=zw (f*100+l*10) (by omega);have y3:=zw (f*100+l*10+m) (by omega);have bt:=zw ((K:Int)+1) (by omega);have bu:=zw ((K:Int)+2) (by omega);obtain⟨bX,bY⟩:(K:Int)<((tx S).size:Int)/\(K:Int)+1<((tx S).size:Int):=by omega
           obtain⟨bZ,hp0⟩:(K:Int)+2<((tx S).size:Int)/\(0:Int)<=(K:Int):=by omega
           obtain⟨hp1,hp2⟩:(0:Int)<=(K:Int)+1/\(0:Int)<=(K:Int)+2:=by omega
           obtain⟨b3,b5⟩:((K:Int)+1).toNat=K+1/\((K:Int)+2).toNat=K+2:=by omega
           have HX:Hid (cF 198 #[.int .i64 (f*100+l*10+m)] (.int .i64 (E0 (f*100+l*10+m)))):=λX=>HS _ X;have hD:0<=E0 (f*100+l*10+m)/\E0 (f*100+l*10+m)<=1023:=by
            have:=QJ (f*100+l*10+m) (by omega) (by omega);omega
           generalize E0 (f*100+l*10+m)=D at*
           go_wp2;go_quiet (first|(go_at_call 198;refine Calls.quiet_of_same (HX _)));go_wp2;clear a0 a1 a2 b0 b1 b2 y0 y1 y2 y3 bt bu HX d0 d1 d2;go_loopw [9,22] (λo k bv=>∃n:Nat,n<=10/\k=.int .i64 (512/2^n)/\Hid (Fy w (Fo w 1 b E (tx c)) bv o ((I++Pz S t)++bl D 10 n))) (λ_ k _=>(intOf k).toNat);case atStart=>exact⟨0,B9 _,Ln.val_int (by decide),by show Fy _ _ _ _ _;simpa[bl] using e.drewN _⟩
           case round=>
            clear e;obtain⟨n,hn,rfl,e⟩:=hrel;by_cases bc:n<10
            ·have hX:(512:Int)/2^n=2^(9-n):=YS 0 n (by omega);have aA:=Ci (9-n);have aU:Hid (bl D 10 (n+1)=bl D 10 n++[D/(512/2^n)%2]):=by rw[Hid,hX];rfl
             have bx:Hid ((512:Int)/2^n<=512):=Int.ediv_le_self _ (by decide);have bB:=zq (Dv 512 n);rw[<-hX] at aA;clear hX;generalize (512:Int)/2^n=X at*
             have aV:0<=D/X/\D/X<=D:=⟨Int.ediv_nonneg hD.1 (CP aA),Int.ediv_le_self X hD.1⟩;have m1:Int.tdiv D X=D/X:=Int.tdiv_eq_ediv_of_nonneg hD.1;have m2:Int.tmod (D/X) 2=D/X%2:=Int.tmod_eq_emod_of_nonneg aV.1;have m3:Int.tdiv X 2=X/2:=Int.tdiv_eq_ediv_of_nonneg (CP aA);have b9:(X==0)=false:=by simp;omega
             have ca:X/2<X:=by omega
             have av:=Ek D 10 n;have cb:X<=512:=bx;have w1:=zw (D/X) (by omega);have w2:=zw (D/X%2) (by omega);have w3:IntKind.i64.wrap (X/2)=X/2:=Dn (by omega);clear aV;go_wp2_with (first|(at_builtin;refine A7 rfl _ _ rfl _ _ rfl rfl (w.heap.size+1) wr.heap.size ((I++Pz S t)++bl D 10 n) [D/X%2] (e.1.alloc _) (DZ wr _) (by rw[Dc,av];simp only[List.length_singleton];omega) (by have:=e.2.2;simp<;>omega) ?_)|go_in);intro v6 w6 G W;have H6:Hid (Fy w (Fo w 1 b E (tx c)) w6 v6 ((I++Pz S t)++bl D 10 (n+1))):=by
              have:=e.out.app (X:=(I++Pz S t)++bl D 10 n) (Y:=[D/X%2]) _ (by first|exact G.out|(simpa only[List.append_assoc] using G.out)) W.out;rw[aU,<-List.append_assoc];exact this
             clear G W aU e;go_wp2;go_roundw;case rel=>exact⟨n+1,by omega,Ln.val_int bB.symm,H6⟩
             case measure=>simp[intOf];omega
            ·obtain rfl:n=10:=by omega
             have O:(512:Int)/2^10=0:=by decide
             rw[O];have HB:Hid (Fy w (Fo w 1 b E (tx c)) wr u9 (I++Pz S (t+1))):=by
              rw[y,<-List.append_assoc];exact e
             clear e O;go_wp2;go_roundw;case rel=>exact⟨t+1,by omega,by go_num,⟨_,rfl⟩,HB⟩
             case measure=>simp[intOf];omega
          ·obtain rfl:t=g:=by omega
           have aa:¬(t:Int)<(t:Int):=by omega
           have Z:Hid (Bs wr w.heap.size u9 (Mq b (E+d) (BD (3*t+1) c) q t)/\AD w.heap.size w wr):=by rw[HR.out];exact e.out.out
           clear e HR;go_wp2;go_ret;exact⟨_,rfl,Z⟩
end Go.Proofs.YteofommckgeemaaGreatDoor
