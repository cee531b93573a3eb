/- Steps. -/
import Derived.Test.YteofommckgeemaaGreatDoorEAW
namespace Go.Proofs.YteofommckgeemaaGreatDoor
open Go.RowKit Go.Proofs.Tryz
set_option linter.unusedVariables false
set_option linter.unusedSimpArgs false
set_option maxRecDepth 100000
set_option maxHeartbeats 8000000
theorem Sf(k:Int)(w:AA):(Instr.build 78 #[(0,.int .i64 k)]).run prog w=.ok (AH k false 0 {data:=#[]}) w:=run_build w _ _ _ (by kernel_rfl)
theorem RJ(s:AB)(h:0<s.size):s.toList.isEmpty=false:=by
 cases hc:s.toList.isEmpty with
 |false=>rfl
 |true=>
  rw[ByteArray.toList_eq,List.isEmpty_iff] at hc;have:s.data.toList.length=s.size:=Array.length_toList;rw[hc] at this;simp at this;omega
theorem oI(b:UInt8):((b.toNat:Int)==45)=decide (b=45):=by
 by_cases h:b=45
 ·subst h;rfl
 ·rw[By h];exact beq_eq_false_iff_ne.2 (λq=>h (UInt8.toNat_inj.1 (by show b.toNat=45;omega)))
theorem gV(f:Int)(h:¬(f=64\/f=128)):AF f=0:=by unfold AF;rw[zyn (λq=>h (.inl q)),zyn (λq=>h (.inr q))]
theorem Q1(f:Int)(h:f=64\/f=128):AF f=16\/AF f=34:=by
 rcases h with rfl|rfl
 ·exact .inl rfl
 ·exact .inr rfl
theorem R1(f m:Int)(s:AB)(w:AA)(o:s.size<=4611686018427387904)(h:¬((f=64\/f=128)/\(1<=m/\m<=5)/\s.size<=200)):
 cB 53 #[.int .i64 f,.int .i64 m,.string s] w (.tuple #[BA 0 false 0 {data:=#[]} 0,.bool false]):=by
 by_cases c:f=64\/f=128
 ·obtain⟨p,j,r⟩:∃p,AF f=p/\p≠0:=⟨_,rfl,by rcases Q1 f c with q|q<;>rw[q]<;>decide⟩;have g:Hid (cF 50 #[.int .i64 f] (.tuple #[.int .i64 p,.int .i64 (AV f),.int .i64 (Ad f)])):=λX=>by rw[<-j];exact Ag f X
  by_cases d:1<=m/\m<=5
  ·have k:Hid (cF 51 #[.int .i64 m] (.bool true)):=λX=>by have:=Cq m X;rwa[Bz d] at this
   have t:(200:Int)<(s.size:Int):=by
    rcases Nat.lt_or_ge 200 s.size with q|q
    ·omega
    ·exact absurd ⟨c,d,q⟩ h
   clear d c h j;have a:Hid (Z5 (w.alloc A2) w.heap.size/\AD w.heap.size w (w.alloc A2)):=⟨Af w (.int .i64 0) (.bool false) (.int .i64 0) (.string ⟨#[]⟩) (.int .i64 0),bA⟩;have l:=BM;go_enter func53,ntmps53;go_wp2_with fail;refine cm (g _) λi b=>?_;subst b;go_wp2_with fail;refine cm (k _) λi b=>?_;subst b;go_upto_region 3 with fail;generalize w.alloc A2=n at*
   go_wp2_with (refine sR a.1 0 false 0 ⟨#[]⟩ 0 ?_);have e:=A1 a.1 0 false 0 ⟨#[]⟩ 0
   (try simp only[Exit.inBlock,Exit.then])
   refine rB e ?_;exact⟨rfl,AC a.2 (AS _) _⟩
  ·have k:Hid (cF 51 #[.int .i64 m] (.bool false)):=λX=>by have:=Cq m X;rwa[By d] at this
   clear d c h j;have a:Hid (Z5 (w.alloc A2) w.heap.size/\AD w.heap.size w (w.alloc A2)):=⟨Af w (.int .i64 0) (.bool false) (.int .i64 0) (.string ⟨#[]⟩) (.int .i64 0),bA⟩;have l:=BM;go_enter func53,ntmps53;go_wp2_with fail;refine cm (g _) λi b=>?_;subst b;go_wp2_with fail;refine cm (k _) λi b=>?_;subst b;go_upto_region 3 with fail;generalize w.alloc A2=n at*
   go_wp2_with (refine sR a.1 0 false 0 ⟨#[]⟩ 0 ?_);have e:=A1 a.1 0 false 0 ⟨#[]⟩ 0
   (try simp only[Exit.inBlock,Exit.then])
   refine rB e ?_;exact⟨rfl,AC a.2 (AS _) _⟩
 ·have g:Hid (cF 50 #[.int .i64 f] (.tuple #[.int .i64 0,.int .i64 (AV f),.int .i64 (Ad f)])):=λX=>by have:=Ag f X;rwa[gV f c] at this
  clear c h;have a:Hid (Z5 (w.alloc A2) w.heap.size/\AD w.heap.size w (w.alloc A2)):=⟨Af w (.int .i64 0) (.bool false) (.int .i64 0) (.string ⟨#[]⟩) (.int .i64 0),bA⟩;have l:=BM;go_enter func53,ntmps53;go_wp2_with fail;refine cm (g _) λi b=>?_;subst b;go_upto_region 3 with fail;generalize w.alloc A2=n at*
  go_wp2_with (refine sR a.1 0 false 0 ⟨#[]⟩ 0 ?_);have e:=A1 a.1 0 false 0 ⟨#[]⟩ 0
  (try simp only[Exit.inBlock,Exit.then])
  refine rB e ?_;exact⟨rfl,AC a.2 (AS _) _⟩
theorem Pd(f m:Int)(s:AB)(w:AA)(hf:f=64\/f=128)(hm:1<=m/\m<=5)(hs:s.size<=200):
 cB 53 #[.int .i64 f,.int .i64 m,.string s] w (PR f m (SO s.data.toList) (Pn s.data.toList)):=by
 obtain⟨p,hp,aw⟩:∃p,AF f=p/\p≠0:=⟨_,rfl,by rcases Q1 f hf with q|q<;>rw[q]<;>decide⟩;have HL:Hid (cF 50 #[.int .i64 f] (.tuple #[.int .i64 p,.int .i64 (AV f),.int .i64 (Ad f)])):=λX=>by rw[<-hp];exact Ag f X
 have ay:Hid (cF 51 #[.int .i64 m] (.bool true)):=λX=>by have:=Cq m X;rwa[Bz hm] at this
 have hz:¬(200:Int)<(s.size:Int):=by omega
 have aN:(p==0)=false:=beq_eq_false_iff_ne.2 aw;have HM:=Ab hf hm;have I:∃R:Bool,(R=false/\Pn s.data.toList=s.data.toList/\SO s.data.toList=false/\(s.size=0\/∃h:0<s.size,¬s[0]=43/\¬s[0]=45))\/(R=true/\∃h:0<s.size,(s[0]=43\/s[0]=45)/\Pn s.data.toList=(s.extract 1 s.size).data.toList/\SO s.data.toList=decide (s[0]=45)):=by
  rcases XA s with⟨k,B,J⟩|⟨l,⟨k,B,J⟩|⟨k,B,J⟩⟩
  ·exact⟨false,.inl ⟨rfl,B,J,.inl k⟩⟩
  ·exact⟨true,.inr ⟨rfl,l,k,B,J⟩⟩
  ·exact⟨false,.inl ⟨rfl,B,J,.inr ⟨l,λq=>k (.inl q),λq=>k (.inr q)⟩⟩⟩
 obtain⟨R,I⟩:=I;obtain⟨G,ag⟩:=zxe (PR f m (SO s.data.toList) (Pn s.data.toList));have e:=zq ag;rw[ag];clear hm hf hp ag;have K:Hid (Z5 (w.alloc A2) w.heap.size/\AD w.heap.size w (w.alloc A2)):=⟨Af w (.int .i64 0) (.bool false) (.int .i64 0) (.string ⟨#[]⟩) (.int .i64 0),bA⟩;go_enter func53,ntmps53;go_wp2_with fail;refine cm (HL _) λx r=>?_;subst r;go_wp2_with fail;refine cm (ay _) λx r=>?_;subst r;go_upto_region 6 with fail;clear HL ay aw hz aN;generalize w.alloc A2=w2 at*
 go_cut [50] (λb C=>b=.bool R/\w2=C);case first=>
  have L:∀b:UInt8,¬b=43->¬(b.toNat:Int)=43:=λb h q=>h (UInt8.toNat_inj.1 (by show b.toNat=43;omega));have M:∀b:UInt8,¬b=45->¬(b.toNat:Int)=45:=λb h q=>h (UInt8.toNat_inj.1 (by show b.toNat=45;omega));rcases I with⟨rfl,-,-,l|⟨l,k,B⟩⟩|⟨rfl,l,k,-,-⟩
  ·obtain rfl:s={data:=#[]}:=by
    apply De;exact Array.eq_empty_of_size_eq_zero l
   clear L M l e;go_wp2;go_meet;case rel=>exact⟨rfl,rfl⟩
  ·have he:=RJ s l;have k1:=L _ k;have k2:=M _ B;clear L M k B e;go_wp2;go_meet;case rel=>exact⟨congrArg Value.bool (by rw[beq_eq_false_iff_ne.2 k1,beq_eq_false_iff_ne.2 k2];rfl),rfl⟩
  ·have he:=RJ s l;rcases k with q|q
   ·have k1:(s[0].toNat:Int)=43:=by rw[q];rfl
    clear L M q e;go_wp2;go_meet;case rel=>exact⟨rfl,rfl⟩
   ·have k1:(s[0].toNat:Int)=45:=by rw[q];rfl
    clear L M q e;go_wp2;go_meet;case rel=>exact⟨rfl,rfl⟩
 case rest=>
  obtain⟨rfl,rfl⟩:=hcut;go_upto_if 50 with fail;go_cut [11,12] (λa b C=>∃(U:AB) (neg:Bool),a=.string U/\b=.bool neg/\w2=C/\Hid (U.data.toList=Pn s.data.toList/\neg=SO s.data.toList/\U.size<=200));case first=>
   rcases I with⟨rfl,e1,e2,-⟩|⟨rfl,l,k,e1,e2⟩
   ·clear e;go_wp2;go_meet;case rel=>exact⟨s,false,rfl,rfl,rfl,e1.symm,e2.symm,hs⟩
   ·have HK:Hid (((s[0].toNat:Int)==45)=decide (s[0]=45)):=oI _;have a0:(1:Int)<=(s.size:Int):=by omega
    clear k e;go_wp2;go_meet;case rel=>exact⟨s.extract 1 s.size,decide (s[0]=45),rfl,congrArg Value.bool HK,rfl,e1.symm,e2.symm,by rw[ByteArray.size_extract];omega⟩
  case rest=>
   obtain⟨U,neg,rfl,rfl,rfl,HU⟩:=hcut;obtain⟨aB,aC,ak⟩:=HU.out;rw[<-aB,<-aC] at e;unfold PR at e;have aD:=zq λX=>TG U X ak;have al:=zq ak;clear HU aB aC ak I hs;generalize U.data.toList.map CS=T at*
   go_wp2_with fail;refine cm (aD _) λy g=>?_;have d:=Ab (K.1.below g K.1.lt) (K.2.trans (g.mono K.2.size));clear g K aD;by_cases E:T=I7
   ·subst E;have u:Hid (.tuple #[BA 2 neg 0 {data:=#[]} 0,.bool true]=G):=by
     have h:=e.out;rw[zyp (show GE I7≠0 by decide),show GE I7=2 from rfl,Bz (show(2:Int)=2 from rfl),Bool.and_true] at h;exact h
    unfold I7;clear e;go_wp2_with fail;refine cm (BG neg _) λS g=>?_;have j:=Ab (d.1.below g d.1.lt) (d.2.trans (g.mono d.2.size));clear g d;go_wp2_with (refine sR j.1 2 neg 0 ⟨#[]⟩ 0 ?_);have F:=A1 j.1 2 neg 0 ⟨#[]⟩ 0
    (try simp only[Exit.inBlock,Exit.then])
    refine rB F ?_;exact⟨congrArg Ending.returned u,AC j.2 (AS _) _⟩
   by_cases H:T=B4
   ·subst H;have u:Hid (.tuple #[BA 2 neg 0 {data:=#[]} 0,.bool true]=G):=by
     have h:=e.out;rw[zyp (show GE B4≠0 by decide),show GE B4=2 from rfl,Bz (show(2:Int)=2 from rfl),Bool.and_true] at h;exact h
    unfold B4;clear e E;go_wp2_with fail;refine cm (BG neg _) λS g=>?_;have j:=Ab (d.1.below g d.1.lt) (d.2.trans (g.mono d.2.size));clear g d;go_wp2_with (refine sR j.1 2 neg 0 ⟨#[]⟩ 0 ?_);have F:=A1 j.1 2 neg 0 ⟨#[]⟩ 0
    (try simp only[Exit.inBlock,Exit.then])
    refine rB F ?_;exact⟨congrArg Ending.returned u,AC j.2 (AS _) _⟩
   by_cases N:T=I8
   ·subst N;have u:Hid (.tuple #[BA 3 false 0 {data:=#[]} 0,.bool true]=G):=by
     have h:=e.out;rw[zyp (show GE I8≠0 by decide),show GE I8=3 from rfl,By (show¬(3:Int)=2 by decide),Bool.and_false] at h;exact h
    have hB:=AT 3 false 0 {data:=#[]};unfold I8;clear e E H;go_wp2_with fail;refine cm (IQ _) λS g=>?_;have j:=Ab (d.1.below g d.1.lt) (d.2.trans (g.mono d.2.size));clear g d;go_wp2_with (refine sR j.1 3 false 0 ⟨#[]⟩ 0 ?_);have F:=A1 j.1 3 false 0 ⟨#[]⟩ 0
    (try simp only[Exit.inBlock,Exit.then])
    refine rB F ?_;exact⟨congrArg Ending.returned u,AC j.2 (AS _) _⟩
   by_cases V:T=Fp
   ·subst V;have u:Hid (.tuple #[BA 4 false 0 {data:=#[]} 0,.bool true]=G):=by
     have h:=e.out;rw[zyp (show GE Fp≠0 by decide),show GE Fp=4 from rfl,By (show¬(4:Int)=2 by decide),Bool.and_false] at h;exact h
    have hB:=AT 4 false 0 {data:=#[]};have a1:=Sf 4;unfold Fp;clear e E H N;go_wp2_with (refine sR d.1 4 false 0 ⟨#[]⟩ 0 ?_);have F:=A1 d.1 4 false 0 ⟨#[]⟩ 0
    (try simp only[Exit.inBlock,Exit.then])
    refine rB F ?_;exact⟨congrArg Ending.returned u,AC d.2 (AS _) _⟩
   have u:Hid (Zo f m neg (Ch (bz U.data.toList) [])=G):=by
    have h:=e.out;rw[zyn (show¬GE T≠0 fromλq=>q (by unfold GE;rw[zyn (λq=>q.elim H E),zyn N,zyn V]))] at h;exact h
   have b2:(T==[105,110,102,105,110,105,116,121])=false:=beq_eq_false_iff_ne.2 H;have b1:(T==[105,110,102])=false:=beq_eq_false_iff_ne.2 E;have b3:(T==[110,97,110])=false:=beq_eq_false_iff_ne.2 N;have b4:(T==[115,110,97,110])=false:=beq_eq_false_iff_ne.2 V;clear E H N V e;go_upto_region 17 with fail;clear b1 b2 b3 b4;obtain⟨Y,W⟩:=zxe (Ch (bz U.data.toList) []);rw[W] at u;have aE:Hid (∀D n Z P,Y=some (D,n,Z,P)->AJ (AU (D.map (·-48)))/\(AU (D.map (·-48))).length<=200/\(-200000<=Gp n Z P/\Gp n Z P<=200000)):=λD n Z P q=>PN (W.trans q) (by rw[Jk,Array.length_toList];exact al);have am:=zq (iY d.1 d.2);have an:=zq W.symm;obtain⟨i0,hi,aH,aI,aJ⟩:=info_parts Om;have a2:=al.out;clear W d;go_upto_block 1 with fail;generalize y.alloc (.cells #[] 5)=w5 at*
   go_cut [13,14,15,16] (λv pt ex i C=>∃(q n:Nat) (D:List UInt8) (b:Bool),pt=.bool b/\ex=.int .i64 (-(n:Int))/\i=.int .i64 (q:Int)/\q<=U.size/\D.length<=q/\n<=D.length/\Hid (UF w y.heap.size C v D/\Y=Ba ((bz U.data.toList).drop q) (bz D) n));case first=>
    go_wp2_with fail;go_loopg [13,14,15,16] U.size (λgk v pt ex i C=>∃(q n:Nat) (D:List UInt8) (b:Bool),Hid (gk=U.size-q)/\pt=.bool b/\ex=.int .i64 (-(n:Int))/\i=.int .i64 (q:Int)/\q<=U.size/\D.length<=q/\n<=D.length/\Hid (UF w y.heap.size C v D/\Y=Uv b ((bz U.data.toList).drop q) (bz D) n/\pZ b n));case atStart=>exact⟨0,0,[],false,rfl,rfl,Ln.val_int (by simp),rfl,B9 _,AS _,AS _,am,an,(show pZ false 0 fromλ_=>rfl)⟩
    case round=>
     clear am an aE u;obtain⟨q,n,D,b,HG,rfl,rfl,rfl,hq,hD,hn,c⟩:=hrel;by_cases ac:q<U.size
     ·have a5:(q:Int)<(U.size:Int):=by omega
      have z:Hid (Y=Uv b ((U[q].toNat:Int)::(bz U.data.toList).drop (q+1)) (bz D) n):=by show _=_;rw[c.out.2.1,Dt U q ac]
      have a6:U[q].toNat<256:=U[q].toNat_lt;have A:Hid (cF 117 #[.int .u8 (U[q].toNat:Int)] (.bool (K5 (U[q].toNat:Int)))):=λX=>CR _ X (by omega);cases hd:K5 (U[q].toNat:Int) with
      |true=>
       rw[hd] at A;have aL:¬(U[q].toNat:Int)=46:=λq=>by rw[q] at hd;exact absurd hd (by decide)
       have ad:Hid (Y=Uv b ((bz U.data.toList).drop (q+1)) (bz (D++[U[q]])) (if b then n+1 else n)):=by show _=_;rw[z,g6 b _ _ _ _ hd,UO]
       go_wp2_with fail;refine cm (A _) λx r=>?_;subst r;cases b with
       |false=>
        go_wp2_with (first|(at_builtin;refine wpList_append_own _ rfl _ _ 22 rfl y.heap.size 5 i0 (.int .u8 0) 1 1 underlying22 hi aH aI aJ rfl (by decide) _ D.length (SX D) rfl (World.ownsRow.alloc c.1.1 _) ⟨x.heap.size,0,none⟩ 1 1 [.int .u8 (U[q].toNat:Int)] rfl rfl (World.news_of_block (cs:=#[.int .u8 (U[q].toNat:Int)]) (t:=5) (fr:=(0,0)) (heap_alloc_new x _)) (EH _) (by unfold maxLen;omega) (by omega) (by have:=c.1.2.2.2.2.1;simp;omega) ?_)|go_in);intro v' S O Q _;have j:=zq (c.1.more O Q (QM hd));clear O Q;have o:=Ab ad c.2.2;clear c z ad A hd aL;go_wp2;go_roundg (U.size-(q+1));case measure=>have:=HG.out;omega
        case rel=>exact⟨q+1,n,D++[U[q]],false,rfl,rfl,rfl,by go_num,by omega,by rw[Dc];simp;omega,by rw[Dc];omega,j,o⟩
       |true=>
        go_wp2_with (first|(at_builtin;refine wpList_append_own _ rfl _ _ 22 rfl y.heap.size 5 i0 (.int .u8 0) 1 1 underlying22 hi aH aI aJ rfl (by decide) _ D.length (SX D) rfl (World.ownsRow.alloc c.1.1 _) ⟨x.heap.size,0,none⟩ 1 1 [.int .u8 (U[q].toNat:Int)] rfl rfl (World.news_of_block (cs:=#[.int .u8 (U[q].toNat:Int)]) (t:=5) (fr:=(0,0)) (heap_alloc_new x _)) (EH _) (by unfold maxLen;omega) (by omega) (by have:=c.1.2.2.2.2.1;simp;omega) ?_)|go_in);intro v' S O Q _;have j:=zq (c.1.more O Q (QM hd));clear O Q;have o:=zq ad;have wn:=zw (-(n:Int)-1) (by omega);clear c z ad A hd aL;go_wp2;go_roundg (U.size-(q+1));case measure=>have:=HG.out;omega
        case rel=>exact⟨q+1,n+1,D++[U[q]],true,rfl,rfl,Ln.val_int (by omega),by go_num,by omega,by rw[Dc];simp;omega,by rw[Dc];simp;omega,j,o,(show pZ true (n+1) fromλq=>by cases q)⟩
      |false=>
       rw[hd] at A;by_cases ar:(U[q].toNat:Int)=46
       ·rw[ar] at A;cases b with
        |false=>
         have l:=c.2.2 rfl;subst l;have o:Hid (UF w y.heap.size wr u13 D/\Y=Uv true ((bz U.data.toList).drop (q+1)) (bz D) 0):=⟨c.1,by rw[z,ar,g7]⟩;clear c z hd;go_wp2_with fail;refine cm (A _) λx r=>?_;subst r;go_wp2;go_roundg (U.size-(q+1));case measure=>have:=HG.out;omega
         case rel=>exact⟨q+1,0,D,true,rfl,rfl,rfl,by go_num,by omega,by omega,by omega,o.1,o.2,(show pZ true 0 fromλq=>by cases q)⟩
        |true=>
         have o:Hid (UF w y.heap.size wr u13 D/\Y=Ba ((bz U.data.toList).drop q) (bz D) n):=⟨c.1,by rw[z,Dt U q ac];exact ZQ true _ _ _ _ c.2.2 hd (λq=>by cases q.2)⟩;clear c z hd;go_wp2_with fail;refine cm (A _) λx r=>?_;subst r;go_wp2;go_meet;case rel=>exact⟨q,n,D,true,rfl,rfl,rfl,by omega,hD,hn,o⟩
       ·have o:Hid (UF w y.heap.size wr u13 D/\Y=Ba ((bz U.data.toList).drop q) (bz D) n):=⟨c.1,by rw[z,Dt U q ac];exact ZQ b _ _ _ _ c.2.2 hd (λq=>ar q.1)⟩;clear c z hd;go_wp2_with fail;refine cm (A _) λx r=>?_;subst r;go_wp2;go_meet;case rel=>exact⟨q,n,D,b,rfl,rfl,rfl,by omega,hD,hn,o⟩
     ·obtain rfl:q=U.size:=by omega
      have o:Hid (UF w y.heap.size wr u13 D/\Y=Ba ((bz U.data.toList).drop U.size) (bz D) n):=⟨c.1,by rw[c.out.2.1,OF U _ ac];exact g8 b _ _ c.2.2⟩;clear c;go_wp2_with fail;go_meet;case rel=>exact⟨U.size,n,D,b,rfl,rfl,rfl,by omega,hD,hn,o⟩
   case rest=>
    obtain⟨q,n,D,b,rfl,rfl,rfl,hq,hD,hn,c⟩:=hcut;clear am an;have aZ:=al.out
    (try go_step)
    refine iZ _ ?_ w _ f m HM.1 neg G _ _ n U q D Y aZ (by omega) (by omega) c.1 u aE hq c.2;simp only[f53,BB,Cd]
end Go.Proofs.YteofommckgeemaaGreatDoor
