/- Steps. -/
import Derived.Test.YteofommckgeemaaGreatDoorEAK
import Derived.Test.YteofommckgeemaaGreatDoorEBG
import Derived.Test.YteofommckgeemaaGreatDoorEAO
import Derived.Test.YteofommckgeemaaGreatDoorEBC
import Derived.Test.YteofommckgeemaaGreatDoorEAT
namespace Go.Proofs.YteofommckgeemaaGreatDoor
open Go.RowKit Go.Proofs.Tryz
set_option linter.unusedVariables false
set_option linter.unusedSimpArgs false
set_option maxRecDepth 100000
set_option maxHeartbeats 8000000
theorem jg{c:Func}{p t:Tmp}{b:Nat}{x y z u v:AK}(h:c.results=#[.cell p 90,.tmp t])(a:Array AK)(w:AA)(d:a[p]?.getD undef=.pointer (some ⟨b,0,none⟩))
 (e:w.cell? ⟨b,0,none⟩=some x) (f:w.cell? ⟨b,1,none⟩=some y) (g:w.cell? ⟨b,2,none⟩=some z) (i:w.cell? ⟨b,3,none⟩=some u) (j:w.cell? ⟨b,4,none⟩=some v):(results c a).run prog w=.ok (.tuple #[.agg #[x,y,z,u,v],a.getD t undef]) w:=by
 simp[results,h,d,go_sem,e,f,g,i,j]
theorem OX(f:Int)(a:f=64\/f=128):∃V,cF 148 #[.int .i64 f] (.tuple #[V,.bool true]):=by
 rcases a with rfl|rfl
 ·exact⟨_,Is⟩
 ·exact⟨_,G1⟩
theorem Q9(m:Int)(a:1<=m/\m<=5):∃F:Nat,cA 149 #[.int .i64 m] (.tuple #[.agg #[DF F],.bool true]):=by
 obtain⟨F,-,-,h⟩:=D9 m a;exact⟨F,h⟩
theorem DD(k:Int)(b:Bool)(w:AA):(Instr.build 78 #[(0,.int .i64 k),(1,.bool b)]).run prog w=.ok (AH k b 0 {data:=#[]}) w:=run_build w _ _ _ (by kernel_rfl)
theorem BM(w:AA):(Instr.build 90 #[]).run prog w=.ok (BA 0 false 0 {data:=#[]} 0) w:=run_build w _ _ _ (by kernel_rfl)
theorem Qp(f m:Int)(s:AB)(w:AA)(r:s.size<=4611686018427387904)(h:¬((f=64\/f=128)/\(1<=m/\m<=5)/\s.size<=200)):
 cB 177 #[.int .i64 f,.int .i64 m,.string s] w (.tuple #[BA 0 false 0 {data:=#[]} 0,.bool false]):=by
 have k:=zq λd X=>Eo m d X;have l:=zq λd=>Q9 m d;by_cases i:f=64\/f=128
 ·obtain⟨V,p⟩:=OX f i;have g:=zq p;clear p;by_cases d:1<=m/\m<=5
  ·obtain⟨F,e⟩:=l d;have t:(200:Int)<(s.size:Int):=by
    rcases Nat.lt_or_ge 200 s.size with q|q
    ·omega
    ·exact absurd ⟨i,d,q⟩ h
   clear d i h k l;go_enter func177,ntmps177;go_wp2_with fail;refine cm (g _) λa j=>?_;subst j;go_wp2_with fail;refine cm (e _) λa b=>?_;have c:Hid (Z5 (a.alloc (.cells #[DF F] 177)) w.heap.size/\AD w.heap.size w (a.alloc (.cells #[DF F] 177))):=⟨((Af w (.int .i64 0) (.bool false) (.int .i64 0) (.string ⟨#[]⟩) (.int .i64 0)).below b (by simp)).below ((BI a.heap.size a).alloc (AS _) _) (DU (by simp) b.size),(bA.trans (b.mono (by simp))).alloc (by have:=b.size;simp at this;omega) _⟩;have n:=BM;clear b g e;go_upto_region 4 with fail;generalize a.alloc (.cells #[DF F] 177)=o at*
   go_wp2_with (refine sR c.1 0 false 0 ⟨#[]⟩ 0 ?_);refine rB (A1 c.1 0 false 0 ⟨#[]⟩ 0) ?_;exact⟨rfl,AC c.2 (AS _) _⟩
  ·have e:=k d;clear d i h k l;go_enter func177,ntmps177;go_wp2_with fail;refine cm (g _) λa j=>?_;subst j;go_wp2_with fail;refine cm (e _) λa b=>?_;have c:Hid (Z5 (a.alloc (.cells #[.nilFunc] 177)) w.heap.size/\AD w.heap.size w (a.alloc (.cells #[.nilFunc] 177))):=⟨((Af w (.int .i64 0) (.bool false) (.int .i64 0) (.string ⟨#[]⟩) (.int .i64 0)).below b (by simp)).below ((BI a.heap.size a).alloc (AS _) _) (DU (by simp) b.size),(bA.trans (b.mono (by simp))).alloc (by have:=b.size;simp at this;omega) _⟩;have n:=BM;clear b g e;go_upto_region 4 with fail;generalize a.alloc (.cells #[.nilFunc] 177)=o at*
   go_wp2_with (refine sR c.1 0 false 0 ⟨#[]⟩ 0 ?_);refine rB (A1 c.1 0 false 0 ⟨#[]⟩ 0) ?_;exact⟨rfl,AC c.2 (AS _) _⟩
 ·have g:=zq λX=>It f X (λq=>i (.inl q)) (λq=>i (.inr q));by_cases d:1<=m/\m<=5
  ·obtain⟨F,e⟩:=l d;clear d i h k l;go_enter func177,ntmps177;go_wp2_with fail;refine cm (g _) λa j=>?_;subst j;go_wp2_with fail;refine cm (e _) λa b=>?_;have c:Hid (Z5 (a.alloc (.cells #[DF F] 177)) w.heap.size/\AD w.heap.size w (a.alloc (.cells #[DF F] 177))):=⟨((Af w (.int .i64 0) (.bool false) (.int .i64 0) (.string ⟨#[]⟩) (.int .i64 0)).below b (by simp)).below ((BI a.heap.size a).alloc (AS _) _) (DU (by simp) b.size),(bA.trans (b.mono (by simp))).alloc (by have:=b.size;simp at this;omega) _⟩;have n:=BM;clear b g e;go_upto_region 4 with fail;generalize a.alloc (.cells #[DF F] 177)=o at*
   go_wp2_with (refine sR c.1 0 false 0 ⟨#[]⟩ 0 ?_);refine rB (A1 c.1 0 false 0 ⟨#[]⟩ 0) ?_;exact⟨rfl,AC c.2 (AS _) _⟩
  ·have e:=k d;clear d i h k l;go_enter func177,ntmps177;go_wp2_with fail;refine cm (g _) λa j=>?_;subst j;go_wp2_with fail;refine cm (e _) λa b=>?_;have c:Hid (Z5 (a.alloc (.cells #[.nilFunc] 177)) w.heap.size/\AD w.heap.size w (a.alloc (.cells #[.nilFunc] 177))):=⟨((Af w (.int .i64 0) (.bool false) (.int .i64 0) (.string ⟨#[]⟩) (.int .i64 0)).below b (by simp)).below ((BI a.heap.size a).alloc (AS _) _) (DU (by simp) b.size),(bA.trans (b.mono (by simp))).alloc (by have:=b.size;simp at this;omega) _⟩;have n:=BM;clear b g e;go_upto_region 4 with fail;generalize a.alloc (.cells #[.nilFunc] 177)=o at*
   go_wp2_with (refine sR c.1 0 false 0 ⟨#[]⟩ 0 ?_);refine rB (A1 c.1 0 false 0 ⟨#[]⟩ 0) ?_;exact⟨rfl,AC c.2 (AS _) _⟩
theorem lM(g j:Nat):(⟨g,0,none⟩:Addr).add j=⟨g,j,none⟩:=by rw[N8,Nat.zero_add]
theorem fe(s:AB)(X:AA)(d:s.size<=200):∃(b:Nat) (cs:Array AK),(convert 9 251 (.string s)).run prog X=.ok (.slice (some ⟨X.heap.size,0,none⟩) (rn s.data.toList).length b) (X.drew.alloc (.cells cs 21))/\(rn s.data.toList).length<=b/\∀i,i<(rn s.data.toList).length->cs[i]?=some (.int .i32 ((rn s.data.toList).getD i 0)):=by
 have a:(Conv.runesFrom s s.size 0 #[]).size=(rn s.data.toList).length:=by rw[Ru];simp
 have e:s.data.toList.length=s.size:=Array.length_toList;have f:=PT s.data.toList;have h:=run_runes_of_string (P:=prog) X 9 251 21 s underlying9 underlying251 underlying21 (by rw[a];omega);refine⟨_,_,by rw[h,a],grownCap_ge _ _ _ _,λi c=>?_⟩;rw[Array.getElem?_append_left (by rw[a];exact c),Ru];simp[List.getD,c]
theorem iV(X:AA)(R:AG)(a:Nat)(cs:Array AK)(c:R.length<=a)(d:∀i,i<R.length->cs[i]?=some (.int .i32 (R.getD i 0)))(e:R.length<=1000):
 Jh ((X.drew.alloc (.cells cs 21)).alloc (.cells #[.slice (some ⟨X.heap.size,0,none⟩) R.length a] 253)) (X.heap.size+1) X.heap.size R 0/\AD X.heap.size X ((X.drew.alloc (.cells cs 21)).alloc (.cells #[.slice (some ⟨X.heap.size,0,none⟩) R.length a] 253)):=by
 have f:AD X.heap.size X ((X.drew.alloc (.cells cs 21)).alloc (.cells #[.slice (some ⟨X.heap.size,0,none⟩) R.length a] 253)):=((BI _ _).drew.alloc (AS _) _).alloc (by simp) _;have g:(X.drew.alloc (.cells cs 21)).heap.size=X.heap.size+1:=by simp
 have m:((X.drew.alloc (.cells cs 21)).alloc (.cells #[.slice (some ⟨X.heap.size,0,none⟩) R.length a] 253)).heap.size=X.heap.size+2:=by simp
 have h:(X.drew.alloc (.cells cs 21)).heap[X.heap.size]?=some (.cells cs 21 (0,0)):=(MapKept.heap_alloc X.drew _).1;have b:=(MapKept.heap_alloc (X.drew.alloc (.cells cs 21)) (.cells #[.slice (some ⟨X.heap.size,0,none⟩) R.length a] 253)).1;have j:AD (X.heap.size+1) (X.drew.alloc (.cells cs 21)) ((X.drew.alloc (.cells cs 21)).alloc (.cells #[.slice (some ⟨X.heap.size,0,none⟩) R.length a] 253)):=(BI _ _).alloc (by simp) _;rw[g] at b;generalize (X.drew.alloc (.cells cs 21)).alloc (.cells #[.slice (some ⟨X.heap.size,0,none⟩) R.length a] 253)=Y at*
 have k:=(j.block X.heap.size (by omega)).trans h;refine⟨⟨⟨B9 _,e⟩,⟨⟨0,a,LR b,λ_=>rfl,c⟩,OZ b⟩,λi l=>?_,by omega,by omega,by omega⟩,f⟩;unfold World.cell?;simp only[k];simpa using d i l
theorem Oj(f m:Int)(s:AB)(w:AA)(U:f=64\/f=128)(W:1<=m/\m<=5)(hs:s.size<=200)(hT:Lib.Utf8Tabs 4 5 w):
 cB 177 #[.int .i64 f,.int .i64 m,.string s] w (PR f m (SO s.data.toList) (Pn s.data.toList)):=by
 obtain⟨V,hV⟩:=OX f U;have HV:=zq hV;obtain⟨F,hF⟩:=Q9 m W;have HF:=zq hF;have HT:=zq hT;have hz:¬(200:Int)<(s.size:Int):=by omega
 have z:=J9 U W hs;obtain⟨An,Z⟩:=zxe (PR f m (SO s.data.toList) (Pn s.data.toList));have b:=zq Z;rw[Z];clear hV hF hT U W hs Z;go_enter func177,ntmps177;go_wp2_with fail;refine cm (HV _) λA hw=>?_;subst hw;go_wp2_with fail;refine cm (HF _) λA C=>?_;have E:Hid (Z5 (A.alloc (.cells #[DF F] 177)) w.heap.size/\AD w.heap.size w (A.alloc (.cells #[DF F] 177))):=⟨((Af w (.int .i64 0) (.bool false) (.int .i64 0) (.string ⟨#[]⟩) (.int .i64 0)).below C (by simp)).below ((BI A.heap.size A).alloc (AS _) _) (DU (by simp) C.size),(bA.trans (C.mono (by simp))).alloc (by have:=C.size;simp at this;omega) _⟩;clear C HV HF;go_upto_region 5 with fail;generalize A.alloc (.cells #[DF F] 177)=k at*
 go_cut [12] (λp wx=>∃l g,p=.pointer (some ⟨l,0,none⟩)/\Hid (Jh wx l g (rn s.data.toList) 0/\Z5 wx w.heap.size/\AD w.heap.size w wx/\w.heap.size+1<=l));case first=>
  obtain⟨ab,cs,a6,h1,h2⟩:=fe s k z.2.2;have HN:Hid (Jh ((k.drew.alloc (.cells cs 21)).alloc (.cells #[.slice (some ⟨k.heap.size,0,none⟩) (rn s.data.toList).length ab] 253)) (k.heap.size+1) k.heap.size (rn s.data.toList) 0/\AD k.heap.size k ((k.drew.alloc (.cells cs 21)).alloc (.cells #[.slice (some ⟨k.heap.size,0,none⟩) (rn s.data.toList).length ab] 253))):=
   iV k _ ab cs h1 h2 (by have:=PT s.data.toList;have hl:s.data.toList.length=s.size:=Array.length_toList;have:=z.2.2;omega)
  clear h1 h2;generalize (rn s.data.toList).length=n at*
  go_wp2;go_meet;case rel=>
   exact⟨_,_,rfl,HN.1,E.1.below HN.2 E.1.lt,E.2.trans (HN.2.mono E.2.size),by have:=E.1.lt;omega⟩
 case rest=>
  obtain⟨l,g,rfl,r⟩:=hcut;have av:=zq (Eq l g (rn s.data.toList) 0 wc r.1);go_wp2_with fail;refine av.mono ?_;rintro e v ⟨rfl,aw,ad⟩;obtain⟨ax,L⟩:=ia s.data.toList;have aR:s.data.toList.length=s.size:=Array.length_toList;have aS:=VP s.data.toList;have aT:=PT (Pn s.data.toList);have aU:=PT s.data.toList;have aV:=z.2.2;have ay:Z5 v w.heap.size:=(ad.block w.heap.size r.2.1.lt (λe=>by have e':w.heap.size=l:=Gy e;have:=r.2.2.2;omega)).trans r.2.1;have ae:AD w.heap.size w v:=r.2.2.1.trans (UK ad (by have:=r.2.2.2;omega) r.2.2.1.size);have az:=r.2.2.2;rw[ax];clear av r ad ax;generalize SO s.data.toList=neg at*
  generalize hR:rn s.data.toList=R at*
  generalize Pn s.data.toList=u at*
  generalize Ie R 0=M at*
  have aA:=zq aw;obtain⟨⟨k1,k2⟩,⟨⟨o,c,hc,ho,aZ⟩,-⟩,aD,-⟩:=aw;have eL:R.length-M=(rn u).length:=by rw[<-L,List.length_drop]
  rw[eL] at hc;have aF:Hid (cB 227 #[.slice (some ⟨g,o,none⟩) (rn u).length c] v (.tuple #[.int .i64 (GE (u.map CS)),.bool (decide (GE (u.map CS)≠0))])):=by
   have:=Mv g o c (rn u) v (λj hj=>by
    have h0:M<R.length:=by omega
    obtain rfl:=ho h0;rw[aD (o+j) (by omega),<-L];simp[List.getD,List.getElem?_drop]) (by omega) (Utf8Tabs_below HT (ae.mono (AS _)))
   rw[ke] at this;exact this
  have B:Hid (Z5 v w.heap.size/\AD w.heap.size w v/\w.heap.size+1<=l/\v.heap.size=v.heap.size):=⟨ay,ae,az,rfl⟩;have N:Hid (∀D n h P,Ch (bz u) []=some (D,n,h,P)->AJ (AU (D.map (·-48)))/\(AU (D.map (·-48))).length<=200/\(-200000<=Gp n h P/\Gp n h P<=200000)):=λD n h P q=>PN q (by unfold bz;rw[List.length_map];omega);have af:Hid (Ch (R.drop M) []=Ch (bz u) []):=by show _=_;rw[L,iK]
  clear hR aR aS aT aU aV ay ae az L k1 k2 ho aZ aD eL HT;generalize (rn u).length=nL at*
  go_wp2_with fail;refine cm aF λwb O=>?_;have a:=Ab (B.1.below O B.1.lt) (B.2.1.trans (O.mono B.2.1.size));have Q:=Ab (aA.next O) B.2.2.1;clear O aA B aF hc;unfold PR at b;have aG:Hid (GE (u.map CS)=0\/GE (u.map CS)=2\/GE (u.map CS)=3\/GE (u.map CS)=4):=Yo _;generalize GE (u.map CS)=K at*
  by_cases S:K=0
  ·subst S;have aH:Hid (Calls prog 228 #[.pointer (some ⟨l,0,none⟩)] wb (et wb (w.heap.size+1) (Ch (bz u) []))):=by
    have:=MF (w.heap.size+1) l g M R wb Q.1 Q.2;rw[af] at this;exact this
   rw[zyn (show¬((0:Int)≠0) by decide)] at b;clear Q af;generalize Ch (bz u) []=Y at*
   go_wp2_with fail;refine cm aH λt ah=>?_;have d:=Ab (a.1.below ah (Nat.lt_succ_self _)) (a.2.trans (ah.mono (Nat.le_succ _)));clear ah a aH;rcases Y with _|⟨D,n,h,P⟩
   ·have hB:=BM;simp only[Zo] at b;simp only[Rs];have G:Hid (∀i,Z5 (t.alloc i) w.heap.size/\AD w.heap.size w (t.alloc i)):=λi=>⟨d.1.below ((BI t.heap.size t).alloc (AS _) i) d.1.lt,d.2.alloc d.2.size i⟩;clear d N;go_upto_region 12 with fail;have aI:=G (.cells #[.string ⟨#[]⟩,.int .i64 0] 192);generalize t.alloc (.cells #[.string ⟨#[]⟩,.int .i64 0] 192)=x at*
    have y:=zq aI;clear aI G;go_wp2_with (refine sR y.1 0 false 0 ⟨#[]⟩ 0 ?_);refine rB (A1 y.1 0 false 0 ⟨#[]⟩ 0) ?_;exact⟨congrArg Ending.returned b,AC y.2 (AS _) _⟩
   ·obtain⟨aJ,aK,ai⟩:=N D n h P rfl;have aj:=zq λX=>GS f m z.1 z.2.1 neg (AU (D.map (·-48))) (Gp n h P) (Gp n h P) X aJ aK ai ai;simp only[Zo] at b;simp only[Rs];clear N aJ aK ai z;obtain⟨Fz,aL⟩:=zxe (Al f m neg (AU (D.map (·-48))) (Gp n h P) false (Gp n h P));rw[aL] at aj b;clear aL;generalize tx (AU (D.map (·-48)))=T at*
    generalize Gp n h P=ex at*
    obtain⟨F1,F2,F3,F4⟩:=Fz;have G:Hid (∀i x,AD (t.alloc i).heap.size (t.alloc i) x->Z5 x w.heap.size/\AD w.heap.size w x):=λi x H=>⟨(d.1.below ((BI t.heap.size t).alloc (AS _) i) d.1.lt).below H (DU d.1.lt (by simp)),(d.2.alloc d.2.size i).trans (H.mono (by have:=d.2.size;simp;omega))⟩;clear d;go_wp2_with fail;refine cm (aj _) λx H=>?_;have y:=zq (G _ x H);clear H G aj;go_wp2_with (refine sR y.1 F1 neg F2 F3 F4 ?_);refine rB (A1 y.1 F1 neg F2 F3 F4) ?_;exact⟨congrArg Ending.returned b,AC y.2 (AS _) _⟩
  ·have a2:=aG.resolve_left S;rw[zyp S] at b;clear Q af N S aG;rcases neg with _|_<;>rcases a2 with rfl|rfl|rfl
   ·have I:=DD 2 false;have J:=AT 2 false 0 {data:=#[]};go_wp2_with (refine sR a.1 2 false 0 ⟨#[]⟩ 0 ?_);refine rB (A1 a.1 2 false 0 ⟨#[]⟩ 0) ?_;exact⟨congrArg Ending.returned b,AC a.2 (AS _) _⟩
   ·have I:=DD 3 false;have J:=AT 3 false 0 {data:=#[]};go_wp2_with (refine sR a.1 3 false 0 ⟨#[]⟩ 0 ?_);refine rB (A1 a.1 3 false 0 ⟨#[]⟩ 0) ?_;exact⟨congrArg Ending.returned b,AC a.2 (AS _) _⟩
   ·have I:=DD 4 false;have J:=AT 4 false 0 {data:=#[]};go_wp2_with (refine sR a.1 4 false 0 ⟨#[]⟩ 0 ?_);refine rB (A1 a.1 4 false 0 ⟨#[]⟩ 0) ?_;exact⟨congrArg Ending.returned b,AC a.2 (AS _) _⟩
   ·have I:=DD 2 true;have J:=AT 2 true 0 {data:=#[]};go_wp2_with (refine sR a.1 2 true 0 ⟨#[]⟩ 0 ?_);refine rB (A1 a.1 2 true 0 ⟨#[]⟩ 0) ?_;exact⟨congrArg Ending.returned b,AC a.2 (AS _) _⟩
   ·have I:=DD 3 false;have J:=AT 3 false 0 {data:=#[]};go_wp2_with (refine sR a.1 3 false 0 ⟨#[]⟩ 0 ?_);refine rB (A1 a.1 3 false 0 ⟨#[]⟩ 0) ?_;exact⟨congrArg Ending.returned b,AC a.2 (AS _) _⟩
   ·have I:=DD 4 false;have J:=AT 4 false 0 {data:=#[]};go_wp2_with (refine sR a.1 4 false 0 ⟨#[]⟩ 0 ?_);refine rB (A1 a.1 4 false 0 ⟨#[]⟩ 0) ?_;exact⟨congrArg Ending.returned b,AC a.2 (AS _) _⟩
def St(W:AA)(a:Nat)(f m b:Int):Prop:=W.heap[a]?=some (.cells #[.int .i64 f,.int .i64 m,.int .i64 b] 32)
theorem St.cells{W:AA}{a:Nat}{f m b:Int}(h:St W a f m b):W.cell? ⟨a,0,none⟩=some (.int .i64 f)/\W.cell? ⟨a,1,none⟩=some (.int .i64 m)/\W.cell? ⟨a,2,none⟩=some (.int .i64 b)/\W.frozen? ⟨a,0,none⟩=false/\W.frozen? ⟨a,1,none⟩=false/\W.frozen? ⟨a,2,none⟩=false:=by
 refine⟨AO h 0,AO h 1,AO h 2,?_,?_,?_⟩;all_goals
  unfold World.frozen?;simp only[show W.heap[a]?=_ from h];rfl
theorem QZ{W:AA}{k:Nat}{cs:Array AK}{T:TypeId}(h:W.heap[k]?=some (.cells cs T))(i:Nat):W.frozen? ⟨k,i,none⟩=false:=by
 unfold World.frozen?;simp only[h];simp
theorem St.next{W b:AA}{a:Nat}{f m c:Int}(h:St W a f m c)(d:AD W.heap.size W b):St b a f m c:=(d.block a (Array.getElem?_eq_some_iff.1 h).1).trans h
theorem St.lt{W:AA}{a:Nat}{f m b:Int}(h:St W a f m b):a<W.heap.size:=(Array.getElem?_eq_some_iff.1 h).1
def Pu(W:AA)(g o:Nat)(a:List AB):Prop:=g<W.heap.size/\∀i s,a[i]?=some s->W.cell? ⟨g,o+i,none⟩=some (.string s)
theorem Pu.next{W a:AA}{g o:Nat}{b:List AB}(h:Pu W g o b)(c:AD W.heap.size W a):Pu a g o b:=⟨DU h.1 c.size,λi s d=>(c.cell (p:=⟨g,o+i,none⟩) h.1).trans (h.2 i s d)⟩
def mX(f m:Int)(s:AB)(n:CQ):Prop:=∃F,XL f m s.data.toList=.tuple #[BA n.1 n.2.1 n.2.2.1 n.2.2.2 F,.bool true]
def P7(f m:Int):List AB->List CQ->Prop
 |[],[]=>True
 |s::ws,n::ns=>mX f m s n/\P7 f m ws ns
 |_,_=>False
theorem P7.len{f m:Int}{b:List AB}{a:List CQ}(h:P7 f m b a):b.length=a.length:=by
 induction b generalizing a with
 |nil=>cases a with
  |nil=>rfl
  |cons n a=>cases h
 |cons s b ih=>cases a with
  |nil=>cases h
  |cons n a=>rw[List.length_cons,List.length_cons,ih h.2]
theorem P7.at{f m:Int}{a:List AB}{b:List CQ}(h:P7 f m a b)(i:Nat)(c:i<a.length):∃s n,a[i]?=some s/\b[i]?=some n/\mX f m s n:=by
 induction a generalizing b i with
 |nil=>simp at c
 |cons s a ih=>cases b with
  |nil=>cases h
  |cons n b=>cases i with
   |zero=>exact⟨s,n,rfl,rfl,h.1⟩
   |succ i=>exact ih h.2 i (by simpa using c)
theorem Oi(f m:Int)(s:AB)(w:AA)(a:s.size<=4611686018427387904)(b:Lib.Utf8Tabs 4 5 w):
 cB 177 #[.int .i64 f,.int .i64 m,.string s] w (XL f m s.data.toList):=by
 have c:s.data.toList.length=s.size:=Array.length_toList;unfold XL;rw[c];split
 ·rename_i h;exact Oj f m s w h.1 h.2.1 h.2.2 b
 ·rename_i h;exact Qp f m s w a h
def fP(W:AA):Prop:=Lib.Utf8Tabs 4 5 W
def TB(w0:AA):Prop:=∀X,AD w0.heap.size w0 X->Ev X/\fP X/\Hr X
theorem TB.of{w0:AA}(b:Ev w0)(c:fP w0)(d:Hr w0):TB w0:=λX a=>⟨b.next a,Utf8Tabs_below c a,d.next a⟩
theorem Fd{w0 W a:AA}{b:Nat}(h:AD w0.heap.size w0 W)(c:W.grownBy a (some b))(d:w0.heap.size<=b):AD w0.heap.size w0 a:=Below.grown h c h.size (λk e=>by cases e;exact d)
theorem CM{W a b:AA}{r:Option Nat}(h:W.grownBy a r)(g:a.grownBy b r):W.grownBy b r:=
 ⟨g.os.trans h.os,g.tape.trans h.tape,g.output.trans h.output,DT h.size g.size,λi c d=>(g.block i (DU c h.size) d).trans (h.block i c d)⟩
theorem CY{W a:AA}(h:AD W.heap.size W a)(r:Option Nat):W.grownBy a r:=⟨h.os,h.tape,h.output,h.size,λk b _=>h.block k b⟩
abbrev Lv(a b:Int):Int:=bits .or .i64 a b
theorem eE{W:AA}{a:Nat}{f m b:Int}(h:St W a f m b)(x:Int):St (W.setCell ⟨a,2,none⟩ (.int .i64 x)) a f m x/\W.grownBy (W.setCell ⟨a,2,none⟩ (.int .i64 x)) (some a):=by
 refine⟨?_,⟨rfl,rfl,rfl,by simp,λk g c=>Below.heap_setCell _ _ _ _ (λe=>c (by rw[e]))⟩⟩;have d:W.heap[a]?=some (.cells #[.int .i64 f,.int .i64 m,.int .i64 b] 32):=h;unfold St World.setCell;simp[Array.getElem?_modify,d]
theorem J2(w0:AA)(G:TB w0)(a:Nat)(H:w0.heap.size<=a)(f m c:Int)(k:Int)(b:Bool)(e:Int)(s:AB)(F:Int)(I:s.size<=4611686018427387904)(w:AA)(n:AD w0.heap.size w0 w)(g:St w a f m c):
 Calls prog 72 #[.pointer (some ⟨a,0,none⟩),BA k b e s F] w λx o=>x=.returned (.string (FI k b e s))/\St o a f m (Lv c F)/\w.grownBy o (some a):=by
 have p:=zq λX J=>Ol k b e s X I (G X J).1;obtain⟨q,r⟩:=eE g (Lv c F);have t:(w.setCell ⟨a,2,none⟩ (.int .i64 (Lv c F))).heap.size=w.heap.size:=by simp
 have h:=Ao (w.setCell ⟨a,2,none⟩ (.int .i64 (Lv c F))) (Ei k b e s F);rw[t] at h;have i:AD (w.setCell ⟨a,2,none⟩ (.int .i64 (Lv c F))).heap.size (w.setCell ⟨a,2,none⟩ (.int .i64 (Lv c F))) ((w.setCell ⟨a,2,none⟩ (.int .i64 (Lv c F))).alloc (Ei k b e s F)).drew:=bA.drew;have j:=CM r (CY i _);have u:=q.next i;have v:((w.setCell ⟨a,2,none⟩ (.int .i64 (Lv c F))).alloc (Ei k b e s F)).drew.heap[w.heap.size]?=some (Ei k b e s F):=h;have d:=eh u j v (Fd n j H);have y:=g.lt;obtain⟨K,L,M,N,O,P⟩:=(g.next ((BI _ _).alloc (AS _) (Ei k b e s F))).cells;have z:=AO (Ao w (Ei k b e s F)) 4;simp only[List.getElem?_toArray,List.getElem?_cons_zero,List.getElem?_cons_succ] at z;have Q:=Nat.ne_of_lt y;clear g q r j h v u i t n;go_enter func72,ntmps72;go_upto_region 1 with fail;go_region;generalize ((w.setCell ⟨a,2,none⟩ (.int .i64 (bits .or .i64 c F))).alloc (Ei k b e s F)).drew=W at*
 have A:=AO d.2.2.1 0;have B:=AO d.2.2.1 1;have C:=AO d.2.2.1 2;have D:=AO d.2.2.1 3;simp only[List.getElem?_toArray,List.getElem?_cons_zero,List.getElem?_cons_succ] at A B C D;clear K L M N O P z Q y;go_wp2_with fail;refine cm (p _ d.2.2.2) λR l=>?_;have E:=Ab (d.1.next l) (CM d.2.1 (CY l _));clear l d p A B C D;go_wp2;go_ret;exact⟨rfl,E.1,E.2⟩
theorem F5{W:AA}{base:Nat}{v:AK}{l:List CQ}(h:DV W base v l)(e:0<l.length):∃g c,v=.slice (some ⟨g,0,none⟩) l.length c/\g<W.heap.size/\base<=g/\∀i n,l[i]?=some n->W.cell? ⟨g,i*4,none⟩=some (.int .i64 n.1)/\W.cell? ⟨g,i*4+1,none⟩=some (.bool n.2.1)/\W.cell? ⟨g,i*4+2,none⟩=some (.int .i64 n.2.2.1)/\W.cell? ⟨g,i*4+3,none⟩=some (.string n.2.2.2):=by
 obtain⟨a,c,rfl,f⟩:=Mf.form h (Wd l);obtain⟨g,rfl,j,k,b⟩:=f e;refine⟨g,c,rfl,k,j,λi n d=>?_⟩;have r:=(List.getElem?_eq_some_iff.1 d).1;obtain⟨m,o,p,q⟩:=nA l i n d;exact⟨(b _ (by omega)).trans m,(b _ (by omega)).trans o,(b _ (by omega)).trans p,(b _ (by omega)).trans q⟩
abbrev US(f:Int)(a b:CQ):Int:=UT f a.1 a.2.1 a.2.2.1 a.2.2.2 b.1 b.2.1 b.2.2.1 b.2.2.2
abbrev Wg(n:CQ):AK:=.agg #[.int .i64 n.1,.bool n.2.1,.int .i64 n.2.2.1,.string n.2.2.2]
def o3(c:Nat)(f:Int)(g d:Nat)(a b:CQ)(j:Nat)(v:AK):Prop:=match j with
 |0=>v=(.pointer (some ⟨c,0,none⟩):AK)
 |1=>v=(.pointer (some ⟨c,0,none⟩):AK)
 |2=>v=(.pointer (some ⟨c,0,none⟩):AK)
 |3=>v=(.int .i64 f:AK)
 |4=>v=(.slice (some ⟨g,0,none⟩) 2 d:AK)
 |5=>v=(.pointer (some ⟨g,0,none⟩):AK)
 |6=>v=Wg a
 |7=>v=(.slice (some ⟨g,0,none⟩) 2 d:AK)
 |8=>v=(.pointer (some ⟨g,4,none⟩):AK)
 |9=>v=Wg b
 |10=>v=(.int .i64 (US f a b):AK)
 |11=>v=(.string ⟨(Lib.itoa (US f a b)).toArray⟩:AK)
 |12=>v=(.string ⟨(Lib.itoa (US f a b)).toArray⟩:AK)
 |_=>True
theorem OH(w0:AA)(D:TB w0)(q:Nat)(f m E:Int)(a b:CQ)(M:a.2.2.2.size<=4611686018427387904)(N:b.2.2.2.size<=4611686018427387904)(O:-7000<=US f a b/\US f a b<=7000)(base:Nat)(v:AK)(w:AA)(x:AD w0.heap.size w0 w)(F:St w q f m E)(G:DV w base v [a,b]):
 cB 39 #[.pointer (some ⟨q,0,none⟩),v] w (.string ⟨(Lib.itoa (US f a b)).toArray⟩):=by
 obtain⟨g,y,rfl,z,af,H⟩:=F5 G (by simp);simp only[List.length_cons,List.length_nil,Nat.zero_add,Nat.reduceAdd];have P:∀X,AD w.heap.size w X->cB 104 #[.int .i64 f,Wg a,Wg b] X (.int .i64 (US f a b)):=λX p=>Od f a.1 a.2.1 a.2.2.1 a.2.2.2 b.1 b.2.1 b.2.2.1 b.2.2.2 X M N (D X (x.trans (p.mono x.size))).2.2;have Q:∀X,AD w.heap.size w X->cB 103 #[.int .i64 (US f a b),.int .i64 10] X (.string ⟨(Lib.itoa (US f a b)).toArray⟩):=λX p=>Fc _ O X (D X (x.trans (p.mono x.size))).1;have R:∀args X,(callFunc 104 args).run prog X=.ok (.enter 104 args) X:=λ_ _=>rfl;have S:Hid (∀X,AD w.heap.size w X->St X q f m E/\∀i n,[a,b][i]?=some n->X.cell? ⟨g,i*4,none⟩=some (.int .i64 n.1)/\X.cell? ⟨g,i*4+1,none⟩=some (.bool n.2.1)/\X.cell? ⟨g,i*4+2,none⟩=some (.int .i64 n.2.2.1)/\X.cell? ⟨g,i*4+3,none⟩=some (.string n.2.2.2)):=λX p=>by
  refine⟨F.next p,λi n T=>?_⟩;obtain⟨r,s,t,u⟩:=H i n T;exact⟨(p.cell z).trans r,(p.cell z).trans s,(p.cell z).trans t,(p.cell z).trans u⟩
 clear H G F x;go_enter func39,ntmps39;go_upto_region 1 with fail;refine Bx [5,6,7,8,9,10,11,12,13,14,15,16,4] (λj v _=>o3 q f g y a b j v) (λ_ X=>AD w.heap.size w X) (λ_ _=>True) (by kernel_rfl) (by kernel_rfl) (BI _ _).drew (λ_ _ _ _ _ h=>h) ?_ ?_
 ·intro i o U e X A ag ah c I l K k;obtain⟨V,J⟩:=S X c;obtain⟨W,c1,c2,-,-,-⟩:=V.cells;have ak:i<13:=(Array.getElem?_eq_some_iff.1 A).1;have Y:e.tmps.getD 0 undef=.pointer (some ⟨q,0,none⟩):=by
   rw[Array.getD_eq_getD_getElem?,I.2.2 0 (by decide)];rfl
  have L:e.tmps.getD 1 undef=.slice (some ⟨g,0,none⟩) 2 y:=by
   rw[Array.getD_eq_getD_getElem?,I.2.2 1 (by decide)];rfl
  rcases(show i=0\/i=1\/i=2\/i=3\/i=4\/i=5\/i=6\/i=7\/i=8\/i=9\/i=10\/i=11\/i=12 by omega) with rfl|rfl|rfl|rfl|rfl|rfl|rfl|rfl|rfl|rfl|rfl|rfl|rfl
  all_goals
   simp only[List.getElem?_toArray,List.getElem?_cons_succ,List.getElem?_cons_zero,Option.some.injEq] at A;subst A
  ·unfold Oper.wp;simp[execOp,go_sem,Act.eval,Y];exact k _ _ rfl c trivial
  ·have d:(e.tmps.getD 5 undef)=(.pointer (some ⟨q,0,none⟩):AK):=l ⟨0,.data⟩ (by simp) rfl;unfold Oper.wp;simp[execOp,go_sem,Act.eval,d];exact k _ _ rfl c trivial
  ·have d:(e.tmps.getD 6 undef)=(.pointer (some ⟨q,0,none⟩):AK):=l ⟨1,.data⟩ (by simp) rfl;unfold Oper.wp;simp[execOp,go_sem,Act.eval,d];exact k _ _ rfl c trivial
  ·have d:(e.tmps.getD 7 undef)=(.pointer (some ⟨q,0,none⟩):AK):=l ⟨2,.data⟩ (by simp) rfl;unfold Oper.wp;simp[execOp,go_sem,Act.eval,d,W];exact k _ _ rfl c trivial
  ·unfold Oper.wp;simp[execOp,go_sem,Act.eval,L];exact k _ _ rfl c trivial
  ·have d:(e.tmps.getD 9 undef)=(.slice (some ⟨g,0,none⟩) 2 y:AK):=l ⟨4,.data⟩ (by simp) rfl;unfold Oper.wp;simp[execOp,go_sem,Act.eval,d];exact k _ _ rfl c trivial
  ·have d:(e.tmps.getD 10 undef)=(.pointer (some ⟨g,0,none⟩):AK):=l ⟨5,.data⟩ (by simp) rfl;obtain⟨r,s,t,u⟩:=J 0 a rfl;simp only[Nat.zero_mul,Nat.zero_add,Nat.one_mul,Nat.reduceMul,Nat.reduceAdd] at r s t u;unfold Oper.wp;simp[execOp,go_sem,Act.eval,d,r,s,t,u];exact k _ _ rfl c trivial
  ·unfold Oper.wp;simp[execOp,go_sem,Act.eval,L];exact k _ _ rfl c trivial
  ·have d:(e.tmps.getD 12 undef)=(.slice (some ⟨g,0,none⟩) 2 y:AK):=l ⟨7,.data⟩ (by simp) rfl;unfold Oper.wp;simp[execOp,go_sem,Act.eval,d];exact k _ _ rfl c trivial
  ·have d:(e.tmps.getD 13 undef)=(.pointer (some ⟨g,4,none⟩):AK):=l ⟨8,.data⟩ (by simp) rfl;obtain⟨r,s,t,u⟩:=J 1 b rfl;simp only[Nat.zero_mul,Nat.zero_add,Nat.one_mul,Nat.reduceMul,Nat.reduceAdd] at r s t u;unfold Oper.wp;simp[execOp,go_sem,Act.eval,d,r,s,t,u];exact k _ _ rfl c trivial
  ·have B:(e.tmps.getD 8 undef)=(.int .i64 f:AK):=l ⟨3,.data⟩ (by simp) rfl;have Z:(e.tmps.getD 11 undef)=Wg a:=l ⟨6,.data⟩ (by simp) rfl;have d3:(e.tmps.getD 14 undef)=Wg b:=l ⟨9,.data⟩ (by simp) rfl;unfold Oper.wp;simp[execOp,go_sem,Act.eval,B,Z,d3,R];refine cm (P _ c) λw' C=>?_;exact k _ _ rfl (c.trans (C.mono c.size)) trivial
  ·have B:(e.tmps.getD 15 undef)=(.int .i64 (US f a b):AK):=l ⟨10,.data⟩ (by simp) rfl;unfold Oper.wp;simp[execOp,go_sem,Act.eval,B];refine cm (Q _ c) λw' C=>?_;exact k _ _ rfl (c.trans (C.mono c.size)) trivial
  ·have d:(e.tmps.getD 16 undef)=(.string ⟨(Lib.itoa (US f a b)).toArray⟩:AK):=l ⟨11,.data⟩ (by simp) rfl;unfold Oper.wp;simp[execOp,go_sem,Act.eval,d];exact k _ _ rfl c trivial
 ·intro fV U X al c hl;have h4:fV 4=.string ⟨(Lib.itoa (US f a b)).toArray⟩:=hl 12 4 rfl;simp only[C3,Act.put,h4,List.setIfInBounds_toArray,List.set_cons_succ,List.set_cons_zero];simp only[Exit.then];go_wp2;go_ret;exact⟨rfl,c⟩
theorem NE(w0:AA)(n:TB w0)(a:Nat)(o:w0.heap.size<=a)(f m b:Int)(p:-7000<=b/\b<=7000)(v:AK)(w:AA)(h:AD w0.heap.size w0 w)(d:St w a f m b):
 Calls prog 41 #[.pointer (some ⟨a,0,none⟩),v] w λx i=>x=.returned (.tuple #[.string ⟨(Lib.itoa b).toArray⟩,.nilIface])/\St i a f m 0/\w.grownBy i (some a):=by
 obtain⟨j,e⟩:=eE d 0;have k:=zq λX q=>Fc _ p X (n X q).1;have c:=J9 j e (Fd h e o);obtain⟨r,s,t,u,y,z⟩:=d.cells;clear d j e h;go_enter func41,ntmps41;go_upto_region 3 with fail;generalize (w.setCell ⟨a,2,none⟩ (.int .i64 0))=W at*
 clear r s t u y z;go_wp2_with fail;refine cm (k _ c.2.2) λA g=>?_;have l:=Ab (c.1.next g) (CM c.2.1 (CY g _));clear g c k;go_wp2;go_ret2;exact⟨rfl,l.1,l.2⟩
abbrev Kn(n:CQ):AK:=.agg #[.int .i64 n.1,.bool n.2.1,.int .i64 n.2.2.1,.string n.2.2.2]
theorem YQ{w:AA}{a p q F g:Nat}{f m k:Int}{T:TypeId}{L:List CQ}(j:St w a f m k)(c:w.heap[p]?=some (.cells #[.pointer (some ⟨a,0,none⟩)] 55))(d:w.heap[q]?=some (.cells #[.func (.func F) #[] #[]] T))(l:g≠a)
 (o:∀(i:Nat) n,L[i]?=some n->w.cell? ⟨g,i*4,none⟩=some (.int .i64 n.1)/\w.cell? ⟨g,i*4+1,none⟩=some (.bool n.2.1)/\w.cell? ⟨g,i*4+2,none⟩=some (.int .i64 n.2.2.1)/\w.cell? ⟨g,i*4+3,none⟩=some (.string n.2.2.2)):
 Hid (∀X,w.grownBy X (some a)->X.cell? ⟨p,0,none⟩=some (.pointer (some ⟨a,0,none⟩))/\X.cell? ⟨q,0,none⟩=some (.func (.func F) #[] #[])/\∀(i:Nat) n,L[i]?=some n->X.cell? ⟨g,i*4,none⟩=some (.int .i64 n.1)/\X.cell? ⟨g,i*4+1,none⟩=some (.bool n.2.1)/\X.cell? ⟨g,i*4+2,none⟩=some (.int .i64 n.2.2.1)/\X.cell? ⟨g,i*4+3,none⟩=some (.string n.2.2.2)):=λX b=>by
 have r:=(Array.getElem?_eq_some_iff.1 c).1;have s:=(Array.getElem?_eq_some_iff.1 d).1;have t:p≠a:=λq=>by rw[q] at c;rw[show w.heap[a]?=_ from j] at c;simp at c
 have u:q≠a:=λx=>by rw[x] at d;rw[show w.heap[a]?=_ from j] at d;simp at d
 have e:¬some g=some a:=λh=>l (Gy h);refine⟨AO ((b.block p r (λh=>t (Gy h))).trans c) 0,AO ((b.block q s (λh=>u (Gy h))).trans d) 0,λi n v=>?_⟩;obtain⟨y,z,A,B⟩:=o i n v;exact⟨b.cell y e,b.cell z e,b.cell A e,b.cell B e⟩
def oi(a:Nat)(f m:Int)(F g c:Nat)(d:CQ)(k:Int)(b:Bool)(e:Int)(s:AB)(h:Int)(j:Nat)(v:AK):Prop:=match j with
 |0=>v=(.pointer (some ⟨a,0,none⟩):AK)
 |1=>v=(.func (.func F) #[] #[]:AK)
 |2=>v=(.pointer (some ⟨a,0,none⟩):AK)
 |3=>v=(.pointer (some ⟨a,0,none⟩):AK)
 |4=>v=(.pointer (some ⟨a,0,none⟩):AK)
 |5=>v=(.int .i64 f:AK)
 |6=>v=(.pointer (some ⟨a,0,none⟩):AK)
 |7=>v=(.pointer (some ⟨a,0,none⟩):AK)
 |8=>v=(.pointer (some ⟨a,1,none⟩):AK)
 |9=>v=(.int .i64 m:AK)
 |10=>v=(.slice (some ⟨g,0,none⟩) 1 c:AK)
 |11=>v=(.pointer (some ⟨g,0,none⟩):AK)
 |12=>v=Kn d
 |13=>v=BA k b e s h
 |14=>v=(.string (FI k b e s):AK)
 |15=>v=(.string (FI k b e s):AK)
 |_=>True
theorem eI(w0:AA)(hT:TB w0)(a:Nat)(P:w0.heap.size<=a)(f m c:Int)(C:CQ)(F:Nat)(k:Int)(b:Bool)(e:Int)(s:AB)(d:Int)(hs:s.size<=4611686018427387904)(p q base:Nat)(v:AK)(w:AA)(Q:AD w0.heap.size w0 w)(n:St w a f m c)
 (R:w.heap[p]?=some (.cells #[.pointer (some ⟨a,0,none⟩)] 55)) (S:w.heap[q]?=some (.cells #[.func (.func F) #[] #[]] 64)) (T:DV w base v [C]) (az:a<base)
 (hE:∀args X,(callFunc F args).run prog X=.ok (.enter F args) X)
 (hF:∀X,AD w0.heap.size w0 X->cB F #[.int .i64 f,.int .i64 m,Kn C] X (BA k b e s d)):
 Calls prog 91 #[v,.pointer (some ⟨p,0,none⟩),.pointer (some ⟨q,0,none⟩)] w λx t=>x=.returned (.string (FI k b e s))/\St t a f m (Lv c d)/\w.grownBy t (some a):=by
 obtain⟨g,U,rfl,aA,aB,V⟩:=F5 T (by simp);simp only[List.length_cons,List.length_nil,Nat.zero_add,Nat.reduceAdd];have af:∀X,AD w0.heap.size w0 X->St X a f m c->Calls prog 72 #[.pointer (some ⟨a,0,none⟩),BA k b e s d] X λx t=>x=.returned (.string (FI k b e s))/\St t a f m (Lv c d)/\X.grownBy t (some a):=λX I D=>J2 w0 hT a P f m c k b e s d hs X I D;have HG:=YQ n R S (show g≠a by omega) V;have ah:Hid (St w.drew a f m c/\w.grownBy w.drew (some a)/\AD w0.heap.size w0 w.drew):=⟨n,⟨rfl,rfl,rfl,AS _,λ_ _ _=>rfl⟩,Q.drew⟩;clear V T R S n Q;go_enter func91,ntmps91;go_upto_region 1 with fail;refine Bx [5,6,7,8,9,10,11,12,13,14,15,16,17,18,19,4] (λj v _=>oi a f m F g U C k b e s d j v) (λA X=>∃x,x=(if A.getD 14 true then Lv c d else c)/\St X a f m x/\w.grownBy X (some a)/\AD w0.heap.size w0 X) (λ_ _=>True) (by kernel_rfl) (by kernel_rfl) ⟨c,rfl,ah⟩ (λ_ _ _ _ _ h=>h) ?_ ?_
 ·intro i o A J X L ai aj n M W K N;obtain⟨x,l,u,B,y⟩:=n;obtain⟨y0,y1,Y⟩:=HG X B;obtain⟨c0,c1,c2,-,-,-⟩:=u.cells;have aD:i<16:=(Array.getElem?_eq_some_iff.1 L).1;have ao:A.size=16:=ai;have p0:J.tmps.getD 0 undef=.slice (some ⟨g,0,none⟩) 1 U:=by
   rw[Array.getD_eq_getD_getElem?,M.2.2 0 (by decide)];rfl
  have p1:J.tmps.getD 1 undef=.pointer (some ⟨p,0,none⟩):=by
   rw[Array.getD_eq_getD_getElem?,M.2.2 1 (by decide)];rfl
  have p2:J.tmps.getD 2 undef=.pointer (some ⟨q,0,none⟩):=by
   rw[Array.getD_eq_getD_getElem?,M.2.2 2 (by decide)];rfl
  have Z:∀j,j≠14->j<16->∀z,St z a f m x->w.grownBy z (some a)->AD w0.heap.size w0 z->(∃x,x=(if (A.setIfInBounds j true).getD 14 true then Lv c d else c)/\St z a f m x/\w.grownBy z (some a)/\AD w0.heap.size w0 z):=λj hj aE z E G H=>⟨x,by rw[Go.getD_set_ne true hj];exact l,E,G,H⟩;obtain⟨a0,E,G,H⟩:=Y 0 C rfl;simp only[Nat.zero_mul,Nat.zero_add,Nat.one_mul,Nat.reduceMul,Nat.reduceAdd] at a0 E G H;clear Y;rcases(show i=0\/i=1\/i=2\/i=3\/i=4\/i=5\/i=6\/i=7\/i=8\/i=9\/i=10\/i=11\/i=12\/i=13\/i=14\/i=15 by omega) with rfl|rfl|rfl|rfl|rfl|rfl|rfl|rfl|rfl|rfl|rfl|rfl|rfl|rfl|rfl|rfl
  all_goals
   simp only[List.getElem?_toArray,List.getElem?_cons_succ,List.getElem?_cons_zero,Option.some.injEq] at L;subst L;simp[Region.binds,oi,PE] at W;unfold Oper.wp;simp[execOp,go_sem,Act.eval,p0,p1,p2,y0,y1,c0,c1,hE,W,a0,E,G,H];try exact N _ _ rfl (Z _ (by decide) (by decide) _ u B y) trivial
  ·refine cm (hF _ y) λt O=>?_;exact N _ _ rfl (Z 13 (by decide) (by decide) _ (u.next O) (CM B (CY O _)) (y.trans (O.mono y.size))) trivial
  ·rw[aj] at l;simp only[Bool.false_eq_true,if_false] at l;rw[l] at u;refine(af _ y u).mono ?_;rintro r t ⟨rfl,I,D⟩;exact N _ _ rfl ⟨Lv c d,by rw[show(A.setIfInBounds 14 true).getD 14 true=true by simp[Array.getD,ao]];rfl,I,CM B D,Fd y D P⟩ trivial
 ·intro fV A X aw n hl;obtain⟨x,l,u,B,y⟩:=n;rw[aw 14 (by decide)] at l;simp only[if_true] at l;subst l;have h4:fV 4=.string (FI k b e s):=hl 15 4 rfl;simp only[C3,Act.put,h4,List.setIfInBounds_toArray,List.set_cons_succ,List.set_cons_zero];simp only[Exit.then];go_wp2;go_ret;exact⟨rfl,u,B⟩
def oj(a:Nat)(f m:Int)(F g c:Nat)(d h:CQ)(k:Int)(b:Bool)(e:Int)(s:AB)(i:Int)(j:Nat)(v:AK):Prop:=match j with
 |0=>v=(.pointer (some ⟨a,0,none⟩):AK)
 |1=>v=(.func (.func F) #[] #[]:AK)
 |2=>v=(.pointer (some ⟨a,0,none⟩):AK)
 |3=>v=(.pointer (some ⟨a,0,none⟩):AK)
 |4=>v=(.pointer (some ⟨a,0,none⟩):AK)
 |5=>v=(.int .i64 f:AK)
 |6=>v=(.pointer (some ⟨a,0,none⟩):AK)
 |7=>v=(.pointer (some ⟨a,0,none⟩):AK)
 |8=>v=(.pointer (some ⟨a,1,none⟩):AK)
 |9=>v=(.int .i64 m:AK)
 |10=>v=(.slice (some ⟨g,0,none⟩) 2 c:AK)
 |11=>v=(.pointer (some ⟨g,0,none⟩):AK)
 |12=>v=Kn d
 |13=>v=(.slice (some ⟨g,0,none⟩) 2 c:AK)
 |14=>v=(.pointer (some ⟨g,4,none⟩):AK)
 |15=>v=Kn h
 |16=>v=BA k b e s i
 |17=>v=(.string (FI k b e s):AK)
 |18=>v=(.string (FI k b e s):AK)
 |_=>True
theorem MW(w0:AA)(hT:TB w0)(a:Nat)(R:w0.heap.size<=a)(f m c:Int)(C D:CQ)(F:Nat)(k:Int)(b:Bool)(e:Int)(s:AB)(d:Int)(hs:s.size<=4611686018427387904)(p q base:Nat)(v:AK)(w:AA)(S:AD w0.heap.size w0 w)(n:St w a f m c)
 (T:w.heap[p]?=some (.cells #[.pointer (some ⟨a,0,none⟩)] 55)) (U:w.heap[q]?=some (.cells #[.func (.func F) #[] #[]] 60)) (V:DV w base v [C,D]) (aE:a<base)
 (hE:∀args X,(callFunc F args).run prog X=.ok (.enter F args) X)
 (hF:∀X,AD w0.heap.size w0 X->cB F #[.int .i64 f,.int .i64 m,Kn C,Kn D] X (BA k b e s d)):
 Calls prog 71 #[v,.pointer (some ⟨p,0,none⟩),.pointer (some ⟨q,0,none⟩)] w λx t=>x=.returned (.string (FI k b e s))/\St t a f m (Lv c d)/\w.grownBy t (some a):=by
 obtain⟨g,W,rfl,aF,aG,Y⟩:=F5 V (by simp);simp only[List.length_cons,List.length_nil,Nat.zero_add,Nat.reduceAdd];have ak:∀X,AD w0.heap.size w0 X->St X a f m c->Calls prog 72 #[.pointer (some ⟨a,0,none⟩),BA k b e s d] X λx t=>x=.returned (.string (FI k b e s))/\St t a f m (Lv c d)/\X.grownBy t (some a):=λX J E=>J2 w0 hT a R f m c k b e s d hs X J E;have HG:=YQ n T U (show g≠a by omega) Y;have am:Hid (St w.drew a f m c/\w.grownBy w.drew (some a)/\AD w0.heap.size w0 w.drew):=⟨n,⟨rfl,rfl,rfl,AS _,λ_ _ _=>rfl⟩,S.drew⟩;clear Y V T U n S;go_enter func71,ntmps71;go_upto_region 1 with fail;refine Bx [5,6,7,8,9,10,11,12,13,14,15,16,17,18,19,20,21,22,4] (λj v _=>oj a f m F g W C D k b e s d j v) (λA X=>∃x,x=(if A.getD 17 true then Lv c d else c)/\St X a f m x/\w.grownBy X (some a)/\AD w0.heap.size w0 X) (λ_ _=>True) (by kernel_rfl) (by kernel_rfl) ⟨c,rfl,am⟩ (λ_ _ _ _ _ h=>h) ?_ ?_
 ·intro i o A L X M an ao n N Z K O;obtain⟨x,l,u,B,y⟩:=n;obtain⟨y0,y1,P⟩:=HG X B;obtain⟨c0,c1,c2,-,-,-⟩:=u.cells;have aI:i<19:=(Array.getElem?_eq_some_iff.1 M).1;have av:A.size=19:=an;have p0:L.tmps.getD 0 undef=.slice (some ⟨g,0,none⟩) 2 W:=by
   rw[Array.getD_eq_getD_getElem?,N.2.2 0 (by decide)];rfl
  have p1:L.tmps.getD 1 undef=.pointer (some ⟨p,0,none⟩):=by
   rw[Array.getD_eq_getD_getElem?,N.2.2 1 (by decide)];rfl
  have p2:L.tmps.getD 2 undef=.pointer (some ⟨q,0,none⟩):=by
   rw[Array.getD_eq_getD_getElem?,N.2.2 2 (by decide)];rfl
  have aa:∀j,j≠17->j<19->∀z,St z a f m x->w.grownBy z (some a)->AD w0.heap.size w0 z->(∃x,x=(if (A.setIfInBounds j true).getD 17 true then Lv c d else c)/\St z a f m x/\w.grownBy z (some a)/\AD w0.heap.size w0 z):=λj hj aJ z G H I=>⟨x,by rw[Go.getD_set_ne true hj];exact l,G,H,I⟩;obtain⟨a0,G,H,I⟩:=P 0 C rfl;obtain⟨b0,b1,b2,b3⟩:=P 1 D rfl;simp only[Nat.zero_mul,Nat.zero_add,Nat.one_mul,Nat.reduceMul,Nat.reduceAdd] at a0 G H I b0 b1 b2 b3;clear P;rcases(show i=0\/i=1\/i=2\/i=3\/i=4\/i=5\/i=6\/i=7\/i=8\/i=9\/i=10\/i=11\/i=12\/i=13\/i=14\/i=15\/i=16\/i=17\/i=18 by omega) with rfl|rfl|rfl|rfl|rfl|rfl|rfl|rfl|rfl|rfl|rfl|rfl|rfl|rfl|rfl|rfl|rfl|rfl|rfl
  all_goals
   simp only[List.getElem?_toArray,List.getElem?_cons_succ,List.getElem?_cons_zero,Option.some.injEq] at M;subst M;simp[Region.binds,oj,PE] at Z;unfold Oper.wp;simp[execOp,go_sem,Act.eval,p0,p1,p2,y0,y1,c0,c1,hE,Z,a0,G,H,I,b0,b1,b2,b3];try exact O _ _ rfl (aa _ (by decide) (by decide) _ u B y) trivial
  ·refine cm (hF _ y) λt Q=>?_;exact O _ _ rfl (aa 16 (by decide) (by decide) _ (u.next Q) (CM B (CY Q _)) (y.trans (Q.mono y.size))) trivial
  ·rw[ao] at l;simp only[Bool.false_eq_true,if_false] at l;rw[l] at u;refine(ak _ y u).mono ?_;rintro r t ⟨rfl,J,E⟩;exact O _ _ rfl ⟨Lv c d,by rw[show(A.setIfInBounds 17 true).getD 17 true=true by simp[Array.getD,av]];rfl,J,CM B E,Fd y E R⟩ trivial
 ·intro fV A X aB n hl;obtain⟨x,l,u,B,y⟩:=n;rw[aB 17 (by decide)] at l;simp only[if_true] at l;subst l;have h4:fV 4=.string (FI k b e s):=hl 18 4 rfl;simp only[C3,Act.put,h4,List.setIfInBounds_toArray,List.set_cons_succ,List.set_cons_zero];simp only[Exit.then];go_wp2;go_ret;exact⟨rfl,u,B⟩
def ol(a:Nat)(f m:Int)(F g c:Nat)(d h i:CQ)(k:Int)(b:Bool)(e:Int)(s:AB)(l:Int)(j:Nat)(v:AK):Prop:=match j with
 |0=>v=(.pointer (some ⟨a,0,none⟩):AK)
 |1=>v=(.func (.func F) #[] #[]:AK)
 |2=>v=(.pointer (some ⟨a,0,none⟩):AK)
 |3=>v=(.pointer (some ⟨a,0,none⟩):AK)
 |4=>v=(.pointer (some ⟨a,0,none⟩):AK)
 |5=>v=(.int .i64 f:AK)
 |6=>v=(.pointer (some ⟨a,0,none⟩):AK)
 |7=>v=(.pointer (some ⟨a,0,none⟩):AK)
 |8=>v=(.pointer (some ⟨a,1,none⟩):AK)
 |9=>v=(.int .i64 m:AK)
 |10=>v=(.slice (some ⟨g,0,none⟩) 3 c:AK)
 |11=>v=(.pointer (some ⟨g,0,none⟩):AK)
 |12=>v=Kn d
 |13=>v=(.slice (some ⟨g,0,none⟩) 3 c:AK)
 |14=>v=(.pointer (some ⟨g,4,none⟩):AK)
 |15=>v=Kn h
 |16=>v=(.slice (some ⟨g,0,none⟩) 3 c:AK)
 |17=>v=(.pointer (some ⟨g,8,none⟩):AK)
 |18=>v=Kn i
 |19=>v=BA k b e s l
 |20=>v=(.string (FI k b e s):AK)
 |21=>v=(.string (FI k b e s):AK)
 |_=>True
theorem l9(w0:AA)(hT:TB w0)(a:Nat)(S:w0.heap.size<=a)(f m c:Int)(C D E:CQ)(F:Nat)(k:Int)(b:Bool)(e:Int)(s:AB)(d:Int)(hs:s.size<=4611686018427387904)(p q base:Nat)(v:AK)(w:AA)(T:AD w0.heap.size w0 w)(n:St w a f m c)
 (U:w.heap[p]?=some (.cells #[.pointer (some ⟨a,0,none⟩)] 55)) (V:w.heap[q]?=some (.cells #[.func (.func F) #[] #[]] 62)) (W:DV w base v [C,D,E]) (aJ:a<base)
 (hE:∀args X,(callFunc F args).run prog X=.ok (.enter F args) X)
 (hF:∀X,AD w0.heap.size w0 X->cB F #[.int .i64 f,.int .i64 m,Kn C,Kn D,Kn E] X (BA k b e s d)):
 Calls prog 89 #[v,.pointer (some ⟨p,0,none⟩),.pointer (some ⟨q,0,none⟩)] w λx t=>x=.returned (.string (FI k b e s))/\St t a f m (Lv c d)/\w.grownBy t (some a):=by
 obtain⟨g,Y,rfl,aK,aL,Z⟩:=F5 W (by simp);simp only[List.length_cons,List.length_nil,Nat.zero_add,Nat.reduceAdd];have ap:∀X,AD w0.heap.size w0 X->St X a f m c->Calls prog 72 #[.pointer (some ⟨a,0,none⟩),BA k b e s d] X λx t=>x=.returned (.string (FI k b e s))/\St t a f m (Lv c d)/\X.grownBy t (some a):=λX M G=>J2 w0 hT a S f m c k b e s d hs X M G;have HG:=YQ n U V (show g≠a by omega) Z;have ar:Hid (St w.drew a f m c/\w.grownBy w.drew (some a)/\AD w0.heap.size w0 w.drew):=⟨n,⟨rfl,rfl,rfl,AS _,λ_ _ _=>rfl⟩,T.drew⟩;clear Z W U V n T;go_enter func89,ntmps89;go_upto_region 1 with fail;refine Bx [5,6,7,8,9,10,11,12,13,14,15,16,17,18,19,20,21,22,23,24,25,4] (λj v _=>ol a f m F g Y C D E k b e s d j v) (λA X=>∃x,x=(if A.getD 20 true then Lv c d else c)/\St X a f m x/\w.grownBy X (some a)/\AD w0.heap.size w0 X) (λ_ _=>True) (by kernel_rfl) (by kernel_rfl) ⟨c,rfl,ar⟩ (λ_ _ _ _ _ h=>h) ?_ ?_
 ·intro i o A N X O au av n P hd K Q;obtain⟨x,l,u,B,y⟩:=n;obtain⟨y0,y1,H⟩:=HG X B;obtain⟨c0,c1,c2,-,-,-⟩:=u.cells;have aN:i<22:=(Array.getElem?_eq_some_iff.1 O).1;have aA:A.size=22:=au;have p0:N.tmps.getD 0 undef=.slice (some ⟨g,0,none⟩) 3 Y:=by
   rw[Array.getD_eq_getD_getElem?,P.2.2 0 (by decide)];rfl
  have p1:N.tmps.getD 1 undef=.pointer (some ⟨p,0,none⟩):=by
   rw[Array.getD_eq_getD_getElem?,P.2.2 1 (by decide)];rfl
  have p2:N.tmps.getD 2 undef=.pointer (some ⟨q,0,none⟩):=by
   rw[Array.getD_eq_getD_getElem?,P.2.2 2 (by decide)];rfl
  have ab:∀j,j≠20->j<22->∀z,St z a f m x->w.grownBy z (some a)->AD w0.heap.size w0 z->(∃x,x=(if (A.setIfInBounds j true).getD 20 true then Lv c d else c)/\St z a f m x/\w.grownBy z (some a)/\AD w0.heap.size w0 z):=λj hj aO z I J L=>⟨x,by rw[Go.getD_set_ne true hj];exact l,I,J,L⟩;obtain⟨a0,I,J,L⟩:=H 0 C rfl;obtain⟨b0,b1,b2,b3⟩:=H 1 D rfl;obtain⟨e0,e1,e2,e3⟩:=H 2 E rfl;simp only[Nat.zero_mul,Nat.zero_add,Nat.one_mul,Nat.reduceMul,Nat.reduceAdd] at a0 I J L b0 b1 b2 b3 e0 e1 e2 e3;clear H;rcases(show i=0\/i=1\/i=2\/i=3\/i=4\/i=5\/i=6\/i=7\/i=8\/i=9\/i=10\/i=11\/i=12\/i=13\/i=14\/i=15\/i=16\/i=17\/i=18\/i=19\/i=20\/i=21 by omega) with rfl|rfl|rfl|rfl|rfl|rfl|rfl|rfl|rfl|rfl|rfl|rfl|rfl|rfl|rfl|rfl|rfl|rfl|rfl|rfl|rfl|rfl
  all_goals
   simp only[List.getElem?_toArray,List.getElem?_cons_succ,List.getElem?_cons_zero,Option.some.injEq] at O;subst O;simp[Region.binds,ol,PE] at hd;unfold Oper.wp;simp[execOp,go_sem,Act.eval,p0,p1,p2,y0,y1,c0,c1,hE,hd,a0,I,J,L,b0,b1,b2,b3,e0,e1,e2,e3];try exact Q _ _ rfl (ab _ (by decide) (by decide) _ u B y) trivial
  ·refine cm (hF _ y) λt R=>?_;exact Q _ _ rfl (ab 19 (by decide) (by decide) _ (u.next R) (CM B (CY R _)) (y.trans (R.mono y.size))) trivial
  ·rw[av] at l;simp only[Bool.false_eq_true,if_false] at l;rw[l] at u;refine(ap _ y u).mono ?_;rintro r t ⟨rfl,M,G⟩;exact Q _ _ rfl ⟨Lv c d,by rw[show(A.setIfInBounds 20 true).getD 20 true=true by simp[Array.getD,aA]];rfl,M,CM B G,Fd y G S⟩ trivial
 ·intro fV A X aG n hl;obtain⟨x,l,u,B,y⟩:=n;rw[aG 20 (by decide)] at l;simp only[if_true] at l;subst l;have h4:fV 4=.string (FI k b e s):=hl 21 4 rfl;simp only[C3,Act.put,h4,List.setIfInBounds_toArray,List.set_cons_succ,List.set_cons_zero];simp only[Exit.then];go_wp2;go_ret;exact⟨rfl,u,B⟩
theorem Kl(n:Int)(w:AA):cE 69 #[.int .i64 n] w (.bool (decide (n=64\/n=128))):=by
 by_cases h:n=64\/n=128
 ·obtain⟨V,c⟩:=OX n h;have a:=zq (c w);have b:=zq (Bz h);rw[b];clear c h;go_enter func69,ntmps69;go_wp2_with fail;refine a.mono ?_;rintro e d ⟨rfl,rfl⟩;go_wp2;go_ret;exact⟨rfl,rfl⟩
 ·have b:=zq (By h);rw[b];have a:=zq (It n w (λq=>h (.inl q)) (λq=>h (.inr q)));clear h;go_enter func69,ntmps69;go_wp2_with fail;refine ce a ?_;go_wp2;go_ret;exact⟨rfl,rfl⟩
theorem Mw(n:Int)(w:AA):cB 70 #[.int .i64 n] w (.bool (decide (1<=n/\n<=5))):=by
 have c:=zq (Q8 n w);generalize decide (1<=n/\n<=5)=d at*
 go_enter func70,ntmps70;go_wp2_with fail;refine c.mono ?_;rintro e a ⟨v,f,rfl,b⟩;have h:=Gb a (.cells #[.nilFunc] 177);have i:(#[v]:Array AK).all (·.oneCell')=true:=by simp[f]
 have g:Hid (AD w.heap.size w (a.alloc (.cells #[.nilFunc] 177))/\w.heap.size<=a.heap.size):=⟨b.alloc b.size _,b.size⟩;clear c b f;go_wp2_with (refine wpList_store_row rfl 177 _ _ rfl a.heap.size #[v] rfl rfl _ _ h (by kernel_rfl) rfl i ?_);go_ret;exact⟨rfl,AC g.1 g.2 _⟩
def o2(s:AB)(d:Int->Bool)(e:Ending):Prop:=∃n b,jR s n b/\((b=true/\d n=true/\e=.returned (.tuple #[.int .i64 n,.nilIface]))\/(¬(b=true/\d n=true)/\e=.returned (.tuple #[.int .i64 0,Jm s 2])))
theorem Gk(s:AB)(v:s.size<=100000)(F:Nat)(d:Int->Bool)(z:∀args X,(callFunc F args).run prog X=.ok (.enter F args) X)
 (g:∀n X,cB F #[.int .i64 n] X (.bool (d n))) (w:AA) (h:EV w) (i:Ev w):
 Calls prog 68 #[.string s,.func (.func F) #[] #[]] w λe x=>o2 s d e/\AD w.heap.size w x:=by
 have j:=zq (ME s v w h i);have k:=zq g;clear h i g;go_enter func68,ntmps68;go_wp2_with fail;refine j.mono ?_;rintro e l ⟨⟨n,b,rfl,c⟩,m⟩;have a:=zq m;have o:=zq (Cy s 2 l);clear m j;cases b with
 |false=>
  go_wp2_with (first|(go_at_call 109;refine o.mono ?_;rintro e p ⟨rfl,rfl⟩)|go_in);go_ret2;exact⟨⟨n,false,c,.inr ⟨λq=>Bool.false_ne_true q.1,rfl⟩⟩,a⟩
 |true=>
  go_wp2_with fail;refine cm (k n l) λp r=>?_;have t:=zq (a.trans (r.mono a.size));have y:=zq (Cy s 2 p);clear r a o k;obtain⟨q,f⟩:=zxe (d n);have u:=zq f;rw[f];clear f;cases q with
  |false=>
   go_wp2_with (first|(go_at_call 109;refine y.mono ?_;rintro e A ⟨rfl,rfl⟩)|go_in);go_ret2;exact⟨⟨n,true,c,.inr ⟨λq=>Bool.false_ne_true (u.symm.trans q.2),rfl⟩⟩,t⟩
  |true=>
   go_wp2;go_ret2;exact⟨⟨n,true,c,.inl ⟨rfl,u,rfl⟩⟩,t⟩
def Ue(s:AB):Option Int:=if s=El 64 then some 64 else if s=El 128 then some 128 else none
def XJ(s:AB):Option Int:=if s=El 1 then some 1 else if s=El 2 then some 2 else if s=El 3 then some 3 else if s=El 4 then some 4 else if s=El 5 then some 5 else none
theorem OV(s:AB)(n:Int)(b:Bool)(h:jR s n b):(b=true/\(n=64\/n=128)->Ue s=some n)/\(¬(b=true/\(n=64\/n=128))->Ue s=none):=by
 have a:=h 64 (by decide);have c:=h 128 (by decide);constructor
 ·rintro⟨d,rfl|rfl⟩
  ·unfold Ue;rw[zyp (a.1 ⟨d,rfl⟩)]
  ·have e:=c.1 ⟨d,rfl⟩;unfold Ue;rw[zyn (λq=>absurd (Ul 128 64 (by decide) (by decide) (e.symm.trans q)) (by decide)),zyp e]
 ·intro f;unfold Ue;rw[zyn (λq=>f ⟨(a.2 q).1,.inl (a.2 q).2⟩),zyn (λq=>f ⟨(c.2 q).1,.inr (c.2 q).2⟩)]
theorem O3(s:AB)(n:Int)(b:Bool)(h:jR s n b):(b=true/\(1<=n/\n<=5)->XJ s=some n)/\(¬(b=true/\(1<=n/\n<=5))->XJ s=none):=by
 have H:∀k,1<=k/\k<=5->k∈XG:=λk a=>by
  rcases(show k=1\/k=2\/k=3\/k=4\/k=5 by omega) with rfl|rfl|rfl|rfl|rfl<;>decide
 constructor
 ·rintro⟨d,c⟩;have e:=(h n (H n c)).1 ⟨d,rfl⟩;have N:∀k,1<=k/\k<=5->k≠n->¬s=El k:=λk a f q=>f (Ul k n (H k a) (H n c) (q.symm.trans e));unfold XJ;rcases(show n=1\/n=2\/n=3\/n=4\/n=5 by omega) with rfl|rfl|rfl|rfl|rfl
  ·rw[zyp e]
  ·rw[zyn (N 1 (by decide) (by decide)),zyp e]
  ·rw[zyn (N 1 (by decide) (by decide)),zyn (N 2 (by decide) (by decide)),zyp e]
  ·rw[zyn (N 1 (by decide) (by decide)),zyn (N 2 (by decide) (by decide)),zyn (N 3 (by decide) (by decide)),zyp e]
  ·rw[zyn (N 1 (by decide) (by decide)),zyn (N 2 (by decide) (by decide)),zyn (N 3 (by decide) (by decide)),zyn (N 4 (by decide) (by decide)),zyp e]
 ·intro c;have N:∀k,1<=k/\k<=5->¬s=El k:=λk a q=>by
   have:=(h k (H k a)).2 q;exact c ⟨this.1,by rw[this.2];exact a⟩
  unfold XJ;rw[zyn (N 1 (by decide)),zyn (N 2 (by decide)),zyn (N 3 (by decide)),zyn (N 4 (by decide)),zyn (N 5 (by decide))]
theorem NQ(T:Nat)(v:AK)(w:AA):(binOp .neq 39 (.iface T v) .nilIface).run prog w=.ok (.bool true) w:=by kernel_rfl
theorem VI{W:AA}{a:Nat}{f m b:Int}(h:St W a f m b)(x:Int):(St (W.setCell ⟨a,0,none⟩ (.int .i64 x)) a x m b/\W.grownBy (W.setCell ⟨a,0,none⟩ (.int .i64 x)) (some a))/\St (W.setCell ⟨a,1,none⟩ (.int .i64 x)) a f x b/\W.grownBy (W.setCell ⟨a,1,none⟩ (.int .i64 x)) (some a):=by
 have d:W.heap[a]?=some (.cells #[.int .i64 f,.int .i64 m,.int .i64 b] 32):=h;refine⟨⟨?_,⟨rfl,rfl,rfl,by simp,λk g c=>Below.heap_setCell _ _ _ _ (λe=>c (by rw[e]))⟩⟩,?_,⟨rfl,rfl,rfl,by simp,λk g c=>Below.heap_setCell _ _ _ _ (λe=>c (by rw[e]))⟩⟩
 ·unfold St World.setCell;simp[Array.getElem?_modify,d]
 ·unfold St World.setCell;simp[Array.getElem?_modify,d]
def iq(c:Option Int)(s:AB)(a:Prop)(b:Int->Prop)(e:Ending):Prop:=match c with
 |some n=>e=.returned (.tuple #[.string {data:=#[111,107]},.nilIface])/\b n
 |none=>e=.returned (.tuple #[.string ⟨#[]⟩,Jm s 2])/\a
theorem ND(c:Nat)(f m d:Int)(g o A:Nat)(s:AB)(B:s.size<=100000)(w:AA)(r:St w c f m d)(t:Pu w g o [s])(u:EV w)(v:Ev w):
 Calls prog 25 #[.pointer (some ⟨c,0,none⟩),.slice (some ⟨g,o,none⟩) 1 A] w λe h=>iq (Ue s) s (St h c f m d) (λn=>St h c n m d) e/\w.grownBy h (some c):=by
 have k:=zq (Gk s B _ _ (enters_of func69 (by kernel_rfl) rfl) (λn X=>(Kl n X).mono (by rintro e h ⟨rfl,rfl⟩;exact⟨rfl,BI _ _⟩)) w u v);have i:Hid (∀X,AD w.heap.size w X->St X c f m d):=λX C=>r.next C;have l:=t.2 0 s rfl;simp only[Nat.add_zero] at l;have D:=NQ;clear r t u v;go_enter func25,ntmps25;go_wp2_with fail;refine k.mono ?_;rintro e E ⟨⟨n,b,j,⟨x,y,rfl⟩|⟨hn,rfl⟩⟩,hb1⟩
 ·have z:=of_decide_eq_true y;have p:Hid (Ue s=some n):=(OV s n b j).1 ⟨x,z⟩;have a:=Ab hb1 (i _ hb1);obtain⟨F,G,H,I,J,K⟩:=a.2.cells;clear x y z j hb1 i k l;go_wp2;go_ret2;refine⟨?_,CM (CY a.1 _) (VI a.2 n).1.2⟩;rw[p];exact⟨rfl,(VI a.2 n).1.1⟩
 ·have p:=zq ((OV s n b j).2 (λq=>hn ⟨q.1,Bz q.2⟩));have a:=Ab hb1 (i _ hb1);clear hn j hb1 i k l;go_wp2;go_ret2;refine⟨?_,CY a.1 _⟩;rw[p];exact⟨rfl,a.2⟩
theorem R4(c:Nat)(f m d:Int)(g o A:Nat)(s:AB)(B:s.size<=100000)(w:AA)(r:St w c f m d)(t:Pu w g o [s])(u:EV w)(v:Ev w):
 Calls prog 26 #[.pointer (some ⟨c,0,none⟩),.slice (some ⟨g,o,none⟩) 1 A] w λe j=>iq (XJ s) s (St j c f m d) (λn=>St j c f n d) e/\w.grownBy j (some c):=by
 have k:=zq (Gk s B _ _ (enters_of func70 (by kernel_rfl) rfl) Mw w u v);have h:Hid (∀X,AD w.heap.size w X->St X c f m d):=λX C=>r.next C;have l:=t.2 0 s rfl;simp only[Nat.add_zero] at l;have D:=NQ;clear r t u v;go_enter func26,ntmps26;go_wp2_with fail;refine k.mono ?_;rintro e E ⟨⟨n,b,i,⟨x,y,rfl⟩|⟨hn,rfl⟩⟩,hb1⟩
 ·have z:=of_decide_eq_true y;have p:Hid (XJ s=some n):=(O3 s n b i).1 ⟨x,z⟩;have a:=Ab hb1 (h _ hb1);obtain⟨F,G,H,I,J,K⟩:=a.2.cells;clear x y z i hb1 h k l;go_wp2;go_ret2;refine⟨?_,CM (CY a.1 _) (VI a.2 n).2.2⟩;rw[p];exact⟨rfl,(VI a.2 n).2.1⟩
 ·have p:=zq ((O3 s n b i).2 (λq=>hn ⟨q.1,Bz q.2⟩));have a:=Ab hb1 (h _ hb1);clear hn i hb1 h k l;go_wp2;go_ret2;refine⟨?_,CY a.1 _⟩;rw[p];exact⟨rfl,a.2⟩
def ez(c:Int):AB:={data:=#[101,114,114,111,114,32]}++El c
def X1(a:AB)(e:Ending):Prop:=e=.returned (.tuple #[.string a,.nilIface])\/∃x c,(c=1\/c=2)/\e=.returned (.tuple #[.string ⟨#[]⟩,Jm x c])/\a=ez c
def GT(w:AA):Prop:=w.cell? ⟨0,0,none⟩=some (fI 39)
theorem GT.next{W a:AA}(h:GT W)(b:AD W.heap.size W a):GT a:=(b.cell (p:=⟨0,0,none⟩) (World.block_lt_of_cell? _ _ h)).trans h
theorem Yk(c:Int)(h:c=1\/c=2):(El c).size=1:=by rcases h with rfl|rfl<;>kernel_rfl
theorem OT(c:Int)(h:c=1\/c=2)(w:AA)(a:Ev w):cB 45 #[.agg #[.int .i64 c]] w (.string (ez c)):=by
 have b:Hid (∀X,AD w.heap.size w X->cB 103 #[.int .i64 c,.int .i64 10] X (.string (El c))):=λX e=>Fc c (by omega) X (a.next e);have i:=Yk c h;have f:Hid (ez c={data:=#[101,114,114,111,114,32]}++El c):=rfl;generalize ez c=E at*
 generalize El c=D at*
 have j:¬9223372036854775807<6+D.size:=by omega
 clear a h;go_enter func45,ntmps45;go_wp2_with fail;refine cm (b _ bA) λk d=>?_;have g:=zq (bA.trans (d.mono (by simp)));clear d b;go_wp2;go_ret;exact⟨by rw[f];rfl,g⟩
theorem kS{w W a:AA}{b t:Nat}(h:w.grownBy W (some b))(g:W.grownBy a (some t))(f:w.heap.size<=t):w.grownBy a (some b):=
 ⟨g.os.trans h.os,g.tape.trans h.tape,g.output.trans h.output,DT h.size g.size,λi c d=>(g.block i (DU c h.size) (λe=>by have:=Gy e;omega)).trans (h.block i c d)⟩
theorem Va(v:AK)(w:AA):cE 44 #[.nilIface,v] w (.bool false):=by
 go_enter func44,ntmps44;go_wp2;go_ret;exact⟨rfl,rfl⟩
theorem OA(C b:Nat)(f m D j k n:Int)(s:AB)(a:List AB)(E:AB)(w:AA)(F:s.size<4294967281)(G:Gq 32 s.data.toList=a.map λx=>x.data.toList)(H:St w b f m D)
 (I:∀X,w.grownBy X (some b)->GT X/\Ev X)
 (J:∀X,AD w.heap.size w X->Pu X w.heap.size 0 a->St X b f m D->Calls prog 43 #[.map (some C),.slice (some ⟨w.heap.size,0,none⟩) a.length a.length] X λe h=>X1 E e/\St h b j k n/\X.grownBy h (some b)):
 Calls prog 16 #[.map (some C),.string s] w λe h=>e=.returned (.string E)/\St h b j k n/\w.grownBy h (some b):=by
 have o:=Ns s 32 w F;rw[G] at o;have K:(a.map λx=>x.data.toList).length=a.length:=by simp
 have L:((a.map λx=>x.data.toList).map λl=>Value.string ⟨l.toArray⟩)=a.map Value.string:=by
  rw[List.map_map];rfl
 rw[K,L] at o;have M:=Ao w (.cells (a.map Value.string).toArray 9);have p:AD w.heap.size w (w.alloc (.cells (a.map Value.string).toArray 9)):=bA;have N:Pu (w.alloc (.cells (a.map Value.string).toArray 9)) w.heap.size 0 a:=by
  refine⟨by simp,λi x Y=>?_⟩;rw[Nat.zero_add,AO M i,List.getElem?_toArray,List.getElem?_map,Y];rfl
 have u:=Ab (J _ p N (H.next p)) p;have q:=zq I;clear M p N J H G K L F I;go_enter func16,ntmps16;go_wp2_with fail;refine cm o λw1 Z=>?_;subst Z;generalize (w.alloc (.cells (a.map Value.string).toArray 9))=W at*
 clear o;go_wp2_with fail;refine u.1.mono ?_;rintro e d ⟨hE,O,P⟩;have g:=Ab O (CM (CY u.2 _) P);clear O P u;rcases hE with rfl|⟨x,c,Q,rfl,rfl⟩
 ·clear q;go_wp2_with fail;refine cm (Va _ _) λv ab=>?_;subst ab;go_wp2;go_ret;exact⟨rfl,g.1.next bA,CM g.2 (CY bA _)⟩
 ·have HC:=zq Q;have r:Hid (AD d.heap.size d (d.alloc (.cells #[.int .i64 0] 70))):=bA;have R:Hid ((d.alloc (.cells #[.int .i64 0] 70)).heap[d.heap.size]?=some (.cells #[.int .i64 0] 70)):=Ao d _;have y:=zq (CM g.2 (CY r _));have S:=zq (g.1.next r);have t:=Ab g.2.size g.1.lt;clear Q;go_wp2_with fail;refine(j3 x c d.heap.size _ (q _ y).1 R).mono ?_;rintro e v ⟨rfl,ad,z⟩;have A:=zq (kS y z t.1);have T:Hid (St v b j k n):=(z.block b (DU t.2 r.size) (λe=>by have:=Gy e;have:=t.2;omega)).trans S;clear z R r y g S t;go_wp2_with fail;refine cm (OT c HC v (q _ A).2) λU B=>?_;have V:Hid (St U b j k n/\w.grownBy U (some b)):=⟨T.out.next B,CM A.out (CY B _)⟩;clear B A T q ad;go_wp2;go_ret;exact⟨rfl,V.1,V.2⟩
def o4(b F:Nat)(xs d:Array AK)(g c a:Nat)(A B:AK)(j:Nat)(v:AK):Prop:=match j with
 |0=>v=(.pointer (some ⟨b,1,none⟩):AK)
 |1=>v=(.func (.func F) xs d:AK)
 |2=>v=(.slice (some ⟨g,0,none⟩) (c+1) a:AK)
 |3=>v=(.slice (if a=1 then some ⟨g,0,none⟩ else some ⟨g,1,none⟩) c (a-1):AK)
 |4=>v=(.tuple #[A,B]:AK)
 |5=>v=(A:AK)
 |6=>v=(B:AK)
 |7=>v=(A:AK)
 |8=>v=(B:AK)
 |_=>True
theorem Ki(F:Nat)(xs d:Array AK)(Y:∀args X,(callFunc F args).run prog X=.ok (.enter F args) X)(G:Nat)(E:Array MapEntry)(O:Nat)(y:AB)(c i:Nat)(hc:c<=1000)(k:Nat)(f m Z z C D:Int)(g:Nat)(b:Nat)(H:List AB)(aw:H.length+1<=b)(A B:AK)(w:AA)
 (P:w.heap[G]?=some (.map E O)) (he:E.isEmpty=false) (Q:Instr.findNow .string (.string y) E.toList 0=some (some (i,.agg #[.int .i64 c,.func (.func F) xs d]))) (I:H.length=c) (R:St w k f m Z) (S:Pu w g 0 (y::H))
 (T:∀X,AD w.heap.size w X->Calls prog F (xs++#[.slice (if b=1 then some ⟨g,0,none⟩ else some ⟨g,1,none⟩) c (b-1)]++d) X λr x=>r=.returned (.tuple #[A,B])/\St x k z C D/\X.grownBy x (some k)):
 Calls prog 43 #[.map (some G),.slice (some ⟨g,0,none⟩) (c+1) b] w λe x=>e=.returned (.tuple #[A,B])/\St x k z C D/\w.grownBy x (some k):=by
 have HL:=Q6 w G E O y i _ P he Q;have HT:=zq T;have c0:w.cell? ⟨g,0,none⟩=some (.string y):=by have:=S.2 0 y rfl;simpa using this
 have U:=Ao w (.cells #[.int .i64 c,.func (.func F) xs d] 58);have ac:Hid ((w.alloc (.cells #[.int .i64 c,.func (.func F) xs d] 58)).drew.cell? ⟨w.heap.size,1,none⟩=some (.func (.func F) xs d)/\w.heap.size<(w.alloc (.cells #[.int .i64 c,.func (.func F) xs d] 58)).drew.heap.size/\AD w.heap.size w (w.alloc (.cells #[.int .i64 c,.func (.func F) xs d] 58)).drew):=⟨AO U 1,by simp[World.drew],bA.drew⟩;have ad:=Nat.ne_of_lt R.lt;have az:(if c+1<b then b-1 else b-1)=b-1:=by split<;>rfl
 clear P Q S T U R;go_enter func43,ntmps43;go_wp2_with fail;refine Bx [30,31,32,33,34,35,36,4,5] (λj v _=>o4 w.heap.size F xs d g c b A B j v) (λu X=>X.cell? ⟨w.heap.size,1,none⟩=some (.func (.func F) xs d)/\w.heap.size<X.heap.size/\if u.getD 4 true then St X k z C D/\w.grownBy X (some k) else AD w.heap.size w X) (λ_ _=>True) (by kernel_rfl) (by kernel_rfl) ac (λ_ _ _ _ _ h=>h) ?_ ?_
 ·intro i o u p X J ae af a V s K q;have aA:i<9:=(Array.getElem?_eq_some_iff.1 J).1;have ag:u.size=9:=ae;have p1:p.tmps.getD 1 undef=.slice (some ⟨g,0,none⟩) (c+1) b:=by
   rw[Array.getD_eq_getD_getElem?,V.2.2 1 (by decide)];rfl
  have p6:p.tmps.getD 6 undef=.pointer (some ⟨w.heap.size,0,none⟩):=by
   rw[Array.getD_eq_getD_getElem?,V.2.2 6 (by decide)];rfl
  have t:∀j,j≠4->∀l,l.cell? ⟨w.heap.size,1,none⟩=some (.func (.func F) xs d)->w.heap.size<l.heap.size->(if u.getD 4 true then St l k z C D/\w.grownBy l (some k) else AD w.heap.size w l)->(l.cell? ⟨w.heap.size,1,none⟩=some (.func (.func F) xs d)/\w.heap.size<l.heap.size/\if (u.setIfInBounds j true).getD 4 true then St l k z C D/\w.grownBy l (some k) else AD w.heap.size w l):=λj hj l a1 a2 a3=>⟨a1,a2,by rw[Go.getD_set_ne true hj];exact a3⟩;rcases(show i=0\/i=1\/i=2\/i=3\/i=4\/i=5\/i=6\/i=7\/i=8 by omega) with rfl|rfl|rfl|rfl|rfl|rfl|rfl|rfl|rfl
  all_goals
   simp only[List.getElem?_toArray,List.getElem?_cons_succ,List.getElem?_cons_zero,Option.some.injEq] at J;subst J
  ·unfold Oper.wp;simp[execOp,go_sem,Act.eval,p6];exact q _ _ rfl (t 0 (by decide) _ a.1 a.2.1 a.2.2) trivial
  ·have n:(p.tmps.getD 30 undef)=(.pointer (some ⟨w.heap.size,1,none⟩):AK):=s ⟨0,.data⟩ (by simp) rfl;unfold Oper.wp;simp[execOp,go_sem,Act.eval,n,a.1];exact q _ _ rfl (t 1 (by decide) _ a.1 a.2.1 a.2.2) trivial
  ·unfold Oper.wp;simp[execOp,go_sem,Act.eval,p1];exact q _ _ rfl (t 2 (by decide) _ a.1 a.2.1 a.2.2) trivial
  ·have n:(p.tmps.getD 32 undef)=(.slice (some ⟨g,0,none⟩) (c+1) b:AK):=s ⟨2,.data⟩ (by simp) rfl;unfold Oper.wp;simp[execOp,go_sem,Act.eval,n,show(1:Int)<=(c:Int)+1 by omega];exact q _ _ rfl (t 3 (by decide) _ a.1 a.2.1 a.2.2) trivial
  ·have d1:(p.tmps.getD 31 undef)=(.func (.func F) xs d:AK):=s ⟨1,.data⟩ (by simp) rfl;have d3:(p.tmps.getD 33 undef)=(.slice (if b=1 then some ⟨g,0,none⟩ else some ⟨g,1,none⟩) c (b-1):AK):=s ⟨3,.data⟩ (by simp) rfl;rw[af] at a;have L:=a.2.2;simp only[Bool.false_eq_true,if_false] at L;unfold Oper.wp;simp[execOp,go_sem,Act.eval,d1,d3,Y];refine Calls.mono (by simpa using HT _ L) ?_;rintro r x ⟨rfl,h1,M⟩;exact q _ _ rfl ⟨M.cell a.1 (λh=>ad (Gy h).symm),DU a.2.1 M.size,by rw[show(u.setIfInBounds 4 true).getD 4 true=true by simp[Array.getD,ag]];exact⟨h1,CM (CY L _) M⟩⟩ trivial
  ·have n:(p.tmps.getD 34 undef)=(.tuple #[A,B]:AK):=s ⟨4,.data⟩ (by simp) rfl;unfold Oper.wp;simp[execOp,go_sem,Act.eval,n];exact q _ _ rfl (t 5 (by decide) _ a.1 a.2.1 a.2.2) trivial
  ·have n:(p.tmps.getD 34 undef)=(.tuple #[A,B]:AK):=s ⟨4,.data⟩ (by simp) rfl;unfold Oper.wp;simp[execOp,go_sem,Act.eval,n];exact q _ _ rfl (t 6 (by decide) _ a.1 a.2.1 a.2.2) trivial
  ·have n:(p.tmps.getD 35 undef)=(A:AK):=s ⟨5,.data⟩ (by simp) rfl;unfold Oper.wp;simp[execOp,go_sem,Act.eval,n];exact q _ _ rfl (t 7 (by decide) _ a.1 a.2.1 a.2.2) trivial
  ·have n:(p.tmps.getD 36 undef)=(B:AK):=s ⟨6,.data⟩ (by simp) rfl;unfold Oper.wp;simp[execOp,go_sem,Act.eval,n];exact q _ _ rfl (t 8 (by decide) _ a.1 a.2.1 a.2.2) trivial
 ·intro W u X aq a I;rw[aq 4 (by decide)] at a;have h4:W 4=A:=I 7 4 rfl;have h5:W 5=B:=I 8 5 rfl;have N:=a.2.2;simp only[if_true] at N;simp only[C3,Act.put,h4,h5,List.setIfInBounds_toArray,List.set_cons_succ,List.set_cons_zero];simp only[Exit.then];go_wp2;go_ret2;exact⟨rfl,N.1,N.2⟩
theorem Ji(d:Nat)(b:Array MapEntry)(k:Nat)(a:AB)(c:Nat)(f m h:Int)(g:Nat)(y n:Nat)(z:List AB)(w:AA)(B:1<=n)
 (l:w.heap[d]?=some (.map b k)) (o:b.isEmpty=false) (q:Instr.findNow .string (.string a) b.toList 0=some none) (r:St w c f m h) (i:Pu w g 0 (a::z)):
 Calls prog 43 #[.map (some d),.slice (some ⟨g,0,none⟩) n y] w λe s=>e=.returned (.tuple #[.string ⟨#[]⟩,Jm a 1])/\St s c f m h/\w.grownBy s (some c):=by
 have C:=Y6 w d b k a l o q;have A:w.cell? ⟨g,0,none⟩=some (.string a):=by have:=i.2 0 a rfl;simpa using this
 have t:Hid (∀X,AD w.heap.size w X->X.cell? ⟨g,0,none⟩=some (.string a)/\St X c f m h):=λX u=>⟨(u.cell (p:=⟨g,0,none⟩) i.1).trans A,r.next u⟩;obtain⟨D,E⟩:¬(n:Int)<=0/\(0:Int)<(n:Int):=by omega
 have j:AD w.heap.size w (w.alloc (.cells #[.int .i64 0,.nilFunc] 58)):=bA;obtain⟨F,v⟩:=t _ j;have x:=Ab j v;clear l o q r i j v t;go_enter func43,ntmps43;go_wp2_with (first|(go_at_call 109;refine(Cy _ _ _).mono ?_;rintro e G ⟨rfl,rfl⟩)|go_in);go_ret2;exact⟨rfl,x.2,CY x.1 _⟩
theorem Ii(h:Nat)(b:Array MapEntry)(l:Nat)(a:AB)(c i F:Nat)(xs o:Array AK)(B:c<=1000)(j:Nat)(f m q:Int)(g:Nat)(y n:Nat)(z:List AB)(w:AA)(C:1<=n)(D:n≠c+1)
 (r:w.heap[h]?=some (.map b l)) (s:b.isEmpty=false) (t:Instr.findNow .string (.string a) b.toList 0=some (some (i,.agg #[.int .i64 c,.func (.func F) xs o]))) (u:St w j f m q) (k:Pu w g 0 (a::z)):
 Calls prog 43 #[.map (some h),.slice (some ⟨g,0,none⟩) n y] w λe v=>e=.returned (.tuple #[.string ⟨#[]⟩,Jm a 1])/\St v j f m q/\w.grownBy v (some j):=by
 have E:=Q6 w h b l a i _ r s t;have A:w.cell? ⟨g,0,none⟩=some (.string a):=by have:=k.2 0 a rfl;simpa using this
 obtain⟨G,H⟩:¬(n:Int)<=0/\(0:Int)<(n:Int):=by omega
 have I:=zw (1+(c:Int)) (by omega);have J:((n:Int)==1+(c:Int))=false:=beq_eq_false_iff_ne.2 (by omega);have d:AD w.heap.size w (w.alloc (.cells #[.int .i64 c,.func (.func F) xs o] 58)):=bA;have K:=(d.cell (p:=⟨g,0,none⟩) k.1).trans A;have x:=Ab d (u.next d);clear r s t u k d;go_enter func43,ntmps43;go_wp2_with (first|(go_at_call 109;refine(Cy _ _ _).mono ?_;rintro e L ⟨rfl,rfl⟩)|go_in);go_ret2;exact⟨rfl,x.2,CY x.1 _⟩
theorem Om:(prog.info? 5).map (λi=>(i.zero,i.size,i.bytes))=some (some (.int .u8 0),1,1):=by kernel_rfl
abbrev SX(L:List UInt8):List AK:=L.map λb=>Value.int .u8 (b.toNat:Int)
def Df(w:AA)(base:Nat)(v:AK)(L:List UInt8):Prop:=w.ownsRow base 5 1 v L.length (SX L)
theorem Df.below{w a:AA}{base B:Nat}{v:AK}{L:List UInt8}(h:Df w base v L)(b:AD B w a)(c:w.heap.size<=B):Df a base v L:=Ct h b c
theorem Df.own{w:AA}{base:Nat}{v:AK}{L:List UInt8}(h:Df w base v L):∀k,v.ownBlock=some k->base<=k:=λk a=>(World.ownsRow.lt h k a).1
theorem JQ(w:AA):Df (w.alloc (.cells #[] 5)) w.heap.size (.slice (some ⟨w.heap.size,0,none⟩) 0 0) []:=
 World.ownsRow_made (e:=5) (size:=1) (base:=w.heap.size) w #[] 0 (AS _) (B9 _) rfl
theorem Df.form{w:AA}{base:Nat}{v:AK}{L:List UInt8}(h:Df w base v L):∃a b,v=.slice a L.length b:=by
 rcases h.2 with⟨rfl,c⟩|⟨g,b,d,rfl,-⟩
 ·exact⟨none,0,by rw[c]⟩
 ·exact⟨_,b,rfl⟩
theorem Df.conv{w:AA}{base:Nat}{v:AK}{L:List UInt8}(h:Df w base v L):(convert 22 9 v).run prog w=.ok (.string ⟨L.toArray⟩) w:=by
 have b:=h;rcases h.2 with⟨rfl,a⟩|⟨g,c,e,rfl,f,i,a,k,l,m⟩
 ·obtain rfl:=List.length_eq_zero_iff.1 a;exact run_convert_bytes_nil (P:=prog) w 22 5 underlying22 underlying5 0 0 9 underlying9
 ·refine run_convert_bytes_back (P:=prog) w 22 9 5 ⟨g,0,none⟩ c L underlying22 underlying5 underlying9 (λj d=>?_);rw[lM,World.ownsRow.cellAt b j (by omega)];simp[Dq d]
theorem FH{w a:AA}{base:Nat}{v c:AK}{L:List UInt8}{b:UInt8}(h:a.ownsRow base 5 1 c (L.length+1) (SX L++[.int .u8 (b.toNat:Int)])):Df a base c (L++[b]):=by
 unfold Df SX;simpa using h
theorem CR(x:Int)(w:AA)(h:0<=x/\x<=255):cE 117 #[.int .u8 x] w (.bool (K5 x)):=by
 by_cases b:48<=x
 ·by_cases c:x<=57
  ·have a:Hid (K5 x=true):=Bz ⟨b,c⟩;rw[a];go_enter func117,ntmps117;go_wp2;go_ret;exact⟨rfl,rfl⟩
  ·have a:Hid (K5 x=false):=By (λq=>c q.2);rw[a];go_enter func117,ntmps117;go_wp2;go_ret;exact⟨rfl,rfl⟩
 ·have a:Hid (K5 x=false):=By (λq=>b q.1);rw[a];go_enter func117,ntmps117;go_wp2;go_ret;exact⟨rfl,rfl⟩
theorem EH(x:Int):∀u∈[Value.int .u8 x],u.oneCell'=true:=λu a=>by
 obtain rfl:u=Value.int .u8 x:=by simpa using a
 rfl
theorem Y3(b:UInt8):(65<=(b.toNat:Int)/\(b.toNat:Int)<=90->((CS b).toNat:Int)=(b.toNat:Int)+32)/\(¬(65<=(b.toNat:Int)/\(b.toNat:Int)<=90)->CS b=b):=by
 constructor
 ·intro h;unfold CS;rw[zyp (by omega),UInt8.toNat_add];show(((b.toNat+32)%2^8:Nat):Int)=_
  omega
 ·intro h;unfold CS;rw[zyn (by omega)]
theorem Nu(s:AB)(q:Nat)(h:q<s.size):s.data.toList.take (q+1)=s.data.toList.take q++[s[q]]:=by
 have a:s.data.toList.length=s.size:=Array.length_toList;rw[List.take_succ_eq_append_getElem (by omega)];rfl
theorem TG(s:AB)(w:AA)(O:s.size<=200):
 cB 119 #[.string s] w (.string ⟨(s.data.toList.map CS).toArray⟩):=by
 obtain⟨u,x,z,A,B⟩:=info_parts Om;obtain⟨P,C⟩:=zxe (s.data.toList.map CS);have K:=zq C;rw[C];clear C;have D:Hid (Df (w.alloc (.cells #[] 5)) w.heap.size (.slice (some ⟨w.heap.size,0,none⟩) 0 0) ((s.data.toList.take 0).map CS)/\AD w.heap.size w (w.alloc (.cells #[] 5))):=⟨JQ w,bA⟩;go_enter func119,ntmps119;go_wp2;go_loopw [3,4] (λv i wr=>∃q:Nat,q<=s.size/\i=.int .i64 (q:Int)/\Hid (Df wr w.heap.size v ((s.data.toList.take q).map CS))/\Hid (AD w.heap.size w wr)) (λ_ i _=>s.size-(intOf i).toNat);case atStart=>exact⟨0,B9 _,rfl,D.1,D.2⟩
 case round=>
  clear D;obtain⟨q,Q,rfl,a,e⟩:=hrel;by_cases L:q<s.size
  ·have R:(q:Int)<(s.size:Int):=by omega
   have j:Hid ((s.data.toList.take (q+1)).map CS=(s.data.toList.take q).map CS++[CS s[q]]):=by show _=_;rw[Nu s q L,List.map_append];rfl
   have S:((s.data.toList.take q).map CS).length<=200:=by rw[List.length_map,FQ];omega
   go_upto_region 6 with fail;obtain⟨b,H⟩:=zxe (s[q]);rw[H] at j ⊢;have T:b.toNat<256:=b.toNat_lt;obtain⟨E,F⟩:=Y3 b;generalize (s.data.toList.take q).map CS=M at*
   have G:=e.size;clear H;by_cases r:65<=(b.toNat:Int)/\(b.toNat:Int)<=90
   ·have l:=E r;obtain⟨U,V⟩:=r;obtain⟨c,I⟩:=zxe (CS b);rw[I] at j l;have W:IntKind.u8.wrap ((b.toNat:Int)+32)=(b.toNat:Int)+32:=by rw[IntKind.wrap_u8];omega
    clear E F I;generalize m:(b.toNat:Int)=y at*
    clear m;go_wp2_with (first|(at_builtin;refine wpList_append_own _ rfl _ _ 22 rfl w.heap.size 5 u (.int .u8 0) 1 1 underlying22 x z A B rfl (by decide) _ M.length (SX M) rfl (World.ownsRow.alloc a _) ⟨wr.heap.size,0,none⟩ 1 1 [.int .u8 (y+32)] rfl rfl (World.news_of_block (cs:=#[.int .u8 (y+32)]) (t:=5) (fr:=(0,0)) (heap_alloc_new wr _)) (EH _) (by unfold maxLen;omega) (by omega) (by simp;omega) ?_)|go_in);intro f g d h _;have n:Hid (Df g w.heap.size f (M++[c])):=by rw[<-l] at d;exact FH (w:=g) (v:=f) d
    have o:=zq (Below.grown (e.alloc G _) h (by simp;omega) (λk p=>a.own k p));clear d h a e;go_wp2;go_roundw;case rel=>exact⟨q+1,by omega,by go_num,by rw[j];exact n,o⟩
    case measure=>simp[intOf];omega
   ·have l:=F r;rw[l] at j;clear E F l;rcases(show¬65<=(b.toNat:Int)\/(65<=(b.toNat:Int)/\¬(b.toNat:Int)<=90) by omega) with h2|⟨h2,h3⟩
    all_goals clear r
    ·generalize m:(b.toNat:Int)=y at*
     go_wp2_with (first|(at_builtin;refine wpList_append_own _ rfl _ _ 22 rfl w.heap.size 5 u (.int .u8 0) 1 1 underlying22 x z A B rfl (by decide) _ M.length (SX M) rfl (World.ownsRow.alloc a _) ⟨wr.heap.size,0,none⟩ 1 1 [.int .u8 y] rfl rfl (World.news_of_block (cs:=#[.int .u8 y]) (t:=5) (fr:=(0,0)) (heap_alloc_new wr _)) (EH _) (by unfold maxLen;omega) (by omega) (by simp;omega) ?_)|go_in);intro f g d h _;have n:Hid (Df g w.heap.size f (M++[b])):=by rw[<-m] at d;exact FH (w:=g) (v:=f) d
     have o:=zq (Below.grown (e.alloc G _) h (by simp;omega) (λk p=>a.own k p));clear d h a e;go_wp2;go_roundw;case rel=>exact⟨q+1,by omega,by go_num,by rw[j];exact n,o⟩
     case measure=>simp[intOf];omega
    ·generalize m:(b.toNat:Int)=y at*
     go_wp2_with (first|(at_builtin;refine wpList_append_own _ rfl _ _ 22 rfl w.heap.size 5 u (.int .u8 0) 1 1 underlying22 x z A B rfl (by decide) _ M.length (SX M) rfl (World.ownsRow.alloc a _) ⟨wr.heap.size,0,none⟩ 1 1 [.int .u8 y] rfl rfl (World.news_of_block (cs:=#[.int .u8 y]) (t:=5) (fr:=(0,0)) (heap_alloc_new wr _)) (EH _) (by unfold maxLen;omega) (by omega) (by simp;omega) ?_)|go_in);intro f g d h _;have n:Hid (Df g w.heap.size f (M++[b])):=by rw[<-m] at d;exact FH (w:=g) (v:=f) d
     have o:=zq (Below.grown (e.alloc G _) h (by simp;omega) (λk p=>a.own k p));clear d h a e;go_wp2;go_roundw;case rel=>exact⟨q+1,by omega,by go_num,by rw[j];exact n,o⟩
     case measure=>simp[intOf];omega
  ·obtain rfl:q=s.size:=by omega
   have J:Hid ((s.data.toList.take s.size).map CS=s.data.toList.map CS):=by show _=_;rw[List.take_of_length_le (by rw[Array.length_toList];exact AS _)]
   have N:=a.conv;rw[J,K] at N;clear J a;go_wp2;go_ret;exact⟨rfl,e⟩
theorem ZT(L D:AG)(n:Nat)(neg:Bool)(P:AG):CZ L D n neg P=if (∀y∈L,K5 y=true)/\1<=P.length+L.length/\P.length+L.length<=5 then some (D,n,neg,P++L) else none:=by
 induction L generalizing P with
 |nil=>
  show Hu [] D n neg P=_
  unfold Hu Gh;cases P with
  |nil=>rw[zyp (.inl rfl),zyn (by simp)]
  |cons x t=>
   by_cases h:5<(x::t).length
   ·rw[zyp (.inr h),zyn (λq=>by have:=q.2.2;simp at this h;omega)]
   ·rw[zyn (λq=>q.elim (λe=>by cases e) h),zyp rfl,zyp ⟨(λy c=>by cases c),by simp,by simp at h ⊢;omega⟩,List.append_nil]
 |cons y r ih=>
  simp only[CZ];cases hd:K5 y with
  |true=>
   rw[zyp rfl,ih (P++[y])];have d:(P++[y]).length+r.length=P.length+(y::r).length:=by simp;omega
   rw[d];by_cases a:(∀z∈r,K5 z=true)/\1<=P.length+(y::r).length/\P.length+(y::r).length<=5
   ·rw[zyp a,zyp ⟨λz b=>(List.mem_cons.1 b).elim (λe=>e▸hd) (a.1 z),a.2⟩,List.append_assoc,List.singleton_append]
   ·rw[zyn a,zyn (λq=>a ⟨λz b=>q.1 z (GH _ b),q.2⟩)]
  |false=>
   rw[zyn (by decide),zyn (λq=>by have:=q.1 y Gx;rw[hd] at this;cases this)];unfold Hu;rw[Cu];split<;>rfl
theorem Jk(l:List UInt8):(bz l).length=l.length:=by unfold bz;rw[List.length_map]
theorem Dt(s:AB)(q:Nat)(h:q<s.size):(bz s.data.toList).drop q=(s[q].toNat:Int)::(bz s.data.toList).drop (q+1):=by
 have a:(bz s.data.toList).length=s.size:=by rw[Jk];exact Array.length_toList
 rw[List.drop_eq_getElem_cons (by omega)];congr 1;unfold bz;rw[List.getElem_map];rfl
theorem OF(s:AB)(q:Nat)(h:¬q<s.size):(bz s.data.toList).drop q=[]:=by
 have a:(bz s.data.toList).length=s.size:=by rw[Jk];exact Array.length_toList
 exact List.drop_eq_nil_iff.2 (by omega)
theorem UO(D:List UInt8)(b:UInt8):bz (D++[b])=bz D++[(b.toNat:Int)]:=by unfold bz;rw[List.map_append];rfl
def Uv(a:Bool)(L D:AG)(n:Nat):Kh:=if a then GA L D n else Ch L D
theorem g6(a:Bool)(y:Int)(r D:AG)(n:Nat)(h:K5 y=true):Uv a (y::r) D n=Uv a r (D++[y]) (if a then n+1 else n):=by
 unfold Uv;cases a
 ·simp only[Ch,h,if_true,Bool.false_eq_true,if_false]
 ·simp only[GA,h,if_true]
theorem g7(r D:AG):Uv false (46::r) D 0=Uv true r D 0:=by
 unfold Uv;simp only[Ch,IL (show¬((48:Int)<=46/\(46:Int)<=57) by decide),Bool.false_eq_true,if_false,if_true]
theorem ZQ(a:Bool)(y:Int)(r D:AG)(n:Nat)(b:a=false->n=0)(h:K5 y=false)(c:¬(y=46/\a=false)):Uv a (y::r) D n=Ba (y::r) D n:=by
 unfold Uv;cases a
 ·rw[b rfl];have d:¬y=46:=λq=>c ⟨q,rfl⟩;simp only[Ch,h,Bool.false_eq_true,if_false,d]
 ·simp only[GA,h,Bool.false_eq_true,if_false,if_true]
theorem g8(a:Bool)(D:AG)(n:Nat)(b:a=false->n=0):Uv a [] D n=Ba [] D n:=by
 unfold Uv;cases a
 ·rw[b rfl];rfl
 ·rfl
theorem ZW(y:Int)(r D:AG)(n:Nat)(a:D≠[])(h:y=69\/y=101):Ba (y::r) D n=FB r D n:=by
 simp only[Ba,a,h,if_false,if_true]
theorem ZX(y:Int)(r D:AG)(n:Nat)(h:¬(y=69\/y=101)):Ba (y::r) D n=none:=by
 simp only[Ba,h,if_false];split
 ·rfl
 ·exact Cu _ _ _ _ _ _
theorem Wi(D:AG)(n:Nat)(a:D≠[]):Ba [] D n=some (D,n,false,[]):=by
 simp only[Ba,a,if_false];rfl
theorem iF(y:Int)(r D:AG)(n:Nat)(a:y≠43)(b:y≠45):FB (y::r) D n=CZ (y::r) D n false []:=by
 simp only[FB,a,b,if_false]
theorem iG(r D:AG)(n:Nat):FB (43::r) D n=CZ r D n false []:=by
 simp only[FB,if_true]
theorem iE(r D:AG)(n:Nat):FB (45::r) D n=CZ r D n true []:=by
 simp only[FB,if_true,show¬((45:Int)=43) by decide,if_false]
theorem W9(D:List UInt8)(h:∀y∈bz D,48<=y/\y<=57):(⟨D.toArray⟩:AB)=tx ((bz D).map (·-48)):=by
 apply De;rw[AR];apply Array.ext';simp only[List.map_map];unfold bz;rw[List.map_map]
 conv=>lhs;rw[<-List.map_id D]
 apply List.map_congr_left;intro b a;have:=h (b.toNat:Int) (List.mem_map.2 ⟨b,a,rfl⟩);show b=UInt8.ofNat (48+((b.toNat:Int)-48)).toNat
 rw[show(48+((b.toNat:Int)-48)).toNat=b.toNat by omega];simp
theorem Vq(D:List UInt8)(h:∀y∈bz D,48<=y/\y<=57):Au ((bz D).map (·-48)):=λx a=>by
 obtain⟨y,b,rfl⟩:=List.mem_map.1 a;have:=h y b;omega
theorem iM(L:AG)(j:Nat)(h:j<L.length):pe (L.take (j+1))=10*pe (L.take j)+(L.getD j 0-48):=by
 rw[List.take_succ_eq_append_getElem h,PM];simp[List.getD,Dq h]
theorem XA(s:AB):(s.size=0/\Pn s.data.toList=s.data.toList/\SO s.data.toList=false)\/
 (∃h:0<s.size,((s[0]=43\/s[0]=45)/\Pn s.data.toList=(s.extract 1 s.size).data.toList/\SO s.data.toList=decide (s[0]=45))\/(¬(s[0]=43\/s[0]=45)/\Pn s.data.toList=s.data.toList/\SO s.data.toList=false)):=by
 have a:s.data.toList.length=s.size:=Array.length_toList;cases hc:s.data.toList with
 |nil=>rw[hc] at a;exact .inl ⟨a.symm,rfl,rfl⟩
 |cons b t=>
  rw[hc,List.length_cons] at a;have c:0<s.size:=by omega
  have d:s[0]=b:=by
   have:s.data.toList[0]'(by rw[hc];simp)=b:=by simp[hc]
   rw[<-this];rfl
  refine .inr ⟨c,?_⟩;rw[d,MY,R8];by_cases h:b=43\/b=45
  ·rw[zyp h];refine .inl ⟨h,?_,rfl⟩;rw[ByteArray.data_extract,Array.toList_extract,hc];simp[List.extract];exact(List.take_of_length_le (by omega)).symm
  ·rw[zyn h];exact .inr ⟨h,rfl,By (λq=>h (.inr q))⟩
def pZ(b:Bool)(n:Nat):Prop:=b=false->n=0
def UF(w:AA)(b:Nat)(a:AA)(v:AK)(D:List UInt8):Prop:=
 Df a b v D/\Z5 a w.heap.size/\AD w.heap.size w a/\w.heap.size+1<=b/\b<=a.heap.size/\fM (bz D)
theorem iY{w a:AA}(h:Z5 a w.heap.size)(b:AD w.heap.size w a):UF w a.heap.size (a.alloc (.cells #[] 5)) (.slice (some ⟨a.heap.size,0,none⟩) 0 0) []:=
 ⟨JQ a,h.below ((BI a.heap.size a).alloc (AS _) _) h.lt,b.alloc b.size _,h.lt,by simp,λy c=>by cases c⟩
theorem UF.more{w wr b:AA}{a:Nat}{v e:AK}{D:List UInt8}{c:UInt8}{o:Obj}(h:UF w a wr v D)(g:b.ownsRow a 5 1 e (D.length+1) (SX D++[.int .u8 (c.toNat:Int)]))(i:(wr.alloc o).grownBy b v.ownBlock)(j:48<=(c.toNat:Int)/\(c.toNat:Int)<=57):UF w a b e (D++[c]):=by
 obtain⟨l,m,n,p,f,q⟩:=h;have d:AD a wr b:=Below.grown ((BI a wr).alloc f o) i (by simp;omega) (λk r=>l.own k r);exact⟨FH (w:=wr) (v:=v) g,m.below d (by omega),n.trans (d.mono (by omega)),p,DT f d.size,by rw[UO];exact q.more j⟩
def VZ(w:AA)(a:AK)(e:Ending)(b:AA):Prop:=e=.returned a/\AD w.heap.size w b
def mT(w:AA)(f m:Int)(neg:Bool)(b:AK)(c:Nat)(v:AK)(d:Int)(W:AA):Prop:=
 ∃(D:List UInt8) (n:Nat) (a:Bool) (P:AG),UF w c W v D/\d=Gp n a P/\Zo f m neg (some (bz D,n,a,P))=b/\(AJ (AU ((bz D).map (·-48)))/\(AU ((bz D).map (·-48))).length<=200/\D.length<=200/\(-200000<=Gp n a P/\Gp n a P<=200000))
theorem Tr(X:Code)(A:X=BB [1,1,1,1,1,1,1,1,1,1,1,1,1,1] ((f53.body).getD .skip))(w W:AA)(f m:Int)(B:f=64\/f=128)(neg:Bool)(o v:AK)(C:Nat)(c:Int){E F G H I J K L M N O Q R S U V Y Z aa ab ac ad ae af ag ah ai aj ak al am an ao ap aq ar au av aw ax ay az aA aB aC aD aE aF aG aH aI aJ aK aL aM aN aO aP aQ aR aS aT aU aV aW aX aY aZ a0 a1 a2 a3 a5 a6 a7 a8 a9 ba bb bc be bf bg bh bi bj bk bm bo bp bq br bs bt bu bv bx bB bC bD bE bF bG bH bI bJ bK bL bM bN bO bP bQ bR bS bT bU bV bW bX bY bZ b0 b1 b2 b3 b5 b6 b7 b8 b9 ca cb cc cd cf cg ch ci cj ck cl cn co cp cq cr cs ct cu cv cw cx cy cz cC cD cG cH cJ cK cL cM cN cO cP cQ cR cS cT cU cV cW cX cY cZ c0 c1 c2 c3 c4 c5 c6 c7 c8 c9 da db dc dd de df:AK}(h:mT w f m neg o C v c W):
 X.wp prog (bodyPost prog f53 (VZ w o)) {tmps:=#[.int .i64 f,.int .i64 m,E,F,G,H,.pointer (some ⟨w.heap.size,0,none⟩),I,J,K,L,M,.bool neg,v,N,.int .i64 c,O,Q,R,S,U,V,Y,Z,aa,ab,ac,ad,ae,af,ag,ah,ai,aj,ak,al,am,an,ao,ap,aq,ar,au,av,aw,ax,ay,az,aA,aB,aC,aD,aE,aF,aG,aH,aI,aJ,aK,aL,aM,aN,aO,aP,aQ,aR,aS,aT,aU,aV,aW,aX,aY,aZ,a0,a1,a2,a3,a5,a6,a7,a8,a9,ba,bb,bc,be,bf,bg,bh,bi,bj,bk,bm,bo,bp,bq,br,bs,bt,bu,bv,bx,bB,bC,bD,bE,bF,bG,bH,bI,bJ,bK,bL,bM,bN,bO,bP,bQ,bR,bS,bT,bU,bV,bW,bX,bY,bZ,b0,b1,b2,b3,b5,b6,b7,b8,b9,ca,cb,cc,cd,cf,cg,ch,ci,cj,ck,cl,cn,co,cp,cq,cr,cs,ct,cu,cv,cw,cx,cy,cz,cC,cD,cG,cH,cJ,cK,cL,cM,cN,cO,cP,cQ,cR,cS,cT,cU,cV,cW,cX,cY,cZ,c0,c1,c2,c3,c4,c5,c6,c7,c8,c9,da,db,dc,dd,de,df],defers:=[]} W:=by
 obtain⟨D,n,d,P,a,rfl,p,q,r,dg,e⟩:=h;have dh:=a.1.conv;have g:=a.2.2.2.2.2;have b:=Ab a.2.1 a.2.2.1;have s:Hid (cF 123 #[.string ⟨D.toArray⟩] (.string (tx (AU ((bz D).map (·-48)))))):=λX=>by
  rw[W9 D g];exact Bj _ X (Vq D g) (by rw[List.length_map,Jk];omega)
 have i:=zq λX=>Fa f m B neg _ _ false _ X q r e e;have j:=zq p;simp only[Zo] at j;obtain⟨Fz,t⟩:=zxe (Al f m neg (AU ((bz D).map (·-48))) (Gp n d P) false (Gp n d P));rw[t] at i j;clear t p a g q r dg e;generalize tx (AU ((bz D).map (·-48)))=T at*
 generalize Gp n d P=c at*
 obtain⟨u,x,y,z⟩:=Fz;subst A;simp only[f53,BB,Cd];go_wp2_with fail;refine cm (s _) λw1 hw=>?_;subst hw;go_wp2_with fail;refine cm (i _) λw2 k=>?_;have l:=Ab (b.1.below k b.1.lt) (b.2.trans (k.mono b.2.size));clear k b i s dh;go_wp2_with (refine sR l.1 u neg x y z ?_);have hP:=A1 l.1 u neg x y z
 (try simp only[Exit.inBlock,Exit.then])
 refine rB hP ?_;exact⟨congrArg Ending.returned j,AC l.2 (AS _) _⟩
def mQ(w:AA)(f m:Int)(neg:Bool)(a:AK)(b:Nat)(K:Act->AA->Prop):Prop:=∀{c d e g h i j k l n o p q r s t u x y z A B C D E F G H I J L M N O P Q R S T U V X Y Z aa ab ac ad ae af ag ah ai aj ak al am an ao ap aq ar au av aw ax ay az aA aB aC aD aE aF aG aH aI aJ aK aL aM aN aO aP aQ aR aS aT aU aV aW aX aY aZ a0 a1 a2 a3 a5 a6 a7 a8 a9 ba bb bc be bf bg bh bi bj bk bm bo bp bq br bs bt bu bv bx bB bC bD bE bF bG bH bI bJ bK bL bM bN bO bP bQ bR bS bT bU bV bW bX bY bZ b0 b1 b2 b3 b5 b6 b7 b8 b9 ca cb cc cd cf cg ch ci cj ck cl cn co cp cq cr cs ct cu cv cw cx cy cz cC cD cG cH cJ cK cL cM cN cO cP:AK} (v:AK) (ex:Int) (W:AA),mT w f m neg a b v ex W->K {tmps:=#[.int .i64 f,.int .i64 m,c,d,e,g,.pointer (some ⟨w.heap.size,0,none⟩),h,i,j,k,l,.bool neg,v,n,.int .i64 ex,o,p,q,r,s,t,u,x,y,z,A,B,C,D,E,F,G,H,I,J,L,M,N,O,P,Q,R,S,T,U,V,X,Y,Z,aa,ab,ac,ad,ae,af,ag,ah,ai,aj,ak,al,am,an,ao,ap,aq,ar,au,av,aw,ax,ay,az,aA,aB,aC,aD,aE,aF,aG,aH,aI,aJ,aK,aL,aM,aN,aO,aP,aQ,aR,aS,aT,aU,aV,aW,aX,aY,aZ,a0,a1,a2,a3,a5,a6,a7,a8,a9,ba,bb,bc,be,bf,bg,bh,bi,bj,bk,bm,bo,bp,bq,br,bs,bt,bu,bv,bx,bB,bC,bD,bE,bF,bG,bH,bI,bJ,bK,bL,bM,bN,bO,bP,bQ,bR,bS,bT,bU,bV,bW,bX,bY,bZ,b0,b1,b2,b3,b5,b6,b7,b8,b9,ca,cb,cc,cd,cf,cg,ch,ci,cj,ck,cl,cn,co,cp,cq,cr,cs,ct,cu,cv,cw,cx,cy,cz,cC,cD,cG,cH,cJ,cK,cL,cM,cN,cO,cP],defers:=[]} W
theorem PU(X:Code)(hX:X=BB [1,1,1,1,1,1,1,1,1,1,1,1,1,0,1,2,1,1,1,1,1] ((f53.body).getD .skip))(w W:AA)(f m:Int)(neg:Bool)(d v:AK)(o:Nat)(n:Nat)(U:AB)(q:Nat)(D:List UInt8)(Y:Kh)(K:Act->AA->Prop)(qi:Int)(aw:qi=(q:Int))(b:Bool){u2 u3 u4 u5 u7 u8 u9 aE aF aG aH aI aJ aK aL aM aN aO aP aQ aR aS aT aU aV aW aX aY aZ a0 a1 a2 a3 a5 a6 a7 a8 a9 ba bb bc be bf bg bh bi bj bk bm bo bp bq br bs bt bu bv bx bB bC bD bE bF bG bH bI bJ bK bL bM bN bO bP bQ bR bS bT bU bV bW bX bY bZ b0 b1 b2 b3 b5 b6 b7 b8 b9 ca cb cc cd cf cg ch ci cj ck cl cn co cp cq cr cs ct cu cv cw cx cy cz cC cD cG cH cJ cK cL cM cN cO cP cQ cR cS cT cU cV cW cX cY cZ c0 c1 c2 c3 c4 c5 c6 c7 c8 c9 da db dc dd de df dg dh di dj dk dm dn dp dq dr ds dt du dv dw dx dy dA dC dD dE dF dG dH dI dJ dK dL dM dN dO dP dQ dS dT:AK}(hU:U.size<=200)(hn:n<=200)(am:D.length<=200)(O:UF w o W v D)(A:Zo f m neg Y=d)(e:∀D n b P,Y=some (D,n,b,P)->AJ (AU (D.map (·-48)))/\(AU (D.map (·-48))).length<=200/\(-200000<=Gp n b P/\Gp n b P<=200000))
 (hq:q<=U.size) (l:Y=CZ ((bz U.data.toList).drop q) (bz D) n b []) (hK:mQ w f m neg d o K):
 X.wp prog (Exit.then K (bodyPost prog f53 (VZ w d))) {tmps:=#[.int .i64 f,.int .i64 m,u2,u3,u4,u5,.pointer (some ⟨w.heap.size,0,none⟩),u7,u8,u9,aE,.string U,.bool neg,v,aF,.int .i64 (-(n:Int)),.int .i64 qi,.bool b,.int .i64 0,aG,aH,aI,aJ,aK,aL,aM,aN,aO,aP,aQ,aR,aS,aT,aU,aV,aW,aX,aY,aZ,a0,a1,a2,a3,a5,a6,a7,a8,a9,ba,bb,bc,be,bf,bg,bh,bi,bj,bk,bm,bo,bp,bq,br,bs,bt,bu,bv,bx,bB,bC,bD,bE,bF,bG,bH,bI,bJ,bK,bL,bM,bN,bO,bP,bQ,bR,bS,bT,bU,bV,bW,bX,bY,bZ,b0,b1,b2,b3,b5,b6,b7,b8,b9,ca,cb,cc,cd,cf,cg,ch,ci,cj,ck,cl,cn,co,cp,cq,cr,cs,ct,cu,cv,cw,cx,cy,cz,cC,cD,cG,cH,cJ,cK,cL,cM,cN,cO,cP,cQ,cR,cS,cT,cU,cV,cW,cX,cY,cZ,c0,c1,c2,c3,c4,c5,c6,c7,c8,c9,da,db,dc,dd,de,df,dg,dh,di,dj,dk,dm,dn,dp,dq,dr,ds,dt,du,dv,dw,dx,dy,dA,dC,dD,dE,dF,dG,dH,dI,dJ,dK,dL,dM,dN,dO,dP,dQ,dS,dT],defers:=[]} W:=by
 have HK:Hid (mQ w f m neg d o K):=hK;subst aw;have c:=Ab O.2.1 O.2.2.1;have Q:=Ab O am;rw[ZT] at l;simp only[List.length_nil,Nat.zero_add,List.nil_append] at l;obtain⟨L,R⟩:=zxe ((bz U.data.toList).drop q);rw[R] at l;have ae:L.length=U.size-q:=by rw[<-R,List.length_drop,Jk,Array.length_toList];rfl
 obtain⟨r,hr⟩:=zxe (U.size-q);have dW:IntKind.i64.wrap ((U.size:Int)-(q:Int))=(r:Int):=Dn (by omega);have g:∀j (h:q+j<U.size),L.getD j 0=(U[q+j].toNat:Int):=λj h=>by
  have:=Dt U (q+j) h;rw[<-List.drop_drop,R] at this;have hj:j<L.length:=by omega
  rw[List.drop_eq_getElem_cons hj] at this;rw[List.getD_eq_getElem?_getD,Dq hj];exact(List.cons.inj this).1
 subst hX;clear hK O R;by_cases B:1<=r/\r<=5
 ·have C:=zq A;have S:=zq e;have E:=zq l;have F:Hid ((∀j (h:q+j<U.size),L.getD j 0=(U[q+j].toNat:Int))/\L.length=r/\U.size=q+r/\(1<=r/\r<=5)):=⟨g,by omega,by omega,B⟩;obtain⟨d9,ea⟩:¬(r:Int)<1/\¬5<(r:Int):=by omega
  have eb:(U.size:Int)=(q:Int)+(r:Int):=by omega
  clear A e l g ae hr B;simp only[f53,BB,Cd];go_wp2_with fail;clear dW;go_loopg [16,18] (U.size-q) (λgk i x wx=>∃k:Nat,q<=k/\k<=U.size/\Hid (gk=U.size-k)/\i=.int .i64 (k:Int)/\x=.int .i64 (pe (L.take (k-q)))/\wx=W/\Hid (∀t,t<k-q->K5 (L.getD t 0)=true));case atStart=>exact⟨q,AS _,by have:=F.out;omega,rfl,rfl,by rw[Nat.sub_self];rfl,rfl,λt p=>absurd p (by omega)⟩
  case round=>
   obtain⟨k,ec,ed,HG,rfl,rfl,G,s⟩:=hrel;subst G;obtain⟨g,ag,ah,ai⟩:=F.out;have T:∀y∈L.take (k-q),48<=y/\y<=57:=λy H=>by
    obtain⟨t,p,rfl⟩:=List.mem_iff_getElem.1 H;rw[FQ] at p;have:=s t (by omega);rw[List.getD_eq_getElem?_getD,Dq (by omega)] at this;rw[List.getElem_take];exact QM this
   have u:=Ra _ T;have V:(10:Int)^(L.take (k-q)).length<=10^5:=by
    have:=Nat.pow_le_pow_right (show 0<10 by decide) (show(L.take (k-q)).length<=5 by rw[FQ];omega)
    exact_mod_cast this
   by_cases ee:k<U.size
   ·have ef:(k:Int)<(q:Int)+(r:Int):=by omega
    have eg:U[k].toNat<256:=U[k].toNat_lt;have I:L.getD (k-q) 0=(U[k].toNat:Int):=by
     have:=g (k-q) (by omega);rw[this];congr 3;omega
    have Z:Hid (cF 117 #[.int .u8 (U[k].toNat:Int)] (.bool (K5 (U[k].toNat:Int)))):=λX=>CR _ X (by omega);cases hd:K5 (U[k].toNat:Int) with
    |true=>
     rw[hd] at Z;have H:=QM hd;have aq:Hid (pe (L.take (k+1-q))=pe (L.take (k-q))*10+((U[k].toNat:Int)-48)):=by
      have:=iM L (k-q) (by omega);show _=_
      rw[show k+1-q=k-q+1 by omega,this,I];omega
     have dZ:Hid (∀t,t<k+1-q->K5 (L.getD t 0)=true):=λt p=>by
      by_cases h:t<k-q
      ·exact s t h
      ·obtain rfl:t=k-q:=by omega
       rw[I];exact hd
     have d0:Hid (k+1<=U.size):=by show _<=_;omega
     have w2:IntKind.u8.wrap ((U[k].toNat:Int)-48)=(U[k].toNat:Int)-48:=by rw[IntKind.wrap_u8];omega
     obtain⟨a,J⟩:=zxe (pe (L.take (k-q)));rw[J] at aq u ⊢;have w1:=zw (a*10) (by omega);have w3:=zw ((U[k].toNat:Int)-48) (by omega);have w4:=zw (a*10+((U[k].toNat:Int)-48)) (by omega);have HW:Hid (wrap64 (a*10+((U[k].toNat:Int)-48)%256)=a*10+((U[k].toNat:Int)-48)):=by
      have:=IntKind.wrap_i64 (a*10+((U[k].toNat:Int)-48)%256);show _=_
      unfold wrap64;omega
     clear J V I g T ag ah ai hd s F E S C u H;go_wp2_with fail;refine cm (Z _) λd5 G=>?_;subst G;go_wp2;go_roundg (U.size-(k+1));case measure=>have:=HG.out;omega
     case rel=>exact⟨k+1,by omega,d0,rfl,by go_num,Ln.val_int (HW.trans aq.symm),rfl,dZ⟩
    |false=>
     rw[hd] at Z;have aa:Hid (.tuple #[BA 0 false 0 {data:=#[]} 0,.bool false]=d):=by
      have h:=C.out;rw[E,zyn (λz=>by
       have hm:L.getD (k-q) 0∈L:=by rw[List.getD_eq_getElem?_getD,Dq (by omega)];exact List.getElem_mem _
       have:=z.1 _ hm;rw[I,hd] at this;cases this)] at h
      exact h
     have hB:=BM;clear V I g T ag ah ai hd s F E S C u;go_wp2_with fail;refine cm (Z _) λd5 G=>?_;subst G;go_wp2_with (refine sR c.1 0 false 0 ⟨#[]⟩ 0 ?_);have e:=A1 c.1 0 false 0 ⟨#[]⟩ 0
     (try simp only[Exit.inBlock,Exit.then])
     refine rB e ?_;exact⟨congrArg Ending.returned aa,AC c.2 (AS _) _⟩
   ·obtain rfl:k=U.size:=by omega
    have ar:∀y∈L,K5 y=true:=λy H=>by
     obtain⟨t,p,rfl⟩:=List.mem_iff_getElem.1 H;have:=s t (by omega);rw[List.getD_eq_getElem?_getD,Dq p] at this;exact this
    have aj:Y=some (bz D,n,b,L):=by rw[E,zyp ⟨ar,by omega,by omega⟩]
    have ab:=S _ _ _ _ aj;have au:L.take (U.size-q)=L:=List.take_of_length_le (by omega);rw[au] at u V ⊢;have H4:Hid (mT w f m neg d o v (Gp n b L) wr):=⟨D,n,b,L,Q.1,rfl,by rw[<-aj];exact C,ab.1,ab.2.1,Q.2,ab.2.2⟩;have M:Hid (Gp n b L=(if b then -pe L else pe L)-(n:Int)):=rfl;have ei:¬(U.size:Int)<(q:Int)+(r:Int):=by omega
    obtain⟨a,J⟩:=zxe (pe L);rw[J] at M u ⊢;have w1:=zw (-a) (by omega);have w2:=zw (-(n:Int)+a) (by omega);have w3:=zw (-(n:Int)+-a) (by omega);clear J V g T ag ah ai s F E S C u ar aj ab au Q c HG hn hU am;cases b with
    |true=>
     have N:Hid (Gp n true L=-(n:Int)+-a):=by show _=_;rw[M];simp only[if_true];omega
     have H5:Hid (mT w f m neg d o v (-(n:Int)+-a) wr):=by
      have h:=H4.out;rw[N] at h;exact h
     clear H4 M N;go_wp2_with fail;exact HK _ _ _ H5
    |false=>
     have N:Hid (Gp n false L=-(n:Int)+a):=by show _=_;rw[M];simp only[Bool.false_eq_true,if_false];omega
     have H5:Hid (mT w f m neg d o v (-(n:Int)+a) wr):=by
      have h:=H4.out;rw[N] at h;exact h
     have ej:Hid (wrap64 (-(n:Int)+a)=-(n:Int)+a):=by
      have:=IntKind.wrap_i64 (-(n:Int)+a);show _=_
      unfold wrap64;omega
     clear H4 M N;go_wp2_with fail;exact HK _ _ _ H5
 ·have aa:Hid (.tuple #[BA 0 false 0 {data:=#[]} 0,.bool false]=d):=by
   rw[l,zyn (λq=>B (by omega))] at A;exact A
  have hB:=BM;simp only[f53,BB,Cd];clear e A l g Q HK;rcases(show r=0\/(¬(r:Int)<1/\5<(r:Int)) by omega) with rfl|⟨h1,h2⟩
  ·clear B hr ae;go_wp2_with (refine sR c.1 0 false 0 ⟨#[]⟩ 0 ?_);have e:=A1 c.1 0 false 0 ⟨#[]⟩ 0
   (try simp only[Exit.inBlock,Exit.then])
   refine rB e ?_;exact⟨congrArg Ending.returned aa,AC c.2 (AS _) _⟩
  ·clear B hr ae;go_wp2_with (refine sR c.1 0 false 0 ⟨#[]⟩ 0 ?_);have e:=A1 c.1 0 false 0 ⟨#[]⟩ 0
   (try simp only[Exit.inBlock,Exit.then])
   refine rB e ?_;exact⟨congrArg Ending.returned aa,AC c.2 (AS _) _⟩
theorem Zv(X:Code)(F:X=BB [1,1,1,1,1,1,1,1,1,1,1,1,1,0,1,2,1,1,1] ((f53.body).getD .skip))(w W:AA)(f m:Int)(neg:Bool)(b v:AK)(d:Nat)(n:Nat)(U:AB)(q:Nat)(D:List UInt8)(Y:Kh)(K:Act->AA->Prop)(y:Int)(G:y=(q:Int)){H I J L M N O Q R S T V Z aa ab ac ad ae af ag ah ai aj ak al am an ao ap aq ar au av aw ax ay az aA aB aC aD aE aF aG aH aI aJ aK aL aM aN aO aP aQ aR aS aT aU aV aW aX aY aZ a0 a1 a2 a3 a5 a6 a7 a8 a9 ba bb bc be bf bg bh bi bj bk bm bo bp bq br bs bt bu bv bx bB bC bD bE bF bG bH bI bJ bK bL bM bN bO bP bQ bR bS bT bU bV bW bX bY bZ b0 b1 b2 b3 b5 b6 b7 b8 b9 ca cb cc cd cf cg ch ci cj ck cl cn co cp cq cr cs ct cu cv cw cx cy cz cC cD cG cH cJ cK cL cM cN cO cP cQ cR cS cT cU cV cW cX cY cZ c0 c1 c2 c3 c4 c5 c6 c7 c8 c9 da db dc dd de df dg dh:AK}(h:U.size<=200)(i:n<=200)(j:D.length<=200)(z:UF w d W v D)(A:Zo f m neg Y=b)(B:∀D n s P,Y=some (D,n,s,P)->AJ (AU (D.map (·-48)))/\(AU (D.map (·-48))).length<=200/\(-200000<=Gp n s P/\Gp n s P<=200000))
 (C:q<=U.size) (c:Y=FB ((bz U.data.toList).drop q) (bz D) n) (E:mQ w f m neg b d K):
 X.wp prog (Exit.then K (bodyPost prog f53 (VZ w b))) {tmps:=#[.int .i64 f,.int .i64 m,H,I,J,L,.pointer (some ⟨w.heap.size,0,none⟩),M,N,O,Q,.string U,.bool neg,v,R,.int .i64 (-(n:Int)),.int .i64 y,.bool false,S,T,V,Z,aa,ab,ac,ad,ae,af,ag,ah,ai,aj,ak,al,am,an,ao,ap,aq,ar,au,av,aw,ax,ay,az,aA,aB,aC,aD,aE,aF,aG,aH,aI,aJ,aK,aL,aM,aN,aO,aP,aQ,aR,aS,aT,aU,aV,aW,aX,aY,aZ,a0,a1,a2,a3,a5,a6,a7,a8,a9,ba,bb,bc,be,bf,bg,bh,bi,bj,bk,bm,bo,bp,bq,br,bs,bt,bu,bv,bx,bB,bC,bD,bE,bF,bG,bH,bI,bJ,bK,bL,bM,bN,bO,bP,bQ,bR,bS,bT,bU,bV,bW,bX,bY,bZ,b0,b1,b2,b3,b5,b6,b7,b8,b9,ca,cb,cc,cd,cf,cg,ch,ci,cj,ck,cl,cn,co,cp,cq,cr,cs,ct,cu,cv,cw,cx,cy,cz,cC,cD,cG,cH,cJ,cK,cL,cM,cN,cO,cP,cQ,cR,cS,cT,cU,cV,cW,cX,cY,cZ,c0,c1,c2,c3,c4,c5,c6,c7,c8,c9,da,db,dc,dd,de,df,dg,dh],defers:=[]} W:=by
 have k:Hid (mQ w f m neg b d K):=E;subst G;have l:=zq z;have o:=zq A;have p:=zq B;subst F;clear E z A B;by_cases r:q<U.size
 ·have di:(q:Int)<(U.size:Int):=by omega
  have dj:U[q].toNat<256:=U[q].toNat_lt;have wq:=zw ((q:Int)+1) (by omega);by_cases t:(U[q].toNat:Int)=43
  ·have e:Hid (Y=CZ ((bz U.data.toList).drop (q+1)) (bz D) n false []):=by show _=_;rw[c,Dt U _ r,t,iG]
   simp only[f53,BB,Cd];clear c;go_upto_region 38 with fail;rename_i u a;have g:Hid _:=a;clear a;go_wp2;refine g _ _ ?_;refine PU _ ?_ w W f m neg b v d n U (q+1) D Y K _ (by omega) false h i j l o p (by omega) e k;simp only[f53,BB,Cd]
  ·by_cases x:(U[q].toNat:Int)=45
   ·have e:Hid (Y=CZ ((bz U.data.toList).drop (q+1)) (bz D) n true []):=by show _=_;rw[c,Dt U _ r,x,iE]
    simp only[f53,BB,Cd];clear c;go_upto_region 38 with fail;rename_i u a;have g:Hid _:=a;clear a;go_wp2;refine g _ _ ?_;refine PU _ ?_ w W f m neg b v d n U (q+1) D Y K _ (by omega) true h i j l o p (by omega) e k;simp only[f53,BB,Cd]
   ·have e:Hid (Y=CZ ((bz U.data.toList).drop q) (bz D) n false []):=by show _=_;rw[c,Dt U _ r,iF _ _ _ _ t x]
    have dm:((U[q].toNat:Int)==43)=false:=beq_eq_false_iff_ne.2 t;have dn:((U[q].toNat:Int)==45)=false:=beq_eq_false_iff_ne.2 x;simp only[f53,BB,Cd];clear c;go_upto_region 38 with fail;rename_i u a;have g:Hid _:=a;clear a;go_wp2;refine g _ _ ?_;refine PU _ ?_ w W f m neg b v d n U q D Y K _ (by omega) false h i j l o p C e k;simp only[f53,BB,Cd]
 ·have di:¬(q:Int)<(U.size:Int):=by omega
  have e:Hid (Y=CZ ((bz U.data.toList).drop q) (bz D) n false []):=by show _=_;rw[c,OF U _ r];rfl
  simp only[f53,BB,Cd];clear c;go_upto_region 38 with fail;rename_i u a;have g:Hid _:=a;clear a;go_wp2;refine g _ _ ?_;refine PU _ ?_ w W f m neg b v d n U q D Y K _ (by omega) false h i j l o p C e k;simp only[f53,BB,Cd]
def TW(w0:AA):Prop:=∀X,AD w0.heap.size w0 X->Dr X/\Tz X
abbrev gK(U:Nat):AB:=⟨(G4 16 U).toArray⟩
theorem Wj(w0:AA)(d:TW w0)(j:Nat)(m q:Int)(a:CQ)(b:AG)(k:a.2.2.2=tx b)(e:P9 8 5 398 a.1 a.2.1 a.2.2.1 b)(base:Nat)(v:AK)(w:AA)(c:AD w0.heap.size w0 w)(l:St w j 64 m q)(n:DV w base v [a]):
 cB 40 #[.pointer (some ⟨j,0,none⟩),v] w (.string (gK (Dd 8 5 398 a.1 a.2.1 a.2.2.1 b).toNat)):=by
 obtain⟨g,A,rfl,B,C,o⟩:=F5 n (by simp);obtain⟨r,s,t,u⟩:=o 0 a rfl;simp only[Nat.zero_mul,Nat.zero_add] at r s t u;have f:=Lz 8 5 398 a.1 a.2.1 a.2.2.1 b (by decide) e;have x:Hid (∀X,AD w.heap.size w X->cB 105 #[AH a.1 a.2.1 a.2.2.1 a.2.2.2] X (.tuple #[.int .u64 (((Dd 8 5 398 a.1 a.2.1 a.2.2.1 b).toNat:Nat):Int),.bool true])):=λX h=>by
  rw[k,Int.toNat_of_nonneg f.1];exact Qo _ _ _ b X (d X (c.trans (h.mono c.size))).1 e
 have p:(Dd 8 5 398 a.1 a.2.1 a.2.2.1 b).toNat<18446744073709551616:=by have:=f.2;omega
 have y:Hid (∀X,AD w.heap.size w X->cB 106 #[.int .u64 (((Dd 8 5 398 a.1 a.2.1 a.2.2.1 b).toNat:Nat):Int)] X (.string (gK (Dd 8 5 398 a.1 a.2.1 a.2.2.1 b).toNat))):=λX h=>KF _ p X (d X (c.trans (h.mono c.size))).2;obtain⟨D,E,F,-⟩:=l.cells;generalize (Dd 8 5 398 a.1 a.2.1 a.2.2.1 b).toNat=U at*
 obtain⟨G,H,I,J⟩:=a;dsimp only at*
 clear d c l n o f k e p;go_enter func40,ntmps40;go_wp2_with (first|(go_at_call 105;refine cm (x _ (BI _ _)) λK i=>?_)|(go_at_call 106;refine cm (y _ i) λL z=>?_)|go_in);go_ret;exact⟨rfl,i.trans (z.mono i.size)⟩
theorem Tk(w0:AA)(k:TW w0)(x:Nat)(m T:Int)(a:CQ)(b:AG)(y:a.2.2.2=tx b)(l:P9 12 11 6176 a.1 a.2.1 a.2.2.1 b)(base:Nat)(v:AK)(w:AA)(f:AD w0.heap.size w0 w)(z:St w x 128 m T)(A:DV w base v [a]):
 cB 40 #[.pointer (some ⟨x,0,none⟩),v] w (.string (gK (Dd 12 11 6176 a.1 a.2.1 a.2.2.1 b/18446744073709551616).toNat++gK (Dd 12 11 6176 a.1 a.2.1 a.2.2.1 b%18446744073709551616).toNat)):=by
 obtain⟨g,ad,rfl,ae,af,B⟩:=F5 A (by simp);obtain⟨D,E,F,G⟩:=B 0 a rfl;simp only[Nat.zero_mul,Nat.zero_add] at D E F G;have n:=Lz 12 11 6176 a.1 a.2.1 a.2.2.1 b (by decide) l;obtain⟨H,L,o,p,I,J⟩:∃H L:Nat,Dd 12 11 6176 a.1 a.2.1 a.2.2.1 b/18446744073709551616=(H:Int)/\Dd 12 11 6176 a.1 a.2.1 a.2.2.1 b%18446744073709551616=(L:Int)/\H<18446744073709551616/\L<18446744073709551616:=by
  have h2:=n.2;have h1:=n.1;generalize Dd 12 11 6176 a.1 a.2.1 a.2.2.1 b=W at*
  refine⟨(W/18446744073709551616).toNat,(W%18446744073709551616).toNat,?_,?_,?_,?_⟩<;>omega
 have K:Hid (∀X,AD w.heap.size w X->cB 107 #[AH a.1 a.2.1 a.2.2.1 a.2.2.2] X (.tuple #[J8 H L,.bool true])):=λX q=>by
  rw[y,<-o,<-p];exact Oh _ _ _ b X (k X (f.trans (q.mono f.size))).1 l
 rw[o,p,Int.toNat_natCast,Int.toNat_natCast];have r:Hid (∀U:Nat,U<18446744073709551616->∀X,AD w.heap.size w X->cB 106 #[.int .u64 U] X (.string (gK U))):=λU V X q=>KF _ V X (k X (f.trans (q.mono f.size))).2;have M:=zq (r H I);have N:=zq (r L J);have ai:(gK H).size=16:=by show(G4 16 H).toArray.size=16;rw[List.size_toArray,Ea]
 have aj:(gK L).size=16:=by show(G4 16 L).toArray.size=16;rw[List.size_toArray,Ea]
 have ak:¬9223372036854775807<16+16:=by decide
 obtain⟨Y,Z,c2,-⟩:=z.cells;generalize gK H=TA at*
 generalize gK L=TL at*
 obtain⟨n1,n2,n3,n4⟩:=a;dsimp only at*
 clear k f z A B n y l o p r I J;go_enter func40,ntmps40;go_wp2_with (first|(go_at_call 107;refine cm (K _ (BI _ _)) λc h=>?_)|fail);have O:=Ao c (.cells #[.int .u64 (H:Int),.int .u64 (L:Int)] 100);have i:Hid (∀W,AD (c.alloc (.cells #[.int .u64 (H:Int),.int .u64 (L:Int)] 100)).heap.size (c.alloc (.cells #[.int .u64 (H:Int),.int .u64 (L:Int)] 100)) W->W.cell? ⟨c.heap.size,0,none⟩=some (.int .u64 (H:Int))/\W.cell? ⟨c.heap.size,1,none⟩=some (.int .u64 (L:Int))/\AD w.heap.size w W):=λW d=>by
  have e:=(d.block c.heap.size (by simp)).trans O;exact⟨AO e 0,AO e 1,(h.alloc h.size _).trans (d.mono (h.alloc h.size _).size)⟩
 generalize (c.alloc (.cells #[.int .u64 (H:Int),.int .u64 (L:Int)] 100))=s at*
 have P:=zq λW d=>M W (i W d).2.2;have Q:=zq λW d=>N W (i W d).2.2;have R:=dR s;clear O h K D E F G Y Z c2;go_upto_region 5 with fail;refine AP (C:=AD s.heap.size s) R ?_;repeat (go_big_quiet_step ((intro j;rename_i t;first|exact rfl|((with_reducible refine Calls.class_of (P.out t j) ?_);exactλw' u=>BQ j u)|((with_reducible refine Calls.class_of (Q.out t j) ?_);exactλw' u=>BQ j u)|(obtain⟨q0,q1,-⟩:=i.out t j;go_simp;exact rfl))))
 refine wpQuiet_nil ?_;intro w4 S;have HR:=zq ((i w4 S).2.2);clear S R i M N P Q;go_wp2;go_ret;exact⟨rfl,HR⟩
theorem Uk:(prog.info? 9).map (λi=>(i.zero,i.size,i.bytes))=some (some (.string ⟨#[]⟩),1,16):=by kernel_rfl
def Ej(w:AA)(base:Nat)(v:AK)(a:List AB):Prop:=w.ownsRow base 9 1 v a.length (a.map Value.string)
theorem Ej.below{w a:AA}{base B:Nat}{v:AK}{b:List AB}(h:Ej w base v b)(c:AD B w a)(d:w.heap.size<=B):Ej a base v b:=Ct h c d
theorem Ro(w:AA):Ej (w.alloc (.cells #[] 9)) w.heap.size (.slice (some ⟨w.heap.size,0,none⟩) 0 0) []:=
 World.ownsRow_made (e:=9) (size:=1) (base:=w.heap.size) w #[] 0 (AS _) (B9 _) rfl
theorem Ej.form{w:AA}{base:Nat}{v:AK}{a:List AB}(h:Ej w base v a)(f:0<a.length):∃g b,v=.slice (some ⟨g,0,none⟩) a.length b/\g<w.heap.size/\base<=g/\∀i x,a[i]?=some x->w.cell? ⟨g,i,none⟩=some (.string x):=by
 have c:=h;rcases h.2 with⟨rfl,e⟩|⟨g,b,j,rfl,k,l,e,m,n,o⟩
 ·omega
 ·refine⟨g,b,rfl,(World.ownsRow.lt c g rfl).2,(World.ownsRow.lt c g rfl).1,λi x d=>?_⟩;have p:=(List.getElem?_eq_some_iff.1 d).1;have:=World.ownsRow.cellAt c i (by omega);simpa[d] using this
theorem Hg(x:AB):∀u∈[Value.string x],u.oneCell'=true:=λu a=>by
 obtain rfl:u=Value.string x:=by simpa using a
 rfl
theorem Hk{w:AA}{base:Nat}{v:AK}{a:List AB}{x:AB}(h:w.ownsRow base 9 1 v (a.length+1) (a.map Value.string++[.string x])):Ej w base v (a++[x]):=by
 unfold Ej;simpa using h
theorem Ou(s:ByteArray)(w:World)(hs:s.size<=20000):
 Calls Tryz.prog 48 #[.string s] w λe w'=>∃v,e=.returned v/\Ej w' w.heap.size v (Dp 32 s)/\Below w.heap.size w w':=by
 obtain⟨i0,hi,hz0,hz1,hz2⟩:=info_parts Uk
 have HR0:Hid (Ej (w.alloc (.cells #[] 9)) w.heap.size (.slice (some ⟨w.heap.size,0,none⟩) 0 0) []/\Below w.heap.size w (w.alloc (.cells #[] 9))):=⟨Ro w,bA⟩
 go_enter Tryz.func48,Tryz.ntmps48
 go_wp2
 go_loopw [3,4,5] (λv a i wr=>∃(q p:Nat) (ws:List ByteArray),i=.int .i64 (q:Int)/\a=.int .i64 (p:Int)/\Hid (Ej wr w.heap.size v ws/\Below w.heap.size w wr)/\Hid ((q<=s.size/\NI 32 s q p ws)\/(q=s.size+1/\ws=Dp 32 s))) (λ_ _ i _=>s.size+1-(intOf i).toNat)
 case atStart=>exact⟨0,0,[],rfl,rfl,HR0.out,.inl ⟨Nat.zero_le _,NI.start 32 s⟩⟩
 case round=>
  clear HR0
  obtain⟨q,p,ws,rfl,rfl,HR,HI⟩:=hrel
  rcases HI.out with⟨hq,hI⟩|⟨rfl,hw⟩
  ·have hlen:=hI.len
   have hpq:=hI.1
   have hsz:=HR.out.2.size
   obtain⟨h0p,hpq0⟩:¬((p:Int)<0)/\¬((q:Int)<(p:Int)):=by omega
   rcases Nat.lt_or_ge q s.size with h|h
   ·obtain⟨hq1,hqn⟩:(q:Int)<(s.size:Int)/\¬(q:Int)=(s.size:Int):=by omega
    have hqe:((q:Int)==(s.size:Int))=false:=beq_eq_false_iff_ne.2 hqn
    by_cases hx:s[q]=32
    ·have HN:Hid ((q+1<=s.size/\NI 32 s (q+1) (q+1) (ws++[s.extract p q]))\/(q+1=s.size+1/\ws++[s.extract p q]=Dp 32 s)):=.inl ⟨h,hI.hit h hx⟩
     have hb1:(s[q].toNat:Int)=32:=by rw[hx];rfl
     have hb2:((s[q].toNat:Int)==32)=true:=by rw[hb1];rfl
     clear HI hI hx
     go_wp2_with (first|(at_builtin;refine wpList_append_own _ rfl _ _ 26 rfl w.heap.size 9 i0 (.string ⟨#[]⟩) 1 16 Tryz.underlying26 hi hz0 hz1 hz2 rfl (by decide) _ ws.length (ws.map Value.string) rfl (World.ownsRow.alloc HR.out.1 _) ⟨wr.heap.size,0,none⟩ 1 1 [.string (s.extract p q)] rfl rfl (World.news_of_block (cs:=#[.string (s.extract p q)]) (t:=9) (fr:=(0,0)) (heap_alloc_new wr _)) (Hg _) (by unfold maxLen;omega) (by omega) (by simp;omega) ?_)|go_in)
     intro v' w6 hown6 hgrow _
     have H6:Hid (Ej w6 w.heap.size v' (ws++[s.extract p q])/\Below w.heap.size w w6):=⟨Hk hown6,Below.grown (HR.out.2.alloc hsz _) hgrow (by simp;omega) (λj hj=>(World.ownsRow.lt HR.out.1 j hj).1)⟩
     clear hown6 hgrow HR
     go_wp2
     go_roundw
     case rel=>exact⟨q+1,q+1,_,by go_num,by go_num,H6,HN⟩
     case measure=>simp[intOf];omega
    ·have HN:Hid ((q+1<=s.size/\NI 32 s (q+1) p ws)\/(q+1=s.size+1/\ws=Dp 32 s)):=.inl ⟨h,hI.skip h hx⟩
     have hb1:¬(s[q].toNat:Int)=32:=λe=>hx (UInt8.toNat_inj.1 (show s[q].toNat=32 by omega))
     clear HI hI hx
     go_wp2
     go_roundw
     case rel=>exact⟨q+1,p,ws,by go_num,rfl,HR,HN⟩
     case measure=>simp[intOf];omega
   ·obtain rfl:q=s.size:=by omega
    have HN:=zq hI.fin
    clear HI hI
    go_wp2_with (first|(at_builtin;refine wpList_append_own _ rfl _ _ 26 rfl w.heap.size 9 i0 (.string ⟨#[]⟩) 1 16 Tryz.underlying26 hi hz0 hz1 hz2 rfl (by decide) _ ws.length (ws.map Value.string) rfl (World.ownsRow.alloc HR.out.1 _) ⟨wr.heap.size,0,none⟩ 1 1 [.string (s.extract p s.size)] rfl rfl (World.news_of_block (cs:=#[.string (s.extract p s.size)]) (t:=9) (fr:=(0,0)) (heap_alloc_new wr _)) (Hg _) (by unfold maxLen;omega) (by omega) (by simp;omega) ?_)|go_in)
    intro v' w6 hown6 hgrow _
    have H6:Hid (Ej w6 w.heap.size v' (ws++[s.extract p s.size])/\Below w.heap.size w w6):=⟨Hk hown6,Below.grown (HR.out.2.alloc hsz _) hgrow (by simp;omega) (λj hj=>(World.ownsRow.lt HR.out.1 j hj).1)⟩
    clear hown6 hgrow HR
    go_wp2
    go_roundw
    case rel=>exact⟨s.size+1,s.size+1,_,by go_num,by go_num,H6,.inr ⟨rfl,HN.out⟩⟩
    case measure=>simp[intOf]<;>omega
  ·have HF:Hid (Ej wr w.heap.size u3 (Dp 32 s)/\Below w.heap.size w wr):=by rw[<-hw];exact HR.out
   clear HR HI hw
   go_wp2
   go_ret
   exact⟨u3,rfl,HF.out.1,HF.out.2⟩
def vB(l:List UInt8):Int:=l.foldl (λa b=>a*10+((b.toNat:Int)-48)) 0
def dB(l:List UInt8):Prop:=∀b∈l,48<=b.toNat/\b.toNat<=57
theorem VQ(l:List UInt8)(b:UInt8):vB (l++[b])=vB l*10+((b.toNat:Int)-48):=by unfold vB;rw[List.foldl_append];rfl
theorem UU{l:List UInt8}{b:UInt8}(h:dB l)(c:48<=b.toNat/\b.toNat<=57):dB (l++[b]):=λx a=>by
 rcases List.mem_append.1 a with a|a
 ·exact h x a
 ·rw[List.mem_singleton.1 a];exact c
theorem jm(l:List UInt8)(h:dB l):0<=vB l/\vB l<10^l.length:=by
 suffices H:∀(l:List UInt8) (a:Int),dB l->0<=a->a*10^l.length<=l.foldl (λa b=>a*10+((b.toNat:Int)-48)) a/\l.foldl (λa b=>a*10+((b.toNat:Int)-48)) a<(a+1)*10^l.length by
  have:=H l 0 h (Int.le_refl _);unfold vB;rw[Int.zero_mul,Int.zero_add,Int.one_mul] at this;exact this
 intro l;induction l with
 |nil=>intro a _ _;simp;omega
 |cons b l ih=>
  intro a c f;have g:=c b Gx;have d:=ih (a*10+((b.toNat:Int)-48)) (λx e=>c x (GH _ e)) (by omega);rw[List.foldl_cons,List.length_cons,Int.pow_succ];have i:(0:Int)<10^l.length:=Int.pow_pos (by decide);generalize (10:Int)^l.length=P at*
  refine⟨Int.le_trans ?_ d.1,FS d.2 ?_⟩
  ·have:a*(P*10)=a*10*P:=by rw[Int.mul_comm P 10,Int.mul_assoc]
   rw[this];exact If (by omega) (by omega)
  ·have:(a+1)*(P*10)=(a*10+10)*P:=by rw[Int.mul_comm P 10,<-Int.mul_assoc];congr 1;omega
   rw[this];exact If (by omega) (by omega)
def fE(l:List UInt8):Prop:=1<=l.length/\l.length<=9/\dB l/\l.head?≠some 48
def m9(l:List UInt8)(n:Int)(b:Bool):Prop:=(fE l->n=vB l/\b=true)/\(¬fE l->b=true->n<=0)/\-1000000000<=n/\n<=1000000000
def oB(l:List UInt8)(e:Ending):Prop:=∃n b,e=.returned (.tuple #[.int .i64 n,.bool b])/\m9 l n b
theorem Jv(s:AB)(h:1<=s.size):s.toList.isEmpty=false:=by
 rw[ByteArray.toList_eq];cases e:s.data.toList with
 |nil=>have:s.data.toList.length=s.size:=Array.length_toList
       rw[e] at this;simp at this;omega
 |cons _ _=>rfl
theorem UN(b:UInt8)(c:UInt8)(h:b≠c):¬(b.toNat:Int)=(c.toNat:Int):=λe=>h (UInt8.toNat_inj.1 (by omega))
theorem Kw(s:AB)(q:Nat)(h:q<s.size):s.data.toList[q]?=some s[q]:=by
 have a:q<s.data.toList.length:=by rw[Array.length_toList];exact h
 rw[Dq a];rfl
theorem Vs(s:AB)(i q:Nat)(h:i+q<s.size):(s.data.toList.drop i).take (q+1)=(s.data.toList.drop i).take q++[s[i+q]]:=by
 rw[List.take_add_one,List.getElem?_drop,Kw s (i+q) h];rfl
theorem M0(s:AB)(w:AA)(K:s.size<=20000)(f:1<=s.size)(v:s.size<=9)(z:s[0]≠45):
 Calls prog 49 #[.string s] w λe A=>oB s.data.toList e/\A=w:=by
 have m:s.data.toList.length=s.size:=Array.length_toList;have L:=Jv s f;have M:¬(s[0].toNat:Int)=45:=UN _ 45 z;obtain⟨N,O⟩:(0:Int)<(s.size:Int)/\¬(s.size:Int)<1:=by omega
 have P:¬(9:Int)<(s.size:Int):=by omega
 have d:=zq m;clear m;go_enter func49,ntmps49;go_wp2;go_loopw [6,7] (λn k wr=>∃q:Nat,q<=s.size/\k=.int .i64 (q:Int)/\n=.int .i64 (vB (s.data.toList.take q))/\Hid (dB (s.data.toList.take q))/\wr=w) (λ_ k _=>s.size-(intOf k).toNat);case atStart=>exact⟨0,B9 _,rfl,rfl,λx B=>by simp at B,rfl⟩
 case round=>
  obtain⟨q,Q,rfl,rfl,i,rfl⟩:=hrel;have j:=jm _ i;have C:vB (s.data.toList.take q)<1000000000:=by
   refine FS j.2 (Int.le_trans (AI _ 9 ?_) (by decide));rw[FQ];omega
  have D:=j.1;clear j;by_cases o:q<s.size
  ·have R:(q:Int)<(s.size:Int):=by omega
   have E:=zq (Nu s q o);have S:s[q].toNat<256:=s[q].toNat_lt;by_cases p:48<=s[q].toNat/\s[q].toNat<=57
   ·have r:Hid (vB (s.data.toList.take (q+1))=vB (s.data.toList.take q)*10+((s[q].toNat:Int)-48)/\dB (s.data.toList.take (q+1))):=by
     rw[E];exact⟨VQ _ _,UU i p⟩
    have F:=Io (y:=(s[q].toNat:Int)) (by omega);have T:IntKind.u8.wrap ((s[q].toNat:Int)-48)=(s[q].toNat:Int)-48:=by rw[IntKind.wrap_u8];omega
    have U:=zw (vB (s.data.toList.take q)*10) (by omega);have V:=zw (vB (s.data.toList.take q)*10+((s[q].toNat:Int)-48)) (by omega);have W:=zw ((s[q].toNat:Int)-48) (by omega);go_wp2_with (first|(go_at_call 117;refine(CR _ _ (by omega)).mono ?_;rintro e G ⟨rfl,rfl⟩)|go_in);go_roundw;case rel=>exact⟨q+1,by omega,by go_num,by rw[r.out.1],r.2,trivial⟩
    case measure=>simp[intOf];omega
   ·have F:=IL (y:=(s[q].toNat:Int)) (by omega);have a:Hid (¬fE s.data.toList):=λg=>p (g.2.2.1 _ (List.mem_of_getElem? (Kw s q o)));go_wp2_with (first|(go_at_call 117;refine(CR _ _ (by omega)).mono ?_;rintro e G ⟨rfl,rfl⟩)|go_in);go_ret2;exact⟨⟨0,false,rfl,λg=>absurd g a,λ_ h=>(Bool.false_ne_true h).elim,by decide,by decide⟩,rfl⟩
  ·obtain rfl:q=s.size:=by omega
   have t:Hid (s.data.toList.take s.size=s.data.toList):=by rw[<-d];exact List.take_length
   rw[t] at C D ⊢;have l:Hid (s.data.toList.head?=some s[0]):=by rw[List.head?_eq_getElem?];exact Kw s 0 f
   by_cases c:s[0]=48
   ·have H:(s[0].toNat:Int)=48:=by rw[c];rfl
    have a:Hid (¬fE s.data.toList):=λg=>g.2.2.2 (by rw[l,c]);by_cases X:1<s.size
    ·have I:(1:Int)<(s.size:Int):=by omega
     go_wp2;go_ret2;exact⟨⟨0,false,rfl,λg=>absurd g a,λ_ h=>(Bool.false_ne_true h).elim,by decide,by decide⟩,rfl⟩
    ·have I:¬(1:Int)<(s.size:Int):=by omega
     have J:Hid (vB s.data.toList=0):=by
      obtain⟨b,u⟩:=List.length_eq_one_iff.1 (show s.data.toList.length=1 by rw[d];omega);have h:=l.out;rw[u] at h;obtain rfl:b=48:=by rw[<-c];exact Gy h
      rw[Hid,u];rfl
     go_wp2;go_ret2;exact⟨⟨_,true,rfl,λg=>absurd g a,λ_ _=>by rw[J];exact Int.le_refl _,by omega,by omega⟩,rfl⟩
   ·have H:¬(s[0].toNat:Int)=48:=UN _ 48 c;have a:Hid (dB s.data.toList):=by have h:=i.out;rwa[t] at h
    go_wp2;go_ret2;exact⟨⟨_,true,rfl,λg=>⟨rfl,rfl⟩,λg=>absurd ⟨by rw[d];exact f,by rw[d];exact v,a,by rw[l];exactλe=>c (Gy e)⟩ g,by omega,by omega⟩,rfl⟩
theorem gG(s:AB)(a:1<=s.size)(b:s[0]=45):¬fE s.data.toList:=λg=>by
 have:=g.2.2.1 s[0] (List.mem_of_getElem? (Kw s 0 a));rw[b] at this;exact absurd this.1 (by decide)
theorem IE(s:AB)(w:AA)(m:s.size<=20000)(h:s.size=0\/(9<s.size/\∀h:0<s.size,s[0]≠45)):
 Calls prog 49 #[.string s] w λe d=>oB s.data.toList e/\d=w:=by
 have a:s.data.toList.length=s.size:=Array.length_toList;have b:Hid (¬fE s.data.toList):=λg=>by have f:=g.1;have i:=g.2.1;rw[a] at f i;omega
 have c:Hid (m9 s.data.toList 0 false):=⟨λg=>absurd g b,λ_ h=>(Bool.false_ne_true h).elim,by decide,by decide⟩;clear b a;rcases h with h|⟨h,j⟩
 ·have k:s.toList.isEmpty=true:=by
   rw[ByteArray.toList_eq];have:s.data.toList.length=0:=by rw[Array.length_toList];exact h
   rw[List.length_eq_zero_iff.1 this];rfl
  have n:(s.size:Int)=0:=by omega
  go_enter func49,ntmps49;go_wp2;go_ret2;exact⟨⟨0,false,rfl,c⟩,rfl⟩
 ·have k:=Jv s (by omega);obtain⟨o,p⟩:(0:Int)<(s.size:Int)/\¬(s.size:Int)<1:=by omega
  obtain⟨q,l⟩:(9:Int)<(s.size:Int)/\0<s.size:=by omega
  have r:¬(s[0].toNat:Int)=45:=UN _ 45 (j l);go_enter func49,ntmps49;go_wp2;go_ret2;exact⟨⟨0,false,rfl,c⟩,rfl⟩
theorem Mz(s:AB)(w:AA)(H:s.size<=20000)(d:1<=s.size)(f:s[0]=45):
 Calls prog 49 #[.string s] w λe v=>oB s.data.toList e/\v=w:=by
 have o:=zq (gG s d f);have b:Hid (m9 s.data.toList 0 false):=⟨λg=>absurd g o,λ_ h=>(Bool.false_ne_true h).elim,by decide,by decide⟩;have I:=Jv s d;have z:(s[0].toNat:Int)=45:=by rw[f];rfl
 have J:((s[0].toNat:Int)==45)=true:=by rw[z];rfl
 have K:(0:Int)<(s.size:Int):=by omega
 have L:=zw ((s.size:Int)-1) (by omega);clear f;by_cases i:2<=s.size/\s.size<=10
 ·obtain⟨c,M⟩:¬(s.size:Int)-1<1/\¬(9:Int)<(s.size:Int)-1:=by omega
  have N:=i.2;have O:=i.1;clear i;go_enter func49,ntmps49;go_wp2;go_loopw [6,7] (λn k wr=>∃q:Nat,1+q<=s.size/\k=.int .i64 ((1+q:Nat):Int)/\n=.int .i64 (vB ((s.data.toList.drop 1).take q))/\Hid (dB ((s.data.toList.drop 1).take q))/\wr=w) (λ_ k _=>s.size-(intOf k).toNat);case atStart=>exact⟨0,d,rfl,rfl,λx A=>by simp at A,rfl⟩
  case round=>
   obtain⟨q,j,rfl,rfl,l,rfl⟩:=hrel;have m:=jm _ l;have P:vB ((s.data.toList.drop 1).take q)<1000000000:=by
    refine FS m.2 (Int.le_trans (AI _ 9 ?_) (by decide));rw[FQ,List.length_drop];omega
   have Q:=m.1;clear m;obtain⟨k,a⟩:=zxe (1+q);by_cases B:k<s.size
   ·have R:(k:Int)<(s.size:Int):=by omega
    have S:s[k].toNat<256:=s[k].toNat_lt;have C:Hid ((s.data.toList.drop 1).take (q+1)=(s.data.toList.drop 1).take q++[s[k]]):=by
     subst a;exact Vs s 1 q B
    have p:Hid (1+(q+1)=k+1):=by show _=_;omega
    rw[a];by_cases D:48<=s[k].toNat/\s[k].toNat<=57
    ·have r:Hid (vB ((s.data.toList.drop 1).take (q+1))=vB ((s.data.toList.drop 1).take q)*10+((s[k].toNat:Int)-48)/\dB ((s.data.toList.drop 1).take (q+1))):=by
      rw[C];exact⟨VQ _ _,UU l D⟩
     have E:=Io (y:=(s[k].toNat:Int)) (by omega);generalize vB ((s.data.toList.drop 1).take q)=V at*
     clear a j;have T:IntKind.u8.wrap ((s[k].toNat:Int)-48)=(s[k].toNat:Int)-48:=by rw[IntKind.wrap_u8];omega
     have U:=zw (V*10) (by omega);have W:=zw (V*10+((s[k].toNat:Int)-48)) (by omega);have X:=zw ((s[k].toNat:Int)-48) (by omega);go_wp2_with (first|(go_at_call 117;refine(CR _ _ (by omega)).mono ?_;rintro e F ⟨rfl,rfl⟩)|go_in);go_roundw;case rel=>exact⟨q+1,by rw[p];omega,by rw[p];go_num,by rw[r.out.1],r.2,trivial⟩
     case measure=>simp[intOf];omega
    ·have E:=IL (y:=(s[k].toNat:Int)) (by omega);clear a j;go_wp2_with (first|(go_at_call 117;refine(CR _ _ (by omega)).mono ?_;rintro e F ⟨rfl,rfl⟩)|go_in);go_ret2;exact⟨⟨0,false,rfl,b⟩,rfl⟩
   ·obtain rfl:k=s.size:=by omega
    obtain⟨Y,Z⟩:1<s.size/\(1:Int)<(s.size:Int):=by omega
    rw[a];generalize vB ((s.data.toList.drop 1).take q)=V at*
    have wE:=zw (-V) (by omega);have G:Hid (m9 s.data.toList (-V) true):=⟨λg=>absurd g o,λ_ _=>by omega,by omega,by omega⟩;clear a j l;by_cases t:s[1]=48
    ·have u:(s[1].toNat:Int)=48:=by rw[t];rfl
     have ab:((s[1].toNat:Int)==48)=true:=by rw[u];rfl
     go_wp2;go_ret2;exact⟨⟨0,false,rfl,b⟩,rfl⟩
    ·have u:=UN _ 48 t;go_wp2;go_ret2;exact⟨⟨_,true,rfl,G⟩,rfl⟩
 ·have c:(s.size:Int)-1<1\/(9:Int)<(s.size:Int)-1:=by omega
  rcases c with c|c
  ·go_enter func49,ntmps49;go_wp2;go_ret2;exact⟨⟨0,false,rfl,b⟩,rfl⟩
  ·have ac:¬(s.size:Int)-1<1:=by omega
   go_enter func49,ntmps49;go_wp2;go_ret2;exact⟨⟨0,false,rfl,b⟩,rfl⟩
theorem ID(s:AB)(w:AA)(a:s.size<=20000):Calls prog 49 #[.string s] w λe d=>oB s.data.toList e/\d=w:=by
 by_cases f:s.size=0
 ·exact IE s w a (.inl f)
 ·have c:1<=s.size:=by omega
  by_cases b:s[0]=45
  ·exact Mz s w a c b
  ·by_cases g:s.size<=9
   ·exact M0 s w a c g b
   ·exact IE s w a (.inr ⟨by omega,λ_=>b⟩)
end Go.Proofs.YteofommckgeemaaGreatDoor
