/- Steps. -/
import Derived.Test.YteofommckgeemaaGreatDoorEAE
namespace Go.Proofs.YteofommckgeemaaGreatDoor
open Go.RowKit Go.Proofs.Tryz
set_option linter.unusedVariables false
set_option linter.unusedSimpArgs false
set_option maxRecDepth 100000
set_option maxHeartbeats 8000000
theorem Kk(b:Bool)(E:Int)(a:AG)(w:AA)(P:Dr w)(v:AJ a)(y:a.length<=16)(Q:0<=E+398)(e1:E+398<768):
 Calls prog 237 #[.iface 208 (.agg #[]),AH 1 b E (tx a)] w λx g=>∃h d,x=.returned (jV b (fv ((E+398)/256) ((BD 16 a).getD 0 0)) ((E+398)%256) (.slice (some ⟨h,0,none⟩) 5 d))/\h<g.heap.size/\(∀i,i<5->g.cell? ⟨h,i,none⟩=some (.int .i64 ((Iq ((BD 16 a).drop 1) 5).getD i 0)))/\AD w.heap.size w g:=by
 have z:=Lp 16 a y;have A:=EO 16 a v.1;obtain⟨R,n⟩:=QO (BD 16 a) 5 A z (by decide);have B:=Ah (BD 16 a) A 0;have U:=zq λX=>FC a 16 X v.1 y (by decide) (by decide);have W:Hid (∀X c k,AD w.heap.size w X->(∀i,i<16->X.cell? ⟨c,i,none⟩=some (.int .i64 ((BD 16 a).getD i 0)))->c<X.heap.size->15<=k->k<=9223372036854775807->Calls prog 281 #[.slice (some ⟨c,1,none⟩) 15 k] X λe g=>∃u,e=.returned (.tuple #[u,.bool true])/\Bs g X.heap.size u (Iq ((BD 16 a).drop 1) 5)/\AD X.heap.size X g):=λX c k G ao hg h1 h2=>by
  have hL:Mg X c 1 ((BD 16 a).drop 1):=λi hi=>by
   rw[GP];exact ao (1+i) (by rw[n] at hi;omega)
  have:=Iv c 1 k ((BD 16 a).drop 1) X (P.below G (AS _)) hL hg (by rw[n];omega) h2 R;rw[n] at this;exact this
 have Y:(Iq ((BD 16 a).drop 1) 5).length=5:=Dw _ _;have Z:=zw (E+398) (by omega);obtain⟨V,o⟩:=zxe (E+398);rw[o] at Q e1 ⊢;have av:IntKind.i64.wrap (E+398)=V:=by rw[Z,o]
 clear Z;have hE:IntKind.u16.wrap V=V:=by rw[IntKind.wrap_u16];omega
 have hH:0<=V/256/\V/256<=2:=by omega
 have aO:IntKind.u8.wrap (V/256)=V/256:=by rw[IntKind.wrap_u8];omega
 have hM:bits .and .u16 V 255=V%256:=by
  have:=Bm.mask_u16 V 8 Q (by omega) (by decide);rw[show(2:Int)^8-1=255 by decide,show(2:Int)^8=256 by decide] at this;exact this
 have aQ:IntKind.u16.wrap 256=256:=by decide
 have aR:IntKind.u16.wrap 255=255:=by decide
 have ab:Hid (AD (w.heap.size+2) (Je w 1 b E (tx a)) (Je w 1 b E (tx a))):=BI _ _;obtain⟨c0,c1,c2,c3,-,-,-,-,-⟩:=Ai ab;have aS:=zq o;clear o R n v y P A;generalize BD 16 a=S at*
 generalize Iq (S.drop 1) 5=D at*
 generalize tx a=T at*
 obtain⟨F,H⟩:=zxe (S.getD 0 0);rw[H] at B ⊢;have ac:=zq H;clear H;have aT:IntKind.u8.wrap F=F:=by rw[IntKind.wrap_u8];omega
 go_enter func237,ntmps237;go_upto_region 1 with fail;go_cut [5] (λq l=>∃c d,q=.slice (some ⟨c,0,none⟩) 16 d/\Hid (AD (w.heap.size+2) (Je w 1 b E T) l/\c<l.heap.size/\16<=d/\d<=9223372036854775807/\∀i,i<16->l.cell? ⟨c,i,none⟩=some (.int .i64 (S.getD i 0))));case first=>
  go_region_with (first
   |(go_at_call 365;refine cm (DP _) λw4 aA=>?_;have ad:=LH aA;obtain⟨I,J,p,K,-,-,-,-,-⟩:=Ai ad)
   |(go_at_call 280;refine(U _).mono ?_;rintro r w5 ⟨v5,rfl,aB,aC⟩;have aD:=DX ad aC))
  all_goals
   obtain⟨c,d,rfl,-,s,ae,aE,j⟩:=G3 aB;rw[z] at ae j ⊢;go_wp2;go_meet;case rel=>exact⟨c,d,rfl,aD,s,ae,aE,j⟩
 case rest=>
  obtain⟨c,d,rfl,f⟩:=hcut;clear c0 c1 c2 c3 ab U;have k1:16<=d:=f.2.2.1;obtain⟨k2,k3⟩:¬(d:Int)<16/\¬d=1:=by omega
  have k4:¬(d:Int)=1:=by omega
  have k5:d<=9223372036854775807:=f.2.2.2.1;have af:=zq (W wc c (d-1) (K7 f.1) f.2.2.2.2 f.2.1 (by omega) (by omega));go_wp2_with fail;refine af.mono ?_;rintro r t ⟨u,rfl,hu,L⟩;obtain⟨h,ah,rfl,aK,s,-,-,j⟩:=G3 hu;rw[Y] at j ⊢;have M:Hid (FW w b E T 5 F D t c h):=⟨DX f.1 L,by rw[<-ac];exact Bc L (f.2.2.2.2 0 (by decide)),by have:=E6 f.1;omega,s,j⟩;clear f af W k1 k2 k3 k4 k5 hu L aK s j Y z ac;obtain⟨I,J,p,K,-,-,-,-,-⟩:=Ai M.1;have ai:=dR t;go_upto_region 3 with fail;refine AP (C:=AD t.heap.size t) ai ?_;repeat (go_big_quiet_step ((intro hC;rename_i l;first|exact rfl|(simp only[TV];go_simp;first|exact Calls.class_of (fT l) (λg G=>BQ hC G))|(have q2:=Bc hC p;go_simp;exact rfl))))
  refine wpQuiet_nil ?_;intro w8 ak;have al:=zq (M.next ak);clear ak M ai I J p K av;go_wp2_with fail;refine cm (D8 _) λw9 am=>?_;have N:=zq (al.next am);clear am al;obtain⟨I,J,p,K,-,-,-,-,-⟩:=Ai N.1;have dq:=N.2.1;go_upto_region 5 with fail;go_region_with (first
   |(go_at_call 368;refine cm (D8 _) λa1 aL=>?_;have O:=zq (N.drew.next aL);obtain⟨-,f1,-,-,f4,f5,f6,f7,f8⟩:=Ai O.1;have fq:=O.2.1;have m:Hid (_/\_):=O.fin (.bool b) (.int .u8 (fv (V/256) F)) (.int .u16 (V%256)) (.slice (some ⟨h,0,none⟩) 5 ah))
   |(go_at_call 282;refine(Lh (V/256) F _ hH.1 hH.2 B.1 B.2).mono ?_;rintro r _ ⟨rfl,rfl⟩))
  all_goals
   go_wp2;refine Do (CO rfl _ _ rfl m.1.1 m.1.2.1 m.1.2.2.1 m.1.2.2.2.1) rfl ?_;exact⟨h,ah,rfl,m.2⟩
end Go.Proofs.YteofommckgeemaaGreatDoor
