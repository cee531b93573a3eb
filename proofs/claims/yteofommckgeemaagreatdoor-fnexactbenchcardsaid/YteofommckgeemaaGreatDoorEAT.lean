/- Steps. -/
import Derived.Test.YteofommckgeemaaGreatDoorEAH
import Derived.Test.YteofommckgeemaaGreatDoorEAN
import Derived.Test.YteofommckgeemaaGreatDoorEAP
import Derived.Test.YteofommckgeemaaGreatDoorEAQ
import Derived.Test.YteofommckgeemaaGreatDoorEAR
import Derived.Test.YteofommckgeemaaGreatDoorEAS
namespace Go.Proofs.YteofommckgeemaaGreatDoor
open Go.RowKit Go.Proofs.Tryz
set_option linter.unusedVariables false
set_option linter.unusedSimpArgs false
set_option maxRecDepth 100000
set_option maxHeartbeats 8000000
abbrev Tl(w:AA)(k:Int)(b:Bool)(e:Int)(s:AB):AA:=(Ur w k b e s).alloc (.cells #[.int .u64 0,.int .u64 0] 100)
theorem CB{w W:AA}{k:Int}{b:Bool}{e:Int}{s:AB}(h:AD (w.heap.size+2) (Tl w k b e s) W):W.cell? ⟨w.heap.size,0,none⟩=some (.int .i64 k)/\W.cell? ⟨w.heap.size,1,none⟩=some (.bool b)/\W.cell? ⟨w.heap.size,2,none⟩=some (.int .i64 e)/\W.cell? ⟨w.heap.size,3,none⟩=some (.string s)/\
 W.cell? ⟨w.heap.size+1,0,none⟩=some (.int .u64 0)/\W.cell? ⟨w.heap.size+1,1,none⟩=some (.int .u64 0)/\∀i,W.frozen? ⟨w.heap.size+1,i,none⟩=false:=by
 refine⟨?_,?_,?_,?_,?_,?_,λi=>?_⟩
 ·rw[h.cell (p:=⟨w.heap.size,0,none⟩) (by simp)];simp
 ·rw[h.cell (p:=⟨w.heap.size,1,none⟩) (by simp)];simp
 ·rw[h.cell (p:=⟨w.heap.size,2,none⟩) (by simp)];simp
 ·rw[h.cell (p:=⟨w.heap.size,3,none⟩) (by simp)];simp
 ·rw[h.cell (p:=⟨w.heap.size+1,0,none⟩) (by simp)];simp
 ·rw[h.cell (p:=⟨w.heap.size+1,1,none⟩) (by simp)];simp
 ·rw[h.frozen (p:=⟨w.heap.size+1,i,none⟩) (by simp)];simp
theorem LB{w W:AA}{k:Int}{b:Bool}{e:Int}{s:AB}(h:AD (w.heap.size+2) (Tl w k b e s) W):AD w.heap.size w W:=(bA.alloc (by simp) _).trans (h.mono (by omega))
theorem Bw{w W a:AA}{k:Int}{b:Bool}{e:Int}{s:AB}(h:AD (w.heap.size+2) (Tl w k b e s) W)(c:AD W.heap.size W a):AD (w.heap.size+2) (Tl w k b e s) a:=h.trans (c.mono (by have:=h.size;simpa using this))
theorem JF{w W:AA}{k:Int}{b:Bool}{e:Int}{s:AB}(h:AD (w.heap.size+2) (Tl w k b e s) W)(x y:AK):(((W.setCell ⟨w.heap.size+1,0,none⟩ x).setCell ⟨w.heap.size+1,1,none⟩ y).cell? ⟨w.heap.size+1,0,none⟩=some x/\((W.setCell ⟨w.heap.size+1,0,none⟩ x).setCell ⟨w.heap.size+1,1,none⟩ y).cell? ⟨w.heap.size+1,1,none⟩=some y)/\AD w.heap.size w ((W.setCell ⟨w.heap.size+1,0,none⟩ x).setCell ⟨w.heap.size+1,1,none⟩ y):=by
 obtain⟨-,-,-,-,a,c,-⟩:=CB h;exact⟨je a c x y,((LB h).setCell (by simp) _).setCell (by simp) _⟩
theorem FF(g k:Nat):(List.replicate g (0:Int)).getD k 0=0:=by
 simp only[List.getD,List.getElem?_replicate];split<;>rfl
theorem ka(T:TypeId)(q:Nat)(k:Int)(b:Bool)(E:Int)(s:AB)(w:AA)(Z l m:Int)(D:AG)
 (n:cA 211 #[.iface T (.agg #[]),AH k b E s] (.bool true))
 (f:∀X,AD w.heap.size w X->Calls prog (if k=1 then 237 else 238) #[.iface T (.agg #[]),AH k b E s] X λx c=>∃a d,x=.returned (jV b l m (.slice (some ⟨a,0,none⟩) q d))/\a<c.heap.size/\(∀i,i<q->c.cell? ⟨a,i,none⟩=some (.int .i64 (D.getD i 0)))/\AD X.heap.size X c)
 (o:∀X a d,a<X.heap.size->(∀i,i<q->X.cell? ⟨a,i,none⟩=some (.int .i64 (D.getD i 0)))->Calls prog 236 #[.iface T (.agg #[]),jV b l m (.slice (some ⟨a,0,none⟩) q d)] X λe c=>∃H L,e=.returned (J8 H L)/\Hid (Jb Z H L)/\AD X.heap.size X c):
 Calls prog 182 #[.iface T (.agg #[]),AH k b E s] w λx c=>∃H L,x=.returned (.tuple #[J8 H L,.bool true])/\Hid (Jb Z H L)/\AD w.heap.size w c:=by
 have p:Hid (AD (w.heap.size+2) (Tl w k b E s) (Tl w k b E s)):=BI _ _;have G:=zq n;have t:=zq o;by_cases g:k=1;rw[zyp g] at f;subst g
 rotate_left
 rw[zyn g] at f;have Q:(k==1)=false:=beq_eq_false_iff_ne.2 g;all_goals
  have u:=zq f;clear f n o;go_enter func182,ntmps182;go_wp2_with fail;refine cm (G _) λR v=>?_;have h:=zq (Bw p v);obtain⟨I,J,K,M,-,-,-⟩:=CB h;clear v p;go_wp2_with fail;refine(u _ (LB h)).mono ?_;rintro r N ⟨a,d,rfl,O,y,z⟩;have A:=zq (Bw h z);have B:=zq (t N a d O y);clear z h I J K M y u t;go_wp2_with fail;refine B.mono ?_;rintro r S ⟨H,L,rfl,P,C⟩;have F:=zq (Bw A C);obtain⟨-,-,-,-,U,V,W⟩:=CB F;have j:=zq (JF F (.int .u64 H) (.int .u64 L));clear C A B;go_wp2;refine Do (CW rfl _ _ rfl j.1.1 j.1.2) rfl ?_;exact⟨H,L,rfl,P,j.2⟩
theorem M5(b:Bool)(E:Int)(a:AG)(w:AA)(o:Dr w)(d:AJ a)(k:a.length<=16)(l:0<=E+398)(m:E+398<768):
 Calls prog 182 #[.iface 208 (.agg #[]),AH 1 b E (tx a)] w λx f=>∃H L,x=.returned (.tuple #[J8 H L,.bool true])/\Hid (Jb (Dd 8 5 398 1 b E a) H L)/\AD w.heap.size w f:=by
 have p:P9 8 5 398 1 b E a:=.inl ⟨rfl,d,k,l,m⟩;have q:(tx a).size<=4611686018427387904:=by rw[AE];omega
 have r:Hid (cA 211 #[.iface 208 (.agg #[]),AH 1 b E (tx a)] (.bool true)):=λX=>by rw[<-DK 64 1 b E a 8 5 398 (.inl ⟨rfl,rfl,rfl,rfl⟩) p];exact E7 (.inl ⟨rfl,rfl,rfl,rfl,rfl⟩) 1 b E (tx a) X q
 have s:=zq λX g=>Kk b E a X (o.below g (AS _)) d k l m;have h:=EO 16 a d.1;have n:=Ah (BD 16 a) h 0;have t:=jW ((E+398)/256) ((BD 16 a).getD 0 0) (by omega) (by omega) n.1 n.2;have u:Hid (∀X c j,c<X.heap.size->(∀i,i<5->X.cell? ⟨c,i,none⟩=some (.int .i64 ((Iq ((BD 16 a).drop 1) 5).getD i 0)))->Calls prog 236 #[.iface 208 (.agg #[]),jV b (fv ((E+398)/256) ((BD 16 a).getD 0 0)) ((E+398)%256) (.slice (some ⟨c,0,none⟩) 5 j)] X λe f=>∃H L,e=.returned (J8 H L)/\Hid (Jb (Dd 8 5 398 1 b E a) H L)/\AD X.heap.size X f):=λX c j v y=>by
  have:=Dz (.inl ⟨rfl,rfl,rfl⟩) b (fv ((E+398)/256) ((BD 16 a).getD 0 0)) ((E+398)%256) c j (Iq ((BD 16 a).drop 1) 5) X (Dw _ _) (Xx _ h 5) v y t.1 (by omega) (by omega) (by omega);have e:=Yl b (E+398) (BD 16 a) h 8 5;rw[show(2:Int)^8=256 by decide] at e;rw[show(2:Int)^8=256 by decide,e] at this;have z:Dd 8 5 398 1 b E a=Vz b (E+398) (BD 16 a) 8 5:=by unfold Dd;rw[zyp rfl]
  rw[z];exact this
 refine ka _ _ _ _ _ _ _ _ _ _ _ r (λX g=>?_) u;rw[zyp rfl];exact s X g
theorem IH(k:Int)(b:Bool)(E:Int)(a:AG)(w:AA)(n:P9 8 5 398 k b E a)(h:k=2\/k=3\/k=4)(v:a.length<=1000):
 Calls prog 182 #[.iface 208 (.agg #[]),AH k b E (tx a)] w λx d=>∃H L,x=.returned (.tuple #[J8 H L,.bool true])/\Hid (Jb (Dd 8 5 398 k b E a) H L)/\AD w.heap.size w d:=by
 have o:(tx a).size<=4611686018427387904:=by rw[AE];omega
 have p:Hid (cA 211 #[.iface 208 (.agg #[]),AH k b E (tx a)] (.bool true)):=λX=>by rw[<-DK 64 k b E a 8 5 398 (.inl ⟨rfl,rfl,rfl,rfl⟩) n];exact E7 (.inl ⟨rfl,rfl,rfl,rfl,rfl⟩) k b E (tx a) X o
 have j:0<=(if k=2 then(30:Int) else 31)/\(if k=2 then(30:Int) else 31)<32:=by split<;>omega
 have l:0<=(if k=4 then(128:Int) else 0)/\(if k=4 then(128:Int) else 0)<256:=by split<;>omega
 have q:Hid (∀X c f,c<X.heap.size->(∀i,i<5->X.cell? ⟨c,i,none⟩=some (.int .i64 ((List.replicate 5 (0:Int)).getD i 0)))->Calls prog 236 #[.iface 208 (.agg #[]),jV b (if k=2 then 30 else 31) (if k=4 then 128 else 0) (.slice (some ⟨c,0,none⟩) 5 f)] X λe d=>∃H L,e=.returned (J8 H L)/\Hid (Jb (Dd 8 5 398 k b E a) H L)/\AD X.heap.size X d):=λX c f g r=>by
  have:=Dz (.inl ⟨rfl,rfl,rfl⟩) b (if k=2 then 30 else 31) (if k=4 then 128 else 0) c f (List.replicate 5 0) X (by simp) (λi=>by rw[FF];decide) g r j.1 j.2 l.1 (by rw[show(2:Int)^8=256 by decide];exact l.2);have e:=Ym k b 8 5 (by decide) h (List.replicate 5 0) (FF 5);rw[show(2:Int)^(8-1)=128 by decide] at e;rw[e] at this;have s:Dd 8 5 398 k b E a=T3 k b 8 5:=by unfold Dd;rw[zyn (by omega)]
  rw[s];exact this
 refine ka _ _ _ _ _ _ _ _ _ _ _ p (λX m=>?_) q;rw[zyn (by omega)];refine(J4 k b E (tx a) X h).mono ?_;rintro x d ⟨c,rfl,g,t,m⟩;exact⟨c,_,rfl,g,λi u=>by rw[FF];exact t i u,m⟩
theorem M6(k:Int)(b:Bool)(E:Int)(a:AG)(w:AA)(f:Dr w)(g:P9 8 5 398 k b E a):
 Calls prog 182 #[.iface 208 (.agg #[]),AH k b E (tx a)] w λx h=>∃H L,x=.returned (.tuple #[J8 H L,.bool true])/\Hid (Jb (Dd 8 5 398 k b E a) H L)/\AD w.heap.size w h:=by
 rcases g with⟨rfl,i,j,l,m⟩|⟨rfl,d,c⟩|⟨e,d,c,n⟩
 ·exact M5 b E a w f i j l m
 ·exact IH 2 b E a w (.inr (.inl ⟨rfl,d,c⟩)) (.inl rfl) (by rw[c];simp)
 ·exact IH k b E a w (.inr (.inr ⟨e,d,c,n⟩)) (.inr e) (by rw[c];simp)
theorem Lx(b:Bool)(E:Int)(a:AG)(w:AA)(o:Dr w)(d:AJ a)(k:a.length<=34)(l:0<=E+6176)(m:E+6176<12288):
 Calls prog 182 #[.iface 211 (.agg #[]),AH 1 b E (tx a)] w λx f=>∃H L,x=.returned (.tuple #[J8 H L,.bool true])/\Hid (Jb (Dd 12 11 6176 1 b E a) H L)/\AD w.heap.size w f:=by
 have p:P9 12 11 6176 1 b E a:=.inl ⟨rfl,d,k,l,m⟩;have q:(tx a).size<=4611686018427387904:=by rw[AE];omega
 have r:Hid (cA 211 #[.iface 211 (.agg #[]),AH 1 b E (tx a)] (.bool true)):=λX=>by rw[<-DK 128 1 b E a 12 11 6176 (.inr ⟨rfl,rfl,rfl,rfl⟩) p];exact E7 (.inr ⟨rfl,rfl,rfl,rfl,rfl⟩) 1 b E (tx a) X q
 have s:=zq λX g=>Jo b E a X (o.below g (AS _)) d k l m;have h:=EO 34 a d.1;have n:=Ah (BD 34 a) h 0;have t:=jW ((E+6176)/4096) ((BD 34 a).getD 0 0) (by omega) (by omega) n.1 n.2;have u:Hid (∀X c j,c<X.heap.size->(∀i,i<11->X.cell? ⟨c,i,none⟩=some (.int .i64 ((Iq ((BD 34 a).drop 1) 11).getD i 0)))->Calls prog 236 #[.iface 211 (.agg #[]),jV b (fv ((E+6176)/4096) ((BD 34 a).getD 0 0)) ((E+6176)%4096) (.slice (some ⟨c,0,none⟩) 11 j)] X λe f=>∃H L,e=.returned (J8 H L)/\Hid (Jb (Dd 12 11 6176 1 b E a) H L)/\AD X.heap.size X f):=λX c j v y=>by
  have:=Dz (.inr ⟨rfl,rfl,rfl⟩) b (fv ((E+6176)/4096) ((BD 34 a).getD 0 0)) ((E+6176)%4096) c j (Iq ((BD 34 a).drop 1) 11) X (Dw _ _) (Xx _ h 11) v y t.1 (by omega) (by omega) (by omega);have e:=Yl b (E+6176) (BD 34 a) h 12 11;rw[show(2:Int)^12=4096 by decide] at e;rw[show(2:Int)^12=4096 by decide,e] at this;have z:Dd 12 11 6176 1 b E a=Vz b (E+6176) (BD 34 a) 12 11:=by unfold Dd;rw[zyp rfl]
  rw[z];exact this
 refine ka _ _ _ _ _ _ _ _ _ _ _ r (λX g=>?_) u;rw[zyp rfl];exact s X g
theorem Gi(k:Int)(b:Bool)(E:Int)(a:AG)(w:AA)(n:P9 12 11 6176 k b E a)(h:k=2\/k=3\/k=4)(v:a.length<=1000):
 Calls prog 182 #[.iface 211 (.agg #[]),AH k b E (tx a)] w λx d=>∃H L,x=.returned (.tuple #[J8 H L,.bool true])/\Hid (Jb (Dd 12 11 6176 k b E a) H L)/\AD w.heap.size w d:=by
 have o:(tx a).size<=4611686018427387904:=by rw[AE];omega
 have p:Hid (cA 211 #[.iface 211 (.agg #[]),AH k b E (tx a)] (.bool true)):=λX=>by rw[<-DK 128 k b E a 12 11 6176 (.inr ⟨rfl,rfl,rfl,rfl⟩) n];exact E7 (.inr ⟨rfl,rfl,rfl,rfl,rfl⟩) k b E (tx a) X o
 have j:0<=(if k=2 then(30:Int) else 31)/\(if k=2 then(30:Int) else 31)<32:=by split<;>omega
 have l:0<=(if k=4 then(2048:Int) else 0)/\(if k=4 then(2048:Int) else 0)<4096:=by split<;>omega
 have q:Hid (∀X c f,c<X.heap.size->(∀i,i<11->X.cell? ⟨c,i,none⟩=some (.int .i64 ((List.replicate 11 (0:Int)).getD i 0)))->Calls prog 236 #[.iface 211 (.agg #[]),jV b (if k=2 then 30 else 31) (if k=4 then 2048 else 0) (.slice (some ⟨c,0,none⟩) 11 f)] X λe d=>∃H L,e=.returned (J8 H L)/\Hid (Jb (Dd 12 11 6176 k b E a) H L)/\AD X.heap.size X d):=λX c f g r=>by
  have:=Dz (.inr ⟨rfl,rfl,rfl⟩) b (if k=2 then 30 else 31) (if k=4 then 2048 else 0) c f (List.replicate 11 0) X (by simp) (λi=>by rw[FF];decide) g r j.1 j.2 l.1 (by rw[show(2:Int)^12=4096 by decide];exact l.2);have e:=Ym k b 12 11 (by decide) h (List.replicate 11 0) (FF 11);rw[show(2:Int)^(12-1)=2048 by decide] at e;rw[e] at this;have s:Dd 12 11 6176 k b E a=T3 k b 12 11:=by unfold Dd;rw[zyn (by omega)]
  rw[s];exact this
 refine ka _ _ _ _ _ _ _ _ _ _ _ p (λX m=>?_) q;rw[zyn (by omega)];refine(JU k b E (tx a) X h).mono ?_;rintro x d ⟨c,rfl,g,t,m⟩;exact⟨c,_,rfl,g,λi u=>by rw[FF];exact t i u,m⟩
theorem Ly(k:Int)(b:Bool)(E:Int)(a:AG)(w:AA)(f:Dr w)(g:P9 12 11 6176 k b E a):
 Calls prog 182 #[.iface 211 (.agg #[]),AH k b E (tx a)] w λx h=>∃H L,x=.returned (.tuple #[J8 H L,.bool true])/\Hid (Jb (Dd 12 11 6176 k b E a) H L)/\AD w.heap.size w h:=by
 rcases g with⟨rfl,i,j,l,m⟩|⟨rfl,d,c⟩|⟨e,d,c,n⟩
 ·exact Lx b E a w f i j l m
 ·exact Gi 2 b E a w (.inr (.inl ⟨rfl,d,c⟩)) (.inl rfl) (by rw[c];simp)
 ·exact Gi k b E a w (.inr (.inr ⟨e,d,c,n⟩)) (.inr e) (by rw[c];simp)
theorem Qo(k:Int)(b:Bool)(e:Int)(a:AG)(w:AA)(g:Dr w)(c:P9 8 5 398 k b e a):
 cB 105 #[AH k b e (tx a)] w (.tuple #[.int .u64 (Dd 8 5 398 k b e a),.bool true]):=by
 have h:=zq λX l=>M6 k b e a X (g.below l (AS _)) c;have n:0<=Dd 8 5 398 k b e a/\Dd 8 5 398 k b e a<18446744073709551616:=by
  have:=Lz 8 5 398 k b e a (by decide) c;rw[show(2:Int)^(6+8+10*5)=18446744073709551616 by decide] at this;exact this
 have d:Hid (AD (w.heap.size+1) (Ur w k b e (tx a)) (Ur w k b e (tx a))):=BI _ _;clear g c;generalize Dd 8 5 398 k b e a=Z at*
 generalize tx a=T at*
 go_enter func105,ntmps105;go_wp2_with fail;refine(h _ (He d)).mono ?_;rintro r p ⟨H,L,rfl,i,j⟩;obtain rfl:L=Z:=by have:=i.2.1;omega
 have f:=zq (Ga d j);have m:=zq λo=>(He f).alloc (He f).size o;clear j d f i h;go_wp2;go_ret2;exact⟨rfl,m _⟩
theorem Oh(k:Int)(b:Bool)(e:Int)(a:AG)(w:AA)(h:Dr w)(i:P9 12 11 6176 k b e a):
 cB 107 #[AH k b e (tx a)] w (.tuple #[J8 (Dd 12 11 6176 k b e a/18446744073709551616) (Dd 12 11 6176 k b e a%18446744073709551616),.bool true]):=by
 have j:=zq λX n=>Ly k b e a X (h.below n (AS _)) i;have c:Hid (AD (w.heap.size+2) (Tl w k b e (tx a)) (Tl w k b e (tx a))):=BI _ _;clear h i;generalize Dd 12 11 6176 k b e a=Z at*
 generalize tx a=T at*
 go_enter func107,ntmps107;go_wp2_with fail;refine(j _ (LB c)).mono ?_;rintro r o ⟨H,L,rfl,d,l⟩;have m:=Ab d.1 d.2.1;have f:=zq (Bw c l);obtain⟨-,-,-,-,p,q,s⟩:=CB f;have g:=zq (JF f (.int .u64 H) (.int .u64 L));clear l c f d j;go_wp2;refine Do (CW rfl _ _ rfl g.1.1 g.1.2) rfl ?_;refine⟨?_,g.2⟩;rw[<-m.out.1,<-m.out.2];rfl
def OP(a:Bool)(x:Int)(b:Bool)(y:Int):Bool:=if a=b then a else if x<y then b else a
def Mn(a:Bool)(x:Int)(b:Bool)(y:Int):Int:=if a=b then x+y else if x<y then y-x else x-y
theorem Gt(n:Int):(tn n).size<=4611686018427387904:=by have:=VL n;omega
theorem QQ(a b:Bool)(e x y:Int)(w:AA)(j:Bp x)(k:Bp y)(B:Bp (x+y)):
 cB 213 #[AH 1 a e (tn x),AH 1 b e (tn y)] w (AH 1 (OP a x b y) e (tn (Mn a x b y))):=by
 have n:=zq (GZ w 1 a e (tn x) 1 b e (tn y));by_cases d:a=b
 ·have E:Hid (OP a x b y=a/\Mn a x b y=x+y):=⟨zyp d,zyp d⟩;rw[E.out.1,E.out.2];have g:Hid (cA 255 #[.string (tn x),.string (tn y)] (.string (tn (x+y)))):=λX=>by
   have:=KG (tn x) (tn y) X (Gt x) (Gt y);rwa[j2 j k,OU B] at this
  generalize tn (x+y)=T at*
  generalize tn x=o at*
  generalize tn y=f at*
  subst d;clear E j k B;go_enter func213,ntmps213;go_wp2_with fail;refine cm (g _) λp h=>?_;have c:=zq (n.next h);obtain⟨q,r,s,t,u⟩:=c.1.cells;have l:Hid (N3 w 1 a e T 1 a e f (p.setCell ⟨w.heap.size,3,none⟩ (.string T))):=c.out.x3 _;clear h n g;go_wp2_with (refine sN l.2.2.1 1 a e T ?_);refine rN ((l.2.2.1.row (.int .i64 1) (.bool a) (.int .i64 e) (.string T)).cells) ?_;exact⟨rfl,AC l.2.2.2 (by omega) _⟩
 ·have W:(a==b)=false:=beq_eq_false_iff_ne.2 d;have v:Hid (cA 256 #[.string (tn x),.string (tn y)] (.int .i64 (Ay x y))):=λX=>by
   have:=Qk (tn x) (tn y) X (Gt x) (Gt y);rwa[j8 j k] at this
  by_cases i:x<y
  ·have E:Hid (OP a x b y=b/\Mn a x b y=y-x):=⟨by unfold OP;rw[zyn d,zyp i],by unfold Mn;rw[zyn d,zyp i]⟩;rw[E.out.1,E.out.2];have D:Ay x y=-1:=by unfold Ay;rw[zyp i]
   rw[D] at v;have g:Hid (cA 257 #[.string (tn y),.string (tn x)] (.string (tn (y-x)))):=λX=>by
    have:=KH (tn y) (tn x) X (Gt y) (Gt x);rwa[eG k j (by omega)] at this
   generalize tn (y-x)=T at*
   generalize tn x=o at*
   generalize tn y=f at*
   clear E j k B i D d;go_enter func213,ntmps213;go_wp2_with fail;refine cm (v _) λp h=>?_;have c:=zq (n.next h);obtain⟨q,r,s,t,u⟩:=c.1.cells;obtain⟨F,G,H,I,J⟩:=c.2.1.cells;have l:Hid (N3 w 1 b e f 1 b e f (p.setRow w.heap.size #[.int .i64 1,.bool b,.int .i64 e,.string f])):=c.out.rowx _ _ _ _;have C:Hid (N3 w 1 b e f 1 a e o ((p.setRow w.heap.size #[.int .i64 1,.bool b,.int .i64 e,.string f]).setRow (w.heap.size+1) #[.int .i64 1,.bool a,.int .i64 e,.string o])):=l.out.rowy _ _ _ _;obtain⟨L,M,N,O,P⟩:=C.1.cells;obtain⟨Q,R,S,U,V⟩:=C.2.1.cells;clear h n v;go_wp2_with (first|(refine sN c.1 1 b e f ?_)|(refine sN l.2.1 1 a e o ?_));refine cm (g _) λK z=>?_;have A:=zq (C.next z);obtain⟨q,r,s,t,u⟩:=A.1.cells;have m:Hid (N3 w 1 b e T 1 a e o (K.setCell ⟨w.heap.size,3,none⟩ (.string T))):=A.out.x3 _;clear z c l C g L M N O P Q R S U V F G H I J;go_wp2_with (refine sN m.2.2.1 1 b e T ?_);refine rN ((m.2.2.1.row (.int .i64 1) (.bool b) (.int .i64 e) (.string T)).cells) ?_;exact⟨rfl,AC m.2.2.2 (by omega) _⟩
  ·have E:Hid (OP a x b y=a/\Mn a x b y=x-y):=⟨by unfold OP;rw[zyn d,zyn i],by unfold Mn;rw[zyn d,zyn i]⟩;rw[E.out.1,E.out.2];have D:¬Ay x y<0:=by unfold Ay;rw[zyn i];split<;>decide
   generalize Ay x y=Y at*
   have g:Hid (cA 257 #[.string (tn x),.string (tn y)] (.string (tn (x-y)))):=λX=>by
    have:=KH (tn x) (tn y) X (Gt x) (Gt y);rwa[eG j k (by omega)] at this
   generalize tn (x-y)=T at*
   generalize tn x=o at*
   generalize tn y=f at*
   clear E j k B i d;go_enter func213,ntmps213;go_wp2_with fail;refine cm (v _) λp h=>?_;have c:=zq (n.next h);obtain⟨q,r,s,t,u⟩:=c.1.cells;obtain⟨F,G,H,I,J⟩:=c.2.1.cells;clear h n v;go_wp2_with fail;refine cm (g _) λK z=>?_;have A:=zq (c.next z);clear q r s t u;obtain⟨q,r,s,t,u⟩:=A.1.cells;have m:Hid (N3 w 1 a e T 1 b e f (K.setCell ⟨w.heap.size,3,none⟩ (.string T))):=A.out.x3 _;clear z c g F G H I J;go_wp2_with (refine sN m.2.2.1 1 a e T ?_);refine rN ((m.2.2.1.row (.int .i64 1) (.bool a) (.int .i64 e) (.string T)).cells) ?_;exact⟨rfl,AC m.2.2.2 (by omega) _⟩
def ir(p a:Int)(y:Int)(b:Int):Bool:=Mo p a (tn y).size b
def MM(p a:Int)(y b:Int):Int:=if ir p a y b then a-p-1 else b
def Mc(p a:Int)(y b:Int):Int:=if ir p a y b then 1 else y
def Ph(p a x y b:Int):Int:=x*10^(a-MM p a y b).toNat
theorem MV(f:Int)(g:Bool)(a x:Int)(c:Bool)(b y:Int)(w:AA)(L:0<=AF f/\AF f<=34)(t:Bp x)(u:Bp y)(M:x≠0)(N:y≠0)(O:-20000<=a/\a<=20000)(P:-20000<=b/\b<=20000)(ax:¬a<b)
 (D:0<=a-MM (AF f) a y b/\a-MM (AF f) a y b<=200) (E:Bp (Ph (AF f) a x y b)) (Q:Bp (Ph (AF f) a x y b+Mc (AF f) a y b)):
 cB 154 #[.int .i64 f,AH 1 g a (tn x),AH 1 c b (tn y)] w (AH 1 (OP g (Ph (AF f) a x y b) c (Mc (AF f) a y b)) (MM (AF f) a y b) (tn (Mn g (Ph (AF f) a x y b) c (Mc (AF f) a y b)))):=by
 have R:=zq (GZ w 1 g a (tn x) 1 c b (tn y));have S:Hid (cA 93 #[AH 1 g a (tn x)] (.bool false)):=λX=>by
  have:=BR g a x X t;rwa[By M] at this
 have T:Hid (cA 93 #[AH 1 c b (tn y)] (.bool false)):=λX=>by
  have:=BR c b y X u;rwa[By N] at this
 have U:Hid (cA 212 #[.int .i64 f,AH 1 g a (tn x),AH 1 c b (tn y)] (AH 1 c (MM (AF f) a y b) (tn (Mc (AF f) a y b)))):=λX=>by
  have:=Ku f 1 g a (tn x) c b (tn y) X O P (by rw[show(tn y).size=(nt y).length from AE _];have:=Cm u;omega) L;have e:(if Mo (AF f) a (tn y).size b then({data:=#[49]}:AB) else tn y)=tn (Mc (AF f) a y b):=by
   unfold Mc ir;split
   ·have:nt 1=[1]:=(BW [1] 1 (BL 1 (by decide) (by decide)) rfl (by decide)).symm;unfold tn;rw[this];exact SC.symm
   ·rfl
  rw[e] at this;exact this
 have V:Bp (Mc (AF f) a y b):=by
  unfold Mc;split
  ·exact⟨by decide,FS (by decide:(1:Int)<10^1) (AI 1 200 (by decide))⟩
  ·exact u
 generalize ao:Mc (AF f) a y b=Y at*
 generalize W:Ph (AF f) a x y b=h at*
 generalize Z:MM (AF f) a y b=d at*
 have aa:Hid (cA 87 #[.string (tn x),.int .i64 (a-d)] (.string (tn h))):=λX=>by
  have:=DQ (tn x) (a-d) X (Gt x);have es:C5 (tn x) (a-d)=tn h:=by
   unfold C5;have e1:x*10^(a-d).toNat=h:=by rw[<-W];unfold Ph;rw[Z]
   rw[Nx t,Bz D.1,Bz D.2,Ef t,e1,OU E];rfl
  rwa[es] at this
 have ab:=zq λX=>QQ g c d h Y X E V Q;have ay:=zw (a-d) (by omega);generalize OP g h c Y=RN at*
 generalize tn (Mn g h c Y)=RT at*
 generalize tn h=TX at*
 generalize tn Y=i at*
 generalize tn x=S1 at*
 generalize tn y=S2 at*
 clear ao W Z t u M N O P D E Q L V;go_enter func154,ntmps154;go_wp2_with fail;refine cm (S _) λw1 af=>?_;have F:=zq (R.next af);obtain⟨j,k,l,m,n⟩:=F.2.1.cells;clear af R S;go_wp2_with fail;refine cm (T _) λw2 ag=>?_;have v:=zq (F.next ag);clear ag F T j k l m n;obtain⟨o,p,q,r,s⟩:=v.1.cells;obtain⟨j,k,l,m,n⟩:=v.2.1.cells;go_wp2_with fail;refine cm (U _) λw3 ai=>?_;have G:=zq (v.next ai);have z:Hid (N3 w 1 g a S1 1 c d i (w3.setRow (w.heap.size+1) #[.int .i64 1,.bool c,.int .i64 d,.string i])):=G.out.rowy _ _ _ _;have aj:=zq G.2.1;clear ai v G U o p q r s j k l m n;go_wp2_with (refine sN aj 1 c d i ?_);generalize w3.setRow (w.heap.size+1) #[.int .i64 1,.bool c,.int .i64 d,.string i]=H at*
 have ak:=dR H;clear aj;refine AM (C:=AD H.heap.size H) 11 ak ?_;simp only[Hy,List.take_zero,Ia,List.drop_zero];repeat (refine wpQuiet_step (λK A=>?_);go_simp;first|(refine A _ ?_;clear A K)|(apply Exists.intro;refine⟨λwx I=>?_,A _ ?_⟩;(first|exact rfl|exact Calls.class_of (aa wx) (λw' hb=>BQ I hb)|(obtain⟨o,p,q,r,s⟩:=(z.next I).1.cells;go_simp;exact rfl)|(obtain⟨o,p,q,r,s⟩:=(z.next I).2.1.cells;go_simp;exact rfl));clear A K))
 refine wpQuiet_nil ?_;intro w5 al;have B:=zq (z.next al);have am:Hid (N3 w 1 g d TX 1 c d i ((w5.setCell ⟨w.heap.size,2,none⟩ (.int .i64 d)).setCell ⟨w.heap.size,3,none⟩ (.string TX))):=(B.out.x2 _).x3 _;obtain⟨o,p,q,r,s⟩:=B.1.cells;obtain⟨j,k,l,m,n⟩:=B.2.1.cells;clear al z aa ak;go_wp2_with fail;refine cm (ab _) λw6 an=>?_;have J:=zq (am.next an);clear an B am ab o p q r s j k l m n;go_wp2_with (refine sN J.2.2.1 1 RN d RT ?_);refine rN ((J.2.2.1.row (.int .i64 1) (.bool RN) (.int .i64 d) (.string RT)).cells) ?_;exact⟨rfl,AC J.2.2.2 (by omega) _⟩
def Hl(K:Nat->Int)(B:Nat->Bool)(E:Nat->Int)(S:Nat->AB):Nat->Int×Bool×Int×AB
 |0=>(0,false,0,{data:=#[]})
 |j+1=>if K j=2 then(K j,B j,E j,S j) else Hl K B E S j
def nc(K:Nat->Int)(B:Nat->Bool)(E:Nat->Int)(S:Nat->AB)(j:Nat):Prop:=K j=2/\(Hl K B E S j).1=2/\(Hl K B E S j).2.1≠B j
def Nw(K:Nat->Int)(B:Nat->Bool)(E:Nat->Int)(S:Nat->AB):Nat->Bool
 |0=>false
 |j+1=>Nw K B E S j||(decide (K j=2)&&(decide ((Hl K B E S j).1=2)&& !((Hl K B E S j).2.1==B j)))
theorem VK(K:Nat->Int)(B:Nat->Bool)(E:Nat->Int)(S:Nat->AB)(n:Nat):Nw K B E S n=true↔∃j,j<n/\nc K B E S j:=by
 induction n with
 |zero=>simp[Nw]
 |succ n ih=>
  unfold Nw;rw[Bool.or_eq_true,ih];constructor
  ·rintro(⟨j,b,a⟩|h)
   ·exact⟨j,by omega,a⟩
   ·simp only[Bool.and_eq_true,decide_eq_true_eq,Bool.not_eq_true',oc] at h;exact⟨n,by omega,h.1,h.2.1,h.2.2⟩
  ·rintro⟨j,b,a⟩;by_cases c:j<n
   ·exact .inl ⟨j,c,a⟩
   ·obtain rfl:j=n:=by omega
    refine .inr ?_;simp only[Bool.and_eq_true,decide_eq_true_eq,Bool.not_eq_true',oc];exact⟨a.1,a.2.1,a.2.2⟩
def Md(n:Nat)(K:Nat->Int)(B:Nat->Bool)(E:Nat->Int)(S:Nat->AB):Ending:=
 if Nw K B E S n then Aa (BA 3 false 0 {data:=#[]} 1) else if (Hl K B E S n).1=2 then Aa (BA (Hl K B E S n).1 (Hl K B E S n).2.1 (Hl K B E S n).2.2.1 (Hl K B E S n).2.2.2 0) else .returned (.tuple #[])
theorem Se(w:AA):(Instr.build 78 #[]).run prog w=.ok (AH 0 false 0 {data:=#[]}) w:=run_build w _ _ _ (by kernel_rfl)
theorem CH(n g:Nat)(K:Nat->Int)(B:Nat->Bool)(E:Nat->Int)(S:Nat->AB)(w:AA)(hn:n<=3)(O:g<w.heap.size)(P:EY w g n K B E S):
 Calls prog 80 #[.slice (some ⟨g,0,none⟩) n n] w λx W=>x=Md n K B E S/\AD w.heap.size w W:=by
 have Q:=Ab P O;clear P O;obtain⟨R,H⟩:=zxe (Md n K B E S);have I:=zq H;rw[H];clear H;have am:=Se;have X:Hid (Z4 (w.alloc VU) w.heap.size/\AD w.heap.size w (w.alloc VU)):=⟨As w _ _ _ _,bA⟩;go_enter func80,ntmps80;go_wp2;go_loopw [8] (λs wr=>∃j:Nat,j<=n/\s=.int .i64 j/\Hid (∀i,i<j->¬nc K B E S i)/\Hid (B6 wr w.heap.size (.int .i64 (Hl K B E S j).1) (.bool (Hl K B E S j).2.1) (.int .i64 (Hl K B E S j).2.2.1) (.string (Hl K B E S j).2.2.2)/\AD w.heap.size w wr)) (λs _=>n-(intOf s).toNat);case atStart=>exact⟨0,B9 _,rfl,λi z=>by omega,X⟩
 case round=>
  obtain⟨j,hj,rfl,b,h⟩:=hrel;by_cases U:j<n
  ·obtain⟨Y,Z,q2,q3⟩:=(Q.1.below h.2 Q.2) j U;have ao:(j:Int)<(n:Int):=by omega
   obtain⟨V,J⟩:=zxe (K j);obtain⟨a,L⟩:∃a,B j=a:=⟨_,rfl⟩;obtain⟨r,M⟩:=zxe (E j);obtain⟨t,N⟩:=zxe (S j);have e:=eh J L M N;obtain⟨⟨k,d,te,ts⟩,p⟩:∃T,Hl K B E S j=T:=⟨_,rfl⟩;have l:=zq p;rw[p] at h;rw[J] at Y;rw[L] at Z;rw[M] at q2;rw[N] at q3;clear J L M N p;have u:=zq h;clear h;have v:Hid (∀o,A4 (wr.alloc o) w.heap.size k d te ts/\AD w.heap.size w (wr.alloc o)):=λo=>⟨u.1.next bA,u.2.alloc u.2.size _⟩;by_cases A:V=2
   ·subst A;obtain⟨c0,c1,c2,c3,c4⟩:=(v (AY 2 a r t)).1.cells;have m:Hid (A4 (wr.alloc (AY 2 a r t)) w.heap.size k d te ts/\AD w.heap.size w (wr.alloc (AY 2 a r t))):=v.out _;have F:Hid (Hl K B E S (j+1)=(2,a,r,t)):=by show _=_;unfold Hl;rw[e.out.1,e.out.2.1,e.out.2.2.1,e.out.2.2.2,zyp rfl]
    by_cases f:k=2
    ·subst f;by_cases y:d=a
     ·have ah:(d==a)=true:=by rw[y];exact beq_self_eq_true _
      have C:Hid (∀i,i<j+1->¬nc K B E S i):=λi z=>by
       by_cases c:i<j
       ·exact b i c
       ·obtain rfl:i=j:=by omega
        rintro⟨-,-,q⟩;rw[l,e.out.2.1] at q;exact q y
      clear y b v;go_wp2_with (refine sN m.1 2 a r t ?_);go_roundw;case rel=>exact⟨j+1,by omega,by go_num,C,by rw[F];exact⟨m.1.row _ _ _ _,AC m.2 (AS _) _⟩⟩
      case measure=>simp[intOf];omega
     ·have ah:(d==a)=false:=beq_eq_false_iff_ne.2 y;have D:Hid (R=Aa (BA 3 false 0 {data:=#[]} 1)):=by
       show _=_
       rw[<-I];exact zyp ((VK K B E S n).2 ⟨j,U,e.1,by rw[l],by rw[l,e.out.2.1];exact y⟩)
      clear y b v;go_wp2_with fail;refine cm (A6 _) λw4 ai=>?_;go_wp2;exact⟨rfl,by rw[D],m.2.trans (ai.mono m.2.size)⟩
    ·have aj:(k==2)=false:=beq_eq_false_iff_ne.2 f;have C:Hid (∀i,i<j+1->¬nc K B E S i):=λi z=>by
      by_cases c:i<j
      ·exact b i c
      ·obtain rfl:i=j:=by omega
       rintro⟨-,q,-⟩;rw[l] at q;exact f q
     clear f b v;go_wp2_with (refine sN m.1 2 a r t ?_);go_roundw;case rel=>exact⟨j+1,by omega,by go_num,C,by rw[F];exact⟨m.1.row _ _ _ _,AC m.2 (AS _) _⟩⟩
     case measure=>simp[intOf];omega
   ·have aq:(V==2)=false:=beq_eq_false_iff_ne.2 A;have F:Hid (Hl K B E S (j+1)=(k,d,te,ts)):=by show _=_;unfold Hl;rw[e.out.1,zyn A];exact l
    have C:Hid (∀i,i<j+1->¬nc K B E S i):=λi z=>by
     by_cases c:i<j
     ·exact b i c
     ·obtain rfl:i=j:=by omega
      rintro⟨q,-,-⟩;rw[e.out.1] at q;exact A q
    clear A b;go_wp2;go_roundw;case rel=>exact⟨j+1,by omega,by go_num,C,by rw[F];exact v _⟩
    case measure=>simp[intOf];omega
  ·obtain rfl:j=n:=by omega
   obtain⟨⟨k,d,te,ts⟩,p⟩:∃T,Hl K B E S j=T:=⟨_,rfl⟩;have l:=zq p;rw[p] at h;clear p;have u:=zq h;obtain⟨c0,c1,c2,c3,c4⟩:=h.1.cells;clear h;have G:¬Nw K B E S j=true:=by rw[VK];rintro⟨i,z,hc⟩;exact b i z hc
   by_cases f:k=2
   ·subst f;have D:Hid (R=Aa (BA 2 d te ts 0)):=by
     show _=_
     rw[<-I];unfold Md;rw[zyn G,l];rfl
    clear G b;have b2:=AT 2 d te ts;have b3:=EI 2 d te ts 0;go_wp2;exact⟨rfl,by rw[D],u.2⟩
   ·have aj:(k==2)=false:=beq_eq_false_iff_ne.2 f;have D:Hid (R=.returned (.tuple #[])):=by
     show _=_
     rw[<-I];unfold Md;rw[zyn G,l];exact zyn f
    clear G b f;go_wp2;first|go_end0|refine Do (results_none rfl _ _ _) rfl ?_
    exact⟨by rw[D],u.2⟩
theorem k7{W:AA}{g:Nat}{T:TypeId}{k:Int}{n:Bool}{e:Int}{s:AB}(h:W.heap[g]?=some (.cells #[.int .i64 k,.bool n,.int .i64 e,.string s] T (0,0))):EY W g 1 (λ_=>k) (λ_=>n) (λ_=>e) (λ_=>s):=λi a=>by
 obtain rfl:i=0:=by omega
 exact⟨(AW h 0).trans rfl,(AW h 1).trans rfl,(AW h 2).trans rfl,(AW h 3).trans rfl⟩
theorem MP{v n:Int}(h:Bp v)(a:Bp (v*10^n.toNat))(b:0<=n)(c:n<=200):C5 (tn v) n=tn (v*10^n.toNat):=by
 unfold C5;rw[Nx h,Bz b,Bz c,Ef h,OU a];rfl
theorem Rm{v n:Int}(a:Int)(neg:Bool)(b:1<=a/\a<=5)(h:Bp v)(c:0<=n)(d:n<=200):Zq a neg (tn v) n false=tx (nt (BC a neg v n.toNat false))/\Zm a (tn v) n false=BJ v n.toNat false:=by
 have e:Zn a (tn v) n=true:=by unfold Zn;rw[Nx h,Bz b,Bz ⟨c,d⟩];rfl
 unfold Zq Zm;rw[e,zyp rfl,zyp rfl,Ef h];exact⟨rfl,rfl⟩
theorem T6(v:Int):(tn v).size<=4611686018427387904:=DT (VL v) (by decide)
def D7(n:Int):Int:=min (max n 0) 200
theorem L2(n:Int)(w:AA):cE 172 #[.int .i64 n] w (.int .i64 (D7 n)):=by
 obtain⟨a,b⟩:=zxe (max n 0);obtain⟨c,d⟩:=zxe (min a 200);have E:Hid (D7 n=c):=by show _=_;unfold D7;rw[b,d]
 rw[E];clear E;go_enter func172,ntmps172;go_wp2;go_ret;exact⟨rfl,rfl⟩
def N2(w:AA)(a:Int)(b:Bool)(c:Int)(d:AB)(W:AA):Prop:=
 A4 W w.heap.size a b c d/\Z4 W (w.heap.size+1)/\AD w.heap.size w W
theorem kv(w:AA)(a:Int)(b:Bool)(c:Int)(d:AB):N2 w a b c d ((w.alloc (AY a b c d)).alloc VU):=by
 have i:=As w (.int .i64 a) (.bool b) (.int .i64 c) (.string d);have j:=AN w (AY a b c d);have f:AD w.heap.size w (w.alloc (AY a b c d)):=bA;generalize w.alloc (AY a b c d)=e at*
 have g:=As e (.int .i64 0) (.bool false) (.int .i64 0) (.string ⟨#[]⟩);have h:AD e.heap.size e (e.alloc VU):=bA;rw[j] at g;exact⟨i.next h,g,f.trans (h.mono f.size)⟩
theorem N2.next{w W b:AA}{c:Int}{d:Bool}{e:Int}{f:AB}(h:N2 w c d e f W)(a:AD W.heap.size W b):N2 w c d e f b:=
 ⟨h.1.next a,h.2.1.next a,h.2.2.trans (a.mono h.2.2.size)⟩
theorem Rh{c:Func}{p t:Tmp}{b:Nat}{x y z u:AK}(h:c.results=#[.cell p 78,.tmp t])(a:Array AK)(w:AA)(d:a[p]?.getD undef=.pointer (some ⟨b,0,none⟩))
 (e:w.cell? ⟨b,0,none⟩=some x) (f:w.cell? ⟨b,1,none⟩=some y) (g:w.cell? ⟨b,2,none⟩=some z) (i:w.cell? ⟨b,3,none⟩=some u):(results c a).run prog w=.ok (.tuple #[.agg #[x,y,z,u],a.getD t undef]) w:=by
 simp[results,h,d,go_sem,e,f,g,i]
theorem SI(d:Int)(k:1<=d/\d<=5)(c:Bool)(b v a:Int)(w:AA)(L:-7000<=b/\b<=7000)(M:-7000<=a/\a<=7000)(t:Bp v)(h:Bp (v*10^(D7 (b-a)).toNat)):
 cB 99 #[.int .i64 d,AH 1 c b (tn v),.int .i64 a] w (.tuple #[AH 1 c a (tx (nt (BC d c (v*10^(D7 (b-a)).toNat) (D7 (a-b)).toNat false))),.bool (BJ (v*10^(D7 (b-a)).toNat) (D7 (a-b)).toNat false)]):=by
 have e:∀n,0<=D7 n/\D7 n<=200:=λn=>by unfold D7;omega
 have l:Hid (cA 87 #[.string (tn v),.int .i64 (D7 (b-a))] (.string (tn (v*10^(D7 (b-a)).toNat)))):=λX=>by
  have:=DQ (tn v) (D7 (b-a)) X (T6 v);rwa[MP t h (e _).1 (e _).2] at this
 obtain⟨N,m⟩:=zxe (tn (v*10^(D7 (b-a)).toNat));have u:Hid (cA 173 #[.int .i64 d,.bool c,.string N,.int .i64 (D7 (a-b)),.bool false] (.tuple #[.string (tx (nt (BC d c (v*10^(D7 (b-a)).toNat) (D7 (a-b)).toNat false))),.bool (BJ (v*10^(D7 (b-a)).toNat) (D7 (a-b)).toNat false)])):=λX=>by
  rw[<-m];have:=Jp d c (tn (v*10^(D7 (b-a)).toNat)) (D7 (a-b)) false X (T6 _);rwa[(Rm d c k h (e _).1 (e _).2).1,(Rm d c k h (e _).1 (e _).2).2] at this
 rw[m] at l;clear m;generalize tx (nt (BC d c (v*10^(D7 (b-a)).toNat) (D7 (a-b)).toNat false))=o at*
 generalize BJ (v*10^(D7 (b-a)).toNat) (D7 (a-b)).toNat false=R at*
 have y:=zq λX=>L2 (b-a) X;have z:=zq λX=>L2 (a-b) X;generalize D7 (b-a)=S at*
 generalize D7 (a-b)=T at*
 have O:=zw (b-a) (by omega);have P:=zw (a-b) (by omega);generalize tn v=A at*
 clear t h L M k e;have p:=zq (kv w 1 c b A);go_enter func99,ntmps99;go_upto_region 1 with fail;generalize (w.alloc (AY 1 c b A)).alloc VU=w0 at*
 have B:=dR w0;refine AP (C:=AD w0.heap.size w0) B ?_;repeat (go_big_quiet_step ((intro f;rename_i g;first|exact rfl|((with_reducible refine Calls.class_of (l.out g) ?_);exactλw' q=>BQ f q)|((with_reducible refine(y.out g).mono ?_);rintro x Q ⟨rfl,rfl⟩;exact⟨rfl,f⟩)|(obtain⟨D,E,F,G,H⟩:=(p.out.next f).1.cells;go_simp;exact rfl))))
 refine wpQuiet_nil ?_;intro r I;have s:=zq (p.next I);clear I p B l y O;go_upto_region 2 with fail;have J:=dR r;refine AP (C:=AD r.heap.size r) J ?_;repeat (go_big_quiet_step ((intro f;rename_i g;first|exact rfl|((with_reducible refine Calls.class_of (u.out g) ?_);exactλw' q=>BQ f q)|((with_reducible refine(z.out g).mono ?_);rintro x Q ⟨rfl,rfl⟩;exact⟨rfl,f⟩)|(obtain⟨D,E,F,G,H⟩:=(s.out.next f).1.cells;go_simp;exact rfl))))
 refine wpQuiet_nil ?_;intro U K;have i:=zq (s.next K);clear K s J u z P;obtain⟨D,E,F,G,H⟩:=i.1.cells;have V:=Cp 1 c a o;go_wp2_with (refine sN i.2.1 1 c a o ?_);have j:=(i.2.1.row (.int .i64 1) (.bool c) (.int .i64 a) (.string o)).cells;refine Do (Rh rfl _ _ rfl j.1 j.2.1 j.2.2.1 j.2.2.2.1) rfl ?_;exact⟨rfl,AC i.2.2 (by omega) _⟩
end Go.Proofs.YteofommckgeemaaGreatDoor
