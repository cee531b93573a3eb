/- Steps. -/
import Derived.Test.YteofommckgeemaaGreatDoorEBO
import Derived.Test.YteofommckgeemaaGreatDoorEBP
namespace Go.Proofs.YteofommckgeemaaGreatDoor
open Go.RowKit Go.Proofs.Tryz
set_option linter.unusedVariables false
set_option linter.unusedSimpArgs false
set_option maxRecDepth 100000
set_option maxHeartbeats 8000000
theorem Yh(T:Nat)(v:AK)(w:AA):(binOp .neq 39 (.iface T v) .nilIface).run prog w=.ok (.bool true) w:=by kernel_rfl
theorem ZK(F:Nat)(xs j:Array AK)(R:∀args X,(callFunc F args).run prog X=.ok (.enter F args) X)(b:Nat)(f m u:Int)(p q g o k:Nat)(d:List AB)(l:List CQ)(x:AB)(y:Int)(w:AA)(z:St w b f m u)
 (A:w.heap[p]?=some (.cells #[.pointer (some ⟨b,0,none⟩)] 55)) (n:w.heap[q]?=some (.cells #[.func (.func F) xs j] 66)) (B:Pu w g o d) (C:d.length<=1000) (D:∀s∈d,s.size<=100000) (E:B0 f m d=some l) (G:fP w)
 (H:∀v X,AD w.heap.size w X->DV X w.heap.size v l->Calls prog F (xs++#[v]++j) X λr a=>r=.returned (.string x)/\St a b f m y/\X.grownBy a (some b)):
 Calls prog 101 #[.slice (some ⟨g,o,none⟩) d.length k,.pointer (some ⟨p,0,none⟩),.pointer (some ⟨q,0,none⟩)] w λe a=>e=.returned (.tuple #[.string x,.nilIface])/\St a b f m y/\w.grownBy a (some b):=by
 have I:Hid (Calls prog 102 #[.pointer (some ⟨b,0,none⟩),.slice (some ⟨g,o,none⟩) d.length k] w λe a=>∃v,e=.returned (.tuple #[v,.nilIface])/\DV a w.heap.size v l/\AD w.heap.size w a):=(JI b f m u g o k d w z B C D G).mono λe a ⟨v,S,h,c,O⟩=>by
  unfold mY at c;rw[E] at c;obtain⟨rfl,c⟩:=c;exact⟨v,h,c,O⟩
 have J:=zq H;have K:=AO A 0;have L:Hid (∀X,AD w.heap.size w X->X.cell? ⟨q,0,none⟩=some (.func (.func F) xs j)):=λX P=>(P.cell (p:=⟨q,0,none⟩) (Array.getElem?_eq_some_iff.1 n).1).trans (AO n 0);simp only[List.getElem?_toArray,List.getElem?_cons_zero] at K;clear z A n B C D E G H;go_enter func101,ntmps101;go_wp2_with fail;refine I.mono ?_;rintro e T ⟨v,rfl,M,t⟩;have Q:=L _ t;have i:=Ab M t;clear I M t L K;go_wp2_with fail;refine Calls.mono (by simpa using J _ _ i.2 i.1) ?_;rintro r a ⟨rfl,h,c⟩;have N:=Ab h (CM (CY i.2 _) c);clear h c Q i J;go_wp2;go_ret2;exact⟨rfl,N.1,N.2⟩
theorem gn(b:Nat)(f m c:Int)(p q g o h:Nat)(a:List AB)(w:AA)(i:St w b f m c)
 (l:w.heap[p]?=some (.cells #[.pointer (some ⟨b,0,none⟩)] 55)) (n:Pu w g o a) (r:a.length<=1000) (t:∀s∈a,s.size<=100000) (u:B0 f m a=none) (y:fP w):
 Calls prog 101 #[.slice (some ⟨g,o,none⟩) a.length h,.pointer (some ⟨p,0,none⟩),.pointer (some ⟨q,0,none⟩)] w λe d=>e=.returned (.tuple #[.string ⟨#[]⟩,Jm (M8 f m a) 2])/\St d b f m c/\w.grownBy d (some b):=by
 have z:Hid (∀X,AD w.heap.size w X->St X b f m c):=λX E=>i.next E;have A:Hid (Calls prog 102 #[.pointer (some ⟨b,0,none⟩),.slice (some ⟨g,o,none⟩) a.length h] w λe d=>∃v,e=.returned (.tuple #[v,Jm (M8 f m a) 2])/\AD w.heap.size w d):=(JI b f m c g o h a w i n r t y).mono λe d ⟨v,H,F,j,G⟩=>by
  unfold mY at j;rw[u] at j;exact⟨v,by rw[F,j],G⟩
 have B:=AO l 0;simp only[List.getElem?_toArray,List.getElem?_cons_zero] at B;generalize M8 f m a=x at*
 have I:=Yh;clear i l n r t u y;go_enter func101,ntmps101;go_wp2_with fail;refine A.mono ?_;rintro e C ⟨v,rfl,k⟩;have D:Hid (St C b f m c/\w.grownBy C (some b)):=⟨z.out _ k,CY k _⟩;clear A k B z;go_wp2;go_ret2;exact⟨rfl,D.1,D.2⟩
def TA(w0:AA):Prop:=∀X,AD w0.heap.size w0 X->Ev X/\fP X/\Hr X/\Dr X/\Tz X/\GT X/\EV X
theorem TA.tb{w0:AA}(h:TA w0):TB w0:=λX a=>⟨(h X a).1,(h X a).2.1,(h X a).2.2.1⟩
theorem TA.tw{w0:AA}(h:TA w0):TW w0:=λX a=>⟨(h X a).2.2.2.1,(h X a).2.2.2.2.1⟩
theorem Pu.tl{W:AA}{g:Nat}{s:AB}{a:List AB}(h:Pu W g 0 (s::a)):Pu W g 1 a:=⟨h.1,λi x b=>by
 have:=h.2 (i+1) x b;rw[show(1:Nat)+i=0+(i+1) by omega];exact this⟩
def PW(X:AA)(d a:Nat)(f m g:Int)(b:List AB)(h:AB)(i j k:Int):Prop:=
 ∀Y,AD X.heap.size X Y->Pu Y X.heap.size 0 b->St Y a f m g->Calls prog 43 #[.map (some d),.slice (some ⟨X.heap.size,0,none⟩) b.length b.length] Y λe c=>X1 h e/\St c a i j k/\Y.grownBy c (some a)
theorem iR(X:AA)(b g:Nat)(f m d:Int)(a:AB)(rest:List AB)(c:Array MapEntry)(h:Nat)(i:X.heap[b]?=some (.map c h))(j:c.isEmpty=false)(k:Instr.findNow .string (.string a) c.toList 0=some none):
 PW X b g f m d (a::rest) (ez 1) f m d:=λY l n o=>by
 have p:=(l.block b (Array.getElem?_eq_some_iff.1 i).1).trans i;refine(Ji b c h a g f m d X.heap.size (a::rest).length (a::rest).length rest Y (by simp) p j k o n).mono ?_;rintro e s ⟨rfl,q,r⟩;exact⟨.inr ⟨a,1,.inl rfl,rfl,rfl⟩,q,r⟩
theorem Zk(X:AA)(b h:Nat)(f m g:Int)(a:AB)(rest:List AB)(d:Array MapEntry)(j c i F:Nat)(xs k:Array AK)(n:c<=1000)(w:rest.length≠c)(l:X.heap[b]?=some (.map d j))(o:d.isEmpty=false)(p:Instr.findNow .string (.string a) d.toList 0=some (some (i,.agg #[.int .i64 c,.func (.func F) xs k]))):
 PW X b h f m g (a::rest) (ez 1) f m g:=λY q r s=>by
 have t:=(q.block b (Array.getElem?_eq_some_iff.1 l).1).trans l;refine(Ii b d j a c i F xs k n h f m g X.heap.size (a::rest).length (a::rest).length rest Y (by simp) (by simp;omega) t o p s r).mono ?_;rintro e x ⟨rfl,u,v⟩;exact⟨.inr ⟨a,1,.inl rfl,rfl,rfl⟩,u,v⟩
theorem MC(X:AA)(d a:Nat)(f m h j k l:Int)(b:AB)(rest:List AB)(p:AB)(g:Array MapEntry)(q c i F:Nat)(xs n:Array AK)(x:∀args X,(callFunc F args).run prog X=.ok (.enter F args) X)(y:c<=1000)(s:rest.length=c)(t:X.heap[d]?=some (.map g q))(z:g.isEmpty=false)(C:Instr.findNow .string (.string b) g.toList 0=some (some (i,.agg #[.int .i64 c,.func (.func F) xs n])))(A B:AK)(D:X1 p (.returned (.tuple #[A,B])))
 (E:∀Y Z,AD X.heap.size X Y->Pu Y X.heap.size 0 (b::rest)->St Y a f m h->AD Y.heap.size Y Z->Calls prog F (xs++#[.slice (if c+1=1 then some ⟨X.heap.size,0,none⟩ else some ⟨X.heap.size,1,none⟩) c (c+1-1)]++n) Z λr o=>r=.returned (.tuple #[A,B])/\St o a j k l/\Z.grownBy o (some a)):
 PW X d a f m h (b::rest) p j k l:=λY u v w=>by
 have G:=(u.block d (Array.getElem?_eq_some_iff.1 t).1).trans t;have H:(b::rest).length=c+1:=by simp[s]
 rw[H];refine(Ki F xs n x d g q b c i y a f m h j k l X.heap.size (c+1) rest (by omega) A B Y G z C s w v λZ I=>E Y Z u v w I).mono ?_;rintro e o ⟨rfl,J,K⟩;exact⟨D,J,K⟩
theorem iS(w0:AA)(G:TA w0)(X:AA)(u:AD w0.heap.size w0 X)(l a:Nat)(ab:w0.heap.size<=a)(f m g h:Int)(n:AB)(rest:List AB)(d:AB)(j:Array MapEntry)(w c i:Nat)(ac:1<=c)(H:c<=1000)(y:rest.length=c)(I:∀x∈rest,x.size<=100000)(J:X.heap[l]?=some (.map j w))(K:j.isEmpty=false)
 (e:Nat) (o s:Array AK) (L:∀args X,(callFunc e args).run prog X=.ok (.enter e args) X) (z:AK) (M:DW X a (.func (.func e) o s) z)
 (N:Instr.findNow .string (.string n) j.toList 0=some (some (i,.agg #[.int .i64 c,z]))) (t:List CQ) (O:B0 f m rest=some t)
 (P:∀base v V,AD X.heap.size X V->St V a f m g->a<base->DV V base v t->Calls prog e (o++#[v]++s) V λr A=>r=.returned (.string d)/\St A a f m h/\V.grownBy A (some a)) (Q:a<X.heap.size):
 PW X l a f m g (n::rest) d f m h:=by
 obtain⟨p,q,rfl,B,C⟩:=M;refine MC X l a f m g f m h n rest d j w c i 101 #[] _ (λ_ _=>rfl) H y J K N (.string d) .nilIface (.inl rfl) λY Z D R E k=>?_;have b:=D.trans (k.mono D.size);have S:=u.trans (b.mono u.size);have T:=(b.block p (Array.getElem?_eq_some_iff.1 B).1).trans B;have U:=(b.block q (Array.getElem?_eq_some_iff.1 C).1).trans C;have W:¬c+1=1:=by omega
 rw[zyn W,<-y];refine ZK e o s L a f m g p q X.heap.size 1 (rest.length+1-1) rest t d h Z (E.next k) T U ((R.next k).tl) (by omega) I O (G Z S).2.1 λv V F hN=>?_;exact P Z.heap.size v V (b.trans (F.mono b.size)) ((E.next k).next F) (DU Q b.size) hN
theorem Wp(w0:AA)(t:TA w0)(X:AA)(j:AD w0.heap.size w0 X)(e a:Nat)(I:w0.heap.size<=a)(f m b:Int)(g:AB)(rest:List AB)(d:Array MapEntry)(k c i:Nat)(J:1<=c)(u:c<=1000)(l:rest.length=c)(v:∀x∈rest,x.size<=100000)(w:X.heap[e]?=some (.map d k))(y:d.isEmpty=false)
 (z n:AK) (A:DW X a z n)
 (B:Instr.findNow .string (.string g) d.toList 0=some (some (i,.agg #[.int .i64 c,n]))) (C:B0 f m rest=none):
 PW X e a f m b (g::rest) (ez 2) f m b:=by
 obtain⟨p,q,rfl,o,K⟩:=A;refine MC X e a f m b f m b g rest (ez 2) d k c i 101 #[] _ (λ_ _=>rfl) u l w y B (.string ⟨#[]⟩) (Jm (M8 f m rest) 2) (.inr ⟨_,2,.inr rfl,rfl,rfl⟩) λY Z r D E h=>?_;have s:=r.trans (h.mono r.size);have F:=j.trans (s.mono j.size);have G:=(s.block p (Array.getElem?_eq_some_iff.1 o).1).trans o;have H:¬c+1=1:=by omega
 rw[zyn H,<-l];exact gn a f m b p q X.heap.size 1 (rest.length+1-1) rest Z (E.next h) G ((D.next h).tl) (by omega) v C (t Z F).2.1
theorem Wt(a:Nat)(b c d e f g h i j k:AK):(VD a b c d e f g h i j k).toList.map MapEntry.key=Mx.map Value.string:=rfl
theorem fy(b:Nat)(c f g i m n o p q r:AK)(s:AB)(h:∀k∈Mx,k≠s):Instr.findNow .string (.string s) (VD b c f g i m n o p q r).toList 0=some none:=by
 have w:=Wt b c f g i m n o p q r;generalize (VD b c f g i m n o p q r).toList=l at w;have y:∀x∈l,∃k∈Mx,x.key=.string k:=λx t=>by
  have:x.key∈Mx.map Value.string:=w▸List.mem_map_of_mem t;obtain⟨k,u,v⟩:=List.mem_map.1 this;exact⟨k,u,v.symm⟩
 rcases MapKept.findNow_spec (d:=.string) (k:=.string s) (by simp[MapKept.IsKey]) l 0 (λx t=>by obtain⟨k,_,e⟩:=y x t;rw[e];simp[MapKept.IsKey]) with⟨u,_⟩|⟨j,e,_,v,z⟩
 ·exact u
 ·obtain⟨k,A,a⟩:=y e (List.mem_of_getElem? v);rw[z] at a;injection a with a
  exact absurd a.symm (h k A)
theorem Xa(a:AB)(h:∀k∈Mx,k≠a)(n:Nat):GD a n=-1:=by
 induction n with
 |zero=>rfl
 |succ n ih=>
  unfold GD;rw[zyn (λe=>h a (List.mem_of_getElem? e) rfl)];exact ih
theorem Yr(a:AB):(∀k∈Mx,k≠a)\/a∈Mx:=by
 by_cases h:a∈Mx
 ·exact .inr h
 ·exact .inl λk b e=>h (e▸b)
theorem Yp:GD {data:=#[102,111,114,109,97,116]} 13=((0:Nat):Int):=by kernel_rfl
theorem Yq:GD {data:=#[109,111,100,101]} 13=((1:Nat):Int):=by kernel_rfl
theorem kf:GD {data:=#[97,100,100]} 13=((2:Nat):Int):=by kernel_rfl
theorem kg:GD {data:=#[115,117,98]} 13=((3:Nat):Int):=by kernel_rfl
theorem kh:GD {data:=#[109,117,108]} 13=((4:Nat):Int):=by kernel_rfl
theorem ki:GD {data:=#[100,105,118]} 13=((5:Nat):Int):=by kernel_rfl
theorem kj:GD {data:=#[102,109,97]} 13=((6:Nat):Int):=by kernel_rfl
theorem kk:GD {data:=#[115,113,114,116]} 13=((7:Nat):Int):=by kernel_rfl
theorem kl:GD {data:=#[113,117,97,110,116,105,122,101]} 13=((8:Nat):Int):=by kernel_rfl
theorem ko:GD {data:=#[110,101,120,116]} 13=((9:Nat):Int):=by kernel_rfl
theorem gR:GD {data:=#[99,111,109,112,97,114,101]} 13=((10:Nat):Int):=by kernel_rfl
theorem gS:GD {data:=#[119,111,114,100]} 13=((11:Nat):Int):=by kernel_rfl
theorem Um:GD {data:=#[102,108,97,103,115]} 13=((12:Nat):Int):=by kernel_rfl
def SL(s:AB)(f m b:Int)(c:AB)(d e g:Int):Prop:=∀a w,ET w a f m b->Calls prog 23 #[.pointer (some ⟨a,0,none⟩),.string s] w (WO c w a d e g)
theorem nY(s:AB)(e:s.size<=20000)(f m b:Int)(a:AB)(c:List AB)(g:Dp 32 s=a::c)(h:∀k∈Mx,k≠a):SL s f m b jT f m b:=λd w i=>
 O0 s e d f m b w i a c g _ (λ_ X l o=>⟨rfl,l,B2 o d⟩) (λj n p=>absurd (Xa a h 13) (by omega)) (.inl (by rw[Xa a h];decide))
theorem d6(s:AB)(h:s.size<=20000)(f m b:Int)(c:AB)(d:List AB)(i:Dp 32 s=c::d)(j n:Nat)(k:GD c 13=(j:Int))(e:S6[j]?=some n)(l:d.length≠n):SL s f m b jT f m b:=λg w o=>
 O0 s h g f m b w o c d i _ (λ_ X p q=>⟨rfl,p,B2 q g⟩) (λr u v a t=>by
  obtain rfl:j=r:=by omega
  rw[e] at a;injection a with a
  exact absurd (t.trans a.symm) l) (.inr ⟨j,n,k,e⟩)
theorem Ty(s:AB)(u:s.size<=20000)(f m h:Int)(c:AB)(d:List AB)(v:Dp 32 s=c::d)(j n:Nat)(x:GD c 13=(j:Int))(i:S6[j]?=some n)(y:d.length=n)(l:AB)(o p q:Int)
 (H:∀b w g e,js w s b g e n (j:Int) (XE w g e (c::d) b f m h) (WO l w b o p q)):SL s f m h l o p q:=λb w z=>
 O0 s u b f m h w z c d v _ (λr X C D=>by
  exfalso;rcases r with r|⟨k,A,B,a,t⟩
  ·omega
  ·obtain rfl:j=k:=by omega
   rw[i] at a;injection a with a
   exact t (y.trans a)) (λk A B a t g e=>by
  obtain rfl:j=k:=by omega
  rw[i] at a;injection a with a
  subst a;exact H b w g e) (.inr ⟨j,n,x,i⟩)
theorem Wy(s:AB)(i:s.size<=20000)(f m b:Int)(c:AB)(a:List AB)(k:Dp 32 s=c::a)(l:c∈mW)(j n:Nat)(o:GD c 13=(j:Int))(p:S6[j]?=some n)(d:a.length=n)(q:n<=1000)(r:∀x∈a,x.size<=100000)(t:B0 f m a=none):SL s f m b ey f m b:=
 Ty s i f m b c a k j n o p d ey f m b λe w g u=>by
  subst d;exact Un s e g u f m b w c l a q r j _ (λ_ X v y=>⟨rfl,v,B2 y e⟩) λz B h=>by rw[t] at h;cases h
theorem iu(s:AB)(q:s.size<=20000)(f m d:Int)(a:AB)(b:List AB)(r:Dp 32 s=a::b)(t:a∈mW)(j n:Nat)(u:GD a 13=(j:Int))(v:S6[j]?=some n)(l:b.length=n)(y:n<=1000)(z:∀x∈b,x.size<=100000)(o:List CQ)(p:B0 f m b=some o)(i:AB)(k:Int)
 (H:∀c w g e B,eo c g e n (UE w B g a o c f m d) (WO i w c f m k)):SL s f m d i f m k:=
 Ty s q f m d a b r j n u v l i f m k λc w g e=>by
  subst l;exact Un s c g e f m d w a t b y z j _ (λh=>by rw[p] at h;cases h) λA B h=>by
   rw[p] at h;injection h with h
   subst h;exact H c w g e B
def Cf(X:AA)(d:Nat)(e:AB)(c:Nat)(P:AK->Prop):Prop:=∃a f i b,X.heap[d]?=some (.map a f)/\a.isEmpty=false/\Instr.findNow .string (.string e) a.toList 0=some (some (i,.agg #[.int .i64 c,b]))/\P b
theorem MJ{X:AA}{a b:Nat}(h:BF X a b):Cf X a {data:=#[102,111,114,109,97,116]} 1 (λv=>v=.func (.func 25) #[.pointer (some ⟨b,0,none⟩)] #[]):=by
 obtain⟨d,e,f,g,i,j,k,l,m,n,c,o⟩:=h;exact⟨_,13,0,_,c,rfl,rfl,rfl⟩
theorem Rp{X:AA}{a b:Nat}(h:BF X a b):Cf X a {data:=#[109,111,100,101]} 1 (λv=>v=.func (.func 26) #[.pointer (some ⟨b,0,none⟩)] #[]):=by
 obtain⟨d,e,f,g,i,j,k,l,m,n,c,o⟩:=h;exact⟨_,13,1,_,c,rfl,rfl,rfl⟩
theorem U8{X:AA}{a b:Nat}(h:BF X a b):Cf X a {data:=#[97,100,100]} 2 (Ex X b 28):=by
 obtain⟨e,f,g,i,j,k,l,m,n,o,c,d⟩:=h;exact⟨_,13,2,_,c,rfl,rfl,d.1⟩
theorem VC{X:AA}{a b:Nat}(h:BF X a b):Cf X a {data:=#[115,117,98]} 2 (Ex X b 29):=by
 obtain⟨e,f,g,i,j,k,l,m,n,o,c,d⟩:=h;exact⟨_,13,3,_,c,rfl,rfl,d.2.1⟩
theorem VB{X:AA}{a b:Nat}(h:BF X a b):Cf X a {data:=#[109,117,108]} 2 (Ex X b 30):=by
 obtain⟨e,f,g,i,j,k,l,m,n,o,c,d⟩:=h;exact⟨_,13,4,_,c,rfl,rfl,d.2.2.1⟩
theorem U9{X:AA}{a b:Nat}(h:BF X a b):Cf X a {data:=#[100,105,118]} 2 (Ex X b 31):=by
 obtain⟨e,f,g,i,j,k,l,m,n,o,c,d⟩:=h;exact⟨_,13,5,_,c,rfl,rfl,d.2.2.2.1⟩
theorem VA{X:AA}{a b:Nat}(h:BF X a b):Cf X a {data:=#[102,109,97]} 3 (P8 X b 33):=by
 obtain⟨e,f,g,i,j,k,l,m,n,o,c,d⟩:=h;exact⟨_,13,6,_,c,rfl,rfl,d.2.2.2.2.1⟩
theorem Rr{X:AA}{a b:Nat}(h:BF X a b):Cf X a {data:=#[115,113,114,116]} 1 (LM X b 35):=by
 obtain⟨e,f,g,i,j,k,l,m,n,o,c,d⟩:=h;exact⟨_,13,7,_,c,rfl,rfl,d.2.2.2.2.2.1⟩
theorem JR{X:AA}{a b:Nat}(h:BF X a b):Cf X a {data:=#[113,117,97,110,116,105,122,101]} 2 (Ex X b 36):=by
 obtain⟨e,f,g,i,j,k,l,m,n,o,c,d⟩:=h;exact⟨_,13,8,_,c,rfl,rfl,d.2.2.2.2.2.2.1⟩
theorem Rq{X:AA}{a b:Nat}(h:BF X a b):Cf X a {data:=#[110,101,120,116]} 1 (LM X b 37):=by
 obtain⟨e,f,g,i,j,k,l,m,n,o,c,d⟩:=h;exact⟨_,13,9,_,c,rfl,rfl,d.2.2.2.2.2.2.2.1⟩
theorem KV{X:AA}{b a:Nat}(h:BF X b a):Cf X b {data:=#[99,111,109,112,97,114,101]} 2 (DW X a (.func (.func 39) #[.pointer (some ⟨a,0,none⟩)] #[])):=by
 obtain⟨e,f,g,i,j,k,l,m,n,o,c,d⟩:=h;exact⟨_,13,10,_,c,rfl,rfl,d.2.2.2.2.2.2.2.2.1⟩
theorem MK{X:AA}{b a:Nat}(h:BF X b a):Cf X b {data:=#[119,111,114,100]} 1 (DW X a (.func (.func 40) #[.pointer (some ⟨a,0,none⟩)] #[])):=by
 obtain⟨e,f,g,i,j,k,l,m,n,o,c,d⟩:=h;exact⟨_,13,11,_,c,rfl,rfl,d.2.2.2.2.2.2.2.2.2⟩
theorem Np{X:AA}{a b:Nat}(h:BF X a b):Cf X a {data:=#[102,108,97,103,115]} 0 (λv=>v=.func (.func 41) #[.pointer (some ⟨b,0,none⟩)] #[]):=by
 obtain⟨d,e,f,g,i,j,k,l,m,n,c,o⟩:=h;exact⟨_,13,12,_,c,rfl,rfl,rfl⟩
theorem Zz{X:AA}{c d:Nat}(h:BF X c d)(a:AB)(e:∀k∈Mx,k≠a):∃b f,X.heap[c]?=some (.map b f)/\b.isEmpty=false/\Instr.findNow .string (.string a) b.toList 0=some none:=by
 obtain⟨i,j,l,m,n,o,p,q,r,s,g,t⟩:=h;exact⟨_,13,g,rfl,fy _ _ _ _ _ _ _ _ _ _ _ a e⟩
theorem mh:ez 1=jT:=by kernel_rfl
theorem kK:ez 2=ey:=by kernel_rfl
def PL(d:List AB)(f m b:Int)(e:AB)(g h i:Int):Prop:=∀w0,TA w0->∀X c a,AD w0.heap.size w0 X->w0.heap.size<=a->BF X c a->St X a f m b->PW X c a f m b d e g h i
def Ew(f m a:Int):Prop:=(f=64\/f=128)/\(1<=m/\m<=5)/\0<=a/\a<32
def GJ(s:AB)(g:List AB)(f m e:Int):Prop:=∃a b c d,Ew b c d/\SL s f m e a b c d/\PL g f m e a b c d/\a.size<=200000
def WF(v:AK):Prop:=∃F xs a,v=.func (.func F) xs a
theorem DW.isFn{W:AA}{a:Nat}{t v:AK}(h:DW W a t v):WF v:=by
 obtain⟨p,q,e,-,-⟩:=h;exact⟨_,_,_,e⟩
theorem LM.isFn{W:AA}{a F:Nat}{v:AK}(h:LM W a F v):WF v:=by obtain⟨t,b,-⟩:=h;exact b.isFn
theorem Ex.isFn{W:AA}{a F:Nat}{v:AK}(h:Ex W a F v):WF v:=by obtain⟨t,b,-⟩:=h;exact b.isFn
theorem P8.isFn{W:AA}{a F:Nat}{v:AK}(h:P8 W a F v):WF v:=by obtain⟨t,b,-⟩:=h;exact b.isFn
theorem Cf.mono{X:AA}{d:Nat}{e:AB}{c:Nat}{P Q:AK->Prop}(h:Cf X d e c P)(f:∀v,P v->Q v):Cf X d e c Q:=by
 obtain⟨a,b,i,v,g,j,k,l⟩:=h;exact⟨a,b,i,v,g,j,k,f v l⟩
theorem iN(a:AB)(c:List AB)(f m b:Int)(h:∀k∈Mx,k≠a):PL (a::c) f m b jT f m b:=λw0 p X d e q r g s=>by
 obtain⟨i,j,l,n,o⟩:=Zz g a h;rw[<-mh];exact iR X d e f m b a c i j l n o
theorem Zd(d:AB)(e:List AB)(f m g:Int)(c:Nat)(h:c<=1000)(j:e.length≠c)(k:∀X a b,BF X a b->Cf X a d c WF):PL (d::e) f m g jT f m g:=λw0 t X a b u w l x=>by
 obtain⟨n,o,i,v,p,q,r,F,xs,s,rfl⟩:=k X a b l;rw[<-mh];exact Zk X a b f m g d e n o c i F xs s h j p q r
theorem Vh(s a:AB)(c:List AB)(d:s.size<=20000)(e:Dp 32 s=a::c)(f m b:Int)(g:Ew f m b)(h:∀k∈Mx,k≠a):GJ s (a::c) f m b:=
 ⟨jT,f,m,b,g,nY s d f m b a c e h,iN a c f m b h,by decide⟩
theorem FV(s a:AB)(b:List AB)(g:s.size<=20000)(h:Dp 32 s=a::b)(f m c:Int)(i:Ew f m c)(j n:Nat)(k:GD a 13=(j:Int))(l:S6[j]?=some n)(d:b.length≠n)(o:n<=1000)(p:∀X e q,BF X e q->Cf X e a n WF):GJ s (a::b) f m c:=
 ⟨jT,f,m,c,i,d6 s g f m c a b h j n k l d,Zd a b f m c n o d p,by decide⟩
theorem Wk(e:AB)(a:List AB)(f m g:Int)(c:Nat)(h:1<=c)(j:c<=1000)(k:a.length=c)(l:∀x∈a,x.size<=100000)(n:B0 f m a=none)(o:∀X b d,BF X b d->Cf X b e c λv=>∃t,DW X d t v):PL (e::a) f m g ey f m g:=λw0 p X b d q r s C=>by
 obtain⟨u,w,i,v,y,z,A,t,B⟩:=o X b d s;rw[<-kK];exact Wp w0 p X q b d r f m g e a u w c i h j k l y z t v B A n
theorem CA(s b:AB)(c:List AB)(C:s.size<=20000)(D:Dp 32 s=b::c)(y:∀x∈c,x.size<=100000)(f m d:Int)(I:Ew f m d)(J:b∈mW)(j n:Nat)(E:GD b 13=(j:Int))(F:S6[j]?=some n)(K:1<=n)(u:n<=1000)(L:∀X e a,BF X e a->Cf X e b n λv=>∃t,DW X a t v)
 (H:∀k,B0 f m c=some k->k.length=n->(∀x∈k,NY f x=true)->∃l o,Ew f m o/\(∀G w g R B,eo G g R n (UE w B g b k G f m d) (WO l w G f m o))/\
   (∀w0,TA w0->∀X e a,AD w0.heap.size w0 X->w0.heap.size<=a->BF X e a->St X a f m d->Cf X e b n λv=>∃p z A,(∀args X,(callFunc p args).run prog X=.ok (.enter p args) X)/\DW X a (.func (.func p) z A) v/\∀base v V,AD X.heap.size X V->St V a f m d->a<base->DV V base v k->Calls prog p (z++#[v]++A) V λr M=>r=.returned (.string l)/\St M a f m o/\V.grownBy M (some a))/\l.size<=200000):GJ s (b::c) f m d:=by
 by_cases q:c.length=n
 ·cases hR:B0 f m c with
  |none=>exact⟨ey,f,m,d,I,Wy s C f m d b c D J j n E F q u y hR,Wk b c f m d n K u q y hR L,by decide⟩
  |some k=>
   obtain⟨l,o,S,T,U,W⟩:=H k hR ((MD hR).trans q) (Ni hR);refine⟨l,f,m,o,S,iu s C f m d b c D J j n E F q u y k hR l o T,λw0 N X e a O P Y Q=>?_,W⟩;obtain⟨Z,aa,i,v,h1,h2,h3,p,z,A,hE,h4,h5⟩:=U w0 N X e a O P Y Q;exact iS w0 N X O e a P f m d o b c l Z aa n i K u q y h1 h2 p z A hE v h4 h3 k hR h5 Q.lt
 ·exact FV s b c C D f m d I j n E F q u λX e a h=>(L X e a h).mono λv hv=>by
   obtain⟨t,ht⟩:=hv;exact ht.isFn
theorem kp{a:List CQ}(h:a.length=1):∃x,a=[x]:=by
 match a,h with
 |[x],_=>exact⟨x,rfl⟩
theorem WL{a:List CQ}(h:a.length=2):∃x y,a=[x,y]:=by
 match a,h with
 |[x,y],_=>exact⟨x,y,rfl⟩
theorem oM{a:List CQ}(h:a.length=3):∃x y z,a=[x,y,z]:=by
 match a,h with
 |[x,y,z],_=>exact⟨x,y,z,rfl⟩
theorem KC{b:Int}{c:Nat}(h:0<=b/\b<32)(d:c<32):0<=bits .or .i64 b (c:Int)/\bits .or .i64 b (c:Int)<32:=by
 obtain⟨a,rfl⟩:∃a:Nat,b=(a:Int):=⟨b.toNat,by omega⟩;have:=YB a c 5;rw[<-YC a (by omega) c d];omega
theorem Xd(s:AB)(i:List AB)(E:s.size<=20000)(F:∀x∈i,x.size<=100000)(f m d:Int)(c:Ew f m d)(G:Dp 32 s={data:=#[97,100,100]}::i):GJ s ({data:=#[97,100,100]}::i) f m d:=
 CA s {data:=#[97,100,100]} i E G F f m d c (.head _) 2 2 kf rfl (by decide) (by decide) (λX H q h=>(U8 h).mono λv l=>by
  obtain⟨t,n,-⟩:=l;exact⟨t,n⟩) λY Z I h=>by
  obtain⟨x,y,rfl⟩:=WL I;obtain⟨k,b,e,j,o,J,K,L,r⟩:=gt f m x y (h x (by simp)) (h y (by simp));obtain⟨a,rfl⟩:∃a:Nat,d=(a:Int):=⟨d.toNat,by have:=c.2.2;omega⟩;have M:a<32:=by have:=c.2.2;omega
  refine⟨FI k b e j,bits .or .i64 (a:Int) (o:Int),⟨c.1,c.2.1,KC c.2.2 r⟩,λN w g O B=>Lj w B N g O f m a o M r x y k b e j L _ 2 (.inl ⟨rfl,K⟩),λw0 P X H q u Q R hS=>(U8 R).mono λv l=>?_,by have:=KZ k b e j;omega⟩;obtain⟨t,n,z,A,rfl,C,D⟩:=l;refine⟨_,_,_,λ_ _=>rfl,n,λbase v V p S T U=>?_⟩;exact MW w0 P.tb q Q f m a x y _ k b e j o (by omega) z A base v V (u.trans (p.mono u.size)) S ((p.block z (Array.getElem?_eq_some_iff.1 C).1).trans C) ((p.block A (Array.getElem?_eq_some_iff.1 D).1).trans D) U T (λ_ _=>rfl) λW _=>J W
theorem Xh(s:AB)(i:List AB)(E:s.size<=20000)(F:∀x∈i,x.size<=100000)(f m d:Int)(c:Ew f m d)(G:Dp 32 s={data:=#[115,117,98]}::i):GJ s ({data:=#[115,117,98]}::i) f m d:=
 CA s {data:=#[115,117,98]} i E G F f m d c (.tail _ (.head _)) 3 2 kg rfl (by decide) (by decide) (λX H q h=>(VC h).mono λv l=>by
  obtain⟨t,n,-⟩:=l;exact⟨t,n⟩) λY Z I h=>by
  obtain⟨x,y,rfl⟩:=WL I;obtain⟨k,b,e,j,o,J,K,L,r⟩:=gx f m x y (h x (by simp)) (h y (by simp));obtain⟨a,rfl⟩:∃a:Nat,d=(a:Int):=⟨d.toNat,by have:=c.2.2;omega⟩;have M:a<32:=by have:=c.2.2;omega
  refine⟨FI k b e j,bits .or .i64 (a:Int) (o:Int),⟨c.1,c.2.1,KC c.2.2 r⟩,λN w g O B=>Lj w B N g O f m a o M r x y k b e j L _ 2 (.inr (.inl ⟨rfl,K⟩)),λw0 P X H q u Q R hS=>(VC R).mono λv l=>?_,by have:=KZ k b e j;omega⟩;obtain⟨t,n,z,A,rfl,C,D⟩:=l;refine⟨_,_,_,λ_ _=>rfl,n,λbase v V p S T U=>?_⟩;exact MW w0 P.tb q Q f m a x y _ k b e j o (by omega) z A base v V (u.trans (p.mono u.size)) S ((p.block z (Array.getElem?_eq_some_iff.1 C).1).trans C) ((p.block A (Array.getElem?_eq_some_iff.1 D).1).trans D) U T (λ_ _=>rfl) λW _=>J W
theorem Xg(s:AB)(i:List AB)(E:s.size<=20000)(F:∀x∈i,x.size<=100000)(f m d:Int)(c:Ew f m d)(G:Dp 32 s={data:=#[109,117,108]}::i):GJ s ({data:=#[109,117,108]}::i) f m d:=
 CA s {data:=#[109,117,108]} i E G F f m d c (.tail _ (.tail _ (.head _))) 4 2 kh rfl (by decide) (by decide) (λX H q h=>(VB h).mono λv l=>by
  obtain⟨t,n,-⟩:=l;exact⟨t,n⟩) λY Z I h=>by
  obtain⟨x,y,rfl⟩:=WL I;obtain⟨k,b,e,j,o,J,K,L,r⟩:=gw f m x y (h x (by simp)) (h y (by simp));obtain⟨a,rfl⟩:∃a:Nat,d=(a:Int):=⟨d.toNat,by have:=c.2.2;omega⟩;have M:a<32:=by have:=c.2.2;omega
  refine⟨FI k b e j,bits .or .i64 (a:Int) (o:Int),⟨c.1,c.2.1,KC c.2.2 r⟩,λN w g O B=>Lj w B N g O f m a o M r x y k b e j L _ 2 (.inr (.inr (.inl ⟨rfl,K⟩))),λw0 P X H q u Q R hS=>(VB R).mono λv l=>?_,by have:=KZ k b e j;omega⟩;obtain⟨t,n,z,A,rfl,C,D⟩:=l;refine⟨_,_,_,λ_ _=>rfl,n,λbase v V p S T U=>?_⟩;exact MW w0 P.tb q Q f m a x y _ k b e j o (by omega) z A base v V (u.trans (p.mono u.size)) S ((p.block z (Array.getElem?_eq_some_iff.1 C).1).trans C) ((p.block A (Array.getElem?_eq_some_iff.1 D).1).trans D) U T (λ_ _=>rfl) λW _=>J W
theorem Xe(s:AB)(i:List AB)(E:s.size<=20000)(F:∀x∈i,x.size<=100000)(f m d:Int)(c:Ew f m d)(G:Dp 32 s={data:=#[100,105,118]}::i):GJ s ({data:=#[100,105,118]}::i) f m d:=
 CA s {data:=#[100,105,118]} i E G F f m d c (.tail _ (.tail _ (.tail _ (.head _)))) 5 2 ki rfl (by decide) (by decide) (λX H q h=>(U9 h).mono λv l=>by
  obtain⟨t,n,-⟩:=l;exact⟨t,n⟩) λY Z I h=>by
  obtain⟨x,y,rfl⟩:=WL I;obtain⟨k,b,e,j,o,J,K,L,r⟩:=gu f m x y (h x (by simp)) (h y (by simp));obtain⟨a,rfl⟩:∃a:Nat,d=(a:Int):=⟨d.toNat,by have:=c.2.2;omega⟩;have M:a<32:=by have:=c.2.2;omega
  refine⟨FI k b e j,bits .or .i64 (a:Int) (o:Int),⟨c.1,c.2.1,KC c.2.2 r⟩,λN w g O B=>Lj w B N g O f m a o M r x y k b e j L _ 2 (.inr (.inr (.inr (.inl ⟨rfl,K⟩)))),λw0 P X H q u Q R hS=>(U9 R).mono λv l=>?_,by have:=KZ k b e j;omega⟩;obtain⟨t,n,z,A,rfl,C,D⟩:=l;refine⟨_,_,_,λ_ _=>rfl,n,λbase v V p S T U=>?_⟩;exact MW w0 P.tb q Q f m a x y _ k b e j o (by omega) z A base v V (u.trans (p.mono u.size)) S ((p.block z (Array.getElem?_eq_some_iff.1 C).1).trans C) ((p.block A (Array.getElem?_eq_some_iff.1 D).1).trans D) U T (λ_ _=>rfl) λW _=>J W
theorem Mj(s:AB)(i:List AB)(E:s.size<=20000)(F:∀x∈i,x.size<=100000)(f m d:Int)(c:Ew f m d)(G:Dp 32 s={data:=#[113,117,97,110,116,105,122,101]}::i):GJ s ({data:=#[113,117,97,110,116,105,122,101]}::i) f m d:=
 CA s {data:=#[113,117,97,110,116,105,122,101]} i E G F f m d c (.tail _ (.tail _ (.tail _ (.tail _ (.tail _ (.tail _ (.head _))))))) 8 2 kl rfl (by decide) (by decide) (λX H q h=>(JR h).mono λv l=>by
  obtain⟨t,n,-⟩:=l;exact⟨t,n⟩) λY Z I h=>by
  obtain⟨x,y,rfl⟩:=WL I;obtain⟨k,b,e,j,o,J,K,L,r⟩:=PD f m x y (h x (by simp)) (h y (by simp));obtain⟨a,rfl⟩:∃a:Nat,d=(a:Int):=⟨d.toNat,by have:=c.2.2;omega⟩;have M:a<32:=by have:=c.2.2;omega
  refine⟨FI k b e j,bits .or .i64 (a:Int) (o:Int),⟨c.1,c.2.1,KC c.2.2 r⟩,λN w g O B=>Lj w B N g O f m a o M r x y k b e j L _ 2 (.inr (.inr (.inr (.inr ⟨rfl,K⟩)))),λw0 P X H q u Q R hS=>(JR R).mono λv l=>?_,by have:=KZ k b e j;omega⟩;obtain⟨t,n,z,A,rfl,C,D⟩:=l;refine⟨_,_,_,λ_ _=>rfl,n,λbase v V p S T U=>?_⟩;exact MW w0 P.tb q Q f m a x y _ k b e j o (by omega) z A base v V (u.trans (p.mono u.size)) S ((p.block z (Array.getElem?_eq_some_iff.1 C).1).trans C) ((p.block A (Array.getElem?_eq_some_iff.1 D).1).trans D) U T (λ_ _=>rfl) λW _=>J W
theorem Vi(s:AB)(i:List AB)(D:s.size<=20000)(E:∀x∈i,x.size<=100000)(f m d:Int)(c:Ew f m d)(F:Dp 32 s={data:=#[115,113,114,116]}::i):GJ s ({data:=#[115,113,114,116]}::i) f m d:=
 CA s {data:=#[115,113,114,116]} i D F E f m d c (.tail _ (.tail _ (.tail _ (.tail _ (.tail _ (.head _)))))) 7 1 kk rfl (by decide) (by decide) (λX G q h=>(Rr h).mono λv l=>by
  obtain⟨t,n,-⟩:=l;exact⟨t,n⟩) λU Y H h=>by
  obtain⟨x,rfl⟩:=kp H;obtain⟨k,b,e,j,o,I,J,K,r⟩:=ZP f m x (h x (by simp));obtain⟨a,rfl⟩:∃a:Nat,d=(a:Int):=⟨d.toNat,by have:=c.2.2;omega⟩;have L:a<32:=by have:=c.2.2;omega
  refine⟨FI k b e j,bits .or .i64 (a:Int) (o:Int),⟨c.1,c.2.1,KC c.2.2 r⟩,λM w g N B=>Y1 w B M g N f m a o L r x k b e j K _ 1 (.inl ⟨rfl,J⟩),λw0 O X G q u P Q Z=>(Rr Q).mono λv l=>?_,by have:=KZ k b e j;omega⟩;obtain⟨t,n,y,z,rfl,A,C⟩:=l;refine⟨_,_,_,λ_ _=>rfl,n,λbase v V p R S T=>?_⟩;exact eI w0 O.tb q P f m a x _ k b e j o (by omega) y z base v V (u.trans (p.mono u.size)) R ((p.block y (Array.getElem?_eq_some_iff.1 A).1).trans A) ((p.block z (Array.getElem?_eq_some_iff.1 C).1).trans C) T S (λ_ _=>rfl) λW _=>I W
theorem Vg(s:AB)(i:List AB)(D:s.size<=20000)(E:∀x∈i,x.size<=100000)(f m d:Int)(c:Ew f m d)(F:Dp 32 s={data:=#[110,101,120,116]}::i):GJ s ({data:=#[110,101,120,116]}::i) f m d:=
 CA s {data:=#[110,101,120,116]} i D F E f m d c (.tail _ (.tail _ (.tail _ (.tail _ (.tail _ (.tail _ (.tail _ (.head _)))))))) 9 1 ko rfl (by decide) (by decide) (λX G q h=>(Rq h).mono λv l=>by
  obtain⟨t,n,-⟩:=l;exact⟨t,n⟩) λU Y H h=>by
  obtain⟨x,rfl⟩:=kp H;obtain⟨k,b,e,j,o,I,J,K,r⟩:=ZO f m x (h x (by simp));obtain⟨a,rfl⟩:∃a:Nat,d=(a:Int):=⟨d.toNat,by have:=c.2.2;omega⟩;have L:a<32:=by have:=c.2.2;omega
  refine⟨FI k b e j,bits .or .i64 (a:Int) (o:Int),⟨c.1,c.2.1,KC c.2.2 r⟩,λM w g N B=>Y1 w B M g N f m a o L r x k b e j K _ 1 (.inr ⟨rfl,J⟩),λw0 O X G q u P Q Z=>(Rq Q).mono λv l=>?_,by have:=KZ k b e j;omega⟩;obtain⟨t,n,y,z,rfl,A,C⟩:=l;refine⟨_,_,_,λ_ _=>rfl,n,λbase v V p R S T=>?_⟩;exact eI w0 O.tb q P f m a x _ k b e j o (by omega) y z base v V (u.trans (p.mono u.size)) R ((p.block y (Array.getElem?_eq_some_iff.1 A).1).trans A) ((p.block z (Array.getElem?_eq_some_iff.1 C).1).trans C) T S (λ_ _=>rfl) λW _=>I W
theorem Xf(s:AB)(i:List AB)(F:s.size<=20000)(G:∀x∈i,x.size<=100000)(f m d:Int)(c:Ew f m d)(H:Dp 32 s={data:=#[102,109,97]}::i):GJ s ({data:=#[102,109,97]}::i) f m d:=
 CA s {data:=#[102,109,97]} i F H G f m d c (.tail _ (.tail _ (.tail _ (.tail _ (.head _))))) 6 3 kj rfl (by decide) (by decide) (λX I q h=>(VA h).mono λv l=>by
  obtain⟨t,n,-⟩:=l;exact⟨t,n⟩) λZ hR J h=>by
  obtain⟨x,y,z,rfl⟩:=oM J;obtain⟨k,b,e,j,o,K,L,M,r⟩:=gv f m x y z (h x (by simp)) (h y (by simp)) (h z (by simp));obtain⟨a,rfl⟩:∃a:Nat,d=(a:Int):=⟨d.toNat,by have:=c.2.2;omega⟩;have N:a<32:=by have:=c.2.2;omega
  refine⟨FI k b e j,bits .or .i64 (a:Int) (o:Int),⟨c.1,c.2.1,KC c.2.2 r⟩,λO w g P B=>kq w B O g P f m a o N r x y z k b e j M _ 3 ⟨rfl,L⟩,λw0 Q X I q u R S hS=>(VA S).mono λv l=>?_,by have:=KZ k b e j;omega⟩;obtain⟨t,n,A,C,rfl,D,E⟩:=l;refine⟨_,_,_,λ_ _=>rfl,n,λbase v V p T U Y=>?_⟩;exact l9 w0 Q.tb q R f m a x y z _ k b e j o (by omega) A C base v V (u.trans (p.mono u.size)) T ((p.block A (Array.getElem?_eq_some_iff.1 D).1).trans D) ((p.block C (Array.getElem?_eq_some_iff.1 E).1).trans E) Y U (λ_ _=>rfl) λW _=>K W
theorem NK(s:AB)(p:s.size<=20000)(f m h:Int)(c:AB)(d:List AB)(q:Dp 32 s=c::d)(j n:Nat)(r:GD c 13=(j:Int))(i:S6[j]?=some n)(t:d.length=n)(b:Nat)(w:AA)(u:ET w b f m h)(R:Ending->AA->Prop)
 (H:∀g e,js w s b g e n (j:Int) (XE w g e (c::d) b f m h) R):Calls prog 23 #[.pointer (some ⟨b,0,none⟩),.string s] w R:=
 O0 s p b f m h w u c d q R (λl X y z=>by
  exfalso;rcases l with l|⟨k,v,x,a,o⟩
  ·omega
  ·obtain rfl:j=k:=by omega
   rw[i] at a;injection a with a
   exact o (t.trans a)) (λk v x a o g e=>by
  obtain rfl:j=k:=by omega
  rw[i] at a;injection a with a
  subst a;exact H g e) (.inr ⟨j,n,r,i⟩)
theorem kX:∀k:Nat,k<33->(El ((k:Int)-1)).size<=100:=by decide+kernel
theorem jZ(n:Int)(h:-1<=n/\n<32):(El n).size<=100:=by
 have:=kX (n+1).toNat (by omega);rwa[show(((n+1).toNat:Nat):Int)-1=n by omega] at this
theorem YY(U:Nat):(YX U).size=16:=Ea 16 U
theorem kM{x:AB}{n:Int}(h:Ue x=some n):n=64\/n=128:=by
 unfold Ue at h;split at h
 ·injection h with h;exact .inl h.symm
 ·split at h
  ·injection h with h;exact .inr h.symm
  ·cases h
theorem ks{x:AB}{n:Int}(h:XJ x=some n):1<=n/\n<=5:=by
 unfold XJ at h
 repeat' split at h
 all_goals first|(injection h with h;omega)|cases h
theorem OC(s:AB)(b:List AB)(o:s.size<=20000)(p:∀x∈b,x.size<=20000)(f m a:Int)(d:Ew f m a)(q:Dp 32 s={data:=#[99,111,109,112,97,114,101]}::b):GJ s ({data:=#[99,111,109,112,97,114,101]}::b) f m a:=
 CA s {data:=#[99,111,109,112,97,114,101]} b o q (λx t=>DT (p x t) (by decide)) f m a d (.tail _ (.tail _ (.tail _ (.tail _ (.tail _ (.tail _ (.tail _ (.tail _ (.head _))))))))) 10 2 gR rfl (by decide) (by decide) (λX u e h=>(KV h).mono λv c=>⟨_,c⟩) λH I z h=>by
  obtain⟨x,y,rfl⟩:=WL z;have i:=A3 (Am (h x (by simp))).2;have j:=A3 (Am (h y (by simp))).2;have J:=me f x.1 x.2.1 x.2.2.1 x.2.2.2 y.1 y.2.1 y.2.2.1 y.2.2.2;refine⟨El (US f x y),a,d,λA w g C B=>TO w B A g C f m a x y (US f x y) (by show -7<=UT _ _ _ _ _ _ _ _ _/\UT _ _ _ _ _ _ _ _ _<=7;omega) 2 λW=>PZ f _ _ _ _ _ _ _ _ W i j,λw0 D X u e k K E L=>(KV E).mono λv c=>?_,DT (jZ _ (by show -1<=UT _ _ _ _ _ _ _ _ _/\UT _ _ _ _ _ _ _ _ _<32;omega)) (by decide)⟩;refine⟨_,_,_,λ_ _=>rfl,c,λbase v V F l M G=>?_⟩;refine(OH w0 D.tb e f m a x y i j (by show -7000<=UT _ _ _ _ _ _ _ _ _/\UT _ _ _ _ _ _ _ _ _<=7000;omega) base v V (k.trans (F.mono k.size)) l G).mono ?_;rintro r N ⟨rfl,n⟩;exact⟨rfl,l.next n,CY n _⟩
theorem Vj(s:AB)(l:List AB)(E:s.size<=20000)(F:∀x∈l,x.size<=20000)(f m b:Int)(n:Ew f m b)(G:Dp 32 s={data:=#[119,111,114,100]}::l):GJ s ({data:=#[119,111,114,100]}::l) f m b:=
 CA s {data:=#[119,111,114,100]} l E G (λx H=>DT (F x H) (by decide)) f m b n (.tail _ (.tail _ (.tail _ (.tail _ (.tail _ (.tail _ (.tail _ (.tail _ (.tail _ (.head _)))))))))) 11 1 gS rfl (by decide) (by decide) (λX C o h=>(MK h).mono λv d=>⟨_,d⟩) λO P I h=>by
  obtain⟨x,rfl⟩:=kp I;have D:NY f x=true:=h x (by simp);rcases n.1 with rfl|rfl
  ·obtain⟨a,e,c⟩:=Lq 64 _ _ _ _ 8 5 398 (.inl ⟨rfl,rfl,rfl,rfl⟩) D;have p:=Lz 8 5 398 x.1 x.2.1 x.2.2.1 a (by decide) c;have J:(Dd 8 5 398 x.1 x.2.1 x.2.2.1 a)<18446744073709551616:=p.2;refine⟨YX (Dd 8 5 398 x.1 x.2.1 x.2.2.1 a).toNat,b,n,λr w g t B=>WQ w B r g t m b x _ (by omega) 1 λW=>?_,λw0 u X C o i K y L=>(MK y).mono λv d=>?_,by rw[YY];decide⟩
   ·have q:=Rz x.1 x.2.1 x.2.2.1 a W c;rw[<-e] at q;rw[Int.toNat_of_nonneg p.1];exact q
   ·refine⟨_,_,_,λ_ _=>rfl,d,λbase v V z j M A=>?_⟩;refine cm (Wj w0 u.tw o m b x a e c base v V (i.trans (z.mono i.size)) j A) λN k=>?_;exact⟨rfl,j.next k,CY k _⟩
  ·obtain⟨a,e,c⟩:=Lq 128 _ _ _ _ 12 11 6176 (.inr ⟨rfl,rfl,rfl,rfl⟩) D;have p:=Lz 12 11 6176 x.1 x.2.1 x.2.2.1 a (by decide) c;have J:(Dd 12 11 6176 x.1 x.2.1 x.2.2.1 a)<340282366920938463463374607431768211456:=p.2;refine⟨YX (Dd 12 11 6176 x.1 x.2.1 x.2.2.1 a/18446744073709551616).toNat++YX (Dd 12 11 6176 x.1 x.2.1 x.2.2.1 a%18446744073709551616).toNat,b,n,λr w g t B=>TU w B r g t m b x _ _ (by omega) (by omega) 1 λW=>?_,λw0 u X C o i K y L=>(MK y).mono λv d=>?_,by rw[ByteArray.size_append,YY,YY];decide⟩
   ·have q:=Pb x.1 x.2.1 x.2.2.1 a W c;rw[<-e] at q;rw[Int.toNat_of_nonneg (by omega),Int.toNat_of_nonneg (by omega)];exact q
   ·refine⟨_,_,_,λ_ _=>rfl,d,λbase v V z j M A=>?_⟩;refine cm (Tk w0 u.tw o m b x a e c base v V (i.trans (z.mono i.size)) j A) λN k=>?_;exact⟨rfl,j.next k,CY k _⟩
theorem Sd(s:AB)(b:List AB)(j:s.size<=20000)(J:∀x∈b,x.size<=20000)(f m c:Int)(d:Ew f m c)(k:Dp 32 s={data:=#[102,108,97,103,115]}::b):GJ s ({data:=#[102,108,97,103,115]}::b) f m c:=by
 by_cases l:b.length=0
 ·obtain rfl:=List.length_eq_zero_iff.1 l;obtain⟨a,rfl⟩:∃a:Nat,c=(a:Int):=⟨c.toNat,by have:=d.2.2;omega⟩;have r:a<32:=by have:=d.2.2;omega
  refine⟨El a,f,m,0,⟨d.1,d.2.1,by decide,by decide⟩,Ty s j f m a {data:=#[102,108,97,103,115]} [] k 12 0 Um rfl rfl (El a) f m 0 λt w g u=>Y0 s t g u f m a r w,λw0 y X n e o z A K=>?_,DT (jZ _ (by omega)) (by decide)⟩;obtain⟨B,C,i,v,D,E,F,rfl⟩:=Np A;refine MC X n e f m a f m 0 {data:=#[102,108,97,103,115]} [] (El a) B C 0 i _ _ _ (λ_ _=>rfl) (by decide) rfl D E F (.string (El a)) .nilIface (.inl rfl) λY Z p L G q=>?_;have H:=p.trans (q.mono p.size);exact NE w0 y.tb e z f m a (by omega) _ Z (o.trans (H.mono o.size)) (G.next q)
 ·exact FV s {data:=#[102,108,97,103,115]} b j k f m c d 12 0 Um rfl l (by decide) λX n e h=>(Np h).mono λv I=>⟨_,_,_,I⟩
theorem QE(s:AB)(o:List AB)(C:s.size<=20000)(M:∀x∈o,x.size<=20000)(f m a:Int)(r:Ew f m a)(D:Dp 32 s={data:=#[102,111,114,109,97,116]}::o):GJ s ({data:=#[102,111,114,109,97,116]}::o) f m a:=by
 by_cases E:o.length=1
 ·obtain⟨x,rfl⟩:∃x,o=[x]:=by
   match o,E with
   |[x],_=>exact⟨x,rfl⟩
  have N:x.size<=20000:=M x (by simp);have t:∀j k l,(∀c w e b,Z7 (Ue x) (ET b c f m a) (λn=>ET b c n m a) e->w.grownBy b (some c)->WO j w c k l a e b)->SL s f m a j k l a:=λj k l y=>
   λc w F=>(NK s C f m a {data:=#[102,111,114,109,97,116]} [x] D 0 1 Yp rfl rfl c w F _ λg O=>WP s c g O f m a w x N).mono λe b G=>y c w e b G.1 G.2
  have u:∀j k l A B,X1 j (.returned (.tuple #[A,B]))->(∀e (b:AA) d,iq (Ue x) x (St b d f m a) (λn=>St b d n m a) e->e=.returned (.tuple #[A,B])/\St b d k l a)->PL ({data:=#[102,111,114,109,97,116]}::[x]) f m a j k l a:=λj k l A B P y w0 H X I d J af Q F=>by
   obtain⟨R,S,i,v,p,q,T,rfl⟩:=MJ Q;refine MC X I d f m a k l a {data:=#[102,111,114,109,97,116]} [x] j R S 1 i _ _ _ (λ_ _=>rfl) (by decide) rfl p q T A B P λY Z K U V z=>?_;have W:=K.trans (z.mono K.size);have L:=J.trans (W.mono J.size);refine(ND d f m a X.heap.size 1 1 x (by omega) Z (V.next z) ((U.next z).tl) (H Z L).2.2.2.2.2.2 (H Z L).1).mono ?_;rintro e b ⟨q1,q2⟩;obtain⟨q3,q4⟩:=y e b d q1;exact⟨q3,q4,q2⟩
  cases hc:Ue x with
  |some n=>
   rw[hc] at t u;exact⟨nE,n,m,a,⟨kM hc,r.2.1,r.2.2⟩,t _ _ _ λc w e b p q=>⟨p.1,p.2,q⟩,u _ _ _ (.string nE) .nilIface (.inl rfl) λe b d h=>⟨h.1,h.2⟩,by decide⟩
  |none=>
   rw[hc] at t u;exact⟨ey,f,m,a,r,t _ _ _ λc w e b p q=>⟨p.1,p.2,q⟩,u _ _ _ (.string ⟨#[]⟩) (Jm x 2) (.inr ⟨x,2,.inr rfl,rfl,kK.symm⟩) λe b d h=>⟨h.1,h.2⟩,by decide⟩
 ·exact FV s {data:=#[102,111,114,109,97,116]} o C D f m a r 0 1 Yp rfl E (by decide) λX I d h=>(MJ h).mono λv hv=>⟨_,_,_,hv⟩
theorem Vf(s:AB)(o:List AB)(C:s.size<=20000)(M:∀x∈o,x.size<=20000)(f m a:Int)(r:Ew f m a)(D:Dp 32 s={data:=#[109,111,100,101]}::o):GJ s ({data:=#[109,111,100,101]}::o) f m a:=by
 by_cases E:o.length=1
 ·obtain⟨x,rfl⟩:∃x,o=[x]:=by
   match o,E with
   |[x],_=>exact⟨x,rfl⟩
  have N:x.size<=20000:=M x (by simp);have t:∀j k l,(∀c w e b,Z7 (XJ x) (ET b c f m a) (λn=>ET b c f n a) e->w.grownBy b (some c)->WO j w c k l a e b)->SL s f m a j k l a:=λj k l y=>
   λc w F=>(NK s C f m a {data:=#[109,111,100,101]} [x] D 1 1 Yq rfl rfl c w F _ λg O=>gX s c g O f m a w x N).mono λe b G=>y c w e b G.1 G.2
  have u:∀j k l A B,X1 j (.returned (.tuple #[A,B]))->(∀e (b:AA) d,iq (XJ x) x (St b d f m a) (λn=>St b d f n a) e->e=.returned (.tuple #[A,B])/\St b d k l a)->PL ({data:=#[109,111,100,101]}::[x]) f m a j k l a:=λj k l A B P y w0 H X I d J af Q F=>by
   obtain⟨R,S,i,v,p,q,T,rfl⟩:=Rp Q;refine MC X I d f m a k l a {data:=#[109,111,100,101]} [x] j R S 1 i _ _ _ (λ_ _=>rfl) (by decide) rfl p q T A B P λY Z K U V z=>?_;have W:=K.trans (z.mono K.size);have L:=J.trans (W.mono J.size);refine(R4 d f m a X.heap.size 1 1 x (by omega) Z (V.next z) ((U.next z).tl) (H Z L).2.2.2.2.2.2 (H Z L).1).mono ?_;rintro e b ⟨q1,q2⟩;obtain⟨q3,q4⟩:=y e b d q1;exact⟨q3,q4,q2⟩
  cases hc:XJ x with
  |some n=>
   rw[hc] at t u;exact⟨nE,f,n,a,⟨r.1,ks hc,r.2.2⟩,t _ _ _ λc w e b p q=>⟨p.1,p.2,q⟩,u _ _ _ (.string nE) .nilIface (.inl rfl) λe b d h=>⟨h.1,h.2⟩,by decide⟩
  |none=>
   rw[hc] at t u;exact⟨ey,f,m,a,r,t _ _ _ λc w e b p q=>⟨p.1,p.2,q⟩,u _ _ _ (.string ⟨#[]⟩) (Jm x 2) (.inr ⟨x,2,.inr rfl,rfl,kK.symm⟩) λe b d h=>⟨h.1,h.2⟩,by decide⟩
 ·exact FV s {data:=#[109,111,100,101]} o C D f m a r 1 1 Yq rfl E (by decide) λX I d h=>(Rp h).mono λv hv=>⟨_,_,_,hv⟩
theorem WN(s:AB)(d:s.size<=20000)(j:AB)(a:List AB)(e:Dp 32 s=j::a)(i:∀x∈a,x.size<=20000)(f m b:Int)(g:Ew f m b):GJ s (j::a) f m b:=by
 rcases Yr j with h|h
 ·exact Vh s j a d e f m b g h
 ·unfold Mx at h;simp only[List.mem_cons,List.not_mem_nil,or_false] at h;rcases h with rfl|rfl|rfl|rfl|rfl|rfl|rfl|rfl|rfl|rfl|rfl|rfl|rfl
  ·exact QE s a d i f m b g e
  ·exact Vf s a d i f m b g e
  ·exact Xd s a d (λx c=>DT (i x c) (by decide)) f m b g e
  ·exact Xh s a d (λx c=>DT (i x c) (by decide)) f m b g e
  ·exact Xg s a d (λx c=>DT (i x c) (by decide)) f m b g e
  ·exact Xe s a d (λx c=>DT (i x c) (by decide)) f m b g e
  ·exact Xf s a d (λx c=>DT (i x c) (by decide)) f m b g e
  ·exact Vi s a d (λx c=>DT (i x c) (by decide)) f m b g e
  ·exact Mj s a d (λx c=>DT (i x c) (by decide)) f m b g e
  ·exact Vg s a d (λx c=>DT (i x c) (by decide)) f m b g e
  ·exact OC s a d i f m b g e
  ·exact Vj s a d i f m b g e
  ·exact Sd s a d i f m b g e
abbrev pE:Type:=Int×Int×Int
def LN(x:pE):Prop:=Ew x.1 x.2.1 x.2.2
def n7(l:AB)(x:pE)(a:AB)(y:pE):Prop:=SL l x.1 x.2.1 x.2.2 a y.1 y.2.1 y.2.2/\PL (Dp 32 l) x.1 x.2.1 x.2.2 a y.1 y.2.1 y.2.2/\a.size<=200000
theorem eF(x:pE)(l:AB):∃r:pE×AB,LN x->l.size<=20000->LN r.1/\n7 l x r.2 r.1:=by
 by_cases h:LN x/\l.size<=20000
 ·obtain⟨e,d,c⟩:=RZ 32 l;have f:∀y∈d,y.size<=20000:=λy g=>DT (RY 32 l y (by rw[c];exact .tail _ g)) h.2;obtain⟨i,j,k,m,n,o,p,q⟩:=WN l h.2 e d c f x.1 x.2.1 x.2.2 h.1;exact⟨((j,k,m),i),λ_ _=>⟨n,o,by rw[c];exact p,q⟩⟩
 ·exact⟨((0,0,0),⟨#[]⟩),λa b=>absurd ⟨a,b⟩ h⟩
def n9(P:List AB)(b:Nat->pE)(a:Nat->AB):Prop:=b 0=(64,1,0)/\∀k l,P[k]?=some l->(l.size=0->b (k+1)=b k)/\(l.size≠0->n7 l (b k) (a k) (b (k+1)))
theorem mC(P:List AB)(m:∀l∈P,l.size<=20000):∃b a,n9 P b a:=by
 let g:=λx l=>Classical.choose (eF x l)
 have d:∀x l,LN x->l.size<=20000->LN (g x l).1/\n7 l x (g x l).2 (g x l).1:=λx l=>Classical.choose_spec (eF x l)
 let b:Nat->pE:=λk=>Nat.rec (64,1,0) (λk x=>if (P.getD k ⟨#[]⟩).size=0 then x else(g x (P.getD k ⟨#[]⟩)).1) k
 have f:∀k,b (k+1)=if (P.getD k ⟨#[]⟩).size=0 then b k else(g (b k) (P.getD k ⟨#[]⟩)).1:=λk=>rfl
 have i:∀k,(P.getD k ⟨#[]⟩).size<=20000:=λk=>by
  rw[List.getD_eq_getElem?_getD];cases h:P[k]? with
  |none=>decide
  |some l=>exact m l (List.mem_of_getElem? h)
 have n:∀k,LN (b k):=λk=>by
  induction k with
  |zero=>
   have z:LN (64,1,0):=⟨.inl rfl,by decide,by decide,by decide⟩;exact z
  |succ k ih=>
   rw[f];split
   ·exact ih
   ·exact(d _ _ ih (i k)).1
 refine⟨b,λk=>(g (b k) (P.getD k ⟨#[]⟩)).2,rfl,λk l o=>?_⟩;have e:P.getD k ⟨#[]⟩=l:=by rw[List.getD_eq_getElem?_getD,o];rfl
 have j:=i k;have c:=f k;rw[e] at j c;refine⟨λh=>by rw[c,zyp h],λh=>?_⟩;rw[c,zyn h];show n7 l (b k) (g (b k) (P.getD k ⟨#[]⟩)).2 (g (b k) l).1
 rw[e];exact(d _ _ (n k) j).2
def oK(P:List AB)(a:Nat->AB):Nat->List UInt8
 |0=>[]
 |k+1=>if (P.getD k ⟨#[]⟩).size=0 then oK P a k else oK P a k++(a k).data.toList++[10]
theorem ZM(P:List AB)(d:Nat->pE)(a:Nat->AB)(h:n9 P d a)(k:Nat)(g:k<=P.length):(oK P a k).length<=k*200001:=by
 induction k with
 |zero=>exact B9 _
 |succ k ih=>
  have:=ih (by omega);rw[oK,Nat.succ_mul];generalize k*200001=M at*
  split
  ·omega
  ·rename_i b;have c:P[k]?=some P[k]:=Dq (by omega);rw[List.getD_eq_getElem?_getD,c] at b;have q:=((h.2 k _ c).2 b).2.2;have e:(a k).data.toList.length=(a k).size:=Array.length_toList;have f:([10]:List UInt8).length=1:=rfl;rw[Dc,Dc,e,f];generalize (oK P a k).length=A at*
   generalize (a k).size=B at*
   omega
theorem Q3(s:AB)(a:List AB)(x:AB)(n:Nat)(w:AA)(c:s.size<4294967281)(d:a.length=n)(k:n<=100000)(f:Dp 10 s=a++[x]):
 Calls prog 13 #[.string s] w λe j=>e=.returned (.slice (some ⟨w.heap.size,0,none⟩) (if x.toList.isEmpty then n else n+1) (n+1))/\j=w.alloc (.cells ((a++[x]).map Value.string).toArray 9):=by
 have b:=Ns s 10 w c;rw[<-Uz,f] at b;have g:((a++[x]).map λx:AB=>x.data.toList).length=n+1:=by simp[d]
 have h:(((a++[x]).map λx:AB=>x.data.toList).map λl:List UInt8=>Value.string ⟨l.toArray⟩)=(a++[x]).map Value.string:=by
  rw[List.map_map];rfl
 rw[g,h] at b;have i:=Ao w (.cells ((a++[x]).map Value.string).toArray 9);have m:(w.alloc (.cells ((a++[x]).map Value.string).toArray 9)).cell? ⟨w.heap.size,n,none⟩=some (.string x):=by
  rw[AO i n,List.getElem?_toArray,List.getElem?_map,List.getElem?_append_right (by omega)];simp[d]
 clear f g h i c;generalize (.cells ((a++[x]).map Value.string).toArray 9:Obj)=o at*
 cases hx:x.toList.isEmpty with
 |true=>
  go_enter func13,ntmps13;go_wp2_with fail;refine b.mono ?_;rintro e p ⟨rfl,rfl⟩;clear b;go_wp2;go_ret;exact⟨rfl,rfl⟩
 |false=>
  go_enter func13,ntmps13;go_wp2_with fail;refine ce b ?_;clear b;go_wp2;go_ret;exact⟨rfl,rfl⟩
def Me(w b:AA)(m a B:Nat)(x:pE)(o:List UInt8)(X:AA):Prop:=Kt b X/\BF X m a/\St X a x.1 x.2.1 x.2.2/\Lib.IsBuilderF 37 5 B B (Lib.byteCells o) X/\AD w.heap.size w X/\B<=X.heap.size
theorem Me.say{w d X c:AA}{m a B:Nat}{x y:pE}{o:List UInt8}(h:Me w d m a B x o X)(f:St c a y.1 y.2.1 y.2.2)(b:X.grownBy c (some a))(g:a<B)(i:w.heap.size<=a):Me w d m a B y o c:=by
 obtain⟨j,k,l,n,p,q⟩:=h;have e:=Kt.of b l;exact⟨j.trans e,k.next e,f,YN n b g,Fd p b i,DT q b.size⟩
theorem Me.put{w d X e:AA}{m b B:Nat}{x:pE}{o:List UInt8}{a:AB}(h:Me w d m b B x o X)(g:fL B B (Lib.byteCells o++Lib.strCells a) X e)(i:b<B)(j:w.heap.size<=B):Me w d m b B x (o++a.data.toList) e:=by
 obtain⟨k,l,n,p,q,r⟩:=h;obtain⟨s,c,t⟩:=g;obtain⟨cs,fr,u⟩:=UM p;have f:=Kt.oth t u;refine⟨k.trans f,l.next f,(c.block b i).trans n,.inr ?_,q.trans (c.mono j),DT r c.size⟩;rw[Lib.byteCells_append];exact s
theorem OL(l:AB):l.toList.isEmpty=decide (l.size=0):=by
 have e:l.toList.length=l.size:=by rw[ByteArray.toList_eq,Array.length_toList];rfl
 rw[<-e];cases l.toList<;>simp
theorem Sa(s:AB)(w:AA)(h:20000<s.size)(a:s.size<4294967281):cB 10 #[.string s] w (.string ⟨#[]⟩):=by
 go_enter func10,ntmps10;go_wp2;go_ret;exact⟨rfl,BI _ _⟩
theorem Sb(s:AB)(w:AA)(f:s.size<=20000)(n b:Nat)(g:200<n)(h:n<=100000)(c:Obj)(a:Calls prog 13 #[.string s] w λe d=>e=.returned (.slice (some ⟨w.heap.size,0,none⟩) n b)/\d=w.alloc c):cB 10 #[.string s] w (.string ⟨#[]⟩):=by
 go_enter func10,ntmps10;go_wp2_with fail;refine ce a ?_;clear a;go_wp2;go_ret;exact⟨rfl,bA⟩
theorem Ve(w:AA)(M:TA w)(s:AB)(hs:s.size<=20000)(L:List AB)(n:Nat)(hn:L.length=n)(aK:n<=200)(hz:∀l∈L,l.size<=20000)(b:Nat->pE)(a:Nat->AB)(h:n9 L b a)(N:Nat)(ar:n<=N/\N<=100000)(cs:Array AK)(ab:∀(k:Nat) (l:AB),L[k]?=some l->cs[k]?=some (Value.string l))
 (hL:Calls prog 13 #[.string s] w λe y=>e=.returned (.slice (some ⟨w.heap.size,0,none⟩) n N)/\y=w.alloc (.cells cs 9)):
 cB 10 #[.string s] w (.string ⟨(oK L a n).toArray⟩):=by
 have z:AD w.heap.size w (w.alloc (.cells cs 9)):=bA;have ad:=Ao w (.cells cs 9);have O:(w.alloc (.cells cs 9)).heap.size=w.heap.size+1:=by simp
 have p:Hid (∀X:AA,Kt (w.alloc (.cells cs 9)) X->∀k l,L[k]?=some l->X.cell? ⟨w.heap.size,k,none⟩=some (.string l)):=λX hK k l g=>by
  have q:=hK _ _ ad (λcs fr e=>by simp at e) (λcs fr e=>by simp at e) (λcs fr e=>by simp at e);rw[AO q k];exact ab k l g
 have A:Hid (∀k l,L[k]?=some l->l.size≠0->∀r c X,w.heap.size<=c->AD w.heap.size w X->BF X r c->St X c (b k).1 (b k).2.1 (b k).2.2->Calls prog 16 #[.map (some r),.string l] X λe y=>e=.returned (.string (a k))/\St y c (b (k+1)).1 (b (k+1)).2.1 (b (k+1)).2.2/\X.grownBy y (some c)):=λk l g av r c X t q C hS=>by
  have u:=hz l (List.mem_of_getElem? g);obtain⟨-,hP,-⟩:=(h.2 k l g).2 av;exact OA r c _ _ _ _ _ _ l (Dp 32 l) (a k) X (by omega) (Uz 32 l).symm hS (λY hY=>⟨(M Y (Fd q hY t)).2.2.2.2.2.1,(M Y (Fd q hY t)).1⟩) (hP w M X r c q t C hS)
 have D:Hid (∀k,k<n->∃l,L[k]?=some l/\l.toList.isEmpty=decide (l.size=0)/\(l.size=0->b (k+1)=b k/\oK L a (k+1)=oK L a k)/\(l.size≠0->(a k).size<=200000/\oK L a (k+1)=oK L a k++(a k++⟨#[10]⟩:AB).data.toList)):=λk g=>by
  have P:k<L.length:=by omega
  have u:L[k]?=some L[k]:=Dq P;have e:L.getD k ⟨#[]⟩=L[k]:=by rw[List.getD_eq_getElem?_getD,u];rfl
  refine⟨L[k],u,OL _,λv=>⟨(h.2 k _ u).1 v,?_⟩,λv=>⟨((h.2 k _ u).2 v).2.2,?_⟩⟩
  ·rw[oK,e,zyp v]
  ·rw[oK,e,zyn v,ByteArray.data_append,Array.toList_append,List.append_assoc]
 have E:Hid (∀k,k<=n->(oK L a k).length<=40000200):=λk g=>by
  have P:=ZM L b a h k (by omega);have h2:k*200001<=200*200001:=Nat.mul_le_mul_right _ (by omega);have h3:200*200001=40000200:=by decide
  rw[h3] at h2;exact DT P h2
 have ah:=h.1;obtain⟨aL,aM⟩:=ar;clear hz h ab;go_enter func10,ntmps10;go_wp2_with fail;refine cm hL λd ai=>?_;rw[<-ai] at z O p;clear hL ai ad;have Q:=Ao d (.cells #[.int .i64 64,.int .i64 1,.int .i64 0] 32);rw[O] at Q;have R:Hid (St (d.alloc (.cells #[.int .i64 64,.int .i64 1,.int .i64 0] 32)) (w.heap.size+1) (b 0).1 (b 0).2.1 (b 0).2.2/\Kt d (d.alloc (.cells #[.int .i64 64,.int .i64 1,.int .i64 0] 32))/\AD w.heap.size w (d.alloc (.cells #[.int .i64 64,.int .i64 1,.int .i64 0] 32))/\w.heap.size+1<(d.alloc (.cells #[.int .i64 64,.int .i64 1,.int .i64 0] 32)).heap.size):=
  ⟨by rw[ah];exact Q,Kt.bel bA,z.alloc z.size _,by simp;omega⟩
 clear Q z;go_wp2_with fail;refine(Z0 _ _).mono ?_;rintro e j ⟨m,rfl,C,o⟩;have HI:Hid (Me w d m (w.heap.size+1) j.heap.size (b 0) (oK L a 0) (j.alloc (.cells #[.pointer none,.slice none 0 0] 37))):=by
  obtain⟨S,T,U,q4⟩:=R.out;have F:AD j.heap.size j (j.alloc (.cells #[.pointer none,.slice none 0 0] 37)):=bA;refine⟨T.trans ((Kt.bel o).trans (Kt.bel F)),C.next (Kt.bel F),(S.next o).next F,.inl ⟨AS _,_,Ao _ _,World.ownsRowF_nil _ _ _ _,by simp[Value.ownBlock]⟩,(U.trans (o.mono U.size)).trans (F.mono (DT U.size o.size)),by simp⟩
 have ak:=DU R.2.2.2 o.size;generalize ay:j.heap.size=B at*
 clear C o R ah;go_upto_region 9 with fail;generalize t:w.heap.size+1=c at*
 have al:w.heap.size<=c:=by omega
 clear t O ay;go_wp2;go_loopw [21] (λi wr=>∃k:Nat,k<=n/\i=.int .i64 k/\Hid (Me w d m c B (b k) (oK L a k) wr)) (λi _=>n-(intOf i).toNat);case atStart=>exact⟨0,B9 _,rfl,HI⟩
 case round=>
  clear HI;obtain⟨k,g,rfl,f⟩:=hrel;by_cases az:k<n
  ·obtain⟨l,G,H,V,W⟩:=D k az;have aO:(k:Int)<(n:Int):=by omega
   have aA:=p wr f.1 k l G;by_cases x:l.size=0
   ·have aB:l.toList.isEmpty=true:=by rw[H];exact Bz x
    have Z:Hid (Me w d m c B (b (k+1)) (oK L a (k+1)) wr):=by
     obtain⟨S,T⟩:=V x;rw[Hid,S,T];exact f
    clear D p A G H V W E f;go_wp2;go_roundw;case rel=>exact⟨k+1,by omega,by go_num,Z⟩
    case measure=>simp[intOf];omega
   ·have aB:l.toList.isEmpty=false:=by rw[H];exact By x
    have am:=zq (A k l G x m c wr al f.2.2.2.2.1 f.2.1 f.2.2.1);obtain⟨aP,aC⟩:(a k).size<=200000/\Hid (oK L a (k+1)=oK L a k++(a k++⟨#[10]⟩:AB).data.toList):=W x;have ho:=E k g;generalize a k=I at*
    have sA:(I.size:Int)<=200000:=by omega
    have s1:(⟨#[10]⟩:AB).size=1:=rfl;have sB:(I++⟨#[10]⟩:AB).size=I.size+1:=by rw[ByteArray.size_append];rfl
    clear D p A G H V W E;go_wp2_with fail;refine am.mono ?_;rintro e w5 ⟨rfl,an,ao⟩;have J:=zq (f.say an ao ak al);clear an ao f am aA;go_wp2_with fail;have aE:=SW B B (Lib.byteCells (oK L a k)) (I++⟨#[10]⟩) w5 J.2.2.2.1 (by rw[Lib.byteCells_length];omega) J.2.2.2.2.2;refine cm aE λw6 hq=>?_;have Z:Hid (Me w d m c B (b (k+1)) (oK L a (k+1)) w6):=by
     have:=J.put hq ak (by omega);rw[Hid,aC];exact this
    clear hq J;go_wp2;go_roundw;case rel=>exact⟨k+1,by omega,by go_num,Z⟩
    case measure=>simp[intOf];omega
  ·have aG:k=n:=by omega
   subst aG;have K:=zq f;clear f D p A E;go_wp2_with fail;refine(Tryz.Builder_String_any_k B B (oK L a k) wr K.2.2.2.1 K.2.2.2.2.2).mono ?_;rintro e w7 ⟨rfl,-,aq,-⟩;have H7:=zq (K.2.2.2.2.1.trans (aq.mono (by omega)));clear aq K;go_wp2;go_ret;exact⟨rfl,H7⟩
def BV(s:AB):List AB:=if ((Dp 10 s).getLast?.getD ⟨#[]⟩).size=0 then(Dp 10 s).dropLast else Dp 10 s
theorem Jt{s:AB}{a:List AB}{x:AB}(h:Dp 10 s=a++[x]):(x.size=0->BV s=a)/\(x.size≠0->BV s=a++[x]):=by
 unfold BV;rw[h];simp only[List.getLast?_append,List.getLast?_singleton,Option.some_or,Cd,List.dropLast_concat];exact⟨λq=>zyp q,λq=>zyn q⟩
theorem R2(s:AB)(w:AA)(h:20000<s.size)(a:s.size<4294967281):cB 12 #[.string s] w (.string ⟨#[]⟩):=by
 go_enter func12,ntmps12;go_wp2;go_ret;exact⟨rfl,BI _ _⟩
theorem Uo(s:AB):(BV s).length<=s.size+1:=by
 have:=LC 10 s;unfold BV;split
 ·rw[List.length_dropLast];omega
 ·exact this
theorem Ej.form0{w:AA}{base:Nat}{v:AK}{c:List AB}(h:Ej w base v c):∃d a,v=.slice d c.length a/\∀i x,c[i]?=some x->∃g,d=some ⟨g,0,none⟩/\g<w.heap.size/\base<=g/\w.cell? ⟨g,i,none⟩=some (.string x):=by
 by_cases e:0<c.length
 ·obtain⟨g,a,rfl,f,j,k⟩:=h.form e;exact⟨_,a,rfl,λi x b=>⟨g,rfl,f,j,k i x b⟩⟩
 ·rcases h.2 with⟨rfl,l⟩|⟨g,a,m,rfl,-⟩
  ·exact⟨none,0,by rw[l],λi x b=>absurd (List.getElem?_eq_some_iff.1 b).1 (by omega)⟩
  ·exact⟨_,a,rfl,λi x b=>absurd (List.getElem?_eq_some_iff.1 b).1 (by omega)⟩
def eu(w:AA)(P:List AB)(b:Option Addr)(a:Nat)(x:pE)(v:AK)(o:List UInt8)(X:AA):Prop:=
 (∀(i:Nat) (l:AB),P[i]?=some l->∃g,b=some ⟨g,0,none⟩/\g<a/\X.cell? ⟨g,i,none⟩=some (.string l))/\ET X a x.1 x.2.1 x.2.2/\Df X (a+1) v o/\AD w.heap.size w X/\w.heap.size<=a/\a<X.heap.size
theorem eu.say{w:AA}{P:List AB}{c:Option Addr}{a:Nat}{x y:pE}{v:AK}{o:List UInt8}{X Y:AA}(h:eu w P c a x v o X)(b:X.grownBy Y (some a))(n:ET Y a y.1 y.2.1 y.2.2):eu w P c a y v o Y:=by
 obtain⟨p,A,d,f,j,r⟩:=h;refine⟨λi l s=>?_,n,?_,Below.grown f b f.size (λk t=>by cases t;exact j),j,DU r b.size⟩
 ·obtain⟨g,e,u,m⟩:=p i l s;refine⟨g,e,u,?_⟩;have z:=b.block g (by omega) (λq=>by have:=Gy q;omega);unfold World.cell? at m ⊢;simp only[z];exact m
 ·exact World.ownsRow.kept d b (.inr λq=>by have:=(World.ownsRow.lt d _ q).1;omega)
theorem eu.put{w:AA}{P:List AB}{c:Option Addr}{a:Nat}{x:pE}{v d:AK}{o f:List UInt8}{X Y:AA}(h:eu w P c a x v o X)(b:X.grownBy Y v.ownBlock)(t:Df Y (a+1) d f):eu w P c a x d f Y:=by
 obtain⟨u,y,j,m,z,n⟩:=h;have p:∀k,k<=a->some k≠v.ownBlock:=λk r q=>by have:=(World.ownsRow.lt j _ q.symm).1;omega
 refine⟨λi l A=>?_,(b.block a n (p a (AS _))).trans y,t,Below.grown m b m.size (λk r=>by have:=(World.ownsRow.lt j _ r).1;omega),z,DU n b.size⟩;obtain⟨g,e,B,s⟩:=u i l A;refine⟨g,e,B,?_⟩;have C:=b.block g (by omega) (p g (by omega));unfold World.cell? at s ⊢;simp only[C];exact s
theorem ic{w:AA}{base:Nat}{v:AK}{L:List UInt8}{t:AB}(h:w.ownsRow base 5 1 v (L.length+t.size) (SX L++Lib.strCells t)):Df w base v (L++t.data.toList):=by
 have e:t.data.toList.length=t.size:=Array.length_toList;unfold Df;rw[Dc,e];have a:SX (L++t.data.toList)=SX L++Lib.strCells t:=by unfold SX Lib.strCells;rw[List.map_append]
 rw[a];exact h
theorem ML(s:AB)(w:AA)(hs:s.size<=20000)(A:Nat->pE)(a:Nat->AB)(W:n9 (BV s) A a)(H:∀l∈BV s,l.size<=20000)(R:Ending->AA->Prop)
 (Y:200<(BV s).length->∀X,AD w.heap.size w X->R (.returned (.string ⟨#[]⟩)) X)
 (Z:(BV s).length<=200->∀X,AD w.heap.size w X->R (.returned (.string ⟨(oK (BV s) a (BV s).length).toArray⟩)) X):
 Calls prog 12 #[.string s] w R:=by
 have M:=zq Y;have D:=zq Z;have n:=zq W;clear Y Z W H;have aM:=Uo s;obtain⟨i0,hi,H,ac,ad⟩:=info_parts Uk;have ae:Hid (Ej (w.alloc (.cells #[] 9)) w.heap.size (.slice (some ⟨w.heap.size,0,none⟩) 0 0) []/\AD w.heap.size w (w.alloc (.cells #[] 9))):=⟨Ro w,bA⟩;go_enter func12,ntmps12;go_wp2;go_loopw [3,4,5] (λv a i wr=>∃(q p:Nat) (c:List AB),i=.int .i64 (q:Int)/\a=.int .i64 (p:Int)/\Hid (Ej wr w.heap.size v c/\AD w.heap.size w wr)/\Hid ((q<=s.size/\NI 10 s q p c)\/(q=s.size+1/\c=BV s))) (λ_ _ i _=>s.size+1-(intOf i).toNat);case atStart=>exact⟨0,0,[],rfl,rfl,ae,.inl ⟨B9 _,NI.start 10 s⟩⟩
 case round=>
  clear ae;obtain⟨q,p,c,rfl,rfl,d,f⟩:=hrel;rcases f.out with⟨hq,b⟩|⟨rfl,hw⟩
  ·have aO:=b.len;have aP:=b.1;have ag:=d.2.size;obtain⟨aQ,aR⟩:¬((p:Int)<0)/\¬((q:Int)<(p:Int)):=by omega
   rcases Nat.lt_or_ge q s.size with h|h
   ·obtain⟨aS,au⟩:(q:Int)<(s.size:Int)/\¬(q:Int)=(s.size:Int):=by omega
    have aT:((q:Int)==(s.size:Int))=false:=beq_eq_false_iff_ne.2 au;by_cases B:s[q]=10
    ·have u:Hid ((q+1<=s.size/\NI 10 s (q+1) (q+1) (c++[s.extract p q]))\/(q+1=s.size+1/\c++[s.extract p q]=BV s)):=.inl ⟨h,b.hit h B⟩;have E:(s[q].toNat:Int)=10:=by rw[B];rfl
     have aU:((s[q].toNat:Int)==10)=true:=by rw[E];rfl
     clear f b B;go_wp2_with (first|(at_builtin;refine wpList_append_own _ rfl _ _ 26 rfl w.heap.size 9 i0 (.string ⟨#[]⟩) 1 16 underlying26 hi H ac ad rfl (by decide) _ c.length (c.map Value.string) rfl (World.ownsRow.alloc d.1 _) ⟨wr.heap.size,0,none⟩ 1 1 [.string (s.extract p q)] rfl rfl (World.news_of_block (cs:=#[.string (s.extract p q)]) (t:=9) (fr:=(0,0)) (heap_alloc_new wr _)) (Hg _) (by unfold maxLen;omega) (by omega) (by simp;omega) ?_)|go_in);intro F x o r _;have y:Hid (Ej x w.heap.size F (c++[s.extract p q])/\AD w.heap.size w x):=⟨Hk o,Below.grown (d.2.alloc ag _) r (by simp;omega) (λj N=>(World.ownsRow.lt d.1 j N).1)⟩;clear o r d;go_wp2;go_roundw;case rel=>exact⟨q+1,q+1,_,by go_num,by go_num,y,u⟩
     case measure=>simp[intOf];omega
    ·have u:Hid ((q+1<=s.size/\NI 10 s (q+1) p c)\/(q+1=s.size+1/\c=BV s)):=.inl ⟨h,b.skip h B⟩;have E:¬(s[q].toNat:Int)=10:=λe=>B (UInt8.toNat_inj.1 (show s[q].toNat=10 by omega));clear f b B;go_wp2;go_roundw;case rel=>exact⟨q+1,p,c,by go_num,rfl,d,u⟩
     case measure=>simp[intOf];omega
   ·obtain rfl:q=s.size:=by omega
    have I:=b.fin;have ah:(s.extract p s.size).size=s.size-p:=by simp[ByteArray.size_extract]
    rcases Nat.lt_or_ge p s.size with hp|hp
    ·have aw:(p:Int)<(s.size:Int):=by omega
     have u:=zq (((Jt I.symm).2 (by omega)).symm);clear f b I ah;go_wp2_with (first|(at_builtin;refine wpList_append_own _ rfl _ _ 26 rfl w.heap.size 9 i0 (.string ⟨#[]⟩) 1 16 underlying26 hi H ac ad rfl (by decide) _ c.length (c.map Value.string) rfl (World.ownsRow.alloc d.1 _) ⟨wr.heap.size,0,none⟩ 1 1 [.string (s.extract p s.size)] rfl rfl (World.news_of_block (cs:=#[.string (s.extract p s.size)]) (t:=9) (fr:=(0,0)) (heap_alloc_new wr _)) (Hg _) (by unfold maxLen;omega) (by omega) (by simp;omega) ?_)|go_in);intro F x o r _;have y:Hid (Ej x w.heap.size F (c++[s.extract p s.size])/\AD w.heap.size w x):=⟨Hk o,Below.grown (d.2.alloc ag _) r (by simp;omega) (λj N=>(World.ownsRow.lt d.1 j N).1)⟩;clear o r d;go_wp2;go_roundw;case rel=>exact⟨s.size+1,s.size+1,_,by go_num,by go_num,y,.inr ⟨rfl,u⟩⟩
     case measure=>simp[intOf]<;>omega
    ·have aw:¬(p:Int)<(s.size:Int):=by omega
     have u:=zq (((Jt I.symm).1 (by omega)).symm);clear f b I ah;go_wp2;go_roundw;case rel=>exact⟨s.size+1,p,_,by go_num,rfl,d,.inr ⟨rfl,u⟩⟩
     case measure=>simp[intOf]<;>omega
  ·have z:Hid (Ej wr w.heap.size u3 (BV s)/\AD w.heap.size w wr):=by rw[<-hw];exact d
   clear d f hw;have hz:=z.2.size;have aV:=zq z.2;obtain⟨oa,aW,rfl,O⟩:=z.1.form0;rcases Nat.lt_or_ge 200 (BV s).length with Q|Q
   ·have ax:(200:Int)<((BV s).length:Int):=by omega
    have S:=zq (M Q wr z.2);clear M D n z O;go_wp2;exact S
   ·have ax:¬(200:Int)<((BV s).length:Int):=by omega
    have E:AD wr.heap.size wr (wr.alloc (.cells #[.int .i64 64,.int .i64 1,.int .i64 0] 52)):=bA;have f:Hid (eu w (BV s) oa wr.heap.size (A 0) (.slice (some ⟨wr.heap.size+1,0,none⟩) 0 0) (oK (BV s) a 0) ((wr.alloc (.cells #[.int .i64 64,.int .i64 1,.int .i64 0] 52)).alloc (.cells #[] 5))):=by
     have ay:=Ao wr (.cells #[.int .i64 64,.int .i64 1,.int .i64 0] 52);have hn2:AD wr.heap.size wr ((wr.alloc (.cells #[.int .i64 64,.int .i64 1,.int .i64 0] 52)).alloc (.cells #[] 5)):=E.alloc (by simp) _;have hr:=JQ (wr.alloc (.cells #[.int .i64 64,.int .i64 1,.int .i64 0] 52));rw[show(wr.alloc (.cells #[.int .i64 64,.int .i64 1,.int .i64 0] 52)).heap.size=wr.heap.size+1 by simp] at hr;refine⟨λi l hl=>?_,?_,hr,z.2.trans (hn2.mono hz),hz,by simp;omega⟩
     ·obtain⟨g,e,J,T,U⟩:=O i l hl;exact⟨g,e,J,(hn2.cell (p:=⟨g,i,none⟩) J).trans U⟩
     ·rw[n.out.1];exact(bA.block wr.heap.size (by simp)).trans ay
    clear O z E M;have m:=ZM (BV s) A a n;have K:Hid (∀k,k<=(BV s).length->(oK (BV s) a k).length<=40000200):=λk V=>by
     have J:=m k V;have T:k*200001<=200*200001:=Nat.mul_le_mul_right _ (by omega);have U:200*200001=40000200:=by decide
     rw[U] at T;exact DT J T
    clear m;obtain⟨i8,aB,aC,aD,aE⟩:=info_parts Om;generalize hP:BV s=P at*
    generalize aY:wr.heap.size=G at*
    go_wp2;go_loopw [7,8] (λv i wx=>∃k:Nat,k<=P.length/\i=.int .i64 (k:Int)/\Hid (eu w P oa G (A k) v (oK P a k) wx)) (λ_ i _=>P.length-(intOf i).toNat);case atStart=>exact⟨0,B9 _,rfl,f⟩
    case round=>
     clear f;obtain⟨k,V,rfl,b⟩:=hrel;by_cases aG:k<P.length
     ·have aZ:(k:Int)<(P.length:Int):=by omega
      have C:P[k]?=some P[k]:=Dq aG;have e:P.getD k ⟨#[]⟩=P[k]:=by rw[List.getD_eq_getElem?_getD,C];rfl
      obtain⟨g,rfl,a0,aH⟩:=b.1 k _ C;by_cases m:(P[k]).size=0
      ·have aI:(P[k]).toList.isEmpty=true:=by rw[OL];exact Bz m
       have y:Hid (eu w P (some ⟨g,0,none⟩) G (A (k+1)) u7 (oK P a (k+1)) wr):=by
        rw[Hid,(n.out.2 k _ C).1 m,oK,e,zyp m];exact b
       generalize P[k]=l at*
       clear n b K D e C;go_wp2;go_roundw;case rel=>exact⟨k+1,by omega,by go_num,y⟩
       case measure=>simp[intOf];omega
      ·have aI:(P[k]).toList.isEmpty=false:=by rw[OL];exact By m
       obtain⟨am,-,a1⟩:=(n.2 k _ C).2 m;have HC:=zq (am G wr b.2.1);have ao:Hid (oK P a (k+1)=oK P a k++(a k++⟨#[10]⟩:AB).data.toList):=by
        rw[Hid,oK,e,zyn m,ByteArray.data_append,Array.toList_append,List.append_assoc]
       have ho:=K k V;have sB:(a k++⟨#[10]⟩:AB).size=(a k).size+1:=by rw[ByteArray.size_append];rfl
       generalize a k=ak at*
       generalize P[k]=l at*
       have sA:(ak.size:Int)<=200000:=by omega
       have s1:(⟨#[10]⟩:AB).size=1:=rfl;clear K D C e am n;go_wp2_with fail;refine HC.mono ?_;rintro e w5 ⟨rfl,aq,ar⟩;have L:=zq (b.say ar aq);clear aq ar b HC aH;go_wp2_with (first|(at_builtin;refine Lib.wpList_append_own_string _ rfl _ _ 22 9 rfl (G+1) 5 i8 underlying22 underlying9 aB aC aD aE _ (oK P a k).length (SX (oK P a k)) rfl L.2.2.1 (ak++⟨#[10]⟩) rfl (by unfold maxLen;omega) (by omega) (by have:=L.2.2.2.2.2;omega) ?_)|go_in);intro F x o r _;have y:Hid (eu w P (some ⟨g,0,none⟩) G (A (k+1)) F (oK P a (k+1)) x):=by
        rw[Hid,ao];exact L.put r (ic (by rw[sB];exact o))
       clear o r L ao;go_wp2;go_roundw;case rel=>exact⟨k+1,by omega,by go_num,y⟩
       case measure=>simp[intOf];omega
     ·have aK:k=P.length:=by omega
      subst aK;have S:=zq (D Q wr b.2.2.2.1);have a7:=b.2.2.1.conv;have a8:¬((P.length:Nat):Int)<(P.length:Int):=by omega
      clear D n K b;go_wp2;exact S
theorem SZ(s:AB)(j:s.size<4294967281):∃t:AB,
 (∀w,TA w->cB 10 #[.string s] w (.string t))/\
 (cA 12 #[.string s] (.string t)):=by
 rcases Nat.lt_or_ge 20000 s.size with h|g
 ·exact⟨{data:=#[]},λw _=>Sa s w h j,λw=>R2 s w h j⟩
 ·have v:=RZ 10 s;obtain⟨b,x,f⟩:∃b x,Dp 10 s=b++[x]:=by
   obtain⟨k,B,e⟩:=v;rcases List.eq_nil_or_concat (Dp 10 s) with q|⟨l,x,q⟩
   ·rw[e] at q;cases q
   ·exact⟨l,x,by rw[q,List.concat_eq_append]⟩
  have i:∀l∈BV s,l.size<=20000:=λl c=>by
   refine DT (RY 10 s l ?_) g;unfold BV at c;split at c
   ·exact List.dropLast_subset _ c
   ·exact c
  obtain⟨m,a,n⟩:=mC (BV s) i;have C:=Uo s;have D:b.length<=20000:=by
   have:=LC 10 s;rw[f,Dc] at this;have e:([x]:List AB).length=1:=rfl;omega
  have u:(if x.toList.isEmpty then b.length else b.length+1)=(BV s).length:=by
   rw[OL];by_cases d:x.size=0
   ·rw[Bz d,zyp rfl,(Jt f).1 d]
   ·rw[By d,zyn (by decide),(Jt f).2 d,Dc];rfl
  have y:∀(k:Nat) (l:AB),(BV s)[k]?=some l->((b++[x]).map Value.string).toArray[k]?=some (Value.string l):=λk l c=>by
   rw[List.getElem?_toArray,List.getElem?_map];by_cases d:x.size=0
   ·rw[(Jt f).1 d] at c;rw[List.getElem?_append_left (List.getElem?_eq_some_iff.1 c).1,c];rfl
   ·rw[(Jt f).2 d] at c;rw[c];rfl
  have o:=λw=>Q3 s b x b.length w j rfl (by omega) f;rw[u] at o;have z:(BV s).length<=b.length+1:=by rw[<-u];split<;>omega
  rcases Nat.lt_or_ge 200 (BV s).length with p|p
  ·refine⟨{data:=#[]},λw _=>Sb s w g _ _ p (by omega) _ (o w),λw=>?_⟩;exact ML s w g m a n i _ (λ_ X r=>⟨rfl,r⟩) λq=>absurd q (by omega)
  ·refine⟨⟨(oK (BV s) a (BV s).length).toArray⟩,λw A=>?_,λw=>?_⟩
   ·exact Ve w A s g (BV s) _ rfl p i m a n (b.length+1) ⟨z,by omega⟩ _ y (o w)
   ·exact ML s w g m a n i _ (λq=>absurd q (by omega)) λ_ X r=>⟨rfl,r⟩
theorem QR(s:AB)(w:AA)(b:TA w):cB 5 #[.string s] w (.bool true):=by
 rcases Nat.lt_or_ge 1048576 s.size with h|h
 ·go_enter func5,ntmps5;have j:(1048576:Int)<(s.size:Int):=by omega
  go_wp2;go_ret;exact⟨rfl,BI _ _⟩
 ·obtain⟨k,c,d⟩:=SZ s (by omega);have e:=zq (d w);have f:Hid (∀X,AD w.heap.size w X->cB 10 #[.string s] X (.string k)):=λX g=>c X λY l=>b Y (g.trans (l.mono g.size));have j:¬(1048576:Int)<(s.size:Int):=by omega
  clear c d b;go_enter func5,ntmps5;go_wp2_with fail;refine cm e λm a=>?_;clear e;go_wp2_with fail;refine cm (f m a) λo i=>?_;have n:=zq (a.trans (i.mono a.size));clear f a i;go_wp2;go_ret;exact⟨rfl,n⟩
end Go.Proofs.YteofommckgeemaaGreatDoor
namespace Go.Proofs.YteofommckgeemaaGreatDoor
open Go.ChangeShapes Go.WideShapes Go.ChangeAt Go.RowKit Go.Proofs.Tryz
set_option linter.unusedVariables false
set_option linter.unusedSimpArgs false
set_option maxRecDepth 100000
set_option maxHeartbeats 8000000
theorem own:ownKnob prog.godebug=none:=by kernel_rfl
theorem gT:laidOutB prog=true:=by kernel_rfl
theorem YK:(prog.globals[3]?).map (·.type)=some 289:=by kernel_rfl
theorem j7:prog.cellsOf 95=1:=by kernel_rfl
theorem fW:prog.cellsOf 289=20:=by kernel_rfl
theorem iP{W:AA}{rest:List (String×DataW Unit)}(h:laidMet prog (("internal/strconv.uint64pow10",Rows.laid_internal_strconv_uint64pow10)::rest) W):Ev W:=by
 unfold Ev;exact Lib.tabIs_of_head (k:=.u64) (zs:=Lib.pow10Tab) mm YK underlying289 underlying95 j7 fW h
theorem ml:prog.globalNamed "loop.example/g00085/impl.kindPlaces"=some 1:=by kernel_rfl
theorem YJ:(prog.globals[1]?).map (·.type)=some 264:=by kernel_rfl
theorem j6:prog.cellsOf 2=1:=by kernel_rfl
theorem j5:prog.cellsOf 264=5:=by kernel_rfl
theorem gQ{W:AA}{rest:List (String×DataW Unit)}(h:laidMet prog (("loop.example/g00085/impl.kindPlaces",Rows.laid_loop_example_g00085_impl_kindPlaces)::rest) W):Hr W:=by
 obtain⟨m,⟨n,o,cs,fuel,p,q,b,c,d,e,_,_⟩,_⟩:=h;obtain rfl:=Gy (ml.symm.trans b);obtain rfl:=Gy (YJ.symm.trans c);have f:=Lib.cells_of_tab (k:=.i64) (zs:=[0,0,1,3,2]) underlying264 underlying2 j6 j5 (p:=p) e;have g:∀i,W.cell? ⟨1,i,none⟩=cs.toList[i]?:=λi=>by simpa using World.var?_cell ml d i
 have a:∀k:Nat,1<=k->k<=4->W.cell? ⟨1,k,none⟩=some (.int .i64 (IA k)):=by
  intro k j l;rw[g,f]
  match k,j,l with
  |1,_,_|2,_,_|3,_,_|4,_,_=>rfl
 exact⟨a,World.block_lt_of_cell? _ _ (a 1 (by decide) (by decide))⟩
theorem mo:prog.globalNamed "loop.example/g00085/impl.bitWeights"=some 11:=by kernel_rfl
theorem YM:(prog.globals[11]?).map (·.type)=some 350:=by kernel_rfl
theorem Sj:prog.cellsOf 2=1:=by kernel_rfl
theorem Ky:prog.cellsOf 349=4:=by kernel_rfl
theorem fX:prog.cellsOf 350=12:=by kernel_rfl
theorem Kb{W:AA}{rest:List (String×DataW Unit)}(h:laidMet prog (("loop.example/g00085/impl.bitWeights",Rows.laid_loop_example_g00085_impl_bitWeights)::rest) W):XU W/\11<W.heap.size:=by
 obtain⟨C,⟨D,E,cs,fuel,p,q,j,l,n,o,_,_⟩,_⟩:=h;obtain rfl:=Gy (mo.symm.trans j);obtain rfl:=Gy (YM.symm.trans l);obtain⟨xs,F,rfl,c,r,s,a⟩:=DataW.trod_array underlying350 o;rw[fX] at r;rw[Ky] at a;simp only[Rows.laid_loop_example_g00085_impl_bitWeights,Prod.mk.injEq,DataW.agg.injEq] at c
 match xs,s,c,a with
 |[x0,x1,x2],_,c,a=>
  simp only[List.map_cons,List.map_nil,List.cons.injEq,and_true] at c;obtain⟨⟨d,e,f⟩,_⟩:=c;obtain⟨G,t⟩:=x0;obtain⟨H,u⟩:=x1;obtain⟨I,v⟩:=x2;simp only at d e f;subst d e f;have w:=Lib.cells_of_tab (k:=.i64) (zs:=[8,4,2,1]) underlying349 underlying2 Sj Ky (p:=t) (a 0 (by decide));have x:=Lib.cells_of_tab (k:=.i64) (zs:=[4,2,2,1]) underlying349 underlying2 Sj Ky (p:=u) (a 1 (by decide));have y:=Lib.cells_of_tab (k:=.i64) (zs:=[5,2,1,1]) underlying349 underlying2 Sj Ky (p:=v) (a 2 (by decide));have z:∀i,W.cell? ⟨11,i,none⟩=cs.toList[i]?:=λi=>by simpa using World.var?_cell mo n i
  have A:∀m k,k<4->cs.toList[m*4+k]?=(List.take 4 (List.drop (m*4) cs.toList))[k]?:=λm k b=>by
   rw[List.getElem?_take_of_lt b,List.getElem?_drop]
  have g:XU W:=by
   intro m k B b;rw[z,A m k b]
   match m,B with
   |0,_=>rw[w];match k,b with
    |0,_|1,_|2,_|3,_=>rfl
   |1,_=>rw[x];match k,b with
    |0,_|1,_|2,_|3,_=>rfl
   |2,_=>rw[y];match k,b with
    |0,_|1,_|2,_|3,_=>rfl
  exact⟨g,World.block_lt_of_cell? _ _ (g 0 0 (by decide) (by decide))⟩
theorem mn:prog.globalNamed "loop.example/g00085/impl.decletRows"=some 10:=by kernel_rfl
theorem YL:(prog.globals[10]?).map (·.type)=some 343:=by kernel_rfl
theorem Xl:prog.cellsOf 9=1:=by kernel_rfl
theorem lp(s:AB)(r:Nat)(h:s.data.toList=(oE r).map λc=>c.toNat.toUInt8):s=Wu r:=by
 apply De;show s.data=((oE r).map λc=>c.toNat.toUInt8).toArray
 rw[<-h]
theorem JS{W:AA}{rest:List (String×DataW Unit)}(h:laidMet prog (("loop.example/g00085/impl.decletRows",Rows.laid_loop_example_g00085_impl_decletRows)::rest) W):KA W/\10<W.heap.size:=by
 obtain⟨v,⟨w,x,cs,fuel,p,q,g,j,k,l,_,_⟩,_⟩:=h;obtain rfl:=Gy (mn.symm.trans g);obtain rfl:=Gy (YL.symm.trans j);obtain⟨xs,z,rfl,c,A,B,d⟩:=DataW.trod_array underlying343 l;rw[Xl] at d;simp only[Rows.laid_loop_example_g00085_impl_decletRows,Prod.mk.injEq,DataW.agg.injEq] at c;have m:∀i,W.cell? ⟨10,i,none⟩=cs.toList[i]?:=λi=>by simpa using World.var?_cell mn k i
 have a:KA W:=by
  intro r a;have e:=d r a;obtain⟨y,f⟩:∃y,xs[r]?=some y:=⟨xs[r]'(by omega),Dq (by omega)⟩;rw[f] at e;obtain⟨s,n,o,_⟩:=DataW.trod_string underlying9 e;have t:cs.toList[r]?=some (.string s):=by
   have:=congrArg (·[0]?) n;simpa[List.getElem?_take,List.getElem?_drop] using this
  rw[m,t];have b:(xs.map (·.1))[r]?=some (DataW.lit (.string s.data.toList):DataW Unit):=by rw[List.getElem?_map,f,o];rfl
  rw[<-c.1] at b;have u:s=Wu r:=by
   match r,a with
   |0,_|1,_|2,_|3,_|4,_|5,_|6,_|7,_=>
    simp only[List.getElem?_cons_succ,List.getElem?_cons_zero,Option.some.injEq,DataW.lit.injEq,Lit.string.injEq] at b;exact lp s _ b.symm
  rw[u]
 exact⟨a,World.block_lt_of_cell? _ _ (a 0 (by decide))⟩
theorem om:prog.globalNamed "math/bits.deBruijn64tab"=some 9:=by kernel_rfl
theorem gF:(prog.globals[9]?).map (·.type)=some 335:=by kernel_rfl
theorem fU:prog.cellsOf 5=1:=by kernel_rfl
theorem fY:prog.cellsOf 335=64:=by kernel_rfl
def pA:AG:=[0,1,56,2,57,49,28,3,61,58,42,50,38,29,17,4,62,47,59,36,45,43,51,22,53,39,33,30,24,18,12,5,63,55,48,27,60,41,37,16,46,35,44,21,52,32,23,11,54,26,40,15,34,20,31,10,25,14,19,9,13,8,7,6]
theorem ni{W:AA}{rest:List (String×DataW Unit)}(h:laidMet prog (("math/bits.deBruijn64tab",Rows.laid_math_bits_deBruijn64tab)::rest) W):Tz W:=by
 obtain⟨g,⟨j,l,cs,fuel,p,q,a,b,c,d,_,_⟩,_⟩:=h;obtain rfl:=Gy (om.symm.trans a);obtain rfl:=Gy (gF.symm.trans b);have e:=Lib.cells_of_tab (k:=.u8) (zs:=pA) underlying335 underlying5 fU fY (p:=p) d;have f:∀i,W.cell? ⟨9,i,none⟩=cs.toList[i]?:=λi=>by simpa using World.var?_cell om c i
 unfold Tz;rw[f,e];rfl
theorem jj: "*"++ "errors.errorString"= "*errors.errorString":=by decide
theorem kL(u:TypeId)(h:prog.typeName? 3 u=some "*errors.errorString"):u=338:=
 typeName_ptr_named (nm:= "errors.errorString") (by rw[jj];kernel_rfl) (by kernel_rfl) (by decide) u (by rw[jj];exact h)
theorem X2{W:AA}{n:String}{b:List UInt8}{r:List (String×DataW Unit)}{g:Nat}(h:laidMet prog ((n,.iface "*errors.errorString" (.ptr (.agg [.lit (.string b)])))::r) W)(a:prog.globalNamed n=some g)(c:(prog.globals[g]?).map (·.type)=some 39):∃te d,W.cell? ⟨g,0,none⟩=some (.iface te d):=by
 obtain⟨x,s,e,-⟩:=laid_sentinel (tp:=338) (te:=340) (ts:=9) h a c underlying39 kL underlying338 underlying340 rfl rfl underlying9 (by kernel_rfl) (by kernel_rfl);have q:=World.var?_cell a e 0;exact⟨_,_,by simpa using q⟩
abbrev En:List (String×DataW Unit):=Rows.fnExactBenchRow.laid.filter λx=>x.2.handleName?.isNone
theorem gI{W:AA}{l:List (String×DataW Unit)}(h:handlesMet prog l W)(c:("errors.errorType",(Rows.laid_errors_errorType:DataW Unit))∈l):GT W:=by
 have q:=h _ c;have d:(Rows.laid_errors_errorType:DataW Unit).funcsIn?=none:=by kernel_rfl
 simp only[d] at q;obtain⟨r,u,a,e,f,g,i,j⟩:=q;have k:prog.globalNamed "errors.errorType"=some 0:=by kernel_rfl
 have q:=World.var?_cell k j 0;have m:(prog.cutTypes.find? (·.1== "internal/reflectlite.rtype")).map (·.2)=some 215:=by kernel_rfl
 obtain rfl:=Gy (f.symm.trans m);have n:(Rows.laid_errors_errorType:DataW Unit).handleName?=some [101,114,114,111,114]:=by kernel_rfl
 obtain rfl:=Gy (e.symm.trans n);have o:((List.range prog.types.size).all λu=> !(prog.rowNamed u [101,114,114,111,114])||u==39)=true:=by kernel_rfl
 have b:=List.all_eq_true.1 o a (List.mem_range.2 g);rw[i] at b;have p:a=39:=by simpa using b
 subst p;unfold GT;rw[q];rfl
theorem Mk{W:AA}(h:laidMetH prog Rows.fnExactBenchRow.laid W):TA W:=by
 have c:laidMet prog En W/\handlesMet prog (Rows.fnExactBenchRow.laid.filter λx=>x.2.handleName?.isSome) W:=h;have a:laidMet prog [("math/bits.deBruijn32tab",Rows.laid_math_bits_deBruijn32tab),("math/bits.deBruijn64tab",Rows.laid_math_bits_deBruijn64tab),("internal/strconv.uint64pow10",Rows.laid_internal_strconv_uint64pow10),("unicode/utf8.acceptRanges",Rows.laid_unicode_utf8_acceptRanges),("strconv.ErrRange",Rows.laid_strconv_ErrRange),("strconv.ErrSyntax",Rows.laid_strconv_ErrSyntax),("loop.example/g00085/impl.bitWeights",Rows.laid_loop_example_g00085_impl_bitWeights),("loop.example/g00085/impl.decletRows",Rows.laid_loop_example_g00085_impl_decletRows),("loop.example/g00085/impl.kindPlaces",Rows.laid_loop_example_g00085_impl_kindPlaces),("unicode/utf8.first",Rows.laid_unicode_utf8_first)] W:=c.1;have d:=iP (laidMet.tail (laidMet.tail a));have e:fP W:=eY a (.tail _ (.tail _ (.tail _ (.tail _ (.tail _ (.tail _ (.tail _ (.tail _ (.tail _ (.head _)))))))))) (.tail _ (.tail _ (.tail _ (.head _))));have f:=gQ (laidMet.tail (laidMet.tail (laidMet.tail (laidMet.tail (laidMet.tail (laidMet.tail (laidMet.tail (laidMet.tail a))))))));have g:Dr W:=⟨(Kb (laidMet.tail (laidMet.tail (laidMet.tail (laidMet.tail (laidMet.tail (laidMet.tail a))))))).1,(JS (laidMet.tail (laidMet.tail (laidMet.tail (laidMet.tail (laidMet.tail (laidMet.tail (laidMet.tail a)))))))).1,(Kb (laidMet.tail (laidMet.tail (laidMet.tail (laidMet.tail (laidMet.tail (laidMet.tail a))))))).2,(JS (laidMet.tail (laidMet.tail (laidMet.tail (laidMet.tail (laidMet.tail (laidMet.tail (laidMet.tail a)))))))).2⟩;have i:=ni (laidMet.tail a);have j:EV W:=⟨X2 (laidMet.tail (laidMet.tail (laidMet.tail (laidMet.tail (laidMet.tail a))))) (by kernel_rfl) (by kernel_rfl),X2 (laidMet.tail (laidMet.tail (laidMet.tail (laidMet.tail a)))) (by kernel_rfl) (by kernel_rfl)⟩;have k:handlesMet prog [("errors.errorType",(Rows.laid_errors_errorType:DataW Unit))] W:=c.2;have l:GT W:=gI k (.head _)
 exactλX b=>⟨d.next b,Utf8Tabs_below e b,f.next b,g.below b (AS _),i.next b,l.next b,j.next b⟩
noncomputable def startW (os:Os):AA:=
 let w0:=World.holding prog os ⟨#[],#[],[]⟩
 {w0 with heap:=w0.heap.modify 0 λ
  |.cells _ t frozen=>.cells #[.iface 215 (.agg #[typeHandle prog 39])] t frozen
  |o=>o}
noncomputable def laidWorld (os:Os):AA:=(startW os).layVars prog En
theorem Ow(a:Os):(laidWorld a).os=a:=World.layVars_os _ _ _
theorem Km(a:Os)(args:Array AK):laidMet prog En ((laidWorld a).forCall (λ_ _=>0) ⟨#[],args,[]⟩).memory:=by
 have b:(En.filter λx=>(En.map (·.1)).contains x.1)=En:=List.filter_eq_self.2 λx c=>List.contains_iff_mem.2 (List.mem_map.2 ⟨x,c,rfl⟩);have d:(En.filter λx=> !(En.map (·.1)).contains x.1)=[]:=List.filter_eq_nil_iff.2 λx c=>by rw[List.contains_iff_mem.2 (List.mem_map.2 ⟨x,c,rfl⟩)];simp
 have h:laidMet prog En (laidWorld a):=laidMet_layVars (w0:=startW a) (En.map (·.1)) [] (by rw[b];rfl) (by rw[b];kernel_rfl) (by rw[b];kernel_rfl) (by rw[d];exact LaidIn.none);exact h.of_heap (by simp[World.memory,World.forCall,Input.heap])
theorem M1(a:Os)(args:Array AK):laidMetH prog Rows.fnExactBenchRow.laid ((laidWorld a).forCall (λ_ _=>0) ⟨#[],args,[]⟩).memory:=
 laidMetH_of_parts3 (fuel:=8) (Km a args) (by kernel_rfl) (by kernel_rfl)
theorem nl{H:Type}{b:TypeId×AK->H}{P:Program}{w:AA}{c:Nat->Bool}{n:String}{a:List (DataW H)}{e:List MemPlace}(h:DataW.TrodVars b P w c [n] a e):∃f,a=[f]:=by
 obtain⟨_,_,_,_,d,_,rfl,_⟩:=trodVars_one h;exact⟨d,rfl⟩
theorem np{H:Type}{d:TypeId×AK->H}{P:Program}{w:AA}{e:Nat->Bool}{n m:String}{a:List (DataW H)}{f:List MemPlace}(h:DataW.TrodVars d P w e [n,m] a f):∃b c,a=[b,c]:=by
 cases a with
 |nil=>simp[DataW.TrodVars] at h
 |cons b r=>
  obtain⟨_,_,_,_,_,_,_,_,_,_,g,_⟩:=h;obtain⟨c,rfl⟩:=nl g;exact⟨_,_,rfl⟩
theorem nr{H:Type}{e:TypeId×AK->H}{P:Program}{w:AA}{f:Nat->Bool}{n m l:String}{a:List (DataW H)}{g:List MemPlace}(h:DataW.TrodVars e P w f [n,m,l] a g):∃b c d,a=[b,c,d]:=by
 cases a with
 |nil=>simp[DataW.TrodVars] at h
 |cons b r=>
  obtain⟨_,_,_,_,_,_,_,_,_,_,i,_⟩:=h;obtain⟨c,d,rfl⟩:=np i;exact⟨_,_,_,rfl⟩
end Go.Proofs.YteofommckgeemaaGreatDoor
