/- Steps. -/
import Derived.Test.YteofommckgeemaaGreatDoorEAD
import Derived.Test.YteofommckgeemaaGreatDoorEAE
namespace Go.Proofs.YteofommckgeemaaGreatDoor
open Go.RowKit Go.Proofs.Tryz
set_option linter.unusedVariables false
set_option maxRecDepth 100000
set_option maxHeartbeats 8000000
theorem Sx(s:AB)(w:AA)(b:s.size<=600):
 cB 209 #[.string s] w (.string s):=by
 go_enter func209,ntmps209;go_wp2_with fail;refine cm (stringslite_Clone s _ (by omega)) λc a=>?_;go_wp2;go_ret;exact⟨rfl,a⟩
abbrev DF(F:Nat):AK:=.func (.func F) #[] #[]
theorem Co{c:Func}{p t:Tmp}{b:Nat}{x:AK}(h:c.results=#[.cell p 177,.tmp t])(a:Array AK)(w:AA)(d:a[p]?.getD undef=.pointer (some ⟨b,0,none⟩))
 (e:w.cell? ⟨b,0,none⟩=some x):(results c a).run prog w=.ok (.tuple #[.agg #[x],a.getD t undef]) w:=by
 simp[results,h,d,go_sem,e]
theorem Gb(w:AA)(o:Obj):(w.alloc o).heap[w.heap.size]?=some o:=by
 show(w.heap.push o)[w.heap.size]?=some o
 exact Array.getElem?_push_size
theorem AN(w:AA)(o:Obj):(w.alloc o).heap.size=w.heap.size+1:=by
 show(w.heap.push o).size=w.heap.size+1
 exact Array.size_push _
theorem A9(w:AA)(x:AK)(T:TypeId):(w.alloc (.cells #[x] T)).cell? ⟨w.heap.size,0,none⟩=some x:=by
 have h:=Gb w (.cells #[x] T);unfold World.cell?;simp only[h];rfl
theorem oO(w:AA)(x y z:AK)(T:TypeId):(w.alloc (.cells #[x,y,z] T)).cell? ⟨w.heap.size,2,none⟩=some z:=by
 have h:=Gb w (.cells #[x,y,z] T);unfold World.cell?;simp only[h];rfl
theorem Db(w:AA)(x:AK)(T:TypeId)(o:Obj):((w.alloc (.cells #[x] T)).alloc o).cell? ⟨w.heap.size,0,none⟩=some x:=by
 have a:w.heap.size<(w.alloc (.cells #[x] T)).heap.size:=by rw[AN];omega
 exact(((BI _ (w.alloc (.cells #[x] T))).alloc (AS _) o).cell (p:=⟨w.heap.size,0,none⟩) a).trans (A9 w x T)
theorem CC(w:AA)(o a:Obj):AD w.heap.size w ((w.alloc o).alloc a):=bA.alloc (by rw[AN];omega) _
theorem JL(w:AA):
 cB 149 #[.int .i64 1] w (.tuple #[.agg #[DF 204],.bool true]):=by
 go_enter func149,ntmps149;go_wp2;refine Do (Co rfl _ _ rfl (Db _ _ _ _)) rfl ?_;exact⟨rfl,CC _ _ _⟩
theorem JM(w:AA):
 cB 149 #[.int .i64 2] w (.tuple #[.agg #[DF 205],.bool true]):=by
 go_enter func149,ntmps149;go_wp2;refine Do (Co rfl _ _ rfl (Db _ _ _ _)) rfl ?_;exact⟨rfl,CC _ _ _⟩
theorem JN(w:AA):
 cB 149 #[.int .i64 3] w (.tuple #[.agg #[DF 206],.bool true]):=by
 go_enter func149,ntmps149;go_wp2;refine Do (Co rfl _ _ rfl (Db _ _ _ _)) rfl ?_;exact⟨rfl,CC _ _ _⟩
theorem JO(w:AA):
 cB 149 #[.int .i64 4] w (.tuple #[.agg #[DF 207],.bool true]):=by
 go_enter func149,ntmps149;go_wp2;refine Do (Co rfl _ _ rfl (Db _ _ _ _)) rfl ?_;exact⟨rfl,CC _ _ _⟩
theorem JP(w:AA):
 cB 149 #[.int .i64 5] w (.tuple #[.agg #[DF 208],.bool true]):=by
 go_enter func149,ntmps149;go_wp2;refine Do (Co rfl _ _ rfl (Db _ _ _ _)) rfl ?_;exact⟨rfl,CC _ _ _⟩
theorem Eo(m:Int)(a:¬(1<=m/\m<=5))(w:AA):
 cB 149 #[.int .i64 m] w (.tuple #[.agg #[.nilFunc],.bool false]):=by
 by_cases b:m<1
 ·go_enter func149,ntmps149;go_wp2;refine Do (Co rfl _ _ rfl (Db _ _ _ _)) rfl ?_;exact⟨rfl,CC _ _ _⟩
 ·have c:5<m:=by omega
  clear a;go_enter func149,ntmps149;go_wp2;refine Do (Co rfl _ _ rfl (Db _ _ _ _)) rfl ?_;exact⟨rfl,CC _ _ _⟩
theorem jG(a:Int)(neg:Bool)(v:Int)(k:Nat)(rest:Bool)(h:Ft a neg v k rest=true):BJ v k rest=true:=by
 rw[<-YR] at h;rw[<-L7];refine Bz λq=>?_;rw[q] at h;unfold V4 at h;revert h
 repeat' split
 all_goals simp
theorem Wl(r m:Int)(rest:Bool):L4 r m rest=0\/L4 r m rest=1\/L4 r m rest=2\/L4 r m rest=3:=by
 unfold L4
 repeat' split
 all_goals simp
theorem JK(F:Nat)(c:Int)(ao:∀args w,(callFunc F args).run prog w=.ok (.enter F args) w)
 (C:Hid (∀neg D p,(p=0\/p=1\/p=2\/p=3)->cA F #[Kj neg D p] (.bool (V4 c neg D p))))
 (neg:Bool) (a:AG) (k:Nat) (rest:Bool) (w:AA) (l:AJ a) (P:a.length<=200) (R:k<=200):
 cB 222 #[.agg #[DF F],.bool neg,.string (tx a),.int .i64 k,.bool rest] w (.tuple #[.string (tx (nt (BC c neg (vl a) k rest))),.bool (BJ (vl a) k rest)]):=by
 have S:=C9 (k+1) a;obtain⟨n,m⟩:∃n,(Ak (k+1) a).length=n+k:=⟨(Ak (k+1) a).length-k,by omega⟩;have T:=zq λX=>Sz a k n (by omega) R m X;have q:=S7 a l k n m;have e:=LT (Ak (k+1) a) (Ja _ _ l.1) n k m;rw[VV] at e;have V:((Ak (k+1) a).take n).length=n:=by rw[FQ];omega
 have E:((Ak (k+1) a).drop n).length=k:=by rw[List.length_drop];omega
 have H:Au ((Ak (k+1) a).drop n):=λd W=>Ja _ _ l.1 d (List.mem_of_mem_drop W);have ap:n<=200/\0<n:=by omega
 clear S m P;generalize (Ak (k+1) a).take n=K at*
 generalize (Ak (k+1) a).drop n=G at*
 have Y:Hid (cF 260 #[.string (tx K)] (.bool (decide ((vl a/10^k)%2=1)))):=λX=>by
  have:=Ye K q.1 (by omega) (by omega) X;rw[e.1] at this;exact this
 have Z:Hid (cA 261 #[.string (tx G),.bool rest] (.int .i64 (L4 (vl a%10^k) (10^k) rest))):=λX=>by
  have:=WB G rest H (by omega) X;rw[e.2,E] at this;exact this
 have HU:Hid (cA F #[Kj neg (decide ((vl a/10^k)%2=1)) (L4 (vl a%10^k) (10^k) rest)] (.bool (Ft c neg (vl a) k rest))):=λX=>by
  have:=C neg (decide ((vl a/10^k)%2=1)) (L4 (vl a%10^k) (10^k) rest) (Wl _ _ _) X;rw[YR] at this;exact this
 have HA:Hid (cA 262 #[.string (tx K)] (.string (tx (nt (vl a/10^k+1))))):=λX=>by
  have:=Og K q (by omega) X;rw[e.1] at this;exact this
 have HC:=zq λX=>Sx (tx K) X (by rw[AE];omega);have HK:=zq (BW K _ q e.1 (by omega));have HL:Hid (decide (L4 (vl a%10^k) (10^k) rest≠0)=BJ (vl a) k rest):=L7 _ _ _;have af:Hid (Ft c neg (vl a) k rest=true->BJ (vl a) k rest=true):=jG _ _ _ _ _;have I:Hid (BC c neg (vl a) k rest=vl a/10^k+(if Ft c neg (vl a) k rest then 1 else 0)):=rfl;have wk:=zw (k:Int) (by omega);clear C e q H E V l;generalize Ft c neg (vl a) k rest=U at*
 generalize BC c neg (vl a) k rest=J at*
 generalize BJ (vl a) k rest=L at*
 generalize L4 (vl a%10^k) (10^k) rest=f at*
 generalize (decide ((vl a/10^k)%2=1))=x at*
 generalize vl a/10^k=Q at*
 go_enter func222,ntmps222;go_wp2_with fail;refine cm (T _) λw1 g=>?_;go_wp2_with fail;refine ce (Y _) ?_;go_wp2_with fail;refine cm (Z _) λb r=>?_;have i:w.heap.size<(w.alloc (.cells #[DF F] 177)).heap.size:=by rw[AN];omega
 have M:=A9 w (DF F) 177;have N:=(g.cell (p:=⟨w.heap.size,0,none⟩) i).trans M;have O:=(r.cell (p:=⟨w.heap.size,0,none⟩) (DU i g.size)).trans N;have y:=DU i (DT g.size r.size);have s:=Ab ((((BI _ w).alloc (AS _) _).trans (g.mono (Nat.le_of_lt i))).trans (r.mono (Nat.le_of_lt (DU i g.size)))) y;have cX:∀o,(b.alloc o).cell? ⟨w.heap.size,0,none⟩=some (.func (.func F) #[] #[]):=λo=>(((BI _ b).alloc (AS _) o).cell (p:=⟨w.heap.size,0,none⟩) y).trans O;clear i M N O y g r;go_wp2_with fail;refine cm (HU _) λz t=>?_;have u:Hid (AD w.heap.size w z):=by
  have h1:=AN b (.cells #[.bool neg,.bool x,.int .i64 f] 249);exact(s.1.trans ((BI _ b).alloc (Nat.le_of_lt s.2) _)).trans (t.mono (by rw[h1];have:=s.2;omega))
 have A:b.heap.size<(b.alloc (.cells #[.bool neg,.bool x,.int .i64 f] 249)).heap.size:=by rw[AN];omega
 have q2:=(t.cell (p:=⟨b.heap.size,2,none⟩) A).trans (oO b (.bool neg) (.bool x) (.int .i64 f) 249);have HQ:=zq (DU A t.size);clear t s cX A;cases U
 ·have B:Hid (J=Q):=by have:=I.out;show _=_;simpa using this
  have HX:Hid ((f !=0)=L):=by
   show _=_
   rw[<-HL];by_cases h:f=0
   ·subst h;rfl
   ·simp[h]
  have al:Hid (∀j,AD z.drew.heap.size z.drew j->j.cell? ⟨b.heap.size,2,none⟩=some (.int .i64 f)/\AD w.heap.size w j):=λj h=>⟨(h.cell (p:=⟨b.heap.size,2,none⟩) HQ).trans q2,u.drew.trans (h.mono u.size)⟩;go_wp2_with fail;go_region_with (go_at_call 209;refine cm (HC _) λj v=>?_;obtain⟨q5,am⟩:=al _ v;clear v);all_goals
   go_wp2;go_ret2;exact⟨by rw[B,<-HK,<-HX];rfl,am⟩
 ·have an:L=true:=af rfl;subst an;have B:Hid (J=Q+1):=by have:=I.out;show _=_;simpa using this
  go_wp2_with fail;refine cm (HA _) λj v=>?_;go_wp2;go_ret2;exact⟨by rw[B];rfl,u.trans (v.mono u.size)⟩
theorem Cp(k:Int)(b:Bool)(e:Int)(s:AB)(w:AA):(Instr.build 78 #[(0,.int .i64 k),(1,.bool b),(2,.int .i64 e),(3,.string s)]).run prog w=.ok (AH k b e s) w:=run_build w _ _ _ (by kernel_rfl)
def B6(W:AA)(b:Nat)(x y z u:AK):Prop:=W.heap[b]?=some (.cells #[x,y,z,u] 78 (0,0))
abbrev A4(W:AA)(b:Nat)(k:Int)(n:Bool)(e:Int)(s:AB):Prop:=B6 W b (.int .i64 k) (.bool n) (.int .i64 e) (.string s)
abbrev Z4(W:AA)(b:Nat):Prop:=B6 W b (.int .i64 0) (.bool false) (.int .i64 0) (.string {data:=#[]})
theorem As(w:AA)(x y z u:AK):B6 (w.alloc (.cells #[x,y,z,u] 78)) w.heap.size x y z u:=Gb w (.cells #[x,y,z,u] 78)
theorem B6.cells{w:AA}{b:Nat}{x y z u:AK}(h:B6 w b x y z u):w.cell? ⟨b,0,none⟩=some x/\w.cell? ⟨b,1,none⟩=some y/\w.cell? ⟨b,2,none⟩=some z/\w.cell? ⟨b,3,none⟩=some u/\∀i,w.frozen? ⟨b,i,none⟩=false:=by
 unfold B6 at h;exact⟨by simp[World.cell?,h],by simp[World.cell?,h],by simp[World.cell?,h],by simp[World.cell?,h],λi=>by simp[World.frozen?,h]⟩
theorem B6.lt{w:AA}{b:Nat}{x y z u:AK}(h:B6 w b x y z u):b<w.heap.size:=(Array.getElem?_eq_some_iff.1 h).1
theorem B6.below{w a:AA}{b B:Nat}{x y z u:AK}(h:B6 w b x y z u)(c:AD B w a)(d:b<B):B6 a b x y z u:=(c.block b d).trans h
theorem B6.next{w a:AA}{b:Nat}{x y z u:AK}(h:B6 w b x y z u)(c:AD w.heap.size w a):B6 a b x y z u:=h.below c h.lt
theorem B6.row{w:AA}{b:Nat}{x y z u:AK}(h:B6 w b x y z u)(a c d e:AK):B6 (w.setRow b #[a,c,d,e]) b a c d e:=setRow_heap w b _ _ _ _ h
theorem B6.other{w:AA}{b c:Nat}{x y z u:AK}(h:B6 w b x y z u)(a:b≠c)(cs:Array AK):B6 (w.setRow c cs) b x y z u:=(setRow_other w c b cs a).trans h
end Go.Proofs.YteofommckgeemaaGreatDoor
namespace Go.Proofs.YteofommckgeemaaGreatDoor
open Go.RowKit Go.Shelf Go.Proofs.Tryz
set_option linter.unusedVariables false
set_option maxRecDepth 100000
set_option maxHeartbeats 8000000
theorem D9(b:Int)(e:1<=b/\b<=5):∃F:Nat,(∀args w,(callFunc F args).run prog w=.ok (.enter F args) w)
 /\(∀neg a p,(p=0\/p=1\/p=2\/p=3)->cA F #[Kj neg a p] (.bool (V4 b neg a p)))
 /\cA 149 #[.int .i64 b] (.tuple #[.agg #[DF F],.bool true]):=by
 have d:b=1\/b=2\/b=3\/b=4\/b=5:=by omega
 rcases d with rfl|rfl|rfl|rfl|rfl
 ·exact⟨_,enters_of func204 (by kernel_rfl) rfl,λneg a p c X=>mp neg a p c X,JL⟩
 ·exact⟨_,enters_of func205 (by kernel_rfl) rfl,λneg a p c X=>mq neg a p c X,JM⟩
 ·exact⟨_,enters_of func206 (by kernel_rfl) rfl,λneg a p c X=>mr neg a p c X,JN⟩
 ·exact⟨_,enters_of func207 (by kernel_rfl) rfl,λneg a p c X=>ms neg a p c X,JO⟩
 ·exact⟨_,enters_of func208 (by kernel_rfl) rfl,λneg a p c X=>mt neg a p c X,JP⟩
theorem Jp(a:Int)(neg:Bool)(s:AB)(b:Int)(rest:Bool)(w:AA)(k:s.size<=4611686018427387904):
 cB 173 #[.int .i64 a,.bool neg,.string s,.int .i64 b,.bool rest] w (.tuple #[.string (Zq a neg s b rest),.bool (Zm a s b rest)]):=by
 by_cases f:1<=a/\a<=5
 ·obtain⟨F,l,q,r⟩:=D9 a f;have n:=zq q;have g:=zq r;clear q r;cases hn:Be 200 s with
  |false=>
   have c:Hid (Zq a neg s b rest={data:=#[]}/\Zm a s b rest=false):=by
    show _/\_
    unfold Zq Zm Zn;rw[hn];simp
   have i:=zq hn;rw[c.out.1,c.out.2];clear hn f c l n;go_enter func173,ntmps173;go_wp2_with fail;refine cm (g _) λj d=>?_;go_wp2_with fail;refine(A0 s _ k).mono ?_;rintro e o ⟨rfl,rfl⟩;rw[i];go_wp2;go_ret2;exact⟨rfl,d.alloc d.size _⟩
  |true=>
   have i:=zq hn;by_cases h:0<=b/\b<=200
   ·have c:Hid (Zq a neg s b rest=tx (nt (BC a neg (nv s) b.toNat rest))/\Zm a s b rest=BJ (nv s) b.toNat rest):=by
     have:Zn a s b=true:=by unfold Zn;rw[hn,Bz f,Bz h];rfl
     show _/\_
     unfold Zq Zm;rw[this,zyp rfl,zyp rfl];exact⟨rfl,rfl⟩
    rw[c.out.1,c.out.2];obtain⟨m,rfl⟩:=Int.eq_ofNat_of_zero_le h.1;obtain⟨t,x,u⟩:=Fk 200 s hn;have y:Hid (cA 222 #[.agg #[DF F],.bool neg,.string s,.int .i64 (m:Int),.bool rest] (.tuple #[.string (tx (nt (BC a neg (nv s) (m:Int).toNat rest))),.bool (BJ (nv s) (m:Int).toNat rest)])):=λX=>by
     have:=JK F a l n neg (dl s) m rest X t (by omega) (by omega);rw[<-u] at this;exact this
    obtain⟨z,A⟩:¬(m:Int)<0/\¬200<(m:Int):=by omega
    clear t x u hn f c h l n;generalize tx (nt (BC a neg (nv s) (m:Int).toNat rest))=R at*
    generalize BJ (nv s) (m:Int).toNat rest=L at*
    go_enter func173,ntmps173;go_wp2_with fail;refine cm (g _) λj d=>?_;go_wp2_with fail;refine cm (A0 s _ k) λo p=>?_;rw[i];have v:AD w.heap.size w o:=by rw[p];exact d.alloc d.size _
    have B:=A9 j (DF F) 177;rw[<-p] at B;clear p d;go_wp2_with fail;refine cm (y _) λD C=>?_;go_wp2;go_ret2;exact⟨rfl,v.trans (C.mono v.size)⟩
   ·have c:Hid (Zq a neg s b rest={data:=#[]}/\Zm a s b rest=false):=by
     have:Zn a s b=false:=by unfold Zn;rw[By h];simp
     show _/\_
     unfold Zq Zm;rw[this];exact⟨rfl,rfl⟩
    rw[c.out.1,c.out.2];clear hn f c l n;by_cases z:b<0
    ·clear h;go_enter func173,ntmps173;go_wp2_with fail;refine cm (g _) λj d=>?_;go_wp2_with fail;refine(A0 s _ k).mono ?_;rintro e o ⟨rfl,rfl⟩;rw[i];go_wp2;go_ret2;exact⟨rfl,d.alloc d.size _⟩
    ·have A:200<b:=by omega
     clear h;go_enter func173,ntmps173;go_wp2_with fail;refine cm (g _) λj d=>?_;go_wp2_with fail;refine ce (A0 s _ k) ?_;rw[i];go_wp2;go_ret2;exact⟨rfl,d.alloc d.size _⟩
 ·have c:Hid (Zq a neg s b rest={data:=#[]}/\Zm a s b rest=false):=by
   have:Zn a s b=false:=by unfold Zn;rw[By f];rfl
   show _/\_
   unfold Zq Zm;rw[this];exact⟨rfl,rfl⟩
  rw[c.out.1,c.out.2];have g:=zq λX=>Eo a f X;clear f c;go_enter func173,ntmps173;go_wp2_with fail;refine cm (g _) λj d=>?_;go_wp2;go_ret2;exact⟨rfl,d.alloc d.size _⟩
end Go.Proofs.YteofommckgeemaaGreatDoor
namespace Go.Proofs.YteofommckgeemaaGreatDoor
open Go.RowKit Go.Proofs.Tryz
set_option linter.unusedVariables false
set_option maxRecDepth 100000
set_option maxHeartbeats 8000000
abbrev Mb(s:AB)(e:Int):AK:=.agg #[.string s,.int .i64 e]
def Ce(W:AA)(b:Nat)(T:TypeId)(x y:AK):Prop:=W.heap[b]?=some (.cells #[x,y] T (0,0))
theorem GK(w:AA)(T:TypeId)(x y:AK):Ce (w.alloc (.cells #[x,y] T)) w.heap.size T x y:=(MapKept.heap_alloc w (.cells #[x,y] T)).1
theorem Ce.cells{w:AA}{b:Nat}{T:TypeId}{x y:AK}(h:Ce w b T x y):w.cell? ⟨b,0,none⟩=some x/\w.cell? ⟨b,1,none⟩=some y:=by
 unfold Ce at h;exact⟨by simp[World.cell?,h],by simp[World.cell?,h]⟩
theorem Ce.lt{w:AA}{b:Nat}{T:TypeId}{x y:AK}(h:Ce w b T x y):b<w.heap.size:=(Array.getElem?_eq_some_iff.1 h).1
theorem Ce.below{w a:AA}{b B:Nat}{T:TypeId}{x y:AK}(h:Ce w b T x y)(c:AD B w a)(d:b<B):Ce a b T x y:=(c.block b d).trans h
theorem Ce.row{w:AA}{b:Nat}{T:TypeId}{x y:AK}(h:Ce w b T x y)(a c:AK):Ce (w.setRow b #[a,c]) b T a c:=setRow_heap w b _ _ _ _ h
theorem Ce.other{w:AA}{b c:Nat}{T:TypeId}{x y:AK}(h:Ce w b T x y)(a:b≠c)(cs:Array AK):Ce (w.setRow c cs) b T x y:=(setRow_other w c b cs a).trans h
theorem o6(s:AB)(e:Int):(#[.string s,.int .i64 e]:Array AK).all (·.oneCell')=true:=by simp[Value.oneCell']
theorem IV{a:Func}{p:Tmp}{b:Nat}{x y:AK}(h:a.results=#[.cell p 192])(c:Array AK)(w:AA)(d:c[p]?.getD undef=.pointer (some ⟨b,0,none⟩))
 (e:w.cell? ⟨b,0,none⟩=some x) (f:w.cell? ⟨b,1,none⟩=some y):(results a c).run prog w=.ok (.agg #[x,y]) w:=by
 simp[results,h,d,go_sem,e,f]
theorem GM(s:AB)(e:Int)(w:AA):(Instr.build 192 #[(0,.string s),(1,.int .i64 e)]).run prog w=.ok (Mb s e) w:=run_build w _ _ _ (by kernel_rfl)
theorem IX(s:AB)(e:Int)(w:AA)(a:s.size<=4611686018427387904):
 cB 220 #[Mb s e] w (.int .i64 s.size):=by
 go_enter func220,ntmps220;go_wp2;go_ret;exact⟨rfl,bA⟩
abbrev jP(w:AA)(s:AB)(e:Int):AA:=(w.alloc (.cells #[.string s,.int .i64 e] 192)).alloc (.cells #[.string ⟨#[]⟩,.int .i64 0] 192)
theorem QG(w:AA)(s:AB)(e:Int):(jP w s e).heap.size=w.heap.size+1+1:=by simp
theorem Sh(w:AA)(s:AB)(e:Int):Ce (jP w s e) w.heap.size 192 (.string s) (.int .i64 e)/\Ce (jP w s e) (w.heap.size+1) 192 (.string ⟨#[]⟩) (.int .i64 0)/\AD w.heap.size w (jP w s e):=by
 have a:=GK w 192 (.string s) (.int .i64 e);have b:=GK (w.alloc (.cells #[.string s,.int .i64 e] 192)) 192 (.string ⟨#[]⟩) (.int .i64 0);rw[show(w.alloc (.cells #[.string s,.int .i64 e] 192)).heap.size=w.heap.size+1 by simp] at b;exact⟨a.below bA a.lt,b,FU _ _ _⟩
abbrev j4(w:AA)(s:AB)(e:Int):AA->Prop:=λW=>AD (w.heap.size+1+1) (jP w s e) W
theorem OE{w:AA}{s:AB}{e:Int}{W:AA}(h:j4 w s e W):Ce W w.heap.size 192 (.string s) (.int .i64 e)/\Ce W (w.heap.size+1) 192 (.string ⟨#[]⟩) (.int .i64 0)/\AD w.heap.size w W:=by
 obtain⟨a,b,c⟩:=Sh w s e;exact⟨a.below h (by omega),b.below h (by omega),c.trans (h.mono (by omega))⟩
theorem LQ{w:AA}{s:AB}{e:Int}{W a:AA}(h:j4 w s e W)(b:AD W.heap.size W a):j4 w s e a:=h.trans (b.mono (by have:=h.size;rwa[QG] at this))
theorem OY(D:AG)(e:Int)(n:Nat)(w:AA)(m:D.length<=600)(h:n<=600)(o:-1000000<=e/\e<=1000000):
 cB 221 #[Mb (tx D) e,.int .i64 n] w (Mb (tx (D++List.replicate n 0)) (e-n)):=by
 have i:=zq λX=>Gl n h X;have j:Hid (j4 w (tx D) e (jP w (tx D) e).drew):=(BI _ _).drew;have p:=Ax D (List.replicate n 0);have q:=AE D;have r:(tx (List.replicate n 0)).size=n:=by rw[AE,GG]
 have s:IntKind.i64.wrap (e-(n:Int))=e-n:=Dn (by omega);have t:=GM (tx (D++List.replicate n 0)) (e-n);have u:¬9223372036854775807<D.length+n:=by omega
 go_enter func221,ntmps221;go_upto_region 1 with fail;refine AM (C:=j4 w (tx D) e) 9 j ?_;simp only[Hy,List.take_zero,Ia,List.drop_zero];repeat (go_big_quiet_step ((intro b;rename_i k;first|exact rfl|exact Calls.class_of (i k) (λv l=>LQ b l)|(obtain⟨x,y⟩:=(OE b).1.cells;go_simp;exact rfl))))
 refine wpQuiet_nil ?_;intro z c;obtain⟨-,d,f⟩:=OE c;have a:=Ab d f;clear c d f;go_wp2_with (refine sC a.1 (tx (D++List.replicate n 0)) (e-n) ?_);have g:=(a.1.row (.string (tx (D++List.replicate n 0))) (.int .i64 (e-n))).cells;refine Do (IV rfl _ _ rfl g.1 g.2) rfl ?_;exact⟨rfl,AC a.2 (by omega) _⟩
theorem NU{T:TypeId}{f:Int}{P:Nat}{u v:Int}(j:Fm T f P u v)(D:AG)(e a:Int)(w:AA)(x:D.length<=600)(y:-1000000<=e/\e<=1000000)(z:-1000000<=a/\a<=1000000):
 cB 169 #[Mb (tx D) e,.iface T (.agg #[]),.int .i64 a] w (Mb (tx (D++List.replicate (fC D.length P e a) 0)) (e-fC D.length P e a)):=by
 have F:=j.num;obtain⟨n,b⟩:=zxe (fC D.length P e a);rw[b];have G:n<=34:=by rw[<-b];unfold fC;omega
 have H:=zq b;have I:max (0:Int) (min (e-a) (P-(D.length:Int)))=(n:Int):=by rw[<-b];unfold fC;omega
 clear b;have k:Hid (cA 221 #[Mb (tx D) e,.int .i64 n] (Mb (tx (D++List.replicate n 0)) (e-n))):=λX=>OY D e n X x (by omega) y;have l:Hid (cA 220 #[Mb (tx D) e] (.int .i64 D.length)):=λX=>by
  have:=IX (tx D) e X (by rw[AE];omega);rwa[AE] at this
 have m:Hid (j4 w (tx D) e (jP w (tx D) e).drew):=(BI _ _).drew;have J:=zw (e-a) (by omega);have K:=zw (P-(D.length:Int)) (by omega);clear z;rcases j.cases with⟨rfl,o,A,B⟩|⟨rfl,o,A,B⟩
 all_goals
  go_enter func169,ntmps169;go_upto_region 1 with fail;refine AM (C:=j4 w (tx D) e) 12 m ?_;simp only[Hy,List.take_zero,Ia,List.drop_zero];repeat (go_big_quiet_step ((intro d;rename_i p;first|exact rfl|exact Calls.class_of (l p) (λE g=>LQ d g)|(simp only[CU,CF];go_simp;exact Calls.class_of (o p) (λE g=>LQ d g))|(obtain⟨L,M⟩:=(OE d).1.cells;go_simp;exact rfl))))
  refine wpQuiet_nil ?_;intro N q;obtain⟨-,r,s⟩:=OE q;have c:=Ab r s;clear q r s m l;go_wp2_with fail;refine cm (k _) λO h=>?_;have i:=Ab (c.1.below h c.1.lt) (c.2.trans (h.mono c.2.size));clear h c k;go_wp2_with (refine sC i.1 (tx (D++List.replicate n 0)) (e-n) ?_);have t:=(i.1.row (.string (tx (D++List.replicate n 0))) (.int .i64 (e-n))).cells;refine Do (IV rfl _ _ rfl t.1 t.2) rfl ?_;exact⟨rfl,AC i.2 (by omega) _⟩
abbrev Aa(r:AK):Ending:=.panicked [{v:=.iface 125 r,recovered:=false}]
theorem EI(k:Int)(b:Bool)(e:Int)(s:AB)(f:Int)(w:AA):(Instr.build 125 #[(0,BA k b e s f)]).run prog w=.ok (BA k b e s f) w:=run_build w _ _ _ (by kernel_rfl)
theorem Vl(w:AA):(Instr.build 125 #[]).run prog w=.ok (BA 0 false 0 {data:=#[]} 0) w:=run_build w _ _ _ (by kernel_rfl)
theorem To{a:Func}{p:Tmp}{b:Nat}{x y z u v:AK}(h:a.results=#[.cell p 125])(c:Array AK)(w:AA)(d:c[p]?.getD undef=.pointer (some ⟨b,0,none⟩))
 (e:w.cell? ⟨b,0,none⟩=some x) (f:w.cell? ⟨b,1,none⟩=some y) (g:w.cell? ⟨b,2,none⟩=some z) (i:w.cell? ⟨b,3,none⟩=some u) (j:w.cell? ⟨b,4,none⟩=some v):(results a c).run prog w=.ok (.agg #[x,y,z,u,v]) w:=by
 simp[results,h,d,go_sem,e,f,g,i,j]
theorem QU(w:AA)(x y z u v:AK)(T:TypeId):(w.alloc (.cells #[x,y,z,u,v] T)).cell? ⟨w.heap.size,0,none⟩=some x/\(w.alloc (.cells #[x,y,z,u,v] T)).cell? ⟨w.heap.size,1,none⟩=some y/\(w.alloc (.cells #[x,y,z,u,v] T)).cell? ⟨w.heap.size,2,none⟩=some z/\(w.alloc (.cells #[x,y,z,u,v] T)).cell? ⟨w.heap.size,3,none⟩=some u/\(w.alloc (.cells #[x,y,z,u,v] T)).cell? ⟨w.heap.size,4,none⟩=some v:=by
 have h:=(MapKept.heap_alloc w (.cells #[x,y,z,u,v] T)).1;unfold World.cell?;simp only[h];exact⟨rfl,rfl,rfl,rfl,rfl⟩
theorem A6(w:AA):cB 94 #[] w (BA 3 false 0 {data:=#[]} 1):=by
 have b:=Jj;have c:=Bt 3 false 0 {data:=#[]} 1;have d:=EI 3 false 0 {data:=#[]} 1;go_enter func94,ntmps94;go_wp2;have a:=QU w (.int .i64 3) (.bool false) (.int .i64 0) (.string ⟨#[]⟩) (.int .i64 1) 125;refine Do (To rfl _ _ rfl a.1 a.2.1 a.2.2.1 a.2.2.2.1 a.2.2.2.2) rfl ?_;exact⟨rfl,bA⟩
theorem KD(a:Int)(n g:Nat)(K:Nat->Int)(B:Nat->Bool)(E:Nat->Int)(S:Nat->AB)(w:AA)(D:n<=3)(m:g<w.heap.size)(o:EY w g n K B E S):
 cB 153 #[.slice (some ⟨g,0,none⟩) n n,.int .i64 a] w (.bool (decide (∃i,i<n/\K i=a))):=by
 have p:=Ab o m;clear o m;obtain⟨R,f⟩:=zxe (decide (∃i,i<n/\K i=a));have q:=zq f;rw[f];clear f;go_enter func153,ntmps153;go_wp2;go_loopw [9] (λs wr=>∃j:Nat,j<=n/\s=.int .i64 j/\Hid (∀i,i<j->K i≠a)/\Hid (AD w.heap.size w wr)) (λs _=>n-(intOf s).toNat);case atStart=>exact⟨0,B9 _,rfl,λi h=>by omega,BI _ _⟩
 case round=>
  obtain⟨j,F,rfl,d,b⟩:=hrel;by_cases r:j<n
  ·obtain⟨v,x,y,z⟩:=(p.1.below b p.2) j r;have G:(j:Int)<(n:Int):=by omega
   obtain⟨t,k⟩:=zxe (K j);have u:=zq k;rw[k] at v;clear k;generalize B j=H at x;generalize E j=I at y;generalize S j=J at z;by_cases e:t=a
   ·subst e;have l:Hid (R=true):=by show _=_;rw[<-q];exact Bz ⟨j,r,u⟩
    clear d;go_wp2;go_ret;exact⟨by rw[l];rfl,b.alloc b.size _⟩
   ·have L:(t==a)=false:=beq_eq_false_iff_ne.2 e;have A:Hid (∀i,i<j+1->K i≠a):=λi h=>by
     by_cases c:i<j
     ·exact d i c
     ·obtain rfl:i=j:=by omega
      rw[u];exact e
    clear e d;go_wp2;go_roundw;case rel=>exact⟨j+1,by omega,by go_num,A,b.alloc b.size _⟩
    case measure=>simp[intOf];omega
  ·obtain rfl:j=n:=by omega
   have l:Hid (R=false):=by show _=_;rw[<-q];exact By (by rintro⟨i,h,C⟩;exact d i h C)
   go_wp2;go_ret;exact⟨by rw[l];rfl,b⟩
def BO(f m:Int)(n:Nat)(K:Nat->Int)(B:Nat->Bool)(E:Nat->Int)(S:Nat->AB):Bool:=decide (1<=m/\m<=5)&&decide (∀i,i<n->AQ f (K i) (B i) (E i) (S i)=true)
def SB(f m:Int)(n:Nat)(K:Nat->Int)(B:Nat->Bool)(E:Nat->Int)(S:Nat->AB):Ending:=
 if BO f m n K B E S then(if GB n K then Aa (BA 3 false 0 {data:=#[]} (DL n K)) else .returned (.tuple #[])) else Aa (BA 0 false 0 {data:=#[]} 0)
theorem Q8(m:Int)(w:AA):Calls prog 149 #[.int .i64 m] w λe a=>∃v,v.oneCell'=true/\e=.returned (.tuple #[.agg #[v],.bool (decide (1<=m/\m<=5))])/\AD w.heap.size w a:=by
 by_cases b:1<=m/\m<=5
 ·rw[Bz b];have c:m=1\/m=2\/m=3\/m=4\/m=5:=by omega
  rcases c with rfl|rfl|rfl|rfl|rfl
  ·exact(JL w).mono λe a h=>⟨_,rfl,h⟩
  ·exact(JM w).mono λe a h=>⟨_,rfl,h⟩
  ·exact(JN w).mono λe a h=>⟨_,rfl,h⟩
  ·exact(JO w).mono λe a h=>⟨_,rfl,h⟩
  ·exact(JP w).mono λe a h=>⟨_,rfl,h⟩
 ·rw[By b];exact(Eo m b w).mono λe a h=>⟨_,rfl,h⟩
theorem CI(f m:Int)(n g:Nat)(K:Nat->Int)(B:Nat->Bool)(E:Nat->Int)(S:Nat->AB)(w:AA)(h1:1<=n)(hn:n<=3)(hg:g<w.heap.size)(hr:EY w g n K B E S)(hs:∀i,i<n->(S i).size<=4611686018427387904):
 Calls prog 75 #[.int .i64 f,.int .i64 m,.slice (some ⟨g,0,none⟩) n n] w λx L=>x=SB f m n K B E S/\AD w.heap.size w L:=by
 have r:=Ab hr hg;have af:=zq hs;clear hr hs hg;obtain⟨R,M⟩:=zxe (SB f m n K B E S);have C:=zq M;rw[M];clear M;obtain⟨N,O⟩:=zxe (decide (1<=m/\m<=5));have ag:Hid (∀X,Calls prog 149 #[.int .i64 m] X λe L=>∃v,v.oneCell'=true/\e=.returned (.tuple #[.agg #[v],.bool N])/\AD X.heap.size X L):=λX=>by rw[<-O];exact Q8 m X
 have D:=zq O;clear O;have ao:=Vl;go_enter func75,ntmps75;go_wp2_with fail;refine(ag _).mono ?_;rintro e l ⟨v,ho,rfl,ai⟩;have F:=zq ai;clear ai;have aj:=(MapKept.heap_alloc l (.cells #[.nilFunc] 177)).1;have ak:(#[v]:Array AK).all (·.oneCell')=true:=by simp[ho]
 go_wp2_with (refine wpList_store_row rfl 177 (.tmp 6) (.tmp 13) rfl l.heap.size #[v] rfl rfl _ _ aj (by kernel_rfl) rfl ak ?_);have ap:Hid (AD w.heap.size w ((l.alloc (.cells #[.nilFunc] 177)).setRow l.heap.size #[v])):=AC (F.out.alloc F.out.size _) F.out.size _;generalize (l.alloc (.cells #[.nilFunc] 177)).setRow l.heap.size #[v]=w2 at*
 clear aj ak ho ag F;generalize l.heap.size=r1 at*
 go_loopw [17] (λs wr=>∃j:Nat,j<=n/\s=.int .i64 j/\Hid (0<j->N=true)/\Hid (∀i,i<j->AQ f (K i) (B i) (E i) (S i)=true)/\Hid (AD w.heap.size w wr)) (λs _=>n-(intOf s).toNat);case atStart=>exact⟨0,B9 _,rfl,λh=>absurd h (Nat.lt_irrefl _),λi b=>by omega,ap⟩
 case round=>
  obtain⟨j,hj,rfl,G,z,a⟩:=hrel;by_cases P:j<n
  ·obtain⟨Q,T,U,W⟩:=(r.1.below a r.2) j P;have aC:(j:Int)<(n:Int):=by omega
   cases N with
   |false=>
    have Y:Hid (R=Aa (BA 0 false 0 {data:=#[]} 0)):=by show _=_;rw[<-C];unfold SB BO;rw[D];rfl
    generalize K j=k0 at Q;generalize B j=b0 at T;generalize E j=e0 at U;generalize S j=s0 at W;clear G z D;go_wp2;exact⟨rfl,by rw[Y],a.alloc a.size _⟩
   |true=>
    have o:=zq λX=>EM f (K j) (B j) (E j) (S j) X (af j P);obtain⟨V,Z⟩:=zxe (AQ f (K j) (B j) (E j) (S j));have al:=zq Z;rw[Z] at o;clear Z;generalize K j=k0 at Q o;generalize B j=b0 at T o;generalize E j=e0 at U o;generalize S j=s0 at W o;go_wp2_with fail;refine cm (o _) λw3 p=>?_;have d:=zq ((a.alloc a.size _).trans (p.mono (a.alloc a.size _).size));clear p a Q T U W o;cases V
    ·have Y:Hid (R=Aa (BA 0 false 0 {data:=#[]} 0)):=by
      show _=_
      rw[<-C];unfold SB BO;have aw:¬∀i,i<n->AQ f (K i) (B i) (E i) (S i)=true:=λh=>by
       have:=h j P;rw[al] at this;cases this
      rw[By aw,Bool.and_false];rfl
     clear G z;go_wp2;exact⟨rfl,by rw[Y],d⟩
    ·go_wp2;go_roundw;case rel=>exact⟨j+1,by omega,by go_num,(λ_=>by first|rfl|trivial),λi b=>by
      by_cases c:i<j
      ·exact z i c
      ·obtain rfl:i=j:=by omega
       exact al,d⟩
     case measure=>simp[intOf];omega
  ·obtain rfl:j=n:=by omega
   have t:=Ab (r.1.below a r.2) (DU r.2 a.size);have u:Hid (R=if GB j K then Aa (BA 3 false 0 {data:=#[]} (DL j K)) else .returned (.tuple #[])):=by
    show _=_
    rw[<-C];unfold SB BO;rw[D,G.out (by omega),Bz z.out];rfl
   clear G z D C ao af r;go_wp2_with fail;refine cm (KD 4 j g K B E S wr hn t.2 t.1) λw3 p=>?_;have d:=zq (a.trans (p.mono a.size));have H:=Ab (t.1.below p t.2) (DU t.2 p.size);clear p a t;by_cases q:∃i,i<j/\K i=4
   ·rw[Bz q];have A:Hid (R=Aa (BA 3 false 0 {data:=#[]} 1)):=by
     show _=_
     obtain⟨i,b,k⟩:=q;rw[u,show GB j K=true from Bz ⟨i,b,.inr k⟩,show DL j K=1 from zyp ⟨i,b,k⟩];rfl
    clear u q H;go_wp2_with fail;refine cm (A6 _) λw4 I=>?_;go_wp2;exact⟨rfl,by rw[A],d.trans (I.mono d.size)⟩
   ·rw[By q];have F4:Hid (DL j K=0):=zyn q;have J:Hid (GB j K=decide (∃i,i<j/\K i=3)):=by
     show decide _=decide _
     refine decide_eq_decide.2 ⟨?_,?_⟩
     ·rintro⟨i,b,k|k⟩
      ·exact⟨i,b,k⟩
      ·exact absurd ⟨i,b,k⟩ q
     ·rintro⟨i,b,k⟩;exact⟨i,b,.inl k⟩
    clear q;go_wp2_with fail;refine cm (KD 3 j g K B E S w3 hn H.2 H.1) λw4 I=>?_;have an:=zq (d.trans (I.mono d.size));clear I d H;by_cases y:∃i,i<j/\K i=3
    ·rw[Bz y];have A:Hid (R=Aa (BA 3 false 0 {data:=#[]} 0)):=by
      show _=_
      rw[u,J,Bz y,F4];rfl
     clear u y J F4;have c1:=Jj;have c2:=AT 3 false 0 {data:=#[]};have c3:=EI 3 false 0 {data:=#[]} 0;go_wp2;exact⟨rfl,by rw[A],an⟩
    ·rw[By y];have A:Hid (R=.returned (.tuple #[])):=by
      show _=_
      rw[u,J,By y];rfl
     clear u y J F4;go_wp2;first|go_end0|refine Do (results_none rfl _ _ _) rfl ?_
     exact⟨by rw[A],an⟩
section
variable {P : Program} {ops : Array Oper} {Q : Exit → Act → List Frame → World → Prop} {cs : List Frame}
theorem KQ(g:¬LetsOut λe c b=>Q e c cs b)(l:List Nat):∀(a:Act) (w:AA),wpOps P ops (λe c b=>Q e c cs b) l a w->wpOpsS P ops Q l a cs w:=by
 induction l with
 |nil=>intro a w h;exact h
 |cons i r ih=>
  intro a w h;simp only[wpOps] at h;simp only[wpOpsS];cases ho:ops[i]? with
  |none=>simp only[ho] at h ⊢;exact ih _ _ h
  |some o=>
   simp only[ho] at h ⊢;by_cases f:Region.wanted o (yielded ops a.tmps)=true
   ·simp only[f,if_true] at h ⊢;rcases h with h|⟨-,h⟩
    ·have d:=Oper.wp_mono (λc b k=>ih c b k) h;unfold Oper.wp at d;split
     ·rename_i b j;rw[j] at d;exact d.elim
     ·exact d
    ·exact absurd h g
   ·simp only[f] at h ⊢;exact ih _ _ h
theorem F7{i:Nat}{o:Oper}{l:List Oper}{a:Act}{w:AA}{cs':List Frame}(k:o.guard=none)(m:(execOp a.eval o).run P w=.ok .recover w)(v:AK)
 (b:recoverD cs=some (v,cs')\/(recoverD cs=none/\v=.nilIface/\cs'=cs)) (f:¬LetsOut λe c d=>Q e c cs' d)
 (h:wpList P (o::l).toArray (λe c d=>Q e c cs' d) l (a.put o.dst v) w):(Code.region i (o::l).toArray false).wpS P Q a cs w:=by
 apply wpS_region;have n:List.range (o::l).toArray.size=0::List.range' 1 l.length:=by
  rw[List.range_eq_range'];simp[List.range'_succ]
 have p:Region.wanted o (yielded (o::l).toArray a.tmps)=true:=by simp[Region.wanted,k]
 have g:wpOps P (o::l).toArray (λe c d=>Q e c cs' d) (List.range' 1 l.length) (a.put o.dst v) w:=by
  rw[wpOps_eq_wpList l 1 (λj=>by simp[Nat.add_comm 1 j])];exact h
 rw[n];simp only[wpOpsS];have q:(o::l).toArray[0]?=some o:=by simp
 simp only[q,p,if_true,m];rcases b with b|⟨b,rfl,rfl⟩
 ·simp only[b];exact KQ f _ _ _ g
 ·simp only[b];exact KQ f _ _ _ g
end
theorem SR(w:AA):(Instr.typeAssert .nilIface 20 125 true).run prog w=.ok (.tuple #[BA 0 false 0 {data:=#[]} 0,.bool false]) w:=by kernel_rfl
theorem Vb(k:Int)(b:Bool)(e:Int)(s:AB)(f:Int)(w:AA):(Instr.typeAssert (.iface 125 (BA k b e s f)) 20 125 true).run prog w=.ok (.tuple #[BA k b e s f,.bool true]) w:=by kernel_rfl
theorem Si(b:Nat)(w:AA):
 CallsD prog 151 #[.pointer (some ⟨b,0,none⟩)] .returning w λe d f=>e=.returned (.tuple #[])/\d=.returning/\AD w.heap.size w f:=by
 have i:=SR;refine callsD_of_wpS func151 rfl λg cs c=>?_;simp only[ntmps151,List.size_toArray,List.length_cons,List.length_nil,Nat.reduceAdd,Nat.reduceSub,Array.replicate_succ,Array.replicate_zero,List.push_toArray,List.append_toArray,List.nil_append,List.cons_append];apply wpS_seq;refine F7 (cs':=g::cs) rfl rfl .nilIface (.inr ⟨by simp[recoverD,c],rfl,rfl⟩) ?_ ?_
 ·rintro⟨a,f,d,h⟩;simp at h
 go_wp2;show Code.wpS _ _ _ _ _ _
 refine wpS_of_wp ?_;go_wp2;refine⟨rfl,.returning,?_,.tuple #[],?_,rfl,rfl,bA⟩
 ·cases g;simp at c;simp[c]
 ·simp[results,results151]
theorem OG(b k:Nat)(x y z u v:AK)(K:Int)(N:Bool)(E:Int)(S:AB)(F:Int)(w:AA)(c:Ib w b x y z u v):
 CallsD prog 151 #[.pointer (some ⟨b,0,none⟩)] (.panicking [{v:=.iface 125 (BA K N E S F),recovered:=false}]) w λe f d=>
  e=.returned (.tuple #[])/\f=.panicking [{v:=.iface 125 (BA K N E S F),recovered:=true}]/\A5 d b K N E S F/\AD b w d:=by
 have m:=Vb K N E S F;have g:Hid (Ib (w.alloc (.cells #[.int .i64 K,.bool N,.int .i64 E,.string S,.int .i64 F] 125)) b x y z u v):=c.below bA c.lt;have i:=zq c.lt;clear c;have q:=QU w (.int .i64 K) (.bool N) (.int .i64 E) (.string S) (.int .i64 F) 125;obtain⟨n,o,p,r,s⟩:=q;refine callsD_of_wpS func151 rfl λj cs l=>?_;simp only[ntmps151,List.size_toArray,List.length_cons,List.length_nil,Nat.reduceAdd,Nat.reduceSub,Array.replicate_succ,Array.replicate_zero,List.push_toArray,List.append_toArray,List.nil_append,List.cons_append];apply wpS_seq;refine F7 (cs':={j with mode:=.panicking [{v:=.iface 125 (BA K N E S F),recovered:=true}]}::cs) rfl rfl (.iface 125 (BA K N E S F)) (.inl (by simp[recoverD,l])) ?_ ?_
 ·rintro⟨a,d,f,h⟩;simp at h
 go_wp2;show Code.wpS _ _ _ _ _ _
 refine wpS_of_wp ?_;go_wp2_with (refine sR g K N E S F ?_);refine⟨rfl,_,rfl,.tuple #[],?_,rfl,rfl,g.row _ _ _ _ _,AC ((BI _ _).alloc (Nat.le_of_lt i) _) (AS _) _⟩;simp[results,results151]
theorem FT(F:Nat)(i:Array AK)(t:∀args w,(callFunc F args).run prog w=.ok (.enter F args) w)(K:Int)(N:Bool)(E:Int)(S:AB)(c:Int)(w:AA)
 (h:Hid (∀X,AD w.heap.size w X->Calls prog F i X λe o=>(e=.returned (BA K N E S c)\/e=Aa (BA K N E S c))/\AD X.heap.size X o)):
 cB 73 #[.func (.func F) #[] i] w (BA K N E S c):=by
 have u:∀(j:Fn) (first k:Array AK) (w:AA),(Instr.makeFunc j first k).run prog w=.ok (.func j first k) w:=λ_ _ _ _=>rfl;have a:Hid (Z5 (w.alloc A2) w.heap.size/\AD w.heap.size w (w.alloc A2)):=⟨Af w _ _ _ _ _,bA⟩;go_enter_defers func73,ntmps73;go_wp2_with fail;refine(h _ a.2).mono ?_;rintro e l ⟨rfl|rfl,hb1⟩
 ·have d:=Ab (a.1.below hb1 a.1.lt) (a.2.trans (hb1.mono a.2.size));clear hb1 a h;go_wp2_with (refine sR d.1 K N E S c ?_);have m:=d.1.row (.int .i64 K) (.bool N) (.int .i64 E) (.string S) (.int .i64 c);have n:=AC d.2 (AS _) #[.int .i64 K,.bool N,.int .i64 E,.string S,.int .i64 c];generalize l.setRow w.heap.size #[.int .i64 K,.bool N,.int .i64 E,.string S,.int .i64 c]=p at*
  refine leaves_cons (f:=151) (args:=#[.pointer (some ⟨w.heap.size,0,none⟩)]) (by simp) (by simp[go_sem]) ?_;refine(Si w.heap.size p).mono ?_;rintro e q r ⟨rfl,rfl,g⟩;have b:=(m.below g m.lt).cells;refine⟨_,KS rfl _ _ rfl b.1 b.2.1 b.2.2.1 b.2.2.2.1 b.2.2.2.2.1,rfl,n.trans (g.mono n.size)⟩
 ·have d:=Ab (a.1.below hb1 a.1.lt) (a.2.trans (hb1.mono a.2.size));clear hb1 a h;go_wp2;refine leaves_cons (f:=151) (args:=#[.pointer (some ⟨w.heap.size,0,none⟩)]) (by simp) (by simp[go_sem]) ?_;refine(OG w.heap.size 0 _ _ _ _ _ K N E S c l d.1).mono ?_;rintro e q r ⟨rfl,rfl,s,g⟩;have b:=s.cells;refine⟨_,KS rfl _ _ rfl b.1 b.2.1 b.2.2.1 b.2.2.2.1 b.2.2.2.2.1,rfl,d.2.trans g⟩
theorem BR(b:Bool)(e v:Int)(w:AA)(h:Bp v):cB 93 #[AH 1 b e (tn v)] w (.bool (decide (v=0))):=by
 by_cases a:v=0
 ·subst a;have c:((tn 0).toList==[48])=true:=by rw[T7];rfl
  go_enter func93,ntmps93;go_wp2;go_ret;exact⟨rfl,bA⟩
 ·have c:=J6 h a;rw[By a];clear a;go_enter func93,ntmps93;go_wp2;go_ret;exact⟨rfl,bA⟩
theorem Ix(b:Bool)(e:Int)(s:AB)(w:AA):cB 93 #[AH 2 b e s] w (.bool false):=by
 go_enter func93,ntmps93;go_wp2;go_ret;exact⟨rfl,bA⟩
abbrev oo(w:AA)(a:Int)(b:Bool)(c:Int)(d:AB)(e:Int)(f:Bool)(g:Int)(h:AB):AA:=((w.alloc (AY a b c d)).alloc (AY e f g h)).alloc VU
def N3(w:AA)(a:Int)(b:Bool)(c:Int)(d:AB)(e:Int)(f:Bool)(g:Int)(h:AB)(W:AA):Prop:=
 A4 W w.heap.size a b c d/\A4 W (w.heap.size+1) e f g h/\Z4 W (w.heap.size+2)/\AD w.heap.size w W
theorem GZ(w:AA)(a:Int)(b:Bool)(c:Int)(d:AB)(e:Int)(f:Bool)(g:Int)(h:AB):N3 w a b c d e f g h (oo w a b c d e f g h):=by
 unfold oo;have q:=As w (.int .i64 a) (.bool b) (.int .i64 c) (.string d);have n:=AN w (AY a b c d);have j:AD w.heap.size w (w.alloc (AY a b c d)):=bA;generalize w.alloc (AY a b c d)=i at*
 have o:=As i (.int .i64 e) (.bool f) (.int .i64 g) (.string h);have r:=AN i (AY e f g h);have l:AD i.heap.size i (i.alloc (AY e f g h)):=bA;generalize i.alloc (AY e f g h)=k at*
 have p:=As k (.int .i64 0) (.bool false) (.int .i64 0) (.string ⟨#[]⟩);have m:AD k.heap.size k (k.alloc VU):=bA;rw[r,n] at p;rw[n] at o;have s:=o.next m;exact⟨(q.next l).next m,s,p,(j.trans (l.mono j.size)).trans (m.mono (j.trans (l.mono j.size)).size)⟩
theorem N3.next{w W b:AA}{c:Int}{d:Bool}{e:Int}{f:AB}{g:Int}{i:Bool}{j:Int}{k:AB}(h:N3 w c d e f g i j k W)(a:AD W.heap.size W b):N3 w c d e f g i j k b:=
 ⟨h.1.next a,h.2.1.next a,h.2.2.1.next a,h.2.2.2.trans (a.mono h.2.2.2.size)⟩
theorem B6.set2{w:AA}{b:Nat}{x y z u:AK}(h:B6 w b x y z u)(a:AK):B6 (w.setCell ⟨b,2,none⟩ a) b x y a u:=by
 unfold B6 at*
 simp[World.setCell,Array.getElem?_modify,h]
theorem B6.set3{w:AA}{b:Nat}{x y z u:AK}(h:B6 w b x y z u)(a:AK):B6 (w.setCell ⟨b,3,none⟩ a) b x y z a:=by
 unfold B6 at*
 simp[World.setCell,Array.getElem?_modify,h]
theorem B6.set1{w:AA}{b:Nat}{x y z u:AK}(h:B6 w b x y z u)(a:AK):B6 (w.setCell ⟨b,1,none⟩ a) b x a z u:=by
 unfold B6 at*
 simp[World.setCell,Array.getElem?_modify,h]
theorem B6.far{w:AA}{b c:Nat}{x y z u:AK}(h:B6 w b x y z u)(a:c≠b)(i:Nat)(v:AK):B6 (w.setCell ⟨c,i,none⟩ v) b x y z u:=by
 unfold B6 at*
 simp[World.setCell,Array.getElem?_modify,h,a]
theorem N3.x2{w W:AA}{a:Int}{b:Bool}{j:Int}{c:AB}{d:Int}{e:Bool}{f:Int}{g:AB}(h:N3 w a b j c d e f g W)(i:Int):N3 w a b i c d e f g (W.setCell ⟨w.heap.size,2,none⟩ (.int .i64 i)):=
 ⟨h.1.set2 _,h.2.1.far (by omega) _ _,h.2.2.1.far (by omega) _ _,h.2.2.2.setCell (AS _) _⟩
theorem N3.x3{w W:AA}{a:Int}{b:Bool}{c:Int}{j:AB}{d:Int}{e:Bool}{f:Int}{g:AB}(h:N3 w a b c j d e f g W)(i:AB):N3 w a b c i d e f g (W.setCell ⟨w.heap.size,3,none⟩ (.string i)):=
 ⟨h.1.set3 _,h.2.1.far (by omega) _ _,h.2.2.1.far (by omega) _ _,h.2.2.2.setCell (AS _) _⟩
theorem N3.y2{w W:AA}{a:Int}{b:Bool}{c:Int}{d:AB}{e:Int}{f:Bool}{j:Int}{g:AB}(h:N3 w a b c d e f j g W)(i:Int):N3 w a b c d e f i g (W.setCell ⟨w.heap.size+1,2,none⟩ (.int .i64 i)):=
 ⟨h.1.far (by omega) _ _,h.2.1.set2 _,h.2.2.1.far (by omega) _ _,h.2.2.2.setCell (show w.heap.size<=w.heap.size+1 by omega) _⟩
theorem N3.y3{w W:AA}{a:Int}{b:Bool}{c:Int}{d:AB}{e:Int}{f:Bool}{g:Int}{j:AB}(h:N3 w a b c d e f g j W)(i:AB):N3 w a b c d e f g i (W.setCell ⟨w.heap.size+1,3,none⟩ (.string i)):=
 ⟨h.1.far (by omega) _ _,h.2.1.set3 _,h.2.2.1.far (by omega) _ _,h.2.2.2.setCell (show w.heap.size<=w.heap.size+1 by omega) _⟩
theorem N3.rowx{w W:AA}{j:Int}{k:Bool}{l:Int}{m:AB}{a:Int}{b:Bool}{c:Int}{d:AB}(h:N3 w j k l m a b c d W)(e:Int)(f:Bool)(g:Int)(i:AB):N3 w e f g i a b c d (W.setRow w.heap.size #[.int .i64 e,.bool f,.int .i64 g,.string i]):=
 ⟨h.1.row _ _ _ _,h.2.1.other (by omega) _,h.2.2.1.other (by omega) _,AC h.2.2.2 (AS _) _⟩
theorem N3.rowy{w W:AA}{a:Int}{b:Bool}{c:Int}{d:AB}{j:Int}{k:Bool}{l:Int}{m:AB}(h:N3 w a b c d j k l m W)(e:Int)(f:Bool)(g:Int)(i:AB):N3 w a b c d e f g i (W.setRow (w.heap.size+1) #[.int .i64 e,.bool f,.int .i64 g,.string i]):=
 ⟨h.1.other (by omega) _,h.2.1.row _ _ _ _,h.2.2.1.other (by omega) _,AC h.2.2.2 (by omega) _⟩
def Mo(p:Int)(a:Int)(n:Nat)(b:Int):Bool:=decide (b+n<=a-p-1)
theorem Ku(f:Int)(g:Int)(h:Bool)(a:Int)(i:AB)(d:Bool)(b:Int)(c:AB)(w:AA)(o:-20000<=a/\a<=20000)(p:-20000<=b/\b<=20000)(D:c.size<=300)(q:0<=AF f/\AF f<=34):
 cB 212 #[.int .i64 f,AH g h a i,AH 1 d b c] w (AH 1 d (if Mo (AF f) a c.size b then a-AF f-1 else b) (if Mo (AF f) a c.size b then{data:=#[49]} else c)):=by
 have k:=zq (GZ w g h a i 1 d b c);have l:Hid (cA 157 #[.int .i64 f] (.tuple #[.int .i64 (AF f),.int .i64 (AV f),.int .i64 (Ad f)])):=λX=>Eb f X;generalize AV f=F at*
 generalize Ad f=G at*
 generalize AF f=P at*
 have H:=zw (a-P) (by omega);have I:=zw (a-P-1) (by omega);have J:IntKind.i64.wrap (b+(c.size:Int))=b+c.size:=Dn (by omega);by_cases r:b+(c.size:Int)<=a-P-1
 ·have E:Hid (Mo P a c.size b=true):=Bz r;rw[E.out];simp only[if_true];clear E o p q;go_enter func212,ntmps212;go_wp2_with fail;refine cm (l _) λm j=>?_;have e:Hid (N3 w g h a i 1 d b c m):=k.next j;obtain⟨s,t,u,v,x⟩:=e.1.cells;obtain⟨y,z,A,B,C⟩:=e.2.1.cells;have n:Hid (N3 w g h a i 1 d (a-P-1) {data:=#[49]} ((m.setCell ⟨w.heap.size+1,2,none⟩ (.int .i64 (a-P-1))).setCell ⟨w.heap.size+1,3,none⟩ (.string {data:=#[49]}))):=(e.out.y2 _).y3 _;clear j k l;go_wp2_with (refine sN n.2.2.1 1 d (a-P-1) {data:=#[49]} ?_);refine rN ((n.2.2.1.row (.int .i64 1) (.bool d) (.int .i64 (a-P-1)) (.string {data:=#[49]})).cells) ?_;exact⟨rfl,AC n.2.2.2 (by omega) _⟩
 ·have E:Hid (Mo P a c.size b=false):=By r;rw[E.out];simp only[Bool.false_eq_true,if_false];clear E o p q;go_enter func212,ntmps212;go_wp2_with fail;refine cm (l _) λm j=>?_;have e:Hid (N3 w g h a i 1 d b c m):=k.next j;obtain⟨s,t,u,v,x⟩:=e.1.cells;obtain⟨y,z,A,B,C⟩:=e.2.1.cells;clear j k l;go_wp2_with (refine sN e.2.2.1 1 d b c ?_);refine rN ((e.2.2.1.row (.int .i64 1) (.bool d) (.int .i64 b) (.string c)).cells) ?_;exact⟨rfl,AC e.2.2.2 (by omega) _⟩
abbrev VY:=Bool×(Int×Int×AB×Int)
def GF(f m:Int)(n:Nat)(K:Nat->Int)(B:Nat->Bool)(E:Nat->Int)(S:Nat->AB)(R:VY):VY:=
 if BO f m n K B E S then(if GB n K then(false,(3,0,{data:=#[]},DL n K)) else R) else(false,(0,0,{data:=#[]},0))
def P4(X:AA)(p:Nat)(f a:Int)(F:Nat)(b:Array AK)(g n:Nat):Prop:=
 X.cell? ⟨p,0,none⟩=some (.int .i64 f)/\X.cell? ⟨p+1,0,none⟩=some (.int .i64 a)/\X.cell? ⟨p+2,0,none⟩=some (.func (.func F) #[] b)/\X.cell? ⟨p+3,0,none⟩=some (.slice (some ⟨g,0,none⟩) n n)/\p+3<X.heap.size
theorem P4.next{X b:AA}{p:Nat}{f c:Int}{F:Nat}{d:Array AK}{g n:Nat}(h:P4 X p f c F d g n)(a:AD X.heap.size X b):P4 b p f c F d g n:=by
 obtain⟨e,i,j,k,l⟩:=h;exact⟨(a.cell (p:=⟨p,0,none⟩) (show p<X.heap.size by omega)).trans e,(a.cell (p:=⟨p+1,0,none⟩) (show p+1<X.heap.size by omega)).trans i,(a.cell (p:=⟨p+2,0,none⟩) (show p+2<X.heap.size by omega)).trans j,(a.cell (p:=⟨p+3,0,none⟩) (show p+3<X.heap.size by omega)).trans k,DU l a.size⟩
theorem Xk(w:AA)(f a:Int)(F:Nat)(b:Array AK)(g n:Nat)(c d e h:TypeId):
 P4 ((((w.alloc (.cells #[.int .i64 f] c)).alloc (.cells #[.int .i64 a] d)).alloc (.cells #[.func (.func F) #[] b] e)).alloc (.cells #[.slice (some ⟨g,0,none⟩) n n] h)) w.heap.size f a F b g n/\AD w.heap.size w ((((w.alloc (.cells #[.int .i64 f] c)).alloc (.cells #[.int .i64 a] d)).alloc (.cells #[.func (.func F) #[] b] e)).alloc (.cells #[.slice (some ⟨g,0,none⟩) n n] h))/\((((w.alloc (.cells #[.int .i64 f] c)).alloc (.cells #[.int .i64 a] d)).alloc (.cells #[.func (.func F) #[] b] e)).alloc (.cells #[.slice (some ⟨g,0,none⟩) n n] h)).heap.size=w.heap.size+4:=by
 have z:=A9 w (.int .i64 f) c;have l:=AN w (.cells #[.int .i64 f] c);have m:AD w.heap.size w (w.alloc (.cells #[.int .i64 f] c)):=bA;generalize w.alloc (.cells #[.int .i64 f] c)=i at*
 have o:=A9 i (.int .i64 a) d;have q:=AN i (.cells #[.int .i64 a] d);have r:AD i.heap.size i (i.alloc (.cells #[.int .i64 a] d)):=bA;generalize i.alloc (.cells #[.int .i64 a] d)=j at*
 have s:=A9 j (.func (.func F) #[] b) e;have A:=AN j (.cells #[.func (.func F) #[] b] e);have t:AD j.heap.size j (j.alloc (.cells #[.func (.func F) #[] b] e)):=bA;generalize j.alloc (.cells #[.func (.func F) #[] b] e)=k at*
 have u:=A9 k (.slice (some ⟨g,0,none⟩) n n) h;have B:=AN k (.cells #[.slice (some ⟨g,0,none⟩) n n] h);have v:AD k.heap.size k (k.alloc (.cells #[.slice (some ⟨g,0,none⟩) n n] h)):=bA;generalize k.alloc (.cells #[.slice (some ⟨g,0,none⟩) n n] h)=C at*
 rw[l] at o;rw[q,l] at s;rw[A,q,l] at u;have x:=t.trans (v.mono t.size);have y:=r.trans (x.mono r.size);refine⟨⟨(y.cell (p:=⟨w.heap.size,0,none⟩) (show w.heap.size<i.heap.size by omega)).trans z,(x.cell (p:=⟨w.heap.size+1,0,none⟩) (show w.heap.size+1<j.heap.size by omega)).trans o,(v.cell (p:=⟨w.heap.size+2,0,none⟩) (show w.heap.size+2<k.heap.size by omega)).trans s,u,by omega⟩,m.trans (y.mono m.size),by omega⟩
theorem Lt(p:Nat)(f a:Int)(F:Nat)(u:Array AK)(V:∀args w,(callFunc F args).run prog w=.ok (.enter F args) w)(n g:Nat)(K:Nat->Int)(B:Nat->Bool)(E:Nat->Int)(S:Nat->AB)(R:VY)(X:AA)(D:1<=n)(G:n<=3)(v:g<X.heap.size)(H:EY X g n K B E S)(I:∀i,i<n->(S i).size<=4611686018427387904)(J:P4 X p f a F u g n)
 (m:Hid (BO f a n K B E S=true->GB n K=false->∀Y,AD X.heap.size X Y->Calls prog F u Y λe y=>(e=.returned (BE R.1 R.2)\/e=Aa (BE R.1 R.2))/\AD Y.heap.size Y y)):
 Calls prog 156 #[.pointer (some ⟨p,0,none⟩),.pointer (some ⟨p+1,0,none⟩),.pointer (some ⟨p+3,0,none⟩),.pointer (some ⟨p+2,0,none⟩)] X λx y=>(x=.returned (BE (GF f a n K B E S R).1 (GF f a n K B E S R).2)\/x=Aa (BE (GF f a n K B E S R).1 (GF f a n K B E S R).2))/\AD X.heap.size X y:=by
 obtain⟨Q,z⟩:=zxe (GF f a n K B E S R);have h:=zq z;rw[z];clear z;have l:AD X.heap.size X (X.alloc A2):=bA;have b:Hid (Z5 (X.alloc A2) X.heap.size/\AD X.heap.size X (X.alloc A2)/\P4 (X.alloc A2) p f a F u g n):=⟨Af X _ _ _ _ _,l,J.next l⟩;obtain⟨o,q,r,s,-⟩:=b.2.2;have t:=zq (CI f a n g K B E S _ D G (DU v l.size) (H.below l v) I);clear D G v H I J l;cases hO:BO f a n K B E S with
 |false=>
  have j:Hid (SB f a n K B E S=Aa (BA 0 false 0 {data:=#[]} 0)):=by show _=_;unfold SB;rw[hO];rfl
  have k:Hid (Q=(false,(0,0,{data:=#[]},0))):=by show _=_;rw[<-h];unfold GF;rw[hO];rfl
  clear m hO h;go_enter func156,ntmps156;go_wp2_with fail;refine cm t λL d=>?_;rw[j];go_wp2;exact⟨rfl,.inr (by rw[k]),b.2.1.trans (d.mono b.2.1.size)⟩
 |true=>
  cases hS:GB n K with
  |true=>
   have j:Hid (SB f a n K B E S=Aa (BA 3 false 0 {data:=#[]} (DL n K))):=by show _=_;unfold SB;rw[hO,hS];rfl
   have k:Hid (Q=(false,(3,0,{data:=#[]},DL n K))):=by show _=_;rw[<-h];unfold GF;rw[hO,hS];rfl
   clear m hO hS h;generalize DL n K=W at*
   go_enter func156,ntmps156;go_wp2_with fail;refine cm t λL d=>?_;rw[j];go_wp2;exact⟨rfl,.inr (by rw[k]),b.2.1.trans (d.mono b.2.1.size)⟩
  |false=>
   have j:Hid (SB f a n K B E S=.returned (.tuple #[])):=by show _=_;unfold SB;rw[hO,hS];rfl
   have k:Hid (Q=R):=by show _=_;rw[<-h];unfold GF;rw[hO,hS];rfl
   have A:=zq (m hO hS);clear m hO hS h;obtain⟨M,N,O,P,T⟩:=R;go_enter func156,ntmps156;go_wp2_with fail;refine cm t λL d=>?_;rw[j];have c:=J9 (b.1.below d b.1.lt) (b.2.1.trans (d.mono b.2.1.size)) (b.2.2.next d);clear d b t o q r s j;obtain⟨o,q,r,s,-⟩:=c.2.2;go_wp2_with fail;refine(A _ c.2.1).mono ?_;rintro x Z ⟨rfl|rfl,hb2⟩
   ·have C:=Ab (c.1.below hb2 c.1.lt) (c.2.1.trans (hb2.mono c.2.1.size));clear hb2 c A o q r s;go_wp2_with (refine sR C.1 N M O P T ?_);refine rR (A1 C.1 N M O P T) ?_;exact⟨.inl (by rw[k]),AC C.2 (AS _) _⟩
   ·have U:=zq (c.2.1.trans (hb2.mono c.2.1.size));clear hb2 c A o q r s;go_wp2;exact⟨rfl,.inr (by rw[k]),U⟩
theorem DR(f c:Int)(F:Nat)(k:Array AK)(z:∀args w,(callFunc F args).run prog w=.ok (.enter F args) w)(n g:Nat)(K:Nat->Int)(B:Nat->Bool)(E:Nat->Int)(S:Nat->AB)(R:VY)(w:AA)(A:1<=n)(C:n<=3)(m:g<w.heap.size)(D:EY w g n K B E S)(G:∀i,i<n->(S i).size<=4611686018427387904)
 (H:Hid (BO f c n K B E S=true->GB n K=false->∀Y,AD w.heap.size w Y->Calls prog F k Y λe o=>(e=.returned (BE R.1 R.2)\/e=Aa (BE R.1 R.2))/\AD Y.heap.size Y o)):
 cB 82 #[.int .i64 f,.int .i64 c,.func (.func F) #[] k,.slice (some ⟨g,0,none⟩) n n] w (BE (GF f c n K B E S R).1 (GF f c n K B E S R).2):=by
 have U:∀(I:Fn) (first J:Array AK) (w:AA),(Instr.makeFunc I first J).run prog w=.ok (.func I first J) w:=λ_ _ _ _=>rfl;have L:Hid (∀X,AD w.heap.size w X->P4 X w.heap.size f c F k g n->Calls prog 156 #[.pointer (some ⟨w.heap.size,0,none⟩),.pointer (some ⟨w.heap.size+1,0,none⟩),.pointer (some ⟨w.heap.size+3,0,none⟩),.pointer (some ⟨w.heap.size+2,0,none⟩)] X λx o=>(x=.returned (BE (GF f c n K B E S R).1 (GF f c n K B E S R).2)\/x=Aa (BE (GF f c n K B E S R).1 (GF f c n K B E S R).2))/\AD X.heap.size X o):=λX h P=>
  Lt w.heap.size f c F k z n g K B E S R X A C (DU m h.size) (D.below h m) G P (λa b Y T=>H a b Y (h.trans (T.mono h.size)))
 generalize GF f c n K B E S R=Q at*
 obtain⟨p,q,r,s,t⟩:=Q;have M:=zq (Xk w f c F k g n);clear A C m D G H z;have N:=zq (enters_of func156 (by kernel_rfl) rfl);go_enter func82,ntmps82;go_wp2_with fail;generalize O:(((w.alloc _).alloc _).alloc _).alloc _=W;obtain⟨u,l,v⟩:=M _ _ _ _;rw[O] at u l v;clear O;have j:AD W.heap.size W (W.alloc A2):=bA;have d:Hid (Z5 (W.alloc A2) (w.heap.size+4)/\AD w.heap.size w (W.alloc A2)/\P4 (W.alloc A2) w.heap.size f c F k g n):=⟨by rw[<-v];exact Af W _ _ _ _ _,l.trans (j.mono l.size),u.next j⟩;clear u l j v M;refine cm (FT 156 _ N q p r s t _ (λX h=>L X (d.2.1.trans (h.mono d.2.1.size)) (d.2.2.next h))) λV j=>?_;have y:=Ab (d.1.below j d.1.lt) (d.2.1.trans (j.mono d.2.1.size));clear j d L N;go_wp2_with (refine sR y.1 q p r s t ?_);refine rR (A1 y.1 q p r s t) ?_;exact⟨rfl,AC y.2 (by omega) _⟩
end Go.Proofs.YteofommckgeemaaGreatDoor
