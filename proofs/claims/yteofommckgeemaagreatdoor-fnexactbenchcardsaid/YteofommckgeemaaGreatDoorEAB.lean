/- Steps. -/
import Derived.Test.YteofommckgeemaaGreatDoorSh0
import Derived.Test.YteofommckgeemaaGreatDoorEAA
namespace Go.Proofs.YteofommckgeemaaGreatDoor.Ln
open Go.RowKit Go.Proofs.Tryz
set_option linter.unusedVariables false
set_option linter.unusedSimpArgs false
set_option maxRecDepth 100000
set_option maxHeartbeats 8000000
def ln(w:Int)(i:Nat):Int:=w/16^i%16
theorem pow4(i:Nat):(2:Int)^(4*i)=16^i:=by rw[Int.pow_mul];rfl
theorem pow_pos16(i:Nat):(0:Int)<16^i:=Int.pow_pos (by decide)
theorem ln_lo(w:Int)(i:Nat):0<=ln w i:=Int.emod_nonneg _ (by decide)
theorem ln_hi(w:Int)(i:Nat):ln w i<16:=Int.emod_lt_of_pos _ (by decide)
def up(w:Int)(n:Nat):Int:=w*16^n%18446744073709551616
def down(w:Int)(n:Nat):Int:=w/16^n
theorem down_lo(w:Int)(n:Nat)(a:0<=w):0<=down w n:=Int.ediv_nonneg a (CP (pow_pos16 n))
theorem down_pow(x:Int)(n:Nat):x/2^(4*n)=down x n:=by unfold down;rw[pow4]
theorem ret_int{k:IntKind}{a b:Int}(h:a=b):Ending.returned (.int k a)=.returned (.int k b):=by rw[h]
theorem ret_bool{a b:Bool}(h:a=b):Ending.returned (.bool a)=.returned (.bool b):=by rw[h]
theorem val_int{k:IntKind}{a b:Int}(h:a=b):Value.int k a=.int k b:=by rw[h]
theorem ln_mod(x:Int)(i:Nat)(c:0<=x):Go.RowKit.wrap64 ((x/2^(4*i)).tmod 16)=ln x i:=by
 rw[down_pow,Int.tmod_eq_emod_of_nonneg (down_lo x i c)];have e:ln x i=down x i%16:=rfl;rw[<-e];have a:=ln_lo x i;have b:=ln_hi x i;unfold Go.RowKit.wrap64;omega
end Go.Proofs.YteofommckgeemaaGreatDoor.Ln
namespace Go.Proofs.YteofommckgeemaaGreatDoor
open Go.RowKit Go.Proofs.Tryz
set_option linter.unusedVariables false
set_option linter.unusedSimpArgs false
set_option maxRecDepth 100000
set_option maxHeartbeats 8000000
def Er(w:AA)(base:Nat)(v:AK)(zs:AG):Prop:=w.ownsRow base 2 1 v zs.length (zs.map (Value.int .i64))
theorem Ct{w a:AA}{base B:Nat}{e:TypeId}{s:Nat}{v:AK}{n:Nat}{xs:List AK}(h:w.ownsRow base e s v n xs)(c:AD B w a)(k:w.heap.size<=B):a.ownsRow base e s v n xs:=by
 obtain⟨d,h⟩:=h;refine⟨d,?_⟩;rcases h with h|⟨g,f,i,e,j,b,r⟩
 ·exact .inl h
 ·have:=(Array.getElem?_eq_some_iff.1 b).1;exact .inr ⟨g,f,i,e,j,by rw[c.block g (by omega)];exact b,r⟩
theorem Er.kept{w a:AA}{base:Nat}{v:AK}{zs:AG}(h:Er w base v zs)(c:∀k,k<w.heap.size->a.heap[k]?=w.heap[k]?):Er a base v zs:=by
 obtain⟨d,h⟩:=h;refine⟨d,?_⟩;rcases h with h|⟨g,f,i,e,j,b,r⟩
 ·exact .inl h
 ·exact .inr ⟨g,f,i,e,j,by rw[c g (Array.getElem?_eq_some_iff.1 b).1];exact b,r⟩
theorem Er.below{w a:AA}{base B:Nat}{v:AK}{zs:AG}(h:Er w base v zs)(b:AD B w a)(c:w.heap.size<=B):Er a base v zs:=
 h.kept λk d=>b.block k (by omega)
theorem Er.form{w:AA}{base:Nat}{v:AK}{zs:AG}(h:Er w base v zs):
 (v=.slice none 0 0/\zs=[])\/∃g a,v=.slice (some ⟨g,0,none⟩) zs.length a/\base<=g/\g<w.heap.size/\zs.length<=9223372036854775807/\(∀i,i<zs.length->w.cell? ⟨g,i,none⟩=some (.int .i64 (zs.getD i 0)))/\(∀i,w.frozen? ⟨g,i,none⟩=false):=by
 have b:=h;obtain⟨j,h⟩:=h;rcases h with⟨rfl,h⟩|⟨g,a,k,rfl,c,d,l,e,m,n⟩
 ·exact .inl ⟨rfl,List.length_eq_zero_iff.1 h⟩
 ·refine .inr ⟨g,a,rfl,c,(Array.getElem?_eq_some_iff.1 d).1,by unfold maxLen at e;omega,λi f=>?_,λi=>World.ownsRow.frozenAt b i⟩;rw[World.ownsRow.cellAt b i (by omega)];simp[f]
theorem Er.len{w:AA}{base:Nat}{v:AK}{zs:AG}(h:Er w base v zs):∃a b,v=.slice a zs.length b/\zs.length<=9223372036854775807:=by
 rcases h.form with⟨rfl,rfl⟩|⟨g,b,rfl,_,_,c,_⟩
 ·exact⟨_,_,rfl,by simp⟩
 ·exact⟨_,_,rfl,c⟩
theorem Jq:(prog.info? 2).map (λi=>(i.zero,i.size,i.bytes))=some (some (.int .i64 0),1,8):=by kernel_rfl
theorem Lo(w:AA):Er (w.alloc (.cells #[] 2)) w.heap.size (.slice (some ⟨w.heap.size,0,none⟩) 0 0) []:=
 World.ownsRow_made (e:=2) (size:=1) (base:=w.heap.size) w #[] 0 (AS _) (B9 _) rfl
theorem jf{a:Func}{p:Tmp}{b:Nat}{x y z u:AK}(h:a.results=#[.cell p 78])(c:Array AK)(w:AA)(d:c[p]?.getD undef=.pointer (some ⟨b,0,none⟩))
 (e:w.cell? ⟨b,0,none⟩=some x) (f:w.cell? ⟨b,1,none⟩=some y) (g:w.cell? ⟨b,2,none⟩=some z) (i:w.cell? ⟨b,3,none⟩=some u):(results a c).run prog w=.ok (.agg #[x,y,z,u]) w:=by
 simp[results,h,d,go_sem,e,f,g,i]
def F9(W:AA)(b:Nat)(x y z u:AK):Prop:=W.cell? ⟨b,0,none⟩=some x/\W.cell? ⟨b,1,none⟩=some y/\W.cell? ⟨b,2,none⟩=some z/\W.cell? ⟨b,3,none⟩=some u/\∀i,W.frozen? ⟨b,i,none⟩=false
theorem CE(w:AA)(x y z u:AK):F9 (w.alloc (.cells #[x,y,z,u] 78)) w.heap.size x y z u:=by
 refine⟨?_,?_,?_,?_,λi=>?_⟩<;>simp
theorem F9.below{W d:AA}{b B:Nat}{x y z u:AK}(h:F9 W b x y z u)(a:AD B W d)(c:b<B):F9 d b x y z u:=
 ⟨(a.cell (p:=⟨b,0,none⟩) c).trans h.1,(a.cell (p:=⟨b,1,none⟩) c).trans h.2.1,(a.cell (p:=⟨b,2,none⟩) c).trans h.2.2.1,(a.cell (p:=⟨b,3,none⟩) c).trans h.2.2.2.1,λi=>(a.frozen (p:=⟨b,i,none⟩) c).trans (h.2.2.2.2 i)⟩
theorem F9.alloc{W:AA}{b:Nat}{x y z u:AK}(h:F9 W b x y z u)(a:b<W.heap.size)(o:Obj):F9 (W.alloc o) b x y z u:=h.below bA a
theorem F9.put{W:AA}{b:Nat}{x y z u:AK}(h:F9 W b x y z u)(a c d e:AK):F9 ((((W.setCell ⟨b,0,none⟩ a).setCell ⟨b,1,none⟩ c).setCell ⟨b,2,none⟩ d).setCell ⟨b,3,none⟩ e) b a c d e:=by
 obtain⟨f,g,j,k,l⟩:=h;refine⟨?_,?_,?_,?_,λi=>?_⟩
 ·rw[Fx _ _ _ _ (by simp),Fx _ _ _ _ (by simp),Fx _ _ _ _ (by simp)];exact World.cell?_setCell_same _ _ _ f
 ·rw[Fx _ _ _ _ (by simp),Fx _ _ _ _ (by simp)];exact World.cell?_setCell_same _ _ _ (u:=y) (by rw[Fx _ _ _ _ (by simp)];exact g)
 ·rw[Fx _ _ _ _ (by simp)];exact World.cell?_setCell_same _ _ _ (u:=z) (by rw[Fx _ _ _ _ (by simp),Fx _ _ _ _ (by simp)];exact j)
 ·exact World.cell?_setCell_same _ _ _ (u:=u) (by rw[Fx _ _ _ _ (by simp),Fx _ _ _ _ (by simp),Fx _ _ _ _ (by simp)];exact k)
 ·rw[World.frozen?_setCell,World.frozen?_setCell,World.frozen?_setCell,World.frozen?_setCell];exact l i
theorem F9.drewN{W:AA}{b:Nat}{x y z u:AK}(h:F9 W b x y z u)(n:Nat):F9 (W.drewN n) b x y z u:=h
theorem F9.far{W:AA}{b:Nat}{x y z u:AK}(h:F9 W b x y z u){c:Nat}(d:c≠b)(i:Nat)(v:AK):F9 (W.setCell ⟨c,i,none⟩ v) b x y z u:=by
 obtain⟨f,g,k,l,m⟩:=h;have a:∀j,(⟨c,i,none⟩:Addr)≠⟨b,j,none⟩:=λj e=>d (by cases e;rfl);refine⟨?_,?_,?_,?_,λi=>by rw[World.frozen?_setCell];exact m i⟩
 ·rw[Fx _ _ _ _ (a 0)];exact f
 ·rw[Fx _ _ _ _ (a 1)];exact g
 ·rw[Fx _ _ _ _ (a 2)];exact k
 ·rw[Fx _ _ _ _ (a 3)];exact l
theorem LP{B:Nat}{w W:AA}(h:AD B w W){b:Nat}(a:B<=b)(x y z u:AK):AD B w ((((W.setCell ⟨b,0,none⟩ x).setCell ⟨b,1,none⟩ y).setCell ⟨b,2,none⟩ z).setCell ⟨b,3,none⟩ u):=(((h.setCell a _).setCell a _).setCell a _).setCell a _
theorem Lg(x a b:Int)(w:AA)(c:a<=x)(d:x<=b):
 cE 118 #[.int .i64 x,.int .i64 a,.int .i64 b] w (.bool true):=by
 go_enter func118,ntmps118;go_wp2;go_ret;exact⟨Ln.ret_bool (by simp),rfl⟩
theorem Ov(x a b:Int)(w:AA)(h:x<a\/b<x):
 cE 118 #[.int .i64 x,.int .i64 a,.int .i64 b] w (.bool false):=by
 by_cases c:a<=x
 ·have d:decide (x<=b)=false:=by simp;omega
  go_enter func118,ntmps118;go_wp2;go_ret;exact⟨rfl,rfl⟩
 ·have d:decide (a<=x)=false:=by simpa using c
  go_enter func118,ntmps118;go_wp2;go_ret;exact⟨rfl,rfl⟩
def tx(a:AG):AB:=strOfNums (a.map (48+ ·))
def Au(a:AG):Prop:=∀d∈a,0<=d/\d<=9
theorem AR(a:AG):(tx a).data=(a.map λd=>UInt8.ofNat (48+d).toNat).toArray:=by
 unfold tx strOfNums;simp
theorem AE(a:AG):(tx a).size=a.length:=by
 show(tx a).data.size=_
 rw[AR];simp
theorem Ah(a:AG)(h:Au a)(k:Nat):0<=a.getD k 0/\a.getD k 0<=9:=by
 rcases Nat.lt_or_ge k a.length with b|b
 ·simp only[List.getD,Dq b,Cd];exact h _ (List.getElem_mem b)
 ·simp[List.getD,List.getElem?_eq_none b]
theorem C7(a:AG)(h:Au a)(k:Nat)(c:k<(tx a).size):(((tx a)[k]'c).toNat:Int)=48+a.getD k 0:=by
 have d:k<a.length:=by rw[AE] at c;exact c
 have e:(tx a)[k]'c=UInt8.ofNat (48+a[k]).toNat:=by
  show(tx a).data[k]'_=_
  simp[AR]
 have b:=Ah a h k;rw[e];simp only[List.getD,Dq d,Cd] at b ⊢;rw[UInt8.toNat_ofNat'];omega
theorem VO(d:Int)(r:AG):(tx (d::r)).extract 1 (tx (d::r)).size=tx r:=by
 apply De;rw[ByteArray.data_extract];rw[AE,AR,AR];simp;exact List.take_of_length_le (by simp)
theorem Ax(a b:AG):tx a++tx b=tx (a++b):=by
 apply De;rw[ByteArray.data_append,AR,AR,AR];simp
def AU:AG->AG
 |[]=>[]
 |[d]=>[d]
 |d::e::r=>if d=0 then AU (e::r) else d::e::r
def lv:AG->Int
 |[]=>0
 |d::r=>d+10*lv r
def vl(a:AG):Int:=lv a.reverse
theorem CT(a b:AG):lv (a++b)=lv a+10^a.length*lv b:=by
 induction a with
 |nil=>simp[lv]
 |cons d r ih=>
  simp only[List.cons_append,lv,ih,List.length_cons,Int.pow_succ];rw[Int.mul_add,Int.add_assoc,Int.mul_comm (10^r.length) 10,Int.mul_assoc]
theorem IG(a:AG)(h:Au a):0<=lv a/\lv a<10^a.length:=by
 induction a with
 |nil=>exact⟨Int.le_refl _,by decide⟩
 |cons d r ih=>
  have i:=ih (λx c=>h x (GH _ c));have b:=h d Gx;simp only[lv,List.length_cons,Int.pow_succ];omega
theorem WT(a b:AG)(g:Au a)(i:Au b)(c:a.length=b.length)(h:lv a=lv b):a=b:=by
 induction a generalizing b with
 |nil=>cases b with
  |nil=>rfl
  |cons=>cases c
 |cons d r ih=>cases b with
  |nil=>cases c
  |cons e s=>
   have l:=g d Gx;have m:=i e Gx;simp only[lv] at h;have j:d=e:=by omega
   have k:lv r=lv s:=by omega
   rw[j,ih s (λx f=>g x (GH _ f)) (λx f=>i x (GH _ f)) (by simpa using c) k]
def AJ(a:AG):Prop:=Au a/\0<a.length/\(a.length=1\/a.headD 0≠0)
theorem DO(a:AG)(h:Au a):Au a.reverse:=λd b=>h d (by simpa using b)
theorem AZ(a:AG)(h:Au a):0<=vl a/\vl a<10^a.length:=by
 have:=IG a.reverse (DO a h);rwa[List.length_reverse] at this
theorem Br(d:Int)(r:AG):vl (d::r)=vl r+10^r.length*d:=by
 unfold vl;rw[List.reverse_cons,CT,List.length_reverse];simp[lv]
theorem EB(a:AG)(h:AJ a)(g:1<a.length):10^(a.length-1)<=vl a:=by
 obtain⟨f,_,c⟩:=h
 match a,g with
 |d::e::r,_=>
  have b:=f d Gx;have v:=AZ (e::r) (λx i=>f x (GH _ i));rcases c with c|c
  ·simp at c
  ·simp only[List.headD_cons] at c;rw[Br];simp only[List.length_cons,Nat.add_sub_cancel] at v ⊢;have p:(0:Int)<10^(r.length+1):=Int.pow_pos (by decide);have:10^(r.length+1)*1<=10^(r.length+1)*d:=NH (by omega) (CP p);omega
theorem AI(a b:Nat)(h:a<=b):(10:Int)^a<=10^b:=by
 rcases Nat.lt_or_ge a b with c|c
 ·exact CP (Int.pow_lt_pow_of_lt (by decide) c)
 ·rw[show a=b by omega];exact Int.le_refl _
theorem NL(a b:AG)(e:AJ a)(d:AJ b)(h:vl a=vl b):a.length<=b.length:=by
 rcases Nat.lt_or_ge b.length a.length with c|c
 ·exfalso;have l:=EB a e (by have:=d.2.1;omega);have u:=(AZ b d.1).2;have m:=AI b.length (a.length-1) (by omega);omega
 ·exact c
theorem FX(a b:AG)(c:AJ a)(d:AJ b)(h:vl a=vl b):a=b:=by
 have e:=NL a b c d h;have f:=NL b a d c h.symm;have:=WT a.reverse b.reverse (DO a c.1) (DO b d.1) (by simp;omega) h;simpa using congrArg List.reverse this
theorem Bf(a:AG):(AU a).length<=a.length:=by
 induction a with
 |nil=>simp[AU]
 |cons d r ih=>cases r with
  |nil=>simp[AU]
  |cons e s=>
   simp only[AU];split
   ·exact DT ih (by simp)
   ·simp
theorem BK(a:AG)(h:Au a)(b:0<a.length):AJ (AU a):=by
 induction a with
 |nil=>cases b
 |cons d r ih=>cases r with
  |nil=>exact⟨h,by simp[AU],.inl (by simp[AU])⟩
  |cons e s=>
   simp only[AU];split
   ·exact ih (λx c=>h x (GH _ c)) (by simp)
   ·rename_i f;exact⟨h,by simp,.inr (by simpa using f)⟩
theorem B8(a:AG):vl (AU a)=vl a:=by
 induction a with
 |nil=>rfl
 |cons d r ih=>cases r with
  |nil=>rfl
  |cons e s=>
   simp only[AU];split
   ·rename_i b;rw[ih,Br d,b];omega
   ·rfl
def lo(a:AG)(i:Nat):Int:=a.reverse.getD i 0
theorem m6(a:AG)(i:Nat)(b:i<a.length):lo a i=a.getD (a.length-1-i) 0:=by
 unfold lo;simp only[List.getD];rw[List.getElem?_reverse b]
theorem Lk(a:AG)(i:Nat)(b:a.length<=i):lo a i=0:=by
 unfold lo;simp only[List.getD];rw[List.getElem?_eq_none (by simpa using b)];rfl
theorem GX(a:AG)(h:Au a)(i:Nat):0<=lo a i/\lo a i<=9:=Ah _ (DO a h) i
def pv(f:Nat->Int):Nat->Int
 |0=>0
 |j+1=>pv f j+f j*10^j
theorem U3(L:AG)(j:Nat)(a:j<=L.length):pv (λi=>L.getD i 0) j=lv (L.take j):=by
 induction j with
 |zero=>rfl
 |succ j ih=>
  rw[List.take_succ_eq_append_getElem (by omega),CT];simp only[pv];rw[ih (by omega)];have:(L.take j).length=j:=by rw[FQ];omega
  rw[this];simp only[lv,List.getD,Dq (show j<L.length by omega),Cd];rw[Int.mul_comm,Int.mul_zero,Int.add_zero]
theorem U2(f:Nat->Int)(n j:Nat)(a:n<=j)(h:∀i,n<=i->f i=0):pv f j=pv f n:=by
 induction j with
 |zero=>rw[show n=0 by omega]
 |succ j ih=>
  rcases Nat.lt_or_ge j n with c|c
  ·rw[show n=j+1 by omega]
  ·simp only[pv];rw[h j c,ih c];omega
theorem Nh(a:AG)(j:Nat)(b:a.length<=j):pv (lo a) j=vl a:=by
 rw[U2 (lo a) a.length j b (λi c=>Lk a i c)];have:=U3 a.reverse a.length (by simp);rw[List.take_of_length_le (by simp)] at this;exact this
theorem CX(a:AG)(d:Int):vl (a++[d])=vl a*10+d:=by
 unfold vl;rw[List.reverse_append];simp[lv];omega
theorem Bb(a:AG)(n:Nat):vl (a++List.replicate n 0)=vl a*10^n:=by
 induction n with
 |zero=>simp
 |succ n ih=>
  rw[List.replicate_succ',<-List.append_assoc,CX,ih,Int.pow_succ,Int.mul_assoc];omega
theorem BT(c:AG)(n:Nat)(h:AJ c)(f:c≠[0]):AJ (c++List.replicate n 0):=by
 obtain⟨g,i,a⟩:=h
 match c,i with
 |d::r,_=>
  refine⟨λx b=>?_,by simp,?_⟩
  ·rcases List.mem_append.1 b with b|b
   ·exact g x b
   ·have:=(List.mem_replicate.1 b).2;omega
  ·rcases a with a|a
   ·cases r with
    |nil=>exact .inr (by simp;intro e;exact f (by rw[e]))
    |cons=>simp at a
   ·exact .inr (by simpa using a)
theorem XY(a b D:AG)(j:Nat)(c:Int)(f:Au a)(g:Au b)(i:Au D)(l:D.length=j)(n:0<=c)(o:c<=1)(h:lv D+10^j*c=pv (lo a) j+pv (lo b) j):
 Au (D++[(lo a j+lo b j+c)%10])/\lv (D++[(lo a j+lo b j+c)%10])+10^(j+1)*((lo a j+lo b j+c)/10)=pv (lo a) (j+1)+pv (lo b) (j+1)/\0<=(lo a j+lo b j+c)/10/\(lo a j+lo b j+c)/10<=1:=by
 have x:=GX a f j;have y:=GX b g j;refine⟨λd e=>?_,?_,by omega,by omega⟩
 ·rcases List.mem_append.1 e with e|e
  ·exact i d e
  ·rw[List.mem_singleton.1 e];omega
 ·rw[CT,l];simp only[lv,pv,Int.pow_succ];have k:∀p A B r q:Int,r+10*q=A+B+c->p*(r+10*0)+p*10*q=p*A+p*B+p*c:=λp A B r q m=>by
   rw[Int.mul_zero,Int.add_zero,Int.mul_assoc,<-Int.mul_add,m,Int.mul_add,Int.mul_add]
  have s:=k (10^j) (lo a j) (lo b j) ((lo a j+lo b j+c)%10) ((lo a j+lo b j+c)/10) (by omega);rw[Int.mul_comm (lo a j),Int.mul_comm (lo b j)];omega
theorem fQ(a b D:AG)(j:Nat)(h:lv D+10^j*0=pv (lo a) j+pv (lo b) j)(c:a.length<=j)(d:b.length<=j):lv D=vl a+vl b:=by
 rw[Nh a j c,Nh b j d] at h;omega
theorem Pq(D:AG):vl D.reverse=lv D:=by unfold vl;rw[List.reverse_reverse]
theorem LK(a:AG):(tx a).toList=a.map λd=>UInt8.ofNat (48+d).toNat:=by
 rw[ByteArray.toList_eq,AR]
theorem Xi(a b:Int)(c:0<=a/\a<=9)(d:0<=b/\b<=9)(h:UInt8.ofNat (48+a).toNat=UInt8.ofNat (48+b).toNat):a=b:=by
 have:=congrArg UInt8.toNat h;rw[UInt8.toNat_ofNat',UInt8.toNat_ofNat'] at this;omega
theorem eT(a b:AG)(f:Au a)(g:Au b)(h:(tx a).toList=(tx b).toList):a=b:=by
 rw[LK,LK] at h;induction a generalizing b with
 |nil=>cases b with
  |nil=>rfl
  |cons=>simp at h
 |cons d r ih=>cases b with
  |nil=>simp at h
  |cons e s=>
   simp only[List.map_cons,List.cons.injEq] at h;rw[Xi d e (f d Gx) (g e Gx) h.1,ih s (λx c=>f x (GH _ c)) (λx c=>g x (GH _ c)) h.2]
theorem Fv:(tx [0]).toList=[48]:=by rw[LK];rfl
theorem Bo(a:AG)(b:Au a)(h:a≠[0]):((tx a).toList==[48])=false:=by
 rw[<-Fv];exact beq_eq_false_iff_ne.2 (λe=>h (eT a [0] b (λd c=>by simp at c;omega) e))
theorem Az:AJ [0]:=⟨λd a=>by simp at a;omega,by decide,.inl rfl⟩
theorem BL(d:Int)(b:0<=d)(c:d<=9):AJ [d]:=⟨λx a=>by simp at a;omega,by simp,.inl rfl⟩
theorem SD(L:AG)(h:L=[]):(tx L).toList.isEmpty=true:=by rw[h,LK];rfl
theorem EG(a:AG)(i:Nat)(w:AA)(c:Au a)(f:a.length<=1000)(g:i<=2000):
 cE 195 #[.string (tx a),.int .i64 i] w (.int .i64 (lo a i)):=by
 have b:=AE a;have d:=zq b;by_cases h:i<a.length
 ·have e:i<(tx a).size:=by omega
  have j:(tx a).size<=1000:=by omega
  have k:(i:Int)<((tx a).size:Int):=by omega
  clear b;go_enter func195,ntmps195;go_wp2;go_ret;refine⟨Ln.ret_int ?_,rfl⟩;rw[C7 a c,m6 a i h,d];have:=Ah a c (a.length-1-i);omega
 ·have e:((tx a).size:Int)<=(i:Int):=by omega
  clear b;go_enter func195,ntmps195;go_wp2;go_ret;exact⟨Ln.ret_int (Lk a i (by omega)).symm,rfl⟩
def Gr:AK->Nat
 |.string b=>b.size
 |_=>0
theorem Bj(c:AG)(w:AA)(l:Au c)(m:c.length<=1000):
 cE 123 #[.string (tx c)] w (.string (tx (AU c))):=by
 go_enter func123,ntmps123;go_wp2;go_loop [0] (λs=>∃r:AG,s=.string (tx r)/\Hid (Au r/\AU r=AU c)/\r.length<=1000) (λs=>Gr s);case atStart=>exact⟨c,rfl,⟨l,rfl⟩,m⟩
 case round=>
  obtain⟨r,rfl,b,f⟩:=hrel;have a:=AE r
  match r,b,f,a with
  |[],b,f,a=>
   have j:¬(1:Int)<((tx []).size:Int):=by rw[a];decide
   have n:decide ((1:Int)<((tx []).size:Int))=false:=by simpa using j
   clear a;go_wp2;go_ret;exact⟨by rw[<-b.out.2];rfl,rfl⟩
  |[d],b,f,a=>
   have n:decide ((1:Int)<((tx [d]).size:Int))=false:=by rw[a];rfl
   clear a;go_wp2;go_ret;exact⟨by rw[<-b.out.2];rfl,rfl⟩
  |d::e::r,b,f,a=>
   have j:(1:Int)<((tx (d::e::r)).size:Int):=by rw[a];simp;omega
   have i:0<(tx (d::e::r)).size:=by omega
   have g:=C7 (d::e::r) b.1 0 i;have o:=VO d (e::r);have p:Hid ((tx (e::r)).size<(tx (d::e::r)).size):=by rw[Hid,AE,AE];simp
   have q:Hid (Au (e::r)):=λx t=>b.1 x (GH _ t);have k:Hid (AU (d::e::r)=if d=0 then AU (e::r) else d::e::r):=by rw[Hid];simp only[AU]
   have u:Hid ((e::r).length<=1000):=by rw[Hid];simp at f ⊢;omega
   by_cases h:d=0
   ·have v:((((tx (d::e::r))[0]'i).toNat:Int)==48)=true:=by rw[g];simp[h]
    have y:=zq h;clear a g h;go_wp2;go_round;case rel=>exact⟨e::r,rfl,⟨q,by rw[<-b.out.2,k,zyp y.out]⟩,u⟩
    case measure=>exact p
   ·have v:((((tx (d::e::r))[0]'i).toNat:Int)==48)=false:=by rw[g];simp;omega
    clear a g o;go_wp2;go_ret;exact⟨by rw[<-b.out.2,k,zyn h];rfl,rfl⟩
theorem Yj:(prog.info? 5).map (λi=>(i.zero,i.size,i.bytes))=some (some (.int .u8 0),1,1):=by kernel_rfl
theorem Gs(w:AA)(base:Nat)(v:AK)(a:AG)(h:w.ownsRow base 5 1 v a.length ((a.map (48+ ·)).map (Value.int .u8)))(f:0<a.length):
 ∃g b,v=.slice (some ⟨g,0,none⟩) a.length b/\∀c,prog.underlying c=some .string->(convert 22 c v).run prog w=.ok (.string (tx a)) w:=by
 have d:=h;obtain⟨j,h⟩:=h;rcases h with⟨_,h⟩|⟨g,b,k,rfl,l,m,n,o,p,q⟩
 ·omega
 ·refine⟨g,b,rfl,?_⟩;have:=run_convert_bytes_arg (P:=prog) w 22 5 underlying22 underlying5 g 0 a.length b (a.map (48+ ·)) (by simp) (λi e=>by
   rw[Nat.zero_add,World.ownsRow.cellAt d i (by omega)];simp[List.getD,e])
  exact this
def Xp(c:UInt8):Bool:=decide (48<=c.toNat)&&decide (c.toNat<=57)
def Be(n:Int)(s:AB):Bool:=decide (1<=s.size)&&decide ((s.size:Int)<=n)&&(decide (s.size<=1)|| !(s.data.toList.headD 0==48))&&s.data.toList.all Xp
theorem K4(s:AB)(k:Nat)(a:k<s.size):s.data.toList[k]?=some (s[k]'a):=by
 have h:k<s.data.toList.length:=by simpa using a
 rw[Dq h];rfl
theorem Oc(s:AB)(h:0<s.size):s.data.toList.headD 0=s[0]'h:=by
 have:=K4 s 0 h;cases e:s.data.toList with
 |nil=>rw[e] at this;cases this
 |cons c r=>rw[e] at this;simpa using this
theorem Fl(n:Int)(s:AB)(h:s.size<1):Be n s=false:=by
 unfold Be;rw[By (by omega:¬1<=s.size)];rfl
theorem Hc(n:Int)(s:AB)(h:n<(s.size:Int)):Be n s=false:=by
 unfold Be;rw[By (by omega:¬(s.size:Int)<=n)];simp
theorem Hd(n:Int)(s:AB)(h:1<s.size)(a:(s[0]'(by omega)).toNat=48):Be n s=false:=by
 have e:s[0]'(by omega)=48:=UInt8.toNat_inj.1 a;unfold Be;rw[Oc s (by omega),e,By (by omega:¬s.size<=1)];simp
theorem I6(n:Int)(s:AB)(k:Nat)(a:k<s.size)(h:(s[k]'a).toNat<48\/57<(s[k]'a).toNat):Be n s=false:=by
 have b:=List.mem_of_getElem? (K4 s k a);have c:s.data.toList.all Xp=false:=by
  rw[List.all_eq_false];refine⟨_,b,?_⟩;unfold Xp;rcases h with h|h
  ·rw[By (by omega:¬48<=(s[k]'a).toNat)];simp
  ·rw[By (by omega:¬(s[k]'a).toNat<=57)];simp
 unfold Be;rw[c];simp
theorem Hb(n:Int)(s:AB)(b:0<s.size)(g:(s.size:Int)<=n)(i:s.size<=1\/(s[0]'b).toNat≠48)(j:∀k (a:k<s.size),48<=(s[k]'a).toNat/\(s[k]'a).toNat<=57):Be n s=true:=by
 have l:s.data.toList.all Xp=true:=by
  rw[List.all_eq_true];intro c m;obtain⟨k,a,e⟩:=List.getElem_of_mem m;have f:k<s.size:=by simpa using a
  have d:=K4 s k f;rw[Dq a,e] at d;have:=j k f;rw[<-Gy d] at this;unfold Xp;simp[this.1,this.2]
 have o:(decide (s.size<=1)|| !(s.data.toList.headD 0==48))=true:=by
  rcases i with h|h
  ·rw[Bz h];rfl
  ·rw[Oc s b];have:(s[0]'b==48)=false:=beq_eq_false_iff_ne.2 (λe=>h (by rw[e];rfl));rw[this];simp
 unfold Be;rw[l,o,Bz (by omega:1<=s.size),Bz g];rfl
theorem NW(n:Int)(s:AB)(h:Be n s=true):∃b,AJ b/\b.length=s.size/\(b.length:Int)<=n/\s=tx b:=by
 have g:0<s.size:=by
  rcases Nat.lt_or_ge s.size 1 with c|c
  ·rw[Fl n s c] at h;cases h
  ·exact c
 have j:(s.size:Int)<=n:=by
  by_cases c:n<(s.size:Int)
  ·rw[Hc n s c] at h;cases h
  ·omega
 have l:∀k (a:k<s.size),48<=(s[k]'a).toNat/\(s[k]'a).toNat<=57:=λk a=>by
  by_cases c:(s[k]'a).toNat<48\/57<(s[k]'a).toNat
  ·rw[I6 n s k a c] at h;cases h
  ·omega
 have m:s.size<=1\/(s[0]'g).toNat≠48:=by
  by_cases c:1<s.size
  ·refine .inr λe=>?_;rw[Hd n s c e] at h;cases h
  ·exact .inl (by omega)
 have o:∀c∈s.data.toList,48<=c.toNat/\c.toNat<=57:=λc f=>by
  obtain⟨k,a,e⟩:=List.getElem_of_mem f;have i:k<s.size:=by simpa using a
  have d:=K4 s k i;rw[Dq a,e] at d;rw[Gy d];exact l k i
 refine⟨s.data.toList.map λc=>(c.toNat:Int)-48,⟨λd p=>?_,by simpa using g,?_⟩,by simp,by simpa using j,?_⟩
 ·obtain⟨c,f,rfl⟩:=List.mem_map.1 p;have:=o c f;omega
 ·rcases m with c|c
  ·exact .inl (by simp;omega)
  ·refine .inr ?_;have e:=Oc s g;cases el:s.data.toList with
   |nil=>have:s.data.toList.length=s.size:=by simp
         rw[el] at this;simp at this;omega
   |cons x r=>
    rw[el] at e;simp only[List.map_cons,List.headD_cons] at e ⊢;rw[e];omega
 ·apply De;rw[AR];apply Array.toList_inj.1;rw[List.map_map];simp only[];have:∀c∈s.data.toList,((λd:Int=>UInt8.ofNat (48+d).toNat)∘λc:UInt8=>(c.toNat:Int)-48) c=c:=λc f=>by
   show UInt8.ofNat (48+((c.toNat:Int)-48)).toNat=c
   rw[show(48+((c.toNat:Int)-48)).toNat=c.toNat by omega];exact UInt8.ofNat_toNat
  rw[List.map_congr_left this];simp
theorem D2(n:Int)(a:AG)(h:AJ a)(i:(a.length:Int)<=n):Be n (tx a)=true:=by
 have j:=AE a;have d:0<(tx a).size:=by have:=h.2.1;omega
 refine Hb n (tx a) d (by omega) ?_ λk f=>?_
 ·rcases h.2.2 with c|c
  ·exact .inl (by omega)
  ·refine .inr λe=>c ?_;have t:=C7 a h.1 0 d;have g:a.getD 0 0=a.headD 0:=by cases a<;>rfl
   omega
 ·have t:=C7 a h.1 k f;have b:=Ah a h.1 k;omega
theorem IN(s:AB)(n:Int)(w:AA)(D:s.size<=4611686018427387904):
 cE 188 #[.string s,.int .i64 n] w (.bool (Be n s)):=by
 by_cases p:s.size<1
 ·have E:=zq (Fl n s p);have l:(s.size:Int)<1:=by omega
  go_enter func188,ntmps188;go_wp2;go_ret;exact⟨Ln.ret_bool E.symm,rfl⟩
 have l:¬(s.size:Int)<1:=by omega
 have F:decide ((s.size:Int)<1)=false:=by simpa using l
 have g:0<s.size:=by omega
 by_cases m:n<(s.size:Int)
 ·have E:=zq (Hc n s m);go_enter func188,ntmps188;go_wp2;go_ret;exact⟨Ln.ret_bool E.symm,rfl⟩
 have G:decide (n<(s.size:Int))=false:=by simpa using m
 by_cases d:1<s.size/\(s[0]'g).toNat=48
 ·have E:=zq (Hd n s d.1 d.2);have t:(1:Int)<(s.size:Int):=by omega
  have x:(((s[0]'g).toNat:Int)==48)=true:=by simp only[beq_iff_eq];omega
  clear d;go_enter func188,ntmps188;go_wp2;go_ret;exact⟨Ln.ret_bool E.symm,rfl⟩
 have y:decide ((1:Int)<(s.size:Int))=false\/((1:Int)<(s.size:Int)/\(((s[0]'g).toNat:Int)==48)=false):=by
  by_cases c:1<s.size
  ·exact .inr ⟨by omega,beq_eq_false_iff_ne.2 (λe=>d ⟨c,by omega⟩)⟩
  ·exact .inl (by simp;omega)
 have z:Hid ((∀k (f:k<s.size),48<=(s[k]'f).toNat/\(s[k]'f).toNat<=57)->Be n s=true):=λh=>Hb n s g (by omega) (by
  by_cases c:1<s.size
  ·exact .inr λe=>d ⟨c,e⟩
  ·exact .inl (by omega)) h
 have u:=zq λk f h=>I6 n s k f h;clear d p m l;generalize Be n s=r at*
 rcases y with t|⟨t,x⟩
 all_goals
  go_enter func188,ntmps188;go_wp2;go_loop [5] (λi=>∃k:Nat,k<=s.size/\i=.int .i64 k/\Hid (∀q (a:q<s.size),q<k->48<=(s[q]'a).toNat/\(s[q]'a).toNat<=57)) (λi=>s.size-(intOf i).toNat);case atStart=>exact⟨0,B9 _,rfl,λq a h=>absurd h (Nat.not_lt_zero q)⟩
  case round=>
   obtain⟨k,f,rfl,v⟩:=hrel;by_cases b:k<s.size
   ·have H:(k:Int)<(s.size:Int):=by omega
    by_cases j:(s[k]'b).toNat<48
    ·have A:((s[k]'b).toNat:Int)<48:=by omega
     have E:=zq (u k b (.inl j));clear j;go_wp2;go_ret;exact⟨Ln.ret_bool E.symm,rfl⟩
    ·have A:decide (((s[k]'b).toNat:Int)<48)=false:=by simp;omega
     by_cases o:57<(s[k]'b).toNat
     ·have B:(57:Int)<((s[k]'b).toNat:Int):=by omega
      have E:=zq (u k b (.inr o));clear j o;go_wp2;go_ret;exact⟨Ln.ret_bool E.symm,rfl⟩
     ·have B:decide ((57:Int)<((s[k]'b).toNat:Int))=false:=by simp;omega
      have C:Hid (∀q (a:q<s.size),q<k+1->48<=(s[q]'a).toNat/\(s[q]'a).toNat<=57):=λq a h=>by
       rcases Nat.lt_or_ge q k with c|c
       ·exact v q a c
       ·obtain rfl:q=k:=by omega
        omega
      clear j o;go_wp2;go_round;case rel=>exact⟨k+1,by omega,by go_num,C⟩
      case measure=>simp[intOf];omega
   ·have E:=zq (z λq a=>v q a (by omega));go_wp2;go_ret;exact⟨Ln.ret_bool E.symm,rfl⟩
abbrev AH(k:Int)(b:Bool)(e:Int)(s:AB):AK:=.agg #[.int .i64 k,.bool b,.int .i64 e,.string s]
def AF(f:Int):Int:=if f=64 then 16 else if f=128 then 34 else 0
def AV(f:Int):Int:=if f=64 then -398 else if f=128 then -6176 else 0
def Ad(f:Int):Int:=if f=64 then 369 else if f=128 then 6111 else 0
theorem Ag(f:Int)(w:AA):
 cE 50 #[.int .i64 f] w (.tuple #[.int .i64 (AF f),.int .i64 (AV f),.int .i64 (Ad f)]):=by
 by_cases a:f=64
 ·subst a;go_enter func50,ntmps50;go_wp2;go_returns;exact⟨rfl,rfl⟩
 ·by_cases b:f=128
  ·subst b;go_enter func50,ntmps50;go_wp2;go_returns;exact⟨rfl,rfl⟩
  ·have c:(f==64)=false:=by simpa using a
   have d:(f==128)=false:=by simpa using b
   have E:Hid (AF f=0/\AV f=0/\Ad f=0):=by
    refine⟨?_,?_,?_⟩
    ·unfold AF;rw[zyn a,zyn b]
    ·unfold AV;rw[zyn a,zyn b]
    ·unfold Ad;rw[zyn a,zyn b]
   rw[E.out.1,E.out.2.1,E.out.2.2];go_enter func50,ntmps50;go_wp2;go_returns;exact⟨rfl,rfl⟩
def AQ(f k:Int)(b:Bool)(e:Int)(s:AB):Bool:=
 if AF f=0 then false
 else if k=1 then Be (AF f) s&&(decide (AV f<=e)&&decide (e<=Ad f))
 else if k=2 then decide (e=0)&&s.toList.isEmpty
 else if k=3\/k=4 then decide (e=0)&&(s.toList.isEmpty&& !b)
 else false
theorem WM(f:Int):(AF f=0)\/((AF f==0)=false/\AF f≠0):=by
 by_cases h:AF f=0
 ·exact .inl h
 ·exact .inr ⟨by simpa using h,h⟩
theorem Bn(f k:Int)(b:Bool)(e:Int)(s:AB)(w:AA)(o:s.size<=4611686018427387904):
 cB 114 #[.int .i64 f,AH k b e s] w (.bool (AQ f k b e s)):=by
 have i:Hid (AD w.heap.size w (w.alloc (AY k b e s))):=bA;rcases WM f with c|⟨v,c⟩
 ·have E:Hid (AQ f k b e s=false):=by show _=_;unfold AQ;rw[zyp c]
  have t:=zq c;clear c;go_enter func114,ntmps114;go_wp2_with fail;refine cm (Ag f _) λd a=>?_;obtain rfl:=a;rw[t];go_wp2;go_ret;exact⟨Ln.ret_bool E.symm,i⟩
 by_cases j:k=1
 ·subst j;have E:Hid (AQ f 1 b e s=(Be (AF f) s&&(decide (AV f<=e)&&decide (e<=Ad f)))):=by show _=_;unfold AQ;rw[zyn c,zyp rfl]
  generalize AQ f 1 b e s=R at*
  cases hn:Be (AF f) s with
  |false=>
   have n:=zq hn;have l:Hid (R=false):=by show _=_;rw[E,hn];rfl
   clear hn c E;go_enter func114,ntmps114;go_wp2_with fail;refine cm (Ag f _) λd a=>?_;obtain rfl:=a;go_wp2_with fail;refine cm (IN s _ _ o) λd a=>?_;obtain rfl:=a;rw[n];go_wp2;go_ret;exact⟨Ln.ret_bool l.symm,i⟩
  |true=>
   have n:=zq hn;by_cases g:AV f<=e/\e<=Ad f
   ·have l:Hid (R=true):=by show _=_;rw[E,hn];simp[g.1,g.2]
    clear hn c E;go_enter func114,ntmps114;go_wp2_with fail;refine cm (Ag f _) λd a=>?_;obtain rfl:=a;go_wp2_with fail;refine cm (IN s _ _ o) λd a=>?_;obtain rfl:=a;rw[n];go_wp2_with fail;refine cm (Lg e _ _ _ g.1 g.2) λd a=>?_;obtain rfl:=a;go_wp2;go_ret;exact⟨Ln.ret_bool l.symm,i⟩
   ·have l:Hid (R=false):=by
     show _=_;rw[E,hn]
     by_cases h:AV f<=e
     ·have:¬e<=Ad f:=λu=>g ⟨h,u⟩;simp[this]
     ·simp[h]
    clear hn c E;go_enter func114,ntmps114;go_wp2_with fail;refine cm (Ag f _) λd a=>?_;obtain rfl:=a;go_wp2_with fail;refine cm (IN s _ _ o) λd a=>?_;obtain rfl:=a;rw[n];go_wp2_with fail;refine cm (Ov e _ _ _ (by omega)) λd a=>?_;obtain rfl:=a;go_wp2;go_ret;exact⟨Ln.ret_bool l.symm,i⟩
 by_cases m:k=2
 ·subst m;clear j;by_cases g:e=0
  ·subst g;have E:Hid (AQ f 2 b 0 s=s.toList.isEmpty):=by show _=_;unfold AQ;rw[zyn c,zyn (by decide),zyp rfl];rfl
   clear c;go_enter func114,ntmps114;go_wp2_with fail;refine cm (Ag f _) λd a=>?_;obtain rfl:=a;go_wp2;go_ret;exact⟨Ln.ret_bool E.symm,i⟩
  ·have q:(e==0)=false:=by simpa using g
   have E:Hid (AQ f 2 b e s=false):=by show _=_;unfold AQ;rw[zyn c,zyn (by decide),zyp rfl,By g];rfl
   clear c;go_enter func114,ntmps114;go_wp2_with fail;refine cm (Ag f _) λd a=>?_;obtain rfl:=a;go_wp2;go_ret;exact⟨Ln.ret_bool E.symm,i⟩
 by_cases p:k=3
 ·subst p;clear j m;by_cases g:e=0
  ·subst g;cases hb:s.toList.isEmpty with
   |false=>
    have E:Hid (AQ f 3 b 0 s=false):=by show _=_;unfold AQ;rw[zyn c,zyn (by decide),zyn (by decide),zyp (by decide),hb];rfl
    clear c;go_enter func114,ntmps114;go_wp2_with fail;refine cm (Ag f _) λd a=>?_;obtain rfl:=a;go_wp2;go_ret;exact⟨Ln.ret_bool E.symm,i⟩
   |true=>
    have E:Hid (AQ f 3 b 0 s= !b):=by show _=_;unfold AQ;rw[zyn c,zyn (by decide),zyn (by decide),zyp (by decide),hb];rfl
    clear c;go_enter func114,ntmps114;go_wp2_with fail;refine cm (Ag f _) λd a=>?_;obtain rfl:=a;go_wp2;go_ret;exact⟨Ln.ret_bool E.symm,i⟩
  ·have q:(e==0)=false:=by simpa using g
   have E:Hid (AQ f 3 b e s=false):=by show _=_;unfold AQ;rw[zyn c,zyn (by decide),zyn (by decide),zyp (by decide),By g];rfl
   clear c;go_enter func114,ntmps114;go_wp2_with fail;refine cm (Ag f _) λd a=>?_;obtain rfl:=a;go_wp2;go_ret;exact⟨Ln.ret_bool E.symm,i⟩
 by_cases r:k=4
 ·subst r;clear j m p;by_cases g:e=0
  ·subst g;cases hb:s.toList.isEmpty with
   |false=>
    have E:Hid (AQ f 4 b 0 s=false):=by show _=_;unfold AQ;rw[zyn c,zyn (by decide),zyn (by decide),zyp (by decide),hb];rfl
    clear c;go_enter func114,ntmps114;go_wp2_with fail;refine cm (Ag f _) λd a=>?_;obtain rfl:=a;go_wp2;go_ret;exact⟨Ln.ret_bool E.symm,i⟩
   |true=>
    have E:Hid (AQ f 4 b 0 s= !b):=by show _=_;unfold AQ;rw[zyn c,zyn (by decide),zyn (by decide),zyp (by decide),hb];rfl
    clear c;go_enter func114,ntmps114;go_wp2_with fail;refine cm (Ag f _) λd a=>?_;obtain rfl:=a;go_wp2;go_ret;exact⟨Ln.ret_bool E.symm,i⟩
  ·have q:(e==0)=false:=by simpa using g
   have E:Hid (AQ f 4 b e s=false):=by show _=_;unfold AQ;rw[zyn c,zyn (by decide),zyn (by decide),zyp (by decide),By g];rfl
   clear c;go_enter func114,ntmps114;go_wp2_with fail;refine cm (Ag f _) λd a=>?_;obtain rfl:=a;go_wp2;go_ret;exact⟨Ln.ret_bool E.symm,i⟩
 have E:Hid (AQ f k b e s=false):=by
  show _=_;unfold AQ;rw[zyn c,zyn j,zyn m,zyn (by omega)]
 have x:(k==1)=false:=by simpa using j
 have y:(k==2)=false:=by simpa using m
 have z:(k==3)=false:=by simpa using p
 have A:(k==4)=false:=by simpa using r
 clear c;go_enter func114,ntmps114;go_wp2_with fail;refine cm (Ag f _) λd a=>?_;obtain rfl:=a;go_wp2;go_ret;exact⟨Ln.ret_bool E.symm,i⟩
abbrev CQ:Type:=Int×Bool×Int×AB
def nq:List CQ->List AK
 |[]=>[]
 |p::r=>.int .i64 p.1::.bool p.2.1::.int .i64 p.2.2.1::.string p.2.2.2::nq r
theorem Wc(a b:List CQ):nq (a++b)=nq a++nq b:=by
 induction a with
 |nil=>rfl
 |cons p r ih=>simp[nq,ih]
theorem Wd(a:List CQ):(nq a).length=a.length*4:=by
 induction a with
 |nil=>rfl
 |cons p r ih=>simp[nq,ih];omega
theorem nA(a:List CQ)(i:Nat)(p:CQ)(h:a[i]?=some p):(nq a)[i*4]?=some (.int .i64 p.1)/\(nq a)[i*4+1]?=some (.bool p.2.1)/\(nq a)[i*4+2]?=some (.int .i64 p.2.2.1)/\(nq a)[i*4+3]?=some (.string p.2.2.2):=by
 induction a generalizing i with
 |nil=>simp at h
 |cons q r ih=>
  cases i with
  |zero=>simp at h;subst h;simp[nq]
  |succ i=>
   have b:=ih i (by simpa using h);have e:(i+1)*4=i*4+4:=by omega
   rw[e];simp only[nq,List.getElem?_cons_succ];exact b
def Mf(w:AA)(base:Nat)(v:AK)(n:Nat)(xs:List AK):Prop:=w.ownsRow base 78 4 v n xs
def DV(w:AA)(base:Nat)(v:AK)(l:List CQ):Prop:=Mf w base v l.length (nq l)
theorem NO{w:AA}{base:Nat}{v:AK}{P:List CQ}{n:Nat}{p:CQ}(h:w.ownsRow base 78 4 v n (nq P++[.int .i64 p.1,.bool p.2.1,.int .i64 p.2.2.1,.string p.2.2.2]))(a:n=P.length+1):DV w base v (P++[p]):=by
 unfold DV Mf;rw[Wc,Dc];subst a;exact h
theorem Mf.below{w a:AA}{base B:Nat}{v:AK}{n:Nat}{xs:List AK}(h:Mf w base v n xs)(b:AD B w a)(c:w.heap.size<=B):Mf a base v n xs:=Ct h b c
theorem DV.below{w a:AA}{base B:Nat}{v:AK}{l:List CQ}(h:DV w base v l)(b:AD B w a)(c:w.heap.size<=B):DV a base v l:=Ct h b c
theorem Mf.form{w:AA}{base:Nat}{v:AK}{n:Nat}{xs:List AK}(h:Mf w base v n xs)(j:xs.length=n*4):
 ∃a b,v=.slice a n b/\(0<n->∃g,a=some ⟨g,0,none⟩/\base<=g/\g<w.heap.size/\∀i,i<n*4->w.cell? ⟨g,i,none⟩=xs[i]?):=by
 have c:=h;obtain⟨k,h⟩:=h;rcases h with⟨rfl,h⟩|⟨g,b,l,rfl,d,e,m,o,p,q⟩
 ·exact⟨_,_,by rw[h],λf=>by omega⟩
 ·exact⟨_,b,rfl,λf=>⟨g,rfl,d,(Array.getElem?_eq_some_iff.1 e).1,λi r=>World.ownsRow.cellAt c i (by omega)⟩⟩
theorem Uj:(prog.info? 78).map (λi=>(i.zero,i.size,i.bytes))=some (some (.agg #[.int .i64 0,.bool false,.int .i64 0,.string ⟨#[]⟩]),4,40):=by kernel_rfl
theorem Ut(W:AA)(k:Int)(b:Bool)(e:Int)(s:AB):∀(i:Nat) (u:AK),[Value.int .i64 k,.bool b,.int .i64 e,.string s][i]?=some u->(W.alloc (AY k b e s)).cell? ((⟨W.heap.size,0,none⟩:Addr).add i)=some u:=λi u a=>by
 match i,a with
 |0,a=>simp at a;subst a;simp[Addr.add]
 |1,a=>simp at a;subst a;simp[Addr.add]
 |2,a=>simp at a;subst a;simp[Addr.add]
 |3,a=>simp at a;subst a;simp[Addr.add]
theorem RP(k:Int)(b:Bool)(e:Int)(s:AB):∀u∈[Value.int .i64 k,.bool b,.int .i64 e,.string s],u.oneCell'=true:=λu a=>by
 simp at a;rcases a with rfl|rfl|rfl|rfl<;>rfl
theorem Er.grown{w a:AA}{base:Nat}{v:AK}{zs:AG}{r:Option Nat}(h:Er w base v zs)(c:w.grownBy a r)(d:∀k,r=some k->k<base):Er a base v zs:=by
 obtain⟨f,h⟩:=h;refine⟨f,?_⟩;rcases h with h|⟨g,i,j,e,l,b,q⟩
 ·exact .inl h
 ·have m:=(Array.getElem?_eq_some_iff.1 b).1;exact .inr ⟨g,i,j,e,l,by rw[c.block g m (λe=>by have:=d g e.symm;omega)];exact b,q⟩
theorem Er.apart{w a:AA}{base:Nat}{v:AK}{zs:AG}{r:Option Nat}(h:Er w base v zs)(c:w.grownBy a r)(d:∀k,v.ownBlock=some k->r≠some k):Er a base v zs:=by
 obtain⟨f,h⟩:=h;refine⟨f,?_⟩;rcases h with h|⟨g,i,j,e,l,b,q⟩
 ·exact .inl h
 ·have m:=(Array.getElem?_eq_some_iff.1 b).1;exact .inr ⟨g,i,j,e,l,by rw[c.block g m (λn=>d g (by rw[e];rfl) n.symm)];exact b,q⟩
theorem Er.own{w:AA}{base:Nat}{v:AK}{zs:AG}(h:Er w base v zs):∀k,v.ownBlock=some k->base<=k/\k<w.heap.size:=λk a=>by
 rcases h.form with⟨rfl,-⟩|⟨g,d,rfl,b,c,-⟩
 ·cases a
 ·cases a;exact⟨b,c⟩
def Jh(W:AA)(b g:Nat)(R:AG)(a:Nat):Prop:=
 (a<=R.length/\R.length<=1000)/\((∃o c,W.cell? ⟨b,0,none⟩=some (.slice (some ⟨g,o,none⟩) (R.length-a) c)/\(a<R.length->o=a)/\R.length-a<=c)/\W.frozen? ⟨b,0,none⟩=false)/\(∀i,i<R.length->W.cell? ⟨g,i,none⟩=some (.int .i32 (R.getD i 0)))/\b≠g/\b<W.heap.size/\g<W.heap.size
theorem Jh.next{W e:AA}{b g:Nat}{R:AG}{f:Nat}(h:Jh W b g R f)(a:AD W.heap.size W e):Jh e b g R f:=by
 obtain⟨k,⟨⟨o,c,l,m⟩,n⟩,q,r,d,j⟩:=h;exact⟨k,⟨⟨o,c,(a.cell (p:=⟨b,0,none⟩) d).trans l,m⟩,(a.frozen (p:=⟨b,0,none⟩) d).trans n⟩,λi s=>(a.cell (p:=⟨g,i,none⟩) j).trans (q i s),r,DU d a.size,DU j a.size⟩
theorem Jh.step{W:AA}{b g:Nat}{R:AG}{a:Nat}(h:Jh W b g R a)(s:a<R.length)(n o c:Nat)(t:R.length-a=n+1)(f:a+1<R.length->o=a+1)(u:n<=c):Jh (W.setCell ⟨b,0,none⟩ (.slice (some ⟨g,o,none⟩) n c)) b g R (a+1):=by
 obtain⟨j,⟨⟨v,w,k,x⟩,l⟩,m,d,p,q⟩:=h;refine⟨⟨by omega,j.2⟩,⟨⟨o,c,?_,f,by omega⟩,by rw[World.frozen?_setCell];exact l⟩,λi r=>?_,d,by simpa using p,by simpa using q⟩
 ·rw[show R.length-(a+1)=n by omega];exact World.cell?_setCell_same _ _ _ k
 ·rw[Fx _ _ _ _ (λe=>d (by cases e;rfl))];exact m i r
theorem FE{W:AA}(a i:Nat)(v:AK):W.grownBy (W.setCell ⟨a,i,none⟩ v) (some a):=
 ⟨by simp[World.setCell],by simp[World.setCell],by simp[World.setCell],by simp,λk d b=>Below.heap_setCell _ _ _ _ (λe=>b (by have c:k=a:=e;rw[c]))⟩
theorem J5(j g:Nat)(R:AG)(a:Nat)(x:Int)(w:AA)(h:Jh w j g R a):
 Calls prog 264 #[.pointer (some ⟨j,0,none⟩),.int .i32 x] w λe p=>(a<R.length/\R.getD a 0=x/\e=.returned (.bool true)/\Jh p j g R (a+1)/\w.grownBy p (some j))\/((a<R.length->R.getD a 0≠x)/\e=.returned (.bool false)/\p=w):=by
 have r:=zq h;obtain⟨⟨A,B⟩,⟨⟨o,c,C,s,t⟩,N⟩,u,-⟩:=h;by_cases b:a<R.length
 ·have F:=u a b;obtain rfl:=s b;obtain⟨n,k⟩:∃n,R.length-o=n+1:=⟨R.length-o-1,by omega⟩;rw[k] at C t;have d:=zq λG f H I=>r.step b n G f k H I;have O:n<=1000:=by omega
  have P:n+1<=c:=by omega
  have i:=Ab b k;obtain⟨y,v⟩:=zxe (R.getD o 0);rw[v] at F;have z:=zq v;clear u r v b A B k s t;by_cases l:y=x
  ·subst l;by_cases D:c=1
   ·subst D;have J:n=0:=by omega
    subst J;have m:=d o 0 (λq=>by have:=i.out;omega) (AS _);have K:=zq m;clear d m;go_enter func264,ntmps264;go_wp2;go_ret;exact .inl ⟨i.1,z,rfl,K,FE _ _ _⟩
   ·obtain⟨f,rfl⟩:∃f,c=f+2:=⟨c-2,by omega⟩;have m:=zq (d (o+1) (f+1) (λ_=>rfl) (by omega));clear d D;go_enter func264,ntmps264;go_wp2;go_ret;exact .inl ⟨i.1,z,rfl,m,FE _ _ _⟩
  ·have L:(y==x)=false:=beq_eq_false_iff_ne.2 l;have Q:(y !=x)=true:=by rw[bne,L];rfl
   have M:=zq l;clear l d;go_enter func264,ntmps264;go_wp2;go_ret;exact .inr ⟨λ_=>by rw[z];exact M,rfl,rfl⟩
 ·have E:R.length-a=0:=by omega
  rw[E] at C;have i:=zq b;clear u r b A B E s t;go_enter func264,ntmps264;go_wp2;go_ret;exact .inr ⟨λq=>absurd q i,rfl,rfl⟩
def Ie(R:AG)(a:Nat):Nat:=if a<R.length/\(R.getD a 0=43\/R.getD a 0=45) then a+1 else a
def Kp(R:AG)(a:Nat):Bool:=decide (a<R.length/\R.getD a 0=45)
theorem Eq(c g:Nat)(R:AG)(a:Nat)(w:AA)(h:Jh w c g R a):
 Calls prog 226 #[.pointer (some ⟨c,0,none⟩)] w λe i=>e=.returned (.bool (Kp R a))/\Jh i c g R (Ie R a)/\w.grownBy i (some c):=by
 have k:=zq h;have l:Hid (∀X,Jh X c g R a->∀x,Calls prog 264 #[.pointer (some ⟨c,0,none⟩),.int .i32 x] X λe i=>(a<R.length/\R.getD a 0=x/\e=.returned (.bool true)/\Jh i c g R (a+1)/\X.grownBy i (some c))\/((a<R.length->R.getD a 0≠x)/\e=.returned (.bool false)/\i=X)):=λX q x=>J5 c g R a x X q;clear h;go_enter func226,ntmps226;go_wp2_with fail;refine(l _ k 43).mono ?_;rintro e t (⟨b,j,rfl,m,n⟩|⟨b,rfl,hw⟩)
 ·have d:Kp R a=false:=by unfold Kp;exact By (λq=>by omega)
  have f:Ie R a=a+1:=by unfold Ie;rw[zyp ⟨b,.inl j⟩]
  have o:=Ab m n;have p:=zq d;have r:=zq f;clear d f b j m n l k;go_wp2;go_ret;exact⟨by rw[p];rfl,by rw[r];exact o.1,o.2⟩
 ·subst hw;have s:=zq b;clear b;go_wp2_with fail;refine(l _ k 45).mono ?_;rintro e u (⟨b,j,rfl,m,n⟩|⟨b,rfl,hw⟩)
  ·have d:Kp R a=true:=by unfold Kp;exact Bz ⟨b,j⟩
   have f:Ie R a=a+1:=by unfold Ie;rw[zyp ⟨b,.inr j⟩]
   have o:=Ab m n;have p:=zq d;have r:=zq f;clear d f b j m n l k;go_wp2;go_ret;exact⟨by rw[p];rfl,by rw[r];exact o.1,o.2⟩
  ·subst hw;have d:Kp R a=false:=by unfold Kp;exact By (λq=>b q.1 q.2)
   have f:Ie R a=a:=by unfold Ie;rw[zyn (λq=>q.2.elim (s.out q.1) (b q.1))]
   have p:=zq d;have r:=zq f;clear d f b l;go_wp2;go_ret;exact⟨by rw[p];rfl,by rw[r];exact k,World.grownBy.refl _ _⟩
theorem Bc{w b:AA}(h:AD w.heap.size w b){a:Addr}{v:AK}(c:w.cell? a=some v):b.cell? a=some v:=by
 rw[h.cell (World.block_lt_of_cell? w a c)];exact c
theorem BQ{w a b:AA}(c:AD w.heap.size w a)(d:AD a.heap.size a b):AD w.heap.size w b:=c.trans (d.mono c.size)
def mP(W:AA)(b:Nat)(x y z:AK):Prop:=W.cell? ⟨b,0,none⟩=some x/\W.cell? ⟨b,1,none⟩=some y/\W.cell? ⟨b,2,none⟩=some z
def mO(W:AA)(b:Nat)(x y:AK):Prop:=W.cell? ⟨b,0,none⟩=some x/\W.cell? ⟨b,1,none⟩=some y
theorem mP.below{W c:AA}{b:Nat}{x y z:AK}(h:mP W b x y z)(a:AD W.heap.size W c):mP c b x y z:=⟨Bc a h.1,Bc a h.2.1,Bc a h.2.2⟩
theorem mO.below{W a:AA}{b:Nat}{x y:AK}(h:mO W b x y)(c:AD W.heap.size W a):mO a b x y:=⟨Bc c h.1,Bc c h.2⟩
theorem mP.alloc{W:AA}{b:Nat}{x y z:AK}(h:mP W b x y z)(o:Obj):mP (W.alloc o) b x y z:=h.below bA
theorem mO.alloc{W:AA}{b:Nat}{x y:AK}(h:mO W b x y)(o:Obj):mO (W.alloc o) b x y:=h.below bA
theorem AP{P:Program}{C:AA->Prop}{c:Nat}{Q:Exit->Act->AA->Prop}{a:Act}{w:AA}{l:List Oper}(d:C w.drew)
 (h:wpQuiet P l.toArray C (λe=>∀b,C b->Q .normal e b) l a) (f:P.follows .mixedOrders=true:=by kernel_rfl) (g:Region.lexB .any l.toArray=true:=by kernel_rfl):(Code.region c l.toArray true).wp P Q a w:=
 wp_region_quiet (C:=C) f g d (by simpa using h)
theorem Calls.class_of{P:Program}{f:FuncId}{args:Array AK}{C:AA->Prop}{W:AA}{v:AK}(h:Calls P f args W λe a=>e=.returned v/\AD W.heap.size W a)(k:∀a,AD W.heap.size W a->C a):Calls P f args W λe b=>e=.returned v/\C b:=
 h.mono λ_ _ ⟨c,d⟩=>⟨c,k _ d⟩
theorem kW:(prog.info? 21).map (λi=>(i.zero,i.size,i.bytes))=some (some (.int .i32 0),1,4):=by kernel_rfl
def Mh(W:AA)(B b g a base:Nat)(R:AG)(c:Nat)(D:AG):Prop:=
 Jh W b g R c/\(∃v,W.cell? ⟨a,0,none⟩=some v/\W.ownsRow base 21 1 v D.length (D.map (Value.int .i32)))/\W.frozen? ⟨a,0,none⟩=false/\(B<=b/\B<=a/\B<=base/\b<base/\g<base/\a<base/\b≠a/\g≠a/\base<=W.heap.size)/\D.length<=1000
theorem Ep(B k g l base:Nat)(R:AG)(a:Nat)(D:AG)(w:AA)(h:Mh w B k g l base R a D)(d:¬(a<R.length/\48<=R.getD a 0/\R.getD a 0<=57)):
 cE 267 #[.pointer (some ⟨k,0,none⟩),.pointer (some ⟨l,0,none⟩)] w (.bool false):=by
 obtain⟨⟨⟨m,p⟩,⟨⟨o,c,q,e,f⟩,v⟩,i,-⟩,-⟩:=h;by_cases b:a<R.length
 ·have u:=i a b;obtain rfl:=e b;obtain⟨n,r⟩:∃n,R.length-o=n+1:=⟨R.length-o-1,by omega⟩;rw[r] at q f;obtain⟨y,s⟩:=zxe (R.getD o 0);rw[s] at u d;have j:y<48\/(48<=y/\57<y):=by omega
  clear i s b m p r e f d;rcases j with j|⟨x,j⟩
  ·go_enter func267,ntmps267;go_wp2;go_ret;exact⟨rfl,rfl⟩
  ·have z:¬y<48:=by omega
   go_enter func267,ntmps267;go_wp2;go_ret;exact⟨rfl,rfl⟩
 ·have t:R.length-a=0:=by omega
  rw[t] at q;clear i b m p t e f d;go_enter func267,ntmps267;go_wp2;go_ret;exact⟨rfl,rfl⟩
theorem PG{w b:AA}{base a:Nat}{e:TypeId}{s:Nat}{v:AK}{n:Nat}{xs:List AK}(h:w.ownsRow base e s v n xs)(d:w.grownBy b (some a))(m:a<base):b.ownsRow base e s v n xs:=by
 obtain⟨f,h⟩:=h;refine⟨f,?_⟩;rcases h with h|⟨g,i,j,e,k,c,r⟩
 ·exact .inl h
 ·have l:=(Array.getElem?_eq_some_iff.1 c).1;exact .inr ⟨g,i,j,e,k,by rw[d.block g l (λe=>by have o:g=a:=(Gy e).symm▸rfl;omega)];exact c,r⟩
theorem i6{w a:AA}{B d g b base:Nat}{R:AG}{o:Nat}{D:AG}{v:AK}{y:Int}(h:Mh w B d g b base R o D)(Q:o<R.length)(S:w.cell? ⟨b,0,none⟩=some v)(T:∀k,k<base->some k≠v.ownBlock)(an:∀k,v.ownBlock=some k->base<=k)(m:Obj)
 (t:((w.alloc m).drew).grownBy a v.ownBlock) (f j:Nat) (U:a.ownsRow base 21 1 (.slice (some ⟨f,0,none⟩) (D.length+1) j) (D.length+1) (D.map (Value.int .i32)++[.int .i32 y])) (hD:D.length<1000)
 (n r s:Nat) (V:R.length-o=n+1) (X:o+1<R.length->r=o+1) (Y:n<=s):
 Mh ((a.setCell ⟨b,0,none⟩ (.slice (some ⟨f,0,none⟩) (D.length+1) j)).setCell ⟨d,0,none⟩ (.slice (some ⟨g,r,none⟩) n s)) B d g b base R (o+1) (D++[y])
 /\AD B w ((a.setCell ⟨b,0,none⟩ (.slice (some ⟨f,0,none⟩) (D.length+1) j)).setCell ⟨d,0,none⟩ (.slice (some ⟨g,r,none⟩) n s))/\∀k,k<base->k≠d->k≠b->((a.setCell ⟨b,0,none⟩ (.slice (some ⟨f,0,none⟩) (D.length+1) j)).setCell ⟨d,0,none⟩ (.slice (some ⟨g,r,none⟩) n s)).heap[k]?=w.heap[k]?:=by
 obtain⟨Z,-,aa,⟨b1,b2,b3,u,L,x,E,M,b9⟩,hl⟩:=h;have z:∀k,k<base->a.heap[k]?=w.heap[k]?:=λk l=>by
  have hs:k<(w.alloc m).drew.heap.size:=by
   show k<(w.alloc m).heap.size
   simp;omega
  rw[t.block k hs (T k l)];show(w.alloc m).heap[k]?=w.heap[k]?
  exact((BI w.heap.size w).alloc (AS _) m).block k (by omega)
 have af:w.heap.size<=a.heap.size:=by
  have A:=t.size;have C:(w.alloc m).drew.heap.size=w.heap.size+1:=by
   show(w.alloc m).heap.size=_
   simp
  omega
 have F:∀k i,k<base->a.cell? ⟨k,i,none⟩=w.cell? ⟨k,i,none⟩:=λk i l=>World.cell?_of_block (z k l);have N:∀k i,k<base->a.frozen? ⟨k,i,none⟩=w.frozen? ⟨k,i,none⟩:=λk i l=>World.frozen?_of_block (z k l);have ag:Jh a d g R o:=by
  obtain⟨A,⟨⟨p,c,C,G⟩,H⟩,I,J,O,P⟩:=Z;exact⟨A,⟨⟨p,c,(F d 0 u).trans C,G⟩,(N d 0 u).trans H⟩,λi K=>(F g i L).trans (I i K),J,by omega,by omega⟩
 have ah:Jh (a.setCell ⟨b,0,none⟩ (.slice (some ⟨f,0,none⟩) (D.length+1) j)) d g R o:=by
  obtain⟨A,⟨⟨p,c,C,G⟩,H⟩,I,J,O,P⟩:=ag;refine⟨A,⟨⟨p,c,?_,G⟩,by rw[World.frozen?_setCell];exact H⟩,λi K=>?_,J,by simpa using O,by simpa using P⟩
  ·rw[Fx _ _ _ _ (λe=>E (by cases e;rfl))];exact C
  ·rw[Fx _ _ _ _ (λe=>M (by cases e;rfl))];exact I i K
 have ai:=ah.step Q n r s V X Y;have aj:=(F b 0 x).trans S;refine⟨⟨ai,⟨.slice (some ⟨f,0,none⟩) (D.length+1) j,?_,?_⟩,?_,⟨b1,b2,b3,u,L,x,E,M,by simp;omega⟩,by simp;omega⟩,?_,λk l n1 n2=>?_⟩
 ·rw[Fx _ _ _ _ (λe=>E (by cases e;rfl))];exact World.cell?_setCell_same _ _ _ aj
 ·have q:=PG (PG U (FE b 0 (.slice (some ⟨f,0,none⟩) (D.length+1) j)) x) (FE d 0 (.slice (some ⟨g,r,none⟩) n s)) u;rw[Dc,List.map_append];exact q
 ·rw[World.frozen?_setCell,World.frozen?_setCell,N b 0 x];exact aa
 ·have am:AD B w a:=⟨t.os.trans rfl,t.tape.trans rfl,t.output.trans rfl,af,λk l=>z k (by omega)⟩;exact(am.setCell (show B<=b by omega) _).setCell (show B<=d by omega) _
 ·rw[(FE (W:=a.setCell ⟨b,0,none⟩ (.slice (some ⟨f,0,none⟩) (D.length+1) j)) d 0 (.slice (some ⟨g,r,none⟩) n s)).block k (by simp;omega) (λe=>n1 (Gy e)),(FE (W:=a) b 0 (.slice (some ⟨f,0,none⟩) (D.length+1) j)).block k (by omega) (λe=>n2 (Gy e))];exact z k l
theorem ES(B b g d base:Nat)(R:AG)(A:Nat)(D:AG)(w:AA)(h:Mh w B b g d base R A D)(G:A<R.length)(y:Int)(T:R.getD A 0=y)(hd:48<=y/\y<=57)(hD:D.length<1000):
 Calls prog 267 #[.pointer (some ⟨b,0,none⟩),.pointer (some ⟨d,0,none⟩)] w λe M=>e=.returned (.bool true)/\Mh M B b g d base R (A+1) (D++[y])/\AD B w M/\∀k,k<base->k≠b->k≠d->M.heap[k]?=w.heap[k]?:=by
 have HT:=zq h;obtain⟨⟨⟨h1,h3⟩,⟨⟨o,c,H,U,av⟩,V⟩,W,-⟩,⟨v,I,J⟩,X,⟨b1,b2,b3,Y,b5,Z,b7,b8,b9⟩,-⟩:=h;have c0:=W A G;rw[T] at c0;obtain rfl:=U G;obtain⟨n,K⟩:∃n,R.length-o=n+1:=⟨R.length-o-1,by omega⟩;rw[K] at H av;obtain⟨i0,hi,ac,ad,ae⟩:=info_parts kW;have y1:¬y<48:=by omega
 have y2:¬57<y:=by omega
 have N:∀k,k<base->some k≠v.ownBlock:=λk hk e=>by
  rcases J.2 with⟨rfl,-⟩|⟨gq,aE,aF,rfl,aG,-⟩
  ·simp[Value.ownBlock] at e
  ·simp[Value.ownBlock] at e;omega
 have ag:∀k,v.ownBlock=some k->base<=k:=λk e=>by
  rcases J.2 with⟨rfl,-⟩|⟨gq,aE,aF,rfl,aG,-⟩
  ·simp[Value.ownBlock] at e
  ·simp[Value.ownBlock] at e;omega
 have ah:Hid ((w.alloc (.cells #[.int .i32 y] 21)).drew.ownsRow base 21 1 v D.length (D.map (Value.int .i32))):=(World.ownsRow.alloc J _).drew;have ai:Hid (∀(j:Nat) (u:AK),[Value.int .i32 y][j]?=some u->(w.alloc (.cells #[.int .i32 y] 21)).drew.cell? ((⟨w.heap.size,0,none⟩:Addr).add j)=some u):=World.news_of_block (cs:=#[.int .i32 y]) (t:=21) (fr:=(0,0)) (heap_alloc_new w _);have aj:Hid (∀u∈[Value.int .i32 y],u.oneCell'=true):=λu hu=>by
  obtain rfl:u=Value.int .i32 y:=by simpa using hu
  rfl
 have ak:Hid (D.length+1<=maxLen):=by show _<=_;unfold maxLen;omega
 have al:Hid ((D.length+1)*4<=140737488355328):=by show _<=_;omega
 have L:Hid ((w.alloc (.cells #[.int .i32 y] 21)).drew.heap.size=w.heap.size+1):=by
  show(w.alloc (.cells #[.int .i32 y] 21)).heap.size=_
  simp
 have am:Hid (base<=(w.alloc (.cells #[.int .i32 y] 21)).drew.heap.size):=by show _<=_;rw[L];omega
 have aI:b<w.heap.size:=by omega
 have aJ:d<w.heap.size:=by omega
 have aV:g<w.heap.size:=by omega
 have an:Hid (∀(a:AA) (i l:Nat),((w.alloc (.cells #[.int .i32 y] 21)).drew).grownBy a v.ownBlock->a.ownsRow base 21 1 (.slice (some ⟨i,0,none⟩) (D.length+1) l) (D.length+1) (D.map (Value.int .i32)++[.int .i32 y])->∀s x:Nat,(o+1<R.length->s=o+1)->n<=x->
  Mh ((a.setCell ⟨d,0,none⟩ (.slice (some ⟨i,0,none⟩) (D.length+1) l)).setCell ⟨b,0,none⟩ (.slice (some ⟨g,s,none⟩) n x)) B b g d base R (o+1) (D++[y])/\AD B w ((a.setCell ⟨d,0,none⟩ (.slice (some ⟨i,0,none⟩) (D.length+1) l)).setCell ⟨b,0,none⟩ (.slice (some ⟨g,s,none⟩) n x))/\∀k,k<base->k≠b->k≠d->((a.setCell ⟨d,0,none⟩ (.slice (some ⟨i,0,none⟩) (D.length+1) l)).setCell ⟨b,0,none⟩ (.slice (some ⟨g,s,none⟩) n x)).heap[k]?=w.heap[k]?):=
  λa i l O aK s x h5 h6=>i6 HT G I N ag _ O i l aK hD n s x K h5 h6
 have p:Hid (∀(a:AA),((w.alloc (.cells #[.int .i32 y] 21)).drew).grownBy a v.ownBlock->∀k,k<base->a.heap[k]?=w.heap[k]?):=λa O k hk=>by
  have hs:k<(w.alloc (.cells #[.int .i32 y] 21)).drew.heap.size:=by rw[L];omega
  rw[O.block k hs (N k hk)];exact((BI w.heap.size w).alloc (AS _) (.cells #[.int .i32 y] 21)).block k (by omega)
 have m:Hid (b<base/\d<base/\o+1<R.length+1/\R.length-o=n+1):=⟨Y,Z,by omega,K⟩;have aW:∀C,(w.alloc C).cell? ⟨b,0,none⟩=some (.slice (some ⟨g,o,none⟩) (n+1) c):=λC=>by rw[World.cell?_alloc_past _ _ _ aI];exact H
 have aX:∀C,(w.alloc C).cell? ⟨d,0,none⟩=some v:=λC=>by rw[World.cell?_alloc_past _ _ _ aJ];exact I
 have aY:¬b=w.heap.size:=by omega
 have aZ:¬d=w.heap.size:=by omega
 have a0:¬g=w.heap.size:=by omega
 have a1:n<=1000:=by omega
 clear W T U hd J N ag h1 h3 b1 b2 b3 Y b5 Z b8 b9 G K;rcases(show c=1\/∃z,c=z+2 by by_cases h:c=1;exact .inl h;exact .inr ⟨c-2,by omega⟩) with rfl|⟨z,rfl⟩
 ·obtain rfl:n=0:=by omega
  go_enter func267,ntmps267;go_upto_region 3 with fail;go_cut [] (λr=>Hid (Mh r B b g d base R (o+1) (D++[y])/\AD B w r/\∀k,k<base->k≠b->k≠d->r.heap[k]?=w.heap[k]?));case first=>
   go_region_law (refine step_append_lies _ rfl (.tmp 33) (.tmp 40) 251 rfl base 21 i0 (.int .i32 0) 1 4 underlying251 hi ac ad ae rfl (by decide) v D.length (D.map (Value.int .i32)) (by simp[Act.eval,Act.put]) ah ⟨w.heap.size,0,none⟩ 1 1 [.int .i32 y] (by simp[Act.eval,Act.put]) rfl ai aj (by decide) ak al am (w.heap.size+1) L ?_;intro i l a E f P Q;have F:=an a i l f E;have e1:a.cell? ⟨b,0,none⟩=some (.slice (some ⟨g,o,none⟩) 1 1):=(World.cell?_of_block (p a f b m.1)).trans H;have e2:a.cell? ⟨d,0,none⟩=some v:=(World.cell?_of_block (p a f d m.2.1)).trans I;have e3:a.frozen? ⟨b,0,none⟩=false:=(World.frozen?_of_block (p a f b m.1)).trans V;have e4:a.frozen? ⟨d,0,none⟩=false:=(World.frozen?_of_block (p a f d m.2.1)).trans X;have S:Hid _:=F;clear F E f P Q);all_goals
    go_wp2;go_meet;case rel=>exact S _ _ (λq=>by have:=m.out;omega) (by omega)
  case rest=>
   go_wp2;go_ret;exact⟨rfl,hcut⟩
 ·have a2:(1:Int)<=(n:Int)+1:=by omega
  have a3:(n:Int)+1<=(z:Int)+2:=by omega
  have a5:n+1<=z+2:=by omega
  have a6:n<=z+1:=by omega
  go_enter func267,ntmps267;go_upto_region 3 with fail;go_cut [] (λr=>Hid (Mh r B b g d base R (o+1) (D++[y])/\AD B w r/\∀k,k<base->k≠b->k≠d->r.heap[k]?=w.heap[k]?));case first=>
   go_region_law (refine step_append_lies _ rfl (.tmp 33) (.tmp 40) 251 rfl base 21 i0 (.int .i32 0) 1 4 underlying251 hi ac ad ae rfl (by decide) v D.length (D.map (Value.int .i32)) (by simp[Act.eval,Act.put]) ah ⟨w.heap.size,0,none⟩ 1 1 [.int .i32 y] (by simp[Act.eval,Act.put]) rfl ai aj (by decide) ak al am (w.heap.size+1) L ?_;intro i l a E f P Q;have F:=an a i l f E;have e1:a.cell? ⟨b,0,none⟩=some (.slice (some ⟨g,o,none⟩) (n+1) (z+2)):=(World.cell?_of_block (p a f b m.1)).trans H;have e2:a.cell? ⟨d,0,none⟩=some v:=(World.cell?_of_block (p a f d m.2.1)).trans I;have e3:a.frozen? ⟨b,0,none⟩=false:=(World.frozen?_of_block (p a f b m.1)).trans V;have e4:a.frozen? ⟨d,0,none⟩=false:=(World.frozen?_of_block (p a f d m.2.1)).trans X;have S:Hid _:=F;clear F E f P Q);all_goals
    go_wp2;go_meet;case rel=>exact S _ _ (λq=>by have:=m.out;omega) (by omega)
  case rest=>
   go_wp2;go_ret;exact⟨rfl,hcut⟩
theorem JH{w:AA}{base:Nat}{v:AK}{n:Nat}{xs:List AK}(h:w.ownsRow base 21 1 v n xs):
 ∃a b,v=.slice a n b/\(0<n->∃g,a=some ⟨g,0,none⟩/\base<=g/\g<w.heap.size/\n<=b/\∀i,i<n->w.cell? ⟨g,i,none⟩=xs[i]?):=by
 have c:=h;obtain⟨j,h⟩:=h;rcases h with⟨rfl,h⟩|⟨g,b,k,rfl,d,e,l,m,o,p⟩
 ·exact⟨_,_,by rw[h],λf=>by omega⟩
 ·exact⟨_,b,rfl,λf=>⟨g,rfl,d,(Array.getElem?_eq_some_iff.1 e).1,by omega,λi q=>World.ownsRow.cellAt c i (by omega)⟩⟩
def pe(D:AG):Int:=D.foldl (λp y=>10*p+(y-48)) 0
theorem PM(D:AG)(y:Int):pe (D++[y])=10*pe D+(y-48):=by
 unfold pe;rw[List.foldl_append];rfl
theorem Ra(D:AG)(h:∀y∈D,48<=y/\y<=57):0<=pe D/\pe D<10^D.length:=by
 have c:∀(l:AG),(∀y∈l,48<=y/\y<=57)->0<=pe l.reverse/\pe l.reverse<10^l.length:=λl=>by
  induction l with
  |nil=>intro _;exact⟨by decide,by decide⟩
  |cons x r ih=>
   intro b;obtain⟨d,e⟩:=ih (λy a=>b y (GH _ a));have f:=b x Gx;rw[List.reverse_cons,PM,List.length_cons,Int.pow_succ];exact⟨by omega,by omega⟩
 have:=c D.reverse (λy a=>h y (List.mem_reverse.1 a));rw[List.reverse_reverse,List.length_reverse] at this;exact this
theorem LX(neg:Bool)(v:AK)(D:AG)(base:Nat)(w:AA)(h:w.ownsRow base 21 1 v D.length (D.map (Value.int .i32)))(p:∀y∈D,48<=y/\y<=57)(j:D.length<=5):
 cE 269 #[.bool neg,v] w (.int .i64 (if neg then -pe D else pe D)):=by
 obtain⟨a,F,rfl,q⟩:=JH h;have u:=zq q;have l:=zq p;have m:=zq j;clear h q p;go_enter func269,ntmps269;go_wp2;go_loopw [5,10] (λx i wr=>∃k:Nat,k<=D.length/\i=.int .i64 k/\x=.int .i64 (pe (D.take k))/\wr=w) (λ_ i _=>D.length-(intOf i).toNat);case atStart=>exact⟨0,B9 _,rfl,rfl,rfl⟩
 case round=>
  obtain⟨k,G,rfl,rfl,rfl⟩:=hrel;by_cases b:k<D.length
  ·obtain⟨g,rfl,-,H,-,r⟩:=u (by omega);have s:D[k]?=some D[k]:=Dq b;have I:wr.cell? ⟨g,k,none⟩=some (.int .i32 D[k]):=by
    rw[r k b,List.getElem?_map,s];rfl
   have n:=l D[k] (List.getElem_mem b);have t:=(List.take_append_getElem b).symm;have c:=Ra (D.take k) (λy n=>l y (List.mem_of_mem_take n));have d:=PM (D.take k) D[k];rw[<-t] at d;have e:pe (D.take k)<100000:=by
    have z:(10:Int)^(D.take k).length<=10^5:=AI _ _ (by rw[FQ];have:=m.out;omega);have A:(10:Int)^5=100000:=by decide
    omega
   have J:(k:Int)<(D.length:Int):=by omega
   obtain⟨Q,o⟩:=zxe (pe (D.take (k+1)));rw[o] at d;have B:=zq o;clear o;generalize pe (D.take k)=P at*
   generalize D[k]=y at*
   have C:=zw (10*P) (by omega);have K:IntKind.i32.wrap (y-48)=y-48:=by rw[IntKind.wrap_i32];omega
   have L:=zw (y-48) (by omega);have M:IntKind.i64.wrap (10*P+(y-48))=Q:=Dn (by omega);have N:=zq d;have O:D.length<=5:=m;clear r s t c d e n j;go_wp2;go_roundw;case rel=>exact⟨k+1,by omega,by go_num,by rw[B],by first|exact rfl|exact trivial⟩
   case measure=>simp[intOf];omega
  ·obtain rfl:k=D.length:=by omega
   have c:=Ra D l;have e:pe D<100000:=by
    have z:(10:Int)^D.length<=10^5:=AI _ _ (by have:=m.out;omega);have A:(10:Int)^5=100000:=by decide
    omega
   obtain⟨P,f⟩:=zxe (pe D);rw[List.take_length,f];rw[f] at c e;have E:=zq f;have C:=zw (-P) (by omega);clear c e j f;cases neg
   all_goals
    go_wp2;go_ret;exact⟨by rw[E];rfl,rfl⟩
def dz:AG->AG
 |[]=>[]
 |d::r=>if d=0 then dz r else d::r
theorem Xy(A:AG)(d:Int):AU (A++[d])=dz A++[d]:=by
 induction A with
 |nil=>rfl
 |cons x r ih=>
  cases r with
  |nil=>
   show AU [x,d]=dz [x]++[d]
   unfold AU dz;split<;>rfl
  |cons y t=>
   show AU (x::y::(t++[d]))=dz (x::y::t)++[d]
   by_cases h:x=0
   ·have a:AU (x::y::(t++[d]))=AU (y::(t++[d])):=by simp only[AU];rw[zyp h]
    have b:dz (x::y::t)=dz (y::t):=by rw[dz,zyp h]
    rw[a,b];exact ih
   ·have a:AU (x::y::(t++[d]))=x::y::(t++[d]):=by simp only[AU];rw[zyn h]
    have b:dz (x::y::t)=x::y::t:=by rw[dz,zyn h]
    rw[a,b];rfl
theorem kH(A:AG):(dz A).length<=A.length:=by
 induction A with
 |nil=>simp[dz]
 |cons x r ih=>unfold dz;split<;>simp<;>omega
def oX:AK->Nat
 |.string b=>b.size
 |_=>0
theorem J7(c:AG)(w:AA)(j:Au c)(k:c.length<=1000):
 cE 318 #[.string (tx c),.int .u8 48] w (.string (tx (dz c))):=by
 go_enter func318,ntmps318;go_wp2;go_loop [0] (λs=>∃r:AG,s=.string (tx r)/\Hid (Au r/\dz r=dz c)/\r.length<=1000) (λs=>oX s);case atStart=>exact⟨c,rfl,⟨j,rfl⟩,k⟩
 case round=>
  obtain⟨r,rfl,a,e⟩:=hrel;have b:=AE r
  match r,a,e,b with
  |[],a,e,b=>
   have u:decide ((0:Int)<((tx []).size:Int))=false:=by rw[b];decide
   clear b;go_wp2;go_ret;exact⟨by rw[<-a.out.2];rfl,rfl⟩
  |d::r,a,e,b=>
   have v:(0:Int)<((tx (d::r)).size:Int):=by rw[b];simp<;>omega
   have h:0<(tx (d::r)).size:=by omega
   have f:=C7 (d::r) a.1 0 h;have l:=VO d r;have m:Hid ((tx r).size<(tx (d::r)).size):=by rw[Hid,AE,AE];simp
   have n:Hid (Au r):=λx o=>a.1 x (GH _ o);have i:Hid (dz (d::r)=if d=0 then dz r else d::r):=by rw[Hid,dz]
   have p:Hid (r.length<=1000):=by rw[Hid];simp at e ⊢;omega
   by_cases g:d=0
   ·have q:((((tx (d::r))[0]'h).toNat:Int)==48)=true:=by rw[f];simp[g]
    have t:=zq g;clear b f g;go_wp2;go_round;case rel=>exact⟨r,rfl,⟨n,by rw[<-a.out.2,i,zyp t.out]⟩,p⟩
    case measure=>exact m
   ·have q:((((tx (d::r))[0]'h).toNat:Int)==48)=false:=by rw[f];simp;omega
    clear b f l;go_wp2;go_ret;exact⟨by rw[<-a.out.2,i,zyn g];rfl,rfl⟩
theorem N5(a:AG)(w:AA)(d:Au a)(e:a.length<=1000)(g:0<a.length):
 cE 302 #[.string (tx a),.string {data:=#[48]}] w (.string (tx (dz a))):=by
 have H:Hid (cF 318 #[.string (tx a),.int .u8 48] (.string (tx (dz a)))):=λX=>J7 a X d e;have f:=AE a;have i:(tx a).toList.isEmpty=false:=by
  cases h:(tx a).toList.isEmpty with
  |false=>rfl
  |true=>
   have b:(tx a).data.toList.length=a.length:=by simpa using f
   have c:(tx a).toList=[]:=by simpa using h
   rw[ByteArray.toList_eq] at c;rw[c] at b;simp at b;omega
 generalize tx (dz a)=R at*
 generalize tx a=T at*
 go_enter func302,ntmps302;go_wp2_with fail;refine ce (H _) ?_;go_wp2;go_ret;exact⟨rfl,rfl⟩
section
variable {P : Program} {ops : Array Oper} {md : Region.Mode} {C : World → Prop}
def Qe(P:Program)(md:Region.Mode)(b:Array Oper)(C:AA->Prop)(n:Nat)(L:Array Bool->Act->Prop):Nat->Array Bool->Act->Prop
 |0,listed,a=>L listed a
 |f+1,listed,a=>Region.ready md b listed≠[]/\∀i,i∈Region.ready md b listed->i<n/\qOp P b C i (Qe P md b C n L f (listed.setIfInBounds i true)) a
theorem V9{n g:Nat}{L:Array Bool->Act->Prop}{Q:Exit->Act->AA->Prop}(d:∀b a w,C w->L b a->wpAny P md ops Q g b a w)(f:Nat):
 ∀(b:Array Bool) (a:Act) (w:AA),C w->Qe P md ops C n L f b a->wpAny P md ops Q (f+g) b a w:=by
 induction f with
 |zero=>intro b a w c h;rw[Nat.zero_add];exact d _ _ _ c h
 |succ f ih=>
  intro b a w c h;rw[show f+1+g=(f+g)+1 by omega];exact⟨λe=>absurd e h.1,λi j=>wpOp_of_qOp c (λm o k l=>ih _ _ _ k l) (h.2 i j).2⟩
theorem Qf{n i:Nat}{p:Oper}{v:AK}{L:Array Bool->Act->Prop}(w:ops[i]?=some p)(y:∀(j:Nat) (o:Oper) cs b,ops[j]?=some o->o.op≠.select cs b)
 (z:Region.sinkB md ops n=true) (A:Region.chainB md ops n=true) (B:n<ops.size) (D:i<n) (K:∀c a,L c a->∀j∈Region.ready md ops c,n<=j) (f:Nat):
 ∀(c:Array Bool) (a:Act),HeadInv md ops n c->
  (∀j l,ops[j]?=some l->j≠i->c.getD j true=false->(∀e∈l.after,Region.binds md e=true->e.on≠i)->p.apart ops l=true)->
  i∈Region.ready md ops c->YieldsIn P ops C p v a->Qe P md ops C n L f (c.setIfInBounds i true) (a.put p.dst v)->Qe P md ops C n L (f+1) c a:=by
 induction f with
 |zero=>
  intro c a r _ d s H;have t:=(mem_ready.1 d).1;refine⟨λh=>(by rw[h] at d;cases d),λj m=>?_⟩;have u:j<n:=Nat.lt_of_not_le λh=>tail_waits z A B r _ i rfl D t j h m;refine⟨u,?_⟩;by_cases g:j=i
  ·subst g;exact s.qOp w H
  ·have:=K _ _ H j (ready_mono m g);omega
 |succ f ih=>
  intro c a r E d s H;have t:=(mem_ready.1 d).1;refine⟨λh=>(by rw[h] at d;cases d),λj m=>?_⟩;have u:j<n:=Nat.lt_of_not_le λh=>tail_waits z A B r _ i rfl D t j h m;refine⟨u,?_⟩;by_cases g:j=i
  ·subst g;exact s.qOp w H
  ·obtain⟨F,l,x,M⟩:=mem_ready.1 m;have N:∀e∈l.after,Region.binds md e=true->e.on≠i:=λe O Q R=>by
    have q:=M e O Q;rw[R,getD_both t] at q;cases q
   have S:=qOp_put x (E j l x g F N) (λcs b=>y i p cs b w) (λcs b=>y j l cs b x) s (H.2 j (ready_mono m g)).2;refine qOp_mono (λT G=>ih (c.setIfInBounds j true) T (r.set m u) ?_ (ready_mono d (Ne.symm g)) G.1 ?_) S
   ·intro k U V W I X;refine E k U V W ?_ X;by_cases J:j=k
    ·subst J;exact F
    ·rw[getD_set_ne true J] at I;exact I
   ·rw[Array.setIfInBounds_comm _ _ g];exact G.2
theorem WA{n g:Nat}{f:Act->Prop}(s:Region.noSelect ops=true)(t:Region.sinkB md ops n=true)(u:Region.chainB md ops n=true)(w:n<ops.size)(l:List Oper):
 ∀(k:Nat) (b:Array Bool) (a:Act),(∀j,j<l.length->l[j]?=ops[k+j]?)->k+l.length=n->HeadInv md ops n b->Region.lexHead md ops g l.length k b=true->wpQuiet P ops C f l a->
  Qe P md ops C n (λx y=>Region.seqB md ops g n x=true/\f y) l.length b a:=by
 induction l with
 |nil=>
  intro k b a _ i _ c h;have e:k=n:=by simpa using i
  subst e;exact⟨by simpa[Region.lexHead] using c,h⟩
 |cons o l ih=>
  intro k b a m i p c h;have d:ops[k]?=some o:=by simpa using(m 0 (by simp)).symm
  simp only[List.length_cons,Region.lexHead,Bool.and_eq_true] at c i;have q:k<n:=by omega
  have r:k∈Region.ready md ops b:=by simpa using c.1.1
  obtain⟨v,z,A⟩:=yieldsIn_of_qOp (K:=wpQuiet P ops C f l) d (by unfold qOp;simp only[d];exact h);refine Qf d (Region.noSelect_spec s) t u w q (λ_ _ B=>seqB_ready B.1) l.length b a p (Region.free_spec d c.1.2) r z ?_;refine ih (k+1) _ _ (λj D=>?_) (by omega) (p.set r q) c.2 A;have:=m (j+1) (by simp;omega);simpa[Nat.add_assoc,Nat.add_comm 1 j] using this
theorem AM{p:Nat}{Q:Exit->Act->AA->Prop}{a:Act}{w:AA}{l:List Oper}(n:Nat)(q:C w.drew)
 (h:wpQuiet P l.toArray C (λd=>∀b,C b->wpList P l.toArray Q (l.drop n) d b) (l.take n) a) (r:P.follows .mixedOrders=true:=by kernel_rfl) (e:Region.lexTailB .any l.toArray n=true:=by kernel_rfl):(Code.region p l.toArray true).wp P Q a w:=by
 simp only[Region.lexTailB,Bool.and_eq_true,decide_eq_true_eq] at e;obtain⟨⟨⟨⟨s,f⟩,u⟩,v⟩,x⟩:=e;have E:n<l.length:=by simpa using f
 have c:(l.take n).length=n:=by simp;omega
 have i:(l.drop n).length=l.toArray.size-n:=by simp
 have y:HeadInv .any l.toArray n (Array.replicate l.toArray.size false):=
  ⟨by simp,λj F _ k=>(by rw[getD_replicate_false] at k;cases k),λt _ z=>getD_in (by simpa using z) (getD_replicate_false _ _)⟩
 have H:=WA (md:=.any) (g:=l.toArray.size-n) s u v f (l.take n) 0 _ a (λj m=>by
  have A:j<n:=by rw[c] at m;exact m
  simp[A]) (by simpa using c) y (by rw[c];exact x) h
 refine wp_region_any r ?_;have T:=V9 (Q:=Q) (g:=l.toArray.size-n) (λB d b D o=>by
  have:=wpAny_of_seq (md:=.any) (Q':=Q) (l.drop n) n B d b (λj=>by simp[List.getElem?_drop]) (by rw[i];exact o.1) (o.2 b D);rwa[i] at this) _ _ _ _ q H
 rw[c,show n+(l.toArray.size-n)=l.toArray.size by omega] at T;exact T
end
theorem N8(g o j:Nat):(⟨g,o,none⟩:Addr).add j=⟨g,o+j,none⟩:=by
 unfold Addr.add;by_cases h:j=0
 ·subst h;rfl
 ·rw[zyn h]
theorem OM(y:Int)(h:48<=y/\y<=57):Utf8.encode y=tx [y-48]:=by
 obtain⟨n,rfl⟩:∃n:Nat,y=n:=⟨y.toNat,by omega⟩;rcases(show n=48\/n=49\/n=50\/n=51\/n=52\/n=53\/n=54\/n=55\/n=56\/n=57 by omega) with rfl|rfl|rfl|rfl|rfl|rfl|rfl|rfl|rfl|rfl<;>(apply De;rw[AR];rfl)
theorem SG(a b:AG):tx a++tx b=tx (a++b):=by
 apply De;rw[ByteArray.data_append,AR,AR,AR];simp
theorem Rv(D:AG)(h:∀y∈D,48<=y/\y<=57):runesBytes D=tx (D.map (·-48)):=by
 have b:∀(l:AG) (A:AG),(∀y∈l,48<=y/\y<=57)->l.foldl (λr n=>r++Utf8.encode n) (tx A)=tx (A++l.map (·-48)):=λl=>by
  induction l with
  |nil=>intro A _;simp
  |cons x r ih=>
   intro A a;rw[List.foldl_cons,OM x (a x Gx),SG,ih _ (λy c=>a y (GH _ c))];rw[List.map_cons,List.append_assoc];rfl
 have:=b D [] h;rw[List.nil_append] at this;exact this
theorem N6(w:AA):cE 302 #[.string ⟨#[]⟩,.string {data:=#[48]}] w (.string ⟨#[]⟩):=by
 go_enter func302,ntmps302;go_wp2;go_ret;exact⟨rfl,rfl⟩
theorem N4(a:AG)(w:AA)(b:Au a)(c:a.length<=1000):
 cE 302 #[.string (tx a),.string {data:=#[48]}] w (.string (tx (dz a))):=by
 by_cases h:0<a.length
 ·exact N5 a w b c h
 ·have:a=[]:=List.length_eq_zero_iff.1 (by omega);subst this;exact N6 w
theorem PS{a:Func}{p:Tmp}{b:Nat}{x y:AK}(h:a.results=#[.cell p 192])(c:Array AK)(w:AA)(d:c[p]?.getD undef=.pointer (some ⟨b,0,none⟩))(e:w.cell? ⟨b,0,none⟩=some x)(f:w.cell? ⟨b,1,none⟩=some y):(results a c).run prog w=.ok (.agg #[x,y]) w:=by
 unfold results;rw[h];simp[d,go_sem,e,f]
theorem Pf(v:AK)(D:AG)(base:Nat)(f:Int)(w:AA)(h:w.ownsRow base 21 1 v D.length (D.map (Value.int .i32)))(o:∀y∈D,48<=y/\y<=57)(R:D.length<=1000)(F:0<D.length):
 cB 268 #[v,.int .i64 f] w (.agg #[.string (tx (AU (D.map (·-48)))),.int .i64 f]):=by
 obtain⟨a,b,rfl,S⟩:=JH h;obtain⟨g,rfl,-,G,U,H⟩:=S F;obtain⟨m,q⟩:∃m,D.length=m+1:=⟨D.length-1,by omega⟩;have I:D=D.take m++[D.getD m 0]:=by
  have:D.take (m+1)=D.take m++[D[m]'(by omega)]:=(List.take_append_getElem (by omega)).symm;rw[<-q,List.take_length] at this;rw[List.getD_eq_getElem?_getD,Dq (by omega)];exact this
 have r:∀y∈D.take m,48<=y/\y<=57:=λy i=>o y (List.mem_of_mem_take i);have J:48<=D.getD m 0/\D.getD m 0<=57:=o _ (by rw[List.getD_eq_getElem?_getD,Dq (show m<D.length by omega)];exact List.getElem_mem _);have s:∀W,AD w.heap.size w W->∀j,j<D.length->W.cell? ⟨g,j,none⟩=some (.int .i32 (D.getD j 0)):=λW k j d=>by
  rw[k.cell (p:=⟨g,j,none⟩) G,H j d,List.getElem?_map,List.getD_eq_getElem?_getD,Dq d];rfl
 have K:Hid (∀W,AD w.heap.size w W->(convert 251 9 (.slice (some ⟨g,0,none⟩) m b)).run prog W=.ok (.string (tx ((D.take m).map (·-48)))) W):=λW k=>by
  rw[run_convert_runes W 251 9 21 ⟨g,0,none⟩ m b D (by omega) (by kernel_rfl) (by kernel_rfl) (by kernel_rfl) (λj d=>by rw[N8,Nat.zero_add];exact s W k j d),Rv _ r]
 have L:Hid (∀W,AD w.heap.size w W->(convert 251 9 (.slice (some ⟨g,m,none⟩) 1 (b-m))).run prog W=.ok (.string (tx [D.getD m 0-48])) W):=λW k=>by
  rw[run_convert_runes W 251 9 21 ⟨g,m,none⟩ 1 (b-m) [D.getD m 0] (by simp) (by kernel_rfl) (by kernel_rfl) (by kernel_rfl) (λj d=>by
   have:j=0:=by simpa using d
   subst this;rw[N8,Nat.add_zero];exact s W k m (by omega)),Rv _ (λy i=>by
   have:y=D.getD m 0:=by simpa using i
   rw[this];exact J)]
  rfl
 have M:Hid (cF 302 #[.string (tx ((D.take m).map (·-48))),.string {data:=#[48]}] (.string (tx (dz ((D.take m).map (·-48)))))):=λX=>N4 _ X (λx V=>by
  obtain⟨y,i,rfl⟩:=List.mem_map.1 V;have:=r y i;omega) (by simp;omega)
 have t:Hid (tx (dz ((D.take m).map (·-48)))++tx [D.getD m 0-48]=tx (AU (D.map (·-48)))):=by
  rw[Hid,SG,<-Xy]
  conv=>rhs;rw[I]
  rw[List.map_append];rfl
 have Y:(tx (dz ((D.take m).map (·-48)))).size<=1000:=by
  rw[AE];have:=kH ((D.take m).map (·-48));have h2:((D.take m).map (·-48)).length<=m:=by rw[List.length_map,FQ];omega
  omega
 have Z:(tx [D.getD m 0-48]).size=1:=by rw[AE];rfl
 clear I r J s h o H;rw[q];obtain⟨T,u⟩:=zxe (tx (AU (D.map (·-48))));rw[u] at t;rw[u];generalize tx (dz ((D.take m).map (·-48)))=N at*
 generalize tx ((D.take m).map (·-48))=T0 at*
 generalize tx [D.getD m 0-48]=O at*
 have af:∀X:AA,(Instr.build 192 #[(0,.string T),(1,.int .i64 f)]).run prog X=.ok (.agg #[.string T,.int .i64 f]) X:=λX=>run_build X _ _ _ (by kernel_rfl);have wk:IntKind.i64.wrap (((m+1:Nat):Int)-1)=(m:Int):=Dn (by omega);have ah:wrap64 (m:Int)=(m:Int):=by have:=IntKind.wrap_i64 (m:Int);unfold wrap64;omega
 have ai:m<=b:=by omega
 have aj:m+1<=b:=by omega
 have ak:¬b=m:=by omega
 have al:(m:Int)<=(b:Int):=by omega
 have am:(m:Int)<=(m:Int)+1:=by omega
 have an:(N.size:Int)<=8388608:=by omega
 have ao:(O.size:Int)<=8388608:=by omega
 have ap:¬9223372036854775807<N.size+O.size:=by omega
 have hE:=t.out;have P:AD w.heap.size w (w.alloc (.cells #[.string ⟨#[]⟩,.int .i64 0] 192)):=bA;have c:=zq P;have z:Hid ((w.alloc (.cells #[.string ⟨#[]⟩,.int .i64 0] 192)).heap[w.heap.size]?=some (.cells #[.string ⟨#[]⟩,.int .i64 0] 192 (0,0))):=(MapKept.heap_alloc w _).1;clear P R F G U q t u Y Z;go_enter func268,ntmps268;go_upto_region 2 with fail;generalize (w.alloc (.cells #[.string ⟨#[]⟩,.int .i64 0] 192))=w0 at*
 have Q:=dR w0;refine AM (C:=AD w0.heap.size w0) 12 Q ?_;simp only[Hy,List.take_zero,Ia,List.drop_zero];repeat (go_big_quiet_step ((intro A;rename_i B;first|exact rfl|((with_reducible refine(M.out B).mono ?_);rintro e w' ⟨rfl,rfl⟩;exact⟨rfl,A⟩)|(have k1:=K.out B (c.out.trans (A.mono c.out.size));have k2:=L.out B (c.out.trans (A.mono c.out.size));go_simp;exact rfl))))
 refine wpQuiet_nil ?_;intro l E;have aa:=zq (c.trans (E.mono c.size));have n:l.heap[w.heap.size]?=some (.cells #[.string ⟨#[]⟩,.int .i64 0] 192 (0,0)):=(E.block w.heap.size (Array.getElem?_eq_some_iff.1 z).1).trans z;have d0:l.cell? ⟨w.heap.size,0,none⟩=some (.string ⟨#[]⟩):=by unfold World.cell?;simp only[n];rfl
 have d1:l.cell? ⟨w.heap.size,1,none⟩=some (.int .i64 0):=by unfold World.cell?;simp only[n];rfl
 have f0:l.frozen? ⟨w.heap.size,0,none⟩=false:=by unfold World.frozen?;simp only[n];rfl
 have f1:l.frozen? ⟨w.heap.size,1,none⟩=false:=by unfold World.frozen?;simp only[n];rfl
 clear E n Q c z M K L;go_wp2;refine Do (PS (x:=.string T) (y:=.int .i64 f) rfl _ _ rfl ?_ ?_) rfl ?_
 ·rw[Fx _ _ _ _ (by simp)];exact World.cell?_setCell_same _ _ _ d0
 ·exact World.cell?_setCell_same _ _ _ (by rw[Fx _ _ _ _ (by simp)];exact d1)
 ·exact⟨rfl,(aa.setCell (AS _) _).setCell (AS _) _⟩
abbrev Kh:Type:=Option (AG×Nat×Bool×AG)
def K5(y:Int):Bool:=decide (48<=y/\y<=57)
def Gh(L:AG)(D:AG)(n:Nat)(neg:Bool)(P:AG):Kh:=if L=[] then some (D,n,neg,P) else none
def Hu(L:AG)(D:AG)(n:Nat)(neg:Bool)(P:AG):Kh:=if P=[]\/5<P.length then none else Gh L D n neg P
def CZ:AG->AG->Nat->Bool->AG->Kh
 |[],D,n,neg,P=>Hu [] D n neg P
 |y::r,D,n,neg,P=>if K5 y then CZ r D n neg (P++[y]) else Hu (y::r) D n neg P
def FB:AG->AG->Nat->Kh
 |[],D,n=>CZ [] D n false []
 |y::r,D,n=>if y=43 then CZ r D n false [] else if y=45 then CZ r D n true [] else CZ (y::r) D n false []
def Ba:AG->AG->Nat->Kh
 |[],D,n=>if D=[] then none else Gh [] D n false []
 |y::r,D,n=>if D=[] then none else if y=69\/y=101 then FB r D n else Gh (y::r) D n false []
def GA:AG->AG->Nat->Kh
 |[],D,n=>Ba [] D n
 |y::r,D,n=>if K5 y then GA r (D++[y]) (n+1) else Ba (y::r) D n
def Ch:AG->AG->Kh
 |[],D=>Ba [] D 0
 |y::r,D=>if K5 y then Ch r (D++[y]) else if y=46 then GA r D 0 else Ba (y::r) D 0
def H8(N:Nat)(x:Kh):Prop:=∀D n neg P,x=some (D,n,neg,P)->(∀y∈D,48<=y/\y<=57)/\(∀y∈P,48<=y/\y<=57)/\0<D.length/\D.length<=N/\n<=D.length/\P.length<=5
theorem PI(N:Nat)(L D:AG)(n:Nat)(neg:Bool)(P:AG)(a:∀y∈D,48<=y/\y<=57)(b:∀y∈P,48<=y/\y<=57)(c:0<D.length)(d:D.length<=N)(e:n<=D.length)(f:P.length<=5):H8 N (Gh L D n neg P):=λg i j k h=>by
 unfold Gh at h;split at h
 ·obtain⟨rfl,rfl,rfl,rfl⟩:D=g/\n=i/\neg=j/\P=k:=by simpa only[Option.some.injEq,Prod.mk.injEq] using h
  exact⟨a,b,c,d,e,f⟩
 ·cases h
theorem Uw(N:Nat)(L D:AG)(n:Nat)(neg:Bool)(P:AG)(a:∀y∈D,48<=y/\y<=57)(b:∀y∈P,48<=y/\y<=57)(c:0<D.length)(d:D.length<=N)(e:n<=D.length):H8 N (Hu L D n neg P):=by
 unfold Hu;split
 ·intro f g i j h;cases h
 ·rename_i h;exact PI N L D n neg P a b c d e (by omega)
theorem QM{y:Int}(h:K5 y=true):48<=y/\y<=57:=of_decide_eq_true h
theorem LV{D:AG}{y:Int}(a:∀y∈D,48<=y/\y<=57)(b:K5 y=true):∀z∈D++[y],48<=z/\z<=57:=λz c=>by
 rcases List.mem_append.1 c with h|h
 ·exact a z h
 ·rw[List.mem_singleton.1 h];exact QM b
theorem LA(N:Nat)(L D:AG)(n:Nat)(neg:Bool)(P:AG)(b:∀y∈D,48<=y/\y<=57)(a:∀y∈P,48<=y/\y<=57)(c:0<D.length)(d:D.length<=N)(e:n<=D.length):H8 N (CZ L D n neg P):=by
 induction L generalizing P with
 |nil=>exact Uw N [] D n neg P b a c d e
 |cons y r ih=>
  unfold CZ;split
  ·rename_i h;exact ih (P++[y]) (LV a h)
  ·exact Uw N (y::r) D n neg P b a c d e
theorem JE(N:Nat)(L D:AG)(n:Nat)(a:∀y∈D,48<=y/\y<=57)(b:D.length<=N)(c:n<=D.length):H8 N (Ba L D n):=by
 have d:∀y∈([]:AG),48<=y/\y<=57:=λy g=>by cases g
 have f:H8 N none:=λi j k l h=>by cases h
 cases L with
 |nil=>
  show H8 N (if D=[] then none else Gh [] D n false [])
  split
  ·exact f
  ·rename_i h;exact PI N [] D n false [] a d (List.length_pos_iff.2 h) b c (by simp)
 |cons y r=>
  show H8 N (if D=[] then none else if y=69\/y=101 then FB r D n else Gh (y::r) D n false [])
  split
  ·exact f
  ·rename_i h;have e:=List.length_pos_iff.2 h;split
   ·cases r with
    |nil=>exact LA N [] D n false [] a d e b c
    |cons z t=>
     show H8 N (if z=43 then CZ t D n false [] else if z=45 then CZ t D n true [] else CZ (z::t) D n false [])
     split
     ·exact LA N t D n false [] a d e b c
     ·split
      ·exact LA N t D n true [] a d e b c
      ·exact LA N (z::t) D n false [] a d e b c
   ·exact PI N (y::r) D n false [] a d e b c (by simp)
theorem iB(N:Nat)(L D:AG)(n:Nat)(a:∀y∈D,48<=y/\y<=57)(b:D.length+L.length<=N)(c:n<=D.length):H8 N (GA L D n):=by
 induction L generalizing D n with
 |nil=>exact JE N [] D n a (by simpa using b) c
 |cons y r ih=>
  unfold GA;rw[List.length_cons] at b;split
  ·rename_i h;exact ih (D++[y]) (n+1) (LV a h) (by rw[Dc,List.length_singleton];omega) (by rw[Dc,List.length_singleton];omega)
  ·exact JE N (y::r) D n a (by omega) c
theorem iI(N:Nat)(L D:AG)(a:∀y∈D,48<=y/\y<=57)(b:D.length+L.length<=N):H8 N (Ch L D):=by
 induction L generalizing D with
 |nil=>exact JE N [] D 0 a (by simpa using b) (B9 _)
 |cons y r ih=>
  unfold Ch;rw[List.length_cons] at b;split
  ·rename_i h;exact ih (D++[y]) (LV a h) (by rw[Dc,List.length_singleton];omega)
  ·split
   ·exact iB N r D 0 a (by omega) (B9 _)
   ·exact JE N (y::r) D 0 a (by omega) (B9 _)
def fH:Nat->List UInt8->AG
 |0,_=>[]
 |n+1,l=>if l=[] then[] else((Lib.decodeL l).1:Int)::fH n (l.drop (Lib.decodeL l).2)
def rn(l:List UInt8):AG:=fH l.length l
theorem LF:∀n,fH n []=[]
 |0=>rfl
 |n+1=>by unfold fH;rw[zyp rfl]
theorem Rj:∀(n m:Nat) (l:List UInt8),l.length<=n->l.length<=m->fH n l=fH m l
 |0,m,l,h1,h2=>by
  obtain rfl:l=[]:=List.length_eq_zero_iff.1 (by omega);rw[LF,LF]
 |n+1,0,l,h1,h2=>by
  obtain rfl:l=[]:=List.length_eq_zero_iff.1 (by omega);rw[LF,LF]
 |n+1,m+1,l,h1,h2=>by
  unfold fH;by_cases h:l=[]
  ·rw[zyp h,zyp h]
  ·rw[zyn h,zyn h];have a:=Lib.decodeL_width l;have b:=List.length_pos_iff.2 h;rw[Rj n m (l.drop (Lib.decodeL l).2) (by rw[List.length_drop];omega) (by rw[List.length_drop];omega)]
theorem Zw:rn []=[]:=rfl
theorem PV(l:List UInt8)(h:l≠[]):rn l=((Lib.decodeL l).1:Int)::rn (l.drop (Lib.decodeL l).2):=by
 have b:=Lib.decodeL_width l;have c:=List.length_pos_iff.2 h;obtain⟨n,a⟩:∃n,l.length=n+1:=⟨l.length-1,by omega⟩;unfold rn;rw[a]
 conv=>lhs;unfold fH
 rw[zyn h,Rj n _ (l.drop (Lib.decodeL l).2) (by rw[List.length_drop];omega) (AS _)]
theorem U5:∀(n:Nat) (l:List UInt8),(fH n l).length<=n
 |0,_=>AS _
 |n+1,l=>by
  unfold fH;split
  ·exact B9 _
  ·rw[List.length_cons];have:=U5 n (l.drop (Lib.decodeL l).2);omega
theorem PT(l:List UInt8):(rn l).length<=l.length:=U5 _ _
theorem JT(s:AB):∀(fuel i:Nat) (a:Array AK),s.size-i<=fuel->Conv.runesFrom s fuel i a=a++((rn (s.data.toList.drop i)).map (Value.int .i32)).toArray
 |0,i,a,h=>by
  have d:s.data.toList.length=s.size:=Array.length_toList;rw[List.drop_eq_nil_iff.2 (by omega),Zw];simp[Conv.runesFrom]
 |fuel+1,i,a,h=>by
  have d:s.data.toList.length=s.size:=Array.length_toList;unfold Conv.runesFrom;by_cases b:i<s.size
  ·rw[zyp b];have c:=Lib.decodeL_drop s i;have e:=Lib.decodeL_width (s.data.toList.drop i);rw[c] at e;rw[PV (s.data.toList.drop i) (by rw[ne_eq,List.drop_eq_nil_iff];omega),c,List.drop_drop];show Conv.runesFrom s fuel (i+(Utf8.decode s i).2) (a.push (.int .i32 (Int.ofNat (Utf8.decode s i).1)))=_
   rw[JT s fuel (i+(Utf8.decode s i).2) _ (by omega)];apply Array.ext';simp
  ·rw[zyn b,List.drop_eq_nil_iff.2 (by omega),Zw];simp
theorem Ru(s:AB):Conv.runesFrom s s.size 0 #[]=((rn s.data.toList).map (Value.int .i32)).toArray:=by
 rw[JT s s.size 0 #[] (by omega),List.drop_zero];simp
theorem Da(b:UInt8)(l:List UInt8)(h:b.toNat<128):rn (b::l)=(b.toNat:Int)::rn l:=by
 rw[PV _ (List.cons_ne_nil _ _),Lib.decodeL_ascii b l h];rfl
theorem QL(b:UInt8)(l:List UInt8)(h:128<=b.toNat):128<=(Lib.decodeL (b::l)).1:=by
 rw[Lib.decodeL_N];have d:((b::l).getD 0 0).toNat=b.toNat:=rfl;rw[d];rcases Lib.decodeN_shape (b::l).length b.toNat ((b::l).getD 1 0).toNat ((b::l).getD 2 0).toNat ((b::l).getD 3 0).toNat with⟨c,-⟩|⟨-,-,-,c,a⟩|⟨-,-,-,-,c,-,a⟩|⟨-,-,-,-,-,c,-,a⟩|a
 ·omega
 ·rw[a];exact c
 ·rw[a];show 128<=_;omega
 ·rw[a];show 128<=_;omega
 ·rw[a];decide
theorem Fs(b:UInt8)(l:List UInt8)(h:128<=b.toNat):∃r t,rn (b::l)=r::t/\128<=r/\r<=1114111:=by
 refine⟨_,_,PV _ (List.cons_ne_nil _ _),?_,?_⟩
 ·have:=QL b l h;omega
 ·have:=Lib.decodeL_rune (b::l);omega
def bz(l:List UInt8):AG:=l.map (λb=>(b.toNat:Int))
theorem Il(b:UInt8)(l:List UInt8):bz (b::l)=(b.toNat:Int)::bz l:=rfl
theorem Cu(x:Int)(L:AG)(D:AG)(n:Nat)(neg:Bool)(P:AG):Gh (x::L) D n neg P=none:=by
 unfold Gh;rw[zyn (List.cons_ne_nil _ _)]
theorem Nc(x y:Int)(L M:AG)(D:AG)(n:Nat)(neg:Bool)(P:AG):Hu (x::L) D n neg P=Hu (y::M) D n neg P:=by
 unfold Hu;rw[Cu,Cu]
theorem E3{r:Int}(h:128<=r):K5 r=false:=By (by omega)
theorem PJ(l:List UInt8)(D:AG)(n:Nat)(neg:Bool)(P:AG):CZ (rn l) D n neg P=CZ (bz l) D n neg P:=by
 induction l generalizing P with
 |nil=>rfl
 |cons b l ih=>
  rw[Il];by_cases h:b.toNat<128
  ·rw[Da b l h];simp only[CZ];split
   ·exact ih _
   ·exact Nc _ _ _ _ _ _ _ _
  ·obtain⟨r,t,a,c,-⟩:=Fs b l (by omega);rw[a];simp only[CZ,E3 c,E3 (show(128:Int)<=(b.toNat:Int) by omega),Bool.false_eq_true,if_false];exact Nc _ _ _ _ _ _ _ _
theorem iH(l:List UInt8)(D:AG)(n:Nat):FB (rn l) D n=FB (bz l) D n:=by
 cases l with
 |nil=>rfl
 |cons b l=>
  have a:∀neg,CZ (rn (b::l)) D n neg []=CZ (bz (b::l)) D n neg []:=λneg=>PJ _ _ _ _ _;rw[Il] at a ⊢;by_cases h:b.toNat<128
  ·rw[Da b l h] at a ⊢;simp only[FB];split
   ·exact PJ _ _ _ _ _
   ·split
    ·exact PJ _ _ _ _ _
    ·exact a _
  ·obtain⟨r,t,c,d,-⟩:=Fs b l (by omega);rw[c] at a ⊢;simp only[FB];rw[zyn (by omega),zyn (by omega),zyn (by omega),zyn (by omega)];exact a _
theorem RX(l:List UInt8)(D:AG)(n:Nat):Ba (rn l) D n=Ba (bz l) D n:=by
 cases l with
 |nil=>rfl
 |cons b l=>
  rw[Il];by_cases h:b.toNat<128
  ·rw[Da b l h];simp only[Ba];split
   ·rfl
   ·split
    ·exact iH _ _ _
    ·rw[Cu,Cu]
  ·obtain⟨r,t,a,c,-⟩:=Fs b l (by omega);rw[a];simp only[Ba];rw[zyn (show¬(r=69\/r=101) by omega),zyn (show¬((b.toNat:Int)=69\/(b.toNat:Int)=101) by omega),Cu,Cu]
theorem iD(l:List UInt8)(D:AG)(n:Nat):GA (rn l) D n=GA (bz l) D n:=by
 induction l generalizing D n with
 |nil=>rfl
 |cons b l ih=>
  have a:=RX (b::l) D n;rw[Il] at a ⊢;by_cases h:b.toNat<128
  ·rw[Da b l h] at a ⊢;simp only[GA];split
   ·exact ih _ _
   ·exact a
  ·obtain⟨r,t,c,d,-⟩:=Fs b l (by omega);rw[c] at a ⊢;simp only[GA,E3 d,E3 (show(128:Int)<=(b.toNat:Int) by omega),Bool.false_eq_true,if_false];exact a
theorem iK(l:List UInt8)(D:AG):Ch (rn l) D=Ch (bz l) D:=by
 induction l generalizing D with
 |nil=>rfl
 |cons b l ih=>
  have a:=RX (b::l) D 0;rw[Il] at a ⊢;by_cases h:b.toNat<128
  ·rw[Da b l h] at a ⊢;simp only[Ch];split
   ·exact ih _
   ·split
    ·exact iD _ _ _
    ·exact a
  ·obtain⟨r,t,c,d,-⟩:=Fs b l (by omega);rw[c] at a ⊢;simp only[Ch,E3 d,E3 (show(128:Int)<=(b.toNat:Int) by omega),Bool.false_eq_true,if_false];rw[zyn (show¬r=46 by omega),zyn (show¬(b.toNat:Int)=46 by omega)];exact a
def Ka(x:Int):Int:=if 65<=x/\x<=90 then x+32 else x
def CS(b:UInt8):UInt8:=if 65<=b.toNat/\b.toNat<=90 then b+32 else b
theorem Vv(r:Int)(b:0<=r)(c:r<128):(Utf8.encode r).data.toList=[UInt8.ofNat r.toNat]:=by
 have a:Utf8.valid r=true:=by unfold Utf8.valid;simp;omega
 unfold Utf8.encode;simp only[a,if_true];rw[zyp (by omega)]
theorem Xz(r:Int)(d:128<=r)(a:r<=1114111):∃c t,(Utf8.encode r).data.toList=c::t/\128<=c.toNat:=by
 unfold Utf8.encode;simp only;have b:128<=(if Utf8.valid r=true then r.toNat else Utf8.runeError)/\(if Utf8.valid r=true then r.toNat else Utf8.runeError)<=1114111:=by
  split
  ·omega
  ·decide
 generalize (if Utf8.valid r=true then r.toNat else Utf8.runeError)=c at b;have e:∀n,128<=n->n<256->128<=(UInt8.ofNat n).toNat:=λn a f=>by rw[UInt8.toNat_ofNat'];omega
 rw[zyn (by omega)];split
 ·exact⟨_,_,rfl,e _ (by omega) (by omega)⟩
 ·split
  ·exact⟨_,_,rfl,e _ (by omega) (by omega)⟩
  ·exact⟨_,_,rfl,e _ (by omega) (by omega)⟩
theorem Sn(r:Int)(a:0<=r)(b:r<128):Lib.encodeRune r=[UInt8.ofNat r.toNat]:=by
 unfold Lib.encodeRune;rw[Lib.encodeRuneZ_one a (by omega)];rfl
theorem Vu(r:Int)(a:128<=r):∃c t,Lib.encodeRune r=c::t/\128<=c.toNat:=by
 unfold Lib.encodeRune Lib.encodeRuneZ;have e:∀x:Int,128<=x->x<256->128<=(x.toNat.toUInt8).toNat:=λx b d=>by
  show 128<=(UInt8.ofNat x.toNat).toNat
  rw[UInt8.toNat_ofNat'];omega
 rw[zyn (by omega)];split
 ·exact⟨_,_,rfl,e _ (by omega) (by omega)⟩
 ·split
  ·exact⟨_,_,rfl,e _ (by omega) (by omega)⟩
  ·split
   ·exact⟨_,_,rfl,e _ (by omega) (by omega)⟩
   ·exact⟨_,_,rfl,by decide⟩
theorem QY(a:AG):∀s:AB,(a.foldl (λr n=>r++Utf8.encode n) s).data.toList=s.data.toList++(a.foldl (λr n=>r++Utf8.encode n) ByteArray.empty).data.toList:=by
 induction a with
 |nil=>intro s;simp
 |cons n a ih=>
  intro s;rw[List.foldl_cons,List.foldl_cons,ih (s++Utf8.encode n),ih (ByteArray.empty++Utf8.encode n)];simp
theorem KW(r:Int)(L:AG):(runesBytes (r::L)).data.toList=(Utf8.encode r).data.toList++(runesBytes L).data.toList:=by
 unfold runesBytes;rw[List.foldl_cons,QY];simp
theorem Y2(b:UInt8)(h:b.toNat<128):UInt8.ofNat (Ka (b.toNat:Int)).toNat=CS b/\0<=Ka (b.toNat:Int)/\Ka (b.toNat:Int)<128:=by
 unfold Ka CS;split
 ·rename_i a;rw[zyp (by omega)];refine⟨?_,by omega,by omega⟩;apply UInt8.toNat_inj.1;rw[UInt8.toNat_ofNat',UInt8.toNat_add];show((b.toNat:Int)+32).toNat%2^8=(b.toNat+32)%2^8
  congr 1
 ·rw[zyn (by omega)];refine⟨?_,by omega,by omega⟩;apply UInt8.toNat_inj.1;rw[UInt8.toNat_ofNat'];omega
theorem WR(b:UInt8)(h:128<=b.toNat):CS b=b:=by unfold CS;rw[zyn (by omega)]
theorem G9(l nm:List UInt8)(a:∀c∈nm,c.toNat<128):Lib.mapD Ka (runesBytes (rn l)).data.toList=nm↔l.map CS=nm:=by
 induction l generalizing nm with
 |nil=>exact Iff.rfl
 |cons b l ih=>
  by_cases h:b.toNat<128
  ·rw[Da b l h,KW,Vv _ (by omega) (by omega),show UInt8.ofNat ((b.toNat:Int).toNat)=b by simp,List.singleton_append,
    Lib.mapD_step _ _ (List.cons_ne_nil _ _),Lib.decodeL_ascii b _ h]
   obtain⟨f,d,g⟩:=Y2 b h;show(if 0<=Ka (b.toNat:Int) then Lib.encodeRune (Ka (b.toNat:Int)) else[])++Lib.mapD Ka (runesBytes (rn l)).data.toList=nm↔_
   rw[zyp d,Sn _ d g,f,List.map_cons,List.singleton_append];cases nm with
   |nil=>simp
   |cons c nm=>rw[List.cons.injEq,List.cons.injEq,ih nm (λx i=>a x (GH _ i))]
  ·have e:128<=b.toNat:=by omega
   obtain⟨r,t,j,k,m⟩:=Fs b l e;obtain⟨c,u,n,o⟩:=Xz r k m;have p:=QL c (u++(runesBytes t).data.toList) o;rw[j,KW,n,List.cons_append,Lib.mapD_step _ _ (List.cons_ne_nil _ _)];generalize (Lib.decodeL (c::(u++(runesBytes t).data.toList))).1=q at p;have s:Ka (q:Int)=q:=by unfold Ka;rw[zyn (by omega)]
   obtain⟨v,y,w,z⟩:=Vu (q:Int) (by omega);rw[s,zyp (by omega),w,List.cons_append,List.map_cons,WR b e];constructor
   ·intro q;rw[<-q] at a;have:=a v Gx;omega
   ·intro q;rw[<-q] at a;have:=a b Gx;omega
theorem lz(x:Nat)(h:x<=1114111):0<=Ka (x:Int)/\Ka (x:Int)<=2147483647:=by unfold Ka;split<;>omega
theorem Kq(x:Int)(W:AA)(h:0<=x/\x<=1114111):cE 266 #[.int .i32 x] W (.int .i32 (Ka x)):=by
 by_cases b:65<=x
 ·by_cases c:x<=90
  ·have d:IntKind.i32.wrap (x-65)=x-65:=by rw[IntKind.wrap_i32];omega
   have e:IntKind.i32.wrap (x-65+97)=x+32:=by rw[IntKind.wrap_i32];omega
   have a:Hid (Ka x=x+32):=by show _=_;unfold Ka;rw[zyp ⟨b,c⟩]
   rw[a];go_enter func266,ntmps266;go_wp2;go_ret;exact⟨rfl,rfl⟩
  ·have a:Hid (Ka x=x):=by show _=_;unfold Ka;rw[zyn (by omega)]
   rw[a];go_enter func266,ntmps266;go_wp2;go_ret;exact⟨rfl,rfl⟩
 ·have a:Hid (Ka x=x):=by show _=_;unfold Ka;rw[zyn (by omega)]
  rw[a];go_enter func266,ntmps266;go_wp2;go_ret;exact⟨rfl,rfl⟩
def I7:List UInt8:=[105,110,102]
def B4:List UInt8:=[105,110,102,105,110,105,116,121]
def I8:List UInt8:=[110,97,110]
def Fp:List UInt8:=[115,110,97,110]
def GE(T:List UInt8):Int:=if T=B4\/T=I7 then 2 else if T=I8 then 3 else if T=Fp then 4 else 0
theorem OO:∀args w,(callFunc 266 args).run prog w=.ok (.enter 266 args) w:=enters_of func266 (by kernel_rfl) rfl
theorem Mv(g o c:Nat)(L:AG)(w:AA)(m:∀j,j<L.length->w.cell? ⟨g,o+j,none⟩=some (.int .i32 (L.getD j 0)))(r:L.length<=1000)(n:Lib.Utf8Tabs 4 5 w):
 cB 227 #[.slice (some ⟨g,o,none⟩) L.length c] w (.tuple #[.int .i64 (GE (Lib.mapD Ka (runesBytes L).data.toList)),.bool (decide (GE (Lib.mapD Ka (runesBytes L).data.toList)≠0))]):=by
 have s:Hid ((convert 251 9 (.slice (some ⟨g,o,none⟩) L.length c)).run prog w=.ok (.string (runesBytes L)) w):=by
  have:=run_convert_runes (P:=prog) w 251 9 21 ⟨g,o,none⟩ L.length c L (AS _) (by kernel_rfl) (by kernel_rfl) (by kernel_rfl) (λj t=>by rw[N8];exact m j t);rw[List.take_length] at this;exact this
 have u:=runesBytes_size_le L;have a:Hid (cB 265 #[.func (.func 266) #[] #[],.string (runesBytes L)] w (.string ⟨(Lib.mapD Ka (runesBytes L).data.toList).toArray⟩)):=
  strings_Map_runes 266 #[] OO Ka (runesBytes L) w (by omega) (λW x p _=>by
   refine ce (Kq (x:Int) W (by omega)) ?_;exact⟨rfl,0,rfl⟩) (λx p=>lz x p) n
 clear u r m n;generalize Lib.mapD Ka (runesBytes L).data.toList=T at*
 generalize runesBytes L=S at*
 have v:=s.out;by_cases f:T=B4
 ·subst f;have d:Hid (GE B4=2):=rfl;unfold B4 at a;go_enter func227,ntmps227;go_wp2_with fail;refine cm a λh b=>?_;have e:=zq b;clear b a;go_wp2;go_ret2;exact⟨by rw[d];rfl,e⟩
 by_cases i:T=I7
 ·subst i;have d:Hid (GE I7=2):=rfl;unfold I7 at a;go_enter func227,ntmps227;go_wp2_with fail;refine cm a λh b=>?_;have e:=zq b;clear b a;go_wp2;go_ret2;exact⟨by rw[d];rfl,e⟩
 by_cases k:T=I8
 ·subst k;have d:Hid (GE I8=3):=rfl;unfold I8 at a;go_enter func227,ntmps227;go_wp2_with fail;refine cm a λh b=>?_;have e:=zq b;clear b a;go_wp2;go_ret2;exact⟨by rw[d];rfl,e⟩
 by_cases l:T=Fp
 ·subst l;have d:Hid (GE Fp=4):=rfl;unfold Fp at a;go_enter func227,ntmps227;go_wp2_with fail;refine cm a λh b=>?_;have e:=zq b;clear b a;go_wp2;go_ret2;exact⟨by rw[d];rfl,e⟩
 have d:Hid (GE T=0):=by show _=_;unfold GE;rw[zyn (λq=>q.elim f i),zyn k,zyn l]
 have y:(T==[105,110,102,105,110,105,116,121])=false:=beq_eq_false_iff_ne.2 f;have z:(T==[105,110,102])=false:=beq_eq_false_iff_ne.2 i;have A:(T==[110,97,110])=false:=beq_eq_false_iff_ne.2 k;have B:(T==[115,110,97,110])=false:=beq_eq_false_iff_ne.2 l;clear f i k l;go_enter func227,ntmps227;go_wp2_with fail;refine cm a λh b=>?_;have e:=zq b;clear b a;go_wp2;go_ret2;exact⟨by rw[d];rfl,e⟩
abbrev BA(k:Int)(b:Bool)(e:Int)(s:AB)(f:Int):AK:=.agg #[.int .i64 k,.bool b,.int .i64 e,.string s,.int .i64 f]
theorem KS{a:Func}{p:Tmp}{b:Nat}{x y z u v:AK}(h:a.results=#[.cell p 90])(c:Array AK)(w:AA)(d:c[p]?.getD undef=.pointer (some ⟨b,0,none⟩))
 (e:w.cell? ⟨b,0,none⟩=some x) (f:w.cell? ⟨b,1,none⟩=some y) (g:w.cell? ⟨b,2,none⟩=some z) (i:w.cell? ⟨b,3,none⟩=some u) (j:w.cell? ⟨b,4,none⟩=some v):(results a c).run prog w=.ok (.agg #[x,y,z,u,v]) w:=by
 simp[results,h,d,go_sem,e,f,g,i,j]
def Ib(W:AA)(b:Nat)(x y z u v:AK):Prop:=W.heap[b]?=some (.cells #[x,y,z,u,v] 90 (0,0))
abbrev A5(W:AA)(b:Nat)(k:Int)(n:Bool)(e:Int)(s:AB)(f:Int):Prop:=Ib W b (.int .i64 k) (.bool n) (.int .i64 e) (.string s) (.int .i64 f)
abbrev Z5(W:AA)(b:Nat):Prop:=Ib W b (.int .i64 0) (.bool false) (.int .i64 0) (.string {data:=#[]}) (.int .i64 0)
theorem Af(w:AA)(x y z u v:AK):Ib (w.alloc (.cells #[x,y,z,u,v] 90)) w.heap.size x y z u v:=by
 unfold Ib World.alloc;simp
theorem Ib.cells{w:AA}{b:Nat}{x y z u v:AK}(h:Ib w b x y z u v):w.cell? ⟨b,0,none⟩=some x/\w.cell? ⟨b,1,none⟩=some y/\w.cell? ⟨b,2,none⟩=some z/\w.cell? ⟨b,3,none⟩=some u/\w.cell? ⟨b,4,none⟩=some v/\∀i,w.frozen? ⟨b,i,none⟩=false:=by
 unfold Ib at h;exact⟨by simp[World.cell?,h],by simp[World.cell?,h],by simp[World.cell?,h],by simp[World.cell?,h],by simp[World.cell?,h],λi=>by simp[World.frozen?,h]⟩
theorem Ib.lt{w:AA}{b:Nat}{x y z u v:AK}(h:Ib w b x y z u v):b<w.heap.size:=(Array.getElem?_eq_some_iff.1 h).1
theorem Ib.below{w a:AA}{b B:Nat}{x y z u v:AK}(h:Ib w b x y z u v)(c:AD B w a)(d:b<B):Ib a b x y z u v:=(c.block b d).trans h
theorem Ib.put{w:AA}{b:Nat}{x y z u v:AK}(h:Ib w b x y z u v)(a c d e f:AK):Ib (((((w.setCell ⟨b,0,none⟩ a).setCell ⟨b,1,none⟩ c).setCell ⟨b,2,none⟩ d).setCell ⟨b,3,none⟩ e).setCell ⟨b,4,none⟩ f) b a c d e f:=by
 unfold Ib at*
 simp[World.setCell,Array.getElem?_modify,h]
theorem Ez{B:Nat}{w W:AA}(h:AD B w W){b:Nat}(a:B<=b)(x y z u v:AK):AD B w (((((W.setCell ⟨b,0,none⟩ x).setCell ⟨b,1,none⟩ y).setCell ⟨b,2,none⟩ z).setCell ⟨b,3,none⟩ u).setCell ⟨b,4,none⟩ v):=((((h.setCell a _).setCell a _).setCell a _).setCell a _).setCell a _
theorem o8(k:Int)(b:Bool)(e:Int)(s:AB)(f:Int):(#[.int .i64 k,.bool b,.int .i64 e,.string s,.int .i64 f]:Array AK).all (·.oneCell')=true:=by simp[Value.oneCell']
theorem Ib.row{w:AA}{b:Nat}{x y z u v:AK}(h:Ib w b x y z u v)(a c d e f:AK):Ib (w.setRow b #[a,c,d,e,f]) b a c d e f:=setRow_heap w b _ _ _ _ h
theorem AC{B:Nat}{w W:AA}(h:AD B w W){b:Nat}(c:B<=b)(cs:Array AK):AD B w (W.setRow b cs):=
 ⟨h.os,h.tape,h.output,by rw[show(W.setRow b cs).heap.size=W.heap.size by simp[World.setRow]];exact h.size,λk a=>(setRow_other W b k cs (by omega)).trans (h.block k a)⟩
theorem Bt(k:Int)(b:Bool)(e:Int)(s:AB)(f:Int)(w:AA):(Instr.build 90 #[(0,AH k b e s),(1,.int .i64 f)]).run prog w=.ok (BA k b e s f) w:=run_build w _ _ _ (by kernel_rfl)
theorem AT(k:Int)(b:Bool)(e:Int)(s:AB)(w:AA):(Instr.build 90 #[(0,AH k b e s)]).run prog w=.ok (BA k b e s 0) w:=run_build w _ _ _ (by kernel_rfl)
theorem EA(b:Bool)(w:AA):(Instr.build 78 #[(0,.int .i64 2),(1,.bool b)]).run prog w=.ok (AH 2 b 0 {data:=#[]}) w:=run_build w _ _ _ (by kernel_rfl)
theorem Aj(b:Bool)(s:AB)(e:Int)(w:AA):cB 130 #[.bool b,.string s,.int .i64 e] w (AH 1 b e s):=by
 go_enter func130,ntmps130;go_wp2;have a:=CE w (.int .i64 1) (.bool b) (.int .i64 e) (.string s);refine rN a ?_;exact⟨rfl,bA⟩
theorem I1(x y:Int)(w:AA):cE 131 #[.int .i64 x,.int .i64 y] w (.int .i64 (max x y)):=by
 by_cases h:y<x
 ·have E:Hid (max x y=x):=by show _=_;omega
  rw[E];go_enter func131,ntmps131;go_wp2;go_ret;exact⟨rfl,rfl⟩
 ·have E:Hid (max x y=y):=by show _=_;omega
  rw[E];go_enter func131,ntmps131;go_wp2;go_ret;exact⟨rfl,rfl⟩
theorem C0(x y:Int)(w:AA):cE 189 #[.int .i64 x,.int .i64 y] w (.int .i64 (min x y)):=by
 by_cases h:x<y
 ·have E:Hid (min x y=x):=by show _=_;omega
  rw[E];go_enter func189,ntmps189;go_wp2;go_ret;exact⟨rfl,rfl⟩
 ·have E:Hid (min x y=y):=by show _=_;omega
  rw[E];go_enter func189,ntmps189;go_wp2;go_ret;exact⟨rfl,rfl⟩
def KM(n:Int):Nat->AG
 |0=>[]
 |k+1=>KM (n/10) k++[n%10]
theorem Js(n:Int)(k:Nat):(KM n k).length=k:=by
 induction k generalizing n with
 |zero=>rfl
 |succ k ih=>simp[KM,ih]
theorem WK(n:Int)(k:Nat):Au (KM n k):=by
 induction k generalizing n with
 |zero=>intro d a;cases a
 |succ k ih=>
  intro d a;rcases List.mem_append.1 a with c|c
  ·exact ih _ d c
  ·simp at c;omega
theorem Yv(n:Int)(k:Nat)(b:0<=n)(a:n<10^k):vl (KM n k)=n:=by
 induction k generalizing n with
 |zero=>simp at a;simp[KM,vl,lv];omega
 |succ k ih=>
  simp only[KM];rw[CX,ih (n/10) (by omega) (by rw[Int.pow_succ] at a;omega)];omega
def nt(n:Int):AG:=AU (KM n 500)
theorem B5(n:Int)(a:0<=n)(b:n<10^500):AJ (nt n)/\vl (nt n)=n:=by
 unfold nt;refine⟨BK _ (WK n 500) (by rw[Js];decide),?_⟩;rw[B8];exact Yv n 500 a b
theorem BW(R:AG)(n:Int)(h:AJ R)(a:vl R=n)(d:R.length<=500):R=nt n:=by
 have b:=AZ R h.1;have f:n<10^500:=by rw[<-a];exact FS b.2 (AI _ _ d)
 obtain⟨c,e⟩:=B5 n (by rw[<-a];exact b.1) f;exact FX R (nt n) h c (by rw[a,e])
def dl(s:AB):AG:=s.data.toList.map λc=>(c.toNat:Int)-48
theorem jS(a:AG)(h:Au a):dl (tx a)=a:=by
 unfold dl;rw[AR];simp only[List.map_map];have:∀d∈a,((λc:UInt8=>(c.toNat:Int)-48)∘λd:Int=>UInt8.ofNat (48+d).toNat) d=d:=λd e=>by
  have b:=h d e;show((UInt8.ofNat (48+d).toNat).toNat:Int)-48=d
  rw[UInt8.toNat_ofNat'];omega
 rw[List.map_congr_left this,List.map_id']
theorem Fk(n:Int)(s:AB)(h:Be n s=true):AJ (dl s)/\((dl s).length:Int)<=n/\s=tx (dl s):=by
 obtain⟨b,a,d,c,rfl⟩:=NW n s h;rw[jS b a.1];exact⟨a,c,rfl⟩
def nv(s:AB):Int:=vl (dl s)
theorem Gd(n:Nat)(s:AB)(h:Be n s=true):0<=nv s/\nv s<10^n:=by
 obtain⟨a,c,-⟩:=Fk n s h;have b:=AZ (dl s) a.1;exact⟨b.1,FS b.2 (AI _ _ (by omega))⟩
def DE(L:AG):AB:=if L.length<=200 then tx L else{data:=#[]}
theorem Ho(a b:AG):vl (a++b)=vl b+10^b.length*vl a:=by
 unfold vl;rw[List.reverse_append,CT,List.length_reverse]
theorem QK(a:AG)(h:Au a)(k:Nat):Au (a.drop k):=λd b=>h d (List.mem_of_mem_drop b)
theorem jo(a:AG)(k:Nat)(b:k<a.length):vl a=vl (a.drop (k+1))+10^(a.length-(k+1))*a.getD k 0+10^(a.length-k)*vl (a.take k):=by
 have e:a.drop k=a.getD k 0::a.drop (k+1):=by
  rw[List.drop_eq_getElem_cons b];simp[List.getD,b]
 have h:vl (a.take k++a.drop k)=vl a:=by rw[List.take_append_drop]
 rw[Ho,List.length_drop,e,Br,List.length_drop] at h;exact h.symm
theorem Nv(a b:AG)(k:Nat)(f:a.length=b.length)(e:∀j,j<k->a.getD j 0=b.getD j 0):a.take k=b.take k:=by
 apply List.ext_getElem?;intro i;by_cases c:i<k
 ·rw[List.getElem?_take_of_lt c,List.getElem?_take_of_lt c];by_cases d:i<a.length
  ·have:=e i c;rw[List.getD,List.getD,Dq d,Dq (by omega)] at this;rw[Dq d,Dq (by omega)];simpa using this
  ·rw[List.getElem?_eq_none (by omega),List.getElem?_eq_none (by omega)]
 ·rw[List.getElem?_eq_none (by simp;omega),List.getElem?_eq_none (by simp;omega)]
theorem VR(a b:AG)(d:Au a)(e:Au b)(c:a.length=b.length)(k:Nat)(f:k<a.length)(g:∀j,j<k->a.getD j 0=b.getD j 0)(h:a.getD k 0<b.getD k 0):vl a<vl b:=by
 have x:=jo a k f;have y:=jo b k (by omega);have t:=Nv a b k c g;have p:=AZ _ (QK a d (k+1));have q:=AZ _ (QK b e (k+1));rw[List.length_drop] at p q;rw[<-c,<-t] at y;rw[<-c] at q;have m:10^(a.length-(k+1))*(a.getD k 0+1)<=10^(a.length-(k+1))*b.getD k 0:=
  NH (by omega) (CP (Int.pow_pos (by decide)))
 rw[Int.mul_add,Int.mul_one] at m;omega
theorem JY(a b:AG)(c:AJ a)(d:AJ b)(e:a.length<b.length):vl a<vl b:=by
 have p:=(AZ a c.1).2;have f:=c.2.1;have q:=EB b d (by omega);have m:=AI a.length (b.length-1) (by omega);omega
theorem jI(a b:AG)(c:a.length=b.length)(d:∀j,j<a.length->a.getD j 0=b.getD j 0):a=b:=by
 have:=Nv a b a.length c d;rwa[List.take_length,c,List.take_length] at this
def Ay(x y:Int):Int:=if x<y then -1 else if y<x then 1 else 0
theorem Ck(x y:Int)(h:x<y):Ay x y=-1:=by unfold Ay;rw[zyp h]
theorem Du(x y:Int)(h:y<x):Ay x y=1:=by unfold Ay;rw[zyn (by omega),zyp h]
theorem Kz(x:Int):Ay x x=0:=by unfold Ay;simp
def Id(a b:AG):Nat->Int
 |0=>0
 |k+1=>if lo a k-lo b k-Id a b k<0 then 1 else 0
def Pg(a b:AG)(k:Nat):Int:=lo a k-lo b k-Id a b k+10*Id a b (k+1)
theorem Tw(a b:AG)(k:Nat):0<=Id a b k/\Id a b k<=1:=by
 cases k with
 |zero=>
  show(0:Int)<=0/\(0:Int)<=1
  decide
 |succ k=>unfold Id;split<;>decide
theorem lu(a b:AG)(c:Au a)(d:Au b)(k:Nat):0<=Pg a b k/\Pg a b k<=9:=by
 have x:=GX a c k;have y:=GX b d k;have z:=Tw a b k;unfold Pg;rw[show Id a b (k+1)=if lo a k-lo b k-Id a b k<0 then 1 else 0 from rfl];split<;>omega
theorem lw(a b:AG)(k:Nat):pv (Pg a b) k=pv (lo a) k-pv (lo b) k+10^k*Id a b k:=by
 induction k with
 |zero=>simp[pv,Id]
 |succ k ih=>
  simp only[pv,Int.pow_succ];have c:∀p A B C D:Int,(A-B-C+10*D)*p=A*p-B*p-p*C+p*10*D:=λp A B C D=>by
   rw[Int.add_mul,Int.sub_mul,Int.sub_mul,Int.mul_assoc p,Int.mul_comm p,Int.mul_comm p]
  have e:=c (10^k) (lo a k) (lo b k) (Id a b k) (Id a b (k+1));have d:Pg a b k*10^k=(lo a k-lo b k-Id a b k+10*Id a b (k+1))*10^k:=rfl;omega
def NG(f:Nat->Int):Nat->AG
 |0=>[]
 |k+1=>NG f k++[f k]
theorem DM(f:Nat->Int)(k:Nat):(NG f k).length=k:=by
 induction k with
 |zero=>rfl
 |succ k ih=>simp[NG,ih]
theorem jH(f:Nat->Int)(k:Nat)(d:Int)(h:d∈NG f k):∃i,i<k/\d=f i:=by
 induction k with
 |zero=>simp[NG] at h
 |succ k ih=>
  rcases List.mem_append.1 h with h|h
  ·obtain⟨i,a,e⟩:=ih h;exact⟨i,by omega,e⟩
  ·exact⟨k,by omega,by simpa using h⟩
theorem Y5(f:Nat->Int)(k:Nat):lv (NG f k)=pv f k:=by
 induction k with
 |zero=>rfl
 |succ k ih=>
  simp only[NG,pv];rw[CT,ih,DM];simp[lv,Int.mul_comm]
theorem i1(a b:AG)(c:Au a)(f:Au b)(h:vl b<=vl a)(g:b.length<=a.length):lv (NG (Pg a b) a.length)=vl a-vl b/\Au (NG (Pg a b) a.length):=by
 have d:Au (NG (Pg a b) a.length):=λx j=>by
  obtain⟨i,_,rfl⟩:=jH _ _ _ j;exact lu a b c f i
 refine⟨?_,d⟩;have e:=lw a b a.length;rw[Nh a _ (AS _),Nh b _ g] at e;have p:=IG _ d;rw[Y5,DM] at p;have z:=Tw a b a.length;have q:=AZ a c;have r:=AZ b f;rw[Y5];rcases(show Id a b a.length=0\/Id a b a.length=1 by omega) with s|s
 ·rw[s,Int.mul_zero,Int.add_zero] at e;exact e
 ·rw[s,Int.mul_one] at e;omega
def Ak(m:Nat)(a:AG):AG:=List.replicate (m-a.length) 0++a
theorem C9(m:Nat)(a:AG):(Ak m a).length=max m a.length:=by
 unfold Ak;rw[Dc,GG];omega
theorem Ja(m:Nat)(a:AG)(h:Au a):Au (Ak m a):=λd b=>by
 rcases List.mem_append.1 b with c|c
 ·have:=(List.mem_replicate.1 c).2;omega
 ·exact h d c
theorem DN(n:Nat)(a:AG):vl (List.replicate n 0++a)=vl a:=by
 induction n with
 |zero=>rfl
 |succ n ih=>rw[List.replicate_succ,List.cons_append,Br,ih];omega
theorem VV(m:Nat)(a:AG):vl (Ak m a)=vl a:=DN _ _
theorem LT(D:AG)(h:Au D)(n k:Nat)(f:D.length=n+k):vl (D.take n)=vl D/10^k/\vl (D.drop n)=vl D%10^k:=by
 have e:vl D=vl (D.drop n)+10^k*vl (D.take n):=by
  have:=Ho (D.take n) (D.drop n);rw[List.take_append_drop] at this;rw[this,List.length_drop,show D.length-n=k by omega]
 have b:=AZ (D.drop n) (λd a=>h d (List.mem_of_mem_drop a));rw[List.length_drop,show D.length-n=k by omega] at b;have c:(0:Int)<10^k:=Int.pow_pos (by decide);rw[e];refine⟨?_,?_⟩
 ·rw[Int.add_mul_ediv_left _ _ (Int.ne_of_gt c),Int.ediv_eq_zero_of_lt b.1 b.2,Int.zero_add]
 ·rw[Int.add_mul_emod_self_left,Int.emod_eq_of_lt b.1 b.2]
def C6(l:AG):Bool:=l.any λd=> !(d==0)
theorem MR(l:AG)(h:Au l):C6 l=decide (vl l≠0):=by
 induction l with
 |nil=>rfl
 |cons d r ih=>
  have a:Au r:=λx e=>h x (GH _ e);have j:=h d (Gx);have b:=AZ r a;have f:(0:Int)<10^r.length:=Int.pow_pos (by decide);unfold C6;rw[List.any_cons];have g:(r.any λd=> !(d==0))=decide (vl r≠0):=ih a;rw[g,Br];by_cases c:d=0
  ·subst c;simp
  ·have i:(d==0)=false:=by simpa using c
   have k:0<10^r.length*d:=Int.mul_pos f (by omega);rw[i,Bz (by omega:vl r+10^r.length*d≠0)];rfl
def BU(r m:Int)(rest:Bool)(k:Nat):Int:=if k=0 then -1 else if 2*r<m then -1 else if 2*r=m/\rest=false then 0 else 1
def mI(a:Int)(neg:Bool)(b:Int)(c:Bool)(d:Bool):Bool:=
 if a=1 then decide (0<b)||(decide (b=0)&&d) else if a=3 then c&&neg else if a=4 then c&& !neg else if a=5 then decide (0<=b) else false
def jl(a:Int)(neg:Bool)(b:Int)(c:Bool)(q:Int):Bool:=mI a neg b c (decide (q%2=1))
def BJ(v:Int)(k:Nat)(rest:Bool):Bool:=rest||decide (v%10^k≠0)
def Ft(a:Int)(neg:Bool)(v:Int)(k:Nat)(rest:Bool):Bool:=jl a neg (BU (v%10^k) (10^k) rest k) (BJ v k rest) (v/10^k)
def BC(a:Int)(neg:Bool)(v:Int)(k:Nat)(rest:Bool):Int:=v/10^k+(if Ft a neg v k rest then 1 else 0)
theorem V7(g:AG)(h:Au g)(rest:Bool)(x:Int)(r:AG)(e:g=x::r):
 BU (vl g) (10^g.length) rest g.length=(if 5<x\/(x=5/\(rest||C6 r)=true) then 1 else if x<5 then -1 else 0):=by
 subst e;have c:Au r:=λy a=>h y (GH _ a);have k:=h x (Gx);have b:=AZ r c;have l:(0:Int)<10^r.length:=Int.pow_pos (by decide);have f:=MR r c;unfold BU;rw[zyn (by simp),Br,List.length_cons,Int.pow_succ];generalize (10:Int)^r.length=m at*
 generalize vl r=y at*
 have d:x=0\/x=1\/x=2\/x=3\/x=4\/x=5\/x=6\/x=7\/x=8\/x=9:=by omega
 by_cases i:x=5
 ·subst i;cases rest with
  |true=>
   rw[zyn (by omega),zyn (by simp),zyp (.inr ⟨rfl,rfl⟩)]
  |false=>
   rw[Bool.false_or,f];by_cases a:y=0
   ·subst a;rw[zyn (by omega),zyp ⟨by omega,rfl⟩,zyn (by simp),zyn (by omega)]
   ·rw[zyn (by omega),zyn (by omega),zyp (.inr ⟨rfl,Bz a⟩)]
 ·by_cases j:x<5
  ·have:2*(y+m*x)<m*10:=by
    rcases d with e|e|e|e|e|e|e|e|e|e<;>subst e<;>omega
   rw[zyp this,zyn (by omega),zyp j]
  ·have:m*10<2*(y+m*x):=by
    rcases d with e|e|e|e|e|e|e|e|e|e<;>subst e<;>omega
   rw[zyn (by omega),zyn (by omega),zyp (.inl (by omega))]
theorem JC(w:AA)(x:AK)(T:TypeId):∀j u,([x]:List AK)[j]?=some u->(w.alloc (.cells #[x] T)).cell? ((⟨w.heap.size,0,none⟩:Addr).add j)=some u:=by
 intro j u a
 match j,a with
 |0,a=>simp at a;subst a;simp[Addr.add]
theorem Gf(k:IntKind)(n:Int):∀u∈([.int k n]:List AK),u.oneCell'=true:=by
 intro u a;simp at a;subst a;rfl
theorem GU(v:AK)(D:AG)(base:Nat)(w:AA)(h:Er w base v D)(o:Au D)(y:0<D.length)(L:D.length<=1000):
 cB 196 #[v] w (.string (tx (AU D.reverse))):=by
 obtain⟨M,N,O,P,Q⟩:=info_parts Yj;rcases h.form with⟨_,rfl⟩|⟨g,ca,rfl,-,S,-,z,-⟩
 ·simp at y
 have T:=zq z;have A:=zq o;clear h z o;generalize B:D.length=n at*
 have f:=zq B;clear B;go_enter func196,ntmps196;go_wp2;go_loopw [3,4] (λb i wr=>∃j:Nat,j<=n/\i=.int .i64 ((n:Int)-1-j)/\Hid (wr.ownsRow w.heap.size 5 1 b j (((D.reverse.take j).map (48+ ·)).map (Value.int .u8)))/\AD w.heap.size w wr) (λ_ i _=>(intOf i+1).toNat);case atStart=>exact⟨0,B9 _,Ln.val_int (by simp),World.ownsRow_made w #[] 0 (AS _) (B9 _) rfl,bA⟩
 case round=>
  obtain⟨j,hj,rfl,l,m⟩:=hrel;have ag:=m.size;by_cases U:j<n
  ·have ah:(0:Int)<=(n:Int)-1-j:=by omega
   have ai:(n:Int)-1-j<(n:Int):=by omega
   have V:wr.cell? ⟨g,n-1-j,none⟩=some (.int .i64 (D.getD (n-1-j) 0)):=(m.cell (p:=⟨g,n-1-j,none⟩) S).trans (T (n-1-j) (by omega));have W:=Ah D A (n-1-j);have C:Hid ((D.reverse.take (j+1))=D.reverse.take j++[D.getD (n-1-j) 0]):=by
    rw[Hid,List.take_succ_eq_append_getElem (by rw[List.length_reverse,f.out];exact U)];congr 2;rw[List.getElem_reverse];simp only[List.getD,f.out];rw[Dq (by rw[f];omega)];rfl
   obtain⟨d,q⟩:∃d,d=D.getD (n-1-j) 0:=⟨_,rfl⟩;rw[<-q] at V W;have X:Hid ((D.reverse.take (j+1))=D.reverse.take j++[d]):=by rw[q];exact C
   clear C q;have r:=l.out;go_wp2_with (first|(at_builtin;refine wpList_append_own _ rfl _ _ 22 rfl w.heap.size 5 M (.int .u8 0) 1 1 underlying22 N O P Q rfl (by decide) _ _ _ rfl (r.alloc _) ⟨wr.heap.size,0,none⟩ 1 1 [.int .u8 (48+d)] rfl rfl ?c1 ?c2 ?c3 ?c4 ?c5 ?_)|go_in);case c1=>
    intro i u a
    match i,a with
    |0,a=>simp at a;subst a;simp[Addr.add]
   case c2=>intro u a;simp at a;subst a;rfl
   case c3=>unfold maxLen;omega
   case c4=>omega
   case c5=>simp;omega
   ·intro Y E F G _;have Z:AD w.heap.size w E:=Below.grown (m.alloc (by omega) _) G (by simp;omega) (λk hk=>(r.lt k hk).1);have H3:Hid (E.ownsRow w.heap.size 5 1 Y (j+1) (((D.reverse.take (j+1)).map (48+ ·)).map (Value.int .u8))):=by
     rw[X.out];simpa[Hid] using F
    clear F G r;go_wp2;go_roundw;case rel=>exact⟨j+1,by omega,Ln.val_int (by omega),H3,Z⟩
    case measure=>simp[intOf];omega
  ·have o:decide ((0:Int)<=(n:Int)-1-j)=false:=by simp;omega
   have e:j=n:=by omega
   subst e;have c:(D.reverse.take j).length=j:=by rw[FQ,List.length_reverse,f];omega
   have H:D.reverse.take j=D.reverse:=List.take_of_length_le (by rw[List.length_reverse,f];omega);rw[H] at l c;have I:=l.out;obtain⟨g2,ak,s,t⟩:=Gs wr _ _ D.reverse (by rw[c];exact I) (by rw[c];exact y);rw[c] at s;rw[s] at t ⊢;have ac:=t 9 underlying9;have al:((j:Int)==0)=false:=by simp;omega
   have J:=zq (DO D A);have K:=zq c;clear t s I l c H;obtain⟨R,x⟩:∃R,R=D.reverse:=⟨_,rfl⟩;rw[<-x] at ac J K;have HR:=zq x;clear x;go_wp2_with fail;refine(Bj R _ J (by rw[K];exact L)).mono ?_;rintro e w' ⟨rfl,rfl⟩;go_wp2;go_ret;exact⟨by rw[<-HR];rfl,m⟩
theorem Fg(a b:AG)(w:AA)(s:AJ a)(E:AJ b)(la:a.length<=300)(lb:b.length<=300):
 Calls prog 137 #[.string (tx a),.string (tx b)] w λe o=>∃R,e=.returned (.string (tx R))/\AJ R/\vl R=vl a+vl b/\R.length<=max a.length b.length+1/\AD w.heap.size w o:=by
 obtain⟨Q,S,T,U,V⟩:=info_parts Jq;have F:=AE a;have G:=AE b;have pa:0<(tx a).size:=by have:=s.2.1;omega
 have aw:(tx a).size<=300:=by omega
 have ax:(tx b).size<=300:=by omega
 have p:=zq F;have t:=zq G;have u:=zq s.1;have v:=zq E.1;clear s E F G;go_enter func137,ntmps137;go_wp2;go_loopw [5,6,7] (λd c i wr=>∃j:Nat,i=.int .i64 j/\(j<=(tx a).size\/j<=(tx b).size\/j<=max (tx a).size (tx b).size+1)/\∃(D:AG) (f:Int),c=.int .i64 f/\0<=f/\f<=1/\(max (tx a).size (tx b).size<j->f=0)/\D.length=j/\Hid (Au D/\lv D+10^j*f=pv (lo a) j+pv (lo b) j)/\Hid (Er wr w.heap.size d D)/\AD w.heap.size w wr) (λ_ _ i _=>1000-(intOf i).toNat);case atStart=>exact⟨0,rfl,.inl (B9 _),[],0,rfl,by decide,by decide,λ_=>rfl,rfl,⟨(λd W=>by cases W),by simp[lv,pv]⟩,Lo w,bA⟩
 case round=>
  obtain⟨j,rfl,X,D,f,rfl,Y,Z,x,y,m,z,A⟩:=hrel;have aa:=A.size;have ay:j<=301:=by omega
  have ab:j<(tx a).size\/((tx a).size<=j/\decide (j<(tx a).size)=false/\j<(tx b).size)\/(((tx a).size<=j/\decide (j<(tx a).size)=false)/\((tx b).size<=j/\decide (j<(tx b).size)=false)/\0<f)\/(((tx a).size<=j/\decide (j<(tx a).size)=false)/\((tx b).size<=j/\decide (j<(tx b).size)=false)/\f<=0/\decide (0<f)=false):=by
   by_cases q:j<(tx a).size
   ·exact .inl q
   ·by_cases B:j<(tx b).size
    ·exact .inr (.inl ⟨by omega,by simpa using q,B⟩)
    ·by_cases H:0<f
     ·exact .inr (.inr (.inl ⟨⟨by omega,by simpa using q⟩,⟨by omega,by simpa using B⟩,H⟩))
     ·exact .inr (.inr (.inr ⟨⟨by omega,by simpa using q⟩,⟨by omega,by simpa using B⟩,by omega,by simpa using H⟩))
  have ac:Hid ((j<(tx a).size\/j<(tx b).size\/0<f)->j+1<=max (tx a).size (tx b).size+1):=λh=>by
   rcases h with h|h|h
   ·omega
   ·omega
   ·rcases Nat.lt_or_ge (max (tx a).size (tx b).size) j with c|c
    ·have:=x c;omega
    ·omega
  have az:=zq x;have l:=zq y;have I:=XY a b D j f u v m.1 y Y Z m.2;have r:=zq I;have ba:=GX a u j;have bb:=GX b v j;have ad:Hid (max (tx a).size (tx b).size<j+1->lo a j=0/\lo b j=0):=λh=>⟨Lk a j (by have:=p.out;omega),Lk b j (by have:=t.out;omega)⟩;have ae:Hid (j<=max (tx a).size (tx b).size+1):=by rw[Hid];omega
  clear x X I y;rcases ab with g|⟨J,K,g⟩|⟨⟨J,K⟩,⟨af,ag⟩,g⟩|⟨⟨J,K⟩,⟨af,ag⟩,aC,aD⟩
  rotate_right
  ·have ea:a.length<=j:=by have:=p.out;omega
   have eb:b.length<=j:=by have:=t.out;omega
   have L:f=0:=by omega
   have C:=m.2;rw[L] at C;have HE:=zq (fQ a b D j C ea eb);have M:Hid (0<D.length):=by have:=p.out;have:=l.out;rw[Hid];omega
   have ak:Hid (D.length<=max a.length b.length+1):=by
    rw[Hid,l.out];have:=p.out;have:=t.out;have:=ae.out;omega
   clear L C;go_wp2_with fail;refine(GU _ D _ _ z m.1 M (by rw[l];omega)).mono ?_;rintro e w1 ⟨rfl,al⟩;go_wp2;go_ret;exact⟨_,rfl,BK _ (DO D m.1) (by rw[List.length_reverse];exact M),by rw[B8,Pq,HE],DT (Bf _) (by rw[List.length_reverse];exact ak),A.trans (al.mono aa)⟩
  all_goals
   have am:=ac (by first|exact .inl g|exact .inr (.inl g)|exact .inr (.inr g));go_wp2_with fail;refine(EG a j _ u (by omega) (by omega)).mono ?_;rintro e o ⟨rfl,rfl⟩;go_wp2_with fail;refine(EG b j _ v (by omega) (by omega)).mono ?_;rintro e o ⟨rfl,rfl⟩;have n:=z.out;unfold Er at n;rw[l] at n;go_wp2_with (first|(at_builtin;refine wpList_append_own _ rfl _ _ 80 rfl w.heap.size 2 Q (.int .i64 0) 1 8 underlying80 S T U V rfl (by decide) _ _ _ rfl (n.alloc _) ⟨o.heap.size,0,none⟩ 1 1 [.int .i64 ((lo a j+lo b j+f)%10)] rfl rfl (JC _ _ _) (Gf _ _) (by unfold maxLen;omega) (by omega) (by simp;omega) ?_)|go_in);intro v' N O P _;have ao:AD w.heap.size w N:=Below.grown (A.alloc (by omega) _) P (by simp;omega) (λk g=>(n.lt k g).1);have H3:Hid (Er N w.heap.size v' (D++[(lo a j+lo b j+f)%10])):=by
    rw[Hid,Er];rw[Dc,l];simpa using O
   have aq:Hid (max (tx a).size (tx b).size<j+1->(lo a j+lo b j+f)/10=0):=λh=>by
    have:=ad h;rw[this.1,this.2];omega
   clear O P n z;go_wp2;go_roundw;case rel=>exact⟨j+1,by go_num,.inr (.inr am),_,_,rfl,r.2.2.1,r.2.2.2,aq,by rw[Dc,l];rfl,⟨r.1,r.2.1⟩,H3,ao⟩
   case measure=>simp[intOf];omega
theorem C8(D:AG)(n:Nat)(a:n<=D.length):(tx D).extract 0 n=tx (D.take n):=by
 apply De;rw[ByteArray.data_extract,AR,AR];simp[List.map_take]
theorem Hm(D:AG)(n:Nat)(a:n<=D.length):(tx D).extract n (tx D).size=tx (D.drop n):=by
 apply De;rw[ByteArray.data_extract,AE,AR,AR];simp[List.map_drop,List.take_of_length_le]
theorem MQ(l:AG)(j:Nat)(a:j<l.length):C6 (l.take (j+1))=(C6 (l.take j)|| !(l.getD j 0==0)):=by
 unfold C6;rw[List.take_succ_eq_append_getElem a,List.any_append,List.getD,Dq a];simp
theorem XC(j:Nat)(a:AG):({data:=#[48]}:AB)++tx (List.replicate j 0++a)=tx (List.replicate (j+1) 0++a):=by
 have:({data:=#[48]}:AB)=tx [0]:=by apply De;rw[AR];rfl
 rw[this,Ax,List.replicate_succ];rfl
theorem VS(l:AG)(h:Au l)(c:0<l.length):vl l%2=l.getD (l.length-1) 0%2:=by
 have e:=Ho (l.take (l.length-1)) (l.drop (l.length-1));rw[List.take_append_drop] at e;have b:l.drop (l.length-1)=[l.getD (l.length-1) 0]:=by
  have a:l.length-1<l.length:=by omega
  rw[List.drop_eq_getElem_cons a,List.getD,Dq a,List.drop_of_length_le (by omega)];rfl
 rw[b] at e;rw[e];have:vl [l.getD (l.length-1) 0]=l.getD (l.length-1) 0:=by simp[vl,lv]
 rw[this];simp;omega
theorem Sv(r m:Int)(rest:Bool)(k:Nat):BU r m rest k=-1\/BU r m rest k=0\/BU r m rest k=1:=by
 unfold BU;split
 ·exact .inl rfl
 ·split
  ·exact .inl rfl
  ·split
   ·exact .inr (.inl rfl)
   ·exact .inr (.inr rfl)
theorem SC:tx [1]={data:=#[49]}:=by apply De;rw[AR];rfl
theorem Fh(q:Int)(neg:Bool)(c:List Int)(k:Nat)(rest:Bool)(w:World)(M:AJ c)(hl:c.length<=300)(hk:k<=200):
 cB 190 #[.int .i64 q,.bool neg,.string (tx c),.int .i64 k,.bool rest] w (.tuple #[.string (tx (nt (BC q neg (vl c) k rest))),.bool (BJ (vl c) k rest)]):=by
 have HC:=zq M;have Hp:0<c.length:=M.2.1;clear M;go_enter func190,ntmps190;go_wp2;go_loop [2] (λs=>∃j:Nat,j+c.length<=max (k+1) c.length/\s=.string (tx (List.replicate j 0++c))) (λs=>600-Gr s);case atStart=>exact⟨0,by omega,rfl⟩
 case round=>
  obtain⟨j,N,rfl⟩:=hrel;have J:(tx (List.replicate j 0++c)).size=j+c.length:=by rw[AE];simp
  by_cases E:j+c.length<=k
  ·have h1:((tx (List.replicate j 0++c)).size:Int)<=(k:Int):=by omega
   have h2:((tx (List.replicate j 0++c)).size:Int)<=8388608:=by omega
   have be:=XC j c;have hm:Hid (600-Gr (.string (tx (List.replicate (j+1) 0++c)))<600-Gr (.string (tx (List.replicate j 0++c)))):=by
    have a:Gr (.string (tx (List.replicate (j+1) 0++c)))=j+1+c.length:=by show(tx _).size=_;rw[AE];simp
    have b:Gr (.string (tx (List.replicate j 0++c)))=j+c.length:=J;rw[Hid,a,b];omega
   clear J;go_wp2;go_round;case rel=>exact⟨j+1,by omega,rfl⟩
   case measure=>exact hm
  ·have ej:j=(k+1)-c.length:=by omega
   have HP:Hid (List.replicate j 0++c=Ak (k+1) c):=by rw[ej];rfl
   rw[HP] at J ⊢;have O:Hid (Au (Ak (k+1) c)/\vl (Ak (k+1) c)=vl c):=⟨Ja _ _ HC.out.1,VV _ _⟩;clear HP ej HC;generalize Ak (k+1) c=D at*
   obtain⟨n,hn⟩:∃n,D.length=n+k:=⟨D.length-k,by have:=AE D;omega⟩;have aT:(tx D).size=n+k:=by rw[AE];exact hn
   have bf:1<=n:=by omega
   have bg:n<=300:=by omega
   have h1:¬((tx D).size:Int)<=(k:Int):=by omega
   have t1:=C8 D n (by omega);have t2:=Hm D n (by omega);rw[aT] at t2;have Y:=LT D O.1 n k hn;rw[O.out.2] at Y;have az:(D.take n).length=n:=by rw[List.length_take];omega
   have aA:(D.drop n).length=k:=by rw[List.length_drop];omega
   have dK:Au (D.take n):=λd hd=>O.1 d (List.mem_of_mem_take hd);have dG:Au (D.drop n):=λd hd=>O.1 d (List.mem_of_mem_drop hd);have w1:IntKind.i64.wrap (((tx D).size:Int)-(k:Int))=(n:Int):=Dn (by omega);have K:=zw (k:Int) (by omega);have b1:(n:Int)<=((tx D).size:Int):=by omega
   generalize aV:D.take n=A at*
   generalize aW:D.drop n=f at*
   have m:Hid (vl A=vl c/10^k/\vl f=vl c%10^k/\A.length=n/\f.length=k/\Au A/\Au f):=⟨Y.1,Y.2,az,aA,dK,dG⟩;clear N E J Y az aA dK dG aV aW O hn Hp hl;have hG:=AE f;rw[m.out.2.2.2.1] at hG;go_wp2;go_loop [16,17] (λb i=>∃j:Nat,j<=k/\i=.int .i64 j/\b=.bool (rest||C6 (f.take j))) (λ_ i=>k-(intOf i).toNat);case atStart=>exact⟨0,Nat.zero_le _,rfl,by simp[C6]⟩
   case round=>
    obtain⟨j,N,rfl,rfl⟩:=hrel;by_cases E:j<k
    ·have aD:(j:Int)<(k:Int):=by omega
     have P:j<(tx f).size:=by omega
     have B:=C7 f m.2.2.2.2.2 j P;have db:=Ah f m.2.2.2.2.2 j;have st:C6 (f.take (j+1))=(C6 (f.take j)|| !(f.getD j 0==0)):=MQ f j (by rw[m.out.2.2.2.1];exact E);have F:=zq st;have hx:((((tx f)[j]'P).toNat:Int)!=48)= !(f.getD j 0==0):=by
      rw[B];by_cases h:f.getD j 0=0
      ·rw[h];rfl
      ·rw[beq_eq_false_iff_ne.2 h];have:(48+f.getD j 0==(48:Int))=false:=beq_eq_false_iff_ne.2 (by omega);show(!(48+f.getD j 0==48))=_
       rw[this]
     clear st B db;generalize C6 (f.take j)=L0 at*
     generalize (f.getD j 0==0)=Z at*
     cases rest<;>cases L0
     all_goals
      go_wp2;go_round;case rel=>exact⟨j+1,by omega,by go_num,by rw[F];cases Z<;>rfl⟩
      case measure=>simp[intOf];omega
    ·obtain rfl:j=k:=by omega
     have hT:f.take j=f:=List.take_of_length_le (by rw[m.out.2.2.2.1];exact Nat.le_refl _);rw[hT];have u:Hid ((rest||C6 f)=BJ (vl c) j rest):=by
      show _=_
      unfold BJ;rw[MR f m.out.2.2.2.2.2,m.out.2.1]
     obtain⟨Q,aF⟩:=zxe (rest||C6 f);rw[aF] at u ⊢;clear hT aF;have T:Hid (f=[]->BU (vl c%10^j) (10^j) rest j=-1):=λh=>by
      have:j=0:=by rw[<-m.out.2.2.2.1,h];rfl
      unfold BU;rw[if_pos this]
     have V:Hid (∀x r,f=x::r->BU (vl c%10^j) (10^j) rest j=(if 5<x\/(x=5/\(rest||C6 r)=true) then 1 else if x<5 then -1 else 0)):=λx r h=>by
      have:=V7 f m.2.2.2.2.2 rest x r h;rw[m.out.2.2.2.1,m.out.2.1] at this;exact this
     obtain⟨HF,ak⟩:=zxe (BU (vl c%10^j) (10^j) rest j);have al:=zq ak;rw[ak] at T V;clear ak;go_upto_if 54 with fail;go_cut [15] (λh wx=>h=.int .i64 HF/\wx=w);case first=>
      by_cases am:j=0
      ·have C:f=[]:=List.length_eq_zero_iff.1 (by rw[m.out.2.2.2.1];exact am);obtain rfl:=T C;have J:¬(0:Int)<(j:Int):=by omega
       clear C T V E N am;go_wp2;go_meet;case rel=>exact⟨rfl,rfl⟩
      ·obtain⟨x,r,C⟩:∃x r,f=x::r:=by
        cases hq:f with
        |nil=>have:=m.2.2.2.1;rw[hq] at this;exact absurd this.symm am
        |cons x r=>exact⟨x,r,rfl⟩
       have G:=V x r C;have J:(0:Int)<(j:Int):=by omega
       have aG:0<(tx f).size:=by omega
       have H:=C7 f m.2.2.2.2.2 0 aG;have bk:0<=x/\x<=9:=m.2.2.2.2.2 x (by rw[C];exact List.mem_cons_self);have aH:f.getD 0 0=x:=by rw[C];rfl
       rw[aH] at H;have bm:r.length+1=j:=by rw[<-m.out.2.2.2.1,C];rfl
       have aI:Hid (∀t,f.getD (t+1) 0=r.getD t 0):=λt=>by rw[C];rfl
       have aJ:=zq m.2.2.2.2.2;obtain⟨I,hBY⟩:=zxe (((tx f)[0]'aG).toNat:Int);rw[hBY] at H;have aK:=zq H;clear C aH T V E N H;go_wp2;go_loop [19,20] (λb i=>∃t:Nat,t<=r.length/\i=.int .i64 ((t+1:Nat):Int)/\b=.bool (rest||C6 (r.take t))) (λ_ i=>j-(intOf i).toNat);case atStart=>exact⟨0,Nat.zero_le _,rfl,by simp[C6]⟩
       case round=>
        obtain⟨t,ht,rfl,rfl⟩:=hrel;by_cases E:t<r.length
        ·have aD:((t+1:Nat):Int)<(j:Int):=by omega
         have P:t+1<(tx f).size:=by omega
         have B:=C7 f aJ (t+1) P;rw[aI.out t] at B;have F:=zq (MQ r t E);have db:=Ah f aJ (t+1);rw[aI.out t] at db;have hx:((((tx f)[t+1]'P).toNat:Int)!=48)= !(r.getD t 0==0):=by
          rw[B];by_cases h:r.getD t 0=0
          ·rw[h];rfl
          ·rw[beq_eq_false_iff_ne.2 h];have:(48+r.getD t 0==(48:Int))=false:=beq_eq_false_iff_ne.2 (by omega);show(!(48+r.getD t 0==48))=_
           rw[this]
         clear B db;generalize C6 (r.take t)=L0 at*
         generalize (r.getD t 0==0)=Z at*
         cases rest<;>cases L0
         all_goals
          go_wp2;go_round;case rel=>exact⟨t+1,by omega,by go_num,by rw[F];cases Z<;>rfl⟩
          case measure=>simp[intOf];omega
        ·obtain rfl:t=r.length:=by omega
         have aD:¬((r.length+1:Nat):Int)<(j:Int):=by omega
         have hT:r.take r.length=r:=List.take_length;rw[hT];generalize (rest||C6 r)=MO at*
         have H:=aK.out;by_cases h5:x=5
         ·subst h5;have e1:¬(53:Int)<I:=by omega
          have e2:(I==53)=true:=by simp;omega
          have e3:¬I<53:=by omega
          clear H aK;cases MO
          ·rw[if_neg (by simp),if_neg (by omega)] at G;subst G;go_wp2;go_meet;case rel=>exact⟨rfl,rfl⟩
          ·rw[if_pos (.inr ⟨rfl,rfl⟩)] at G;subst G;go_wp2;go_meet;case rel=>exact⟨rfl,rfl⟩
         ·by_cases h6:5<x
          ·have e1:(53:Int)<I:=by omega
           rw[if_pos (.inl h6)] at G;subst G;clear H h5;go_wp2;go_meet;case rel=>exact⟨rfl,rfl⟩
          ·have e1:¬(53:Int)<I:=by omega
           have e2:(I==53)=false:=beq_eq_false_iff_ne.2 (by omega);have e3:I<53:=by omega
           rw[if_neg (by omega),if_pos (by omega)] at G;subst G;clear H h5 h6;go_wp2;go_meet;case rel=>exact⟨rfl,rfl⟩
     case rest=>
      obtain⟨rfl,hw⟩:=hcut;obtain rfl:=hw;have L:AJ (AU A):=BK A m.2.2.2.2.1 (by rw[m.out.2.2.1];omega);have ao:vl (AU A)=vl c/10^j:=by rw[B8,m.out.1]
      have bp:(AU A).length<=300:=by have:=Bf A;rw[m.out.2.2.1] at this;omega
      have ap:=Sv (vl c%10^j) (10^j) rest j;rw[al] at ap;have HU:Hid (Ft q neg (vl c) j rest=jl q neg HF Q (vl c/10^j)):=by
       show _=_
       unfold Ft;rw[al,<-u]
      clear T V al E N;go_wp2_with fail;refine(Bj A _ m.2.2.2.2.1 (by rw[m.out.2.2.1];omega)).mono ?_;rintro e w' ⟨rfl,rfl⟩;generalize AU A=S at*
      have F:=Ab L ao;have bq:=AE S;have a7:0<S.length:=L.2.1;have aN:S.length-1<(tx S).size:=by omega
      have B:=C7 S L.1 (S.length-1) aN;have zd:=Ah S L.1 (S.length-1);have zm:=VS S L.1 a7;rw[ao] at zm;have br:((S.getD (S.length-1) 0%2:Int)==1)=decide ((vl c/10^j)%2=1):=by
       rw[<-zm];rfl
      obtain⟨U,g⟩:=zxe (jl q neg HF Q (vl c/10^j));rw[g] at HU;have l:mI q neg HF Q (decide ((vl c/10^j)%2=1))=U:=g;have o:Hid (U=false->S=nt (BC q neg (vl c) j rest)):=λh=>by
       have hr:BC q neg (vl c) j rest=vl c/10^j:=by unfold BC;rw[HU,h];simp
       rw[hr];exact BW S _ F.1 F.2 (by omega)
      have p:Hid (U=true->cA 137 #[.string (tx S),.string {data:=#[49]}] (.string (tx (nt (BC q neg (vl c) j rest))))):=λh X=>by
       have hr:BC q neg (vl c) j rest=vl c/10^j+1:=by unfold BC;rw[HU,h];simp
       rw[hr,<-SC];refine(Fg S [1] X F.1 (BL 1 (by decide) (by decide)) (by omega) (by decide)).mono ?_;rintro e w' ⟨R,he,M,hv,hl,hb⟩;rw[BW R _ M (by rw[hv,F.out.2];first|done|rfl) (by have:([1]:List Int).length=1:=rfl;omega)] at he;exact⟨he,hb⟩
      generalize S.getD (S.length-1) 0=W at*
      have a0:IntKind.u8.wrap ((((tx S)[S.length-1]'aN).toNat:Int)-48)=W:=by rw[IntKind.wrap_u8,B];omega
      have a1:Int.tmod W 2=W%2:=Int.tmod_eq_emod_of_nonneg zd.1;have a2:IntKind.u8.wrap (W%2)=W%2:=by rw[IntKind.wrap_u8];omega
      have a3:=zw ((S.length:Int)-1) (by omega);have a4:(0:Int)<=(S.length:Int)-1:=by omega
      have a5:(S.length:Int)-1<(S.length:Int):=by omega
      have a6:((S.length:Int)-1).toNat=S.length-1:=by omega
      clear B zd zm L ao g;generalize (decide ((vl c/10^j)%2=1))=OD at*
      by_cases m1:q=1
      ·subst m1;rcases ap with rfl|rfl|rfl
       ·have g:U=false:=by rw[<-l];rfl
        subst g;have v:=zq (o rfl);clear l p o;go_wp2;go_ret2;exact⟨by rw[<-v,<-u];rfl,Below.refl _ _⟩
       ·cases OD
        ·have g:U=false:=by rw[<-l];rfl
         subst g;have v:=zq (o rfl);clear l p o;go_wp2;go_ret2;exact⟨by rw[<-v,<-u];rfl,Below.refl _ _⟩
        ·have g:U=true:=by rw[<-l];rfl
         subst g;have y:=zq (p rfl);clear l p o;go_wp2_with fail;refine cm (y _) λK z=>?_;go_wp2;go_ret2;exact⟨by rw[<-u];rfl,z⟩
       ·have g:U=true:=by rw[<-l];rfl
        subst g;have y:=zq (p rfl);clear l p o;go_wp2_with fail;refine cm (y _) λK z=>?_;go_wp2;go_ret2;exact⟨by rw[<-u];rfl,z⟩
      ·by_cases m3:q=3
       ·subst m3;cases Q
        ·have g:U=false:=by rw[<-l];rfl
         subst g;have v:=zq (o rfl);clear l p o;go_wp2;go_ret2;exact⟨by rw[<-v,<-u];rfl,Below.refl _ _⟩
        ·cases neg
         ·have g:U=false:=by rw[<-l];rfl
          subst g;have v:=zq (o rfl);clear l p o;go_wp2;go_ret2;exact⟨by rw[<-v,<-u];rfl,Below.refl _ _⟩
         ·have g:U=true:=by rw[<-l];rfl
          subst g;have y:=zq (p rfl);clear l p o;go_wp2_with fail;refine cm (y _) λK z=>?_;go_wp2;go_ret2;exact⟨by rw[<-u];rfl,z⟩
       ·by_cases m4:q=4
        ·subst m4;cases Q
         ·have g:U=false:=by rw[<-l];rfl
          subst g;have v:=zq (o rfl);clear l p o;go_wp2;go_ret2;exact⟨by rw[<-v,<-u];rfl,Below.refl _ _⟩
         ·cases neg
          ·have g:U=true:=by rw[<-l];rfl
           subst g;have y:=zq (p rfl);clear l p o;go_wp2_with fail;refine cm (y _) λK z=>?_;go_wp2;go_ret2;exact⟨by rw[<-u];rfl,z⟩
          ·have g:U=false:=by rw[<-l];rfl
           subst g;have v:=zq (o rfl);clear l p o;go_wp2;go_ret2;exact⟨by rw[<-v,<-u];rfl,Below.refl _ _⟩
        ·by_cases m5:q=5
         ·subst m5;rcases ap with rfl|rfl|rfl
          ·have g:U=false:=by rw[<-l];rfl
           subst g;have v:=zq (o rfl);clear l p o;go_wp2;go_ret2;exact⟨by rw[<-v,<-u];rfl,Below.refl _ _⟩
          ·have g:U=true:=by rw[<-l];rfl
           subst g;have y:=zq (p rfl);clear l p o;go_wp2_with fail;refine cm (y _) λK z=>?_;go_wp2;go_ret2;exact⟨by rw[<-u];rfl,z⟩
          ·have g:U=true:=by rw[<-l];rfl
           subst g;have y:=zq (p rfl);clear l p o;go_wp2_with fail;refine cm (y _) λK z=>?_;go_wp2;go_ret2;exact⟨by rw[<-u];rfl,z⟩
         ·have c1:(q==1)=false:=by simpa using m1
          have c3:(q==3)=false:=by simpa using m3
          have c4:(q==4)=false:=by simpa using m4
          have c5:(q==5)=false:=by simpa using m5
          have g:U=false:=by rw[<-l];unfold mI;rw[if_neg m1,if_neg m3,if_neg m4,if_neg m5]
          subst g;have v:=zq (o rfl);clear l p o m1 m3 m4 m5;go_wp2;go_ret2;exact⟨by rw[<-v,<-u];rfl,Below.refl _ _⟩
end Go.Proofs.YteofommckgeemaaGreatDoor
