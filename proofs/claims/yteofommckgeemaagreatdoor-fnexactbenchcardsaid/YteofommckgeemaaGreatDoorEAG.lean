/- Steps. -/
import Derived.Test.YteofommckgeemaaGreatDoorSh0
import Derived.Test.YteofommckgeemaaGreatDoorEAA
namespace Go.Proofs.YteofommckgeemaaGreatDoor
open Go.RowKit Go.Proofs.Tryz
set_option linter.unusedVariables false
set_option linter.unusedSimpArgs false
set_option maxRecDepth 100000
set_option maxHeartbeats 8000000
theorem Ao(W:AA)(o:Obj):(W.alloc o).heap[W.heap.size]?=some o:=(MapKept.heap_alloc W o).1
theorem Cj{W:AA}{k:Nat}{o:Obj}(h:W.heap[k]?=some o)(a:Obj):(W.alloc a).heap[k]?=some o:=by
 have b:k<W.heap.size:=(Array.getElem?_eq_some_iff.1 h).1;have:AD W.heap.size W (W.alloc a):=bA;rw[this.block k b];exact h
theorem AO{W:AA}{k:Nat}{cs:Array AK}{T:TypeId}{fr:Nat×Nat}(h:W.heap[k]?=some (.cells cs T fr))(i:Nat):W.cell? ⟨k,i,none⟩=cs[i]?:=by
 unfold World.cell?;simp only[h];rfl
def Kt(W a:AA):Prop:=∀(k:Nat) (o:Obj),W.heap[k]?=some o->(∀cs fr,o≠.cells cs 5 fr)->(∀cs fr,o≠.cells cs 37 fr)->(∀cs fr,o≠.cells cs 32 fr)->a.heap[k]?=some o
theorem Kt.refl(W:AA):Kt W W:=λk o h _ _ _=>h
theorem Kt.trans{W e f:AA}(h:Kt W e)(g:Kt e f):Kt W f:=λk o a b c d=>g k o (h k o a b c d) b c d
theorem Kt.of{W g:AA}{f:Nat}{cs:Array AK}{fr:Nat×Nat}(h:W.grownBy g (some f))(i:W.heap[f]?=some (.cells cs 32 fr)):Kt W g:=λk o a b c d=>by
 have j:k<W.heap.size:=(Array.getElem?_eq_some_iff.1 a).1;by_cases e:k=f
 ·subst e;rw[i] at a;exact absurd (Gy a).symm (d _ _)
 ·rw[h.block k j (λq=>e (Gy q))];exact a
theorem Kt.bel{W e:AA}(f:AD W.heap.size W e):Kt W e:=λk o a b c d=>by
 have g:k<W.heap.size:=(Array.getElem?_eq_some_iff.1 a).1;rw[f.block k g];exact a
def Kc(W a:AA):Prop:=∀(k:Nat) (cs:Array AK) (T:TypeId) (fr:Nat×Nat),W.heap[k]?=some (.cells cs T fr)->T≠5->T≠37->T≠32->a.heap[k]?=some (.cells cs T fr)
theorem Kt.kc{W f:AA}(h:Kt W f):Kc W f:=λk cs T fr a b c d=>h k _ a (λcs' g e=>b (by simp at e;exact e.2.1)) (λcs' g e=>c (by simp at e;exact e.2.1)) (λcs' g e=>d (by simp at e;exact e.2.1))
theorem Kc.refl(W:AA):Kc W W:=λ_ _ _ _ h _ _ _=>h
theorem Kc.trans{W e f:AA}(h:Kc W e)(g:Kc e f):Kc W f:=λk cs T fr a b c d=>g k cs T fr (h k cs T fr a b c d) b c d
theorem Kc.bel{W a:AA}(b:AD W.heap.size W a):Kc W a:=(Kt.bel b).kc
def DW(W:AA)(a:Nat)(b c:AK):Prop:=∃p q,c=.func (.func 101) #[] #[.pointer (some ⟨p,0,none⟩),.pointer (some ⟨q,0,none⟩)]/\W.heap[p]?=some (.cells #[.pointer (some ⟨a,0,none⟩)] 55)/\W.heap[q]?=some (.cells #[b] 66)
def fO(W:AA)(a G:Nat)(T:TypeId)(F:Nat)(b:AK):Prop:=∃p q,b=.func (.func G) #[] #[.pointer (some ⟨p,0,none⟩),.pointer (some ⟨q,0,none⟩)]/\W.heap[p]?=some (.cells #[.pointer (some ⟨a,0,none⟩)] 55)/\W.heap[q]?=some (.cells #[.func (.func F) #[] #[]] T)
theorem DW.next{W a:AA}{b:Nat}{c d:AK}(h:DW W b c d)(e:Kc W a):DW a b c d:=by
 obtain⟨p,q,f,g,i⟩:=h;exact⟨p,q,f,e p _ _ _ g (by decide) (by decide) (by decide),e q _ _ _ i (by decide) (by decide) (by decide)⟩
theorem fO.next{W b:AA}{c G:Nat}{T:TypeId}{F:Nat}{d:AK}(h:fO W c G T F d)(e:Kc W b)(a:T≠5/\T≠37/\T≠32):fO b c G T F d:=by
 obtain⟨p,q,f,g,i⟩:=h;exact⟨p,q,f,e p _ _ _ g (by decide) (by decide) (by decide),e q _ _ _ i a.1 a.2.1 a.2.2⟩
theorem Eg{a:Func}{p:Tmp}{b:Nat}{x y:AK}(h:a.results=#[.cell p 58])(c:Array AK)(w:AA)(d:c[p]?.getD undef=.pointer (some ⟨b,0,none⟩))(e:w.cell? ⟨b,0,none⟩=some x)(f:w.cell? ⟨b,1,none⟩=some y):(results a c).run prog w=.ok (.agg #[x,y]) w:=by
 simp[results,h,d,go_sem,e,f]
theorem Ik{B:Nat}{w W:AA}(h:AD B w W){b:Nat}(c:B<=b)(cs:Array AK):AD B w (W.setRow b cs):=
 ⟨h.os,h.tape,h.output,by rw[show(W.setRow b cs).heap.size=W.heap.size by simp[World.setRow]];exact h.size,λk a=>(setRow_other W b k cs (by omega)).trans (h.block k a)⟩
theorem MH(n:Int)(v:AK)(h:v.oneCell'=true):(#[.int .i64 n,v]:Array AK).all (·.oneCell')=true:=by
 simp only[List.all_toArray,List.all_cons,List.all_nil,h];rfl
theorem NJ(n:Int)(f:Fn)(a c:Array AK)(w:AA):(Instr.build 58 #[(0,.int .i64 n),(1,.func f a c)]).run prog w=.ok (.agg #[.int .i64 n,.func f a c]) w:=run_build w _ _ _ (by kernel_rfl)
theorem EQ(a:Nat)(n:Int)(G:Fn)(xs b:Array AK)(w:AA):
 Calls prog 38 #[.pointer (some ⟨a,0,none⟩),.int .i64 n,.func G xs b] w λe g=>∃h,e=.returned (.agg #[.int .i64 n,h])/\DW g a (.func G xs b) h/\AD w.heap.size w g:=by
 have t:∀(i:Fn) (first j:Array AK) (w:AA),(Instr.makeFunc i first j).run prog w=.ok (.func i first j) w:=λ_ _ _ _=>rfl;have u:=NJ;have c:=Ao ((w.alloc (.cells #[.pointer (some ⟨a,0,none⟩)] 55)).alloc (.cells #[.func G xs b] 66)) (.cells #[.int .i64 0,.nilFunc] 58);have d:=Cj (Ao (w.alloc (.cells #[.pointer (some ⟨a,0,none⟩)] 55)) (.cells #[.func G xs b] 66)) (.cells #[.int .i64 0,.nilFunc] 58);have k:=Cj (Cj (Ao w (.cells #[.pointer (some ⟨a,0,none⟩)] 55)) (.cells #[.func G xs b] 66)) (.cells #[.int .i64 0,.nilFunc] 58);have l:AD w.heap.size w (((w.alloc (.cells #[.pointer (some ⟨a,0,none⟩)] 55)).alloc (.cells #[.func G xs b] 66)).alloc (.cells #[.int .i64 0,.nilFunc] 58)):=(bA.alloc (by simp) _).alloc (by simp;omega) _;have m:(w.alloc (.cells #[.pointer (some ⟨a,0,none⟩)] 55)).heap.size=w.heap.size+1:=by simp
 have o:((w.alloc (.cells #[.pointer (some ⟨a,0,none⟩)] 55)).alloc (.cells #[.func G xs b] 66)).heap.size=w.heap.size+1+1:=by simp
 rw[o] at c;rw[m] at d;have f:=eh c d k l;clear c d k l m o;go_enter func38,ntmps38;go_upto_region 1 with fail;generalize (((w.alloc (.cells #[.pointer (some ⟨a,0,none⟩)] 55)).alloc (.cells #[.func G xs b] 66)).alloc (.cells #[.int .i64 0,.nilFunc] 58))=W at*
 go_wp2_with (refine wpList_store_row rfl 58 (.tmp 6) (.tmp 9) rfl (w.heap.size+1+1) #[.int .i64 n,.func (.func 101) #[] #[.pointer (some ⟨w.heap.size,0,none⟩),.pointer (some ⟨w.heap.size+1,0,none⟩)]] rfl rfl _ _ f.1 (by kernel_rfl) rfl (by simp[Value.oneCell']) ?_);have p:=setRow_heap W (w.heap.size+1+1) _ #[.int .i64 n,.func (.func 101) #[] #[.pointer (some ⟨w.heap.size,0,none⟩),.pointer (some ⟨w.heap.size+1,0,none⟩)]] _ _ f.1
 (try simp only[Exit.inBlock,Exit.then])
 refine Do (Eg rfl _ _ rfl (AO p 0) (AO p 1)) rfl ?_;obtain⟨v,q,r,s⟩:=f.out;refine⟨_,rfl,⟨w.heap.size,w.heap.size+1,rfl,(setRow_other W _ _ _ (by omega)).trans r,(setRow_other W _ _ _ (by omega)).trans q⟩,Ik s (by omega) _⟩
theorem Nb(a F:Nat)(w:AA):
 Calls prog 34 #[.pointer (some ⟨a,0,none⟩),.func (.func F) #[] #[]] w λe m=>∃b v,e=.returned (.agg #[.int .i64 1,b])/\DW m a v b/\fO m a 91 64 F v/\AD w.heap.size w m:=by
 have P:∀(x:Fn) (first y:Array AK) (w:AA),(Instr.makeFunc x first y).run prog w=.ok (.func x first y) w:=λ_ _ _ _=>rfl;have n:=Ao ((w.alloc (.cells #[.pointer (some ⟨a,0,none⟩)] 55)).alloc (.cells #[.func (.func F) #[] #[]] 64)) (.cells #[.int .i64 0,.nilFunc] 58);have o:=Cj (Ao (w.alloc (.cells #[.pointer (some ⟨a,0,none⟩)] 55)) (.cells #[.func (.func F) #[] #[]] 64)) (.cells #[.int .i64 0,.nilFunc] 58);have z:=Cj (Cj (Ao w (.cells #[.pointer (some ⟨a,0,none⟩)] 55)) (.cells #[.func (.func F) #[] #[]] 64)) (.cells #[.int .i64 0,.nilFunc] 58);have A:AD w.heap.size w (((w.alloc (.cells #[.pointer (some ⟨a,0,none⟩)] 55)).alloc (.cells #[.func (.func F) #[] #[]] 64)).alloc (.cells #[.int .i64 0,.nilFunc] 58)):=(bA.alloc (by simp) _).alloc (by simp;omega) _;have B:(w.alloc (.cells #[.pointer (some ⟨a,0,none⟩)] 55)).heap.size=w.heap.size+1:=by simp
 have C:((w.alloc (.cells #[.pointer (some ⟨a,0,none⟩)] 55)).alloc (.cells #[.func (.func F) #[] #[]] 64)).heap.size=w.heap.size+1+1:=by simp
 have D:(((w.alloc (.cells #[.pointer (some ⟨a,0,none⟩)] 55)).alloc (.cells #[.func (.func F) #[] #[]] 64)).alloc (.cells #[.int .i64 0,.nilFunc] 58)).heap.size=w.heap.size+1+1+1:=by simp
 rw[C] at n;rw[B] at o;have r:Hid ((((w.alloc (.cells #[.pointer (some ⟨a,0,none⟩)] 55)).alloc (.cells #[.func (.func F) #[] #[]] 64)).alloc (.cells #[.int .i64 0,.nilFunc] 58)).heap[w.heap.size+1+1]?=some (.cells #[.int .i64 0,.nilFunc] 58)/\_/\_/\_/\_):=⟨n,o,z,A,D⟩;clear n o z A B C D;go_enter func34,ntmps34;go_upto_region 1 with fail;generalize (((w.alloc (.cells #[.pointer (some ⟨a,0,none⟩)] 55)).alloc (.cells #[.func (.func F) #[] #[]] 64)).alloc (.cells #[.int .i64 0,.nilFunc] 58))=W at*
 have E:=AO r.2.2.1 0;simp only[List.getElem?_toArray,List.getElem?_cons_zero] at E;go_wp2_with fail;refine(EQ a 1 _ _ _ _).mono ?_;rintro e c ⟨b,rfl,G,d⟩;obtain⟨f,h,i,g,s⟩:=r.out;have H:=(d.block _ (by omega)).trans f;have I:=(d.block _ (by omega)).trans h;have J:=(d.block _ (by omega)).trans i;have j:Hid (c.heap[w.heap.size+1+1]?=some (.cells #[.int .i64 0,.nilFunc] 58)/\c.heap[w.heap.size+1]?=some (.cells #[.func (.func F) #[] #[]] 64)/\c.heap[w.heap.size]?=some (.cells #[.pointer (some ⟨a,0,none⟩)] 55)/\AD w.heap.size w c/\DW c a (.func (.func 91) #[] #[.pointer (some ⟨w.heap.size,0,none⟩),.pointer (some ⟨w.heap.size+1,0,none⟩)]) b):=⟨H,I,J,g.trans (d.mono g.size),G⟩;clear H I J f h i g s G d r E;have L:b.oneCell'=true:=by
  obtain⟨p,q,rfl,-,-⟩:=j.2.2.2.2;simp[Value.oneCell']
 go_wp2_with (refine wpList_store_row rfl 58 (.tmp 4) (.tmp 7) rfl (w.heap.size+1+1) #[.int .i64 1,b] rfl rfl _ _ j.1 (by kernel_rfl) rfl (MH _ _ L) ?_);have K:=setRow_heap c (w.heap.size+1+1) _ #[.int .i64 1,b] _ _ j.1
 (try simp only[Exit.inBlock,Exit.then])
 refine Do (Eg rfl _ _ rfl (AO K 0) (AO K 1)) rfl ?_;obtain⟨f,h,i,g,s⟩:=j.out;have l:∀k,k≠w.heap.size+1+1->(c.setRow (w.heap.size+1+1) #[.int .i64 1,b]).heap[k]?=c.heap[k]?:=λk M=>setRow_other c _ _ _ M;refine⟨b,_,rfl,?_,⟨w.heap.size,w.heap.size+1,rfl,(l _ (by omega)).trans i,(l _ (by omega)).trans h⟩,Ik g (by omega) _⟩;obtain⟨p,q,N,t,u⟩:=s;have O:p≠w.heap.size+1+1:=λe=>by rw[e,f] at t;simp at t
 have nq:q≠w.heap.size+1+1:=λe=>by rw[e,f] at u;simp at u
 exact⟨p,q,N,(l _ O).trans t,(l _ nq).trans u⟩
theorem FA(a F:Nat)(w:AA):
 Calls prog 27 #[.pointer (some ⟨a,0,none⟩),.func (.func F) #[] #[]] w λe m=>∃b v,e=.returned (.agg #[.int .i64 2,b])/\DW m a v b/\fO m a 71 60 F v/\AD w.heap.size w m:=by
 have P:∀(x:Fn) (first y:Array AK) (w:AA),(Instr.makeFunc x first y).run prog w=.ok (.func x first y) w:=λ_ _ _ _=>rfl;have n:=Ao ((w.alloc (.cells #[.pointer (some ⟨a,0,none⟩)] 55)).alloc (.cells #[.func (.func F) #[] #[]] 60)) (.cells #[.int .i64 0,.nilFunc] 58);have o:=Cj (Ao (w.alloc (.cells #[.pointer (some ⟨a,0,none⟩)] 55)) (.cells #[.func (.func F) #[] #[]] 60)) (.cells #[.int .i64 0,.nilFunc] 58);have z:=Cj (Cj (Ao w (.cells #[.pointer (some ⟨a,0,none⟩)] 55)) (.cells #[.func (.func F) #[] #[]] 60)) (.cells #[.int .i64 0,.nilFunc] 58);have A:AD w.heap.size w (((w.alloc (.cells #[.pointer (some ⟨a,0,none⟩)] 55)).alloc (.cells #[.func (.func F) #[] #[]] 60)).alloc (.cells #[.int .i64 0,.nilFunc] 58)):=(bA.alloc (by simp) _).alloc (by simp;omega) _;have B:(w.alloc (.cells #[.pointer (some ⟨a,0,none⟩)] 55)).heap.size=w.heap.size+1:=by simp
 have C:((w.alloc (.cells #[.pointer (some ⟨a,0,none⟩)] 55)).alloc (.cells #[.func (.func F) #[] #[]] 60)).heap.size=w.heap.size+1+1:=by simp
 have D:(((w.alloc (.cells #[.pointer (some ⟨a,0,none⟩)] 55)).alloc (.cells #[.func (.func F) #[] #[]] 60)).alloc (.cells #[.int .i64 0,.nilFunc] 58)).heap.size=w.heap.size+1+1+1:=by simp
 rw[C] at n;rw[B] at o;have r:Hid ((((w.alloc (.cells #[.pointer (some ⟨a,0,none⟩)] 55)).alloc (.cells #[.func (.func F) #[] #[]] 60)).alloc (.cells #[.int .i64 0,.nilFunc] 58)).heap[w.heap.size+1+1]?=some (.cells #[.int .i64 0,.nilFunc] 58)/\_/\_/\_/\_):=⟨n,o,z,A,D⟩;clear n o z A B C D;go_enter func27,ntmps27;go_upto_region 1 with fail;generalize (((w.alloc (.cells #[.pointer (some ⟨a,0,none⟩)] 55)).alloc (.cells #[.func (.func F) #[] #[]] 60)).alloc (.cells #[.int .i64 0,.nilFunc] 58))=W at*
 have E:=AO r.2.2.1 0;simp only[List.getElem?_toArray,List.getElem?_cons_zero] at E;go_wp2_with fail;refine(EQ a 2 _ _ _ _).mono ?_;rintro e c ⟨b,rfl,G,d⟩;obtain⟨f,h,i,g,s⟩:=r.out;have H:=(d.block _ (by omega)).trans f;have I:=(d.block _ (by omega)).trans h;have J:=(d.block _ (by omega)).trans i;have j:Hid (c.heap[w.heap.size+1+1]?=some (.cells #[.int .i64 0,.nilFunc] 58)/\c.heap[w.heap.size+1]?=some (.cells #[.func (.func F) #[] #[]] 60)/\c.heap[w.heap.size]?=some (.cells #[.pointer (some ⟨a,0,none⟩)] 55)/\AD w.heap.size w c/\DW c a (.func (.func 71) #[] #[.pointer (some ⟨w.heap.size,0,none⟩),.pointer (some ⟨w.heap.size+1,0,none⟩)]) b):=⟨H,I,J,g.trans (d.mono g.size),G⟩;clear H I J f h i g s G d r E;have L:b.oneCell'=true:=by
  obtain⟨p,q,rfl,-,-⟩:=j.2.2.2.2;simp[Value.oneCell']
 go_wp2_with (refine wpList_store_row rfl 58 (.tmp 4) (.tmp 7) rfl (w.heap.size+1+1) #[.int .i64 2,b] rfl rfl _ _ j.1 (by kernel_rfl) rfl (MH _ _ L) ?_);have K:=setRow_heap c (w.heap.size+1+1) _ #[.int .i64 2,b] _ _ j.1
 (try simp only[Exit.inBlock,Exit.then])
 refine Do (Eg rfl _ _ rfl (AO K 0) (AO K 1)) rfl ?_;obtain⟨f,h,i,g,s⟩:=j.out;have l:∀k,k≠w.heap.size+1+1->(c.setRow (w.heap.size+1+1) #[.int .i64 2,b]).heap[k]?=c.heap[k]?:=λk M=>setRow_other c _ _ _ M;refine⟨b,_,rfl,?_,⟨w.heap.size,w.heap.size+1,rfl,(l _ (by omega)).trans i,(l _ (by omega)).trans h⟩,Ik g (by omega) _⟩;obtain⟨p,q,N,t,u⟩:=s;have O:p≠w.heap.size+1+1:=λe=>by rw[e,f] at t;simp at t
 have nq:q≠w.heap.size+1+1:=λe=>by rw[e,f] at u;simp at u
 exact⟨p,q,N,(l _ O).trans t,(l _ nq).trans u⟩
theorem RU(a F:Nat)(w:AA):
 Calls prog 32 #[.pointer (some ⟨a,0,none⟩),.func (.func F) #[] #[]] w λe m=>∃b v,e=.returned (.agg #[.int .i64 3,b])/\DW m a v b/\fO m a 89 62 F v/\AD w.heap.size w m:=by
 have P:∀(x:Fn) (first y:Array AK) (w:AA),(Instr.makeFunc x first y).run prog w=.ok (.func x first y) w:=λ_ _ _ _=>rfl;have n:=Ao ((w.alloc (.cells #[.pointer (some ⟨a,0,none⟩)] 55)).alloc (.cells #[.func (.func F) #[] #[]] 62)) (.cells #[.int .i64 0,.nilFunc] 58);have o:=Cj (Ao (w.alloc (.cells #[.pointer (some ⟨a,0,none⟩)] 55)) (.cells #[.func (.func F) #[] #[]] 62)) (.cells #[.int .i64 0,.nilFunc] 58);have z:=Cj (Cj (Ao w (.cells #[.pointer (some ⟨a,0,none⟩)] 55)) (.cells #[.func (.func F) #[] #[]] 62)) (.cells #[.int .i64 0,.nilFunc] 58);have A:AD w.heap.size w (((w.alloc (.cells #[.pointer (some ⟨a,0,none⟩)] 55)).alloc (.cells #[.func (.func F) #[] #[]] 62)).alloc (.cells #[.int .i64 0,.nilFunc] 58)):=(bA.alloc (by simp) _).alloc (by simp;omega) _;have B:(w.alloc (.cells #[.pointer (some ⟨a,0,none⟩)] 55)).heap.size=w.heap.size+1:=by simp
 have C:((w.alloc (.cells #[.pointer (some ⟨a,0,none⟩)] 55)).alloc (.cells #[.func (.func F) #[] #[]] 62)).heap.size=w.heap.size+1+1:=by simp
 have D:(((w.alloc (.cells #[.pointer (some ⟨a,0,none⟩)] 55)).alloc (.cells #[.func (.func F) #[] #[]] 62)).alloc (.cells #[.int .i64 0,.nilFunc] 58)).heap.size=w.heap.size+1+1+1:=by simp
 rw[C] at n;rw[B] at o;have r:Hid ((((w.alloc (.cells #[.pointer (some ⟨a,0,none⟩)] 55)).alloc (.cells #[.func (.func F) #[] #[]] 62)).alloc (.cells #[.int .i64 0,.nilFunc] 58)).heap[w.heap.size+1+1]?=some (.cells #[.int .i64 0,.nilFunc] 58)/\_/\_/\_/\_):=⟨n,o,z,A,D⟩;clear n o z A B C D;go_enter func32,ntmps32;go_upto_region 1 with fail;generalize (((w.alloc (.cells #[.pointer (some ⟨a,0,none⟩)] 55)).alloc (.cells #[.func (.func F) #[] #[]] 62)).alloc (.cells #[.int .i64 0,.nilFunc] 58))=W at*
 have E:=AO r.2.2.1 0;simp only[List.getElem?_toArray,List.getElem?_cons_zero] at E;go_wp2_with fail;refine(EQ a 3 _ _ _ _).mono ?_;rintro e c ⟨b,rfl,G,d⟩;obtain⟨f,h,i,g,s⟩:=r.out;have H:=(d.block _ (by omega)).trans f;have I:=(d.block _ (by omega)).trans h;have J:=(d.block _ (by omega)).trans i;have j:Hid (c.heap[w.heap.size+1+1]?=some (.cells #[.int .i64 0,.nilFunc] 58)/\c.heap[w.heap.size+1]?=some (.cells #[.func (.func F) #[] #[]] 62)/\c.heap[w.heap.size]?=some (.cells #[.pointer (some ⟨a,0,none⟩)] 55)/\AD w.heap.size w c/\DW c a (.func (.func 89) #[] #[.pointer (some ⟨w.heap.size,0,none⟩),.pointer (some ⟨w.heap.size+1,0,none⟩)]) b):=⟨H,I,J,g.trans (d.mono g.size),G⟩;clear H I J f h i g s G d r E;have L:b.oneCell'=true:=by
  obtain⟨p,q,rfl,-,-⟩:=j.2.2.2.2;simp[Value.oneCell']
 go_wp2_with (refine wpList_store_row rfl 58 (.tmp 4) (.tmp 7) rfl (w.heap.size+1+1) #[.int .i64 3,b] rfl rfl _ _ j.1 (by kernel_rfl) rfl (MH _ _ L) ?_);have K:=setRow_heap c (w.heap.size+1+1) _ #[.int .i64 3,b] _ _ j.1
 (try simp only[Exit.inBlock,Exit.then])
 refine Do (Eg rfl _ _ rfl (AO K 0) (AO K 1)) rfl ?_;obtain⟨f,h,i,g,s⟩:=j.out;have l:∀k,k≠w.heap.size+1+1->(c.setRow (w.heap.size+1+1) #[.int .i64 3,b]).heap[k]?=c.heap[k]?:=λk M=>setRow_other c _ _ _ M;refine⟨b,_,rfl,?_,⟨w.heap.size,w.heap.size+1,rfl,(l _ (by omega)).trans i,(l _ (by omega)).trans h⟩,Ik g (by omega) _⟩;obtain⟨p,q,N,t,u⟩:=s;have O:p≠w.heap.size+1+1:=λe=>by rw[e,f] at t;simp at t
 have nq:q≠w.heap.size+1+1:=λe=>by rw[e,f] at u;simp at u
 exact⟨p,q,N,(l _ O).trans t,(l _ nq).trans u⟩
theorem gY(w:AA)(m:Nat)(a:Array MapEntry)(b:Nat)(k:AB)(v:AK)(c:w.heap[m]?=some (.map a b))(d:Instr.findNow .string (.string k) a.toList 0=some none):
 (Instr.mapUpdate 33 (.map (some m)) (.string k) v).run prog w=.ok () (w.putObj m (.map (a.push ⟨.string k,v,b⟩) (b+1))):=by
 have e:(Instr.checkKey false 10000 9 (.string k)).run prog w=.ok () w:=MapKept.run_checkKey (k:=.string k) underlying9 (by simp[MapKept.IsKey]) false 9999;simp[Instr.mapUpdate,run_underlying underlying33,MapKept.run_getObj_map c,e,MapKept.run_findKey underlying9 d,MapKept.run_setObj_map _ c,Result.andThen,World.putObj]
theorem Q6(w:AA)(m:Nat)(a:Array MapEntry)(b:Nat)(k:AB)(i:Nat)(v:AK)(c:w.heap[m]?=some (.map a b))(d:a.isEmpty=false)(e:Instr.findNow .string (.string k) a.toList 0=some (some (i,v))):
 (Instr.lookup 33 (.map (some m)) (.string k) true).run prog w=.ok (.tuple #[v,.bool true]) w:=by
 have f:(Instr.checkKey false 10000 9 (.string k)).run prog w=.ok () w:=MapKept.run_checkKey (k:=.string k) underlying9 (by simp[MapKept.IsKey]) false 9999;simp[Instr.lookup,run_underlying underlying33,MapKept.run_getObj_map c,d,f,MapKept.run_findKey underlying9 e,Result.andThen]
theorem ek(w:AA):(zeroValue 58).run prog w=.ok (.agg #[.int .i64 0,.nilFunc]) w:=by kernel_rfl
theorem Y6(w:AA)(m:Nat)(a:Array MapEntry)(b:Nat)(k:AB)(c:w.heap[m]?=some (.map a b))(d:a.isEmpty=false)(e:Instr.findNow .string (.string k) a.toList 0=some none):
 (Instr.lookup 33 (.map (some m)) (.string k) true).run prog w=.ok (.tuple #[.agg #[.int .i64 0,.nilFunc],.bool false]) w:=by
 have f:(Instr.checkKey false 10000 9 (.string k)).run prog w=.ok () w:=MapKept.run_checkKey (k:=.string k) underlying9 (by simp[MapKept.IsKey]) false 9999;simp[Instr.lookup,run_underlying underlying33,MapKept.run_getObj_map c,d,f,MapKept.run_findKey underlying9 e,ek,Result.andThen]
theorem BH{i:Array Oper}{rest:List Oper}{o:Oper}{a:Act}{w:AA}{Q:Exit->Act->AA->Prop}(l:o.guard=none)(x y:Operand)(k:AB)(n:o.op=.insert 33 x (.const (.string k)) y)
 (m:Nat) (b:Array MapEntry) (c:Nat) (v:AK) (p:a.eval x=.map (some m)) (q:a.eval y=v) (g:w.heap[m]?=some (.map b c)) (r:Instr.findNow .string (.string k) b.toList 0=some none)
 (h:∀d,d.heap[m]?=some (.map (b.push ⟨.string k,v,c⟩) (c+1))->Kc w d->AD m w d->wpList prog i Q rest (a.put o.dst undef) d):wpList prog i Q (o::rest) a w:=by
 refine wpList_plain l λK s=>?_;have t:m<w.heap.size:=(Array.getElem?_eq_some_iff.1 g).1;have u:=gY w m b c k v g r;unfold Oper.wp execOp;have z:a.eval (.const (.string k))=.string k:=rfl;simp only[n,p,q,z];simp[u];refine s _ _ (h _ (World.putObj_heap_same t) (λj cs T fr f _ _ _=>?_) ⟨rfl,rfl,rfl,by simp[World.putObj],λj f=>World.putObj_heap_other (by omega)⟩);by_cases e:j=m
 ·subst e;rw[g] at f;simp at f
 ·rw[World.putObj_heap_other e];exact f
def LM(W:AA)(a F:Nat)(c:AK):Prop:=∃b,DW W a b c/\fO W a 91 64 F b
def Ex(W:AA)(a F:Nat)(c:AK):Prop:=∃b,DW W a b c/\fO W a 71 60 F b
def P8(W:AA)(a F:Nat)(c:AK):Prop:=∃b,DW W a b c/\fO W a 89 62 F b
theorem LM.next{W a:AA}{b F:Nat}{c:AK}(h:LM W b F c)(d:Kc W a):LM a b F c:=by
 obtain⟨t,e,f⟩:=h;exact⟨t,e.next d,f.next d (by decide)⟩
theorem Ex.next{W a:AA}{b F:Nat}{c:AK}(h:Ex W b F c)(d:Kc W a):Ex a b F c:=by
 obtain⟨t,e,f⟩:=h;exact⟨t,e.next d,f.next d (by decide)⟩
theorem P8.next{W a:AA}{b F:Nat}{c:AK}(h:P8 W b F c)(d:Kc W a):P8 a b F c:=by
 obtain⟨t,e,f⟩:=h;exact⟨t,e.next d,f.next d (by decide)⟩
abbrev VD(a:Nat)(b c d e f g h i j k:AK):Array MapEntry:=#[⟨.string {data:=#[102,111,114,109,97,116]},.agg #[.int .i64 1,.func (.func 25) #[.pointer (some ⟨a,0,none⟩)] #[]],0⟩,⟨.string {data:=#[109,111,100,101]},.agg #[.int .i64 1,.func (.func 26) #[.pointer (some ⟨a,0,none⟩)] #[]],1⟩,⟨.string {data:=#[97,100,100]},.agg #[.int .i64 2,b],2⟩,⟨.string {data:=#[115,117,98]},.agg #[.int .i64 2,c],3⟩,⟨.string {data:=#[109,117,108]},.agg #[.int .i64 2,d],4⟩,⟨.string {data:=#[100,105,118]},.agg #[.int .i64 2,e],5⟩,⟨.string {data:=#[102,109,97]},.agg #[.int .i64 3,f],6⟩,⟨.string {data:=#[115,113,114,116]},.agg #[.int .i64 1,g],7⟩,⟨.string {data:=#[113,117,97,110,116,105,122,101]},.agg #[.int .i64 2,h],8⟩,⟨.string {data:=#[110,101,120,116]},.agg #[.int .i64 1,i],9⟩,⟨.string {data:=#[99,111,109,112,97,114,101]},.agg #[.int .i64 2,j],10⟩,⟨.string {data:=#[119,111,114,100]},.agg #[.int .i64 1,k],11⟩,⟨.string {data:=#[102,108,97,103,115]},.agg #[.int .i64 0,.func (.func 41) #[.pointer (some ⟨a,0,none⟩)] #[]],12⟩]
def UG(W:AA)(a:Nat)(b c d e f g h i j k:AK):Prop:=Ex W a 28 b/\Ex W a 29 c/\Ex W a 30 d/\Ex W a 31 e/\P8 W a 33 f/\LM W a 35 g/\Ex W a 36 h/\LM W a 37 i/\DW W a (.func (.func 39) #[.pointer (some ⟨a,0,none⟩)] #[]) j/\DW W a (.func (.func 40) #[.pointer (some ⟨a,0,none⟩)] #[]) k
theorem UG.next{W b:AA}{c:Nat}{d e f g i j k l m n:AK}(h:UG W c d e f g i j k l m n)(a:Kc W b):UG b c d e f g i j k l m n:=by
 obtain⟨o,p,q,r,s,t,u,v,w,x⟩:=h;exact⟨o.next a,p.next a,q.next a,r.next a,s.next a,t.next a,u.next a,v.next a,w.next a,x.next a⟩
def BF(W:AA)(m a:Nat):Prop:=∃b c d e f g h i j k,W.heap[m]?=some (.map (VD a b c d e f g h i j k) 13)/\UG W a b c d e f g h i j k
theorem BF.next{W a:AA}{m b:Nat}(h:BF W m b)(c:Kt W a):BF a m b:=by
 obtain⟨d,f,g,i,j,k,l,n,o,p,q,r⟩:=h;exact⟨d,f,g,i,j,k,l,n,o,p,c m _ q (λcs fr e=>by simp at e) (λcs fr e=>by simp at e) (λcs fr e=>by simp at e),r.next c.kc⟩
def jz(w:AA)(m:Nat)(E:List MapEntry)(n:Nat)(P:AA->Prop)(W:AA):Prop:=W.heap[m]?=some (.map E.toArray n)/\AD m w W/\P W/\∀X Y,Kc X Y->P X->P Y
theorem jz.put{w W b:AA}{m n:Nat}{E:List MapEntry}{e:MapEntry}{P:AA->Prop}(h:jz w m E n P W)(a:b.heap[m]?=some (.map (E.toArray.push e) (n+1)))(c:Kc W b)(d:AD m W b):jz w m (E++[e]) (n+1) P b:=⟨by rw[a,List.push_toArray],h.2.1.trans d,h.2.2.2 _ _ c h.2.2.1,h.2.2.2⟩
theorem jz.add{w W a:AA}{m n:Nat}{E:List MapEntry}{P:AA->Prop}(h:jz w m E n P W)(b:AD W.heap.size W a)(p:AA->Prop)(d:p a)(e:∀X Y,Kc X Y->p X->p Y):jz w m E n (λX=>P X/\p X) a:=
 have c:=(Array.getElem?_eq_some_iff.1 h.1).1
 ⟨(b.block _ c).trans h.1,h.2.1.trans (b.mono (Nat.le_of_lt c)),⟨h.2.2.2 _ _ (Kc.bel b) h.2.2.1,d⟩,λ_ _ k q=>⟨h.2.2.2 _ _ k q.1,e _ _ k q.2⟩⟩
theorem Z0(j:Nat)(w:AA):
 Calls prog 14 #[.pointer (some ⟨j,0,none⟩)] w λe y=>∃m,e=.returned (.map (some m))/\BF y m j/\AD w.heap.size w y:=by
 have O:∀(z:Fn) (first A:Array AK) (w:AA),(Instr.makeFunc z first A).run prog w=.ok (.func z first A) w:=λ_ _ _ _=>rfl;have P:=NJ;have Q:=@run_makeMap prog;have H:Hid (jz w w.heap.size [] 0 (λ_=>True) (w.alloc (.map #[] 0))):=⟨Ao w (.map #[] 0),bA,trivial,λ_ _ _ _=>trivial⟩;go_enter func14,ntmps14;go_wp2_with (refine BH rfl _ _ {data:=#[102,111,114,109,97,116]} rfl w.heap.size _ _ (.agg #[.int .i64 1,.func (.func 25) #[.pointer (some ⟨j,0,none⟩)] #[]]) rfl rfl H.1 (by kernel_rfl) ?_);intro b c d f
 replace H:=zq (H.put c d f)
 clear c d f;go_wp2_with (refine BH rfl _ _ {data:=#[109,111,100,101]} rfl w.heap.size _ _ (.agg #[.int .i64 1,.func (.func 26) #[.pointer (some ⟨j,0,none⟩)] #[]]) rfl rfl H.1 (by kernel_rfl) ?_);intro b c d f
 replace H:=zq (H.put c d f)
 clear c d f;go_wp2_with fail;refine(FA j 28 _).mono ?_;rintro e a ⟨n,R,rfl,g,l,i⟩
 replace H:=zq (H.add i (λX=>Ex X j 28 n) ⟨_,g,l⟩ λ_ _ k h=>h.next k)
 clear g i l;go_wp2_with (refine BH rfl _ _ {data:=#[97,100,100]} rfl w.heap.size _ _ (.agg #[.int .i64 2,n]) rfl rfl H.1 (by kernel_rfl) ?_);intro b c d f
 replace H:=zq (H.put c d f)
 clear c d f;go_wp2_with fail;refine(FA j 29 _).mono ?_;rintro e a ⟨o,S,rfl,g,l,i⟩
 replace H:=zq (H.add i (λX=>Ex X j 29 o) ⟨_,g,l⟩ λ_ _ k h=>h.next k)
 clear g i l;go_wp2_with (refine BH rfl _ _ {data:=#[115,117,98]} rfl w.heap.size _ _ (.agg #[.int .i64 2,o]) rfl rfl H.1 (by kernel_rfl) ?_);intro b c d f
 replace H:=zq (H.put c d f)
 clear c d f;go_wp2_with fail;refine(FA j 30 _).mono ?_;rintro e a ⟨p,T,rfl,g,l,i⟩
 replace H:=zq (H.add i (λX=>Ex X j 30 p) ⟨_,g,l⟩ λ_ _ k h=>h.next k)
 clear g i l;go_wp2_with (refine BH rfl _ _ {data:=#[109,117,108]} rfl w.heap.size _ _ (.agg #[.int .i64 2,p]) rfl rfl H.1 (by kernel_rfl) ?_);intro b c d f
 replace H:=zq (H.put c d f)
 clear c d f;go_wp2_with fail;refine(FA j 31 _).mono ?_;rintro e a ⟨q,U,rfl,g,l,i⟩
 replace H:=zq (H.add i (λX=>Ex X j 31 q) ⟨_,g,l⟩ λ_ _ k h=>h.next k)
 clear g i l;go_wp2_with (refine BH rfl _ _ {data:=#[100,105,118]} rfl w.heap.size _ _ (.agg #[.int .i64 2,q]) rfl rfl H.1 (by kernel_rfl) ?_);intro b c d f
 replace H:=zq (H.put c d f)
 clear c d f;go_wp2_with fail;refine(RU j 33 _).mono ?_;rintro e a ⟨r,V,rfl,g,l,i⟩
 replace H:=zq (H.add i (λX=>P8 X j 33 r) ⟨_,g,l⟩ λ_ _ k h=>h.next k)
 clear g i l;go_wp2_with (refine BH rfl _ _ {data:=#[102,109,97]} rfl w.heap.size _ _ (.agg #[.int .i64 3,r]) rfl rfl H.1 (by kernel_rfl) ?_);intro b c d f
 replace H:=zq (H.put c d f)
 clear c d f;go_wp2_with fail;refine(Nb j 35 _).mono ?_;rintro e a ⟨s,W,rfl,g,l,i⟩
 replace H:=zq (H.add i (λX=>LM X j 35 s) ⟨_,g,l⟩ λ_ _ k h=>h.next k)
 clear g i l;go_wp2_with (refine BH rfl _ _ {data:=#[115,113,114,116]} rfl w.heap.size _ _ (.agg #[.int .i64 1,s]) rfl rfl H.1 (by kernel_rfl) ?_);intro b c d f
 replace H:=zq (H.put c d f)
 clear c d f;go_wp2_with fail;refine(FA j 36 _).mono ?_;rintro e a ⟨t,Y,rfl,g,l,i⟩
 replace H:=zq (H.add i (λX=>Ex X j 36 t) ⟨_,g,l⟩ λ_ _ k h=>h.next k)
 clear g i l;go_wp2_with (refine BH rfl _ _ {data:=#[113,117,97,110,116,105,122,101]} rfl w.heap.size _ _ (.agg #[.int .i64 2,t]) rfl rfl H.1 (by kernel_rfl) ?_);intro b c d f
 replace H:=zq (H.put c d f)
 clear c d f;go_wp2_with fail;refine(Nb j 37 _).mono ?_;rintro e a ⟨u,Z,rfl,g,l,i⟩
 replace H:=zq (H.add i (λX=>LM X j 37 u) ⟨_,g,l⟩ λ_ _ k h=>h.next k)
 clear g i l;go_wp2_with (refine BH rfl _ _ {data:=#[110,101,120,116]} rfl w.heap.size _ _ (.agg #[.int .i64 1,u]) rfl rfl H.1 (by kernel_rfl) ?_);intro b c d f
 replace H:=zq (H.put c d f)
 clear c d f;go_wp2_with fail;refine(EQ j 2 _ _ _ _).mono ?_;rintro e a ⟨v,rfl,g,i⟩
 replace H:=zq (H.add i (λX=>DW X j (.func (.func 39) #[.pointer (some ⟨j,0,none⟩)] #[]) v) g λ_ _ k h=>h.next k)
 clear g i;go_wp2_with (refine BH rfl _ _ {data:=#[99,111,109,112,97,114,101]} rfl w.heap.size _ _ (.agg #[.int .i64 2,v]) rfl rfl H.1 (by kernel_rfl) ?_);intro b c d f
 replace H:=zq (H.put c d f)
 clear c d f;go_wp2_with fail;refine(EQ j 1 _ _ _ _).mono ?_;rintro e a ⟨x,rfl,g,i⟩
 replace H:=zq (H.add i (λX=>DW X j (.func (.func 40) #[.pointer (some ⟨j,0,none⟩)] #[]) x) g λ_ _ k h=>h.next k)
 clear g i;go_wp2_with (refine BH rfl _ _ {data:=#[119,111,114,100]} rfl w.heap.size _ _ (.agg #[.int .i64 1,x]) rfl rfl H.1 (by kernel_rfl) ?_);intro b c d f
 replace H:=zq (H.put c d f)
 clear c d f;go_wp2_with (refine BH rfl _ _ {data:=#[102,108,97,103,115]} rfl w.heap.size _ _ (.agg #[.int .i64 0,.func (.func 41) #[.pointer (some ⟨j,0,none⟩)] #[]]) rfl rfl H.1 (by kernel_rfl) ?_);intro b c d f
 replace H:=zq (H.put c d f)
 clear c d f;go_wp2;go_ret;obtain⟨B,C,⟨⟨⟨⟨⟨⟨⟨⟨⟨⟨-,D⟩,E⟩,F⟩,G⟩,I⟩,J⟩,K⟩,L⟩,M⟩,N⟩,-⟩:=H.out;exact⟨w.heap.size,rfl,⟨n,o,p,q,r,s,t,u,v,x,B,D,E,F,G,I,J,K,L,M,N⟩,C⟩
def Ff(J:Nat->Act->AA->Prop)(Q:Exit->Act->AA->Prop):Exit->Act->AA->Prop
 |.goto l,a,w=>J l a w
 |e,a,w=>Q e a w
section
variable {P : Program} {Q : Exit → Act → World → Prop} {J : Nat → Act → World → Prop} {c : Code} {b : Frame} {k : List Item} {cs : List Frame}
theorem Nr{m:Machine}{e:Exit}{a:Act}{w:AA}(h:Arrives P m b (.inScope c::k) cs e a w)(d:Ff J Q e a w)
 (j:∀l,e=.goto l->∃f g i,Q f g i/\Arrives P m b k cs f g i):∃f g i,Q f g i/\Arrives P m b k cs f g i:=by
 match e,h,d,j with
 |.normal,h,d,_=>exact⟨.normal,a,w,d,h.trans (.one step_inScope)⟩
 |.exit id,h,d,_=>exact⟨.exit id,a,w,d,λn o=>h n (by simp[exitTo,o])⟩
 |.goto l,_,_,j=>exact j l rfl
 |.ret,h,d,_=>exact⟨.ret,a,w,d,h⟩
 |.panic ch,h,d,_=>exact⟨.panic ch,a,w,d,h⟩
 |.outgrown,h,d,_=>exact⟨.outgrown,a,w,d,h⟩
theorem R3{J:Nat->Nat->Act->AA->Prop}(p:∀m l a w,J m l a w->(findLabel c l).isSome=true)
 (q:∀m l a w,J m l a w->((findLabel c l).getD .skip).wp P (Ff (λf g i=>∃d,d<m/\J d f g i) Q) a w):
 ∀n m l a w,m<n->J m l a w->∃e g i,Q e g i/\Arrives P (lone (b.at a (.code ((findLabel c l).getD .skip)::.inScope c::k)) cs w) b k cs e g i
 |0,_,_,_,_,h,_=>absurd h (Nat.not_lt_zero _)
 |n+1,m,l,a,w,hn,hJ=>by
  obtain⟨e,j,o,r,s⟩:=q m l a w hJ b (.inScope c::k) cs;refine Nr s r λf u=>?_;subst u;obtain⟨d,C,t⟩:∃d,d<m/\J d f j o:=r;obtain⟨v,y,z,A,B⟩:=R3 p q n d f j o (by omega) t;refine⟨v,y,z,A,.of_steps (s _ ?_) B⟩;have:=p d f j o t;cases hq3:findLabel c f with
  |none=>rw[hq3] at this;cases this
  |some x=>simp[gotoIn,hq3]
theorem SJ{J:Nat->Nat->Act->AA->Prop}{a:Act}{w:AA}(n:∀m l a w,J m l a w->(findLabel c l).isSome=true)(o:Nat)
 (first:c.wp P (Ff (λf g h=>∃d,d<o/\J d f g h) Q) a w)
 (s:∀m l a w,J m l a w->((findLabel c l).getD .skip).wp P (Ff (λf g h=>∃d,d<m/\J d f g h) Q) a w):(Code.scope c).wp P Q a w:=λb k cs=>by
 obtain⟨e,i,j,p,t⟩:=first b (.inScope c::k) cs
 have q:=Arrives.of_steps (.one step_scope) t;refine Nr q p λf u=>?_;subst u;obtain⟨d,C,r⟩:∃d,d<o/\J d f i j:=p;obtain⟨v,y,z,A,B⟩:=R3 (b:=b) (k:=k) (cs:=cs) n s _ d f i j (Nat.lt_succ_self _) r;refine⟨v,y,z,A,.of_steps (q _ ?_) B⟩;have:=n d f i j r;cases hq3:findLabel c f with
 |none=>rw[hq3] at this;cases this
 |some x=>simp[gotoIn,hq3]
end
section
variable {P : Program} {ops : Array Oper}
def PE(b:Array Oper)(j:Nat)(a:Act):AK:=match (b[j]?).bind (·.dst) with
 |some d=>a.tmps.getD d undef
 |none=>undef
def C3(f:Nat->AK):List Nat->Act->Act
 |[],a=>a
 |d::r,a=>C3 f r (a.put (some d) (f d))
theorem PQ(f:Nat->AK)(l:List Nat)(a:Act):(C3 f l a).defers=a.defers:=by
 induction l generalizing a with
 |nil=>rfl
 |cons d r ih=>exact ih _
theorem Tm(f:Nat->AK)(l:List Nat)(a:Act):(C3 f l a).tmps.size=a.tmps.size:=by
 induction l generalizing a with
 |nil=>rfl
 |cons d r ih=>rw[C3,ih];simp[Act.put]
theorem Ng(f:Nat->AK)(l:List Nat)(a:Act)(k:Nat)(h:k∉l):(C3 f l a).tmps[k]?=a.tmps[k]?:=by
 induction l generalizing a with
 |nil=>rfl
 |cons d r ih=>
  rw[C3,ih _ (λq=>h (GH _ q))];have:d≠k:=λq=>h (by rw[q];exact Gx);simp[Act.put,Array.getElem?_setIfInBounds,this]
theorem Zj(f:Nat->AK)(l:List Nat)(a:Act)(k:Nat)(h:k∈l)(c:k<a.tmps.size):(C3 f l a).tmps[k]?=some (f k):=by
 induction l generalizing a with
 |nil=>cases h
 |cons d r ih=>
  rw[C3];by_cases b:k∈r
  ·exact ih _ b (by simp[Act.put];exact c)
  ·have:d=k:=by rcases List.mem_cons.1 h with q|q;exact q.symm;exact absurd q b
   subst this;rw[Ng _ _ _ _ b];simp[Act.put,Array.getElem?_setIfInBounds,c]
def Ig(l:List Nat)(b a:Act):Prop:=a.defers=b.defers/\a.tmps.size=b.tmps.size/\∀k,k∉l->a.tmps[k]?=b.tmps[k]?
theorem Ig.eq{l:List Nat}{c a:Act}(h:Ig l c a):a=C3 (λd=>a.tmps.getD d undef) l c:=by
 obtain⟨i,n,j⟩:=h;have e:a.tmps=(C3 (λd=>a.tmps.getD d undef) l c).tmps:=by
  apply Array.ext_getElem?;intro k;by_cases f:k∈l
  ·by_cases m:k<c.tmps.size
   ·rw[Zj _ _ _ _ f m];have:k<a.tmps.size:=by omega
    simp[Array.getD,this]
   ·rw[Array.getElem?_eq_none (by omega),Array.getElem?_eq_none (by rw[Tm];omega)]
  ·rw[Ng _ _ _ _ f,j k f]
 have g:a.defers=(C3 (λd=>a.tmps.getD d undef) l c).defers:=by rw[PQ];exact i
 generalize C3 (λd=>a.tmps.getD d undef) l c=b at e g;cases a
 cases b
 simp only at e g;rw[e,g]
theorem Ig.put{l:List Nat}{b a:Act}(h:Ig l b a)(d:Nat)(e:d∈l)(v:AK):Ig l b (a.put (some d) v):=by
 obtain⟨f,g,i⟩:=h;refine⟨f,by simpa[Act.put] using g,λk c=>?_⟩;have:d≠k:=λq=>c (by rw[<-q];exact e);rw[<-i k c];simp[Act.put,Array.getElem?_setIfInBounds,this]
theorem Wo(a:Act)(d:Nat)(v:AK)(h:d<a.tmps.size):(a.put (some d) v).tmps.getD d undef=v:=by
 rw[Array.getD_eq_getD_getElem?];simp[Act.put,h]
theorem Tn(a:Act)(d e:Nat)(v:AK)(h:d≠e):(a.put (some d) v).tmps.getD e undef=a.tmps.getD e undef:=by
 rw[Array.getD_eq_getD_getElem?,Array.getD_eq_getD_getElem?];simp[Act.put,Array.getElem?_setIfInBounds,h]
def XQ(a:Array Oper)(l:List Nat)(n:Nat):Bool:=
 (List.range a.size).all (λi=>match a[i]? with
   |none=>false
   |some o=>o.guard.isNone&&o.after.all (λe=>decide (e.on<i))&&decide (o.dst=some (l.getD i 0)))&&
 decide (l.length=a.size)&&decide l.Nodup&&l.all (λd=>decide (d<n))
theorem Ps{Q:Exit->Act->AA->Prop}(l:List Nat)(E:Act)(G:Nat->AK->AA->Prop)(S:Array Bool->AA->Prop)(R:AA->AA->Prop)
 (J:XQ ops l E.tmps.size=true)
 (Z:∀j v w p,R w p->G j v w->G j v p)
 (hs:∀(i:Nat) (o:Oper) (t:Array Bool) (a:Act) (w:AA),ops[i]?=some o->t.size=ops.size->t.getD i true=false->S t w->Ig l E a->(∀e∈o.after,Region.binds .any e=true->G e.on (PE ops e.on a) w)->o.wp P a w (λT p=>∃v,T=a.put o.dst v/\G i v p/\S (t.setIfInBounds i true) p/\R w p) Q)
 (hQ:∀(f:Nat->AK) (t:Array Bool) w,(∀j,j<ops.size->t.getD j true=true)->S t w->(∀j d,l[j]?=some d->G j (f d) w)->Q .normal (C3 f l E) w):
 ∀(fuel:Nat) (c:Array Bool) (a:Act) (w:AA),c.size=ops.size->(c.toList.filter (!·)).length<=fuel->S c w->Ig l E a->(∀j,j<ops.size->c.getD j true=true->G j (PE ops j a) w)->wpAny P .any ops Q fuel c a w:=by
 unfold XQ at J;simp only[Bool.and_eq_true,decide_eq_true_eq,List.all_eq_true,List.mem_range] at J;obtain⟨⟨⟨h1,h2⟩,h3⟩,h4⟩:=J;have F:∀i o,ops[i]?=some o->o.guard=none/\(∀e∈o.after,e.on<i)/\o.dst=some (l.getD i 0)/\i<ops.size:=λi o k=>by
  have A:=(Array.getElem?_eq_some_iff.1 k).1;have:=h1 i A;rw[k] at this;simp only[Bool.and_eq_true,decide_eq_true_eq] at this;obtain⟨⟨K,H⟩,M⟩:=this;refine⟨Option.isNone_iff_eq_none.1 K,?_,M,A⟩
  ·intro e u;have:=Array.all_eq_true_iff_forall_mem.1 H e u;exact of_decide_eq_true this
 have N:∀j a,j<ops.size->PE ops j a=a.tmps.getD (l.getD j 0) undef:=λj a g=>by
  unfold PE;have k:ops[j]?=some ops[j]:=Array.getElem?_eq_getElem g;rw[k];simp only[Option.bind_some,(F j _ k).2.2.1]
 have I:∀j,j<ops.size->l[j]?=some (l.getD j 0):=λj g=>by
  rw[List.getD_eq_getElem?_getD,Dq (by omega)];rfl
 have U:∀c a w,c.size=ops.size->Region.ready .any ops c=[]->S c w->Ig l E a->(∀j,j<ops.size->c.getD j true=true->G j (PE ops j a) w)->Q .normal a w:=λc a w x B C s y=>by
  have V:∀n j,j<n->j<ops.size->c.getD j true=true:=by
   intro n;induction n with
   |zero=>intro j g;omega
   |succ n ih=>
    intro j g z;by_cases af:j<n
    ·exact ih j af z
    ·cases hc:c.getD j true with
     |true=>rfl
     |false=>
      have k:ops[j]?=some ops[j]:=Array.getElem?_eq_getElem z;have:j∈Region.ready .any ops c:=mem_ready.2 ⟨hc,_,k,λe u _=>by
       have ay:=(F j _ k).2.1 e u;have:=ih e.on (by omega) (by omega);have m:e.on<c.size:=by omega
       simp only[Array.getD,m,dif_pos] at this ⊢;exact this⟩
      rw[B] at this;cases this
  have e:=s.eq;rw[e];refine hQ _ c w (λj g=>V (j+1) j (by omega) g) C λj d g=>?_;have z:j<ops.size:=by have:=(List.getElem?_eq_some_iff.1 g).1;omega
  have:=y j z (V (j+1) j (by omega) z);rw[N j a z] at this;rw[I j z] at g;rw[<-Gy g];exact this
 intro fuel;induction fuel with
 |zero=>
  intro c a w x hf C s y;have B:Region.ready .any ops c=[]:=by
   cases hq:Region.ready .any ops c with
   |nil=>rfl
   |cons i r=>
    have A:i∈Region.ready .any ops c:=by rw[hq];exact Gx
    obtain⟨D,o,k,-⟩:=mem_ready.1 A;have m:i<c.size:=by rw[x];exact(F i o k).2.2.2
    have hm:false∈c.toList.filter (!·):=by
     rw[List.mem_filter];refine⟨?_,rfl⟩;simp only[Array.getD,m,dif_pos] at D;have:c[i]∈c.toList:=Array.mem_toList_iff.2 (Array.getElem_mem m);rw[show c[i]=false from D] at this;exact this
    have:=List.length_pos_of_mem hm;omega
  exact⟨B,U c a w x B C s y⟩
 |succ fuel ih=>
  intro c a w x hf C s y;refine⟨λB=>U c a w x B C s y,λi A=>?_⟩;obtain⟨D,o,k,ai⟩:=mem_ready.1 A;obtain⟨K,H,M,W⟩:=F i o k;unfold wpOp;simp only[k];have hw:Region.wanted o (yielded ops a.tmps)=true:=by simp[Region.wanted,K]
  rw[zyp hw];refine .inl (Oper.wp_mono ?_ (hs i o c a w k x D C s (λe u hb=>y e.on (by have:=H e u;omega) (by
   have:=ai e u hb;have m:e.on<c.size:=by have:=H e u;omega
   simp only[Array.getD,m,dif_pos] at this ⊢;exact this))))
  rintro T p ⟨v,rfl,k1,k2,k3⟩;have m:i<c.size:=by omega
  have X:=List.mem_of_getElem? (I i W);rw[M];refine ih _ _ _ (by simp[x]) ?_ k2 (s.put _ X v) λj g ao=>?_
  ·have e:(c.setIfInBounds i true).toList=c.toList.set i true:=by simp
   rw[e];have hx:c.toList[i]?=some false:=by
    simp only[Array.getD,m,dif_pos] at D;rw[Array.getElem?_toList,Array.getElem?_eq_getElem m];exact congrArg some D
   have aq:∀(L:List Bool) (i:Nat),L[i]?=some false->((L.set i true).filter (!·)).length+1=(L.filter (!·)).length:=by
    intro L;induction L with
    |nil=>intro i h;simp at h
    |cons b L ar=>
     intro i h;cases i with
     |zero=>
      simp only[List.getElem?_cons_zero,Option.some.injEq] at h;subst h;simp
     |succ i=>
      have:=ar i (by simpa using h);simp only[List.set_cons_succ,List.filter_cons];split
      ·simp only[List.length_cons];omega
      ·omega
   have:=aq _ _ hx;omega
  ·rw[N j _ g];by_cases O:j=i
   ·subst O;have au:l.getD j 0<a.tmps.size:=by
     have:=h4 _ X;rw[s.2.1];exact this
    have:(a.put (some (l.getD j 0)) v).tmps.getD (l.getD j 0) undef=v:=Wo a _ v au;rw[this];exact k1
   ·have av:l.getD i 0≠l.getD j 0:=λq=>by
     have Y:=I i W;have a2:=I j g;rw[q] at Y;exact O ((List.getElem?_inj (show j<l.length by omega) h3).1 (a2.trans Y.symm))
    have:(a.put (some (l.getD i 0)) v).tmps.getD (l.getD j 0) undef=a.tmps.getD (l.getD j 0) undef:=Tn a _ _ v av;rw[this,<-N j a g];refine Z j _ w p k3 (y j g ?_);rwa[Go.getD_set_ne true (λq=>O q.symm)] at ao
theorem Bx{h:Nat}{Q:Exit->Act->AA->Prop}{a:Act}{w:AA}(l:List Nat)(G:Nat->AK->AA->Prop)(S:Array Bool->AA->Prop)(R:AA->AA->Prop)(k:P.follows .mixedOrders=true)
 (m:XQ ops l a.tmps.size=true) (n:S (Array.replicate ops.size false) w.drew)
 (p:∀j v w g,R w g->G j v w->G j v g)
 (q:∀(i:Nat) (o:Oper) (c:Array Bool) (b:Act) (w:AA),ops[i]?=some o->c.size=ops.size->c.getD i true=false->S c w->Ig l a b->(∀e∈o.after,Region.binds .any e=true->G e.on (PE ops e.on b) w)->∀K:Act->AA->Prop,(∀v g,G i v g->S (c.setIfInBounds i true) g->R w g->K (b.put o.dst v) g)->o.wp P b w K Q)
 (r:∀(f:Nat->AK) (c:Array Bool) w,(∀j,j<ops.size->c.getD j true=true)->S c w->(∀j d,l[j]?=some d->G j (f d) w)->Q .normal (C3 f l a) w):(Code.region h ops true).wp P Q a w:=by
 refine wp_region_any k (Ps l a G S R m p (λi o c b w s t u x y z=>q i o c b w s t u x y z _ (λv g A B C=>⟨v,rfl,A,B,C⟩)) r _ _ _ _ (by simp) ?_ n ⟨rfl,rfl,λ_ _=>rfl⟩ λj D E=>?_)
 ·refine DT (List.length_filter_le _ _) ?_;simp
 ·simp[Array.getD,D] at E
end
end Go.Proofs.YteofommckgeemaaGreatDoor
namespace Go.Proofs.YteofommckgeemaaGreatDoor
open Go.RowKit Go.Shelf Go.Proofs.Tryz
set_option linter.unusedVariables false
set_option linter.unusedSimpArgs false
set_option maxRecDepth 100000
set_option maxHeartbeats 8000000
def Gq(c:UInt8):List UInt8->List (List UInt8)
 |[]=>[[]]
 |b::l=>if b=c then[]::Gq c l else match Gq c l with
  |[]=>[[b]]
  |p::ps=>(b::p)::ps
theorem T4(c:UInt8)(l:List UInt8):Gq c l≠[]:=by
 cases l with
 |nil=>exact List.cons_ne_nil _ _
 |cons b l=>
  unfold Gq;split
  ·exact List.cons_ne_nil _ _
  ·cases Gq c l<;>exact List.cons_ne_nil _ _
theorem Pi(c:UInt8)(l:List UInt8):(Gq c l).length=l.count c+1:=by
 induction l with
 |nil=>rfl
 |cons b l ih=>
  unfold Gq;split
  ·rename_i h;subst h;rw[List.length_cons,ih,List.count_cons_self]
  ·rename_i h;rw[List.count_cons_of_ne (λq=>h q)];cases hs:Gq c l with
   |nil=>exact absurd hs (T4 c l)
   |cons p a=>rw[<-ih,hs];rfl
theorem MS(c:UInt8):∀(n:Nat) (l:List UInt8),l.length<=n->Lib.splitK [c] 0 (l.count c) l=Gq c l
 |_,[],_=>by unfold Gq;rfl
 |0,b::l,h=>by simp at h
 |n+1,b::l,h=>by
  rw[List.length_cons] at h;have ih:=MS c n l (by omega);by_cases a:b=c
  ·subst a;rw[List.count_cons_self];unfold Gq Lib.splitK;rw[zyp rfl,Lib.index_one];have e:Lib.indexByte (b::l) b=0:=by unfold Lib.indexByte;rw[zyp (by simp)]
   rw[e];show[]::Lib.splitK [b] 0 (List.count b l) l=_
   rw[ih]
  ·rw[List.count_cons_of_ne (λq=>a q)];unfold Gq;rw[zyn a];cases hk:l.count c with
   |zero=>
    rw[hk] at ih;have e:Gq c l=[l]:=by rw[<-ih];rfl
    rw[e];rfl
   |succ k=>
    rw[hk] at ih;unfold Lib.splitK at ih ⊢;rw[Lib.index_one] at ih ⊢;have j:=Lib.indexByte_ge l c;have e:Lib.indexByte (b::l) c=if Lib.indexByte l c==-1 then -1 else Lib.indexByte l c+1:=by
     conv=>lhs;unfold Lib.indexByte
     rw[zyn (by simpa using a)]
    rw[e];by_cases d:Lib.indexByte l c=-1
    ·rw[d] at ih ⊢;rw[zyp (by rfl)] at ih;rw[zyp (by rfl),<-ih]
    ·have f:(Lib.indexByte l c==-1)=false:=beq_eq_false_iff_ne.2 d;rw[f] at ih ⊢;have g:(Lib.indexByte l c+1==-1)=false:=beq_eq_false_iff_ne.2 (by omega);simp only[Bool.false_eq_true,if_false,g] at ih ⊢;rw[<-ih];have i:(Lib.indexByte l c+1).toNat=(Lib.indexByte l c).toNat+1:=by omega
     simp only[i,Nat.add_zero,Hy,List.length_singleton];try rfl
theorem Ns(s:AB)(c:UInt8)(w:AA)(q:s.size<4294967281):
 Calls prog 24 #[.string s,.string ⟨#[c]⟩] w λe a=>e=.returned (.slice (some ⟨w.heap.size,0,none⟩) (Gq c s.data.toList).length (Gq c s.data.toList).length)/\a=w.alloc (.cells ((Gq c s.data.toList).map λl=>Value.string ⟨l.toArray⟩).toArray 9):=by
 have b:1<=(⟨#[c]⟩:AB).size:=AS _;have d:Lib.countB s ⟨#[c]⟩=s.data.toList.count c:=Lib.count_one c s.data.toList;have h:=Lib.splitB_all ⟨#[c]⟩ b 0 _ s rfl;have j:=Lib.splitB_data ⟨#[c]⟩ 0 (Lib.countB s ⟨#[c]⟩) s;have m:Lib.splitK [c] 0 (Lib.countB s ⟨#[c]⟩) s.data.toList=Gq c s.data.toList:=by rw[d];exact MS c _ _ (AS _)
 have n:(Lib.splitB ⟨#[c]⟩ 0 (Lib.countB s ⟨#[c]⟩) s).map Value.string=(Gq c s.data.toList).map λl=>Value.string ⟨l.toArray⟩:=by
  rw[<-m,<-j,List.map_map];apply List.map_congr_left;intro x _;rfl
 have o:Lib.countB s ⟨#[c]⟩+1=(Gq c s.data.toList).length:=by rw[Pi,d]
 have r:=Lib.countB_le ⟨#[c]⟩ b s.size s (AS _);have f:=Any.strings_genSplit_core (ρ:=lays146_ren) {lays146 with} (by kernel_rfl) s ⟨#[c]⟩ 0 (-1) (Lib.countB s ⟨#[c]⟩+1) w q b (B9 _)
  (λx k u=>(strings_Index_one x c _).mono λe a ⟨i,g⟩=>⟨by rw[i];show Ending.returned (Value.int .i64 (Lib.indexByte x.data.toList c))=Ending.returned (Value.int .i64 (Lib.index x.data.toList [c]));rw[Lib.index_one],g⟩)
  ((strings_Count_one s c w).mono λe a ⟨i,g⟩=>⟨by rw[i,d];rfl,g⟩)
  (by decide) (by decide) (by rw[zyp (by decide)];omega)
 rw[Nat.add_sub_cancel,h] at f;have p:Lib.cellsOf (Lib.splitB ⟨#[c]⟩ 0 (Lib.countB s ⟨#[c]⟩) s) (Lib.countB s ⟨#[c]⟩+1)=((Gq c s.data.toList).map λl=>Value.string ⟨l.toArray⟩).toArray:=by
  rw[<-h,Lib.cellsOf_full,n]
 rw[p,o] at f;have t:=zq f;clear f p o r n m j h d b;go_enter func24,ntmps24;go_wp2_with fail;refine cm t λa g=>?_;go_wp2;go_ret;exact⟨rfl,rfl⟩
theorem jO:∃j,prog.info? 37=some j/\j.size=2:=by
 obtain⟨j,a,b⟩:=Option.map_eq_some_iff.1 Tryz.Builder_Extra_169.toX72.sizeBuilder;exact⟨j,a,b⟩
theorem Vd(b:Nat)(w:AA)(c:w.cell? ⟨b,0,none⟩=some (.pointer (some ⟨b,0,none⟩))):
 cE 42 #[.pointer (some ⟨b,0,none⟩)] w (.tuple #[]):=by
 obtain⟨j,a,d⟩:=jO;go_enter func42,ntmps42;go_wp2;rw[Lib.run_neq_ptr_same w _ underlying35 a];go_wp2;go_end0;exact⟨rfl,rfl⟩
theorem SS(b:Nat)(w:AA)(g:w.cell? ⟨b,0,none⟩=some (.pointer none))(a:w.shape? b=some (37,2))(h:w.frozen? ⟨b,0,none⟩=false):
 Calls prog 42 #[.pointer (some ⟨b,0,none⟩)] w λe d=>e=.returned (.tuple #[])/\d=w.setCell ⟨b,0,none⟩ (.pointer (some ⟨b,0,none⟩)):=by
 obtain⟨j,c,f⟩:=jO;go_enter func42,ntmps42;go_wp2;rw[Lib.run_to_unsafe w ⟨b,0,none⟩ underlying35 underlying135 c (by rw[f];decide) a (Nat.zero_lt_succ 1)];simp only[Result.andThen];rw[Oper.upon_value];go_wp2;rw[run_callFunc_extern func108 (by kernel_rfl) (by kernel_rfl) (by kernel_rfl) (e:=Extern.AbiNoEscape.same) (by kernel_rfl)];rw[Lib.run_noEscape];simp only[Result.andThen];rw[Oper.upon_value];go_wp2;rw[Lib.run_from_unsafe w ⟨b,0,none⟩ underlying135 underlying35 c a Tryz.Builder_Extra_169.toX72.liesBuilder];simp only[Result.andThen];rw[Oper.upon_value];go_wp2;go_end0;exact⟨rfl,rfl⟩
def fL(B b:Nat)(c:List AK)(w a:AA):Prop:=Lib.BuilderAtF 37 5 B b (.pointer (some ⟨b,0,none⟩)) c a/\AD B w a/\Lib.OthersKept 5 (some b) w a
theorem Vc(B b:Nat)(a:List AK)(w:AA)(h:Lib.IsBuilderF 37 5 B b a w):
 Calls prog 42 #[.pointer (some ⟨b,0,none⟩)] w λe c=>e=.returned (.tuple #[])/\fL B b a w c:=by
 rcases h with h|h
 ·refine(SS b w h.cell0 h.shape h.frozen0).mono ?_;rintro e c ⟨rfl,rfl⟩;exact⟨rfl,h.used _,(BI B w).setCell (p:=⟨b,0,none⟩) h.1 _,(Lib.OthersKept.refl _ _ w).setCell ⟨b,0,none⟩ rfl _⟩
 ·refine ce (Vd b w h.cell0) ?_;exact⟨rfl,h,BI B _,Lib.OthersKept.refl _ _ _⟩
theorem SW(B b:Nat)(a:List AK)(s:AB)(w:AA)(h:Lib.IsBuilderF 37 5 B b a w)(K:a.length+s.size<=140737488355328)(L:B<=w.heap.size):
 Calls prog 15 #[.pointer (some ⟨b,0,none⟩),.string s] w λe z=>e=.returned (.tuple #[.int .i64 s.size,.nilIface])/\fL B b (a++Lib.strCells s) w z:=by
 obtain⟨o,q,A,C,D⟩:=info_parts Tryz.Builder_Extra_169.infoByte;have E:prog.info? 5=some o:=q;clear q;go_enter func15,ntmps15;go_wp2_with fail;refine(Vc B b a _ h).mono ?_;rintro e f ⟨rfl,⟨r,v,c,i,F⟩,t,G⟩;have M:f.cell? ⟨b,0,none⟩=some (.pointer (some ⟨b,0,none⟩)):=by rw[Lib.cell_of_heap c];rfl
 have N:f.cell? ⟨b,1,none⟩=some v:=by rw[Lib.cell_of_heap c];rfl
 have O:=t.size;go_wp2_with (at_builtin;refine Lib.wpList_append_own_stringF _ rfl _ _ 22 9 rfl B 5 o underlying22 underlying9 E A C D _ _ _ rfl i s rfl ?c3 ?c4 ?c5 ?_);case c3=>unfold maxLen;omega
 case c4=>omega
 case c5=>omega
 intro H j u l _;have I:b<f.heap.size:=(Array.getElem?_eq_some_iff.1 c).1;have d:j.heap[b]?=some (.cells #[.pointer (some ⟨b,0,none⟩),v] 37 (0,0)):=(l.block b I (λe=>F e.symm)).trans c;have P:j.cell? ⟨b,0,none⟩=some (.pointer (some ⟨b,0,none⟩)):=by rw[Lib.cell_of_heap d];rfl
 have Q:j.cell? ⟨b,1,none⟩=some v:=by rw[Lib.cell_of_heap d];rfl
 have R:=Lib.frozen_of_heap d 1;obtain⟨x,y,m,rfl⟩:∃x y m,H=.slice x y m:=by
  rcases u.2 with⟨n,_⟩|⟨g,m,S,T,n,_⟩
  ·exact⟨_,_,_,n⟩
  ·exact⟨_,_,_,n⟩
 go_wp2;go_ret2;refine⟨rfl,?_,?_,(G.grown l (Lib.ownsRowF_kind i)).setCell ⟨b,1,none⟩ rfl _⟩
 ·exact Lib.BuilderAtF.put r d (bs':=a++Lib.strCells s) (by simpa[Lib.strCells_length] using u) Tryz.Builder_Extra_169.neB5
 ·exact(t.grown l (by omega) (λk J=>(i.lt k J).1)).setCell (p:=⟨b,1,none⟩) r _
end Go.Proofs.YteofommckgeemaaGreatDoor
namespace Go.Proofs.YteofommckgeemaaGreatDoor
open Go.RowKit Go.Proofs.Tryz
set_option linter.unusedVariables false
set_option linter.unusedSimpArgs false
set_option maxRecDepth 100000
set_option maxHeartbeats 8000000
def BB:List Nat->Code->Code
 |[],c=>c
 |k::p,c=>match k,c with
  |0,.seq a _=>BB p a
  |1,.seq _ b=>BB p b
  |2,.cond _ a _=>BB p a
  |3,.cond _ _ b=>BB p b
  |4,.block _ c=>BB p c
  |4,.loop c=>BB p c
  |_,_=>.skip
section
variable {P : Program} {ops : Array Oper}
def Ko(f:Nat->AK):List Nat->Act->Act
 |[],a=>a
 |d::r,a=>Ko f r (a.put (some d) (f d))
theorem Rc(f:Nat->AK)(l:List Nat)(a:Act):(Ko f l a).defers=a.defers:=by
 induction l generalizing a with
 |nil=>rfl
 |cons d r ih=>exact ih _
theorem Wm(f:Nat->AK)(l:List Nat)(a:Act):(Ko f l a).tmps.size=a.tmps.size:=by
 induction l generalizing a with
 |nil=>rfl
 |cons d r ih=>rw[Ko,ih];simp[Act.put]
theorem Rd(f:Nat->AK)(l:List Nat)(a:Act)(k:Nat)(h:k∉l):(Ko f l a).tmps[k]?=a.tmps[k]?:=by
 induction l generalizing a with
 |nil=>rfl
 |cons d r ih=>
  rw[Ko,ih _ (λq=>h (GH _ q))];have:d≠k:=λq=>h (by rw[q];exact Gx);simp[Act.put,Array.getElem?_setIfInBounds,this]
theorem iQ(f:Nat->AK)(l:List Nat)(a:Act)(k:Nat)(h:k∈l)(c:k<a.tmps.size):(Ko f l a).tmps[k]?=some (f k):=by
 induction l generalizing a with
 |nil=>cases h
 |cons d r ih=>
  rw[Ko];by_cases b:k∈r
  ·exact ih _ b (by simp[Act.put];exact c)
  ·have:d=k:=by rcases List.mem_cons.1 h with q|q;exact q.symm;exact absurd q b
   subst this;rw[Rd _ _ _ _ b];simp[Act.put,Array.getElem?_setIfInBounds,c]
def XR(l:List Nat)(b a:Act):Prop:=a.defers=b.defers/\a.tmps.size=b.tmps.size/\∀k,k∉l->a.tmps[k]?=b.tmps[k]?
theorem XR.eq{l:List Nat}{c a:Act}(h:XR l c a):a=Ko (λd=>a.tmps.getD d undef) l c:=by
 obtain⟨i,n,j⟩:=h;have e:a.tmps=(Ko (λd=>a.tmps.getD d undef) l c).tmps:=by
  apply Array.ext_getElem?;intro k;by_cases f:k∈l
  ·by_cases m:k<c.tmps.size
   ·rw[iQ _ _ _ _ f m];have:k<a.tmps.size:=by omega
    simp[Array.getD,this]
   ·rw[Array.getElem?_eq_none (by omega),Array.getElem?_eq_none (by rw[Wm];omega)]
  ·rw[Rd _ _ _ _ f,j k f]
 have g:a.defers=(Ko (λd=>a.tmps.getD d undef) l c).defers:=by rw[Rc];exact i
 generalize Ko (λd=>a.tmps.getD d undef) l c=b at e g;cases a
 cases b
 simp only at e g;rw[e,g]
theorem XR.put{l:List Nat}{b a:Act}(h:XR l b a)(d:Nat)(e:d∈l)(v:AK):XR l b (a.put (some d) v):=by
 obtain⟨f,g,i⟩:=h;refine⟨f,by simpa[Act.put] using g,λk c=>?_⟩;have:d≠k:=λq=>c (by rw[<-q];exact e);rw[<-i k c];simp[Act.put,Array.getElem?_setIfInBounds,this]
end
def Ui(n:Nat):UInt8:=if n<10 then(48+n).toUInt8 else(87+n).toUInt8
def G4:Nat->Nat->List UInt8
 |0,_=>[]
 |k+1,u=>G4 k (u/16)++[Ui (u%16)]
theorem Ea(k u:Nat):(G4 k u).length=k:=by
 induction k generalizing u with
 |zero=>rfl
 |succ k ih=>rw[G4,Dc,ih];rfl
theorem Qg(k u:Nat):G4 (k+1) u=Ui (u/16^k%16)::G4 k u:=by
 induction k generalizing u with
 |zero=>simp[G4]
 |succ k ih=>
  conv=>lhs;unfold G4
  rw[ih (u/16),Nat.div_div_eq_div_mul,<-Nat.pow_succ',List.cons_append];rfl
theorem gJ(k j u:Nat)(h:u<16^k):G4 (k+j) u=List.replicate j 48++G4 k u:=by
 induction j with
 |zero=>rfl
 |succ j ih=>
  rw[<-Nat.add_assoc,Qg,ih];have:u/16^(k+j)=0:=Nat.div_eq_of_lt (DU h (Nat.pow_le_pow_right (by decide) (Nat.le_add_right _ _)));rw[this];rfl
def Tz(W:AA):Prop:=W.cell? ⟨9,15,none⟩=some (.int .u8 4)
theorem YV(n:Nat)(h:n<16):(⟨#[48,49,50,51,52,53,54,55,56,57,97,98,99,100,101,102,103,104,105,106,107,108,109,110,111,112,113,114,115,116,117,118,119,120,121,122]⟩:AB)[n]'(Nat.lt_trans h (by decide))=Ui n:=by
 match n,h with
 |0,_|1,_|2,_|3,_|4,_|5,_|6,_|7,_|8,_|9,_|10,_|11,_|12,_|13,_|14,_|15,_=>rfl
 |n+16,h=>exact absurd h (by omega)
theorem Y7(a:Nat)(h:a<18446744073709551616):bits .and .u64 (a:Int) 15=((a%16:Nat):Int):=by
 have:=bits_and_u64_nat a 15 (by omega) (by decide);rw[show((15:Nat):Int)=15 from rfl] at this;rw[this,show(15:Nat)=2^4-1 from rfl,Nat.and_two_pow_sub_one_eq_mod]
theorem mH(w:AA)(h:Tz w):cE 274 #[.int .u64 16] w (.int .i64 4):=by
 have a:w.cell? ⟨9,15,none⟩=some (.int .u8 4):=h;have b:IntKind.u64.wrap (bits BinOp.and IntKind.u64 16 (IntKind.u64.wrap (-16))*285870213051353865)/288230376151711744=15:=by kernel_rfl
 go_enter func274,ntmps274;go_wp2;go_ret;exact⟨rfl,rfl⟩
def V1(i j U:Nat):Array AK:=(List.replicate i (Value.int .u8 0)++(G4 j U).map λb=>Value.int .u8 (b.toNat:Int)).toArray
theorem QV{W:AA}{k i j U:Nat}(h:W.heap[k]?=some (.cells (V1 i j U) 291))(x:Nat):W.cell? ⟨k,x,none⟩=(V1 i j U)[x]?:=by
 unfold World.cell?;simp[h]
theorem gA{W:AA}{k i j U:Nat}(h:W.heap[k]?=some (.cells (V1 (i+1) j U) 291)):(W.setCell ⟨k,i,none⟩ (.int .u8 ((Ui (U/16^j%16)).toNat:Int))).heap[k]?=some (.cells (V1 i (j+1) U) 291):=by
 have e:(V1 (i+1) j U).setIfInBounds i (.int .u8 ((Ui (U/16^j%16)).toNat:Int))=V1 i (j+1) U:=by
  unfold V1;rw[List.setIfInBounds_toArray,Qg,List.replicate_succ',List.append_assoc,List.set_append_right _ _ (by simp)];simp
 rw[<-e];unfold World.setCell;simp[Array.getElem?_modify,h]
theorem YD{W:AA}{k i j U:Nat}(h:W.heap[k]?=some (.cells (V1 i j U) 291)):(convert 22 9 (.slice (some ⟨k,i,none⟩) j j)).run prog W=.ok (.string ⟨(G4 j U).toArray⟩) W:=by
 have a:=Ea j U;have:=run_convert_bytes_back (P:=prog) W 22 9 5 ⟨k,i,none⟩ j (G4 j U) underlying22 underlying5 underlying9 (λx b=>?_)
 ·rwa[a] at this
 ·rw[show(Addr.add ⟨k,i,none⟩ x)=⟨k,i+x,none⟩ by simp[Addr.add],QV h];unfold V1;rw[List.getElem?_toArray,List.getElem?_append_right (by simp),List.getElem?_map];simp[Dq b]
theorem YG(U:Nat)(g:U<18446744073709551616)(w:AA)(l:Tz w):
 Calls prog 183 #[.int .u64 U,.int .i64 16] w λe B=>(∃k,1<=k/\k<=16/\U<16^k/\e=.returned (.string ⟨(G4 k U).toArray⟩))/\AD w.heap.size w B:=by
 have m:AD w.heap.size w (w.alloc (.cells zeroCells291 291)):=bA;have r:=zq ((m.cell (p:=⟨9,15,none⟩) (World.block_lt_of_cell? _ _ l)).trans l);have s:Hid ((w.alloc (.cells zeroCells291 291)).heap[w.heap.size]?=some (.cells (V1 65 0 U) 291)/\AD w.heap.size w (w.alloc (.cells zeroCells291 291))):=⟨by rw[(MapKept.heap_alloc w _).1];rfl,m⟩;have J:bits .and .i64 16 15=0:=by kernel_rfl
 clear l m;go_enter func183,ntmps183;go_wp2_with (first|(go_at_call 274;refine(mH _ r).mono ?_;rintro e K ⟨rfl,rfl⟩)|go_in);generalize (w.alloc (.cells zeroCells291 291))=L at*
 go_loopw [1,13] (λu x wr=>∃i j:Nat,i+j=65/\j<=15/\u=.int .u64 ((U/16^j:Nat):Int)/\x=.int .i64 (i:Int)/\Hid (wr.heap[w.heap.size]?=some (.cells (V1 i j U) 291)/\AD w.heap.size w wr)) (λu _ _=>(intOf u).toNat);case atStart=>exact⟨65,0,rfl,by omega,by simp,rfl,s⟩
 case round=>
  clear s r;obtain⟨i,j,t,v,rfl,rfl,b⟩:=hrel;obtain⟨a,c⟩:∃a,i=a+1:=⟨i-1,by omega⟩;have n:Hid ((wr.setCell ⟨w.heap.size,a,none⟩ (.int .u8 ((Ui (U/16^j%16)).toNat:Int))).heap[w.heap.size]?=some (.cells (V1 a (j+1) U) 291)/\AD w.heap.size w (wr.setCell ⟨w.heap.size,a,none⟩ (.int .u8 ((Ui (U/16^j%16)).toNat:Int)))):=by
   rw[c] at b;exact⟨gA b.1,b.2.setCell (AS _) _⟩
  have C:Hid (U/16^(j+1)=U/16^j/16):=by rw[Hid,Nat.pow_succ,Nat.div_div_eq_div_mul]
  have o:U/16^j<18446744073709551616:=Nat.lt_of_le_of_lt (Nat.div_le_self _ _) g;have M:IntKind.i64.wrap ((i:Int)-1)=(a:Int):=Dn (by omega);have N:=Y7 (U/16^j) o;have D:U/16^j%16<16:=Nat.mod_lt _ (by decide);have O:wr.cell? ⟨w.heap.size,a,none⟩=some (.int .u8 0):=by
   rw[QV b.out.1,c];unfold V1;rw[List.getElem?_toArray,List.getElem?_append_left (by simp)];simp
  have P:wr.frozen? ⟨w.heap.size,a,none⟩=false:=by unfold World.frozen?;simp only[b.out.1];simp
  have Q:(a:Int)<65:=by omega
  have R:(a:Int)<=65:=by omega
  by_cases f:16<=U/16^j
  ·have E:j<=14:=by
    rcases Nat.lt_or_ge j 15 with h|h
    ·omega
    ·obtain rfl:j=15:=by omega
     omega
   have y:Hid (a+(j+1)=65/\j+1<=15):=⟨by omega,by omega⟩;generalize U/16^j=u at*
   have F:(16:Int)<=(u:Int):=by omega
   have S:(u:Int)<18446744073709551616:=by omega
   have G:Hid ((u:Int)/16<(u:Int)):=by show _<_;omega
   generalize u%16=d at*
   have H:=YV d D;have I:(d:Int)<36:=by omega
   clear t c g f o b v E;go_wp2;go_roundw;case rel=>exact⟨a,j+1,y.1,y.2,by rw[C];rfl,rfl,n⟩
   case measure=>have:=G.out;simp only[intOf];omega
  ·have z:Hid (U<16^(j+1)/\j+1<=16):=⟨by
    have h:=Nat.lt_of_not_le f;rw[Nat.pow_succ];exact(Nat.div_lt_iff_lt_mul (Nat.pow_pos (by decide))).1 h|>λq=>by rw[Nat.mul_comm];exact q,by omega⟩
   have A:=Nat.lt_of_not_le f;rw[Nat.mod_eq_of_lt A] at*
   have T:=YD n.1;have V:65-a=j+1:=by omega
   generalize U/16^j=u at*
   have F:¬(16:Int)<=(u:Int):=by omega
   have H:=YV u A;have I:(u:Int)<36:=by omega
   generalize W:(wr.setCell ⟨w.heap.size,a,none⟩ (.int .u8 ((Ui u).toNat:Int)))=X at*
   clear t c g f o b v;go_wp2;go_ret;exact⟨⟨j+1,by omega,z.2,z.1,rfl⟩,n.2⟩
def oN(l:List UInt8):AB:=⟨l.toArray⟩
def Dp(c:UInt8)(s:AB):List AB:=(Gq c s.data.toList).map oN
theorem l7(c:UInt8)(a:List UInt8)(h:∀x∈a,x≠c):Gq c a=[a]:=by
 induction a with
 |nil=>rfl
 |cons b l ih=>
  unfold Gq;rw[zyn (h b Gx),ih (λx d=>h x (GH _ d))]
theorem l6(c:UInt8)(a r:List UInt8)(h:∀x∈a,x≠c):Gq c (a++c::r)=a::Gq c r:=by
 induction a with
 |nil=>rw[List.nil_append];conv=>lhs;unfold Gq
       rw[zyp rfl]
 |cons b l ih=>
  rw[List.cons_append]
  conv=>lhs;unfold Gq
  rw[zyn (h b Gx),ih (λx d=>h x (GH _ d))]
theorem LC(c:UInt8)(s:AB):(Dp c s).length<=s.size+1:=by
 have h:s.data.toList.length=s.size:=Array.length_toList;unfold Dp;rw[List.length_map,Pi,<-h];exact Nat.succ_le_succ List.count_le_length
def NI(c:UInt8)(s:AB)(q p:Nat)(a:List AB):Prop:=p<=q/\q<=s.size/\a++(Gq c (s.data.toList.drop p)).map oN=Dp c s/\∀x∈(s.data.toList.drop p).take (q-p),x≠c
theorem NI.start(c:UInt8)(s:AB):NI c s 0 0 []:=⟨AS _,B9 _,by rw[List.drop_zero];rfl,by simp⟩
theorem NI.len{c:UInt8}{s:AB}{q p:Nat}{a:List AB}(h:NI c s q p a):a.length<=s.size:=by
 have b:=congrArg List.length h.2.2.1;rw[Dc,List.length_map,Pi] at b;have:=LC c s;omega
theorem Up(s:AB)(p q:Nat)(a:p<=q):oN ((s.data.toList.drop p).take (q-p))=s.extract p q:=by
 apply De;rw[ByteArray.data_extract];apply Array.ext';rw[Array.toList_extract];rfl
theorem Xv(s:AB)(q:Nat)(a:q<s.size):s.data.toList.drop q=s[q]::s.data.toList.drop (q+1):=by
 have b:q<s.data.toList.length:=by rw[Array.length_toList];exact a
 rw[List.drop_eq_getElem_cons b];rfl
theorem NI.cut{c:UInt8}{s:AB}{q p:Nat}{a:List AB}(h:NI c s q p a):s.data.toList.drop p=(s.data.toList.drop p).take (q-p)++s.data.toList.drop q:=by
 conv=>lhs;rw[<-List.take_append_drop (q-p) (s.data.toList.drop p)]
 rw[List.drop_drop,show p+(q-p)=q by have:=h.1;omega]
theorem NI.hit{c:UInt8}{s:AB}{q p:Nat}{a:List AB}(h:NI c s q p a)(b:q<s.size)(d:s[q]=c):NI c s (q+1) (q+1) (a++[s.extract p q]):=by
 refine⟨AS _,b,?_,by simp⟩;rw[<-h.2.2.1,h.cut,Xv s q b,d,l6 _ _ _ h.2.2.2,List.map_cons,Up s p q h.1,List.append_assoc];rfl
theorem NI.skip{c:UInt8}{s:AB}{q p:Nat}{b:List AB}(h:NI c s q p b)(d:q<s.size)(f:s[q]≠c):NI c s (q+1) p b:=by
 refine⟨by have:=h.1;omega,d,h.2.2.1,λx a=>?_⟩;have i:=h.1;have e:(s.data.toList.drop p).take (q+1-p)=(s.data.toList.drop p).take (q-p)++[s[q]]:=by
  rw[show q+1-p=(q-p)+1 by omega,List.take_add_one,List.getElem?_drop,show p+(q-p)=q by omega];have g:q<s.data.toList.length:=by rw[Array.length_toList];exact d
  rw[Dq g];rfl
 rw[e] at a;rcases List.mem_append.1 a with a|a
 ·exact h.2.2.2 x a
 ·rw[List.mem_singleton.1 a];exact f
theorem NI.fin{c:UInt8}{s:AB}{p:Nat}{a:List AB}(h:NI c s s.size p a):a++[s.extract p s.size]=Dp c s:=by
 have d:s.data.toList.drop s.size=[]:=List.drop_eq_nil_of_le (by rw[Array.length_toList];exact AS _);have b:=h.cut;rw[d,List.append_nil] at b;rw[<-h.2.2.1,b,l7 _ _ h.2.2.2,List.map_cons,Up s p s.size h.1];rfl
theorem Uz(c:UInt8)(s:AB):(Dp c s).map (λx=>x.data.toList)=Gq c s.data.toList:=by
 unfold Dp;rw[List.map_map]
 conv=>rhs;rw[<-List.map_id (Gq c s.data.toList)]
 rfl
theorem RY(c:UInt8)(s:AB):∀x∈Dp c s,x.size<=s.size:=by
 suffices h:∀l:List UInt8,∀x∈Gq c l,x.length<=l.length by
  intro x a;obtain⟨y,d,rfl⟩:=List.mem_map.1 a;have:=h _ y d;rw[Array.length_toList] at this;exact this
 intro l;induction l with
 |nil=>intro x a;rw[show Gq c []=[[]] from rfl,List.mem_singleton] at a;rw[a];exact AS _
 |cons b l ih=>
  intro x a;unfold Gq at a;rw[List.length_cons];split at a
  ·rcases List.mem_cons.1 a with rfl|a
   ·exact B9 _
   ·exact Nat.le_succ_of_le (ih x a)
  ·cases hs:Gq c l with
   |nil=>exact absurd hs (T4 c l)
   |cons p e=>
    rw[hs] at a ih;rcases List.mem_cons.1 a with rfl|a
    ·exact Nat.succ_le_succ (ih p Gx)
    ·exact Nat.le_succ_of_le (ih x (GH _ a))
end Go.Proofs.YteofommckgeemaaGreatDoor
namespace Go.Proofs.YteofommckgeemaaGreatDoor
open Go.ChangeShapes Go.WideShapes Go.ChangeAt Go.RowKit Go.Proofs.Tryz
set_option linter.unusedVariables false
set_option linter.unusedSimpArgs false
set_option maxRecDepth 100000
set_option maxHeartbeats 8000000
def jk:Go.Shelf.Ren:=⟨λx=>x,λn=>if n=5 then 5 else if n=119 then 304 else if n=138 then 306 else 307,λn=>if n=3 then 4 else 5⟩
theorem jF:Go.Proofs.U8Types prog jk:=⟨by kernel_rfl,by kernel_rfl,by kernel_rfl,by kernel_rfl⟩
theorem jD:Go.Proofs.U8Extra prog jk:=⟨by kernel_rfl,by kernel_rfl,by kernel_rfl,by kernel_rfl,by kernel_rfl,by kernel_rfl,by kernel_rfl⟩
theorem jE:Rows.laid_unicode_utf8_first=Go.Lib.firstData:=by kernel_rfl
theorem eW:(Rows.laid_unicode_utf8_acceptRanges:DataW Unit)=Go.Lib.acceptData:=by kernel_rfl
theorem eY{W:AA}{l:List (String×DataW Unit)}(h:laidMet prog l W)(c:("unicode/utf8.first",Rows.laid_unicode_utf8_first)∈l)(d:("unicode/utf8.acceptRanges",(Rows.laid_unicode_utf8_acceptRanges:DataW Unit))∈l):Lib.Utf8Tabs 4 5 W:=by
 have a:=Lib.laidMet.reads h c;have b:=Lib.laidMet.reads h d;rw[jE] at a;rw[eW] at b;exact Go.Proofs.utf8Tabs_of_readsT jF jD a b
end Go.Proofs.YteofommckgeemaaGreatDoor
