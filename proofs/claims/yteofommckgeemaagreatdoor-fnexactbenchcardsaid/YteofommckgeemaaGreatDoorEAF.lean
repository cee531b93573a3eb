/- Steps. -/
import Derived.Test.YteofommckgeemaaGreatDoorEAA
namespace Go.Proofs.YteofommckgeemaaGreatDoor
open Go.RowKit Go.Extern.Stop Go.Stop Go.Extern Go.Proofs.Tryz
set_option linter.unusedVariables false
set_option linter.unusedSimpArgs false
set_option maxRecDepth 100000
set_option maxHeartbeats 8000000
abbrev Jm(s:AB)(c:Int):AK:=.iface 213 (.agg #[.string s,.iface 70 (.agg #[.int .i64 c])])
theorem Cy(s:AB)(c:Int)(w:AA):cE 109 #[.string s,.int .i64 c] w (Jm s c):=by
 go_enter func109,ntmps109;go_wp2;go_ret;exact⟨rfl,rfl⟩
abbrev XO(T:Nat):AK:=.pointer (some ⟨12,T,none⟩)
abbrev fI(T:Nat):AK:=.iface 215 (.agg #[XO T])
abbrev XM(T:Nat)(a:Addr)(f:Int):AK:=.agg #[XO T,.pointer (some a),.int .u64 f]
theorem nU(t:Addr)(w:AA):(ReflectliteValue.unpack (.iface 72 (.pointer (some t)))).run prog w=.ok (XM 72 ⟨w.heap.size,0,none⟩ 150) (w.alloc (.cells #[.pointer (some t)] 72)):=by kernel_rfl
theorem lg(v:Int)(w:AA):(ReflectliteValue.unpack (.iface 70 (.agg #[.int .i64 v]))).run prog w=.ok (XM 70 ⟨w.heap.size,0,none⟩ 153) (w.alloc (.cells #[.int .i64 v] 70)):=by kernel_rfl
theorem iX(a:Addr)(w:AA):(ReflectliteValue.methodAny (ReflectliteValue.valueError "reflectlite.Value.Type" 0) (λt _ _ _=>ReflectliteType.toType t) #[XM 72 a 150]).run prog w=.ok (fI 72) w:=by kernel_rfl
theorem nP(h:AK)(w:AA):(Go.method 476 215 (.agg #[h]) "Kind").run prog w=.ok (357,h) w:=by kernel_rfl
theorem nN(h:AK)(w:AA):(Go.method 476 215 (.agg #[h]) "Elem").run prog w=.ok (379,.agg #[h]) w:=by kernel_rfl
theorem nO(h:AK)(w:AA):(Go.method 476 215 (.agg #[h]) "Implements").run prog w=.ok (380,.agg #[h]) w:=by kernel_rfl
theorem nM(h:AK)(w:AA):(Go.method 476 215 (.agg #[h]) "AssignableTo").run prog w=.ok (377,.agg #[h]) w:=by kernel_rfl
theorem nQ(h:AK)(w:AA):(Go.method 476 213 h "Unwrap").run prog w=.ok (375,h) w:=by kernel_rfl
theorem nJ(w:AA):((ReflectliteType.abiMethod λt=>(λa:Nat=>Value.int IntKind.u8 (a:Int))<$>Rtype.kind t) #[XO 72]).run prog w=.ok (.int .u8 22) w:=by kernel_rfl
theorem nI(w:AA):((ReflectliteType.abiMethod λt=>(λa:Nat=>Value.int IntKind.u8 (a:Int))<$>Rtype.kind t) #[XO 70]).run prog w=.ok (.int .u8 25) w:=by kernel_rfl
theorem nK(z:Sem AK)(f:TypeId->Addr->Nat->Nat->Sem AK)(v:AK):
 ReflectliteValue.method z f #[v]=(do match<-ReflectliteValue.parts v with|none=>z|some (t,a,fl)=>f t a fl (fl%32)):=rfl
theorem jh(a:Addr)(w:AA):(ReflectliteValue.parts (XM 72 a 150)).run prog w=.ok (some (72,a,150)) w:=by kernel_rfl
theorem lf(a p:Addr)(W:AA)(b:W.cell? a=some (.pointer (some p))):(ReflectliteValue.method (ReflectliteValue.valueError "reflectlite.Value.IsNil" 0) ReflectliteValue.isNil #[XM 72 a 150]).run prog W=.ok (.bool false) W:=by
 rw[nK];simp only[Sem.run_bind,jh,Result.andThen];simp[ReflectliteValue.isNil,loadVar,isAgg,underlying,underlying72,b,Result.andThen]
theorem lV(w:AA):(ReflectliteType.method ReflectliteType.elem #[.agg #[XO 72]]).run prog w=.ok (fI 70) w:=by kernel_rfl
theorem ld(w:AA):(ReflectliteType.relation "Implements" ReflectliteType.implements_ #[.agg #[XO 70],fI 39]).run prog w=.ok (.bool true) w:=by kernel_rfl
theorem lk(v:AK)(w:AA):(ReflectliteType.typeOf #[.iface 213 v]).run prog w=.ok (fI 213) w:=by kernel_rfl
theorem lj(v:AK)(w:AA):(ReflectliteType.typeOf #[.iface 70 v]).run prog w=.ok (fI 70) w:=by kernel_rfl
theorem lP(w:AA):(ReflectliteType.relation "AssignableTo" ReflectliteType.assignableTo #[.agg #[XO 213],fI 70]).run prog w=.ok (.bool false) w:=by kernel_rfl
theorem lO(w:AA):(ReflectliteType.relation "AssignableTo" ReflectliteType.assignableTo #[.agg #[XO 70],fI 70]).run prog w=.ok (.bool true) w:=by kernel_rfl
theorem lc(w:AA):(Rtype.elem? 72).run prog w=.ok (some 70) w:=by kernel_rfl
theorem nT(p:Addr)(w:AA):(ReflectliteValue.mk 70 p ReflectliteValue.flagAddr).run prog w=.ok (XM 70 p 409) w:=by kernel_rfl
theorem lW(a p:Addr)(W:AA)(b:W.cell? a=some (.pointer (some p))):
 (ReflectliteValue.method (ReflectliteValue.valueError "reflectlite.Value.Elem" 0) ReflectliteValue.elem #[XM 72 a 150]).run prog W=.ok (XM 70 p 409) W:=by
 rw[nK];simp only[Sem.run_bind,jh,Result.andThen];simp[ReflectliteValue.elem,loadVar,isAgg,underlying,underlying72,b,Result.andThen,lc,nT]
theorem oU(v x:AK):ReflectliteValue.set #[v,x]=(do
 let (some (dst,a,fl),some (src,b,_)):=(<-ReflectliteValue.parts v,<-ReflectliteValue.parts x)
  |unsupported (.noEntry "extern/(internal/reflectlite.Value).Set.zeroValue")
 if fl/ReflectliteValue.flagAddr%2==0 then unsupported (.noEntry "extern/(internal/reflectlite.Value).Set.unaddressable")
 let val<-loadVar src b
 if<-Rtype.directlyAssignable dst src then storeVar dst a val
 else if<-Rtype.implements dst src then
  if (<-Rtype.kind src)==20 then
   match val with
   |.nilIface=>unsupported (.noEntry "extern/reflectlite: a nil value of one interface type handed on as a value of another")
   |_=>storeVar dst a val
  else storeVar dst a (.iface src val)
 else panicString ("reflectlite.Set: value of type "++(<-Rtype.spelt src)++ " is not assignable to type "++(<-Rtype.spelt dst))
 pure (.tuple #[])):=rfl
theorem nV(a:Addr)(w:AA):(ReflectliteValue.parts (XM 70 a 409)).run prog w=.ok (some (70,a,409)) w:=by kernel_rfl
theorem nW(a:Addr)(w:AA):(ReflectliteValue.parts (XM 70 a 153)).run prog w=.ok (some (70,a,153)) w:=by kernel_rfl
theorem lU(w:AA):(Rtype.directlyAssignable 70 70).run prog w=.ok true w:=by kernel_rfl
theorem li(a b:Addr)(c:Int)(d:AK)(W:AA)(e:W.cell? b=some (.int .i64 c))(f:W.cell? a=some d)(g:W.frozen? a=false):
 (ReflectliteValue.set #[XM 70 a 409,XM 70 b 153]).run prog W=.ok (.tuple #[]) (W.setCell a (.int .i64 c)):=by
 have i:(loadVar 70 b).run prog W=.ok (.agg #[.int .i64 c]) W:=by
  have h:=run_loadCells_list (w:=W) (P:=prog) b [.int .i64 c] (λj v h=>by
   rcases j with _|j
   ·cases h;simpa[Addr.add] using e
   ·simp at h)
  simp only[List.length_cons,List.length_nil,Nat.zero_add] at h;simp[loadVar,isAgg,underlying,underlying70,Result.andThen,h]
 have k:(storeVar 70 a (.agg #[.int .i64 c])).run prog W=.ok () (W.setCell a (.int .i64 c)):=by
  have l:(store a (.int .i64 c)).run prog W=.ok () (W.setCell a (.int .i64 c)):=by
   rw[run_store prog W a _ _ (by rfl)];simp[f,g]
  simp[storeVar,Value.cells,storeCells,Addr.add,l]
 rw[oU];simp only[Sem.run_bind,nV,nW,Result.andThen];simp[ReflectliteValue.flagAddr,i,Result.andThen,lU,k]
theorem j3(s:AB)(c:Int)(t:Nat)(w:AA)(C:w.cell? ⟨0,0,none⟩=some (fI 39))(q:w.heap[t]?=some (.cells #[.int .i64 0] 70)):
 Calls prog 44 #[Jm s c,.iface 72 (.pointer (some ⟨t,0,none⟩))] w λe D=>e=.returned (.bool true)/\D.cell? ⟨t,0,none⟩=some (.int .i64 c)/\w.grownBy D (some t):=by
 have Q:=@run_callFunc_extern prog 110 _ (λargs=>ReflectliteValue.unpack (args.getD 0 (.tuple #[]))) func110 (by kernel_rfl) (by kernel_rfl) (by kernel_rfl) (by kernel_rfl);have R:=@run_callFunc_extern prog 111 _ (ReflectliteValue.methodAny (ReflectliteValue.valueError "reflectlite.Value.Type" 0) (λt _ _ _=>ReflectliteType.toType t)) func111 (by kernel_rfl) (by kernel_rfl) (by kernel_rfl) (by kernel_rfl);have S:=@run_callFunc_extern prog 112 _ (ReflectliteValue.method (ReflectliteValue.valueError "reflectlite.Value.IsNil" 0) ReflectliteValue.isNil) func112 (by kernel_rfl) (by kernel_rfl) (by kernel_rfl) (by kernel_rfl);have T:=@run_callFunc_extern prog 357 _ (ReflectliteType.abiMethod λt=>do pure (.int .u8 (<-Rtype.kind t))) func357 (by kernel_rfl) (by kernel_rfl) (by kernel_rfl) (by kernel_rfl);have U:=@run_callFunc_extern prog 379 _ (ReflectliteType.method ReflectliteType.elem) func379 (by kernel_rfl) (by kernel_rfl) (by kernel_rfl) (by kernel_rfl);have V:=@run_callFunc_extern prog 380 _ (ReflectliteType.relation "Implements" ReflectliteType.implements_) func380 (by kernel_rfl) (by kernel_rfl) (by kernel_rfl) (by kernel_rfl);have X:=@run_callFunc_extern prog 185 _ ReflectliteType.typeOf func185 (by kernel_rfl) (by kernel_rfl) (by kernel_rfl) (by kernel_rfl);have Y:=@run_callFunc_extern prog 377 _ (ReflectliteType.relation "AssignableTo" ReflectliteType.assignableTo) func377 (by kernel_rfl) (by kernel_rfl) (by kernel_rfl) (by kernel_rfl);have Z:=@run_callFunc_extern prog 186 _ (ReflectliteValue.method (ReflectliteValue.valueError "reflectlite.Value.Elem" 0) ReflectliteValue.elem) func186 (by kernel_rfl) (by kernel_rfl) (by kernel_rfl) (by kernel_rfl);have h9:=@run_callFunc_extern prog 187 _ ReflectliteValue.set func187 (by kernel_rfl) (by kernel_rfl) (by kernel_rfl) (by kernel_rfl);have e0:=nU;have e1:=lg;have e2:=iX;have e3:=nP;have e4:=nN;have e5:=nO;have e6:=nM;have e7:=nQ;have e8:=nJ;have e9:=nI;have ea:=lV;have eb:=ld;have ec:=lk;have ed:=lj;have ee:=lP;have ef:=lO;have z:t<w.heap.size:=(Array.getElem?_eq_some_iff.1 q).1;have E:w.cell? ⟨t,0,none⟩=some (.int .i64 0):=by simp[World.cell?,q]
 have ar:w.frozen? ⟨t,0,none⟩=false:=by unfold World.frozen?;simp only[q];simp
 have au:0<w.heap.size:=by omega
 have K:0<w.heap.size:=by
  rcases Nat.lt_or_ge 0 w.heap.size with h|h
  ·exact h
  ·simp[World.cell?,Array.getElem?_eq_none h] at C
 generalize r:w.alloc (.cells #[.pointer (some ⟨t,0,none⟩)] 72)=F at*
 have g:F.heap.size=w.heap.size+1:=by rw[<-r];simp
 generalize b:F.alloc (.cells #[XO 72,.pointer (some ⟨w.heap.size,0,none⟩),.int .u64 150] 141)=a at*
 have n:a.heap.size=w.heap.size+1+1:=by rw[<-b];simp[g]
 have A:a.cell? ⟨w.heap.size,0,none⟩=some (.pointer (some ⟨t,0,none⟩)):=by
  rw[<-b,World.cell?_alloc_lt _ _ ⟨w.heap.size,0,none⟩ (by simp[g]),<-r];simp
 have d0:a.cell? ⟨w.heap.size+1,0,none⟩=some (XO 72):=by rw[<-b,<-g];simp
 have d1:a.cell? ⟨w.heap.size+1,1,none⟩=some (.pointer (some ⟨w.heap.size,0,none⟩)):=by rw[<-b,<-g];simp
 have d2:a.cell? ⟨w.heap.size+1,2,none⟩=some (.int .u64 150):=by rw[<-b,<-g];simp
 have n8:=lf ⟨w.heap.size,0,none⟩ ⟨t,0,none⟩ a A;have az:a.cell? ⟨0,0,none⟩=some (fI 39):=by
  rw[<-b,World.cell?_alloc_lt _ _ ⟨0,0,none⟩ (by simp[g]),<-r,World.cell?_alloc_lt _ _ ⟨0,0,none⟩ K];exact C
 generalize j:a.alloc (.cells #[XO 72,.pointer (some ⟨w.heap.size,0,none⟩),.int .u64 150] 141)=d at*
 have B:d.heap.size=w.heap.size+1+1+1:=by rw[<-j];simp[n]
 have L:d.cell? ⟨w.heap.size+1+1,0,none⟩=some (XO 72):=by rw[<-j,<-n];simp
 have M:d.cell? ⟨w.heap.size+1+1,1,none⟩=some (.pointer (some ⟨w.heap.size,0,none⟩)):=by rw[<-j,<-n];simp
 have N:d.cell? ⟨w.heap.size+1+1,2,none⟩=some (.int .u64 150):=by rw[<-j,<-n];simp
 generalize u:d.alloc (.cells #[.string s,.iface 70 (.agg #[.int .i64 c])] 213)=l at*
 have O:l.heap.size=w.heap.size+1+1+1+1:=by rw[<-u];simp[B]
 have b1:l.cell? ⟨w.heap.size+1+1+1,1,none⟩=some (.iface 70 (.agg #[.int .i64 c])):=by rw[<-u,<-B];simp
 have o:∀k i,k<w.heap.size+1+1+1->l.cell? ⟨k,i,none⟩=d.cell? ⟨k,i,none⟩:=λk i f=>by rw[<-u];exact World.cell?_alloc_lt _ _ ⟨k,i,none⟩ (by rw[B];exact f)
 have G:∀k i,k<w.heap.size+1+1->d.cell? ⟨k,i,none⟩=a.cell? ⟨k,i,none⟩:=λk i f=>by rw[<-j];exact World.cell?_alloc_lt _ _ ⟨k,i,none⟩ (by rw[n];exact f)
 have H:l.cell? ⟨w.heap.size,0,none⟩=some (.pointer (some ⟨t,0,none⟩)):=by rw[o _ _ (by omega),G _ _ (by omega)];exact A
 have el:=lW ⟨w.heap.size,0,none⟩ ⟨t,0,none⟩ l H;have q0:=(o (w.heap.size+1+1) 0 (by omega)).trans L;have q1:=(o (w.heap.size+1+1) 1 (by omega)).trans M;have q2:=(o (w.heap.size+1+1) 2 (by omega)).trans N;generalize I:l.alloc (.cells #[.int .i64 c] 70)=J at*
 have y:AD w.heap.size w J:=by
  rw[<-I,<-u,<-j,<-b,<-r];exact((bA.alloc (by simp) _).alloc (by simp;omega) _|>.alloc (by simp;omega) _).alloc (by simp;omega) _
 have st:=li ⟨t,0,none⟩ ⟨w.heap.size+1+1+1+1,0,none⟩ c (.int .i64 0) J (by rw[<-I,<-O];simp) ((y.cell z).trans E) (by have:=y.block t z;unfold World.frozen?;rw[this];simp only[q];simp);have m:=zq y;clear G o A H y;have t1:∀(v:AK) (x:TypeId) (W:AA),(Instr.typeAssert (.iface 213 v) x 220 true).run prog W=.ok (.tuple #[.nilIface,.bool false]) W:=λv x W=>run_typeAssert_lacksB underlying220 (by kernel_rfl) (by kernel_rfl) v x W;have t2:∀(v:AK) (x:TypeId) (W:AA),(Instr.typeAssert (.iface 213 v) x 223 true).run prog W=.ok (.tuple #[.iface 213 v,.bool true]) W:=λv x W=>run_typeAssert_hasB underlying223 (by kernel_rfl) v x W;go_enter func44,ntmps44;go_wp2;refine wp_loop_rounds 2 ?_;rw[rounds_succ];go_wp2;rw[rounds_succ];go_wp2;go_ret;have P:=(m.cell (p:=⟨t,0,none⟩) z).trans E;exact⟨rfl,by simp[World.cell?_setCell_same,P],World.grownBy.trans ⟨m.os,m.tape,m.output,m.size,λk f _=>m.block k f⟩ ⟨rfl,rfl,rfl,by simp,λk _ f=>Below.heap_setCell _ _ _ k (λe=>f (by rw[e]))⟩⟩
end Go.Proofs.YteofommckgeemaaGreatDoor
