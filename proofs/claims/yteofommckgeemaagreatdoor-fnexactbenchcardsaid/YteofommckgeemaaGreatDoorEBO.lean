/- Steps. -/
import Derived.Test.YteofommckgeemaaGreatDoorEAV
namespace Go.Proofs.YteofommckgeemaaGreatDoor
open Go.RowKit Go.Proofs.Tryz
set_option linter.unusedVariables false
set_option linter.unusedSimpArgs false
set_option maxRecDepth 100000
set_option maxHeartbeats 8000000
theorem YN{T e:TypeId}{B b d:Nat}{a:List AK}{W c:AA}(h:Lib.IsBuilderF T e B b a W)(f:W.grownBy c (some d))(n:d<B):Lib.IsBuilderF T e B b a c:=by
 have g:∀p,Lib.BuilderAtF T e B b p a W->Lib.BuilderAtF T e B b p a c:=λp h=>by
  have j:=h.lt;obtain⟨k,v,l,i,m⟩:=h;exact⟨k,v,(f.block b j (λq=>by have:=Gy q;omega)).trans l,i.kept f (.inr λq=>by have:=(i.lt _ q).1;omega),m⟩
 exact h.elim (λx=>.inl (g _ x)) (λx=>.inr (g _ x))
theorem Kt.oth{W c:AA}{b:Nat}{cs:Array AK}{fr:Nat×Nat}(h:Lib.OthersKept 5 (some b) W c)(d:W.heap[b]?=some (.cells cs 37 fr)):Kt W c:=λk o a x y z=>by
 refine h k o a (λq=>?_) x;have:=Gy q;subst this;rw[d] at a;exact y _ _ (Gy a).symm
theorem UM{B b:Nat}{c:List AK}{W:AA}(h:Lib.IsBuilderF 37 5 B b c W):∃cs fr,W.heap[b]?=some (.cells cs 37 fr):=by
 rcases h with⟨_,v,a,_⟩|⟨_,v,a,_⟩
 ·exact⟨_,_,a⟩
 ·exact⟨_,_,a⟩
def VW(w b:AA)(m a B:Nat)(c:Int)(o:List UInt8)(X:AA):Prop:=Kt b X/\BF X m a/\St X a 64 1 c/\Lib.IsBuilderF 37 5 B B (Lib.byteCells o) X/\AD w.heap.size w X/\B<=X.heap.size
theorem VW.say{w d X c:AA}{m a B:Nat}{g e:Int}{o:List UInt8}(h:VW w d m a B g o X)(i:St c a 64 1 e)(b:X.grownBy c (some a))(j:a<B)(k:w.heap.size<=a):VW w d m a B e o c:=by
 obtain⟨l,n,p,q,r,s⟩:=h;have f:=Kt.of b p;exact⟨l.trans f,n.next f,i,YN q b j,Fd r b k,DT s b.size⟩
theorem VW.put{w d X e:AA}{m b B:Nat}{f:Int}{o:List UInt8}{a:AB}(h:VW w d m b B f o X)(i:fL B B (Lib.byteCells o++Lib.strCells a) X e)(j:b<B)(k:w.heap.size<=B):VW w d m b B f (o++a.data.toList) e:=by
 obtain⟨l,n,p,q,r,s⟩:=h;obtain⟨t,c,u⟩:=i;obtain⟨cs,fr,v⟩:=UM q;have g:=Kt.oth u v;refine⟨l.trans g,n.next g,(c.block b j).trans p,.inr ?_,r.trans (c.mono k),DT s c.size⟩;rw[Lib.byteCells_append];exact t
end Go.Proofs.YteofommckgeemaaGreatDoor
