/- Steps. -/
import Derived.Test.YteofommckgeemaaGreatDoorEBD
namespace Go.Proofs.YteofommckgeemaaGreatDoor
open Go.RowKit Go.Proofs.Tryz
set_option linter.unusedVariables false
set_option maxRecDepth 100000
set_option maxHeartbeats 8000000
theorem QF(k:Int)(b:Bool)(e:Int)(s:AB)(w:AA):(Instr.build 90 #[(0,AH k b e s)]).run prog w=.ok (BA k b e s 0) w:=run_build w _ _ _ (by kernel_rfl)
theorem Qj{T:TypeId}{f:Int}{P:Nat}{m n:Int}(o:Fm T f P m n)(i:Int)(u:1<=i/\i<=5)(neg:Bool)(e b:Int)(w:AA)(v:-200000<=e/\e<=200000)(x:-200000<=b/\b<=200000):
 cB 88 #[.int .i64 f,.int .i64 i,.bool neg,.string {data:=#[48]},.int .i64 e,.bool false,.int .i64 b] w (BA 1 neg (min (max b m) n) {data:=#[48]} 0):=by
 have M:=o.num;obtain⟨Fn,I,J,y⟩:=D9 i u;have z:=zq y;clear J y I u;have A:Hid (cF 162 #[.string {data:=#[48]}] (.bool true)):=λX=>by
  have:=A0 (tx [0]) X (by rw[AE];decide);rwa[D2 200 [0] Az (by decide),show tx [0]={data:=#[48]} by apply De;rw[AR];rfl] at this
 have B:=zq λX=>G5 e X v;have C:=zq λX=>G5 b X x;have c:Hid (Z5 (w.alloc A2) w.heap.size/\AD w.heap.size w (w.alloc A2)):=⟨Af w _ _ _ _ _,bA⟩;obtain⟨K,j⟩:=zxe (max b m);obtain⟨k,l⟩:=zxe (min K n);rw[j,l];have D:=Ab j l;clear j l v x;rcases o.cases with⟨rfl,L,E,F⟩|⟨rfl,L,E,F⟩
 all_goals
  go_enter func88,ntmps88;go_wp2_with fail;refine ce (OW o _) ?_;go_wp2_with fail;refine cm (z _) λa p=>?_;have d:=Ab (c.1.below p c.1.lt) (c.2.trans (p.mono c.2.size));clear p c z;have G:=Gb a (.cells #[.nilFunc] 177);have H:(#[DF Fn]:Array AK).all (·.oneCell')=true:=by simp[Value.oneCell']
  go_wp2_with (refine wpList_store_row rfl 177 (.tmp 17) (.tmp 32) rfl a.heap.size #[DF Fn] rfl rfl _ _ G (by kernel_rfl) rfl H ?_);have q:AD a.heap.size a ((a.alloc (.cells #[.nilFunc] 177)).setRow a.heap.size #[DF Fn]):=AC bA (AS _) _;have g:=Ab (d.1.below q d.1.lt) (d.2.trans (q.mono d.2.size));generalize (a.alloc (.cells #[.nilFunc] 177)).setRow a.heap.size #[DF Fn]=N at*
  clear G H q d;generalize a.heap.size=O at*
  refine ce (A _) ?_;go_wp2_with fail;refine ce (B _) ?_;go_wp2_with fail;refine ce (C _) ?_;clear A B C;go_wp2_with fail;refine cm (E _) λQ r=>?_;have h:=Ab (g.1.below r g.1.lt) (g.2.trans (r.mono g.2.size));clear r g;have j:=D.1;go_wp2_with fail;refine cm (F _) λR s=>?_;have t:=Ab (h.1.below s h.1.lt) (h.2.trans (s.mono h.2.size));clear s h;have l:=D.2;have S:=Cp 1 neg k {data:=#[48]};have U:=QF 1 neg k {data:=#[48]};go_wp2_with (refine sR t.1 1 neg k {data:=#[48]} 0 ?_);refine rR (A1 t.1 1 neg k {data:=#[48]} 0) ?_;exact⟨rfl,AC t.2 (AS _) _⟩
theorem GS(f b:Int)(c:f=64\/f=128)(g:1<=b/\b<=5)(neg:Bool)(d:AG)(e a:Int)(w:AA)(n:AJ d)(o:d.length<=200)(i:-200000<=e/\e<=200000)(j:-200000<=a/\a<=200000):
 cB 88 #[.int .i64 f,.int .i64 b,.bool neg,.string (tx d),.int .i64 e,.bool false,.int .i64 a] w (BE neg (Al f b neg d e false a)):=by
 by_cases k:d=[0]
 ·subst k;have p:tx [0]={data:=#[48]}:=by apply De;rw[AR];rfl
  rw[p];obtain⟨T,P,l,m,c,q,r,s⟩:=Uf f c;have:=Qj c b g neg e a w i j;rw[show min (max a l) m=min (Ad f) (max (AV f) a) by omega] at this;exact this
 ·obtain⟨T,P,l,m,c,q,r,s⟩:=Uf f c;exact NP c b g neg d e a w n k o false (λh=>by cases h) i j
end Go.Proofs.YteofommckgeemaaGreatDoor
