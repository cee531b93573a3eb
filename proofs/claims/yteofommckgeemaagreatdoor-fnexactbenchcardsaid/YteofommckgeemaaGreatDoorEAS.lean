/- Steps. -/
import Derived.Test.YteofommckgeemaaGreatDoorEAE
namespace Go.Proofs.YteofommckgeemaaGreatDoor
open Go.RowKit Go.Proofs.Tryz
set_option linter.unusedVariables false
set_option linter.unusedSimpArgs false
set_option maxRecDepth 100000
set_option maxHeartbeats 8000000
theorem kt(w:AA):(Instr.makeSlice 80 (.int .i64 11) (.int .i64 11)).run prog w=.ok (.slice (some ⟨w.heap.size,0,none⟩) 11 11) (w.alloc (.cells #[.int .i64 0,.int .i64 0,.int .i64 0,.int .i64 0,.int .i64 0,.int .i64 0,.int .i64 0,.int .i64 0,.int .i64 0,.int .i64 0,.int .i64 0] 2)):=by kernel_rfl
theorem UC:∀i,i<11->(#[.int .i64 0,.int .i64 0,.int .i64 0,.int .i64 0,.int .i64 0,.int .i64 0,.int .i64 0,.int .i64 0,.int .i64 0,.int .i64 0,.int .i64 0]:Array AK)[i]?=some (.int .i64 0):=λi a=>by
 match i,a with
 |0,_|1,_|2,_|3,_|4,_|5,_|6,_|7,_|8,_|9,_|10,_=>rfl
theorem JU(k:Int)(b:Bool)(e:Int)(s:AB)(w:AA)(O:k=2\/k=3\/k=4):
 Calls prog 238 #[.iface 211 (.agg #[]),AH k b e s] w λx j=>∃c,x=.returned (jV b (if k=2 then 30 else 31) (if k=4 then 2048 else 0) (.slice (some ⟨c,0,none⟩) 11 11))/\c<j.heap.size/\(∀i,i<11->j.cell? ⟨c,i,none⟩=some (.int .i64 0))/\AD w.heap.size w j:=by
 have u:Hid (AD (w.heap.size+2) (Je w k b e s) (Je w k b e s)):=BI _ _;obtain⟨P,Q,R,S,-,-,-,-,-⟩:=Ai u;have T:=kt;go_enter func238,ntmps238;go_upto_region 1 with fail;go_cut [5] (λq U=>∃p c,q=.pointer (some ⟨p,0,none⟩)/\Hid (SM w k b e s 11 U p c 31 0));case first=>
  go_region_with (first
   |(go_at_call 283;refine cm (Mm _) λw4 v=>?_;first|(have h:=LH v;obtain⟨l,g,m,n,-,-,-,-,-⟩:=Ai h;have V:=Cg g;have W:=λo r=>Cg (Cg g o) r)|(obtain⟨h,y,z,A,B,C,ad⟩:=VH v;have t0:=Cg y;have t1:=Cg z;have t2:=Cg A;have t3:=Cg B;have tf:=λi=>XZ (p:=w.heap.size+1+1) (i:=i) (by omega) (C i);obtain⟨l,g,m,n,-,-,-,-,-⟩:=Ai h;have V:=Cg g;have W:=λo r=>Cg (Cg g o) r)))
  all_goals
   go_wp2;go_meet;case rel=>first|exact⟨_,_,rfl,oy 11 _ UC h⟩|exact⟨_,_,rfl,nZ 11 _ UC h⟩|exact⟨_,_,rfl,oz 11 _ UC h y z A B C⟩
 case rest=>
  obtain⟨p,c,rfl,d⟩:=hcut;clear P Q R S u T;obtain⟨l,g,m,n,-,-,-,-,-⟩:=Ai d.1;obtain⟨D,E,F,G,H⟩:=d.2.2.2.1;rcases O with rfl|rfl|rfl
  ·have f:=zq (d.lead 30);obtain⟨X,Y,Z,f3,ff⟩:=f.2.2.2.1;obtain⟨-,-,-,-,I,J,K,L,M⟩:=Ai f.1;have a:=zq (f.fin (.bool b) (.int .u8 30) (.int .u16 0) (.slice (some ⟨c,0,none⟩) 11 11));clear d f;go_wp2;refine Do (CO rfl _ _ rfl a.1.1 a.1.2.1 a.1.2.2.1 a.1.2.2.2.1) rfl ?_;exact⟨c,rfl,a.2⟩
  ·obtain⟨-,-,-,-,I,J,K,L,M⟩:=Ai d.1;have a:=zq (d.fin (.bool b) (.int .u8 31) (.int .u16 0) (.slice (some ⟨c,0,none⟩) 11 11));clear d;go_wp2;refine Do (CO rfl _ _ rfl a.1.1 a.1.2.1 a.1.2.2.1 a.1.2.2.2.1) rfl ?_;exact⟨c,rfl,a.2⟩
  ·go_wp2_with fail;refine cm (DS _) λw6 N=>?_;have t:=zq (d.next N);clear D E F G H l g m n d N;obtain⟨D,E,F,G,H⟩:=t.2.2.2.1;have f:=zq (t.rest 2048);obtain⟨X,Y,Z,f3,ff⟩:=f.2.2.2.1;obtain⟨-,-,-,-,I,J,K,L,M⟩:=Ai f.1;have a:=zq (f.fin (.bool b) (.int .u8 31) (.int .u16 2048) (.slice (some ⟨c,0,none⟩) 11 11));clear t f;go_wp2;refine Do (CO rfl _ _ rfl a.1.1 a.1.2.1 a.1.2.2.1 a.1.2.2.2.1) rfl ?_;exact⟨c,rfl,a.2⟩
end Go.Proofs.YteofommckgeemaaGreatDoor
