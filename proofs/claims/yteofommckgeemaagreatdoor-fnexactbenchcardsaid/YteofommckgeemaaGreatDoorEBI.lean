/- Steps. -/
import Derived.Test.YteofommckgeemaaGreatDoorEBF
namespace Go.Proofs.YteofommckgeemaaGreatDoor
open Go.RowKit Go.Proofs.Tryz
set_option linter.unusedVariables false
set_option maxRecDepth 100000
set_option maxHeartbeats 8000000
theorem Mt(f k:Int)(b:Int)(c:Bool)(d:Int)(a:AB)(e:Int)(j:Bool)(g:Int)(h:AB)(w:AA)(s:a.size<=4611686018427387904)(t:h.size<=4611686018427387904):
 cB 36 #[.int .i64 f,.int .i64 k,AH b c d a,AH e j g h] w (BE (XK f k b c d a e j g h).1 (XK f k b c d a e j g h).2):=by
 have ab:∀(u:Fn) (first v:Array AK) (w:AA),(Instr.makeFunc u first v).run prog w=.ok (.func u first v) w:=λ_ _ _ _=>rfl;have x:=zq (enters_of func98 (by kernel_rfl) rfl);obtain⟨W,p⟩:=zxe (Sl w f k b c d a e j g h);have l:=UR w f k b c d a e j g h;rw[p] at l;have n:AD W.heap.size W (W.alloc (.cells #[.int .i64 b,.bool c,.int .i64 d,.string a,.int .i64 e,.bool j,.int .i64 g,.string h] 78)):=bA;obtain⟨y,z⟩:=Rn W b c d a e j g h;have o:Hid (cB 82 #[.int .i64 f,.int .i64 k,.func (.func 98) #[] #[.pointer (some ⟨w.heap.size+2,0,none⟩),.pointer (some ⟨w.heap.size+3,0,none⟩),.pointer (some ⟨w.heap.size,0,none⟩),.pointer (some ⟨w.heap.size+1,0,none⟩)],.slice (some ⟨W.heap.size,0,none⟩) 2 2] (W.alloc (.cells #[.int .i64 b,.bool c,.int .i64 d,.string a,.int .i64 e,.bool j,.int .i64 g,.string h] 78)) (BE (XK f k b c d a e j g h).1 (XK f k b c d a e j g h).2)):=
  DR f k 98 _ x 2 W.heap.size (AX b e) (AX c j) (AX d g) (AX a h) (Zl f k b c d a e g) _ (by decide) (by decide) z y (λi S=>by match i,S with
   |0,_=>exact s
   |1,_=>exact t) (λT U Y V=>by
   obtain⟨X,Z,aa⟩:=LE T U;exact M7 w.heap.size f k b c d a e j g h Y X Z aa ((l.1.next n).next V))
 have m:=Ab (l.2.1.below n l.2.1.lt) (l.2.2.1.trans (n.mono l.2.2.1.size));rw[l.2.2.2] at o;obtain⟨A,B,C,D⟩:=l.1;obtain⟨E,F,G,H,-⟩:=C.cells;obtain⟨I,J,K,L,-⟩:=D.cells;rw[<-p] at o m A B E F G H I J K L;clear p l n y z s t x C D;generalize XK f k b c d a e j g h=R at*
 obtain⟨M,N,O,P,Q⟩:=R;go_enter func36,ntmps36;go_wp2_with fail;refine cm o λw1 q=>?_;have r:=Ab (m.1.below q m.1.lt) (m.2.trans (q.mono m.2.size));clear q m o A B E F G H I J K L;go_wp2_with (refine sR r.1 N M O P Q ?_);refine rR (A1 r.1 N M O P Q) ?_;exact⟨rfl,AC r.2 (by omega) _⟩
end Go.Proofs.YteofommckgeemaaGreatDoor
