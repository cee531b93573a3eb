/- Steps. -/
import Derived.Test.YteofommckgeemaaGreatDoorEAV
namespace Go.Proofs.YteofommckgeemaaGreatDoor
open Go.RowKit Go.Proofs.Tryz
set_option linter.unusedVariables false
set_option linter.unusedSimpArgs false
set_option maxRecDepth 100000
set_option maxHeartbeats 8000000
def ET(W:AA)(a:Nat)(f m b:Int):Prop:=W.heap[a]?=some (.cells #[.int .i64 f,.int .i64 m,.int .i64 b] 52)
theorem ET.next{W b:AA}{a:Nat}{f m c:Int}(h:ET W a f m c)(d:AD W.heap.size W b):ET b a f m c:=(d.block a (Array.getElem?_eq_some_iff.1 h).1).trans h
def Mx:List AB:=[{data:=#[102,111,114,109,97,116]},{data:=#[109,111,100,101]},{data:=#[97,100,100]},{data:=#[115,117,98]},{data:=#[109,117,108]},{data:=#[100,105,118]},{data:=#[102,109,97]},{data:=#[115,113,114,116]},{data:=#[113,117,97,110,116,105,122,101]},{data:=#[110,101,120,116]},{data:=#[99,111,109,112,97,114,101]},{data:=#[119,111,114,100]},{data:=#[102,108,97,103,115]}]
def S6:List Nat:=[1,1,2,2,2,2,3,1,2,1,2,1,0]
abbrev P1:Obj:=.cells #[.string {data:=#[102,111,114,109,97,116]},.string {data:=#[109,111,100,101]},.string {data:=#[97,100,100]},.string {data:=#[115,117,98]},.string {data:=#[109,117,108]},.string {data:=#[100,105,118]},.string {data:=#[102,109,97]},.string {data:=#[115,113,114,116]},.string {data:=#[113,117,97,110,116,105,122,101]},.string {data:=#[110,101,120,116]},.string {data:=#[99,111,109,112,97,114,101]},.string {data:=#[119,111,114,100]},.string {data:=#[102,108,97,103,115]}] 9
abbrev S3:Obj:=.cells #[.int .i64 1,.int .i64 1,.int .i64 2,.int .i64 2,.int .i64 2,.int .i64 2,.int .i64 3,.int .i64 1,.int .i64 2,.int .i64 1,.int .i64 2,.int .i64 1,.int .i64 0] 3
def GD(a:AB):Nat->Int
 |0=>-1
 |i+1=>if Mx[i]?=some a then(i:Int) else GD a i
def TK(U:Nat->AK)(a b c d e f g:AK):Array AK:=#[a,b,U 2,U 3,c,d,e,f,g,U 9,U 10,U 11,U 12,U 13,U 14,U 15,U 16,U 17,U 18,U 19,U 20,U 21,U 22,U 23,U 24,U 25,U 26,U 27,U 28,U 29,U 30,U 31,U 32,U 33,U 34,U 35,U 36,U 37,U 38,U 39,U 40,U 41,U 42,U 43,U 44,U 45,U 46,U 47,U 48,U 49,U 50,U 51,U 52,U 53,U 54,U 55,U 56,U 57,U 58,U 59,U 60,U 61,U 62,U 63,U 64,U 65,U 66,U 67,U 68,U 69,U 70,U 71,U 72,U 73,U 74,U 75,U 76,U 77,U 78,U 79,U 80,U 81,U 82,U 83,U 84,U 85,U 86,U 87,U 88,U 89,U 90,U 91,U 92,U 93,U 94,U 95,U 96,U 97,U 98,U 99,U 100,U 101,U 102,U 103,U 104,U 105,U 106,U 107,U 108,U 109,U 110,U 111,U 112,U 113,U 114,U 115,U 116,U 117,U 118,U 119,U 120,U 121,U 122,U 123,U 124,U 125,U 126,U 127,U 128,U 129,U 130,U 131,U 132,U 133,U 134,U 135,U 136,U 137,U 138,U 139,U 140,U 141,U 142,U 143,U 144,U 145,U 146,U 147,U 148,U 149,U 150,U 151,U 152,U 153,U 154,U 155,U 156,U 157,U 158,U 159,U 160,U 161,U 162,U 163,U 164,U 165,U 166,U 167,U 168,U 169,U 170,U 171,U 172,U 173,U 174,U 175,U 176,U 177,U 178,U 179,U 180,U 181,U 182,U 183,U 184,U 185,U 186,U 187,U 188,U 189,U 190,U 191,U 192,U 193,U 194,U 195,U 196,U 197,U 198,U 199,U 200,U 201,U 202,U 203,U 204,U 205,U 206,U 207,U 208,U 209,U 210,U 211,U 212,U 213,U 214,U 215,U 216,U 217,U 218,U 219,U 220,U 221,U 222,U 223,U 224,U 225,U 226,U 227,U 228,U 229,U 230,U 231,U 232,U 233,U 234,U 235,U 236,U 237,U 238,U 239,U 240,U 241,U 242,U 243,U 244,U 245,U 246,U 247,U 248,U 249,U 250,U 251,U 252,U 253,U 254,U 255,U 256,U 257,U 258,U 259,U 260,U 261,U 262,U 263,U 264,U 265,U 266,U 267,U 268,U 269,U 270,U 271,U 272,U 273,U 274,U 275,U 276,U 277,U 278,U 279,U 280,U 281,U 282,U 283,U 284,U 285,U 286,U 287,U 288,U 289,U 290,U 291,U 292,U 293,U 294,U 295,U 296,U 297,U 298,U 299,U 300,U 301,U 302,U 303,U 304,U 305,U 306,U 307,U 308,U 309,U 310,U 311,U 312,U 313,U 314,U 315,U 316,U 317,U 318,U 319,U 320,U 321,U 322,U 323,U 324,U 325,U 326,U 327,U 328,U 329,U 330,U 331,U 332,U 333,U 334,U 335,U 336,U 337,U 338,U 339,U 340,U 341,U 342]
theorem nz{C:Code}{Q:Exit->Act->AA->Prop}{W:AA}{a:Array AK}{b c d e f g j:AK}(h:a=TK (λi=>a.getD i undef) b c d e f g j)(k:∀U,C.wp prog Q {tmps:=TK U b c d e f g j,defers:=[]} W):C.wp prog Q {tmps:=a,defers:=[]} W:=by
 rw[h];exact k _
def js(w:AA)(s:AB)(a g b n:Nat)(A:Int)(F:AA->Prop)(R:Ending->AA->Prop):Prop:=
 ∀(C:Code) (U:Nat->AK) (X:AA),C=BB [1,1,1,1,1,1,1] ((f23.body).getD .skip)->F X->
  C.wp prog (bodyPost prog f23 R) {tmps:=TK U (.pointer (some ⟨a,0,none⟩)) (.string s) (.string ⟨#[]⟩) (.slice (some ⟨w.heap.size,0,none⟩) 13 13) (.slice (some ⟨w.heap.size+1,0,none⟩) 13 13) (.slice (some ⟨g,0,none⟩) (n+1) b) (.int .i64 A),defers:=[]} X
def XE(w:AA)(g d:Nat)(a:List AB)(b:Nat)(f m c:Int)(X:AA):Prop:=
 (∀i x,Mx[i]?=some x->X.cell? ⟨w.heap.size,i,none⟩=some (.string x))/\(∀i (n:Nat),S6[i]?=some n->X.cell? ⟨w.heap.size+1,i,none⟩=some (.int .i64 (n:Int)))/\(∀i x,a[i]?=some x->X.cell? ⟨g,i,none⟩=some (.string x))/\ET X b f m c/\AD w.heap.size w X/\w.heap.size+1<X.heap.size/\g<X.heap.size
theorem XE.next{w:AA}{g c:Nat}{d:List AB}{e:Nat}{f m j:Int}{X Y:AA}(h:XE w g c d e f m j X)(a:AD X.heap.size X Y):XE w g c d e f m j Y:=by
 obtain⟨q,r,s,t,k,l,o⟩:=h;exact⟨λi x b=>(a.cell (p:=⟨w.heap.size,i,none⟩) (by show w.heap.size<_;omega)).trans (q i x b),λi n u=>(a.cell (p:=⟨w.heap.size+1,i,none⟩) l).trans (r i n u),λi x b=>(a.cell (p:=⟨g,i,none⟩) o).trans (s i x b),t.next a,k.trans (a.mono k.size),DU l a.size,DU o a.size⟩
theorem Ys(w:AA):∀i x,Mx[i]?=some x->((w.alloc P1).alloc S3).cell? ⟨w.heap.size,i,none⟩=some (.string x):=λi x a=>by
 have h:((w.alloc P1).alloc S3).heap[w.heap.size]?=some P1:=(Below.heap_alloc _ _ _ (by simp)).trans (Ao w P1);rw[AO h i];have e:(Mx.map Value.string).toArray[i]?=some (.string x):=by rw[List.getElem?_toArray,List.getElem?_map,a];rfl
 exact e
theorem Yn(w:AA):∀i (n:Nat),S6[i]?=some n->((w.alloc P1).alloc S3).cell? ⟨w.heap.size+1,i,none⟩=some (.int .i64 (n:Int)):=λi n a=>by
 have h:=Ao (w.alloc P1) S3;rw[show(w.alloc P1).heap.size=w.heap.size+1 by simp] at h;rw[AO h i];have e:(S6.map λn:Nat=>Value.int .i64 (n:Int)).toArray[i]?=some (.int .i64 (n:Int)):=by rw[List.getElem?_toArray,List.getElem?_map,a];rfl
 exact e
theorem RZ(c:UInt8)(s:AB):∃b a,Dp c s=b::a:=by
 have h:Dp c s≠[]:=λe=>T4 c s.data.toList (List.map_eq_nil_iff.1 e);cases e:Dp c s with
 |nil=>exact absurd e h
 |cons k a=>exact⟨k,a,rfl⟩
abbrev jT:AB:={data:=#[101,114,114,111,114,32,49]}
theorem O0(s:AB)(hs:s.size<=20000)(k:Nat)(f m o:Int)(w:AA)(M:ET w k f m o)(b:AB)(c:List AB)(F:Dp 32 s=b::c)(R:Ending->AA->Prop)
 (N:(GD b 13<0\/∃j n:Nat,GD b 13=(j:Int)/\S6[j]?=some n/\c.length≠n)->∀X,ET X k f m o->AD w.heap.size w X->R (.returned (.string jT)) X)
 (O:∀j n:Nat,GD b 13=(j:Int)->S6[j]?=some n->c.length=n->∀g r,js w s k g r n (j:Int) (XE w g r (b::c) k f m o) R)
 (P:GD b 13<0\/∃j n:Nat,GD b 13=(j:Int)/\S6[j]?=some n):
 Calls prog 23 #[.pointer (some ⟨k,0,none⟩),.string s] w R:=by
 have y:=zq N;have C:=zq O;have D:=zq P;clear N O P;have G:AD w.heap.size w ((w.alloc P1).alloc S3):=bA.alloc (by simp) _;have Q:Hid ((∀i x,Mx[i]?=some x->((w.alloc P1).alloc S3).cell? ⟨w.heap.size,i,none⟩=some (.string x))/\(∀i (n:Nat),S6[i]?=some n->((w.alloc P1).alloc S3).cell? ⟨w.heap.size+1,i,none⟩=some (.int .i64 (n:Int)))/\ET ((w.alloc P1).alloc S3) k f m o/\AD w.heap.size w ((w.alloc P1).alloc S3)/\((w.alloc P1).alloc S3).heap.size=w.heap.size+2):=⟨Ys w,Yn w,M.next G,G,by simp⟩;have S:Hid (Calls prog 48 #[.string s] ((w.alloc P1).alloc S3) λe T=>∃v,e=.returned v/\Ej T ((w.alloc P1).alloc S3).heap.size v (Dp 32 s)/\AD ((w.alloc P1).alloc S3).heap.size ((w.alloc P1).alloc S3) T):=Ou s _ hs;clear G M;go_enter func23,ntmps23;go_upto_region 3 with fail;generalize ((w.alloc P1).alloc S3)=w2 at*
 go_wp2_with fail;refine S.mono ?_;rintro e w3 ⟨v,rfl,H,t⟩;obtain⟨g,r,rfl,ac,ad,I⟩:=H.form (by rw[F];exact Nat.succ_pos _);rw[F] at H I;have V:Hid (XE w g r (b::c) k f m o w3):=by
  obtain⟨h1,h2,h3,h4,h5⟩:=Q.out;refine⟨λi x z=>(t.cell (p:=⟨w.heap.size,i,none⟩) (by show w.heap.size<_;omega)).trans (h1 i x z),λi n hn=>(t.cell (p:=⟨w.heap.size+1,i,none⟩) (by show w.heap.size+1<_;omega)).trans (h2 i n hn),I,h3.next t,h4.trans (t.mono (by omega)),?_,ac⟩;have:=t.size;omega
 have aj:(Dp 32 s).length=c.length+1:=by rw[F];rfl
 rw[aj];clear H I t Q S ad;go_wp2_with fail;go_loopw [8,9] (λa i wr=>∃q:Nat,q<=13/\i=.int .i64 (q:Int)/\a=.int .i64 (GD b q)/\Hid (XE w g r (b::c) k f m o wr)) (λ_ i _=>13-(intOf i).toNat);case atStart=>exact⟨0,by omega,rfl,rfl,V⟩
 case round=>
  clear V;obtain⟨q,hq,rfl,rfl,d⟩:=hrel;rcases Nat.lt_or_ge q 13 with h|h
  ·have au:(q:Int)<13:=by omega
   obtain⟨x,z⟩:∃x,Mx[q]?=some x:=⟨Mx[q]'h,Dq h⟩;have W:=d.1 q x z;have c1:=d.2.2.1 0 b rfl;have av:¬((c.length:Int)+1<=0):=by omega
   have E:Hid (GD b (q+1)=if x=b then(q:Int) else GD b q):=by show(if Mx[q]?=some b then(q:Int) else GD b q)=_;rw[z];by_cases e:x=b<;>simp[e]
   clear z;go_upto_region 8 with fail;go_quiet (fail);have Y:=zq (d.next (pG (BI _ _) nq));generalize wr.drewN nq=w5 at*
   clear d W c1;have J:Hid ((x.toList==b.toList)=decide (x=b)):=by
    rw[Hid,ByteArray.toList_eq,ByteArray.toList_eq];by_cases e:x=b
    ·rw[e,Bz rfl];exact beq_self_eq_true _
    ·rw[By e];exact beq_eq_false_iff_ne.2 λh=>e (De (Array.ext' h))
   rw[J];by_cases e:x=b
   ·have K:Hid (GD b (q+1)=(q:Int)):=by rw[Hid,E,zyp e]
    rw[Bz e];clear E e J;go_wp2;go_roundw;case rel=>exact⟨q+1,by omega,by go_num,by rw[K],Y⟩
    case measure=>simp[intOf];omega
   ·have K:Hid (GD b (q+1)=GD b q):=by rw[Hid,E,zyn e]
    rw[By e];clear E e J;go_wp2;go_roundw;case rel=>exact⟨q+1,by omega,by go_num,by rw[K],Y⟩
    case measure=>simp[intOf];omega
  ·obtain rfl:q=13:=by omega
   have ax:c.length<=20000:=by have:=LC 32 s;omega
   have ay:=zw (c.length:Int) (by omega);have az:IntKind.i64.wrap ((c.length:Int)+1-1)=(c.length:Int):=Dn (by omega);have aA:wrap64 (c.length:Int)=(c.length:Int):=by have:=IntKind.wrap_i64 (c.length:Int);unfold wrap64;omega
   rcases D.out with l|⟨j,n,l,u⟩
   ·have L:=zq (y (.inl l) wr d.2.2.2.1 d.2.2.2.2.1);clear y C D d;generalize GD b 13=A at*
    go_wp2;exact L
   ·have W:=d.2.1 j n u;have aB:(j:Int)<13:=by
     have:=(List.getElem?_eq_some_iff.1 u).1;have e:S6.length=13:=rfl;omega
    have aC:¬((j:Int)<0):=by omega
    rw[l];by_cases B:c.length=n
    ·have HY:=zq (C j n l u B g r);have am:((c.length:Int)==(n:Int))=true:=by rw[B];exact beq_self_eq_true _
     clear y C D u l;go_upto_region 10 with fail;rename_i K2 Z K1 a1;have an:Hid _:=Z;have HU:=zq d;clear Z d;subst B;go_wp2;refine an _ _ ?_;refine nz (by kernel_rfl) (λU=>HY _ U _ ?_ HU);simp only[f23,BB,Cd]
    ·have L:=zq (y (.inr ⟨j,n,l,u,B⟩) wr d.2.2.2.1 d.2.2.2.2.1);have am:((c.length:Int)==(n:Int))=false:=beq_eq_false_iff_ne.2 (by omega);clear y C D d u l B;go_wp2;exact L
theorem nj(b:UInt8)(r:List UInt8)(h:dB (b::r)):((b.toNat:Int)-48)*10^r.length<=vB (b::r):=by
 suffices H:∀(l:List UInt8) (a:Int),dB l->a*10^l.length<=l.foldl (λa b=>a*10+((b.toNat:Int)-48)) a by
  have:=H r (0*10+((b.toNat:Int)-48)) (λx d=>h x (GH _ d));rw[Int.zero_mul,Int.zero_add] at this;unfold vB;rw[List.foldl_cons,Int.zero_mul,Int.zero_add];exact this
 intro l;induction l with
 |nil=>intro a _;simp
 |cons c l ih=>
  intro a e;have g:=e c Gx;have f:=ih (a*10+((c.toNat:Int)-48)) (λx d=>e x (GH _ d));rw[List.foldl_cons,List.length_cons,Int.pow_succ];have i:(0:Int)<10^l.length:=Int.pow_pos (by decide);generalize (10:Int)^l.length=P at*
  refine Int.le_trans ?_ f;have:a*(P*10)=a*10*P:=by rw[Int.mul_comm P 10,Int.mul_assoc]
  rw[this];exact If (by omega) (by omega)
theorem GN(b c:UInt8)(h:b.toNat=c.toNat):b=c:=UInt8.toNat_inj.1 h
theorem Xm(k:Int)(a:k∈XG):1<=k/\k<=128:=by
 simp only[XG,List.mem_cons,List.not_mem_nil,or_false] at a;omega
theorem fb(l:List UInt8)(k:Int)(a:k∈XG)(f:fE l)(d:vB l=k):l=Lib.itoa k:=by
 obtain⟨g,n,c,i⟩:=f;cases l with
 |nil=>simp at g
 |cons b r=>
  have o:=c b Gx;have p:b.toNat≠48:=λe=>i (by rw[GN b 48 e];rfl);have q:=nj b r c;have s:=Xm k a;have j:r.length<=2:=by
   rcases Nat.lt_or_ge r.length 3 with h|h
   ·omega
   ·have t:(1000:Int)<=10^r.length:=Int.le_trans (by decide:(1000:Int)<=10^3) (AI 3 _ h);generalize (10:Int)^r.length=P at*
    have:1*P<=((b.toNat:Int)-48)*P:=If (by omega) (by omega);omega
  simp only[XG,List.mem_cons,List.not_mem_nil,or_false] at a;rcases r with _|⟨x,_|⟨y,_|⟨z,r⟩⟩⟩
  ·have e:vB [b]=(b.toNat:Int)-48:=by unfold vB;simp
   rw[e] at d;rcases a with rfl|rfl|rfl|rfl|rfl|rfl|rfl
   ·obtain rfl:=GN b 49 (by show b.toNat=49;omega);decide+kernel
   ·obtain rfl:=GN b 50 (by show b.toNat=50;omega);decide+kernel
   ·obtain rfl:=GN b 51 (by show b.toNat=51;omega);decide+kernel
   ·obtain rfl:=GN b 52 (by show b.toNat=52;omega);decide+kernel
   ·obtain rfl:=GN b 53 (by show b.toNat=53;omega);decide+kernel
   all_goals omega
  ·have m:=c x (GH _ Gx);have e:vB [b,x]=((b.toNat:Int)-48)*10+((x.toNat:Int)-48):=by unfold vB;simp
   rw[e] at d;rcases a with rfl|rfl|rfl|rfl|rfl|rfl|rfl
   ·omega
   ·omega
   ·omega
   ·omega
   ·omega
   ·obtain rfl:=GN b 54 (by show b.toNat=54;omega);obtain rfl:=GN x 52 (by show x.toNat=52;omega);decide+kernel
   ·omega
  ·have m:=c x (GH _ Gx);have u:=c y (GH _ (GH _ Gx));have e:vB [b,x,y]=(((b.toNat:Int)-48)*10+((x.toNat:Int)-48))*10+((y.toNat:Int)-48):=by unfold vB;simp
   rw[e] at d;rcases a with rfl|rfl|rfl|rfl|rfl|rfl|rfl
   ·omega
   ·omega
   ·omega
   ·omega
   ·omega
   ·omega
   ·obtain rfl:=GN b 49 (by show b.toNat=49;omega);obtain rfl:=GN x 50 (by show x.toNat=50;omega);obtain rfl:=GN y 56 (by show y.toNat=56;omega);decide+kernel
  ·simp at j
theorem fZ(k:Int)(a:k∈XG):fE (El k).data.toList/\vB (El k).data.toList=k:=by
 simp only[XG,List.mem_cons,List.not_mem_nil,or_false] at a;have H:∀l:List UInt8,(1<=l.length/\l.length<=9/\(l.all λb=>decide (48<=b.toNat/\b.toNat<=57))=true/\(l.head?==some 48)=false)->fE l:=λl h=>⟨h.1,h.2.1,λb c=>of_decide_eq_true (List.all_eq_true.1 h.2.2.1 b c),λe=>by rw[e] at h;exact absurd h.2.2.2 (by decide)⟩;rcases a with rfl|rfl|rfl|rfl|rfl|rfl|rfl<;>exact⟨H _ (by refine⟨?_,?_,?_,?_⟩<;>decide+kernel),by kernel_rfl⟩
theorem ja(s:AB)(n:Int)(b:Bool)(h:m9 s.data.toList n b):jR s n b:=by
 intro k c;have g:=Xm k c;constructor
 ·rintro⟨f,rfl⟩;by_cases a:fE s.data.toList
  ·have:=fb _ n c a (h.1 a).1.symm;apply De;exact Array.ext' this
  ·have:=h.2.1 a f;omega
 ·intro e;obtain⟨a,d⟩:=fZ k c;rw[<-e] at a d;exact⟨(h.1 a).2,(h.1 a).1.trans d⟩
abbrev ey:AB:={data:=#[101,114,114,111,114,32,50]}
abbrev nE:AB:={data:=#[111,107]}
abbrev oL:AB:={data:=#[102,111,114,109,97,116]}
def Z7(c:Option Int)(a:Prop)(b:Int->Prop)(e:Ending):Prop:=match c with
 |some n=>e=.returned (.string nE)/\b n
 |none=>e=.returned (.string ey)/\a
theorem Aw{W:AA}{a:Nat}{f m c:Int}(h:ET W a f m c):W.cell? ⟨a,0,none⟩=some (.int .i64 f)/\W.cell? ⟨a,1,none⟩=some (.int .i64 m)/\W.cell? ⟨a,2,none⟩=some (.int .i64 c)/\W.frozen? ⟨a,0,none⟩=false/\W.frozen? ⟨a,1,none⟩=false/\W.frozen? ⟨a,2,none⟩=false:=by
 have b:W.heap[a]?=some (.cells #[.int .i64 f,.int .i64 m,.int .i64 c] 52):=h;refine⟨AO b 0,AO b 1,AO b 2,?_,?_,?_⟩;all_goals
  unfold World.frozen?;simp only[b];simp
theorem IZ{W:AA}{a:Nat}{f m b:Int}(h:ET W a f m b)(x:Int):(ET (W.setCell ⟨a,0,none⟩ (.int .i64 x)) a x m b/\W.grownBy (W.setCell ⟨a,0,none⟩ (.int .i64 x)) (some a))/\(ET (W.setCell ⟨a,1,none⟩ (.int .i64 x)) a f x b/\W.grownBy (W.setCell ⟨a,1,none⟩ (.int .i64 x)) (some a))/\ET (W.setCell ⟨a,2,none⟩ (.int .i64 x)) a f m x/\W.grownBy (W.setCell ⟨a,2,none⟩ (.int .i64 x)) (some a):=by
 have c:W.heap[a]?=some (.cells #[.int .i64 f,.int .i64 m,.int .i64 b] 52):=h;have g:∀i,W.grownBy (W.setCell ⟨a,i,none⟩ (.int .i64 x)) (some a):=λi=>⟨rfl,rfl,rfl,by simp,λk j d=>Below.heap_setCell _ _ _ _ (λe=>d (by rw[e]))⟩;refine⟨⟨?_,g 0⟩,⟨?_,g 1⟩,?_,g 2⟩;all_goals
  unfold ET World.setCell;simp[Array.getElem?_modify,c]
theorem B2{W a:AA}(h:AD W.heap.size W a)(r:Nat):W.grownBy a (some r):=⟨h.os,h.tape,h.output,h.size,λk b _=>h.block k b⟩
theorem WP(s:AB)(a g r:Nat)(f m i:Int)(w:AA)(c:AB)(x:c.size<=20000):
 js w s a g r 1 0 (XE w g r [oL,c] a f m i) (λe o=>Z7 (Ue c) (ET o a f m i) (λn=>ET o a n m i) e/\w.grownBy o (some a)):=by
 intro C U X y j;have z:=j.2.2.1 0 _ rfl;have A:=j.2.2.1 1 _ rfl;have t:=zq (ID c X x);have d:=zq j;clear j;subst y;simp only[f23,BB,Cd,TK];go_wp2_with fail;refine t.mono ?_;rintro e J ⟨⟨n,b,rfl,u⟩,B⟩;subst B;have k:=ja c n b u;have v:=zq λX=>Ag n X;clear t u z A;go_wp2_with fail;refine cm (v _) λp D=>?_;subst D;clear v;by_cases h:b=true/\(n=64\/n=128)
 ·have l:=zq ((OV c n b k).1 h);have E:(AF n==0)=false:=by rcases h.2 with rfl|rfl<;>decide
  have K:¬AF n=0:=by rcases h.2 with rfl|rfl<;>decide
  obtain⟨rfl,-⟩:=h;obtain⟨M,N,O,Q,R,S⟩:=Aw d.2.2.2.1;generalize AF n=P at*
  generalize AV n=L at*
  generalize Ad n=H at*
  clear k;go_wp2;go_ret;refine⟨?_,CM (B2 d.2.2.2.2.1 a) (IZ d.2.2.2.1 n).1.2⟩;rw[l];exact⟨rfl,(IZ d.2.2.2.1 n).1.1⟩
 ·have l:=zq ((OV c n b k).2 h);have F:b=false\/(AF n==0)=true:=by
   cases b with
   |false=>exact .inl rfl
   |true=>exact .inr (by
    have G:n≠64:=λe=>h ⟨rfl,.inl e⟩;have I:n≠128:=λe=>h ⟨rfl,.inr e⟩;unfold AF;rw[zyn G,zyn I];rfl)
  have q:Hid (Z7 (Ue c) (ET p a f m i) (λn=>ET p a n m i) (.returned (.string ey))/\w.grownBy p (some a)):=by
   rw[Hid,l];exact⟨⟨rfl,d.2.2.2.1⟩,B2 d.2.2.2.2.1 a⟩
  clear k l d h;generalize AF n=P at*
  generalize AV n=L at*
  generalize Ad n=H at*
  rcases F with rfl|E
  ·go_wp2;go_ret;exact q
  ·cases b with
   |false=>
    go_wp2;go_ret;exact q
   |true=>
    go_wp2;go_ret;exact q
abbrev mz:AB:={data:=#[109,111,100,101]}
theorem gX(s:AB)(a g t:Nat)(f m o:Int)(w:AA)(d:AB)(y:d.size<=20000):
 js w s a g t 1 1 (XE w g t [mz,d] a f m o) (λe p=>Z7 (XJ d) (ET p a f m o) (λn=>ET p a f n o) e/\w.grownBy p (some a)):=by
 intro C U X z k;have A:=k.2.2.1 0 _ rfl;have B:=k.2.2.1 1 _ rfl;have u:=zq (ID d X y);have c:=zq k;clear k;subst z;simp only[f23,BB,Cd,TK];go_wp2_with fail;refine u.mono ?_;rintro e F ⟨⟨n,b,rfl,v⟩,D⟩;subst D;have i:=ja d n b v;have j:=zq λX=>Cq n X;clear u v A B;by_cases h:b=true/\(1<=n/\n<=5)
 ·have l:=zq ((O3 d n b i).1 h);have x:=zq (Bz h.2);obtain⟨rfl,-⟩:=h;rw[x] at j;obtain⟨G,H,I,J,K,L⟩:=Aw c.2.2.2.1;clear i x;go_wp2_with fail;refine cm (j _) λE r=>?_;subst r;go_wp2;go_ret;refine⟨?_,CM (B2 c.2.2.2.2.1 a) (IZ c.2.2.2.1 n).2.1.2⟩;rw[l];exact⟨rfl,(IZ c.2.2.2.1 n).2.1.1⟩
 ·have l:=zq ((O3 d n b i).2 h);cases b with
  |false=>
   clear i h j;go_wp2;go_ret;refine⟨?_,B2 c.2.2.2.2.1 a⟩;rw[l];exact⟨rfl,c.2.2.2.1⟩
  |true=>
   rw[By (λq=>h ⟨rfl,q⟩)] at j;clear i h;go_wp2_with fail;refine cm (j _) λE r=>?_;subst r;go_wp2;go_ret;refine⟨?_,B2 c.2.2.2.2.1 a⟩;rw[l];exact⟨rfl,c.2.2.2.1⟩
theorem Sm(n:Nat):tx (Jc n)=El n:=by
 have:=Jr (n:Int) (by omega);rw[Int.toNat_natCast] at this;exact this.symm
abbrev oJ:AB:={data:=#[102,108,97,103,115]}
theorem Y0(s:AB)(a g i:Nat)(f m:Int)(b:Nat)(r:b<32)(w:AA):
 js w s a g i 0 12 (XE w g i [oJ] a f m b) (λe j=>e=.returned (.string (El b))/\ET j a f m 0/\w.grownBy j (some a)):=by
 intro C U X q c;have t:=c.2.2.1 0 _ rfl;obtain⟨u,v,x,y,z,A⟩:=Aw c.2.2.2.1;obtain⟨k,l⟩:=(IZ c.2.2.2.1 0).2.2;have n:=c.2.2.2.2.1;generalize B:X.setCell ⟨a,2,none⟩ (.int .i64 0)=Y at*
 have d:=Ab k (CM (B2 n a) l);have o:Hid (cB 52 #[.int .i64 b] Y (.string (El b))):=by
  have:=Fi b (by omega) Y;rwa[Sm] at this
 clear c k l n;subst q;simp only[f23,BB,Cd,TK];go_wp2_with fail;refine cm o λD h=>?_;have p:=Ab (d.1.next h) (CM d.2 (B2 h a));clear o h d;go_wp2;go_ret;exact⟨rfl,p.1,p.2⟩
theorem YW(k u:Nat):G4 (k+1) u=G4 k (u/16)++[Ui (u%16)]:=rfl
theorem mv(n:Nat)(h:n<16):(⟨#[48,49,50,51,52,53,54,55,56,57,97,98,99,100,101,102]⟩:AB)[n]'h=Ui n:=by
 match n,h with
 |0,_|1,_|2,_|3,_|4,_|5,_|6,_|7,_|8,_|9,_|10,_|11,_|12,_|13,_|14,_|15,_=>rfl
 |n+16,h=>exact absurd h (by show¬n+16<16;omega)
theorem IR(U:Nat)(w:AA)(I:U<18446744073709551616):
 cB 64 #[.int .u64 U] w (.string ⟨(G4 16 U).toArray⟩):=by
 obtain⟨s,c,u,y,z⟩:=info_parts Om;have m:Hid (Df (w.alloc (.cells #[] 5)) w.heap.size (.slice (some ⟨w.heap.size,0,none⟩) 0 0) (G4 0 (U/16^16))/\AD w.heap.size w (w.alloc (.cells #[] 5))):=⟨JQ w,bA⟩;have f:Hid (∀(i:Nat) (x:Int) X,i<=15->x=(i:Int)->cE 143 #[.int .u64 U,.int .i64 x] X (.int .i64 ((U/16^i%16:Nat):Int))):=λi x X c A=>by
  have:=TJ (U:Int) x i X A c (by omega) (by omega);rwa[show Ln.ln (U:Int) i=((U/16^i%16:Nat):Int) by unfold Ln.ln;rw[Int.natCast_emod,Int.natCast_ediv,Int.natCast_pow];rfl] at this
 go_enter func64,ntmps64;go_wp2;go_loopw [3,4] (λv i wr=>∃j:Nat,j<=16/\i=.int .i64 (15-(j:Int))/\Hid (Df wr w.heap.size v (G4 j (U/16^(16-j)))/\AD w.heap.size w wr)) (λ_ i _=>(intOf i+1).toNat);case atStart=>exact⟨0,by omega,rfl,m⟩
 case round=>
  clear m;obtain⟨j,n,rfl,a⟩:=hrel;rcases Nat.lt_or_ge j 16 with h|h
  ·have J:(0:Int)<=15-(j:Int):=by omega
   obtain⟨k,K⟩:=zxe (15-j);have B:Hid (G4 (j+1) (U/16^(16-(j+1)))=G4 j (U/16^(16-j))++[Ui (U/16^k%16)]):=by
    show _=_
    rw[YW,show 16-(j+1)=k by omega,show 16-j=k+1 by omega,Nat.pow_succ,Nat.div_div_eq_div_mul]
   have o:15-(j:Int)=(k:Int):=by omega
   have C:=zq λX=>f k _ X (by omega) o;have D:=Ea j (U/16^(16-j));generalize G4 j (U/16^(16-j))=M at*
   have E:=Nat.mod_lt (U/16^k) (show 0<16 by decide);generalize U/16^k%16=d at*
   have L:=mv d E;have N:(d:Int)<16:=by omega
   have F:=a.2.size;have g:=a.1;have O:=zw (15-(j:Int)-1) (by omega);clear f o;go_wp2_with (first|(go_at_call 143;refine(C _).mono ?_;rintro e P ⟨rfl,rfl⟩)|(at_builtin;refine wpList_append_own _ rfl _ _ 22 rfl w.heap.size 5 s (.int .u8 0) 1 1 underlying22 c u y z rfl (by decide) _ M.length (SX M) rfl (World.ownsRow.alloc g _) ⟨_,0,none⟩ 1 1 [.int .u8 ((Ui d).toNat:Int)] rfl rfl (World.news_of_block (cs:=#[.int .u8 ((Ui d).toNat:Int)]) (t:=5) (fr:=(0,0)) (heap_alloc_new _ _)) (EH _) (by unfold maxLen;omega) (by omega) (by simp;omega) ?_)|go_in);intro p l q r _;have G:Hid (Df l w.heap.size p (G4 (j+1) (U/16^(16-(j+1))))/\AD w.heap.size w l):=⟨by rw[B];exact FH (w:=l) (v:=p) (b:=Ui d) (by rw[D];exact q),Below.grown (a.2.alloc F _) r (by simp;omega) (λj n=>(World.ownsRow.lt g j n).1)⟩;clear q r a g;go_wp2;go_roundw;case rel=>exact⟨j+1,by omega,by go_num,G⟩
   case measure=>simp[intOf];omega
  ·obtain rfl:j=16:=by omega
   have Q:=a.1.conv;have R:¬(0:Int)<=15-((16:Nat):Int):=by omega
   have H:=zq a.2;clear a f;go_wp2;go_ret;exact⟨rfl,H⟩
def YA(a b:Nat):Nat->Nat
 |0=>0
 |i+1=>YA a b i+if a/2^i%2=1\/b/2^i%2=1 then 2^i else 0
theorem YC:∀a,a<32->∀b,b<32->((YA a b 5:Nat):Int)=bits .or .i64 (a:Int) (b:Int):=by
 decide+kernel
theorem YB(a b i:Nat):YA a b i<2^i:=by
 induction i with
 |zero=>exact Nat.one_pos
 |succ i ih=>unfold YA;rw[Nat.pow_succ];split<;>omega
theorem Ot(a b:Nat)(m:a<32)(o:b<32)(w:AA):
 cE 66 #[.int .i64 a,.int .i64 b] w (.int .i64 (bits .or .i64 (a:Int) (b:Int))):=by
 rw[<-YC a m b o];go_enter func66,ntmps66;go_wp2;go_loopw [5,6] (λn f wr=>∃i:Nat,i<=5/\f=.int .i64 ((2^i:Nat):Int)/\n=.int .i64 ((YA a b i:Nat):Int)/\wr=w) (λ_ f _=>(32-intOf f).toNat);case atStart=>exact⟨0,by omega,rfl,rfl,rfl⟩
 case round=>
  obtain⟨i,p,rfl,rfl,rfl⟩:=hrel;have r:=YB a b i;rcases Nat.lt_or_ge i 5 with h|h
  ·have d:Hid (YA a b (i+1)=YA a b i+if a/2^i%2=1\/b/2^i%2=1 then 2^i else 0):=rfl;have j:Hid (2^(i+1)=2*2^i):=by show _=_;rw[Nat.pow_succ,Nat.mul_comm]
   have s:2^i<=16/\1<=2^i:=⟨Nat.pow_le_pow_right (by decide) (show i<=4 by omega),Nat.pow_pos (by decide)⟩;generalize YA a b i=N at*
   generalize 2^i=F at*
   obtain⟨C,D⟩:=s;obtain⟨t,E⟩:(F:Int)<=16/\¬(F:Int)=0:=by omega
   have G:((a:Int).tdiv (F:Int))=((a/F:Nat):Int):=rfl;have H:((b:Int).tdiv (F:Int))=((b/F:Nat):Int):=rfl;have I:(((a/F:Nat):Int).tmod 2)=((a/F%2:Nat):Int):=rfl;have J:(((b/F:Nat):Int).tmod 2)=((b/F%2:Nat):Int):=rfl;have K:=Nat.div_le_self a F;have L:=Nat.div_le_self b F;generalize a/F=x at*
   generalize b/F=y at*
   have M:=zw (x:Int) (by omega);have O:=zw (y:Int) (by omega);have P:=zw ((N:Int)+(F:Int)) (by omega);have Q:=zw (2*(F:Int)) (by omega);have R:=Nat.mod_lt x (show 0<2 by decide);have S:=Nat.mod_lt y (show 0<2 by decide);generalize x%2=A at*
   generalize y%2=B at*
   have T:=zw (A:Int) (by omega);have U:=zw (B:Int) (by omega);have k:=zq h;clear p r h;by_cases e:A=1
   ·have g:Hid (YA a b (i+1)=N+F):=by rw[Hid,d,zyp (.inl e)]
    have l:(A:Int)=1:=by omega
    have u:((A:Int)==1)=true:=by rw[l];rfl
    clear d e;go_wp2;go_roundw;case rel=>exact⟨i+1,k,by rw[j];go_num,by rw[g];go_num,trivial⟩
    case measure=>simp[intOf];omega
   ·have l:¬(A:Int)=1:=by omega
    have u:((A:Int)==1)=false:=beq_eq_false_iff_ne.2 l;by_cases q:B=1
    ·have g:Hid (YA a b (i+1)=N+F):=by rw[Hid,d,zyp (.inr q)]
     have v:(B:Int)=1:=by omega
     have z:((B:Int)==1)=true:=by rw[v];rfl
     clear d e q;go_wp2;go_roundw;case rel=>exact⟨i+1,k,by rw[j];go_num,by rw[g];go_num,trivial⟩
     case measure=>simp[intOf];omega
    ·have z:((B:Int)==1)=false:=beq_eq_false_iff_ne.2 (by omega);have g:Hid (YA a b (i+1)=N):=by rw[Hid,d,zyn (λc=>c.elim e q)];rfl
     clear d e q;go_wp2;go_roundw;case rel=>exact⟨i+1,k,by rw[j];go_num,by rw[g],trivial⟩
     case measure=>simp[intOf];omega
  ·obtain rfl:i=5:=by omega
   have t:¬((2^5:Nat):Int)<=16:=by decide
   go_wp2;go_ret;exact⟨rfl,rfl⟩
end Go.Proofs.YteofommckgeemaaGreatDoor
