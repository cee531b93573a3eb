/- Steps. -/
import Derived.Test.YteofommckgeemaaGreatDoorEBA
import Derived.Test.YteofommckgeemaaGreatDoorEBI
import Derived.Test.YteofommckgeemaaGreatDoorEBK
import Derived.Test.YteofommckgeemaaGreatDoorEBL
import Derived.Test.YteofommckgeemaaGreatDoorEBN
namespace Go.Proofs.YteofommckgeemaaGreatDoor
open Go.RowKit Go.Proofs.Tryz
set_option linter.unusedVariables false
set_option linter.unusedSimpArgs false
set_option maxRecDepth 100000
set_option maxHeartbeats 8000000
theorem Rg(f m:Int)(neg:Bool)(x:Kh):∃K N E S F t,Zo f m neg x=.tuple #[BA K N E S F,.bool t]:=by
 rcases x with _|⟨D,n,a,P⟩
 ·exact⟨_,_,_,_,_,_,rfl⟩
 ·exact⟨_,_,_,_,_,_,rfl⟩
theorem Zp(f m:Int)(l:List UInt8):∃K N E S F t,XL f m l=.tuple #[BA K N E S F,.bool t]:=by
 unfold XL;split
 ·unfold PR;split
  ·exact⟨_,_,_,_,_,_,rfl⟩
  ·exact Rg _ _ _ _
 ·exact Rg _ _ _ _
theorem Pc(f m:Int)(s:AB)(w:AA)(a:s.size<=4611686018427387904):
 cB 53 #[.int .i64 f,.int .i64 m,.string s] w (XL f m s.data.toList):=by
 have b:s.data.toList.length=s.size:=Array.length_toList;unfold XL;rw[b];split
 ·rename_i h;exact Pd f m s w h.1 h.2.1 h.2.2
 ·rename_i h;exact R1 f m s w a h
def oT:AK->Option CQ
 |.tuple #[.agg #[.int _ k,.bool n,.int _ e,.string s,.int _ _],.bool true]=>some (k,n,e,s)
 |_=>none
def Hw(f m:Int)(s:AB):Option CQ:=oT (XL f m s.data.toList)
theorem Nl(f m:Int)(s:AB):∃K N E S F t,XL f m s.data.toList=.tuple #[BA K N E S F,.bool t]/\Hw f m s=if t=true then some (K,N,E,S) else none:=by
 obtain⟨K,N,E,S,F,t,h⟩:=Zp f m s.data.toList;refine⟨K,N,E,S,F,t,h,?_⟩;unfold Hw;rw[h];cases t<;>rfl
def B0(f m:Int):List AB->Option (List CQ)
 |[]=>some []
 |s::ws=>match Hw f m s with
  |none=>none
  |some n=>match B0 f m ws with
   |none=>none
   |some a=>some (n::a)
def M8(f m:Int):List AB->AB
 |[]=>⟨#[]⟩
 |s::ws=>match Hw f m s with
  |none=>s
  |some _=>M8 f m ws
theorem MD{f m:Int}{a:List AB}{b:List CQ}(h:B0 f m a=some b):b.length=a.length:=by
 induction a generalizing b with
 |nil=>cases h;rfl
 |cons s a ih=>
  unfold B0 at h;cases hn:Hw f m s with
  |none=>rw[hn] at h;cases h
  |some n=>
   rw[hn] at h;cases hl:B0 f m a with
   |none=>rw[hl] at h;cases h
   |some r=>rw[hl] at h;cases h;rw[List.length_cons,List.length_cons,ih hl]
theorem Nj{f m:Int}{a:List AB}{b:List CQ}{s:AB}{n:CQ}(h:B0 f m a=some b)(c:Hw f m s=some n):B0 f m (a++[s])=some (b++[n]):=by
 induction a generalizing b with
 |nil=>cases h;simp[B0,c]
 |cons x a ih=>
  unfold B0 at h;rw[List.cons_append];unfold B0;cases hn:Hw f m x with
  |none=>rw[hn] at h;cases h
  |some y=>
   rw[hn] at h;cases hl:B0 f m a with
   |none=>rw[hl] at h;cases h
   |some r=>rw[hl] at h;cases h;rw[ih hl];rfl
theorem Nk{f m:Int}{a r:List AB}{b:List CQ}{s:AB}(h:B0 f m a=some b)(c:Hw f m s=none):B0 f m (a++s::r)=none/\M8 f m (a++s::r)=s:=by
 induction a generalizing b with
 |nil=>simp[B0,M8,c]
 |cons x a ih=>
  unfold B0 at h;rw[List.cons_append];unfold B0 M8;cases hn:Hw f m x with
  |none=>rw[hn] at h;cases h
  |some y=>
   rw[hn] at h;cases hl:B0 f m a with
   |none=>rw[hl] at h;cases h
   |some t=>rw[(ih hl).1,(ih hl).2];exact⟨rfl,rfl⟩
theorem LJ{α:Type}{l:List α}{k:Nat}{x:α}(h:l[k]?=some x):l.take (k+1)=l.take k++[x]/\l=l.take k++x::l.drop (k+1):=by
 obtain⟨a,rfl⟩:=List.getElem?_eq_some_iff.1 h;refine⟨by rw[List.take_add_one,Dq a];rfl,?_⟩
 conv=>lhs;rw[<-List.take_append_drop k l,List.drop_eq_getElem_cons a]
def mY(f m:Int)(a:List AB)(base:Nat)(W:AA)(v b:AK):Prop:=match B0 f m a with
 |some c=>b=.nilIface/\DV W base v c
 |none=>b=Jm (M8 f m a) 2
theorem JI(y:Nat)(f m W:Int)(g o cp:Nat)(a:List AB)(w:AA)(Z:St w y f m W)(hW:Pu w g o a)(hn:a.length<=1000)(hz:∀s∈a,s.size<=100000)(hU:fP w):
 Calls prog 102 #[.pointer (some ⟨y,0,none⟩),.slice (some ⟨g,o,none⟩) a.length cp] w λe w'=>∃v ev,e=.returned (.tuple #[v,ev])/\mY f m a w.heap.size w' v ev/\AD w.heap.size w w':=by
 obtain⟨i0,I,aA,aB,aC⟩:=info_parts Uj;have J:Hid (∀i,i<a.length->∀X,AD w.heap.size w X->∃s K N E S F t,a[i]?=some s/\X.cell? ⟨g,o+i,none⟩=some (.string s)/\(Hw f m s=if t=true then some (K,N,E,S) else none)/\Hid (∀Y,fP Y->cB 177 #[.int .i64 f,.int .i64 m,.string s] Y (.tuple #[BA K N E S F,.bool t]))):=λi I X z=>by
  have u:=Dq I;obtain⟨K,N,E,S,F,t,h3,h4⟩:=Nl f m a[i];refine⟨a[i],K,N,E,S,F,t,u,(hW.next z).2 i _ u,h4,λY hY=>?_⟩;have:=Oi f m a[i] Y (by have:=hz a[i] (List.getElem_mem I);omega) hY;rw[h3] at this;exact this
 have d:Hid (∀X,AD w.heap.size w X->St X y f m W):=λX z=>Z.next z;have A:Hid (∀X,AD w.heap.size w X->fP X):=λX z=>Utf8Tabs_below hU z;have P:Hid (DV (w.alloc (.cells #[] 78)) w.heap.size (.slice (some ⟨w.heap.size,0,none⟩) 0 0) []/\AD w.heap.size w (w.alloc (.cells #[] 78))):=by
  exact⟨World.ownsRow_made w #[] 0 (AS _) (B9 _) rfl,bA⟩
 clear Z hW hz hU;obtain⟨N,L⟩:=zxe a.length;have af:=zq L.symm;rw[L];rw[L] at J hn;clear L;go_enter func102,ntmps102;go_wp2;go_loopw [6,14] (λv i wr=>∃(k:Nat) (l:List CQ),k<=N/\i=.int .i64 k/\Hid (B0 f m (a.take k)=some l)/\Hid (DV wr w.heap.size v l)/\Hid (AD w.heap.size w wr)) (λ_ i _=>N-(intOf i).toNat);case atStart=>exact⟨0,[],B9 _,rfl,rfl,P.1,P.2⟩
 case round=>
  clear P;obtain⟨k,l,hk,rfl,M,O,c⟩:=hrel;by_cases aG:k<N
  ·obtain⟨s,B,C,D,G,F,t,ag,aY,ah,HR⟩:=J k aG _ c;have aZ:(k:Int)<(N:Int):=by omega
   obtain⟨c0,c1,-,-,-,-⟩:=(d _ c).cells;have aj:=Ab ag ah;have ak:l.length=k:=by rw[MD M.out,FQ];have:=af.out;omega
   have HL:=zq ak;clear ag ah ak;go_upto_region 5 with fail;go_cut [9,10] (λp b Q=>∃r:Nat,p=.pointer (some ⟨r,0,none⟩)/\b=.bool t/\Hid (Q.heap[r]?=some (Ei B C D G F))/\Hid (DV Q w.heap.size u6 l)/\Hid (AD w.heap.size w Q));case first=>
    have aH:=zq (A _ c.drew);have aI:=zq λo=>A _ (c.alloc c.size o).drew;have k0:∀o,(wr.alloc o).cell? ⟨y,0,none⟩=some (.int .i64 f):=λo=>((d _ c).next ((BI _ _).alloc (AS _) o)).cells.1;have k1:∀o,(wr.alloc o).cell? ⟨y,1,none⟩=some (.int .i64 m):=λo=>((d _ c).next ((BI _ _).alloc (AS _) o)).cells.2.1;have kb:=(d _ c).lt;have kn:=Nat.ne_of_lt kb;clear d A J;go_region_with (first
     |(go_at_call 177;refine cm (HR _ (by first|exact aH|exact aI _)) λw5 R=>?_;(first
      |(have n:w5.heap[wr.heap.size]?=some A2:=(R.block wr.heap.size (by simp)).trans (Ao wr _);have q6:=AO n 0;have q7:=AO n 1;have q8:=AO n 2;have q9:=AO n 3;have aO:=AO n 4;have a6:=QZ n;have x:=zq ((bA.drew).trans (R.mono (by simp)));simp only[List.getElem?_toArray,List.getElem?_cons_zero,List.getElem?_cons_succ] at q6 q7 q8 q9 aO)
      |(have x:=zq ((BI wr.heap.size wr).drew.trans R)))))
    all_goals
     go_wp2;go_meet;case rel=>
      first
       |(refine⟨w5.heap.size,rfl,rfl,?_,?_,?_⟩
         all_goals unfold Hid
         ·with_reducible exact Ao _ _
         ·exact O.below (x.alloc x.size _) (AS _)
         ·exact c.trans ((x.alloc x.size _).mono c.size))
       |(have hf:=((((x.setCell (p:=⟨wr.heap.size,0,none⟩) (AS _) (.int .i64 B)).setCell (p:=⟨wr.heap.size,1,none⟩) (AS _) (.bool C)).setCell (p:=⟨wr.heap.size,2,none⟩) (AS _) (.int .i64 D)).setCell (p:=⟨wr.heap.size,3,none⟩) (AS _) (.string G)).setCell (p:=⟨wr.heap.size,4,none⟩) (AS _) (.int .i64 F)
         refine⟨wr.heap.size,rfl,rfl,?_,?_,?_⟩;all_goals unfold Hid
         ·exact Ib.put n _ _ _ _ _
         ·exact O.below hf (AS _)
         ·exact c.trans (hf.mono c.size))
   case rest=>
    obtain⟨r,rfl,rfl,q,T,H⟩:=hcut;clear O c HR;cases t with
    |false=>
     have HQ:Hid (B0 f m a=none/\M8 f m a=s):=by
      obtain⟨u,U⟩:=aj.out;have:=Nk (r:=a.drop (k+1)) M (show Hw f m s=none from U);rw[<-(LJ u).2] at this;exact this
     have hc:=(d _ H).cells;have a8:Hid (wc.cell? ⟨g,o+k,none⟩=wr.cell? ⟨g,o+k,none⟩\/True):=.inr trivial;clear d A q T;go_wp2_with (first|(go_at_call 109;refine(Cy _ _ _).mono ?_;rintro e w6 ⟨rfl,rfl⟩)|go_in);go_ret2;exact⟨_,_,rfl,by unfold mY;rw[HQ.out.1,HQ.out.2];rfl,H⟩
    |true=>
     have q0:=AO q 0;have q1:=AO q 1;have q2:=AO q 2;have q3:=AO q 3;simp only[List.getElem?_toArray,List.getElem?_cons_zero,List.getElem?_cons_succ] at q0 q1 q2 q3;have a9:¬r=wc.heap.size:=Nat.ne_of_lt (Array.getElem?_eq_some_iff.1 q).1;have V:wc.ownsRow w.heap.size 78 4 u6 k (nq l):=by
      have h:=T.out;unfold DV Mf at h;rwa[HL] at h
     have aQ:=H.size;clear T q;go_wp2_with (first|(at_builtin;refine wpList_append_own _ rfl _ _ 88 rfl w.heap.size 78 i0 (.agg #[.int .i64 0,.bool false,.int .i64 0,.string ⟨#[]⟩]) 4 40 underlying88 I aA aB aC rfl (by decide) _ _ _ rfl (V.alloc _) ⟨wc.heap.size,0,none⟩ 1 1 [.int .i64 B,.bool C,.int .i64 D,.string G] rfl rfl (Ut _ _ _ _ _) (RP _ _ _ _) (by unfold maxLen;omega) (by omega) (by simp;omega) ?_)|go_in);intro v' w6 av aw _;have aR:=zq (Below.grown (H.alloc aQ _) aw (by simp;omega) (λj hj=>(V.lt j hj).1));have H6:=zq (NO (p:=(B,C,D,G)) av (by rw[HL]));have aU:Hid (B0 f m (a.take (k+1))=some (l++[(B,C,D,G)])):=by
      obtain⟨u,U⟩:=aj.out;rw[Hid,(LJ u).1];exact Nj M U
     clear av aw V H q0 q1 q2 q3;go_wp2;go_roundw;case rel=>exact⟨k+1,_,by omega,by go_num,aU,H6,aR⟩
     case measure=>simp[intOf];omega
  ·have aV:k=N:=by omega
   subst aV;have HF:Hid (B0 f m a=some l):=by
    have h:=M.out;rwa[af,List.take_length] at h
   clear J d A;go_wp2;go_ret2;exact⟨_,_,rfl,by unfold mY;rw[HF];exact⟨rfl,O⟩,c⟩
def Oz(U:Nat->AK)(a b c:AK):Array AK:=#[a,U 1,U 2,U 3,U 4,U 5,U 6,b,U 8,U 9,U 10,U 11,U 12,U 13,U 14,U 15,U 16,U 17,c,U 19,U 20,U 21,U 22,U 23,U 24,U 25,U 26,U 27,U 28,U 29,U 30,U 31,U 32,U 33,U 34,U 35,U 36,U 37,U 38,U 39,U 40,U 41,U 42,U 43,U 44,U 45,U 46,U 47,U 48,U 49,U 50,U 51,U 52,U 53,U 54,U 55,U 56,U 57,U 58,U 59,U 60,U 61,U 62,U 63,U 64,U 65,U 66,U 67,U 68,U 69,U 70,U 71,U 72,U 73,U 74,U 75,U 76,U 77,U 78,U 79,U 80,U 81,U 82,U 83,U 84,U 85,U 86,U 87,U 88,U 89,U 90,U 91,U 92,U 93,U 94,U 95,U 96,U 97,U 98,U 99,U 100,U 101,U 102,U 103,U 104,U 105,U 106,U 107,U 108,U 109,U 110,U 111,U 112,U 113,U 114,U 115,U 116,U 117,U 118,U 119,U 120,U 121,U 122,U 123,U 124,U 125,U 126,U 127,U 128,U 129,U 130,U 131,U 132,U 133,U 134,U 135,U 136,U 137,U 138,U 139,U 140,U 141,U 142,U 143,U 144,U 145,U 146,U 147,U 148,U 149,U 150,U 151,U 152,U 153,U 154,U 155,U 156,U 157,U 158,U 159,U 160,U 161,U 162,U 163,U 164,U 165,U 166,U 167,U 168,U 169,U 170,U 171,U 172,U 173,U 174,U 175,U 176,U 177,U 178,U 179,U 180,U 181,U 182,U 183,U 184,U 185,U 186,U 187,U 188,U 189,U 190,U 191,U 192,U 193,U 194,U 195,U 196,U 197,U 198,U 199,U 200,U 201,U 202,U 203,U 204,U 205,U 206,U 207,U 208,U 209,U 210,U 211,U 212,U 213,U 214,U 215,U 216,U 217,U 218,U 219,U 220,U 221,U 222,U 223,U 224,U 225,U 226,U 227,U 228,U 229,U 230,U 231,U 232,U 233,U 234,U 235,U 236,U 237,U 238,U 239,U 240,U 241,U 242,U 243,U 244,U 245,U 246,U 247,U 248,U 249,U 250,U 251,U 252,U 253,U 254,U 255,U 256,U 257,U 258,U 259,U 260,U 261,U 262,U 263,U 264,U 265,U 266,U 267,U 268,U 269,U 270,U 271,U 272,U 273,U 274,U 275,U 276,U 277,U 278,U 279,U 280,U 281,U 282,U 283,U 284,U 285,U 286,U 287,U 288,U 289,U 290,U 291,U 292,U 293,U 294,U 295,U 296,U 297,U 298,U 299,U 300,U 301,U 302,U 303,U 304,U 305,U 306,U 307,U 308,U 309,U 310,U 311,U 312,U 313,U 314,U 315,U 316,U 317,U 318,U 319,U 320,U 321,U 322,U 323,U 324,U 325,U 326,U 327,U 328,U 329,U 330,U 331,U 332,U 333,U 334,U 335,U 336,U 337,U 338,U 339,U 340,U 341,U 342]
theorem mM{C:Code}{Q:Exit->Act->AA->Prop}{W:AA}{a:Array AK}{b c d:AK}(h:a=Oz (λi=>a.getD i undef) b c d)(k:∀U,C.wp prog Q {tmps:=Oz U b c d,defers:=[]} W):C.wp prog Q {tmps:=a,defers:=[]} W:=by
 rw[h];exact k _
def UE(w:AA)(B g:Nat)(a:AB)(b:List CQ)(c:Nat)(f m d:Int)(v:AK)(X:AA):Prop:=
 DV X B v b/\X.cell? ⟨g,0,none⟩=some (.string a)/\ET X c f m d/\AD w.heap.size w X/\w.heap.size<=B/\g<X.heap.size
theorem UE.next{w:AA}{B g:Nat}{b:AB}{c:List CQ}{d:Nat}{f m e:Int}{v:AK}{X Y:AA}(h:UE w B g b c d f m e v X)(a:AD X.heap.size X Y):UE w B g b c d f m e v Y:=
 ⟨h.1.below a (AS _),(a.cell (p:=⟨g,0,none⟩) h.2.2.2.2.2).trans h.2.1,h.2.2.1.next a,h.2.2.2.1.trans (a.mono h.2.2.2.1.size),h.2.2.2.2.1,DU h.2.2.2.2.2 a.size⟩
def eo(a g b n:Nat)(F:AK->AA->Prop)(R:Ending->AA->Prop):Prop:=
 ∀(C:Code) (U:Nat->AK) (v:AK) (X:AA),C=BB [1,1,1,1,1,1,1,1,1,1] ((f23.body).getD .skip)->F v X->
  C.wp prog (bodyPost prog f23 R) {tmps:=Oz U (.pointer (some ⟨a,0,none⟩)) (.slice (some ⟨g,0,none⟩) (n+1) b) v,defers:=[]} X
def mR(wr:AA)(p:Option Nat)(W:AA):Prop:=AD wr.heap.size wr W/\∀q,p=some q->Z5 W q/\wr.heap.size<=q
theorem mR.next{wr:AA}{p:Option Nat}{W b:AA}(h:mR wr p W)(c:AD W.heap.size W b):mR wr p b:=
 ⟨h.1.trans (c.mono h.1.size),λq a=>⟨(h.2 q a).1.below c (h.2 q a).1.lt,(h.2 q a).2⟩⟩
theorem mR.lay{wr W:AA}(h:mR wr none W):mR wr (some W.heap.size) (W.alloc A2):=
 ⟨h.1.alloc h.1.size _,λq a=>by cases a;exact⟨Af _ _ _ _ _ _,h.1.size⟩⟩
def mW:List AB:=[{data:=#[97,100,100]},{data:=#[115,117,98]},{data:=#[109,117,108]},{data:=#[100,105,118]},{data:=#[102,109,97]},{data:=#[115,113,114,116]},{data:=#[113,117,97,110,116,105,122,101]},{data:=#[110,101,120,116]},{data:=#[99,111,109,112,97,114,101]},{data:=#[119,111,114,100]}]
theorem m8:∀k∈mW,(k.toList==([102,111,114,109,97,116]:List UInt8))=false/\(k.toList==([109,111,100,101]:List UInt8))=false/\(k.toList==([102,108,97,103,115]:List UInt8))=false:=by
 intro k a;simp only[mW,List.mem_cons,List.not_mem_nil,or_false] at a;rcases a with rfl|rfl|rfl|rfl|rfl|rfl|rfl|rfl|rfl|rfl<;>exact⟨by kernel_rfl,by kernel_rfl,by kernel_rfl⟩
theorem Un(s:AB)(d g T:Nat)(f m D:Int)(w:AA)(o:AB)(hk:o∈mW)(a:List AB)(hn:a.length<=1000)(hz:∀x∈a,x.size<=100000)(A:Int)(R:Ending->AA->Prop)
 (aq:B0 f m a=none->∀X,ET X d f m D->AD w.heap.size w X->R (.returned (.string ey)) X)
 (ar:∀c B,B0 f m a=some c->eo d g T a.length (UE w B g o c d f m D) R):
 js w s d g T a.length A (XE w g T (o::a) d f m D) R:=by
 intro C U X hC G;obtain⟨e1,e2,e3⟩:=m8 o hk;have c0:=G.2.2.1 0 _ rfl;have l:=zq G;have ad:=zq aq;have ae:=zq ar;clear G aq ar hk;subst hC;simp only[f23,BB,Cd,TK];obtain⟨i0,hi,aN,aO,aP⟩:=info_parts Uj;obtain⟨N,hN⟩:=zxe a.length;have ag:=zq hN.symm;have V:Hid (∀i,i<N->∃s K M E S F t,a[i]?=some s/\(Hw f m s=if t=true then some (K,M,E,S) else none)/\Hid (cA 53 #[.int .i64 f,.int .i64 m,.string s] (.tuple #[BA K M E S F,.bool t]))):=λi hi=>by
  have aw:i<a.length:=by omega
  have H:=Dq aw;obtain⟨K,M,E,S,F,t,h3,h4⟩:=Nl f m a[i];refine⟨a[i],K,M,E,S,F,t,H,h4,λY=>?_⟩;have:=Pc f m a[i] Y (by have:=hz a[i] (List.getElem_mem aw);omega);rw[h3] at this;exact this
 have ah:Hid (DV (X.alloc (.cells #[] 78)) X.heap.size (.slice (some ⟨X.heap.size,0,none⟩) 0 0) []/\AD X.heap.size X (X.alloc (.cells #[] 78))):=by
  exact⟨World.ownsRow_made X #[] 0 (AS _) (B9 _) rfl,bA⟩
 rw[hN] at hn ⊢;clear hN hz;go_upto_region 13 with fail;go_wp2_with fail;go_loopw [18,19] (λv i wr=>∃(k:Nat) (c:List CQ),k<=N/\i=.int .i64 ((k:Int)+1)/\Hid (B0 f m (a.take k)=some c)/\Hid (DV wr X.heap.size v c)/\Hid (AD X.heap.size X wr)) (λ_ i _=>N+1-(intOf i).toNat);case atStart=>exact⟨0,[],B9 _,rfl,rfl,ah.1,ah.2⟩
 case round=>
  clear ah;obtain⟨k,c,hk,rfl,y,I,e⟩:=hrel;by_cases aS:k<N
  ·obtain⟨x,J,L,O,P,F,t,ai,ax,HR⟩:=V k aS;obtain⟨aT,bh⟩:(k:Int)+1<(N:Int)+1/\(0:Int)<=(k:Int)+1:=by omega
   have z:=zq (l.next e);obtain⟨c0,c1,-,-,-,-⟩:=Aw z.2.2.2.1;have aV:=z.2.2.1 (k+1) x ai;have Z:=Ab ai ax;have az:c.length=k:=by rw[MD y.out,FQ];have:=ag.out;omega
   have HL:=zq az;clear ai ax az;go_upto_region 34 with fail;go_cut [20,21] from 126 to 140 (λp b wx=>∃r:Nat,p=.pointer (some ⟨r,0,none⟩)/\b=.bool t/\Hid (wx.heap[r]?=some (Ei J L O P F))/\Hid (DV wx X.heap.size u18 c)/\Hid (AD X.heap.size X wx))
   case first=>
    have Q:Hid (∀W,AD wr.heap.size wr W->W.cell? ⟨d,0,none⟩=some (.int .i64 f)/\W.cell? ⟨d,1,none⟩=some (.int .i64 m)/\W.cell? ⟨g,k+1,none⟩=some (.string x)):=λW hW=>⟨(Aw (z.next hW).2.2.2.1).1,(Aw (z.next hW).2.2.2.1).2.1,(z.next hW).2.2.1 (k+1) x Z.1⟩;clear V l;go_region_held3 (λW=>W.cell? ⟨d,0,none⟩=some (.int .i64 f)/\W.cell? ⟨d,1,none⟩=some (.int .i64 m)/\W.cell? ⟨g,k+1,none⟩=some (.string x))
     (first|exact Q _ (BI _ _).drew|exact Q _ n|exact Q _ ((BI _ _).drew.alloc (AS _) _)|exact Q _ (n.alloc n.size _)|exact Q _ (((((n.setCell (p:=⟨wr.heap.size,0,none⟩) (AS _) _).setCell (p:=⟨wr.heap.size,1,none⟩) (AS _) _).setCell (p:=⟨wr.heap.size,2,none⟩) (AS _) _).setCell (p:=⟨wr.heap.size,3,none⟩) (AS _) _).setCell (p:=⟨wr.heap.size,4,none⟩) (AS _) _))
     (first
       |(go_at_call 53;refine cm (HR _) λw5 al=>?_;(first
        |(have q:w5.heap[wr.heap.size]?=some A2:=(al.block wr.heap.size (by simp)).trans (Ao wr _);have q6:=AO q 0;have q7:=AO q 1;have q8:=AO q 2;have q9:=AO q 3;have a0:=AO q 4;have bi:=QZ q;have n:=zq ((((BI _ _).drew).alloc (AS _) _).trans (al.mono (by simp)));simp only[List.getElem?_toArray,List.getElem?_cons_zero,List.getElem?_cons_succ] at q6 q7 q8 q9 a0)
        |(have n:=zq ((BI wr.heap.size wr).drew.trans al)))))
    all_goals
     go_wp2;go_meet;case rel=>
      first
       |(refine⟨w5.heap.size,rfl,rfl,?_,?_,?_⟩
         all_goals unfold Hid
         ·with_reducible exact Ao _ _
         ·exact I.below (n.alloc n.size _) (AS _)
         ·exact e.trans ((n.alloc n.size _).mono e.size))
       |(have hf:=((((n.setCell (p:=⟨wr.heap.size,0,none⟩) (AS _) (.int .i64 J)).setCell (p:=⟨wr.heap.size,1,none⟩) (AS _) (.bool L)).setCell (p:=⟨wr.heap.size,2,none⟩) (AS _) (.int .i64 O)).setCell (p:=⟨wr.heap.size,3,none⟩) (AS _) (.string P)).setCell (p:=⟨wr.heap.size,4,none⟩) (AS _) (.int .i64 F)
         refine⟨wr.heap.size,rfl,rfl,?_,?_,?_⟩;all_goals unfold Hid
         ·exact Ib.put q _ _ _ _ _
         ·exact I.below hf (AS _)
         ·exact e.trans (hf.mono e.size))
   case rest=>
    obtain⟨r,rfl,rfl,u,am,aa⟩:=hcut;have ab:=zq (l.next aa);clear I e HR z c0 c1 aV;cases t with
    |false=>
     have HQ:Hid (B0 f m a=none):=by
      obtain⟨H,h2⟩:=Z.out;have:=Nk (r:=a.drop (k+1)) y (show Hw f m x=none from h2);rw[<-(LJ H).2] at this;exact this.1
     have HG:=zq (ad HQ wc ab.2.2.2.1 ab.2.2.2.2.1);clear u am V ad ae l ab y Z;go_wp2;exact HG
    |true=>
     have q0:=AO u 0;have q1:=AO u 1;have q2:=AO u 2;have q3:=AO u 3;simp only[List.getElem?_toArray,List.getElem?_cons_zero,List.getElem?_cons_succ] at q0 q1 q2 q3;have bj:¬r=wc.heap.size:=Nat.ne_of_lt (Array.getElem?_eq_some_iff.1 u).1;have ao:wc.ownsRow X.heap.size 78 4 u18 k (nq c):=by
      have h:=am.out;unfold DV Mf at h;rwa[HL] at h
     have a3:=aa.size;clear am u ab;go_wp2_with (first|(at_builtin;refine wpList_append_own _ rfl _ _ 88 rfl X.heap.size 78 i0 (.agg #[.int .i64 0,.bool false,.int .i64 0,.string ⟨#[]⟩]) 4 40 underlying88 hi aN aO aP rfl (by decide) _ _ _ rfl (ao.alloc _) ⟨wc.heap.size,0,none⟩ 1 1 [.int .i64 J,.bool L,.int .i64 O,.string P] rfl rfl (Ut _ _ _ _ _) (RP _ _ _ _) (by unfold maxLen;omega) (by omega) (by simp;omega) ?_)|go_in);intro v' w6 aH aI _;have a5:=zq (Below.grown (aa.alloc a3 _) aI (by simp;omega) (λj hj=>(ao.lt j hj).1));have H6:=zq (NO (p:=(J,L,O,P)) aH (by rw[HL]));have a8:Hid (B0 f m (a.take (k+1))=some (c++[(J,L,O,P)])):=by
      obtain⟨H,h2⟩:=Z.out;rw[Hid,(LJ H).1];exact Nj y h2
     clear aH aI ao aa q0 q1 q2 q3;go_wp2;go_roundw;case rel=>exact⟨k+1,_,by omega,by go_num,a8,H6,a5⟩
     case measure=>simp[intOf];omega
  ·have a9:k=N:=by omega
   subst a9;have G:Hid (B0 f m a=some c):=by
    have h:=y.out;rwa[ag,List.take_length] at h
   have HY:Hid (eo d g T k (UE w X.heap.size g o c d f m D) R):=by
    have h:=ae c X.heap.size G;rwa[<-ag] at h
   have bb:Hid (UE w X.heap.size g o c d f m D u18 wr):=⟨I,(l.next e).2.2.1 0 o rfl,(l.next e).2.2.2.1,(l.next e).2.2.2.2.1,l.2.2.2.2.1.size,(l.next e).2.2.2.2.2.2⟩;clear V l ad ae I e y;have aT:¬((k:Int)+1<(k:Int)+1):=by omega
   rename_i K2 a2;have bc:Hid _:=a2;clear a2;go_wp2;refine bc _ _ ?_;refine mM (by kernel_rfl) (λU=>HY _ U _ _ ?_ bb);simp only[f23,BB,Cd]
def gW(U:Nat->AK)(a b:AK):Array AK:=#[a,U 1,U 2,U 3,U 4,U 5,U 6,U 7,U 8,U 9,U 10,U 11,U 12,U 13,U 14,U 15,U 16,U 17,U 18,U 19,U 20,U 21,b,U 23,U 24,U 25,U 26,U 27,U 28,U 29,U 30,U 31,U 32,U 33,U 34,U 35,U 36,U 37,U 38,U 39,U 40,U 41,U 42,U 43,U 44,U 45,U 46,U 47,U 48,U 49,U 50,U 51,U 52,U 53,U 54,U 55,U 56,U 57,U 58,U 59,U 60,U 61,U 62,U 63,U 64,U 65,U 66,U 67,U 68,U 69,U 70,U 71,U 72,U 73,U 74,U 75,U 76,U 77,U 78,U 79,U 80,U 81,U 82,U 83,U 84,U 85,U 86,U 87,U 88,U 89,U 90,U 91,U 92,U 93,U 94,U 95,U 96,U 97,U 98,U 99,U 100,U 101,U 102,U 103,U 104,U 105,U 106,U 107,U 108,U 109,U 110,U 111,U 112,U 113,U 114,U 115,U 116,U 117,U 118,U 119,U 120,U 121,U 122,U 123,U 124,U 125,U 126,U 127,U 128,U 129,U 130,U 131,U 132,U 133,U 134,U 135,U 136,U 137,U 138,U 139,U 140,U 141,U 142,U 143,U 144,U 145,U 146,U 147,U 148,U 149,U 150,U 151,U 152,U 153,U 154,U 155,U 156,U 157,U 158,U 159,U 160,U 161,U 162,U 163,U 164,U 165,U 166,U 167,U 168,U 169,U 170,U 171,U 172,U 173,U 174,U 175,U 176,U 177,U 178,U 179,U 180,U 181,U 182,U 183,U 184,U 185,U 186,U 187,U 188,U 189,U 190,U 191,U 192,U 193,U 194,U 195,U 196,U 197,U 198,U 199,U 200,U 201,U 202,U 203,U 204,U 205,U 206,U 207,U 208,U 209,U 210,U 211,U 212,U 213,U 214,U 215,U 216,U 217,U 218,U 219,U 220,U 221,U 222,U 223,U 224,U 225,U 226,U 227,U 228,U 229,U 230,U 231,U 232,U 233,U 234,U 235,U 236,U 237,U 238,U 239,U 240,U 241,U 242,U 243,U 244,U 245,U 246,U 247,U 248,U 249,U 250,U 251,U 252,U 253,U 254,U 255,U 256,U 257,U 258,U 259,U 260,U 261,U 262,U 263,U 264,U 265,U 266,U 267,U 268,U 269,U 270,U 271,U 272,U 273,U 274,U 275,U 276,U 277,U 278,U 279,U 280,U 281,U 282,U 283,U 284,U 285,U 286,U 287,U 288,U 289,U 290,U 291,U 292,U 293,U 294,U 295,U 296,U 297,U 298,U 299,U 300,U 301,U 302,U 303,U 304,U 305,U 306,U 307,U 308,U 309,U 310,U 311,U 312,U 313,U 314,U 315,U 316,U 317,U 318,U 319,U 320,U 321,U 322,U 323,U 324,U 325,U 326,U 327,U 328,U 329,U 330,U 331,U 332,U 333,U 334,U 335,U 336,U 337,U 338,U 339,U 340,U 341,U 342]
theorem Gw{C:Code}{Q:Exit->Act->AA->Prop}{W:AA}{a:Array AK}{b c:AK}(h:a=gW (λi=>a.getD i undef) b c)(k:∀U,C.wp prog Q {tmps:=gW U b c,defers:=[]} W):C.wp prog Q {tmps:=a,defers:=[]} W:=by
 rw[h];exact k _
def WO(c:AB)(w:AA)(a:Nat)(f m d:Int)(e:Ending)(b:AA):Prop:=e=.returned (.string c)/\ET b a f m d/\w.grownBy b (some a)
theorem Ed(w:AA)(a r:Nat)(f m:Int)(d c:Nat)(M:d<32)(N:c<32)(k:Int)(b:Bool)(e:Int)(g:AB)(aa:g.size<=100000)(C:Code)(U:Nat->AK)(X:AA)
 (i:C=BB [1,1,1,1,1,1,1,1,1,1,1,1] ((f23.body).getD .skip)) (j:A5 X r k b e g c) (s:ET X a f m d) (t:AD w.heap.size w X) (hr:w.heap.size<=r):
 C.wp prog (bodyPost prog f23 (WO (FI k b e g) w a f m (bits .or .i64 (d:Int) (c:Int)))) {tmps:=gW U (.pointer (some ⟨a,0,none⟩)) (.pointer (some ⟨r,0,none⟩)),defers:=[]} X:=by
 have B:Hid (cA 66 #[.int .i64 d,.int .i64 c] (.int .i64 (bits .or .i64 (d:Int) (c:Int)))):=λW=>(Ot d c M N W).mono (by rintro e w' ⟨rfl,rfl⟩;exact⟨rfl,BI _ _⟩);have D:=zq λW=>Pe k b e g W (by omega);have O:r≠a:=λq=>by
  subst q;have P:X.heap[r]?=_:=j;have E:X.heap[r]?=_:=s;rw[P] at E;simp at E
 have l:Hid (∀W,AD X.heap.size X W->A5 W r k b e g c/\ET W a f m d/\AD w.heap.size w W):=λW u=>⟨j.below u j.lt,s.next u,t.trans (u.mono t.size)⟩;have F:=dR X;generalize FI k b e g=ad at*
 generalize bits .or .i64 (d:Int) (c:Int)=h at*
 clear j s t;subst i;simp only[f23,BB,Cd,gW];go_upto_region 66 with fail;refine AM (C:=AD X.heap.size X) 10 F ?_;simp only[Hy,List.take_zero,Ia,List.drop_zero];repeat (go_big_quiet_step ((intro i;rename_i v;first|exact rfl|((with_reducible refine Calls.class_of (B.out v) ?_);exactλw' Q=>BQ i Q)|(obtain⟨x,y,z,-,-,-⟩:=Aw (l.out v i).2.1;go_simp;exact rfl)|(obtain⟨x,y,z,G,H,-⟩:=(l.out v i).1.cells;go_simp;exact rfl))))
 refine wpQuiet_nil ?_;intro n I;obtain⟨J,o,K⟩:=l n I;obtain⟨R,S,T,V,Y,Z⟩:=Aw o;have p:Hid (A5 (n.setCell ⟨a,2,none⟩ (.int .i64 h)) r k b e g c/\ET (n.setCell ⟨a,2,none⟩ (.int .i64 h)) a f m h/\w.grownBy (n.setCell ⟨a,2,none⟩ (.int .i64 h)) (some a)):=
  ⟨(Below.heap_setCell _ _ _ _ O).trans J,(IZ o h).2.2.1,CM (B2 K a) (IZ o h).2.2.2⟩
 obtain⟨x,y,z,G,H,-⟩:=p.1.cells;clear J o K I l F B;go_wp2_with fail;refine cm (D _) λw2 A=>?_;have L:=Ab (p.2.1.next A) (CM p.2.2 (B2 A a));clear A p D x y z G H R S T V Y Z;go_wp2;go_ret;exact⟨rfl,L.1,L.2⟩
theorem iU(f m:Int)(l:List UInt8):XL f m l=.tuple #[BA 0 false 0 {data:=#[]} 0,.bool false]\/∃k b e s F,XL f m l=.tuple #[BA k b e s F,.bool true]/\AQ f k b e s=true:=by
 unfold XL;split
 ·rename_i h;have a:AF f≠0:=by rcases h.1 with rfl|rfl<;>decide
  have j:=VP l;unfold PR;split
  ·rename_i c;refine .inr ⟨_,_,_,_,_,rfl,?_⟩;unfold AQ;rw[zyn a];rcases Yo ((Pn l).map CS) with q|q|q|q
   ·exact absurd q c
   ·rw[q,zyn (by decide),zyp rfl,ByteArray.toList_eq];rfl
   ·rw[q,zyn (by decide),zyn (by decide),zyp (by decide),ByteArray.toList_eq];cases SO l<;>rfl
   ·rw[q,zyn (by decide),zyn (by decide),zyp (by decide),ByteArray.toList_eq];cases SO l<;>rfl
  ·cases hx:Ch (bz (Pn l)) [] with
   |none=>exact .inl rfl
   |some x=>
    obtain⟨D,n,o,P⟩:=x;have d:(bz (Pn l)).length<=200:=by unfold bz;rw[List.length_map];omega
    obtain⟨g,i,p⟩:=PN hx d;exact .inr ⟨_,_,_,_,_,rfl,Sq f h.1 m _ _ _ _ g i⟩
 ·exact .inl rfl
def NY(f:Int)(n:CQ):Bool:=AQ f n.1 n.2.1 n.2.2.1 n.2.2.2
theorem Wq{f m:Int}{s:AB}{n:CQ}(h:Hw f m s=some n):NY f n=true:=by
 unfold Hw at h;rcases iU f m s.data.toList with q|⟨k,b,e,t,F,q,c⟩
 ·rw[q] at h;have a:(none:Option CQ)=some n:=h;cases a
 ·rw[q] at h;have a:some ((k,b,e,t):CQ)=some n:=h;injection a with a
  subst a;exact c
theorem Ni{f m:Int}:∀{l:List AB} {ns:List CQ},B0 f m l=some ns->∀n∈ns,NY f n=true
 |[],ns,h=>by
  simp[B0] at h;subst h;exactλn b=>by cases b
 |s::l,ns,h=>by
  unfold B0 at h;cases h1:Hw f m s with
  |none=>rw[h1] at h;simp at h
  |some n=>
   cases h2:B0 f m l with
   |none=>rw[h1,h2] at h;simp at h
   |some r=>
    rw[h1,h2] at h;simp at h;subst h;have c:=Ni h2;intro x a;rcases List.mem_cons.1 a with rfl|a
    ·exact Wq h1
    ·exact c x a
theorem Am{f:Int}{n:CQ}(h:NY f n=true):(f=64\/f=128)/\n.2.2.2.size<=34:=⟨(C2 _ _ _ _ _ h).1,(C2 _ _ _ _ _ h).2.2.1⟩
abbrev D6(n:CQ):AK:=AH n.1 n.2.1 n.2.2.1 n.2.2.2
def fG(F:Nat)(args:Array AK)(k:Int)(b:Bool)(e:Int)(a:AB)(c:Nat):Prop:=cA F args (BA k b e a (c:Int))
theorem Eh{W:AA}{a r:Nat}{f m b:Int}(h:ET W a f m b){x y z u v:AK}(d:Ib W r x y z u v)(cs:Array AK):ET (W.setRow r cs) a f m b:=(setRow_other W r a cs (λq=>by
 subst q;have e:W.heap[a]?=_:=d;have c:W.heap[a]?=_:=h;rw[e] at c;simp at c)).trans h
theorem Lj(w:AA)(B A g aj:Nat)(f m:Int)(D a:Nat)(V:D<32)(Y:a<32)(x y:CQ)(k:Int)(b:Bool)(e:Int)(c:AB)(Z:c.size<=100000)(R:AB)(n:Nat)
 (hk:(R={data:=#[97,100,100]}/\fG 54 #[.int .i64 f,.int .i64 m,D6 x,D6 y] k b e c a)\/(R={data:=#[115,117,98]}/\fG 55 #[.int .i64 f,.int .i64 m,D6 x,D6 y] k b e c a)\/(R={data:=#[109,117,108]}/\fG 56 #[.int .i64 f,.int .i64 m,D6 x,D6 y] k b e c a)\/(R={data:=#[100,105,118]}/\fG 57 #[.int .i64 f,.int .i64 m,D6 x,D6 y] k b e c a)\/(R={data:=#[113,117,97,110,116,105,122,101]}/\fG 60 #[.int .i64 f,.int .i64 m,D6 x,D6 y] k b e c a)):
 eo A g aj n (UE w B g R [x,y] A f m D) (WO (FI k b e c) w A f m (bits .or .i64 (D:Int) (a:Int))):=by
 intro C U v X s O;obtain⟨q,cp,rfl,aa,al,hq⟩:=F5 O.1 (by simp);have aq:(1:Int)<(n:Int)+1\/True:=.inr trivial;have c0:=O.2.1;have ac:AD X.heap.size X (X.alloc A2):=bA;have h:Hid (∀W,AD (X.alloc A2).heap.size (X.alloc A2) W->Z5 W X.heap.size/\ET W A f m D/\AD w.heap.size w W/\W.cell? ⟨g,0,none⟩=some (.string R)/\∀(i:Nat) (S:CQ),[x,y][i]?=some S->W.cell? ⟨q,i*4,none⟩=some (.int .i64 S.1)/\W.cell? ⟨q,i*4+1,none⟩=some (.bool S.2.1)/\W.cell? ⟨q,i*4+2,none⟩=some (.int .i64 S.2.2.1)/\W.cell? ⟨q,i*4+3,none⟩=some (.string S.2.2.2)):=λW hW=>by
  have d:=Af X (.int .i64 0) (.bool false) (.int .i64 0) (.string ⟨#[]⟩) (.int .i64 0);have T:=ac.trans (hW.mono ac.size);refine⟨d.below hW d.lt,O.2.2.1.next T,O.2.2.2.1.trans (T.mono O.2.2.2.1.size),(T.cell (p:=⟨g,0,none⟩) O.2.2.2.2.2).trans c0,λi S hi=>?_⟩;obtain⟨a0,a1,a2,a3⟩:=hq i S hi;exact⟨(T.cell aa).trans a0,(T.cell aa).trans a1,(T.cell aa).trans a2,(T.cell aa).trans a3⟩
 have M:=zq O.2.2.2.1.size;have c1:=(ac.cell (p:=⟨g,0,none⟩) O.2.2.2.2.2).trans c0;have au:∀w,(Instr.build 90 #[]).run prog w=.ok (BA 0 false 0 {data:=#[]} 0) w:=λw=>run_build w _ _ _ (by kernel_rfl);clear O hq aa al ac;subst s;simp only[f23,BB,Cd,Oz];go_upto_region 39 with fail;generalize (X.alloc A2)=L at*
 rename_i K2 a2 K1 a1;have ab:Hid _:=a2;clear a2;have N:=dR L;rcases hk with⟨rfl,E⟩|⟨rfl,E⟩|⟨rfl,E⟩|⟨rfl,E⟩|⟨rfl,E⟩
 ·have F:Hid _:=E;clear E;go_upto_region 46 with fail;refine AM (C:=AD L.heap.size L) 14 N ?_;simp only[Hy,List.take_zero,Ia,List.drop_zero];repeat (go_big_quiet_step ((intro s;rename_i t;first|exact rfl|(obtain⟨j,l,o,-,-,-⟩:=Aw (h t s).2.1;go_simp;exact rfl)|(obtain⟨j,l,o,u⟩:=(h t s).2.2.2.2 0 _ rfl;simp only[Nat.zero_mul,Nat.zero_add] at j l o u;go_simp;exact rfl)|(obtain⟨j,l,o,u⟩:=(h t s).2.2.2.2 1 _ rfl;simp only[Nat.one_mul,Nat.reduceAdd] at j l o u;go_simp;exact rfl))))
  refine wpQuiet_nil ?_;intro w1 G;have z:=zq G;clear G;go_wp2_with fail;refine cm (F _) λr H=>?_;obtain⟨d,I,J,-,-⟩:=h r (z.trans (H.mono z.size));have P:=zq d;have Q:Hid (A5 (r.setRow X.heap.size #[.int .i64 k,.bool b,.int .i64 e,.string c,.int .i64 (a:Int)]) X.heap.size k b e c (a:Int)):=d.row _ _ _ _ _;have K:Hid (ET (r.setRow X.heap.size #[.int .i64 k,.bool b,.int .i64 e,.string c,.int .i64 (a:Int)]) A f m D/\AD w.heap.size w (r.setRow X.heap.size #[.int .i64 k,.bool b,.int .i64 e,.string c,.int .i64 (a:Int)])):=⟨Eh I d _,AC J M.out _⟩;clear d I J H h N z F;go_wp2_with (refine sR P k b e c (a:Int) ?_);refine ab _ _ ?_;refine Gw (by kernel_rfl) (λU=>Ed w A X.heap.size f m D a V Y k b e c Z _ U _ ?_ Q K.1 K.2 M);simp only[f23,BB,Cd]
 ·have F:Hid _:=E;clear E;go_upto_region 48 with fail;refine AM (C:=AD L.heap.size L) 14 N ?_;simp only[Hy,List.take_zero,Ia,List.drop_zero];repeat (go_big_quiet_step ((intro s;rename_i t;first|exact rfl|(obtain⟨j,l,o,-,-,-⟩:=Aw (h t s).2.1;go_simp;exact rfl)|(obtain⟨j,l,o,u⟩:=(h t s).2.2.2.2 0 _ rfl;simp only[Nat.zero_mul,Nat.zero_add] at j l o u;go_simp;exact rfl)|(obtain⟨j,l,o,u⟩:=(h t s).2.2.2.2 1 _ rfl;simp only[Nat.one_mul,Nat.reduceAdd] at j l o u;go_simp;exact rfl))))
  refine wpQuiet_nil ?_;intro w1 G;have z:=zq G;clear G;go_wp2_with fail;refine cm (F _) λr H=>?_;obtain⟨d,I,J,-,-⟩:=h r (z.trans (H.mono z.size));have P:=zq d;have Q:Hid (A5 (r.setRow X.heap.size #[.int .i64 k,.bool b,.int .i64 e,.string c,.int .i64 (a:Int)]) X.heap.size k b e c (a:Int)):=d.row _ _ _ _ _;have K:Hid (ET (r.setRow X.heap.size #[.int .i64 k,.bool b,.int .i64 e,.string c,.int .i64 (a:Int)]) A f m D/\AD w.heap.size w (r.setRow X.heap.size #[.int .i64 k,.bool b,.int .i64 e,.string c,.int .i64 (a:Int)])):=⟨Eh I d _,AC J M.out _⟩;clear d I J H h N z F;go_wp2_with (refine sR P k b e c (a:Int) ?_);refine ab _ _ ?_;refine Gw (by kernel_rfl) (λU=>Ed w A X.heap.size f m D a V Y k b e c Z _ U _ ?_ Q K.1 K.2 M);simp only[f23,BB,Cd]
 ·have F:Hid _:=E;clear E;go_upto_region 50 with fail;refine AM (C:=AD L.heap.size L) 14 N ?_;simp only[Hy,List.take_zero,Ia,List.drop_zero];repeat (go_big_quiet_step ((intro s;rename_i t;first|exact rfl|(obtain⟨j,l,o,-,-,-⟩:=Aw (h t s).2.1;go_simp;exact rfl)|(obtain⟨j,l,o,u⟩:=(h t s).2.2.2.2 0 _ rfl;simp only[Nat.zero_mul,Nat.zero_add] at j l o u;go_simp;exact rfl)|(obtain⟨j,l,o,u⟩:=(h t s).2.2.2.2 1 _ rfl;simp only[Nat.one_mul,Nat.reduceAdd] at j l o u;go_simp;exact rfl))))
  refine wpQuiet_nil ?_;intro w1 G;have z:=zq G;clear G;go_wp2_with fail;refine cm (F _) λr H=>?_;obtain⟨d,I,J,-,-⟩:=h r (z.trans (H.mono z.size));have P:=zq d;have Q:Hid (A5 (r.setRow X.heap.size #[.int .i64 k,.bool b,.int .i64 e,.string c,.int .i64 (a:Int)]) X.heap.size k b e c (a:Int)):=d.row _ _ _ _ _;have K:Hid (ET (r.setRow X.heap.size #[.int .i64 k,.bool b,.int .i64 e,.string c,.int .i64 (a:Int)]) A f m D/\AD w.heap.size w (r.setRow X.heap.size #[.int .i64 k,.bool b,.int .i64 e,.string c,.int .i64 (a:Int)])):=⟨Eh I d _,AC J M.out _⟩;clear d I J H h N z F;go_wp2_with (refine sR P k b e c (a:Int) ?_);refine ab _ _ ?_;refine Gw (by kernel_rfl) (λU=>Ed w A X.heap.size f m D a V Y k b e c Z _ U _ ?_ Q K.1 K.2 M);simp only[f23,BB,Cd]
 ·have F:Hid _:=E;clear E;go_upto_region 52 with fail;refine AM (C:=AD L.heap.size L) 14 N ?_;simp only[Hy,List.take_zero,Ia,List.drop_zero];repeat (go_big_quiet_step ((intro s;rename_i t;first|exact rfl|(obtain⟨j,l,o,-,-,-⟩:=Aw (h t s).2.1;go_simp;exact rfl)|(obtain⟨j,l,o,u⟩:=(h t s).2.2.2.2 0 _ rfl;simp only[Nat.zero_mul,Nat.zero_add] at j l o u;go_simp;exact rfl)|(obtain⟨j,l,o,u⟩:=(h t s).2.2.2.2 1 _ rfl;simp only[Nat.one_mul,Nat.reduceAdd] at j l o u;go_simp;exact rfl))))
  refine wpQuiet_nil ?_;intro w1 G;have z:=zq G;clear G;go_wp2_with fail;refine cm (F _) λr H=>?_;obtain⟨d,I,J,-,-⟩:=h r (z.trans (H.mono z.size));have P:=zq d;have Q:Hid (A5 (r.setRow X.heap.size #[.int .i64 k,.bool b,.int .i64 e,.string c,.int .i64 (a:Int)]) X.heap.size k b e c (a:Int)):=d.row _ _ _ _ _;have K:Hid (ET (r.setRow X.heap.size #[.int .i64 k,.bool b,.int .i64 e,.string c,.int .i64 (a:Int)]) A f m D/\AD w.heap.size w (r.setRow X.heap.size #[.int .i64 k,.bool b,.int .i64 e,.string c,.int .i64 (a:Int)])):=⟨Eh I d _,AC J M.out _⟩;clear d I J H h N z F;go_wp2_with (refine sR P k b e c (a:Int) ?_);refine ab _ _ ?_;refine Gw (by kernel_rfl) (λU=>Ed w A X.heap.size f m D a V Y k b e c Z _ U _ ?_ Q K.1 K.2 M);simp only[f23,BB,Cd]
 ·have F:Hid _:=E;clear E;go_upto_region 58 with fail;refine AM (C:=AD L.heap.size L) 14 N ?_;simp only[Hy,List.take_zero,Ia,List.drop_zero];repeat (go_big_quiet_step ((intro s;rename_i t;first|exact rfl|(obtain⟨j,l,o,-,-,-⟩:=Aw (h t s).2.1;go_simp;exact rfl)|(obtain⟨j,l,o,u⟩:=(h t s).2.2.2.2 0 _ rfl;simp only[Nat.zero_mul,Nat.zero_add] at j l o u;go_simp;exact rfl)|(obtain⟨j,l,o,u⟩:=(h t s).2.2.2.2 1 _ rfl;simp only[Nat.one_mul,Nat.reduceAdd] at j l o u;go_simp;exact rfl))))
  refine wpQuiet_nil ?_;intro w1 G;have z:=zq G;clear G;go_wp2_with fail;refine cm (F _) λr H=>?_;obtain⟨d,I,J,-,-⟩:=h r (z.trans (H.mono z.size));have P:=zq d;have Q:Hid (A5 (r.setRow X.heap.size #[.int .i64 k,.bool b,.int .i64 e,.string c,.int .i64 (a:Int)]) X.heap.size k b e c (a:Int)):=d.row _ _ _ _ _;have K:Hid (ET (r.setRow X.heap.size #[.int .i64 k,.bool b,.int .i64 e,.string c,.int .i64 (a:Int)]) A f m D/\AD w.heap.size w (r.setRow X.heap.size #[.int .i64 k,.bool b,.int .i64 e,.string c,.int .i64 (a:Int)])):=⟨Eh I d _,AC J M.out _⟩;clear d I J H h N z F;go_wp2_with (refine sR P k b e c (a:Int) ?_);refine ab _ _ ?_;refine Gw (by kernel_rfl) (λU=>Ed w A X.heap.size f m D a V Y k b e c Z _ U _ ?_ Q K.1 K.2 M);simp only[f23,BB,Cd]
def gr(d f:Nat)(g h:Array AK):Prop:=∃(k:Int) (b:Bool) (e:Int) (a:AB) (c:Nat),fG d g k b e a c/\fG f h k b e a c/\a.size<=100000/\c<32
theorem Gg(b c:Nat)(d f:Array AK)(n:Bool)(R:Int×Int×AB×Int)(h:RW R)(i:cA b d (BE n R))(j:cA c f (BE n R)):gr b c d f:=by
 obtain⟨k,e,s,a⟩:=R;obtain⟨l,m,o⟩:=h;obtain⟨g,p⟩:∃g:Nat,a=(g:Int):=⟨a.toNat,by have:(0:Int)<=a:=m;omega⟩;subst p;exact⟨k,n,e,s,g,i,j,l,by have:(g:Int)<32:=o;omega⟩
theorem A3{n:AB}(h:n.size<=34):n.size<=4611686018427387904:=by omega
theorem ZE(f m:Int)(k:Int)(n:Bool)(e:Int)(s:AB)(w:AA)(g:s.size<=4611686018427387904):
 cB 37 #[.int .i64 f,.int .i64 m,AH k n e s] w (BE (gj f k n e s).1 (gj f k n e s).2):=by
 have H:=zq λX=>Sy f k n e s X g;generalize gj f k n e s=R at*
 obtain⟨h,i,j,l,o⟩:=R;clear g;have a:Hid (Z5 ((w.alloc (AY k n e s)).alloc A2) (w.heap.size+1)):=by
  have q:=Af (w.alloc (AY k n e s)) (.int .i64 0) (.bool false) (.int .i64 0) (.string ⟨#[]⟩) (.int .i64 0);rw[show(w.alloc (AY k n e s)).heap.size=w.heap.size+1 by simp] at q;exact q
 have b:AD w.heap.size w ((w.alloc (AY k n e s)).alloc A2):=bA.alloc (by simp) _;have p:w.heap.size+1<((w.alloc (AY k n e s)).alloc A2).heap.size:=a.lt;go_enter func37,ntmps37;go_wp2_with fail;refine cm (H _) λr c=>?_;have d:=Ab (a.below c p) (b.trans (c.mono b.size));clear a b p c H;go_wp2_with (refine sR d.1 i h j l o ?_);refine rR (A1 d.1 i h j l o) ?_;exact⟨rfl,AC d.2 (by omega) _⟩
theorem gt(f m:Int)(x y:CQ)(a:NY f x=true)(b:NY f y=true):gr 28 54 #[.int .i64 f,.int .i64 m,D6 x,D6 y] #[.int .i64 f,.int .i64 m,D6 x,D6 y]:=
 Gg _ _ _ _ _ _ (QA f m (Am a).1 _ _ _ _ _ _ _ _) (λW=>Qh f m _ _ _ _ _ _ _ _ W (A3 (Am a).2) (A3 (Am b).2)) λW=>VF f m _ _ _ _ _ _ _ _ W (A3 (Am a).2) (A3 (Am b).2)
theorem gx(f m:Int)(x y:CQ)(a:NY f x=true)(b:NY f y=true):gr 29 55 #[.int .i64 f,.int .i64 m,D6 x,D6 y] #[.int .i64 f,.int .i64 m,D6 x,D6 y]:=
 Gg _ _ _ _ _ _ (QA f m (Am a).1 _ _ _ _ _ _ _ _) (λW=>Yg f m _ _ _ _ _ _ _ _ W (A3 (Am a).2) (A3 (Am b).2)) λW=>ip f m _ _ _ _ _ _ _ _ W (A3 (Am a).2) (A3 (Am b).2)
theorem gw(f m:Int)(x y:CQ)(a:NY f x=true)(b:NY f y=true):gr 30 56 #[.int .i64 f,.int .i64 m,D6 x,D6 y] #[.int .i64 f,.int .i64 m,D6 x,D6 y]:=
 Gg _ _ _ _ _ _ (ZC f m (Am a).1 _ _ _ _ _ _ _ _) (λW=>Yc f m _ _ _ _ _ _ _ _ W (A3 (Am a).2) (A3 (Am b).2)) λW=>im f m _ _ _ _ _ _ _ _ W (A3 (Am a).2) (A3 (Am b).2)
theorem gu(f m:Int)(x y:CQ)(a:NY f x=true)(b:NY f y=true):gr 31 57 #[.int .i64 f,.int .i64 m,D6 x,D6 y] #[.int .i64 f,.int .i64 m,D6 x,D6 y]:=
 Gg _ _ _ _ _ _ (fk f m (Am a).1 _ _ _ _ _ _ _ _) (λW=>Ya f m _ _ _ _ _ _ _ _ W (A3 (Am a).2) (A3 (Am b).2)) λW=>Z6 f m _ _ _ _ _ _ _ _ W (A3 (Am a).2) (A3 (Am b).2)
theorem PD(f m:Int)(x y:CQ)(a:NY f x=true)(b:NY f y=true):gr 36 60 #[.int .i64 f,.int .i64 m,D6 x,D6 y] #[.int .i64 f,.int .i64 m,D6 x,D6 y]:=
 Gg _ _ _ _ _ _ (iT f m (Am a).1 _ _ _ _ _ _ _ _) (λW=>Mt f m _ _ _ _ _ _ _ _ W (A3 (Am a).2) (A3 (Am b).2)) λW=>NC f m _ _ _ _ _ _ _ _ W (A3 (Am a).2) (A3 (Am b).2)
theorem gv(f m:Int)(x y z:CQ)(a:NY f x=true)(b:NY f y=true)(c:NY f z=true):gr 33 58 #[.int .i64 f,.int .i64 m,D6 x,D6 y,D6 z] #[.int .i64 f,.int .i64 m,D6 x,D6 y,D6 z]:=
 Gg _ _ _ _ _ _ (YF f m (Am a).1 _ _ _ _ _ _ _ _ _ _ _ _) (λW=>Yb f m _ _ _ _ _ _ _ _ _ _ _ _ W (A3 (Am a).2) (A3 (Am b).2) (A3 (Am c).2)) λW=>il f m _ _ _ _ _ _ _ _ _ _ _ _ W (A3 (Am a).2) (A3 (Am b).2) (A3 (Am c).2)
theorem ZP(f m:Int)(x:CQ)(a:NY f x=true):gr 35 59 #[.int .i64 f,.int .i64 m,D6 x] #[.int .i64 f,.int .i64 m,D6 x]:=by
 obtain⟨S,b,c⟩:=iz f x.2.2.1 x.2.2.2;exact Gg _ _ _ _ _ _ (ix f m (Am a).1 x.1 x.2.1 x.2.2.1 x.2.2.2 S b) (λW=>WC f m _ _ _ _ S b W (A3 (Am a).2) c) λW=>Ww f m _ _ _ _ S b W (A3 (Am a).2) c
theorem ZO(f m:Int)(x:CQ)(a:NY f x=true):gr 37 61 #[.int .i64 f,.int .i64 m,D6 x] #[.int .i64 f,D6 x]:=
 Gg _ _ _ _ _ _ (gl f (Am a).1 x.1 x.2.1 x.2.2.1 x.2.2.2) (λW=>ZE f m _ _ _ _ W (A3 (Am a).2)) λW=>Ry f _ _ _ _ W (A3 (Am a).2)
theorem Y1(w:AA)(B l g ah:Nat)(f m:Int)(o a:Nat)(Z:o<32)(aa:a<32)(x:CQ)(k:Int)(b:Bool)(e:Int)(c:AB)(ab:c.size<=100000)(O:AB)(n:Nat)
 (hk:(O={data:=#[115,113,114,116]}/\fG 59 #[.int .i64 f,.int .i64 m,D6 x] k b e c a)\/(O={data:=#[110,101,120,116]}/\fG 61 #[.int .i64 f,D6 x] k b e c a)):
 eo l g ah n (UE w B g O [x] l f m o) (WO (FI k b e c) w l f m (bits .or .i64 (o:Int) (a:Int))):=by
 intro C U v X s h;obtain⟨q,cp,rfl,z,aj,hq⟩:=F5 h.1 (by simp);have ap:(1:Int)<(n:Int)+1\/True:=.inr trivial;have c0:=h.2.1;have P:AD X.heap.size X (X.alloc A2):=bA;have r:Hid (∀W,AD (X.alloc A2).heap.size (X.alloc A2) W->Z5 W X.heap.size/\ET W l f m o/\AD w.heap.size w W/\W.cell? ⟨g,0,none⟩=some (.string O)/\∀(i:Nat) (t:CQ),[x][i]?=some t->W.cell? ⟨q,i*4,none⟩=some (.int .i64 t.1)/\W.cell? ⟨q,i*4+1,none⟩=some (.bool t.2.1)/\W.cell? ⟨q,i*4+2,none⟩=some (.int .i64 t.2.2.1)/\W.cell? ⟨q,i*4+3,none⟩=some (.string t.2.2.2)):=λW hW=>by
  have d:=Af X (.int .i64 0) (.bool false) (.int .i64 0) (.string ⟨#[]⟩) (.int .i64 0);have u:=P.trans (hW.mono P.size);refine⟨d.below hW d.lt,h.2.2.1.next u,h.2.2.2.1.trans (u.mono h.2.2.2.1.size),(u.cell (p:=⟨g,0,none⟩) h.2.2.2.2.2).trans c0,λi t hi=>?_⟩;obtain⟨a0,a1,Q,a3⟩:=hq i t hi;exact⟨(u.cell z).trans a0,(u.cell z).trans a1,(u.cell z).trans Q,(u.cell z).trans a3⟩
 have R:=zq h.2.2.2.1.size;have c1:=(P.cell (p:=⟨g,0,none⟩) h.2.2.2.2.2).trans c0;have ar:∀w,(Instr.build 90 #[]).run prog w=.ok (BA 0 false 0 {data:=#[]} 0) w:=λw=>run_build w _ _ _ (by kernel_rfl);clear h hq z aj P;subst s;simp only[f23,BB,Cd,Oz];go_upto_region 39 with fail;generalize (X.alloc A2)=A at*
 rename_i K2 Q K1 a1;have ag:Hid _:=Q;clear Q;have S:=dR A;rcases hk with⟨rfl,D⟩|⟨rfl,D⟩
 ·have E:Hid _:=D;clear D;go_upto_region 56 with fail;refine AM (C:=AD A.heap.size A) 11 S ?_;simp only[Hy,List.take_zero,Ia,List.drop_zero];repeat (go_big_quiet_step ((intro s;rename_i F;first|exact rfl|(obtain⟨G,H,I,-,-,-⟩:=Aw (r F s).2.1;go_simp;exact rfl)|(obtain⟨G,H,I,T⟩:=(r F s).2.2.2.2 0 _ rfl;simp only[Nat.zero_mul,Nat.zero_add] at G H I T;go_simp;exact rfl))))
  refine wpQuiet_nil ?_;intro w1 J;have y:=zq J;clear J;go_wp2_with fail;refine cm (E _) λj K=>?_;obtain⟨d,L,M,-,-⟩:=r j (y.trans (K.mono y.size));have V:=zq d;have Y:Hid (A5 (j.setRow X.heap.size #[.int .i64 k,.bool b,.int .i64 e,.string c,.int .i64 (a:Int)]) X.heap.size k b e c (a:Int)):=d.row _ _ _ _ _;have N:Hid (ET (j.setRow X.heap.size #[.int .i64 k,.bool b,.int .i64 e,.string c,.int .i64 (a:Int)]) l f m o/\AD w.heap.size w (j.setRow X.heap.size #[.int .i64 k,.bool b,.int .i64 e,.string c,.int .i64 (a:Int)])):=⟨Eh L d _,AC M R.out _⟩;clear d L M K r S y E;go_wp2_with (refine sR V k b e c (a:Int) ?_);refine ag _ _ ?_;refine Gw (by kernel_rfl) (λU=>Ed w l X.heap.size f m o a Z aa k b e c ab _ U _ ?_ Y N.1 N.2 R);simp only[f23,BB,Cd]
 ·have E:Hid _:=D;clear D;go_upto_region 60 with fail;refine AM (C:=AD A.heap.size A) 7 S ?_;simp only[Hy,List.take_zero,Ia,List.drop_zero];repeat (go_big_quiet_step ((intro s;rename_i F;first|exact rfl|(obtain⟨G,H,I,-,-,-⟩:=Aw (r F s).2.1;go_simp;exact rfl)|(obtain⟨G,H,I,T⟩:=(r F s).2.2.2.2 0 _ rfl;simp only[Nat.zero_mul,Nat.zero_add] at G H I T;go_simp;exact rfl))))
  refine wpQuiet_nil ?_;intro w1 J;have y:=zq J;clear J;go_wp2_with fail;refine cm (E _) λj K=>?_;obtain⟨d,L,M,-,-⟩:=r j (y.trans (K.mono y.size));have V:=zq d;have Y:Hid (A5 (j.setRow X.heap.size #[.int .i64 k,.bool b,.int .i64 e,.string c,.int .i64 (a:Int)]) X.heap.size k b e c (a:Int)):=d.row _ _ _ _ _;have N:Hid (ET (j.setRow X.heap.size #[.int .i64 k,.bool b,.int .i64 e,.string c,.int .i64 (a:Int)]) l f m o/\AD w.heap.size w (j.setRow X.heap.size #[.int .i64 k,.bool b,.int .i64 e,.string c,.int .i64 (a:Int)])):=⟨Eh L d _,AC M R.out _⟩;clear d L M K r S y E;go_wp2_with (refine sR V k b e c (a:Int) ?_);refine ag _ _ ?_;refine Gw (by kernel_rfl) (λU=>Ed w l X.heap.size f m o a Z aa k b e c ab _ U _ ?_ Y N.1 N.2 R);simp only[f23,BB,Cd]
theorem kq(w:AA)(B o g ad:Nat)(f m:Int)(r a:Nat)(ae:r<32)(af:a<32)(x y z:CQ)(k:Int)(b:Bool)(e:Int)(c:AB)(ag:c.size<=100000)(K:AB)(n:Nat)
 (hk:K={data:=#[102,109,97]}/\fG 58 #[.int .i64 f,.int .i64 m,D6 x,D6 y,D6 z] k b e c a):
 eo o g ad n (UE w B g K [x,y,z] o f m r) (WO (FI k b e c) w o f m (bits .or .i64 (r:Int) (a:Int))):=by
 intro C U v X s d;obtain⟨q,cp,rfl,E,ai,N⟩:=F5 d.1 (by simp);have aq:(1:Int)<(n:Int)+1\/True:=.inr trivial;have O:=d.2.1;have G:AD X.heap.size X (X.alloc A2):=bA;have t:Hid (∀W,AD (X.alloc A2).heap.size (X.alloc A2) W->Z5 W X.heap.size/\ET W o f m r/\AD w.heap.size w W/\W.cell? ⟨g,0,none⟩=some (.string K)/\∀(i:Nat) (h:CQ),[x,y,z][i]?=some h->W.cell? ⟨q,i*4,none⟩=some (.int .i64 h.1)/\W.cell? ⟨q,i*4+1,none⟩=some (.bool h.2.1)/\W.cell? ⟨q,i*4+2,none⟩=some (.int .i64 h.2.2.1)/\W.cell? ⟨q,i*4+3,none⟩=some (.string h.2.2.2)):=λW P=>by
  have j:=Af X (.int .i64 0) (.bool false) (.int .i64 0) (.string ⟨#[]⟩) (.int .i64 0);have l:=G.trans (P.mono G.size);refine⟨j.below P j.lt,d.2.2.1.next l,d.2.2.2.1.trans (l.mono d.2.2.2.1.size),(l.cell (p:=⟨g,0,none⟩) d.2.2.2.2.2).trans O,λi h hi=>?_⟩;obtain⟨a0,Q,H,a3⟩:=N i h hi;exact⟨(l.cell E).trans a0,(l.cell E).trans Q,(l.cell E).trans H,(l.cell E).trans a3⟩
 have R:=zq d.2.2.2.1.size;have c1:=(G.cell (p:=⟨g,0,none⟩) d.2.2.2.2.2).trans O;have au:∀w,(Instr.build 90 #[]).run prog w=.ok (BA 0 false 0 {data:=#[]} 0) w:=λw=>run_build w _ _ _ (by kernel_rfl);clear d N E ai G;subst s;simp only[f23,BB,Cd,Oz];go_upto_region 39 with fail;generalize (X.alloc A2)=L at*
 rename_i K2 H K1 Q;have am:Hid _:=H;clear H;have S:=dR L;obtain⟨rfl,T⟩:=hk;have V:Hid _:=T;clear T;go_upto_region 54 with fail;refine AM (C:=AD L.heap.size L) 17 S ?_;simp only[Hy,List.take_zero,Ia,List.drop_zero];repeat (go_big_quiet_step ((intro s;rename_i I;first|exact rfl|(obtain⟨u,A,D,-,-,-⟩:=Aw (t I s).2.1;go_simp;exact rfl)|(obtain⟨u,A,D,F⟩:=(t I s).2.2.2.2 0 _ rfl;simp only[Nat.zero_mul,Nat.zero_add] at u A D F;go_simp;exact rfl)|(obtain⟨u,A,D,F⟩:=(t I s).2.2.2.2 1 _ rfl;simp only[Nat.one_mul,Nat.reduceAdd] at u A D F;go_simp;exact rfl)|(obtain⟨u,A,D,F⟩:=(t I s).2.2.2.2 2 _ rfl;simp only[Nat.reduceMul,Nat.reduceAdd] at u A D F;go_simp;exact rfl))))
 refine wpQuiet_nil ?_;intro w1 Y;have M:=zq Y;clear Y;go_wp2_with fail;refine cm (V _) λJ Z=>?_;obtain⟨j,aa,ab,-,-⟩:=t J (M.trans (Z.mono M.size));have HA:=zq j;have ao:Hid (A5 (J.setRow X.heap.size #[.int .i64 k,.bool b,.int .i64 e,.string c,.int .i64 (a:Int)]) X.heap.size k b e c (a:Int)):=j.row _ _ _ _ _;have ac:Hid (ET (J.setRow X.heap.size #[.int .i64 k,.bool b,.int .i64 e,.string c,.int .i64 (a:Int)]) o f m r/\AD w.heap.size w (J.setRow X.heap.size #[.int .i64 k,.bool b,.int .i64 e,.string c,.int .i64 (a:Int)])):=⟨Eh aa j _,AC ab R.out _⟩;clear j aa ab Z t S M V;go_wp2_with (refine sR HA k b e c (a:Int) ?_);refine am _ _ ?_;refine Gw (by kernel_rfl) (λU=>Ed w o X.heap.size f m r a ae af k b e c ag _ U _ ?_ ao ac.1 ac.2 R);simp only[f23,BB,Cd]
theorem kY(n:Nat)(h:0<n):({data:=#[45]}:AB)++El n=El (-(n:Int)):=by
 have:=NS (-(n:Int)) (by omega);rw[show(- -(n:Int)).toNat=n by omega] at this;rw[<-Sm];exact this.symm
theorem TO(w:AA)(B a g ac:Nat)(f m u:Int)(x y:CQ)(c:Int)(P:-7<=c/\c<=7)(n:Nat)
 (Q:cA 62 #[.int .i64 f,D6 x,D6 y] (.int .i64 c)):
 eo a g ac n (UE w B g {data:=#[99,111,109,112,97,114,101]} [x,y] a f m u) (WO (El c) w a f m u):=by
 intro C U v X h b;obtain⟨q,cp,rfl,j,ad,R⟩:=F5 b.1 (by simp);have c0:=b.2.1;have z:AD X.heap.size X (X.alloc A2):=bA;have l:Hid (∀W,AD (X.alloc A2).heap.size (X.alloc A2) W->ET W a f m u/\AD w.heap.size w W/\∀(i:Nat) (d:CQ),[x,y][i]?=some d->W.cell? ⟨q,i*4,none⟩=some (.int .i64 d.1)/\W.cell? ⟨q,i*4+1,none⟩=some (.bool d.2.1)/\W.cell? ⟨q,i*4+2,none⟩=some (.int .i64 d.2.2.1)/\W.cell? ⟨q,i*4+3,none⟩=some (.string d.2.2.2)):=λW A=>by
  have e:=z.trans (A.mono z.size);refine⟨b.2.2.1.next e,b.2.2.2.1.trans (e.mono b.2.2.2.1.size),λi d hi=>?_⟩;obtain⟨a0,a1,a2,a3⟩:=R i d hi;exact⟨(e.cell j).trans a0,(e.cell j).trans a1,(e.cell j).trans a2,(e.cell j).trans a3⟩
 have S:=zq Q;have D:Hid (∀(k:Nat) W,k<1000000->cB 52 #[.int .i64 k] W (.string (El k))):=λk W o=>by
  have:=Fi k o W;rwa[Sm] at this
 have c1:=(z.cell (p:=⟨g,0,none⟩) b.2.2.2.2.2).trans c0;have an:∀w,(Instr.build 90 #[]).run prog w=.ok (BA 0 false 0 {data:=#[]} 0) w:=λw=>run_build w _ _ _ (by kernel_rfl);clear b R j ad z Q;subst h;simp only[f23,BB,Cd,Oz];go_upto_region 39 with fail;generalize (X.alloc A2)=I at*
 have V:=dR I;go_upto_region 62 with fail;refine AM (C:=AD I.heap.size I) 10 V ?_;simp only[Hy,List.take_zero,Ia,List.drop_zero];repeat (go_big_quiet_step ((intro h;rename_i J;first|exact rfl|(obtain⟨E,F,G,-,-,-⟩:=Aw (l J h).1;go_simp;exact rfl)|(obtain⟨E,F,G,K⟩:=(l J h).2.2 0 _ rfl;simp only[Nat.zero_mul,Nat.zero_add] at E F G K;go_simp;exact rfl)|(obtain⟨E,F,G,K⟩:=(l J h).2.2 1 _ rfl;simp only[Nat.one_mul,Nat.reduceAdd] at E F G K;go_simp;exact rfl))))
 refine wpQuiet_nil ?_;intro w1 Y;have L:=zq Y;clear Y;go_wp2_with fail;refine cm (S _) λM Z=>?_;obtain⟨aa,N,-⟩:=l M (L.trans (Z.mono L.size));have H:Hid (∀W,AD M.heap.size M W->ET W a f m u/\w.grownBy W (some a)):=λW A=>⟨aa.next A,B2 (N.trans (A.mono N.size)) a⟩;clear aa N Z l V L S;by_cases hn:c<0
 ·obtain⟨k,o⟩:∃k:Nat,-c=(k:Int):=⟨(-c).toNat,by omega⟩;have HE:Hid ({data:=#[45]}++El k=El c):=by rw[Hid,kY k (by omega),show -(k:Int)=c by omega]
  have hw:IntKind.i64.wrap (-c)=(k:Int):=Dn (by omega);have r:=zq λW=>D k W (by omega);have ar:(El k).size<=100:=by
   have:k=1\/k=2\/k=3\/k=4\/k=5\/k=6\/k=7:=by omega
   rcases this with rfl|rfl|rfl|rfl|rfl|rfl|rfl<;>decide+kernel
  have au:¬9223372036854775807<1+(El k).size:=by omega
  generalize El k=T at*
  generalize El c=T2 at*
  clear o D P;go_wp2_with fail;refine cm (r _) λO s=>?_;have ab:=H O s;have t:=zq ab;clear ab s H r;go_wp2;go_ret;exact⟨by rw[<-HE];rfl,t.1,t.2⟩
 ·obtain⟨k,o⟩:∃k:Nat,c=(k:Int):=⟨c.toNat,by omega⟩;subst o;have r:=zq λW=>D k W (by omega);clear D P;go_wp2_with fail;refine cm (r _) λO s=>?_;have t:=zq (H O s);clear s H r;go_wp2;go_ret;exact⟨rfl,t.1,t.2⟩
abbrev YX(U:Nat):AB:=⟨(G4 16 U).toArray⟩
theorem WQ(w:AA)(B c g I:Nat)(m e:Int)(x:CQ)(Z:Nat)(J:Z<18446744073709551616)(n:Nat)
 (r:cA 63 #[D6 x] (.tuple #[.int .u64 (Z:Int),.bool true])):
 eo c g I n (UE w B g {data:=#[119,111,114,100]} [x] c 64 m e) (WO (YX Z) w c 64 m e):=by
 intro C U v X K b;obtain⟨q,Y,rfl,d,L,s⟩:=F5 b.1 (by simp);have t:=b.2.1;have a:AD X.heap.size X (X.alloc A2):=bA;have u:Hid (∀W,AD (X.alloc A2).heap.size (X.alloc A2) W->ET W c 64 m e/\AD w.heap.size w W):=λW f=>by
  have y:=a.trans (f.mono a.size);exact⟨b.2.2.1.next y,b.2.2.2.1.trans (y.mono b.2.2.2.1.size)⟩
 obtain⟨h,i,j,k⟩:=s 0 x rfl;simp only[Nat.zero_mul,Nat.zero_add] at h i j k;have M:=(a.cell (p:=⟨q,0,none⟩) d).trans h;have N:=(a.cell (p:=⟨q,1,none⟩) d).trans i;have O:=(a.cell (p:=⟨q,2,none⟩) d).trans j;have P:=(a.cell (p:=⟨q,3,none⟩) d).trans k;have Q:=(a.cell (p:=⟨g,0,none⟩) b.2.2.2.2.2).trans t;obtain⟨R,S,T,-,-,-⟩:=Aw (b.2.2.1.next a);have aa:∀w,(Instr.build 90 #[]).run prog w=.ok (BA 0 false 0 {data:=#[]} 0) w:=λw=>run_build w _ _ _ (by kernel_rfl);clear b s d L a h i j k t;have z:=zq r;have A:=zq λW=>IR Z W J;clear r;subst K;simp only[f23,BB,Cd,Oz];go_upto_region 39 with fail;generalize (X.alloc A2)=X0 at*
 go_wp2_with fail;refine cm (z _) λl D=>?_;obtain⟨E,o⟩:=u l D;have F:Hid (∀W,AD l.heap.size l W->ET W c 64 m e/\w.grownBy W (some c)):=λW f=>⟨E.next f,B2 (o.trans (f.mono o.size)) c⟩;clear E o D u z M N O P Q R S T;go_wp2_with fail;refine cm (A _) λV G=>?_;have H:=zq (F V G);clear G F A;go_wp2;go_ret;exact⟨rfl,H.1,H.2⟩
theorem TU(w:AA)(B b g T:Nat)(m h:Int)(x:CQ)(H L:Nat)(V:H<18446744073709551616)(Y:L<18446744073709551616)(n:Nat)
 (E:cA 65 #[D6 x] (.tuple #[jq (H:Int) (L:Int),.bool true])):
 eo b g T n (UE w B g {data:=#[119,111,114,100]} [x] b 128 m h) (WO (YX H++YX L) w b 128 m h):=by
 intro C U v X i d;obtain⟨q,cp,rfl,j,Z,F⟩:=F5 d.1 (by simp);have G:=d.2.1;have c:AD X.heap.size X (X.alloc A2):=bA;have I:Hid (∀W,AD (X.alloc A2).heap.size (X.alloc A2) W->ET W b 128 m h/\AD w.heap.size w W):=λW l=>by
  have k:=c.trans (l.mono c.size);exact⟨d.2.2.1.next k,d.2.2.2.1.trans (k.mono d.2.2.2.1.size)⟩
 obtain⟨o,r,s,t⟩:=F 0 x rfl;simp only[Nat.zero_mul,Nat.zero_add] at o r s t;have b0:=(c.cell (p:=⟨q,0,none⟩) j).trans o;have b1:=(c.cell (p:=⟨q,1,none⟩) j).trans r;have b2:=(c.cell (p:=⟨q,2,none⟩) j).trans s;have b3:=(c.cell (p:=⟨q,3,none⟩) j).trans t;have c1:=(c.cell (p:=⟨g,0,none⟩) d.2.2.2.2.2).trans G;obtain⟨d0,d1,d2,-,-,-⟩:=Aw (d.2.2.1.next c);have aj:∀w,(Instr.build 90 #[]).run prog w=.ok (BA 0 false 0 {data:=#[]} 0) w:=λw=>run_build w _ _ _ (by kernel_rfl);clear d F j Z c o r s t G;have J:Hid (cA 65 #[D6 x] (.tuple #[jq (H:Int) (L:Int),.bool true])):=E;have K:Hid (cA 64 #[.int .u64 H] (.string (YX H))):=λW=>IR H W V;have M:Hid (cA 64 #[.int .u64 L] (.string (YX L))):=λW=>IR L W Y;have ak:(YX H).size=16:=by show(G4 16 H).toArray.size=16;rw[List.size_toArray,Ea]
 have al:(YX L).size=16:=by show(G4 16 L).toArray.size=16;rw[List.size_toArray,Ea]
 have am:¬9223372036854775807<16+16:=by decide
 generalize YX H=TA at*
 generalize YX L=TL at*
 clear E;subst i;simp only[f23,BB,Cd,Oz];go_upto_region 39 with fail;generalize (X.alloc A2)=X0 at*
 go_wp2_with fail;refine cm (J.out _) λa N=>?_;obtain⟨O,u⟩:=I.out a N;have P:=Ao a (.cells #[.int .u64 (H:Int),.int .u64 (L:Int)] 100);have y:Hid (∀W,AD (a.alloc (.cells #[.int .u64 (H:Int),.int .u64 (L:Int)] 100)).heap.size (a.alloc (.cells #[.int .u64 (H:Int),.int .u64 (L:Int)] 100)) W->W.cell? ⟨a.heap.size,0,none⟩=some (.int .u64 (H:Int))/\W.cell? ⟨a.heap.size,1,none⟩=some (.int .u64 (L:Int))/\ET W b 128 m h/\w.grownBy W (some b)):=λW l=>by
  have e:=(l.block a.heap.size (by simp)).trans P;have f:=((BI a.heap.size a).alloc (AS _) (.cells #[.int .u64 (H:Int),.int .u64 (L:Int)] 100));have k:=f.trans (l.mono f.size);exact⟨AO e 0,AO e 1,O.next k,B2 (u.trans (k.mono u.size)) b⟩
 clear P N J O u I b0 b1 b2 b3 c1 d0 d1 d2;go_upto_region 44 with fail;generalize (a.alloc (.cells #[.int .u64 (H:Int),.int .u64 (L:Int)] 100))=z at*
 have Q:=dR z;refine AP (C:=AD z.heap.size z) Q.out ?_;repeat (go_big_quiet_step ((intro i;rename_i A;first|exact rfl|((with_reducible refine Calls.class_of (K.out A) ?_);exactλw' f=>BQ i f)|((with_reducible refine Calls.class_of (M.out A) ?_);exactλw' f=>BQ i f)|(obtain⟨q0,q1,-⟩:=y.out A i;go_simp;exact rfl))))
 refine wpQuiet_nil ?_;intro D R;have S:Hid (ET D b 128 m h/\w.grownBy D (some b)):=(y.out D R).2.2;clear R Q y K M;go_wp2;go_ret;exact⟨rfl,S.out.1,S.out.2⟩
end Go.Proofs.YteofommckgeemaaGreatDoor
