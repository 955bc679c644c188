/-
  LAID TOGETHER, BY PROGRAM, of: Word, Leaf, Refb, Refc, Seto, Rws, Vala, Lies, Turn.
-/
import Derived.Test.YtbddhkgbpjhhaaaGreatDoorRows
import Derived.Test.YtbddhkgbpjhhaaaGreatDoorGPlain
import Derived.WalkKit
import Derived.WalkSpells
import Derived.Lib.Hide
import Derived.Below
import Derived.Laws.OwnMore
import Derived.Deep.Draws
import Derived.Laws.Rows
import Derived.WalkLawsBesides
import Derived.Shelf.Spec.TrailingZeros
import Derived.OwnWalk
import Derived.BigQuiet
import Derived.Deep.QuietTactic
import Derived.Lib.QuietBelow
namespace Go.Proofs.YtbddhkgbpjhhaaaGreatDoor
instance:Coe Go.World Nat:=⟨fun w=>w.heap.size⟩
instance:Coe Int Go.Value:=⟨fun x=>.int .i64 x⟩
instance:Coe Nat Go.Value:=⟨fun x=>.int .i64 (x:Int)⟩
instance:Coe Bool Go.Value:=⟨fun x=>.bool x⟩
instance:Coe Unit Go.Value:=⟨fun _=>.slice none 0 0⟩
inductive Z9 | z
abbrev z9:Z9:=.z
instance:Coe Z9 Go.Value:=⟨fun _=>.int .i64 0⟩
abbrev J2:=@World.size_alloc
theorem J1 {p:Prop} (h:p):Go.RowKit.Hid p:=Go.Lib.hid h
end Go.Proofs.YtbddhkgbpjhhaaaGreatDoor
set_option maxHeartbeats 400000
namespace Go.Proofs.YtbddhkgbpjhhaaaGreatDoor
open Go.RowKit
def Sl (w:World) (v:Value) (xs:List Value):Prop :=
 ∃A c,v=.slice A xs.length c∧xs.length≤c∧∀j u,xs[j]?=some u→∃b o p,A=some ⟨b,o,p⟩∧b<w.heap.size∧w.cell? ((⟨b,o,p⟩:Addr).add j)=some u
theorem Sl.below {w w':World} {B:Nat} {v:Value} {xs:List Value} (h:Sl w v xs) (hb:Below B w w') (hB:w.heap.size≤B):Sl w' v xs:=by
 obtain⟨A,c,hv,hc,hx⟩:=h;refine⟨A,c,hv,hc,fun j u hu=>?_⟩;obtain⟨b,o,p,hA,hlt,hcell⟩:=hx j u hu
 have e:((⟨b,o,p⟩:Addr).add j).block=b:=by unfold Addr.add;split <;> rfl
 exact⟨b,o,p,hA,C9 hlt hb.size,(hb.cell (by rw[e];omega)).trans hcell⟩
theorem Sl.own {w:World} {base:Nat} {e:TypeId} {v:Value} {n:Nat} {xs:List Value} (h:w.ownsRow base e 1 v n xs):Sl w v xs:=by
 have hl:xs.length=n:=by have:=h.1;omega
 rcases h.2 with⟨hv,hn⟩ | ⟨g,cap,cur,hv,hb,hg,hnc,hcm,hs,ht⟩
 ·refine⟨none,0,by rw[hv,hl,hn],by omega,fun j u hu=>?_⟩
  have:xs=[]:=D6 (by omega)
  subst this;simp at hu
 ·refine⟨some ⟨g,0,none⟩,cap,by rw[hv,hl],by omega,fun j u hu=>⟨g,0,none,rfl,?_,?_⟩⟩
  ·exact(D9.1 hg).1
  ·exact h.cells (g:=g) (by rw[hv];rfl) j u hu
theorem Sl.new (w:World) (t:TypeId) (xs:List Value):Sl (w.alloc (.cells xs.toArray t)) (.slice (some ⟨w.heap.size,0,none⟩) xs.length xs.length) xs:=by
 refine⟨_,_,rfl,C3 _,fun j u hu=>⟨w.heap.size,0,none,rfl,by simp,?_⟩⟩
 have h:=Below.heap_alloc w (.cells xs.toArray t);have hb:(w.alloc (.cells xs.toArray t)).heap[w.heap.size]?=some (.cells xs.toArray t):=heap_alloc_new w _
 have hl:j<xs.length:=by
  by_cases hj:j<xs.length
  ·exact hj
  ·rw[E6 (by omega)]at hu;cases hu
 have e:((⟨w.heap.size,0,none⟩:Addr).add j)=⟨w.heap.size,j,none⟩:=by
  unfold Addr.add
  split <;> simp_all
 rw[e];unfold World.cell?;simp only[hb]
 simpa using hu
def U64 (a:Int):Prop:=0≤a∧a<18446744073709551616
theorem U64.nat {a:Int} (h:U64 a):∃n:Nat,a=n∧n<18446744073709551616:=by
 obtain⟨n,rfl⟩:=Int.eq_ofNat_of_zero_le h.1
 exact⟨n,rfl,by have:=h.2;omega⟩
theorem U64.of {n:Nat} (h:n<18446744073709551616):U64 (n:Int):=⟨by omega,by omega⟩
theorem J8 {a b:Bool} (h:a=b):Ending.returned (.bool a)=.returned (.bool b):=by rw[h]
theorem M1 {k:IntKind} {a b:Int} (h:a=b):Ending.returned (.int k a)=.returned (.int k b):=by rw[h]
theorem A2h (i:Int) (w:World) (h0:0≤i) (h1:i≤63) :
  Calls Tryz.prog 88 #[i] w fun e w'=>e=.returned (.bool true)∧w=w':=by
 go_enter Tryz.func88,Tryz.ntmps88
 go_wp2
 go_ret
 exact⟨J8 (by simp;try omega),rfl⟩
theorem A3p (i:Int) (w:World) (h:i<0∨63<i) :
  Calls Tryz.prog 88 #[i] w fun e w'=>e=.returned (.bool false)∧w=w':=by
 rcases h with h | h
 ·go_enter Tryz.func88,Tryz.ntmps88
  go_wp2
  go_ret;exact⟨rfl,rfl⟩
 ·have h0:0≤i:=by omega
  go_enter Tryz.func88,Tryz.ntmps88
  go_wp2
  go_ret
  exact⟨J8 (by simp;try omega),rfl⟩
theorem A2v (a:Nat) (k:Nat):((a:Int) / 2 ^ k)=((a / 2 ^ k:Nat):Int):=by simp
theorem A9A (a:Nat) (ha:a<18446744073709551616) (k:Nat):(bits BinOp.and IntKind.u64 ((a:Int) / 2 ^ k) 1 == 1)=a.testBit k:=by
 rw[A2v,show(1:Int)=((1:Nat):Int) from rfl,u64_and_nat _ _ (Nat.lt_of_le_of_lt (Nat.div_le_self _ _) ha) (by decide),Nat.and_one_is_mod,Nat.testBit_eq_decide_div_mod_eq]
 rcases Nat.mod_two_eq_zero_or_one (a / 2 ^ k)with h | h <;> rw[h] <;> rfl
theorem A7b (a i:Int) (w:World) (ha:U64 a) :
  Calls Tryz.prog 102 #[.int .u64 a,i] w fun e w'=>e=.returned (.bool (St.hasB a.toNat i))∧w=w':=by
 by_cases h:0≤i∧i≤63
 ·obtain⟨h0,h1⟩:=h;go_enter Tryz.func102,Tryz.ntmps102
  go_wp2_with (go_at_call 88;refine(A2h _ _ h0 h1).mono ?_;rintro e w' ⟨rfl,rfl⟩)
  go_ret;obtain⟨n,rfl,hn⟩:=ha.nat
  exact⟨J8 (by rw[A9A n hn,Int.toNat_natCast];simp[St.hasB,h0,h1]),rfl⟩
 ·have h':i<0∨63<i:=by omega
  go_enter Tryz.func102,Tryz.ntmps102
  go_wp2_with (go_at_call 88;refine(A3p _ _ h').mono ?_;rintro e w' ⟨rfl,rfl⟩)
  go_ret
  exact⟨J8 (by
   unfold St.hasB
   rcases h' with h' | h'
   ·simp;omega
   ·have:¬i≤63:=by omega
    simp[this]),rfl⟩
theorem A7v (i:Int) (w:World) :
  Calls Tryz.prog 50 #[i] w fun e w'=>e=.returned (.int .u64 (St.belowN i:Nat))∧w=w':=by
 by_cases h0:i<0
 ·go_enter Tryz.func50,Tryz.ntmps50
  go_wp2
  go_ret
  exact⟨M1 (by rw[St.belowN_neg i h0];rfl),rfl⟩
 ·have h0':0≤i:=by omega
  clear h0
  by_cases h1:63<i
  ·go_enter Tryz.func50,Tryz.ntmps50
   go_wp2
   go_ret
   exact⟨M1 (by rw[St.belowN_high i (by omega)];rfl),rfl⟩
  ·have h1':i≤63:=by omega
   clear h1;go_enter Tryz.func50,Tryz.ntmps50
   go_wp2
   go_ret
   exact⟨M1 (by rw[St.belowN_mid i h0' h1'];simp),rfl⟩
theorem A6S (x y1 y2 y3 y4 y5 y6:Nat) (w:World)
  (e1:IntKind.u64.wrap (bits BinOp.and IntKind.u64 ((x:Int) / 2) 6148914691236517205+bits BinOp.and IntKind.u64 (x:Int) 6148914691236517205)=(y1:Int))
  (e2:IntKind.u64.wrap (bits BinOp.and IntKind.u64 ((y1:Int) / 4) 3689348814741910323+bits BinOp.and IntKind.u64 (y1:Int) 3689348814741910323)=(y2:Int))
  (e3:bits BinOp.and IntKind.u64 (IntKind.u64.wrap ((y2:Int) / 16+(y2:Int))) 1085102592571150095=(y3:Int))
  (e4:IntKind.u64.wrap ((y3:Int)+(y3:Int) / 256)=(y4:Int))
  (e5:IntKind.u64.wrap ((y4:Int)+(y4:Int) / 65536)=(y5:Int))
  (e6:IntKind.u64.wrap ((y5:Int)+(y5:Int) / 4294967296)=(y6:Int)) :
  Calls Tryz.prog 114 #[.int .u64 x] w fun e w'=>e=.returned (.int .i64 (bits BinOp.and IntKind.i64 (wrap64 y6) 127))∧w=w':=by
 go_enter Tryz.func114,Tryz.ntmps114
 go_wp2
 go_ret;exact⟨rfl,rfl⟩
theorem A5L (a:Nat) (ha:a<9223372036854775808):bits .and .i64 (a:Int) 127=((a % 128:Nat):Int):=by
 show IntKind.i64.wrap ((BitVec.ofInt 64 (a:Int) &&& BitVec.ofInt 64 127).toNat:Int)=_
 have h:(BitVec.ofInt 64 127).toNat=2 ^ 7-1:=by decide
 rw[BitVec.toNat_and,ofInt_u64 a (by omega),h,Nat.and_two_pow_sub_one_eq_mod]
 simp[IntKind.wrap,IntKind.bits,IntKind.signed]
 omega
theorem A8f (x:Nat) (hx:x<18446744073709551616) :
  IntKind.u64.wrap (bits BinOp.and IntKind.u64 ((x:Int) / 2) 6148914691236517205+bits BinOp.and IntKind.u64 (x:Int) 6148914691236517205)=((St.s1 8 x:Nat):Int)∧St.s1 8 x<18446744073709551616:=by
 have l1:(x / 2) &&& 6148914691236517205≤6148914691236517205:=Nat.and_le_right;have l2:x &&& 6148914691236517205≤6148914691236517205:=Nat.and_le_right;unfold St.s1;rw[St.rep85]
 have h1:bits BinOp.and IntKind.u64 ((x:Int) / 2) 6148914691236517205=(((x / 2) &&& 6148914691236517205:Nat):Int):=u64_and_nat (x / 2) 6148914691236517205 (by omega) (by decide)
 have h2:bits BinOp.and IntKind.u64 (x:Int) 6148914691236517205=((x &&& 6148914691236517205:Nat):Int):=u64_and_nat x 6148914691236517205 hx (by decide)
 rw[h1,h2,IntKind.wrap_u64];omega
theorem A6R (x:Nat) (hx:x<18446744073709551616) :
  IntKind.u64.wrap (bits BinOp.and IntKind.u64 ((x:Int) / 4) 3689348814741910323+bits BinOp.and IntKind.u64 (x:Int) 3689348814741910323)=((St.s2 8 x:Nat):Int)∧St.s2 8 x≤7378697629483820646:=by
 have l1:(x / 4) &&& 3689348814741910323≤3689348814741910323:=Nat.and_le_right;have l2:x &&& 3689348814741910323≤3689348814741910323:=Nat.and_le_right;unfold St.s2;rw[St.rep51]
 have h1:bits BinOp.and IntKind.u64 ((x:Int) / 4) 3689348814741910323=(((x / 4) &&& 3689348814741910323:Nat):Int):=u64_and_nat (x / 4) 3689348814741910323 (by omega) (by decide)
 have h2:bits BinOp.and IntKind.u64 (x:Int) 3689348814741910323=((x &&& 3689348814741910323:Nat):Int):=u64_and_nat x 3689348814741910323 hx (by decide)
 rw[h1,h2,IntKind.wrap_u64];omega
theorem A6Q (x:Nat) (hx:x≤7378697629483820646) :
  bits BinOp.and IntKind.u64 (IntKind.u64.wrap ((x:Int) / 16+(x:Int))) 1085102592571150095=((St.s3 8 x:Nat):Int):=by
 have e:IntKind.u64.wrap ((x:Int) / 16+(x:Int))=((x / 16+x:Nat):Int):=by rw[IntKind.wrap_u64];omega
 unfold St.s3;rw[St.rep15,e]
 exact u64_and_nat (x / 16+x) 1085102592571150095 (by omega) (by decide)
theorem A8g (a:Int) (w:World) (ha:U64 a) :
  Calls Tryz.prog 114 #[.int .u64 a] w fun e w'=>e=.returned (.int .i64 (St.pop 64 a.toNat:Nat))∧w=w':=by
 obtain⟨x,rfl,hx⟩:=ha.nat;have k1:=A8f x hx;have k2:=A6R _ k1.2;have k3:=A6Q _ k2.2;have hm:=St.ones_math x;have hf:St.s3 8 (St.s2 8 (St.s1 8 x))=St.fb 8 x:=rfl;rw[hf]at k3;have g4:St.oc4 (St.fb 8 x)=St.fb 8 x+St.fb 8 x / 256:=rfl;have g5:St.oc5 (St.oc4 (St.fb 8 x))=St.oc4 (St.fb 8 x)+St.oc4 (St.fb 8 x) / 65536:=rfl;have g6:St.oc6 (St.oc5 (St.oc4 (St.fb 8 x)))=St.oc5 (St.oc4 (St.fb 8 x))+St.oc5 (St.oc4 (St.fb 8 x)) / 4294967296:=rfl;refine(A6S x _ _ _ (St.oc4 (St.fb 8 x)) (St.oc5 (St.oc4 (St.fb 8 x))) (St.oc6 (St.oc5 (St.oc4 (St.fb 8 x)))) w k1.1 k2.1 k3 ?_ ?_ ?_).mono fun e w' ⟨he,hw⟩=>⟨?_,hw⟩
 ·rw[IntKind.wrap_u64,g4];omega
 ·rw[IntKind.wrap_u64,g5];omega
 ·rw[IntKind.wrap_u64,g6];omega
 ·rw[he,Int.toNat_natCast,IntWalk.wrap64_in _ ⟨by omega,by omega⟩,A5L _ (by omega),hm.2.2.2.2]
theorem A7r (a:Int) (w:World) (ha:U64 a) :
  Calls Tryz.prog 92 #[.int .u64 a] w fun e w'=>e=.returned (.int .i64 (St.pop 64 a.toNat:Nat))∧w=w':=by
 go_enter Tryz.func92,Tryz.ntmps92
 go_wp2_with (go_at_call 114;refine(A8g _ _ ha).mono ?_;rintro e w' ⟨rfl,rfl⟩)
 go_ret;exact⟨rfl,rfl⟩
def Tab (w:World):Prop:=TabAt 1 Lib.deBruijn64tab w
theorem Tab.size {w:World} (h:Tab w):1<w.heap.size:=by
 have:=h 0 (by decide)
 unfold World.cell? at this
 by_cases hs:1<w.heap.size
 ·exact hs
 ·simp[Array.getElem?_eq_none (Nat.le_of_not_lt hs)]at this
theorem Tab.below {w w':World} (h:Tab w) (hb:Below w w w'):Tab w':=fun j hj=>(hb.cell (p:=⟨_,j,none⟩) h.size).trans (h j hj)
theorem A87 (x k idx:Nat) (w:World) (hx0:((x:Int) == 0)=false)
  (key:IntKind.u64.wrap (bits BinOp.and IntKind.u64 (x:Int) (IntKind.u64.wrap (-(x:Int)))*285870213051353865) / 288230376151711744=(idx:Int))
  (hi:idx<64) (hk:k<64) (hcell:w.cell? ⟨1,idx,none⟩=some (.int .u8 k)) :
  Calls Tryz.prog 115 #[.int .u64 x] w fun e w'=>e=.returned (.int .i64 k)∧w=w':=by
 go_enter Tryz.func115,Tryz.ntmps115
 go_wp2_with (simp only[key])
 go_ret;exact⟨rfl,rfl⟩
theorem A9J (x:Nat) (hx:x<18446744073709551616) (hx0:x≠0) (w:World) (hT:Tab w) :
  Calls Tryz.prog 115 #[.int .u64 x] w fun e w'=>e=.returned (.int .i64 (Lib.ctz 64 x:Nat))∧w=w':=by
 obtain⟨hlow,hk⟩:=Lib.lowest_bit 64 x hx0 hx;obtain⟨hi,htab⟩:=Lib.deBruijn64_at _ hk;have hcell:=hT _ hi;rw[htab]at hcell
 exact A87 x _ _ w (by simp;omega) (tz64_key x _ hx hx0 hlow) hi hk hcell
theorem A9k (a:Int) (w:World) (ha:U64 a) (hT:Tab w) :
  Calls Tryz.prog 93 #[.int .u64 a] w fun e w'=>e=.returned (.int .i64 (St.minI a.toNat))∧w=w':=by
 obtain⟨x,rfl,hx⟩:=ha.nat;rw[Int.toNat_natCast]
 by_cases h0:x=0
 ·subst h0;go_enter Tryz.func93,Tryz.ntmps93
  go_wp2
  go_ret;exact⟨rfl,rfl⟩
 ·have hz:((x:Int) == 0)=false:=by simp;omega
  have HT:=J1 hT;clear hT;go_enter Tryz.func93,Tryz.ntmps93
  go_wp2_with (go_at_call 115;refine(A9J _ hx h0 _ HT.out).mono ?_;rintro e w' ⟨rfl,rfl⟩)
  go_ret
  exact⟨M1 (by unfold St.minI;rw[if_neg h0]),rfl⟩
theorem A6w {k:Nat} (h:k≤62):(2:Nat) ^ k≤4611686018427387904:=Nat.pow_le_pow_right (n:=2) (j:=62) (by decide) h
theorem A3c (i:Int) (w:World) (h0:0≤i) (h1:i≤63) :
  Calls Tryz.prog 85 #[i] w fun e w'=>e=.returned (.int .u64 (2 ^ i.toNat:Nat))∧w=w':=by
 obtain⟨n,rfl⟩:=Int.eq_ofNat_of_zero_le h0;rw[Int.toNat_natCast];go_enter Tryz.func85,Tryz.ntmps85
 go_wp2
 go_loop [3,4] (fun p i=>∃k q:Nat,k≤n∧i=.int .i64 k∧p=.int .u64 q∧Hid (q=2 ^ k)) (fun _ i=>n-(intOf i).toNat)
 case atStart=>exact⟨0,1,E3 _,rfl,rfl,J1 rfl⟩
 case round =>
  obtain⟨k,q,hk,rfl,rfl,hq⟩:=hrel
  by_cases hlt:k<n
  ·have hb:q≤4611686018427387904:=by rw[hq.out];exact A6w (by omega)
   have hq2:Hid (q*2=2 ^ (k+1)):=J1 (by rw[hq.out,Nat.pow_succ])
   go_wp2
   go_round
   case rel =>
    exact⟨k+1,q*2,by omega,by go_num,by go_num,hq2⟩
   case measure=>simp[intOf];omega
  ·obtain rfl:k=n:=by omega
   go_wp2
   go_ret
   exact⟨M1 (by rw[hq.out];simp),rfl⟩
theorem A9d (x q:Nat) (hx:x<18446744073709551616):((IntKind.u64.wrap ((x:Int) / (q:Int))).tmod 2 == 1)=decide (x / q % 2=1):=by
 have h1:x / q≤x:=Nat.div_le_self _ _
 rw[show(x:Int) / (q:Int)=((x / q:Nat):Int) by simp]
 generalize x / q=m at *
 have e:IntKind.u64.wrap (m:Int)=(m:Int):=by rw[IntKind.wrap_u64];omega
 have e2:((m:Int)).tmod 2=((m % 2:Nat):Int):=by rw[Int.tmod_eq_emod_of_nonneg (show(0:Int)≤(m:Int) by omega)];simp
 rw[e,e2]
 rcases Nat.mod_two_eq_zero_or_one m with h | h <;> rw[h] <;> rfl
theorem A4G (a i:Int) (w:World) (ha:U64 a) :
  Calls Tryz.prog 131 #[.int .u64 a,i] w fun e w'=>e=.returned (.bool (St.hasB a.toNat i))∧w=w':=by
 obtain⟨x,rfl,hx⟩:=ha.nat;rw[Int.toNat_natCast]
 by_cases h0:0≤i
 ·by_cases h1:i≤63
  ·have hp:1≤2 ^ i.toNat:=Nat.one_le_two_pow;go_enter Tryz.func131,Tryz.ntmps131;obtain⟨q,hq⟩:∃q,q=2 ^ i.toNat:=⟨_,rfl⟩;have Hq:=J1 hq;rw[←hq]at hp;clear hq;have hpw:=A3c i w h0 h1;rw[←Hq.out]at hpw;have HP:=J1 hpw;clear hpw
   go_wp2_with (go_at_call 85;refine HP.out.mono ?_;rintro e w' ⟨rfl,rfl⟩)
   go_ret;refine⟨J8 ?_,rfl⟩
   have e2:x.testBit i.toNat=decide (x / q % 2=1):=by rw[Hq.out];exact Nat.testBit_eq_decide_div_mod_eq
   rw[A9d _ _ hx];unfold St.hasB;rw[e2]
   simp[h0,h1]
  ·go_enter Tryz.func131,Tryz.ntmps131
   go_wp2
   go_ret
   exact⟨J8 (by
    unfold St.hasB
    have:¬i≤63:=by omega
    simp[this]),rfl⟩
 ·go_enter Tryz.func131,Tryz.ntmps131
  go_wp2
  go_ret
  exact⟨J8 (by
   unfold St.hasB
   have:¬0≤i:=by omega
   simp[this]),rfl⟩
def OwnNums (E:TypeId) (K:IntKind) (w:World) (l:List Int) (e:Ending) (w':World):Prop :=
 ∃v,e=.returned v∧w'.ownsRow w.heap.size E 1 v l.length (l.map (Value.int K))∧Below w w w'
theorem A6N {w wr w1:World} {v:Value} {E:TypeId} {n:Nat} {xs:List Value} {o:Obj} (hb:Below w w wr) (hown:wr.ownsRow w.heap.size E 1 v n xs) (hg:(wr.alloc o).grownBy w1 v.ownBlock):Below w w w1 :=
 (hb.alloc hb.size o).grown hg (by have:=hb.size;simp;omega) (fun k hk=>(hown.lt k hk).1)
theorem A8d {w w1:World} {v:Value} {E:TypeId} {K:IntKind} {l:List Int} {k:Int} (h:w1.ownsRow w.heap.size E 1 v (l.length+1) (l.map (Value.int K)++[Value.int K k])) :
  w1.ownsRow w.heap.size E 1 v (l++[k]).length ((l++[k]).map (Value.int K)):=by
 simpa using h
theorem Tryz.infoInt:(Tryz.prog.info? 3).map (fun i=>(i.zero,i.size,i.bytes))=some (some (.int .i64 0),1,8):=by kernel_rfl
def ints (l:List Nat):List Int:=l.map Int.ofNat
theorem A66 (l:List Nat) (k:Nat):ints (l++[k])=ints l++[(k:Int)]:=by simp[ints]
theorem A4d (l:List Nat):(ints l).length=l.length:=by simp[ints]
theorem A6k (p:Nat→Bool) (k:Nat) (h:p k=true):St.setTo p (k+1)=St.setTo p k+2 ^ k:=by rw[St.setTo,if_pos h]
theorem A7V (p:Nat→Bool) (k:Nat) (h:p k=false):St.setTo p (k+1)=St.setTo p k:=by rw[St.setTo,if_neg (by simp[h])]
theorem A6p (v:Value) (l:List Int) (w:World) (hv:Sl w v (l.map (Value.int .i64))) (hl:l.length≤9223372036854775807) :
  Calls Tryz.prog 43 #[v] w fun e w'=>e=.returned (.int .u64 (St.ofN l:Nat))∧w=w':=by
 obtain⟨A,c,rfl,_,hx⟩:=hv;rw[E0];obtain⟨n,hn⟩:∃n,n=l.length:=⟨_,rfl⟩;rw[←hn]at hl ⊢;have Hn:=J1 hn;have HX:=J1 hx;clear hn hx;go_enter Tryz.func43,Tryz.ntmps43
 go_wp2
 go_loop [3,4] (fun s i=>∃q sv:Nat,q≤64∧i=.int .i64 q∧s=.int .u64 sv∧Hid (sv=St.setTo (fun j=>decide ((j:Int)∈l)) q)) (fun _ i=>64-(intOf i).toNat)
 case atStart=>exact⟨0,0,by omega,rfl,rfl,J1 rfl⟩
 case round =>
  obtain⟨q,sv,hq,rfl,rfl,hsv⟩:=hrel
  by_cases hlt:q<64
  ·have hsl:sv+2 ^ q<18446744073709551616:=by
    have h1:=St.setTo_lt (fun j=>decide ((j:Int)∈l)) q
    have h2:2 ^ q≤2 ^ 63:=Nat.pow_le_pow_right (by decide) (by omega)
    rw[hsv.out];omega
   obtain⟨pw,hpw⟩:∃pw,pw=2 ^ q:=⟨_,rfl⟩;rw[←hpw]at hsl;have Hpw:=J1 hpw;clear hpw
   have HP:Hid (Calls Tryz.prog 85 #[q] w fun e w'=>e=.returned (.int .u64 pw)∧w=w'):=J1 (by
    have:=A3c q w (by omega) (by omega)
    rw[Hpw.out];simpa using this)
   go_wp2
   go_loop [3,5] (fun s k=>∃j:Nat,j≤n∧k=.int .i64 j∧s=.int .u64 sv∧Hid (∀i,i<j→l[i]?≠some (q:Int))) (fun _ k=>n-(intOf k).toNat)
   case atStart=>exact⟨0,by omega,rfl,rfl,J1 (fun i hi=>by omega)⟩
   case round =>
    obtain⟨j,hj,rfl,rfl,hno⟩:=hrel
    by_cases hjl:j<n
    ·obtain⟨x,gx⟩:∃x,l[j]?=some x:=⟨l[j]'(by have:=Hn.out;omega),A8 _⟩
     obtain⟨b,o,p,rfl,_,hcell⟩:=HX.out j (.int .i64 x) (by simp[gx])
     have Gx:=J1 gx;clear gx
     by_cases hxq:x=q
     ·subst hxq
      have hb:(((q:Int)) == (q:Int))=true:=by simp
      have Hyes:Hid (sv+pw=St.setTo (fun j=>decide ((j:Int)∈l)) (q+1)):=J1 (by
       rw[A6k _ _ (by simp;exact C8 Gx.out),hsv.out,Hpw.out])
      go_wp2_with (go_at_call 85;refine HP.out.mono ?_;rintro e w' ⟨rfl,rfl⟩)
      go_round
      case rel=>exact⟨q+1,sv+pw,by omega,by go_num,by go_num,Hyes⟩
      case measure=>simp[intOf];omega
     ·have hb:(x == (q:Int))=false:=by simp[hxq]
      have hno2:Hid (∀i,i<j+1→l[i]?≠some (q:Int)):=J1 (fun i hi e=>by
       by_cases h:i=j
       ·subst h;rw[Gx.out]at e;exact hxq (F0 e)
       ·exact hno.out i (by omega) e)
      clear hxq
      go_wp2
      go_round
      case rel=>exact⟨j+1,by omega,by go_num,rfl,hno2⟩
      case measure=>simp[intOf];omega
    ·have Hno:Hid (sv=St.setTo (fun j=>decide ((j:Int)∈l)) (q+1)):=J1 (by
      rw[A7V _ _ ?_,hsv.out];simp only[decide_eq_false_iff_not];intro hm;obtain⟨i,hi,e⟩:=F9.1 hm
      exact hno.out i (by have:=Hn.out;omega) (by rw[A8 hi,e]))
     go_wp2
     go_round
     case rel=>exact⟨q+1,sv,by omega,by go_num,rfl,Hno⟩
     case measure=>simp[intOf];omega
  ·obtain rfl:q=64:=by omega
   go_wp2
   go_ret
   exact⟨M1 (by rw[hsv.out];rfl),rfl⟩
theorem A4x (q:Nat) (hq:q≤63):IntKind.u64.wrap (2 ^ q)=((2 ^ q:Nat):Int):=by
 have h2:2 ^ q<2 ^ 64:=Nat.pow_lt_pow_right (by decide) (by omega)
 have e:((2:Int) ^ q)=((2 ^ q:Nat):Int):=by simp
 rw[e,IntKind.wrap_u64];generalize 2 ^ q=m at *;omega
theorem A9N (s q:Nat) (hs:s<18446744073709551616) (hq:q≤63):bits BinOp.or IntKind.u64 (s:Int) (IntKind.u64.wrap (2 ^ q))=((s ||| 2 ^ q:Nat):Int):=by
 have h2:2 ^ q<2 ^ 64:=Nat.pow_lt_pow_right (by decide) (by omega)
 rw[A4x q hq];exact u64_or_nat s (2 ^ q) hs h2
theorem A2A (v:Value) (l:List Int) (w:World) (hv:Sl w v (l.map (Value.int .i64))) (hl:l.length≤9223372036854775807) :
  Calls Tryz.prog 46 #[v] w fun e w'=>e=.returned (.int .u64 (St.ofN l:Nat))∧w=w':=by
 obtain⟨A,c,rfl,_,hx⟩:=hv;rw[E0];obtain⟨n,hn⟩:∃n,n=l.length:=⟨_,rfl⟩;rw[←hn]at hl ⊢;have Hn:=J1 hn;have HX:=J1 hx;clear hn hx;go_enter Tryz.func46,Tryz.ntmps46
 go_wp2
 go_loop [3,8] (fun s i=>∃q sv:Nat,q≤n∧i=.int .i64 q∧s=.int .u64 sv∧Hid (sv=St.ofN (l.take q))) (fun _ i=>n-(intOf i).toNat)
 case atStart=>exact⟨0,0,by omega,rfl,rfl,J1 (by rw[F8,St.ofN_nil])⟩
 case round =>
  obtain⟨q,sv,hq,rfl,rfl,hsv⟩:=hrel
  by_cases hlt:q<n
  ·obtain⟨x,gx⟩:∃x,l[q]?=some x:=⟨l[q]'(by have:=Hn.out;omega),A8 _⟩
   obtain⟨b,o,p,rfl,_,hcell⟩:=HX.out q (.int .i64 x) (by simp[gx])
   have ht:l.take (q+1)=l.take q++[x]:=by rw[D7,gx];rfl
   clear gx
   by_cases hm:0≤x∧x≤63
   ·obtain⟨h0,h1⟩:=hm;obtain⟨y,rfl⟩:=Int.eq_ofNat_of_zero_le h0
    have hs:sv<18446744073709551616:=by rw[hsv.out];exact St.ofN_lt _
    have ho:=A9N sv y hs (by omega)
    have H2:Hid (sv ||| 2 ^ y=St.ofN (l.take (q+1))):=J1 (by rw[ht,St.ofN_snoc_in _ _ h0 h1,hsv.out];rfl)
    clear ht hs
    go_wp2_with (go_at_call 88;refine(A2h _ _ h0 h1).mono ?_;rintro e w' ⟨rfl,rfl⟩)
    go_round
    case rel=>exact⟨q+1,sv ||| 2 ^ y,by omega,by go_num,by first | rfl | rw[ho],H2⟩
    case measure=>simp[intOf];omega
   ·have hm':x<0∨63<x:=by omega
    have H2:Hid (sv=St.ofN (l.take (q+1))):=J1 (by rw[ht,St.ofN_snoc_out _ _ hm,hsv.out])
    clear ht hm
    go_wp2_with (go_at_call 88;refine(A3p _ _ hm').mono ?_;rintro e w' ⟨rfl,rfl⟩)
    go_round
    case rel=>exact⟨q+1,sv,by omega,by go_num,rfl,H2⟩
    case measure=>simp[intOf];omega
  ·have he:Hid (sv=St.ofN l):=J1 (by rw[hsv.out,C7 (by have:=Hn.out;omega)])
   go_wp2
   go_ret
   exact⟨M1 (by rw[he.out]),rfl⟩
theorem A8J (y c:Nat) (hy:y<18446744073709551616) (hc:c≤63):bits BinOp.andNot IntKind.u64 (y:Int) (IntKind.u64.wrap (2 ^ c))=((St.clear y c:Nat):Int):=by
 have h2:2 ^ c<2 ^ 64:=Nat.pow_lt_pow_right (by decide) (by omega)
 rw[A4x c hc];exact u64_andNot_nat y (2 ^ c) hy h2
theorem A9j (y c:Nat) (w:World) (hy:y<18446744073709551616) (hT:Tab w) (h:St.minI y=c) :
  Calls Tryz.prog 93 #[.int .u64 y] w fun e w'=>e=.returned (.int .i64 c)∧w=w' :=
 (A9k _ _ (U64.of hy) hT).mono fun e w' ⟨he,hw⟩=>⟨by rw[he,Int.toNat_natCast,h],hw⟩
theorem A60 {x y:Nat} {pre:List Nat} (hy:y<18446744073709551616) (h:St.memb x=pre++St.memb y) (hl:pre.length<(St.memb x).length) :
  ∃c:Nat,c≤63∧St.minI y=c∧St.memb x=(pre++[c])++St.memb (St.clear y c):=by
 have h0:y≠0:=by
  intro e;subst e;rw[h,St.memb_zero]at hl
  simp at hl
 refine⟨Lib.ctz 64 y,by have:=(St.ctz_bit h0 hy).1;omega,by unfold St.minI;rw[if_neg h0],?_⟩
 rw[h,St.memb_cons h0 hy]
 simp
theorem A6i (a:Int) (w:World) (ha:U64 a) (hT:Tab w) :
  Calls Tryz.prog 49 #[.int .u64 a] w (OwnNums 3 .i64 w (ints (St.memb a.toNat))):=by
 obtain⟨x,rfl,hx⟩:=ha.nat;rw[Int.toNat_natCast];obtain⟨i0,hi,hz0,hz1,hz2⟩:=info_parts Tryz.infoInt;have hn64:=St.pop_le 64 x;have HN:=J1 (St.memb_length x);have HC:=fun w'=>J1 (A7r (x:Int) w' (U64.of hx));rw[Int.toNat_natCast]at HC;obtain⟨n,hn⟩:∃n,n=St.pop 64 x:=⟨_,rfl⟩;rw[←hn]at hn64 HN HC;clear hn;have HT:=J1 hT;have HX:=J1 ha;clear hT ha;have Hx:=J1 hx;clear hx;have HC':=J1 HC;clear HC;go_enter Tryz.func49,Tryz.ntmps49
 go_wp2_with (first
  | (go_at_call 92;refine((HC'.out _).out).mono ?_;rintro e w' ⟨rfl,rfl⟩)
  | (at_make;refine wpList_make_own _ rfl _ _ 22 rfl w.heap.size 3 i0 (.int .i64 0) 1 Tryz.underlying22 hi hz0 hz1 .i64 .i64 _ n rfl rfl rfl (by rw[hz2];omega) (by unfold maxLen;omega) (C3 _) ?_;intro w0 hown0 hgrow0))
 have hb0:Below w w w0:=(Below.refl _ w).grown hgrow0 (C3 _) (fun k hk=>by cases hk)
 clear hgrow0
 go_loopw [0,3,10] (fun s v i wr=>∃(k y:Nat) (pre:List Nat),k≤n∧i=.int .i64 k∧s=.int .u64 y∧Hid (y<18446744073709551616)∧Hid (St.memb x=pre++St.memb y)∧Hid (pre.length=k) ∧
  wr.ownsRow w.heap.size 3 1 v (ints pre).length ((ints pre).map (Value.int .i64))∧Below w w wr) (fun _ _ i _=>n-(intOf i).toNat)
 case atStart=>exact⟨0,x,[],by omega,rfl,rfl,Hx,J1 rfl,J1 rfl,hown0,hb0⟩
 case round =>
  obtain⟨k,y,pre,hk,rfl,rfl,Hy,Hm,Hl,hown,hb⟩:=hrel
  by_cases hlt:k<n
  ·obtain⟨c,hc,hmin,hm2⟩:=A60 Hy.out Hm.out (by rw[HN.out,Hl.out];exact hlt)
   have hlen:(ints pre).length≤64:=by rw[A4d,Hl.out];omega
   have Hl2:Hid ((pre++[c]).length=k+1):=J1 (by rw[C6,Hl.out];rfl)
   have Hcl:=J1 (A8J y c Hy.out hc);have Hmin:=J1 hmin;have Hm2:=J1 hm2;clear hmin hm2
   go_wp2_with (first
    | (go_at_call 93;refine(A9j y c _ Hy.out (HT.out.below hb) Hmin.out).mono ?_;rintro e w' ⟨rfl,rfl⟩)
    | (at_builtin;refine wpList_append_own _ rfl _ _ 22 rfl w.heap.size 3 i0 (.int .i64 0) 1 8 Tryz.underlying22 hi hz0 hz1 hz2 rfl (by decide) _ _ _ rfl (hown.alloc _) ⟨wr.heap.size,0,none⟩ 1 1 [c] rfl rfl ?c1 ?c2 ?c3 ?c4 ?c5 ?_))
   case c1=>exact cell_one_new _ _ _
   case c2=>simp[Value.oneCell']
   case c3=>unfold maxLen;omega
   case c4=>omega
   case c5=>have:=hb.size;simp;omega
   intro v' w1 hown' hgrow _;have hown2:=A8d hown';have hb2:=A6N hb hown hgrow;clear hown' hgrow
   go_wp2
   go_roundw
   case rel=>exact⟨k+1,St.clear y c,pre++[c],by omega,by go_num,by rw[Hcl.out],J1 (St.clear_lt _ _),Hm2,Hl2,by rw[A66];exact hown2,hb2⟩
   case measure=>simp[intOf];omega
  ·obtain rfl:k=n:=by omega
   have he:Hid (pre=St.memb x):=J1 (by
    have h1:(St.memb y).length=0:=by
     have:=HN.out;rw[Hm.out,C6,Hl.out]at this;omega
    rw[Hm.out,D6 h1,F3])
   go_wp2
   go_ret;rw[←he.out];exact⟨_,rfl,hown,hb⟩
def RowAt (w:World) (v:Value) (r:List Vl):Prop :=
 ∃A c,v=.slice A r.length c∧r.length≤c∧∀j x,r[j]?=some x→∃b o p,A=some ⟨b,o,p⟩∧b<w.heap.size∧w.cell? ((⟨b,o,p⟩:Addr).add (j*2))=some (.bool x.1)∧w.cell? ((⟨b,o,p⟩:Addr).add (j*2+1))=some (.int .i64 x.2)
theorem L7 (a:Addr) (n:Nat):(a.add n).block=a.block:=by unfold Addr.add;split <;> rfl
theorem A42 (a:Addr) (k:Nat):(⟨(a.add k).block,(a.add k).off+1,none⟩:Addr)=a.add (k+1):=by
 unfold Addr.add
 by_cases h:k=0
 ·simp[h]
 ·simp[h,Nat.add_assoc]
theorem RowAt.pair {w:World} {A:Option Addr} {c:Nat} {r:List Vl} {j:Nat} {x:Vl} (h:RowAt w (.slice A r.length c) r) (hj:r[j]?=some x) :
  ∃b o p,A=some ⟨b,o,p⟩∧b<w.heap.size∧∀W,Below w w W→W.cell? ((⟨b,o,p⟩:Addr).add (j*2))=some (.bool x.1)∧W.cell? ⟨((⟨b,o,p⟩:Addr).add (j*2)).block,((⟨b,o,p⟩:Addr).add (j*2)).off+1,none⟩=some (.int .i64 x.2):=by
 obtain⟨A',c',hv,_,hx⟩:=h;cases hv;obtain⟨b,o,p,hA,hlt,h0,h1⟩:=hx j x hj
 refine⟨b,o,p,hA,hlt,fun W hb=>⟨(hb.cell (by rw[L7];exact hlt)).trans h0,?_⟩⟩
 rw[A42]
 exact(hb.cell (by rw[L7];exact hlt)).trans h1
theorem RowAt.below {w w':World} {B:Nat} {v:Value} {r:List Vl} (h:RowAt w v r) (hb:Below B w w') (hB:w.heap.size≤B):RowAt w' v r:=by
 obtain⟨A,c,hv,hc,hx⟩:=h;refine⟨A,c,hv,hc,fun j x hj=>?_⟩;obtain⟨b,o,p,hA,hlt,h0,h1⟩:=hx j x hj
 exact⟨b,o,p,hA,C9 hlt hb.size,(hb.cell (by rw[L7];show b<B;omega)).trans h0,(hb.cell (by rw[L7];show b<B;omega)).trans h1⟩
theorem RowAt.nil (w:World):RowAt w (.slice none 0 0) []:=⟨none,0,rfl,C3 _,fun j x h=>by simp at h⟩
structure RwsOf (w:World) (v:Value) (vs:List Value) (rs:List (List Vl)):Prop where
 sl:Sl w v vs
 len:vs.length=rs.length
 row:∀(i:Nat) (r:List Vl),rs[i]?=some r→∃u,vs[i]?=some u∧RowAt w u r
def Rws (w:World) (v:Value) (rs:List (List Vl)):Prop:=∃vs,RwsOf w v vs rs
theorem RwsOf.below {w w':World} {B:Nat} {v:Value} {vs:List Value} {rs:List (List Vl)} (h:RwsOf w v vs rs) (hb:Below B w w') (hB:w.heap.size≤B):RwsOf w' v vs rs :=
 ⟨h.sl.below hb hB,h.len,fun i r hr=>by obtain⟨u,hu,hr⟩:=h.row i r hr;exact⟨u,hu,hr.below hb hB⟩⟩
theorem Rws.below {w w':World} {B:Nat} {v:Value} {rs:List (List Vl)} (h:Rws w v rs) (hb:Below B w w') (hB:w.heap.size≤B):Rws w' v rs:=by
 obtain⟨vs,h⟩:=h;exact⟨vs,h.below hb hB⟩
theorem Rws.nil (w:World):Rws w (.slice none 0 0) []:=⟨[],⟨none,0,rfl,C3 _,fun j u h=>by simp at h⟩,rfl,fun i r h=>by simp at h⟩
theorem Rws.at_ {w:World} {v:Value} {rs:List (List Vl)} (h:Rws w v rs):∃A c,v=.slice A rs.length c∧rs.length≤c∧∀i r,rs[i]?=some r→∃b o p B d,A=some ⟨b,o,p⟩∧w.cell? ((⟨b,o,p⟩:Addr).add i)=some (.slice B r.length d)∧r.length≤d∧RowAt w (.slice B r.length d) r:=by
 obtain⟨vs,⟨A,c,hv,hc,hx⟩,hl,hr⟩:=h;rw[hl]at hv hc;refine⟨A,c,hv,hc,fun i r hi=>?_⟩;obtain⟨u,hu,hru⟩:=hr i r hi;obtain⟨b,o,p,hA,_,hcell⟩:=hx i u hu;obtain⟨B,d,rfl,hd,_⟩:=id hru;exact⟨b,o,p,B,d,hA,hcell,hd,hru⟩
open Go.RowKit Go.Sort
theorem J6 (w:World) (o:Obj):Below w w (w.alloc o):=(Below.refl _ _).alloc (C3 _) _
theorem M8 (w:World) (o o':Obj):Below w w ((w.alloc o).alloc o'):=(J6 w o).alloc (by simp) _
theorem M9 {A B:Nat} {w w':World} (h:Below B w w') (hA:A≤B):Below A w w':=⟨h.os,h.tape,h.output,h.size,fun k hk=>h.block k (C9 hk hA)⟩
theorem J5 {a b c:World} (h:Below a a b) (k:Below b b c):Below a a c:=h.trans (M9 k h.size)
def Want (w:World):Prop:=∀q p:Nat,q<7→p<3→w.cell? ⟨2,q*3+p,none⟩=some (.bool (Va.want q p))
theorem Want.below {w w':World} {B:Nat} (h:Want w) (hb:Below B w w') (hB:w.heap.size≤B):Want w':=fun q p hq hp=>by
 have h0:=h q p hq hp;rw[hb.cell (C9 (block_lt_of_cell h0) hB)];exact h0
theorem A1A (b:Bool) (n:Int) (w:World) :
  Calls Tryz.prog 111 #[.agg #[b,n]] w fun e w'=>e=.returned (.bool (Va.right b n))∧Below w w w':=by
 go_enter Tryz.func111,Tryz.ntmps111;cases b
 ·go_wp2
  go_ret
  exact⟨J8 (by simp[Va.right]),J6 _ _⟩
 ·go_wp2
  go_ret
  exact⟨J8 (by simp[Va.right]),J6 _ _⟩
theorem A16 (b:Bool) (n:Int) (w:World) :
  Calls Tryz.prog 44 #[.agg #[b,n]] w fun e w'=>e=.returned (.bool (Va.right b n))∧Below w w w':=by
 go_enter Tryz.func44,Tryz.ntmps44;cases b
 ·go_wp2
  go_ret
  exact⟨J8 (by simp[Va.right]),J6 _ _⟩
 ·go_wp2
  go_ret
  exact⟨J8 (by simp[Va.right]),J6 _ _⟩
theorem A7Y (b c:Bool) (n m:Int) (w:World) :
  Calls Tryz.prog 106 #[.agg #[b,n],.agg #[c,m]] w fun e w'=>e=.returned (.bool (Va.same b n c m))∧Below w w w':=by
 go_enter Tryz.func106,Tryz.ntmps106
 cases b <;> cases c
 all_goals go_wp2
 all_goals go_ret
 all_goals exact⟨J8 (by simp[Va.same]),M8 _ _ _⟩
theorem A2K (b c:Bool) (n m:Int) (w:World) :
  Calls Tryz.prog 107 #[.agg #[b,n],.agg #[c,m]] w fun e w'=>e=.returned (.bool (Va.less b n c m))∧Below w w w':=by
 go_enter Tryz.func107,Tryz.ntmps107
 cases b <;> cases c
 all_goals go_wp2
 all_goals go_ret
 all_goals exact⟨J8 (by simp[Va.less]),M8 _ _ _⟩
theorem A6z (b c:Bool) (n m:Int) (w:World) :
  Calls Tryz.prog 202 #[.agg #[b,n],.agg #[c,m]] w fun e w'=>e=.returned (.int .i64 (Va.place b n c m:Nat))∧Below w w w':=by
 have hP:Va.place b n c m=if Va.less b n c m then 0 else if Va.less c m b n then 2 else 1:=rfl;obtain⟨r,hr⟩:∃r,r=Va.place b n c m:=⟨_,rfl⟩;obtain⟨l1,h1⟩:∃l1,l1=Va.less b n c m:=⟨_,rfl⟩;obtain⟨l2,h2⟩:∃l2,l2=Va.less c m b n:=⟨_,rfl⟩;rw[←hr,←h1,←h2]at hP;rw[←hr];have H1:=J1 h1;have H2:=J1 h2;have HP:=J1 hP;clear hr h1 h2 hP;go_enter Tryz.func202,Tryz.ntmps202;go_wp2_with fail;refine(A2K b c n m _).mono ?_;rw[←H1.out];rintro e w1 ⟨rfl,hb1⟩;have hb:Below w w w1:=J5 (M8 w _ _) hb1
 have c1:w1.cell? ⟨w.heap.size,0,none⟩=some (.bool b):=by rw[hb1.cell (by simp;omega)];simp
 have c2:w1.cell? ⟨w.heap.size,1,none⟩=some (.int .i64 n):=by rw[hb1.cell (by simp;omega)];simp
 have c3:w1.cell? ⟨w.heap.size+1,0,none⟩=some (.bool c):=by rw[hb1.cell (by simp)];simp
 have c4:w1.cell? ⟨w.heap.size+1,1,none⟩=some (.int .i64 m):=by rw[hb1.cell (by simp)];simp
 clear hb1;cases l1
 ·go_wp2_with fail;refine(A2K c b m n _).mono ?_;rw[←H2.out];rintro e w2 ⟨rfl,hb2⟩;have hb':Below w w w2:=J5 hb hb2;clear hb2;cases l2
  ·go_wp2
   go_ret
   exact⟨M1 (by rw[HP.out];rfl),hb'⟩
  ·go_wp2
   go_ret
   exact⟨M1 (by rw[HP.out];rfl),hb'⟩
 ·go_wp2
  go_ret
  exact⟨M1 (by rw[HP.out];rfl),hb⟩
theorem A3F (o:Int) (b c:Bool) (n m:Int) (w:World) (h:(b||c)=true) :
  Calls Tryz.prog 191 #[o,.agg #[b,n],.agg #[c,m]] w fun e w'=>e=.returned (.int .i64 1)∧Below w w w':=by
 have hc:b=false→c=true:=by cases b <;> simp_all
 clear h;go_enter Tryz.func191,Tryz.ntmps191;cases b
 ·obtain rfl:=hc rfl;clear hc
  go_wp2
  go_ret;exact⟨rfl,M8 _ _ _⟩
 ·clear hc
  go_wp2
  go_ret;exact⟨rfl,M8 _ _ _⟩
theorem A4n (o:Int) (n m:Int) (w:World) (h:o<1∨6<o) :
  Calls Tryz.prog 191 #[o,.agg #[false,n],.agg #[false,m]] w fun e w'=>e=.returned (.int .i64 1)∧Below w w w':=by
 by_cases h1:o<1
 ·have h1':decide (o<1)=true:=by simp;omega
  clear h;go_enter Tryz.func191,Tryz.ntmps191
  go_wp2
  go_ret;exact⟨rfl,M8 _ _ _⟩
 ·have h1':decide (o<1)=false:=by simp;omega
  have h2':decide (6<o)=true:=by simp;omega
  clear h;go_enter Tryz.func191,Tryz.ntmps191
  go_wp2
  go_ret;exact⟨rfl,M8 _ _ _⟩
theorem A4o (q:Nat) (n m:Int) (w:World) (h1:1≤q) (h6:q≤6) (hW:Want w) :
  Calls Tryz.prog 191 #[(q:Int),.agg #[false,n],.agg #[false,m]] w fun e w'=>e=.returned (.int .i64 (Va.truth (Va.want q (Va.place false n false m))))∧Below w w w':=by
 obtain⟨p,hp⟩:∃p,p=Va.place false n false m:=⟨_,rfl⟩;have hp3:p<3:=hp ▸ Va.place_lt _ _ _ _;rw[←hp];have HP:=J1 hp
 have d1:decide ((q:Int)<1)=false:=by simp;omega
 have d2:decide (6<(q:Int))=false:=by simp;omega
 have i1:(0:Int)≤(q:Int):=by omega
 have i2:(q:Int)<7:=by omega
 have i3:(0:Int)≤(p:Int):=by omega
 have i4:(p:Int)<3:=by omega
 have hc:=hW q p (by omega) hp3
 obtain⟨t,ht⟩:∃t,t=Va.want q p:=⟨_,rfl⟩;rw[←ht]at hc ⊢;clear hp hp3 hW ht h1 h6;go_enter Tryz.func191,Tryz.ntmps191
 go_wp2
 obtain⟨W0,hW0⟩:∃W0,W0=(w.alloc (Obj.cells #[Value.bool false,Value.int IntKind.i64 n] 53)).alloc (Obj.cells #[Value.bool false,Value.int IntKind.i64 m] 53):=⟨_,rfl⟩
 have hb0:Below w w W0:=by rw[hW0];exact M8 _ _ _
 have k0:∀d os,(grow (redrawn W0 d) os).cell? ⟨w.heap.size,0,none⟩=some (.bool false):=cell_regrown (by rw[hW0];simp)
 have k1:∀d os,(grow (redrawn W0 d) os).cell? ⟨w.heap.size,0+1,none⟩=some (.int .i64 n):=cell_regrown (by rw[hW0];simp)
 have k2:∀d os,(grow (redrawn W0 d) os).cell? ⟨w.heap.size+1,0,none⟩=some (.bool false):=cell_regrown (by rw[hW0];simp)
 have k3:∀d os,(grow (redrawn W0 d) os).cell? ⟨w.heap.size+1,0+1,none⟩=some (.int .i64 m):=cell_regrown (by rw[hW0];simp)
 have k4:∀d os,(grow (redrawn W0 d) os).cell? ⟨2,q*3+p,none⟩=some (.bool t):=cell_regrown (by rw[hb0.cell (block_lt_of_cell hc)];exact hc)
 have cP:∀d os,Calls Tryz.prog 202 #[.agg #[false,n],.agg #[false,m]] (grow (redrawn W0 d) os) fun e w''=>e=.returned (.int .i64 (p:Int))∧∃p:Regrown,w''=grow (redrawn W0 p.d) p.os :=
  fun d os=>Calls.regrown_of (by have:=A6z false false n m (grow (redrawn W0 d) os);rw[←HP.out]at this;exact this)
 rw[←hW0];clear hW0 hc
 refine wp_region_quiet_below (by kernel_rfl) (by kernel_rfl) ?_
 repeat(go_big_quiet_step (exact cP _ _))
 refine wpQuiet_nil ?_;intro _ hw';obtain⟨⟨dq,osq⟩,hw''⟩:=hw';subst hw'';have hb1:Below w w (grow (redrawn W0 dq) osq):=J5 hb0 (below_regrown _ _ _);clear k0 k1 k2 k3 k4 cP hb0;generalize grow (redrawn W0 dq) osq=w1 at hb1 ⊢;cases t
 ·go_wp2
  go_ret;exact⟨rfl,hb1⟩
 ·go_wp2
  go_ret;exact⟨rfl,hb1⟩
theorem A1P (o:Int) (b c:Bool) (n m:Int) (w:World) (hW:Want w) :
  Calls Tryz.prog 191 #[o,.agg #[b,n],.agg #[c,m]] w fun e w'=>e=.returned (.int .i64 (Va.comp o b n c m))∧Below w w w':=by
 by_cases h:(b||c)=true
 ·rw[Va.comp_null h];exact A3F o b c n m w h
 ·obtain⟨rfl,rfl⟩:b=false∧c=false:=by simpa using h
  by_cases ho:o<1∨6<o
  ·rw[Va.comp_out ho];exact A4n o n m w ho
  ·obtain⟨q,rfl⟩:=Int.eq_ofNat_of_zero_le (show 0≤o by omega)
   rw[Va.comp_want q (by omega) (by omega)]
   exact A4o q n m w (by omega) (by omega) hW
def Lies (w:World) (g:Nat) (t:TypeId) (cs:List Value):Prop:=w.heap[g]?=some (.cells cs.toArray t (0,0))
section
variable {w w':World} {g:Nat} {t:TypeId} {cs:List Value}
theorem Lies.lt (h:Lies w g t cs):g<w.heap.size:=by
 unfold Lies at h;exact(D9.1 h).1
theorem Lies.cell (h:Lies w g t cs) {i:Nat} {u:Value} (hu:cs[i]?=some u):w.cell? ⟨g,i,none⟩=some u:=by
 rw[cell_of_row w g i cs.toArray t (0,0) h];simpa using hu
theorem Lies.c (h:Lies w g t cs) (i:Nat) {u:Value} (e:cs[i]?=some u):w.cell? ⟨g,i,none⟩=some u:=h.cell e
theorem Lies.free (h:Lies w g t cs) (i:Nat):w.frozen? ⟨g,i,none⟩=false:=by
 unfold Lies at h
 simp[World.frozen?,h]
theorem Lies.new (w:World) (t:TypeId) (cs:List Value):Lies (w.alloc (.cells cs.toArray t)) w.heap.size t cs:=heap_alloc_new w _
theorem Lies.drew (h:Lies w g t cs):Lies w.drew g t cs:=h
theorem Lies.drewN (h:Lies w g t cs) (n:Nat):Lies (w.drewN n) g t cs:=h
theorem Lies.alloc (h:Lies w g t cs) (o:Obj):Lies (w.alloc o) g t cs:=(Below.heap_alloc w o g h.lt).trans h
theorem Lies.far (h:Lies w g t cs) {p:Addr} (hp:g≠p.block) (u:Value):Lies (w.setCell p u) g t cs:=(Below.heap_setCell w p u g hp).trans h
theorem Lies.set (h:Lies w g t cs) (i:Nat) (u:Value):Lies (w.setCell ⟨g,i,none⟩ u) g t (cs.set i u):=by
 unfold Lies at h ⊢
 simp[World.setCell,Array.getElem?_modify,h]
theorem Lies.below {B:Nat} (h:Lies w g t cs) (hb:Below B w w') (hg:g<B):Lies w' g t cs:=(hb.block g hg).trans h
end
theorem N2 {B:Nat} {a w:World} (h:Below B a w) (n:Nat):Below B a (w.drewN n):=⟨h.os,h.tape,h.output,h.size,h.block⟩
theorem N7 {f:FuncId} {args:Array Value} {W0:World} {v:Value} (h:∀W,Below W0 W0 W→Calls Tryz.prog f args W fun e w'=>e=.returned v∧Below W W w') :
  ∀d os,Calls Tryz.prog f args (grow (redrawn W0 d) os) fun e w''=>e=.returned v∧∃p:Regrown,w''=grow (redrawn W0 p.d) p.os :=
 fun d os=>Calls.regrown_of (h _ (below_regrown W0 d os))
theorem T3 {f:FuncId} {args:Array Value} {W0:World} {v:Value} (h:∀W,Below W0 W0 W→Calls Tryz.prog f args W fun e w'=>e=.returned v∧Below W W w') :
  ∀W,Below W0 W0 W→Calls Tryz.prog f args W fun e w'=>e=.returned v∧Below W0 W0 w' :=
 fun W hb=>(h W hb).mono fun _ _ ⟨he,hw⟩=>⟨he,J5 hb hw⟩
theorem M2 {W0:World} {a:Addr} {v:Value} (h:W0.cell? a=some v):∀W,Below W0 W0 W→W.cell? a=some v :=
 fun W hb=>by rw[hb.cell (block_lt_of_cell h)];exact h
theorem B0k {w W0:World} {t:TypeId} {a b:Value} (h:W0=w.alloc (Obj.cells #[a,b] t)):Lies W0 w.heap.size t [a,b]∧Below w w W0:=by
 rw[h];exact⟨Lies.new w t [a,b],J6 w _⟩
theorem B0s {w W0:World} {t:TypeId} {a b c d:Value} (h:W0=(w.alloc (Obj.cells #[a,b] t)).alloc (Obj.cells #[c,d] t)) :
  Lies W0 w.heap.size t [a,b]∧Lies W0 (w.heap.size+1) t [c,d]∧Below w w W0:=by
 obtain⟨h1,h2⟩:=B0k (w:=w) (t:=t) (a:=a) (b:=b) rfl;have h3:=Lies.new (w.alloc (Obj.cells #[a,b] t)) t [c,d];rw[J2]at h3;rw[h];exact⟨h1.alloc _,h3,M8 w _ _⟩
theorem L5 {w W0:World} {t:TypeId} {cs:List Value} (h:W0=w.alloc (Obj.cells cs.toArray t)):Lies W0 w.heap.size t cs∧Below w w W0:=by
 rw[h];exact⟨Lies.new w t cs,J6 w _⟩
theorem Q0 {w W0:World} {t u:TypeId} {cs ds:List Value} (h:W0=(w.alloc (Obj.cells cs.toArray t)).alloc (Obj.cells ds.toArray u)):Lies W0 w.heap.size t cs∧Lies W0 (w.heap.size+1) u ds∧Below w w W0:=by
 obtain⟨W1,hW1⟩:∃W1,W1=w.alloc (Obj.cells cs.toArray t):=⟨_,rfl⟩;obtain⟨l1,hb1⟩:=L5 hW1;rw[←hW1]at h;obtain⟨l2,hb2⟩:=L5 h
 have hs:W1.heap.size=w.heap.size+1:=by rw[hW1,J2]
 rw[hs]at l2;exact⟨l1.below hb2 l1.lt,l2,J5 hb1 hb2⟩
end Go.Proofs.YtbddhkgbpjhhaaaGreatDoor
