/-
  PACKAGE ident: each of the changes done to a node; all of them in a row.
-/
import Derived.Test.YtbddhkgbpjhhaaaGreatDoorIdyM
set_option maxHeartbeats 6400000
set_option maxRecDepth 100000
namespace Go.Proofs.YtbddhkgbpjhhaaaGreatDoor
open Go.RowKit Go.Sort
def chA (j:Nat):FuncId:=if j=0 then 68 else if j=1 then 72 else if j=2 then 77 else if j=3 then 72 else 77
def chH (j:Nat):FuncId:=if j=0 then 69 else if j=1 then 73 else if j=2 then 78 else if j=3 then 80 else 82
def chM (j:Nat):FuncId:=if j=0 then 70 else if j=1 then 76 else if j=2 then 79 else if j=3 then 81 else 83
def chL:List Value:=[.int .i64 1,.func (.func 68) #[] #[],.func (.func 69) #[] #[],.func (.func 70) #[] #[],.int .i64 2,.func (.func 72) #[] #[],.func (.func 73) #[] #[],.func (.func 76) #[] #[],.int .i64 3,.func (.func 77) #[] #[],.func (.func 78) #[] #[],.func (.func 79) #[] #[],.int .i64 4,.func (.func 72) #[] #[],.func (.func 80) #[] #[],.func (.func 81) #[] #[],.int .i64 5,.func (.func 77) #[] #[],.func (.func 82) #[] #[],.func (.func 83) #[] #[]]
theorem ApIs.how {T:Nat→Prop} {h h':Nat} {t:Tr} {w w':World} {E:Ending} (hx:ApIs T h t w E w') (ha:Id.apart h' t=Id.apart h t) (h1:h≠1):ApIs T h' t w E w':=by
 rcases hx with⟨a,b,e,f,g,h2,h3,h4,h5⟩ | ⟨h2,h3⟩
 ·exact .inl ⟨a,b,e,f,g,ha.trans h2,h3,⟨h4.1,h4.2.1,h4.2.2.1,fun _=>h4.2.2.2 h1⟩,h5⟩
 ·exact .inr ⟨ha.trans h2,h3⟩
theorem V5 {how:Nat} {a b:Int} (h:Id.may how a b=true) (h1:1≤how) (h5:how≤5):a≠0∧(how≠1→b≠0):=by
 obtain rfl | rfl | rfl | rfl | rfl:how=1∨how=2∨how=3∨how=4∨how=5:=by omega
 ·have:=Id.may_1.1 h;exact⟨by omega,fun e=>absurd rfl e⟩
 ·have:=Id.may_2.1 h;exact⟨by omega,fun _=>by omega⟩
 ·have:=Id.may_3.1 h;exact⟨by omega,fun _=>by omega⟩
 ·have:=Id.may_4.1 h;exact⟨by omega,fun _=>by omega⟩
 ·have:=Id.may_5.1 h;exact⟨by omega,fun _=>by omega⟩
theorem A68 (j:Nat) (hj:j<5) (T:Nat→Prop) (z:Nd) (w:World) (hz:TNd T w z) (hT:∀k,T k→k<w.heap.size) (hsz:Tr.size z.a≤1000) (hC:Chgs w) (hW:Want w) :
  Calls Tryz.prog 40 #[.agg #[.int .i64 ((j+1:Nat):Int),.func (.func (chA j)) #[] #[],.func (.func (chH j)) #[] #[],.func (.func (chM j)) #[] #[]],.agg #[z.a.k,z.a.t,.slice z.uA z.uN z.uC,.slice z.pA z.pN z.pC,z.a.h,.int .u64 (z.n:Int),.slice z.xA z.xN z.xC]] w (DoIs T (j+1) z.a w):=by
 have hz':∀W,Below w w W→TNd T W z:=fun W hb=>hz.below hb;have hT':∀W,Below w w W→∀k,T k→k<W.heap.size:=fun W hb k hk=>C9 (hT k hk) hb.size;have hW':∀W,Below w w W→Want W:=fun W hb=>hW.below hb (C3 _)
 obtain rfl | rfl | rfl | rfl | rfl:j=0∨j=1∨j=2∨j=3∨j=4:=by omega
 ·exact A3w 68 69 70 (fun _ _=>by kernel_rfl) (fun _ _=>by kernel_rfl) (fun _ _=>by kernel_rfl) 1 T z w hz hT hsz hC (fun W hb=>A5K T z W (hz' W hb) (hT' W hb)) (fun a b e f g W hb hp=>A4j T a b e f g W hp (hW' W hb)) (fun a b e f g W hb hp hm=>A5J T a b e f g W hp (hT' W hb) (V5 hm (by decide) (by decide)).1)
 ·exact A3w 72 73 76 (fun _ _=>by kernel_rfl) (fun _ _=>by kernel_rfl) (fun _ _=>by kernel_rfl) 2 T z w hz hT hsz hC (fun W hb=>A2k T z W (hz' W hb) (hT' W hb)) (fun a b e f g W hb hp=>A4i T a b e f g W hp (hW' W hb)) (fun a b e f g W hb hp hm=>A5I T a b e f g W hp (hT' W hb) (V5 hm (by decide) (by decide)).1 ((V5 hm (by decide) (by decide)).2 (by decide)))
 ·exact A3w 77 78 79 (fun _ _=>by kernel_rfl) (fun _ _=>by kernel_rfl) (fun _ _=>by kernel_rfl) 3 T z w hz hT hsz hC (fun W hb=>A1N T z W (hz' W hb) (hT' W hb)) (fun a b e f g W hb hp=>A4h T a b e f g W hp (hW' W hb)) (fun a b e f g W hb hp hm=>A5H T a b e f g W hp (hT' W hb) (V5 hm (by decide) (by decide)).1 ((V5 hm (by decide) (by decide)).2 (by decide)))
 ·exact A3w 72 80 81 (fun _ _=>by kernel_rfl) (fun _ _=>by kernel_rfl) (fun _ _=>by kernel_rfl) 4 T z w hz hT hsz hC (fun W hb=>(A2k T z W (hz' W hb) (hT' W hb)).mono fun _ _ h=>h.how rfl (by decide)) (fun a b e f g W hb hp=>A4g T a b e f g W hp (hW' W hb)) (fun a b e f g W hb hp hm=>A5G T a b e f g W hp (hT' W hb) (V5 hm (by decide) (by decide)).1 ((V5 hm (by decide) (by decide)).2 (by decide)))
 ·exact A3w 77 82 83 (fun _ _=>by kernel_rfl) (fun _ _=>by kernel_rfl) (fun _ _=>by kernel_rfl) 5 T z w hz hT hsz hC (fun W hb=>(A1N T z W (hz' W hb) (hT' W hb)).mono fun _ _ h=>h.how rfl (by decide)) (fun a b e f g W hb hp=>A4f T a b e f g W hp (hW' W hb)) (fun a b e f g W hb hp hm=>A5F T a b e f g W hp (hT' W hb) (V5 hm (by decide) (by decide)).1 ((V5 hm (by decide) (by decide)).2 (by decide)))
theorem A96 (j:Nat) (hj:j<5):chL[j*4]?=some (.int .i64 ((j+1:Nat):Int))∧chL[j*4+1]?=some (.func (.func (chA j)) #[] #[])∧chL[j*4+2]?=some (.func (.func (chH j)) #[] #[])∧chL[j*4+3]?=some (.func (.func (chM j)) #[] #[]):=by
 obtain rfl | rfl | rfl | rfl | rfl:j=0∨j=1∨j=2∨j=3∨j=4:=by omega
 all_goals exact⟨rfl,rfl,rfl,rfl⟩
theorem A05 (w:World):Calls Tryz.prog 39 #[] w fun E w'=>E=.returned (.slice (some ⟨w.heap.size,0,none⟩) 5 5)∧Lies w' w.heap.size 86 chL∧Below w w w':=by
 obtain⟨W0,hW0⟩:∃W0,W0=w.alloc (Obj.cells #[.int .i64 1,.func (.func 68) #[] #[],.func (.func 69) #[] #[],.func (.func 70) #[] #[],.int .i64 2,.func (.func 72) #[] #[],.func (.func 73) #[] #[],.func (.func 76) #[] #[],.int .i64 3,.func (.func 77) #[] #[],.func (.func 78) #[] #[],.func (.func 79) #[] #[],.int .i64 4,.func (.func 72) #[] #[],.func (.func 80) #[] #[],.func (.func 81) #[] #[],.int .i64 5,.func (.func 77) #[] #[],.func (.func 82) #[] #[],.func (.func 83) #[] #[]] 86):=⟨_,rfl⟩;obtain⟨l0,hb0⟩:=L5 (cs:=[.int .i64 1,.func (.func 68) #[] #[],.func (.func 69) #[] #[],.func (.func 70) #[] #[],.int .i64 2,.func (.func 72) #[] #[],.func (.func 73) #[] #[],.func (.func 76) #[] #[],.int .i64 3,.func (.func 77) #[] #[],.func (.func 78) #[] #[],.func (.func 79) #[] #[],.int .i64 4,.func (.func 72) #[] #[],.func (.func 80) #[] #[],.func (.func 81) #[] #[],.int .i64 5,.func (.func 77) #[] #[],.func (.func 82) #[] #[],.func (.func 83) #[] #[]]) hW0;have HW:=J1 hW0;have HL:=J1 l0;have HB:=J1 hb0;clear hW0 l0 hb0;go_enter Tryz.func39,Tryz.ntmps39;go_wp2_with fail;rw[←HW.out];go_ret;exact⟨rfl,HL.out,HB.out⟩
end Go.Proofs.YtbddhkgbpjhhaaaGreatDoor
