/-
  PACKAGE ident: Ways, given that its function keeps what it is handed.
-/
import Derived.Test.YtbddhkgbpjhhaaaGreatDoorIdgM
import Derived.Test.YtbddhkgbpjhhaaaGreatDoorIdbM
set_option maxHeartbeats 6400000
set_option maxRecDepth 100000
namespace Go.Proofs.YtbddhkgbpjhhaaaGreatDoor
open Go.RowKit Go.Sort
theorem Id.here_len (a:Tr):(Id.here a).length≤5:=by
 unfold Id.here
 exact D5 (List.length_filterMap_le _ _) (by simp)
theorem Id.ways_len (a:Tr):(Id.ways a).length≤5*Tr.size a:=by
 refine Tr.ind (P:=fun a=>(Id.ways a).length≤5*Tr.size a) (fun a ih=>?_) a;have h1:=Id.here_len a;have h2:=Tr.size_at a
 by_cases h:a.ks.length=2
 ·obtain⟨x,y,hk⟩:∃x y,a.ks=[x,y]:=by
   match hkk:a.ks,h with
   | [x,y],_=>exact⟨x,y,rfl⟩
  have ex:=ih x (by rw[hk];simp)
  have ey:=ih y (by rw[hk];simp)
  have es:=Id.size_two hk;rw[Id.ways_two hk,C6,C6,E0,E0];omega
 ·rw[Id.ways_not h];omega
def WaysIs (a:Tr) (w:World) (E:Ending) (w':World):Prop:=∃v d,E=.returned v∧TsOn (fun k=>w.heap.size≤k) d w' v (Id.ways a)∧Below w w w'
theorem A8x (hand:∀(N base lb:Nat),N≤1000→Hand N 5000 (fun _=>False) (Kept base lb) 31 #[.pointer (some ⟨lb,0,none⟩)]) (a:Tr) (uA:Option Addr) (uN uC:Nat) (pA:Option Addr) (pN pC:Nat) (w:World) (ht:TrHang w (a,.slice uA uN uC,.slice pA pN pC)) (hsz:Tr.size a≤1000) (hC:Chgs w) (hW:Want w) :
  Calls Tryz.prog 8 #[.agg #[a.k,a.t,.slice uA uN uC,.slice pA pN pC,a.h]] w (WaysIs a w):=by
 have hon:TrOn (fun k=>k<w.heap.size) w (a,.slice uA uN uC,.slice pA pN pC):=ht.on fun k h=>h;obtain⟨W0,hW0⟩:∃W0,W0=(w.alloc (Obj.cells #[a.k,a.t,.slice uA uN uC,.slice pA pN pC,a.h] 26)).alloc (Obj.cells #[()] 23):=⟨_,rfl⟩;obtain⟨l0,l1,hb0⟩:=Q0 (cs:=[a.k,a.t,.slice uA uN uC,.slice pA pN pC,a.h]) (ds:=[()]) hW0
 have hs0:W0.heap.size=w.heap.size+1+1:=by rw[hW0,J2,J2]
 have cm:=A3v (fun k=>k<w.heap.size) a uA uN uC pA pN pC W0 (hon.keep hb0.size fun k hk hlt=>⟨hb0.block k hlt,hk⟩) hsz (fun k hk=>C9 hk hb0.size);have q0:=l0.c 0 rfl;have q1:=l0.c 1 rfl;have q2:=l0.c 2 rfl;have q3:=l0.c 3 rfl;have q4:=l0.c 4 rfl;have HW:=J1 hW0;have HB0:=J1 hb0;have HL1:=J1 l1;have HS0:=J1 hs0;have HSZ:=J1 hsz;have HC:=J1 hC;have HWA:=J1 hW;have HAND:=J1 hand;clear hon hW0 l0 l1 hb0 hs0 hsz hC hW ht hand;go_enter Tryz.func8,Tryz.ntmps8
 go_upto_region 2 with(fail)
 rw[←HW.out];go_wp2_with fail;refine cm.mono ?_;rintro E w1 ⟨xA,xN,xC,rfl,htn,hb1⟩;have hbw:=J5 HB0.out hb1
 have hs1:w.heap.size+1<w1.heap.size:=by have:=hb1.size;have:=HS0.out;omega
 have hkept:Kept w.heap.size (w.heap.size+1) [] (fun k=>k=w.heap.size+1) w1 :=
  ⟨⟨hs1,Nat.le_succ _,rfl⟩,fun k hk=>by subst hk;exact⟨Nat.le_succ _,hs1⟩,(),[],rfl,HL1.out.below hb1 (by have:=HS0.out;omega),⟨World.ownsRow_nil _ _ _ _,fun m hm=>by simp at hm⟩,fun k hk=>by cases hk⟩
 have hg1:0<w.heap.size:=block_lt_of_cell (HC.out 0 _ (show Id.cells[0]?=some _ from rfl))
 have hg2:2<w.heap.size:=block_lt_of_cell (HWA.out 0 0 (by decide) (by decide))
 have ct:=A8y (Tr.size a) _ _ _ _ _ _ (HAND.out (Tr.size a) w.heap.size (w.heap.size+1) HSZ.out) (fun k=>(k<w.heap.size∨W0.heap.size≤k)∧k<w1.heap.size) [] _ w1 (by have h1:=Id.ways_len a;have h2:=HSZ.out;show 0+(Id.ways a).length≤5000;omega) (C3 _) HSZ.out hkept (htn.mono fun k hk hlt=>⟨hk,hlt⟩) (fun k hk=>⟨hk.2,fun e=>by have:=HS0.out;rcases hk.1 with h | h <;> omega⟩) (fun e=>by omega) (fun e=>by omega) (HC.out.below hbw (C3 _)) (HWA.out.below hbw (C3 _))
 have CT:=J1 ct;have HBW:=J1 hbw;clear cm htn hb1 hbw hs1 hkept hg1 hg2 ct q0 q1 q2 q3 q4;go_wp2_with fail;refine CT.out.mono ?_;rintro E w2 ⟨⟨r,rfl⟩,O2,hK,hk2,_⟩;rw[F1]at hK
 obtain⟨v,d,hl,hts⟩:=hK.on (by have:=Id.ways_len a;have:=HSZ.out;omega)
 have HRES:=J1 (show TsOn (fun k=>w.heap.size≤k) d w2 v (Id.ways a)∧Below w w w2 from
  ⟨hts,hk2.os.trans HBW.out.os,hk2.tape.trans HBW.out.tape,hk2.output.trans HBW.out.output,D5 HBW.out.size hk2.size,fun k hk=>(hk2.same k (C9 hk HBW.out.size) (fun e=>by omega)).trans (HBW.out.block k hk)⟩)
 have c0:=hl.c 0 rfl;clear hK hk2 hl hts;go_wp2_with fail;go_ret;exact⟨v,d,rfl,HRES.out⟩
end Go.Proofs.YtbddhkgbpjhhaaaGreatDoor
