/-
  PACKAGE ident: mark: a tree with the tables in it, and in each tree within it.
-/
import Derived.Test.YtbddhkgbpjhhaaaGreatDoorIdpM
import Derived.Test.YtbddhkgbpjhhaaaGreatDoorIdzM
import Derived.Test.YtbddhkgbpjhhaaaGreatDoorGTreeB
import Derived.Test.YtbddhkgbpjhhaaaGreatDoorGEx
import Derived.Test.YtbddhkgbpjhhaaaGreatDoorIdtM
import Derived.Deep.RegionHeld3
set_option maxHeartbeats 6400000
set_option maxRecDepth 100000
namespace Go.Proofs.YtbddhkgbpjhhaaaGreatDoor
open Go.RowKit Go.Sort
def Id.tabs:List Tr→Nat
 | []=>0
 | a::r=>Tr.tables a ||| Id.tabs r
theorem Id.tabs_snoc (l:List Tr) (a:Tr):Id.tabs (l++[a])=Id.tabs l ||| Tr.tables a:=by
 induction l with
 | nil=>simp[Id.tabs]
 | cons b r ih=>rw[G8,Id.tabs,ih,Id.tabs,Nat.or_assoc]
theorem Id.tabs_alls (l:List Tr) (j:Nat):(Id.tabs l).testBit j=(decide (j<64)&&decide ((j:Int)∈Ck.lv (Tr.alls l))):=by
 induction l with
 | nil=>simp[Id.tabs,Tr.alls,Ck.lv]
 | cons a r ih =>
  rw[Id.tabs,G7,ih,Tr.alls,Ck.lv_app,Ck.tables_lv,St.testBit_ofN]
  by_cases h1:(j:Int)∈Ck.lv (Tr.all a) <;> by_cases h2:(j:Int)∈Ck.lv (Tr.alls r) <;> by_cases h3:j<64 <;> simp[h1,h2,h3]
theorem Id.tables_kids (a:Tr):Tr.tables a=Tr.tables (.mk a.k a.t false [] []) ||| Id.tabs a.ks:=by
 refine Nat.eq_of_testBit_eq fun j=>?_;rw[G7,Id.tabs_alls,Ck.tables_lv,Ck.tables_lv,St.testBit_ofN,St.testBit_ofN,Tr.all_at a,Ck.lv_app,Ck.lv_one]
 have e:Ck.lv (Tr.all (.mk a.k a.t false [] []))=if a.k=0 then [a.t]else []:=by
  rw[Tr.all_at]
  show Ck.lv (Tr.alls []++[_])=_
  rw[Tr.alls,F1,Ck.lv_one]
  rfl
 rw[e]
 by_cases hk:a.k=0
 ·by_cases h1:(j:Int)∈Ck.lv (Tr.alls a.ks) <;> by_cases h2:(j:Int)=a.t <;> by_cases h3:j<64 <;> simp[hk,h1,h2,h3]
 ·by_cases h1:(j:Int)∈Ck.lv (Tr.alls a.ks) <;> by_cases h3:j<64 <;> simp[hk,h1,h3]
theorem Id.tabs_lt (l:List Tr):Id.tabs l<18446744073709551616:=by
 induction l with
 | nil=>rw[Id.tabs];decide
 | cons a r ih=>rw[Id.tabs];exact Nat.or_lt_two_pow (n:=64) (St.ofN_lt _) ih
theorem NdRow.keep17 {R S:Nat→Prop} {base:Nat} {w w':World} {v:Value} {zs:List Nd} (h:NdRow R base w v zs) (hk:Keeps S w w') (hs:∀k,(v.ownBlock=some k∨R k)→S k):NdRow R base w' v zs :=
 ⟨Q9 h.own hk fun k hk=>hs k (.inl hk),fun z hz=>(h.nd z hz).keep hk.size fun k h2 hlt=>⟨hk.same k hlt (hs k (.inr h2.2)),h2⟩⟩
def MkIs (T:Nat→Prop) (a:Tr) (uA:Option Addr) (uN uC:Nat) (pA:Option Addr) (pN pC:Nat) (w:World) (E:Ending) (w':World):Prop :=
 ∃xA xN xC,E=.returned (.agg #[a.k,a.t,.slice uA uN uC,.slice pA pN pC,a.h,.int .u64 ((Tr.tables a:Nat):Int),.slice xA xN xC])∧TNd (fun k=>T k∨w.heap.size≤k) w' ⟨a,uA,uN,uC,pA,pN,pC,Tr.tables a,xA,xN,xC⟩∧Below w w w'
theorem A8z (T:Nat→Prop) (d:Nat):∀(a:Tr) (uA:Option Addr) (uN uC:Nat) (pA:Option Addr) (pN pC:Nat) (w:World),TsOn T d w (.slice uA uN uC) a.ks→(∃e,PsOn T e w (.slice pA pN pC) a.cs)→Tr.size a≤1000→(∀k,T k→k<w.heap.size) →
  Calls Tryz.prog 30 #[.agg #[a.k,a.t,.slice uA uN uC,.slice pA pN pC,a.h]] w (MkIs T a uA uN uC pA pN pC w):=by
 induction d using Nat.strongRecOn with
 | ind d ih =>
 intro a uA uN uC pA pN pC w hu hp hsz hT;obtain⟨i0,hi,hz0,hz1,hz2⟩:=info_parts Tryz.infoNode;obtain⟨A,c,hA,hl⟩:=hu.at_.form
 obtain⟨rfl,rfl,rfl⟩:uA=A∧uN=a.ks.length∧uC=c:=by injection hA with h1 h2 h3;exact⟨h1,h2,h3⟩
 clear hA;obtain⟨W0,hW0⟩:∃W0,W0=(w.alloc (Obj.cells #[a.k,a.t,.slice uA a.ks.length uC,.slice pA pN pC,a.h] 26)).alloc (Obj.cells #[z9,z9,(),(),false,.int .u64 0,()] 68):=⟨_,rfl⟩;obtain⟨l0,l1,hb0⟩:=Q0 (cs:=[a.k,a.t,.slice uA a.ks.length uC,.slice pA pN pC,a.h]) (ds:=[z9,z9,(),(),false,.int .u64 0,()]) hW0
 have hs0:W0.heap.size=w.heap.size+1+1:=by rw[hW0,J2,J2]
 have CT:=J1 (show ∀W,Below W0 W0 W→Calls Tryz.prog 55 #[.agg #[a.k,a.t,(),(),false]] W fun e w'=>e=.returned (.int .u64 ((Tr.tables (.mk a.k a.t false [] []):Nat):Int))∧Below W W w' from fun W (h:Below W0 W0 W)=>(A20 (.mk a.k a.t false [] []) (.slice none 0 0) (.slice none 0 0) W ⟨0,rfl,none,0,rfl⟩ ⟨0,rfl,none,0,rfl⟩ (by rw[Tr.size_at];show 1+Pr.sizes []+Tr.sizes []≤1000;rw[Pr.sizes,Tr.sizes];omega)))
 obtain⟨t0,ht0⟩:∃t,t=Tr.tables (.mk a.k a.t false [] []):=⟨_,rfl⟩;rw[←ht0]at CT;have HX:=J1 (fun W (h:Below W0 W0 W)=>l0.below h l0.lt);have HD:=J1 (fun W (h:Below W0 W0 W)=>l1.below h l1.lt);have HU:=J1 (fun W (h:Below w w W)=>(hu.keep (T':=T) h.size fun k hk hlt=>⟨h.block k hlt,hk⟩:TsOn T d W (.slice uA a.ks.length uC) a.ks));have HP:=J1 (fun W (h:Below w w W)=>(hp.elim fun e hp=>⟨e,hp.keep (T':=T) h.size fun k hk hlt=>⟨h.block k hlt,hk⟩⟩:∃e,PsOn T e W (.slice pA pN pC) a.cs));have HT:=J1 hT;have HS0:=J1 hs0;have HW:=J1 hW0;have HB0:=J1 hb0
 have HTT:=J1 (show Tr.tables a=t0 ||| Id.tabs a.ks from by rw[ht0];exact Id.tables_kids a)
 have HT0:=J1 (show t0<18446744073709551616 from by rw[ht0];exact St.ofN_lt _)
 have IH:=J1 ih;have hsa:=Tr.size_at a
 have HKS:=J1 (show Tr.sizes a.ks≤1000 by omega)
 have hn1:=Tr.sizes_length a.ks
 have hn1000:a.ks.length≤1000:=by omega
 obtain⟨n,hn⟩:∃n,n=a.ks.length:=⟨_,rfl⟩;rw[←hn]at HX HU HW hn1000 ⊢;have HN:=J1 hn;have hB:=Below.refl W0 W0;clear hu hp hsz hT hW0 hs0 hb0 l0 l1 ht0 ih hl hsa hn1 hn;go_enter Tryz.func30,Tryz.ntmps30
 go_upto_region 1 with(fail)
 rw[←HW.out]
 refine wp_region_held_drew (S:=fun W=>Below W0 W0 W) (by kernel_rfl) hB.drew (fun hS=>?_)
 refine Q7 (l':=Array.replicate 10 false) (m':=10) (by kernel_rfl) (by kernel_rfl) ?_
 refine tk9 (i:=0) (v:=?v0) rfl (Or.inl ⟨by rfl,?hy0⟩) hS ?rest0
 case hy0=>(intro w hSw;have l:=HX.out _ hSw;have x0:=l.c 0 rfl;have x1:=l.c 1 rfl;have x2:=l.c 2 rfl;have x3:=l.c 3 rfl;have x4:=l.c 4 rfl;clear l;go_simp;try with_reducible rfl)
 try simp only[Act.put,A7,C4,C5]
 refine tk9 (i:=1) (v:=?v1) rfl (Or.inl ⟨by rfl,?hy1⟩) hS ?rest1
 case hy1=>(intro w hSw;have l:=HX.out _ hSw;have x0:=l.c 0 rfl;have x1:=l.c 1 rfl;have x2:=l.c 2 rfl;have x3:=l.c 3 rfl;have x4:=l.c 4 rfl;clear l;go_simp;try with_reducible rfl)
 try simp only[Act.put,A7,C4,C5]
 refine tk9 (i:=2) (v:=?v2) rfl (Or.inl ⟨by rfl,?hy2⟩) hS ?rest2
 case hy2=>(intro w hSw;have l:=HX.out _ hSw;have x0:=l.c 0 rfl;have x1:=l.c 1 rfl;have x2:=l.c 2 rfl;have x3:=l.c 3 rfl;have x4:=l.c 4 rfl;clear l;go_simp;try with_reducible rfl)
 try simp only[Act.put,A7,C4,C5]
 refine tk9 (i:=3) (v:=?v3) rfl (Or.inl ⟨by rfl,?hy3⟩) hS ?rest3
 case hy3=>(intro w hSw;have l:=HX.out _ hSw;have x0:=l.c 0 rfl;have x1:=l.c 1 rfl;have x2:=l.c 2 rfl;have x3:=l.c 3 rfl;have x4:=l.c 4 rfl;clear l;go_simp;try with_reducible rfl)
 try simp only[Act.put,A7,C4,C5]
 refine tk9 (i:=4) (v:=?v4) rfl (Or.inl ⟨by rfl,?hy4⟩) hS ?rest4
 case hy4=>(intro w hSw;have l:=HX.out _ hSw;have x0:=l.c 0 rfl;have x1:=l.c 1 rfl;have x2:=l.c 2 rfl;have x3:=l.c 3 rfl;have x4:=l.c 4 rfl;clear l;go_simp;try with_reducible rfl)
 try simp only[Act.put,A7,C4,C5]
 refine tk9 (i:=5) (v:=?v5) rfl (Or.inl ⟨by rfl,?hy5⟩) hS ?rest5
 case hy5=>(intro w hSw;have l:=HX.out _ hSw;have x0:=l.c 0 rfl;have x1:=l.c 1 rfl;have x2:=l.c 2 rfl;have x3:=l.c 3 rfl;have x4:=l.c 4 rfl;clear l;go_simp;try with_reducible rfl)
 try simp only[Act.put,A7,C4,C5]
 refine wpAnyH_ready (rs:=[6,8]) (by kernel_rfl) (by simp) ?_
 refine J3 rfl (fun K hK=>?_) (J3 rfl (fun K hK=>?_) J4)
 rw[if_pos (by kernel_rfl)]
 go_simp;refine(CT.out _ hS).mono ?_;rintro e w1 ⟨rfl,hb1⟩
 try dsimp only
 have hS1:=J5 hS hb1;refine hK.out _ _ hS1 (fun _=>?_);clear hK K hS hb1
 try simp only[Act.put,A7,C4,C5]
 have hS:=hS1
 refine tk9 (i:=7) (v:=?v6) rfl (Or.inl ⟨by rfl,?hy6⟩) hS ?rest6
 case hy6=>(intro w hSw;have l:=HX.out _ hSw;have x0:=l.c 0 rfl;have x1:=l.c 1 rfl;have x2:=l.c 2 rfl;have x3:=l.c 3 rfl;have x4:=l.c 4 rfl;clear l;go_simp;try with_reducible rfl)
 try simp only[Act.put,A7,C4,C5]
 refine wpAnyH_ready (rs:=[8]) (by kernel_rfl) (by simp) ?_
 refine J3 rfl (fun K hK=>?_) J4
 rw[if_pos (by kernel_rfl)]
 go_simp;have hS2:Below W0 W0 (w1.alloc (Obj.cells #[z9,z9,(),(),false,.int .u64 0,()] 68)):=J5 hS1 (J6 _ _);refine hK.out _ _ hS2 (fun _=>?_);clear hK K
 try simp only[Act.put,A7,C4,C5]
 have QZ:=J1 (Lies.new w1 68 [z9,z9,(),(),false,.int .u64 0,()]);have HSP:=J1 hS2
 have HGG:=J1 (show W0.heap.size≤w1.heap.size from hS1.size)
 clear hS1 hS2 hS
 refine wpAnyH_ready (rs:=[9]) (by kernel_rfl) (by simp) ?_
 refine J3 rfl (fun K hK=>?_) J4
 rw[if_pos (by kernel_rfl)]
 refine wp_store_mid 68 _ _ rfl w1.heap.size 0 ([a.k,a.t,.slice uA n uC,.slice pA pN pC,a.h,.int .u64 (t0:Int),()]:List Value).toArray rfl rfl (Lies.there QZ.out rfl) (by kernel_rfl) (by rw[←G0];rfl) ?_
 obtain⟨W1,hW1⟩:∃W1,W1=setCells (w1.alloc (Obj.cells #[z9,z9,(),(),false,.int .u64 0,()] 68)) w1.heap.size 0 [a.k,a.t,.slice uA n uC,.slice pA pN pC,a.h,.int .u64 (t0:Int),()]:=⟨_,rfl⟩;rw[L6];rw[←hW1]
 obtain⟨_,_,hk6,hq6,_⟩:=L9 (P:=Tryz.prog) (L:=[a.k,a.t,.slice uA n uC,.slice pA pN pC,a.h,.int .u64 (t0:Int),()]) (w:=w1) QZ.out rfl Tryz.underlying68 rfl (by kernel_rfl) (J6 _ _) (C3 _) hW1
 clear hW1
 have hS2:Below W0 W0 W1:=⟨hk6.os.trans HSP.out.os,hk6.tape.trans HSP.out.tape,hk6.output.trans HSP.out.output,D5 HSP.out.size hk6.size,fun k hk=>(hk6.same k (C9 hk HSP.out.size) (by have:=HGG.out;omega)).trans (HSP.out.block k hk)⟩
 have HS2:=J1 hS2;have HL2:=J1 hq6
 have HG1:=J1 (show W0.heap.size≤w1.heap.size∧w1.heap.size<W1.heap.size from⟨HGG.out,hq6.lt⟩)
 refine hK.out _ _ hS2 (fun _=>?_);clear hK K hS2 hk6 hq6
 try simp only[Act.put,A7]
 refine wpAnyH_done (by kernel_rfl) ?_ _
 obtain⟨g,hg⟩:∃g,g=w1.heap.size:=⟨_,rfl⟩
 rotate_left
 rw[if_pos (by kernel_rfl)]
 go_simp;have hS2:Below W0 W0 (W0.drew.alloc (Obj.cells #[z9,z9,(),(),false,.int .u64 0,()] 68)):=J5 hS (J6 _ _);refine hK.out _ _ hS2 (fun _=>?_);clear hK K hS
 try simp only[Act.put,A7,C4,C5]
 refine wpAnyH_ready (rs:=[6]) (by kernel_rfl) (by simp) ?_
 refine J3 rfl (fun K hK=>?_) J4
 rw[if_pos (by kernel_rfl)]
 go_simp;refine(CT.out _ hS2).mono ?_;rintro e w1 ⟨rfl,hb1⟩
 try dsimp only
 have hS:=J5 hS2 hb1;refine hK.out _ _ hS (fun _=>?_);clear hK K
 try simp only[Act.put,A7,C4,C5]
 refine tk9 (i:=7) (v:=?w7) rfl (Or.inl ⟨by rfl,?hz7⟩) hS ?qest7
 case hz7=>(intro w hSw;go_simp;try with_reducible rfl)
 try simp only[Act.put,A7,C4,C5]
 have QZ:=J1 (show Lies w1 W0.heap.size 68 [z9,z9,(),(),false,.int .u64 0,()] from(Lies.new W0.drew 68 [z9,z9,(),(),false,.int .u64 0,()]).below hb1 (by rw[J2];exact Nat.lt_succ_self _))
 have HSP:=J1 hS
 have HGG:=J1 (show W0.heap.size≤W0.heap.size from C3 _)
 have HBN:=J1 (J5 (J6 W0.drew (Obj.cells #[z9,z9,(),(),false,.int .u64 0,()] 68)) hb1);clear hS2 hS hb1
 refine wpAnyH_ready (rs:=[9]) (by kernel_rfl) (by simp) ?_
 refine J3 rfl (fun K hK=>?_) J4
 rw[if_pos (by kernel_rfl)]
 refine wp_store_mid 68 _ _ rfl W0.heap.size 0 ([a.k,a.t,.slice uA n uC,.slice pA pN pC,a.h,.int .u64 (t0:Int),()]:List Value).toArray rfl rfl (Lies.there QZ.out rfl) (by kernel_rfl) (by rw[←G0];rfl) ?_
 obtain⟨W1,hW1⟩:∃W1,W1=setCells w1 W0.heap.size 0 [a.k,a.t,.slice uA n uC,.slice pA pN pC,a.h,.int .u64 (t0:Int),()]:=⟨_,rfl⟩;rw[L6];rw[←hW1]
 obtain⟨_,_,hk6,hq6,_⟩:=L9 (P:=Tryz.prog) (L:=[a.k,a.t,.slice uA n uC,.slice pA pN pC,a.h,.int .u64 (t0:Int),()]) (w:=W0.drew) QZ.out rfl Tryz.underlying68 rfl (by kernel_rfl) HBN.out (C3 _) hW1
 clear hW1
 have hS2:Below W0 W0 W1:=⟨hk6.os.trans HSP.out.os,hk6.tape.trans HSP.out.tape,hk6.output.trans HSP.out.output,D5 HSP.out.size hk6.size,fun k hk=>(hk6.same k (C9 hk HSP.out.size) (by have:=HGG.out;omega)).trans (HSP.out.block k hk)⟩
 have HS2:=J1 hS2;have HL2:=J1 hq6
 have HG1:=J1 (show W0.heap.size≤W0.heap.size∧W0.heap.size<W1.heap.size from⟨HGG.out,hq6.lt⟩)
 refine hK.out _ _ hS2 (fun _=>?_);clear hK K hS2 hk6 hq6
 try simp only[Act.put,A7]
 refine wpAnyH_done (by kernel_rfl) ?_ _
 obtain⟨g,hg⟩:∃g,g=W0.heap.size:=⟨_,rfl⟩
 rotate_left
 all_goals
  replace HG1:=J1 (show W0.heap.size≤g∧g<W1.heap.size from by rw[hg];exact HG1.out)
  rw[←hg]at HL2 ⊢;clear hg;have x2:=(HX.out W1 HS2.out).c 2 rfl;go_wp2_with fail;clear x2;obtain⟨ks,hks⟩:∃ks,ks=a.ks:=⟨_,rfl⟩;rw[←hks]at HU HN HTT HKS;have HKE:=J1 hks;clear hks
  go_loopw [18] (fun i wr=>∃(q:Nat) (zs:List Nd) (tq:Nat) (B:Option Addr) (b:Nat),q≤n∧i=.int .i64 q∧Hid (zs.length=q)∧Hid (zs.map Nd.a=ks.take q)∧Hid (NdRow (fun k=>T k∨W1.heap.size≤k) W1.heap.size wr (.slice B q b) zs)∧Hid (Lies wr g 68 [a.k,a.t,.slice uA n uC,.slice pA pN pC,a.h,.int .u64 (tq:Int),.slice B q b])∧Hid (tq=t0 ||| Id.tabs (ks.take q))∧Below W0 W0 wr∧Hid (W1.heap.size≤wr.heap.size)) (fun i _=>n-(intOf i).toNat)
  case atStart=>exact⟨0,[],t0,none,0,E3 _,rfl,J1 rfl,J1 (by rw[F8];rfl),J1 ⟨World.ownsRow_nil _ _ _ _,fun z hz=>by simp at hz⟩,HL2,J1 (by rw[F8,Id.tabs,Nat.or_zero]),HS2.out,J1 (C3 _)⟩
  case round =>
   obtain⟨q,zs,tq,B,b,hq,rfl,hzl,hzm,hrow,hlg,htq,hb,hsz⟩:=hrel
   by_cases hlt:q<n
   ·obtain⟨y,gy⟩:∃y,ks[q]?=some y:=⟨ks[q]'(by have:=HN.out;omega),A8 _⟩
    have hbw:=J5 HB0.out hb;have hu:=HU.out wr hbw;rw[HN.out]at hu;obtain⟨e,bb,oo,ss,xx,yy,he,rfl,hTb,hbl,hkx,hky,hcell,hps,hts⟩:=hu.one gy;clear hkx hky;obtain⟨vA,vC,rfl,_⟩:=hts.at_.form;obtain⟨qA,qC,rfl,_⟩:=hps.elim fun e h=>h.at_.form;obtain⟨W2,hW2⟩:∃W2,W2=wr.alloc (Obj.cells #[y.k,y.t,.slice vA y.ks.length vC,.slice qA y.cs.length qC,y.h] 26):=⟨_,rfl⟩
    have hb2:Below wr wr W2:=by rw[hW2];exact J6 _ _
    have hsy:=Tr.sizes_at gy
    have cm:=IH.out e he y vA y.ks.length vC qA y.cs.length qC W2 (hts.keep hb2.size fun k hk hlt=>⟨hb2.block k hlt,hk⟩) (hps.elim fun e h=>⟨e,h.keep hb2.size fun k hk hlt=>⟨hb2.block k hlt,hk⟩⟩) (by have:=HKS.out;omega) (fun k hk=>by have:=HT.out k hk;have:=hbw.size;have:=hb2.size;omega)
    have htk:ks.take (q+1)=ks.take q++[y]:=by rw[D7,gy];rfl
    have HTK:=J1 htk;have HW2:=J1 hW2;have HB2:=J1 hb2;have HB:=J1 hb;obtain⟨q0,q1,q2,q3,q4⟩:=hcell
    have i2:(q:Int)<(n:Int):=by omega
    clear hu hbw hTb hbl hps hts hW2 hb2 hsy gy htk hb he;go_wp2_with fail;rw[←HW2.out];refine cm.mono ?_;rintro E w3 ⟨xA,xN,xC,rfl,hty,hb3⟩;clear cm q0 q1 q2 q3 q4;obtain⟨W4,hW4⟩:∃W4,W4=w3.alloc (Obj.cells #[y.k,y.t,.slice vA y.ks.length vC,.slice qA y.cs.length qC,y.h,.int .u64 ((Tr.tables y:Nat):Int),.slice xA xN xC] 68):=⟨_,rfl⟩;obtain⟨l6,hb4⟩:=L5 (cs:=[y.k,y.t,.slice vA y.ks.length vC,.slice qA y.cs.length qC,y.h,.int .u64 ((Tr.tables y:Nat):Int),.slice xA xN xC]) hW4;have hb34:=J5 (J5 HB2.out hb3) hb4;have hlg4:=hlg.out.below hb34 hlg.out.lt
    obtain⟨t5,ht5⟩:∃t5,t5=tq ||| Tr.tables y:=⟨_,rfl⟩
    have HOR:=J1 (show bits BinOp.or IntKind.u64 (tq:Int) ((Tr.tables y:Nat):Int)=(t5:Int) from by rw[ht5];exact u64_or_nat tq (Tr.tables y) (by rw[htq.out];exact Nat.or_lt_two_pow (n:=64) HT0.out (Id.tabs_lt _)) (St.ofN_lt _))
    have HT5:=J1 (show t5=t0 ||| Id.tabs (ks.take (q+1)) from by rw[ht5,HTK.out,Id.tabs_snoc,htq.out,Nat.or_assoc])
    obtain⟨W5,hW5⟩:∃W5,W5=W4.setCell ⟨g,5,none⟩ (.int .u64 (t5:Int)):=⟨_,rfl⟩
    have hwr:wr.heap.size<w3.heap.size:=by have:=hb3.size;rw[HW2.out,J2]at this;omega
    have hgw:g<w3.heap.size:=by have:=HG1.out.2;have:=hsz.out;omega
    have hk5:Keeps (fun k=>k≠g) W4 W5:=by rw[hW5];exact(Keeps.refl _ _).setCell _ (.inl fun h=>h rfl)
    have lg5:Lies W5 g 68 [a.k,a.t,.slice (some ⟨bb,oo,ss⟩) n uC,.slice pA pN pC,a.h,.int .u64 (t5:Int),.slice B q b]:=by rw[hW5];exact hlg4.set 5 _
    have l65:Lies W5 w3.heap.size 68 [y.k,y.t,.slice vA y.ks.length vC,.slice qA y.cs.length qC,y.h,.int .u64 ((Tr.tables y:Nat):Int),.slice xA xN xC]:=(hk5.same _ l6.lt (by omega)).trans l6
    obtain⟨W6,hW6⟩:∃W6,W6=W5.alloc (Obj.cells #[y.k,y.t,.slice vA y.ks.length vC,.slice qA y.cs.length qC,y.h,.int .u64 ((Tr.tables y:Nat):Int),.slice xA xN xC] 68):=⟨_,rfl⟩;obtain⟨l7,hb6⟩:=L5 (cs:=[y.k,y.t,.slice vA y.ks.length vC,.slice qA y.cs.length qC,y.h,.int .u64 ((Tr.tables y:Nat):Int),.slice xA xN xC]) hW6
    have hs5:W5.heap.size=W4.heap.size:=by rw[hW5];simp[World.setCell]
    have hs4:W4.heap.size=w3.heap.size+1:=by rw[hW4,J2]
    have hrow6:NdRow (fun k=>T k∨W1.heap.size≤k) W1.heap.size W6 (.slice B q b) zs:=((hrow.out.below hb34).keep17 hk5 (fun k hk=>by
     have h1:=HG1.out.2
     rcases hk with hk | hk | hk
     ·have:=(hrow.out.own.lt k hk).1;omega
     ·have:=HT.out k hk;have:=HG1.out.1;have:=HS0.out;omega
     ·omega)).below hb6
    have hty6:TNd (fun k=>(Value.slice B q b).ownBlock≠some k∧(T k∨W1.heap.size≤k)) W6 ⟨y,vA,y.ks.length,vC,qA,y.cs.length,qC,Tr.tables y,xA,xN,xC⟩:=hty.keep (by have:=hb6.size;omega) (fun k hk hlt=>by
     have h1:=HG1.out;have h2:=HS0.out;have h3:=hsz.out;have h4:=HB2.out.size
     have hkg:k≠g:=by
      rcases hk with hk | hk
      ·have:=HT.out k hk;omega
      ·omega
     refine⟨(hb6.block k (by omega)).trans ((hk5.same k (by omega) hkg).trans (hb4.block k hlt)),fun e=>?_,hk.imp id (fun h=>by omega)⟩
     have h5:=hrow.out.own.lt k e
     rcases hk with hk | hk
     ·have:=HT.out k hk;omega
     ·have h6:W2.heap.size=wr.heap.size+1:=by rw[HW2.out,J2]
      omega)
    have hlg6:=lg5.below hb6 lg5.lt;have HROW:=J1 hrow6;have HTY:=J1 hty6;have HLG6:=J1 hlg6;have HW4:=J1 hW4;have HW5:=J1 hW5;have HW6:=J1 hW6;have HL7:=J1 l7
    have HB6:=J1 (show Below W0 W0 W6 from(J5 ((J5 HB.out hb34).setCell (p:=⟨g,5,none⟩) HG1.out.1 (.int .u64 (t5:Int))) (by rw[←hW5];exact hb6)))
    have HSZ6:=J1 (show W1.heap.size≤W5.heap.size∧W1.heap.size≤W6.heap.size from⟨by have:=hsz.out;omega,by have:=hsz.out;have:=hb6.size;omega⟩)
    have HZL:=hzl;have g5:=hlg4.c 5 rfl;have f5:=hlg4.free 5;have k5:=l6.c 5 rfl;have hor:=HOR.out;clear hb34 hlg4 ht5 hwr hgw hk5 hs5 hs4 hrow6 hty6 hlg6 hW4 hW5 hW6 l6 l7 hb4 hb6 hb3 hty hrow hlg
    go_upto_region 6 with(fail)
    rw[←HW4.out]
    go_upto_region 7 with(fail)
    rw[←HW5.out];clear g5 f5 k5 hor;have g6:=lg5.c 6 rfl;have k0:=l65.c 0 rfl;have k1:=l65.c 1 rfl;have k2:=l65.c 2 rfl;have k3:=l65.c 3 rfl;have k4:=l65.c 4 rfl;have k5:=l65.c 5 rfl;have k6:=l65.c 6 rfl
    have HOWN:=J1 (show W6.ownsRow W1.heap.size 68 7 (.slice B q b) q (ndCells zs) from by have:=HROW.out.own;rwa[HZL.out]at this)
    clear lg5 l65
    go_wp2_with (first
     | (at_builtin;rw[←HW6.out];refine Q8 _ rfl _ _ 66 rfl W1.heap.size 68 i0 (.agg #[z9,z9,(),(),false,.int .u64 0,()]) 7 104 Tryz.underlying66 hi hz0 hz1 hz2 rfl (by decide) _ q (ndCells zs) rfl HOWN.out ⟨W5.heap.size,0,none⟩ 1 1 [y.k,y.t,.slice vA y.ks.length vC,.slice qA y.cs.length qC,y.h,.int .u64 ((Tr.tables y:Nat):Int),.slice xA xN xC] rfl rfl ?_ ?_ ?_ ?_ ?_ ?_))
    ·intro j u hj;rw[S2];exact HL7.out.cell hj
    ·exact(Nd.mk y vA y.ks.length vC qA y.cs.length qC (Tr.tables y) xA xN xC).A0K
    ·unfold maxLen;omega
    ·omega
    ·exact HSZ6.out.2
    intro v1 w7 hown hgrow hwhere
    have hrow7:=HROW.out.push (z:=⟨y,vA,y.ks.length,vC,qA,y.cs.length,qC,Tr.tables y,xA,xN,xC⟩) HTY.out (by rw[HZL.out];exact hown) hgrow hwhere
    have hg7:w7.heap[g]?=W6.heap[g]?:=hgrow.block g HLG6.out.lt (fun e=>by have:=(HOWN.out.lt g e.symm).1;have:=HG1.out.2;omega)
    have lg7:Lies w7 g 68 _:=hg7.trans HLG6.out
    obtain⟨A5,a5,rfl⟩:∃A5 a5,v1=.slice A5 (q+1) a5:=by
     obtain⟨A,c,h⟩:=hrow7.form;rw[C6,HZL.out,List.length_singleton]at h;exact⟨A,c,h⟩
    obtain⟨W8,hW8⟩:∃W8,W8=w7.setCell ⟨g,6,none⟩ (.slice A5 (q+1) a5):=⟨_,rfl⟩
    have hk8:Keeps (fun k=>k≠g) w7 W8:=by rw[hW8];exact(Keeps.refl _ _).setCell _ (.inl fun h=>h rfl)
    have HLG8:=J1 (show Lies W8 g 68 [a.k,a.t,.slice (some ⟨bb,oo,ss⟩) n uC,.slice pA pN pC,a.h,.int .u64 (t5:Int),.slice A5 (q+1) a5] from by rw[hW8];exact lg7.set 6 _)
    have HROW8:=J1 (hrow7.keep17 hk8 (fun k hk=>by
     have h1:=HG1.out.2
     rcases hk with hk | hk | hk
     ·have:=(hrow7.own.lt k hk).1;omega
     ·have:=HT.out k hk;have:=HG1.out.1;have:=HS0.out;omega
     ·omega))
    have HB8:=J1 (show Below W0 W0 W8 from by
     rw[hW8];refine Below.setCell ?_ (p:=⟨g,6,none⟩) HG1.out.1 _
     exact HB6.out.grown hgrow HB6.out.size (fun k hk=>by have:=(HOWN.out.lt k hk).1;have:=HG1.out;omega))
    have HSZ8:=J1 (show W1.heap.size≤W8.heap.size from D5 HSZ6.out.2 (D5 hgrow.size hk8.size))
    have HW8:=J1 hW8;have g6:=lg7.c 6 rfl;have f6:=lg7.free 6
    have HZL8:=J1 (show(zs++[(⟨y,vA,y.ks.length,vC,qA,y.cs.length,qC,Tr.tables y,xA,xN,xC⟩:Nd)]).length=q+1 from by rw[C6,HZL.out];rfl)
    have HZM8:=J1 (show(zs++[(⟨y,vA,y.ks.length,vC,qA,y.cs.length,qC,Tr.tables y,xA,xN,xC⟩:Nd)]).map Nd.a=ks.take (q+1) from by rw[List.map_append,hzm.out,HTK.out];rfl)
    clear hown hgrow hwhere hrow7 hg7 lg7 hk8 hW8 k0 k1 k2 k3 k4 k5 k6;go_wp2_with fail;rw[←HW8.out]
    go_roundw
    case rel=>exact⟨q+1,_,t5,A5,a5,by omega,by go_num,HZL8,HZM8,HROW8,HLG8,HT5,HB8.out,HSZ8⟩
    case measure=>simp[intOf];omega
   ·obtain rfl:q=n:=by omega
    have i2:¬((q:Int)<(q:Int)):=by omega
    have hks:ks.take q=ks:=C7 (by have:=HN.out;omega)
    have g0:=hlg.out.c 0 rfl;have g1:=hlg.out.c 1 rfl;have g2:=hlg.out.c 2 rfl;have g3:=hlg.out.c 3 rfl;have g4:=hlg.out.c 4 rfl;have g5:=hlg.out.c 5 rfl;have g6:=hlg.out.c 6 rfl;have hd:=HD.out wr hb;have m0:=hd.c 0 rfl;have r0:=hd.free 0;have m1:=hd.c 1 rfl;have r1:=hd.free 1;have m2:=hd.c 2 rfl;have r2:=hd.free 2;have m3:=hd.c 3 rfl;have r3:=hd.free 3;have m4:=hd.c 4 rfl;have r4:=hd.free 4;have m5:=hd.c 5 rfl;have r5:=hd.free 5;have m6:=hd.c 6 rfl;have r6:=hd.free 6;have HDD:=J1 hd;have HB:=J1 hb;have HKS2:=J1 hks;clear hd hb hks;go_wp2_with fail;obtain⟨W9,hW9⟩:∃W9,W9=setCells wr (w.heap.size+1) 0 [a.k,a.t,.slice uA q uC,.slice pA pN pC,a.h,.int .u64 (tq:Int),.slice B q b]:=⟨_,rfl⟩
    obtain⟨hl,hb9,hk9,_,_⟩:=L9 (P:=Tryz.prog) (L:=[a.k,a.t,.slice uA q uC,.slice pA pN pC,a.h,.int .u64 (tq:Int),.slice B q b]) (w:=w) HDD.out rfl Tryz.underlying68 rfl (by kernel_rfl) (J5 HB0.out HB.out) (Nat.le_succ _) hW9
    simp only[setCells]at hW9;rw[←hW9];clear hW9;refine bodyPost_ret (v:=.agg #[a.k,a.t,.slice uA q uC,.slice pA pN pC,a.h,.int .u64 (tq:Int),.slice B q b]) (R9 rfl rfl hl) rfl ?_
    have htt:tq=Tr.tables a:=by rw[htq.out,HKS2.out];exact HTT.out.symm
    have hbw:=J5 HB0.out HB.out
    have hne:∀k,T k∨W0.heap.size≤k→k≠w.heap.size+1:=fun k hk=>by
     rcases hk with hk | hk
     ·have:=HT.out k hk;omega
     ·have:=HS0.out;omega
    obtain⟨dd,hnk⟩:=hrow.out.nks (by have:=hzl.out;omega)
    rw[hzm.out,HKS2.out,HKE.out]at hnk;have hu:=HU.out wr hbw;rw[HKE.out]at hu
    exact⟨B,q,b,by rw[htt],⟨rfl,⟨⟨d,hu.keep hk9.size fun k hk hlt=>⟨hk9.same k hlt (hne k (.inl hk)),.inl hk⟩⟩,(HP.out wr hbw).elim fun e h=>⟨e,h.keep hk9.size fun k hk hlt=>⟨hk9.same k hlt (hne k (.inl hk)),.inl hk⟩⟩⟩,dd,hnk.keep hk9.size fun k hk hlt=>by
     have h1:=HG1.out;have h2:=HS0.out
     rcases hk with hk | hk | hk
     ·have:=(hrow.out.own.lt k hk).1
      exact⟨hk9.same k hlt (hne k (.inr (by omega))),.inr (by omega)⟩
     ·exact⟨hk9.same k hlt (hne k (.inl hk)),.inl hk⟩
     ·exact⟨hk9.same k hlt (hne k (.inr (by omega))),.inr (by omega)⟩⟩,hb9⟩
theorem A3v (T:Nat→Prop) (a:Tr) (uA:Option Addr) (uN uC:Nat) (pA:Option Addr) (pN pC:Nat) (w:World) (ht:TrOn T w (a,.slice uA uN uC,.slice pA pN pC)) (hsz:Tr.size a≤1000) (hT:∀k,T k→k<w.heap.size) :
  Calls Tryz.prog 30 #[.agg #[a.k,a.t,.slice uA uN uC,.slice pA pN pC,a.h]] w (MkIs T a uA uN uC pA pN pC w):=by
 obtain⟨⟨d,hu⟩,hp⟩:=ht;exact A8z T d a uA uN uC pA pN pC w hu hp hsz hT
end Go.Proofs.YtbddhkgbpjhhaaaGreatDoor
