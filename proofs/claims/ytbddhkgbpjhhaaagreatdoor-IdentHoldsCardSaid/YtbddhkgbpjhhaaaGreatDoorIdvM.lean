/-
  PACKAGE ident: what is asked of a node's parts.
-/
import Derived.Test.YtbddhkgbpjhhaaaGreatDoorIdsM
import Derived.Test.YtbddhkgbpjhhaaaGreatDoorIdtM
import Derived.Test.YtbddhkgbpjhhaaaGreatDoorIdrM
import Derived.Test.YtbddhkgbpjhhaaaGreatDoorGRej
set_option maxHeartbeats 6400000
set_option maxRecDepth 100000
namespace Go.Proofs.YtbddhkgbpjhhaaaGreatDoor
open Go.RowKit Go.Sort
structure PtOk (T:Nat→Prop) (how:Nat) (w:World) (a b e f g:Nd):Prop where
 ha:TNd T w a
 he:TNd T w e
 hf:TNd T w f
 bg:how≠1→TNd T w b∧TNd T w g
 sa:Pr.sizes a.a.cs≤1000
 sb:Pr.sizes b.a.cs≤1000
theorem PtOk.below {T:Nat→Prop} {how:Nat} {w w':World} {a b e f g:Nd} (h:PtOk T how w a b e f g) (hb:Below w w w'):PtOk T how w' a b e f g :=
 ⟨h.ha.below hb,h.he.below hb,h.hf.below hb,fun hh=>⟨(h.bg hh).1.below hb,(h.bg hh).2.below hb⟩,h.sa,h.sb⟩
theorem TNd.ps {T:Nat→Prop} {w:World} {z:Nd} (h:TNd T w z):PsSome w z.p z.a.cs:=h.tr.2.elim fun d h=>⟨d,h.at_⟩
theorem A7A (x y h a:Int) (w:World):(binOp .eql 140 (.agg #[x,y]) (.agg #[h,a])).run Tryz.prog w=.ok (.bool (x == h&&y == a)) w:=by
 obtain⟨i0,hi,_⟩:=info_parts Tryz.infoInt;have h2:=run_equalIn_array (P:=Tryz.prog) w 9999 #[x,y] #[h,a] Tryz.underlying140 hi
 rw[show Tryz.prog.cellsOf 3=1 by kernel_rfl,show List.range 2=[0,1] from rfl]at h2
 go_simp;clear h2;simp only[Op.eqItems];go_simp
 by_cases e1:x=h
 ·by_cases e2:y=a
  ·simp[e1,e2]
  ·simp[e1,e2]
 ·simp[e1]
theorem A04 (T:Nat→Prop) (how:Nat) (hh:how≠1) (a b e f g:Nd) (w:World) (hp:PtOk T how w a b e f g) (hW:Want w) :
  Calls Tryz.prog 75 #[.agg (c35 a b e f g).toArray] w fun E w'=>E=.returned (.bool (Id.firm ⟨a.a,b.a,e.a,f.a,g.a⟩))∧Below w w w':=by
 obtain⟨W0,hW0⟩:∃W0,W0=w.alloc (Obj.cells (c35 a b e f g).toArray 123):=⟨_,rfl⟩;obtain⟨l0,hb0⟩:=L5 (cs:=(c35 a b e f g)) hW0;obtain⟨db,hbp⟩:=(hp.bg hh).1.ps;have hN:Pr.tabless b.a.cs &&& f.n<18446744073709551616:=Nat.and_lt_two_pow (n:=64) _ hp.hf.lt;have c1:=N7 (W0:=W0) fun W hb=>Y5 b f W (((hp.bg hh).1.below (J5 hb0 hb)).ps) hp.hf.lt hp.sb;have c2:=N7 (W0:=W0) fun W hb=>A72 db (Pr.tabless b.a.cs &&& f.n) hN b.p b.a.cs W (hbp.below (J5 hb0 hb) (C3 _)) hp.sb (hW.below (J5 hb0 hb) (C3 _))
 have hF:Id.firm ⟨a.a,b.a,e.a,f.a,g.a⟩=(!(a.a.k == 2&&b.a.k == 2)||Rj.rejects (Pr.tabless b.a.cs &&& f.n) b.a.cs):=by unfold Id.firm Id.named;rw[hp.hf.n]
 have he:=A7A a.a.k b.a.k 2 2;rw[hF];generalize Pr.tabless b.a.cs &&& f.n=N at c1 c2 ⊢;obtain⟨R,hR⟩:∃R,R=Rj.rejects N b.a.cs:=⟨_,rfl⟩;rw[←hR]at c2 ⊢;obtain⟨B,hB⟩:∃B,B=(a.a.k == 2&&b.a.k == 2):=⟨_,rfl⟩;rw[←hB]at he ⊢;change ∀d os,Calls _ _ #[.slice b.pA b.pN b.pC,_] _ _ at c2;have x0:=l0.c 0 rfl;have x7:=l0.c 7 rfl;have x8:=l0.c 8 rfl;have x9:=l0.c 9 rfl;have x10:=l0.c 10 rfl;have x11:=l0.c 11 rfl;have x12:=l0.c 12 rfl;have x13:=l0.c 13 rfl;have x21:=l0.c 21 rfl;have x22:=l0.c 22 rfl;have x23:=l0.c 23 rfl;have x24:=l0.c 24 rfl;have x25:=l0.c 25 rfl;have x26:=l0.c 26 rfl;have x27:=l0.c 27 rfl;have d7:=cell_regrown x7;have d8:=cell_regrown x8;have d9:=cell_regrown x9;have d10:=cell_regrown x10;have d11:=cell_regrown x11;have d12:=cell_regrown x12;have d13:=cell_regrown x13;have d21:=cell_regrown x21;have d22:=cell_regrown x22;have d23:=cell_regrown x23;have d24:=cell_regrown x24;have d25:=cell_regrown x25;have d26:=cell_regrown x26;have d27:=cell_regrown x27;have HW:=J1 hW0;have HB:=J1 hb0;clear hW0 l0 hb0 hbp hN hF hR hB hp hW;go_enter Tryz.func75,Tryz.ntmps75
 go_upto_region 1 with(fail)
 rw[←HW.out]
 go_upto_region 2 with(fail)
 cases B
 all_goals
  refine wp_region_quiet_below (by kernel_rfl) (by kernel_rfl) ?_
  repeat(go_big_quiet_step (with_reducible first | exact c1 _ _ | exact c2 _ _))
  refine wpQuiet_nil ?_;intro _ hw';obtain⟨⟨dq,osq⟩,hw''⟩:=hw';subst hw'';have hb1:Below W0 W0 (grow (redrawn W0 dq) osq):=below_regrown _ _ _;have HB1:=J1 (J5 HB.out hb1);clear c1 c2 d7 d8 d9 d10 d11 d12 d13 d21 d22 d23 d24 d25 d26 d27 hb1;generalize grow (redrawn W0 dq) osq=w1 at HB1 ⊢;go_wp2_with fail;go_ret
  exact⟨by simp,HB1.out⟩
end Go.Proofs.YtbddhkgbpjhhaaaGreatDoor
