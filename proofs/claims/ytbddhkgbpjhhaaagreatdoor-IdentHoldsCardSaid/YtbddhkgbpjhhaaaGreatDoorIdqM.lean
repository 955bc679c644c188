/-
  PACKAGE ident: May, and the table that it looks at.
-/
import Derived.Test.YtbddhkgbpjhhaaaGreatDoorGPl2
import Derived.Test.YtbddhkgbpjhhaaaGreatDoorGBase
import Derived.ChangeKeysEq
import Derived.Deep.MidRow
set_option maxHeartbeats 3200000
namespace Go.Proofs.YtbddhkgbpjhhaaaGreatDoor
open Go.RowKit Go.Sort
namespace Id
def tab:List (Int × Int × Int):=[(1,1,1),(2,1,1),(2,1,2),(2,1,3),(2,1,4),(2,2,2),(3,1,1),(3,1,2),(3,1,3),(3,1,4),(3,2,2),(4,1,1),(4,1,2),(4,1,3),(4,1,4),(4,2,1),(4,2,2),(4,2,3),(4,2,4),(4,3,1),(4,3,2),(4,3,3),(4,3,4),(4,4,1),(4,4,2),(4,4,3),(4,4,4),(5,1,1)]
def inTab (how a b:Int):Bool:=tab.any fun r=>r.1 == how&&(r.2.1 == a&&r.2.2 == b)
theorem may_tab (how a b:Int):may how a b=inTab how a (if how=1 then 1 else b):=by
 rw[Bool.eq_iff_iff];unfold inTab;rw[F4]
 constructor
 ·intro h;unfold may at h;simp only[Bool.or_eq_true,E7,beq_iff_eq,decide_eq_true_eq]at h
  have key:∀n:Int,1≤n∧n≤4→n=1∨n=2∨n=3∨n=4:=fun n h=>by omega
  rcases h with((h | ⟨h1,h⟩) | ⟨h1,h⟩) | h
  ·obtain⟨rfl,rfl⟩:=h
   exact⟨(1,1,1),by simp[tab],by simp⟩
  ·rcases h with⟨rfl,h⟩ | ⟨rfl,rfl⟩
   ·rcases h1 with rfl | rfl <;> rcases key _ h with rfl | rfl | rfl | rfl
    ·exact⟨(2,1,1),by simp[tab],by simp⟩
    ·exact⟨(2,1,2),by simp[tab],by simp⟩
    ·exact⟨(2,1,3),by simp[tab],by simp⟩
    ·exact⟨(2,1,4),by simp[tab],by simp⟩
    ·exact⟨(3,1,1),by simp[tab],by simp⟩
    ·exact⟨(3,1,2),by simp[tab],by simp⟩
    ·exact⟨(3,1,3),by simp[tab],by simp⟩
    ·exact⟨(3,1,4),by simp[tab],by simp⟩
   ·rcases h1 with rfl | rfl
    ·exact⟨(2,2,2),by simp[tab],by simp⟩
    ·exact⟨(3,2,2),by simp[tab],by simp⟩
  ·subst h1;obtain⟨ha,hb⟩:=h
   rcases key _ ha with rfl | rfl | rfl | rfl <;> rcases key _ hb with rfl | rfl | rfl | rfl
   ·exact⟨(4,1,1),by simp[tab],by simp⟩
   ·exact⟨(4,1,2),by simp[tab],by simp⟩
   ·exact⟨(4,1,3),by simp[tab],by simp⟩
   ·exact⟨(4,1,4),by simp[tab],by simp⟩
   ·exact⟨(4,2,1),by simp[tab],by simp⟩
   ·exact⟨(4,2,2),by simp[tab],by simp⟩
   ·exact⟨(4,2,3),by simp[tab],by simp⟩
   ·exact⟨(4,2,4),by simp[tab],by simp⟩
   ·exact⟨(4,3,1),by simp[tab],by simp⟩
   ·exact⟨(4,3,2),by simp[tab],by simp⟩
   ·exact⟨(4,3,3),by simp[tab],by simp⟩
   ·exact⟨(4,3,4),by simp[tab],by simp⟩
   ·exact⟨(4,4,1),by simp[tab],by simp⟩
   ·exact⟨(4,4,2),by simp[tab],by simp⟩
   ·exact⟨(4,4,3),by simp[tab],by simp⟩
   ·exact⟨(4,4,4),by simp[tab],by simp⟩
  ·obtain⟨rfl,rfl,rfl⟩:=h
   exact⟨(5,1,1),by simp[tab],by simp⟩
 ·rintro⟨⟨x,y,z⟩,hm,h⟩;simp only[E7,beq_iff_eq]at h;obtain⟨rfl,rfl,hz⟩:=h
  have key:∀r∈tab,may r.1 r.2.1 r.2.2=true:=by decide
  by_cases h1:x=1
  ·subst h1
   have h3:∀r∈tab,r.1=1→r.2.1=1:=by decide
   have:=h3 _ hm rfl;change y=1 at this;subst this
   simp[may]
  ·rw[if_neg h1]at hz;subst hz;exact key _ hm
def cells:List Value:=tab.flatMap fun r=>[r.1,r.2.1,r.2.2]
def row (j:Nat):Int × Int × Int:=(tab[j]?).getD (0,0,0)
def noTab (how a b:Int) (j:Nat):Prop:=∀i,i<j→((row i).1 == how&&((row i).2.1 == a&&(row i).2.2 == b))=false
theorem noTab_end {how a b:Int} (h:noTab how a b 28):inTab how a b=false:=by
 unfold inTab;rw[List.any_eq_false];intro r hr;obtain⟨i,hi,rfl⟩:=F9.1 hr;have:=h i hi;unfold row at this;rw[A8 hi]at this
 simpa using this
theorem inTab_at {how a b:Int} {j:Nat} (hj:j<28) (h:((row j).1 == how&&((row j).2.1 == a&&(row j).2.2 == b))=true):inTab how a b=true:=by
 unfold inTab;rw[F4];refine⟨row j,?_,h⟩;unfold row
 rw[A8 (show j<tab.length from hj)]
 exact List.getElem_mem _
end Id
def Chgs (w:World):Prop:=w.rangeAt 0 0 Id.cells
theorem Chgs.below {w w':World} {B:Nat} (h:Chgs w) (hb:Below B w w') (hB:w.heap.size≤B):Chgs w':=fun j v hj=>by
 have h1:=h j v hj;exact(hb.cell (p:=⟨0,0+j,none⟩) (C9 (block_lt_of_cell h1) hB)).trans h1
theorem A5V (j:Nat) (hj:j<28) (w:World):(Instr.index 93 (.agg Id.cells.toArray) (.int .i64 (j:Int))).run Tryz.prog w=.ok (.agg #[.int .i64 (Id.row j).1,.int .i64 (Id.row j).2.1,.int .i64 (Id.row j).2.2]) w:=by
 obtain rfl | rfl | rfl | rfl | rfl | rfl | rfl | rfl | rfl | rfl | rfl | rfl | rfl | rfl | rfl | rfl | rfl | rfl | rfl | rfl | rfl | rfl | rfl | rfl | rfl | rfl | rfl | rfl:=(show j=0∨j=1∨j=2∨j=3∨j=4∨j=5∨j=6∨j=7∨j=8∨j=9∨j=10∨j=11∨j=12∨j=13∨j=14∨j=15∨j=16∨j=17∨j=18∨j=19∨j=20∨j=21∨j=22∨j=23∨j=24∨j=25∨j=26∨j=27 by omega)
 all_goals kernel_rfl
theorem A8N (x y z h a b:Int) (w:World):(binOp .eql 92 (.agg #[x,y,z]) (.agg #[h,a,b])).run Tryz.prog w=.ok (.bool (x == h&&(y == a&&z == b))) w:=by
 obtain⟨i0,hi,_⟩:=info_parts Tryz.infoInt;have h2:=run_equalIn_array (P:=Tryz.prog) w 9999 #[x,y,z] #[h,a,b] Tryz.underlying92 hi
 rw[show Tryz.prog.cellsOf 3=1 by kernel_rfl,show List.range 3=[0,1,2] from rfl]at h2
 go_simp;clear h2;simp only[Op.eqItems];go_simp
 by_cases e1:x=h
 ·by_cases e2:y=a
  ·by_cases e3:z=b
   ·simp[e1,e2,e3]
   ·simp[e1,e2,e3]
  ·simp[e1,e2]
 ·simp[e1]
end Go.Proofs.YtbddhkgbpjhhaaaGreatDoor
