/-
  WHAT A ROW's LIST GIVES TO package ident: its table of changes.
-/
import Derived.Test.YtbddhkgbpjhhaaaGreatDoorIdqM
import Derived.Test.YtbddhkgbpjhhaaaGreatDoorGCame
set_option maxHeartbeats 6400000
namespace Go.Proofs.YtbddhkgbpjhhaaaGreatDoor
open Go.RowKit
theorem gChanging:Tryz.prog.globalNamed "watersmeet/ident.changing"=some 0:=by kernel_rfl
theorem gChangingType:(Tryz.prog.globals[0]?).map (·.type)=some 93:=by kernel_rfl
theorem A9v:Tryz.prog.cellsOf 92=3:=by kernel_rfl
theorem A8L:Tryz.prog.cellsOf 3=1:=by kernel_rfl
def Id.trip (q p:Nat):Int:=match p with | 0=>(Id.row q).1 | 1=>(Id.row q).2.1 | _=>(Id.row q).2.2
def changingData:List (DataW Unit):=(List.range 28).map fun q=>.agg ((List.range 3).map fun p=>.lit (.int .i64 (Id.trip q p)))
theorem Id.cells_trip (q p:Nat) (hq:q<28) (hp:p<3):Id.cells[q*3+p]?=some (.int .i64 (Id.trip q p)):=by
 have h:∀q:Fin 28,∀p:Fin 3,Id.cells[q.1*3+p.1]?=some (.int .i64 (Id.trip q.1 p.1)):=by
  intro q p;obtain⟨q,hq⟩:=q;obtain⟨p,hp⟩:=p
  obtain rfl | rfl | rfl:p=0∨p=1∨p=2:=by omega
  all_goals
   obtain rfl | rfl | rfl | rfl | rfl | rfl | rfl | rfl | rfl | rfl | rfl | rfl | rfl | rfl | rfl | rfl | rfl | rfl | rfl | rfl | rfl | rfl | rfl | rfl | rfl | rfl | rfl | rfl:=(show q=0∨q=1∨q=2∨q=3∨q=4∨q=5∨q=6∨q=7∨q=8∨q=9∨q=10∨q=11∨q=12∨q=13∨q=14∨q=15∨q=16∨q=17∨q=18∨q=19∨q=20∨q=21∨q=22∨q=23∨q=24∨q=25∨q=26∨q=27 by omega)
   all_goals rfl
 exact h ⟨q,hq⟩ ⟨p,hp⟩
theorem A9u {W:World} {l:List (String × DataW Unit)} (h:laidMet Tryz.prog l W) (m3:("watersmeet/ident.changing",.agg changingData)∈l):Chgs W:=by
 obtain⟨g,t,cs,fuel,p0,h1,h2,h3,h4⟩:=A2M h m3;obtain rfl:=F0 (gChanging.symm.trans h1);obtain rfl:=F0 (gChangingType.symm.trans h2);intro j v hj
 have hjl:j<84:=by
  have:=(D8.1 hj).1;have e:Id.cells.length=84:=rfl;omega
 obtain⟨q,p,hq,hp,rfl⟩:∃q p,q<28∧p<3∧j=q*3+p:=⟨j / 3,j % 3,by omega,by omega,by omega⟩
 rw[Id.cells_trip q p hq hp]at hj;cases hj;obtain⟨f1,x1,h5,h6⟩:=A40 Tryz.underlying93 A9v h4 q hq
 have e1:x1.1=.agg ((List.range 3).map fun p=>.lit (.int .i64 (Id.trip q p))):=by
  have:changingData[q]?=some (.agg ((List.range 3).map fun p=>.lit (.int .i64 (Id.trip q p)))):=by simp[changingData,hq]
  exact F0 (h6.symm.trans this)
 obtain⟨d1,p1⟩:=x1;simp only at e1;subst e1;obtain⟨f2,x2,h7,h8⟩:=A40 Tryz.underlying92 A8L h5 p hp;obtain⟨b,hb,rfl,_⟩:=DataW.trod_int Tryz.underlying3 h7
 have e2:b=Id.trip q p:=by
  have h9:(List.map (fun p=>(DataW.lit (Lit.int .i64 (Id.trip q p)):DataW Unit)) (List.range 3))[p]?=some (.lit (.int .i64 (Id.trip q p))):=by simp[hp]
  have:=F0 (h8.symm.trans h9)
  simpa using this
 rw[G6,World.var?_cell h1 h3];have h10:=congrArg (·[0]?) hb;simp only[Nat.mul_one,List.getElem?_take,List.getElem?_drop]at h10;simp only[Nat.lt_one_iff,if_true,Nat.add_zero,List.getElem?_cons_zero]at h10
 rw[if_pos (by omega)]at h10
 rw[←e2]
 simpa using h10
end Go.Proofs.YtbddhkgbpjhhaaaGreatDoor
