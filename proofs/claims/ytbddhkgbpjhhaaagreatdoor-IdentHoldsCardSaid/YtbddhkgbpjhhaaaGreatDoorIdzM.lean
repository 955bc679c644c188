/-
  WHAT A CALL HANDS BACK OUT OF A CELL OF MANY, without opening it.
-/
import Derived.Test.YtbddhkgbpjhhaaaGreatDoorGBase
import Derived.Test.YtbddhkgbpjhhaaaGreatDoorIdpM
import Derived.Deep.MidRow
import Derived.Deep.RegionHeld3
namespace Go.Proofs.YtbddhkgbpjhhaaaGreatDoor
open Go.RowKit Go.Sort
theorem V6 (g:Nat) (xs:List Value):∀(W:World) (o:Nat),(setCells W g o xs).os=W.os:=by
 induction xs with
 | nil=>intro W o;rfl
 | cons x r ih=>intro W o;rw[setCells,ih];rfl
theorem S0 (g:Nat) (xs:List Value):∀(W:World) (o:Nat),(setCells W g o xs).tape=W.tape:=by
 induction xs with
 | nil=>intro W o;rfl
 | cons x r ih=>intro W o;rw[setCells,ih];rfl
theorem Q1 (g:Nat) (xs:List Value):∀(W:World) (o:Nat),(setCells W g o xs).output=W.output:=by
 induction xs with
 | nil=>intro W o;rfl
 | cons x r ih=>intro W o;rw[setCells,ih];rfl
theorem M0 {P:Program} {fn:Func} {a b:Nat} {t:TypeId} (hr:fn.results=#[.cell a t,.tmp b]) {tmps:Array Value} {X:Addr} {v u:Value} {w:World} (ha:tmps.getD a undef=.pointer (some X)) (hb:tmps.getD b undef=u) (hl:(loadVar t X).run P w=.ok v w) :
  (results fn tmps).run P w=.ok (.tuple #[v,u]) w:=by
 have ha':tmps[a]?.getD undef=.pointer (some X):=by simpa using ha
 have hb':tmps[b]?.getD undef=u:=by simpa using hb
 simp[results,hr,asAddr,ha',hb',hl]
theorem R9 {P:Program} {fn:Func} {a:Nat} {t:TypeId} (hr:fn.results=#[.cell a t]) {tmps:Array Value} {X:Addr} {v:Value} {w:World} (ha:tmps.getD a undef=.pointer (some X)) (hl:(loadVar t X).run P w=.ok v w) :
  (results fn tmps).run P w=.ok v w:=by
 have ha':tmps[a]?.getD undef=.pointer (some X):=by simpa using ha
 simp[results,hr,asAddr,ha',hl]
theorem L6 (g:Nat) (xs:List Value):∀(W:World) (o:Nat),W.setCells g o xs=setCells W g o xs:=by
 induction xs with
 | nil=>intro W o;rfl
 | cons x r ih=>intro W o;exact ih _ _
theorem Keeps.cell_any {S:Nat→Prop} {W W':World} {X:Addr} {v:Value} (h:Keeps S W W') (hs:S X.block) (hv:W.cell? X=some v):W'.cell? X=some v:=(World.cell?_of_block (h.same _ (block_lt_of_cell hv) hs)).trans hv
theorem Lies.there {W:World} {g:Nat} {T:TypeId} {cs:List Value} (h:Lies W g T cs) {n:Nat} (hn:n=cs.length):W.there g 0 n:=fun j hj=>by
 rw[G6,h.cell (A8 (hn ▸ hj))];exact⟨rfl,h.free j⟩
theorem J7 {P:Program} {md:Region.Mode} {ops:Array Oper} {Q:Exit→Act→World→Prop} {S:World→Prop} {i d:Nat} {op:Op} {ty:TypeId} {pos:String} {after:Array Edge} {g:Option (Nat × Bool)} {v:Value} {fuel:Nat} {listed:Array Bool} {a:Act} {w:World} (hi:ops[i]?=some ⟨some d,op,ty,pos,after,g⟩)
  (hs:Region.noSelect ops=true) (hf:Region.free md ops listed i=true) (hr:(Region.ready md ops listed).contains i=true)
  (hQ:∀c a w,Q (.panic c) (a.put (some d) v) w→Q (.panic c) a w) (hy:YieldsIf P ops S ⟨some d,op,ty,pos,after,g⟩ v a) (hS:S w)
  (h:wpAnyH P md ops Q S fuel (listed.setIfInBounds i true) (a.put (some d) v) w):wpAnyH P md ops Q S (fuel+1) listed a w:=wpAnyH_take hi hs hf hr hQ hy hS h
theorem tk9 {P:Program} {md:Region.Mode} {ops:Array Oper} {Q:Exit→Act→World→Prop} {S:World→Prop} {i d:Nat} {op:Op} {ty:TypeId} {pos:String} {after:Array Edge} {g:Option (Nat × Bool)} {v:Value} {fuel:Nat} {listed:Array Bool} {a:Act} {w:World} (hi:ops[i]?=some ⟨some d,op,ty,pos,after,g⟩)
  (hy:YieldsIf P ops S ⟨some d,op,ty,pos,after,g⟩ v a) (hS:S w) (h:wpAnyH P md ops Q S fuel (listed.setIfInBounds i true) (a.put (some d) v) w)
  (hs:Region.noSelect ops=true:=by kernel_rfl) (hf:Region.free md ops listed i=true:=by kernel_rfl) (hr:(Region.ready md ops listed).contains i=true:=by kernel_rfl)
  (hQ:∀c a w,Q (.panic c) (a.put (some d) v) w→Q (.panic c) a w:=by exact fun _ _ _ h=>h):wpAnyH P md ops Q S (fuel+1) listed a w:=J7 hi hs hf hr hQ hy hS h
theorem Y6 {P:Program} {ops:Array Oper} {rest:List Oper} {op:Oper} {a:Act} {w:World} {Q:Exit→Act→World→Prop} (hw:Region.wanted op (yielded ops a.tmps)=true) (ty:TypeId) (x:Operand) (ho:op.op=.load ty x)
  (b o:Nat) (hx:a.eval x=.pointer (some ⟨b,o,none⟩)) (cs:List Value) (d:TypeDesc) (hc:w.rangeAt b o cs)
  (hu:P.underlying ty=some d) (hd:d.isRow=true) (hi:(P.info? ty).map (·.size)=some cs.length)
  (h:wpList P ops Q rest (a.put op.dst (.agg cs.toArray)) w):wpList P ops Q (op::rest) a w:=by
 simp only[wpList,hw,if_true];exact .inl (wp_load_mid ty x ho b o hx cs d hc hu hd hi h)
theorem L9 {P:Program} {W W6 w:World} {g:Nat} {ty:TypeId} {cs L:List Value} {d:TypeDesc} (h:Lies W g ty cs) (hl:L.length=cs.length) (hu:P.underlying ty=some d) (hd:d.isRow=true) (hi:(P.info? ty).map (·.size)=some cs.length) (hb:Below w w W) (hg:w.heap.size≤g)
  (hW:W6=setCells W g 0 L):(loadVar ty ⟨g,0,none⟩).run P W6=.ok (.agg L.toArray) W6∧Below w w W6∧Keeps (fun k=>k≠g) W W6∧Lies W6 g ty L∧Keeps (fun k=>k≠g) W W6:=by
 have q:Lies W6 g ty L:=by rw[hW];exact h.put_all hl
 have hk:Keeps (fun k=>k≠g) W W6:=⟨by rw[hW];exact V6 _ _ _ _,by rw[hW];exact S0 _ _ _ _,by rw[hW];exact Q1 _ _ _ _,by rw[hW,N0];exact C3 _,fun k _ hne=>by rw[hW];exact M6 _ _ hne _ _ _⟩
 refine⟨run_loadVar_mid (P:=P) W6 g 0 ty L d (fun j v hj=>by rw[G6];exact q.cell hj) hu hd (by rw[hl];exact hi),?_,?_,q,hk⟩
 ·exact(by rw[hW];exact Below.sets hg _ _ hb:Below w w W6)
 ·exact hk
end Go.Proofs.YtbddhkgbpjhhaaaGreatDoor
