/-
  WHAT A CALL HANDS BACK OUT OF A CELL OF MANY, without opening it.
-/
import Derived.Test.YtbddhkgbpjhhaaaGreatDoorGBase
import Derived.Test.YtbddhkgbpjhhaaaGreatDoorIdpM
import Derived.Deep.MidRow
import Derived.Deep.RegionHeld3
namespace Go.Proofs.YtbddhkgbpjhhaaaGreatDoor
open Go.RowKit Go.Sort
theorem setCells_os (g : Nat) (xs : List Value) : ∀ (W : World) (o : Nat), (setCells W g o xs).os = W.os := by
  induction xs with
  | nil => intro W o; rfl
  | cons x r ih => intro W o; rw [setCells, ih]; rfl
theorem setCells_tape (g : Nat) (xs : List Value) : ∀ (W : World) (o : Nat), (setCells W g o xs).tape = W.tape := by
  induction xs with
  | nil => intro W o; rfl
  | cons x r ih => intro W o; rw [setCells, ih]; rfl
theorem setCells_output (g : Nat) (xs : List Value) : ∀ (W : World) (o : Nat), (setCells W g o xs).output = W.output := by
  induction xs with
  | nil => intro W o; rfl
  | cons x r ih => intro W o; rw [setCells, ih]; rfl
theorem results_cell_tmp {P : Program} {fn : Func} {a b : Nat} {t : TypeId} (hr : fn.results = #[.cell a t, .tmp b]) {tmps : Array Value} {X : Addr} {v u : Value} {w : World} (ha : tmps.getD a undef = .pointer (some X)) (hb : tmps.getD b undef = u) (hl : (loadVar t X).run P w = .ok v w) :
    (results fn tmps).run P w = .ok (.tuple #[v, u]) w := by
  have ha' : tmps[a]?.getD undef = .pointer (some X) := by simpa using ha
  have hb' : tmps[b]?.getD undef = u := by simpa using hb
  simp [results, hr, asAddr, ha', hb', hl]
theorem results_cell {P : Program} {fn : Func} {a : Nat} {t : TypeId} (hr : fn.results = #[.cell a t]) {tmps : Array Value} {X : Addr} {v : Value} {w : World} (ha : tmps.getD a undef = .pointer (some X)) (hl : (loadVar t X).run P w = .ok v w) :
    (results fn tmps).run P w = .ok v w := by
  have ha' : tmps[a]?.getD undef = .pointer (some X) := by simpa using ha
  simp [results, hr, asAddr, ha', hl]
theorem setCells_kit (g : Nat) (xs : List Value) : ∀ (W : World) (o : Nat), W.setCells g o xs = setCells W g o xs := by
  induction xs with
  | nil => intro W o; rfl
  | cons x r ih => intro W o; exact ih _ _
theorem Keeps.cell_any {S : Nat → Prop} {W W' : World} {X : Addr} {v : Value} (h : Keeps S W W') (hs : S X.block) (hv : W.cell? X = some v) : W'.cell? X = some v := (World.cell?_of_block (h.same _ (block_lt_of_cell hv) hs)).trans hv
theorem Lies.there {W : World} {g : Nat} {T : TypeId} {cs : List Value} (h : Lies W g T cs) {n : Nat} (hn : n = cs.length) : W.there g 0 n := fun j hj => by
  rw [Nat.zero_add, h.cell (List.getElem?_eq_getElem (hn ▸ hj))]
  exact ⟨rfl, h.free j⟩
theorem take_any {P : Program} {md : Region.Mode} {ops : Array Oper} {Q : Exit → Act → World → Prop} {S : World → Prop} {i d : Nat} {op : Op} {ty : TypeId} {pos : String} {after : Array Edge} {g : Option (Nat × Bool)} {v : Value} {fuel : Nat} {listed : Array Bool} {a : Act} {w : World} (hi : ops[i]? = some ⟨some d, op, ty, pos, after, g⟩)
    (hs : Region.noSelect ops = true) (hf : Region.free md ops listed i = true) (hr : (Region.ready md ops listed).contains i = true)
    (hQ : ∀ c a w, Q (.panic c) (a.put (some d) v) w → Q (.panic c) a w) (hy : YieldsIf P ops S ⟨some d, op, ty, pos, after, g⟩ v a) (hS : S w)
    (h : wpAnyH P md ops Q S fuel (listed.setIfInBounds i true) (a.put (some d) v) w) : wpAnyH P md ops Q S (fuel + 1) listed a w := wpAnyH_take hi hs hf hr hQ hy hS h
theorem wpList_load_g {P : Program} {ops : Array Oper} {rest : List Oper} {op : Oper} {a : Act} {w : World} {Q : Exit → Act → World → Prop} (hw : Region.wanted op (yielded ops a.tmps) = true) (ty : TypeId) (x : Operand) (ho : op.op = .load ty x)
    (b o : Nat) (hx : a.eval x = .pointer (some ⟨b, o, none⟩)) (cs : List Value) (d : TypeDesc) (hc : w.rangeAt b o cs)
    (hu : P.underlying ty = some d) (hd : d.isRow = true) (hi : (P.info? ty).map (·.size) = some cs.length)
    (h : wpList P ops Q rest (a.put op.dst (.agg cs.toArray)) w) : wpList P ops Q (op :: rest) a w := by
  simp only [wpList, hw, if_true]
  exact .inl (wp_load_mid ty x ho b o hx cs d hc hu hd hi h)
theorem stored_many {P : Program} {W W6 w : World} {g : Nat} {ty : TypeId} {cs L : List Value} {d : TypeDesc} (h : Lies W g ty cs) (hl : L.length = cs.length) (hu : P.underlying ty = some d) (hd : d.isRow = true) (hi : (P.info? ty).map (·.size) = some cs.length) (hb : Below w.heap.size w W) (hg : w.heap.size ≤ g)
    (hW : W6 = setCells W g 0 L) : (loadVar ty ⟨g, 0, none⟩).run P W6 = .ok (.agg L.toArray) W6 ∧ Below w.heap.size w W6 ∧ Keeps (fun k => k ≠ g) W W6 ∧ Lies W6 g ty L ∧ Keeps (fun k => k ≠ g) W W6 := by
  have q : Lies W6 g ty L := by rw [hW]; exact h.put_all hl
  have hk : Keeps (fun k => k ≠ g) W W6 := ⟨by rw [hW]; exact setCells_os _ _ _ _, by rw [hW]; exact setCells_tape _ _ _ _, by rw [hW]; exact setCells_output _ _ _ _, by rw [hW, setCells_size]; exact Nat.le_refl _, fun k _ hne => by rw [hW]; exact setCells_other _ _ hne _ _ _⟩
  refine ⟨run_loadVar_mid (P := P) W6 g 0 ty L d (fun j v hj => by rw [Nat.zero_add]; exact q.cell hj) hu hd (by rw [hl]; exact hi), ?_, ?_, q, hk⟩
  · exact (by rw [hW]; exact Below.sets hg _ _ hb : Below w.heap.size w W6)
  · exact hk
end Go.Proofs.YtbddhkgbpjhhaaaGreatDoor
