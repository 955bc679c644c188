/-
  WHAT A STATEMENT BUILDS: predicates, rows, tuples, lists of tuples in blocks just made; a list cut.
-/
import Derived.Test.YtghonbnmakggnaaDoorMtfM
import Derived.Test.YtghonbnmakggnaaDoorGPred
namespace Go.Proofs.YtghonbnmakggnaaDoor
open Go.RowKit Go.Sort
set_option maxHeartbeats 3200000

theorem flat_row {w : World} {g : Nat} {r : List Vl} (h : Lies w g 33 (rowCells r)) : RowAt w (.slice (some ⟨g, 0, none⟩) r.length r.length) r :=
  ⟨_, _, rfl, Nat.le_refl _, fun j x hj => ⟨g, 0, none, rfl, h.lt, by rw [add_here13]; exact h.cell (rowCells_at r hj).1, by rw [add_here13]; exact h.cell (rowCells_at r hj).2⟩⟩
theorem pred_built13 (W : World) (f : Pf) (ps : List Pd) (d : Nat) (u : Value) (hu : PsAt d W u ps) :
    PsAt (d + 1) (W.alloc (Obj.cells (f.cells u).toArray 46)) (.slice (some ⟨W.heap.size, 0, none⟩) 1 1) [.mk f ps] := by
  obtain ⟨W1, hW1⟩ : ∃ W1, W1 = W.alloc (Obj.cells (f.cells u).toArray 46) := ⟨_, rfl⟩
  obtain ⟨l, hb⟩ := box_one (cs := f.cells u) hW1
  rw [← hW1]
  refine ⟨some ⟨W.heap.size, 0, none⟩, 1, rfl, by simp, fun j p hj => ?_⟩
  match j, hj with
  | 0, hj =>
    cases hj
    exact ⟨_, _, _, u, rfl, l.lt, l.pd, hu.below hb (Nat.le_refl _)⟩
/-- a row, a tuple, a list of tuples just built -/
theorem row_built13 (W : World) (r : List Vl) : RowOn Al (W.alloc (Obj.cells (rowCells r).toArray 33)) (.slice (some ⟨W.heap.size, 0, none⟩) r.length r.length) r :=
  (flat_row (Lies.new W 33 (rowCells r))).on.mono fun _ _ _ => trivial
theorem rws_built13 (W : World) (e : TypeId) (us : List Value) (rs : List (List Vl)) (hl : us.length = rs.length) (h : ∀ (i : Nat) (r : List Vl), rs[i]? = some r → ∃ u, us[i]? = some u ∧ RowOn Al W u r) :
    RwsOn Al (W.alloc (Obj.cells us.toArray e)) (.slice (some ⟨W.heap.size, 0, none⟩) us.length us.length) rs :=
  ⟨us, (Sl.new W e us).on.mono fun _ _ _ => trivial, hl, fun i r hi => by
    obtain ⟨u, h1, h2⟩ := h i r hi
    exact ⟨u, h1, h2.below (below_new W _) (Nat.le_refl _)⟩⟩
theorem tus_built13 (W : World) (e : TypeId) (us : List Value) (ts : List (List (List Vl))) (hl : us.length = ts.length) (h : ∀ (i : Nat) (r : List (List Vl)), ts[i]? = some r → ∃ u, us[i]? = some u ∧ RwsOn Al W u r) :
    TusOn Al (W.alloc (Obj.cells us.toArray e)) (.slice (some ⟨W.heap.size, 0, none⟩) us.length us.length) ts :=
  ⟨us, (Sl.new W e us).on.mono fun _ _ _ => trivial, hl, fun i r hi => by
    obtain ⟨u, h1, h2⟩ := h i r hi
    exact ⟨u, h1, h2.below (below_new W _) (Nat.le_refl _)⟩⟩
theorem two_of {α β : Type} {P : α → β → Prop} {u v : α} {x y : β} (h1 : P u x) (h2 : P v y) : ∀ (i : Nat) (r : β), [x, y][i]? = some r → ∃ w, [u, v][i]? = some w ∧ P w r := by
  intro i r hi
  match i, hi with
  | 0, hi => cases hi; exact ⟨u, rfl, h1⟩
  | 1, hi => cases hi; exact ⟨v, rfl, h2⟩
theorem one_of {α β : Type} {P : α → β → Prop} {u : α} {x : β} (h1 : P u x) : ∀ (i : Nat) (r : β), [x][i]? = some r → ∃ w, [u][i]? = some w ∧ P w r := by
  intro i r hi
  match i, hi with
  | 0, hi => cases hi; exact ⟨u, rfl, h1⟩
theorem tus_cut {T : Nat → Prop} {w : World} {A : Option Addr} {n c : Nat} {ts : List (List (List Vl))} (h : TusOn T w (.slice A n c) ts) (k : Nat) (hk : k ≤ n) : TusOn T w (.slice A k c) (ts.take k) := by
  obtain ⟨us, ⟨A', c', hv, hc, hx⟩, hl, ht⟩ := h
  injection hv with e1 e2 e3
  subst e1 e3
  refine ⟨us.take k, ⟨A, c, by rw [List.length_take]; congr 1; omega, by rw [List.length_take]; omega, fun j u hj => ?_⟩, by rw [List.length_take, List.length_take, hl], fun i t hi => ?_⟩
  · have := (List.getElem?_eq_some_iff.1 hj).1
    rw [List.length_take] at this
    rw [List.getElem?_take_of_lt (by omega)] at hj
    exact hx j u hj
  · have := (List.getElem?_eq_some_iff.1 hi).1
    rw [List.length_take] at this
    rw [List.getElem?_take_of_lt (by omega)] at hi
    obtain ⟨u, h1, h2⟩ := ht i t hi
    exact ⟨u, by rw [List.getElem?_take_of_lt (by omega)]; exact h1, h2⟩
/-- append of a slice of no element: the list as it was -/
theorem wpList_append_zero {P : Program} (w : World) {ops : Array Oper} {rest : List Oper} {o : Oper} {a : Act} {Q : Exit → Act → World → Prop} (hgd : o.guard = none) (s x : Operand) (t : TypeId)
    (ho : o.op = .call { callee := .builtin .append, args := #[s, x], argTypes := #[t, t] }) (e : TypeId) (i : TypeInfo) (ht : P.underlying t = some (.slice e)) (hi : P.info? e = some i)
    (A B : Option Addr) (n cap c : Nat) (hs : a.eval s = .slice A n cap) (hx : a.eval x = .slice B 0 c) (hn : n ≤ cap) (h : wpList P ops Q rest (a.put o.dst (.slice A n cap)) w) : wpList P ops Q (o :: rest) a w := by
  refine wpList_plain hgd fun K hK => ?_
  have hf : (Builtin.firstCells i.size 0 (.slice B 0 c)).run P w = .ok #[] w := by
    cases B with
    | none => exact run_firstCells_none w i.size 0 0 c
    | some ad => exact run_firstCells_some (P := P) w i.size 0 ad 0 c [] (by simp) (by simp)
  have hrun : (Builtin.append_ #[t, t] o.type #[.slice A n cap, .slice B 0 c]).run P w = .ok (.slice A n cap) w := by
    cases A <;> simp [Builtin.append_, run_underlying ht, sizeOf, typeInfo, hi, Builtin.lenOf, hn, hf, storeCells]
  unfold Oper.wp
  simp [execOp, ho, resolve, invoke, builtin, hs, hx, hrun, Result.andThen]
  exact hK _ _ h
/-- a list of one: its address, its tuple -/
theorem tus_at_one {w : World} {A : Option Addr} {c : Nat} {t : List (List Vl)} (h : TusOn Al w (.slice A 1 c) [t]) :
    ∃ b o p B d, A = some ⟨b, o, p⟩ ∧ ∀ W, Below w.heap.size w W → W.cell? ⟨b, o, p⟩ = some (.slice B t.length d) ∧ RwsOn Al W (.slice B t.length d) t := by
  obtain ⟨b, o, p, B, d, hA, _, h1⟩ := h.pick (i := 0) (t := t) rfl
  exact ⟨b, o, p, B, d, hA, fun W hb => ⟨(h1 W hb).1, (h1 W hb).2⟩⟩
theorem cell_first {w : World} {a : Addr} {u : Value} (h : w.cell? a = some u) : ∀ (j : Nat) (x : Value), [u][j]? = some x → w.cell? (a.add j) = some x := by
  intro j x hj
  match j, hj with
  | 0, hj => cases hj; exact h
theorem own_one13 {w : World} {base : Nat} {e : TypeId} {v u : Value} (h : w.ownsRow base e 1 v 1 [u]) : ∃ g a, v = .slice (some ⟨g, 0, none⟩) 1 a ∧ 1 ≤ a ∧ w.cell? ⟨g, 0, none⟩ = some u := by
  rcases id h.2 with ⟨_, h0⟩ | ⟨g, cap, cur, rfl, _, _, hn, _⟩
  · omega
  · exact ⟨g, cap, rfl, hn, by rw [h.cellAt 0 (by omega)]; rfl⟩
end Go.Proofs.YtghonbnmakggnaaDoor
