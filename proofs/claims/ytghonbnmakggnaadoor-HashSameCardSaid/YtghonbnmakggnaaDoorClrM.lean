/-
  A ROW CLONED (the library's slices.Clone of a row): in memory of its own.
-/
import Derived.Test.YtghonbnmakggnaaDoorMtaM
import Derived.Test.YtghonbnmakggnaaDoorGBase
import Derived.Laws.AppendOwnNone
import Derived.Lib.BufferMore
namespace Go.Proofs.YtghonbnmakggnaaDoor
open Go.RowKit Go.Sort
set_option maxHeartbeats 1600000

/-- a row's cells -/
def rowCells (r : List Vl) : List Value := r.flatMap fun x => [.bool x.1, .int .i64 x.2]
theorem rowCells_length (r : List Vl) : (rowCells r).length = r.length * 2 := by
  unfold rowCells
  induction r with
  | nil => rfl
  | cons x r ih => rw [List.flatMap_cons, List.length_append, ih, List.length_cons]; simp; omega
theorem rowCells_one (r : List Vl) : ∀ u ∈ rowCells r, u.oneCell' = true := by
  intro u hu
  simp only [rowCells, List.mem_flatMap] at hu
  obtain ⟨x, _, hx⟩ := hu
  simp at hx
  rcases hx with rfl | rfl <;> rfl
theorem rowCells_at (r : List Vl) {j : Nat} {x : Vl} (h : r[j]? = some x) : (rowCells r)[j * 2]? = some (.bool x.1) ∧ (rowCells r)[j * 2 + 1]? = some (.int .i64 x.2) := by
  induction r generalizing j with
  | nil => simp at h
  | cons y r ih =>
    unfold rowCells
    rw [List.flatMap_cons]
    cases j with
    | zero => simp at h; subst h; exact ⟨rfl, rfl⟩
    | succ j =>
      have := ih (by simpa using h)
      rw [show (j + 1) * 2 = j * 2 + 2 by omega]
      exact this
theorem rowCells_back (r : List Vl) {k : Nat} {u : Value} (h : (rowCells r)[k]? = some u) : ∃ j x, r[j]? = some x ∧ ((k = j * 2 ∧ u = .bool x.1) ∨ (k = j * 2 + 1 ∧ u = .int .i64 x.2)) := by
  have hk := (List.getElem?_eq_some_iff.1 h).1
  rw [rowCells_length] at hk
  have hj : k / 2 < r.length := by omega
  obtain ⟨h1, h2⟩ := rowCells_at r (List.getElem?_eq_getElem hj)
  refine ⟨k / 2, _, List.getElem?_eq_getElem hj, ?_⟩
  rcases Nat.mod_two_eq_zero_or_one k with e | e
  · have : k = k / 2 * 2 := by omega
    rw [← this, h] at h1
    exact .inl ⟨this, Option.some.inj h1⟩
  · have : k = k / 2 * 2 + 1 := by omega
    rw [← this, h] at h2
    exact .inr ⟨this, Option.some.inj h2⟩
theorem Tryd.infoVal9 : (Tryd.prog.info? 33).map (fun i => (i.zero, i.size, i.bytes)) = some (some (.agg #[.bool false, .int .i64 0]), 2, 16) := by kernel_rfl
/-- a row of the call's own reads as the row -/
theorem rowUp_own {w : World} {base : Nat} {v : Value} {r : List Vl} (h : w.ownsRow base 33 2 v r.length (rowCells r)) : RowOn (fun k => base ≤ k) w v r := by
  rcases h.2 with ⟨hv, hn⟩ | ⟨g, cap, cur, rfl, hb, hg, hnc, _⟩
  · have : r = [] := List.eq_nil_of_length_eq_zero hn
    subst this
    exact ⟨none, 0, hv, Nat.le_refl _, fun j x hj => by simp at hj⟩
  · refine ⟨_, cap, rfl, hnc, fun j x hj => ⟨g, 0, none, rfl, hb, (Array.getElem?_eq_some_iff.1 hg).1, ?_, ?_⟩⟩
    · exact h.cells (g := g) rfl _ _ (rowCells_at r hj).1
    · exact h.cells (g := g) rfl _ _ (rowCells_at r hj).2
/-- a row that came, at an address: its cells -/
theorem RowAt.cells {w : World} {b : Addr} {c : Nat} {r : List Vl} (h : RowAt w (.slice (some b) r.length c) r) : ∀ (j : Nat) (u : Value), (rowCells r)[j]? = some u → w.cell? (b.add j) = some u := by
  obtain ⟨A, c', hv, _, hx⟩ := h
  injection hv with f1 f2 f3
  intro k u hk
  obtain ⟨j, x, hj, h2⟩ := rowCells_back r hk
  obtain ⟨b', o, p, hA, _, h4, h5⟩ := hx j x hj
  rw [← f1] at hA
  cases hA
  rcases h2 with ⟨rfl, rfl⟩ | ⟨rfl, rfl⟩
  · exact h4
  · exact h5
/-- what Clone tells -/
def Cloned (w : World) (r : List Vl) (E : Ending) (w' : World) : Prop := ∃ A c, E = .returned (.slice A r.length c) ∧ RowOn (fun k => w.heap.size ≤ k) w' (.slice A r.length c) r ∧ Below w.heap.size w w'
set_option maxRecDepth 100000 in
theorem clone_any (v : Value) (r : List Vl) (w : World) (hv : RowAt w v r) (hr : r.length ≤ 1000000) :
    Calls Tryd.prog 65 #[v] w (Cloned w r) := by
  obtain ⟨A, c, rfl, _, _⟩ := id hv
  obtain ⟨i0, hi, hz0, hz1, hz2⟩ := info_parts Tryd.infoVal9
  have hnil := fun (W : World) => Lib.run_eql_slice_nil_nil (P := Tryd.prog) W r.length c Tryd.underlying48
  have hsome := fun (W : World) (b : Addr) => Lib.run_eql_slice_some_nil (P := Tryd.prog) W b r.length c Tryd.underlying48
  cases A with
  | none =>
    have h0 : r = [] := by
      cases r with
      | nil => rfl
      | cons x r =>
        obtain ⟨A', c', hv', _, hx⟩ := hv
        injection hv' with f1 f2 f3
        obtain ⟨b, o, p, hA, _⟩ := hx 0 x rfl
        rw [← f1] at hA
        cases hA
    subst h0
    clear hsome hv hnil
    have hnil := fun (W : World) => Lib.run_eql_slice_nil_nil (P := Tryd.prog) W 0 c Tryd.underlying48
    go_enter Tryd.func65, Tryd.ntmps65
    go_wp2_with (fail)
    go_ret
    exact ⟨none, 0, rfl, ⟨none, 0, rfl, Nat.le_refl _, fun j x hj => by simp at hj⟩, Below.refl _ _⟩
  | some b =>
    obtain ⟨W0, hW0⟩ : ∃ W0, W0 = w.alloc (Obj.cells #[] 33) := ⟨_, rfl⟩
    have hb0 : Below w.heap.size w W0 := by rw [hW0]; exact below_new _ _
    have hcell := Lib.hid (hv.below hb0 (Nat.le_refl _)).cells
    have hown : Hid (W0.ownsRow w.heap.size 33 2 (.slice (some ⟨w.heap.size, 0, none⟩) 0 0) 0 []) := Lib.hid (by rw [hW0]; exact World.ownsRow_made w #[] 0 (Nat.le_refl _) (by decide) rfl)
    have hsm := fun W => hsome W b
    have HW := Lib.hid hW0
    clear hv hsome hnil hW0
    go_enter Tryd.func65, Tryd.ntmps65
    go_wp2_with (first
      | (at_builtin; rw [← HW.out]; refine wpList_append_own _ rfl _ _ 48 rfl w.heap.size 33 i0 (.agg #[.bool false, .int .i64 0]) 2 16 Tryd.underlying48 hi hz0 hz1 hz2 rfl (by decide) _ 0 [] rfl hown.out b r.length c (rowCells r) rfl (rowCells_length r) hcell.out (rowCells_one r) (by unfold maxLen; omega) (by omega) hb0.size ?_))
    intro v' w' hown' hgrow _
    have hb2 : Below w.heap.size w w' := hb0.grown hgrow hb0.size (fun q hq => (hown.out.lt q hq).1)
    have hup : RowOn (fun k => w.heap.size ≤ k) w' v' r := rowUp_own (by simpa using hown')
    obtain ⟨A', c', rfl, _, _⟩ := id hup
    have HUP := Lib.hid hup
    clear hown' hgrow hup hown hcell hsm
    go_wp2_with (fail)
    go_ret
    exact ⟨A', c', rfl, HUP.out, hb2⟩
end Go.Proofs.YtghonbnmakggnaaDoor
