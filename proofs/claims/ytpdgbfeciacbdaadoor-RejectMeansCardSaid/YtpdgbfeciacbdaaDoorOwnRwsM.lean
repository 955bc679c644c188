/-
  ROWS IN A ROW OF THE CALL's OWN: one made nil; one more.
-/
import Derived.Test.YtpdgbfeciacbdaaDoorGBase
import Derived.Test.YtpdgbfeciacbdaaDoorGLogs
import Derived.OwnWalk
namespace Go.Proofs.YtpdgbfeciacbdaaDoor
open Go.RowKit Go.Sort

theorem Tryd.infoRow : (Tryd.prog.info? 38).map (fun i => (i.zero, i.size, i.bytes)) = some (some (.slice none 0 0), 1, 24) := by kernel_rfl
theorem own_none (w : World) (e : TypeId) (g : Nat) (hg : w.heap.size = g) : (w.alloc (.cells #[] e)).ownsRow g e 1 (.slice (some ⟨g, 0, none⟩) 0 0) 0 [] := by
  subst hg; exact World.ownsRow_made w #[] 0 (Nat.le_refl _) (by decide) rfl
/-- rows in memory of the call's own: their slice values lie in a row of its own, the rows where they lay -/
structure OwnRws (w0 w : World) (v : Value) (n : Nat) (vs : List Value) (rs : List (List Vl)) : Prop where
  own : w.ownsRow w0.heap.size 38 1 v n vs
  len : vs.length = n
  lens : rs.length = n
  row : ∀ (i : Nat) (r : List Vl), rs[i]? = some r → ∃ u, vs[i]? = some u ∧ RowAt w0 u r
  kept : Below w0.heap.size w0 w
theorem OwnRws.rws {w0 w : World} {v : Value} {n : Nat} {vs : List Value} {rs : List (List Vl)} (h : OwnRws w0 w v n vs rs) : Rws w v rs :=
  ⟨vs, Sl.own h.own, by rw [h.len, h.lens], fun i r hr => by obtain ⟨u, hu, hr⟩ := h.row i r hr; exact ⟨u, hu, hr.below h.kept (Nat.le_refl _)⟩⟩
/-- one place made nil -/
theorem OwnRws.gone {w0 w : World} {g cap n : Nat} {vs : List Value} {rs : List (List Vl)} (h : OwnRws w0 w (.slice (some ⟨g, 0, none⟩) n cap) n vs rs) (j : Nat) :
    OwnRws w0 (w.setCell ⟨g, j, none⟩ (.slice none 0 0)) (.slice (some ⟨g, 0, none⟩) n cap) n (vs.set j (.slice none 0 0)) (rs.set j []) := by
  have hs := (h.own.stored j (.slice none 0 0)).1
  have hg := (h.own.lt g rfl).1
  refine ⟨hs, by simp [h.len], by simp [h.lens], fun i r hi => ?_, h.kept.setCell hg _⟩
  by_cases e : i = j
  · subst e
    have hl : i < rs.length := by
      by_cases hl : i < rs.length
      · exact hl
      · rw [List.getElem?_eq_none (by simp; omega)] at hi; cases hi
    rw [List.getElem?_set_self hl] at hi
    cases hi
    exact ⟨.slice none 0 0, by rw [List.getElem?_set_self (by rw [h.len, ← h.lens]; exact hl)], RowAt.nil _⟩
  · rw [List.getElem?_set_ne (by omega)] at hi
    obtain ⟨u, hu, hr⟩ := h.row i r hi
    exact ⟨u, by rw [List.getElem?_set_ne (by omega)]; exact hu, hr⟩
theorem OwnRws.grown {w0 w w' : World} {v : Value} {n : Nat} {vs : List Value} {rs : List (List Vl)} (h : OwnRws w0 w v n vs rs) (hb : Below w.heap.size w w') : OwnRws w0 w' v n vs rs :=
  ⟨own_below h.own hb, h.len, h.lens, h.row, below_join h.kept hb⟩
theorem OwnRws.form {w0 w : World} {v : Value} {n : Nat} {vs : List Value} {rs : List (List Vl)} (h : OwnRws w0 w v n vs rs) : ∃ A cap, v = .slice A n cap ∧ (0 < n → ∃ g, A = some ⟨g, 0, none⟩) := by
  rcases h.own.2 with ⟨rfl, hn⟩ | ⟨g, cap, cur, rfl, _⟩
  · exact ⟨none, 0, by rw [hn], fun h => by omega⟩
  · exact ⟨_, cap, rfl, fun _ => ⟨g, rfl⟩⟩
/-- the cell at a place -/
theorem OwnRws.at_ {w0 w : World} {g cap n : Nat} {vs : List Value} {rs : List (List Vl)} (h : OwnRws w0 w (.slice (some ⟨g, 0, none⟩) n cap) n vs rs) {j : Nat} (hj : j < n) :
    (∃ u, w.cell? ⟨g, j, none⟩ = some u) ∧ w.frozen? ⟨g, j, none⟩ = false := by
  refine ⟨⟨vs[j]'(by rw [h.len]; exact hj), ?_⟩, h.own.frozenAt j⟩
  rw [h.own.cellAt j (by omega), List.getElem?_eq_getElem]
/-- one row more -/
theorem OwnRws.push {w0 w : World} {v v' : Value} {n : Nat} {vs : List Value} {rs : List (List Vl)} {u : Value} {r : List Vl} {w1 : World} (h : OwnRws w0 w v n vs rs) (ho : w1.ownsRow w0.heap.size 38 1 v' (n + 1) (vs ++ [u])) (hu : RowAt w0 u r) (hb : Below w0.heap.size w0 w1) :
    OwnRws w0 w1 v' (n + 1) (vs ++ [u]) (rs ++ [r]) := by
  refine ⟨ho, by simp [h.len], by simp [h.lens], fun i x hi => ?_, hb⟩
  by_cases e : i < rs.length
  · rw [List.getElem?_append_left e] at hi
    obtain ⟨y, hy, hr⟩ := h.row i x hi
    exact ⟨y, by rw [List.getElem?_append_left (by rw [h.len, ← h.lens]; exact e)]; exact hy, hr⟩
  · have hi2 : i = rs.length := by
      by_cases e2 : i = rs.length
      · exact e2
      · rw [List.getElem?_eq_none (by simp; omega)] at hi; cases hi
    subst hi2
    rw [List.getElem?_append_right (Nat.le_refl _), Nat.sub_self] at hi
    cases hi
    refine ⟨u, ?_, hu⟩
    rw [List.getElem?_append_right (by rw [h.len, h.lens]; exact Nat.le_refl _), h.len, h.lens, Nat.sub_self]
    rfl
theorem RowAt.one {w : World} {u : Value} {r : List Vl} (h : RowAt w u r) : u.oneCell' = true := by
  obtain ⟨A, c, rfl, _⟩ := h
  rfl
end Go.Proofs.YtpdgbfeciacbdaaDoor
