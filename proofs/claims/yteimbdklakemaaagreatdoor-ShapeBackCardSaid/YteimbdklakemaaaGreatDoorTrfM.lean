/-
  THE DOCUMENT's ANSWERS OF LAYER 10: All, a row of trees of one's own; what hangs from the trees lies where it lay.
-/
import Derived.Test.YteimbdklakemaaaGreatDoorTraM
import Derived.Test.YteimbdklakemaaaGreatDoorGPred
namespace Go.Proofs.YteimbdklakemaaaGreatDoor
open Go.RowKit Go.Sort
set_option maxHeartbeats 1600000

/-- a tree with the two slices of its cells -/
abbrev TrV := Tr × Value × Value
/-- the cells of a row of trees -/
def trCells (l : List TrV) : List Value := l.flatMap fun x => x.1.cells x.2.1 x.2.2
theorem trCells_app (l m : List TrV) : trCells (l ++ m) = trCells l ++ trCells m := by simp [trCells]
/-- what hangs from a tree's cells, as it lies in w -/
def TrHang (w : World) (x : TrV) : Prop := (∃ d, TsAt d w x.2.1 x.1.ks) ∧ PsSome w x.2.2 x.1.cs
theorem trCells_one {w : World} {l : List TrV} (h : ∀ x ∈ l, TrHang w x) : ∀ u ∈ trCells l, u.oneCell' = true := by
  intro u hu
  simp only [trCells, List.mem_flatMap] at hu
  obtain ⟨x, hx, hu⟩ := hu
  obtain ⟨⟨d, h1⟩, D, h2⟩ := h x hx
  obtain ⟨A, c, h1, _⟩ := h1.form
  obtain ⟨B, c', h2, _⟩ := h2.form
  rw [h1, h2] at hu
  simp [Tr.cells] at hu
  rcases hu with rfl | rfl | rfl | rfl | rfl <;> rfl
theorem Tr.alls_take {l : List Tr} {q : Nat} {b : Tr} (h : l[q]? = some b) : Tr.alls (l.take (q + 1)) = Tr.alls (l.take q) ++ Tr.all b := by
  rw [List.take_add_one, h]; exact Tr.alls_snoc _ _
theorem Tr.alls_len (l : List Tr) : (Tr.alls l).length ≤ Tr.sizes l := by
  induction l with
  | nil => rw [Tr.alls, Tr.sizes]; simp
  | cons b r ih => rw [Tr.alls, Tr.sizes, List.length_append]; have := Tr.all_length_le b; omega
/-- what a call hands back: a slice of its own that holds the trees l, hanging as in w0 -/
def OwnTrs (w0 w : World) (l : List Tr) (e : Ending) (w' : World) : Prop :=
  ∃ v L, e = .returned v ∧ L.map (·.1) = l ∧ (∀ x ∈ L, TrHang w0 x) ∧ w'.ownsRow w.heap.size 25 5 v L.length (trCells L) ∧ Below w.heap.size w w'
theorem Tryz.infoTree : (Tryz.prog.info? 25).map (fun i => (i.zero, i.size, i.bytes)) = some (some (.agg #[.int .i64 0, .int .i64 0, .slice none 0 0, .slice none 0 0, .bool false]), 5, 72) := by kernel_rfl
end Go.Proofs.YteimbdklakemaaaGreatDoor
