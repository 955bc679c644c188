/-
  A LIST OF TWO PREDICATES that the call has just built.
-/
import Derived.Test.YtpdgbfeciacbdaaDoorGPred
import Derived.Test.YtpdgbfeciacbdaaDoorGBase
namespace Go.Proofs.YtpdgbfeciacbdaaDoor
open Go.RowKit
theorem preds_built (W : World) (d : Nat) (f g : Pf) (u v : Value) (ps qs : List Pd) (G : Nat) (hG : W.heap.size = G) (hu : PsAt d W u ps) (hv : PsAt d W v qs) :
    PsAt (d + 1) (W.alloc (Obj.cells #[.int .i64 f.k, .int .i64 f.u, .int .i64 f.o, .int .i64 f.a.k, .int .i64 f.a.t, .int .i64 f.a.c, .bool f.a.z, .int .i64 f.a.n, .int .i64 f.b.k, .int .i64 f.b.t, .int .i64 f.b.c, .bool f.b.z, .int .i64 f.b.n, u, .int .i64 g.k, .int .i64 g.u, .int .i64 g.o, .int .i64 g.a.k, .int .i64 g.a.t, .int .i64 g.a.c, .bool g.a.z, .int .i64 g.a.n, .int .i64 g.b.k, .int .i64 g.b.t, .int .i64 g.b.c, .bool g.b.z, .int .i64 g.b.n, v] 33)) (.slice (some ⟨G, 0, none⟩) 2 2) [.mk f ps, .mk g qs] := by
  subst hG
  obtain ⟨W1, hW1⟩ : ∃ W1, W1 = W.alloc (Obj.cells #[.int .i64 f.k, .int .i64 f.u, .int .i64 f.o, .int .i64 f.a.k, .int .i64 f.a.t, .int .i64 f.a.c, .bool f.a.z, .int .i64 f.a.n, .int .i64 f.b.k, .int .i64 f.b.t, .int .i64 f.b.c, .bool f.b.z, .int .i64 f.b.n, u, .int .i64 g.k, .int .i64 g.u, .int .i64 g.o, .int .i64 g.a.k, .int .i64 g.a.t, .int .i64 g.a.c, .bool g.a.z, .int .i64 g.a.n, .int .i64 g.b.k, .int .i64 g.b.t, .int .i64 g.b.c, .bool g.b.z, .int .i64 g.b.n, v] 33) := ⟨_, rfl⟩
  obtain ⟨l, hb⟩ := box_one (cs := [.int .i64 f.k, .int .i64 f.u, .int .i64 f.o, .int .i64 f.a.k, .int .i64 f.a.t, .int .i64 f.a.c, .bool f.a.z, .int .i64 f.a.n, .int .i64 f.b.k, .int .i64 f.b.t, .int .i64 f.b.c, .bool f.b.z, .int .i64 f.b.n, u, .int .i64 g.k, .int .i64 g.u, .int .i64 g.o, .int .i64 g.a.k, .int .i64 g.a.t, .int .i64 g.a.c, .bool g.a.z, .int .i64 g.a.n, .int .i64 g.b.k, .int .i64 g.b.t, .int .i64 g.b.c, .bool g.b.z, .int .i64 g.b.n, v]) hW1
  rw [← hW1]
  refine ⟨some ⟨W.heap.size, 0, none⟩, 2, rfl, by simp, fun j p hj => ?_⟩
  match j, hj with
  | 0, hj =>
    cases hj
    exact ⟨_, _, _, u, rfl, l.lt, ⟨l.cell (i := 0) rfl, l.cell (i := 1) rfl, l.cell (i := 2) rfl, l.cell (i := 3) rfl, l.cell (i := 4) rfl, l.cell (i := 5) rfl, l.cell (i := 6) rfl, l.cell (i := 7) rfl, l.cell (i := 8) rfl, l.cell (i := 9) rfl, l.cell (i := 10) rfl, l.cell (i := 11) rfl, l.cell (i := 12) rfl, l.cell (i := 13) rfl⟩, hu.below hb (Nat.le_refl _)⟩
  | 1, hj =>
    cases hj
    exact ⟨_, _, _, v, rfl, l.lt, ⟨l.cell (i := 14) rfl, l.cell (i := 15) rfl, l.cell (i := 16) rfl, l.cell (i := 17) rfl, l.cell (i := 18) rfl, l.cell (i := 19) rfl, l.cell (i := 20) rfl, l.cell (i := 21) rfl, l.cell (i := 22) rfl, l.cell (i := 23) rfl, l.cell (i := 24) rfl, l.cell (i := 25) rfl, l.cell (i := 26) rfl, l.cell (i := 27) rfl⟩, hv.below hb (Nat.le_refl _)⟩
end Go.Proofs.YtpdgbfeciacbdaaDoor
