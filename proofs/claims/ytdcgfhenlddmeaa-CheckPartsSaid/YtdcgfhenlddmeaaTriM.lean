/-
  TOWARDS THE LAW's Two OF LAYER 10: two leaves under an operator, an equality between them, as they lie.
-/
import Derived.Test.YtdcgfhenlddmeaaTrhM
import Derived.Test.YtdcgfhenlddmeaaGBase
namespace Go.Proofs.Ytdcgfhenlddmeaa
open Go.RowKit Go.Sort
set_option maxHeartbeats 1600000

theorem pred_built10 (W : World) (d : Nat) (f : Pf) (u : Value) (ps : List Pd) (G : Nat) (hG : W.heap.size = G) (hu : PsAt d W u ps) :
    PsAt (d + 1) (W.alloc (Obj.cells #[.int .i64 f.k, .int .i64 f.u, .int .i64 f.o, .int .i64 f.a.k, .int .i64 f.a.t, .int .i64 f.a.c, .bool f.a.z, .int .i64 f.a.n, .int .i64 f.b.k, .int .i64 f.b.t, .int .i64 f.b.c, .bool f.b.z, .int .i64 f.b.n, u] 49)) (.slice (some ⟨G, 0, none⟩) 1 1) [.mk f ps] := by
  subst hG
  obtain ⟨W1, hW1⟩ : ∃ W1, W1 = W.alloc (Obj.cells #[.int .i64 f.k, .int .i64 f.u, .int .i64 f.o, .int .i64 f.a.k, .int .i64 f.a.t, .int .i64 f.a.c, .bool f.a.z, .int .i64 f.a.n, .int .i64 f.b.k, .int .i64 f.b.t, .int .i64 f.b.c, .bool f.b.z, .int .i64 f.b.n, u] 49) := ⟨_, rfl⟩
  obtain ⟨l, hb⟩ := box_one (cs := f.cells u) hW1
  rw [← hW1]
  refine ⟨some ⟨W.heap.size, 0, none⟩, 1, rfl, by simp, fun j p hj => ?_⟩
  match j, hj with
  | 0, hj =>
    cases hj
    exact ⟨_, _, _, u, rfl, l.lt, l.pd, hu.below hb (Nat.le_refl _)⟩
/-- the equality of the two leaves' columns -/
abbrev eq01 : Pd := .mk ⟨2, 0, 1, ⟨1, 0, 0, false, 0⟩, ⟨1, 1, 0, false, 0⟩⟩ []
/-- a leaf -/
abbrev leafTr (i : Int) : Tr := .mk 0 i false [] []
/-- two leaves under an operator -/
abbrev twoTr (k : Int) : Tr := .mk k 0 false [eq01] [leafTr 0, leafTr 1]
theorem two_at {w : World} {g : Nat} (hg : g < w.heap.size) (t0 : TrCell w ⟨g, 0, none⟩ (leafTr 0) (.slice none 0 0) (.slice none 0 0)) (t1 : TrCell w ⟨g, 5, none⟩ (leafTr 1) (.slice none 0 0) (.slice none 0 0)) :
    TsAt 2 w (.slice (some ⟨g, 0, none⟩) 2 2) [leafTr 0, leafTr 1] := by
  have hn : TsAt 1 w (.slice none 0 0) [] := ⟨none, 0, rfl, by simp, fun j a h => by simp at h⟩
  have hp : PsSome w (.slice none 0 0) [] := ⟨0, rfl, none, 0, rfl⟩
  refine ⟨some ⟨g, 0, none⟩, 2, rfl, by simp, fun j a hj => ?_⟩
  match j, hj with
  | 0, hj =>
    cases hj
    exact ⟨g, 0, none, _, _, rfl, hg, by simpa [Addr.add] using t0, hp, hn⟩
  | 1, hj =>
    cases hj
    exact ⟨g, 0, none, _, _, rfl, hg, by simpa [Addr.add] using t1, hp, hn⟩
end Go.Proofs.Ytdcgfhenlddmeaa
