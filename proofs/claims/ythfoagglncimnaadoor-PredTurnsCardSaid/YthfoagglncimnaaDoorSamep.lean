/-
  WHAT LAYER 6's LAWS SHARE: a predicate's box, kept; a predicate is the same as itself; pairs in memory.
-/
import Derived.Test.YthfoagglncimnaaDoorPreds
import Derived.Test.YthfoagglncimnaaDoorPredt
import Derived.Test.YthfoagglncimnaaDoorPredu
import Derived.Test.YthfoagglncimnaaDoorPredw
import Derived.Test.YthfoagglncimnaaDoorPredx
namespace Go.Proofs.YthfoagglncimnaaDoor
open Go.RowKit Go.Sort

theorem keep14 {W0 W : World} {g : Nat} {f : Pf} {u : Value} (h : PdCell W0 ⟨g, 0, none⟩ f u) (hg : g < W0.heap.size) (hb : Below W0.heap.size W0 W) :
    (W.cell? ⟨g, 0, none⟩ = some (.int .i64 f.k) ∧ W.cell? ⟨g, 1, none⟩ = some (.int .i64 f.u) ∧ W.cell? ⟨g, 2, none⟩ = some (.int .i64 f.o) ∧ W.cell? ⟨g, 3, none⟩ = some (.int .i64 f.a.k) ∧ W.cell? ⟨g, 4, none⟩ = some (.int .i64 f.a.t) ∧ W.cell? ⟨g, 5, none⟩ = some (.int .i64 f.a.c) ∧ W.cell? ⟨g, 6, none⟩ = some (.bool f.a.z) ∧ W.cell? ⟨g, 7, none⟩ = some (.int .i64 f.a.n) ∧ W.cell? ⟨g, 8, none⟩ = some (.int .i64 f.b.k) ∧ W.cell? ⟨g, 9, none⟩ = some (.int .i64 f.b.t) ∧ W.cell? ⟨g, 10, none⟩ = some (.int .i64 f.b.c) ∧ W.cell? ⟨g, 11, none⟩ = some (.bool f.b.z) ∧ W.cell? ⟨g, 12, none⟩ = some (.int .i64 f.b.n) ∧ W.cell? ⟨g, 13, none⟩ = some (u)) ∧ Below W0.heap.size W0 W := by
  obtain ⟨k0, k1, k2, k3, k4, k5, k6, k7, k8, k9, k10, k11, k12, k13⟩ := h.below hb hg
  refine ⟨⟨k0, k1, k2, k3, k4, k5, k6, k7, k8, k9, k10, k11, k12, ?_⟩, hb⟩
  exact k13
theorem keep28 {W0 W : World} {g h : Nat} {f q : Pf} {u v : Value} (hp : PdCell W0 ⟨g, 0, none⟩ f u) (hq : PdCell W0 ⟨h, 0, none⟩ q v) (hg : g < W0.heap.size) (hh : h < W0.heap.size) (hb : Below W0.heap.size W0 W) :
    (W.cell? ⟨g, 0, none⟩ = some (.int .i64 f.k) ∧ W.cell? ⟨g, 1, none⟩ = some (.int .i64 f.u) ∧ W.cell? ⟨g, 2, none⟩ = some (.int .i64 f.o) ∧ W.cell? ⟨g, 3, none⟩ = some (.int .i64 f.a.k) ∧ W.cell? ⟨g, 4, none⟩ = some (.int .i64 f.a.t) ∧ W.cell? ⟨g, 5, none⟩ = some (.int .i64 f.a.c) ∧ W.cell? ⟨g, 6, none⟩ = some (.bool f.a.z) ∧ W.cell? ⟨g, 7, none⟩ = some (.int .i64 f.a.n) ∧ W.cell? ⟨g, 8, none⟩ = some (.int .i64 f.b.k) ∧ W.cell? ⟨g, 9, none⟩ = some (.int .i64 f.b.t) ∧ W.cell? ⟨g, 10, none⟩ = some (.int .i64 f.b.c) ∧ W.cell? ⟨g, 11, none⟩ = some (.bool f.b.z) ∧ W.cell? ⟨g, 12, none⟩ = some (.int .i64 f.b.n) ∧ W.cell? ⟨g, 13, none⟩ = some (u)) ∧ (W.cell? ⟨h, 0, none⟩ = some (.int .i64 q.k) ∧ W.cell? ⟨h, 1, none⟩ = some (.int .i64 q.u) ∧ W.cell? ⟨h, 2, none⟩ = some (.int .i64 q.o) ∧ W.cell? ⟨h, 3, none⟩ = some (.int .i64 q.a.k) ∧ W.cell? ⟨h, 4, none⟩ = some (.int .i64 q.a.t) ∧ W.cell? ⟨h, 5, none⟩ = some (.int .i64 q.a.c) ∧ W.cell? ⟨h, 6, none⟩ = some (.bool q.a.z) ∧ W.cell? ⟨h, 7, none⟩ = some (.int .i64 q.a.n) ∧ W.cell? ⟨h, 8, none⟩ = some (.int .i64 q.b.k) ∧ W.cell? ⟨h, 9, none⟩ = some (.int .i64 q.b.t) ∧ W.cell? ⟨h, 10, none⟩ = some (.int .i64 q.b.c) ∧ W.cell? ⟨h, 11, none⟩ = some (.bool q.b.z) ∧ W.cell? ⟨h, 12, none⟩ = some (.int .i64 q.b.n) ∧ W.cell? ⟨h, 13, none⟩ = some (v)) ∧ Below W0.heap.size W0 W := ⟨(keep14 hp hg hb).1, (keep14 hq hh hb).1, hb⟩
theorem same_self : ∀ p : Pd, Pr.same p p = true := by
  intro p
  have key : ∀ n, ∀ p : Pd, Pr.size p ≤ n → Pr.same p p = true := by
    intro n
    induction n with
    | zero => intro p h; have := Pr.size_pos p; omega
    | succ n ih =>
      intro p h
      rw [Pr.same_at, fsame_self, Bool.true_and, Pr.sames_iff rfl]
      intro j a b ha hb
      rw [ha] at hb
      cases hb
      exact ih a (by have h1 := Pr.sizes_at ha; have h2 := Pr.size_at p; omega)
  exact key _ p (Nat.le_refl _)
theorem Pairs.below {w w' : World} {B : Nat} {v : Value} {l : List (Int × Int)} (h : Pairs w v l) (hb : Below B w w') (hB : w.heap.size ≤ B) : Pairs w' v l := by
  obtain ⟨A, c, hv, hc, hx⟩ := h
  refine ⟨A, c, hv, hc, fun j x hj => ?_⟩
  obtain ⟨b, o, p, hA, hlt, h0, h1⟩ := hx j x hj
  have hX : ((⟨b, o, p⟩ : Addr).add (j * 2)).block < B := by rw [add_block]; show b < B; omega
  exact ⟨b, o, p, hA, Nat.lt_of_lt_of_le hlt hb.size, (hb.cell hX).trans h0, (hb.cell (p := ⟨_, _, none⟩) hX).trans h1⟩
end Go.Proofs.YthfoagglncimnaaDoor
