/-
  WORDS FOR PREDICATES IN MEMORY: fourteen cells each, the last one the slice of the parts; a list of predicates, as deep as it is.
-/
import Derived.Test.YthfoagglncimnaaDoorPrd
import Derived.Test.YthfoagglncimnaaDoorRws
import Derived.Test.YthfoagglncimnaaDoorLies
namespace Go.Proofs.YthfoagglncimnaaDoor
open Go.RowKit

/-- the cells of a predicate -/
def Pf.cells (f : Pf) (u : Value) : List Value := [.int .i64 f.k, .int .i64 f.u, .int .i64 f.o, .int .i64 f.a.k, .int .i64 f.a.t, .int .i64 f.a.c, .bool f.a.z, .int .i64 f.a.n, .int .i64 f.b.k, .int .i64 f.b.t, .int .i64 f.b.c, .bool f.b.z, .int .i64 f.b.n, u]
/-- the predicate's cells lie at X, as a walk spells them -/
structure PdCell (w : World) (X : Addr) (f : Pf) (u : Value) : Prop where
  c0 : w.cell? X = some (.int .i64 f.k)
  c1 : w.cell? ⟨X.block, X.off + 1, none⟩ = some (.int .i64 f.u)
  c2 : w.cell? ⟨X.block, X.off + 2, none⟩ = some (.int .i64 f.o)
  c3 : w.cell? ⟨X.block, X.off + 3, none⟩ = some (.int .i64 f.a.k)
  c4 : w.cell? ⟨X.block, X.off + 4, none⟩ = some (.int .i64 f.a.t)
  c5 : w.cell? ⟨X.block, X.off + 5, none⟩ = some (.int .i64 f.a.c)
  c6 : w.cell? ⟨X.block, X.off + 6, none⟩ = some (.bool f.a.z)
  c7 : w.cell? ⟨X.block, X.off + 7, none⟩ = some (.int .i64 f.a.n)
  c8 : w.cell? ⟨X.block, X.off + 8, none⟩ = some (.int .i64 f.b.k)
  c9 : w.cell? ⟨X.block, X.off + 9, none⟩ = some (.int .i64 f.b.t)
  c10 : w.cell? ⟨X.block, X.off + 10, none⟩ = some (.int .i64 f.b.c)
  c11 : w.cell? ⟨X.block, X.off + 11, none⟩ = some (.bool f.b.z)
  c12 : w.cell? ⟨X.block, X.off + 12, none⟩ = some (.int .i64 f.b.n)
  c13 : w.cell? ⟨X.block, X.off + 13, none⟩ = some u
theorem PdCell.below {w w' : World} {B : Nat} {X : Addr} {f : Pf} {u : Value} (h : PdCell w X f u) (hb : Below B w w') (hX : X.block < B) : PdCell w' X f u :=
  have k : ∀ n, w'.cell? ⟨X.block, n, none⟩ = w.cell? ⟨X.block, n, none⟩ := fun n => hb.cell (p := ⟨X.block, n, none⟩) hX
  ⟨(hb.cell hX).trans h.c0, (k _).trans h.c1, (k _).trans h.c2, (k _).trans h.c3, (k _).trans h.c4, (k _).trans h.c5, (k _).trans h.c6, (k _).trans h.c7, (k _).trans h.c8, (k _).trans h.c9, (k _).trans h.c10, (k _).trans h.c11, (k _).trans h.c12, (k _).trans h.c13⟩
theorem Lies.pd {w : World} {g : Nat} {T : TypeId} {f : Pf} {u : Value} (h : Lies w g T (f.cells u)) : PdCell w ⟨g, 0, none⟩ f u :=
  ⟨h.cell (i := 0) rfl, h.cell (i := 1) rfl, h.cell (i := 2) rfl, h.cell (i := 3) rfl, h.cell (i := 4) rfl, h.cell (i := 5) rfl, h.cell (i := 6) rfl, h.cell (i := 7) rfl, h.cell (i := 8) rfl, h.cell (i := 9) rfl, h.cell (i := 10) rfl, h.cell (i := 11) rfl, h.cell (i := 12) rfl, h.cell (i := 13) rfl⟩

/-- the slice value v reads, in w, as the predicates l, at most d deep -/
def PsAt : Nat → World → Value → List Pd → Prop
  | 0, _, v, l => l = [] ∧ ∃ A c, v = .slice A 0 c
  | d + 1, w, v, l => ∃ A c, v = .slice A l.length c ∧ l.length ≤ 9223372036854775807 ∧ ∀ (j : Nat) (p : Pd), l[j]? = some p → ∃ b o s u, A = some ⟨b, o, s⟩ ∧ b < w.heap.size ∧ PdCell w ((⟨b, o, s⟩ : Addr).add (j * 14)) p.f u ∧ PsAt d w u p.ps
theorem PsAt.form {d : Nat} {w : World} {v : Value} {l : List Pd} (h : PsAt d w v l) : ∃ A c, v = .slice A l.length c ∧ l.length ≤ 9223372036854775807 := by
  cases d with
  | zero => obtain ⟨rfl, A, c, rfl⟩ := h; exact ⟨A, c, rfl, by simp⟩
  | succ d => obtain ⟨A, c, rfl, hl, _⟩ := h; exact ⟨A, c, rfl, hl⟩
theorem PsAt.below {d : Nat} : ∀ {w w' : World} {B : Nat} {v : Value} {l : List Pd}, PsAt d w v l → Below B w w' → w.heap.size ≤ B → PsAt d w' v l := by
  induction d with
  | zero => intro w w' B v l h _ _; exact h
  | succ d ih =>
    intro w w' B v l h hb hB
    obtain ⟨A, c, hv, hc, hx⟩ := h
    refine ⟨A, c, hv, hc, fun j p hj => ?_⟩
    obtain ⟨b, o, s, u, hA, hlt, hcell, hp⟩ := hx j p hj
    exact ⟨b, o, s, u, hA, Nat.lt_of_lt_of_le hlt hb.size, hcell.below hb (by rw [add_block]; show b < B; omega), ih hp hb hB⟩
theorem PsAt.more {d : Nat} : ∀ {w : World} {v : Value} {l : List Pd}, PsAt d w v l → PsAt (d + 1) w v l := by
  induction d with
  | zero =>
    intro w v l h
    obtain ⟨rfl, A, c, rfl⟩ := h
    exact ⟨A, c, rfl, by simp, fun j p hj => by simp at hj⟩
  | succ d ih =>
    intro w v l h
    obtain ⟨A, c, hv, hc, hx⟩ := h
    refine ⟨A, c, hv, hc, fun j p hj => ?_⟩
    obtain ⟨b, o, s, u, hA, hlt, hcell, hp⟩ := hx j p hj
    exact ⟨b, o, s, u, hA, hlt, hcell, ih hp⟩
theorem PsAt.mono {d e : Nat} {w : World} {v : Value} {l : List Pd} (h : PsAt d w v l) (hd : d ≤ e) : PsAt e w v l := by
  induction hd with
  | refl => exact h
  | step _ ih => exact ih.more
/-- one of them, in a world that has grown -/
theorem PsAt.at_ {d : Nat} {w : World} {A : Option Addr} {c : Nat} {l : List Pd} {j : Nat} {p : Pd} (h : PsAt d w (.slice A l.length c) l) (hj : l[j]? = some p) :
    ∃ e b o s u, e < d ∧ A = some ⟨b, o, s⟩ ∧ b < w.heap.size ∧ ∀ W, Below w.heap.size w W → PdCell W ((⟨b, o, s⟩ : Addr).add (j * 14)) p.f u ∧ PsAt e W u p.ps := by
  cases d with
  | zero => obtain ⟨rfl, _⟩ := h; simp at hj
  | succ d =>
    obtain ⟨A', c', hv, _, hx⟩ := h
    cases hv
    obtain ⟨b, o, s, u, hA, hlt, hcell, hp⟩ := hx j p hj
    exact ⟨d, b, o, s, u, Nat.lt_succ_self d, hA, hlt, fun W hb => ⟨hcell.below hb (by rw [add_block]; exact hlt), hp.below hb (Nat.le_refl _)⟩⟩
end Go.Proofs.YthfoagglncimnaaDoor
