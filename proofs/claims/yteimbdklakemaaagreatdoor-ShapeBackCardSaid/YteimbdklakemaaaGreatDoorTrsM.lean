/-
  WORDS FOR TREES IN MEMORY: five cells each (kind, table, the slices of kids and of conjuncts, hash); a list of trees, as deep as it is.
-/
import Derived.Test.YteimbdklakemaaaGreatDoorTreM
import Derived.Test.YteimbdklakemaaaGreatDoorGPred
namespace Go.Proofs.YteimbdklakemaaaGreatDoor
open Go.RowKit

/-- the cells of a tree -/
def Tr.cells (a : Tr) (u v : Value) : List Value := [.int .i64 a.k, .int .i64 a.t, u, v, .bool a.h]
/-- the tree's cells lie at X, as a walk spells them -/
structure TrCell (w : World) (X : Addr) (a : Tr) (u v : Value) : Prop where
  c0 : w.cell? X = some (.int .i64 a.k)
  c1 : w.cell? ⟨X.block, X.off + 1, none⟩ = some (.int .i64 a.t)
  c2 : w.cell? ⟨X.block, X.off + 2, none⟩ = some u
  c3 : w.cell? ⟨X.block, X.off + 3, none⟩ = some v
  c4 : w.cell? ⟨X.block, X.off + 4, none⟩ = some (.bool a.h)
theorem TrCell.below {w w' : World} {B : Nat} {X : Addr} {a : Tr} {u v : Value} (h : TrCell w X a u v) (hb : Below B w w') (hX : X.block < B) : TrCell w' X a u v :=
  have k : ∀ n, w'.cell? ⟨X.block, n, none⟩ = w.cell? ⟨X.block, n, none⟩ := fun n => hb.cell (p := ⟨X.block, n, none⟩) hX
  ⟨(hb.cell hX).trans h.c0, (k _).trans h.c1, (k _).trans h.c2, (k _).trans h.c3, (k _).trans h.c4⟩
theorem Lies.tr {w : World} {g : Nat} {T : TypeId} {a : Tr} {u v : Value} (h : Lies w g T (a.cells u v)) : TrCell w ⟨g, 0, none⟩ a u v :=
  ⟨h.cell (i := 0) rfl, h.cell (i := 1) rfl, h.cell (i := 2) rfl, h.cell (i := 3) rfl, h.cell (i := 4) rfl⟩
/-- the slice value v reads, in w, as the predicates l -/
def PsSome (w : World) (v : Value) (l : List Pd) : Prop := ∃ d, PsAt d w v l
theorem PsSome.below {w w' : World} {B : Nat} {v : Value} {l : List Pd} (h : PsSome w v l) (hb : Below B w w') (hB : w.heap.size ≤ B) : PsSome w' v l := by
  obtain ⟨d, h⟩ := h
  exact ⟨d, h.below hb hB⟩
/-- the slice value v reads, in w, as the trees l, at most d deep -/
def TsAt : Nat → World → Value → List Tr → Prop
  | 0, _, v, l => l = [] ∧ ∃ A c, v = .slice A 0 c
  | d + 1, w, v, l => ∃ A c, v = .slice A l.length c ∧ (l.length ≤ 9223372036854775807 ∧ l.length ≤ c) ∧ ∀ (j : Nat) (a : Tr), l[j]? = some a → ∃ b o s x y, A = some ⟨b, o, s⟩ ∧ b < w.heap.size ∧ TrCell w ((⟨b, o, s⟩ : Addr).add (j * 5)) a x y ∧ PsSome w y a.cs ∧ TsAt d w x a.ks
theorem TsAt.form {d : Nat} {w : World} {v : Value} {l : List Tr} (h : TsAt d w v l) : ∃ A c, v = .slice A l.length c ∧ l.length ≤ 9223372036854775807 := by
  cases d with
  | zero => obtain ⟨rfl, A, c, rfl⟩ := h; exact ⟨A, c, rfl, by simp⟩
  | succ d => obtain ⟨A, c, rfl, hl, _⟩ := h; exact ⟨A, c, rfl, hl.1⟩
theorem TsAt.cap {d : Nat} {w : World} {A : Option Addr} {n c : Nat} {l : List Tr} (h : TsAt d w (.slice A n c) l) : l.length ≤ c := by
  cases d with
  | zero => obtain ⟨rfl, _⟩ := h; simp
  | succ d => obtain ⟨A', c', hv, hl, _⟩ := h; cases hv; exact hl.2
theorem TsAt.below {d : Nat} : ∀ {w w' : World} {B : Nat} {v : Value} {l : List Tr}, TsAt d w v l → Below B w w' → w.heap.size ≤ B → TsAt d w' v l := by
  induction d with
  | zero => intro w w' B v l h _ _; exact h
  | succ d ih =>
    intro w w' B v l h hb hB
    obtain ⟨A, c, hv, hc, hx⟩ := h
    refine ⟨A, c, hv, hc, fun j a hj => ?_⟩
    obtain ⟨b, o, s, x, y, hA, hlt, hcell, hp, hk⟩ := hx j a hj
    exact ⟨b, o, s, x, y, hA, Nat.lt_of_lt_of_le hlt hb.size, hcell.below hb (by rw [add_block]; show b < B; omega), hp.below hb hB, ih hk hb hB⟩
theorem TsAt.more {d : Nat} : ∀ {w : World} {v : Value} {l : List Tr}, TsAt d w v l → TsAt (d + 1) w v l := by
  induction d with
  | zero =>
    intro w v l h
    obtain ⟨rfl, A, c, rfl⟩ := h
    exact ⟨A, c, rfl, by simp, fun j a hj => by simp at hj⟩
  | succ d ih =>
    intro w v l h
    obtain ⟨A, c, hv, hc, hx⟩ := h
    refine ⟨A, c, hv, hc, fun j a hj => ?_⟩
    obtain ⟨b, o, s, x, y, hA, hlt, hcell, hp, hk⟩ := hx j a hj
    exact ⟨b, o, s, x, y, hA, hlt, hcell, hp, ih hk⟩
theorem TsAt.mono {d e : Nat} {w : World} {v : Value} {l : List Tr} (h : TsAt d w v l) (hd : d ≤ e) : TsAt e w v l := by
  induction hd with
  | refl => exact h
  | step _ ih => exact ih.more
/-- one of them, in a world that has grown -/
theorem TsAt.at_ {d : Nat} {w : World} {A : Option Addr} {c : Nat} {l : List Tr} {j : Nat} {a : Tr} (h : TsAt d w (.slice A l.length c) l) (hj : l[j]? = some a) :
    ∃ e b o s x y, e < d ∧ A = some ⟨b, o, s⟩ ∧ b < w.heap.size ∧ ∀ W, Below w.heap.size w W → TrCell W ((⟨b, o, s⟩ : Addr).add (j * 5)) a x y ∧ PsSome W y a.cs ∧ TsAt e W x a.ks := by
  cases d with
  | zero => obtain ⟨rfl, _⟩ := h; simp at hj
  | succ d =>
    obtain ⟨A', c', hv, _, hx⟩ := h
    cases hv
    obtain ⟨b, o, s, x, y, hA, hlt, hcell, hp, hk⟩ := hx j a hj
    exact ⟨d, b, o, s, x, y, Nat.lt_succ_self d, hA, hlt, fun W hb => ⟨hcell.below hb (by rw [add_block]; exact hlt), hp.below hb (Nat.le_refl _), hk.below hb (Nat.le_refl _)⟩⟩
/-- a tree's box -/
theorem tr_box {w W0 : World} {T : TypeId} {a : Tr} {u v : Value} (h : W0 = w.alloc (Obj.cells (a.cells u v).toArray T)) : Lies W0 w.heap.size T (a.cells u v) ∧ TrCell W0 ⟨w.heap.size, 0, none⟩ a u v ∧ Below w.heap.size w W0 := by
  have l : Lies W0 w.heap.size T (a.cells u v) := by rw [h]; exact Lies.new _ _ _
  exact ⟨l, l.tr, by rw [h]; exact (Below.refl _ _).alloc (Nat.le_refl _) _⟩
end Go.Proofs.YteimbdklakemaaaGreatDoor
