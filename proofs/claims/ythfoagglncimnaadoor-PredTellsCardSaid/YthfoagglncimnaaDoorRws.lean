/-
  WORDS FOR ROWS IN MEMORY: a slice of values (two cells each); a slice of such slices.
-/
import Derived.Test.YthfoagglncimnaaDoorTrm
import Derived.Test.YthfoagglncimnaaDoorWord
namespace Go.Proofs.YthfoagglncimnaaDoor
open Go.RowKit

/-- the slice value v reads, in w, as the values r: two cells each -/
def RowAt (w : World) (v : Value) (r : List Vl) : Prop :=
  ∃ A c, v = .slice A r.length c ∧ r.length ≤ c ∧ ∀ j x, r[j]? = some x → ∃ b o p, A = some ⟨b, o, p⟩ ∧ b < w.heap.size ∧ w.cell? ((⟨b, o, p⟩ : Addr).add (j * 2)) = some (.bool x.1) ∧ w.cell? ((⟨b, o, p⟩ : Addr).add (j * 2 + 1)) = some (.int .i64 x.2)
theorem add_block (a : Addr) (n : Nat) : (a.add n).block = a.block := by unfold Addr.add; split <;> rfl
theorem add_next (a : Addr) (k : Nat) : (⟨(a.add k).block, (a.add k).off + 1, none⟩ : Addr) = a.add (k + 1) := by
  unfold Addr.add
  by_cases h : k = 0
  · simp [h]
  · simp [h, Nat.add_assoc]
/-- the two cells of an element, as a walk spells them, in a world that has grown -/
theorem RowAt.pair {w : World} {A : Option Addr} {c : Nat} {r : List Vl} {j : Nat} {x : Vl} (h : RowAt w (.slice A r.length c) r) (hj : r[j]? = some x) :
    ∃ b o p, A = some ⟨b, o, p⟩ ∧ b < w.heap.size ∧ ∀ W, Below w.heap.size w W → W.cell? ((⟨b, o, p⟩ : Addr).add (j * 2)) = some (.bool x.1) ∧ W.cell? ⟨((⟨b, o, p⟩ : Addr).add (j * 2)).block, ((⟨b, o, p⟩ : Addr).add (j * 2)).off + 1, none⟩ = some (.int .i64 x.2) := by
  obtain ⟨A', c', hv, _, hx⟩ := h
  cases hv
  obtain ⟨b, o, p, hA, hlt, h0, h1⟩ := hx j x hj
  refine ⟨b, o, p, hA, hlt, fun W hb => ⟨(hb.cell (by rw [add_block]; exact hlt)).trans h0, ?_⟩⟩
  rw [add_next]
  exact (hb.cell (by rw [add_block]; exact hlt)).trans h1
theorem RowAt.below {w w' : World} {B : Nat} {v : Value} {r : List Vl} (h : RowAt w v r) (hb : Below B w w') (hB : w.heap.size ≤ B) : RowAt w' v r := by
  obtain ⟨A, c, hv, hc, hx⟩ := h
  refine ⟨A, c, hv, hc, fun j x hj => ?_⟩
  obtain ⟨b, o, p, hA, hlt, h0, h1⟩ := hx j x hj
  exact ⟨b, o, p, hA, Nat.lt_of_lt_of_le hlt hb.size, (hb.cell (by rw [add_block]; show b < B; omega)).trans h0, (hb.cell (by rw [add_block]; show b < B; omega)).trans h1⟩
theorem RowAt.nil (w : World) : RowAt w (.slice none 0 0) [] := ⟨none, 0, rfl, Nat.le_refl _, fun j x h => by simp at h⟩
/-- the slice value v reads, in w, as the rows rs; vs: the rows' own slice values -/
structure RwsOf (w : World) (v : Value) (vs : List Value) (rs : List (List Vl)) : Prop where
  sl : Sl w v vs
  len : vs.length = rs.length
  row : ∀ (i : Nat) (r : List Vl), rs[i]? = some r → ∃ u, vs[i]? = some u ∧ RowAt w u r
def Rws (w : World) (v : Value) (rs : List (List Vl)) : Prop := ∃ vs, RwsOf w v vs rs
theorem RwsOf.below {w w' : World} {B : Nat} {v : Value} {vs : List Value} {rs : List (List Vl)} (h : RwsOf w v vs rs) (hb : Below B w w') (hB : w.heap.size ≤ B) : RwsOf w' v vs rs :=
  ⟨h.sl.below hb hB, h.len, fun i r hr => by obtain ⟨u, hu, hr⟩ := h.row i r hr; exact ⟨u, hu, hr.below hb hB⟩⟩
theorem Rws.below {w w' : World} {B : Nat} {v : Value} {rs : List (List Vl)} (h : Rws w v rs) (hb : Below B w w') (hB : w.heap.size ≤ B) : Rws w' v rs := by
  obtain ⟨vs, h⟩ := h
  exact ⟨vs, h.below hb hB⟩
theorem Rws.nil (w : World) : Rws w (.slice none 0 0) [] := ⟨[], ⟨none, 0, rfl, Nat.le_refl _, fun j u h => by simp at h⟩, rfl, fun i r h => by simp at h⟩
/-- its form, and each row's -/
theorem Rws.at_ {w : World} {v : Value} {rs : List (List Vl)} (h : Rws w v rs) : ∃ A c, v = .slice A rs.length c ∧ rs.length ≤ c ∧ ∀ i r, rs[i]? = some r → ∃ b o p B d, A = some ⟨b, o, p⟩ ∧ w.cell? ((⟨b, o, p⟩ : Addr).add i) = some (.slice B r.length d) ∧ r.length ≤ d ∧ RowAt w (.slice B r.length d) r := by
  obtain ⟨vs, ⟨A, c, hv, hc, hx⟩, hl, hr⟩ := h
  rw [hl] at hv hc
  refine ⟨A, c, hv, hc, fun i r hi => ?_⟩
  obtain ⟨u, hu, hru⟩ := hr i r hi
  obtain ⟨b, o, p, hA, _, hcell⟩ := hx i u hu
  obtain ⟨B, d, rfl, hd, _⟩ := id hru
  exact ⟨b, o, p, B, d, hA, hcell, hd, hru⟩
end Go.Proofs.YthfoagglncimnaaDoor
