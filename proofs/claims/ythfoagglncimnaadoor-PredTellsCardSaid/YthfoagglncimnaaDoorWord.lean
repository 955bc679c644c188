/-
  WORDS FOR MEMORY of this seat's own: a slice value that reads as a list of one-cell values; what is kept of it; worlds that differ by draws alone.
-/
import Derived.WalkKit
import Derived.WalkSpells
import Derived.Lib.Hide
import Derived.Below
import Derived.Laws.OwnMore
import Derived.Deep.Draws
import Derived.Laws.Rows
namespace Go.Proofs.YthfoagglncimnaaDoor
open Go.RowKit

/-- the slice value v reads, in w, as xs: each element lies in one cell -/
def Sl (w : World) (v : Value) (xs : List Value) : Prop :=
  ∃ A c, v = .slice A xs.length c ∧ xs.length ≤ c ∧ ∀ j u, xs[j]? = some u → ∃ b o p, A = some ⟨b, o, p⟩ ∧ b < w.heap.size ∧ w.cell? ((⟨b, o, p⟩ : Addr).add j) = some u
theorem Sl.below {w w' : World} {B : Nat} {v : Value} {xs : List Value} (h : Sl w v xs) (hb : Below B w w') (hB : w.heap.size ≤ B) : Sl w' v xs := by
  obtain ⟨A, c, hv, hc, hx⟩ := h
  refine ⟨A, c, hv, hc, fun j u hu => ?_⟩
  obtain ⟨b, o, p, hA, hlt, hcell⟩ := hx j u hu
  have e : ((⟨b, o, p⟩ : Addr).add j).block = b := by unfold Addr.add; split <;> rfl
  exact ⟨b, o, p, hA, Nat.lt_of_lt_of_le hlt hb.size, (hb.cell (by rw [e]; omega)).trans hcell⟩
theorem Sl.drewN {w : World} {v : Value} {xs : List Value} (h : Sl w v xs) (n : Nat) : Sl (w.drewN n) v xs := h
theorem Sl.drew {w : World} {v : Value} {xs : List Value} (h : Sl w v xs) : Sl w.drew v xs := h
theorem Sl.own {w : World} {base : Nat} {e : TypeId} {v : Value} {n : Nat} {xs : List Value} (h : w.ownsRow base e 1 v n xs) : Sl w v xs := by
  have hl : xs.length = n := by have := h.1; omega
  rcases h.2 with ⟨hv, hn⟩ | ⟨g, cap, cur, hv, hb, hg, hnc, hcm, hs, ht⟩
  · refine ⟨none, 0, by rw [hv, hl, hn], by omega, fun j u hu => ?_⟩
    have : xs = [] := List.eq_nil_of_length_eq_zero (by omega)
    subst this; simp at hu
  · refine ⟨some ⟨g, 0, none⟩, cap, by rw [hv, hl], by omega, fun j u hu => ⟨g, 0, none, rfl, ?_, ?_⟩⟩
    · exact (Array.getElem?_eq_some_iff.1 hg).1
    · exact h.cells (g := g) (by rw [hv]; rfl) j u hu

/-- w' is w but for the tape's draws -/
def Same (w w' : World) : Prop := ∃ n, w' = w.drewN n
theorem Same.refl (w : World) : Same w w := ⟨0, rfl⟩
theorem Same.drewN {w w' : World} (h : Same w w') (q : Nat) : Same w (w'.drewN q) := by
  obtain ⟨n, rfl⟩ := h
  exact ⟨n + q, World.drewN_drewN _ _ _⟩
theorem Same.drew {w w' : World} (h : Same w w') : Same w w'.drew := by
  obtain ⟨n, rfl⟩ := h
  exact ⟨n + 1, rfl⟩
theorem Same.trans {a b c : World} (h : Same a b) (k : Same b c) : Same a c := by
  obtain ⟨n, rfl⟩ := h
  obtain ⟨m, rfl⟩ := k
  exact ⟨n + m, World.drewN_drewN _ _ _⟩
theorem Same.cell {w w' : World} (h : Same w w') {a : Addr} {u : Value} (hc : w.cell? a = some u) : w'.cell? a = some u := by
  obtain ⟨n, rfl⟩ := h
  exact hc
theorem Same.sl {w w' : World} (h : Same w w') {v : Value} {xs : List Value} (hx : Sl w v xs) : Sl w' v xs := by
  obtain ⟨n, rfl⟩ := h
  exact hx
theorem Same.heap {w w' : World} (h : Same w w') : w'.heap = w.heap := by
  obtain ⟨n, rfl⟩ := h
  rfl
theorem Same.below {w w' : World} (h : Same w w') (B : Nat) : Below B w w' := by
  obtain ⟨n, rfl⟩ := h
  exact ⟨rfl, rfl, rfl, Nat.le_refl _, fun _ _ => rfl⟩

theorem Sl.new (w : World) (t : TypeId) (xs : List Value) : Sl (w.alloc (.cells xs.toArray t)) (.slice (some ⟨w.heap.size, 0, none⟩) xs.length xs.length) xs := by
  refine ⟨_, _, rfl, Nat.le_refl _, fun j u hu => ⟨w.heap.size, 0, none, rfl, by simp, ?_⟩⟩
  have h := Below.heap_alloc w (.cells xs.toArray t)
  have hb : (w.alloc (.cells xs.toArray t)).heap[w.heap.size]? = some (.cells xs.toArray t) := heap_alloc_new w _
  have hl : j < xs.length := by
    by_cases hj : j < xs.length
    · exact hj
    · rw [List.getElem?_eq_none (by omega)] at hu; cases hu
  have e : ((⟨w.heap.size, 0, none⟩ : Addr).add j) = ⟨w.heap.size, j, none⟩ := by
    unfold Addr.add
    split <;> simp_all
  rw [e]
  unfold World.cell?
  simp only [hb]
  simpa using hu

/-- a number that a word of 64 digits holds -/
def U64 (a : Int) : Prop := 0 ≤ a ∧ a < 18446744073709551616
theorem U64.nat {a : Int} (h : U64 a) : ∃ n : Nat, a = n ∧ n < 18446744073709551616 := by
  obtain ⟨n, rfl⟩ := Int.eq_ofNat_of_zero_le h.1
  exact ⟨n, rfl, by have := h.2; omega⟩
theorem U64.of {n : Nat} (h : n < 18446744073709551616) : U64 (n : Int) := ⟨by omega, by omega⟩

theorem ret_bool {a b : Bool} (h : a = b) : Ending.returned (.bool a) = .returned (.bool b) := by rw [h]
theorem ret_int {k : IntKind} {a b : Int} (h : a = b) : Ending.returned (.int k a) = .returned (.int k b) := by rw [h]
end Go.Proofs.YthfoagglncimnaaDoor
