/-
  WHICH TUPLES ARE LIGHT (the statements' own bound).
-/
import Derived.Test.YtghonbnmakggnaaDoorMtcM
import Derived.Test.YtghonbnmakggnaaDoorGPred
import Derived.Test.YtghonbnmakggnaaDoorGLogs
namespace Go.Proofs.YtghonbnmakggnaaDoor
open Go.RowKit Go.Sort
set_option maxHeartbeats 3200000

/-- what light says -/
def Mt.light (ps : List Pd) (l : List (List Vl)) (r : List (List (List Vl))) : Prop :=
  (ps.length ≤ 10 ∧ ∀ p ∈ ps, Pr.size p ≤ 100) ∧ r.length ≤ 40 ∧ ∀ t ∈ r ++ [l], t.length ≤ 66 ∧ ∀ x ∈ t, x.length ≤ 10
def Light13 (w : World) (ps : List Pd) (l : List (List Vl)) (r : List (List (List Vl))) (E : Ending) (w' : World) : Prop :=
  ∃ b : Bool, E = .returned (.bool b) ∧ (b = true → Mt.light ps l r) ∧ Below w.heap.size w w'
theorem Mt.light_sizes {ps : List Pd} (h : ps.length ≤ 10 ∧ ∀ p ∈ ps, Pr.size p ≤ 100) : Pr.sizes ps ≤ 1000 := by
  have h2 : ∀ l : List Pd, (∀ p ∈ l, Pr.size p ≤ 100) → Pr.sizes l ≤ 100 * l.length := fun l => by
    induction l with
    | nil => intro _; simp [Pr.sizes]
    | cons p l ih =>
      intro h
      have h1 := ih fun x hx => h x (List.mem_cons_of_mem _ hx)
      have h2 := h p (List.mem_cons_self ..)
      rw [Pr.sizes, List.length_cons]
      omega
  have := h2 ps h.2
  omega
/-- nil, or at an address -/
def Formed (v : Value) : Prop := v = .slice none 0 0 ∨ ∃ b n c, v = .slice (some b) n c
theorem tus_came {T : Nat → Prop} {w : World} {v : Value} {us : List Value} {ts : List (List (List Vl))} (h : TusIn T w v us ts) (hf : Formed v) : Came1 w v us := by
  refine ⟨h.sl.sl, ?_⟩
  obtain ⟨A, c, hv, _⟩ := h.sl
  rcases hf with rfl | ⟨b, n, c', rfl⟩
  · injection hv with _ e2 _
    exact .inl ⟨rfl, List.eq_nil_of_length_eq_zero e2.symm⟩
  · injection hv with e1 e2 e3
    exact .inr ⟨b, c', by rw [e2]⟩
theorem tus_ones {T : Nat → Prop} {w : World} {v : Value} {us : List Value} {ts : List (List (List Vl))} (h : TusIn T w v us ts) : ∀ u ∈ us, u.oneCell' = true := fun u hu => by
  obtain ⟨i, hi, rfl⟩ := List.mem_iff_getElem.1 hu
  obtain ⟨u, h1, h2⟩ := h.tup i _ (List.getElem?_eq_getElem (show i < ts.length by have := h.len; omega))
  rw [List.getElem?_eq_getElem hi] at h1
  cases h1
  exact h2.one
/-- a list of tuples and one more, in a row of the call's own -/
theorem tus_more {w w' : World} {base n : Nat} {v u : Value} {us : List Value} {ts : List (List (List Vl))} {t : List (List Vl)} (hown : w'.ownsRow base 25 1 v n (us ++ [u])) (h : ∀ (i : Nat) (x : List (List Vl)), ts[i]? = some x → ∃ u, us[i]? = some u ∧ RwsOn Al w u x) (hl : us.length = ts.length) (hu : RwsOn Al w u t) (hb : Below w.heap.size w w') : TusOn Al w' v (ts ++ [t]) := by
  refine ⟨us ++ [u], (SlOn.own hown).mono fun _ _ _ => trivial, by rw [List.length_append, List.length_append, hl]; rfl, fun i x hi => ?_⟩
  by_cases e : i < ts.length
  · rw [List.getElem?_append_left e] at hi
    obtain ⟨y, h1, h2⟩ := h i x hi
    exact ⟨y, by rw [List.getElem?_append_left (by omega)]; exact h1, h2.below hb (Nat.le_refl _)⟩
  · have e2 : i = ts.length := by
      by_cases e2 : i = ts.length
      · exact e2
      · rw [List.getElem?_eq_none (by simp; omega)] at hi; cases hi
    subst e2
    rw [List.getElem?_append_right (Nat.le_refl _), Nat.sub_self] at hi
    cases hi
    refine ⟨u, ?_, hu.below hb (Nat.le_refl _)⟩
    rw [List.getElem?_append_right (by omega), hl, Nat.sub_self]
    rfl
end Go.Proofs.YtghonbnmakggnaaDoor
