/-
  THE ROW's LAST STEP, for a call of which it is known that whatever lay before lies as it lay: the arguments and the named variables read as before.
-/
import Derived.Below
import Derived.ChangeSame
import Derived.ProofKit
namespace Go.Proofs.YtjidhdakigpoeaaDoor
open Go.RowKit Go.WideShapes Go.ChangeShapes
theorem post_kept {H : Type} {enc : TypeId × Value → H} {P : Program} {fn : Func} {sp : ChangeSpec} {ap fr ho ag : Bool} {A B : World} {xs : Array Value} {r : Value} {ds gs : List (DataW H)} {was xa xv : List MemPlace}
    (whole : DataW.Whole enc P fn.params.toList sp.vars ap A xs.toList ds gs was) (kept : Below A.heap.size A B) (places : was = xa ++ xv)
    (res : ∀ (b : Nat) (f : Nat → Bool) (d : Bool), DataW.TrodAll enc P B b f d fn.resultTypes.toList (r.resultList fn.resultTypes.size) (sp.fn H (ds ++ gs)).results [])
    (ins : ∀ f : Nat → Bool, (∀ p ∈ was, f p.block = true) → DataW.TrodAll enc P B 0 f true fn.params.toList xs.toList (sp.fn H (ds ++ gs)).args xa)
    (vars : ∀ f : Nat → Bool, (∀ p ∈ was, f p.block = true) → DataW.TrodVars enc P B f sp.vars (sp.fn H (ds ++ gs)).vars xv)
    (fits : ∀ (j : Nat) (t : TypeId) (u : Value), fn.resultTypes[j]? = some t → (r.resultList fn.resultTypes.size)[j]? = some u → Value.okWide P B .any 0 t u) :
    sp.post enc P fn ap fr ho ag A xs r B := by
  have below : ∀ p, p ∈ was → p.block < A.heap.size := fun p => whole.lt p
  have inside : ∀ p, p ∈ was → (fun b => decide (b < A.heap.size)) p.block = true := fun p h => decide_eq_true (below p h)
  obtain ⟨-, -, -, -, -, unfrozen, once⟩ := id whole
  have same : ∀ p, p ∈ [] ++ xa ++ xv → p ∈ was := fun p h => by rw [places]; simpa using h
  exact ⟨ds, gs, was, [], xa, xv, whole, res _ _ _, ins _ inside, vars _ inside, World.keptBut_mono (fun p h => ⟨h, .inr (by rw [places, List.mem_append] at h; exact h)⟩) (kept.frame (· ∈ was)),
    fun _ => ⟨fits, _, _, [] ++ xa ++ xv, ⟨[] ++ xa, xv, trodAll_append (ins _ fun _ _ => rfl) (res _ _ _), vars _ fun _ _ => rfl, rfl,
      fun b o h => (kept.frozen (below (.cell b o) (same _ h))).trans (unfrozen b o (same _ h)),
      fun h => by have := once h; rw [places] at this; simpa using this⟩, fun p h _ => same p h⟩⟩
end Go.Proofs.YtjidhdakigpoeaaDoor
