/-
  THE SINGLE STEPS OF A REGION THAT DRAWS ITS ORDER (what go_region_held3 does by itself), for a walk by hand; and a cut within such a region.
-/
import Derived.Test.YtpdgbfeciacbdaaDoorRows
import Derived.Deep.RegionHeld3
namespace Go.Proofs.YtpdgbfeciacbdaaDoor
open Go
theorem cut_two {P : Program} {md : Region.Mode} {ops : Array Oper} {Q : Exit → Act → World → Prop} {S : World → Prop} {fuel m : Nat} {listed listed' : Array Bool} {a : Act} {w : World} (Mid : Act → World → Prop)
    (h2 : ∀ a w, Mid a w → wpAnyH P md ops Q S m listed' a w) (h1 : (∀ a w, Mid a w → wpAnyH P md ops Q S m listed' a w) → wpAnyH P md ops Q S fuel listed a w) : wpAnyH P md ops Q S fuel listed a w := h1 h2
theorem take_op {P : Program} {md : Region.Mode} {ops : Array Oper} {Q : Exit → Act → World → Prop} {S : World → Prop} {i d : Nat} {op : Op} {ty : TypeId} {pos : String} {after : Array Edge} {g : Option (Nat × Bool)} {v : Value} {fuel : Nat} {listed : Array Bool} {a : Act} {w : World} (hi : ops[i]? = some ⟨some d, op, ty, pos, after, g⟩)
    (hs : Region.noSelect ops = true) (hf : Region.free md ops listed i = true) (hr : (Region.ready md ops listed).contains i = true)
    (hQ : ∀ c a w, Q (.panic c) (a.put (some d) v) w → Q (.panic c) a w) (hy : YieldsIf P ops S ⟨some d, op, ty, pos, after, g⟩ v a) (hS : S w)
    (h : wpAnyH P md ops Q S fuel (listed.setIfInBounds i true) (a.put (some d) v) w) : wpAnyH P md ops Q S (fuel + 1) listed a w := wpAnyH_take hi hs hf hr hQ hy hS h
theorem ready_op {P : Program} {md : Region.Mode} {ops : Array Oper} {Q : Exit → Act → World → Prop} {S : World → Prop} {i d : Nat} {op : Op} {ty : TypeId} {pos : String} {after : Array Edge} {g : Option (Nat × Bool)} {fuel : Nat} {listed : Array Bool} {a : Act} {w : World} {rs : List Nat} (ho : ops[i]? = some ⟨some d, op, ty, pos, after, g⟩)
    (h : ∀ K' : Act → World → Prop, Shut (∀ a w, S w → (S w → wpAnyH P md ops Q S fuel (listed.setIfInBounds i true) a w) → K' a w) → if Region.wanted ⟨some d, op, ty, pos, after, g⟩ (yielded ops a.tmps) = true then Oper.wp P ⟨some d, op, ty, pos, after, g⟩ a w K' Q else K' (a.put (some d) undef) w)
    (hs : AllReadyH P md ops Q S fuel listed a w rs) : AllReadyH P md ops Q S fuel listed a w (i :: rs) := AllReadyH.cons ho h hs
/-- an operation that leaves nothing (a store) -/
theorem ready_st {P : Program} {md : Region.Mode} {ops : Array Oper} {Q : Exit → Act → World → Prop} {S : World → Prop} {i : Nat} {op : Op} {ty : TypeId} {pos : String} {after : Array Edge} {g : Option (Nat × Bool)} {fuel : Nat} {listed : Array Bool} {a : Act} {w : World} {rs : List Nat} (ho : ops[i]? = some ⟨none, op, ty, pos, after, g⟩)
    (h : ∀ K' : Act → World → Prop, Shut (∀ a w, S w → (S w → wpAnyH P md ops Q S fuel (listed.setIfInBounds i true) a w) → K' a w) → if Region.wanted ⟨none, op, ty, pos, after, g⟩ (yielded ops a.tmps) = true then Oper.wp P ⟨none, op, ty, pos, after, g⟩ a w K' Q else K' (a.put none undef) w)
    (hs : AllReadyH P md ops Q S fuel listed a w rs) : AllReadyH P md ops Q S fuel listed a w (i :: rs) := AllReadyH.cons ho h hs
theorem any_norm {P : Program} {md : Region.Mode} {ops : Array Oper} {Q : Exit → Act → World → Prop} {S : World → Prop} {m m' : Nat} {l l' : Array Bool} {a : Act} {w : World} (h : l = l') (hm : m = m') (k : wpAnyH P md ops Q S m' l' a w) : wpAnyH P md ops Q S m l a w := h ▸ hm ▸ k
end Go.Proofs.YtpdgbfeciacbdaaDoor
