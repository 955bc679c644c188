/-
  WHAT A ROW's LIST GIVES TO package value alone: its table of what is wanted.
-/
import Derived.Test.YthfoagglncimnaaDoorVala
import Derived.Test.YthfoagglncimnaaDoorLaidv
namespace Go.Proofs.YthfoagglncimnaaDoor
open Go.RowKit
theorem gWants : Tryd.prog.globalNamed "watersmeet/value.wants" = some 0 := by kernel_rfl
theorem gWantsType : (Tryd.prog.globals[0]?).map (·.type) = some 73 := by kernel_rfl
theorem cells3b : Tryd.prog.cellsOf 72 = 3 := by kernel_rfl
theorem cellsB : Tryd.prog.cellsOf 4 = 1 := by kernel_rfl
/-- the table, as data -/
def wantsData : List (DataW Unit) := (List.range 7).map fun q => .agg ((List.range 3).map fun p => .lit (.bool (Va.want q p)))
theorem want_of {W : World} {l : List (String × DataW Unit)} (h : laidMet Tryd.prog l W) (m3 : ("watersmeet/value.wants", .agg wantsData) ∈ l) : Want W := by
  obtain ⟨g, t, cs, fuel, p0, h1, h2, h3, h4⟩ := laid_at h m3
  obtain rfl := Option.some.inj (gWants.symm.trans h1)
  obtain rfl := Option.some.inj (gWantsType.symm.trans h2)
  intro q p hq hp
  obtain ⟨f1, x1, h5, h6⟩ := arr_at Tryd.underlying73 cells3b h4 q hq
  have e1 : x1.1 = .agg ((List.range 3).map fun p => .lit (.bool (Va.want q p))) := by
    have : wantsData[q]? = some (.agg ((List.range 3).map fun p => .lit (.bool (Va.want q p)))) := by simp [wantsData, hq]
    exact Option.some.inj (h6.symm.trans this)
  obtain ⟨d1, p1⟩ := x1
  simp only at e1
  subst e1
  obtain ⟨f2, x2, h7, h8⟩ := arr_at Tryd.underlying72 cellsB h5 p hp
  obtain ⟨b, hb, rfl⟩ := DataW.trod_bool Tryd.underlying4 h7
  have e2 : b = Va.want q p := by
    have h9 : (List.map (fun p => (DataW.lit (Lit.bool (Va.want q p)) : DataW Unit)) (List.range 3))[p]? = some (.lit (.bool (Va.want q p))) := by simp [hp]
    have := Option.some.inj (h8.symm.trans h9)
    simpa using this
  rw [World.var?_cell h1 h3]
  have h10 := congrArg (·[0]?) hb
  simp only [Nat.mul_one, List.getElem?_take, List.getElem?_drop] at h10
  simp only [Nat.lt_one_iff, if_true, Nat.add_zero, List.getElem?_cons_zero] at h10
  rw [if_pos (by omega)] at h10
  rw [← e2]
  simpa using h10
end Go.Proofs.YthfoagglncimnaaDoor
