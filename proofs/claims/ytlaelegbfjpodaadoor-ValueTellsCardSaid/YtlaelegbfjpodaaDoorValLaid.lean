/-
  WHAT THE ROWS' LIST GIVES TO package value: its table of what is wanted, strconv's table and its error.
-/
import Derived.Test.YtlaelegbfjpodaaDoorVald
import Derived.Test.YtlaelegbfjpodaaDoorLaidv
namespace Go.Proofs.YtlaelegbfjpodaaDoor
open Go.RowKit
theorem gWants : Tryd.prog.globalNamed "watersmeet/value.wants" = some 0 := by kernel_rfl
theorem gWantsType : (Tryd.prog.globals[0]?).map (·.type) = some 40 := by kernel_rfl
theorem gErr : Tryd.prog.globalNamed "strconv.ErrRange" = some 2 := by kernel_rfl
theorem gErrType : (Tryd.prog.globals[2]?).map (·.type) = some 45 := by kernel_rfl
theorem gPow : Tryd.prog.globalNamed "internal/strconv.uint64pow10" = some 3 := by kernel_rfl
theorem gPowType : (Tryd.prog.globals[3]?).map (·.type) = some 76 := by kernel_rfl
theorem cells3b : Tryd.prog.cellsOf 39 = 3 := by kernel_rfl
theorem cellsB : Tryd.prog.cellsOf 4 = 1 := by kernel_rfl
theorem cells20 : Tryd.prog.cellsOf 76 = 20 := by kernel_rfl
theorem cellsU : Tryd.prog.cellsOf 48 = 1 := by kernel_rfl
/-- the table, as data -/
def wantsData : List (DataW Unit) := (List.range 7).map fun q => .agg ((List.range 3).map fun p => .lit (.bool (Va.want q p)))

theorem laid_of {W : World} {l : List (String × DataW Unit)} (h : laidMet Tryd.prog l W) {nm : String} {d : DataW Unit}
    (m1 : ("internal/strconv.uint64pow10", Lib.tabData .u64 Lib.pow10Tab) ∈ l) (m2 : ("strconv.ErrRange", .iface nm d) ∈ l) (m3 : ("watersmeet/value.wants", .agg wantsData) ∈ l) : Laid W := by
  refine ⟨?_, ?_, ?_⟩
  · obtain ⟨g, t, cs, fuel, p0, h1, h2, h3, h4⟩ := laid_at h m3
    obtain rfl := Option.some.inj (gWants.symm.trans h1)
    obtain rfl := Option.some.inj (gWantsType.symm.trans h2)
    intro q p hq hp
    obtain ⟨f1, x1, h5, h6⟩ := arr_at Tryd.underlying40 cells3b h4 q hq
    have e1 : x1.1 = .agg ((List.range 3).map fun p => .lit (.bool (Va.want q p))) := by
      have : wantsData[q]? = some (.agg ((List.range 3).map fun p => .lit (.bool (Va.want q p)))) := by simp [wantsData, hq]
      exact Option.some.inj (h6.symm.trans this)
    obtain ⟨d1, p1⟩ := x1
    simp only at e1
    subst e1
    obtain ⟨f2, x2, h7, h8⟩ := arr_at Tryd.underlying39 cellsB h5 p hp
    obtain ⟨b, hb, rfl⟩ := DataW.trod_bool Tryd.underlying4 h7
    have e2 : b = Va.want q p := by
      have h9 : (List.map (fun p => (DataW.lit (Lit.bool (Va.want q p)) : DataW Unit)) (List.range 3))[p]? = some (.lit (.bool (Va.want q p))) := by simp [hp]
      have := Option.some.inj (h8.symm.trans h9)
      simpa using this
    rw [World.var?_cell h1 h3]
    have h10 := congrArg (·[0]?) hb
    simp only [Nat.mul_one, List.getElem?_take, List.getElem?_drop] at h10
    simp only [Nat.lt_one_iff, if_true, Nat.add_zero, List.getElem?_cons_zero] at h10
    rw [if_pos (by omega)] at h10
    rw [← e2]
    simpa using h10
  · obtain ⟨g, t, cs, fuel, p0, h1, h2, h3, h4⟩ := laid_at h m2
    obtain rfl := Option.some.inj (gErr.symm.trans h1)
    obtain rfl := Option.some.inj (gErrType.symm.trans h2)
    obtain ⟨u, v, hc⟩ := iface_at Tryd.underlying45 h4
    refine ⟨u, v, ?_⟩
    rw [h3]
    obtain ⟨c⟩ := cs
    simp only at hc
    rw [hc]
  · obtain ⟨g, t, cs, fuel, p0, h1, h2, h3, h4⟩ := laid_at h m1
    obtain rfl := Option.some.inj (gPow.symm.trans h1)
    obtain rfl := Option.some.inj (gPowType.symm.trans h2)
    unfold Pows Lib.TabIs
    rw [h3, ← Lib.cells_of_tab Tryd.underlying76 Tryd.underlying48 cellsU cells20 h4]
end Go.Proofs.YtlaelegbfjpodaaDoor
