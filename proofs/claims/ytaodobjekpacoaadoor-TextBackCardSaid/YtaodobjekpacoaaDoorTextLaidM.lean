/-
  WHAT A ROW's LIST GIVES TO package text: strconv's table and its error.
-/
import Derived.Test.YtaodobjekpacoaaDoorValbM
import Derived.Test.YtaodobjekpacoaaDoorGCame
namespace Go.Proofs.YtaodobjekpacoaaDoor
open Go.RowKit
theorem gErr : Tryd.prog.globalNamed "strconv.ErrRange" = some 5 := by kernel_rfl
theorem gErrType : (Tryd.prog.globals[5]?).map (·.type) = some 77 := by kernel_rfl
theorem gPow : Tryd.prog.globalNamed "internal/strconv.uint64pow10" = some 0 := by kernel_rfl
theorem gPowType : (Tryd.prog.globals[0]?).map (·.type) = some 102 := by kernel_rfl
theorem cells20 : Tryd.prog.cellsOf 102 = 20 := by kernel_rfl
theorem cellsU : Tryd.prog.cellsOf 89 = 1 := by kernel_rfl
theorem errPows_of {W : World} {l : List (String × DataW Unit)} (h : laidMet Tryd.prog l W) {nm : String} {d : DataW Unit}
    (m1 : ("internal/strconv.uint64pow10", Lib.tabData .u64 Lib.pow10Tab) ∈ l) (m2 : ("strconv.ErrRange", .iface nm d) ∈ l) : ErrR W ∧ Pows W := by
  refine ⟨?_, ?_⟩
  · obtain ⟨g, t, cs, fuel, p0, h1, h2, h3, h4⟩ := laid_at h m2
    obtain rfl := Option.some.inj (gErr.symm.trans h1)
    obtain rfl := Option.some.inj (gErrType.symm.trans h2)
    obtain ⟨u, v, hc⟩ := iface_at Tryd.underlying77 h4
    refine ⟨u, v, ?_⟩
    rw [h3]
    obtain ⟨c⟩ := cs
    simp only at hc
    rw [hc]
  · obtain ⟨g, t, cs, fuel, p0, h1, h2, h3, h4⟩ := laid_at h m1
    obtain rfl := Option.some.inj (gPow.symm.trans h1)
    obtain rfl := Option.some.inj (gPowType.symm.trans h2)
    unfold Pows Lib.TabIs
    rw [h3, ← Lib.cells_of_tab Tryd.underlying102 Tryd.underlying89 cellsU cells20 h4]
end Go.Proofs.YtaodobjekpacoaaDoor
