/-
  WHAT A ROW's LIST GIVES TO package text: strconv's table and its error.
-/
import Derived.Test.YtaodobjekpacoaaGreatDoorValbM
import Derived.Test.YtaodobjekpacoaaGreatDoorGCame
namespace Go.Proofs.YtaodobjekpacoaaGreatDoor
open Go.RowKit
theorem gErr : Tryz.prog.globalNamed "strconv.ErrRange" = some 5 := by kernel_rfl
theorem gErrType : (Tryz.prog.globals[5]?).map (·.type) = some 88 := by kernel_rfl
theorem gPow : Tryz.prog.globalNamed "internal/strconv.uint64pow10" = some 0 := by kernel_rfl
theorem gPowType : (Tryz.prog.globals[0]?).map (·.type) = some 96 := by kernel_rfl
theorem cells20 : Tryz.prog.cellsOf 96 = 20 := by kernel_rfl
theorem cellsU : Tryz.prog.cellsOf 57 = 1 := by kernel_rfl
theorem errPows_of {W : World} {l : List (String × DataW Unit)} (h : laidMet Tryz.prog l W) {nm : String} {d : DataW Unit}
    (m1 : ("internal/strconv.uint64pow10", Lib.tabData .u64 Lib.pow10Tab) ∈ l) (m2 : ("strconv.ErrRange", .iface nm d) ∈ l) : ErrR W ∧ Pows W := by
  refine ⟨?_, ?_⟩
  · obtain ⟨g, t, cs, fuel, p0, h1, h2, h3, h4⟩ := laid_at h m2
    obtain rfl := Option.some.inj (gErr.symm.trans h1)
    obtain rfl := Option.some.inj (gErrType.symm.trans h2)
    obtain ⟨u, v, hc⟩ := iface_at Tryz.underlying88 h4
    refine ⟨u, v, ?_⟩
    rw [h3]
    obtain ⟨c⟩ := cs
    simp only at hc
    rw [hc]
  · obtain ⟨g, t, cs, fuel, p0, h1, h2, h3, h4⟩ := laid_at h m1
    obtain rfl := Option.some.inj (gPow.symm.trans h1)
    obtain rfl := Option.some.inj (gPowType.symm.trans h2)
    unfold Pows Lib.TabIs
    rw [h3, ← Lib.cells_of_tab Tryz.underlying96 Tryz.underlying57 cellsU cells20 h4]
end Go.Proofs.YtaodobjekpacoaaGreatDoor
