/-
  THE CONTRACTS OF package value's FUNCTIONS: texts.
-/
import Derived.Test.YtghonbnmakggnaaDoorGBase
import Derived.Test.YtghonbnmakggnaaDoorShelf
import Derived.Laws.RangeAny
import Derived.Lib.OthersKept
import Derived.Sort.Grow
namespace Go.Proofs.YtghonbnmakggnaaDoor
open Go.RowKit Go.Sort
set_option maxHeartbeats 400000

theorem size_l (l : List UInt8) : (⟨l.toArray⟩ : ByteArray).size = l.length := rfl
theorem eq_dec (l m : List UInt8) : (l == m) = (true && if true = true then decide (l = m) else false) := by
  rw [if_pos rfl, Bool.true_and, Bool.eq_iff_iff, beq_iff_eq, decide_eq_true_eq]
theorem var_below {P : Program} {w w' : World} {B : Nat} {name : String} {cs : Array Value} (h : w.var? P name = some cs) (hb : Below B w w') (hB : w.heap.size ≤ B) : w'.var? P name = some cs := by
  unfold World.var? at *
  cases hg : P.globalNamed name with
  | none => simp [hg] at h
  | some g =>
    simp only [hg, Option.bind_some] at h ⊢
    have hlt : g < w.heap.size := by
      rcases Nat.lt_or_ge g w.heap.size with h' | h'
      · exact h'
      · rw [Array.getElem?_eq_none h'] at h; simp at h
    rw [hb.block g (Nat.lt_of_lt_of_le hlt hB)]
    exact h
/-- strconv's two variables that are read -/
def ErrR (w : World) : Prop := ∃ tp p, w.var? Tryd.prog "strconv.ErrRange" = some #[.iface tp p]
def Pows (w : World) : Prop := Lib.TabIs Tryd.prog w "internal/strconv.uint64pow10" .u64 Lib.pow10Tab
theorem ErrR.below {w w' : World} {B : Nat} (h : ErrR w) (hb : Below B w w') (hB : w.heap.size ≤ B) : ErrR w' := by
  obtain ⟨tp, p, h⟩ := h
  exact ⟨tp, p, var_below h hb hB⟩
theorem Pows.below {w w' : World} {B : Nat} (h : Pows w) (hb : Below B w w') (hB : w.heap.size ≤ B) : Pows w' := var_below h hb hB

end Go.Proofs.YtghonbnmakggnaaDoor
