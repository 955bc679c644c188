/-
  LAID TOGETHER, BY PROGRAM, of: Valb, Valc.
-/
import Derived.Test.YtpaaibghfhnicaaGreatDoorGBase
import Derived.Test.YtpaaibghfhnicaaGreatDoorShelf
import Derived.Laws.RangeAny
import Derived.Lib.OthersKept
import Derived.Sort.Grow
import Derived.Lib.ItoaLen
import Derived.Deep.DeepCutAuto
import Derived.Deep.CutBlock
import Derived.Laws.IdiomStrings
/-
  THE CONTRACTS OF package value's FUNCTIONS: texts.
-/
namespace Go.Proofs.YtpaaibghfhnicaaGreatDoor
open Go.RowKit Go.Sort
set_option maxHeartbeats 400000

theorem var_below {P : Program} {w w' : World} {B : Nat} {name : String} {cs : Array Value} (h : w.var? P name = some cs) (hb : Below B w w') (hB : w.heap.size ≤ B) : w'.var? P name = some cs := by
  unfold World.var? at *
  cases hg : P.globalNamed name with
  | none => simp [hg] at h
  | some g =>
    simp only [hg, Option.bind_some] at h ⊢
    have hlt : g < w.heap.size := by
      rcases Nat.lt_or_ge g w.heap.size with h' | h'
      · exact h'
      · rw [Array.getElem?_eq_none h'] at h; simp at h
    rw [hb.block g (Nat.lt_of_lt_of_le hlt hB)]
    exact h
def ErrR (w : World) : Prop := ∃ tp p, w.var? Tryz.prog "strconv.ErrRange" = some #[.iface tp p]
def Pows (w : World) : Prop := Lib.TabIs Tryz.prog w "internal/strconv.uint64pow10" .u64 Lib.pow10Tab
theorem ErrR.below {w w' : World} {B : Nat} (h : ErrR w) (hb : Below B w w') (hB : w.heap.size ≤ B) : ErrR w' := by
  obtain ⟨tp, p, h⟩ := h
  exact ⟨tp, p, var_below h hb hB⟩
theorem Pows.below {w w' : World} {B : Nat} (h : Pows w) (hb : Below B w w') (hB : w.heap.size ≤ B) : Pows w' := var_below h hb hB

end Go.Proofs.YtpaaibghfhnicaaGreatDoor

/-
  THE CONTRACTS OF package value's FUNCTIONS, LAST PART: Print; of the document's own: digits.
-/
namespace Go.Proofs.YtpaaibghfhnicaaGreatDoor
open Go.RowKit Go.Sort
set_option maxHeartbeats 400000

theorem below_grown (w : World) (k : Nat) (os : Array Obj) : Below w.heap.size w (grow (w.drewN k) os) :=
  ⟨rfl, rfl, rfl, by simp [grow], fun j hj => by simp [grow, Array.getElem?_append, hj]⟩
def prt (b : Bool) (n : Int) : List UInt8 := if b then Va.nul else Lib.itoa n

theorem print_any (b : Bool) (n : Int) (w : World) (h0 : -9223372036854775808 ≤ n) (h1 : n ≤ 9223372036854775807) (hP : Pows w) :
    Calls Tryz.prog 104 #[.agg #[.bool b, .int .i64 n]] w fun e w' => e = .returned (.string ⟨(prt b n).toArray⟩) ∧ Below w.heap.size w w' := by
  cases b
  · have hP1 : Pows (w.alloc (Obj.cells #[Value.bool false, Value.int IntKind.i64 n] 60)) := hP.below (below_new w _) (Nat.le_refl _)
    have hf := Tryz.strconv_FormatInt_10 n h0 h1 _ hP1
    clear hP hP1 h0 h1
    go_enter Tryz.func104, Tryz.ntmps104
    go_wp2_with fail
    refine hf.mono ?_
    rintro e w1 ⟨rfl, k, os, rfl⟩
    have hb := below_join (below_new w (Obj.cells #[Value.bool false, Value.int IntKind.i64 n] 60)) (below_grown _ k os)
    clear hf
    generalize grow ((w.alloc (Obj.cells #[Value.bool false, Value.int IntKind.i64 n] 60)).drewN k) os = w1 at hb ⊢
    go_wp2
    go_ret
    exact ⟨rfl, hb⟩
  · clear hP h0 h1
    go_enter Tryz.func104, Tryz.ntmps104
    go_wp2
    go_ret
    exact ⟨rfl, below_new _ _⟩
end Go.Proofs.YtpaaibghfhnicaaGreatDoor
