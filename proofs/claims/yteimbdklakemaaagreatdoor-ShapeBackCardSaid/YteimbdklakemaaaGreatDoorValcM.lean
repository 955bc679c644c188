/-
  THE CONTRACTS OF package value's FUNCTIONS, LAST PART: Print; of the document's own: digits.
-/
import Derived.Test.YteimbdklakemaaaGreatDoorValbM
import Derived.Lib.ItoaLen
import Derived.Deep.DeepCutAuto
import Derived.Deep.CutBlock
import Derived.Laws.IdiomStrings
namespace Go.Proofs.YteimbdklakemaaaGreatDoor
open Go.RowKit Go.Sort
set_option maxHeartbeats 400000

theorem below_grown (w : World) (k : Nat) (os : Array Obj) : Below w.heap.size w (grow (w.drewN k) os) :=
  ⟨rfl, rfl, rfl, by simp [grow], fun j hj => by simp [grow, Array.getElem?_append, hj]⟩
theorem app_l (s t : List UInt8) : (⟨s.toArray⟩ : ByteArray) ++ ⟨t.toArray⟩ = ⟨(s ++ t).toArray⟩ := by
  apply ByteArray.ext
  rw [ByteArray.data_append]
  simp
/-- what Print tells -/
def prt (b : Bool) (n : Int) : List UInt8 := if b then Va.nul else Lib.itoa n

theorem print_any (b : Bool) (n : Int) (w : World) (h0 : -9223372036854775808 ≤ n) (h1 : n ≤ 9223372036854775807) (hP : Pows w) :
    Calls Tryz.prog 70 #[.agg #[.bool b, .int .i64 n]] w fun e w' => e = .returned (.string ⟨(prt b n).toArray⟩) ∧ Below w.heap.size w w' := by
  cases b
  · have hP1 : Pows (w.alloc (Obj.cells #[Value.bool false, Value.int IntKind.i64 n] 39)) := hP.below (below_new w _) (Nat.le_refl _)
    have hf := Tryz.strconv_FormatInt_10 n h0 h1 _ hP1
    clear hP hP1 h0 h1
    go_enter Tryz.func70, Tryz.ntmps70
    go_wp2_with fail
    refine hf.mono ?_
    rintro e w1 ⟨rfl, k, os, rfl⟩
    have hb := below_join (below_new w (Obj.cells #[Value.bool false, Value.int IntKind.i64 n] 39)) (below_grown _ k os)
    clear hf
    generalize grow ((w.alloc (Obj.cells #[Value.bool false, Value.int IntKind.i64 n] 39)).drewN k) os = w1 at hb ⊢
    go_wp2
    go_ret
    exact ⟨rfl, hb⟩
  · clear hP h0 h1
    go_enter Tryz.func70, Tryz.ntmps70
    go_wp2
    go_ret
    exact ⟨rfl, below_new _ _⟩
/-- the result's block, written anew -/
theorem store_val {w W0 : World} {t : TypeId} (hW : W0 = w.alloc (Obj.cells #[Value.bool false, Value.int IntKind.i64 0] t)) (x : Int) :
    Below w.heap.size w ((W0.setCell ⟨w.heap.size, 0, none⟩ (.bool false)).setCell ⟨w.heap.size, 1, none⟩ (.int .i64 x)) ∧
    ((W0.setCell ⟨w.heap.size, 0, none⟩ (.bool false)).setCell ⟨w.heap.size, 1, none⟩ (.int .i64 x)).cell? ⟨w.heap.size, 0, none⟩ = some (.bool false) ∧
    ((W0.setCell ⟨w.heap.size, 0, none⟩ (.bool false)).setCell ⟨w.heap.size, 1, none⟩ (.int .i64 x)).cell? ⟨w.heap.size, 1, none⟩ = some (.int .i64 x) := by
  have hL : Lies W0 w.heap.size t [Value.bool false, Value.int IntKind.i64 0] := by rw [hW]; exact Lies.new w _ _
  have hb : Below w.heap.size w W0 := by rw [hW]; exact below_new w _
  have hL2 := (hL.set 0 (.bool false)).set 1 (.int .i64 x)
  exact ⟨(hb.setCell (Nat.le_refl _) _).setCell (Nat.le_refl _) _, hL2.cell (i := 0) rfl, hL2.cell (i := 1) rfl⟩
theorem get_of {s : ByteArray} {i : Nat} {c : UInt8} (h : s.data.toList[i]? = some c) {hi : i < s.size} : s[i]'hi = c := by
  obtain ⟨h1, h2⟩ := List.getElem?_eq_some_iff.1 h
  rw [← h2]; rfl
end Go.Proofs.YteimbdklakemaaaGreatDoor
