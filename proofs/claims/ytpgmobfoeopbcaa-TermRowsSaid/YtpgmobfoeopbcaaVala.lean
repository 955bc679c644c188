/-
  THE CONTRACTS OF package value's FUNCTIONS: what may be, how two stand, how they compare.
-/
import Derived.Test.YtpgmobfoeopbcaaRows
import Derived.Test.YtpgmobfoeopbcaaVal
import Derived.Test.YtpgmobfoeopbcaaWord
import Derived.BigQuiet
import Derived.Deep.QuietTactic
import Derived.Lib.QuietBelow
namespace Go.Proofs.Ytpgmobfoeopbcaa
open Go.RowKit Go.Sort
set_option maxHeartbeats 400000

theorem below_new (w : World) (o : Obj) : Below w.heap.size w (w.alloc o) := (Below.refl _ _).alloc (Nat.le_refl _) _
theorem below_new2 (w : World) (o o' : Obj) : Below w.heap.size w ((w.alloc o).alloc o') := (below_new w o).alloc (by simp) _
/-- a call that makes memory, in a world that has grown -/
theorem below_low {A B : Nat} {w w' : World} (h : Below B w w') (hA : A ≤ B) : Below A w w' := ⟨h.os, h.tape, h.output, h.size, fun k hk => h.block k (Nat.lt_of_lt_of_le hk hA)⟩
theorem below_join {a b c : World} (h : Below a.heap.size a b) (k : Below b.heap.size b c) : Below a.heap.size a c := h.trans (below_low k h.size)

theorem right_any (b : Bool) (n : Int) (w : World) :
    Calls Try.prog 15 #[.agg #[.bool b, .int .i64 n]] w fun e w' => e = .returned (.bool (Va.right b n)) ∧ Below w.heap.size w w' := by
  go_enter Try.func15, Try.ntmps15
  cases b
  · go_wp2
    go_ret
    exact ⟨ret_bool (by simp [Va.right]), below_new _ _⟩
  · go_wp2
    go_ret
    exact ⟨ret_bool (by simp [Va.right]), below_new _ _⟩
theorem rright_any (b : Bool) (n : Int) (w : World) :
    Calls Try.prog 16 #[.agg #[.bool b, .int .i64 n]] w fun e w' => e = .returned (.bool (Va.right b n)) ∧ Below w.heap.size w w' := by
  go_enter Try.func16, Try.ntmps16
  cases b
  · go_wp2
    go_ret
    exact ⟨ret_bool (by simp [Va.right]), below_new _ _⟩
  · go_wp2
    go_ret
    exact ⟨ret_bool (by simp [Va.right]), below_new _ _⟩
end Go.Proofs.Ytpgmobfoeopbcaa
