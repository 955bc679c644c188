/-
  LAID TOGETHER, BY PROGRAM, of: Terma, Termb.
-/
import Derived.Test.YtpobkpdlohahoaaRows
import Derived.Test.YtpobkpdlohahoaaGPlain
import Derived.Test.YtpobkpdlohahoaaGBase
/-
  THE CONTRACTS OF package term's FUNCTIONS (and the document's): what may be, which tables are named.
-/
namespace Go.Proofs.Ytpobkpdlohahoaa
open Go.RowKit
set_option maxHeartbeats 400000

/-- are two terms the same, as the model compares structs -/
theorem same_cells (k t c : Int) (z : Bool) (n : Int) (k' t' c' : Int) (z' : Bool) (n' : Int) :
    Te.same ⟨k, t, c, z, n⟩ ⟨k', t', c', z', n'⟩ = (k == k' && t == t' && c == c' && z == z' && n == n') := rfl
theorem tsame_any (k t c : Int) (z : Bool) (n : Int) (k' t' c' : Int) (z' : Bool) (n' : Int) (w : World) :
    Calls Try.prog 45 #[.agg #[.int .i64 k, .int .i64 t, .int .i64 c, .bool z, .int .i64 n], .agg #[.int .i64 k', .int .i64 t', .int .i64 c', .bool z', .int .i64 n']] w fun e w' => e = .returned (.bool (Te.same ⟨k, t, c, z, n⟩ ⟨k', t', c', z', n'⟩)) ∧ Below w.heap.size w w' := by
  go_enter Try.func45, Try.ntmps45
  go_wp2_with fail
  all_goals go_ret
  all_goals exact ⟨ret_bool (by simp [Te.same, *]), below_new2 _ _ _⟩
theorem sl_one (w : World) (t : Int) (g : Nat) (hg : w.heap.size = g) : Sl (w.alloc (.cells #[.int .i64 t] 3)) (.slice (some ⟨g, 0, none⟩) 1 1) ([t].map (Value.int .i64)) := by
  subst hg; exact Sl.new w 3 [.int .i64 t]
end Go.Proofs.Ytpobkpdlohahoaa

/-
  THE CONTRACTS OF term.at AND term.Of, AND OF THE DOCUMENT's Of.
-/
namespace Go.Proofs.Ytpobkpdlohahoaa
open Go.RowKit
set_option maxHeartbeats 400000

end Go.Proofs.Ytpobkpdlohahoaa
