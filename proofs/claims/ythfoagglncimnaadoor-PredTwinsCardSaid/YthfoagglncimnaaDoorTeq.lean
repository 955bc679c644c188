/-
  '==' AND '!=' OF TWO TERMS, in one piece.
-/
import Derived.Test.YthfoagglncimnaaDoorRows
import Derived.Test.YthfoagglncimnaaDoorTrm
import Derived.WalkKit
import Derived.WalkSpells
namespace Go.Proofs.YthfoagglncimnaaDoor
open Go.RowKit
section
variable (k t c : Int) (z : Bool) (n : Int) (k' t' c' : Int) (z' : Bool) (n' : Int) (w : World)
theorem term_eq :
    (binOp .eql 25 (.agg #[.int .i64 k, .int .i64 t, .int .i64 c, .bool z, .int .i64 n]) (.agg #[.int .i64 k', .int .i64 t', .int .i64 c', .bool z', .int .i64 n'])).run Tryd.prog w = .ok (.bool (Te.same ⟨k, t, c, z, n⟩ ⟨k', t', c', z', n'⟩)) w := by
  go_simp
  by_cases e1 : k = k' <;> by_cases e2 : t = t' <;> by_cases e3 : c = c' <;> by_cases e4 : z = z' <;> by_cases e5 : n = n' <;> simp [Te.same, e1, e2, e3, e4, e5]
theorem term_ne :
    (binOp .neq 25 (.agg #[.int .i64 k, .int .i64 t, .int .i64 c, .bool z, .int .i64 n]) (.agg #[.int .i64 k', .int .i64 t', .int .i64 c', .bool z', .int .i64 n'])).run Tryd.prog w = .ok (.bool (!Te.same ⟨k, t, c, z, n⟩ ⟨k', t', c', z', n'⟩)) w := by
  go_simp
  by_cases e1 : k = k' <;> by_cases e2 : t = t' <;> by_cases e3 : c = c' <;> by_cases e4 : z = z' <;> by_cases e5 : n = n' <;> simp [Te.same, e1, e2, e3, e4, e5]
end
end Go.Proofs.YthfoagglncimnaaDoor
