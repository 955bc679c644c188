/-
  A PAIR OF NUMBERS ([2]int): loaded; compared with itself.
-/
import Derived.Test.YthfoagglncimnaaDoorRows
import Derived.Test.YthfoagglncimnaaDoorRws
import Derived.Deep.MidRow
import Derived.ChangeKeysEq
import Derived.Laws.StructEq
import Derived.WalkKit
import Derived.WalkSpells
namespace Go.Proofs.YthfoagglncimnaaDoor
open Go.RowKit
theorem pair_load (w : World) (X : Addr) (a b : Int) (h0 : w.cell? X = some (.int .i64 a)) (h1 : w.cell? ⟨X.block, X.off + 1, none⟩ = some (.int .i64 b)) :
    (Instr.loadAt 34 (.pointer (some X))).run Tryd.prog w = .ok (.agg #[.int .i64 a, .int .i64 b]) w := by
  have hl : (loadCells X 2).run Tryd.prog w = .ok #[.int .i64 a, .int .i64 b] w :=
    run_loadCells_list (P := Tryd.prog) w X [.int .i64 a, .int .i64 b] (fun j v hv => by
      match j, hv with
      | 0, hv => cases hv; have e : X.add 0 = X := by unfold Addr.add; simp
                 rw [e]; exact h0
      | 1, hv => cases hv; have e : X.add 1 = ⟨X.block, X.off + 1, none⟩ := by unfold Addr.add; simp
                 rw [e]; exact h1)
  have hagg : (isAgg 34).run Tryd.prog w = .ok true w := by kernel_rfl
  have hv : (loadVar 34 X).run Tryd.prog w = .ok (.agg #[.int .i64 a, .int .i64 b]) w := by
    simp [loadVar, Sem.run_bind, hagg, hl]
  simp only [Instr.loadAt, Instr.sureAddr, Sem.run_bind, Sem.run_pure, Result.andThen_ok, hv]
theorem pair_ne (a b : Int) (w : World) : (binOp .neq 34 (.agg #[.int .i64 a, .int .i64 b]) (.agg #[.int .i64 a, .int .i64 b])).run Tryd.prog w = .ok (.bool false) w := by
  obtain ⟨i0, hi, _⟩ := info_parts (show (Tryd.prog.info? 3).map (fun i => (i.zero, i.size, i.bytes)) = some (some (.int .i64 0), 1, 8) by kernel_rfl)
  have hp : ∀ (xs : Array Value) (i : Nat) (u : Value) (w : World), xs[i]? = some u → (part 3 xs i).run Tryd.prog w = .ok u w := by
    intro xs i u w h
    have hagg : (isAgg 3).run Tryd.prog w = .ok false w := by kernel_rfl
    simp [part, Sem.run_bind, hagg, h]
  rw [run_neq_struct, run_equalIn_array w 9999 _ _ Tryd.underlying34 hi, show Tryd.prog.cellsOf 3 = 1 by kernel_rfl]
  have e0 := fun (x : Int) (w : World) => run_equalIn_int (P := Tryd.prog) w 9998 3 .i64 .i64 x x Tryd.underlying3
  simp only [List.range_succ, List.range_zero, List.nil_append, List.cons_append, Op.eqItems, Sem.run_bind, Nat.zero_mul, Nat.one_mul]
  rw [hp #[.int .i64 a, .int .i64 b] 0 (.int .i64 a) w rfl]
  simp only [Result.andThen_ok]
  rw [hp #[.int .i64 a, .int .i64 b] 0 (.int .i64 a) w rfl]
  simp only [Result.andThen_ok, e0]
  simp only [beq_self_eq_true, Bool.not_true, Bool.false_eq_true, if_false, Sem.run_bind]
  rw [hp #[.int .i64 a, .int .i64 b] 1 (.int .i64 b) w rfl]
  simp only [Result.andThen_ok]
  rw [hp #[.int .i64 a, .int .i64 b] 1 (.int .i64 b) w rfl]
  simp [Result.andThen_ok, e0]
end Go.Proofs.YthfoagglncimnaaDoor
