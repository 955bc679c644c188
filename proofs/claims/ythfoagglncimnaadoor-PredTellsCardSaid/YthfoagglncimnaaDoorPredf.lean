/-
  THE CONTRACT OF THE DOCUMENT's Right OF LAYER 6: where a predicate's own fields bar it.
-/
import Derived.Test.YthfoagglncimnaaDoorPreda
import Derived.Test.YthfoagglncimnaaDoorTeq
namespace Go.Proofs.YthfoagglncimnaaDoor
open Go.RowKit Go.Sort
set_option maxHeartbeats 6400000

theorem head_no {f : Pf} {dp : Nat} (h : Pr.head f dp = false) : (4 < dp) ∨ (dp ≤ 4 ∧ f.k < 1) ∨ (dp ≤ 4 ∧ 6 < f.k) ∨ (dp ≤ 4 ∧ 1 ≤ f.k ∧ f.k ≤ 6 ∧ (f.k != 1) = false ∧ (f.k != 2) = true ∧ (f.k != 3) = true ∧ (f.o != 0) = true) ∨ (dp ≤ 4 ∧ 1 ≤ f.k ∧ f.k ≤ 6 ∧ (f.k != 1) = false ∧ (f.k != 2) = true ∧ (f.k != 3) = true ∧ (f.o != 0) = false ∧ Te.zero f.b = false) ∨ (dp ≤ 4 ∧ 1 ≤ f.k ∧ f.k ≤ 6 ∧ (f.k != 1) = false ∧ (f.k != 2) = true ∧ (f.k != 3) = true ∧ (f.o != 0) = false ∧ Te.zero f.b = true ∧ Te.zero f.a = false) ∨ (dp ≤ 4 ∧ 1 ≤ f.k ∧ f.k ≤ 6 ∧ (f.k != 1) = true ∧ (f.k != 2) = false ∧ (f.k != 3) = true ∧ (f.u != 0) = true) ∨ (dp ≤ 4 ∧ 1 ≤ f.k ∧ f.k ≤ 6 ∧ (f.k != 1) = true ∧ (f.k != 2) = true ∧ (f.k != 3) = false ∧ (f.u != 0) = true) ∨ (dp ≤ 4 ∧ 1 ≤ f.k ∧ f.k ≤ 6 ∧ (f.k != 1) = true ∧ (f.k != 2) = true ∧ (f.k != 3) = false ∧ (f.u != 0) = false ∧ (f.o != 0) = true) ∨ (dp ≤ 4 ∧ 1 ≤ f.k ∧ f.k ≤ 6 ∧ (f.k != 1) = true ∧ (f.k != 2) = true ∧ (f.k != 3) = false ∧ (f.u != 0) = false ∧ (f.o != 0) = false ∧ Te.zero f.b = false) ∨ (dp ≤ 4 ∧ 1 ≤ f.k ∧ f.k ≤ 6 ∧ (f.k != 1) = true ∧ (f.k != 2) = true ∧ (f.k != 3) = true ∧ (f.u != 0) = true) ∨ (dp ≤ 4 ∧ 1 ≤ f.k ∧ f.k ≤ 6 ∧ (f.k != 1) = true ∧ (f.k != 2) = true ∧ (f.k != 3) = true ∧ (f.u != 0) = false ∧ (f.o != 0) = true) ∨ (dp ≤ 4 ∧ 1 ≤ f.k ∧ f.k ≤ 6 ∧ (f.k != 1) = true ∧ (f.k != 2) = true ∧ (f.k != 3) = true ∧ (f.u != 0) = false ∧ (f.o != 0) = false ∧ Te.zero f.b = false) ∨ (dp ≤ 4 ∧ 1 ≤ f.k ∧ f.k ≤ 6 ∧ (f.k != 1) = true ∧ (f.k != 2) = true ∧ (f.k != 3) = true ∧ (f.u != 0) = false ∧ (f.o != 0) = false ∧ Te.zero f.b = true ∧ Te.zero f.a = false) := by
  by_cases a1 : 4 < dp
  · exact .inl a1
  by_cases a2 : f.k < 1
  · exact .inr (.inl ⟨by omega, a2⟩)
  by_cases a3 : 6 < f.k
  · exact .inr (.inr (.inl ⟨by omega, a3⟩))
  have b1 : dp ≤ 4 := by omega
  have b2 : 1 ≤ f.k := by omega
  have b3 : f.k ≤ 6 := by omega
  have c1 : decide (dp ≤ 4) = true := decide_eq_true b1
  have c2 : decide (1 ≤ f.k) = true := decide_eq_true b2
  have c3 : decide (f.k ≤ 6) = true := decide_eq_true b3
  unfold Pr.head at h
  rw [c1, c2, c3] at h
  simp only [Bool.true_and] at h
  have e : ∀ m : Int, (f.k != m) = !(f.k == m) := fun m => rfl
  have eu : (f.u != 0) = !(f.u == 0) := rfl
  have eo : (f.o != 0) = !(f.o == 0) := rfl
  have x12 : (f.k == 1) = true → (f.k == 2) = false ∧ (f.k == 3) = false := by simp; omega
  have x21 : (f.k == 2) = true → (f.k == 1) = false ∧ (f.k == 3) = false := by simp; omega
  have x31 : (f.k == 3) = true → (f.k == 1) = false ∧ (f.k == 2) = false := by simp; omega
  simp only [e, eu, eo, b1, b2, b3, true_and]
  refine .inr (.inr (.inr ?_))
  generalize (f.k == 1) = p1 at *
  generalize (f.k == 2) = p2 at *
  generalize (f.k == 3) = p3 at *
  generalize (f.u == 0) = u0 at *
  generalize (f.o == 0) = o0 at *
  generalize Te.zero f.a = za at *
  generalize Te.zero f.b = zb at *
  clear e eu eo a1 a2 a3 b1 b2 b3 c1 c2 c3
  cases p1 <;> cases p2 <;> cases p3 <;> cases u0 <;> cases o0 <;> cases za <;> cases zb <;> simp_all
set_option maxRecDepth 100000 in
theorem r6at_bad (f : Pf) (u : Value) (dp : Nat) (w : World) (h : Pr.head f dp = false) (hdp : dp ≤ 1000) :
    Calls Tryd.prog 28 #[.agg #[.int .i64 f.k, .int .i64 f.u, .int .i64 f.o, .int .i64 f.a.k, .int .i64 f.a.t, .int .i64 f.a.c, .bool f.a.z, .int .i64 f.a.n, .int .i64 f.b.k, .int .i64 f.b.t, .int .i64 f.b.c, .bool f.b.z, .int .i64 f.b.n, u], .int .i64 (dp : Int)] w fun e w' => e = .returned (.bool false) ∧ Below w.heap.size w w' := by
  have hd := head_no h
  have qa := fun w => term_ne f.a.k f.a.t f.a.c f.a.z f.a.n 0 0 0 false 0 w
  have qb := fun w => term_ne f.b.k f.b.t f.b.c f.b.z f.b.n 0 0 0 false 0 w
  have ha : Te.same ⟨f.a.k, f.a.t, f.a.c, f.a.z, f.a.n⟩ ⟨0, 0, 0, false, 0⟩ = Te.zero f.a := rfl
  have hb : Te.same ⟨f.b.k, f.b.t, f.b.c, f.b.z, f.b.n⟩ ⟨0, 0, 0, false, 0⟩ = Te.zero f.b := rfl
  rw [ha] at qa
  rw [hb] at qb
  generalize Te.zero f.a = za at *
  generalize Te.zero f.b = zb at *
  clear h ha hb
  rcases hd with h1 | ⟨h1, h2⟩ | ⟨h1, h2⟩ | ⟨h1, h2, h3, e0, e1, e2, e3⟩ | ⟨h1, h2, h3, e0, e1, e2, e3, rfl⟩ | ⟨h1, h2, h3, e0, e1, e2, e3, rfl, rfl⟩ | ⟨h1, h2, h3, e0, e1, e2, e3⟩ | ⟨h1, h2, h3, e0, e1, e2, e3⟩ | ⟨h1, h2, h3, e0, e1, e2, e3, e4⟩ | ⟨h1, h2, h3, e0, e1, e2, e3, e4, rfl⟩ | ⟨h1, h2, h3, e0, e1, e2, e3⟩ | ⟨h1, h2, h3, e0, e1, e2, e3, e4⟩ | ⟨h1, h2, h3, e0, e1, e2, e3, e4, rfl⟩ | ⟨h1, h2, h3, e0, e1, e2, e3, e4, rfl, rfl⟩
  all_goals
    go_enter Tryd.func28, Tryd.ntmps28
    go_wp2_with fail
    go_ret
    exact ⟨rfl, below_new2 _ _ _⟩
end Go.Proofs.YthfoagglncimnaaDoor
