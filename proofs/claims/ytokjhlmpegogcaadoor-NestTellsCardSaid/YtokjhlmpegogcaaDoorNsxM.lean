/-
  WORDS FOR A REGION THAT DRAWS ITS ORDER INSIDE A ROUND: its frame, what its operations read and yield; marks of tours; a loop of a known number of rounds.
-/
import Derived.Test.YtokjhlmpegogcaaDoorNsrM
import Derived.Test.YtokjhlmpegogcaaDoorMtaM
import Derived.Test.YtokjhlmpegogcaaDoorMtbM
import Derived.LoopNIn
import Derived.RangeFuncLeaves
namespace Go.Proofs.YtokjhlmpegogcaaDoor
open Go.RowKit Go.Shelf
attribute [local go_sem] Oper.semAt_some

section
variable {vs : List (Nat × Nat × Value)} {L : Nat → Bool} {i s : Nat} {v : Value} {base : Array Value}
theorem fr_put14 {o : Oper} (hd : vs.Pairwise fun x y => x.1 ≠ y.1 ∧ x.2.1 ≠ y.2.1) (hdst : o.dst = some s) (hx : (i, s, v) ∈ vs) (hL : L i = false) :
    ({ tmps := gFr L vs base, defers := [] } : Act).put o.dst v = { tmps := gFr (fun j => L j || decide (i = j)) vs base, defers := [] } := by
  rw [hdst]
  unfold Act.put
  dsimp only
  rw [gFr_put hd hx hL]
theorem fr_eval14 (hd : vs.Pairwise fun x y => x.1 ≠ y.1 ∧ x.2.1 ≠ y.2.1) (hx : (i, s, v) ∈ vs) (hL : L i = true) (hs : s < base.size) : ({ tmps := gFr L vs base, defers := [] } : Act).eval (.tmp s) = v := gFr_get hd hx hL base hs
theorem fr_base14 (hn : ∀ x ∈ vs, x.2.1 ≠ s) (h : base.getD s undef = v) : ({ tmps := gFr L vs base, defers := [] } : Act).eval (.tmp s) = v := (gFr_out hn base).trans h
theorem dep14 {o : Oper} (h : ∀ e ∈ o.after, Region.binds .any e = true → L e.on = true) (j : Nat) (hj : (o.after.any fun e => e.on == j && Region.binds .any e) = true) : L j = true := by
  obtain ⟨k, hk, he⟩ := Array.any_iff_exists.1 hj
  obtain ⟨he1, he2⟩ := Bool.and_eq_true_iff.1 he.2.2
  have := h _ (Array.getElem_mem hk) he2
  rwa [show o.after[k].on = j by simpa using he1] at this
end
theorem wanted_none14 {o : Oper} {y : Nat → Option Bool} (h : o.guard = none) : Region.wanted o y = true := by unfold Region.wanted; rw [h]
theorem wanted_some14 {ops : Array Oper} {o oj : Oper} {a : Act} {j s : Nat} {b : Bool} (h : o.guard = some (j, b)) (hj : ops[j]? = some oj) (hs : oj.dst = some s) (hv : a.eval (.tmp s) = .bool b) : Region.wanted o (yielded ops a.tmps) = true := by
  have h1 : a.tmps[s]? = some (.bool b) := by
    change a.tmps.getD s undef = _ at hv
    rw [Array.getD_eq_getD_getElem?] at hv
    cases hq : a.tmps[s]? with
    | none => rw [hq] at hv; cases hv
    | some y => rw [hq] at hv; exact congrArg some hv
  unfold Region.wanted
  rw [h]
  simp [yielded, hj, hs, h1]
def depsB14 (ops : Array Oper) : Bool := (List.range ops.size).all fun i => match ops[i]? with | none => true | some o => o.after.all fun e => decide (e.on < i)
theorem depsB14_spec {ops : Array Oper} (h : depsB14 ops = true) (i : Nat) (o : Oper) (ho : ops[i]? = some o) : ∀ e ∈ o.after, e.on < i := by
  intro e he
  have h1 := List.all_eq_true.1 h i (List.mem_range.2 (Array.getElem?_eq_some_iff.1 ho).1)
  rw [ho] at h1
  obtain ⟨k, hk, rfl⟩ := Array.mem_iff_getElem.1 he
  exact of_decide_eq_true (Array.all_iff_forall.1 h1 k hk ⟨Nat.zero_le _, hk⟩)
section
variable {ρ : Operand → Value} {o : Oper} {x y : Operand} {W : World}
theorem run14_int {X : Addr} {k : Int} (hop : o.op = .load 3 x) (h : ρ x = .pointer (some X)) (hx : W.cell? X = some (.int .i64 k)) : (execOp ρ o).run Tryd.prog W = .ok (.value (.int .i64 k)) W := by
  simp [execOp, hop, h, go_sem, hx]
theorem run14_pds {X : Addr} {A : Option Addr} {n c : Nat} (hop : o.op = .load 22 x) (h : ρ x = .pointer (some X)) (hx : W.cell? X = some (.slice A n c)) : (execOp ρ o).run Tryd.prog W = .ok (.value (.slice A n c)) W := by
  simp [execOp, hop, h, go_sem, hx]
theorem run14_tus {X : Addr} {A : Option Addr} {n c : Nat} (hop : o.op = .load 23 x) (h : ρ x = .pointer (some X)) (hx : W.cell? X = some (.slice A n c)) : (execOp ρ o).run Tryd.prog W = .ok (.value (.slice A n c)) W := by
  simp [execOp, hop, h, go_sem, hx]
theorem run14_rws {X : Addr} {A : Option Addr} {n c : Nat} (hop : o.op = .load 32 x) (h : ρ x = .pointer (some X)) (hx : W.cell? X = some (.slice A n c)) : (execOp ρ o).run Tryd.prog W = .ok (.value (.slice A n c)) W := by
  simp [execOp, hop, h, go_sem, hx]
theorem run14_len {A : Option Addr} {n c : Nat} (hop : o.op = .call { callee := .builtin .len, args := #[x], argTypes := #[23] }) (h : ρ x = .slice A n c) : (execOp ρ o).run Tryd.prog W = .ok (.value (.int .i64 n)) W := by
  simp [execOp, hop, h, go_sem]
theorem run14_geq {a b : Int} (hop : o.op = .binOp .geq 3 x y 3) (h : ρ x = .int .i64 a) (h2 : ρ y = .int .i64 b) (hab : ¬ b ≤ a) : (execOp ρ o).run Tryd.prog W = .ok (.value (.bool false)) W := by
  simp [execOp, hop, h, h2, go_sem, hab]
theorem run14_move {v : Value} (hop : o.op = .move x) (h : ρ x = v) : (execOp ρ o).run Tryd.prog W = .ok (.value v) W := by
  simp [execOp, hop, h, go_sem]
theorem run14_idx {b : Addr} {n c m : Nat} (hop : o.op = .indexAddr 23 x y) (h : ρ x = .slice (some b) n c) (h2 : ρ y = .int .i64 (m : Int)) (hm : m < n) : (execOp ρ o).run Tryd.prog W = .ok (.value (.pointer (some (b.add m)))) W := by
  have i1 : (0 : Int) ≤ (m : Int) := by omega
  have i2 : (m : Int) < (n : Int) := by omega
  simp [execOp, hop, h, h2, go_sem, i1, i2]
theorem run14_not {b : Bool} (hop : o.op = .unOp .not 4 x) (h : ρ x = .bool b) : (execOp ρ o).run Tryd.prog W = .ok (.value (.bool !b)) W := by
  simp [execOp, hop, h, go_sem]
theorem run14_pick {v : Value} {z : Operand} (hop : o.op = .pick x z y) (h : ρ x = .bool false) (h2 : ρ y = v) : (execOp ρ o).run Tryd.prog W = .ok (.value v) W := by
  simp [execOp, hop, h, h2, go_sem]
theorem run14_ext {x1 x2 x3 x4 : Operand} {v1 v2 v3 v4 : Value} (hop : o.op = .call { callee := .value (.func 11), args := #[x1, x2, x3, x4], argTypes := #[3, 22, 32, 23] }) (hc : ρ (.func 11) = .func (.func 11) #[] #[]) (h1 : ρ x1 = v1) (h2 : ρ x2 = v2) (h3 : ρ x3 = v3) (h4 : ρ x4 = v4) : (execOp ρ o).run Tryd.prog W = .ok (.enter 11 #[v1, v2, v3, v4]) W := by
  simp [execOp, hop, h1, h2, h3, h4, go_sem, hc]
theorem run14_lst {x1 x2 : Operand} {v1 v2 : Value} (hop : o.op = .call { callee := .value (.func 7), args := #[x1, x2], argTypes := #[23, 23] }) (hc : ρ (.func 7) = .func (.func 7) #[] #[]) (h1 : ρ x1 = v1) (h2 : ρ x2 = v2) : (execOp ρ o).run Tryd.prog W = .ok (.enter 7 #[v1, v2]) W := by
  simp [execOp, hop, h1, h2, go_sem, hc]
end
end Go.Proofs.YtokjhlmpegogcaaDoor
