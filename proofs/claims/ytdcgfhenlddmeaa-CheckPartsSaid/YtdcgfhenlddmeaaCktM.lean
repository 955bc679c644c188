/-
  A REGION OF TWO CALLS OF tree.Seen, ITS ORDER DRAWN, INSIDE A ROUND.
-/
import Derived.Test.YtdcgfhenlddmeaaCkcM
import Derived.Test.YtdcgfhenlddmeaaTrsM
import Derived.Test.YtdcgfhenlddmeaaTrbM
namespace Go.Proofs.Ytdcgfhenlddmeaa
open Go Go.RowKit
set_option maxHeartbeats 3200000

theorem puts_size (l : List (Nat × Value)) : ∀ t : Array Value, (puts l t).size = t.size := by
  induction l with
  | nil => intro t; rfl
  | cons s r ih => intro t; show (puts r (t.setIfInBounds s.1 s.2)).size = _; rw [ih]; simp
theorem puts_last (l : List (Nat × Value)) (k : Nat) (v : Value) (t : Array Value) (hk : k < t.size) : (puts (l ++ [(k, v)]) t).getD k undef = v := by
  rw [puts_app]
  show ((puts l t).setIfInBounds k v).getD k undef = v
  rw [Array.getD_eq_getD_getElem?, Array.getElem?_setIfInBounds_self_of_lt (by rw [puts_size]; exact hk)]
  rfl
theorem putA {A B : List (Nat × Value)} {p k : Nat} {v : Value} {base : Array Value} (h : A[p]? = some (k, v)) (hB : ∀ s ∈ B, s.1 ≠ k) :
    ({ tmps := puts B (puts (A.take p) base), defers := [] } : Act).put (some k) v = { tmps := puts B (puts (A.take (p + 1)) base), defers := [] } := by
  unfold Act.put
  dsimp only
  rw [puts_comm hB, List.take_add_one, h, puts_app]
  rfl
theorem putB {B : List (Nat × Value)} {q k : Nat} {v : Value} {X : Array Value} (h : B[q]? = some (k, v)) :
    ({ tmps := puts (B.take q) X, defers := [] } : Act).put (some k) v = { tmps := puts (B.take (q + 1)) X, defers := [] } := by
  unfold Act.put
  dsimp only
  rw [List.take_add_one, h, puts_app]
  rfl
theorem take_ne {B : List (Nat × Value)} {k q : Nat} (h : ∀ s ∈ B, s.1 ≠ k) : ∀ s ∈ B.take q, s.1 ≠ k := fun s hs => h s (List.mem_of_mem_take hs)
theorem run_field11 {ρ : Operand → Value} {o : Oper} {x : Operand} {q : Nat} (W : World) (hop : o.op = .fieldAddr 26 x 2) (h : ρ x = .pointer (some ⟨q, 0, none⟩)) : (execOp ρ o).run Try.prog W = .ok (.value (.pointer (some ⟨q, 2, none⟩))) W := by
  simp [execOp, hop, h, go_sem]
theorem run_idx0 {ρ : Operand → Value} {o : Oper} {x : Operand} {b f c : Nat} {sp} (W : World) (hop : o.op = .indexAddr 23 x (.const (.int .i64 0))) (hc : ∀ v, ρ (.const v) = v) (h : ρ x = .slice (some ⟨b, f, sp⟩) 2 c) : (execOp ρ o).run Try.prog W = .ok (.value (.pointer (some ⟨b, f, sp⟩))) W := by
  simp [execOp, hop, h, go_sem, hc]
theorem run_idx1 {ρ : Operand → Value} {o : Oper} {x : Operand} {b f c : Nat} {sp} (W : World) (hop : o.op = .indexAddr 23 x (.const (.int .i64 1))) (hc : ∀ v, ρ (.const v) = v) (h : ρ x = .slice (some ⟨b, f, sp⟩) 2 c) : (execOp ρ o).run Try.prog W = .ok (.value (.pointer (some ⟨b, f + 5, none⟩))) W := by
  simp [execOp, hop, h, go_sem, hc]
theorem run_slice11 {ρ : Operand → Value} {o : Oper} {x : Operand} {X : Addr} {b f c : Nat} {sp} (W : World) (hop : o.op = .load 23 x) (h : ρ x = .pointer (some X)) (hx : W.cell? X = some (.slice (some ⟨b, f, sp⟩) 2 c)) : (execOp ρ o).run Try.prog W = .ok (.value (.slice (some ⟨b, f, sp⟩) 2 c)) W := by
  simp [execOp, hop, h, go_sem, hx]
theorem run_tree11 {ρ : Operand → Value} {o : Oper} {x : Operand} {X : Addr} {a : Tr} {u v : Value} (W : World) (hop : o.op = .load 26 x) (h : ρ x = .pointer (some X)) (hx : TrCell W X a u v) : (execOp ρ o).run Try.prog W = .ok (.value (.agg #[.int .i64 a.k, .int .i64 a.t, u, v, .bool a.h])) W := by
  obtain ⟨h0, h1, h2, h3, h4⟩ := hx
  simp [execOp, hop, h, go_sem, h0, h1, h2, h3, h4]
theorem run_call11 {ρ : Operand → Value} {o : Oper} {x : Operand} {vv : Value} (W : World) (hop : o.op = .call { callee := .value (.func 33), args := #[x], argTypes := #[26] }) (hc : ρ (.func 33) = .func (.func 33) #[] #[]) (h : ρ x = vv) : (execOp ρ o).run Try.prog W = .ok (.enter 33 #[vv]) W := by
  simp [execOp, hop, h, go_sem, hc]
theorem run_assign11 {ρ : Operand → Value} {o : Oper} {x : Operand} {vv : Value} (W : World) (hop : o.op = .assign x) (h : ρ x = vv) : (execOp ρ o).run Try.prog W = .ok (.value vv) W := by
  simp [execOp, hop, h, go_sem]
/-- the slots that the first chain fills, and the second -/
def seenA (q b f c : Nat) (sp : Option Nat) (a : Tr) (u v : Value) : List (Nat × Value) := [(39, .pointer (some ⟨q, 2, none⟩)), (40, .slice (some ⟨b, f, sp⟩) 2 c), (41, .pointer (some ⟨b, f, sp⟩)), (42, .agg #[.int .i64 a.k, .int .i64 a.t, u, v, .bool a.h]), (43, .int .u64 (Tr.seen a : Nat)), (7, .int .u64 (Tr.seen a : Nat))]
def seenB (q b f c : Nat) (sp : Option Nat) (a : Tr) (u v : Value) : List (Nat × Value) := [(44, .pointer (some ⟨q, 2, none⟩)), (45, .slice (some ⟨b, f, sp⟩) 2 c), (46, .pointer (some ⟨b, f + 5, none⟩)), (47, .agg #[.int .i64 a.k, .int .i64 a.t, u, v, .bool a.h]), (48, .int .u64 (Tr.seen a : Nat)), (8, .int .u64 (Tr.seen a : Nat))]
def seenL (p q : Nat) : Array Bool := #[decide (0 < p), decide (1 < p), decide (2 < p), decide (3 < p), decide (4 < p), decide (0 < q), decide (1 < q), decide (2 < q), decide (3 < q), decide (4 < q), decide (5 < p), decide (5 < q)]
def seenIA (p : Nat) : Nat := #[0, 1, 2, 3, 4, 10].getD p 0
def seenIB (p : Nat) : Nat := #[5, 6, 7, 8, 9, 11].getD p 0
theorem notA {q b f c : Nat} {sp : Option Nat} {a : Tr} {u v : Value} {k : Nat} (h : k ≠ 39 ∧ k ≠ 40 ∧ k ≠ 41 ∧ k ≠ 42 ∧ k ≠ 43 ∧ k ≠ 7) : ∀ s ∈ seenA q b f c sp a u v, s.1 ≠ k := by
  intro s hs
  simp only [seenA, List.mem_cons, List.not_mem_nil, or_false] at hs
  rcases hs with rfl | rfl | rfl | rfl | rfl | rfl <;> dsimp only <;> omega
theorem notB {q b f c : Nat} {sp : Option Nat} {a : Tr} {u v : Value} {k : Nat} (h : k ≠ 44 ∧ k ≠ 45 ∧ k ≠ 46 ∧ k ≠ 47 ∧ k ≠ 48 ∧ k ≠ 8) : ∀ s ∈ seenB q b f c sp a u v, s.1 ≠ k := by
  intro s hs
  simp only [seenB, List.mem_cons, List.not_mem_nil, or_false] at hs
  rcases hs with rfl | rfl | rfl | rfl | rfl | rfl <;> dsimp only <;> omega
theorem readA {q b f c : Nat} {sp : Option Nat} {a : Tr} {u v : Value} {Bq : List (Nat × Value)} {base : Array Value} {p k : Nat} {x : Value} (hA : (seenA q b f c sp a u v)[p]? = some (k, x)) (hB : ∀ s ∈ Bq, s.1 ≠ k) (hk : k < base.size) :
    ({ tmps := puts Bq (puts ((seenA q b f c sp a u v).take (p + 1)) base), defers := [] } : Act).eval (.tmp k) = x := by
  show (puts Bq _).getD k undef = x
  rw [puts_get hB, List.take_add_one, hA]
  exact puts_last _ k x base hk
theorem readB {q b f c : Nat} {sp : Option Nat} {a : Tr} {u v : Value} {X : Array Value} {p k : Nat} {x : Value} (hB : (seenB q b f c sp a u v)[p]? = some (k, x)) (hk : k < X.size) :
    ({ tmps := puts ((seenB q b f c sp a u v).take (p + 1)) X, defers := [] } : Act).eval (.tmp k) = x := by
  show (puts _ X).getD k undef = x
  rw [List.take_add_one, hB]
  exact puts_last _ k x X hk
set_option maxRecDepth 100000 in
theorem seen_region {l n id : Nat} {Q : Exit → Act → World → Prop} {ops : Array Oper} {x0 x1 x2 x3 x4 x5 x6 x7 x8 x9 x10 x11 : Oper}
    (h0 : ops[0]? = some x0) (d0 : x0.dst = some 39) (p0 : x0.op = .fieldAddr 26 (.tmp 6) 2) (g0 : x0.guard = none)
    (h1 : ops[1]? = some x1) (d1 : x1.dst = some 40) (p1 : x1.op = .load 23 (.tmp 39)) (g1 : x1.guard = none)
    (h2 : ops[2]? = some x2) (d2 : x2.dst = some 41) (p2 : x2.op = .indexAddr 23 (.tmp 40) (.const (.int .i64 0))) (g2 : x2.guard = none)
    (h3 : ops[3]? = some x3) (d3 : x3.dst = some 42) (p3 : x3.op = .load 26 (.tmp 41)) (g3 : x3.guard = none)
    (h4 : ops[4]? = some x4) (d4 : x4.dst = some 43) (p4 : x4.op = .call { callee := .value (.func 33), args := #[.tmp 42], argTypes := #[26] }) (g4 : x4.guard = none)
    (h5 : ops[5]? = some x5) (d5 : x5.dst = some 44) (p5 : x5.op = .fieldAddr 26 (.tmp 6) 2) (g5 : x5.guard = none)
    (h6 : ops[6]? = some x6) (d6 : x6.dst = some 45) (p6 : x6.op = .load 23 (.tmp 44)) (g6 : x6.guard = none)
    (h7 : ops[7]? = some x7) (d7 : x7.dst = some 46) (p7 : x7.op = .indexAddr 23 (.tmp 45) (.const (.int .i64 1))) (g7 : x7.guard = none)
    (h8 : ops[8]? = some x8) (d8 : x8.dst = some 47) (p8 : x8.op = .load 26 (.tmp 46)) (g8 : x8.guard = none)
    (h9 : ops[9]? = some x9) (d9 : x9.dst = some 48) (p9 : x9.op = .call { callee := .value (.func 33), args := #[.tmp 47], argTypes := #[26] }) (g9 : x9.guard = none)
    (h10 : ops[10]? = some x10) (d10 : x10.dst = some 7) (p10 : x10.op = .assign (.tmp 43)) (g10 : x10.guard = none)
    (h11 : ops[11]? = some x11) (d11 : x11.dst = some 8) (p11 : x11.op = .assign (.tmp 48)) (g11 : x11.guard = none)
    (hsize : ops.size = 2 * 6) (hready : ∀ p, p ≤ 6 → ∀ q, q ≤ 6 → ∀ i ∈ Region.ready .any ops (seenL p q), (p < 6 ∧ i = seenIA p ∧ (seenL p q).setIfInBounds i true = seenL (p + 1) q) ∨ (q < 6 ∧ i = seenIB q ∧ (seenL p q).setIfInBounds i true = seenL p (q + 1)))
    (hend : ∀ p, p ≤ 6 → ∀ q, q ≤ 6 → (Region.ready .any ops (seenL p q) = [] ↔ p = 6 ∧ q = 6))
    (base : Array Value) (qb : Nat) (hb6 : base.getD 6 undef = .pointer (some ⟨qb, 0, none⟩)) (hsz : 49 ≤ base.size) (W9 : World) (ya yb : Tr) (b f c : Nat) (sp : Option Nat) (ua va ub vb : Value)
    (hcell : ∀ W, Below W9.heap.size W9 W → W.cell? ⟨qb, 2, none⟩ = some (.slice (some ⟨b, f, sp⟩) 2 c)) (hX : ∀ W, Below W9.heap.size W9 W → TrCell W ⟨b, f, sp⟩ ya ua va) (hY : ∀ W, Below W9.heap.size W9 W → TrCell W ⟨b, f + 5, none⟩ yb ub vb)
    (hCA : ∀ W, Below W9.heap.size W9 W → Calls Try.prog 33 #[.agg #[.int .i64 ya.k, .int .i64 ya.t, ua, va, .bool ya.h]] W fun e w' => e = .returned (.int .u64 (Tr.seen ya : Nat)) ∧ Below W9.heap.size W9 w')
    (hCB : ∀ W, Below W9.heap.size W9 W → Calls Try.prog 33 #[.agg #[.int .i64 yb.k, .int .i64 yb.t, ub, vb, .bool yb.h]] W fun e w' => e = .returned (.int .u64 (Tr.seen yb : Nat)) ∧ Below W9.heap.size W9 w')
    (hQ : ∀ W, Below W9.heap.size W9 W → Q .normal { tmps := puts (seenB qb b f c sp yb ub vb) (puts (seenA qb b f c sp ya ua va) base), defers := [] } W) :
    (Code.region id ops true).wpIn (Fence.wide.inRound l) n Try.prog Q { tmps := base, defers := [] } W9 := by
  refine wpIn_region_two (by kernel_rfl) 6 seenIA seenIB seenL (fun p q a W => a = { tmps := puts ((seenB qb b f c sp yb ub vb).take q) (puts ((seenA qb b f c sp ya ua va).take p) base), defers := [] } ∧ Below W9.heap.size W9 W) hsize (by rw [hsize]; rfl) hready hend ⟨rfl, (Below.refl _ _).drew⟩ ?_ ?_ ?_
  · rintro p q a W hp hq ⟨rfl, hb⟩ K hK
    rcases (show p = 0 ∨ p = 1 ∨ p = 2 ∨ p = 3 ∨ p = 4 ∨ p = 5 by omega) with rfl | rfl | rfl | rfl | rfl | rfl
    · exact opIn_val h0 g0 (by rw [p0]; intro c h; cases h) (run_field11 W p0 (by show (puts _ _).getD 6 undef = _; rw [puts_get (take_ne (notB (by omega))), puts_get (take_ne (notA (by omega)))]; exact hb6)) (hK _ _ ⟨by rw [d0]; exact putA (p := 0) rfl (take_ne (notB (by omega))), hb⟩)
    · exact opIn_val h1 g1 (by rw [p1]; intro c h; cases h) (run_slice11 W p1 (readA (p := 0) rfl (take_ne (notB (by omega))) (by omega)) (hcell W hb)) (hK _ _ ⟨by rw [d1]; exact putA (p := 1) rfl (take_ne (notB (by omega))), hb⟩)
    · exact opIn_val h2 g2 (by rw [p2]; intro c h; cases h) (run_idx0 W p2 (fun _ => rfl) (readA (p := 1) rfl (take_ne (notB (by omega))) (by omega))) (hK _ _ ⟨by rw [d2]; exact putA (p := 2) rfl (take_ne (notB (by omega))), hb⟩)
    · exact opIn_val h3 g3 (by rw [p3]; intro c h; cases h) (run_tree11 W p3 (readA (p := 2) rfl (take_ne (notB (by omega))) (by omega)) (hX W hb)) (hK _ _ ⟨by rw [d3]; exact putA (p := 3) rfl (take_ne (notB (by omega))), hb⟩)
    · refine opIn_call h4 g4 (by rw [p4]; intro c h; cases h) (run_call11 W p4 rfl (readA (p := 3) rfl (take_ne (notB (by omega))) (by omega))) ((hCA W hb).mono ?_)
      rintro e w' ⟨rfl, hb'⟩
      exact ⟨_, rfl, hK _ _ ⟨by rw [d4]; exact putA (p := 4) rfl (take_ne (notB (by omega))), hb'⟩⟩
    · exact opIn_val h10 g10 (by rw [p10]; intro c h; cases h) (run_assign11 W p10 (readA (p := 4) rfl (take_ne (notB (by omega))) (by omega))) (hK _ _ ⟨by rw [d10]; exact putA (p := 5) rfl (take_ne (notB (by omega))), hb⟩)
  · rintro p q a W hp hq ⟨rfl, hb⟩ K hK
    rcases (show q = 0 ∨ q = 1 ∨ q = 2 ∨ q = 3 ∨ q = 4 ∨ q = 5 by omega) with rfl | rfl | rfl | rfl | rfl | rfl
    · exact opIn_val h5 g5 (by rw [p5]; intro c h; cases h) (run_field11 W p5 (by show (puts _ _).getD 6 undef = _; rw [puts_get (take_ne (notB (by omega))), puts_get (take_ne (notA (by omega)))]; exact hb6)) (hK _ _ ⟨by rw [d5]; exact putB (q := 0) rfl, hb⟩)
    · exact opIn_val h6 g6 (by rw [p6]; intro c h; cases h) (run_slice11 W p6 (readB (p := 0) rfl (by rw [puts_size]; omega)) (hcell W hb)) (hK _ _ ⟨by rw [d6]; exact putB (q := 1) rfl, hb⟩)
    · exact opIn_val h7 g7 (by rw [p7]; intro c h; cases h) (run_idx1 W p7 (fun _ => rfl) (readB (p := 1) rfl (by rw [puts_size]; omega))) (hK _ _ ⟨by rw [d7]; exact putB (q := 2) rfl, hb⟩)
    · exact opIn_val h8 g8 (by rw [p8]; intro c h; cases h) (run_tree11 W p8 (readB (p := 2) rfl (by rw [puts_size]; omega)) (hY W hb)) (hK _ _ ⟨by rw [d8]; exact putB (q := 3) rfl, hb⟩)
    · refine opIn_call h9 g9 (by rw [p9]; intro c h; cases h) (run_call11 W p9 rfl (readB (p := 3) rfl (by rw [puts_size]; omega))) ((hCB W hb).mono ?_)
      rintro e w' ⟨rfl, hb'⟩
      exact ⟨_, rfl, hK _ _ ⟨by rw [d9]; exact putB (q := 4) rfl, hb'⟩⟩
    · exact opIn_val h11 g11 (by rw [p11]; intro c h; cases h) (run_assign11 W p11 (readB (p := 4) rfl (by rw [puts_size]; omega))) (hK _ _ ⟨by rw [d11]; exact putB (q := 5) rfl, hb⟩)
  · rintro a W ⟨rfl, hb⟩
    exact hQ W hb
end Go.Proofs.Ytdcgfhenlddmeaa
