/-
  A REGION THAT DRAWS ITS ORDER, shown operation by operation, its invariant over the set of operations that are done; ExecTells' last region where there is an error: what the guard bars is not done.
-/
import Derived.Test.YtpaaibghfhnicaaGreatDoorGCkB
import Derived.Test.YtpaaibghfhnicaaGreatDoorGMtB
namespace Go.Proofs.YtpaaibghfhnicaaGreatDoor
open Go Go.RowKit
set_option maxHeartbeats 3200000

def hFr (L : Nat → Bool) (vs : List (Nat × Nat × Value)) (t : Array Value) : Array Value := puts ((vs.filter fun x => L x.1).map (·.2)) t
theorem hFr_put {vs : List (Nat × Nat × Value)} {L : Nat → Bool} {i s : Nat} {v : Value} (hd : vs.Pairwise fun x y => x.1 ≠ y.1 ∧ x.2.1 ≠ y.2.1) (hx : (i, s, v) ∈ vs) (hL : L i = false) :
    ∀ t, (hFr L vs t).setIfInBounds s v = hFr (fun j => L j || decide (i = j)) vs t := by
  induction vs with
  | nil => simp at hx
  | cons y r ih =>
    intro t
    obtain ⟨hy, hr⟩ := List.pairwise_cons.1 hd
    rcases List.mem_cons.1 hx with rfl | hx
    · have e1 : (fun j => L j || decide (i = j)) i = true := by simp
      have e2 : r.filter (fun x => (fun j => L j || decide (i = j)) x.1) = r.filter fun x => L x.1 := List.filter_congr fun z hz => by
        have := (hy z hz).1
        simp only [decide_eq_false this, Bool.or_false]
      unfold hFr
      rw [List.filter_cons, List.filter_cons, if_neg (by simp [hL]), if_pos e1, e2]
      show (puts _ t).setIfInBounds s v = puts (List.map _ _) (t.setIfInBounds s v)
      rw [puts_comm]
      intro z hz
      obtain ⟨z', hz', rfl⟩ := List.mem_map.1 hz
      exact fun e => (hy z' ((List.mem_filter.1 hz').1)).2 e.symm
    · have hne := (hy _ hx).1
      have e1 : (fun j => L j || decide (i = j)) y.1 = L y.1 := by
        have : ¬ i = y.1 := fun e => hne e.symm
        simp only [decide_eq_false this, Bool.or_false]
      unfold hFr
      rw [List.filter_cons, List.filter_cons]
      simp only [e1]
      cases L y.1
      · simp only [Bool.false_eq_true, if_false]
        exact ih hr hx t
      · simp only [if_true, List.map_cons]
        exact ih hr hx (t.setIfInBounds y.2.1 y.2.2)
theorem hFr_get {vs : List (Nat × Nat × Value)} {L : Nat → Bool} {i s : Nat} {v : Value} (hd : vs.Pairwise fun x y => x.1 ≠ y.1 ∧ x.2.1 ≠ y.2.1) (hx : (i, s, v) ∈ vs) (hL : L i = true) :
    ∀ t : Array Value, s < t.size → (hFr L vs t).getD s undef = v := by
  induction vs with
  | nil => simp at hx
  | cons y r ih =>
    intro t ht
    obtain ⟨hy, hr⟩ := List.pairwise_cons.1 hd
    rcases List.mem_cons.1 hx with rfl | hx
    · unfold hFr
      rw [List.filter_cons]
      simp only [hL, if_true, List.map_cons]
      show (puts _ (t.setIfInBounds s v)).getD s undef = v
      rw [puts_get]
      · rw [Array.getD_eq_getD_getElem?, Array.getElem?_setIfInBounds_self_of_lt ht]; rfl
      · intro z hz
        obtain ⟨z', hz', rfl⟩ := List.mem_map.1 hz
        exact fun e => (hy z' ((List.mem_filter.1 hz').1)).2 e.symm
    · unfold hFr
      rw [List.filter_cons]
      cases L y.1
      · simp only [Bool.false_eq_true, if_false]
        exact ih hr hx t ht
      · simp only [if_true, List.map_cons]
        exact ih hr hx (t.setIfInBounds y.2.1 y.2.2) (by simpa using ht)
theorem hFr_out {vs : List (Nat × Nat × Value)} {L : Nat → Bool} {s : Nat} (hn : ∀ x ∈ vs, x.2.1 ≠ s) (t : Array Value) : (hFr L vs t).getD s undef = t.getD s undef := by
  unfold hFr
  refine puts_get fun z hz => ?_
  obtain ⟨z', hz', rfl⟩ := List.mem_map.1 hz
  exact hn z' ((List.mem_filter.1 hz').1)
/-- what is not listed may be any value -/
theorem wp_region_set {P : Program} {id : Nat} {ops : Array Oper} {Q : Exit → Act → World → Prop} {a : Act} {w : World} (hmo : P.follows .mixedOrders = true) (I : (Nat → Bool) → Act → World → Prop)
    (hdep : ∀ (i : Nat) (o : Oper), ops[i]? = some o → ∀ e ∈ o.after, e.on < i) (h0 : I (fun _ => false) a w.drew)
    (hstep : ∀ (L : Nat → Bool) (i : Nat) (o : Oper) (a : Act) (w : World), ops[i]? = some o → L i = false → (∀ e ∈ o.after, Region.binds .any e = true → L e.on = true) → I L a w → ∀ K : Act → World → Prop, (∀ a' w', I (fun j => L j || decide (i = j)) a' w' → K a' w') → wpOp P ops Q i K a w)
    (hQ : ∀ (L : Nat → Bool) (a : Act) (w : World), (∀ i, i < ops.size → L i = true) → I L a w → Q .normal a w) : (Code.region id ops true).wp P Q a w := by
  have hall : ∀ A : Array Bool, A.size = ops.size → Region.ready .any ops A = [] → ∀ i, i < ops.size → A.getD i false = true := by
    intro A hA hr i
    induction i using Nat.strongRecOn with
    | ind i ih =>
      intro hi
      cases hf : A.getD i false with
      | true => rfl
      | false =>
        exfalso
        have hmem : i ∈ Region.ready .any ops A := mem_ready.2 ⟨by
          rw [Array.getD_eq_getD_getElem?] at hf ⊢
          rw [Array.getElem?_eq_getElem (by omega)] at hf ⊢
          exact hf, _, Array.getElem?_eq_getElem hi, fun e he _ => by
          have h1 := hdep i _ (Array.getElem?_eq_getElem hi) e he
          exact ih e.on h1 (by omega)⟩
        rw [hr] at hmem
        cases hmem
  have key : ∀ (fuel : Nat) (A : Array Bool) (a : Act) (w : World), A.size = ops.size → A.toList.countP (fun b => !b) ≤ fuel → I (fun i => A.getD i false) a w → wpAny P .any ops Q fuel A a w := by
    intro fuel
    induction fuel with
    | zero =>
      intro A a w hs hc h
      have hr : Region.ready .any ops A = [] := by
        cases hr : Region.ready .any ops A with
        | nil => rfl
        | cons i r =>
          exfalso
          obtain ⟨h1, o, ho, _⟩ := mem_ready.1 (show i ∈ Region.ready .any ops A by rw [hr]; exact List.mem_cons_self)
          have hi : i < A.size := by rw [hs]; exact (Array.getElem?_eq_some_iff.1 ho).1
          have h2 : A[i] = false := by
            rw [Array.getD_eq_getD_getElem?, Array.getElem?_eq_getElem hi] at h1
            exact h1
          have h3 : 0 < A.toList.countP (fun b => !b) := List.countP_pos_iff.2 ⟨A[i], by simp, by simp [h2]⟩
          omega
      exact ⟨hr, hQ _ _ _ (hall A hs hr) h⟩
    | succ fuel ih =>
      intro A a w hs hc h
      refine ⟨fun hr => hQ _ _ _ (hall A hs hr) h, fun i hi => ?_⟩
      obtain ⟨h1, o, ho, h2⟩ := mem_ready.1 hi
      have hlt : i < A.size := by rw [hs]; exact (Array.getElem?_eq_some_iff.1 ho).1
      have hf : A[i] = false := by
        rw [Array.getD_eq_getD_getElem?, Array.getElem?_eq_getElem hlt] at h1
        exact h1
      refine hstep _ i o a w ho (by show A.getD i false = false; rw [Array.getD_eq_getD_getElem?, Array.getElem?_eq_getElem hlt]; exact hf) h2 h _ fun a' w' h' => ?_
      refine ih _ _ _ (by simpa using hs) ?_ ?_
      · have h3 : 0 < A.toList.countP (fun b => !b) := List.countP_pos_iff.2 ⟨A[i], by simp, by simp [hf]⟩
        have h4 := List.countP_set (p := fun b : Bool => !b) (l := A.toList) (i := i) (a := true) (by simpa using hlt)
        have h5 : (A.setIfInBounds i true).toList = A.toList.set i true := by simp
        rw [h5, h4, if_pos (by simpa using hf), if_neg (by simp)]
        omega
      · have e : (fun j => (A.setIfInBounds i true).getD j false) = fun j => A.getD j false || decide (i = j) := by
          funext j
          rw [Array.getD_eq_getD_getElem?, Array.getD_eq_getD_getElem?, Array.getElem?_setIfInBounds]
          by_cases hij : i = j
          · subst hij; simp [hlt]
          · simp [hij]
        rw [e]
        exact h'
  refine wp_region_any hmo (key _ _ _ _ (by simp) ?_ ?_)
  · have := List.countP_le_length (p := fun b : Bool => !b) (l := (Array.replicate ops.size false).toList)
    simpa using this
  · have e : (fun i => (Array.replicate ops.size false).getD i false) = fun _ => false := by
      funext i
      rw [Array.getD_eq_getD_getElem?, Array.getElem?_replicate]
      split <;> rfl
    rw [e]
    exact h0
section
variable {P : Program} {ops : Array Oper} {Q : Exit → Act → World → Prop} {i : Nat} {o : Oper} {a : Act} {w : World} {K : Act → World → Prop}
theorem op_val16 {w' : World} {v : Value} (ho : ops[i]? = some o) (hw : Region.wanted o (yielded ops a.tmps) = true) (hrun : (execOp a.eval o).run P w = .ok (.value v) w') (hK : K (a.put o.dst v) w') : wpOp P ops Q i K a w := by
  unfold wpOp
  rw [ho]
  simp only [hw, if_true]
  refine .inl ?_
  unfold Oper.wp
  rw [hrun]
  exact hK
theorem op_call16 {f : FuncId} {args : Array Value} (ho : ops[i]? = some o) (hw : Region.wanted o (yielded ops a.tmps) = true) (hrun : (execOp a.eval o).run P w = .ok (.enter f args) w) (hc : Calls P f args w fun e w' => ∃ v, e = .returned v ∧ K (a.put o.dst v) w') : wpOp P ops Q i K a w := by
  unfold wpOp
  rw [ho]
  simp only [hw, if_true]
  refine .inl ?_
  unfold Oper.wp
  rw [hrun]
  refine hc.mono ?_
  rintro e w' ⟨v, rfl, h⟩
  exact h
theorem op_none16 (ho : ops[i]? = some o) (hw : Region.wanted o (yielded ops a.tmps) = false) (hK : K (a.put o.dst undef) w) : wpOp P ops Q i K a w := by
  unfold wpOp
  rw [ho]
  simp only [hw]
  exact hK
end
theorem wanted_none16 {o : Oper} {y : Nat → Option Bool} (h : o.guard = none) : Region.wanted o y = true := by unfold Region.wanted; rw [h]
theorem wanted_is16 {ops : Array Oper} {o oj : Oper} {a : Act} {j s : Nat} {b c : Bool} (h : o.guard = some (j, b)) (hj : ops[j]? = some oj) (hs : oj.dst = some s) (hv : a.eval (.tmp s) = .bool c) : Region.wanted o (yielded ops a.tmps) = (c == b) := by
  have h1 : a.tmps[s]? = some (.bool c) := by
    change a.tmps.getD s undef = _ at hv
    rw [Array.getD_eq_getD_getElem?] at hv
    cases hq : a.tmps[s]? with
    | none => rw [hq] at hv; cases hv
    | some y => rw [hq] at hv; exact congrArg some hv
  unfold Region.wanted
  rw [h]
  simp [yielded, hj, hs, h1]
section
variable {vs : List (Nat × Nat × Value)} {L : Nat → Bool} {i s : Nat} {v : Value} {base : Array Value}
theorem fr_put16 {o : Oper} (hd : vs.Pairwise fun x y => x.1 ≠ y.1 ∧ x.2.1 ≠ y.2.1) (hdst : o.dst = some s) (hx : (i, s, v) ∈ vs) (hL : L i = false) :
    ({ tmps := hFr L vs base, defers := [] } : Act).put o.dst v = { tmps := hFr (fun j => L j || decide (i = j)) vs base, defers := [] } := by
  rw [hdst]
  unfold Act.put
  dsimp only
  rw [hFr_put hd hx hL]
theorem fr_eval16 (hd : vs.Pairwise fun x y => x.1 ≠ y.1 ∧ x.2.1 ≠ y.2.1) (hx : (i, s, v) ∈ vs) (hL : L i = true) (hs : s < base.size) : ({ tmps := hFr L vs base, defers := [] } : Act).eval (.tmp s) = v := hFr_get hd hx hL base hs
theorem fr_base16 (hn : ∀ x ∈ vs, x.2.1 ≠ s) (h : base.getD s undef = v) : ({ tmps := hFr L vs base, defers := [] } : Act).eval (.tmp s) = v := (hFr_out hn base).trans h
theorem dep16 {o : Oper} (h : ∀ e ∈ o.after, Region.binds .any e = true → L e.on = true) (j : Nat) (hj : (o.after.any fun e => e.on == j && Region.binds .any e) = true) : L j = true := by
  obtain ⟨k, hk, he⟩ := Array.any_iff_exists.1 hj
  obtain ⟨he1, he2⟩ := Bool.and_eq_true_iff.1 he.2.2
  have := h _ (Array.getElem_mem hk) he2
  rwa [show o.after[k].on = j by simpa using he1] at this
end
def depsB16 (ops : Array Oper) : Bool := (List.range ops.size).all fun i => match ops[i]? with | none => true | some o => o.after.all fun e => decide (e.on < i)
theorem depsB16_spec {ops : Array Oper} (h : depsB16 ops = true) (i : Nat) (o : Oper) (ho : ops[i]? = some o) : ∀ e ∈ o.after, e.on < i := by
  intro e he
  have h1 := List.all_eq_true.1 h i (List.mem_range.2 (Array.getElem?_eq_some_iff.1 ho).1)
  rw [ho] at h1
  obtain ⟨k, hk, rfl⟩ := Array.mem_iff_getElem.1 he
  exact of_decide_eq_true (Array.all_iff_forall.1 h1 k hk ⟨Nat.zero_le _, hk⟩)
/-- (operation, slot, value) -/
def endVs (z : Int) : List (Nat × Nat × Value) := [(0, 51, .int .i64 z), (1, 52, .bool true), (2, 53, .bool true), (3, 54, undef), (4, 55, undef), (5, 56, undef), (6, 57, undef), (7, 58, undef), (8, 59, undef), (9, 60, undef), (10, 61, undef), (11, 62, undef), (12, 63, .bool true), (13, 64, .bool true), (14, 65, .bool true), (15, 66, .bool true), (16, 4, .bool true)]
theorem endVs_apart (z : Int) : (endVs z).Pairwise fun x y => x.1 ≠ y.1 ∧ x.2.1 ≠ y.2.1 := by
  unfold endVs
  simp
theorem endVs_out (z : Int) : ∀ x ∈ endVs z, x.2.1 ≠ 6 := by
  intro x hx
  simp only [endVs, List.mem_cons, List.not_mem_nil, or_false] at hx
  rcases hx with rfl | rfl | rfl | rfl | rfl | rfl | rfl | rfl | rfl | rfl | rfl | rfl | rfl | rfl | rfl | rfl | rfl <;> dsimp only <;> omega
/-- operations 3 to 11 are barred by the second -/
def midB16 (ops : Array Oper) : Bool := (List.range 17).all fun i => (decide (i < 3) || decide (11 < i)) || match ops[i]? with | none => false | some o => decide (o.dst = some (51 + i)) && (decide (o.guard = some (2, false)) && (o.after.any fun e => e.on == 2 && Region.binds .any e))
theorem midB16_spec {ops : Array Oper} (h : midB16 ops = true) (i : Nat) (o : Oper) (h1 : 3 ≤ i) (h2 : i ≤ 11) (ho : ops[i]? = some o) : o.dst = some (51 + i) ∧ o.guard = some (2, false) ∧ (o.after.any fun e => e.on == 2 && Region.binds .any e) = true := by
  have h3 := List.all_eq_true.1 h i (List.mem_range.2 (by omega))
  rw [ho, decide_eq_false (show ¬ i < 3 by omega), decide_eq_false (show ¬ 11 < i by omega)] at h3
  simp only [Bool.or_self, Bool.false_or, Bool.and_eq_true, decide_eq_true_eq] at h3
  exact h3
theorem endVs_mid (z : Int) (i : Nat) (h1 : 3 ≤ i) (h2 : i ≤ 11) : (i, 51 + i, undef) ∈ endVs z := by
  rcases (show i = 3 ∨ i = 4 ∨ i = 5 ∨ i = 6 ∨ i = 7 ∨ i = 8 ∨ i = 9 ∨ i = 10 ∨ i = 11 by omega) with rfl | rfl | rfl | rfl | rfl | rfl | rfl | rfl | rfl <;> simp [endVs]
theorem run_move16 {ρ : Operand → Value} {o : Oper} {x : Operand} {v : Value} {W : World} (hop : o.op = .move x) (h : ρ x = v) : (execOp ρ o).run Tryz.prog W = .ok (.value v) W := by
  simp [execOp, hop, h, go_sem]
theorem run_assign16 {ρ : Operand → Value} {o : Oper} {x : Operand} {v : Value} {W : World} (hop : o.op = .assign x) (h : ρ x = v) : (execOp ρ o).run Tryz.prog W = .ok (.value v) W := by
  simp [execOp, hop, h, go_sem]
theorem run_neq16 {ρ : Operand → Value} {o : Oper} {x : Operand} {z : Int} {W : World} (hz : ¬ z = 0) (hc : ∀ v, ρ (.const v) = v) (hop : o.op = .binOp .neq 37 x (.const (.int .i64 0)) 37) (h : ρ x = .int .i64 z) : (execOp ρ o).run Tryz.prog W = .ok (.value (.bool true)) W := by
  have h1 : (z != 0) = true := by simpa using hz
  simp [execOp, hop, h, go_sem, hc, h1]
theorem run_pick16 {ρ : Operand → Value} {o : Oper} {x y u : Operand} {v : Value} {W : World} (hop : o.op = .pick x y u) (h : ρ x = .bool true) (h2 : ρ y = v) : (execOp ρ o).run Tryz.prog W = .ok (.value v) W := by
  simp [execOp, hop, h, h2, go_sem]
theorem run_awake16 {ρ : Operand → Value} {o : Oper} {W : World} (hop : o.op = .call { callee := .value (.func 8), args := #[], argTypes := #[] }) (hc : ρ (.func 8) = .func (.func 8) #[] #[]) : (execOp ρ o).run Tryz.prog W = .ok (.enter 8 #[]) W := by
  simp [execOp, hop, go_sem, hc]
set_option maxRecDepth 100000 in
theorem end_region16 {id : Nat} {Q : Exit → Act → World → Prop} {ops : Array Oper} {x0 x1 x2 x12 x13 x14 x15 x16 : Oper}
    (h0 : ops[0]? = some x0) (d0 : x0.dst = some 51) (p0 : x0.op = .move (.tmp 6)) (g0 : x0.guard = none)
    (h1 : ops[1]? = some x1) (d1 : x1.dst = some 52) (p1 : x1.op = .binOp .neq 37 (.tmp 51) (.const (.int .i64 0)) 37) (g1 : x1.guard = none)
    (h2 : ops[2]? = some x2) (d2 : x2.dst = some 53) (p2 : x2.op = .move (.tmp 52)) (g2 : x2.guard = none)
    (h12 : ops[12]? = some x12) (d12 : x12.dst = some 63) (p12 : x12.op = .pick (.tmp 53) (.const (.bool true)) (.tmp 62)) (g12 : x12.guard = none)
    (h13 : ops[13]? = some x13) (d13 : x13.dst = some 64) (p13 : x13.op = .move (.tmp 63)) (g13 : x13.guard = none)
    (h14 : ops[14]? = some x14) (d14 : x14.dst = some 65) (p14 : x14.op = .call { callee := .value (.func 8), args := #[], argTypes := #[] }) (g14 : x14.guard = some (13, true))
    (h15 : ops[15]? = some x15) (d15 : x15.dst = some 66) (p15 : x15.op = .pick (.tmp 64) (.tmp 65) (.const (.bool false))) (g15 : x15.guard = none)
    (h16 : ops[16]? = some x16) (d16 : x16.dst = some 4) (p16 : x16.op = .assign (.tmp 66)) (g16 : x16.guard = none)
    (e1 : (x1.after.any fun e => e.on == 0 && Region.binds .any e) = true) (e2 : (x2.after.any fun e => e.on == 1 && Region.binds .any e) = true) (e12 : (x12.after.any fun e => e.on == 2 && Region.binds .any e) = true) (e13 : (x13.after.any fun e => e.on == 12 && Region.binds .any e) = true)
    (e14 : (x14.after.any fun e => e.on == 13 && Region.binds .any e) = true) (e15 : (x15.after.any fun e => e.on == 13 && Region.binds .any e) = true) (e15' : (x15.after.any fun e => e.on == 14 && Region.binds .any e) = true) (e16 : (x16.after.any fun e => e.on == 15 && Region.binds .any e) = true)
    (hmid : midB16 ops = true) (hdeps : depsB16 ops = true) (hsize : ops.size = 17) (base : Array Value) (w7 : World) (z : Int) (hz : ¬ z = 0) (hbs : base.size = 67) (b6 : base.getD 6 undef = .int .i64 z)
    (CA : ∀ W, Below w7.heap.size w7 W → Calls Tryz.prog 8 #[] W fun e w' => e = .returned (.bool true) ∧ Below w7.heap.size w7 w')
    (hQ : ∀ W, Below w7.heap.size w7 W → Q .normal { tmps := puts ((endVs z).map (·.2)) base, defers := [] } W) :
    (Code.region id ops true).wp Tryz.prog Q { tmps := base, defers := [] } w7 := by
  have hd := endVs_apart z
  refine wp_region_set (by kernel_rfl) (fun L a W => a = { tmps := hFr L (endVs z) base, defers := [] } ∧ Below w7.heap.size w7 W) (depsB16_spec hdeps) ⟨by unfold hFr; rw [show ((endVs z).filter fun x => (fun _ : Nat => false) x.1) = [] from List.filter_eq_nil_iff.2 fun _ _ => Bool.false_ne_true]; rfl, Below.drew (Below.refl _ _)⟩ ?_ ?_
  · rintro L i o a W ho hL haf ⟨rfl, hb⟩ K hK
    have hi : i < 17 := by have := (Array.getElem?_eq_some_iff.1 ho).1; omega
    have hev := fun (j s : Nat) (v : Value) (hx : (j, s, v) ∈ endVs z) (h : L j = true) (hs : s < 67) => fr_eval16 (base := base) hd hx h (by omega)
    by_cases hm : 3 ≤ i ∧ i ≤ 11
    · obtain ⟨q1, q2, q3⟩ := midB16_spec hmid i o hm.1 hm.2 ho
      refine op_none16 ho ?_ (hK _ _ ⟨fr_put16 hd q1 (endVs_mid z i hm.1 hm.2) hL, hb⟩)
      rw [wanted_is16 q2 h2 d2 (hev 2 53 (.bool true) (by simp [endVs]) (dep16 haf 2 q3) (by decide))]
      rfl
    · rcases (show i = 0 ∨ i = 1 ∨ i = 2 ∨ i = 12 ∨ i = 13 ∨ i = 14 ∨ i = 15 ∨ i = 16 by omega) with rfl | rfl | rfl | rfl | rfl | rfl | rfl | rfl
      · obtain rfl := Option.some.inj (h0.symm.trans ho)
        exact op_val16 h0 (wanted_none16 g0) (run_move16 p0 (fr_base16 (endVs_out z) b6)) (hK _ _ ⟨fr_put16 hd d0 (by simp [endVs]) hL, hb⟩)
      · obtain rfl := Option.some.inj (h1.symm.trans ho)
        exact op_val16 h1 (wanted_none16 g1) (run_neq16 hz (fun _ => rfl) p1 (hev 0 51 (.int .i64 z) (by simp [endVs]) (dep16 haf 0 e1) (by decide))) (hK _ _ ⟨fr_put16 hd d1 (by simp [endVs]) hL, hb⟩)
      · obtain rfl := Option.some.inj (h2.symm.trans ho)
        exact op_val16 h2 (wanted_none16 g2) (run_move16 p2 (hev 1 52 (.bool true) (by simp [endVs]) (dep16 haf 1 e2) (by decide))) (hK _ _ ⟨fr_put16 hd d2 (by simp [endVs]) hL, hb⟩)
      · obtain rfl := Option.some.inj (h12.symm.trans ho)
        exact op_val16 h12 (wanted_none16 g12) (run_pick16 (v := .bool true) p12 (hev 2 53 (.bool true) (by simp [endVs]) (dep16 haf 2 e12) (by decide)) rfl) (hK _ _ ⟨fr_put16 hd d12 (by simp [endVs]) hL, hb⟩)
      · obtain rfl := Option.some.inj (h13.symm.trans ho)
        exact op_val16 h13 (wanted_none16 g13) (run_move16 p13 (hev 12 63 (.bool true) (by simp [endVs]) (dep16 haf 12 e13) (by decide))) (hK _ _ ⟨fr_put16 hd d13 (by simp [endVs]) hL, hb⟩)
      · obtain rfl := Option.some.inj (h14.symm.trans ho)
        refine op_call16 h14 (by rw [wanted_is16 g14 h13 d13 (hev 13 64 (.bool true) (by simp [endVs]) (dep16 haf 13 e14) (by decide))]; rfl) (run_awake16 p14 rfl) ((CA W hb).mono ?_)
        rintro e w' ⟨rfl, hb'⟩
        exact ⟨_, rfl, hK _ _ ⟨fr_put16 hd d14 (by simp [endVs]) hL, hb'⟩⟩
      · obtain rfl := Option.some.inj (h15.symm.trans ho)
        exact op_val16 h15 (wanted_none16 g15) (run_pick16 (v := .bool true) p15 (hev 13 64 (.bool true) (by simp [endVs]) (dep16 haf 13 e15) (by decide)) (hev 14 65 (.bool true) (by simp [endVs]) (dep16 haf 14 e15') (by decide))) (hK _ _ ⟨fr_put16 hd d15 (by simp [endVs]) hL, hb⟩)
      · obtain rfl := Option.some.inj (h16.symm.trans ho)
        exact op_val16 h16 (wanted_none16 g16) (run_assign16 p16 (hev 15 66 (.bool true) (by simp [endVs]) (dep16 haf 15 e16) (by decide))) (hK _ _ ⟨fr_put16 hd d16 (by simp [endVs]) hL, hb⟩)
  · rintro L a W hall ⟨rfl, hb⟩
    have e : hFr L (endVs z) base = puts ((endVs z).map (·.2)) base := by
      unfold hFr
      rw [List.filter_eq_self.2 fun x hx => hall _ (by
        have : x.1 < 17 := by
          simp only [endVs, List.mem_cons, List.not_mem_nil, or_false] at hx
          rcases hx with rfl | rfl | rfl | rfl | rfl | rfl | rfl | rfl | rfl | rfl | rfl | rfl | rfl | rfl | rfl | rfl | rfl <;> dsimp only <;> omega
        omega)]
    rw [e]
    exact hQ W hb
end Go.Proofs.YtpaaibghfhnicaaGreatDoor
