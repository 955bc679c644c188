/-
  A REGION THAT DRAWS ITS ORDER INSIDE A ROUND: an invariant over the set of operations that are done, shown operation by operation.
-/
import Derived.Test.YtokjhlmpegogcaaDoorCkcM
namespace Go.Proofs.YtokjhlmpegogcaaDoor
open Go Go.RowKit

theorem wpIn_region_set {F : Fence} {n : Nat} {P : Program} {id : Nat} {ops : Array Oper} {Q : Exit → Act → World → Prop} {a : Act} {w : World} (hmo : P.follows .mixedOrders = true) (I : (Nat → Bool) → Act → World → Prop)
    (hdep : ∀ (i : Nat) (o : Oper), ops[i]? = some o → ∀ e ∈ o.after, e.on < i) (h0 : I (fun _ => false) a w.drew)
    (hstep : ∀ (L : Nat → Bool) (i : Nat) (o : Oper) (a : Act) (w : World), ops[i]? = some o → L i = false → (∀ e ∈ o.after, Region.binds .any e = true → L e.on = true) → I L a w → ∀ K : Act → World → Prop, (∀ a' w', I (fun j => L j || decide (i = j)) a' w' → K a' w') → wpOpIn F n P ops Q i K a w)
    (hQ : ∀ (L : Nat → Bool) (a : Act) (w : World), (∀ i, i < ops.size → L i = true) → I L a w → Q .normal a w) : (Code.region id ops true).wpIn F n P Q a w := by
  have hall : ∀ A : Array Bool, A.size = ops.size → Region.ready .any ops A = [] → ∀ i, i < ops.size → A.getD i false = true := by
    intro A hA hr i
    induction i using Nat.strongRecOn with
    | ind i ih =>
      intro hi
      cases hf : A.getD i false with
      | true => rfl
      | false =>
        exfalso
        have hmem : i ∈ Region.ready .any ops A := mem_ready.2 ⟨by
          rw [Array.getD_eq_getD_getElem?] at hf ⊢
          rw [Array.getElem?_eq_getElem (by omega)] at hf ⊢
          exact hf, _, Array.getElem?_eq_getElem hi, fun e he _ => by
          have h1 := hdep i _ (Array.getElem?_eq_getElem hi) e he
          exact ih e.on h1 (by omega)⟩
        rw [hr] at hmem
        cases hmem
  have key : ∀ (fuel : Nat) (A : Array Bool) (a : Act) (w : World), A.size = ops.size → A.toList.countP (fun b => !b) ≤ fuel → I (fun i => A.getD i false) a w → wpAnyIn F n P .any ops Q fuel A a w := by
    intro fuel
    induction fuel with
    | zero =>
      intro A a w hs hc h
      have hr : Region.ready .any ops A = [] := by
        cases hr : Region.ready .any ops A with
        | nil => rfl
        | cons i r =>
          exfalso
          obtain ⟨h1, o, ho, _⟩ := mem_ready.1 (show i ∈ Region.ready .any ops A by rw [hr]; exact List.mem_cons_self)
          have hi : i < A.size := by rw [hs]; exact (Array.getElem?_eq_some_iff.1 ho).1
          have h2 : A[i] = false := by
            rw [Array.getD_eq_getD_getElem?, Array.getElem?_eq_getElem hi] at h1
            exact h1
          have h3 : 0 < A.toList.countP (fun b => !b) := List.countP_pos_iff.2 ⟨A[i], by simp, by simp [h2]⟩
          omega
      exact ⟨hr, hQ _ _ _ (hall A hs hr) h⟩
    | succ fuel ih =>
      intro A a w hs hc h
      refine ⟨fun hr => hQ _ _ _ (hall A hs hr) h, fun i hi => ?_⟩
      obtain ⟨h1, o, ho, h2⟩ := mem_ready.1 hi
      have hlt : i < A.size := by rw [hs]; exact (Array.getElem?_eq_some_iff.1 ho).1
      have hf : A[i] = false := by
        rw [Array.getD_eq_getD_getElem?, Array.getElem?_eq_getElem hlt] at h1
        exact h1
      refine hstep _ i o a w ho (by show A.getD i false = false; rw [Array.getD_eq_getD_getElem?, Array.getElem?_eq_getElem hlt]; exact hf) h2 h _ fun a' w' h' => ?_
      refine ih _ _ _ (by simpa using hs) ?_ ?_
      · have h3 : 0 < A.toList.countP (fun b => !b) := List.countP_pos_iff.2 ⟨A[i], by simp, by simp [hf]⟩
        have h4 := List.countP_set (p := fun b : Bool => !b) (l := A.toList) (i := i) (a := true) (by simpa using hlt)
        have h5 : (A.setIfInBounds i true).toList = A.toList.set i true := by simp
        rw [h5, h4, if_pos (by simpa using hf), if_neg (by simp)]
        omega
      · have e : (fun j => (A.setIfInBounds i true).getD j false) = fun j => A.getD j false || decide (i = j) := by
          funext j
          rw [Array.getD_eq_getD_getElem?, Array.getD_eq_getD_getElem?, Array.getElem?_setIfInBounds]
          by_cases hij : i = j
          · subst hij; simp [hlt]
          · simp [hij]
        rw [e]
        exact h'
  refine wpIn_region_any hmo (key _ _ _ _ (by simp) ?_ ?_)
  · have := List.countP_le_length (p := fun b : Bool => !b) (l := (Array.replicate ops.size false).toList)
    simpa using this
  · have e : (fun i => (Array.replicate ops.size false).getD i false) = fun _ => false := by
      funext i
      rw [Array.getD_eq_getD_getElem?, Array.getElem?_replicate]
      split <;> rfl
    rw [e]
    exact h0
theorem opIn_valw {l n : Nat} {P : Program} {ops : Array Oper} {i : Nat} {o : Oper} {a : Act} {w : World} {K : Act → World → Prop} {Q : Exit → Act → World → Prop} {v : Value} (ho : ops[i]? = some o) (hw : Region.wanted o (yielded ops a.tmps) = true) (hop : ∀ c, o.op ≠ .defer c)
    (hrun : (execOp a.eval o).run P w = .ok (.value v) w) (hK : K (a.put o.dst v) w) : wpOpIn (Fence.wide.inRound l) n P ops Q i K a w := by
  unfold wpOpIn
  rw [ho]
  simp only [hw, if_true]
  refine ⟨fun _ _ => trivial, ?_⟩
  rw [Oper.semAt_plain _ _ _ hop, hrun]
  exact hK
theorem opIn_callw {l n : Nat} {P : Program} {ops : Array Oper} {i : Nat} {o : Oper} {a : Act} {w : World} {K : Act → World → Prop} {Q : Exit → Act → World → Prop} {f : FuncId} {args : Array Value} (ho : ops[i]? = some o) (hw : Region.wanted o (yielded ops a.tmps) = true) (hop : ∀ c, o.op ≠ .defer c)
    (hrun : (execOp a.eval o).run P w = .ok (.enter f args) w) (hc : Calls P f args w fun e w' => ∃ v, e = .returned v ∧ K (a.put o.dst v) w') : wpOpIn (Fence.wide.inRound l) n P ops Q i K a w := by
  unfold wpOpIn
  rw [ho]
  simp only [hw, if_true]
  refine ⟨fun _ _ => trivial, ?_⟩
  rw [Oper.semAt_plain _ _ _ hop, hrun]
  refine ⟨fun h => by simp [Fence.wide, Fence.inRound] at h, ?_⟩
  have h2 := (callsIn_wide (n := n - 1)).2 hc
  have h3 : CallsIn (Fence.wide.inRound l) (n - 1) P f args w fun e w' => ∃ v, e = .returned v ∧ K (a.put o.dst v) w' := h2
  exact h3.mono fun e w' h => by
    obtain ⟨v, rfl, h⟩ := h
    exact h
end Go.Proofs.YtokjhlmpegogcaaDoor
