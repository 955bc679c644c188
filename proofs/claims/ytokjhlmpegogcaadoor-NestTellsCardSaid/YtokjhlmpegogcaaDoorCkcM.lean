/-
  A REGION THAT DRAWS ITS ORDER INSIDE A ROUND, TWO CHAINS OF OPERATIONS BESIDE ONE ANOTHER: what holds behind p operations of the first and q of the second, shown operation by operation, whatever the order.
-/
import Derived.OrdersIn
import Derived.Shelf.Abstract
import Derived.WalkKit
import Derived.OwnWalkIn
import Derived.TacticsInMore
namespace Go.Proofs.YtokjhlmpegogcaaDoor
open Go Go.RowKit

def puts (l : List (Nat × Value)) (t : Array Value) : Array Value := l.foldl (fun t s => t.setIfInBounds s.1 s.2) t
theorem puts_app (l m : List (Nat × Value)) (t : Array Value) : puts (l ++ m) t = puts m (puts l t) := List.foldl_append
theorem puts_comm {l : List (Nat × Value)} {k : Nat} {v : Value} : ∀ {t : Array Value}, (∀ s ∈ l, s.1 ≠ k) → (puts l t).setIfInBounds k v = puts l (t.setIfInBounds k v) := by
  induction l with
  | nil => intro t _; rfl
  | cons s r ih =>
    intro t h
    show (puts r (t.setIfInBounds s.1 s.2)).setIfInBounds k v = puts r ((t.setIfInBounds k v).setIfInBounds s.1 s.2)
    rw [ih (fun x hx => h x (List.mem_cons_of_mem _ hx)), Array.setIfInBounds_comm _ _ (h s List.mem_cons_self)]
theorem puts_get {l : List (Nat × Value)} {k : Nat} : ∀ {t : Array Value}, (∀ s ∈ l, s.1 ≠ k) → (puts l t).getD k undef = t.getD k undef := by
  induction l with
  | nil => intro t _; rfl
  | cons s r ih =>
    intro t h
    show (puts r (t.setIfInBounds s.1 s.2)).getD k undef = _
    rw [ih (fun x hx => h x (List.mem_cons_of_mem _ hx))]
    rw [Array.getD_eq_getD_getElem?, Array.getD_eq_getD_getElem?, Array.getElem?_setIfInBounds_ne (h s List.mem_cons_self)]
theorem wpIn_region_two {F : Fence} {n : Nat} {P : Program} {id : Nat} {ops : Array Oper} {Q : Exit → Act → World → Prop} {a : Act} {w : World} (hmo : P.follows .mixedOrders = true)
    (m : Nat) (A B : Nat → Nat) (L : Nat → Nat → Array Bool) (I : Nat → Nat → Act → World → Prop) (hsize : ops.size = 2 * m) (hL : L 0 0 = Array.replicate ops.size false)
    (hready : ∀ p, p ≤ m → ∀ q, q ≤ m → ∀ i ∈ Region.ready .any ops (L p q), (p < m ∧ i = A p ∧ (L p q).setIfInBounds i true = L (p + 1) q) ∨ (q < m ∧ i = B q ∧ (L p q).setIfInBounds i true = L p (q + 1)))
    (hend : ∀ p, p ≤ m → ∀ q, q ≤ m → (Region.ready .any ops (L p q) = [] ↔ p = m ∧ q = m))
    (h0 : I 0 0 a w.drew)
    (hA : ∀ p q a w, p < m → q ≤ m → I p q a w → ∀ K : Act → World → Prop, (∀ a' w', I (p + 1) q a' w' → K a' w') → wpOpIn F n P ops Q (A p) K a w)
    (hB : ∀ p q a w, p ≤ m → q < m → I p q a w → ∀ K : Act → World → Prop, (∀ a' w', I p (q + 1) a' w' → K a' w') → wpOpIn F n P ops Q (B q) K a w)
    (hQ : ∀ a w, I m m a w → Q .normal a w) : (Code.region id ops true).wpIn F n P Q a w := by
  have key : ∀ fuel p q, p ≤ m → q ≤ m → p + q + fuel = 2 * m → ∀ a w, I p q a w → wpAnyIn F n P .any ops Q fuel (L p q) a w := by
    intro fuel
    induction fuel with
    | zero =>
      intro p q hp hq hs a w h
      obtain ⟨rfl, rfl⟩ : p = m ∧ q = m := by omega
      exact ⟨(hend _ hp _ hq).2 ⟨rfl, rfl⟩, hQ _ _ h⟩
    | succ fuel ih =>
      intro p q hp hq hs a w h
      refine ⟨fun hr => ?_, fun i hi => ?_⟩
      · obtain ⟨rfl, rfl⟩ := (hend p hp q hq).1 hr
        exact hQ _ _ h
      · rcases hready p hp q hq i hi with ⟨hlt, rfl, hl⟩ | ⟨hlt, rfl, hl⟩
        · exact hA p q a w hlt hq h _ fun a' w' h' => by rw [hl]; exact ih (p + 1) q hlt hq (by omega) a' w' h'
        · exact hB p q a w hp hlt h _ fun a' w' h' => by rw [hl]; exact ih p (q + 1) hp hlt (by omega) a' w' h'
  refine wpIn_region_any hmo ?_
  rw [← hL]
  exact key _ 0 0 (Nat.zero_le _) (Nat.zero_le _) (by omega) a _ h0
theorem opIn_val {l n : Nat} {P : Program} {ops : Array Oper} {i : Nat} {o : Oper} {a : Act} {w : World} {K : Act → World → Prop} {Q : Exit → Act → World → Prop} {v : Value} (ho : ops[i]? = some o) (hg : o.guard = none) (hop : ∀ c, o.op ≠ .defer c)
    (hrun : (execOp a.eval o).run P w = .ok (.value v) w) (hK : K (a.put o.dst v) w) : wpOpIn (Fence.wide.inRound l) n P ops Q i K a w := by
  unfold wpOpIn
  rw [ho]
  have hw : Region.wanted o (yielded ops a.tmps) = true := by unfold Region.wanted; rw [hg]
  simp only [hw, if_true]
  refine ⟨fun _ _ => trivial, ?_⟩
  rw [Oper.semAt_plain _ _ _ hop, hrun]
  exact hK
theorem opIn_call {l n : Nat} {P : Program} {ops : Array Oper} {i : Nat} {o : Oper} {a : Act} {w : World} {K : Act → World → Prop} {Q : Exit → Act → World → Prop} {f : FuncId} {args : Array Value} (ho : ops[i]? = some o) (hg : o.guard = none) (hop : ∀ c, o.op ≠ .defer c)
    (hrun : (execOp a.eval o).run P w = .ok (.enter f args) w) (hc : Calls P f args w fun e w' => ∃ v, e = .returned v ∧ K (a.put o.dst v) w') : wpOpIn (Fence.wide.inRound l) n P ops Q i K a w := by
  unfold wpOpIn
  rw [ho]
  have hw : Region.wanted o (yielded ops a.tmps) = true := by unfold Region.wanted; rw [hg]
  simp only [hw, if_true]
  refine ⟨fun _ _ => trivial, ?_⟩
  rw [Oper.semAt_plain _ _ _ hop, hrun]
  refine ⟨fun h => by simp [Fence.wide, Fence.inRound] at h, ?_⟩
  have h2 := (callsIn_wide (n := n - 1)).2 hc
  have h3 : CallsIn (Fence.wide.inRound l) (n - 1) P f args w fun e w' => ∃ v, e = .returned v ∧ K (a.put o.dst v) w' := h2
  exact h3.mono fun e w' h => by
    obtain ⟨v, rfl, h⟩ := h
    exact h
/-- the frame behind a set of operations: (operation, slot, value) -/
def gFr (L : Nat → Bool) (vs : List (Nat × Nat × Value)) (t : Array Value) : Array Value := puts ((vs.filter fun x => L x.1).map (·.2)) t
theorem gFr_put {vs : List (Nat × Nat × Value)} {L : Nat → Bool} {i s : Nat} {v : Value} (hd : vs.Pairwise fun x y => x.1 ≠ y.1 ∧ x.2.1 ≠ y.2.1) (hx : (i, s, v) ∈ vs) (hL : L i = false) :
    ∀ t, (gFr L vs t).setIfInBounds s v = gFr (fun j => L j || decide (i = j)) vs t := by
  induction vs with
  | nil => simp at hx
  | cons y r ih =>
    intro t
    obtain ⟨hy, hr⟩ := List.pairwise_cons.1 hd
    rcases List.mem_cons.1 hx with rfl | hx
    · have e1 : (fun j => L j || decide (i = j)) i = true := by simp
      have e2 : r.filter (fun x => (fun j => L j || decide (i = j)) x.1) = r.filter fun x => L x.1 := List.filter_congr fun z hz => by
        have := (hy z hz).1
        simp only [decide_eq_false this, Bool.or_false]
      unfold gFr
      rw [List.filter_cons, List.filter_cons, if_neg (by simp [hL]), if_pos e1, e2]
      show (puts _ t).setIfInBounds s v = puts (List.map _ _) (t.setIfInBounds s v)
      rw [puts_comm]
      intro z hz
      obtain ⟨z', hz', rfl⟩ := List.mem_map.1 hz
      exact fun e => (hy z' ((List.mem_filter.1 hz').1)).2 e.symm
    · have hne := (hy _ hx).1
      have e1 : (fun j => L j || decide (i = j)) y.1 = L y.1 := by
        have : ¬ i = y.1 := fun e => hne e.symm
        simp only [decide_eq_false this, Bool.or_false]
      unfold gFr
      rw [List.filter_cons, List.filter_cons]
      simp only [e1]
      cases L y.1
      · simp only [Bool.false_eq_true, if_false]
        exact ih hr hx t
      · simp only [if_true, List.map_cons]
        exact ih hr hx (t.setIfInBounds y.2.1 y.2.2)
theorem gFr_get {vs : List (Nat × Nat × Value)} {L : Nat → Bool} {i s : Nat} {v : Value} (hd : vs.Pairwise fun x y => x.1 ≠ y.1 ∧ x.2.1 ≠ y.2.1) (hx : (i, s, v) ∈ vs) (hL : L i = true) :
    ∀ t : Array Value, s < t.size → (gFr L vs t).getD s undef = v := by
  induction vs with
  | nil => simp at hx
  | cons y r ih =>
    intro t ht
    obtain ⟨hy, hr⟩ := List.pairwise_cons.1 hd
    rcases List.mem_cons.1 hx with rfl | hx
    · unfold gFr
      rw [List.filter_cons]
      simp only [hL, if_true, List.map_cons]
      show (puts _ (t.setIfInBounds s v)).getD s undef = v
      rw [puts_get]
      · rw [Array.getD_eq_getD_getElem?, Array.getElem?_setIfInBounds_self_of_lt ht]; rfl
      · intro z hz
        obtain ⟨z', hz', rfl⟩ := List.mem_map.1 hz
        exact fun e => (hy z' ((List.mem_filter.1 hz').1)).2 e.symm
    · unfold gFr
      rw [List.filter_cons]
      cases L y.1
      · simp only [Bool.false_eq_true, if_false]
        exact ih hr hx t ht
      · simp only [if_true, List.map_cons]
        exact ih hr hx (t.setIfInBounds y.2.1 y.2.2) (by simpa using ht)
theorem gFr_out {vs : List (Nat × Nat × Value)} {L : Nat → Bool} {s : Nat} (hn : ∀ x ∈ vs, x.2.1 ≠ s) (t : Array Value) : (gFr L vs t).getD s undef = t.getD s undef := by
  unfold gFr
  refine puts_get fun z hz => ?_
  obtain ⟨z', hz', rfl⟩ := List.mem_map.1 hz
  exact hn z' ((List.mem_filter.1 hz').1)
/-- what is not listed may be any value -/
theorem gFr_ext {vs vs' : List (Nat × Nat × Value)} {L : Nat → Bool} (h : vs.filter (fun x => L x.1) = vs'.filter fun x => L x.1) (t : Array Value) : gFr L vs t = gFr L vs' t := by unfold gFr; rw [h]
end Go.Proofs.YtokjhlmpegogcaaDoor
