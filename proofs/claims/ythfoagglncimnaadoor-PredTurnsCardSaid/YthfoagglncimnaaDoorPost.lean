/-
  THE LAST STEP OF EVERY LAW's ROW: the call has answered true, and whatever lay before lies as it lay: so each argument reads as it read before, whatever its type. And: a slice of numbers that came in, as a list.
-/
import Derived.Below
import Derived.ChangeSame
import Derived.ProofKit
import Derived.Carry
import Derived.OpenShut
import Derived.Test.YthfoagglncimnaaDoorWord
namespace Go.Proofs.YthfoagglncimnaaDoor
open Go.RowKit Go.WideShapes Go.ChangeShapes
theorem trodAll_kept {H : Type} {enc : TypeId × Value → H} {P : Program} {A B : World} (laid : laidOutB P = true) (kept : Below A.heap.size A B) :
    ∀ (ts : List TypeId) {vs : List Value} {ds : List (DataW H)} {ps : List MemPlace}, (ts.all fun t => P.readableRec t && decide (t < P.types.size)) = true →
      DataW.TrodAll enc P A 0 (fun _ => true) true ts vs ds ps → (∀ x ∈ ps, x.block < A.heap.size) → DataW.TrodAll enc P B 0 (fun b => decide (b < A.heap.size)) true ts vs ds ps
  | [], _, _, _, _, h, _ => by
    obtain ⟨rfl, rfl, rfl⟩ := trodAll_nil h
    exact trodAll_mk0
  | t :: ts, _, _, _, hr, h, hlt => by
    obtain ⟨v, vs, d, ds, p, q, rfl, rfl, rfl, h0, h1⟩ := trodAll_cons h
    simp only [List.all_cons, Bool.and_eq_true] at hr
    exact trodAll_cons_mk (Below.trod laid hr.1.1 (of_decide_eq_true hr.1.2) h0 kept (fun x hx => hlt x (List.mem_append.2 (.inl hx))))
      (trodAll_kept laid kept ts (by simpa using hr.2) h1 (fun x hx => hlt x (List.mem_append.2 (.inr hx))))
theorem law_post {H : Type} {enc : TypeId × Value → H} {P : Program} {fn : Func} {sp : ChangeSpec} {ap : Bool} {A B : World} {xs : Array Value} {ds gs : List (DataW H)} {was p : List MemPlace} {tb : TypeId}
    (laid : laidOutB P = true) (hr : (fn.params.toList.all fun t => P.readableRec t && decide (t < P.types.size)) = true)
    (whole : DataW.Whole enc P fn.params.toList sp.vars ap A xs.toList ds gs was) (args : DataW.TrodAll enc P A 0 (fun _ => true) true fn.params.toList xs.toList ds p) (hp : was = p) (kept : Below A.heap.size A B)
    (ht : fn.resultTypes = #[tb]) (hb : P.underlying tb = some .bool) (h1 : (sp.fn H (ds ++ gs)).results = [.lit (.bool true)]) (h2 : (sp.fn H (ds ++ gs)).args = ds) (h3 : sp.vars = []) (h4 : (sp.fn H (ds ++ gs)).vars = []) :
    sp.post enc P fn ap true false false A xs (.bool true) B := by
  have below : ∀ x, x ∈ p → x.block < A.heap.size := fun x h => whole.lt x (hp ▸ h)
  refine ⟨ds, gs, was, [], p, [], whole, ?_, ?_, ?_, World.keptBut_mono (fun x h => ⟨h, .inr (.inl (hp ▸ h))⟩) (kept.frame (· ∈ was)), fun h => by cases h⟩
  · rw [h1, ht]
    exact trodAll_cons_mk (shut_bool hb true) trodAll_mk0
  · rw [h2]
    exact trodAll_kept laid kept _ hr args below
  · rw [h3, h4]
    exact rfl
/-- a slice of numbers that came in -/
theorem sl_came {H : Type} {enc : TypeId × Value → H} {P : Program} {W : World} {T E : TypeId} {k : IntKind} {a : Option Addr} {len cap : Nat} {d : DataW H} {p : List MemPlace} (ht : P.underlying T = some (.slice E)) (he : P.underlying E = some (.int k)) (hc : P.cellsOf E = 1)
    (h : DataW.Trod enc P W 0 (fun _ => true) true T (.slice a len cap) d p) (hlt : ∀ x ∈ p, x.block < W.heap.size) :
    ∃ l : List Int, len = l.length ∧ l.length ≤ 9223372036854775807 ∧ Sl W (.slice a len cap) (l.map (Value.int k)) ∧ ∀ n ∈ l, (Lit.int k n).wf = true := by
  obtain ⟨fuel, hf⟩ := h
  rcases open_ints ht he hc hf with ⟨hcs, _⟩ | ⟨b, len', cap', zs, hcs, _, hl, hm, hz, hx, hcell, hwz⟩
  · simp only [Value.cells, List.cons.injEq, Value.slice.injEq, and_true] at hcs
    obtain ⟨rfl, rfl, rfl⟩ := hcs
    exact ⟨[], rfl, by simp, ⟨none, 0, rfl, by simp, fun j u hu => by simp at hu⟩, by simp⟩
  · simp only [Value.cells, List.cons.injEq, Value.slice.injEq, and_true] at hcs
    obtain ⟨rfl, rfl, rfl⟩ := hcs
    simp only [if_true] at hz
    simp only [Prod.mk.injEq] at hx
    have hlen : (zs.take len).length = len := by rw [List.length_take]; omega
    refine ⟨zs.take len, hlen.symm, by unfold maxLen at hm; omega, ⟨some b, cap, by rw [List.length_map, hlen], by rw [List.length_map, hlen]; exact hl, fun j u hu => ?_⟩, fun n hn => hwz n (List.mem_of_mem_take hn)⟩
    rw [List.getElem?_map] at hu
    cases hj : (zs.take len)[j]? with
    | none => rw [hj] at hu; cases hu
    | some x =>
      rw [hj] at hu
      cases hu
      have hjl : j < len := by
        by_cases h : j < len
        · exact h
        · rw [List.getElem?_eq_none (by omega)] at hj; cases hj
      rw [List.getElem?_take_of_lt hjl] at hj
      have hc2 := hcell j (by omega)
      have hmem : (MemPlace.cell b.block (b.off + j)) ∈ p := by rw [hx.2]; exact MemPlace.mem_row.2 ⟨j, by omega, by simp⟩
      obtain ⟨bb, o, s⟩ := b
      refine ⟨bb, o, s, rfl, hlt _ hmem, ?_⟩
      rw [hc2, List.getD, hj]; rfl
end Go.Proofs.YthfoagglncimnaaDoor
