/-
  WHAT CAME IN: lists of tuples; the two tables that the rows list.
-/
import Derived.Test.YtghonbnmakggnaaDoorMtjM
import Derived.Test.YtghonbnmakggnaaDoorGCame
import Derived.Test.YtghonbnmakggnaaDoorGBase
import Derived.Lib.LaidTab
namespace Go.Proofs.YtghonbnmakggnaaDoor
set_option maxRecDepth 100000
open Go.RowKit Go.WideShapes Go.ChangeShapes Go.Deep
section
variable {H : Type} {enc : TypeId × Value → H} {W : World}
theorem rws_al {v : Value} {vs : List Value} {rs : List (List Vl)} (h : RwsOf W v vs rs) : RwsOn Al W v rs := (Rws.on ⟨vs, h⟩).al
theorem tuples_came {A0 : Option Addr} {n0 c0 : Nat} {d : DataW H} {p : List MemPlace} (h : DataW.Trod enc Tryd.prog W 0 (fun _ => true) true 27 (.slice A0 n0 c0) d p) :
    ∃ ts, TusOn Al W (.slice A0 n0 c0) ts ∧ Formed (.slice A0 n0 c0) := by
  obtain ⟨fuel, hf⟩ := h
  rcases DataW.trod_slice Tryd.underlying27 hf with ⟨hv, _⟩ | ⟨a, len, cap, elems, rest, m, hm, hv, _, _, hl, hcap, hlen, hel, _, _⟩
  · simp only [Value.cells, List.cons.injEq, Value.slice.injEq, and_true] at hv
    obtain ⟨rfl, rfl, rfl⟩ := hv
    exact ⟨[], TusOn.nil _ _, .inl rfl⟩
  · simp only [Value.cells, List.cons.injEq, Value.slice.injEq, and_true] at hv
    obtain ⟨rfl, rfl, rfl⟩ := hv
    rw [show Tryd.prog.cellsOf 25 = 1 by kernel_rfl] at hel
    have each : ∀ i, i < n0 → ∃ x : Value × List (List Vl), W.cell? (a.add i) = some x.1 ∧ RwsOn Al W x.1 x.2 := by
      intro i hi
      have h1 := hel i hi
      rw [List.getElem?_eq_getElem (by omega)] at h1
      obtain ⟨cs', h2, h3⟩ := Option.bind_eq_some_iff.1 h1
      obtain ⟨_, hcl, hc⟩ := World.cells?_some h2
      have h0 := hc 0 (by decide)
      have e0 : (a.add (i * 1)).add 0 = a.add i := by unfold Addr.add; simp
      rw [e0] at h0
      match cs', hcl with
      | [u], _ =>
        change W.cell? (a.add i) = some u at h0
        obtain ⟨A1, n1, c1, rfl⟩ : ∃ A n c, u = .slice A n c := by
          rcases DataW.trod_slice Tryd.underlying25 h3 with ⟨hv, _⟩ | ⟨a, len, cap, _, _, _, _, hv, _⟩
          · exact ⟨none, 0, 0, by simpa using hv⟩
          · exact ⟨some a, len, cap, by simpa using hv⟩
        obtain ⟨vs, rs, hr, _, _⟩ := rws_came (A0 := A1) (n0 := n1) (c0 := c1) ⟨_, h3⟩
        exact ⟨(.slice A1 n1 c1, rs), h0, rws_al hr⟩
    obtain ⟨ds, hdl, hds⟩ := list_of (α := Value × List (List Vl)) (Q := fun (i : Nat) (x : Value × List (List Vl)) => W.cell? (a.add i) = some x.1 ∧ RwsOn Al W x.1 x.2) n0 each
    refine ⟨ds.map Prod.snd, ⟨ds.map Prod.fst, ⟨some a, c0, by rw [List.length_map, hdl], by rw [List.length_map]; omega, fun j u hj => ?_⟩, by rw [List.length_map, List.length_map], fun i t hi => ?_⟩, .inr ⟨a, n0, c0, rfl⟩⟩
    · rw [List.getElem?_map] at hj
      cases hx : ds[j]? with
      | none => rw [hx] at hj; cases hj
      | some x =>
        rw [hx] at hj
        cases hj
        obtain ⟨h0, _⟩ := hds j x hx
        obtain ⟨b, o, s⟩ := a
        refine ⟨b, o, s, rfl, trivial, ?_, h0⟩
        have := block_lt_of_cell h0
        rwa [add_block] at this
    · rw [List.getElem?_map] at hi
      cases hx : ds[i]? with
      | none => rw [hx] at hi; cases hi
      | some x =>
        rw [hx] at hi
        cases hi
        exact ⟨x.1, by rw [List.getElem?_map, hx]; rfl, (hds i x hx).2⟩
end
end Go.Proofs.YtghonbnmakggnaaDoor
