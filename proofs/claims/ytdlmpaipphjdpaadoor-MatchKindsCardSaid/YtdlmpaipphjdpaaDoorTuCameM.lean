/-
  WHAT CAME IN: lists of tuples; the two tables that the rows list.
-/
import Derived.Test.YtdlmpaipphjdpaaDoorMtjM
import Derived.Test.YtdlmpaipphjdpaaDoorGCame
import Derived.Test.YtdlmpaipphjdpaaDoorGBase
import Derived.Lib.LaidTab
namespace Go.Proofs.YtdlmpaipphjdpaaDoor
set_option maxRecDepth 100000
open Go.RowKit Go.WideShapes Go.ChangeShapes Go.Deep
section
variable {H : Type} {enc : TypeId × Value → H} {W : World}
theorem rws_al {v : Value} {vs : List Value} {rs : List (List Vl)} (h : RwsOf W v vs rs) : RwsOn Al W v rs := (Rws.on ⟨vs, h⟩).al
theorem tuples_came {A0 : Option Addr} {n0 c0 : Nat} {d : DataW H} {p : List MemPlace} (h : DataW.Trod enc Tryd.prog W 0 (fun _ => true) true 24 (.slice A0 n0 c0) d p) :
    ∃ ts, TusOn Al W (.slice A0 n0 c0) ts ∧ Formed (.slice A0 n0 c0) := by
  obtain ⟨fuel, hf⟩ := h
  rcases DataW.trod_slice Tryd.underlying24 hf with ⟨hv, _⟩ | ⟨a, len, cap, elems, rest, m, hm, hv, _, _, hl, hcap, hlen, hel, _, _⟩
  · simp only [Value.cells, List.cons.injEq, Value.slice.injEq, and_true] at hv
    obtain ⟨rfl, rfl, rfl⟩ := hv
    exact ⟨[], TusOn.nil _ _, .inl rfl⟩
  · simp only [Value.cells, List.cons.injEq, Value.slice.injEq, and_true] at hv
    obtain ⟨rfl, rfl, rfl⟩ := hv
    rw [show Tryd.prog.cellsOf 23 = 1 by kernel_rfl] at hel
    have each : ∀ i, i < n0 → ∃ x : Value × List (List Vl), W.cell? (a.add i) = some x.1 ∧ RwsOn Al W x.1 x.2 := by
      intro i hi
      have h1 := hel i hi
      rw [List.getElem?_eq_getElem (by omega)] at h1
      obtain ⟨cs', h2, h3⟩ := Option.bind_eq_some_iff.1 h1
      obtain ⟨_, hcl, hc⟩ := World.cells?_some h2
      have h0 := hc 0 (by decide)
      have e0 : (a.add (i * 1)).add 0 = a.add i := by unfold Addr.add; simp
      rw [e0] at h0
      match cs', hcl with
      | [u], _ =>
        change W.cell? (a.add i) = some u at h0
        obtain ⟨A1, n1, c1, rfl⟩ : ∃ A n c, u = .slice A n c := by
          rcases DataW.trod_slice Tryd.underlying23 h3 with ⟨hv, _⟩ | ⟨a, len, cap, _, _, _, _, hv, _⟩
          · exact ⟨none, 0, 0, by simpa using hv⟩
          · exact ⟨some a, len, cap, by simpa using hv⟩
        obtain ⟨vs, rs, hr, _, _⟩ := rws_came (A0 := A1) (n0 := n1) (c0 := c1) ⟨_, h3⟩
        exact ⟨(.slice A1 n1 c1, rs), h0, rws_al hr⟩
    obtain ⟨ds, hdl, hds⟩ := list_of (α := Value × List (List Vl)) (Q := fun (i : Nat) (x : Value × List (List Vl)) => W.cell? (a.add i) = some x.1 ∧ RwsOn Al W x.1 x.2) n0 each
    refine ⟨ds.map Prod.snd, ⟨ds.map Prod.fst, ⟨some a, c0, by rw [List.length_map, hdl], by rw [List.length_map]; omega, fun j u hj => ?_⟩, by rw [List.length_map, List.length_map], fun i t hi => ?_⟩, .inr ⟨a, n0, c0, rfl⟩⟩
    · rw [List.getElem?_map] at hj
      cases hx : ds[j]? with
      | none => rw [hx] at hj; cases hj
      | some x =>
        rw [hx] at hj
        cases hj
        obtain ⟨h0, _⟩ := hds j x hx
        obtain ⟨b, o, s⟩ := a
        refine ⟨b, o, s, rfl, trivial, ?_, h0⟩
        have := block_lt_of_cell h0
        rwa [add_block] at this
    · rw [List.getElem?_map] at hi
      cases hx : ds[i]? with
      | none => rw [hx] at hi; cases hi
      | some x =>
        rw [hx] at hi
        cases hi
        exact ⟨x.1, by rw [List.getElem?_map, hx]; rfl, (hds i x hx).2⟩
end
theorem gTab13 : Tryd.prog.globalNamed "math/bits.deBruijn64tab" = some 0 := by kernel_rfl
theorem gTabType13 : (Tryd.prog.globals[0]?).map (·.type) = some 84 := by kernel_rfl
theorem cellsArr13 : Tryd.prog.cellsOf 84 = 64 := by kernel_rfl
theorem cellsElem13 : Tryd.prog.cellsOf 5 = 1 := by kernel_rfl
theorem tab_of13 {W : World} {rest : List (String × DataW Unit)} (h : laidMet Tryd.prog (("math/bits.deBruijn64tab", Lib.tabData .u8 (Lib.deBruijn64tab.map Int.ofNat)) :: rest) W) : Tab W := by
  have ht : Lib.TabIs Tryd.prog W "math/bits.deBruijn64tab" .u8 (Lib.deBruijn64tab.map Int.ofNat) :=
    Lib.tabIs_of_head (rest := rest) gTab13 gTabType13 Tryd.underlying84 Tryd.underlying5 cellsElem13 cellsArr13 h
  intro j hj
  have hl : j < (Lib.deBruijn64tab.map Int.ofNat).length := by rw [List.length_map]; exact hj
  rw [ht.cell gTab13 j hl]
  simp [List.getD, hj]
end Go.Proofs.YtdlmpaipphjdpaaDoor
