/-
  WHAT CAME IN: rows, each nil or at an address (a text of its own, where a seat lacks predicates).
-/
import Derived.Test.YtaodobjekpacoaaGRows
import Derived.Test.YtaodobjekpacoaaBgqM
namespace Go.Proofs.Ytaodobjekpacoaa
set_option maxRecDepth 100000
open Go.RowKit Go.WideShapes Go.ChangeShapes Go.Deep
section
variable {H : Type} {enc : TypeId × Value → H} {W : World}
theorem row_form9 {v : Value} {fuel : Nat} {x : DataW H × List MemPlace} (h : DataW.trod enc Try.prog W 0 (fun _ => true) true fuel 24 [v] = some x) : v = .slice none 0 0 ∨ ∃ b n c, v = .slice (some b) n c := by
  rcases DataW.trod_slice Try.underlying24 h with ⟨hv, _⟩ | ⟨a, len, cap, elems, rest, m, hm, hv, _⟩
  · exact .inl (by simpa using hv)
  · exact .inr ⟨a, len, cap, by simpa using hv⟩
theorem rws_forms9 {A0 : Option Addr} {n0 c0 : Nat} {d : DataW H} {p : List MemPlace} (h : DataW.Trod enc Try.prog W 0 (fun _ => true) true 22 (.slice A0 n0 c0) d p) :
    ∃ vs rs, RwsOf W (.slice A0 n0 c0) vs rs ∧ ∀ x ∈ vs, x = .slice none 0 0 ∨ ∃ b n c, x = .slice (some b) n c := by
  have h0 := h
  obtain ⟨vs, rs, hr, _, _⟩ := rws_came h0
  refine ⟨vs, rs, hr, fun x hx => ?_⟩
  obtain ⟨j, hj, hjx⟩ := List.mem_iff_getElem.1 hx
  have gx : vs[j]? = some x := by rw [List.getElem?_eq_getElem hj, hjx]
  obtain ⟨A, c, hv, _, hcell⟩ := hr.sl
  obtain ⟨b, o, s, hA, _, hc⟩ := hcell j x gx
  obtain ⟨fuel, hf⟩ := h
  rcases open_slice1 Try.underlying22 (by kernel_rfl) hf with ⟨hv2, _⟩ | ⟨a, len, cap, m, n, V, D, Pl, hv2, _, hl, _, hm, _, hx2⟩
  · simp only [Value.cells, List.cons.injEq, Value.slice.injEq, and_true] at hv2
    obtain ⟨rfl, rfl, rfl⟩ := hv2
    injection hv with h1 h2 h3
    rw [← h1] at hA
    cases hA
  · simp only [Value.cells, List.cons.injEq, Value.slice.injEq, and_true] at hv2
    obtain ⟨rfl, rfl, rfl⟩ := hv2
    have hn0 : n0 = vs.length := by injection hv
    simp only [if_true] at hm
    cases hv
    cases hA
    have hx3 := hx2 j (by omega)
    rw [hx3.1] at hc
    cases hc
    exact row_form9 hx3.2
theorem rws_came_all {A0 : Option Addr} {n0 c0 : Nat} {d : DataW H} {p : List MemPlace} (h : DataW.Trod enc Try.prog W 0 (fun _ => true) true 22 (.slice A0 n0 c0) d p) :
    ∃ vs rs, RwsOf W (.slice A0 n0 c0) vs rs ∧ (∀ x ∈ vs, Fm x) ∧ Fm (.slice A0 n0 c0) := by
  obtain ⟨vs, rs, hr, hf⟩ := rws_forms9 h
  obtain ⟨_, _, _, hc, _⟩ := rws_came h
  refine ⟨vs, rs, hr, hf, ?_⟩
  rcases hc.form with ⟨h, _⟩ | ⟨b, c, h⟩
  · exact .inl h
  · exact .inr ⟨b, _, c, h⟩
end
end Go.Proofs.Ytaodobjekpacoaa
