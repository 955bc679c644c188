/-
  A SLICE OF NUMBERS THAT CAME IN: nil, or at an address.
-/
import Derived.Test.YtgopoeblkconeaaSeq
import Derived.Test.YtgopoeblkconeaaPost
namespace Go.Proofs.Ytgopoeblkconeaa
open Go.RowKit Go.WideShapes Go.ChangeShapes
theorem came_one {H : Type} {enc : TypeId × Value → H} {P : Program} {W : World} {T E : TypeId} {k : IntKind} {a : Option Addr} {len cap : Nat} {d : DataW H} {p : List MemPlace} {l : List Int} (ht : P.underlying T = some (.slice E)) (he : P.underlying E = some (.int k)) (hc : P.cellsOf E = 1)
    (h : DataW.Trod enc P W 0 (fun _ => true) true T (.slice a len cap) d p) (hn : len = l.length) (hs : Sl W (.slice a len cap) (l.map (Value.int k))) : Came1 W (.slice a len cap) (l.map (Value.int k)) := by
  refine ⟨hs, ?_⟩
  obtain ⟨fuel, hf⟩ := h
  rcases open_ints ht he hc hf with ⟨hcs, _⟩ | ⟨b, len', cap', zs, hcs, _⟩
  · simp only [Value.cells, List.cons.injEq, Value.slice.injEq, and_true] at hcs
    obtain ⟨rfl, rfl, rfl⟩ := hcs
    exact .inl ⟨rfl, by rw [List.eq_nil_of_length_eq_zero hn.symm]; rfl⟩
  · simp only [Value.cells, List.cons.injEq, Value.slice.injEq, and_true] at hcs
    obtain ⟨rfl, rfl, rfl⟩ := hcs
    exact .inr ⟨b, cap, by rw [List.length_map, hn]⟩
end Go.Proofs.Ytgopoeblkconeaa
