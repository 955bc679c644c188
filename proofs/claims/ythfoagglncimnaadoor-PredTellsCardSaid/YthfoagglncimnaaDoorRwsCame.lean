/-
  WHAT CAME IN: rows of values; a term by value.
-/
import Derived.Test.YthfoagglncimnaaDoorRows
import Derived.Test.YthfoagglncimnaaDoorRws
import Derived.Test.YthfoagglncimnaaDoorSeq
import Derived.Test.YthfoagglncimnaaDoorPost
import Derived.Deep.SlicePairs
import Derived.Deep.Fields
import Derived.Lib.SmallJoins
namespace Go.Proofs.YthfoagglncimnaaDoor
open Go.RowKit Go.WideShapes Go.ChangeShapes Go.Deep
section
variable {H : Type} {enc : TypeId × Value → H} {W : World}

theorem row_came {v : Value} {fuel : Nat} {x : DataW H × List MemPlace} (h : DataW.trod enc Tryd.prog W 0 (fun _ => true) true fuel 45 [v] = some x) : ∃ r, RowAt W v r := by
  rcases open_slice_pairs Tryd.underlying45 Tryd.underlying23 (by kernel_rfl) (by kernel_rfl) (by kernel_rfl) (by kernel_rfl) (by kernel_rfl) h with ⟨hv, _⟩ | ⟨a, len, cap, m, n, V0, V1, D0, D1, P0, P1, hv, _, hl, _, hm, _, hx⟩
  · obtain rfl : v = .slice none 0 0 := by simpa using hv
    exact ⟨[], RowAt.nil W⟩
  · obtain rfl : v = .slice (some a) len cap := by simpa using hv
    simp only [if_true] at hm
    have each : ∀ i, i < len → ∃ y : Vl, V0 i = .bool y.1 ∧ V1 i = .int .i64 y.2 := by
      intro i hi
      obtain ⟨_, _, h0, h1⟩ := hx i (by omega)
      obtain ⟨b, hb, _⟩ := DataW.trod_bool Tryd.underlying4 h0
      obtain ⟨z, hz, _, _⟩ := DataW.trod_int Tryd.underlying2 h1
      exact ⟨(b, z), by simpa using hb, by simpa using hz⟩
    obtain ⟨f, hf⟩ := choose_lt each
    refine ⟨(List.range len).map f, some a, cap, by simp, by simpa using hl, fun j y hj => ?_⟩
    have hjl : j < len := by
      by_cases h : j < len
      · exact h
      · rw [List.getElem?_eq_none (by simp; omega)] at hj; cases hj
    obtain rfl : f j = y := by simpa [hjl] using hj
    obtain ⟨h0, h1, _, _⟩ := hx j (by omega)
    rw [(hf j hjl).1] at h0
    rw [(hf j hjl).2] at h1
    obtain ⟨b, o, p⟩ := a
    refine ⟨b, o, p, rfl, ?_, h0, h1⟩
    have := block_lt_of_cell h0
    rwa [add_block] at this
/-- rows that came in: their own slice values; nil, or at an address -/
theorem rws_came {A0 : Option Addr} {n0 c0 : Nat} {d : DataW H} {p : List MemPlace} (h : DataW.Trod enc Tryd.prog W 0 (fun _ => true) true 29 (.slice A0 n0 c0) d p) :
    ∃ vs rs, RwsOf W (.slice A0 n0 c0) vs rs ∧ Came1 W (.slice A0 n0 c0) vs ∧ ∀ u ∈ vs, u.oneCell' = true := by
  obtain ⟨fuel, hf⟩ := h
  rcases open_slice1 Tryd.underlying29 (by kernel_rfl) hf with ⟨hv, _⟩ | ⟨a, len, cap, m, n, V, D, Pl, hv, _, hl, _, hm, _, hx⟩
  · simp only [Value.cells, List.cons.injEq, Value.slice.injEq, and_true] at hv
    obtain ⟨rfl, rfl, rfl⟩ := hv
    have hs : Sl W (.slice none 0 0) [] := ⟨none, 0, rfl, Nat.le_refl _, fun j u h => by simp at h⟩
    exact ⟨[], [], ⟨hs, rfl, fun i r h => by simp at h⟩, ⟨hs, .inl ⟨rfl, rfl⟩⟩, by simp⟩
  · simp only [Value.cells, List.cons.injEq, Value.slice.injEq, and_true] at hv
    obtain ⟨rfl, rfl, rfl⟩ := hv
    simp only [if_true] at hm
    have each : ∀ i, i < n0 → ∃ r, RowAt W (V i) r := fun i hi => row_came (hx i (by omega)).2
    obtain ⟨f, hf⟩ := choose_lt each
    have hs : Sl W (.slice (some a) n0 c0) ((List.range n0).map V) := by
      refine ⟨some a, c0, by simp, by simpa using hl, fun j u hu => ?_⟩
      have hj : j < n0 := by
        by_cases h : j < n0
        · exact h
        · rw [List.getElem?_eq_none (by simp; omega)] at hu; cases hu
      obtain rfl : V j = u := by simpa [hj] using hu
      have hc := (hx j (by omega)).1
      obtain ⟨b, o, p⟩ := a
      refine ⟨b, o, p, rfl, ?_, hc⟩
      have := block_lt_of_cell hc
      rwa [add_block] at this
    refine ⟨(List.range n0).map V, (List.range n0).map f, ⟨hs, by simp, fun i r hr => ?_⟩, ⟨hs, .inr ⟨a, c0, by simp⟩⟩, fun u hu => ?_⟩
    · have hi : i < n0 := by
        by_cases h : i < n0
        · exact h
        · rw [List.getElem?_eq_none (by simp; omega)] at hr; cases hr
      obtain rfl : f i = r := by simpa [hi] using hr
      exact ⟨V i, by simp [hi], hf i hi⟩
    · obtain ⟨i, hi, rfl⟩ := List.mem_map.1 hu
      obtain ⟨B, c, hB, _⟩ := hf i (List.mem_range.1 hi)
      rw [hB]
      rfl
/-- one field of a struct that came in -/
theorem fld_came {P : Program} {sp : Nat → Bool} {fs : Array Field} {cs : List Value} {ys : List (DataW H × List MemPlace)} {n : Nat} (hg : ∀ (i : Nat) (f : Field), fs[i]? = some f → DataW.trod enc P W 0 sp true n f.type ((cs.drop f.offset).take (P.cellsOf f.type)) = ys[i]?)
    (i : Nat) (T : TypeId) (o c : Nat) (hf : (fs[i]?).map (fun f => (f.type, f.offset)) = some (T, o)) (hc : P.cellsOf T = c) (hl : ys.length = fs.size) : ∃ y, ys[i]? = some y ∧ DataW.trod enc P W 0 sp true n T ((cs.drop o).take c) = some y := by
  obtain ⟨f, hfi, he⟩ := Option.map_eq_some_iff.1 hf
  simp only [Prod.mk.injEq] at he
  obtain ⟨rfl, rfl⟩ := he
  have hi : i < ys.length := by rw [hl]; exact (Array.getElem?_eq_some_iff.1 hfi).1
  have := hg i f hfi
  rw [hc, List.getElem?_eq_getElem hi] at this
  exact ⟨_, List.getElem?_eq_getElem hi, this⟩
/-- a term by value that came in -/
theorem term_came {r : Reach} {b0 : Nat} {v : Value} {d : DataW H} {p : List MemPlace} (hv : Value.okWide Tryd.prog W r b0 25 v) (h : DataW.Trod enc Tryd.prog W 0 (fun _ => true) true 25 v d p) :
    ∃ (k t c : Int) (z : Bool) (n : Int), v = .agg #[.int .i64 k, .int .i64 t, .int .i64 c, .bool z, .int .i64 n] := by
  obtain ⟨cs, rfl, hsz⟩ := okWide_struct Tryd.underlying25 hv
  obtain ⟨l⟩ := cs
  match l, hsz.trans (show Tryd.prog.cellsOf 25 = 5 by kernel_rfl) with
  | [c0, c1, c2, c3, c4], _ =>
    obtain ⟨fuel, hf⟩ := h
    obtain ⟨xs, n, _, _, _, hlen, hg⟩ := DataW.trod_struct Tryd.underlying25 hf
    obtain ⟨_, _, g0⟩ := fld_came hg 0 3 0 1 rfl (by kernel_rfl) hlen
    obtain ⟨_, _, g1⟩ := fld_came hg 1 3 1 1 rfl (by kernel_rfl) hlen
    obtain ⟨_, _, g2⟩ := fld_came hg 2 3 2 1 rfl (by kernel_rfl) hlen
    obtain ⟨_, _, g3⟩ := fld_came hg 3 23 3 2 rfl (by kernel_rfl) hlen
    obtain ⟨k, hk, _, _⟩ := DataW.trod_int Tryd.underlying3 g0
    obtain ⟨t, ht, _, _⟩ := DataW.trod_int Tryd.underlying3 g1
    obtain ⟨c, hc, _, _⟩ := DataW.trod_int Tryd.underlying3 g2
    obtain ⟨zs, m, _, _, _, hlen2, hq⟩ := DataW.trod_struct Tryd.underlying23 g3
    obtain ⟨_, _, q0⟩ := fld_came hq 0 4 0 1 rfl (by kernel_rfl) hlen2
    obtain ⟨_, _, q1⟩ := fld_came hq 1 2 1 1 rfl (by kernel_rfl) hlen2
    obtain ⟨z, hz, _⟩ := DataW.trod_bool Tryd.underlying4 q0
    obtain ⟨i, hi, _, _⟩ := DataW.trod_int Tryd.underlying2 q1
    simp [Value.cells] at hk ht hc hz hi
    exact ⟨k, t, c, z, i, by rw [hk, ht, hc, hz, hi]⟩
end
end Go.Proofs.YthfoagglncimnaaDoor
