/-
  WHAT CAME IN: rows and lists of tuples, their numbers int64; strconv's table.
-/
import Derived.Test.YtghonbnmakggnaaDoorTuCameM
import Derived.Test.YtghonbnmakggnaaDoorHskM
import Derived.OpenShut
namespace Go.Proofs.YtghonbnmakggnaaDoor
set_option maxRecDepth 100000
open Go.RowKit Go.WideShapes Go.ChangeShapes Go.Deep
section
variable {H : Type} {enc : TypeId × Value → H} {W : World}
theorem row_came_wf {v : Value} {fuel : Nat} {x : DataW H × List MemPlace} (h : DataW.trod enc Tryd.prog W 0 (fun _ => true) true fuel 48 [v] = some x) : ∃ r, RowAt W v r ∧ ∀ y ∈ r, Hs.I64 y.2 := by
  rcases open_slice_pairs Tryd.underlying48 Tryd.underlying33 (by kernel_rfl) (by kernel_rfl) (by kernel_rfl) (by kernel_rfl) (by kernel_rfl) h with ⟨hv, _⟩ | ⟨a, len, cap, m, n, V0, V1, D0, D1, P0, P1, hv, _, hl, _, hm, _, hx⟩
  · obtain rfl : v = .slice none 0 0 := by simpa using hv
    exact ⟨[], RowAt.nil W, fun y hy => by cases hy⟩
  · obtain rfl : v = .slice (some a) len cap := by simpa using hv
    simp only [if_true] at hm
    have each : ∀ i, i < len → ∃ y : Vl, V0 i = .bool y.1 ∧ V1 i = .int .i64 y.2 ∧ Hs.I64 y.2 := by
      intro i hi
      obtain ⟨_, _, h0, h1⟩ := hx i (by omega)
      obtain ⟨b, hb, _⟩ := DataW.trod_bool Tryd.underlying4 h0
      obtain ⟨z, hz, _, hwf⟩ := DataW.trod_int Tryd.underlying2 h1
      exact ⟨(b, z), by simpa using hb, by simpa using hz, bounds_i64 hwf⟩
    obtain ⟨f, hf⟩ := choose_lt each
    refine ⟨(List.range len).map f, ⟨some a, cap, by simp, by simpa using hl, fun j y hj => ?_⟩, fun y hy => ?_⟩
    · have hjl : j < len := by
        by_cases h : j < len
        · exact h
        · rw [List.getElem?_eq_none (by simp; omega)] at hj; cases hj
      obtain rfl : f j = y := by simpa [hjl] using hj
      obtain ⟨h0, h1, _, _⟩ := hx j (by omega)
      rw [(hf j hjl).1] at h0
      rw [(hf j hjl).2.1] at h1
      obtain ⟨b, o, p⟩ := a
      refine ⟨b, o, p, rfl, ?_, h0, h1⟩
      have := block_lt_of_cell h0
      rwa [add_block] at this
    · obtain ⟨i, hi, rfl⟩ := List.mem_map.1 hy
      exact (hf i (List.mem_range.1 hi)).2.2
/-- rows that came in -/
theorem rows_came_wf {A0 : Option Addr} {n0 c0 : Nat} {d : DataW H} {p : List MemPlace} (h : DataW.Trod enc Tryd.prog W 0 (fun _ => true) true 25 (.slice A0 n0 c0) d p) :
    ∃ rs, RwsOn Al W (.slice A0 n0 c0) rs ∧ ∀ r ∈ rs, ∀ y ∈ r, Hs.I64 y.2 := by
  obtain ⟨fuel, hf⟩ := h
  rcases open_slice1 Tryd.underlying25 (by kernel_rfl) hf with ⟨hv, _⟩ | ⟨a, len, cap, m, n, V, D, Pl, hv, _, hl, _, hm, _, hx⟩
  · simp only [Value.cells, List.cons.injEq, Value.slice.injEq, and_true] at hv
    obtain ⟨rfl, rfl, rfl⟩ := hv
    exact ⟨[], RwsOn.nil _ _, fun r hr => by cases hr⟩
  · simp only [Value.cells, List.cons.injEq, Value.slice.injEq, and_true] at hv
    obtain ⟨rfl, rfl, rfl⟩ := hv
    simp only [if_true] at hm
    have each : ∀ i, i < n0 → ∃ r, RowAt W (V i) r ∧ ∀ y ∈ r, Hs.I64 y.2 := fun i hi => row_came_wf (hx i (by omega)).2
    obtain ⟨f, hf⟩ := choose_lt each
    have hs : Sl W (.slice (some a) n0 c0) ((List.range n0).map V) := by
      refine ⟨some a, c0, by simp, by simpa using hl, fun j u hu => ?_⟩
      have hj : j < n0 := by
        by_cases h : j < n0
        · exact h
        · rw [List.getElem?_eq_none (by simp; omega)] at hu; cases hu
      obtain rfl : V j = u := by simpa [hj] using hu
      have hc := (hx j (by omega)).1
      obtain ⟨b, o, p⟩ := a
      refine ⟨b, o, p, rfl, ?_, hc⟩
      have := block_lt_of_cell hc
      rwa [add_block] at this
    refine ⟨(List.range n0).map f, rws_al (vs := (List.range n0).map V) ⟨hs, by simp, fun i r hr => ?_⟩, fun r hr => ?_⟩
    · have hi : i < n0 := by
        by_cases h : i < n0
        · exact h
        · rw [List.getElem?_eq_none (by simp; omega)] at hr; cases hr
      obtain rfl : f i = r := by simpa [hi] using hr
      exact ⟨V i, by simp [hi], (hf i hi).1⟩
    · obtain ⟨i, hi, rfl⟩ := List.mem_map.1 hr
      exact (hf i (List.mem_range.1 hi)).2
/-- lists of tuples that came in -/
theorem tuples_came_wf {A0 : Option Addr} {n0 c0 : Nat} {d : DataW H} {p : List MemPlace} (h : DataW.Trod enc Tryd.prog W 0 (fun _ => true) true 27 (.slice A0 n0 c0) d p) :
    ∃ ts, TusOn Al W (.slice A0 n0 c0) ts ∧ Formed (.slice A0 n0 c0) ∧ ∀ t ∈ ts, ∀ r ∈ t, ∀ y ∈ r, Hs.I64 y.2 := by
  obtain ⟨fuel, hf⟩ := h
  rcases DataW.trod_slice Tryd.underlying27 hf with ⟨hv, _⟩ | ⟨a, len, cap, elems, rest, m, hm, hv, _, _, hl, hcap, hlen, hel, _, _⟩
  · simp only [Value.cells, List.cons.injEq, Value.slice.injEq, and_true] at hv
    obtain ⟨rfl, rfl, rfl⟩ := hv
    exact ⟨[], TusOn.nil _ _, .inl rfl, fun t ht => by cases ht⟩
  · simp only [Value.cells, List.cons.injEq, Value.slice.injEq, and_true] at hv
    obtain ⟨rfl, rfl, rfl⟩ := hv
    rw [show Tryd.prog.cellsOf 25 = 1 by kernel_rfl] at hel
    have each : ∀ i, i < n0 → ∃ x : Value × List (List Vl), W.cell? (a.add i) = some x.1 ∧ RwsOn Al W x.1 x.2 ∧ ∀ r ∈ x.2, ∀ y ∈ r, Hs.I64 y.2 := by
      intro i hi
      have h1 := hel i hi
      rw [List.getElem?_eq_getElem (by omega)] at h1
      obtain ⟨cs', h2, h3⟩ := Option.bind_eq_some_iff.1 h1
      obtain ⟨_, hcl, hc⟩ := World.cells?_some h2
      have h0 := hc 0 (by decide)
      have e0 : (a.add (i * 1)).add 0 = a.add i := by unfold Addr.add; simp
      rw [e0] at h0
      match cs', hcl with
      | [u], _ =>
        change W.cell? (a.add i) = some u at h0
        obtain ⟨A1, n1, c1, rfl⟩ : ∃ A n c, u = .slice A n c := by
          rcases DataW.trod_slice Tryd.underlying25 h3 with ⟨hv, _⟩ | ⟨a, len, cap, _, _, _, _, hv, _⟩
          · exact ⟨none, 0, 0, by simpa using hv⟩
          · exact ⟨some a, len, cap, by simpa using hv⟩
        obtain ⟨rs, hr, hw⟩ := rows_came_wf (A0 := A1) (n0 := n1) (c0 := c1) ⟨_, h3⟩
        exact ⟨(.slice A1 n1 c1, rs), h0, hr, hw⟩
    obtain ⟨ds, hdl, hds⟩ := list_of (α := Value × List (List Vl)) (Q := fun (i : Nat) (x : Value × List (List Vl)) => W.cell? (a.add i) = some x.1 ∧ RwsOn Al W x.1 x.2 ∧ ∀ r ∈ x.2, ∀ y ∈ r, Hs.I64 y.2) n0 each
    refine ⟨ds.map Prod.snd, ⟨ds.map Prod.fst, ⟨some a, c0, by rw [List.length_map, hdl], by rw [List.length_map]; omega, fun j u hj => ?_⟩, by rw [List.length_map, List.length_map], fun i t hi => ?_⟩, .inr ⟨a, n0, c0, rfl⟩, fun t ht => ?_⟩
    · rw [List.getElem?_map] at hj
      cases hx : ds[j]? with
      | none => rw [hx] at hj; cases hj
      | some x =>
        rw [hx] at hj
        cases hj
        obtain ⟨h0, _⟩ := hds j x hx
        obtain ⟨b, o, s⟩ := a
        refine ⟨b, o, s, rfl, trivial, ?_, h0⟩
        have := block_lt_of_cell h0
        rwa [add_block] at this
    · rw [List.getElem?_map] at hi
      cases hx : ds[i]? with
      | none => rw [hx] at hi; cases hi
      | some x =>
        rw [hx] at hi
        cases hi
        exact ⟨x.1, by rw [List.getElem?_map, hx]; rfl, (hds i x hx).2.1⟩
    · obtain ⟨x, hx, rfl⟩ := List.mem_map.1 ht
      obtain ⟨i, hi, rfl⟩ := List.mem_iff_getElem.1 hx
      exact (hds i _ (List.getElem?_eq_getElem hi)).2.2
end
theorem gPow15 : Tryd.prog.globalNamed "internal/strconv.uint64pow10" = some 0 := by kernel_rfl
theorem gPowType15 : (Tryd.prog.globals[0]?).map (·.type) = some 108 := by kernel_rfl
theorem cells2015 : Tryd.prog.cellsOf 108 = 20 := by kernel_rfl
theorem cellsU15 : Tryd.prog.cellsOf 23 = 1 := by kernel_rfl
theorem pows_of {W : World} {l : List (String × DataW Unit)} (h : laidMet Tryd.prog l W) (m1 : ("internal/strconv.uint64pow10", Lib.tabData .u64 Lib.pow10Tab) ∈ l) : Pows W := by
  obtain ⟨g, t, cs, fuel, p0, h1, h2, h3, h4⟩ := laid_at h m1
  obtain rfl := Option.some.inj (gPow15.symm.trans h1)
  obtain rfl := Option.some.inj (gPowType15.symm.trans h2)
  unfold Pows Lib.TabIs
  rw [h3, ← Lib.cells_of_tab Tryd.underlying108 Tryd.underlying23 cellsU15 cells2015 h4]
end Go.Proofs.YtghonbnmakggnaaDoor
