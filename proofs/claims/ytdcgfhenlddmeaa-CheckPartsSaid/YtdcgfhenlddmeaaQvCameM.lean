/-
  WHAT CAME IN: queries, data.
-/
import Derived.Test.YtdcgfhenlddmeaaTrCameM
import Derived.Test.YtdcgfhenlddmeaaGCame
import Derived.Test.YtdcgfhenlddmeaaCkwM
namespace Go.Proofs.Ytdcgfhenlddmeaa
set_option maxRecDepth 100000
open Go.RowKit Go.WideShapes Go.ChangeShapes Go.Deep

section
variable {H : Type} {enc : TypeId × Value → H} {W : World}
/-- numbers that came in -/
theorem ints_came (n : Nat) (v : Value) (y : DataW H × List MemPlace) (h : DataW.trod enc Try.prog W 0 (fun _ => true) true n 22 [v] = some y) : ∃ l : List Int, Sl W v (l.map (Value.int .i64)) := by
  rcases DataW.trod_slice Try.underlying22 h with ⟨hv, _⟩ | ⟨a, len, cap, elems, rest, m, hm, hv, _, _, hl, hcap, hlen, hel, _, _⟩
  · obtain rfl : v = .slice none 0 0 := by simpa using hv
    exact ⟨[], none, 0, rfl, by simp, fun j u hu => by simp at hu⟩
  · obtain rfl : v = .slice (some a) len cap := by simpa using hv
    rw [show Try.prog.cellsOf 3 = 1 by kernel_rfl] at hel
    have each : ∀ i, i < len → ∃ k : Int, W.cell? (a.add i) = some (.int .i64 k) := by
      intro i hi
      have h1 := hel i hi
      rw [List.getElem?_eq_getElem (by omega)] at h1
      obtain ⟨cs', h2, h3⟩ := Option.bind_eq_some_iff.1 h1
      obtain ⟨k, hk, _, _⟩ := DataW.trod_int Try.underlying3 h3
      obtain ⟨_, _, hc⟩ := World.cells?_some h2
      have h0 := hc 0 (by decide)
      rw [hk] at h0
      have e0 : (a.add (i * 1)).add 0 = a.add i := by unfold Addr.add; simp
      rw [e0] at h0
      exact ⟨k, h0⟩
    obtain ⟨f, hf⟩ := choose_lt each
    refine ⟨(List.range len).map f, some a, cap, by simp, by simpa using (by omega), fun j u hu => ?_⟩
    have hj : j < len := by
      by_cases h : j < len
      · exact h
      · rw [List.getElem?_eq_none (by simp; omega)] at hu; cases hu
    obtain rfl : Value.int .i64 (f j) = u := by simpa [hj] using hu
    obtain ⟨b, o, p⟩ := a
    refine ⟨b, o, p, rfl, ?_, hf j hj⟩
    have := block_lt_of_cell (hf j hj)
    rwa [add_block] at this
/-- lists of rows that came in -/
theorem data_came11 {n : Nat} {v : Value} {y : DataW H × List MemPlace} (h : DataW.trod enc Try.prog W 0 (fun _ => true) true n 30 [v] = some y) : ∃ d, Dts W v d := by
  rcases DataW.trod_slice Try.underlying30 h with ⟨hv, _⟩ | ⟨a, len, cap, elems, rest, m, hm, hv, _, _, hl, hcap, hlen, hel, _, _⟩
  · obtain rfl : v = .slice none 0 0 := by simpa using hv
    exact ⟨[], none, 0, rfl, by simp, fun j u hu => by simp at hu⟩
  · obtain rfl : v = .slice (some a) len cap := by simpa using hv
    rw [show Try.prog.cellsOf 52 = 1 by kernel_rfl] at hel
    have each : ∀ i, i < len → ∃ rs : List (List Vl), ∃ (B : Option Addr) (e : Nat), W.cell? (a.add i) = some (.slice B rs.length e) ∧ Rws W (.slice B rs.length e) rs := by
      intro i hi
      have h1 := hel i hi
      rw [List.getElem?_eq_getElem (by omega)] at h1
      obtain ⟨cs', h2, h3⟩ := Option.bind_eq_some_iff.1 h1
      obtain ⟨_, hcl, hc⟩ := World.cells?_some h2
      have h0 := hc 0 (by decide)
      have e0 : (a.add (i * 1)).add 0 = a.add i := by unfold Addr.add; simp
      rw [e0] at h0
      match cs', hcl with
      | [u], _ =>
        change W.cell? (a.add i) = some u at h0
        obtain ⟨A0, n0, c0, rfl⟩ : ∃ A n c, u = .slice A n c := by
          rcases DataW.trod_slice Try.underlying52 h3 with ⟨hv, _⟩ | ⟨a, len, cap, _, _, _, _, hv, _⟩
          · exact ⟨none, 0, 0, by simpa using hv⟩
          · exact ⟨some a, len, cap, by simpa using hv⟩
        obtain ⟨vs, rs, hr, _, _⟩ := rws_came (A0 := A0) (n0 := n0) (c0 := c0) ⟨_, h3⟩
        obtain ⟨A1, c1, hv1, _⟩ := (show Rws W (.slice A0 n0 c0) rs from ⟨vs, hr⟩).at_
        cases hv1
        exact ⟨rs, A0, c0, h0, vs, hr⟩
    obtain ⟨ds, hdl, hds⟩ := list_of (α := List (List Vl)) (Q := fun (i : Nat) (rs : List (List Vl)) => ∃ (B : Option Addr) (e : Nat), W.cell? (a.add i) = some (.slice B rs.length e) ∧ Rws W (.slice B rs.length e) rs) len each
    refine ⟨ds, some a, cap, by rw [hdl], by omega, fun j rs hj => ?_⟩
    obtain ⟨B, e, h0, h1⟩ := hds j rs hj
    obtain ⟨b, o, p⟩ := a
    refine ⟨b, o, p, B, e, rfl, ?_, h0, h1⟩
    have := block_lt_of_cell h0
    rwa [add_block] at this
/-- data by value that came in -/
theorem datav_came {r : Reach} {b0 : Nat} {v : Value} {d : DataW H} {p : List MemPlace} (hv : Value.okWide Try.prog W r b0 30 v) (h : DataW.Trod enc Try.prog W 0 (fun _ => true) true 30 v d p) : ∃ dd, Dts W v dd := by
  obtain ⟨A, n, c, rfl⟩ := okWide_slice Try.underlying30 hv
  obtain ⟨fuel, hf⟩ := h
  exact data_came11 hf
/-- a query by value that came in -/
theorem query_came {r : Reach} {b0 : Nat} {v : Value} {d : DataW H} {p : List MemPlace} (hv : Value.okWide Try.prog W r b0 28 v) (h : DataW.Trod enc Try.prog W 0 (fun _ => true) true 28 v d p) :
    ∃ (cols : List Int) (a : Tr) (cv x y : Value), v = .agg #[cv, .int .i64 a.k, .int .i64 a.t, x, y, .bool a.h] ∧ Sl W cv (cols.map (Value.int .i64)) ∧ (∃ D, TsAt D W x a.ks) ∧ PsSome W y a.cs := by
  obtain ⟨⟨cs⟩, rfl, _⟩ := okWide_struct Try.underlying28 hv
  obtain ⟨fuel, hf⟩ := h
  obtain ⟨xs, m, hm, _, hl, hlen, hg⟩ := DataW.trod_struct Try.underlying28 hf
  have hcs : cs.length = 6 := by
    have := hl.trans (show Try.prog.cellsOf 28 = 6 by kernel_rfl)
    exact this
  match cs, hcs with
  | [c0, c1, c2, c3, c4, c5], _ =>
    obtain ⟨_, _, g0⟩ := fld_came hg 0 22 0 1 rfl (by kernel_rfl) hlen
    obtain ⟨_, _, g1⟩ := fld_came hg 1 26 1 5 rfl (by kernel_rfl) hlen
    obtain ⟨l, hsl⟩ := ints_came _ _ _ g0
    obtain ⟨k, t, b, u, v, m', z, z', hcs', _, h4, h5⟩ := tree_cells g1
    obtain ⟨D, ts, hts⟩ := trees_came m' u z h4
    obtain ⟨D', ps, hps⟩ := preds_came m' v z' h5
    have hcs2 : [c1, c2, c3, c4, c5] = [.int .i64 k, .int .i64 t, u, v, .bool b] := hcs'
    simp only [List.cons.injEq, and_true] at hcs2
    obtain ⟨rfl, rfl, rfl, rfl, rfl⟩ := hcs2
    exact ⟨l, .mk k t b ps ts, c0, _, _, rfl, hsl, ⟨D, hts⟩, D', hps⟩
end
end Go.Proofs.Ytdcgfhenlddmeaa
