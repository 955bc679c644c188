/-
  WHAT CAME IN: data, their numbers int64.
-/
import Derived.Test.YtpaaibghfhnicaaGreatDoorGCkC
import Derived.Test.YtpaaibghfhnicaaGreatDoorGHsB
namespace Go.Proofs.YtpaaibghfhnicaaGreatDoor
set_option maxRecDepth 100000
open Go.RowKit Go.WideShapes Go.ChangeShapes Go.Deep
section
variable {H : Type} {enc : TypeId × Value → H} {W : World}
/-- lists of rows that came in, their numbers int64 -/
theorem data_came_wf {n : Nat} {v : Value} {y : DataW H × List MemPlace} (h : DataW.trod enc Tryz.prog W 0 (fun _ => true) true n 30 [v] = some y) : ∃ d, Dts W v d ∧ ∀ rs ∈ d, ∀ x ∈ rs, ∀ y ∈ x, Hs.I64 y.2 := by
  rcases DataW.trod_slice Tryz.underlying30 h with ⟨hv, _⟩ | ⟨a, len, cap, elems, rest, m, hm, hv, _, _, hl, hcap, hlen, hel, _, _⟩
  · obtain rfl : v = .slice none 0 0 := by simpa using hv
    exact ⟨[], ⟨none, 0, rfl, by simp, fun j u hu => by simp at hu⟩, fun rs hrs => by simp at hrs⟩
  · obtain rfl : v = .slice (some a) len cap := by simpa using hv
    rw [show Tryz.prog.cellsOf 36 = 1 by kernel_rfl] at hel
    have each : ∀ i, i < len → ∃ rs : List (List Vl), ∃ (B : Option Addr) (e : Nat), W.cell? (a.add i) = some (.slice B rs.length e) ∧ Rws W (.slice B rs.length e) rs ∧ ∀ x ∈ rs, ∀ y ∈ x, Hs.I64 y.2 := by
      intro i hi
      have h1 := hel i hi
      rw [List.getElem?_eq_getElem (by omega)] at h1
      obtain ⟨cs', h2, h3⟩ := Option.bind_eq_some_iff.1 h1
      obtain ⟨_, hcl, hc⟩ := World.cells?_some h2
      have h0 := hc 0 (by decide)
      have e0 : (a.add (i * 1)).add 0 = a.add i := by unfold Addr.add; simp
      rw [e0] at h0
      match cs', hcl with
      | [u], _ =>
        change W.cell? (a.add i) = some u at h0
        obtain ⟨A0, n0, c0, rfl⟩ : ∃ A n c, u = .slice A n c := by
          rcases DataW.trod_slice Tryz.underlying36 h3 with ⟨hv, _⟩ | ⟨a, len, cap, _, _, _, _, hv, _⟩
          · exact ⟨none, 0, 0, by simpa using hv⟩
          · exact ⟨some a, len, cap, by simpa using hv⟩
        obtain ⟨rs, hr0, hy⟩ := rows_came_wf (A0 := A0) (n0 := n0) (c0 := c0) ⟨_, h3⟩
        have hr := hr0.rws
        obtain ⟨A1, c1, hv1, _⟩ := hr.at_
        cases hv1
        exact ⟨rs, A0, c0, h0, hr, hy⟩
    obtain ⟨ds, hdl, hds⟩ := list_of (α := List (List Vl)) (Q := fun (i : Nat) (rs : List (List Vl)) => ∃ (B : Option Addr) (e : Nat), W.cell? (a.add i) = some (.slice B rs.length e) ∧ Rws W (.slice B rs.length e) rs ∧ ∀ x ∈ rs, ∀ y ∈ x, Hs.I64 y.2) len each
    refine ⟨ds, ⟨some a, cap, by rw [hdl], by omega, fun j rs hj => ?_⟩, fun rs hrs => by
      obtain ⟨j, hj, rfl⟩ := List.mem_iff_getElem.1 hrs
      obtain ⟨_, _, _, _, h2⟩ := hds j _ (List.getElem?_eq_getElem hj)
      exact h2⟩
    obtain ⟨B, e, h0, h1, _⟩ := hds j rs hj
    obtain ⟨b, o, p⟩ := a
    refine ⟨b, o, p, B, e, rfl, ?_, h0, h1⟩
    have := block_lt_of_cell h0
    rwa [add_block] at this
/-- .. by value -/
theorem datav_came_wf {r : Reach} {b0 : Nat} {v : Value} {d : DataW H} {p : List MemPlace} (hv : Value.okWide Tryz.prog W r b0 30 v) (h : DataW.Trod enc Tryz.prog W 0 (fun _ => true) true 30 v d p) : ∃ dd, Dts W v dd ∧ ∀ rs ∈ dd, ∀ x ∈ rs, ∀ y ∈ x, Hs.I64 y.2 := by
  obtain ⟨A, n, c, rfl⟩ := okWide_slice Tryz.underlying30 hv
  obtain ⟨fuel, hf⟩ := h
  exact data_came_wf hf
end
theorem tab_of16 {W : World} {l : List (String × DataW Unit)} (h : laidMet Tryz.prog l W) (m1 : ("math/bits.deBruijn64tab", Lib.tabData .u8 (Lib.deBruijn64tab.map Int.ofNat)) ∈ l) : Tab W := by
  have ht : Lib.TabIs Tryz.prog W "math/bits.deBruijn64tab" .u8 (Lib.deBruijn64tab.map Int.ofNat) := by
    obtain ⟨g, t, cs, fuel, p0, h1, h2, h3, h4⟩ := laid_at h m1
    obtain rfl := Option.some.inj (gTab13.symm.trans h1)
    obtain rfl := Option.some.inj (gTabType13.symm.trans h2)
    unfold Lib.TabIs
    rw [h3, ← Lib.cells_of_tab Tryz.underlying138 Tryz.underlying5 cellsElem13 cellsArr13 h4]
  intro j hj
  have hl : j < (Lib.deBruijn64tab.map Int.ofNat).length := by rw [List.length_map]; exact hj
  rw [ht.cell gTab13 j hl]
  simp [List.getD, hj]
end Go.Proofs.YtpaaibghfhnicaaGreatDoor
