/-
  WHAT CAME IN: trees.
-/
import Derived.Test.YtdcgfhenlddmeaaTrsM
import Derived.Test.YtdcgfhenlddmeaaGCame
namespace Go.Proofs.Ytdcgfhenlddmeaa
set_option maxRecDepth 100000
open Go.RowKit Go.WideShapes Go.ChangeShapes Go.Deep

section
variable {H : Type} {enc : TypeId × Value → H} {W : World}
/-- a tree's own cells; how what hangs from it reads -/
theorem tree_cells {n : Nat} {cs : List Value} {y : DataW H × List MemPlace} (h : DataW.trod enc Try.prog W 0 (fun _ => true) true n 26 cs = some y) :
    ∃ (k t : Int) (b : Bool) (u v : Value) (m : Nat) (z z' : DataW H × List MemPlace), cs = [.int .i64 k, .int .i64 t, u, v, .bool b] ∧ m < n ∧ DataW.trod enc Try.prog W 0 (fun _ => true) true m 23 [u] = some z ∧ DataW.trod enc Try.prog W 0 (fun _ => true) true m 24 [v] = some z' := by
  obtain ⟨xs, m, hm, _, hl, hlen, hg⟩ := DataW.trod_struct Try.underlying26 h
  match cs, hl.trans (show Try.prog.cellsOf 26 = 5 by kernel_rfl) with
  | [c0, c1, c2, c3, c4], _ =>
    obtain ⟨_, _, g0⟩ := fld_came hg 0 3 0 1 rfl (by kernel_rfl) hlen
    obtain ⟨_, _, g1⟩ := fld_came hg 1 3 1 1 rfl (by kernel_rfl) hlen
    obtain ⟨z, _, g2⟩ := fld_came hg 2 23 2 1 rfl (by kernel_rfl) hlen
    obtain ⟨z', _, g3⟩ := fld_came hg 3 24 3 1 rfl (by kernel_rfl) hlen
    obtain ⟨_, _, g4⟩ := fld_came hg 4 4 4 1 rfl (by kernel_rfl) hlen
    obtain ⟨k, hk, _, _⟩ := DataW.trod_int Try.underlying3 g0
    obtain ⟨t, ht, _, _⟩ := DataW.trod_int Try.underlying3 g1
    obtain ⟨b, hb, _⟩ := DataW.trod_bool Try.underlying4 g4
    simp at hk ht hb
    exact ⟨k, t, b, c2, c3, m, z, z', by rw [hk, ht, hb], by omega, g2, g3⟩
/-- trees that came in -/
theorem trees_came (n : Nat) : ∀ (v : Value) (y : DataW H × List MemPlace), DataW.trod enc Try.prog W 0 (fun _ => true) true n 23 [v] = some y → ∃ d ts, TsAt d W v ts := by
  induction n using Nat.strongRecOn with
  | ind n ih =>
  intro v y h
  rcases DataW.trod_slice Try.underlying23 h with ⟨hv, _⟩ | ⟨a, len, cap, elems, rest, m, hm, hv, _, _, hl, hcap, hlen, hel, _, _⟩
  · obtain rfl : v = .slice none 0 0 := by simpa using hv
    exact ⟨0, [], rfl, none, 0, rfl⟩
  · obtain rfl : v = .slice (some a) len cap := by simpa using hv
    rw [show Try.prog.cellsOf 26 = 5 by kernel_rfl] at hel
    have each : ∀ i, i < len → ∃ d, ∃ (p : Tr) (x y : Value), TrCell W (a.add (i * 5)) p x y ∧ PsSome W y p.cs ∧ TsAt d W x p.ks := by
      intro i hi
      have h1 := hel i hi
      rw [List.getElem?_eq_getElem (by omega)] at h1
      obtain ⟨cs', h2, h3⟩ := Option.bind_eq_some_iff.1 h1
      obtain ⟨k, t, b, u, v, m', z, z', rfl, hk, h4, h5⟩ := tree_cells h3
      obtain ⟨d, ts, hts⟩ := ih m' (by omega) u z h4
      obtain ⟨d', ps, hps⟩ := preds_came m' v z' h5
      obtain ⟨_, _, hc⟩ := World.cells?_some h2
      have hx : ∀ j, 0 < j → (a.add (i * 5)).add j = ⟨(a.add (i * 5)).block, (a.add (i * 5)).off + j, none⟩ := fun j hj => by
        generalize a.add (i * 5) = X
        unfold Addr.add
        rw [if_neg (by omega)]
      have h0 := hc 0 (by decide)
      have e0 : (a.add (i * 5)).add 0 = a.add (i * 5) := by unfold Addr.add; simp
      rw [e0] at h0
      have g := fun j (hj : 0 < j) (hj2 : j < 5) => by have := hc j hj2; rwa [hx j hj] at this
      exact ⟨d, .mk k t b ps ts, u, v, ⟨h0, g 1 (by decide) (by decide), g 2 (by decide) (by decide), g 3 (by decide) (by decide), g 4 (by decide) (by decide)⟩, ⟨d', hps⟩, hts⟩
    obtain ⟨D, hD⟩ := fuel_lt (q := fun i d => ∃ (p : Tr) (x y : Value), TrCell W (a.add (i * 5)) p x y ∧ PsSome W y p.cs ∧ TsAt d W x p.ks) (fun i x z hxz ⟨p, u, v, hp, hs, hu⟩ => ⟨p, u, v, hp, hs, hu.mono hxz⟩) each
    obtain ⟨ps, hpl, hps⟩ := list_of (α := Tr) (Q := fun (i : Nat) (p : Tr) => ∃ x y, TrCell W (a.add (i * 5)) p x y ∧ PsSome W y p.cs ∧ TsAt D W x p.ks) len hD
    refine ⟨D + 1, ps, some a, cap, by rw [hpl], ⟨by unfold maxLen at hcap; omega, by omega⟩, fun j p hj => ?_⟩
    obtain ⟨x, y, hp, hs, hu⟩ := hps j p hj
    obtain ⟨b, o, s⟩ := a
    refine ⟨b, o, s, x, y, rfl, ?_, hp, hs, hu⟩
    have := block_lt_of_cell hp.c0
    rwa [add_block] at this
/-- a tree by value that came in -/
theorem tree_came {r : Reach} {b0 : Nat} {v : Value} {d : DataW H} {p : List MemPlace} (hv : Value.okWide Try.prog W r b0 26 v) (h : DataW.Trod enc Try.prog W 0 (fun _ => true) true 26 v d p) :
    ∃ (a : Tr) (x y : Value), v = .agg #[.int .i64 a.k, .int .i64 a.t, x, y, .bool a.h] ∧ (∃ D, TsAt D W x a.ks) ∧ PsSome W y a.cs := by
  obtain ⟨⟨cs⟩, rfl, _⟩ := okWide_struct Try.underlying26 hv
  obtain ⟨fuel, hf⟩ := h
  obtain ⟨k, t, b, u, v, m, z, z', hcs, _, h4, h5⟩ := tree_cells hf
  obtain ⟨D, ts, hts⟩ := trees_came m u z h4
  obtain ⟨D', ps, hps⟩ := preds_came m v z' h5
  refine ⟨.mk k t b ps ts, u, v, ?_, ⟨D, hts⟩, D', hps⟩
  have : cs = [.int .i64 k, .int .i64 t, u, v, .bool b] := hcs
  rw [this]
  rfl
end
end Go.Proofs.Ytdcgfhenlddmeaa
