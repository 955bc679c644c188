/-
  WHAT CAME IN: a predicate, its numbers int64.
-/
import Derived.Test.YtaodobjekpacoaaGreatDoorGCame
import Derived.Test.YtaodobjekpacoaaGreatDoorTxtM
set_option maxRecDepth 100000
namespace Go.Proofs.YtaodobjekpacoaaGreatDoor
open Go.RowKit Go.WideShapes Go.ChangeShapes Go.Deep
theorem wfs_of : ∀ {ps : List Pd}, (∀ p ∈ ps, Tx.wf p) → Tx.wfs ps
  | [], _ => trivial
  | p :: _, h => ⟨h p List.mem_cons_self, wfs_of fun q hq => h q (List.mem_cons_of_mem _ hq)⟩
section
variable {H : Type} {enc : TypeId × Value → H} {W : World}
/-- a term's cells -/
theorem term_cells_wf {n : Nat} {cs : List Value} {y : DataW H × List MemPlace} (h : DataW.trod enc Tryz.prog W 0 (fun _ => true) true n 25 cs = some y) :
    ∃ x : Tm, cs = [.int .i64 x.k, .int .i64 x.t, .int .i64 x.c, .bool x.z, .int .i64 x.n] ∧ Tx.I64 x.n := by
  obtain ⟨xs, m, _, _, hl, hlen, hg⟩ := DataW.trod_struct Tryz.underlying25 h
  match cs, hl.trans (show Tryz.prog.cellsOf 25 = 5 by kernel_rfl) with
  | [c0, c1, c2, c3, c4], _ =>
    obtain ⟨_, _, g0⟩ := fld_came hg 0 3 0 1 rfl (by kernel_rfl) hlen
    obtain ⟨_, _, g1⟩ := fld_came hg 1 3 1 1 rfl (by kernel_rfl) hlen
    obtain ⟨_, _, g2⟩ := fld_came hg 2 3 2 1 rfl (by kernel_rfl) hlen
    obtain ⟨_, _, g3⟩ := fld_came hg 3 23 3 2 rfl (by kernel_rfl) hlen
    obtain ⟨k, hk, _, _⟩ := DataW.trod_int Tryz.underlying3 g0
    obtain ⟨t, ht, _, _⟩ := DataW.trod_int Tryz.underlying3 g1
    obtain ⟨c, hc, _, _⟩ := DataW.trod_int Tryz.underlying3 g2
    obtain ⟨zs, m, _, _, _, hlen2, hq⟩ := DataW.trod_struct Tryz.underlying23 g3
    obtain ⟨_, _, q0⟩ := fld_came hq 0 4 0 1 rfl (by kernel_rfl) hlen2
    obtain ⟨_, _, q1⟩ := fld_came hq 1 2 1 1 rfl (by kernel_rfl) hlen2
    obtain ⟨z, hz, _⟩ := DataW.trod_bool Tryz.underlying4 q0
    obtain ⟨i, hi, _, hwf⟩ := DataW.trod_int Tryz.underlying2 q1
    simp at hk ht hc hz hi
    exact ⟨⟨k, t, c, z, i⟩, by rw [hk, ht, hc, hz, hi], bounds_i64 hwf⟩
/-- a predicate's own cells; how its parts read -/
theorem pred_cells_wf {n : Nat} {cs : List Value} {y : DataW H × List MemPlace} (h : DataW.trod enc Tryz.prog W 0 (fun _ => true) true n 35 cs = some y) :
    ∃ (f : Pf) (u : Value) (m : Nat) (z : DataW H × List MemPlace), cs = f.cells u ∧ (Tx.I64 f.a.n ∧ Tx.I64 f.b.n) ∧ m < n ∧ DataW.trod enc Tryz.prog W 0 (fun _ => true) true m 33 [u] = some z := by
  obtain ⟨xs, m, hm, _, hl, hlen, hg⟩ := DataW.trod_struct Tryz.underlying35 h
  match cs, hl.trans (show Tryz.prog.cellsOf 35 = 14 by kernel_rfl) with
  | [c0, c1, c2, c3, c4, c5, c6, c7, c8, c9, c10, c11, c12, c13], _ =>
    obtain ⟨_, _, g0⟩ := fld_came hg 0 3 0 1 rfl (by kernel_rfl) hlen
    obtain ⟨_, _, g1⟩ := fld_came hg 1 3 1 1 rfl (by kernel_rfl) hlen
    obtain ⟨_, _, g2⟩ := fld_came hg 2 3 2 1 rfl (by kernel_rfl) hlen
    obtain ⟨_, _, g3⟩ := fld_came hg 3 25 3 5 rfl (by kernel_rfl) hlen
    obtain ⟨_, _, g4⟩ := fld_came hg 4 25 8 5 rfl (by kernel_rfl) hlen
    obtain ⟨z, _, g5⟩ := fld_came hg 5 33 13 1 rfl (by kernel_rfl) hlen
    obtain ⟨k, hk, _, _⟩ := DataW.trod_int Tryz.underlying3 g0
    obtain ⟨u, hu, _, _⟩ := DataW.trod_int Tryz.underlying3 g1
    obtain ⟨o, ho, _, _⟩ := DataW.trod_int Tryz.underlying3 g2
    obtain ⟨a, ha, wa⟩ := term_cells_wf g3
    obtain ⟨b, hb, wb⟩ := term_cells_wf g4
    simp at hk hu ho ha hb
    obtain ⟨a0, a1, a2, a3, a4⟩ := ha
    obtain ⟨b0, b1, b2, b3, b4⟩ := hb
    exact ⟨⟨k, u, o, a, b⟩, c13, m, z, by simp [Pf.cells, hk, hu, ho, a0, a1, a2, a3, a4, b0, b1, b2, b3, b4], ⟨wa, wb⟩, by omega, g5⟩
/-- predicates that came in -/
theorem preds_came_wf (n : Nat) : ∀ (v : Value) (y : DataW H × List MemPlace), DataW.trod enc Tryz.prog W 0 (fun _ => true) true n 33 [v] = some y → ∃ d ps, PsAt d W v ps ∧ Tx.wfs ps := by
  induction n using Nat.strongRecOn with
  | ind n ih =>
  intro v y h
  rcases DataW.trod_slice Tryz.underlying33 h with ⟨hv, _⟩ | ⟨a, len, cap, elems, rest, m, hm, hv, _, _, hl, hcap, hlen, hel, _, _⟩
  · obtain rfl : v = .slice none 0 0 := by simpa using hv
    exact ⟨0, [], ⟨rfl, none, 0, rfl⟩, trivial⟩
  · obtain rfl : v = .slice (some a) len cap := by simpa using hv
    rw [show Tryz.prog.cellsOf 35 = 14 by kernel_rfl] at hel
    have each : ∀ i, i < len → ∃ d, ∃ (p : Pd) (u : Value), PdCell W (a.add (i * 14)) p.f u ∧ PsAt d W u p.ps ∧ Tx.wf p := by
      intro i hi
      have h1 := hel i hi
      rw [List.getElem?_eq_getElem (by omega)] at h1
      obtain ⟨cs', h2, h3⟩ := Option.bind_eq_some_iff.1 h1
      obtain ⟨f, u, k, z, rfl, hwf, hk, h4⟩ := pred_cells_wf h3
      obtain ⟨d, ps, hps, hws⟩ := ih k (by omega) u z h4
      obtain ⟨_, _, hc⟩ := World.cells?_some h2
      have hx : ∀ j, 0 < j → (a.add (i * 14)).add j = ⟨(a.add (i * 14)).block, (a.add (i * 14)).off + j, none⟩ := fun j hj => by
        generalize a.add (i * 14) = X
        unfold Addr.add
        rw [if_neg (by omega)]
      have h0 := hc 0 (by decide)
      have e0 : (a.add (i * 14)).add 0 = a.add (i * 14) := by unfold Addr.add; simp
      rw [e0] at h0
      have g := fun j (hj : 0 < j) (hj2 : j < 14) => by have := hc j hj2; rwa [hx j hj] at this
      exact ⟨d, .mk f ps, u, ⟨h0, g 1 (by decide) (by decide), g 2 (by decide) (by decide), g 3 (by decide) (by decide), g 4 (by decide) (by decide), g 5 (by decide) (by decide), g 6 (by decide) (by decide), g 7 (by decide) (by decide), g 8 (by decide) (by decide), g 9 (by decide) (by decide), g 10 (by decide) (by decide), g 11 (by decide) (by decide), g 12 (by decide) (by decide), g 13 (by decide) (by decide)⟩, hps, ⟨hwf.1, hwf.2, hws⟩⟩
    obtain ⟨D, hD⟩ := fuel_lt (q := fun i d => ∃ (p : Pd) (u : Value), PdCell W (a.add (i * 14)) p.f u ∧ PsAt d W u p.ps ∧ Tx.wf p) (fun i x z hxz ⟨p, u, hp, hu, hw⟩ => ⟨p, u, hp, hu.mono hxz, hw⟩) each
    obtain ⟨ps, hpl, hps⟩ := list_of (α := Pd) (Q := fun (i : Nat) (p : Pd) => ∃ u, PdCell W (a.add (i * 14)) p.f u ∧ PsAt D W u p.ps ∧ Tx.wf p) len hD
    refine ⟨D + 1, ps, ⟨some a, cap, by rw [hpl], by unfold maxLen at hcap; omega, fun j p hj => ?_⟩, wfs_of fun p hp => ?_⟩
    · obtain ⟨u, hp, hu, _⟩ := hps j p hj
      obtain ⟨b, o, s⟩ := a
      refine ⟨b, o, s, u, rfl, ?_, hp, hu⟩
      have := block_lt_of_cell hp.c0
      rwa [add_block] at this
    · obtain ⟨j, hj, hjp⟩ := List.mem_iff_getElem.1 hp
      obtain ⟨u, _, _, hw⟩ := hps j p (by rw [List.getElem?_eq_getElem hj, hjp])
      exact hw
/-- a predicate by value that came in -/
theorem pred_came_wf {r : Reach} {b0 : Nat} {v : Value} {d : DataW H} {p : List MemPlace} (hv : Value.okWide Tryz.prog W r b0 35 v) (h : DataW.Trod enc Tryz.prog W 0 (fun _ => true) true 35 v d p) :
    ∃ (f : Pf) (u : Value) (D : Nat) (ps : List Pd), v = .agg #[.int .i64 f.k, .int .i64 f.u, .int .i64 f.o, .int .i64 f.a.k, .int .i64 f.a.t, .int .i64 f.a.c, .bool f.a.z, .int .i64 f.a.n, .int .i64 f.b.k, .int .i64 f.b.t, .int .i64 f.b.c, .bool f.b.z, .int .i64 f.b.n, u] ∧ PsAt D W u ps ∧ Tx.wf (.mk f ps) := by
  obtain ⟨⟨cs⟩, rfl, _⟩ := okWide_struct Tryz.underlying35 hv
  obtain ⟨fuel, hf⟩ := h
  obtain ⟨f, u, m, z, hcs, hwf, _, h4⟩ := pred_cells_wf hf
  obtain ⟨D, ps, hps, hws⟩ := preds_came_wf m u z h4
  refine ⟨f, u, D, ps, ?_, hps, ⟨hwf.1, hwf.2, hws⟩⟩
  have : cs = f.cells u := hcs
  rw [this]
  rfl
/-- a term by value that came in -/
theorem term_came_wf {r : Reach} {b0 : Nat} {v : Value} {d : DataW H} {p : List MemPlace} (hv : Value.okWide Tryz.prog W r b0 25 v) (h : DataW.Trod enc Tryz.prog W 0 (fun _ => true) true 25 v d p) :
    ∃ (k t c : Int) (z : Bool) (n : Int), v = .agg #[.int .i64 k, .int .i64 t, .int .i64 c, .bool z, .int .i64 n] ∧ Tx.I64 n := by
  obtain ⟨⟨cs⟩, rfl, _⟩ := okWide_struct Tryz.underlying25 hv
  obtain ⟨fuel, hf⟩ := h
  obtain ⟨x, hcs, hw⟩ := term_cells_wf hf
  refine ⟨x.k, x.t, x.c, x.z, x.n, ?_, hw⟩
  have : cs = _ := hcs
  rw [this]
end
end Go.Proofs.YtaodobjekpacoaaGreatDoor
