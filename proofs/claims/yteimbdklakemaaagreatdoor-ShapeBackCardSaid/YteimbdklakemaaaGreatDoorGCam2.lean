/-
  LAID TOGETHER, BY PROGRAM, of: Post, RwsCame, PdCame, PdsCame, Laidv, WantLaid, Trh, Tri, Trb, Trc, Trd, Trg, Trp, Trt, TrCame, PdWf, TrWf, TextLaid, ShLaid.
-/
import Derived.Test.YteimbdklakemaaaGreatDoorGBase
import Derived.Test.YteimbdklakemaaaGreatDoorRows
import Derived.Test.YteimbdklakemaaaGreatDoorGLogs
import Derived.Test.YteimbdklakemaaaGreatDoorGPred
import Derived.Test.YteimbdklakemaaaGreatDoorGOwn
import Derived.Test.YteimbdklakemaaaGreatDoorTrfM
import Derived.Test.YteimbdklakemaaaGreatDoorTraM
import Derived.Test.YteimbdklakemaaaGreatDoorTrnM
import Derived.Test.YteimbdklakemaaaGreatDoorTrsM
import Derived.Test.YteimbdklakemaaaGreatDoorTxtM
import Derived.Test.YteimbdklakemaaaGreatDoorShmM
import Derived.Test.YteimbdklakemaaaGreatDoorValbM
import Derived.Test.YteimbdklakemaaaGreatDoorShrM
import Derived.Below
import Derived.ChangeSame
import Derived.ProofKit
import Derived.Carry
import Derived.OpenShut
import Derived.Deep.SlicePairs
import Derived.Deep.Fields
import Derived.Lib.SmallJoins
import Derived.Lib.LaidTab
import Derived.ChangeArms
import Derived.WalkKit
import Derived.Lib.QuietBelow
import Derived.BigQuiet
/-
  THE LAST STEP OF EVERY LAW's ROW: the call has answered true, and whatever lay before lies as it lay: so each argument reads as it read before, whatever its type. And: a slice of numbers that came in, as a list.
-/
namespace Go.Proofs.YteimbdklakemaaaGreatDoor
open Go.RowKit Go.WideShapes Go.ChangeShapes
theorem trodAll_kept {H : Type} {enc : TypeId × Value → H} {P : Program} {A B : World} (laid : laidOutB P = true) (kept : Below A.heap.size A B) :
    ∀ (ts : List TypeId) {vs : List Value} {ds : List (DataW H)} {ps : List MemPlace}, (ts.all fun t => P.readableRec t && decide (t < P.types.size)) = true →
      DataW.TrodAll enc P A 0 (fun _ => true) true ts vs ds ps → (∀ x ∈ ps, x.block < A.heap.size) → DataW.TrodAll enc P B 0 (fun b => decide (b < A.heap.size)) true ts vs ds ps
  | [], _, _, _, _, h, _ => by
    obtain ⟨rfl, rfl, rfl⟩ := trodAll_nil h
    exact trodAll_mk0
  | t :: ts, _, _, _, hr, h, hlt => by
    obtain ⟨v, vs, d, ds, p, q, rfl, rfl, rfl, h0, h1⟩ := trodAll_cons h
    simp only [List.all_cons, Bool.and_eq_true] at hr
    exact trodAll_cons_mk (Below.trod laid hr.1.1 (of_decide_eq_true hr.1.2) h0 kept (fun x hx => hlt x (List.mem_append.2 (.inl hx))))
      (trodAll_kept laid kept ts (by simpa using hr.2) h1 (fun x hx => hlt x (List.mem_append.2 (.inr hx))))
theorem law_post {H : Type} {enc : TypeId × Value → H} {P : Program} {fn : Func} {sp : ChangeSpec} {ap : Bool} {A B : World} {xs : Array Value} {ds gs : List (DataW H)} {was p : List MemPlace} {tb : TypeId}
    (laid : laidOutB P = true) (hr : (fn.params.toList.all fun t => P.readableRec t && decide (t < P.types.size)) = true)
    (whole : DataW.Whole enc P fn.params.toList sp.vars ap A xs.toList ds gs was) (args : DataW.TrodAll enc P A 0 (fun _ => true) true fn.params.toList xs.toList ds p) (hp : was = p) (kept : Below A.heap.size A B)
    (ht : fn.resultTypes = #[tb]) (hb : P.underlying tb = some .bool) (h1 : (sp.fn H (ds ++ gs)).results = [.lit (.bool true)]) (h2 : (sp.fn H (ds ++ gs)).args = ds) (h3 : sp.vars = []) (h4 : (sp.fn H (ds ++ gs)).vars = []) :
    sp.post enc P fn ap true false false A xs (.bool true) B := by
  have below : ∀ x, x ∈ p → x.block < A.heap.size := fun x h => whole.lt x (hp ▸ h)
  refine ⟨ds, gs, was, [], p, [], whole, ?_, ?_, ?_, World.keptBut_mono (fun x h => ⟨h, .inr (.inl (hp ▸ h))⟩) (kept.frame (· ∈ was)), fun h => by cases h⟩
  · rw [h1, ht]
    exact trodAll_cons_mk (shut_bool hb true) trodAll_mk0
  · rw [h2]
    exact trodAll_kept laid kept _ hr args below
  · rw [h3, h4]
    exact rfl
/-- a slice of numbers that came in -/
theorem sl_came {H : Type} {enc : TypeId × Value → H} {P : Program} {W : World} {T E : TypeId} {k : IntKind} {a : Option Addr} {len cap : Nat} {d : DataW H} {p : List MemPlace} (ht : P.underlying T = some (.slice E)) (he : P.underlying E = some (.int k)) (hc : P.cellsOf E = 1)
    (h : DataW.Trod enc P W 0 (fun _ => true) true T (.slice a len cap) d p) (hlt : ∀ x ∈ p, x.block < W.heap.size) :
    ∃ l : List Int, len = l.length ∧ l.length ≤ 9223372036854775807 ∧ Sl W (.slice a len cap) (l.map (Value.int k)) ∧ ∀ n ∈ l, (Lit.int k n).wf = true := by
  obtain ⟨fuel, hf⟩ := h
  rcases open_ints ht he hc hf with ⟨hcs, _⟩ | ⟨b, len', cap', zs, hcs, _, hl, hm, hz, hx, hcell, hwz⟩
  · simp only [Value.cells, List.cons.injEq, Value.slice.injEq, and_true] at hcs
    obtain ⟨rfl, rfl, rfl⟩ := hcs
    exact ⟨[], rfl, by simp, ⟨none, 0, rfl, by simp, fun j u hu => by simp at hu⟩, by simp⟩
  · simp only [Value.cells, List.cons.injEq, Value.slice.injEq, and_true] at hcs
    obtain ⟨rfl, rfl, rfl⟩ := hcs
    simp only [if_true] at hz
    simp only [Prod.mk.injEq] at hx
    have hlen : (zs.take len).length = len := by rw [List.length_take]; omega
    refine ⟨zs.take len, hlen.symm, by unfold maxLen at hm; omega, ⟨some b, cap, by rw [List.length_map, hlen], by rw [List.length_map, hlen]; exact hl, fun j u hu => ?_⟩, fun n hn => hwz n (List.mem_of_mem_take hn)⟩
    rw [List.getElem?_map] at hu
    cases hj : (zs.take len)[j]? with
    | none => rw [hj] at hu; cases hu
    | some x =>
      rw [hj] at hu
      cases hu
      have hjl : j < len := by
        by_cases h : j < len
        · exact h
        · rw [List.getElem?_eq_none (by omega)] at hj; cases hj
      rw [List.getElem?_take_of_lt hjl] at hj
      have hc2 := hcell j (by omega)
      have hmem : (MemPlace.cell b.block (b.off + j)) ∈ p := by rw [hx.2]; exact MemPlace.mem_row.2 ⟨j, by omega, by simp⟩
      obtain ⟨bb, o, s⟩ := b
      refine ⟨bb, o, s, rfl, hlt _ hmem, ?_⟩
      rw [hc2, List.getD, hj]; rfl
end Go.Proofs.YteimbdklakemaaaGreatDoor

/-
  WHAT CAME IN: rows of values; a term by value.
-/
namespace Go.Proofs.YteimbdklakemaaaGreatDoor
set_option maxRecDepth 100000
open Go.RowKit Go.WideShapes Go.ChangeShapes Go.Deep
section
variable {H : Type} {enc : TypeId × Value → H} {W : World}

/-- one field of a struct that came in -/
theorem fld_came {P : Program} {sp : Nat → Bool} {fs : Array Field} {cs : List Value} {ys : List (DataW H × List MemPlace)} {n : Nat} (hg : ∀ (i : Nat) (f : Field), fs[i]? = some f → DataW.trod enc P W 0 sp true n f.type ((cs.drop f.offset).take (P.cellsOf f.type)) = ys[i]?)
    (i : Nat) (T : TypeId) (o c : Nat) (hf : (fs[i]?).map (fun f => (f.type, f.offset)) = some (T, o)) (hc : P.cellsOf T = c) (hl : ys.length = fs.size) : ∃ y, ys[i]? = some y ∧ DataW.trod enc P W 0 sp true n T ((cs.drop o).take c) = some y := by
  obtain ⟨f, hfi, he⟩ := Option.map_eq_some_iff.1 hf
  simp only [Prod.mk.injEq] at he
  obtain ⟨rfl, rfl⟩ := he
  have hi : i < ys.length := by rw [hl]; exact (Array.getElem?_eq_some_iff.1 hfi).1
  have := hg i f hfi
  rw [hc, List.getElem?_eq_getElem hi] at this
  exact ⟨_, List.getElem?_eq_getElem hi, this⟩
/-- a term by value that came in -/
theorem term_came {r : Reach} {b0 : Nat} {v : Value} {d : DataW H} {p : List MemPlace} (hv : Value.okWide Tryz.prog W r b0 41 v) (h : DataW.Trod enc Tryz.prog W 0 (fun _ => true) true 41 v d p) :
    ∃ (k t c : Int) (z : Bool) (n : Int), v = .agg #[.int .i64 k, .int .i64 t, .int .i64 c, .bool z, .int .i64 n] := by
  obtain ⟨cs, rfl, hsz⟩ := okWide_struct Tryz.underlying41 hv
  obtain ⟨l⟩ := cs
  match l, hsz.trans (show Tryz.prog.cellsOf 41 = 5 by kernel_rfl) with
  | [c0, c1, c2, c3, c4], _ =>
    obtain ⟨fuel, hf⟩ := h
    obtain ⟨xs, n, _, _, _, hlen, hg⟩ := DataW.trod_struct Tryz.underlying41 hf
    obtain ⟨_, _, g0⟩ := fld_came hg 0 3 0 1 rfl (by kernel_rfl) hlen
    obtain ⟨_, _, g1⟩ := fld_came hg 1 3 1 1 rfl (by kernel_rfl) hlen
    obtain ⟨_, _, g2⟩ := fld_came hg 2 3 2 1 rfl (by kernel_rfl) hlen
    obtain ⟨_, _, g3⟩ := fld_came hg 3 39 3 2 rfl (by kernel_rfl) hlen
    obtain ⟨k, hk, _, _⟩ := DataW.trod_int Tryz.underlying3 g0
    obtain ⟨t, ht, _, _⟩ := DataW.trod_int Tryz.underlying3 g1
    obtain ⟨c, hc, _, _⟩ := DataW.trod_int Tryz.underlying3 g2
    obtain ⟨zs, m, _, _, _, hlen2, hq⟩ := DataW.trod_struct Tryz.underlying39 g3
    obtain ⟨_, _, q0⟩ := fld_came hq 0 4 0 1 rfl (by kernel_rfl) hlen2
    obtain ⟨_, _, q1⟩ := fld_came hq 1 2 1 1 rfl (by kernel_rfl) hlen2
    obtain ⟨z, hz, _⟩ := DataW.trod_bool Tryz.underlying4 q0
    obtain ⟨i, hi, _, _⟩ := DataW.trod_int Tryz.underlying2 q1
    simp [Value.cells] at hk ht hc hz hi
    exact ⟨k, t, c, z, i, by rw [hk, ht, hc, hz, hi]⟩
end
end Go.Proofs.YteimbdklakemaaaGreatDoor

/-
  WHAT CAME IN: predicates.
-/
namespace Go.Proofs.YteimbdklakemaaaGreatDoor
set_option maxRecDepth 100000
open Go.RowKit Go.WideShapes Go.ChangeShapes Go.Deep

theorem list_of {α : Type} {Q : Nat → α → Prop} : ∀ n : Nat, (∀ i, i < n → ∃ x, Q i x) → ∃ l : List α, l.length = n ∧ ∀ (i : Nat) (x : α), l[i]? = some x → Q i x
  | 0, _ => ⟨[], rfl, fun i x h => by simp at h⟩
  | n + 1, h => by
    obtain ⟨l, hl, hq⟩ := list_of n (fun i hi => h i (by omega))
    obtain ⟨x, hx⟩ := h n (by omega)
    refine ⟨l ++ [x], by simp [hl], fun i y hy => ?_⟩
    by_cases e : i < n
    · rw [List.getElem?_append_left (by omega)] at hy; exact hq i y hy
    · have hi : i = n := by
        by_cases e2 : i = n
        · exact e2
        · rw [List.getElem?_eq_none (by simp; omega)] at hy; cases hy
      subst hi
      rw [List.getElem?_append_right (by omega), hl, Nat.sub_self] at hy
      simp at hy
      rw [← hy]; exact hx
section
variable {H : Type} {enc : TypeId × Value → H} {W : World}
/-- a term's cells -/
theorem term_cells {n : Nat} {cs : List Value} {y : DataW H × List MemPlace} (h : DataW.trod enc Tryz.prog W 0 (fun _ => true) true n 41 cs = some y) :
    ∃ x : Tm, cs = [.int .i64 x.k, .int .i64 x.t, .int .i64 x.c, .bool x.z, .int .i64 x.n] := by
  obtain ⟨xs, m, _, _, hl, hlen, hg⟩ := DataW.trod_struct Tryz.underlying41 h
  match cs, hl.trans (show Tryz.prog.cellsOf 41 = 5 by kernel_rfl) with
  | [c0, c1, c2, c3, c4], _ =>
    obtain ⟨_, _, g0⟩ := fld_came hg 0 3 0 1 rfl (by kernel_rfl) hlen
    obtain ⟨_, _, g1⟩ := fld_came hg 1 3 1 1 rfl (by kernel_rfl) hlen
    obtain ⟨_, _, g2⟩ := fld_came hg 2 3 2 1 rfl (by kernel_rfl) hlen
    obtain ⟨_, _, g3⟩ := fld_came hg 3 39 3 2 rfl (by kernel_rfl) hlen
    obtain ⟨k, hk, _, _⟩ := DataW.trod_int Tryz.underlying3 g0
    obtain ⟨t, ht, _, _⟩ := DataW.trod_int Tryz.underlying3 g1
    obtain ⟨c, hc, _, _⟩ := DataW.trod_int Tryz.underlying3 g2
    obtain ⟨zs, m, _, _, _, hlen2, hq⟩ := DataW.trod_struct Tryz.underlying39 g3
    obtain ⟨_, _, q0⟩ := fld_came hq 0 4 0 1 rfl (by kernel_rfl) hlen2
    obtain ⟨_, _, q1⟩ := fld_came hq 1 2 1 1 rfl (by kernel_rfl) hlen2
    obtain ⟨z, hz, _⟩ := DataW.trod_bool Tryz.underlying4 q0
    obtain ⟨i, hi, _, _⟩ := DataW.trod_int Tryz.underlying2 q1
    simp at hk ht hc hz hi
    exact ⟨⟨k, t, c, z, i⟩, by rw [hk, ht, hc, hz, hi]⟩
/-- a predicate's own cells; how its parts read -/
theorem pred_cells {n : Nat} {cs : List Value} {y : DataW H × List MemPlace} (h : DataW.trod enc Tryz.prog W 0 (fun _ => true) true n 43 cs = some y) :
    ∃ (f : Pf) (u : Value) (m : Nat) (z : DataW H × List MemPlace), cs = f.cells u ∧ m < n ∧ DataW.trod enc Tryz.prog W 0 (fun _ => true) true m 23 [u] = some z := by
  obtain ⟨xs, m, hm, _, hl, hlen, hg⟩ := DataW.trod_struct Tryz.underlying43 h
  match cs, hl.trans (show Tryz.prog.cellsOf 43 = 14 by kernel_rfl) with
  | [c0, c1, c2, c3, c4, c5, c6, c7, c8, c9, c10, c11, c12, c13], _ =>
    obtain ⟨_, _, g0⟩ := fld_came hg 0 3 0 1 rfl (by kernel_rfl) hlen
    obtain ⟨_, _, g1⟩ := fld_came hg 1 3 1 1 rfl (by kernel_rfl) hlen
    obtain ⟨_, _, g2⟩ := fld_came hg 2 3 2 1 rfl (by kernel_rfl) hlen
    obtain ⟨_, _, g3⟩ := fld_came hg 3 41 3 5 rfl (by kernel_rfl) hlen
    obtain ⟨_, _, g4⟩ := fld_came hg 4 41 8 5 rfl (by kernel_rfl) hlen
    obtain ⟨z, _, g5⟩ := fld_came hg 5 23 13 1 rfl (by kernel_rfl) hlen
    obtain ⟨k, hk, _, _⟩ := DataW.trod_int Tryz.underlying3 g0
    obtain ⟨u, hu, _, _⟩ := DataW.trod_int Tryz.underlying3 g1
    obtain ⟨o, ho, _, _⟩ := DataW.trod_int Tryz.underlying3 g2
    obtain ⟨a, ha⟩ := term_cells g3
    obtain ⟨b, hb⟩ := term_cells g4
    simp at hk hu ho ha hb
    obtain ⟨a0, a1, a2, a3, a4⟩ := ha
    obtain ⟨b0, b1, b2, b3, b4⟩ := hb
    exact ⟨⟨k, u, o, a, b⟩, c13, m, z, by simp [Pf.cells, hk, hu, ho, a0, a1, a2, a3, a4, b0, b1, b2, b3, b4], by omega, g5⟩
/-- predicates that came in -/
theorem preds_came (n : Nat) : ∀ (v : Value) (y : DataW H × List MemPlace), DataW.trod enc Tryz.prog W 0 (fun _ => true) true n 23 [v] = some y → ∃ d ps, PsAt d W v ps := by
  induction n using Nat.strongRecOn with
  | ind n ih =>
  intro v y h
  rcases DataW.trod_slice Tryz.underlying23 h with ⟨hv, _⟩ | ⟨a, len, cap, elems, rest, m, hm, hv, _, _, hl, hcap, hlen, hel, _, _⟩
  · obtain rfl : v = .slice none 0 0 := by simpa using hv
    exact ⟨0, [], rfl, none, 0, rfl⟩
  · obtain rfl : v = .slice (some a) len cap := by simpa using hv
    rw [show Tryz.prog.cellsOf 43 = 14 by kernel_rfl] at hel
    have each : ∀ i, i < len → ∃ d, ∃ (p : Pd) (u : Value), PdCell W (a.add (i * 14)) p.f u ∧ PsAt d W u p.ps := by
      intro i hi
      have h1 := hel i hi
      rw [List.getElem?_eq_getElem (by omega)] at h1
      obtain ⟨cs', h2, h3⟩ := Option.bind_eq_some_iff.1 h1
      obtain ⟨f, u, k, z, rfl, hk, h4⟩ := pred_cells h3
      obtain ⟨d, ps, hps⟩ := ih k (by omega) u z h4
      obtain ⟨_, _, hc⟩ := World.cells?_some h2
      have hx : ∀ j, 0 < j → (a.add (i * 14)).add j = ⟨(a.add (i * 14)).block, (a.add (i * 14)).off + j, none⟩ := fun j hj => by
        generalize a.add (i * 14) = X
        unfold Addr.add
        rw [if_neg (by omega)]
      have h0 := hc 0 (by decide)
      have e0 : (a.add (i * 14)).add 0 = a.add (i * 14) := by unfold Addr.add; simp
      rw [e0] at h0
      have g := fun j (hj : 0 < j) (hj2 : j < 14) => by have := hc j hj2; rwa [hx j hj] at this
      exact ⟨d, .mk f ps, u, ⟨h0, g 1 (by decide) (by decide), g 2 (by decide) (by decide), g 3 (by decide) (by decide), g 4 (by decide) (by decide), g 5 (by decide) (by decide), g 6 (by decide) (by decide), g 7 (by decide) (by decide), g 8 (by decide) (by decide), g 9 (by decide) (by decide), g 10 (by decide) (by decide), g 11 (by decide) (by decide), g 12 (by decide) (by decide), g 13 (by decide) (by decide)⟩, hps⟩
    obtain ⟨D, hD⟩ := fuel_lt (q := fun i d => ∃ (p : Pd) (u : Value), PdCell W (a.add (i * 14)) p.f u ∧ PsAt d W u p.ps) (fun i x z hxz ⟨p, u, hp, hu⟩ => ⟨p, u, hp, hu.mono hxz⟩) each
    obtain ⟨ps, hpl, hps⟩ := list_of (α := Pd) (Q := fun (i : Nat) (p : Pd) => ∃ u, PdCell W (a.add (i * 14)) p.f u ∧ PsAt D W u p.ps) len hD
    refine ⟨D + 1, ps, some a, cap, by rw [hpl], by unfold maxLen at hcap; omega, fun j p hj => ?_⟩
    obtain ⟨u, hp, hu⟩ := hps j p hj
    obtain ⟨b, o, s⟩ := a
    refine ⟨b, o, s, u, rfl, ?_, hp, hu⟩
    have := block_lt_of_cell hp.c0
    rwa [add_block] at this
/-- a predicate by value that came in -/
theorem pred_came {r : Reach} {b0 : Nat} {v : Value} {d : DataW H} {p : List MemPlace} (hv : Value.okWide Tryz.prog W r b0 43 v) (h : DataW.Trod enc Tryz.prog W 0 (fun _ => true) true 43 v d p) :
    ∃ (f : Pf) (u : Value) (D : Nat) (ps : List Pd), v = .agg #[.int .i64 f.k, .int .i64 f.u, .int .i64 f.o, .int .i64 f.a.k, .int .i64 f.a.t, .int .i64 f.a.c, .bool f.a.z, .int .i64 f.a.n, .int .i64 f.b.k, .int .i64 f.b.t, .int .i64 f.b.c, .bool f.b.z, .int .i64 f.b.n, u] ∧ PsAt D W u ps := by
  obtain ⟨⟨cs⟩, rfl, _⟩ := okWide_struct Tryz.underlying43 hv
  obtain ⟨fuel, hf⟩ := h
  obtain ⟨f, u, m, z, hcs, _, h4⟩ := pred_cells hf
  obtain ⟨D, ps, hps⟩ := preds_came m u z h4
  refine ⟨f, u, D, ps, ?_, hps⟩
  have : cs = f.cells u := hcs
  rw [this]
  rfl
end
end Go.Proofs.YteimbdklakemaaaGreatDoor

/-
  WHAT CAME IN: predicates, with their cells; rows, each nil or at an address.
-/
namespace Go.Proofs.YteimbdklakemaaaGreatDoor
set_option maxRecDepth 100000
open Go.RowKit Go.WideShapes Go.ChangeShapes Go.Deep
section
variable {H : Type} {enc : TypeId × Value → H} {W : World}
theorem preds_came_cells {A0 : Option Addr} {n0 c0 : Nat} {d : DataW H} {p : List MemPlace} (h : DataW.Trod enc Tryz.prog W 0 (fun _ => true) true 23 (.slice A0 n0 c0) d p) :
    ∃ D ps, PsCame D W (.slice A0 n0 c0) ps ∧ (ps = [] ∨ ∃ es sp, d = .slice es sp ∧ es.length = ps.length) := by
  obtain ⟨fuel, hf⟩ := h
  rcases DataW.trod_slice Tryz.underlying23 hf with ⟨hv, _⟩ | ⟨a, len, cap, elems, rest, m, hm, hv, hxx, _, hl, hcap, hlen, hel, _, _⟩
  · obtain ⟨rfl, rfl, rfl⟩ : A0 = none ∧ n0 = 0 ∧ c0 = 0 := by simpa [Value.cells] using hv
    exact ⟨0, [], ⟨by simp, [], rfl, .inl ⟨rfl, rfl, rfl⟩, fun x h => by simp at h⟩, .inl rfl⟩
  · obtain ⟨rfl, rfl, rfl⟩ : A0 = some a ∧ n0 = len ∧ c0 = cap := by simpa [Value.cells] using hv
    rw [show Tryz.prog.cellsOf 43 = 14 by kernel_rfl] at hel
    have each : ∀ i, i < n0 → ∃ d, ∃ (x : Pd × Value), PdCell W (a.add (i * 14)) x.1.f x.2 ∧ PsAt d W x.2 x.1.ps := by
      intro i hi
      have h1 := hel i hi
      rw [List.getElem?_eq_getElem (by omega)] at h1
      obtain ⟨cs', h2, h3⟩ := Option.bind_eq_some_iff.1 h1
      obtain ⟨f, u, k, z, rfl, hk, h4⟩ := pred_cells h3
      obtain ⟨d, ps, hps⟩ := preds_came k u z h4
      obtain ⟨_, _, hc⟩ := World.cells?_some h2
      have hx : ∀ j, 0 < j → (a.add (i * 14)).add j = ⟨(a.add (i * 14)).block, (a.add (i * 14)).off + j, none⟩ := fun j hj => by
        generalize a.add (i * 14) = X
        unfold Addr.add
        rw [if_neg (by omega)]
      have h0 := hc 0 (by decide)
      have e0 : (a.add (i * 14)).add 0 = a.add (i * 14) := by unfold Addr.add; simp
      rw [e0] at h0
      have g := fun j (hj : 0 < j) (hj2 : j < 14) => by have := hc j hj2; rwa [hx j hj] at this
      exact ⟨d, (.mk f ps, u), ⟨h0, g 1 (by decide) (by decide), g 2 (by decide) (by decide), g 3 (by decide) (by decide), g 4 (by decide) (by decide), g 5 (by decide) (by decide), g 6 (by decide) (by decide), g 7 (by decide) (by decide), g 8 (by decide) (by decide), g 9 (by decide) (by decide), g 10 (by decide) (by decide), g 11 (by decide) (by decide), g 12 (by decide) (by decide), g 13 (by decide) (by decide)⟩, hps⟩
    obtain ⟨D, hD⟩ := fuel_lt (q := fun i d => ∃ (x : Pd × Value), PdCell W (a.add (i * 14)) x.1.f x.2 ∧ PsAt d W x.2 x.1.ps) (fun i x z hxz ⟨y, hp, hu⟩ => ⟨y, hp, hu.mono hxz⟩) each
    obtain ⟨L, hL, hLx⟩ := list_of (α := Pd × Value) (Q := fun (i : Nat) (x : Pd × Value) => PdCell W (a.add (i * 14)) x.1.f x.2 ∧ PsAt D W x.2 x.1.ps) n0 hD
    refine ⟨D, L.map Prod.fst, ⟨by rw [List.length_map]; unfold maxLen at hcap; omega, L, rfl, .inr ⟨a, c0, by rw [List.length_map, hL], by rw [List.length_map]; exact pdCells_len L, fun j u hu => ?_⟩, fun x hx => ?_⟩, .inr ⟨_, _, congrArg Prod.fst hxx, by rw [List.length_map, List.length_map, hL, hlen]⟩⟩
    · have hj : j < L.length * 14 := by
        by_cases hj : j < L.length * 14
        · exact hj
        · rw [List.getElem?_eq_none (by rw [pdCells_len]; omega)] at hu; cases hu
      obtain ⟨y, hy⟩ : ∃ y, L[j / 14]? = some y := ⟨L[j / 14]'(by omega), List.getElem?_eq_getElem _⟩
      obtain ⟨hp, _⟩ := hLx (j / 14) y hy
      have hr : j % 14 = 0 ∨ j % 14 = 1 ∨ j % 14 = 2 ∨ j % 14 = 3 ∨ j % 14 = 4 ∨ j % 14 = 5 ∨ j % 14 = 6 ∨ j % 14 = 7 ∨ j % 14 = 8 ∨ j % 14 = 9 ∨ j % 14 = 10 ∨ j % 14 = 11 ∨ j % 14 = 12 ∨ j % 14 = 13 := by omega
      rcases hr with hr | hr | hr | hr | hr | hr | hr | hr | hr | hr | hr | hr | hr | hr
      · rw [show j = j / 14 * 14 + 0 by omega] at hu
        rw [pdCells_at L (j / 14) 0 y hy (by decide)] at hu
        cases hu
        rw [show j = j / 14 * 14 by omega]
        exact hp.c0
      · rw [show j = j / 14 * 14 + 1 by omega] at hu ⊢
        rw [pdCells_at L (j / 14) 1 y hy (by decide)] at hu
        cases hu
        rw [add_off _ _ 1 (by decide)]
        exact hp.c1
      · rw [show j = j / 14 * 14 + 2 by omega] at hu ⊢
        rw [pdCells_at L (j / 14) 2 y hy (by decide)] at hu
        cases hu
        rw [add_off _ _ 2 (by decide)]
        exact hp.c2
      · rw [show j = j / 14 * 14 + 3 by omega] at hu ⊢
        rw [pdCells_at L (j / 14) 3 y hy (by decide)] at hu
        cases hu
        rw [add_off _ _ 3 (by decide)]
        exact hp.c3
      · rw [show j = j / 14 * 14 + 4 by omega] at hu ⊢
        rw [pdCells_at L (j / 14) 4 y hy (by decide)] at hu
        cases hu
        rw [add_off _ _ 4 (by decide)]
        exact hp.c4
      · rw [show j = j / 14 * 14 + 5 by omega] at hu ⊢
        rw [pdCells_at L (j / 14) 5 y hy (by decide)] at hu
        cases hu
        rw [add_off _ _ 5 (by decide)]
        exact hp.c5
      · rw [show j = j / 14 * 14 + 6 by omega] at hu ⊢
        rw [pdCells_at L (j / 14) 6 y hy (by decide)] at hu
        cases hu
        rw [add_off _ _ 6 (by decide)]
        exact hp.c6
      · rw [show j = j / 14 * 14 + 7 by omega] at hu ⊢
        rw [pdCells_at L (j / 14) 7 y hy (by decide)] at hu
        cases hu
        rw [add_off _ _ 7 (by decide)]
        exact hp.c7
      · rw [show j = j / 14 * 14 + 8 by omega] at hu ⊢
        rw [pdCells_at L (j / 14) 8 y hy (by decide)] at hu
        cases hu
        rw [add_off _ _ 8 (by decide)]
        exact hp.c8
      · rw [show j = j / 14 * 14 + 9 by omega] at hu ⊢
        rw [pdCells_at L (j / 14) 9 y hy (by decide)] at hu
        cases hu
        rw [add_off _ _ 9 (by decide)]
        exact hp.c9
      · rw [show j = j / 14 * 14 + 10 by omega] at hu ⊢
        rw [pdCells_at L (j / 14) 10 y hy (by decide)] at hu
        cases hu
        rw [add_off _ _ 10 (by decide)]
        exact hp.c10
      · rw [show j = j / 14 * 14 + 11 by omega] at hu ⊢
        rw [pdCells_at L (j / 14) 11 y hy (by decide)] at hu
        cases hu
        rw [add_off _ _ 11 (by decide)]
        exact hp.c11
      · rw [show j = j / 14 * 14 + 12 by omega] at hu ⊢
        rw [pdCells_at L (j / 14) 12 y hy (by decide)] at hu
        cases hu
        rw [add_off _ _ 12 (by decide)]
        exact hp.c12
      · rw [show j = j / 14 * 14 + 13 by omega] at hu ⊢
        rw [pdCells_at L (j / 14) 13 y hy (by decide)] at hu
        cases hu
        rw [add_off _ _ 13 (by decide)]
        exact hp.c13
    · obtain ⟨i, hi, e⟩ := List.mem_iff_getElem.1 hx
      exact (hLx i x (by rw [List.getElem?_eq_getElem hi, e])).2
end
end Go.Proofs.YteimbdklakemaaaGreatDoor

/-
  WHAT A ROW's LIST GIVES, whatever variable of it: its reading; an array's reading, element by element; an interface's.
-/
namespace Go.Proofs.YteimbdklakemaaaGreatDoor
open Go.RowKit

theorem laidVars_at {P : Program} {W : World} : ∀ {l : List (String × DataW Unit)} {ps : List MemPlace}, DataW.LaidVars P W l ps → ∀ {n : String} {d : DataW Unit}, (n, d) ∈ l →
    ∃ g t cs fuel p, P.globalNamed n = some g ∧ (P.globals[g]?).map (·.type) = some t ∧ W.var? P n = some cs ∧ DataW.trod (fun _ => ()) P W 0 (fun _ => true) false fuel t cs.toList = some (d, p)
  | [], _, _, _, _, hm => by cases hm
  | (n', d') :: r, ps, h, n, d, hm => by
    obtain ⟨g, t, cs, fuel, p, q, h1, h2, h3, h4, h5, _⟩ := h
    rcases List.mem_cons.1 hm with he | hm
    · obtain ⟨rfl, rfl⟩ := Prod.mk.inj he
      exact ⟨g, t, cs, fuel, p, h1, h2, h3, h4⟩
    · exact laidVars_at h5 hm
theorem laid_at {P : Program} {W : World} {l : List (String × DataW Unit)} (h : laidMet P l W) {n : String} {d : DataW Unit} (hm : (n, d) ∈ l) :
    ∃ g t cs fuel p, P.globalNamed n = some g ∧ (P.globals[g]?).map (·.type) = some t ∧ W.var? P n = some cs ∧ DataW.trod (fun _ => ()) P W 0 (fun _ => true) false fuel t cs.toList = some (d, p) := by
  obtain ⟨ps, h, _⟩ := h
  exact laidVars_at h hm
section
variable {H : Type} {enc : TypeId × Value → H} {P : Program} {w : World} {base : Nat} {sp : Nat → Bool} {fuel : Nat} {t e : TypeId} {cs : List Value} {p : List MemPlace}
theorem arr_at {n c : Nat} {held : Bool} {parts : List (DataW H)} (ht : P.underlying t = some (.array n e)) (hce : P.cellsOf e = c) (h : DataW.trod enc P w base sp held fuel t cs = some (.agg parts, p)) (i : Nat) (hi : i < n) :
    ∃ fuel' x, DataW.trod enc P w base sp held fuel' e ((cs.drop (i * c)).take c) = some x ∧ parts[i]? = some x.1 := by
  cases fuel with
  | zero => simp [DataW.trod] at h
  | succ fuel =>
    simp only [DataW.trod, ht, hce] at h
    split at h
    · obtain ⟨xs, hm, hx⟩ := Option.map_eq_some_iff.1 h
      obtain ⟨b, hb, hf⟩ := Lib.mapM_at hm i i (by simp [hi])
      refine ⟨fuel, b, hf, ?_⟩
      have : parts = xs.map (·.1) := by
        have := congrArg Prod.fst hx
        simpa using this.symm
      rw [this]; simp [hb]
    · cases h
theorem iface_at {ms : Array (String × TypeId)} {nm : String} {d : DataW H} (ht : P.underlying t = some (.interface ms)) (h : DataW.trod enc P w base sp false fuel t cs = some (.iface nm d, p)) : ∃ u v, cs = [.iface u v] := by
  cases fuel with
  | zero => simp [DataW.trod] at h
  | succ fuel =>
    simp only [DataW.trod, ht] at h
    split at h <;> first | cases h | skip
    all_goals first | exact ⟨_, _, rfl⟩ | simp_all
end
end Go.Proofs.YteimbdklakemaaaGreatDoor

/-
  WHAT A ROW's LIST GIVES TO package value alone: its table of what is wanted.
-/
namespace Go.Proofs.YteimbdklakemaaaGreatDoor
open Go.RowKit
end Go.Proofs.YteimbdklakemaaaGreatDoor

/-
  THE DOCUMENT's ANSWERS OF LAYER 10: LeafOf, On.
-/
namespace Go.Proofs.YteimbdklakemaaaGreatDoor
open Go.RowKit Go.Sort
set_option maxHeartbeats 1600000

theorem leaf10_any (i : Int) (w : World) :
    Calls Tryz.prog 20 #[.int .i64 i] w fun e w' => e = .returned (.agg #[.int .i64 0, .int .i64 i, .slice none 0 0, .slice none 0 0, .bool false]) ∧ Below w.heap.size w w' := by
  go_enter Tryz.func20, Tryz.ntmps20
  go_wp2
  exact bodyPost_ret (v := .agg #[.int .i64 0, .int .i64 i, .slice none 0 0, .slice none 0 0, .bool false]) (by simp [results, Tryz.results20, go_sem]) rfl ⟨rfl, below_new _ _⟩
theorem two_trs (W : World) (G : Nat) (hG : W.heap.size = G) (T : TypeId) (x y : TrV) :
    TrCell (W.alloc (Obj.cells #[.int .i64 x.1.k, .int .i64 x.1.t, x.2.1, x.2.2, .bool x.1.h, .int .i64 y.1.k, .int .i64 y.1.t, y.2.1, y.2.2, .bool y.1.h] T)) ⟨G, 0, none⟩ x.1 x.2.1 x.2.2 ∧
    TrCell (W.alloc (Obj.cells #[.int .i64 x.1.k, .int .i64 x.1.t, x.2.1, x.2.2, .bool x.1.h, .int .i64 y.1.k, .int .i64 y.1.t, y.2.1, y.2.2, .bool y.1.h] T)) ⟨G, 5, none⟩ y.1 y.2.1 y.2.2 := by
  subst hG
  have l := Lies.new W T [.int .i64 x.1.k, .int .i64 x.1.t, x.2.1, x.2.2, .bool x.1.h, .int .i64 y.1.k, .int .i64 y.1.t, y.2.1, y.2.2, .bool y.1.h]
  exact ⟨⟨l.cell (i := 0) rfl, l.cell (i := 1) rfl, l.cell (i := 2) rfl, l.cell (i := 3) rfl, l.cell (i := 4) rfl⟩, ⟨l.cell (i := 5) rfl, l.cell (i := 6) rfl, l.cell (i := 7) rfl, l.cell (i := 8) rfl, l.cell (i := 9) rfl⟩⟩
/-- two trees side by side, as an operator on them hands them back -/
def TwoTrs (w : World) (k : Int) (x y : TrV) (vc : Value) (e : Ending) (w' : World) : Prop :=
  ∃ g, e = .returned (.agg #[.int .i64 k, .int .i64 0, .slice (some ⟨g, 0, none⟩) 2 2, vc, .bool false]) ∧ w.heap.size ≤ g ∧ g < w'.heap.size ∧ TrCell w' ⟨g, 0, none⟩ x.1 x.2.1 x.2.2 ∧ TrCell w' ⟨g, 5, none⟩ y.1 y.2.1 y.2.2 ∧ Below w.heap.size w w'
set_option maxRecDepth 100000 in
theorem on10_any (k : Int) (x y : TrV) (A : Option Addr) (n c : Nat) (w : World) :
    Calls Tryz.prog 19 #[.int .i64 k, .agg #[.int .i64 x.1.k, .int .i64 x.1.t, x.2.1, x.2.2, .bool x.1.h], .agg #[.int .i64 y.1.k, .int .i64 y.1.t, y.2.1, y.2.2, .bool y.1.h], .slice A n c] w (TwoTrs w k x y (.slice A n c)) := by
  go_enter Tryz.func19, Tryz.ntmps19
  go_wp2
  refine bodyPost_ret (v := .agg #[.int .i64 k, .int .i64 0, .slice (some ⟨w.heap.size + 1 + 1 + 1, 0, none⟩) 2 2, .slice A n c, .bool false]) (by simp [results, Tryz.results19, go_sem]) rfl ⟨w.heap.size + 1 + 1 + 1, rfl, by omega, by simp, ?_, ?_, ?_⟩
  · exact (two_trs _ _ (by simp) _ x y).1
  · exact (two_trs _ _ (by simp) _ x y).2
  · exact ((((Below.refl _ _).alloc (Nat.le_refl _) _).alloc (by simp) _).alloc (by simp; omega) _).alloc (by simp; omega) _
end Go.Proofs.YteimbdklakemaaaGreatDoor

/-
  TOWARDS THE LAW's Two OF LAYER 10: two leaves under an operator, an equality between them, as they lie.
-/
namespace Go.Proofs.YteimbdklakemaaaGreatDoor
open Go.RowKit Go.Sort
set_option maxHeartbeats 1600000

theorem pred_built10 (W : World) (d : Nat) (f : Pf) (u : Value) (ps : List Pd) (G : Nat) (hG : W.heap.size = G) (hu : PsAt d W u ps) :
    PsAt (d + 1) (W.alloc (Obj.cells #[.int .i64 f.k, .int .i64 f.u, .int .i64 f.o, .int .i64 f.a.k, .int .i64 f.a.t, .int .i64 f.a.c, .bool f.a.z, .int .i64 f.a.n, .int .i64 f.b.k, .int .i64 f.b.t, .int .i64 f.b.c, .bool f.b.z, .int .i64 f.b.n, u] 43)) (.slice (some ⟨G, 0, none⟩) 1 1) [.mk f ps] := by
  subst hG
  obtain ⟨W1, hW1⟩ : ∃ W1, W1 = W.alloc (Obj.cells #[.int .i64 f.k, .int .i64 f.u, .int .i64 f.o, .int .i64 f.a.k, .int .i64 f.a.t, .int .i64 f.a.c, .bool f.a.z, .int .i64 f.a.n, .int .i64 f.b.k, .int .i64 f.b.t, .int .i64 f.b.c, .bool f.b.z, .int .i64 f.b.n, u] 43) := ⟨_, rfl⟩
  obtain ⟨l, hb⟩ := box_one (cs := f.cells u) hW1
  rw [← hW1]
  refine ⟨some ⟨W.heap.size, 0, none⟩, 1, rfl, by simp, fun j p hj => ?_⟩
  match j, hj with
  | 0, hj =>
    cases hj
    exact ⟨_, _, _, u, rfl, l.lt, l.pd, hu.below hb (Nat.le_refl _)⟩
/-- the equality of the two leaves' columns -/
abbrev eq01 : Pd := .mk ⟨2, 0, 1, ⟨1, 0, 0, false, 0⟩, ⟨1, 1, 0, false, 0⟩⟩ []
/-- a leaf -/
abbrev leafTr (i : Int) : Tr := .mk 0 i false [] []
/-- two leaves under an operator -/
abbrev twoTr (k : Int) : Tr := .mk k 0 false [eq01] [leafTr 0, leafTr 1]
theorem two_at {w : World} {g : Nat} (hg : g < w.heap.size) (t0 : TrCell w ⟨g, 0, none⟩ (leafTr 0) (.slice none 0 0) (.slice none 0 0)) (t1 : TrCell w ⟨g, 5, none⟩ (leafTr 1) (.slice none 0 0) (.slice none 0 0)) :
    TsAt 2 w (.slice (some ⟨g, 0, none⟩) 2 2) [leafTr 0, leafTr 1] := by
  have hn : TsAt 1 w (.slice none 0 0) [] := ⟨none, 0, rfl, by simp, fun j a h => by simp at h⟩
  have hp : PsSome w (.slice none 0 0) [] := ⟨0, rfl, none, 0, rfl⟩
  refine ⟨some ⟨g, 0, none⟩, 2, rfl, by simp, fun j a hj => ?_⟩
  match j, hj with
  | 0, hj =>
    cases hj
    exact ⟨g, 0, none, _, _, rfl, hg, by simpa [Addr.add] using t0, hp, hn⟩
  | 1, hj =>
    cases hj
    exact ⟨g, 0, none, _, _, rfl, hg, by simpa [Addr.add] using t1, hp, hn⟩
end Go.Proofs.YteimbdklakemaaaGreatDoor

/-
  THE DOCUMENT's ANSWERS OF LAYER 10: Seen.
-/
namespace Go.Proofs.YteimbdklakemaaaGreatDoor
open Go.RowKit Go.Sort
set_option maxHeartbeats 1600000

theorem add_zero9 (a : Addr) : a.add 0 = a := by unfold Addr.add; simp
theorem or_lt9 {x y : Nat} (hx : x < 18446744073709551616) (hy : y < 18446744073709551616) : x ||| y < 18446744073709551616 := Nat.or_lt_two_pow (n := 64) hx hy
namespace Tr
mutual
theorem seen_lt : ∀ a : Tr, seen a < 18446744073709551616
  | .mk k t h cs ks => by
    rw [seen]
    split
    · exact St.ofN_lt _
    · split
      · exact seen1_lt ks
      · exact seens_lt ks
theorem seen1_lt : ∀ l : List Tr, seen1 l < 18446744073709551616
  | [] => by rw [seen1]; decide
  | a :: _ => by rw [seen1]; exact seen_lt a
theorem seens_lt : ∀ l : List Tr, seens l < 18446744073709551616
  | [] => by rw [seens]; decide
  | a :: r => by rw [seens]; exact or_lt9 (seen_lt a) (seens_lt r)
end
theorem seens_one (l : List Tr) : seens (l.take 1) = seen1 l := by
  cases l with
  | nil => rfl
  | cons a r => rw [List.take_succ_cons, List.take_zero, seens, seens, seen1, Nat.or_zero]
end Tr
end Go.Proofs.YteimbdklakemaaaGreatDoor

/-
  THE DOCUMENT's ANSWERS: two rows of predicates (layer 6), two trees (layer 10), the same.
-/
namespace Go.Proofs.YteimbdklakemaaaGreatDoor
open Go.RowKit Go.Sort
set_option maxHeartbeats 3200000

set_option maxRecDepth 100000 in
theorem r6list_any (d : Nat) (u v : Value) (r s : List Pd) (w : World) (hu : PsAt d w u r) (hv : PsAt d w v s) :
    Calls Tryz.prog 18 #[u, v] w fun e w' => e = .returned (.bool (Pr.sames r s)) ∧ Below w.heap.size w w' := by
  obtain ⟨A, c, rfl, hr⟩ := hu.form
  obtain ⟨A', c', rfl, hs⟩ := hv.form
  have hpu := fun (j : Nat) (x : Pd) (hj : r[j]? = some x) => hu.at_ hj
  have hpv := fun (j : Nat) (x : Pd) (hj : s[j]? = some x) => hv.at_ hj
  have HU := Lib.hid hpu
  have HV := Lib.hid hpv
  obtain ⟨n, hn⟩ : ∃ n, n = r.length := ⟨_, rfl⟩
  obtain ⟨m, hm⟩ : ∃ m, m = s.length := ⟨_, rfl⟩
  rw [← hn] at hr ⊢
  rw [← hm] at hs ⊢
  have HN := Lib.hid (And.intro hn hm)
  clear hpu hpv hu hv hn hm
  by_cases hnm : n = m
  · subst hnm
    have HI := Lib.hid (Pr.sames_iff (l := r) (m := s) (by obtain ⟨h1, h2⟩ := HN.out; omega))
    have hS := Below.refl w.heap.size w
    go_enter Tryz.func18, Tryz.ntmps18
    go_wp2_with (fail)
    go_loopw [5] (fun i wr => ∃ (k : Nat), k ≤ n ∧ i = .int .i64 k ∧ Hid (∀ (j : Nat) (x y : Pd), j < k → r[j]? = some x → s[j]? = some y → Pr.same x y = true) ∧ Below w.heap.size w wr) (fun i _ => n - (intOf i).toNat)
    case atStart => exact ⟨0, Nat.zero_le _, rfl, Lib.hid fun j x y h => by omega, hS⟩
    case round =>
     obtain ⟨k, hk, rfl, hz, hb⟩ := hrel
     by_cases hlt : k < n
     · obtain ⟨x, gx⟩ : ∃ x, r[k]? = some x := ⟨r[k]'(by have := HN.out; omega), List.getElem?_eq_getElem _⟩
       obtain ⟨y, gy⟩ : ∃ y, s[k]? = some y := ⟨s[k]'(by have := HN.out; omega), List.getElem?_eq_getElem _⟩
       obtain ⟨e1, b1, o1, p1, u1, _, rfl, hl1, h1⟩ := HU.out k x gx
       obtain ⟨e2, b2, o2, p2, u2, _, rfl, hl2, h2⟩ := HV.out k y gy
       obtain ⟨hx, kx⟩ := h1 wr hb
       obtain ⟨hy, ky⟩ := h2 wr hb
       have i1 : (0 : Int) ≤ (k : Int) := by omega
       have i2 : (k : Int) < (n : Int) := by omega
       have yx0 := cell_regrown hx.c0
       have yx1 := cell_regrown hx.c1
       have yx2 := cell_regrown hx.c2
       have yx3 := cell_regrown hx.c3
       have yx4 := cell_regrown hx.c4
       have yx5 := cell_regrown hx.c5
       have yx6 := cell_regrown hx.c6
       have yx7 := cell_regrown hx.c7
       have yx8 := cell_regrown hx.c8
       have yx9 := cell_regrown hx.c9
       have yx10 := cell_regrown hx.c10
       have yx11 := cell_regrown hx.c11
       have yx12 := cell_regrown hx.c12
       have yx13 := cell_regrown hx.c13
       have yy0 := cell_regrown hy.c0
       have yy1 := cell_regrown hy.c1
       have yy2 := cell_regrown hy.c2
       have yy3 := cell_regrown hy.c3
       have yy4 := cell_regrown hy.c4
       have yy5 := cell_regrown hy.c5
       have yy6 := cell_regrown hy.c6
       have yy7 := cell_regrown hy.c7
       have yy8 := cell_regrown hy.c8
       have yy9 := cell_regrown hy.c9
       have yy10 := cell_regrown hy.c10
       have yy11 := cell_regrown hy.c11
       have yy12 := cell_regrown hy.c12
       have yy13 := cell_regrown hy.c13
       have cc := in_class (W0 := wr) fun W h => r6same_any (max e1 e2) x.f y.f u1 u2 x.ps y.ps W ((kx.below h (Nat.le_refl _)).mono (Nat.le_max_left _ _)) ((ky.below h (Nat.le_refl _)).mono (Nat.le_max_right _ _))
       have hpx : Pd.mk x.f x.ps = x := by cases x; rfl
       have hpy : Pd.mk y.f y.ps = y := by cases y; rfl
       rw [hpx, hpy] at cc
       obtain ⟨d, hd⟩ : ∃ d : Bool, d = Pr.same x y := ⟨_, rfl⟩
       rw [← hd] at cc
       have HD := Lib.hid hd
       have GX := Lib.hid gx
       have GY := Lib.hid gy
       clear h1 h2 gx gy hd hx hy kx ky hpx hpy
       go_wp2_with (fail)
       refine wp_region_quiet_below (by kernel_rfl) (by kernel_rfl) ?_
       repeat (go_big_quiet_step (with_reducible exact cc _ _))
       refine wpQuiet_nil ?_
       intro _ hw'
       obtain ⟨⟨dq, osq⟩, hw''⟩ := hw'
       subst hw''
       have hb2 := below_join hb (below_regrown wr dq osq)
       clear yx0 yy0 yx1 yy1 yx2 yy2 yx3 yy3 yx4 yy4 yx5 yy5 yx6 yy6 yx7 yy7 yx8 yy8 yx9 yy9 yx10 yy10 yx11 yy11 yx12 yy12 yx13 yy13 i1 i2 hb cc
       generalize grow (redrawn wr dq) osq = w7 at hb2 ⊢
       cases d
       · have hres : Hid (false = Pr.sames r s) := Lib.hid (by
           cases he : Pr.sames r s with
           | false => rfl
           | true => exact HD.out.trans (HI.out.1 he k x y GX.out GY.out))
         go_wp2_with (fail)
         go_ret
         exact ⟨ret_bool hres.out, hb2⟩
       · have hz2 : Hid (∀ (j : Nat) (x y : Pd), j < k + 1 → r[j]? = some x → s[j]? = some y → Pr.same x y = true) := Lib.hid fun j x' y' hj hx hy => by
           rcases Nat.lt_or_eq_of_le (Nat.le_of_lt_succ hj) with g | g
           · exact hz.out j x' y' g hx hy
           · subst g
             rw [GX.out] at hx; rw [GY.out] at hy
             cases hx; cases hy
             exact HD.out.symm
         go_wp2_with (fail)
         go_roundw
         case rel => exact ⟨k + 1, by omega, by go_num, hz2, hb2⟩
         case measure => simp [intOf]; omega
     · have hres : Hid (true = Pr.sames r s) := Lib.hid (HI.out.2 fun j x y hx hy => hz.out j x y (by have := (List.getElem?_eq_some_iff.1 hx).1; have := HN.out; omega) hx hy).symm
       go_wp2_with (fail)
       go_ret
       exact ⟨ret_bool hres.out, hb⟩
  · have hnm2 : ((n : Int) != (m : Int)) = true := by simpa using fun h => hnm (by omega)
    have hnm3 : ¬ ((n : Int) = (m : Int)) := fun h => hnm (by omega)
    have hres : Hid (false = Pr.sames r s) := Lib.hid (Pr.sames_length (by obtain ⟨h1, h2⟩ := HN.out; omega)).symm
    clear hnm
    go_enter Tryz.func18, Tryz.ntmps18
    go_wp2_with (fail)
    go_ret
    exact ⟨ret_bool hres.out, Below.refl _ _⟩
end Go.Proofs.YteimbdklakemaaaGreatDoor

/-
  THE DOCUMENT's ANSWERS OF LAYER 10: Same.
-/
namespace Go.Proofs.YteimbdklakemaaaGreatDoor
open Go.RowKit Go.Sort
set_option maxHeartbeats 3200000

theorem tr_boxes {w W0 : World} {T : TypeId} {a b : Tr} {u v u' v' : Value} (h : W0 = (w.alloc (Obj.cells (a.cells u v).toArray T)).alloc (Obj.cells (b.cells u' v').toArray T)) :
    TrCell W0 ⟨w.heap.size, 0, none⟩ a u v ∧ TrCell W0 ⟨w.heap.size + 1, 0, none⟩ b u' v' ∧ Below w.heap.size w W0 ∧ w.heap.size + 1 < W0.heap.size := by
  obtain ⟨l1, l2, hb⟩ := box_two h
  exact ⟨l1.tr, l2.tr, hb, l2.lt⟩
set_option maxRecDepth 100000 in
theorem r10same_any (d : Nat) : ∀ (a b : Tr) (u v u' v' : Value) (w : World), TsAt d w u a.ks → PsSome w v a.cs → TsAt d w u' b.ks → PsSome w v' b.cs →
    Calls Tryz.prog 8 #[.agg #[.int .i64 a.k, .int .i64 a.t, u, v, .bool a.h], .agg #[.int .i64 b.k, .int .i64 b.t, u', v', .bool b.h]] w fun e w' => e = .returned (.bool (Tr.same a b)) ∧ Below w.heap.size w w' := by
  induction d using Nat.strongRecOn with
  | ind d ih =>
  intro a b u v u' v' w hu hv hu' hv'
  obtain ⟨W0, hW0⟩ : ∃ W0, W0 = (w.alloc (Obj.cells #[.int .i64 a.k, .int .i64 a.t, u, v, .bool a.h] 25)).alloc (Obj.cells #[.int .i64 b.k, .int .i64 b.t, u', v', .bool b.h] 25) := ⟨_, rfl⟩
  obtain ⟨p0, p1, hb0, hlt0⟩ := tr_boxes (a := a) (b := b) (u := u) (v := v) (u' := u') (v' := v') hW0
  have HU := Lib.hid (hu.below hb0 (Nat.le_refl _))
  have HU' := Lib.hid (hu'.below hb0 (Nat.le_refl _))
  obtain ⟨D, hps⟩ := hv.below hb0 (Nat.le_refl _)
  obtain ⟨D', hps'⟩ := hv'.below hb0 (Nat.le_refl _)
  obtain ⟨A, c, rfl, hl⟩ := hu.form
  obtain ⟨B, e, rfl, hm⟩ := hu'.form
  obtain ⟨A2, c2, rfl, _⟩ := hps.form
  obtain ⟨B2, e2, rfl, _⟩ := hps'.form
  have cl := r6list_any (max D D') _ _ a.cs b.cs W0 (hps.mono (Nat.le_max_left _ _)) (hps'.mono (Nat.le_max_right _ _))
  have hsame := Tr.same_at a b
  obtain ⟨n, hn⟩ : ∃ n, n = a.ks.length := ⟨_, rfl⟩
  obtain ⟨m, hmm⟩ : ∃ m, m = b.ks.length := ⟨_, rfl⟩
  rw [← hn] at hl HU p0 hW0 ⊢
  rw [← hmm] at hm HU' p1 hW0 ⊢
  have HN := Lib.hid (And.intro hn hmm)
  have HS := Lib.hid hsame
  have HP := Lib.hid p0
  have HQ := Lib.hid p1
  have HL := Lib.hid hlt0
  have IH := Lib.hid ih
  obtain ⟨x0, x1, x2, x3, x4⟩ := p0
  obtain ⟨y0, y1, y2, y3, y4⟩ := p1
  generalize Pr.sames a.cs b.cs = X at cl hsame HS
  obtain ⟨ka, hka⟩ : ∃ k, k = a.k := ⟨_, rfl⟩
  obtain ⟨kb, hkb⟩ : ∃ k, k = b.k := ⟨_, rfl⟩
  obtain ⟨ta, hta⟩ : ∃ t, t = a.t := ⟨_, rfl⟩
  obtain ⟨tb, htb⟩ : ∃ t, t = b.t := ⟨_, rfl⟩
  obtain ⟨ha, hha⟩ : ∃ h, h = a.h := ⟨_, rfl⟩
  obtain ⟨hb, hhb⟩ : ∃ h, h = b.h := ⟨_, rfl⟩
  rw [← hka, ← hkb, ← hta, ← htb, ← hha, ← hhb] at hsame HS
  rw [← hka] at x0
  rw [← hta] at x1
  rw [← hha] at x4
  rw [← hkb] at y0
  rw [← htb] at y1
  rw [← hhb] at y4
  rw [← hka, ← hkb, ← hta, ← htb, ← hha, ← hhb] at hW0 ⊢
  have HW := Lib.hid hW0
  clear hW0 ih hu hv hu' hv' hps hps' hn hmm hka hkb hta htb hha hhb hlt0
  by_cases e1 : ka = kb
  · subst e1
    by_cases e2 : ta = tb
    · subst e2
      by_cases e3 : ha = hb
      · subst e3
        by_cases e4 : n = m
        · subst e4
          have hsm : Tr.same a b = (X && Tr.sames a.ks b.ks) := by rw [hsame]; simp
          have HSM := Lib.hid hsm
          clear hsame hsm HS
          go_enter Tryz.func8, Tryz.ntmps8
          go_upto_region 1 with (fail)
          rw [← HW.out]
          go_wp2_with fail
          refine cl.mono ?_
          rintro E w1 ⟨rfl, hb1⟩
          clear cl x0 x1 x2 x3 x4 y0 y1 y2 y3 y4
          cases X
          · have hres := Lib.hid (show false = Tr.same a b by rw [HSM.out]; rfl)
            go_wp2_with fail
            go_ret
            exact ⟨ret_bool hres.out, below_join hb0 hb1⟩
          · have HI := Lib.hid (Tr.sames_iff (l := a.ks) (m := b.ks) (by obtain ⟨h1, h2⟩ := HN.out; omega))
            have hS := Below.refl w1.heap.size w1
            go_wp2_with fail
            go_loopw [5] (fun i wr => ∃ (k : Nat), k ≤ n ∧ i = .int .i64 k ∧ Hid (∀ (j : Nat) (x y : Tr), j < k → a.ks[j]? = some x → b.ks[j]? = some y → Tr.same x y = true) ∧ Below W0.heap.size W0 wr) (fun i _ => n - (intOf i).toNat)
            case atStart => exact ⟨0, Nat.zero_le _, rfl, Lib.hid fun j x y h => by omega, hb1⟩
            case round =>
             obtain ⟨k, hk, rfl, hz, hb⟩ := hrel
             have pr := HP.out.below hb (show w.heap.size < W0.heap.size by have := HL.out; omega)
             have qr := HQ.out.below hb (show w.heap.size + 1 < W0.heap.size from HL.out)
             have z2 := pr.c2
             by_cases hlt : k < n
             · as_aux_lemma =>
               obtain ⟨x, gx⟩ : ∃ x, a.ks[k]? = some x := ⟨a.ks[k]'(by have := HN.out; omega), List.getElem?_eq_getElem _⟩
               obtain ⟨y, gy⟩ : ∃ y, b.ks[k]? = some y := ⟨b.ks[k]'(by have := HN.out; omega), List.getElem?_eq_getElem _⟩
               have hu := HU.out
               have hu' := HU'.out
               rw [HN.out.1] at hu
               rw [HN.out.2] at hu'
               obtain ⟨f1, b1, o1, p1, u1, v1, hf1, rfl, hl1, h1⟩ := hu.at_ gx
               obtain ⟨f2, b2, o2, p2, u2, v2, hf2, rfl, hl2, h2⟩ := hu'.at_ gy
               obtain ⟨hx, kx1, kx2⟩ := h1 wr hb
               obtain ⟨hy, ky1, ky2⟩ := h2 wr hb
               have i1 : (0 : Int) ≤ (k : Int) := by omega
               have i2 : (k : Int) < (n : Int) := by omega
               have yx0 := cell_regrown hx.c0
               have yy0 := cell_regrown hy.c0
               have yx1 := cell_regrown hx.c1
               have yy1 := cell_regrown hy.c1
               have yx2 := cell_regrown hx.c2
               have yy2 := cell_regrown hy.c2
               have yx3 := cell_regrown hx.c3
               have yy3 := cell_regrown hy.c3
               have yx4 := cell_regrown hx.c4
               have yy4 := cell_regrown hy.c4
               have t1 := cell_regrown pr.c2
               have t2 := cell_regrown qr.c2
               have cc := in_class (W0 := wr) fun W h => IH.out (max f1 f2) (Nat.max_lt.2 ⟨hf1, hf2⟩) x y u1 v1 u2 v2 W ((kx2.below h (Nat.le_refl _)).mono (Nat.le_max_left _ _)) (kx1.below h (Nat.le_refl _)) ((ky2.below h (Nat.le_refl _)).mono (Nat.le_max_right _ _)) (ky1.below h (Nat.le_refl _))
               obtain ⟨d, hd⟩ : ∃ d : Bool, d = Tr.same x y := ⟨_, rfl⟩
               rw [← hd] at cc
               have HD := Lib.hid hd
               have GX := Lib.hid gx
               have GY := Lib.hid gy
               clear h1 h2 gx gy hd hx hy kx1 kx2 ky1 ky2 hu hu' pr qr
               go_wp2_with (fail)
               refine wp_region_quiet_below (by kernel_rfl) (by kernel_rfl) ?_
               repeat (go_big_quiet_step (with_reducible exact cc _ _))
               refine wpQuiet_nil ?_
               intro _ hw'
               obtain ⟨⟨dq, osq⟩, hw''⟩ := hw'
               subst hw''
               have hb2 := below_join hb (below_regrown wr dq osq)
               clear yx0 yy0 yx1 yy1 yx2 yy2 yx3 yy3 yx4 yy4 t1 t2 i1 i2 hb cc z2
               generalize grow (redrawn wr dq) osq = w7 at hb2 ⊢
               cases d
               · have hres : Hid (false = Tr.same a b) := Lib.hid (by
                   rw [HSM.out, Bool.true_and]
                   cases he : Tr.sames a.ks b.ks with
                   | false => rfl
                   | true => exact HD.out.trans (HI.out.1 he k x y GX.out GY.out))
                 go_wp2_with (fail)
                 go_ret
                 exact ⟨ret_bool hres.out, below_join hb0 hb2⟩
               · have hz2 : Hid (∀ (j : Nat) (x y : Tr), j < k + 1 → a.ks[j]? = some x → b.ks[j]? = some y → Tr.same x y = true) := Lib.hid fun j x' y' hj hx hy => by
                   rcases Nat.lt_or_eq_of_le (Nat.le_of_lt_succ hj) with g | g
                   · exact hz.out j x' y' g hx hy
                   · subst g
                     rw [GX.out] at hx; rw [GY.out] at hy
                     cases hx; cases hy
                     exact HD.out.symm
                 go_wp2_with (fail)
                 go_roundw
                 case rel => exact ⟨k + 1, by omega, by go_num, hz2, hb2⟩
                 case measure => simp [intOf]; omega
             · have hres : Hid (true = Tr.same a b) := Lib.hid (by
                 rw [HSM.out, Bool.true_and]
                 exact (HI.out.2 fun j x y hx hy => hz.out j x y (by have := (List.getElem?_eq_some_iff.1 hx).1; have := HN.out; omega) hx hy).symm)
               clear pr qr
               go_wp2_with (fail)
               go_ret
               exact ⟨ret_bool hres.out, below_join hb0 hb⟩
        · have hres := Lib.hid (show false = Tr.same a b by
            rw [hsame, Tr.sames_length (by obtain ⟨h1, h2⟩ := HN.out; omega)]; simp)
          have hne : ((n : Int) != (m : Int)) = true := by simpa using fun h => e4 (by omega)
          have hne2 : ¬ ((n : Int) = (m : Int)) := fun h => e4 (by omega)
          clear hsame cl e4
          go_enter Tryz.func8, Tryz.ntmps8
          go_upto_region 1 with (fail)
          rw [← HW.out]
          go_wp2_with fail
          go_ret
          exact ⟨ret_bool hres.out, hb0⟩
      · have hres := Lib.hid (show false = Tr.same a b by
          rw [hsame]
          have : (ha == hb) = false := by simpa using e3
          rw [this]; simp)
        have hne : (ha != hb) = true := by simpa using e3
        clear hsame cl
        go_enter Tryz.func8, Tryz.ntmps8
        go_upto_region 1 with (fail)
        rw [← HW.out]
        go_wp2_with fail
        go_ret
        exact ⟨ret_bool hres.out, hb0⟩
    · have hres := Lib.hid (show false = Tr.same a b by
        rw [hsame]
        have : (ta == tb) = false := by simpa using e2
        rw [this]; simp)
      have hne : (ta != tb) = true := by simpa using e2
      clear hsame cl
      go_enter Tryz.func8, Tryz.ntmps8
      go_upto_region 1 with (fail)
      rw [← HW.out]
      go_wp2_with fail
      go_ret
      exact ⟨ret_bool hres.out, hb0⟩
  · have hres := Lib.hid (show false = Tr.same a b by
      rw [hsame]
      have : (ka == kb) = false := by simpa using e1
      rw [this]; simp)
    have hne : (ka != kb) = true := by simpa using e1
    clear hsame cl
    go_enter Tryz.func8, Tryz.ntmps8
    go_upto_region 1 with (fail)
    rw [← HW.out]
    go_wp2_with fail
    go_ret
    exact ⟨ret_bool hres.out, hb0⟩
end Go.Proofs.YteimbdklakemaaaGreatDoor

/-
  THE DOCUMENT's ANSWERS OF LAYER 10: Tables; a row of trees of one's own, cell by cell.
-/
namespace Go.Proofs.YteimbdklakemaaaGreatDoor
open Go.RowKit Go.Sort
set_option maxHeartbeats 1600000

theorem trCells_get {L : List TrV} {j i : Nat} {x : TrV} (h : L[j]? = some x) (hi : i < 5) : (trCells L)[j * 5 + i]? = (x.1.cells x.2.1 x.2.2)[i]? := by
  induction L generalizing j with
  | nil => simp at h
  | cons y r ih =>
    have e : trCells (y :: r) = y.1.cells y.2.1 y.2.2 ++ trCells r := by simp [trCells]
    have e5 : (y.1.cells y.2.1 y.2.2).length = 5 := rfl
    rw [e]
    cases j with
    | zero =>
      simp at h
      subst h
      rw [List.getElem?_append_left (by omega), Nat.zero_mul, Nat.zero_add]
    | succ j =>
      rw [List.getElem?_append_right (by omega), e5, show (j + 1) * 5 + i - 5 = j * 5 + i by omega]
      exact ih (by simpa using h)
theorem add_from5 (g j : Nat) : (⟨g, 0, none⟩ : Addr).add j = ⟨g, j, none⟩ := by
  unfold Addr.add
  split
  · next h => subst h; rfl
  · simp
/-- a row of trees of one's own, tree by tree -/
theorem own_tr {w : World} {base : Nat} {T : TypeId} {v : Value} {L : List TrV} (h : w.ownsRow base T 5 v L.length (trCells L)) :
    ∃ A c, v = .slice A L.length c ∧ ∀ (j : Nat) (x : TrV), L[j]? = some x → ∃ g, A = some ⟨g, 0, none⟩ ∧ base ≤ g ∧ g < w.heap.size ∧ TrCell w ((⟨g, 0, none⟩ : Addr).add (j * 5)) x.1 x.2.1 x.2.2 := by
  rcases h.2 with ⟨hv, hn⟩ | ⟨g, cap, cur, hv, _⟩
  · exact ⟨none, 0, by rw [hn]; exact hv, fun j x hx => by rw [List.eq_nil_of_length_eq_zero hn] at hx; simp at hx⟩
  · subst hv
    refine ⟨_, cap, rfl, fun j x hx => ⟨g, rfl, (h.lt g rfl).1, (h.lt g rfl).2, ?_⟩⟩
    have k : ∀ i u, i < 5 → (x.1.cells x.2.1 x.2.2)[i]? = some u → w.cell? ⟨g, j * 5 + i, none⟩ = some u := fun i u hi hu => by
      have := h.cells (g := g) rfl (j * 5 + i) u (by rw [trCells_get hx hi, hu])
      rwa [add_from5] at this
    rw [add_from5]
    exact ⟨k 0 _ (by omega) rfl, k 1 _ (by omega) rfl, k 2 _ (by omega) rfl, k 3 _ (by omega) rfl, k 4 _ (by omega) rfl⟩
/-- rows of two types lie apart -/
theorem own_types {w : World} {b b' n n' s s' : Nat} {e e' : TypeId} {v v' : Value} {xs xs' : List Value} (h : w.ownsRow b e s v n xs) (h' : w.ownsRow b' e' s' v' n' xs') (he : e ≠ e') : v.ownBlock = none ∨ v.ownBlock ≠ v'.ownBlock := by
  rcases h.2 with ⟨rfl, _⟩ | ⟨g, cap, cur, rfl, _, hg, _⟩
  · exact .inl rfl
  · refine .inr fun hh => ?_
    rcases h'.2 with ⟨rfl, _⟩ | ⟨g', cap', cur', rfl, _, hg', _⟩
    · cases hh
    · have h4 := Option.some.inj hh
      simp at h4
      subst h4
      rw [hg] at hg'
      have h5 := Option.some.inj hg'
      injection h5 with _ h6 _
      exact he h6
/-- the tables of the leaves among the first q -/
def leafTs (l : List Tr) : List Int := (l.filter fun x => x.k == 0).map Tr.t
theorem leafTs_take {l : List Tr} {q : Nat} {b : Tr} (h : l[q]? = some b) : leafTs (l.take (q + 1)) = leafTs (l.take q) ++ (if b.k = 0 then [b.t] else []) := by
  rw [List.take_add_one, h]
  by_cases hk : b.k = 0 <;> simp [leafTs, hk]
theorem leafTs_len (l : List Tr) : (leafTs l).length ≤ l.length := by
  unfold leafTs
  rw [List.length_map]
  exact List.length_filter_le _ _
end Go.Proofs.YteimbdklakemaaaGreatDoor

/-
  WORDS FOR A ROW THAT IS CLONED AND WRITTEN INTO: cells set one behind the other; rows of predicates and of trees with the slices of their cells.
-/
namespace Go.Proofs.YteimbdklakemaaaGreatDoor
open Go.RowKit

theorem PsOn.more {T : Nat → Prop} {d : Nat} : ∀ {w : World} {v : Value} {l : List Pd}, PsOn T d w v l → PsOn T (d + 1) w v l := by
  induction d with
  | zero =>
    intro w v l h
    obtain ⟨rfl, A, c, rfl⟩ := h
    exact ⟨A, c, rfl, by simp, fun j a hj => by simp at hj⟩
  | succ d ih =>
    intro w v l h
    obtain ⟨A, c, hv, hc, hx⟩ := h
    refine ⟨A, c, hv, hc, fun j a hj => ?_⟩
    obtain ⟨b, o, s, u, hA, ht, hlt, hcell, hp⟩ := hx j a hj
    exact ⟨b, o, s, u, hA, ht, hlt, hcell, ih hp⟩
theorem PsOn.mono {T : Nat → Prop} {d e : Nat} {w : World} {v : Value} {l : List Pd} (h : PsOn T d w v l) (hd : d ≤ e) : PsOn T e w v l := by
  induction hd with
  | refl => exact h
  | step _ ih => exact ih.more
/-- the cells xs from place o on -/
def setMany : List Value → Nat → List Value → List Value
  | cs, _, [] => cs
  | cs, o, x :: r => setMany (cs.set o x) (o + 1) r
/-- stores, one behind the other -/
def setCells (W : World) (g : Nat) : Nat → List Value → World
  | _, [] => W
  | o, x :: r => setCells (W.setCell ⟨g, o, none⟩ x) g (o + 1) r
theorem setMany_length (xs : List Value) : ∀ (cs : List Value) (o : Nat), (setMany cs o xs).length = cs.length := by
  induction xs with
  | nil => intro cs o; rfl
  | cons x r ih => intro cs o; rw [setMany, ih, List.length_set]
theorem setMany_out (xs : List Value) : ∀ (cs : List Value) (o k : Nat), (k < o ∨ o + xs.length ≤ k) → (setMany cs o xs)[k]? = cs[k]? := by
  induction xs with
  | nil => intro cs o k _; rfl
  | cons x r ih =>
    intro cs o k h
    rw [List.length_cons] at h
    rw [setMany, ih _ _ _ (by omega), List.getElem?_set_ne (by omega)]
theorem setMany_in (xs : List Value) : ∀ (cs : List Value) (o i : Nat), i < xs.length → o + xs.length ≤ cs.length → (setMany cs o xs)[o + i]? = xs[i]? := by
  induction xs with
  | nil => intro cs o i h; simp at h
  | cons x r ih =>
    intro cs o i h hl
    rw [List.length_cons] at h hl
    rw [setMany]
    cases i with
    | zero =>
      show (setMany (cs.set o x) (o + 1) r)[o]? = some x
      rw [setMany_out _ _ _ _ (.inl (by omega)), List.getElem?_set_self (by omega)]
    | succ i => rw [show o + (i + 1) = o + 1 + i by omega, ih _ _ _ (by omega) (by rw [List.length_set]; omega)]; rfl
theorem Lies.sets {g : Nat} {T : TypeId} (xs : List Value) : ∀ {W : World} {cs : List Value} (o : Nat), Lies W g T cs → Lies (setCells W g o xs) g T (setMany cs o xs) := by
  induction xs with
  | nil => intro W cs o h; exact h
  | cons x r ih => intro W cs o h; exact ih (o + 1) (h.set o x)
theorem setCells_size (g : Nat) (xs : List Value) : ∀ (W : World) (o : Nat), (setCells W g o xs).heap.size = W.heap.size := by
  induction xs with
  | nil => intro W o; rfl
  | cons x r ih => intro W o; rw [setCells, ih]; simp [World.setCell]
theorem setCells_other (g k : Nat) (hk : k ≠ g) (xs : List Value) : ∀ (W : World) (o : Nat), (setCells W g o xs).heap[k]? = W.heap[k]? := by
  induction xs with
  | nil => intro W o; rfl
  | cons x r ih => intro W o; rw [setCells, ih]; exact Below.heap_setCell _ _ _ _ hk
theorem Below.sets {B g : Nat} (hg : B ≤ g) (xs : List Value) : ∀ {w W : World} (o : Nat), Below B w W → Below B w (setCells W g o xs) := by
  induction xs with
  | nil => intro w W o h; exact h
  | cons x r ih => intro w W o h; exact ih (o + 1) (h.setCell hg x)
theorem PsIn.on {lo d : Nat} : ∀ {w : World} {v : Value} {l : List Pd}, PsIn lo d w v l → PsOn (fun k => lo ≤ k) d w v l := by
  induction d with
  | zero => intro w v l h; exact h
  | succ d ih =>
    intro w v l h
    obtain ⟨A, c, hv, hc, hx⟩ := h
    refine ⟨A, c, hv, hc, fun j p hj => ?_⟩
    obtain ⟨b, o, s, u, hA, hlo, hlt, hcell, hp⟩ := hx j p hj
    exact ⟨b, o, s, u, hA, hlo, hlt, hcell, ih hp⟩
theorem add_more (b : Addr) (m i : Nat) (h : 0 < i) : b.add (m + i) = ⟨(b.add m).block, (b.add m).off + i, none⟩ := by
  unfold Addr.add
  rw [if_neg (by omega)]
  split
  · next h0 => subst h0; simp
  · simp; omega
theorem pdCells_length (L : List (Pd × Value)) : (pdCells L).length = L.length * 14 := by
  induction L with
  | nil => rfl
  | cons x r ih =>
    have e : pdCells (x :: r) = x.1.f.cells x.2 ++ pdCells r := rfl
    rw [e, List.length_append, ih, cells_len, List.length_cons]; omega
theorem trCells_length (L : List TrV) : (trCells L).length = L.length * 5 := by
  induction L with
  | nil => rfl
  | cons x r ih =>
    have e : trCells (x :: r) = x.1.cells x.2.1 x.2.2 ++ trCells r := rfl
    rw [e, List.length_append, ih, List.length_cons]; simp [Tr.cells]; omega
/-- a list of pairs that goes with a list -/
theorem pairs_of {α β : Type} {l : List α} {Q : Nat → α → β → Prop} (h : ∀ (j : Nat) (a : α), l[j]? = some a → ∃ x, Q j a x) : ∃ L : List (α × β), L.map (·.1) = l ∧ ∀ (j : Nat) (x : α × β), L[j]? = some x → Q j x.1 x.2 := by
  obtain ⟨L, hl, hL⟩ := list_of (α := α × β) (Q := fun j x => l[j]? = some x.1 ∧ Q j x.1 x.2) l.length (fun i hi => by
    obtain ⟨x, hx⟩ := h i _ (List.getElem?_eq_getElem hi)
    exact ⟨(l[i], x), List.getElem?_eq_getElem hi, hx⟩)
  refine ⟨L, List.ext_getElem? fun j => ?_, fun j x hj => (hL j x hj).2⟩
  rw [List.getElem?_map]
  cases hj : L[j]? with
  | none =>
    rw [List.getElem?_eq_none_iff] at hj
    exact (List.getElem?_eq_none_iff.2 (by omega)).symm
  | some x => exact (hL j x hj).1.symm
/-- predicates that lie at a slice, with the slices of their parts -/
theorem PsAt.rows {d : Nat} {w : World} {A : Option Addr} {n c : Nat} {l : List Pd} (h : PsAt (d + 1) w (.slice A n c) l) :
    ∃ L : List (Pd × Value), L.map (·.1) = l ∧ ∀ (j : Nat) (x : Pd × Value), L[j]? = some x → ∃ b o s, A = some ⟨b, o, s⟩ ∧ b < w.heap.size ∧ PdCell w ((⟨b, o, s⟩ : Addr).add (j * 14)) x.1.f x.2 ∧ PsAt d w x.2 x.1.ps := by
  obtain ⟨A', c', hv, _, hx⟩ := h
  cases hv
  exact pairs_of (Q := fun j (p : Pd) u => ∃ b o s, A = some ⟨b, o, s⟩ ∧ b < w.heap.size ∧ PdCell w ((⟨b, o, s⟩ : Addr).add (j * 14)) p.f u ∧ PsAt d w u p.ps) fun j p hj => by
    obtain ⟨b, o, s, u, h1, h2, h3, h4⟩ := hx j p hj
    exact ⟨u, b, o, s, h1, h2, h3, h4⟩
theorem TsAt.rows {d : Nat} {w : World} {A : Option Addr} {n c : Nat} {l : List Tr} (h : TsAt (d + 1) w (.slice A n c) l) :
    ∃ L : List TrV, L.map (·.1) = l ∧ ∀ (j : Nat) (x : TrV), L[j]? = some x → ∃ b o s, A = some ⟨b, o, s⟩ ∧ b < w.heap.size ∧ TrCell w ((⟨b, o, s⟩ : Addr).add (j * 5)) x.1 x.2.1 x.2.2 ∧ PsSome w x.2.2 x.1.cs ∧ TsAt d w x.2.1 x.1.ks := by
  obtain ⟨A', c', hv, _, hx⟩ := h
  cases hv
  exact pairs_of (Q := fun j (p : Tr) (y : Value × Value) => ∃ b o s, A = some ⟨b, o, s⟩ ∧ b < w.heap.size ∧ TrCell w ((⟨b, o, s⟩ : Addr).add (j * 5)) p y.1 y.2 ∧ PsSome w y.2 p.cs ∧ TsAt d w y.1 p.ks) fun j p hj => by
    obtain ⟨b, o, s, x, y, h1, h2, h3, h4, h5⟩ := hx j p hj
    exact ⟨(x, y), b, o, s, h1, h2, h3, h4, h5⟩
/-- their cells, one by one -/
theorem pdCells_here {w : World} {b : Addr} {L : List (Pd × Value)} (h : ∀ (j : Nat) (x : Pd × Value), L[j]? = some x → PdCell w (b.add (j * 14)) x.1.f x.2) : ∀ (k : Nat) (u : Value), (pdCells L)[k]? = some u → w.cell? (b.add k) = some u := by
  intro k u hk
  have hlt := (List.getElem?_eq_some_iff.1 hk).1
  rw [pdCells_length] at hlt
  have hj : k / 14 < L.length := by omega
  obtain ⟨x, hx⟩ : ∃ x, L[k / 14]? = some x := ⟨_, List.getElem?_eq_getElem hj⟩
  have hi : k % 14 < 14 := Nat.mod_lt _ (by decide)
  have hke : k = k / 14 * 14 + k % 14 := by omega
  rw [hke, pdCells_at L _ _ x hx hi] at hk
  obtain ⟨c0, c1, c2, c3, c4, c5, c6, c7, c8, c9, c10, c11, c12, c13⟩ := h _ x hx
  rw [hke]
  generalize k % 14 = i at hk hi ⊢
  match i, hi with
  | 0, _ => cases hk; exact c0
  | 1, _ => cases hk; rw [add_more _ _ _ (by decide)]; exact c1
  | 2, _ => cases hk; rw [add_more _ _ _ (by decide)]; exact c2
  | 3, _ => cases hk; rw [add_more _ _ _ (by decide)]; exact c3
  | 4, _ => cases hk; rw [add_more _ _ _ (by decide)]; exact c4
  | 5, _ => cases hk; rw [add_more _ _ _ (by decide)]; exact c5
  | 6, _ => cases hk; rw [add_more _ _ _ (by decide)]; exact c6
  | 7, _ => cases hk; rw [add_more _ _ _ (by decide)]; exact c7
  | 8, _ => cases hk; rw [add_more _ _ _ (by decide)]; exact c8
  | 9, _ => cases hk; rw [add_more _ _ _ (by decide)]; exact c9
  | 10, _ => cases hk; rw [add_more _ _ _ (by decide)]; exact c10
  | 11, _ => cases hk; rw [add_more _ _ _ (by decide)]; exact c11
  | 12, _ => cases hk; rw [add_more _ _ _ (by decide)]; exact c12
  | 13, _ => cases hk; rw [add_more _ _ _ (by decide)]; exact c13
theorem trCells_here {w : World} {b : Addr} {L : List TrV} (h : ∀ (j : Nat) (x : TrV), L[j]? = some x → TrCell w (b.add (j * 5)) x.1 x.2.1 x.2.2) : ∀ (k : Nat) (u : Value), (trCells L)[k]? = some u → w.cell? (b.add k) = some u := by
  intro k u hk
  have hlt := (List.getElem?_eq_some_iff.1 hk).1
  rw [trCells_length] at hlt
  have hj : k / 5 < L.length := by omega
  obtain ⟨x, hx⟩ : ∃ x, L[k / 5]? = some x := ⟨_, List.getElem?_eq_getElem hj⟩
  have hi : k % 5 < 5 := Nat.mod_lt _ (by decide)
  have hke : k = k / 5 * 5 + k % 5 := by omega
  rw [hke, trCells_get hx hi] at hk
  obtain ⟨c0, c1, c2, c3, c4⟩ := h _ x hx
  rw [hke]
  generalize k % 5 = i at hk hi ⊢
  match i, hi with
  | 0, _ => cases hk; exact c0
  | 1, _ => cases hk; rw [add_more _ _ _ (by decide)]; exact c1
  | 2, _ => cases hk; rw [add_more _ _ _ (by decide)]; exact c2
  | 3, _ => cases hk; rw [add_more _ _ _ (by decide)]; exact c3
  | 4, _ => cases hk; rw [add_more _ _ _ (by decide)]; exact c4
/-- block g holds the cells of a row, and what is spare -/
def RowLies (w : World) (g : Nat) (T : TypeId) (xs : List Value) : Prop := ∃ cs, Lies w g T cs ∧ xs.length ≤ cs.length ∧ ∀ (k : Nat) (u : Value), xs[k]? = some u → cs[k]? = some u
theorem RowLies.cell {w : World} {g : Nat} {T : TypeId} {xs : List Value} (h : RowLies w g T xs) {k : Nat} {u : Value} (hk : xs[k]? = some u) : w.cell? ⟨g, k, none⟩ = some u := by
  obtain ⟨cs, hl, _, hx⟩ := h
  exact hl.cell (hx k u hk)
theorem RowLies.free {w : World} {g : Nat} {T : TypeId} {xs : List Value} (h : RowLies w g T xs) (k : Nat) : w.frozen? ⟨g, k, none⟩ = false := by
  obtain ⟨cs, hl, _, _⟩ := h
  exact hl.free k
theorem RowLies.lt {w : World} {g : Nat} {T : TypeId} {xs : List Value} (h : RowLies w g T xs) : g < w.heap.size := by
  obtain ⟨cs, hl, _, _⟩ := h
  exact hl.lt
theorem RowLies.block {w w' : World} {g : Nat} {T : TypeId} {xs : List Value} (h : RowLies w g T xs) (hb : w'.heap[g]? = w.heap[g]?) : RowLies w' g T xs := by
  obtain ⟨cs, hl, h1, h2⟩ := h
  exact ⟨cs, hb.trans hl, h1, h2⟩
theorem RowLies.sets {w : World} {g : Nat} {T : TypeId} {xs ys zs : List Value} {o : Nat} (h : RowLies w g T xs) (hl : zs.length = xs.length) (ho : o + ys.length ≤ xs.length) (h1 : ∀ k, (k < o ∨ o + ys.length ≤ k) → zs[k]? = xs[k]?) (h2 : ∀ i, i < ys.length → zs[o + i]? = ys[i]?) :
    RowLies (setCells w g o ys) g T zs := by
  obtain ⟨cs, hc, hlen, hx⟩ := h
  refine ⟨setMany cs o ys, hc.sets ys o, by rw [setMany_length]; omega, fun k u hk => ?_⟩
  by_cases hko : k < o ∨ o + ys.length ≤ k
  · rw [setMany_out _ _ _ _ hko]
    exact hx k u ((h1 k hko).symm.trans hk)
  · obtain ⟨i, rfl⟩ : ∃ i, k = o + i := ⟨k - o, by omega⟩
    rw [setMany_in _ _ _ _ (by omega) (by omega), ← h2 i (by omega)]
    exact hk
theorem RowLies.own {w : World} {base g n c size : Nat} {T : TypeId} {xs : List Value} (h : w.ownsRow base T size (.slice (some ⟨g, 0, none⟩) n c) n xs) (hlen : xs.length = n * size) : RowLies w g T xs ∧ base ≤ g ∧ n ≤ c := by
  rcases h.2 with ⟨hv, _⟩ | ⟨g', cap, cur, hv, hb, hg, hnc, hrest⟩
  · cases hv
  · cases hv
    have hc := h.cells (g := g) rfl
    refine ⟨⟨cur.toList, by show w.heap[g]? = _; rw [hg, Array.toArray_toList], ?_, fun k u hk => ?_⟩, hb, hnc⟩
    · by_cases hz : xs.length ≤ cur.size
      · simpa using hz
      · exfalso
        have hlast : xs[xs.length - 1]? = some (xs[xs.length - 1]'(by omega)) := List.getElem?_eq_getElem _
        have hc2 := hc _ _ hlast
        rw [add_here] at hc2
        unfold World.cell? at hc2
        rw [show w.heap[g]? = _ from hg] at hc2
        have := (Array.getElem?_eq_some_iff.1 (show cur[xs.length - 1]? = _ from by simpa using hc2)).1
        omega
    · have hc2 := hc k u hk
      rw [add_here] at hc2
      unfold World.cell? at hc2
      rw [show w.heap[g]? = _ from hg] at hc2
      simpa using hc2
theorem pdCells_put {L : List (Pd × Value)} {q : Nat} {y : Pd × Value} (hq : q < L.length) : (pdCells (L.set q y)).length = (pdCells L).length ∧ (∀ k, (k < q * 14 ∨ q * 14 + 14 ≤ k) → (pdCells (L.set q y))[k]? = (pdCells L)[k]?) ∧ ∀ i, i < 14 → (pdCells (L.set q y))[q * 14 + i]? = (y.1.f.cells y.2)[i]? := by
  have hlen : (pdCells (L.set q y)).length = (pdCells L).length := by rw [pdCells_length, pdCells_length, List.length_set]
  refine ⟨hlen, fun k hk => ?_, fun i hi => ?_⟩
  · by_cases hkl : k < (pdCells L).length
    · rw [pdCells_length] at hkl
      have hj : k / 14 < L.length := by omega
      have hjq : q ≠ k / 14 := by omega
      have hke : k = k / 14 * 14 + k % 14 := by omega
      obtain ⟨x, hx⟩ : ∃ x, L[k / 14]? = some x := ⟨_, List.getElem?_eq_getElem hj⟩
      have hx2 : (L.set q y)[k / 14]? = some x := by rw [List.getElem?_set_ne hjq]; exact hx
      rw [hke, pdCells_at (L.set q y) _ _ _ hx2 (Nat.mod_lt _ (by decide)), pdCells_at L _ _ _ hx (Nat.mod_lt _ (by decide))]
    · rw [List.getElem?_eq_none (by omega), List.getElem?_eq_none (by omega)]
  · exact pdCells_at (L.set q y) _ _ _ (List.getElem?_set_self hq) hi
theorem trCells_put {L : List (TrV)} {q : Nat} {y : TrV} (hq : q < L.length) : (trCells (L.set q y)).length = (trCells L).length ∧ (∀ k, (k < q * 5 ∨ q * 5 + 5 ≤ k) → (trCells (L.set q y))[k]? = (trCells L)[k]?) ∧ ∀ i, i < 5 → (trCells (L.set q y))[q * 5 + i]? = (y.1.cells y.2.1 y.2.2)[i]? := by
  have hlen : (trCells (L.set q y)).length = (trCells L).length := by rw [trCells_length, trCells_length, List.length_set]
  refine ⟨hlen, fun k hk => ?_, fun i hi => ?_⟩
  · by_cases hkl : k < (trCells L).length
    · rw [trCells_length] at hkl
      have hj : k / 5 < L.length := by omega
      have hjq : q ≠ k / 5 := by omega
      have hke : k = k / 5 * 5 + k % 5 := by omega
      obtain ⟨x, hx⟩ : ∃ x, L[k / 5]? = some x := ⟨_, List.getElem?_eq_getElem hj⟩
      have hx2 : (L.set q y)[k / 5]? = some x := by rw [List.getElem?_set_ne hjq]; exact hx
      rw [hke, trCells_get hx2 (Nat.mod_lt _ (by decide)), trCells_get hx (Nat.mod_lt _ (by decide))]
    · rw [List.getElem?_eq_none (by omega), List.getElem?_eq_none (by omega)]
  · exact trCells_get (List.getElem?_set_self hq) hi
theorem RowLies.tr {w : World} {g : Nat} {T : TypeId} {M : List TrV} (h : RowLies w g T (trCells M)) {j : Nat} {x : TrV} (hx : M[j]? = some x) : TrCell w ⟨g, j * 5, none⟩ x.1 x.2.1 x.2.2 :=
  have k : ∀ i u, i < 5 → (x.1.cells x.2.1 x.2.2)[i]? = some u → w.cell? ⟨g, j * 5 + i, none⟩ = some u := fun i u hi hu => h.cell (by rw [trCells_get hx hi]; exact hu)
  ⟨k 0 _ (by decide) rfl, k 1 _ (by decide) rfl, k 2 _ (by decide) rfl, k 3 _ (by decide) rfl, k 4 _ (by decide) rfl⟩
theorem RowLies.pd {w : World} {g : Nat} {T : TypeId} {M : List (Pd × Value)} (h : RowLies w g T (pdCells M)) {j : Nat} {x : Pd × Value} (hx : M[j]? = some x) : PdCell w ⟨g, j * 14, none⟩ x.1.f x.2 :=
  have k : ∀ i u, i < 14 → (x.1.f.cells x.2)[i]? = some u → w.cell? ⟨g, j * 14 + i, none⟩ = some u := fun i u hi hu => h.cell (by rw [pdCells_at M _ _ x hx hi]; exact hu)
  ⟨k 0 _ (by decide) rfl, k 1 _ (by decide) rfl, k 2 _ (by decide) rfl, k 3 _ (by decide) rfl, k 4 _ (by decide) rfl, k 5 _ (by decide) rfl, k 6 _ (by decide) rfl, k 7 _ (by decide) rfl, k 8 _ (by decide) rfl, k 9 _ (by decide) rfl, k 10 _ (by decide) rfl, k 11 _ (by decide) rfl, k 12 _ (by decide) rfl, k 13 _ (by decide) rfl⟩
end Go.Proofs.YteimbdklakemaaaGreatDoor

/-
  THE LAW's Two OF LAYER 10, and what is known of the trees that it makes.
-/
namespace Go.Proofs.YteimbdklakemaaaGreatDoor
open Go.RowKit Go.Sort
set_option maxHeartbeats 1600000

theorem TsOn.two {T : Nat → Prop} {w : World} {g : Nat} (ht : T g) (hg : g < w.heap.size) (t0 : TrCell w ⟨g, 0, none⟩ (leafTr 0) (.slice none 0 0) (.slice none 0 0)) (t1 : TrCell w ⟨g, 5, none⟩ (leafTr 1) (.slice none 0 0) (.slice none 0 0)) :
    TsOn T 2 w (.slice (some ⟨g, 0, none⟩) 2 2) [leafTr 0, leafTr 1] := by
  have hn : TsOn T 1 w (.slice none 0 0) [] := ⟨none, 0, rfl, by simp, fun j a h => by simp at h⟩
  have hp : ∃ e, PsOn T e w (.slice none 0 0) [] := ⟨0, rfl, none, 0, rfl⟩
  refine ⟨some ⟨g, 0, none⟩, 2, rfl, by simp, fun j a hj => ?_⟩
  match j, hj with
  | 0, hj =>
    cases hj
    exact ⟨g, 0, none, _, _, rfl, ht, hg, by simpa [Addr.add] using t0, hp, hn⟩
  | 1, hj =>
    cases hj
    exact ⟨g, 0, none, _, _, rfl, ht, hg, by simpa [Addr.add] using t1, hp, hn⟩
theorem PsOn.oneRow {T : Nat → Prop} {w : World} {g : Nat} {f : Pf} (ht : T g) (hg : g < w.heap.size) (h : PdCell w ⟨g, 0, none⟩ f (.slice none 0 0)) : PsOn T 1 w (.slice (some ⟨g, 0, none⟩) 1 1) [.mk f []] := by
  refine ⟨some ⟨g, 0, none⟩, 1, rfl, by simp, fun j p hj => ?_⟩
  match j, hj with
  | 0, hj =>
    cases hj
    exact ⟨g, 0, none, _, rfl, ht, hg, by rw [show (⟨g, 0, none⟩ : Addr).add (0 * 14) = ⟨g, 0, none⟩ by simp [Addr.add]]; exact h, rfl, none, 0, rfl⟩
theorem two_size (k : Int) : Tr.size (twoTr k) ≤ 1000 := by
  unfold twoTr leafTr eq01
  simp [Tr.size, Tr.sizes, Pr.sizes, Pr.size]
set_option maxRecDepth 100000 in
theorem two10_any (k : Int) (w : World) :
    Calls Tryz.prog 11 #[.int .i64 k] w
      fun e w' => ∃ u v, e = .returned (.agg #[.int .i64 k, .int .i64 0, u, v, .bool false]) ∧ TrHang w' (twoTr k, u, v) ∧ Below w.heap.size w w' := by
  obtain ⟨W0, hW0⟩ : ∃ W0, W0 = w.alloc (Obj.cells #[.int .i64 0, .int .i64 0, .slice none 0 0, .slice none 0 0, .bool false] 25) := ⟨_, rfl⟩
  obtain ⟨q0, hb0⟩ := box_one (cs := [.int .i64 0, .int .i64 0, .slice none 0 0, .slice none 0 0, .bool false]) hW0
  have HQ := Lib.hid q0
  have HW := Lib.hid hW0
  have hsz0 := Lib.hid (show w.heap.size < W0.heap.size by rw [hW0]; simp)
  clear hW0 q0
  go_enter Tryz.func11, Tryz.ntmps11
  go_wp2_with (go_at_call 20; refine (leaf10_any 0 _).mono ?_)
  rintro e w1 ⟨rfl, hb1⟩
  rw [← HW.out] at hb1
  go_wp2_with (go_at_call 20; refine (leaf10_any 1 _).mono ?_)
  rintro e w2 ⟨rfl, hb2⟩
  have hb02 := below_join hb1 hb2
  clear hb1 hb2
  go_wp2_with (go_at_call 21; refine (equal6_any 0 1 _).mono ?_)
  rintro e w3 ⟨rfl, hb3⟩
  have hb03 := below_join hb02 hb3
  clear hb02 hb3
  go_wp2_with (go_at_call 19; refine (on10_any k (leafTr 0, .slice none 0 0, .slice none 0 0) (leafTr 1, .slice none 0 0, .slice none 0 0) _ 1 1 _).mono ?_)
  obtain ⟨W4, hW4⟩ : ∃ W4, W4 = w3.alloc (Obj.cells #[.int .i64 2, .int .i64 0, .int .i64 1, .int .i64 1, .int .i64 0, .int .i64 0, .bool false, .int .i64 0, .int .i64 1, .int .i64 1, .int .i64 0, .bool false, .int .i64 0, .slice none 0 0] 43) := ⟨_, rfl⟩
  obtain ⟨lp, hb4⟩ := box_one (cs := [.int .i64 2, .int .i64 0, .int .i64 1, .int .i64 1, .int .i64 0, .int .i64 0, .bool false, .int .i64 0, .int .i64 1, .int .i64 1, .int .i64 0, .bool false, .int .i64 0, .slice none 0 0]) hW4
  rw [← hW4]
  have hps : PsOn (fun k => w.heap.size < k) 1 W4 (.slice (some ⟨w3.heap.size, 0, none⟩) 1 1) [eq01] := PsOn.oneRow (f := (⟨2, 0, 1, ⟨1, 0, 0, false, 0⟩, ⟨1, 1, 0, false, 0⟩⟩ : Pf)) (by have := hb03.size; have := hsz0.out; omega) lp.lt lp.pd
  have hb04 := below_join hb03 hb4
  have HP := Lib.hid hps
  have HB := Lib.hid hb04
  clear hb03 hps hb4 lp hW4 hb04
  rintro e w5 ⟨g, rfl, hg1, hg2, t0, t1, hb5⟩
  have hts := Lib.hid (TsOn.two (T := fun k => w.heap.size < k) (by have := HB.out.size; have := hsz0.out; omega) hg2 t0 t1)
  have hps5 := Lib.hid (HP.out.keep (T' := fun k => w.heap.size < k) hb5.size fun k hk hlt => ⟨hb5.block k hlt, hk⟩)
  have hb05 := below_join HB.out hb5
  have q5 := HQ.out.below hb05 hsz0.out
  have HB5 := Lib.hid (below_join hb0 hb05)
  have z0 := q5.cell (i := 0) rfl
  have z1 := q5.cell (i := 1) rfl
  have z2 := q5.cell (i := 2) rfl
  have z3 := q5.cell (i := 3) rfl
  have z4 := q5.cell (i := 4) rfl
  have f0 := q5.free 0
  have f1 := q5.free 1
  have f2 := q5.free 2
  have f3 := q5.free 3
  have f4 := q5.free 4
  have HQ5 := Lib.hid q5
  clear t0 t1 hb5 hg1 hg2 HP HB hb05 q5 hb0
  go_wp2_with fail
  obtain ⟨W6, hW6⟩ : ∃ W6, W6 = setCells w5 w.heap.size 0 [.int .i64 k, .int .i64 0, .slice (some ⟨g, 0, none⟩) 2 2, .slice (some ⟨w3.heap.size, 0, none⟩) 1 1, .bool false] := ⟨_, rfl⟩
  simp only [setCells] at hW6
  rw [← hW6]
  change W6 = setCells w5 w.heap.size 0 [.int .i64 k, .int .i64 0, .slice (some ⟨g, 0, none⟩) 2 2, .slice (some ⟨w3.heap.size, 0, none⟩) 1 1, .bool false] at hW6
  have q6 : Lies W6 w.heap.size 25 [.int .i64 k, .int .i64 0, .slice (some ⟨g, 0, none⟩) 2 2, .slice (some ⟨w3.heap.size, 0, none⟩) 1 1, .bool false] := by rw [hW6]; exact HQ5.out.sets _ 0
  have hs6 : W6.heap.size = w5.heap.size := by rw [hW6, setCells_size]
  have hk6 : ∀ k, w.heap.size < k → W6.heap[k]? = w5.heap[k]? := fun k hk => by rw [hW6, setCells_other _ _ (by omega)]
  have hang : TrHang W6 (twoTr k, .slice (some ⟨g, 0, none⟩) 2 2, .slice (some ⟨w3.heap.size, 0, none⟩) 1 1) :=
    TrOn.hang (T := fun k => w.heap.size < k) ⟨⟨2, hts.out.keep (by omega) fun k hk _ => ⟨hk6 k hk, hk⟩⟩, 1, hps5.out.keep (by omega) fun k hk _ => ⟨hk6 k hk, hk⟩⟩
  have hb6 : Below w.heap.size w W6 := by rw [hW6]; exact Below.sets (Nat.le_refl _) _ _ HB5.out
  have x0 := q6.cell (i := 0) rfl
  have x1 := q6.cell (i := 1) rfl
  have x2 := q6.cell (i := 2) rfl
  have x3 := q6.cell (i := 3) rfl
  have x4 := q6.cell (i := 4) rfl
  clear z0 z1 z2 z3 z4 f0 f1 f2 f3 f4 hW6
  exact bodyPost_ret (v := .agg #[.int .i64 k, .int .i64 0, .slice (some ⟨g, 0, none⟩) 2 2, .slice (some ⟨w3.heap.size, 0, none⟩) 1 1, .bool false]) (by simp [results, Tryz.results11, go_sem, x0, x1, x2, x3, x4]) rfl ⟨_, _, rfl, hang, hb6⟩
end Go.Proofs.YteimbdklakemaaaGreatDoor

/-
  WHAT CAME IN: trees.
-/
namespace Go.Proofs.YteimbdklakemaaaGreatDoor
set_option maxRecDepth 100000
open Go.RowKit Go.WideShapes Go.ChangeShapes Go.Deep

section
variable {H : Type} {enc : TypeId × Value → H} {W : World}
/-- a tree's own cells; how what hangs from it reads -/
theorem tree_cells {n : Nat} {cs : List Value} {y : DataW H × List MemPlace} (h : DataW.trod enc Tryz.prog W 0 (fun _ => true) true n 25 cs = some y) :
    ∃ (k t : Int) (b : Bool) (u v : Value) (m : Nat) (z z' : DataW H × List MemPlace), cs = [.int .i64 k, .int .i64 t, u, v, .bool b] ∧ m < n ∧ DataW.trod enc Tryz.prog W 0 (fun _ => true) true m 22 [u] = some z ∧ DataW.trod enc Tryz.prog W 0 (fun _ => true) true m 23 [v] = some z' := by
  obtain ⟨xs, m, hm, _, hl, hlen, hg⟩ := DataW.trod_struct Tryz.underlying25 h
  match cs, hl.trans (show Tryz.prog.cellsOf 25 = 5 by kernel_rfl) with
  | [c0, c1, c2, c3, c4], _ =>
    obtain ⟨_, _, g0⟩ := fld_came hg 0 3 0 1 rfl (by kernel_rfl) hlen
    obtain ⟨_, _, g1⟩ := fld_came hg 1 3 1 1 rfl (by kernel_rfl) hlen
    obtain ⟨z, _, g2⟩ := fld_came hg 2 22 2 1 rfl (by kernel_rfl) hlen
    obtain ⟨z', _, g3⟩ := fld_came hg 3 23 3 1 rfl (by kernel_rfl) hlen
    obtain ⟨_, _, g4⟩ := fld_came hg 4 4 4 1 rfl (by kernel_rfl) hlen
    obtain ⟨k, hk, _, _⟩ := DataW.trod_int Tryz.underlying3 g0
    obtain ⟨t, ht, _, _⟩ := DataW.trod_int Tryz.underlying3 g1
    obtain ⟨b, hb, _⟩ := DataW.trod_bool Tryz.underlying4 g4
    simp at hk ht hb
    exact ⟨k, t, b, c2, c3, m, z, z', by rw [hk, ht, hb], by omega, g2, g3⟩
/-- trees that came in -/
theorem trees_came (n : Nat) : ∀ (v : Value) (y : DataW H × List MemPlace), DataW.trod enc Tryz.prog W 0 (fun _ => true) true n 22 [v] = some y → ∃ d ts, TsAt d W v ts := by
  induction n using Nat.strongRecOn with
  | ind n ih =>
  intro v y h
  rcases DataW.trod_slice Tryz.underlying22 h with ⟨hv, _⟩ | ⟨a, len, cap, elems, rest, m, hm, hv, _, _, hl, hcap, hlen, hel, _, _⟩
  · obtain rfl : v = .slice none 0 0 := by simpa using hv
    exact ⟨0, [], rfl, none, 0, rfl⟩
  · obtain rfl : v = .slice (some a) len cap := by simpa using hv
    rw [show Tryz.prog.cellsOf 25 = 5 by kernel_rfl] at hel
    have each : ∀ i, i < len → ∃ d, ∃ (p : Tr) (x y : Value), TrCell W (a.add (i * 5)) p x y ∧ PsSome W y p.cs ∧ TsAt d W x p.ks := by
      intro i hi
      have h1 := hel i hi
      rw [List.getElem?_eq_getElem (by omega)] at h1
      obtain ⟨cs', h2, h3⟩ := Option.bind_eq_some_iff.1 h1
      obtain ⟨k, t, b, u, v, m', z, z', rfl, hk, h4, h5⟩ := tree_cells h3
      obtain ⟨d, ts, hts⟩ := ih m' (by omega) u z h4
      obtain ⟨d', ps, hps⟩ := preds_came m' v z' h5
      obtain ⟨_, _, hc⟩ := World.cells?_some h2
      have hx : ∀ j, 0 < j → (a.add (i * 5)).add j = ⟨(a.add (i * 5)).block, (a.add (i * 5)).off + j, none⟩ := fun j hj => by
        generalize a.add (i * 5) = X
        unfold Addr.add
        rw [if_neg (by omega)]
      have h0 := hc 0 (by decide)
      have e0 : (a.add (i * 5)).add 0 = a.add (i * 5) := by unfold Addr.add; simp
      rw [e0] at h0
      have g := fun j (hj : 0 < j) (hj2 : j < 5) => by have := hc j hj2; rwa [hx j hj] at this
      exact ⟨d, .mk k t b ps ts, u, v, ⟨h0, g 1 (by decide) (by decide), g 2 (by decide) (by decide), g 3 (by decide) (by decide), g 4 (by decide) (by decide)⟩, ⟨d', hps⟩, hts⟩
    obtain ⟨D, hD⟩ := fuel_lt (q := fun i d => ∃ (p : Tr) (x y : Value), TrCell W (a.add (i * 5)) p x y ∧ PsSome W y p.cs ∧ TsAt d W x p.ks) (fun i x z hxz ⟨p, u, v, hp, hs, hu⟩ => ⟨p, u, v, hp, hs, hu.mono hxz⟩) each
    obtain ⟨ps, hpl, hps⟩ := list_of (α := Tr) (Q := fun (i : Nat) (p : Tr) => ∃ x y, TrCell W (a.add (i * 5)) p x y ∧ PsSome W y p.cs ∧ TsAt D W x p.ks) len hD
    refine ⟨D + 1, ps, some a, cap, by rw [hpl], ⟨by unfold maxLen at hcap; omega, by omega⟩, fun j p hj => ?_⟩
    obtain ⟨x, y, hp, hs, hu⟩ := hps j p hj
    obtain ⟨b, o, s⟩ := a
    refine ⟨b, o, s, x, y, rfl, ?_, hp, hs, hu⟩
    have := block_lt_of_cell hp.c0
    rwa [add_block] at this
/-- a tree by value that came in -/
theorem tree_came {r : Reach} {b0 : Nat} {v : Value} {d : DataW H} {p : List MemPlace} (hv : Value.okWide Tryz.prog W r b0 25 v) (h : DataW.Trod enc Tryz.prog W 0 (fun _ => true) true 25 v d p) :
    ∃ (a : Tr) (x y : Value), v = .agg #[.int .i64 a.k, .int .i64 a.t, x, y, .bool a.h] ∧ (∃ D, TsAt D W x a.ks) ∧ PsSome W y a.cs := by
  obtain ⟨⟨cs⟩, rfl, _⟩ := okWide_struct Tryz.underlying25 hv
  obtain ⟨fuel, hf⟩ := h
  obtain ⟨k, t, b, u, v, m, z, z', hcs, _, h4, h5⟩ := tree_cells hf
  obtain ⟨D, ts, hts⟩ := trees_came m u z h4
  obtain ⟨D', ps, hps⟩ := preds_came m v z' h5
  refine ⟨.mk k t b ps ts, u, v, ?_, ⟨D, hts⟩, D', hps⟩
  have : cs = [.int .i64 k, .int .i64 t, u, v, .bool b] := hcs
  rw [this]
  rfl
end
end Go.Proofs.YteimbdklakemaaaGreatDoor

/-
  WHAT CAME IN: a predicate, its numbers int64.
-/
set_option maxRecDepth 100000
namespace Go.Proofs.YteimbdklakemaaaGreatDoor
open Go.RowKit Go.WideShapes Go.ChangeShapes Go.Deep
theorem wfs_of : ∀ {ps : List Pd}, (∀ p ∈ ps, Tx.wf p) → Tx.wfs ps
  | [], _ => trivial
  | p :: _, h => ⟨h p List.mem_cons_self, wfs_of fun q hq => h q (List.mem_cons_of_mem _ hq)⟩
section
variable {H : Type} {enc : TypeId × Value → H} {W : World}
/-- a term's cells -/
theorem term_cells_wf {n : Nat} {cs : List Value} {y : DataW H × List MemPlace} (h : DataW.trod enc Tryz.prog W 0 (fun _ => true) true n 41 cs = some y) :
    ∃ x : Tm, cs = [.int .i64 x.k, .int .i64 x.t, .int .i64 x.c, .bool x.z, .int .i64 x.n] ∧ Tx.I64 x.n := by
  obtain ⟨xs, m, _, _, hl, hlen, hg⟩ := DataW.trod_struct Tryz.underlying41 h
  match cs, hl.trans (show Tryz.prog.cellsOf 41 = 5 by kernel_rfl) with
  | [c0, c1, c2, c3, c4], _ =>
    obtain ⟨_, _, g0⟩ := fld_came hg 0 3 0 1 rfl (by kernel_rfl) hlen
    obtain ⟨_, _, g1⟩ := fld_came hg 1 3 1 1 rfl (by kernel_rfl) hlen
    obtain ⟨_, _, g2⟩ := fld_came hg 2 3 2 1 rfl (by kernel_rfl) hlen
    obtain ⟨_, _, g3⟩ := fld_came hg 3 39 3 2 rfl (by kernel_rfl) hlen
    obtain ⟨k, hk, _, _⟩ := DataW.trod_int Tryz.underlying3 g0
    obtain ⟨t, ht, _, _⟩ := DataW.trod_int Tryz.underlying3 g1
    obtain ⟨c, hc, _, _⟩ := DataW.trod_int Tryz.underlying3 g2
    obtain ⟨zs, m, _, _, _, hlen2, hq⟩ := DataW.trod_struct Tryz.underlying39 g3
    obtain ⟨_, _, q0⟩ := fld_came hq 0 4 0 1 rfl (by kernel_rfl) hlen2
    obtain ⟨_, _, q1⟩ := fld_came hq 1 2 1 1 rfl (by kernel_rfl) hlen2
    obtain ⟨z, hz, _⟩ := DataW.trod_bool Tryz.underlying4 q0
    obtain ⟨i, hi, _, hwf⟩ := DataW.trod_int Tryz.underlying2 q1
    simp at hk ht hc hz hi
    exact ⟨⟨k, t, c, z, i⟩, by rw [hk, ht, hc, hz, hi], bounds_i64 hwf⟩
/-- a predicate's own cells; how its parts read -/
theorem pred_cells_wf {n : Nat} {cs : List Value} {y : DataW H × List MemPlace} (h : DataW.trod enc Tryz.prog W 0 (fun _ => true) true n 43 cs = some y) :
    ∃ (f : Pf) (u : Value) (m : Nat) (z : DataW H × List MemPlace), cs = f.cells u ∧ (Tx.I64 f.a.n ∧ Tx.I64 f.b.n) ∧ m < n ∧ DataW.trod enc Tryz.prog W 0 (fun _ => true) true m 23 [u] = some z := by
  obtain ⟨xs, m, hm, _, hl, hlen, hg⟩ := DataW.trod_struct Tryz.underlying43 h
  match cs, hl.trans (show Tryz.prog.cellsOf 43 = 14 by kernel_rfl) with
  | [c0, c1, c2, c3, c4, c5, c6, c7, c8, c9, c10, c11, c12, c13], _ =>
    obtain ⟨_, _, g0⟩ := fld_came hg 0 3 0 1 rfl (by kernel_rfl) hlen
    obtain ⟨_, _, g1⟩ := fld_came hg 1 3 1 1 rfl (by kernel_rfl) hlen
    obtain ⟨_, _, g2⟩ := fld_came hg 2 3 2 1 rfl (by kernel_rfl) hlen
    obtain ⟨_, _, g3⟩ := fld_came hg 3 41 3 5 rfl (by kernel_rfl) hlen
    obtain ⟨_, _, g4⟩ := fld_came hg 4 41 8 5 rfl (by kernel_rfl) hlen
    obtain ⟨z, _, g5⟩ := fld_came hg 5 23 13 1 rfl (by kernel_rfl) hlen
    obtain ⟨k, hk, _, _⟩ := DataW.trod_int Tryz.underlying3 g0
    obtain ⟨u, hu, _, _⟩ := DataW.trod_int Tryz.underlying3 g1
    obtain ⟨o, ho, _, _⟩ := DataW.trod_int Tryz.underlying3 g2
    obtain ⟨a, ha, wa⟩ := term_cells_wf g3
    obtain ⟨b, hb, wb⟩ := term_cells_wf g4
    simp at hk hu ho ha hb
    obtain ⟨a0, a1, a2, a3, a4⟩ := ha
    obtain ⟨b0, b1, b2, b3, b4⟩ := hb
    exact ⟨⟨k, u, o, a, b⟩, c13, m, z, by simp [Pf.cells, hk, hu, ho, a0, a1, a2, a3, a4, b0, b1, b2, b3, b4], ⟨wa, wb⟩, by omega, g5⟩
/-- predicates that came in -/
theorem preds_came_wf (n : Nat) : ∀ (v : Value) (y : DataW H × List MemPlace), DataW.trod enc Tryz.prog W 0 (fun _ => true) true n 23 [v] = some y → ∃ d ps, PsAt d W v ps ∧ Tx.wfs ps := by
  induction n using Nat.strongRecOn with
  | ind n ih =>
  intro v y h
  rcases DataW.trod_slice Tryz.underlying23 h with ⟨hv, _⟩ | ⟨a, len, cap, elems, rest, m, hm, hv, _, _, hl, hcap, hlen, hel, _, _⟩
  · obtain rfl : v = .slice none 0 0 := by simpa using hv
    exact ⟨0, [], ⟨rfl, none, 0, rfl⟩, trivial⟩
  · obtain rfl : v = .slice (some a) len cap := by simpa using hv
    rw [show Tryz.prog.cellsOf 43 = 14 by kernel_rfl] at hel
    have each : ∀ i, i < len → ∃ d, ∃ (p : Pd) (u : Value), PdCell W (a.add (i * 14)) p.f u ∧ PsAt d W u p.ps ∧ Tx.wf p := by
      intro i hi
      have h1 := hel i hi
      rw [List.getElem?_eq_getElem (by omega)] at h1
      obtain ⟨cs', h2, h3⟩ := Option.bind_eq_some_iff.1 h1
      obtain ⟨f, u, k, z, rfl, hwf, hk, h4⟩ := pred_cells_wf h3
      obtain ⟨d, ps, hps, hws⟩ := ih k (by omega) u z h4
      obtain ⟨_, _, hc⟩ := World.cells?_some h2
      have hx : ∀ j, 0 < j → (a.add (i * 14)).add j = ⟨(a.add (i * 14)).block, (a.add (i * 14)).off + j, none⟩ := fun j hj => by
        generalize a.add (i * 14) = X
        unfold Addr.add
        rw [if_neg (by omega)]
      have h0 := hc 0 (by decide)
      have e0 : (a.add (i * 14)).add 0 = a.add (i * 14) := by unfold Addr.add; simp
      rw [e0] at h0
      have g := fun j (hj : 0 < j) (hj2 : j < 14) => by have := hc j hj2; rwa [hx j hj] at this
      exact ⟨d, .mk f ps, u, ⟨h0, g 1 (by decide) (by decide), g 2 (by decide) (by decide), g 3 (by decide) (by decide), g 4 (by decide) (by decide), g 5 (by decide) (by decide), g 6 (by decide) (by decide), g 7 (by decide) (by decide), g 8 (by decide) (by decide), g 9 (by decide) (by decide), g 10 (by decide) (by decide), g 11 (by decide) (by decide), g 12 (by decide) (by decide), g 13 (by decide) (by decide)⟩, hps, ⟨hwf.1, hwf.2, hws⟩⟩
    obtain ⟨D, hD⟩ := fuel_lt (q := fun i d => ∃ (p : Pd) (u : Value), PdCell W (a.add (i * 14)) p.f u ∧ PsAt d W u p.ps ∧ Tx.wf p) (fun i x z hxz ⟨p, u, hp, hu, hw⟩ => ⟨p, u, hp, hu.mono hxz, hw⟩) each
    obtain ⟨ps, hpl, hps⟩ := list_of (α := Pd) (Q := fun (i : Nat) (p : Pd) => ∃ u, PdCell W (a.add (i * 14)) p.f u ∧ PsAt D W u p.ps ∧ Tx.wf p) len hD
    refine ⟨D + 1, ps, ⟨some a, cap, by rw [hpl], by unfold maxLen at hcap; omega, fun j p hj => ?_⟩, wfs_of fun p hp => ?_⟩
    · obtain ⟨u, hp, hu, _⟩ := hps j p hj
      obtain ⟨b, o, s⟩ := a
      refine ⟨b, o, s, u, rfl, ?_, hp, hu⟩
      have := block_lt_of_cell hp.c0
      rwa [add_block] at this
    · obtain ⟨j, hj, hjp⟩ := List.mem_iff_getElem.1 hp
      obtain ⟨u, _, _, hw⟩ := hps j p (by rw [List.getElem?_eq_getElem hj, hjp])
      exact hw
/-- a predicate by value that came in -/
theorem pred_came_wf {r : Reach} {b0 : Nat} {v : Value} {d : DataW H} {p : List MemPlace} (hv : Value.okWide Tryz.prog W r b0 43 v) (h : DataW.Trod enc Tryz.prog W 0 (fun _ => true) true 43 v d p) :
    ∃ (f : Pf) (u : Value) (D : Nat) (ps : List Pd), v = .agg #[.int .i64 f.k, .int .i64 f.u, .int .i64 f.o, .int .i64 f.a.k, .int .i64 f.a.t, .int .i64 f.a.c, .bool f.a.z, .int .i64 f.a.n, .int .i64 f.b.k, .int .i64 f.b.t, .int .i64 f.b.c, .bool f.b.z, .int .i64 f.b.n, u] ∧ PsAt D W u ps ∧ Tx.wf (.mk f ps) := by
  obtain ⟨⟨cs⟩, rfl, _⟩ := okWide_struct Tryz.underlying43 hv
  obtain ⟨fuel, hf⟩ := h
  obtain ⟨f, u, m, z, hcs, hwf, _, h4⟩ := pred_cells_wf hf
  obtain ⟨D, ps, hps, hws⟩ := preds_came_wf m u z h4
  refine ⟨f, u, D, ps, ?_, hps, ⟨hwf.1, hwf.2, hws⟩⟩
  have : cs = f.cells u := hcs
  rw [this]
  rfl
/-- a term by value that came in -/
theorem term_came_wf {r : Reach} {b0 : Nat} {v : Value} {d : DataW H} {p : List MemPlace} (hv : Value.okWide Tryz.prog W r b0 41 v) (h : DataW.Trod enc Tryz.prog W 0 (fun _ => true) true 41 v d p) :
    ∃ (k t c : Int) (z : Bool) (n : Int), v = .agg #[.int .i64 k, .int .i64 t, .int .i64 c, .bool z, .int .i64 n] ∧ Tx.I64 n := by
  obtain ⟨⟨cs⟩, rfl, _⟩ := okWide_struct Tryz.underlying41 hv
  obtain ⟨fuel, hf⟩ := h
  obtain ⟨x, hcs, hw⟩ := term_cells_wf hf
  refine ⟨x.k, x.t, x.c, x.z, x.n, ?_, hw⟩
  have : cs = _ := hcs
  rw [this]
end
end Go.Proofs.YteimbdklakemaaaGreatDoor

/-
  WHAT CAME IN: trees, their numbers int64.
-/
namespace Go.Proofs.YteimbdklakemaaaGreatDoor
set_option maxRecDepth 100000
open Go.RowKit Go.WideShapes Go.ChangeShapes Go.Deep
theorem wfTs_of : ∀ {ps : List Tr}, (∀ p ∈ ps, Sh.wfT p) → Sh.wfTs ps
  | [], _ => by rw [Sh.wfTs]; trivial
  | p :: _, h => by rw [Sh.wfTs]; exact ⟨h p List.mem_cons_self, wfTs_of fun q hq => h q (List.mem_cons_of_mem _ hq)⟩
section
variable {H : Type} {enc : TypeId × Value → H} {W : World}
/-- trees that came in -/
theorem trees_came_wf (n : Nat) : ∀ (v : Value) (y : DataW H × List MemPlace), DataW.trod enc Tryz.prog W 0 (fun _ => true) true n 22 [v] = some y → ∃ d ts, TsAt d W v ts ∧ Sh.wfTs ts := by
  induction n using Nat.strongRecOn with
  | ind n ih =>
  intro v y h
  rcases DataW.trod_slice Tryz.underlying22 h with ⟨hv, _⟩ | ⟨a, len, cap, elems, rest, m, hm, hv, _, _, hl, hcap, hlen, hel, _, _⟩
  · obtain rfl : v = .slice none 0 0 := by simpa using hv
    exact ⟨0, [], ⟨rfl, none, 0, rfl⟩, by rw [Sh.wfTs]; trivial⟩
  · obtain rfl : v = .slice (some a) len cap := by simpa using hv
    rw [show Tryz.prog.cellsOf 25 = 5 by kernel_rfl] at hel
    have each : ∀ i, i < len → ∃ d, ∃ (p : Tr) (x y : Value), TrCell W (a.add (i * 5)) p x y ∧ PsSome W y p.cs ∧ TsAt d W x p.ks ∧ Sh.wfT p := by
      intro i hi
      have h1 := hel i hi
      rw [List.getElem?_eq_getElem (by omega)] at h1
      obtain ⟨cs', h2, h3⟩ := Option.bind_eq_some_iff.1 h1
      obtain ⟨k, t, b, u, v, m', z, z', rfl, hk, h4, h5⟩ := tree_cells h3
      obtain ⟨d, ts, hts, hwt⟩ := ih m' (by omega) u z h4
      obtain ⟨d', ps, hps, hwp⟩ := preds_came_wf m' v z' h5
      obtain ⟨_, _, hc⟩ := World.cells?_some h2
      have hx : ∀ j, 0 < j → (a.add (i * 5)).add j = ⟨(a.add (i * 5)).block, (a.add (i * 5)).off + j, none⟩ := fun j hj => by
        generalize a.add (i * 5) = X
        unfold Addr.add
        rw [if_neg (by omega)]
      have h0 := hc 0 (by decide)
      have e0 : (a.add (i * 5)).add 0 = a.add (i * 5) := by unfold Addr.add; simp
      rw [e0] at h0
      have g := fun j (hj : 0 < j) (hj2 : j < 5) => by have := hc j hj2; rwa [hx j hj] at this
      exact ⟨d, .mk k t b ps ts, u, v, ⟨h0, g 1 (by decide) (by decide), g 2 (by decide) (by decide), g 3 (by decide) (by decide), g 4 (by decide) (by decide)⟩, ⟨d', hps⟩, hts, by rw [Sh.wfT]; exact ⟨hwp, hwt⟩⟩
    obtain ⟨D, hD⟩ := fuel_lt (q := fun i d => ∃ (p : Tr) (x y : Value), TrCell W (a.add (i * 5)) p x y ∧ PsSome W y p.cs ∧ TsAt d W x p.ks ∧ Sh.wfT p) (fun i x z hxz ⟨p, u, v, hp, hs, hu, hw⟩ => ⟨p, u, v, hp, hs, hu.mono hxz, hw⟩) each
    obtain ⟨ps, hpl, hps⟩ := list_of (α := Tr) (Q := fun (i : Nat) (p : Tr) => ∃ x y, TrCell W (a.add (i * 5)) p x y ∧ PsSome W y p.cs ∧ TsAt D W x p.ks ∧ Sh.wfT p) len hD
    refine ⟨D + 1, ps, ⟨some a, cap, by rw [hpl], ⟨by unfold maxLen at hcap; omega, by omega⟩, fun j p hj => ?_⟩, wfTs_of fun p hp => ?_⟩
    · obtain ⟨x, y, hp, hs, hu, _⟩ := hps j p hj
      obtain ⟨b, o, s⟩ := a
      refine ⟨b, o, s, x, y, rfl, ?_, hp, hs, hu⟩
      have := block_lt_of_cell hp.c0
      rwa [add_block] at this
    · obtain ⟨j, hj, hjp⟩ := List.mem_iff_getElem.1 hp
      obtain ⟨_, _, _, _, _, hw⟩ := hps j p (by rw [List.getElem?_eq_getElem hj, hjp])
      exact hw
/-- a tree by value that came in -/
theorem tree_came_wf {r : Reach} {b0 : Nat} {v : Value} {d : DataW H} {p : List MemPlace} (hv : Value.okWide Tryz.prog W r b0 25 v) (h : DataW.Trod enc Tryz.prog W 0 (fun _ => true) true 25 v d p) :
    ∃ (a : Tr) (x y : Value), v = .agg #[.int .i64 a.k, .int .i64 a.t, x, y, .bool a.h] ∧ (∃ D, TsAt D W x a.ks) ∧ PsSome W y a.cs ∧ Sh.wfT a := by
  obtain ⟨⟨cs⟩, rfl, _⟩ := okWide_struct Tryz.underlying25 hv
  obtain ⟨fuel, hf⟩ := h
  obtain ⟨k, t, b, u, v, m, z, z', hcs, _, h4, h5⟩ := tree_cells hf
  obtain ⟨D, ts, hts, hwt⟩ := trees_came_wf m u z h4
  obtain ⟨D', ps, hps, hwp⟩ := preds_came_wf m v z' h5
  refine ⟨.mk k t b ps ts, u, v, ?_, ⟨D, hts⟩, ⟨D', hps⟩, by rw [Sh.wfT]; exact ⟨hwp, hwt⟩⟩
  have : cs = [.int .i64 k, .int .i64 t, u, v, .bool b] := hcs
  rw [this]
  rfl
end
end Go.Proofs.YteimbdklakemaaaGreatDoor

/-
  WHAT A ROW's LIST GIVES TO package text: strconv's table and its error.
-/
namespace Go.Proofs.YteimbdklakemaaaGreatDoor
open Go.RowKit
theorem gErr : Tryz.prog.globalNamed "strconv.ErrRange" = some 6 := by kernel_rfl
theorem gErrType : (Tryz.prog.globals[6]?).map (·.type) = some 61 := by kernel_rfl
theorem gPow : Tryz.prog.globalNamed "internal/strconv.uint64pow10" = some 1 := by kernel_rfl
theorem gPowType : (Tryz.prog.globals[1]?).map (·.type) = some 103 := by kernel_rfl
theorem cells20 : Tryz.prog.cellsOf 103 = 20 := by kernel_rfl
theorem cellsU : Tryz.prog.cellsOf 88 = 1 := by kernel_rfl
theorem errPows_of {W : World} {l : List (String × DataW Unit)} (h : laidMet Tryz.prog l W) {nm : String} {d : DataW Unit}
    (m1 : ("internal/strconv.uint64pow10", Lib.tabData .u64 Lib.pow10Tab) ∈ l) (m2 : ("strconv.ErrRange", .iface nm d) ∈ l) : ErrR W ∧ Pows W := by
  refine ⟨?_, ?_⟩
  · obtain ⟨g, t, cs, fuel, p0, h1, h2, h3, h4⟩ := laid_at h m2
    obtain rfl := Option.some.inj (gErr.symm.trans h1)
    obtain rfl := Option.some.inj (gErrType.symm.trans h2)
    obtain ⟨u, v, hc⟩ := iface_at Tryz.underlying61 h4
    refine ⟨u, v, ?_⟩
    rw [h3]
    obtain ⟨c⟩ := cs
    simp only at hc
    rw [hc]
  · obtain ⟨g, t, cs, fuel, p0, h1, h2, h3, h4⟩ := laid_at h m1
    obtain rfl := Option.some.inj (gPow.symm.trans h1)
    obtain rfl := Option.some.inj (gPowType.symm.trans h2)
    unfold Pows Lib.TabIs
    rw [h3, ← Lib.cells_of_tab Tryz.underlying103 Tryz.underlying88 cellsU cells20 h4]
end Go.Proofs.YteimbdklakemaaaGreatDoor

/-
  WHAT A ROW's LIST GIVES TO package shape: its signs.
-/
namespace Go.Proofs.YteimbdklakemaaaGreatDoor
open Go.RowKit
theorem gSigns : Tryz.prog.globalNamed "watersmeet/shape.signs" = some 0 := by kernel_rfl
theorem gSignsType : (Tryz.prog.globals[0]?).map (·.type) = some 66 := by kernel_rfl
theorem cellsI32 : Tryz.prog.cellsOf 21 = 1 := by kernel_rfl
/-- the signs, as data -/
def signsData : List (DataW Unit) := [.lit (.int .i32 0), .lit (.int .i32 8904), .lit (.int .i32 10197), .lit (.int .i32 8905), .lit (.int .i32 9655)]
theorem sgn_of {W : World} {l : List (String × DataW Unit)} (h : laidMet Tryz.prog l W) (m3 : ("watersmeet/shape.signs", .agg signsData) ∈ l) : Sgn W := by
  obtain ⟨g, t, cs, fuel, p0, h1, h2, h3, h4⟩ := laid_at h m3
  obtain rfl := Option.some.inj (gSigns.symm.trans h1)
  obtain rfl := Option.some.inj (gSignsType.symm.trans h2)
  intro k hk
  obtain ⟨f2, x2, h7, h8⟩ := arr_at Tryz.underlying66 cellsI32 h4 k (by omega)
  obtain ⟨n, hn, hd, _⟩ := DataW.trod_int Tryz.underlying21 h7
  have e2 : n = Sh.sgn k := by
    have h9 : signsData[k]? = some (.lit (.int .i32 (Sh.sgn k))) := by
      rcases (show k = 0 ∨ k = 1 ∨ k = 2 ∨ k = 3 ∨ k = 4 by omega) with rfl | rfl | rfl | rfl | rfl <;> rfl
    have := Option.some.inj (h8.symm.trans h9)
    rw [hd] at this
    simpa using this
  rw [World.var?_cell h1 h3]
  have h10 := congrArg (·[0]?) hn
  simp only [Nat.mul_one, List.getElem?_take, List.getElem?_drop] at h10
  simp only [Nat.lt_one_iff, if_true, Nat.add_zero, List.getElem?_cons_zero] at h10
  rw [← e2]
  simpa using h10
end Go.Proofs.YteimbdklakemaaaGreatDoor
