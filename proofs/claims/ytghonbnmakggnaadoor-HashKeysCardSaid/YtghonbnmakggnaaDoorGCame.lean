/-
  LAID TOGETHER, BY PROGRAM, of: Post, RwsCame, PdCame, PdsCame, Laidv, WantLaid.
-/
import Derived.Test.YtghonbnmakggnaaDoorGBase
import Derived.Test.YtghonbnmakggnaaDoorRows
import Derived.Test.YtghonbnmakggnaaDoorGLogs
import Derived.Test.YtghonbnmakggnaaDoorGPred
import Derived.Test.YtghonbnmakggnaaDoorGOwn
import Derived.Below
import Derived.ChangeSame
import Derived.ProofKit
import Derived.Carry
import Derived.OpenShut
import Derived.Deep.SlicePairs
import Derived.Deep.Fields
import Derived.Lib.SmallJoins
import Derived.Lib.LaidTab
import Derived.ChangeArms
import Derived.WalkKit
/-
  THE LAST STEP OF EVERY LAW's ROW: the call has answered true, and whatever lay before lies as it lay: so each argument reads as it read before, whatever its type. And: a slice of numbers that came in, as a list.
-/
namespace Go.Proofs.YtghonbnmakggnaaDoor
open Go.RowKit Go.WideShapes Go.ChangeShapes
theorem trodAll_kept {H : Type} {enc : TypeId × Value → H} {P : Program} {A B : World} (laid : laidOutB P = true) (kept : Below A.heap.size A B) :
    ∀ (ts : List TypeId) {vs : List Value} {ds : List (DataW H)} {ps : List MemPlace}, (ts.all fun t => P.readableRec t && decide (t < P.types.size)) = true →
      DataW.TrodAll enc P A 0 (fun _ => true) true ts vs ds ps → (∀ x ∈ ps, x.block < A.heap.size) → DataW.TrodAll enc P B 0 (fun b => decide (b < A.heap.size)) true ts vs ds ps
  | [], _, _, _, _, h, _ => by
    obtain ⟨rfl, rfl, rfl⟩ := trodAll_nil h
    exact trodAll_mk0
  | t :: ts, _, _, _, hr, h, hlt => by
    obtain ⟨v, vs, d, ds, p, q, rfl, rfl, rfl, h0, h1⟩ := trodAll_cons h
    simp only [List.all_cons, Bool.and_eq_true] at hr
    exact trodAll_cons_mk (Below.trod laid hr.1.1 (of_decide_eq_true hr.1.2) h0 kept (fun x hx => hlt x (List.mem_append.2 (.inl hx))))
      (trodAll_kept laid kept ts (by simpa using hr.2) h1 (fun x hx => hlt x (List.mem_append.2 (.inr hx))))
theorem law_post {H : Type} {enc : TypeId × Value → H} {P : Program} {fn : Func} {sp : ChangeSpec} {ap : Bool} {A B : World} {xs : Array Value} {ds gs : List (DataW H)} {was p : List MemPlace} {tb : TypeId}
    (laid : laidOutB P = true) (hr : (fn.params.toList.all fun t => P.readableRec t && decide (t < P.types.size)) = true)
    (whole : DataW.Whole enc P fn.params.toList sp.vars ap A xs.toList ds gs was) (args : DataW.TrodAll enc P A 0 (fun _ => true) true fn.params.toList xs.toList ds p) (hp : was = p) (kept : Below A.heap.size A B)
    (ht : fn.resultTypes = #[tb]) (hb : P.underlying tb = some .bool) (h1 : (sp.fn H (ds ++ gs)).results = [.lit (.bool true)]) (h2 : (sp.fn H (ds ++ gs)).args = ds) (h3 : sp.vars = []) (h4 : (sp.fn H (ds ++ gs)).vars = []) :
    sp.post enc P fn ap true false false A xs (.bool true) B := by
  have below : ∀ x, x ∈ p → x.block < A.heap.size := fun x h => whole.lt x (hp ▸ h)
  refine ⟨ds, gs, was, [], p, [], whole, ?_, ?_, ?_, World.keptBut_mono (fun x h => ⟨h, .inr (.inl (hp ▸ h))⟩) (kept.frame (· ∈ was)), fun h => by cases h⟩
  · rw [h1, ht]
    exact trodAll_cons_mk (shut_bool hb true) trodAll_mk0
  · rw [h2]
    exact trodAll_kept laid kept _ hr args below
  · rw [h3, h4]
    exact rfl
/-- a slice of numbers that came in -/
theorem sl_came {H : Type} {enc : TypeId × Value → H} {P : Program} {W : World} {T E : TypeId} {k : IntKind} {a : Option Addr} {len cap : Nat} {d : DataW H} {p : List MemPlace} (ht : P.underlying T = some (.slice E)) (he : P.underlying E = some (.int k)) (hc : P.cellsOf E = 1)
    (h : DataW.Trod enc P W 0 (fun _ => true) true T (.slice a len cap) d p) (hlt : ∀ x ∈ p, x.block < W.heap.size) :
    ∃ l : List Int, len = l.length ∧ l.length ≤ 9223372036854775807 ∧ Sl W (.slice a len cap) (l.map (Value.int k)) ∧ ∀ n ∈ l, (Lit.int k n).wf = true := by
  obtain ⟨fuel, hf⟩ := h
  rcases open_ints ht he hc hf with ⟨hcs, _⟩ | ⟨b, len', cap', zs, hcs, _, hl, hm, hz, hx, hcell, hwz⟩
  · simp only [Value.cells, List.cons.injEq, Value.slice.injEq, and_true] at hcs
    obtain ⟨rfl, rfl, rfl⟩ := hcs
    exact ⟨[], rfl, by simp, ⟨none, 0, rfl, by simp, fun j u hu => by simp at hu⟩, by simp⟩
  · simp only [Value.cells, List.cons.injEq, Value.slice.injEq, and_true] at hcs
    obtain ⟨rfl, rfl, rfl⟩ := hcs
    simp only [if_true] at hz
    simp only [Prod.mk.injEq] at hx
    have hlen : (zs.take len).length = len := by rw [List.length_take]; omega
    refine ⟨zs.take len, hlen.symm, by unfold maxLen at hm; omega, ⟨some b, cap, by rw [List.length_map, hlen], by rw [List.length_map, hlen]; exact hl, fun j u hu => ?_⟩, fun n hn => hwz n (List.mem_of_mem_take hn)⟩
    rw [List.getElem?_map] at hu
    cases hj : (zs.take len)[j]? with
    | none => rw [hj] at hu; cases hu
    | some x =>
      rw [hj] at hu
      cases hu
      have hjl : j < len := by
        by_cases h : j < len
        · exact h
        · rw [List.getElem?_eq_none (by omega)] at hj; cases hj
      rw [List.getElem?_take_of_lt hjl] at hj
      have hc2 := hcell j (by omega)
      have hmem : (MemPlace.cell b.block (b.off + j)) ∈ p := by rw [hx.2]; exact MemPlace.mem_row.2 ⟨j, by omega, by simp⟩
      obtain ⟨bb, o, s⟩ := b
      refine ⟨bb, o, s, rfl, hlt _ hmem, ?_⟩
      rw [hc2, List.getD, hj]; rfl
end Go.Proofs.YtghonbnmakggnaaDoor

/-
  WHAT CAME IN: rows of values; a term by value.
-/
namespace Go.Proofs.YtghonbnmakggnaaDoor
set_option maxRecDepth 100000
open Go.RowKit Go.WideShapes Go.ChangeShapes Go.Deep
section
variable {H : Type} {enc : TypeId × Value → H} {W : World}

theorem row_came {v : Value} {fuel : Nat} {x : DataW H × List MemPlace} (h : DataW.trod enc Tryd.prog W 0 (fun _ => true) true fuel 48 [v] = some x) : ∃ r, RowAt W v r := by
  rcases open_slice_pairs Tryd.underlying48 Tryd.underlying33 (by kernel_rfl) (by kernel_rfl) (by kernel_rfl) (by kernel_rfl) (by kernel_rfl) h with ⟨hv, _⟩ | ⟨a, len, cap, m, n, V0, V1, D0, D1, P0, P1, hv, _, hl, _, hm, _, hx⟩
  · obtain rfl : v = .slice none 0 0 := by simpa using hv
    exact ⟨[], RowAt.nil W⟩
  · obtain rfl : v = .slice (some a) len cap := by simpa using hv
    simp only [if_true] at hm
    have each : ∀ i, i < len → ∃ y : Vl, V0 i = .bool y.1 ∧ V1 i = .int .i64 y.2 := by
      intro i hi
      obtain ⟨_, _, h0, h1⟩ := hx i (by omega)
      obtain ⟨b, hb, _⟩ := DataW.trod_bool Tryd.underlying4 h0
      obtain ⟨z, hz, _, _⟩ := DataW.trod_int Tryd.underlying2 h1
      exact ⟨(b, z), by simpa using hb, by simpa using hz⟩
    obtain ⟨f, hf⟩ := choose_lt each
    refine ⟨(List.range len).map f, some a, cap, by simp, by simpa using hl, fun j y hj => ?_⟩
    have hjl : j < len := by
      by_cases h : j < len
      · exact h
      · rw [List.getElem?_eq_none (by simp; omega)] at hj; cases hj
    obtain rfl : f j = y := by simpa [hjl] using hj
    obtain ⟨h0, h1, _, _⟩ := hx j (by omega)
    rw [(hf j hjl).1] at h0
    rw [(hf j hjl).2] at h1
    obtain ⟨b, o, p⟩ := a
    refine ⟨b, o, p, rfl, ?_, h0, h1⟩
    have := block_lt_of_cell h0
    rwa [add_block] at this
/-- rows that came in: their own slice values; nil, or at an address -/
theorem rws_came {A0 : Option Addr} {n0 c0 : Nat} {d : DataW H} {p : List MemPlace} (h : DataW.Trod enc Tryd.prog W 0 (fun _ => true) true 25 (.slice A0 n0 c0) d p) :
    ∃ vs rs, RwsOf W (.slice A0 n0 c0) vs rs ∧ Came1 W (.slice A0 n0 c0) vs ∧ ∀ u ∈ vs, u.oneCell' = true := by
  obtain ⟨fuel, hf⟩ := h
  rcases open_slice1 Tryd.underlying25 (by kernel_rfl) hf with ⟨hv, _⟩ | ⟨a, len, cap, m, n, V, D, Pl, hv, _, hl, _, hm, _, hx⟩
  · simp only [Value.cells, List.cons.injEq, Value.slice.injEq, and_true] at hv
    obtain ⟨rfl, rfl, rfl⟩ := hv
    have hs : Sl W (.slice none 0 0) [] := ⟨none, 0, rfl, Nat.le_refl _, fun j u h => by simp at h⟩
    exact ⟨[], [], ⟨hs, rfl, fun i r h => by simp at h⟩, ⟨hs, .inl ⟨rfl, rfl⟩⟩, by simp⟩
  · simp only [Value.cells, List.cons.injEq, Value.slice.injEq, and_true] at hv
    obtain ⟨rfl, rfl, rfl⟩ := hv
    simp only [if_true] at hm
    have each : ∀ i, i < n0 → ∃ r, RowAt W (V i) r := fun i hi => row_came (hx i (by omega)).2
    obtain ⟨f, hf⟩ := choose_lt each
    have hs : Sl W (.slice (some a) n0 c0) ((List.range n0).map V) := by
      refine ⟨some a, c0, by simp, by simpa using hl, fun j u hu => ?_⟩
      have hj : j < n0 := by
        by_cases h : j < n0
        · exact h
        · rw [List.getElem?_eq_none (by simp; omega)] at hu; cases hu
      obtain rfl : V j = u := by simpa [hj] using hu
      have hc := (hx j (by omega)).1
      obtain ⟨b, o, p⟩ := a
      refine ⟨b, o, p, rfl, ?_, hc⟩
      have := block_lt_of_cell hc
      rwa [add_block] at this
    refine ⟨(List.range n0).map V, (List.range n0).map f, ⟨hs, by simp, fun i r hr => ?_⟩, ⟨hs, .inr ⟨a, c0, by simp⟩⟩, fun u hu => ?_⟩
    · have hi : i < n0 := by
        by_cases h : i < n0
        · exact h
        · rw [List.getElem?_eq_none (by simp; omega)] at hr; cases hr
      obtain rfl : f i = r := by simpa [hi] using hr
      exact ⟨V i, by simp [hi], hf i hi⟩
    · obtain ⟨i, hi, rfl⟩ := List.mem_map.1 hu
      obtain ⟨B, c, hB, _⟩ := hf i (List.mem_range.1 hi)
      rw [hB]
      rfl
/-- one field of a struct that came in -/
theorem fld_came {P : Program} {sp : Nat → Bool} {fs : Array Field} {cs : List Value} {ys : List (DataW H × List MemPlace)} {n : Nat} (hg : ∀ (i : Nat) (f : Field), fs[i]? = some f → DataW.trod enc P W 0 sp true n f.type ((cs.drop f.offset).take (P.cellsOf f.type)) = ys[i]?)
    (i : Nat) (T : TypeId) (o c : Nat) (hf : (fs[i]?).map (fun f => (f.type, f.offset)) = some (T, o)) (hc : P.cellsOf T = c) (hl : ys.length = fs.size) : ∃ y, ys[i]? = some y ∧ DataW.trod enc P W 0 sp true n T ((cs.drop o).take c) = some y := by
  obtain ⟨f, hfi, he⟩ := Option.map_eq_some_iff.1 hf
  simp only [Prod.mk.injEq] at he
  obtain ⟨rfl, rfl⟩ := he
  have hi : i < ys.length := by rw [hl]; exact (Array.getElem?_eq_some_iff.1 hfi).1
  have := hg i f hfi
  rw [hc, List.getElem?_eq_getElem hi] at this
  exact ⟨_, List.getElem?_eq_getElem hi, this⟩
/-- a term by value that came in -/
theorem term_came {r : Reach} {b0 : Nat} {v : Value} {d : DataW H} {p : List MemPlace} (hv : Value.okWide Tryd.prog W r b0 35 v) (h : DataW.Trod enc Tryd.prog W 0 (fun _ => true) true 35 v d p) :
    ∃ (k t c : Int) (z : Bool) (n : Int), v = .agg #[.int .i64 k, .int .i64 t, .int .i64 c, .bool z, .int .i64 n] := by
  obtain ⟨cs, rfl, hsz⟩ := okWide_struct Tryd.underlying35 hv
  obtain ⟨l⟩ := cs
  match l, hsz.trans (show Tryd.prog.cellsOf 35 = 5 by kernel_rfl) with
  | [c0, c1, c2, c3, c4], _ =>
    obtain ⟨fuel, hf⟩ := h
    obtain ⟨xs, n, _, _, _, hlen, hg⟩ := DataW.trod_struct Tryd.underlying35 hf
    obtain ⟨_, _, g0⟩ := fld_came hg 0 3 0 1 rfl (by kernel_rfl) hlen
    obtain ⟨_, _, g1⟩ := fld_came hg 1 3 1 1 rfl (by kernel_rfl) hlen
    obtain ⟨_, _, g2⟩ := fld_came hg 2 3 2 1 rfl (by kernel_rfl) hlen
    obtain ⟨_, _, g3⟩ := fld_came hg 3 33 3 2 rfl (by kernel_rfl) hlen
    obtain ⟨k, hk, _, _⟩ := DataW.trod_int Tryd.underlying3 g0
    obtain ⟨t, ht, _, _⟩ := DataW.trod_int Tryd.underlying3 g1
    obtain ⟨c, hc, _, _⟩ := DataW.trod_int Tryd.underlying3 g2
    obtain ⟨zs, m, _, _, _, hlen2, hq⟩ := DataW.trod_struct Tryd.underlying33 g3
    obtain ⟨_, _, q0⟩ := fld_came hq 0 4 0 1 rfl (by kernel_rfl) hlen2
    obtain ⟨_, _, q1⟩ := fld_came hq 1 2 1 1 rfl (by kernel_rfl) hlen2
    obtain ⟨z, hz, _⟩ := DataW.trod_bool Tryd.underlying4 q0
    obtain ⟨i, hi, _, _⟩ := DataW.trod_int Tryd.underlying2 q1
    simp [Value.cells] at hk ht hc hz hi
    exact ⟨k, t, c, z, i, by rw [hk, ht, hc, hz, hi]⟩
end
end Go.Proofs.YtghonbnmakggnaaDoor

/-
  WHAT CAME IN: predicates.
-/
namespace Go.Proofs.YtghonbnmakggnaaDoor
set_option maxRecDepth 100000
open Go.RowKit Go.WideShapes Go.ChangeShapes Go.Deep

theorem list_of {α : Type} {Q : Nat → α → Prop} : ∀ n : Nat, (∀ i, i < n → ∃ x, Q i x) → ∃ l : List α, l.length = n ∧ ∀ (i : Nat) (x : α), l[i]? = some x → Q i x
  | 0, _ => ⟨[], rfl, fun i x h => by simp at h⟩
  | n + 1, h => by
    obtain ⟨l, hl, hq⟩ := list_of n (fun i hi => h i (by omega))
    obtain ⟨x, hx⟩ := h n (by omega)
    refine ⟨l ++ [x], by simp [hl], fun i y hy => ?_⟩
    by_cases e : i < n
    · rw [List.getElem?_append_left (by omega)] at hy; exact hq i y hy
    · have hi : i = n := by
        by_cases e2 : i = n
        · exact e2
        · rw [List.getElem?_eq_none (by simp; omega)] at hy; cases hy
      subst hi
      rw [List.getElem?_append_right (by omega), hl, Nat.sub_self] at hy
      simp at hy
      rw [← hy]; exact hx
section
variable {H : Type} {enc : TypeId × Value → H} {W : World}
/-- a term's cells -/
theorem term_cells {n : Nat} {cs : List Value} {y : DataW H × List MemPlace} (h : DataW.trod enc Tryd.prog W 0 (fun _ => true) true n 35 cs = some y) :
    ∃ x : Tm, cs = [.int .i64 x.k, .int .i64 x.t, .int .i64 x.c, .bool x.z, .int .i64 x.n] := by
  obtain ⟨xs, m, _, _, hl, hlen, hg⟩ := DataW.trod_struct Tryd.underlying35 h
  match cs, hl.trans (show Tryd.prog.cellsOf 35 = 5 by kernel_rfl) with
  | [c0, c1, c2, c3, c4], _ =>
    obtain ⟨_, _, g0⟩ := fld_came hg 0 3 0 1 rfl (by kernel_rfl) hlen
    obtain ⟨_, _, g1⟩ := fld_came hg 1 3 1 1 rfl (by kernel_rfl) hlen
    obtain ⟨_, _, g2⟩ := fld_came hg 2 3 2 1 rfl (by kernel_rfl) hlen
    obtain ⟨_, _, g3⟩ := fld_came hg 3 33 3 2 rfl (by kernel_rfl) hlen
    obtain ⟨k, hk, _, _⟩ := DataW.trod_int Tryd.underlying3 g0
    obtain ⟨t, ht, _, _⟩ := DataW.trod_int Tryd.underlying3 g1
    obtain ⟨c, hc, _, _⟩ := DataW.trod_int Tryd.underlying3 g2
    obtain ⟨zs, m, _, _, _, hlen2, hq⟩ := DataW.trod_struct Tryd.underlying33 g3
    obtain ⟨_, _, q0⟩ := fld_came hq 0 4 0 1 rfl (by kernel_rfl) hlen2
    obtain ⟨_, _, q1⟩ := fld_came hq 1 2 1 1 rfl (by kernel_rfl) hlen2
    obtain ⟨z, hz, _⟩ := DataW.trod_bool Tryd.underlying4 q0
    obtain ⟨i, hi, _, _⟩ := DataW.trod_int Tryd.underlying2 q1
    simp at hk ht hc hz hi
    exact ⟨⟨k, t, c, z, i⟩, by rw [hk, ht, hc, hz, hi]⟩
/-- a predicate's own cells; how its parts read -/
theorem pred_cells {n : Nat} {cs : List Value} {y : DataW H × List MemPlace} (h : DataW.trod enc Tryd.prog W 0 (fun _ => true) true n 46 cs = some y) :
    ∃ (f : Pf) (u : Value) (m : Nat) (z : DataW H × List MemPlace), cs = f.cells u ∧ m < n ∧ DataW.trod enc Tryd.prog W 0 (fun _ => true) true m 22 [u] = some z := by
  obtain ⟨xs, m, hm, _, hl, hlen, hg⟩ := DataW.trod_struct Tryd.underlying46 h
  match cs, hl.trans (show Tryd.prog.cellsOf 46 = 14 by kernel_rfl) with
  | [c0, c1, c2, c3, c4, c5, c6, c7, c8, c9, c10, c11, c12, c13], _ =>
    obtain ⟨_, _, g0⟩ := fld_came hg 0 3 0 1 rfl (by kernel_rfl) hlen
    obtain ⟨_, _, g1⟩ := fld_came hg 1 3 1 1 rfl (by kernel_rfl) hlen
    obtain ⟨_, _, g2⟩ := fld_came hg 2 3 2 1 rfl (by kernel_rfl) hlen
    obtain ⟨_, _, g3⟩ := fld_came hg 3 35 3 5 rfl (by kernel_rfl) hlen
    obtain ⟨_, _, g4⟩ := fld_came hg 4 35 8 5 rfl (by kernel_rfl) hlen
    obtain ⟨z, _, g5⟩ := fld_came hg 5 22 13 1 rfl (by kernel_rfl) hlen
    obtain ⟨k, hk, _, _⟩ := DataW.trod_int Tryd.underlying3 g0
    obtain ⟨u, hu, _, _⟩ := DataW.trod_int Tryd.underlying3 g1
    obtain ⟨o, ho, _, _⟩ := DataW.trod_int Tryd.underlying3 g2
    obtain ⟨a, ha⟩ := term_cells g3
    obtain ⟨b, hb⟩ := term_cells g4
    simp at hk hu ho ha hb
    obtain ⟨a0, a1, a2, a3, a4⟩ := ha
    obtain ⟨b0, b1, b2, b3, b4⟩ := hb
    exact ⟨⟨k, u, o, a, b⟩, c13, m, z, by simp [Pf.cells, hk, hu, ho, a0, a1, a2, a3, a4, b0, b1, b2, b3, b4], by omega, g5⟩
/-- predicates that came in -/
theorem preds_came (n : Nat) : ∀ (v : Value) (y : DataW H × List MemPlace), DataW.trod enc Tryd.prog W 0 (fun _ => true) true n 22 [v] = some y → ∃ d ps, PsAt d W v ps := by
  induction n using Nat.strongRecOn with
  | ind n ih =>
  intro v y h
  rcases DataW.trod_slice Tryd.underlying22 h with ⟨hv, _⟩ | ⟨a, len, cap, elems, rest, m, hm, hv, _, _, hl, hcap, hlen, hel, _, _⟩
  · obtain rfl : v = .slice none 0 0 := by simpa using hv
    exact ⟨0, [], rfl, none, 0, rfl⟩
  · obtain rfl : v = .slice (some a) len cap := by simpa using hv
    rw [show Tryd.prog.cellsOf 46 = 14 by kernel_rfl] at hel
    have each : ∀ i, i < len → ∃ d, ∃ (p : Pd) (u : Value), PdCell W (a.add (i * 14)) p.f u ∧ PsAt d W u p.ps := by
      intro i hi
      have h1 := hel i hi
      rw [List.getElem?_eq_getElem (by omega)] at h1
      obtain ⟨cs', h2, h3⟩ := Option.bind_eq_some_iff.1 h1
      obtain ⟨f, u, k, z, rfl, hk, h4⟩ := pred_cells h3
      obtain ⟨d, ps, hps⟩ := ih k (by omega) u z h4
      obtain ⟨_, _, hc⟩ := World.cells?_some h2
      have hx : ∀ j, 0 < j → (a.add (i * 14)).add j = ⟨(a.add (i * 14)).block, (a.add (i * 14)).off + j, none⟩ := fun j hj => by
        generalize a.add (i * 14) = X
        unfold Addr.add
        rw [if_neg (by omega)]
      have h0 := hc 0 (by decide)
      have e0 : (a.add (i * 14)).add 0 = a.add (i * 14) := by unfold Addr.add; simp
      rw [e0] at h0
      have g := fun j (hj : 0 < j) (hj2 : j < 14) => by have := hc j hj2; rwa [hx j hj] at this
      exact ⟨d, .mk f ps, u, ⟨h0, g 1 (by decide) (by decide), g 2 (by decide) (by decide), g 3 (by decide) (by decide), g 4 (by decide) (by decide), g 5 (by decide) (by decide), g 6 (by decide) (by decide), g 7 (by decide) (by decide), g 8 (by decide) (by decide), g 9 (by decide) (by decide), g 10 (by decide) (by decide), g 11 (by decide) (by decide), g 12 (by decide) (by decide), g 13 (by decide) (by decide)⟩, hps⟩
    obtain ⟨D, hD⟩ := fuel_lt (q := fun i d => ∃ (p : Pd) (u : Value), PdCell W (a.add (i * 14)) p.f u ∧ PsAt d W u p.ps) (fun i x z hxz ⟨p, u, hp, hu⟩ => ⟨p, u, hp, hu.mono hxz⟩) each
    obtain ⟨ps, hpl, hps⟩ := list_of (α := Pd) (Q := fun (i : Nat) (p : Pd) => ∃ u, PdCell W (a.add (i * 14)) p.f u ∧ PsAt D W u p.ps) len hD
    refine ⟨D + 1, ps, some a, cap, by rw [hpl], by unfold maxLen at hcap; omega, fun j p hj => ?_⟩
    obtain ⟨u, hp, hu⟩ := hps j p hj
    obtain ⟨b, o, s⟩ := a
    refine ⟨b, o, s, u, rfl, ?_, hp, hu⟩
    have := block_lt_of_cell hp.c0
    rwa [add_block] at this
/-- a predicate by value that came in -/
theorem pred_came {r : Reach} {b0 : Nat} {v : Value} {d : DataW H} {p : List MemPlace} (hv : Value.okWide Tryd.prog W r b0 46 v) (h : DataW.Trod enc Tryd.prog W 0 (fun _ => true) true 46 v d p) :
    ∃ (f : Pf) (u : Value) (D : Nat) (ps : List Pd), v = .agg #[.int .i64 f.k, .int .i64 f.u, .int .i64 f.o, .int .i64 f.a.k, .int .i64 f.a.t, .int .i64 f.a.c, .bool f.a.z, .int .i64 f.a.n, .int .i64 f.b.k, .int .i64 f.b.t, .int .i64 f.b.c, .bool f.b.z, .int .i64 f.b.n, u] ∧ PsAt D W u ps := by
  obtain ⟨⟨cs⟩, rfl, _⟩ := okWide_struct Tryd.underlying46 hv
  obtain ⟨fuel, hf⟩ := h
  obtain ⟨f, u, m, z, hcs, _, h4⟩ := pred_cells hf
  obtain ⟨D, ps, hps⟩ := preds_came m u z h4
  refine ⟨f, u, D, ps, ?_, hps⟩
  have : cs = f.cells u := hcs
  rw [this]
  rfl
end
end Go.Proofs.YtghonbnmakggnaaDoor

/-
  WHAT CAME IN: predicates, with their cells; rows, each nil or at an address.
-/
namespace Go.Proofs.YtghonbnmakggnaaDoor
set_option maxRecDepth 100000
open Go.RowKit Go.WideShapes Go.ChangeShapes Go.Deep
section
variable {H : Type} {enc : TypeId × Value → H} {W : World}
theorem preds_came_cells {A0 : Option Addr} {n0 c0 : Nat} {d : DataW H} {p : List MemPlace} (h : DataW.Trod enc Tryd.prog W 0 (fun _ => true) true 22 (.slice A0 n0 c0) d p) :
    ∃ D ps, PsCame D W (.slice A0 n0 c0) ps ∧ (ps = [] ∨ ∃ es sp, d = .slice es sp ∧ es.length = ps.length) := by
  obtain ⟨fuel, hf⟩ := h
  rcases DataW.trod_slice Tryd.underlying22 hf with ⟨hv, _⟩ | ⟨a, len, cap, elems, rest, m, hm, hv, hxx, _, hl, hcap, hlen, hel, _, _⟩
  · obtain ⟨rfl, rfl, rfl⟩ : A0 = none ∧ n0 = 0 ∧ c0 = 0 := by simpa [Value.cells] using hv
    exact ⟨0, [], ⟨by simp, [], rfl, .inl ⟨rfl, rfl, rfl⟩, fun x h => by simp at h⟩, .inl rfl⟩
  · obtain ⟨rfl, rfl, rfl⟩ : A0 = some a ∧ n0 = len ∧ c0 = cap := by simpa [Value.cells] using hv
    rw [show Tryd.prog.cellsOf 46 = 14 by kernel_rfl] at hel
    have each : ∀ i, i < n0 → ∃ d, ∃ (x : Pd × Value), PdCell W (a.add (i * 14)) x.1.f x.2 ∧ PsAt d W x.2 x.1.ps := by
      intro i hi
      have h1 := hel i hi
      rw [List.getElem?_eq_getElem (by omega)] at h1
      obtain ⟨cs', h2, h3⟩ := Option.bind_eq_some_iff.1 h1
      obtain ⟨f, u, k, z, rfl, hk, h4⟩ := pred_cells h3
      obtain ⟨d, ps, hps⟩ := preds_came k u z h4
      obtain ⟨_, _, hc⟩ := World.cells?_some h2
      have hx : ∀ j, 0 < j → (a.add (i * 14)).add j = ⟨(a.add (i * 14)).block, (a.add (i * 14)).off + j, none⟩ := fun j hj => by
        generalize a.add (i * 14) = X
        unfold Addr.add
        rw [if_neg (by omega)]
      have h0 := hc 0 (by decide)
      have e0 : (a.add (i * 14)).add 0 = a.add (i * 14) := by unfold Addr.add; simp
      rw [e0] at h0
      have g := fun j (hj : 0 < j) (hj2 : j < 14) => by have := hc j hj2; rwa [hx j hj] at this
      exact ⟨d, (.mk f ps, u), ⟨h0, g 1 (by decide) (by decide), g 2 (by decide) (by decide), g 3 (by decide) (by decide), g 4 (by decide) (by decide), g 5 (by decide) (by decide), g 6 (by decide) (by decide), g 7 (by decide) (by decide), g 8 (by decide) (by decide), g 9 (by decide) (by decide), g 10 (by decide) (by decide), g 11 (by decide) (by decide), g 12 (by decide) (by decide), g 13 (by decide) (by decide)⟩, hps⟩
    obtain ⟨D, hD⟩ := fuel_lt (q := fun i d => ∃ (x : Pd × Value), PdCell W (a.add (i * 14)) x.1.f x.2 ∧ PsAt d W x.2 x.1.ps) (fun i x z hxz ⟨y, hp, hu⟩ => ⟨y, hp, hu.mono hxz⟩) each
    obtain ⟨L, hL, hLx⟩ := list_of (α := Pd × Value) (Q := fun (i : Nat) (x : Pd × Value) => PdCell W (a.add (i * 14)) x.1.f x.2 ∧ PsAt D W x.2 x.1.ps) n0 hD
    refine ⟨D, L.map Prod.fst, ⟨by rw [List.length_map]; unfold maxLen at hcap; omega, L, rfl, .inr ⟨a, c0, by rw [List.length_map, hL], by rw [List.length_map]; exact pdCells_len L, fun j u hu => ?_⟩, fun x hx => ?_⟩, .inr ⟨_, _, congrArg Prod.fst hxx, by rw [List.length_map, List.length_map, hL, hlen]⟩⟩
    · have hj : j < L.length * 14 := by
        by_cases hj : j < L.length * 14
        · exact hj
        · rw [List.getElem?_eq_none (by rw [pdCells_len]; omega)] at hu; cases hu
      obtain ⟨y, hy⟩ : ∃ y, L[j / 14]? = some y := ⟨L[j / 14]'(by omega), List.getElem?_eq_getElem _⟩
      obtain ⟨hp, _⟩ := hLx (j / 14) y hy
      have hr : j % 14 = 0 ∨ j % 14 = 1 ∨ j % 14 = 2 ∨ j % 14 = 3 ∨ j % 14 = 4 ∨ j % 14 = 5 ∨ j % 14 = 6 ∨ j % 14 = 7 ∨ j % 14 = 8 ∨ j % 14 = 9 ∨ j % 14 = 10 ∨ j % 14 = 11 ∨ j % 14 = 12 ∨ j % 14 = 13 := by omega
      rcases hr with hr | hr | hr | hr | hr | hr | hr | hr | hr | hr | hr | hr | hr | hr
      · rw [show j = j / 14 * 14 + 0 by omega] at hu
        rw [pdCells_at L (j / 14) 0 y hy (by decide)] at hu
        cases hu
        rw [show j = j / 14 * 14 by omega]
        exact hp.c0
      · rw [show j = j / 14 * 14 + 1 by omega] at hu ⊢
        rw [pdCells_at L (j / 14) 1 y hy (by decide)] at hu
        cases hu
        rw [add_off _ _ 1 (by decide)]
        exact hp.c1
      · rw [show j = j / 14 * 14 + 2 by omega] at hu ⊢
        rw [pdCells_at L (j / 14) 2 y hy (by decide)] at hu
        cases hu
        rw [add_off _ _ 2 (by decide)]
        exact hp.c2
      · rw [show j = j / 14 * 14 + 3 by omega] at hu ⊢
        rw [pdCells_at L (j / 14) 3 y hy (by decide)] at hu
        cases hu
        rw [add_off _ _ 3 (by decide)]
        exact hp.c3
      · rw [show j = j / 14 * 14 + 4 by omega] at hu ⊢
        rw [pdCells_at L (j / 14) 4 y hy (by decide)] at hu
        cases hu
        rw [add_off _ _ 4 (by decide)]
        exact hp.c4
      · rw [show j = j / 14 * 14 + 5 by omega] at hu ⊢
        rw [pdCells_at L (j / 14) 5 y hy (by decide)] at hu
        cases hu
        rw [add_off _ _ 5 (by decide)]
        exact hp.c5
      · rw [show j = j / 14 * 14 + 6 by omega] at hu ⊢
        rw [pdCells_at L (j / 14) 6 y hy (by decide)] at hu
        cases hu
        rw [add_off _ _ 6 (by decide)]
        exact hp.c6
      · rw [show j = j / 14 * 14 + 7 by omega] at hu ⊢
        rw [pdCells_at L (j / 14) 7 y hy (by decide)] at hu
        cases hu
        rw [add_off _ _ 7 (by decide)]
        exact hp.c7
      · rw [show j = j / 14 * 14 + 8 by omega] at hu ⊢
        rw [pdCells_at L (j / 14) 8 y hy (by decide)] at hu
        cases hu
        rw [add_off _ _ 8 (by decide)]
        exact hp.c8
      · rw [show j = j / 14 * 14 + 9 by omega] at hu ⊢
        rw [pdCells_at L (j / 14) 9 y hy (by decide)] at hu
        cases hu
        rw [add_off _ _ 9 (by decide)]
        exact hp.c9
      · rw [show j = j / 14 * 14 + 10 by omega] at hu ⊢
        rw [pdCells_at L (j / 14) 10 y hy (by decide)] at hu
        cases hu
        rw [add_off _ _ 10 (by decide)]
        exact hp.c10
      · rw [show j = j / 14 * 14 + 11 by omega] at hu ⊢
        rw [pdCells_at L (j / 14) 11 y hy (by decide)] at hu
        cases hu
        rw [add_off _ _ 11 (by decide)]
        exact hp.c11
      · rw [show j = j / 14 * 14 + 12 by omega] at hu ⊢
        rw [pdCells_at L (j / 14) 12 y hy (by decide)] at hu
        cases hu
        rw [add_off _ _ 12 (by decide)]
        exact hp.c12
      · rw [show j = j / 14 * 14 + 13 by omega] at hu ⊢
        rw [pdCells_at L (j / 14) 13 y hy (by decide)] at hu
        cases hu
        rw [add_off _ _ 13 (by decide)]
        exact hp.c13
    · obtain ⟨i, hi, e⟩ := List.mem_iff_getElem.1 hx
      exact (hLx i x (by rw [List.getElem?_eq_getElem hi, e])).2
theorem row_form {v : Value} {fuel : Nat} {x : DataW H × List MemPlace} (h : DataW.trod enc Tryd.prog W 0 (fun _ => true) true fuel 48 [v] = some x) : v = .slice none 0 0 ∨ ∃ b n c, v = .slice (some b) n c := by
  rcases DataW.trod_slice Tryd.underlying48 h with ⟨hv, _⟩ | ⟨a, len, cap, elems, rest, m, hm, hv, _⟩
  · exact .inl (by simpa using hv)
  · exact .inr ⟨a, len, cap, by simpa using hv⟩
theorem rws_came_forms {A0 : Option Addr} {n0 c0 : Nat} {d : DataW H} {p : List MemPlace} (h : DataW.Trod enc Tryd.prog W 0 (fun _ => true) true 25 (.slice A0 n0 c0) d p) :
    ∃ vs rs, RwsOf W (.slice A0 n0 c0) vs rs ∧ ∀ x ∈ vs, x = .slice none 0 0 ∨ ∃ b n c, x = .slice (some b) n c := by
  have h0 := h
  obtain ⟨vs, rs, hr, _, _⟩ := rws_came h0
  refine ⟨vs, rs, hr, fun x hx => ?_⟩
  obtain ⟨j, hj, hjx⟩ := List.mem_iff_getElem.1 hx
  have gx : vs[j]? = some x := by rw [List.getElem?_eq_getElem hj, hjx]
  obtain ⟨A, c, hv, _, hcell⟩ := hr.sl
  obtain ⟨b, o, s, hA, _, hc⟩ := hcell j x gx
  obtain ⟨fuel, hf⟩ := h
  rcases open_slice1 Tryd.underlying25 (by kernel_rfl) hf with ⟨hv2, _⟩ | ⟨a, len, cap, m, n, V, D, Pl, hv2, _, hl, _, hm, _, hx2⟩
  · simp only [Value.cells, List.cons.injEq, Value.slice.injEq, and_true] at hv2
    obtain ⟨rfl, rfl, rfl⟩ := hv2
    injection hv with h1 h2 h3
    rw [← h1] at hA
    cases hA
  · simp only [Value.cells, List.cons.injEq, Value.slice.injEq, and_true] at hv2
    obtain ⟨rfl, rfl, rfl⟩ := hv2
    have hn0 : n0 = vs.length := by injection hv
    simp only [if_true] at hm
    cases hv
    cases hA
    have hx3 := hx2 j (by omega)
    rw [hx3.1] at hc
    cases hc
    exact row_form hx3.2
/-- an array of two words by value that came in -/
theorem words2_came {r : Reach} {b0 : Nat} {v : Value} {d : DataW H} {p : List MemPlace} (hv : Value.okWide Tryd.prog W r b0 24 v) (h : DataW.Trod enc Tryd.prog W 0 (fun _ => true) true 24 v d p) :
    ∃ x y : Nat, x < 18446744073709551616 ∧ y < 18446744073709551616 ∧ v = .agg #[.int .u64 (x : Int), .int .u64 (y : Int)] := by
  simp only [Value.okWide, Tryd.underlying24] at hv
  obtain ⟨⟨cs⟩, rfl, _, _⟩ := hv
  obtain ⟨fuel, hf⟩ := h
  obtain ⟨xs, m, _, _, hl, hlen, hg⟩ := DataW.trod_array Tryd.underlying24 hf
  have hc1 : Tryd.prog.cellsOf 23 = 1 := by kernel_rfl
  match cs, hl.trans (show Tryd.prog.cellsOf 24 = 2 by kernel_rfl), hg with
  | [c0, c1], _, hg =>
    have g0 := hg 0 (by decide)
    have g1 := hg 1 (by decide)
    rw [hc1, List.getElem?_eq_getElem (by omega)] at g0 g1
    obtain ⟨x, hx, _, wx⟩ := DataW.trod_int Tryd.underlying23 g0
    obtain ⟨y, hy, _, wy⟩ := DataW.trod_int Tryd.underlying23 g1
    have bx := bounds_u64 wx
    have by_ := bounds_u64 wy
    obtain rfl : c0 = .int .u64 x := (List.cons.inj (show [c0] = [Value.int .u64 x] from hx)).1
    obtain rfl : c1 = .int .u64 y := (List.cons.inj (show [c1] = [Value.int .u64 y] from hy)).1
    refine ⟨x.toNat, y.toNat, by omega, by omega, ?_⟩
    rw [Int.toNat_of_nonneg bx.1, Int.toNat_of_nonneg by_.1]
end
end Go.Proofs.YtghonbnmakggnaaDoor

/-
  WHAT A ROW's LIST GIVES, whatever variable of it: its reading; an array's reading, element by element; an interface's.
-/
namespace Go.Proofs.YtghonbnmakggnaaDoor
open Go.RowKit

theorem laidVars_at {P : Program} {W : World} : ∀ {l : List (String × DataW Unit)} {ps : List MemPlace}, DataW.LaidVars P W l ps → ∀ {n : String} {d : DataW Unit}, (n, d) ∈ l →
    ∃ g t cs fuel p, P.globalNamed n = some g ∧ (P.globals[g]?).map (·.type) = some t ∧ W.var? P n = some cs ∧ DataW.trod (fun _ => ()) P W 0 (fun _ => true) false fuel t cs.toList = some (d, p)
  | [], _, _, _, _, hm => by cases hm
  | (n', d') :: r, ps, h, n, d, hm => by
    obtain ⟨g, t, cs, fuel, p, q, h1, h2, h3, h4, h5, _⟩ := h
    rcases List.mem_cons.1 hm with he | hm
    · obtain ⟨rfl, rfl⟩ := Prod.mk.inj he
      exact ⟨g, t, cs, fuel, p, h1, h2, h3, h4⟩
    · exact laidVars_at h5 hm
theorem laid_at {P : Program} {W : World} {l : List (String × DataW Unit)} (h : laidMet P l W) {n : String} {d : DataW Unit} (hm : (n, d) ∈ l) :
    ∃ g t cs fuel p, P.globalNamed n = some g ∧ (P.globals[g]?).map (·.type) = some t ∧ W.var? P n = some cs ∧ DataW.trod (fun _ => ()) P W 0 (fun _ => true) false fuel t cs.toList = some (d, p) := by
  obtain ⟨ps, h, _⟩ := h
  exact laidVars_at h hm
section
variable {H : Type} {enc : TypeId × Value → H} {P : Program} {w : World} {base : Nat} {sp : Nat → Bool} {fuel : Nat} {t e : TypeId} {cs : List Value} {p : List MemPlace}
theorem arr_at {n c : Nat} {held : Bool} {parts : List (DataW H)} (ht : P.underlying t = some (.array n e)) (hce : P.cellsOf e = c) (h : DataW.trod enc P w base sp held fuel t cs = some (.agg parts, p)) (i : Nat) (hi : i < n) :
    ∃ fuel' x, DataW.trod enc P w base sp held fuel' e ((cs.drop (i * c)).take c) = some x ∧ parts[i]? = some x.1 := by
  cases fuel with
  | zero => simp [DataW.trod] at h
  | succ fuel =>
    simp only [DataW.trod, ht, hce] at h
    split at h
    · obtain ⟨xs, hm, hx⟩ := Option.map_eq_some_iff.1 h
      obtain ⟨b, hb, hf⟩ := Lib.mapM_at hm i i (by simp [hi])
      refine ⟨fuel, b, hf, ?_⟩
      have : parts = xs.map (·.1) := by
        have := congrArg Prod.fst hx
        simpa using this.symm
      rw [this]; simp [hb]
    · cases h
theorem iface_at {ms : Array (String × TypeId)} {nm : String} {d : DataW H} (ht : P.underlying t = some (.interface ms)) (h : DataW.trod enc P w base sp false fuel t cs = some (.iface nm d, p)) : ∃ u v, cs = [.iface u v] := by
  cases fuel with
  | zero => simp [DataW.trod] at h
  | succ fuel =>
    simp only [DataW.trod, ht] at h
    split at h <;> first | cases h | skip
    all_goals first | exact ⟨_, _, rfl⟩ | simp_all
end
end Go.Proofs.YtghonbnmakggnaaDoor

/-
  WHAT A ROW's LIST GIVES TO package value alone: its table of what is wanted.
-/
namespace Go.Proofs.YtghonbnmakggnaaDoor
open Go.RowKit
theorem gWants : Tryd.prog.globalNamed "watersmeet/value.wants" = some 3 := by kernel_rfl
theorem gWantsType : (Tryd.prog.globals[3]?).map (·.type) = some 129 := by kernel_rfl
theorem cells3b : Tryd.prog.cellsOf 128 = 3 := by kernel_rfl
theorem cellsB : Tryd.prog.cellsOf 4 = 1 := by kernel_rfl
/-- the table, as data -/
def wantsData : List (DataW Unit) := (List.range 7).map fun q => .agg ((List.range 3).map fun p => .lit (.bool (Va.want q p)))
theorem want_of {W : World} {l : List (String × DataW Unit)} (h : laidMet Tryd.prog l W) (m3 : ("watersmeet/value.wants", .agg wantsData) ∈ l) : Want W := by
  obtain ⟨g, t, cs, fuel, p0, h1, h2, h3, h4⟩ := laid_at h m3
  obtain rfl := Option.some.inj (gWants.symm.trans h1)
  obtain rfl := Option.some.inj (gWantsType.symm.trans h2)
  intro q p hq hp
  obtain ⟨f1, x1, h5, h6⟩ := arr_at Tryd.underlying129 cells3b h4 q hq
  have e1 : x1.1 = .agg ((List.range 3).map fun p => .lit (.bool (Va.want q p))) := by
    have : wantsData[q]? = some (.agg ((List.range 3).map fun p => .lit (.bool (Va.want q p)))) := by simp [wantsData, hq]
    exact Option.some.inj (h6.symm.trans this)
  obtain ⟨d1, p1⟩ := x1
  simp only at e1
  subst e1
  obtain ⟨f2, x2, h7, h8⟩ := arr_at Tryd.underlying128 cellsB h5 p hp
  obtain ⟨b, hb, rfl⟩ := DataW.trod_bool Tryd.underlying4 h7
  have e2 : b = Va.want q p := by
    have h9 : (List.map (fun p => (DataW.lit (Lit.bool (Va.want q p)) : DataW Unit)) (List.range 3))[p]? = some (.lit (.bool (Va.want q p))) := by simp [hp]
    have := Option.some.inj (h8.symm.trans h9)
    simpa using this
  rw [World.var?_cell h1 h3]
  have h10 := congrArg (·[0]?) hb
  simp only [Nat.mul_one, List.getElem?_take, List.getElem?_drop] at h10
  simp only [Nat.lt_one_iff, if_true, Nat.add_zero, List.getElem?_cons_zero] at h10
  rw [if_pos (by omega)] at h10
  rw [← e2]
  simpa using h10
end Go.Proofs.YtghonbnmakggnaaDoor
