/-
  LAID TOGETHER, BY PROGRAM, of: Seq, Post, RwsCame.
-/
import Derived.Test.YtaodobjekpacoaaGBase
import Derived.Test.YtaodobjekpacoaaRows
import Derived.Laws.AppendOwnNone
import Derived.OwnWalk
import Derived.Below
import Derived.ChangeSame
import Derived.ProofKit
import Derived.Carry
import Derived.OpenShut
import Derived.Deep.SlicePairs
import Derived.Deep.Fields
import Derived.Lib.SmallJoins
/-
  append OF A SLICE THAT CAME IN (nil, or not) ONTO A ROW OF THE CALL's OWN; and what is kept of a row of one's own where only new blocks are laid.
-/
namespace Go.Proofs.Ytaodobjekpacoaa
open Go Go.RowKit
variable {P : Program}

/-- a slice that reads as xs: it is nil, or it has an address -/
structure Came1 (w : World) (v : Value) (xs : List Value) : Prop where
  sl : Sl w v xs
  form : (v = .slice none 0 0 ∧ xs = []) ∨ ∃ b c, v = .slice (some b) xs.length c
theorem Came1.below {w w' : World} {B : Nat} {v : Value} {xs : List Value} (h : Came1 w v xs) (hb : Below B w w') (hB : w.heap.size ≤ B) : Came1 w' v xs := ⟨h.sl.below hb hB, h.form⟩
theorem Came1.own {w : World} {base : Nat} {e : TypeId} {v : Value} {n : Nat} {xs : List Value} (h : w.ownsRow base e 1 v n xs) : Came1 w v xs := by
  refine ⟨Sl.own h, ?_⟩
  have hl : xs.length = n := by have := h.1; omega
  rcases h.2 with ⟨hv, hn⟩ | ⟨g, cap, cur, hv, _⟩
  · exact .inl ⟨hv, List.eq_nil_of_length_eq_zero (by omega)⟩
  · exact .inr ⟨_, cap, by rw [hv, hl]⟩
theorem own_below {w w' : World} {base : Nat} {e : TypeId} {s : Nat} {v : Value} {n : Nat} {xs : List Value} (h : w.ownsRow base e s v n xs) (hb : Below w.heap.size w w') : w'.ownsRow base e s v n xs := by
  refine ⟨h.1, ?_⟩
  rcases h.2 with hn | ⟨g, cap, cur, rfl, h1, hg, rest⟩
  · exact .inl hn
  · exact .inr ⟨g, cap, cur, rfl, h1, (hb.block g (Array.getElem?_eq_some_iff.1 hg).1).trans hg, rest⟩
/-- append on a row of the call's own: whatever lay ahead of the row's base lies as it lay -/
theorem grown_below {w w' w0 : World} {base : Nat} {e : TypeId} {s : Nat} {v : Value} {n : Nat} {xs : List Value} (h : w.ownsRow base e s v n xs) (hg : w.grownBy w' v.ownBlock) (hb : Below base w0 w) (hB : base ≤ w.heap.size) : Below base w0 w' :=
  hb.grown hg hB fun k hk => (h.lt k hk).1

theorem wpList_append_came (w : World) {ops : Array Oper} {rest : List Oper} {o : Oper} {a : Act} {Q : Exit → Act → World → Prop} (hgd : o.guard = none) (s x : Operand) (t : TypeId)
    (ho : o.op = .call { callee := .builtin .append, args := #[s, x], argTypes := #[t, t] })
    (base : Nat) (e : TypeId) (i : TypeInfo) (z : Value) (bytes : Nat) (ht : P.underlying t = some (.slice e)) (hi : P.info? e = some i) (hz : i.zero = some z)
    (hsize : i.size = 1) (hby : i.bytes = bytes) (hzs : z.cells.size = 1)
    (v : Value) (n : Nat) (xs : List Value) (hs : a.eval s = v) (hown : w.ownsRow base e 1 v n xs)
    (u : Value) (news : List Value) (hx : a.eval x = u) (hu : Came1 w u news) (h1 : ∀ u ∈ news, u.oneCell' = true)
    (h63 : n + news.length ≤ maxLen) (hbytes : (n + news.length) * bytes ≤ 140737488355328) (hbase : base ≤ w.heap.size)
    (h : ∀ v' w', w'.ownsRow base e 1 v' (n + news.length) (xs ++ news) → w.grownBy w' v.ownBlock → wpList P ops Q rest (a.put o.dst v') w') : wpList P ops Q (o :: rest) a w := by
  rcases hu.form with ⟨rfl, rfl⟩ | ⟨b, c, rfl⟩
  · refine wpList_append_own_none hgd s x t ho base e i 1 ht hi v n xs hs hown hx ?_
    exact h v w (by simpa using hown) ⟨rfl, rfl, rfl, Nat.le_refl _, fun _ _ _ => rfl⟩
  · refine wpList_append_own w hgd s x t ho base e i z 1 bytes ht hi hz hsize hby hzs (by decide) v n xs hs hown b news.length c news hx (by omega) ?_ h1 h63 hbytes hbase fun v' w' h2 h3 _ => h v' w' h2 h3
    intro j y hy
    obtain ⟨A, c', hv, _, hcell⟩ := hu.sl
    cases hv
    obtain ⟨b', o', p', hA, _, hc⟩ := hcell j y hy
    cases hA
    exact hc
theorem ints_one (l : List Int) (k : IntKind) : ∀ u ∈ l.map (Value.int k), u.oneCell' = true := by
  intro u hu
  obtain ⟨x, _, rfl⟩ := List.mem_map.1 hu
  rfl
end Go.Proofs.Ytaodobjekpacoaa

/-
  THE LAST STEP OF EVERY LAW's ROW: the call has answered true, and whatever lay before lies as it lay: so each argument reads as it read before, whatever its type. And: a slice of numbers that came in, as a list.
-/
namespace Go.Proofs.Ytaodobjekpacoaa
open Go.RowKit Go.WideShapes Go.ChangeShapes
theorem trodAll_kept {H : Type} {enc : TypeId × Value → H} {P : Program} {A B : World} (laid : laidOutB P = true) (kept : Below A.heap.size A B) :
    ∀ (ts : List TypeId) {vs : List Value} {ds : List (DataW H)} {ps : List MemPlace}, (ts.all fun t => P.readableRec t && decide (t < P.types.size)) = true →
      DataW.TrodAll enc P A 0 (fun _ => true) true ts vs ds ps → (∀ x ∈ ps, x.block < A.heap.size) → DataW.TrodAll enc P B 0 (fun b => decide (b < A.heap.size)) true ts vs ds ps
  | [], _, _, _, _, h, _ => by
    obtain ⟨rfl, rfl, rfl⟩ := trodAll_nil h
    exact trodAll_mk0
  | t :: ts, _, _, _, hr, h, hlt => by
    obtain ⟨v, vs, d, ds, p, q, rfl, rfl, rfl, h0, h1⟩ := trodAll_cons h
    simp only [List.all_cons, Bool.and_eq_true] at hr
    exact trodAll_cons_mk (Below.trod laid hr.1.1 (of_decide_eq_true hr.1.2) h0 kept (fun x hx => hlt x (List.mem_append.2 (.inl hx))))
      (trodAll_kept laid kept ts (by simpa using hr.2) h1 (fun x hx => hlt x (List.mem_append.2 (.inr hx))))
theorem law_post {H : Type} {enc : TypeId × Value → H} {P : Program} {fn : Func} {sp : ChangeSpec} {ap : Bool} {A B : World} {xs : Array Value} {ds gs : List (DataW H)} {was p : List MemPlace} {tb : TypeId}
    (laid : laidOutB P = true) (hr : (fn.params.toList.all fun t => P.readableRec t && decide (t < P.types.size)) = true)
    (whole : DataW.Whole enc P fn.params.toList sp.vars ap A xs.toList ds gs was) (args : DataW.TrodAll enc P A 0 (fun _ => true) true fn.params.toList xs.toList ds p) (hp : was = p) (kept : Below A.heap.size A B)
    (ht : fn.resultTypes = #[tb]) (hb : P.underlying tb = some .bool) (h1 : (sp.fn H (ds ++ gs)).results = [.lit (.bool true)]) (h2 : (sp.fn H (ds ++ gs)).args = ds) (h3 : sp.vars = []) (h4 : (sp.fn H (ds ++ gs)).vars = []) :
    sp.post enc P fn ap true false false A xs (.bool true) B := by
  have below : ∀ x, x ∈ p → x.block < A.heap.size := fun x h => whole.lt x (hp ▸ h)
  refine ⟨ds, gs, was, [], p, [], whole, ?_, ?_, ?_, World.keptBut_mono (fun x h => ⟨h, .inr (.inl (hp ▸ h))⟩) (kept.frame (· ∈ was)), fun h => by cases h⟩
  · rw [h1, ht]
    exact trodAll_cons_mk (shut_bool hb true) trodAll_mk0
  · rw [h2]
    exact trodAll_kept laid kept _ hr args below
  · rw [h3, h4]
    exact rfl
/-- a slice of numbers that came in -/
theorem sl_came {H : Type} {enc : TypeId × Value → H} {P : Program} {W : World} {T E : TypeId} {k : IntKind} {a : Option Addr} {len cap : Nat} {d : DataW H} {p : List MemPlace} (ht : P.underlying T = some (.slice E)) (he : P.underlying E = some (.int k)) (hc : P.cellsOf E = 1)
    (h : DataW.Trod enc P W 0 (fun _ => true) true T (.slice a len cap) d p) (hlt : ∀ x ∈ p, x.block < W.heap.size) :
    ∃ l : List Int, len = l.length ∧ l.length ≤ 9223372036854775807 ∧ Sl W (.slice a len cap) (l.map (Value.int k)) ∧ ∀ n ∈ l, (Lit.int k n).wf = true := by
  obtain ⟨fuel, hf⟩ := h
  rcases open_ints ht he hc hf with ⟨hcs, _⟩ | ⟨b, len', cap', zs, hcs, _, hl, hm, hz, hx, hcell, hwz⟩
  · simp only [Value.cells, List.cons.injEq, Value.slice.injEq, and_true] at hcs
    obtain ⟨rfl, rfl, rfl⟩ := hcs
    exact ⟨[], rfl, by simp, ⟨none, 0, rfl, by simp, fun j u hu => by simp at hu⟩, by simp⟩
  · simp only [Value.cells, List.cons.injEq, Value.slice.injEq, and_true] at hcs
    obtain ⟨rfl, rfl, rfl⟩ := hcs
    simp only [if_true] at hz
    simp only [Prod.mk.injEq] at hx
    have hlen : (zs.take len).length = len := by rw [List.length_take]; omega
    refine ⟨zs.take len, hlen.symm, by unfold maxLen at hm; omega, ⟨some b, cap, by rw [List.length_map, hlen], by rw [List.length_map, hlen]; exact hl, fun j u hu => ?_⟩, fun n hn => hwz n (List.mem_of_mem_take hn)⟩
    rw [List.getElem?_map] at hu
    cases hj : (zs.take len)[j]? with
    | none => rw [hj] at hu; cases hu
    | some x =>
      rw [hj] at hu
      cases hu
      have hjl : j < len := by
        by_cases h : j < len
        · exact h
        · rw [List.getElem?_eq_none (by omega)] at hj; cases hj
      rw [List.getElem?_take_of_lt hjl] at hj
      have hc2 := hcell j (by omega)
      have hmem : (MemPlace.cell b.block (b.off + j)) ∈ p := by rw [hx.2]; exact MemPlace.mem_row.2 ⟨j, by omega, by simp⟩
      obtain ⟨bb, o, s⟩ := b
      refine ⟨bb, o, s, rfl, hlt _ hmem, ?_⟩
      rw [hc2, List.getD, hj]; rfl
end Go.Proofs.Ytaodobjekpacoaa

/-
  WHAT CAME IN: rows of values; a term by value.
-/
namespace Go.Proofs.Ytaodobjekpacoaa
set_option maxRecDepth 100000
open Go.RowKit Go.WideShapes Go.ChangeShapes Go.Deep
section
variable {H : Type} {enc : TypeId × Value → H} {W : World}

theorem row_came {v : Value} {fuel : Nat} {x : DataW H × List MemPlace} (h : DataW.trod enc Try.prog W 0 (fun _ => true) true fuel 24 [v] = some x) : ∃ r, RowAt W v r := by
  rcases open_slice_pairs Try.underlying24 Try.underlying33 (by kernel_rfl) (by kernel_rfl) (by kernel_rfl) (by kernel_rfl) (by kernel_rfl) h with ⟨hv, _⟩ | ⟨a, len, cap, m, n, V0, V1, D0, D1, P0, P1, hv, _, hl, _, hm, _, hx⟩
  · obtain rfl : v = .slice none 0 0 := by simpa using hv
    exact ⟨[], RowAt.nil W⟩
  · obtain rfl : v = .slice (some a) len cap := by simpa using hv
    simp only [if_true] at hm
    have each : ∀ i, i < len → ∃ y : Vl, V0 i = .bool y.1 ∧ V1 i = .int .i64 y.2 := by
      intro i hi
      obtain ⟨_, _, h0, h1⟩ := hx i (by omega)
      obtain ⟨b, hb, _⟩ := DataW.trod_bool Try.underlying4 h0
      obtain ⟨z, hz, _, _⟩ := DataW.trod_int Try.underlying2 h1
      exact ⟨(b, z), by simpa using hb, by simpa using hz⟩
    obtain ⟨f, hf⟩ := choose_lt each
    refine ⟨(List.range len).map f, some a, cap, by simp, by simpa using hl, fun j y hj => ?_⟩
    have hjl : j < len := by
      by_cases h : j < len
      · exact h
      · rw [List.getElem?_eq_none (by simp; omega)] at hj; cases hj
    obtain rfl : f j = y := by simpa [hjl] using hj
    obtain ⟨h0, h1, _, _⟩ := hx j (by omega)
    rw [(hf j hjl).1] at h0
    rw [(hf j hjl).2] at h1
    obtain ⟨b, o, p⟩ := a
    refine ⟨b, o, p, rfl, ?_, h0, h1⟩
    have := block_lt_of_cell h0
    rwa [add_block] at this
/-- rows that came in: their own slice values; nil, or at an address -/
theorem rws_came {A0 : Option Addr} {n0 c0 : Nat} {d : DataW H} {p : List MemPlace} (h : DataW.Trod enc Try.prog W 0 (fun _ => true) true 22 (.slice A0 n0 c0) d p) :
    ∃ vs rs, RwsOf W (.slice A0 n0 c0) vs rs ∧ Came1 W (.slice A0 n0 c0) vs ∧ ∀ u ∈ vs, u.oneCell' = true := by
  obtain ⟨fuel, hf⟩ := h
  rcases open_slice1 Try.underlying22 (by kernel_rfl) hf with ⟨hv, _⟩ | ⟨a, len, cap, m, n, V, D, Pl, hv, _, hl, _, hm, _, hx⟩
  · simp only [Value.cells, List.cons.injEq, Value.slice.injEq, and_true] at hv
    obtain ⟨rfl, rfl, rfl⟩ := hv
    have hs : Sl W (.slice none 0 0) [] := ⟨none, 0, rfl, Nat.le_refl _, fun j u h => by simp at h⟩
    exact ⟨[], [], ⟨hs, rfl, fun i r h => by simp at h⟩, ⟨hs, .inl ⟨rfl, rfl⟩⟩, by simp⟩
  · simp only [Value.cells, List.cons.injEq, Value.slice.injEq, and_true] at hv
    obtain ⟨rfl, rfl, rfl⟩ := hv
    simp only [if_true] at hm
    have each : ∀ i, i < n0 → ∃ r, RowAt W (V i) r := fun i hi => row_came (hx i (by omega)).2
    obtain ⟨f, hf⟩ := choose_lt each
    have hs : Sl W (.slice (some a) n0 c0) ((List.range n0).map V) := by
      refine ⟨some a, c0, by simp, by simpa using hl, fun j u hu => ?_⟩
      have hj : j < n0 := by
        by_cases h : j < n0
        · exact h
        · rw [List.getElem?_eq_none (by simp; omega)] at hu; cases hu
      obtain rfl : V j = u := by simpa [hj] using hu
      have hc := (hx j (by omega)).1
      obtain ⟨b, o, p⟩ := a
      refine ⟨b, o, p, rfl, ?_, hc⟩
      have := block_lt_of_cell hc
      rwa [add_block] at this
    refine ⟨(List.range n0).map V, (List.range n0).map f, ⟨hs, by simp, fun i r hr => ?_⟩, ⟨hs, .inr ⟨a, c0, by simp⟩⟩, fun u hu => ?_⟩
    · have hi : i < n0 := by
        by_cases h : i < n0
        · exact h
        · rw [List.getElem?_eq_none (by simp; omega)] at hr; cases hr
      obtain rfl : f i = r := by simpa [hi] using hr
      exact ⟨V i, by simp [hi], hf i hi⟩
    · obtain ⟨i, hi, rfl⟩ := List.mem_map.1 hu
      obtain ⟨B, c, hB, _⟩ := hf i (List.mem_range.1 hi)
      rw [hB]
      rfl
/-- one field of a struct that came in -/
theorem fld_came {P : Program} {sp : Nat → Bool} {fs : Array Field} {cs : List Value} {ys : List (DataW H × List MemPlace)} {n : Nat} (hg : ∀ (i : Nat) (f : Field), fs[i]? = some f → DataW.trod enc P W 0 sp true n f.type ((cs.drop f.offset).take (P.cellsOf f.type)) = ys[i]?)
    (i : Nat) (T : TypeId) (o c : Nat) (hf : (fs[i]?).map (fun f => (f.type, f.offset)) = some (T, o)) (hc : P.cellsOf T = c) (hl : ys.length = fs.size) : ∃ y, ys[i]? = some y ∧ DataW.trod enc P W 0 sp true n T ((cs.drop o).take c) = some y := by
  obtain ⟨f, hfi, he⟩ := Option.map_eq_some_iff.1 hf
  simp only [Prod.mk.injEq] at he
  obtain ⟨rfl, rfl⟩ := he
  have hi : i < ys.length := by rw [hl]; exact (Array.getElem?_eq_some_iff.1 hfi).1
  have := hg i f hfi
  rw [hc, List.getElem?_eq_getElem hi] at this
  exact ⟨_, List.getElem?_eq_getElem hi, this⟩
end
end Go.Proofs.Ytaodobjekpacoaa
