/-
  CheckParts' REGION THAT BUILDS THE QUERY OF ONE TABLE MORE, ITS ORDER DRAWN.
-/
import Derived.Test.YtdcgfhenlddmeaaCkcM
import Derived.Orders
import Derived.Test.YtdcgfhenlddmeaaCkzM
import Derived.Test.YtdcgfhenlddmeaaAppM
namespace Go.Proofs.Ytdcgfhenlddmeaa
open Go Go.RowKit

/-- which operations are listed, as an array -/
def gArr (n m : Nat) : Array Bool := ((List.range n).map fun i => m.testBit i).toArray
def gRank (n m : Nat) : Nat := (List.range n).countP fun i => m.testBit i
theorem wp_region_inv {P : Program} {id : Nat} {ops : Array Oper} {Q : Exit → Act → World → Prop} {a : Act} {w : World} (hmo : P.follows .mixedOrders = true) (n : Nat) (dep : Nat → Nat → Bool) (ok : Nat → Bool) (I : Nat → Act → World → Prop)
    (hsize : ops.size = n) (hL : gArr n 0 = Array.replicate ops.size false) (hok : ok 0 = true) (hr0 : gRank n 0 = 0)
    (hready : ∀ m, m < 2 ^ n → ok m = true → ∀ i ∈ Region.ready .any ops (gArr n m), dep i m = true ∧ m.testBit i = false ∧ (gArr n m).setIfInBounds i true = gArr n (m ||| 2 ^ i) ∧ m ||| 2 ^ i < 2 ^ n ∧ ok (m ||| 2 ^ i) = true ∧ gRank n (m ||| 2 ^ i) = gRank n m + 1)
    (hend : ∀ m, m < 2 ^ n → ok m = true → (Region.ready .any ops (gArr n m) = [] ↔ m = 2 ^ n - 1)) (hall : ∀ m, m < 2 ^ n → ok m = true → gRank n m = n → m = 2 ^ n - 1)
    (h0 : I 0 a w.drew)
    (hstep : ∀ m i a w, m < 2 ^ n → ok m = true → dep i m = true → m.testBit i = false → i ∈ Region.ready .any ops (gArr n m) → I m a w → ∀ K : Act → World → Prop, (∀ a' w', I (m ||| 2 ^ i) a' w' → K a' w') → wpOp P ops Q i K a w)
    (hQ : ∀ a w, I (2 ^ n - 1) a w → Q .normal a w) : (Code.region id ops true).wp P Q a w := by
  have key : ∀ fuel m, m < 2 ^ n → ok m = true → gRank n m + fuel = n → ∀ a w, I m a w → wpAny P .any ops Q fuel (gArr n m) a w := by
    intro fuel
    induction fuel with
    | zero =>
      intro m hm ho hr a w h
      obtain rfl := hall m hm ho (by omega)
      exact ⟨(hend _ hm ho).2 rfl, hQ _ _ h⟩
    | succ fuel ih =>
      intro m hm ho hr a w h
      refine ⟨fun hrd => ?_, fun i hi => ?_⟩
      · obtain rfl := (hend m hm ho).1 hrd
        exact hQ _ _ h
      · obtain ⟨h1, h2, h3, h4, h5, h6⟩ := hready m hm ho i hi
        exact hstep m i a w hm ho h1 h2 hi h _ fun a' w' h' => by rw [h3]; exact ih _ h4 h5 (by omega) a' w' h'
  refine wp_region_any hmo ?_
  rw [← hL]
  exact key _ 0 (Nat.two_pow_pos n) hok (by omega) a _ h0
theorem op_val {P : Program} {ops : Array Oper} {Q : Exit → Act → World → Prop} {i : Nat} {o : Oper} {a : Act} {w w' : World} {K : Act → World → Prop} {v : Value} (ho : ops[i]? = some o) (hg : o.guard = none)
    (hrun : (execOp a.eval o).run P w = .ok (.value v) w') (hK : K (a.put o.dst v) w') : wpOp P ops Q i K a w := by
  unfold wpOp
  rw [ho]
  have hw : Region.wanted o (yielded ops a.tmps) = true := by unfold Region.wanted; rw [hg]
  simp only [hw, if_true]
  refine .inl ?_
  unfold Oper.wp
  rw [hrun]
  exact hK
/-- the frame behind a set of operations: (operation, slot, value) -/
def gFr (L : Nat → Bool) (vs : List (Nat × Nat × Value)) (t : Array Value) : Array Value := puts ((vs.filter fun x => L x.1).map (·.2)) t
theorem gFr_put {vs : List (Nat × Nat × Value)} {L : Nat → Bool} {i s : Nat} {v : Value} (hd : vs.Pairwise fun x y => x.1 ≠ y.1 ∧ x.2.1 ≠ y.2.1) (hx : (i, s, v) ∈ vs) (hL : L i = false) :
    ∀ t, (gFr L vs t).setIfInBounds s v = gFr (fun j => L j || decide (i = j)) vs t := by
  induction vs with
  | nil => simp at hx
  | cons y r ih =>
    intro t
    obtain ⟨hy, hr⟩ := List.pairwise_cons.1 hd
    rcases List.mem_cons.1 hx with rfl | hx
    · have e1 : (fun j => L j || decide (i = j)) i = true := by simp
      have e2 : r.filter (fun x => (fun j => L j || decide (i = j)) x.1) = r.filter fun x => L x.1 := List.filter_congr fun z hz => by
        have := (hy z hz).1
        simp only [decide_eq_false this, Bool.or_false]
      unfold gFr
      rw [List.filter_cons, List.filter_cons, if_neg (by simp [hL]), if_pos e1, e2]
      show (puts _ t).setIfInBounds s v = puts (List.map _ _) (t.setIfInBounds s v)
      rw [puts_comm]
      intro z hz
      obtain ⟨z', hz', rfl⟩ := List.mem_map.1 hz
      exact fun e => (hy z' ((List.mem_filter.1 hz').1)).2 e.symm
    · have hne := (hy _ hx).1
      have e1 : (fun j => L j || decide (i = j)) y.1 = L y.1 := by
        have : ¬ i = y.1 := fun e => hne e.symm
        simp only [decide_eq_false this, Bool.or_false]
      unfold gFr
      rw [List.filter_cons, List.filter_cons]
      simp only [e1]
      cases L y.1
      · simp only [Bool.false_eq_true, if_false]
        exact ih hr hx t
      · simp only [if_true, List.map_cons]
        exact ih hr hx (t.setIfInBounds y.2.1 y.2.2)
theorem gFr_get {vs : List (Nat × Nat × Value)} {L : Nat → Bool} {i s : Nat} {v : Value} (hd : vs.Pairwise fun x y => x.1 ≠ y.1 ∧ x.2.1 ≠ y.2.1) (hx : (i, s, v) ∈ vs) (hL : L i = true) :
    ∀ t : Array Value, s < t.size → (gFr L vs t).getD s undef = v := by
  induction vs with
  | nil => simp at hx
  | cons y r ih =>
    intro t ht
    obtain ⟨hy, hr⟩ := List.pairwise_cons.1 hd
    rcases List.mem_cons.1 hx with rfl | hx
    · unfold gFr
      rw [List.filter_cons]
      simp only [hL, if_true, List.map_cons]
      show (puts _ (t.setIfInBounds s v)).getD s undef = v
      rw [puts_get]
      · rw [Array.getD_eq_getD_getElem?, Array.getElem?_setIfInBounds_self_of_lt ht]; rfl
      · intro z hz
        obtain ⟨z', hz', rfl⟩ := List.mem_map.1 hz
        exact fun e => (hy z' ((List.mem_filter.1 hz').1)).2 e.symm
    · unfold gFr
      rw [List.filter_cons]
      cases L y.1
      · simp only [Bool.false_eq_true, if_false]
        exact ih hr hx t ht
      · simp only [if_true, List.map_cons]
        exact ih hr hx (t.setIfInBounds y.2.1 y.2.2) (by simpa using ht)
theorem gFr_out {vs : List (Nat × Nat × Value)} {L : Nat → Bool} {s : Nat} (hn : ∀ x ∈ vs, x.2.1 ≠ s) (t : Array Value) : (gFr L vs t).getD s undef = t.getD s undef := by
  unfold gFr
  refine puts_get fun z hz => ?_
  obtain ⟨z', hz', rfl⟩ := List.mem_map.1 hz
  exact hn z' ((List.mem_filter.1 hz').1)
/-- what is not listed may be any value -/
theorem gFr_ext {vs vs' : List (Nat × Nat × Value)} {L : Nat → Bool} (h : vs.filter (fun x => L x.1) = vs'.filter fun x => L x.1) (t : Array Value) : gFr L vs t = gFr L vs' t := by unfold gFr; rw [h]
theorem bit_or11 (m i j : Nat) : (m ||| 2 ^ i).testBit j = (m.testBit j || decide (i = j)) := by rw [Nat.testBit_or, Nat.testBit_two_pow]
theorem gAct_put {vs : List (Nat × Nat × Value)} {m i s : Nat} {v : Value} {t : Array Value} (hd : vs.Pairwise fun x y => x.1 ≠ y.1 ∧ x.2.1 ≠ y.2.1) (hx : (i, s, v) ∈ vs) (hL : m.testBit i = false) :
    ({ tmps := gFr (fun j => m.testBit j) vs t, defers := [] } : Act).put (some s) v = { tmps := gFr (fun j => (m ||| 2 ^ i).testBit j) vs t, defers := [] } := by
  unfold Act.put
  dsimp only
  rw [gFr_put (L := fun j => m.testBit j) hd hx hL]
  simp only [bit_or11]
end Go.Proofs.Ytdcgfhenlddmeaa
namespace Go.Proofs.Ytdcgfhenlddmeaa
open Go.RowKit
set_option maxHeartbeats 6400000

theorem run_bs0 {ρ : Operand → Value} (W : World) {o : Oper} (hop : o.op = .buildSlice 22 0 #[]) : (execOp ρ o).run Try.prog W = .ok (.value (.slice (some ⟨W.heap.size, 0, none⟩) 0 0)) (W.alloc (.cells #[] 3)) := by
  simp [execOp, hop, go_sem]
theorem run_bs1 {ρ : Operand → Value} (hc : ∀ v, ρ (.const v) = v) (W : World) {o : Oper} (hop : o.op = .buildSlice 22 1 #[(0, .const (.int .i64 1))]) : (execOp ρ o).run Try.prog W = .ok (.value (.slice (some ⟨W.heap.size, 0, none⟩) 1 1)) (W.alloc (.cells #[.int .i64 1] 3)) := by
  simp [execOp, hop, go_sem, hc]
theorem run_al (ρ : Operand → Value) (W : World) {o : Oper} (hop : o.op = .alloc 28) : (execOp ρ o).run Try.prog W = .ok (.value (.pointer (some ⟨W.heap.size, 0, none⟩))) (W.alloc (.cells #[.slice none 0 0, .int .i64 0, .int .i64 0, .slice none 0 0, .slice none 0 0, .bool false] 28)) := by
  simp [execOp, hop, go_sem]
theorem run_bd {ρ : Operand → Value} {x y : Operand} {g m e : Nat} {k t : Int} {A A' : Option Addr} {ka c na c' : Nat} {h : Bool} (W : World) {o : Oper} (hop : o.op = .build 28 #[(0, x), (1, y)]) (hx : ρ x = .slice (some ⟨g, 0, none⟩) m e) (hy : ρ y = .agg #[.int .i64 k, .int .i64 t, .slice A ka c, .slice A' na c', .bool h]) : (execOp ρ o).run Try.prog W = .ok (.value (.agg #[.slice (some ⟨g, 0, none⟩) m e, .int .i64 k, .int .i64 t, .slice A ka c, .slice A' na c', .bool h])) W := by
  simp [execOp, hop, go_sem, hx, hy]
theorem run_st {ρ : Operand → Value} {x y : Operand} {B g m e : Nat} {k t : Int} {A A' : Option Addr} {ka c na c' : Nat} {h : Bool} {W : World} {o : Oper} (hop : o.op = .store 28 x y) (hx : ρ x = .pointer (some ⟨B, 0, none⟩)) (hy : ρ y = .agg #[.slice (some ⟨g, 0, none⟩) m e, .int .i64 k, .int .i64 t, .slice A ka c, .slice A' na c', .bool h]) (hl : Lies W B 28 [.slice none 0 0, .int .i64 0, .int .i64 0, .slice none 0 0, .slice none 0 0, .bool false]) :
    (execOp ρ o).run Try.prog W = .ok .skip (setCells W B 0 [.slice (some ⟨g, 0, none⟩) m e, .int .i64 k, .int .i64 t, .slice A ka c, .slice A' na c', .bool h]) := by
  have z0 := hl.cell (i := 0) rfl
  have z1 := hl.cell (i := 1) rfl
  have z2 := hl.cell (i := 2) rfl
  have z3 := hl.cell (i := 3) rfl
  have z4 := hl.cell (i := 4) rfl
  have z5 := hl.cell (i := 5) rfl
  have f0 := hl.free 0
  have f1 := hl.free 1
  have f2 := hl.free 2
  have f3 := hl.free 3
  have f4 := hl.free 4
  have f5 := hl.free 5
  simp [execOp, hop, go_sem, hx, hy, setCells, z0, z1, z2, z3, z4, z5, f0, f1, f2, f3, f4, f5]
theorem run_ld (ρ : Operand → Value) {x : Operand} {X : Addr} {A : Option Addr} {n c : Nat} {W : World} {o : Oper} (hop : o.op = .load 22 x) (hx : ρ x = .pointer (some X)) (hl : W.cell? X = some (.slice A n c)) : (execOp ρ o).run Try.prog W = .ok (.value (.slice A n c)) W := by
  simp [execOp, hop, go_sem, hx, hl]
theorem run_ldt (ρ : Operand → Value) {x : Operand} {B : Nat} {k t : Int} {A A' : Option Addr} {ka c na c' : Nat} {h : Bool} {v : Value} {W : World} {o : Oper} (hop : o.op = .load 26 x) (hx : ρ x = .pointer (some ⟨B, 1, none⟩)) (hl : Lies W B 28 [v, .int .i64 k, .int .i64 t, .slice A ka c, .slice A' na c', .bool h]) : (execOp ρ o).run Try.prog W = .ok (.value (.agg #[.int .i64 k, .int .i64 t, .slice A ka c, .slice A' na c', .bool h])) W := by
  have z1 := hl.cell (i := 1) rfl
  have z2 := hl.cell (i := 2) rfl
  have z3 := hl.cell (i := 3) rfl
  have z4 := hl.cell (i := 4) rfl
  have z5 := hl.cell (i := 5) rfl
  simp [execOp, hop, go_sem, hx, z1, z2, z3, z4, z5]
theorem run_f0 (ρ : Operand → Value) {x : Operand} {B : Nat} (W : World) {o : Oper} (hop : o.op = .fieldAddr 28 x 0) (hx : ρ x = .pointer (some ⟨B, 0, none⟩)) : (execOp ρ o).run Try.prog W = .ok (.value (.pointer (some ⟨B, 0, none⟩))) W := by
  simp [execOp, hop, go_sem, hx]
theorem run_f1 (ρ : Operand → Value) {x : Operand} {B : Nat} (W : World) {o : Oper} (hop : o.op = .fieldAddr 28 x 1) (hx : ρ x = .pointer (some ⟨B, 0, none⟩)) : (execOp ρ o).run Try.prog W = .ok (.value (.pointer (some ⟨B, 1, none⟩))) W := by
  simp [execOp, hop, go_sem, hx]
theorem run_ap (ρ : Operand → Value) {x y : Operand} {v u v' : Value} {W w' : World} {o : Oper} (hop : o.op = Op.call { callee := Callee.builtin Builtin.append, args := #[x, y], argTypes := #[22, 22] }) (hx : ρ x = v) (hy : ρ y = u) (hrun : (Builtin.append_ #[22, 22] o.type #[v, u]).run Try.prog W = .ok v' w') : (execOp ρ o).run Try.prog W = .ok (.value v') w' := by
  simp [execOp, hop, resolve, invoke, builtin, hx, hy, hrun, Result.andThen]

theorem own_ne_lies {w : World} {base n s B : Nat} {v : Value} {xs cs : List Value} {E T : TypeId} (h : w.ownsRow base E s v n xs) (hl : Lies w B T cs) (hne : E ≠ T) : v.ownBlock ≠ some B := by
  intro e
  rcases h.2 with ⟨hv, _⟩ | ⟨g, cap, cur, hv, _, hgc, _⟩
  · rw [hv] at e; simp [Value.ownBlock] at e
  · rw [hv] at e
    obtain rfl := Option.some.inj e
    unfold Lies at hl
    rw [hgc] at hl
    simp only [Option.some.injEq, Obj.cells.injEq] at hl
    exact hne hl.2.1
theorem own_blk {w w' : World} {base n s : Nat} {v : Value} {xs : List Value} {E : TypeId} (h : w.ownsRow base E s v n xs) (hb : ∀ k, v.ownBlock = some k → w'.heap[k]? = w.heap[k]?) : w'.ownsRow base E s v n xs := by
  refine ⟨h.1, ?_⟩
  rcases h.2 with h | ⟨g', cap', cur, hv, hbg, hgc, rest⟩
  · exact .inl h
  · exact .inr ⟨g', cap', cur, hv, hbg, (hb g' (by rw [hv]; rfl)).trans hgc, rest⟩
theorem filt_same {L : Nat → Bool} {x : Nat × Nat × Value} {r r' : List (Nat × Nat × Value)} (h : r.filter (fun x => L x.1) = r'.filter fun x => L x.1) : (x :: r).filter (fun x => L x.1) = (x :: r').filter fun x => L x.1 := by
  rw [List.filter_cons, List.filter_cons, h]
theorem filt_drop {L : Nat → Bool} {x y : Nat × Nat × Value} {r r' : List (Nat × Nat × Value)} (hx : L x.1 = false) (hy : L y.1 = false) (h : r.filter (fun x => L x.1) = r'.filter fun x => L x.1) : (x :: r).filter (fun x => L x.1) = (y :: r').filter fun x => L x.1 := by
  rw [List.filter_cons, List.filter_cons, if_neg (by simp [hx]), if_neg (by simp [hy]), h]
theorem op_skip {P : Program} {ops : Array Oper} {Q : Exit → Act → World → Prop} {i : Nat} {o : Oper} {a : Act} {w w' : World} {K : Act → World → Prop} (ho : ops[i]? = some o) (hg : o.guard = none)
    (hrun : (execOp a.eval o).run P w = .ok .skip w') (hK : K (a.put o.dst undef) w') : wpOp P ops Q i K a w := by
  unfold wpOp
  rw [ho]
  have hw : Region.wanted o (yielded ops a.tmps) = true := by unfold Region.wanted; rw [hg]
  simp only [hw, if_true]
  refine .inl ?_
  unfold Oper.wp
  rw [hrun]
  exact hK
/-- what comes of the region's operations -/
structure PG where
  e0 : Nat
  e1 : Value
  g1 : Nat
  g2 : Nat
  c2 : Nat
  B : Nat
def partsVs (qb : Nat) (ca : Addr) (n cc : Nat) (k t : Int) (A A' : Option Addr) (ka c na c' : Nat) (hh : Bool) (G : PG) : List (Nat × Nat × Value) :=
  [(0, 33, .slice (some ⟨G.e0, 0, none⟩) 0 0), (1, 34, .pointer (some ⟨qb, 0, none⟩)), (2, 35, .slice (some ca) n cc), (3, 36, G.e1), (4, 37, .slice (some ⟨G.g1, 0, none⟩) 1 1), (5, 38, .slice (some ⟨G.g2, 0, none⟩) (n + 1) G.c2), (6, 39, .pointer (some ⟨qb, 1, none⟩)), (7, 40, .agg #[.int .i64 k, .int .i64 t, .slice A ka c, .slice A' na c', .bool hh]), (8, 41, .agg #[.slice (some ⟨G.g2, 0, none⟩) (n + 1) G.c2, .int .i64 k, .int .i64 t, .slice A ka c, .slice A' na c', .bool hh]), (9, 4, .pointer (some ⟨G.B, 0, none⟩))]
theorem partsVs_apart (qb : Nat) (ca : Addr) (n cc : Nat) (k t : Int) (A A' : Option Addr) (ka c na c' : Nat) (hh : Bool) (G : PG) : (partsVs qb ca n cc k t A A' ka c na c' hh G).Pairwise fun x y => x.1 ≠ y.1 ∧ x.2.1 ≠ y.2.1 := by
  simp [partsVs]
theorem partsVs_one (qb : Nat) (ca : Addr) (n cc : Nat) (k t : Int) (A A' : Option Addr) (ka c na c' : Nat) (hh : Bool) (G : PG) : ∀ x ∈ partsVs qb ca n cc k t A A' ka c na c' hh G, x.2.1 ≠ 1 := by
  intro x hx
  simp only [partsVs, List.mem_cons, List.not_mem_nil, or_false] at hx
  rcases hx with rfl | rfl | rfl | rfl | rfl | rfl | rfl | rfl | rfl | rfl <;> (dsimp only; omega)
theorem partsVs_ten (qb : Nat) (ca : Addr) (n cc : Nat) (k t : Int) (A A' : Option Addr) (ka c na c' : Nat) (hh : Bool) (G : PG) : ∀ x ∈ partsVs qb ca n cc k t A A' ka c na c' hh G, x.1 ≠ 10 := by
  intro x hx
  simp only [partsVs, List.mem_cons, List.not_mem_nil, or_false] at hx
  rcases hx with rfl | rfl | rfl | rfl | rfl | rfl | rfl | rfl | rfl | rfl <;> (dsimp only; omega)
theorem gFr_none {vs : List (Nat × Nat × Value)} {m i : Nat} (h : ∀ x ∈ vs, x.1 ≠ i) (t : Array Value) : gFr (fun j => m.testBit j) vs t = gFr (fun j => (m ||| 2 ^ i).testBit j) vs t := by
  unfold gFr
  have e : vs.filter (fun x => (fun j => m.testBit j) x.1) = vs.filter (fun x => (fun j => (m ||| 2 ^ i).testBit j) x.1) := List.filter_congr fun x hx => by
    show m.testBit x.1 = (m ||| 2 ^ i).testBit x.1
    rw [bit_or11, decide_eq_false (fun e => h x hx e.symm), Bool.or_false]
  rw [e]
def partsDep (i m : Nat) : Bool :=
  match i with
  | 0 => !m.testBit 3 && !m.testBit 5
  | 1 => !m.testBit 2
  | 2 => m.testBit 1 && !m.testBit 3
  | 3 => m.testBit 0 && m.testBit 2 && !m.testBit 5
  | 4 => !m.testBit 5
  | 5 => m.testBit 3 && m.testBit 4 && !m.testBit 8 && !m.testBit 10
  | 6 => !m.testBit 7
  | 7 => m.testBit 6 && !m.testBit 8
  | 8 => m.testBit 5 && m.testBit 7 && !m.testBit 10
  | 9 => !m.testBit 10
  | 10 => m.testBit 8 && m.testBit 9 && m.testBit 5 && m.testBit 3
  | _ => false
def partsOk (m : Nat) : Bool := (!m.testBit 2 || m.testBit 1) && (!m.testBit 3 || (m.testBit 0 && m.testBit 2)) && (!m.testBit 5 || (m.testBit 3 && m.testBit 4)) && (!m.testBit 7 || m.testBit 6) && (!m.testBit 8 || (m.testBit 5 && m.testBit 7)) && (!m.testBit 10 || (m.testBit 8 && m.testBit 9))
section
variable {W1 : World} {l : List Int} {qb : Nat} {ca : Addr} {n cc : Nat} {k t : Int} {A A' : Option Addr} {ka c na c' : Nat} {hh : Bool}
/-- what lies behind a set of the region's operations -/
structure PMem (W1 : World) (l : List Int) (n : Nat) (k t : Int) (A A' : Option Addr) (ka c na c' : Nat) (hh : Bool) (m : Nat) (G : PG) (W : World) : Prop where
  hb : Below W1.heap.size W1 W
  r0 : m.testBit 0 = true → m.testBit 3 = false → W.ownsRow W1.heap.size 3 1 (.slice (some ⟨G.e0, 0, none⟩) 0 0) 0 []
  r1 : m.testBit 3 = true → m.testBit 5 = false → W.ownsRow W1.heap.size 3 1 G.e1 n (l.map (Value.int .i64))
  r2 : m.testBit 5 = true → W.ownsRow W1.heap.size 3 1 (.slice (some ⟨G.g2, 0, none⟩) (n + 1) G.c2) (n + 1) ((l ++ [1]).map (Value.int .i64))
  one : m.testBit 4 = true → m.testBit 5 = false → Lies W G.g1 3 [.int .i64 1]
  s0 : m.testBit 0 = true → m.testBit 4 = true → m.testBit 3 = false → G.e0 ≠ G.g1
  s1 : m.testBit 3 = true → m.testBit 4 = true → m.testBit 5 = false → G.e1.ownBlock ≠ some G.g1
  bx : m.testBit 9 = true → W1.heap.size ≤ G.B ∧ Lies W G.B 28 (if m.testBit 10 then [.slice (some ⟨G.g2, 0, none⟩) (n + 1) G.c2, .int .i64 k, .int .i64 t, .slice A ka c, .slice A' na c', .bool hh] else [.slice none 0 0, .int .i64 0, .int .i64 0, .slice none 0 0, .slice none 0 0, .bool false])
theorem PMem.look {m i : Nat} {G : PG} {W : World} (h : PMem W1 l n k t A A' ka c na c' hh m G W) (hi : i ≠ 0 ∧ i ≠ 3 ∧ i ≠ 4 ∧ i ≠ 5 ∧ i ≠ 9 ∧ i ≠ 10) : PMem W1 l n k t A A' ka c na c' hh (m ||| 2 ^ i) G W := by
  obtain ⟨i0, i3, i4, i5, i9, i10⟩ := hi
  have b := fun j (hj : i ≠ j) => (show (m ||| 2 ^ i).testBit j = m.testBit j by rw [bit_or11, decide_eq_false hj, Bool.or_false])
  refine ⟨h.hb, ?_, ?_, ?_, ?_, ?_, ?_, ?_⟩
  · rw [b 0 i0, b 3 i3]; exact h.r0
  · rw [b 3 i3, b 5 i5]; exact h.r1
  · rw [b 5 i5]; exact h.r2
  · rw [b 4 i4, b 5 i5]; exact h.one
  · rw [b 0 i0, b 4 i4, b 3 i3]; exact h.s0
  · rw [b 3 i3, b 4 i4, b 5 i5]; exact h.s1
  · rw [b 9 i9, b 10 i10]; exact h.bx
end
set_option maxRecDepth 100000 in
theorem parts_region {id : Nat} {Q : Exit → Act → World → Prop} {ops : Array Oper} {x0 x1 x2 x3 x4 x5 x6 x7 x8 x9 x10 : Oper}
    (h0 : ops[0]? = some x0) (d0 : x0.dst = some 33) (p0 : x0.op = .buildSlice 22 0 #[]) (g0 : x0.guard = none)
    (h1 : ops[1]? = some x1) (d1 : x1.dst = some 34) (p1 : x1.op = .fieldAddr 28 (.tmp 1) 0) (g1 : x1.guard = none)
    (h2 : ops[2]? = some x2) (d2 : x2.dst = some 35) (p2 : x2.op = .load 22 (.tmp 34)) (g2 : x2.guard = none)
    (h3 : ops[3]? = some x3) (d3 : x3.dst = some 36) (p3 : x3.op = .call { callee := .builtin .append, args := #[.tmp 33, .tmp 35], argTypes := #[22, 22] }) (g3 : x3.guard = none)
    (h4 : ops[4]? = some x4) (d4 : x4.dst = some 37) (p4 : x4.op = .buildSlice 22 1 #[(0, .const (.int .i64 1))]) (g4 : x4.guard = none)
    (h5 : ops[5]? = some x5) (d5 : x5.dst = some 38) (p5 : x5.op = .call { callee := .builtin .append, args := #[.tmp 36, .tmp 37], argTypes := #[22, 22] }) (g5 : x5.guard = none)
    (h6 : ops[6]? = some x6) (d6 : x6.dst = some 39) (p6 : x6.op = .fieldAddr 28 (.tmp 1) 1) (g6 : x6.guard = none)
    (h7 : ops[7]? = some x7) (d7 : x7.dst = some 40) (p7 : x7.op = .load 26 (.tmp 39)) (g7 : x7.guard = none)
    (h8 : ops[8]? = some x8) (d8 : x8.dst = some 41) (p8 : x8.op = .build 28 #[(0, .tmp 38), (1, .tmp 40)]) (g8 : x8.guard = none)
    (h9 : ops[9]? = some x9) (d9 : x9.dst = some 4) (p9 : x9.op = .alloc 28) (g9 : x9.guard = none)
    (h10 : ops[10]? = some x10) (d10 : x10.dst = none) (p10 : x10.op = .store 28 (.tmp 4) (.tmp 41)) (g10 : x10.guard = none)
    (hsize : ops.size = 11) (hready : ∀ m, m < 2 ^ 11 → partsOk m = true → ∀ i ∈ Region.ready .any ops (gArr 11 m), partsDep i m = true ∧ m.testBit i = false ∧ (gArr 11 m).setIfInBounds i true = gArr 11 (m ||| 2 ^ i) ∧ m ||| 2 ^ i < 2 ^ 11 ∧ partsOk (m ||| 2 ^ i) = true ∧ gRank 11 (m ||| 2 ^ i) = gRank 11 m + 1)
    (hend : ∀ m, m < 2 ^ 11 → partsOk m = true → (Region.ready .any ops (gArr 11 m) = [] ↔ m = 2 ^ 11 - 1))
    (tm : Array Value) (W1 : World) (l : List Int) (qb : Nat) (ca : Addr) (n cc : Nat) (k t : Int) (A A' : Option Addr) (ka c na c' : Nat) (hh : Bool) (ht1 : tm.getD 1 undef = .pointer (some ⟨qb, 0, none⟩)) (hts : 42 ≤ tm.size)
    (hn : n = l.length) (hn64 : n ≤ 64) (hq : Lies W1 qb 28 [.slice (some ca) n cc, .int .i64 k, .int .i64 t, .slice A ka c, .slice A' na c', .bool hh]) (hsl : Sl W1 (.slice (some ca) n cc) (l.map (Value.int .i64)))
    (hQ : ∀ (G : PG) W, Below W1.heap.size W1 W → Lies W G.B 28 [.slice (some ⟨G.g2, 0, none⟩) (n + 1) G.c2, .int .i64 k, .int .i64 t, .slice A ka c, .slice A' na c', .bool hh] → Sl W (.slice (some ⟨G.g2, 0, none⟩) (n + 1) G.c2) ((l ++ [1]).map (Value.int .i64)) → Q .normal { tmps := gFr (fun j => (2 ^ 11 - 1).testBit j) (partsVs qb ca n cc k t A A' ka c na c' hh G) tm, defers := [] } W) :
    (Code.region id ops true).wp Try.prog Q { tmps := tm, defers := [] } W1 := by
  obtain ⟨i0, hi, hz0, hz1, hz2⟩ := info_parts Try.infoInt
  refine wp_region_inv (by kernel_rfl) 11 partsDep partsOk (fun m a W => ∃ G, a = { tmps := gFr (fun j => m.testBit j) (partsVs qb ca n cc k t A A' ka c na c' hh G) tm, defers := [] } ∧ PMem W1 l n k t A A' ka c na c' hh m G W) hsize (by rw [hsize]; rfl) rfl rfl hready hend (by decide +kernel) ?h0 ?hstep ?hQ
  case h0 =>
    refine ⟨⟨0, .slice none 0 0, 0, 0, 0, 0⟩, ?_, (Below.refl _ _).drew, ?_, ?_, ?_, ?_, ?_, ?_, ?_⟩
    · show _ = ({ tmps := gFr (fun j => (0 : Nat).testBit j) _ tm, defers := [] } : Act)
      unfold gFr
      rw [List.filter_eq_nil_iff.2 (fun x _ => by simp)]
      rfl
    all_goals (intro h; simp at h)
  case hQ =>
    rintro a W ⟨G, rfl, hM⟩
    have hb9 := hM.bx (by decide)
    exact hQ G W hM.hb (by have := hb9.2; rwa [if_pos (by decide)] at this) (by have := Sl.own (hM.r2 (by decide)); exact this)
  case hstep =>
    rintro m i a W hm hok hdep hbit hrd ⟨G, rfl, hM⟩ K hK
    have get := fun (j s : Nat) (v : Value) (hv : (j, s, v) ∈ partsVs qb ca n cc k t A A' ka c na c' hh G) (hj : m.testBit j = true) (hs : s < 42) => (show ({ tmps := gFr (fun j => m.testBit j) (partsVs qb ca n cc k t A A' ka c na c' hh G) tm, defers := [] } : Act).eval (.tmp s) = v from gFr_get (partsVs_apart qb ca n cc k t A A' ka c na c' hh G) hv hj tm (by omega))
    have get1 : ({ tmps := gFr (fun j => m.testBit j) (partsVs qb ca n cc k t A A' ka c na c' hh G) tm, defers := [] } : Act).eval (.tmp 1) = .pointer (some ⟨qb, 0, none⟩) := (gFr_out (partsVs_one qb ca n cc k t A A' ka c na c' hh G) tm).trans ht1
    have b := fun (i j : Nat) (hj : i ≠ j) => (show (m ||| 2 ^ i).testBit j = m.testBit j by rw [bit_or11, decide_eq_false hj, Bool.or_false])
    have bs := fun (i : Nat) => (show (m ||| 2 ^ i).testBit i = true by rw [bit_or11]; simp)
    have hi11 : i < 11 := by
      by_cases h : i < 11
      · exact h
      · exfalso
        unfold partsDep at hdep
        split at hdep <;> first | omega | simp at hdep
    rcases (show i = 0 ∨ i = 1 ∨ i = 2 ∨ i = 3 ∨ i = 4 ∨ i = 5 ∨ i = 6 ∨ i = 7 ∨ i = 8 ∨ i = 9 ∨ i = 10 by omega) with rfl | rfl | rfl | rfl | rfl | rfl | rfl | rfl | rfl | rfl | rfl
    · -- []int{}
      simp only [partsDep, Bool.and_eq_true, Bool.not_eq_true'] at hdep
      obtain ⟨n3, n5⟩ := hdep
      refine op_val h0 g0 (run_bs0 W p0) (hK _ _ ⟨{ G with e0 := W.heap.size }, ?_, ?_⟩)
      · rw [d0, gFr_ext (L := fun j => m.testBit j) (vs := partsVs qb ca n cc k t A A' ka c na c' hh G) (vs' := partsVs qb ca n cc k t A A' ka c na c' hh { G with e0 := W.heap.size }) (filt_drop hbit hbit rfl)]
        exact gAct_put (partsVs_apart qb ca n cc k t A A' ka c na c' hh _) (by simp [partsVs]) hbit
      · refine ⟨hM.hb.alloc hM.hb.size _, ?_, ?_, ?_, ?_, ?_, ?_, ?_⟩
        · intro _ _; exact own_empty W 3 1 W1.heap.size hM.hb.size W.heap.size rfl
        · rw [b 0 3 (by decide)]; intro h; rw [n3] at h; simp at h
        · rw [b 0 5 (by decide)]; intro h; rw [n5] at h; simp at h
        · rw [b 0 4 (by decide), b 0 5 (by decide)]; intro h1 h2; exact (hM.one h1 h2).alloc _
        · rw [b 0 4 (by decide)]; intro _ h4 _ e; have := (hM.one h4 n5).lt; dsimp only at e; omega
        · rw [b 0 3 (by decide)]; intro h; rw [n3] at h; simp at h
        · rw [b 0 9 (by decide), b 0 10 (by decide)]; intro h; exact ⟨(hM.bx h).1, (hM.bx h).2.alloc _⟩
    · refine op_val h1 g1 (run_f0 _ W p1 get1) (hK _ _ ⟨G, ?_, hM.look (by decide)⟩)
      rw [d1]; exact gAct_put (partsVs_apart qb ca n cc k t A A' ka c na c' hh _) (by simp [partsVs]) hbit
    · simp only [partsDep, Bool.and_eq_true, Bool.not_eq_true'] at hdep
      refine op_val h2 g2 (run_ld _ p2 (get 1 34 _ (by simp [partsVs]) hdep.1 (by omega)) ((hq.below hM.hb hq.lt).cell (i := 0) rfl)) (hK _ _ ⟨G, ?_, hM.look (by decide)⟩)
      rw [d2]; exact gAct_put (partsVs_apart qb ca n cc k t A A' ka c na c' hh _) (by simp [partsVs]) hbit
    · -- append of what came
      simp only [partsDep, Bool.and_eq_true, Bool.not_eq_true'] at hdep
      obtain ⟨⟨y0, y2⟩, n5⟩ := hdep
      have hro := hM.r0 y0 hbit
      obtain ⟨v', w', hrun, hown, hgr, hwh⟩ := run_append_sep (P := Try.prog) W W1.heap.size 22 x3.type 3 i0 (.int .i64 0) 1 8 Try.underlying22 hi hz0 hz1 hz2 rfl (by decide) _ 0 [] hro ca n cc (l.map (Value.int .i64)) (by simp [hn]) (fun j u hj => by
          obtain ⟨A0, c0, hv, _, hx⟩ := hsl
          cases hv
          obtain ⟨bb, oo, pp, hA, _, hcell⟩ := hx j u hj
          cases hA
          exact (hM.hb.cell (block_lt_of_cell hcell)).trans hcell) (by intro u hu; obtain ⟨z, _, rfl⟩ := List.mem_map.1 hu; rfl) (by unfold maxLen; omega) (by omega) hM.hb.size
      refine op_val h3 g3 (run_ap _ p3 (get 0 33 _ (by simp [partsVs]) y0 (by omega)) (get 2 35 _ (by simp [partsVs]) y2 (by omega)) hrun) (hK _ _ ⟨{ G with e1 := v' }, ?_, ?_⟩)
      · rw [d3, gFr_ext (L := fun j => m.testBit j) (vs := partsVs qb ca n cc k t A A' ka c na c' hh G) (vs' := partsVs qb ca n cc k t A A' ka c na c' hh { G with e1 := v' }) (filt_same (filt_same (filt_same (filt_drop hbit hbit rfl))))]
        exact gAct_put (partsVs_apart qb ca n cc k t A A' ka c na c' hh _) (by simp [partsVs]) hbit
      · have hge : W1.heap.size ≤ G.e0 := (hro.lt G.e0 rfl).1
        refine ⟨hM.hb.grown hgr hM.hb.size (fun k hk => by cases hk; exact hge), ?_, ?_, ?_, ?_, ?_, ?_, ?_⟩
        · rw [bs 3]; intro _ h; simp at h
        · intro _ _; simpa using hown
        · rw [b 3 5 (by decide)]; intro h; rw [n5] at h; simp at h
        · rw [b 3 4 (by decide)]; intro h4 _
          exact (hgr.block _ (hM.one h4 n5).lt (fun e => hM.s0 y0 h4 hbit (Option.some.inj e).symm)).trans (hM.one h4 n5)
        · rw [bs 3]; intro _ _ h; simp at h
        · rw [b 3 4 (by decide)]; intro _ h4 _ e
          dsimp only at e
          rcases hwh with hw | ⟨gg, hw, hge2⟩
          · rw [hw] at e; exact hM.s0 y0 h4 hbit (Option.some.inj e)
          · rw [hw] at e; have := (hM.one h4 n5).lt; have := Option.some.inj e; omega
        · rw [b 3 9 (by decide), b 3 10 (by decide)]; intro h9
          obtain ⟨q1, q2⟩ := hM.bx h9
          exact ⟨q1, (hgr.block _ q2.lt (fun e => own_ne_lies hro q2 (by decide) e.symm)).trans q2⟩
    · -- []int{1}
      simp only [partsDep, Bool.not_eq_true'] at hdep
      refine op_val h4 g4 (run_bs1 (fun _ => rfl) W p4) (hK _ _ ⟨{ G with g1 := W.heap.size }, ?_, ?_⟩)
      · rw [d4, gFr_ext (L := fun j => m.testBit j) (vs := partsVs qb ca n cc k t A A' ka c na c' hh G) (vs' := partsVs qb ca n cc k t A A' ka c na c' hh { G with g1 := W.heap.size }) (filt_same (filt_same (filt_same (filt_same (filt_drop hbit hbit rfl)))))]
        exact gAct_put (partsVs_apart qb ca n cc k t A A' ka c na c' hh _) (by simp [partsVs]) hbit
      · refine ⟨hM.hb.alloc hM.hb.size _, ?_, ?_, ?_, ?_, ?_, ?_, ?_⟩
        · rw [b 4 0 (by decide), b 4 3 (by decide)]; intro q1 q2; exact (hM.r0 q1 q2).alloc _
        · rw [b 4 3 (by decide), b 4 5 (by decide)]; intro q1 q2; exact (hM.r1 q1 q2).alloc _
        · rw [b 4 5 (by decide)]; intro h; rw [hdep] at h; simp at h
        · intro _ _; exact Lies.new W _ _
        · rw [b 4 0 (by decide), b 4 3 (by decide)]; intro q1 _ q2 e; dsimp only at e; have := ((hM.r0 q1 q2).lt G.e0 rfl).2; omega
        · rw [b 4 3 (by decide), b 4 5 (by decide)]; intro q1 _ q2 e; dsimp only at e; have := ((hM.r1 q1 q2).lt _ e).2; omega
        · rw [b 4 9 (by decide), b 4 10 (by decide)]; intro h; exact ⟨(hM.bx h).1, (hM.bx h).2.alloc _⟩
    · -- append of 1
      simp only [partsDep, Bool.and_eq_true, Bool.not_eq_true'] at hdep
      obtain ⟨⟨⟨y3, y4⟩, n8⟩, n10⟩ := hdep
      have hro := hM.r1 y3 hbit
      have hone := hM.one y4 hbit
      obtain ⟨v', w', hrun, hown, hgr, hwh⟩ := run_append_sep (P := Try.prog) W W1.heap.size 22 x5.type 3 i0 (.int .i64 0) 1 8 Try.underlying22 hi hz0 hz1 hz2 rfl (by decide) _ n _ hro ⟨G.g1, 0, none⟩ 1 1 [.int .i64 1] (by simp) (fun j u hj => by
          rw [add_from5]; exact hone.cell hj) (by intro u hu; rw [List.mem_singleton.1 hu]; rfl) (by unfold maxLen; omega) (by omega) hM.hb.size
      obtain ⟨gg, cap, rfl⟩ := ownsRow_succ hown
      refine op_val h5 g5 (run_ap _ p5 (get 3 36 _ (by simp [partsVs]) y3 (by omega)) (get 4 37 _ (by simp [partsVs]) y4 (by omega)) hrun) (hK _ _ ⟨{ G with g2 := gg, c2 := cap }, ?_, ?_⟩)
      · rw [d5, gFr_ext (L := fun j => m.testBit j) (vs := partsVs qb ca n cc k t A A' ka c na c' hh G) (vs' := partsVs qb ca n cc k t A A' ka c na c' hh { G with g2 := gg, c2 := cap }) (filt_same (filt_same (filt_same (filt_same (filt_same (filt_drop hbit hbit (filt_same (filt_same (filt_drop n8 n8 rfl)))))))))]
        exact gAct_put (partsVs_apart qb ca n cc k t A A' ka c na c' hh _) (by simp [partsVs]) hbit
      · refine ⟨hM.hb.grown hgr hM.hb.size (fun k hk => (hro.lt k hk).1), ?_, ?_, ?_, ?_, ?_, ?_, ?_⟩
        · rw [b 5 3 (by decide)]; intro _ h; rw [y3] at h; simp at h
        · rw [bs 5]; intro _ h; simp at h
        · intro _; simpa using hown
        · rw [bs 5]; intro _ h; simp at h
        · rw [b 5 3 (by decide)]; intro _ _ h; rw [y3] at h; simp at h
        · rw [bs 5]; intro _ _ h; simp at h
        · rw [b 5 9 (by decide), b 5 10 (by decide), n10]; intro h9
          obtain ⟨q1, q2⟩ := hM.bx h9
          rw [n10] at q2
          exact ⟨q1, (hgr.block _ q2.lt (fun e => own_ne_lies hro q2 (by decide) e.symm)).trans q2⟩
    · refine op_val h6 g6 (run_f1 _ W p6 get1) (hK _ _ ⟨G, ?_, hM.look (by decide)⟩)
      rw [d6]; exact gAct_put (partsVs_apart qb ca n cc k t A A' ka c na c' hh _) (by simp [partsVs]) hbit
    · simp only [partsDep, Bool.and_eq_true, Bool.not_eq_true'] at hdep
      refine op_val h7 g7 (run_ldt _ p7 (get 6 39 _ (by simp [partsVs]) hdep.1 (by omega)) (hq.below hM.hb hq.lt)) (hK _ _ ⟨G, ?_, hM.look (by decide)⟩)
      rw [d7]; exact gAct_put (partsVs_apart qb ca n cc k t A A' ka c na c' hh _) (by simp [partsVs]) hbit
    · simp only [partsDep, Bool.and_eq_true, Bool.not_eq_true'] at hdep
      refine op_val h8 g8 (run_bd W p8 (get 5 38 (.slice (some ⟨G.g2, 0, none⟩) (n + 1) G.c2) (by simp [partsVs]) hdep.1.1 (by omega)) (get 7 40 (.agg #[.int .i64 k, .int .i64 t, .slice A ka c, .slice A' na c', .bool hh]) (by simp [partsVs]) hdep.1.2 (by omega))) (hK _ _ ⟨G, ?_, hM.look (by decide)⟩)
      rw [d8]; exact gAct_put (partsVs_apart qb ca n cc k t A A' ka c na c' hh _) (by simp [partsVs]) hbit
    · -- the box
      simp only [partsDep, Bool.not_eq_true'] at hdep
      refine op_val h9 g9 (run_al _ W p9) (hK _ _ ⟨{ G with B := W.heap.size }, ?_, ?_⟩)
      · rw [d9, gFr_ext (L := fun j => m.testBit j) (vs := partsVs qb ca n cc k t A A' ka c na c' hh G) (vs' := partsVs qb ca n cc k t A A' ka c na c' hh { G with B := W.heap.size }) (filt_same (filt_same (filt_same (filt_same (filt_same (filt_same (filt_same (filt_same (filt_same (filt_drop hbit hbit rfl))))))))))]
        exact gAct_put (partsVs_apart qb ca n cc k t A A' ka c na c' hh _) (by simp [partsVs]) hbit
      · refine ⟨hM.hb.alloc hM.hb.size _, ?_, ?_, ?_, ?_, ?_, ?_, ?_⟩
        · rw [b 9 0 (by decide), b 9 3 (by decide)]; intro q1 q2; exact (hM.r0 q1 q2).alloc _
        · rw [b 9 3 (by decide), b 9 5 (by decide)]; intro q1 q2; exact (hM.r1 q1 q2).alloc _
        · rw [b 9 5 (by decide)]; intro q1; exact (hM.r2 q1).alloc _
        · rw [b 9 4 (by decide), b 9 5 (by decide)]; intro q1 q2; exact (hM.one q1 q2).alloc _
        · rw [b 9 0 (by decide), b 9 4 (by decide), b 9 3 (by decide)]; exact hM.s0
        · rw [b 9 3 (by decide), b 9 4 (by decide), b 9 5 (by decide)]; exact hM.s1
        · rw [b 9 10 (by decide), hdep]; intro _; exact ⟨hM.hb.size, Lies.new W _ _⟩
    · -- the store
      simp only [partsDep, Bool.and_eq_true] at hdep
      obtain ⟨⟨⟨y8, y9⟩, y5⟩, y3⟩ := hdep
      obtain ⟨q1, q2⟩ := hM.bx y9
      rw [hbit] at q2
      simp only [Bool.false_eq_true, if_false] at q2
      have e4 := get 9 4 (.pointer (some ⟨G.B, 0, none⟩)) (by simp [partsVs]) y9 (by omega)
      have e41 := get 8 41 (.agg #[.slice (some ⟨G.g2, 0, none⟩) (n + 1) G.c2, .int .i64 k, .int .i64 t, .slice A ka c, .slice A' na c', .bool hh]) (by simp [partsVs]) y8 (by omega)
      have hr := run_st p10 e4 e41 q2
      obtain ⟨W', hW'⟩ : ∃ W', W' = setCells W G.B 0 [.slice (some ⟨G.g2, 0, none⟩) (n + 1) G.c2, .int .i64 k, .int .i64 t, .slice A ka c, .slice A' na c', .bool hh] := ⟨_, rfl⟩
      rw [← hW'] at hr
      refine op_skip h10 g10 hr (hK _ _ ⟨G, ?_, ?_⟩)
      · rw [d10]
        show ({ tmps := gFr (fun j => m.testBit j) (partsVs qb ca n cc k t A A' ka c na c' hh G) tm, defers := [] } : Act) = _
        rw [gFr_none (i := 10) (partsVs_ten qb ca n cc k t A A' ka c na c' hh G)]
      · have hot : ∀ k, k ≠ G.B → W'.heap[k]? = W.heap[k]? := fun k hk => by rw [hW']; exact setCells_other _ _ hk _ _ _
        have hr2 := hM.r2 y5
        refine ⟨by rw [hW']; exact Below.sets q1 _ _ hM.hb, ?_, ?_, ?_, ?_, ?_, ?_, ?_⟩
        · rw [b 10 3 (by decide)]; intro _ h; rw [y3] at h; simp at h
        · rw [b 10 5 (by decide)]; intro _ h; rw [y5] at h; simp at h
        · intro _; exact own_blk hr2 fun k hk => hot k (fun e => own_ne_lies hr2 q2 (by decide) (e ▸ hk))
        · rw [b 10 5 (by decide)]; intro _ h; rw [y5] at h; simp at h
        · rw [b 10 3 (by decide)]; intro _ _ h; rw [y3] at h; simp at h
        · rw [b 10 5 (by decide)]; intro _ _ h; rw [y5] at h; simp at h
        · rw [bs 10]; intro _; exact ⟨q1, by rw [hW']; exact q2.sets _ 0⟩
end Go.Proofs.Ytdcgfhenlddmeaa
