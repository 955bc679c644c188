/-
  LAWS OF NO PROGRAM: clear and copy over a block that is known whole; elements of any number of cells.
-/
import Derived.Test.YtghonbnmakggnaaDoorMtaM
import Derived.Test.YtghonbnmakggnaaDoorGBase
import Derived.Laws.CopyOwn
import Derived.Lib.Hide
import Derived.Lib.AppendZerosOnto
namespace Go.Proofs.YtghonbnmakggnaaDoor
open Go Go.RowKit
variable {P : Program}

theorem keeps_setRow (w : World) (g : Nat) (cs : Array Value) : Keeps (fun k => k ≠ g) w (w.setRow g cs) :=
  ⟨rfl, rfl, rfl, by simp [World.setRow], fun k _ hk => setRow_other w g k cs hk⟩
theorem keeps_setCell (w : World) (p : Addr) (u : Value) : Keeps (fun k => k ≠ p.block) w (w.setCell p u) :=
  ⟨rfl, rfl, rfl, by simp, fun k _ hk => Below.heap_setCell w p u k hk⟩
/-- clear of a slice of one-cell elements over a block known whole -/
theorem run_clear_row (w : World) (t e ty : TypeId) (z : Value) (ht : P.underlying t = some (.slice e)) (hv : ∀ w, (zeroValue e).run P w = .ok z w) (hz : z.cells = #[z]) (h1 : z.oneCell' = true)
    (g n c : Nat) (cur : List Value) (T : TypeId) (hg : w.heap[g]? = some (.cells cur.toArray T (0, 0))) (hn : n ≤ cur.length) :
    ∃ w', (Builtin.clear_ #[t] ty #[.slice (some ⟨g, 0, none⟩) n c]).run P w = .ok (.tuple #[]) w' ∧ w'.heap[g]? = some (.cells (List.replicate n z ++ cur.drop n).toArray T (0, 0)) ∧ Keeps (fun k => k ≠ g) w w' ∧ w'.heap.size = w.heap.size := by
  cases n with
  | zero =>
    refine ⟨w, ?_, by simpa using hg, Keeps.refl _ _, rfl⟩
    simp [Builtin.clear_, run_underlying ht]
  | succ n =>
    have hzc : (Builtin.zeroCells z.cells (n + 1)).toList = List.replicate (n + 1) z := by
      refine List.eq_replicate_iff.2 ⟨by simp [Builtin.zeroCells, hz], fun b hb => ?_⟩
      obtain ⟨i, hi, rfl⟩ := List.mem_iff_getElem.1 hb
      simp [Builtin.zeroCells, hz, Nat.mod_one]
    have hst := run_storeCells_at P g 0 T (List.replicate (n + 1) z) 0 cur.toArray w hg (by simpa using hn) (by intro v hv'; rw [List.eq_of_mem_replicate hv']; exact h1)
    have hst' : (storeCells ⟨g, 0, none⟩ (List.replicate (n + 1) z) 0).run P w = .ok () (w.setRow g (List.replicate (n + 1) z ++ cur.drop (n + 1)).toArray) := by
      rw [hst]; simp
    refine ⟨w.setRow g (List.replicate (n + 1) z ++ cur.drop (n + 1)).toArray, ?_, setRow_heap w g _ _ T _ hg, keeps_setRow w g _, by simp [World.setRow]⟩
    simp [Builtin.clear_, run_underlying ht, hv, hzc, hst']
theorem wpList_clear_row (w : World) {ops : Array Oper} {rest : List Oper} {o : Oper} {a : Act} {Q : Exit → Act → World → Prop} (hgd : o.guard = none) (s : Operand) (t : TypeId)
    (ho : o.op = .call { callee := .builtin .clear, args := #[s], argTypes := #[t] }) (e : TypeId) (z : Value) (ht : P.underlying t = some (.slice e)) (hv : ∀ w, (zeroValue e).run P w = .ok z w) (hz : z.cells = #[z]) (h1 : z.oneCell' = true)
    (g n c : Nat) (hs : a.eval s = .slice (some ⟨g, 0, none⟩) n c) (cur : List Value) (T : TypeId) (hg : w.heap[g]? = some (.cells cur.toArray T (0, 0))) (hn : n ≤ cur.length)
    (h : ∀ w', w'.heap[g]? = some (.cells (List.replicate n z ++ cur.drop n).toArray T (0, 0)) → Keeps (fun k => k ≠ g) w w' → w'.heap.size = w.heap.size → wpList P ops Q rest (a.put o.dst (.tuple #[])) w') : wpList P ops Q (o :: rest) a w := by
  refine wpList_plain hgd fun K hK => ?_
  obtain ⟨w', hrun, r1, r2, r3⟩ := run_clear_row (P := P) w t e o.type z ht hv hz h1 g n c cur T hg hn
  unfold Oper.wp
  simp [execOp, ho, resolve, invoke, builtin, hs, hrun, Result.andThen]
  exact hK _ _ (h w' r1 r2 r3)
theorem run_copy_any (w : World) (dT sT ty elem : TypeId) (size : Nat) (hu : P.underlying dT = some (.slice elem)) (hsz : (P.info? elem).map (·.size) = some size)
    (dp sp : Option Addr) (dLen dCap sLen sCap : Nat)
    (g off : Nat) (cur : List Value) (t : TypeId) (hg : w.heap[g]? = some (.cells cur.toArray t (0, 0))) (k : Nat) (hk : k = Nat.min sLen dLen) (cs : List Value) (hn : cs.length = k * size)
    (hpos : 0 < cs.length → dp = some ⟨g, off, none⟩ ∧ ∃ ad, sp = some ad ∧ ∀ j v, cs[j]? = some v → w.cell? (ad.add j) = some v)
    (hs0 : 0 < size) (hfit : off + cs.length ≤ cur.length) (h1 : ∀ v ∈ cs, v.oneCell' = true) :
    ∃ w', (Builtin.copy_ #[dT, sT] ty #[.slice dp dLen dCap, .slice sp sLen sCap]).run P w = .ok (goInt k) w' ∧ w'.heap[g]? = some (.cells (splice cur off cs).toArray t (0, 0)) ∧ Keeps (fun k => k ≠ g) w w' ∧ w'.heap.size = w.heap.size := by
  cases hq : P.info? elem with
  | none => simp [hq] at hsz
  | some i =>
    have hi : i.size = size := by simpa [hq] using hsz
    by_cases h0 : cs.length = 0
    · obtain rfl : cs = [] := List.eq_nil_of_length_eq_zero h0
      have hk0 : k = 0 := by
        rcases Nat.eq_zero_or_pos k with e | e
        · exact e
        · have := Nat.mul_pos e hs0; simp at hn; omega
      refine ⟨w, ?_, by simpa [splice] using hg, Keeps.refl _ _, rfl⟩
      subst hk0
      have hfc : ∀ x : Option Addr, (Builtin.firstCells i.size 0 (.slice x sLen sCap)).run P w = .ok #[] w := fun x => by
        cases x with
        | none => exact run_firstCells_none w i.size 0 sLen sCap
        | some ad => exact run_firstCells_some (P := P) w i.size 0 ad sLen sCap [] (by simp) (by simp)
      cases dp <;> simp [Builtin.copy_, run_underlying hu, Builtin.lenOf, sizeOf, typeInfo, hq, ← hk, hfc, storeCells]
    · obtain ⟨rfl, ad, rfl, hsrc⟩ := hpos (by omega)
      have hl := run_firstCells_some (P := P) w i.size k ad sLen sCap cs (by rw [hi]; exact hn) hsrc
      have hst := run_storeCells_at P g off t cs 0 cur.toArray w hg (by simpa using hfit) h1
      have hst' : (storeCells ⟨g, off, none⟩ cs 0).run P w = .ok () (w.setRow g (splice cur off cs).toArray) := by
        rw [hst]; simp [splice]
      refine ⟨w.setRow g (splice cur off cs).toArray, ?_, setRow_heap w g _ _ t _ hg, keeps_setRow w g _, by simp [World.setRow]⟩
      simp [Builtin.copy_, run_underlying hu, Builtin.lenOf, sizeOf, typeInfo, hq, ← hk, hl, hst']
theorem wpList_copy_any (w : World) {ops : Array Oper} {rest : List Oper} {o : Oper} {a : Act} {Q : Exit → Act → World → Prop} (hgd : o.guard = none) (d s : Operand) (dT sT : TypeId)
    (ho : o.op = .call { callee := .builtin .copy, args := #[d, s], argTypes := #[dT, sT] }) (elem : TypeId) (size : Nat) (hu : P.underlying dT = some (.slice elem)) (hsz : (P.info? elem).map (·.size) = some size)
    (dp sp : Option Addr) (dLen dCap sLen sCap : Nat) (hd : a.eval d = .slice dp dLen dCap) (hs : a.eval s = .slice sp sLen sCap)
    (g off : Nat) (cur : List Value) (t : TypeId) (hg : w.heap[g]? = some (.cells cur.toArray t (0, 0))) (k : Nat) (hk : k = Nat.min sLen dLen) (cs : List Value) (hn : cs.length = k * size)
    (hpos : 0 < cs.length → dp = some ⟨g, off, none⟩ ∧ ∃ ad, sp = some ad ∧ ∀ j v, cs[j]? = some v → w.cell? (ad.add j) = some v)
    (hs0 : 0 < size) (hfit : off + cs.length ≤ cur.length) (h1 : ∀ v ∈ cs, v.oneCell' = true)
    (h : ∀ w', w'.heap[g]? = some (.cells (splice cur off cs).toArray t (0, 0)) → Keeps (fun k => k ≠ g) w w' → w'.heap.size = w.heap.size → wpList P ops Q rest (a.put o.dst (goInt k)) w') : wpList P ops Q (o :: rest) a w := by
  refine wpList_plain hgd fun K hK => ?_
  obtain ⟨w', hrun, r1, r2, r3⟩ := run_copy_any (P := P) w dT sT o.type elem size hu hsz dp sp dLen dCap sLen sCap g off cur t hg k hk cs hn hpos hs0 hfit h1
  unfold Oper.wp
  simp [execOp, ho, resolve, invoke, builtin, hd, hs, hrun, Result.andThen]
  exact hK _ _ (h w' r1 r2 r3)
/-- the same as one step of a region that draws its order -/
theorem step_copy_any {ops : Array Oper} {o : Oper} {a : Act} {w : World} {K : Act → World → Prop} {Q : Exit → Act → World → Prop} {E : Prop} (hgd : o.guard = none) (d s : Operand) (dT sT : TypeId)
    (ho : o.op = .call { callee := .builtin .copy, args := #[d, s], argTypes := #[dT, sT] }) (elem : TypeId) (size : Nat) (hu : P.underlying dT = some (.slice elem)) (hsz : (P.info? elem).map (·.size) = some size)
    (dp sp : Option Addr) (dLen dCap sLen sCap : Nat) (hd : a.eval d = .slice dp dLen dCap) (hs : a.eval s = .slice sp sLen sCap)
    (g off : Nat) (cur : List Value) (t : TypeId) (hg : w.heap[g]? = some (.cells cur.toArray t (0, 0))) (k : Nat) (hk : k = Nat.min sLen dLen) (cs : List Value) (hn : cs.length = k * size)
    (hpos : 0 < cs.length → dp = some ⟨g, off, none⟩ ∧ ∃ ad, sp = some ad ∧ ∀ j v, cs[j]? = some v → w.cell? (ad.add j) = some v)
    (hs0 : 0 < size) (hfit : off + cs.length ≤ cur.length) (h1 : ∀ v ∈ cs, v.oneCell' = true)
    (h : ∀ w', Hid (w'.heap[g]? = some (.cells (splice cur off cs).toArray t (0, 0)) ∧ Keeps (fun k => k ≠ g) w w' ∧ w'.heap.size = w.heap.size) → K (a.put o.dst (goInt k)) w') :
    if Region.wanted o (yielded ops a.tmps) = true then Oper.wp P o a w K Q else E := by
  have hw : Region.wanted o (yielded ops a.tmps) = true := by simp [Region.wanted, hgd]
  rw [if_pos hw]
  obtain ⟨w', hrun, r1, r2, r3⟩ := run_copy_any (P := P) w dT sT o.type elem size hu hsz dp sp dLen dCap sLen sCap g off cur t hg k hk cs hn hpos hs0 hfit h1
  unfold Oper.wp
  simp [execOp, ho, resolve, invoke, builtin, hd, hs, hrun, Result.andThen]
  exact h w' (Lib.hid ⟨r1, r2, r3⟩)
end Go.Proofs.YtghonbnmakggnaaDoor
