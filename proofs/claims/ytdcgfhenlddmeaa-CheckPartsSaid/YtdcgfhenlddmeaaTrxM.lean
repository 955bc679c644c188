/-
  package tree: Size and Tables, by a range over the tour.
-/
import Derived.Test.YtdcgfhenlddmeaaTrwM
import Derived.Test.YtdcgfhenlddmeaaTrgM
namespace Go.Proofs.Ytdcgfhenlddmeaa
open Go.RowKit Go.Shelf
attribute [local go_sem] Oper.semAt_some
set_option maxHeartbeats 800000

theorem form_trs {w : World} {u : Value} {l : List Tr} (h : ∃ d, TsAt d w u l) : ∃ A n c, u = .slice A n c := by
  obtain ⟨d, h⟩ := h
  obtain ⟨A, c, h, _⟩ := h.form
  exact ⟨A, _, c, h⟩
theorem form_pds {w : World} {u : Value} {l : List Pd} (h : PsSome w u l) : ∃ A n c, u = .slice A n c := by
  obtain ⟨d, h⟩ := h
  obtain ⟨A, c, h, _⟩ := h.form
  exact ⟨A, _, c, h⟩
theorem below_putObj (W : World) (D : Nat) (o : Obj) {B : Nat} (h : B ≤ D) : Below B W (W.putObj D o) :=
  ⟨rfl, rfl, rfl, by simp, fun k hk => World.putObj_heap_other (by omega)⟩
/-- between two rounds: the count in its box -/
structure CountI (w : World) (T : TypeId) (val : List TrV → Value) (pre : List TrV) (O : Nat → Prop) (W : World) : Prop where
  own : ∀ k, O k ↔ k = w.heap.size + 1
  box : Boxed W (w.heap.size + 1) T (val pre)
  below : Below w.heap.size w W
theorem CountI.keep {w : World} {T : TypeId} {val : List TrV → Value} {pre : List TrV} {O : Nat → Prop} {W W' : World} {S : Nat → Prop} (h : CountI w T val pre O W) (hk : Keeps (fun k => O k ∨ S k) W W') (hS : ∀ k, k < w.heap.size → S k) : CountI w T val pre O W' :=
  ⟨h.own, (hk.same _ h.box.lt (.inl ((h.own _).2 rfl))).trans h.box, h.below.trans (hk.below (Nat.le_trans h.below.size (Nat.le_refl _)) fun k hk => .inr (hS k hk))⟩
theorem CountI.step {w : World} {T : TypeId} {val : List TrV → Value} {pre : List TrV} {x : TrV} {O : Nat → Prop} {W W1 : World} (h : CountI w T val pre O W) (hb : Below W.heap.size W W1) :
    CountI w T val (pre ++ [x]) O (W1.setCell ⟨w.heap.size + 1, 0, none⟩ (val (pre ++ [x]))) ∧ Chg O W O (W1.setCell ⟨w.heap.size + 1, 0, none⟩ (val (pre ++ [x]))) := by
  have hlt := h.box.lt
  have hbx : Boxed W1 (w.heap.size + 1) T (val pre) := (hb.block _ hlt).trans h.box
  refine ⟨⟨h.own, hbx.set _, (h.below.trans ⟨hb.os, hb.tape, hb.output, hb.size, fun k hk => hb.block k (by have := h.below.size; omega)⟩).setCell (by show w.heap.size ≤ w.heap.size + 1; omega) _⟩, ⟨hb.os, hb.tape, hb.output, by simpa using hb.size, fun k hk hn => ?_⟩, fun _ _ h => h⟩
  have hne : k ≠ w.heap.size + 1 := fun e => hn ((h.own k).2 e)
  exact (Below.heap_setCell W1 _ _ k hne).trans (hb.block k hk)
end Go.Proofs.Ytdcgfhenlddmeaa
