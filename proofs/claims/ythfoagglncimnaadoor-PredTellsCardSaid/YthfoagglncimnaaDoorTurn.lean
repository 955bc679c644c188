/-
  CALLS ONE BEHIND THE OTHER: a callee in a world of the class, in a world that has grown, where the order is drawn; cells that are kept; boxes.
-/
import Derived.Test.YthfoagglncimnaaDoorVala
import Derived.Test.YthfoagglncimnaaDoorLies
namespace Go.Proofs.YthfoagglncimnaaDoor
open Go.RowKit Go.Sort

/-- a callee in a world of the class -/
theorem in_class {f : FuncId} {args : Array Value} {W0 : World} {v : Value} (h : ∀ W, Below W0.heap.size W0 W → Calls Tryd.prog f args W fun e w' => e = .returned v ∧ Below W.heap.size W w') :
    ∀ d os, Calls Tryd.prog f args (grow (redrawn W0 d) os) fun e w'' => e = .returned v ∧ ∃ p : Regrown, w'' = grow (redrawn W0 p.d) p.os :=
  fun d os => Calls.regrown_of (h _ (below_regrown W0 d os))

/-- a callee behind a world of the class, one after another -/
theorem in_turn {f : FuncId} {args : Array Value} {W0 : World} {v : Value} (h : ∀ W, Below W0.heap.size W0 W → Calls Tryd.prog f args W fun e w' => e = .returned v ∧ Below W.heap.size W w') :
    ∀ W, Below W0.heap.size W0 W → Calls Tryd.prog f args W fun e w' => e = .returned v ∧ Below W0.heap.size W0 w' :=
  fun W hb => (h W hb).mono fun _ _ ⟨he, hw⟩ => ⟨he, below_join hb hw⟩
/-- .. and where the order is drawn -/
theorem in_draw {f : FuncId} {args : Array Value} {W0 W1 : World} {v : Value} (h : ∀ W, Below W0.heap.size W0 W → Calls Tryd.prog f args W fun e w' => e = .returned v ∧ Below W.heap.size W w') (h1 : Below W0.heap.size W0 W1) :
    ∀ d os, Calls Tryd.prog f args (grow (redrawn W1 d) os) fun e w'' => e = .returned v ∧ ∃ p : Regrown, w'' = grow (redrawn W1 p.d) p.os :=
  fun d os => Calls.regrown_of (h _ (below_join h1 (below_regrown W1 d os)))
theorem cell_turn {W0 : World} {a : Addr} {v : Value} (h : W0.cell? a = some v) : ∀ W, Below W0.heap.size W0 W → W.cell? a = some v :=
  fun W hb => by rw [hb.cell (block_lt_of_cell h)]; exact h
/-- boxes, one behind the other -/
theorem box1 {w W0 : World} {t : TypeId} {a b : Value} (h : W0 = w.alloc (Obj.cells #[a, b] t)) : Lies W0 w.heap.size t [a, b] ∧ Below w.heap.size w W0 := by
  rw [h]; exact ⟨Lies.new w t [a, b], below_new w _⟩
theorem box2 {w W0 : World} {t : TypeId} {a b c d : Value} (h : W0 = (w.alloc (Obj.cells #[a, b] t)).alloc (Obj.cells #[c, d] t)) :
    Lies W0 w.heap.size t [a, b] ∧ Lies W0 (w.heap.size + 1) t [c, d] ∧ Below w.heap.size w W0 := by
  obtain ⟨h1, h2⟩ := box1 (w := w) (t := t) (a := a) (b := b) rfl
  have h3 := Lies.new (w.alloc (Obj.cells #[a, b] t)) t [c, d]
  rw [World.size_alloc] at h3
  rw [h]
  exact ⟨h1.alloc _, h3, below_new2 w _ _⟩
theorem box3 {w W0 : World} {t : TypeId} {a b c d e f : Value} (h : W0 = ((w.alloc (Obj.cells #[a, b] t)).alloc (Obj.cells #[c, d] t)).alloc (Obj.cells #[e, f] t)) :
    Lies W0 w.heap.size t [a, b] ∧ Lies W0 (w.heap.size + 1) t [c, d] ∧ Lies W0 (w.heap.size + 1 + 1) t [e, f] ∧ Below w.heap.size w W0 := by
  obtain ⟨h1, h2, h3⟩ := box2 (w := w) (t := t) (a := a) (b := b) (c := c) (d := d) rfl
  have h4 := Lies.new ((w.alloc (Obj.cells #[a, b] t)).alloc (Obj.cells #[c, d] t)) t [e, f]
  rw [World.size_alloc, World.size_alloc] at h4
  rw [h]
  exact ⟨h1.alloc _, h2.alloc _, h4, h3.alloc (by simp; omega) _⟩
theorem box_one {w W0 : World} {t : TypeId} {cs : List Value} (h : W0 = w.alloc (Obj.cells cs.toArray t)) : Lies W0 w.heap.size t cs ∧ Below w.heap.size w W0 := by
  rw [h]; exact ⟨Lies.new w t cs, below_new w _⟩
theorem box_two {w W0 : World} {t u : TypeId} {cs ds : List Value} (h : W0 = (w.alloc (Obj.cells cs.toArray t)).alloc (Obj.cells ds.toArray u)) : Lies W0 w.heap.size t cs ∧ Lies W0 (w.heap.size + 1) u ds ∧ Below w.heap.size w W0 := by
  obtain ⟨W1, hW1⟩ : ∃ W1, W1 = w.alloc (Obj.cells cs.toArray t) := ⟨_, rfl⟩
  obtain ⟨l1, hb1⟩ := box_one hW1
  rw [← hW1] at h
  obtain ⟨l2, hb2⟩ := box_one h
  have hs : W1.heap.size = w.heap.size + 1 := by rw [hW1, World.size_alloc]
  rw [hs] at l2
  exact ⟨l1.below hb2 l1.lt, l2, below_join hb1 hb2⟩
end Go.Proofs.YthfoagglncimnaaDoor
