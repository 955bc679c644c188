/-
  THE CHAPTER's EXAMPLES (awake).
-/
import Derived.Test.YtlaelegbfjpodaaDoorValc
namespace Go.Proofs.YtlaelegbfjpodaaDoor
open Go.RowKit Go.Sort
set_option maxHeartbeats 800000

/-- the variables that the road reads -/
structure Laid (w : World) : Prop where
  want : Want w
  err : ErrR w
  pows : Pows w
theorem Laid.below {w w' : World} {B : Nat} (h : Laid w) (hb : Below B w w') (hB : w.heap.size ≤ B) : Laid w' := ⟨h.want.below hb hB, h.err.below hb hB, h.pows.below hb hB⟩
/-- a callee in a world of the class -/
theorem in_class {f : FuncId} {args : Array Value} {W0 : World} {v : Value} (h : ∀ W, Below W0.heap.size W0 W → Calls Tryd.prog f args W fun e w' => e = .returned v ∧ Below W.heap.size W w') :
    ∀ d os, Calls Tryd.prog f args (grow (redrawn W0 d) os) fun e w'' => e = .returned v ∧ ∃ p : Regrown, w'' = grow (redrawn W0 p.d) p.os :=
  fun d os => Calls.regrown_of (h _ (below_regrown W0 d os))

theorem par_07 : Va.par [45, 48, 55] = ⟨false, 0, 1⟩ := by decide +kernel
theorem par_7 : Va.par [45, 55] = ⟨false, -7, 0⟩ := by decide +kernel

set_option maxRecDepth 100000 in
theorem awake_any (w : World) (hW : Laid w) :
    Calls Tryd.prog 6 #[] w fun e w' => e = .returned (.bool true) ∧ Below w.heap.size w w' := by
  have p1 := parse_any ⟨[45, 48, 55].toArray⟩ w (by decide) hW.err
  rw [show (⟨[45, 48, 55].toArray⟩ : ByteArray).data.toList = [45, 48, 55] from rfl, par_07] at p1
  go_enter Tryd.func6, Tryd.ntmps6
  go_wp2_with fail
  refine p1.mono ?_
  rintro e w1 ⟨rfl, hb1⟩
  clear p1
  have hW1 : Laid w1 := hW.below hb1 (Nat.le_refl _)
  obtain ⟨wa, hwa⟩ : ∃ wa, wa = w1.alloc (Obj.cells #[Value.bool false, Value.int IntKind.i64 0] 23) := ⟨_, rfl⟩
  have hba : Below w.heap.size w wa := by rw [hwa]; exact below_join hb1 (below_new w1 _)
  have p2 := parse_any ⟨[45, 55].toArray⟩ wa (by decide) (hW.below hba (Nat.le_refl _)).err
  rw [show (⟨[45, 55].toArray⟩ : ByteArray).data.toList = [45, 55] from rfl, par_7] at p2
  clear hW1 hb1
  go_wp2_with fail
  rw [← hwa]
  refine p2.mono ?_
  rintro e w2 ⟨rfl, hb2⟩
  clear p2
  have hb3 : Below w.heap.size w w2 := below_join hba hb2
  clear hba hb2 hwa
  obtain ⟨W0, hW0⟩ : ∃ W0, W0 = w2.alloc (Obj.cells #[Value.bool false, Value.int IntKind.i64 (-7)] 23) := ⟨_, rfl⟩
  have hb : Below w.heap.size w W0 := by rw [hW0]; exact below_join hb3 (below_new w2 _)
  have hL : Laid W0 := hW.below hb (Nat.le_refl _)
  clear hb3 hW
  go_wp2_with fail
  rw [← hW0]
  have k0 : ∀ d os, (grow (redrawn W0 d) os).cell? ⟨w2.heap.size, 0, none⟩ = some (.bool false) := cell_regrown (by rw [hW0]; simp)
  have k1 : ∀ d os, (grow (redrawn W0 d) os).cell? ⟨w2.heap.size, 0 + 1, none⟩ = some (.int .i64 (-7)) := cell_regrown (by rw [hW0]; simp)
  have n1 : ∀ d os, Calls Tryd.prog 19 #[] (grow (redrawn W0 d) os) fun e w'' => e = .returned (.agg #[.bool true, .int .i64 0]) ∧ ∃ p : Regrown, w'' = grow (redrawn W0 p.d) p.os := in_class fun W _ => lnull_any W
  have n2 : ∀ d os, Calls Tryd.prog 7 #[.int .i64 1, .agg #[.bool true, .int .i64 0], .agg #[.bool true, .int .i64 0]] (grow (redrawn W0 d) os) fun e w'' => e = .returned (.int .i64 1) ∧ ∃ p : Regrown, w'' = grow (redrawn W0 p.d) p.os :=
    in_class fun W h => compare_any 1 true true 0 0 W (hL.below h (Nat.le_refl _)).want
  have n3 : ∀ d os, Calls Tryd.prog 17 #[.agg #[.bool true, .int .i64 0]] (grow (redrawn W0 d) os) fun e w'' => e = .returned (.string ⟨#[226, 136, 133]⟩) ∧ ∃ p : Regrown, w'' = grow (redrawn W0 p.d) p.os :=
    in_class fun W h => print_any true 0 W (by omega) (by omega) (hL.below h (Nat.le_refl _)).pows
  have n4 : ∀ d os, Calls Tryd.prog 20 #[] (grow (redrawn W0 d) os) fun e w'' => e = .returned (.string ⟨#[226, 136, 133]⟩) ∧ ∃ p : Regrown, w'' = grow (redrawn W0 p.d) p.os :=
    in_class fun W _ => (rnull_any W).mono fun e w' ⟨h1, h2⟩ => ⟨h1, h2 ▸ Below.refl _ _⟩
  have n5 : ∀ d os, Calls Tryd.prog 7 #[.int .i64 6, .agg #[.bool false, .int .i64 (-7)], .agg #[.bool false, .int .i64 (-7)]] (grow (redrawn W0 d) os) fun e w'' => e = .returned (.int .i64 2) ∧ ∃ p : Regrown, w'' = grow (redrawn W0 p.d) p.os :=
    in_class fun W h => compare_any 6 false false (-7) (-7) W (hL.below h (Nat.le_refl _)).want
  have n6 : ∀ d os, Calls Tryd.prog 11 #[.agg #[.bool false, .int .i64 (-7)]] (grow (redrawn W0 d) os) fun e w'' => e = .returned (.bool true) ∧ ∃ p : Regrown, w'' = grow (redrawn W0 p.d) p.os :=
    in_class fun W _ => right_any false (-7) W
  have n7 : ∀ d os, Calls Tryd.prog 15 #[.agg #[.bool true, .int .i64 0], .agg #[.bool false, .int .i64 (-7)]] (grow (redrawn W0 d) os) fun e w'' => e = .returned (.bool true) ∧ ∃ p : Regrown, w'' = grow (redrawn W0 p.d) p.os :=
    in_class fun W _ => less_any true false 0 (-7) W
  have n8 : ∀ d os, Calls Tryd.prog 13 #[.agg #[.bool false, .int .i64 (-7)], .agg #[.bool false, .int .i64 (-7)]] (grow (redrawn W0 d) os) fun e w'' => e = .returned (.bool true) ∧ ∃ p : Regrown, w'' = grow (redrawn W0 p.d) p.os :=
    in_class fun W _ => same_any false false (-7) (-7) W
  clear hW0 hL
  refine wp_region_quiet_below (by kernel_rfl) (by kernel_rfl) ?_
  repeat (go_big_quiet_step (with_reducible first | exact n1 _ _ | exact n2 _ _ | exact n3 _ _ | exact n4 _ _ | exact n5 _ _ | exact n6 _ _ | exact n7 _ _ | exact n8 _ _))
  refine wpQuiet_nil ?_
  intro _ hw'
  obtain ⟨⟨dq, osq⟩, hw''⟩ := hw'
  subst hw''
  have hbz : Below w.heap.size w (grow (redrawn W0 dq) osq) := below_join hb (below_regrown _ _ _)
  clear k0 k1 n1 n2 n3 n4 n5 n6 n7 n8 hb
  generalize grow (redrawn W0 dq) osq = wz at hbz ⊢
  go_wp2
  go_ret
  exact ⟨rfl, hbz⟩
/-- a callee behind a world of the class, one after another -/
theorem in_turn {f : FuncId} {args : Array Value} {W0 : World} {v : Value} (h : ∀ W, Below W0.heap.size W0 W → Calls Tryd.prog f args W fun e w' => e = .returned v ∧ Below W.heap.size W w') :
    ∀ W, Below W0.heap.size W0 W → Calls Tryd.prog f args W fun e w' => e = .returned v ∧ Below W0.heap.size W0 w' :=
  fun W hb => (h W hb).mono fun _ _ ⟨he, hw⟩ => ⟨he, below_join hb hw⟩
/-- .. and where the order is drawn -/
theorem in_draw {f : FuncId} {args : Array Value} {W0 W1 : World} {v : Value} (h : ∀ W, Below W0.heap.size W0 W → Calls Tryd.prog f args W fun e w' => e = .returned v ∧ Below W.heap.size W w') (h1 : Below W0.heap.size W0 W1) :
    ∀ d os, Calls Tryd.prog f args (grow (redrawn W1 d) os) fun e w'' => e = .returned v ∧ ∃ p : Regrown, w'' = grow (redrawn W1 p.d) p.os :=
  fun d os => Calls.regrown_of (h _ (below_join h1 (below_regrown W1 d os)))
theorem cell_turn {W0 : World} {a : Addr} {v : Value} (h : W0.cell? a = some v) : ∀ W, Below W0.heap.size W0 W → W.cell? a = some v :=
  fun W hb => by rw [hb.cell (block_lt_of_cell h)]; exact h
/-- boxes, one behind the other -/
theorem box1 {w W0 : World} {t : TypeId} {a b : Value} (h : W0 = w.alloc (Obj.cells #[a, b] t)) : Lies W0 w.heap.size t [a, b] ∧ Below w.heap.size w W0 := by
  rw [h]; exact ⟨Lies.new w t [a, b], below_new w _⟩
theorem box2 {w W0 : World} {t : TypeId} {a b c d : Value} (h : W0 = (w.alloc (Obj.cells #[a, b] t)).alloc (Obj.cells #[c, d] t)) :
    Lies W0 w.heap.size t [a, b] ∧ Lies W0 (w.heap.size + 1) t [c, d] ∧ Below w.heap.size w W0 := by
  obtain ⟨h1, h2⟩ := box1 (w := w) (t := t) (a := a) (b := b) rfl
  have h3 := Lies.new (w.alloc (Obj.cells #[a, b] t)) t [c, d]
  rw [World.size_alloc] at h3
  rw [h]
  exact ⟨h1.alloc _, h3, below_new2 w _ _⟩
theorem box3 {w W0 : World} {t : TypeId} {a b c d e f : Value} (h : W0 = ((w.alloc (Obj.cells #[a, b] t)).alloc (Obj.cells #[c, d] t)).alloc (Obj.cells #[e, f] t)) :
    Lies W0 w.heap.size t [a, b] ∧ Lies W0 (w.heap.size + 1) t [c, d] ∧ Lies W0 (w.heap.size + 1 + 1) t [e, f] ∧ Below w.heap.size w W0 := by
  obtain ⟨h1, h2, h3⟩ := box2 (w := w) (t := t) (a := a) (b := b) (c := c) (d := d) rfl
  have h4 := Lies.new ((w.alloc (Obj.cells #[a, b] t)).alloc (Obj.cells #[c, d] t)) t [e, f]
  rw [World.size_alloc, World.size_alloc] at h4
  rw [h]
  exact ⟨h1.alloc _, h2.alloc _, h4, h3.alloc (by simp; omega) _⟩
end Go.Proofs.YtlaelegbfjpodaaDoor
