/-
  THE LAW TermTells, walked.
-/
import Derived.Test.YtpgmobfoeopbcaaTermc
namespace Go.Proofs.Ytpgmobfoeopbcaa
open Go.RowKit Go.Sort
set_option maxHeartbeats 6400000

theorem box_two {w W0 : World} {t u : TypeId} {cs ds : List Value} (h : W0 = (w.alloc (Obj.cells cs.toArray t)).alloc (Obj.cells ds.toArray u)) : Lies W0 w.heap.size t cs ∧ Lies W0 (w.heap.size + 1) u ds ∧ Below w.heap.size w W0 := by
  obtain ⟨W1, hW1⟩ : ∃ W1, W1 = w.alloc (Obj.cells cs.toArray t) := ⟨_, rfl⟩
  obtain ⟨l1, hb1⟩ := box_one hW1
  rw [← hW1] at h
  obtain ⟨l2, hb2⟩ := box_one h
  have hs : W1.heap.size = w.heap.size + 1 := by rw [hW1, World.size_alloc]
  rw [hs] at l2
  exact ⟨l1.below hb2 l1.lt, l2, below_join hb1 hb2⟩

set_option maxRecDepth 100000 in
theorem termtells_any (k t c : Int) (z : Bool) (n : Int) (k' t' c' : Int) (z' : Bool) (n' : Int) (v : Value) (rs : List (List Vl)) (w : World) (hv : Rws w v rs) :
    Calls Try.prog 3 #[.agg #[.int .i64 k, .int .i64 t, .int .i64 c, .bool z, .int .i64 n], .agg #[.int .i64 k', .int .i64 t', .int .i64 c', .bool z', .int .i64 n'], v] w fun e w' => e = .returned (.bool true) ∧ Below w.heap.size w w' := by
  obtain ⟨W0, hW0⟩ : ∃ W0, W0 = (w.alloc (Obj.cells #[.int .i64 k, .int .i64 t, .int .i64 c, .bool z, .int .i64 n] 25)).alloc (Obj.cells #[.int .i64 k', .int .i64 t', .int .i64 c', .bool z', .int .i64 n'] 25) := ⟨_, rfl⟩
  obtain ⟨l0, l1, hb0⟩ := box_two (cs := [.int .i64 k, .int .i64 t, .int .i64 c, .bool z, .int .i64 n]) (ds := [.int .i64 k', .int .i64 t', .int .i64 c', .bool z', .int .i64 n']) hW0
  have hv0 : Rws W0 v rs := hv.below hb0 (Nat.le_refl _)
  have cf := few_any v rs W0 hv0
  have HW := Lib.hid hW0
  clear hW0 hv
  by_cases hf : Te.few rs = true
  · rw [hf] at cf
    obtain ⟨h70, h20⟩ := Te.few_yes hf
    have d0 := cell_regrown (l0.cell (i := 0) rfl)
    have d1 := cell_regrown (l0.cell (i := 1) rfl)
    have d2 := cell_regrown (l0.cell (i := 2) rfl)
    have d3 := cell_regrown (l0.cell (i := 3) rfl)
    have d4 := cell_regrown (l0.cell (i := 4) rfl)
    have q0 := cell_regrown (l1.cell (i := 0) rfl)
    have q1 := cell_regrown (l1.cell (i := 1) rfl)
    have q2 := cell_regrown (l1.cell (i := 2) rfl)
    have q3 := cell_regrown (l1.cell (i := 3) rfl)
    have q4 := cell_regrown (l1.cell (i := 4) rfl)
    have c1 := in_class (W0 := W0) fun W _ => tright_any k t c z n W
    have c2 := in_class (W0 := W0) fun W _ => r5right_any k t c z n W
    have c3 := in_class (W0 := W0) fun W _ => tsame_any k t c z n k' t' c' z' n' W
    have c4 := in_class (W0 := W0) fun W _ => ttables_any k t c z n W
    have c5 := in_class (W0 := W0) fun W _ => r5tables_any k t c z n W
    have c6 := in_class (W0 := W0) fun W h => tof_any k t c z n v rs W (hv0.below h (Nat.le_refl _))
    have c7 := in_class (W0 := W0) fun W h => r5of_any k t c z n v rs W (hv0.below h (Nat.le_refl _)) (by omega) (fun r hr => by have := h20 r hr; omega)
    have c8 := in_class (W0 := W0) fun W _ => awake5_any W
    have hsame : Te.same ⟨k, t, c, z, n⟩ ⟨k', t', c', z', n'⟩ = (k == k' && t == t' && c == c' && z == z' && n == n') := rfl
    generalize Te.right ⟨k, t, c, z, n⟩ = r1 at c1 c2
    generalize Te.same ⟨k, t, c, z, n⟩ ⟨k', t', c', z', n'⟩ = r2 at c3 hsame
    generalize Te.tables ⟨k, t, c, z, n⟩ = r3 at c4 c5
    generalize Te.val ⟨k, t, c, z, n⟩ rs = r4 at c6 c7
    obtain ⟨y, m⟩ := r4
    dsimp only at c6 c7
    clear hf h70 h20 l0 l1 hv0
    have hdec : k = k' ∧ t = t' ∧ c = c' ∧ z = z' ∧ n = n' ∨ ¬ k = k' ∨ (k = k' ∧ ¬ t = t') ∨ (k = k' ∧ t = t' ∧ ¬ c = c') ∨ (k = k' ∧ t = t' ∧ c = c' ∧ ¬ z = z') ∨ (k = k' ∧ t = t' ∧ c = c' ∧ z = z' ∧ ¬ n = n') := by
      by_cases e1 : k = k' <;> by_cases e2 : t = t' <;> by_cases e3 : c = c' <;> by_cases e4 : z = z' <;> by_cases e5 : n = n' <;> simp [e1, e2, e3, e4, e5]
    rcases hdec with ⟨rfl, rfl, rfl, rfl, rfl⟩ | e1 | ⟨rfl, e1⟩ | ⟨rfl, rfl, e1⟩ | ⟨rfl, rfl, rfl, e1⟩ | ⟨rfl, rfl, rfl, rfl, e1⟩
    · obtain rfl : r2 = true := by rw [hsame]; simp
      clear hsame
      go_enter Try.func3, Try.ntmps3
      go_wp2_with fail
      rw [← HW.out]
      refine cf.mono ?_
      rintro e w1 ⟨rfl, rfl⟩
      clear cf
      go_wp2_with fail
      refine wp_region_quiet_below (by kernel_rfl) (by kernel_rfl) ?_
      repeat (go_big_quiet_step (with_reducible first | exact c1 _ _ | exact c2 _ _ | exact c3 _ _ | exact c4 _ _ | exact c5 _ _ | exact c6 _ _ | exact c7 _ _ | exact c8 _ _))
      refine wpQuiet_nil ?_
      intro _ hw'
      obtain ⟨⟨dq, osq⟩, hw''⟩ := hw'
      subst hw''
      have hbz : Below w.heap.size w (grow (redrawn W0 dq) osq) := below_join hb0 (below_regrown _ _ _)
      clear d0 d1 d2 d3 d4 q0 q1 q2 q3 q4 c1 c2 c3 c4 c5 c6 c7 c8 hb0
      generalize grow (redrawn W0 dq) osq = wz at hbz ⊢
      go_wp2
      go_ret
      exact ⟨rfl, hbz⟩
    all_goals
      obtain rfl : r2 = false := by rw [hsame]; simp [e1]
      clear hsame
      go_enter Try.func3, Try.ntmps3
      go_wp2_with fail
      rw [← HW.out]
      refine cf.mono ?_
      rintro e w1 ⟨rfl, rfl⟩
      clear cf
      go_wp2_with fail
      refine wp_region_quiet_below (by kernel_rfl) (by kernel_rfl) ?_
      repeat (go_big_quiet_step (with_reducible first | exact c1 _ _ | exact c2 _ _ | exact c3 _ _ | exact c4 _ _ | exact c5 _ _ | exact c6 _ _ | exact c7 _ _ | exact c8 _ _))
      refine wpQuiet_nil ?_
      intro _ hw'
      obtain ⟨⟨dq, osq⟩, hw''⟩ := hw'
      subst hw''
      have hbz : Below w.heap.size w (grow (redrawn W0 dq) osq) := below_join hb0 (below_regrown _ _ _)
      clear d0 d1 d2 d3 d4 q0 q1 q2 q3 q4 c1 c2 c3 c4 c5 c6 c7 c8 hb0
      generalize grow (redrawn W0 dq) osq = wz at hbz ⊢
      go_wp2
      go_ret
      exact ⟨rfl, hbz⟩
  · have hf' : Te.few rs = false := by simpa using hf
    rw [hf'] at cf
    have ca := awake5_any W0
    clear hf hf' l0 l1 hv0
    go_enter Try.func3, Try.ntmps3
    go_wp2_with fail
    rw [← HW.out]
    refine cf.mono ?_
    rintro e w1 ⟨rfl, rfl⟩
    clear cf
    go_wp2_with (refine ca.mono ?_; rintro e w' ⟨rfl, hS⟩)
    go_ret
    exact ⟨rfl, below_join hb0 hS⟩
end Go.Proofs.Ytpgmobfoeopbcaa
