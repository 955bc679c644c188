/-
  THE LAW ValueOrder, walked.
-/
import Derived.Test.YtlaelegbfjpodaaDoorVald
namespace Go.Proofs.YtlaelegbfjpodaaDoor
open Go.RowKit Go.Sort
set_option maxHeartbeats 800000

set_option maxRecDepth 100000 in
theorem order_any (x y z : Bool) (n m k : Int) (w : World) (hL : Laid w) :
    Calls Tryd.prog 4 #[.agg #[.bool x, .int .i64 n], .agg #[.bool y, .int .i64 m], .agg #[.bool z, .int .i64 k]] w fun e w' => e = .returned (.bool true) ∧ Below w.heap.size w w' := by
  obtain ⟨lab, hab⟩ : ∃ r, r = Va.less x n y m := ⟨_, rfl⟩
  obtain ⟨lba, hba⟩ : ∃ r, r = Va.less y m x n := ⟨_, rfl⟩
  obtain ⟨lbc, hbc⟩ : ∃ r, r = Va.less y m z k := ⟨_, rfl⟩
  obtain ⟨lac, hac⟩ : ∃ r, r = Va.less x n z k := ⟨_, rfl⟩
  obtain ⟨sab, hsab⟩ : ∃ r, r = Va.same x n y m := ⟨_, rfl⟩
  have haa : Va.less x n x n = false := by simp [Va.less]
  have q1 : lab = true → lba = false := by rw [hab, hba]; cases x <;> cases y <;> simp [Va.less]; omega
  have q2 : lab = true → lbc = true → lac = true := by rw [hab, hbc, hac]; cases x <;> cases y <;> cases z <;> simp [Va.less]; omega
  have q3 : sab = (!lab && !lba) := by
    rw [hab, hba, hsab]
    cases x <;> cases y <;> simp [Va.less, Va.same]
    rw [Bool.eq_iff_iff]; simp; omega
  obtain ⟨W0, hW0⟩ : ∃ W0, W0 = ((w.alloc (Obj.cells #[Value.bool x, Value.int IntKind.i64 n] 23)).alloc (Obj.cells #[Value.bool y, Value.int IntKind.i64 m] 23)).alloc (Obj.cells #[Value.bool z, Value.int IntKind.i64 k] 23) := ⟨_, rfl⟩
  obtain ⟨l1, l2, l3, hb0⟩ := box3 hW0
  have k0 := cell_turn (l1.cell (i := 0) rfl)
  have k1 := cell_turn (l1.cell (i := 0 + 1) rfl)
  have k2 := cell_turn (l2.cell (i := 0) rfl)
  have k3 := cell_turn (l2.cell (i := 0 + 1) rfl)
  have k4 := cell_turn (l3.cell (i := 0) rfl)
  have k5 := cell_turn (l3.cell (i := 0 + 1) rfl)
  have hL0 : Laid W0 := hL.below hb0 (Nat.le_refl _)
  have fab : ∀ W, Below W0.heap.size W0 W → Calls Tryd.prog 15 #[.agg #[.bool x, .int .i64 n], .agg #[.bool y, .int .i64 m]] W fun e w' => e = .returned (.bool lab) ∧ Below W.heap.size W w' := fun W _ => by rw [hab]; exact less_any x y n m W
  have fba : ∀ W, Below W0.heap.size W0 W → Calls Tryd.prog 15 #[.agg #[.bool y, .int .i64 m], .agg #[.bool x, .int .i64 n]] W fun e w' => e = .returned (.bool lba) ∧ Below W.heap.size W w' := fun W _ => by rw [hba]; exact less_any y x m n W
  have fbc : ∀ W, Below W0.heap.size W0 W → Calls Tryd.prog 15 #[.agg #[.bool y, .int .i64 m], .agg #[.bool z, .int .i64 k]] W fun e w' => e = .returned (.bool lbc) ∧ Below W.heap.size W w' := fun W _ => by rw [hbc]; exact less_any y z m k W
  have fac : ∀ W, Below W0.heap.size W0 W → Calls Tryd.prog 15 #[.agg #[.bool x, .int .i64 n], .agg #[.bool z, .int .i64 k]] W fun e w' => e = .returned (.bool lac) ∧ Below W.heap.size W w' := fun W _ => by rw [hac]; exact less_any x z n k W
  have faa : ∀ W, Below W0.heap.size W0 W → Calls Tryd.prog 15 #[.agg #[.bool x, .int .i64 n], .agg #[.bool x, .int .i64 n]] W fun e w' => e = .returned (.bool false) ∧ Below W.heap.size W w' := fun W _ => by rw [← haa]; exact less_any x x n n W
  have fsab : ∀ W, Below W0.heap.size W0 W → Calls Tryd.prog 13 #[.agg #[.bool x, .int .i64 n], .agg #[.bool y, .int .i64 m]] W fun e w' => e = .returned (.bool sab) ∧ Below W.heap.size W w' := fun W _ => by rw [hsab]; exact same_any x y n m W
  have fcmp : ∀ (o : Int) (r : Int) (b c : Bool) (i j : Int), Va.comp o b i c j = r → ∀ W, Below W0.heap.size W0 W → Calls Tryd.prog 7 #[.int .i64 o, .agg #[.bool b, .int .i64 i], .agg #[.bool c, .int .i64 j]] W fun e w' => e = .returned (.int .i64 r) ∧ Below W.heap.size W w' :=
    fun o r b c i j he W h => by rw [← he]; exact compare_any o b c i j W (hL0.below h (Nat.le_refl _)).want
  have fawake : ∀ W, Below W0.heap.size W0 W → Calls Tryd.prog 6 #[] W fun e w' => e = .returned (.bool true) ∧ Below W.heap.size W w' := fun W h => awake_any W (hL0.below h (Nat.le_refl _))
  have HFab := Lib.hid fab
  have HFba := Lib.hid fba
  have HFbc := Lib.hid fbc
  have HFac := Lib.hid fac
  have HFaa := Lib.hid faa
  have HFs := Lib.hid fsab
  have HFc := Lib.hid fcmp
  have HFw := Lib.hid fawake
  have Hab := Lib.hid hab
  have Hba := Lib.hid hba
  have Q1 := Lib.hid q1
  have Q2 := Lib.hid q2
  have Q3 := Lib.hid q3
  have HW := Lib.hid hW0
  have HK := Lib.hid (And.intro k0 (And.intro k1 (And.intro k2 (And.intro k3 (And.intro k4 k5)))))
  clear hab hba hbc hac hsab haa q1 q2 q3 hW0 l1 l2 l3 hL hL0 fab fba fbc fac faa fsab fcmp fawake k0 k1 k2 k3 k4 k5
  go_enter Tryd.func4, Tryd.ntmps4
  go_upto_region 1 with fail
  rw [← HW.out]
  go_cut [32] (fun v wx => v = .bool false ∧ Below W0.heap.size W0 wx)
  case first =>
    have hS : Below W0.heap.size W0 W0 := Below.refl _ _
    obtain ⟨k0, k1, k2, k3, k4, k5⟩ := HK.out
    have tab := in_turn HFab.out
    have tba := in_turn HFba.out
    have tbc := in_turn HFbc.out
    have tac := in_turn HFac.out
    cases lab with
    | false =>
      go_wp2_with ((first | (with_reducible refine (tab _ (by assumption)).mono ?_) | (with_reducible refine (tba _ (by assumption)).mono ?_) | (with_reducible refine (tbc _ (by assumption)).mono ?_) | (with_reducible refine (tac _ (by assumption)).mono ?_)); rintro e w' ⟨rfl, hS'⟩)
      go_meet
      exact ⟨rfl, by assumption⟩
    | true =>
      obtain rfl := Q1.out rfl
      cases lbc with
      | false =>
        go_wp2_with ((first | (with_reducible refine (tab _ (by assumption)).mono ?_) | (with_reducible refine (tba _ (by assumption)).mono ?_) | (with_reducible refine (tbc _ (by assumption)).mono ?_) | (with_reducible refine (tac _ (by assumption)).mono ?_)); rintro e w' ⟨rfl, hS'⟩)
        go_meet
        exact ⟨rfl, by assumption⟩
      | true =>
        obtain rfl := Q2.out rfl rfl
        go_wp2_with ((first | (with_reducible refine (tab _ (by assumption)).mono ?_) | (with_reducible refine (tba _ (by assumption)).mono ?_) | (with_reducible refine (tbc _ (by assumption)).mono ?_) | (with_reducible refine (tac _ (by assumption)).mono ?_)); rintro e w' ⟨rfl, hS'⟩)
        go_meet
        exact ⟨rfl, by assumption⟩
  case rest =>
    obtain ⟨rfl, hS⟩ := hcut
    clear HFbc HFac Q2
    go_upto_region 3 with fail
    go_cut [51] (fun v wx => v = .bool false ∧ Below W0.heap.size W0 wx)
    case first =>
      obtain ⟨k0, k1, k2, k3, k4, k5⟩ := HK.out
      have d0 := fun d os => k0 _ (below_join hS (below_regrown wc d os))
      have d1 := fun d os => k1 _ (below_join hS (below_regrown wc d os))
      have d2 := fun d os => k2 _ (below_join hS (below_regrown wc d os))
      have d3 := fun d os => k3 _ (below_join hS (below_regrown wc d os))
      have c1 := in_draw HFab.out hS
      have c2 := in_draw HFba.out hS
      have c3 := in_draw HFaa.out hS
      have c4 := in_draw HFs.out hS
      clear k0 k1 k2 k3 k4 k5
      have hs := Q3.out
      cases lab with
      | false =>
        cases lba with
        | false =>
          obtain rfl : sab = true := hs
          refine wp_region_quiet_below (by kernel_rfl) (by kernel_rfl) ?_
          repeat (go_big_quiet_step (with_reducible first | exact c1 _ _ | exact c2 _ _ | exact c3 _ _ | exact c4 _ _))
          refine wpQuiet_nil ?_
          intro _ hw'
          obtain ⟨⟨dq, osq⟩, hw''⟩ := hw'
          subst hw''
          have hS2 : Below W0.heap.size W0 (grow (redrawn wc dq) osq) := below_join hS (below_regrown _ _ _)
          go_wp2_with fail
          go_meet
          exact ⟨rfl, hS2⟩
        | true =>
          obtain rfl : sab = false := hs
          refine wp_region_quiet_below (by kernel_rfl) (by kernel_rfl) ?_
          repeat (go_big_quiet_step (with_reducible first | exact c1 _ _ | exact c2 _ _ | exact c3 _ _ | exact c4 _ _))
          refine wpQuiet_nil ?_
          intro _ hw'
          obtain ⟨⟨dq, osq⟩, hw''⟩ := hw'
          subst hw''
          have hS2 : Below W0.heap.size W0 (grow (redrawn wc dq) osq) := below_join hS (below_regrown _ _ _)
          go_wp2_with fail
          go_meet
          exact ⟨rfl, hS2⟩
      | true =>
        obtain rfl : sab = false := by simpa using hs
        clear hs
        refine wp_region_quiet_below (by kernel_rfl) (by kernel_rfl) ?_
        repeat (go_big_quiet_step (with_reducible first | exact c1 _ _ | exact c2 _ _ | exact c3 _ _ | exact c4 _ _))
        refine wpQuiet_nil ?_
        intro _ hw'
        obtain ⟨⟨dq, osq⟩, hw''⟩ := hw'
        subst hw''
        have hS2 : Below W0.heap.size W0 (grow (redrawn wc dq) osq) := below_join hS (below_regrown _ _ _)
        go_wp2_with fail
        go_meet
        exact ⟨rfl, hS2⟩
    case rest =>
      obtain ⟨rfl, hS1⟩ := hcut
      clear hS HFba HFaa HFs Q1 Q3
      obtain ⟨k0, k1, k2, k3, k4, k5⟩ := HK.out
      by_cases hxy : (x || y) = true
      · have hc3 := HFc.out 3 1 x y n m (Va.comp_null hxy)
        have t3 := in_turn hc3
        have tw := in_turn HFw.out
        clear hc3
        have hyx : x = false → y = true := by cases x <;> simp_all
        clear hxy
        cases x with
        | false =>
          obtain rfl := hyx rfl
          clear hyx
          go_wp2_with ((first | (with_reducible refine (t3 _ (by assumption)).mono ?_) | (with_reducible refine (tw _ (by assumption)).mono ?_)); rintro e w' ⟨rfl, hS'⟩)
          go_ret
          exact ⟨rfl, hb0.trans (below_low (by assumption) hb0.size)⟩
        | true =>
          clear hyx
          go_wp2_with ((first | (with_reducible refine (t3 _ (by assumption)).mono ?_) | (with_reducible refine (tw _ (by assumption)).mono ?_)); rintro e w' ⟨rfl, hS'⟩)
          go_ret
          exact ⟨rfl, hb0.trans (below_low (by assumption) hb0.size)⟩
      · obtain ⟨rfl, rfl⟩ : x = false ∧ y = false := by simpa using hxy
        clear hxy
        have hlab : lab = decide (n < m) := by rw [Hab.out]; simp [Va.less]
        obtain ⟨lt, ge, gt, tl, e3, e6, e5, e3', hcase⟩ : ∃ lt ge gt tl : Int, Va.comp 3 false n false m = lt ∧ Va.comp 6 false n false m = ge ∧ Va.comp 5 false n false m = gt ∧ Va.comp 3 false m false n = tl ∧
            ((lab = true ∧ lt = 2 ∧ ge = 0 ∧ gt = 0 ∧ tl = 0) ∨ (lab = false ∧ lt = 0 ∧ ge = 2 ∧ gt = 2 ∧ tl = 2) ∨ (lab = false ∧ lt = 0 ∧ ge = 2 ∧ gt = 0 ∧ tl = 0)) := by
          refine ⟨_, _, _, _, rfl, rfl, rfl, rfl, ?_⟩
          simp only [Va.comp, hlab]
          by_cases h1 : n < m
          · left
            have h2 : ¬ m ≤ n := by omega
            have h3 : ¬ m < n := by omega
            simp [h1, h2, h3, Va.truth]
          · right
            have h2 : m ≤ n := by omega
            by_cases h3 : m < n
            · left; simp [h1, h2, h3, Va.truth]
            · right; simp [h1, h2, h3, Va.truth]
        have c3 := HFc.out 3 lt false false n m e3
        have c6 := HFc.out 6 ge false false n m e6
        have c5 := HFc.out 5 gt false false n m e5
        have c3' := HFc.out 3 tl false false m n e3'
        have cab := HFab.out
        have cw := HFw.out
        have H3 := Lib.hid c3
        have H6 := Lib.hid c6
        have H5 := Lib.hid c5
        have H3' := Lib.hid c3'
        have HKK := Lib.hid (And.intro k0 (And.intro k1 (And.intro k2 k3)))
        clear c3 c6 c5 c3' cab cw e3 e6 e5 e3' hlab Hab Hba HFc k4 k5 HK
        go_upto_region 7 with fail
        have d0 := fun d os => k0 _ (below_join hS1 (below_regrown wc d os))
        have d1 := fun d os => k1 _ (below_join hS1 (below_regrown wc d os))
        have d2 := fun d os => k2 _ (below_join hS1 (below_regrown wc d os))
        have d3 := fun d os => k3 _ (below_join hS1 (below_regrown wc d os))
        have i1 := in_draw H3.out hS1
        have i2 := in_draw H6.out hS1
        clear k0 k1 k2 k3
        refine wp_region_quiet_below (by kernel_rfl) (by kernel_rfl) ?_
        repeat (go_big_quiet_step (with_reducible first | exact i1 _ _ | exact i2 _ _))
        refine wpQuiet_nil ?_
        intro _ hw'
        obtain ⟨⟨dq, osq⟩, hw''⟩ := hw'
        subst hw''
        have hS2 : Below W0.heap.size W0 (grow (redrawn wc dq) osq) := below_join hS1 (below_regrown _ _ _)
        clear d0 d1 d2 d3 i1 i2
        generalize grow (redrawn wc dq) osq = w1 at hS2 ⊢
        clear hS1
        have e20 : IntKind.i64.wrap 2 = 2 := by decide
        rcases hcase with ⟨rfl, rfl, rfl, rfl, rfl⟩ | ⟨rfl, rfl, rfl, rfl, rfl⟩ | ⟨rfl, rfl, rfl, rfl, rfl⟩
        · go_upto_region 8 with fail
          obtain ⟨k0, k1, k2, k3⟩ := HKK.out
          have d0 := fun d os => k0 _ (below_join hS2 (below_regrown w1 d os))
          have d1 := fun d os => k1 _ (below_join hS2 (below_regrown w1 d os))
          have d2 := fun d os => k2 _ (below_join hS2 (below_regrown w1 d os))
          have d3 := fun d os => k3 _ (below_join hS2 (below_regrown w1 d os))
          have j1 := in_draw HFab.out hS2
          have j2 := in_draw H5.out hS2
          have j3 := in_draw H3'.out hS2
          have j4 := in_draw HFw.out hS2
          clear k0 k1 k2 k3
          refine wp_region_quiet_below (by kernel_rfl) (by kernel_rfl) ?_
          repeat (go_big_quiet_step (with_reducible first | exact j1 _ _ | exact j2 _ _ | exact j3 _ _ | exact j4 _ _))
          refine wpQuiet_nil ?_
          intro _ hw'
          obtain ⟨⟨dq, osq⟩, hw''⟩ := hw'
          subst hw''
          have hS3 : Below W0.heap.size W0 (grow (redrawn w1 dq) osq) := below_join hS2 (below_regrown _ _ _)
          clear d0 d1 d2 d3 j1 j2 j3 j4
          generalize grow (redrawn w1 dq) osq = w2 at hS3 ⊢
          go_wp2
          go_ret
          exact ⟨rfl, hb0.trans (below_low hS3 hb0.size)⟩
        · go_upto_region 8 with fail
          obtain ⟨k0, k1, k2, k3⟩ := HKK.out
          have d0 := fun d os => k0 _ (below_join hS2 (below_regrown w1 d os))
          have d1 := fun d os => k1 _ (below_join hS2 (below_regrown w1 d os))
          have d2 := fun d os => k2 _ (below_join hS2 (below_regrown w1 d os))
          have d3 := fun d os => k3 _ (below_join hS2 (below_regrown w1 d os))
          have j1 := in_draw HFab.out hS2
          have j2 := in_draw H5.out hS2
          have j3 := in_draw H3'.out hS2
          have j4 := in_draw HFw.out hS2
          clear k0 k1 k2 k3
          refine wp_region_quiet_below (by kernel_rfl) (by kernel_rfl) ?_
          repeat (go_big_quiet_step (with_reducible first | exact j1 _ _ | exact j2 _ _ | exact j3 _ _ | exact j4 _ _))
          refine wpQuiet_nil ?_
          intro _ hw'
          obtain ⟨⟨dq, osq⟩, hw''⟩ := hw'
          subst hw''
          have hS3 : Below W0.heap.size W0 (grow (redrawn w1 dq) osq) := below_join hS2 (below_regrown _ _ _)
          clear d0 d1 d2 d3 j1 j2 j3 j4
          generalize grow (redrawn w1 dq) osq = w2 at hS3 ⊢
          go_wp2
          go_ret
          exact ⟨rfl, hb0.trans (below_low hS3 hb0.size)⟩
        · go_upto_region 8 with fail
          obtain ⟨k0, k1, k2, k3⟩ := HKK.out
          have d0 := fun d os => k0 _ (below_join hS2 (below_regrown w1 d os))
          have d1 := fun d os => k1 _ (below_join hS2 (below_regrown w1 d os))
          have d2 := fun d os => k2 _ (below_join hS2 (below_regrown w1 d os))
          have d3 := fun d os => k3 _ (below_join hS2 (below_regrown w1 d os))
          have j1 := in_draw HFab.out hS2
          have j2 := in_draw H5.out hS2
          have j3 := in_draw H3'.out hS2
          have j4 := in_draw HFw.out hS2
          clear k0 k1 k2 k3
          refine wp_region_quiet_below (by kernel_rfl) (by kernel_rfl) ?_
          repeat (go_big_quiet_step (with_reducible first | exact j1 _ _ | exact j2 _ _ | exact j3 _ _ | exact j4 _ _))
          refine wpQuiet_nil ?_
          intro _ hw'
          obtain ⟨⟨dq, osq⟩, hw''⟩ := hw'
          subst hw''
          have hS3 : Below W0.heap.size W0 (grow (redrawn w1 dq) osq) := below_join hS2 (below_regrown _ _ _)
          clear d0 d1 d2 d3 j1 j2 j3 j4
          generalize grow (redrawn w1 dq) osq = w2 at hS3 ⊢
          go_wp2
          go_ret
          exact ⟨rfl, hb0.trans (below_low hS3 hb0.size)⟩
end Go.Proofs.YtlaelegbfjpodaaDoor
