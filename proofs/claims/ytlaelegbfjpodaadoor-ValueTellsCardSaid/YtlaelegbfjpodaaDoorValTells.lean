/-
  THE LAW ValueTells, walked.
-/
import Derived.Test.YtlaelegbfjpodaaDoorVald
namespace Go.Proofs.YtlaelegbfjpodaaDoor
open Go.RowKit Go.Sort
set_option maxHeartbeats 800000

set_option maxRecDepth 100000 in
theorem tells_any (x y : Bool) (n m : Int) (s : ByteArray) (w : World) (h0 : -9223372036854775808 ≤ n) (h1 : n ≤ 9223372036854775807) (hL : Laid w) :
    Calls Tryd.prog 3 #[.agg #[.bool x, .int .i64 n], .agg #[.bool y, .int .i64 m], .string s] w fun e w' => e = .returned (.bool true) ∧ Below w.heap.size w w' := by
  obtain ⟨W0, hW0⟩ : ∃ W0, W0 = (w.alloc (Obj.cells #[Value.bool x, Value.int IntKind.i64 n] 23)).alloc (Obj.cells #[Value.bool y, Value.int IntKind.i64 m] 23) := ⟨_, rfl⟩
  obtain ⟨l1, l2, hb0⟩ := box2 hW0
  have hL0 : Laid W0 := hL.below hb0 (Nat.le_refl _)
  by_cases hlong : 300 < s.size
  · have d1 : decide ((300 : Int) < (s.size : Int)) = true := by simp; omega
    have hw := awake_any W0 hL0
    clear hlong l1 l2 hL0 hL h0 h1
    have HW := Lib.hid hW0
    clear hW0
    go_enter Tryd.func3, Tryd.ntmps3
    go_wp2_with (rw [← HW.out]; refine hw.mono ?_; rintro e w' ⟨rfl, hS⟩)
    go_ret
    exact ⟨rfl, below_join hb0 hS⟩
  · have d1 : decide ((300 : Int) < (s.size : Int)) = false := by simp; omega
    have hsz : s.size ≤ 281474976710656 := by omega
    have k0 := cell_turn (l1.cell (i := 0) rfl)
    have k1 := cell_turn (l1.cell (i := 0 + 1) rfl)
    have k2 := cell_turn (l2.cell (i := 0) rfl)
    have k3 := cell_turn (l2.cell (i := 0 + 1) rfl)
    have fc := fun (o : Int) W (h : Below W0.heap.size W0 W) => compare_any o x y n m W (hL0.below h (Nat.le_refl _)).want
    have fr := fun (o : Int) W (_ : Below W0.heap.size W0 W) => rcompare_any o x y n m W
    have HW := Lib.hid hW0
    have HSZ := Lib.hid hsz
    have H0 := Lib.hid (And.intro h0 h1)
    have HFC := Lib.hid fc
    have HFR := Lib.hid fr
    have HK := Lib.hid (And.intro k0 (And.intro k1 (And.intro k2 k3)))
    clear hW0 hsz h0 h1 hlong hL fc fr k0 k1 k2 k3
    go_enter Tryd.func3, Tryd.ntmps3
    go_wp2
    rw [← HW.out]
    go_loopw [7] (fun v7 wr => ∃ o : Int, -1 ≤ o ∧ o ≤ 9 ∧ v7 = .int .i64 o ∧ Below W0.heap.size W0 wr) (fun v7 _ => (9 - intOf v7).toNat)
    case atStart => exact ⟨-1, by omega, by omega, rfl, Below.refl _ _⟩
    case round =>
      obtain ⟨o, ho1, ho9, rfl, hS⟩ := hrel
      by_cases hlt : o ≤ 8
      · have d2 : decide (o ≤ 8) = true := by simp; omega
        have e1 : IntKind.i64.wrap (o + 1) = o + 1 := by rw [IntKind.wrap_i64]; omega
        go_upto_region 6 with fail
        obtain ⟨k0, k1, k2, k3⟩ := HK.out
        have d0 := fun d os => k0 _ (below_join hS (below_regrown wr d os))
        have d1 := fun d os => k1 _ (below_join hS (below_regrown wr d os))
        have d2 := fun d os => k2 _ (below_join hS (below_regrown wr d os))
        have d3 := fun d os => k3 _ (below_join hS (below_regrown wr d os))
        have c1 := in_draw (HFC.out o) hS
        have c2 := in_draw (HFR.out o) hS
        clear k0 k1 k2 k3
        obtain ⟨r, hr⟩ : ∃ r, r = Va.comp o x n y m := ⟨_, rfl⟩
        rw [← hr] at c1 c2
        clear hr
        refine wp_region_quiet_below (by kernel_rfl) (by kernel_rfl) ?_
        repeat (go_big_quiet_step (with_reducible first | exact c1 _ _ | exact c2 _ _))
        refine wpQuiet_nil ?_
        intro _ hw'
        obtain ⟨⟨dq, osq⟩, hw''⟩ := hw'
        subst hw''
        have hS2 : Below W0.heap.size W0 (grow (redrawn wr dq) osq) := below_join hS (below_regrown _ _ _)
        clear d0 d1 d2 d3 c1 c2
        generalize grow (redrawn wr dq) osq = w2 at hS2 ⊢
        go_wp2
        exact ⟨⟨o + 1, by omega, by omega, rfl, hS2⟩, by simp [intOf]; omega⟩
      · have d2 : decide (o ≤ 8) = false := by simp; omega
        clear ho1 ho9 hlt
        have cp1 := parse_any s wr HSZ.out (hL0.below hS (Nat.le_refl _)).err
        obtain ⟨R, hR⟩ : ∃ R, R = Va.par s.data.toList := ⟨_, rfl⟩
        rw [← hR] at cp1
        go_wp2_with fail
        refine cp1.mono ?_
        rintro e w3 ⟨rfl, hb3⟩
        clear cp1
        obtain ⟨W3, hW3⟩ : ∃ W3, W3 = w3.alloc (Obj.cells #[Value.bool R.z, Value.int IntKind.i64 R.v] 23) := ⟨_, rfl⟩
        obtain ⟨l3, hb3'⟩ := box1 hW3
        have hS3 : Below W0.heap.size W0 W3 := below_join hS (below_join hb3 hb3')
        have HW3 := Lib.hid hW3
        have cp2 := rparse_any s W3 HSZ.out
        rw [← hR] at cp2
        clear hW3 hb3 hb3' hS hR
        go_wp2_with fail
        rw [← HW3.out]
        refine cp2.mono ?_
        rintro e w4 ⟨rfl, hb4⟩
        clear cp2
        obtain ⟨W4, hW4⟩ : ∃ W4, W4 = w4.alloc (Obj.cells #[Value.bool R.z, Value.int IntKind.i64 R.v] 23) := ⟨_, rfl⟩
        obtain ⟨l4, hb4'⟩ := box1 hW4
        have hS4 : Below W0.heap.size W0 W4 := below_join hS3 (below_join hb4 hb4')
        have l3' := (l3.below hb4 l3.lt).below hb4' (Nat.lt_of_lt_of_le l3.lt hb4.size)
        have HW4 := Lib.hid hW4
        have hbz : Below w.heap.size w W4 := below_join hb0 hS4
        have hL4 : Laid W4 := hL0.below hS4 (Nat.le_refl _)
        obtain ⟨k0, k1, k2, k3⟩ := HK.out
        have d0 := cell_regrown (k0 _ hS4)
        have d1 := cell_regrown (k1 _ hS4)
        have d2 := cell_regrown (k2 _ hS4)
        have d3 := cell_regrown (k3 _ hS4)
        have d4 := cell_regrown (l3'.cell (i := 0) rfl)
        have d5 := cell_regrown (l3'.cell (i := 0 + 1) rfl)
        have d6 := cell_regrown (l4.cell (i := 0) rfl)
        have d7 := cell_regrown (l4.cell (i := 0 + 1) rfl)
        have c1 := in_class (W0 := W4) fun W _ => right_any x n W
        have c2 := in_class (W0 := W4) fun W _ => rright_any x n W
        have c3 := in_class (W0 := W4) fun W _ => same_any x y n m W
        have c4 := in_class (W0 := W4) fun W _ => rsame_any x y n m W
        have c5 := in_class (W0 := W4) fun W _ => less_any x y n m W
        have c6 := in_class (W0 := W4) fun W _ => rless_any x y n m W
        have c7 := in_class (W0 := W4) fun W h => print_any x n W H0.out.1 H0.out.2 (hL4.below h (Nat.le_refl _)).pows
        have c8 := in_class (W0 := W4) fun W _ => rprint_any x n W H0.out.1 H0.out.2
        have c9 := in_class (W0 := W4) fun W h => awake_any W (hL4.below h (Nat.le_refl _))
        generalize Va.right x n = r1 at c1 c2
        generalize Va.same x n y m = r2 at c3 c4
        generalize Va.less x n y m = r3 at c5 c6
        generalize prt x n = r4 at c7 c8
        obtain ⟨rz, rv, re⟩ := R
        clear k0 k1 k2 k3 l3 l3' l4 hS4 hS3 hb4 hb4' hW4 hL4 hL0 hb0 l1 l2
        go_upto_region 10 with fail
        rw [← HW4.out]
        refine wp_region_quiet_below (by kernel_rfl) (by kernel_rfl) ?_
        repeat (go_big_quiet_step (with_reducible first | exact c1 _ _ | exact c2 _ _ | exact c3 _ _ | exact c4 _ _ | exact c5 _ _ | exact c6 _ _ | exact c7 _ _ | exact c8 _ _ | exact c9 _ _))
        refine wpQuiet_nil ?_
        intro _ hw'
        obtain ⟨⟨dq, osq⟩, hw''⟩ := hw'
        subst hw''
        have hbf : Below w.heap.size w (grow (redrawn W4 dq) osq) := below_join hbz (below_regrown _ _ _)
        clear d0 d1 d2 d3 d4 d5 d6 d7 c1 c2 c3 c4 c5 c6 c7 c8 c9 hbz
        generalize grow (redrawn W4 dq) osq = wz at hbf ⊢
        go_wp2
        go_ret
        exact ⟨rfl, hbf⟩
end Go.Proofs.YtlaelegbfjpodaaDoor
