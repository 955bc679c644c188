/-
  THE LAW RejectTells, walked.
-/
import Derived.Test.YtpdgbfeciacbdaaDoorAwakeSevenM
import Derived.Test.YtpdgbfeciacbdaaDoorRejbM
namespace Go.Proofs.YtpdgbfeciacbdaaDoor
open Go.RowKit Go.Sort
set_option maxHeartbeats 6400000

set_option maxRecDepth 100000 in
theorem rejtells_any (d N : Nat) (hN : N < 18446744073709551616) (u : Value) (ps : List Pd) (w : World) (hu : PsAt d w u ps) (hWant : Want w) :
    Calls Tryd.prog 3 #[u, .int .u64 (N : Int)] w fun e w' => e = .returned (.bool true) ∧ Below w.heap.size w w' := by
  have cf := few7_any d u ps w hu
  obtain ⟨A, c, rfl, hl⟩ := hu.form
  have HU := Lib.hid hu
  have HWN := Lib.hid hWant
  obtain ⟨b, hb0⟩ : ∃ b, b = Rj.few ps := ⟨_, rfl⟩
  rw [← hb0] at cf
  have HB := Lib.hid hb0
  obtain ⟨n, hn⟩ : ∃ n, n = ps.length := ⟨_, rfl⟩
  rw [← hn] at hl HU cf ⊢
  have HN := Lib.hid hn
  clear hu hWant hb0 hn
  go_enter Tryd.func3, Tryd.ntmps3
  go_wp2_with fail
  refine cf.mono ?_
  rintro e w1 ⟨rfl, hb1⟩
  clear cf
  cases b
  · have ca := awake7_any w1 (HWN.out.below hb1 (Nat.le_refl _))
    go_wp2_with fail
    refine ca.mono ?_
    rintro e w2 ⟨rfl, hb2⟩
    clear ca
    go_wp2_with fail
    go_ret
    exact ⟨rfl, below_join hb1 hb2⟩
  obtain ⟨hl20, hsz⟩ := Rj.few_yes HB.out.symm
  have HZ := Lib.hid hsz
  clear hl20 hsz
  go_wp2_with fail
  go_loopw [5] (fun i wr => ∃ q : Nat, q ≤ n ∧ i = .int .i64 q ∧ Below w.heap.size w wr) (fun i _ => n - (intOf i).toNat)
  case atStart => exact ⟨0, Nat.zero_le _, rfl, hb1⟩
  case round =>
    obtain ⟨q, hq, rfl, hb⟩ := hrel
    by_cases hlt : q < n
    · obtain ⟨p, gp⟩ : ∃ p, ps[q]? = some p := ⟨ps[q]'(by have := HN.out; omega), List.getElem?_eq_getElem _⟩
      have hu := HU.out
      rw [HN.out] at hu
      obtain ⟨e, b', o, s, v, he, rfl, hblt, hx⟩ := hu.at_ gp
      obtain ⟨hcell, hps⟩ := hx wr hb
      have hd := Pr.sizes_down gp
      have cm := rmay_any e N hN p.f v p.ps wr hps (by have := HZ.out; omega) (HWN.out.below hb (Nat.le_refl _))
      have HX := Lib.hid hx
      obtain ⟨⟨m0, m1, m2⟩, hm⟩ : ∃ m : M3, m = Rj.may N (.mk p.f p.ps) := ⟨_, rfl⟩
      rw [← hm] at cm
      have HM := Lib.hid hm
      dsimp only at cm
      have i1 : (0 : Int) ≤ (q : Int) := by omega
      have i2 : (q : Int) < (n : Int) := by omega
      obtain ⟨x0, x1, x2, x3, x4, x5, x6, x7, x8, x9, x10, x11, x12, x13⟩ := hcell
      clear gp hu hx hm hblt hd hps
      go_wp2_with fail
      refine cm.mono ?_
      rintro e2 w2 ⟨rfl, hb2⟩
      have hb3 := below_join hb hb2
      clear cm hb2 x0 x1 x2 x3 x4 x5 x6 x7 x8 x9 x10 x11 x12 x13
      go_upto_region 7 with (fail)
      obtain ⟨W3, hW3⟩ : ∃ W3, W3 = w2.alloc (Obj.cells #[.bool m0, .bool m1, .bool m2] 26) := ⟨_, rfl⟩
      obtain ⟨l3, hb4⟩ := box_one (cs := [.bool m0, .bool m1, .bool m2]) hW3
      rw [← hW3]
      have hb5 := below_join hb3 hb4
      obtain ⟨hcell, _⟩ := HX.out W3 hb5
      have c0 := in_class (W0 := W3) fun W h => r7is_at N hN e p.f v p.ps 0 W ((HX.out W (below_join hb5 h)).2) (by decide)
      have c1 := in_class (W0 := W3) fun W h => r7is_at N hN e p.f v p.ps 1 W ((HX.out W (below_join hb5 h)).2) (by decide)
      have c2 := in_class (W0 := W3) fun W h => r7is_at N hN e p.f v p.ps 2 W ((HX.out W (below_join hb5 h)).2) (by decide)
      rw [← HM.out, M3.get_0] at c0
      rw [← HM.out, M3.get_1] at c1
      rw [← HM.out, M3.get_2] at c2
      dsimp only at c0 c1 c2
      have g0 := cell_regrown hcell.c0
      have g1 := cell_regrown hcell.c1
      have g2 := cell_regrown hcell.c2
      have g3 := cell_regrown hcell.c3
      have g4 := cell_regrown hcell.c4
      have g5 := cell_regrown hcell.c5
      have g6 := cell_regrown hcell.c6
      have g7 := cell_regrown hcell.c7
      have g8 := cell_regrown hcell.c8
      have g9 := cell_regrown hcell.c9
      have g10 := cell_regrown hcell.c10
      have g11 := cell_regrown hcell.c11
      have g12 := cell_regrown hcell.c12
      have g13 := cell_regrown hcell.c13
      have y0 := cell_regrown (l3.cell (i := 0) rfl)
      have y1 := cell_regrown (l3.cell (i := 1) rfl)
      have y2 := cell_regrown (l3.cell (i := 2) rfl)
      have zq : ∀ W, (binOp .neq 26 (.agg #[.bool m0, .bool m1, .bool m2]) (.agg #[.bool m0, .bool m1, .bool m2])).run Tryd.prog W = .ok (.bool false) W := fun W => by rw [arr_ne]; simp
      clear hcell l3 hW3 hb3 hb4 hb
      refine wp_region_quiet_below (by kernel_rfl) (by kernel_rfl) ?_
      repeat (go_big_quiet_step (with_reducible first | exact c0 _ _ | exact c1 _ _ | exact c2 _ _))
      refine wpQuiet_nil ?_
      intro _ hw'
      obtain ⟨⟨dq, osq⟩, hw''⟩ := hw'
      subst hw''
      have hb6 := below_join hb5 (below_regrown W3 dq osq)
      clear g0 g1 g2 g3 g4 g5 g6 g7 g8 g9 g10 g11 g12 g13 y0 y1 y2 zq i1 i2 hb5 c0 c1 c2
      generalize grow (redrawn W3 dq) osq = w7 at hb6 ⊢
      go_wp2_with fail
      go_roundw
      case rel => exact ⟨q + 1, by omega, by go_num, hb6⟩
      case measure => simp [intOf]; omega
    · have d1 : decide (q < n) = false := by simpa using hlt
      have c1 := rrej_any d N hN _ ps wr (HU.out.below hb (Nat.le_refl _)) (by have := HZ.out; omega) (HWN.out.below hb (Nat.le_refl _))
      have c2 := fun W (h : Below w.heap.size w W) => r7rejects_any d N hN _ ps W (HU.out.below h (Nat.le_refl _))
      generalize Rj.rejects N ps = r at c1 c2
      go_wp2_with fail
      refine c1.mono ?_
      rintro e2 w2 ⟨rfl, hb2⟩
      have hb3 := below_join hb hb2
      clear c1
      go_wp2_with fail
      refine (c2 _ hb3).mono ?_
      rintro e3 w3 ⟨rfl, hb4⟩
      have hb5 := below_join hb3 hb4
      have ca := awake7_any w3 (HWN.out.below hb5 (Nat.le_refl _))
      have er : (r == r) = true := by cases r <;> rfl
      clear c2
      go_wp2_with fail
      refine ca.mono ?_
      rintro e4 w4 ⟨rfl, hb6⟩
      clear ca
      go_wp2_with fail
      go_ret
      exact ⟨ret_bool (by simp), below_join hb5 hb6⟩
end Go.Proofs.YtpdgbfeciacbdaaDoor
