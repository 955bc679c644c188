/-
  THE CONTRACT OF package pred's Right, whole.
-/
import Derived.Test.YteimbdklakemaaaGreatDoorPredrM
namespace Go.Proofs.YteimbdklakemaaaGreatDoor
open Go.RowKit Go.Sort
set_option maxHeartbeats 3200000

theorem ps_nil (d : Nat) (w : World) : PsAt d w (.slice none 0 0) [] := PsAt.mono (d := 0) ⟨rfl, none, 0, rfl⟩ (Nat.zero_le _)
/-- what Same says of a predicate and one that has only fields -/
theorem psame_bare (d : Nat) (f g : Pf) (A : Option Addr) (c : Nat) (ps : List Pd) {W0 : World} (hu : PsAt d W0 (.slice A ps.length c) ps) :
    ∀ W, Below W0.heap.size W0 W → Calls Tryz.prog 65 #[.agg #[.int .i64 f.k, .int .i64 f.u, .int .i64 f.o, .int .i64 f.a.k, .int .i64 f.a.t, .int .i64 f.a.c, .bool f.a.z, .int .i64 f.a.n, .int .i64 f.b.k, .int .i64 f.b.t, .int .i64 f.b.c, .bool f.b.z, .int .i64 f.b.n, .slice A ps.length c], .agg #[.int .i64 g.k, .int .i64 g.u, .int .i64 g.o, .int .i64 g.a.k, .int .i64 g.a.t, .int .i64 g.a.c, .bool g.a.z, .int .i64 g.a.n, .int .i64 g.b.k, .int .i64 g.b.t, .int .i64 g.b.c, .bool g.b.z, .int .i64 g.b.n, .slice none 0 0]] W fun e w' => e = .returned (.bool (Pr.same (.mk f ps) (.mk g []))) ∧ Below W.heap.size W w' :=
  fun W h => psame_any d f g _ _ ps [] W (hu.below h (Nat.le_refl _)) (ps_nil d W)
set_option maxRecDepth 100000 in
theorem pright_at (d : Nat) : ∀ (f : Pf) (u : Value) (ps : List Pd) (dp : Nat) (w : World), PsAt d w u ps → dp ≤ 1000 → Calls Tryz.prog 54 #[.agg #[.int .i64 f.k, .int .i64 f.u, .int .i64 f.o, .int .i64 f.a.k, .int .i64 f.a.t, .int .i64 f.a.c, .bool f.a.z, .int .i64 f.a.n, .int .i64 f.b.k, .int .i64 f.b.t, .int .i64 f.b.c, .bool f.b.z, .int .i64 f.b.n, u], .int .i64 (dp : Int)] w fun e w' => e = .returned (.bool (Pr.rightAt (.mk f ps) dp)) ∧ Below w.heap.size w w' := by
  induction d using Nat.strongRecOn with
  | ind d ih =>
  intro f u ps dp w hu hdp
  obtain ⟨A, c, rfl, hl⟩ := hu.form
  obtain ⟨W0, hW0⟩ : ∃ W0, W0 = w.alloc (Obj.cells #[.int .i64 f.k, .int .i64 f.u, .int .i64 f.o, .int .i64 f.a.k, .int .i64 f.a.t, .int .i64 f.a.c, .bool f.a.z, .int .i64 f.a.n, .int .i64 f.b.k, .int .i64 f.b.t, .int .i64 f.b.c, .bool f.b.z, .int .i64 f.b.n, .slice A ps.length c] 43) := ⟨_, rfl⟩
  obtain ⟨l0, p0, hb0⟩ := pd_box hW0
  have hu0 := hu.below hb0 (Nat.le_refl _)
  have HU := Lib.hid hu0
  have HW := Lib.hid hW0
  have HP := Lib.hid p0
  have HL := Lib.hid l0.lt
  have IH := Lib.hid ih
  by_cases h4 : dp ≤ 4
  rotate_left
  · rw [Pr.right_deep h4]
    have h5 : 4 < dp := by omega
    clear hu hu0 ih p0 l0 hW0
    go_enter Tryz.func54, Tryz.ntmps54
    go_upto_region 1 with (fail)
    rw [← HW.out]
    go_wp2_with fail
    go_ret
    exact ⟨rfl, hb0⟩
  by_cases k1 : f.k = 1
  · rw [Pr.right_1 k1 h4]
    have cs := psame_bare d f ⟨f.k, f.u, 0, Te.nil, Te.nil⟩ A c ps hu0 W0 (Below.refl _ _)
    have cr := lright_any f.u
    obtain ⟨r1, hr1⟩ : ∃ r, r = Pr.same (.mk f ps) (.mk ⟨f.k, f.u, 0, Te.nil, Te.nil⟩ []) := ⟨_, rfl⟩
    obtain ⟨r2, hr2⟩ : ∃ r, r = (f.u == 0 || f.u == 1 || f.u == 2) := ⟨_, rfl⟩
    rw [← hr1] at cs ⊢
    rw [← hr2] at cr ⊢
    have e1 : (f.k == 1) = true := by simpa using k1
    obtain ⟨x0, x1, x2, x3, x4, x5, x6, x7, x8, x9, x10, x11, x12, x13⟩ := p0
    clear hu hu0 ih l0 hW0 hr1 hr2 k1
    go_enter Tryz.func54, Tryz.ntmps54
    go_upto_region 1 with (fail)
    rw [← HW.out]
    go_wp2_with fail
    refine cs.mono ?_
    rintro e w2 ⟨rfl, hb2⟩
    clear cs x0 x1 x2 x3 x4 x5 x6 x7 x8 x9 x10 x11 x12 x13
    have x1 := (HP.out.below hb2 (show w.heap.size < W0.heap.size from HL.out)).c1
    cases r1
    · go_wp2_with fail
      go_ret
      exact ⟨rfl, below_join hb0 hb2⟩
    · go_wp2_with fail
      refine (cr _).mono ?_
      rintro e w3 ⟨rfl, rfl⟩
      clear x1 cr
      go_wp2_with fail
      go_ret
      exact ⟨ret_bool (by simp), below_join hb0 hb2⟩
  by_cases k2 : f.k = 2
  · rw [Pr.right_2 k2 h4]
    have cs := psame_bare d f ⟨f.k, 0, f.o, f.a, f.b⟩ A c ps hu0 W0 (Below.refl _ _)
    have cr := pcomp_any f.o
    have ca := tright_any f.a.k f.a.t f.a.c f.a.z f.a.n
    have cb := tright_any f.b.k f.b.t f.b.c f.b.z f.b.n
    obtain ⟨r1, hr1⟩ : ∃ r, r = Pr.same (.mk f ps) (.mk ⟨f.k, 0, f.o, f.a, f.b⟩ []) := ⟨_, rfl⟩
    obtain ⟨r2, hr2⟩ : ∃ r, r = (decide (1 ≤ f.o) && decide (f.o ≤ 6)) := ⟨_, rfl⟩
    obtain ⟨r3, hr3⟩ : ∃ r, r = Te.right ⟨f.a.k, f.a.t, f.a.c, f.a.z, f.a.n⟩ := ⟨_, rfl⟩
    obtain ⟨r4, hr4⟩ : ∃ r, r = Te.right ⟨f.b.k, f.b.t, f.b.c, f.b.z, f.b.n⟩ := ⟨_, rfl⟩
    have hr3' : Te.right f.a = r3 := hr3.symm
    have hr4' : Te.right f.b = r4 := hr4.symm
    rw [← hr1] at cs ⊢
    rw [← hr2] at cr ⊢
    rw [← hr3] at ca
    rw [← hr4] at cb
    rw [hr3', hr4']
    have e1 : (f.k == 1) = false := by simp; omega
    have e2 : (f.k == 2) = true := by simpa using k2
    obtain ⟨x0, x1, x2, x3, x4, x5, x6, x7, x8, x9, x10, x11, x12, x13⟩ := p0
    clear hu hu0 ih l0 hW0 hr1 hr2 hr3 hr4 hr3' hr4' k1 k2
    go_enter Tryz.func54, Tryz.ntmps54
    go_upto_region 1 with (fail)
    rw [← HW.out]
    go_wp2_with fail
    refine cs.mono ?_
    rintro e w2 ⟨rfl, hb2⟩
    clear cs x0 x1 x2 x3 x4 x5 x6 x7 x8 x9 x10 x11 x12 x13
    obtain ⟨x0, x1, x2, x3, x4, x5, x6, x7, x8, x9, x10, x11, x12, x13⟩ := HP.out.below hb2 (show w.heap.size < W0.heap.size from HL.out)
    cases r1
    · go_wp2_with fail
      go_ret
      exact ⟨rfl, below_join hb0 hb2⟩
    cases r2
    · go_wp2_with (first | (with_reducible refine (cr _).mono ?_; rintro e w3 ⟨rfl, rfl⟩))
      go_ret
      exact ⟨rfl, below_join hb0 hb2⟩
    cases r3
    · go_wp2_with (first | (with_reducible refine (cr _).mono ?_; rintro e w3 ⟨rfl, rfl⟩) | (with_reducible refine (ca _).mono ?_; rintro e w4 ⟨rfl, hb3⟩))
      go_ret
      exact ⟨rfl, below_join hb0 (below_join hb2 hb3)⟩
    go_wp2_with (first | (with_reducible refine (cr _).mono ?_; rintro e w3 ⟨rfl, rfl⟩))
    refine (ca _).mono ?_
    rintro e w4 ⟨rfl, hb3⟩
    clear x0 x1 x2 x3 x4 x5 x6 x7 x8 x9 x10 x11 x12 x13
    have hb4 := below_join hb2 hb3
    obtain ⟨x0, x1, x2, x3, x4, x5, x6, x7, x8, x9, x10, x11, x12, x13⟩ := HP.out.below hb4 (show w.heap.size < W0.heap.size from HL.out)
    clear hb3
    go_wp2_with fail
    refine (cb _).mono ?_
    rintro e w5 ⟨rfl, hb5⟩
    clear x0 x1 x2 x3 x4 x5 x6 x7 x8 x9 x10 x11 x12 x13 cr ca cb
    go_wp2_with fail
    go_ret
    exact ⟨ret_bool (by simp), below_join hb0 (below_join hb4 hb5)⟩
  by_cases k3 : f.k = 3
  · rw [Pr.right_3 k3 h4]
    have cs := psame_bare d f ⟨f.k, 0, 0, f.a, Te.nil⟩ A c ps hu0 W0 (Below.refl _ _)
    have ca := tright_any f.a.k f.a.t f.a.c f.a.z f.a.n
    obtain ⟨r1, hr1⟩ : ∃ r, r = Pr.same (.mk f ps) (.mk ⟨f.k, 0, 0, f.a, Te.nil⟩ []) := ⟨_, rfl⟩
    obtain ⟨r3, hr3⟩ : ∃ r, r = Te.right ⟨f.a.k, f.a.t, f.a.c, f.a.z, f.a.n⟩ := ⟨_, rfl⟩
    have hr3' : Te.right f.a = r3 := hr3.symm
    rw [← hr1] at cs ⊢
    rw [← hr3] at ca
    rw [hr3']
    have e1 : (f.k == 1) = false := by simp; omega
    have e2 : (f.k == 2) = false := by simp; omega
    have e3 : (f.k == 3) = true := by simpa using k3
    obtain ⟨x0, x1, x2, x3, x4, x5, x6, x7, x8, x9, x10, x11, x12, x13⟩ := p0
    clear hu hu0 ih l0 hW0 hr1 hr3 hr3' k1 k2 k3
    go_enter Tryz.func54, Tryz.ntmps54
    go_upto_region 1 with (fail)
    rw [← HW.out]
    go_wp2_with fail
    refine cs.mono ?_
    rintro e w2 ⟨rfl, hb2⟩
    clear cs x0 x1 x2 x3 x4 x5 x6 x7 x8 x9 x10 x11 x12 x13
    obtain ⟨x0, x1, x2, x3, x4, x5, x6, x7, x8, x9, x10, x11, x12, x13⟩ := HP.out.below hb2 (show w.heap.size < W0.heap.size from HL.out)
    cases r1
    · go_wp2_with fail
      go_ret
      exact ⟨rfl, below_join hb0 hb2⟩
    go_wp2_with fail
    refine (ca _).mono ?_
    rintro e w4 ⟨rfl, hb3⟩
    clear x0 x1 x2 x3 x4 x5 x6 x7 x8 x9 x10 x11 x12 x13
    go_wp2_with fail
    go_ret
    exact ⟨ret_bool (by simp), below_join hb0 (below_join hb2 hb3)⟩
  have e1 : (f.k == 1) = false := by simp; omega
  have e2 : (f.k == 2) = false := by simp; omega
  have e3 : (f.k == 3) = false := by simp; omega
  have cj := pjoins_of d dp ih f (.slice A ps.length c) ps W0 hu0 (by omega)
  obtain ⟨rj, hrj⟩ : ∃ r, r = (Pr.fsame f ⟨f.k, 0, 0, Te.nil, Te.nil⟩ && Pr.rightAts ps (dp + 1)) := ⟨_, rfl⟩
  rw [← hrj] at cj
  have HJ := Lib.hid hrj
  by_cases k45 : f.k = 4 ∨ f.k = 5
  · rw [Pr.right_45 k45 h4, ← HJ.out]
    have HK := Lib.hid k45
    obtain ⟨x0, x1, x2, x3, x4, x5, x6, x7, x8, x9, x10, x11, x12, x13⟩ := p0
    obtain ⟨n, hn⟩ : ∃ n, n = ps.length := ⟨_, rfl⟩
    rw [← hn] at cj x13 hl HW HP HU ⊢
    by_cases hn4 : n ≤ 4
    · have e6 : decide (n ≤ 4) = true := by simpa using hn4
      rw [e6, Bool.true_and]
      clear hu hu0 ih l0 hW0 hrj k1 k2 k3 hn k45 e6
      rcases HK.out with k | k
      · have e4 : (f.k == 4) = true := by simpa using k
        clear k
        go_enter Tryz.func54, Tryz.ntmps54
        go_upto_region 1 with (fail)
        rw [← HW.out]
        go_wp2_with fail
        refine cj.mono ?_
        rintro e w4 ⟨rfl, hb3⟩
        clear cj x0 x1 x2 x3 x4 x5 x6 x7 x8 x9 x10 x11 x12 x13
        go_wp2_with fail
        go_ret
        exact ⟨ret_bool (by simp), below_join hb0 hb3⟩
      · have e5 : (f.k == 5) = true := by simpa using k
        have e4 : (f.k == 4) = false := by simp; omega
        clear k
        go_enter Tryz.func54, Tryz.ntmps54
        go_upto_region 1 with (fail)
        rw [← HW.out]
        go_wp2_with fail
        refine cj.mono ?_
        rintro e w4 ⟨rfl, hb3⟩
        clear cj x0 x1 x2 x3 x4 x5 x6 x7 x8 x9 x10 x11 x12 x13
        go_wp2_with fail
        go_ret
        exact ⟨ret_bool (by simp), below_join hb0 hb3⟩
    · have e6 : decide (n ≤ 4) = false := by simpa using hn4
      have e7 : decide ((n : Int) ≤ 4) = false := by simp; omega
      rw [e6, Bool.false_and]
      clear hu hu0 ih l0 hW0 hrj k1 k2 k3 hn k45 cj
      rcases HK.out with k | k
      · have e4 : (f.k == 4) = true := by simpa using k
        clear k
        go_enter Tryz.func54, Tryz.ntmps54
        go_upto_region 1 with (fail)
        rw [← HW.out]
        go_wp2_with fail
        go_ret
        exact ⟨rfl, hb0⟩
      · have e5 : (f.k == 5) = true := by simpa using k
        have e4 : (f.k == 4) = false := by simp; omega
        clear k
        go_enter Tryz.func54, Tryz.ntmps54
        go_upto_region 1 with (fail)
        rw [← HW.out]
        go_wp2_with fail
        go_ret
        exact ⟨rfl, hb0⟩
  have e4 : (f.k == 4) = false := by simp; omega
  have e5 : (f.k == 5) = false := by simp; omega
  by_cases k6 : f.k = 6
  · rw [Pr.right_6 k6 h4, ← HJ.out]
    have e6 : (f.k == 6) = true := by simpa using k6
    obtain ⟨x0, x1, x2, x3, x4, x5, x6, x7, x8, x9, x10, x11, x12, x13⟩ := p0
    obtain ⟨n, hn⟩ : ∃ n, n = ps.length := ⟨_, rfl⟩
    rw [← hn] at cj x13 hl HW HP HU ⊢
    by_cases hn1 : n = 1
    · subst hn1
      clear hu hu0 ih l0 hW0 hrj k1 k2 k3 k45 k6 hn
      go_enter Tryz.func54, Tryz.ntmps54
      go_upto_region 1 with (fail)
      rw [← HW.out]
      go_wp2_with fail
      refine cj.mono ?_
      rintro e w4 ⟨rfl, hb3⟩
      clear cj x0 x1 x2 x3 x4 x5 x6 x7 x8 x9 x10 x11 x12 x13
      go_wp2_with fail
      go_ret
      exact ⟨ret_bool (by simp), below_join hb0 hb3⟩
    · have e7 : (n == 1) = false := by simpa using hn1
      have e8 : ((n : Int) == 1) = false := by simp; omega
      rw [e7, Bool.false_and]
      clear hu hu0 ih l0 hW0 hrj k1 k2 k3 k45 k6 hn cj
      go_enter Tryz.func54, Tryz.ntmps54
      go_upto_region 1 with (fail)
      rw [← HW.out]
      go_wp2_with fail
      go_ret
      exact ⟨rfl, hb0⟩
  rw [Pr.right_no (by omega)]
  have e6 : (f.k == 6) = false := by simp; omega
  obtain ⟨x0, x1, x2, x3, x4, x5, x6, x7, x8, x9, x10, x11, x12, x13⟩ := p0
  clear hu hu0 ih l0 hW0 hrj k1 k2 k3 k45 k6 cj
  go_enter Tryz.func54, Tryz.ntmps54
  go_upto_region 1 with (fail)
  rw [← HW.out]
  go_wp2_with fail
  go_ret
  exact ⟨rfl, hb0⟩
theorem pright_any (d : Nat) (f : Pf) (u : Value) (ps : List Pd) (w : World) (hu : PsAt d w u ps) :
    Calls Tryz.prog 45 #[.agg #[.int .i64 f.k, .int .i64 f.u, .int .i64 f.o, .int .i64 f.a.k, .int .i64 f.a.t, .int .i64 f.a.c, .bool f.a.z, .int .i64 f.a.n, .int .i64 f.b.k, .int .i64 f.b.t, .int .i64 f.b.c, .bool f.b.z, .int .i64 f.b.n, u]] w fun e w' => e = .returned (.bool (Pr.rightAt (.mk f ps) 1)) ∧ Below w.heap.size w w' := by
  obtain ⟨A, c, rfl, hl⟩ := hu.form
  obtain ⟨W0, hW0⟩ : ∃ W0, W0 = w.alloc (Obj.cells #[.int .i64 f.k, .int .i64 f.u, .int .i64 f.o, .int .i64 f.a.k, .int .i64 f.a.t, .int .i64 f.a.c, .bool f.a.z, .int .i64 f.a.n, .int .i64 f.b.k, .int .i64 f.b.t, .int .i64 f.b.c, .bool f.b.z, .int .i64 f.b.n, .slice A ps.length c] 43) := ⟨_, rfl⟩
  obtain ⟨l0, p0, hb0⟩ := pd_box hW0
  have cs := pright_at d f _ ps 1 W0 (hu.below hb0 (Nat.le_refl _)) (by omega)
  have HW := Lib.hid hW0
  obtain ⟨x0, x1, x2, x3, x4, x5, x6, x7, x8, x9, x10, x11, x12, x13⟩ := p0
  clear hu hW0 l0
  go_enter Tryz.func45, Tryz.ntmps45
  go_upto_region 1 with (fail)
  rw [← HW.out]
  go_wp2_with fail
  refine cs.mono ?_
  rintro e w2 ⟨rfl, hb2⟩
  clear cs x0 x1 x2 x3 x4 x5 x6 x7 x8 x9 x10 x11 x12 x13
  go_wp2_with fail
  go_ret
  exact ⟨rfl, below_join hb0 hb2⟩
end Go.Proofs.YteimbdklakemaaaGreatDoor
