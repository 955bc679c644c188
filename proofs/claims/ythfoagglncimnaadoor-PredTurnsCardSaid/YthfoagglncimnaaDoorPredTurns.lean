/-
  THE LAW PredTurns, walked.
-/
import Derived.Test.YthfoagglncimnaaDoorAwakeSix
import Derived.Test.YthfoagglncimnaaDoorPdBuilt
import Derived.WalkLawsBesides
namespace Go.Proofs.YthfoagglncimnaaDoor
open Go.RowKit Go.Sort
set_option maxHeartbeats 3200000

theorem and_two {x y : Int} (hx : x = 0 ∨ x = 1 ∨ x = 2) (hy : y = 0 ∨ y = 1 ∨ y = 2) : Lo.andI [x, y] = if x ≤ y then x else y := by
  rcases hx with rfl | rfl | rfl <;> rcases hy with rfl | rfl | rfl <;> decide
theorem or_two {x y : Int} (hx : x = 0 ∨ x = 1 ∨ x = 2) (hy : y = 0 ∨ y = 1 ∨ y = 2) : Lo.orI [x, y] = if y ≤ x then x else y := by
  rcases hx with rfl | rfl | rfl <;> rcases hy with rfl | rfl | rfl <;> decide
set_option maxRecDepth 100000 in
theorem predturns_any (d : Nat) (f g : Pf) (u v : Value) (ps qs : List Pd) (r : Value) (rs : List (List Vl)) (w : World) (hu : PsAt d w u ps) (hv : PsAt d w v qs) (hr : Rws w r rs) (hWant : Want w) :
    Calls Tryd.prog 5 #[.agg #[.int .i64 f.k, .int .i64 f.u, .int .i64 f.o, .int .i64 f.a.k, .int .i64 f.a.t, .int .i64 f.a.c, .bool f.a.z, .int .i64 f.a.n, .int .i64 f.b.k, .int .i64 f.b.t, .int .i64 f.b.c, .bool f.b.z, .int .i64 f.b.n, u], .agg #[.int .i64 g.k, .int .i64 g.u, .int .i64 g.o, .int .i64 g.a.k, .int .i64 g.a.t, .int .i64 g.a.c, .bool g.a.z, .int .i64 g.a.n, .int .i64 g.b.k, .int .i64 g.b.t, .int .i64 g.b.c, .bool g.b.z, .int .i64 g.b.n, v], r] w fun e w' => e = .returned (.bool true) ∧ Below w.heap.size w w' := by
  obtain ⟨W0, hW0⟩ : ∃ W0, W0 = (w.alloc (Obj.cells #[.int .i64 f.k, .int .i64 f.u, .int .i64 f.o, .int .i64 f.a.k, .int .i64 f.a.t, .int .i64 f.a.c, .bool f.a.z, .int .i64 f.a.n, .int .i64 f.b.k, .int .i64 f.b.t, .int .i64 f.b.c, .bool f.b.z, .int .i64 f.b.n, u] 28)).alloc (Obj.cells #[.int .i64 g.k, .int .i64 g.u, .int .i64 g.o, .int .i64 g.a.k, .int .i64 g.a.t, .int .i64 g.a.c, .bool g.a.z, .int .i64 g.a.n, .int .i64 g.b.k, .int .i64 g.b.t, .int .i64 g.b.c, .bool g.b.z, .int .i64 g.b.n, v] 28) := ⟨_, rfl⟩
  obtain ⟨p0, p1, hb0, hlt0⟩ := pd_boxes hW0
  have hu0 := hu.below hb0 (Nat.le_refl _)
  have hv0 := hv.below hb0 (Nat.le_refl _)
  have hr0 := hr.below hb0 (Nat.le_refl _)
  have cf := few6_any d f u ps r rs W0 hu0 hr0
  have HU := Lib.hid hu0
  have HV := Lib.hid hv0
  have HR := Lib.hid hr0
  have HWN := Lib.hid (hWant.below hb0 (Nat.le_refl _))
  have HW := Lib.hid hW0
  have HP := Lib.hid p0
  have HQ := Lib.hid p1
  have HL := Lib.hid hlt0
  clear hWant hW0 hu hv hr hu0 hv0 hr0 p1 hlt0
  obtain ⟨k0, k1, k2, k3, k4, k5, k6, k7, k8, k9, k10, k11, k12, k13⟩ := p0
  rw [HW.out] at k0 k1 k2 k3 k4 k5 k6 k7 k8 k9 k10 k11 k12 k13 cf
  obtain ⟨b1, hb1⟩ : ∃ b, b = Pr.few (.mk f ps) rs := ⟨_, rfl⟩
  rw [← hb1] at cf
  have HB1 := Lib.hid hb1
  clear hb1
  go_enter Tryd.func5, Tryd.ntmps5
  go_wp2_with fail
  rw [← HW.out] at cf ⊢
  refine cf.mono ?_
  rintro e w1 ⟨rfl, hb1⟩
  clear cf k0 k1 k2 k3 k4 k5 k6 k7 k8 k9 k10 k11 k12 k13
  cases b1
  · have ca := awake6_any w1 (HWN.out.below hb1 (Nat.le_refl _))
    go_wp2_with fail
    refine ca.mono ?_
    rintro e w2 ⟨rfl, hb2⟩
    go_wp2_with fail
    go_ret
    exact ⟨rfl, below_join (below_join hb0 hb1) hb2⟩
  obtain ⟨k0, k1, k2, k3, k4, k5, k6, k7, k8, k9, k10, k11, k12, k13⟩ := HQ.out.below hb1 (show w.heap.size + 1 < W0.heap.size from HL.out)
  have cg := few6_any d g v qs r rs w1 (HV.out.below hb1 (Nat.le_refl _)) (HR.out.below hb1 (Nat.le_refl _))
  obtain ⟨b2, hb2⟩ : ∃ b, b = Pr.few (.mk g qs) rs := ⟨_, rfl⟩
  rw [← hb2] at cg
  have HB2 := Lib.hid hb2
  clear hb2
  go_wp2_with fail
  refine cg.mono ?_
  rintro e w2 ⟨rfl, hb2⟩
  have hb3 := below_join hb1 hb2
  clear cg k0 k1 k2 k3 k4 k5 k6 k7 k8 k9 k10 k11 k12 k13 hb1 hb2
  cases b2
  · have ca := awake6_any w2 (HWN.out.below hb3 (Nat.le_refl _))
    go_wp2_with fail
    refine ca.mono ?_
    rintro e w3 ⟨rfl, hb4⟩
    go_wp2_with fail
    go_ret
    exact ⟨rfl, below_join (below_join hb0 hb3) hb4⟩
  obtain ⟨⟨h70, h20⟩, hs1⟩ := Pr.few_yes HB1.out.symm
  obtain ⟨_, hs2⟩ := Pr.few_yes HB2.out.symm
  have hz1 : Pr.sizes ps ≤ 199 := by rw [Pr.size_at] at hs1; show Pr.sizes ps ≤ 199; have : (Pd.mk f ps).ps = ps := rfl; rw [this] at hs1; omega
  have hz2 : Pr.sizes qs ≤ 199 := by rw [Pr.size_at] at hs2; have : (Pd.mk g qs).ps = qs := rfl; rw [this] at hs2; omega
  have h70' : rs.length ≤ 1000 := by omega
  have h20' : ∀ r ∈ rs, r.length ≤ 1000 := fun r hr => by have := h20 r hr; omega
  have HS := Lib.hid (And.intro h70' (And.intro h20' (And.intro hz1 hz2)))
  have c1 := in_class (W0 := w2) fun W h => pof_any d f u ps r rs W ((HU.out.below hb3 (Nat.le_refl _)).below h (Nat.le_refl _)) (by omega) ((HR.out.below hb3 (Nat.le_refl _)).below h (Nat.le_refl _)) ((HWN.out.below hb3 (Nat.le_refl _)).below h (Nat.le_refl _))
  have c2 := in_class (W0 := w2) fun W h => pof_any d g v qs r rs W ((HV.out.below hb3 (Nat.le_refl _)).below h (Nat.le_refl _)) (by omega) ((HR.out.below hb3 (Nat.le_refl _)).below h (Nat.le_refl _)) ((HWN.out.below hb3 (Nat.le_refl _)).below h (Nat.le_refl _))
  have hx := Pr.of_cases rs (.mk f ps)
  have hy := Pr.of_cases rs (.mk g qs)
  obtain ⟨x, hx1⟩ : ∃ x, x = Pr.of rs (.mk f ps) := ⟨_, rfl⟩
  obtain ⟨y, hy1⟩ : ∃ y, y = Pr.of rs (.mk g qs) := ⟨_, rfl⟩
  rw [← hx1] at c1 hx
  rw [← hy1] at c2 hy
  have HX := Lib.hid hx1
  have HY := Lib.hid hy1
  have hx0 : 0 ≤ x := by omega
  have hx2 : x ≤ 2 := by omega
  have HXC := Lib.hid (And.intro hx hy)
  clear hx1 hy1 h70 h20 hs1 hs2 hz1 hz2 h70' h20' hx hy HB1 HB2
  go_wp2_with fail
  obtain ⟨k0, k1, k2, k3, k4, k5, k6, k7, k8, k9, k10, k11, k12, k13⟩ := HP.out.below hb3 (show w.heap.size < W0.heap.size by have := HL.out; omega)
  obtain ⟨m0, m1, m2, m3, m4, m5, m6, m7, m8, m9, m10, m11, m12, m13⟩ := HQ.out.below hb3 (show w.heap.size + 1 < W0.heap.size from HL.out)
  have i0 := cell_regrown k0
  have j0 := cell_regrown m0
  have i1 := cell_regrown k1
  have j1 := cell_regrown m1
  have i2 := cell_regrown k2
  have j2 := cell_regrown m2
  have i3 := cell_regrown k3
  have j3 := cell_regrown m3
  have i4 := cell_regrown k4
  have j4 := cell_regrown m4
  have i5 := cell_regrown k5
  have j5 := cell_regrown m5
  have i6 := cell_regrown k6
  have j6 := cell_regrown m6
  have i7 := cell_regrown k7
  have j7 := cell_regrown m7
  have i8 := cell_regrown k8
  have j8 := cell_regrown m8
  have i9 := cell_regrown k9
  have j9 := cell_regrown m9
  have i10 := cell_regrown k10
  have j10 := cell_regrown m10
  have i11 := cell_regrown k11
  have j11 := cell_regrown m11
  have i12 := cell_regrown k12
  have j12 := cell_regrown m12
  have i13 := cell_regrown k13
  have j13 := cell_regrown m13
  clear k0 k1 k2 k3 k4 k5 k6 k7 k8 k9 k10 k11 k12 k13 m0 m1 m2 m3 m4 m5 m6 m7 m8 m9 m10 m11 m12 m13
  refine wp_region_quiet_below (by kernel_rfl) (by kernel_rfl) ?_
  repeat (go_big_quiet_step (with_reducible first | exact c1 _ _ | exact c2 _ _))
  refine wpQuiet_nil ?_
  intro _ hw'
  obtain ⟨⟨dq, osq⟩, hw''⟩ := hw'
  subst hw''
  have hb4 := below_join hb3 (below_regrown w2 dq osq)
  clear c1 c2 i0 i1 i2 i3 i4 i5 i6 i7 i8 i9 i10 i11 i12 i13 j0 j1 j2 j3 j4 j5 j6 j7 j8 j9 j10 j11 j12 j13 hb3
  generalize grow (redrawn w2 dq) osq = w3 at hb4 ⊢
  obtain ⟨k0, k1, k2, k3, k4, k5, k6, k7, k8, k9, k10, k11, k12, k13⟩ := HP.out.below hb4 (show w.heap.size < W0.heap.size by have := HL.out; omega)
  obtain ⟨m0, m1, m2, m3, m4, m5, m6, m7, m8, m9, m10, m11, m12, m13⟩ := HQ.out.below hb4 (show w.heap.size + 1 < W0.heap.size from HL.out)
  have hl := preds_built w3 d f g u v ps qs w3.heap.size rfl (HU.out.below hb4 (Nat.le_refl _)) (HV.out.below hb4 (Nat.le_refl _))
  have hb5 : Below W0.heap.size W0 (w3.alloc (Obj.cells #[.int .i64 f.k, .int .i64 f.u, .int .i64 f.o, .int .i64 f.a.k, .int .i64 f.a.t, .int .i64 f.a.c, .bool f.a.z, .int .i64 f.a.n, .int .i64 f.b.k, .int .i64 f.b.t, .int .i64 f.b.c, .bool f.b.z, .int .i64 f.b.n, u, .int .i64 g.k, .int .i64 g.u, .int .i64 g.o, .int .i64 g.a.k, .int .i64 g.a.t, .int .i64 g.a.c, .bool g.a.z, .int .i64 g.a.n, .int .i64 g.b.k, .int .i64 g.b.t, .int .i64 g.b.c, .bool g.b.z, .int .i64 g.b.n, v] 28)) := below_join hb4 (below_new _ _)
  have HB5 := Lib.hid (below_join hb0 hb5)
  have HH := Lib.hid (HR.out.below hb5 (Nat.le_refl _))
  have HW5 := Lib.hid (HWN.out.below hb5 (Nat.le_refl _))
  go_wp2_with fail
  obtain ⟨W5, hW5⟩ : ∃ W5, W5 = w3.alloc (Obj.cells #[.int .i64 f.k, .int .i64 f.u, .int .i64 f.o, .int .i64 f.a.k, .int .i64 f.a.t, .int .i64 f.a.c, .bool f.a.z, .int .i64 f.a.n, .int .i64 f.b.k, .int .i64 f.b.t, .int .i64 f.b.c, .bool f.b.z, .int .i64 f.b.n, u, .int .i64 g.k, .int .i64 g.u, .int .i64 g.o, .int .i64 g.a.k, .int .i64 g.a.t, .int .i64 g.a.c, .bool g.a.z, .int .i64 g.a.n, .int .i64 g.b.k, .int .i64 g.b.t, .int .i64 g.b.c, .bool g.b.z, .int .i64 g.b.n, v] 28) := ⟨_, rfl⟩
  rw [← hW5] at hl HB5 HH HW5 ⊢
  obtain ⟨h70', h20', hz1, hz2⟩ := HS.out
  have hsz : Pr.sizes [Pd.mk f ps, Pd.mk g qs] ≤ 1000 := by rw [Pr.sizes, Pr.sizes, Pr.sizes, Pr.size, Pr.size]; omega
  have hmap : [Pd.mk f ps, Pd.mk g qs].map (Pr.of rs) = [x, y] := by rw [HX.out, HY.out]; rfl
  have cN := in_turn (W0 := W5) fun W h => pof_any (d + 1) ⟨6, 0, 0, ⟨0, 0, 0, false, 0⟩, ⟨0, 0, 0, false, 0⟩⟩ (.slice (some ⟨w3.heap.size, 0, none⟩) 2 2) [Pd.mk f ps, Pd.mk g qs] r rs W (hl.below h (Nat.le_refl _)) hsz (HH.out.below h (Nat.le_refl _)) (HW5.out.below h (Nat.le_refl _))
  have cA := in_turn (W0 := W5) fun W h => pof_any (d + 1) ⟨4, 0, 0, ⟨0, 0, 0, false, 0⟩, ⟨0, 0, 0, false, 0⟩⟩ (.slice (some ⟨w3.heap.size, 0, none⟩) 2 2) [Pd.mk f ps, Pd.mk g qs] r rs W (hl.below h (Nat.le_refl _)) hsz (HH.out.below h (Nat.le_refl _)) (HW5.out.below h (Nat.le_refl _))
  have cO := in_turn (W0 := W5) fun W h => pof_any (d + 1) ⟨5, 0, 0, ⟨0, 0, 0, false, 0⟩, ⟨0, 0, 0, false, 0⟩⟩ (.slice (some ⟨w3.heap.size, 0, none⟩) 2 2) [Pd.mk f ps, Pd.mk g qs] r rs W (hl.below h (Nat.le_refl _)) hsz (HH.out.below h (Nat.le_refl _)) (HW5.out.below h (Nat.le_refl _))
  rw [Pr.of_eq, hmap, Pr.made_6c rfl] at cN
  rw [Pr.of_eq, hmap, Pr.made_4 rfl, and_two HXC.out.1 HXC.out.2] at cA
  rw [Pr.of_eq, hmap, Pr.made_5 rfl, or_two HXC.out.1 HXC.out.2] at cO
  dsimp only at cN cA cO
  have cn := fun W => r4not_any x W
  have cw := in_turn (W0 := W5) fun W h => awake6_any W (HW5.out.below h (Nat.le_refl _))
  generalize Lo.notI x = nx at cN cn
  have hS := Below.refl W5.heap.size W5
  clear hW5 hl HH h70' h20' hz1 hz2 hsz hmap k0 k1 k2 k3 k4 k5 k6 k7 k8 k9 k10 k11 k12 k13 m0 m1 m2 m3 m4 m5 m6 m7 m8 m9 m10 m11 m12 m13 hb4 hb5
  go_wp2_with ((first
    | (with_reducible refine (cN _ (by assumption)).mono ?_; rintro e w' ⟨rfl, hS'⟩) | (with_reducible refine (cn _).mono ?_; rintro e w' ⟨rfl, rfl⟩)
    | (with_reducible refine (cA _ (by assumption)).mono ?_; rintro e w' ⟨rfl, hS'⟩) | (with_reducible refine (cO _ (by assumption)).mono ?_; rintro e w' ⟨rfl, hS'⟩) | (with_reducible refine (cw _ (by assumption)).mono ?_; rintro e w' ⟨rfl, hS'⟩)))
  all_goals go_ret
  all_goals exact ⟨rfl, below_join HB5.out (by assumption)⟩
end Go.Proofs.YthfoagglncimnaaDoor
