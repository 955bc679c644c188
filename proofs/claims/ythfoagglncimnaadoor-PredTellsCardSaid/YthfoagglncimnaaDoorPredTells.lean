/-
  THE LAW PredTells, walked.
-/
import Derived.Test.YthfoagglncimnaaDoorPredTurns
import Derived.Test.YthfoagglncimnaaDoorSamep
import Derived.Deep.RegionHeld3
import Derived.Test.YthfoagglncimnaaDoorPairEq
namespace Go.Proofs.YthfoagglncimnaaDoor
open Go.RowKit Go.Sort
set_option maxHeartbeats 6400000

set_option maxRecDepth 100000 in
theorem predtells_any (d : Nat) (f g : Pf) (u v : Value) (ps qs : List Pd) (r : Value) (rs : List (List Vl)) (w : World) (hu : PsAt d w u ps) (hv : PsAt d w v qs) (hr : Rws w r rs) (hWant : Want w) :
    Calls Tryd.prog 3 #[.agg #[.int .i64 f.k, .int .i64 f.u, .int .i64 f.o, .int .i64 f.a.k, .int .i64 f.a.t, .int .i64 f.a.c, .bool f.a.z, .int .i64 f.a.n, .int .i64 f.b.k, .int .i64 f.b.t, .int .i64 f.b.c, .bool f.b.z, .int .i64 f.b.n, u], .agg #[.int .i64 g.k, .int .i64 g.u, .int .i64 g.o, .int .i64 g.a.k, .int .i64 g.a.t, .int .i64 g.a.c, .bool g.a.z, .int .i64 g.a.n, .int .i64 g.b.k, .int .i64 g.b.t, .int .i64 g.b.c, .bool g.b.z, .int .i64 g.b.n, v], r] w fun e w' => e = .returned (.bool true) ∧ Below w.heap.size w w' := by
  obtain ⟨W0, hW0⟩ : ∃ W0, W0 = (w.alloc (Obj.cells #[.int .i64 f.k, .int .i64 f.u, .int .i64 f.o, .int .i64 f.a.k, .int .i64 f.a.t, .int .i64 f.a.c, .bool f.a.z, .int .i64 f.a.n, .int .i64 f.b.k, .int .i64 f.b.t, .int .i64 f.b.c, .bool f.b.z, .int .i64 f.b.n, u] 28)).alloc (Obj.cells #[.int .i64 g.k, .int .i64 g.u, .int .i64 g.o, .int .i64 g.a.k, .int .i64 g.a.t, .int .i64 g.a.c, .bool g.a.z, .int .i64 g.a.n, .int .i64 g.b.k, .int .i64 g.b.t, .int .i64 g.b.c, .bool g.b.z, .int .i64 g.b.n, v] 28) := ⟨_, rfl⟩
  obtain ⟨p0, p1, hb0, hlt0⟩ := pd_boxes hW0
  have hu0 := hu.below hb0 (Nat.le_refl _)
  have hv0 := hv.below hb0 (Nat.le_refl _)
  have hr0 := hr.below hb0 (Nat.le_refl _)
  have cf := few6_any d f u ps r rs W0 hu0 hr0
  have HU := Lib.hid hu0
  have HV := Lib.hid hv0
  have HR := Lib.hid hr0
  have HWN := Lib.hid (hWant.below hb0 (Nat.le_refl _))
  have HW := Lib.hid hW0
  have HP := Lib.hid p0
  have HQ := Lib.hid p1
  have HL := Lib.hid hlt0
  clear hWant hW0 hu hv hr hu0 hv0 hr0 p1 hlt0
  obtain ⟨k0, k1, k2, k3, k4, k5, k6, k7, k8, k9, k10, k11, k12, k13⟩ := p0
  rw [HW.out] at k0 k1 k2 k3 k4 k5 k6 k7 k8 k9 k10 k11 k12 k13 cf
  obtain ⟨b1, hb1⟩ : ∃ b, b = Pr.few (.mk f ps) rs := ⟨_, rfl⟩
  rw [← hb1] at cf
  have HB1 := Lib.hid hb1
  clear hb1
  go_enter Tryd.func3, Tryd.ntmps3
  go_wp2_with fail
  rw [← HW.out] at cf ⊢
  refine cf.mono ?_
  rintro e w1 ⟨rfl, hb1⟩
  clear cf k0 k1 k2 k3 k4 k5 k6 k7 k8 k9 k10 k11 k12 k13
  cases b1
  · have ca := awake6_any w1 (HWN.out.below hb1 (Nat.le_refl _))
    go_wp2_with fail
    refine ca.mono ?_
    rintro e w2 ⟨rfl, hb2⟩
    go_wp2_with fail
    go_ret
    exact ⟨rfl, below_join (below_join hb0 hb1) hb2⟩
  obtain ⟨k0, k1, k2, k3, k4, k5, k6, k7, k8, k9, k10, k11, k12, k13⟩ := HQ.out.below hb1 (show w.heap.size + 1 < W0.heap.size from HL.out)
  have cg := few6_any d g v qs r rs w1 (HV.out.below hb1 (Nat.le_refl _)) (HR.out.below hb1 (Nat.le_refl _))
  obtain ⟨b2, hb2⟩ : ∃ b, b = Pr.few (.mk g qs) rs := ⟨_, rfl⟩
  rw [← hb2] at cg
  have HB2 := Lib.hid hb2
  clear hb2
  go_wp2_with fail
  refine cg.mono ?_
  rintro e w2 ⟨rfl, hb2⟩
  have hb3 := below_join hb1 hb2
  clear cg k0 k1 k2 k3 k4 k5 k6 k7 k8 k9 k10 k11 k12 k13 hb1 hb2
  cases b2
  · have ca := awake6_any w2 (HWN.out.below hb3 (Nat.le_refl _))
    go_wp2_with fail
    refine ca.mono ?_
    rintro e w3 ⟨rfl, hb4⟩
    go_wp2_with fail
    go_ret
    exact ⟨rfl, below_join (below_join hb0 hb3) hb4⟩
  obtain ⟨⟨h70, h20⟩, hs1⟩ := Pr.few_yes HB1.out.symm
  obtain ⟨_, hs2⟩ := Pr.few_yes HB2.out.symm
  have hz1 : Pr.sizes ps ≤ 199 := by rw [Pr.size_at] at hs1; have : (Pd.mk f ps).ps = ps := rfl; rw [this] at hs1; omega
  have hz2 : Pr.sizes qs ≤ 199 := by rw [Pr.size_at] at hs2; have : (Pd.mk g qs).ps = qs := rfl; rw [this] at hs2; omega
  have h70' : rs.length ≤ 1000 := by omega
  have h20' : ∀ r ∈ rs, r.length ≤ 1000 := fun r hr => by have := h20 r hr; omega
  have hcl : (Pr.cols (.mk f ps)).length ≤ 1000000 := by have := Pr.cols_len (.mk f ps); omega
  have HS := Lib.hid (And.intro h70' (And.intro h20' (And.intro hz1 (And.intro hz2 hcl))))
  have pk := HP.out.below hb3 (show w.heap.size < W0.heap.size by have := HL.out; omega)
  have PK := Lib.hid pk
  obtain ⟨k0, k1, k2, k3, k4, k5, k6, k7, k8, k9, k10, k11, k12, k13⟩ := pk
  have HLT := Lib.hid (show w.heap.size < w2.heap.size by have := HL.out; have := hb3.size; omega)
  have c1 := Lib.hid (fun W (h : Below w2.heap.size w2 W) => (pcols_any d f u ps W ((HU.out.below hb3 (Nat.le_refl _)).below h (Nat.le_refl _)) (by omega)))
  have c2 := Lib.hid (fun W (h : Below w2.heap.size w2 W) => (r6cols_any d f u ps W ((HU.out.below hb3 (Nat.le_refl _)).below h (Nat.le_refl _)) (by omega)))
  have hS := Below.refl w2.heap.size w2
  clear h70 h20 hs1 hs2 hz1 hz2 h70' h20' HB1 HB2 hcl
  go_wp2_with fail
  go_region_held3 (fun W => (W.cell? ⟨w.heap.size, 0, none⟩ = some (.int .i64 f.k) ∧ W.cell? ⟨w.heap.size, 1, none⟩ = some (.int .i64 f.u) ∧ W.cell? ⟨w.heap.size, 2, none⟩ = some (.int .i64 f.o) ∧ W.cell? ⟨w.heap.size, 3, none⟩ = some (.int .i64 f.a.k) ∧ W.cell? ⟨w.heap.size, 4, none⟩ = some (.int .i64 f.a.t) ∧ W.cell? ⟨w.heap.size, 5, none⟩ = some (.int .i64 f.a.c) ∧ W.cell? ⟨w.heap.size, 6, none⟩ = some (.bool f.a.z) ∧ W.cell? ⟨w.heap.size, 7, none⟩ = some (.int .i64 f.a.n) ∧ W.cell? ⟨w.heap.size, 8, none⟩ = some (.int .i64 f.b.k) ∧ W.cell? ⟨w.heap.size, 9, none⟩ = some (.int .i64 f.b.t) ∧ W.cell? ⟨w.heap.size, 10, none⟩ = some (.int .i64 f.b.c) ∧ W.cell? ⟨w.heap.size, 11, none⟩ = some (.bool f.b.z) ∧ W.cell? ⟨w.heap.size, 12, none⟩ = some (.int .i64 f.b.n) ∧ W.cell? ⟨w.heap.size, 13, none⟩ = some (u)) ∧ Below w2.heap.size w2 W) (first | (exact keep14 PK.out HLT.out (by first | assumption | exact Below.drew (by assumption))))
    (first
      | (go_at_call 8; (with_reducible refine (c1.out _ (by first | assumption | exact Below.drew (by assumption))).mono ?_); rintro e w5 ⟨v5, rfl, hp5, hb5⟩; have hS5 := below_join (by first | assumption | exact Below.drew (by assumption)) hb5)
      | (go_at_call 9; (with_reducible refine (c2.out _ (by first | assumption | exact Below.drew (by assumption))).mono ?_); rintro e w6 ⟨v6, rfl, hp6, hb6⟩; have hS6 := below_join (by first | assumption | exact Below.drew (by assumption)) hb6))
  have hq5 := hp5.below hb6 (Nat.le_refl _)
  obtain ⟨v7, hv7, hq6, _⟩ := own_some (w := w5) (e := .returned v6) ⟨v6, rfl, hp6, hb6⟩ HS.out.2.2.2.2
  cases hv7
  obtain ⟨A5, e5, rfl, hl5, hx5⟩ := hq5
  obtain ⟨A6, e6, rfl, _, hx6⟩ := hq6
  obtain ⟨L, hL⟩ : ∃ L, L = Pr.cols (.mk f ps) := ⟨_, rfl⟩
  rw [← hL] at hl5 hx5 hx6 ⊢
  obtain ⟨n, hn⟩ : ∃ n, n = L.length := ⟨_, rfl⟩
  rw [← hn] at hl5 ⊢
  have HN := Lib.hid hn
  have HX5 := Lib.hid hx5
  have HX6 := Lib.hid hx6
  clear hn hx5 hx6 hp5 hp6 hL c1 c2 hS hS5 hb5 hb6 k0 k1 k2 k3 k4 k5 k6 k7 k8 k9 k10 k11 k12 k13
  go_wp2_with fail
  have HS6 := Lib.hid hS6
  have hS := Below.refl w6.heap.size w6
  go_loopw [9] (fun i wr => ∃ (q : Nat), q ≤ n ∧ i = .int .i64 q ∧ Below w6.heap.size w6 wr) (fun i _ => n - (intOf i).toNat)
  case atStart => exact ⟨0, Nat.zero_le _, rfl, hS⟩
  case round =>
    obtain ⟨q, hq, rfl, hb⟩ := hrel
    by_cases hlt : q < n
    · as_aux_lemma =>
      obtain ⟨x, gx⟩ : ∃ x, L[q]? = some x := ⟨L[q]'(by have := HN.out; omega), List.getElem?_eq_getElem _⟩
      obtain ⟨b5, o5, s5, rfl, hl1, h50, h51⟩ := HX5.out q x gx
      obtain ⟨b6, o6, s6, rfl, hl2, h60, h61⟩ := HX6.out q x gx
      have i1 : (0 : Int) ≤ (q : Int) := by omega
      have i2 : (q : Int) < (n : Int) := by omega
      have y1 := cell_regrown ((hb.cell (by rw [add_block]; exact hl1)).trans h50)
      have y2 := cell_regrown ((hb.cell (p := ⟨_, _, none⟩) (by show ((⟨b5, o5, s5⟩ : Addr).add (q * 2)).block < _; rw [add_block]; exact hl1)).trans h51)
      have y3 := cell_regrown ((hb.cell (by rw [add_block]; exact hl2)).trans h60)
      have y4 := cell_regrown ((hb.cell (p := ⟨_, _, none⟩) (by show ((⟨b6, o6, s6⟩ : Addr).add (q * 2)).block < _; rw [add_block]; exact hl2)).trans h61)
      have zq := fun W => pair_ne x.1 x.2 W
      clear gx h50 h51 h60 h61
      go_wp2_with fail
      refine wp_region_quiet_below (by kernel_rfl) (by kernel_rfl) ?_
      repeat (go_big_quiet_step (fail))
      refine wpQuiet_nil ?_
      intro _ hw'
      obtain ⟨⟨dq, osq⟩, hw''⟩ := hw'
      subst hw''
      have hb2 := below_join hb (below_regrown wr dq osq)
      clear y1 y2 y3 y4 zq i1 i2 hb
      generalize grow (redrawn wr dq) osq = w7 at hb2 ⊢
      go_wp2_with fail
      go_roundw
      case rel => exact ⟨q + 1, by omega, by go_num, hb2⟩
      case measure => simp [intOf]; omega
    · have hb6 := below_join HS6.out hb
      have pk := PK.out.below hb6 HLT.out
      have mk := (HQ.out.below hb3 (show w.heap.size + 1 < W0.heap.size from HL.out)).below hb6 (show w.heap.size + 1 < w2.heap.size by have := HL.out; have := hb3.size; omega)
      have hb7 := below_join hb3 hb6
      have hl := preds_built wr d f g u v ps qs wr.heap.size rfl (HU.out.below hb7 (Nat.le_refl _)) (HV.out.below hb7 (Nat.le_refl _))
      have PK2 := Lib.hid pk
      have MK2 := Lib.hid mk
      obtain ⟨k0, k1, k2, k3, k4, k5, k6, k7, k8, k9, k10, k11, k12, k13⟩ := pk
      obtain ⟨m0, m1, m2, m3, m4, m5, m6, m7, m8, m9, m10, m11, m12, m13⟩ := mk
      go_wp2_with fail
      obtain ⟨W8, hW8⟩ : ∃ W8, W8 = wr.alloc (Obj.cells #[.int .i64 f.k, .int .i64 f.u, .int .i64 f.o, .int .i64 f.a.k, .int .i64 f.a.t, .int .i64 f.a.c, .bool f.a.z, .int .i64 f.a.n, .int .i64 f.b.k, .int .i64 f.b.t, .int .i64 f.b.c, .bool f.b.z, .int .i64 f.b.n, u, .int .i64 g.k, .int .i64 g.u, .int .i64 g.o, .int .i64 g.a.k, .int .i64 g.a.t, .int .i64 g.a.c, .bool g.a.z, .int .i64 g.a.n, .int .i64 g.b.k, .int .i64 g.b.t, .int .i64 g.b.c, .bool g.b.z, .int .i64 g.b.n, v] 28) := ⟨_, rfl⟩
      have hb8 : Below wr.heap.size wr W8 := by rw [hW8]; exact below_new _ _
      rw [← hW8] at hl ⊢
      have hb9 := below_join hb7 hb8
      have pk8 := HP.out.below hb9 (show w.heap.size < W0.heap.size by have := HL.out; omega)
      have mk8 := HQ.out.below hb9 (show w.heap.size + 1 < W0.heap.size from HL.out)
      have hg8 : w.heap.size < W8.heap.size := by have := HL.out; have := hb9.size; omega
      have hh8 : w.heap.size + 1 < W8.heap.size := by have := HL.out; have := hb9.size; omega
      have hu8 := HU.out.below hb9 (Nat.le_refl _)
      have hv8 := HV.out.below hb9 (Nat.le_refl _)
      have hr8 := HR.out.below hb9 (Nat.le_refl _)
      have hw8 := HWN.out.below hb9 (Nat.le_refl _)
      obtain ⟨h70', h20', hz1, hz2, _⟩ := HS.out
      have hsz : Pr.sizes [Pd.mk f ps, Pd.mk g qs] ≤ 1000 := by rw [Pr.sizes, Pr.sizes, Pr.sizes, Pr.size, Pr.size]; omega
      have c1 := in_turn (W0 := W8) fun W h => pright_any d f u ps W (hu8.below h (Nat.le_refl _))
      have c2 := in_turn (W0 := W8) fun W h => r6right_any d f u ps W (hu8.below h (Nat.le_refl _))
      have c3 := in_turn (W0 := W8) fun W h => psame_any d f g u v ps qs W (hu8.below h (Nat.le_refl _)) (hv8.below h (Nat.le_refl _))
      have c4 := in_turn (W0 := W8) fun W h => r6same_any d f g u v ps qs W (hu8.below h (Nat.le_refl _)) (hv8.below h (Nat.le_refl _))
      have c5 := fun W (h : Below W8.heap.size W8 W) => pcopy_any d f u ps W (hu8.below h (Nat.le_refl _)) (by omega)
      have cc := fun (uc : Value) (dc : Nat) (W : World) (hc : PsAt dc W uc ps) (h : Below W8.heap.size W8 W) => (r6same_any (max dc d) f f uc u ps ps W (hc.mono (by omega)) ((hu8.below h (Nat.le_refl _)).mono (by omega))).mono fun e w' ⟨he, hb⟩ => (⟨he, below_join h hb⟩ : e = _ ∧ Below W8.heap.size W8 w')
      rw [same_self] at cc
      have c6 := in_turn (W0 := W8) fun W h => ptables_any d f u ps W (hu8.below h (Nat.le_refl _))
      have c7 := in_turn (W0 := W8) fun W h => r6tables_any d f u ps W (hu8.below h (Nat.le_refl _))
      have c8 := in_turn (W0 := W8) fun W h => pof_any d f u ps r rs W (hu8.below h (Nat.le_refl _)) (by omega) (hr8.below h (Nat.le_refl _)) (hw8.below h (Nat.le_refl _))
      have c9 := in_turn (W0 := W8) fun W h => r6of_any d f u ps r rs W (hu8.below h (Nat.le_refl _)) (by omega) (hr8.below h (Nat.le_refl _)) h70' h20'
      have c10 := in_turn (W0 := W8) fun W h => pall_any (d + 1) (.slice (some ⟨wr.heap.size, 0, none⟩) 2 2) [Pd.mk f ps, Pd.mk g qs] r rs W (hl.below h (Nat.le_refl _)) hsz (hr8.below h (Nat.le_refl _)) (hw8.below h (Nat.le_refl _))
      have c11 := in_turn (W0 := W8) fun W h => r6all_any (d + 1) (.slice (some ⟨wr.heap.size, 0, none⟩) 2 2) [Pd.mk f ps, Pd.mk g qs] r rs W (hl.below h (Nat.le_refl _)) hsz (hr8.below h (Nat.le_refl _)) h70' h20'
      have c12 := in_turn (W0 := W8) fun W h => awake6_any W (hw8.below h (Nat.le_refl _))
      generalize Pr.rightAt (.mk f ps) 1 = r1 at c1 c2
      generalize Pr.same (.mk f ps) (.mk g qs) = r2 at c3 c4
      generalize Pr.tables (.mk f ps) = r3 at c6 c7
      generalize Pr.of rs (.mk f ps) = r4 at c8 c9
      generalize Lo.andI ([Pd.mk f ps, Pd.mk g qs].map (Pr.of rs)) = r5 at c10 c11
      replace c1 := Lib.hid c1
      replace c2 := Lib.hid c2
      replace c3 := Lib.hid c3
      replace c4 := Lib.hid c4
      replace c5 := Lib.hid c5
      replace c6 := Lib.hid c6
      replace c7 := Lib.hid c7
      replace c8 := Lib.hid c8
      replace c9 := Lib.hid c9
      replace c10 := Lib.hid c10
      replace c11 := Lib.hid c11
      replace c12 := Lib.hid c12
      replace cc := Lib.hid cc
      have KK := Lib.hid (fun W (h : Below W8.heap.size W8 W) => keep28 pk8 mk8 hg8 hh8 h)
      have HZ := Lib.hid (below_join hb0 hb9)
      have hS9 := Below.refl W8.heap.size W8
      clear hW8 hb8 hb9 pk8 mk8 hg8 hh8 hu8 hv8 hr8 hl h70' h20' hz1 hz2 hsz hb hb6 hb7 hS HS6 k0 k1 k2 k3 k4 k5 k6 k7 k8 k9 k10 k11 k12 k13 m0 m1 m2 m3 m4 m5 m6 m7 m8 m9 m10 m11 m12 m13
      as_aux_lemma =>
        go_region_held3 (fun W => (W.cell? ⟨w.heap.size, 0, none⟩ = some (.int .i64 f.k) ∧ W.cell? ⟨w.heap.size, 1, none⟩ = some (.int .i64 f.u) ∧ W.cell? ⟨w.heap.size, 2, none⟩ = some (.int .i64 f.o) ∧ W.cell? ⟨w.heap.size, 3, none⟩ = some (.int .i64 f.a.k) ∧ W.cell? ⟨w.heap.size, 4, none⟩ = some (.int .i64 f.a.t) ∧ W.cell? ⟨w.heap.size, 5, none⟩ = some (.int .i64 f.a.c) ∧ W.cell? ⟨w.heap.size, 6, none⟩ = some (.bool f.a.z) ∧ W.cell? ⟨w.heap.size, 7, none⟩ = some (.int .i64 f.a.n) ∧ W.cell? ⟨w.heap.size, 8, none⟩ = some (.int .i64 f.b.k) ∧ W.cell? ⟨w.heap.size, 9, none⟩ = some (.int .i64 f.b.t) ∧ W.cell? ⟨w.heap.size, 10, none⟩ = some (.int .i64 f.b.c) ∧ W.cell? ⟨w.heap.size, 11, none⟩ = some (.bool f.b.z) ∧ W.cell? ⟨w.heap.size, 12, none⟩ = some (.int .i64 f.b.n) ∧ W.cell? ⟨w.heap.size, 13, none⟩ = some (u)) ∧ (W.cell? ⟨(w.heap.size + 1), 0, none⟩ = some (.int .i64 g.k) ∧ W.cell? ⟨(w.heap.size + 1), 1, none⟩ = some (.int .i64 g.u) ∧ W.cell? ⟨(w.heap.size + 1), 2, none⟩ = some (.int .i64 g.o) ∧ W.cell? ⟨(w.heap.size + 1), 3, none⟩ = some (.int .i64 g.a.k) ∧ W.cell? ⟨(w.heap.size + 1), 4, none⟩ = some (.int .i64 g.a.t) ∧ W.cell? ⟨(w.heap.size + 1), 5, none⟩ = some (.int .i64 g.a.c) ∧ W.cell? ⟨(w.heap.size + 1), 6, none⟩ = some (.bool g.a.z) ∧ W.cell? ⟨(w.heap.size + 1), 7, none⟩ = some (.int .i64 g.a.n) ∧ W.cell? ⟨(w.heap.size + 1), 8, none⟩ = some (.int .i64 g.b.k) ∧ W.cell? ⟨(w.heap.size + 1), 9, none⟩ = some (.int .i64 g.b.t) ∧ W.cell? ⟨(w.heap.size + 1), 10, none⟩ = some (.int .i64 g.b.c) ∧ W.cell? ⟨(w.heap.size + 1), 11, none⟩ = some (.bool g.b.z) ∧ W.cell? ⟨(w.heap.size + 1), 12, none⟩ = some (.int .i64 g.b.n) ∧ W.cell? ⟨(w.heap.size + 1), 13, none⟩ = some (v)) ∧ Below W8.heap.size W8 W) (first | (exact KK.out _ (by first | assumption | exact Below.drew (by assumption))))
          (first
            | (go_at_call 10; (with_reducible refine (c1.out _ (by first | assumption | exact Below.drew (by assumption))).mono ?_); rintro e w' ⟨rfl, hS'⟩)
            | (go_at_call 11; (with_reducible refine (c2.out _ (by first | assumption | exact Below.drew (by assumption))).mono ?_); rintro e w' ⟨rfl, hS'⟩)
            | (go_at_call 12; (with_reducible refine (c3.out _ (by first | assumption | exact Below.drew (by assumption))).mono ?_); rintro e w' ⟨rfl, hS'⟩)
            | (go_at_call 13; (with_reducible refine (c4.out _ (by first | assumption | exact Below.drew (by assumption))).mono ?_); rintro e w' ⟨rfl, hS'⟩)
            | (go_at_call 15; (with_reducible refine (c6.out _ (by first | assumption | exact Below.drew (by assumption))).mono ?_); rintro e w' ⟨rfl, hS'⟩)
            | (go_at_call 16; (with_reducible refine (c7.out _ (by first | assumption | exact Below.drew (by assumption))).mono ?_); rintro e w' ⟨rfl, hS'⟩)
            | (go_at_call 17; (with_reducible refine (c8.out _ (by first | assumption | exact Below.drew (by assumption))).mono ?_); rintro e w' ⟨rfl, hS'⟩)
            | (go_at_call 18; (with_reducible refine (c9.out _ (by first | assumption | exact Below.drew (by assumption))).mono ?_); rintro e w' ⟨rfl, hS'⟩)
            | (go_at_call 19; (with_reducible refine (c10.out _ (by first | assumption | exact Below.drew (by assumption))).mono ?_); rintro e w' ⟨rfl, hS'⟩)
            | (go_at_call 20; (with_reducible refine (c11.out _ (by first | assumption | exact Below.drew (by assumption))).mono ?_); rintro e w' ⟨rfl, hS'⟩)
            | (go_at_call 7; (with_reducible refine (c12.out _ (by first | assumption | exact Below.drew (by assumption))).mono ?_); rintro e w' ⟨rfl, hS'⟩)
            | (go_at_call 14; (with_reducible refine (c5.out _ (by first | assumption | exact Below.drew (by assumption))).mono ?_); rintro e wc ⟨uc, dc, rfl, hpc, hbc⟩; have hSc := below_join (by first | assumption | exact Below.drew (by assumption)) hbc; have hrc := Below.refl wc.heap.size wc; have hcp := Lib.hid (fun W (h : Below wc.heap.size wc W) => hpc.below h (Nat.le_refl _)))
            | (go_at_call 13; (with_reducible refine (cc.out _ _ _ (hcp.out _ (by first | assumption | exact Below.drew (by assumption))) (by first | assumption | exact Below.drew (by assumption))).mono ?_); rintro e w' ⟨rfl, hS'⟩)
            | (fail "no arm"))
        all_goals
          go_wp2_with fail
          go_ret
          exact ⟨rfl, below_join HZ.out (by first | assumption | exact Below.drew (by assumption))⟩
end Go.Proofs.YthfoagglncimnaaDoor
