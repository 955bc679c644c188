/-
  THE CONTRACTS OF package reject that the laws of layer 7 lean on: May, Rejects.
-/
import Derived.Test.YtpdgbfeciacbdaaDoorRejoM
import Derived.Test.YtpdgbfeciacbdaaDoorRejbM
import Derived.Test.YtpdgbfeciacbdaaDoorGOwn
namespace Go.Proofs.YtpdgbfeciacbdaaDoor
open Go.RowKit Go.Sort
set_option maxHeartbeats 3200000

theorem Rj.made_rest {f : Pf} {N : Nat} {l : List M3} {ts : List Int} (h2 : f.k ≠ 2) (h3 : f.k ≠ 3) (h4 : f.k ≠ 4) (h5 : f.k ≠ 5) (h6 : f.k = 6 → l = [] ∧ ts = []) : Rj.made f N l = M3.one (Pr.made f [] ts) := by
  by_cases h1 : f.k = 1
  · rw [Rj.made_1 h1, Pr.made_1 h1]
    by_cases e0 : f.u = 0
    · rw [e0]; decide
    by_cases e1 : f.u = 1
    · rw [e1]; decide
    by_cases e2 : f.u = 2
    · rw [e2]; decide
    · rw [Lo.andI_one (by simp; omega) (by simp; omega)]
      have a0 : (f.u == 0) = false := by simpa using e0
      have a1 : (f.u == 1) = false := by simpa using e1
      have a2 : (f.u == 2) = false := by simpa using e2
      have a3 : (decide (f.u < 0) || decide (2 < f.u)) = true := by simp; omega
      rw [a0, a1, a2, a3]; decide
  · by_cases h6' : f.k = 6
    · obtain ⟨rfl, rfl⟩ := h6 h6'
      rw [Rj.made_6n h6', Pr.made_6n h6']; decide
    · rw [Rj.made_no h1 h2 h3 h4 h5 h6', Pr.made_no h1 h2 h3 h4 h5 h6']; decide
set_option maxRecDepth 100000 in
theorem rmay_at (N : Nat) (hN : N < 18446744073709551616) (d : Nat) : ∀ (f : Pf) (u : Value) (ps : List Pd) (w : World), PsAt d w u ps → Pr.sizes ps ≤ 1000 → Want w →
    Calls Tryd.prog 8 #[.agg #[.int .i64 f.k, .int .i64 f.u, .int .i64 f.o, .int .i64 f.a.k, .int .i64 f.a.t, .int .i64 f.a.c, .bool f.a.z, .int .i64 f.a.n, .int .i64 f.b.k, .int .i64 f.b.t, .int .i64 f.b.c, .bool f.b.z, .int .i64 f.b.n, u], .int .u64 (N : Int)] w fun e w' => e = .returned (.agg #[.bool (Rj.may N (.mk f ps)).1, .bool (Rj.may N (.mk f ps)).2.1, .bool (Rj.may N (.mk f ps)).2.2]) ∧ Below w.heap.size w w' := by
  induction d using Nat.strongRecOn with
  | ind d ih =>
  intro f u ps w hu hsz hW
  obtain ⟨A, c, rfl, hl⟩ := hu.form
  rw [Rj.may_eq]
  obtain ⟨W1, hW1⟩ : ∃ W1, W1 = w.alloc (Obj.cells #[.int .i64 f.k, .int .i64 f.u, .int .i64 f.o, .int .i64 f.a.k, .int .i64 f.a.t, .int .i64 f.a.c, .bool f.a.z, .int .i64 f.a.n, .int .i64 f.b.k, .int .i64 f.b.t, .int .i64 f.b.c, .bool f.b.z, .int .i64 f.b.n, .slice A ps.length c] 33) := ⟨_, rfl⟩
  obtain ⟨l1, p1, hb1⟩ := pd_box hW1
  obtain ⟨W0, hW0⟩ : ∃ W0, W0 = W1.alloc (Obj.cells #[.bool false, .bool false, .bool false] 26) := ⟨_, rfl⟩
  obtain ⟨l0, hb0⟩ := box_one (cs := [.bool false, .bool false, .bool false]) hW0
  have hz : W1.heap.size = w.heap.size + 1 := by rw [hW1]; simp
  rw [hz] at l0
  have lp := l1.below hb0 l1.lt
  have hB := below_join hb1 hb0
  have HB := Lib.hid hB
  have hW00 := hW.below hB (Nat.le_refl _)
  have hu0 := hu.below hB (Nat.le_refl _)
  have L1 := Lib.hid l0
  have HW1 := Lib.hid hW1
  have HW0 := Lib.hid hW0
  have hS : Below W0.heap.size W0 W0 := Below.refl _ _
  obtain ⟨k0, k1, k2, k3, k4, k5, k6, k7, k8, k9, k10, k11, k12, k13⟩ := lp.pd
  have HU := Lib.hid hu0
  have HWW := Lib.hid hW00
  have HZ := Lib.hid hsz
  have IH := Lib.hid ih
  clear hW0 hW1 l0 l1 p1 lp hb0 hb1 hz hW hW00 hu hu0 hB hsz ih
  by_cases h2 : f.k = 2
  · have cc := jcompared_any f A ps.length c N W0 hN HWW.out (ps.map (Rj.may N)) h2
    obtain ⟨⟨x0, x1, x2⟩, hxx⟩ : ∃ x, x = Rj.made f N (ps.map (Rj.may N)) := ⟨_, rfl⟩
    rw [← hxx] at cc ⊢
    dsimp only at cc ⊢
    have HK := Lib.hid h2
    clear hxx h2
    rw [HK.out] at HW1 k0 cc ⊢
    go_enter Tryd.func8, Tryd.ntmps8
    go_upto_region 1 with (fail)
    rw [← HW1.out, ← HW0.out]
    go_wp2_with fail
    refine cc.mono ?_
    rintro e w9 ⟨rfl, hS9⟩
    clear cc k0 k1 k2 k3 k4 k5 k6 k7 k8 k9 k10 k11 k12 k13
    have lr := keep3 L1.out hS9
    have t0 := lr.cell (i := 0) rfl
    have t1 := lr.cell (i := 1) rfl
    have t2 := lr.cell (i := 2) rfl
    have f0 := lr.free 0
    have f1 := lr.free 1
    have f2 := lr.free 2
    have HF9 := Lib.hid (below_join HB.out hS9)
    clear lr hS9
    go_wp2_with fail
    all_goals exact bodyPost_ret (v := .agg #[.bool x0, .bool x1, .bool x2]) (by simp [results, Tryd.results8, go_sem, t0, t1, t2]) rfl ⟨rfl, ((HF9.out.setCell (by simp) _).setCell (by simp) _).setCell (by simp) _⟩
  by_cases h3 : f.k = 3
  · have cc := jasked_any f.a.k f.a.t f.a.c f.a.z f.a.n N W0 hN
    rw [← Rj.made_3 (f := f) (N := N) (l := ps.map (Rj.may N)) h3] at cc
    obtain ⟨⟨x0, x1, x2⟩, hxx⟩ : ∃ x, x = Rj.made f N (ps.map (Rj.may N)) := ⟨_, rfl⟩
    rw [← hxx] at cc ⊢
    dsimp only at cc ⊢
    have HK := Lib.hid h3
    clear hxx h3 h2
    rw [HK.out] at HW1 k0 ⊢
    go_enter Tryd.func8, Tryd.ntmps8
    go_upto_region 1 with (fail)
    rw [← HW1.out, ← HW0.out]
    go_wp2_with fail
    refine cc.mono ?_
    rintro e w9 ⟨rfl, hS9⟩
    clear cc k0 k1 k2 k3 k4 k5 k6 k7 k8 k9 k10 k11 k12 k13
    have lr := keep3 L1.out hS9
    have t0 := lr.cell (i := 0) rfl
    have t1 := lr.cell (i := 1) rfl
    have t2 := lr.cell (i := 2) rfl
    have f0 := lr.free 0
    have f1 := lr.free 1
    have f2 := lr.free 2
    have HF9 := Lib.hid (below_join HB.out hS9)
    clear lr hS9
    go_wp2_with fail
    all_goals exact bodyPost_ret (v := .agg #[.bool x0, .bool x1, .bool x2]) (by simp [results, Tryd.results8, go_sem, t0, t1, t2]) rfl ⟨rfl, ((HF9.out.setCell (by simp) _).setCell (by simp) _).setCell (by simp) _⟩
  by_cases h4 : f.k = 4
  · have cc := jjoinA_of d N IH.out _ ps W0 HU.out HZ.out HWW.out
    rw [← Rj.made_4 (f := f) (N := N) h4] at cc
    obtain ⟨⟨x0, x1, x2⟩, hxx⟩ : ∃ x, x = Rj.made f N (ps.map (Rj.may N)) := ⟨_, rfl⟩
    rw [← hxx] at cc ⊢
    dsimp only at cc ⊢
    have HK := Lib.hid h4
    clear hxx h4 h2 h3
    rw [HK.out] at HW1 k0 ⊢
    go_enter Tryd.func8, Tryd.ntmps8
    go_upto_region 1 with (fail)
    rw [← HW1.out, ← HW0.out]
    go_wp2_with fail
    refine cc.mono ?_
    rintro e w9 ⟨rfl, hS9⟩
    clear cc k0 k1 k2 k3 k4 k5 k6 k7 k8 k9 k10 k11 k12 k13
    have lr := keep3 L1.out hS9
    have t0 := lr.cell (i := 0) rfl
    have t1 := lr.cell (i := 1) rfl
    have t2 := lr.cell (i := 2) rfl
    have f0 := lr.free 0
    have f1 := lr.free 1
    have f2 := lr.free 2
    have HF9 := Lib.hid (below_join HB.out hS9)
    clear lr hS9
    go_wp2_with fail
    all_goals exact bodyPost_ret (v := .agg #[.bool x0, .bool x1, .bool x2]) (by simp [results, Tryd.results8, go_sem, t0, t1, t2]) rfl ⟨rfl, ((HF9.out.setCell (by simp) _).setCell (by simp) _).setCell (by simp) _⟩
  by_cases h5 : f.k = 5
  · have cc := jjoinO_of d N IH.out _ ps W0 HU.out HZ.out HWW.out
    rw [← Rj.made_5 (f := f) (N := N) h5] at cc
    obtain ⟨⟨x0, x1, x2⟩, hxx⟩ : ∃ x, x = Rj.made f N (ps.map (Rj.may N)) := ⟨_, rfl⟩
    rw [← hxx] at cc ⊢
    dsimp only at cc ⊢
    have HK := Lib.hid h5
    clear hxx h5 h2 h3 h4
    rw [HK.out] at HW1 k0 ⊢
    go_enter Tryd.func8, Tryd.ntmps8
    go_upto_region 1 with (fail)
    rw [← HW1.out, ← HW0.out]
    go_wp2_with fail
    refine cc.mono ?_
    rintro e w9 ⟨rfl, hS9⟩
    clear cc k0 k1 k2 k3 k4 k5 k6 k7 k8 k9 k10 k11 k12 k13
    have lr := keep3 L1.out hS9
    have t0 := lr.cell (i := 0) rfl
    have t1 := lr.cell (i := 1) rfl
    have t2 := lr.cell (i := 2) rfl
    have f0 := lr.free 0
    have f1 := lr.free 1
    have f2 := lr.free 2
    have HF9 := Lib.hid (below_join HB.out hS9)
    clear lr hS9
    go_wp2_with fail
    all_goals exact bodyPost_ret (v := .agg #[.bool x0, .bool x1, .bool x2]) (by simp [results, Tryd.results8, go_sem, t0, t1, t2]) rfl ⟨rfl, ((HF9.out.setCell (by simp) _).setCell (by simp) _).setCell (by simp) _⟩
  have e2 : (f.k == 2) = false := by simpa using h2
  have e3 : (f.k == 3) = false := by simpa using h3
  have e4 : (f.k == 4) = false := by simpa using h4
  have e5 : (f.k == 5) = false := by simpa using h5
  by_cases h6 : f.k = 6 ∧ ps ≠ []
  · obtain ⟨h6, hne⟩ := h6
    cases ps with
    | nil => exact absurd rfl hne
    | cons p rest =>
    obtain ⟨e, b', o, s, v', he, rfl, _, hx⟩ := HU.out.at_ (j := 0) (p := p) rfl
    obtain ⟨hcell, hps⟩ := hx W0 hS
    rw [show (⟨b', o, s⟩ : Addr).add (0 * 14) = ⟨b', o, s⟩ by simp [Addr.add]] at hcell
    have cm := IH.out e he p.f v' p.ps W0 hps (by have := Pr.sizes_down (l := p :: rest) (j := 0) (p := p) rfl; have := HZ.out; omega) HWW.out
    rw [Rj.may_mk] at cm
    rw [List.map_cons, Rj.made_6c h6]
    obtain ⟨⟨x0, x1, x2⟩, hxx⟩ : ∃ x, x = Rj.may N p := ⟨_, rfl⟩
    rw [← hxx] at cm ⊢
    dsimp only at cm ⊢
    have ct := fun W => jturn_any (x0, x1, x2) W
    dsimp only at ct
    obtain ⟨y0, y1, y2, y3, y4, y5, y6, y7, y8, y9, y10, y11, y12, y13⟩ := hcell
    have hpos : 0 < (p :: rest).length := by simp
    obtain ⟨n, hn⟩ : ∃ n, n = (p :: rest).length := ⟨_, rfl⟩
    rw [← hn] at hl HU HW1 k13 hpos ⊢
    have HN := Lib.hid hn
    clear hxx hx hps hn hne e2 e3 e4 e5 h2 h3 h4 h5
    rw [h6] at HW1 k0 ⊢
    go_enter Tryd.func8, Tryd.ntmps8
    go_upto_region 1 with (fail)
    rw [← HW1.out, ← HW0.out]
    go_wp2_with fail
    refine cm.mono ?_
    rintro e w5 ⟨rfl, hS5⟩
    clear cm k0 k1 k2 k3 k4 k5 k6 k7 k8 k9 k10 k11 k12 k13 y0 y1 y2 y3 y4 y5 y6 y7 y8 y9 y10 y11 y12 y13
    go_wp2_with fail
    refine (ct _).mono ?_
    rintro e w9 ⟨rfl, hS6⟩
    have hS9 := below_join hS5 hS6
    clear ct hS5 hS6
    have lr := keep3 L1.out hS9
    have t0 := lr.cell (i := 0) rfl
    have t1 := lr.cell (i := 1) rfl
    have t2 := lr.cell (i := 2) rfl
    have f0 := lr.free 0
    have f1 := lr.free 1
    have f2 := lr.free 2
    have HF9 := Lib.hid (below_join HB.out hS9)
    clear lr hS9
    go_wp2_with fail
    all_goals exact bodyPost_ret (v := .agg #[.bool x2, .bool x1, .bool x0]) (by simp [results, Tryd.results8, go_sem, t0, t1, t2]) rfl ⟨rfl, ((HF9.out.setCell (by simp) _).setCell (by simp) _).setCell (by simp) _⟩
  · have co := pof_any d f _ ps (.slice none 0 0) [] W0 HU.out HZ.out (Rws.nil W0) HWW.out
    rw [Pr.of_at] at co
    have hr : Rj.made f N (ps.map (Rj.may N)) = M3.one (Pr.made f [] (ps.map (Pr.of []))) := Rj.made_rest h2 h3 h4 h5 (fun h => by
      have : ps = [] := Classical.byContradiction fun hc => h6 ⟨h, hc⟩
      rw [this]; exact ⟨rfl, rfl⟩)
    obtain ⟨x, hx, hx3⟩ : ∃ x : Nat, Pr.made f [] (ps.map (Pr.of [])) = (x : Int) ∧ x < 3 := by
      have := Pr.of_cases [] (.mk f ps)
      rw [Pr.of_at] at this
      rcases this with h | h | h
      · exact ⟨0, by rw [show Pr.made f [] (ps.map (Pr.of [])) = 0 from h]; rfl, by decide⟩
      · exact ⟨1, by rw [show Pr.made f [] (ps.map (Pr.of [])) = 1 from h]; rfl, by decide⟩
      · exact ⟨2, by rw [show Pr.made f [] (ps.map (Pr.of [])) = 2 from h]; rfl, by decide⟩
    have co' : Calls Tryd.prog 13 #[.agg #[.int .i64 f.k, .int .i64 f.u, .int .i64 f.o, .int .i64 f.a.k, .int .i64 f.a.t, .int .i64 f.a.c, .bool f.a.z, .int .i64 f.a.n, .int .i64 f.b.k, .int .i64 f.b.t, .int .i64 f.b.c, .bool f.b.z, .int .i64 f.b.n, .slice A ps.length c], .slice none 0 0] W0 fun e w' => e = .returned (.int .i64 (x : Int)) ∧ Below W0.heap.size W0 w' := by
      rw [← hx]; exact co
    rw [hr, hx, ← Rj.only_one hx3]
    obtain ⟨⟨m0, m1, m2⟩, hM⟩ : ∃ m, m = M3.only [x] := ⟨_, rfl⟩
    have o1 : ∀ W, Below W0.heap.size W0 W → Calls Tryd.prog 24 #[.slice (some ⟨W.heap.size, 0, none⟩) 1 1] (W.alloc (.cells #[.int .i64 x] 3)) fun e w' => e = .returned (.agg #[.bool m0, .bool m1, .bool m2]) ∧ Below W0.heap.size W0 w' := jonly_turn (W0 := W0) [x] (by simp) (by simpa using hx3) hM.symm
    rw [← hM]
    dsimp only
    have hcase : (f.k == 6) = false ∨ (f.k = 6 ∧ ps.length = 0) := by
      by_cases h : f.k = 6
      · exact .inr ⟨h, by
          have : ps = [] := Classical.byContradiction fun hc => h6 ⟨h, hc⟩
          rw [this]; rfl⟩
      · exact .inl (by simpa using h)
    clear hM hx hx3 hr h6 co h2 h3 h4 h5
    rcases hcase with e6 | ⟨h6, hl0⟩
    · go_enter Tryd.func8, Tryd.ntmps8
      go_upto_region 1 with (fail)
      rw [← HW1.out, ← HW0.out]
      go_wp2_with fail
      refine co'.mono ?_
      rintro e w5 ⟨rfl, hS5⟩
      clear co' k0 k1 k2 k3 k4 k5 k6 k7 k8 k9 k10 k11 k12 k13 e2 e3 e4 e5 e6
      go_wp2_with fail
      with_reducible refine (o1 _ hS5).mono ?_
      rintro e w9 ⟨rfl, hS9⟩
      clear o1 hS5
      have lr := keep3 L1.out hS9
      have t0 := lr.cell (i := 0) rfl
      have t1 := lr.cell (i := 1) rfl
      have t2 := lr.cell (i := 2) rfl
      have f0 := lr.free 0
      have f1 := lr.free 1
      have f2 := lr.free 2
      have HF9 := Lib.hid (below_join HB.out hS9)
      clear lr hS9
      go_wp2_with fail
      all_goals exact bodyPost_ret (v := .agg #[.bool m0, .bool m1, .bool m2]) (by simp [results, Tryd.results8, go_sem, t0, t1, t2]) rfl ⟨rfl, ((HF9.out.setCell (by simp) _).setCell (by simp) _).setCell (by simp) _⟩
    · have HF := Lib.hid h6
      rw [hl0] at co' HW1 HU k13 ⊢
      have HL := Lib.hid hl0
      clear hl0 hl
      rw [HF.out] at co' HW1 k0 ⊢
      clear h6 e2 e3 e4 e5
      go_enter Tryd.func8, Tryd.ntmps8
      go_upto_region 1 with (fail)
      rw [← HW1.out, ← HW0.out]
      go_wp2_with fail
      refine co'.mono ?_
      rintro e w5 ⟨rfl, hS5⟩
      clear co' k0 k1 k2 k3 k4 k5 k6 k7 k8 k9 k10 k11 k12 k13
      go_wp2_with fail
      with_reducible refine (o1 _ hS5).mono ?_
      rintro e w9 ⟨rfl, hS9⟩
      clear o1 hS5
      have lr := keep3 L1.out hS9
      have t0 := lr.cell (i := 0) rfl
      have t1 := lr.cell (i := 1) rfl
      have t2 := lr.cell (i := 2) rfl
      have f0 := lr.free 0
      have f1 := lr.free 1
      have f2 := lr.free 2
      have HF9 := Lib.hid (below_join HB.out hS9)
      clear lr hS9
      go_wp2_with fail
      all_goals exact bodyPost_ret (v := .agg #[.bool m0, .bool m1, .bool m2]) (by simp [results, Tryd.results8, go_sem, t0, t1, t2]) rfl ⟨rfl, ((HF9.out.setCell (by simp) _).setCell (by simp) _).setCell (by simp) _⟩
theorem rmay_any (d N : Nat) (hN : N < 18446744073709551616) (f : Pf) (u : Value) (ps : List Pd) (w : World) (hu : PsAt d w u ps) (hsz : Pr.sizes ps ≤ 1000) (hW : Want w) :
    Calls Tryd.prog 8 #[.agg #[.int .i64 f.k, .int .i64 f.u, .int .i64 f.o, .int .i64 f.a.k, .int .i64 f.a.t, .int .i64 f.a.c, .bool f.a.z, .int .i64 f.a.n, .int .i64 f.b.k, .int .i64 f.b.t, .int .i64 f.b.c, .bool f.b.z, .int .i64 f.b.n, u], .int .u64 (N : Int)] w fun e w' => e = .returned (.agg #[.bool (Rj.may N (.mk f ps)).1, .bool (Rj.may N (.mk f ps)).2.1, .bool (Rj.may N (.mk f ps)).2.2]) ∧ Below w.heap.size w w' := rmay_at N hN d f u ps w hu hsz hW
theorem arr_at2 (a b c : Bool) (w : World) : (Instr.index 26 (.agg #[.bool a, .bool b, .bool c]) (.int .i64 2)).run Tryd.prog w = .ok (.bool c) w := by kernel_rfl
theorem rrej_any (d N : Nat) (hN : N < 18446744073709551616) (u : Value) (ps : List Pd) (w : World) (hu : PsAt d w u ps) (hsz : Pr.sizes ps ≤ 1000) (hW : Want w) :
    Calls Tryd.prog 10 #[u, .int .u64 (N : Int)] w fun e w' => e = .returned (.bool (Rj.rejects N ps)) ∧ Below w.heap.size w w' := by
  have cc := jjoinA_of d N (fun e _ => rmay_at N hN e) u ps w hu hsz hW
  have hr : Rj.rejects N ps = !(Rj.andM (ps.map (Rj.may N))).2.2 := rfl
  obtain ⟨A, c, rfl, hl⟩ := hu.form
  obtain ⟨⟨x0, x1, x2⟩, hxx⟩ : ∃ x, x = Rj.andM (ps.map (Rj.may N)) := ⟨_, rfl⟩
  rw [← hxx] at cc hr
  rw [hr]
  dsimp only at cc ⊢
  clear hr hxx hW hu hsz
  go_enter Tryd.func10, Tryd.ntmps10
  go_wp2_with fail
  refine cc.mono ?_
  rintro e w5 ⟨rfl, hS5⟩
  have hi := arr_at2 x0 x1 x2
  clear cc
  go_wp2_with fail
  go_ret
  exact ⟨rfl, hS5⟩
end Go.Proofs.YtpdgbfeciacbdaaDoor
