/-
  PACKAGE exec: the operator that joins by hashed keys.
-/
import Derived.Test.YtpaaibghfhnicaaGreatDoorExbM
namespace Go.Proofs.YtpaaibghfhnicaaGreatDoor
open Go.RowKit Go.Sort
set_option maxHeartbeats 6400000

set_option maxRecDepth 100000 in
theorem hashed16_own (k t : Int) (d dd : Nat) (u cv lv rv : Value) (x y : Tr) (ps : List Pd) (L R : List (List (List Vl))) (w : World) (hu : TsAt dd w u [x, y]) (hp : PsAt d w cv ps) (hsz : Pr.sizes ps ≤ 1000) (hW : Want w) (hP : Pows w) (hl : TusOn Al w lv L) (hr : TusOn Al w rv R) (hfl : Ns.Few 10000 100 L) (hfr : Ns.Few 10000 100 R) (hwl : Hs.Wf L) (hwr : Hs.Wf R) :
    Calls Tryz.prog 53 #[.agg #[.int .i64 k, .int .i64 t, u, cv, .bool true, .func (.func 52) #[.agg #[.int .i64 k, .int .i64 t, u, cv, .bool true, .nilFunc]] #[]], lv, rv] w (OwnTus w (Hs.join k ps (Tr.seen x) (Tr.seen y) L R)) := by
  obtain ⟨A, c, hu0, _⟩ := hu.form
  change u = .slice A 2 c at hu0
  subst hu0
  obtain ⟨P0, p0, rfl, _⟩ := hp.form
  obtain ⟨L0, c0, rfl, _⟩ := hl.form
  obtain ⟨R0, c1, rfl, _⟩ := hr.form
  obtain ⟨W0, hW0⟩ : ∃ W0, W0 = w.alloc (Obj.cells #[.int .i64 k, .int .i64 t, .slice A 2 c, .slice P0 ps.length p0, .bool true, .func (.func 52) #[.agg #[.int .i64 k, .int .i64 t, .slice A 2 c, .slice P0 ps.length p0, .bool true, .nilFunc]] #[]] 68) := ⟨_, rfl⟩
  obtain ⟨l0, hb0⟩ := box_one (cs := [.int .i64 k, .int .i64 t, .slice A 2 c, .slice P0 ps.length p0, .bool true, .func (.func 52) #[.agg #[.int .i64 k, .int .i64 t, .slice A 2 c, .slice P0 ps.length p0, .bool true, .nilFunc]] #[]]) hW0
  have hts : TsAt dd W0 (.slice A ([x, y] : List Tr).length c) [x, y] := hu.below hb0 (Nat.le_refl _)
  obtain ⟨e6, b0, o0, s0, u6, v6, hlt6, rfl, hb0l, hX⟩ := hts.at_ (j := 0) (a := x) rfl
  obtain ⟨e8, b0', o0', s0', u8, v8, hlt8, hA8, _, hY⟩ := hts.at_ (j := 1) (a := y) rfl
  obtain ⟨rfl, rfl, rfl⟩ : b0 = b0' ∧ o0 = o0' ∧ s0 = s0' := by
    simp only [Option.some.injEq, Addr.mk.injEq] at hA8
    exact hA8
  obtain ⟨B6, d6, rfl, _⟩ := (hX W0 (Below.refl _ _)).2.2.form
  obtain ⟨B7, d7, rfl, _⟩ := (hX W0 (Below.refl _ _)).2.1.elim fun d h => h.form
  obtain ⟨B8, d8, rfl, _⟩ := (hY W0 (Below.refl _ _)).2.2.form
  obtain ⟨B9, d9, rfl, _⟩ := (hY W0 (Below.refl _ _)).2.1.elim fun d h => h.form
  simp only [Nat.zero_mul, add_zero9] at hX
  have hadd : (⟨b0, o0, s0⟩ : Addr).add (1 * 5) = ⟨b0, o0 + 5, none⟩ := by unfold Addr.add; simp
  simp only [hadd] at hY
  obtain ⟨J, hJ⟩ : ∃ J, J = Hs.join k ps (Tr.seen x) (Tr.seen y) L R := ⟨_, rfl⟩
  have CJ := Lib.hid (fun W (h : Below W0.heap.size W0 W) =>
    have hbw := below_join hb0 h
    (hjoin_own k d (.slice P0 ps.length p0) (.slice L0 L.length c0) (.slice R0 R.length c1) ps L R (Tr.seen x) (Tr.seen y) W (hp.below hbw (Nat.le_refl _)) hsz (hW.below hbw (Nat.le_refl _)) (hP.below hbw (Nat.le_refl _)) (hl.below hbw (Nat.le_refl _)) (hr.below hbw (Nat.le_refl _)) hfl hfr hwl hwr (Tr.seen_lt x) (Tr.seen_lt y)).mono fun e w' ho =>
      (show ∃ A2 a2, e = Ending.returned (.slice A2 J.length a2) ∧ Hid (OwnTus w J (.returned (.slice A2 J.length a2)) w') ∧ Below W0.heap.size W0 w' from by
        rw [← hJ] at ho
        have h5 := ho.up hbw
        obtain ⟨A2, a2, us, rfl, _, _, h6⟩ := ho
        exact ⟨A2, a2, rfl, Lib.hid h5, below_join h h6⟩))
  rw [← hJ]
  have C0 := Lib.hid (fun W (h : Below W0.heap.size W0 W) => (tseen_any _ x _ (.slice B7 x.cs.length d7) W (hX W h).2.2 (hX W h).2.1).mono fun e w' ⟨he, hb⟩ => (⟨he, below_join h hb⟩ : e = _ ∧ Below W0.heap.size W0 w'))
  have C1 := Lib.hid (fun W (h : Below W0.heap.size W0 W) => (tseen_any _ y _ (.slice B9 y.cs.length d9) W (hY W h).2.2 (hY W h).2.1).mono fun e w' ⟨he, hb⟩ => (⟨he, below_join h hb⟩ : e = _ ∧ Below W0.heap.size W0 w'))
  obtain ⟨pl, hpl⟩ : ∃ n, n = ps.length := ⟨_, rfl⟩
  rw [← hpl] at CJ l0 hW0 ⊢
  have KK := Lib.hid (fun W (h : Below W0.heap.size W0 W) => (show (W.cell? ⟨w.heap.size, 0, none⟩ = some (.int .i64 k) ∧ W.cell? ⟨w.heap.size, 2, none⟩ = some (.slice (some ⟨b0, o0, s0⟩) 2 c) ∧ W.cell? ⟨w.heap.size, 3, none⟩ = some (.slice P0 pl p0) ∧ W.cell? (⟨b0, o0, s0⟩ : Addr) = some (.int .i64 x.k) ∧ W.cell? ⟨(⟨b0, o0, s0⟩ : Addr).block, (⟨b0, o0, s0⟩ : Addr).off + 1, none⟩ = some (.int .i64 x.t) ∧ W.cell? ⟨(⟨b0, o0, s0⟩ : Addr).block, (⟨b0, o0, s0⟩ : Addr).off + 2, none⟩ = some (.slice B6 x.ks.length d6) ∧ W.cell? ⟨(⟨b0, o0, s0⟩ : Addr).block, (⟨b0, o0, s0⟩ : Addr).off + 3, none⟩ = some (.slice B7 x.cs.length d7) ∧ W.cell? ⟨(⟨b0, o0, s0⟩ : Addr).block, (⟨b0, o0, s0⟩ : Addr).off + 4, none⟩ = some (.bool x.h) ∧ W.cell? ⟨b0, o0 + 5, none⟩ = some (.int .i64 y.k) ∧ W.cell? ⟨b0, o0 + 5 + 1, none⟩ = some (.int .i64 y.t) ∧ W.cell? ⟨b0, o0 + 5 + 2, none⟩ = some (.slice B8 y.ks.length d8) ∧ W.cell? ⟨b0, o0 + 5 + 3, none⟩ = some (.slice B9 y.cs.length d9) ∧ W.cell? ⟨b0, o0 + 5 + 4, none⟩ = some (.bool y.h)) ∧ Below W0.heap.size W0 W from
    have px := (hX W h).1
    have py := (hY W h).1
    have l := l0.below h l0.lt
    ⟨⟨l.cell (i := 0) rfl, l.cell (i := 2) rfl, l.cell (i := 3) rfl, px.c0, px.c1, px.c2, px.c3, px.c4, py.c0, py.c1, py.c2, py.c3, py.c4⟩, h⟩))
  have HW := Lib.hid hW0
  have hS := Below.refl W0.heap.size W0
  obtain ⟨xs, hxs⟩ : ∃ s, s = Tr.seen x := ⟨_, rfl⟩
  obtain ⟨ys, hys⟩ : ∃ s, s = Tr.seen y := ⟨_, rfl⟩
  rw [← hxs] at C0 CJ
  rw [← hys] at C1 CJ
  generalize L.length = ll at *
  generalize R.length = rl at *
  clear hp hsz hW hP hl hr hfl hfr hwl hwr hu hts hX hY hW0 l0 hb0 hJ hpl hA8 hadd hxs hys hb0l
  go_enter Tryz.func53, Tryz.ntmps53
  go_upto_region 1 with (fail)
  rw [← HW.out]
  go_region_held3 (fun W => (W.cell? ⟨w.heap.size, 0, none⟩ = some (.int .i64 k) ∧ W.cell? ⟨w.heap.size, 2, none⟩ = some (.slice (some ⟨b0, o0, s0⟩) 2 c) ∧ W.cell? ⟨w.heap.size, 3, none⟩ = some (.slice P0 pl p0) ∧ W.cell? (⟨b0, o0, s0⟩ : Addr) = some (.int .i64 x.k) ∧ W.cell? ⟨(⟨b0, o0, s0⟩ : Addr).block, (⟨b0, o0, s0⟩ : Addr).off + 1, none⟩ = some (.int .i64 x.t) ∧ W.cell? ⟨(⟨b0, o0, s0⟩ : Addr).block, (⟨b0, o0, s0⟩ : Addr).off + 2, none⟩ = some (.slice B6 x.ks.length d6) ∧ W.cell? ⟨(⟨b0, o0, s0⟩ : Addr).block, (⟨b0, o0, s0⟩ : Addr).off + 3, none⟩ = some (.slice B7 x.cs.length d7) ∧ W.cell? ⟨(⟨b0, o0, s0⟩ : Addr).block, (⟨b0, o0, s0⟩ : Addr).off + 4, none⟩ = some (.bool x.h) ∧ W.cell? ⟨b0, o0 + 5, none⟩ = some (.int .i64 y.k) ∧ W.cell? ⟨b0, o0 + 5 + 1, none⟩ = some (.int .i64 y.t) ∧ W.cell? ⟨b0, o0 + 5 + 2, none⟩ = some (.slice B8 y.ks.length d8) ∧ W.cell? ⟨b0, o0 + 5 + 3, none⟩ = some (.slice B9 y.cs.length d9) ∧ W.cell? ⟨b0, o0 + 5 + 4, none⟩ = some (.bool y.h)) ∧ Below W0.heap.size W0 W) (first | (exact KK.out _ (by repeat first | assumption | refine Below.drew ?_)))
    (first
      | (go_at_call 29; (with_reducible refine (C0.out _ (by repeat first | assumption | refine Below.drew ?_)).mono ?_); rintro e w' ⟨rfl, hS'⟩)
      | (go_at_call 29; (with_reducible refine (C1.out _ (by repeat first | assumption | refine Below.drew ?_)).mono ?_); rintro e w' ⟨rfl, hS'⟩)
      | (go_at_call 67; (with_reducible refine (CJ.out _ (by repeat first | assumption | refine Below.drew ?_)).mono ?_); rintro e w' ⟨A2, a2, rfl, hO, hS'⟩)
      | (fail "no arm"))
  all_goals
    go_wp2_with fail
    go_ret
    exact hO.out
end Go.Proofs.YtpaaibghfhnicaaGreatDoor
