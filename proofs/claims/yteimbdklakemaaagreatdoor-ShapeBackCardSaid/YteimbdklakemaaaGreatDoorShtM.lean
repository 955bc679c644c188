/-
  THE READER OF TREES: one conjunct.
-/
import Derived.Test.YteimbdklakemaaaGreatDoorShsM
import Derived.Test.YteimbdklakemaaaGreatDoorShqM
import Derived.Deep.Cut
import Derived.RegionTactic
namespace Go.Proofs.YteimbdklakemaaaGreatDoor
open Go.RowKit Go.Sort
set_option maxHeartbeats 6400000

theorem Sh.pred_no {l : List Int} {s : Sh.St} (h : s.e ≠ 0) : Sh.pred l s = (Tx.zp, s) := by unfold Sh.pred; rw [if_neg h]
theorem Sh.pred_yes {l : List Int} {s : Sh.St} (h : s.e = 0) : (Sh.pred l s).2 = ⟨(Tx.takeN l s.i).i, s.v, (Tx.takeN l s.i).e⟩ ∧ ((Tx.takeN l s.i).e = 0 → (Sh.pred l s).1 = (Tx.takeN l s.i).x) := by
  unfold Sh.pred Tx.takeN
  rw [if_pos h]
  by_cases he : (Tx.take l 4 s.i).e = 0
  · rw [if_pos he]; exact ⟨rfl, fun _ => rfl⟩
  · rw [if_neg he]; exact ⟨rfl, fun g => absurd g he⟩
/-- behind a reader of a conjunct: what it tells, in memory that was not there -/
def GotS (w0 : World) (R b c : Nat) (l : List Int) (w : World) (s : Sh.St) (E : Ending) (w' : World) : Prop :=
  ∃ (f : Pf) (A : Option Addr) (m kk : Nat) (ps : List Pd) (s' : Sh.St),
    E = .returned (.agg #[.int .i64 f.k, .int .i64 f.u, .int .i64 f.o, .int .i64 f.a.k, .int .i64 f.a.t, .int .i64 f.a.c, .bool f.a.z, .int .i64 f.a.n, .int .i64 f.b.k, .int .i64 f.b.t, .int .i64 f.b.c, .bool f.b.z, .int .i64 f.b.n, .slice A m kk]) ∧ Hid (s' = (Sh.pred l s).2) ∧ Hid (s'.e = 0 → (Sh.pred l s).1 = .mk f ps) ∧ Hid (PsIn w.heap.size 4 w' (.slice A m kk) ps) ∧ SRd w0 w' R b c l.length s' ∧ Gw R w w'
set_option maxRecDepth 100000 in
theorem spred_any {w0 : World} {R b c : Nat} {l : List Int} (hs : Src w0 R b c l) (s : Sh.St) (w : World) (h : SRd w0 w R b c l.length s) (hi : s.i ≤ l.length) :
    Calls Tryz.prog 47 #[.pointer (some ⟨R, 0, none⟩)] w (GotS w0 R b c l w s) := by
  obtain ⟨o0, ho0⟩ : ∃ o0, o0 = Obj.cells #[.int .i64 0, .int .i64 0, .int .i64 0, .int .i64 0, .int .i64 0, .int .i64 0, .bool false, .int .i64 0, .int .i64 0, .int .i64 0, .int .i64 0, .bool false, .int .i64 0, .slice none 0 0] 43 := ⟨_, rfl⟩
  have hRw : R < w.heap.size := h.lt
  have h0 := h.alloc o0
  have l0 : Lies (w.alloc o0) w.heap.size 43 zeroPred := by rw [ho0]; exact Lies.new _ _ _
  have g0 : Gw R w (w.alloc o0) := Gw.of (below_new _ _)
  have HO := Lib.hid ho0
  have x0 := h0.lies.cell (i := 0) rfl
  have x1 := h0.lies.cell (i := 1) rfl
  have x3 := h0.lies.cell (i := 3) rfl
  obtain ⟨si, sv, se⟩ := s
  dsimp only at *
  obtain ⟨w1, hw1⟩ : ∃ w1, w1 = w.alloc o0 := ⟨_, rfl⟩
  have hz1 : w1.heap.size = w.heap.size + 1 := by rw [hw1, World.size_alloc]
  rw [← hw1] at h0 l0 g0 x0 x1 x3
  have HW1 := Lib.hid hw1
  have HZ1 := Lib.hid hz1
  clear ho0 h hw1 hz1
  by_cases he : se = 0
  · subst he
    have hsrc := fun W (hb : Below w1.heap.size w1 W) => stake_of (fun h => spred_depth h) b c l si hi W (Nat.lt_of_lt_of_le (Nat.lt_of_lt_of_le hs.blk (Nat.le_trans hs.lt (Nat.le_of_lt h0.lt))) hb.size) hs.cap hs.capM (fun j u hj => (h0.below hb h0.lt).rune hs hj) hs.len ((h0.below hb h0.lt).errR hs)
    have hS0 : Below w1.heap.size w1 w1 := Below.refl _ _
    have y0' : ∀ W, Below w1.heap.size w1 W → W.cell? ⟨R, 0, none⟩ = some (.slice (some ⟨b, 0, none⟩) l.length c) := cell_turn x0
    have y1' : ∀ W, Below w1.heap.size w1 W → W.cell? ⟨R, 1, none⟩ = some (.int .i64 si) := cell_turn x1
    have hbd : Below w1.heap.size w1 w1.drew := hS0.drew
    have hba : Below w1.heap.size w1 (w1.alloc (.cells #[.int .i64 0, .int .i64 0, .int .i64 0, .int .i64 0, .int .i64 0, .int .i64 0, .bool false, .int .i64 0, .int .i64 0, .int .i64 0, .int .i64 0, .bool false, .int .i64 0, .slice none 0 0] 43)).drew := (hS0.alloc (Nat.le_refl _) _).drew
    have y0a : (w1.alloc (.cells #[.int .i64 0, .int .i64 0, .int .i64 0, .int .i64 0, .int .i64 0, .int .i64 0, .bool false, .int .i64 0, .int .i64 0, .int .i64 0, .int .i64 0, .bool false, .int .i64 0, .slice none 0 0] 43)).cell? ⟨R, 0, none⟩ = some (.slice (some ⟨b, 0, none⟩) l.length c) := y0' _ (below_new w1 _)
    have y1a : (w1.alloc (.cells #[.int .i64 0, .int .i64 0, .int .i64 0, .int .i64 0, .int .i64 0, .int .i64 0, .bool false, .int .i64 0, .int .i64 0, .int .i64 0, .int .i64 0, .bool false, .int .i64 0, .slice none 0 0] 43)).cell? ⟨R, 1, none⟩ = some (.int .i64 si) := y1' _ (below_new w1 _)
    have cp1 := hsrc _ hbd
    have cp2 := hsrc _ hba
    have HT := Lib.hid (Sh.pred_yes (l := l) (s := ⟨si, sv, 0⟩) rfl)
    dsimp only at HT
    have H1 := Lib.hid h0
    have G1 := Lib.hid g0
    have L0 := Lib.hid l0
    generalize Tx.takeN l si = gt at cp1 cp2 HT
    obtain ⟨gx, gi, ge⟩ := gt
    clear hsrc y0' y1' h0 g0 l0 hs
    go_enter Tryz.func47, Tryz.ntmps47
    go_upto_region 1 with (fail)
    rw [← HO.out, ← HW1.out]
    go_upto_region 3 with (fail)
    go_cut [3, 4, 5] from 12 to 24 (fun s3 s4 s5 wr => ∃ (g : Nat) (f : Pf) (A : Option Addr) (m kk : Nat) (ps : List Pd), s3 = .pointer (some ⟨g, 0, none⟩) ∧ s4 = .int .i64 gi ∧ s5 = .int .i64 ge ∧ Lies wr g 43 [.int .i64 f.k, .int .i64 f.u, .int .i64 f.o, .int .i64 f.a.k, .int .i64 f.a.t, .int .i64 f.a.c, .bool f.a.z, .int .i64 f.a.n, .int .i64 f.b.k, .int .i64 f.b.t, .int .i64 f.b.c, .bool f.b.z, .int .i64 f.b.n, .slice A m kk] ∧ Below w1.heap.size w1 wr ∧ w1.heap.size ≤ g ∧ Hid (gx = .mk f ps) ∧ Hid (PsIn w1.heap.size 4 wr (.slice A m kk) ps))
    case first =>
      go_region_with (first
        | (go_at_call 58; (with_reducible refine cp1.mono ?_); rintro e w' ⟨f, A, m, kk, ps, rfl, hx, hin, hbl1⟩)
        | (go_at_call 58; (with_reducible refine cp2.mono ?_); rintro e w' ⟨f, A, m, kk, ps, rfl, hx, hin, hbl1⟩; have lx := (Lies.new w1 43 [.int .i64 0, .int .i64 0, .int .i64 0, .int .i64 0, .int .i64 0, .int .i64 0, .bool false, .int .i64 0, .int .i64 0, .int .i64 0, .int .i64 0, .bool false, .int .i64 0, .slice none 0 0]).drew.below hbl1 (by simp [World.drew]); have lx0 := lx.cell (i := 0) rfl; have lf0 := lx.free 0; have lx1 := lx.cell (i := 1) rfl; have lf1 := lx.free 1; have lx2 := lx.cell (i := 2) rfl; have lf2 := lx.free 2; have lx3 := lx.cell (i := 3) rfl; have lf3 := lx.free 3; have lx4 := lx.cell (i := 4) rfl; have lf4 := lx.free 4; have lx5 := lx.cell (i := 5) rfl; have lf5 := lx.free 5; have lx6 := lx.cell (i := 6) rfl; have lf6 := lx.free 6; have lx7 := lx.cell (i := 7) rfl; have lf7 := lx.free 7; have lx8 := lx.cell (i := 8) rfl; have lf8 := lx.free 8; have lx9 := lx.cell (i := 9) rfl; have lf9 := lx.free 9; have lx10 := lx.cell (i := 10) rfl; have lf10 := lx.free 10; have lx11 := lx.cell (i := 11) rfl; have lf11 := lx.free 11; have lx12 := lx.cell (i := 12) rfl; have lf12 := lx.free 12; have lx13 := lx.cell (i := 13) rfl; have lf13 := lx.free 13))
      all_goals
        go_wp2_with (fail)
        go_meet
      all_goals first
        | exact ⟨_, f, A, m, kk, ps, rfl, rfl, rfl, ((((((((((((((lx.set 0 (.int .i64 f.k)).set 1 (.int .i64 f.u)).set 2 (.int .i64 f.o)).set 3 (.int .i64 f.a.k)).set 4 (.int .i64 f.a.t)).set 5 (.int .i64 f.a.c)).set 6 (.bool f.a.z)).set 7 (.int .i64 f.a.n)).set 8 (.int .i64 f.b.k)).set 9 (.int .i64 f.b.t)).set 10 (.int .i64 f.b.c)).set 11 (.bool f.b.z)).set 12 (.int .i64 f.b.n)).set 13 (.slice A m kk)), (((((((((((((((below_join hba hbl1).setCell (p := ⟨w1.heap.size, 0, none⟩) (Nat.le_refl _) (.int .i64 f.k)).setCell (p := ⟨w1.heap.size, 1, none⟩) (Nat.le_refl _) (.int .i64 f.u)).setCell (p := ⟨w1.heap.size, 2, none⟩) (Nat.le_refl _) (.int .i64 f.o)).setCell (p := ⟨w1.heap.size, 3, none⟩) (Nat.le_refl _) (.int .i64 f.a.k)).setCell (p := ⟨w1.heap.size, 4, none⟩) (Nat.le_refl _) (.int .i64 f.a.t)).setCell (p := ⟨w1.heap.size, 5, none⟩) (Nat.le_refl _) (.int .i64 f.a.c)).setCell (p := ⟨w1.heap.size, 6, none⟩) (Nat.le_refl _) (.bool f.a.z)).setCell (p := ⟨w1.heap.size, 7, none⟩) (Nat.le_refl _) (.int .i64 f.a.n)).setCell (p := ⟨w1.heap.size, 8, none⟩) (Nat.le_refl _) (.int .i64 f.b.k)).setCell (p := ⟨w1.heap.size, 9, none⟩) (Nat.le_refl _) (.int .i64 f.b.t)).setCell (p := ⟨w1.heap.size, 10, none⟩) (Nat.le_refl _) (.int .i64 f.b.c)).setCell (p := ⟨w1.heap.size, 11, none⟩) (Nat.le_refl _) (.bool f.b.z)).setCell (p := ⟨w1.heap.size, 12, none⟩) (Nat.le_refl _) (.int .i64 f.b.n)).setCell (p := ⟨w1.heap.size, 13, none⟩) (Nat.le_refl _) (.slice A m kk)), Nat.le_refl _, hx, Lib.hid ((((((((((((((((hin.out.setCell (a := ⟨w1.heap.size, 0, none⟩) (by simp [World.drew]) (.int .i64 f.k)).setCell (a := ⟨w1.heap.size, 1, none⟩) (by simp [World.drew]) (.int .i64 f.u)).setCell (a := ⟨w1.heap.size, 2, none⟩) (by simp [World.drew]) (.int .i64 f.o)).setCell (a := ⟨w1.heap.size, 3, none⟩) (by simp [World.drew]) (.int .i64 f.a.k)).setCell (a := ⟨w1.heap.size, 4, none⟩) (by simp [World.drew]) (.int .i64 f.a.t)).setCell (a := ⟨w1.heap.size, 5, none⟩) (by simp [World.drew]) (.int .i64 f.a.c)).setCell (a := ⟨w1.heap.size, 6, none⟩) (by simp [World.drew]) (.bool f.a.z)).setCell (a := ⟨w1.heap.size, 7, none⟩) (by simp [World.drew]) (.int .i64 f.a.n)).setCell (a := ⟨w1.heap.size, 8, none⟩) (by simp [World.drew]) (.int .i64 f.b.k)).setCell (a := ⟨w1.heap.size, 9, none⟩) (by simp [World.drew]) (.int .i64 f.b.t)).setCell (a := ⟨w1.heap.size, 10, none⟩) (by simp [World.drew]) (.int .i64 f.b.c)).setCell (a := ⟨w1.heap.size, 11, none⟩) (by simp [World.drew]) (.bool f.b.z)).setCell (a := ⟨w1.heap.size, 12, none⟩) (by simp [World.drew]) (.int .i64 f.b.n)).setCell (a := ⟨w1.heap.size, 13, none⟩) (by simp [World.drew]) (.slice A m kk))).low (by simp [World.drew]))⟩
        | exact ⟨_, f, A, m, kk, ps, rfl, rfl, rfl, Lies.new _ _ _, below_join (below_join hbd hbl1) (below_new _ _), (below_join hbd hbl1).size, hx, Lib.hid (hin.out.below (below_new _ _))⟩
    case rest =>
      obtain ⟨g, f, A, m, kk, ps, rfl, rfl, rfl, hL, hbw, hg, hx, hin⟩ := hcut
      have hr := H1.out.below hbw H1.out.lt
      have l2 := L0.out.below hbw L0.out.lt
      have hgw := G1.out.trans (Gw.of hbw)
      have hz1 := HZ1.out
      have hgR : R < g := by omega
      have z1 := hr.lies.cell (i := 1) rfl
      have f1 := hr.lies.free 1
      have z3 := hr.lies.cell (i := 3) rfl
      have f3 := hr.lies.free 3
      have hr3 := (hr.at_ gi).err ge
      have hg3 := (hgw.trans (Gw.set (R := R) wc 1 (.int .i64 gi))).trans (Gw.set (R := R) (wc.setCell ⟨R, 1, none⟩ (.int .i64 gi)) 3 (.int .i64 ge))
      have hRwne : R ≠ w.heap.size := by omega
      have l3 := (l2.far (p := ⟨R, 1, none⟩) (fun h => hRwne h.symm) (.int .i64 gi)).far (p := ⟨R, 3, none⟩) (fun h => hRwne h.symm) (.int .i64 ge)
      have hL3 := (hL.far (p := ⟨R, 1, none⟩) (by show g ≠ R; omega) (.int .i64 gi)).far (p := ⟨R, 3, none⟩) (by show g ≠ R; omega) (.int .i64 ge)
      have hin3 := Lib.hid ((hin.out.setCell (a := ⟨R, 1, none⟩) (by show R < w1.heap.size; omega) (.int .i64 gi)).setCell (a := ⟨R, 3, none⟩) (by show R < w1.heap.size; omega) (.int .i64 ge))
      rw [hz1] at hin3
      clear hz1
      clear cp1 cp2 hba hbd x0 x1 x3 y0a y1a hS0 H1 G1 L0 hbw hL hin hgw l2
      have y0 := l3.cell (i := 0) rfl
      have f0 := l3.free 0
      have y1 := l3.cell (i := 1) rfl
      have f1 := l3.free 1
      have y2 := l3.cell (i := 2) rfl
      have f2 := l3.free 2
      have y3 := l3.cell (i := 3) rfl
      have f3 := l3.free 3
      have y4 := l3.cell (i := 4) rfl
      have f4 := l3.free 4
      have y5 := l3.cell (i := 5) rfl
      have f5 := l3.free 5
      have y6 := l3.cell (i := 6) rfl
      have f6 := l3.free 6
      have y7 := l3.cell (i := 7) rfl
      have f7 := l3.free 7
      have y8 := l3.cell (i := 8) rfl
      have f8 := l3.free 8
      have y9 := l3.cell (i := 9) rfl
      have f9 := l3.free 9
      have y10 := l3.cell (i := 10) rfl
      have f10 := l3.free 10
      have y11 := l3.cell (i := 11) rfl
      have f11 := l3.free 11
      have y12 := l3.cell (i := 12) rfl
      have f12 := l3.free 12
      have y13 := l3.cell (i := 13) rfl
      have f13 := l3.free 13
      have q0 := hL3.cell (i := 0) rfl
      have q1 := hL3.cell (i := 1) rfl
      have q2 := hL3.cell (i := 2) rfl
      have q3 := hL3.cell (i := 3) rfl
      have q4 := hL3.cell (i := 4) rfl
      have q5 := hL3.cell (i := 5) rfl
      have q6 := hL3.cell (i := 6) rfl
      have q7 := hL3.cell (i := 7) rfl
      have q8 := hL3.cell (i := 8) rfl
      have q9 := hL3.cell (i := 9) rfl
      have q10 := hL3.cell (i := 10) rfl
      have q11 := hL3.cell (i := 11) rfl
      have q12 := hL3.cell (i := 12) rfl
      have q13 := hL3.cell (i := 13) rfl
      clear hL3
      have LF : Lies _ w.heap.size _ [.int .i64 f.k, .int .i64 f.u, .int .i64 f.o, .int .i64 f.a.k, .int .i64 f.a.t, .int .i64 f.a.c, .bool f.a.z, .int .i64 f.a.n, .int .i64 f.b.k, .int .i64 f.b.t, .int .i64 f.b.c, .bool f.b.z, .int .i64 f.b.n, .slice A m kk] := ((((((((((((((l3.set 0 (.int .i64 f.k)).set 1 (.int .i64 f.u)).set 2 (.int .i64 f.o)).set 3 (.int .i64 f.a.k)).set 4 (.int .i64 f.a.t)).set 5 (.int .i64 f.a.c)).set 6 (.bool f.a.z)).set 7 (.int .i64 f.a.n)).set 8 (.int .i64 f.b.k)).set 9 (.int .i64 f.b.t)).set 10 (.int .i64 f.b.c)).set 11 (.bool f.b.z)).set 12 (.int .i64 f.b.n)).set 13 (.slice A m kk))
      have k0 := LF.cell (i := 0) rfl
      have k1 := LF.cell (i := 1) rfl
      have k2 := LF.cell (i := 2) rfl
      have k3 := LF.cell (i := 3) rfl
      have k4 := LF.cell (i := 4) rfl
      have k5 := LF.cell (i := 5) rfl
      have k6 := LF.cell (i := 6) rfl
      have k7 := LF.cell (i := 7) rfl
      have k8 := LF.cell (i := 8) rfl
      have k9 := LF.cell (i := 9) rfl
      have k10 := LF.cell (i := 10) rfl
      have k11 := LF.cell (i := 11) rfl
      have k12 := LF.cell (i := 12) rfl
      have k13 := LF.cell (i := 13) rfl
      have HF := Lib.hid ((((((((((((((hr3.put hRw 0 (.int .i64 f.k)).put hRw 1 (.int .i64 f.u)).put hRw 2 (.int .i64 f.o)).put hRw 3 (.int .i64 f.a.k)).put hRw 4 (.int .i64 f.a.t)).put hRw 5 (.int .i64 f.a.c)).put hRw 6 (.bool f.a.z)).put hRw 7 (.int .i64 f.a.n)).put hRw 8 (.int .i64 f.b.k)).put hRw 9 (.int .i64 f.b.t)).put hRw 10 (.int .i64 f.b.c)).put hRw 11 (.bool f.b.z)).put hRw 12 (.int .i64 f.b.n)).put hRw 13 (.slice A m kk))
      have HGF := Lib.hid ((((((((((((((hg3.put (Nat.le_refl _) 0 (.int .i64 f.k)).put (Nat.le_refl _) 1 (.int .i64 f.u)).put (Nat.le_refl _) 2 (.int .i64 f.o)).put (Nat.le_refl _) 3 (.int .i64 f.a.k)).put (Nat.le_refl _) 4 (.int .i64 f.a.t)).put (Nat.le_refl _) 5 (.int .i64 f.a.c)).put (Nat.le_refl _) 6 (.bool f.a.z)).put (Nat.le_refl _) 7 (.int .i64 f.a.n)).put (Nat.le_refl _) 8 (.int .i64 f.b.k)).put (Nat.le_refl _) 9 (.int .i64 f.b.t)).put (Nat.le_refl _) 10 (.int .i64 f.b.c)).put (Nat.le_refl _) 11 (.bool f.b.z)).put (Nat.le_refl _) 12 (.int .i64 f.b.n)).put (Nat.le_refl _) 13 (.slice A m kk))
      have HIF := Lib.hid ((((((((((((((hin3.out.setCell (a := ⟨w.heap.size, 0, none⟩) (by show w.heap.size < w.heap.size + 1; omega) (.int .i64 f.k)).setCell (a := ⟨w.heap.size, 1, none⟩) (by show w.heap.size < w.heap.size + 1; omega) (.int .i64 f.u)).setCell (a := ⟨w.heap.size, 2, none⟩) (by show w.heap.size < w.heap.size + 1; omega) (.int .i64 f.o)).setCell (a := ⟨w.heap.size, 3, none⟩) (by show w.heap.size < w.heap.size + 1; omega) (.int .i64 f.a.k)).setCell (a := ⟨w.heap.size, 4, none⟩) (by show w.heap.size < w.heap.size + 1; omega) (.int .i64 f.a.t)).setCell (a := ⟨w.heap.size, 5, none⟩) (by show w.heap.size < w.heap.size + 1; omega) (.int .i64 f.a.c)).setCell (a := ⟨w.heap.size, 6, none⟩) (by show w.heap.size < w.heap.size + 1; omega) (.bool f.a.z)).setCell (a := ⟨w.heap.size, 7, none⟩) (by show w.heap.size < w.heap.size + 1; omega) (.int .i64 f.a.n)).setCell (a := ⟨w.heap.size, 8, none⟩) (by show w.heap.size < w.heap.size + 1; omega) (.int .i64 f.b.k)).setCell (a := ⟨w.heap.size, 9, none⟩) (by show w.heap.size < w.heap.size + 1; omega) (.int .i64 f.b.t)).setCell (a := ⟨w.heap.size, 10, none⟩) (by show w.heap.size < w.heap.size + 1; omega) (.int .i64 f.b.c)).setCell (a := ⟨w.heap.size, 11, none⟩) (by show w.heap.size < w.heap.size + 1; omega) (.bool f.b.z)).setCell (a := ⟨w.heap.size, 12, none⟩) (by show w.heap.size < w.heap.size + 1; omega) (.int .i64 f.b.n)).setCell (a := ⟨w.heap.size, 13, none⟩) (by show w.heap.size < w.heap.size + 1; omega) (.slice A m kk))
      clear LF
      clear hr hr3 hg3 l3
      go_wp2_with (fail)
      exact bodyPost_ret (v := .agg #[.int .i64 f.k, .int .i64 f.u, .int .i64 f.o, .int .i64 f.a.k, .int .i64 f.a.t, .int .i64 f.a.c, .bool f.a.z, .int .i64 f.a.n, .int .i64 f.b.k, .int .i64 f.b.t, .int .i64 f.b.c, .bool f.b.z, .int .i64 f.b.n, .slice A m kk]) (by simp [results, Tryz.results47, go_sem, k0, k1, k2, k3, k4, k5, k6, k7, k8, k9, k10, k11, k12, k13]) rfl ⟨f, A, m, kk, ps, ⟨gi, sv, ge⟩, rfl, Lib.hid HT.out.1.symm, Lib.hid (fun h => (HT.out.2 h).trans hx.out), Lib.hid (HIF.out.low (Nat.le_succ _)), HF.out, HGF.out⟩
  · have e1 : decide (se = 0) = false := by simpa using he
    have e2 : (se == 0) = false := by simpa using he
    have e3 : (se != 0) = true := by simpa using he
    have HP := Lib.hid (Sh.pred_no (l := l) (s := ⟨si, sv, se⟩) he)
    have H1 := Lib.hid h0
    have y0 := l0.cell (i := 0) rfl
    have f0 := l0.free 0
    have y1 := l0.cell (i := 1) rfl
    have f1 := l0.free 1
    have y2 := l0.cell (i := 2) rfl
    have f2 := l0.free 2
    have y3 := l0.cell (i := 3) rfl
    have f3 := l0.free 3
    have y4 := l0.cell (i := 4) rfl
    have f4 := l0.free 4
    have y5 := l0.cell (i := 5) rfl
    have f5 := l0.free 5
    have y6 := l0.cell (i := 6) rfl
    have f6 := l0.free 6
    have y7 := l0.cell (i := 7) rfl
    have f7 := l0.free 7
    have y8 := l0.cell (i := 8) rfl
    have f8 := l0.free 8
    have y9 := l0.cell (i := 9) rfl
    have f9 := l0.free 9
    have y10 := l0.cell (i := 10) rfl
    have f10 := l0.free 10
    have y11 := l0.cell (i := 11) rfl
    have f11 := l0.free 11
    have y12 := l0.cell (i := 12) rfl
    have f12 := l0.free 12
    have y13 := l0.cell (i := 13) rfl
    have f13 := l0.free 13
    have LF : Lies _ w.heap.size _ [.int .i64 0, .int .i64 0, .int .i64 0, .int .i64 0, .int .i64 0, .int .i64 0, .bool false, .int .i64 0, .int .i64 0, .int .i64 0, .int .i64 0, .bool false, .int .i64 0, .slice none 0 0] := ((((((((((((((l0.set 0 (.int .i64 0)).set 1 (.int .i64 0)).set 2 (.int .i64 0)).set 3 (.int .i64 0)).set 4 (.int .i64 0)).set 5 (.int .i64 0)).set 6 (.bool false)).set 7 (.int .i64 0)).set 8 (.int .i64 0)).set 9 (.int .i64 0)).set 10 (.int .i64 0)).set 11 (.bool false)).set 12 (.int .i64 0)).set 13 (.slice none 0 0))
    have k0 := LF.cell (i := 0) rfl
    have k1 := LF.cell (i := 1) rfl
    have k2 := LF.cell (i := 2) rfl
    have k3 := LF.cell (i := 3) rfl
    have k4 := LF.cell (i := 4) rfl
    have k5 := LF.cell (i := 5) rfl
    have k6 := LF.cell (i := 6) rfl
    have k7 := LF.cell (i := 7) rfl
    have k8 := LF.cell (i := 8) rfl
    have k9 := LF.cell (i := 9) rfl
    have k10 := LF.cell (i := 10) rfl
    have k11 := LF.cell (i := 11) rfl
    have k12 := LF.cell (i := 12) rfl
    have k13 := LF.cell (i := 13) rfl
    have HF := Lib.hid ((((((((((((((h0.put hRw 0 (.int .i64 0)).put hRw 1 (.int .i64 0)).put hRw 2 (.int .i64 0)).put hRw 3 (.int .i64 0)).put hRw 4 (.int .i64 0)).put hRw 5 (.int .i64 0)).put hRw 6 (.bool false)).put hRw 7 (.int .i64 0)).put hRw 8 (.int .i64 0)).put hRw 9 (.int .i64 0)).put hRw 10 (.int .i64 0)).put hRw 11 (.bool false)).put hRw 12 (.int .i64 0)).put hRw 13 (.slice none 0 0))
    have HGF := Lib.hid ((((((((((((((g0.put (Nat.le_refl _) 0 (.int .i64 0)).put (Nat.le_refl _) 1 (.int .i64 0)).put (Nat.le_refl _) 2 (.int .i64 0)).put (Nat.le_refl _) 3 (.int .i64 0)).put (Nat.le_refl _) 4 (.int .i64 0)).put (Nat.le_refl _) 5 (.int .i64 0)).put (Nat.le_refl _) 6 (.bool false)).put (Nat.le_refl _) 7 (.int .i64 0)).put (Nat.le_refl _) 8 (.int .i64 0)).put (Nat.le_refl _) 9 (.int .i64 0)).put (Nat.le_refl _) 10 (.int .i64 0)).put (Nat.le_refl _) 11 (.bool false)).put (Nat.le_refl _) 12 (.int .i64 0)).put (Nat.le_refl _) 13 (.slice none 0 0))
    clear LF
    clear h0 g0 l0 he hs x0 x1
    go_enter Tryz.func47, Tryz.ntmps47
    go_upto_region 1 with (fail)
    rw [← HO.out, ← HW1.out]
    go_wp2_with (fail)
    exact bodyPost_ret (v := .agg #[.int .i64 0, .int .i64 0, .int .i64 0, .int .i64 0, .int .i64 0, .int .i64 0, .bool false, .int .i64 0, .int .i64 0, .int .i64 0, .int .i64 0, .bool false, .int .i64 0, .slice none 0 0]) (by simp [results, Tryz.results47, go_sem, k0, k1, k2, k3, k4, k5, k6, k7, k8, k9, k10, k11, k12, k13]) rfl ⟨⟨0, 0, 0, Tx.zt, Tx.zt⟩, none, 0, 0, [], ⟨si, sv, se⟩, rfl, Lib.hid (by rw [HP.out]), Lib.hid (by rw [HP.out]; intro _; rfl), Lib.hid (PsIn.nil _ _ _), HF.out, HGF.out⟩
end Go.Proofs.YteimbdklakemaaaGreatDoor
