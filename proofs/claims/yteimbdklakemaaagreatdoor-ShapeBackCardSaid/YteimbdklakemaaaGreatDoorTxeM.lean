/-
  A PREDICATE's TEXT: the contracts of package text's predText and Pred.
-/
import Derived.Test.YteimbdklakemaaaGreatDoorTxdM
import Derived.Test.YteimbdklakemaaaGreatDoorPredsM
namespace Go.Proofs.YteimbdklakemaaaGreatDoor
open Go.RowKit Go.Sort
set_option maxHeartbeats 3200000

theorem runes_truths : Rn.runes [226, 138, 165, 63, 226, 138, 164] = Tx.truths := by decide +kernel
theorem runes_signs : Rn.runes [61, 226, 137, 160, 60, 226, 137, 164, 62, 226, 137, 165] = Tx.signs := by decide +kernel
theorem runes_lists : Rn.runes [226, 136, 167, 226, 136, 168] = [0x2227, 0x2228] := by decide +kernel
theorem runes_null : Rn.runes [226, 136, 133] = [0x2205] := by decide +kernel
theorem runes_not : Rn.runes [194, 172] = [0xAC] := by decide +kernel
theorem enc_null : Rn.enc 8709 = [226, 136, 133] := by
  rw [show (8709 : Int) = ((8709 : Nat) : Int) from rfl, Rn.enc_three (by decide) (by decide) (by decide)]; rfl
theorem enc_not : Rn.enc 172 = [194, 172] := by
  rw [show (172 : Int) = ((172 : Nat) : Int) from rfl, Rn.enc_two (by decide) (by decide)]; rfl
theorem truths_at {u : Nat} (h : u ≤ 2) : (Rn.runes [226, 138, 165, 63, 226, 138, 164])[u]? = some (Tx.truths.getD (u : Int).toNat (-1)) := by
  rw [runes_truths]
  have : u = 0 ∨ u = 1 ∨ u = 2 := by omega
  rcases this with rfl | rfl | rfl <;> rfl
theorem signs_at {o : Nat} (h : o ≤ 5) : (Rn.runes [61, 226, 137, 160, 60, 226, 137, 164, 62, 226, 137, 165])[o]? = some (Tx.signs.getD ((o : Int) + 1 - 1).toNat (-1)) := by
  rw [runes_signs]
  have : o = 0 ∨ o = 1 ∨ o = 2 ∨ o = 3 ∨ o = 4 ∨ o = 5 := by omega
  rcases this with rfl | rfl | rfl | rfl | rfl | rfl <;> rfl
set_option maxRecDepth 100000 in
theorem ptext_1 (u : Int) (U : Value) (w : World) (h0 : 0 ≤ u) (h2 : u ≤ 2) :
    Calls Tryz.prog 46 #[.agg #[.int .i64 1, .int .i64 u, .int .i64 0, .int .i64 0, .int .i64 0, .int .i64 0, .bool false, .int .i64 0, .int .i64 0, .int .i64 0, .int .i64 0, .bool false, .int .i64 0, U]] w fun e w' => e = .returned (strV (Rn.enc (Tx.truths.getD u.toNat (-1)))) ∧ Below w.heap.size w w' := by
  obtain ⟨m, rfl⟩ := Int.eq_ofNat_of_zero_le h0
  obtain ⟨W0, hW0⟩ : ∃ W0, W0 = w.alloc (Obj.cells #[.int .i64 1, .int .i64 m, .int .i64 0, .int .i64 0, .int .i64 0, .int .i64 0, .bool false, .int .i64 0, .int .i64 0, .int .i64 0, .int .i64 0, .bool false, .int .i64 0, U] 43) := ⟨_, rfl⟩
  obtain ⟨l0, p0, hb0⟩ := pd_box (f := ⟨1, m, 0, Te.nil, Te.nil⟩) hW0
  have cs := tsign_any [226, 138, 165, 63, 226, 138, 164] m _ W0 (by omega) (truths_at (by omega))
  generalize Rn.enc (Tx.truths.getD (m : Int).toNat (-1)) = X at cs ⊢
  have x0 : W0.cell? ⟨w.heap.size, 0, none⟩ = some (.int .i64 1) := p0.c0
  have x1 : W0.cell? ⟨w.heap.size, 1, none⟩ = some (.int .i64 m) := p0.c1
  have HW := Lib.hid hW0
  clear hW0 l0 p0
  go_enter Tryz.func46, Tryz.ntmps46
  go_upto_region 1 with (fail)
  rw [← HW.out]
  go_wp2_with fail
  refine cs.mono ?_
  rintro e w2 ⟨rfl, hb2⟩
  clear cs x0 x1
  go_wp2_with fail
  go_ret
  exact ⟨rfl, below_join hb0 hb2⟩
set_option maxRecDepth 100000 in
theorem ptext_2 (q : Nat) (a b : Tm) (U : Value) (w : World) (hq : q ≤ 5) (ha : Te.right a = true) (hb : Te.right b = true) (wa : Tx.I64 a.n) (wb : Tx.I64 b.n) (hP : Pows w) :
    Calls Tryz.prog 46 #[.agg #[.int .i64 2, .int .i64 0, .int .i64 ((q : Int) + 1), .int .i64 a.k, .int .i64 a.t, .int .i64 a.c, .bool a.z, .int .i64 a.n, .int .i64 b.k, .int .i64 b.t, .int .i64 b.c, .bool b.z, .int .i64 b.n, U]] w fun e w' => e = .returned (strV (Rn.enc (Tx.signs.getD ((q : Int) + 1 - 1).toNat (-1)) ++ Tx.termBytes a ++ [44] ++ Tx.termBytes b)) ∧ Below w.heap.size w w' := by
  obtain ⟨W0, hW0⟩ : ∃ W0, W0 = w.alloc (Obj.cells #[.int .i64 2, .int .i64 0, .int .i64 ((q : Int) + 1), .int .i64 a.k, .int .i64 a.t, .int .i64 a.c, .bool a.z, .int .i64 a.n, .int .i64 b.k, .int .i64 b.t, .int .i64 b.c, .bool b.z, .int .i64 b.n, U] 43) := ⟨_, rfl⟩
  obtain ⟨l0, p0, hb0⟩ := pd_box (f := ⟨2, 0, (q : Int) + 1, a, b⟩) hW0
  have hP0 := hP.below hb0 (Nat.le_refl _)
  have hb2 := hb
  have l1 := Tx.enc_le (Tx.signs_low (o := (q : Int) + 1) (by omega) (by omega))
  have l2 := term_bytes_le ha wa
  have l3 := term_bytes_le hb wb
  have cw : wrap64 ((q : Int)) = (q : Int) := by unfold wrap64; omega
  have n1 : ∀ d os, Calls Tryz.prog 55 #[.string ⟨[61, 226, 137, 160, 60, 226, 137, 164, 62, 226, 137, 165].toArray⟩, .int .i64 q] (grow (redrawn W0 d) os) fun e w'' => e = .returned (.string ⟨(Rn.enc (Tx.signs.getD ((q : Int) + 1 - 1).toNat (-1))).toArray⟩) ∧ ∃ p : Regrown, w'' = grow (redrawn W0 p.d) p.os := in_class fun W hb => tsign_any _ q _ W (by omega) (signs_at hq)
  have n2 : ∀ d os, Calls Tryz.prog 56 #[.agg #[.int .i64 a.k, .int .i64 a.t, .int .i64 a.c, .bool a.z, .int .i64 a.n]] (grow (redrawn W0 d) os) fun e w'' => e = .returned (.string ⟨(Tx.termBytes a).toArray⟩) ∧ ∃ p : Regrown, w'' = grow (redrawn W0 p.d) p.os := in_class fun W hb => ttext_any a.k a.t a.c a.z a.n W ha wa (hP0.below hb (Nat.le_refl _))
  have n3 : ∀ d os, Calls Tryz.prog 56 #[.agg #[.int .i64 b.k, .int .i64 b.t, .int .i64 b.c, .bool b.z, .int .i64 b.n]] (grow (redrawn W0 d) os) fun e w'' => e = .returned (.string ⟨(Tx.termBytes b).toArray⟩) ∧ ∃ p : Regrown, w'' = grow (redrawn W0 p.d) p.os := in_class fun W hb => ttext_any b.k b.t b.c b.z b.n W hb2 wb (hP0.below hb (Nat.le_refl _))
  generalize Rn.enc (Tx.signs.getD ((q : Int) + 1 - 1).toNat (-1)) = X at n1 l1 ⊢
  generalize Tx.termBytes a = Y at n2 l2 ⊢
  generalize Tx.termBytes b = Z at n3 l3 ⊢
  have x0 : W0.cell? ⟨w.heap.size, 0, none⟩ = some (.int .i64 2) := p0.c0
  have k0 := cell_regrown p0.c2
  have k1 := cell_regrown p0.c3
  have k2 := cell_regrown p0.c4
  have k3 := cell_regrown p0.c5
  have k4 := cell_regrown p0.c6
  have k5 := cell_regrown p0.c7
  have k6 := cell_regrown p0.c8
  have k7 := cell_regrown p0.c9
  have k8 := cell_regrown p0.c10
  have k9 := cell_regrown p0.c11
  have k10 := cell_regrown p0.c12
  have g1 : ¬ 9223372036854775807 < X.length + Y.length := by omega
  have g2 : ¬ 9223372036854775807 < X.length + Y.length + 1 := by omega
  have g3 : ¬ 9223372036854775807 < X.length + Y.length + 1 + Z.length := by omega
  have HW := Lib.hid hW0
  clear ha hb hb2 wa wb hP0 l0 p0 hW0 hP hq
  go_enter Tryz.func46, Tryz.ntmps46
  go_upto_region 1 with (fail)
  rw [← HW.out]
  go_wp2_with fail
  refine wp_region_quiet_below (by kernel_rfl) (by kernel_rfl) ?_
  repeat (go_big_quiet_step (with_reducible first | exact n1 _ _ | exact n2 _ _ | exact n3 _ _))
  refine wpQuiet_nil ?_
  intro _ hw'
  obtain ⟨⟨dq, osq⟩, hw''⟩ := hw'
  subst hw''
  have hbz : Below w.heap.size w (grow (redrawn W0 dq) osq) := below_join hb0 (below_regrown _ _ _)
  clear x0 n1 n2 n3 k0 k1 k2 k3 k4 k5 k6 k7 k8 k9 k10 hb0
  generalize grow (redrawn W0 dq) osq = wz at hbz ⊢
  go_wp2
  go_ret
  refine ⟨?_, hbz⟩
  rw [show (⟨#[44]⟩ : ByteArray) = ⟨[44].toArray⟩ from rfl, app_l, app_l, app_l]
  rfl
set_option maxRecDepth 100000 in
theorem ptext_3 (a : Tm) (U : Value) (w : World) (ha : Te.right a = true) (wa : Tx.I64 a.n) (hP : Pows w) :
    Calls Tryz.prog 46 #[.agg #[.int .i64 3, .int .i64 0, .int .i64 0, .int .i64 a.k, .int .i64 a.t, .int .i64 a.c, .bool a.z, .int .i64 a.n, .int .i64 0, .int .i64 0, .int .i64 0, .bool false, .int .i64 0, U]] w fun e w' => e = .returned (strV (Rn.enc 8709 ++ Tx.termBytes a)) ∧ Below w.heap.size w w' := by
  obtain ⟨W0, hW0⟩ : ∃ W0, W0 = w.alloc (Obj.cells #[.int .i64 3, .int .i64 0, .int .i64 0, .int .i64 a.k, .int .i64 a.t, .int .i64 a.c, .bool a.z, .int .i64 a.n, .int .i64 0, .int .i64 0, .int .i64 0, .bool false, .int .i64 0, U] 43) := ⟨_, rfl⟩
  obtain ⟨l0, p0, hb0⟩ := pd_box (f := ⟨3, 0, 0, a, Te.nil⟩) hW0
  have l2 := term_bytes_le ha wa
  have cs := ttext_any a.k a.t a.c a.z a.n W0 ha wa (hP.below hb0 (Nat.le_refl _))
  have e1 : Tx.termBytes ⟨a.k, a.t, a.c, a.z, a.n⟩ = Tx.termBytes a := rfl
  rw [e1] at cs
  generalize Tx.termBytes a = Y at cs l2 ⊢
  have x0 : W0.cell? ⟨w.heap.size, 0, none⟩ = some (.int .i64 3) := p0.c0
  have x3 := p0.c3
  have x4 := p0.c4
  have x5 := p0.c5
  have x6 := p0.c6
  have x7 := p0.c7
  have g1 : ¬ 9223372036854775807 < 3 + Y.length := by omega
  have HW := Lib.hid hW0
  clear ha wa l0 p0 hW0 hP e1
  go_enter Tryz.func46, Tryz.ntmps46
  go_upto_region 1 with (fail)
  rw [← HW.out]
  go_wp2_with fail
  refine cs.mono ?_
  rintro e w2 ⟨rfl, hb2⟩
  have hb := below_join hb0 hb2
  clear cs x0 x3 x4 x5 x6 x7 hb0 hb2
  go_wp2_with fail
  go_ret
  refine ⟨?_, hb⟩
  rw [enc_null, show (⟨#[226, 136, 133]⟩ : ByteArray) = ⟨[226, 136, 133].toArray⟩ from rfl, app_l]
  rfl
theorem list_sign {q : Nat} (h : q ≤ 1) : (Rn.runes [226, 136, 167, 226, 136, 168])[q]? = some (if 4 + (q : Int) = 4 then 8743 else 8744) := by
  rw [runes_lists]
  have : q = 0 ∨ q = 1 := by omega
  rcases this with rfl | rfl <;> rfl
set_option maxRecDepth 100000 in
theorem ptext_45 (d : Nat) (ih : TextsBelow d) (q : Nat) (A : Option Addr) (c : Nat) (ps : List Pd) (dp : Nat) (w : World) (hq : q ≤ 1) (hu : PsAt d w (.slice A ps.length c) ps) (hr : Pr.rightAts ps dp = true) (hw : Tx.wfs ps) (hsz : Pr.sizes ps ≤ 1000000) (hP : Pows w) :
    Calls Tryz.prog 46 #[.agg #[.int .i64 (4 + (q : Int)), .int .i64 0, .int .i64 0, .int .i64 0, .int .i64 0, .int .i64 0, .bool false, .int .i64 0, .int .i64 0, .int .i64 0, .int .i64 0, .bool false, .int .i64 0, .slice A ps.length c]] w fun e w' => e = .returned (strV (Rn.enc (if 4 + (q : Int) = 4 then 8743 else 8744) ++ [40] ++ Tx.joined ps ++ [41])) ∧ Below w.heap.size w w' := by
  obtain ⟨W0, hW0⟩ : ∃ W0, W0 = w.alloc (Obj.cells #[.int .i64 (4 + (q : Int)), .int .i64 0, .int .i64 0, .int .i64 0, .int .i64 0, .int .i64 0, .bool false, .int .i64 0, .int .i64 0, .int .i64 0, .int .i64 0, .bool false, .int .i64 0, .slice A ps.length c] 43) := ⟨_, rfl⟩
  obtain ⟨l0, p0, hb0⟩ := pd_box (f := ⟨4 + (q : Int), 0, 0, Te.nil, Te.nil⟩) hW0
  have hP0 := hP.below hb0 (Nat.le_refl _)
  have hu0 := hu.below hb0 (Nat.le_refl _)
  have l1 : (Rn.enc (if 4 + (q : Int) = 4 then 8743 else 8744)).length ≤ 4 := Tx.enc_le (by split <;> exact ⟨by decide, by decide⟩)
  have l2 := Tx.joined_le ps fun x hx => Tx.bytes_le _ x dp (Nat.le_refl _) ((Pr.rightAts_iff ps dp).1 hr x hx) (Tx.wfs_at hw x hx)
  have cw : wrap64 ((q : Int)) = (q : Int) := by unfold wrap64; omega
  have e1 : ((4 + (q : Int)) == 1) = false := by simp; omega
  have e2 : ((4 + (q : Int)) == 2) = false := by simp; omega
  have e3 : ((4 + (q : Int)) == 3) = false := by simp; omega
  have e6 : ((4 + (q : Int)) == 6) = false := by simp; omega
  have cw2 : wrap64 (4 + (q : Int) - 4) = (q : Int) := by unfold wrap64; omega
  have n1 : ∀ d os, Calls Tryz.prog 55 #[.string ⟨[226, 136, 167, 226, 136, 168].toArray⟩, .int .i64 q] (grow (redrawn W0 d) os) fun e w'' => e = .returned (.string ⟨(Rn.enc (if 4 + (q : Int) = 4 then 8743 else 8744)).toArray⟩) ∧ ∃ p : Regrown, w'' = grow (redrawn W0 p.d) p.os := in_class fun W hb => tsign_any _ q _ W (by omega) (list_sign hq)
  have n2 : ∀ d os, Calls Tryz.prog 57 #[.slice A ps.length c] (grow (redrawn W0 d) os) fun e w'' => e = .returned (.string ⟨(Tx.joined ps).toArray⟩) ∧ ∃ p : Regrown, w'' = grow (redrawn W0 p.d) p.os := in_class fun W hb => ptexts_of d ih _ ps dp W (hu0.below hb (Nat.le_refl _)) hr hw hsz (hP0.below hb (Nat.le_refl _))
  generalize Rn.enc (if 4 + (q : Int) = 4 then 8743 else 8744) = X at n1 l1 ⊢
  generalize Tx.joined ps = Y at n2 l2 ⊢
  have x0 : W0.cell? ⟨w.heap.size, 0, none⟩ = some (.int .i64 (4 + (q : Int))) := p0.c0
  have k0 := cell_regrown p0.c0
  have k1 := cell_regrown p0.c13
  have g1 : ¬ 9223372036854775807 < X.length + 1 := by omega
  have g2 : ¬ 9223372036854775807 < X.length + 1 + Y.length := by omega
  have g3 : ¬ 9223372036854775807 < X.length + 1 + Y.length + 1 := by omega
  have HW := Lib.hid hW0
  clear hP0 hu0 hu hr hw hsz ih l0 p0 hW0 hP hq
  go_enter Tryz.func46, Tryz.ntmps46
  go_upto_region 1 with (fail)
  rw [← HW.out]
  go_wp2_with fail
  refine wp_region_quiet_below (by kernel_rfl) (by kernel_rfl) ?_
  repeat (go_big_quiet_step (with_reducible first | exact n1 _ _ | exact n2 _ _))
  refine wpQuiet_nil ?_
  intro _ hw'
  obtain ⟨⟨dq, osq⟩, hw''⟩ := hw'
  subst hw''
  have hbz : Below w.heap.size w (grow (redrawn W0 dq) osq) := below_join hb0 (below_regrown _ _ _)
  clear x0 n1 n2 k0 k1 hb0
  generalize grow (redrawn W0 dq) osq = wz at hbz ⊢
  go_wp2
  go_ret
  refine ⟨?_, hbz⟩
  rw [show (⟨#[40]⟩ : ByteArray) = ⟨[40].toArray⟩ from rfl, show (⟨#[41]⟩ : ByteArray) = ⟨[41].toArray⟩ from rfl, app_l, app_l, app_l]
  rfl
set_option maxRecDepth 100000 in
theorem ptext_6 (d : Nat) (ih : TextsBelow d) (A : Option Addr) (c : Nat) (p : Pd) (dp : Nat) (w : World) (hu : PsAt d w (.slice A 1 c) [p]) (hr : Pr.rightAt p dp = true) (hw : Tx.wf p) (hsz : Pr.size p ≤ 1000000) (hP : Pows w) :
    Calls Tryz.prog 46 #[.agg #[.int .i64 6, .int .i64 0, .int .i64 0, .int .i64 0, .int .i64 0, .int .i64 0, .bool false, .int .i64 0, .int .i64 0, .int .i64 0, .int .i64 0, .bool false, .int .i64 0, .slice A 1 c]] w fun e w' => e = .returned (strV (Rn.enc 172 ++ Tx.bytes p)) ∧ Below w.heap.size w w' := by
  obtain ⟨W0, hW0⟩ : ∃ W0, W0 = w.alloc (Obj.cells #[.int .i64 6, .int .i64 0, .int .i64 0, .int .i64 0, .int .i64 0, .int .i64 0, .bool false, .int .i64 0, .int .i64 0, .int .i64 0, .int .i64 0, .bool false, .int .i64 0, .slice A 1 c] 43) := ⟨_, rfl⟩
  obtain ⟨l0, p0, hb0⟩ := pd_box (f := ⟨6, 0, 0, Te.nil, Te.nil⟩) hW0
  have hP0 := hP.below hb0 (Nat.le_refl _)
  have hu0 : PsAt d W0 (.slice A [p].length c) [p] := hu.below hb0 (Nat.le_refl _)
  have l2 := Tx.bytes_le _ p dp (Nat.le_refl _) hr hw
  obtain ⟨e, b, o, s, v, he, rfl, _, hx⟩ := hu0.at_ (j := 0) (p := p) rfl
  obtain ⟨hcell, hps⟩ := hx W0 (Below.refl _ _)
  have hpe : Pd.mk p.f p.ps = p := by cases p; rfl
  have cs := ih e he p.f v p.ps dp W0 hps (by rw [hpe]; exact hr) (by rw [hpe]; exact hw) (by rw [hpe]; exact hsz) hP0
  rw [hpe] at cs
  generalize Tx.bytes p = Y at cs l2 ⊢
  have x0 : W0.cell? ⟨w.heap.size, 0, none⟩ = some (.int .i64 6) := p0.c0
  have x13 := p0.c13
  have e0 : ((⟨b, o, s⟩ : Addr).add (0 * 14)) = ⟨b, o, s⟩ := rfl
  rw [e0] at hcell
  obtain ⟨y0, y1, y2, y3, y4, y5, y6, y7, y8, y9, y10, y11, y12, y13⟩ := hcell
  have g1 : ¬ 9223372036854775807 < 2 + Y.length := by omega
  have HW := Lib.hid hW0
  clear hP0 hu0 hu hr hw hsz ih l0 p0 hW0 hP hx hps hpe he e0
  unfold strV at cs
  go_enter Tryz.func46, Tryz.ntmps46
  go_upto_region 1 with (fail)
  rw [← HW.out]
  go_wp2_with fail
  refine cs.mono ?_
  rintro e w2 ⟨rfl, hb2⟩
  have hb := below_join hb0 hb2
  clear cs x0 x13 y0 y1 y2 y3 y4 y5 y6 y7 y8 y9 y10 y11 y12 y13 hb0 hb2
  go_wp2_with fail
  go_ret
  refine ⟨?_, hb⟩
  rw [enc_not, show (⟨#[194, 172]⟩ : ByteArray) = ⟨[194, 172].toArray⟩ from rfl, app_l]
  rfl
theorem ptext_at (d : Nat) : ∀ (f : Pf) (u : Value) (ps : List Pd) (dp : Nat) (w : World), PsAt d w u ps → Pr.rightAt (.mk f ps) dp = true → Tx.wf (.mk f ps) → Pr.size (.mk f ps) ≤ 1000000 → Pows w →
    Calls Tryz.prog 46 #[.agg #[.int .i64 f.k, .int .i64 f.u, .int .i64 f.o, .int .i64 f.a.k, .int .i64 f.a.t, .int .i64 f.a.c, .bool f.a.z, .int .i64 f.a.n, .int .i64 f.b.k, .int .i64 f.b.t, .int .i64 f.b.c, .bool f.b.z, .int .i64 f.b.n, u]] w fun e w' => e = .returned (strV (Tx.bytes (.mk f ps))) ∧ Below w.heap.size w w' := by
  induction d using Nat.strongRecOn with
  | ind d ih =>
  intro f u ps dp w hu hr hw hsz hP
  obtain ⟨A, c, rfl, hl⟩ := hu.form
  rw [Pr.size] at hsz
  obtain ⟨wa, wb, wps⟩ := hw
  obtain ⟨hd, hk⟩ := Tx.kinds hr
  rcases hk with ⟨u, h0, h2, rfl, rfl⟩ | ⟨o, a, b, h1, h6, rfl, ha, hb, rfl⟩ | ⟨a, rfl, ha, rfl⟩ | ⟨hf, hl, hra⟩ | ⟨rfl, hl, hra⟩
  · rw [Tx.bytes_truth _ _ rfl]
    exact ptext_1 u _ w h0 h2
  · rw [Tx.bytes_cmp _ _ rfl]
    obtain ⟨q, rfl⟩ : ∃ q : Nat, o = (q : Int) + 1 := ⟨(o - 1).toNat, by omega⟩
    exact ptext_2 q a b _ w (by omega) ha hb wa wb hP
  · rw [Tx.bytes_null _ _ rfl]
    exact ptext_3 a _ w ha wa hP
  · rcases hf with rfl | rfl
    · rw [Tx.bytes_many _ _ (.inl rfl)]
      exact ptext_45 d ih 0 A c ps (dp + 1) w (by decide) hu hra wps (by omega) hP
    · rw [Tx.bytes_many _ _ (.inr rfl)]
      exact ptext_45 d ih 1 A c ps (dp + 1) w (by decide) hu hra wps (by omega) hP
  · rw [Tx.bytes_not _ _ ⟨by decide, by decide, by decide, by decide, by decide⟩]
    obtain ⟨p, rfl⟩ : ∃ p, ps = [p] := List.length_eq_one_iff.1 hl
    rw [Tx.joined_one]
    have hz := Pr.sizes_at (l := [p]) (j := 0) (p := p) rfl
    exact ptext_6 d ih A c p (dp + 1) w hu ((Pr.rightAts_iff _ _).1 hra p List.mem_cons_self) (Tx.wfs_at wps p List.mem_cons_self) (by omega) hP
/-- what Pred tells -/
def Tx.told (p : Pd) : List UInt8 := if Pr.rightAt p 1 then Tx.bytes p else []
set_option maxRecDepth 100000 in
theorem tpred_any (d : Nat) (f : Pf) (u : Value) (ps : List Pd) (w : World) (hu : PsAt d w u ps) (hw : Tx.wf (.mk f ps)) (hsz : Pr.size (.mk f ps) ≤ 1000000) (hP : Pows w) :
    Calls Tryz.prog 35 #[.agg #[.int .i64 f.k, .int .i64 f.u, .int .i64 f.o, .int .i64 f.a.k, .int .i64 f.a.t, .int .i64 f.a.c, .bool f.a.z, .int .i64 f.a.n, .int .i64 f.b.k, .int .i64 f.b.t, .int .i64 f.b.c, .bool f.b.z, .int .i64 f.b.n, u]] w fun e w' => e = .returned (.tuple #[.string ⟨(Tx.told (.mk f ps)).toArray⟩, .int .i64 (if Pr.rightAt (.mk f ps) 1 then 0 else 9)]) ∧ Below w.heap.size w w' := by
  obtain ⟨A, c, rfl, hl⟩ := hu.form
  obtain ⟨W0, hW0⟩ : ∃ W0, W0 = w.alloc (Obj.cells #[.int .i64 f.k, .int .i64 f.u, .int .i64 f.o, .int .i64 f.a.k, .int .i64 f.a.t, .int .i64 f.a.c, .bool f.a.z, .int .i64 f.a.n, .int .i64 f.b.k, .int .i64 f.b.t, .int .i64 f.b.c, .bool f.b.z, .int .i64 f.b.n, .slice A ps.length c] 43) := ⟨_, rfl⟩
  obtain ⟨l0, p0, hb0⟩ := pd_box hW0
  have hu0 := hu.below hb0 (Nat.le_refl _)
  have cr := pright_any d f _ ps W0 hu0
  have cb := fun (W : World) (hb : Below W0.heap.size W0 W) (hr : Pr.rightAt (.mk f ps) 1 = true) => ptext_at d f _ ps 1 W (hu0.below hb (Nat.le_refl _)) hr hw hsz ((hP.below hb0 (Nat.le_refl _)).below hb (Nat.le_refl _))
  have hX : Pr.rightAt (.mk f ps) 1 = true → Tx.told (.mk f ps) = Tx.bytes (.mk f ps) := fun h => if_pos h
  have hX0 : Pr.rightAt (.mk f ps) 1 = false → Tx.told (.mk f ps) = [] := fun h => if_neg (by simp [h])
  generalize Pr.rightAt (.mk f ps) 1 = r at cr cb hX hX0 ⊢
  have HW := Lib.hid hW0
  have HP := Lib.hid p0
  have HL := Lib.hid l0.lt
  obtain ⟨x0, x1, x2, x3, x4, x5, x6, x7, x8, x9, x10, x11, x12, x13⟩ := p0
  clear hu hu0 hW0 l0 hw hsz hP
  cases r
  · have hX1 := Lib.hid (hX0 rfl)
    clear hX hX0 cb
    go_enter Tryz.func35, Tryz.ntmps35
    go_upto_region 1 with (fail)
    rw [← HW.out]
    go_wp2_with fail
    refine cr.mono ?_
    rintro e w2 ⟨rfl, hb2⟩
    go_wp2_with fail
    exact bodyPost_ret (v := .tuple #[.string ⟨#[]⟩, .int .i64 9]) (by simp [results, Tryz.results35, go_sem]) rfl ⟨by rw [hX1.out], below_join hb0 hb2⟩
  · have hX1 := Lib.hid (hX rfl)
    clear hX hX0
    go_enter Tryz.func35, Tryz.ntmps35
    go_upto_region 1 with (fail)
    rw [← HW.out]
    go_wp2_with fail
    refine cr.mono ?_
    rintro e w2 ⟨rfl, hb2⟩
    have cb2 := cb w2 hb2 (by trivial)
    have p2 := HP.out.below hb2 (show w.heap.size < W0.heap.size from HL.out)
    clear cb cr x0 x1 x2 x3 x4 x5 x6 x7 x8 x9 x10 x11 x12 x13
    obtain ⟨x0, x1, x2, x3, x4, x5, x6, x7, x8, x9, x10, x11, x12, x13⟩ := p2
    rw [← hX1.out] at cb2
    unfold strV at cb2
    go_wp2_with fail
    refine cb2.mono ?_
    rintro e w3 ⟨rfl, hb3⟩
    clear cb2 x0 x1 x2 x3 x4 x5 x6 x7 x8 x9 x10 x11 x12 x13
    go_wp2_with fail
    exact bodyPost_ret (v := .tuple #[.string ⟨(Tx.told (.mk f ps)).toArray⟩, .int .i64 0]) (by simp [results, Tryz.results35, go_sem]) rfl ⟨rfl, below_join (below_join hb0 hb2) hb3⟩
end Go.Proofs.YteimbdklakemaaaGreatDoor
