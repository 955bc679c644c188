/-
  THE CONTRACTS OF package reject: joined, May, Rejects.
-/
import Derived.Test.YtpdgbfeciacbdaaDoorRejnM
import Derived.Test.YtpdgbfeciacbdaaDoorHeldM
import Derived.Deep.Cut
namespace Go.Proofs.YtpdgbfeciacbdaaDoor
open Go.RowKit Go.Sort
set_option maxHeartbeats 3200000

theorem keepJ {W4 W : World} {T B : Nat} {m0 m1 m2 : Bool} {p : Pd} {A2 : Option Addr} {c2 : Nat} (hT : Lies W4 T 26 [.bool m0, .bool m1, .bool m2]) (hB : Lies W4 B 33 (p.f.cells (.slice A2 p.ps.length c2))) (h : Below W4.heap.size W4 W) :
    (W.cell? ⟨T, 0, none⟩ = some (.bool m0) ∧ W.cell? ⟨T, 1, none⟩ = some (.bool m1) ∧ W.cell? ⟨T, 2, none⟩ = some (.bool m2) ∧ W.cell? ⟨B, 0, none⟩ = some (.int .i64 p.f.k) ∧ W.cell? ⟨B, 1, none⟩ = some (.int .i64 p.f.u) ∧ W.cell? ⟨B, 2, none⟩ = some (.int .i64 p.f.o) ∧ W.cell? ⟨B, 3, none⟩ = some (.int .i64 p.f.a.k) ∧ W.cell? ⟨B, 4, none⟩ = some (.int .i64 p.f.a.t) ∧ W.cell? ⟨B, 5, none⟩ = some (.int .i64 p.f.a.c) ∧ W.cell? ⟨B, 6, none⟩ = some (.bool p.f.a.z) ∧ W.cell? ⟨B, 7, none⟩ = some (.int .i64 p.f.a.n) ∧ W.cell? ⟨B, 8, none⟩ = some (.int .i64 p.f.b.k) ∧ W.cell? ⟨B, 9, none⟩ = some (.int .i64 p.f.b.t) ∧ W.cell? ⟨B, 10, none⟩ = some (.int .i64 p.f.b.c) ∧ W.cell? ⟨B, 11, none⟩ = some (.bool p.f.b.z) ∧ W.cell? ⟨B, 12, none⟩ = some (.int .i64 p.f.b.n) ∧ W.cell? ⟨B, 13, none⟩ = some (.slice A2 p.ps.length c2)) ∧ Below W4.heap.size W4 W := by
  have t := keep3 hT h
  have b := keep3 hB h
  exact ⟨⟨t.cell rfl, t.cell rfl, t.cell rfl, b.cell rfl, b.cell rfl, b.cell rfl, b.cell rfl, b.cell rfl, b.cell rfl, b.cell rfl, b.cell rfl, b.cell rfl, b.cell rfl, b.cell rfl, b.cell rfl, b.cell rfl, b.cell rfl⟩, h⟩
set_option maxRecDepth 100000 in
theorem jjoinA_of (d N : Nat) (ih : ∀ e, e < d → ∀ (f : Pf) (u : Value) (ps : List Pd) (w : World), PsAt e w u ps → Pr.sizes ps ≤ 1000 → Want w → Calls Tryd.prog 8 #[.agg #[.int .i64 f.k, .int .i64 f.u, .int .i64 f.o, .int .i64 f.a.k, .int .i64 f.a.t, .int .i64 f.a.c, .bool f.a.z, .int .i64 f.a.n, .int .i64 f.b.k, .int .i64 f.b.t, .int .i64 f.b.c, .bool f.b.z, .int .i64 f.b.n, u], .int .u64 (N : Int)] w fun e w' => e = .returned (.agg #[.bool (Rj.may N (.mk f ps)).1, .bool (Rj.may N (.mk f ps)).2.1, .bool (Rj.may N (.mk f ps)).2.2]) ∧ Below w.heap.size w w') (u : Value) (ps : List Pd) (w : World) (hu : PsAt d w u ps) (hsz : Pr.sizes ps ≤ 1000) (hW : Want w) :
    Calls Tryd.prog 20 #[u, .int .u64 (N : Int), .func (.func 21) #[] #[]] w fun e w' => e = .returned (.agg #[.bool (Rj.andM (ps.map (Rj.may N))).1, .bool (Rj.andM (ps.map (Rj.may N))).2.1, .bool (Rj.andM (ps.map (Rj.may N))).2.2]) ∧ Below w.heap.size w w' := by
  obtain ⟨A, c, rfl, hl⟩ := hu.form
  have HU := Lib.hid hu
  have IH := Lib.hid ih
  have HZ := Lib.hid hsz
  have HWa := Lib.hid hW
  obtain ⟨⟨r0, r1, r2⟩, hM⟩ : ∃ m, m = Rj.andM (ps.map (Rj.may N)) := ⟨_, rfl⟩
  rw [← hM]
  have HM := Lib.hid hM
  dsimp only
  obtain ⟨n, hn⟩ : ∃ n, n = ps.length := ⟨_, rfl⟩
  rw [← hn] at hl HU ⊢
  have HN := Lib.hid hn
  obtain ⟨W0, hW0⟩ : ∃ W0, W0 = w.alloc (Obj.cells #[.bool false, .bool false, .bool false] 26) := ⟨_, rfl⟩
  obtain ⟨l0, hb0⟩ := box_one (cs := [.bool false, .bool false, .bool false]) hW0
  have c1 : Calls Tryd.prog 21 #[.slice none 0 0] W0 fun e w' => e = .returned (.int .i64 2) ∧ Below W0.heap.size W0 w' := by
    have k := land_any _ [] W0 (sl_none W0) (by simp)
    rw [Lo.andI_nil] at k
    exact k
  have c2 : ∀ W, Below W0.heap.size W0 W → Calls Tryd.prog 24 #[.slice (some ⟨W.heap.size, 0, none⟩) 1 1] (W.alloc (.cells #[.int .i64 2] 3)) fun e w' => e = .returned (.agg #[.bool false, .bool false, .bool true]) ∧ Below W0.heap.size W0 w' := jonly_turn (W0 := W0) [2] (by simp) (by simp) (show _ = (false, false, true) by decide)
  have HW0 := Lib.hid hW0
  have L0 := Lib.hid l0
  have HB0 := Lib.hid hb0
  clear hn hu ih hsz hW hM hW0 l0 hb0
  go_enter Tryd.func20, Tryd.ntmps20
  go_upto_region 1 with (fail)
  rw [← HW0.out]
  go_wp2_with fail
  refine c1.mono ?_
  rintro e w1 ⟨rfl, hb1⟩
  clear c1
  go_wp2_with fail
  with_reducible refine (c2 _ hb1).mono ?_
  rintro e w2 ⟨rfl, hb2⟩
  obtain ⟨T, hT⟩ : ∃ T, T = w2.heap.size := ⟨_, rfl⟩
  have hl2 := keep3 L0.out hb2
  have hbw2 := below_join HB0.out hb2
  clear c2 hb1 hb2
  go_wp2_with fail
  obtain ⟨W3, hW3⟩ : ∃ W3, W3 = w2.alloc (Obj.cells #[.bool false, .bool false, .bool true] 26) := ⟨_, rfl⟩
  obtain ⟨l3, hb3⟩ := box_one (cs := [.bool false, .bool false, .bool true]) hW3
  rw [← hW3, ← hT]
  rw [← hT] at l3
  have HT : w.heap.size < T := by have := hl2.lt; omega
  have L3 := Lib.hid l3
  have L2 := Lib.hid (keep3 hl2 hb3)
  have HB3 := Lib.hid (below_join hbw2 hb3)
  clear hW3 l3 hb3 hl2 hbw2 hT
  go_loopw [16] (fun i wr => ∃ q : Nat, q ≤ n ∧ i = .int .i64 q ∧ Hid (Lies wr T 26 (Rj.andM ((ps.take q).map (Rj.may N))).cells) ∧ Hid (Lies wr w.heap.size 26 [.bool false, .bool false, .bool false]) ∧ Below w.heap.size w wr) (fun i _ => n - (intOf i).toNat)
  case atStart => exact ⟨0, Nat.zero_le _, rfl, Lib.hid (by rw [List.take_zero]; exact L3.out), L2, HB3.out⟩
  case round =>
    obtain ⟨q, hq, rfl, hm, h0, hb⟩ := hrel
    by_cases hlt : q < n
    · obtain ⟨p, gp⟩ : ∃ p, ps[q]? = some p := ⟨ps[q]'(by have := HN.out; omega), List.getElem?_eq_getElem _⟩
      have hu := HU.out
      rw [HN.out] at hu
      obtain ⟨e, b', o, s, v', he, rfl, _, hx⟩ := hu.at_ gp
      obtain ⟨hcell, hps⟩ := hx wr hb
      obtain ⟨A2, c2, rfl, _⟩ := hps.form
      obtain ⟨W4, hW4⟩ : ∃ W4, W4 = wr.alloc (Obj.cells #[.int .i64 p.f.k, .int .i64 p.f.u, .int .i64 p.f.o, .int .i64 p.f.a.k, .int .i64 p.f.a.t, .int .i64 p.f.a.c, .bool p.f.a.z, .int .i64 p.f.a.n, .int .i64 p.f.b.k, .int .i64 p.f.b.t, .int .i64 p.f.b.c, .bool p.f.b.z, .int .i64 p.f.b.n, .slice A2 p.ps.length c2] 33) := ⟨_, rfl⟩
      obtain ⟨l4, hb4⟩ := box_one (cs := p.f.cells (.slice A2 p.ps.length c2)) hW4
      obtain ⟨B, hB⟩ : ∃ B, B = wr.heap.size := ⟨_, rfl⟩
      rw [← hB] at l4
      obtain ⟨⟨m0, m1, m2⟩, hmm⟩ : ∃ m, m = Rj.andM ((ps.take q).map (Rj.may N)) := ⟨_, rfl⟩
      have hm4 := keep3 hm.out hb4
      rw [← hmm] at hm4
      obtain ⟨⟨x0, x1, x2⟩, hxx⟩ : ∃ x, x = Rj.may N p := ⟨_, rfl⟩
      have hsn : Rj.andM ((ps.take (q + 1)).map (Rj.may N)) = Rj.cA (m0, m1, m2) (x0, x1, x2) := by
        rw [List.take_add_one, gp, hmm, hxx, List.map_append, ← Rj.andM_snoc]; rfl
      obtain ⟨⟨y0, y1, y2⟩, hyy⟩ : ∃ x, x = Rj.cA (m0, m1, m2) (x0, x1, x2) := ⟨_, rfl⟩
      rw [← hyy] at hsn
      have cm : ∀ W, Below W4.heap.size W4 W → Calls Tryd.prog 8 #[.agg #[.int .i64 p.f.k, .int .i64 p.f.u, .int .i64 p.f.o, .int .i64 p.f.a.k, .int .i64 p.f.a.t, .int .i64 p.f.a.c, .bool p.f.a.z, .int .i64 p.f.a.n, .int .i64 p.f.b.k, .int .i64 p.f.b.t, .int .i64 p.f.b.c, .bool p.f.b.z, .int .i64 p.f.b.n, .slice A2 p.ps.length c2], .int .u64 (N : Int)] W fun e w' => e = .returned (.agg #[.bool x0, .bool x1, .bool x2]) ∧ Below W4.heap.size W4 w' := in_turn fun W h => by
        have h1 := below_join (below_join hb hb4) h
        have k := IH.out e he p.f _ p.ps W ((hx W h1).2) (by have := Pr.sizes_down gp; have := HZ.out; omega) (HWa.out.below h1 (Nat.le_refl _))
        rw [Rj.may_mk, ← hxx] at k
        exact k
      have cx : ∀ W, Below W4.heap.size W4 W → Calls Tryd.prog 38 #[.agg #[.bool m0, .bool m1, .bool m2], .agg #[.bool x0, .bool x1, .bool x2], .func (.func 21) #[] #[]] W fun e w' => e = .returned (.agg #[.bool y0, .bool y1, .bool y2]) ∧ Below W4.heap.size W4 w' := in_turn fun W h => by
        have k := jcrossA_any (m0, m1, m2) (x0, x1, x2) W
        rw [← hyy] at k
        exact k
      have HX4 := Lib.hid hW4
      have L4 := Lib.hid l4
      have M4 := Lib.hid hm4
      have Z4 := Lib.hid (keep3 h0.out hb4)
      have B4 := Lib.hid (below_join hb hb4)
      have SN := Lib.hid hsn
      have HBQ := Lib.hid hB
      have hS : Below W4.heap.size W4 W4 := Below.refl _ _
      obtain ⟨k0, k1, k2, k3, k4, k5, k6, k7, k8, k9, k10, k11, k12, k13⟩ := hcell
      clear hB hW4 l4 hm4 hb4 hmm hxx hyy hsn hx hps hu gp hm h0
      go_upto_region 5 with (fail)
      rw [← HX4.out, ← HBQ.out]
      clear k0 k1 k2 k3 k4 k5 k6 k7 k8 k9 k10 k11 k12 k13
      have b14 := L4.out
      have y00 := M4.out.cell (i := 0) rfl
      have y01 := M4.out.cell (i := 1) rfl
      have y02 := M4.out.cell (i := 2) rfl
      have k0 := b14.cell (i := 0) rfl
      have k1 := b14.cell (i := 1) rfl
      have k2 := b14.cell (i := 2) rfl
      have k3 := b14.cell (i := 3) rfl
      have k4 := b14.cell (i := 4) rfl
      have k5 := b14.cell (i := 5) rfl
      have k6 := b14.cell (i := 6) rfl
      have k7 := b14.cell (i := 7) rfl
      have k8 := b14.cell (i := 8) rfl
      have k9 := b14.cell (i := 9) rfl
      have k10 := b14.cell (i := 10) rfl
      have k11 := b14.cell (i := 11) rfl
      have k12 := b14.cell (i := 12) rfl
      have k13 := b14.cell (i := 13) rfl
      clear b14
      go_region_with (first
          | (go_at_call 8; (with_reducible refine (cm _ (by first | assumption | exact Below.drew (by assumption))).mono ?_); rintro e w5 ⟨rfl, hS5⟩; have lt5 := keep3 M4.out hS5; have z0 := lt5.cell (i := 0) rfl; have z1 := lt5.cell (i := 1) rfl; have z2 := lt5.cell (i := 2) rfl)
          | (go_at_call 38; (with_reducible refine (cx _ (by first | assumption | exact Below.drew (by assumption))).mono ?_); rintro e w6 ⟨rfl, hS6⟩; have lt6 := keep3 M4.out hS6; have t0 := lt6.cell (i := 0) rfl; have t1 := lt6.cell (i := 1) rfl; have t2 := lt6.cell (i := 2) rfl; have f0 := lt6.free 0; have f1 := lt6.free 1; have f2 := lt6.free 2))
      all_goals
        have HT6 := Lib.hid lt6
        have HS6 := Lib.hid hS6
        clear lt6 hS6 t0 t1 t2 f0 f1 f2 cm cx
        go_wp2_with fail
        go_roundw
        case rel => exact ⟨q + 1, by omega, by go_num, Lib.hid (by rw [SN.out]; exact ((HT6.out.set 0 (.bool y0)).set 1 (.bool y1)).set 2 (.bool y2)), Lib.hid ((((keep3 Z4.out HS6.out).far (by simp; omega) _).far (by simp; omega) _).far (by simp; omega) _), (((below_join B4.out HS6.out).setCell (by simp; omega) _).setCell (by simp; omega) _).setCell (by simp; omega) _⟩
        case measure => simp [intOf]; omega
    · obtain rfl : n = q := by omega
      have hm2 := hm.out
      rw [List.take_of_length_le (by have := HN.out; omega), ← HM.out] at hm2
      have z0 := hm2.cell (i := 0) rfl
      have z1 := hm2.cell (i := 1) rfl
      have z2 := hm2.cell (i := 2) rfl
      have x0 := h0.out.cell (i := 0) rfl
      have x1 := h0.out.cell (i := 1) rfl
      have x2 := h0.out.cell (i := 2) rfl
      have f0 := h0.out.free 0
      have f1 := h0.out.free 1
      have f2 := h0.out.free 2
      clear hm2
      dsimp only at z0 z1 z2
      go_wp2_with fail
      all_goals exact bodyPost_ret (v := .agg #[.bool r0, .bool r1, .bool r2]) (by simp [results, Tryd.results20, go_sem, x0, x1, x2]) rfl ⟨rfl, ((hb.setCell (by simp) _).setCell (by simp) _).setCell (by simp) _⟩
set_option maxRecDepth 100000 in
theorem jjoinO_of (d N : Nat) (ih : ∀ e, e < d → ∀ (f : Pf) (u : Value) (ps : List Pd) (w : World), PsAt e w u ps → Pr.sizes ps ≤ 1000 → Want w → Calls Tryd.prog 8 #[.agg #[.int .i64 f.k, .int .i64 f.u, .int .i64 f.o, .int .i64 f.a.k, .int .i64 f.a.t, .int .i64 f.a.c, .bool f.a.z, .int .i64 f.a.n, .int .i64 f.b.k, .int .i64 f.b.t, .int .i64 f.b.c, .bool f.b.z, .int .i64 f.b.n, u], .int .u64 (N : Int)] w fun e w' => e = .returned (.agg #[.bool (Rj.may N (.mk f ps)).1, .bool (Rj.may N (.mk f ps)).2.1, .bool (Rj.may N (.mk f ps)).2.2]) ∧ Below w.heap.size w w') (u : Value) (ps : List Pd) (w : World) (hu : PsAt d w u ps) (hsz : Pr.sizes ps ≤ 1000) (hW : Want w) :
    Calls Tryd.prog 20 #[u, .int .u64 (N : Int), .func (.func 22) #[] #[]] w fun e w' => e = .returned (.agg #[.bool (Rj.orM (ps.map (Rj.may N))).1, .bool (Rj.orM (ps.map (Rj.may N))).2.1, .bool (Rj.orM (ps.map (Rj.may N))).2.2]) ∧ Below w.heap.size w w' := by
  obtain ⟨A, c, rfl, hl⟩ := hu.form
  have HU := Lib.hid hu
  have IH := Lib.hid ih
  have HZ := Lib.hid hsz
  have HWa := Lib.hid hW
  obtain ⟨⟨r0, r1, r2⟩, hM⟩ : ∃ m, m = Rj.orM (ps.map (Rj.may N)) := ⟨_, rfl⟩
  rw [← hM]
  have HM := Lib.hid hM
  dsimp only
  obtain ⟨n, hn⟩ : ∃ n, n = ps.length := ⟨_, rfl⟩
  rw [← hn] at hl HU ⊢
  have HN := Lib.hid hn
  obtain ⟨W0, hW0⟩ : ∃ W0, W0 = w.alloc (Obj.cells #[.bool false, .bool false, .bool false] 26) := ⟨_, rfl⟩
  obtain ⟨l0, hb0⟩ := box_one (cs := [.bool false, .bool false, .bool false]) hW0
  have c1 : Calls Tryd.prog 22 #[.slice none 0 0] W0 fun e w' => e = .returned (.int .i64 0) ∧ Below W0.heap.size W0 w' := by
    have k := lor_any _ [] W0 (sl_none W0) (by simp)
    rw [Lo.orI_nil] at k
    exact k
  have c2 : ∀ W, Below W0.heap.size W0 W → Calls Tryd.prog 24 #[.slice (some ⟨W.heap.size, 0, none⟩) 1 1] (W.alloc (.cells #[.int .i64 0] 3)) fun e w' => e = .returned (.agg #[.bool true, .bool false, .bool false]) ∧ Below W0.heap.size W0 w' := jonly_turn (W0 := W0) [0] (by simp) (by simp) (show _ = (true, false, false) by decide)
  have HW0 := Lib.hid hW0
  have L0 := Lib.hid l0
  have HB0 := Lib.hid hb0
  clear hn hu ih hsz hW hM hW0 l0 hb0
  go_enter Tryd.func20, Tryd.ntmps20
  go_upto_region 1 with (fail)
  rw [← HW0.out]
  go_wp2_with fail
  refine c1.mono ?_
  rintro e w1 ⟨rfl, hb1⟩
  clear c1
  go_wp2_with fail
  with_reducible refine (c2 _ hb1).mono ?_
  rintro e w2 ⟨rfl, hb2⟩
  obtain ⟨T, hT⟩ : ∃ T, T = w2.heap.size := ⟨_, rfl⟩
  have hl2 := keep3 L0.out hb2
  have hbw2 := below_join HB0.out hb2
  clear c2 hb1 hb2
  go_wp2_with fail
  obtain ⟨W3, hW3⟩ : ∃ W3, W3 = w2.alloc (Obj.cells #[.bool true, .bool false, .bool false] 26) := ⟨_, rfl⟩
  obtain ⟨l3, hb3⟩ := box_one (cs := [.bool true, .bool false, .bool false]) hW3
  rw [← hW3, ← hT]
  rw [← hT] at l3
  have HT : w.heap.size < T := by have := hl2.lt; omega
  have L3 := Lib.hid l3
  have L2 := Lib.hid (keep3 hl2 hb3)
  have HB3 := Lib.hid (below_join hbw2 hb3)
  clear hW3 l3 hb3 hl2 hbw2 hT
  go_loopw [16] (fun i wr => ∃ q : Nat, q ≤ n ∧ i = .int .i64 q ∧ Hid (Lies wr T 26 (Rj.orM ((ps.take q).map (Rj.may N))).cells) ∧ Hid (Lies wr w.heap.size 26 [.bool false, .bool false, .bool false]) ∧ Below w.heap.size w wr) (fun i _ => n - (intOf i).toNat)
  case atStart => exact ⟨0, Nat.zero_le _, rfl, Lib.hid (by rw [List.take_zero]; exact L3.out), L2, HB3.out⟩
  case round =>
    obtain ⟨q, hq, rfl, hm, h0, hb⟩ := hrel
    by_cases hlt : q < n
    · obtain ⟨p, gp⟩ : ∃ p, ps[q]? = some p := ⟨ps[q]'(by have := HN.out; omega), List.getElem?_eq_getElem _⟩
      have hu := HU.out
      rw [HN.out] at hu
      obtain ⟨e, b', o, s, v', he, rfl, _, hx⟩ := hu.at_ gp
      obtain ⟨hcell, hps⟩ := hx wr hb
      obtain ⟨A2, c2, rfl, _⟩ := hps.form
      obtain ⟨W4, hW4⟩ : ∃ W4, W4 = wr.alloc (Obj.cells #[.int .i64 p.f.k, .int .i64 p.f.u, .int .i64 p.f.o, .int .i64 p.f.a.k, .int .i64 p.f.a.t, .int .i64 p.f.a.c, .bool p.f.a.z, .int .i64 p.f.a.n, .int .i64 p.f.b.k, .int .i64 p.f.b.t, .int .i64 p.f.b.c, .bool p.f.b.z, .int .i64 p.f.b.n, .slice A2 p.ps.length c2] 33) := ⟨_, rfl⟩
      obtain ⟨l4, hb4⟩ := box_one (cs := p.f.cells (.slice A2 p.ps.length c2)) hW4
      obtain ⟨B, hB⟩ : ∃ B, B = wr.heap.size := ⟨_, rfl⟩
      rw [← hB] at l4
      obtain ⟨⟨m0, m1, m2⟩, hmm⟩ : ∃ m, m = Rj.orM ((ps.take q).map (Rj.may N)) := ⟨_, rfl⟩
      have hm4 := keep3 hm.out hb4
      rw [← hmm] at hm4
      obtain ⟨⟨x0, x1, x2⟩, hxx⟩ : ∃ x, x = Rj.may N p := ⟨_, rfl⟩
      have hsn : Rj.orM ((ps.take (q + 1)).map (Rj.may N)) = Rj.cO (m0, m1, m2) (x0, x1, x2) := by
        rw [List.take_add_one, gp, hmm, hxx, List.map_append, ← Rj.orM_snoc]; rfl
      obtain ⟨⟨y0, y1, y2⟩, hyy⟩ : ∃ x, x = Rj.cO (m0, m1, m2) (x0, x1, x2) := ⟨_, rfl⟩
      rw [← hyy] at hsn
      have cm : ∀ W, Below W4.heap.size W4 W → Calls Tryd.prog 8 #[.agg #[.int .i64 p.f.k, .int .i64 p.f.u, .int .i64 p.f.o, .int .i64 p.f.a.k, .int .i64 p.f.a.t, .int .i64 p.f.a.c, .bool p.f.a.z, .int .i64 p.f.a.n, .int .i64 p.f.b.k, .int .i64 p.f.b.t, .int .i64 p.f.b.c, .bool p.f.b.z, .int .i64 p.f.b.n, .slice A2 p.ps.length c2], .int .u64 (N : Int)] W fun e w' => e = .returned (.agg #[.bool x0, .bool x1, .bool x2]) ∧ Below W4.heap.size W4 w' := in_turn fun W h => by
        have h1 := below_join (below_join hb hb4) h
        have k := IH.out e he p.f _ p.ps W ((hx W h1).2) (by have := Pr.sizes_down gp; have := HZ.out; omega) (HWa.out.below h1 (Nat.le_refl _))
        rw [Rj.may_mk, ← hxx] at k
        exact k
      have cx : ∀ W, Below W4.heap.size W4 W → Calls Tryd.prog 38 #[.agg #[.bool m0, .bool m1, .bool m2], .agg #[.bool x0, .bool x1, .bool x2], .func (.func 22) #[] #[]] W fun e w' => e = .returned (.agg #[.bool y0, .bool y1, .bool y2]) ∧ Below W4.heap.size W4 w' := in_turn fun W h => by
        have k := jcrossO_any (m0, m1, m2) (x0, x1, x2) W
        rw [← hyy] at k
        exact k
      have HX4 := Lib.hid hW4
      have L4 := Lib.hid l4
      have M4 := Lib.hid hm4
      have Z4 := Lib.hid (keep3 h0.out hb4)
      have B4 := Lib.hid (below_join hb hb4)
      have SN := Lib.hid hsn
      have HBQ := Lib.hid hB
      have hS : Below W4.heap.size W4 W4 := Below.refl _ _
      obtain ⟨k0, k1, k2, k3, k4, k5, k6, k7, k8, k9, k10, k11, k12, k13⟩ := hcell
      clear hB hW4 l4 hm4 hb4 hmm hxx hyy hsn hx hps hu gp hm h0
      go_upto_region 5 with (fail)
      rw [← HX4.out, ← HBQ.out]
      clear k0 k1 k2 k3 k4 k5 k6 k7 k8 k9 k10 k11 k12 k13
      have b14 := L4.out
      have y00 := M4.out.cell (i := 0) rfl
      have y01 := M4.out.cell (i := 1) rfl
      have y02 := M4.out.cell (i := 2) rfl
      have k0 := b14.cell (i := 0) rfl
      have k1 := b14.cell (i := 1) rfl
      have k2 := b14.cell (i := 2) rfl
      have k3 := b14.cell (i := 3) rfl
      have k4 := b14.cell (i := 4) rfl
      have k5 := b14.cell (i := 5) rfl
      have k6 := b14.cell (i := 6) rfl
      have k7 := b14.cell (i := 7) rfl
      have k8 := b14.cell (i := 8) rfl
      have k9 := b14.cell (i := 9) rfl
      have k10 := b14.cell (i := 10) rfl
      have k11 := b14.cell (i := 11) rfl
      have k12 := b14.cell (i := 12) rfl
      have k13 := b14.cell (i := 13) rfl
      clear b14
      go_region_with (first
          | (go_at_call 8; (with_reducible refine (cm _ (by first | assumption | exact Below.drew (by assumption))).mono ?_); rintro e w5 ⟨rfl, hS5⟩; have lt5 := keep3 M4.out hS5; have z0 := lt5.cell (i := 0) rfl; have z1 := lt5.cell (i := 1) rfl; have z2 := lt5.cell (i := 2) rfl)
          | (go_at_call 38; (with_reducible refine (cx _ (by first | assumption | exact Below.drew (by assumption))).mono ?_); rintro e w6 ⟨rfl, hS6⟩; have lt6 := keep3 M4.out hS6; have t0 := lt6.cell (i := 0) rfl; have t1 := lt6.cell (i := 1) rfl; have t2 := lt6.cell (i := 2) rfl; have f0 := lt6.free 0; have f1 := lt6.free 1; have f2 := lt6.free 2))
      all_goals
        have HT6 := Lib.hid lt6
        have HS6 := Lib.hid hS6
        clear lt6 hS6 t0 t1 t2 f0 f1 f2 cm cx
        go_wp2_with fail
        go_roundw
        case rel => exact ⟨q + 1, by omega, by go_num, Lib.hid (by rw [SN.out]; exact ((HT6.out.set 0 (.bool y0)).set 1 (.bool y1)).set 2 (.bool y2)), Lib.hid ((((keep3 Z4.out HS6.out).far (by simp; omega) _).far (by simp; omega) _).far (by simp; omega) _), (((below_join B4.out HS6.out).setCell (by simp; omega) _).setCell (by simp; omega) _).setCell (by simp; omega) _⟩
        case measure => simp [intOf]; omega
    · obtain rfl : n = q := by omega
      have hm2 := hm.out
      rw [List.take_of_length_le (by have := HN.out; omega), ← HM.out] at hm2
      have z0 := hm2.cell (i := 0) rfl
      have z1 := hm2.cell (i := 1) rfl
      have z2 := hm2.cell (i := 2) rfl
      have x0 := h0.out.cell (i := 0) rfl
      have x1 := h0.out.cell (i := 1) rfl
      have x2 := h0.out.cell (i := 2) rfl
      have f0 := h0.out.free 0
      have f1 := h0.out.free 1
      have f2 := h0.out.free 2
      clear hm2
      dsimp only at z0 z1 z2
      go_wp2_with fail
      all_goals exact bodyPost_ret (v := .agg #[.bool r0, .bool r1, .bool r2]) (by simp [results, Tryd.results20, go_sem, x0, x1, x2]) rfl ⟨rfl, ((hb.setCell (by simp) _).setCell (by simp) _).setCell (by simp) _⟩
end Go.Proofs.YtpdgbfeciacbdaaDoor
