/-
  THE CONTRACTS OF package reject: compared, asked.
-/
import Derived.Test.YtpdgbfeciacbdaaDoorRejmM
import Derived.Test.YtpdgbfeciacbdaaDoorGOwn
import Derived.Deep.Cut
namespace Go.Proofs.YtpdgbfeciacbdaaDoor
open Go.RowKit Go.Sort
set_option maxHeartbeats 3200000

/-- only of a slice that the call has just built, one behind another -/
theorem jonly_turn {W0 : World} (l : List Nat) (hl : l.length ≤ 1000) (h3 : ∀ x ∈ l, x < 3) {m0 m1 m2 : Bool} (hm : M3.only l = (m0, m1, m2)) : ∀ W, Below W0.heap.size W0 W → Calls Tryd.prog 24 #[.slice (some ⟨W.heap.size, 0, none⟩) l.length l.length] (W.alloc (.cells (l.map fun (n : Nat) => Value.int .i64 (n : Int)).toArray 3)) fun e w' => e = .returned (.agg #[.bool m0, .bool m1, .bool m2]) ∧ Below W0.heap.size W0 w' := fun W hb => by
  have k := jonly_any _ l (W.alloc (.cells (l.map fun (n : Nat) => Value.int .i64 (n : Int)).toArray 3)) (Sl.new W 3 _) hl h3
  rw [hm, List.length_map] at k
  exact k.mono fun e w' ⟨he, h⟩ => ⟨he, below_join hb (below_join (below_new _ _) h)⟩
theorem keep3 {W0 W : World} {g : Nat} {cs : List Value} {t : TypeId} (h : Lies W0 g t cs) (hb : Below W0.heap.size W0 W) : Lies W g t cs := h.below hb h.lt
set_option maxRecDepth 100000 in
theorem jcompared_any (f : Pf) (A : Option Addr) (n c : Nat) (N : Nat) (w : World) (hN : N < 18446744073709551616) (hW : Want w) (l : List M3) (h2 : f.k = 2) :
    Calls Tryd.prog 18 #[.agg #[.int .i64 f.k, .int .i64 f.u, .int .i64 f.o, .int .i64 f.a.k, .int .i64 f.a.t, .int .i64 f.a.c, .bool f.a.z, .int .i64 f.a.n, .int .i64 f.b.k, .int .i64 f.b.t, .int .i64 f.b.c, .bool f.b.z, .int .i64 f.b.n, .slice A n c], .int .u64 (N : Int)] w fun e w' => e = .returned (.agg #[.bool (Rj.made f N l).1, .bool (Rj.made f N l).2.1, .bool (Rj.made f N l).2.2]) ∧ Below w.heap.size w w' := by
  rw [Rj.made_2 h2]
  clear h2
  obtain ⟨W1, hW1⟩ : ∃ W1, W1 = w.alloc (Obj.cells #[.int .i64 f.k, .int .i64 f.u, .int .i64 f.o, .int .i64 f.a.k, .int .i64 f.a.t, .int .i64 f.a.c, .bool f.a.z, .int .i64 f.a.n, .int .i64 f.b.k, .int .i64 f.b.t, .int .i64 f.b.c, .bool f.b.z, .int .i64 f.b.n, .slice A n c] 33) := ⟨_, rfl⟩
  obtain ⟨l1, p1, hb1⟩ := pd_box hW1
  obtain ⟨W0, hW0⟩ : ∃ W0, W0 = W1.alloc (Obj.cells #[.bool false, .bool false, .bool false] 26) := ⟨_, rfl⟩
  obtain ⟨l0, hb0⟩ := box_one (cs := [.bool false, .bool false, .bool false]) hW0
  have hz : W1.heap.size = w.heap.size + 1 := by rw [hW1]; simp
  rw [hz] at l0
  have lp := l1.below hb0 l1.lt
  have HB := Lib.hid (below_join hb1 hb0)
  have hW00 := hW.below HB.out (Nat.le_refl _)
  have L1 := Lib.hid l0
  have HW1 := Lib.hid hW1
  have HW0 := Lib.hid hW0
  have hS : Below W0.heap.size W0 W0 := Below.refl _ _
  have k2 := cell_turn (lp.pd.c2)
  have k3 := cell_turn (lp.pd.c3)
  have k4 := cell_turn (lp.pd.c4)
  have k5 := cell_turn (lp.pd.c5)
  have k6 := cell_turn (lp.pd.c6)
  have k7 := cell_turn (lp.pd.c7)
  have k8 := cell_turn (lp.pd.c8)
  have k9 := cell_turn (lp.pd.c9)
  have k10 := cell_turn (lp.pd.c10)
  have k11 := cell_turn (lp.pd.c11)
  have k12 := cell_turn (lp.pd.c12)
  have ca := in_turn (W0 := W0) fun W _ => jsure_any f.a.k f.a.t f.a.c f.a.z f.a.n N W hN
  have cb := in_turn (W0 := W0) fun W _ => jsure_any f.b.k f.b.t f.b.c f.b.z f.b.n N W hN
  have cc := fun W => jcomps_any f.o W
  have da := in_turn (W0 := W0) fun W _ => jcol_any f.a.k f.a.t f.a.c f.a.z f.a.n W
  have db := in_turn (W0 := W0) fun W _ => jcol_any f.b.k f.b.t f.b.c f.b.z f.b.n W
  have dv := in_turn (W0 := W0) fun W hb => compare_any f.o f.a.z f.b.z f.a.n f.b.n W (hW00.below hb (Nat.le_refl _))
  have o1 : ∀ W, Below W0.heap.size W0 W → Calls Tryd.prog 24 #[.slice (some ⟨W.heap.size, 0, none⟩) 1 1] (W.alloc (.cells #[.int .i64 1] 3)) fun e w' => e = .returned (.agg #[.bool false, .bool true, .bool false]) ∧ Below W0.heap.size W0 w' := jonly_turn (W0 := W0) [1] (by simp) (by simp) (show _ = (false, true, false) by decide)
  have o3 : ∀ W, Below W0.heap.size W0 W → Calls Tryd.prog 24 #[.slice (some ⟨W.heap.size, 0, none⟩) 3 3] (W.alloc (.cells #[.int .i64 0, .int .i64 1, .int .i64 2] 3)) fun e w' => e = .returned (.agg #[.bool true, .bool true, .bool true]) ∧ Below W0.heap.size W0 w' := jonly_turn (W0 := W0) [0, 1, 2] (by simp) (by simp) (show _ = (true, true, true) by decide)
  obtain ⟨x, hx, hx3⟩ : ∃ x : Nat, Va.comp f.o f.a.z f.a.n f.b.z f.b.n = (x : Int) ∧ x < 3 := by
    rcases Pr.comp_cases f.o f.a.z f.a.n f.b.z f.b.n with h | h | h
    · exact ⟨0, by rw [h]; rfl, by decide⟩
    · exact ⟨1, by rw [h]; rfl, by decide⟩
    · exact ⟨2, by rw [h]; rfl, by decide⟩
  have ov := fun (m0 m1 m2 : Bool) (hm : M3.only [x] = (m0, m1, m2)) => jonly_turn (W0 := W0) [x] (by simp) (by simpa using hx3) hm
  rw [hx] at dv ⊢
  rw [← Rj.only_one hx3]
  obtain ⟨⟨m0, m1, m2⟩, hM⟩ : ∃ m, m = M3.only [x] := ⟨_, rfl⟩
  have ov1 : ∀ W, Below W0.heap.size W0 W → Calls Tryd.prog 24 #[.slice (some ⟨W.heap.size, 0, none⟩) 1 1] (W.alloc (.cells #[.int .i64 x] 3)) fun e w' => e = .returned (.agg #[.bool m0, .bool m1, .bool m2]) ∧ Below W0.heap.size W0 w' := ov m0 m1 m2 hM.symm
  rw [← hM]
  obtain ⟨sa, hsa⟩ : ∃ r, r = Rj.sure f.a N := ⟨_, rfl⟩
  obtain ⟨sb, hsb⟩ : ∃ r, r = Rj.sure f.b N := ⟨_, rfl⟩
  obtain ⟨sc, hsc⟩ : ∃ r, r = (decide (f.o < 1) || decide (6 < f.o)) := ⟨_, rfl⟩
  obtain ⟨ta, hta⟩ : ∃ r, r = (f.a.k == 1) := ⟨_, rfl⟩
  obtain ⟨tb, htb⟩ : ∃ r, r = (f.b.k == 1) := ⟨_, rfl⟩
  have ca' : ∀ W, Below W0.heap.size W0 W → Calls Tryd.prog 35 #[.agg #[.int .i64 f.a.k, .int .i64 f.a.t, .int .i64 f.a.c, .bool f.a.z, .int .i64 f.a.n], .int .u64 (N : Int)] W fun e w' => e = .returned (.bool sa) ∧ Below W0.heap.size W0 w' := by rw [hsa]; exact ca
  have cb' : ∀ W, Below W0.heap.size W0 W → Calls Tryd.prog 35 #[.agg #[.int .i64 f.b.k, .int .i64 f.b.t, .int .i64 f.b.c, .bool f.b.z, .int .i64 f.b.n], .int .u64 (N : Int)] W fun e w' => e = .returned (.bool sb) ∧ Below W0.heap.size W0 w' := by rw [hsb]; exact cb
  rw [← hsc] at cc
  rw [← hta] at da
  rw [← htb] at db
  rw [← hsa, ← hsb, ← hsc, ← hta, ← htb]
  clear ca cb ov hsa hsb hsc hta htb hM hx hx3 hW0 hW1 l0 l1 p1 lp hb0 hb1 hz hW hW00
  cases sa with
  | true =>
    go_enter Tryd.func18, Tryd.ntmps18
    go_upto_region 1 with (fail)
    rw [← HW1.out, ← HW0.out]
    go_wp2_with (first | (with_reducible refine (ca' _ (by assumption)).mono ?_; rintro e w' ⟨rfl, hS'⟩) | (with_reducible refine (cb' _ (by assumption)).mono ?_; rintro e w' ⟨rfl, hS'⟩) | (with_reducible refine (da _ (by assumption)).mono ?_; rintro e w' ⟨rfl, hS'⟩) | (with_reducible refine (db _ (by assumption)).mono ?_; rintro e w' ⟨rfl, hS'⟩) | (with_reducible refine (dv _ (by assumption)).mono ?_; rintro e w' ⟨rfl, hS'⟩) | (with_reducible refine (cc _).mono ?_; rintro e w' ⟨rfl, rfl⟩))
    with_reducible refine (o1 _ (by assumption)).mono ?_
    rintro e w9 ⟨rfl, hS9⟩
    have lr := keep3 L1.out hS9
    have x0 := lr.cell (i := 0) rfl
    have x1 := lr.cell (i := 1) rfl
    have x2 := lr.cell (i := 2) rfl
    have f0 := lr.free 0
    have f1 := lr.free 1
    have f2 := lr.free 2
    have HF := Lib.hid (below_join HB.out hS9)
    clear lr hS9
    go_wp2_with fail
    all_goals exact bodyPost_ret (v := .agg #[.bool false, .bool true, .bool false]) (by simp [results, Tryd.results18, go_sem, x0, x1, x2]) rfl ⟨by simp, ((HF.out.setCell (by simp) _).setCell (by simp) _).setCell (by simp) _⟩
  | false =>
    cases sb with
    | true =>
      go_enter Tryd.func18, Tryd.ntmps18
      go_upto_region 1 with (fail)
      rw [← HW1.out, ← HW0.out]
      go_wp2_with (first | (with_reducible refine (ca' _ (by assumption)).mono ?_; rintro e w' ⟨rfl, hS'⟩) | (with_reducible refine (cb' _ (by assumption)).mono ?_; rintro e w' ⟨rfl, hS'⟩) | (with_reducible refine (da _ (by assumption)).mono ?_; rintro e w' ⟨rfl, hS'⟩) | (with_reducible refine (db _ (by assumption)).mono ?_; rintro e w' ⟨rfl, hS'⟩) | (with_reducible refine (dv _ (by assumption)).mono ?_; rintro e w' ⟨rfl, hS'⟩) | (with_reducible refine (cc _).mono ?_; rintro e w' ⟨rfl, rfl⟩))
      with_reducible refine (o1 _ (by assumption)).mono ?_
      rintro e w9 ⟨rfl, hS9⟩
      have lr := keep3 L1.out hS9
      have x0 := lr.cell (i := 0) rfl
      have x1 := lr.cell (i := 1) rfl
      have x2 := lr.cell (i := 2) rfl
      have f0 := lr.free 0
      have f1 := lr.free 1
      have f2 := lr.free 2
      have HF := Lib.hid (below_join HB.out hS9)
      clear lr hS9
      go_wp2_with fail
      all_goals exact bodyPost_ret (v := .agg #[.bool false, .bool true, .bool false]) (by simp [results, Tryd.results18, go_sem, x0, x1, x2]) rfl ⟨by simp, ((HF.out.setCell (by simp) _).setCell (by simp) _).setCell (by simp) _⟩
    | false =>
      cases sc with
      | true =>
        go_enter Tryd.func18, Tryd.ntmps18
        go_upto_region 1 with (fail)
        rw [← HW1.out, ← HW0.out]
        go_wp2_with (first | (with_reducible refine (ca' _ (by assumption)).mono ?_; rintro e w' ⟨rfl, hS'⟩) | (with_reducible refine (cb' _ (by assumption)).mono ?_; rintro e w' ⟨rfl, hS'⟩) | (with_reducible refine (da _ (by assumption)).mono ?_; rintro e w' ⟨rfl, hS'⟩) | (with_reducible refine (db _ (by assumption)).mono ?_; rintro e w' ⟨rfl, hS'⟩) | (with_reducible refine (dv _ (by assumption)).mono ?_; rintro e w' ⟨rfl, hS'⟩) | (with_reducible refine (cc _).mono ?_; rintro e w' ⟨rfl, rfl⟩))
        with_reducible refine (o1 _ (by assumption)).mono ?_
        rintro e w9 ⟨rfl, hS9⟩
        have lr := keep3 L1.out hS9
        have x0 := lr.cell (i := 0) rfl
        have x1 := lr.cell (i := 1) rfl
        have x2 := lr.cell (i := 2) rfl
        have f0 := lr.free 0
        have f1 := lr.free 1
        have f2 := lr.free 2
        have HF := Lib.hid (below_join HB.out hS9)
        clear lr hS9
        go_wp2_with fail
        all_goals exact bodyPost_ret (v := .agg #[.bool false, .bool true, .bool false]) (by simp [results, Tryd.results18, go_sem, x0, x1, x2]) rfl ⟨by simp, ((HF.out.setCell (by simp) _).setCell (by simp) _).setCell (by simp) _⟩
      | false =>
        cases ta with
        | true =>
          go_enter Tryd.func18, Tryd.ntmps18
          go_upto_region 1 with (fail)
          rw [← HW1.out, ← HW0.out]
          go_wp2_with (first | (with_reducible refine (ca' _ (by assumption)).mono ?_; rintro e w' ⟨rfl, hS'⟩) | (with_reducible refine (cb' _ (by assumption)).mono ?_; rintro e w' ⟨rfl, hS'⟩) | (with_reducible refine (da _ (by assumption)).mono ?_; rintro e w' ⟨rfl, hS'⟩) | (with_reducible refine (db _ (by assumption)).mono ?_; rintro e w' ⟨rfl, hS'⟩) | (with_reducible refine (dv _ (by assumption)).mono ?_; rintro e w' ⟨rfl, hS'⟩) | (with_reducible refine (cc _).mono ?_; rintro e w' ⟨rfl, rfl⟩))
          with_reducible refine (o3 _ (by assumption)).mono ?_
          rintro e w9 ⟨rfl, hS9⟩
          have lr := keep3 L1.out hS9
          have x0 := lr.cell (i := 0) rfl
          have x1 := lr.cell (i := 1) rfl
          have x2 := lr.cell (i := 2) rfl
          have f0 := lr.free 0
          have f1 := lr.free 1
          have f2 := lr.free 2
          have HF := Lib.hid (below_join HB.out hS9)
          clear lr hS9
          go_wp2_with fail
          all_goals exact bodyPost_ret (v := .agg #[.bool true, .bool true, .bool true]) (by simp [results, Tryd.results18, go_sem, x0, x1, x2]) rfl ⟨by simp, ((HF.out.setCell (by simp) _).setCell (by simp) _).setCell (by simp) _⟩
        | false =>
          cases tb with
          | true =>
            go_enter Tryd.func18, Tryd.ntmps18
            go_upto_region 1 with (fail)
            rw [← HW1.out, ← HW0.out]
            go_wp2_with (first | (with_reducible refine (ca' _ (by assumption)).mono ?_; rintro e w' ⟨rfl, hS'⟩) | (with_reducible refine (cb' _ (by assumption)).mono ?_; rintro e w' ⟨rfl, hS'⟩) | (with_reducible refine (da _ (by assumption)).mono ?_; rintro e w' ⟨rfl, hS'⟩) | (with_reducible refine (db _ (by assumption)).mono ?_; rintro e w' ⟨rfl, hS'⟩) | (with_reducible refine (dv _ (by assumption)).mono ?_; rintro e w' ⟨rfl, hS'⟩) | (with_reducible refine (cc _).mono ?_; rintro e w' ⟨rfl, rfl⟩))
            with_reducible refine (o3 _ (by assumption)).mono ?_
            rintro e w9 ⟨rfl, hS9⟩
            have lr := keep3 L1.out hS9
            have x0 := lr.cell (i := 0) rfl
            have x1 := lr.cell (i := 1) rfl
            have x2 := lr.cell (i := 2) rfl
            have f0 := lr.free 0
            have f1 := lr.free 1
            have f2 := lr.free 2
            have HF := Lib.hid (below_join HB.out hS9)
            clear lr hS9
            go_wp2_with fail
            all_goals exact bodyPost_ret (v := .agg #[.bool true, .bool true, .bool true]) (by simp [results, Tryd.results18, go_sem, x0, x1, x2]) rfl ⟨by simp, ((HF.out.setCell (by simp) _).setCell (by simp) _).setCell (by simp) _⟩
          | false =>
            go_enter Tryd.func18, Tryd.ntmps18
            go_upto_region 1 with (fail)
            rw [← HW1.out, ← HW0.out]
            go_wp2_with (first | (with_reducible refine (ca' _ (by assumption)).mono ?_; rintro e w' ⟨rfl, hS'⟩) | (with_reducible refine (cb' _ (by assumption)).mono ?_; rintro e w' ⟨rfl, hS'⟩) | (with_reducible refine (da _ (by assumption)).mono ?_; rintro e w' ⟨rfl, hS'⟩) | (with_reducible refine (db _ (by assumption)).mono ?_; rintro e w' ⟨rfl, hS'⟩) | (with_reducible refine (dv _ (by assumption)).mono ?_; rintro e w' ⟨rfl, hS'⟩) | (with_reducible refine (cc _).mono ?_; rintro e w' ⟨rfl, rfl⟩))
            with_reducible refine (ov1 _ (by assumption)).mono ?_
            rintro e w9 ⟨rfl, hS9⟩
            have lr := keep3 L1.out hS9
            have x0 := lr.cell (i := 0) rfl
            have x1 := lr.cell (i := 1) rfl
            have x2 := lr.cell (i := 2) rfl
            have f0 := lr.free 0
            have f1 := lr.free 1
            have f2 := lr.free 2
            have HF := Lib.hid (below_join HB.out hS9)
            clear lr hS9
            go_wp2_with fail
            all_goals exact bodyPost_ret (v := .agg #[.bool m0, .bool m1, .bool m2]) (by simp [results, Tryd.results18, go_sem, x0, x1, x2]) rfl ⟨by simp, ((HF.out.setCell (by simp) _).setCell (by simp) _).setCell (by simp) _⟩
set_option maxRecDepth 100000 in
theorem jasked_any (k t c : Int) (z : Bool) (n : Int) (N : Nat) (w : World) (hN : N < 18446744073709551616) :
    Calls Tryd.prog 19 #[.agg #[.int .i64 k, .int .i64 t, .int .i64 c, .bool z, .int .i64 n], .int .u64 (N : Int)] w fun e w' => e = .returned (.agg #[.bool (if Rj.sure ⟨k, t, c, z, n⟩ N then (false, false, true) else (true, false, k == 1) : M3).1, .bool (if Rj.sure ⟨k, t, c, z, n⟩ N then (false, false, true) else (true, false, k == 1) : M3).2.1, .bool (if Rj.sure ⟨k, t, c, z, n⟩ N then (false, false, true) else (true, false, k == 1) : M3).2.2]) ∧ Below w.heap.size w w' := by
  obtain ⟨W1, hW1⟩ : ∃ W1, W1 = w.alloc (Obj.cells #[.int .i64 k, .int .i64 t, .int .i64 c, .bool z, .int .i64 n] 31) := ⟨_, rfl⟩
  obtain ⟨l1, hb1⟩ := box_one (cs := [.int .i64 k, .int .i64 t, .int .i64 c, .bool z, .int .i64 n]) hW1
  obtain ⟨W0, hW0⟩ : ∃ W0, W0 = W1.alloc (Obj.cells #[.bool false, .bool false, .bool false] 26) := ⟨_, rfl⟩
  obtain ⟨l0, hb0⟩ := box_one (cs := [.bool false, .bool false, .bool false]) hW0
  have hz : W1.heap.size = w.heap.size + 1 := by rw [hW1]; simp
  rw [hz] at l0
  have lp := l1.below hb0 l1.lt
  have HB := Lib.hid (below_join hb1 hb0)
  have L1 := Lib.hid l0
  have HW1 := Lib.hid hW1
  have HW0 := Lib.hid hW0
  have hS : Below W0.heap.size W0 W0 := Below.refl _ _
  have k0 := cell_turn (lp.cell (i := 0) rfl)
  have k1 := cell_turn (lp.cell (i := 1) rfl)
  have k2 := cell_turn (lp.cell (i := 2) rfl)
  have k3 := cell_turn (lp.cell (i := 3) rfl)
  have k4 := cell_turn (lp.cell (i := 4) rfl)
  have ca := in_turn (W0 := W0) fun W _ => jsure_any k t c z n N W hN
  have da := in_turn (W0 := W0) fun W _ => jcol_any k t c z n W
  have o1 : ∀ W, Below W0.heap.size W0 W → Calls Tryd.prog 24 #[.slice (some ⟨W.heap.size, 0, none⟩) 1 1] (W.alloc (.cells #[.int .i64 2] 3)) fun e w' => e = .returned (.agg #[.bool false, .bool false, .bool true]) ∧ Below W0.heap.size W0 w' := jonly_turn (W0 := W0) [2] (by simp) (by simp) (show _ = (false, false, true) by decide)
  have o2 : ∀ W, Below W0.heap.size W0 W → Calls Tryd.prog 24 #[.slice (some ⟨W.heap.size, 0, none⟩) 2 2] (W.alloc (.cells #[.int .i64 0, .int .i64 2] 3)) fun e w' => e = .returned (.agg #[.bool true, .bool false, .bool true]) ∧ Below W0.heap.size W0 w' := jonly_turn (W0 := W0) [0, 2] (by simp) (by simp) (show _ = (true, false, true) by decide)
  have o3 : ∀ W, Below W0.heap.size W0 W → Calls Tryd.prog 24 #[.slice (some ⟨W.heap.size, 0, none⟩) 1 1] (W.alloc (.cells #[.int .i64 0] 3)) fun e w' => e = .returned (.agg #[.bool true, .bool false, .bool false]) ∧ Below W0.heap.size W0 w' := jonly_turn (W0 := W0) [0] (by simp) (by simp) (show _ = (true, false, false) by decide)
  obtain ⟨sa, hsa⟩ : ∃ r, r = Rj.sure ⟨k, t, c, z, n⟩ N := ⟨_, rfl⟩
  obtain ⟨ta, hta⟩ : ∃ r, r = (k == 1) := ⟨_, rfl⟩
  rw [← hsa] at ca
  rw [← hta] at da
  rw [← hsa, ← hta]
  clear hsa hta hW0 hW1 l0 l1 lp hb0 hb1 hz
  cases sa with
  | true =>
    go_enter Tryd.func19, Tryd.ntmps19
    go_upto_region 1 with (fail)
    rw [← HW1.out, ← HW0.out]
    go_wp2_with (first | (with_reducible refine (ca _ (by assumption)).mono ?_; rintro e w' ⟨rfl, hS'⟩) | (with_reducible refine (da _ (by assumption)).mono ?_; rintro e w' ⟨rfl, hS'⟩))
    with_reducible refine (o1 _ (by assumption)).mono ?_
    rintro e w9 ⟨rfl, hS9⟩
    have lr := keep3 L1.out hS9
    have x0 := lr.cell (i := 0) rfl
    have x1 := lr.cell (i := 1) rfl
    have x2 := lr.cell (i := 2) rfl
    have f0 := lr.free 0
    have f1 := lr.free 1
    have f2 := lr.free 2
    have HF := Lib.hid (below_join HB.out hS9)
    clear lr hS9
    go_wp2_with fail
    all_goals exact bodyPost_ret (v := .agg #[.bool false, .bool false, .bool true]) (by simp [results, Tryd.results19, go_sem, x0, x1, x2]) rfl ⟨by simp, ((HF.out.setCell (by simp) _).setCell (by simp) _).setCell (by simp) _⟩
  | false =>
    cases ta with
    | true =>
      go_enter Tryd.func19, Tryd.ntmps19
      go_upto_region 1 with (fail)
      rw [← HW1.out, ← HW0.out]
      go_wp2_with (first | (with_reducible refine (ca _ (by assumption)).mono ?_; rintro e w' ⟨rfl, hS'⟩) | (with_reducible refine (da _ (by assumption)).mono ?_; rintro e w' ⟨rfl, hS'⟩))
      with_reducible refine (o2 _ (by assumption)).mono ?_
      rintro e w9 ⟨rfl, hS9⟩
      have lr := keep3 L1.out hS9
      have x0 := lr.cell (i := 0) rfl
      have x1 := lr.cell (i := 1) rfl
      have x2 := lr.cell (i := 2) rfl
      have f0 := lr.free 0
      have f1 := lr.free 1
      have f2 := lr.free 2
      have HF := Lib.hid (below_join HB.out hS9)
      clear lr hS9
      go_wp2_with fail
      all_goals exact bodyPost_ret (v := .agg #[.bool true, .bool false, .bool true]) (by simp [results, Tryd.results19, go_sem, x0, x1, x2]) rfl ⟨by simp, ((HF.out.setCell (by simp) _).setCell (by simp) _).setCell (by simp) _⟩
    | false =>
      go_enter Tryd.func19, Tryd.ntmps19
      go_upto_region 1 with (fail)
      rw [← HW1.out, ← HW0.out]
      go_wp2_with (first | (with_reducible refine (ca _ (by assumption)).mono ?_; rintro e w' ⟨rfl, hS'⟩) | (with_reducible refine (da _ (by assumption)).mono ?_; rintro e w' ⟨rfl, hS'⟩))
      with_reducible refine (o3 _ (by assumption)).mono ?_
      rintro e w9 ⟨rfl, hS9⟩
      have lr := keep3 L1.out hS9
      have x0 := lr.cell (i := 0) rfl
      have x1 := lr.cell (i := 1) rfl
      have x2 := lr.cell (i := 2) rfl
      have f0 := lr.free 0
      have f1 := lr.free 1
      have f2 := lr.free 2
      have HF := Lib.hid (below_join HB.out hS9)
      clear lr hS9
      go_wp2_with fail
      all_goals exact bodyPost_ret (v := .agg #[.bool true, .bool false, .bool false]) (by simp [results, Tryd.results19, go_sem, x0, x1, x2]) rfl ⟨by simp, ((HF.out.setCell (by simp) _).setCell (by simp) _).setCell (by simp) _⟩
end Go.Proofs.YtpdgbfeciacbdaaDoor
