/-
  THE LAW IdentBack: a change and the one that undoes it.
-/
import Derived.Test.YtbddhkgbpjhhaaaGreatDoorIdaM
import Derived.Test.YtbddhkgbpjhhaaaGreatDoorGCkC
import Derived.Test.YtbddhkgbpjhhaaaGreatDoorGTreeA
import Derived.Test.YtbddhkgbpjhhaaaGreatDoorIdhM
import Derived.BigQuiet
import Derived.Lib.QuietBelow
namespace Go.Proofs.YtbddhkgbpjhhaaaGreatDoor
open Go.RowKit Go.Sort
set_option maxHeartbeats 6400000
theorem undo17 {q : Nat} (h1 : 1 ≤ q) (h5 : q ≤ 5) : ([.int .i64 0, .int .i64 1, .int .i64 3, .int .i64 2, .int .i64 4, .int .i64 5] : List Value)[q]? = some (.int .i64 ((Id.undo q : Nat) : Int)) ∧ 1 ≤ Id.undo q ∧ Id.undo q ≤ 5 := by
  obtain rfl | rfl | rfl | rfl | rfl : q = 1 ∨ q = 2 ∨ q = 3 ∨ q = 4 ∨ q = 5 := by omega
  all_goals exact ⟨rfl, by decide, by decide⟩
theorem DooIs.none17 {how : Nat} {a : Tr} {w w' : World} {E : Ending} (h : DooIs how a w E w') (hd : Id.doo how a = none) : ∃ B n c A m e, E = .returned (.tuple #[.agg #[.int .i64 0, .int .i64 0, .slice B n c, .slice A m e, .bool false], .bool false]) ∧ Below w.heap.size w w' := by
  obtain ⟨t, u, v, ht, rfl, hon, hb⟩ := h
  rw [hd] at ht
  change t = Id.zero at ht
  subst ht
  obtain ⟨B, c, h1, _⟩ := hon.1.elim fun d h => h.at_.form
  obtain ⟨A, e, h3, _⟩ := hon.2.elim fun d h => h.at_.form
  change u = .slice B 0 c at h1
  change v = .slice A 0 e at h3
  subst h1 h3
  exact ⟨B, 0, c, A, 0, e, by rw [hd]; rfl, hb⟩
theorem DooIs.some17 {how : Nat} {a x : Tr} {w w' : World} {E : Ending} (h : DooIs how a w E w') (hd : Id.doo how a = some x) : ∃ B c A e, E = .returned (.tuple #[.agg #[.int .i64 x.k, .int .i64 x.t, .slice B x.ks.length c, .slice A x.cs.length e, .bool x.h], .bool true]) ∧ TrOn (fun k => w.heap.size ≤ k) w' (x, .slice B x.ks.length c, .slice A x.cs.length e) ∧ Below w.heap.size w w' := by
  obtain ⟨t, u, v, ht, rfl, hon, hb⟩ := h
  rw [hd] at ht
  change t = x at ht
  subst t
  obtain ⟨B, c, h1, _⟩ := hon.1.elim fun d h => h.at_.form
  obtain ⟨A, e, h3, _⟩ := hon.2.elim fun d h => h.at_.form
  change u = .slice B x.ks.length c at h1
  change v = .slice A x.cs.length e at h3
  subst h1 h3
  exact ⟨B, c, A, e, by rw [hd]; rfl, hon, hb⟩
set_option maxRecDepth 100000 in
theorem identback_any (a : Tr) (cols : List Int) (cv u v : Value) (w : World) (hc : Sl w cv (cols.map (Value.int .i64))) (hu : ∃ d, TsAt d w u a.ks) (hv : PsSome w v a.cs) (hC : Chgs w) (hW : Want w) :
    Calls Tryz.prog 4 #[.agg #[cv, .int .i64 a.k, .int .i64 a.t, u, v, .bool a.h]] w fun e w' => e = .returned (.bool true) ∧ Below w.heap.size w w' := by
  obtain ⟨A, c, rfl, _⟩ := hu.elim fun d h => h.form
  obtain ⟨A', c', rfl, _⟩ := hv.elim fun d h => h.form
  obtain ⟨cA, cn, cc, rfl⟩ : ∃ cA cn cc, cv = .slice cA cn cc := by obtain ⟨A, c, h, _⟩ := hc; exact ⟨A, _, c, h⟩
  obtain ⟨W0, hW0⟩ : ∃ W0, W0 = w.alloc (Obj.cells #[.slice cA cn cc, .int .i64 a.k, .int .i64 a.t, .slice A a.ks.length c, .slice A' a.cs.length c', .bool a.h] 28) := ⟨_, rfl⟩
  obtain ⟨l0, hb0⟩ := box_one (cs := [.slice cA cn cc, .int .i64 a.k, .int .i64 a.t, .slice A a.ks.length c, .slice A' a.cs.length c', .bool a.h]) hW0
  have cf := few11_any a (.slice cA cn cc) (.slice A a.ks.length c) (.slice A' a.cs.length c') W0 (hu.elim fun d h => ⟨d, h.below hb0 (Nat.le_refl _)⟩) (hv.below hb0 (Nat.le_refl _))
  have CR := Lib.hid (fun W (h : Below W0.heap.size W0 W) (hs : Tr.size a ≤ 1000) => have hbw := below_join hb0 h; rright11_any a cols (.slice cA cn cc) (.slice A a.ks.length c) (.slice A' a.cs.length c') W (hc.below hbw (Nat.le_refl _)) (hu.elim fun d h => ⟨d, h.below hbw (Nat.le_refl _)⟩) (hv.below hbw (Nat.le_refl _)) hs)
  have HG := Lib.hid (fun W (h : Below W0.heap.size W0 W) => have hbw := below_join hb0 h; And.intro (hC.below hbw (Nat.le_refl _)) (hW.below hbw (Nat.le_refl _)))
  have HH := Lib.hid (fun W (h : Below W0.heap.size W0 W) => (show TrHang W (a, .slice A a.ks.length c, .slice A' a.cs.length c') from have hbw := below_join hb0 h; ⟨hu.elim fun d h => ⟨d, h.below hbw (Nat.le_refl _)⟩, hv.below hbw (Nat.le_refl _)⟩))
  have CA := Lib.hid (fun W (h : Below W0.heap.size W0 W) => awake17_any W (HG.out W h).1 (HG.out W h).2)
  have HX := Lib.hid (fun W (h : Below W0.heap.size W0 W) => l0.below h l0.lt)
  have x0 := l0.cell (i := 0) rfl
  have x1 := l0.cell (i := 1) rfl
  have x2 := l0.cell (i := 2) rfl
  have x3 := l0.cell (i := 3) rfl
  have x4 := l0.cell (i := 4) rfl
  have x5 := l0.cell (i := 5) rfl
  have HW := Lib.hid hW0
  have HB0 := Lib.hid hb0
  obtain ⟨bb, hbb⟩ : ∃ bb, bb = decide (Tr.size a ≤ 600) := ⟨_, rfl⟩
  rw [← hbb] at cf
  have HBB := Lib.hid hbb
  clear hW0 l0 hb0 hc hu hv hC hW hbb
  go_enter Tryz.func4, Tryz.ntmps4
  go_upto_region 1 with (fail)
  rw [← HW.out]
  go_wp2_with fail
  refine cf.mono ?_
  rintro e w1 ⟨rfl, hb1⟩
  clear cf x0 x1 x2 x3 x4 x5
  cases bb
  · clear HBB
    obtain ⟨w3, hw3⟩ : ∃ w3, w3 = w1 := ⟨_, rfl⟩
    have hb3 := hb1
    rw [← hw3] at hb3 ⊢
    clear hw3
    have ca := CA.out w3 hb3
    have HB3 := Lib.hid hb3
    clear hb3
    go_wp2_with fail
    refine ca.mono ?_
    rintro e w9 ⟨rfl, hb9⟩
    have HB9 := Lib.hid (below_join HB0.out (below_join HB3.out hb9))
    clear ca hb9
    go_wp2_with fail
    go_ret
    exact ⟨rfl, HB9.out⟩
  have hs6 : Tr.size a ≤ 600 := of_decide_eq_true HBB.out.symm
  have hs1 : Tr.size a ≤ 1000 := by omega
  have cr := CR.out w1 hb1 hs1
  have l := HX.out w1 hb1
  have x0 := l.cell (i := 0) rfl
  have x1 := l.cell (i := 1) rfl
  have x2 := l.cell (i := 2) rfl
  have x3 := l.cell (i := 3) rfl
  have x4 := l.cell (i := 4) rfl
  have x5 := l.cell (i := 5) rfl
  obtain ⟨bq, hbq⟩ : ∃ bq, bq = (Ck.query cols a == 0) := ⟨_, rfl⟩
  rw [← hbq] at cr
  have HBQ := Lib.hid hbq
  have HB1 := Lib.hid hb1
  have HS1 := Lib.hid hs1
  clear l hbq hb1 hs6 hs1
  go_wp2_with fail
  refine cr.mono ?_
  rintro e w2 ⟨rfl, hb2⟩
  have hb02 := below_join HB1.out hb2
  clear cr hb2 x0 x1 x2 x3 x4 x5
  cases bq
  · clear HBQ
    obtain ⟨w3, hw3⟩ : ∃ w3, w3 = w2 := ⟨_, rfl⟩
    have hb3 := hb02
    rw [← hw3] at hb3 ⊢
    clear hw3
    have ca := CA.out w3 hb3
    have HB3 := Lib.hid hb3
    clear hb3
    go_wp2_with fail
    refine ca.mono ?_
    rintro e w9 ⟨rfl, hb9⟩
    have HB9 := Lib.hid (below_join HB0.out (below_join HB3.out hb9))
    clear ca hb9
    go_wp2_with fail
    go_ret
    exact ⟨rfl, HB9.out⟩
  have hq0 : Ck.query cols a = 0 := eq_of_beq HBQ.out.symm
  obtain ⟨W3, hW3⟩ : ∃ W3, W3 = w2.alloc (Obj.cells #[.int .i64 0, .int .i64 1, .int .i64 3, .int .i64 2, .int .i64 4, .int .i64 5] 3) := ⟨_, rfl⟩
  obtain ⟨l3, hb3⟩ := box_one (cs := [.int .i64 0, .int .i64 1, .int .i64 3, .int .i64 2, .int .i64 4, .int .i64 5]) hW3
  obtain ⟨U, hU⟩ : ∃ U, U = w2.heap.size := ⟨_, rfl⟩
  have HUU := Lib.hid hU
  have HUL := Lib.hid (show ∀ W, Below W3.heap.size W3 W → Lies W U 3 [.int .i64 0, .int .i64 1, .int .i64 3, .int .i64 2, .int .i64 4, .int .i64 5] from fun W h => by rw [hU]; exact l3.below h l3.lt)
  have HB3 := Lib.hid (below_join hb02 hb3)
  have HW3 := Lib.hid hW3
  have HQ0 := Lib.hid hq0
  clear hW3 l3 hb3 hU hb02 hq0
  go_upto_region 4 with (fail)
  rw [← HUU.out, ← HW3.out]
  go_wp2_with fail
  go_loopw [4] (fun i wr => ∃ q : Nat, 1 ≤ q ∧ q ≤ 6 ∧ i = .int .i64 q ∧ Below W3.heap.size W3 wr) (fun i _ => 6 - (intOf i).toNat)
  case atStart => exact ⟨1, Nat.le_refl _, by decide, rfl, Below.refl _ _⟩
  case round =>
    obtain ⟨q, hq1, hq6, rfl, hb⟩ := hrel
    by_cases hlt : q ≤ 5
    · have i2 : (q : Int) ≤ 5 := by omega
      have hbw := below_join HB3.out hb
      have l := HX.out wr hbw
      have x0 := l.cell (i := 0) rfl
      have x1 := l.cell (i := 1) rfl
      have x2 := l.cell (i := 2) rfl
      have x3 := l.cell (i := 3) rfl
      have x4 := l.cell (i := 4) rfl
      have x5 := l.cell (i := 5) rfl
      have cd := idoo_any q hq1 hlt a A a.ks.length c A' a.cs.length c' wr (HH.out wr hbw) HS1.out (HG.out wr hbw).1 (HG.out wr hbw).2
      have HB := Lib.hid hb
      have hq7 : (q : Int) + 1 ≤ 9223372036854775807 := by omega
      clear l hbw hb
      cases hd : Id.doo q a with
      | none =>
        replace cd := cd.mono fun E w' ho => ho.none17 hd
        clear hd
        go_wp2_with fail
        refine cd.mono ?_
        rintro e w4 ⟨B1, n1, e0, A1, m1, e1, rfl, hb4⟩
        have HB4 := Lib.hid (below_join HB.out (below_join hb4 (below_new w4 (Obj.cells #[.int .i64 0, .int .i64 0, .slice B1 n1 e0, .slice A1 m1 e1, .bool false] 26))))
        clear cd hb4 x0 x1 x2 x3 x4 x5
        go_wp2_with fail
        go_roundw
        case rel => exact ⟨q + 1, by omega, by omega, by go_num, HB4.out⟩
        case measure => simp [intOf]; omega
      | some x =>
        obtain ⟨d1, d2, d3, d4⟩ := Id.back_all HQ0.out hq1 hlt hd
        replace cd := cd.mono fun E w' ho => ho.some17 hd
        have HD := Lib.hid (And.intro d1 (And.intro d2 (And.intro d3 d4)))
        clear hd d1 d2 d3 d4
        go_wp2_with fail
        refine cd.mono ?_
        rintro e w4 ⟨B1, e0, A1, e1, rfl, hx, hb4⟩
        obtain ⟨W5, hW5⟩ : ∃ W5, W5 = w4.alloc (Obj.cells #[.int .i64 x.k, .int .i64 x.t, .slice B1 x.ks.length e0, .slice A1 x.cs.length e1, .bool x.h] 26) := ⟨_, rfl⟩
        obtain ⟨l5, hb5⟩ := box_one (cs := [.int .i64 x.k, .int .i64 x.t, .slice B1 x.ks.length e0, .slice A1 x.cs.length e1, .bool x.h]) hW5
        obtain ⟨h1, h2, h3⟩ := undo17 hq1 hlt
        have hb05 := below_join HB.out (below_join hb4 hb5)
        have hbw5 := below_join HB3.out hb05
        have HXC := Lib.hid (fun W (h : Below W5.heap.size W5 W) => l5.below h l5.lt)
        have HXH := Lib.hid (hx.hang.below17 hb5)
        have HX5 := Lib.hid (show w4.heap.size < W5.heap.size from l5.lt)
        obtain ⟨un, hun⟩ : ∃ un : Int, un = ((Id.undo q : Nat) : Int) := ⟨_, rfl⟩
        obtain ⟨ad, had⟩ : ∃ ad : Addr, ad = ⟨U, 0, none⟩ := ⟨_, rfl⟩
        have HUN := Lib.hid (show ∀ W, Below W5.heap.size W5 W → W.cell? (ad.add q) = some (.int .i64 un) from fun W h => by rw [had, add_from5, hun]; exact (HUL.out W (below_join hb05 h)).cell h1)
        have CD2 := Lib.hid (show ∀ W, Below W5.heap.size W5 W → Calls Tryz.prog 13 #[.int .i64 un, .agg #[.int .i64 x.k, .int .i64 x.t, .slice B1 x.ks.length e0, .slice A1 x.cs.length e1, .bool x.h]] W fun E w' => ∃ B c A e, E = .returned (.tuple #[.agg #[.int .i64 a.k, .int .i64 a.t, .slice B a.ks.length c, .slice A a.cs.length e, .bool a.h], .bool true]) ∧ TrOn (fun k => W.heap.size ≤ k) w' (a, .slice B a.ks.length c, .slice A a.cs.length e) ∧ Below W.heap.size W w' from fun W h => by
          rw [hun]
          have hw := below_join hbw5 h
          exact (idoo_any (Id.undo q) h2 h3 x B1 x.ks.length e0 A1 x.cs.length e1 W (HXH.out.below17 h) (by rw [HD.out.2.2.2]; exact HS1.out) (HG.out W hw).1 (HG.out W hw).2).mono fun E w' ho => ho.some17 HD.out.1)
        have HB5 := Lib.hid hb05
        have HW5 := Lib.hid hW5
        have HAD := Lib.hid had
        have i1 : (0 : Int) ≤ (q : Int) := by omega
        have i3 : (q : Int) < 6 := by omega
        have HQI := Lib.hid (And.intro hq1 (And.intro hlt hq7))
        clear cd hx hb4 hW5 l5 hb5 h1 h2 h3 hb05 hbw5 hun had x0 x1 x2 x3 x4 x5 hlt hq1 hq6 hq7 i2
        go_wp2_with fail
        rw [← HW5.out]
        go_upto_region 9 with (fail)
        rw [← HAD.out]
        have hS := (Below.refl W5.heap.size W5).drew
        refine wp_region_held_drew (S := fun W => Below W5.heap.size W5 W) (by kernel_rfl) hS (fun _ => ?_)
        obtain ⟨wD, hwD⟩ : ∃ wD, wD = W5.drew := ⟨_, rfl⟩
        rw [← hwD] at hS ⊢
        clear hwD
        refine any_norm17 (l' := Array.replicate 12 false) (m' := 12) (by kernel_rfl) (by kernel_rfl) ?_
        refine take_any (i := 0) (v := ?v1) rfl (by kernel_rfl) (by kernel_rfl) (by kernel_rfl) (fun _ _ _ h => h) (Or.inl ⟨by rfl, ?hy1⟩) hS ?rest1
        case hy1 => (intro w hSw; go_simp; try with_reducible rfl)
        try simp only [Act.put, List.setIfInBounds_toArray, List.set_cons_zero, List.set_cons_succ]
        refine take_any (i := 1) (v := ?v2) rfl (by kernel_rfl) (by kernel_rfl) (by kernel_rfl) (fun _ _ _ h => h) (Or.inl ⟨by rfl, ?hy2⟩) hS ?rest2
        case hy2 => (intro w hSw; go_simp; try with_reducible rfl)
        try simp only [Act.put, List.setIfInBounds_toArray, List.set_cons_zero, List.set_cons_succ]
        refine take_any (i := 2) (v := ?v3) rfl (by kernel_rfl) (by kernel_rfl) (by kernel_rfl) (fun _ _ _ h => h) (Or.inl ⟨by rfl, ?hy3⟩) hS ?rest3
        case hy3 => (intro w hSw; go_simp; try with_reducible rfl)
        try simp only [Act.put, List.setIfInBounds_toArray, List.set_cons_zero, List.set_cons_succ]
        refine take_any (i := 3) (v := ?v4) rfl (by kernel_rfl) (by kernel_rfl) (by kernel_rfl) (fun _ _ _ h => h) (Or.inl ⟨by rfl, ?hy4⟩) hS ?rest4
        case hy4 => (intro w hSw; have y0 := HUN.out _ hSw; go_simp; try with_reducible rfl)
        try simp only [Act.put, List.setIfInBounds_toArray, List.set_cons_zero, List.set_cons_succ]
        refine take_any (i := 4) (v := ?v5) rfl (by kernel_rfl) (by kernel_rfl) (by kernel_rfl) (fun _ _ _ h => h) (Or.inl ⟨by rfl, ?hy5⟩) hS ?rest5
        case hy5 => (intro w hSw; have y0 := (HXC.out _ hSw).cell (i := 0) rfl; have y1 := (HXC.out _ hSw).cell (i := 1) rfl; have y2 := (HXC.out _ hSw).cell (i := 2) rfl; have y3 := (HXC.out _ hSw).cell (i := 3) rfl; have y4 := (HXC.out _ hSw).cell (i := 4) rfl; go_simp; try with_reducible rfl)
        try simp only [Act.put, List.setIfInBounds_toArray, List.set_cons_zero, List.set_cons_succ]
        refine wpAnyH_ready (rs := [5, 9]) (by kernel_rfl) (by simp) ?_
        refine AllReadyH.cons rfl (fun K hK => ?_) (AllReadyH.cons rfl (fun K hK => ?_) AllReadyH.nil)
        rw [if_pos (by kernel_rfl)]
        go_simp
        refine (CD2.out _ hS).mono ?_
        rintro E wM ⟨B2, e2, A2, e3, rfl, hy, hbM⟩
        try dsimp only
        have HY := Lib.hid (hy.keep (T' := fun k => k < wM.heap.size) (Nat.le_refl _) fun k _ hlt => ⟨rfl, hlt⟩)
        replace hS := below_join hS hbM
        clear hy hbM
        refine hK.out _ _ hS (fun _ => ?_)
        clear hK K
        try simp only [Act.put, List.setIfInBounds_toArray, List.set_cons_zero, List.set_cons_succ]
        refine take_any (i := 6) (v := ?v6) rfl (by kernel_rfl) (by kernel_rfl) (by kernel_rfl) (fun _ _ _ h => h) (Or.inl ⟨by rfl, ?hy6⟩) hS ?rest6
        case hy6 => (intro w hSw; go_simp; try with_reducible rfl)
        try simp only [Act.put, List.setIfInBounds_toArray, List.set_cons_zero, List.set_cons_succ]
        refine take_any (i := 7) (v := ?v7) rfl (by kernel_rfl) (by kernel_rfl) (by kernel_rfl) (fun _ _ _ h => h) (Or.inl ⟨by rfl, ?hy7⟩) hS ?rest7
        case hy7 => (intro w hSw; go_simp; try with_reducible rfl)
        try simp only [Act.put, List.setIfInBounds_toArray, List.set_cons_zero, List.set_cons_succ]
        refine take_any (i := 8) (v := ?v8) rfl (by kernel_rfl) (by kernel_rfl) (by kernel_rfl) (fun _ _ _ h => h) (Or.inl ⟨by rfl, ?hy8⟩) hS ?rest8
        case hy8 => (intro w hSw; go_simp; try with_reducible rfl)
        try simp only [Act.put, List.setIfInBounds_toArray, List.set_cons_zero, List.set_cons_succ]
        refine wpAnyH_ready (rs := [9]) (by kernel_rfl) (by simp) ?_
        refine AllReadyH.cons rfl (fun K hK => ?_) AllReadyH.nil
        rw [if_pos (by kernel_rfl)]
        go_simp
        obtain ⟨wZ, hwZ⟩ : ∃ wZ, wZ = wM := ⟨_, rfl⟩
        rw [← hwZ] at hS ⊢
        have HQ := Lib.hid (Lies.new wZ 26 [.int .i64 0, .int .i64 0, .slice none 0 0, .slice none 0 0, .bool false])
        have hbZ := below_new wZ (Obj.cells #[.int .i64 0, .int .i64 0, .slice none 0 0, .slice none 0 0, .bool false] 26)
        rw [← hwZ] at HY
        obtain ⟨g7, hg7⟩ : ∃ g, g = wZ.heap.size := ⟨_, rfl⟩
        rw [← hg7] at HQ ⊢
        replace HY := Lib.hid (HY.out.keep (T' := fun k => k ≠ g7) hbZ.size fun k hk hlt => ⟨hbZ.block k hlt, by omega⟩)
        have HG7 := Lib.hid (show W5.heap.size ≤ g7 from by rw [hg7]; exact hS.size)
        replace hS := below_join hS hbZ
        clear hbZ hwZ hg7
        refine hK.out _ _ hS (fun _ => ?_)
        clear hK K
        try simp only [Act.put, List.setIfInBounds_toArray, List.set_cons_zero, List.set_cons_succ]
        obtain ⟨W, hW⟩ : ∃ W, W = (wZ.alloc (Obj.cells #[.int .i64 0, .int .i64 0, .slice none 0 0, .slice none 0 0, .bool false] 26)) := ⟨_, rfl⟩
        rw [← hW] at hS HY HQ ⊢
        clear hW
        rotate_left
        rw [if_pos (by kernel_rfl)]
        go_simp
        obtain ⟨wZ, hwZ⟩ : ∃ wZ, wZ = wD := ⟨_, rfl⟩
        rw [← hwZ] at hS ⊢
        have HQ := Lib.hid (Lies.new wZ 26 [.int .i64 0, .int .i64 0, .slice none 0 0, .slice none 0 0, .bool false])
        have hbZ := below_new wZ (Obj.cells #[.int .i64 0, .int .i64 0, .slice none 0 0, .slice none 0 0, .bool false] 26)
        obtain ⟨g7, hg7⟩ : ∃ g, g = wZ.heap.size := ⟨_, rfl⟩
        rw [← hg7] at HQ ⊢
        have HG7 := Lib.hid (show W5.heap.size ≤ g7 from by rw [hg7]; exact hS.size)
        replace hS := below_join hS hbZ
        clear hbZ hwZ hg7
        refine hK.out _ _ hS (fun _ => ?_)
        clear hK K
        try simp only [Act.put, List.setIfInBounds_toArray, List.set_cons_zero, List.set_cons_succ]
        refine wpAnyH_ready (rs := [5]) (by kernel_rfl) (by simp) ?_
        refine AllReadyH.cons rfl (fun K hK => ?_) AllReadyH.nil
        rw [if_pos (by kernel_rfl)]
        go_simp
        refine (CD2.out _ hS).mono ?_
        rintro E wM ⟨B2, e2, A2, e3, rfl, hy, hbM⟩
        try dsimp only
        have HY := Lib.hid (hy.mono17 (T' := fun k => k ≠ g7) fun k hk e => by have := HQ.out.lt; omega)
        replace hS := below_join hS hbM
        replace HQ := Lib.hid (HQ.out.below hbM HQ.out.lt)
        clear hy hbM
        refine hK.out _ _ hS (fun _ => ?_)
        clear hK K
        try simp only [Act.put, List.setIfInBounds_toArray, List.set_cons_zero, List.set_cons_succ]
        refine take_any (i := 6) (v := ?v9) rfl (by kernel_rfl) (by kernel_rfl) (by kernel_rfl) (fun _ _ _ h => h) (Or.inl ⟨by rfl, ?hy9⟩) hS ?rest9
        case hy9 => (intro w hSw; go_simp; try with_reducible rfl)
        try simp only [Act.put, List.setIfInBounds_toArray, List.set_cons_zero, List.set_cons_succ]
        refine take_any (i := 7) (v := ?v10) rfl (by kernel_rfl) (by kernel_rfl) (by kernel_rfl) (fun _ _ _ h => h) (Or.inl ⟨by rfl, ?hy10⟩) hS ?rest10
        case hy10 => (intro w hSw; go_simp; try with_reducible rfl)
        try simp only [Act.put, List.setIfInBounds_toArray, List.set_cons_zero, List.set_cons_succ]
        refine take_any (i := 8) (v := ?v11) rfl (by kernel_rfl) (by kernel_rfl) (by kernel_rfl) (fun _ _ _ h => h) (Or.inl ⟨by rfl, ?hy11⟩) hS ?rest11
        case hy11 => (intro w hSw; go_simp; try with_reducible rfl)
        try simp only [Act.put, List.setIfInBounds_toArray, List.set_cons_zero, List.set_cons_succ]
        obtain ⟨W, hW⟩ : ∃ W, W = wM := ⟨_, rfl⟩
        rw [← hW] at hS HY HQ ⊢
        clear hW
        rotate_left
        all_goals
          refine wpAnyH_ready (rs := [10]) (by kernel_rfl) (by simp) ?_
          refine AllReadyH.cons rfl (fun K hK => ?_) AllReadyH.nil
          rw [if_pos (by kernel_rfl)]
          refine wp_store_mid 26 _ _ rfl g7 0 #[.int .i64 a.k, .int .i64 a.t, .slice B2 a.ks.length e2, .slice A2 a.cs.length e3, .bool a.h] rfl rfl (Lies.there HQ.out rfl) (by kernel_rfl) (by rw [← Array.all_toList]; rfl) ?_
          rw [setCells_kit]
          obtain ⟨W9, hW9⟩ : ∃ W9, W9 = setCells W g7 0 [.int .i64 a.k, .int .i64 a.t, .slice B2 a.ks.length e2, .slice A2 a.cs.length e3, .bool a.h] := ⟨_, rfl⟩
          rw [← hW9]
          have hk9 : Keeps (fun k => k ≠ g7) W W9 := ⟨by rw [hW9]; exact setCells_os _ _ _ _, by rw [hW9]; exact setCells_tape _ _ _ _, by rw [hW9]; exact setCells_output _ _ _ _, by rw [hW9, setCells_size]; exact Nat.le_refl _, fun k _ hne => by rw [hW9]; exact setCells_other _ _ hne _ _ _⟩
          have hl9 : Lies W9 g7 26 [.int .i64 a.k, .int .i64 a.t, .slice B2 a.ks.length e2, .slice A2 a.cs.length e3, .bool a.h] := by rw [hW9]; exact HQ.out.put_all rfl
          have HY9 := Lib.hid (HY.out.keep (T' := fun _ => True) hk9.size fun k hk hlt => ⟨hk9.same k hlt hk, trivial⟩).hang
          have hb9 : Below W5.heap.size W5 W9 := ⟨hk9.os.trans hS.os, hk9.tape.trans hS.tape, hk9.output.trans hS.output, Nat.le_trans hS.size hk9.size, fun k hk => (hk9.same k (Nat.lt_of_lt_of_le hk hS.size) (by have := HG7.out; omega)).trans (hS.block k hk)⟩
          simp only [Act.put, List.getElem_toArray, List.getElem_cons_succ, List.getElem_cons_zero]
          refine hK.out _ _ hb9 (fun _ => ?_)
          clear hK K hW9 hk9 hS
          refine take_any (i := 11) (v := .bool true) rfl (by kernel_rfl) (by kernel_rfl) (by kernel_rfl) (fun _ _ _ h => h) (Or.inl ⟨by rfl, ?_⟩) hb9 ?_
          · (intro w hSw; go_simp; try with_reducible rfl)
          try simp only [Act.put, List.setIfInBounds_toArray, List.set_cons_zero, List.set_cons_succ]
          refine wpAnyH_done (by kernel_rfl) ?_ _
          have hb03 := below_join HB5.out hb9
          have hb02 := below_join HB3.out hb03
          have lq := HX.out W9 hb02
          have lx := HXC.out W9 hb9
          have m1 := cell_regrown (lq.cell (i := 1) rfl)
          have m2 := cell_regrown (lq.cell (i := 2) rfl)
          have m3 := cell_regrown (lq.cell (i := 3) rfl)
          have m4 := cell_regrown (lq.cell (i := 4) rfl)
          have m5 := cell_regrown (lq.cell (i := 5) rfl)
          have p0 := cell_regrown (lx.cell (i := 0) rfl)
          have p1 := cell_regrown (lx.cell (i := 1) rfl)
          have p2 := cell_regrown (lx.cell (i := 2) rfl)
          have p3 := cell_regrown (lx.cell (i := 3) rfl)
          have p4 := cell_regrown (lx.cell (i := 4) rfl)
          have r0 := cell_regrown (hl9.cell (i := 0) rfl)
          have r1 := cell_regrown (hl9.cell (i := 1) rfl)
          have r2 := cell_regrown (hl9.cell (i := 2) rfl)
          have r3 := cell_regrown (hl9.cell (i := 3) rfl)
          have r4 := cell_regrown (hl9.cell (i := 4) rfl)
          obtain ⟨tb, htb⟩ : ∃ tb, tb = Tr.tables a := ⟨_, rfl⟩
          obtain ⟨sn, hsn⟩ : ∃ sn, sn = Tr.seen a := ⟨_, rfl⟩
          have hha : ∀ d os, TrHang (grow (redrawn W9 d) os) (a, .slice A a.ks.length c, .slice A' a.cs.length c') := fun d os => (HH.out W9 hb02).below17 (below_regrown W9 d os)
          have hhx : ∀ d os, TrHang (grow (redrawn W9 d) os) (x, .slice B1 x.ks.length e0, .slice A1 x.cs.length e1) := fun d os => (HXH.out.below17 hb9).below17 (below_regrown W9 d os)
          have hhy : ∀ d os, TrHang (grow (redrawn W9 d) os) (a, .slice B2 a.ks.length e2, .slice A2 a.cs.length e3) := fun d os => HY9.out.below17 (below_regrown W9 d os)
          have n1 : ∀ d os, Calls Tryz.prog 14 #[.agg #[.int .i64 a.k, .int .i64 a.t, .slice B2 a.ks.length e2, .slice A2 a.cs.length e3, .bool a.h], .agg #[.int .i64 a.k, .int .i64 a.t, .slice A a.ks.length c, .slice A' a.cs.length c', .bool a.h]] (grow (redrawn W9 d) os) fun e w'' => e = .returned (.bool true) ∧ ∃ p : Regrown, w'' = grow (redrawn W9 p.d) p.os := fun d os => Calls.regrown_of (by
            obtain ⟨⟨d1, q1⟩, q2⟩ := hhy d os
            obtain ⟨⟨d2, q3⟩, q4⟩ := hha d os
            have h := r10same_any (max d1 d2) a a _ _ _ _ _ (q1.mono (Nat.le_max_left _ _)) q2 (q3.mono (Nat.le_max_right _ _)) q4
            rw [Tr.same_self17] at h
            exact h)
          have n2 : ∀ d os, Calls Tryz.prog 15 #[.agg #[.int .i64 x.k, .int .i64 x.t, .slice B1 x.ks.length e0, .slice A1 x.cs.length e1, .bool x.h]] (grow (redrawn W9 d) os) fun e w'' => e = .returned (.int .u64 (tb : Int)) ∧ ∃ p : Regrown, w'' = grow (redrawn W9 p.d) p.os := fun d os => Calls.regrown_of (by
            obtain ⟨⟨d1, q1⟩, q2⟩ := hhx d os
            have h := r10tables_any d1 x _ _ _ q1 q2 (by rw [HD.out.2.2.2]; exact HS1.out)
            rw [HD.out.2.1, ← htb] at h
            exact h)
          have n3 : ∀ d os, Calls Tryz.prog 15 #[.agg #[.int .i64 a.k, .int .i64 a.t, .slice A a.ks.length c, .slice A' a.cs.length c', .bool a.h]] (grow (redrawn W9 d) os) fun e w'' => e = .returned (.int .u64 (tb : Int)) ∧ ∃ p : Regrown, w'' = grow (redrawn W9 p.d) p.os := fun d os => Calls.regrown_of (by
            obtain ⟨⟨d1, q1⟩, q2⟩ := hha d os
            have h := r10tables_any d1 a _ _ _ q1 q2 HS1.out
            rw [← htb] at h
            exact h)
          have n4 : ∀ d os, Calls Tryz.prog 16 #[.agg #[.int .i64 x.k, .int .i64 x.t, .slice B1 x.ks.length e0, .slice A1 x.cs.length e1, .bool x.h]] (grow (redrawn W9 d) os) fun e w'' => e = .returned (.int .u64 (sn : Int)) ∧ ∃ p : Regrown, w'' = grow (redrawn W9 p.d) p.os := fun d os => Calls.regrown_of (by
            obtain ⟨⟨d1, q1⟩, q2⟩ := hhx d os
            have h := r10seen_any d1 x _ (.slice A1 x.cs.length e1) _ q1
            rw [HD.out.2.2.1, ← hsn] at h
            exact h)
          have n5 : ∀ d os, Calls Tryz.prog 16 #[.agg #[.int .i64 a.k, .int .i64 a.t, .slice A a.ks.length c, .slice A' a.cs.length c', .bool a.h]] (grow (redrawn W9 d) os) fun e w'' => e = .returned (.int .u64 (sn : Int)) ∧ ∃ p : Regrown, w'' = grow (redrawn W9 p.d) p.os := fun d os => Calls.regrown_of (by
            obtain ⟨⟨d1, q1⟩, q2⟩ := hha d os
            have h := r10seen_any d1 a _ (.slice A' a.cs.length c') _ q1
            rw [← hsn] at h
            exact h)
          have HB9 := Lib.hid hb03
          clear hb02 hb03 hb9 lq lx hl9 hha hhx hhy htb hsn i1 i3
          go_upto_region 10 with (fail)
          refine wp_region_quiet_below (by kernel_rfl) (by kernel_rfl) ?_
          repeat (go_big_quiet_step (with_reducible first | exact n1 _ _ | exact n2 _ _ | exact n3 _ _ | exact n4 _ _ | exact n5 _ _))
          refine wpQuiet_nil ?_
          intro _ hw'
          obtain ⟨⟨dq, osq⟩, hw''⟩ := hw'
          subst hw''
          have HBZ := Lib.hid (below_join HB9.out (below_regrown W9 dq osq))
          clear n1 n2 n3 n4 n5 m1 m2 m3 m4 m5 p0 p1 p2 p3 p4 r0 r1 r2 r3 r4
          generalize grow (redrawn W9 dq) osq = wz at HBZ ⊢
          have hq7 := HQI.out.2.2
          go_wp2_with fail
          rw [HAD.out]
          go_roundw
          case rel => exact ⟨q + 1, by omega, by have := HQI.out; omega, by go_num, HBZ.out⟩
          case measure => have := HQI.out; simp [intOf]; omega
    · obtain rfl : q = 6 := by omega
      have i2 : ¬ (((6 : Nat) : Int) ≤ 5) := by omega
      obtain ⟨w3, hw3⟩ : ∃ w3, w3 = wr := ⟨_, rfl⟩
      have hb3 := below_join HB3.out hb
      rw [← hw3] at hb3 ⊢
      clear hw3
      have ca := CA.out w3 hb3
      have HB3 := Lib.hid hb3
      clear hb3
      go_wp2_with fail
      refine ca.mono ?_
      rintro e w9 ⟨rfl, hb9⟩
      have HB9 := Lib.hid (below_join HB0.out (below_join HB3.out hb9))
      clear ca hb9
      go_wp2_with fail
      go_ret
      exact ⟨rfl, HB9.out⟩
end Go.Proofs.YtbddhkgbpjhhaaaGreatDoor
