/-
  THE LAW TreeWalk, walked.
-/
import Derived.Test.YtpobkpdlohahoaaTrwdM
import Derived.Test.YtpobkpdlohahoaaTrTellsM
import Derived.Lib.QuietBelow
import Derived.BigQuiet
namespace Go.Proofs.Ytpobkpdlohahoaa
open Go.RowKit Go.Sort
set_option maxHeartbeats 6400000

set_option maxRecDepth 100000 in
theorem treewalk_any (a : Tr) (u x : Value) (m : Nat) (w : World) (hu : ∃ d, TsAt d w u a.ks) (hx : PsSome w x a.cs) (hm : m ≤ 255) :
    Calls Try.prog 4 #[.agg #[.int .i64 a.k, .int .i64 a.t, u, x, .bool a.h], .int .u8 m] w fun e w' => e = .returned (.bool true) ∧ Below w.heap.size w w' := by
  have hha : TrHang w (a, u, x) := ⟨hu, hx⟩
  obtain ⟨A, c, rfl, hl⟩ := hu.elim fun d h => h.form
  obtain ⟨A', c', rfl, hl'⟩ := hx.elim fun d h => h.form
  clear hu hx
  obtain ⟨W0, hW0⟩ : ∃ W0, W0 = w.alloc (Obj.cells #[.int .i64 a.k, .int .i64 a.t, .slice A a.ks.length c, .slice A' a.cs.length c', .bool a.h] 25) := ⟨_, rfl⟩
  obtain ⟨l0, hb0⟩ := box_one (cs := a.cells (.slice A a.ks.length c) (.slice A' a.cs.length c')) hW0
  have hsz0 : w.heap.size < W0.heap.size := l0.lt
  have hha0 := hha.below hb0
  have c1 := in_turn (W0 := W0) fun W h => (hha0.below h).1.elim fun d hd => r10size_any d a _ _ 301 W hd (hha0.below h).2 (by decide) (by decide)
  have c3 := in_turn (W0 := W0) fun W h => awake10_any W
  obtain ⟨sz, hsz⟩ : ∃ m : Int, m = min (Tr.size a : Int) 301 := ⟨_, rfl⟩
  rw [← hsz] at c1
  have k0 := l0.tr
  have KK := Lib.hid (fun W (h : Below W0.heap.size W0 W) => keep5 k0 hsz0 h)
  have HW := Lib.hid hW0
  have HB := Lib.hid hb0
  have C1 := Lib.hid c1
  have C3 := Lib.hid c3
  have HA := Lib.hid hha0
  clear c1 c3 hha hha0 l0 hb0 hsz0
  obtain ⟨n, hn⟩ : ∃ n, n = a.ks.length := ⟨_, rfl⟩
  obtain ⟨n', hn'⟩ : ∃ n, n = a.cs.length := ⟨_, rfl⟩
  rw [← hn, ← hn'] at C1 KK HA HW
  rw [← hn] at hl ⊢
  rw [← hn'] at hl' ⊢
  have HM := Lib.hid hm
  obtain ⟨p0, p1, p2, p3, p4⟩ := KK.out W0 (Below.refl _ _)
  clear k0 hW0 hn hn' hm
  rw [HW.out] at p0 p1 p2 p3 p4
  go_enter Try.func4, Try.ntmps4
  go_wp2_with fail
  rw [← HW.out]
  refine (C1.out _ (Below.refl _ _)).mono ?_
  rintro e w1 ⟨rfl, hb1⟩
  clear p0 p1 p2 p3 p4
  by_cases hs : 300 < Tr.size a
  · obtain rfl : sz = 301 := by omega
    clear hsz
    have ca := C3.out _ hb1
    go_wp2_with fail
    refine ca.mono ?_
    rintro e w2 ⟨rfl, hb2⟩
    go_wp2_with fail
    go_ret
    exact ⟨rfl, below_join HB.out hb2⟩
  have hlt : ¬ 300 < sz := by omega
  have HS := Lib.hid (show Tr.size a ≤ 1000 by omega)
  have HNL := Lib.hid (show (Tr.all a).length ≤ 300 by have := Tr.all_length_le a; omega)
  clear hsz hs
  have hh1 := HA.out.below hb1
  have cl : Calls Try.prog 16 #[.agg #[.int .i64 a.k, .int .i64 a.t, .slice A n c, .slice A' n' c', .bool a.h]] w1 (OwnTrs w1 w1 (Tr.all a)) := hh1.1.elim fun d hd => r10all_any w1 d a _ _ w1 (Below.refl _ _) hd hh1.2 HS.out
  obtain ⟨p0, p1, p2, p3, p4⟩ := KK.out w1 hb1
  go_wp2_with fail
  refine cl.mono ?_
  rintro e w2 ⟨V, L, rfl, hL, hhL, how, hb2⟩
  clear p0 p1 p2 p3 p4 cl hh1
  have hLl : L.length = (Tr.all a).length := by rw [← hL, List.length_map]
  have hwant := own_trs how (fun x h => (hhL x h).below hb2) (by have := HNL.out; omega)
  rw [hL] at hwant
  obtain ⟨Aw, cw, rfl, _⟩ := own_tr how
  rw [hLl] at hwant ⊢
  obtain ⟨N, hN⟩ : ∃ z, z = (Tr.all a).length := ⟨_, rfl⟩
  rw [← hN] at hwant ⊢
  have HNA := Lib.hid hN.symm
  have hN300 : N ≤ 300 := by have := HNL.out; omega
  have HWANT := Lib.hid hwant
  have hb02 := below_join hb1 hb2
  obtain ⟨W3, hW3⟩ : ∃ W3, W3 = w2.alloc (Obj.cells #[.int .i64 400, .int .i64 m] 3) := ⟨_, rfl⟩
  obtain ⟨l3, hb3⟩ := box_one (cs := [.int .i64 400, .int .i64 m]) hW3
  have hcell0 : ∀ W, Below W3.heap.size W3 W → W.cell? ⟨w2.heap.size, 0, none⟩ = some (.int .i64 ((400 : Nat) : Int)) := fun W h => (l3.below h l3.lt).cell (i := 0) rfl
  have hcell1 : ∀ W, Below W3.heap.size W3 W → W.cell? ⟨w2.heap.size, 1, none⟩ = some (.int .i64 (m : Int)) := fun W h => (l3.below h l3.lt).cell (i := 1) rfl
  have HC0 := Lib.hid hcell0
  have HC1 := Lib.hid hcell1
  have HB3 := Lib.hid (below_join hb02 hb3)
  have HB23 := Lib.hid hb3
  have HW3 := Lib.hid hW3
  have hwm : IntKind.i64.wrap (m : Int) = (m : Int) := IntWalk.i64_in _ (by have := HM.out; omega)
  clear hN how hhL hL hLl hwant hb1 hb2 hb02 l3 hb3 hW3 hcell0 hcell1
  go_wp2_with fail
  rw [← HW3.out]
  clear hwm
  go_loopw [20] (fun i wr => (i = .int .i64 0 ∨ i = .int .i64 1 ∨ i = .int .i64 2) ∧ Below W3.heap.size W3 wr) (fun i _ => 2 - (intOf i).toNat)
  case atStart => exact ⟨.inl rfl, Below.refl _ _⟩
  case round =>
   obtain ⟨rfl | rfl | rfl, hb⟩ := hrel
   · obtain ⟨nk, hnk⟩ : ∃ z : Nat, z = 400 := ⟨_, rfl⟩
     have hcell := HC0.out
     rw [← hnk] at hcell
     have HNK := Lib.hid (show nk ≤ 400 by omega)
     clear hnk
     have hcn := hcell wr hb
     have hnk : nk ≤ 400 := HNK.out
     have cw := walked_any a (.slice A n c) (.slice A' n' c') nk wr (HA.out.below (below_join HB3.out hb)).1 (HA.out.below (below_join HB3.out hb)).2 HS.out (by omega)
     obtain ⟨p0, p1, p2, p3, p4⟩ := KK.out wr (below_join HB3.out hb)
     go_wp2_with fail
     refine cw.mono ?_
     rintro e w5 ⟨r, rfl, ⟨dr, hr⟩, hb5⟩
     clear p0 p1 p2 p3 p4 cw hcn
     obtain ⟨Ar, cr, rfl, _⟩ := hr.form
     obtain ⟨dw, hwt⟩ := HWANT.out
     have hwt5 := (hwt.below HB23.out (Nat.le_refl _)).below (below_join hb hb5) (Nat.le_refl _)
     obtain ⟨Lr, hLr⟩ : ∃ z, z = ((Tr.all a).take nk).length := ⟨_, rfl⟩
     have hLm : Lr = min nk N := by rw [hLr, List.length_take, HNA.out]
     have HR := Lib.hid hr
     have HW5 := Lib.hid hwt5
     have HLR := Lib.hid hLr
     have HLM := Lib.hid hLm
     have hb35 := below_join hb hb5
     rw [← hLr]
     have hmin : (if N < nk then (N : Int) else (nk : Int)) = (Lr : Int) := by rw [hLm]; split <;> omega
     clear hr hwt hwt5 hLr hLm hb hb5
     go_wp2_with fail
     have HMIN := Lib.hid hmin
     have HB35 := Lib.hid hb35
     have hLb : Lr ≤ 400 := by have := HLM.out; omega
     clear hmin hb35
     go_loopw [9] (fun i wr => ∃ q : Nat, q ≤ Lr ∧ i = .int .i64 q ∧ Below w5.heap.size w5 wr) (fun i _ => Lr - (intOf i).toNat)
     case atStart => exact ⟨0, Nat.zero_le _, rfl, Below.refl _ _⟩
     case round =>
      obtain ⟨q, hq, rfl, hb⟩ := hrel
      by_cases hlt2 : q < Lr
      · have hqN : q < N ∧ q < nk := by have := HLM.out; omega
        obtain ⟨y, gy⟩ : ∃ y, (Tr.all a)[q]? = some y := ⟨(Tr.all a)[q]'(by have := HNA.out; omega), List.getElem?_eq_getElem _⟩
        have gx : ((Tr.all a).take nk)[q]? = some y := by rw [List.getElem?_take, if_pos hqN.2]; exact gy
        have hwt := HW5.out
        rw [← HNA.out] at hwt
        obtain ⟨f1, b1, o1, p1, u1, v1, _, hA1, hl1, h1⟩ := HR.out.at_ gx
        obtain ⟨f2, b2, o2, p2, u2, v2, _, hA2, hl2, h2⟩ := hwt.at_ gy
        subst hA1 hA2
        obtain ⟨hx, kx1, kx2⟩ := h1 wr hb
        obtain ⟨hy, ky1, ky2⟩ := h2 wr hb
        have i1 : (0 : Int) ≤ (q : Int) := by omega
        have i2 : (q : Int) < (Lr : Int) := by omega
        have i3 : (q : Int) < (N : Int) := by omega
        have yx0 := cell_regrown hx.c0
        have yy0 := cell_regrown hy.c0
        have yx1 := cell_regrown hx.c1
        have yy1 := cell_regrown hy.c1
        have yx2 := cell_regrown hx.c2
        have yy2 := cell_regrown hy.c2
        have yx3 := cell_regrown hx.c3
        have yy3 := cell_regrown hy.c3
        have yx4 := cell_regrown hx.c4
        have yy4 := cell_regrown hy.c4
        have cc := in_class (W0 := wr) fun W h => r10same_of (a := y) (b := y) (TrHang.below (x := (y, u1, v1)) ⟨⟨_, kx2⟩, kx1⟩ h) (TrHang.below (x := (y, u2, v2)) ⟨⟨_, ky2⟩, ky1⟩ h)
        rw [Tr.same_own] at cc
        clear h1 h2 gx gy hx hy kx1 kx2 ky1 ky2 hwt hl1 hl2 hqN
        go_wp2_with fail
        refine wp_region_quiet_below (by kernel_rfl) (by kernel_rfl) ?_
        repeat (go_big_quiet_step (with_reducible exact cc _ _))
        refine wpQuiet_nil ?_
        intro _ hw'
        obtain ⟨⟨dq, osq⟩, hw''⟩ := hw'
        subst hw''
        have hb2 := below_join hb (below_regrown wr dq osq)
        clear yx0 yy0 yx1 yy1 yx2 yy2 yx3 yy3 yx4 yy4 i1 i2 i3 hb cc
        generalize grow (redrawn wr dq) osq = w7 at hb2 ⊢
        go_wp2_with fail
        go_roundw
        case rel => exact ⟨q + 1, by omega, by go_num, hb2⟩
        case measure => simp [intOf]; omega
      · obtain rfl : q = Lr := by omega
        have hb2 := below_join HB35.out hb
        clear hb
        go_wp2_with fail
        go_roundw
        case rel => exact ⟨by first | exact .inr (.inl rfl) | exact .inr (.inr rfl) | (left; rfl), hb2⟩
        case measure => simp [intOf]
   · obtain ⟨nk, hnk⟩ : ∃ z : Nat, z = m := ⟨_, rfl⟩
     have hcell := HC1.out
     rw [← hnk] at hcell
     have HNK := Lib.hid (show nk ≤ 400 by have := HM.out; omega)
     clear hnk
     have hcn := hcell wr hb
     have hnk : nk ≤ 400 := HNK.out
     have cw := walked_any a (.slice A n c) (.slice A' n' c') nk wr (HA.out.below (below_join HB3.out hb)).1 (HA.out.below (below_join HB3.out hb)).2 HS.out (by omega)
     obtain ⟨p0, p1, p2, p3, p4⟩ := KK.out wr (below_join HB3.out hb)
     go_wp2_with fail
     refine cw.mono ?_
     rintro e w5 ⟨r, rfl, ⟨dr, hr⟩, hb5⟩
     clear p0 p1 p2 p3 p4 cw hcn
     obtain ⟨Ar, cr, rfl, _⟩ := hr.form
     obtain ⟨dw, hwt⟩ := HWANT.out
     have hwt5 := (hwt.below HB23.out (Nat.le_refl _)).below (below_join hb hb5) (Nat.le_refl _)
     obtain ⟨Lr, hLr⟩ : ∃ z, z = ((Tr.all a).take nk).length := ⟨_, rfl⟩
     have hLm : Lr = min nk N := by rw [hLr, List.length_take, HNA.out]
     have HR := Lib.hid hr
     have HW5 := Lib.hid hwt5
     have HLR := Lib.hid hLr
     have HLM := Lib.hid hLm
     have hb35 := below_join hb hb5
     rw [← hLr]
     have hmin : (if N < nk then (N : Int) else (nk : Int)) = (Lr : Int) := by rw [hLm]; split <;> omega
     clear hr hwt hwt5 hLr hLm hb hb5
     go_wp2_with fail
     have HMIN := Lib.hid hmin
     have HB35 := Lib.hid hb35
     have hLb : Lr ≤ 400 := by have := HLM.out; omega
     clear hmin hb35
     go_loopw [9] (fun i wr => ∃ q : Nat, q ≤ Lr ∧ i = .int .i64 q ∧ Below w5.heap.size w5 wr) (fun i _ => Lr - (intOf i).toNat)
     case atStart => exact ⟨0, Nat.zero_le _, rfl, Below.refl _ _⟩
     case round =>
      obtain ⟨q, hq, rfl, hb⟩ := hrel
      by_cases hlt2 : q < Lr
      · have hqN : q < N ∧ q < nk := by have := HLM.out; omega
        obtain ⟨y, gy⟩ : ∃ y, (Tr.all a)[q]? = some y := ⟨(Tr.all a)[q]'(by have := HNA.out; omega), List.getElem?_eq_getElem _⟩
        have gx : ((Tr.all a).take nk)[q]? = some y := by rw [List.getElem?_take, if_pos hqN.2]; exact gy
        have hwt := HW5.out
        rw [← HNA.out] at hwt
        obtain ⟨f1, b1, o1, p1, u1, v1, _, hA1, hl1, h1⟩ := HR.out.at_ gx
        obtain ⟨f2, b2, o2, p2, u2, v2, _, hA2, hl2, h2⟩ := hwt.at_ gy
        subst hA1 hA2
        obtain ⟨hx, kx1, kx2⟩ := h1 wr hb
        obtain ⟨hy, ky1, ky2⟩ := h2 wr hb
        have i1 : (0 : Int) ≤ (q : Int) := by omega
        have i2 : (q : Int) < (Lr : Int) := by omega
        have i3 : (q : Int) < (N : Int) := by omega
        have yx0 := cell_regrown hx.c0
        have yy0 := cell_regrown hy.c0
        have yx1 := cell_regrown hx.c1
        have yy1 := cell_regrown hy.c1
        have yx2 := cell_regrown hx.c2
        have yy2 := cell_regrown hy.c2
        have yx3 := cell_regrown hx.c3
        have yy3 := cell_regrown hy.c3
        have yx4 := cell_regrown hx.c4
        have yy4 := cell_regrown hy.c4
        have cc := in_class (W0 := wr) fun W h => r10same_of (a := y) (b := y) (TrHang.below (x := (y, u1, v1)) ⟨⟨_, kx2⟩, kx1⟩ h) (TrHang.below (x := (y, u2, v2)) ⟨⟨_, ky2⟩, ky1⟩ h)
        rw [Tr.same_own] at cc
        clear h1 h2 gx gy hx hy kx1 kx2 ky1 ky2 hwt hl1 hl2 hqN
        go_wp2_with fail
        refine wp_region_quiet_below (by kernel_rfl) (by kernel_rfl) ?_
        repeat (go_big_quiet_step (with_reducible exact cc _ _))
        refine wpQuiet_nil ?_
        intro _ hw'
        obtain ⟨⟨dq, osq⟩, hw''⟩ := hw'
        subst hw''
        have hb2 := below_join hb (below_regrown wr dq osq)
        clear yx0 yy0 yx1 yy1 yx2 yy2 yx3 yy3 yx4 yy4 i1 i2 i3 hb cc
        generalize grow (redrawn wr dq) osq = w7 at hb2 ⊢
        go_wp2_with fail
        go_roundw
        case rel => exact ⟨q + 1, by omega, by go_num, hb2⟩
        case measure => simp [intOf]; omega
      · obtain rfl : q = Lr := by omega
        have hb2 := below_join HB35.out hb
        clear hb
        go_wp2_with fail
        go_roundw
        case rel => exact ⟨by first | exact .inr (.inl rfl) | exact .inr (.inr rfl) | (left; rfl), hb2⟩
        case measure => simp [intOf]
   · have ca := C3.out _ (below_join HB3.out hb)
     go_wp2_with fail
     refine ca.mono ?_
     rintro e w9 ⟨rfl, hb9⟩
     go_wp2_with fail
     go_ret
     exact ⟨rfl, below_join HB.out hb9⟩
end Go.Proofs.Ytpobkpdlohahoaa
