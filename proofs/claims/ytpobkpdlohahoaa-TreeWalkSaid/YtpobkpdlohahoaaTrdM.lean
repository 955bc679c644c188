/-
  THE DOCUMENT's ANSWERS OF LAYER 10: Same.
-/
import Derived.Test.YtpobkpdlohahoaaTrcM
namespace Go.Proofs.Ytpobkpdlohahoaa
open Go.RowKit Go.Sort
set_option maxHeartbeats 3200000

theorem tr_boxes {w W0 : World} {T : TypeId} {a b : Tr} {u v u' v' : Value} (h : W0 = (w.alloc (Obj.cells (a.cells u v).toArray T)).alloc (Obj.cells (b.cells u' v').toArray T)) :
    TrCell W0 ⟨w.heap.size, 0, none⟩ a u v ∧ TrCell W0 ⟨w.heap.size + 1, 0, none⟩ b u' v' ∧ Below w.heap.size w W0 ∧ w.heap.size + 1 < W0.heap.size := by
  obtain ⟨l1, l2, hb⟩ := box_two h
  exact ⟨l1.tr, l2.tr, hb, l2.lt⟩
set_option maxRecDepth 100000 in
theorem r10same_any (d : Nat) : ∀ (a b : Tr) (u v u' v' : Value) (w : World), TsAt d w u a.ks → PsSome w v a.cs → TsAt d w u' b.ks → PsSome w v' b.cs →
    Calls Try.prog 13 #[.agg #[.int .i64 a.k, .int .i64 a.t, u, v, .bool a.h], .agg #[.int .i64 b.k, .int .i64 b.t, u', v', .bool b.h]] w fun e w' => e = .returned (.bool (Tr.same a b)) ∧ Below w.heap.size w w' := by
  induction d using Nat.strongRecOn with
  | ind d ih =>
  intro a b u v u' v' w hu hv hu' hv'
  obtain ⟨W0, hW0⟩ : ∃ W0, W0 = (w.alloc (Obj.cells #[.int .i64 a.k, .int .i64 a.t, u, v, .bool a.h] 25)).alloc (Obj.cells #[.int .i64 b.k, .int .i64 b.t, u', v', .bool b.h] 25) := ⟨_, rfl⟩
  obtain ⟨p0, p1, hb0, hlt0⟩ := tr_boxes (a := a) (b := b) (u := u) (v := v) (u' := u') (v' := v') hW0
  have HU := Lib.hid (hu.below hb0 (Nat.le_refl _))
  have HU' := Lib.hid (hu'.below hb0 (Nat.le_refl _))
  obtain ⟨D, hps⟩ := hv.below hb0 (Nat.le_refl _)
  obtain ⟨D', hps'⟩ := hv'.below hb0 (Nat.le_refl _)
  obtain ⟨A, c, rfl, hl⟩ := hu.form
  obtain ⟨B, e, rfl, hm⟩ := hu'.form
  obtain ⟨A2, c2, rfl, _⟩ := hps.form
  obtain ⟨B2, e2, rfl, _⟩ := hps'.form
  have cl := r6list_any (max D D') _ _ a.cs b.cs W0 (hps.mono (Nat.le_max_left _ _)) (hps'.mono (Nat.le_max_right _ _))
  have hsame := Tr.same_at a b
  obtain ⟨n, hn⟩ : ∃ n, n = a.ks.length := ⟨_, rfl⟩
  obtain ⟨m, hmm⟩ : ∃ m, m = b.ks.length := ⟨_, rfl⟩
  rw [← hn] at hl HU p0 hW0 ⊢
  rw [← hmm] at hm HU' p1 hW0 ⊢
  have HN := Lib.hid (And.intro hn hmm)
  have HS := Lib.hid hsame
  have HP := Lib.hid p0
  have HQ := Lib.hid p1
  have HL := Lib.hid hlt0
  have IH := Lib.hid ih
  obtain ⟨x0, x1, x2, x3, x4⟩ := p0
  obtain ⟨y0, y1, y2, y3, y4⟩ := p1
  generalize Pr.sames a.cs b.cs = X at cl hsame HS
  obtain ⟨ka, hka⟩ : ∃ k, k = a.k := ⟨_, rfl⟩
  obtain ⟨kb, hkb⟩ : ∃ k, k = b.k := ⟨_, rfl⟩
  obtain ⟨ta, hta⟩ : ∃ t, t = a.t := ⟨_, rfl⟩
  obtain ⟨tb, htb⟩ : ∃ t, t = b.t := ⟨_, rfl⟩
  obtain ⟨ha, hha⟩ : ∃ h, h = a.h := ⟨_, rfl⟩
  obtain ⟨hb, hhb⟩ : ∃ h, h = b.h := ⟨_, rfl⟩
  rw [← hka, ← hkb, ← hta, ← htb, ← hha, ← hhb] at hsame HS
  rw [← hka] at x0
  rw [← hta] at x1
  rw [← hha] at x4
  rw [← hkb] at y0
  rw [← htb] at y1
  rw [← hhb] at y4
  rw [← hka, ← hkb, ← hta, ← htb, ← hha, ← hhb] at hW0 ⊢
  have HW := Lib.hid hW0
  clear hW0 ih hu hv hu' hv' hps hps' hn hmm hka hkb hta htb hha hhb hlt0
  by_cases e1 : ka = kb
  · subst e1
    by_cases e2 : ta = tb
    · subst e2
      by_cases e3 : ha = hb
      · subst e3
        by_cases e4 : n = m
        · subst e4
          have hsm : Tr.same a b = (X && Tr.sames a.ks b.ks) := by rw [hsame]; simp
          have HSM := Lib.hid hsm
          clear hsame hsm HS
          go_enter Try.func13, Try.ntmps13
          go_upto_region 1 with (fail)
          rw [← HW.out]
          go_wp2_with fail
          refine cl.mono ?_
          rintro E w1 ⟨rfl, hb1⟩
          clear cl x0 x1 x2 x3 x4 y0 y1 y2 y3 y4
          cases X
          · have hres := Lib.hid (show false = Tr.same a b by rw [HSM.out]; rfl)
            go_wp2_with fail
            go_ret
            exact ⟨ret_bool hres.out, below_join hb0 hb1⟩
          · have HI := Lib.hid (Tr.sames_iff (l := a.ks) (m := b.ks) (by obtain ⟨h1, h2⟩ := HN.out; omega))
            have hS := Below.refl w1.heap.size w1
            go_wp2_with fail
            go_loopw [5] (fun i wr => ∃ (k : Nat), k ≤ n ∧ i = .int .i64 k ∧ Hid (∀ (j : Nat) (x y : Tr), j < k → a.ks[j]? = some x → b.ks[j]? = some y → Tr.same x y = true) ∧ Below W0.heap.size W0 wr) (fun i _ => n - (intOf i).toNat)
            case atStart => exact ⟨0, Nat.zero_le _, rfl, Lib.hid fun j x y h => by omega, hb1⟩
            case round =>
             obtain ⟨k, hk, rfl, hz, hb⟩ := hrel
             have pr := HP.out.below hb (show w.heap.size < W0.heap.size by have := HL.out; omega)
             have qr := HQ.out.below hb (show w.heap.size + 1 < W0.heap.size from HL.out)
             have z2 := pr.c2
             by_cases hlt : k < n
             · as_aux_lemma =>
               obtain ⟨x, gx⟩ : ∃ x, a.ks[k]? = some x := ⟨a.ks[k]'(by have := HN.out; omega), List.getElem?_eq_getElem _⟩
               obtain ⟨y, gy⟩ : ∃ y, b.ks[k]? = some y := ⟨b.ks[k]'(by have := HN.out; omega), List.getElem?_eq_getElem _⟩
               have hu := HU.out
               have hu' := HU'.out
               rw [HN.out.1] at hu
               rw [HN.out.2] at hu'
               obtain ⟨f1, b1, o1, p1, u1, v1, hf1, rfl, hl1, h1⟩ := hu.at_ gx
               obtain ⟨f2, b2, o2, p2, u2, v2, hf2, rfl, hl2, h2⟩ := hu'.at_ gy
               obtain ⟨hx, kx1, kx2⟩ := h1 wr hb
               obtain ⟨hy, ky1, ky2⟩ := h2 wr hb
               have i1 : (0 : Int) ≤ (k : Int) := by omega
               have i2 : (k : Int) < (n : Int) := by omega
               have yx0 := cell_regrown hx.c0
               have yy0 := cell_regrown hy.c0
               have yx1 := cell_regrown hx.c1
               have yy1 := cell_regrown hy.c1
               have yx2 := cell_regrown hx.c2
               have yy2 := cell_regrown hy.c2
               have yx3 := cell_regrown hx.c3
               have yy3 := cell_regrown hy.c3
               have yx4 := cell_regrown hx.c4
               have yy4 := cell_regrown hy.c4
               have t1 := cell_regrown pr.c2
               have t2 := cell_regrown qr.c2
               have cc := in_class (W0 := wr) fun W h => IH.out (max f1 f2) (Nat.max_lt.2 ⟨hf1, hf2⟩) x y u1 v1 u2 v2 W ((kx2.below h (Nat.le_refl _)).mono (Nat.le_max_left _ _)) (kx1.below h (Nat.le_refl _)) ((ky2.below h (Nat.le_refl _)).mono (Nat.le_max_right _ _)) (ky1.below h (Nat.le_refl _))
               obtain ⟨d, hd⟩ : ∃ d : Bool, d = Tr.same x y := ⟨_, rfl⟩
               rw [← hd] at cc
               have HD := Lib.hid hd
               have GX := Lib.hid gx
               have GY := Lib.hid gy
               clear h1 h2 gx gy hd hx hy kx1 kx2 ky1 ky2 hu hu' pr qr
               go_wp2_with (fail)
               refine wp_region_quiet_below (by kernel_rfl) (by kernel_rfl) ?_
               repeat (go_big_quiet_step (with_reducible exact cc _ _))
               refine wpQuiet_nil ?_
               intro _ hw'
               obtain ⟨⟨dq, osq⟩, hw''⟩ := hw'
               subst hw''
               have hb2 := below_join hb (below_regrown wr dq osq)
               clear yx0 yy0 yx1 yy1 yx2 yy2 yx3 yy3 yx4 yy4 t1 t2 i1 i2 hb cc z2
               generalize grow (redrawn wr dq) osq = w7 at hb2 ⊢
               cases d
               · have hres : Hid (false = Tr.same a b) := Lib.hid (by
                   rw [HSM.out, Bool.true_and]
                   cases he : Tr.sames a.ks b.ks with
                   | false => rfl
                   | true => exact HD.out.trans (HI.out.1 he k x y GX.out GY.out))
                 go_wp2_with (fail)
                 go_ret
                 exact ⟨ret_bool hres.out, below_join hb0 hb2⟩
               · have hz2 : Hid (∀ (j : Nat) (x y : Tr), j < k + 1 → a.ks[j]? = some x → b.ks[j]? = some y → Tr.same x y = true) := Lib.hid fun j x' y' hj hx hy => by
                   rcases Nat.lt_or_eq_of_le (Nat.le_of_lt_succ hj) with g | g
                   · exact hz.out j x' y' g hx hy
                   · subst g
                     rw [GX.out] at hx; rw [GY.out] at hy
                     cases hx; cases hy
                     exact HD.out.symm
                 go_wp2_with (fail)
                 go_roundw
                 case rel => exact ⟨k + 1, by omega, by go_num, hz2, hb2⟩
                 case measure => simp [intOf]; omega
             · have hres : Hid (true = Tr.same a b) := Lib.hid (by
                 rw [HSM.out, Bool.true_and]
                 exact (HI.out.2 fun j x y hx hy => hz.out j x y (by have := (List.getElem?_eq_some_iff.1 hx).1; have := HN.out; omega) hx hy).symm)
               clear pr qr
               go_wp2_with (fail)
               go_ret
               exact ⟨ret_bool hres.out, below_join hb0 hb⟩
        · have hres := Lib.hid (show false = Tr.same a b by
            rw [hsame, Tr.sames_length (by obtain ⟨h1, h2⟩ := HN.out; omega)]; simp)
          have hne : ((n : Int) != (m : Int)) = true := by simpa using fun h => e4 (by omega)
          have hne2 : ¬ ((n : Int) = (m : Int)) := fun h => e4 (by omega)
          clear hsame cl e4
          go_enter Try.func13, Try.ntmps13
          go_upto_region 1 with (fail)
          rw [← HW.out]
          go_wp2_with fail
          go_ret
          exact ⟨ret_bool hres.out, hb0⟩
      · have hres := Lib.hid (show false = Tr.same a b by
          rw [hsame]
          have : (ha == hb) = false := by simpa using e3
          rw [this]; simp)
        have hne : (ha != hb) = true := by simpa using e3
        clear hsame cl
        go_enter Try.func13, Try.ntmps13
        go_upto_region 1 with (fail)
        rw [← HW.out]
        go_wp2_with fail
        go_ret
        exact ⟨ret_bool hres.out, hb0⟩
    · have hres := Lib.hid (show false = Tr.same a b by
        rw [hsame]
        have : (ta == tb) = false := by simpa using e2
        rw [this]; simp)
      have hne : (ta != tb) = true := by simpa using e2
      clear hsame cl
      go_enter Try.func13, Try.ntmps13
      go_upto_region 1 with (fail)
      rw [← HW.out]
      go_wp2_with fail
      go_ret
      exact ⟨ret_bool hres.out, hb0⟩
  · have hres := Lib.hid (show false = Tr.same a b by
      rw [hsame]
      have : (ka == kb) = false := by simpa using e1
      rw [this]; simp)
    have hne : (ka != kb) = true := by simpa using e1
    clear hsame cl
    go_enter Try.func13, Try.ntmps13
    go_upto_region 1 with (fail)
    rw [← HW.out]
    go_wp2_with fail
    go_ret
    exact ⟨ret_bool hres.out, hb0⟩
end Go.Proofs.Ytpobkpdlohahoaa
