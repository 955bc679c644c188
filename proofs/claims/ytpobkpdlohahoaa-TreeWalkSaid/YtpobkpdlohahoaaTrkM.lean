/-
  package tree: Same, and the library's EqualFunc at it.
-/
import Derived.Test.YtpobkpdlohahoaaTrsM
import Derived.Test.YtpobkpdlohahoaaPredqM
namespace Go.Proofs.Ytpobkpdlohahoaa
open Go.RowKit Go.Sort
set_option maxHeartbeats 1600000

theorem tequal_len (A B : Option Addr) (n m c e : Nat) (w : World) (h : n ≠ m) :
    Calls Try.prog 25 #[.slice A n c, .slice B m e, .func (.func 12) #[] #[]] w fun e w' => e = .returned (.bool false) ∧ w = w' := by
  have d1 : ((n : Int) != (m : Int)) = true := by simp; omega
  have d2 : (n != m) = true := by simpa using h
  clear h
  go_enter Try.func25, Try.ntmps25
  go_wp2_with fail
  go_ret
  exact ⟨rfl, rfl⟩
set_option maxRecDepth 100000 in
theorem tequal_of (d : Nat) (ih : ∀ e, e < d → ∀ (a b : Tr) (u x v y : Value) (w : World), TsAt e w u a.ks → PsSome w x a.cs → TsAt e w v b.ks → PsSome w y b.cs → Calls Try.prog 12 #[.agg #[.int .i64 a.k, .int .i64 a.t, u, x, .bool a.h], .agg #[.int .i64 b.k, .int .i64 b.t, v, y, .bool b.h]] w fun e w' => e = .returned (.bool (Tr.same a b)) ∧ Below w.heap.size w w') (u v : Value) (ps qs : List Tr) (w : World) (hu : TsAt d w u ps) (hv : TsAt d w v qs) :
    Calls Try.prog 25 #[u, v, .func (.func 12) #[] #[]] w fun e w' => e = .returned (.bool (Tr.sames ps qs)) ∧ Below w.heap.size w w' := by
  obtain ⟨A, c, rfl, hl⟩ := hu.form
  obtain ⟨B, c', rfl, hl'⟩ := hv.form
  by_cases hn : ps.length = qs.length
  · have HU := Lib.hid hu
    have HV := Lib.hid hv
    have IH := Lib.hid ih
    have HS := Lib.hid (Tr.sames_iff hn)
    obtain ⟨n, hn1⟩ : ∃ n, n = ps.length := ⟨_, rfl⟩
    rw [← hn1] at hl HU hn ⊢
    rw [← hn] at HV ⊢
    have HN := Lib.hid hn1
    have HM := Lib.hid hn
    clear ih hu hv hn hn1 hl'
    go_enter Try.func25, Try.ntmps25
    go_wp2_with fail
    go_loopw [17] (fun i wr => ∃ (q : Nat), q ≤ n ∧ i = .int .i64 q ∧ Hid (∀ (j : Nat) (p p' : Tr), j < q → ps[j]? = some p → qs[j]? = some p' → Tr.same p p' = true) ∧ Below w.heap.size w wr) (fun i _ => n - (intOf i).toNat)
    case atStart => exact ⟨0, Nat.zero_le _, rfl, Lib.hid (fun j p p' h => by omega), Below.refl _ _⟩
    case round =>
      obtain ⟨q, hq, rfl, hsv, hb⟩ := hrel
      by_cases hlt : q < n
      · obtain ⟨p, gp⟩ : ∃ p, ps[q]? = some p := ⟨ps[q]'(by have := HN.out; omega), List.getElem?_eq_getElem _⟩
        obtain ⟨p', gp'⟩ : ∃ p, qs[q]? = some p := ⟨qs[q]'(by have := HM.out; omega), List.getElem?_eq_getElem _⟩
        have hu := HU.out
        rw [HN.out] at hu
        have hv := HV.out
        rw [HM.out] at hv
        obtain ⟨e, b, o, s, x, y, he, rfl, _, hx⟩ := hu.at_ gp
        obtain ⟨e', b', o', s', x', y', he', rfl, hblt, hx'⟩ := hv.at_ gp'
        obtain ⟨ha, hp1, hf1⟩ := hx wr hb
        obtain ⟨hb2, hp2, hf2⟩ := hx' wr hb
        obtain ⟨A2, c2, rfl, _⟩ := hf1.form
        obtain ⟨B2, c3, rfl, _⟩ := hf2.form
        obtain ⟨A4, c4, rfl, _⟩ := hp1.elim fun D h => h.form
        obtain ⟨B4, c5, rfl, _⟩ := hp2.elim fun D h => h.form
        have cs := fun W (h : Below w.heap.size w W) => IH.out (max e e') (by omega) p p' _ _ _ _ W ((hx W h).2.2.mono (by omega)) (hx W h).2.1 ((hx' W h).2.2.mono (by omega)) (hx' W h).2.1
        obtain ⟨r, hr⟩ : ∃ r, r = Tr.same p p' := ⟨_, rfl⟩
        rw [← hr] at cs
        have HR := Lib.hid hr
        have GP := Lib.hid gp
        have GP' := Lib.hid gp'
        have i1 : (0 : Int) ≤ (q : Int) := by omega
        have i2 : (q : Int) < (n : Int) := by omega
        obtain ⟨a0, a1, a2, a3, a4⟩ := ha
        have hb2 := hb2.below (below_new wr (Obj.cells #[.int .i64 p.k, .int .i64 p.t, .slice A2 p.ks.length c2, .slice A4 p.cs.length c4, .bool p.h] 25)) (by rw [add_block]; exact Nat.lt_of_lt_of_le hblt hb.size)
        have hb3 : Below w.heap.size w ((wr.alloc (Obj.cells #[.int .i64 p.k, .int .i64 p.t, .slice A2 p.ks.length c2, .slice A4 p.cs.length c4, .bool p.h] 25)).alloc (Obj.cells #[.int .i64 p'.k, .int .i64 p'.t, .slice B2 p'.ks.length c3, .slice B4 p'.cs.length c5, .bool p'.h] 25)) := below_join hb (below_new2 _ _ _)
        obtain ⟨b0, b1, b2, b3, b4⟩ := hb2
        clear gp gp' hu hv hx hx' hr hf1 hf2 hp1 hp2 hblt
        go_wp2_with fail
        refine (cs _ hb3).mono ?_
        rintro e w2 ⟨rfl, hb4⟩
        have hb5 := below_join hb3 hb4
        clear cs hb3 hb4 hb a0 a1 a2 a3 a4 b0 b1 b2 b3 b4
        cases r
        · have he : Hid (Tr.sames ps qs = false) := Lib.hid (by
            cases h : Tr.sames ps qs with
            | false => rfl
            | true => rw [HS.out] at h; rw [h q p p' GP.out GP'.out] at HR; exact absurd HR.out (by decide))
          go_wp2_with fail
          go_ret
          exact ⟨ret_bool he.out.symm, hb5⟩
        · have hs2 : Hid (∀ (j : Nat) (x x' : Tr), j < q + 1 → ps[j]? = some x → qs[j]? = some x' → Tr.same x x' = true) := Lib.hid (fun j x x' hj h1 h2 => by
            by_cases e : j = q
            · subst e; rw [GP.out] at h1; rw [GP'.out] at h2; cases h1; cases h2; exact HR.out.symm
            · exact hsv.out j x x' (by omega) h1 h2)
          go_wp2_with fail
          go_roundw
          case rel => exact ⟨q + 1, by omega, by go_num, hs2, hb5⟩
          case measure => simp [intOf]; omega
      · have he : Hid (Tr.sames ps qs = true) := Lib.hid (HS.out.2 fun j p p' hj hj' => hsv.out j p p' (by
          by_cases h : j < ps.length
          · have := HN.out; omega
          · rw [List.getElem?_eq_none (by omega)] at hj; cases hj) hj hj')
        go_wp2_with fail
        go_ret
        exact ⟨ret_bool he.out.symm, hb⟩
  · rw [Tr.sames_length hn]
    exact (tequal_len A B _ _ c c' w hn).mono (fun e w' ⟨h1, h2⟩ => ⟨h1, h2 ▸ Below.refl _ _⟩)
set_option maxRecDepth 100000 in
theorem tsame_at (d : Nat) : ∀ (a b : Tr) (u x v y : Value) (w : World), TsAt d w u a.ks → PsSome w x a.cs → TsAt d w v b.ks → PsSome w y b.cs → Calls Try.prog 12 #[.agg #[.int .i64 a.k, .int .i64 a.t, u, x, .bool a.h], .agg #[.int .i64 b.k, .int .i64 b.t, v, y, .bool b.h]] w fun e w' => e = .returned (.bool (Tr.same a b)) ∧ Below w.heap.size w w' := by
  induction d using Nat.strongRecOn with
  | ind d ih =>
  intro a b u x v y w hu hx hv hy
  obtain ⟨A, c, rfl, hl⟩ := hu.form
  obtain ⟨B, c', rfl, hl'⟩ := hv.form
  obtain ⟨dx, hx⟩ := hx
  obtain ⟨dy, hy⟩ := hy
  obtain ⟨A4, c4, rfl, _⟩ := hx.form
  obtain ⟨B4, c5, rfl, _⟩ := hy.form
  obtain ⟨W0, hW0⟩ : ∃ W0, W0 = (w.alloc (Obj.cells #[.int .i64 a.k, .int .i64 a.t, .slice A a.ks.length c, .slice A4 a.cs.length c4, .bool a.h] 25)).alloc (Obj.cells #[.int .i64 b.k, .int .i64 b.t, .slice B b.ks.length c', .slice B4 b.cs.length c5, .bool b.h] 25) := ⟨_, rfl⟩
  obtain ⟨l1, l2, hb0⟩ := box_two (cs := a.cells (.slice A a.ks.length c) (.slice A4 a.cs.length c4)) (ds := b.cells (.slice B b.ks.length c') (.slice B4 b.cs.length c5)) hW0
  have p0 := l1.tr
  have p1 := l2.tr
  have hq : ∀ W, Below W0.heap.size W0 W → Calls Try.prog 23 #[.slice A4 a.cs.length c4, .slice B4 b.cs.length c5, .func (.func 24) #[] #[]] W fun e w' => e = .returned (.bool (Pr.sames a.cs b.cs)) ∧ Below W.heap.size W w' :=
    fun W h => pequal_of (max dx dy) (fun e _ => psame_any e) _ _ _ _ W (((hx.below hb0 (Nat.le_refl _)).below h (Nat.le_refl _)).mono (by omega)) (((hy.below hb0 (Nat.le_refl _)).below h (Nat.le_refl _)).mono (by omega))
  have hk : ∀ W, Below W0.heap.size W0 W → Calls Try.prog 25 #[.slice A a.ks.length c, .slice B b.ks.length c', .func (.func 12) #[] #[]] W fun e w' => e = .returned (.bool (Tr.sames a.ks b.ks)) ∧ Below W.heap.size W w' :=
    fun W h => tequal_of d ih _ _ _ _ W ((hu.below hb0 (Nat.le_refl _)).below h (Nat.le_refl _)) ((hv.below hb0 (Nat.le_refl _)).below h (Nat.le_refl _))
  have hR := Tr.same_at a b
  have HW := Lib.hid hW0
  have HP := Lib.hid p0
  have HQ := Lib.hid p1
  have hlt0 : w.heap.size + 1 < W0.heap.size := l2.lt
  have HL := Lib.hid hlt0
  obtain ⟨k0, k1, k2, k3, k4⟩ := p0
  obtain ⟨m0, m1, m2, m3, m4⟩ := p1
  clear hW0 ih hu hv hx hy hl hl' hlt0 l1 l2
  by_cases hk1 : a.k = b.k
  case neg =>
    have e1 : (a.k == b.k) = false := by simpa using hk1
    have HE : Hid (Tr.same a b = false) := Lib.hid (by rw [hR, e1]; rfl)
    clear hR hk1 hq hk
    go_enter Try.func12, Try.ntmps12
    go_upto_region 1 with (fail)
    rw [← HW.out]
    go_wp2_with fail
    go_ret
    exact ⟨ret_bool HE.out.symm, hb0⟩
  have e1 : (a.k == b.k) = true := by simpa using hk1
  by_cases hk2 : a.t = b.t
  case neg =>
    have e2 : (a.t == b.t) = false := by simpa using hk2
    have HE : Hid (Tr.same a b = false) := Lib.hid (by rw [hR, e1, e2]; rfl)
    clear hk1 hk2
    clear hR hq hk
    go_enter Try.func12, Try.ntmps12
    go_upto_region 1 with (fail)
    rw [← HW.out]
    go_wp2_with fail
    go_ret
    exact ⟨ret_bool HE.out.symm, hb0⟩
  have e2 : (a.t == b.t) = true := by simpa using hk2
  by_cases hk3 : a.h = b.h
  case neg =>
    have e3 : (a.h == b.h) = false := by simpa using hk3
    have HE : Hid (Tr.same a b = false) := Lib.hid (by rw [hR, e1, e2, e3]; rfl)
    clear hk1 hk2 hk3
    clear hR hq hk
    go_enter Try.func12, Try.ntmps12
    go_upto_region 1 with (fail)
    rw [← HW.out]
    go_wp2_with fail
    go_ret
    exact ⟨ret_bool HE.out.symm, hb0⟩
  have e3 : (a.h == b.h) = true := by simpa using hk3
  obtain ⟨r1, hr1⟩ : ∃ r, r = Pr.sames a.cs b.cs := ⟨_, rfl⟩
  obtain ⟨r2, hr2⟩ : ∃ r, r = Tr.sames a.ks b.ks := ⟨_, rfl⟩
  have HE : Hid (Tr.same a b = (r1 && r2)) := Lib.hid (by rw [hR, e1, e2, e3, hr1, hr2]; simp)
  rw [← hr1] at hq
  rw [← hr2] at hk
  clear hR hr1 hr2 hk1 hk2 hk3
  go_enter Try.func12, Try.ntmps12
  go_upto_region 1 with (fail)
  rw [← HW.out]
  go_wp2_with fail
  refine (hq _ (Below.refl _ _)).mono ?_
  rintro e w2 ⟨rfl, hb2⟩
  clear k0 k1 k2 k3 k4 m0 m1 m2 m3 m4
  have k2 := (HP.out.below hb2 (show w.heap.size < W0.heap.size by have := HL.out; omega)).c2
  have m2 := (HQ.out.below hb2 (show w.heap.size + 1 < W0.heap.size from HL.out)).c2
  cases r1
  · go_wp2_with fail
    go_ret
    exact ⟨ret_bool (by rw [HE.out]; rfl), below_join hb0 hb2⟩
  · go_wp2_with fail
    refine (hk _ hb2).mono ?_
    rintro e w3 ⟨rfl, hb3⟩
    clear k2 m2
    go_wp2_with fail
    go_ret
    exact ⟨ret_bool (by rw [HE.out]; simp), below_join hb0 (below_join hb2 hb3)⟩
theorem trsame_any {w : World} {a b : Tr} {u x v y : Value} (hu : ∃ d, TsAt d w u a.ks) (hx : PsSome w x a.cs) (hv : ∃ d, TsAt d w v b.ks) (hy : PsSome w y b.cs) : Calls Try.prog 12 #[.agg #[.int .i64 a.k, .int .i64 a.t, u, x, .bool a.h], .agg #[.int .i64 b.k, .int .i64 b.t, v, y, .bool b.h]] w fun e w' => e = .returned (.bool (Tr.same a b)) ∧ Below w.heap.size w w' := by
  obtain ⟨d, hu⟩ := hu
  obtain ⟨e, hv⟩ := hv
  exact tsame_at (max d e) a b u x v y w (hu.mono (by omega)) hx (hv.mono (by omega)) hy
end Go.Proofs.Ytpobkpdlohahoaa
