/-
  THE CONTRACTS OF package pred's Same: a predicate's own fields; the library's EqualFunc; whole.
-/
import Derived.Test.YteimbdklakemaaaGreatDoorGOwn
import Derived.Deep.Cut
namespace Go.Proofs.YteimbdklakemaaaGreatDoor
open Go.RowKit Go.Sort
set_option maxHeartbeats 3200000

theorem palone_any (f g : Pf) (A B : Option Addr) (n m c e : Nat) (w : World) :
    Calls Tryz.prog 75 #[.agg #[.int .i64 f.k, .int .i64 f.u, .int .i64 f.o, .int .i64 f.a.k, .int .i64 f.a.t, .int .i64 f.a.c, .bool f.a.z, .int .i64 f.a.n, .int .i64 f.b.k, .int .i64 f.b.t, .int .i64 f.b.c, .bool f.b.z, .int .i64 f.b.n, .slice A n c], .agg #[.int .i64 g.k, .int .i64 g.u, .int .i64 g.o, .int .i64 g.a.k, .int .i64 g.a.t, .int .i64 g.a.c, .bool g.a.z, .int .i64 g.a.n, .int .i64 g.b.k, .int .i64 g.b.t, .int .i64 g.b.c, .bool g.b.z, .int .i64 g.b.n, .slice B m e]] w fun e w' => e = .returned (.bool (Pr.fsame f g)) ∧ Below w.heap.size w w' := by
  obtain ⟨W0, hW0⟩ : ∃ W0, W0 = (w.alloc (Obj.cells #[.int .i64 f.k, .int .i64 f.u, .int .i64 f.o, .int .i64 f.a.k, .int .i64 f.a.t, .int .i64 f.a.c, .bool f.a.z, .int .i64 f.a.n, .int .i64 f.b.k, .int .i64 f.b.t, .int .i64 f.b.c, .bool f.b.z, .int .i64 f.b.n, .slice A n c] 43)).alloc (Obj.cells #[.int .i64 g.k, .int .i64 g.u, .int .i64 g.o, .int .i64 g.a.k, .int .i64 g.a.t, .int .i64 g.a.c, .bool g.a.z, .int .i64 g.a.n, .int .i64 g.b.k, .int .i64 g.b.t, .int .i64 g.b.c, .bool g.b.z, .int .i64 g.b.n, .slice B m e] 43) := ⟨_, rfl⟩
  obtain ⟨p0, p1, hb0, hlt0⟩ := pd_boxes hW0
  have HW := Lib.hid hW0
  have HP := Lib.hid p0
  have HQ := Lib.hid p1
  have HL := Lib.hid hlt0
  have ca := tsame_any f.a.k f.a.t f.a.c f.a.z f.a.n g.a.k g.a.t g.a.c g.a.z g.a.n
  have cb := tsame_any f.b.k f.b.t f.b.c f.b.z f.b.n g.b.k g.b.t g.b.c g.b.z g.b.n
  have hR : Pr.fsame f g = (f.k == g.k && f.u == g.u && f.o == g.o && Te.same ⟨f.a.k, f.a.t, f.a.c, f.a.z, f.a.n⟩ ⟨g.a.k, g.a.t, g.a.c, g.a.z, g.a.n⟩ && Te.same ⟨f.b.k, f.b.t, f.b.c, f.b.z, f.b.n⟩ ⟨g.b.k, g.b.t, g.b.c, g.b.z, g.b.n⟩) := rfl
  rw [hR]
  obtain ⟨e0, h0⟩ : ∃ e0, e0 = (f.k == g.k) := ⟨_, rfl⟩
  obtain ⟨e1, h1⟩ : ∃ e1, e1 = (f.u == g.u) := ⟨_, rfl⟩
  obtain ⟨e2, h2⟩ : ∃ e2, e2 = (f.o == g.o) := ⟨_, rfl⟩
  obtain ⟨e3, h3⟩ : ∃ e3, e3 = Te.same ⟨f.a.k, f.a.t, f.a.c, f.a.z, f.a.n⟩ ⟨g.a.k, g.a.t, g.a.c, g.a.z, g.a.n⟩ := ⟨_, rfl⟩
  obtain ⟨e4, h4⟩ : ∃ e4, e4 = Te.same ⟨f.b.k, f.b.t, f.b.c, f.b.z, f.b.n⟩ ⟨g.b.k, g.b.t, g.b.c, g.b.z, g.b.n⟩ := ⟨_, rfl⟩
  rw [← h3] at ca
  rw [← h4] at cb
  rw [← h0, ← h1, ← h2, ← h3, ← h4]
  have k0 := p0.c0
  have k1 := p0.c1
  have k2 := p0.c2
  have k3 := p0.c3
  have k4 := p0.c4
  have k5 := p0.c5
  have k6 := p0.c6
  have k7 := p0.c7
  have m0 := p1.c0
  have m1 := p1.c1
  have m2 := p1.c2
  have m3 := p1.c3
  have m4 := p1.c4
  have m5 := p1.c5
  have m6 := p1.c6
  have m7 := p1.c7
  have d0 := h0.symm
  have d1 := h1.symm
  have d2 := h2.symm
  clear hW0 p0 p1 h0 h1 h2 h3 h4 hR hlt0
  go_enter Tryz.func75, Tryz.ntmps75
  go_upto_region 1 with (fail)
  rw [← HW.out]
  cases e0
  · go_wp2_with fail
    go_ret
    exact ⟨rfl, hb0⟩
  cases e1
  · go_wp2_with fail
    go_ret
    exact ⟨rfl, hb0⟩
  cases e2
  · go_wp2_with fail
    go_ret
    exact ⟨rfl, hb0⟩
  cases e3
  · go_wp2_with (first | (with_reducible refine (ca _).mono ?_; rintro e w2 ⟨rfl, hb2⟩))
    go_ret
    exact ⟨rfl, below_join hb0 hb2⟩
  go_wp2_with fail
  refine (ca _).mono ?_
  rintro e w2 ⟨rfl, hb2⟩
  obtain ⟨_, _, _, _, _, _, _, _, q8, q9, q10, q11, q12, _⟩ := HP.out.below hb2 (show w.heap.size < W0.heap.size by have := HL.out; omega)
  obtain ⟨_, _, _, _, _, _, _, _, r8, r9, r10, r11, r12, _⟩ := HQ.out.below hb2 (show w.heap.size + 1 < W0.heap.size from HL.out)
  have hb3 := below_join hb0 hb2
  clear k0 k1 k2 k3 k4 k5 k6 k7 m0 m1 m2 m3 m4 m5 m6 m7 d0 d1 d2 hb2 ca
  go_wp2_with (first | (with_reducible refine (cb _).mono ?_; rintro e w3 ⟨rfl, hb4⟩))
  go_ret
  exact ⟨ret_bool (by simp), below_join hb3 hb4⟩
theorem pequal_len (A B : Option Addr) (n m c e : Nat) (w : World) (h : n ≠ m) :
    Calls Tryz.prog 76 #[.slice A n c, .slice B m e, .func (.func 65) #[] #[]] w fun e w' => e = .returned (.bool false) ∧ w = w' := by
  have d1 : ((n : Int) != (m : Int)) = true := by simp; omega
  have d2 : (n != m) = true := by simpa using h
  clear h
  go_enter Tryz.func76, Tryz.ntmps76
  go_wp2_with fail
  go_ret
  exact ⟨rfl, rfl⟩
set_option maxRecDepth 100000 in
theorem pequal_of (d : Nat) (ih : ∀ e, e < d → ∀ (f g : Pf) (u v : Value) (ps qs : List Pd) (w : World), PsAt e w u ps → PsAt e w v qs → Calls Tryz.prog 65 #[.agg #[.int .i64 f.k, .int .i64 f.u, .int .i64 f.o, .int .i64 f.a.k, .int .i64 f.a.t, .int .i64 f.a.c, .bool f.a.z, .int .i64 f.a.n, .int .i64 f.b.k, .int .i64 f.b.t, .int .i64 f.b.c, .bool f.b.z, .int .i64 f.b.n, u], .agg #[.int .i64 g.k, .int .i64 g.u, .int .i64 g.o, .int .i64 g.a.k, .int .i64 g.a.t, .int .i64 g.a.c, .bool g.a.z, .int .i64 g.a.n, .int .i64 g.b.k, .int .i64 g.b.t, .int .i64 g.b.c, .bool g.b.z, .int .i64 g.b.n, v]] w fun e w' => e = .returned (.bool (Pr.same (.mk f ps) (.mk g qs))) ∧ Below w.heap.size w w') (u v : Value) (ps qs : List Pd) (w : World) (hu : PsAt d w u ps) (hv : PsAt d w v qs) :
    Calls Tryz.prog 76 #[u, v, .func (.func 65) #[] #[]] w fun e w' => e = .returned (.bool (Pr.sames ps qs)) ∧ Below w.heap.size w w' := by
  obtain ⟨A, c, rfl, hl⟩ := hu.form
  obtain ⟨B, c', rfl, hl'⟩ := hv.form
  by_cases hn : ps.length = qs.length
  · have HU := Lib.hid hu
    have HV := Lib.hid hv
    have IH := Lib.hid ih
    have HS := Lib.hid (Pr.sames_iff hn)
    obtain ⟨n, hn1⟩ : ∃ n, n = ps.length := ⟨_, rfl⟩
    rw [← hn1] at hl HU hn ⊢
    rw [← hn] at HV ⊢
    have HN := Lib.hid hn1
    have HM := Lib.hid hn
    clear ih hu hv hn hn1 hl'
    go_enter Tryz.func76, Tryz.ntmps76
    go_wp2_with fail
    go_loopw [17] (fun i wr => ∃ (q : Nat), q ≤ n ∧ i = .int .i64 q ∧ Hid (∀ (j : Nat) (p p' : Pd), j < q → ps[j]? = some p → qs[j]? = some p' → Pr.same p p' = true) ∧ Below w.heap.size w wr) (fun i _ => n - (intOf i).toNat)
    case atStart => exact ⟨0, Nat.zero_le _, rfl, Lib.hid (fun j p p' h => by omega), Below.refl _ _⟩
    case round =>
      obtain ⟨q, hq, rfl, hsv, hb⟩ := hrel
      by_cases hlt : q < n
      · obtain ⟨p, gp⟩ : ∃ p, ps[q]? = some p := ⟨ps[q]'(by have := HN.out; omega), List.getElem?_eq_getElem _⟩
        obtain ⟨p', gp'⟩ : ∃ p, qs[q]? = some p := ⟨qs[q]'(by have := HM.out; omega), List.getElem?_eq_getElem _⟩
        have hu := HU.out
        rw [HN.out] at hu
        have hv := HV.out
        rw [HM.out] at hv
        obtain ⟨e, b, o, s, v, he, rfl, _, hx⟩ := hu.at_ gp
        obtain ⟨e', b', o', s', v', he', rfl, hblt, hx'⟩ := hv.at_ gp'
        obtain ⟨ha, hf1⟩ := hx wr hb
        obtain ⟨hb2, hf2⟩ := hx' wr hb
        obtain ⟨A2, c2, rfl, _⟩ := hf1.form
        obtain ⟨B2, c3, rfl, _⟩ := hf2.form
        have cs := fun W (h : Below w.heap.size w W) => IH.out (max e e') (by omega) p.f p'.f _ _ p.ps p'.ps W ((hx W h).2.mono (by omega)) ((hx' W h).2.mono (by omega))
        have hpe : Pr.same (.mk p.f p.ps) (.mk p'.f p'.ps) = Pr.same p p' := by cases p; cases p'; rfl
        rw [hpe] at cs
        obtain ⟨r, hr⟩ : ∃ r, r = Pr.same p p' := ⟨_, rfl⟩
        rw [← hr] at cs
        have HR := Lib.hid hr
        have GP := Lib.hid gp
        have GP' := Lib.hid gp'
        have i1 : (0 : Int) ≤ (q : Int) := by omega
        have i2 : (q : Int) < (n : Int) := by omega
        obtain ⟨a0, a1, a2, a3, a4, a5, a6, a7, a8, a9, a10, a11, a12, a13⟩ := ha
        have hb2 := hb2.below (below_new wr (Obj.cells #[.int .i64 p.f.k, .int .i64 p.f.u, .int .i64 p.f.o, .int .i64 p.f.a.k, .int .i64 p.f.a.t, .int .i64 p.f.a.c, .bool p.f.a.z, .int .i64 p.f.a.n, .int .i64 p.f.b.k, .int .i64 p.f.b.t, .int .i64 p.f.b.c, .bool p.f.b.z, .int .i64 p.f.b.n, .slice A2 p.ps.length c2] 43)) (by rw [add_block]; exact Nat.lt_of_lt_of_le hblt hb.size)
        have hb3 : Below w.heap.size w ((wr.alloc (Obj.cells #[.int .i64 p.f.k, .int .i64 p.f.u, .int .i64 p.f.o, .int .i64 p.f.a.k, .int .i64 p.f.a.t, .int .i64 p.f.a.c, .bool p.f.a.z, .int .i64 p.f.a.n, .int .i64 p.f.b.k, .int .i64 p.f.b.t, .int .i64 p.f.b.c, .bool p.f.b.z, .int .i64 p.f.b.n, .slice A2 p.ps.length c2] 43)).alloc (Obj.cells #[.int .i64 p'.f.k, .int .i64 p'.f.u, .int .i64 p'.f.o, .int .i64 p'.f.a.k, .int .i64 p'.f.a.t, .int .i64 p'.f.a.c, .bool p'.f.a.z, .int .i64 p'.f.a.n, .int .i64 p'.f.b.k, .int .i64 p'.f.b.t, .int .i64 p'.f.b.c, .bool p'.f.b.z, .int .i64 p'.f.b.n, (.slice B2 p'.ps.length c3)] 43)) := below_join hb (below_new2 _ _ _)
        obtain ⟨b0, b1, b2, b3, b4, b5, b6, b7, b8, b9, b10, b11, b12, b13⟩ := hb2
        clear gp gp' hu hv hx hx' hpe hr hf1 hf2 hblt
        go_wp2_with fail
        refine (cs _ hb3).mono ?_
        rintro e w2 ⟨rfl, hb4⟩
        have hb5 := below_join hb3 hb4
        clear cs hb3 hb4 hb a0 a1 a2 a3 a4 a5 a6 a7 a8 a9 a10 a11 a12 a13 b0 b1 b2 b3 b4 b5 b6 b7 b8 b9 b10 b11 b12 b13
        cases r
        · have he : Hid (Pr.sames ps qs = false) := Lib.hid (by
            cases h : Pr.sames ps qs with
            | false => rfl
            | true => rw [HS.out] at h; rw [h q p p' GP.out GP'.out] at HR; exact absurd HR.out (by decide))
          go_wp2_with fail
          go_ret
          exact ⟨ret_bool he.out.symm, hb5⟩
        · have hs2 : Hid (∀ (j : Nat) (x x' : Pd), j < q + 1 → ps[j]? = some x → qs[j]? = some x' → Pr.same x x' = true) := Lib.hid (fun j x x' hj h1 h2 => by
            by_cases e : j = q
            · subst e; rw [GP.out] at h1; rw [GP'.out] at h2; cases h1; cases h2; exact HR.out.symm
            · exact hsv.out j x x' (by omega) h1 h2)
          go_wp2_with fail
          go_roundw
          case rel => exact ⟨q + 1, by omega, by go_num, hs2, hb5⟩
          case measure => simp [intOf]; omega
      · have he : Hid (Pr.sames ps qs = true) := Lib.hid (HS.out.2 fun j p p' hj hj' => hsv.out j p p' (by
          by_cases h : j < ps.length
          · have := HN.out; omega
          · rw [List.getElem?_eq_none (by omega)] at hj; cases hj) hj hj')
        go_wp2_with fail
        go_ret
        exact ⟨ret_bool he.out.symm, hb⟩
  · rw [Pr.sames_length hn]
    exact (pequal_len A B _ _ c c' w hn).mono (fun e w' ⟨h1, h2⟩ => ⟨h1, h2 ▸ Below.refl _ _⟩)
set_option maxRecDepth 100000 in
theorem psame_at (d : Nat) : ∀ (f g : Pf) (u v : Value) (ps qs : List Pd) (w : World), PsAt d w u ps → PsAt d w v qs → Calls Tryz.prog 65 #[.agg #[.int .i64 f.k, .int .i64 f.u, .int .i64 f.o, .int .i64 f.a.k, .int .i64 f.a.t, .int .i64 f.a.c, .bool f.a.z, .int .i64 f.a.n, .int .i64 f.b.k, .int .i64 f.b.t, .int .i64 f.b.c, .bool f.b.z, .int .i64 f.b.n, u], .agg #[.int .i64 g.k, .int .i64 g.u, .int .i64 g.o, .int .i64 g.a.k, .int .i64 g.a.t, .int .i64 g.a.c, .bool g.a.z, .int .i64 g.a.n, .int .i64 g.b.k, .int .i64 g.b.t, .int .i64 g.b.c, .bool g.b.z, .int .i64 g.b.n, v]] w fun e w' => e = .returned (.bool (Pr.same (.mk f ps) (.mk g qs))) ∧ Below w.heap.size w w' := by
  induction d using Nat.strongRecOn with
  | ind d ih =>
  intro f g u v ps qs w hu hv
  have hR : Pr.same (.mk f ps) (.mk g qs) = (Pr.fsame f g && Pr.sames ps qs) := by rw [Pr.same]
  rw [hR]
  obtain ⟨A, c, rfl, hl⟩ := hu.form
  obtain ⟨B, c', rfl, hl'⟩ := hv.form
  obtain ⟨W0, hW0⟩ : ∃ W0, W0 = (w.alloc (Obj.cells #[.int .i64 f.k, .int .i64 f.u, .int .i64 f.o, .int .i64 f.a.k, .int .i64 f.a.t, .int .i64 f.a.c, .bool f.a.z, .int .i64 f.a.n, .int .i64 f.b.k, .int .i64 f.b.t, .int .i64 f.b.c, .bool f.b.z, .int .i64 f.b.n, .slice A ps.length c] 43)).alloc (Obj.cells #[.int .i64 g.k, .int .i64 g.u, .int .i64 g.o, .int .i64 g.a.k, .int .i64 g.a.t, .int .i64 g.a.c, .bool g.a.z, .int .i64 g.a.n, .int .i64 g.b.k, .int .i64 g.b.t, .int .i64 g.b.c, .bool g.b.z, .int .i64 g.b.n, .slice B qs.length c'] 43) := ⟨_, rfl⟩
  obtain ⟨p0, p1, hb0, hlt0⟩ := pd_boxes hW0
  have hq : ∀ W, Below W0.heap.size W0 W → Calls Tryz.prog 76 #[.slice A ps.length c, .slice B qs.length c', .func (.func 65) #[] #[]] W fun e w' => e = .returned (.bool (Pr.sames ps qs)) ∧ Below W.heap.size W w' :=
    fun W h => pequal_of d ih _ _ ps qs W ((hu.below hb0 (Nat.le_refl _)).below h (Nat.le_refl _)) ((hv.below hb0 (Nat.le_refl _)).below h (Nat.le_refl _))
  have HW := Lib.hid hW0
  have HP := Lib.hid p0
  have HQ := Lib.hid p1
  have HL := Lib.hid hlt0
  have ca := palone_any f g A B ps.length qs.length c c'
  obtain ⟨r, hr⟩ : ∃ r, r = Pr.fsame f g := ⟨_, rfl⟩
  obtain ⟨r2, hr2⟩ : ∃ r, r = Pr.sames ps qs := ⟨_, rfl⟩
  rw [← hr] at ca ⊢
  rw [← hr2] at hq ⊢
  obtain ⟨k0, k1, k2, k3, k4, k5, k6, k7, k8, k9, k10, k11, k12, k13⟩ := p0
  obtain ⟨m0, m1, m2, m3, m4, m5, m6, m7, m8, m9, m10, m11, m12, m13⟩ := p1
  clear hW0 ih hu hv hR hl hl' hlt0 hr hr2
  go_enter Tryz.func65, Tryz.ntmps65
  go_upto_region 1 with (fail)
  rw [← HW.out]
  go_wp2_with fail
  refine (ca _).mono ?_
  rintro e w2 ⟨rfl, hb2⟩
  clear k0 k1 k2 k3 k4 k5 k6 k7 k8 k9 k10 k11 k12 k13 m0 m1 m2 m3 m4 m5 m6 m7 m8 m9 m10 m11 m12 m13
  have k13 := (HP.out.below hb2 (show w.heap.size < W0.heap.size by have := HL.out; omega)).c13
  have m13 := (HQ.out.below hb2 (show w.heap.size + 1 < W0.heap.size from HL.out)).c13
  cases r
  · go_wp2_with fail
    go_ret
    exact ⟨rfl, below_join hb0 hb2⟩
  · go_wp2_with fail
    refine (hq _ hb2).mono ?_
    rintro e w3 ⟨rfl, hb3⟩
    clear k13 m13
    go_wp2_with fail
    go_ret
    exact ⟨ret_bool (by simp), below_join hb0 (below_join hb2 hb3)⟩
theorem psame_any (d : Nat) (f g : Pf) (u v : Value) (ps qs : List Pd) (w : World) (hu : PsAt d w u ps) (hv : PsAt d w v qs) :
    Calls Tryz.prog 65 #[.agg #[.int .i64 f.k, .int .i64 f.u, .int .i64 f.o, .int .i64 f.a.k, .int .i64 f.a.t, .int .i64 f.a.c, .bool f.a.z, .int .i64 f.a.n, .int .i64 f.b.k, .int .i64 f.b.t, .int .i64 f.b.c, .bool f.b.z, .int .i64 f.b.n, u], .agg #[.int .i64 g.k, .int .i64 g.u, .int .i64 g.o, .int .i64 g.a.k, .int .i64 g.a.t, .int .i64 g.a.c, .bool g.a.z, .int .i64 g.a.n, .int .i64 g.b.k, .int .i64 g.b.t, .int .i64 g.b.c, .bool g.b.z, .int .i64 g.b.n, v]] w fun e w' => e = .returned (.bool (Pr.same (.mk f ps) (.mk g qs))) ∧ Below w.heap.size w w' := psame_at d f g u v ps qs w hu hv
end Go.Proofs.YteimbdklakemaaaGreatDoor
