/-
  LAID TOGETHER, BY PROGRAM, of: Predq, Predr, Preds, Predt, Predu, Ckm, Ckn, Cko.
-/
import Derived.Test.YtpaaibghfhnicaaGreatDoorGOwn
import Derived.Test.YtpaaibghfhnicaaGreatDoorGTreeA
import Derived.Test.YtpaaibghfhnicaaGreatDoorGBase
import Derived.Test.YtpaaibghfhnicaaGreatDoorGPred
import Derived.Deep.Cut
import Derived.Deep.RegionHeld3
/-
  THE CONTRACTS OF package pred's Same: a predicate's own fields; the library's EqualFunc; whole.
-/
namespace Go.Proofs.YtpaaibghfhnicaaGreatDoor
open Go.RowKit Go.Sort
set_option maxHeartbeats 3200000

theorem palone_any (f g : Pf) (A B : Option Addr) (n m c e : Nat) (w : World) :
    Calls Tryz.prog 151 #[.agg #[.int .i64 f.k, .int .i64 f.u, .int .i64 f.o, .int .i64 f.a.k, .int .i64 f.a.t, .int .i64 f.a.c, .bool f.a.z, .int .i64 f.a.n, .int .i64 f.b.k, .int .i64 f.b.t, .int .i64 f.b.c, .bool f.b.z, .int .i64 f.b.n, .slice A n c], .agg #[.int .i64 g.k, .int .i64 g.u, .int .i64 g.o, .int .i64 g.a.k, .int .i64 g.a.t, .int .i64 g.a.c, .bool g.a.z, .int .i64 g.a.n, .int .i64 g.b.k, .int .i64 g.b.t, .int .i64 g.b.c, .bool g.b.z, .int .i64 g.b.n, .slice B m e]] w fun e w' => e = .returned (.bool (Pr.fsame f g)) ∧ Below w.heap.size w w' := by
  obtain ⟨W0, hW0⟩ : ∃ W0, W0 = (w.alloc (Obj.cells #[.int .i64 f.k, .int .i64 f.u, .int .i64 f.o, .int .i64 f.a.k, .int .i64 f.a.t, .int .i64 f.a.c, .bool f.a.z, .int .i64 f.a.n, .int .i64 f.b.k, .int .i64 f.b.t, .int .i64 f.b.c, .bool f.b.z, .int .i64 f.b.n, .slice A n c] 77)).alloc (Obj.cells #[.int .i64 g.k, .int .i64 g.u, .int .i64 g.o, .int .i64 g.a.k, .int .i64 g.a.t, .int .i64 g.a.c, .bool g.a.z, .int .i64 g.a.n, .int .i64 g.b.k, .int .i64 g.b.t, .int .i64 g.b.c, .bool g.b.z, .int .i64 g.b.n, .slice B m e] 77) := ⟨_, rfl⟩
  obtain ⟨p0, p1, hb0, hlt0⟩ := pd_boxes hW0
  have HW := Lib.hid hW0
  have HP := Lib.hid p0
  have HQ := Lib.hid p1
  have HL := Lib.hid hlt0
  have ca := tsame_any f.a.k f.a.t f.a.c f.a.z f.a.n g.a.k g.a.t g.a.c g.a.z g.a.n
  have cb := tsame_any f.b.k f.b.t f.b.c f.b.z f.b.n g.b.k g.b.t g.b.c g.b.z g.b.n
  have hR : Pr.fsame f g = (f.k == g.k && f.u == g.u && f.o == g.o && Te.same ⟨f.a.k, f.a.t, f.a.c, f.a.z, f.a.n⟩ ⟨g.a.k, g.a.t, g.a.c, g.a.z, g.a.n⟩ && Te.same ⟨f.b.k, f.b.t, f.b.c, f.b.z, f.b.n⟩ ⟨g.b.k, g.b.t, g.b.c, g.b.z, g.b.n⟩) := rfl
  rw [hR]
  obtain ⟨e0, h0⟩ : ∃ e0, e0 = (f.k == g.k) := ⟨_, rfl⟩
  obtain ⟨e1, h1⟩ : ∃ e1, e1 = (f.u == g.u) := ⟨_, rfl⟩
  obtain ⟨e2, h2⟩ : ∃ e2, e2 = (f.o == g.o) := ⟨_, rfl⟩
  obtain ⟨e3, h3⟩ : ∃ e3, e3 = Te.same ⟨f.a.k, f.a.t, f.a.c, f.a.z, f.a.n⟩ ⟨g.a.k, g.a.t, g.a.c, g.a.z, g.a.n⟩ := ⟨_, rfl⟩
  obtain ⟨e4, h4⟩ : ∃ e4, e4 = Te.same ⟨f.b.k, f.b.t, f.b.c, f.b.z, f.b.n⟩ ⟨g.b.k, g.b.t, g.b.c, g.b.z, g.b.n⟩ := ⟨_, rfl⟩
  rw [← h3] at ca
  rw [← h4] at cb
  rw [← h0, ← h1, ← h2, ← h3, ← h4]
  have k0 := p0.c0
  have k1 := p0.c1
  have k2 := p0.c2
  have k3 := p0.c3
  have k4 := p0.c4
  have k5 := p0.c5
  have k6 := p0.c6
  have k7 := p0.c7
  have m0 := p1.c0
  have m1 := p1.c1
  have m2 := p1.c2
  have m3 := p1.c3
  have m4 := p1.c4
  have m5 := p1.c5
  have m6 := p1.c6
  have m7 := p1.c7
  have d0 := h0.symm
  have d1 := h1.symm
  have d2 := h2.symm
  clear hW0 p0 p1 h0 h1 h2 h3 h4 hR hlt0
  go_enter Tryz.func151, Tryz.ntmps151
  go_upto_region 1 with (fail)
  rw [← HW.out]
  cases e0
  · go_wp2_with fail
    go_ret
    exact ⟨rfl, hb0⟩
  cases e1
  · go_wp2_with fail
    go_ret
    exact ⟨rfl, hb0⟩
  cases e2
  · go_wp2_with fail
    go_ret
    exact ⟨rfl, hb0⟩
  cases e3
  · go_wp2_with (first | (with_reducible refine (ca _).mono ?_; rintro e w2 ⟨rfl, hb2⟩))
    go_ret
    exact ⟨rfl, below_join hb0 hb2⟩
  go_wp2_with fail
  refine (ca _).mono ?_
  rintro e w2 ⟨rfl, hb2⟩
  obtain ⟨_, _, _, _, _, _, _, _, q8, q9, q10, q11, q12, _⟩ := HP.out.below hb2 (show w.heap.size < W0.heap.size by have := HL.out; omega)
  obtain ⟨_, _, _, _, _, _, _, _, r8, r9, r10, r11, r12, _⟩ := HQ.out.below hb2 (show w.heap.size + 1 < W0.heap.size from HL.out)
  have hb3 := below_join hb0 hb2
  clear k0 k1 k2 k3 k4 k5 k6 k7 m0 m1 m2 m3 m4 m5 m6 m7 d0 d1 d2 hb2 ca
  go_wp2_with (first | (with_reducible refine (cb _).mono ?_; rintro e w3 ⟨rfl, hb4⟩))
  go_ret
  exact ⟨ret_bool (by simp), below_join hb3 hb4⟩
theorem pequal_len (A B : Option Addr) (n m c e : Nat) (w : World) (h : n ≠ m) :
    Calls Tryz.prog 152 #[.slice A n c, .slice B m e, .func (.func 136) #[] #[]] w fun e w' => e = .returned (.bool false) ∧ w = w' := by
  have d1 : ((n : Int) != (m : Int)) = true := by simp; omega
  have d2 : (n != m) = true := by simpa using h
  clear h
  go_enter Tryz.func152, Tryz.ntmps152
  go_wp2_with fail
  go_ret
  exact ⟨rfl, rfl⟩
set_option maxRecDepth 100000 in
theorem pequal_of (d : Nat) (ih : ∀ e, e < d → ∀ (f g : Pf) (u v : Value) (ps qs : List Pd) (w : World), PsAt e w u ps → PsAt e w v qs → Calls Tryz.prog 136 #[.agg #[.int .i64 f.k, .int .i64 f.u, .int .i64 f.o, .int .i64 f.a.k, .int .i64 f.a.t, .int .i64 f.a.c, .bool f.a.z, .int .i64 f.a.n, .int .i64 f.b.k, .int .i64 f.b.t, .int .i64 f.b.c, .bool f.b.z, .int .i64 f.b.n, u], .agg #[.int .i64 g.k, .int .i64 g.u, .int .i64 g.o, .int .i64 g.a.k, .int .i64 g.a.t, .int .i64 g.a.c, .bool g.a.z, .int .i64 g.a.n, .int .i64 g.b.k, .int .i64 g.b.t, .int .i64 g.b.c, .bool g.b.z, .int .i64 g.b.n, v]] w fun e w' => e = .returned (.bool (Pr.same (.mk f ps) (.mk g qs))) ∧ Below w.heap.size w w') (u v : Value) (ps qs : List Pd) (w : World) (hu : PsAt d w u ps) (hv : PsAt d w v qs) :
    Calls Tryz.prog 152 #[u, v, .func (.func 136) #[] #[]] w fun e w' => e = .returned (.bool (Pr.sames ps qs)) ∧ Below w.heap.size w w' := by
  obtain ⟨A, c, rfl, hl⟩ := hu.form
  obtain ⟨B, c', rfl, hl'⟩ := hv.form
  by_cases hn : ps.length = qs.length
  · have HU := Lib.hid hu
    have HV := Lib.hid hv
    have IH := Lib.hid ih
    have HS := Lib.hid (Pr.sames_iff hn)
    obtain ⟨n, hn1⟩ : ∃ n, n = ps.length := ⟨_, rfl⟩
    rw [← hn1] at hl HU hn ⊢
    rw [← hn] at HV ⊢
    have HN := Lib.hid hn1
    have HM := Lib.hid hn
    clear ih hu hv hn hn1 hl'
    go_enter Tryz.func152, Tryz.ntmps152
    go_wp2_with fail
    go_loopw [17] (fun i wr => ∃ (q : Nat), q ≤ n ∧ i = .int .i64 q ∧ Hid (∀ (j : Nat) (p p' : Pd), j < q → ps[j]? = some p → qs[j]? = some p' → Pr.same p p' = true) ∧ Below w.heap.size w wr) (fun i _ => n - (intOf i).toNat)
    case atStart => exact ⟨0, Nat.zero_le _, rfl, Lib.hid (fun j p p' h => by omega), Below.refl _ _⟩
    case round =>
      obtain ⟨q, hq, rfl, hsv, hb⟩ := hrel
      by_cases hlt : q < n
      · obtain ⟨p, gp⟩ : ∃ p, ps[q]? = some p := ⟨ps[q]'(by have := HN.out; omega), List.getElem?_eq_getElem _⟩
        obtain ⟨p', gp'⟩ : ∃ p, qs[q]? = some p := ⟨qs[q]'(by have := HM.out; omega), List.getElem?_eq_getElem _⟩
        have hu := HU.out
        rw [HN.out] at hu
        have hv := HV.out
        rw [HM.out] at hv
        obtain ⟨e, b, o, s, v, he, rfl, _, hx⟩ := hu.at_ gp
        obtain ⟨e', b', o', s', v', he', rfl, hblt, hx'⟩ := hv.at_ gp'
        obtain ⟨ha, hf1⟩ := hx wr hb
        obtain ⟨hb2, hf2⟩ := hx' wr hb
        obtain ⟨A2, c2, rfl, _⟩ := hf1.form
        obtain ⟨B2, c3, rfl, _⟩ := hf2.form
        have cs := fun W (h : Below w.heap.size w W) => IH.out (max e e') (by omega) p.f p'.f _ _ p.ps p'.ps W ((hx W h).2.mono (by omega)) ((hx' W h).2.mono (by omega))
        have hpe : Pr.same (.mk p.f p.ps) (.mk p'.f p'.ps) = Pr.same p p' := by cases p; cases p'; rfl
        rw [hpe] at cs
        obtain ⟨r, hr⟩ : ∃ r, r = Pr.same p p' := ⟨_, rfl⟩
        rw [← hr] at cs
        have HR := Lib.hid hr
        have GP := Lib.hid gp
        have GP' := Lib.hid gp'
        have i1 : (0 : Int) ≤ (q : Int) := by omega
        have i2 : (q : Int) < (n : Int) := by omega
        obtain ⟨a0, a1, a2, a3, a4, a5, a6, a7, a8, a9, a10, a11, a12, a13⟩ := ha
        have hb2 := hb2.below (below_new wr (Obj.cells #[.int .i64 p.f.k, .int .i64 p.f.u, .int .i64 p.f.o, .int .i64 p.f.a.k, .int .i64 p.f.a.t, .int .i64 p.f.a.c, .bool p.f.a.z, .int .i64 p.f.a.n, .int .i64 p.f.b.k, .int .i64 p.f.b.t, .int .i64 p.f.b.c, .bool p.f.b.z, .int .i64 p.f.b.n, .slice A2 p.ps.length c2] 77)) (by rw [add_block]; exact Nat.lt_of_lt_of_le hblt hb.size)
        have hb3 : Below w.heap.size w ((wr.alloc (Obj.cells #[.int .i64 p.f.k, .int .i64 p.f.u, .int .i64 p.f.o, .int .i64 p.f.a.k, .int .i64 p.f.a.t, .int .i64 p.f.a.c, .bool p.f.a.z, .int .i64 p.f.a.n, .int .i64 p.f.b.k, .int .i64 p.f.b.t, .int .i64 p.f.b.c, .bool p.f.b.z, .int .i64 p.f.b.n, .slice A2 p.ps.length c2] 77)).alloc (Obj.cells #[.int .i64 p'.f.k, .int .i64 p'.f.u, .int .i64 p'.f.o, .int .i64 p'.f.a.k, .int .i64 p'.f.a.t, .int .i64 p'.f.a.c, .bool p'.f.a.z, .int .i64 p'.f.a.n, .int .i64 p'.f.b.k, .int .i64 p'.f.b.t, .int .i64 p'.f.b.c, .bool p'.f.b.z, .int .i64 p'.f.b.n, (.slice B2 p'.ps.length c3)] 77)) := below_join hb (below_new2 _ _ _)
        obtain ⟨b0, b1, b2, b3, b4, b5, b6, b7, b8, b9, b10, b11, b12, b13⟩ := hb2
        clear gp gp' hu hv hx hx' hpe hr hf1 hf2 hblt
        go_wp2_with fail
        refine (cs _ hb3).mono ?_
        rintro e w2 ⟨rfl, hb4⟩
        have hb5 := below_join hb3 hb4
        clear cs hb3 hb4 hb a0 a1 a2 a3 a4 a5 a6 a7 a8 a9 a10 a11 a12 a13 b0 b1 b2 b3 b4 b5 b6 b7 b8 b9 b10 b11 b12 b13
        cases r
        · have he : Hid (Pr.sames ps qs = false) := Lib.hid (by
            cases h : Pr.sames ps qs with
            | false => rfl
            | true => rw [HS.out] at h; rw [h q p p' GP.out GP'.out] at HR; exact absurd HR.out (by decide))
          go_wp2_with fail
          go_ret
          exact ⟨ret_bool he.out.symm, hb5⟩
        · have hs2 : Hid (∀ (j : Nat) (x x' : Pd), j < q + 1 → ps[j]? = some x → qs[j]? = some x' → Pr.same x x' = true) := Lib.hid (fun j x x' hj h1 h2 => by
            by_cases e : j = q
            · subst e; rw [GP.out] at h1; rw [GP'.out] at h2; cases h1; cases h2; exact HR.out.symm
            · exact hsv.out j x x' (by omega) h1 h2)
          go_wp2_with fail
          go_roundw
          case rel => exact ⟨q + 1, by omega, by go_num, hs2, hb5⟩
          case measure => simp [intOf]; omega
      · have he : Hid (Pr.sames ps qs = true) := Lib.hid (HS.out.2 fun j p p' hj hj' => hsv.out j p p' (by
          by_cases h : j < ps.length
          · have := HN.out; omega
          · rw [List.getElem?_eq_none (by omega)] at hj; cases hj) hj hj')
        go_wp2_with fail
        go_ret
        exact ⟨ret_bool he.out.symm, hb⟩
  · rw [Pr.sames_length hn]
    exact (pequal_len A B _ _ c c' w hn).mono (fun e w' ⟨h1, h2⟩ => ⟨h1, h2 ▸ Below.refl _ _⟩)
set_option maxRecDepth 100000 in
theorem psame_at (d : Nat) : ∀ (f g : Pf) (u v : Value) (ps qs : List Pd) (w : World), PsAt d w u ps → PsAt d w v qs → Calls Tryz.prog 136 #[.agg #[.int .i64 f.k, .int .i64 f.u, .int .i64 f.o, .int .i64 f.a.k, .int .i64 f.a.t, .int .i64 f.a.c, .bool f.a.z, .int .i64 f.a.n, .int .i64 f.b.k, .int .i64 f.b.t, .int .i64 f.b.c, .bool f.b.z, .int .i64 f.b.n, u], .agg #[.int .i64 g.k, .int .i64 g.u, .int .i64 g.o, .int .i64 g.a.k, .int .i64 g.a.t, .int .i64 g.a.c, .bool g.a.z, .int .i64 g.a.n, .int .i64 g.b.k, .int .i64 g.b.t, .int .i64 g.b.c, .bool g.b.z, .int .i64 g.b.n, v]] w fun e w' => e = .returned (.bool (Pr.same (.mk f ps) (.mk g qs))) ∧ Below w.heap.size w w' := by
  induction d using Nat.strongRecOn with
  | ind d ih =>
  intro f g u v ps qs w hu hv
  have hR : Pr.same (.mk f ps) (.mk g qs) = (Pr.fsame f g && Pr.sames ps qs) := by rw [Pr.same]
  rw [hR]
  obtain ⟨A, c, rfl, hl⟩ := hu.form
  obtain ⟨B, c', rfl, hl'⟩ := hv.form
  obtain ⟨W0, hW0⟩ : ∃ W0, W0 = (w.alloc (Obj.cells #[.int .i64 f.k, .int .i64 f.u, .int .i64 f.o, .int .i64 f.a.k, .int .i64 f.a.t, .int .i64 f.a.c, .bool f.a.z, .int .i64 f.a.n, .int .i64 f.b.k, .int .i64 f.b.t, .int .i64 f.b.c, .bool f.b.z, .int .i64 f.b.n, .slice A ps.length c] 77)).alloc (Obj.cells #[.int .i64 g.k, .int .i64 g.u, .int .i64 g.o, .int .i64 g.a.k, .int .i64 g.a.t, .int .i64 g.a.c, .bool g.a.z, .int .i64 g.a.n, .int .i64 g.b.k, .int .i64 g.b.t, .int .i64 g.b.c, .bool g.b.z, .int .i64 g.b.n, .slice B qs.length c'] 77) := ⟨_, rfl⟩
  obtain ⟨p0, p1, hb0, hlt0⟩ := pd_boxes hW0
  have hq : ∀ W, Below W0.heap.size W0 W → Calls Tryz.prog 152 #[.slice A ps.length c, .slice B qs.length c', .func (.func 136) #[] #[]] W fun e w' => e = .returned (.bool (Pr.sames ps qs)) ∧ Below W.heap.size W w' :=
    fun W h => pequal_of d ih _ _ ps qs W ((hu.below hb0 (Nat.le_refl _)).below h (Nat.le_refl _)) ((hv.below hb0 (Nat.le_refl _)).below h (Nat.le_refl _))
  have HW := Lib.hid hW0
  have HP := Lib.hid p0
  have HQ := Lib.hid p1
  have HL := Lib.hid hlt0
  have ca := palone_any f g A B ps.length qs.length c c'
  obtain ⟨r, hr⟩ : ∃ r, r = Pr.fsame f g := ⟨_, rfl⟩
  obtain ⟨r2, hr2⟩ : ∃ r, r = Pr.sames ps qs := ⟨_, rfl⟩
  rw [← hr] at ca ⊢
  rw [← hr2] at hq ⊢
  obtain ⟨k0, k1, k2, k3, k4, k5, k6, k7, k8, k9, k10, k11, k12, k13⟩ := p0
  obtain ⟨m0, m1, m2, m3, m4, m5, m6, m7, m8, m9, m10, m11, m12, m13⟩ := p1
  clear hW0 ih hu hv hR hl hl' hlt0 hr hr2
  go_enter Tryz.func136, Tryz.ntmps136
  go_upto_region 1 with (fail)
  rw [← HW.out]
  go_wp2_with fail
  refine (ca _).mono ?_
  rintro e w2 ⟨rfl, hb2⟩
  clear k0 k1 k2 k3 k4 k5 k6 k7 k8 k9 k10 k11 k12 k13 m0 m1 m2 m3 m4 m5 m6 m7 m8 m9 m10 m11 m12 m13
  have k13 := (HP.out.below hb2 (show w.heap.size < W0.heap.size by have := HL.out; omega)).c13
  have m13 := (HQ.out.below hb2 (show w.heap.size + 1 < W0.heap.size from HL.out)).c13
  cases r
  · go_wp2_with fail
    go_ret
    exact ⟨rfl, below_join hb0 hb2⟩
  · go_wp2_with fail
    refine (hq _ hb2).mono ?_
    rintro e w3 ⟨rfl, hb3⟩
    clear k13 m13
    go_wp2_with fail
    go_ret
    exact ⟨ret_bool (by simp), below_join hb0 (below_join hb2 hb3)⟩
theorem psame_any (d : Nat) (f g : Pf) (u v : Value) (ps qs : List Pd) (w : World) (hu : PsAt d w u ps) (hv : PsAt d w v qs) :
    Calls Tryz.prog 136 #[.agg #[.int .i64 f.k, .int .i64 f.u, .int .i64 f.o, .int .i64 f.a.k, .int .i64 f.a.t, .int .i64 f.a.c, .bool f.a.z, .int .i64 f.a.n, .int .i64 f.b.k, .int .i64 f.b.t, .int .i64 f.b.c, .bool f.b.z, .int .i64 f.b.n, u], .agg #[.int .i64 g.k, .int .i64 g.u, .int .i64 g.o, .int .i64 g.a.k, .int .i64 g.a.t, .int .i64 g.a.c, .bool g.a.z, .int .i64 g.a.n, .int .i64 g.b.k, .int .i64 g.b.t, .int .i64 g.b.c, .bool g.b.z, .int .i64 g.b.n, v]] w fun e w' => e = .returned (.bool (Pr.same (.mk f ps) (.mk g qs))) ∧ Below w.heap.size w w' := psame_at d f g u v ps qs w hu hv
end Go.Proofs.YtpaaibghfhnicaaGreatDoor

/-
  THE CONTRACT OF package pred's Right: what it says, case by case; the closure over the parts; whole.
-/
namespace Go.Proofs.YtpaaibghfhnicaaGreatDoor
open Go.RowKit Go.Sort
set_option maxHeartbeats 3200000

theorem cell_lt {w : World} {b : Nat} {v : Value} (h : w.cell? ⟨b, 0, none⟩ = some v) : b < w.heap.size := by
  by_cases hb : b < w.heap.size
  · exact hb
  · have : w.heap[b]? = none := Array.getElem?_eq_none (by omega)
    simp [World.cell?, this] at h
def Te.nil : Tm := ⟨0, 0, 0, false, 0⟩
namespace Pr
theorem same_bare (f g : Pf) (ps : List Pd) : same (.mk f ps) (.mk g []) = (fsame f g && ps.length == 0) := by
  rw [same]
  cases ps with
  | nil => rw [sames]; rfl
  | cons p r => rw [sames_length (by simp)]; simp
theorem rightAts_nil {ps : List Pd} (d : Nat) (h : (ps.length == 0) = true) : rightAts ps d = true := by
  obtain rfl : ps = [] := List.eq_nil_of_length_eq_zero (by simpa using h)
  rfl
theorem zero_nil (x : Tm) : Te.same x Te.nil = Te.zero x := rfl
theorem tm_self (x : Tm) : Te.same x x = true := by simp [Te.same]
theorem right_1 {f : Pf} {ps : List Pd} {d : Nat} (h : f.k = 1) (hd : d ≤ 4) : rightAt (.mk f ps) d = (same (.mk f ps) (.mk ⟨f.k, f.u, 0, Te.nil, Te.nil⟩ []) && (f.u == 0 || f.u == 1 || f.u == 2)) := by
  rw [same_bare, rightAt, head, tail]
  simp only [fsame, zero_nil]
  rw [if_pos h]
  have e1 : (f.k == 1) = true := by simpa using h
  have e2 : (f.k == 2) = false := by simp; omega
  have e3 : (f.k == 3) = false := by simp; omega
  have hu : (decide (0 ≤ f.u) && decide (f.u ≤ 2)) = (f.u == 0 || f.u == 1 || f.u == 2) := by
    rw [Bool.eq_iff_iff]; simp; omega
  have h1 : decide (1 ≤ f.k) = true := by simp; omega
  have h6 : decide (f.k ≤ 6) = true := by simp; omega
  have hd' : decide (d ≤ 4) = true := by simpa using hd
  rw [e1, e2, e3, h1, h6, hd', ← hu]
  by_cases hn : (ps.length == 0) = true
  · rw [rightAts_nil _ hn, hn]
    cases f.o == 0 <;> cases Te.zero f.a <;> cases Te.zero f.b <;> simp
  · have hn' : (ps.length == 0) = false := by simpa using hn
    rw [hn']; simp
theorem right_2 {f : Pf} {ps : List Pd} {d : Nat} (h : f.k = 2) (hd : d ≤ 4) : rightAt (.mk f ps) d = (same (.mk f ps) (.mk ⟨f.k, 0, f.o, f.a, f.b⟩ []) && (decide (1 ≤ f.o) && decide (f.o ≤ 6)) && Te.right f.a && Te.right f.b) := by
  rw [same_bare, rightAt, head, tail]
  simp only [fsame, tm_self]
  rw [if_neg (by omega), if_pos h]
  have e1 : (f.k == 1) = false := by simp; omega
  have e2 : (f.k == 2) = true := by simpa using h
  have e3 : (f.k == 3) = false := by simp; omega
  have h1 : decide (1 ≤ f.k) = true := by simp; omega
  have h6 : decide (f.k ≤ 6) = true := by simp; omega
  have hd' : decide (d ≤ 4) = true := by simpa using hd
  rw [e1, e2, e3, h1, h6, hd']
  by_cases hn : (ps.length == 0) = true
  · rw [rightAts_nil _ hn, hn]
    cases f.u == 0 <;> simp
  · have hn' : (ps.length == 0) = false := by simpa using hn
    rw [hn']; simp
theorem right_3 {f : Pf} {ps : List Pd} {d : Nat} (h : f.k = 3) (hd : d ≤ 4) : rightAt (.mk f ps) d = (same (.mk f ps) (.mk ⟨f.k, 0, 0, f.a, Te.nil⟩ []) && Te.right f.a) := by
  rw [same_bare, rightAt, head, tail]
  simp only [fsame, tm_self, zero_nil]
  rw [if_neg (by omega), if_neg (by omega), if_pos h]
  have e1 : (f.k == 1) = false := by simp; omega
  have e2 : (f.k == 2) = false := by simp; omega
  have e3 : (f.k == 3) = true := by simpa using h
  have h1 : decide (1 ≤ f.k) = true := by simp; omega
  have h6 : decide (f.k ≤ 6) = true := by simp; omega
  have hd' : decide (d ≤ 4) = true := by simpa using hd
  rw [e1, e2, e3, h1, h6, hd']
  by_cases hn : (ps.length == 0) = true
  · rw [rightAts_nil _ hn, hn]
    cases f.u == 0 <;> cases f.o == 0 <;> cases Te.zero f.b <;> simp
  · have hn' : (ps.length == 0) = false := by simpa using hn
    rw [hn']; simp
theorem right_more {f : Pf} {ps : List Pd} {d : Nat} (h1 : f.k = 4 ∨ f.k = 5 ∨ f.k = 6) (hd : d ≤ 4) (b : Bool) (hb : tail f ps.length = b) : rightAt (.mk f ps) d = (b && (fsame f ⟨f.k, 0, 0, Te.nil, Te.nil⟩ && rightAts ps (d + 1))) := by
  rw [rightAt, head, hb]
  simp only [fsame, zero_nil]
  have e1 : (f.k == 1) = false := by simp; omega
  have e2 : (f.k == 2) = false := by simp; omega
  have e3 : (f.k == 3) = false := by simp; omega
  have h1 : decide (1 ≤ f.k) = true := by simp; omega
  have h6 : decide (f.k ≤ 6) = true := by simp; omega
  have hd' : decide (d ≤ 4) = true := by simpa using hd
  rw [e1, e2, e3, h1, h6, hd']
  cases b <;> cases f.u == 0 <;> cases f.o == 0 <;> cases Te.zero f.a <;> cases Te.zero f.b <;> simp
theorem right_45 {f : Pf} {ps : List Pd} {d : Nat} (h : f.k = 4 ∨ f.k = 5) (hd : d ≤ 4) : rightAt (.mk f ps) d = (decide (ps.length ≤ 4) && (fsame f ⟨f.k, 0, 0, Te.nil, Te.nil⟩ && rightAts ps (d + 1))) :=
  right_more (by omega) hd _ (by unfold tail; rw [if_neg (by omega), if_neg (by omega), if_neg (by omega), if_neg (by omega)])
theorem right_6 {f : Pf} {ps : List Pd} {d : Nat} (h : f.k = 6) (hd : d ≤ 4) : rightAt (.mk f ps) d = ((ps.length == 1) && (fsame f ⟨f.k, 0, 0, Te.nil, Te.nil⟩ && rightAts ps (d + 1))) :=
  right_more (by omega) hd _ (by unfold tail; rw [if_neg (by omega), if_neg (by omega), if_neg (by omega), if_pos h])
theorem right_deep {f : Pf} {ps : List Pd} {d : Nat} (hd : ¬ d ≤ 4) : rightAt (.mk f ps) d = false := by
  have hd' : decide (d ≤ 4) = false := by simpa using hd
  rw [rightAt, head, hd']; simp
theorem right_no {f : Pf} {ps : List Pd} {d : Nat} (h : f.k < 1 ∨ 6 < f.k) : rightAt (.mk f ps) d = false := by
  rw [rightAt, head]
  rcases h with h | h
  · have h1 : decide (1 ≤ f.k) = false := by simp; omega
    rw [h1]; simp
  · have h1 : decide (f.k ≤ 6) = false := by simp; omega
    rw [h1]; simp
theorem rightAts_any (l : List Pd) (d : Nat) : (!l.any fun p => !rightAt p d) = rightAts l d := by
  rw [Bool.eq_iff_iff, rightAts_iff]; simp
end Pr
theorem pcomp_any (o : Int) (w : World) :
    Calls Tryz.prog 138 #[.int .i64 o] w fun e w' => e = .returned (.bool (decide (1 ≤ o) && decide (o ≤ 6))) ∧ w = w' := by
  by_cases h1 : 1 ≤ o
  · have e1 : decide (1 ≤ o) = true := by simpa using h1
    rw [e1, Bool.true_and]
    go_enter Tryz.func138, Tryz.ntmps138
    go_wp2_with fail
    go_ret
    exact ⟨rfl, rfl⟩
  · have e1 : decide (1 ≤ o) = false := by simpa using h1
    rw [e1, Bool.false_and]
    go_enter Tryz.func138, Tryz.ntmps138
    go_wp2_with fail
    go_ret
    exact ⟨rfl, rfl⟩
theorem pjoin1_of (dp : Nat) (b : Nat) (f : Pf) (A : Option Addr) (n c : Nat) (r : Bool) (w : World) (hdp : dp ≤ 1000) (hc : w.cell? ⟨b, 0, none⟩ = some (.int .i64 (dp : Int)))
    (hs : ∀ W, Below w.heap.size w W → Calls Tryz.prog 115 #[.agg #[.int .i64 f.k, .int .i64 f.u, .int .i64 f.o, .int .i64 f.a.k, .int .i64 f.a.t, .int .i64 f.a.c, .bool f.a.z, .int .i64 f.a.n, .int .i64 f.b.k, .int .i64 f.b.t, .int .i64 f.b.c, .bool f.b.z, .int .i64 f.b.n, .slice A n c], .int .i64 ((dp : Int) + 1)] W fun e w' => e = .returned (.bool r) ∧ Below W.heap.size W w') :
    Calls Tryz.prog 156 #[.agg #[.int .i64 f.k, .int .i64 f.u, .int .i64 f.o, .int .i64 f.a.k, .int .i64 f.a.t, .int .i64 f.a.c, .bool f.a.z, .int .i64 f.a.n, .int .i64 f.b.k, .int .i64 f.b.t, .int .i64 f.b.c, .bool f.b.z, .int .i64 f.b.n, .slice A n c], .pointer (some ⟨b, 0, none⟩)] w fun e w' => e = .returned (.bool (!r)) ∧ Below w.heap.size w w' := by
  obtain ⟨W0, hW0⟩ : ∃ W0, W0 = w.alloc (Obj.cells #[.int .i64 f.k, .int .i64 f.u, .int .i64 f.o, .int .i64 f.a.k, .int .i64 f.a.t, .int .i64 f.a.c, .bool f.a.z, .int .i64 f.a.n, .int .i64 f.b.k, .int .i64 f.b.t, .int .i64 f.b.c, .bool f.b.z, .int .i64 f.b.n, .slice A n c] 77) := ⟨_, rfl⟩
  obtain ⟨l0, p0, hb0⟩ := pd_box hW0
  have hbb : b < w.heap.size := cell_lt hc
  have hc0 : W0.cell? ⟨b, 0, none⟩ = some (.int .i64 (dp : Int)) := (hb0.cell (p := ⟨b, 0, none⟩) hbb).trans hc
  have cs := hs W0 hb0
  have HW := Lib.hid hW0
  obtain ⟨k0, k1, k2, k3, k4, k5, k6, k7, k8, k9, k10, k11, k12, k13⟩ := p0
  clear hW0 l0 hc hs hbb
  go_enter Tryz.func156, Tryz.ntmps156
  go_upto_region 1 with (fail)
  rw [← HW.out]
  go_wp2_with fail
  refine cs.mono ?_
  rintro e w2 ⟨rfl, hb2⟩
  clear cs k0 k1 k2 k3 k4 k5 k6 k7 k8 k9 k10 k11 k12 k13
  go_wp2_with fail
  go_ret
  exact ⟨rfl, below_join hb0 hb2⟩
theorem pindex_of (d dp : Nat) (ih : ∀ e, e < d → ∀ (f : Pf) (u : Value) (ps : List Pd) (dp : Nat) (w : World), PsAt e w u ps → dp ≤ 1000 → Calls Tryz.prog 115 #[.agg #[.int .i64 f.k, .int .i64 f.u, .int .i64 f.o, .int .i64 f.a.k, .int .i64 f.a.t, .int .i64 f.a.c, .bool f.a.z, .int .i64 f.a.n, .int .i64 f.b.k, .int .i64 f.b.t, .int .i64 f.b.c, .bool f.b.z, .int .i64 f.b.n, u], .int .i64 (dp : Int)] w fun e w' => e = .returned (.bool (Pr.rightAt (.mk f ps) dp)) ∧ Below w.heap.size w w') (b : Nat) (u : Value) (ps : List Pd) (w : World) (hu : PsAt d w u ps) (hdp : dp ≤ 999) (hc : w.cell? ⟨b, 0, none⟩ = some (.int .i64 (dp : Int))) :
    Calls Tryz.prog 165 #[u, .func (.func 156) #[] #[.pointer (some ⟨b, 0, none⟩)]] w fun e w' => (∃ r : Int, e = .returned (.int .i64 r) ∧ decide (0 ≤ r) = ps.any fun p => !Pr.rightAt p (dp + 1)) ∧ Below w.heap.size w w' := by
  obtain ⟨A, c, rfl, hl⟩ := hu.form
  have HU := Lib.hid hu
  have IH := Lib.hid ih
  have HC := Lib.hid hc
  obtain ⟨n, hn⟩ : ∃ n, n = ps.length := ⟨_, rfl⟩
  rw [← hn] at hl HU ⊢
  have HN := Lib.hid hn
  clear hn hu ih hc
  go_enter Tryz.func165, Tryz.ntmps165
  go_wp2_with fail
  go_loopw [8] (fun i wr => ∃ q : Nat, q ≤ n ∧ i = .int .i64 q ∧ Hid (((ps.take q).any fun p => !Pr.rightAt p (dp + 1)) = false) ∧ Below w.heap.size w wr) (fun i _ => n - (intOf i).toNat)
  case atStart => exact ⟨0, Nat.zero_le _, rfl, Lib.hid (by simp), Below.refl _ _⟩
  case round =>
    obtain ⟨q, hq, rfl, hno, hb⟩ := hrel
    by_cases hlt : q < n
    · obtain ⟨p, gp⟩ : ∃ p, ps[q]? = some p := ⟨ps[q]'(by have := HN.out; omega), List.getElem?_eq_getElem _⟩
      have hu := HU.out
      rw [HN.out] at hu
      obtain ⟨e, b', o, s, v, he, rfl, hblt, hx⟩ := hu.at_ gp
      obtain ⟨ha, hf1⟩ := hx wr hb
      obtain ⟨A2, c2, rfl, _⟩ := hf1.form
      have hpe : Pd.mk p.f p.ps = p := by cases p; rfl
      obtain ⟨r, hr⟩ : ∃ r, r = Pr.rightAt p (dp + 1) := ⟨_, rfl⟩
      have hcr : wr.cell? ⟨b, 0, none⟩ = some (.int .i64 (dp : Int)) := (hb.cell (p := ⟨b, 0, none⟩) (cell_lt HC.out)).trans HC.out
      have cs := pjoin1_of dp b p.f A2 p.ps.length c2 r wr (by omega) hcr (fun W h => by
        have k := IH.out e he p.f _ p.ps (dp + 1) W ((hx W (below_join hb h)).2) (by omega)
        rw [hpe, ← hr] at k
        exact k)
      have HR := Lib.hid hr
      have GP := Lib.hid gp
      obtain ⟨a0, a1, a2, a3, a4, a5, a6, a7, a8, a9, a10, a11, a12, a13⟩ := ha
      clear gp hu hx hpe hr hf1 hblt hcr
      go_wp2_with fail
      refine cs.mono ?_
      rintro e w2 ⟨rfl, hb2⟩
      have hb3 := below_join hb hb2
      clear cs hb2 hb a0 a1 a2 a3 a4 a5 a6 a7 a8 a9 a10 a11 a12 a13
      cases r
      · have he : Hid ((ps.any fun p => !Pr.rightAt p (dp + 1)) = true) := Lib.hid (List.any_eq_true.2 ⟨p, List.mem_of_getElem? GP.out, by rw [← HR.out]; rfl⟩)
        go_wp2_with fail
        go_ret
        exact ⟨⟨q, rfl, by rw [he.out]; simp⟩, hb3⟩
      · have hs2 : Hid (((ps.take (q + 1)).any fun p => !Pr.rightAt p (dp + 1)) = false) := Lib.hid (by
          rw [List.take_add_one, GP.out, List.any_append, hno.out]; simp [← HR.out])
        go_wp2_with fail
        go_roundw
        case rel => exact ⟨q + 1, by omega, by go_num, hs2, hb3⟩
        case measure => simp [intOf]; omega
    · have he : Hid ((ps.any fun p => !Pr.rightAt p (dp + 1)) = false) := Lib.hid (by rw [← hno.out, List.take_of_length_le (by have := HN.out; omega)])
      go_wp2_with fail
      go_ret
      exact ⟨⟨-1, rfl, by rw [he.out]; rfl⟩, hb⟩
theorem pcontains_of (d dp : Nat) (ih : ∀ e, e < d → ∀ (f : Pf) (u : Value) (ps : List Pd) (dp : Nat) (w : World), PsAt e w u ps → dp ≤ 1000 → Calls Tryz.prog 115 #[.agg #[.int .i64 f.k, .int .i64 f.u, .int .i64 f.o, .int .i64 f.a.k, .int .i64 f.a.t, .int .i64 f.a.c, .bool f.a.z, .int .i64 f.a.n, .int .i64 f.b.k, .int .i64 f.b.t, .int .i64 f.b.c, .bool f.b.z, .int .i64 f.b.n, u], .int .i64 (dp : Int)] w fun e w' => e = .returned (.bool (Pr.rightAt (.mk f ps) dp)) ∧ Below w.heap.size w w') (b : Nat) (u : Value) (ps : List Pd) (w : World) (hu : PsAt d w u ps) (hdp : dp ≤ 999) (hc : w.cell? ⟨b, 0, none⟩ = some (.int .i64 (dp : Int))) :
    Calls Tryz.prog 155 #[u, .func (.func 156) #[] #[.pointer (some ⟨b, 0, none⟩)]] w fun e w' => e = .returned (.bool (ps.any fun p => !Pr.rightAt p (dp + 1))) ∧ Below w.heap.size w w' := by
  have cs := pindex_of d dp ih b u ps w hu hdp hc
  obtain ⟨r, hr⟩ : ∃ r, r = (ps.any fun p => !Pr.rightAt p (dp + 1)) := ⟨_, rfl⟩
  rw [← hr] at cs ⊢
  obtain ⟨A, c, rfl, hl⟩ := hu.form
  clear ih hu hc hr hl
  go_enter Tryz.func155, Tryz.ntmps155
  go_wp2_with fail
  refine cs.mono ?_
  rintro e w2 ⟨⟨i, rfl, hi⟩, hb2⟩
  clear cs
  go_wp2_with fail
  go_ret
  exact ⟨rfl, hb2⟩
theorem pjoins_of (d dp : Nat) (ih : ∀ e, e < d → ∀ (f : Pf) (u : Value) (ps : List Pd) (dp : Nat) (w : World), PsAt e w u ps → dp ≤ 1000 → Calls Tryz.prog 115 #[.agg #[.int .i64 f.k, .int .i64 f.u, .int .i64 f.o, .int .i64 f.a.k, .int .i64 f.a.t, .int .i64 f.a.c, .bool f.a.z, .int .i64 f.a.n, .int .i64 f.b.k, .int .i64 f.b.t, .int .i64 f.b.c, .bool f.b.z, .int .i64 f.b.n, u], .int .i64 (dp : Int)] w fun e w' => e = .returned (.bool (Pr.rightAt (.mk f ps) dp)) ∧ Below w.heap.size w w') (f : Pf) (u : Value) (ps : List Pd) (w : World) (hu : PsAt d w u ps) (hdp : dp ≤ 999) :
    Calls Tryz.prog 140 #[.agg #[.int .i64 f.k, .int .i64 f.u, .int .i64 f.o, .int .i64 f.a.k, .int .i64 f.a.t, .int .i64 f.a.c, .bool f.a.z, .int .i64 f.a.n, .int .i64 f.b.k, .int .i64 f.b.t, .int .i64 f.b.c, .bool f.b.z, .int .i64 f.b.n, u], .int .i64 (dp : Int)] w fun e w' => e = .returned (.bool (Pr.fsame f ⟨f.k, 0, 0, Te.nil, Te.nil⟩ && Pr.rightAts ps (dp + 1))) ∧ Below w.heap.size w w' := by
  rw [← Pr.rightAts_any]
  obtain ⟨A, c, rfl, hl⟩ := hu.form
  obtain ⟨W0, hW0⟩ : ∃ W0, W0 = (w.alloc (Obj.cells #[.int .i64 f.k, .int .i64 f.u, .int .i64 f.o, .int .i64 f.a.k, .int .i64 f.a.t, .int .i64 f.a.c, .bool f.a.z, .int .i64 f.a.n, .int .i64 f.b.k, .int .i64 f.b.t, .int .i64 f.b.c, .bool f.b.z, .int .i64 f.b.n, .slice A ps.length c] 77)).alloc (Obj.cells #[.int .i64 (dp : Int)] 3) := ⟨_, rfl⟩
  obtain ⟨l0, l1, hb0⟩ := box_two (cs := f.cells (.slice A ps.length c)) (ds := [.int .i64 (dp : Int)]) hW0
  have cq : ∀ W, Below W0.heap.size W0 W → Calls Tryz.prog 155 #[.slice A ps.length c, .func (.func 156) #[] #[.pointer (some ⟨w.heap.size + 1, 0, none⟩)]] W fun e w' => e = .returned (.bool (ps.any fun p => !Pr.rightAt p (dp + 1))) ∧ Below W.heap.size W w' :=
    fun W h => pcontains_of d dp ih (w.heap.size + 1) _ ps W ((hu.below hb0 (Nat.le_refl _)).below h (Nat.le_refl _)) hdp ((l1.below h l1.lt).cell (i := 0) rfl)
  have ca := palone_any f ⟨f.k, 0, 0, Te.nil, Te.nil⟩ A none ps.length 0 c 0
  obtain ⟨r1, hr1⟩ : ∃ r, r = Pr.fsame f ⟨f.k, 0, 0, Te.nil, Te.nil⟩ := ⟨_, rfl⟩
  obtain ⟨r2, hr2⟩ : ∃ r, r = (ps.any fun p => !Pr.rightAt p (dp + 1)) := ⟨_, rfl⟩
  rw [← hr1] at ca ⊢
  rw [← hr2] at cq ⊢
  have HW := Lib.hid hW0
  have HP := Lib.hid l0.pd
  have HL := Lib.hid l0.lt
  obtain ⟨k0, k1, k2, k3, k4, k5, k6, k7, k8, k9, k10, k11, k12, k13⟩ := l0.pd
  clear hW0 l0 l1 ih hu hl hr1 hr2
  go_enter Tryz.func140, Tryz.ntmps140
  go_upto_region 1 with (fail)
  rw [← HW.out]
  go_wp2_with fail
  refine (ca _).mono ?_
  rintro e w2 ⟨rfl, hb2⟩
  clear ca k0 k1 k2 k3 k4 k5 k6 k7 k8 k9 k10 k11 k12 k13
  have k13 := (HP.out.below hb2 (show w.heap.size < W0.heap.size from HL.out)).c13
  cases r1
  · go_wp2_with fail
    go_ret
    exact ⟨rfl, below_join hb0 hb2⟩
  · go_wp2_with fail
    refine (cq _ hb2).mono ?_
    rintro e w3 ⟨rfl, hb3⟩
    clear k13
    go_wp2_with fail
    go_ret
    exact ⟨ret_bool (by simp), below_join hb0 (below_join hb2 hb3)⟩
end Go.Proofs.YtpaaibghfhnicaaGreatDoor

/-
  THE CONTRACT OF package pred's Right, whole.
-/
namespace Go.Proofs.YtpaaibghfhnicaaGreatDoor
open Go.RowKit Go.Sort
set_option maxHeartbeats 3200000

theorem ps_nil (d : Nat) (w : World) : PsAt d w (.slice none 0 0) [] := PsAt.mono (d := 0) ⟨rfl, none, 0, rfl⟩ (Nat.zero_le _)
theorem psame_bare (d : Nat) (f g : Pf) (A : Option Addr) (c : Nat) (ps : List Pd) {W0 : World} (hu : PsAt d W0 (.slice A ps.length c) ps) :
    ∀ W, Below W0.heap.size W0 W → Calls Tryz.prog 136 #[.agg #[.int .i64 f.k, .int .i64 f.u, .int .i64 f.o, .int .i64 f.a.k, .int .i64 f.a.t, .int .i64 f.a.c, .bool f.a.z, .int .i64 f.a.n, .int .i64 f.b.k, .int .i64 f.b.t, .int .i64 f.b.c, .bool f.b.z, .int .i64 f.b.n, .slice A ps.length c], .agg #[.int .i64 g.k, .int .i64 g.u, .int .i64 g.o, .int .i64 g.a.k, .int .i64 g.a.t, .int .i64 g.a.c, .bool g.a.z, .int .i64 g.a.n, .int .i64 g.b.k, .int .i64 g.b.t, .int .i64 g.b.c, .bool g.b.z, .int .i64 g.b.n, .slice none 0 0]] W fun e w' => e = .returned (.bool (Pr.same (.mk f ps) (.mk g []))) ∧ Below W.heap.size W w' :=
  fun W h => psame_any d f g _ _ ps [] W (hu.below h (Nat.le_refl _)) (ps_nil d W)
set_option maxRecDepth 100000 in
theorem pright_at (d : Nat) : ∀ (f : Pf) (u : Value) (ps : List Pd) (dp : Nat) (w : World), PsAt d w u ps → dp ≤ 1000 → Calls Tryz.prog 115 #[.agg #[.int .i64 f.k, .int .i64 f.u, .int .i64 f.o, .int .i64 f.a.k, .int .i64 f.a.t, .int .i64 f.a.c, .bool f.a.z, .int .i64 f.a.n, .int .i64 f.b.k, .int .i64 f.b.t, .int .i64 f.b.c, .bool f.b.z, .int .i64 f.b.n, u], .int .i64 (dp : Int)] w fun e w' => e = .returned (.bool (Pr.rightAt (.mk f ps) dp)) ∧ Below w.heap.size w w' := by
  induction d using Nat.strongRecOn with
  | ind d ih =>
  intro f u ps dp w hu hdp
  obtain ⟨A, c, rfl, hl⟩ := hu.form
  obtain ⟨W0, hW0⟩ : ∃ W0, W0 = w.alloc (Obj.cells #[.int .i64 f.k, .int .i64 f.u, .int .i64 f.o, .int .i64 f.a.k, .int .i64 f.a.t, .int .i64 f.a.c, .bool f.a.z, .int .i64 f.a.n, .int .i64 f.b.k, .int .i64 f.b.t, .int .i64 f.b.c, .bool f.b.z, .int .i64 f.b.n, .slice A ps.length c] 77) := ⟨_, rfl⟩
  obtain ⟨l0, p0, hb0⟩ := pd_box hW0
  have hu0 := hu.below hb0 (Nat.le_refl _)
  have HU := Lib.hid hu0
  have HW := Lib.hid hW0
  have HP := Lib.hid p0
  have HL := Lib.hid l0.lt
  have IH := Lib.hid ih
  by_cases h4 : dp ≤ 4
  rotate_left
  · rw [Pr.right_deep h4]
    have h5 : 4 < dp := by omega
    clear hu hu0 ih p0 l0 hW0
    go_enter Tryz.func115, Tryz.ntmps115
    go_upto_region 1 with (fail)
    rw [← HW.out]
    go_wp2_with fail
    go_ret
    exact ⟨rfl, hb0⟩
  by_cases k1 : f.k = 1
  · rw [Pr.right_1 k1 h4]
    have cs := psame_bare d f ⟨f.k, f.u, 0, Te.nil, Te.nil⟩ A c ps hu0 W0 (Below.refl _ _)
    have cr := lright_any f.u
    obtain ⟨r1, hr1⟩ : ∃ r, r = Pr.same (.mk f ps) (.mk ⟨f.k, f.u, 0, Te.nil, Te.nil⟩ []) := ⟨_, rfl⟩
    obtain ⟨r2, hr2⟩ : ∃ r, r = (f.u == 0 || f.u == 1 || f.u == 2) := ⟨_, rfl⟩
    rw [← hr1] at cs ⊢
    rw [← hr2] at cr ⊢
    have e1 : (f.k == 1) = true := by simpa using k1
    obtain ⟨x0, x1, x2, x3, x4, x5, x6, x7, x8, x9, x10, x11, x12, x13⟩ := p0
    clear hu hu0 ih l0 hW0 hr1 hr2 k1
    go_enter Tryz.func115, Tryz.ntmps115
    go_upto_region 1 with (fail)
    rw [← HW.out]
    go_wp2_with fail
    refine cs.mono ?_
    rintro e w2 ⟨rfl, hb2⟩
    clear cs x0 x1 x2 x3 x4 x5 x6 x7 x8 x9 x10 x11 x12 x13
    have x1 := (HP.out.below hb2 (show w.heap.size < W0.heap.size from HL.out)).c1
    cases r1
    · go_wp2_with fail
      go_ret
      exact ⟨rfl, below_join hb0 hb2⟩
    · go_wp2_with fail
      refine (cr _).mono ?_
      rintro e w3 ⟨rfl, rfl⟩
      clear x1 cr
      go_wp2_with fail
      go_ret
      exact ⟨ret_bool (by simp), below_join hb0 hb2⟩
  by_cases k2 : f.k = 2
  · rw [Pr.right_2 k2 h4]
    have cs := psame_bare d f ⟨f.k, 0, f.o, f.a, f.b⟩ A c ps hu0 W0 (Below.refl _ _)
    have cr := pcomp_any f.o
    have ca := tright_any f.a.k f.a.t f.a.c f.a.z f.a.n
    have cb := tright_any f.b.k f.b.t f.b.c f.b.z f.b.n
    obtain ⟨r1, hr1⟩ : ∃ r, r = Pr.same (.mk f ps) (.mk ⟨f.k, 0, f.o, f.a, f.b⟩ []) := ⟨_, rfl⟩
    obtain ⟨r2, hr2⟩ : ∃ r, r = (decide (1 ≤ f.o) && decide (f.o ≤ 6)) := ⟨_, rfl⟩
    obtain ⟨r3, hr3⟩ : ∃ r, r = Te.right ⟨f.a.k, f.a.t, f.a.c, f.a.z, f.a.n⟩ := ⟨_, rfl⟩
    obtain ⟨r4, hr4⟩ : ∃ r, r = Te.right ⟨f.b.k, f.b.t, f.b.c, f.b.z, f.b.n⟩ := ⟨_, rfl⟩
    have hr3' : Te.right f.a = r3 := hr3.symm
    have hr4' : Te.right f.b = r4 := hr4.symm
    rw [← hr1] at cs ⊢
    rw [← hr2] at cr ⊢
    rw [← hr3] at ca
    rw [← hr4] at cb
    rw [hr3', hr4']
    have e1 : (f.k == 1) = false := by simp; omega
    have e2 : (f.k == 2) = true := by simpa using k2
    obtain ⟨x0, x1, x2, x3, x4, x5, x6, x7, x8, x9, x10, x11, x12, x13⟩ := p0
    clear hu hu0 ih l0 hW0 hr1 hr2 hr3 hr4 hr3' hr4' k1 k2
    go_enter Tryz.func115, Tryz.ntmps115
    go_upto_region 1 with (fail)
    rw [← HW.out]
    go_wp2_with fail
    refine cs.mono ?_
    rintro e w2 ⟨rfl, hb2⟩
    clear cs x0 x1 x2 x3 x4 x5 x6 x7 x8 x9 x10 x11 x12 x13
    obtain ⟨x0, x1, x2, x3, x4, x5, x6, x7, x8, x9, x10, x11, x12, x13⟩ := HP.out.below hb2 (show w.heap.size < W0.heap.size from HL.out)
    cases r1
    · go_wp2_with fail
      go_ret
      exact ⟨rfl, below_join hb0 hb2⟩
    cases r2
    · go_wp2_with (first | (with_reducible refine (cr _).mono ?_; rintro e w3 ⟨rfl, rfl⟩))
      go_ret
      exact ⟨rfl, below_join hb0 hb2⟩
    cases r3
    · go_wp2_with (first | (with_reducible refine (cr _).mono ?_; rintro e w3 ⟨rfl, rfl⟩) | (with_reducible refine (ca _).mono ?_; rintro e w4 ⟨rfl, hb3⟩))
      go_ret
      exact ⟨rfl, below_join hb0 (below_join hb2 hb3)⟩
    go_wp2_with (first | (with_reducible refine (cr _).mono ?_; rintro e w3 ⟨rfl, rfl⟩))
    refine (ca _).mono ?_
    rintro e w4 ⟨rfl, hb3⟩
    clear x0 x1 x2 x3 x4 x5 x6 x7 x8 x9 x10 x11 x12 x13
    have hb4 := below_join hb2 hb3
    obtain ⟨x0, x1, x2, x3, x4, x5, x6, x7, x8, x9, x10, x11, x12, x13⟩ := HP.out.below hb4 (show w.heap.size < W0.heap.size from HL.out)
    clear hb3
    go_wp2_with fail
    refine (cb _).mono ?_
    rintro e w5 ⟨rfl, hb5⟩
    clear x0 x1 x2 x3 x4 x5 x6 x7 x8 x9 x10 x11 x12 x13 cr ca cb
    go_wp2_with fail
    go_ret
    exact ⟨ret_bool (by simp), below_join hb0 (below_join hb4 hb5)⟩
  by_cases k3 : f.k = 3
  · rw [Pr.right_3 k3 h4]
    have cs := psame_bare d f ⟨f.k, 0, 0, f.a, Te.nil⟩ A c ps hu0 W0 (Below.refl _ _)
    have ca := tright_any f.a.k f.a.t f.a.c f.a.z f.a.n
    obtain ⟨r1, hr1⟩ : ∃ r, r = Pr.same (.mk f ps) (.mk ⟨f.k, 0, 0, f.a, Te.nil⟩ []) := ⟨_, rfl⟩
    obtain ⟨r3, hr3⟩ : ∃ r, r = Te.right ⟨f.a.k, f.a.t, f.a.c, f.a.z, f.a.n⟩ := ⟨_, rfl⟩
    have hr3' : Te.right f.a = r3 := hr3.symm
    rw [← hr1] at cs ⊢
    rw [← hr3] at ca
    rw [hr3']
    have e1 : (f.k == 1) = false := by simp; omega
    have e2 : (f.k == 2) = false := by simp; omega
    have e3 : (f.k == 3) = true := by simpa using k3
    obtain ⟨x0, x1, x2, x3, x4, x5, x6, x7, x8, x9, x10, x11, x12, x13⟩ := p0
    clear hu hu0 ih l0 hW0 hr1 hr3 hr3' k1 k2 k3
    go_enter Tryz.func115, Tryz.ntmps115
    go_upto_region 1 with (fail)
    rw [← HW.out]
    go_wp2_with fail
    refine cs.mono ?_
    rintro e w2 ⟨rfl, hb2⟩
    clear cs x0 x1 x2 x3 x4 x5 x6 x7 x8 x9 x10 x11 x12 x13
    obtain ⟨x0, x1, x2, x3, x4, x5, x6, x7, x8, x9, x10, x11, x12, x13⟩ := HP.out.below hb2 (show w.heap.size < W0.heap.size from HL.out)
    cases r1
    · go_wp2_with fail
      go_ret
      exact ⟨rfl, below_join hb0 hb2⟩
    go_wp2_with fail
    refine (ca _).mono ?_
    rintro e w4 ⟨rfl, hb3⟩
    clear x0 x1 x2 x3 x4 x5 x6 x7 x8 x9 x10 x11 x12 x13
    go_wp2_with fail
    go_ret
    exact ⟨ret_bool (by simp), below_join hb0 (below_join hb2 hb3)⟩
  have e1 : (f.k == 1) = false := by simp; omega
  have e2 : (f.k == 2) = false := by simp; omega
  have e3 : (f.k == 3) = false := by simp; omega
  have cj := pjoins_of d dp ih f (.slice A ps.length c) ps W0 hu0 (by omega)
  obtain ⟨rj, hrj⟩ : ∃ r, r = (Pr.fsame f ⟨f.k, 0, 0, Te.nil, Te.nil⟩ && Pr.rightAts ps (dp + 1)) := ⟨_, rfl⟩
  rw [← hrj] at cj
  have HJ := Lib.hid hrj
  by_cases k45 : f.k = 4 ∨ f.k = 5
  · rw [Pr.right_45 k45 h4, ← HJ.out]
    have HK := Lib.hid k45
    obtain ⟨x0, x1, x2, x3, x4, x5, x6, x7, x8, x9, x10, x11, x12, x13⟩ := p0
    obtain ⟨n, hn⟩ : ∃ n, n = ps.length := ⟨_, rfl⟩
    rw [← hn] at cj x13 hl HW HP HU ⊢
    by_cases hn4 : n ≤ 4
    · have e6 : decide (n ≤ 4) = true := by simpa using hn4
      rw [e6, Bool.true_and]
      clear hu hu0 ih l0 hW0 hrj k1 k2 k3 hn k45 e6
      rcases HK.out with k | k
      · have e4 : (f.k == 4) = true := by simpa using k
        clear k
        go_enter Tryz.func115, Tryz.ntmps115
        go_upto_region 1 with (fail)
        rw [← HW.out]
        go_wp2_with fail
        refine cj.mono ?_
        rintro e w4 ⟨rfl, hb3⟩
        clear cj x0 x1 x2 x3 x4 x5 x6 x7 x8 x9 x10 x11 x12 x13
        go_wp2_with fail
        go_ret
        exact ⟨ret_bool (by simp), below_join hb0 hb3⟩
      · have e5 : (f.k == 5) = true := by simpa using k
        have e4 : (f.k == 4) = false := by simp; omega
        clear k
        go_enter Tryz.func115, Tryz.ntmps115
        go_upto_region 1 with (fail)
        rw [← HW.out]
        go_wp2_with fail
        refine cj.mono ?_
        rintro e w4 ⟨rfl, hb3⟩
        clear cj x0 x1 x2 x3 x4 x5 x6 x7 x8 x9 x10 x11 x12 x13
        go_wp2_with fail
        go_ret
        exact ⟨ret_bool (by simp), below_join hb0 hb3⟩
    · have e6 : decide (n ≤ 4) = false := by simpa using hn4
      have e7 : decide ((n : Int) ≤ 4) = false := by simp; omega
      rw [e6, Bool.false_and]
      clear hu hu0 ih l0 hW0 hrj k1 k2 k3 hn k45 cj
      rcases HK.out with k | k
      · have e4 : (f.k == 4) = true := by simpa using k
        clear k
        go_enter Tryz.func115, Tryz.ntmps115
        go_upto_region 1 with (fail)
        rw [← HW.out]
        go_wp2_with fail
        go_ret
        exact ⟨rfl, hb0⟩
      · have e5 : (f.k == 5) = true := by simpa using k
        have e4 : (f.k == 4) = false := by simp; omega
        clear k
        go_enter Tryz.func115, Tryz.ntmps115
        go_upto_region 1 with (fail)
        rw [← HW.out]
        go_wp2_with fail
        go_ret
        exact ⟨rfl, hb0⟩
  have e4 : (f.k == 4) = false := by simp; omega
  have e5 : (f.k == 5) = false := by simp; omega
  by_cases k6 : f.k = 6
  · rw [Pr.right_6 k6 h4, ← HJ.out]
    have e6 : (f.k == 6) = true := by simpa using k6
    obtain ⟨x0, x1, x2, x3, x4, x5, x6, x7, x8, x9, x10, x11, x12, x13⟩ := p0
    obtain ⟨n, hn⟩ : ∃ n, n = ps.length := ⟨_, rfl⟩
    rw [← hn] at cj x13 hl HW HP HU ⊢
    by_cases hn1 : n = 1
    · subst hn1
      clear hu hu0 ih l0 hW0 hrj k1 k2 k3 k45 k6 hn
      go_enter Tryz.func115, Tryz.ntmps115
      go_upto_region 1 with (fail)
      rw [← HW.out]
      go_wp2_with fail
      refine cj.mono ?_
      rintro e w4 ⟨rfl, hb3⟩
      clear cj x0 x1 x2 x3 x4 x5 x6 x7 x8 x9 x10 x11 x12 x13
      go_wp2_with fail
      go_ret
      exact ⟨ret_bool (by simp), below_join hb0 hb3⟩
    · have e7 : (n == 1) = false := by simpa using hn1
      have e8 : ((n : Int) == 1) = false := by simp; omega
      rw [e7, Bool.false_and]
      clear hu hu0 ih l0 hW0 hrj k1 k2 k3 k45 k6 hn cj
      go_enter Tryz.func115, Tryz.ntmps115
      go_upto_region 1 with (fail)
      rw [← HW.out]
      go_wp2_with fail
      go_ret
      exact ⟨rfl, hb0⟩
  rw [Pr.right_no (by omega)]
  have e6 : (f.k == 6) = false := by simp; omega
  obtain ⟨x0, x1, x2, x3, x4, x5, x6, x7, x8, x9, x10, x11, x12, x13⟩ := p0
  clear hu hu0 ih l0 hW0 hrj k1 k2 k3 k45 k6 cj
  go_enter Tryz.func115, Tryz.ntmps115
  go_upto_region 1 with (fail)
  rw [← HW.out]
  go_wp2_with fail
  go_ret
  exact ⟨rfl, hb0⟩
theorem pright_any (d : Nat) (f : Pf) (u : Value) (ps : List Pd) (w : World) (hu : PsAt d w u ps) :
    Calls Tryz.prog 95 #[.agg #[.int .i64 f.k, .int .i64 f.u, .int .i64 f.o, .int .i64 f.a.k, .int .i64 f.a.t, .int .i64 f.a.c, .bool f.a.z, .int .i64 f.a.n, .int .i64 f.b.k, .int .i64 f.b.t, .int .i64 f.b.c, .bool f.b.z, .int .i64 f.b.n, u]] w fun e w' => e = .returned (.bool (Pr.rightAt (.mk f ps) 1)) ∧ Below w.heap.size w w' := by
  obtain ⟨A, c, rfl, hl⟩ := hu.form
  obtain ⟨W0, hW0⟩ : ∃ W0, W0 = w.alloc (Obj.cells #[.int .i64 f.k, .int .i64 f.u, .int .i64 f.o, .int .i64 f.a.k, .int .i64 f.a.t, .int .i64 f.a.c, .bool f.a.z, .int .i64 f.a.n, .int .i64 f.b.k, .int .i64 f.b.t, .int .i64 f.b.c, .bool f.b.z, .int .i64 f.b.n, .slice A ps.length c] 77) := ⟨_, rfl⟩
  obtain ⟨l0, p0, hb0⟩ := pd_box hW0
  have cs := pright_at d f _ ps 1 W0 (hu.below hb0 (Nat.le_refl _)) (by omega)
  have HW := Lib.hid hW0
  obtain ⟨x0, x1, x2, x3, x4, x5, x6, x7, x8, x9, x10, x11, x12, x13⟩ := p0
  clear hu hW0 l0
  go_enter Tryz.func95, Tryz.ntmps95
  go_upto_region 1 with (fail)
  rw [← HW.out]
  go_wp2_with fail
  refine cs.mono ?_
  rintro e w2 ⟨rfl, hb2⟩
  clear cs x0 x1 x2 x3 x4 x5 x6 x7 x8 x9 x10 x11 x12 x13
  go_wp2_with fail
  go_ret
  exact ⟨rfl, below_join hb0 hb2⟩
end Go.Proofs.YtpaaibghfhnicaaGreatDoor

/-
  THE CONTRACT OF package pred's Tables: the closure; what is gathered of a predicate and its parts.
-/
namespace Go.Proofs.YtpaaibghfhnicaaGreatDoor
open Go.RowKit Go.Sort
set_option maxHeartbeats 3200000

theorem ptab1_any (s : Nat) (k t c : Int) (z : Bool) (n : Int) (w : World) (hs : s < 18446744073709551616) :
    Calls Tryz.prog 119 #[.int .u64 (s : Int), .agg #[.int .i64 k, .int .i64 t, .int .i64 c, .bool z, .int .i64 n]] w fun e w' => e = .returned (.int .u64 ((s ||| Te.tables ⟨k, t, c, z, n⟩ : Nat) : Int)) ∧ Below w.heap.size w w' := by
  obtain ⟨W0, hW0⟩ : ∃ W0, W0 = w.alloc (Obj.cells #[.int .i64 k, .int .i64 t, .int .i64 c, .bool z, .int .i64 n] 75) := ⟨_, rfl⟩
  obtain ⟨l0, hb0⟩ := box_one (cs := [.int .i64 k, .int .i64 t, .int .i64 c, .bool z, .int .i64 n]) hW0
  have cs := ttables_any k t c z n W0
  have ho := u64_or_nat s (Te.tables ⟨k, t, c, z, n⟩) hs (te_tables_lt _)
  generalize Te.tables ⟨k, t, c, z, n⟩ = m at cs ho ⊢
  have HO := Lib.hid ho
  have HW := Lib.hid hW0
  have z0 := l0.cell (i := 0) rfl
  have z1 := l0.cell (i := 1) rfl
  have z2 := l0.cell (i := 2) rfl
  have z3 := l0.cell (i := 3) rfl
  have z4 := l0.cell (i := 4) rfl
  clear hW0 l0 ho hs
  go_enter Tryz.func119, Tryz.ntmps119
  go_upto_region 1 with (fail)
  rw [← HW.out]
  go_wp2_with fail
  refine cs.mono ?_
  rintro e w2 ⟨rfl, hb2⟩
  clear cs z0 z1 z2 z3 z4
  go_wp2_with fail
  go_ret
  exact ⟨ret_int HO.out, below_join hb0 hb2⟩
set_option maxRecDepth 100000 in
theorem pgtab_any (d : Nat) : ∀ (f : Pf) (u : Value) (ps : List Pd) (s0 : Nat) (w : World), PsAt d w u ps → s0 < 18446744073709551616 →
    Calls Tryz.prog 118 #[.agg #[.int .i64 f.k, .int .i64 f.u, .int .i64 f.o, .int .i64 f.a.k, .int .i64 f.a.t, .int .i64 f.a.c, .bool f.a.z, .int .i64 f.a.n, .int .i64 f.b.k, .int .i64 f.b.t, .int .i64 f.b.c, .bool f.b.z, .int .i64 f.b.n, u], .int .u64 (s0 : Int), .func (.func 119) #[] #[]] w
      fun e w' => e = .returned (.int .u64 ((s0 ||| Pr.tables (.mk f ps) : Nat) : Int)) ∧ Below w.heap.size w w' := by
  induction d using Nat.strongRecOn with
  | ind d ih =>
  intro f u ps s0 w hu hs0
  obtain ⟨A, c, rfl, hl⟩ := hu.form
  obtain ⟨W0, hW0⟩ : ∃ W0, W0 = w.alloc (Obj.cells #[.int .i64 f.k, .int .i64 f.u, .int .i64 f.o, .int .i64 f.a.k, .int .i64 f.a.t, .int .i64 f.a.c, .bool f.a.z, .int .i64 f.a.n, .int .i64 f.b.k, .int .i64 f.b.t, .int .i64 f.b.c, .bool f.b.z, .int .i64 f.b.n, .slice A ps.length c] 77) := ⟨_, rfl⟩
  obtain ⟨l0, p0, hb0⟩ := pd_box hW0
  have HU := Lib.hid (hu.below hb0 (Nat.le_refl _))
  have HW := Lib.hid hW0
  have IH := Lib.hid ih
  have HP := Lib.hid p0
  have HL := Lib.hid l0.lt
  obtain ⟨ta, hta⟩ : ∃ ta, ta = s0 ||| Te.tables f.a := ⟨_, rfl⟩
  obtain ⟨tb, htb⟩ : ∃ tb, tb = ta ||| Te.tables f.b := ⟨_, rfl⟩
  have hta1 : ta < 18446744073709551616 := by rw [hta]; exact or_lt hs0 (te_tables_lt _)
  have htb1 : tb < 18446744073709551616 := by rw [htb]; exact or_lt hta1 (te_tables_lt _)
  have c1 := in_class (W0 := W0) fun W _ => ptab1_any s0 f.a.k f.a.t f.a.c f.a.z f.a.n W hs0
  have c2 := in_class (W0 := W0) fun W _ => ptab1_any ta f.b.k f.b.t f.b.c f.b.z f.b.n W hta1
  have e1 : Te.tables ⟨f.a.k, f.a.t, f.a.c, f.a.z, f.a.n⟩ = Te.tables f.a := rfl
  have e2 : Te.tables ⟨f.b.k, f.b.t, f.b.c, f.b.z, f.b.n⟩ = Te.tables f.b := rfl
  rw [e1, ← hta] at c1
  rw [e2, ← htb] at c2
  have hTB : tb = s0 ||| (Te.tables f.a ||| Te.tables f.b) := by rw [htb, hta, Nat.or_assoc]
  have HT := Lib.hid hTB
  have HT1 := Lib.hid htb1
  have hT : Pr.tables (.mk f ps) = (Te.tables f.a ||| Te.tables f.b) ||| Pr.tabless ps := Pr.tables_at (.mk f ps)
  have HR := Lib.hid (show s0 ||| Pr.tables (.mk f ps) = tb ||| Pr.tabless ps by rw [hT, hTB]; simp only [Nat.or_assoc])
  have d3 := cell_regrown p0.c3
  have d4 := cell_regrown p0.c4
  have d5 := cell_regrown p0.c5
  have d6 := cell_regrown p0.c6
  have d7 := cell_regrown p0.c7
  have d8 := cell_regrown p0.c8
  have d9 := cell_regrown p0.c9
  have d10 := cell_regrown p0.c10
  have d11 := cell_regrown p0.c11
  have d12 := cell_regrown p0.c12
  clear hW0 ih hu l0 p0 hta htb e1 e2 hTB hta1 htb1 hT hs0
  go_enter Tryz.func118, Tryz.ntmps118
  go_wp2_with fail
  rw [← HW.out]
  refine wp_region_quiet_below (by kernel_rfl) (by kernel_rfl) ?_
  repeat (go_big_quiet_step (with_reducible first | exact c1 _ _ | exact c2 _ _))
  refine wpQuiet_nil ?_
  intro _ hw'
  obtain ⟨⟨dq, osq⟩, hw''⟩ := hw'
  subst hw''
  have hb1 : Below W0.heap.size W0 (grow (redrawn W0 dq) osq) := below_regrown _ _ _
  clear d3 d4 d5 d6 d7 d8 d9 d10 d11 d12 c1 c2
  generalize grow (redrawn W0 dq) osq = w1 at hb1 ⊢
  have k13 := (HP.out.below hb1 (show w.heap.size < W0.heap.size from HL.out)).c13
  obtain ⟨n, hn⟩ : ∃ n, n = ps.length := ⟨_, rfl⟩
  rw [← hn] at hl HU k13 ⊢
  have HN := Lib.hid hn
  clear hn
  go_wp2_with fail
  clear k13
  go_loopw [1, 21] (fun s i wr => ∃ q sv : Nat, q ≤ n ∧ i = .int .i64 q ∧ s = .int .u64 sv ∧ Hid (sv = tb ||| Pr.tabless (ps.take q)) ∧ Below W0.heap.size W0 wr) (fun _ i _ => n - (intOf i).toNat)
  case atStart => exact ⟨0, tb, Nat.zero_le _, rfl, rfl, Lib.hid (by rw [List.take_zero, Pr.tabless, Nat.or_zero]), hb1⟩
  case round =>
    obtain ⟨q, sv, hq, rfl, rfl, hsv, hb⟩ := hrel
    by_cases hlt : q < n
    · obtain ⟨p, gp⟩ : ∃ p, ps[q]? = some p := ⟨ps[q]'(by have := HN.out; omega), List.getElem?_eq_getElem _⟩
      have hu := HU.out
      rw [HN.out] at hu
      obtain ⟨e, b, o, s, v, he, rfl, _, hx⟩ := hu.at_ gp
      obtain ⟨hcell, hps⟩ := hx wr hb
      obtain ⟨A2, c2, rfl, _⟩ := hps.form
      have hb3 : Below W0.heap.size W0 (wr.alloc (Obj.cells #[.int .i64 p.f.k, .int .i64 p.f.u, .int .i64 p.f.o, .int .i64 p.f.a.k, .int .i64 p.f.a.t, .int .i64 p.f.a.c, .bool p.f.a.z, .int .i64 p.f.a.n, .int .i64 p.f.b.k, .int .i64 p.f.b.t, .int .i64 p.f.b.c, .bool p.f.b.z, .int .i64 p.f.b.n, .slice A2 p.ps.length c2] 77)) := below_join hb (below_new _ _)
      have hsl : sv < 18446744073709551616 := by rw [hsv.out]; exact or_lt HT1.out (tabless_lt _)
      have cs := IH.out e he p.f _ p.ps sv _ ((hx _ hb3).2) hsl
      have ht : ps.take (q + 1) = ps.take q ++ [p] := by rw [List.take_add_one, gp]; rfl
      have hpe : Pd.mk p.f p.ps = p := by cases p; rfl
      rw [hpe] at cs
      have H3 := Lib.hid (show sv ||| Pr.tables p = tb ||| Pr.tabless (ps.take (q + 1)) by rw [ht, Pr.tabless_snoc, hsv.out, Nat.or_assoc])
      obtain ⟨x0, x1, x2, x3, x4, x5, x6, x7, x8, x9, x10, x11, x12, x13⟩ := hcell
      clear gp hx hps ht hpe hsl hu
      go_wp2_with fail
      refine cs.mono ?_
      rintro e w2 ⟨rfl, hb2⟩
      have hb' := below_join hb3 hb2
      clear cs x0 x1 x2 x3 x4 x5 x6 x7 x8 x9 x10 x11 x12 x13 hb3 hb2
      go_wp2_with fail
      go_roundw
      case rel => exact ⟨q + 1, _, by omega, by go_num, rfl, H3, hb'⟩
      case measure => simp [intOf]; omega
    · have he : Hid (sv = s0 ||| Pr.tables (.mk f ps)) := Lib.hid (by rw [HR.out, hsv.out, List.take_of_length_le (by have := HN.out; omega)])
      go_wp2_with fail
      go_ret
      exact ⟨ret_int (by rw [he.out]), below_join hb0 hb⟩
theorem ptables_any (d : Nat) (f : Pf) (u : Value) (ps : List Pd) (w : World) (hu : PsAt d w u ps) :
    Calls Tryz.prog 98 #[.agg #[.int .i64 f.k, .int .i64 f.u, .int .i64 f.o, .int .i64 f.a.k, .int .i64 f.a.t, .int .i64 f.a.c, .bool f.a.z, .int .i64 f.a.n, .int .i64 f.b.k, .int .i64 f.b.t, .int .i64 f.b.c, .bool f.b.z, .int .i64 f.b.n, u]] w fun e w' => e = .returned (.int .u64 (Pr.tables (.mk f ps) : Nat)) ∧ Below w.heap.size w w' := by
  obtain ⟨A, c, rfl, hl⟩ := hu.form
  obtain ⟨W0, hW0⟩ : ∃ W0, W0 = w.alloc (Obj.cells #[.int .i64 f.k, .int .i64 f.u, .int .i64 f.o, .int .i64 f.a.k, .int .i64 f.a.t, .int .i64 f.a.c, .bool f.a.z, .int .i64 f.a.n, .int .i64 f.b.k, .int .i64 f.b.t, .int .i64 f.b.c, .bool f.b.z, .int .i64 f.b.n, .slice A ps.length c] 77) := ⟨_, rfl⟩
  obtain ⟨l0, p0, hb0⟩ := pd_box hW0
  have cs := pgtab_any d f _ ps 0 W0 (hu.below hb0 (Nat.le_refl _)) (by decide)
  rw [Nat.zero_or] at cs
  have HW := Lib.hid hW0
  obtain ⟨x0, x1, x2, x3, x4, x5, x6, x7, x8, x9, x10, x11, x12, x13⟩ := p0
  clear hu hW0 l0
  go_enter Tryz.func98, Tryz.ntmps98
  go_upto_region 1 with (fail)
  rw [← HW.out]
  go_wp2_with fail
  refine cs.mono ?_
  rintro e w2 ⟨rfl, hb2⟩
  clear cs x0 x1 x2 x3 x4 x5 x6 x7 x8 x9 x10 x11 x12 x13
  go_wp2_with fail
  go_ret
  exact ⟨rfl, below_join hb0 hb2⟩
end Go.Proofs.YtpaaibghfhnicaaGreatDoor

/-
  THE CONTRACT OF package pred's Columns: one row of one's own, handed all the way through; what is kept beside it.
-/
namespace Go.Proofs.YtpaaibghfhnicaaGreatDoor
open Go.RowKit Go.Sort
set_option maxHeartbeats 3200000

theorem own_some {w w' : World} {l : List (Int × Int)} {e : Ending} (h : OwnPairs w l e w') (hl : l.length ≤ 1000000) : SomePairs w l e w' := by
  obtain ⟨v, rfl, hown, hb⟩ := h
  refine ⟨v, rfl, ?_, hb⟩
  rcases hown.2 with ⟨rfl, hn⟩ | ⟨g, cap, cur, rfl, _, hg, _⟩
  · refine ⟨none, 0, by rw [hn], hl, fun j x hj => ?_⟩
    rw [List.eq_nil_of_length_eq_zero hn] at hj
    simp at hj
  · refine ⟨some ⟨g, 0, none⟩, cap, rfl, hl, fun j x hj => ⟨g, 0, none, rfl, (Array.getElem?_eq_some_iff.1 hg).1, ?_⟩⟩
    have hc := hown.cells (g := g) rfl
    have key : ∀ (l : List (Int × Int)) (j : Nat) (x : Int × Int), l[j]? = some x → (pairCells l)[j * 2]? = some (.int .i64 x.1) ∧ (pairCells l)[j * 2 + 1]? = some (.int .i64 x.2) := by
      intro l
      induction l with
      | nil => intro j x h; simp at h
      | cons y r ih =>
        intro j x h
        cases j with
        | zero => simp at h; subst h; exact ⟨rfl, rfl⟩
        | succ j =>
          obtain ⟨h1, h2⟩ := ih j x (by simpa using h)
          have e : pairCells (y :: r) = .int .i64 y.1 :: .int .i64 y.2 :: pairCells r := rfl
          rw [e, show (j + 1) * 2 = j * 2 + 2 by omega, show j * 2 + 2 + 1 = j * 2 + 1 + 2 by omega]
          exact ⟨by simpa using h1, by simpa using h2⟩
    obtain ⟨h1, h2⟩ := key l j x hj
    refine ⟨hc _ _ h1, ?_⟩
    rw [add_next]
    exact hc _ _ h2
theorem Pr.colss_app (l m : List Pd) : Pr.colss (l ++ m) = Pr.colss l ++ Pr.colss m := by
  induction l with
  | nil => rw [List.nil_append, Pr.colss, List.nil_append]
  | cons p r ih => rw [List.cons_append, Pr.colss, ih, Pr.colss, List.append_assoc]
structure Step (base : Nat) (a w : World) : Prop where
  below : Below base a w
  spare : ∀ g t cs, Lies a g t cs → t ≠ 105 → Lies w g t cs
theorem Step.refl (base : Nat) (a : World) : Step base a a := ⟨Below.refl _ _, fun _ _ _ h _ => h⟩
theorem Step.trans {base : Nat} {a b c : World} (h : Step base a b) (k : Step base b c) : Step base a c := ⟨h.below.trans k.below, fun g t cs l hne => k.spare g t cs (h.spare g t cs l hne) hne⟩
theorem Step.drew {base : Nat} {a w : World} (h : Step base a w) : Step base a w.drew := ⟨h.below.drew, fun g t cs l hne => h.spare g t cs l hne⟩
theorem Step.alloc {base : Nat} {a w : World} (h : Step base a w) (hB : base ≤ w.heap.size) (o : Obj) : Step base a (w.alloc o) := ⟨h.below.alloc hB o, fun g t cs l hne => (h.spare g t cs l hne).alloc o⟩
theorem Step.grown {base s n : Nat} {a w w' : World} {v : Value} {xs : List Value} (h : Step base a w) (hB : base ≤ w.heap.size) (ho : w.ownsRow base 105 s v n xs) (hg : w.grownBy w' v.ownBlock) : Step base a w' := by
  refine ⟨h.below.grown hg hB (fun k hk => (ho.lt k hk).1), fun g t cs l hne => ?_⟩
  have l2 := h.spare g t cs l hne
  refine (hg.block g l2.lt ?_).trans l2
  intro hk
  rcases ho.2 with ⟨hv, _⟩ | ⟨g', cap, cur, hv, _, hh, _⟩
  · rw [hv] at hk; simp [Value.ownBlock] at hk
  · rw [hv] at hk
    obtain rfl : g = g' := by simpa [Value.ownBlock] using hk
    unfold Lies at l2
    rw [l2] at hh
    injection hh with hh
    injection hh with _ ht
    exact hne ht
theorem keepG {base : Nat} {W0 W : World} {g : Nat} {f : Pf} {u : Value} (h : Lies W0 g 77 (f.cells u)) (hs : Step base W0 W) : (W.cell? ⟨g, 3, none⟩ = some (.int .i64 f.a.k) ∧ W.cell? ⟨g, 4, none⟩ = some (.int .i64 f.a.t) ∧ W.cell? ⟨g, 5, none⟩ = some (.int .i64 f.a.c) ∧ W.cell? ⟨g, 6, none⟩ = some (.bool f.a.z) ∧ W.cell? ⟨g, 7, none⟩ = some (.int .i64 f.a.n) ∧ W.cell? ⟨g, 8, none⟩ = some (.int .i64 f.b.k) ∧ W.cell? ⟨g, 9, none⟩ = some (.int .i64 f.b.t) ∧ W.cell? ⟨g, 10, none⟩ = some (.int .i64 f.b.c) ∧ W.cell? ⟨g, 11, none⟩ = some (.bool f.b.z) ∧ W.cell? ⟨g, 12, none⟩ = some (.int .i64 f.b.n)) ∧ Step base W0 W := by
  have p := (hs.spare g _ _ h (by decide)).pd
  exact ⟨⟨p.c3, p.c4, p.c5, p.c6, p.c7, p.c8, p.c9, p.c10, p.c11, p.c12⟩, hs⟩
theorem pcol1_any (base : Nat) (v : Value) (N : Nat) (xs : List Value) (k t c : Int) (z : Bool) (n : Int) (w : World) (hown : w.ownsRow base 105 2 v N xs) (hB : base ≤ w.heap.size) (hN : N ≤ 5000) :
    Calls Tryz.prog 117 #[v, .agg #[.int .i64 k, .int .i64 t, .int .i64 c, .bool z, .int .i64 n]] w fun e w' => ∃ v', e = .returned v' ∧ w'.ownsRow base 105 2 v' (N + (Te.cols ⟨k, t, c, z, n⟩).length) (xs ++ pairCells (Te.cols ⟨k, t, c, z, n⟩)) ∧ Step base w w' := by
  obtain ⟨i0, hi, hz0, hz1, hz2⟩ := info_parts Tryz.infoPair
  obtain ⟨W0, hW0⟩ : ∃ W0, W0 = w.alloc (Obj.cells #[.int .i64 k, .int .i64 t, .int .i64 c, .bool z, .int .i64 n] 75) := ⟨_, rfl⟩
  obtain ⟨l0, hb0⟩ := box_one (cs := [.int .i64 k, .int .i64 t, .int .i64 c, .bool z, .int .i64 n]) hW0
  have hs0 : Step base w W0 := by rw [hW0]; exact (Step.refl base w).alloc hB _
  have hown0 : W0.ownsRow base 105 2 v N xs := by rw [hW0]; exact hown.alloc _
  have hB0 : base ≤ W0.heap.size := by rw [hW0, World.size_alloc]; omega
  have HW := Lib.hid hW0
  have z0 := l0.cell (i := 0) rfl
  have z1 := l0.cell (i := 1) rfl
  have z2 := l0.cell (i := 2) rfl
  clear hW0 l0 hb0 hown hB
  by_cases hk : k = 1
  · have e1 : (k != 1) = false := by simp [hk]
    have hL : Te.cols ⟨k, t, c, z, n⟩ = [(t, c)] := if_pos hk
    rw [hL]
    have hcm := Lib.hid (show CameN (W0.alloc (Obj.cells #[.int .i64 t, .int .i64 c] 105)) 2 (.slice (some ⟨W0.heap.size, 0, none⟩) 1 1) 1 [.int .i64 t, .int .i64 c] from CameN.new W0 105 2 1 [.int .i64 t, .int .i64 c] _ rfl rfl)
    have hone := Lib.hid (show ∀ u ∈ ([.int .i64 t, .int .i64 c] : List Value), u.oneCell' = true from pairCells_one [(t, c)])
    have h63 := Lib.hid (show N + 1 ≤ maxLen by unfold maxLen; omega)
    have hby := Lib.hid (show (N + 1) * 16 ≤ 140737488355328 by omega)
    have hbs := Lib.hid (show base ≤ (W0.alloc (Obj.cells #[.int .i64 t, .int .i64 c] 105)).heap.size by rw [World.size_alloc]; omega)
    have hoa := Lib.hid (hown0.alloc (Obj.cells #[.int .i64 t, .int .i64 c] 105))
    have hsa := Lib.hid (hs0.alloc hB0 (Obj.cells #[.int .i64 t, .int .i64 c] 105))
    clear hk hL hs0 hown0
    go_enter Tryz.func117, Tryz.ntmps117
    go_upto_region 1 with (fail)
    rw [← HW.out]
    go_wp2_with (first
      | (at_builtin; refine wpList_append_n _ rfl _ _ 103 rfl base 105 i0 (.agg #[.int .i64 0, .int .i64 0]) 2 16 Tryz.underlying103 hi hz0 hz1 hz2 rfl (by decide) _ N _ rfl hoa.out _ 1 [.int .i64 t, .int .i64 c] rfl hcm.out hone.out h63.out hby.out hbs.out ?_))
    intro v1 w1 hown1 hgrow
    have hs1 := hsa.out.grown hbs.out hoa.out hgrow
    clear z0 z1 z2 hgrow
    go_wp2_with fail
    go_ret
    exact ⟨v1, rfl, hown1, hs1⟩
  · have e1 : (k != 1) = true := by simpa using hk
    have hL : Te.cols ⟨k, t, c, z, n⟩ = [] := if_neg hk
    rw [hL]
    clear hk hL
    go_enter Tryz.func117, Tryz.ntmps117
    go_upto_region 1 with (fail)
    rw [← HW.out]
    go_wp2_with fail
    go_ret
    exact ⟨v, rfl, by simpa [pairCells] using hown0, hs0⟩
set_option maxRecDepth 100000 in
theorem pgcol_any (d : Nat) : ∀ (f : Pf) (u : Value) (ps : List Pd) (w0 w : World) (v0 : Value) (N : Nat) (xs : List Value), PsAt d w0 u ps → Step w0.heap.size w0 w → w.ownsRow w0.heap.size 105 2 v0 N xs → N + (Pr.cols (.mk f ps)).length ≤ 5000 →
    Calls Tryz.prog 116 #[.agg #[.int .i64 f.k, .int .i64 f.u, .int .i64 f.o, .int .i64 f.a.k, .int .i64 f.a.t, .int .i64 f.a.c, .bool f.a.z, .int .i64 f.a.n, .int .i64 f.b.k, .int .i64 f.b.t, .int .i64 f.b.c, .bool f.b.z, .int .i64 f.b.n, u], v0, .func (.func 117) #[] #[]] w
      fun e w' => ∃ v', e = .returned v' ∧ w'.ownsRow w0.heap.size 105 2 v' (N + (Pr.cols (.mk f ps)).length) (xs ++ pairCells (Pr.cols (.mk f ps))) ∧ Step w0.heap.size w w' := by
  induction d using Nat.strongRecOn with
  | ind d ih =>
  intro f u ps w0 w v0 N xs hu hs0 hown hN
  obtain ⟨A, c, rfl, hl⟩ := hu.form
  have hB : w0.heap.size ≤ w.heap.size := hs0.below.size
  obtain ⟨W0, hW0⟩ : ∃ W0, W0 = w.alloc (Obj.cells #[.int .i64 f.k, .int .i64 f.u, .int .i64 f.o, .int .i64 f.a.k, .int .i64 f.a.t, .int .i64 f.a.c, .bool f.a.z, .int .i64 f.a.n, .int .i64 f.b.k, .int .i64 f.b.t, .int .i64 f.b.c, .bool f.b.z, .int .i64 f.b.n, .slice A ps.length c] 77) := ⟨_, rfl⟩
  obtain ⟨l0, p0, hb0⟩ := pd_box hW0
  have hs1 : Step w0.heap.size w W0 := by rw [hW0]; exact (Step.refl _ w).alloc hB _
  have hown0 : W0.ownsRow w0.heap.size 105 2 v0 N xs := by rw [hW0]; exact hown.alloc _
  have hB0 : w0.heap.size ≤ W0.heap.size := Nat.le_trans hB hb0.size
  have HU := Lib.hid hu
  have HW := Lib.hid hW0
  have IH := Lib.hid ih
  have L0 := Lib.hid l0
  have HS0 := Lib.hid (hs0.trans hs1)
  have HS1 := Lib.hid hs1
  have HB0 := Lib.hid hB0
  have hC : Pr.cols (.mk f ps) = (Te.cols f.a ++ Te.cols f.b) ++ Pr.colss ps := Pr.cols_at (.mk f ps)
  have HC := Lib.hid hC
  have ha1 : (Te.cols ⟨f.a.k, f.a.t, f.a.c, f.a.z, f.a.n⟩).length ≤ 1 := Pr.te_cols_len _
  have hb1 : (Te.cols ⟨f.b.k, f.b.t, f.b.c, f.b.z, f.b.n⟩).length ≤ 1 := Pr.te_cols_len _
  have hN1 : N ≤ 5000 := by omega
  have hN2 : N + (Te.cols ⟨f.a.k, f.a.t, f.a.c, f.a.z, f.a.n⟩).length ≤ 5000 := by
    rw [hC, List.length_append, List.length_append] at hN
    have : (Te.cols f.a).length = (Te.cols ⟨f.a.k, f.a.t, f.a.c, f.a.z, f.a.n⟩).length := rfl
    omega
  have HN1 := Lib.hid hN1
  have HN2 := Lib.hid hN2
  have HNN := Lib.hid hN
  have ca := fun W (h : W.ownsRow w0.heap.size 105 2 v0 N xs) (hb : Step w0.heap.size W0 W) => pcol1_any w0.heap.size v0 N xs f.a.k f.a.t f.a.c f.a.z f.a.n W h (Nat.le_trans hB0 hb.below.size) hN1
  have cb := fun v1 W (h : W.ownsRow w0.heap.size 105 2 v1 (N + (Te.cols ⟨f.a.k, f.a.t, f.a.c, f.a.z, f.a.n⟩).length) (xs ++ pairCells (Te.cols ⟨f.a.k, f.a.t, f.a.c, f.a.z, f.a.n⟩))) (hb : Step w0.heap.size W0 W) => pcol1_any w0.heap.size v1 _ _ f.b.k f.b.t f.b.c f.b.z f.b.n W h (Nat.le_trans hB0 hb.below.size) hN2
  have CA := Lib.hid ca
  have CB := Lib.hid cb
  have hS : Step w0.heap.size W0 W0 := Step.refl _ _
  obtain ⟨x0, x1, x2, x3, x4, x5, x6, x7, x8, x9, x10, x11, x12, x13⟩ := p0
  clear hW0 ih hu l0 hs0 hs1 hown hB hC ha1 hb1 hN1 hN2 hN ca cb hb0 hB0 x0 x1 x2 x13
  go_enter Tryz.func116, Tryz.ntmps116
  go_wp2_with fail
  rw [← HW.out]
  go_region_held3 (fun W => (W.cell? ⟨w.heap.size, 3, none⟩ = some (.int .i64 f.a.k) ∧ W.cell? ⟨w.heap.size, 4, none⟩ = some (.int .i64 f.a.t) ∧ W.cell? ⟨w.heap.size, 5, none⟩ = some (.int .i64 f.a.c) ∧ W.cell? ⟨w.heap.size, 6, none⟩ = some (.bool f.a.z) ∧ W.cell? ⟨w.heap.size, 7, none⟩ = some (.int .i64 f.a.n) ∧ W.cell? ⟨w.heap.size, 8, none⟩ = some (.int .i64 f.b.k) ∧ W.cell? ⟨w.heap.size, 9, none⟩ = some (.int .i64 f.b.t) ∧ W.cell? ⟨w.heap.size, 10, none⟩ = some (.int .i64 f.b.c) ∧ W.cell? ⟨w.heap.size, 11, none⟩ = some (.bool f.b.z) ∧ W.cell? ⟨w.heap.size, 12, none⟩ = some (.int .i64 f.b.n)) ∧ Step w0.heap.size W0 W) (first | (exact keepG L0.out (by first | assumption | exact Step.drew (by assumption))))
    (first
      | (go_at_call 117; (with_reducible refine (CA.out _ (by first | assumption | exact World.ownsRow.drew (by assumption)) (by first | assumption | exact Step.drew (by assumption))).mono ?_); rintro e w2 ⟨v2, rfl, hown2, hst2⟩; have hS2 := Step.trans (by first | assumption | exact Step.drew (by assumption)) hst2)
      | (go_at_call 117; (with_reducible refine (CB.out _ _ (by first | assumption | exact World.ownsRow.drew (by assumption)) (by first | assumption | exact Step.drew (by assumption))).mono ?_); rintro e w3 ⟨v3, rfl, hown3, hst3⟩; have hS3 := Step.trans (by first | assumption | exact Step.drew (by assumption)) hst3))
  obtain ⟨L, hL⟩ : ∃ L, L = Te.cols f.a ++ Te.cols f.b := ⟨_, rfl⟩
  have hC2 : Pr.cols (.mk f ps) = L ++ Pr.colss ps := by rw [HC.out, hL]
  have hown4 : w3.ownsRow w0.heap.size 105 2 v3 (N + L.length) (xs ++ pairCells L) := by
    rw [hL, List.length_append, pairCells_app, ← List.append_assoc, ← Nat.add_assoc]
    exact hown3
  have HC2 := Lib.hid hC2
  have k13 := (hS3.spare _ _ _ L0.out (by decide)).pd.c13
  obtain ⟨n, hn⟩ : ∃ n, n = ps.length := ⟨_, rfl⟩
  have hnn : n ≤ 9223372036854775807 := by omega
  have hu0 := HU.out
  rw [← hn] at hl hu0 k13 ⊢
  have HU0 := Lib.hid hu0
  have HN := Lib.hid hn
  have HO4 := Lib.hid hown4
  have H3 := Lib.hid hS3
  clear hn hL hC2 hown2 hown3 hown4 hst2 hst3 hS2 hS hown0 x3 x4 x5 x6 x7 x8 x9 x10 x11 x12 HU hu0 hS3 CA CB
  go_wp2_with fail
  clear k13
  go_loopw [1, 21] (fun s i wr => ∃ q : Nat, q ≤ n ∧ i = .int .i64 q ∧ wr.ownsRow w0.heap.size 105 2 s (N + (L ++ Pr.colss (ps.take q)).length) (xs ++ pairCells (L ++ Pr.colss (ps.take q))) ∧ Step w0.heap.size W0 wr) (fun _ i _ => n - (intOf i).toNat)
  case atStart => exact ⟨0, Nat.zero_le _, rfl, by rw [List.take_zero, Pr.colss, List.append_nil]; exact HO4.out, H3.out⟩
  case round =>
    obtain ⟨q, hq, rfl, hown, hst⟩ := hrel
    by_cases hlt : q < n
    · obtain ⟨p, gp⟩ : ∃ p, ps[q]? = some p := ⟨ps[q]'(by have := HN.out; omega), List.getElem?_eq_getElem _⟩
      have hu := HU0.out
      rw [HN.out] at hu
      obtain ⟨e, b, o, s, v', he, rfl, _, hx⟩ := hu.at_ gp
      have hwr : Below w0.heap.size w0 wr := (HS0.out.trans hst).below
      obtain ⟨hcell, hps⟩ := hx wr hwr
      obtain ⟨A2, c2, rfl, _⟩ := hps.form
      have hsq : Step w0.heap.size W0 (wr.alloc (Obj.cells #[.int .i64 p.f.k, .int .i64 p.f.u, .int .i64 p.f.o, .int .i64 p.f.a.k, .int .i64 p.f.a.t, .int .i64 p.f.a.c, .bool p.f.a.z, .int .i64 p.f.a.n, .int .i64 p.f.b.k, .int .i64 p.f.b.t, .int .i64 p.f.b.c, .bool p.f.b.z, .int .i64 p.f.b.n, .slice A2 p.ps.length c2] 77)) := hst.alloc hwr.size _
      have hoq : (wr.alloc (Obj.cells #[.int .i64 p.f.k, .int .i64 p.f.u, .int .i64 p.f.o, .int .i64 p.f.a.k, .int .i64 p.f.a.t, .int .i64 p.f.a.c, .bool p.f.a.z, .int .i64 p.f.a.n, .int .i64 p.f.b.k, .int .i64 p.f.b.t, .int .i64 p.f.b.c, .bool p.f.b.z, .int .i64 p.f.b.n, .slice A2 p.ps.length c2] 77)).ownsRow w0.heap.size 105 2 _ _ _ := hown.alloc _
      have hlen : N + (L ++ Pr.colss (ps.take q)).length + (Pr.cols p).length ≤ 5000 := by
        have h1 := HNN.out
        rw [HC2.out] at h1
        have h2 : (Pr.colss (ps.take (q + 1))).length ≤ (Pr.colss ps).length := by
          have : ps = ps.take (q + 1) ++ ps.drop (q + 1) := (List.take_append_drop _ _).symm
          have h3 : Pr.colss ps = Pr.colss (ps.take (q + 1)) ++ Pr.colss (ps.drop (q + 1)) := by
            conv => lhs; rw [this, Pr.colss_app]
          rw [h3, List.length_append]; omega
        rw [Pr.colss_take gp, List.length_append] at h2
        rw [List.length_append] at h1 ⊢
        omega
      have cs := IH.out e he p.f _ p.ps w0 _ _ _ _ ((hx w0 (Below.refl _ _)).2) (HS0.out.trans hsq) hoq (by rw [Pr.cols_mk]; exact hlen)
      rw [Pr.cols_mk] at cs
      have HT := Lib.hid (show L ++ Pr.colss (ps.take (q + 1)) = (L ++ Pr.colss (ps.take q)) ++ Pr.cols p by rw [Pr.colss_take gp, List.append_assoc])
      obtain ⟨M, hM⟩ : ∃ M, M = L ++ Pr.colss (ps.take q) := ⟨_, rfl⟩
      rw [← hM] at cs
      have HM := Lib.hid hM
      obtain ⟨x0, x1, x2, x3, x4, x5, x6, x7, x8, x9, x10, x11, x12, x13⟩ := hcell
      clear gp hx hps hu hwr hown hoq hlen hM
      go_wp2_with fail
      refine cs.mono ?_
      rintro e w2 ⟨v2, rfl, hown5, hst5⟩
      have hst6 := hsq.trans hst5
      have hown6 : w2.ownsRow w0.heap.size 105 2 v2 (N + (L ++ Pr.colss (ps.take (q + 1))).length) (xs ++ pairCells (L ++ Pr.colss (ps.take (q + 1)))) := by
        rw [HT.out, ← HM.out, List.length_append, pairCells_app, ← List.append_assoc, ← Nat.add_assoc]; exact hown5
      clear cs x0 x1 x2 x3 x4 x5 x6 x7 x8 x9 x10 x11 x12 x13 hst5 hsq hst hown5
      go_wp2_with fail
      go_roundw
      case rel => exact ⟨q + 1, by omega, by go_num, hown6, hst6⟩
      case measure => simp [intOf]; omega
    · have he : Hid (L ++ Pr.colss (ps.take q) = Pr.cols (.mk f ps)) := Lib.hid (by rw [HC2.out, List.take_of_length_le (by have := HN.out; omega)])
      rw [he.out] at hown
      have HO := Lib.hid hown
      clear hown
      go_wp2_with fail
      go_ret
      exact ⟨_, rfl, HO.out, HS1.out.trans hst⟩
theorem pcols_any (d : Nat) (f : Pf) (u : Value) (ps : List Pd) (w : World) (hu : PsAt d w u ps) (hsz : Pr.sizes ps ≤ 1000) :
    Calls Tryz.prog 96 #[.agg #[.int .i64 f.k, .int .i64 f.u, .int .i64 f.o, .int .i64 f.a.k, .int .i64 f.a.t, .int .i64 f.a.c, .bool f.a.z, .int .i64 f.a.n, .int .i64 f.b.k, .int .i64 f.b.t, .int .i64 f.b.c, .bool f.b.z, .int .i64 f.b.n, u]] w (SomePairs w (Pr.cols (.mk f ps))) := by
  have hlen : (Pr.cols (.mk f ps)).length ≤ 2002 := by
    have := Pr.cols_len (.mk f ps)
    rw [Pr.size] at this
    omega
  obtain ⟨A, c, rfl, hl⟩ := hu.form
  obtain ⟨W0, hW0⟩ : ∃ W0, W0 = w.alloc (Obj.cells #[.int .i64 f.k, .int .i64 f.u, .int .i64 f.o, .int .i64 f.a.k, .int .i64 f.a.t, .int .i64 f.a.c, .bool f.a.z, .int .i64 f.a.n, .int .i64 f.b.k, .int .i64 f.b.t, .int .i64 f.b.c, .bool f.b.z, .int .i64 f.b.n, .slice A ps.length c] 77) := ⟨_, rfl⟩
  obtain ⟨l0, p0, hb0⟩ := pd_box hW0
  have cs := pgcol_any d f _ ps W0 W0 (.slice none 0 0) 0 [] (hu.below hb0 (Nat.le_refl _)) (Step.refl _ _) (World.ownsRow_nil _ _ _ _) (by omega)
  rw [Nat.zero_add, List.nil_append] at cs
  obtain ⟨M, hM⟩ : ∃ M, M = Pr.cols (.mk f ps) := ⟨_, rfl⟩
  rw [← hM] at cs hlen ⊢
  have HW := Lib.hid hW0
  obtain ⟨x0, x1, x2, x3, x4, x5, x6, x7, x8, x9, x10, x11, x12, x13⟩ := p0
  clear hu hW0 l0 hM
  go_enter Tryz.func96, Tryz.ntmps96
  go_upto_region 1 with (fail)
  rw [← HW.out]
  go_wp2_with fail
  refine cs.mono ?_
  rintro e w2 ⟨v2, rfl, hown2, hst2⟩
  clear cs x0 x1 x2 x3 x4 x5 x6 x7 x8 x9 x10 x11 x12 x13
  go_wp2_with fail
  go_ret
  exact own_some ⟨v2, rfl, hown2.mono hb0.size, below_join hb0 hst2.below⟩ (by omega)
end Go.Proofs.YtpaaibghfhnicaaGreatDoor

/-
  WHETHER QUERIES AND DATA MAY BE: plain mathematics.
-/
namespace Go.Proofs.YtpaaibghfhnicaaGreatDoor
namespace Ck
def out (cols : List Int) (l r : Nat) (c : Int × Int) : Bool := (!St.hasB l c.1 && !St.hasB r c.1) || decide (cols.getD c.1.toNat 0 ≤ c.2)
def conj (cols : List Int) (l r : Nat) (p : Pd) : Int :=
  if Pr.rightAt p 1 = false then 9
  else if (Pr.cols p).any (out cols l r) = true then 10
  else if Pr.tables p &&& l = 0 ∨ Pr.tables p &&& r = 0 then 11 else 0
def conjs (cols : List Int) (l r : Nat) : List Pd → Int
  | [] => 0
  | p :: t => if conj cols l r p ≠ 0 then conj cols l r p else conjs cols l r t
def alone (n : Nat) (t : Tr) (c : Nat) : Int :=
  if t.k < 0 ∨ 4 < t.k ∨ (t.k = 0 ∧ t.h = true) then 4
  else if t.ks.length ≠ (if t.k = 0 then 0 else 2) then 7
  else if (t.k = 0 ∧ t.cs.length ≠ 0) ∨ (t.k ≠ 0 ∧ t.cs.length = 0) ∨ 64 < c then 8
  else if t.t < 0 ∨ (if t.k = 0 then (n : Int) else 1) ≤ t.t then 5 else 0
def ksn (t : Tr) (i : Nat) : Nat := match t.ks[i]? with | some a => Tr.seen a | none => 0
def what (cols : List Int) (t : Tr) (c : Nat) : Int :=
  if alone cols.length t (c + t.cs.length) ≠ 0 then alone cols.length t (c + t.cs.length)
  else if t.k = 0 then 0 else conjs cols (ksn t 0) (ksn t 1) t.cs
def comes (t : Tr) (came : List Int) : List Int := if t.k = 0 then came ++ [t.t] else came
def run (cols : List Int) : List Tr → List Int → Nat → Int × List Int
  | [], came, _ => (0, came)
  | t :: r, came, c => if what cols t c ≠ 0 then (what cols t c, came) else run cols r (comes t came) (c + t.cs.length)
def many (l : List Tr) : Nat := (l.map fun t => t.cs.length).sum
def tour (cols : List Int) (root : Tr) : Int := if (run cols (Tr.all root) [] 0).2.Nodup then (run cols (Tr.all root) [] 0).1 else 6
def query (cols : List Int) (root : Tr) : Int :=
  if 64 < cols.length then 2 else if cols.any (fun n => decide (n < 1) || decide (4 < n)) = true then 12 else tour cols root
def doc (cols : List Int) : List Tr → List Int → Nat → Int
  | [], _, _ => 0
  | t :: r, came, c => if what cols t c ≠ 0 then what cols t c else if t.k = 0 ∧ t.t ∈ came then 6 else doc cols r (comes t came) (c + t.cs.length)

theorem alone_le {n c : Nat} {t : Tr} (h : alone n t c = 0) : c ≤ 64 := by
  unfold alone at h
  repeat' split at h
  all_goals first | omega | simp at h
theorem what_le {cols : List Int} {c : Nat} {t : Tr} (h : what cols t c = 0) : c + t.cs.length ≤ 64 := by
  unfold what at h
  split at h
  · rename_i hh; exact absurd h hh
  · rename_i hh; exact alone_le (Decidable.not_not.1 hh)
theorem what_alone {cols : List Int} {c : Nat} {t : Tr} (h : what cols t c = 0) : alone cols.length t (c + t.cs.length) = 0 := by
  unfold what at h
  split at h
  · rename_i hh; exact absurd h hh
  · rename_i hh; exact Decidable.not_not.1 hh
theorem run_prefix (cols : List Int) (l : List Tr) : ∀ came c, ∃ z, (run cols l came c).2 = came ++ z := by
  induction l with
  | nil => intro came c; exact ⟨[], by simp [run]⟩
  | cons t r ih =>
    intro came c
    rw [run]
    split
    · exact ⟨[], by simp⟩
    · obtain ⟨z, hz⟩ := ih (comes t came) (c + t.cs.length)
      unfold comes at hz ⊢
      split at hz
      · rename_i hk
        rw [if_pos hk, hz]
        exact ⟨[t.t] ++ z, by rw [List.append_assoc]⟩
      · rename_i hk
        rw [if_neg hk]
        exact ⟨z, hz⟩
theorem doc_run (cols : List Int) (l : List Tr) : ∀ came c, came.Nodup → doc cols l came c = if (run cols l came c).2.Nodup then (run cols l came c).1 else 6 := by
  induction l with
  | nil => intro came c h; rw [doc, run, if_pos h]
  | cons t r ih =>
    intro came c h
    rw [doc, run]
    by_cases hw : what cols t c = 0
    · rw [if_neg (not_not_intro hw), if_neg (not_not_intro hw)]
      by_cases hk : t.k = 0
      · by_cases hm : t.t ∈ came
        · rw [if_pos ⟨hk, hm⟩, if_neg]
          obtain ⟨z, hz⟩ := run_prefix cols r (comes t came) (c + t.cs.length)
          rw [hz]
          unfold comes
          rw [if_pos hk]
          intro hn
          have h2 := (List.nodup_append.1 hn).1
          exact (List.nodup_append.1 h2).2.2 _ hm _ List.mem_cons_self rfl
        · rw [if_neg (fun e => hm e.2)]
          refine ih _ _ ?_
          unfold comes
          rw [if_pos hk, List.nodup_append]
          exact ⟨h, by simp, fun a ha b hb e => hm (by rw [List.mem_singleton.1 hb] at e; exact e ▸ ha)⟩
      · rw [if_neg (fun e => hk e.1)]
        refine ih _ _ ?_
        unfold comes
        rw [if_neg hk]; exact h
    · rw [if_pos hw, if_pos hw, if_pos h]
theorem doc_tour (cols : List Int) (a : Tr) : doc cols (Tr.all a) [] 0 = tour cols a := doc_run _ _ _ _ List.nodup_nil
theorem run_snoc {cols : List Int} {l : List Tr} {t : Tr} : ∀ {came : List Int} {c : Nat}, (run cols l came c).1 = 0 →
    run cols (l ++ [t]) came c = if what cols t (c + many l) ≠ 0 then (what cols t (c + many l), (run cols l came c).2) else (0, comes t (run cols l came c).2) := by
  induction l with
  | nil => intro came c _; rw [List.nil_append, run]; simp [run, many]
  | cons x r ih =>
    intro came c h
    rw [List.cons_append, run]
    rw [run] at h ⊢
    split
    · rename_i hw; rw [if_pos hw] at h; exact absurd h hw
    · rename_i hw
      rw [if_neg hw] at h
      rw [ih h]
      simp only [many, List.map_cons, List.sum_cons, Nat.add_assoc]
theorem run_stop {cols : List Int} {l m : List Tr} : ∀ {came : List Int} {c : Nat}, (run cols l came c).1 ≠ 0 → run cols (l ++ m) came c = run cols l came c := by
  induction l with
  | nil => intro came c h; exact absurd rfl h
  | cons x r ih =>
    intro came c h
    rw [List.cons_append, run]
    rw [run] at h ⊢
    split
    · rfl
    · rename_i hw
      rw [if_neg hw] at h
      exact ih h
theorem many_snoc (l : List Tr) (t : Tr) : many (l ++ [t]) = many l + t.cs.length := by simp [many]
theorem run_each {cols : List Int} {l : List Tr} : ∀ {came : List Int} {c : Nat}, (run cols l came c).1 = 0 → ∀ t ∈ l, ∃ c', c ≤ c' ∧ what cols t c' = 0 := by
  induction l with
  | nil => intro _ _ _ t h; simp at h
  | cons x r ih =>
    intro came c h t ht
    rw [run] at h
    split at h
    · rename_i hw; exact absurd h hw
    · rename_i hw
      rcases List.mem_cons.1 ht with rfl | ht
      · exact ⟨c, Nat.le_refl _, Decidable.not_not.1 hw⟩
      · obtain ⟨c', h1, h2⟩ := ih h t ht
        exact ⟨c', by omega, h2⟩
theorem run_many {cols : List Int} {l : List Tr} {came : List Int} {c : Nat} (h : (run cols l came c).1 = 0) (hc : c ≤ 64) : c + many l ≤ 64 := by
  induction l generalizing came c with
  | nil => simpa [many] using hc
  | cons x r ih =>
    rw [run] at h
    split at h
    · rename_i hw; exact absurd h hw
    · rename_i hw
      have := ih h (what_le (Decidable.not_not.1 hw))
      simp only [many, List.map_cons, List.sum_cons] at this ⊢
      omega
def Fine (n : Nat) (t : Tr) : Prop := t.k = 0 → 0 ≤ t.t ∧ t.t < n
theorem alone_fine {n c : Nat} {t : Tr} (h : alone n t c = 0) : Fine n t := by
  intro hk
  unfold alone at h
  simp only [if_pos hk] at h
  repeat' split at h
  all_goals first | omega | simp at h
theorem alone_kids {n c : Nat} {t : Tr} (h : alone n t c = 0) (hk : t.k ≠ 0) : t.ks.length = 2 ∧ t.cs.length ≠ 0 ∧ 1 ≤ t.k ∧ t.k ≤ 4 ∧ t.t = 0 := by
  unfold alone at h
  simp only [if_neg hk] at h
  repeat' split at h
  all_goals first | (refine ⟨?_, ?_, ?_, ?_, ?_⟩ <;> omega) | simp at h
theorem alone_leaf {n c : Nat} {t : Tr} (h : alone n t c = 0) (hk : t.k = 0) : t.ks = [] ∧ t.cs = [] := by
  unfold alone at h
  simp only [if_pos hk] at h
  repeat' split at h
  all_goals first | (refine ⟨List.length_eq_zero_iff.1 ?_, List.length_eq_zero_iff.1 ?_⟩ <;> omega) | simp at h
theorem run_fine {cols : List Int} {l : List Tr} {came : List Int} {c : Nat} (h : (run cols l came c).1 = 0) : ∀ t ∈ l, Fine cols.length t := fun t ht => by
  obtain ⟨c', _, h2⟩ := run_each h t ht
  exact alone_fine (what_alone h2)
mutual
theorem seen_fine (n : Nat) : ∀ a : Tr, (∀ x ∈ Tr.all a, Fine n x) → ∀ j, (Tr.seen a).testBit j = true → j < n
  | .mk k t h cs ks => by
    intro hf j hj
    have hall : ∀ x ∈ Tr.alls ks, Fine n x := fun x hx => hf x (by rw [Tr.all_at]; exact List.mem_append_left _ hx)
    rw [Tr.seen] at hj
    split at hj
    · rename_i hk
      have := hf (.mk k t h cs ks) (by rw [Tr.all_at]; simp) hk
      change 0 ≤ t ∧ t < n at this
      rw [St.testBit_ofN] at hj
      simp at hj
      omega
    · split at hj
      · exact seen1_fine n ks hall j hj
      · exact seens_fine n ks hall j hj
theorem seen1_fine (n : Nat) : ∀ l : List Tr, (∀ x ∈ Tr.alls l, Fine n x) → ∀ j, (Tr.seen1 l).testBit j = true → j < n
  | [] => by intro _ j hj; rw [Tr.seen1] at hj; simp at hj
  | a :: r => by intro hf j hj; rw [Tr.seen1] at hj; exact seen_fine n a (fun x hx => hf x (by rw [Tr.alls]; exact List.mem_append_left _ hx)) j hj
theorem seens_fine (n : Nat) : ∀ l : List Tr, (∀ x ∈ Tr.alls l, Fine n x) → ∀ j, (Tr.seens l).testBit j = true → j < n
  | [] => by intro _ j hj; rw [Tr.seens] at hj; simp at hj
  | a :: r => by
    intro hf j hj
    rw [Tr.seens, Nat.testBit_or, Bool.or_eq_true] at hj
    rcases hj with hj | hj
    · exact seen_fine n a (fun x hx => hf x (by rw [Tr.alls]; exact List.mem_append_left _ hx)) j hj
    · exact seens_fine n r (fun x hx => hf x (by rw [Tr.alls]; exact List.mem_append_right _ hx)) j hj
end
theorem split_prefix {α : Type} {p l m : List α} {x : α} (h : p ++ [x] <+: l ++ m) : p ++ [x] <+: l ∨ ∃ q, p = l ++ q ∧ q ++ [x] <+: m := by
  by_cases hl : (p ++ [x]).length ≤ l.length
  · exact .inl (List.prefix_of_prefix_length_le h (List.prefix_append l m) hl)
  · have h2 : l <+: p := List.prefix_of_prefix_length_le (List.prefix_append l m) ((List.prefix_append p [x]).trans h) (by simp at hl; omega)
    obtain ⟨q, rfl⟩ := h2
    rw [List.append_assoc, List.prefix_append_right_inj] at h
    exact .inr ⟨q, rfl, h⟩
theorem within_alls (l : List Tr) (hl : ∀ b ∈ l, ∀ (pre : List Tr) (x : Tr), pre ++ [x] <+: Tr.all b → ∀ y ∈ Tr.alls x.ks, y ∈ pre) :
    ∀ (pre : List Tr) (x : Tr), pre ++ [x] <+: Tr.alls l → ∀ y ∈ Tr.alls x.ks, y ∈ pre := by
  induction l with
  | nil => intro pre x h; rw [Tr.alls] at h; simp at h
  | cons b r ih =>
    intro pre x h y hy
    rw [Tr.alls] at h
    rcases split_prefix h with h | ⟨q, rfl, hq⟩
    · exact hl b List.mem_cons_self pre x h y hy
    · exact List.mem_append_right _ (ih (fun c hc => hl c (List.mem_cons_of_mem _ hc)) q x hq y hy)
theorem within (a : Tr) : ∀ (pre : List Tr) (x : Tr), pre ++ [x] <+: Tr.all a → ∀ y ∈ Tr.alls x.ks, y ∈ pre := by
  refine Tr.ind (P := fun a => ∀ (pre : List Tr) (x : Tr), pre ++ [x] <+: Tr.all a → ∀ y ∈ Tr.alls x.ks, y ∈ pre) (fun a ih => ?_) a
  intro pre x h y hy
  rw [Tr.all_at] at h
  rcases split_prefix h with h | ⟨q, rfl, hq⟩
  · exact within_alls a.ks ih pre x h y hy
  · obtain ⟨z, hz⟩ := hq
    cases q with
    | nil =>
      simp at hz
      rw [hz.1] at hy
      exact List.mem_append_left _ hy
    | cons c s => simp at hz
theorem mem_alls {l : List Tr} {b : Tr} (hb : b ∈ l) : ∀ x ∈ Tr.all b, x ∈ Tr.alls l := by
  induction l with
  | nil => simp at hb
  | cons c r ih =>
    intro x hx
    rw [Tr.alls]
    rcases List.mem_cons.1 hb with rfl | hb
    · exact List.mem_append_left _ hx
    · exact List.mem_append_right _ (ih hb x hx)
theorem ksn_fine {n : Nat} {a : Tr} {pre : List Tr} {x : Tr} (h : pre ++ [x] <+: Tr.all a) (hf : ∀ y ∈ pre, Fine n y) (i : Nat) : ∀ j, (ksn x i).testBit j = true → j < n := by
  intro j hj
  unfold ksn at hj
  split at hj
  · rename_i b hb
    exact seen_fine n b (fun y hy => hf y (within a pre x h y (mem_alls (List.mem_of_getElem? hb) y hy))) j hj
  · simp at hj
theorem has_or (l r : Nat) (i : Int) : St.hasB (l ||| r) i = (St.hasB l i || St.hasB r i) := by
  unfold St.hasB
  rw [Nat.testBit_or]
  cases decide (0 ≤ i) <;> cases decide (i ≤ 63) <;> simp
def fits (rows : List (List Vl)) (n : Int) : Bool := decide (rows.length ≤ 1000) && rows.all fun r => decide ((r.length : Int) = n) && r.all fun v => Va.right v.1 v.2
def fitAll (cols : List Int) (d : List (List (List Vl))) : Bool := (d.zip cols).all fun x => fits x.1 x.2
def data (cols : List Int) (root : Tr) (d : List (List (List Vl))) : Int :=
  if query cols root ≠ 0 then query cols root else if d.length ≠ cols.length then 13 else if fitAll cols d = true then 0 else 13
end Ck
end Go.Proofs.YtpaaibghfhnicaaGreatDoor

/-
  package check: alone.
-/
namespace Go.Proofs.YtpaaibghfhnicaaGreatDoor
open Go.RowKit Go.Sort
set_option maxHeartbeats 1600000

set_option maxRecDepth 100000 in
theorem alone_any (a : Tr) (A : Option Addr) (m cu : Nat) (A' : Option Addr) (m' cv : Nat) (c n : Nat) (w : World) (hm : m = a.ks.length) (hm' : m' = a.cs.length) (hs : m ≤ 9223372036854775807) (hs' : m' ≤ 9223372036854775807) (hc : c ≤ 9223372036854775807) (_ : n ≤ 9223372036854775807) :
    Calls Tryz.prog 73 #[.agg #[.int .i64 a.k, .int .i64 a.t, .slice A m cu, .slice A' m' cv, .bool a.h], .int .i64 c, .int .i64 n] w
      fun e w' => e = .returned (.int .i64 (Ck.alone n a c)) ∧ Below w.heap.size w w' := by
  obtain ⟨W0, hW0⟩ : ∃ W0, W0 = w.alloc (Obj.cells #[.int .i64 a.k, .int .i64 a.t, .slice A m cu, .slice A' m' cv, .bool a.h] 26) := ⟨_, rfl⟩
  obtain ⟨l0, ⟨q0, q1, q2, q3, q4⟩, hb0⟩ := tr_box (a := a) (u := .slice A m cu) (v := .slice A' m' cv) hW0
  have HW := Lib.hid hW0
  obtain ⟨r, hr⟩ : ∃ r, r = Ck.alone n a c := ⟨_, rfl⟩
  rw [← hr]
  unfold Ck.alone at hr
  rw [← hm, ← hm'] at hr
  clear hW0 l0 hm hm'
  obtain ⟨k, hk⟩ : ∃ k, k = a.k := ⟨_, rfl⟩
  obtain ⟨t, ht⟩ : ∃ t, t = a.t := ⟨_, rfl⟩
  obtain ⟨h, hh⟩ : ∃ h, h = a.h := ⟨_, rfl⟩
  rw [← hk] at q0 HW hr ⊢
  rw [← ht] at q1 HW hr ⊢
  rw [← hh] at q4 HW hr ⊢
  clear hk ht hh
  have HB := Lib.hid hb0
  clear hb0
  by_cases k0 : k < 0
  · rw [if_pos (.inl k0)] at hr
    subst hr
    go_enter Tryz.func73, Tryz.ntmps73
    go_upto_region 1 with (fail)
    rw [← HW.out]
    go_wp2_with fail
    go_ret
    exact ⟨rfl, HB.out⟩
  by_cases k4 : 4 < k
  · rw [if_pos (.inr (.inl k4))] at hr
    subst hr
    go_enter Tryz.func73, Tryz.ntmps73
    go_upto_region 1 with (fail)
    rw [← HW.out]
    go_wp2_with fail
    go_ret
    exact ⟨rfl, HB.out⟩
  by_cases kz : k = 0
  · subst kz
    cases h
    · rw [if_neg (by simp)] at hr
      by_cases m0 : m = 0
      · subst m0
        rw [if_neg (by simp)] at hr
        by_cases m1 : m' = 0
        · subst m1
          by_cases c6 : 64 < c
          · rw [if_pos (by omega)] at hr
            subst hr
            go_enter Tryz.func73, Tryz.ntmps73
            go_upto_region 1 with (fail)
            rw [← HW.out]
            go_wp2_with fail
            go_ret
            exact ⟨rfl, HB.out⟩
          · rw [if_neg (by omega)] at hr
            rw [if_pos rfl] at hr
            by_cases t0 : t < 0
            · rw [if_pos (.inl t0)] at hr
              subst hr
              go_enter Tryz.func73, Tryz.ntmps73
              go_upto_region 1 with (fail)
              rw [← HW.out]
              go_wp2_with fail
              go_ret
              exact ⟨rfl, HB.out⟩
            by_cases tn : (n : Int) ≤ t
            · rw [if_pos (.inr tn)] at hr
              subst hr
              go_enter Tryz.func73, Tryz.ntmps73
              go_upto_region 1 with (fail)
              rw [← HW.out]
              go_wp2_with fail
              go_ret
              exact ⟨rfl, HB.out⟩
            · rw [if_neg (by omega)] at hr
              subst hr
              go_enter Tryz.func73, Tryz.ntmps73
              go_upto_region 1 with (fail)
              rw [← HW.out]
              go_wp2_with fail
              go_ret
              exact ⟨rfl, HB.out⟩
        · rw [if_pos (by omega)] at hr
          subst hr
          have m1' : ((m' : Int) == 0) = false := by simpa using m1
          go_enter Tryz.func73, Tryz.ntmps73
          go_upto_region 1 with (fail)
          rw [← HW.out]
          go_wp2_with fail
          go_ret
          exact ⟨rfl, HB.out⟩
      · rw [if_pos (by simpa using m0)] at hr
        subst hr
        have m0' : ((m : Int) != 0) = true := by simpa using m0
        go_enter Tryz.func73, Tryz.ntmps73
        go_upto_region 1 with (fail)
        rw [← HW.out]
        go_wp2_with fail
        go_ret
        exact ⟨rfl, HB.out⟩
    · rw [if_pos (.inr (.inr ⟨rfl, rfl⟩))] at hr
      subst hr
      go_enter Tryz.func73, Tryz.ntmps73
      go_upto_region 1 with (fail)
      rw [← HW.out]
      go_wp2_with fail
      go_ret
      exact ⟨rfl, HB.out⟩
  · have kz' : (k == 0) = false := by simpa using kz
    rw [if_neg (by omega), if_neg kz, if_neg kz] at hr
    by_cases m2 : m = 2
    · subst m2
      rw [if_neg (by simp)] at hr
      by_cases m1 : m' = 0
      · subst m1
        rw [if_pos (by omega)] at hr
        subst hr
        go_enter Tryz.func73, Tryz.ntmps73
        go_upto_region 1 with (fail)
        rw [← HW.out]
        go_wp2_with fail
        go_ret
        exact ⟨rfl, HB.out⟩
      · have m1' : ((m' : Int) == 0) = false := by simpa using m1
        by_cases c6 : 64 < c
        · rw [if_pos (by omega)] at hr
          subst hr
          go_enter Tryz.func73, Tryz.ntmps73
          go_upto_region 1 with (fail)
          rw [← HW.out]
          go_wp2_with fail
          go_ret
          exact ⟨rfl, HB.out⟩
        · rw [if_neg (by omega)] at hr
          by_cases t0 : t < 0
          · rw [if_pos (.inl t0)] at hr
            subst hr
            go_enter Tryz.func73, Tryz.ntmps73
            go_upto_region 1 with (fail)
            rw [← HW.out]
            go_wp2_with fail
            go_ret
            exact ⟨rfl, HB.out⟩
          by_cases tn : (1 : Int) ≤ t
          · rw [if_pos (.inr tn)] at hr
            subst hr
            go_enter Tryz.func73, Tryz.ntmps73
            go_upto_region 1 with (fail)
            rw [← HW.out]
            go_wp2_with fail
            go_ret
            exact ⟨rfl, HB.out⟩
          · rw [if_neg (by omega)] at hr
            subst hr
            go_enter Tryz.func73, Tryz.ntmps73
            go_upto_region 1 with (fail)
            rw [← HW.out]
            go_wp2_with fail
            go_ret
            exact ⟨rfl, HB.out⟩
    · have m2' : ((m : Int) != 2) = true := by simp; omega
      rw [if_pos (by simpa using m2)] at hr
      subst hr
      go_enter Tryz.func73, Tryz.ntmps73
      go_upto_region 1 with (fail)
      rw [← HW.out]
      go_wp2_with fail
      go_ret
      exact ⟨rfl, HB.out⟩
end Go.Proofs.YtpaaibghfhnicaaGreatDoor

/-
  package check: wrong, conforms; the library's IndexFunc, ContainsFunc over a row's values.
-/
namespace Go.Proofs.YtpaaibghfhnicaaGreatDoor
open Go.RowKit Go.Sort
set_option maxHeartbeats 1600000

set_option maxRecDepth 100000 in
theorem wrong_any (b : Bool) (n : Int) (w : World) :
    Calls Tryz.prog 61 #[.agg #[.bool b, .int .i64 n]] w fun e w' => e = .returned (.bool (!Va.right b n)) ∧ Below w.heap.size w w' := by
  obtain ⟨W0, hW0⟩ : ∃ W0, W0 = w.alloc (Obj.cells #[.bool b, .int .i64 n] 60) := ⟨_, rfl⟩
  obtain ⟨l0, hb0⟩ := box1 hW0
  have cs := right_any b n W0
  have q0 := l0.cell (i := 0) rfl
  have q1 := l0.cell (i := 1) rfl
  have HW := Lib.hid hW0
  obtain ⟨r, hr⟩ : ∃ r, r = Va.right b n := ⟨_, rfl⟩
  rw [← hr] at cs ⊢
  clear hW0 l0 hr
  go_enter Tryz.func61, Tryz.ntmps61
  go_upto_region 1 with (fail)
  rw [← HW.out]
  go_wp2_with fail
  refine cs.mono ?_
  rintro e w1 ⟨rfl, hb1⟩
  clear cs q0 q1
  go_wp2_with fail
  go_ret
  exact ⟨rfl, below_join hb0 hb1⟩
set_option maxRecDepth 100000 in
theorem indexw_any (v : Value) (l : List Vl) (w : World) (hv : RowAt w v l) (hl : l.length ≤ 9223372036854775807) :
    Calls Tryz.prog 75 #[v, .func (.func 61) #[] #[]] w fun e w' => (∃ r : Int, e = .returned (.int .i64 r) ∧ decide (0 ≤ r) = l.any (fun t => !Va.right t.1 t.2)) ∧ Below w.heap.size w w' := by
  have HV := Lib.hid hv
  obtain ⟨A, c, rfl, _, _⟩ := hv
  obtain ⟨n, hn⟩ : ∃ n, n = l.length := ⟨_, rfl⟩
  have Hn := Lib.hid hn
  rw [← hn] at hl ⊢
  clear hn
  go_enter Tryz.func75, Tryz.ntmps75
  go_wp2
  go_loopw [8] (fun i wr => ∃ k : Nat, k ≤ n ∧ i = .int .i64 k ∧ Hid ((l.take k).any (fun t => !Va.right t.1 t.2) = false) ∧ Below w.heap.size w wr) (fun i _ => n - (intOf i).toNat)
  case atStart => exact ⟨0, Nat.zero_le _, rfl, Lib.hid (by simp), Below.refl _ _⟩
  case round =>
    obtain ⟨k, hk, rfl, hno, hb⟩ := hrel
    by_cases hlt : k < n
    · obtain ⟨x, gx⟩ : ∃ x, l[k]? = some x := ⟨l[k]'(by have := Hn.out; omega), List.getElem?_eq_getElem _⟩
      obtain ⟨b1, o1, p1, rfl, _, hcell⟩ := HV.out.pair gx
      obtain ⟨c0, c1⟩ := hcell wr hb
      have ht : l.take (k + 1) = l.take k ++ [x] := by rw [List.take_add_one, gx]; rfl
      have Gx := Lib.hid gx
      clear gx hcell
      obtain ⟨r, hr⟩ : ∃ r, r = (!Va.right x.1 x.2) := ⟨_, rfl⟩
      have hs : Calls Tryz.prog 61 #[.agg #[.bool x.1, .int .i64 x.2]] wr fun e w' => e = .returned (.bool r) ∧ Below wr.heap.size wr w' := by
        rw [hr]; exact wrong_any x.1 x.2 wr
      have Hr := Lib.hid hr
      have Ht := Lib.hid ht
      clear hr ht
      cases r with
      | true =>
        have hyes : Hid (l.any (fun t => !Va.right t.1 t.2) = true) := Lib.hid (List.any_eq_true.2 ⟨x, List.mem_of_getElem? Gx.out, Hr.out.symm⟩)
        go_wp2_with fail
        refine hs.mono ?_
        rintro e w2 ⟨rfl, hb2⟩
        go_wp2_with fail
        go_ret
        exact ⟨⟨k, rfl, by rw [hyes.out]; simp⟩, below_join hb hb2⟩
      | false =>
        have hno2 : Hid ((l.take (k + 1)).any (fun t => !Va.right t.1 t.2) = false) := Lib.hid (by rw [Ht.out, List.any_append, hno.out]; simpa using Hr.out)
        go_wp2_with fail
        refine hs.mono ?_
        rintro e w2 ⟨rfl, hb2⟩
        go_wp2_with fail
        go_roundw
        case rel => exact ⟨k + 1, by omega, by go_num, hno2, below_join hb hb2⟩
        case measure => simp [intOf]; omega
    · have hend : Hid (l.any (fun t => !Va.right t.1 t.2) = false) := Lib.hid (by rw [← hno.out, List.take_of_length_le (by have := Hn.out; omega)])
      go_wp2
      go_ret
      exact ⟨⟨-1, rfl, by rw [hend.out]; rfl⟩, hb⟩
set_option maxRecDepth 100000 in
theorem containsw_any (v : Value) (l : List Vl) (w : World) (hv : RowAt w v l) (hl : l.length ≤ 9223372036854775807) :
    Calls Tryz.prog 60 #[v, .func (.func 61) #[] #[]] w fun e w' => e = .returned (.bool (l.any (fun t => !Va.right t.1 t.2))) ∧ Below w.heap.size w w' := by
  have hi := indexw_any v l w hv hl
  obtain ⟨A, c, rfl, _, _⟩ := hv
  go_enter Tryz.func60, Tryz.ntmps60
  go_wp2_with fail
  refine hi.mono ?_
  rintro e w' ⟨⟨r, rfl, hr⟩, hb⟩
  go_wp2_with fail
  go_ret
  exact ⟨by rw [← hr]; rfl, hb⟩
theorem fits_row (r : List Vl) (n : Int) : (decide ((r.length : Int) = n) && r.all fun v => Va.right v.1 v.2) = !(decide ((r.length : Int) ≠ n) || r.any fun v => !Va.right v.1 v.2) := by
  rw [List.all_eq_not_any_not]
  by_cases h : (r.length : Int) = n <;> simp [h]
set_option maxRecDepth 100000 in
theorem conforms_any (v : Value) (rs : List (List Vl)) (m : Nat) (w : World) (hv : Rws w v rs) (hm : m ≤ 100) :
    Calls Tryz.prog 43 #[v, .int .i64 (m : Int)] w fun e w' => e = .returned (.bool (Ck.fits rs (m : Int))) ∧ Below w.heap.size w w' := by
  have HV := Lib.hid hv
  obtain ⟨A, c, rfl, hc, _⟩ := hv.at_
  obtain ⟨n, hn⟩ : ∃ n, n = rs.length := ⟨_, rfl⟩
  have Hn := Lib.hid hn
  rw [← hn] at hc ⊢
  clear hn hv
  by_cases hbig : n ≤ 1000
  · have hf : Hid (Ck.fits rs (m : Int) = rs.all fun r => decide ((r.length : Int) = m) && r.all fun v => Va.right v.1 v.2) := Lib.hid (by
      unfold Ck.fits; rw [decide_eq_true (by have := Hn.out; omega), Bool.true_and])
    go_enter Tryz.func43, Tryz.ntmps43
    go_wp2_with fail
    go_loopw [12] (fun i wr => ∃ k : Nat, k ≤ n ∧ i = .int .i64 k ∧ Hid ((rs.take k).all (fun r => decide ((r.length : Int) = m) && r.all fun v => Va.right v.1 v.2) = true) ∧ Below w.heap.size w wr) (fun i _ => n - (intOf i).toNat)
    case atStart => exact ⟨0, Nat.zero_le _, rfl, Lib.hid (by simp), Below.refl _ _⟩
    case round =>
      obtain ⟨k, hk, rfl, hno, hb⟩ := hrel
      by_cases hlt : k < n
      · obtain ⟨r, gx⟩ : ∃ r, rs[k]? = some r := ⟨rs[k]'(by have := Hn.out; omega), List.getElem?_eq_getElem _⟩
        obtain ⟨A', c', hA, _, hx⟩ := (HV.out.below hb (Nat.le_refl _)).at_
        obtain ⟨b1, o1, p1, B, d, rfl, hcell, _, hrow⟩ := hx k r gx
        have hsl : A = some ⟨b1, o1, p1⟩ := by cases hA; rfl
        subst hsl
        have ht : rs.take (k + 1) = rs.take k ++ [r] := by rw [List.take_add_one, gx]; rfl
        have Gx := Lib.hid gx
        have Ht := Lib.hid ht
        clear gx hx hA ht
        by_cases hrm : r.length = m
        · have cs := containsw_any _ r wr hrow (by omega)
          rw [hrm] at hcell cs
          have hrm' : (((m : Nat) : Int) != (m : Int)) = false := by simp
          obtain ⟨z, hz⟩ : ∃ z, z = r.any (fun t => !Va.right t.1 t.2) := ⟨_, rfl⟩
          rw [← hz] at cs
          have Hz := Lib.hid hz
          have Hrm := Lib.hid hrm
          clear hz hrm hrow
          cases z with
          | true =>
            have hend : Hid (Ck.fits rs (m : Int) = false) := Lib.hid (by
              rw [hf.out, Bool.eq_false_iff]
              intro h
              have h2 := List.all_eq_true.1 h r (List.mem_of_getElem? Gx.out)
              rw [fits_row, ← Hz.out] at h2
              simp at h2)
            go_wp2_with fail
            refine cs.mono ?_
            rintro e w2 ⟨rfl, hb2⟩
            go_wp2_with fail
            go_ret
            exact ⟨by rw [hend.out]; rfl, below_join hb hb2⟩
          | false =>
            have hno2 : Hid ((rs.take (k + 1)).all (fun r => decide ((r.length : Int) = m) && r.all fun v => Va.right v.1 v.2) = true) := Lib.hid (by
              rw [Ht.out, List.all_append, hno.out, Bool.true_and, List.all_cons, List.all_nil, Bool.and_true, fits_row, ← Hz.out, Hrm.out]
              simp)
            go_wp2_with fail
            refine cs.mono ?_
            rintro e w2 ⟨rfl, hb2⟩
            go_wp2_with fail
            go_roundw
            case rel => exact ⟨k + 1, by omega, by go_num, hno2, below_join hb hb2⟩
            case measure => simp [intOf]; omega
        · have hrm' : ((r.length : Int) != (m : Int)) = true := by simp; omega
          have hend : Hid (Ck.fits rs (m : Int) = false) := Lib.hid (by
            rw [hf.out, Bool.eq_false_iff]
            intro h
            have h2 := List.all_eq_true.1 h r (List.mem_of_getElem? Gx.out)
            rw [decide_eq_false (by omega)] at h2
            simp at h2)
          clear hrow
          go_wp2_with fail
          go_ret
          exact ⟨by rw [hend.out]; rfl, hb⟩
      · have hend : Hid (Ck.fits rs (m : Int) = true) := Lib.hid (by rw [hf.out, ← hno.out, List.take_of_length_le (by have := Hn.out; omega)])
        go_wp2_with fail
        go_ret
        exact ⟨by rw [hend.out]; rfl, hb⟩
  · have hf : Hid (Ck.fits rs (m : Int) = false) := Lib.hid (by
      unfold Ck.fits; rw [decide_eq_false (by have := Hn.out; omega), Bool.false_and])
    go_enter Tryz.func43, Tryz.ntmps43
    go_wp2_with fail
    go_ret
    exact ⟨by rw [hf.out]; rfl, Below.refl _ _⟩
end Go.Proofs.YtpaaibghfhnicaaGreatDoor
