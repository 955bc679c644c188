/-
  THE CONTRACT OF THE DOCUMENT's Same OF LAYER 6, whole.
-/
import Derived.Test.YthfoagglncimnaaDoorPredb
namespace Go.Proofs.YthfoagglncimnaaDoor
open Go.RowKit Go.Sort
set_option maxHeartbeats 1600000

theorem r6same_len (f : Pf) (A B : Option Addr) (n m c e : Nat) (w : World) (h : n ≠ m) :
    Calls Tryd.prog 13 #[.agg #[.int .i64 f.k, .int .i64 f.u, .int .i64 f.o, .int .i64 f.a.k, .int .i64 f.a.t, .int .i64 f.a.c, .bool f.a.z, .int .i64 f.a.n, .int .i64 f.b.k, .int .i64 f.b.t, .int .i64 f.b.c, .bool f.b.z, .int .i64 f.b.n, .slice A n c], .agg #[.int .i64 f.k, .int .i64 f.u, .int .i64 f.o, .int .i64 f.a.k, .int .i64 f.a.t, .int .i64 f.a.c, .bool f.a.z, .int .i64 f.a.n, .int .i64 f.b.k, .int .i64 f.b.t, .int .i64 f.b.c, .bool f.b.z, .int .i64 f.b.n, .slice B m e]] w fun e w' => e = .returned (.bool false) ∧ Below w.heap.size w w' := by
  have d1 : ((n : Int) != (m : Int)) = true := by simp; omega
  have d2 : (n != m) = true := by simpa using h
  clear h
  go_enter Tryd.func13, Tryd.ntmps13
  go_wp2_with fail
  go_ret
  exact ⟨rfl, below_new2 _ _ _⟩
set_option maxRecDepth 100000 in
theorem r6same_any (d : Nat) : ∀ (f g : Pf) (u v : Value) (ps qs : List Pd) (w : World), PsAt d w u ps → PsAt d w v qs →
    Calls Tryd.prog 13 #[.agg #[.int .i64 f.k, .int .i64 f.u, .int .i64 f.o, .int .i64 f.a.k, .int .i64 f.a.t, .int .i64 f.a.c, .bool f.a.z, .int .i64 f.a.n, .int .i64 f.b.k, .int .i64 f.b.t, .int .i64 f.b.c, .bool f.b.z, .int .i64 f.b.n, u], .agg #[.int .i64 g.k, .int .i64 g.u, .int .i64 g.o, .int .i64 g.a.k, .int .i64 g.a.t, .int .i64 g.a.c, .bool g.a.z, .int .i64 g.a.n, .int .i64 g.b.k, .int .i64 g.b.t, .int .i64 g.b.c, .bool g.b.z, .int .i64 g.b.n, v]] w fun e w' => e = .returned (.bool (Pr.same (.mk f ps) (.mk g qs))) ∧ Below w.heap.size w w' := by
  induction d using Nat.strongRecOn with
  | ind d ih =>
  intro f g u v ps qs w hu hv
  have hR : Pr.same (.mk f ps) (.mk g qs) = (Pr.fsame f g && Pr.sames ps qs) := by rw [Pr.same]
  rw [hR]
  obtain ⟨A, c, rfl, hl⟩ := hu.form
  obtain ⟨B, c', rfl, hl'⟩ := hv.form
  by_cases hf : Pr.fsame f g = true
  · obtain rfl := fsame_eq hf
    rw [hf, Bool.true_and]
    by_cases hn : ps.length = qs.length
    · obtain ⟨W0, hW0⟩ : ∃ W0, W0 = (w.alloc (Obj.cells #[.int .i64 f.k, .int .i64 f.u, .int .i64 f.o, .int .i64 f.a.k, .int .i64 f.a.t, .int .i64 f.a.c, .bool f.a.z, .int .i64 f.a.n, .int .i64 f.b.k, .int .i64 f.b.t, .int .i64 f.b.c, .bool f.b.z, .int .i64 f.b.n, .slice A ps.length c] 28)).alloc (Obj.cells #[.int .i64 f.k, .int .i64 f.u, .int .i64 f.o, .int .i64 f.a.k, .int .i64 f.a.t, .int .i64 f.a.c, .bool f.a.z, .int .i64 f.a.n, .int .i64 f.b.k, .int .i64 f.b.t, .int .i64 f.b.c, .bool f.b.z, .int .i64 f.b.n, (.slice B qs.length c')] 28) := ⟨_, rfl⟩
      obtain ⟨p0, p1, hb0, hlt0⟩ := pd_boxes hW0
      have HU := Lib.hid (hu.below hb0 (Nat.le_refl _))
      have HV := Lib.hid (hv.below hb0 (Nat.le_refl _))
      have HW := Lib.hid hW0
      have IH := Lib.hid ih
      have HP := Lib.hid p0
      have HQ := Lib.hid p1
      have HL := Lib.hid hlt0
      have HS := Lib.hid (Pr.sames_iff hn)
      obtain ⟨n, hn1⟩ : ∃ n, n = ps.length := ⟨_, rfl⟩
      rw [← hn1] at hl HU HP HW hn ⊢
      rw [← hn] at HV HQ HW ⊢
      have HN := Lib.hid hn1
      have HM := Lib.hid hn
      clear hW0 ih hu hv p0 p1 hn hn1 hl' hlt0 hf hR
      go_enter Tryd.func13, Tryd.ntmps13
      go_wp2_with fail
      rw [← HW.out]
      go_loopw [5] (fun i wr => ∃ (q : Nat), q ≤ n ∧ i = .int .i64 q ∧ Hid (∀ (j : Nat) (p p' : Pd), j < q → ps[j]? = some p → qs[j]? = some p' → Pr.same p p' = true) ∧ Below W0.heap.size W0 wr) (fun i _ => n - (intOf i).toNat)
      case atStart => exact ⟨0, Nat.zero_le _, rfl, Lib.hid (fun j p p' h => by omega), Below.refl _ _⟩
      case round =>
        obtain ⟨q, hq, rfl, hsv, hb⟩ := hrel
        by_cases hlt : q < n
        · obtain ⟨p, gp⟩ : ∃ p, ps[q]? = some p := ⟨ps[q]'(by have := HN.out; omega), List.getElem?_eq_getElem _⟩
          obtain ⟨p', gp'⟩ : ∃ p, qs[q]? = some p := ⟨qs[q]'(by have := HM.out; omega), List.getElem?_eq_getElem _⟩
          have hu := HU.out
          rw [HN.out] at hu
          have hv := HV.out
          rw [HM.out] at hv
          obtain ⟨e, b, o, s, v, he, rfl, _, hx⟩ := hu.at_ gp
          obtain ⟨e', b', o', s', v', he', rfl, _, hx'⟩ := hv.at_ gp'
          have k13 := (HP.out.below hb (show w.heap.size < W0.heap.size by have := HL.out; omega)).c13
          have m13 := (HQ.out.below hb (show w.heap.size + 1 < W0.heap.size from HL.out)).c13
          obtain ⟨ha, _⟩ := hx wr hb
          obtain ⟨hb2, _⟩ := hx' wr hb
          have cs := in_draw (fun W h => IH.out (max e e') (by omega) p.f p'.f v v' p.ps p'.ps W ((hx W h).2.mono (by omega)) ((hx' W h).2.mono (by omega))) hb
          have hpe : Pr.same (.mk p.f p.ps) (.mk p'.f p'.ps) = Pr.same p p' := by cases p; cases p'; rfl
          rw [hpe] at cs
          obtain ⟨r, hr⟩ : ∃ r, r = Pr.same p p' := ⟨_, rfl⟩
          rw [← hr] at cs
          have HR := Lib.hid hr
          have GP := Lib.hid gp
          have GP' := Lib.hid gp'
          have i1 : (0 : Int) ≤ (q : Int) := by omega
          have i2 : (q : Int) < (n : Int) := by omega
          clear gp gp' hu hv hx hx' hpe hr
          go_wp2_with fail
          have d0 := cell_regrown k13
          have d1 := cell_regrown m13
          have a0 := cell_regrown ha.c0
          have a1 := cell_regrown ha.c1
          have a2 := cell_regrown ha.c2
          have a3 := cell_regrown ha.c3
          have a4 := cell_regrown ha.c4
          have a5 := cell_regrown ha.c5
          have a6 := cell_regrown ha.c6
          have a7 := cell_regrown ha.c7
          have a8 := cell_regrown ha.c8
          have a9 := cell_regrown ha.c9
          have a10 := cell_regrown ha.c10
          have a11 := cell_regrown ha.c11
          have a12 := cell_regrown ha.c12
          have a13 := cell_regrown ha.c13
          have b0 := cell_regrown hb2.c0
          have b1 := cell_regrown hb2.c1
          have b2 := cell_regrown hb2.c2
          have b3 := cell_regrown hb2.c3
          have b4 := cell_regrown hb2.c4
          have b5 := cell_regrown hb2.c5
          have b6 := cell_regrown hb2.c6
          have b7 := cell_regrown hb2.c7
          have b8 := cell_regrown hb2.c8
          have b9 := cell_regrown hb2.c9
          have b10 := cell_regrown hb2.c10
          have b11 := cell_regrown hb2.c11
          have b12 := cell_regrown hb2.c12
          have b13 := cell_regrown hb2.c13
          clear ha hb2 k13 m13
          refine wp_region_quiet_below (by kernel_rfl) (by kernel_rfl) ?_
          repeat (go_big_quiet_step (with_reducible exact cs _ _))
          refine wpQuiet_nil ?_
          intro _ hw'
          obtain ⟨⟨dq, osq⟩, hw''⟩ := hw'
          subst hw''
          have hb3 : Below W0.heap.size W0 (grow (redrawn wr dq) osq) := below_join hb (below_regrown _ _ _)
          clear d0 d1 a0 a1 a2 a3 a4 a5 a6 a7 a8 a9 a10 a11 a12 a13 b0 b1 b2 b3 b4 b5 b6 b7 b8 b9 b10 b11 b12 b13 cs i1 i2
          generalize grow (redrawn wr dq) osq = w2 at hb3 ⊢
          cases r
          · have he : Hid (Pr.sames ps qs = false) := Lib.hid (by
              cases h : Pr.sames ps qs with
              | false => rfl
              | true => rw [HS.out] at h; rw [h q p p' GP.out GP'.out] at HR; exact absurd HR.out (by decide))
            go_wp2_with fail
            go_ret
            exact ⟨ret_bool he.out.symm, below_join hb0 hb3⟩
          · have hs2 : Hid (∀ (j : Nat) (x x' : Pd), j < q + 1 → ps[j]? = some x → qs[j]? = some x' → Pr.same x x' = true) := Lib.hid (fun j x x' hj h1 h2 => by
              by_cases e : j = q
              · subst e; rw [GP.out] at h1; rw [GP'.out] at h2; cases h1; cases h2; exact HR.out.symm
              · exact hsv.out j x x' (by omega) h1 h2)
            go_wp2_with fail
            go_roundw
            case rel => exact ⟨q + 1, by omega, by go_num, hs2, hb3⟩
            case measure => simp [intOf]; omega
        · have he : Hid (Pr.sames ps qs = true) := Lib.hid (HS.out.2 fun j p p' hj hj' => hsv.out j p p' (by
            by_cases h : j < ps.length
            · have := HN.out; omega
            · rw [List.getElem?_eq_none (by omega)] at hj; cases hj) hj hj')
          have k13 := (HP.out.below hb (show w.heap.size < W0.heap.size by have := HL.out; omega)).c13
          go_wp2_with fail
          go_ret
          exact ⟨ret_bool he.out.symm, below_join hb0 hb⟩
    · rw [Pr.sames_length hn]
      exact r6same_len f A B _ _ c c' w hn
  · have hf' : Pr.fsame f g = false := by simpa using hf
    rw [hf', Bool.false_and]
    exact r6same_field f g A B _ _ c c' w hf'
end Go.Proofs.YthfoagglncimnaaDoor
