/-
  THE CONTRACT OF THE DOCUMENT's Right OF LAYER 6, whole.
-/
import Derived.Test.YthfoagglncimnaaDoorPredf
import Derived.Deep.Cut
namespace Go.Proofs.YthfoagglncimnaaDoor
open Go.RowKit Go.Sort
set_option maxHeartbeats 6400000

theorem head_yes {f : Pf} {dp : Nat} (h : Pr.head f dp = true) : dp ≤ 4 ∧ 1 ≤ f.k ∧ f.k ≤ 6 ∧
    ((f.k != 1) = false ∧ (f.k != 2) = true ∧ (f.k != 3) = true ∧ (f.o != 0) = false ∧ Te.zero f.b = true ∧ Te.zero f.a = true ∨
     (f.k != 1) = true ∧ (f.k != 2) = false ∧ (f.k != 3) = true ∧ (f.u != 0) = false ∨
     (f.k != 1) = true ∧ (f.k != 2) = true ∧ (f.k != 3) = false ∧ (f.u != 0) = false ∧ (f.o != 0) = false ∧ Te.zero f.b = true ∨
     (f.k != 1) = true ∧ (f.k != 2) = true ∧ (f.k != 3) = true ∧ (f.u != 0) = false ∧ (f.o != 0) = false ∧ Te.zero f.b = true ∧ Te.zero f.a = true) := by
  unfold Pr.head at h
  simp only [Bool.and_eq_true, decide_eq_true_eq] at h
  obtain ⟨⟨⟨⟨⟨⟨h1, h2⟩, h3⟩, h4⟩, h5⟩, h6⟩, h7⟩ := h
  refine ⟨h1, h2, h3, ?_⟩
  have e : ∀ m : Int, (f.k != m) = !(f.k == m) := fun m => rfl
  have eu : (f.u != 0) = !(f.u == 0) := rfl
  have eo : (f.o != 0) = !(f.o == 0) := rfl
  have x12 : (f.k == 1) = true → (f.k == 2) = false ∧ (f.k == 3) = false := by simp; omega
  have x21 : (f.k == 2) = true → (f.k == 1) = false ∧ (f.k == 3) = false := by simp; omega
  have x31 : (f.k == 3) = true → (f.k == 1) = false ∧ (f.k == 2) = false := by simp; omega
  simp only [e, eu, eo]
  generalize (f.k == 1) = p1 at *
  generalize (f.k == 2) = p2 at *
  generalize (f.k == 3) = p3 at *
  generalize (f.u == 0) = u0 at *
  generalize (f.o == 0) = o0 at *
  generalize Te.zero f.a = za at *
  generalize Te.zero f.b = zb at *
  clear e eu eo h1 h2 h3
  cases p1 <;> cases p2 <;> cases p3 <;> cases u0 <;> cases o0 <;> cases za <;> cases zb <;> simp_all
set_option maxRecDepth 100000 in
theorem r6at_any (d : Nat) : ∀ (f : Pf) (u : Value) (ps : List Pd) (dp : Nat) (w : World), PsAt d w u ps → dp ≤ 1000 →
    Calls Tryd.prog 28 #[.agg #[.int .i64 f.k, .int .i64 f.u, .int .i64 f.o, .int .i64 f.a.k, .int .i64 f.a.t, .int .i64 f.a.c, .bool f.a.z, .int .i64 f.a.n, .int .i64 f.b.k, .int .i64 f.b.t, .int .i64 f.b.c, .bool f.b.z, .int .i64 f.b.n, u], .int .i64 (dp : Int)] w fun e w' => e = .returned (.bool (Pr.rightAt (.mk f ps) dp)) ∧ Below w.heap.size w w' := by
  induction d using Nat.strongRecOn with
  | ind d ih =>
  intro f u ps dp w hu hdp
  have hR : Pr.rightAt (.mk f ps) dp = (Pr.head f dp && Pr.rightAts ps (dp + 1) && Pr.tail f ps.length) := by rw [Pr.rightAt]
  by_cases hh : Pr.head f dp = true
  · rw [hh, Bool.true_and] at hR
    obtain ⟨hd4, hk1, hk6, hways⟩ := head_yes hh
    have qa := fun w => term_ne f.a.k f.a.t f.a.c f.a.z f.a.n 0 0 0 false 0 w
    have qb := fun w => term_ne f.b.k f.b.t f.b.c f.b.z f.b.n 0 0 0 false 0 w
    have ha : Te.same ⟨f.a.k, f.a.t, f.a.c, f.a.z, f.a.n⟩ ⟨0, 0, 0, false, 0⟩ = Te.zero f.a := rfl
    have hb : Te.same ⟨f.b.k, f.b.t, f.b.c, f.b.z, f.b.n⟩ ⟨0, 0, 0, false, 0⟩ = Te.zero f.b := rfl
    rw [ha] at qa
    rw [hb] at qb
    generalize Te.zero f.a = za at qa hways
    generalize Te.zero f.b = zb at qb hways
    obtain ⟨W0, hW0⟩ : ∃ W0, W0 = (w.alloc (Obj.cells #[.int .i64 f.k, .int .i64 f.u, .int .i64 f.o, .int .i64 f.a.k, .int .i64 f.a.t, .int .i64 f.a.c, .bool f.a.z, .int .i64 f.a.n, .int .i64 f.b.k, .int .i64 f.b.t, .int .i64 f.b.c, .bool f.b.z, .int .i64 f.b.n, u] 28)).alloc (Obj.cells #[.int .i64 0, .int .i64 0, .int .i64 0, .bool false, .int .i64 0] 25) := ⟨_, rfl⟩
    obtain ⟨l0, l1, hb0⟩ := box_two (cs := f.cells u) (ds := [.int .i64 0, .int .i64 0, .int .i64 0, .bool false, .int .i64 0]) hW0
    have HU := Lib.hid (hu.below hb0 (Nat.le_refl _))
    obtain ⟨A, c, rfl, hl⟩ := hu.form
    have HW := Lib.hid hW0
    have IH := Lib.hid ih
    have HP := Lib.hid l0.pd
    have L1 := Lib.hid l1
    have HL := Lib.hid l0.lt
    have hres := hR
    obtain ⟨res, hr⟩ : ∃ res, res = Pr.rightAt (.mk f ps) dp := ⟨_, rfl⟩
    rw [← hr] at hres ⊢
    have HE := Lib.hid hres
    have HS := Lib.hid (Pr.rightAts_iff ps (dp + 1))
    obtain ⟨n, hn⟩ : ∃ n, n = ps.length := ⟨_, rfl⟩
    rw [← hn] at hl HU HP HW HE ⊢
    have HN := Lib.hid hn
    have HYS := Lib.hid hways
    have HQ := Lib.hid (And.intro qa qb)
    have k0 := (l0.below (Below.refl W0.heap.size W0) l0.lt).cell (i := 0) rfl
    clear hW0 ih hu l0 l1 hn hres hr hR hh ha hb hways qa qb k0
    have k0 := HP.out.c0
    rw [HW.out] at k0
    go_enter Tryd.func28, Tryd.ntmps28
    go_upto_region 4 with (fail)
    rw [← HW.out]
    clear k0
    go_cut [65] from 8 (fun s wr => s = .bool false ∧ W0 = wr)
    case first =>
      obtain ⟨k0, k1, k2, k3, k4, k5, k6, k7, k8, k9, k10, k11, k12, k13⟩ := HP.out
      have z0 := L1.out.cell (i := 0) rfl
      have z1 := L1.out.cell (i := 1) rfl
      have z2 := L1.out.cell (i := 2) rfl
      have z3 := L1.out.cell (i := 3) rfl
      have z4 := L1.out.cell (i := 4) rfl
      obtain ⟨qa, qb⟩ := HQ.out
      rcases HYS.out with ⟨e0, e1, e2, e3, rfl, rfl⟩ | ⟨e0, e1, e2, e3⟩ | ⟨e0, e1, e2, e3, e4, rfl⟩ | ⟨e0, e1, e2, e3, e4, rfl, rfl⟩
      all_goals
        go_wp2_with fail
        go_meet
        case rel => exact ⟨rfl, rfl⟩
    obtain ⟨rfl, rfl⟩ := hcut
    go_wp2_with fail
    go_loopw [6] (fun i wr => ∃ (q : Nat), q ≤ n ∧ i = .int .i64 q ∧ Hid (∀ (j : Nat) (p : Pd), j < q → ps[j]? = some p → Pr.rightAt p (dp + 1) = true) ∧ Below W0.heap.size W0 wr) (fun i _ => n - (intOf i).toNat)
    case atStart => exact ⟨0, Nat.zero_le _, rfl, Lib.hid (fun j p h => by omega), Below.refl _ _⟩
    case round =>
      obtain ⟨q, hq, rfl, hsv, hb⟩ := hrel
      obtain ⟨k0, k1, k2, k3, k4, k5, k6, k7, k8, k9, k10, k11, k12, k13⟩ := HP.out.below hb (show w.heap.size < W0.heap.size from HL.out)
      by_cases hlt : q < n
      · obtain ⟨p, gp⟩ : ∃ p, ps[q]? = some p := ⟨ps[q]'(by have := HN.out; omega), List.getElem?_eq_getElem _⟩
        have hu := HU.out
        rw [HN.out] at hu
        obtain ⟨e, b, o, s, v, he, rfl, _, hx⟩ := hu.at_ gp
        obtain ⟨hcell, hps⟩ := hx wr hb
        have cs := IH.out e he p.f v p.ps (dp + 1) wr hps (by omega)
        have hpe : Pd.mk p.f p.ps = p := by cases p; rfl
        rw [hpe, show (((dp + 1 : Nat)) : Int) = (dp : Int) + 1 by omega] at cs
        obtain ⟨r, hr⟩ : ∃ r, r = Pr.rightAt p (dp + 1) := ⟨_, rfl⟩
        rw [← hr] at cs
        have HR := Lib.hid hr
        have GP := Lib.hid gp
        obtain ⟨q0, q1, q2, q3, q4, q5, q6, q7, q8, q9, q10, q11, q12, q13⟩ := hcell
        clear gp hx hps hu hpe hr k0 k1 k2 k3 k4 k5 k6 k7 k8 k9 k10 k11 k12
        go_wp2_with fail
        refine cs.mono ?_
        rintro e w2 ⟨rfl, hb2⟩
        have hb3 := below_join hb hb2
        clear cs q0 q1 q2 q3 q4 q5 q6 q7 q8 q9 q10 q11 q12 q13 k13 hb hb2
        cases r
        · have hm : Hid (res = false) := Lib.hid (by
            rw [HE.out]
            cases h : Pr.rightAts ps (dp + 1) with
            | false => rfl
            | true => rw [HS.out] at h; rw [h p (List.mem_of_getElem? GP.out)] at HR; exact absurd HR.out (by decide))
          go_wp2_with fail
          go_ret
          exact ⟨ret_bool hm.out.symm, below_join hb0 hb3⟩
        · have hs2 : Hid (∀ (j : Nat) (x : Pd), j < q + 1 → ps[j]? = some x → Pr.rightAt x (dp + 1) = true) := Lib.hid (fun j x hj h1 => by
            by_cases e : j = q
            · subst e; rw [GP.out] at h1; cases h1; exact HR.out.symm
            · exact hsv.out j x (by omega) h1)
          go_wp2_with fail
          go_roundw
          case rel => exact ⟨q + 1, by omega, by go_num, hs2, hb3⟩
          case measure => simp [intOf]; omega
      · have hall : Pr.rightAts ps (dp + 1) = true := HS.out.2 fun p hp => by
          obtain ⟨j, hj, e⟩ := List.mem_iff_getElem.1 hp
          exact hsv.out j p (by have := HN.out; omega) (by rw [List.getElem?_eq_getElem hj, e])
        have ht : res = Pr.tail f n := by rw [HE.out, hall, Bool.true_and]
        have HT := Lib.hid ht
        clear hall ht hsv
        by_cases h1 : f.k = 1
        · have e1 : (f.k == 1) = true := by simpa using h1
          have ht : res = (n == 0 && decide (0 ≤ f.u) && decide (f.u ≤ 2)) := by rw [HT.out]; exact if_pos h1
          have HT2 := Lib.hid ht
          clear h1 ht
          by_cases hn : n = 0
          · have z1 : ((n : Int) == 0) = true := by simpa using hn
            have z2 : (n == 0) = true := by simpa using hn
            have Z2 := Lib.hid z2
            clear hn
            by_cases u1 : 0 ≤ f.u
            · by_cases u2 : f.u ≤ 2
              · have hm := Lib.hid (show res = true by rw [HT2.out, Z2.out]; simp [u1, u2])
                go_wp2_with fail
                go_ret
                exact ⟨ret_bool hm.out.symm, below_join hb0 hb⟩
              · have hm := Lib.hid (show res = false by rw [HT2.out]; simp [u2])
                go_wp2_with fail
                go_ret
                exact ⟨ret_bool hm.out.symm, below_join hb0 hb⟩
            · have hm := Lib.hid (show res = false by rw [HT2.out]; simp [u1])
              go_wp2_with fail
              go_ret
              exact ⟨ret_bool hm.out.symm, below_join hb0 hb⟩
          · have z1 : ((n : Int) == 0) = false := by simpa using hn
            have z2 : (n == 0) = false := by simpa using hn
            have hm := Lib.hid (show res = false by rw [HT2.out, z2]; rfl)
            clear hn
            go_wp2_with fail
            go_ret
            exact ⟨ret_bool hm.out.symm, below_join hb0 hb⟩
        by_cases h2 : f.k = 2
        · have e1 : (f.k == 1) = false := by simp; omega
          have e2 : (f.k == 2) = true := by simpa using h2
          have ht : res = (n == 0 && decide (1 ≤ f.o) && decide (f.o ≤ 6) && Te.right f.a && Te.right f.b) := by rw [HT.out]; unfold Pr.tail; rw [if_neg h1, if_pos h2]
          have HT2 := Lib.hid ht
          clear h1 h2 ht
          by_cases hn : n = 0
          · have z1 : ((n : Int) == 0) = true := by simpa using hn
            have z2 : (n == 0) = true := by simpa using hn
            have Z2 := Lib.hid z2
            clear hn
            by_cases u1 : 1 ≤ f.o
            · by_cases u2 : f.o ≤ 6
              · have ca := r5right_any f.a.k f.a.t f.a.c f.a.z f.a.n wr
                have hra : Te.right ⟨f.a.k, f.a.t, f.a.c, f.a.z, f.a.n⟩ = Te.right f.a := rfl
                rw [hra] at ca
                obtain ⟨ra, hr1⟩ : ∃ ra, ra = Te.right f.a := ⟨_, rfl⟩
                rw [← hr1] at ca
                have HR1 := Lib.hid hr1
                clear hr1 hra
                go_wp2_with fail
                refine ca.mono ?_
                rintro e w2 ⟨rfl, hb2⟩
                have hb3 := below_join hb hb2
                clear ca k0 k1 k2 k3 k4 k5 k6 k7 k8 k9 k10 k11 k12 k13
                obtain ⟨k0, k1, k2, k3, k4, k5, k6, k7, k8, k9, k10, k11, k12, k13⟩ := HP.out.below hb3 (show w.heap.size < W0.heap.size from HL.out)
                cases ra
                · have hm := Lib.hid (show res = false by rw [HT2.out, ← HR1.out]; simp)
                  go_wp2_with fail
                  go_ret
                  exact ⟨ret_bool hm.out.symm, below_join hb0 hb3⟩
                · have cb := r5right_any f.b.k f.b.t f.b.c f.b.z f.b.n w2
                  have hrb : Te.right ⟨f.b.k, f.b.t, f.b.c, f.b.z, f.b.n⟩ = Te.right f.b := rfl
                  rw [hrb] at cb
                  obtain ⟨rb, hr1⟩ : ∃ rb, rb = Te.right f.b := ⟨_, rfl⟩
                  rw [← hr1] at cb
                  have hm := Lib.hid (show res = rb by rw [HT2.out, ← HR1.out, ← hr1, Z2.out]; simp [u1, u2])
                  clear hr1 hrb
                  go_wp2_with fail
                  refine cb.mono ?_
                  rintro e w3 ⟨rfl, hb4⟩
                  have hb5 := below_join hb3 hb4
                  clear cb k0 k1 k2 k3 k4 k5 k6 k7 k8 k9 k10 k11 k12 k13
                  go_wp2_with fail
                  go_ret
                  exact ⟨ret_bool hm.out.symm, below_join hb0 hb5⟩
              · have hm := Lib.hid (show res = false by rw [HT2.out]; simp [u2])
                go_wp2_with fail
                go_ret
                exact ⟨ret_bool hm.out.symm, below_join hb0 hb⟩
            · have hm := Lib.hid (show res = false by rw [HT2.out]; simp [u1])
              go_wp2_with fail
              go_ret
              exact ⟨ret_bool hm.out.symm, below_join hb0 hb⟩
          · have z1 : ((n : Int) == 0) = false := by simpa using hn
            have z2 : (n == 0) = false := by simpa using hn
            have hm := Lib.hid (show res = false by rw [HT2.out, z2]; rfl)
            clear hn
            go_wp2_with fail
            go_ret
            exact ⟨ret_bool hm.out.symm, below_join hb0 hb⟩
        by_cases h3 : f.k = 3
        · have e1 : (f.k == 1) = false := by simp; omega
          have e2 : (f.k == 2) = false := by simp; omega
          have e3 : (f.k == 3) = true := by simpa using h3
          have ht : res = (n == 0 && Te.right f.a) := by rw [HT.out]; unfold Pr.tail; rw [if_neg h1, if_neg h2, if_pos h3]
          have HT2 := Lib.hid ht
          clear h1 h2 h3 ht
          by_cases hn : n = 0
          · have z1 : ((n : Int) == 0) = true := by simpa using hn
            have z2 : (n == 0) = true := by simpa using hn
            have Z2 := Lib.hid z2
            clear hn
            have ca := r5right_any f.a.k f.a.t f.a.c f.a.z f.a.n wr
            have hra : Te.right ⟨f.a.k, f.a.t, f.a.c, f.a.z, f.a.n⟩ = Te.right f.a := rfl
            rw [hra] at ca
            obtain ⟨ra, hr1⟩ : ∃ ra, ra = Te.right f.a := ⟨_, rfl⟩
            rw [← hr1] at ca
            have hm := Lib.hid (show res = ra by rw [HT2.out, ← hr1, Z2.out]; rfl)
            clear hr1 hra
            go_wp2_with fail
            refine ca.mono ?_
            rintro e w2 ⟨rfl, hb2⟩
            have hb3 := below_join hb hb2
            clear ca k0 k1 k2 k3 k4 k5 k6 k7 k8 k9 k10 k11 k12 k13
            go_wp2_with fail
            go_ret
            exact ⟨ret_bool hm.out.symm, below_join hb0 hb3⟩
          · have z1 : ((n : Int) == 0) = false := by simpa using hn
            have z2 : (n == 0) = false := by simpa using hn
            have hm := Lib.hid (show res = false by rw [HT2.out, z2]; rfl)
            clear hn
            go_wp2_with fail
            go_ret
            exact ⟨ret_bool hm.out.symm, below_join hb0 hb⟩
        have e1 : (f.k == 1) = false := by simp; omega
        have e2 : (f.k == 2) = false := by simp; omega
        have e3 : (f.k == 3) = false := by simp; omega
        by_cases h6 : f.k = 6
        · have e6 : (f.k == 6) = true := by simpa using h6
          have hm := Lib.hid (show res = (n == 1) by rw [HT.out]; unfold Pr.tail; rw [if_neg h1, if_neg h2, if_neg h3, if_pos h6])
          clear h1 h2 h3 h6
          go_wp2_with fail
          go_ret
          exact ⟨ret_bool (by rw [hm.out, Bool.eq_iff_iff]; simp; try omega), below_join hb0 hb⟩
        · have e6 : (f.k == 6) = false := by simpa using h6
          have hm := Lib.hid (show res = decide (n ≤ 4) by rw [HT.out]; unfold Pr.tail; rw [if_neg h1, if_neg h2, if_neg h3, if_neg h6])
          clear h1 h2 h3 h6
          go_wp2_with fail
          go_ret
          exact ⟨ret_bool (by rw [hm.out, Bool.eq_iff_iff]; simp; try omega), below_join hb0 hb⟩
  · have hh' : Pr.head f dp = false := by simpa using hh
    rw [hR, hh', Bool.false_and, Bool.false_and]
    exact r6at_bad f u dp w hh' hdp
end Go.Proofs.YthfoagglncimnaaDoor
