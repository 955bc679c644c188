/-
  THE DOCUMENT's Bears of layer 16: how many tuples there may come, at most.
-/
import Derived.Test.YtpaaibghfhnicaaGreatDoorExmM
import Derived.Test.YtpaaibghfhnicaaGreatDoorGTreeA
import Derived.Test.YtpaaibghfhnicaaGreatDoorGCkC
namespace Go.Proofs.YtpaaibghfhnicaaGreatDoor
open Go.RowKit Go.Sort
set_option maxHeartbeats 3200000

theorem Ex.cnt_hit {d : List (List (List Vl))} {a : Tr} {rs : List (List Vl)} (hk : a.k = 0) (h0 : 0 ≤ a.t) (h1 : a.t < (d.length : Int)) (hg : d[a.t.toNat]? = some rs) : Ex.cnt d a = max 1 rs.length := by
  unfold Ex.cnt
  rw [if_pos ⟨hk, h0, h1⟩, hg]; rfl
theorem Ex.cnt_miss {d : List (List (List Vl))} {a : Tr} (h : ¬ (a.k = 0 ∧ 0 ≤ a.t ∧ a.t < (d.length : Int))) : Ex.cnt d a = 1 := by
  unfold Ex.cnt
  rw [if_neg h]
set_option maxRecDepth 100000 in
theorem r16bears_any (d : Nat) (a : Tr) (u v dv : Value) (D : List (List (List Vl))) (M : Nat) (w : World) (hu : TsAt d w u a.ks) (hv : PsSome w v a.cs) (hd : Dts w dv D) (hsz : Tr.size a ≤ 1000) (hM : M ≤ 10000) (hD : ∀ rs ∈ D, rs.length ≤ 1000000) (hDl : D.length ≤ 1000000) :
    Calls Tryz.prog 10 #[.agg #[.int .i64 a.k, .int .i64 a.t, u, v, .bool a.h], dv, .int .i64 (M : Int)] w
      fun e w' => e = .returned (.bool (decide (Ex.prod D (Tr.all a) ≤ M))) ∧ Below w.heap.size w w' := by
  obtain ⟨W0, hW0⟩ : ∃ W0, W0 = w.alloc (Obj.cells #[.int .i64 a.k, .int .i64 a.t, u, v, .bool a.h] 26) := ⟨_, rfl⟩
  obtain ⟨l0, p0, hb0⟩ := tr_box (a := a) (u := u) (v := v) hW0
  obtain ⟨A, c, rfl, hl⟩ := hu.form
  obtain ⟨A', c', rfl, hl'⟩ := hv.elim fun D h => h.form
  have cs := r10all_any W0 d a _ _ W0 (Below.refl _ _) (hu.below hb0 (Nat.le_refl _)) (hv.below hb0 (Nat.le_refl _)) hsz
  have hal := Tr.all_length_le a
  obtain ⟨q0, q1, q2, q3, q4⟩ := p0
  obtain ⟨DA, dc, rfl, hdc, hat⟩ := id hd
  have HD := Lib.hid hd
  have HDL := Lib.hid hD
  obtain ⟨dl, hdl⟩ : ∃ n, n = D.length := ⟨_, rfl⟩
  rw [← hdl] at HD hdc hDl ⊢
  have HDN := Lib.hid hdl
  have HW := Lib.hid hW0
  have HB0 := Lib.hid hb0
  clear hW0 hu hv l0 hat hd hD hdl
  go_enter Tryz.func10, Tryz.ntmps10
  go_upto_region 1 with (fail)
  rw [← HW.out]
  go_wp2_with fail
  refine cs.mono ?_
  rintro e w2 ⟨v2, L, rfl, hm, _, hown2, hb2⟩
  have hb02 := below_join HB0.out hb2
  obtain ⟨n, hn⟩ : ∃ n, n = L.length := ⟨_, rfl⟩
  have hnl : n ≤ 1000 := by
    have h1 := congrArg List.length hm
    rw [List.length_map] at h1
    omega
  obtain ⟨B, c2, rfl, _⟩ := own_tr hown2
  rw [← hn] at hown2 ⊢
  have HN := Lib.hid hn
  have HM := Lib.hid hm
  have HO := Lib.hid hown2
  clear cs q0 q1 q2 q3 q4 hn hm hown2 hb2 hal
  go_wp2_with fail
  have HP0 := Lib.hid (show Ex.prod D ((Tr.all a).take 0) = 1 from rfl)
  go_loopw [8, 9] (fun s i wr => ∃ q z : Nat, q ≤ n ∧ i = .int .i64 q ∧ s = .int .i64 z ∧ z ≤ 10000 ∧ Hid (z = Ex.prod D ((Tr.all a).take q) ∧ (q = 0 ∨ z ≤ M)) ∧ w2 = wr) (fun _ i _ => n - (intOf i).toNat)
  case atStart => exact ⟨0, 1, Nat.zero_le _, rfl, rfl, by decide, Lib.hid ⟨HP0.out.symm, .inl rfl⟩, rfl⟩
  case round =>
    obtain ⟨q, z, hq, rfl, rfl, hz, hpz, rfl⟩ := hrel
    by_cases hlt : q < n
    · obtain ⟨x, gx⟩ : ∃ x, L[q]? = some x := ⟨L[q]'(by have := HN.out; omega), List.getElem?_eq_getElem _⟩
      have gb : (Tr.all a)[q]? = some x.1 := by rw [← HM.out, List.getElem?_map, gx]; rfl
      have HPT := Lib.hid (Ex.prod_take (d := D) gb)
      have HPL := Lib.hid (Ex.prod_le (d := D) (l := Tr.all a) (q + 1))
      have hrow' := HO.out
      rw [HN.out] at hrow'
      obtain ⟨A1, c1, hv1, hx⟩ := own_tr hrow'
      cases hv1
      obtain ⟨g, rfl, hg1, hg2, q0, q1, _, _, _⟩ := hx q x gx
      rw [add_from5] at q0 q1
      dsimp only at q0 q1
      have i1 : (0 : Int) ≤ (q : Int) := by omega
      have i2 : (q : Int) < (n : Int) := by omega
      clear hrow' hx gx gb
      by_cases hk : x.1.k = 0 ∧ 0 ≤ x.1.t ∧ x.1.t < (dl : Int)
      · obtain ⟨k1, k2, k3⟩ := hk
        obtain ⟨rs, gr⟩ : ∃ rs, D[x.1.t.toNat]? = some rs := ⟨D[x.1.t.toNat]'(by have := HDN.out; omega), List.getElem?_eq_getElem _⟩
        have HC := Lib.hid (Ex.cnt_hit k1 k2 (by rw [← HDN.out]; exact k3) gr)
        have hdat := (HD.out.below hb02 (Nat.le_refl _)).at_ gr
        obtain ⟨b1, o1, p1, B1, e1, hA1, _, hc1, _⟩ := hdat
        subst hA1
        have hrl := HDL.out rs (List.mem_of_getElem? gr)
        obtain ⟨rl, hrle⟩ : ∃ n, n = rs.length := ⟨_, rfl⟩
        rw [← hrle] at hc1 hrl HC
        obtain ⟨tn, htn⟩ : ∃ tn : Nat, x.1.t = (tn : Int) := ⟨x.1.t.toNat, (Int.toNat_of_nonneg k2).symm⟩
        rw [htn] at q1 k2 k3 hc1
        rw [Int.toNat_natCast] at hc1
        rw [k1] at q0
        obtain ⟨mx, hmx⟩ : ∃ mx, mx = max 1 rl := ⟨_, rfl⟩
        have hmx2 : max (1 : Int) (rl : Int) = (mx : Int) := by omega
        have hmul : (z : Int) * (mx : Int) = ((z * mx : Nat) : Int) := by simp
        have hzm : z * mx ≤ 10000 * 1000000 := Nat.mul_le_mul hz (by omega)
        have HZ := Lib.hid (show z * mx = Ex.prod D ((Tr.all a).take (q + 1)) by rw [HPT.out, HC.out, ← hpz.out.1, hmx])
        obtain ⟨zm, hzme⟩ : ∃ zm, zm = z * mx := ⟨_, rfl⟩
        rw [← hzme] at hmul hzm HZ
        have HWR := Lib.hid (show wrap64 ((z : Int) * max 1 (rl : Int)) = (zm : Int) by rw [hmx2, hmul]; unfold wrap64; omega)
        have HWR2 := Lib.hid (show wrap64 ((z : Int) * ((max 1 rl : Nat) : Int)) = (zm : Int) by rw [← hmx, hmul]; unfold wrap64; omega)
        have hwm := HZ.out
        have hall := HPL.out
        rw [← hwm] at hall
        clear gr hrle htn k1 hzme hwm hmul hmx2
        by_cases hgt : M < zm
        · have hg2 : (M : Int) < (zm : Int) := by omega
          have hg3 : (zm : Int) > (M : Int) := by omega
          have HRES := Lib.hid (show decide (Ex.prod D (Tr.all a) ≤ M) = false from decide_eq_false (by omega))
          clear hgt hmx hall hzm
          have hwr := HWR.out
          have hwr2 := HWR2.out
          go_wp2_with fail
          go_ret
          exact ⟨by rw [HRES.out]; rfl, hb02⟩
        · have hg2 : ¬ ((M : Int) < (zm : Int)) := by omega
          have hg3 : ¬ ((zm : Int) > (M : Int)) := by omega
          have HZM := Lib.hid (show zm ≤ 10000 ∧ zm ≤ M by omega)
          clear hgt hmx hall hzm
          have hwr := HWR.out
          have hwr2 := HWR2.out
          go_wp2_with fail
          clear hwr hwr2
          go_roundw
          case rel => exact ⟨q + 1, zm, by omega, by go_num, by first | rfl | trivial | rw [HWR.out] | rw [HWR2.out], HZM.out.1, Lib.hid ⟨HZ.out, .inr HZM.out.2⟩, by first | rfl | trivial⟩
          case measure => simp [intOf]; omega
      · have HC := Lib.hid (Ex.cnt_miss (d := D) (a := x.1) (by rw [← HDN.out]; exact hk))
        have HZ := Lib.hid (show z = Ex.prod D ((Tr.all a).take (q + 1)) by rw [HPT.out, HC.out, ← hpz.out.1, Nat.mul_one])
        have hall := HPL.out
        rw [← HZ.out] at hall
        obtain ⟨xk, hxk⟩ : ∃ xk, xk = x.1.k := ⟨_, rfl⟩
        obtain ⟨xt, hxt⟩ : ∃ xt, xt = x.1.t := ⟨_, rfl⟩
        rw [← hxk] at q0 hk
        rw [← hxt] at q1 hk
        clear hxk hxt
        have hcase : (xk == 0) = false ∨ (xk = 0 ∧ ¬ xt ≥ 0 ∧ decide (0 ≤ xt) = false) ∨ (xk = 0 ∧ xt ≥ 0 ∧ ¬ xt < (dl : Int) ∧ decide (xt < (dl : Int)) = false) := by
          by_cases g1 : xk = 0
          · by_cases g2 : 0 ≤ xt
            · have g3 : ¬ xt < (dl : Int) := fun g3 => hk ⟨g1, g2, g3⟩
              exact .inr (.inr ⟨g1, g2, g3, decide_eq_false g3⟩)
            · exact .inr (.inl ⟨g1, g2, decide_eq_false g2⟩)
          · exact .inl (by simpa using g1)
        clear hk
        by_cases hgt : M < z
        · have hg2 : (M : Int) < (z : Int) := by omega
          have hg3 : (z : Int) > (M : Int) := by omega
          have HRES := Lib.hid (show decide (Ex.prod D (Tr.all a) ≤ M) = false from decide_eq_false (by omega))
          clear hgt hall
          rcases hcase with g1 | ⟨rfl, g2, g3⟩ | ⟨rfl, g2, g3, g4⟩
          all_goals
            go_wp2_with fail
            go_ret
            exact ⟨by rw [HRES.out]; rfl, hb02⟩
        · have hg2 : ¬ ((M : Int) < (z : Int)) := by omega
          have hg3 : ¬ ((z : Int) > (M : Int)) := by omega
          have HZM := Lib.hid (show z ≤ 10000 ∧ z ≤ M by omega)
          clear hgt hall
          rcases hcase with g1 | ⟨rfl, g2, g3⟩ | ⟨rfl, g2, g3, g4⟩
          all_goals
            go_wp2_with fail
            go_roundw
            case rel => exact ⟨q + 1, z, by omega, by go_num, by first | rfl | trivial | rw [HWR.out] | rw [HWR2.out], HZM.out.1, Lib.hid ⟨HZ.out, .inr HZM.out.2⟩, by first | rfl | trivial⟩
            case measure => simp [intOf]; omega
    · have HRES := Lib.hid (show Ex.prod D (Tr.all a) ≤ M from by
        have h1 := HM.out
        have h2 := congrArg List.length h1
        rw [List.length_map] at h2
        have h3 := hpz.out
        rw [List.take_of_length_le (by have := HN.out; omega)] at h3
        have h4 := Tr.all_at a
        rcases h3.2 with h5 | h5
        · exfalso
          have h6 := congrArg List.length h4
          rw [List.length_append, List.length_singleton] at h6
          have := HN.out
          omega
        · rw [← h3.1]; exact h5)
      have hd : decide (Ex.prod D (Tr.all a) ≤ M) = true := decide_eq_true HRES.out
      have HDD := Lib.hid hd
      have i2 : ¬ ((q : Int) < (n : Int)) := by omega
      clear hd hlt
      go_wp2_with fail
      go_ret
      exact ⟨by rw [HDD.out]; rfl, hb02⟩
end Go.Proofs.YtpaaibghfhnicaaGreatDoor
