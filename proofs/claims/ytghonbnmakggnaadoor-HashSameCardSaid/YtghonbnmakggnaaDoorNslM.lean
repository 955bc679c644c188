/-
  WHICH TUPLES ARE LIGHT (the statements' own bound).
-/
import Derived.Test.YtghonbnmakggnaaDoorMtjM
import Derived.Test.YtghonbnmakggnaaDoorNsmM
namespace Go.Proofs.YtghonbnmakggnaaDoor
open Go.RowKit Go.Sort
set_option maxHeartbeats 3200000

def Light14 (w : World) (ps : List Pd) (l r : List (List (List Vl))) (E : Ending) (w' : World) : Prop :=
  ∃ b : Bool, E = .returned (.bool b) ∧ (b = true → Ns.light ps l r) ∧ Below w.heap.size w w'
/-- two lists of tuples, one behind the other, in a row of the call's own -/
theorem tus_both {w' : World} {base n : Nat} {v : Value} {us vs : List Value} {ts xs : List (List (List Vl))} (hown : w'.ownsRow base 25 1 v n (us ++ vs)) (h : ∀ (i : Nat) (x : List (List Vl)), ts[i]? = some x → ∃ u, us[i]? = some u ∧ RwsOn Al w' u x) (hl : us.length = ts.length) (h2 : ∀ (i : Nat) (x : List (List Vl)), xs[i]? = some x → ∃ u, vs[i]? = some u ∧ RwsOn Al w' u x) (hl2 : vs.length = xs.length := by omega) : TusOn Al w' v (ts ++ xs) := by
  refine ⟨us ++ vs, (SlOn.own hown).mono fun _ _ _ => trivial, by rw [List.length_append, List.length_append, hl, hl2], fun i x hi => ?_⟩
  by_cases e : i < ts.length
  · rw [List.getElem?_append_left e] at hi
    obtain ⟨y, h1, h2⟩ := h i x hi
    exact ⟨y, by rw [List.getElem?_append_left (by omega)]; exact h1, h2⟩
  · rw [List.getElem?_append_right (by omega)] at hi
    obtain ⟨y, h1, h2⟩ := h2 _ x hi
    exact ⟨y, by rw [List.getElem?_append_right (by omega), hl]; exact h1, h2⟩
set_option maxRecDepth 100000 in
theorem nlight_any (d : Nat) (cv lv rv : Value) (ps : List Pd) (l r : List (List (List Vl))) (w : World) (hp : PsAt d w cv ps) (hl : TusOn Al w lv l) (hr : TusOn Al w rv r) (hf : Formed rv) (hfl : Formed lv) :
    Calls Tryd.prog 5 #[cv, lv, rv] w (Light14 w ps l r) := by
  obtain ⟨i0, hi, hz0, hz1, hz2⟩ := info_parts Tryd.infoTup13
  obtain ⟨us, hr⟩ := hr
  have hcame := tus_came hr hf
  have hones := tus_ones hr
  obtain ⟨vs, hl⟩ := hl
  have hcamel := tus_came hl hfl
  have honesl := tus_ones hl
  obtain ⟨P0, p0, rfl, hpl⟩ := hp.form
  obtain ⟨L0, c0, rfl, _⟩ := (show TusOn Al w lv l from ⟨vs, hl⟩).form
  obtain ⟨R0, c1, rfl, _⟩ := (show TusOn Al w rv r from ⟨us, hr⟩).form
  have HP := Lib.hid hp
  have HL := Lib.hid hl
  have HR := Lib.hid hr
  have hul := hr.len
  have hvl := hl.len
  obtain ⟨n, hn⟩ : ∃ n, n = ps.length := ⟨_, rfl⟩
  rw [← hn] at HP hpl ⊢
  obtain ⟨m, hm⟩ : ∃ m, m = r.length := ⟨_, rfl⟩
  rw [← hm] at HR hul hcame ⊢
  obtain ⟨k, hk⟩ : ∃ m, m = l.length := ⟨_, rfl⟩
  rw [← hk] at HL hvl hcamel ⊢
  have HN := Lib.hid (And.intro hn (And.intro hm hk))
  have HCAME := Lib.hid (And.intro hcame (And.intro hones hul))
  have HCAMEL := Lib.hid (And.intro hcamel (And.intro honesl hvl))
  clear hp hl hr hf hfl hn hm hk hcame hones hul hcamel honesl hvl
  have no : ∀ W, Below w.heap.size w W → Light14 w ps l r (.returned (.bool false)) W := fun W h => ⟨false, rfl, (fun h => by cases h), h⟩
  have NO := Lib.hid no
  clear no
  by_cases hbig : 10 < n ∨ 40 < m ∨ 40 < k
  · have hcase : decide ((10 : Int) < (n : Int)) = true ∨ (decide ((10 : Int) < (n : Int)) = false ∧ decide ((40 : Int) < (m : Int)) = true) ∨ (decide ((10 : Int) < (n : Int)) = false ∧ decide ((40 : Int) < (m : Int)) = false ∧ decide ((40 : Int) < (k : Int)) = true) := by
      by_cases g : 10 < n
      · exact .inl (decide_eq_true (by omega))
      · by_cases g2 : 40 < m
        · exact .inr (.inl ⟨decide_eq_false (by omega), decide_eq_true (by omega)⟩)
        · exact .inr (.inr ⟨decide_eq_false (by omega), decide_eq_false (by omega), decide_eq_true (by omega)⟩)
    clear hbig
    rcases hcase with t1 | ⟨t1, t2⟩ | ⟨t1, t2, t3⟩
    all_goals
      try have t1' := of_decide_eq_true t1
      try have t1' := of_decide_eq_false t1
      try have t2' := of_decide_eq_true t2
      try have t2' := of_decide_eq_false t2
      try have t3' := of_decide_eq_true t3
      go_enter Tryd.func5, Tryd.ntmps5
      go_wp2_with fail
      go_ret
      exact NO.out _ (Below.refl _ _)
  · have hn10 : n ≤ 10 := by omega
    have hm40 : m ≤ 40 := by omega
    have hk40 : k ≤ 40 := by omega
    have t1' : ¬ ((10 : Int) < (n : Int)) := by omega
    have t2' : ¬ ((40 : Int) < (m : Int)) := by omega
    have t3' : ¬ ((40 : Int) < (k : Int)) := by omega
    clear hbig
    go_enter Tryd.func5, Tryd.ntmps5
    go_wp2_with fail
    go_loopw [7] (fun i wr => ∃ q : Nat, q ≤ n ∧ i = .int .i64 q ∧ Hid (∀ (j : Nat) (p : Pd), j < q → ps[j]? = some p → Pr.size p ≤ 100) ∧ Below w.heap.size w wr) (fun i _ => n - (intOf i).toNat)
    case atStart => exact ⟨0, Nat.zero_le _, rfl, Lib.hid fun j p h => by omega, Below.refl _ _⟩
    case round =>
      obtain ⟨q, hq, rfl, hz, hb⟩ := hrel
      by_cases hlt : q < n
      · obtain ⟨p, gp⟩ : ∃ p, ps[q]? = some p := ⟨ps[q]'(by have := HN.out.1; omega), List.getElem?_eq_getElem _⟩
        have hu := HP.out
        rw [HN.out.1] at hu
        obtain ⟨e, b, o, s, v', he, rfl, _, hx⟩ := hu.at_ gp
        obtain ⟨hcell, hps⟩ := hx wr hb
        have cs := r6size_any e p.f v' p.ps 101 wr hps (by omega) (by omega)
        have hpe : Pr.size (.mk p.f p.ps) = Pr.size p := by cases p; rfl
        rw [hpe] at cs
        have GP := Lib.hid gp
        obtain ⟨z, hz1⟩ : ∃ z, z = Pr.size p := ⟨_, rfl⟩
        rw [← hz1] at cs
        have HZ := Lib.hid hz1
        obtain ⟨q0, q1, q2, q3, q4, q5, q6, q7, q8, q9, q10, q11, q12, q13⟩ := hcell
        have i1 : (0 : Int) ≤ (q : Int) := by omega
        have i2 : (q : Int) < (n : Int) := by omega
        clear gp hx hps hu hz1 hpe hlt
        go_wp2_with fail
        refine cs.mono ?_
        rintro E w2 ⟨rfl, hb2⟩
        have hb' := below_join hb hb2
        clear cs q0 q1 q2 q3 q4 q5 q6 q7 q8 q9 q10 q11 q12 q13 hb2 hb
        by_cases hz100 : z ≤ 100
        · have e1 : min (z : Int) 101 = (z : Int) := by omega
          have i3 : ¬ ((100 : Int) < (z : Int)) := by omega
          have hz2 : Hid (∀ (j : Nat) (p : Pd), j < q + 1 → ps[j]? = some p → Pr.size p ≤ 100) := Lib.hid fun j p' hj hp' => by
            rcases Nat.lt_or_eq_of_le (Nat.le_of_lt_succ hj) with g | g
            · exact hz.out j p' g hp'
            · subst g
              rw [GP.out] at hp'
              cases hp'
              rw [← HZ.out]; exact hz100
          clear hz100
          go_wp2_with fail
          go_roundw
          case rel => exact ⟨q + 1, by omega, by go_num, hz2, hb'⟩
          case measure => simp [intOf]; omega
        · have e1 : min (z : Int) 101 = 101 := by omega
          clear hz100
          go_wp2_with fail
          go_ret
          exact NO.out _ hb'
      · have hqn : q = n := by omega
        have i2 : ¬ ((q : Int) < (n : Int)) := by omega
        have hall := Lib.hid (show ∀ p ∈ ps, Pr.size p ≤ 100 from fun p hp => by
          obtain ⟨j, hj, rfl⟩ := List.mem_iff_getElem.1 hp
          exact hz.out j _ (by have := HN.out.1; omega) (List.getElem?_eq_getElem hj))
        clear hlt hqn hz
        have hbn := hb.alloc hb.size (Obj.cells #[] 25)
        have HO1 := Lib.hid (own_empty wr 25 1 wr.heap.size (Nat.le_refl _) wr.heap.size rfl)
        have HC1 := Lib.hid (HCAME.out.1.below hbn (Nat.le_refl _))
        have HB0 := Lib.hid hb
        have hul := HCAME.out.2.2
        clear hb
        have hul1 : us.length ≤ 40 := by omega
        have hul2 := Lib.hid hul
        clear hul
        go_wp2_with (first
          | (at_builtin; refine wpList_append_came _ rfl _ _ 27 rfl wr.heap.size 25 i0 (.slice none 0 0) 24 Tryd.underlying27 hi hz0 hz1 hz2 rfl _ 0 [] rfl HO1.out _ us rfl HC1.out HCAME.out.2.1 (by unfold maxLen; omega) (by omega) (by simp) ?_))
        intro v2 w2 hown2 hg2
        have hb2 : Below w.heap.size w w2 := hbn.grown hg2 (by have := HB0.out.size; simp; omega) (fun k hk => by have h := (HO1.out.lt k hk).1; have := HB0.out.size; omega)
        have hws : wr.heap.size ≤ w2.heap.size := by have h := hg2.size; simp at h; omega
        have hown2 : w2.ownsRow wr.heap.size 25 1 v2 us.length us := by simpa using hown2
        have HOb := Lib.hid hown2
        have HB2 := Lib.hid hb2
        have HCL := Lib.hid (HCAMEL.out.1.below hb2 (Nat.le_refl _))
        have hvl := HCAMEL.out.2.2
        have hvl1 : vs.length ≤ 40 := by omega
        have hvl2 := Lib.hid hvl
        clear hown2 hg2 hb2 hbn hvl
        go_wp2_with (first
          | (at_builtin; refine wpList_append_came _ rfl _ _ 27 rfl wr.heap.size 25 i0 (.slice none 0 0) 24 Tryd.underlying27 hi hz0 hz1 hz2 rfl _ us.length us rfl HOb.out _ vs rfl HCL.out HCAMEL.out.2.1 (by unfold maxLen; omega) (by omega) (by omega) ?_))
        intro v3 w3 hown3 hg3
        have hb3 : Below w.heap.size w w3 := HB2.out.grown hg3 HB2.out.size (fun k hk => by have h := (HOb.out.lt k hk).1; have := HB0.out.size; omega)
        obtain ⟨A3, a3, rfl⟩ := ownsForm hown3
        have htus := tus_both (ts := r) (xs := l) hown3 (fun i x hi => by obtain ⟨u, h1, h2⟩ := HR.out.tup i x hi; exact ⟨u, h1, h2.below hb3 (Nat.le_refl _)⟩) (by rw [hul2.out, HN.out.2.1]) (fun i x hi => by obtain ⟨u, h1, h2⟩ := HL.out.tup i x hi; exact ⟨u, h1, h2.below hb3 (Nat.le_refl _)⟩) (by rw [hvl2.out, HN.out.2.2])
        have HT3 := Lib.hid htus
        have hul3 : us.length + vs.length = m + k := by rw [hul2.out, hvl2.out]
        rw [hul3] at HT3 ⊢
        have HB3 := Lib.hid hb3
        clear hown3 hg3 htus hul3 hb3 hws
        go_wp2_with fail
        go_loopw [9] (fun i wr' => ∃ q : Nat, q ≤ m + k ∧ i = .int .i64 q ∧ Hid (∀ (j : Nat) (t : List (List Vl)), j < q → (r ++ l)[j]? = some t → t.length ≤ 66 ∧ ∀ x ∈ t, x.length ≤ 10) ∧ Below w3.heap.size w3 wr') (fun i _ => m + k - (intOf i).toNat)
        case atStart => exact ⟨0, Nat.zero_le _, rfl, Lib.hid fun j t h => by omega, Below.refl _ _⟩
        case round =>
          obtain ⟨q2, hq2, rfl, hz, hb4⟩ := hrel
          by_cases hlt : q2 < m + k
          · obtain ⟨t, gt⟩ : ∃ t, (r ++ l)[q2]? = some t := ⟨(r ++ l)[q2]'(by have := HN.out.2.1; have := HN.out.2.2; simp; omega), List.getElem?_eq_getElem _⟩
            obtain ⟨b1, o1, p1, B1, d1, rfl, _, h1⟩ := HT3.out.pick gt
            have HH1 := Lib.hid h1
            have i1 : (0 : Int) ≤ (q2 : Int) := by omega
            have i2 : (q2 : Int) < ((m + k : Nat) : Int) := by omega
            have i2' : (q2 : Int) < (m : Int) + (k : Int) := by omega
            have y0 := (h1 _ hb4).1
            obtain ⟨tl, htl⟩ : ∃ n, n = t.length := ⟨_, rfl⟩
            rw [← htl] at y0 HH1
            have GT := Lib.hid (And.intro gt htl)
            clear h1 gt htl hlt
            by_cases h66 : 66 < tl
            · have i3 : (66 : Int) < (tl : Int) := by omega
              have hno := Lib.hid (NO.out wr (HB3.out.trans (below_low hb4 HB3.out.size)))
              clear h66
              go_wp2_with fail
              go_ret
              exact hno.out
            · have i3 : ¬ ((66 : Int) < (tl : Int)) := by omega
              clear y0
              have y0 := (HH1.out _ hb4).1
              go_wp2_with fail
              go_loopw [10] (fun i wr' => ∃ j : Nat, j ≤ tl ∧ i = .int .i64 j ∧ Hid (∀ (a : Nat) (x : List Vl), a < j → t[a]? = some x → x.length ≤ 10) ∧ Below w3.heap.size w3 wr') (fun i _ => tl - (intOf i).toNat)
              case atStart => exact ⟨0, Nat.zero_le _, rfl, Lib.hid fun j t h => by omega, hb4⟩
              case round =>
                obtain ⟨j, hj, rfl, hzj, hb5⟩ := hrel
                have y1 := (HH1.out _ hb5).1
                clear y0
                by_cases hlj : j < tl
                · obtain ⟨x, gx⟩ : ∃ x, t[j]? = some x := ⟨t[j]'(by have := GT.out.2; omega), List.getElem?_eq_getElem _⟩
                  obtain ⟨b2, o2, p2, B2, d2, hB, _, h2⟩ := (HH1.out _ hb5).2.pick gx
                  subst hB
                  have y2 := (h2 _ (Below.refl _ _)).1
                  have i4 : (0 : Int) ≤ (j : Int) := by omega
                  have i5 : (j : Int) < (tl : Int) := by omega
                  obtain ⟨xl, hxl⟩ : ∃ n, n = x.length := ⟨_, rfl⟩
                  rw [← hxl] at y2
                  have GX := Lib.hid (And.intro gx hxl)
                  clear h2 gx hxl
                  by_cases h10 : 10 < xl
                  · have i6 : (10 : Int) < (xl : Int) := by omega
                    have hno := Lib.hid (NO.out wr (HB3.out.trans (below_low hb5 HB3.out.size)))
                    clear h10
                    go_wp2_with fail
                    go_ret
                    exact hno.out
                  · have i6 : ¬ ((10 : Int) < (xl : Int)) := by omega
                    have hz2 : Hid (∀ (a : Nat) (x : List Vl), a < j + 1 → t[a]? = some x → x.length ≤ 10) := Lib.hid fun a x' ha hx' => by
                      rcases Nat.lt_or_eq_of_le (Nat.le_of_lt_succ ha) with g | g
                      · exact hzj.out a x' g hx'
                      · subst g
                        rw [GX.out.1] at hx'
                        cases hx'
                        have := GX.out.2
                        omega
                    clear h10
                    go_wp2_with fail
                    go_roundw
                    case rel => exact ⟨j + 1, by omega, by go_num, hz2, hb5⟩
                    case measure => simp [intOf]; omega
                · have hz2 : Hid (∀ (j : Nat) (t : List (List Vl)), j < q2 + 1 → (r ++ l)[j]? = some t → t.length ≤ 66 ∧ ∀ x ∈ t, x.length ≤ 10) := Lib.hid fun a t' ha ht' => by
                    rcases Nat.lt_or_eq_of_le (Nat.le_of_lt_succ ha) with g | g
                    · exact hz.out a t' g ht'
                    · subst g
                      rw [GT.out.1] at ht'
                      cases ht'
                      have := GT.out.2
                      refine ⟨by omega, fun x hx => ?_⟩
                      obtain ⟨a2, ha2, rfl⟩ := List.mem_iff_getElem.1 hx
                      exact hzj.out a2 _ (by omega) (List.getElem?_eq_getElem ha2)
                  have i5 : ¬ ((j : Int) < (tl : Int)) := by omega
                  clear hlj h66
                  go_wp2_with fail
                  go_roundw
                  case rel => exact ⟨q2 + 1, by omega, by go_num, hz2, hb5⟩
                  case measure => simp [intOf]; omega
          · have i2 : ¬ ((q2 : Int) < ((m + k : Nat) : Int)) := by omega
            have i2' : ¬ ((q2 : Int) < (m : Int) + (k : Int)) := by omega
            have hres := Lib.hid (show Light14 w ps l r (.returned (.bool true)) wr from ⟨true, rfl, (fun _ => ⟨⟨by have := HN.out.1; omega, hall.out⟩, by have := HN.out.2.1; omega, by have := HN.out.2.2; omega, fun t ht => by
              obtain ⟨a, ha, rfl⟩ := List.mem_iff_getElem.1 ht
              exact hz.out a _ (by have := HN.out.2.1; have := HN.out.2.2; simp at ha; omega) (List.getElem?_eq_getElem ha)⟩), HB3.out.trans (below_low hb4 HB3.out.size)⟩)
            clear hlt
            go_wp2_with fail
            go_ret
            exact hres.out
end Go.Proofs.YtghonbnmakggnaaDoor
