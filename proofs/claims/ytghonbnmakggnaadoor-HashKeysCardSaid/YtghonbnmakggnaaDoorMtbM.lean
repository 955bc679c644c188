/-
  THE DOCUMENT's ANSWERS OF LAYER 13: a table's row; are two tuples the same; are two lists?
-/
import Derived.Test.YtghonbnmakggnaaDoorMtaM
import Derived.Test.YtghonbnmakggnaaDoorGBase
import Derived.WalkKit
import Derived.WalkSpells
namespace Go.Proofs.YtghonbnmakggnaaDoor
open Go.RowKit Go.Sort
set_option maxHeartbeats 1600000

section
variable (z : Bool) (n : Int) (z' : Bool) (n' : Int) (w : World)
theorem val_ne :
    (binOp .neq 33 (.agg #[.bool z, .int .i64 n]) (.agg #[.bool z', .int .i64 n'])).run Tryd.prog w = .ok (.bool (!decide ((z, n) = (z', n')))) w := by
  go_simp
  by_cases e4 : z = z' <;> by_cases e5 : n = n' <;> simp [e4, e5]
end
set_option maxRecDepth 100000 in
theorem r13row_any (T : Nat → Prop) (v : Value) (t : List (List Vl)) (i : Nat) (w : World) (hv : RwsOn T w v t) (hi : i ≤ 1000) :
    Calls Tryd.prog 38 #[v, .int .i64 (i : Int)] w fun e w' => ∃ A c, e = .returned (.slice A (Mt.row t i).length c) ∧ RowOn T w (.slice A (Mt.row t i).length c) (Mt.row t i) ∧ w = w' := by
  obtain ⟨A, c, rfl, hc⟩ := hv.form
  have h0 : ¬ ((i : Int) < 0) := by omega
  by_cases h : i < t.length
  · obtain ⟨b, o, p, B, d, rfl, _, _, hcell, _, hrow⟩ := hv.at_ (Mt.row_mem h)
    have i1 : (0 : Int) ≤ (i : Int) := by omega
    have i2 : (i : Int) < (t.length : Int) := by omega
    have i3 : ¬ ((t.length : Int) ≤ (i : Int)) := by omega
    have HR := Lib.hid hrow
    clear hrow hv h
    generalize t.length = n at *
    generalize (Mt.row t i).length = m at *
    go_enter Tryd.func38, Tryd.ntmps38
    go_wp2_with fail
    go_ret
    exact ⟨B, d, rfl, HR.out, rfl⟩
  · have i3 : ((t.length : Int) ≤ (i : Int)) := by omega
    have HR := Lib.hid (Mt.row_out (show t.length ≤ i by omega))
    clear hv h
    generalize t.length = n at *
    go_enter Tryd.func38, Tryd.ntmps38
    go_wp2_with fail
    go_ret
    exact ⟨none, 0, by rw [HR.out]; rfl, by rw [HR.out]; exact RowOn.nil T w, rfl⟩
theorem Mt.row_ext {x y : List Vl} (h : x.length = y.length) (hx : ∀ (j : Nat) (p q : Vl), x[j]? = some p → y[j]? = some q → p = q) : x = y := by
  refine List.ext_getElem? fun j => ?_
  by_cases hj : j < x.length
  · rw [List.getElem?_eq_getElem hj, List.getElem?_eq_getElem (show j < y.length by omega)]
    rw [hx j _ _ (List.getElem?_eq_getElem hj) (List.getElem?_eq_getElem (show j < y.length by omega))]
  · rw [List.getElem?_eq_none (by omega), List.getElem?_eq_none (by omega)]
set_option maxRecDepth 100000 in
theorem r13same_any (T : Nat → Prop) (u v : Value) (a b : List (List Vl)) (w : World) (hu : RwsOn T w u a) (hv : RwsOn T w v b) (ha : a.length ≤ 1000) (hb : b.length ≤ 1000) (ha2 : ∀ x ∈ a, x.length ≤ 1000000) (hb2 : ∀ x ∈ b, x.length ≤ 1000000) :
    Calls Tryd.prog 26 #[u, v] w fun e w' => e = .returned (.bool (Mt.same a b)) ∧ Below w.heap.size w w' := by
  obtain ⟨A, c, rfl, _⟩ := hu.form
  obtain ⟨A', c', rfl, _⟩ := hv.form
  have cu := fun (k : Nat) (wr : World) (h : Below w.heap.size w wr) (hk : k ≤ 1000) => r13row_any T _ a k wr (hu.below h (Nat.le_refl _)) hk
  have cv := fun (k : Nat) (wr : World) (h : Below w.heap.size w wr) (hk : k ≤ 1000) => r13row_any T _ b k wr (hv.below h (Nat.le_refl _)) hk
  have hR : ∀ (t : List (List Vl)) (k : Nat), (∀ x ∈ t, x.length ≤ 1000000) → (Mt.row t k).length ≤ 1000000 := fun t k ht => by
    by_cases h : k < t.length
    · exact ht _ (List.mem_of_getElem? (Mt.row_mem h))
    · rw [Mt.row_out (by omega)]; simp
  have HRA := Lib.hid fun k => hR a k ha2
  have HRB := Lib.hid fun k => hR b k hb2
  have CU := Lib.hid cu
  have CV := Lib.hid cv
  obtain ⟨n, hn⟩ : ∃ n, n = a.length := ⟨_, rfl⟩
  obtain ⟨m, hm⟩ : ∃ m, m = b.length := ⟨_, rfl⟩
  rw [← hn] at CU ha ⊢
  rw [← hm] at CV hb ⊢
  have HN := Lib.hid (And.intro hn hm)
  clear hu hv cu cv hR ha2 hb2 hn hm
  go_enter Tryd.func26, Tryd.ntmps26
  go_wp2_with fail
  go_loopw [5] (fun i wr => ∃ k : Nat, k ≤ 1000 ∧ i = .int .i64 k ∧ Hid (k ≤ max n m ∧ ∀ j, j < k → Mt.row a j = Mt.row b j) ∧ Below w.heap.size w wr) (fun i _ => 1000 - (intOf i).toNat)
  case atStart => exact ⟨0, by omega, rfl, Lib.hid ⟨by omega, fun j h => by omega⟩, Below.refl _ _⟩
  case round =>
    obtain ⟨k, hk, rfl, hz, hb⟩ := hrel
    by_cases hlt : k < n ∨ k < m
    · have hk1 : k < 1000 := by omega
      have test : (decide ((k : Int) < (n : Int)) || decide ((k : Int) < (m : Int))) = true := by
        rcases hlt with h | h
        · rw [decide_eq_true (by omega)]; rfl
        · rw [decide_eq_true (show (k : Int) < (m : Int) by omega)]; simp
      have hlx := Lib.hid (show k + 1 ≤ max n m by omega)
      obtain ⟨x, hx⟩ : ∃ x, x = Mt.row a k := ⟨_, rfl⟩
      obtain ⟨y, hy⟩ : ∃ y, y = Mt.row b k := ⟨_, rfl⟩
      have c1 := CU.out k wr hb hk
      have c2 := CV.out k wr hb hk
      have hxl := HRA.out k
      have hyl := HRB.out k
      rw [← hx] at c1 hxl
      rw [← hy] at c2 hyl
      have HX := Lib.hid hx
      have HY := Lib.hid hy
      have hcase : decide ((k : Int) < (n : Int)) = true ∨ (decide ((k : Int) < (n : Int)) = false ∧ decide ((k : Int) < (m : Int)) = true) := by
        by_cases g2 : k < n
        · exact .inl (decide_eq_true (by omega))
        · exact .inr ⟨decide_eq_false (by omega), decide_eq_true (by omega)⟩
      have hres : Hid (¬ x = y → false = Mt.same a b) := Lib.hid fun hne => by
        symm
        refine decide_eq_false fun h => hne ?_
        rw [HX.out, HY.out]
        exact h k (by have := HN.out; have := hlx.out; omega)
      have hnext : Hid (x = y → k + 1 ≤ max n m ∧ ∀ j, j < k + 1 → Mt.row a j = Mt.row b j) := Lib.hid fun he => ⟨hlx.out, fun j hj => by
        rcases Nat.lt_or_eq_of_le (Nat.le_of_lt_succ hj) with g | g
        · exact hz.out.2 j g
        · subst g; rw [← HX.out, ← HY.out]; exact he⟩
      clear hx hy test hlt hlx
      rcases hcase with t1 | ⟨t1, t2⟩
      all_goals
        try have t1' := of_decide_eq_true t1
        try have t1' := of_decide_eq_false t1
        try have t2' := of_decide_eq_true t2
        go_wp2_with fail
        refine c1.mono ?_
        rintro e w1 ⟨A1, d1, rfl, hr1, rfl⟩
        clear c1
        go_wp2_with fail
        refine c2.mono ?_
        rintro e w2 ⟨A2, d2, rfl, hr2, rfl⟩
        clear c2
        try clear t2 t2'
        clear t1 t1'
        have hp1 := fun (j : Nat) (q : Vl) (hj : x[j]? = some q) => hr1.at_.pair hj
        have hp2 := fun (j : Nat) (q : Vl) (hj : y[j]? = some q) => hr2.at_.pair hj
        have HP1 := Lib.hid hp1
        have HP2 := Lib.hid hp2
        clear hp1 hp2 hr1 hr2
        obtain ⟨s, hs⟩ : ∃ s, s = x.length := ⟨_, rfl⟩
        obtain ⟨s', hs'⟩ : ∃ s, s = y.length := ⟨_, rfl⟩
        rw [← hs] at hxl ⊢
        rw [← hs'] at hyl ⊢
        have HS := Lib.hid (And.intro hs hs')
        clear hs hs'
        by_cases hss : s = s'
        · subst hss
          go_wp2_with fail
          go_loopw [8] (fun i wr' => ∃ q : Nat, q ≤ s ∧ i = .int .i64 q ∧ Hid (∀ (j : Nat) (p p' : Vl), j < q → x[j]? = some p → y[j]? = some p' → p = p') ∧ Below wr.heap.size wr wr') (fun i _ => s - (intOf i).toNat)
          case atStart => exact ⟨0, Nat.zero_le _, rfl, Lib.hid fun j p p' h => by omega, Below.refl _ _⟩
          case round =>
            obtain ⟨q, hq, rfl, hqz, hb2⟩ := hrel
            by_cases hlq : q < s
            · obtain ⟨p, gp⟩ : ∃ p, x[q]? = some p := ⟨x[q]'(by have := HS.out; omega), List.getElem?_eq_getElem _⟩
              obtain ⟨p', gp'⟩ : ∃ p, y[q]? = some p := ⟨y[q]'(by have := HS.out; omega), List.getElem?_eq_getElem _⟩
              obtain ⟨b1, o1, p1, rfl, _, h1⟩ := HP1.out q p gp
              obtain ⟨b2, o2, p2, rfl, _, h2⟩ := HP2.out q p' gp'
              have i1 : (0 : Int) ≤ (q : Int) := by omega
              have i2 : (q : Int) < (s : Int) := by omega
              have y1 := cell_regrown (h1 _ hb2).1
              have y2 := cell_regrown (h1 _ hb2).2
              have y3 := cell_regrown (h2 _ hb2).1
              have y4 := cell_regrown (h2 _ hb2).2
              have hne := fun W => val_ne p.1 p.2 p'.1 p'.2 W
              obtain ⟨d, hd⟩ : ∃ d : Bool, d = decide ((p.1, p.2) = (p'.1, p'.2)) := ⟨_, rfl⟩
              rw [← hd] at hne
              have HD := Lib.hid hd
              have GP := Lib.hid (And.intro gp gp')
              clear h1 h2 gp gp' hd
              go_wp2_with (fail)
              refine wp_region_quiet_below (by kernel_rfl) (by kernel_rfl) ?_
              repeat (go_big_quiet_step (fail))
              refine wpQuiet_nil ?_
              intro _ hw'
              obtain ⟨⟨dq, osq⟩, hw''⟩ := hw'
              subst hw''
              have hb3 := below_join hb2 (below_regrown wr dq osq)
              clear y1 y2 y3 y4 i1 i2 hb2 hne
              generalize grow (redrawn wr dq) osq = w7 at hb3 ⊢
              cases d
              · have hr := Lib.hid (hres.out fun e => by
                  have h := HD.out
                  have g1 := GP.out.1
                  rw [e, GP.out.2] at g1
                  have g1 := Option.some.inj g1
                  rw [g1] at h
                  simp at h)
                go_wp2_with (fail)
                go_ret
                exact ⟨ret_bool hr.out, below_join hb hb3⟩
              · have hq2 : Hid (∀ (j : Nat) (p p' : Vl), j < q + 1 → x[j]? = some p → y[j]? = some p' → p = p') := Lib.hid fun j r r' hj hx hy => by
                  rcases Nat.lt_or_eq_of_le (Nat.le_of_lt_succ hj) with g | g
                  · exact hqz.out j r r' g hx hy
                  · subst g
                    rw [GP.out.1] at hx; rw [GP.out.2] at hy
                    cases hx; cases hy
                    exact of_decide_eq_true HD.out.symm
                go_wp2_with (fail)
                go_roundw
                case rel => exact ⟨q + 1, by omega, by go_num, hq2, hb3⟩
                case measure => simp [intOf]; omega
            · have hxy : x = y := by
                obtain ⟨g1, g2⟩ := HS.out
                exact Mt.row_ext (by omega) fun j p p' h1 h2 => hqz.out j p p' (by have := (List.getElem?_eq_some_iff.1 h1).1; omega) h1 h2
              have hn2 := Lib.hid (hnext.out hxy)
              clear hxy
              go_wp2_with fail
              go_roundw
              case rel => exact ⟨k + 1, by omega, by go_num, hn2, below_join hb hb2⟩
              case measure => simp [intOf]; omega
        · have hss2 : ((s : Int) != (s' : Int)) = true := by simpa using fun h => hss (by omega)
          have hss3 : ¬ ((s : Int) = (s' : Int)) := fun h => hss (by omega)
          have hr := Lib.hid (hres.out fun e => hss (by have := HS.out; rw [this.1, this.2, e]))
          clear hss
          go_wp2_with fail
          go_ret
          exact ⟨ret_bool hr.out, hb⟩
    · have hn1 : ¬ ((k : Int) < (n : Int)) := by omega
      have hm1 : ¬ ((k : Int) < (m : Int)) := by omega
      have hr : Hid (true = Mt.same a b) := Lib.hid (by
        symm
        refine decide_eq_true fun j hj => hz.out.2 j ?_
        have := HN.out
        omega)
      clear hlt
      go_wp2_with fail
      go_ret
      exact ⟨ret_bool hr.out, hb⟩
set_option maxRecDepth 100000 in
theorem r13list_any (T : Nat → Prop) (u v : Value) (r s : List (List (List Vl))) (w : World) (hu : TusOn T w u r) (hv : TusOn T w v s) (hr2 : ∀ x ∈ r, x.length ≤ 1000) (hs2 : ∀ x ∈ s, x.length ≤ 1000) (hr3 : ∀ x ∈ r, ∀ y ∈ x, y.length ≤ 1000000) (hs3 : ∀ x ∈ s, ∀ y ∈ x, y.length ≤ 1000000) (hr : r.length ≤ 1000000) (hs : s.length ≤ 1000000) :
    Calls Tryd.prog 12 #[u, v] w fun e w' => e = .returned (.bool (Mt.list r s)) ∧ Below w.heap.size w w' := by
  obtain ⟨A, c, rfl, _⟩ := hu.form
  obtain ⟨A', c', rfl, _⟩ := hv.form
  have hpu := fun (j : Nat) (x : List (List Vl)) (hj : r[j]? = some x) => hu.pick hj
  have HR2 := Lib.hid (And.intro hr2 hr3)
  have hpv := fun (j : Nat) (x : List (List Vl)) (hj : s[j]? = some x) => hv.pick hj
  have HS2 := Lib.hid (And.intro hs2 hs3)
  clear hr2 hs2 hr3 hs3
  have HU := Lib.hid hpu
  have HV := Lib.hid hpv
  obtain ⟨n, hn⟩ : ∃ n, n = r.length := ⟨_, rfl⟩
  obtain ⟨m, hm⟩ : ∃ m, m = s.length := ⟨_, rfl⟩
  rw [← hn] at hr ⊢
  rw [← hm] at hs ⊢
  have HN := Lib.hid (And.intro hn hm)
  clear hpu hpv hu hv hn hm
  by_cases hnm : n = m
  · subst hnm
    have hS := Below.refl w.heap.size w
    go_enter Tryd.func12, Tryd.ntmps12
    go_wp2_with (fail)
    go_loopw [5] (fun i wr => ∃ (k : Nat), k ≤ n ∧ i = .int .i64 k ∧ Hid (∀ j, j < k → Mt.same (Mt.tup r j) (Mt.tup s j) = true) ∧ Below w.heap.size w wr) (fun i _ => n - (intOf i).toNat)
    case atStart => exact ⟨0, Nat.zero_le _, rfl, Lib.hid fun j h => by omega, hS⟩
    case round =>
     obtain ⟨k, hk, rfl, hz, hb⟩ := hrel
     by_cases hlt : k < n
     · obtain ⟨x, gx⟩ : ∃ x, r[k]? = some x := ⟨r[k]'(by have := HN.out; omega), List.getElem?_eq_getElem _⟩
       obtain ⟨y, gy⟩ : ∃ y, s[k]? = some y := ⟨s[k]'(by have := HN.out; omega), List.getElem?_eq_getElem _⟩
       obtain ⟨b1, o1, p1, B1, d1, rfl, _, h1⟩ := HU.out k x gx
       obtain ⟨b2, o2, p2, B2, d2, rfl, _, h2⟩ := HV.out k y gy
       have i1 : (0 : Int) ≤ (k : Int) := by omega
       have i2 : (k : Int) < (n : Int) := by omega
       have y1 := cell_regrown (h1 wr hb).1
       have y3 := cell_regrown (h2 wr hb).1
       obtain ⟨d, hd⟩ : ∃ d : Bool, d = Mt.same x y := ⟨_, rfl⟩
       have cc := in_class (W0 := wr) fun W h => r13same_any T _ _ x y W ((h1 wr hb).2.below h (Nat.le_refl _)) ((h2 wr hb).2.below h (Nat.le_refl _)) (HR2.out.1 x (List.mem_of_getElem? gx)) (HS2.out.1 y (List.mem_of_getElem? gy)) (HR2.out.2 x (List.mem_of_getElem? gx)) (HS2.out.2 y (List.mem_of_getElem? gy))
       rw [← hd] at cc
       have HD := Lib.hid hd
       have GX := Lib.hid (Mt.tup_at gx)
       have GY := Lib.hid (Mt.tup_at gy)
       clear h1 h2 gx gy hd
       generalize x.length = xl at *
       generalize y.length = yl at *
       go_wp2_with (fail)
       refine wp_region_quiet_below (by kernel_rfl) (by kernel_rfl) ?_
       repeat (go_big_quiet_step (with_reducible exact cc _ _))
       refine wpQuiet_nil ?_
       intro _ hw'
       obtain ⟨⟨dq, osq⟩, hw''⟩ := hw'
       subst hw''
       have hb2 := below_join hb (below_regrown wr dq osq)
       clear y1 y3 i1 i2 hb cc
       generalize grow (redrawn wr dq) osq = w7 at hb2 ⊢
       cases d
       · have hres : Hid (false = Mt.list r s) := Lib.hid (by
           symm
           refine decide_eq_false fun h => ?_
           have h2 := h.2 k (by have := HN.out; omega)
           rw [GX.out, GY.out, ← HD.out] at h2
           cases h2)
         go_wp2_with (fail)
         go_ret
         exact ⟨ret_bool hres.out, hb2⟩
       · have hz2 : Hid (∀ j, j < k + 1 → Mt.same (Mt.tup r j) (Mt.tup s j) = true) := Lib.hid fun j hj => by
           rcases Nat.lt_or_eq_of_le (Nat.le_of_lt_succ hj) with g | g
           · exact hz.out j g
           · subst g
             rw [GX.out, GY.out]; exact HD.out.symm
         go_wp2_with (fail)
         go_roundw
         case rel => exact ⟨k + 1, by omega, by go_num, hz2, hb2⟩
         case measure => simp [intOf]; omega
     · have hres : Hid (true = Mt.list r s) := Lib.hid (by
         symm
         obtain ⟨h1, h2⟩ := HN.out
         exact decide_eq_true ⟨by omega, fun j hj => hz.out j (by omega)⟩)
       go_wp2_with (fail)
       go_ret
       exact ⟨ret_bool hres.out, hb⟩
  · have hnm2 : ((n : Int) != (m : Int)) = true := by simpa using fun h => hnm (by omega)
    have hnm3 : ¬ ((n : Int) = (m : Int)) := fun h => hnm (by omega)
    have hres : Hid (false = Mt.list r s) := Lib.hid (by
      symm
      refine decide_eq_false fun h => hnm ?_
      obtain ⟨h1, h2⟩ := HN.out
      have := h.1
      omega)
    clear hnm
    go_enter Tryd.func12, Tryd.ntmps12
    go_wp2_with (fail)
    go_ret
    exact ⟨ret_bool hres.out, Below.refl _ _⟩
end Go.Proofs.YtghonbnmakggnaaDoor
