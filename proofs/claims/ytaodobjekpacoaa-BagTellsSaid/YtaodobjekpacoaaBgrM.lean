/-
  THE DOCUMENT's ANSWERS OF LAYER 9 (but Sorted), bag's Times, and which lists are few.
-/
import Derived.Test.YtaodobjekpacoaaBgaM
namespace Go.Proofs.Ytaodobjekpacoaa
open Go.RowKit Go.Sort
set_option maxHeartbeats 1600000

theorem Bg.cv_zero (x y : Vl) : decide (Bg.cv x y = 0) = Va.same x.1 x.2 y.1 y.2 := by
  unfold Bg.cv
  cases Va.same x.1 x.2 y.1 y.2 <;> cases Va.less x.1 x.2 y.1 y.2 <;> simp
theorem Bg.cv_less (x y : Vl) (h : Va.same x.1 x.2 y.1 y.2 = false) : decide (Bg.cv x y < 0) = Va.less x.1 x.2 y.1 y.2 := by
  unfold Bg.cv
  rw [h]
  cases Va.less x.1 x.2 y.1 y.2 <;> simp
theorem Bg.lex_no {α : Type} {f : α → α → Int} {a b : List α} (h : a.length ≠ b.length) : Bg.lex f a b ≠ 0 := fun e => h (Bg.lex_zero.1 e).1
set_option maxRecDepth 100000 in
theorem r9same_any (u v : Value) (r s : List Vl) (w : World) (hu : RowAt w u r) (hv : RowAt w v s) (hr : r.length ≤ 4611686018427387904) (hs : s.length ≤ 4611686018427387904) :
    Calls Try.prog 11 #[u, v] w fun e w' => e = .returned (.bool (decide (Bg.cr r s = 0))) ∧ Below w.heap.size w w' := by
  obtain ⟨A, c, rfl, _, _⟩ := id hu
  obtain ⟨A', c', rfl, _, _⟩ := id hv
  have hpu := fun (j : Nat) (x : Vl) (hj : r[j]? = some x) => hu.pair hj
  have hpv := fun (j : Nat) (x : Vl) (hj : s[j]? = some x) => hv.pair hj
  have HU := Lib.hid hpu
  have HV := Lib.hid hpv
  obtain ⟨n, hn⟩ : ∃ n, n = r.length := ⟨_, rfl⟩
  obtain ⟨m, hm⟩ : ∃ m, m = s.length := ⟨_, rfl⟩
  rw [← hn] at hr ⊢
  rw [← hm] at hs ⊢
  have HN := Lib.hid (And.intro hn hm)
  clear hpu hpv hu hv hn hm
  by_cases hnm : n = m
  · subst hnm
    have hS := Below.refl w.heap.size w
    go_enter Try.func11, Try.ntmps11
    go_wp2_with (fail)
    go_loopw [5] (fun i wr => ∃ (k : Nat), k ≤ n ∧ i = .int .i64 k ∧ Hid (∀ j x y, j < k → r[j]? = some x → s[j]? = some y → Bg.cv x y = 0) ∧ Below w.heap.size w wr) (fun i _ => n - (intOf i).toNat)
    case atStart => exact ⟨0, Nat.zero_le _, rfl, Lib.hid fun j x y h => by omega, hS⟩
    case round =>
     obtain ⟨k, hk, rfl, hz, hb⟩ := hrel
     by_cases hlt : k < n
     · obtain ⟨x, gx⟩ : ∃ x, r[k]? = some x := ⟨r[k]'(by have := HN.out; omega), List.getElem?_eq_getElem _⟩
       obtain ⟨y, gy⟩ : ∃ y, s[k]? = some y := ⟨s[k]'(by have := HN.out; omega), List.getElem?_eq_getElem _⟩
       obtain ⟨b1, o1, p1, rfl, hl1, h1⟩ := HU.out k x gx
       obtain ⟨b2, o2, p2, rfl, hl2, h2⟩ := HV.out k y gy
       have i1 : (0 : Int) ≤ (k : Int) := by omega
       have i2 : (k : Int) < (n : Int) := by omega
       have y1 := cell_regrown (h1 wr hb).1
       have y2 := cell_regrown (h1 wr hb).2
       have y3 := cell_regrown (h2 wr hb).1
       have y4 := cell_regrown (h2 wr hb).2
       obtain ⟨d, hd⟩ : ∃ d : Bool, d = decide (Bg.cv x y = 0) := ⟨_, rfl⟩
       have cc := in_class (W0 := wr) fun W _ => rsame_any x.1 y.1 x.2 y.2 W
       rw [← Bg.cv_zero, ← hd] at cc
       have HD := Lib.hid hd
       have GX := Lib.hid gx
       have GY := Lib.hid gy
       clear h1 h2 gx gy hd
       go_wp2_with (fail)
       refine wp_region_quiet_below (by kernel_rfl) (by kernel_rfl) ?_
       repeat (go_big_quiet_step (with_reducible exact cc _ _))
       refine wpQuiet_nil ?_
       intro _ hw'
       obtain ⟨⟨dq, osq⟩, hw''⟩ := hw'
       subst hw''
       have hb2 := below_join hb (below_regrown wr dq osq)
       clear y1 y2 y3 y4 i1 i2 hb cc
       generalize grow (redrawn wr dq) osq = w7 at hb2 ⊢
       cases d
       · have hres : Hid (false = decide (Bg.cr r s = 0)) := Lib.hid (by
           symm
           rw [decide_eq_false_iff_not]
           intro e
           have h := HD.out
           rw [(Bg.lex_zero.1 e).2 k x y GX.out GY.out] at h
           simp at h)
         go_wp2_with (fail)
         go_ret
         exact ⟨ret_bool hres.out, hb2⟩
       · have hz2 : Hid (∀ j x y, j < k + 1 → r[j]? = some x → s[j]? = some y → Bg.cv x y = 0) := Lib.hid fun j x' y' hj hx hy => by
           rcases Nat.lt_or_eq_of_le (Nat.le_of_lt_succ hj) with g | g
           · exact hz.out j x' y' g hx hy
           · subst g
             rw [GX.out] at hx; rw [GY.out] at hy
             cases hx; cases hy
             simpa using HD.out.symm
         go_wp2_with (fail)
         go_roundw
         case rel => exact ⟨k + 1, by omega, by go_num, hz2, hb2⟩
         case measure => simp [intOf]; omega
     · have hres : Hid (true = decide (Bg.cr r s = 0)) := Lib.hid (by
         symm
         rw [decide_eq_true_iff]
         obtain ⟨h1, h2⟩ := HN.out
         exact Bg.lex_zero.2 ⟨by omega, fun j x y hx hy => hz.out j x y (by have := (List.getElem?_eq_some_iff.1 hx).1; omega) hx hy⟩)
       go_wp2_with (fail)
       go_ret
       exact ⟨ret_bool hres.out, hb⟩
  · have hnm2 : ((n : Int) != (m : Int)) = true := by simpa using fun h => hnm (by omega)
    have hnm3 : ¬ ((n : Int) = (m : Int)) := fun h => hnm (by omega)
    have hres : Hid (false = decide (Bg.cr r s = 0)) := Lib.hid (by
      symm
      rw [decide_eq_false_iff_not]
      obtain ⟨h1, h2⟩ := HN.out
      exact Bg.lex_no (by omega))
    clear hnm
    go_enter Try.func11, Try.ntmps11
    go_wp2_with (fail)
    go_ret
    exact ⟨ret_bool hres.out, Below.refl _ _⟩
set_option maxRecDepth 100000 in
theorem r9list_any (u v : Value) (vs us : List Value) (r s : List (List Vl)) (w : World) (hu : RwsOf w u vs r) (hv : RwsOf w v us s) (hr2 : ∀ x ∈ r, x.length ≤ 4611686018427387904) (hs2 : ∀ x ∈ s, x.length ≤ 4611686018427387904) (hr : r.length ≤ 4611686018427387904) (hs : s.length ≤ 4611686018427387904) :
    Calls Try.prog 12 #[u, v] w fun e w' => e = .returned (.bool (decide (Bg.lex Bg.cr r s = 0))) ∧ Below w.heap.size w w' := by
  obtain ⟨A, c, rfl, _, _⟩ := Rws.at_ ⟨vs, hu⟩
  obtain ⟨A', c', rfl, _, _⟩ := Rws.at_ ⟨us, hv⟩
  have hpu := fun (j : Nat) (x : List Vl) (hj : r[j]? = some x) => hu.pick hj
  have HR2 := Lib.hid hr2
  have hpv := fun (j : Nat) (x : List Vl) (hj : s[j]? = some x) => hv.pick hj
  have HS2 := Lib.hid hs2
  clear hr2 hs2
  have HU := Lib.hid hpu
  have HV := Lib.hid hpv
  obtain ⟨n, hn⟩ : ∃ n, n = r.length := ⟨_, rfl⟩
  obtain ⟨m, hm⟩ : ∃ m, m = s.length := ⟨_, rfl⟩
  rw [← hn] at hr ⊢
  rw [← hm] at hs ⊢
  have HN := Lib.hid (And.intro hn hm)
  clear hpu hpv hu hv hn hm
  by_cases hnm : n = m
  · subst hnm
    have hS := Below.refl w.heap.size w
    go_enter Try.func12, Try.ntmps12
    go_wp2_with (fail)
    go_loopw [5] (fun i wr => ∃ (k : Nat), k ≤ n ∧ i = .int .i64 k ∧ Hid (∀ j x y, j < k → r[j]? = some x → s[j]? = some y → Bg.cr x y = 0) ∧ Below w.heap.size w wr) (fun i _ => n - (intOf i).toNat)
    case atStart => exact ⟨0, Nat.zero_le _, rfl, Lib.hid fun j x y h => by omega, hS⟩
    case round =>
     obtain ⟨k, hk, rfl, hz, hb⟩ := hrel
     by_cases hlt : k < n
     · obtain ⟨x, gx⟩ : ∃ x, r[k]? = some x := ⟨r[k]'(by have := HN.out; omega), List.getElem?_eq_getElem _⟩
       obtain ⟨y, gy⟩ : ∃ y, s[k]? = some y := ⟨s[k]'(by have := HN.out; omega), List.getElem?_eq_getElem _⟩
       obtain ⟨b1, o1, p1, e1, rfl, h1⟩ := HU.out k x gx
       obtain ⟨b2, o2, p2, e2, rfl, h2⟩ := HV.out k y gy
       have i1 : (0 : Int) ≤ (k : Int) := by omega
       have i2 : (k : Int) < (n : Int) := by omega
       have y1 := cell_regrown (h1 wr hb).1
       have y3 := cell_regrown (h2 wr hb).1
       obtain ⟨d, hd⟩ : ∃ d : Bool, d = decide (Bg.cr x y = 0) := ⟨_, rfl⟩
       have cc := in_class (W0 := wr) fun W h => r9same_any _ _ x y W ((h1 wr hb).2.below h (Nat.le_refl _)) ((h2 wr hb).2.below h (Nat.le_refl _)) (HR2.out x (List.mem_of_getElem? gx)) (HS2.out y (List.mem_of_getElem? gy))
       rw [← hd] at cc
       have HD := Lib.hid hd
       have GX := Lib.hid gx
       have GY := Lib.hid gy
       clear h1 h2 gx gy hd
       go_wp2_with (fail)
       refine wp_region_quiet_below (by kernel_rfl) (by kernel_rfl) ?_
       repeat (go_big_quiet_step (with_reducible exact cc _ _))
       refine wpQuiet_nil ?_
       intro _ hw'
       obtain ⟨⟨dq, osq⟩, hw''⟩ := hw'
       subst hw''
       have hb2 := below_join hb (below_regrown wr dq osq)
       clear y1 y3 i1 i2 hb cc
       generalize grow (redrawn wr dq) osq = w7 at hb2 ⊢
       cases d
       · have hres : Hid (false = decide (Bg.lex Bg.cr r s = 0)) := Lib.hid (by
           symm
           rw [decide_eq_false_iff_not]
           intro e
           have h := HD.out
           rw [(Bg.lex_zero.1 e).2 k x y GX.out GY.out] at h
           simp at h)
         go_wp2_with (fail)
         go_ret
         exact ⟨ret_bool hres.out, hb2⟩
       · have hz2 : Hid (∀ j x y, j < k + 1 → r[j]? = some x → s[j]? = some y → Bg.cr x y = 0) := Lib.hid fun j x' y' hj hx hy => by
           rcases Nat.lt_or_eq_of_le (Nat.le_of_lt_succ hj) with g | g
           · exact hz.out j x' y' g hx hy
           · subst g
             rw [GX.out] at hx; rw [GY.out] at hy
             cases hx; cases hy
             simpa using HD.out.symm
         go_wp2_with (fail)
         go_roundw
         case rel => exact ⟨k + 1, by omega, by go_num, hz2, hb2⟩
         case measure => simp [intOf]; omega
     · have hres : Hid (true = decide (Bg.lex Bg.cr r s = 0)) := Lib.hid (by
         symm
         rw [decide_eq_true_iff]
         obtain ⟨h1, h2⟩ := HN.out
         exact Bg.lex_zero.2 ⟨by omega, fun j x y hx hy => hz.out j x y (by have := (List.getElem?_eq_some_iff.1 hx).1; omega) hx hy⟩)
       go_wp2_with (fail)
       go_ret
       exact ⟨ret_bool hres.out, hb⟩
  · have hnm2 : ((n : Int) != (m : Int)) = true := by simpa using fun h => hnm (by omega)
    have hnm3 : ¬ ((n : Int) = (m : Int)) := fun h => hnm (by omega)
    have hres : Hid (false = decide (Bg.lex Bg.cr r s = 0)) := Lib.hid (by
      symm
      rw [decide_eq_false_iff_not]
      obtain ⟨h1, h2⟩ := HN.out
      exact Bg.lex_no (by omega))
    clear hnm
    go_enter Try.func12, Try.ntmps12
    go_wp2_with (fail)
    go_ret
    exact ⟨ret_bool hres.out, Below.refl _ _⟩
set_option maxRecDepth 100000 in
theorem r9less_any (u v : Value) (r s : List Vl) (w : World) (hu : RowAt w u r) (hv : RowAt w v s) (hr : r.length ≤ 4611686018427387904) (_ : s.length ≤ 4611686018427387904) :
    Calls Try.prog 9 #[u, v] w fun e w' => e = .returned (.bool (decide (Bg.cr r s < 0))) ∧ Below w.heap.size w w' := by
  obtain ⟨A, c, rfl, _, _⟩ := id hu
  obtain ⟨A', c', rfl, _, _⟩ := id hv
  have hpu := fun (j : Nat) (x : Vl) (hj : r[j]? = some x) => hu.pair hj
  have hpv := fun (j : Nat) (x : Vl) (hj : s[j]? = some x) => hv.pair hj
  have HU := Lib.hid hpu
  have HV := Lib.hid hpv
  obtain ⟨n, hn⟩ : ∃ n, n = r.length := ⟨_, rfl⟩
  obtain ⟨m, hm⟩ : ∃ m, m = s.length := ⟨_, rfl⟩
  rw [← hn] at hr ⊢
  rw [← hm]
  have HN := Lib.hid (And.intro hn hm)
  clear hpu hpv hu hv hn hm
  have hS := Below.refl w.heap.size w
  go_enter Try.func9, Try.ntmps9
  go_wp2_with (fail)
  go_loopw [5] (fun i wr => ∃ (k : Nat), k ≤ n ∧ k ≤ m ∧ i = .int .i64 k ∧ Hid (∀ j x y, j < k → r[j]? = some x → s[j]? = some y → Bg.cv x y = 0) ∧ Below w.heap.size w wr) (fun i _ => n - (intOf i).toNat)
  case atStart => exact ⟨0, Nat.zero_le _, Nat.zero_le _, rfl, Lib.hid fun j x y h => by omega, hS⟩
  case round =>
    obtain ⟨k, hk, hkm, rfl, hz, hb⟩ := hrel
    have done : ¬ (k < n ∧ k < m) → decide (n < m) = decide (Bg.cr r s < 0) := fun hnot => by
      obtain ⟨h1, h2⟩ := HN.out
      have e := Bg.lex_end (f := Bg.cv) (a := r) (b := s) fun j x y hj hx hy => hz.out j x y (by omega) hx hy
      unfold Bg.cr
      rw [e, ← h1, ← h2]
      by_cases h : n < m
      · rw [if_pos h]; simp [h]
      · rw [if_neg h]
        by_cases h3 : n > m
        · rw [if_pos h3]; simp; omega
        · rw [if_neg h3]; simp; omega
    have DONE := Lib.hid done
    clear done
    by_cases hlt : k < n
    · by_cases hlm : k < m
      · obtain ⟨x, gx⟩ : ∃ x, r[k]? = some x := ⟨r[k]'(by have := HN.out; omega), List.getElem?_eq_getElem _⟩
        obtain ⟨y, gy⟩ : ∃ y, s[k]? = some y := ⟨s[k]'(by have := HN.out; omega), List.getElem?_eq_getElem _⟩
        obtain ⟨b1, o1, p1, rfl, hl1, h1⟩ := HU.out k x gx
        obtain ⟨b2, o2, p2, rfl, hl2, h2⟩ := HV.out k y gy
        have i1 : (0 : Int) ≤ (k : Int) := by omega
        have i2 : (k : Int) < (n : Int) := by omega
        have i3 : (k : Int) < (m : Int) := by omega
        have y1 := cell_regrown (h1 wr hb).1
        have y2 := cell_regrown (h1 wr hb).2
        have y3 := cell_regrown (h2 wr hb).1
        have y4 := cell_regrown (h2 wr hb).2
        obtain ⟨d, hd⟩ : ∃ d : Bool, d = Va.same x.1 x.2 y.1 y.2 := ⟨_, rfl⟩
        have cc := in_class (W0 := wr) fun W _ => rsame_any x.1 y.1 x.2 y.2 W
        rw [← hd] at cc
        have HD := Lib.hid hd
        have GX := Lib.hid gx
        have GY := Lib.hid gy
        have HH1 := Lib.hid h1
        have HH2 := Lib.hid h2
        clear h1 h2 gx gy hd
        go_wp2_with (fail)
        refine wp_region_quiet_below (by kernel_rfl) (by kernel_rfl) ?_
        repeat (go_big_quiet_step (with_reducible exact cc _ _))
        refine wpQuiet_nil ?_
        intro _ hw'
        obtain ⟨⟨dq, osq⟩, hw''⟩ := hw'
        subst hw''
        have hb2 := below_join hb (below_regrown wr dq osq)
        clear y1 y2 y3 y4 hb cc
        generalize grow (redrawn wr dq) osq = w7 at hb2 ⊢
        cases d
        · have y1 := cell_regrown (HH1.out w7 hb2).1
          have y2 := cell_regrown (HH1.out w7 hb2).2
          have y3 := cell_regrown (HH2.out w7 hb2).1
          have y4 := cell_regrown (HH2.out w7 hb2).2
          obtain ⟨d, hd⟩ : ∃ d : Bool, d = Va.less x.1 x.2 y.1 y.2 := ⟨_, rfl⟩
          have cc := in_class (W0 := w7) fun W _ => rless_any x.1 y.1 x.2 y.2 W
          rw [← hd] at cc
          have hres : Hid (d = decide (Bg.cr r s < 0)) := Lib.hid (by
            have h0 : Bg.cv x y ≠ 0 := by
              have e := Bg.cv_zero x y
              rw [← HD.out] at e
              simpa using e
            have e : Bg.cr r s = Bg.cv x y := Bg.lex_at GX.out GY.out hz.out h0
            rw [e, Bg.cv_less x y HD.out.symm]
            exact hd)
          clear hd
          go_wp2_with (fail)
          refine wp_region_quiet_below (by kernel_rfl) (by kernel_rfl) ?_
          repeat (go_big_quiet_step (with_reducible exact cc _ _))
          refine wpQuiet_nil ?_
          intro _ hw'
          obtain ⟨⟨dq, osq⟩, hw''⟩ := hw'
          subst hw''
          have hb3 := below_join hb2 (below_regrown w7 dq osq)
          clear y1 y2 y3 y4 hb2 cc
          generalize grow (redrawn w7 dq) osq = w8 at hb3 ⊢
          go_wp2_with (fail)
          go_ret
          exact ⟨ret_bool hres.out, hb3⟩
        · have hz2 : Hid (∀ j x y, j < k + 1 → r[j]? = some x → s[j]? = some y → Bg.cv x y = 0) := Lib.hid fun j x' y' hj hx hy => by
            rcases Nat.lt_or_eq_of_le (Nat.le_of_lt_succ hj) with g | g
            · exact hz.out j x' y' g hx hy
            · subst g
              rw [GX.out] at hx; rw [GY.out] at hy
              cases hx; cases hy
              have e := Bg.cv_zero x y
              rw [← HD.out] at e
              simpa using e
          go_wp2_with (fail)
          go_roundw
          case rel => exact ⟨k + 1, by omega, by omega, by go_num, hz2, hb2⟩
          case measure => simp [intOf]; omega
      · have hres := Lib.hid (DONE.out (by omega))
        have i3 : ¬ ((k : Int) < (m : Int)) := by omega
        have i2 : (k : Int) < (n : Int) := by omega
        clear hlm
        go_wp2_with (fail)
        go_ret
        exact ⟨ret_bool hres.out, hb⟩
    · have hres := Lib.hid (DONE.out (by omega))
      have i2 : ¬ ((k : Int) < (n : Int)) := by omega
      clear hlt
      go_wp2_with (fail)
      go_ret
      exact ⟨ret_bool hres.out, hb⟩
set_option maxRecDepth 100000 in
theorem btimes_any (u v : Value) (vs : List Value) (l : List (List Vl)) (r : List Vl) (w : World) (hu : RwsOf w u vs l) (hv : RowAt w v r) (hl : l.length ≤ 4611686018427387904) (hl2 : ∀ x ∈ l, x.length ≤ 4611686018427387904) (hr : r.length ≤ 4611686018427387904) :
    Calls Try.prog 17 #[u, v] w fun e w' => e = .returned (.int .i64 (Bg.times Bg.cr l r : Nat)) ∧ Below w.heap.size w w' := by
  obtain ⟨A, c, rfl, _, _⟩ := Rws.at_ ⟨vs, hu⟩
  have hpu := fun (j : Nat) (x : List Vl) (hj : l[j]? = some x) => hu.pick hj
  have HU := Lib.hid hpu
  have HV := Lib.hid hv
  have HL2 := Lib.hid hl2
  have HR := Lib.hid hr
  obtain ⟨n, hn⟩ : ∃ n, n = l.length := ⟨_, rfl⟩
  rw [← hn] at hl ⊢
  have HN := Lib.hid hn
  clear hpu hu hv hn hl2 hr
  have hS := Below.refl w.heap.size w
  go_enter Try.func17, Try.ntmps17
  go_wp2_with (fail)
  go_loopw [5, 10] (fun q i wr => ∃ (k t : Nat), k ≤ n ∧ t ≤ k ∧ i = .int .i64 k ∧ q = .int .i64 t ∧ Hid (t = Bg.times Bg.cr (l.take k) r) ∧ Below w.heap.size w wr) (fun _ i _ => n - (intOf i).toNat)
  case atStart => exact ⟨0, 0, Nat.zero_le _, Nat.le_refl _, rfl, rfl, Lib.hid (by simp [Bg.times]), hS⟩
  case round =>
    obtain ⟨k, t, hk, htk, rfl, rfl, hz, hb⟩ := hrel
    by_cases hlt : k < n
    · obtain ⟨x, gx⟩ : ∃ x, l[k]? = some x := ⟨l[k]'(by have := HN.out; omega), List.getElem?_eq_getElem _⟩
      obtain ⟨b1, o1, p1, e1, rfl, h1⟩ := HU.out k x gx
      have i1 : (0 : Int) ≤ (k : Int) := by omega
      have i2 : (k : Int) < (n : Int) := by omega
      have y1 := (h1 wr hb).1
      obtain ⟨d, hd⟩ : ∃ d : Bool, d = decide (Bg.cr x r = 0) := ⟨_, rfl⟩
      have cc := bsame_any _ _ x r wr (h1 wr hb).2 (HV.out.below hb (Nat.le_refl _)) (HL2.out x (List.mem_of_getElem? gx)) HR.out
      rw [← hd] at cc
      have HT := Lib.hid (show Bg.times Bg.cr (l.take (k + 1)) r = t + if d then 1 else 0 by
        rw [List.take_add_one, gx, hz.out]
        unfold Bg.times
        rw [List.countP_append, hd]
        simp [List.countP_cons])
      clear h1 gx hd hz
      go_wp2_with (fail)
      refine cc.mono ?_
      rintro E w7 ⟨rfl, hb1⟩
      have hb2 := below_join hb hb1
      clear cc y1 hb hb1
      cases d
      · go_wp2_with (fail)
        go_roundw
        case rel => exact ⟨k + 1, t, by omega, by omega, by go_num, rfl, Lib.hid (by rw [HT.out]; simp), hb2⟩
        case measure => simp [intOf]; omega
      · go_wp2_with (fail)
        go_roundw
        case rel => exact ⟨k + 1, t + 1, by omega, by omega, by go_num, by go_num, Lib.hid (by rw [HT.out]; simp), hb2⟩
        case measure => simp [intOf]; omega
    · have hres : Hid ((t : Int) = (Bg.times Bg.cr l r : Nat)) := Lib.hid (by
        have h := hz.out
        rw [List.take_of_length_le (by have := HN.out; omega)] at h
        rw [h])
      clear hz
      go_wp2_with (fail)
      go_ret
      exact ⟨ret_int hres.out, hb⟩
set_option maxRecDepth 100000 in
theorem r9times_any (u v : Value) (vs : List Value) (l : List (List Vl)) (r : List Vl) (w : World) (hu : RwsOf w u vs l) (hv : RowAt w v r) (hl : l.length ≤ 4611686018427387904) (hl2 : ∀ x ∈ l, x.length ≤ 4611686018427387904) (hr : r.length ≤ 4611686018427387904) :
    Calls Try.prog 18 #[u, v] w fun e w' => e = .returned (.int .i64 (Bg.times Bg.cr l r : Nat)) ∧ Below w.heap.size w w' := by
  obtain ⟨A, c, rfl, _, _⟩ := Rws.at_ ⟨vs, hu⟩
  have hpu := fun (j : Nat) (x : List Vl) (hj : l[j]? = some x) => hu.pick hj
  have HU := Lib.hid hpu
  have HV := Lib.hid hv
  have HL2 := Lib.hid hl2
  have HR := Lib.hid hr
  obtain ⟨n, hn⟩ : ∃ n, n = l.length := ⟨_, rfl⟩
  rw [← hn] at hl ⊢
  have HN := Lib.hid hn
  clear hpu hu hv hn hl2 hr
  have hS := Below.refl w.heap.size w
  go_enter Try.func18, Try.ntmps18
  go_wp2_with (fail)
  go_loopw [5, 6] (fun q i wr => ∃ (k t : Nat), k ≤ n ∧ t ≤ k ∧ i = .int .i64 k ∧ q = .int .i64 t ∧ Hid (t = Bg.times Bg.cr (l.take k) r) ∧ Below w.heap.size w wr) (fun _ i _ => n - (intOf i).toNat)
  case atStart => exact ⟨0, 0, Nat.zero_le _, Nat.le_refl _, rfl, rfl, Lib.hid (by simp [Bg.times]), hS⟩
  case round =>
    obtain ⟨k, t, hk, htk, rfl, rfl, hz, hb⟩ := hrel
    by_cases hlt : k < n
    · obtain ⟨x, gx⟩ : ∃ x, l[k]? = some x := ⟨l[k]'(by have := HN.out; omega), List.getElem?_eq_getElem _⟩
      obtain ⟨b1, o1, p1, e1, rfl, h1⟩ := HU.out k x gx
      have i1 : (0 : Int) ≤ (k : Int) := by omega
      have i2 : (k : Int) < (n : Int) := by omega
      have y1 := (h1 wr hb).1
      obtain ⟨d, hd⟩ : ∃ d : Bool, d = decide (Bg.cr x r = 0) := ⟨_, rfl⟩
      have cc := r9same_any _ _ x r wr (h1 wr hb).2 (HV.out.below hb (Nat.le_refl _)) (HL2.out x (List.mem_of_getElem? gx)) HR.out
      rw [← hd] at cc
      have HT := Lib.hid (show Bg.times Bg.cr (l.take (k + 1)) r = t + if d then 1 else 0 by
        rw [List.take_add_one, gx, hz.out]
        unfold Bg.times
        rw [List.countP_append, hd]
        simp [List.countP_cons])
      clear h1 gx hd hz
      go_wp2_with (fail)
      refine cc.mono ?_
      rintro E w7 ⟨rfl, hb1⟩
      have hb2 := below_join hb hb1
      clear cc y1 hb hb1
      cases d
      · go_wp2_with (fail)
        go_roundw
        case rel => exact ⟨k + 1, t, by omega, by omega, by go_num, rfl, Lib.hid (by rw [HT.out]; simp), hb2⟩
        case measure => simp [intOf]; omega
      · go_wp2_with (fail)
        go_roundw
        case rel => exact ⟨k + 1, t + 1, by omega, by omega, by go_num, by go_num, Lib.hid (by rw [HT.out]; simp), hb2⟩
        case measure => simp [intOf]; omega
    · have hres : Hid ((t : Int) = (Bg.times Bg.cr l r : Nat)) := Lib.hid (by
        have h := hz.out
        rw [List.take_of_length_le (by have := HN.out; omega)] at h
        rw [h])
      clear hz
      go_wp2_with (fail)
      go_ret
      exact ⟨ret_int hres.out, hb⟩
set_option maxRecDepth 100000 in
theorem r9sameb_any (u v : Value) (vs us : List Value) (r s : List (List Vl)) (w : World) (hu : RwsOf w u vs r) (hv : RwsOf w v us s) (hr : r.length ≤ 4611686018427387904) (hs : s.length ≤ 4611686018427387904) (hr2 : ∀ x ∈ r, x.length ≤ 4611686018427387904) (hs2 : ∀ x ∈ s, x.length ≤ 4611686018427387904) :
    Calls Try.prog 16 #[u, v] w fun e w' => e = .returned (.bool (Bg.same Bg.cr r s)) ∧ Below w.heap.size w w' := by
  have ct1 := fun (y : Value) (x : List Vl) (W : World) (h : Below w.heap.size w W) (hy : RowAt W y x) (hx : x.length ≤ 4611686018427387904) => r9times_any u y vs r x W (hu.below h (Nat.le_refl _)) hy hr hr2 hx
  have ct2 := fun (y : Value) (x : List Vl) (W : World) (h : Below w.heap.size w W) (hy : RowAt W y x) (hx : x.length ≤ 4611686018427387904) => r9times_any v y us s x W (hv.below h (Nat.le_refl _)) hy hs hs2 hx
  obtain ⟨A, c, rfl, _, _⟩ := Rws.at_ ⟨vs, hu⟩
  obtain ⟨A', c', rfl, _, _⟩ := Rws.at_ ⟨us, hv⟩
  have hpu := fun (j : Nat) (x : List Vl) (hj : r[j]? = some x) => hu.pick hj
  have HU := Lib.hid hpu
  have HR2 := Lib.hid hr2
  have CT1 := Lib.hid ct1
  have CT2 := Lib.hid ct2
  obtain ⟨n, hn⟩ : ∃ n, n = r.length := ⟨_, rfl⟩
  obtain ⟨m, hm⟩ : ∃ m, m = s.length := ⟨_, rfl⟩
  rw [← hn] at hr CT1 ⊢
  rw [← hm] at hs CT2 ⊢
  have HN := Lib.hid (And.intro hn hm)
  clear hpu hu hv hn hm hr2 hs2 ct1 ct2
  by_cases hnm : n = m
  · subst hnm
    have hS := Below.refl w.heap.size w
    go_enter Try.func16, Try.ntmps16
    go_wp2_with (fail)
    go_loopw [5] (fun i wr => ∃ (k : Nat), k ≤ n ∧ i = .int .i64 k ∧ Hid (∀ j x, j < k → r[j]? = some x → Bg.times Bg.cr r x = Bg.times Bg.cr s x) ∧ Below w.heap.size w wr) (fun i _ => n - (intOf i).toNat)
    case atStart => exact ⟨0, Nat.zero_le _, rfl, Lib.hid fun j x h => by omega, hS⟩
    case round =>
     obtain ⟨k, hk, rfl, hz, hb⟩ := hrel
     by_cases hlt : k < n
     · obtain ⟨x, gx⟩ : ∃ x, r[k]? = some x := ⟨r[k]'(by have := HN.out; omega), List.getElem?_eq_getElem _⟩
       obtain ⟨b1, o1, p1, e1, rfl, h1⟩ := HU.out k x gx
       have i1 : (0 : Int) ≤ (k : Int) := by omega
       have i2 : (k : Int) < (n : Int) := by omega
       have y1 := cell_regrown (h1 wr hb).1
       have hx := HR2.out x (List.mem_of_getElem? gx)
       have c1 := in_class (W0 := wr) fun W h => CT1.out e1 x W (below_join hb h) ((h1 wr hb).2.below h (Nat.le_refl _)) hx
       have c2 := in_class (W0 := wr) fun W h => CT2.out e1 x W (below_join hb h) ((h1 wr hb).2.below h (Nat.le_refl _)) hx
       obtain ⟨t1, ht1⟩ : ∃ t, t = Bg.times Bg.cr r x := ⟨_, rfl⟩
       obtain ⟨t2, ht2⟩ : ∃ t, t = Bg.times Bg.cr s x := ⟨_, rfl⟩
       rw [← ht1] at c1
       rw [← ht2] at c2
       have HT := Lib.hid (And.intro ht1 ht2)
       have GX := Lib.hid gx
       clear h1 gx ht1 ht2 hx
       go_wp2_with (fail)
       refine wp_region_quiet_below (by kernel_rfl) (by kernel_rfl) ?_
       repeat (go_big_quiet_step (with_reducible first | exact c1 _ _ | exact c2 _ _))
       refine wpQuiet_nil ?_
       intro _ hw'
       obtain ⟨⟨dq, osq⟩, hw''⟩ := hw'
       subst hw''
       have hb2 := below_join hb (below_regrown wr dq osq)
       clear y1 i1 i2 hb c1 c2
       generalize grow (redrawn wr dq) osq = w7 at hb2 ⊢
       by_cases ht : t1 = t2
       · have hz2 : Hid (∀ j x, j < k + 1 → r[j]? = some x → Bg.times Bg.cr r x = Bg.times Bg.cr s x) := Lib.hid fun j x' hj hx => by
           rcases Nat.lt_or_eq_of_le (Nat.le_of_lt_succ hj) with g | g
           · exact hz.out j x' g hx
           · subst g
             rw [GX.out] at hx
             cases hx
             rw [← HT.out.1, ← HT.out.2, ht]
         subst ht
         go_wp2_with (fail)
         go_roundw
         case rel => exact ⟨k + 1, by omega, by go_num, hz2, hb2⟩
         case measure => simp [intOf]; omega
       · have hres : Hid (false = Bg.same Bg.cr r s) := Lib.hid (by
           cases he : Bg.same Bg.cr r s with
           | false => rfl
           | true => exact absurd (by rw [HT.out.1, HT.out.2]; exact (Bg.same_iff.1 he).2 x (List.mem_of_getElem? GX.out)) ht)
         have ht2 : ((t1 : Int) != (t2 : Int)) = true := by simpa using fun h => ht (by omega)
         have ht3 : ¬ ((t1 : Int) = (t2 : Int)) := fun h => ht (by omega)
         clear ht
         go_wp2_with (fail)
         go_ret
         exact ⟨ret_bool hres.out, hb2⟩
     · have hres : Hid (true = Bg.same Bg.cr r s) := Lib.hid (by
         symm
         obtain ⟨h1, h2⟩ := HN.out
         refine Bg.same_iff.2 ⟨by omega, fun x hx => ?_⟩
         obtain ⟨j, hj, rfl⟩ := List.mem_iff_getElem.1 hx
         exact hz.out j _ (by omega) (List.getElem?_eq_getElem hj))
       go_wp2_with (fail)
       go_ret
       exact ⟨ret_bool hres.out, hb⟩
  · have hnm2 : ((n : Int) != (m : Int)) = true := by simpa using fun h => hnm (by omega)
    have hnm3 : ¬ ((n : Int) = (m : Int)) := fun h => hnm (by omega)
    have hres : Hid (false = Bg.same Bg.cr r s) := Lib.hid (by
      cases he : Bg.same Bg.cr r s with
      | false => rfl
      | true => exact absurd (by have := (Bg.same_iff.1 he).1; obtain ⟨h1, h2⟩ := HN.out; omega) hnm)
    clear hnm
    go_enter Try.func16, Try.ntmps16
    go_wp2_with (fail)
    go_ret
    exact ⟨ret_bool hres.out, Below.refl _ _⟩
/-- what few tells -/
def Few9 (w : World) (l : List (List Vl)) (E : Ending) (w' : World) : Prop := ∃ b : Bool, E = .returned (.bool b) ∧ (b = true → l.length ≤ 60 ∧ ∀ x ∈ l, x.length ≤ 20) ∧ Below w.heap.size w w'
set_option maxRecDepth 100000 in
theorem few9_any (u : Value) (vs : List Value) (l : List (List Vl)) (w : World) (hu : RwsOf w u vs l) :
    Calls Try.prog 6 #[u] w (Few9 w l) := by
  obtain ⟨A, c, rfl, _, _⟩ := Rws.at_ ⟨vs, hu⟩
  have hat := fun (j : Nat) (x : List Vl) (hj : l[j]? = some x) => hu.pick hj
  have HU := Lib.hid hat
  obtain ⟨n, hn⟩ : ∃ n, n = l.length := ⟨_, rfl⟩
  rw [← hn]
  have HN := Lib.hid hn
  clear hat hu hn
  go_enter Try.func6, Try.ntmps6
  go_wp2_with (fail)
  go_loopw [3] (fun i wr => ∃ (k : Nat), k ≤ n ∧ k ≤ 200 ∧ i = .int .i64 k ∧ Hid (∀ j x, j < k → l[j]? = some x → x.length ≤ 20) ∧ Below w.heap.size w wr) (fun i _ => 200 - (intOf i).toNat)
  case atStart => exact ⟨0, Nat.zero_le _, by omega, rfl, Lib.hid fun j x h => by omega, Below.refl _ _⟩
  case round =>
    obtain ⟨k, hk, hk2, rfl, hz, hb⟩ := hrel
    have done : ¬ (k < n ∧ k < 200) → ((n : Int) ≤ 60) → l.length ≤ 60 ∧ ∀ x ∈ l, x.length ≤ 20 := fun hnot h60 => by
      have hn := HN.out
      refine ⟨by omega, fun x hx => ?_⟩
      obtain ⟨j, hj, rfl⟩ := List.mem_iff_getElem.1 hx
      exact hz.out j _ (by omega) (List.getElem?_eq_getElem hj)
    have DONE := Lib.hid done
    clear done
    by_cases hlt : k < n
    · by_cases hl2 : k < 200
      · obtain ⟨x, gx⟩ : ∃ x, l[k]? = some x := ⟨l[k]'(by have := HN.out; omega), List.getElem?_eq_getElem _⟩
        obtain ⟨b, o, p, e, rfl, hat⟩ := HU.out k x gx
        obtain ⟨hc, hrow⟩ := hat wr hb
        obtain ⟨B, d, rfl, _, _⟩ := id hrow
        clear hrow hat
        have i1 : (0 : Int) ≤ (k : Int) := by omega
        have i2 : (k : Int) < (n : Int) := by omega
        have i3 : (k : Int) < 200 := by omega
        obtain ⟨q, hq⟩ : ∃ q, q = x.length := ⟨_, rfl⟩
        rw [← hq] at hc
        have HQ := Lib.hid (And.intro hq gx)
        clear hq gx hl2 hlt
        by_cases hx : 20 < q
        · have i4 : (20 : Int) < (q : Int) := by omega
          clear hx
          go_wp2_with (fail)
          go_ret
          exact ⟨false, rfl, by simp, hb⟩
        · have i4 : ¬ ((20 : Int) < (q : Int)) := by omega
          have HX := Lib.hid hx
          clear hx
          go_wp2_with (fail)
          go_roundw
          case rel =>
            refine ⟨k + 1, by omega, by omega, by go_num, Lib.hid fun j y hj hy => ?_, hb⟩
            rcases Nat.lt_or_eq_of_le (Nat.le_of_lt_succ hj) with g | g
            · exact hz.out j y g hy
            · subst g
              rw [HQ.out.2] at hy
              cases hy
              have := HX.out
              have := HQ.out.1
              omega
          case measure => simp [intOf]; omega
      · have i3 : ¬ ((k : Int) < 200) := by omega
        have i2 : (k : Int) < (n : Int) := by omega
        have D2 := Lib.hid (DONE.out (by omega))
        clear hl2 hlt
        go_wp2_with (fail)
        go_ret
        exact ⟨decide ((n : Int) ≤ 60), rfl, fun h => D2.out (of_decide_eq_true h), hb⟩
    · have i2 : ¬ ((k : Int) < (n : Int)) := by omega
      have D2 := Lib.hid (DONE.out (by omega))
      clear hlt
      go_wp2_with (fail)
      go_ret
      exact ⟨decide ((n : Int) ≤ 60), rfl, fun h => D2.out (of_decide_eq_true h), hb⟩
end Go.Proofs.Ytaodobjekpacoaa
