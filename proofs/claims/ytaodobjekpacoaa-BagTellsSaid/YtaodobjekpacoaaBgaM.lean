/-
  PACKAGE bag's COMPARISONS: of two values, of two lengths, of two rows; and the document's.
-/
import Derived.Test.YtaodobjekpacoaaBgmM
import Derived.Test.YtaodobjekpacoaaGBase
import Derived.Lib.QuietBelow
import Derived.BigQuiet
import Derived.Deep.Cut
namespace Go.Proofs.Ytaodobjekpacoaa
open Go.RowKit Go.Sort
set_option maxHeartbeats 1600000

theorem bcv_any (b c : Bool) (n m : Int) (w : World) :
    Calls Try.prog 26 #[.agg #[.bool b, .int .i64 n], .agg #[.bool c, .int .i64 m]] w fun e w' => e = .returned (.int .i64 (Bg.cv (b, n) (c, m))) ∧ Below w.heap.size w w' := by
  obtain ⟨W0, hW0⟩ : ∃ W0, W0 = (w.alloc (Obj.cells #[.bool b, .int .i64 n] 33)).alloc (Obj.cells #[.bool c, .int .i64 m] 33) := ⟨_, rfl⟩
  obtain ⟨l0, l1, hb0⟩ := box2 hW0
  have cs := same_any b c n m W0
  have cl := fun W => less_any b c n m W
  have hcv : Bg.cv (b, n) (c, m) = if Va.same b n c m then 0 else if Va.less b n c m then -1 else 1 := rfl
  rw [hcv]
  clear hcv
  generalize Va.same b n c m = s at cs ⊢
  generalize Va.less b n c m = l at cl ⊢
  have HW := Lib.hid hW0
  have L0 := Lib.hid l0
  have L1 := Lib.hid l1
  have j0 : W0.cell? ⟨w.heap.size, 0, none⟩ = some (.bool b) := l0.cell rfl
  have j1 : W0.cell? ⟨w.heap.size, 1, none⟩ = some (.int .i64 n) := l0.cell rfl
  have k0 : W0.cell? ⟨w.heap.size + 1, 0, none⟩ = some (.bool c) := l1.cell rfl
  have k1 : W0.cell? ⟨w.heap.size + 1, 1, none⟩ = some (.int .i64 m) := l1.cell rfl
  clear hW0 l0 l1
  go_enter Try.func26, Try.ntmps26
  go_upto_region 1 with (fail)
  rw [← HW.out]
  cases s
  · go_wp2_with (fail)
    refine cs.mono ?_
    rintro E w1 ⟨rfl, hb1⟩
    clear cs j0 j1 k0 k1
    have l0 := L0.out.below hb1 L0.out.lt
    have l1 := L1.out.below hb1 L1.out.lt
    have j0 : w1.cell? ⟨w.heap.size, 0, none⟩ = some (.bool b) := l0.cell rfl
    have j1 : w1.cell? ⟨w.heap.size, 1, none⟩ = some (.int .i64 n) := l0.cell rfl
    have k0 : w1.cell? ⟨w.heap.size + 1, 0, none⟩ = some (.bool c) := l1.cell rfl
    have k1 : w1.cell? ⟨w.heap.size + 1, 1, none⟩ = some (.int .i64 m) := l1.cell rfl
    cases l
    all_goals
      go_wp2_with (fail)
      refine (cl w1).mono ?_
      rintro E w2 ⟨rfl, hb2⟩
      clear cl
      go_wp2_with (fail)
      go_ret
      exact ⟨rfl, below_join hb0 (below_join hb1 hb2)⟩
  · go_wp2_with (fail)
    refine cs.mono ?_
    rintro E w1 ⟨rfl, hb1⟩
    clear cs cl
    go_wp2_with (fail)
    go_ret
    exact ⟨rfl, below_join hb0 hb1⟩
theorem nan_any (a : Int) (w : World) : Calls Try.prog 32 #[.int .i64 a] w fun e w' => e = .returned (.bool false) ∧ w = w' := by
  go_enter Try.func32, Try.ntmps32
  go_wp2
  go_ret
  exact ⟨ret_bool (by simp), rfl⟩
theorem cint_any (a b : Int) (w : World) : Calls Try.prog 28 #[.int .i64 a, .int .i64 b] w fun e w' => e = .returned (.int .i64 (if a < b then -1 else if a > b then 1 else 0)) ∧ w = w' := by
  rcases Int.lt_trichotomy a b with h | h | h
  · rw [if_pos h]
    go_enter Try.func28, Try.ntmps28
    go_wp2_with (first | (go_at_call 32; refine (nan_any _ _).mono ?_; rintro e w' ⟨rfl, rfl⟩))
    go_ret
    exact ⟨rfl, rfl⟩
  · have h1 : ¬ (a < b) := by omega
    have h2 : ¬ (a > b) := by omega
    rw [if_neg h1, if_neg h2]
    clear h
    go_enter Try.func28, Try.ntmps28
    go_wp2_with (first | (go_at_call 32; refine (nan_any _ _).mono ?_; rintro e w' ⟨rfl, rfl⟩))
    go_ret
    exact ⟨rfl, rfl⟩
  · have h1 : ¬ (a < b) := by omega
    rw [if_neg h1, if_pos h]
    go_enter Try.func28, Try.ntmps28
    go_wp2_with (first | (go_at_call 32; refine (nan_any _ _).mono ?_; rintro e w' ⟨rfl, rfl⟩))
    go_ret
    exact ⟨rfl, rfl⟩
theorem cmp_len (a b : Nat) : (if (a : Int) < (b : Int) then (-1 : Int) else if (a : Int) > (b : Int) then 1 else 0) = if a < b then -1 else if a > b then 1 else 0 := by
  by_cases h : a < b
  · rw [if_pos (by omega), if_pos h]
  · rw [if_neg (by omega), if_neg h]
    by_cases g : a > b
    · rw [if_pos (by omega), if_pos g]
    · rw [if_neg (by omega), if_neg g]
/-- a row of rows, in a world that has grown -/
theorem RwsOf.pick {w : World} {A : Option Addr} {c n : Nat} {vs : List Value} {r : List (List Vl)} {j : Nat} {x : List Vl} (h : RwsOf w (.slice A n c) vs r) (hj : r[j]? = some x) :
    ∃ b o p, ∃ e : Value, A = some ⟨b, o, p⟩ ∧ ∀ W, Below w.heap.size w W → W.cell? ((⟨b, o, p⟩ : Addr).add j) = some e ∧ RowAt W e x := by
  obtain ⟨u, hu, hrow⟩ := h.row j x hj
  obtain ⟨A', c', hv, _, hx⟩ := h.sl
  cases hv
  obtain ⟨b, o, p, hA, hlt, hc⟩ := hx j u hu
  exact ⟨b, o, p, u, hA, fun W hb => ⟨(hb.cell (by rw [add_block]; exact hlt)).trans hc, hrow.below hb (Nat.le_refl _)⟩⟩
set_option maxRecDepth 100000 in
theorem cvals_any (u v : Value) (r s : List Vl) (w : World) (hu : RowAt w u r) (hv : RowAt w v s) (hr : r.length ≤ 4611686018427387904) (hs : s.length ≤ 4611686018427387904) :
    Calls Try.prog 25 #[u, v, .func (.func 26) #[] #[]] w fun e w' => e = .returned (.int .i64 (Bg.cr r s)) ∧ Below w.heap.size w w' := by
  obtain ⟨A, c, rfl, _, _⟩ := id hu
  obtain ⟨A', c', rfl, _, _⟩ := id hv
  have hpu := fun (j : Nat) (x : Vl) (hj : r[j]? = some x) => hu.pair hj
  have hpv := fun (j : Nat) (x : Vl) (hj : s[j]? = some x) => hv.pair hj
  have HU := Lib.hid hpu
  have HV := Lib.hid hpv
  obtain ⟨n, hn⟩ : ∃ n, n = r.length := ⟨_, rfl⟩
  obtain ⟨m, hm⟩ : ∃ m, m = s.length := ⟨_, rfl⟩
  have cl := fun W => cint_any (n : Int) (m : Int) W
  rw [cmp_len] at cl
  have hend : (∀ j x y, j < min n m → r[j]? = some x → s[j]? = some y → Bg.cv x y = 0) → Bg.cr r s = if n < m then -1 else if n > m then 1 else 0 := fun h => by
    rw [hn, hm]; exact Bg.lex_end (by rw [← hn, ← hm]; exact h)
  rw [← hn] at hr ⊢
  rw [← hm] at hs ⊢
  have HN := Lib.hid hn
  have HM := Lib.hid hm
  have HE := Lib.hid hend
  clear hpu hpv hu hv hn hm hend
  by_cases g : n ≤ m
  · skip
    have hS := Below.refl w.heap.size w
    have g' : (n : Int) ≤ (m : Int) := by omega
    have HG := Lib.hid g
    go_enter Try.func25, Try.ntmps25
    go_wp2_with (fail)
    have hq : n = min n m := by have := HG.out; omega
    have HQ := Lib.hid hq
    clear g' hq g
    go_loopw [14] (fun i wr => ∃ (k : Nat), k ≤ n ∧ i = .int .i64 k ∧ Hid (∀ j x y, j < k → r[j]? = some x → s[j]? = some y → Bg.cv x y = 0) ∧ Below w.heap.size w wr) (fun i _ => n - (intOf i).toNat)
    case atStart => exact ⟨0, Nat.zero_le _, rfl, Lib.hid fun j x y h => by omega, hS⟩
    case round =>
      obtain ⟨k, hk, rfl, hz, hb⟩ := hrel
      by_cases hlt : k < n
      · obtain ⟨x, gx⟩ : ∃ x, r[k]? = some x := ⟨r[k]'(by have := HN.out; have := HQ.out; omega), List.getElem?_eq_getElem _⟩
        obtain ⟨y, gy⟩ : ∃ y, s[k]? = some y := ⟨s[k]'(by have := HM.out; have := HQ.out; omega), List.getElem?_eq_getElem _⟩
        obtain ⟨b1, o1, p1, rfl, hl1, h1⟩ := HU.out k x gx
        obtain ⟨b2, o2, p2, rfl, hl2, h2⟩ := HV.out k y gy
        have i1 : (0 : Int) ≤ (k : Int) := by omega
        have i2 : (k : Int) < (n : Int) := by have := HQ.out; omega
        have i3 : (k : Int) < (m : Int) := by have := HQ.out; omega
        have y1 := cell_regrown (h1 wr hb).1
        have y2 := cell_regrown (h1 wr hb).2
        have y3 := cell_regrown (h2 wr hb).1
        have y4 := cell_regrown (h2 wr hb).2
        obtain ⟨d, hd⟩ : ∃ d, d = Bg.cv x y := ⟨_, rfl⟩
        have cc := in_class (W0 := wr) fun W _ => bcv_any x.1 y.1 x.2 y.2 W
        rw [show Bg.cv (x.1, x.2) (y.1, y.2) = d from hd.symm] at cc
        have HD := Lib.hid hd
        have GX := Lib.hid gx
        have GY := Lib.hid gy
        clear h1 h2 gx gy hd
        go_wp2_with (fail)
        refine wp_region_quiet_below (by kernel_rfl) (by kernel_rfl) ?_
        repeat (go_big_quiet_step (with_reducible exact cc _ _))
        refine wpQuiet_nil ?_
        intro _ hw'
        obtain ⟨⟨dq, osq⟩, hw''⟩ := hw'
        subst hw''
        have hb2 := below_join hb (below_regrown wr dq osq)
        clear y1 y2 y3 y4 i1 i2 i3 hb cc
        generalize grow (redrawn wr dq) osq = w7 at hb2 ⊢
        by_cases hd0 : d = 0
        · have hz2 : Hid (∀ j x y, j < k + 1 → r[j]? = some x → s[j]? = some y → Bg.cv x y = 0) := Lib.hid fun j x' y' hj hx hy => by
            rcases Nat.lt_or_eq_of_le (Nat.le_of_lt_succ hj) with g | g
            · exact hz.out j x' y' g hx hy
            · subst g
              rw [GX.out] at hx; rw [GY.out] at hy
              cases hx; cases hy
              rw [← HD.out, hd0]
          subst hd0
          go_wp2_with (fail)
          go_roundw
          case rel => exact ⟨k + 1, by omega, by go_num, hz2, hb2⟩
          case measure => simp [intOf]; omega
        · have hres : Hid (d = Bg.cr r s) := Lib.hid (by
            have e : Bg.cr r s = Bg.cv x y := Bg.lex_at GX.out GY.out hz.out (by rw [← HD.out]; exact hd0)
            rw [e]; exact HD.out)
          go_wp2_with (fail)
          go_ret
          exact ⟨ret_int hres.out, hb2⟩
      · have hres : Hid ((if n < m then (-1 : Int) else if n > m then 1 else 0) = Bg.cr r s) := Lib.hid (HE.out fun j x y hj => hz.out j x y (by have := HQ.out; omega)).symm
        generalize (if n < m then (-1 : Int) else if n > m then 1 else 0) = D at cl hres
        go_wp2_with (first | (go_at_call 28; refine (cl _).mono ?_; rintro e w' ⟨rfl, rfl⟩))
        go_ret
        exact ⟨ret_int hres.out, hb⟩
  · skip
    have hS := Below.refl w.heap.size w
    have g' : ¬ ((n : Int) ≤ (m : Int)) := by omega
    have HG := Lib.hid g
    go_enter Try.func25, Try.ntmps25
    go_wp2_with (fail)
    have hq : m = min n m := by have := HG.out; omega
    have HQ := Lib.hid hq
    clear g' hq g
    go_loopw [14] (fun i wr => ∃ (k : Nat), k ≤ m ∧ i = .int .i64 k ∧ Hid (∀ j x y, j < k → r[j]? = some x → s[j]? = some y → Bg.cv x y = 0) ∧ Below w.heap.size w wr) (fun i _ => m - (intOf i).toNat)
    case atStart => exact ⟨0, Nat.zero_le _, rfl, Lib.hid fun j x y h => by omega, hS⟩
    case round =>
      obtain ⟨k, hk, rfl, hz, hb⟩ := hrel
      by_cases hlt : k < m
      · obtain ⟨x, gx⟩ : ∃ x, r[k]? = some x := ⟨r[k]'(by have := HN.out; have := HQ.out; omega), List.getElem?_eq_getElem _⟩
        obtain ⟨y, gy⟩ : ∃ y, s[k]? = some y := ⟨s[k]'(by have := HM.out; have := HQ.out; omega), List.getElem?_eq_getElem _⟩
        obtain ⟨b1, o1, p1, rfl, hl1, h1⟩ := HU.out k x gx
        obtain ⟨b2, o2, p2, rfl, hl2, h2⟩ := HV.out k y gy
        have i1 : (0 : Int) ≤ (k : Int) := by omega
        have i2 : (k : Int) < (n : Int) := by have := HQ.out; omega
        have i3 : (k : Int) < (m : Int) := by have := HQ.out; omega
        have y1 := cell_regrown (h1 wr hb).1
        have y2 := cell_regrown (h1 wr hb).2
        have y3 := cell_regrown (h2 wr hb).1
        have y4 := cell_regrown (h2 wr hb).2
        obtain ⟨d, hd⟩ : ∃ d, d = Bg.cv x y := ⟨_, rfl⟩
        have cc := in_class (W0 := wr) fun W _ => bcv_any x.1 y.1 x.2 y.2 W
        rw [show Bg.cv (x.1, x.2) (y.1, y.2) = d from hd.symm] at cc
        have HD := Lib.hid hd
        have GX := Lib.hid gx
        have GY := Lib.hid gy
        clear h1 h2 gx gy hd
        go_wp2_with (fail)
        refine wp_region_quiet_below (by kernel_rfl) (by kernel_rfl) ?_
        repeat (go_big_quiet_step (with_reducible exact cc _ _))
        refine wpQuiet_nil ?_
        intro _ hw'
        obtain ⟨⟨dq, osq⟩, hw''⟩ := hw'
        subst hw''
        have hb2 := below_join hb (below_regrown wr dq osq)
        clear y1 y2 y3 y4 i1 i2 i3 hb cc
        generalize grow (redrawn wr dq) osq = w7 at hb2 ⊢
        by_cases hd0 : d = 0
        · have hz2 : Hid (∀ j x y, j < k + 1 → r[j]? = some x → s[j]? = some y → Bg.cv x y = 0) := Lib.hid fun j x' y' hj hx hy => by
            rcases Nat.lt_or_eq_of_le (Nat.le_of_lt_succ hj) with g | g
            · exact hz.out j x' y' g hx hy
            · subst g
              rw [GX.out] at hx; rw [GY.out] at hy
              cases hx; cases hy
              rw [← HD.out, hd0]
          subst hd0
          go_wp2_with (fail)
          go_roundw
          case rel => exact ⟨k + 1, by omega, by go_num, hz2, hb2⟩
          case measure => simp [intOf]; omega
        · have hres : Hid (d = Bg.cr r s) := Lib.hid (by
            have e : Bg.cr r s = Bg.cv x y := Bg.lex_at GX.out GY.out hz.out (by rw [← HD.out]; exact hd0)
            rw [e]; exact HD.out)
          go_wp2_with (fail)
          go_ret
          exact ⟨ret_int hres.out, hb2⟩
      · have hres : Hid ((if n < m then (-1 : Int) else if n > m then 1 else 0) = Bg.cr r s) := Lib.hid (HE.out fun j x y hj => hz.out j x y (by have := HQ.out; omega)).symm
        generalize (if n < m then (-1 : Int) else if n > m then 1 else 0) = D at cl hres
        go_wp2_with (first | (go_at_call 28; refine (cl _).mono ?_; rintro e w' ⟨rfl, rfl⟩))
        go_ret
        exact ⟨ret_int hres.out, hb⟩
set_option maxRecDepth 100000 in
theorem crow_any (u v : Value) (r s : List Vl) (w : World) (hu : RowAt w u r) (hv : RowAt w v s) (hr : r.length ≤ 4611686018427387904) (hs : s.length ≤ 4611686018427387904) :
    Calls Try.prog 19 #[u, v] w fun e w' => e = .returned (.int .i64 (Bg.cr r s)) ∧ Below w.heap.size w w' := by
  have cc := cvals_any u v r s w hu hv hr hs
  go_enter Try.func19, Try.ntmps19
  go_wp2_with (fail)
  refine cc.mono ?_
  rintro E w1 ⟨rfl, hb1⟩
  clear cc
  go_wp2_with (fail)
  go_ret
  exact ⟨rfl, hb1⟩
theorem bless_any (u v : Value) (r s : List Vl) (w : World) (hu : RowAt w u r) (hv : RowAt w v s) (hr : r.length ≤ 4611686018427387904) (hs : s.length ≤ 4611686018427387904) :
    Calls Try.prog 8 #[u, v] w fun e w' => e = .returned (.bool (decide (Bg.cr r s < 0))) ∧ Below w.heap.size w w' := by
  have cc := crow_any u v r s w hu hv hr hs
  generalize Bg.cr r s = d at cc ⊢
  go_enter Try.func8, Try.ntmps8
  go_wp2_with (fail)
  refine cc.mono ?_
  rintro E w1 ⟨rfl, hb1⟩
  clear cc
  go_wp2_with (fail)
  go_ret
  exact ⟨rfl, hb1⟩
theorem bsame_any (u v : Value) (r s : List Vl) (w : World) (hu : RowAt w u r) (hv : RowAt w v s) (hr : r.length ≤ 4611686018427387904) (hs : s.length ≤ 4611686018427387904) :
    Calls Try.prog 10 #[u, v] w fun e w' => e = .returned (.bool (decide (Bg.cr r s = 0))) ∧ Below w.heap.size w w' := by
  have cc := crow_any u v r s w hu hv hr hs
  generalize Bg.cr r s = d at cc ⊢
  go_enter Try.func10, Try.ntmps10
  go_wp2_with (fail)
  refine cc.mono ?_
  rintro E w1 ⟨rfl, hb1⟩
  clear cc
  go_wp2_with (fail)
  go_ret
  exact ⟨ret_bool (by by_cases h : d = 0 <;> simp [h]), hb1⟩
set_option maxRecDepth 100000 in
theorem crows_any (u v : Value) (vs us : List Value) (r s : List (List Vl)) (w : World) (hu : RwsOf w u vs r) (hv : RwsOf w v us s) (hr : r.length ≤ 4611686018427387904) (hs : s.length ≤ 4611686018427387904) (hr2 : ∀ x ∈ r, x.length ≤ 4611686018427387904) (hs2 : ∀ x ∈ s, x.length ≤ 4611686018427387904) :
    Calls Try.prog 24 #[u, v, .func (.func 19) #[] #[]] w fun e w' => e = .returned (.int .i64 (Bg.lex Bg.cr r s)) ∧ Below w.heap.size w w' := by
  obtain ⟨A, c, rfl, _, _⟩ := Rws.at_ ⟨vs, hu⟩
  obtain ⟨A', c', rfl, _, _⟩ := Rws.at_ ⟨us, hv⟩
  have hpu := fun (j : Nat) (x : List Vl) (hj : r[j]? = some x) => hu.pick hj
  have HR2 := Lib.hid hr2
  have hpv := fun (j : Nat) (x : List Vl) (hj : s[j]? = some x) => hv.pick hj
  have HS2 := Lib.hid hs2
  clear hr2 hs2
  have HU := Lib.hid hpu
  have HV := Lib.hid hpv
  obtain ⟨n, hn⟩ : ∃ n, n = r.length := ⟨_, rfl⟩
  obtain ⟨m, hm⟩ : ∃ m, m = s.length := ⟨_, rfl⟩
  have cl := fun W => cint_any (n : Int) (m : Int) W
  rw [cmp_len] at cl
  have hend : (∀ j x y, j < min n m → r[j]? = some x → s[j]? = some y → Bg.cr x y = 0) → Bg.lex Bg.cr r s = if n < m then -1 else if n > m then 1 else 0 := fun h => by
    rw [hn, hm]; exact Bg.lex_end (by rw [← hn, ← hm]; exact h)
  rw [← hn] at hr ⊢
  rw [← hm] at hs ⊢
  have HN := Lib.hid hn
  have HM := Lib.hid hm
  have HE := Lib.hid hend
  clear hpu hpv hu hv hn hm hend
  by_cases g : n ≤ m
  · skip
    have hS := Below.refl w.heap.size w
    have g' : (n : Int) ≤ (m : Int) := by omega
    have HG := Lib.hid g
    go_enter Try.func24, Try.ntmps24
    go_wp2_with (fail)
    have hq : n = min n m := by have := HG.out; omega
    have HQ := Lib.hid hq
    clear g' hq g
    go_loopw [14] (fun i wr => ∃ (k : Nat), k ≤ n ∧ i = .int .i64 k ∧ Hid (∀ j x y, j < k → r[j]? = some x → s[j]? = some y → Bg.cr x y = 0) ∧ Below w.heap.size w wr) (fun i _ => n - (intOf i).toNat)
    case atStart => exact ⟨0, Nat.zero_le _, rfl, Lib.hid fun j x y h => by omega, hS⟩
    case round =>
      obtain ⟨k, hk, rfl, hz, hb⟩ := hrel
      by_cases hlt : k < n
      · obtain ⟨x, gx⟩ : ∃ x, r[k]? = some x := ⟨r[k]'(by have := HN.out; have := HQ.out; omega), List.getElem?_eq_getElem _⟩
        obtain ⟨y, gy⟩ : ∃ y, s[k]? = some y := ⟨s[k]'(by have := HM.out; have := HQ.out; omega), List.getElem?_eq_getElem _⟩
        obtain ⟨b1, o1, p1, e1, rfl, h1⟩ := HU.out k x gx
        obtain ⟨b2, o2, p2, e2, rfl, h2⟩ := HV.out k y gy
        have i1 : (0 : Int) ≤ (k : Int) := by omega
        have i2 : (k : Int) < (n : Int) := by have := HQ.out; omega
        have i3 : (k : Int) < (m : Int) := by have := HQ.out; omega
        have y1 := cell_regrown (h1 wr hb).1
        have y3 := cell_regrown (h2 wr hb).1
        obtain ⟨d, hd⟩ : ∃ d, d = Bg.cr x y := ⟨_, rfl⟩
        have cc := in_class (W0 := wr) fun W h => crow_any _ _ x y W ((h1 wr hb).2.below h (Nat.le_refl _)) ((h2 wr hb).2.below h (Nat.le_refl _)) (HR2.out x (List.mem_of_getElem? gx)) (HS2.out y (List.mem_of_getElem? gy))
        rw [← hd] at cc
        have HD := Lib.hid hd
        have GX := Lib.hid gx
        have GY := Lib.hid gy
        clear h1 h2 gx gy hd
        go_wp2_with (fail)
        refine wp_region_quiet_below (by kernel_rfl) (by kernel_rfl) ?_
        repeat (go_big_quiet_step (with_reducible exact cc _ _))
        refine wpQuiet_nil ?_
        intro _ hw'
        obtain ⟨⟨dq, osq⟩, hw''⟩ := hw'
        subst hw''
        have hb2 := below_join hb (below_regrown wr dq osq)
        clear y1 y3 i1 i2 i3 hb cc
        generalize grow (redrawn wr dq) osq = w7 at hb2 ⊢
        by_cases hd0 : d = 0
        · have hz2 : Hid (∀ j x y, j < k + 1 → r[j]? = some x → s[j]? = some y → Bg.cr x y = 0) := Lib.hid fun j x' y' hj hx hy => by
            rcases Nat.lt_or_eq_of_le (Nat.le_of_lt_succ hj) with g | g
            · exact hz.out j x' y' g hx hy
            · subst g
              rw [GX.out] at hx; rw [GY.out] at hy
              cases hx; cases hy
              rw [← HD.out, hd0]
          subst hd0
          go_wp2_with (fail)
          go_roundw
          case rel => exact ⟨k + 1, by omega, by go_num, hz2, hb2⟩
          case measure => simp [intOf]; omega
        · have hres : Hid (d = Bg.lex Bg.cr r s) := Lib.hid (by
            have e : Bg.lex Bg.cr r s = Bg.cr x y := Bg.lex_at GX.out GY.out hz.out (by rw [← HD.out]; exact hd0)
            rw [e]; exact HD.out)
          go_wp2_with (fail)
          go_ret
          exact ⟨ret_int hres.out, hb2⟩
      · have hres : Hid ((if n < m then (-1 : Int) else if n > m then 1 else 0) = Bg.lex Bg.cr r s) := Lib.hid (HE.out fun j x y hj => hz.out j x y (by have := HQ.out; omega)).symm
        generalize (if n < m then (-1 : Int) else if n > m then 1 else 0) = D at cl hres
        go_wp2_with (first | (go_at_call 28; refine (cl _).mono ?_; rintro e w' ⟨rfl, rfl⟩))
        go_ret
        exact ⟨ret_int hres.out, hb⟩
  · skip
    have hS := Below.refl w.heap.size w
    have g' : ¬ ((n : Int) ≤ (m : Int)) := by omega
    have HG := Lib.hid g
    go_enter Try.func24, Try.ntmps24
    go_wp2_with (fail)
    have hq : m = min n m := by have := HG.out; omega
    have HQ := Lib.hid hq
    clear g' hq g
    go_loopw [14] (fun i wr => ∃ (k : Nat), k ≤ m ∧ i = .int .i64 k ∧ Hid (∀ j x y, j < k → r[j]? = some x → s[j]? = some y → Bg.cr x y = 0) ∧ Below w.heap.size w wr) (fun i _ => m - (intOf i).toNat)
    case atStart => exact ⟨0, Nat.zero_le _, rfl, Lib.hid fun j x y h => by omega, hS⟩
    case round =>
      obtain ⟨k, hk, rfl, hz, hb⟩ := hrel
      by_cases hlt : k < m
      · obtain ⟨x, gx⟩ : ∃ x, r[k]? = some x := ⟨r[k]'(by have := HN.out; have := HQ.out; omega), List.getElem?_eq_getElem _⟩
        obtain ⟨y, gy⟩ : ∃ y, s[k]? = some y := ⟨s[k]'(by have := HM.out; have := HQ.out; omega), List.getElem?_eq_getElem _⟩
        obtain ⟨b1, o1, p1, e1, rfl, h1⟩ := HU.out k x gx
        obtain ⟨b2, o2, p2, e2, rfl, h2⟩ := HV.out k y gy
        have i1 : (0 : Int) ≤ (k : Int) := by omega
        have i2 : (k : Int) < (n : Int) := by have := HQ.out; omega
        have i3 : (k : Int) < (m : Int) := by have := HQ.out; omega
        have y1 := cell_regrown (h1 wr hb).1
        have y3 := cell_regrown (h2 wr hb).1
        obtain ⟨d, hd⟩ : ∃ d, d = Bg.cr x y := ⟨_, rfl⟩
        have cc := in_class (W0 := wr) fun W h => crow_any _ _ x y W ((h1 wr hb).2.below h (Nat.le_refl _)) ((h2 wr hb).2.below h (Nat.le_refl _)) (HR2.out x (List.mem_of_getElem? gx)) (HS2.out y (List.mem_of_getElem? gy))
        rw [← hd] at cc
        have HD := Lib.hid hd
        have GX := Lib.hid gx
        have GY := Lib.hid gy
        clear h1 h2 gx gy hd
        go_wp2_with (fail)
        refine wp_region_quiet_below (by kernel_rfl) (by kernel_rfl) ?_
        repeat (go_big_quiet_step (with_reducible exact cc _ _))
        refine wpQuiet_nil ?_
        intro _ hw'
        obtain ⟨⟨dq, osq⟩, hw''⟩ := hw'
        subst hw''
        have hb2 := below_join hb (below_regrown wr dq osq)
        clear y1 y3 i1 i2 i3 hb cc
        generalize grow (redrawn wr dq) osq = w7 at hb2 ⊢
        by_cases hd0 : d = 0
        · have hz2 : Hid (∀ j x y, j < k + 1 → r[j]? = some x → s[j]? = some y → Bg.cr x y = 0) := Lib.hid fun j x' y' hj hx hy => by
            rcases Nat.lt_or_eq_of_le (Nat.le_of_lt_succ hj) with g | g
            · exact hz.out j x' y' g hx hy
            · subst g
              rw [GX.out] at hx; rw [GY.out] at hy
              cases hx; cases hy
              rw [← HD.out, hd0]
          subst hd0
          go_wp2_with (fail)
          go_roundw
          case rel => exact ⟨k + 1, by omega, by go_num, hz2, hb2⟩
          case measure => simp [intOf]; omega
        · have hres : Hid (d = Bg.lex Bg.cr r s) := Lib.hid (by
            have e : Bg.lex Bg.cr r s = Bg.cr x y := Bg.lex_at GX.out GY.out hz.out (by rw [← HD.out]; exact hd0)
            rw [e]; exact HD.out)
          go_wp2_with (fail)
          go_ret
          exact ⟨ret_int hres.out, hb2⟩
      · have hres : Hid ((if n < m then (-1 : Int) else if n > m then 1 else 0) = Bg.lex Bg.cr r s) := Lib.hid (HE.out fun j x y hj => hz.out j x y (by have := HQ.out; omega)).symm
        generalize (if n < m then (-1 : Int) else if n > m then 1 else 0) = D at cl hres
        go_wp2_with (first | (go_at_call 28; refine (cl _).mono ?_; rintro e w' ⟨rfl, rfl⟩))
        go_ret
        exact ⟨ret_int hres.out, hb⟩
end Go.Proofs.Ytaodobjekpacoaa
