/-
  THE LAW LogicTells, walked.
-/
import Derived.Test.YtgopoeblkconeaaLogc
namespace Go.Proofs.Ytgopoeblkconeaa
open Go.RowKit Go.Sort
set_option maxHeartbeats 800000

/-- a callee that makes nothing, in a world of the class -/
theorem in_still {f : FuncId} {args : Array Value} {v : Value} (h : ∀ W, Calls Try.prog f args W fun e w' => e = .returned v ∧ W = w') (W0 : World) :
    ∀ d os, Calls Try.prog f args (grow (redrawn W0 d) os) fun e w'' => e = .returned v ∧ ∃ p : Regrown, w'' = grow (redrawn W0 p.d) p.os :=
  fun d os => (h _).mono fun _ _ ⟨he, hw⟩ => ⟨he, ⟨⟨d, os⟩, hw.symm⟩⟩
theorem three_ways (x : Int) : ∃ b0 b1 b2 r : Bool, (x == 0) = b0 ∧ (x == 1) = b1 ∧ (x == 2) = b2 ∧ (x == 0 || x == 1 || x == 2) = r ∧
    ((b0 = true ∧ b1 = false ∧ b2 = false ∧ r = true) ∨ (b0 = false ∧ b1 = true ∧ b2 = false ∧ r = true) ∨ (b0 = false ∧ b1 = false ∧ b2 = true ∧ r = true) ∨ (b0 = false ∧ b1 = false ∧ b2 = false ∧ r = false)) := by
  by_cases h0 : x = 0
  · subst h0; exact ⟨_, _, _, _, rfl, rfl, rfl, rfl, by decide⟩
  · by_cases h1 : x = 1
    · subst h1; exact ⟨_, _, _, _, rfl, rfl, rfl, rfl, by decide⟩
    · by_cases h2 : x = 2
      · subst h2; exact ⟨_, _, _, _, rfl, rfl, rfl, rfl, by decide⟩
      · exact ⟨_, _, _, _, rfl, rfl, rfl, rfl, by simp [h0, h1, h2]⟩

set_option maxRecDepth 100000 in
theorem logictells_any (v : Value) (l : List Int) (b : Bool) (w : World) (hv : Sl w v (l.map (Value.int .i64))) (hl : l.length ≤ 9223372036854775807) :
    Calls Try.prog 3 #[v, .bool b] w fun e w' => e = .returned (.bool true) ∧ Below w.heap.size w w' := by
  have HV := Lib.hid hv
  obtain ⟨A, c, rfl, _, hx⟩ := hv
  rw [List.length_map] at HV ⊢
  obtain ⟨n, hn⟩ : ∃ n, n = l.length := ⟨_, rfl⟩
  have hl0 := hl
  have HL0 := Lib.hid hl0
  rw [← hn] at hl HV ⊢
  have Hn := Lib.hid hn
  have HX := Lib.hid hx
  clear hn hx hl0
  have HW := Lib.hid (fun (W : World) (h : Below w.heap.size w W) => (awake4_any W).mono fun _ _ ⟨he, hb⟩ => (⟨he, below_join4 h hb⟩ : _ ∧ Below w.heap.size w _))
  by_cases hlt : n ≤ 300
  · go_enter Try.func3, Try.ntmps3
    go_wp2_with fail
    go_loopw [5] (fun i wr => ∃ k : Nat, k ≤ n ∧ i = .int .i64 k ∧ Below w.heap.size w wr) (fun i _ => n - (intOf i).toNat)
    case atStart => exact ⟨0, Nat.zero_le _, rfl, Below.refl _ _⟩
    case round =>
      obtain ⟨k, hk, rfl, hS⟩ := hrel
      by_cases hkn : k < n
      · obtain ⟨x, gx⟩ : ∃ x, l[k]? = some x := ⟨l[k]'(by have := Hn.out; omega), List.getElem?_eq_getElem _⟩
        obtain ⟨b1, o1, p1, rfl, _, hcell⟩ := HX.out k (.int .i64 x) (by simp [gx])
        have k0 := cell_regrown (hS.cell (block_lt_of_cell hcell) ▸ hcell : wr.cell? ((⟨b1, o1, p1⟩ : Addr).add k) = some (.int .i64 x))
        obtain ⟨y, hy⟩ : ∃ y, y = Lo.notI x := ⟨_, rfl⟩
        have c1 : ∀ W, Calls Try.prog 6 #[.int .i64 x] W fun e w' => e = .returned (.int .i64 y) ∧ W = w' := by rw [hy]; exact lnot_any x
        have c2 : ∀ W, Calls Try.prog 7 #[.int .i64 x] W fun e w' => e = .returned (.int .i64 y) ∧ W = w' := by rw [hy]; exact r4not_any x
        obtain ⟨e0, e1, e2, r, h0, h1, h2, hr, hcase⟩ := three_ways x
        have c3 : ∀ W, Calls Try.prog 8 #[.int .i64 x] W fun e w' => e = .returned (.bool r) ∧ W = w' := by rw [← hr]; exact lright_any x
        replace c1 := in_still c1 wr
        replace c2 := in_still c2 wr
        replace c3 := in_still c3 wr
        clear gx hcell hy hr
        go_wp2_with fail
        rcases hcase with ⟨rfl, rfl, rfl, rfl⟩ | ⟨rfl, rfl, rfl, rfl⟩ | ⟨rfl, rfl, rfl, rfl⟩ | ⟨rfl, rfl, rfl, rfl⟩
        all_goals
          refine wp_region_quiet_below (by kernel_rfl) (by kernel_rfl) ?_
          repeat (go_big_quiet_step (with_reducible first | exact c1 _ _ | exact c2 _ _ | exact c3 _ _))
          refine wpQuiet_nil ?_
          intro _ hw'
          obtain ⟨⟨dq, osq⟩, hw''⟩ := hw'
          subst hw''
          have hS2 : Below w.heap.size w (grow (redrawn wr dq) osq) := below_join4 hS (below_regrown _ _ _)
          clear c1 c2 c3 k0 h0 h1 h2
          generalize grow (redrawn wr dq) osq = wz at hS2 ⊢
          go_wp2
          go_roundw
          case rel => exact ⟨k + 1, by omega, by go_num, hS2⟩
          case measure => simp [intOf]; omega
      · obtain rfl : k = n := by omega
        have cA : ∀ W, Below w.heap.size w W → Calls Try.prog 9 #[.slice A k c] W fun e w' => e = .returned (.int .i64 (Lo.andI l)) ∧ Below w.heap.size w w' :=
          fun W h => (land_any _ l W (HV.out.below h (Nat.le_refl _)) HL0.out).mono fun _ _ ⟨he, hb⟩ => ⟨he, below_join4 h hb⟩
        have cB : ∀ W, Below w.heap.size w W → Calls Try.prog 10 #[.slice A k c] W fun e w' => e = .returned (.int .i64 (Lo.andI l)) ∧ Below w.heap.size w w' :=
          fun W h => (r4and_any _ l W (HV.out.below h (Nat.le_refl _)) HL0.out).mono fun _ _ ⟨he, hb⟩ => ⟨he, hb ▸ h⟩
        have cO : ∀ W, Below w.heap.size w W → Calls Try.prog 11 #[.slice A k c] W fun e w' => e = .returned (.int .i64 (Lo.orI l)) ∧ Below w.heap.size w w' :=
          fun W h => (lor_any _ l W (HV.out.below h (Nat.le_refl _)) HL0.out).mono fun _ _ ⟨he, hb⟩ => ⟨he, below_join4 h hb⟩
        have cP : ∀ W, Below w.heap.size w W → Calls Try.prog 12 #[.slice A k c] W fun e w' => e = .returned (.int .i64 (Lo.orI l)) ∧ Below w.heap.size w w' :=
          fun W h => (r4or_any _ l W (HV.out.below h (Nat.le_refl _)) HL0.out).mono fun _ _ ⟨he, hb⟩ => ⟨he, hb ▸ h⟩
        obtain ⟨y, hy⟩ : ∃ y, y = Lo.andI l := ⟨_, rfl⟩
        obtain ⟨z, hz⟩ : ∃ z, z = Lo.orI l := ⟨_, rfl⟩
        rw [← hy] at cA cB
        rw [← hz] at cO cP
        clear hy hz
        cases b with
        | true =>
          have cF : ∀ W, Below w.heap.size w W → Calls Try.prog 13 #[.bool true] W fun e w' => e = .returned (.int .i64 2) ∧ Below w.heap.size w w' :=
            fun W h => (lof_any true W).mono fun _ _ ⟨he, hb⟩ => ⟨he, hb ▸ h⟩
          go_wp2_with ((first | (with_reducible refine (cA _ (by assumption)).mono ?_) | (with_reducible refine (cB _ (by assumption)).mono ?_) | (with_reducible refine (cO _ (by assumption)).mono ?_) | (with_reducible refine (cP _ (by assumption)).mono ?_) | (with_reducible refine (cF _ (by assumption)).mono ?_) | (with_reducible refine (HW.out _ (by assumption)).mono ?_)); rintro e w' ⟨rfl, hS'⟩)
          go_ret
          exact ⟨rfl, by assumption⟩
        | false =>
          have cF : ∀ W, Below w.heap.size w W → Calls Try.prog 13 #[.bool false] W fun e w' => e = .returned (.int .i64 0) ∧ Below w.heap.size w w' :=
            fun W h => (lof_any false W).mono fun _ _ ⟨he, hb⟩ => ⟨he, hb ▸ h⟩
          go_wp2_with ((first | (with_reducible refine (cA _ (by assumption)).mono ?_) | (with_reducible refine (cB _ (by assumption)).mono ?_) | (with_reducible refine (cO _ (by assumption)).mono ?_) | (with_reducible refine (cP _ (by assumption)).mono ?_) | (with_reducible refine (cF _ (by assumption)).mono ?_) | (with_reducible refine (HW.out _ (by assumption)).mono ?_)); rintro e w' ⟨rfl, hS'⟩)
          go_ret
          exact ⟨rfl, by assumption⟩
  · go_enter Try.func3, Try.ntmps3
    have hS := Below.refl w.heap.size w
    go_wp2_with ((first | (with_reducible refine (HW.out _ (by assumption)).mono ?_)); rintro e w' ⟨rfl, hS'⟩)
    go_ret
    exact ⟨rfl, by assumption⟩
end Go.Proofs.Ytgopoeblkconeaa
