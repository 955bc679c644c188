/-
  THE LAW BagOrder, walked.
-/
import Derived.Test.YtaodobjekpacoaaBgkM
namespace Go.Proofs.Ytaodobjekpacoaa
open Go.RowKit Go.Sort
set_option maxHeartbeats 6400000

set_option maxRecDepth 100000 in
theorem bagorder_any (u v : Value) (vs us : List Value) (r s : List (List Vl)) (w : World) (hu : RwsOf w u vs r) (hv : RwsOf w v us s) :
    Calls Try.prog 4 #[u, v] w fun e w' => e = .returned (.bool true) ∧ Below w.heap.size w w' := by
  have cf1 := few9_any u vs r w hu
  have cf2 := fun (W : World) (h : Below w.heap.size w W) => few9_any v us s W (hv.below h (Nat.le_refl _))
  have HU := Lib.hid hu
  have HV := Lib.hid hv
  obtain ⟨A, c, rfl, _, _⟩ := Rws.at_ ⟨vs, hu⟩
  obtain ⟨A', c', rfl, _, _⟩ := Rws.at_ ⟨us, hv⟩
  obtain ⟨n, hn⟩ : ∃ n, n = r.length := ⟨_, rfl⟩
  obtain ⟨m, hm⟩ : ∃ m, m = s.length := ⟨_, rfl⟩
  rw [← hn] at cf1 ⊢
  simp only [← hm] at cf2
  rw [← hm]
  have HN := Lib.hid (And.intro hn hm)
  clear hu hv hn hm
  go_enter Try.func4, Try.ntmps4
  go_wp2_with (fail)
  refine cf1.mono ?_
  rintro E w1 ⟨b1, rfl, hf1, hb1⟩
  clear cf1
  have HF1 := Lib.hid hf1
  clear hf1
  cases b1
  · have ca := awake9_any w1
    clear cf2
    go_wp2_with (fail)
    refine ca.mono ?_
    rintro E w2 ⟨rfl, hb2⟩
    clear ca
    go_wp2_with (fail)
    go_ret
    exact ⟨rfl, below_join hb1 hb2⟩
  have cf3 := cf2 w1 hb1
  clear cf2
  go_wp2_with (fail)
  refine cf3.mono ?_
  rintro E w2 ⟨b2, rfl, hf2, hb2⟩
  clear cf3
  have HF2 := Lib.hid hf2
  clear hf2
  have hbw2 := below_join hb1 hb2
  clear hb1 hb2
  cases b2
  · have ca := awake9_any w2
    go_wp2_with (fail)
    refine ca.mono ?_
    rintro E w3 ⟨rfl, hb3⟩
    clear ca
    go_wp2_with (fail)
    go_ret
    exact ⟨rfl, below_join hbw2 hb3⟩
  have HL := Lib.hid (show n ≤ 60 ∧ m ≤ 60 ∧ (∀ x ∈ r, x.length ≤ 20) ∧ (∀ x ∈ s, x.length ≤ 20) by
    obtain ⟨h1, h2⟩ := HF1.out (by trivial)
    obtain ⟨h3, h4⟩ := HF2.out (by trivial)
    obtain ⟨hn, hm⟩ := HN.out
    exact ⟨by omega, by omega, h2, h4⟩)
  have hn6 : n ≤ 60 := HL.out.1
  clear HF1 HF2
  have cs1 : Calls Try.prog 13 #[.slice A n c] w2 (SortedR w2 r) := by
    obtain ⟨h1, h2, h3, h4⟩ := HL.out
    have hnm := HN.out
    have h := bsorted_any _ vs r w2 (HU.out.below hbw2 (Nat.le_refl _)) (by omega) (fun x hx => by have := h3 x hx; omega)
    rw [← hnm.1] at h
    exact h
  go_wp2_with (fail)
  refine cs1.mono ?_
  rintro E w3 ⟨v1, us1, S1, rfl, p1, o1, r1, hb3⟩
  have hbw3 := below_join hbw2 hb3
  have cs2 : Calls Try.prog 13 #[.slice A' m c'] w3 (SortedR w3 s) := by
    obtain ⟨h1, h2, h3, h4⟩ := HL.out
    have hnm := HN.out
    have h := bsorted_any _ us s w3 (HV.out.below hbw3 (Nat.le_refl _)) (by omega) (fun x hx => by have := h4 x hx; omega)
    rw [← hnm.2] at h
    exact h
  have H1 := Lib.hid (And.intro p1 (And.intro o1 r1))
  clear cs1 p1 o1 r1 hb3
  go_wp2_with (fail)
  refine cs2.mono ?_
  rintro E w4 ⟨v2, us2, S2, rfl, p2, o2, r2, hb4⟩
  have hbw4 := below_join hbw3 hb4
  obtain ⟨p1, o1, r1⟩ := H1.out
  have r1' := r1.below hb4 (Nat.le_refl _)
  obtain ⟨A1, c1, rfl, _, _⟩ := Rws.at_ ⟨us1, r1'⟩
  have hl1 : S1.length = n := by rw [p1.length_eq, ← HN.out.1]
  rw [hl1]
  have hpu := fun (j : Nat) (x : List Vl) (hj : S1[j]? = some x) => r1'.pick hj
  have HPU := Lib.hid hpu
  have H2 := Lib.hid (And.intro p1 (And.intro o1 (And.intro r1' (And.intro p2 (And.intro o2 (And.intro r2 hl1))))))
  clear cs2 p1 o1 r1 r1' p2 o2 r2 hb4 H1 hpu hl1 hbw2 hbw3
  have hS := Below.refl w4.heap.size w4
  go_wp2_with (fail)
  go_loopw [7] (fun i wr => ∃ (k : Nat), i = .int .i64 k ∧ 1 ≤ k ∧ k ≤ 61 ∧ Below w4.heap.size w4 wr) (fun i _ => 62 - (intOf i).toNat)
  case atStart => exact ⟨1, rfl, Nat.le_refl _, by omega, hS⟩
  case round =>
    obtain ⟨k, rfl, hk1, hk6, hb⟩ := hrel
    by_cases hlt : k < n
    · as_aux_lemma =>
      obtain ⟨p1, o1, r1, p2, o2, r2, hl1⟩ := H2.out
      obtain ⟨h1', h2', h3', h4'⟩ := HL.out
      obtain ⟨k1, hk2⟩ : ∃ k1, k = k1 + 1 := ⟨k - 1, by omega⟩
      have e1 : (k : Int) - 1 = (k1 : Int) := by omega
      obtain ⟨x, gx⟩ : ∃ x, S1[k]? = some x := ⟨S1[k]'(by omega), List.getElem?_eq_getElem _⟩
      obtain ⟨y, gy⟩ : ∃ y, S1[k1]? = some y := ⟨S1[k1]'(by omega), List.getElem?_eq_getElem _⟩
      obtain ⟨b1, o1', p1', e1', rfl, h1⟩ := HPU.out k x gx
      obtain ⟨b2, o2', p2', e2', hAA, h2⟩ := HPU.out k1 y gy
      cases hAA
      have i1 : (0 : Int) ≤ (k : Int) := by omega
      have i2 : (k : Int) < (n : Int) := by omega
      have i3 : (0 : Int) ≤ (k1 : Int) := by omega
      have i4 : (k1 : Int) < (n : Int) := by omega
      have y1 := cell_regrown (h1 wr hb).1
      have y2 := cell_regrown (h2 wr hb).1
      have lx := h3' x (p1.mem_iff.1 (List.mem_of_getElem? gx))
      have ly := h3' y (p1.mem_iff.1 (List.mem_of_getElem? gy))
      have cc := in_class (W0 := wr) fun W h => bless_any _ _ x y W ((h1 wr hb).2.below h (Nat.le_refl _)) ((h2 wr hb).2.below h (Nat.le_refl _)) (by omega) (by omega)
      have hle : decide (Bg.cr x y < 0) = false := by
        rw [decide_eq_false_iff_not]
        exact o1.at_ Bg.cr_cmp.pre (by omega) gy gx
      rw [hle] at cc
      clear p1 o1 r1 p2 o2 r2 hl1 h1' h2' h3' h4' hk2 gx gy h1 h2 lx ly hle
      go_wp2_with (fail)
      refine wp_region_quiet_below (by kernel_rfl) (by kernel_rfl) ?_
      repeat (go_big_quiet_step (with_reducible exact cc _ _))
      refine wpQuiet_nil ?_
      intro _ hw'
      obtain ⟨⟨dq, osq⟩, hw''⟩ := hw'
      subst hw''
      have hb2 := below_join hb (below_regrown wr dq osq)
      clear y1 y2 i1 i2 i3 i4 e1 hb cc
      generalize grow (redrawn wr dq) osq = w7 at hb2 ⊢
      go_wp2_with (fail)
      go_roundw
      case rel => exact ⟨k + 1, by go_num, by omega, by omega, hb2⟩
      case measure => simp [intOf]; omega
    · as_aux_lemma =>
      obtain ⟨p1, o1, r1, p2, o2, r2, hl1⟩ := H2.out
      obtain ⟨h1, h2, h3, h4⟩ := HL.out
      obtain ⟨hn, hm⟩ := HN.out
      have hge : ¬ ((k : Int) < (n : Int)) := by omega
      have hbw := below_join hbw4 hb
      have l2 := p2.length_eq
      have hbr := hbw4
      have q1 : ∀ x ∈ S1, x.length ≤ 1000000 := fun x hx => by have := h3 x (p1.mem_iff.1 hx); omega
      have q2 : ∀ x ∈ S2, x.length ≤ 1000000 := fun x hx => by have := h4 x (p2.mem_iff.1 hx); omega
      have q3 : ∀ x ∈ r, x.length ≤ 1000000 := fun x hx => by have := h3 x hx; omega
      have q4 : ∀ x ∈ s, x.length ≤ 1000000 := fun x hx => by have := h4 x hx; omega
      have ua := fun (W : World) (h : Below wr.heap.size wr W) => HU.out.below (below_join hbw h) (Nat.le_refl _)
      have ub := fun (W : World) (h : Below wr.heap.size wr W) => HV.out.below (below_join hbw h) (Nat.le_refl _)
      have u1 := fun (W : World) (h : Below wr.heap.size wr W) => r1.below (below_join hb h) (Nat.le_refl _)
      have u2 := fun (W : World) (h : Below wr.heap.size wr W) => r2.below (below_join hb h) (Nat.le_refl _)
      have k1 := in_turn (W0 := wr) fun W h => bsameb_any _ _ _ _ S1 r W (u1 W h) (ua W h) (by omega) (by omega) q1 q3
      have k2 := in_turn (W0 := wr) fun W h => bsameb_any _ _ _ _ r r W (ua W h) (ua W h) (by omega) (by omega) q3 q3
      have k3 := in_turn (W0 := wr) fun W h => bsameb_any _ _ _ _ r s W (ua W h) (ub W h) (by omega) (by omega) q3 q4
      have k4 := in_turn (W0 := wr) fun W h => bsameb_any _ _ _ _ s r W (ub W h) (ua W h) (by omega) (by omega) q4 q3
      have k5 := in_turn (W0 := wr) fun W h => r9list_any _ _ _ _ S1 S2 W (u1 W h) (u2 W h) (fun x hx => by have := q1 x hx; omega) (fun x hx => by have := q2 x hx; omega) (by omega) (by omega)
      rw [Bg.same_perm p1, ← hn, hl1] at k1
      rw [Bg.same_perm (List.Perm.refl r), ← hn] at k2
      rw [← hn, ← hm] at k3
      rw [Bg.same_symm Bg.cr_cmp s r, ← hn, ← hm] at k4
      rw [Bg.same_ord Bg.cr_cmp p1 p2 o1 o2, hl1] at k5
      generalize Bg.same Bg.cr r s = X at k3 k4 k5
      have ka := in_turn (W0 := wr) fun W _ => awake9_any W
      have HBW := Lib.hid hbw
      clear p1 o1 r1 p2 o2 r2 hl1 h1 h2 h3 h4 hn hm hbw l2 hbr q1 q2 q3 q4 ua ub u1 u2 hb hlt
      have hS := Below.refl wr.heap.size wr
      cases X
      all_goals
        go_wp2_with (first
          | (go_at_call 15; (with_reducible refine (k1 _ (by assumption)).mono ?_); rintro e w' ⟨rfl, hS'⟩)
          | (go_at_call 15; (with_reducible refine (k2 _ (by assumption)).mono ?_); rintro e w' ⟨rfl, hS'⟩)
          | (go_at_call 15; (with_reducible refine (k3 _ (by assumption)).mono ?_); rintro e w' ⟨rfl, hS'⟩)
          | (go_at_call 15; (with_reducible refine (k4 _ (by assumption)).mono ?_); rintro e w' ⟨rfl, hS'⟩)
          | (go_at_call 12; (with_reducible refine (k5 _ (by assumption)).mono ?_); rintro e w' ⟨rfl, hS'⟩)
          | (go_at_call 7; (with_reducible refine (ka _ (by assumption)).mono ?_); rintro e w' ⟨rfl, hS'⟩))
        go_ret
        exact ⟨rfl, below_join HBW.out (by assumption)⟩
end Go.Proofs.Ytaodobjekpacoaa
