/-
  THE LAW BagTells, walked.
-/
import Derived.Test.YtaodobjekpacoaaBgkM
import Derived.Test.YtaodobjekpacoaaBgqM
namespace Go.Proofs.Ytaodobjekpacoaa
open Go.RowKit Go.Sort
set_option maxHeartbeats 6400000

theorem sorted_two {S T r : List (List Vl)} (p1 : S.Perm r) (p2 : T.Perm r) (o1 : So.Ord Bg.cr S) (o2 : So.Ord Bg.cr T) : decide (Bg.lex Bg.cr S T = 0) = true := by
  rw [decide_eq_true_iff]
  have p := p1.trans p2.symm
  exact Bg.ord_same Bg.cr_cmp o1 o2 p.length_eq fun x => Bg.upTo_perm p x
set_option maxRecDepth 100000 in
theorem bagtells_any (u v z : Value) (vs us : List Value) (r s : List (List Vl)) (q : List Vl) (w : World) (hu : RwsOf w u vs r) (hfm : ∀ x ∈ vs, Fm x) (hfu : Fm u) (hv : RwsOf w v us s) (hq : RowAt w z q) :
    Calls Try.prog 3 #[u, v, z] w fun e w' => e = .returned (.bool true) ∧ Below w.heap.size w w' := by
  have cf1 := few9_any u vs r w hu
  have cf2 := fun (W : World) (h : Below w.heap.size w W) => few9_any v us s W (hv.below h (Nat.le_refl _))
  have HU := Lib.hid hu
  have HV := Lib.hid hv
  have HQ := Lib.hid hq
  obtain ⟨A, c, rfl, _, _⟩ := Rws.at_ ⟨vs, hu⟩
  obtain ⟨A', c', rfl, _, _⟩ := Rws.at_ ⟨us, hv⟩
  obtain ⟨Aq, cq, rfl, _, _⟩ := id hq
  have hpu := fun (j : Nat) (x : List Vl) (hj : r[j]? = some x) => hu.pick hj
  have HPU := Lib.hid hpu
  have HFM := Lib.hid (And.intro hfm hfu)
  obtain ⟨n, hn⟩ : ∃ n, n = r.length := ⟨_, rfl⟩
  obtain ⟨m, hm⟩ : ∃ m, m = s.length := ⟨_, rfl⟩
  obtain ⟨l, hl⟩ : ∃ l, l = q.length := ⟨_, rfl⟩
  rw [← hn] at cf1 ⊢
  simp only [← hm] at cf2
  rw [← hm, ← hl]
  have HN := Lib.hid (And.intro hn (And.intro hm hl))
  clear hu hv hq hn hm hl hpu hfm hfu
  go_enter Try.func3, Try.ntmps3
  go_wp2_with (fail)
  refine cf1.mono ?_
  rintro E w1 ⟨b1, rfl, hf1, hb1⟩
  clear cf1
  have HF1 := Lib.hid hf1
  clear hf1
  cases b1
  · have ca := awake9_any w1
    clear cf2
    go_wp2_with (fail)
    refine ca.mono ?_
    rintro E w2 ⟨rfl, hb2⟩
    clear ca
    go_wp2_with (fail)
    go_ret
    exact ⟨rfl, below_join hb1 hb2⟩
  have cf3 := cf2 w1 hb1
  clear cf2
  go_wp2_with (fail)
  refine cf3.mono ?_
  rintro E w2 ⟨b2, rfl, hf2, hb2⟩
  clear cf3
  have HF2 := Lib.hid hf2
  clear hf2
  have hbw2 := below_join hb1 hb2
  clear hb1 hb2
  cases b2
  · have ca := awake9_any w2
    go_wp2_with (fail)
    refine ca.mono ?_
    rintro E w3 ⟨rfl, hb3⟩
    clear ca
    go_wp2_with (fail)
    go_ret
    exact ⟨rfl, below_join hbw2 hb3⟩
  by_cases hl20 : 20 < l
  · have hl2 : (20 : Int) < (l : Int) := by omega
    have ca := awake9_any w2
    clear hl20
    go_wp2_with (fail)
    refine ca.mono ?_
    rintro E w3 ⟨rfl, hb3⟩
    clear ca
    go_wp2_with (fail)
    go_ret
    exact ⟨rfl, below_join hbw2 hb3⟩
  have hl2 : ¬ ((20 : Int) < (l : Int)) := by omega
  have HL := Lib.hid (show n ≤ 60 ∧ m ≤ 60 ∧ l ≤ 20 ∧ (∀ x ∈ r, x.length ≤ 20) ∧ (∀ x ∈ s, x.length ≤ 20) by
    obtain ⟨h1, h2⟩ := HF1.out (by trivial)
    obtain ⟨h3, h4⟩ := HF2.out (by trivial)
    obtain ⟨hn, hm, hl⟩ := HN.out
    exact ⟨by omega, by omega, by omega, h2, h4⟩)
  have hn6 : n ≤ 60 := HL.out.1
  clear HF1 HF2 hl20
  go_wp2_with (fail)
  clear hl2
  go_loopw [7] (fun i wr => ∃ (k : Nat), i = .int .i64 k ∧ k ≤ n ∧ Below w.heap.size w wr) (fun i _ => n - (intOf i).toNat)
  case atStart => exact ⟨0, rfl, Nat.zero_le _, hbw2⟩
  case round =>
    obtain ⟨k, rfl, hk, hb⟩ := hrel
    by_cases hlt : k < n
    · as_aux_lemma =>
      obtain ⟨h1', h2', h3', h4', h5'⟩ := HL.out
      obtain ⟨hn, hm, hl⟩ := HN.out
      obtain ⟨x, gx⟩ : ∃ x, r[k]? = some x := ⟨r[k]'(by omega), List.getElem?_eq_getElem _⟩
      obtain ⟨b1, o1, p1, e1, rfl, h1⟩ := HPU.out k x gx
      have i1 : (0 : Int) ≤ (k : Int) := by omega
      have i2 : (k : Int) < (n : Int) := by omega
      have y1 := cell_regrown (h1 wr hb).1
      have lx := h4' x (List.mem_of_getElem? gx)
      have ax := fun (W : World) (h : Below wr.heap.size wr W) => (h1 wr hb).2.below h (Nat.le_refl _)
      have aq := fun (W : World) (h : Below wr.heap.size wr W) => HQ.out.below (below_join hb h) (Nat.le_refl _)
      have c1 := in_class (W0 := wr) fun W h => bless_any _ _ x q W (ax W h) (aq W h) (by omega) (by omega)
      have c2 := in_class (W0 := wr) fun W h => r9less_any _ _ x q W (ax W h) (aq W h) (by omega) (by omega)
      have c3 := in_class (W0 := wr) fun W h => bless_any _ _ q x W (aq W h) (ax W h) (by omega) (by omega)
      have c4 := in_class (W0 := wr) fun W h => r9less_any _ _ q x W (aq W h) (ax W h) (by omega) (by omega)
      have c5 := in_class (W0 := wr) fun W h => bsame_any _ _ q x W (aq W h) (ax W h) (by omega) (by omega)
      have c6 := in_class (W0 := wr) fun W h => r9same_any _ _ q x W (aq W h) (ax W h) (by omega) (by omega)
      rw [← hl] at c1 c2 c3 c4 c5 c6
      generalize decide (Bg.cr x q < 0) = d1 at c1 c2
      generalize decide (Bg.cr q x < 0) = d2 at c3 c4
      generalize decide (Bg.cr q x = 0) = d3 at c5 c6
      clear h1' h2' h3' h4' h5' hn hm hl gx h1 lx ax aq
      cases d1 <;> cases d2 <;> cases d3
      all_goals
        go_wp2_with (fail)
        refine wp_region_quiet_below (by kernel_rfl) (by kernel_rfl) ?_
        repeat (go_big_quiet_step (with_reducible first | exact c1 _ _ | exact c2 _ _ | exact c3 _ _ | exact c4 _ _ | exact c5 _ _ | exact c6 _ _))
        refine wpQuiet_nil ?_
        intro _ hw'
        obtain ⟨⟨dq, osq⟩, hw''⟩ := hw'
        subst hw''
        have hb2 := below_join hb (below_regrown wr dq osq)
        clear y1 i1 i2 hb c1 c2 c3 c4 c5 c6
        generalize grow (redrawn wr dq) osq = w7 at hb2 ⊢
        go_wp2_with (fail)
        go_roundw
        case rel => exact ⟨k + 1, by go_num, by omega, hb2⟩
        case measure => simp [intOf]; omega
    · as_aux_lemma =>
      obtain ⟨h1, h2, h3, h4, h5⟩ := HL.out
      obtain ⟨hn, hm, hl⟩ := HN.out
      have hge : ¬ ((k : Int) < (n : Int)) := by omega
      have q3 : ∀ x ∈ r, x.length ≤ 1000 := fun x hx => by have := h4 x hx; omega
      have q4 : ∀ x ∈ s, x.length ≤ 1000 := fun x hx => by have := h5 x hx; omega
      have ua := fun (W : World) (h : Below wr.heap.size wr W) => HU.out.below (below_join hb h) (Nat.le_refl _)
      have ub := fun (W : World) (h : Below wr.heap.size wr W) => HV.out.below (below_join hb h) (Nat.le_refl _)
      have uq := fun (W : World) (h : Below wr.heap.size wr W) => HQ.out.below (below_join hb h) (Nat.le_refl _)
      have k1 := bsorted_any _ _ r wr (ua wr (Below.refl _ _)) (by omega) (fun x hx => by have := q3 x hx; omega)
      have k2 := fun (W : World) (h : Below wr.heap.size wr W) => r9sorted_any _ _ r W (ua W h) HFM.out.1 HFM.out.2 (by omega) q3
      have k3 := in_turn (W0 := wr) fun W h => bsameb_any _ _ _ _ r s W (ua W h) (ub W h) (by omega) (by omega) (fun x hx => by have := q3 x hx; omega) (fun x hx => by have := q4 x hx; omega)
      have k4 := in_turn (W0 := wr) fun W h => r9sameb_any _ _ _ _ r s W (ua W h) (ub W h) (by omega) (by omega) (fun x hx => by have := q3 x hx; omega) (fun x hx => by have := q4 x hx; omega)
      have k5 := in_turn (W0 := wr) fun W h => btimes_any _ _ _ r q W (ua W h) (uq W h) (by omega) (fun x hx => by have := q3 x hx; omega) (by omega)
      have k6 := in_turn (W0 := wr) fun W h => r9times_any _ _ _ r q W (ua W h) (uq W h) (by omega) (fun x hx => by have := q3 x hx; omega) (by omega)
      have k7 := in_turn (W0 := wr) fun W _ => awake9_any W
      rw [← hn] at k1
      simp only [← hn] at k2
      rw [← hn, ← hm] at k3 k4
      rw [← hn, ← hl] at k5 k6
      generalize Bg.same Bg.cr r s = X at k3 k4
      generalize Bg.times Bg.cr r q = tq at k5 k6
      have HB := Lib.hid hb
      have HL3 := Lib.hid (And.intro q3 (show r.length ≤ 60 by omega))
      clear h1 h2 h3 h4 h5 hn hm hl q3 q4 ua ub uq hb hlt
      go_wp2_with (fail)
      refine k1.mono ?_
      rintro E w3 ⟨v1, us1, S1, rfl, p1, o1, r1, hb3⟩
      have k2' := k2 w3 hb3
      have H1 := Lib.hid (And.intro p1 (And.intro o1 r1))
      clear k1 k2 p1 o1 r1
      go_wp2_with (fail)
      refine k2'.mono ?_
      rintro E w4 ⟨v2, us2, S2, rfl, p2, o2, r2, hb4⟩
      obtain ⟨p1, o1, r1⟩ := H1.out
      have hS := below_join hb3 hb4
      have kl := r9list_any _ _ _ _ S1 S2 w4 (r1.below hb4 (Nat.le_refl _)) r2 (fun x hx => by have := HL3.out.1 x (p1.mem_iff.1 hx); omega) (fun x hx => by have := HL3.out.1 x (p2.mem_iff.1 hx); omega) (by rw [p1.length_eq]; have := HL3.out.2; omega) (by rw [p2.length_eq]; have := HL3.out.2; omega)
      rw [sorted_two p1 p2 o1 o2] at kl
      clear k2' p1 o1 r1 p2 o2 r2 H1 hb3 hb4
      go_wp2_with (fail)
      refine kl.mono ?_
      rintro E w5 ⟨rfl, hb5⟩
      have hS5 := below_join hS hb5
      clear kl hb5 hS
      cases X
      all_goals
        go_wp2_with (first
          | (go_at_call 15; (with_reducible refine (k3 _ (by assumption)).mono ?_); rintro e w' ⟨rfl, hS'⟩)
          | (go_at_call 16; (with_reducible refine (k4 _ (by assumption)).mono ?_); rintro e w' ⟨rfl, hS'⟩)
          | (go_at_call 17; (with_reducible refine (k5 _ (by assumption)).mono ?_); rintro e w' ⟨rfl, hS'⟩)
          | (go_at_call 18; (with_reducible refine (k6 _ (by assumption)).mono ?_); rintro e w' ⟨rfl, hS'⟩)
          | (go_at_call 7; (with_reducible refine (k7 _ (by assumption)).mono ?_); rintro e w' ⟨rfl, hS'⟩))
        go_ret
        exact ⟨rfl, below_join HB.out (by assumption)⟩
end Go.Proofs.Ytaodobjekpacoaa
