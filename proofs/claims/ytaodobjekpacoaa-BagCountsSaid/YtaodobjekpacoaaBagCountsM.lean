/-
  THE LAW BagCounts, walked.
-/
import Derived.Test.YtaodobjekpacoaaBgkM
namespace Go.Proofs.Ytaodobjekpacoaa
open Go.RowKit Go.Sort
set_option maxHeartbeats 6400000

theorem int_beq (a b : Nat) : ((a : Int) == (b : Int)) = (a == b) := by
  rw [Bool.eq_iff_iff, beq_iff_eq, beq_iff_eq]
  omega
theorem all_take {r : List (List Vl)} {k : Nat} {x : List Vl} {f : List Vl → Bool} (h : r[k]? = some x) : (r.take (k + 1)).all f = ((r.take k).all f && f x) := by
  rw [List.take_add_one, h, List.all_append]
  simp
theorem rev_at {vs : List Value} {j : Nat} {u : Value} (hj : j < vs.length) (h : vs[vs.length - 1 - j]? = some u) : vs.reverse.take (j + 1) = vs.reverse.take j ++ [u] := by
  rw [List.take_add_one, List.getElem?_reverse hj, h]
  rfl
theorem RwsOf.reverse {w : World} {v v' : Value} {vs : List Value} {rs : List (List Vl)} (h : RwsOf w v vs rs) (hs : Sl w v' vs.reverse) : RwsOf w v' vs.reverse rs.reverse := by
  refine ⟨hs, by simp [h.len], fun i r hr => ?_⟩
  have hi := (List.getElem?_eq_some_iff.1 hr).1
  rw [List.length_reverse] at hi
  rw [List.getElem?_reverse hi] at hr
  obtain ⟨u, hu, hr2⟩ := h.row _ r hr
  exact ⟨u, by rw [List.getElem?_reverse (by rw [h.len]; exact hi), h.len]; exact hu, hr2⟩
theorem Try.infoRowC : (Try.prog.info? 24).map (fun i => (i.zero, i.size, i.bytes)) = some (some (.slice none 0 0), 1, 24) := by kernel_rfl
set_option maxRecDepth 100000 in
theorem bagcounts_any (u v : Value) (vs us : List Value) (r s : List (List Vl)) (w : World) (hu : RwsOf w u vs r) (hv : RwsOf w v us s) :
    Calls Try.prog 5 #[u, v] w fun e w' => e = .returned (.bool true) ∧ Below w.heap.size w w' := by
  have cf1 := few9_any u vs r w hu
  have cf2 := fun (W : World) (h : Below w.heap.size w W) => few9_any v us s W (hv.below h (Nat.le_refl _))
  have HU := Lib.hid hu
  have HV := Lib.hid hv
  obtain ⟨A, c, rfl, _, _⟩ := Rws.at_ ⟨vs, hu⟩
  obtain ⟨A', c', rfl, _, _⟩ := Rws.at_ ⟨us, hv⟩
  have hpu := fun (j : Nat) (x : List Vl) (hj : r[j]? = some x) => hu.pick hj
  have HPU := Lib.hid hpu
  obtain ⟨n, hn⟩ : ∃ n, n = r.length := ⟨_, rfl⟩
  obtain ⟨m, hm⟩ : ∃ m, m = s.length := ⟨_, rfl⟩
  rw [← hn] at cf1 ⊢
  simp only [← hm] at cf2
  rw [← hm]
  have HN := Lib.hid (And.intro hn hm)
  clear hu hv hpu hn hm
  obtain ⟨i0, hi, hz0, hz1, hz2⟩ := info_parts Try.infoRowC
  go_enter Try.func5, Try.ntmps5
  go_wp2_with (fail)
  refine cf1.mono ?_
  rintro E w1 ⟨b1, rfl, hf1, hb1⟩
  clear cf1
  have HF1 := Lib.hid hf1
  clear hf1
  cases b1
  · have ca := awake9_any w1
    clear cf2
    go_wp2_with (fail)
    refine ca.mono ?_
    rintro E w2 ⟨rfl, hb2⟩
    clear ca
    go_wp2_with (fail)
    go_ret
    exact ⟨rfl, below_join hb1 hb2⟩
  have cf3 := cf2 w1 hb1
  clear cf2
  go_wp2_with (fail)
  refine cf3.mono ?_
  rintro E w2 ⟨b2, rfl, hf2, hb2⟩
  clear cf3
  have HF2 := Lib.hid hf2
  clear hf2
  have hbw2 := below_join hb1 hb2
  clear hb1 hb2
  cases b2
  · have ca := awake9_any w2
    go_wp2_with (fail)
    refine ca.mono ?_
    rintro E w3 ⟨rfl, hb3⟩
    clear ca
    go_wp2_with (fail)
    go_ret
    exact ⟨rfl, below_join hbw2 hb3⟩
  have HL := Lib.hid (show n ≤ 60 ∧ m ≤ 60 ∧ (∀ x ∈ r, x.length ≤ 20) ∧ (∀ x ∈ s, x.length ≤ 20) by
    obtain ⟨h1, h2⟩ := HF1.out (by trivial)
    obtain ⟨h3, h4⟩ := HF2.out (by trivial)
    obtain ⟨hn, hm⟩ := HN.out
    exact ⟨by omega, by omega, h2, h4⟩)
  have hn6 : n ≤ 60 := HL.out.1
  clear HF1 HF2
  go_wp2_with (fail)
  go_loopw [5, 6] (fun q i wr => ∃ (k : Nat) (t : Bool), k ≤ n ∧ i = .int .i64 k ∧ q = .bool t ∧ Hid (t = ((r.length == s.length) && (r.take k).all fun x => Bg.times Bg.cr r x == Bg.times Bg.cr s x)) ∧ Below w.heap.size w wr) (fun _ i _ => n - (intOf i).toNat)
  case atStart => exact ⟨0, _, Nat.zero_le _, rfl, rfl, Lib.hid (by obtain ⟨hn, hm⟩ := HN.out; rw [← hn, ← hm, int_beq]; simp), hbw2⟩
  case round =>
    obtain ⟨k, t, hk, rfl, rfl, hz, hb⟩ := hrel
    by_cases hlt : k < n
    · as_aux_lemma =>
      obtain ⟨x, gx⟩ : ∃ x, r[k]? = some x := ⟨r[k]'(by have := HN.out; omega), List.getElem?_eq_getElem _⟩
      obtain ⟨b1, o1, p1, e1, rfl, h1⟩ := HPU.out k x gx
      have i1 : (0 : Int) ≤ (k : Int) := by omega
      have i2 : (k : Int) < (n : Int) := by omega
      have y1 := cell_regrown (h1 wr hb).1
      have hx := HL.out.2.2.1 x (List.mem_of_getElem? gx)
      have hnm := HN.out
      have hlm := HL.out
      have c1 := in_class (W0 := wr) fun W h => btimes_any _ e1 vs r x W (HU.out.below (below_join hb h) (Nat.le_refl _)) ((h1 wr hb).2.below h (Nat.le_refl _)) (by omega) (fun y hy => by have := hlm.2.2.1 y hy; omega) (by omega)
      have c2 := in_class (W0 := wr) fun W h => btimes_any _ e1 us s x W (HV.out.below (below_join hb h) (Nat.le_refl _)) ((h1 wr hb).2.below h (Nat.le_refl _)) (by omega) (fun y hy => by have := hlm.2.2.2 y hy; omega) (by omega)
      rw [← hnm.1] at c1
      rw [← hnm.2] at c2
      obtain ⟨t1, ht1⟩ : ∃ t, t = Bg.times Bg.cr r x := ⟨_, rfl⟩
      obtain ⟨t2, ht2⟩ : ∃ t, t = Bg.times Bg.cr s x := ⟨_, rfl⟩
      rw [← ht1] at c1
      rw [← ht2] at c2
      have HT := Lib.hid (show ((r.length == s.length) && (r.take (k + 1)).all fun x => Bg.times Bg.cr r x == Bg.times Bg.cr s x) = (t && (t1 == t2)) by
        rw [all_take gx, ← Bool.and_assoc, ← hz.out, ht1, ht2])
      clear h1 gx ht1 ht2 hx hnm hlm hz
      cases t
      · go_wp2_with (fail)
        refine wp_region_quiet_below (by kernel_rfl) (by kernel_rfl) ?_
        repeat (go_big_quiet_step (with_reducible first | exact c1 _ _ | exact c2 _ _))
        refine wpQuiet_nil ?_
        intro _ hw'
        obtain ⟨⟨dq, osq⟩, hw''⟩ := hw'
        subst hw''
        have hb2 := below_join hb (below_regrown wr dq osq)
        clear y1 i1 i2 hb c1 c2
        generalize grow (redrawn wr dq) osq = w7 at hb2 ⊢
        go_wp2_with (fail)
        go_roundw
        case rel => exact ⟨k + 1, false, by omega, by go_num, rfl, Lib.hid (by rw [HT.out]; rfl), hb2⟩
        case measure => simp [intOf]; omega
      · go_wp2_with (fail)
        refine wp_region_quiet_below (by kernel_rfl) (by kernel_rfl) ?_
        repeat (go_big_quiet_step (with_reducible first | exact c1 _ _ | exact c2 _ _))
        refine wpQuiet_nil ?_
        intro _ hw'
        obtain ⟨⟨dq, osq⟩, hw''⟩ := hw'
        subst hw''
        have hb2 := below_join hb (below_regrown wr dq osq)
        clear y1 i1 i2 hb c1 c2
        generalize grow (redrawn wr dq) osq = w7 at hb2 ⊢
        go_wp2_with (fail)
        go_roundw
        case rel => exact ⟨k + 1, _, by omega, by go_num, rfl, Lib.hid (by rw [HT.out, int_beq]; simp), hb2⟩
        case measure => simp [intOf]; omega
    · have hge : ¬ ((k : Int) < (n : Int)) := by omega
      have ht : Hid (t = Bg.same Bg.cr r s) := Lib.hid (by
        have h := hz.out
        rw [List.take_of_length_le (by have := HN.out; omega)] at h
        exact h)
      clear hz hlt
      obtain ⟨w4, hw4⟩ : ∃ w4, w4 = wr := ⟨_, rfl⟩
      subst hw4
      have hown : (w4.alloc (Obj.cells #[] 24)).ownsRow w4.heap.size 24 1 (.slice (some ⟨w4.heap.size, 0, none⟩) 0 0) 0 (vs.reverse.take 0) := World.ownsRow_made w4 #[] 0 (Nat.le_refl _) (by decide) rfl
      have hbA := Lib.hid (below_new w4 (Obj.cells #[] 24))
      have H0 := Lib.hid hown
      clear hown
      go_wp2_with (fail)
      go_loopw [7, 8] (fun q i wr' => ∃ (j : Nat), j ≤ n ∧ i = .int .i64 ((n : Int) - 1 - (j : Int)) ∧ Hid (wr'.ownsRow w4.heap.size 24 1 q j (vs.reverse.take j)) ∧ Below w4.heap.size w4 wr') (fun _ i _ => (intOf i + 1).toNat)
      case atStart => exact ⟨0, Nat.zero_le _, by simp, H0, hbA.out⟩
      case round =>
        obtain ⟨j, hj, rfl, hown, hb4⟩ := hrel
        by_cases hlt2 : j < n
        · as_aux_lemma =>
          obtain ⟨k2, hk2⟩ : ∃ k2, k2 = n - 1 - j := ⟨_, rfl⟩
          have e2 : (n : Int) - 1 - (j : Int) = (k2 : Int) := by omega
          obtain ⟨x, gx⟩ : ∃ x, r[k2]? = some x := ⟨r[k2]'(by have := HN.out; omega), List.getElem?_eq_getElem _⟩
          have hbw := below_join hb hb4
          obtain ⟨b1, o1, p1, e1, rfl, h1⟩ := HPU.out k2 x gx
          obtain ⟨hc, hrow⟩ := h1 wr hbw
          have gv : vs[k2]? = some e1 := by
            obtain ⟨u, hu, _⟩ := HU.out.row k2 x gx
            obtain ⟨A', c', hv, _, hx⟩ := HU.out.sl
            injection hv with f1 f2 f3
            obtain ⟨b, o, p, hA, hlt, hcell⟩ := hx k2 u hu
            rw [← f1] at hA
            cases hA
            have := (h1 w (Below.refl _ _)).1
            rw [hcell] at this
            cases this
            exact hu
          obtain ⟨B, d, rfl, _, _⟩ := id hrow
          have hvl : vs.length = n := by rw [HU.out.len, ← HN.out.1]
          have HT := Lib.hid (rev_at (vs := vs) (j := j) (u := .slice B x.length d) (by rw [hvl]; exact hlt2) (by rw [hvl, ← hk2]; exact gv))
          have i1 : (0 : Int) ≤ (k2 : Int) := by omega
          have i2 : (k2 : Int) < (n : Int) := by omega
          have hoa := Lib.hid (hown.out.alloc (Obj.cells #[.slice B x.length d] 24))
          have HK2 := Lib.hid hk2
          have hbs : w4.heap.size ≤ (wr.alloc (Obj.cells #[.slice B x.length d] 24)).heap.size := by have := hb4.size; rw [World.size_alloc]; omega
          clear h1 hrow gx gv hbw hk2 hvl
          rw [e2]
          clear e2
          go_wp2_with (first
            | (at_builtin; refine wpList_append_own _ rfl _ _ 22 rfl w4.heap.size 24 i0 (.slice none 0 0) 1 24 Try.underlying22 hi hz0 hz1 hz2 rfl (by decide) _ j _ rfl hoa.out ⟨wr.heap.size, 0, none⟩ 1 1 [.slice B x.length d] rfl rfl (cell_one_new _ _ _) (by simp [Value.oneCell']) (by unfold maxLen; omega) (by omega) hbs ?_))
          intro v' w9 hown' hgrow _
          have hb9 : Below w4.heap.size w4 w9 := (below_alloc9 hb4 _).grown hgrow hbs (fun q hq => (hoa.out.lt q hq).1)
          have hown2 := Lib.hid (HT.out ▸ hown')
          clear hown' hgrow hoa hc hown
          go_wp2_with (fail)
          go_roundw
          case rel => exact ⟨j + 1, by omega, by have := HK2.out; congr 1; omega, hown2, hb9⟩
          case measure => (have := HK2.out; simp [intOf]) <;> omega
        · as_aux_lemma =>
          obtain rfl : j = n := by omega
          have e2 : (j : Int) - 1 - (j : Int) = -1 := by omega
          have hvl : vs.length = j := by rw [HU.out.len, ← HN.out.1]
          have hbw := below_join hb hb4
          have ho := hown.out
          rw [List.take_of_length_le (by rw [List.length_reverse]; omega)] at ho
          obtain ⟨h1, h2, h3, h4⟩ := HL.out
          obtain ⟨hn, hm⟩ := HN.out
          have hru := HU.out.below hbw (Nat.le_refl _)
          have hrv := hru.reverse (Sl.own ho)
          have l20 : ∀ x ∈ r, x.length ≤ 1000000 := fun x hx => by have := h3 x hx; omega
          have c1 := bsameb_any _ _ _ _ r s wr hru (HV.out.below hbw (Nat.le_refl _)) (by omega) (by omega) l20 (fun x hx => by have := h4 x hx; omega)
          have c2 := fun (W : World) (h : Below wr.heap.size wr W) => bsameb_any _ _ _ _ r r.reverse W (hru.below h (Nat.le_refl _)) (hrv.below h (Nat.le_refl _)) (by omega) (by rw [List.length_reverse]; omega) l20 (fun x hx => l20 x (List.mem_reverse.1 hx))
          rw [Bg.same_perm (List.reverse_perm r).symm, ← hn] at c2
          rw [← ht.out, ← hn, ← hm] at c1
          have HBW := Lib.hid hbw
          clear ho h1 h2 h3 h4 hn hm hru hrv l20 hown hb4 hbw hvl
          rw [e2]
          clear e2
          cases t
          all_goals
            go_wp2_with (fail)
            refine c1.mono ?_
            rintro E w5 ⟨rfl, hb5⟩
            have c3 := c2 w5 hb5
            go_wp2_with (fail)
            refine c3.mono ?_
            rintro E w6 ⟨rfl, hb6⟩
            have ca := awake9_any w6
            go_wp2_with (fail)
            refine ca.mono ?_
            rintro E w7 ⟨rfl, hb7⟩
            go_wp2_with (fail)
            go_ret
            exact ⟨rfl, below_join HBW.out (below_join hb5 (below_join hb6 hb7))⟩
end Go.Proofs.Ytaodobjekpacoaa
