/-
  THE STATEMENT MatchTells.
-/
import Derived.Test.YtdlmpaipphjdpaaDoorMtjM
import Derived.Test.YtdlmpaipphjdpaaDoorMtkM
import Derived.Deep.RegionHeld3
namespace Go.Proofs.YtdlmpaipphjdpaaDoor
open Go.RowKit Go.Sort
set_option maxHeartbeats 6400000

set_option maxRecDepth 100000 in
theorem matchtells_any (d : Nat) (cv lv rv : Value) (ps : List Pd) (l : List (List Vl)) (r : List (List (List Vl))) (w : World) (hp : PsAt d w cv ps) (hl : RwsOn Al w lv l) (hr : TusOn Al w rv r) (hf : Formed rv) (hW : Want w) (hT : Tab w) :
    Calls Tryd.prog 3 #[cv, lv, rv] w fun E w' => E = .returned (.bool true) ∧ Below w.heap.size w w' := by
  have cl := light_any d cv lv rv ps l r w hp hl hr hf
  have CA := Lib.hid (show ∀ W, Below w.heap.size w W → _ from fun W (h : Below w.heap.size w W) => awake13_any W (hW.below h (Nat.le_refl _)) (hT.below h))
  have CE := Lib.hid (show Mt.light ps l r → ∀ (k : Int) (W : World), Below w.heap.size w W → _ from fun hL k W h =>
    extend_any k d cv lv rv ps l r W (hp.below h (Nat.le_refl _)) (Mt.light_sizes hL.1) (hW.below h (Nat.le_refl _)) (hl.below h (Nat.le_refl _)) (hr.below h (Nat.le_refl _)) (by have := (hL.2.2 l (by simp)).1; omega) (fun x hx => Nat.le_trans ((hL.2.2 l (by simp)).2 x hx) (by decide)) (by have := hL.2.1; omega) (fun x hx => Nat.le_trans (hL.2.2 x (by simp [hx])).1 (by decide)) (fun x hx y hy => Nat.le_trans ((hL.2.2 x (by simp [hx])).2 y hy) (by decide)))
  have CR := Lib.hid (show Mt.light ps l r → ∀ (k : Int) (W : World), Below w.heap.size w W → _ from fun hL k W h =>
    r13extend_any Al k d cv lv rv ps l r W (hp.below h (Nat.le_refl _)) (Mt.light_sizes hL.1) (hl.below h (Nat.le_refl _)) (hr.below h (Nat.le_refl _)) (by have := (hL.2.2 l (by simp)).1; omega) (fun x hx => Nat.le_trans ((hL.2.2 l (by simp)).2 x hx) (by decide)) (by have := hL.2.1; omega) (fun x hx => Nat.le_trans (hL.2.2 x (by simp [hx])).1 (by decide)) (fun x hx y hy => Nat.le_trans ((hL.2.2 x (by simp [hx])).2 y hy) (by decide)))
  have CM := Lib.hid (show Mt.light ps l r → ∀ (W : World), Below w.heap.size w W → _ from fun hL W h =>
    matches_any d cv lv rv ps l r W (hp.below h (Nat.le_refl _)) (Mt.light_sizes hL.1) (hW.below h (Nat.le_refl _)) (hl.below h (Nat.le_refl _)) (hr.below h (Nat.le_refl _)) (by have := (hL.2.2 l (by simp)).1; omega) (fun x hx => Nat.le_trans ((hL.2.2 l (by simp)).2 x hx) (by decide)) (by have := hL.2.1; omega) (fun x hx => Nat.le_trans (hL.2.2 x (by simp [hx])).1 (by decide)) (fun x hx y hy => Nat.le_trans ((hL.2.2 x (by simp [hx])).2 y hy) (by decide)))
  have CN := Lib.hid (show Mt.light ps l r → ∀ (W : World), Below w.heap.size w W → _ from fun hL W h =>
    r13matches_any Al d cv lv rv ps l r W (hp.below h (Nat.le_refl _)) (Mt.light_sizes hL.1) (hl.below h (Nat.le_refl _)) (hr.below h (Nat.le_refl _)) (by have := (hL.2.2 l (by simp)).1; omega) (fun x hx => Nat.le_trans ((hL.2.2 l (by simp)).2 x hx) (by decide)) (by have := hL.2.1; omega) (fun x hx => Nat.le_trans (hL.2.2 x (by simp [hx])).1 (by decide)) (fun x hx y hy => Nat.le_trans ((hL.2.2 x (by simp [hx])).2 y hy) (by decide)))
  obtain ⟨P0, p0, rfl, _⟩ := hp.form
  obtain ⟨L0, c0, rfl, _⟩ := hl.form
  obtain ⟨R0, c1, rfl, _⟩ := hr.form
  have HLW := Lib.hid hl
  have HRW := Lib.hid hr
  have hsm : ∀ m : List (List (List Vl)), (∀ t ∈ m, (t ∈ Mt.found ps l r) ∨ t = l) → Mt.light ps l r → (∀ t ∈ m, t.length ≤ 1000) ∧ ∀ t ∈ m, ∀ x ∈ t, x.length ≤ 1000000 := fun m hm hL => by
    have h1 : ∀ t ∈ m, t.length ≤ 1000 ∧ ∀ x ∈ t, x.length ≤ 1000000 := fun t ht => by
      have h2 := hL.2.2 l (by simp)
      rcases hm t ht with h | rfl
      · unfold Mt.found at h
        obtain ⟨t', ht', rfl⟩ := List.mem_map.1 h
        have h1 := hL.2.2 t' (List.mem_append_left _ (List.mem_filter.1 ht').1)
        exact ⟨by rw [Mt.merge_length]; omega, fun x hx => Nat.le_trans (Mt.merge_mem h2.2 h1.2 x hx) (by decide)⟩
      · exact ⟨by omega, fun x hx => Nat.le_trans (h2.2 x hx) (by decide)⟩
    exact ⟨fun t ht => (h1 t ht).1, fun t ht => (h1 t ht).2⟩
  have hext : ∀ (k : Int), (∀ t ∈ Mt.extend k ps l r, (t ∈ Mt.found ps l r) ∨ t = l) ∧ (Mt.extend k ps l r).length ≤ max 1 (Mt.found ps l r).length := fun k => by
    unfold Mt.extend Mt.of
    split
    · exact ⟨fun t ht => .inl ht, by omega⟩
    · split
      · exact ⟨fun t ht => .inr (List.mem_singleton.1 ht), by simp; omega⟩
      · exact ⟨fun t ht => by simp at ht, by simp⟩
  have hfl := Mt.found_le ps l r
  have HSM := Lib.hid (And.intro hsm (And.intro hext hfl))
  obtain ⟨pl, hpl⟩ : ∃ n, n = ps.length := ⟨_, rfl⟩
  obtain ⟨rl, hrl⟩ : ∃ n, n = r.length := ⟨_, rfl⟩
  obtain ⟨ll, hll⟩ : ∃ n, n = l.length := ⟨_, rfl⟩
  rw [← hll] at HLW
  rw [← hrl] at HRW
  rw [← hpl, ← hrl, ← hll] at cl CE CR CM CN ⊢
  have HN := Lib.hid (And.intro hll hrl)
  clear hp hl hr hf hW hT hpl hrl hll hsm hext hfl
  go_enter Tryd.func3, Tryd.ntmps3
  go_wp2_with fail
  refine cl.mono ?_
  rintro E w1 ⟨b, rfl, hlight, hb1⟩
  have HL := Lib.hid hlight
  have HB1 := Lib.hid hb1
  clear cl hlight
  cases b with
  | false =>
    have ca := CA.out w1 hb1
    clear hb1
    go_wp2_with fail
    refine ca.mono ?_
    rintro E w2 ⟨rfl, hb2⟩
    have hb12 := below_join HB1.out hb2
    clear ca hb2
    go_wp2_with fail
    go_ret
    exact ⟨rfl, hb12⟩
  | true =>
    have hL := HL.out rfl
    have HE := Lib.hid (CE.out hL)
    have HR := Lib.hid (CR.out hL)
    have HM := Lib.hid (CM.out hL)
    have HN2 := Lib.hid (CN.out hL)
    have HLI := Lib.hid hL
    have hrl40 : rl ≤ 40 := by have := hL.2.1; have := HN.out.2; omega
    clear hb1 CE CR CM CN HL hL
    go_wp2_with fail
    go_loopw [7] (fun i wr => ∃ k : Nat, k ≤ rl ∧ i = .int .i64 k ∧ Below w.heap.size w wr) (fun i _ => rl - (intOf i).toNat)
    case atStart => exact ⟨0, by omega, rfl, HB1.out⟩
    case round =>
      obtain ⟨k, hk, rfl, hb⟩ := hrel
      by_cases hlt : k < rl
      · obtain ⟨t, gt⟩ : ∃ t, r[k]? = some t := ⟨r[k]'(by have := HN.out.2; omega), List.getElem?_eq_getElem _⟩
        obtain ⟨b1, o1, p1, B1, d1, hR0, _, h1⟩ := HRW.out.pick gt
        subst hR0
        have hlt1 := HLI.out.2.2 t (List.mem_append_left _ (List.mem_of_getElem? gt))
        have hll1 := HLI.out.2.2 l (by simp)
        have i1 : (0 : Int) ≤ (k : Int) := by omega
        have i2 : (k : Int) < (rl : Int) := by omega
        have hml := Mt.merge_length l t
        have hmm : ∀ x ∈ Mt.merge l t, x.length ≤ 1000000 := fun x hx => Nat.le_trans (Mt.merge_mem hll1.2 hlt1.2 x hx) (by decide)
        have hlen := HN.out.1
        have cA : ∀ W, Below wr.heap.size wr W → Calls Tryd.prog 9 #[.slice L0 ll c0, .slice B1 t.length d1] W (MergedN W (Mt.merge l t)) := fun W h =>
          merge_any Al _ _ l t W (HLW.out.below (below_join hb h) (Nat.le_refl _)) (h1 W (below_join hb h)).2 (by omega) (by omega) (fun x hx => Nat.le_trans (hll1.2 x hx) (by decide)) (fun x hx => Nat.le_trans (hlt1.2 x hx) (by decide))
        have cB : ∀ W, Below wr.heap.size wr W → Calls Tryd.prog 10 #[.slice L0 ll c0, .slice B1 t.length d1] W (Merged Al W (Mt.merge l t)) := fun W h =>
          r13merge_any Al _ _ l t W (HLW.out.below (below_join hb h) (Nat.le_refl _)) (h1 W (below_join hb h)).2 (by omega) (by omega)
        obtain ⟨m, hm⟩ : ∃ m, m = Mt.merge l t := ⟨_, rfl⟩
        rw [← hm] at cA cB hml hmm
        have cC : ∀ (A B : Option Addr) (c d : Nat) (W : World), RwsOn Al W (.slice A m.length c) m → RwsOn Al W (.slice B m.length d) m → Calls Tryd.prog 8 #[.slice A m.length c, .slice B m.length d] W fun E w' => E = .returned (.bool true) ∧ Below W.heap.size W w' := fun A B c d W hA hB => by
          have := r13same_any Al _ _ m m W hA hB (by omega) (by omega) hmm hmm
          rwa [Mt.same_refl] at this
        have hcell : ∀ W, Below wr.heap.size wr W → W.cell? ((⟨b1, o1, p1⟩ : Addr).add k) = some (.slice B1 t.length d1) := fun W h => (h1 W (below_join hb h)).1
        obtain ⟨ml, hml'⟩ : ∃ n, n = m.length := ⟨_, rfl⟩
        obtain ⟨tl, htl⟩ : ∃ n, n = t.length := ⟨_, rfl⟩
        rw [← htl] at cA cB hcell hml
        rw [← hml'] at cC hml
        rw [← hlen] at hml
        have CCA := Lib.hid (show ∀ W, Below wr.heap.size wr W → Calls Tryd.prog 9 #[.slice L0 ll c0, .slice B1 tl d1] W fun E w' => ∃ A c, E = .returned (.slice A ml c) ∧ RwsOn Al w' (.slice A ml c) m ∧ Below W.heap.size W w' ∧ Below wr.heap.size wr w' from fun W h => (cA W h).mono fun E w' hE => by
          obtain ⟨A, c, he, h2, h3⟩ := hE
          exact ⟨A, c, by rw [he, hml'], by rw [hml']; exact h2.al, h3, below_join h h3⟩)
        have CCB := Lib.hid (show ∀ W, Below wr.heap.size wr W → Calls Tryd.prog 10 #[.slice L0 ll c0, .slice B1 tl d1] W fun E w' => ∃ A c, E = .returned (.slice A ml c) ∧ RwsOn Al w' (.slice A ml c) m ∧ Below W.heap.size W w' ∧ Below wr.heap.size wr w' from fun W h => (cB W h).mono fun E w' hE => by
          obtain ⟨A, c, he, h2, h3⟩ := hE
          exact ⟨A, c, by rw [he, hml'], by rw [hml']; exact h2.al, h3, below_join h h3⟩)
        have CCC := Lib.hid (show ∀ (A B : Option Addr) (c d : Nat) (W : World), RwsOn Al W (.slice A ml c) m → RwsOn Al W (.slice B ml d) m → Below wr.heap.size wr W → Calls Tryd.prog 8 #[.slice A ml c, .slice B ml d] W fun E w' => E = .returned (.bool true) ∧ Below wr.heap.size wr w' from fun A B c d W hA hB h => (cC A B c d W hA hB).mono fun E w' hE => ⟨hE.1, below_join h hE.2⟩)
        have KK := Lib.hid (fun W (h : Below wr.heap.size wr W) => (show W.cell? ((⟨b1, o1, p1⟩ : Addr).add k) = some (.slice B1 tl d1) ∧ Below wr.heap.size wr W from ⟨hcell W h, h⟩))
        have HB := Lib.hid hb
        have hS := Below.refl wr.heap.size wr
        have hbw := HB1.out
        have y0 := hcell wr hS
        clear cA cB cC hcell hmm hlen hm h1 hlt1 hll1 gt hml' htl hb hbw hlt
        rcases (show (ll < tl ∧ ml = tl) ∨ (¬ ll < tl ∧ ml = ll) by omega) with ⟨hlt, he⟩ | ⟨hlt, he⟩
        · subst he
          clear hml
          go_wp2_with fail
          go_region_held3 (fun W => W.cell? ((⟨b1, o1, p1⟩ : Addr).add k) = some (.slice B1 ml d1) ∧ Below wr.heap.size wr W) (first | (exact KK.out _ (by repeat first | assumption | refine Below.drew ?_)))
            (first
              | (go_at_call 9; (with_reducible refine (CCA.out _ (by repeat first | assumption | refine Below.drew ?_)).mono ?_); rintro e w' ⟨A5, c5, rfl, hrr, hbb, hS'⟩)
              | (go_at_call 10; (with_reducible refine (CCB.out _ (by repeat first | assumption | refine Below.drew ?_)).mono ?_); rintro e w' ⟨A6, c6, rfl, hrr, hbb, hS'⟩)
              | (go_at_call 8; (with_reducible refine (CCC.out _ _ _ _ _ (by first | assumption | exact RwsOn.below (by assumption) (by assumption) (Nat.le_refl _)) (by first | assumption | exact RwsOn.below (by assumption) (by assumption) (Nat.le_refl _)) (by repeat first | assumption | refine Below.drew ?_)).mono ?_); rintro e w' ⟨rfl, hS'⟩)
              | (fail "no arm"))
          all_goals
            go_wp2_with fail
            go_roundw
            case rel => exact ⟨k + 1, by omega, by go_num, below_join HB.out (by repeat first | assumption | refine Below.drew ?_)⟩
            case measure => simp [intOf]; omega
        · subst he
          clear hml
          go_wp2_with fail
          go_region_held3 (fun W => W.cell? ((⟨b1, o1, p1⟩ : Addr).add k) = some (.slice B1 tl d1) ∧ Below wr.heap.size wr W) (first | (exact KK.out _ (by repeat first | assumption | refine Below.drew ?_)))
            (first
              | (go_at_call 9; (with_reducible refine (CCA.out _ (by repeat first | assumption | refine Below.drew ?_)).mono ?_); rintro e w' ⟨A5, c5, rfl, hrr, hbb, hS'⟩)
              | (go_at_call 10; (with_reducible refine (CCB.out _ (by repeat first | assumption | refine Below.drew ?_)).mono ?_); rintro e w' ⟨A6, c6, rfl, hrr, hbb, hS'⟩)
              | (go_at_call 8; (with_reducible refine (CCC.out _ _ _ _ _ (by first | assumption | exact RwsOn.below (by assumption) (by assumption) (Nat.le_refl _)) (by first | assumption | exact RwsOn.below (by assumption) (by assumption) (Nat.le_refl _)) (by repeat first | assumption | refine Below.drew ?_)).mono ?_); rintro e w' ⟨rfl, hS'⟩)
              | (fail "no arm"))
          all_goals
            go_wp2_with fail
            go_roundw
            case rel => exact ⟨k + 1, by omega, by go_num, below_join HB.out (by repeat first | assumption | refine Below.drew ?_)⟩
            case measure => simp [intOf]; omega
      · have i2 : ¬ ((k : Int) < (rl : Int)) := by omega
        clear hlt
        go_wp2_with fail
        go_loopw [8] (fun i wr => ∃ q : Nat, q ≤ 8 ∧ i = .int .i64 ((q : Int) - 1) ∧ Below w.heap.size w wr) (fun i _ => 8 - (intOf i + 1).toNat)
        case atStart => exact ⟨0, by omega, rfl, hb⟩
        case round =>
          obtain ⟨q, hq, rfl, hb⟩ := hrel
          by_cases hlt : q < 8
          · have i3 : (q : Int) - 1 ≤ 6 := by omega
            have c5 := HE.out ((q : Int) - 1) wr hb
            have hx := HSM.out.2.1 ((q : Int) - 1)
            obtain ⟨m, hm⟩ : ∃ m, m = Mt.extend ((q : Int) - 1) ps l r := ⟨_, rfl⟩
            rw [← hm] at c5 hx
            have h2 := HSM.out.1 m hx.1 HLI.out
            have hml : m.length ≤ 1000000 := by have := HSM.out.2.2; have := hx.2; have := HN.out.2; omega
            have HMM := Lib.hid (And.intro hm (And.intro h2 hml))
            have HB := Lib.hid hb
            clear hm hx h2 hml hb
            go_wp2_with fail
            refine c5.mono ?_
            rintro E w2 ⟨A1, a1, rfl, ht1, hb2⟩
            have hb02 := below_join HB.out hb2
            have c6 := HR.out ((q : Int) - 1) w2 hb02
            rw [← HMM.out.1] at c6
            have HB2 := Lib.hid hb02
            have HT1 := Lib.hid ht1
            clear c5 hb2 hb02 ht1
            go_wp2_with fail
            refine c6.mono ?_
            rintro E w3 ⟨A2, a2, rfl, ht2, hb3⟩
            have hb03 := below_join HB2.out hb3
            have ct := r13list_any Al _ _ m m w3 (HT1.out.below hb3 (Nat.le_refl _)) ht2 HMM.out.2.1.1 HMM.out.2.1.1 HMM.out.2.1.2 HMM.out.2.1.2 HMM.out.2.2 HMM.out.2.2
            rw [Mt.list_refl] at ct
            have HB3 := Lib.hid hb03
            clear c6 hb3 hb03 ht2
            go_wp2_with fail
            refine ct.mono ?_
            rintro E w4 ⟨rfl, hb4⟩
            have hb04 := below_join HB3.out hb4
            clear ct hb4
            go_wp2_with fail
            go_roundw
            case rel => exact ⟨q + 1, by omega, by go_num, hb04⟩
            case measure => simp [intOf]; omega
          · have i3 : ¬ ((q : Int) - 1 ≤ 6) := by omega
            have c5 := HM.out wr hb
            have h2 := HSM.out.1 (Mt.found ps l r) (fun t ht => .inl ht) HLI.out
            have hml : (Mt.found ps l r).length ≤ 1000000 := by have := HSM.out.2.2; have := HN.out.2; omega
            obtain ⟨m, hm⟩ : ∃ m, m = Mt.found ps l r := ⟨_, rfl⟩
            rw [← hm] at c5 h2 hml
            have HMM := Lib.hid (And.intro hm (And.intro h2 hml))
            have HB := Lib.hid hb
            clear hm h2 hml hb hlt
            go_wp2_with fail
            refine c5.mono ?_
            rintro E w2 ⟨A1, a1, rfl, ht1, hb2⟩
            have hb02 := below_join HB.out hb2
            have c6 := HN2.out w2 hb02
            rw [← HMM.out.1] at c6
            have HB2 := Lib.hid hb02
            have HT1 := Lib.hid ht1
            clear c5 hb2 hb02 ht1
            go_wp2_with fail
            refine c6.mono ?_
            rintro E w3 ⟨A2, a2, rfl, ht2, hb3⟩
            have hb03 := below_join HB2.out hb3
            have ct := r13list_any Al _ _ m m w3 (HT1.out.below hb3 (Nat.le_refl _)) ht2 HMM.out.2.1.1 HMM.out.2.1.1 HMM.out.2.1.2 HMM.out.2.1.2 HMM.out.2.2 HMM.out.2.2
            rw [Mt.list_refl] at ct
            have HB3 := Lib.hid hb03
            clear c6 hb3 hb03 ht2
            go_wp2_with fail
            refine ct.mono ?_
            rintro E w4 ⟨rfl, hb4⟩
            have hb04 := below_join HB3.out hb4
            have ca := CA.out w4 hb04
            have HB4 := Lib.hid hb04
            clear ct hb4 hb04
            go_wp2_with fail
            refine ca.mono ?_
            rintro E w5 ⟨rfl, hb5⟩
            have HB5 := Lib.hid (below_join HB4.out hb5)
            clear ca hb5
            go_wp2_with fail
            go_ret
            exact ⟨rfl, HB5.out⟩
end Go.Proofs.YtdlmpaipphjdpaaDoor
