/-
  THE STATEMENT MatchKinds.
-/
import Derived.Test.YtdlmpaipphjdpaaDoorMtjM
import Derived.Test.YtdlmpaipphjdpaaDoorMtkM
namespace Go.Proofs.YtdlmpaipphjdpaaDoor
open Go.RowKit Go.Sort
set_option maxHeartbeats 3200000

/-- append of a slice of no element: the list as it was -/
theorem wpList_append_zero {P : Program} (w : World) {ops : Array Oper} {rest : List Oper} {o : Oper} {a : Act} {Q : Exit → Act → World → Prop} (hgd : o.guard = none) (s x : Operand) (t : TypeId)
    (ho : o.op = .call { callee := .builtin .append, args := #[s, x], argTypes := #[t, t] }) (e : TypeId) (i : TypeInfo) (ht : P.underlying t = some (.slice e)) (hi : P.info? e = some i)
    (A B : Option Addr) (n cap c : Nat) (hs : a.eval s = .slice A n cap) (hx : a.eval x = .slice B 0 c) (hn : n ≤ cap) (h : wpList P ops Q rest (a.put o.dst (.slice A n cap)) w) : wpList P ops Q (o :: rest) a w := by
  refine wpList_plain hgd fun K hK => ?_
  have hf : (Builtin.firstCells i.size 0 (.slice B 0 c)).run P w = .ok #[] w := by
    cases B with
    | none => exact run_firstCells_none w i.size 0 0 c
    | some ad => exact run_firstCells_some (P := P) w i.size 0 ad 0 c [] (by simp) (by simp)
  have hrun : (Builtin.append_ #[t, t] o.type #[.slice A n cap, .slice B 0 c]).run P w = .ok (.slice A n cap) w := by
    cases A <;> simp [Builtin.append_, run_underlying ht, sizeOf, typeInfo, hi, Builtin.lenOf, hn, hf, storeCells]
  unfold Oper.wp
  simp [execOp, ho, resolve, invoke, builtin, hs, hx, hrun, Result.andThen]
  exact hK _ _ h
theorem Mt.of_some {l : List (List Vl)} {m : List (List (List Vl))} (h : 0 < m.length) : Mt.of 1 l m = m ∧ Mt.of 2 l m = m ∧ Mt.of 3 l m = [l] ∧ Mt.of 4 l m = [] := by
  refine ⟨?_, ?_, ?_, ?_⟩ <;> unfold Mt.of <;> simp [h]
theorem Mt.of_none {l : List (List Vl)} : Mt.of 1 l [] = [] ∧ Mt.of 2 l [] = [l] ∧ Mt.of 3 l [] = [] ∧ Mt.of 4 l [] = [l] := by
  refine ⟨?_, ?_, ?_, ?_⟩ <;> unfold Mt.of <;> simp
/-- a list of one: its address, its tuple -/
theorem tus_at_one {w : World} {A : Option Addr} {c : Nat} {t : List (List Vl)} (h : TusOn Al w (.slice A 1 c) [t]) :
    ∃ b o p B d, A = some ⟨b, o, p⟩ ∧ ∀ W, Below w.heap.size w W → W.cell? ⟨b, o, p⟩ = some (.slice B t.length d) ∧ RwsOn Al W (.slice B t.length d) t := by
  obtain ⟨b, o, p, B, d, hA, _, h1⟩ := h.pick (i := 0) (t := t) rfl
  exact ⟨b, o, p, B, d, hA, fun W hb => ⟨(h1 W hb).1, (h1 W hb).2⟩⟩
theorem cell_first {w : World} {a : Addr} {u : Value} (h : w.cell? a = some u) : ∀ (j : Nat) (x : Value), [u][j]? = some x → w.cell? (a.add j) = some x := by
  intro j x hj
  match j, hj with
  | 0, hj => cases hj; exact h
theorem own_one13 {w : World} {base : Nat} {e : TypeId} {v u : Value} (h : w.ownsRow base e 1 v 1 [u]) : ∃ g a, v = .slice (some ⟨g, 0, none⟩) 1 a ∧ 1 ≤ a ∧ w.cell? ⟨g, 0, none⟩ = some u := by
  rcases id h.2 with ⟨_, h0⟩ | ⟨g, cap, cur, rfl, _, _, hn, _⟩
  · omega
  · exact ⟨g, cap, rfl, hn, by rw [h.cellAt 0 (by omega)]; rfl⟩
set_option maxRecDepth 100000 in
theorem matchkinds_any (d : Nat) (cv lv rv : Value) (ps : List Pd) (l : List (List Vl)) (r : List (List (List Vl))) (w : World) (hp : PsAt d w cv ps) (hl : RwsOn Al w lv l) (hr : TusOn Al w rv r) (hf : Formed rv) (hW : Want w) (hT : Tab w) :
    Calls Tryd.prog 4 #[cv, lv, rv] w fun E w' => E = .returned (.bool true) ∧ Below w.heap.size w w' := by
  obtain ⟨i0, hi, hz0, hz1, hz2⟩ := info_parts Tryd.infoTup13
  have cl := light_any d cv lv rv ps l r w hp hl hr hf
  have CA := Lib.hid (show ∀ W, Below w.heap.size w W → _ from fun W (h : Below w.heap.size w W) => awake13_any W (hW.below h (Nat.le_refl _)) (hT.below h))
  have CE := Lib.hid (show Mt.light ps l r → ∀ (k : Int) (W : World), Below w.heap.size w W → _ from fun hL k W h =>
    extend_any k d cv lv rv ps l r W (hp.below h (Nat.le_refl _)) (Mt.light_sizes hL.1) (hW.below h (Nat.le_refl _)) (hl.below h (Nat.le_refl _)) (hr.below h (Nat.le_refl _)) (by have := (hL.2.2 l (by simp)).1; omega) (fun x hx => Nat.le_trans ((hL.2.2 l (by simp)).2 x hx) (by decide)) (by have := hL.2.1; omega) (fun x hx => Nat.le_trans (hL.2.2 x (by simp [hx])).1 (by decide)) (fun x hx y hy => Nat.le_trans ((hL.2.2 x (by simp [hx])).2 y hy) (by decide)))
  obtain ⟨P0, p0, rfl, _⟩ := hp.form
  obtain ⟨L0, c0, rfl, _⟩ := hl.form
  obtain ⟨R0, c1, rfl, _⟩ := hr.form
  have HLW := Lib.hid hl
  have hfl := Mt.found_le ps l r
  have hfm : ∀ t ∈ Mt.found ps l r, Mt.light ps l r → t.length ≤ 1000 ∧ ∀ x ∈ t, x.length ≤ 1000000 := fun t ht hL => by
    unfold Mt.found at ht
    obtain ⟨t', ht', rfl⟩ := List.mem_map.1 ht
    have h1 := hL.2.2 t' (List.mem_append_left _ (List.mem_filter.1 ht').1)
    have h2 := hL.2.2 l (by simp)
    exact ⟨by rw [Mt.merge_length]; omega, fun x hx => Nat.le_trans (Mt.merge_mem h2.2 h1.2 x hx) (by decide)⟩
  obtain ⟨m, hm⟩ : ∃ m, m = Mt.found ps l r := ⟨_, rfl⟩
  unfold Mt.extend at CE
  rw [← hm] at CE hfl hfm
  have HFM := Lib.hid hfm
  obtain ⟨pl, hpl⟩ : ∃ n, n = ps.length := ⟨_, rfl⟩
  obtain ⟨rl, hrl⟩ : ∃ n, n = r.length := ⟨_, rfl⟩
  obtain ⟨ll, hll⟩ : ∃ n, n = l.length := ⟨_, rfl⟩
  rw [← hll] at HLW
  rw [← hpl, ← hrl, ← hll] at cl CE ⊢
  rw [← hrl] at hfl
  have HN := Lib.hid (And.intro hll hrl)
  clear hp hl hr hf hW hT hm hpl hrl hll hfm
  go_enter Tryd.func4, Tryd.ntmps4
  go_wp2_with fail
  refine cl.mono ?_
  rintro E w1 ⟨b, rfl, hlight, hb1⟩
  have HL := Lib.hid hlight
  have HB1 := Lib.hid hb1
  clear cl hlight
  cases b with
  | false =>
    have ca := CA.out w1 hb1
    clear hb1
    go_wp2_with fail
    refine ca.mono ?_
    rintro E w2 ⟨rfl, hb2⟩
    have hb12 := below_join HB1.out hb2
    clear ca hb2
    go_wp2_with fail
    go_ret
    exact ⟨rfl, hb12⟩
  | true =>
    have hL := HL.out rfl
    have HE := Lib.hid (CE.out hL)
    have HLI := Lib.hid hL
    have c1' := HE.out 1 w1 hb1
    have hm40 : m.length ≤ 40 := by have := hL.2.1; have := HN.out.2; omega
    clear hb1 CE HL hL
    by_cases hs : 0 < m.length
    · obtain ⟨e1, e2, e3, e4⟩ := Mt.of_some (l := l) hs
      rw [e1] at c1'
      have HEQ := Lib.hid (And.intro e2 (And.intro e3 e4))
      clear e1 e2 e3 e4
      go_wp2_with fail
      refine c1'.mono ?_
      rintro E w2 ⟨A1, a1, rfl, ht1, hb2⟩
      have hb02 := below_join HB1.out hb2
      have c2' := HE.out 2 w2 hb02
      rw [HEQ.out.1] at c2'
      have HB2 := Lib.hid hb02
      have HT1 := Lib.hid ht1
      clear c1' hb2 hb02 ht1
      go_wp2_with fail
      refine c2'.mono ?_
      rintro E w3 ⟨A2, a2, rfl, ht2, hb3⟩
      have hb03 := below_join HB2.out hb3
      have c3' := HE.out 3 w3 hb03
      rw [HEQ.out.2.1] at c3'
      have HB3 := Lib.hid hb03
      have HB23 := Lib.hid hb3
      have HT2 := Lib.hid ht2
      clear c2' hb3 hb03 ht2
      go_wp2_with fail
      refine c3'.mono ?_
      rintro E w4 ⟨A3, a3, rfl, ht3, hb4⟩
      have ht3 : TusOn Al w4 (.slice A3 1 a3) [l] := ht3
      have hb04 := below_join HB3.out hb4
      have c4' := HE.out 4 w4 hb04
      rw [HEQ.out.2.2] at c4'
      obtain ⟨b3, o3, p3, B3, d3, rfl, h3⟩ := tus_at_one ht3
      rw [← HN.out.1] at h3
      have HB4 := Lib.hid hb04
      have HB34 := Lib.hid hb4
      have H3 := Lib.hid h3
      clear c3' hb4 hb04 ht3 h3
      go_wp2_with fail
      refine c4'.mono ?_
      rintro E w5 ⟨A4, a4, rfl, ht4, hb5⟩
      have hb05 := below_join HB4.out hb5
      have HB5 := Lib.hid hb05
      have HB45 := Lib.hid hb5
      clear c4' hb5 hb05 ht4
      obtain ⟨ml, hml⟩ : ∃ n, n = m.length := ⟨_, rfl⟩
      have HML := Lib.hid hml
      rw [← hml] at hfl hm40 hs ⊢
      have HT1' := Lib.hid (show TusOn Al w2 (.slice A1 ml a1) m by rw [hml]; exact HT1.out)
      have HT2' := Lib.hid (show TusOn Al w3 (.slice A2 ml a2) m by rw [hml]; exact HT2.out)
      have j1 : ¬ ((rl : Int) < (ml : Int)) := by omega
      have j2 : ¬ ((ml : Int) = 0) := by omega
      have j3 : ¬ (ml = 0) := by omega
      have y3 := (H3.out (w5.alloc (Obj.cells #[] 23)) (below_join HB45.out (below_new w5 _))).1
      have HO := Lib.hid (own_empty w5 23 1 w5.heap.size (Nat.le_refl _) w5.heap.size rfl)
      clear hml HT1 HT2
      go_wp2_with (first
        | (at_builtin; refine wpList_append_own _ rfl _ _ 24 rfl w5.heap.size 23 i0 (.slice none 0 0) 1 24 Tryd.underlying24 hi hz0 hz1 hz2 rfl (by decide) _ 0 [] rfl HO.out ⟨b3, o3, p3⟩ 1 a3 [.slice B3 ll d3] rfl rfl ?c1 ?c2 ?c3 ?c4 ?c5 ?_))
      case c1 => exact cell_first y3
      case c2 => simp [Value.oneCell']
      case c3 => unfold maxLen; omega
      case c4 => omega
      case c5 => simp
      intro v6 w6 hown6 hg6 _
      have hb56 : Below w5.heap.size w5 w6 := ((Below.refl _ w5).alloc (Nat.le_refl _) _).grown hg6 (by simp) (fun k hk => by simp [Value.ownBlock] at hk; omega)
      obtain ⟨g6, a6, rfl, hga, y6⟩ := own_one13 hown6
      clear y3 hown6 hg6
      go_wp2_with (first
        | (at_builtin; refine wpList_append_zero _ rfl _ _ 24 rfl 23 i0 Tryd.underlying24 hi (some ⟨g6, 0, none⟩) A4 1 a6 a4 rfl rfl hga ?_))
      have ht6 := (H3.out w6 (below_join HB45.out hb56)).2
      have hb06 := below_join HB5.out hb56
      have hll := (HLI.out.2.2 l (by simp))
      have cs := r13same_any Al _ _ l l w6 ht6 (HLW.out.below hb06 (Nat.le_refl _)) (by omega) (by omega) (fun x hx => Nat.le_trans (hll.2 x hx) (by decide)) (fun x hx => Nat.le_trans (hll.2 x hx) (by decide))
      rw [Mt.same_refl] at cs
      have HB6 := Lib.hid hb06
      have HB56 := Lib.hid hb56
      clear ht6 hb06 hll hb56
      go_wp2_with fail
      refine cs.mono ?_
      rintro E w7 ⟨rfl, hb7⟩
      have hb07 := below_join HB6.out hb7
      have hb47 := below_join HB45.out (below_join HB56.out hb7)
      have ct := r13list_any Al _ _ m m w7 (HT2'.out.below (below_join HB34.out hb47) (Nat.le_refl _)) (HT1'.out.below (below_join HB23.out (below_join HB34.out hb47)) (Nat.le_refl _)) (fun x hx => (HFM.out x hx HLI.out).1) (fun x hx => (HFM.out x hx HLI.out).1) (fun x hx => (HFM.out x hx HLI.out).2) (fun x hx => (HFM.out x hx HLI.out).2) (by have := HML.out; omega) (by have := HML.out; omega)
      rw [Mt.list_refl] at ct
      have HB7 := Lib.hid hb07
      clear cs y6 hb7 hb07 hb47
      go_wp2_with fail
      refine ct.mono ?_
      rintro E w8 ⟨rfl, hb8⟩
      have hb08 := below_join HB7.out hb8
      have ca := CA.out w8 hb08
      have HB8 := Lib.hid hb08
      clear ct hb8 hb08
      go_wp2_with fail
      refine ca.mono ?_
      rintro E w9 ⟨rfl, hb9⟩
      have HB9 := Lib.hid (below_join HB8.out hb9)
      clear ca hb9
      go_wp2_with fail
      go_ret
      exact ⟨rfl, HB9.out⟩
    · obtain rfl : m = [] := List.eq_nil_of_length_eq_zero (by omega)
      obtain ⟨e1, e2, e3, e4⟩ := Mt.of_none (l := l)
      rw [e1] at c1'
      have HEQ := Lib.hid (And.intro e2 (And.intro e3 e4))
      clear e1 e2 e3 e4 hs hfl hm40
      go_wp2_with fail
      refine c1'.mono ?_
      rintro E w2 ⟨A1, a1, rfl, ht1, hb2⟩
      have hb02 := below_join HB1.out hb2
      have c2' := HE.out 2 w2 hb02
      rw [HEQ.out.1] at c2'
      have HB2 := Lib.hid hb02
      clear c1' hb2 hb02 ht1
      go_wp2_with fail
      refine c2'.mono ?_
      rintro E w3 ⟨A2, a2, rfl, ht2, hb3⟩
      have hb03 := below_join HB2.out hb3
      have c3' := HE.out 3 w3 hb03
      rw [HEQ.out.2.1] at c3'
      have HB3 := Lib.hid hb03
      have HT2 := Lib.hid (show TusOn Al w3 (.slice A2 1 a2) [l] from ht2)
      clear c2' hb3 hb03 ht2
      go_wp2_with fail
      refine c3'.mono ?_
      rintro E w4 ⟨A3, a3, rfl, ht3, hb4⟩
      have hb04 := below_join HB3.out hb4
      have c4' := HE.out 4 w4 hb04
      rw [HEQ.out.2.2] at c4'
      have HB4 := Lib.hid hb04
      have HB34 := Lib.hid hb4
      clear c3' hb4 hb04 ht3
      go_wp2_with fail
      refine c4'.mono ?_
      rintro E w5 ⟨A4, a4, rfl, ht4, hb5⟩
      have ht4 : TusOn Al w5 (.slice A4 1 a4) [l] := ht4
      have hb05 := below_join HB4.out hb5
      have HT4 := Lib.hid ht4
      obtain ⟨b3, o3, p3, B3, d3, rfl, h3⟩ := tus_at_one ht4
      rw [← HN.out.1] at h3
      have HB5 := Lib.hid hb05
      have HB45 := Lib.hid hb5
      have H3 := Lib.hid h3
      have y3 := (H3.out (w5.alloc (Obj.cells #[] 23)) (below_new w5 _)).1
      have HO := Lib.hid (own_empty w5 23 1 w5.heap.size (Nat.le_refl _) w5.heap.size rfl)
      clear c4' hb5 hb05 ht4 h3
      go_wp2_with (first
        | (at_builtin; refine wpList_append_zero _ rfl _ _ 24 rfl 23 i0 Tryd.underlying24 hi (some ⟨w5.heap.size, 0, none⟩) A3 0 0 a3 rfl rfl (Nat.le_refl _) ?_)
        | (at_builtin; refine wpList_append_own _ rfl _ _ 24 rfl w5.heap.size 23 i0 (.slice none 0 0) 1 24 Tryd.underlying24 hi hz0 hz1 hz2 rfl (by decide) _ 0 [] rfl HO.out ⟨b3, o3, p3⟩ 1 a4 [.slice B3 ll d3] rfl rfl ?c1 ?c2 ?c3 ?c4 ?c5 ?_))
      case c1 => exact cell_first y3
      case c2 => simp [Value.oneCell']
      case c3 => unfold maxLen; omega
      case c4 => omega
      case c5 => simp
      intro v6 w6 hown6 hg6 _
      have hb56 : Below w5.heap.size w5 w6 := ((Below.refl _ w5).alloc (Nat.le_refl _) _).grown hg6 (by simp) (fun k hk => by simp [Value.ownBlock] at hk; omega)
      obtain ⟨g6, a6, rfl, hga, y6⟩ := own_one13 hown6
      clear y3 hown6 hg6
      have ht6 := (H3.out w6 hb56).2
      have hb06 := below_join HB5.out hb56
      have hll := (HLI.out.2.2 l (by simp))
      have cs := r13same_any Al _ _ l l w6 ht6 (HLW.out.below hb06 (Nat.le_refl _)) (by omega) (by omega) (fun x hx => Nat.le_trans (hll.2 x hx) (by decide)) (fun x hx => Nat.le_trans (hll.2 x hx) (by decide))
      rw [Mt.same_refl] at cs
      have HB6 := Lib.hid hb06
      have HB56 := Lib.hid hb56
      clear ht6 hb06 hll hb56
      go_wp2_with fail
      refine cs.mono ?_
      rintro E w7 ⟨rfl, hb7⟩
      have hb07 := below_join HB6.out hb7
      have hb57 := below_join HB56.out hb7
      have hl1 : ∀ x ∈ [l], x.length ≤ 1000 := fun x hx => by
        rw [List.mem_singleton.1 hx]; have := (HLI.out.2.2 l (by simp)).1; omega
      have hl2 : ∀ x ∈ [l], ∀ y ∈ x, y.length ≤ 1000000 := fun x hx y hy => by
        rw [List.mem_singleton.1 hx] at hy; exact Nat.le_trans ((HLI.out.2.2 l (by simp)).2 y hy) (by decide)
      have ct := r13list_any Al _ _ [l] [l] w7 (HT2.out.below (below_join HB34.out (below_join HB45.out hb57)) (Nat.le_refl _)) (HT4.out.below hb57 (Nat.le_refl _)) hl1 hl1 hl2 hl2 (by simp) (by simp)
      rw [Mt.list_refl] at ct
      have HB7 := Lib.hid hb07
      clear cs y6 hb7 hb07 hb57 hl1 hl2
      go_wp2_with fail
      refine ct.mono ?_
      rintro E w8 ⟨rfl, hb8⟩
      have hb08 := below_join HB7.out hb8
      have ca := CA.out w8 hb08
      have HB8 := Lib.hid hb08
      clear ct hb8 hb08
      go_wp2_with fail
      refine ca.mono ?_
      rintro E w9 ⟨rfl, hb9⟩
      have HB9 := Lib.hid (below_join HB8.out hb9)
      clear ca hb9
      go_wp2_with fail
      go_ret
      exact ⟨rfl, HB9.out⟩
end Go.Proofs.YtdlmpaipphjdpaaDoor
