/-
  TREES AS TEXTS, there and back. Plain mathematics.
-/
import Derived.Test.YteimbdklakemaaaGreatDoorShmM
import Derived.Test.YteimbdklakemaaaGreatDoorTxrM
namespace Go.Proofs.YteimbdklakemaaaGreatDoor
namespace Sh
open Tx
theorem nx_eq {l : List Int} {s : St} {c : Int} (h : nx l s = c) (hc : c ≠ -1) : s.e = 0 ∧ at_ l s.i = c := by
  unfold nx at h
  by_cases he : s.e = 0
  · rw [if_pos he] at h; exact ⟨he, h⟩
  · rw [if_neg he] at h; exact absurd h.symm hc
theorem nx_at {l : List Int} {i v : Nat} : nx l ⟨i, v, 0⟩ = at_ l i := rfl
theorem fail_ne {j : Nat} {x : Int} {s : St} (hx : x ≠ 0) : (fail j x s).e ≠ 0 := by
  unfold fail
  by_cases he : s.e = 0
  · rw [if_pos he]; exact hx
  · rw [if_neg he]; exact he
theorem pass_took {l : List Int} {c : Int} {s : St} (hc : c ≠ -1) (h : (pass l c s).e = 0) : s.e = 0 ∧ pass l c s = on s ∧ at_ l s.i = c := by
  unfold pass at h ⊢
  by_cases hx : nx l s = c
  · rw [if_pos hx]
    exact ⟨(nx_eq hx hc).1, rfl, (nx_eq hx hc).2⟩
  · rw [if_neg hx] at h
    exact absurd h (fail_ne (by decide))
theorem Stands.le {l t : List Int} {i e : Nat} (h : Stands l i t e) : i ≤ e := by obtain ⟨rfl, _⟩ := h; omega
theorem Stands.nil (l : List Int) (i : Nat) : Stands l i [] i := ⟨rfl, rfl⟩
theorem pred_took {l : List Int} {s : St} (h : (pred l s).2.e = 0) : s.e = 0 ∧ (pred l s).2.v = s.v ∧ Pr.rightAt (pred l s).1 1 = true ∧ wf (pred l s).1 ∧ Stands l s.i (text (pred l s).1) (pred l s).2.i := by
  unfold pred at h ⊢
  by_cases he : s.e = 0
  · rw [if_pos he] at h ⊢
    generalize ht : take l 4 s.i = g at h ⊢
    obtain ⟨p, i, e⟩ := g
    cases h
    obtain ⟨a1, a2, a3⟩ := took l 4 _ _ _ (by decide) ht
    exact ⟨he, rfl, a1, a2, a3⟩
  · rw [if_neg he] at h; exact absurd h he
def moreT (qs : List Pd) : List Int := qs.flatMap fun q => 59 :: text q
theorem texts_more (p : Pd) : ∀ qs : List Pd, texts (p :: qs) = text p ++ moreT qs := by
  intro qs
  induction qs generalizing p with
  | nil => rw [texts]; simp [moreT]
  | cons q r ih =>
    rw [texts, ih q]
    simp [moreT, List.flatMap_cons, List.append_assoc]
theorem more_took {out : List Pd} {s : St} (h : (more out s).e = 0) : s.e = 0 ∧ more out s = s ∧ out.length ≠ 64 := by
  unfold more at h ⊢
  by_cases ho : out.length = 64
  · rw [if_pos ho] at h; exact absurd h (fail_ne (by decide))
  · rw [if_neg ho] at h ⊢; exact ⟨h, rfl, ho⟩
theorem loop_took {l : List Int} : ∀ (k : Nat) (out : List Pd) (s : St), (loop l k out s).2.e = 0 → s.e = 0 ∧ (loop l k out s).2.v = s.v ∧ ∃ qs, (loop l k out s).1 = out ++ qs ∧ (out.length ≤ 64 → (out ++ qs).length ≤ 64) ∧ (∀ q ∈ qs, Pr.rightAt q 1 = true ∧ wf q) ∧ Stands l s.i (moreT qs) (loop l k out s).2.i := by
  intro k
  induction k with
  | zero => intro out s h; exact ⟨h, rfl, [], (List.append_nil _).symm, fun h => by simpa using h, by simp, Stands.nil _ _⟩
  | succ k ih =>
    intro out s h
    rw [loop] at h ⊢
    by_cases hx : nx l s = 59
    · rw [if_pos hx] at h ⊢
      obtain ⟨he, hat⟩ := nx_eq hx (by decide)
      obtain ⟨i1, i2, qs, i3, i4, i5, i6⟩ := ih _ _ h
      obtain ⟨p1, p2, p3, p4, p5⟩ := pred_took i1
      obtain ⟨m1, m2, m3⟩ := more_took p1
      generalize hp : (pred l (more out (on s))).1 = p at *
      generalize hs2 : (pred l (more out (on s))).2 = s2 at *
      rw [m2] at p2 p5
      refine ⟨he, by rw [i2, p2]; rfl, p :: qs, by rw [i3]; simp, fun h0 => ?_, ?_, ?_⟩
      · have := i4 (by simp; omega)
        simpa using this
      · intro q hq
        rcases List.mem_cons.1 hq with rfl | hq
        · exact ⟨p3, p4⟩
        · exact i5 q hq
      · have e : moreT (p :: qs) = [59] ++ (text p ++ moreT qs) := by simp [moreT, List.flatMap_cons]
        rw [e]
        exact (Stands.one hat (by decide)).app (Tx.Stands.app p5 i6)
    · rw [if_neg hx] at h ⊢
      exact ⟨h, rfl, [], (List.append_nil _).symm, fun h => by simpa using h, by simp, Stands.nil _ _⟩
theorem wfs_iff {ps : List Pd} : wfs ps ↔ ∀ p ∈ ps, wf p := by
  induction ps with
  | nil => simp [wfs]
  | cons p r ih => simp [wfs, ih]
theorem conj_took {l : List Int} {s : St} (h : (conj l s).2.e = 0) : s.e = 0 ∧ (conj l s).2.v = s.v ∧ 1 ≤ (conj l s).1.length ∧ (conj l s).1.length ≤ 64 ∧ (∀ c ∈ (conj l s).1, Pr.rightAt c 1 = true) ∧ wfs (conj l s).1 ∧
    Stands l s.i ([91] ++ (texts (conj l s).1 ++ [93])) (conj l s).2.i := by
  unfold conj at h ⊢
  simp only at h ⊢
  obtain ⟨a1, a2, a3⟩ := pass_took (by decide) h
  obtain ⟨b1, b2, qs, b3, b4, b5, b6⟩ := loop_took _ _ _ a1
  obtain ⟨c1, c2, c3, c4, c5⟩ := pred_took b1
  obtain ⟨d1, d2, d3⟩ := pass_took (by decide) c1
  rw [a2]
  generalize hp : (pred l (pass l 91 s)).1 = p at *
  generalize hs2 : (pred l (pass l 91 s)).2 = s2 at *
  generalize loop l 65 [p] s2 = g at *
  obtain ⟨ps, s3⟩ := g
  dsimp only at *
  subst b3
  rw [d2] at c2 c5
  refine ⟨d1, by show s3.v = _; rw [b2, c2]; rfl, by simp, by simpa using b4 (by simp), ?_, ?_, ?_⟩
  · intro c hc
    rcases List.mem_cons.1 (by simpa using hc) with rfl | hc
    · exact c3
    · exact (b5 c hc).1
  · rw [wfs_iff]
    intro c hc
    rcases List.mem_cons.1 (by simpa using hc) with rfl | hc
    · exact c4
    · exact (b5 c hc).2
  · show Stands l s.i ([91] ++ (texts (p :: qs) ++ [93])) (s3.i + 1)
    rw [texts_more]
    exact (Stands.one d3 (by decide)).app (Tx.Stands.app (Tx.Stands.app c5 b6) (Stands.one a3 (by decide)))
theorem capv_eq : ∀ (ds : List Int) (a : Nat), capv (min a 64) ds = min (ds.foldl (fun a c => 10 * a + (c - 48).toNat) a) 64 := by
  intro ds
  induction ds with
  | nil => intro a; rfl
  | cons c r ih =>
    intro a
    show capv (min (10 * min a 64 + (c - 48).toNat) 64) r = _
    rw [show min (10 * min a 64 + (c - 48).toNat) 64 = min (10 * a + (c - 48).toNat) 64 by omega, ih]
    rfl
theorem capv_val (ds : List Int) : capv 0 ds = min (val ds) 64 := capv_eq ds 0
theorem capv_le (ds : List Int) : capv 0 ds ≤ 64 := by rw [capv_val]; omega
theorem run_zero {l : List Int} {i : Nat} (h : isDig (at_ l i) = false) : run l i = 0 := by
  unfold run
  rw [at_head] at h
  cases hd : l.drop i with
  | nil => rfl
  | cons c r =>
    rw [hd] at h
    rw [List.takeWhile_cons, show isDig c = false from h]
    rfl
theorem begin_took {l : List Int} {s : St} (h : (begin_ l s).e = 0) : s.e = 0 ∧ (begin_ l s).i = s.i ∧ ((isDig (at_ l s.i) = true ∧ s.v + 1 ≤ 64 ∧ begin_ l s = ⟨s.i, s.v + 1, 0⟩) ∨ (isDig (at_ l s.i) = false ∧ begin_ l s = s)) := by
  unfold begin_ at h ⊢
  by_cases he : s.e = 0
  · have hnx : nx l s = at_ l s.i := by unfold nx; rw [if_pos he]
    rw [hnx] at h ⊢
    cases hd : isDig (at_ l s.i)
    · rw [hd] at h
      exact ⟨he, rfl, .inr ⟨rfl, rfl⟩⟩
    · rw [hd] at h
      simp only [if_true] at h ⊢
      by_cases hv : 64 < s.v + 1
      · rw [if_pos hv] at h; exact absurd h (fail_ne (by decide))
      · rw [if_neg hv]
        exact ⟨he, rfl, .inl ⟨trivial, by omega, by rw [he]⟩⟩
  · have hnx : nx l s = -1 := by unfold nx; rw [if_neg he]
    rw [hnx, if_neg (by decide)] at h
    exact absurd h he
theorem leaf_took {l : List Int} {s : St} (h : (leaf l s).2.e = 0) : s.e = 0 ∧ (leaf l s).2.v = s.v + 1 ∧ s.v + 1 ≤ 64 ∧ ∃ n, n ≤ 63 ∧ (leaf l s).1 = leafT n ∧ Stands l s.i (digits n) (leaf l s).2.i := by
  unfold leaf at h ⊢
  simp only at h ⊢
  by_cases h1 : (digs l (begin_ l s)).length = 0
  · rw [if_pos h1] at h; exact absurd h (fail_ne (by decide))
  rw [if_neg h1] at h ⊢
  by_cases h2 : 1 < (digs l (begin_ l s)).length ∧ at_ l (begin_ l s).i = 48
  · rw [if_pos h2] at h; exact absurd h (fail_ne (by decide))
  rw [if_neg h2] at h ⊢
  by_cases h3 : capv 0 (digs l (begin_ l s)) = 64
  · rw [if_pos h3] at h; exact absurd h (fail_ne (by decide))
  rw [if_neg h3] at h ⊢
  obtain ⟨he, hi, hb⟩ := begin_took (show (begin_ l s).e = 0 from h)
  rcases hb with ⟨hd, hv, hb⟩ | ⟨hd, hb⟩
  · rw [hb] at h1 h2 h3 ⊢
    have hds : digs l ⟨s.i, s.v + 1, 0⟩ = (l.drop s.i).take (run l s.i) := rfl
    rw [hds] at h1 h2 h3 ⊢
    obtain ⟨q1, q2⟩ := run_all l s.i
    have q3 := run_took (l := l) (s := s.i) (by omega) (fun g => by
      dsimp only at h2
      omega)
    rw [capv_val] at h3 ⊢
    refine ⟨he, rfl, hv, val ((l.drop s.i).take (run l s.i)), by omega, by rw [show min (val ((l.drop s.i).take (run l s.i))) 64 = val ((l.drop s.i).take (run l s.i)) by omega], ?_⟩
    rw [q3]
    exact ⟨rfl, by rw [q2]⟩
  · rw [hb] at h1
    exfalso
    apply h1
    unfold digs
    rw [if_pos he, run_zero hd]
    rfl
/-- what a reader of a tree tells, if nothing is wrong -/
def TreeTook (l : List Int) (f : St → Tr × St) : Prop := ∀ s, (f s).2.e = 0 → s.e = 0 ∧ ∃ n, Form (f s).1 n ∧ wfT (f s).1 ∧ (f s).2.v = s.v + n ∧ (f s).2.v ≤ 64 ∧ Stands l s.i (txt (f s).1) (f s).2.i
theorem kindOf_cases (c : Int) : kindOf c = 0 ∨ (1 ≤ kindOf c ∧ kindOf c ≤ 4 ∧ c ≠ -1 ∧ sgn (kindOf c) = c) := by
  unfold kindOf
  by_cases h1 : c = 8904
  · subst h1; exact .inr (by decide)
  rw [if_neg h1]
  by_cases h2 : c = 10197
  · subst h2; exact .inr (by decide)
  rw [if_neg h2]
  by_cases h3 : c = 8905
  · subst h3; exact .inr (by decide)
  rw [if_neg h3]
  by_cases h4 : c = 9655
  · subst h4; exact .inr (by decide)
  rw [if_neg h4]
  exact .inl rfl
theorem kind_took {l : List Int} {s : St} (h : (kind l s).2.e = 0) : s.e = 0 ∧ (kind l s).2 = on s ∧ 1 ≤ (kind l s).1 ∧ (kind l s).1 ≤ 4 ∧ at_ l s.i = sgn (kind l s).1 ∧ sgn (kind l s).1 ≠ -1 := by
  unfold kind at h ⊢
  rcases kindOf_cases (nx l s) with h0 | ⟨h1, h2, h3, h4⟩
  · rw [if_pos h0] at h; exact absurd h (fail_ne (by decide))
  · rw [if_neg (by omega)] at h ⊢
    obtain ⟨e1, e2⟩ := nx_eq (l := l) (s := s) rfl h3
    exact ⟨e1, rfl, h1, h2, by rw [h4]; exact e2, by rw [h4]; exact h3⟩
theorem skip_took {l : List Int} {c : Int} {s : St} (hc : c ≠ -1) (h : (skip l c s).e = 0) : s.e = 0 ∧ (skip l c s).v = s.v ∧ Stands l s.i (if decide (nx l s = c) then [c] else []) (skip l c s).i := by
  unfold skip at h ⊢
  by_cases hx : nx l s = c
  · rw [if_pos hx, if_pos (by simpa using hx)]
    obtain ⟨e1, e2⟩ := nx_eq hx hc
    exact ⟨e1, rfl, Stands.one e2 hc⟩
  · rw [if_neg hx] at h ⊢
    rw [if_neg (by simpa using hx)]
    exact ⟨h, rfl, Stands.nil _ _⟩
theorem oper_took {l : List Int} {tr : St → Tr × St} (htr : TreeTook l tr) {a : Tr} {s : St} (h : (oper l tr a s).2.e = 0) : s.e = 0 ∧ ∃ (k : Int) (hh : Bool) (cs : List Pd) (b : Tr) (n : Nat),
    (oper l tr a s).1 = .mk k 0 hh cs [a, b] ∧ 1 ≤ k ∧ k ≤ 4 ∧ 1 ≤ cs.length ∧ cs.length ≤ 64 ∧ (∀ c ∈ cs, Pr.rightAt c 1 = true) ∧ wfs cs ∧ Form b n ∧ wfT b ∧ (oper l tr a s).2.v = s.v + n ∧ (oper l tr a s).2.v ≤ 64 ∧
    Stands l s.i ([sgn k] ++ ((if hh then [35] else []) ++ ([91] ++ (texts cs ++ ([93] ++ (txt b ++ [41])))))) (oper l tr a s).2.i := by
  unfold oper at h ⊢
  simp only at h ⊢
  obtain ⟨a1, a2, a3⟩ := pass_took (by decide) h
  obtain ⟨b1, n, b2, b3, b4, b5, b6⟩ := htr _ a1
  obtain ⟨c1, c2, c3, c4, c5, c6, c7⟩ := conj_took b1
  obtain ⟨d1, d2, d3⟩ := skip_took (by decide) c1
  obtain ⟨e1, e2, e3, e4, e5, e6⟩ := kind_took d1
  refine ⟨e1, _, _, _, _, n, rfl, e3, e4, c3, c4, c5, c6, b2, b3, ?_, ?_, ?_⟩
  · rw [a2]; show (tr _).2.v = _; rw [b4, c2, d2, e2]; rfl
  · rw [a2]; exact b5
  · rw [a2]
    rw [e2] at d3
    have q1 := Stands.one e5 e6
    have q2 : Stands l (s.i + 1) (if decide (nx l (kind l s).2 = 35) then [35] else []) (skip l 35 (kind l s).2).i := by rw [e2]; exact d3
    have q3 := Tx.Stands.app b6 (Stands.one a3 (by decide))
    have q4 := Tx.Stands.app c7 q3
    have q5 := Tx.Stands.app q1 (Tx.Stands.app q2 q4)
    simpa [List.append_assoc, on] using q5
theorem ops_err (f : Tr → St → Tr × St) (o : Nat) (a : Tr) (s : St) (h : s.e ≠ 0) : ops f o a s = (a, s) := by
  cases o with
  | zero => rfl
  | succ o => rw [ops, if_neg h]
theorem ops_took {l : List Int} {tr : St → Tr × St} (htr : TreeTook l tr) : ∀ (o : Nat) (a : Tr) (s : St) (m p v0 : Nat), (∀ j, j < o → at_ l (p + j) = 40) → Form a m → wfT a → s.v = v0 + m → s.v ≤ 64 → Stands l (p + o) (txt a) s.i →
    (ops (oper l tr) o a s).2.e = 0 → s.e = 0 ∧ ∃ n, Form (ops (oper l tr) o a s).1 n ∧ wfT (ops (oper l tr) o a s).1 ∧ (ops (oper l tr) o a s).2.v = v0 + n ∧ (ops (oper l tr) o a s).2.v ≤ 64 ∧ Stands l p (txt (ops (oper l tr) o a s).1) (ops (oper l tr) o a s).2.i := by
  intro o
  induction o with
  | zero => intro a s m p v0 _ hf hw hv hv2 hst h; exact ⟨h, m, hf, hw, hv, hv2, hst⟩
  | succ o ih =>
    intro a s m p v0 hat hf hw hv hv2 hst h
    rw [ops] at h ⊢
    by_cases he : s.e = 0
    rotate_left
    · rw [if_neg he] at h; exact absurd h he
    rw [if_pos he] at h ⊢
    by_cases he2 : (oper l tr a s).2.e = 0
    rotate_left
    · rw [ops_err _ _ _ _ he2] at h; exact absurd h he2
    obtain ⟨_, k, hh, cs, b, n, b1, b2, b3, b4, b5, b6, b7, b8, b9, b10, b11, b12⟩ := oper_took htr he2
    refine ⟨he, ?_⟩
    have hF : Form (oper l tr a s).1 (m + n) := by rw [b1]; exact Form.op k hh cs a b m n b2 b3 b4 b5 b6 hf b8
    have hW : wfT (oper l tr a s).1 := by rw [b1, wfT, wfTs, wfTs, wfTs]; exact ⟨b7, hw, b9, trivial⟩
    have hS : Stands l (p + o) (txt (oper l tr a s).1) (oper l tr a s).2.i := by
      rw [b1, txt_op _ _ _ _ (by omega)]
      exact (Stands.one (hat o (Nat.lt_succ_self o)) (by decide)).app (Tx.Stands.app hst b12)
    exact (ih _ _ (m + n) p v0 (fun j hj => hat j (Nat.lt_succ_of_lt hj)) hF hW (by rw [b10, hv]; omega) b11 hS h).2
theorem opens_at {l : List Int} {s : St} : ∀ j, j < opens l s → at_ l (s.i + j) = 40 := by
  intro j hj
  unfold opens at hj
  by_cases he : s.e = 0
  · rw [if_pos he] at hj
    have key : ∀ (m : List Int) (j : Nat), j < (m.takeWhile (· == 40)).length → m.getD j (-1) = 40 := by
      intro m
      induction m with
      | nil => intro j h; simp at h
      | cons c r ih =>
        intro j h
        rw [List.takeWhile_cons] at h
        by_cases hc : c = 40
        · subst hc
          cases j with
          | zero => rfl
          | succ j =>
            have := ih j (by simpa using h)
            simpa using this
        · rw [if_neg (by simpa using hc)] at h
          simp at h
    have := key _ _ hj
    unfold at_
    simpa [List.getD_eq_getElem?_getD, List.getElem?_drop] using this
  · rw [if_neg he] at hj; omega
theorem tree_took (l : List Int) : ∀ k, TreeTook l (tree l k) := by
  intro k
  induction k with
  | zero =>
    intro s h
    rw [tree] at h
    by_cases he : s.e = 0
    · rw [if_pos he] at h; exact absurd (show (1 : Int) = 0 from h) (by decide)
    · rw [if_neg he] at h; exact absurd h he
  | succ k ih =>
    intro s h
    rw [tree] at h ⊢
    generalize ha : leaf l ⟨s.i + opens l s, s.v, s.e⟩ = a at h ⊢
    by_cases he : a.2.e = 0
    rotate_left
    · rw [ops_err _ _ _ _ he] at h; exact absurd h he
    subst ha
    obtain ⟨c1, c2, c3, n, c4, c5, c6⟩ := leaf_took he
    refine ⟨c1, ?_⟩
    refine (ops_took ih (opens l s) _ _ 1 s.i s.v opens_at ?_ ?_ c2 (by rw [c2]; exact c3) ?_ h).2
    · rw [c5]; exact Form.leaf n (by omega) (by omega)
    · rw [c5]; unfold leafT; rw [wfT, wfTs, wfs]; exact ⟨trivial, trivial⟩
    · rw [c5]
      unfold leafT
      rw [txt_leaf]
      unfold whole
      rw [if_neg (by omega)]
      exact c6
theorem parse_took {l : List Int} {a : Tr} {i : Nat} (hl : ∀ r ∈ l, r ≠ -1) (h : parse l = ⟨a, i, 0⟩) : ∃ n, Form a n ∧ n ≤ 64 ∧ wfT a ∧ txt a = l ∧ i = l.length := by
  unfold parse at h
  simp only at h
  generalize hg : tree l (l.length + 1) ⟨0, 0, 0⟩ = g at h
  by_cases hx : nx l g.2 = -1
  rotate_left
  · rw [if_neg hx, if_neg (fail_ne (by decide))] at h
    injection h with _ _ h0
    exact absurd h0 (fail_ne (by decide))
  rw [if_pos hx] at h
  by_cases he : g.2.e = 0
  rotate_left
  · rw [if_neg he] at h
    injection h with _ _ h0
    exact absurd h0 he
  rw [if_pos he] at h
  injection h with h1 h2 _
  subst hg h1 h2
  obtain ⟨_, n, b1, b2, b3, b4, b5⟩ := tree_took l _ _ he
  rw [show (⟨0, 0, 0⟩ : St).v = 0 from rfl, Nat.zero_add] at b3
  refine ⟨n, b1, by omega, b2, ?_⟩
  generalize tree l (l.length + 1) ⟨0, 0, 0⟩ = g at *
  obtain ⟨s1, s2⟩ := b5
  rw [show (⟨0, 0, 0⟩ : St).i = 0 from rfl, Nat.zero_add] at s1
  rw [show (⟨0, 0, 0⟩ : St).i = 0 from rfl, List.drop_zero] at s2
  have hlen : (txt g.1).length ≤ l.length := by rw [← s2, List.length_take]; omega
  unfold nx at hx
  rw [if_pos he] at hx
  have hge : ¬ g.2.i < l.length := by
    intro hlt
    unfold at_ at hx
    rw [List.getD_eq_getElem?_getD, List.getElem?_eq_getElem hlt] at hx
    exact hl _ (List.getElem_mem hlt) hx
  have : (txt g.1).length = l.length := by omega
  refine ⟨?_, by omega⟩
  rw [this, List.take_length] at s2
  exact s2.symm
end Sh
end Go.Proofs.YteimbdklakemaaaGreatDoor
