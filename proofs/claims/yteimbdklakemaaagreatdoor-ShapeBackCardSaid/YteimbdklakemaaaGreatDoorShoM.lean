/-
  TREES AS TEXTS: no place beyond the end is told; a tree that has a form comes back of its text. Plain mathematics.
-/
import Derived.Test.YteimbdklakemaaaGreatDoorShnM
namespace Go.Proofs.YteimbdklakemaaaGreatDoor
namespace Sh
open Tx
/-! ### No place beyond the end -/
def Ok (l : List Int) (s : St) : Prop := s.i ≤ l.length ∧ (s.e = 0 → s.v ≤ 64)
theorem Ok.fail {l : List Int} {s : St} (h : Ok l s) {j : Nat} {x : Int} (hj : j ≤ l.length) (hx : x ≠ 0) : Ok l (fail j x s) := by
  unfold Sh.fail
  by_cases he : s.e = 0
  · rw [if_pos he]; exact ⟨hj, fun h => absurd h hx⟩
  · rw [if_neg he]; exact h
theorem nx_lt {l : List Int} {s : St} {c : Int} (h : nx l s = c) (hc : c ≠ -1) : s.i < l.length := at_lt (nx_eq h hc).2 hc
theorem Ok.on {l : List Int} {s : St} (h : Ok l s) (hi : s.i < l.length) : Ok l (on s) := ⟨hi, h.2⟩
theorem Ok.skip {l : List Int} {s : St} (h : Ok l s) {c : Int} (hc : c ≠ -1) : Ok l (skip l c s) := by
  unfold Sh.skip
  by_cases hx : nx l s = c
  · rw [if_pos hx]; exact h.on (nx_lt hx hc)
  · rw [if_neg hx]; exact h
theorem Ok.pass {l : List Int} {s : St} (h : Ok l s) {c : Int} (hc : c ≠ -1) : Ok l (pass l c s) := by
  unfold Sh.pass
  by_cases hx : nx l s = c
  · rw [if_pos hx]; exact h.on (nx_lt hx hc)
  · rw [if_neg hx]; exact h.fail h.1 (by decide)
theorem Ok.pred {l : List Int} {s : St} (h : Ok l s) : Ok l (pred l s).2 := by
  unfold Sh.pred
  by_cases he : s.e = 0
  · rw [if_pos he]; exact ⟨take_le l 4 s.i h.1, fun _ => h.2 he⟩
  · rw [if_neg he]; exact h
theorem Ok.more {l : List Int} {s : St} (h : Ok l s) (out : List Pd) : Ok l (more out s) := by
  unfold Sh.more
  split
  · exact h.fail h.1 (by decide)
  · exact h
theorem Ok.loop {l : List Int} : ∀ (k : Nat) (out : List Pd) {s : St}, Ok l s → Ok l (loop l k out s).2 := by
  intro k
  induction k with
  | zero => intro out s h; exact h
  | succ k ih =>
    intro out s h
    rw [Sh.loop]
    by_cases hx : nx l s = 59
    · rw [if_pos hx]; exact ih _ ((h.on (nx_lt hx (by decide))).more out).pred
    · rw [if_neg hx]; exact h
theorem Ok.conj {l : List Int} {s : St} (h : Ok l s) : Ok l (conj l s).2 := ((h.pass (c := 91) (by decide)).pred.loop 65 _).pass (by decide)
theorem Ok.kind {l : List Int} {s : St} (h : Ok l s) : Ok l (kind l s).2 := by
  unfold Sh.kind
  rcases kindOf_cases (nx l s) with h0 | ⟨h1, _, h3, _⟩
  · rw [if_pos h0]; exact h.fail h.1 (by decide)
  · rw [if_neg (by omega)]; exact h.on (nx_lt rfl h3)
theorem begin_i {l : List Int} {s : St} : (begin_ l s).i = s.i := by
  unfold begin_
  split
  · split
    · unfold Sh.fail; dsimp only; split <;> rfl
    · rfl
  · rfl
theorem Ok.begin {l : List Int} {s : St} (h : Ok l s) : Ok l (begin_ l s) := by
  refine ⟨by rw [begin_i]; exact h.1, fun he => ?_⟩
  obtain ⟨h0, _, hb⟩ := begin_took he
  rcases hb with ⟨_, hv, hb⟩ | ⟨_, hb⟩
  · rw [hb]; exact hv
  · rw [hb]; exact h.2 h0
theorem digs_le {l : List Int} {s : St} (h : s.i ≤ l.length) : s.i + (digs l s).length ≤ l.length := by
  unfold digs
  split
  · rw [(run_all l s.i).2]; exact run_le h
  · simpa using h
theorem Ok.leaf {l : List Int} {s : St} (h : Ok l s) : Ok l (leaf l s).2 := by
  have hb := h.begin
  unfold Sh.leaf
  simp only
  have h1 := digs_le (l := l) hb.1
  have hb' : Ok l ⟨(begin_ l s).i + (digs l (begin_ l s)).length, (begin_ l s).v, (begin_ l s).e⟩ := ⟨h1, hb.2⟩
  split
  · exact hb'.fail hb.1 (by decide)
  split
  · exact hb'.fail (by omega) (by decide)
  split
  · exact hb'.fail hb.1 (by decide)
  · exact hb'
theorem Ok.oper {l : List Int} {tr : St → Tr × St} (htr : ∀ {s}, Ok l s → Ok l (tr s).2) {a : Tr} {s : St} (h : Ok l s) : Ok l (oper l tr a s).2 :=
  (htr (h.kind.skip (c := 35) (by decide)).conj).pass (by decide)
theorem Ok.ops {l : List Int} {f : Tr → St → Tr × St} (hf : ∀ {a s}, Ok l s → Ok l (f a s).2) : ∀ (o : Nat) (a : Tr) {s : St}, Ok l s → Ok l (ops f o a s).2 := by
  intro o
  induction o with
  | zero => intro a s h; exact h
  | succ o ih =>
    intro a s h
    rw [Sh.ops]
    split
    · exact ih _ (hf h)
    · exact h
theorem opens_le {l : List Int} {s : St} (h : s.i ≤ l.length) : s.i + opens l s ≤ l.length := by
  unfold opens
  split
  · have := (List.takeWhile_sublist (l := l.drop s.i) (· == (40 : Int))).length_le
    rw [List.length_drop] at this
    omega
  · omega
theorem Ok.opened {l : List Int} {s : St} (h : Ok l s) : Ok l ⟨s.i + opens l s, s.v, s.e⟩ := ⟨opens_le h.1, h.2⟩
theorem Ok.tree {l : List Int} : ∀ (k : Nat) {s : St}, Ok l s → Ok l (tree l k s).2 := by
  intro k
  induction k with
  | zero =>
    intro s h
    rw [Sh.tree]
    refine ⟨?_, ?_⟩
    · show (if s.e = 0 then (⟨s.i, s.v, 1⟩ : St) else s).i ≤ _
      split
      · exact h.1
      · exact h.1
    · show (if s.e = 0 then (⟨s.i, s.v, 1⟩ : St) else s).e = 0 → _
      split
      · intro h; exact absurd (show (1 : Int) = 0 from h) (by decide)
      · next he => intro h; exact absurd h he
  | succ k ih =>
    intro s h
    rw [Sh.tree]
    exact Ok.ops (fun h => Ok.oper ih h) _ _ h.opened.leaf
theorem ok0 (l : List Int) : Ok l ⟨0, 0, 0⟩ := ⟨Nat.zero_le _, fun _ => Nat.zero_le _⟩
theorem parse_le (l : List Int) : (parse l).i ≤ l.length := by
  have h := (ok0 l).tree (l.length + 1)
  unfold parse
  simp only
  generalize tree l (l.length + 1) ⟨0, 0, 0⟩ = g at h
  split
  · split <;> exact h.1
  · split <;> exact (h.fail h.1 (by decide)).1
theorem parse_zero {l : List Int} (h : (parse l).e ≠ 0) : (parse l).x = zeroT := by
  have key : ∀ (a : Tr) (s : St), (if s.e = 0 then (⟨a, s.i, 0⟩ : Got Tr) else ⟨zeroT, s.i, s.e⟩).e ≠ 0 → (if s.e = 0 then (⟨a, s.i, 0⟩ : Got Tr) else ⟨zeroT, s.i, s.e⟩).x = zeroT := by
    intro a s h
    by_cases he : s.e = 0
    · rw [if_pos he] at h; exact absurd rfl h
    · rw [if_neg he]
  exact key _ _ h
/-! ### A tree comes back -/
theorem pred_back {p : Pd} {pre post : List Int} {v : Nat} (h : Pr.rightAt p 1 = true) (hw : wf p) (hp : isDig (at_ post 0) = false) : pred (pre ++ (text p ++ post)) ⟨pre.length, v, 0⟩ = (p, ⟨pre.length + (text p).length, v, 0⟩) := by
  unfold pred
  rw [if_pos rfl]
  have t := back _ p 1 pre post (Nat.le_refl _) h hw hp
  have t' : take (pre ++ (text p ++ post)) 4 pre.length = ⟨p, pre.length + (text p).length, 0⟩ := t
  rw [show (⟨pre.length, v, 0⟩ : St).i = pre.length from rfl, t']
theorem loop_back {post : List Int} (h59 : at_ post 0 ≠ 59) (hd : isDig (at_ post 0) = false) : ∀ (qs : List Pd) (k : Nat) (out : List Pd) (pre : List Int) (v : Nat), (∀ q ∈ qs, Pr.rightAt q 1 = true ∧ wf q) → out.length + qs.length ≤ 64 → qs.length < k →
    loop (pre ++ (moreT qs ++ post)) k out ⟨pre.length, v, 0⟩ = (out ++ qs, ⟨pre.length + (moreT qs).length, v, 0⟩) := by
  intro qs
  induction qs with
  | nil =>
    intro k out pre v _ _ hk
    obtain ⟨k, rfl⟩ : ∃ j, k = j + 1 := ⟨k - 1, by simp at hk; omega⟩
    rw [loop, if_neg]
    · simp [moreT]
    · rw [nx_at, show moreT [] ++ post = post from rfl, at_here]; exact h59
  | cons q r ih =>
    intro k out pre v hq hl hk
    obtain ⟨k, rfl⟩ : ∃ j, k = j + 1 := ⟨k - 1, by simp at hk; omega⟩
    have e : moreT (q :: r) = [59] ++ (text q ++ moreT r) := by simp [moreT, List.flatMap_cons]
    have eL : pre ++ (moreT (q :: r) ++ post) = (pre ++ [59]) ++ (text q ++ (moreT r ++ post)) := by rw [e]; simp
    have eM : (pre ++ [59]) ++ (text q ++ (moreT r ++ post)) = ((pre ++ [59]) ++ text q) ++ (moreT r ++ post) := by simp
    have hpost : isDig (at_ (moreT r ++ post) 0) = false := by
      cases r with
      | nil => exact hd
      | cons c t => simp [moreT, List.flatMap_cons, at_]; decide
    have p1 := pred_back (pre := pre ++ [59]) (post := moreT r ++ post) (v := v) (hq q List.mem_cons_self).1 (hq q List.mem_cons_self).2 hpost
    have hn : nx (pre ++ (moreT (q :: r) ++ post)) ⟨pre.length, v, 0⟩ = 59 := by
      rw [nx_at, at_here, e]; rfl
    rw [loop, if_pos hn]
    have ho : more out (on ⟨pre.length, v, 0⟩) = ⟨(pre ++ [(59 : Int)]).length, v, 0⟩ := by
      unfold more
      rw [if_neg (by simp at hl; omega)]
      unfold on
      simp
    rw [ho, eL, p1]
    dsimp only
    rw [eM]
    have l1 : (pre ++ [(59 : Int)]).length + (text q).length = ((pre ++ [59]) ++ text q).length := by simp only [List.length_append]
    rw [l1, ih k (out ++ [q]) ((pre ++ [59]) ++ text q) v (fun x hx => hq x (List.mem_cons_of_mem _ hx)) (by simp at hl ⊢; omega) (by simp at hk; omega)]
    rw [e]
    simp
    omega
theorem pass_back {pre post : List Int} {c : Int} {v : Nat} : pass (pre ++ (c :: post)) c ⟨pre.length, v, 0⟩ = ⟨(pre ++ [c]).length, v, 0⟩ := by
  unfold pass
  rw [if_pos (by rw [nx_at, at_here]; rfl)]
  unfold on
  simp
theorem conj_back {cs : List Pd} {pre post : List Int} {v : Nat} (h1 : 1 ≤ cs.length) (h64 : cs.length ≤ 64) (hr : ∀ c ∈ cs, Pr.rightAt c 1 = true) (hw : wfs cs) :
    conj (pre ++ ([91] ++ (texts cs ++ ([93] ++ post)))) ⟨pre.length, v, 0⟩ = (cs, ⟨(pre ++ ([91] ++ (texts cs ++ [93]))).length, v, 0⟩) := by
  obtain ⟨p, qs, rfl⟩ : ∃ p qs, cs = p :: qs := by
    cases cs with
    | nil => simp at h1
    | cons p qs => exact ⟨p, qs, rfl⟩
  have hw' := wfs_iff.1 hw
  have hpost : isDig (at_ (moreT qs ++ ([93] ++ post)) 0) = false := by
    cases qs with
    | nil => rfl
    | cons c t => simp [moreT, List.flatMap_cons, at_]; decide
  have q1 : pass (pre ++ ([91] ++ (texts (p :: qs) ++ ([93] ++ post)))) 91 ⟨pre.length, v, 0⟩ = ⟨(pre ++ [91]).length, v, 0⟩ := pass_back
  have e1 : pre ++ ([91] ++ (texts (p :: qs) ++ ([93] ++ post))) = (pre ++ [91]) ++ (text p ++ (moreT qs ++ ([93] ++ post))) := by rw [texts_more]; simp
  have e2 : pre ++ ([91] ++ (texts (p :: qs) ++ ([93] ++ post))) = (pre ++ [91] ++ text p) ++ (moreT qs ++ ([93] ++ post)) := by rw [texts_more]; simp
  have e3 : pre ++ ([91] ++ (texts (p :: qs) ++ ([93] ++ post))) = (pre ++ [91] ++ text p ++ moreT qs) ++ (93 :: post) := by rw [texts_more]; simp
  have q2 := pred_back (pre := pre ++ [91]) (post := moreT qs ++ ([93] ++ post)) (v := v) (hr p List.mem_cons_self) (hw' p List.mem_cons_self) hpost
  have q3 := loop_back (post := [93] ++ post) (by show (93 : Int) ≠ 59; decide) (by show isDig 93 = false; decide) qs 65 [p] (pre ++ [91] ++ text p) v (fun q hq => ⟨hr q (List.mem_cons_of_mem _ hq), hw' q (List.mem_cons_of_mem _ hq)⟩) (by simp at h64 ⊢; omega) (by simp at h64; omega)
  have q4 := pass_back (pre := pre ++ [91] ++ text p ++ moreT qs) (post := post) (c := 93) (v := v)
  rw [← e1] at q2
  rw [← e2] at q3
  rw [← e3] at q4
  unfold conj
  simp only
  rw [q1, q2]
  dsimp only
  rw [show (pre ++ [(91 : Int)]).length + (text p).length = (pre ++ [91] ++ text p).length by simp only [List.length_append], q3]
  dsimp only
  rw [show (pre ++ [(91 : Int)] ++ text p).length + (moreT qs).length = (pre ++ [91] ++ text p ++ moreT qs).length by simp only [List.length_append], q4, texts_more]
  simp
theorem leaf_back {pre post : List Int} {n v : Nat} (hn : n ≤ 63) (hv : v + 1 ≤ 64) (hp : isDig (at_ post 0) = false) : leaf (pre ++ (digits n ++ post)) ⟨pre.length, v, 0⟩ = (leafT n, ⟨pre.length + (digits n).length, v + 1, 0⟩) := by
  have hne := digits_ne n
  obtain ⟨c, r, hcr⟩ : ∃ c r, digits n = c :: r := by
    cases h : digits n with
    | nil => exact absurd h hne
    | cons c r => exact ⟨c, r, rfl⟩
  have hc : isDig c = true := by have := digits_all n; rw [hcr, List.all_cons, Bool.and_eq_true] at this; exact this.1
  have hat : at_ (pre ++ (digits n ++ post)) pre.length = c := by rw [at_here, hcr]; rfl
  have hb : begin_ (pre ++ (digits n ++ post)) ⟨pre.length, v, 0⟩ = ⟨pre.length, v + 1, 0⟩ := by
    unfold begin_
    rw [nx_at, hat, if_pos hc, if_neg (by dsimp only; omega)]
  have hds : digs (pre ++ (digits n ++ post)) ⟨pre.length, v + 1, 0⟩ = digits n := by
    unfold digs
    rw [if_pos rfl]
    dsimp only
    rw [run_app (digits_all n) hp, List.drop_left, List.take_left]
  have h48 : ¬ (1 < (digits n).length ∧ at_ (pre ++ (digits n ++ post)) pre.length = 48) := by
    rintro ⟨h2, h1⟩
    by_cases h0 : n = 0
    · subst h0; rw [digits_zero] at h2; simp at h2
    · refine digits_head h0 ?_
      rw [hat] at h1
      rw [hcr, h1]; rfl
  unfold leaf
  simp only
  rw [hb, hds, capv_val, digits_val, if_neg (by rw [hcr]; simp), if_neg h48, if_neg (by omega), show min n 64 = n by omega]
theorem opens_step {l : List Int} {i v : Nat} (h : at_ l i = 40) : opens l ⟨i, v, 0⟩ = opens l ⟨i + 1, v, 0⟩ + 1 := by
  unfold opens
  rw [if_pos rfl, if_pos rfl]
  dsimp only
  rw [at_cons h (by decide), List.takeWhile_cons, if_pos (by decide)]
  rfl
theorem opens_none {l : List Int} {i v : Nat} (h : at_ l i ≠ 40) : opens l ⟨i, v, 0⟩ = 0 := by
  unfold opens
  rw [if_pos rfl]
  dsimp only
  rw [at_head] at h
  cases hd : l.drop i with
  | nil => rfl
  | cons c r =>
    rw [hd] at h
    rw [List.takeWhile_cons, if_neg (by simpa using h)]
    rfl
theorem ops_add (f : Tr → St → Tr × St) : ∀ (o : Nat) (a : Tr) (s : St), ops f (o + 1) a s = ops f 1 (ops f o a s).1 (ops f o a s).2 := by
  intro o
  induction o with
  | zero => intro a s; rfl
  | succ o ih =>
    intro a s
    rw [ops]
    by_cases he : s.e = 0
    · rw [if_pos he, ih]
      rw [show ops f (o + 1) a s = ops f o (f a s).1 (f a s).2 by rw [ops, if_pos he]]
    · rw [if_neg he, ops_err f _ a s he]
      exact (ops_err f 1 a s he).symm
theorem sgn_facts {k : Int} (h1 : 1 ≤ k) (h4 : k ≤ 4) : kindOf (sgn k) = k ∧ isDig (sgn k) = false ∧ sgn k ≠ -1 := by
  rcases (show k = 1 ∨ k = 2 ∨ k = 3 ∨ k = 4 by omega) with rfl | rfl | rfl | rfl <;> decide
theorem txt_head {a : Tr} {n : Nat} (h : Form a n) : ∃ c r, txt a = c :: r ∧ (isDig c = true ∨ c = 40) := by
  cases h with
  | leaf t h0 h1 =>
    rw [txt_leaf]
    obtain ⟨c, s, hc, hd⟩ := whole_head h0 []
    rw [List.append_nil] at hc
    exact ⟨c, s, hc, .inl hd⟩
  | op k h cs a b m n hk1 => rw [txt_op _ _ _ _ (by omega)]; exact ⟨40, _, rfl, .inr rfl⟩
theorem tree_back {a : Tr} {n : Nat} (h : Form a n) : ∀ (k v : Nat) (pre post : List Int), wfT a → isDig (at_ post 0) = false → v + n ≤ 64 → n ≤ k → tree (pre ++ (txt a ++ post)) k ⟨pre.length, v, 0⟩ = (a, ⟨(pre ++ txt a).length, v + n, 0⟩) := by
  induction h with
  | leaf t h0 h1 =>
    intro k v pre post _ hp hv hk
    obtain ⟨k, rfl⟩ : ∃ j, k = j + 1 := ⟨k - 1, by omega⟩
    obtain ⟨n, rfl⟩ : ∃ n : Nat, t = n := ⟨t.toNat, by omega⟩
    have e : txt (.mk 0 (n : Int) false [] []) = digits n := by rw [txt_leaf]; unfold whole; rw [if_neg (by omega)]; rfl
    rw [e]
    have hat : at_ (pre ++ (digits n ++ post)) pre.length ≠ 40 := by
      rw [at_here]
      obtain ⟨c, s, hc, hd⟩ := whole_head (n := (n : Int)) h0 post
      unfold whole at hc
      rw [if_neg (by omega)] at hc
      have hc' : digits n ++ post = c :: s := hc
      rw [hc']
      unfold isDig at hd
      simp at hd
      show c ≠ 40
      omega
    rw [tree]
    simp only
    rw [opens_none hat, ops, show (⟨pre.length, v, 0⟩ : St).i + 0 = pre.length from rfl, leaf_back (by omega) hv hp]
    simp [leafT]
  | op kd h cs a b m n hk1 hk4 hc1 hc2 hr ha hb i1 i2 =>
    intro k v pre post hw hp hv hk
    obtain ⟨k, rfl⟩ : ∃ j, k = j + 1 := ⟨k - 1, by have := ha.pos; omega⟩
    have p1 := ha.pos
    rw [wfT, wfTs, wfTs, wfTs] at hw
    obtain ⟨w1, w2, w3, _⟩ := hw
    obtain ⟨s1, s2, s3⟩ := sgn_facts hk1 hk4
    rw [txt_op _ _ _ _ (by omega)]
    obtain ⟨L, hL⟩ : ∃ L, L = pre ++ ([40] ++ (txt a ++ ([sgn kd] ++ ((if h then [35] else []) ++ ([91] ++ (texts cs ++ ([93] ++ (txt b ++ [41]))))))) ++ post) := ⟨_, rfl⟩
    rw [← hL]
    have e1 : L = (pre ++ [40]) ++ (txt a ++ (sgn kd :: ((if h then [35] else []) ++ ([91] ++ (texts cs ++ ([93] ++ (txt b ++ ([41] ++ post)))))))) := by rw [hL]; simp
    have t1 := i1 (k + 1) v (pre ++ [40]) (sgn kd :: ((if h then [35] else []) ++ ([91] ++ (texts cs ++ ([93] ++ (txt b ++ ([41] ++ post))))))) w2 s2 (by omega) (by omega)
    rw [← e1] at t1
    have hat : at_ L pre.length = 40 := by rw [hL, at_here]; rfl
    have hlen : (pre ++ [(40 : Int)]).length = pre.length + 1 := by simp
    rw [tree] at t1 ⊢
    simp only at t1 ⊢
    rw [hlen] at t1
    rw [opens_step hat, ops_add, show (⟨pre.length, v, 0⟩ : St).i + (opens L ⟨pre.length + 1, v, 0⟩ + 1) = pre.length + 1 + opens L ⟨pre.length + 1, v, 0⟩ by show pre.length + _ = _; omega, t1]
    dsimp only
    rw [ops, if_pos rfl, ops]
    -- the operator
    obtain ⟨P2, hP2⟩ : ∃ P2, P2 = pre ++ [40] ++ txt a := ⟨_, rfl⟩
    rw [← hP2]
    have e2 : L = P2 ++ (sgn kd :: ((if h then [35] else []) ++ ([91] ++ (texts cs ++ ([93] ++ (txt b ++ ([41] ++ post))))))) := by rw [hP2, hL]; simp
    have hk : kind L ⟨P2.length, v + m, 0⟩ = (kd, ⟨(P2 ++ [sgn kd]).length, v + m, 0⟩) := by
      have hn : nx L ⟨P2.length, v + m, 0⟩ = sgn kd := by rw [nx_at, e2, at_here]; rfl
      unfold kind
      rw [hn, s1, if_neg (by omega)]
      simp [on]
    have e3 : L = (P2 ++ [sgn kd]) ++ ((if h then [35] else []) ++ ([91] ++ (texts cs ++ ([93] ++ (txt b ++ ([41] ++ post)))))) := by rw [e2]; simp
    have hs : decide (nx L ⟨(P2 ++ [sgn kd]).length, v + m, 0⟩ = 35) = h ∧ skip L 35 ⟨(P2 ++ [sgn kd]).length, v + m, 0⟩ = ⟨(P2 ++ [sgn kd] ++ (if h then [35] else [])).length, v + m, 0⟩ := by
      have hn : nx L ⟨(P2 ++ [sgn kd]).length, v + m, 0⟩ = if h then 35 else 91 := by
        rw [nx_at, e3, at_here]
        cases h <;> rfl
      unfold skip
      rw [hn]
      cases h
      · exact ⟨rfl, by simp⟩
      · exact ⟨rfl, by simp [on]⟩
    have e4 : L = (P2 ++ [sgn kd] ++ (if h then [35] else [])) ++ ([91] ++ (texts cs ++ ([93] ++ (txt b ++ ([41] ++ post))))) := by rw [e3]; simp
    have hc := conj_back (pre := P2 ++ [sgn kd] ++ (if h then [35] else [])) (post := txt b ++ ([41] ++ post)) (v := v + m) hc1 hc2 hr w1
    rw [← e4] at hc
    obtain ⟨P5, hP5⟩ : ∃ P5, P5 = P2 ++ [sgn kd] ++ (if h then [35] else []) ++ ([91] ++ (texts cs ++ [93])) := ⟨_, rfl⟩
    rw [← hP5] at hc
    have e5 : L = P5 ++ (txt b ++ ([41] ++ post)) := by rw [hP5, e4]; simp
    have hb2 := i2 k (v + m) P5 ([41] ++ post) w3 (by show isDig 41 = false; decide) (by omega) (by omega)
    rw [← e5] at hb2
    have e6 : L = (P5 ++ txt b) ++ (41 :: post) := by rw [e5]; simp
    have hpa := pass_back (pre := P5 ++ txt b) (post := post) (c := 41) (v := v + m + n)
    rw [← e6] at hpa
    have hfin : oper L (tree L k) a ⟨P2.length, v + m, 0⟩ = (.mk kd 0 h cs [a, b], ⟨(P5 ++ txt b ++ [41]).length, v + m + n, 0⟩) := by
      unfold oper
      simp only
      rw [hk]
      dsimp only
      rw [hs.2, hs.1, hc]
      dsimp only
      rw [hb2]
      dsimp only
      rw [hpa]
    rw [hfin]
    rw [show P5 ++ txt b ++ [41] = pre ++ ([40] ++ (txt a ++ ([sgn kd] ++ ((if h then [35] else []) ++ ([91] ++ (texts cs ++ ([93] ++ (txt b ++ [41])))))))) by rw [hP5, hP2]; simp, Nat.add_assoc]
theorem form_le {a : Tr} {n : Nat} (h : Form a n) : n ≤ (txt a).length := by
  induction h with
  | leaf t h0 h1 =>
    obtain ⟨c, r, hc, _⟩ := txt_head (Form.leaf t h0 h1)
    rw [hc]; simp
  | op k h cs a b m n hk1 hk4 hc1 hc2 hr ha hb i1 i2 =>
    rw [txt_op _ _ _ _ (by omega)]
    simp only [List.length_append]
    omega
theorem parse_back {a : Tr} {n : Nat} (h : Form a n) (hn : n ≤ 64) (hw : wfT a) : parse (txt a) = ⟨a, (txt a).length, 0⟩ := by
  have t := tree_back h ((txt a).length + 1) 0 [] [] hw (by decide) (by omega) (by have := form_le h; omega)
  rw [List.nil_append, List.append_nil, List.nil_append, List.length_nil] at t
  unfold parse
  simp only
  rw [t]
  dsimp only
  have hx : nx (txt a) ⟨(txt a).length, 0 + n, 0⟩ = -1 := by
    rw [nx_at]
    have := at_here (txt a) []
    rw [List.append_nil] at this
    rw [this]; rfl
  rw [if_pos hx, if_pos rfl]
/-! ### In bytes -/
theorem txt_low {a : Tr} {n : Nat} (h : Form a n) : ∀ r ∈ txt a, Low r := by
  induction h with
  | leaf t h0 h1 => rw [txt_leaf]; exact whole_low t
  | op k h cs a b m n hk1 hk4 hc1 hc2 hr ha hb i1 i2 =>
    rw [txt_op _ _ _ _ (by omega)]
    have hs : Low (sgn k) := by rcases (show k = 1 ∨ k = 2 ∨ k = 3 ∨ k = 4 by omega) with rfl | rfl | rfl | rfl <;> exact ⟨by decide, by decide⟩
    have hh : ∀ r ∈ (if h then [(35 : Int)] else []), Low r := by
      cases h
      · intro r hr; simp at hr
      · exact low_one ⟨by decide, by decide⟩
    have l40 : ∀ r ∈ [(40 : Int)], Low r := low_one ⟨by decide, by decide⟩
    have l91 : ∀ r ∈ [(91 : Int)], Low r := low_one ⟨by decide, by decide⟩
    have l93 : ∀ r ∈ [(93 : Int)], Low r := low_one ⟨by decide, by decide⟩
    have l41 : ∀ r ∈ [(41 : Int)], Low r := low_one ⟨by decide, by decide⟩
    have lc := texts_low cs fun p hp => text_low _ p 1 (Nat.le_refl _) (hr p hp)
    exact low_all l40 (low_all i1 (low_all (low_one hs) (low_all hh (low_all l91 (low_all lc (low_all l93 (low_all i2 l41)))))))
/-- a tree's text -/
def bytesT (a : Tr) : List UInt8 := Rn.encs (txt a)
theorem bytesT_runes {a : Tr} {n : Nat} (h : Form a n) : Rn.runes (bytesT a) = txt a := Rn.runes_encs fun r hr => (txt_low h r hr).valid
theorem bytesT_back {a : Tr} {n : Nat} (h : Form a n) (hn : n ≤ 64) (hw : wfT a) : parse (Rn.runes (bytesT a)) = ⟨a, (Rn.runes (bytesT a)).length, 0⟩ := by
  rw [bytesT_runes h]; exact parse_back h hn hw
theorem bytesT_took {s : List UInt8} (hs : ∀ r ∈ Rn.runes s, r ≠ -1) {a : Tr} {i : Nat} (h : parse (Rn.runes s) = ⟨a, i, 0⟩) : ∃ n, Form a n ∧ n ≤ 64 ∧ wfT a ∧ bytesT a = s ∧ i = (Rn.runes s).length := by
  obtain ⟨n, a1, a2, a3, a4, a5⟩ := parse_took hs h
  refine ⟨n, a1, a2, a3, ?_, a5⟩
  unfold bytesT
  rw [a4]
  refine Rn.encs_runes fun r hr => ?_
  rw [← a4] at hr
  have := (txt_low a1 r hr).2
  omega
end Sh
end Go.Proofs.YteimbdklakemaaaGreatDoor
