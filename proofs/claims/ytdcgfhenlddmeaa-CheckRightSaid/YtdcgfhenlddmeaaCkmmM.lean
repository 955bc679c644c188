/-
  WHAT FOLLOWS OF A RIGHT QUERY: plain mathematics.
-/
import Derived.Test.YtdcgfhenlddmeaaCkmM
namespace Go.Proofs.Ytdcgfhenlddmeaa
namespace Ck
theorem alone_less {n c c' : Nat} {t : Tr} (h : alone n t c = 0) (hc : c' ≤ c) : alone n t c' = 0 := by
  unfold alone at h ⊢
  by_cases h1 : t.k < 0 ∨ 4 < t.k ∨ (t.k = 0 ∧ t.h = true)
  · rw [if_pos h1] at h; simp at h
  · rw [if_neg h1] at h ⊢
    by_cases h2 : t.ks.length ≠ (if t.k = 0 then 0 else 2)
    · rw [if_pos h2] at h; simp at h
    · rw [if_neg h2] at h ⊢
      by_cases h3 : (t.k = 0 ∧ t.cs.length ≠ 0) ∨ (t.k ≠ 0 ∧ t.cs.length = 0) ∨ 64 < c
      · rw [if_pos h3] at h; simp at h
      · rw [if_neg h3] at h
        rw [if_neg (by omega)]
        exact h
theorem what_less {cols : List Int} {c c' : Nat} {t : Tr} (h : what cols t c = 0) (hc : c' ≤ c) : what cols t c' = 0 := by
  have h1 := what_alone h
  have h2 : alone cols.length t (c' + t.cs.length) = 0 := alone_less h1 (by omega)
  unfold what at h ⊢
  rw [if_neg (not_not_intro h1)] at h
  rw [if_neg (not_not_intro h2)]
  exact h
theorem run_app {cols : List Int} {l m : List Tr} : ∀ {came : List Int} {c : Nat}, (run cols l came c).1 = 0 → run cols (l ++ m) came c = run cols m (run cols l came c).2 (c + many l) := by
  induction l with
  | nil => intro came c _; simp [run, many]
  | cons x r ih =>
    intro came c h
    rw [List.cons_append, run]
    rw [run] at h ⊢
    split
    · rename_i hw; rw [if_pos hw] at h; exact absurd h hw
    · rename_i hw
      rw [if_neg hw] at h
      rw [ih h]
      simp only [many, List.map_cons, List.sum_cons, Nat.add_assoc]
theorem run_head {cols : List Int} {l m : List Tr} {came : List Int} {c : Nat} (h : (run cols (l ++ m) came c).1 = 0) : (run cols l came c).1 = 0 := by
  by_cases hl : (run cols l came c).1 = 0
  · exact hl
  · rw [run_stop hl] at h; exact h
/-- the same trees with fewer conjuncts and other tables ahead -/
theorem run_of {cols : List Int} {l : List Tr} : ∀ {came came' : List Int} {c c' : Nat}, (run cols l came c).1 = 0 → c' ≤ c → ∃ z, run cols l came c = (0, came ++ z) ∧ run cols l came' c' = (0, came' ++ z) := by
  induction l with
  | nil => intro came came' c c' _ _; exact ⟨[], by simp [run], by simp [run]⟩
  | cons x r ih =>
    intro came came' c c' h hc
    rw [run] at h
    split at h
    · rename_i hw; exact absurd h hw
    · rename_i hw
      have hw0 := Decidable.not_not.1 hw
      have hw' := what_less hw0 hc
      obtain ⟨z, h1, h2⟩ := ih (came' := comes x came') (c' := c' + x.cs.length) h (by omega)
      rw [run, if_neg hw, h1, run, if_neg (not_not_intro hw'), h2]
      unfold comes
      split
      · exact ⟨[x.t] ++ z, by simp, by simp⟩
      · exact ⟨z, rfl, rfl⟩
theorem tour_zero {cols : List Int} {a : Tr} : tour cols a = 0 ↔ (run cols (Tr.all a) [] 0).1 = 0 ∧ (run cols (Tr.all a) [] 0).2.Nodup := by
  unfold tour
  constructor
  · intro h
    split at h
    · rename_i hn; exact ⟨h, hn⟩
    · simp at h
  · rintro ⟨h1, h2⟩
    rw [if_pos h2]; exact h1
theorem query_right {cols : List Int} {a : Tr} (h : query cols a = 0) : cols.length ≤ 64 ∧ (∀ x ∈ cols, 1 ≤ x ∧ x ≤ 4) ∧ tour cols a = 0 := by
  unfold query at h
  split at h
  · simp at h
  · rename_i h1
    split at h
    · simp at h
    · rename_i h2
      refine ⟨by omega, fun x hx => ?_, h⟩
      have h3 : ¬ ((decide (x < 1) || decide (4 < x)) = true) := fun hh => h2 (List.any_eq_true.2 ⟨x, hx, hh⟩)
      simp at h3
      omega
theorem query_of {cols : List Int} {a : Tr} (h : cols.length ≤ 64) (hx : ∀ x ∈ cols, 1 ≤ x ∧ x ≤ 4) (ht : tour cols a = 0) : query cols a = 0 := by
  unfold query
  rw [if_neg (by omega), if_neg]
  · exact ht
  · intro hh
    obtain ⟨x, h1, h2⟩ := List.any_eq_true.1 hh
    have := hx x h1
    simp at h2
    omega
/-- a piece of a tour without an error -/
theorem run_piece {cols : List Int} {P B S : List Tr} (h : (run cols (P ++ (B ++ S)) [] 0).1 = 0) (hn : (run cols (P ++ (B ++ S)) [] 0).2.Nodup) : (run cols B [] 0).1 = 0 ∧ (run cols B [] 0).2.Nodup := by
  have hP := run_head h
  rw [run_app hP] at h hn
  have hB := run_head h
  rw [run_app hB] at hn
  obtain ⟨z, h1, h2⟩ := run_of (came' := []) (c' := 0) hB (by omega)
  rw [h2]
  refine ⟨rfl, ?_⟩
  obtain ⟨y, hy⟩ := run_prefix cols S (run cols B (run cols P [] 0).2 (0 + many P)).2 (0 + many P + many B)
  rw [hy, h1] at hn
  have h3 := (List.nodup_append.1 hn).1
  rw [List.nil_append]
  exact (List.nodup_append.1 h3).2.1
theorem alls_split {l : List Tr} {b : Tr} (h : b ∈ l) : ∃ P S, Tr.alls l = P ++ (Tr.all b ++ S) := by
  induction l with
  | nil => simp at h
  | cons x r ih =>
    rcases List.mem_cons.1 h with rfl | h
    · exact ⟨[], Tr.alls r, by rw [Tr.alls]; rfl⟩
    · obtain ⟨P, S, e⟩ := ih h
      exact ⟨Tr.all x ++ P, S, by rw [Tr.alls, e, List.append_assoc]⟩
/-- a tree within a tree: a piece of its tour -/
theorem all_piece (a : Tr) : ∀ b ∈ Tr.all a, ∃ P S, Tr.all a = P ++ (Tr.all b ++ S) := by
  refine Tr.ind (P := fun a => ∀ b ∈ Tr.all a, ∃ P S, Tr.all a = P ++ (Tr.all b ++ S)) (fun a ih => ?_) a
  intro b hb
  rw [Tr.all_at, List.mem_append, List.mem_singleton] at hb
  rcases hb with hb | rfl
  · have key : ∀ l : List Tr, (∀ c ∈ l, ∀ b ∈ Tr.all c, ∃ P S, Tr.all c = P ++ (Tr.all b ++ S)) → b ∈ Tr.alls l → ∃ P S, Tr.alls l = P ++ (Tr.all b ++ S) := by
      intro l
      induction l with
      | nil => intro _ h; rw [Tr.alls] at h; simp at h
      | cons c r ih2 =>
        intro hl h
        rw [Tr.alls, List.mem_append] at h
        rcases h with h | h
        · obtain ⟨P, S, e⟩ := hl c List.mem_cons_self b h
          exact ⟨P, S ++ Tr.alls r, by rw [Tr.alls, e]; simp⟩
        · obtain ⟨P, S, e⟩ := ih2 (fun d hd => hl d (List.mem_cons_of_mem _ hd)) h
          exact ⟨Tr.all c ++ P, S, by rw [Tr.alls, e]; simp⟩
    obtain ⟨P, S, e⟩ := key a.ks ih hb
    exact ⟨P, S ++ [a], by rw [Tr.all_at, e]; simp⟩
  · exact ⟨[], [], by simp⟩
/-- each tree within a right one is right -/
theorem tour_in {cols : List Int} {a b : Tr} (h : tour cols a = 0) (hb : b ∈ Tr.all a) : tour cols b = 0 := by
  obtain ⟨P, S, e⟩ := all_piece a b hb
  obtain ⟨h1, h2⟩ := tour_zero.1 h
  rw [e] at h1 h2
  exact tour_zero.2 (run_piece h1 h2)
theorem kid_in {a b : Tr} (h : b ∈ a.ks) : b ∈ Tr.all a := by
  rw [Tr.all_at]
  refine List.mem_append_left _ (mem_alls h b ?_)
  rw [Tr.all_at]; simp
/-- one table more -/
theorem alone_more {n c : Nat} {t : Tr} (h : alone n t c = 0) : alone (n + 1) t c = 0 := by
  unfold alone at h ⊢
  by_cases h1 : t.k < 0 ∨ 4 < t.k ∨ (t.k = 0 ∧ t.h = true)
  · rw [if_pos h1] at h; simp at h
  · rw [if_neg h1] at h ⊢
    by_cases h2 : t.ks.length ≠ (if t.k = 0 then 0 else 2)
    · rw [if_pos h2] at h; simp at h
    · rw [if_neg h2] at h ⊢
      by_cases h3 : (t.k = 0 ∧ t.cs.length ≠ 0) ∨ (t.k ≠ 0 ∧ t.cs.length = 0) ∨ 64 < c
      · rw [if_pos h3] at h; simp at h
      · rw [if_neg h3] at h ⊢
        by_cases hk : t.k = 0
        · simp only [if_pos hk] at h ⊢
          by_cases h4 : t.t < 0 ∨ (n : Int) ≤ t.t
          · rw [if_pos h4] at h; simp at h
          · rw [if_neg (by omega)]
        · simp only [if_neg hk] at h ⊢
          exact h
theorem conj_more {cols : List Int} {l r : Nat} {p : Pd} (hl : ∀ j, (l ||| r).testBit j = true → j < cols.length) (h : conj cols l r p = 0) : conj (cols ++ [1]) l r p = 0 := by
  unfold conj at h ⊢
  split at h
  · simp at h
  · rename_i h1
    rw [if_neg h1]
    split at h
    · simp at h
    · rename_i h2
      rw [if_neg]
      · exact h
      · intro hh
        obtain ⟨c, hc, ho⟩ := List.any_eq_true.1 hh
        refine h2 (List.any_eq_true.2 ⟨c, hc, ?_⟩)
        by_cases hb : St.hasB (l ||| r) c.1 = true
        · have hin := hb
          unfold St.hasB at hin
          simp only [Bool.and_eq_true, decide_eq_true_eq] at hin
          have hlt := hl _ hin.2.2
          unfold out at ho ⊢
          rwa [List.getD_eq_getElem?_getD, List.getElem?_append_left hlt, ← List.getD_eq_getElem?_getD] at ho
        · have hb2 : St.hasB (l ||| r) c.1 = false := by simpa using hb
          rw [has_or, Bool.or_eq_false_iff] at hb2
          unfold out
          rw [hb2.1, hb2.2]; rfl
theorem conjs_zero {cols : List Int} {l r : Nat} {L : List Pd} : conjs cols l r L = 0 ↔ ∀ p ∈ L, conj cols l r p = 0 := by
  induction L with
  | nil => simp [conjs]
  | cons p t ih =>
    rw [conjs]
    constructor
    · intro h
      split at h
      · rename_i hh; exact absurd h hh
      · rename_i hh
        intro q hq
        rcases List.mem_cons.1 hq with rfl | hq
        · exact Decidable.not_not.1 hh
        · exact ih.1 h q hq
    · intro h
      rw [if_neg (not_not_intro (h p List.mem_cons_self))]
      exact ih.2 fun q hq => h q (List.mem_cons_of_mem _ hq)
theorem what_more {cols : List Int} {c : Nat} {t : Tr} (hl : ∀ j, (ksn t 0 ||| ksn t 1).testBit j = true → j < cols.length) (h : what cols t c = 0) : what (cols ++ [1]) t c = 0 := by
  have h1 := what_alone h
  have h2 : alone (cols ++ [1]).length t (c + t.cs.length) = 0 := by rw [List.length_append, List.length_singleton]; exact alone_more h1
  unfold what at h ⊢
  rw [if_neg (not_not_intro h1)] at h
  rw [if_neg (not_not_intro h2)]
  split at h
  · rename_i hk; rw [if_pos hk]
  · rename_i hk
    rw [if_neg hk]
    exact conjs_zero.2 fun p hp => conj_more hl (conjs_zero.1 h p hp)
theorem run_more {cols : List Int} {a : Tr} (pre : List Tr) : pre <+: Tr.all a → (run cols pre [] 0).1 = 0 → run (cols ++ [1]) pre [] 0 = run cols pre [] 0 := by
  have key : ∀ n, ∀ pre : List Tr, pre.length = n → pre <+: Tr.all a → (run cols pre [] 0).1 = 0 → run (cols ++ [1]) pre [] 0 = run cols pre [] 0 := by
    intro n
    induction n with
    | zero => intro pre h _ _; rw [List.eq_nil_of_length_eq_zero h]; rfl
    | succ n ih =>
      intro pre hn hp h
      obtain ⟨p, x, rfl⟩ : ∃ p x, pre = p ++ [x] := ⟨pre.dropLast, pre.getLast (by intro e; rw [e] at hn; simp at hn), (List.dropLast_concat_getLast _).symm⟩
      have h0 := run_head h
      have e := ih p (by simpa using hn) ((List.prefix_append p [x]).trans hp) h0
      have s1 := run_snoc (t := x) h0
      have h1 : (run (cols ++ [1]) p [] 0).1 = 0 := by rw [e]; exact h0
      have s2 := run_snoc (t := x) h1
      rw [s1] at h
      have hw : what cols x (0 + many p) = 0 := by
        by_cases hw : what cols x (0 + many p) = 0
        · exact hw
        · rw [if_pos hw] at h; exact absurd h hw
      have hf := run_fine h0
      have hw2 : what (cols ++ [1]) x (0 + many p) = 0 := what_more (fun j hj => by
        rw [Nat.testBit_or, Bool.or_eq_true] at hj
        rcases hj with hj | hj
        · exact ksn_fine hp hf 0 j hj
        · exact ksn_fine hp hf 1 j hj) hw
      rw [s1, s2, if_neg (not_not_intro hw), if_neg (not_not_intro hw2), e]
  exact key _ pre rfl
theorem more_right {cols : List Int} {a : Tr} (h : query cols a = 0) : (query (cols ++ [1]) a == 0) = decide (cols.length < 64) := by
  obtain ⟨h1, h2, h3⟩ := query_right h
  obtain ⟨h4, h5⟩ := tour_zero.1 h3
  by_cases hl : cols.length < 64
  · have e := run_more (Tr.all a) (List.prefix_refl _) h4
    have : query (cols ++ [1]) a = 0 := query_of (by simp; omega) (fun x hx => by
      rcases List.mem_append.1 hx with hx | hx
      · exact h2 x hx
      · rw [List.mem_singleton.1 hx]; omega) (tour_zero.2 (by rw [e]; exact ⟨h4, h5⟩))
    rw [this, decide_eq_true hl]; rfl
  · have : query (cols ++ [1]) a = 2 := by
      unfold query
      rw [if_pos (by simp; omega)]
    rw [this, decide_eq_false hl]; rfl
theorem kid_right {cols : List Int} {a b : Tr} (h : query cols a = 0) (hb : b ∈ a.ks) : query cols b = 0 := by
  obtain ⟨h1, h2, h3⟩ := query_right h
  exact query_of h1 h2 (tour_in h3 (kid_in hb))
end Ck
end Go.Proofs.Ytdcgfhenlddmeaa
