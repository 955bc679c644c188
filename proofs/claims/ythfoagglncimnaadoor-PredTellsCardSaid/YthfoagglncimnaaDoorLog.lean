/-
  PLAIN MATHEMATICS OF LAYER 4: what comes of all, of some, of none; by what is among them.
-/
namespace Go.Proofs.YthfoagglncimnaaDoor
namespace Lo
def three (t : Int) : Int := if t = 0 ∨ t = 2 then t else 1
def notI (t : Int) : Int := if t = 0 then 2 else if t = 2 then 0 else 1
def andI (l : List Int) : Int := if 0 ∈ l then 0 else if ∀ t ∈ l, t = 2 then 2 else 1
def orI (l : List Int) : Int := if 2 ∈ l then 2 else if ∀ t ∈ l, t = 0 then 0 else 1
/-- is t one that is known? -/
def known (t : Int) : Bool := t == 0 || t == 2
theorem known_iff (t : Int) : known t = true ↔ t = 0 ∨ t = 2 := by simp [known]
theorem not_three (t : Int) : 2 - three t = notI t := by
  unfold three notI
  by_cases h : t = 0
  · subst h; rfl
  · by_cases h2 : t = 2
    · subst h2; rfl
    · simp [h, h2]
theorem three_cases (t : Int) : three t = 0 ∨ three t = 1 ∨ three t = 2 := by
  unfold three
  split
  · omega
  · omega
theorem notI_cases (t : Int) : notI t = 0 ∨ notI t = 1 ∨ notI t = 2 := by
  unfold notI
  split
  · omega
  · split <;> omega
theorem andI_cases (l : List Int) : andI l = 0 ∨ andI l = 1 ∨ andI l = 2 := by
  unfold andI
  split
  · omega
  · split <;> omega
theorem orI_cases (l : List Int) : orI l = 0 ∨ orI l = 1 ∨ orI l = 2 := by
  unfold orI
  split
  · omega
  · split <;> omega
theorem andI_nil : andI [] = 2 := by simp [andI]
theorem orI_nil : orI [] = 0 := by simp [orI]
/-- what counts is which are among them -/
theorem andI_congr {l m : List Int} (h : ∀ t, t ∈ l ↔ t ∈ m) : andI l = andI m := by
  unfold andI
  simp only [h]
theorem orI_congr {l m : List Int} (h : ∀ t, t ∈ l ↔ t ∈ m) : orI l = orI m := by
  unfold orI
  simp only [h]
theorem andI_zero {l : List Int} (h : 0 ∈ l) : andI l = 0 := by unfold andI; rw [if_pos h]
theorem andI_two {l : List Int} (h : ∀ t ∈ l, t = 2) : andI l = 2 := by
  have h0 : ¬ 0 ∈ l := fun hm => by have := h 0 hm; omega
  unfold andI; rw [if_neg h0, if_pos h]
theorem andI_one {l : List Int} (h0 : ¬ 0 ∈ l) (h : ¬ ∀ t ∈ l, t = 2) : andI l = 1 := by unfold andI; rw [if_neg h0, if_neg h]
theorem orI_two {l : List Int} (h : 2 ∈ l) : orI l = 2 := by unfold orI; rw [if_pos h]
theorem orI_zero {l : List Int} (h : ∀ t ∈ l, t = 0) : orI l = 0 := by
  have h0 : ¬ 2 ∈ l := fun hm => by have := h 2 hm; omega
  unfold orI; rw [if_neg h0, if_pos h]
theorem orI_one {l : List Int} (h0 : ¬ 2 ∈ l) (h : ¬ ∀ t ∈ l, t = 0) : orI l = 1 := by unfold orI; rw [if_neg h0, if_neg h]
theorem notI_two {t : Int} : notI t = 2 ↔ t = 0 := by
  unfold notI
  by_cases h : t = 0
  · simp [h]
  · rw [if_neg h]; split <;> omega
theorem notI_zero {t : Int} : notI t = 0 ↔ t = 2 := by
  unfold notI
  by_cases h : t = 0
  · simp [h]
  · rw [if_neg h]; split <;> omega
theorem andI_eq0 {l : List Int} : andI l = 0 ↔ 0 ∈ l := by
  unfold andI
  by_cases h : 0 ∈ l
  · simp [h]
  · rw [if_neg h]
    constructor
    · intro e; split at e <;> omega
    · intro e; exact absurd e h
theorem andI_eq2 {l : List Int} : andI l = 2 ↔ ∀ t ∈ l, t = 2 := by
  constructor
  · intro e
    apply Classical.byContradiction
    intro hn
    by_cases h : 0 ∈ l
    · rw [andI_zero h] at e; omega
    · rw [andI_one h hn] at e; omega
  · exact andI_two
theorem orI_eq2 {l : List Int} : orI l = 2 ↔ 2 ∈ l := by
  unfold orI
  by_cases h : 2 ∈ l
  · simp [h]
  · rw [if_neg h]
    constructor
    · intro e; split at e <;> omega
    · intro e; exact absurd e h
theorem orI_eq0 {l : List Int} : orI l = 0 ↔ ∀ t ∈ l, t = 0 := by
  constructor
  · intro e
    apply Classical.byContradiction
    intro hn
    by_cases h : 2 ∈ l
    · rw [orI_two h] at e; omega
    · rw [orI_one h hn] at e; omega
  · exact orI_zero
/-- two of the three that are 0 together and 2 together are the same -/
theorem same3 {a b : Int} (ha : a = 0 ∨ a = 1 ∨ a = 2) (hb : b = 0 ∨ b = 1 ∨ b = 2) (h0 : a = 0 ↔ b = 0) (h2 : a = 2 ↔ b = 2) : a = b := by omega
theorem not_and (l : List Int) : notI (andI l) = orI (l.map notI) := by
  refine same3 (notI_cases _) (orI_cases _) ?_ ?_
  · rw [notI_zero, andI_eq2, orI_eq0]
    simp [notI_zero]
  · rw [notI_two, andI_eq0, orI_eq2]
    simp [notI_two]
theorem not_not (t : Int) : notI (notI t) = andI [t] := by
  refine same3 (notI_cases _) (andI_cases _) ?_ ?_
  · rw [notI_zero, notI_two, andI_eq0]; simp; omega
  · rw [notI_two, notI_zero, andI_eq2]; simp
theorem and_both (l m : List Int) : andI (l ++ m) = andI [andI l, andI m] := by
  refine same3 (andI_cases _) (andI_cases _) ?_ ?_
  · rw [andI_eq0, andI_eq0, List.mem_append, ← andI_eq0, ← andI_eq0 (l := m)]; simp; omega
  · rw [andI_eq2, andI_eq2]
    simp only [List.mem_append, List.mem_cons, List.not_mem_nil, or_false, forall_eq_or_imp, forall_eq]
    rw [andI_eq2, andI_eq2]
    constructor
    · intro h; exact ⟨fun t ht => h t (.inl ht), fun t ht => h t (.inr ht)⟩
    · rintro ⟨h1, h2⟩ t (ht | ht)
      · exact h1 t ht
      · exact h2 t ht
theorem or_both (l m : List Int) : orI (l ++ m) = orI [orI l, orI m] := by
  refine same3 (orI_cases _) (orI_cases _) ?_ ?_
  · rw [orI_eq0, orI_eq0]
    simp only [List.mem_append, List.mem_cons, List.not_mem_nil, or_false, forall_eq_or_imp, forall_eq]
    rw [orI_eq0, orI_eq0]
    constructor
    · intro h; exact ⟨fun t ht => h t (.inl ht), fun t ht => h t (.inr ht)⟩
    · rintro ⟨h1, h2⟩ t (ht | ht)
      · exact h1 t ht
      · exact h2 t ht
  · rw [orI_eq2, orI_eq2, List.mem_append, ← orI_eq2, ← orI_eq2 (l := m)]; simp; omega
theorem and_turned (l m : List Int) : andI (l ++ m) = andI ((m ++ l) ++ m) := andI_congr fun t => by by_cases h1 : t ∈ l <;> by_cases h2 : t ∈ m <;> simp [h1, h2]
theorem or_turned (l m : List Int) : orI (l ++ m) = orI ((m ++ l) ++ m) := orI_congr fun t => by by_cases h1 : t ∈ l <;> by_cases h2 : t ∈ m <;> simp [h1, h2]
theorem three_zero {t : Int} : three t = 0 ↔ t = 0 := by unfold three; split <;> omega
theorem three_two {t : Int} : three t = 2 ↔ t = 2 := by unfold three; split <;> omega
/-- one more -/
theorem and_snoc (l : List Int) (x : Int) : andI (l ++ [x]) = min (andI l) (three x) := by
  have h1 := andI_cases l
  have h2 := three_cases x
  refine same3 (andI_cases _) (by omega) ?_ ?_
  · rw [andI_eq0, List.mem_append, ← andI_eq0, List.mem_singleton]
    have := three_zero (t := x)
    omega
  · rw [andI_eq2]
    have h3 := three_two (t := x)
    have h4 := andI_eq2 (l := l)
    simp only [List.mem_append, List.mem_singleton]
    constructor
    · intro h
      have h5 := h4.2 fun t ht => h t (.inl ht)
      have h6 := h3.2 (h x (.inr rfl))
      omega
    · intro h t ht
      rcases ht with ht | ht
      · exact h4.1 (by omega) t ht
      · rw [ht]; exact h3.1 (by omega)
theorem or_snoc (l : List Int) (x : Int) : orI (l ++ [x]) = max (orI l) (three x) := by
  have h1 := orI_cases l
  have h2 := three_cases x
  refine same3 (orI_cases _) (by omega) ?_ ?_
  · rw [orI_eq0]
    have h3 := three_zero (t := x)
    have h4 := orI_eq0 (l := l)
    simp only [List.mem_append, List.mem_singleton]
    constructor
    · intro h
      have h5 := h4.2 fun t ht => h t (.inl ht)
      have h6 := h3.2 (h x (.inr rfl))
      omega
    · intro h t ht
      rcases ht with ht | ht
      · exact h4.1 (by omega) t ht
      · rw [ht]; exact h3.1 (by omega)
  · rw [orI_eq2, List.mem_append, ← orI_eq2, List.mem_singleton]
    have := three_two (t := x)
    omega
/-- what the program asks of a list: is one of it s, is one of it unknown? -/
def settleI (l : List Int) (s : Int) : Int := if l.any (fun t => t == s) then s else if l.any (fun t => !known t) then 1 else notI s
theorem settle_and (l : List Int) : settleI l 0 = andI l := by
  unfold settleI
  by_cases h0 : 0 ∈ l
  · rw [andI_zero h0, if_pos (by simp [h0])]
  · rw [if_neg (by simpa using h0)]
    by_cases h : ∀ t ∈ l, t = 2
    · rw [andI_two h, if_neg]
      · rfl
      · simp only [Bool.not_eq_true, List.any_eq_false]
        intro t ht; rw [h t ht]; decide
    · rw [andI_one h0 h, if_pos]
      simp only [List.any_eq_true]
      apply Classical.byContradiction
      intro hn
      apply h
      intro t ht
      apply Classical.byContradiction
      intro h2
      apply hn
      exact ⟨t, ht, by
        have : t ≠ 0 := fun e => h0 (e ▸ ht)
        simp [known, this, h2]⟩
theorem settle_or (l : List Int) : settleI l 2 = orI l := by
  unfold settleI
  by_cases h0 : 2 ∈ l
  · rw [orI_two h0, if_pos (by simp [h0])]
  · rw [if_neg (by simpa using h0)]
    by_cases h : ∀ t ∈ l, t = 0
    · rw [orI_zero h, if_neg]
      · rfl
      · simp only [Bool.not_eq_true, List.any_eq_false]
        intro t ht; rw [h t ht]; decide
    · rw [orI_one h0 h, if_pos]
      simp only [List.any_eq_true]
      apply Classical.byContradiction
      intro hn
      apply h
      intro t ht
      apply Classical.byContradiction
      intro h2
      apply hn
      exact ⟨t, ht, by
        have : t ≠ 2 := fun e => h0 (e ▸ ht)
        simp [known, this, h2]⟩
end Lo
end Go.Proofs.YthfoagglncimnaaDoor
