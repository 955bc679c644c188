/-
  WHAT A RIGHT QUERY's TREES ARE: plain mathematics.
-/
import Derived.Test.YtdcgfhenlddmeaaCkmM
namespace Go.Proofs.Ytdcgfhenlddmeaa
namespace Ck
theorem alone_less {n c c' : Nat} {t : Tr} (h : alone n t c = 0) (hc : c' ≤ c) : alone n t c' = 0 := by
  unfold alone at h ⊢
  by_cases h1 : t.k < 0 ∨ 4 < t.k ∨ (t.k = 0 ∧ t.h = true)
  · rw [if_pos h1] at h; simp at h
  · rw [if_neg h1] at h ⊢
    by_cases h2 : t.ks.length ≠ (if t.k = 0 then 0 else 2)
    · rw [if_pos h2] at h; simp at h
    · rw [if_neg h2] at h ⊢
      by_cases h3 : (t.k = 0 ∧ t.cs.length ≠ 0) ∨ (t.k ≠ 0 ∧ t.cs.length = 0) ∨ 64 < c
      · rw [if_pos h3] at h; simp at h
      · rw [if_neg h3] at h
        rw [if_neg (by omega)]
        exact h
theorem what_less {cols : List Int} {c c' : Nat} {t : Tr} (h : what cols t c = 0) (hc : c' ≤ c) : what cols t c' = 0 := by
  have h1 := what_alone h
  have h2 : alone cols.length t (c' + t.cs.length) = 0 := alone_less h1 (by omega)
  unfold what at h ⊢
  rw [if_neg (not_not_intro h1)] at h
  rw [if_neg (not_not_intro h2)]
  exact h
theorem run_app {cols : List Int} {l m : List Tr} : ∀ {came : List Int} {c : Nat}, (run cols l came c).1 = 0 → run cols (l ++ m) came c = run cols m (run cols l came c).2 (c + many l) := by
  induction l with
  | nil => intro came c _; simp [run, many]
  | cons x r ih =>
    intro came c h
    rw [List.cons_append, run]
    rw [run] at h ⊢
    split
    · rename_i hw; rw [if_pos hw] at h; exact absurd h hw
    · rename_i hw
      rw [if_neg hw] at h
      rw [ih h]
      simp only [many, List.map_cons, List.sum_cons, Nat.add_assoc]
theorem run_head {cols : List Int} {l m : List Tr} {came : List Int} {c : Nat} (h : (run cols (l ++ m) came c).1 = 0) : (run cols l came c).1 = 0 := by
  by_cases hl : (run cols l came c).1 = 0
  · exact hl
  · rw [run_stop hl] at h; exact h
/-- the same trees with fewer conjuncts and other tables ahead -/
theorem run_of {cols : List Int} {l : List Tr} : ∀ {came came' : List Int} {c c' : Nat}, (run cols l came c).1 = 0 → c' ≤ c → ∃ z, run cols l came c = (0, came ++ z) ∧ run cols l came' c' = (0, came' ++ z) := by
  induction l with
  | nil => intro came came' c c' _ _; exact ⟨[], by simp [run], by simp [run]⟩
  | cons x r ih =>
    intro came came' c c' h hc
    rw [run] at h
    split at h
    · rename_i hw; exact absurd h hw
    · rename_i hw
      have hw0 := Decidable.not_not.1 hw
      have hw' := what_less hw0 hc
      obtain ⟨z, h1, h2⟩ := ih (came' := comes x came') (c' := c' + x.cs.length) h (by omega)
      rw [run, if_neg hw, h1, run, if_neg (not_not_intro hw'), h2]
      unfold comes
      split
      · exact ⟨[x.t] ++ z, by simp, by simp⟩
      · exact ⟨z, rfl, rfl⟩
theorem tour_zero {cols : List Int} {a : Tr} : tour cols a = 0 ↔ (run cols (Tr.all a) [] 0).1 = 0 ∧ (run cols (Tr.all a) [] 0).2.Nodup := by
  unfold tour
  constructor
  · intro h
    split at h
    · rename_i hn; exact ⟨h, hn⟩
    · simp at h
  · rintro ⟨h1, h2⟩
    rw [if_pos h2]; exact h1
theorem query_right {cols : List Int} {a : Tr} (h : query cols a = 0) : cols.length ≤ 64 ∧ (∀ x ∈ cols, 1 ≤ x ∧ x ≤ 4) ∧ tour cols a = 0 := by
  unfold query at h
  split at h
  · simp at h
  · rename_i h1
    split at h
    · simp at h
    · rename_i h2
      refine ⟨by omega, fun x hx => ?_, h⟩
      have h3 : ¬ ((decide (x < 1) || decide (4 < x)) = true) := fun hh => h2 (List.any_eq_true.2 ⟨x, hx, hh⟩)
      simp at h3
      omega
theorem query_of {cols : List Int} {a : Tr} (h : cols.length ≤ 64) (hx : ∀ x ∈ cols, 1 ≤ x ∧ x ≤ 4) (ht : tour cols a = 0) : query cols a = 0 := by
  unfold query
  rw [if_neg (by omega), if_neg]
  · exact ht
  · intro hh
    obtain ⟨x, h1, h2⟩ := List.any_eq_true.1 hh
    have := hx x h1
    simp at h2
    omega
/-- a piece of a tour without an error -/
theorem run_piece {cols : List Int} {P B S : List Tr} (h : (run cols (P ++ (B ++ S)) [] 0).1 = 0) (hn : (run cols (P ++ (B ++ S)) [] 0).2.Nodup) : (run cols B [] 0).1 = 0 ∧ (run cols B [] 0).2.Nodup := by
  have hP := run_head h
  rw [run_app hP] at h hn
  have hB := run_head h
  rw [run_app hB] at hn
  obtain ⟨z, h1, h2⟩ := run_of (came' := []) (c' := 0) hB (by omega)
  rw [h2]
  refine ⟨rfl, ?_⟩
  obtain ⟨y, hy⟩ := run_prefix cols S (run cols B (run cols P [] 0).2 (0 + many P)).2 (0 + many P + many B)
  rw [hy, h1] at hn
  have h3 := (List.nodup_append.1 hn).1
  rw [List.nil_append]
  exact (List.nodup_append.1 h3).2.1
theorem alls_split {l : List Tr} {b : Tr} (h : b ∈ l) : ∃ P S, Tr.alls l = P ++ (Tr.all b ++ S) := by
  induction l with
  | nil => simp at h
  | cons x r ih =>
    rcases List.mem_cons.1 h with rfl | h
    · exact ⟨[], Tr.alls r, by rw [Tr.alls]; rfl⟩
    · obtain ⟨P, S, e⟩ := ih h
      exact ⟨Tr.all x ++ P, S, by rw [Tr.alls, e, List.append_assoc]⟩
/-- a tree within a tree: a piece of its tour -/
theorem all_piece (a : Tr) : ∀ b ∈ Tr.all a, ∃ P S, Tr.all a = P ++ (Tr.all b ++ S) := by
  refine Tr.ind (P := fun a => ∀ b ∈ Tr.all a, ∃ P S, Tr.all a = P ++ (Tr.all b ++ S)) (fun a ih => ?_) a
  intro b hb
  rw [Tr.all_at, List.mem_append, List.mem_singleton] at hb
  rcases hb with hb | rfl
  · have key : ∀ l : List Tr, (∀ c ∈ l, ∀ b ∈ Tr.all c, ∃ P S, Tr.all c = P ++ (Tr.all b ++ S)) → b ∈ Tr.alls l → ∃ P S, Tr.alls l = P ++ (Tr.all b ++ S) := by
      intro l
      induction l with
      | nil => intro _ h; rw [Tr.alls] at h; simp at h
      | cons c r ih2 =>
        intro hl h
        rw [Tr.alls, List.mem_append] at h
        rcases h with h | h
        · obtain ⟨P, S, e⟩ := hl c List.mem_cons_self b h
          exact ⟨P, S ++ Tr.alls r, by rw [Tr.alls, e]; simp⟩
        · obtain ⟨P, S, e⟩ := ih2 (fun d hd => hl d (List.mem_cons_of_mem _ hd)) h
          exact ⟨Tr.all c ++ P, S, by rw [Tr.alls, e]; simp⟩
    obtain ⟨P, S, e⟩ := key a.ks ih hb
    exact ⟨P, S ++ [a], by rw [Tr.all_at, e]; simp⟩
  · exact ⟨[], [], by simp⟩
/-- each tree within a right one is right -/
theorem tour_in {cols : List Int} {a b : Tr} (h : tour cols a = 0) (hb : b ∈ Tr.all a) : tour cols b = 0 := by
  obtain ⟨P, S, e⟩ := all_piece a b hb
  obtain ⟨h1, h2⟩ := tour_zero.1 h
  rw [e] at h1 h2
  exact tour_zero.2 (run_piece h1 h2)
theorem kid_in {a b : Tr} (h : b ∈ a.ks) : b ∈ Tr.all a := by
  rw [Tr.all_at]
  refine List.mem_append_left _ (mem_alls h b ?_)
  rw [Tr.all_at]; simp
/-- one table more -/
theorem alone_more {n c : Nat} {t : Tr} (h : alone n t c = 0) : alone (n + 1) t c = 0 := by
  unfold alone at h ⊢
  by_cases h1 : t.k < 0 ∨ 4 < t.k ∨ (t.k = 0 ∧ t.h = true)
  · rw [if_pos h1] at h; simp at h
  · rw [if_neg h1] at h ⊢
    by_cases h2 : t.ks.length ≠ (if t.k = 0 then 0 else 2)
    · rw [if_pos h2] at h; simp at h
    · rw [if_neg h2] at h ⊢
      by_cases h3 : (t.k = 0 ∧ t.cs.length ≠ 0) ∨ (t.k ≠ 0 ∧ t.cs.length = 0) ∨ 64 < c
      · rw [if_pos h3] at h; simp at h
      · rw [if_neg h3] at h ⊢
        by_cases hk : t.k = 0
        · simp only [if_pos hk] at h ⊢
          by_cases h4 : t.t < 0 ∨ (n : Int) ≤ t.t
          · rw [if_pos h4] at h; simp at h
          · rw [if_neg (by omega)]
        · simp only [if_neg hk] at h ⊢
          exact h
theorem conj_more {cols : List Int} {l r : Nat} {p : Pd} (hl : ∀ j, (l ||| r).testBit j = true → j < cols.length) (h : conj cols l r p = 0) : conj (cols ++ [1]) l r p = 0 := by
  unfold conj at h ⊢
  split at h
  · simp at h
  · rename_i h1
    rw [if_neg h1]
    split at h
    · simp at h
    · rename_i h2
      rw [if_neg]
      · exact h
      · intro hh
        obtain ⟨c, hc, ho⟩ := List.any_eq_true.1 hh
        refine h2 (List.any_eq_true.2 ⟨c, hc, ?_⟩)
        by_cases hb : St.hasB (l ||| r) c.1 = true
        · have hin := hb
          unfold St.hasB at hin
          simp only [Bool.and_eq_true, decide_eq_true_eq] at hin
          have hlt := hl _ hin.2.2
          unfold out at ho ⊢
          rwa [List.getD_eq_getElem?_getD, List.getElem?_append_left hlt, ← List.getD_eq_getElem?_getD] at ho
        · have hb2 : St.hasB (l ||| r) c.1 = false := by simpa using hb
          rw [has_or, Bool.or_eq_false_iff] at hb2
          unfold out
          rw [hb2.1, hb2.2]; rfl
theorem conjs_zero {cols : List Int} {l r : Nat} {L : List Pd} : conjs cols l r L = 0 ↔ ∀ p ∈ L, conj cols l r p = 0 := by
  induction L with
  | nil => simp [conjs]
  | cons p t ih =>
    rw [conjs]
    constructor
    · intro h
      split at h
      · rename_i hh; exact absurd h hh
      · rename_i hh
        intro q hq
        rcases List.mem_cons.1 hq with rfl | hq
        · exact Decidable.not_not.1 hh
        · exact ih.1 h q hq
    · intro h
      rw [if_neg (not_not_intro (h p List.mem_cons_self))]
      exact ih.2 fun q hq => h q (List.mem_cons_of_mem _ hq)
theorem what_more {cols : List Int} {c : Nat} {t : Tr} (hl : ∀ j, (ksn t 0 ||| ksn t 1).testBit j = true → j < cols.length) (h : what cols t c = 0) : what (cols ++ [1]) t c = 0 := by
  have h1 := what_alone h
  have h2 : alone (cols ++ [1]).length t (c + t.cs.length) = 0 := by rw [List.length_append, List.length_singleton]; exact alone_more h1
  unfold what at h ⊢
  rw [if_neg (not_not_intro h1)] at h
  rw [if_neg (not_not_intro h2)]
  split at h
  · rename_i hk; rw [if_pos hk]
  · rename_i hk
    rw [if_neg hk]
    exact conjs_zero.2 fun p hp => conj_more hl (conjs_zero.1 h p hp)
theorem run_more {cols : List Int} {a : Tr} (pre : List Tr) : pre <+: Tr.all a → (run cols pre [] 0).1 = 0 → run (cols ++ [1]) pre [] 0 = run cols pre [] 0 := by
  have key : ∀ n, ∀ pre : List Tr, pre.length = n → pre <+: Tr.all a → (run cols pre [] 0).1 = 0 → run (cols ++ [1]) pre [] 0 = run cols pre [] 0 := by
    intro n
    induction n with
    | zero => intro pre h _ _; rw [List.eq_nil_of_length_eq_zero h]; rfl
    | succ n ih =>
      intro pre hn hp h
      obtain ⟨p, x, rfl⟩ : ∃ p x, pre = p ++ [x] := ⟨pre.dropLast, pre.getLast (by intro e; rw [e] at hn; simp at hn), (List.dropLast_concat_getLast _).symm⟩
      have h0 := run_head h
      have e := ih p (by simpa using hn) ((List.prefix_append p [x]).trans hp) h0
      have s1 := run_snoc (t := x) h0
      have h1 : (run (cols ++ [1]) p [] 0).1 = 0 := by rw [e]; exact h0
      have s2 := run_snoc (t := x) h1
      rw [s1] at h
      have hw : what cols x (0 + many p) = 0 := by
        by_cases hw : what cols x (0 + many p) = 0
        · exact hw
        · rw [if_pos hw] at h; exact absurd h hw
      have hf := run_fine h0
      have hw2 : what (cols ++ [1]) x (0 + many p) = 0 := what_more (fun j hj => by
        rw [Nat.testBit_or, Bool.or_eq_true] at hj
        rcases hj with hj | hj
        · exact ksn_fine hp hf 0 j hj
        · exact ksn_fine hp hf 1 j hj) hw
      rw [s1, s2, if_neg (not_not_intro hw), if_neg (not_not_intro hw2), e]
  exact key _ pre rfl
theorem more_right {cols : List Int} {a : Tr} (h : query cols a = 0) : (query (cols ++ [1]) a == 0) = decide (cols.length < 64) := by
  obtain ⟨h1, h2, h3⟩ := query_right h
  obtain ⟨h4, h5⟩ := tour_zero.1 h3
  by_cases hl : cols.length < 64
  · have e := run_more (Tr.all a) (List.prefix_refl _) h4
    have : query (cols ++ [1]) a = 0 := query_of (by simp; omega) (fun x hx => by
      rcases List.mem_append.1 hx with hx | hx
      · exact h2 x hx
      · rw [List.mem_singleton.1 hx]; omega) (tour_zero.2 (by rw [e]; exact ⟨h4, h5⟩))
    rw [this, decide_eq_true hl]; rfl
  · have : query (cols ++ [1]) a = 2 := by
      unfold query
      rw [if_pos (by simp; omega)]
    rw [this, decide_eq_false hl]; rfl
theorem kid_right {cols : List Int} {a b : Tr} (h : query cols a = 0) (hb : b ∈ a.ks) : query cols b = 0 := by
  obtain ⟨h1, h2, h3⟩ := query_right h
  exact query_of h1 h2 (tour_in h3 (kid_in hb))
end Ck
end Go.Proofs.Ytdcgfhenlddmeaa
namespace Go.Proofs.Ytdcgfhenlddmeaa
namespace Ck
/-- the leaves' tables -/
def lv (l : List Tr) : List Int := (l.filter fun x => x.k == 0).map Tr.t
theorem lv_app (l m : List Tr) : lv (l ++ m) = lv l ++ lv m := by simp [lv]
theorem lv_one (t : Tr) : lv [t] = if t.k = 0 then [t.t] else [] := by
  unfold lv
  by_cases h : t.k = 0 <;> simp [h]
theorem run_lv {cols : List Int} {l : List Tr} : ∀ {came : List Int} {c : Nat}, (run cols l came c).1 = 0 → (run cols l came c).2 = came ++ lv l := by
  induction l with
  | nil => intro came c _; simp [run, lv]
  | cons x r ih =>
    intro came c h
    rw [run] at h ⊢
    split at h
    · rename_i hw; exact absurd h hw
    · rename_i hw
      rw [if_neg hw, ih h]
      rw [show x :: r = [x] ++ r from rfl, lv_app, lv_one]
      unfold comes
      split <;> simp
/-- each tree of a right query's tour is right, as it stands -/
def Good (cols : List Int) (a : Tr) : Prop := ∀ x ∈ Tr.all a, what cols x 0 = 0
theorem good_of {cols : List Int} {a : Tr} (h : tour cols a = 0) : Good cols a := fun x hx => by
  obtain ⟨c', _, h2⟩ := run_each (tour_zero.1 h).1 x hx
  exact what_less h2 (Nat.zero_le _)
theorem Good.kid {cols : List Int} {a b : Tr} (h : Good cols a) (hb : b ∈ a.ks) : Good cols b := fun x hx => h x (by rw [Tr.all_at]; exact List.mem_append_left _ (mem_alls hb x hx))
theorem Good.own {cols : List Int} {a : Tr} (h : Good cols a) : what cols a 0 = 0 := h a (by rw [Tr.all_at]; simp)
theorem Good.leaf {cols : List Int} {a : Tr} (h : Good cols a) (hk : a.k = 0) : a.ks = [] ∧ a.cs = [] ∧ 0 ≤ a.t ∧ a.t < cols.length := by
  have h1 := what_alone h.own
  obtain ⟨h2, h3⟩ := alone_leaf h1 hk
  obtain ⟨h4, h5⟩ := alone_fine h1 hk
  exact ⟨h2, h3, h4, h5⟩
theorem Good.op {cols : List Int} {a : Tr} (h : Good cols a) (hk : a.k ≠ 0) : ∃ x y, a.ks = [x, y] ∧ a.cs ≠ [] ∧ (a.k = 0 ∨ 1 ≤ a.k) ∧ conjs cols (Tr.seen x) (Tr.seen y) a.cs = 0 := by
  have h1 := what_alone h.own
  obtain ⟨h2, h3, h4, _, _⟩ := alone_kids h1 hk
  obtain ⟨x, y, hks⟩ : ∃ x y, a.ks = [x, y] := by
    match hkk : a.ks with
    | [] => rw [hkk] at h2; simp at h2
    | [_] => rw [hkk] at h2; simp at h2
    | [x, y] => exact ⟨x, y, rfl⟩
    | _ :: _ :: _ :: _ => rw [hkk] at h2; simp at h2
  refine ⟨x, y, hks, fun e => h3 (by rw [e]; rfl), .inr h4, ?_⟩
  have h5 := h.own
  unfold what at h5
  rw [if_neg (not_not_intro h1), if_neg hk] at h5
  have e0 : ksn a 0 = Tr.seen x := by unfold ksn; rw [hks]; rfl
  have e1 : ksn a 1 = Tr.seen y := by unfold ksn; rw [hks]; rfl
  rwa [e0, e1] at h5
mutual
theorem seen_lv : ∀ (a : Tr) (j : Nat), (Tr.seen a).testBit j = true → (j : Int) ∈ lv (Tr.all a)
  | .mk k t h cs ks => by
    intro j hj
    have hin : ∀ i : Int, i ∈ lv (Tr.alls ks) → i ∈ lv (Tr.all (.mk k t h cs ks)) := fun i hi => by
      rw [Tr.all_at, lv_app]; exact List.mem_append_left _ hi
    rw [Tr.seen] at hj
    split at hj
    · rename_i hk
      rw [St.testBit_ofN] at hj
      simp at hj
      rw [Tr.all_at, lv_app, lv_one, if_pos (by exact hk)]
      exact List.mem_append_right _ (by rw [hj.2]; simp [Tr.t])
    · split at hj
      · exact hin _ (seen1_lv ks j hj)
      · exact hin _ (seens_lv ks j hj)
theorem seen1_lv : ∀ (l : List Tr) (j : Nat), (Tr.seen1 l).testBit j = true → (j : Int) ∈ lv (Tr.alls l)
  | [] => by intro j hj; rw [Tr.seen1] at hj; simp at hj
  | a :: r => by intro j hj; rw [Tr.seen1] at hj; rw [Tr.alls, lv_app]; exact List.mem_append_left _ (seen_lv a j hj)
theorem seens_lv : ∀ (l : List Tr) (j : Nat), (Tr.seens l).testBit j = true → (j : Int) ∈ lv (Tr.alls l)
  | [] => by intro j hj; rw [Tr.seens] at hj; simp at hj
  | a :: r => by
    intro j hj
    rw [Tr.seens, Nat.testBit_or, Bool.or_eq_true] at hj
    rw [Tr.alls, lv_app]
    rcases hj with hj | hj
    · exact List.mem_append_left _ (seen_lv a j hj)
    · exact List.mem_append_right _ (seens_lv r j hj)
end
theorem bit_ne {x j : Nat} (h : x.testBit j = true) : x ≠ 0 := fun e => by rw [e] at h; simp at h
theorem seen_some {cols : List Int} (hn : cols.length ≤ 64) (a : Tr) : Good cols a → ∃ j, (Tr.seen a).testBit j = true := by
  refine Tr.ind (P := fun a => Good cols a → ∃ j, (Tr.seen a).testBit j = true) (fun a ih => ?_) a
  intro hg
  by_cases hk : a.k = 0
  · obtain ⟨_, _, h1, h2⟩ := hg.leaf hk
    refine ⟨a.t.toNat, ?_⟩
    rw [Tr.seen_at, if_pos hk, St.testBit_ofN]
    simp
    omega
  · obtain ⟨x, y, hks, _, _, _⟩ := hg.op hk
    obtain ⟨j, hj⟩ := ih x (by rw [hks]; simp) (hg.kid (by rw [hks]; simp))
    refine ⟨j, ?_⟩
    rw [Tr.seen_at, if_neg hk, hks]
    split
    · rw [Tr.seen1]; exact hj
    · rw [Tr.seens, Nat.testBit_or, hj]; rfl
theorem all_two {a x y : Tr} (h : a.ks = [x, y]) : Tr.all a = Tr.all x ++ (Tr.all y ++ [a]) := by
  rw [Tr.all_at, h, Tr.alls, Tr.alls, Tr.alls]; simp
theorem kids_apart {a x y : Tr} (h : a.ks = [x, y]) (hn : (lv (Tr.all a)).Nodup) : Tr.seen x &&& Tr.seen y = 0 := by
  refine Nat.eq_of_testBit_eq fun j => ?_
  rw [Nat.testBit_and, Nat.zero_testBit]
  by_cases hx : (Tr.seen x).testBit j = true
  · by_cases hy : (Tr.seen y).testBit j = true
    · exfalso
      rw [all_two h, lv_app, lv_app] at hn
      exact (List.nodup_append.1 hn).2.2 _ (seen_lv x j hx) _ (List.mem_append_left _ (seen_lv y j hy)) rfl
    · simp [hy]
  · simp [hx]
theorem all_count {cols : List Int} (a : Tr) : Good cols a → (Tr.all a).length + 1 = 2 * (lv (Tr.all a)).length := by
  refine Tr.ind (P := fun a => Good cols a → (Tr.all a).length + 1 = 2 * (lv (Tr.all a)).length) (fun a ih => ?_) a
  intro hg
  by_cases hk : a.k = 0
  · obtain ⟨h1, _, _, _⟩ := hg.leaf hk
    rw [Tr.all_at, h1, Tr.alls, List.nil_append, lv_one, if_pos hk]; rfl
  · obtain ⟨x, y, hks, _, _, _⟩ := hg.op hk
    have e1 := ih x (by rw [hks]; simp) (hg.kid (by rw [hks]; simp))
    have e2 := ih y (by rw [hks]; simp) (hg.kid (by rw [hks]; simp))
    rw [all_two hks, lv_app, lv_app, lv_one, if_neg hk]
    simp only [List.length_append, List.length_singleton, List.length_nil]
    omega
mutual
theorem tables_cols : ∀ (p : Pd) (j : Nat), (Pr.tables p).testBit j = true → ∃ c ∈ Pr.cols p, c.1 = (j : Int)
  | .mk f ps => by
    intro j hj
    have key : ∀ x : Tm, (Te.tables x).testBit j = true → ∃ c ∈ Te.cols x, c.1 = (j : Int) := fun x hx => by
      unfold Te.tables at hx
      unfold Te.cols
      split at hx
      · rename_i hk
        rw [St.testBit_ofN] at hx
        simp at hx
        exact ⟨(x.t, x.c), by rw [if_pos hk]; simp, hx.2.symm⟩
      · simp at hx
    rw [Pr.tables, Nat.testBit_or, Nat.testBit_or, Bool.or_eq_true, Bool.or_eq_true] at hj
    rw [Pr.cols]
    rcases hj with (hj | hj) | hj
    · obtain ⟨c, h1, h2⟩ := key _ hj; exact ⟨c, by simp [h1], h2⟩
    · obtain ⟨c, h1, h2⟩ := key _ hj; exact ⟨c, by simp [h1], h2⟩
    · obtain ⟨c, h1, h2⟩ := tabless_cols ps j hj; exact ⟨c, by simp [h1], h2⟩
theorem tabless_cols : ∀ (l : List Pd) (j : Nat), (Pr.tabless l).testBit j = true → ∃ c ∈ Pr.colss l, c.1 = (j : Int)
  | [] => by intro j hj; rw [Pr.tabless] at hj; simp at hj
  | p :: r => by
    intro j hj
    rw [Pr.tabless, Nat.testBit_or, Bool.or_eq_true] at hj
    rw [Pr.colss]
    rcases hj with hj | hj
    · obtain ⟨c, h1, h2⟩ := tables_cols p j hj; exact ⟨c, by simp [h1], h2⟩
    · obtain ⟨c, h1, h2⟩ := tabless_cols r j hj; exact ⟨c, by simp [h1], h2⟩
end
/-- what a conjunct that may be names -/
theorem conj_good {cols : List Int} {l r : Nat} {p : Pd} (h : conj cols l r p = 0) : Pr.tables p ||| (l ||| r) = l ||| r ∧ Pr.tables p &&& l ≠ 0 ∧ Pr.tables p &&& r ≠ 0 := by
  unfold conj at h
  split at h
  · simp at h
  · split at h
    · simp at h
    · rename_i h2
      split at h
      · simp at h
      · rename_i h3
        refine ⟨?_, fun e => h3 (.inl e), fun e => h3 (.inr e)⟩
        refine Nat.eq_of_testBit_eq fun j => ?_
        rw [Nat.testBit_or]
        by_cases ht : (Pr.tables p).testBit j = true
        · obtain ⟨c, hc, hcj⟩ := tables_cols p j ht
          have ho : out cols l r c = false := by
            rw [Bool.eq_false_iff]; intro hh; exact h2 (List.any_eq_true.2 ⟨c, hc, hh⟩)
          unfold out at ho
          rw [Bool.or_eq_false_iff, Bool.and_eq_false_iff] at ho
          have hb : (l ||| r).testBit j = true := by
            rw [Nat.testBit_or, Bool.or_eq_true]
            rcases ho.1 with hh | hh
            · left
              simp only [Bool.not_eq_false'] at hh
              unfold St.hasB at hh
              simp only [Bool.and_eq_true] at hh
              rw [hcj, Int.toNat_natCast] at hh
              exact hh.2.2
            · right
              simp only [Bool.not_eq_false'] at hh
              unfold St.hasB at hh
              simp only [Bool.and_eq_true] at hh
              rw [hcj, Int.toNat_natCast] at hh
              exact hh.2.2
          rw [hb, Bool.or_true]
        · simp [ht]
/-- how many tables there are -/
theorem pop_lv {l : List Int} (hn : l.Nodup) (hb : ∀ i ∈ l, 0 ≤ i ∧ i < 64) : St.pop 64 (St.ofN l) = l.length := by
  rw [← St.memb_length]
  have h1 : (St.memb (St.ofN l)).Nodup := by
    unfold St.memb St.membTo
    exact List.Pairwise.filter _ List.nodup_range
  have h2 : (l.map Int.toNat).Nodup := by
    rw [List.Nodup, List.pairwise_map]
    exact hn.imp_of_mem fun {x y} hx hy hxy e => hxy (by have := hb x hx; have := hb y hy; omega)
  have hp : (St.memb (St.ofN l)).Perm (l.map Int.toNat) := (List.perm_ext_iff_of_nodup h1 h2).2 fun j => by
    rw [St.mem_memb, St.testBit_ofN, List.mem_map]
    constructor
    · rintro ⟨h, hj⟩
      simp at hj
      exact ⟨(j : Int), hj.2, by simp⟩
    · rintro ⟨i, hi, rfl⟩
      have := hb i hi
      refine ⟨by omega, ?_⟩
      simp
      refine ⟨by omega, ?_⟩
      rw [show max i 0 = i by omega]
      exact hi
  rw [hp.length_eq, List.length_map]
theorem tables_lv (a : Tr) : Tr.tables a = St.ofN (lv (Tr.all a)) := rfl
theorem lv_fine {cols : List Int} {a : Tr} (hn : cols.length ≤ 64) (hg : Good cols a) : ∀ i ∈ lv (Tr.all a), 0 ≤ i ∧ i < 64 := by
  intro i hi
  unfold lv at hi
  obtain ⟨x, hx, rfl⟩ := List.mem_map.1 hi
  rw [List.mem_filter] at hx
  obtain ⟨h1, h2⟩ := alone_fine (what_alone (hg x hx.1)) (by simpa using hx.2)
  omega
theorem tour_lv {cols : List Int} {a : Tr} (h : tour cols a = 0) : (lv (Tr.all a)).Nodup := by
  obtain ⟨h1, h2⟩ := tour_zero.1 h
  rw [run_lv h1] at h2
  simpa using h2
end Ck
end Go.Proofs.Ytdcgfhenlddmeaa
