/-
  WHETHER QUERIES AND DATA MAY BE: plain mathematics.
-/
import Derived.Test.YtdcgfhenlddmeaaTreM
namespace Go.Proofs.Ytdcgfhenlddmeaa
namespace Ck
/-- is a column that is named out of scope, where l and r are seen of the kids -/
def out (cols : List Int) (l r : Nat) (c : Int × Int) : Bool := (!St.hasB l c.1 && !St.hasB r c.1) || decide (cols.getD c.1.toNat 0 ≤ c.2)
/-- what is wrong with a conjunct -/
def conj (cols : List Int) (l r : Nat) (p : Pd) : Int :=
  if Pr.rightAt p 1 = false then 9
  else if (Pr.cols p).any (out cols l r) = true then 10
  else if Pr.tables p &&& l = 0 ∨ Pr.tables p &&& r = 0 then 11 else 0
def conjs (cols : List Int) (l r : Nat) : List Pd → Int
  | [] => 0
  | p :: t => if conj cols l r p ≠ 0 then conj cols l r p else conjs cols l r t
/-- what is wrong with a tree alone, of which and ahead of which there are c conjuncts -/
def alone (n : Nat) (t : Tr) (c : Nat) : Int :=
  if t.k < 0 ∨ 4 < t.k ∨ (t.k = 0 ∧ t.h = true) then 4
  else if t.ks.length ≠ (if t.k = 0 then 0 else 2) then 7
  else if (t.k = 0 ∧ t.cs.length ≠ 0) ∨ (t.k ≠ 0 ∧ t.cs.length = 0) ∨ 64 < c then 8
  else if t.t < 0 ∨ (if t.k = 0 then (n : Int) else 1) ≤ t.t then 5 else 0
/-- what is seen of a kid -/
def ksn (t : Tr) (i : Nat) : Nat := match t.ks[i]? with | some a => Tr.seen a | none => 0
/-- what is wrong with a tree, but for a table that comes twice -/
def what (cols : List Int) (t : Tr) (c : Nat) : Int :=
  if alone cols.length t (c + t.cs.length) ≠ 0 then alone cols.length t (c + t.cs.length)
  else if t.k = 0 then 0 else conjs cols (ksn t 0) (ksn t 1) t.cs
/-- the tables that came -/
def comes (t : Tr) (came : List Int) : List Int := if t.k = 0 then came ++ [t.t] else came
/-- what comes of these trees: the first error, but for a table that comes twice; the tables that came, with that tree's -/
def run (cols : List Int) : List Tr → List Int → Nat → Int × List Int
  | [], came, _ => (0, came)
  | t :: r, came, c => if what cols t c ≠ 0 then (what cols t c, came) else run cols r (comes t came) (c + t.cs.length)
/-- how many conjuncts there are -/
def many (l : List Tr) : Nat := (l.map fun t => t.cs.length).sum
def tour (cols : List Int) (root : Tr) : Int := if (run cols (Tr.all root) [] 0).2.Nodup then (run cols (Tr.all root) [] 0).1 else 6
/-- the first error of a query -/
def query (cols : List Int) (root : Tr) : Int :=
  if 64 < cols.length then 2 else if cols.any (fun n => decide (n < 1) || decide (4 < n)) = true then 12 else tour cols root
/-- as the document goes -/
def doc (cols : List Int) : List Tr → List Int → Nat → Int
  | [], _, _ => 0
  | t :: r, came, c => if what cols t c ≠ 0 then what cols t c else if t.k = 0 ∧ t.t ∈ came then 6 else doc cols r (comes t came) (c + t.cs.length)

theorem alone_le {n c : Nat} {t : Tr} (h : alone n t c = 0) : c ≤ 64 := by
  unfold alone at h
  repeat' split at h
  all_goals first | omega | simp at h
theorem what_le {cols : List Int} {c : Nat} {t : Tr} (h : what cols t c = 0) : c + t.cs.length ≤ 64 := by
  unfold what at h
  split at h
  · rename_i hh; exact absurd h hh
  · rename_i hh; exact alone_le (Decidable.not_not.1 hh)
theorem what_alone {cols : List Int} {c : Nat} {t : Tr} (h : what cols t c = 0) : alone cols.length t (c + t.cs.length) = 0 := by
  unfold what at h
  split at h
  · rename_i hh; exact absurd h hh
  · rename_i hh; exact Decidable.not_not.1 hh
theorem run_prefix (cols : List Int) (l : List Tr) : ∀ came c, ∃ z, (run cols l came c).2 = came ++ z := by
  induction l with
  | nil => intro came c; exact ⟨[], by simp [run]⟩
  | cons t r ih =>
    intro came c
    rw [run]
    split
    · exact ⟨[], by simp⟩
    · obtain ⟨z, hz⟩ := ih (comes t came) (c + t.cs.length)
      unfold comes at hz ⊢
      split at hz
      · rename_i hk
        rw [if_pos hk, hz]
        exact ⟨[t.t] ++ z, by rw [List.append_assoc]⟩
      · rename_i hk
        rw [if_neg hk]
        exact ⟨z, hz⟩
theorem doc_run (cols : List Int) (l : List Tr) : ∀ came c, came.Nodup → doc cols l came c = if (run cols l came c).2.Nodup then (run cols l came c).1 else 6 := by
  induction l with
  | nil => intro came c h; rw [doc, run, if_pos h]
  | cons t r ih =>
    intro came c h
    rw [doc, run]
    by_cases hw : what cols t c = 0
    · rw [if_neg (not_not_intro hw), if_neg (not_not_intro hw)]
      by_cases hk : t.k = 0
      · by_cases hm : t.t ∈ came
        · rw [if_pos ⟨hk, hm⟩, if_neg]
          obtain ⟨z, hz⟩ := run_prefix cols r (comes t came) (c + t.cs.length)
          rw [hz]
          unfold comes
          rw [if_pos hk]
          intro hn
          have h2 := (List.nodup_append.1 hn).1
          exact (List.nodup_append.1 h2).2.2 _ hm _ List.mem_cons_self rfl
        · rw [if_neg (fun e => hm e.2)]
          refine ih _ _ ?_
          unfold comes
          rw [if_pos hk, List.nodup_append]
          exact ⟨h, by simp, fun a ha b hb e => hm (by rw [List.mem_singleton.1 hb] at e; exact e ▸ ha)⟩
      · rw [if_neg (fun e => hk e.1)]
        refine ih _ _ ?_
        unfold comes
        rw [if_neg hk]; exact h
    · rw [if_pos hw, if_pos hw, if_pos h]
theorem doc_tour (cols : List Int) (a : Tr) : doc cols (Tr.all a) [] 0 = tour cols a := doc_run _ _ _ _ List.nodup_nil
/-- the walk by rounds -/
theorem run_snoc {cols : List Int} {l : List Tr} {t : Tr} : ∀ {came : List Int} {c : Nat}, (run cols l came c).1 = 0 →
    run cols (l ++ [t]) came c = if what cols t (c + many l) ≠ 0 then (what cols t (c + many l), (run cols l came c).2) else (0, comes t (run cols l came c).2) := by
  induction l with
  | nil => intro came c _; rw [List.nil_append, run]; simp [run, many]
  | cons x r ih =>
    intro came c h
    rw [List.cons_append, run]
    rw [run] at h ⊢
    split
    · rename_i hw; rw [if_pos hw] at h; exact absurd h hw
    · rename_i hw
      rw [if_neg hw] at h
      rw [ih h]
      simp only [many, List.map_cons, List.sum_cons, Nat.add_assoc]
theorem run_stop {cols : List Int} {l m : List Tr} : ∀ {came : List Int} {c : Nat}, (run cols l came c).1 ≠ 0 → run cols (l ++ m) came c = run cols l came c := by
  induction l with
  | nil => intro came c h; exact absurd rfl h
  | cons x r ih =>
    intro came c h
    rw [List.cons_append, run]
    rw [run] at h ⊢
    split
    · rfl
    · rename_i hw
      rw [if_neg hw] at h
      exact ih h
theorem many_snoc (l : List Tr) (t : Tr) : many (l ++ [t]) = many l + t.cs.length := by simp [many]
/-- of trees without an error each is right alone -/
theorem run_each {cols : List Int} {l : List Tr} : ∀ {came : List Int} {c : Nat}, (run cols l came c).1 = 0 → ∀ t ∈ l, ∃ c', c ≤ c' ∧ what cols t c' = 0 := by
  induction l with
  | nil => intro _ _ _ t h; simp at h
  | cons x r ih =>
    intro came c h t ht
    rw [run] at h
    split at h
    · rename_i hw; exact absurd h hw
    · rename_i hw
      rcases List.mem_cons.1 ht with rfl | ht
      · exact ⟨c, Nat.le_refl _, Decidable.not_not.1 hw⟩
      · obtain ⟨c', h1, h2⟩ := ih h t ht
        exact ⟨c', by omega, h2⟩
theorem run_many {cols : List Int} {l : List Tr} {came : List Int} {c : Nat} (h : (run cols l came c).1 = 0) (hc : c ≤ 64) : c + many l ≤ 64 := by
  induction l generalizing came c with
  | nil => simpa [many] using hc
  | cons x r ih =>
    rw [run] at h
    split at h
    · rename_i hw; exact absurd h hw
    · rename_i hw
      have := ih h (what_le (Decidable.not_not.1 hw))
      simp only [many, List.map_cons, List.sum_cons] at this ⊢
      omega
/-- a leaf's table is one that there is -/
def Fine (n : Nat) (t : Tr) : Prop := t.k = 0 → 0 ≤ t.t ∧ t.t < n
theorem alone_fine {n c : Nat} {t : Tr} (h : alone n t c = 0) : Fine n t := by
  intro hk
  unfold alone at h
  simp only [if_pos hk] at h
  repeat' split at h
  all_goals first | omega | simp at h
theorem alone_kids {n c : Nat} {t : Tr} (h : alone n t c = 0) (hk : t.k ≠ 0) : t.ks.length = 2 ∧ t.cs.length ≠ 0 ∧ 1 ≤ t.k ∧ t.k ≤ 4 ∧ t.t = 0 := by
  unfold alone at h
  simp only [if_neg hk] at h
  repeat' split at h
  all_goals first | (refine ⟨?_, ?_, ?_, ?_, ?_⟩ <;> omega) | simp at h
theorem alone_leaf {n c : Nat} {t : Tr} (h : alone n t c = 0) (hk : t.k = 0) : t.ks = [] ∧ t.cs = [] := by
  unfold alone at h
  simp only [if_pos hk] at h
  repeat' split at h
  all_goals first | (refine ⟨List.length_eq_zero_iff.1 ?_, List.length_eq_zero_iff.1 ?_⟩ <;> omega) | simp at h
theorem run_fine {cols : List Int} {l : List Tr} {came : List Int} {c : Nat} (h : (run cols l came c).1 = 0) : ∀ t ∈ l, Fine cols.length t := fun t ht => by
  obtain ⟨c', _, h2⟩ := run_each h t ht
  exact alone_fine (what_alone h2)
mutual
theorem seen_fine (n : Nat) : ∀ a : Tr, (∀ x ∈ Tr.all a, Fine n x) → ∀ j, (Tr.seen a).testBit j = true → j < n
  | .mk k t h cs ks => by
    intro hf j hj
    have hall : ∀ x ∈ Tr.alls ks, Fine n x := fun x hx => hf x (by rw [Tr.all_at]; exact List.mem_append_left _ hx)
    rw [Tr.seen] at hj
    split at hj
    · rename_i hk
      have := hf (.mk k t h cs ks) (by rw [Tr.all_at]; simp) hk
      change 0 ≤ t ∧ t < n at this
      rw [St.testBit_ofN] at hj
      simp at hj
      omega
    · split at hj
      · exact seen1_fine n ks hall j hj
      · exact seens_fine n ks hall j hj
theorem seen1_fine (n : Nat) : ∀ l : List Tr, (∀ x ∈ Tr.alls l, Fine n x) → ∀ j, (Tr.seen1 l).testBit j = true → j < n
  | [] => by intro _ j hj; rw [Tr.seen1] at hj; simp at hj
  | a :: r => by intro hf j hj; rw [Tr.seen1] at hj; exact seen_fine n a (fun x hx => hf x (by rw [Tr.alls]; exact List.mem_append_left _ hx)) j hj
theorem seens_fine (n : Nat) : ∀ l : List Tr, (∀ x ∈ Tr.alls l, Fine n x) → ∀ j, (Tr.seens l).testBit j = true → j < n
  | [] => by intro _ j hj; rw [Tr.seens] at hj; simp at hj
  | a :: r => by
    intro hf j hj
    rw [Tr.seens, Nat.testBit_or, Bool.or_eq_true] at hj
    rcases hj with hj | hj
    · exact seen_fine n a (fun x hx => hf x (by rw [Tr.alls]; exact List.mem_append_left _ hx)) j hj
    · exact seens_fine n r (fun x hx => hf x (by rw [Tr.alls]; exact List.mem_append_right _ hx)) j hj
end
theorem split_prefix {α : Type} {p l m : List α} {x : α} (h : p ++ [x] <+: l ++ m) : p ++ [x] <+: l ∨ ∃ q, p = l ++ q ∧ q ++ [x] <+: m := by
  by_cases hl : (p ++ [x]).length ≤ l.length
  · exact .inl (List.prefix_of_prefix_length_le h (List.prefix_append l m) hl)
  · have h2 : l <+: p := List.prefix_of_prefix_length_le (List.prefix_append l m) ((List.prefix_append p [x]).trans h) (by simp at hl; omega)
    obtain ⟨q, rfl⟩ := h2
    rw [List.append_assoc, List.prefix_append_right_inj] at h
    exact .inr ⟨q, rfl, h⟩
theorem within_alls (l : List Tr) (hl : ∀ b ∈ l, ∀ (pre : List Tr) (x : Tr), pre ++ [x] <+: Tr.all b → ∀ y ∈ Tr.alls x.ks, y ∈ pre) :
    ∀ (pre : List Tr) (x : Tr), pre ++ [x] <+: Tr.alls l → ∀ y ∈ Tr.alls x.ks, y ∈ pre := by
  induction l with
  | nil => intro pre x h; rw [Tr.alls] at h; simp at h
  | cons b r ih =>
    intro pre x h y hy
    rw [Tr.alls] at h
    rcases split_prefix h with h | ⟨q, rfl, hq⟩
    · exact hl b List.mem_cons_self pre x h y hy
    · exact List.mem_append_right _ (ih (fun c hc => hl c (List.mem_cons_of_mem _ hc)) q x hq y hy)
/-- ahead of a tree of the tour all that is within it has come -/
theorem within (a : Tr) : ∀ (pre : List Tr) (x : Tr), pre ++ [x] <+: Tr.all a → ∀ y ∈ Tr.alls x.ks, y ∈ pre := by
  refine Tr.ind (P := fun a => ∀ (pre : List Tr) (x : Tr), pre ++ [x] <+: Tr.all a → ∀ y ∈ Tr.alls x.ks, y ∈ pre) (fun a ih => ?_) a
  intro pre x h y hy
  rw [Tr.all_at] at h
  rcases split_prefix h with h | ⟨q, rfl, hq⟩
  · exact within_alls a.ks ih pre x h y hy
  · obtain ⟨z, hz⟩ := hq
    cases q with
    | nil =>
      simp at hz
      rw [hz.1] at hy
      exact List.mem_append_left _ hy
    | cons c s => simp at hz
theorem mem_alls {l : List Tr} {b : Tr} (hb : b ∈ l) : ∀ x ∈ Tr.all b, x ∈ Tr.alls l := by
  induction l with
  | nil => simp at hb
  | cons c r ih =>
    intro x hx
    rw [Tr.alls]
    rcases List.mem_cons.1 hb with rfl | hb
    · exact List.mem_append_left _ hx
    · exact List.mem_append_right _ (ih hb x hx)
/-- what is seen of the kids of a tree of the tour are tables that there are -/
theorem ksn_fine {n : Nat} {a : Tr} {pre : List Tr} {x : Tr} (h : pre ++ [x] <+: Tr.all a) (hf : ∀ y ∈ pre, Fine n y) (i : Nat) : ∀ j, (ksn x i).testBit j = true → j < n := by
  intro j hj
  unfold ksn at hj
  split at hj
  · rename_i b hb
    exact seen_fine n b (fun y hy => hf y (within a pre x h y (mem_alls (List.mem_of_getElem? hb) y hy))) j hj
  · simp at hj
/-- a conjunct's column that is not out of scope by its table is of a table that there is -/
theorem has_fine {n l r : Nat} {i : Int} (hl : ∀ j, l.testBit j = true → j < n) (hr : ∀ j, r.testBit j = true → j < n) (h : St.hasB l i = true ∨ St.hasB r i = true) : 0 ≤ i ∧ i.toNat < n := by
  unfold St.hasB at h
  simp only [Bool.and_eq_true, decide_eq_true_eq] at h
  rcases h with ⟨h1, h2, h3⟩ | ⟨h1, h2, h3⟩
  · exact ⟨h1, hl _ h3⟩
  · exact ⟨h1, hr _ h3⟩
theorem has_or (l r : Nat) (i : Int) : St.hasB (l ||| r) i = (St.hasB l i || St.hasB r i) := by
  unfold St.hasB
  rw [Nat.testBit_or]
  cases decide (0 ≤ i) <;> cases decide (i ≤ 63) <;> simp
/-- do these rows conform to a table of so many columns -/
def fits (rows : List (List Vl)) (n : Int) : Bool := decide (rows.length ≤ 1000) && rows.all fun r => decide ((r.length : Int) = n) && r.all fun v => Va.right v.1 v.2
/-- do these lists of rows conform -/
def fitAll (cols : List Int) (d : List (List (List Vl))) : Bool := (d.zip cols).all fun x => fits x.1 x.2
/-- the error of data -/
def data (cols : List Int) (root : Tr) (d : List (List (List Vl))) : Int :=
  if query cols root ≠ 0 then query cols root else if d.length ≠ cols.length then 13 else if fitAll cols d = true then 0 else 13
end Ck
end Go.Proofs.Ytdcgfhenlddmeaa
