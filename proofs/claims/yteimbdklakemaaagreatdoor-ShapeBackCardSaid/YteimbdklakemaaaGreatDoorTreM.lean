/-
  TREES, and what the document says of them. Plain mathematics.
-/
import Derived.Test.YteimbdklakemaaaGreatDoorGPlain
namespace Go.Proofs.YteimbdklakemaaaGreatDoor

/-- a tree: kind, table, hash, conjuncts, kids -/
inductive Tr where
  | mk (k t : Int) (h : Bool) (cs : List Pd) (ks : List Tr) : Tr
namespace Tr
def k : Tr → Int | .mk k _ _ _ _ => k
def t : Tr → Int | .mk _ t _ _ _ => t
def h : Tr → Bool | .mk _ _ h _ _ => h
def cs : Tr → List Pd | .mk _ _ _ cs _ => cs
def ks : Tr → List Tr | .mk _ _ _ _ ks => ks
theorem eta (a : Tr) : Tr.mk a.k a.t a.h a.cs a.ks = a := by cases a; rfl
mutual
/-- each tree within, kids ahead of what they stand in -/
def all : Tr → List Tr
  | .mk k t h cs ks => alls ks ++ [.mk k t h cs ks]
def alls : List Tr → List Tr
  | [] => []
  | a :: r => all a ++ alls r
end
mutual
/-- how many trees, and predicates in them -/
def size : Tr → Nat
  | .mk _ _ _ cs ks => 1 + Pr.sizes cs + sizes ks
def sizes : List Tr → Nat
  | [] => 0
  | a :: r => size a + sizes r
end
mutual
/-- the same tree -/
def same : Tr → Tr → Bool
  | .mk k t h cs ks, .mk k' t' h' cs' ks' => k == k' && t == t' && h == h' && Pr.sames cs cs' && sames ks ks'
def sames : List Tr → List Tr → Bool
  | [], [] => true
  | a :: r, b :: s => same a b && sames r s
  | _, _ => false
end
mutual
/-- the set of tables that is seen -/
def seen : Tr → Nat
  | .mk k t _ _ ks => if k = 0 then St.ofN [t] else if k = 3 ∨ k = 4 then seen1 ks else seens ks
def seen1 : List Tr → Nat
  | [] => 0
  | a :: _ => seen a
def seens : List Tr → Nat
  | [] => 0
  | a :: r => seen a ||| seens r
end
/-- the set of the tables of all leaves -/
def tables (a : Tr) : Nat := St.ofN (((all a).filter fun x => x.k == 0).map t)
theorem all_at (a : Tr) : all a = alls a.ks ++ [a] := by cases a; rw [all]; rfl
theorem size_at (a : Tr) : size a = 1 + Pr.sizes a.cs + sizes a.ks := by cases a; rw [size]; rfl
theorem seen_at (a : Tr) : seen a = if a.k = 0 then St.ofN [a.t] else if a.k = 3 ∨ a.k = 4 then seen1 a.ks else seens a.ks := by cases a; rw [seen]; rfl
theorem same_at (a b : Tr) : same a b = (a.k == b.k && a.t == b.t && a.h == b.h && Pr.sames a.cs b.cs && sames a.ks b.ks) := by cases a; cases b; rw [same]; rfl
theorem size_pos (a : Tr) : 1 ≤ size a := by rw [size_at]; omega
theorem sizes_snoc (l : List Tr) (a : Tr) : sizes (l ++ [a]) = sizes l + size a := by
  induction l with
  | nil => rw [List.nil_append, sizes, sizes, sizes]; omega
  | cons b r ih => rw [List.cons_append, sizes, sizes, ih]; omega
theorem alls_snoc (l : List Tr) (a : Tr) : alls (l ++ [a]) = alls l ++ all a := by
  induction l with
  | nil => rw [List.nil_append, alls, alls, alls, List.append_nil, List.nil_append]
  | cons b r ih => rw [List.cons_append, alls, alls, ih, List.append_assoc]
theorem seens_snoc (l : List Tr) (a : Tr) : seens (l ++ [a]) = seens l ||| seen a := by
  induction l with
  | nil => rw [List.nil_append, seens, seens, seens, Nat.or_zero, Nat.zero_or]
  | cons b r ih => rw [List.cons_append, seens, seens, ih, Nat.or_assoc]
theorem sizes_take (q : Nat) (l : List Tr) : sizes (l.take q) ≤ sizes l := by
  induction l generalizing q with
  | nil => simp
  | cons a r ih =>
    cases q with
    | zero => rw [List.take_zero, sizes]; omega
    | succ q => rw [List.take_succ_cons, sizes, sizes]; have := ih q; omega
theorem sizes_at {l : List Tr} {j : Nat} {a : Tr} (h : l[j]? = some a) : size a ≤ sizes l := by
  induction l generalizing j with
  | nil => simp at h
  | cons b r ih =>
    rw [sizes]
    cases j with
    | zero => simp at h; subst h; omega
    | succ j => have := ih (by simpa using h); omega
theorem sizes_length (l : List Tr) : l.length ≤ sizes l := by
  induction l with
  | nil => simp
  | cons a r ih => rw [sizes, List.length_cons]; have := size_pos a; omega
theorem sames_length {l m : List Tr} (h : l.length ≠ m.length) : sames l m = false := by
  induction l generalizing m with
  | nil => cases m with
    | nil => simp at h
    | cons b s => rw [sames]; all_goals simp
  | cons a r ih => cases m with
    | nil => rw [sames]; all_goals simp
    | cons b s => rw [sames, ih (by simpa using h), Bool.and_false]
theorem sames_iff {l m : List Tr} (h : l.length = m.length) : sames l m = true ↔ ∀ (j : Nat) (a b : Tr), l[j]? = some a → m[j]? = some b → same a b = true := by
  induction l generalizing m with
  | nil => cases m with
    | nil => simp [sames]
    | cons b s => simp at h
  | cons a r ih => cases m with
    | nil => simp at h
    | cons b s =>
      rw [sames, Bool.and_eq_true, ih (by simpa using h)]
      constructor
      · rintro ⟨h1, h2⟩ j x y hx hy
        cases j with
        | zero => simp at hx hy; subst hx; subst hy; exact h1
        | succ j => exact h2 j x y (by simpa using hx) (by simpa using hy)
      · intro g
        exact ⟨g 0 a b rfl rfl, fun j x y hx hy => g (j + 1) x y (by simpa using hx) (by simpa using hy)⟩
/-- induction by size -/
theorem ind {P : Tr → Prop} (h : ∀ a, (∀ b ∈ a.ks, P b) → P a) (a : Tr) : P a := by
  have key : ∀ n a, size a ≤ n → P a := by
    intro n
    induction n with
    | zero => intro a ha; have := size_pos a; omega
    | succ n ih =>
      intro a ha
      refine h a fun b hb => ih b ?_
      obtain ⟨j, hj, rfl⟩ := List.mem_iff_getElem.1 hb
      have h1 := sizes_at (List.getElem?_eq_getElem hj)
      rw [size_at] at ha
      omega
  exact key _ a (Nat.le_refl _)
theorem all_length_le (a : Tr) : (all a).length ≤ size a := by
  refine ind (P := fun a => (all a).length ≤ size a) (fun a ih => ?_) a
  rw [all_at, size_at, List.length_append, List.length_singleton]
  have key : ∀ l : List Tr, (∀ b ∈ l, (all b).length ≤ size b) → (alls l).length ≤ sizes l := by
    intro l
    induction l with
    | nil => intro _; rw [alls, sizes]; simp
    | cons b r ih2 =>
      intro hl
      rw [alls, sizes, List.length_append]
      have h1 := hl b List.mem_cons_self
      have h2 := ih2 fun c hc => hl c (List.mem_cons_of_mem _ hc)
      omega
  have := key a.ks ih
  omega
end Tr
end Go.Proofs.YteimbdklakemaaaGreatDoor
