/-
  THE PLAIN MATHEMATICS OF LAYER 6: predicates; what they name; what they are of rows.
-/
import Derived.Test.YthfoagglncimnaaDoorTrm
import Derived.Test.YthfoagglncimnaaDoorLog
import Derived.Test.YthfoagglncimnaaDoorSet
namespace Go.Proofs.YthfoagglncimnaaDoor

/-- a predicate's own fields -/
structure Pf where
  k : Int
  u : Int
  o : Int
  a : Tm
  b : Tm
/-- a predicate -/
inductive Pd where
  | mk (f : Pf) (ps : List Pd)
namespace Pd
def f : Pd → Pf | .mk f _ => f
def ps : Pd → List Pd | .mk _ ps => ps
end Pd
def Te.zero (x : Tm) : Bool := Te.same x ⟨0, 0, 0, false, 0⟩
def Te.cols (x : Tm) : List (Int × Int) := if x.k = 1 then [(x.t, x.c)] else []
namespace Pr
/-- what a predicate is, of what its parts are -/
def made (f : Pf) (rs : List (List Vl)) (l : List Int) : Int :=
  if f.k = 1 then Lo.andI [f.u]
  else if f.k = 2 then Va.comp f.o (Te.val f.a rs).1 (Te.val f.a rs).2 (Te.val f.b rs).1 (Te.val f.b rs).2
  else if f.k = 3 then (if (Te.val f.a rs).1 then 2 else 0)
  else if f.k = 4 then Lo.andI l
  else if f.k = 5 then Lo.orI l
  else if f.k = 6 then (match l with | [] => 1 | x :: _ => Lo.notI x)
  else 1
mutual
def of (rs : List (List Vl)) : Pd → Int
  | .mk f ps => made f rs (ofs rs ps)
def ofs (rs : List (List Vl)) : List Pd → List Int
  | [] => []
  | p :: r => of rs p :: ofs rs r
end
section
variable {f : Pf} {rs : List (List Vl)} {l : List Int}
theorem made_1 (h : f.k = 1) : made f rs l = Lo.andI [f.u] := if_pos h
theorem made_2 (h : f.k = 2) : made f rs l = Va.comp f.o (Te.val f.a rs).1 (Te.val f.a rs).2 (Te.val f.b rs).1 (Te.val f.b rs).2 := by unfold made; rw [if_neg (by omega), if_pos h]
theorem made_3 (h : f.k = 3) : made f rs l = (if (Te.val f.a rs).1 then 2 else 0) := by unfold made; rw [if_neg (by omega), if_neg (by omega), if_pos h]
theorem made_4 (h : f.k = 4) : made f rs l = Lo.andI l := by unfold made; rw [if_neg (by omega), if_neg (by omega), if_neg (by omega), if_pos h]
theorem made_5 (h : f.k = 5) : made f rs l = Lo.orI l := by unfold made; rw [if_neg (by omega), if_neg (by omega), if_neg (by omega), if_neg (by omega), if_pos h]
theorem made_6n (h : f.k = 6) : made f rs [] = 1 := by unfold made; rw [if_neg (by omega), if_neg (by omega), if_neg (by omega), if_neg (by omega), if_neg (by omega), if_pos h]
theorem made_6c {x : Int} (h : f.k = 6) : made f rs (x :: l) = Lo.notI x := by unfold made; rw [if_neg (by omega), if_neg (by omega), if_neg (by omega), if_neg (by omega), if_neg (by omega), if_pos h]
theorem made_no (h1 : f.k ≠ 1) (h2 : f.k ≠ 2) (h3 : f.k ≠ 3) (h4 : f.k ≠ 4) (h5 : f.k ≠ 5) (h6 : f.k ≠ 6) : made f rs l = 1 := by unfold made; rw [if_neg h1, if_neg h2, if_neg h3, if_neg h4, if_neg h5, if_neg h6]
end
theorem comp_cases (o : Int) (b : Bool) (n : Int) (c : Bool) (m : Int) : Va.comp o b n c m = 0 ∨ Va.comp o b n c m = 1 ∨ Va.comp o b n c m = 2 := by
  have t : ∀ x : Bool, Va.truth x = 0 ∨ Va.truth x = 1 ∨ Va.truth x = 2 := by decide
  unfold Va.comp
  repeat' split
  all_goals first | exact t _ | exact .inr (.inl rfl)
theorem made_cases (f : Pf) (rs : List (List Vl)) (l : List Int) : made f rs l = 0 ∨ made f rs l = 1 ∨ made f rs l = 2 := by
  unfold made
  split
  · exact Lo.andI_cases _
  split
  · exact comp_cases _ _ _ _ _
  split
  · cases (Te.val f.a rs).1 <;> simp
  split
  · exact Lo.andI_cases _
  split
  · exact Lo.orI_cases _
  split
  · cases l with
    | nil => exact .inr (.inl rfl)
    | cons x r => exact Lo.notI_cases _
  · exact .inr (.inl rfl)
theorem ofs_map (rs : List (List Vl)) : ∀ l, ofs rs l = l.map (of rs)
  | [] => by rw [ofs]; rfl
  | p :: r => by rw [ofs, ofs_map rs r]; rfl
theorem of_eq (rs : List (List Vl)) (f : Pf) (ps : List Pd) : of rs (.mk f ps) = made f rs (ps.map (of rs)) := by rw [of, ofs_map]
theorem of_cases (rs : List (List Vl)) (p : Pd) : of rs p = 0 ∨ of rs p = 1 ∨ of rs p = 2 := by cases p; rw [of_eq]; exact made_cases _ _ _
theorem of_at (rs : List (List Vl)) (p : Pd) : of rs p = made p.f rs (p.ps.map (of rs)) := by cases p; exact of_eq rs _ _
/-- are a predicate's own fields the same -/
def fsame (f g : Pf) : Bool := f.k == g.k && f.u == g.u && f.o == g.o && Te.same f.a g.a && Te.same f.b g.b
mutual
def same : Pd → Pd → Bool
  | .mk f ps, .mk g qs => fsame f g && sames ps qs
def sames : List Pd → List Pd → Bool
  | [], [] => true
  | p :: ps, q :: qs => same p q && sames ps qs
  | _, _ => false
end
mutual
def tables : Pd → Nat
  | .mk f ps => (Te.tables f.a ||| Te.tables f.b) ||| tabless ps
def tabless : List Pd → Nat
  | [] => 0
  | p :: r => tables p ||| tabless r
end
mutual
def cols : Pd → List (Int × Int)
  | .mk f ps => (Te.cols f.a ++ Te.cols f.b) ++ colss ps
def colss : List Pd → List (Int × Int)
  | [] => []
  | p :: r => cols p ++ colss r
end
mutual
def size : Pd → Nat
  | .mk _ ps => 1 + sizes ps
def sizes : List Pd → Nat
  | [] => 0
  | p :: r => size p + sizes r
end
/-- may a predicate's own fields be (of n parts) -/
def head (f : Pf) (d : Nat) : Bool :=
  decide (d ≤ 4) && decide (1 ≤ f.k) && decide (f.k ≤ 6) && (f.k == 1 || f.u == 0) && (f.k == 2 || f.o == 0) && (f.k == 2 || Te.zero f.b) && (f.k == 2 || f.k == 3 || Te.zero f.a)
def tail (f : Pf) (n : Nat) : Bool :=
  if f.k = 1 then n == 0 && decide (0 ≤ f.u) && decide (f.u ≤ 2)
  else if f.k = 2 then n == 0 && decide (1 ≤ f.o) && decide (f.o ≤ 6) && Te.right f.a && Te.right f.b
  else if f.k = 3 then n == 0 && Te.right f.a
  else if f.k = 6 then n == 1
  else decide (n ≤ 4)
mutual
def rightAt : Pd → Nat → Bool
  | .mk f ps, d => head f d && rightAts ps (d + 1) && tail f ps.length
def rightAts : List Pd → Nat → Bool
  | [], _ => true
  | p :: r, d => rightAt p d && rightAts r d
end
end Pr
namespace Pr
theorem tabless_map (l : List Pd) : tabless l = (l.map tables).foldr (· ||| ·) 0 := by
  induction l with
  | nil => rw [tabless]; rfl
  | cons p r ih => rw [tabless, ih]; rfl
theorem tabless_snoc (l : List Pd) (p : Pd) : tabless (l ++ [p]) = tabless l ||| tables p := by
  induction l with
  | nil => simp [tabless]
  | cons q r ih => rw [List.cons_append, tabless, ih, tabless, Nat.or_assoc]
theorem colss_snoc (l : List Pd) (p : Pd) : colss (l ++ [p]) = colss l ++ cols p := by
  induction l with
  | nil => simp [colss]
  | cons q r ih => rw [List.cons_append, colss, ih, colss, List.append_assoc]
theorem sizes_snoc (l : List Pd) (p : Pd) : sizes (l ++ [p]) = sizes l + size p := by
  induction l with
  | nil => simp [sizes]
  | cons q r ih => rw [List.cons_append, sizes, ih, sizes, Nat.add_assoc]
theorem sizes_take (q : Nat) : ∀ l : List Pd, sizes (l.take q) ≤ sizes l := by
  induction q with
  | zero => intro l; rw [List.take_zero, sizes]; exact Nat.zero_le _
  | succ q ih =>
    intro l
    cases l with
    | nil => simp
    | cons p r => rw [List.take_succ_cons, sizes, sizes]; have := ih r; omega
theorem size_pos (p : Pd) : 1 ≤ size p := by cases p; rw [size]; omega
theorem sizes_length (l : List Pd) : l.length ≤ sizes l := by
  induction l with
  | nil => simp
  | cons p r ih => rw [sizes, List.length_cons]; have := size_pos p; omega
theorem sizes_at {l : List Pd} {j : Nat} {p : Pd} (h : l[j]? = some p) : size p ≤ sizes l := by
  induction l generalizing j with
  | nil => simp at h
  | cons q r ih =>
    rw [sizes]
    cases j with
    | zero => simp at h; subst h; omega
    | succ j => have := ih (j := j) (by simpa using h); omega
theorem sizes_down {l : List Pd} {j : Nat} {p : Pd} (h : l[j]? = some p) : sizes p.ps < sizes l := by
  have h1 := sizes_at h
  have h2 : size p = 1 + sizes p.ps := by cases p; rw [size]; rfl
  omega
theorem of_mk (rs : List (List Vl)) (p : Pd) : of rs (.mk p.f p.ps) = of rs p := by cases p; rfl
theorem ofs_take {rs : List (List Vl)} {l : List Pd} {q : Nat} {p : Pd} (h : l[q]? = some p) : (l.take (q + 1)).map (of rs) = (l.take q).map (of rs) ++ [of rs p] := by
  rw [List.take_add_one, h]; simp
theorem te_cols_len (x : Tm) : (Te.cols x).length ≤ 1 := by unfold Te.cols; split <;> simp
mutual
theorem cols_len : ∀ p : Pd, (cols p).length ≤ 2 * size p
  | .mk f ps => by
    rw [cols, size, List.length_append, List.length_append]
    have h1 := te_cols_len f.a
    have h2 := te_cols_len f.b
    have h3 := colss_len ps
    omega
theorem colss_len : ∀ l : List Pd, (colss l).length ≤ 2 * sizes l
  | [] => by rw [colss]; simp
  | p :: r => by
    rw [colss, sizes, List.length_append]
    have h1 := cols_len p
    have h2 := colss_len r
    omega
end
theorem cols_mk (p : Pd) : cols (.mk p.f p.ps) = cols p := by cases p; rfl
theorem colss_take {l : List Pd} {q : Nat} {p : Pd} (h : l[q]? = some p) : colss (l.take (q + 1)) = colss (l.take q) ++ cols p := by
  rw [List.take_add_one, h]; exact colss_snoc _ _
theorem tables_at (p : Pd) : tables p = (Te.tables p.f.a ||| Te.tables p.f.b) ||| tabless p.ps := by cases p; rw [tables]; rfl
theorem cols_at (p : Pd) : cols p = (Te.cols p.f.a ++ Te.cols p.f.b) ++ colss p.ps := by cases p; rw [cols]; rfl
theorem size_at (p : Pd) : size p = 1 + sizes p.ps := by cases p; rw [size]; rfl
theorem rightAt_at (p : Pd) (d : Nat) : rightAt p d = (head p.f d && rightAts p.ps (d + 1) && tail p.f p.ps.length) := by cases p; rw [rightAt]; rfl
theorem rightAts_iff (l : List Pd) (d : Nat) : rightAts l d = true ↔ ∀ p ∈ l, rightAt p d = true := by
  induction l with
  | nil => simp [rightAts]
  | cons p r ih => rw [rightAts, Bool.and_eq_true, ih]; simp
theorem same_at (p q : Pd) : same p q = (fsame p.f q.f && sames p.ps q.ps) := by cases p; cases q; rw [same]; rfl
theorem sames_length {l m : List Pd} (h : l.length ≠ m.length) : sames l m = false := by
  induction l generalizing m with
  | nil => cases m with
    | nil => simp at h
    | cons q qs => rw [sames]; all_goals simp
  | cons p ps ih => cases m with
    | nil => rw [sames]; all_goals simp
    | cons q qs => rw [sames, ih (by simpa using h), Bool.and_false]
theorem sames_iff {l m : List Pd} (h : l.length = m.length) : sames l m = true ↔ ∀ (j : Nat) (p q : Pd), l[j]? = some p → m[j]? = some q → same p q = true := by
  induction l generalizing m with
  | nil => cases m with
    | nil => simp [sames]
    | cons q qs => simp at h
  | cons p ps ih => cases m with
    | nil => simp at h
    | cons q qs =>
      rw [sames, Bool.and_eq_true, ih (by simpa using h)]
      constructor
      · rintro ⟨h1, h2⟩ j a b ha hb
        cases j with
        | zero => simp at ha hb; subst ha; subst hb; exact h1
        | succ j => exact h2 j a b (by simpa using ha) (by simpa using hb)
      · intro h
        exact ⟨h 0 p q rfl rfl, fun j a b ha hb => h (j + 1) a b (by simpa using ha) (by simpa using hb)⟩
end Pr
end Go.Proofs.YthfoagglncimnaaDoor
