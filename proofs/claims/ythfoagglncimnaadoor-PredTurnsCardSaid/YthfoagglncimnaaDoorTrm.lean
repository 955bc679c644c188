/-
  THE PLAIN MATHEMATICS OF LAYER 5: terms; rows; what a term is of rows.
-/
import Derived.Test.YthfoagglncimnaaDoorVal
import Derived.Test.YthfoagglncimnaaDoorSet
namespace Go.Proofs.YthfoagglncimnaaDoor

/-- a value: is it null? its number -/
abbrev Vl := Bool × Int
/-- a term: its kind, table, column; and its value -/
structure Tm where
  k : Int
  t : Int
  c : Int
  z : Bool
  n : Int

namespace Te
/-- is i one of the first n places? -/
def below (i n : Int) : Bool := decide (0 ≤ i ∧ i < n)
theorem below_yes {i n : Int} (h0 : 0 ≤ i) (h1 : i < n) : below i n = true := decide_eq_true ⟨h0, h1⟩
theorem below_no {i n : Int} (h : ¬ (0 ≤ i ∧ i < n)) : below i n = false := decide_eq_false h
def right (x : Tm) : Bool :=
  if x.k = 1 then below x.t 64 && below x.c 4 && !x.z && x.n == 0
  else x.k == 2 && x.t == 0 && x.c == 0 && Va.right x.z x.n
def same (x y : Tm) : Bool := x.k == y.k && x.t == y.t && x.c == y.c && x.z == y.z && x.n == y.n
/-- the set of the table that a term names -/
def tables (x : Tm) : Nat := if x.k = 1 then St.ofN [x.t] else 0
/-- what stands at the place i -/
def at_ {α : Type} (l : List α) (i : Int) : Option α := if 0 ≤ i then l[i.toNat]? else none
theorem at_nat {α : Type} (l : List α) (i : Nat) : at_ l (i : Int) = l[i]? := by unfold at_; rw [if_pos (by omega)]; rfl
theorem at_neg {α : Type} (l : List α) {i : Int} (h : i < 0) : at_ l i = none := by unfold at_; rw [if_neg (by omega)]
theorem at_out {α : Type} (l : List α) {i : Int} (h : ¬ (0 ≤ i ∧ i < l.length)) : at_ l i = none := by
  unfold at_
  split
  · exact List.getElem?_eq_none (by omega)
  · rfl
theorem at_in {α : Type} (l : List α) {i : Int} (h0 : 0 ≤ i) (h1 : i < l.length) : ∃ (j : Nat) (x : α), i = j ∧ j < l.length ∧ l[j]? = some x ∧ at_ l i = some x := by
  obtain ⟨j, rfl⟩ := Int.eq_ofNat_of_zero_le h0
  have hj : j < l.length := by omega
  exact ⟨j, l[j], rfl, hj, List.getElem?_eq_getElem hj, by rw [at_nat, List.getElem?_eq_getElem hj]⟩
def nul : Vl := (true, 0)
/-- the value of the column c of the table t -/
def col (t c : Int) (rs : List (List Vl)) : Vl := ((at_ rs t).bind fun r => at_ r c).getD nul
/-- what a term is of rows -/
def val (x : Tm) (rs : List (List Vl)) : Vl := if x.k = 1 then col x.t x.c rs else (x.z, x.n)
theorem val_col {x : Tm} {rs : List (List Vl)} (h : x.k = 1) : val x rs = col x.t x.c rs := if_pos h
theorem val_other {x : Tm} {rs : List (List Vl)} (h : x.k ≠ 1) : val x rs = (x.z, x.n) := if_neg h
theorem col_none {t c : Int} {rs : List (List Vl)} (h : at_ rs t = none) : col t c rs = nul := by unfold col; rw [h]; rfl
theorem col_some {t c : Int} {rs : List (List Vl)} {r : List Vl} (h : at_ rs t = some r) : col t c rs = (at_ r c).getD nul := by unfold col; rw [h]; rfl
/-- rows in which the one of the table i has gone -/
theorem at_set {α : Type} (l : List α) (i : Nat) (y : α) (t : Int) (h : t ≠ i) : at_ (l.set i y) t = at_ l t := by
  unfold at_
  split
  · rw [List.getElem?_set_ne (by omega)]
  · rfl
theorem col_set {rs : List (List Vl)} {i : Nat} {t c : Int} (h : t ≠ i) : col t c (rs.set i []) = col t c rs := by
  unfold col
  rw [at_set _ _ _ _ h]
theorem col_gone {rs : List (List Vl)} {i : Nat} {c : Int} (h : i < rs.length) : col i c (rs.set i []) = nul := by
  rw [col_some (r := []) (by rw [at_nat, List.getElem?_set_self h])]
  unfold at_
  split <;> rfl
theorem col_out {rs : List (List Vl)} {t c : Int} (h : ¬ (0 ≤ t ∧ t < rs.length)) : col t c rs = nul := col_none (at_out _ h)
theorem val_set_col {x : Tm} {rs : List (List Vl)} {i : Nat} (h : x.t ≠ i) : val x (rs.set i []) = val x rs := by
  unfold val
  rw [col_set h]
theorem val_set_other {x : Tm} {rs : List (List Vl)} {i : Nat} (h : x.k ≠ 1) : val x (rs.set i []) = val x rs := by rw [val_other h, val_other h]
/-- ahead of the place k of the row i there is no such column -/
def Seen (t c : Int) (rs : List (List Vl)) (a b : Nat) : Prop :=
  ∀ (i k : Nat) (r : List Vl) (x : Vl), rs[i]? = some r → r[k]? = some x → i < a ∨ (i = a ∧ k < b) → ¬ (t = i ∧ c = k)
theorem seen_start (t c : Int) (rs : List (List Vl)) : Seen t c rs 0 0 := fun i k r x _ _ h => by omega
theorem seen_step {t c : Int} {rs : List (List Vl)} {a b : Nat} (h : Seen t c rs a b) (hn : ¬ (t = a ∧ c = b)) : Seen t c rs a (b + 1) := by
  intro i k r x hi hk hlt
  by_cases e : i = a ∧ k = b
  · obtain ⟨rfl, rfl⟩ := e; exact hn
  · exact h i k r x hi hk (by omega)
theorem seen_row {t c : Int} {rs : List (List Vl)} {a b : Nat} {r : List Vl} (h : Seen t c rs a b) (hr : rs[a]? = some r) (hb : r.length ≤ b) : Seen t c rs (a + 1) 0 := by
  intro i k r' x hi hk hlt
  by_cases e : i = a
  · subst e
    rw [hr] at hi
    cases hi
    have hl : k < r.length := by
      by_cases hl : k < r.length
      · exact hl
      · rw [List.getElem?_eq_none (by omega)] at hk; cases hk
    exact h i k r x hr hk (by omega)
  · exact h i k r' x hi hk (by omega)
theorem seen_end {t c : Int} {rs : List (List Vl)} {a : Nat} (h : Seen t c rs a 0) (ha : rs.length ≤ a) : col t c rs = nul := by
  by_cases ht : 0 ≤ t ∧ t < rs.length
  · obtain ⟨i, r, rfl, hi, hr, he⟩ := at_in rs ht.1 ht.2
    rw [col_some he]
    by_cases hc : 0 ≤ c ∧ c < r.length
    · obtain ⟨k, x, rfl, hk, hx, _⟩ := at_in r hc.1 hc.2
      exact absurd ⟨rfl, rfl⟩ (h i k r x hr hx (by omega))
    · rw [at_out r hc]; rfl
  · exact col_out ht
theorem seen_found {rs : List (List Vl)} {i k : Nat} {r : List Vl} {x : Vl} (hr : rs[i]? = some r) (hx : r[k]? = some x) : col i k rs = x := by
  rw [col_some (by rw [at_nat]; exact hr), at_nat, hx]; rfl
end Te
end Go.Proofs.YthfoagglncimnaaDoor
