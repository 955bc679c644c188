/-
  TUPLES, as plain mathematics: what two of them make, which ones match, what an operator makes of one, a tuple's row.
-/
import Derived.Test.YtghonbnmakggnaaDoorGPlain
namespace Go.Proofs.YtghonbnmakggnaaDoor
namespace Mt
/-- a table's row -/
def row (t : List (List Vl)) (i : Nat) : List Vl := (t[i]?).getD []
theorem row_at {t : List (List Vl)} {i : Nat} {r : List Vl} (h : t[i]? = some r) : row t i = r := by unfold row; rw [h]; rfl
theorem row_out {t : List (List Vl)} {i : Nat} (h : t.length ≤ i) : row t i = [] := by unfold row; rw [List.getElem?_eq_none h]; rfl
theorem row_mem {t : List (List Vl)} {i : Nat} (h : i < t.length) : t[i]? = some (row t i) := by unfold row; rw [List.getElem?_eq_getElem h]; rfl
/-- the row that Merge takes -/
def pick (a b : List (List Vl)) (i : Nat) : List Vl := if (row a i).length = 0 then row b i else row a i
def merge (a b : List (List Vl)) : List (List Vl) := (List.range (max a.length b.length)).map (pick a b)
theorem merge_length (a b : List (List Vl)) : (merge a b).length = max a.length b.length := by simp [merge]
theorem merge_at (a b : List (List Vl)) {i : Nat} (h : i < max a.length b.length) : (merge a b)[i]? = some (pick a b i) := by
  unfold merge
  rw [List.getElem?_map, List.getElem?_range h]
  rfl
theorem row_nil (i : Nat) : row [] i = [] := row_out (by simp)
theorem pick_nil (a : List (List Vl)) (i : Nat) : pick a [] i = row a i := by
  unfold pick
  split
  · rename_i h; rw [row_nil, List.eq_nil_of_length_eq_zero h]
  · rfl
theorem merge_nil (a : List (List Vl)) : merge a [] = a := by
  refine List.ext_getElem? fun i => ?_
  by_cases h : i < a.length
  · rw [merge_at a [] (by simpa using h), pick_nil, row_mem h]
  · rw [List.getElem?_eq_none (by rw [merge_length]; simp; omega), List.getElem?_eq_none (by omega)]
theorem pick_mem {a b : List (List Vl)} {n : Nat} (ha : ∀ r ∈ a, r.length ≤ n) (hb : ∀ r ∈ b, r.length ≤ n) (i : Nat) : (pick a b i).length ≤ n := by
  have h : ∀ t : List (List Vl), (∀ r ∈ t, r.length ≤ n) → (row t i).length ≤ n := fun t ht => by
    by_cases h : i < t.length
    · exact ht _ (List.mem_of_getElem? (row_mem h))
    · rw [row_out (by omega)]; simp
  unfold pick
  split
  · exact h b hb
  · exact h a ha
theorem merge_mem {a b : List (List Vl)} {n : Nat} (ha : ∀ r ∈ a, r.length ≤ n) (hb : ∀ r ∈ b, r.length ≤ n) : ∀ r ∈ merge a b, r.length ≤ n := by
  intro r hr
  obtain ⟨i, _, rfl⟩ := List.mem_map.1 hr
  exact pick_mem ha hb i
def same (a b : List (List Vl)) : Bool := decide (∀ i, i < max a.length b.length → row a i = row b i)
theorem same_refl (a : List (List Vl)) : same a a = true := decide_eq_true fun _ _ => rfl
def tup (x : List (List (List Vl))) (i : Nat) : List (List Vl) := (x[i]?).getD []
theorem tup_at {x : List (List (List Vl))} {i : Nat} {t : List (List Vl)} (h : x[i]? = some t) : tup x i = t := by unfold tup; rw [h]; rfl
def list (x y : List (List (List Vl))) : Bool := decide (x.length = y.length ∧ ∀ i, i < x.length → same (tup x i) (tup y i) = true)
theorem list_refl (x : List (List (List Vl))) : list x x = true := decide_eq_true ⟨rfl, fun _ _ => same_refl _⟩
/-- does a tuple match? -/
def fits (ps : List Pd) (l t : List (List Vl)) : Bool := decide (Lo.andI (ps.map (Pr.of (merge l t))) = 2)
def found (ps : List Pd) (l : List (List Vl)) (r : List (List (List Vl))) : List (List (List Vl)) := (r.filter (fits ps l)).map (merge l)
theorem found_nil (ps : List Pd) (l : List (List Vl)) : found ps l [] = [] := rfl
theorem found_take {ps : List Pd} {l : List (List Vl)} {r : List (List (List Vl))} {q : Nat} {t : List (List Vl)} (h : r[q]? = some t) :
    found ps l (r.take (q + 1)) = found ps l (r.take q) ++ (if fits ps l t then [merge l t] else []) := by
  unfold found
  rw [List.take_add_one, h, List.filter_append, List.map_append]
  congr 1
  simp only [Option.toList, List.filter_cons, List.filter_nil]
  cases fits ps l t <;> rfl
theorem found_le (ps : List Pd) (l : List (List Vl)) (r : List (List (List Vl))) : (found ps l r).length ≤ r.length := by
  unfold found
  rw [List.length_map]
  exact List.length_filter_le _ _
theorem any_found (ps : List Pd) (l : List (List Vl)) (r : List (List (List Vl))) : r.any (fits ps l) = decide (0 < (found ps l r).length) := by
  unfold found
  rw [List.length_map]
  induction r with
  | nil => rfl
  | cons t r ih =>
    rw [List.any_cons, List.filter_cons, ih]
    cases fits ps l t <;> simp
/-- what an operator makes of l with these matches -/
def of (k : Int) (l : List (List Vl)) (m : List (List (List Vl))) : List (List (List Vl)) :=
  if k = 1 ∨ (k = 2 ∧ 0 < m.length) then m else if k = 2 ∨ (k = 3 ∧ 0 < m.length) ∨ (k = 4 ∧ ¬ 0 < m.length) then [l] else []
def extend (k : Int) (ps : List Pd) (l : List (List Vl)) (r : List (List (List Vl))) : List (List (List Vl)) := of k l (found ps l r)
/-- as many values of a row, null where there is none -/
def cut (n : Nat) (r : List Vl) : List Vl := (List.range n).map fun k => (r[k]?).getD (true, 0)
theorem cut_length (n : Nat) (r : List Vl) : (cut n r).length = n := by simp [cut]
theorem cut_succ (n : Nat) (r : List Vl) : cut (n + 1) r = cut n r ++ [(r[n]?).getD (true, 0)] := by unfold cut; rw [List.range_succ, List.map_append]; rfl
theorem cut_zero (r : List Vl) : cut 0 r = [] := rfl
theorem cut_eq (n : Nat) (r : List Vl) : cut n r = r.take n ++ List.replicate (n - r.length) (true, 0) := by
  refine List.ext_getElem? fun k => ?_
  by_cases h : k < n
  · unfold cut
    rw [List.getElem?_map, List.getElem?_range h]
    by_cases g : k < r.length
    · rw [List.getElem?_append_left (by rw [List.length_take]; omega), List.getElem?_take_of_lt h, Option.map_some, List.getElem?_eq_getElem g]; rfl
    · rw [List.getElem?_append_right (by rw [List.length_take]; omega), List.getElem?_replicate, if_pos (by rw [List.length_take]; omega), Option.map_some, List.getElem?_eq_none (by omega)]; rfl
  · rw [List.getElem?_eq_none (by rw [cut_length]; omega), List.getElem?_eq_none (by simp; omega)]
def num (cols : List Int) (i : Nat) : Nat := ((cols[i]?).getD 0).toNat
def flat (t : List (List Vl)) (s : Nat) (cols : List Int) : List Vl := (List.range cols.length).flatMap fun i => if s.testBit i then cut (num cols i) (row t i) else []
def flatTo (t : List (List Vl)) (s : Nat) (cols : List Int) (k : Nat) : List Vl := (List.range k).flatMap fun i => if s.testBit i then cut (num cols i) (row t i) else []
theorem flatTo_succ (t : List (List Vl)) (s : Nat) (cols : List Int) (k : Nat) : flatTo t s cols (k + 1) = flatTo t s cols k ++ (if s.testBit k then cut (num cols k) (row t k) else []) := by
  unfold flatTo
  rw [List.range_succ, List.flatMap_append]
  simp
/-- of the tables of a list -/
def flatOf (t : List (List Vl)) (cols : List Int) (js : List Nat) : List Vl := js.flatMap fun i => cut (num cols i) (row t i)
def wide (cols : List Int) (js : List Nat) : Nat := (js.map (num cols)).sum
theorem flatOf_length (t : List (List Vl)) (cols : List Int) (js : List Nat) : (flatOf t cols js).length = wide cols js := by
  unfold flatOf wide
  induction js with
  | nil => rfl
  | cons j js ih => rw [List.flatMap_cons, List.length_append, ih, cut_length, List.map_cons, List.sum_cons]
theorem flatMap_filter {α : Type} (p : Nat → Bool) (f : Nat → List α) (l : List Nat) : (l.filter p).flatMap f = l.flatMap fun i => if p i then f i else [] := by
  induction l with
  | nil => rfl
  | cons i l ih =>
    rw [List.filter_cons, List.flatMap_cons]
    cases h : p i <;> simp [ih]
theorem flat_memb (t : List (List Vl)) (s : Nat) (cols : List Int) (hc : cols.length ≤ 64) : flatOf t cols (St.memb (s &&& St.belowN ((cols.length : Int) - 1))) = flat t s cols := by
  unfold flatOf flat
  rw [show St.memb (s &&& St.belowN ((cols.length : Int) - 1)) = (List.range cols.length).filter fun i => s.testBit i from ?_, flatMap_filter]
  unfold St.memb St.membTo
  rw [show (64 : Nat) = cols.length + (64 - cols.length) by omega, List.range_add, List.filter_append]
  rw [show (List.filter (fun i => (s &&& St.belowN ((cols.length : Int) - 1)).testBit i) (List.map (fun x => cols.length + x) (List.range (64 - cols.length)))) = [] from List.filter_eq_nil_iff.2 ?_, List.append_nil]
  · refine List.filter_congr fun i hi => ?_
    have hi := List.mem_range.1 hi
    rw [Nat.testBit_and, St.testBit_belowN, decide_eq_true (show i < 64 by omega), decide_eq_true (show ((i : Nat) : Int) ≤ (cols.length : Int) - 1 by omega)]
    simp
  · intro i hi
    obtain ⟨k, _, rfl⟩ := List.mem_map.1 hi
    rw [Nat.testBit_and, St.testBit_belowN, decide_eq_false (show ¬ (((cols.length + k : Nat) : Int) ≤ (cols.length : Int) - 1) by omega)]
    simp
end Mt
end Go.Proofs.YtghonbnmakggnaaDoor
