/-
  JOINS BY NESTED LOOPS, as plain mathematics: what is made of each tuple, one behind the other.
-/
import Derived.Test.YtghonbnmakggnaaDoorMtmM
namespace Go.Proofs.YtghonbnmakggnaaDoor
namespace Ns
def join (k : Int) (ps : List Pd) (L R : List (List (List Vl))) : List (List (List Vl)) := L.flatMap fun t => Mt.extend k ps t R
theorem join_nil (k : Int) (ps : List Pd) (R : List (List (List Vl))) : join k ps [] R = [] := rfl
theorem join_append (k : Int) (ps : List Pd) (L M R : List (List (List Vl))) : join k ps (L ++ M) R = join k ps L R ++ join k ps M R := by unfold join; rw [List.flatMap_append]
theorem join_one (k : Int) (ps : List Pd) (t : List (List Vl)) (R : List (List (List Vl))) : join k ps [t] R = Mt.extend k ps t R := by unfold join; simp
theorem join_take {k : Int} {ps : List Pd} {L R : List (List (List Vl))} {q : Nat} {t : List (List Vl)} (h : L[q]? = some t) : join k ps (L.take (q + 1)) R = join k ps (L.take q) R ++ Mt.extend k ps t R := by
  rw [List.take_add_one, h, join_append]
  show _ ++ join k ps [t] R = _
  rw [join_one]
theorem join_parts (k : Int) (ps : List Pd) (L R : List (List (List Vl))) (n : Nat) : join k ps (L.take n) R ++ join k ps (L.drop n) R = join k ps L R := by rw [← join_append, List.take_append_drop]
theorem extend_le (k : Int) (ps : List Pd) (t : List (List Vl)) (R : List (List (List Vl))) : (Mt.extend k ps t R).length ≤ R.length + 1 := by
  have h := Mt.found_le ps t R
  unfold Mt.extend Mt.of
  split
  · omega
  · split
    · simp
    · simp
theorem join_le (k : Int) (ps : List Pd) (L R : List (List (List Vl))) : (join k ps L R).length ≤ L.length * (R.length + 1) := by
  induction L with
  | nil => simp [join]
  | cons t L ih =>
    have h := extend_le k ps t R
    have e : join k ps (t :: L) R = Mt.extend k ps t R ++ join k ps L R := by unfold join; rw [List.flatMap_cons]
    rw [e, List.length_append, List.length_cons, Nat.succ_mul]
    omega
/-- tuples that are not great -/
structure Few (n m : Nat) (L : List (List (List Vl))) : Prop where
  len : L.length ≤ n
  tup : ∀ t ∈ L, t.length ≤ m ∧ ∀ x ∈ t, x.length ≤ m
theorem extend_few {n m : Nat} {k : Int} {ps : List Pd} {t : List (List Vl)} {R : List (List (List Vl))} (ht : t.length ≤ m ∧ ∀ x ∈ t, x.length ≤ m) (hR : Few n m R) : Few (n + 1) m (Mt.extend k ps t R) := by
  refine ⟨Nat.le_trans (extend_le k ps t R) (Nat.succ_le_succ hR.len), fun u hu => ?_⟩
  have h1 : ∀ u ∈ Mt.found ps t R, u.length ≤ m ∧ ∀ x ∈ u, x.length ≤ m := fun u hu => by
    unfold Mt.found at hu
    obtain ⟨v, hv, rfl⟩ := List.mem_map.1 hu
    have h2 := hR.tup v (List.mem_filter.1 hv).1
    exact ⟨by rw [Mt.merge_length]; omega, Mt.merge_mem ht.2 h2.2⟩
  unfold Mt.extend Mt.of at hu
  split at hu
  · exact h1 u hu
  · split at hu
    · rw [List.mem_singleton.1 hu]; exact ht
    · simp at hu
theorem join_few {n l m : Nat} {k : Int} {ps : List Pd} {L R : List (List (List Vl))} (hL : Few l m L) (hR : Few n m R) : Few (l * (n + 1)) m (join k ps L R) := by
  refine ⟨Nat.le_trans (join_le k ps L R) (Nat.mul_le_mul hL.len (Nat.succ_le_succ hR.len)), fun u hu => ?_⟩
  obtain ⟨t, ht, hu⟩ := List.mem_flatMap.1 hu
  exact (extend_few (hL.tup t ht) hR).tup u hu
theorem Few.more {n n' m m' : Nat} {L : List (List (List Vl))} (h : Few n m L) (hn : n ≤ n') (hm : m ≤ m') : Few n' m' L :=
  ⟨Nat.le_trans h.len hn, fun t ht => ⟨Nat.le_trans (h.tup t ht).1 hm, fun x hx => Nat.le_trans ((h.tup t ht).2 x hx) hm⟩⟩
theorem Few.take {n m : Nat} {L : List (List (List Vl))} (h : Few n m L) (k : Nat) : Few n m (L.take k) :=
  ⟨Nat.le_trans (by rw [List.length_take]; omega) h.len, fun t ht => h.tup t (List.mem_of_mem_take ht)⟩
theorem Few.drop {n m : Nat} {L : List (List (List Vl))} (h : Few n m L) (k : Nat) : Few n m (L.drop k) :=
  ⟨Nat.le_trans (by rw [List.length_drop]; omega) h.len, fun t ht => h.tup t (List.mem_of_mem_drop ht)⟩
theorem Few.one {n m : Nat} {L : List (List (List Vl))} (h : Few n m L) {t : List (List Vl)} (ht : t ∈ L) : Few n m [t] :=
  ⟨by have := h.len; have := List.length_pos_of_mem ht; simp; omega, fun u hu => by rw [List.mem_singleton.1 hu]; exact h.tup t ht⟩
/-- does a tuple have any match? -/
def has (ps : List Pd) (R : List (List (List Vl))) (t : List (List Vl)) : Bool := decide (0 < (Mt.found ps t R).length)
theorem extend_semi (ps : List Pd) (t : List (List Vl)) (R : List (List (List Vl))) : Mt.extend 3 ps t R = if has ps R t then [t] else [] := by
  unfold Mt.extend Mt.of has
  by_cases h : 0 < (Mt.found ps t R).length <;> simp [h]
theorem extend_anti (ps : List Pd) (t : List (List Vl)) (R : List (List (List Vl))) : Mt.extend 4 ps t R = if has ps R t then [] else [t] := by
  unfold Mt.extend Mt.of has
  by_cases h : 0 < (Mt.found ps t R).length <;> simp [h]
theorem semi (ps : List Pd) (L R : List (List (List Vl))) : join 3 ps L R = L.filter (has ps R) := by
  induction L with
  | nil => rfl
  | cons t L ih =>
    have e : join 3 ps (t :: L) R = Mt.extend 3 ps t R ++ join 3 ps L R := by unfold join; rw [List.flatMap_cons]
    rw [e, ih, extend_semi, List.filter_cons]
    cases has ps R t <;> rfl
theorem anti_length (ps : List Pd) (L R : List (List (List Vl))) : (join 4 ps L R).length + (join 3 ps L R).length = L.length := by
  induction L with
  | nil => rfl
  | cons t L ih =>
    have e : ∀ k, join k ps (t :: L) R = Mt.extend k ps t R ++ join k ps L R := fun k => by unfold join; rw [List.flatMap_cons]
    rw [e, e, List.length_append, List.length_append, extend_semi, extend_anti, List.length_cons]
    cases has ps R t <;> simp <;> omega
theorem semi_at {ps : List Pd} {L R : List (List (List Vl))} {q : Nat} {t : List (List Vl)} (h : L[q]? = some t) (ht : has ps R t = true) : (join 3 ps L R)[(join 3 ps (L.take q) R).length]? = some t ∧ (join 3 ps (L.take q) R).length < (join 3 ps L R).length := by
  have h1 : join 3 ps L R = join 3 ps (L.take q) R ++ (t :: join 3 ps (L.drop (q + 1)) R) := by
    have hlt := (List.getElem?_eq_some_iff.1 h).1
    have h2 : L = L.take q ++ t :: L.drop (q + 1) := by
      rw [← (List.getElem?_eq_some_iff.1 h).2, List.getElem_cons_drop, List.take_append_drop]
    have h3 : join 3 ps (t :: L.drop (q + 1)) R = t :: join 3 ps (L.drop (q + 1)) R := by
      rw [semi, semi, List.filter_cons, if_pos ht]
    rw [← h3, ← join_append, ← h2]
  rw [h1]
  exact ⟨by rw [List.getElem?_append_right (Nat.le_refl _), Nat.sub_self]; rfl, by rw [List.length_append, List.length_cons]; omega⟩
theorem semi_step {ps : List Pd} {L R : List (List (List Vl))} {q : Nat} {t : List (List Vl)} (h : L[q]? = some t) : (join 3 ps (L.take (q + 1)) R).length = (join 3 ps (L.take q) R).length + (if has ps R t then 1 else 0) := by
  rw [join_take h, List.length_append, extend_semi]
  cases has ps R t <;> rfl
/-- what light says -/
def light (ps : List Pd) (L R : List (List (List Vl))) : Prop :=
  (ps.length ≤ 10 ∧ ∀ p ∈ ps, Pr.size p ≤ 100) ∧ R.length ≤ 40 ∧ L.length ≤ 40 ∧ ∀ t ∈ R ++ L, t.length ≤ 66 ∧ ∀ x ∈ t, x.length ≤ 10
theorem light_left {ps : List Pd} {L R : List (List (List Vl))} (h : light ps L R) : Few 40 66 L := ⟨h.2.2.1, fun t ht => ⟨(h.2.2.2 t (List.mem_append_right _ ht)).1, fun x hx => Nat.le_trans ((h.2.2.2 t (List.mem_append_right _ ht)).2 x hx) (by decide)⟩⟩
theorem light_right {ps : List Pd} {L R : List (List (List Vl))} (h : light ps L R) : Few 40 66 R := ⟨h.2.1, fun t ht => ⟨(h.2.2.2 t (List.mem_append_left _ ht)).1, fun x hx => Nat.le_trans ((h.2.2.2 t (List.mem_append_left _ ht)).2 x hx) (by decide)⟩⟩
end Ns
end Go.Proofs.YtghonbnmakggnaaDoor
