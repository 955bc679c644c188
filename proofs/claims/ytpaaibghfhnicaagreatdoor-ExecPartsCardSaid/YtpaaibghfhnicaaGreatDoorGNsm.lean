/-
  LAID TOGETHER, BY PROGRAM, of: Nsm.
-/
import Derived.Test.YtpaaibghfhnicaaGreatDoorGMtB
/-
  JOINS BY NESTED LOOPS, as plain mathematics: what is made of each tuple, one behind the other.
-/
namespace Go.Proofs.YtpaaibghfhnicaaGreatDoor
namespace Ns
def join (k : Int) (ps : List Pd) (L R : List (List (List Vl))) : List (List (List Vl)) := L.flatMap fun t => Mt.extend k ps t R
theorem join_append (k : Int) (ps : List Pd) (L M R : List (List (List Vl))) : join k ps (L ++ M) R = join k ps L R ++ join k ps M R := by unfold join; rw [List.flatMap_append]
theorem join_one (k : Int) (ps : List Pd) (t : List (List Vl)) (R : List (List (List Vl))) : join k ps [t] R = Mt.extend k ps t R := by unfold join; simp
theorem join_take {k : Int} {ps : List Pd} {L R : List (List (List Vl))} {q : Nat} {t : List (List Vl)} (h : L[q]? = some t) : join k ps (L.take (q + 1)) R = join k ps (L.take q) R ++ Mt.extend k ps t R := by
  rw [List.take_add_one, h, join_append]
  show _ ++ join k ps [t] R = _
  rw [join_one]
theorem extend_le (k : Int) (ps : List Pd) (t : List (List Vl)) (R : List (List (List Vl))) : (Mt.extend k ps t R).length ≤ R.length + 1 := by
  have h := Mt.found_le ps t R
  unfold Mt.extend Mt.of
  split
  · omega
  · split
    · simp
    · simp
theorem join_le (k : Int) (ps : List Pd) (L R : List (List (List Vl))) : (join k ps L R).length ≤ L.length * (R.length + 1) := by
  induction L with
  | nil => simp [join]
  | cons t L ih =>
    have h := extend_le k ps t R
    have e : join k ps (t :: L) R = Mt.extend k ps t R ++ join k ps L R := by unfold join; rw [List.flatMap_cons]
    rw [e, List.length_append, List.length_cons, Nat.succ_mul]
    omega
structure Few (n m : Nat) (L : List (List (List Vl))) : Prop where
  len : L.length ≤ n
  tup : ∀ t ∈ L, t.length ≤ m ∧ ∀ x ∈ t, x.length ≤ m
theorem Few.more {n n' m m' : Nat} {L : List (List (List Vl))} (h : Few n m L) (hn : n ≤ n') (hm : m ≤ m') : Few n' m' L :=
  ⟨Nat.le_trans h.len hn, fun t ht => ⟨Nat.le_trans (h.tup t ht).1 hm, fun x hx => Nat.le_trans ((h.tup t ht).2 x hx) hm⟩⟩
theorem Few.take {n m : Nat} {L : List (List (List Vl))} (h : Few n m L) (k : Nat) : Few n m (L.take k) :=
  ⟨Nat.le_trans (by rw [List.length_take]; omega) h.len, fun t ht => h.tup t (List.mem_of_mem_take ht)⟩
theorem Few.drop {n m : Nat} {L : List (List (List Vl))} (h : Few n m L) (k : Nat) : Few n m (L.drop k) :=
  ⟨Nat.le_trans (by rw [List.length_drop]; omega) h.len, fun t ht => h.tup t (List.mem_of_mem_drop ht)⟩
theorem Few.one {n m : Nat} {L : List (List (List Vl))} (h : Few n m L) {t : List (List Vl)} (ht : t ∈ L) : Few n m [t] :=
  ⟨by have := h.len; have := List.length_pos_of_mem ht; simp; omega, fun u hu => by rw [List.mem_singleton.1 hu]; exact h.tup t ht⟩
def has (ps : List Pd) (R : List (List (List Vl))) (t : List (List Vl)) : Bool := decide (0 < (Mt.found ps t R).length)
def light (ps : List Pd) (L R : List (List (List Vl))) : Prop :=
  (ps.length ≤ 10 ∧ ∀ p ∈ ps, Pr.size p ≤ 100) ∧ R.length ≤ 40 ∧ L.length ≤ 40 ∧ ∀ t ∈ R ++ L, t.length ≤ 66 ∧ ∀ x ∈ t, x.length ≤ 10
end Ns
end Go.Proofs.YtpaaibghfhnicaaGreatDoor
