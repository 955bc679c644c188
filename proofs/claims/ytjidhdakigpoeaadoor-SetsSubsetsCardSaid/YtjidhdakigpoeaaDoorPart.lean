/-
  PLAIN MATHEMATICS, no program: the parts of a set, in their order: the n-th part; which one comes next.
-/
import Derived.Test.YtjidhdakigpoeaaDoorSet
namespace Go.Proofs.YtjidhdakigpoeaaDoor.St
open Go

/-- the n-th part of s: n's digits laid onto s's members -/
def pd : Nat → Nat → Nat → Nat
  | 0, _, _ => 0
  | k + 1, s, n => if s % 2 = 1 then n % 2 + 2 * pd k (s / 2) (n / 2) else 2 * pd k (s / 2) n

theorem pd_lt : ∀ (k s n : Nat), pd k s n < 2 ^ k
  | 0, _, _ => by simp [pd]
  | k + 1, s, n => by
    have h1 := pd_lt k (s / 2) (n / 2)
    have h2 := pd_lt k (s / 2) n
    unfold pd
    rw [Nat.pow_succ]
    split <;> omega
theorem pd_le : ∀ (k s n : Nat), pd k s n ≤ s
  | 0, _, _ => by simp [pd]
  | k + 1, s, n => by
    have h1 := pd_le k (s / 2) (n / 2)
    have h2 := pd_le k (s / 2) n
    unfold pd
    split <;> omega
theorem pd_zero : ∀ (k s : Nat), pd k s 0 = 0
  | 0, _ => rfl
  | k + 1, s => by
    have h := pd_zero k (s / 2)
    unfold pd
    split <;> simp [h]
/-- parts rise -/
theorem pd_succ_lt : ∀ (k s n : Nat), n + 1 < 2 ^ pop k s → pd k s n < pd k s (n + 1)
  | 0, _, n, h => by simp [pop] at h
  | k + 1, s, n, h => by
    unfold pop at h
    unfold pd
    by_cases hs : s % 2 = 1
    · rw [if_pos hs, if_pos hs]
      rw [hs, Nat.add_comm 1, Nat.pow_succ] at h
      by_cases hn : n % 2 = 0
      · have e : (n + 1) / 2 = n / 2 := by omega
        rw [e]
        omega
      · have e : (n + 1) / 2 = n / 2 + 1 := by omega
        have ih := pd_succ_lt k (s / 2) (n / 2) (by omega)
        rw [e]
        omega
    · rw [if_neg hs, if_neg hs]
      have e : s % 2 = 0 := by omega
      rw [e, Nat.zero_add] at h
      have ih := pd_succ_lt k (s / 2) n h
      omega
theorem pd_lt_of_lt (k s : Nat) : ∀ (d n : Nat), n + d + 1 < 2 ^ pop k s → pd k s n < pd k s (n + d + 1)
  | 0, n, h => pd_succ_lt k s n h
  | d + 1, n, h => Nat.lt_trans (pd_lt_of_lt k s d n (by omega)) (pd_succ_lt k s (n + d + 1) h)
theorem pd_mono {k s n m : Nat} (h : n < m) (hm : m < 2 ^ pop k s) : pd k s n < pd k s m := by
  have := pd_lt_of_lt k s (m - n - 1) n (by omega)
  rwa [show n + (m - n - 1) + 1 = m by omega] at this
/-- the last part is the set -/
theorem pd_last : ∀ (k s : Nat), s < 2 ^ k → pd k s (2 ^ pop k s - 1) = s
  | 0, s, h => by simp at h; simp [pd, h]
  | k + 1, s, h => by
    have hp : 0 < 2 ^ pop k (s / 2) := Nat.two_pow_pos _
    have ih := pd_last k (s / 2) (by rw [Nat.pow_succ] at h; omega)
    unfold pd pop
    by_cases hs : s % 2 = 1
    · have e1 : (2 ^ (s % 2 + pop k (s / 2)) - 1) / 2 = 2 ^ pop k (s / 2) - 1 := by
        rw [hs, Nat.add_comm, Nat.pow_succ]; omega
      have e2 : (2 ^ (s % 2 + pop k (s / 2)) - 1) % 2 = 1 := by
        rw [hs, Nat.add_comm, Nat.pow_succ]; omega
      rw [if_pos hs, e1, e2, ih]
      omega
    · have e : s % 2 = 0 := by omega
      rw [if_neg hs, e, Nat.zero_add, ih]
      omega
theorem pd_eq_self {k s n : Nat} (hs : s < 2 ^ k) (hn : n < 2 ^ pop k s) : pd k s n = s ↔ n + 1 = 2 ^ pop k s := by
  have hl := pd_last k s hs
  constructor
  · intro h
    by_cases e : n + 1 = 2 ^ pop k s
    · exact e
    · have := pd_mono (k := k) (s := s) (n := n) (m := 2 ^ pop k s - 1) (by omega) (by omega)
      omega
  · intro h
    rw [show n = 2 ^ pop k s - 1 by omega, hl]
theorem pd_pos {k s n : Nat} (h0 : 0 < n) (hn : n < 2 ^ pop k s) : 0 < pd k s n := by
  have := pd_mono (k := k) (s := s) h0 hn
  omega
theorem pd_in : ∀ (k s n j : Nat), (pd k s n).testBit j = true → s.testBit j = true
  | 0, _, _, j, h => by simp [pd] at h
  | k + 1, s, n, 0, h => by
    unfold pd at h
    rw [Nat.testBit_zero] at h ⊢
    by_cases hs : s % 2 = 1
    · simp [hs]
    · rw [if_neg hs] at h
      have := of_decide_eq_true h
      omega
  | k + 1, s, n, j + 1, h => by
    rw [Nat.testBit_succ] at h ⊢
    unfold pd at h
    by_cases hs : s % 2 = 1
    · rw [if_pos hs, show (n % 2 + 2 * pd k (s / 2) (n / 2)) / 2 = pd k (s / 2) (n / 2) by omega] at h
      exact pd_in k _ _ j h
    · rw [if_neg hs, show (2 * pd k (s / 2) n) / 2 = pd k (s / 2) n by omega] at h
      exact pd_in k _ _ j h

/-! ### What comes next -/
def nextK (k s p : Nat) : Nat := ((p ||| (2 ^ k - 1 - s)) + 1) % 2 ^ k &&& s
theorem bits2 {a b : Nat} (h1 : a % 2 = b % 2) (h2 : a / 2 = b / 2) : a = b := by omega
theorem and2 (a b : Nat) : (a &&& b) % 2 = (a % 2) * (b % 2) ∧ (a &&& b) / 2 = a / 2 &&& b / 2 := by
  refine ⟨?_, Nat.and_div_two⟩
  have h := Nat.and_mod_two_pow (a := a) (b := b) (n := 1)
  simp only [Nat.pow_one] at h
  rw [h]
  rcases Nat.mod_two_eq_zero_or_one a with x | x <;> rcases Nat.mod_two_eq_zero_or_one b with y | y <;> rw [x, y] <;> rfl
theorem or2 (a b : Nat) : (a ||| b) % 2 = max (a % 2) (b % 2) ∧ (a ||| b) / 2 = a / 2 ||| b / 2 := by
  refine ⟨?_, Nat.or_div_two⟩
  have h := Nat.or_mod_two_pow (a := a) (b := b) (n := 1)
  simp only [Nat.pow_one] at h
  rw [h]
  rcases Nat.mod_two_eq_zero_or_one a with x | x <;> rcases Nat.mod_two_eq_zero_or_one b with y | y <;> rw [x, y] <;> rfl
theorem next_pd : ∀ (k s n : Nat), s < 2 ^ k → nextK k s (pd k s n) = pd k s (n + 1)
  | 0, s, n, h => by simp at h; subst h; simp [nextK, pd]
  | k + 1, s, n, h => by
    have hs2 : s / 2 < 2 ^ k := by rw [Nat.pow_succ] at h; omega
    have hp : 0 < 2 ^ k := Nat.two_pow_pos _
    have hm2 : (2 ^ (k + 1) - 1 - s) % 2 = 1 - s % 2 := by rw [Nat.pow_succ] at h ⊢; omega
    have hmd : (2 ^ (k + 1) - 1 - s) / 2 = 2 ^ k - 1 - s / 2 := by rw [Nat.pow_succ] at h ⊢; omega
    have hin : ∀ m, (pd k (s / 2) m ||| (2 ^ k - 1 - s / 2)) &&& s / 2 = pd k (s / 2) m := by
      intro m
      apply Nat.eq_of_testBit_eq
      intro j
      rw [Nat.testBit_and, Nat.testBit_or, show 2 ^ k - 1 - s / 2 = 2 ^ k - (s / 2 + 1) by omega, Nat.testBit_two_pow_sub_succ hs2]
      cases hq : (pd k (s / 2) m).testBit j
      · cases (s / 2).testBit j <;> simp
      · rw [pd_in k _ _ _ hq]; simp
    have hlt : ∀ m, (pd k (s / 2) m ||| (2 ^ k - 1 - s / 2)) < 2 ^ k := fun m => Nat.or_lt_two_pow (pd_lt k _ m) (by omega)
    have key : ∀ p, (p ||| (2 ^ (k + 1) - 1 - s)) % 2 = max (p % 2) (1 - s % 2) ∧ (p ||| (2 ^ (k + 1) - 1 - s)) / 2 = p / 2 ||| (2 ^ k - 1 - s / 2) := by
      intro p
      have := or2 p (2 ^ (k + 1) - 1 - s)
      rwa [hm2, hmd] at this
    unfold nextK
    by_cases hs : s % 2 = 1
    · by_cases hn : n % 2 = 0
      · have e : pd (k + 1) s n = 2 * pd k (s / 2) (n / 2) := by rw [pd, if_pos hs, hn, Nat.zero_add]
        have e' : pd (k + 1) s (n + 1) = 1 + 2 * pd k (s / 2) (n / 2) := by
          rw [pd, if_pos hs, show (n + 1) % 2 = 1 by omega, show (n + 1) / 2 = n / 2 by omega]
        obtain ⟨k1, k2⟩ := key (pd (k + 1) s n)
        rw [e] at k1 k2 ⊢
        rw [e']
        have hl := hlt (n / 2)
        rw [show 2 * pd k (s / 2) (n / 2) / 2 = pd k (s / 2) (n / 2) by omega] at k2
        rw [show 2 * pd k (s / 2) (n / 2) % 2 = 0 by omega, hs] at k1
        generalize hu : 2 * pd k (s / 2) (n / 2) ||| (2 ^ (k + 1) - 1 - s) = u at *
        have hu2 : (u + 1) % 2 ^ (k + 1) = u + 1 := Nat.mod_eq_of_lt (by rw [Nat.pow_succ]; simp at k1; omega)
        rw [hu2]
        obtain ⟨a1, a2⟩ := and2 (u + 1) s
        simp at k1
        apply bits2
        · rw [a1, hs]; omega
        · rw [a2, show (u + 1) / 2 = u / 2 by omega, k2, hin]; omega
      · have e : pd (k + 1) s n = 1 + 2 * pd k (s / 2) (n / 2) := by rw [pd, if_pos hs, show n % 2 = 1 by omega]
        have e' : pd (k + 1) s (n + 1) = 2 * pd k (s / 2) (n / 2 + 1) := by
          rw [pd, if_pos hs, show (n + 1) % 2 = 0 by omega, show (n + 1) / 2 = n / 2 + 1 by omega, Nat.zero_add]
        have ih := next_pd k (s / 2) (n / 2) hs2
        unfold nextK at ih
        obtain ⟨k1, k2⟩ := key (pd (k + 1) s n)
        rw [e] at k1 k2 ⊢
        rw [e', ← ih]
        rw [show (1 + 2 * pd k (s / 2) (n / 2)) / 2 = pd k (s / 2) (n / 2) by omega] at k2
        rw [show (1 + 2 * pd k (s / 2) (n / 2)) % 2 = 1 by omega, hs] at k1
        generalize hu : 1 + 2 * pd k (s / 2) (n / 2) ||| (2 ^ (k + 1) - 1 - s) = u at *
        simp at k1
        have hu2 : (u + 1) % 2 ^ (k + 1) = 2 * ((u / 2 + 1) % 2 ^ k) := by
          rw [show u + 1 = 2 * (u / 2 + 1) by omega, Nat.pow_succ', Nat.mul_mod_mul_left]
        rw [hu2]
        obtain ⟨a1, a2⟩ := and2 (2 * ((u / 2 + 1) % 2 ^ k)) s
        apply bits2
        · rw [a1]; simp
        · rw [a2, show 2 * ((u / 2 + 1) % 2 ^ k) / 2 = (u / 2 + 1) % 2 ^ k by omega, k2]; omega
    · have hs0 : s % 2 = 0 := by omega
      have e : pd (k + 1) s n = 2 * pd k (s / 2) n := by rw [pd, if_neg hs]
      have e' : pd (k + 1) s (n + 1) = 2 * pd k (s / 2) (n + 1) := by rw [pd, if_neg hs]
      have ih := next_pd k (s / 2) n hs2
      unfold nextK at ih
      obtain ⟨k1, k2⟩ := key (pd (k + 1) s n)
      rw [e] at k1 k2 ⊢
      rw [e', ← ih]
      rw [show 2 * pd k (s / 2) n / 2 = pd k (s / 2) n by omega] at k2
      rw [show 2 * pd k (s / 2) n % 2 = 0 by omega, hs0] at k1
      generalize hu : 2 * pd k (s / 2) n ||| (2 ^ (k + 1) - 1 - s) = u at *
      simp at k1
      have hu2 : (u + 1) % 2 ^ (k + 1) = 2 * ((u / 2 + 1) % 2 ^ k) := by
        rw [show u + 1 = 2 * (u / 2 + 1) by omega, Nat.pow_succ', Nat.mul_mod_mul_left]
      rw [hu2]
      obtain ⟨a1, a2⟩ := and2 (2 * ((u / 2 + 1) % 2 ^ k)) s
      apply bits2
      · rw [a1]; simp
      · rw [a2, show 2 * ((u / 2 + 1) % 2 ^ k) / 2 = (u / 2 + 1) % 2 ^ k by omega, k2]; omega

/-! ### The n-th part as a sum over the members -/
def pdl : List Nat → Nat → Nat
  | [], _ => 0
  | x :: l, n => (n % 2) * 2 ^ x + pdl l (n / 2)
theorem pdl_append : ∀ (a b : List Nat) (n : Nat), pdl (a ++ b) n = pdl a n + pdl b (n / 2 ^ a.length)
  | [], b, n => by simp [pdl]
  | x :: a, b, n => by
    simp only [List.cons_append, pdl, List.length_cons]
    rw [pdl_append a b (n / 2), Nat.div_div_eq_div_mul, ← Nat.pow_succ', Nat.add_assoc]
theorem pdl_snoc (l : List Nat) (n k x : Nat) (hk : l[k]? = some x) : pdl (l.take (k + 1)) n = pdl (l.take k) n + (n / 2 ^ k % 2) * 2 ^ x := by
  have hlt : k < l.length := by
    by_cases h : k < l.length
    · exact h
    · rw [List.getElem?_eq_none (by omega)] at hk; cases hk
  rw [List.take_add_one, hk, Option.toList_some, pdl_append, List.length_take, Nat.min_eq_left (by omega)]
  simp [pdl]
theorem pdl_take_le (l : List Nat) (n k : Nat) : pdl (l.take k) n ≤ pdl l n := by
  have := pdl_append (l.take k) (l.drop k) n
  rw [List.take_append_drop] at this
  omega
theorem pdl_map : ∀ (l : List Nat) (n : Nat), pdl (l.map (· + 1)) n = 2 * pdl l n
  | [], _ => rfl
  | x :: l, n => by
    simp only [List.map_cons, pdl]
    rw [pdl_map l, Nat.pow_succ, Nat.mul_add, ← Nat.mul_assoc, Nat.mul_comm _ 2]
theorem pdl_memb : ∀ (k s n : Nat), pdl (membTo k s) n = pd k s n
  | 0, _, _ => rfl
  | k + 1, s, n => by
    rw [membTo_succ, pd]
    by_cases hs : s % 2 = 1
    · rw [if_pos hs, if_pos hs]
      simp only [List.cons_append, List.nil_append, pdl]
      rw [pdl_map, pdl_memb k, Nat.pow_zero, Nat.mul_one]
    · rw [if_neg hs, if_neg hs, List.nil_append, pdl_map, pdl_memb k]
end Go.Proofs.YtjidhdakigpoeaaDoor.St
