/-
  PLAIN MATHEMATICS, no program: a word of 64 binary digits as a set: its members, the least one, the sets of some members, what is in what; the parts of a set, in their order.
-/
import Derived.Test.YthfoagglncimnaaDoorPop
import Derived.Lib.TrailingZeros
namespace Go.Proofs.YthfoagglncimnaaDoor.St
open Go

theorem bit_ge {s i : Nat} (h : s < 18446744073709551616) (hi : 64 ≤ i) : s.testBit i = false :=
  Nat.testBit_lt_two_pow (Nat.lt_of_lt_of_le h (show (18446744073709551616 : Nat) ≤ 2 ^ i from Nat.pow_le_pow_right (n := 2) (i := 64) (by decide) hi))
theorem word_ext {a b : Nat} (ha : a < 18446744073709551616) (hb : b < 18446744073709551616) (h : ∀ j, j < 64 → a.testBit j = b.testBit j) : a = b := by
  apply Nat.eq_of_testBit_eq
  intro j
  by_cases hj : j < 64
  · exact h j hj
  · rw [bit_ge ha (by omega), bit_ge hb (by omega)]

/-! ### The members -/
def membTo (k s : Nat) : List Nat := (List.range k).filter fun i => s.testBit i
def memb (s : Nat) : List Nat := membTo 64 s
theorem membTo_succ (k s : Nat) : membTo (k + 1) s = (if s % 2 = 1 then [0] else []) ++ (membTo k (s / 2)).map (· + 1) := by
  have hm : (List.map Nat.succ (List.range k)).filter (fun i => s.testBit i) = (membTo k (s / 2)).map (· + 1) := by
    unfold membTo
    rw [List.filter_map]
    congr 1
    apply List.filter_congr
    intro i _
    simp [Nat.testBit_succ]
  unfold membTo at hm ⊢
  rw [List.range_succ_eq_map, List.filter_cons, hm]
  by_cases h : s % 2 = 1 <;> simp [Nat.testBit_zero, h]
theorem membTo_length : ∀ (k s : Nat), (membTo k s).length = pop k s
  | 0, _ => rfl
  | k + 1, s => by
    rw [membTo_succ, List.length_append, List.length_map, membTo_length k (s / 2)]
    have : s % 2 = 0 ∨ s % 2 = 1 := by omega
    rcases this with h | h <;> simp [h, pop]
theorem memb_length (s : Nat) : (memb s).length = pop 64 s := membTo_length 64 s
theorem mem_memb {s j : Nat} : j ∈ memb s ↔ j < 64 ∧ s.testBit j = true := by simp [memb, membTo]
theorem memb_lt {s j : Nat} (h : j ∈ memb s) : j < 64 := (mem_memb.1 h).1

/-- the word without one member -/
def clear (s c : Nat) : Nat := s &&& (18446744073709551615 - 2 ^ c)
theorem testBit_not (b j : Nat) (hb : b < 18446744073709551616) : (18446744073709551615 - b).testBit j = (decide (j < 64) && !b.testBit j) := by
  have e : 18446744073709551615 - b = 2 ^ 64 - (b + 1) := by omega
  rw [e, Nat.testBit_two_pow_sub_succ (by simpa using hb)]
theorem testBit_clear (s c j : Nat) (hc : c < 64) : (clear s c).testBit j = (s.testBit j && (decide (j < 64) && !decide (c = j))) := by
  have hlt : 2 ^ c < 18446744073709551616 := Nat.pow_lt_pow_right (a := 2) (m := c) (n := 64) (by decide) hc
  unfold clear
  rw [Nat.testBit_and, testBit_not _ _ hlt, Nat.testBit_two_pow]
theorem clear_lt (s c : Nat) : clear s c < 18446744073709551616 := Nat.and_lt_two_pow (n := 64) _ (Nat.lt_of_le_of_lt (Nat.sub_le _ _) (by decide))
theorem filter_first (p q : Nat → Bool) (c : Nat) (hp : p c = true) (hl : ∀ j, j < c → p j = false) (hq : ∀ j, q j = (p j && !decide (c = j))) :
    ∀ n, c < n → (List.range n).filter p = c :: (List.range n).filter q
  | 0, h => by omega
  | n + 1, h => by
    rw [List.range_succ, List.filter_append, List.filter_append]
    by_cases hc : c = n
    · subst hc
      have h1 : (List.range c).filter p = [] := by
        rw [List.filter_eq_nil_iff]; intro a ha; simp [hl a (List.mem_range.1 ha)]
      have h2 : (List.range c).filter q = [] := by
        rw [List.filter_eq_nil_iff]; intro a ha; simp [hq, hl a (List.mem_range.1 ha)]
      rw [h1, h2]
      simp [hp, hq]
    · rw [filter_first p q c hp hl hq n (by omega)]
      have hn : q n = p n := by simp [hq, hc]
      simp [List.filter_cons, hn]

/-- the least member: the count of zeros at the end -/
theorem ctz_bit {s : Nat} (h0 : s ≠ 0) (hs : s < 18446744073709551616) : Lib.ctz 64 s < 64 ∧ s.testBit (Lib.ctz 64 s) = true ∧ ∀ j, j < Lib.ctz 64 s → s.testBit j = false := by
  have he : Lib.ctz 64 s = Lib.ctzFrom 64 s := by unfold Lib.ctz; rw [if_neg h0]
  obtain ⟨m, hm, hk⟩ := Lib.ctzFrom_spec 64 s (by omega) hs
  rw [he]
  generalize Lib.ctzFrom 64 s = c at *
  refine ⟨hk, ?_, ?_⟩
  · rw [hm, Nat.mul_comm, Nat.testBit_mul_two_pow]
    simp
  · intro j hj
    rw [hm, Nat.mul_comm, Nat.testBit_mul_two_pow]
    simp; omega
theorem memb_cons {s : Nat} (h0 : s ≠ 0) (hs : s < 18446744073709551616) : memb s = Lib.ctz 64 s :: memb (clear s (Lib.ctz 64 s)) := by
  obtain ⟨h1, h2, h3⟩ := ctz_bit h0 hs
  have hq : ∀ j, j < 64 → (clear s (Lib.ctz 64 s)).testBit j = (s.testBit j && !decide (Lib.ctz 64 s = j)) := by
    intro j hj; rw [testBit_clear _ _ _ h1]; simp [hj]
  unfold memb membTo
  rw [filter_first (fun i => s.testBit i) (fun i => s.testBit i && !decide (Lib.ctz 64 s = i)) _ h2 h3 (fun _ => rfl) 64 h1]
  congr 1
  apply List.filter_congr
  intro i hi
  rw [hq i (List.mem_range.1 hi)]
theorem memb_zero : memb 0 = [] := by
  rw [List.eq_nil_iff_forall_not_mem]; intro a ha
  have := (mem_memb.1 ha).2
  simp at this
theorem memb_nil {s : Nat} (hs : s < 18446744073709551616) (h : memb s = []) : s = 0 := by
  by_cases h0 : s = 0
  · exact h0
  · rw [memb_cons h0 hs] at h; cases h

/-- THE LEAST MEMBER, OR -1 -/
def minI (s : Nat) : Int := if s = 0 then -1 else (Lib.ctz 64 s : Nat)
theorem minI_list {s : Nat} (hs : s < 18446744073709551616) : minI s = match memb s with | [] => -1 | x :: _ => (x : Int) := by
  unfold minI
  by_cases h0 : s = 0
  · subst h0; rw [memb_zero]; simp
  · rw [memb_cons h0 hs]; simp [h0]

/-! ### A word by its digits -/
def setTo (p : Nat → Bool) : Nat → Nat
  | 0 => 0
  | k + 1 => if p k then setTo p k + 2 ^ k else setTo p k
theorem setTo_lt (p : Nat → Bool) : ∀ k, setTo p k < 2 ^ k
  | 0 => by simp [setTo]
  | k + 1 => by
    have h := setTo_lt p k
    unfold setTo
    rw [Nat.pow_succ]
    split <;> omega
theorem testBit_setTo (p : Nat → Bool) (j : Nat) : ∀ k, (setTo p k).testBit j = (decide (j < k) && p j)
  | 0 => by simp [setTo]
  | k + 1 => by
    have hl := setTo_lt p k
    have ih := testBit_setTo p j k
    unfold setTo
    by_cases hp : p k = true
    · have ho := Nat.two_pow_add_eq_or_of_lt hl 1
      rw [Nat.mul_one] at ho
      rw [if_pos hp, Nat.add_comm, ho, Nat.testBit_or, ih, Nat.testBit_two_pow]
      by_cases hjk : k = j
      · subst hjk; simp [hp]
      · have : decide (j < k + 1) = decide (j < k) := by rw [decide_eq_decide]; omega
        simp [hjk, this]
    · rw [if_neg hp, ih]
      by_cases hjk : k = j
      · subst hjk; simp at hp; simp [hp]
      · have : decide (j < k + 1) = decide (j < k) := by rw [decide_eq_decide]; omega
        rw [this]
theorem setTo_congr {p q : Nat → Bool} : ∀ {k : Nat}, (∀ j, j < k → p j = q j) → setTo p k = setTo q k
  | 0, _ => rfl
  | k + 1, h => by
    have ih := setTo_congr (k := k) (fun j hj => h j (by omega))
    unfold setTo
    rw [h k (by omega), ih]

/-- THE SET OF THESE NUMBERS -/
def ofN (l : List Int) : Nat := setTo (fun j => decide ((j : Int) ∈ l)) 64
theorem ofN_lt (l : List Int) : ofN l < 18446744073709551616 := setTo_lt _ 64
theorem testBit_ofN (l : List Int) (j : Nat) : (ofN l).testBit j = (decide (j < 64) && decide ((j : Int) ∈ l)) := testBit_setTo _ j 64
theorem ofN_nil : ofN [] = 0 := by
  apply word_ext (ofN_lt _) (by decide); intro j hj; rw [testBit_ofN]; simp
theorem ofN_snoc_out (l : List Int) (i : Int) (h : ¬ (0 ≤ i ∧ i ≤ 63)) : ofN (l ++ [i]) = ofN l := by
  apply word_ext (ofN_lt _) (ofN_lt _); intro j hj
  rw [testBit_ofN, testBit_ofN]
  have : (j : Int) ≠ i := by omega
  simp [this]
theorem ofN_snoc_in (l : List Int) (i : Int) (h0 : 0 ≤ i) (h1 : i ≤ 63) : ofN (l ++ [i]) = ofN l ||| 2 ^ i.toNat := by
  have h2 : 2 ^ i.toNat < 2 ^ 64 := Nat.pow_lt_pow_right (by decide) (by omega)
  apply word_ext (ofN_lt _) (Nat.or_lt_two_pow (n := 64) (ofN_lt _) h2); intro j hj
  rw [Nat.testBit_or, testBit_ofN, testBit_ofN, Nat.testBit_two_pow]
  have e : decide (i.toNat = j) = decide ((j : Int) = i) := by rw [decide_eq_decide]; omega
  rw [e]; simp [hj]

/-- THE SET OF 0 TO i -/
def belowN (i : Int) : Nat := setTo (fun j => decide ((j : Int) ≤ i)) 64
theorem belowN_lt (i : Int) : belowN i < 18446744073709551616 := setTo_lt _ 64
theorem testBit_belowN (i : Int) (j : Nat) : (belowN i).testBit j = (decide (j < 64) && decide ((j : Int) ≤ i)) := testBit_setTo _ j 64
theorem belowN_neg (i : Int) (h : i < 0) : belowN i = 0 := by
  apply word_ext (belowN_lt _) (by decide); intro j hj; rw [testBit_belowN]
  have : ¬ (j : Int) ≤ i := by omega
  simp [this]
theorem ones_bit (j : Nat) : (18446744073709551615 : Nat).testBit j = decide (j < 64) := by
  have := testBit_not 0 j (by decide)
  simpa using this
theorem belowN_high (i : Int) (h : 63 ≤ i) : belowN i = 18446744073709551615 := by
  apply word_ext (belowN_lt _) (by decide); intro j hj; rw [testBit_belowN, ones_bit]
  have : (j : Int) ≤ i := by omega
  simp [this]
theorem belowN_mid (i : Int) (h0 : 0 ≤ i) (h : i ≤ 63) : belowN i = 18446744073709551615 / 2 ^ (63 - i).toNat := by
  apply word_ext (belowN_lt _) (Nat.lt_of_le_of_lt (Nat.div_le_self _ _) (by decide)); intro j hj
  rw [testBit_belowN, Nat.testBit_div_two_pow, ones_bit]
  simp [hj]; omega

/-- IS EACH MEMBER OF a ONE OF b? -/
def inB (a b : Nat) : Bool := decide (a &&& (18446744073709551615 - b) = 0)
theorem inB_iff {a b : Nat} (hb : b < 18446744073709551616) : inB a b = true ↔ ∀ j, j < 64 → a.testBit j = true → b.testBit j = true := by
  unfold inB
  rw [decide_eq_true_iff]
  constructor
  · intro h j hj h1
    have := congrArg (fun x => x.testBit j) h
    simp only [Nat.testBit_and, testBit_not _ _ hb, Nat.zero_testBit, h1, hj] at this
    simpa using this
  · intro h
    apply word_ext (Nat.and_lt_two_pow (n := 64) _ (by omega)) (by decide)
    intro j hj
    rw [Nat.testBit_and, testBit_not _ _ hb]
    cases h1 : a.testBit j
    · simp
    · simp [h j hj h1]

/-- DOES s HAVE i? -/
def hasB (s : Nat) (i : Int) : Bool := decide (0 ≤ i) && (decide (i ≤ 63) && s.testBit i.toNat)

end Go.Proofs.YthfoagglncimnaaDoor.St
