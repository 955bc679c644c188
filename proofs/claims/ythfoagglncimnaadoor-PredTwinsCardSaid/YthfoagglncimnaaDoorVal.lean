/-
  PLAIN MATHEMATICS OF package value: numerals read and written; what Parse tells; the document's own road to it.
-/
import Derived.Lib.ItoaNum
import Derived.Lib.ParseIntBCases
import Derived.Lib.Strings
namespace Va
open Go.Lib

/-- null's text -/
def nul : List UInt8 := [226, 136, 133]
def isD (c : UInt8) : Bool := decide (48 ≤ c.toNat) && decide (c.toNat ≤ 57)
/-- digits read on -/
def stp (a : Nat) (c : UInt8) : Nat := 10 * a + (c.toNat - 48)
def num (a : Nat) (l : List UInt8) : Nat := l.foldl stp a
theorem num_nil (a : Nat) : num a [] = a := rfl
theorem num_cons (a : Nat) (c : UInt8) (r : List UInt8) : num a (c :: r) = num (10 * a + (c.toNat - 48)) r := by unfold num; rw [List.foldl_cons, stp]
theorem num_append (a : Nat) (l m : List UInt8) : num a (l ++ m) = num (num a l) m := by unfold num; rw [List.foldl_append]
theorem num_le (a : Nat) (l : List UInt8) : a ≤ num a l := by
  induction l generalizing a with
  | nil => exact Nat.le_refl _
  | cons c r ih => rw [num_cons]; exact Nat.le_trans (by omega) (ih _)
theorem isD_iff {c : UInt8} : isD c = true ↔ 48 ≤ c.toNat ∧ c.toNat ≤ 57 := by simp [isD]

/-- what decimal tells -/
def dec (l : List UInt8) : Bool :=
  (trimPrefix l [45]).all isD && (if hasPrefix (trimPrefix l [45]) [48] then decide (l = [48]) else decide (trimPrefix l [45] ≠ []))

structure PR where
  z : Bool
  v : Int
  e : Int
  deriving DecidableEq

def ofEnd : NumEnd Int → PR
  | .ok v => ⟨false, v, 0⟩
  | _ => ⟨false, 0, 3⟩
/-- what Parse tells -/
def par (l : List UInt8) : PR := if l = nul then ⟨true, 0, 0⟩ else if dec l then ofEnd (parseIntB 64 l) else ⟨false, 0, 1⟩

/-- a number's digits, no nought ahead -/
def can (d : List UInt8) : Bool := d.all isD && (decide (d = [48]) || (decide (d ≠ []) && decide (d.head? ≠ some 48)))

theorem trim_cons (c : UInt8) (r : List UInt8) : trimPrefix (c :: r) [45] = if c = 45 then r else c :: r := by
  unfold trimPrefix hasPrefix
  by_cases h : c = 45
  · subst h; simp [List.isPrefixOf]
  · rw [if_neg h]
    have : ((45 : UInt8) == c) = false := by simpa using fun e => h e.symm
    simp [List.isPrefixOf, this]
theorem trim_nil : trimPrefix [] [45] = ([] : List UInt8) := rfl
theorem has48 (d : List UInt8) : hasPrefix d [48] = decide (d.head? = some 48) := by
  unfold hasPrefix
  cases d with
  | nil => rfl
  | cons c r =>
    by_cases h : c = 48
    · subst h; simp [List.isPrefixOf]
    · have : ((48 : UInt8) == c) = false := by simpa using fun e => h e.symm
      simp [List.isPrefixOf, this, h]
theorem isD_not {c : UInt8} (h : isD c = true) : c ≠ 45 ∧ c ≠ 43 := by
  have := isD_iff.1 h
  constructor <;> (rintro rfl; revert this; decide)

/-- a decimal is a number's digits, or '-' and the digits of a number that is not 0 -/
theorem dec_iff (l : List UInt8) : dec l = true ↔ (can l = true) ∨ (∃ d, l = 45 :: d ∧ can d = true ∧ d ≠ [48]) := by
  cases l with
  | nil => simp [dec, trim_nil, can, hasPrefix]
  | cons c r =>
    unfold dec
    rw [trim_cons, has48]
    by_cases h : c = 45
    · subst h
      have e1 : isD 45 = false := by decide
      rw [if_pos rfl]
      constructor
      · intro H
        refine .inr ⟨r, rfl, ?_, ?_⟩
        · rw [Bool.and_eq_true] at H
          obtain ⟨H1, H2⟩ := H
          by_cases h8 : r.head? = some 48
          · simp [h8] at H2
          · have hr : r ≠ [] := by simpa [h8] using H2
            unfold can
            rw [H1]
            simp only [Bool.true_and, Bool.or_eq_true, Bool.and_eq_true, decide_eq_true_eq]
            exact .inr ⟨hr, h8⟩
        · rintro rfl
          revert H; decide
      · rintro (H | ⟨d, hd, H, hne⟩)
        · simp [can, e1] at H
        · obtain rfl : r = d := by simpa using hd
          simp only [can, Bool.and_eq_true, Bool.or_eq_true, decide_eq_true_eq] at H
          obtain ⟨H1, H2 | ⟨H2, H3⟩⟩ := H
          · exact absurd H2 hne
          · rw [H1]; simp only [Bool.true_and, H3, decide_false, Bool.false_eq_true, if_false, decide_eq_true_eq]; exact H2
    · rw [if_neg h]
      constructor
      · intro H
        left
        rw [Bool.and_eq_true] at H
        obtain ⟨H1, H2⟩ := H
        by_cases h8 : (c :: r).head? = some 48
        · rw [if_pos (by simpa using h8)] at H2
          unfold can
          rw [H1, H2]; rfl
        · unfold can
          rw [H1]
          simp only [Bool.true_and, Bool.or_eq_true, Bool.and_eq_true, decide_eq_true_eq]
          exact .inr ⟨by simp, h8⟩
      · rintro (H | ⟨d, hd, _⟩)
        · simp only [can, Bool.and_eq_true, Bool.or_eq_true, decide_eq_true_eq] at H
          obtain ⟨H1, H2 | ⟨H2, H3⟩⟩ := H
          · rw [H1, H2]; rfl
          · rw [H1, if_neg (by simpa using H3)]; simp
        · injection hd with h1 h2
          exact absurd h1 h

theorem uintM (M : Nat) (hM : M = 18446744073709551615) (d : List UInt8) : ∀ a, a ≤ M → d.all isD = true →
    parseUintM M a d = if num a d ≤ M then .ok (num a d) else .range := by
  induction d with
  | nil => intro a ha _; rw [parseUintM, num_nil, if_pos ha]
  | cons c r ih =>
    intro a ha hd
    simp only [List.all_cons, Bool.and_eq_true] at hd
    have hc := isD_iff.1 hd.1
    rw [parseUintM, if_pos hc, num_cons]
    have hle := num_le (10 * a + (c.toNat - 48)) r
    by_cases h1 : 1844674407370955162 ≤ a
    · rw [if_pos h1, if_neg (by omega)]
    · rw [if_neg h1]
      by_cases h2 : M < a * 10 + (c.toNat - 48)
      · rw [if_pos h2, if_neg (by omega)]
      · rw [if_neg h2, ih _ (by omega) hd.2, Nat.mul_comm a 10]

theorem uintB {d : List UInt8} (h : d.all isD = true) (hne : d ≠ []) : parseUintB 64 d = if num 0 d ≤ 18446744073709551615 then .ok (num 0 d) else .range := by
  unfold parseUintB
  rw [if_neg hne, show 2 ^ 64 - 1 = 18446744073709551615 by decide +kernel]
  exact uintM _ (by decide +kernel) d 0 (Nat.zero_le _) h

/-- what a numeral without a sign spells -/
theorem int_plain {d : List UInt8} (h : can d = true) : parseIntB 64 d = if num 0 d < 9223372036854775808 then .ok (num 0 d : Int) else .range := by
  have hall : d.all isD = true := by simp only [can, Bool.and_eq_true] at h; exact h.1
  cases d with
  | nil => simp [can] at h
  | cons c r =>
    have hc : isD c = true := by simp only [List.all_cons, Bool.and_eq_true] at hall; exact hall.1
    have h2 := isD_iff.1 hc
    have hu := uintB hall (by simp)
    have p63 : 2 ^ (64 - 1) = 9223372036854775808 := by decide +kernel
    rw [parseIntB_plain 64 c r (by omega) (by omega), hu, p63]
    clear hu hall h hc h2
    generalize num 0 (c :: r) = k
    by_cases h3 : k ≤ 18446744073709551615
    · rw [if_pos h3]
      show (if 9223372036854775808 ≤ k then _ else _) = _
      by_cases h4 : k < 9223372036854775808
      · rw [if_neg (by omega), if_pos h4]
      · rw [if_pos (by omega), if_neg h4]
    · rw [if_neg h3, if_neg (by omega)]; rfl
/-- .. with one -/
theorem int_minus {d : List UInt8} (h : can d = true) : parseIntB 64 (45 :: d) = if num 0 d ≤ 9223372036854775808 then .ok (-(num 0 d : Int)) else .range := by
  have hall : d.all isD = true := by simp only [can, Bool.and_eq_true] at h; exact h.1
  have hne : d ≠ [] := by rintro rfl; simp [can] at h
  have p63 : 2 ^ (64 - 1) = 9223372036854775808 := by decide +kernel
  rw [parseIntB_minus 64 d, uintB hall hne, p63]
  clear hall h hne
  generalize num 0 d = k
  by_cases h3 : k ≤ 18446744073709551615
  · rw [if_pos h3]
    show (if 9223372036854775808 < k then _ else _) = _
    by_cases h4 : k ≤ 9223372036854775808
    · rw [if_neg (by omega), if_pos h4]
    · rw [if_pos (by omega), if_neg h4]
  · rw [if_neg h3, if_neg (by omega)]; rfl

/-! ### digits written -/
theorem toNat_dig {k : Nat} (h : k < 10) : (UInt8.ofNat (48 + k)).toNat = 48 + k := by simp; omega
theorem isD_dig {k : Nat} (h : k < 10) : isD (UInt8.ofNat (48 + k)) = true := by rw [isD_iff, toNat_dig h]; omega
theorem digits_small {u : Nat} (h : u < 10) : decDigits u = [UInt8.ofNat (48 + u)] := by rw [decDigits, dif_pos h]
theorem digits_big {u : Nat} (h : ¬ u < 10) : decDigits u = decDigits (u / 10) ++ [UInt8.ofNat (48 + u % 10)] := by rw [decDigits, dif_neg h]
theorem dig_ne {k : Nat} (h : k < 10) (h0 : k ≠ 0) : UInt8.ofNat (48 + k) ≠ 48 := by
  intro e
  have := congrArg UInt8.toNat e
  rw [toNat_dig h] at this
  have e48 : (48 : UInt8).toNat = 48 := rfl
  omega
theorem digits_facts (u : Nat) : (decDigits u).all isD = true ∧ decDigits u ≠ [] ∧ num 0 (decDigits u) = u ∧ (u ≠ 0 → (decDigits u).head? ≠ some 48) := by
  induction u using Nat.strongRecOn with
  | _ u ih =>
    by_cases h : u < 10
    · rw [digits_small h]
      refine ⟨by rw [List.all_cons, isD_dig h]; rfl, by simp, ?_, ?_⟩
      · rw [num_cons, num_nil, toNat_dig h]; omega
      · intro h0 e
        exact dig_ne h h0 (by simpa using e)
    · obtain ⟨h1, h2, h3, h4⟩ := ih (u / 10) (by omega)
      have hm : u % 10 < 10 := Nat.mod_lt _ (by omega)
      rw [digits_big h]
      refine ⟨?_, by simp, ?_, ?_⟩
      · rw [List.all_append, h1, List.all_cons, isD_dig hm]; rfl
      · rw [num_append, h3, num_cons, num_nil, toNat_dig hm]; omega
      · intro _
        have := h4 (by omega)
        cases hd : decDigits (u / 10) with
        | nil => exact absurd hd h2
        | cons c r => rw [hd] at this; simpa using this
theorem can_digits (u : Nat) : can (decDigits u) = true := by
  obtain ⟨h1, h2, _, h4⟩ := digits_facts u
  unfold can
  rw [h1]
  by_cases h0 : u = 0
  · subst h0; rw [digits_small (by omega)]; rfl
  · simp [h2, h4 h0]
theorem num_pos : ∀ (d : List UInt8), d.all isD = true → d ≠ [] → d.head? ≠ some 48 → 1 ≤ num 0 d := by
  intro d h hne h48
  cases d with
  | nil => exact absurd rfl hne
  | cons c r =>
    simp only [List.all_cons, Bool.and_eq_true] at h
    have hc := isD_iff.1 h.1
    have : c.toNat ≠ 48 := fun e => h48 (by simp; exact UInt8.toNat_inj.1 e)
    have := num_le (10 * 0 + (c.toNat - 48)) r
    rw [num_cons]; omega
/-- a number's digits are those that are written -/
theorem digits_num_aux : ∀ (n : Nat) (d : List UInt8), d.length = n → d.all isD = true → d ≠ [] → d.head? ≠ some 48 → decDigits (num 0 d) = d := by
  intro n
  induction n with
  | zero => intro d hl _ hne; exact absurd (List.length_eq_zero_iff.1 hl) hne
  | succ n ih =>
    intro d hl hall hne h48
    rcases List.eq_nil_or_concat d with rfl | ⟨p, c, rfl⟩
    · exact absurd rfl hne
    · rw [List.concat_eq_append] at *
      rw [List.all_append, Bool.and_eq_true] at hall
      have hc : isD c = true := by simpa using hall.2
      have hc2 := isD_iff.1 hc
      have ec : UInt8.ofNat (48 + (c.toNat - 48)) = c := by
        rw [show 48 + (c.toNat - 48) = c.toNat by omega]; simp
      rw [num_append, num_cons, num_nil]
      by_cases hp : p = []
      · subst hp
        simp only [num_nil, Nat.mul_zero, Nat.zero_add, List.nil_append]
        rw [digits_small (by omega), ec]
      · have h48' : p.head? ≠ some 48 := by
          cases p with
          | nil => exact absurd rfl hp
          | cons x y => simpa using h48
        have hpos := num_pos p hall.1 hp h48'
        rw [digits_big (by omega), show (10 * num 0 p + (c.toNat - 48)) / 10 = num 0 p by omega, show (10 * num 0 p + (c.toNat - 48)) % 10 = c.toNat - 48 by omega, ec,
          ih p (by simp at hl; exact hl) hall.1 hp h48']
theorem digits_num {d : List UInt8} (h : can d = true) : decDigits (num 0 d) = d := by
  simp only [can, Bool.and_eq_true, Bool.or_eq_true, decide_eq_true_eq] at h
  obtain ⟨h1, rfl | ⟨h2, h3⟩⟩ := h
  · exact digits_small (u := 0) (by omega)
  · exact digits_num_aux _ d rfl h1 h2 h3
theorem num_digits (u : Nat) : num 0 (decDigits u) = u := (digits_facts u).2.2.1

/-! ### what Parse tells -/
theorem nul_not_dec : dec nul = false := by decide
theorem par_nul : par nul = ⟨true, 0, 0⟩ := by unfold par; rw [if_pos rfl]
theorem ne_nul_of_dec {l : List UInt8} (h : dec l = true) : l ≠ nul := by
  rintro rfl; rw [nul_not_dec] at h; cases h
theorem par_plain {d : List UInt8} (h : can d = true) : par d = if num 0 d < 9223372036854775808 then ⟨false, (num 0 d : Int), 0⟩ else ⟨false, 0, 3⟩ := by
  have hd := (dec_iff d).2 (.inl h)
  unfold par
  rw [if_neg (ne_nul_of_dec hd), if_pos hd, int_plain h]
  split <;> rfl
theorem par_minus {d : List UInt8} (h : can d = true) (h0 : d ≠ [48]) : par (45 :: d) = if num 0 d ≤ 9223372036854775808 then ⟨false, -(num 0 d : Int), 0⟩ else ⟨false, 0, 3⟩ := by
  have hd := (dec_iff (45 :: d)).2 (.inr ⟨d, rfl, h, h0⟩)
  unfold par
  rw [if_neg (ne_nul_of_dec hd), if_pos hd, int_minus h]
  split <;> rfl
theorem par_form {l : List UInt8} (h1 : l ≠ nul) (h2 : dec l = false) : par l = ⟨false, 0, 1⟩ := by
  unfold par; rw [if_neg h1, h2]; rfl

theorem dec_end {l : List UInt8} (h : dec l = true) : (∃ v, parseIntB 64 l = .ok v) ∨ parseIntB 64 l = .range := by
  rcases (dec_iff l).1 h with h | ⟨d, rfl, h, h0⟩
  · rw [int_plain h]
    split
    · exact .inl ⟨_, rfl⟩
    · exact .inr rfl
  · rw [int_minus h]
    split
    · exact .inl ⟨_, rfl⟩
    · exact .inr rfl
theorem par_end {l : List UInt8} (h1 : l ≠ nul) (h : dec l = true) : par l = ofEnd (parseIntB 64 l) := by unfold par; rw [if_neg h1, if_pos h]
/-- a number comes back of its text -/
theorem par_itoa (n : Int) (h0 : -9223372036854775808 ≤ n) (h1 : n ≤ 9223372036854775807) : par (itoa n) = ⟨false, n, 0⟩ := by
  unfold itoa
  by_cases hn : n < 0
  · have hne : decDigits n.natAbs ≠ [48] := by
      intro e
      have := congrArg (num 0) e
      rw [num_digits] at this
      have e2 : num 0 [48] = 0 := rfl
      omega
    rw [if_pos hn, par_minus (can_digits _) hne, num_digits, if_pos (by omega)]
    congr 1; omega
  · rw [if_neg hn, par_plain (can_digits _), num_digits, if_pos (by omega)]
    congr 1; omega

/-- the four ways in which Parse ends -/
theorem par_cases (l : List UInt8) : (l = nul ∧ par l = ⟨true, 0, 0⟩) ∨ (∃ n : Int, -9223372036854775808 ≤ n ∧ n ≤ 9223372036854775807 ∧ l = itoa n ∧ par l = ⟨false, n, 0⟩) ∨ par l = ⟨false, 0, 3⟩ ∨ par l = ⟨false, 0, 1⟩ := by
  by_cases h1 : l = nul
  · subst h1; exact .inl ⟨rfl, par_nul⟩
  · cases h2 : dec l with
    | false => exact .inr (.inr (.inr (par_form h1 h2)))
    | true =>
      rcases (dec_iff l).1 h2 with h | ⟨d, rfl, h, h0⟩
      · by_cases hs : num 0 l < 9223372036854775808
        · refine .inr (.inl ⟨(num 0 l : Int), by omega, by omega, ?_, by rw [par_plain h, if_pos hs]⟩)
          unfold itoa
          rw [if_neg (by omega), Int.toNat_natCast, digits_num h]
        · exact .inr (.inr (.inl (by rw [par_plain h, if_neg hs])))
      · by_cases hs : num 0 d ≤ 9223372036854775808
        · have hpos : 1 ≤ num 0 d := by
            have h' := h
            simp only [can, Bool.and_eq_true, Bool.or_eq_true, decide_eq_true_eq] at h'
            obtain ⟨h3, h4 | ⟨h4, h5⟩⟩ := h'
            · exact absurd h4 h0
            · exact num_pos d h3 h4 h5
          refine .inr (.inl ⟨-(num 0 d : Int), by omega, by omega, ?_, by rw [par_minus h h0, if_pos hs]⟩)
          unfold itoa
          rw [if_pos (by omega), Int.natAbs_neg, Int.natAbs_natCast, digits_num h]
        · exact .inr (.inr (.inl (by rw [par_minus h h0, if_neg hs])))
/-! ### the document's own road to what Parse tells -/
def mins (l : List UInt8) : Bool := decide (1 < l.length) && decide (l.head? = some 45)
def rest (l : List UInt8) : List UInt8 := if mins l then l.tail else l
/-- a decimal: its digits are what stands behind the sign -/
theorem rest_can {l : List UInt8} (h : dec l = true) : can (rest l) = true ∧ (mins l = true → rest l ≠ [48]) := by
  rcases (dec_iff l).1 h with hc | ⟨d, rfl, hc, h0⟩
  · have hm : mins l = false := by
      cases l with
      | nil => rfl
      | cons c r =>
        simp only [can, Bool.and_eq_true, List.all_cons] at hc
        have := (isD_not hc.1.1).1
        simp [mins, this]
    have hr : rest l = l := by unfold rest; rw [hm]; rfl
    rw [hr]
    exact ⟨hc, fun H => by rw [hm] at H; cases H⟩
  · have hd : d ≠ [] := by rintro rfl; simp [can] at hc
    have hl : 0 < d.length := List.length_pos_iff.2 hd
    have hm : mins (45 :: d) = true := by simp [mins]; omega
    have hr : rest (45 :: d) = d := by unfold rest; rw [hm]; rfl
    rw [hr]
    exact ⟨hc, fun _ => h0⟩
theorem rest_form {l : List UInt8} (h1 : l ≠ nul) (h : ¬ (can (rest l) = true ∧ (mins l = true → rest l ≠ [48]))) : par l = ⟨false, 0, 1⟩ := by
  refine par_form h1 ?_
  cases h2 : dec l with
  | false => rfl
  | true => exact absurd (rest_can h2) h
theorem rp_nil {l : List UInt8} (h1 : l ≠ nul) (h : rest l = []) : par l = ⟨false, 0, 1⟩ :=
  rest_form h1 fun ⟨hc, _⟩ => by rw [h] at hc; simp [can] at hc
theorem rp_bad {l : List UInt8} (h1 : l ≠ nul) (h : (rest l).all isD = false) : par l = ⟨false, 0, 1⟩ :=
  rest_form h1 fun ⟨hc, _⟩ => by simp [can, h] at hc
theorem rp_nought {l : List UInt8} (h1 : l ≠ nul) (h : (rest l).head? = some 48) (hl : 1 < l.length) : par l = ⟨false, 0, 1⟩ :=
  rest_form h1 fun ⟨hc, hm⟩ => by
    simp only [can, Bool.and_eq_true, Bool.or_eq_true, decide_eq_true_eq] at hc
    rcases hc.2 with he | ⟨_, he⟩
    · cases hmm : mins l with
      | true => exact hm hmm he
      | false =>
        unfold rest at he
        rw [hmm] at he
        simp only [Bool.false_eq_true, if_false] at he
        rw [he] at hl
        simp at hl
    · exact he h
theorem rp_num {l : List UInt8} (hall : (rest l).all isD = true) (hne : rest l ≠ []) (h48 : ¬ ((rest l).head? = some 48 ∧ 1 < l.length)) :
    par l = if mins l then (if num 0 (rest l) ≤ 9223372036854775808 then ⟨false, -(num 0 (rest l) : Int), 0⟩ else ⟨false, 0, 3⟩)
      else (if num 0 (rest l) < 9223372036854775808 then ⟨false, (num 0 (rest l) : Int), 0⟩ else ⟨false, 0, 3⟩) := by
  cases hm : mins l with
  | false =>
    have hr : rest l = l := by unfold rest; rw [hm]; rfl
    rw [hr] at hall hne h48 ⊢
    have hc : can l = true := by
      unfold can
      rw [hall, Bool.true_and, Bool.or_eq_true, Bool.and_eq_true, decide_eq_true_eq, decide_eq_true_eq, decide_eq_true_eq]
      by_cases h8 : l.head? = some 48
      · left
        have hl : ¬ 1 < l.length := fun h => h48 ⟨h8, h⟩
        cases l with
        | nil => exact absurd rfl hne
        | cons c r =>
          obtain rfl : c = 48 := by simpa using h8
          have : r = [] := List.eq_nil_of_length_eq_zero (by simp only [List.length_cons] at hl; omega)
          rw [this]
      · exact .inr ⟨hne, h8⟩
    rw [par_plain hc]; simp
  | true =>
    have hl : 1 < l.length := by simp only [mins, Bool.and_eq_true, decide_eq_true_eq] at hm; exact hm.1
    have hh : l.head? = some 45 := by simp only [mins, Bool.and_eq_true, decide_eq_true_eq] at hm; exact hm.2
    have h8 : (rest l).head? ≠ some 48 := fun h => h48 ⟨h, hl⟩
    have hc : can (rest l) = true := by
      unfold can
      rw [hall, Bool.true_and, Bool.or_eq_true, Bool.and_eq_true, decide_eq_true_eq, decide_eq_true_eq, decide_eq_true_eq]
      exact .inr ⟨hne, h8⟩
    have h0 : rest l ≠ [48] := fun h => h8 (by rw [h]; rfl)
    have hr : l = 45 :: rest l := by
      unfold rest
      rw [hm]
      cases l with
      | nil => simp at hh
      | cons c r =>
        obtain rfl : c = 45 := by simpa using hh
        rfl
    have hp := par_minus hc h0
    rw [← hr] at hp
    rw [hp]; simp

/-- the number so far, and whether it is too great -/
theorem num_snoc {d : List UInt8} {j : Nat} {c : UInt8} (h : d[j]? = some c) : num 0 (d.take (j + 1)) = 10 * num 0 (d.take j) + (c.toNat - 48) := by
  rw [List.take_add_one, h, num_append]; rfl

/-- the loop's word: behind j digits: the number, or that it is too great -/
def Lp (d : List UInt8) (j : Nat) (a : Int) (g : Bool) : Prop :=
  (d.take j).all isD = true ∧ 0 ≤ a ∧ a ≤ 9223372036854775808 ∧ (if g then 9223372036854775808 < num 0 (d.take j) else a = (num 0 (d.take j) : Int))
theorem Lp.zero (d : List UInt8) : Lp d 0 0 false := ⟨by simp, by omega, by omega, by simp [num_nil]⟩
theorem all_snoc {d : List UInt8} {j : Nat} {c : UInt8} (h : d[j]? = some c) (hc : isD c = true) (ht : (d.take j).all isD = true) : (d.take (j + 1)).all isD = true := by
  rw [List.take_add_one, h, List.all_append, ht]
  simpa using hc
theorem all_not {d : List UInt8} {j : Nat} {c : UInt8} (h : d[j]? = some c) (hc : isD c = false) : d.all isD = false := by
  rw [Bool.eq_false_iff]
  intro H
  rw [List.all_eq_true] at H
  rw [H c (List.mem_of_getElem? h)] at hc
  cases hc
theorem Lp.great {d : List UInt8} {j : Nat} {a : Int} {c : UInt8} (h : Lp d j a true) (hc : d[j]? = some c) (hd : isD c = true) : Lp d (j + 1) a true := by
  obtain ⟨h1, h2, h3, h4⟩ := h
  refine ⟨all_snoc hc hd h1, h2, h3, ?_⟩
  rw [if_pos rfl] at h4 ⊢
  rw [num_snoc hc]; omega
theorem Lp.over {d : List UInt8} {j : Nat} {a : Int} {c : UInt8} (h : Lp d j a false) (hc : d[j]? = some c) (hd : isD c = true)
    (ho : 922337203685477580 < a ∨ a = 922337203685477580 ∧ 8 < (c.toNat : Int) - 48) : Lp d (j + 1) a true := by
  obtain ⟨h1, h2, h3, h4⟩ := h
  have hd2 := isD_iff.1 hd
  refine ⟨all_snoc hc hd h1, h2, h3, ?_⟩
  rw [if_neg (by simp)] at h4
  rw [if_pos rfl, num_snoc hc]; omega
theorem Lp.on {d : List UInt8} {j : Nat} {a : Int} {c : UInt8} (h : Lp d j a false) (hc : d[j]? = some c) (hd : isD c = true)
    (ho : ¬ (922337203685477580 < a ∨ a = 922337203685477580 ∧ 8 < (c.toNat : Int) - 48)) : Lp d (j + 1) (10 * a + ((c.toNat : Int) - 48)) false := by
  obtain ⟨h1, h2, h3, h4⟩ := h
  have hd2 := isD_iff.1 hd
  rw [if_neg (by simp)] at h4
  refine ⟨all_snoc hc hd h1, by omega, by omega, ?_⟩
  rw [if_neg (by simp), num_snoc hc]; omega
theorem rp_end {l : List UInt8} {a : Int} {g : Bool} (h : Lp (rest l) (rest l).length a g) (hne : rest l ≠ []) (h48 : ¬ ((rest l).head? = some 48 ∧ 1 < l.length)) :
    par l = if g then ⟨false, 0, 3⟩ else if mins l then ⟨false, -a, 0⟩ else if a = 9223372036854775808 then ⟨false, 0, 3⟩ else ⟨false, a, 0⟩ := by
  obtain ⟨h1, h2, h3, h4⟩ := h
  rw [List.take_length] at h1 h4
  rw [rp_num h1 hne h48]
  generalize num 0 (rest l) = N at h4
  generalize mins l = b
  clear h1 hne h48
  cases g <;> cases b <;> simp only [Bool.false_eq_true, if_false, if_true] at h4 ⊢
  · subst h4
    by_cases he : N < 9223372036854775808
    · rw [if_pos he, if_neg (by omega)]
    · rw [if_neg he, if_pos (by omega)]
  · subst h4
    rw [if_pos (by omega)]
  · rw [if_neg (by omega)]
  · rw [if_neg (by omega)]

/-! ### how two stand (b, c: null or not) -/
def right (b : Bool) (n : Int) : Bool := !b || n == 0
def same (b : Bool) (n : Int) (c : Bool) (m : Int) : Bool := (b && c) || (!b && !c && n == m)
def less (b : Bool) (n : Int) (c : Bool) (m : Int) : Bool := (b && !c) || (!b && !c && decide (n < m))
/-- ahead 0, equal 1, behind 2 -/
def place (b : Bool) (n : Int) (c : Bool) (m : Int) : Nat := if less b n c m then 0 else if less c m b n then 2 else 1
/-- what the table wants holds -/
def want (q p : Nat) : Bool := match q, p with
  | 1, 1 => true | 2, 0 => true | 2, 2 => true | 3, 0 => true | 4, 0 => true | 4, 1 => true | 5, 2 => true | 6, 1 => true | 6, 2 => true
  | _, _ => false
def truth (b : Bool) : Int := if b then 2 else 0
/-- how they compare -/
def comp (o : Int) (b : Bool) (n : Int) (c : Bool) (m : Int) : Int :=
  if b || c then 1 else if o = 1 then truth (n == m) else if o = 2 then truth (n != m) else if o = 3 then truth (decide (n < m)) else if o = 4 then truth (decide (n ≤ m))
    else if o = 5 then truth (decide (m < n)) else if o = 6 then truth (decide (m ≤ n)) else 1
theorem place_lt (b : Bool) (n : Int) (c : Bool) (m : Int) : place b n c m < 3 := by
  unfold place
  by_cases h : less b n c m = true
  · rw [if_pos h]; omega
  · rw [if_neg h]; split <;> omega
theorem comp_null {o : Int} {b : Bool} {n : Int} {c : Bool} {m : Int} (h : (b || c) = true) : comp o b n c m = 1 := by unfold comp; rw [if_pos h]
theorem comp_out {o : Int} {b : Bool} {n : Int} {c : Bool} {m : Int} (h : o < 1 ∨ 6 < o) : comp o b n c m = 1 := by
  unfold comp
  split
  · rfl
  · rw [if_neg (by omega), if_neg (by omega), if_neg (by omega), if_neg (by omega), if_neg (by omega), if_neg (by omega)]
theorem place_num (n m : Int) : place false n false m = if n < m then 0 else if m < n then 2 else 1 := by simp [place, less]
theorem comp_want (q : Nat) (h1 : 1 ≤ q) (h6 : q ≤ 6) (n m : Int) : comp (q : Int) false n false m = truth (want q (place false n false m)) := by
  rw [place_num]
  have hq : q = 1 ∨ q = 2 ∨ q = 3 ∨ q = 4 ∨ q = 5 ∨ q = 6 := by omega
  by_cases h : n < m
  · rw [if_pos h]
    have a1 : (n == m) = false := by simp; omega
    have a2 : (n != m) = true := by simp; omega
    have a3 : decide (n < m) = true := by simp; omega
    have a4 : decide (n ≤ m) = true := by simp; omega
    have a5 : decide (m < n) = false := by simp; omega
    have a6 : decide (m ≤ n) = false := by simp; omega
    rcases hq with rfl | rfl | rfl | rfl | rfl | rfl <;> simp only [comp, a1, a2, a3, a4, a5, a6] <;> rfl
  · rw [if_neg h]
    by_cases h' : m < n
    · rw [if_pos h']
      have a1 : (n == m) = false := by simp; omega
      have a2 : (n != m) = true := by simp; omega
      have a3 : decide (n < m) = false := by simp; omega
      have a4 : decide (n ≤ m) = false := by simp; omega
      have a5 : decide (m < n) = true := by simp; omega
      have a6 : decide (m ≤ n) = true := by simp; omega
      rcases hq with rfl | rfl | rfl | rfl | rfl | rfl <;> simp only [comp, a1, a2, a3, a4, a5, a6] <;> rfl
    · rw [if_neg h']
      obtain rfl : n = m := by omega
      have a1 : (n == n) = true := by simp
      have a2 : (n != n) = false := by simp
      have a3 : decide (n < n) = false := by simp
      have a4 : decide (n ≤ n) = true := by simp
      rcases hq with rfl | rfl | rfl | rfl | rfl | rfl <;> simp only [comp, a1, a2, a3, a4] <;> rfl
end Va
