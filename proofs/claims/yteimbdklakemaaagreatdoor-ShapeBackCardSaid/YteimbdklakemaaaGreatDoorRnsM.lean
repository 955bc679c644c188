/-
  PLAIN MATHEMATICS OF RUNES: a text's runes; runes as bytes; there and back.
-/
import Derived.Lib.RuneCount
import GoSem.Core.Utf8
namespace Go.Proofs.YteimbdklakemaaaGreatDoor
namespace Rn
/-- a function's bytes as a list. (Of a function at large: the kernel runs deep where it may open Utf8.encode.) -/
def encWith (f : Int → ByteArray) (r : Int) : List UInt8 := (f r).data.toList
theorem encWith_of (f : Int → ByteArray) {r : Int} {x : ByteArray} {l : List UInt8} (h : f r = x) (hl : x.data.toList = l) : encWith f r = l := by
  unfold encWith
  rw [h, hl]
abbrev enc : Int → List UInt8 := encWith Utf8.encode
def encs (l : List Int) : List UInt8 := l.flatMap enc
/-- the rune that stands at a byte, and how many bytes it has -/
def dec (bs : List UInt8) (i : Nat) : Nat × Nat := Utf8.decode ⟨bs.toArray⟩ i
def runesAt (bs : List UInt8) : Nat → Nat → List Int
  | 0, _ => []
  | k + 1, i => if i < bs.length then ((dec bs i).1 : Int) :: runesAt bs k (i + (dec bs i).2) else []
def runes (bs : List UInt8) : List Int := runesAt bs bs.length 0

theorem byte_eq {n : Nat} {b : UInt8} (h : n = b.toNat) : UInt8.ofNat n = b := by subst h; simp
theorem get_at (bs : List UInt8) (j : Nat) : (⟨bs.toArray⟩ : ByteArray).get! j = bs.getD j 0 := by
  simp [ByteArray.get!, List.getD_eq_getElem?_getD, getElem!_def]
  cases bs[j]? <;> rfl
theorem drop_at {bs : List UInt8} {j : Nat} (h : j < bs.length) : bs.drop j = bs.getD j 0 :: bs.drop (j + 1) := by
  rw [List.drop_eq_getElem_cons h, List.getD_eq_getElem?_getD, List.getElem?_eq_getElem h]
  rfl
theorem bits (r : Int) (c : Nat) (hv : Utf8.valid r = true) (hc : r.toNat = c) : Utf8.encode r = (if c < 128 then ⟨#[UInt8.ofNat c]⟩ else if c < 2048 then ⟨#[UInt8.ofNat (192 + c / 64), UInt8.ofNat (128 + c % 64)]⟩ else if c < 65536 then ⟨#[UInt8.ofNat (224 + c / 4096), UInt8.ofNat (128 + c / 64 % 64), UInt8.ofNat (128 + c % 64)]⟩
    else ⟨#[UInt8.ofNat (240 + c / 262144), UInt8.ofNat (128 + c / 4096 % 64), UInt8.ofNat (128 + c / 64 % 64), UInt8.ofNat (128 + c % 64)]⟩) := by
  subst hc
  unfold Utf8.encode
  rw [if_pos hv]
theorem enc_of {r : Nat} {x : ByteArray} {l : List UInt8} (h : Utf8.encode (r : Int) = x) (hl : x.data.toList = l) : enc r = l := encWith_of Utf8.encode h hl
theorem enc_one {r : Nat} (h : r < 128) : enc r = [UInt8.ofNat r] := by
  have hv : Utf8.valid r = true := by unfold Utf8.valid; simp; omega
  exact enc_of ((bits r r hv (Int.toNat_natCast r)).trans (if_pos h)) rfl
theorem enc_two {r : Nat} (h0 : 128 ≤ r) (h : r < 2048) : enc r = [UInt8.ofNat (192 + r / 64), UInt8.ofNat (128 + r % 64)] := by
  have hv : Utf8.valid r = true := by unfold Utf8.valid; simp; omega
  exact enc_of ((bits r r hv (Int.toNat_natCast r)).trans ((if_neg (by omega)).trans (if_pos h))) rfl
theorem enc_three {r : Nat} (h0 : 2048 ≤ r) (h : r < 65536) (hv : Utf8.valid r = true) : enc r = [UInt8.ofNat (224 + r / 4096), UInt8.ofNat (128 + r / 64 % 64), UInt8.ofNat (128 + r % 64)] :=
  enc_of ((bits r r hv (Int.toNat_natCast r)).trans ((if_neg (by omega)).trans ((if_neg (by omega)).trans (if_pos h)))) rfl
theorem enc_four {r : Nat} (h0 : 65536 ≤ r) (hv : Utf8.valid r = true) : enc r = [UInt8.ofNat (240 + r / 262144), UInt8.ofNat (128 + r / 4096 % 64), UInt8.ofNat (128 + r / 64 % 64), UInt8.ofNat (128 + r % 64)] :=
  enc_of ((bits r r hv (Int.toNat_natCast r)).trans ((if_neg (by omega)).trans ((if_neg (by omega)).trans (if_neg (by omega))))) rfl
/-- the bytes of a rune that is told, and isn't the mark of a wrong byte -/
theorem enc_dec {bs : List UInt8} {i : Nat} (hi : i < bs.length) (hc : (dec bs i).1 ≠ 65533) : (bs.drop i).take (dec bs i).2 = enc (dec bs i).1 ∧ i + (dec bs i).2 ≤ bs.length ∧ Utf8.valid (dec bs i).1 = true := by
  have hsz : (⟨bs.toArray⟩ : ByteArray).size = bs.length := by simp [ByteArray.size]
  unfold dec Utf8.decode at hc ⊢
  simp only [get_at, hsz, Nat.add_zero, Utf8.runeError] at hc ⊢
  have d0 := drop_at hi
  generalize hb0 : bs.getD i 0 = b0 at hc d0 ⊢
  have l0 := b0.toNat_lt
  by_cases c1 : b0.toNat < 128
  · simp only [if_pos c1] at hc ⊢
    refine ⟨?_, by omega, by unfold Utf8.valid; simp; omega⟩
    rw [enc_one c1, d0, byte_eq rfl]
    rfl
  rw [if_neg c1] at hc ⊢
  by_cases c2 : (b0.toNat / 32 == 6 && (decide (i + 1 < bs.length) && (bs.getD (i + 1) 0).toNat / 64 == 2)) = true
  · rw [if_pos c2] at hc ⊢
    simp only [Bool.and_eq_true, beq_iff_eq, decide_eq_true_eq] at c2
    obtain ⟨e0, k1, e1⟩ := c2
    have d1 := drop_at k1
    generalize bs.getD (i + 1) 0 = b1 at hc d1 e1 ⊢
    have l1 := b1.toNat_lt
    by_cases c3 : b0.toNat % 32 * 64 + b1.toNat % 64 ≥ 128
    · simp only [if_pos c3] at hc ⊢
      refine ⟨?_, by omega, by unfold Utf8.valid; simp; omega⟩
      rw [enc_two c3 (by omega), d0, d1, byte_eq (b := b0) (by omega), byte_eq (b := b1) (by omega)]
      rfl
    · rw [if_neg c3] at hc
      exact absurd rfl hc
  rw [if_neg c2] at hc ⊢
  by_cases c4 : (b0.toNat / 16 == 14 && (decide (i + 1 < bs.length) && (bs.getD (i + 1) 0).toNat / 64 == 2) && (decide (i + 2 < bs.length) && (bs.getD (i + 2) 0).toNat / 64 == 2)) = true
  · rw [if_pos c4] at hc ⊢
    simp only [Bool.and_eq_true, beq_iff_eq, decide_eq_true_eq] at c4
    obtain ⟨⟨e0, k1, e1⟩, k2, e2⟩ := c4
    have d1 := drop_at k1
    have d2 := drop_at k2
    clear c2
    generalize bs.getD (i + 1) 0 = b1 at hc d1 e1 ⊢
    generalize bs.getD (i + 2) 0 = b2 at hc d2 e2 ⊢
    have l1 := b1.toNat_lt
    have l2 := b2.toNat_lt
    generalize hr : b0.toNat % 16 * 4096 + b1.toNat % 64 * 64 + b2.toNat % 64 = r at hc ⊢
    by_cases c5 : (decide (r ≥ 2048) && Utf8.valid r) = true
    · simp only [if_pos c5] at hc ⊢
      simp only [Bool.and_eq_true, decide_eq_true_eq] at c5
      refine ⟨?_, by omega, c5.2⟩
      rw [enc_three c5.1 (by omega) c5.2, d0, d1, d2, byte_eq (b := b0) (by omega), byte_eq (b := b1) (by omega), byte_eq (b := b2) (by omega)]
      rfl
    · rw [if_neg c5] at hc
      exact absurd rfl hc
  rw [if_neg c4] at hc ⊢
  clear c2 c4
  by_cases c6 : (b0.toNat / 8 == 30 && (decide (i + 1 < bs.length) && (bs.getD (i + 1) 0).toNat / 64 == 2) && (decide (i + 2 < bs.length) && (bs.getD (i + 2) 0).toNat / 64 == 2) && (decide (i + 3 < bs.length) && (bs.getD (i + 3) 0).toNat / 64 == 2)) = true
  · rw [if_pos c6] at hc ⊢
    simp only [Bool.and_eq_true, beq_iff_eq, decide_eq_true_eq] at c6
    obtain ⟨⟨⟨e0, k1, e1⟩, k2, e2⟩, k3, e3⟩ := c6
    have d1 := drop_at k1
    have d2 := drop_at k2
    have d3 := drop_at k3
    generalize bs.getD (i + 1) 0 = b1 at hc d1 e1 ⊢
    generalize bs.getD (i + 2) 0 = b2 at hc d2 e2 ⊢
    generalize bs.getD (i + 3) 0 = b3 at hc d3 e3 ⊢
    have l1 := b1.toNat_lt
    have l2 := b2.toNat_lt
    have l3 := b3.toNat_lt
    generalize hr : b0.toNat % 8 * 262144 + b1.toNat % 64 * 4096 + b2.toNat % 64 * 64 + b3.toNat % 64 = r at hc ⊢
    by_cases c7 : (decide (r ≥ 65536) && Utf8.valid r) = true
    · simp only [if_pos c7] at hc ⊢
      simp only [Bool.and_eq_true, decide_eq_true_eq] at c7
      refine ⟨?_, by omega, c7.2⟩
      rw [enc_four c7.1 c7.2, d0, d1, d2, d3, byte_eq (b := b0) (by omega), byte_eq (b := b1) (by omega), byte_eq (b := b2) (by omega), byte_eq (b := b3) (by omega)]
      rfl
    · rw [if_neg c7] at hc
      exact absurd rfl hc
  rw [if_neg c6] at hc
  exact absurd rfl hc
theorem get_drop (bs : List UInt8) (i k : Nat) : bs.getD (i + k) 0 = (bs.drop i).getD k 0 := by
  rw [List.getD_eq_getElem?_getD, List.getD_eq_getElem?_getD, List.getElem?_drop]
theorem of_nat {n : Nat} (h : n < 256) : (UInt8.ofNat n).toNat = n := by
  rw [UInt8.toNat_ofNat']
  omega
/-- the rune whose bytes stand there is told -/
theorem dec_enc {bs post : List UInt8} {i r : Nat} (hv : Utf8.valid r = true) (hd : bs.drop i = enc r ++ post) : dec bs i = (r, (enc r).length) := by
  have hsz : (⟨bs.toArray⟩ : ByteArray).size = bs.length := by simp [ByteArray.size]
  have hr : r < 1114112 := by unfold Utf8.valid at hv; simp at hv; omega
  have hl : (enc r ++ post).length = bs.length - i := by rw [← hd, List.length_drop]
  unfold dec Utf8.decode
  simp only [get_at, hsz, Utf8.runeError]
  have g : ∀ k, bs.getD (i + k) 0 = (enc r ++ post).getD k 0 := fun k => by rw [get_drop, hd]
  simp only [g]
  clear g hd hsz
  by_cases c1 : r < 128
  · rw [enc_one c1] at hl ⊢
    simp only [List.cons_append, List.nil_append, List.getD_cons_zero, List.length_cons, List.length_nil]
    rw [of_nat (by omega), if_pos c1]
  by_cases c2 : r < 2048
  · rw [enc_two (by omega) c2] at hl ⊢
    simp only [List.cons_append, List.nil_append, List.getD_cons_zero, List.getD_cons_succ, List.length_cons, List.length_nil] at hl ⊢
    rw [of_nat (n := 192 + r / 64) (by omega), of_nat (n := 128 + r % 64) (by omega)]
    rw [if_neg (by omega)]
    have e1 : (192 + r / 64) / 32 = 6 := by omega
    have e2 : (128 + r % 64) / 64 = 2 := by omega
    have e3 : (192 + r / 64) % 32 * 64 + (128 + r % 64) % 64 = r := by omega
    have k1 : i + 1 < bs.length := by omega
    rw [e1, e2, e3, decide_eq_true k1, if_pos (by decide), if_pos (by omega)]
  by_cases c3 : r < 65536
  · rw [enc_three (by omega) c3 hv] at hl ⊢
    simp only [List.cons_append, List.nil_append, List.getD_cons_zero, List.getD_cons_succ, List.length_cons, List.length_nil] at hl ⊢
    rw [of_nat (n := 224 + r / 4096) (by omega), of_nat (n := 128 + r / 64 % 64) (by omega), of_nat (n := 128 + r % 64) (by omega)]
    rw [if_neg (by omega)]
    have e0 : (224 + r / 4096) / 32 = 7 := by omega
    have e1 : (224 + r / 4096) / 16 = 14 := by omega
    have e2 : (128 + r / 64 % 64) / 64 = 2 := by omega
    have e4 : (128 + r % 64) / 64 = 2 := by omega
    have e3 : (224 + r / 4096) % 16 * 4096 + (128 + r / 64 % 64) % 64 * 64 + (128 + r % 64) % 64 = r := by omega
    have k1 : i + 1 < bs.length := by omega
    have k2 : i + 2 < bs.length := by omega
    rw [e0, e1, e2, e3, e4, decide_eq_true k1, decide_eq_true k2, if_neg (by decide), if_pos (by decide), if_pos]
    rw [hv, Bool.and_true]
    exact decide_eq_true (by omega)
  · rw [enc_four (by omega) hv] at hl ⊢
    simp only [List.cons_append, List.nil_append, List.getD_cons_zero, List.getD_cons_succ, List.length_cons, List.length_nil] at hl ⊢
    rw [of_nat (n := 240 + r / 262144) (by omega), of_nat (n := 128 + r / 4096 % 64) (by omega), of_nat (n := 128 + r / 64 % 64) (by omega), of_nat (n := 128 + r % 64) (by omega)]
    rw [if_neg (by omega)]
    have e0 : (240 + r / 262144) / 32 = 7 := by omega
    have e1 : (240 + r / 262144) / 16 = 15 := by omega
    have e5 : (240 + r / 262144) / 8 = 30 := by omega
    have e6 : (128 + r / 4096 % 64) / 64 = 2 := by omega
    have e2 : (128 + r / 64 % 64) / 64 = 2 := by omega
    have e4 : (128 + r % 64) / 64 = 2 := by omega
    have e3 : (240 + r / 262144) % 8 * 262144 + (128 + r / 4096 % 64) % 64 * 4096 + (128 + r / 64 % 64) % 64 * 64 + (128 + r % 64) % 64 = r := by omega
    have k1 : i + 1 < bs.length := by omega
    have k2 : i + 2 < bs.length := by omega
    have k3 : i + 3 < bs.length := by omega
    rw [e0, e1, e2, e3, e4, e5, e6, decide_eq_true k1, decide_eq_true k2, decide_eq_true k3, if_neg (by decide), if_neg (by decide), if_pos (by decide), if_pos]
    rw [hv, Bool.and_true]
    exact decide_eq_true (by omega)
theorem enc_size {r : Nat} (hv : Utf8.valid r = true) : 1 ≤ (enc r).length ∧ (enc r).length ≤ 4 := by
  by_cases c1 : r < 128
  · rw [enc_one c1]; simp
  by_cases c2 : r < 2048
  · rw [enc_two (by omega) c2]; simp
  by_cases c3 : r < 65536
  · rw [enc_three (by omega) c3 hv]; simp
  · rw [enc_four (by omega) hv]; simp
theorem dec_pos {bs : List UInt8} {i : Nat} (h : i < bs.length) : 1 ≤ (dec bs i).2 :=
  Lib.decode_width_pos _ i (by simpa [ByteArray.size] using h)
theorem runesAt_end (bs : List UInt8) (k : Nat) {i : Nat} (h : ¬ i < bs.length) : runesAt bs k i = [] := by
  cases k with
  | zero => rfl
  | succ k => rw [runesAt, if_neg h]
theorem runesAt_encs (bs : List UInt8) : ∀ (l : List Int) (k i : Nat), (∀ r ∈ l, Utf8.valid r = true) → bs.drop i = encs l → bs.length ≤ i + k → runesAt bs k i = l := by
  intro l
  induction l with
  | nil =>
    intro k i _ hd _
    refine runesAt_end bs k ?_
    have : (bs.drop i).length = 0 := by rw [hd]; rfl
    rw [List.length_drop] at this
    omega
  | cons r s ih =>
    intro k i hv hd hk
    have hr := hv r List.mem_cons_self
    obtain ⟨n, rfl⟩ : ∃ n : Nat, r = n := ⟨r.toNat, by unfold Utf8.valid at hr; simp at hr; omega⟩
    have hd' : bs.drop i = enc n ++ encs s := by rw [hd]; rfl
    have hl : (bs.drop i).length = (enc n).length + (encs s).length := by rw [hd', List.length_append]
    rw [List.length_drop] at hl
    have hs := enc_size hr
    cases k with
    | zero => omega
    | succ k =>
      rw [runesAt, if_pos (by omega), dec_enc hr hd']
      rw [ih k _ (fun r hr => hv r (List.mem_cons_of_mem _ hr)) ?_ (by omega)]
      rw [← List.drop_drop, hd', List.drop_left]
/-- the runes of runes' bytes -/
theorem runes_encs {l : List Int} (hv : ∀ r ∈ l, Utf8.valid r = true) : runes (encs l) = l :=
  runesAt_encs _ l _ 0 hv (List.drop_zero) (by omega)
theorem encs_runesAt (bs : List UInt8) : ∀ (k i : Nat), i ≤ bs.length → bs.length ≤ i + k → (∀ r ∈ runesAt bs k i, r ≠ 65533) → bs.drop i = encs (runesAt bs k i) ∧ ∀ r ∈ runesAt bs k i, Utf8.valid r = true := by
  intro k
  induction k with
  | zero =>
    intro i hi hk _
    rw [runesAt, List.drop_of_length_le (by omega)]
    exact ⟨rfl, by simp⟩
  | succ k ih =>
    intro i hi hk hn
    rw [runesAt] at hn ⊢
    by_cases h : i < bs.length
    · rw [if_pos h] at hn ⊢
      have h0 := hn _ List.mem_cons_self
      obtain ⟨e1, e2, e3⟩ := enc_dec h (fun g => h0 (by rw [g]; rfl))
      have hp := dec_pos h
      obtain ⟨f1, f2⟩ := ih (i + (dec bs i).2) e2 (by omega) (fun r hr => hn r (List.mem_cons_of_mem _ hr))
      refine ⟨?_, ?_⟩
      · show bs.drop i = enc (dec bs i).1 ++ encs _
        rw [← e1, ← f1, ← List.drop_drop, List.take_append_drop]
      · intro r hr
        rcases List.mem_cons.1 hr with rfl | hr
        · exact e3
        · exact f2 r hr
    · rw [if_neg h, List.drop_of_length_le (by omega)]
      exact ⟨rfl, by simp⟩
/-- a text without a wrong byte is its runes' bytes -/
theorem encs_runes {bs : List UInt8} (h : ∀ r ∈ runes bs, r ≠ 65533) : encs (runes bs) = bs := by
  have := (encs_runesAt bs bs.length 0 (by omega) (by omega) h).1
  rw [List.drop_zero] at this
  exact this.symm
theorem runes_le (bs : List UInt8) : ∀ (k i : Nat), (runesAt bs k i).length ≤ k := by
  intro k
  induction k with
  | zero => intro i; exact Nat.le_refl _
  | succ k ih =>
    intro i
    rw [runesAt]
    split
    · rw [List.length_cons]; have := ih (i + (dec bs i).2); omega
    · simp
theorem encs_app (l m : List Int) : encs (l ++ m) = encs l ++ encs m := List.flatMap_append
end Rn
end Go.Proofs.YteimbdklakemaaaGreatDoor
