/-
  PLAIN MATHEMATICS, no program: a word of 64 binary digits, its members, how many they are; the steps of the library's count of ones, byte by byte.
-/
namespace Go.Proofs.YthfoagglncimnaaDoor.St

/-- how many of the lowest k digits of x are 1 -/
def pop : Nat → Nat → Nat
  | 0, _ => 0
  | k + 1, x => x % 2 + pop k (x / 2)

def rep (c : Nat) : Nat → Nat
  | 0 => 0
  | n + 1 => 256 * rep c n + c

theorem and_split (y M c : Nat) (hc : c < 256) : y &&& (256 * M + c) = 256 * ((y / 256) &&& M) + ((y % 256) &&& c) := by
  have h1 : (y &&& (256 * M + c)) / 2 ^ 8 = (y / 2 ^ 8) &&& ((256 * M + c) / 2 ^ 8) := Nat.and_div_two_pow ..
  have h2 : (y &&& (256 * M + c)) % 2 ^ 8 = (y % 2 ^ 8) &&& ((256 * M + c) % 2 ^ 8) := Nat.and_mod_two_pow ..
  have e1 : (256 * M + c) / 2 ^ 8 = M := by omega
  have e2 : (256 * M + c) % 2 ^ 8 = c := by omega
  rw [e1] at h1
  rw [e2] at h2
  have h3 := Nat.div_add_mod (y &&& (256 * M + c)) (2 ^ 8)
  rw [h1, h2] at h3
  exact h3.symm

theorem rep_succ (c n : Nat) : rep c (n + 1) = 256 * rep c n + c := rfl

def s1 (n x : Nat) : Nat := ((x / 2) &&& rep 85 n) + (x &&& rep 85 n)
def s2 (n x : Nat) : Nat := ((x / 4) &&& rep 51 n) + (x &&& rep 51 n)
def s3 (n x : Nat) : Nat := (x / 16 + x) &&& rep 15 n
def g1 (r : Nat) : Nat := ((r / 2) &&& 85) + (r &&& 85)
def g2 (r : Nat) : Nat := ((r / 4) &&& 51) + (r &&& 51)

theorem m1 : ∀ b, b < 2 → ∀ r, r < 256 → (128 * b + r / 2) &&& 85 = (r / 2) &&& 85 := by decide +kernel
theorem m2 : ∀ b, b < 4 → ∀ r, r < 256 → (64 * b + r / 4) &&& 51 = (r / 4) &&& 51 := by decide +kernel
theorem g1_lt : ∀ r, r < 256 → g1 r < 256 := by decide +kernel
theorem g2_lt : ∀ r, r < 256 → g2 (g1 r) ≤ 68 ∧ g2 (g1 r) % 16 ≤ 4 := by decide +kernel
theorem g3_eq : ∀ r, r < 256 → g2 (g1 r) / 16 + g2 (g1 r) % 16 = pop 8 r := by decide +kernel
theorem and15 (v : Nat) : v &&& 15 = v % 16 := Nat.and_two_pow_sub_one_eq_mod v 4

theorem s1_succ (n x : Nat) : s1 (n + 1) x = 256 * s1 n (x / 256) + g1 (x % 256) := by
  have h := m1 (x / 256 % 2) (by omega) (x % 256) (by omega)
  have e1 : x / 2 % 256 = 128 * (x / 256 % 2) + x % 256 / 2 := by omega
  have e2 : x / 2 / 256 = x / 256 / 2 := by omega
  unfold s1 g1
  rw [rep_succ]
  rw [and_split _ _ _ (by omega), and_split _ _ _ (by omega), e1, e2, h]
  omega
theorem s2_succ (n x : Nat) : s2 (n + 1) x = 256 * s2 n (x / 256) + g2 (x % 256) := by
  have h := m2 (x / 256 % 4) (by omega) (x % 256) (by omega)
  have e1 : x / 4 % 256 = 64 * (x / 256 % 4) + x % 256 / 4 := by omega
  have e2 : x / 4 / 256 = x / 256 / 4 := by omega
  unfold s2 g2
  rw [rep_succ]
  rw [and_split _ _ _ (by omega), and_split _ _ _ (by omega), e1, e2, h]
  omega
theorem s3_succ (n q r : Nat) (hq : q % 16 ≤ 4) (hr : r ≤ 68) (hr2 : r % 16 ≤ 4) : s3 (n + 1) (256 * q + r) = 256 * s3 n q + (r / 16 + r % 16) := by
  unfold s3
  rw [rep_succ, and_split _ _ _ (by omega), and15]
  have e1 : ((256 * q + r) / 16 + (256 * q + r)) / 256 = q / 16 + q := by omega
  have e2 : ((256 * q + r) / 16 + (256 * q + r)) % 256 % 16 = r / 16 + r % 16 := by omega
  rw [e1, e2]

def fb (n x : Nat) : Nat := s3 n (s2 n (s1 n x))
theorem low4 (n x : Nat) : s2 n (s1 n x) % 16 ≤ 4 := by
  cases n with
  | zero => simp [s2, s1, rep]
  | succ n =>
    have hl := g1_lt (x % 256) (by omega)
    have h2 := g2_lt (x % 256) (by omega)
    rw [s1_succ, s2_succ]
    have e : (256 * s1 n (x / 256) + g1 (x % 256)) % 256 = g1 (x % 256) := by omega
    rw [e]
    omega
theorem fb_succ (n x : Nat) : fb (n + 1) x = 256 * fb n (x / 256) + pop 8 (x % 256) := by
  have hl := g1_lt (x % 256) (by omega)
  have h2 := g2_lt (x % 256) (by omega)
  unfold fb
  rw [s1_succ, s2_succ]
  have e : (256 * s1 n (x / 256) + g1 (x % 256)) % 256 = g1 (x % 256) := by omega
  have e' : (256 * s1 n (x / 256) + g1 (x % 256)) / 256 = s1 n (x / 256) := by omega
  rw [e, e', s3_succ _ _ _ (low4 _ _) h2.1 h2.2, g3_eq _ (by omega)]

theorem pop_le : ∀ (k x : Nat), pop k x ≤ k
  | 0, _ => Nat.le_refl _
  | k + 1, x => by have := pop_le k (x / 2); simp only [pop]; omega
theorem pop_add : ∀ (k j x : Nat), pop (k + j) x = pop k x + pop j (x / 2 ^ k)
  | 0, j, x => by simp [pop]
  | k + 1, j, x => by
    have h := pop_add k j (x / 2)
    have e : k + 1 + j = (k + j) + 1 := by omega
    rw [e]
    simp only [pop]
    rw [h, Nat.div_div_eq_div_mul, ← Nat.pow_succ', Nat.add_assoc]
theorem pop_mod : ∀ (k x : Nat), pop k (x % 2 ^ k) = pop k x
  | 0, _ => rfl
  | k + 1, x => by
    have h := pop_mod k (x / 2)
    simp only [pop]
    have e1 : x % 2 ^ (k + 1) % 2 = x % 2 := Nat.mod_mod_of_dvd _ ⟨2 ^ k, by rw [Nat.pow_succ']⟩
    have e2 : x % 2 ^ (k + 1) / 2 = x / 2 % 2 ^ k := by rw [Nat.pow_succ', Nat.mod_mul_right_div_self]
    rw [e1, e2, h]

/-- THE COUNT OF ONES, AS THE LIBRARY MAKES IT -/
def oc4 (x : Nat) : Nat := x + x / 256
def oc5 (x : Nat) : Nat := x + x / 65536
def oc6 (x : Nat) : Nat := x + x / 4294967296
theorem div1 (T a : Nat) (h : a < 256) : (256 * T + a) / 256 = T := by omega
theorem div2 (T a b : Nat) (h : a < 256) (g : b < 256) : (256 * (256 * T + b) + a) / 65536 = T := by omega
theorem div4 (T a b c d : Nat) (h : a < 256) (g : b < 256) (i : c < 256) (j : d < 256) : (256 * (256 * (256 * (256 * T + d) + c) + b) + a) / 4294967296 = T := by omega
theorem mod1 (T a : Nat) (h : a < 128) : (256 * T + a) % 128 = a := by omega
theorem oc4_eq (c0 c1 c2 c3 c4 c5 c6 c7 : Nat) (h0 : c0 ≤ 8) :
    oc4 (256 * (256 * (256 * (256 * (256 * (256 * (256 * c7 + c6) + c5) + c4) + c3) + c2) + c1) + c0) =
      256 * (256 * (256 * (256 * (256 * (256 * (256 * c7 + (c6 + c7)) + (c5 + c6)) + (c4 + c5)) + (c3 + c4)) + (c2 + c3)) + (c1 + c2)) + (c0 + c1) := by
  unfold oc4
  rw [div1 _ _ (by omega)]
  omega
theorem oc5_eq (c0 c1 c2 c3 c4 c5 c6 c7 : Nat) (h0 : c0 ≤ 16) (h1 : c1 ≤ 16) :
    oc5 (256 * (256 * (256 * (256 * (256 * (256 * (256 * c7 + c6) + c5) + c4) + c3) + c2) + c1) + c0) =
      256 * (256 * (256 * (256 * (256 * (256 * (256 * c7 + c6) + (c5 + c7)) + (c4 + c6)) + (c3 + c5)) + (c2 + c4)) + (c1 + c3)) + (c0 + c2) := by
  unfold oc5
  rw [div2 _ _ _ (by omega) (by omega)]
  omega
theorem oc6_eq (c0 c1 c2 c3 c4 c5 c6 c7 : Nat) (h0 : c0 ≤ 32) (h1 : c1 ≤ 32) (h2 : c2 ≤ 32) (h3 : c3 ≤ 32) :
    oc6 (256 * (256 * (256 * (256 * (256 * (256 * (256 * c7 + c6) + c5) + c4) + c3) + c2) + c1) + c0) =
      256 * (256 * (256 * (256 * (256 * (256 * (256 * c7 + c6) + c5) + c4) + (c3 + c7)) + (c2 + c6)) + (c1 + c5)) + (c0 + c4) := by
  unfold oc6
  rw [div4 _ _ _ _ _ (by omega) (by omega) (by omega) (by omega)]
  omega
theorem sum8 (c0 c1 c2 c3 c4 c5 c6 c7 x : Nat) (h0 : c0 ≤ 8) (h1 : c1 ≤ 8) (h2 : c2 ≤ 8) (h3 : c3 ≤ 8) (h4 : c4 ≤ 8) (h5 : c5 ≤ 8) (h6 : c6 ≤ 8) (h7 : c7 ≤ 8)
    (hx : x = 256 * (256 * (256 * (256 * (256 * (256 * (256 * c7 + c6) + c5) + c4) + c3) + c2) + c1) + c0) :
    x ≤ 650000000000000000 ∧ oc4 x ≤ 1300000000000000000 ∧ oc5 (oc4 x) ≤ 2600000000000000000 ∧ oc6 (oc5 (oc4 x)) ≤ 5200000000000000000 ∧ oc6 (oc5 (oc4 x)) % 128 = c0 + c1 + c2 + c3 + c4 + c5 + c6 + c7 := by
  subst hx
  rw [oc4_eq _ _ _ _ _ _ _ _ h0, oc5_eq _ _ _ _ _ _ _ _ (by omega) (by omega), oc6_eq _ _ _ _ _ _ _ _ (by omega) (by omega) (by omega) (by omega), mod1 _ _ (by omega)]
  exact ⟨by omega, by omega, by omega, by omega, by omega⟩

theorem fb_zero (x : Nat) : fb 0 x = 0 := by simp [fb, s3, rep]
theorem ones_math (x : Nat) : fb 8 x ≤ 650000000000000000 ∧ oc4 (fb 8 x) ≤ 1300000000000000000 ∧ oc5 (oc4 (fb 8 x)) ≤ 2600000000000000000 ∧ oc6 (oc5 (oc4 (fb 8 x))) ≤ 5200000000000000000 ∧
    oc6 (oc5 (oc4 (fb 8 x))) % 128 = pop 64 x := by
  have hp : pop 64 x = pop 8 (x % 256) + pop 8 (x / 256 % 256) + pop 8 (x / 256 / 256 % 256) + pop 8 (x / 256 / 256 / 256 % 256) + pop 8 (x / 256 / 256 / 256 / 256 % 256) +
      pop 8 (x / 256 / 256 / 256 / 256 / 256 % 256) + pop 8 (x / 256 / 256 / 256 / 256 / 256 / 256 % 256) + pop 8 (x / 256 / 256 / 256 / 256 / 256 / 256 / 256 % 256) := by
    have hm : ∀ y, pop 8 (y % 256) = pop 8 y := fun y => pop_mod 8 y
    rw [hm, hm, hm, hm, hm, hm, hm, hm]
    have ha : ∀ j y, pop (8 + j) y = pop 8 y + pop j (y / 256) := fun j y => pop_add 8 j y
    rw [show 64 = 8 + (8 + (8 + (8 + (8 + (8 + (8 + 8)))))) from rfl, ha, ha, ha, ha, ha, ha, ha]
    omega
  rw [hp]
  refine sum8 _ _ _ _ _ _ _ _ _ (pop_le 8 _) (pop_le 8 _) (pop_le 8 _) (pop_le 8 _) (pop_le 8 _) (pop_le 8 _) (pop_le 8 _) (pop_le 8 _) ?_
  rw [fb_succ, fb_succ, fb_succ, fb_succ, fb_succ, fb_succ, fb_succ, fb_succ, fb_zero, Nat.mul_zero, Nat.zero_add]
theorem rep85 : rep 85 8 = 6148914691236517205 := by decide
theorem rep51 : rep 51 8 = 3689348814741910323 := by decide
theorem rep15 : rep 15 8 = 1085102592571150095 := by decide

end Go.Proofs.YthfoagglncimnaaDoor.St
