/-
  PLAIN MATHEMATICS OF sat: numbers that stop at the greatest one.
-/
namespace Go.Proofs.Ytmjfohledkilbaa.Sa
def most : Nat := 18446744073709551615
def cut (n : Nat) : Nat := if n < 18446744073709551616 then n else most
def mulN (a b : Nat) : Nat := cut (a * b)
def shareN (a b : Nat) : Nat := cut (a * b / 65536)
theorem cut_le (n : Nat) : cut n ≤ most := by unfold cut most; split <;> omega
theorem cut_lt (n : Nat) : cut n < 18446744073709551616 := by unfold cut most; split <;> omega
theorem cut_mono {a b : Nat} (h : a ≤ b) : cut a ≤ cut b := by unfold cut most; split <;> split <;> omega
theorem cut_id {n : Nat} (h : n < 18446744073709551616) : cut n = n := if_pos h
theorem cut_big {n : Nat} (h : 18446744073709551616 ≤ n) : cut n = most := if_neg (by omega)
theorem cut_cut (a b : Nat) : cut (cut a + b) = cut (a + b) := by unfold cut most; (repeat' split) <;> omega
theorem cut_cut' (a b : Nat) : cut (a + cut b) = cut (a + b) := by unfold cut most; (repeat' split) <;> omega
/-- ref Mul's test: by division -/
theorem mul_div {a b : Nat} (ha : a ≠ 0) : most / a < b ↔ most < a * b := by
  rw [Nat.div_lt_iff_lt_mul (by omega), Nat.mul_comm]

/-- the digits of a product, round by round -/
def B : Nat := 4294967296
def s00 (a b : Nat) : Nat := (a % B) * (b % B)
def s01 (a b : Nat) : Nat := (a % B) * (b / B) + s00 a b / B
def s10 (a b : Nat) : Nat := (a / B) * (b % B) + s01 a b % B
def s11 (a b : Nat) : Nat := (a / B) * (b / B) + s01 a b / B + s10 a b / B
def hiN (a b : Nat) : Nat := s11 a b / B * B + s11 a b % B
def loN (a b : Nat) : Nat := s10 a b % B * B + s00 a b % B
theorem lt_mul_bound {x y : Nat} (hx : x < B) (hy : y < B) : x * y ≤ 18446744065119617025 := by
  have h : x * y ≤ 4294967295 * 4294967295 := Nat.mul_le_mul (by unfold B at hx; omega) (by unfold B at hy; omega)
  omega
theorem div_B {a : Nat} (h : a < 18446744073709551616) : a / B < B := by unfold B; omega
theorem mod_B (a : Nat) : a % B < B := Nat.mod_lt _ (by unfold B; omega)
theorem s00_lt {a b : Nat} : s00 a b ≤ 18446744065119617025 := lt_mul_bound (mod_B a) (mod_B b)
theorem s01_lt {a b : Nat} (hb : b < 18446744073709551616) : s01 a b < 18446744073709551616 := by
  have h1 := lt_mul_bound (mod_B a) (div_B hb)
  have h2 := @s00_lt a b
  unfold s01
  generalize (a % B) * (b / B) = x at *
  generalize s00 a b = y at *
  unfold B
  omega
theorem s10_lt {a b : Nat} (ha : a < 18446744073709551616) : s10 a b < 18446744073709551616 := by
  have h1 := lt_mul_bound (div_B ha) (mod_B b)
  have h2 := mod_B (s01 a b)
  unfold s10
  generalize (a / B) * (b % B) = x at *
  generalize s01 a b = y at *
  unfold B at *
  omega
theorem s11_lt {a b : Nat} (ha : a < 18446744073709551616) (hb : b < 18446744073709551616) : s11 a b < 18446744073709551616 := by
  have h1 := lt_mul_bound (div_B ha) (div_B hb)
  have h2 := s01_lt (a := a) hb
  have h3 := s10_lt (b := b) ha
  unfold s11
  generalize (a / B) * (b / B) = x at *
  generalize s01 a b = y at *
  generalize s10 a b = z at *
  unfold B
  omega
theorem hiN_eq (a b : Nat) : hiN a b = s11 a b := by
  unfold hiN
  rw [Nat.mul_comm, Nat.div_add_mod]
theorem loN_lt (a b : Nat) : loN a b < 18446744073709551616 := by
  have h1 := mod_B (s10 a b)
  have h2 := mod_B (s00 a b)
  unfold loN
  generalize s10 a b % B = x at *
  generalize s00 a b % B = y at *
  unfold B at *
  omega
theorem product_eq (a b : Nat) : hiN a b * 18446744073709551616 + loN a b = a * b := by
  have e : hiN a b = s11 a b := by unfold hiN; rw [Nat.mul_comm, Nat.div_add_mod]
  rw [e]
  have ha := Nat.div_add_mod a B
  have hb := Nat.div_add_mod b B
  have h00 := Nat.div_add_mod (s00 a b) B
  have h01 := Nat.div_add_mod (s01 a b) B
  have h10 := Nat.div_add_mod (s10 a b) B
  have k : a * b = ((a / B) * (b / B)) * (B * B) + ((a / B) * (b % B)) * B + ((a % B) * (b / B)) * B + (a % B) * (b % B) := by
    conv => lhs; rw [← ha, ← hb]
    simp only [Nat.mul_add, Nat.mul_comm, Nat.mul_left_comm]
    omega
  rw [k]
  have e00 : s00 a b = (a % B) * (b % B) := rfl
  have e01 : s01 a b = (a % B) * (b / B) + s00 a b / B := rfl
  have e10 : s10 a b = (a / B) * (b % B) + s01 a b % B := rfl
  have e11 : s11 a b = (a / B) * (b / B) + s01 a b / B + s10 a b / B := rfl
  unfold loN
  generalize (a / B) * (b / B) = w at *
  generalize (a / B) * (b % B) = x at *
  generalize (a % B) * (b / B) = y at *
  generalize (a % B) * (b % B) = z at *
  generalize s00 a b = p at *
  generalize s01 a b = q at *
  generalize s10 a b = r at *
  generalize s11 a b = s at *
  unfold B at *
  omega
theorem hi_pos (a b : Nat) : 0 < hiN a b ↔ 18446744073709551616 ≤ a * b := by
  have h := product_eq a b
  have l := loN_lt a b
  generalize a * b = m at *
  omega
theorem mul_of_hi {a b : Nat} (h : 0 < hiN a b) : mulN a b = most := cut_big ((hi_pos a b).1 h)
theorem mul_of_lo {a b : Nat} (h : hiN a b = 0) : mulN a b = loN a b := by
  have k := product_eq a b
  have l := loN_lt a b
  unfold mulN
  rw [← k, h, Nat.zero_mul, Nat.zero_add]
  exact cut_id l
theorem share_of_hi {a b : Nat} (h : 65536 ≤ hiN a b) : shareN a b = most := by
  have k := product_eq a b
  unfold shareN
  apply cut_big
  rw [← k]
  omega
theorem share_of_lo {a b : Nat} (h : hiN a b < 65536) : shareN a b = hiN a b * 281474976710656 + loN a b / 65536 := by
  have k := product_eq a b
  have l := loN_lt a b
  unfold shareN
  rw [← k]
  generalize hiN a b = x at *
  generalize loN a b = y at *
  have e : (x * 18446744073709551616 + y) / 65536 = x * 281474976710656 + y / 65536 := by omega
  rw [e]
  exact cut_id (by omega)
theorem share_lt {a b : Nat} (h : hiN a b < 65536) : hiN a b * 281474976710656 + loN a b / 65536 < 18446744073709551616 := by
  have l := loN_lt a b
  omega
/-- ref Share: 65536 times q and r more -/
theorem share_ref (a b : Nat) : cut (mulN (a / 65536) b + cut (mulN (a % 65536) (b / 65536) + (a % 65536) * (b % 65536) / 65536)) = shareN a b := by
  unfold mulN shareN
  rw [cut_cut, cut_cut', ← Nat.add_assoc, Nat.add_comm (a / 65536 * b), Nat.add_assoc, cut_cut]
  congr 1
  have ha := Nat.div_add_mod a 65536
  have hb := Nat.div_add_mod b 65536
  have k : a * b = 65536 * ((a / 65536) * b + (a % 65536) * (b / 65536)) + (a % 65536) * (b % 65536) := by
    have k1 : a * b = 65536 * ((a / 65536) * b) + (a % 65536) * b := by
      conv => lhs; rw [← ha]
      rw [Nat.add_mul, Nat.mul_assoc]
    have k2 : (a % 65536) * b = 65536 * ((a % 65536) * (b / 65536)) + (a % 65536) * (b % 65536) := by
      conv => lhs; rw [← hb]
      rw [Nat.mul_add, Nat.mul_left_comm]
    rw [k1, k2, Nat.mul_add, Nat.add_assoc]
  rw [k]
  generalize (a / 65536) * b = x
  generalize (a % 65536) * (b / 65536) = y
  generalize (a % 65536) * (b % 65536) = z
  omega
/-- the four digits and the carry, behind so many rounds -/
def St (a b k j p0 p1 p2 p3 c : Nat) : Prop :=
  (k = 0 ∧ j = 0 ∧ p0 = 0 ∧ p1 = 0 ∧ p2 = 0 ∧ p3 = 0 ∧ c = 0) ∨
  (k = 0 ∧ j = 1 ∧ p0 = s00 a b % B ∧ p1 = 0 ∧ p2 = 0 ∧ p3 = 0 ∧ c = s00 a b / B) ∨
  (k = 0 ∧ j = 2 ∧ p0 = s00 a b % B ∧ p1 = s01 a b % B ∧ p2 = 0 ∧ p3 = 0 ∧ c = s01 a b / B) ∨
  (k = 1 ∧ j = 0 ∧ p0 = s00 a b % B ∧ p1 = s01 a b % B ∧ p2 = s01 a b / B ∧ p3 = 0 ∧ c = 0) ∨
  (k = 1 ∧ j = 1 ∧ p0 = s00 a b % B ∧ p1 = s10 a b % B ∧ p2 = s01 a b / B ∧ p3 = 0 ∧ c = s10 a b / B) ∨
  (k = 1 ∧ j = 2 ∧ p0 = s00 a b % B ∧ p1 = s10 a b % B ∧ p2 = s11 a b % B ∧ p3 = 0 ∧ c = s11 a b / B) ∨
  (k = 2 ∧ j = 0 ∧ p0 = s00 a b % B ∧ p1 = s10 a b % B ∧ p2 = s11 a b % B ∧ p3 = s11 a b / B ∧ c = 0)
theorem st_zero (a b : Nat) : St a b 0 0 0 0 0 0 0 := .inl ⟨rfl, rfl, rfl, rfl, rfl, rfl, rfl⟩
theorem B_pos : 0 < B := by unfold B; omega
theorem st_small {a b k j p0 p1 p2 p3 c : Nat} (ha : a < 18446744073709551616) (hb : b < 18446744073709551616) (h : St a b k j p0 p1 p2 p3 c) : p0 < B ∧ p1 < B ∧ p2 < B ∧ p3 < B ∧ c < B := by
  have h0 := mod_B (s00 a b)
  have h1 := mod_B (s01 a b)
  have h2 := mod_B (s10 a b)
  have h3 := mod_B (s11 a b)
  have g0 : s00 a b / B < B := div_B (Nat.lt_of_le_of_lt s00_lt (by omega))
  have g1 : s01 a b / B < B := div_B (s01_lt hb)
  have g2 : s10 a b / B < B := div_B (s10_lt ha)
  have g3 : s11 a b / B < B := div_B (s11_lt ha hb)
  have z := B_pos
  rcases h with ⟨rfl, rfl, rfl, rfl, rfl, rfl, rfl⟩ | ⟨rfl, rfl, rfl, rfl, rfl, rfl, rfl⟩ | ⟨rfl, rfl, rfl, rfl, rfl, rfl, rfl⟩ | ⟨rfl, rfl, rfl, rfl, rfl, rfl, rfl⟩ | ⟨rfl, rfl, rfl, rfl, rfl, rfl, rfl⟩ | ⟨rfl, rfl, rfl, rfl, rfl, rfl, rfl⟩ | ⟨rfl, rfl, rfl, rfl, rfl, rfl, rfl⟩ <;> (refine ⟨?_, ?_, ?_, ?_, ?_⟩ <;> assumption)
theorem st_00 {a b p0 p1 p2 p3 c : Nat} (h : St a b 0 0 p0 p1 p2 p3 c) : St a b 0 1 (((a % B) * (b % B) + p0 + c) % B) p1 p2 p3 (((a % B) * (b % B) + p0 + c) / B) := by
  rcases h with ⟨_, _, rfl, rfl, rfl, rfl, rfl⟩ | ⟨_, h, _⟩ | ⟨_, h, _⟩ | ⟨h, _⟩ | ⟨h, _⟩ | ⟨h, _⟩ | ⟨h, _⟩
  · exact .inr (.inl ⟨rfl, rfl, rfl, rfl, rfl, rfl, rfl⟩)
  all_goals cases h
theorem st_01 {a b p0 p1 p2 p3 c : Nat} (h : St a b 0 1 p0 p1 p2 p3 c) : St a b 0 2 p0 (((a % B) * (b / B) + p1 + c) % B) p2 p3 (((a % B) * (b / B) + p1 + c) / B) := by
  rcases h with ⟨_, h, _⟩ | ⟨_, _, rfl, rfl, rfl, rfl, rfl⟩ | ⟨_, h, _⟩ | ⟨h, _⟩ | ⟨h, _⟩ | ⟨h, _⟩ | ⟨h, _⟩
  · cases h
  · exact .inr (.inr (.inl ⟨rfl, rfl, rfl, rfl, rfl, rfl, rfl⟩))
  all_goals cases h
theorem st_02 {a b p0 p1 p2 p3 c : Nat} (h : St a b 0 2 p0 p1 p2 p3 c) : St a b 1 0 p0 p1 c p3 0 := by
  rcases h with ⟨_, h, _⟩ | ⟨_, h, _⟩ | ⟨_, _, rfl, rfl, rfl, rfl, rfl⟩ | ⟨h, _⟩ | ⟨h, _⟩ | ⟨h, _⟩ | ⟨h, _⟩
  iterate 2 cases h
  · exact .inr (.inr (.inr (.inl ⟨rfl, rfl, rfl, rfl, rfl, rfl, rfl⟩)))
  all_goals cases h
theorem st_10 {a b p0 p1 p2 p3 c : Nat} (h : St a b 1 0 p0 p1 p2 p3 c) : St a b 1 1 p0 (((a / B) * (b % B) + p1 + c) % B) p2 p3 (((a / B) * (b % B) + p1 + c) / B) := by
  rcases h with ⟨h, _⟩ | ⟨h, _⟩ | ⟨h, _⟩ | ⟨_, _, rfl, rfl, rfl, rfl, rfl⟩ | ⟨_, h, _⟩ | ⟨_, h, _⟩ | ⟨h, _⟩
  iterate 3 cases h
  · exact .inr (.inr (.inr (.inr (.inl ⟨rfl, rfl, rfl, rfl, rfl, rfl, rfl⟩))))
  all_goals cases h
theorem st_11 {a b p0 p1 p2 p3 c : Nat} (h : St a b 1 1 p0 p1 p2 p3 c) : St a b 1 2 p0 p1 (((a / B) * (b / B) + p2 + c) % B) p3 (((a / B) * (b / B) + p2 + c) / B) := by
  rcases h with ⟨h, _⟩ | ⟨h, _⟩ | ⟨h, _⟩ | ⟨_, h, _⟩ | ⟨_, _, rfl, rfl, rfl, rfl, rfl⟩ | ⟨_, h, _⟩ | ⟨h, _⟩
  iterate 4 cases h
  · exact .inr (.inr (.inr (.inr (.inr (.inl ⟨rfl, rfl, rfl, rfl, rfl, rfl, rfl⟩)))))
  all_goals cases h
theorem st_12 {a b p0 p1 p2 p3 c : Nat} (h : St a b 1 2 p0 p1 p2 p3 c) : St a b 2 0 p0 p1 p2 c 0 := by
  rcases h with ⟨h, _⟩ | ⟨h, _⟩ | ⟨h, _⟩ | ⟨_, h, _⟩ | ⟨_, h, _⟩ | ⟨_, _, rfl, rfl, rfl, rfl, rfl⟩ | ⟨h, _⟩
  iterate 5 cases h
  · exact .inr (.inr (.inr (.inr (.inr (.inr ⟨rfl, rfl, rfl, rfl, rfl, rfl, rfl⟩)))))
  all_goals cases h
theorem st_end {a b p0 p1 p2 p3 c : Nat} (h : St a b 2 0 p0 p1 p2 p3 c) : p3 * B + p2 = hiN a b ∧ p1 * B + p0 = loN a b := by
  rcases h with ⟨h, _⟩ | ⟨h, _⟩ | ⟨h, _⟩ | ⟨h, _⟩ | ⟨h, _⟩ | ⟨h, _⟩ | ⟨_, _, rfl, rfl, rfl, rfl, rfl⟩
  iterate 6 cases h
  exact ⟨rfl, rfl⟩
theorem step_lt {x y p c : Nat} (hx : x < B) (hy : y < B) (hp : p < B) (hc : c < B) : x * y + p + c < 18446744073709551616 := by
  have h := lt_mul_bound hx hy
  unfold B at *
  omega
theorem mul_comm' (a b : Nat) : mulN a b = mulN b a := by unfold mulN; rw [Nat.mul_comm]
theorem mul_mono {a b c : Nat} (h : b ≤ c) : mulN a b ≤ mulN a c := cut_mono (Nat.mul_le_mul_left _ h)
theorem share_mono {a b c : Nat} (h : b ≤ c) : shareN a b ≤ shareN a c := cut_mono (Nat.div_le_div_right (Nat.mul_le_mul_left _ h))
theorem share_mono' {a b c : Nat} (h : b ≤ c) : shareN b a ≤ shareN c a := cut_mono (Nat.div_le_div_right (Nat.mul_le_mul_right _ h))
theorem share_whole {a : Nat} (h : a < 18446744073709551616) : shareN a 65536 = a := by
  unfold shareN
  rw [Nat.mul_div_cancel _ (by decide), cut_id h]
theorem share_zero (a : Nat) : shareN a 0 = 0 := by unfold shareN; simp [cut]
end Go.Proofs.Ytmjfohledkilbaa.Sa
