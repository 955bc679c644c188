/-
  THE LAW SatMonotone, WALKED: it returns true.
-/
import Derived.Test.YtmjfohledkilbaaSats
namespace Go.Proofs.Ytmjfohledkilbaa
open Go.RowKit
set_option maxHeartbeats 800000

theorem alloc_below {B : Nat} {w w' : World} (h : Hid (Below B w w')) (hB : B ≤ w.heap.size) (o : Obj) : Hid (Below B w (w'.alloc o)) := Lib.hid (h.out.alloc (Nat.le_trans hB h.out.size) o)
theorem call_below {B : Nat} {w w1 w2 : World} (h : Hid (Below B w w1)) (hB : B ≤ w.heap.size) (h2 : Below w1.heap.size w1 w2) : Hid (Below B w w2) := Lib.hid (h.out.trans (h2.mono (Nat.le_trans hB h.out.size)))
theorem satmono_up (a b c : Nat) (w : World) (ha : Hid (a < 18446744073709551616)) (hb : Hid (b < 18446744073709551616)) (hc : Hid (c < 18446744073709551616)) (hbc : Hid (b ≤ c)) :
    Calls Try.prog 4 #[.int .u64 a, .int .u64 b, .int .u64 c] w fun e w' => e = .returned (.bool true) ∧ Below w.heap.size w w' := by
  have hd : decide (c < b) = false := by have := hbc.out; simp; omega
  obtain ⟨r1, h1⟩ : ∃ r, Hid (r = Sa.cut (a + b)) := ⟨_, Lib.hid rfl⟩
  obtain ⟨r2, h2⟩ : ∃ r, Hid (r = Sa.cut (a + c)) := ⟨_, Lib.hid rfl⟩
  obtain ⟨r3, h3⟩ : ∃ r, Hid (r = Sa.mulN a b) := ⟨_, Lib.hid rfl⟩
  obtain ⟨r4, h4⟩ : ∃ r, Hid (r = Sa.mulN a c) := ⟨_, Lib.hid rfl⟩
  obtain ⟨r5, h5⟩ : ∃ r, Hid (r = Sa.shareN a b) := ⟨_, Lib.hid rfl⟩
  obtain ⟨r6, h6⟩ : ∃ r, Hid (r = Sa.shareN a c) := ⟨_, Lib.hid rfl⟩
  obtain ⟨r7, h7⟩ : ∃ r, Hid (r = Sa.shareN b a) := ⟨_, Lib.hid rfl⟩
  obtain ⟨r8, h8⟩ : ∃ r, Hid (r = Sa.shareN c a) := ⟨_, Lib.hid rfl⟩
  have n1 : decide (r2 < r1) = false := by rw [h1.out, h2.out]; simp; exact Sa.cut_mono (by have := hbc.out; omega)
  have n2 : decide (r4 < r3) = false := by rw [h3.out, h4.out]; simp; exact Sa.mul_mono hbc.out
  have n3 : decide (r6 < r5) = false := by rw [h5.out, h6.out]; simp; exact Sa.share_mono hbc.out
  have n4 : decide (r8 < r7) = false := by rw [h7.out, h8.out]; simp; exact Sa.share_mono' hbc.out
  have n5 : decide (a ≤ r1) = true := by
    have h := Sa.cut_mono (a := a) (b := a + b) (by omega)
    rw [Sa.cut_id ha.out] at h
    rw [h1.out]; simpa using h
  have g1 : Hid (r1 = Sa.cut (b + a)) := Lib.hid (by rw [h1.out, Nat.add_comm])
  have g3 : Hid (r3 = Sa.mulN b a) := Lib.hid (by rw [h3.out, Sa.mul_comm'])
  have gw : Hid (a = Sa.shareN a 65536) := Lib.hid (Sa.share_whole ha.out).symm
  have gz : Hid (0 = Sa.shareN a 0) := Lib.hid (Sa.share_zero a).symm
  have C65 : Hid (∀ w, Calls Try.prog 11 #[.int .u64 a, .int .u64 65536] w fun e w' => e = .returned (.int .u64 a) ∧ Below w.heap.size w w') := Lib.hid fun w => sshare_named a 65536 a w ha (Lib.hid (by decide)) gw
  have C0 : Hid (∀ w, Calls Try.prog 11 #[.int .u64 a, .int .u64 0] w fun e w' => e = .returned (.int .u64 0) ∧ Below w.heap.size w w') := Lib.hid fun w => sshare_named a 0 0 w ha (Lib.hid (by decide)) gz
  go_enter Try.func4, Try.ntmps4
  have B0 : Hid (Below w.heap.size w w) := Lib.hid (Below.refl _ _)
  go_wp2_with fail
  refine (add_named a b r1 _ _ (by simp) ha hb h1).mono ?_
  rintro e w' ⟨rfl, rfl⟩
  go_wp2_with fail
  refine (add_named a c r2 _ _ (by simp) ha hc h2).mono ?_
  rintro e w' ⟨rfl, rfl⟩
  go_wp2_with fail
  refine (smul_named a b r3 _ ha hb h3).mono ?_
  rintro e w1 ⟨rfl, hb1⟩
  have B1 := call_below (alloc_below (alloc_below B0 (Nat.le_refl _) _) (Nat.le_refl _) _) (Nat.le_refl _) hb1
  clear hb1
  go_wp2_with fail
  refine (smul_named a c r4 _ ha hc h4).mono ?_
  rintro e w2 ⟨rfl, hb2⟩
  have B2 := call_below B1 (Nat.le_refl _) hb2
  clear hb2
  go_wp2_with fail
  refine (sshare_named a b r5 _ ha hb h5).mono ?_
  rintro e w3 ⟨rfl, hb3⟩
  have B3 := call_below B2 (Nat.le_refl _) hb3
  clear hb3
  go_wp2_with fail
  refine (sshare_named a c r6 _ ha hc h6).mono ?_
  rintro e w4 ⟨rfl, hb4⟩
  have B4 := call_below B3 (Nat.le_refl _) hb4
  clear hb4
  go_wp2_with fail
  refine (sshare_named b a r7 _ hb ha h7).mono ?_
  rintro e w5 ⟨rfl, hb5⟩
  have B5 := call_below B4 (Nat.le_refl _) hb5
  clear hb5
  go_wp2_with fail
  refine (sshare_named c a r8 _ hc ha h8).mono ?_
  rintro e w6 ⟨rfl, hb6⟩
  have B6 := call_below B5 (Nat.le_refl _) hb6
  clear hb6
  go_wp2_with fail
  refine (add_named a b r1 _ _ (by simp) ha hb h1).mono ?_
  rintro e w' ⟨rfl, rfl⟩
  go_wp2_with fail
  refine (add_named b a r1 _ _ (by simp) hb ha g1).mono ?_
  rintro e w' ⟨rfl, rfl⟩
  go_wp2_with fail
  refine (smul_named a b r3 _ ha hb h3).mono ?_
  rintro e w7 ⟨rfl, hb7⟩
  have B7 := call_below (alloc_below (alloc_below B6 (Nat.le_refl _) _) (Nat.le_refl _) _) (Nat.le_refl _) hb7
  clear hb7
  go_wp2_with fail
  refine (smul_named b a r3 _ hb ha g3).mono ?_
  rintro e w8 ⟨rfl, hb8⟩
  have B8 := call_below B7 (Nat.le_refl _) hb8
  clear hb8
  go_wp2_with fail
  refine (add_named a b r1 _ _ (by simp) ha hb h1).mono ?_
  rintro e w' ⟨rfl, rfl⟩
  go_wp2_with fail
  refine (C65.out _).mono ?_
  rintro e w9 ⟨rfl, hb9⟩
  have B9 := call_below (alloc_below B8 (Nat.le_refl _) _) (Nat.le_refl _) hb9
  clear hb9
  go_wp2_with fail
  refine (C0.out _).mono ?_
  rintro e w10 ⟨rfl, hb10⟩
  have B10 := call_below B9 (Nat.le_refl _) hb10
  clear hb10
  go_wp2_with fail
  refine (awake2_any _).mono ?_
  rintro e w11 ⟨rfl, hb11⟩
  have B11 := call_below B10 (Nat.le_refl _) hb11
  clear hb11
  go_wp2_with fail
  go_ret
  exact ⟨rfl, B11.out⟩
theorem satmono_down (a b c : Nat) (w : World) (ha : Hid (a < 18446744073709551616)) (hb : Hid (b < 18446744073709551616)) (hc : Hid (c < 18446744073709551616)) (hbc : Hid (b ≤ c)) (hd : decide (b < c) = true) :
    Calls Try.prog 4 #[.int .u64 a, .int .u64 c, .int .u64 b] w fun e w' => e = .returned (.bool true) ∧ Below w.heap.size w w' := by
  obtain ⟨r1, h1⟩ : ∃ r, Hid (r = Sa.cut (a + b)) := ⟨_, Lib.hid rfl⟩
  obtain ⟨r2, h2⟩ : ∃ r, Hid (r = Sa.cut (a + c)) := ⟨_, Lib.hid rfl⟩
  obtain ⟨r3, h3⟩ : ∃ r, Hid (r = Sa.mulN a b) := ⟨_, Lib.hid rfl⟩
  obtain ⟨r4, h4⟩ : ∃ r, Hid (r = Sa.mulN a c) := ⟨_, Lib.hid rfl⟩
  obtain ⟨r5, h5⟩ : ∃ r, Hid (r = Sa.shareN a b) := ⟨_, Lib.hid rfl⟩
  obtain ⟨r6, h6⟩ : ∃ r, Hid (r = Sa.shareN a c) := ⟨_, Lib.hid rfl⟩
  obtain ⟨r7, h7⟩ : ∃ r, Hid (r = Sa.shareN b a) := ⟨_, Lib.hid rfl⟩
  obtain ⟨r8, h8⟩ : ∃ r, Hid (r = Sa.shareN c a) := ⟨_, Lib.hid rfl⟩
  have n1 : decide (r2 < r1) = false := by rw [h1.out, h2.out]; simp; exact Sa.cut_mono (by have := hbc.out; omega)
  have n2 : decide (r4 < r3) = false := by rw [h3.out, h4.out]; simp; exact Sa.mul_mono hbc.out
  have n3 : decide (r6 < r5) = false := by rw [h5.out, h6.out]; simp; exact Sa.share_mono hbc.out
  have n4 : decide (r8 < r7) = false := by rw [h7.out, h8.out]; simp; exact Sa.share_mono' hbc.out
  have n5 : decide (a ≤ r1) = true := by
    have h := Sa.cut_mono (a := a) (b := a + b) (by omega)
    rw [Sa.cut_id ha.out] at h
    rw [h1.out]; simpa using h
  have g1 : Hid (r1 = Sa.cut (b + a)) := Lib.hid (by rw [h1.out, Nat.add_comm])
  have g3 : Hid (r3 = Sa.mulN b a) := Lib.hid (by rw [h3.out, Sa.mul_comm'])
  have gw : Hid (a = Sa.shareN a 65536) := Lib.hid (Sa.share_whole ha.out).symm
  have gz : Hid (0 = Sa.shareN a 0) := Lib.hid (Sa.share_zero a).symm
  have C65 : Hid (∀ w, Calls Try.prog 11 #[.int .u64 a, .int .u64 65536] w fun e w' => e = .returned (.int .u64 a) ∧ Below w.heap.size w w') := Lib.hid fun w => sshare_named a 65536 a w ha (Lib.hid (by decide)) gw
  have C0 : Hid (∀ w, Calls Try.prog 11 #[.int .u64 a, .int .u64 0] w fun e w' => e = .returned (.int .u64 0) ∧ Below w.heap.size w w') := Lib.hid fun w => sshare_named a 0 0 w ha (Lib.hid (by decide)) gz
  go_enter Try.func4, Try.ntmps4
  have B0 : Hid (Below w.heap.size w w) := Lib.hid (Below.refl _ _)
  go_wp2_with fail
  refine (add_named a b r1 _ _ (by simp) ha hb h1).mono ?_
  rintro e w' ⟨rfl, rfl⟩
  go_wp2_with fail
  refine (add_named a c r2 _ _ (by simp) ha hc h2).mono ?_
  rintro e w' ⟨rfl, rfl⟩
  go_wp2_with fail
  refine (smul_named a b r3 _ ha hb h3).mono ?_
  rintro e w1 ⟨rfl, hb1⟩
  have B1 := call_below (alloc_below (alloc_below B0 (Nat.le_refl _) _) (Nat.le_refl _) _) (Nat.le_refl _) hb1
  clear hb1
  go_wp2_with fail
  refine (smul_named a c r4 _ ha hc h4).mono ?_
  rintro e w2 ⟨rfl, hb2⟩
  have B2 := call_below B1 (Nat.le_refl _) hb2
  clear hb2
  go_wp2_with fail
  refine (sshare_named a b r5 _ ha hb h5).mono ?_
  rintro e w3 ⟨rfl, hb3⟩
  have B3 := call_below B2 (Nat.le_refl _) hb3
  clear hb3
  go_wp2_with fail
  refine (sshare_named a c r6 _ ha hc h6).mono ?_
  rintro e w4 ⟨rfl, hb4⟩
  have B4 := call_below B3 (Nat.le_refl _) hb4
  clear hb4
  go_wp2_with fail
  refine (sshare_named b a r7 _ hb ha h7).mono ?_
  rintro e w5 ⟨rfl, hb5⟩
  have B5 := call_below B4 (Nat.le_refl _) hb5
  clear hb5
  go_wp2_with fail
  refine (sshare_named c a r8 _ hc ha h8).mono ?_
  rintro e w6 ⟨rfl, hb6⟩
  have B6 := call_below B5 (Nat.le_refl _) hb6
  clear hb6
  go_wp2_with fail
  refine (add_named a b r1 _ _ (by simp) ha hb h1).mono ?_
  rintro e w' ⟨rfl, rfl⟩
  go_wp2_with fail
  refine (add_named b a r1 _ _ (by simp) hb ha g1).mono ?_
  rintro e w' ⟨rfl, rfl⟩
  go_wp2_with fail
  refine (smul_named a b r3 _ ha hb h3).mono ?_
  rintro e w7 ⟨rfl, hb7⟩
  have B7 := call_below (alloc_below (alloc_below B6 (Nat.le_refl _) _) (Nat.le_refl _) _) (Nat.le_refl _) hb7
  clear hb7
  go_wp2_with fail
  refine (smul_named b a r3 _ hb ha g3).mono ?_
  rintro e w8 ⟨rfl, hb8⟩
  have B8 := call_below B7 (Nat.le_refl _) hb8
  clear hb8
  go_wp2_with fail
  refine (add_named a b r1 _ _ (by simp) ha hb h1).mono ?_
  rintro e w' ⟨rfl, rfl⟩
  go_wp2_with fail
  refine (C65.out _).mono ?_
  rintro e w9 ⟨rfl, hb9⟩
  have B9 := call_below (alloc_below B8 (Nat.le_refl _) _) (Nat.le_refl _) hb9
  clear hb9
  go_wp2_with fail
  refine (C0.out _).mono ?_
  rintro e w10 ⟨rfl, hb10⟩
  have B10 := call_below B9 (Nat.le_refl _) hb10
  clear hb10
  go_wp2_with fail
  refine (awake2_any _).mono ?_
  rintro e w11 ⟨rfl, hb11⟩
  have B11 := call_below B10 (Nat.le_refl _) hb11
  clear hb11
  go_wp2_with fail
  go_ret
  exact ⟨rfl, B11.out⟩
theorem satmono_any (a b c : Nat) (w : World) (ha : a < 18446744073709551616) (hb : b < 18446744073709551616) (hc : c < 18446744073709551616) :
    Calls Try.prog 4 #[.int .u64 a, .int .u64 b, .int .u64 c] w fun e w' => e = .returned (.bool true) ∧ Below w.heap.size w w' := by
  by_cases h : b ≤ c
  · exact satmono_up a b c w (Lib.hid ha) (Lib.hid hb) (Lib.hid hc) (Lib.hid h)
  · exact satmono_down a c b w (Lib.hid ha) (Lib.hid hc) (Lib.hid hb) (Lib.hid (by omega)) (by simp; omega)
end Go.Proofs.Ytmjfohledkilbaa
