/-
  THE CONTRACTS OF watersmeetref01's power, Has, In.
-/
import Derived.Test.YthfoagglncimnaaDoorRows
import Derived.Test.YthfoagglncimnaaDoorWord
import Derived.Test.YthfoagglncimnaaDoorLeaf
namespace Go.Proofs.YthfoagglncimnaaDoor
open Go.RowKit
set_option maxHeartbeats 400000

theorem pow_bound {k : Nat} (h : k ≤ 62) : (2 : Nat) ^ k ≤ 4611686018427387904 := Nat.pow_le_pow_right (n := 2) (j := 62) (by decide) h
theorem power_any (i : Int) (w : World) (h0 : 0 ≤ i) (h1 : i ≤ 63) :
    Calls Tryd.prog 48 #[.int .i64 i] w fun e w' => e = .returned (.int .u64 (2 ^ i.toNat : Nat)) ∧ w = w' := by
  obtain ⟨n, rfl⟩ := Int.eq_ofNat_of_zero_le h0
  rw [Int.toNat_natCast]
  go_enter Tryd.func48, Tryd.ntmps48
  go_wp2
  go_loop [3, 4] (fun p i => ∃ k q : Nat, k ≤ n ∧ i = .int .i64 k ∧ p = .int .u64 q ∧ Hid (q = 2 ^ k)) (fun _ i => n - (intOf i).toNat)
  case atStart => exact ⟨0, 1, Nat.zero_le _, rfl, rfl, Lib.hid rfl⟩
  case round =>
    obtain ⟨k, q, hk, rfl, rfl, hq⟩ := hrel
    by_cases hlt : k < n
    · have hb : q ≤ 4611686018427387904 := by rw [hq.out]; exact pow_bound (by omega)
      have hq2 : Hid (q * 2 = 2 ^ (k + 1)) := Lib.hid (by rw [hq.out, Nat.pow_succ])
      go_wp2
      go_round
      case rel =>
        exact ⟨k + 1, q * 2, by omega, by go_num, by go_num, hq2⟩
      case measure => simp [intOf]; omega
    · obtain rfl : k = n := by omega
      go_wp2
      go_ret
      exact ⟨ret_int (by rw [hq.out]; simp), rfl⟩

theorem quo_rem (x q : Nat) (hx : x < 18446744073709551616) : ((IntKind.u64.wrap ((x : Int) / (q : Int))).tmod 2 == 1) = decide (x / q % 2 = 1) := by
  have h1 : x / q ≤ x := Nat.div_le_self _ _
  rw [show (x : Int) / (q : Int) = ((x / q : Nat) : Int) by simp]
  generalize x / q = m at *
  have e : IntKind.u64.wrap (m : Int) = (m : Int) := by rw [IntKind.wrap_u64]; omega
  have e2 : ((m : Int)).tmod 2 = ((m % 2 : Nat) : Int) := by rw [Int.tmod_eq_emod_of_nonneg (show (0 : Int) ≤ (m : Int) by omega)]; simp
  rw [e, e2]
  rcases Nat.mod_two_eq_zero_or_one m with h | h <;> rw [h] <;> rfl
theorem rhas_any (a i : Int) (w : World) (ha : U64 a) :
    Calls Tryd.prog 21 #[.int .u64 a, .int .i64 i] w fun e w' => e = .returned (.bool (St.hasB a.toNat i)) ∧ w = w' := by
  obtain ⟨x, rfl, hx⟩ := ha.nat
  rw [Int.toNat_natCast]
  by_cases h0 : 0 ≤ i
  · by_cases h1 : i ≤ 63
    · have hp : 1 ≤ 2 ^ i.toNat := Nat.one_le_two_pow
      go_enter Tryd.func21, Tryd.ntmps21
      obtain ⟨q, hq⟩ : ∃ q, q = 2 ^ i.toNat := ⟨_, rfl⟩
      have Hq := Lib.hid hq
      rw [← hq] at hp
      clear hq
      have hpw := power_any i w h0 h1
      rw [← Hq.out] at hpw
      have HP := Lib.hid hpw
      clear hpw
      go_wp2_with (go_at_call 48; refine HP.out.mono ?_; rintro e w' ⟨rfl, rfl⟩)
      go_ret
      refine ⟨ret_bool ?_, rfl⟩
      have e2 : x.testBit i.toNat = decide (x / q % 2 = 1) := by rw [Hq.out]; exact Nat.testBit_eq_decide_div_mod_eq
      rw [quo_rem _ _ hx]
      unfold St.hasB
      rw [e2]
      simp [h0, h1]
    · go_enter Tryd.func21, Tryd.ntmps21
      go_wp2
      go_ret
      exact ⟨ret_bool (by unfold St.hasB; have : ¬ i ≤ 63 := by omega
                          simp [this]), rfl⟩
  · go_enter Tryd.func21, Tryd.ntmps21
    go_wp2
    go_ret
    exact ⟨ret_bool (by unfold St.hasB; have : ¬ 0 ≤ i := by omega
                        simp [this]), rfl⟩
/-- Has at a number that may be a member: the digit -/
theorem rhas_nat (x k : Nat) (b : Bool) (w : World) (hx : x < 18446744073709551616) (hk : k < 64) (hb : x.testBit k = b) :
    Calls Tryd.prog 21 #[.int .u64 x, .int .i64 k] w fun e w' => e = .returned (.bool b) ∧ w = w' :=
  (rhas_any _ _ w (U64.of hx)).mono fun e w' ⟨he, hw⟩ => ⟨by rw [he, ← hb]; unfold St.hasB; simp; omega, hw⟩

end Go.Proofs.YthfoagglncimnaaDoor
