/-
  THE CONTRACTS OF watersmeetref01's power, Has, In.
-/
import Derived.Test.YtpgmobfoeopbcaaRows
import Derived.Test.YtpgmobfoeopbcaaWord
import Derived.Test.YtpgmobfoeopbcaaLeaf
namespace Go.Proofs.Ytpgmobfoeopbcaa
open Go.RowKit
set_option maxHeartbeats 400000

theorem pow_bound {k : Nat} (h : k ≤ 62) : (2 : Nat) ^ k ≤ 4611686018427387904 := Nat.pow_le_pow_right (n := 2) (j := 62) (by decide) h
theorem power_any (i : Int) (w : World) (h0 : 0 ≤ i) (h1 : i ≤ 63) :
    Calls Try.prog 23 #[.int .i64 i] w fun e w' => e = .returned (.int .u64 (2 ^ i.toNat : Nat)) ∧ w = w' := by
  obtain ⟨n, rfl⟩ := Int.eq_ofNat_of_zero_le h0
  rw [Int.toNat_natCast]
  go_enter Try.func23, Try.ntmps23
  go_wp2
  go_loop [3, 4] (fun p i => ∃ k q : Nat, k ≤ n ∧ i = .int .i64 k ∧ p = .int .u64 q ∧ Hid (q = 2 ^ k)) (fun _ i => n - (intOf i).toNat)
  case atStart => exact ⟨0, 1, Nat.zero_le _, rfl, rfl, Lib.hid rfl⟩
  case round =>
    obtain ⟨k, q, hk, rfl, rfl, hq⟩ := hrel
    by_cases hlt : k < n
    · have hb : q ≤ 4611686018427387904 := by rw [hq.out]; exact pow_bound (by omega)
      have hq2 : Hid (q * 2 = 2 ^ (k + 1)) := Lib.hid (by rw [hq.out, Nat.pow_succ])
      go_wp2
      go_round
      case rel =>
        exact ⟨k + 1, q * 2, by omega, by go_num, by go_num, hq2⟩
      case measure => simp [intOf]; omega
    · obtain rfl : k = n := by omega
      go_wp2
      go_ret
      exact ⟨ret_int (by rw [hq.out]; simp), rfl⟩


end Go.Proofs.Ytpgmobfoeopbcaa
