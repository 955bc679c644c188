/-
  THE CONTRACTS OF package sat's Mul AND Share.
-/
import Derived.Test.YtmjfohledkilbaaSatp
namespace Go.Proofs.Ytmjfohledkilbaa
open Go.RowKit
set_option maxHeartbeats 400000

theorem product_named (a b h l : Nat) (w : World) (ha : Hid (a < 18446744073709551616)) (hb : Hid (b < 18446744073709551616)) (hh : Hid (h = Sa.hiN a b)) (hl : Hid (l = Sa.loN a b)) :
    Calls Try.prog 14 #[.int .u64 a, .int .u64 b] w fun e w' => e = .returned (.tuple #[.int .u64 h, .int .u64 l]) ∧ Below w.heap.size w w' := by
  rw [hh.out, hl.out]; exact product_any a b w ha hb
theorem smul_any (a b : Nat) (w : World) (ha : Hid (a < 18446744073709551616)) (hb : Hid (b < 18446744073709551616)) :
    Calls Try.prog 9 #[.int .u64 a, .int .u64 b] w fun e w' => e = .returned (.int .u64 (Sa.mulN a b : Nat)) ∧ Below w.heap.size w w' := by
  obtain ⟨h, hh⟩ : ∃ h, h = Sa.hiN a b := ⟨_, rfl⟩
  obtain ⟨l, hl⟩ : ∃ l, l = Sa.loN a b := ⟨_, rfl⟩
  have Hh := Lib.hid hh
  have Hl := Lib.hid hl
  clear hh hl
  by_cases h0 : 0 < h
  · have H : Hid (Sa.mulN a b = 18446744073709551615) := Lib.hid (Sa.mul_of_hi (by rw [← Hh.out]; exact h0))
    go_enter Try.func9, Try.ntmps9
    go_wp2_with fail
    refine (product_named a b h l _ ha hb Hh Hl).mono ?_
    rintro e w1 ⟨rfl, hb1⟩
    go_wp2_with fail
    go_ret
    exact ⟨ret_int (by rw [H.out]; rfl), hb1⟩
  · have H : Hid (Sa.mulN a b = l) := Lib.hid (by rw [Hl.out]; exact Sa.mul_of_lo (by rw [← Hh.out]; omega))
    have hd : decide (0 < (h : Int)) = false := by simp; omega
    go_enter Try.func9, Try.ntmps9
    go_wp2_with fail
    refine (product_named a b h l _ ha hb Hh Hl).mono ?_
    rintro e w1 ⟨rfl, hb1⟩
    go_wp2_with fail
    go_ret
    exact ⟨ret_int (by rw [H.out]), hb1⟩
theorem sshare_any (a b : Nat) (w : World) (ha : Hid (a < 18446744073709551616)) (hb : Hid (b < 18446744073709551616)) :
    Calls Try.prog 11 #[.int .u64 a, .int .u64 b] w fun e w' => e = .returned (.int .u64 (Sa.shareN a b : Nat)) ∧ Below w.heap.size w w' := by
  obtain ⟨h, hh⟩ : ∃ h, h = Sa.hiN a b := ⟨_, rfl⟩
  obtain ⟨l, hl⟩ : ∃ l, l = Sa.loN a b := ⟨_, rfl⟩
  have Hh := Lib.hid hh
  have Hl := Lib.hid hl
  clear hh hl
  by_cases h0 : 65536 ≤ h
  · have H : Hid (Sa.shareN a b = 18446744073709551615) := Lib.hid (Sa.share_of_hi (by rw [← Hh.out]; exact h0))
    have hd : decide (65536 ≤ (h : Int)) = true := by simp; omega
    clear h0
    go_enter Try.func11, Try.ntmps11
    go_wp2_with fail
    refine (product_named a b h l _ ha hb Hh Hl).mono ?_
    rintro e w1 ⟨rfl, hb1⟩
    go_wp2_with fail
    go_ret
    exact ⟨ret_int (by rw [H.out]; rfl), hb1⟩
  · have h1 : h < 65536 := by omega
    have hlt := Sa.share_lt (a := a) (b := b) (by rw [← Hh.out]; exact h1)
    have hs := Sa.share_of_lo (a := a) (b := b) (by rw [← Hh.out]; exact h1)
    rw [← Hh.out, ← Hl.out] at hlt hs
    obtain ⟨z, hz⟩ : ∃ z, z = h * 281474976710656 := ⟨_, rfl⟩
    obtain ⟨y, hy⟩ : ∃ y, y = l / 65536 := ⟨_, rfl⟩
    have e1 : IntKind.u64.wrap ((h : Int) * 281474976710656) = (z : Int) := by rw [IntKind.wrap_u64]; omega
    have e2 : IntKind.u64.wrap ((l : Int) / 65536) = (y : Int) := by rw [IntKind.wrap_u64]; have := Sa.loN_lt a b; have := Hl.out; omega
    have e3 : IntKind.u64.wrap ((z : Int) + (y : Int)) = ((z + y : Nat) : Int) := by rw [IntKind.wrap_u64]; omega
    have e4 : (l : Int) / 65536 = (y : Int) := by omega
    have e5 : IntKind.u64.wrap (y : Int) = (y : Int) := by rw [← e4]; exact e2.trans e4.symm
    have H : Hid (Sa.shareN a b = z + y) := Lib.hid (by rw [hs, hz, hy])
    have hd : decide (65536 ≤ (h : Int)) = false := by simp; omega
    clear h0 hs hlt hz hy
    go_enter Try.func11, Try.ntmps11
    go_wp2_with fail
    refine (product_named a b h l _ ha hb Hh Hl).mono ?_
    rintro e w1 ⟨rfl, hb1⟩
    go_wp2_with fail
    go_ret
    exact ⟨ret_int (by rw [H.out]; first | rfl | exact e3), hb1⟩
end Go.Proofs.Ytmjfohledkilbaa
