/-
  THE CONTRACT OF watersmeetref02's Share; AND awake: the chapter's examples hold.
-/
import Derived.Test.YtmjfohledkilbaaSatq
import Derived.Test.YtmjfohledkilbaaSatr
namespace Go.Proofs.Ytmjfohledkilbaa
open Go.RowKit
set_option maxHeartbeats 400000

theorem r2share_any (a b : Nat) (w : World) (ha : Hid (a < 18446744073709551616)) (hb : Hid (b < 18446744073709551616)) :
    Calls Try.prog 12 #[.int .u64 a, .int .u64 b] w fun e w' => e = .returned (.int .u64 (Sa.shareN a b : Nat)) ∧ w = w' := by
  have hao := ha.out
  have hbo := hb.out
  obtain ⟨q, hq⟩ : ∃ q, q = a / 65536 := ⟨_, rfl⟩
  obtain ⟨r, hr⟩ : ∃ r, r = a % 65536 := ⟨_, rfl⟩
  obtain ⟨p, hp⟩ : ∃ p, p = b / 65536 := ⟨_, rfl⟩
  obtain ⟨s, hs⟩ : ∃ s, s = b % 65536 := ⟨_, rfl⟩
  have hrs : r * s ≤ 65535 * 65535 := Nat.mul_le_mul (by omega) (by omega)
  obtain ⟨m, hm⟩ : ∃ m, m = r * s := ⟨_, rfl⟩
  obtain ⟨d, hd⟩ : ∃ d, d = m / 65536 := ⟨_, rfl⟩
  have e1 : (a : Int) / 65536 = (q : Int) := by omega
  have e2 : (a : Int) % 65536 = (r : Int) := by omega
  have e3 : (b : Int) / 65536 = (p : Int) := by omega
  have e4 : (b : Int) % 65536 = (s : Int) := by omega
  have w1 : IntKind.u64.wrap (q : Int) = (q : Int) := wrap_nat (by omega)
  have w3 : IntKind.u64.wrap (p : Int) = (p : Int) := wrap_nat (by omega)
  have e5 : IntKind.u64.wrap ((r : Int) * (s : Int)) = (m : Int) := by rw [hm, ← Int.natCast_mul]; exact wrap_nat (by omega)
  have e6 : (m : Int) / 65536 = (d : Int) := by omega
  have w6 : IntKind.u64.wrap (d : Int) = (d : Int) := wrap_nat (by omega)
  have lq : Hid (q < 18446744073709551616) := Lib.hid (by omega)
  have lr : Hid (r < 18446744073709551616) := Lib.hid (by omega)
  have lp : Hid (p < 18446744073709551616) := Lib.hid (by omega)
  have ld : Hid (d < 18446744073709551616) := Lib.hid (by omega)
  have l1 : Hid (Sa.mulN q b < 18446744073709551616) := Lib.hid (Sa.cut_lt _)
  have l2 : Hid (Sa.mulN r p < 18446744073709551616) := Lib.hid (Sa.cut_lt _)
  have l3 : Hid (Sa.cut (Sa.mulN r p + d) < 18446744073709551616) := Lib.hid (Sa.cut_lt _)
  have H : Hid (Sa.cut (Sa.mulN q b + Sa.cut (Sa.mulN r p + d)) = Sa.shareN a b) := Lib.hid (by rw [hd, hm, hq, hr, hp, hs]; exact Sa.share_ref a b)
  clear hao hbo hq hr hp hs hrs hm hd
  go_enter Try.func12, Try.ntmps12
  go_wp2_with fail
  refine (r2mul_any q b _ lq hb).mono ?_
  rintro e w' ⟨rfl, rfl⟩
  go_wp2_with fail
  refine (r2mul_any r p _ lr lp).mono ?_
  rintro e w' ⟨rfl, rfl⟩
  go_wp2_with fail
  refine (r2add_any _ d _ l2 ld).mono ?_
  rintro e w' ⟨rfl, rfl⟩
  go_wp2_with fail
  refine (r2add_any _ _ _ l1 l3).mono ?_
  rintro e w' ⟨rfl, rfl⟩
  go_wp2_with fail
  go_ret
  exact ⟨ret_int (by rw [H.out]), rfl⟩
/-- a slice that the call has just built: two numbers, three -/
theorem sl_two (w : World) (a b : Nat) : Sl (w.alloc (.cells #[.int .u64 a, .int .u64 b] 22)) (.slice (some ⟨w.heap.size, 0, none⟩) 2 2) ([a, b].map fun n : Nat => Value.int .u64 n) := Sl.new w 22 [.int .u64 a, .int .u64 b]
theorem add_two (a b : Nat) (w : World) (ha : Hid (a < 18446744073709551616)) (hb : Hid (b < 18446744073709551616)) :
    Calls Try.prog 6 #[.slice (some ⟨w.heap.size, 0, none⟩) 2 2] (w.alloc (.cells #[.int .u64 a, .int .u64 b] 22)) fun e w' => e = .returned (.int .u64 (Sa.cut (a + b) : Nat)) ∧ w.alloc (.cells #[.int .u64 a, .int .u64 b] 22) = w' :=
  (sadd_any _ [a, b] _ (sl_two w a b) (by simp) (Lib.hid (by intro n hn; simp at hn; rcases hn with rfl | rfl; exact ha.out; exact hb.out))).mono fun e w' ⟨he, hw⟩ => ⟨by rw [he]; simp, hw⟩
theorem add_named (a b r g : Nat) (w : World) (hg : w.heap.size = g) (ha : Hid (a < 18446744073709551616)) (hb : Hid (b < 18446744073709551616)) (hr : Hid (r = Sa.cut (a + b))) :
    Calls Try.prog 6 #[.slice (some ⟨g, 0, none⟩) 2 2] (w.alloc (.cells #[.int .u64 a, .int .u64 b] 22)) fun e w' => e = .returned (.int .u64 r) ∧ w.alloc (.cells #[.int .u64 a, .int .u64 b] 22) = w' := by
  subst hg; rw [hr.out]; exact add_two a b w ha hb
theorem smul_named (a b r : Nat) (w : World) (ha : Hid (a < 18446744073709551616)) (hb : Hid (b < 18446744073709551616)) (hr : Hid (r = Sa.mulN a b)) :
    Calls Try.prog 9 #[.int .u64 a, .int .u64 b] w fun e w' => e = .returned (.int .u64 r) ∧ Below w.heap.size w w' := by
  rw [hr.out]; exact smul_any a b w ha hb
theorem sshare_named (a b r : Nat) (w : World) (ha : Hid (a < 18446744073709551616)) (hb : Hid (b < 18446744073709551616)) (hr : Hid (r = Sa.shareN a b)) :
    Calls Try.prog 11 #[.int .u64 a, .int .u64 b] w fun e w' => e = .returned (.int .u64 r) ∧ Below w.heap.size w w' := by
  rw [hr.out]; exact sshare_any a b w ha hb
theorem awake2_add1 (w : World) : Calls Try.prog 6 #[.slice (some ⟨w.heap.size, 0, none⟩) 2 2] (w.alloc (.cells #[.int .u64 18446744073709551615, .int .u64 1] 22)) fun e w' => e = .returned (.int .u64 18446744073709551615) ∧ w.alloc (.cells #[.int .u64 18446744073709551615, .int .u64 1] 22) = w' :=
  (sadd_any _ [18446744073709551615, 1] _ (by
    have h := Sl.new w 22 [.int .u64 18446744073709551615, .int .u64 1]
    rw [show ([18446744073709551615, 1] : List Nat).map (fun n : Nat => Value.int .u64 n) = [.int .u64 18446744073709551615, .int .u64 1] by simp]
    exact h) (by simp) (Lib.hid (by decide))).mono fun e w' ⟨he, hw⟩ => ⟨by rw [he, show Sa.cut [18446744073709551615, 1].sum = 18446744073709551615 by decide +kernel]; simp, hw⟩
theorem awake2_add2 (w : World) (g : Nat) (hg : w.heap.size = g) : Calls Try.prog 6 #[.slice (some ⟨g, 0, none⟩) 3 3] (w.alloc (.cells #[.int .u64 2, .int .u64 3, .int .u64 4] 22)) fun e w' => e = .returned (.int .u64 9) ∧ w.alloc (.cells #[.int .u64 2, .int .u64 3, .int .u64 4] 22) = w' := by
  subst hg
  exact (sadd_any _ [2, 3, 4] _ (Sl.new w 22 [.int .u64 2, .int .u64 3, .int .u64 4]) (by decide) (Lib.hid (by decide))).mono fun e w' ⟨he, hw⟩ => ⟨by rw [he, show Sa.cut [2, 3, 4].sum = 9 by decide +kernel]; rfl, hw⟩
theorem awake2_mul (w : World) : Calls Try.prog 9 #[.int .u64 6, .int .u64 7] w fun e w' => e = .returned (.int .u64 42) ∧ Below w.heap.size w w' :=
  (smul_any 6 7 w (Lib.hid (by decide)) (Lib.hid (by decide))).mono fun e w' ⟨he, hw⟩ => ⟨by rw [he, show Sa.mulN 6 7 = 42 by decide +kernel]; rfl, hw⟩
theorem awake2_share (w : World) : Calls Try.prog 11 #[.int .u64 10, .int .u64 32768] w fun e w' => e = .returned (.int .u64 5) ∧ Below w.heap.size w w' :=
  (sshare_any 10 32768 w (Lib.hid (by decide)) (Lib.hid (by decide))).mono fun e w' ⟨he, hw⟩ => ⟨by rw [he, show Sa.shareN 10 32768 = 5 by decide +kernel]; rfl, hw⟩
theorem awake2_any (w : World) : Calls Try.prog 5 #[] w fun e w' => e = .returned (.bool true) ∧ Below w.heap.size w w' := by
  go_enter Try.func5, Try.ntmps5
  go_wp2_with fail
  refine (awake2_share _).mono ?_
  rintro e w1 ⟨rfl, hb1⟩
  go_wp2_with fail
  refine (awake2_add1 _).mono ?_
  rintro e w' ⟨rfl, rfl⟩
  go_wp2_with fail
  refine (awake2_add2 _ _ (by simp)).mono ?_
  rintro e w' ⟨rfl, rfl⟩
  go_wp2_with fail
  refine (awake2_mul _).mono ?_
  rintro e w2 ⟨rfl, hb2⟩
  go_wp2_with fail
  go_ret
  exact ⟨rfl, ((hb1.alloc hb1.size _).alloc (by have := hb1.size; simp; omega) _).trans (hb2.mono (by have := hb1.size; simp; omega))⟩
end Go.Proofs.Ytmjfohledkilbaa
