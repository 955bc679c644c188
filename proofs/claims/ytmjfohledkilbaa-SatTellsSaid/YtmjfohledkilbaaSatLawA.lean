/-
  THE LAW SatTells, WALKED: it returns true.
-/
import Derived.Test.YtmjfohledkilbaaSats
namespace Go.Proofs.Ytmjfohledkilbaa
open Go.RowKit
set_option maxHeartbeats 400000

theorem toNats {l : List Int} (h : ∀ n ∈ l, U64 n) : l.map (Value.int .u64) = (l.map Int.toNat).map fun n : Nat => Value.int .u64 n := by
  rw [List.map_map]
  refine List.map_congr_left fun n hn => ?_
  obtain ⟨m, rfl, _⟩ := (h n hn).nat
  simp
theorem sattells_short (a b : Nat) (A : Option Addr) (n c : Nat) (l : List Nat) (w : World) (ha : Hid (a < 18446744073709551616)) (hb : Hid (b < 18446744073709551616)) (hl : n ≤ 1000) (hln : Hid (n = l.length)) (hlt : Hid (∀ n ∈ l, n < 18446744073709551616)) (hs : Sl w (.slice A n c) (l.map fun n : Nat => Value.int .u64 n)) :
    Calls Try.prog 3 #[.int .u64 a, .int .u64 b, .slice A n c] w fun e w' => e = .returned (.bool true) ∧ Below w.heap.size w w' := by
  have hll : Hid (l.length ≤ 9223372036854775807) := Lib.hid (by have := hln.out; omega)
  have h1000 : decide (1000 < (n : Int)) = false := by simp; omega
  have Hs := Lib.hid hs
  clear hs hl
  obtain ⟨r1, h1⟩ : ∃ r, Hid (r = Sa.cut (a + b)) := ⟨_, Lib.hid rfl⟩
  obtain ⟨r2, h2⟩ : ∃ r, Hid (r = Sa.cut l.sum) := ⟨_, Lib.hid rfl⟩
  obtain ⟨r3, h3⟩ : ∃ r, Hid (r = Sa.mulN a b) := ⟨_, Lib.hid rfl⟩
  obtain ⟨r4, h4⟩ : ∃ r, Hid (r = Sa.shareN a b) := ⟨_, Lib.hid rfl⟩
  have C1 : Hid (∀ w, Calls Try.prog 7 #[.int .u64 a, .int .u64 b] w fun e w' => e = .returned (.int .u64 r1) ∧ w = w') := Lib.hid fun w => by rw [h1.out]; exact r2add_any a b w ha hb
  have C2 : Hid (∀ w, Sl w (.slice A n c) (l.map fun n : Nat => Value.int .u64 n) → Calls Try.prog 6 #[.slice A n c] w fun e w' => e = .returned (.int .u64 r2) ∧ w = w') := Lib.hid fun w hs => by rw [h2.out]; exact sadd_any _ l w hs hll.out hlt
  have C3 : Hid (∀ w, Sl w (.slice A n c) (l.map fun n : Nat => Value.int .u64 n) → Calls Try.prog 8 #[.slice A n c] w fun e w' => e = .returned (.int .u64 r2) ∧ w = w') := Lib.hid fun w hs => by rw [h2.out]; exact r2sum_any _ l w hs hll.out hlt
  have C4 : Hid (∀ w, Calls Try.prog 10 #[.int .u64 a, .int .u64 b] w fun e w' => e = .returned (.int .u64 r3) ∧ w = w') := Lib.hid fun w => by rw [h3.out]; exact r2mul_any a b w ha hb
  have C5 : Hid (∀ w, Calls Try.prog 12 #[.int .u64 a, .int .u64 b] w fun e w' => e = .returned (.int .u64 r4) ∧ w = w') := Lib.hid fun w => by rw [h4.out]; exact r2share_any a b w ha hb
  go_enter Try.func3, Try.ntmps3
  go_wp2_with fail
  refine (add_named a b r1 _ _ rfl ha hb h1).mono ?_
  rintro e w' ⟨rfl, rfl⟩
  go_wp2_with fail
  refine (C1.out _).mono ?_
  rintro e w' ⟨rfl, rfl⟩
  have hb1 : Below w.heap.size w (w.alloc (.cells #[.int .u64 a, .int .u64 b] 22)) := (Below.refl _ w).alloc (Nat.le_refl _) _
  have hs1 := Lib.hid (Hs.out.below hb1 (Nat.le_refl _))
  have Hb1 := Lib.hid hb1
  clear hb1
  go_wp2_with fail
  refine (C2.out _ hs1.out).mono ?_
  rintro e w' ⟨rfl, rfl⟩
  go_wp2_with fail
  refine (C3.out _ hs1.out).mono ?_
  rintro e w' ⟨rfl, rfl⟩
  go_wp2_with fail
  refine (smul_named a b r3 _ ha hb h3).mono ?_
  rintro e w2 ⟨rfl, hb2⟩
  have Hb2 := Lib.hid (Hb1.out.trans (hb2.mono Hb1.out.size))
  clear hb2
  go_wp2_with fail
  refine (C4.out _).mono ?_
  rintro e w' ⟨rfl, rfl⟩
  go_wp2_with fail
  refine (sshare_named a b r4 _ ha hb h4).mono ?_
  rintro e w3 ⟨rfl, hb3⟩
  have Hb3 := Lib.hid (Hb2.out.trans (hb3.mono Hb2.out.size))
  clear hb3
  go_wp2_with fail
  refine (C5.out _).mono ?_
  rintro e w' ⟨rfl, rfl⟩
  go_wp2_with fail
  refine (awake2_any _).mono ?_
  rintro e w4 ⟨rfl, hb4⟩
  have Hb4 := Lib.hid (Hb3.out.trans (hb4.mono Hb3.out.size))
  clear hb4
  go_wp2_with fail
  go_ret
  exact ⟨rfl, Hb4.out⟩
theorem sattells_long (a b : Nat) (A : Option Addr) (n c : Nat) (w : World) (hl : 1000 < n) :
    Calls Try.prog 3 #[.int .u64 a, .int .u64 b, .slice A n c] w fun e w' => e = .returned (.bool true) ∧ Below w.heap.size w w' := by
  have h1000 : decide (1000 < (n : Int)) = true := by simp; omega
  go_enter Try.func3, Try.ntmps3
  go_wp2_with fail
  refine (awake2_any _).mono ?_
  rintro e w4 ⟨rfl, hb4⟩
  go_wp2_with fail
  go_ret
  exact ⟨rfl, hb4⟩
theorem sattells_any (a b : Nat) (A : Option Addr) (n c : Nat) (l : List Int) (w : World) (ha : a < 18446744073709551616) (hb : b < 18446744073709551616) (hln : n = l.length) (hlt : ∀ n ∈ l, U64 n) (hs : Sl w (.slice A n c) (l.map (Value.int .u64))) :
    Calls Try.prog 3 #[.int .u64 a, .int .u64 b, .slice A n c] w fun e w' => e = .returned (.bool true) ∧ Below w.heap.size w w' := by
  by_cases hl : n ≤ 1000
  · refine sattells_short a b A n c (l.map Int.toNat) w (Lib.hid ha) (Lib.hid hb) hl (Lib.hid (by simp [hln])) (Lib.hid ?_) (by rwa [← toNats hlt])
    intro m hm
    obtain ⟨x, hx, rfl⟩ := List.mem_map.1 hm
    have := hlt x hx
    unfold U64 at this
    omega
  · exact sattells_long a b A n c w (by omega)
end Go.Proofs.Ytmjfohledkilbaa
