/-
  THE CONTRACTS OF package sat's FUNCTIONS.
-/
import Derived.Test.YtmjfohledkilbaaRows
import Derived.Test.YtmjfohledkilbaaSatm
import Derived.Test.YtmjfohledkilbaaWord
import Derived.BigQuiet
import Derived.Deep.QuietTactic
namespace Go.Proofs.Ytmjfohledkilbaa
open Go.RowKit
set_option maxHeartbeats 400000

/-- numbers of a word -/
theorem wrap_nat {n : Nat} (h : n < 18446744073709551616) : IntKind.u64.wrap (n : Int) = (n : Int) := by rw [IntKind.wrap_u64]; omega

theorem split_any (a : Nat) (w : World) (ha : Hid (a < 18446744073709551616)) :
    Calls Try.prog 15 #[.int .u64 a] w fun e w' => e = .returned (.agg #[.int .u64 (a % 4294967296 : Nat), .int .u64 (a / 4294967296 : Nat)]) ∧ Below w.heap.size w w' := by
  have e1 : IntKind.u64.wrap ((a : Int) / 4294967296) = (a : Int) / 4294967296 := by
    have := ha.out
    rw [IntKind.wrap_u64]; omega
  go_enter Try.func15, Try.ntmps15
  go_wp2
  refine bodyPost_ret (v := .agg #[.int .u64 (a % 4294967296 : Nat), .int .u64 (a / 4294967296 : Nat)]) (by simp [results, Try.results15, go_sem]) rfl ⟨rfl, ?_⟩
  exact ((Below.refl _ _).alloc (Nat.le_refl _) _)

theorem sum_any (v : Value) (l : List Nat) (w : World) (hv : Sl w v (l.map fun n : Nat => Value.int .u64 n)) (hl : l.length ≤ 9223372036854775807) (hn : Hid (∀ n ∈ l, n < 18446744073709551616)) :
    Calls Try.prog 13 #[v] w fun e w' => e = .returned (.int .u64 (Sa.cut l.sum : Nat)) ∧ w = w' := by
  obtain ⟨A, c, rfl, _, hx⟩ := hv
  rw [List.length_map]
  obtain ⟨n, hm⟩ : ∃ n, n = l.length := ⟨_, rfl⟩
  rw [← hm] at hl ⊢
  have Hn := Lib.hid hm
  have HX := Lib.hid hx
  clear hm hx
  go_enter Try.func13, Try.ntmps13
  go_wp2
  go_loop [3, 9] (fun s i => ∃ q sv : Nat, q ≤ n ∧ i = .int .i64 q ∧ s = .int .u64 sv ∧ Hid (sv = (l.take q).sum) ∧ Hid (sv < 18446744073709551616)) (fun _ i => n - (intOf i).toNat)
  case atStart => exact ⟨0, 0, by omega, rfl, rfl, Lib.hid (by simp), Lib.hid (by omega)⟩
  case round =>
    obtain ⟨q, sv, hq, rfl, rfl, hsv, hs64⟩ := hrel
    by_cases hlt : q < n
    · obtain ⟨x, gx⟩ : ∃ x, l[q]? = some x := ⟨l[q]'(by have := Hn.out; omega), List.getElem?_eq_getElem _⟩
      obtain ⟨b, o, p, rfl, _, hcell⟩ := HX.out q (.int .u64 x) (by simp [gx])
      have ht : (l.take (q + 1)).sum = (l.take q).sum + x := by rw [List.take_add_one, gx]; simp
      have hxl : x < 18446744073709551616 := hn.out x (List.mem_of_getElem? gx)
      have hs := hs64.out
      by_cases hbig : sv + x < 18446744073709551616
      · have e1 : IntKind.u64.wrap ((sv : Int) + (x : Int)) = ((sv + x : Nat) : Int) := by rw [IntKind.wrap_u64]; omega
        have e2 : decide (((sv + x : Nat) : Int) < (x : Int)) = false := by simp; omega
        have H2 : Hid (sv + x = (l.take (q + 1)).sum) := Lib.hid (by rw [ht, hsv.out])
        have H3 := Lib.hid hbig
        clear ht gx hxl hs hbig
        go_wp2
        go_round
        case rel => exact ⟨q + 1, sv + x, by omega, by go_num, by first | rfl | rw [e1] | skip, H2, H3⟩
        case measure => simp [intOf]; omega
      · obtain ⟨z, hz⟩ : ∃ z, z = sv + x - 18446744073709551616 := ⟨_, rfl⟩
        have e1 : IntKind.u64.wrap ((sv : Int) + (x : Int)) = (z : Int) := by rw [IntKind.wrap_u64]; omega
        have e2 : decide (z < x) = true := by simp; omega
        have H2 : Hid (Sa.cut l.sum = 18446744073709551615) := Lib.hid (by
          have : (l.take (q + 1)).sum ≤ l.sum := by
            conv => rhs; rw [← List.take_append_drop (q + 1) l]
            rw [List.sum_append]; omega
          exact Sa.cut_big (by have := hsv.out; omega))
        clear ht gx hxl hs hbig hz
        go_wp2
        go_ret
        exact ⟨ret_int (by rw [H2.out]; first | rfl | decide), rfl⟩
    · have he : Hid (sv = Sa.cut l.sum) := Lib.hid (by
        have h1 := hsv.out
        rw [List.take_of_length_le (by have := Hn.out; omega)] at h1
        rw [← h1, Sa.cut_id hs64.out])
      go_wp2
      go_ret
      exact ⟨ret_int (by rw [he.out]), rfl⟩

theorem sadd_any (v : Value) (l : List Nat) (w : World) (hv : Sl w v (l.map fun n : Nat => Value.int .u64 n)) (hl : l.length ≤ 9223372036854775807) (hn : Hid (∀ n ∈ l, n < 18446744073709551616)) :
    Calls Try.prog 6 #[v] w fun e w' => e = .returned (.int .u64 (Sa.cut l.sum : Nat)) ∧ w = w' := by
  have C := Lib.hid (sum_any v l w hv hl hn)
  clear hv hl hn
  go_enter Try.func6, Try.ntmps6
  go_wp2_with fail
  refine C.out.mono ?_
  rintro e w' ⟨rfl, rfl⟩
  go_wp2_with fail
  go_ret
  exact ⟨rfl, rfl⟩
end Go.Proofs.Ytmjfohledkilbaa
