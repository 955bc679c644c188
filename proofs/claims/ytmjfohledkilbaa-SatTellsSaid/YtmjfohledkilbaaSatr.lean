/-
  THE CONTRACTS OF watersmeetref02's FUNCTIONS.
-/
import Derived.Test.YtmjfohledkilbaaSat
namespace Go.Proofs.Ytmjfohledkilbaa
open Go.RowKit
set_option maxHeartbeats 400000

theorem r2add_any (a b : Nat) (w : World) (ha : Hid (a < 18446744073709551616)) (hb : Hid (b < 18446744073709551616)) :
    Calls Try.prog 7 #[.int .u64 a, .int .u64 b] w fun e w' => e = .returned (.int .u64 (Sa.cut (a + b) : Nat)) ∧ w = w' := by
  have hao := ha.out
  have hbo := hb.out
  obtain ⟨z, hz⟩ : ∃ z, z = 18446744073709551615 - a := ⟨_, rfl⟩
  have e1 : IntKind.u64.wrap (18446744073709551615 - (a : Int)) = (z : Int) := by rw [IntKind.wrap_u64]; omega
  by_cases h : z < b
  · have H : Hid (Sa.cut (a + b) = 18446744073709551615) := Lib.hid (Sa.cut_big (by omega))
    clear hz hao hbo
    go_enter Try.func7, Try.ntmps7
    go_wp2
    go_ret
    exact ⟨ret_int (by rw [H.out]; rfl), rfl⟩
  · have H : Hid (Sa.cut (a + b) = a + b) := Lib.hid (Sa.cut_id (by omega))
    have e2 : IntKind.u64.wrap ((a : Int) + (b : Int)) = ((a + b : Nat) : Int) := by rw [IntKind.wrap_u64]; omega
    have hd : decide ((z : Int) < (b : Int)) = false := by simp; omega
    clear hz hao hbo
    go_enter Try.func7, Try.ntmps7
    go_wp2
    go_ret
    exact ⟨ret_int (by rw [H.out]; first | rfl | exact e2), rfl⟩
theorem r2sum_any (v : Value) (l : List Nat) (w : World) (hv : Sl w v (l.map fun n : Nat => Value.int .u64 n)) (hl : l.length ≤ 9223372036854775807) (hn : Hid (∀ n ∈ l, n < 18446744073709551616)) :
    Calls Try.prog 8 #[v] w fun e w' => e = .returned (.int .u64 (Sa.cut l.sum : Nat)) ∧ w = w' := by
  obtain ⟨A, c, rfl, _, hx⟩ := hv
  rw [List.length_map]
  obtain ⟨n, hm⟩ : ∃ n, n = l.length := ⟨_, rfl⟩
  rw [← hm] at hl ⊢
  have Hn := Lib.hid hm
  have HX := Lib.hid hx
  clear hm hx
  go_enter Try.func8, Try.ntmps8
  go_wp2
  go_loop [3, 4] (fun s i => ∃ q sv : Nat, q ≤ n ∧ i = .int .i64 q ∧ s = .int .u64 sv ∧ Hid (sv = Sa.cut (l.take q).sum)) (fun _ i => n - (intOf i).toNat)
  case atStart => exact ⟨0, 0, by omega, rfl, rfl, Lib.hid (by simp [Sa.cut])⟩
  case round =>
    obtain ⟨q, sv, hq, rfl, rfl, hsv⟩ := hrel
    by_cases hlt : q < n
    · obtain ⟨x, gx⟩ : ∃ x, l[q]? = some x := ⟨l[q]'(by have := Hn.out; omega), List.getElem?_eq_getElem _⟩
      obtain ⟨b, o, p, rfl, _, hcell⟩ := HX.out q (.int .u64 x) (by simp [gx])
      have ht : (l.take (q + 1)).sum = (l.take q).sum + x := by rw [List.take_add_one, gx]; simp
      have hxl : Hid (x < 18446744073709551616) := Lib.hid (hn.out x (List.mem_of_getElem? gx))
      have hs : Hid (sv < 18446744073709551616) := Lib.hid (by rw [hsv.out]; exact Sa.cut_lt _)
      have H2 : Hid (Sa.cut (sv + x) = Sa.cut (l.take (q + 1)).sum) := Lib.hid (by rw [hsv.out, Sa.cut_cut, ht])
      clear gx ht
      go_wp2_with fail
      refine (r2add_any sv x _ hs hxl).mono ?_
      rintro e w' ⟨rfl, rfl⟩
      go_wp2_with fail
      go_round
      case rel => exact ⟨q + 1, Sa.cut (sv + x), by omega, by go_num, rfl, H2⟩
      case measure => simp [intOf]; omega
    · have he : Hid (sv = Sa.cut l.sum) := Lib.hid (by
        have h1 := hsv.out
        rwa [List.take_of_length_le (by have := Hn.out; omega)] at h1)
      go_wp2
      go_ret
      exact ⟨ret_int (by rw [he.out]), rfl⟩
theorem r2mul_any (a b : Nat) (w : World) (ha : Hid (a < 18446744073709551616)) (hb : Hid (b < 18446744073709551616)) :
    Calls Try.prog 10 #[.int .u64 a, .int .u64 b] w fun e w' => e = .returned (.int .u64 (Sa.mulN a b : Nat)) ∧ w = w' := by
  have hao := ha.out
  have hbo := hb.out
  by_cases h0 : a = 0
  · subst h0
    clear hao hbo
    go_enter Try.func10, Try.ntmps10
    go_wp2
    go_ret
    exact ⟨ret_int (by simp [Sa.mulN, Sa.cut]), rfl⟩
  · have hd : ((a : Int) != 0) = true := by simp; omega
    have hd' : ((a : Int) == 0) = false := by simp; omega
    obtain ⟨z, hz⟩ : ∃ z, z = 18446744073709551615 / a := ⟨_, rfl⟩
    have hm := Sa.mul_div (a := a) (b := b) h0
    have e0 : (18446744073709551615 : Int) / (a : Int) = (z : Int) := by rw [hz]; rfl
    have hz1 : z < 18446744073709551616 := by rw [hz]; exact Nat.lt_of_le_of_lt (Nat.div_le_self _ _) (by omega)
    have e1 : IntKind.u64.wrap (z : Int) = (z : Int) := wrap_nat hz1
    have e2 : (18446744073709551615 : Int).tdiv (a : Int) = (z : Int) := by rw [hz]; rfl
    rw [show Sa.most / a = z from hz.symm] at hm
    by_cases h : z < b
    · have H : Hid (Sa.mulN a b = 18446744073709551615) := Lib.hid (Sa.cut_big (by have := hm.1 h; unfold Sa.most at this; omega))
      have h2 : decide ((z : Int) < (b : Int)) = true := by simp; omega
      clear hao hbo hm hz hz1
      go_enter Try.func10, Try.ntmps10
      go_wp2
      go_ret
      exact ⟨ret_int (by rw [H.out]; rfl), rfl⟩
    · have hlt : a * b < 18446744073709551616 := by
        have : ¬ Sa.most < a * b := fun k => h (hm.2 k)
        unfold Sa.most at this; omega
      have H : Hid (Sa.mulN a b = a * b) := Lib.hid (Sa.cut_id hlt)
      have h2 : decide ((z : Int) < (b : Int)) = false := by simp; omega
      have e3 : IntKind.u64.wrap ((a : Int) * (b : Int)) = ((a * b : Nat) : Int) := by rw [← Int.natCast_mul]; exact wrap_nat hlt
      clear hao hbo hm hz hz1 hlt
      go_enter Try.func10, Try.ntmps10
      go_wp2
      go_ret
      exact ⟨ret_int (by rw [H.out]; first | rfl | exact e3), rfl⟩
end Go.Proofs.Ytmjfohledkilbaa
