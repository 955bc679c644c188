/-
  THE CONTRACTS OF package sets' Of AND List.
-/
import Derived.Test.YthfoagglncimnaaDoorRefc
namespace Go.Proofs.YthfoagglncimnaaDoor
open Go.RowKit
set_option maxHeartbeats 400000

theorem wrap_pow (q : Nat) (hq : q ≤ 63) : IntKind.u64.wrap (2 ^ q) = ((2 ^ q : Nat) : Int) := by
  have h2 : 2 ^ q < 2 ^ 64 := Nat.pow_lt_pow_right (by decide) (by omega)
  have e : ((2 : Int) ^ q) = ((2 ^ q : Nat) : Int) := by simp
  rw [e, IntKind.wrap_u64]
  generalize 2 ^ q = m at *
  omega
theorem shl_or (s q : Nat) (hs : s < 18446744073709551616) (hq : q ≤ 63) : bits BinOp.or IntKind.u64 (s : Int) (IntKind.u64.wrap (2 ^ q)) = ((s ||| 2 ^ q : Nat) : Int) := by
  have h2 : 2 ^ q < 2 ^ 64 := Nat.pow_lt_pow_right (by decide) (by omega)
  rw [wrap_pow q hq]
  exact u64_or_nat s (2 ^ q) hs h2
theorem sof_any (v : Value) (l : List Int) (w : World) (hv : Sl w v (l.map (Value.int .i64))) (hl : l.length ≤ 9223372036854775807) :
    Calls Tryd.prog 56 #[v] w fun e w' => e = .returned (.int .u64 (St.ofN l : Nat)) ∧ w = w' := by
  obtain ⟨A, c, rfl, _, hx⟩ := hv
  rw [List.length_map]
  obtain ⟨n, hn⟩ : ∃ n, n = l.length := ⟨_, rfl⟩
  rw [← hn] at hl ⊢
  have Hn := Lib.hid hn
  have HX := Lib.hid hx
  clear hn hx
  go_enter Tryd.func56, Tryd.ntmps56
  go_wp2
  go_loop [3, 8] (fun s i => ∃ q sv : Nat, q ≤ n ∧ i = .int .i64 q ∧ s = .int .u64 sv ∧ Hid (sv = St.ofN (l.take q))) (fun _ i => n - (intOf i).toNat)
  case atStart => exact ⟨0, 0, by omega, rfl, rfl, Lib.hid (by rw [List.take_zero, St.ofN_nil])⟩
  case round =>
    obtain ⟨q, sv, hq, rfl, rfl, hsv⟩ := hrel
    by_cases hlt : q < n
    · obtain ⟨x, gx⟩ : ∃ x, l[q]? = some x := ⟨l[q]'(by have := Hn.out; omega), List.getElem?_eq_getElem _⟩
      obtain ⟨b, o, p, rfl, _, hcell⟩ := HX.out q (.int .i64 x) (by simp [gx])
      have ht : l.take (q + 1) = l.take q ++ [x] := by rw [List.take_add_one, gx]; rfl
      clear gx
      by_cases hm : 0 ≤ x ∧ x ≤ 63
      · obtain ⟨h0, h1⟩ := hm
        obtain ⟨y, rfl⟩ := Int.eq_ofNat_of_zero_le h0
        have hs : sv < 18446744073709551616 := by rw [hsv.out]; exact St.ofN_lt _
        have ho := shl_or sv y hs (by omega)
        have H2 : Hid (sv ||| 2 ^ y = St.ofN (l.take (q + 1))) := Lib.hid (by rw [ht, St.ofN_snoc_in _ _ h0 h1, hsv.out]; rfl)
        clear ht hs
        go_wp2_with (go_at_call 71; refine (member_yes _ _ h0 h1).mono ?_; rintro e w' ⟨rfl, rfl⟩)
        go_round
        case rel => exact ⟨q + 1, sv ||| 2 ^ y, by omega, by go_num, by first | rfl | rw [ho], H2⟩
        case measure => simp [intOf]; omega
      · have hm' : x < 0 ∨ 63 < x := by omega
        have H2 : Hid (sv = St.ofN (l.take (q + 1))) := Lib.hid (by rw [ht, St.ofN_snoc_out _ _ hm, hsv.out])
        clear ht hm
        go_wp2_with (go_at_call 71; refine (member_no _ _ hm').mono ?_; rintro e w' ⟨rfl, rfl⟩)
        go_round
        case rel => exact ⟨q + 1, sv, by omega, by go_num, rfl, H2⟩
        case measure => simp [intOf]; omega
    · have he : Hid (sv = St.ofN l) := Lib.hid (by rw [hsv.out, List.take_of_length_le (by have := Hn.out; omega)])
      go_wp2
      go_ret
      exact ⟨ret_int (by rw [he.out]), rfl⟩

end Go.Proofs.YthfoagglncimnaaDoor
