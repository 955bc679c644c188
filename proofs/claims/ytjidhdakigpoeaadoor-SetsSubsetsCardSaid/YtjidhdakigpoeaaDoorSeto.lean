/-
  THE CONTRACTS OF package sets' Of AND List.
-/
import Derived.Test.YtjidhdakigpoeaaDoorRefc
namespace Go.Proofs.YtjidhdakigpoeaaDoor
open Go.RowKit
set_option maxHeartbeats 400000

theorem wrap_pow (q : Nat) (hq : q ≤ 63) : IntKind.u64.wrap (2 ^ q) = ((2 ^ q : Nat) : Int) := by
  have h2 : 2 ^ q < 2 ^ 64 := Nat.pow_lt_pow_right (by decide) (by omega)
  have e : ((2 : Int) ^ q) = ((2 ^ q : Nat) : Int) := by simp
  rw [e, IntKind.wrap_u64]
  generalize 2 ^ q = m at *
  omega
theorem shl_or (s q : Nat) (hs : s < 18446744073709551616) (hq : q ≤ 63) : bits BinOp.or IntKind.u64 (s : Int) (IntKind.u64.wrap (2 ^ q)) = ((s ||| 2 ^ q : Nat) : Int) := by
  have h2 : 2 ^ q < 2 ^ 64 := Nat.pow_lt_pow_right (by decide) (by omega)
  rw [wrap_pow q hq]
  exact u64_or_nat s (2 ^ q) hs h2
theorem sof_any (v : Value) (l : List Int) (w : World) (hv : Sl w v (l.map (Value.int .i64))) (hl : l.length ≤ 9223372036854775807) :
    Calls Tryd.prog 11 #[v] w fun e w' => e = .returned (.int .u64 (St.ofN l : Nat)) ∧ w = w' := by
  obtain ⟨A, c, rfl, _, hx⟩ := hv
  rw [List.length_map]
  obtain ⟨n, hn⟩ : ∃ n, n = l.length := ⟨_, rfl⟩
  rw [← hn] at hl ⊢
  have Hn := Lib.hid hn
  have HX := Lib.hid hx
  clear hn hx
  go_enter Tryd.func11, Tryd.ntmps11
  go_wp2
  go_loop [3, 8] (fun s i => ∃ q sv : Nat, q ≤ n ∧ i = .int .i64 q ∧ s = .int .u64 sv ∧ Hid (sv = St.ofN (l.take q))) (fun _ i => n - (intOf i).toNat)
  case atStart => exact ⟨0, 0, by omega, rfl, rfl, Lib.hid (by rw [List.take_zero, St.ofN_nil])⟩
  case round =>
    obtain ⟨q, sv, hq, rfl, rfl, hsv⟩ := hrel
    by_cases hlt : q < n
    · obtain ⟨x, gx⟩ : ∃ x, l[q]? = some x := ⟨l[q]'(by have := Hn.out; omega), List.getElem?_eq_getElem _⟩
      obtain ⟨b, o, p, rfl, _, hcell⟩ := HX.out q (.int .i64 x) (by simp [gx])
      have ht : l.take (q + 1) = l.take q ++ [x] := by rw [List.take_add_one, gx]; rfl
      clear gx
      by_cases hm : 0 ≤ x ∧ x ≤ 63
      · obtain ⟨h0, h1⟩ := hm
        obtain ⟨y, rfl⟩ := Int.eq_ofNat_of_zero_le h0
        have hs : sv < 18446744073709551616 := by rw [hsv.out]; exact St.ofN_lt _
        have ho := shl_or sv y hs (by omega)
        have H2 : Hid (sv ||| 2 ^ y = St.ofN (l.take (q + 1))) := Lib.hid (by rw [ht, St.ofN_snoc_in _ _ h0 h1, hsv.out]; rfl)
        clear ht hs
        go_wp2_with (go_at_call 25; refine (member_yes _ _ h0 h1).mono ?_; rintro e w' ⟨rfl, rfl⟩)
        go_round
        case rel => exact ⟨q + 1, sv ||| 2 ^ y, by omega, by go_num, by first | rfl | rw [ho], H2⟩
        case measure => simp [intOf]; omega
      · have hm' : x < 0 ∨ 63 < x := by omega
        have H2 : Hid (sv = St.ofN (l.take (q + 1))) := Lib.hid (by rw [ht, St.ofN_snoc_out _ _ hm, hsv.out])
        clear ht hm
        go_wp2_with (go_at_call 25; refine (member_no _ _ hm').mono ?_; rintro e w' ⟨rfl, rfl⟩)
        go_round
        case rel => exact ⟨q + 1, sv, by omega, by go_num, rfl, H2⟩
        case measure => simp [intOf]; omega
    · have he : Hid (sv = St.ofN l) := Lib.hid (by rw [hsv.out, List.take_of_length_le (by have := Hn.out; omega)])
      go_wp2
      go_ret
      exact ⟨ret_int (by rw [he.out]), rfl⟩

theorem clear_eq (y c : Nat) (hy : y < 18446744073709551616) (hc : c ≤ 63) : bits BinOp.andNot IntKind.u64 (y : Int) (IntKind.u64.wrap (2 ^ c)) = ((St.clear y c : Nat) : Int) := by
  have h2 : 2 ^ c < 2 ^ 64 := Nat.pow_lt_pow_right (by decide) (by omega)
  rw [wrap_pow c hc]
  exact u64_andNot_nat y (2 ^ c) hy h2
theorem min_nat (y c : Nat) (w : World) (hy : y < 18446744073709551616) (hT : Tab w) (h : St.minI y = c) :
    Calls Tryd.prog 20 #[.int .u64 y] w fun e w' => e = .returned (.int .i64 c) ∧ w = w' :=
  (min_any _ _ (U64.of hy) hT).mono fun e w' ⟨he, hw⟩ => ⟨by rw [he, Int.toNat_natCast, h], hw⟩
theorem list_step {x y : Nat} {pre : List Nat} (hy : y < 18446744073709551616) (h : St.memb x = pre ++ St.memb y) (hl : pre.length < (St.memb x).length) :
    ∃ c : Nat, c ≤ 63 ∧ St.minI y = c ∧ St.memb x = (pre ++ [c]) ++ St.memb (St.clear y c) := by
  have h0 : y ≠ 0 := by
    intro e; subst e
    rw [h, St.memb_zero] at hl
    simp at hl
  refine ⟨Lib.ctz 64 y, by have := (St.ctz_bit h0 hy).1; omega, by unfold St.minI; rw [if_neg h0], ?_⟩
  rw [h, St.memb_cons h0 hy]
  simp
theorem slist_any (a : Int) (w : World) (ha : U64 a) (hT : Tab w) :
    Calls Tryd.prog 14 #[.int .u64 a] w (OwnNums 3 .i64 w (ints (St.memb a.toNat))) := by
  obtain ⟨x, rfl, hx⟩ := ha.nat
  rw [Int.toNat_natCast]
  obtain ⟨i0, hi, hz0, hz1, hz2⟩ := info_parts Tryd.infoInt
  have hn64 := St.pop_le 64 x
  have HN := Lib.hid (St.memb_length x)
  have HC := fun w' => Lib.hid (count_any (x : Int) w' (U64.of hx))
  rw [Int.toNat_natCast] at HC
  obtain ⟨n, hn⟩ : ∃ n, n = St.pop 64 x := ⟨_, rfl⟩
  rw [← hn] at hn64 HN HC
  clear hn
  have HT := Lib.hid hT
  have HX := Lib.hid ha
  clear hT ha
  have Hx := Lib.hid hx
  clear hx
  have HC' := Lib.hid HC
  clear HC
  go_enter Tryd.func14, Tryd.ntmps14
  go_wp2_with (first
    | (go_at_call 18; refine ((HC'.out _).out).mono ?_; rintro e w' ⟨rfl, rfl⟩)
    | (at_make; refine wpList_make_own _ rfl _ _ 23 rfl w.heap.size 3 i0 (.int .i64 0) 1 Tryd.underlying23 hi hz0 hz1 .i64 .i64 _ n rfl rfl rfl (by rw [hz2]; omega) (by unfold maxLen; omega) (Nat.le_refl _) ?_; intro w0 hown0 hgrow0))
  have hb0 : Below w.heap.size w w0 := (Below.refl _ w).grown hgrow0 (Nat.le_refl _) (fun k hk => by cases hk)
  clear hgrow0
  go_loopw [0, 3, 10] (fun s v i wr => ∃ (k y : Nat) (pre : List Nat), k ≤ n ∧ i = .int .i64 k ∧ s = .int .u64 y ∧ Hid (y < 18446744073709551616) ∧ Hid (St.memb x = pre ++ St.memb y) ∧ Hid (pre.length = k) ∧
    wr.ownsRow w.heap.size 3 1 v (ints pre).length ((ints pre).map (Value.int .i64)) ∧ Below w.heap.size w wr) (fun _ _ i _ => n - (intOf i).toNat)
  case atStart => exact ⟨0, x, [], by omega, rfl, rfl, Hx, Lib.hid rfl, Lib.hid rfl, hown0, hb0⟩
  case round =>
    obtain ⟨k, y, pre, hk, rfl, rfl, Hy, Hm, Hl, hown, hb⟩ := hrel
    by_cases hlt : k < n
    · obtain ⟨c, hc, hmin, hm2⟩ := list_step Hy.out Hm.out (by rw [HN.out, Hl.out]; exact hlt)
      have hlen : (ints pre).length ≤ 64 := by rw [ints_length, Hl.out]; omega
      have Hl2 : Hid ((pre ++ [c]).length = k + 1) := Lib.hid (by rw [List.length_append, Hl.out]; rfl)
      have Hcl := Lib.hid (clear_eq y c Hy.out hc)
      have Hmin := Lib.hid hmin
      have Hm2 := Lib.hid hm2
      clear hmin hm2
      go_wp2_with (first
        | (go_at_call 20; refine (min_nat y c _ Hy.out (HT.out.below hb) Hmin.out).mono ?_; rintro e w' ⟨rfl, rfl⟩)
        | (at_builtin; refine wpList_append_own _ rfl _ _ 23 rfl w.heap.size 3 i0 (.int .i64 0) 1 8 Tryd.underlying23 hi hz0 hz1 hz2 rfl (by decide) _ _ _ rfl (hown.alloc _) ⟨wr.heap.size, 0, none⟩ 1 1 [.int .i64 c] rfl rfl ?c1 ?c2 ?c3 ?c4 ?c5 ?_))
      case c1 => exact cell_one_new _ _ _
      case c2 => simp [Value.oneCell']
      case c3 => unfold maxLen; omega
      case c4 => omega
      case c5 => have := hb.size; simp; omega
      intro v' w1 hown' hgrow _
      have hown2 := own_snoc hown'
      have hb2 := own_grown hb hown hgrow
      clear hown' hgrow
      go_wp2
      go_roundw
      case rel => exact ⟨k + 1, St.clear y c, pre ++ [c], by omega, by go_num, by rw [Hcl.out], Lib.hid (St.clear_lt _ _), Hm2, Hl2, by rw [ints_snoc]; exact hown2, hb2⟩
      case measure => simp [intOf]; omega
    · obtain rfl : k = n := by omega
      have he : Hid (pre = St.memb x) := Lib.hid (by
        have h1 : (St.memb y).length = 0 := by
          have := HN.out
          rw [Hm.out, List.length_append, Hl.out] at this
          omega
        rw [Hm.out, List.eq_nil_of_length_eq_zero h1, List.append_nil])
      go_wp2
      go_ret
      rw [← he.out]
      exact ⟨_, rfl, hown, hb⟩
end Go.Proofs.YtjidhdakigpoeaaDoor
