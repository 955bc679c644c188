/-
  THE LAW SetsBelow, WALKED: it returns true.
-/
import Derived.Test.YtjidhdakigpoeaaDoorAwake
namespace Go.Proofs.YtjidhdakigpoeaaDoor
open Go.RowKit
set_option maxHeartbeats 400000
namespace St
theorem filter_lt (k : Nat) : ∀ n, (List.range n).filter (fun j => decide (j < k)) = List.range (min n k)
  | 0 => by simp
  | n + 1 => by
    rw [List.range_succ, List.filter_append, filter_lt k n]
    by_cases h : n < k
    · rw [Nat.min_eq_left (by omega), Nat.min_eq_left (by omega), List.range_succ]; simp [h]
    · rw [Nat.min_eq_right (by omega), Nat.min_eq_right (by omega)]; simp [h]
theorem memb_below (i : Int) (k : Nat) (hk : k ≤ 64) (h : ∀ j : Nat, j < 64 → ((j : Int) ≤ i ↔ j < k)) : memb (belowN i) = List.range k := by
  have e : memb (belowN i) = (List.range 64).filter (fun j => decide (j < k)) := by
    unfold memb membTo
    apply List.filter_congr
    intro j hj
    have hj' := List.mem_range.1 hj
    rw [testBit_belowN]
    simp only [hj', decide_true, Bool.true_and]
    rw [decide_eq_decide]
    exact h j hj'
  rw [e, filter_lt, Nat.min_eq_right hk]
theorem ofN_single (c : Nat) (hc : c < 64) : ofN [(c : Int)] = 2 ^ c := by
  apply word_ext (ofN_lt _) (Nat.pow_lt_pow_right (a := 2) (m := c) (n := 64) (by decide) hc)
  intro j hj
  rw [testBit_ofN, Nat.testBit_two_pow]
  simp only [hj, decide_true, Bool.true_and, List.mem_singleton]
  rw [decide_eq_decide]
  omega
theorem clear_in (s c : Nat) (hs : s < 18446744073709551616) (hc : c < 64) : inB (clear s c) s = true := by
  rw [inB_iff hs]
  intro j _ h
  rw [testBit_clear _ _ _ hc] at h
  simp only [Bool.and_eq_true] at h
  exact h.1
theorem clear_pop (s : Nat) (h0 : s ≠ 0) (hs : s < 18446744073709551616) : pop 64 (clear s (Lib.ctz 64 s)) + 1 = pop 64 s := by
  rw [← memb_length, ← memb_length, memb_cons h0 hs]; rfl
theorem clear_below (s : Nat) (h0 : s ≠ 0) (hs : s < 18446744073709551616) : clear s (Lib.ctz 64 s) &&& belowN (Lib.ctz 64 s : Nat) = 0 := by
  obtain ⟨h1, h2, h3⟩ := ctz_bit h0 hs
  apply word_ext (Nat.and_lt_two_pow (n := 64) _ (belowN_lt _)) (by decide)
  intro j hj
  rw [Nat.testBit_and, testBit_clear _ _ _ h1, testBit_belowN]
  by_cases e : Lib.ctz 64 s = j
  · simp [e]
  · by_cases e2 : j < Lib.ctz 64 s
    · simp [h3 j e2]
    · have : ¬ ((j : Int) ≤ (Lib.ctz 64 s : Nat)) := by omega
      simp [this]
theorem clear_less (s : Nat) (h0 : s ≠ 0) (hs : s < 18446744073709551616) : clear s (Lib.ctz 64 s) < s := by
  have h1 : clear s (Lib.ctz 64 s) ≤ s := Nat.and_le_left
  have h2 : clear s (Lib.ctz 64 s) ≠ s := fun e => by
    have := clear_pop s h0 hs
    rw [e] at this
    omega
  omega
end St

/-- behind the first part: s's own -/
theorem below_list (i : Int) (k : Nat) (w : World) (hT : Tab w) (hk : k ≤ 64) (h : ∀ j : Nat, j < 64 → ((j : Int) ≤ i ↔ j < k)) :
    Calls Tryd.prog 14 #[.int .u64 (St.belowN i : Nat)] w fun e w' => Below w.heap.size w w' ∧ ∃ A c, e = .returned (.slice A k c) ∧ (∀ j : Nat, j < k → ∃ b o p, A = some ⟨b, o, p⟩ ∧ w'.cell? ((⟨b, o, p⟩ : Addr).add j) = some (.int .i64 j)) := by
  refine (slist_any _ w (U64.of (St.belowN_lt i)) hT).mono fun e w' hh => ?_
  rw [Int.toNat_natCast, St.memb_below i k hk h] at hh
  obtain ⟨A, c, rfl, _, hc, _, hb⟩ := hh.form
  rw [ints_length, List.length_range]
  exact ⟨hb, A, c, rfl, fun j hj => hc j j (by simp [ints, List.getElem?_range hj])⟩

/-- the second part: s parts into its least member and the others -/
def BelowEnd (w : World) (e : Ending) (w' : World) : Prop := e = .returned (.bool true) ∧ Below w.heap.size w w'

theorem sof_single (c : Nat) (w : World) (hc : c < 64) : Calls Tryd.prog 11 #[.slice (some ⟨w.heap.size, 0, none⟩) 1 1] (w.alloc (.cells #[.int .i64 c] 3)) fun e w' => e = .returned (.int .u64 (2 ^ c : Nat)) ∧ w.alloc (.cells #[.int .i64 c] 3) = w' :=
  (sof_any _ [(c : Int)] _ (Sl.new w 3 [.int .i64 c]) (by simp)).mono fun e w' ⟨he, hw⟩ => ⟨by rw [he, St.ofN_single c hc], hw⟩
theorem has_least (s c : Nat) (w : World) (hs : s < 18446744073709551616) (hc : c < 64) (h : s.testBit c = true) : Calls Tryd.prog 7 #[.int .u64 s, .int .i64 c] w fun e w' => e = .returned (.bool true) ∧ w = w' :=
  (has_any s c w (U64.of hs)).mono fun e w' ⟨he, hw⟩ => ⟨by rw [he, Int.toNat_natCast]; unfold St.hasB; simp [h]; omega, hw⟩
theorem in_true (r s : Nat) (w : World) (hr : r < 18446744073709551616) (hs : s < 18446744073709551616) (h : St.inB r s = true) : Calls Tryd.prog 16 #[.int .u64 r, .int .u64 s] w fun e w' => e = .returned (.bool true) ∧ w = w' :=
  (in_any r s w (U64.of hr) (U64.of hs)).mono fun e w' ⟨he, hw⟩ => ⟨by rw [he, Int.toNat_natCast, Int.toNat_natCast, h], hw⟩
theorem count_nat (r p : Nat) (w : World) (hr : r < 18446744073709551616) (h : St.pop 64 r = p) : Calls Tryd.prog 18 #[.int .u64 r] w fun e w' => e = .returned (.int .i64 p) ∧ w = w' :=
  (count_any r w (U64.of hr)).mono fun e w' ⟨he, hw⟩ => ⟨by rw [he, Int.toNat_natCast, h], hw⟩
theorem below_nat (i : Int) (b : Nat) (w : World) (h : St.belowN i = b) : Calls Tryd.prog 9 #[.int .i64 i] w fun e w' => e = .returned (.int .u64 b) ∧ w = w' :=
  (below_any i w).mono fun e w' ⟨he, hw⟩ => ⟨by rw [he, h], hw⟩

theorem sbelow_zero (i : Int) (w : World) (hT : Tab w) (hlo : -9223372036854775808 ≤ i) (hcase : i < 0 ∨ (0 ≤ i ∧ i ≤ 63) ∨ 63 < i) :
    Calls Tryd.prog 5 #[.int .u64 0, .int .i64 i] w (BelowEnd w) := by
  have HT := Lib.hid hT
  clear hT
  rcases hcase with hi | hi | hi
  · have HL := Lib.hid (below_list i 0 w HT.out (by omega) (fun j hj => by omega))
    go_enter Tryd.func5, Tryd.ntmps5
    go_wp2_with fail
    refine (below_any i w).mono ?_
    rintro e w' ⟨rfl, rfl⟩
    go_wp2_with fail
    refine HL.out.mono ?_
    rintro e w1 ⟨hb, A, c, rfl, -⟩
    clear HL
    go_wp2_with fail
    refine (min_any 0 w1 ⟨by decide, by decide⟩ (HT.out.below hb)).mono ?_
    rintro e w' ⟨rfl, rfl⟩
    rw [show St.minI (0 : Int).toNat = -1 by decide +kernel]
    go_wp2_with fail
    refine (count_nat 0 0 w1 (by decide) (by decide +kernel)).mono ?_
    rintro e w' ⟨rfl, rfl⟩
    go_wp2_with fail
    refine (awake_any w1 (HT.out.below hb)).mono ?_
    rintro e w' ⟨rfl, hb2⟩
    go_wp2_with fail
    go_ret
    exact ⟨rfl, hb.trans (hb2.mono hb.size)⟩
  · obtain ⟨n, rfl⟩ := Int.eq_ofNat_of_zero_le hi.1
    have hn : n ≤ 63 := by omega
    have HL := Lib.hid (below_list n (n + 1) w HT.out (by omega) (fun j hj => by omega))
    clear hi hlo
    go_enter Tryd.func5, Tryd.ntmps5
    go_wp2_with fail
    refine (below_any n w).mono ?_
    rintro e w' ⟨rfl, rfl⟩
    go_wp2_with fail
    refine HL.out.mono ?_
    rintro e w1 ⟨hb, A, c, rfl, hc⟩
    obtain ⟨b, o, p, rfl, hcell⟩ := hc n (by omega)
    clear HL hc
    go_wp2_with fail
    refine (min_any 0 w1 ⟨by decide, by decide⟩ (HT.out.below hb)).mono ?_
    rintro e w' ⟨rfl, rfl⟩
    rw [show St.minI (0 : Int).toNat = -1 by decide +kernel]
    go_wp2_with fail
    refine (count_nat 0 0 w1 (by decide) (by decide +kernel)).mono ?_
    rintro e w' ⟨rfl, rfl⟩
    go_wp2_with fail
    refine (awake_any w1 (HT.out.below hb)).mono ?_
    rintro e w' ⟨rfl, hb2⟩
    go_wp2_with fail
    go_ret
    exact ⟨rfl, hb.trans (hb2.mono hb.size)⟩
  · have HL := Lib.hid (below_list i 64 w HT.out (by omega) (fun j hj => by omega))
    go_enter Tryd.func5, Tryd.ntmps5
    go_wp2_with fail
    refine (below_any i w).mono ?_
    rintro e w' ⟨rfl, rfl⟩
    go_wp2_with fail
    refine HL.out.mono ?_
    rintro e w1 ⟨hb, A, c, rfl, hc⟩
    obtain ⟨b, o, p, rfl, hcell0⟩ := hc 63 (by omega)
    have hcell : w1.cell? ⟨b, o + 63, none⟩ = some (.int .i64 63) := hcell0
    clear hcell0
    clear HL hc
    go_wp2_with fail
    refine (min_any 0 w1 ⟨by decide, by decide⟩ (HT.out.below hb)).mono ?_
    rintro e w' ⟨rfl, rfl⟩
    rw [show St.minI (0 : Int).toNat = -1 by decide +kernel]
    go_wp2_with fail
    refine (count_nat 0 0 w1 (by decide) (by decide +kernel)).mono ?_
    rintro e w' ⟨rfl, rfl⟩
    go_wp2_with fail
    refine (awake_any w1 (HT.out.below hb)).mono ?_
    rintro e w' ⟨rfl, hb2⟩
    go_wp2_with fail
    go_ret
    exact ⟨rfl, hb.trans (hb2.mono hb.size)⟩

theorem sbelow_pos (s : Nat) (i : Int) (w : World) (hT : Tab w) (hs : s < 18446744073709551616) (h0 : s ≠ 0) (hlo : -9223372036854775808 ≤ i) (hcase : i < 0 ∨ (0 ≤ i ∧ i ≤ 63) ∨ 63 < i) :
    Calls Tryd.prog 5 #[.int .u64 s, .int .i64 i] w (BelowEnd w) := by
  obtain ⟨hc0, hbit, hlow⟩ := St.ctz_bit h0 hs
  have hmin : St.minI s = (Lib.ctz 64 s : Nat) := by unfold St.minI; rw [if_neg h0]
  have hin := St.clear_in s (Lib.ctz 64 s) hs hc0
  have hcnt2 := St.clear_pop s h0 hs
  have hbz := St.clear_below s h0 hs
  have hless := St.clear_less s h0 hs
  have hrl := St.clear_lt s (Lib.ctz 64 s)
  have h2 : 2 ^ Lib.ctz 64 s < 18446744073709551616 := Nat.pow_lt_pow_right (a := 2) (m := Lib.ctz 64 s) (n := 64) (by decide) hc0
  have hand : bits BinOp.andNot IntKind.u64 (s : Int) ((2 ^ Lib.ctz 64 s : Nat) : Int) = ((St.clear s (Lib.ctz 64 s) : Nat) : Int) := u64_andNot_nat s (2 ^ Lib.ctz 64 s) hs h2
  have hand2 : bits BinOp.and IntKind.u64 ((St.clear s (Lib.ctz 64 s) : Nat) : Int) ((St.belowN (Lib.ctz 64 s : Nat) : Nat) : Int) = 0 := by
    rw [u64_and_nat _ _ hrl (St.belowN_lt _), hbz]; rfl
  obtain ⟨c0, ec0⟩ : ∃ c0, c0 = Lib.ctz 64 s := ⟨_, rfl⟩
  rw [← ec0] at hc0 hbit hmin hin hcnt2 hless hrl hand hand2
  obtain ⟨r, er⟩ : ∃ r, r = St.clear s c0 := ⟨_, rfl⟩
  rw [← er] at hin hcnt2 hless hrl hand hand2
  obtain ⟨q, eq⟩ : ∃ q, q = St.pop 64 r := ⟨_, rfl⟩
  rw [← eq] at hcnt2
  obtain ⟨pw, epw⟩ : ∃ pw, pw = 2 ^ c0 := ⟨_, rfl⟩
  rw [← epw] at hand
  have HT := Lib.hid hT
  have HS := Lib.hid hs
  have Hbit := Lib.hid hbit
  have Hmin := Lib.hid hmin
  have Hin := Lib.hid hin
  have Hcnt := Lib.hid eq.symm
  have Hcnt2 := Lib.hid hcnt2.symm
  have Hr := Lib.hid hrl
  have Hpw := Lib.hid epw
  have Hand := Lib.hid hand
  have Hand2 := Lib.hid hand2
  have hz : ((s : Int) == 0) = false := by simp; omega
  have hq : q ≤ 64 := by rw [eq]; exact St.pop_le 64 r
  clear hT hs hbit hlow hmin hin hcnt2 hbz hrl h2 ec0 er eq epw hand hand2 h0
  rcases hcase with hi | hi | hi
  · have HL := Lib.hid (below_list i 0 w HT.out (by omega) (fun j hj => by omega))
    go_enter Tryd.func5, Tryd.ntmps5
    go_wp2_with fail
    refine (below_any i w).mono ?_
    rintro e w' ⟨rfl, rfl⟩
    go_wp2_with fail
    refine HL.out.mono ?_
    rintro e w1 ⟨hb, A, c, rfl, -⟩
    clear HL
    go_wp2_with fail
    refine (min_nat s c0 w1 HS.out (HT.out.below hb) Hmin.out).mono ?_
    rintro e w' ⟨rfl, rfl⟩
    go_wp2_with fail
    refine (sof_single c0 w1 hc0).mono ?_
    rintro e w' ⟨rfl, rfl⟩
    rw [← Hpw.out]
    have hand := Hand.out
    go_wp2_with fail
    clear hand
    refine (has_least s c0 _ HS.out hc0 Hbit.out).mono ?_
    rintro e w' ⟨rfl, rfl⟩
    go_wp2_with fail
    refine (in_true r s _ Hr.out HS.out Hin.out).mono ?_
    rintro e w' ⟨rfl, rfl⟩
    go_wp2_with fail
    refine (count_nat r q _ Hr.out Hcnt.out).mono ?_
    rintro e w' ⟨rfl, rfl⟩
    go_wp2_with fail
    refine (count_nat s (q + 1) _ HS.out Hcnt2.out).mono ?_
    rintro e w' ⟨rfl, rfl⟩
    go_wp2_with fail
    refine (below_any c0 _).mono ?_
    rintro e w' ⟨rfl, rfl⟩
    have hand2 := Hand2.out
    go_wp2_with fail
    refine (awake_any _ (HT.out.below (hb.alloc hb.size _))).mono ?_
    rintro e w' ⟨rfl, hb2⟩
    go_wp2_with fail
    go_ret
    exact ⟨rfl, (hb.alloc hb.size _).trans (hb2.mono (by simp; have := hb.size; omega))⟩
  · obtain ⟨n, rfl⟩ := Int.eq_ofNat_of_zero_le hi.1
    have hn : n ≤ 63 := by omega
    have HL := Lib.hid (below_list n (n + 1) w HT.out (by omega) (fun j hj => by omega))
    clear hi hlo
    go_enter Tryd.func5, Tryd.ntmps5
    go_wp2_with fail
    refine (below_any n w).mono ?_
    rintro e w' ⟨rfl, rfl⟩
    go_wp2_with fail
    refine HL.out.mono ?_
    rintro e w1 ⟨hb, A, c, rfl, hc⟩
    obtain ⟨b, o, p, rfl, hcell⟩ := hc n (by omega)
    clear HL hc
    go_wp2_with fail
    refine (min_nat s c0 w1 HS.out (HT.out.below hb) Hmin.out).mono ?_
    rintro e w' ⟨rfl, rfl⟩
    go_wp2_with fail
    refine (sof_single c0 w1 hc0).mono ?_
    rintro e w' ⟨rfl, rfl⟩
    rw [← Hpw.out]
    have hand := Hand.out
    go_wp2_with fail
    clear hand
    refine (has_least s c0 _ HS.out hc0 Hbit.out).mono ?_
    rintro e w' ⟨rfl, rfl⟩
    go_wp2_with fail
    refine (in_true r s _ Hr.out HS.out Hin.out).mono ?_
    rintro e w' ⟨rfl, rfl⟩
    go_wp2_with fail
    refine (count_nat r q _ Hr.out Hcnt.out).mono ?_
    rintro e w' ⟨rfl, rfl⟩
    go_wp2_with fail
    refine (count_nat s (q + 1) _ HS.out Hcnt2.out).mono ?_
    rintro e w' ⟨rfl, rfl⟩
    go_wp2_with fail
    refine (below_any c0 _).mono ?_
    rintro e w' ⟨rfl, rfl⟩
    have hand2 := Hand2.out
    go_wp2_with fail
    refine (awake_any _ (HT.out.below (hb.alloc hb.size _))).mono ?_
    rintro e w' ⟨rfl, hb2⟩
    go_wp2_with fail
    go_ret
    exact ⟨rfl, (hb.alloc hb.size _).trans (hb2.mono (by simp; have := hb.size; omega))⟩
  · have HL := Lib.hid (below_list i 64 w HT.out (by omega) (fun j hj => by omega))
    go_enter Tryd.func5, Tryd.ntmps5
    go_wp2_with fail
    refine (below_any i w).mono ?_
    rintro e w' ⟨rfl, rfl⟩
    go_wp2_with fail
    refine HL.out.mono ?_
    rintro e w1 ⟨hb, A, c, rfl, hc⟩
    obtain ⟨b, o, p, rfl, hcell0⟩ := hc 63 (by omega)
    have hcell : w1.cell? ⟨b, o + 63, none⟩ = some (.int .i64 63) := hcell0
    clear hcell0
    clear HL hc
    go_wp2_with fail
    refine (min_nat s c0 w1 HS.out (HT.out.below hb) Hmin.out).mono ?_
    rintro e w' ⟨rfl, rfl⟩
    go_wp2_with fail
    refine (sof_single c0 w1 hc0).mono ?_
    rintro e w' ⟨rfl, rfl⟩
    rw [← Hpw.out]
    have hand := Hand.out
    go_wp2_with fail
    clear hand
    refine (has_least s c0 _ HS.out hc0 Hbit.out).mono ?_
    rintro e w' ⟨rfl, rfl⟩
    go_wp2_with fail
    refine (in_true r s _ Hr.out HS.out Hin.out).mono ?_
    rintro e w' ⟨rfl, rfl⟩
    go_wp2_with fail
    refine (count_nat r q _ Hr.out Hcnt.out).mono ?_
    rintro e w' ⟨rfl, rfl⟩
    go_wp2_with fail
    refine (count_nat s (q + 1) _ HS.out Hcnt2.out).mono ?_
    rintro e w' ⟨rfl, rfl⟩
    go_wp2_with fail
    refine (below_any c0 _).mono ?_
    rintro e w' ⟨rfl, rfl⟩
    have hand2 := Hand2.out
    go_wp2_with fail
    refine (awake_any _ (HT.out.below (hb.alloc hb.size _))).mono ?_
    rintro e w' ⟨rfl, hb2⟩
    go_wp2_with fail
    go_ret
    exact ⟨rfl, (hb.alloc hb.size _).trans (hb2.mono (by simp; have := hb.size; omega))⟩

theorem sbelow_any (s : Nat) (i : Int) (w : World) (hT : Tab w) (hs : s < 18446744073709551616) (hlo : -9223372036854775808 ≤ i) :
    Calls Tryd.prog 5 #[.int .u64 s, .int .i64 i] w (BelowEnd w) := by
  by_cases h0 : s = 0
  · subst h0
    exact sbelow_zero i w hT hlo (by omega)
  · exact sbelow_pos s i w hT hs h0 hlo (by omega)
end Go.Proofs.YtjidhdakigpoeaaDoor
