/-
  THE LAW ValueBack, walked.
-/
import Derived.Test.YtlaelegbfjpodaaDoorVald
namespace Go.Proofs.YtlaelegbfjpodaaDoor
open Go.RowKit Go.Sort
set_option maxHeartbeats 800000

/-- Parse of what Print tells -/
theorem par_prt (b : Bool) (n : Int) (h0 : -9223372036854775808 ≤ n) (h1 : n ≤ 9223372036854775807) : Va.par (prt b n) = ⟨b, if b then 0 else n, 0⟩ := by
  cases b
  · exact Va.par_itoa n h0 h1
  · exact Va.par_nul
theorem prt_len (b : Bool) (n : Int) (h0 : -9223372036854775808 ≤ n) (h1 : n ≤ 9223372036854775807) : (prt b n).length ≤ 281474976710656 := by
  cases b
  · have := Lib.itoa_length_le n h0 h1
    show (Lib.itoa n).length ≤ _
    omega
  · show Va.nul.length ≤ _
    decide

set_option maxRecDepth 100000 in
theorem back_any (b : Bool) (n : Int) (s : ByteArray) (w : World) (h0 : -9223372036854775808 ≤ n) (h1 : n ≤ 9223372036854775807) (hL : Laid w) :
    Calls Tryd.prog 5 #[.agg #[.bool b, .int .i64 n], .string s] w fun e w' => e = .returned (.bool true) ∧ Below w.heap.size w w' := by
  obtain ⟨W0, hW0⟩ : ∃ W0, W0 = w.alloc (Obj.cells #[Value.bool b, Value.int IntKind.i64 n] 23) := ⟨_, rfl⟩
  obtain ⟨l1, hb0⟩ := box1 hW0
  have hL0 : Laid W0 := hL.below hb0 (Nat.le_refl _)
  by_cases hlong : 300 < s.size
  · have d1 : decide ((300 : Int) < (s.size : Int)) = true := by simp; omega
    have hw := awake_any W0 hL0
    clear hlong l1 hL0 hL h0 h1
    have HW := Lib.hid hW0
    clear hW0
    go_enter Tryd.func5, Tryd.ntmps5
    go_wp2_with (rw [← HW.out]; refine hw.mono ?_; rintro e w' ⟨rfl, hS⟩)
    go_ret
    exact ⟨rfl, below_join hb0 hS⟩
  · have d1 : decide ((300 : Int) < (s.size : Int)) = false := by simp; omega
    have hsz : s.size ≤ 281474976710656 := by omega
    have k0 := cell_turn (l1.cell (i := 0) rfl)
    have k1 := cell_turn (l1.cell (i := 0 + 1) rfl)
    have cpr := print_any b n W0 h0 h1 hL0.pows
    have cpa := fun W => parse_any ⟨(prt b n).toArray⟩ W (prt_len b n h0 h1)
    rw [show (⟨(prt b n).toArray⟩ : ByteArray).data.toList = prt b n from rfl, par_prt b n h0 h1] at cpa
    obtain ⟨k, hk⟩ : ∃ k : Int, k = if b then 0 else n := ⟨_, rfl⟩
    rw [← hk] at cpa
    have hsame : Va.same b n b k = true := by rw [hk]; cases b <;> simp [Va.same]
    have hright : Va.right b k = true := by rw [hk]; cases b <;> simp [Va.right]
    have HW := Lib.hid hW0
    have HSZ := Lib.hid hsz
    have HK := Lib.hid hk
    have H0 := Lib.hid (And.intro h0 h1)
    have HS := Lib.hid hsame
    have HR := Lib.hid hright
    clear hW0 hsz hk h0 h1 hsame hright hlong hL
    go_enter Tryd.func5, Tryd.ntmps5
    go_wp2_with fail
    rw [← HW.out]
    refine cpr.mono ?_
    rintro e w1 ⟨rfl, hb1⟩
    clear cpr
    have cpa1 := cpa w1 (hL0.below hb1 (Nat.le_refl _)).err
    clear cpa
    go_wp2_with fail
    refine cpa1.mono ?_
    rintro e w2 ⟨rfl, hb2⟩
    have hbb : Below W0.heap.size W0 w2 := below_join hb1 hb2
    obtain ⟨W1, hW1⟩ : ∃ W1, W1 = w2.alloc (Obj.cells #[Value.bool b, Value.int IntKind.i64 k] 23) := ⟨_, rfl⟩
    obtain ⟨l2, hb3⟩ := box1 hW1
    have l1' := (l1.below hbb l1.lt).below hb3 (Nat.lt_of_lt_of_le l1.lt hbb.size)
    have hbW : Below w.heap.size w W1 := below_join hb0 (below_join hbb hb3)
    have hL1 : Laid W1 := hL0.below (below_join hbb hb3) (Nat.le_refl _)
    clear cpa1 k0 k1 hb1 hb2 hbb hb3 l1 hL0
    have k0 := cell_turn (l1'.cell (i := 0) rfl)
    have k1 := cell_turn (l1'.cell (i := 0 + 1) rfl)
    have k2 := cell_turn (l2.cell (i := 0) rfl)
    have k3 := cell_turn (l2.cell (i := 0 + 1) rfl)
    have cs := in_turn (W0 := W1) fun W _ => same_any b b n k W
    have cr := in_turn (W0 := W1) fun W _ => right_any b k W
    rw [HS.out] at cs
    rw [HR.out] at cr
    have hT : Below W1.heap.size W1 W1 := Below.refl _ _
    have HW1 := Lib.hid hW1
    clear hW1 l1' l2
    go_upto_region 4 with fail
    rw [← HW1.out]
    go_cut [31] (fun v wx => v = .bool false ∧ Below W1.heap.size W1 wx)
    case first =>
      go_wp2_with ((first | (with_reducible refine (cs _ (by assumption)).mono ?_) | (with_reducible refine (cr _ (by assumption)).mono ?_)); rintro e w' ⟨rfl, hS'⟩)
      go_meet
      exact ⟨rfl, by assumption⟩
    case rest =>
      obtain ⟨rfl, hS⟩ := hcut
      clear hT cs cr k0 k1 k2 k3 HS HR
      have cpa := parse_any s wc HSZ.out (hL1.below hS (Nat.le_refl _)).err
      obtain ⟨R, hR⟩ : ∃ R, R = Va.par s.data.toList := ⟨_, rfl⟩
      rw [← hR] at cpa
      go_wp2_with fail
      refine cpa.mono ?_
      rintro e w3 ⟨rfl, hb4⟩
      clear cpa
      have hbz' : Below W1.heap.size W1 w3 := below_join hS hb4
      have hbw : Below w.heap.size w w3 := below_join hbW hbz'
      clear hS hb4 hbW
      rcases Va.par_cases s.data.toList with ⟨hl, he⟩ | ⟨q, hq0, hq1, hl, he⟩ | he | he
      · obtain rfl := hR.trans he
        clear hR he
        obtain ⟨W3, hW3⟩ : ∃ W3, W3 = w3.alloc (Obj.cells #[Value.bool true, Value.int IntKind.i64 (0)] 23) := ⟨_, rfl⟩
        obtain ⟨l3, hb5⟩ := box1 hW3
        have hbz : Below w.heap.size w W3 := below_join hbw hb5
        have hL3 : Laid W3 := hL1.below (below_join hbz' hb5) (Nat.le_refl _)
        have cw := in_turn (W0 := W3) fun W h => awake_any W (hL3.below h (Nat.le_refl _))
        have cp := in_turn (W0 := W3) fun W h => print_any true (0) W (by omega) (by omega) (hL3.below h (Nat.le_refl _)).pows
        have k2 := cell_turn (l3.cell (i := 0) rfl)
        have k3 := cell_turn (l3.cell (i := 0 + 1) rfl)
        have hT : Below W3.heap.size W3 W3 := Below.refl _ _
        have hW3' := Lib.hid hW3
        have heq : (prt true (0) == s.toList) = true := by rw [Lib.toList_data, hl]; exact beq_self_eq_true _
        clear hW3 l3 hb5 hbw hbz' hL1 hL3 hl
        go_upto_region 7 with fail
        rw [← hW3'.out]
        go_wp2_with ((first | (with_reducible refine (cp _ (by assumption)).mono ?_) | (with_reducible refine (cw _ (by assumption)).mono ?_)); rintro e w' ⟨rfl, hS'⟩)
        go_ret
        exact ⟨rfl, below_join hbz (by assumption)⟩
      · obtain rfl := hR.trans he
        clear hR he
        obtain ⟨W3, hW3⟩ : ∃ W3, W3 = w3.alloc (Obj.cells #[Value.bool false, Value.int IntKind.i64 (q)] 23) := ⟨_, rfl⟩
        obtain ⟨l3, hb5⟩ := box1 hW3
        have hbz : Below w.heap.size w W3 := below_join hbw hb5
        have hL3 : Laid W3 := hL1.below (below_join hbz' hb5) (Nat.le_refl _)
        have cw := in_turn (W0 := W3) fun W h => awake_any W (hL3.below h (Nat.le_refl _))
        have cp := in_turn (W0 := W3) fun W h => print_any false (q) W (by omega) (by omega) (hL3.below h (Nat.le_refl _)).pows
        have k2 := cell_turn (l3.cell (i := 0) rfl)
        have k3 := cell_turn (l3.cell (i := 0 + 1) rfl)
        have hT : Below W3.heap.size W3 W3 := Below.refl _ _
        have hW3' := Lib.hid hW3
        have heq : (prt false (q) == s.toList) = true := by rw [Lib.toList_data, hl]; exact beq_self_eq_true _
        clear hW3 l3 hb5 hbw hbz' hL1 hL3 hl hq0 hq1
        go_upto_region 7 with fail
        rw [← hW3'.out]
        go_wp2_with ((first | (with_reducible refine (cp _ (by assumption)).mono ?_) | (with_reducible refine (cw _ (by assumption)).mono ?_)); rintro e w' ⟨rfl, hS'⟩)
        go_ret
        exact ⟨rfl, below_join hbz (by assumption)⟩
      · obtain rfl := hR.trans he
        clear hR he
        obtain ⟨W3, hW3⟩ : ∃ W3, W3 = w3.alloc (Obj.cells #[Value.bool false, Value.int IntKind.i64 0] 23) := ⟨_, rfl⟩
        obtain ⟨l3, hb5⟩ := box1 hW3
        have hbz : Below w.heap.size w W3 := below_join hbw hb5
        have hw := awake_any W3 (hL1.below (below_join hbz' hb5) (Nat.le_refl _))
        have hW3' := Lib.hid hW3
        clear hW3 l3 hb5 hbw hbz' hL1
        go_wp2_with (rw [← hW3'.out]; refine hw.mono ?_; rintro e w' ⟨rfl, hS⟩)
        go_ret
        exact ⟨rfl, below_join hbz hS⟩
      · obtain rfl := hR.trans he
        clear hR he
        obtain ⟨W3, hW3⟩ : ∃ W3, W3 = w3.alloc (Obj.cells #[Value.bool false, Value.int IntKind.i64 0] 23) := ⟨_, rfl⟩
        obtain ⟨l3, hb5⟩ := box1 hW3
        have hbz : Below w.heap.size w W3 := below_join hbw hb5
        have hw := awake_any W3 (hL1.below (below_join hbz' hb5) (Nat.le_refl _))
        have hW3' := Lib.hid hW3
        clear hW3 l3 hb5 hbw hbz' hL1
        go_wp2_with (rw [← hW3'.out]; refine hw.mono ?_; rintro e w' ⟨rfl, hS⟩)
        go_ret
        exact ⟨rfl, below_join hbz hS⟩
end Go.Proofs.YtlaelegbfjpodaaDoor
