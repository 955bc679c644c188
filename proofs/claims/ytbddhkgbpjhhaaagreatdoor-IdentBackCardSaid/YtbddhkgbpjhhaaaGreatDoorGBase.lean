/-
  LAID TOGETHER, BY PROGRAM, of: Word, Leaf, Refb, Refc, Seto, Rws, Vala, Lies, Turn.
-/
import Derived.Test.YtbddhkgbpjhhaaaGreatDoorRows
import Derived.Test.YtbddhkgbpjhhaaaGreatDoorGPlain
import Derived.WalkKit
import Derived.WalkSpells
import Derived.Lib.Hide
import Derived.Below
import Derived.Laws.OwnMore
import Derived.Deep.Draws
import Derived.Laws.Rows
import Derived.WalkLawsBesides
import Derived.Shelf.Spec.TrailingZeros
import Derived.OwnWalk
import Derived.BigQuiet
import Derived.Deep.QuietTactic
import Derived.Lib.QuietBelow
namespace Go.Proofs.YtbddhkgbpjhhaaaGreatDoor
open Go.RowKit
def Sl (w : World) (v : Value) (xs : List Value) : Prop :=
  ∃ A c, v = .slice A xs.length c ∧ xs.length ≤ c ∧ ∀ j u, xs[j]? = some u → ∃ b o p, A = some ⟨b, o, p⟩ ∧ b < w.heap.size ∧ w.cell? ((⟨b, o, p⟩ : Addr).add j) = some u
theorem Sl.below {w w' : World} {B : Nat} {v : Value} {xs : List Value} (h : Sl w v xs) (hb : Below B w w') (hB : w.heap.size ≤ B) : Sl w' v xs := by
  obtain ⟨A, c, hv, hc, hx⟩ := h
  refine ⟨A, c, hv, hc, fun j u hu => ?_⟩
  obtain ⟨b, o, p, hA, hlt, hcell⟩ := hx j u hu
  have e : ((⟨b, o, p⟩ : Addr).add j).block = b := by unfold Addr.add; split <;> rfl
  exact ⟨b, o, p, hA, Nat.lt_of_lt_of_le hlt hb.size, (hb.cell (by rw [e]; omega)).trans hcell⟩
theorem Sl.own {w : World} {base : Nat} {e : TypeId} {v : Value} {n : Nat} {xs : List Value} (h : w.ownsRow base e 1 v n xs) : Sl w v xs := by
  have hl : xs.length = n := by have := h.1; omega
  rcases h.2 with ⟨hv, hn⟩ | ⟨g, cap, cur, hv, hb, hg, hnc, hcm, hs, ht⟩
  · refine ⟨none, 0, by rw [hv, hl, hn], by omega, fun j u hu => ?_⟩
    have : xs = [] := List.eq_nil_of_length_eq_zero (by omega)
    subst this; simp at hu
  · refine ⟨some ⟨g, 0, none⟩, cap, by rw [hv, hl], by omega, fun j u hu => ⟨g, 0, none, rfl, ?_, ?_⟩⟩
    · exact (Array.getElem?_eq_some_iff.1 hg).1
    · exact h.cells (g := g) (by rw [hv]; rfl) j u hu
theorem Sl.new (w : World) (t : TypeId) (xs : List Value) : Sl (w.alloc (.cells xs.toArray t)) (.slice (some ⟨w.heap.size, 0, none⟩) xs.length xs.length) xs := by
  refine ⟨_, _, rfl, Nat.le_refl _, fun j u hu => ⟨w.heap.size, 0, none, rfl, by simp, ?_⟩⟩
  have h := Below.heap_alloc w (.cells xs.toArray t)
  have hb : (w.alloc (.cells xs.toArray t)).heap[w.heap.size]? = some (.cells xs.toArray t) := heap_alloc_new w _
  have hl : j < xs.length := by
    by_cases hj : j < xs.length
    · exact hj
    · rw [List.getElem?_eq_none (by omega)] at hu; cases hu
  have e : ((⟨w.heap.size, 0, none⟩ : Addr).add j) = ⟨w.heap.size, j, none⟩ := by
    unfold Addr.add
    split <;> simp_all
  rw [e]
  unfold World.cell?
  simp only [hb]
  simpa using hu
def U64 (a : Int) : Prop := 0 ≤ a ∧ a < 18446744073709551616
theorem U64.nat {a : Int} (h : U64 a) : ∃ n : Nat, a = n ∧ n < 18446744073709551616 := by
  obtain ⟨n, rfl⟩ := Int.eq_ofNat_of_zero_le h.1
  exact ⟨n, rfl, by have := h.2; omega⟩
theorem U64.of {n : Nat} (h : n < 18446744073709551616) : U64 (n : Int) := ⟨by omega, by omega⟩
theorem ret_bool {a b : Bool} (h : a = b) : Ending.returned (.bool a) = .returned (.bool b) := by rw [h]
theorem ret_int {k : IntKind} {a b : Int} (h : a = b) : Ending.returned (.int k a) = .returned (.int k b) := by rw [h]
end Go.Proofs.YtbddhkgbpjhhaaaGreatDoor
namespace Go.Proofs.YtbddhkgbpjhhaaaGreatDoor
open Go.RowKit
set_option maxHeartbeats 400000
theorem member_yes (i : Int) (w : World) (h0 : 0 ≤ i) (h1 : i ≤ 63) :
    Calls Tryz.prog 88 #[.int .i64 i] w fun e w' => e = .returned (.bool true) ∧ w = w' := by
  go_enter Tryz.func88, Tryz.ntmps88
  go_wp2
  go_ret
  exact ⟨ret_bool (by simp; try omega), rfl⟩
theorem member_no (i : Int) (w : World) (h : i < 0 ∨ 63 < i) :
    Calls Tryz.prog 88 #[.int .i64 i] w fun e w' => e = .returned (.bool false) ∧ w = w' := by
  rcases h with h | h
  · go_enter Tryz.func88, Tryz.ntmps88
    go_wp2
    go_ret
    exact ⟨rfl, rfl⟩
  · have h0 : 0 ≤ i := by omega
    go_enter Tryz.func88, Tryz.ntmps88
    go_wp2
    go_ret
    exact ⟨ret_bool (by simp; try omega), rfl⟩
theorem toNat_div_pow (a : Nat) (k : Nat) : ((a : Int) / 2 ^ k) = ((a / 2 ^ k : Nat) : Int) := by simp
theorem and_one (a : Nat) (ha : a < 18446744073709551616) (k : Nat) : (bits BinOp.and IntKind.u64 ((a : Int) / 2 ^ k) 1 == 1) = a.testBit k := by
  rw [toNat_div_pow, show (1 : Int) = ((1 : Nat) : Int) from rfl, u64_and_nat _ _ (Nat.lt_of_le_of_lt (Nat.div_le_self _ _) ha) (by decide), Nat.and_one_is_mod, Nat.testBit_eq_decide_div_mod_eq]
  rcases Nat.mod_two_eq_zero_or_one (a / 2 ^ k) with h | h <;> rw [h] <;> rfl
theorem has_any (a i : Int) (w : World) (ha : U64 a) :
    Calls Tryz.prog 102 #[.int .u64 a, .int .i64 i] w fun e w' => e = .returned (.bool (St.hasB a.toNat i)) ∧ w = w' := by
  by_cases h : 0 ≤ i ∧ i ≤ 63
  · obtain ⟨h0, h1⟩ := h
    go_enter Tryz.func102, Tryz.ntmps102
    go_wp2_with (go_at_call 88; refine (member_yes _ _ h0 h1).mono ?_; rintro e w' ⟨rfl, rfl⟩)
    go_ret
    obtain ⟨n, rfl, hn⟩ := ha.nat
    exact ⟨ret_bool (by rw [and_one n hn, Int.toNat_natCast]; simp [St.hasB, h0, h1]), rfl⟩
  · have h' : i < 0 ∨ 63 < i := by omega
    go_enter Tryz.func102, Tryz.ntmps102
    go_wp2_with (go_at_call 88; refine (member_no _ _ h').mono ?_; rintro e w' ⟨rfl, rfl⟩)
    go_ret
    exact ⟨ret_bool (by unfold St.hasB; rcases h' with h' | h'; · simp; omega
                        · have : ¬ i ≤ 63 := by omega
                          simp [this]), rfl⟩
end Go.Proofs.YtbddhkgbpjhhaaaGreatDoor
namespace Go.Proofs.YtbddhkgbpjhhaaaGreatDoor
open Go.RowKit
set_option maxHeartbeats 400000
theorem pow_bound {k : Nat} (h : k ≤ 62) : (2 : Nat) ^ k ≤ 4611686018427387904 := Nat.pow_le_pow_right (n := 2) (j := 62) (by decide) h
theorem power_any (i : Int) (w : World) (h0 : 0 ≤ i) (h1 : i ≤ 63) :
    Calls Tryz.prog 85 #[.int .i64 i] w fun e w' => e = .returned (.int .u64 (2 ^ i.toNat : Nat)) ∧ w = w' := by
  obtain ⟨n, rfl⟩ := Int.eq_ofNat_of_zero_le h0
  rw [Int.toNat_natCast]
  go_enter Tryz.func85, Tryz.ntmps85
  go_wp2
  go_loop [3, 4] (fun p i => ∃ k q : Nat, k ≤ n ∧ i = .int .i64 k ∧ p = .int .u64 q ∧ Hid (q = 2 ^ k)) (fun _ i => n - (intOf i).toNat)
  case atStart => exact ⟨0, 1, Nat.zero_le _, rfl, rfl, Lib.hid rfl⟩
  case round =>
    obtain ⟨k, q, hk, rfl, rfl, hq⟩ := hrel
    by_cases hlt : k < n
    · have hb : q ≤ 4611686018427387904 := by rw [hq.out]; exact pow_bound (by omega)
      have hq2 : Hid (q * 2 = 2 ^ (k + 1)) := Lib.hid (by rw [hq.out, Nat.pow_succ])
      go_wp2
      go_round
      case rel =>
        exact ⟨k + 1, q * 2, by omega, by go_num, by go_num, hq2⟩
      case measure => simp [intOf]; omega
    · obtain rfl : k = n := by omega
      go_wp2
      go_ret
      exact ⟨ret_int (by rw [hq.out]; simp), rfl⟩
theorem quo_rem (x q : Nat) (hx : x < 18446744073709551616) : ((IntKind.u64.wrap ((x : Int) / (q : Int))).tmod 2 == 1) = decide (x / q % 2 = 1) := by
  have h1 : x / q ≤ x := Nat.div_le_self _ _
  rw [show (x : Int) / (q : Int) = ((x / q : Nat) : Int) by simp]
  generalize x / q = m at *
  have e : IntKind.u64.wrap (m : Int) = (m : Int) := by rw [IntKind.wrap_u64]; omega
  have e2 : ((m : Int)).tmod 2 = ((m % 2 : Nat) : Int) := by rw [Int.tmod_eq_emod_of_nonneg (show (0 : Int) ≤ (m : Int) by omega)]; simp
  rw [e, e2]
  rcases Nat.mod_two_eq_zero_or_one m with h | h <;> rw [h] <;> rfl
theorem rhas_any (a i : Int) (w : World) (ha : U64 a) :
    Calls Tryz.prog 131 #[.int .u64 a, .int .i64 i] w fun e w' => e = .returned (.bool (St.hasB a.toNat i)) ∧ w = w' := by
  obtain ⟨x, rfl, hx⟩ := ha.nat
  rw [Int.toNat_natCast]
  by_cases h0 : 0 ≤ i
  · by_cases h1 : i ≤ 63
    · have hp : 1 ≤ 2 ^ i.toNat := Nat.one_le_two_pow
      go_enter Tryz.func131, Tryz.ntmps131
      obtain ⟨q, hq⟩ : ∃ q, q = 2 ^ i.toNat := ⟨_, rfl⟩
      have Hq := Lib.hid hq
      rw [← hq] at hp
      clear hq
      have hpw := power_any i w h0 h1
      rw [← Hq.out] at hpw
      have HP := Lib.hid hpw
      clear hpw
      go_wp2_with (go_at_call 85; refine HP.out.mono ?_; rintro e w' ⟨rfl, rfl⟩)
      go_ret
      refine ⟨ret_bool ?_, rfl⟩
      have e2 : x.testBit i.toNat = decide (x / q % 2 = 1) := by rw [Hq.out]; exact Nat.testBit_eq_decide_div_mod_eq
      rw [quo_rem _ _ hx]
      unfold St.hasB
      rw [e2]
      simp [h0, h1]
    · go_enter Tryz.func131, Tryz.ntmps131
      go_wp2
      go_ret
      exact ⟨ret_bool (by unfold St.hasB; have : ¬ i ≤ 63 := by omega
                          simp [this]), rfl⟩
  · go_enter Tryz.func131, Tryz.ntmps131
    go_wp2
    go_ret
    exact ⟨ret_bool (by unfold St.hasB; have : ¬ 0 ≤ i := by omega
                        simp [this]), rfl⟩
end Go.Proofs.YtbddhkgbpjhhaaaGreatDoor
namespace Go.Proofs.YtbddhkgbpjhhaaaGreatDoor
open Go.RowKit
set_option maxHeartbeats 400000
theorem Tryz.infoInt : (Tryz.prog.info? 3).map (fun i => (i.zero, i.size, i.bytes)) = some (some (.int .i64 0), 1, 8) := by kernel_rfl
theorem setTo_yes (p : Nat → Bool) (k : Nat) (h : p k = true) : St.setTo p (k + 1) = St.setTo p k + 2 ^ k := by rw [St.setTo, if_pos h]
theorem setTo_no (p : Nat → Bool) (k : Nat) (h : p k = false) : St.setTo p (k + 1) = St.setTo p k := by rw [St.setTo, if_neg (by simp [h])]
theorem rof_any (v : Value) (l : List Int) (w : World) (hv : Sl w v (l.map (Value.int .i64))) (hl : l.length ≤ 9223372036854775807) :
    Calls Tryz.prog 43 #[v] w fun e w' => e = .returned (.int .u64 (St.ofN l : Nat)) ∧ w = w' := by
  obtain ⟨A, c, rfl, _, hx⟩ := hv
  rw [List.length_map]
  obtain ⟨n, hn⟩ : ∃ n, n = l.length := ⟨_, rfl⟩
  rw [← hn] at hl ⊢
  have Hn := Lib.hid hn
  have HX := Lib.hid hx
  clear hn hx
  go_enter Tryz.func43, Tryz.ntmps43
  go_wp2
  go_loop [3, 4] (fun s i => ∃ q sv : Nat, q ≤ 64 ∧ i = .int .i64 q ∧ s = .int .u64 sv ∧ Hid (sv = St.setTo (fun j => decide ((j : Int) ∈ l)) q)) (fun _ i => 64 - (intOf i).toNat)
  case atStart => exact ⟨0, 0, by omega, rfl, rfl, Lib.hid rfl⟩
  case round =>
    obtain ⟨q, sv, hq, rfl, rfl, hsv⟩ := hrel
    by_cases hlt : q < 64
    · have hsl : sv + 2 ^ q < 18446744073709551616 := by
        have h1 := St.setTo_lt (fun j => decide ((j : Int) ∈ l)) q
        have h2 : 2 ^ q ≤ 2 ^ 63 := Nat.pow_le_pow_right (by decide) (by omega)
        rw [hsv.out]
        omega
      obtain ⟨pw, hpw⟩ : ∃ pw, pw = 2 ^ q := ⟨_, rfl⟩
      rw [← hpw] at hsl
      have Hpw := Lib.hid hpw
      clear hpw
      have HP : Hid (Calls Tryz.prog 85 #[.int .i64 q] w fun e w' => e = .returned (.int .u64 pw) ∧ w = w') := Lib.hid (by
        have := power_any q w (by omega) (by omega)
        rw [Hpw.out]; simpa using this)
      go_wp2
      go_loop [3, 5] (fun s k => ∃ j : Nat, j ≤ n ∧ k = .int .i64 j ∧ s = .int .u64 sv ∧ Hid (∀ i, i < j → l[i]? ≠ some (q : Int))) (fun _ k => n - (intOf k).toNat)
      case atStart => exact ⟨0, by omega, rfl, rfl, Lib.hid (fun i hi => by omega)⟩
      case round =>
        obtain ⟨j, hj, rfl, rfl, hno⟩ := hrel
        by_cases hjl : j < n
        · obtain ⟨x, gx⟩ : ∃ x, l[j]? = some x := ⟨l[j]'(by have := Hn.out; omega), List.getElem?_eq_getElem _⟩
          obtain ⟨b, o, p, rfl, _, hcell⟩ := HX.out j (.int .i64 x) (by simp [gx])
          have Gx := Lib.hid gx
          clear gx
          by_cases hxq : x = q
          · subst hxq
            have hb : (((q : Int)) == (q : Int)) = true := by simp
            have Hyes : Hid (sv + pw = St.setTo (fun j => decide ((j : Int) ∈ l)) (q + 1)) := Lib.hid (by
              rw [setTo_yes _ _ (by simp; exact List.mem_of_getElem? Gx.out), hsv.out, Hpw.out])
            go_wp2_with (go_at_call 85; refine HP.out.mono ?_; rintro e w' ⟨rfl, rfl⟩)
            go_round
            case rel => exact ⟨q + 1, sv + pw, by omega, by go_num, by go_num, Hyes⟩
            case measure => simp [intOf]; omega
          · have hb : (x == (q : Int)) = false := by simp [hxq]
            have hno2 : Hid (∀ i, i < j + 1 → l[i]? ≠ some (q : Int)) := Lib.hid (fun i hi e => by
              by_cases h : i = j
              · subst h; rw [Gx.out] at e; exact hxq (Option.some.inj e)
              · exact hno.out i (by omega) e)
            clear hxq
            go_wp2
            go_round
            case rel => exact ⟨j + 1, by omega, by go_num, rfl, hno2⟩
            case measure => simp [intOf]; omega
        · have Hno : Hid (sv = St.setTo (fun j => decide ((j : Int) ∈ l)) (q + 1)) := Lib.hid (by
            rw [setTo_no _ _ ?_, hsv.out]
            simp only [decide_eq_false_iff_not]
            intro hm
            obtain ⟨i, hi, e⟩ := List.mem_iff_getElem.1 hm
            exact hno.out i (by have := Hn.out; omega) (by rw [List.getElem?_eq_getElem hi, e]))
          go_wp2
          go_round
          case rel => exact ⟨q + 1, sv, by omega, by go_num, rfl, Hno⟩
          case measure => simp [intOf]; omega
    · obtain rfl : q = 64 := by omega
      go_wp2
      go_ret
      exact ⟨ret_int (by rw [hsv.out]; rfl), rfl⟩
end Go.Proofs.YtbddhkgbpjhhaaaGreatDoor
namespace Go.Proofs.YtbddhkgbpjhhaaaGreatDoor
open Go.RowKit
set_option maxHeartbeats 400000
theorem wrap_pow (q : Nat) (hq : q ≤ 63) : IntKind.u64.wrap (2 ^ q) = ((2 ^ q : Nat) : Int) := by
  have h2 : 2 ^ q < 2 ^ 64 := Nat.pow_lt_pow_right (by decide) (by omega)
  have e : ((2 : Int) ^ q) = ((2 ^ q : Nat) : Int) := by simp
  rw [e, IntKind.wrap_u64]
  generalize 2 ^ q = m at *
  omega
theorem shl_or (s q : Nat) (hs : s < 18446744073709551616) (hq : q ≤ 63) : bits BinOp.or IntKind.u64 (s : Int) (IntKind.u64.wrap (2 ^ q)) = ((s ||| 2 ^ q : Nat) : Int) := by
  have h2 : 2 ^ q < 2 ^ 64 := Nat.pow_lt_pow_right (by decide) (by omega)
  rw [wrap_pow q hq]
  exact u64_or_nat s (2 ^ q) hs h2
theorem sof_any (v : Value) (l : List Int) (w : World) (hv : Sl w v (l.map (Value.int .i64))) (hl : l.length ≤ 9223372036854775807) :
    Calls Tryz.prog 46 #[v] w fun e w' => e = .returned (.int .u64 (St.ofN l : Nat)) ∧ w = w' := by
  obtain ⟨A, c, rfl, _, hx⟩ := hv
  rw [List.length_map]
  obtain ⟨n, hn⟩ : ∃ n, n = l.length := ⟨_, rfl⟩
  rw [← hn] at hl ⊢
  have Hn := Lib.hid hn
  have HX := Lib.hid hx
  clear hn hx
  go_enter Tryz.func46, Tryz.ntmps46
  go_wp2
  go_loop [3, 8] (fun s i => ∃ q sv : Nat, q ≤ n ∧ i = .int .i64 q ∧ s = .int .u64 sv ∧ Hid (sv = St.ofN (l.take q))) (fun _ i => n - (intOf i).toNat)
  case atStart => exact ⟨0, 0, by omega, rfl, rfl, Lib.hid (by rw [List.take_zero, St.ofN_nil])⟩
  case round =>
    obtain ⟨q, sv, hq, rfl, rfl, hsv⟩ := hrel
    by_cases hlt : q < n
    · obtain ⟨x, gx⟩ : ∃ x, l[q]? = some x := ⟨l[q]'(by have := Hn.out; omega), List.getElem?_eq_getElem _⟩
      obtain ⟨b, o, p, rfl, _, hcell⟩ := HX.out q (.int .i64 x) (by simp [gx])
      have ht : l.take (q + 1) = l.take q ++ [x] := by rw [List.take_add_one, gx]; rfl
      clear gx
      by_cases hm : 0 ≤ x ∧ x ≤ 63
      · obtain ⟨h0, h1⟩ := hm
        obtain ⟨y, rfl⟩ := Int.eq_ofNat_of_zero_le h0
        have hs : sv < 18446744073709551616 := by rw [hsv.out]; exact St.ofN_lt _
        have ho := shl_or sv y hs (by omega)
        have H2 : Hid (sv ||| 2 ^ y = St.ofN (l.take (q + 1))) := Lib.hid (by rw [ht, St.ofN_snoc_in _ _ h0 h1, hsv.out]; rfl)
        clear ht hs
        go_wp2_with (go_at_call 88; refine (member_yes _ _ h0 h1).mono ?_; rintro e w' ⟨rfl, rfl⟩)
        go_round
        case rel => exact ⟨q + 1, sv ||| 2 ^ y, by omega, by go_num, by first | rfl | rw [ho], H2⟩
        case measure => simp [intOf]; omega
      · have hm' : x < 0 ∨ 63 < x := by omega
        have H2 : Hid (sv = St.ofN (l.take (q + 1))) := Lib.hid (by rw [ht, St.ofN_snoc_out _ _ hm, hsv.out])
        clear ht hm
        go_wp2_with (go_at_call 88; refine (member_no _ _ hm').mono ?_; rintro e w' ⟨rfl, rfl⟩)
        go_round
        case rel => exact ⟨q + 1, sv, by omega, by go_num, rfl, H2⟩
        case measure => simp [intOf]; omega
    · have he : Hid (sv = St.ofN l) := Lib.hid (by rw [hsv.out, List.take_of_length_le (by have := Hn.out; omega)])
      go_wp2
      go_ret
      exact ⟨ret_int (by rw [he.out]), rfl⟩
end Go.Proofs.YtbddhkgbpjhhaaaGreatDoor
namespace Go.Proofs.YtbddhkgbpjhhaaaGreatDoor
open Go.RowKit
def RowAt (w : World) (v : Value) (r : List Vl) : Prop :=
  ∃ A c, v = .slice A r.length c ∧ r.length ≤ c ∧ ∀ j x, r[j]? = some x → ∃ b o p, A = some ⟨b, o, p⟩ ∧ b < w.heap.size ∧ w.cell? ((⟨b, o, p⟩ : Addr).add (j * 2)) = some (.bool x.1) ∧ w.cell? ((⟨b, o, p⟩ : Addr).add (j * 2 + 1)) = some (.int .i64 x.2)
theorem add_block (a : Addr) (n : Nat) : (a.add n).block = a.block := by unfold Addr.add; split <;> rfl
theorem add_next (a : Addr) (k : Nat) : (⟨(a.add k).block, (a.add k).off + 1, none⟩ : Addr) = a.add (k + 1) := by
  unfold Addr.add
  by_cases h : k = 0
  · simp [h]
  · simp [h, Nat.add_assoc]
theorem RowAt.pair {w : World} {A : Option Addr} {c : Nat} {r : List Vl} {j : Nat} {x : Vl} (h : RowAt w (.slice A r.length c) r) (hj : r[j]? = some x) :
    ∃ b o p, A = some ⟨b, o, p⟩ ∧ b < w.heap.size ∧ ∀ W, Below w.heap.size w W → W.cell? ((⟨b, o, p⟩ : Addr).add (j * 2)) = some (.bool x.1) ∧ W.cell? ⟨((⟨b, o, p⟩ : Addr).add (j * 2)).block, ((⟨b, o, p⟩ : Addr).add (j * 2)).off + 1, none⟩ = some (.int .i64 x.2) := by
  obtain ⟨A', c', hv, _, hx⟩ := h
  cases hv
  obtain ⟨b, o, p, hA, hlt, h0, h1⟩ := hx j x hj
  refine ⟨b, o, p, hA, hlt, fun W hb => ⟨(hb.cell (by rw [add_block]; exact hlt)).trans h0, ?_⟩⟩
  rw [add_next]
  exact (hb.cell (by rw [add_block]; exact hlt)).trans h1
theorem RowAt.below {w w' : World} {B : Nat} {v : Value} {r : List Vl} (h : RowAt w v r) (hb : Below B w w') (hB : w.heap.size ≤ B) : RowAt w' v r := by
  obtain ⟨A, c, hv, hc, hx⟩ := h
  refine ⟨A, c, hv, hc, fun j x hj => ?_⟩
  obtain ⟨b, o, p, hA, hlt, h0, h1⟩ := hx j x hj
  exact ⟨b, o, p, hA, Nat.lt_of_lt_of_le hlt hb.size, (hb.cell (by rw [add_block]; show b < B; omega)).trans h0, (hb.cell (by rw [add_block]; show b < B; omega)).trans h1⟩
theorem RowAt.nil (w : World) : RowAt w (.slice none 0 0) [] := ⟨none, 0, rfl, Nat.le_refl _, fun j x h => by simp at h⟩
structure RwsOf (w : World) (v : Value) (vs : List Value) (rs : List (List Vl)) : Prop where
  sl : Sl w v vs
  len : vs.length = rs.length
  row : ∀ (i : Nat) (r : List Vl), rs[i]? = some r → ∃ u, vs[i]? = some u ∧ RowAt w u r
def Rws (w : World) (v : Value) (rs : List (List Vl)) : Prop := ∃ vs, RwsOf w v vs rs
theorem RwsOf.below {w w' : World} {B : Nat} {v : Value} {vs : List Value} {rs : List (List Vl)} (h : RwsOf w v vs rs) (hb : Below B w w') (hB : w.heap.size ≤ B) : RwsOf w' v vs rs :=
  ⟨h.sl.below hb hB, h.len, fun i r hr => by obtain ⟨u, hu, hr⟩ := h.row i r hr; exact ⟨u, hu, hr.below hb hB⟩⟩
theorem Rws.below {w w' : World} {B : Nat} {v : Value} {rs : List (List Vl)} (h : Rws w v rs) (hb : Below B w w') (hB : w.heap.size ≤ B) : Rws w' v rs := by
  obtain ⟨vs, h⟩ := h
  exact ⟨vs, h.below hb hB⟩
theorem Rws.nil (w : World) : Rws w (.slice none 0 0) [] := ⟨[], ⟨none, 0, rfl, Nat.le_refl _, fun j u h => by simp at h⟩, rfl, fun i r h => by simp at h⟩
theorem Rws.at_ {w : World} {v : Value} {rs : List (List Vl)} (h : Rws w v rs) : ∃ A c, v = .slice A rs.length c ∧ rs.length ≤ c ∧ ∀ i r, rs[i]? = some r → ∃ b o p B d, A = some ⟨b, o, p⟩ ∧ w.cell? ((⟨b, o, p⟩ : Addr).add i) = some (.slice B r.length d) ∧ r.length ≤ d ∧ RowAt w (.slice B r.length d) r := by
  obtain ⟨vs, ⟨A, c, hv, hc, hx⟩, hl, hr⟩ := h
  rw [hl] at hv hc
  refine ⟨A, c, hv, hc, fun i r hi => ?_⟩
  obtain ⟨u, hu, hru⟩ := hr i r hi
  obtain ⟨b, o, p, hA, _, hcell⟩ := hx i u hu
  obtain ⟨B, d, rfl, hd, _⟩ := id hru
  exact ⟨b, o, p, B, d, hA, hcell, hd, hru⟩
end Go.Proofs.YtbddhkgbpjhhaaaGreatDoor
namespace Go.Proofs.YtbddhkgbpjhhaaaGreatDoor
open Go.RowKit Go.Sort
set_option maxHeartbeats 400000
theorem below_new (w : World) (o : Obj) : Below w.heap.size w (w.alloc o) := (Below.refl _ _).alloc (Nat.le_refl _) _
theorem below_new2 (w : World) (o o' : Obj) : Below w.heap.size w ((w.alloc o).alloc o') := (below_new w o).alloc (by simp) _
theorem below_low {A B : Nat} {w w' : World} (h : Below B w w') (hA : A ≤ B) : Below A w w' := ⟨h.os, h.tape, h.output, h.size, fun k hk => h.block k (Nat.lt_of_lt_of_le hk hA)⟩
theorem below_join {a b c : World} (h : Below a.heap.size a b) (k : Below b.heap.size b c) : Below a.heap.size a c := h.trans (below_low k h.size)
def Want (w : World) : Prop := ∀ q p : Nat, q < 7 → p < 3 → w.cell? ⟨2, q * 3 + p, none⟩ = some (.bool (Va.want q p))
theorem Want.below {w w' : World} {B : Nat} (h : Want w) (hb : Below B w w') (hB : w.heap.size ≤ B) : Want w' := fun q p hq hp => by
  have h0 := h q p hq hp
  rw [hb.cell (Nat.lt_of_lt_of_le (block_lt_of_cell h0) hB)]; exact h0
theorem rright_any (b : Bool) (n : Int) (w : World) :
    Calls Tryz.prog 44 #[.agg #[.bool b, .int .i64 n]] w fun e w' => e = .returned (.bool (Va.right b n)) ∧ Below w.heap.size w w' := by
  go_enter Tryz.func44, Tryz.ntmps44
  cases b
  · go_wp2
    go_ret
    exact ⟨ret_bool (by simp [Va.right]), below_new _ _⟩
  · go_wp2
    go_ret
    exact ⟨ret_bool (by simp [Va.right]), below_new _ _⟩
theorem less_any (b c : Bool) (n m : Int) (w : World) :
    Calls Tryz.prog 107 #[.agg #[.bool b, .int .i64 n], .agg #[.bool c, .int .i64 m]] w fun e w' => e = .returned (.bool (Va.less b n c m)) ∧ Below w.heap.size w w' := by
  go_enter Tryz.func107, Tryz.ntmps107
  cases b <;> cases c
  all_goals go_wp2
  all_goals go_ret
  all_goals exact ⟨ret_bool (by simp [Va.less]), below_new2 _ _ _⟩
theorem place_any (b c : Bool) (n m : Int) (w : World) :
    Calls Tryz.prog 202 #[.agg #[.bool b, .int .i64 n], .agg #[.bool c, .int .i64 m]] w fun e w' => e = .returned (.int .i64 (Va.place b n c m : Nat)) ∧ Below w.heap.size w w' := by
  have hP : Va.place b n c m = if Va.less b n c m then 0 else if Va.less c m b n then 2 else 1 := rfl
  obtain ⟨r, hr⟩ : ∃ r, r = Va.place b n c m := ⟨_, rfl⟩
  obtain ⟨l1, h1⟩ : ∃ l1, l1 = Va.less b n c m := ⟨_, rfl⟩
  obtain ⟨l2, h2⟩ : ∃ l2, l2 = Va.less c m b n := ⟨_, rfl⟩
  rw [← hr, ← h1, ← h2] at hP
  rw [← hr]
  have H1 := Lib.hid h1
  have H2 := Lib.hid h2
  have HP := Lib.hid hP
  clear hr h1 h2 hP
  go_enter Tryz.func202, Tryz.ntmps202
  go_wp2_with fail
  refine (less_any b c n m _).mono ?_
  rw [← H1.out]
  rintro e w1 ⟨rfl, hb1⟩
  have hb : Below w.heap.size w w1 := below_join (below_new2 w _ _) hb1
  have c1 : w1.cell? ⟨w.heap.size, 0, none⟩ = some (.bool b) := by rw [hb1.cell (by simp; omega)]; simp
  have c2 : w1.cell? ⟨w.heap.size, 1, none⟩ = some (.int .i64 n) := by rw [hb1.cell (by simp; omega)]; simp
  have c3 : w1.cell? ⟨w.heap.size + 1, 0, none⟩ = some (.bool c) := by rw [hb1.cell (by simp)]; simp
  have c4 : w1.cell? ⟨w.heap.size + 1, 1, none⟩ = some (.int .i64 m) := by rw [hb1.cell (by simp)]; simp
  clear hb1
  cases l1
  · go_wp2_with fail
    refine (less_any c b m n _).mono ?_
    rw [← H2.out]
    rintro e w2 ⟨rfl, hb2⟩
    have hb' : Below w.heap.size w w2 := below_join hb hb2
    clear hb2
    cases l2
    · go_wp2
      go_ret
      exact ⟨ret_int (by rw [HP.out]; rfl), hb'⟩
    · go_wp2
      go_ret
      exact ⟨ret_int (by rw [HP.out]; rfl), hb'⟩
  · go_wp2
    go_ret
    exact ⟨ret_int (by rw [HP.out]; rfl), hb⟩
theorem compare_null (o : Int) (b c : Bool) (n m : Int) (w : World) (h : (b || c) = true) :
    Calls Tryz.prog 191 #[.int .i64 o, .agg #[.bool b, .int .i64 n], .agg #[.bool c, .int .i64 m]] w fun e w' => e = .returned (.int .i64 1) ∧ Below w.heap.size w w' := by
  have hc : b = false → c = true := by cases b <;> simp_all
  clear h
  go_enter Tryz.func191, Tryz.ntmps191
  cases b
  · obtain rfl := hc rfl
    clear hc
    go_wp2
    go_ret
    exact ⟨rfl, below_new2 _ _ _⟩
  · clear hc
    go_wp2
    go_ret
    exact ⟨rfl, below_new2 _ _ _⟩
theorem compare_out (o : Int) (n m : Int) (w : World) (h : o < 1 ∨ 6 < o) :
    Calls Tryz.prog 191 #[.int .i64 o, .agg #[.bool false, .int .i64 n], .agg #[.bool false, .int .i64 m]] w fun e w' => e = .returned (.int .i64 1) ∧ Below w.heap.size w w' := by
  by_cases h1 : o < 1
  · have h1' : decide (o < 1) = true := by simp; omega
    clear h
    go_enter Tryz.func191, Tryz.ntmps191
    go_wp2
    go_ret
    exact ⟨rfl, below_new2 _ _ _⟩
  · have h1' : decide (o < 1) = false := by simp; omega
    have h2' : decide (6 < o) = true := by simp; omega
    clear h
    go_enter Tryz.func191, Tryz.ntmps191
    go_wp2
    go_ret
    exact ⟨rfl, below_new2 _ _ _⟩
theorem compare_num (q : Nat) (n m : Int) (w : World) (h1 : 1 ≤ q) (h6 : q ≤ 6) (hW : Want w) :
    Calls Tryz.prog 191 #[.int .i64 (q : Int), .agg #[.bool false, .int .i64 n], .agg #[.bool false, .int .i64 m]] w fun e w' => e = .returned (.int .i64 (Va.truth (Va.want q (Va.place false n false m)))) ∧ Below w.heap.size w w' := by
  obtain ⟨p, hp⟩ : ∃ p, p = Va.place false n false m := ⟨_, rfl⟩
  have hp3 : p < 3 := hp ▸ Va.place_lt _ _ _ _
  rw [← hp]
  have HP := Lib.hid hp
  have d1 : decide ((q : Int) < 1) = false := by simp; omega
  have d2 : decide (6 < (q : Int)) = false := by simp; omega
  have i1 : (0 : Int) ≤ (q : Int) := by omega
  have i2 : (q : Int) < 7 := by omega
  have i3 : (0 : Int) ≤ (p : Int) := by omega
  have i4 : (p : Int) < 3 := by omega
  have hc := hW q p (by omega) hp3
  obtain ⟨t, ht⟩ : ∃ t, t = Va.want q p := ⟨_, rfl⟩
  rw [← ht] at hc ⊢
  clear hp hp3 hW ht h1 h6
  go_enter Tryz.func191, Tryz.ntmps191
  go_wp2
  obtain ⟨W0, hW0⟩ : ∃ W0, W0 = (w.alloc (Obj.cells #[Value.bool false, Value.int IntKind.i64 n] 53)).alloc (Obj.cells #[Value.bool false, Value.int IntKind.i64 m] 53) := ⟨_, rfl⟩
  have hb0 : Below w.heap.size w W0 := by rw [hW0]; exact below_new2 _ _ _
  have k0 : ∀ d os, (grow (redrawn W0 d) os).cell? ⟨w.heap.size, 0, none⟩ = some (.bool false) := cell_regrown (by rw [hW0]; simp)
  have k1 : ∀ d os, (grow (redrawn W0 d) os).cell? ⟨w.heap.size, 0 + 1, none⟩ = some (.int .i64 n) := cell_regrown (by rw [hW0]; simp)
  have k2 : ∀ d os, (grow (redrawn W0 d) os).cell? ⟨w.heap.size + 1, 0, none⟩ = some (.bool false) := cell_regrown (by rw [hW0]; simp)
  have k3 : ∀ d os, (grow (redrawn W0 d) os).cell? ⟨w.heap.size + 1, 0 + 1, none⟩ = some (.int .i64 m) := cell_regrown (by rw [hW0]; simp)
  have k4 : ∀ d os, (grow (redrawn W0 d) os).cell? ⟨2, q * 3 + p, none⟩ = some (.bool t) := cell_regrown (by rw [hb0.cell (block_lt_of_cell hc)]; exact hc)
  have cP : ∀ d os, Calls Tryz.prog 202 #[.agg #[.bool false, .int .i64 n], .agg #[.bool false, .int .i64 m]] (grow (redrawn W0 d) os) fun e w'' => e = .returned (.int .i64 (p : Int)) ∧ ∃ p : Regrown, w'' = grow (redrawn W0 p.d) p.os :=
    fun d os => Calls.regrown_of (by have := place_any false false n m (grow (redrawn W0 d) os); rw [← HP.out] at this; exact this)
  rw [← hW0]
  clear hW0 hc
  refine wp_region_quiet_below (by kernel_rfl) (by kernel_rfl) ?_
  repeat (go_big_quiet_step (exact cP _ _))
  refine wpQuiet_nil ?_
  intro _ hw'
  obtain ⟨⟨dq, osq⟩, hw''⟩ := hw'
  subst hw''
  have hb1 : Below w.heap.size w (grow (redrawn W0 dq) osq) := below_join hb0 (below_regrown _ _ _)
  clear k0 k1 k2 k3 k4 cP hb0
  generalize grow (redrawn W0 dq) osq = w1 at hb1 ⊢
  cases t
  · go_wp2
    go_ret
    exact ⟨rfl, hb1⟩
  · go_wp2
    go_ret
    exact ⟨rfl, hb1⟩
theorem compare_any (o : Int) (b c : Bool) (n m : Int) (w : World) (hW : Want w) :
    Calls Tryz.prog 191 #[.int .i64 o, .agg #[.bool b, .int .i64 n], .agg #[.bool c, .int .i64 m]] w fun e w' => e = .returned (.int .i64 (Va.comp o b n c m)) ∧ Below w.heap.size w w' := by
  by_cases h : (b || c) = true
  · rw [Va.comp_null h]; exact compare_null o b c n m w h
  · obtain ⟨rfl, rfl⟩ : b = false ∧ c = false := by simpa using h
    by_cases ho : o < 1 ∨ 6 < o
    · rw [Va.comp_out ho]; exact compare_out o n m w ho
    · obtain ⟨q, rfl⟩ := Int.eq_ofNat_of_zero_le (show 0 ≤ o by omega)
      rw [Va.comp_want q (by omega) (by omega)]
      exact compare_num q n m w (by omega) (by omega) hW
end Go.Proofs.YtbddhkgbpjhhaaaGreatDoor
namespace Go.Proofs.YtbddhkgbpjhhaaaGreatDoor
open Go.RowKit
def Lies (w : World) (g : Nat) (t : TypeId) (cs : List Value) : Prop := w.heap[g]? = some (.cells cs.toArray t (0, 0))
section
variable {w w' : World} {g : Nat} {t : TypeId} {cs : List Value}
theorem Lies.lt (h : Lies w g t cs) : g < w.heap.size := by
  unfold Lies at h
  exact (Array.getElem?_eq_some_iff.1 h).1
theorem Lies.cell (h : Lies w g t cs) {i : Nat} {u : Value} (hu : cs[i]? = some u) : w.cell? ⟨g, i, none⟩ = some u := by
  rw [cell_of_row w g i cs.toArray t (0, 0) h]; simpa using hu
theorem Lies.free (h : Lies w g t cs) (i : Nat) : w.frozen? ⟨g, i, none⟩ = false := by
  unfold Lies at h
  simp [World.frozen?, h]
theorem Lies.new (w : World) (t : TypeId) (cs : List Value) : Lies (w.alloc (.cells cs.toArray t)) w.heap.size t cs := heap_alloc_new w _
theorem Lies.alloc (h : Lies w g t cs) (o : Obj) : Lies (w.alloc o) g t cs := (Below.heap_alloc w o g h.lt).trans h
theorem Lies.far (h : Lies w g t cs) {p : Addr} (hp : g ≠ p.block) (u : Value) : Lies (w.setCell p u) g t cs := (Below.heap_setCell w p u g hp).trans h
theorem Lies.set (h : Lies w g t cs) (i : Nat) (u : Value) : Lies (w.setCell ⟨g, i, none⟩ u) g t (cs.set i u) := by
  unfold Lies at h ⊢
  simp [World.setCell, Array.getElem?_modify, h]
theorem Lies.below {B : Nat} (h : Lies w g t cs) (hb : Below B w w') (hg : g < B) : Lies w' g t cs := (hb.block g hg).trans h
end
theorem below_drewN {B : Nat} {a w : World} (h : Below B a w) (n : Nat) : Below B a (w.drewN n) := ⟨h.os, h.tape, h.output, h.size, h.block⟩
end Go.Proofs.YtbddhkgbpjhhaaaGreatDoor
namespace Go.Proofs.YtbddhkgbpjhhaaaGreatDoor
open Go.RowKit Go.Sort
theorem in_class {f : FuncId} {args : Array Value} {W0 : World} {v : Value} (h : ∀ W, Below W0.heap.size W0 W → Calls Tryz.prog f args W fun e w' => e = .returned v ∧ Below W.heap.size W w') :
    ∀ d os, Calls Tryz.prog f args (grow (redrawn W0 d) os) fun e w'' => e = .returned v ∧ ∃ p : Regrown, w'' = grow (redrawn W0 p.d) p.os :=
  fun d os => Calls.regrown_of (h _ (below_regrown W0 d os))
theorem in_turn {f : FuncId} {args : Array Value} {W0 : World} {v : Value} (h : ∀ W, Below W0.heap.size W0 W → Calls Tryz.prog f args W fun e w' => e = .returned v ∧ Below W.heap.size W w') :
    ∀ W, Below W0.heap.size W0 W → Calls Tryz.prog f args W fun e w' => e = .returned v ∧ Below W0.heap.size W0 w' :=
  fun W hb => (h W hb).mono fun _ _ ⟨he, hw⟩ => ⟨he, below_join hb hw⟩
theorem in_draw {f : FuncId} {args : Array Value} {W0 W1 : World} {v : Value} (h : ∀ W, Below W0.heap.size W0 W → Calls Tryz.prog f args W fun e w' => e = .returned v ∧ Below W.heap.size W w') (h1 : Below W0.heap.size W0 W1) :
    ∀ d os, Calls Tryz.prog f args (grow (redrawn W1 d) os) fun e w'' => e = .returned v ∧ ∃ p : Regrown, w'' = grow (redrawn W1 p.d) p.os :=
  fun d os => Calls.regrown_of (h _ (below_join h1 (below_regrown W1 d os)))
theorem cell_turn {W0 : World} {a : Addr} {v : Value} (h : W0.cell? a = some v) : ∀ W, Below W0.heap.size W0 W → W.cell? a = some v :=
  fun W hb => by rw [hb.cell (block_lt_of_cell h)]; exact h
theorem box_one {w W0 : World} {t : TypeId} {cs : List Value} (h : W0 = w.alloc (Obj.cells cs.toArray t)) : Lies W0 w.heap.size t cs ∧ Below w.heap.size w W0 := by
  rw [h]; exact ⟨Lies.new w t cs, below_new w _⟩
theorem box_two {w W0 : World} {t u : TypeId} {cs ds : List Value} (h : W0 = (w.alloc (Obj.cells cs.toArray t)).alloc (Obj.cells ds.toArray u)) : Lies W0 w.heap.size t cs ∧ Lies W0 (w.heap.size + 1) u ds ∧ Below w.heap.size w W0 := by
  obtain ⟨W1, hW1⟩ : ∃ W1, W1 = w.alloc (Obj.cells cs.toArray t) := ⟨_, rfl⟩
  obtain ⟨l1, hb1⟩ := box_one hW1
  rw [← hW1] at h
  obtain ⟨l2, hb2⟩ := box_one h
  have hs : W1.heap.size = w.heap.size + 1 := by rw [hW1, World.size_alloc]
  rw [hs] at l2
  exact ⟨l1.below hb2 l1.lt, l2, below_join hb1 hb2⟩
end Go.Proofs.YtbddhkgbpjhhaaaGreatDoor
