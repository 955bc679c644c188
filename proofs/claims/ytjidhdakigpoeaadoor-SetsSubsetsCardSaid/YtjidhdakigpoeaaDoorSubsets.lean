/-
  THE LAW SetsSubsets, WALKED: it returns true.
-/
import Derived.Test.YtjidhdakigpoeaaDoorTells
import Derived.IntWalk
import Derived.BigQuiet
import Derived.Deep.QuietTactic
namespace Go.Proofs.YtjidhdakigpoeaaDoor
open Go.RowKit
set_option maxHeartbeats 1000000

theorem pd_inB (s n : Nat) (hs : s < 18446744073709551616) : St.inB (St.pd 64 s n) s = true := by
  rw [St.inB_iff hs]
  intro j _ h
  exact St.pd_in 64 s n j h
theorem take_at {s m i : Nat} (hi : i < m) (h : i + 1 < 2 ^ St.pop 64 s) : (ints ((partsOf s).take m))[i]? = some ((St.pd 64 s (i + 1) : Nat) : Int) := by
  have := partsOf_at (s := s) (n := i + 1) (by omega) h
  simp only [Nat.add_sub_cancel] at this
  simp [ints, List.getElem?_take_of_lt hi, this]

set_option maxHeartbeats 2000000 in
/-- many members: the tour, as far as it goes, rises through parts of s -/
theorem subsets_many (s m : Nat) (w : World) (hT : Tab w) (hs : s < 18446744073709551616) (hm : m ≤ 255) (hc : 10 < St.pop 64 s) :
    Calls Tryd.prog 4 #[.int .u64 s, .int .u8 m] w (BelowEnd w) := by
  have hpow : 2048 ≤ 2 ^ St.pop 64 s := Nat.pow_le_pow_right (n := 2) (i := 11) (by decide) hc
  have Hpow := Lib.hid hpow
  have HS := Lib.hid hs
  have HT := Lib.hid hT
  obtain ⟨c, ec⟩ : ∃ c, c = St.pop 64 s := ⟨_, rfl⟩
  have C19 : ∀ w, Hid (Calls Tryd.prog 19 #[.int .u64 s] w fun e w' => e = .returned (.int .i64 c) ∧ Below w.heap.size w w') := fun w => Lib.hid (by rw [ec]; have := rcount_any s w (U64.of HS.out); rwa [Int.toNat_natCast] at this)
  have D19 := Lib.hid C19
  have h10 : decide (10 < (c : Int)) = true := by rw [ec]; simp; omega
  clear hT hs hpow C19 ec hc
  go_enter Tryd.func4, Tryd.ntmps4
  go_wp2_with fail
  refine (D19.out _).out.mono ?_
  rintro e w1 ⟨rfl, hb1⟩
  go_wp2_with fail
  refine (lparts_any s m w1 HS.out (by omega)).mono ?_
  intro e w2 h
  obtain ⟨A, cp, rfl, _, hcell, _, hb2⟩ := h.form
  have hlen : (ints ((partsOf s).take m)).length = m := by
    have := Hpow.out
    rw [ints_length, List.length_take, partsOf_length]; omega
  rw [hlen]
  have HC : Hid (∀ i, i < m → ∃ b o p, A = some ⟨b, o, p⟩ ∧ w2.cell? ((⟨b, o, p⟩ : Addr).add i) = some (.int .u64 (St.pd 64 s (i + 1) : Nat))) := Lib.hid (fun i hi => hcell i _ (take_at hi (by have := Hpow.out; omega)))
  have hb : Below w.heap.size w w2 := hb1.trans (hb2.mono hb1.size)
  clear h hcell hlen hb1 hb2
  have hz0 : ((m : Int) == (m : Int)) = true := by simp
  go_wp2_with fail
  go_loopw [6] (fun i wr => ∃ k : Nat, k ≤ m ∧ i = .int .i64 k ∧ Same w2 wr) (fun i _ => m - (intOf i).toNat)
  case atStart => exact ⟨0, by omega, rfl, Same.refl _⟩
  case round =>
    obtain ⟨k, hk, rfl, hsame⟩ := hrel
    by_cases hlt : k < m
    · obtain ⟨b, o, p, rfl, hcx⟩ := HC.out k hlt
      have hc1 := hsame.cell hcx
      have hp := Hpow.out
      have hin := pd_inB s (k + 1) HS.out
      have hpos := St.pd_pos (k := 64) (s := s) (n := k + 1) (by omega) (by omega)
      have hlx := St.pd_lt 64 s (k + 1)
      have hup : 0 < k → St.pd 64 s k < St.pd 64 s (k + 1) := fun _ => St.pd_succ_lt 64 s k (by omega)
      obtain ⟨x, ex⟩ : ∃ x, x = St.pd 64 s (k + 1) := ⟨_, rfl⟩
      rw [← ex] at hc1 hin hpos hlx hup
      have C17 : ∀ w, Hid (Calls Tryd.prog 17 #[.int .u64 x, .int .u64 s] w fun e w' => e = .returned (.bool true) ∧ w = w') := fun w => Lib.hid ((rin_any x s w (U64.of hlx) (U64.of HS.out)).mono fun e w' ⟨he, hw⟩ => ⟨by rw [he, Int.toNat_natCast, Int.toNat_natCast, hin], hw⟩)
      have D17 := Lib.hid C17
      have hxz : ((x : Int) == 0) = false := by simp; omega
      have Hs := Lib.hid hsame
      by_cases hk0 : k = 0
      · subst hk0
        rw [show (((0 : Nat) : Nat) : Int) = 0 from rfl]
        have hc0 : wr.cell? ⟨b, o, p⟩ = some (.int .u64 x) := hc1
        clear hup hp hin hpos hlx ex C17 hcx hsame hc1
        go_wp2_with fail
        go_quiet ((go_at_call 17; exact Calls.quiet_of_same ((D17.out _).out.mono fun e w' ⟨he, hw⟩ => ⟨he, hw.symm⟩)))
        go_wp2
        go_roundw
        case rel => exact ⟨1, by omega, by go_num, Hs.out.drewN _⟩
        case measure => simp [intOf]; omega
      · obtain ⟨j, hj⟩ : ∃ j, k = j + 1 := ⟨k - 1, by omega⟩
        obtain ⟨b2, o2, p2, e2, hcy⟩ := HC.out j (by omega)
        cases e2
        have hc2 := hsame.cell hcy
        have hup2 := hup (by omega)
        obtain ⟨y, ey⟩ : ∃ y, y = St.pd 64 s (j + 1) := ⟨_, rfl⟩
        rw [← ey] at hc2
        rw [hj, ← ey] at hup2
        have hge : decide ((x : Int) ≤ (y : Int)) = false := by simp; omega
        have hi0 : decide (0 < k) = true := by simp only [decide_eq_true_eq]; omega
        have hge2 : decide (x ≤ y) = false := by simp; omega
        have hi1 : IntKind.i64.wrap ((k : Int) - 1) = (j : Int) := by rw [show (k : Int) - 1 = j by omega]; exact IntWalk.i64_in _ (by omega)
        have hi2 : (0 : Int) ≤ (k : Int) := by omega
        have hi3 : (k : Int) < (m : Int) := by omega
        have hi5 : (0 : Int) ≤ (j : Int) := by omega
        have hi6 : (j : Int) < (m : Int) := by omega
        clear hup hp hin hpos hlx ex C17 hcx hsame hcy ey hup2 hj hk0
        go_wp2_with fail
        go_quiet ((go_at_call 17; exact Calls.quiet_of_same ((D17.out _).out.mono fun e w' ⟨he, hw⟩ => ⟨he, hw.symm⟩)))
        clear hi0 hi1 hi2 hi3 hi5 hi6 hc1 hc2 hge
        clear hge2
        go_wp2
        go_roundw
        case rel => exact ⟨k + 1, by omega, by go_num, Hs.out.drewN _⟩
        case measure => simp [intOf]; omega
    · obtain rfl : k = m := by omega
      have hb3 : Below w.heap.size w wr := hb.trans (hsame.below _)
      have HT3 := Lib.hid (HT.out.below hb3)
      have Hb3 := Lib.hid hb3
      clear hb3 hsame hb
      go_wp2_with fail
      refine (awake_any _ HT3.out).mono ?_
      rintro e w6 ⟨rfl, hb6⟩
      have Hb6 := Lib.hid (Hb3.out.trans (hb6.mono Hb3.out.size))
      clear hb6
      go_wp2_with fail
      go_ret
      exact ⟨rfl, Hb6.out⟩

/-- what the law's parts hands back, in a world in which what lay in w lies as it lay -/
def PartsIs (w : World) (n : Nat) (l : List Int) (e : Ending) (w' : World) : Prop := ∃ A c, e = .returned (.slice A n c) ∧ Sl w' (.slice A n c) (l.map (Value.int .u64)) ∧ Below w.heap.size w w'
theorem PartsIs.of {w w1 w' : World} {n : Nat} {l : List Int} {e : Ending} (h : OwnNums 22 .u64 w1 l e w') (h1 : Below w.heap.size w w1) (hn : n = l.length) : PartsIs w n l e w' := by
  obtain ⟨A, c, rfl, _, _, hs, hb⟩ := h.form
  rw [← hn] at hs ⊢
  exact ⟨A, c, rfl, hs, h1.trans (hb.mono h1.size)⟩

theorem Sl.cut {w : World} {A : Option Addr} {n cp k m : Nat} {l : List Nat} (h : Sl w (.slice A n cp) ((ints l).map (Value.int .u64))) (hk : (ints (l.take m)).length = k) : Sl w (.slice A k cp) ((ints (l.take m)).map (Value.int .u64)) := by
  obtain ⟨A', c', e, hc', hx⟩ := h
  injection e with e1 e2 e3
  subst e1 e3
  rw [ints_length, List.length_take] at hk
  rw [List.length_map, ints_length] at hc'
  refine ⟨A, cp, by rw [List.length_map, ints_length, List.length_take, hk], by rw [List.length_map, ints_length, List.length_take]; omega, fun j u hu => hx j u ?_⟩
  rw [← hu]
  have hj : j < k := by
    by_cases hj : j < k
    · exact hj
    · rw [List.getElem?_eq_none (by rw [List.length_map, ints_length, List.length_take]; omega)] at hu; cases hu
  simp only [ints, List.map_take, List.map_map]
  rw [List.getElem?_take_of_lt (by omega)]
attribute [local irreducible] Sl
/-- few members: all parts, as the document has them -/
theorem subsets_few (s m : Nat) (w : World) (hT : Tab w) (hs : s < 18446744073709551616) (hm : m ≤ 255) (hc : St.pop 64 s ≤ 10) :
    Calls Tryd.prog 4 #[.int .u64 s, .int .u8 m] w (BelowEnd w) := by
  have HS := Lib.hid hs
  have HT := Lib.hid hT
  obtain ⟨c, ec⟩ : ∃ c, c = St.pop 64 s := ⟨_, rfl⟩
  have C19 : ∀ w, Hid (Calls Tryd.prog 19 #[.int .u64 s] w fun e w' => e = .returned (.int .i64 c) ∧ Below w.heap.size w w') := fun w => Lib.hid (by rw [ec]; have := rcount_any s w (U64.of HS.out); rwa [Int.toNat_natCast] at this)
  have D19 := Lib.hid C19
  have h10 : decide (10 < (c : Int)) = false := by rw [ec]; simp; omega
  have Hc := Lib.hid hc
  clear hT hs C19 ec hc
  go_enter Tryd.func4, Tryd.ntmps4
  go_wp2_with fail
  refine (D19.out _).out.mono ?_
  rintro e w1 ⟨rfl, hb1⟩
  have Hb1 := Lib.hid hb1
  clear hb1
  go_wp2_with fail
  refine (rparts_any s w1 HS.out Hc.out).mono ?_
  intro e w2 h
  obtain ⟨A, cp, rfl, hcap, _, hsl, hb2⟩ := h.form
  have Hb2 := Lib.hid (Hb1.out.trans (hb2.mono Hb1.out.size))
  have Hsl := Lib.hid hsl
  clear h hsl hb2
  obtain ⟨n, hn⟩ : ∃ n, n = (ints (partsOf s)).length := ⟨_, rfl⟩
  rw [← hn] at hcap Hsl ⊢
  have Hn := Lib.hid hn
  clear hn
  have hn1 : n ≤ 1023 := by
    have h1 := partsOf_length s
    have h2 : 2 ^ St.pop 64 s ≤ 1024 := Nat.pow_le_pow_right (n := 2) (j := 10) (by decide) Hc.out
    have := Hn.out
    rw [ints_length] at this
    omega
  have C22 : ∀ w1 : World, Below w2.heap.size w2 w1 → Calls Tryd.prog 22 #[.int .u64 s, .int .i64 2000] w1 (PartsIs w2 n (ints (partsOf s))) := fun w1 h1 => by
    have h2 := lparts_any s 2000 w1 HS.out (by decide)
    rw [List.take_of_length_le (by have := Hn.out; rw [ints_length] at this; omega)] at h2
    exact h2.mono fun e w' h => PartsIs.of h h1 Hn.out
  have C22b : ∀ (w1 : World) (k : Nat), Below w2.heap.size w2 w1 → k = min n m → Calls Tryd.prog 22 #[.int .u64 s, .int .i64 m] w1 (PartsIs w2 k (ints ((partsOf s).take m))) := fun w1 k h1 hk => by
    have h2 := lparts_any s m w1 HS.out (by omega)
    exact h2.mono fun e w' h => PartsIs.of h h1 (by have := Hn.out; rw [ints_length] at this ⊢; rw [List.length_take]; omega)
  have C24 : ∀ (w1 : World) (v : Value), Below w2.heap.size w2 w1 → Sl w1 v ((ints (partsOf s)).map (Value.int .u64)) → Calls Tryd.prog 24 #[v, .slice A n cp] w1 fun e w' => e = .returned (.bool true) ∧ Below w2.heap.size w2 w' := fun w1 v h1 h2 => by
    have hl : (ints (partsOf s)).length ≤ 9223372036854775807 := by have := Hn.out; omega
    exact (words_any v _ _ _ w1 h2 (Hsl.out.below h1 (Nat.le_refl _)) hl hl).mono fun e w' ⟨he, hs⟩ => ⟨by rw [he, decide_eq_true rfl], h1.trans ((hs.below _))⟩
  have C24b : ∀ (w1 : World) (v : Value) (k : Nat), Below w2.heap.size w2 w1 → k = min n m → Sl w1 v ((ints ((partsOf s).take m)).map (Value.int .u64)) → Calls Tryd.prog 24 #[v, .slice A k cp] w1 fun e w' => e = .returned (.bool true) ∧ Below w2.heap.size w2 w' := fun w1 v k h1 hk h2 => by
    have hk2 : (ints ((partsOf s).take m)).length = k := by have := Hn.out; rw [ints_length] at this ⊢; rw [List.length_take]; omega
    have hl : (ints ((partsOf s).take m)).length ≤ 9223372036854775807 := by omega
    have h3 : Sl w2 (.slice A k cp) ((ints ((partsOf s).take m)).map (Value.int .u64)) := Hsl.out.cut hk2
    exact (words_any v _ _ _ w1 h2 (h3.below h1 (Nat.le_refl _)) hl hl).mono fun e w' ⟨he, hs⟩ => ⟨by rw [he, decide_eq_true rfl], h1.trans ((hs.below _))⟩
  have C6 : ∀ w1 : World, Below w2.heap.size w2 w1 → Calls Tryd.prog 6 #[] w1 fun e w' => e = .returned (.bool true) ∧ Below w2.heap.size w2 w' := fun w1 h1 =>
    (awake_any w1 (HT.out.below (Hb2.out.trans (h1.mono Hb2.out.size)))).mono fun e w' ⟨he, hb⟩ => ⟨he, h1.trans (hb.mono h1.size)⟩
  have D22 := Lib.hid C22
  have D22b := Lib.hid C22b
  have D24 := Lib.hid C24
  have D24b := Lib.hid C24b
  have D6 := Lib.hid C6
  have H2 : Hid (Below w2.heap.size w2 w2) := Lib.hid (Below.refl _ _)
  clear C22 C22b C24 C24b C6
  by_cases hmn : n ≤ m
  · have hall : (partsOf s).take m = partsOf s := List.take_of_length_le (by have := Hn.out; rw [ints_length] at this; omega)
    have E22b : Hid (∀ (w1 : World), Below w2.heap.size w2 w1 → Calls Tryd.prog 22 #[.int .u64 s, .int .i64 m] w1 (PartsIs w2 n (ints (partsOf s)))) := Lib.hid (fun w1 h1 => by
      have := D22b.out w1 n h1 (by omega)
      rwa [hall] at this)
    have hw1 : IntKind.i64.wrap (m : Int) = (m : Int) := IntWalk.i64_in _ (by omega)
    have hs1 : (0 : Int) ≤ (n : Int) := by omega
    have hs2 : (n : Int) ≤ (cp : Int) := by omega
    have hs3 : ((m : Int) < (n : Int)) = False := by simp; omega
    have hs6 : ((n : Int) ≤ (m : Int)) = True := by simp; omega
    have hs7 : (m < n) = False := by simp; omega
    clear hm hn1 hcap hmn hall
    go_wp2_with fail
    go_region_held3 (fun w' => Below w2.heap.size w2 w') (first | exact H2.out | assumption | exact Below.drew (by assumption))
      (first
        | (go_at_call 22; (with_reducible refine (D22.out _ ?_).mono ?_); (first | assumption | exact Below.drew (by assumption)); rintro e w' ⟨A1, c1, rfl, hsl1, hbl1⟩)
        | (go_at_call 22; (refine (E22b.out _ ?_).mono ?_); (first | assumption | exact Below.drew (by assumption)); rintro e w' ⟨A2, c2, rfl, hsl2, hbl2⟩)
        | (go_at_call 24; (with_reducible refine (D24.out _ _ ?_ ?_).mono ?_); (first | assumption | exact Below.drew (by assumption)); (first | assumption | exact Sl.drew (by assumption)); rintro e w' ⟨rfl, hbl3⟩)
        | (go_at_call 6; (with_reducible refine (D6.out _ ?_).mono ?_); (first | assumption | exact Below.drew (by assumption)); rintro e w' ⟨rfl, hbl5⟩))
    all_goals
      rename_i hS3
      have HS3 := Lib.hid hS3
      clear hs1 hs2 hs3 hs6 hs7 hw1
      go_wp2
      go_ret
      exact ⟨rfl, Hb2.out.trans (HS3.out.mono Hb2.out.size)⟩
  · have hmn' : m < n := by omega
    have E22b : Hid (∀ (w1 : World), Below w2.heap.size w2 w1 → Calls Tryd.prog 22 #[.int .u64 s, .int .i64 m] w1 (PartsIs w2 m (ints ((partsOf s).take m)))) := Lib.hid (fun w1 h1 => D22b.out w1 m h1 (by omega))
    have E24b : Hid (∀ (w1 : World) (v : Value), Below w2.heap.size w2 w1 → Sl w1 v ((ints ((partsOf s).take m)).map (Value.int .u64)) → Calls Tryd.prog 24 #[v, .slice A m cp] w1 fun e w' => e = .returned (.bool true) ∧ Below w2.heap.size w2 w') := Lib.hid (fun w1 v h1 h2 => D24b.out w1 v m h1 (by omega) h2)
    have hw1 : IntKind.i64.wrap (m : Int) = (m : Int) := IntWalk.i64_in _ (by omega)
    have hs1 : (0 : Int) ≤ (m : Int) := by omega
    have hs2 : (m : Int) ≤ (cp : Int) := by omega
    have hs3 : ((m : Int) < (n : Int)) = True := by simp; omega
    have hs6 : ((n : Int) ≤ (m : Int)) = False := by simp; omega
    have hs7 : (m < n) = True := by simp; omega
    clear hm hn1 hcap hmn hmn' D22b D24b
    go_wp2_with fail
    go_region_held3 (fun w' => Below w2.heap.size w2 w') (first | exact H2.out | assumption | exact Below.drew (by assumption))
      (first
        | (go_at_call 22; (with_reducible refine (D22.out _ ?_).mono ?_); (first | assumption | exact Below.drew (by assumption)); rintro e w' ⟨A1, c1, rfl, hsl1, hbl1⟩)
        | (go_at_call 22; (refine (E22b.out _ ?_).mono ?_); (first | assumption | exact Below.drew (by assumption)); rintro e w' ⟨A2, c2, rfl, hsl2, hbl2⟩)
        | (go_at_call 24; (with_reducible refine (D24.out _ _ ?_ ?_).mono ?_); (first | assumption | exact Below.drew (by assumption)); (first | assumption | exact Sl.drew (by assumption)); rintro e w' ⟨rfl, hbl3⟩)
        | (go_at_call 24; (with_reducible refine (E24b.out _ _ ?_ ?_).mono ?_); (first | assumption | exact Below.drew (by assumption)); (first | assumption | exact Sl.drew (by assumption)); rintro e w' ⟨rfl, hbl4⟩)
        | (go_at_call 6; (with_reducible refine (D6.out _ ?_).mono ?_); (first | assumption | exact Below.drew (by assumption)); rintro e w' ⟨rfl, hbl5⟩))
    all_goals
      rename_i hS3
      have HS3 := Lib.hid hS3
      clear hs1 hs2 hs3 hs6 hs7 hw1
      go_wp2
      go_ret
      exact ⟨rfl, Hb2.out.trans (HS3.out.mono Hb2.out.size)⟩
theorem subsets_any (s m : Nat) (w : World) (hT : Tab w) (hs : s < 18446744073709551616) (hm : m ≤ 255) :
    Calls Tryd.prog 4 #[.int .u64 s, .int .u8 m] w (BelowEnd w) := by
  by_cases hc : St.pop 64 s ≤ 10
  · exact subsets_few s m w hT hs hm hc
  · exact subsets_many s m w hT hs hm (by omega)
end Go.Proofs.YtjidhdakigpoeaaDoor
