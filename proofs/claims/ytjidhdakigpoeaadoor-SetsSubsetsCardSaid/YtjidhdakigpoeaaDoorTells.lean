/-
  THE LAW SetsTells, WALKED: it returns true.
-/
import Derived.Test.YtjidhdakigpoeaaDoorBelow
import Derived.Deep.RegionHeld3
namespace Go.Proofs.YtjidhdakigpoeaaDoor
open Go.RowKit
set_option maxHeartbeats 400000

theorem tells_below (x : Int) (W w : World) (ad : Addr) (v : Value) (hb : Below W.heap.size W w) (hc : w.cell? ad = some v) (hlt : ad.block < W.heap.size) :
    Calls Tryd.prog 10 #[.int .i64 x] w fun e w' => e = .returned (.int .u64 (St.belowN x : Nat)) ∧ Below W.heap.size W w' ∧ w'.cell? ad = some v :=
  (rbelow_any x w).mono fun e w' ⟨he, h⟩ => ⟨he, hb.trans (h.mono hb.size), (h.cell (by have := hb.size; omega)).trans hc⟩

theorem tells_loop (a b : Int) (A : Option Addr) (n c : Nat) (l : List Int) (w : World) (ha : U64 a) (hb : U64 b) (hT : Tab w) (hl : n ≤ 300) (hs : Sl w (.slice A n c) (l.map (Value.int .i64))) :
    Calls Tryd.prog 3 #[.int .u64 a, .int .u64 b, .slice A n c] w (BelowEnd w) := by
  have hn : n = l.length := by
    obtain ⟨A', c', e, _⟩ := hs
    injection e with _ e2
    rw [e2, List.length_map]
  have hx : ∀ (j : Nat) (u : Int), l[j]? = some u → ∃ b o p, A = some ⟨b, o, p⟩ ∧ b < w.heap.size ∧ w.cell? ((⟨b, o, p⟩ : Addr).add j) = some (.int .i64 u) := by
    obtain ⟨A', c', e, _, hx⟩ := hs
    injection e with e1
    subst e1
    exact fun j u hu => hx j (.int .i64 u) (by simp [hu])
  have Hn := Lib.hid hn
  have HX := Lib.hid hx
  have HA := Lib.hid ha
  have HB := Lib.hid hb
  have HT := Lib.hid hT
  have HS := Lib.hid hs
  have h300 : decide (300 < (n : Int)) = false := by simp; omega
  clear hn hx ha hb hT hs
  go_enter Tryd.func3, Tryd.ntmps3
  go_wp2_with fail
  go_loopw [7] (fun i wr => ∃ k : Nat, k ≤ n ∧ i = .int .i64 k ∧ Below w.heap.size w wr) (fun i _ => n - (intOf i).toNat)
  case atStart => exact ⟨0, by omega, rfl, Below.refl _ _⟩
  case round =>
    obtain ⟨k, hk, rfl, hb⟩ := hrel
    by_cases hlt : k < n
    · obtain ⟨x, gx⟩ : ∃ x, l[k]? = some x := ⟨l[k]'(by have := Hn.out; omega), List.getElem?_eq_getElem _⟩
      obtain ⟨bb, o, p, rfl, hbl, hcell⟩ := HX.out k x gx
      have hbk : ((⟨bb, o, p⟩ : Addr).add k).block < w.heap.size := by
        have e : ((⟨bb, o, p⟩ : Addr).add k).block = bb := by unfold Addr.add; split <;> rfl
        rw [e]; exact hbl
      replace hcell := (hb.cell hbk).trans hcell
      have HBk := Lib.hid hbk
      have Hb := Lib.hid hb
      clear gx hbk hb
      obtain ⟨h, hh⟩ : ∃ h, h = St.hasB a.toNat x := ⟨_, rfl⟩
      obtain ⟨y, hy⟩ : ∃ y, y = St.belowN x := ⟨_, rfl⟩
      have c7 : ∀ w, Calls Tryd.prog 7 #[.int .u64 a, .int .i64 x] w fun e w' => e = .returned (.bool h) ∧ w = w' := fun w => by rw [hh]; exact has_any a x w HA.out
      have c8 : ∀ w, Calls Tryd.prog 8 #[.int .u64 a, .int .i64 x] w fun e w' => e = .returned (.bool h) ∧ w = w' := fun w => by rw [hh]; exact rhas_any a x w HA.out
      have c9 : ∀ w, Calls Tryd.prog 9 #[.int .i64 x] w fun e w' => e = .returned (.int .u64 y) ∧ w = w' := fun w => by rw [hy]; exact below_any x w
      have c10 : ∀ w1, Below w.heap.size w w1 → w1.cell? ((⟨bb, o, p⟩ : Addr).add k) = some (.int .i64 x) → Calls Tryd.prog 10 #[.int .i64 x] w1 fun e w' => e = .returned (.int .u64 y) ∧ Below w.heap.size w w' ∧ w'.cell? ((⟨bb, o, p⟩ : Addr).add k) = some (.int .i64 x) :=
        fun w1 h1 h2 => by rw [hy]; exact tells_below x w w1 _ _ h1 h2 HBk.out
      have C7 := Lib.hid c7
      have C8 := Lib.hid c8
      have C9 := Lib.hid c9
      have C10 := Lib.hid c10
      clear hh hy c7 c8 c9 c10
      have hz : (h != h) = false := by cases h <;> rfl
      have hz2 : ((y : Int) != (y : Int)) = false := by simp
      go_wp2_with fail
      go_region_held3 (fun w' => Below w.heap.size w w' ∧ w'.cell? ((⟨bb, o, p⟩ : Addr).add k) = some (.int .i64 x)) (first | exact ⟨Hb.out, hcell⟩ | (refine ⟨?_, ?_⟩ <;> first | assumption | (exact Below.drew (by assumption))))
        (first
          | (go_at_call 7; refine (C7.out _).mono ?_; rintro e w' ⟨rfl, rfl⟩)
          | (go_at_call 8; refine (C8.out _).mono ?_; rintro e w' ⟨rfl, rfl⟩)
          | (go_at_call 9; refine (C9.out _).mono ?_; rintro e w' ⟨rfl, rfl⟩)
          | (go_at_call 10; refine (C10.out _ ?_ ?_).mono ?_; (first | assumption | exact Below.drew (by assumption)); (first | assumption | (simp; assumption)); rintro e w' ⟨rfl, hb1, hc1⟩))
      rename_i hS3
      obtain ⟨hb2, -⟩ := hS3
      go_wp2
      go_roundw
      case rel => exact ⟨k + 1, by omega, by go_num, hb2⟩
      case measure => simp [intOf]; omega
    · have hge : n ≤ k := by omega
      clear hlt
      obtain ⟨x, rfl, hxx⟩ := HA.out.nat
      obtain ⟨y, rfl, hyy⟩ := HB.out.nat
      have hTr := HT.out.below hb
      have hsr := HS.out.below hb (Nat.le_refl _)
      have hlen : l.length ≤ 9223372036854775807 := by have := Hn.out; omega
      obtain ⟨m, hm⟩ : ∃ m, m = St.ofN l := ⟨_, rfl⟩
      have C11 : Hid (Calls Tryd.prog 11 #[.slice A n c] wr fun e w' => e = .returned (.int .u64 m) ∧ wr = w') := Lib.hid (by rw [hm]; exact sof_any _ l wr hsr hlen)
      have C12 : Hid (Calls Tryd.prog 12 #[.slice A n c] wr fun e w' => e = .returned (.int .u64 m) ∧ wr = w') := Lib.hid (by rw [hm]; exact rof_any _ l wr hsr hlen)
      have hz1 : ((m : Int) == (m : Int)) = true := by simp
      have HTr := Lib.hid hTr
      have Hhb := Lib.hid hb
      clear hm hlen hsr hTr hb
      go_wp2_with fail
      refine C11.out.mono ?_
      rintro e w' ⟨rfl, rfl⟩
      go_wp2_with fail
      refine C12.out.mono ?_
      rintro e w' ⟨rfl, rfl⟩
      go_wp2_with fail
      refine (slist_any _ _ HA.out HTr.out).mono ?_
      intro e w1 h1
      rw [Int.toNat_natCast] at h1
      obtain ⟨A1, c1, rfl, _, _, hs1, hb1⟩ := h1.form
      clear h1
      have Hs1 := Lib.hid hs1
      have Hb1 := Lib.hid hb1
      clear hs1 hb1
      go_wp2_with fail
      refine (rlist_any _ _ HA.out).mono ?_
      intro e w2 h2
      rw [Int.toNat_natCast] at h2
      obtain ⟨A2, c2, rfl, _, _, hs2, hb2⟩ := h2.form
      clear h2
      have Hs2 := Lib.hid hs2
      have Hb2 := Lib.hid hb2
      have Hl64 : Hid ((ints (St.memb x)).length ≤ 9223372036854775807) := Lib.hid (by rw [ints_length, St.memb_length]; have := St.pop_le 64 x; omega)
      clear hs2 hb2
      go_wp2_with fail
      refine (ints_any _ _ _ _ _ (Hs1.out.below Hb2.out (Nat.le_refl _)) Hs2.out Hl64.out Hl64.out).mono ?_
      rintro e w3 ⟨rfl, hsame⟩
      have hb3 : Below wr.heap.size wr w3 := (Hb1.out.trans (Hb2.out.mono Hb1.out.size)).trans (hsame.below _)
      have Hb3 := Lib.hid hb3
      clear hsame hb3
      rw [decide_eq_true rfl]
      have hT3 := Lib.hid (HTr.out.below Hb3.out)
      obtain ⟨iv, hiv⟩ : ∃ iv, iv = St.inB x y := ⟨_, rfl⟩
      obtain ⟨cv, hcv⟩ : ∃ cv, cv = St.pop 64 x := ⟨_, rfl⟩
      obtain ⟨mv, hmv⟩ : ∃ mv, mv = St.minI x := ⟨_, rfl⟩
      have C16 : ∀ w, Hid (Calls Tryd.prog 16 #[.int .u64 x, .int .u64 y] w fun e w' => e = .returned (.bool iv) ∧ w = w') := fun w => Lib.hid (by rw [hiv]; exact in_any _ _ w HA.out HB.out)
      have C17 : ∀ w, Hid (Calls Tryd.prog 17 #[.int .u64 x, .int .u64 y] w fun e w' => e = .returned (.bool iv) ∧ w = w') := fun w => Lib.hid (by rw [hiv]; exact rin_any _ _ w HA.out HB.out)
      have C18 : ∀ w, Hid (Calls Tryd.prog 18 #[.int .u64 x] w fun e w' => e = .returned (.int .i64 cv) ∧ w = w') := fun w => Lib.hid (by rw [hcv]; exact count_any _ w HA.out)
      have C19 : ∀ w, Hid (Calls Tryd.prog 19 #[.int .u64 x] w fun e w' => e = .returned (.int .i64 cv) ∧ Below w.heap.size w w') := fun w => Lib.hid (by rw [hcv]; exact rcount_any _ w HA.out)
      have C20 : ∀ w, Tab w → Hid (Calls Tryd.prog 20 #[.int .u64 x] w fun e w' => e = .returned (.int .i64 mv) ∧ w = w') := fun w ht => Lib.hid (by rw [hmv]; exact min_any _ w HA.out ht)
      have C21 : ∀ w, Hid (Calls Tryd.prog 21 #[.int .u64 x] w fun e w' => e = .returned (.int .i64 mv) ∧ Below w.heap.size w w') := fun w => Lib.hid (by rw [hmv]; exact rmin_any _ w HA.out)
      have D16 := Lib.hid C16
      have D17 := Lib.hid C17
      have D18 := Lib.hid C18
      have D19 := Lib.hid C19
      have D20 := Lib.hid C20
      have D21 := Lib.hid C21
      have z1 : (iv == iv) = true := by simp
      have z2 : ((cv : Int) == (cv : Int)) = true := by simp
      have z3 : (mv == mv) = true := by simp
      clear hiv hcv hmv C16 C17 C18 C19 C20 C21
      go_wp2_with fail
      refine (D16.out _).out.mono ?_
      rintro e w' ⟨rfl, rfl⟩
      go_wp2_with fail
      refine (D17.out _).out.mono ?_
      rintro e w' ⟨rfl, rfl⟩
      go_wp2_with fail
      refine (D18.out _).out.mono ?_
      rintro e w' ⟨rfl, rfl⟩
      go_wp2_with fail
      refine (D19.out _).out.mono ?_
      rintro e w4 ⟨rfl, hb4⟩
      have hb4' : Below wr.heap.size wr w4 := Hb3.out.trans (hb4.mono Hb3.out.size)
      have Hb4 := Lib.hid hb4'
      clear hb4 hb4'
      go_wp2_with fail
      refine (D20.out _ (HTr.out.below Hb4.out)).out.mono ?_
      rintro e w' ⟨rfl, rfl⟩
      go_wp2_with fail
      refine (D21.out _).out.mono ?_
      rintro e w5 ⟨rfl, hb5⟩
      have hb5' : Below wr.heap.size wr w5 := Hb4.out.trans (hb5.mono Hb4.out.size)
      have Hb5 := Lib.hid hb5'
      clear hb5 hb5'
      go_wp2_with fail
      refine (awake_any _ (HTr.out.below Hb5.out)).mono ?_
      rintro e w6 ⟨rfl, hb6⟩
      have hb6' : Below w.heap.size w w6 := Hhb.out.trans ((Hb5.out.trans (hb6.mono Hb5.out.size)).mono Hhb.out.size)
      have Hb6 := Lib.hid hb6'
      clear hb6 hb6'
      go_wp2_with fail
      go_ret
      exact ⟨rfl, Hb6.out⟩

theorem tells_long (a b : Int) (A : Option Addr) (n c : Nat) (w : World) (hT : Tab w) (hl : 300 < n) :
    Calls Tryd.prog 3 #[.int .u64 a, .int .u64 b, .slice A n c] w (BelowEnd w) := by
  have h300 : decide (300 < (n : Int)) = true := by simp; omega
  have HT := Lib.hid hT
  clear hT
  go_enter Tryd.func3, Tryd.ntmps3
  go_wp2_with fail
  refine (awake_any _ HT.out).mono ?_
  rintro e w6 ⟨rfl, hb6⟩
  go_wp2_with fail
  go_ret
  exact ⟨rfl, hb6⟩
theorem tells_any (a b : Int) (A : Option Addr) (n c : Nat) (l : List Int) (w : World) (ha : U64 a) (hb : U64 b) (hT : Tab w) (hs : Sl w (.slice A n c) (l.map (Value.int .i64))) :
    Calls Tryd.prog 3 #[.int .u64 a, .int .u64 b, .slice A n c] w (BelowEnd w) := by
  by_cases hl : n ≤ 300
  · exact tells_loop a b A n c l w ha hb hT hl hs
  · exact tells_long a b A n c w hT (by omega)
end Go.Proofs.YtjidhdakigpoeaaDoor
