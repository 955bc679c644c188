/-
  package check: alone.
-/
import Derived.Test.YtdcgfhenlddmeaaCkmM
import Derived.Test.YtdcgfhenlddmeaaTrsM
import Derived.Test.YtdcgfhenlddmeaaGBase
namespace Go.Proofs.Ytdcgfhenlddmeaa
open Go.RowKit Go.Sort
set_option maxHeartbeats 1600000

set_option maxRecDepth 100000 in
theorem alone_any (a : Tr) (A : Option Addr) (m cu : Nat) (A' : Option Addr) (m' cv : Nat) (c n : Nat) (w : World) (hm : m = a.ks.length) (hm' : m' = a.cs.length) (hs : m ≤ 9223372036854775807) (hs' : m' ≤ 9223372036854775807) (hc : c ≤ 9223372036854775807) (_ : n ≤ 9223372036854775807) :
    Calls Try.prog 32 #[.agg #[.int .i64 a.k, .int .i64 a.t, .slice A m cu, .slice A' m' cv, .bool a.h], .int .i64 c, .int .i64 n] w
      fun e w' => e = .returned (.int .i64 (Ck.alone n a c)) ∧ Below w.heap.size w w' := by
  obtain ⟨W0, hW0⟩ : ∃ W0, W0 = w.alloc (Obj.cells #[.int .i64 a.k, .int .i64 a.t, .slice A m cu, .slice A' m' cv, .bool a.h] 26) := ⟨_, rfl⟩
  obtain ⟨l0, ⟨q0, q1, q2, q3, q4⟩, hb0⟩ := tr_box (a := a) (u := .slice A m cu) (v := .slice A' m' cv) hW0
  have HW := Lib.hid hW0
  obtain ⟨r, hr⟩ : ∃ r, r = Ck.alone n a c := ⟨_, rfl⟩
  rw [← hr]
  unfold Ck.alone at hr
  rw [← hm, ← hm'] at hr
  clear hW0 l0 hm hm'
  obtain ⟨k, hk⟩ : ∃ k, k = a.k := ⟨_, rfl⟩
  obtain ⟨t, ht⟩ : ∃ t, t = a.t := ⟨_, rfl⟩
  obtain ⟨h, hh⟩ : ∃ h, h = a.h := ⟨_, rfl⟩
  rw [← hk] at q0 HW hr ⊢
  rw [← ht] at q1 HW hr ⊢
  rw [← hh] at q4 HW hr ⊢
  clear hk ht hh
  have HB := Lib.hid hb0
  clear hb0
  by_cases k0 : k < 0
  · rw [if_pos (.inl k0)] at hr
    subst hr
    go_enter Try.func32, Try.ntmps32
    go_upto_region 1 with (fail)
    rw [← HW.out]
    go_wp2_with fail
    go_ret
    exact ⟨rfl, HB.out⟩
  by_cases k4 : 4 < k
  · rw [if_pos (.inr (.inl k4))] at hr
    subst hr
    go_enter Try.func32, Try.ntmps32
    go_upto_region 1 with (fail)
    rw [← HW.out]
    go_wp2_with fail
    go_ret
    exact ⟨rfl, HB.out⟩
  by_cases kz : k = 0
  · subst kz
    cases h
    · rw [if_neg (by simp)] at hr
      by_cases m0 : m = 0
      · subst m0
        rw [if_neg (by simp)] at hr
        by_cases m1 : m' = 0
        · subst m1
          by_cases c6 : 64 < c
          · rw [if_pos (by omega)] at hr
            subst hr
            go_enter Try.func32, Try.ntmps32
            go_upto_region 1 with (fail)
            rw [← HW.out]
            go_wp2_with fail
            go_ret
            exact ⟨rfl, HB.out⟩
          · rw [if_neg (by omega)] at hr
            rw [if_pos rfl] at hr
            by_cases t0 : t < 0
            · rw [if_pos (.inl t0)] at hr
              subst hr
              go_enter Try.func32, Try.ntmps32
              go_upto_region 1 with (fail)
              rw [← HW.out]
              go_wp2_with fail
              go_ret
              exact ⟨rfl, HB.out⟩
            by_cases tn : (n : Int) ≤ t
            · rw [if_pos (.inr tn)] at hr
              subst hr
              go_enter Try.func32, Try.ntmps32
              go_upto_region 1 with (fail)
              rw [← HW.out]
              go_wp2_with fail
              go_ret
              exact ⟨rfl, HB.out⟩
            · rw [if_neg (by omega)] at hr
              subst hr
              go_enter Try.func32, Try.ntmps32
              go_upto_region 1 with (fail)
              rw [← HW.out]
              go_wp2_with fail
              go_ret
              exact ⟨rfl, HB.out⟩
        · rw [if_pos (by omega)] at hr
          subst hr
          have m1' : ((m' : Int) == 0) = false := by simpa using m1
          go_enter Try.func32, Try.ntmps32
          go_upto_region 1 with (fail)
          rw [← HW.out]
          go_wp2_with fail
          go_ret
          exact ⟨rfl, HB.out⟩
      · rw [if_pos (by simpa using m0)] at hr
        subst hr
        have m0' : ((m : Int) != 0) = true := by simpa using m0
        go_enter Try.func32, Try.ntmps32
        go_upto_region 1 with (fail)
        rw [← HW.out]
        go_wp2_with fail
        go_ret
        exact ⟨rfl, HB.out⟩
    · rw [if_pos (.inr (.inr ⟨rfl, rfl⟩))] at hr
      subst hr
      go_enter Try.func32, Try.ntmps32
      go_upto_region 1 with (fail)
      rw [← HW.out]
      go_wp2_with fail
      go_ret
      exact ⟨rfl, HB.out⟩
  · have kz' : (k == 0) = false := by simpa using kz
    rw [if_neg (by omega), if_neg kz, if_neg kz] at hr
    by_cases m2 : m = 2
    · subst m2
      rw [if_neg (by simp)] at hr
      by_cases m1 : m' = 0
      · subst m1
        rw [if_pos (by omega)] at hr
        subst hr
        go_enter Try.func32, Try.ntmps32
        go_upto_region 1 with (fail)
        rw [← HW.out]
        go_wp2_with fail
        go_ret
        exact ⟨rfl, HB.out⟩
      · have m1' : ((m' : Int) == 0) = false := by simpa using m1
        by_cases c6 : 64 < c
        · rw [if_pos (by omega)] at hr
          subst hr
          go_enter Try.func32, Try.ntmps32
          go_upto_region 1 with (fail)
          rw [← HW.out]
          go_wp2_with fail
          go_ret
          exact ⟨rfl, HB.out⟩
        · rw [if_neg (by omega)] at hr
          by_cases t0 : t < 0
          · rw [if_pos (.inl t0)] at hr
            subst hr
            go_enter Try.func32, Try.ntmps32
            go_upto_region 1 with (fail)
            rw [← HW.out]
            go_wp2_with fail
            go_ret
            exact ⟨rfl, HB.out⟩
          by_cases tn : (1 : Int) ≤ t
          · rw [if_pos (.inr tn)] at hr
            subst hr
            go_enter Try.func32, Try.ntmps32
            go_upto_region 1 with (fail)
            rw [← HW.out]
            go_wp2_with fail
            go_ret
            exact ⟨rfl, HB.out⟩
          · rw [if_neg (by omega)] at hr
            subst hr
            go_enter Try.func32, Try.ntmps32
            go_upto_region 1 with (fail)
            rw [← HW.out]
            go_wp2_with fail
            go_ret
            exact ⟨rfl, HB.out⟩
    · have m2' : ((m : Int) != 2) = true := by simp; omega
      rw [if_pos (by simpa using m2)] at hr
      subst hr
      go_enter Try.func32, Try.ntmps32
      go_upto_region 1 with (fail)
      rw [← HW.out]
      go_wp2_with fail
      go_ret
      exact ⟨rfl, HB.out⟩
end Go.Proofs.Ytdcgfhenlddmeaa
