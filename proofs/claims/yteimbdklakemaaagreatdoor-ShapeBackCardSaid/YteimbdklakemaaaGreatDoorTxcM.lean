/-
  A TERM's TEXT: the program's and the document's.
-/
import Derived.Test.YteimbdklakemaaaGreatDoorTxbM
import Derived.Test.YteimbdklakemaaaGreatDoorValcM
import Derived.Test.YteimbdklakemaaaGreatDoorGTerms
import Derived.Test.YteimbdklakemaaaGreatDoorGBase
import Derived.BigQuiet
import Derived.Lib.QuietBelow
namespace Go.Proofs.YteimbdklakemaaaGreatDoor
open Go.RowKit Go.Sort
set_option maxHeartbeats 800000

theorem itoa_le {n : Int} (h : Tx.I64 n) : (Lib.itoa n).length ≤ 100 := by
  obtain ⟨h0, h1⟩ := h
  unfold Lib.itoa
  split
  · rw [List.length_cons, Lib.decDigits_length]
    have := Lib.nDigits_le20 n.natAbs (by omega)
    omega
  · rw [Lib.decDigits_length]
    have := Lib.nDigits_le20 n.toNat (by omega)
    omega
theorem prt_le {b : Bool} {n : Int} (h : Tx.I64 n) : (prt b n).length ≤ 100 := by
  unfold prt
  split
  · decide
  · exact itoa_le h
theorem term_bytes_le {x : Tm} (hr : Te.right x = true) (h : Tx.I64 x.n) : (Tx.termBytes x).length ≤ 210 := by
  obtain ⟨k, t, c, z, n⟩ := x
  by_cases hk : k = 1
  · subst hk
    rw [Tx.termBytes_col rfl]
    simp [Te.right, Te.below] at hr
    have h1 := itoa_le (n := t) ⟨by omega, by omega⟩
    have h2 := itoa_le (n := c) ⟨by omega, by omega⟩
    simp
    omega
  · rw [Tx.termBytes_value hk]
    have h1 := prt_le (b := z) (n := n) h
    unfold prt at h1
    simp
    omega
theorem itoa_any (n : Int) (w : World) (h : Tx.I64 n) (hP : Pows w) :
    Calls Tryz.prog 24 #[.int .i64 n] w fun e w' => e = .returned (.string ⟨(Lib.itoa n).toArray⟩) ∧ Below w.heap.size w w' := by
  refine (Tryz.strconv_Itoa n h.1 h.2 w hP).mono ?_
  rintro e w' ⟨rfl, k, os, rfl⟩
  exact ⟨rfl, below_grown _ _ _⟩
set_option maxRecDepth 100000 in
theorem ttext_any (k t c : Int) (z : Bool) (n : Int) (w : World) (hr : Te.right ⟨k, t, c, z, n⟩ = true) (h : Tx.I64 n) (hP : Pows w) :
    Calls Tryz.prog 56 #[.agg #[.int .i64 k, .int .i64 t, .int .i64 c, .bool z, .int .i64 n]] w fun e w' => e = .returned (.string ⟨(Tx.termBytes ⟨k, t, c, z, n⟩).toArray⟩) ∧ Below w.heap.size w w' := by
  obtain ⟨W0, hW0⟩ : ∃ W0, W0 = w.alloc (Obj.cells #[.int .i64 k, .int .i64 t, .int .i64 c, .bool z, .int .i64 n] 41) := ⟨_, rfl⟩
  obtain ⟨l0, hb0⟩ := box_one (cs := [.int .i64 k, .int .i64 t, .int .i64 c, .bool z, .int .i64 n]) hW0
  have hP0 := hP.below hb0 (Nat.le_refl _)
  have HW := Lib.hid hW0
  by_cases hk : k = 1
  · subst hk
    rw [Tx.termBytes_col rfl]
    simp [Te.right, Te.below] at hr
    have ht : Tx.I64 t := ⟨by omega, by omega⟩
    have hc : Tx.I64 c := ⟨by omega, by omega⟩
    have n1 : ∀ d os, Calls Tryz.prog 24 #[.int .i64 t] (grow (redrawn W0 d) os) fun e w'' => e = .returned (.string ⟨(Lib.itoa t).toArray⟩) ∧ ∃ p : Regrown, w'' = grow (redrawn W0 p.d) p.os := in_class fun W hb => itoa_any t W ht (hP0.below hb (Nat.le_refl _))
    have n2 : ∀ d os, Calls Tryz.prog 24 #[.int .i64 c] (grow (redrawn W0 d) os) fun e w'' => e = .returned (.string ⟨(Lib.itoa c).toArray⟩) ∧ ∃ p : Regrown, w'' = grow (redrawn W0 p.d) p.os := in_class fun W hb => itoa_any c W hc (hP0.below hb (Nat.le_refl _))
    have l1 := itoa_le ht
    have l2 := itoa_le hc
    generalize Lib.itoa t = X at n1 l1 ⊢
    generalize Lib.itoa c = Y at n2 l2 ⊢
    have k0 : ∀ d os, (grow (redrawn W0 d) os).cell? ⟨w.heap.size, 0, none⟩ = some (.int .i64 1) := cell_regrown (l0.cell rfl)
    have k1 : ∀ d os, (grow (redrawn W0 d) os).cell? ⟨w.heap.size, 1, none⟩ = some (.int .i64 t) := cell_regrown (l0.cell rfl)
    have k2 : ∀ d os, (grow (redrawn W0 d) os).cell? ⟨w.heap.size, 2, none⟩ = some (.int .i64 c) := cell_regrown (l0.cell rfl)
    have j0 : W0.cell? ⟨w.heap.size, 0, none⟩ = some (.int .i64 1) := l0.cell rfl
    have g1 : ¬ 9223372036854775807 < X.length + 1 := by omega
    have g2 : ¬ 9223372036854775807 < X.length + 1 + Y.length := by omega
    clear hr ht hc hP0 l0 hW0 h hP
    go_enter Tryz.func56, Tryz.ntmps56
    go_upto_region 1 with (fail)
    rw [← HW.out]
    go_wp2_with fail
    refine wp_region_quiet_below (by kernel_rfl) (by kernel_rfl) ?_
    repeat (go_big_quiet_step (with_reducible first | exact n1 _ _ | exact n2 _ _))
    refine wpQuiet_nil ?_
    intro _ hw'
    obtain ⟨⟨dq, osq⟩, hw''⟩ := hw'
    subst hw''
    have hbz : Below w.heap.size w (grow (redrawn W0 dq) osq) := below_join hb0 (below_regrown _ _ _)
    clear k0 k1 k2 n1 n2 j0 hb0
    generalize grow (redrawn W0 dq) osq = wz at hbz ⊢
    go_wp2
    go_ret
    refine ⟨?_, hbz⟩
    rw [show (⟨#[46]⟩ : ByteArray) = ⟨[46].toArray⟩ from rfl, app_l, app_l]
    rfl
  · rw [Tx.termBytes_value hk]
    have hk2 : k = 2 := by
      unfold Te.right at hr
      rw [if_neg hk] at hr
      simp at hr
      exact hr.1.1.1
    subst hk2
    have cp := print_any z n W0 h.1 h.2 hP0
    have l1 := prt_le (b := z) h
    have e0 : (39 : UInt8) :: (if z = true then Va.nul else Lib.itoa n) = 39 :: prt z n := rfl
    rw [e0]
    generalize prt z n = X at cp l1 ⊢
    have j0 : W0.cell? ⟨w.heap.size, 0, none⟩ = some (.int .i64 2) := l0.cell rfl
    have j1 : W0.cell? ⟨w.heap.size, 3, none⟩ = some (.bool z) := l0.cell rfl
    have j2 : W0.cell? ⟨w.heap.size, 3 + 1, none⟩ = some (.int .i64 n) := l0.cell rfl
    have g1 : ¬ 9223372036854775807 < 1 + X.length := by omega
    clear hr hP0 l0 hW0 h hP hk e0
    go_enter Tryz.func56, Tryz.ntmps56
    go_upto_region 1 with (fail)
    rw [← HW.out]
    go_wp2_with fail
    refine cp.mono ?_
    rintro e w1 ⟨rfl, hb1⟩
    have hb := below_join hb0 hb1
    clear cp j0 j1 j2 hb0 hb1
    go_wp2
    go_ret
    refine ⟨?_, hb⟩
    rw [show (⟨#[39]⟩ : ByteArray) = ⟨[39].toArray⟩ from rfl, app_l]
    rfl
end Go.Proofs.YteimbdklakemaaaGreatDoor
