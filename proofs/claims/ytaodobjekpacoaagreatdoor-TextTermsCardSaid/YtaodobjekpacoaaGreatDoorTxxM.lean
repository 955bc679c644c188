/-
  A TERM's TEXT: the program's and the document's, with its code.
-/
import Derived.Test.YtaodobjekpacoaaGreatDoorTxcM
import Derived.Test.YtaodobjekpacoaaGreatDoorGTerms
import Derived.Test.YtaodobjekpacoaaGreatDoorValcM
import Derived.BigQuiet
import Derived.Lib.QuietBelow
namespace Go.Proofs.YtaodobjekpacoaaGreatDoor
open Go.RowKit Go.Sort
set_option maxHeartbeats 3200000

/-- what Term tells -/
def Tx.toldTerm (x : Tm) : List UInt8 := if Te.right x then Tx.termBytes x else []
set_option maxRecDepth 100000 in
theorem tterm_any (k t c : Int) (z : Bool) (n : Int) (w : World) (h : Tx.I64 n) (hP : Pows w) :
    Calls Tryz.prog 4 #[.agg #[.int .i64 k, .int .i64 t, .int .i64 c, .bool z, .int .i64 n]] w fun e w' => e = .returned (.tuple #[.string ⟨(Tx.toldTerm ⟨k, t, c, z, n⟩).toArray⟩, .int .i64 (if Te.right ⟨k, t, c, z, n⟩ then 0 else 3)]) ∧ Below w.heap.size w w' := by
  obtain ⟨W0, hW0⟩ : ∃ W0, W0 = w.alloc (Obj.cells #[.int .i64 k, .int .i64 t, .int .i64 c, .bool z, .int .i64 n] 25) := ⟨_, rfl⟩
  obtain ⟨l0, hb0⟩ := box_one (cs := [.int .i64 k, .int .i64 t, .int .i64 c, .bool z, .int .i64 n]) hW0
  have cr := tright_any k t c z n W0
  have ct := fun (W : World) (hb : Below W0.heap.size W0 W) (hr : Te.right ⟨k, t, c, z, n⟩ = true) => ttext_any k t c z n W hr h ((hP.below hb0 (Nat.le_refl _)).below hb (Nat.le_refl _))
  have hX : Te.right ⟨k, t, c, z, n⟩ = true → Tx.toldTerm ⟨k, t, c, z, n⟩ = Tx.termBytes ⟨k, t, c, z, n⟩ := fun h => if_pos h
  have hX0 : Te.right ⟨k, t, c, z, n⟩ = false → Tx.toldTerm ⟨k, t, c, z, n⟩ = [] := fun h => if_neg (by simp [h])
  generalize Te.right ⟨k, t, c, z, n⟩ = r at cr ct hX hX0 ⊢
  have HW := Lib.hid hW0
  have HL := Lib.hid l0
  have j0 : W0.cell? ⟨w.heap.size, 0, none⟩ = some (.int .i64 k) := l0.cell rfl
  have j1 : W0.cell? ⟨w.heap.size, 1, none⟩ = some (.int .i64 t) := l0.cell rfl
  have j2 : W0.cell? ⟨w.heap.size, 2, none⟩ = some (.int .i64 c) := l0.cell rfl
  have j3 : W0.cell? ⟨w.heap.size, 3, none⟩ = some (.bool z) := l0.cell rfl
  have j4 : W0.cell? ⟨w.heap.size, 4, none⟩ = some (.int .i64 n) := l0.cell rfl
  clear hW0 l0 h hP
  cases r
  · have hX1 := Lib.hid (hX0 rfl)
    clear hX hX0 ct
    go_enter Tryz.func4, Tryz.ntmps4
    go_upto_region 1 with (fail)
    rw [← HW.out]
    go_wp2_with fail
    refine cr.mono ?_
    rintro e w1 ⟨rfl, hb1⟩
    clear cr
    go_wp2_with fail
    exact bodyPost_ret (v := .tuple #[.string ⟨#[]⟩, .int .i64 3]) (by simp [results, Tryz.results4, go_sem]) rfl ⟨by rw [hX1.out], below_join hb0 hb1⟩
  · have hX1 := Lib.hid (hX rfl)
    have ct1 := fun W hb => ct W hb rfl
    clear hX hX0 ct
    go_enter Tryz.func4, Tryz.ntmps4
    go_upto_region 1 with (fail)
    rw [← HW.out]
    go_wp2_with fail
    refine cr.mono ?_
    rintro e w1 ⟨rfl, hb1⟩
    have ct2 := ct1 w1 hb1
    clear cr ct1 j0 j1 j2 j3 j4
    have l1 := HL.out.below hb1 HL.out.lt
    have j0 : w1.cell? ⟨w.heap.size, 0, none⟩ = some (.int .i64 k) := l1.cell rfl
    have j1 : w1.cell? ⟨w.heap.size, 1, none⟩ = some (.int .i64 t) := l1.cell rfl
    have j2 : w1.cell? ⟨w.heap.size, 2, none⟩ = some (.int .i64 c) := l1.cell rfl
    have j3 : w1.cell? ⟨w.heap.size, 3, none⟩ = some (.bool z) := l1.cell rfl
    have j4 : w1.cell? ⟨w.heap.size, 4, none⟩ = some (.int .i64 n) := l1.cell rfl
    go_wp2_with fail
    refine ct2.mono ?_
    rintro e w2 ⟨rfl, hb2⟩
    clear ct2
    go_wp2_with fail
    exact bodyPost_ret (v := .tuple #[.string ⟨(Tx.termBytes ⟨k, t, c, z, n⟩).toArray⟩, .int .i64 0]) (by simp [results, Tryz.results4, go_sem]) rfl ⟨by rw [hX1.out], below_join (below_join hb0 hb1) hb2⟩
set_option maxRecDepth 100000 in
theorem r8text_any (k t c : Int) (z : Bool) (n : Int) (w : World) (hr : Te.right ⟨k, t, c, z, n⟩ = true) (h : Tx.I64 n) :
    Calls Tryz.prog 11 #[.agg #[.int .i64 k, .int .i64 t, .int .i64 c, .bool z, .int .i64 n]] w fun e w' => e = .returned (.string ⟨(Tx.termBytes ⟨k, t, c, z, n⟩).toArray⟩) ∧ Below w.heap.size w w' := by
  obtain ⟨W0, hW0⟩ : ∃ W0, W0 = w.alloc (Obj.cells #[.int .i64 k, .int .i64 t, .int .i64 c, .bool z, .int .i64 n] 25) := ⟨_, rfl⟩
  obtain ⟨l0, hb0⟩ := box_one (cs := [.int .i64 k, .int .i64 t, .int .i64 c, .bool z, .int .i64 n]) hW0
  have HW := Lib.hid hW0
  by_cases hk : k = 1
  · subst hk
    rw [Tx.termBytes_col rfl]
    simp [Te.right, Te.below] at hr
    have ht : Tx.I64 t := ⟨by omega, by omega⟩
    have hc : Tx.I64 c := ⟨by omega, by omega⟩
    have n1 : ∀ d os, Calls Tryz.prog 21 #[.int .i64 t] (grow (redrawn W0 d) os) fun e w'' => e = .returned (.string ⟨(Lib.itoa t).toArray⟩) ∧ ∃ p : Regrown, w'' = grow (redrawn W0 p.d) p.os := in_class fun W hb => rwhole_any t W ht.1 ht.2
    have n2 : ∀ d os, Calls Tryz.prog 21 #[.int .i64 c] (grow (redrawn W0 d) os) fun e w'' => e = .returned (.string ⟨(Lib.itoa c).toArray⟩) ∧ ∃ p : Regrown, w'' = grow (redrawn W0 p.d) p.os := in_class fun W hb => rwhole_any c W hc.1 hc.2
    have l1 := itoa_le ht
    have l2 := itoa_le hc
    generalize Lib.itoa t = X at n1 l1 ⊢
    generalize Lib.itoa c = Y at n2 l2 ⊢
    have k0 : ∀ d os, (grow (redrawn W0 d) os).cell? ⟨w.heap.size, 0, none⟩ = some (.int .i64 1) := cell_regrown (l0.cell rfl)
    have k1 : ∀ d os, (grow (redrawn W0 d) os).cell? ⟨w.heap.size, 1, none⟩ = some (.int .i64 t) := cell_regrown (l0.cell rfl)
    have k2 : ∀ d os, (grow (redrawn W0 d) os).cell? ⟨w.heap.size, 2, none⟩ = some (.int .i64 c) := cell_regrown (l0.cell rfl)
    have j0 : W0.cell? ⟨w.heap.size, 0, none⟩ = some (.int .i64 1) := l0.cell rfl
    have g1 : ¬ 9223372036854775807 < X.length + 1 := by omega
    have g2 : ¬ 9223372036854775807 < X.length + 1 + Y.length := by omega
    clear hr ht hc l0 hW0 h
    go_enter Tryz.func11, Tryz.ntmps11
    go_upto_region 1 with (fail)
    rw [← HW.out]
    go_wp2_with fail
    refine wp_region_quiet_below (by kernel_rfl) (by kernel_rfl) ?_
    repeat (go_big_quiet_step (with_reducible first | exact n1 _ _ | exact n2 _ _))
    refine wpQuiet_nil ?_
    intro _ hw'
    obtain ⟨⟨dq, osq⟩, hw''⟩ := hw'
    subst hw''
    have hbz : Below w.heap.size w (grow (redrawn W0 dq) osq) := below_join hb0 (below_regrown _ _ _)
    clear k0 k1 k2 n1 n2 j0 hb0
    generalize grow (redrawn W0 dq) osq = wz at hbz ⊢
    go_wp2
    go_ret
    refine ⟨?_, hbz⟩
    rw [show (⟨#[46]⟩ : ByteArray) = ⟨[46].toArray⟩ from rfl, app_l, app_l]
    rfl
  · rw [Tx.termBytes_value hk]
    have cp := rprint_any z n W0 h.1 h.2
    have l1 := prt_le (b := z) h
    have e0 : (39 : UInt8) :: (if z = true then Va.nul else Lib.itoa n) = 39 :: prt z n := rfl
    rw [e0]
    generalize prt z n = X at cp l1 ⊢
    have j0 : W0.cell? ⟨w.heap.size, 0, none⟩ = some (.int .i64 k) := l0.cell rfl
    have j1 : W0.cell? ⟨w.heap.size, 3, none⟩ = some (.bool z) := l0.cell rfl
    have j2 : W0.cell? ⟨w.heap.size, 3 + 1, none⟩ = some (.int .i64 n) := l0.cell rfl
    have g1 : ¬ 9223372036854775807 < 1 + X.length := by omega
    clear hr l0 hW0 h e0
    go_enter Tryz.func11, Tryz.ntmps11
    go_upto_region 1 with (fail)
    rw [← HW.out]
    go_wp2_with fail
    refine cp.mono ?_
    rintro e w1 ⟨rfl, hb1⟩
    have hb := below_join hb0 hb1
    clear cp j0 j1 j2 hb0 hb1
    go_wp2
    go_ret
    refine ⟨?_, hb⟩
    rw [show (⟨#[39]⟩ : ByteArray) = ⟨[39].toArray⟩ from rfl, app_l]
    rfl
set_option maxRecDepth 100000 in
theorem r8term_any (k t c : Int) (z : Bool) (n : Int) (w : World) (h : Tx.I64 n) :
    Calls Tryz.prog 5 #[.agg #[.int .i64 k, .int .i64 t, .int .i64 c, .bool z, .int .i64 n]] w fun e w' => e = .returned (.tuple #[.string ⟨(Tx.toldTerm ⟨k, t, c, z, n⟩).toArray⟩, .int .i64 (if Te.right ⟨k, t, c, z, n⟩ then 0 else 3)]) ∧ Below w.heap.size w w' := by
  obtain ⟨W0, hW0⟩ : ∃ W0, W0 = w.alloc (Obj.cells #[.int .i64 k, .int .i64 t, .int .i64 c, .bool z, .int .i64 n] 25) := ⟨_, rfl⟩
  obtain ⟨l0, hb0⟩ := box_one (cs := [.int .i64 k, .int .i64 t, .int .i64 c, .bool z, .int .i64 n]) hW0
  have cr := r5right_any k t c z n W0
  have ct := fun (W : World) (hr : Te.right ⟨k, t, c, z, n⟩ = true) => r8text_any k t c z n W hr h
  have hX : Te.right ⟨k, t, c, z, n⟩ = true → Tx.toldTerm ⟨k, t, c, z, n⟩ = Tx.termBytes ⟨k, t, c, z, n⟩ := fun h => if_pos h
  have hX0 : Te.right ⟨k, t, c, z, n⟩ = false → Tx.toldTerm ⟨k, t, c, z, n⟩ = [] := fun h => if_neg (by simp [h])
  generalize Te.right ⟨k, t, c, z, n⟩ = r at cr ct hX hX0 ⊢
  have HW := Lib.hid hW0
  have HL := Lib.hid l0
  have j0 : W0.cell? ⟨w.heap.size, 0, none⟩ = some (.int .i64 k) := l0.cell rfl
  have j1 : W0.cell? ⟨w.heap.size, 1, none⟩ = some (.int .i64 t) := l0.cell rfl
  have j2 : W0.cell? ⟨w.heap.size, 2, none⟩ = some (.int .i64 c) := l0.cell rfl
  have j3 : W0.cell? ⟨w.heap.size, 3, none⟩ = some (.bool z) := l0.cell rfl
  have j4 : W0.cell? ⟨w.heap.size, 4, none⟩ = some (.int .i64 n) := l0.cell rfl
  clear hW0 l0 h
  cases r
  · have hX1 := Lib.hid (hX0 rfl)
    clear hX hX0 ct
    go_enter Tryz.func5, Tryz.ntmps5
    go_upto_region 1 with (fail)
    rw [← HW.out]
    go_wp2_with fail
    refine cr.mono ?_
    rintro e w1 ⟨rfl, hb1⟩
    clear cr
    go_wp2_with fail
    exact bodyPost_ret (v := .tuple #[.string ⟨#[]⟩, .int .i64 3]) (by simp [results, Tryz.results5, go_sem]) rfl ⟨by rw [hX1.out], below_join hb0 hb1⟩
  · have hX1 := Lib.hid (hX rfl)
    have ct1 := fun W => ct W rfl
    clear hX hX0 ct
    go_enter Tryz.func5, Tryz.ntmps5
    go_upto_region 1 with (fail)
    rw [← HW.out]
    go_wp2_with fail
    refine cr.mono ?_
    rintro e w1 ⟨rfl, hb1⟩
    have ct2 := ct1 w1
    clear cr ct1 j0 j1 j2 j3 j4
    have l1 := HL.out.below hb1 HL.out.lt
    have j0 : w1.cell? ⟨w.heap.size, 0, none⟩ = some (.int .i64 k) := l1.cell rfl
    have j1 : w1.cell? ⟨w.heap.size, 1, none⟩ = some (.int .i64 t) := l1.cell rfl
    have j2 : w1.cell? ⟨w.heap.size, 2, none⟩ = some (.int .i64 c) := l1.cell rfl
    have j3 : w1.cell? ⟨w.heap.size, 3, none⟩ = some (.bool z) := l1.cell rfl
    have j4 : w1.cell? ⟨w.heap.size, 4, none⟩ = some (.int .i64 n) := l1.cell rfl
    go_wp2_with fail
    refine ct2.mono ?_
    rintro e w2 ⟨rfl, hb2⟩
    clear ct2
    go_wp2_with fail
    exact bodyPost_ret (v := .tuple #[.string ⟨(Tx.termBytes ⟨k, t, c, z, n⟩).toArray⟩, .int .i64 0]) (by simp [results, Tryz.results5, go_sem]) rfl ⟨by rw [hX1.out], below_join (below_join hb0 hb1) hb2⟩
end Go.Proofs.YtaodobjekpacoaaGreatDoor
