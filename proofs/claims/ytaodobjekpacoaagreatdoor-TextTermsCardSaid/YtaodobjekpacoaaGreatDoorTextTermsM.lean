/-
  THE LAW TextTerms, walked.
-/
import Derived.Test.YtaodobjekpacoaaGreatDoorTxwM
import Derived.Test.YtaodobjekpacoaaGreatDoorTxvM
import Derived.Test.YtaodobjekpacoaaGreatDoorTxxM
import Derived.Test.YtaodobjekpacoaaGreatDoorGPred
namespace Go.Proofs.YtaodobjekpacoaaGreatDoor
open Go.RowKit Go.Sort
set_option maxHeartbeats 6400000
/-- the predicate that asks whether a term is null -/
def Tx.isNul (x : Tm) : Pd := .mk ⟨3, 0, 0, x, ⟨0, 0, 0, false, 0⟩⟩ []
theorem Tx.isNul_right {x : Tm} (h : Te.right x = true) : Pr.rightAt (Tx.isNul x) 1 = true := by
  unfold Tx.isNul
  rw [Pr.rightAt, Pr.rightAts]
  have h1 : Te.right x = true := h
  simp [Pr.head, Pr.tail, h1, show Te.zero ⟨0, 0, 0, false, 0⟩ = true from by decide]
theorem zero_i64 : Tx.I64 0 := ⟨by decide, by decide⟩
theorem Tx.isNul_bytes (x : Tm) : Tx.bytes (Tx.isNul x) = [226, 136, 133] ++ Tx.termBytes x := by
  unfold Tx.isNul
  rw [Tx.bytes_null _ _ rfl, enc_null]

set_option maxRecDepth 100000 in
theorem textterms_any (k t c : Int) (z : Bool) (n : Int) (w : World) (h : Tx.I64 n) (hE : ErrR w) (hP : Pows w) :
    Calls Tryz.prog 3 #[.agg #[.int .i64 k, .int .i64 t, .int .i64 c, .bool z, .int .i64 n]] w fun e w' => e = .returned (.bool true) ∧ Below w.heap.size w w' := by
  obtain ⟨W0, hW0⟩ : ∃ W0, W0 = w.alloc (Obj.cells #[.int .i64 k, .int .i64 t, .int .i64 c, .bool z, .int .i64 n] 25) := ⟨_, rfl⟩
  obtain ⟨l0, hb0⟩ := box_one (cs := [.int .i64 k, .int .i64 t, .int .i64 c, .bool z, .int .i64 n]) hW0
  have ct := tterm_any k t c z n W0 h (hP.below hb0 (Nat.le_refl _))
  have cu := fun W => r8term_any k t c z n W h
  have cr := fun W => r5right_any k t c z n W
  have htl : Te.right ⟨k, t, c, z, n⟩ = true → Tx.toldTerm ⟨k, t, c, z, n⟩ = Tx.termBytes ⟨k, t, c, z, n⟩ := fun h => if_pos h
  have ht0 : Te.right ⟨k, t, c, z, n⟩ = false → Tx.toldTerm ⟨k, t, c, z, n⟩ = [] := fun h => if_neg (by simp [h])
  have HW := Lib.hid hW0
  have HL := Lib.hid l0
  have HE := Lib.hid hE
  have HP := Lib.hid hP
  have HN := Lib.hid h
  have j0 : W0.cell? ⟨w.heap.size, 0, none⟩ = some (.int .i64 k) := l0.cell rfl
  have j1 : W0.cell? ⟨w.heap.size, 1, none⟩ = some (.int .i64 t) := l0.cell rfl
  have j2 : W0.cell? ⟨w.heap.size, 2, none⟩ = some (.int .i64 c) := l0.cell rfl
  have j3 : W0.cell? ⟨w.heap.size, 3, none⟩ = some (.bool z) := l0.cell rfl
  have j4 : W0.cell? ⟨w.heap.size, 4, none⟩ = some (.int .i64 n) := l0.cell rfl
  clear hW0 l0 h hE hP
  obtain ⟨r, hr⟩ : ∃ r, r = Te.right ⟨k, t, c, z, n⟩ := ⟨_, rfl⟩
  rw [← hr] at ct htl ht0
  simp only [← hr] at cu cr
  obtain ⟨bs, hbs⟩ : ∃ bs, bs = Tx.toldTerm ⟨k, t, c, z, n⟩ := ⟨_, rfl⟩
  rw [← hbs] at ct htl ht0
  simp only [← hbs] at cu
  have HR := Lib.hid hr
  clear hr hbs
  cases r
  · have hbn := ht0 rfl
    subst hbn
    clear htl ht0
    simp only [Bool.false_eq_true, if_false] at ct cu
    go_enter Tryz.func3, Tryz.ntmps3
    go_upto_region 1 with (fail)
    rw [← HW.out]
    go_wp2_with fail
    refine ct.mono ?_
    rintro e w1 ⟨rfl, hb1⟩
    clear ct j0 j1 j2 j3 j4
    have l1 := HL.out.below hb1 HL.out.lt
    have j0 : w1.cell? ⟨w.heap.size, 0, none⟩ = some (.int .i64 k) := l1.cell rfl
    have j1 : w1.cell? ⟨w.heap.size, 1, none⟩ = some (.int .i64 t) := l1.cell rfl
    have j2 : w1.cell? ⟨w.heap.size, 2, none⟩ = some (.int .i64 c) := l1.cell rfl
    have j3 : w1.cell? ⟨w.heap.size, 3, none⟩ = some (.bool z) := l1.cell rfl
    have j4 : w1.cell? ⟨w.heap.size, 4, none⟩ = some (.int .i64 n) := l1.cell rfl
    go_wp2_with fail
    refine (cu w1).mono ?_
    rintro e w2 ⟨rfl, hb2⟩
    have hb12 := below_join hb1 hb2
    clear cu l1 j0 j1 j2 j3 j4
    have l2 := HL.out.below hb12 HL.out.lt
    have j0 : w2.cell? ⟨w.heap.size, 0, none⟩ = some (.int .i64 k) := l2.cell rfl
    have j1 : w2.cell? ⟨w.heap.size, 1, none⟩ = some (.int .i64 t) := l2.cell rfl
    have j2 : w2.cell? ⟨w.heap.size, 2, none⟩ = some (.int .i64 c) := l2.cell rfl
    have j3 : w2.cell? ⟨w.heap.size, 3, none⟩ = some (.bool z) := l2.cell rfl
    have j4 : w2.cell? ⟨w.heap.size, 4, none⟩ = some (.int .i64 n) := l2.cell rfl
    go_wp2_with fail
    refine (cr w2).mono ?_
    rintro e w3 ⟨rfl, hb3⟩
    have hbw3 := below_join hb0 (below_join hb12 hb3)
    clear cr l2 j0 j1 j2 j3 j4
    have ca := awake8_of rpred_any w3 (HE.out.below hbw3 (Nat.le_refl _)) (HP.out.below hbw3 (Nat.le_refl _))
    go_wp2_with (fail)
    refine ca.mono ?_
    rintro E wz ⟨rfl, hbz⟩
    go_wp2_with (fail)
    go_ret
    exact ⟨rfl, below_join hbw3 hbz⟩
  · have hbt := htl rfl
    have hrr : Te.right ⟨k, t, c, z, n⟩ = true := HR.out.symm
    have hle := term_bytes_le hrr HN.out
    rw [← hbt] at hle
    have hby := Tx.isNul_bytes ⟨k, t, c, z, n⟩
    rw [← hbt] at hby
    have hbk := Tx.bytes_back (p := Tx.isNul ⟨k, t, c, z, n⟩) (Tx.isNul_right hrr) ⟨HN.out, zero_i64, trivial⟩
    rw [hby] at hbk
    have HBK := Lib.hid hbk
    have g1 : ¬ 9223372036854775807 < 3 + bs.length := by omega
    have hl3 : ([226, 136, 133] ++ bs).length ≤ 1000000 := by rw [List.length_append]; simp only [List.length_cons, List.length_nil]; omega
    have HL3 := Lib.hid hl3
    have hap : (⟨#[226, 136, 133]⟩ : ByteArray) ++ ⟨bs.toArray⟩ = ⟨([226, 136, 133] ++ bs).toArray⟩ := by rw [show (⟨#[226, 136, 133]⟩ : ByteArray) = ⟨[226, 136, 133].toArray⟩ from rfl, app_l]
    have HAP := Lib.hid hap
    have HBT := Lib.hid hbt
    clear htl ht0 hbt hby hbk hap hrr hl3
    simp only [if_true] at ct cu
    go_enter Tryz.func3, Tryz.ntmps3
    go_upto_region 1 with (fail)
    rw [← HW.out]
    go_wp2_with fail
    refine ct.mono ?_
    rintro e w1 ⟨rfl, hb1⟩
    clear ct j0 j1 j2 j3 j4
    have l1 := HL.out.below hb1 HL.out.lt
    have j0 : w1.cell? ⟨w.heap.size, 0, none⟩ = some (.int .i64 k) := l1.cell rfl
    have j1 : w1.cell? ⟨w.heap.size, 1, none⟩ = some (.int .i64 t) := l1.cell rfl
    have j2 : w1.cell? ⟨w.heap.size, 2, none⟩ = some (.int .i64 c) := l1.cell rfl
    have j3 : w1.cell? ⟨w.heap.size, 3, none⟩ = some (.bool z) := l1.cell rfl
    have j4 : w1.cell? ⟨w.heap.size, 4, none⟩ = some (.int .i64 n) := l1.cell rfl
    go_wp2_with fail
    refine (cu w1).mono ?_
    rintro e w2 ⟨rfl, hb2⟩
    have hb12 := below_join hb1 hb2
    clear cu l1 j0 j1 j2 j3 j4
    have l2 := HL.out.below hb12 HL.out.lt
    have j0 : w2.cell? ⟨w.heap.size, 0, none⟩ = some (.int .i64 k) := l2.cell rfl
    have j1 : w2.cell? ⟨w.heap.size, 1, none⟩ = some (.int .i64 t) := l2.cell rfl
    have j2 : w2.cell? ⟨w.heap.size, 2, none⟩ = some (.int .i64 c) := l2.cell rfl
    have j3 : w2.cell? ⟨w.heap.size, 3, none⟩ = some (.bool z) := l2.cell rfl
    have j4 : w2.cell? ⟨w.heap.size, 4, none⟩ = some (.int .i64 n) := l2.cell rfl
    go_wp2_with fail
    refine (cr w2).mono ?_
    rintro e w3 ⟨rfl, hb3⟩
    have hb13 := below_join hb12 hb3
    have hbw3 := below_join hb0 hb13
    clear cr l2 j0 j1 j2 j3 j4 hb12 hb3
    have cb := tparse_any ([226, 136, 133] ++ bs) w3 HL3.out (HE.out.below hbw3 (Nat.le_refl _))
    rw [HBK.out, ← HAP.out] at cb
    go_wp2_with fail
    refine cb.mono ?_
    rintro e w4 ⟨f, A, m, kk, ps, rfl, hx, hin, hb4⟩
    have hx1 : f = ⟨3, 0, 0, ⟨k, t, c, z, n⟩, ⟨0, 0, 0, false, 0⟩⟩ ∧ ps = [] := by
      have := hx.out
      unfold Tx.isNul at this
      simp only [Pd.mk.injEq] at this
      exact ⟨this.1.symm, this.2.symm⟩
    obtain ⟨rfl, rfl⟩ := hx1
    obtain ⟨o2, ho2⟩ : ∃ o2, o2 = Obj.cells #[.int .i64 3, .int .i64 0, .int .i64 0, .int .i64 k, .int .i64 t, .int .i64 c, .bool z, .int .i64 n, .int .i64 0, .int .i64 0, .int .i64 0, .bool false, .int .i64 0, .slice A m kk] 35 := ⟨_, rfl⟩
    obtain ⟨w5, hw5⟩ : ∃ w5, w5 = w4.alloc o2 := ⟨_, rfl⟩
    have l5 : Lies w5 w4.heap.size 35 [.int .i64 3, .int .i64 0, .int .i64 0, .int .i64 k, .int .i64 t, .int .i64 c, .bool z, .int .i64 n, .int .i64 0, .int .i64 0, .int .i64 0, .bool false, .int .i64 0, .slice A m kk] := by rw [hw5, ho2]; exact Lies.new _ _ _
    have hb5 : Below w4.heap.size w4 w5 := by rw [hw5]; exact below_new _ _
    have hb15 := below_join hb13 (below_join hb4 hb5)
    have hbw5 := below_join hb0 hb15
    have lt5 := HL.out.below hb15 HL.out.lt
    have HO2 := Lib.hid ho2
    have HW5 := Lib.hid hw5
    clear cb hx hin ho2 hw5 hb4 hb5 hb13
    go_upto_region 8 with (fail)
    rw [← HO2.out, ← HW5.out]
    have j0 : w5.cell? ⟨w.heap.size, 0, none⟩ = some (.int .i64 k) := lt5.cell rfl
    have j1 : w5.cell? ⟨w.heap.size, 1, none⟩ = some (.int .i64 t) := lt5.cell rfl
    have j2 : w5.cell? ⟨w.heap.size, 2, none⟩ = some (.int .i64 c) := lt5.cell rfl
    have j3 : w5.cell? ⟨w.heap.size, 3, none⟩ = some (.bool z) := lt5.cell rfl
    have j4 : w5.cell? ⟨w.heap.size, 4, none⟩ = some (.int .i64 n) := lt5.cell rfl
    have y0 : w5.cell? ⟨w4.heap.size, 3, none⟩ = some (.int .i64 k) := l5.cell (i := 3) rfl
    have y1 : w5.cell? ⟨w4.heap.size, 3 + 1, none⟩ = some (.int .i64 t) := l5.cell (i := 4) rfl
    have y2 : w5.cell? ⟨w4.heap.size, 3 + 2, none⟩ = some (.int .i64 c) := l5.cell (i := 5) rfl
    have y3 : w5.cell? ⟨w4.heap.size, 3 + 3, none⟩ = some (.bool z) := l5.cell (i := 6) rfl
    have y4 : w5.cell? ⟨w4.heap.size, 3 + 4, none⟩ = some (.int .i64 n) := l5.cell (i := 7) rfl
    have hteq := fun W => term_eq k t c z n k t c z n W
    have hself : Te.same ⟨k, t, c, z, n⟩ ⟨k, t, c, z, n⟩ = true := by simp [Te.same]
    rw [hself] at hteq
    clear l5 lt5 hself
    have ca := awake8_of rpred_any w5 (HE.out.below hbw5 (Nat.le_refl _)) (HP.out.below hbw5 (Nat.le_refl _))
    go_wp2_with (fail)
    refine ca.mono ?_
    rintro E wz ⟨rfl, hbz⟩
    go_wp2_with (fail)
    go_ret
    exact ⟨rfl, below_join hbw5 hbz⟩
end Go.Proofs.YtaodobjekpacoaaGreatDoor
