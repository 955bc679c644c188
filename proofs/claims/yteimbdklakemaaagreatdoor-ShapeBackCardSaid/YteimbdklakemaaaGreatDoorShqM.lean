/-
  A PREDICATE OUT OF RUNES: the contract of package text's Take, from any rune on.
-/
import Derived.Test.YteimbdklakemaaaGreatDoorTxoM
import Derived.Test.YteimbdklakemaaaGreatDoorTxpM
import Derived.Test.YteimbdklakemaaaGreatDoorTxqM
import Derived.RegionTactic
namespace Go.Proofs.YteimbdklakemaaaGreatDoor
open Go.RowKit Go.Sort
set_option maxHeartbeats 6400000

namespace Tx
def takeN (l : List Int) (i : Nat) : Got Pd := if (take l 4 i).e = 0 then take l 4 i else ⟨zp, (take l 4 i).i, (take l 4 i).e⟩
theorem takeN_eq {l : List Int} {i0 : Nat} {p : Pd} {i : Nat} {e : Int} (h : Step (take l 4 i0) i0 0 p i e) : takeN l i0 = if e = 0 then ⟨p, i, 0⟩ else ⟨zp, i, e⟩ := by
  obtain ⟨rfl, rfl, hx⟩ := h.2 rfl
  unfold takeN
  by_cases he : (take l 4 i0).e = 0
  · rw [if_pos he, if_pos he, hx he]
    generalize take l 4 i0 = g at he
    obtain ⟨x, i, e⟩ := g
    cases he
    rfl
  · rw [if_neg he, if_neg he]
end Tx
theorem spred_depth {w0 : World} {R b c : Nat} {l : List Int} (hs : Src w0 R b c l) : PredAt w0 R b c l 4 :=
  rpred_succ hs 3 (by decide) (rpred_succ hs 2 (by decide) (rpred_succ hs 1 (by decide) (rpred_succ hs 0 (by decide) (rpred_0 w0 R b c l))))
set_option maxRecDepth 100000 in
theorem stake_of (hpred : ∀ {w0 : World} {R b c : Nat} {l : List Int}, Src w0 R b c l → PredAt w0 R b c l 4) (b c : Nat) (l : List Int) (i0 : Nat) (hi0 : i0 ≤ l.length) (w : World) (hb : b < w.heap.size) (hc : l.length ≤ c) (hcM : c ≤ 9223372036854775807) (hcell : ∀ (j : Nat) (u : Int), l[j]? = some u → w.cell? ⟨b, j, none⟩ = some (.int .i32 u)) (hlen : l.length ≤ 1000000) (hE : ErrR w) :
    Calls Tryz.prog 58 #[.slice (some ⟨b, 0, none⟩) l.length c, .int .i64 i0] w (GotP w (Tx.takeN l i0)) := by
  obtain ⟨o0, ho0⟩ : ∃ o0, o0 = Obj.cells #[.int .i64 0, .int .i64 0, .int .i64 0, .int .i64 0, .int .i64 0, .int .i64 0, .bool false, .int .i64 0, .int .i64 0, .int .i64 0, .int .i64 0, .bool false, .int .i64 0, .slice none 0 0] 43 := ⟨_, rfl⟩
  obtain ⟨o1, ho1⟩ : ∃ o1, o1 = Obj.cells #[.slice (some ⟨b, 0, none⟩) l.length c, .int .i64 i0, .int .i64 0] 112 := ⟨_, rfl⟩
  have hba : Below w.heap.size w (w.alloc o0) := below_new _ _
  have hs : Src (w.alloc o0) (w.alloc o0).heap.size b c l := ⟨Nat.le_refl _, Nat.lt_of_lt_of_le hb hba.size, hc, hcM, fun j u hj => (hba.cell (p := ⟨b, j, none⟩) hb).trans (hcell j u hj), hlen, hE.below hba (Nat.le_refl _)⟩
  rw [World.size_alloc] at hs
  have l0 : Lies (w.alloc o0) w.heap.size 43 zeroPred := by rw [ho0]; exact Lies.new _ _ _
  have h1 : Rd (w.alloc o0) ((w.alloc o0).alloc o1) (w.heap.size + 1) b c l.length i0 0 := by
    refine ⟨?_, ?_⟩
    · have := Lies.new (w.alloc o0) 112 [.slice (some ⟨b, 0, none⟩) l.length c, .int .i64 (i0 : Int), .int .i64 0]
      rw [World.size_alloc] at this
      rw [ho1]; exact this
    · have := below_new (w.alloc o0) o1
      rwa [World.size_alloc] at this
  have l1 := l0.alloc o1
  have cp := hpred hs i0 0 _ h1 hi0
  have hbw : Below w.heap.size w ((w.alloc o0).alloc o1) := hba.alloc hba.size _
  have HO := Lib.hid ho0
  have HO1 := Lib.hid ho1
  have hz2 : ((w.alloc o0).alloc o1).heap.size = w.heap.size + 2 := by rw [World.size_alloc, World.size_alloc]
  obtain ⟨w2, hw2⟩ : ∃ w2, w2 = (w.alloc o0).alloc o1 := ⟨_, rfl⟩
  have HW2 := Lib.hid hw2
  rw [← hw2] at cp l1 hbw hz2
  have hlen0 : ¬ ((l.length : Int) < (i0 : Int)) := by omega
  have hneg0 : ¬ ((i0 : Int) < 0) := by omega
  have e5 : (5 : Int) - ((4 : Nat) : Int) = 1 := by decide
  rw [e5] at cp
  clear ho0 ho1 hw2 h1 l0 hba hs hcell hE hb e5
  go_enter Tryz.func58, Tryz.ntmps58
  go_upto_region 4 with (fail)
  rw [← HO.out, ← HO1.out, ← HW2.out]
  go_wp2_with (fail)
  refine cp.mono ?_
  rintro E w3 ⟨f, A, m, kk, ps, i', e', rfl, hst, hps, h3, hg3⟩
  have l3 := hg3.lies l1 (by omega)
  have hbg := hbw.trans (hg3.below (B := w.heap.size) (by omega) (by omega))
  have HT := Lib.hid (Tx.takeN_eq hst.out)
  clear cp hg3 hst l1 hbw
  obtain ⟨o8, ho8⟩ : ∃ o8, o8 = Obj.cells #[.int .i64 f.k, .int .i64 f.u, .int .i64 f.o, .int .i64 f.a.k, .int .i64 f.a.t, .int .i64 f.a.c, .bool f.a.z, .int .i64 f.a.n, .int .i64 f.b.k, .int .i64 f.b.t, .int .i64 f.b.c, .bool f.b.z, .int .i64 f.b.n, .slice A m kk] 43 := ⟨_, rfl⟩
  have l8 : Lies (w3.alloc o8) w3.heap.size 43 [.int .i64 f.k, .int .i64 f.u, .int .i64 f.o, .int .i64 f.a.k, .int .i64 f.a.t, .int .i64 f.a.c, .bool f.a.z, .int .i64 f.a.n, .int .i64 f.b.k, .int .i64 f.b.t, .int .i64 f.b.c, .bool f.b.z, .int .i64 f.b.n, .slice A m kk] := by rw [ho8]; exact Lies.new _ _ _
  have h4 := h3.alloc o8
  have l4 := l3.alloc o8
  have hb4 := hbg.alloc hbg.size o8
  have hz3 : w.heap.size + 2 ≤ w3.heap.size := by have := h3.lt; omega
  have hin4 : Hid (e' = 0 → PsIn (w.heap.size + 2) 4 (w3.alloc o8) (.slice A m kk) ps) := Lib.hid fun h0 => by
    have := hps.out h0
    rw [hz2] at this
    exact this.below (below_new _ _)
  have HO8 := Lib.hid ho8
  obtain ⟨w4, hw4⟩ : ∃ w4, w4 = w3.alloc o8 := ⟨_, rfl⟩
  have HW4 := Lib.hid hw4
  rw [← hw4] at l8 h4 l4 hb4 hin4
  clear h3 l3 hbg hps hw4 ho8
  go_upto_region 5 with (fail)
  rw [← HO8.out, ← HW4.out]
  have x1 := h4.lies.cell (i := 1) rfl
  have x2 := h4.lies.cell (i := 2) rfl
  have q0 := l8.cell (i := 0) rfl
  have q1 := l8.cell (i := 1) rfl
  have q2 := l8.cell (i := 2) rfl
  have q3 := l8.cell (i := 3) rfl
  have q4 := l8.cell (i := 4) rfl
  have q5 := l8.cell (i := 5) rfl
  have q6 := l8.cell (i := 6) rfl
  have q7 := l8.cell (i := 7) rfl
  have q8 := l8.cell (i := 8) rfl
  have q9 := l8.cell (i := 9) rfl
  have q10 := l8.cell (i := 10) rfl
  have q11 := l8.cell (i := 11) rfl
  have q12 := l8.cell (i := 12) rfl
  have q13 := l8.cell (i := 13) rfl
  have y0 := l4.cell (i := 0) rfl
  have f0 := l4.free 0
  have y1 := l4.cell (i := 1) rfl
  have f1 := l4.free 1
  have y2 := l4.cell (i := 2) rfl
  have f2 := l4.free 2
  have y3 := l4.cell (i := 3) rfl
  have f3 := l4.free 3
  have y4 := l4.cell (i := 4) rfl
  have f4 := l4.free 4
  have y5 := l4.cell (i := 5) rfl
  have f5 := l4.free 5
  have y6 := l4.cell (i := 6) rfl
  have f6 := l4.free 6
  have y7 := l4.cell (i := 7) rfl
  have f7 := l4.free 7
  have y8 := l4.cell (i := 8) rfl
  have f8 := l4.free 8
  have y9 := l4.cell (i := 9) rfl
  have f9 := l4.free 9
  have y10 := l4.cell (i := 10) rfl
  have f10 := l4.free 10
  have y11 := l4.cell (i := 11) rfl
  have f11 := l4.free 11
  have y12 := l4.cell (i := 12) rfl
  have f12 := l4.free 12
  have y13 := l4.cell (i := 13) rfl
  have f13 := l4.free 13
  by_cases he : e' = 0
  · subst he
    have HIN := Lib.hid (hin4.out rfl)
    have HT2 := Lib.hid (show Tx.takeN l i0 = ⟨.mk f ps, i', 0⟩ by rw [HT.out, if_pos rfl])
    have e1 : ((0 : Int) != 0) = false := by decide
    have LF : Lies _ w.heap.size _ [.int .i64 f.k, .int .i64 f.u, .int .i64 f.o, .int .i64 f.a.k, .int .i64 f.a.t, .int .i64 f.a.c, .bool f.a.z, .int .i64 f.a.n, .int .i64 f.b.k, .int .i64 f.b.t, .int .i64 f.b.c, .bool f.b.z, .int .i64 f.b.n, .slice A m kk] := ((((((((((((((l4.set 0 (.int .i64 f.k)).set 1 (.int .i64 f.u)).set 2 (.int .i64 f.o)).set 3 (.int .i64 f.a.k)).set 4 (.int .i64 f.a.t)).set 5 (.int .i64 f.a.c)).set 6 (.bool f.a.z)).set 7 (.int .i64 f.a.n)).set 8 (.int .i64 f.b.k)).set 9 (.int .i64 f.b.t)).set 10 (.int .i64 f.b.c)).set 11 (.bool f.b.z)).set 12 (.int .i64 f.b.n)).set 13 (.slice A m kk))
    have k0 := LF.cell (i := 0) rfl
    have k1 := LF.cell (i := 1) rfl
    have k2 := LF.cell (i := 2) rfl
    have k3 := LF.cell (i := 3) rfl
    have k4 := LF.cell (i := 4) rfl
    have k5 := LF.cell (i := 5) rfl
    have k6 := LF.cell (i := 6) rfl
    have k7 := LF.cell (i := 7) rfl
    have k8 := LF.cell (i := 8) rfl
    have k9 := LF.cell (i := 9) rfl
    have k10 := LF.cell (i := 10) rfl
    have k11 := LF.cell (i := 11) rfl
    have k12 := LF.cell (i := 12) rfl
    have k13 := LF.cell (i := 13) rfl
    have HBF := Lib.hid (((((((((((((((hb4.setCell (p := ⟨w.heap.size, 0, none⟩) (Nat.le_refl _) (.int .i64 f.k)).setCell (p := ⟨w.heap.size, 1, none⟩) (Nat.le_refl _) (.int .i64 f.u)).setCell (p := ⟨w.heap.size, 2, none⟩) (Nat.le_refl _) (.int .i64 f.o)).setCell (p := ⟨w.heap.size, 3, none⟩) (Nat.le_refl _) (.int .i64 f.a.k)).setCell (p := ⟨w.heap.size, 4, none⟩) (Nat.le_refl _) (.int .i64 f.a.t)).setCell (p := ⟨w.heap.size, 5, none⟩) (Nat.le_refl _) (.int .i64 f.a.c)).setCell (p := ⟨w.heap.size, 6, none⟩) (Nat.le_refl _) (.bool f.a.z)).setCell (p := ⟨w.heap.size, 7, none⟩) (Nat.le_refl _) (.int .i64 f.a.n)).setCell (p := ⟨w.heap.size, 8, none⟩) (Nat.le_refl _) (.int .i64 f.b.k)).setCell (p := ⟨w.heap.size, 9, none⟩) (Nat.le_refl _) (.int .i64 f.b.t)).setCell (p := ⟨w.heap.size, 10, none⟩) (Nat.le_refl _) (.int .i64 f.b.c)).setCell (p := ⟨w.heap.size, 11, none⟩) (Nat.le_refl _) (.bool f.b.z)).setCell (p := ⟨w.heap.size, 12, none⟩) (Nat.le_refl _) (.int .i64 f.b.n)).setCell (p := ⟨w.heap.size, 13, none⟩) (Nat.le_refl _) (.slice A m kk))).drew
    have HIF := Lib.hid (((((((((((((((HIN.out.setCell (a := ⟨w.heap.size, 0, none⟩) (by show w.heap.size < w.heap.size + 2; omega) (.int .i64 f.k)).setCell (a := ⟨w.heap.size, 1, none⟩) (by show w.heap.size < w.heap.size + 2; omega) (.int .i64 f.u)).setCell (a := ⟨w.heap.size, 2, none⟩) (by show w.heap.size < w.heap.size + 2; omega) (.int .i64 f.o)).setCell (a := ⟨w.heap.size, 3, none⟩) (by show w.heap.size < w.heap.size + 2; omega) (.int .i64 f.a.k)).setCell (a := ⟨w.heap.size, 4, none⟩) (by show w.heap.size < w.heap.size + 2; omega) (.int .i64 f.a.t)).setCell (a := ⟨w.heap.size, 5, none⟩) (by show w.heap.size < w.heap.size + 2; omega) (.int .i64 f.a.c)).setCell (a := ⟨w.heap.size, 6, none⟩) (by show w.heap.size < w.heap.size + 2; omega) (.bool f.a.z)).setCell (a := ⟨w.heap.size, 7, none⟩) (by show w.heap.size < w.heap.size + 2; omega) (.int .i64 f.a.n)).setCell (a := ⟨w.heap.size, 8, none⟩) (by show w.heap.size < w.heap.size + 2; omega) (.int .i64 f.b.k)).setCell (a := ⟨w.heap.size, 9, none⟩) (by show w.heap.size < w.heap.size + 2; omega) (.int .i64 f.b.t)).setCell (a := ⟨w.heap.size, 10, none⟩) (by show w.heap.size < w.heap.size + 2; omega) (.int .i64 f.b.c)).setCell (a := ⟨w.heap.size, 11, none⟩) (by show w.heap.size < w.heap.size + 2; omega) (.bool f.b.z)).setCell (a := ⟨w.heap.size, 12, none⟩) (by show w.heap.size < w.heap.size + 2; omega) (.int .i64 f.b.n)).setCell (a := ⟨w.heap.size, 13, none⟩) (by show w.heap.size < w.heap.size + 2; omega) (.slice A m kk))).drew
    clear LF
    clear hin4 HT l8 l4 h4 hb4
    go_wp2_with (fail)
    go_region
    all_goals
      go_wp2_with (fail)
      exact bodyPost_ret (v := .tuple #[.agg #[.int .i64 f.k, .int .i64 f.u, .int .i64 f.o, .int .i64 f.a.k, .int .i64 f.a.t, .int .i64 f.a.c, .bool f.a.z, .int .i64 f.a.n, .int .i64 f.b.k, .int .i64 f.b.t, .int .i64 f.b.c, .bool f.b.z, .int .i64 f.b.n, .slice A m kk], .int .i64 i', .int .i64 0]) (by simp [results, Tryz.results58, go_sem, k0, k1, k2, k3, k4, k5, k6, k7, k8, k9, k10, k11, k12, k13]) rfl ⟨f, A, m, kk, ps, by rw [HT2.out], Lib.hid (by rw [HT2.out]), Lib.hid (HIF.out.low (by omega)), HBF.out⟩
  · have HT2 := Lib.hid (show Tx.takeN l i0 = ⟨Tx.zp, i', e'⟩ by rw [HT.out, if_neg he])
    have e1 : (e' != 0) = true := by simp [he]
    have LF : Lies _ w.heap.size _ [.int .i64 0, .int .i64 0, .int .i64 0, .int .i64 0, .int .i64 0, .int .i64 0, .bool false, .int .i64 0, .int .i64 0, .int .i64 0, .int .i64 0, .bool false, .int .i64 0, .slice none 0 0] := ((((((((((((((l4.set 0 (.int .i64 0)).set 1 (.int .i64 0)).set 2 (.int .i64 0)).set 3 (.int .i64 0)).set 4 (.int .i64 0)).set 5 (.int .i64 0)).set 6 (.bool false)).set 7 (.int .i64 0)).set 8 (.int .i64 0)).set 9 (.int .i64 0)).set 10 (.int .i64 0)).set 11 (.bool false)).set 12 (.int .i64 0)).set 13 (.slice none 0 0))
    have k0 := LF.cell (i := 0) rfl
    have k1 := LF.cell (i := 1) rfl
    have k2 := LF.cell (i := 2) rfl
    have k3 := LF.cell (i := 3) rfl
    have k4 := LF.cell (i := 4) rfl
    have k5 := LF.cell (i := 5) rfl
    have k6 := LF.cell (i := 6) rfl
    have k7 := LF.cell (i := 7) rfl
    have k8 := LF.cell (i := 8) rfl
    have k9 := LF.cell (i := 9) rfl
    have k10 := LF.cell (i := 10) rfl
    have k11 := LF.cell (i := 11) rfl
    have k12 := LF.cell (i := 12) rfl
    have k13 := LF.cell (i := 13) rfl
    have HBF := Lib.hid (((((((((((((((hb4.setCell (p := ⟨w.heap.size, 0, none⟩) (Nat.le_refl _) (.int .i64 0)).setCell (p := ⟨w.heap.size, 1, none⟩) (Nat.le_refl _) (.int .i64 0)).setCell (p := ⟨w.heap.size, 2, none⟩) (Nat.le_refl _) (.int .i64 0)).setCell (p := ⟨w.heap.size, 3, none⟩) (Nat.le_refl _) (.int .i64 0)).setCell (p := ⟨w.heap.size, 4, none⟩) (Nat.le_refl _) (.int .i64 0)).setCell (p := ⟨w.heap.size, 5, none⟩) (Nat.le_refl _) (.int .i64 0)).setCell (p := ⟨w.heap.size, 6, none⟩) (Nat.le_refl _) (.bool false)).setCell (p := ⟨w.heap.size, 7, none⟩) (Nat.le_refl _) (.int .i64 0)).setCell (p := ⟨w.heap.size, 8, none⟩) (Nat.le_refl _) (.int .i64 0)).setCell (p := ⟨w.heap.size, 9, none⟩) (Nat.le_refl _) (.int .i64 0)).setCell (p := ⟨w.heap.size, 10, none⟩) (Nat.le_refl _) (.int .i64 0)).setCell (p := ⟨w.heap.size, 11, none⟩) (Nat.le_refl _) (.bool false)).setCell (p := ⟨w.heap.size, 12, none⟩) (Nat.le_refl _) (.int .i64 0)).setCell (p := ⟨w.heap.size, 13, none⟩) (Nat.le_refl _) (.slice none 0 0))).drew
    clear LF
    clear hin4 HT l8 l4 h4 hb4 he
    go_wp2_with (fail)
    go_region
    all_goals
      go_wp2_with (fail)
      exact bodyPost_ret (v := .tuple #[.agg #[.int .i64 0, .int .i64 0, .int .i64 0, .int .i64 0, .int .i64 0, .int .i64 0, .bool false, .int .i64 0, .int .i64 0, .int .i64 0, .int .i64 0, .bool false, .int .i64 0, .slice none 0 0], .int .i64 i', .int .i64 e']) (by simp [results, Tryz.results58, go_sem, k0, k1, k2, k3, k4, k5, k6, k7, k8, k9, k10, k11, k12, k13]) rfl ⟨⟨0, 0, 0, Tx.zt, Tx.zt⟩, none, 0, 0, [], by rw [HT2.out]; rfl, Lib.hid (by rw [HT2.out]; rfl), Lib.hid (PsIn.nil _ _ _), HBF.out⟩
end Go.Proofs.YteimbdklakemaaaGreatDoor
