/-
  THE READER OF PREDICATES: a truth, a comparison, null, not.
-/
import Derived.Test.YteimbdklakemaaaGreatDoorTxlM
namespace Go.Proofs.YteimbdklakemaaaGreatDoor
open Go.RowKit Go.Sort
set_option maxHeartbeats 3200000

theorem Rd.drew {w0 w : World} {R b c n i : Nat} {e : Int} (h : Rd w0 w R b c n i e) : Rd w0 w.drew R b c n i e := ⟨h.lies.drew, h.base.drew⟩
theorem Gw.drew {w w' : World} {R : Nat} (h : Gw R w w') : Gw R w w'.drew := ⟨h.os, h.tape, h.output, h.size, h.block⟩
abbrev zeroPred : List Value := [.int .i64 0, .int .i64 0, .int .i64 0, .int .i64 0, .int .i64 0, .int .i64 0, .bool false, .int .i64 0, .int .i64 0, .int .i64 0, .int .i64 0, .bool false, .int .i64 0, .slice none 0 0]
set_option maxRecDepth 100000 in
theorem rtruth_any {w0 : World} {R b c : Nat} {l : List Int} (d i j : Nat) (dp : Int) (w : World) (h : Rd w0 w R b c l.length i 0) (hj : j ≤ 5) :
    Calls Tryz.prog 90 #[.pointer (some ⟨R, 0, none⟩), .int .i64 j, .int .i64 dp] w (Got1 w0 R b c l d w ⟨.mk (Tx.bare 1 j 0 Tx.zt Tx.zt) [], i, 0⟩ i 0) := by
  have hw : wrap64 (j : Int) = (j : Int) := by unfold wrap64; omega
  have Hr := Lib.hid h
  clear h
  go_enter Tryz.func90, Tryz.ntmps90
  go_wp2
  exact bodyPost_ret (v := .agg #[.int .i64 1, .int .i64 j, .int .i64 0, .int .i64 0, .int .i64 0, .int .i64 0, .bool false, .int .i64 0, .int .i64 0, .int .i64 0, .int .i64 0, .bool false, .int .i64 0, .slice none 0 0]) (by simp [results, Tryz.results90, go_sem]) rfl ⟨⟨1, j, 0, Tx.zt, Tx.zt⟩, none, 0, 0, [], i, 0, rfl, Lib.hid ⟨fun h => absurd rfl h, fun _ => ⟨rfl, rfl, fun _ => rfl⟩⟩, Lib.hid (fun _ => PsIn.nil _ _ _), Hr.out.alloc _, Gw.of (below_new _ _)⟩
set_option maxRecDepth 100000 in
theorem rnull_p_any {w0 : World} {R b c : Nat} {l : List Int} (hs : Src w0 R b c l) (d i : Nat) (sg dp : Int) (w : World) (h : Rd w0 w R b c l.length i 0) (hi : i ≤ l.length) :
    Calls Tryz.prog 92 #[.pointer (some ⟨R, 0, none⟩), .int .i64 sg, .int .i64 dp] w (Got1 w0 R b c l d w (Tx.nullG l i) i 0) := by
  have Hs := Lib.hid hs
  obtain ⟨o0, ho0⟩ : ∃ o0, o0 = Obj.cells #[.int .i64 0, .int .i64 0, .int .i64 0, .int .i64 0, .int .i64 0, .int .i64 0, .bool false, .int .i64 0, .int .i64 0, .int .i64 0, .int .i64 0, .bool false, .int .i64 0, .slice none 0 0] 43 := ⟨_, rfl⟩
  have h0 := h.alloc o0
  have ct := rterm_any hs i 0 _ h0 hi
  have l0 : Lies (w.alloc o0) w.heap.size 43 zeroPred := by rw [ho0]; exact Lies.new _ _ _
  have hgR : w.heap.size ≠ R := by have := h.lt; omega
  have hgt : R < w.heap.size := h.lt
  have hg0 : Gw R w (w.alloc o0) := Gw.of (below_new _ _)
  have HO := Lib.hid ho0
  clear ho0 hs h h0
  go_enter Tryz.func92, Tryz.ntmps92
  go_upto_region 1 with (fail)
  rw [← HO.out]
  go_wp2_with (fail)
  refine ct.mono ?_
  rintro E w1 ⟨x, i1, e1, rfl, hst, h1, hg1⟩
  have l1 := hg1.lies l0 hgR
  have hgw1 := hg0.trans hg1
  have HS := Lib.hid (Tx.null_math hst.out)
  clear ct l0 hg0 hg1 hst
  have y0 := l1.cell (i := 0) rfl
  have f0 := l1.free 0
  have y1 := l1.cell (i := 1) rfl
  have f1 := l1.free 1
  have y2 := l1.cell (i := 2) rfl
  have f2 := l1.free 2
  have y3 := l1.cell (i := 3) rfl
  have f3 := l1.free 3
  have y4 := l1.cell (i := 4) rfl
  have f4 := l1.free 4
  have y5 := l1.cell (i := 5) rfl
  have f5 := l1.free 5
  have y6 := l1.cell (i := 6) rfl
  have f6 := l1.free 6
  have y7 := l1.cell (i := 7) rfl
  have f7 := l1.free 7
  have y8 := l1.cell (i := 8) rfl
  have f8 := l1.free 8
  have y9 := l1.cell (i := 9) rfl
  have f9 := l1.free 9
  have y10 := l1.cell (i := 10) rfl
  have f10 := l1.free 10
  have y11 := l1.cell (i := 11) rfl
  have f11 := l1.free 11
  have y12 := l1.cell (i := 12) rfl
  have f12 := l1.free 12
  have y13 := l1.cell (i := 13) rfl
  have f13 := l1.free 13
  have LF : Lies _ w.heap.size _ [.int .i64 3, .int .i64 0, .int .i64 0, .int .i64 x.k, .int .i64 x.t, .int .i64 x.c, .bool x.z, .int .i64 x.n, .int .i64 0, .int .i64 0, .int .i64 0, .bool false, .int .i64 0, .slice none 0 0] := ((((((((((((((l1.set 0 (.int .i64 3)).set 1 (.int .i64 0)).set 2 (.int .i64 0)).set 3 (.int .i64 x.k)).set 4 (.int .i64 x.t)).set 5 (.int .i64 x.c)).set 6 (.bool x.z)).set 7 (.int .i64 x.n)).set 8 (.int .i64 0)).set 9 (.int .i64 0)).set 10 (.int .i64 0)).set 11 (.bool false)).set 12 (.int .i64 0)).set 13 (.slice none 0 0))
  have k0 := LF.cell (i := 0) rfl
  have k1 := LF.cell (i := 1) rfl
  have k2 := LF.cell (i := 2) rfl
  have k3 := LF.cell (i := 3) rfl
  have k4 := LF.cell (i := 4) rfl
  have k5 := LF.cell (i := 5) rfl
  have k6 := LF.cell (i := 6) rfl
  have k7 := LF.cell (i := 7) rfl
  have k8 := LF.cell (i := 8) rfl
  have k9 := LF.cell (i := 9) rfl
  have k10 := LF.cell (i := 10) rfl
  have k11 := LF.cell (i := 11) rfl
  have k12 := LF.cell (i := 12) rfl
  have k13 := LF.cell (i := 13) rfl
  have HF := Lib.hid ((((((((((((((h1.other hgt 0 (.int .i64 3)).other hgt 1 (.int .i64 0)).other hgt 2 (.int .i64 0)).other hgt 3 (.int .i64 x.k)).other hgt 4 (.int .i64 x.t)).other hgt 5 (.int .i64 x.c)).other hgt 6 (.bool x.z)).other hgt 7 (.int .i64 x.n)).other hgt 8 (.int .i64 0)).other hgt 9 (.int .i64 0)).other hgt 10 (.int .i64 0)).other hgt 11 (.bool false)).other hgt 12 (.int .i64 0)).other hgt 13 (.slice none 0 0))
  have HGF := Lib.hid ((((((((((((((hgw1.other (g := w.heap.size) (Nat.le_refl _) 0 (.int .i64 3)).other (g := w.heap.size) (Nat.le_refl _) 1 (.int .i64 0)).other (g := w.heap.size) (Nat.le_refl _) 2 (.int .i64 0)).other (g := w.heap.size) (Nat.le_refl _) 3 (.int .i64 x.k)).other (g := w.heap.size) (Nat.le_refl _) 4 (.int .i64 x.t)).other (g := w.heap.size) (Nat.le_refl _) 5 (.int .i64 x.c)).other (g := w.heap.size) (Nat.le_refl _) 6 (.bool x.z)).other (g := w.heap.size) (Nat.le_refl _) 7 (.int .i64 x.n)).other (g := w.heap.size) (Nat.le_refl _) 8 (.int .i64 0)).other (g := w.heap.size) (Nat.le_refl _) 9 (.int .i64 0)).other (g := w.heap.size) (Nat.le_refl _) 10 (.int .i64 0)).other (g := w.heap.size) (Nat.le_refl _) 11 (.bool false)).other (g := w.heap.size) (Nat.le_refl _) 12 (.int .i64 0)).other (g := w.heap.size) (Nat.le_refl _) 13 (.slice none 0 0))
  clear l1 h1 hgw1 LF
  go_wp2_with (fail)
  exact bodyPost_ret (v := .agg #[.int .i64 3, .int .i64 0, .int .i64 0, .int .i64 x.k, .int .i64 x.t, .int .i64 x.c, .bool x.z, .int .i64 x.n, .int .i64 0, .int .i64 0, .int .i64 0, .bool false, .int .i64 0, .slice none 0 0]) (by simp [results, Tryz.results92, go_sem, k0, k1, k2, k3, k4, k5, k6, k7, k8, k9, k10, k11, k12, k13]) rfl ⟨⟨3, 0, 0, x, Tx.zt⟩, none, 0, 0, [], i1, e1, rfl, HS, Lib.hid (fun _ => PsIn.nil _ _ _), HF.out, HGF.out⟩
set_option maxRecDepth 100000 in
theorem rcomp_any {w0 : World} {R b c : Nat} {l : List Int} (hs : Src w0 R b c l) (d i j : Nat) (dp : Int) (w : World) (h : Rd w0 w R b c l.length i 0) (hi : i ≤ l.length) (hj : j ≤ 5) :
    Calls Tryz.prog 91 #[.pointer (some ⟨R, 0, none⟩), .int .i64 j, .int .i64 dp] w (Got1 w0 R b c l d w (Tx.cmpG l i j) i 0) := by
  have hw : wrap64 (1 + (j : Int)) = (j : Int) + 1 := by unfold wrap64; omega
  have hw2 : wrap64 ((j : Int) + 1) = (j : Int) + 1 := by unfold wrap64; omega
  have hw3 : IntKind.i64.wrap (1 + (j : Int)) = (j : Int) + 1 := (IntWalk.i64_in _ (by omega)).trans (by omega)
  have Hs := Lib.hid hs
  obtain ⟨o0, ho0⟩ : ∃ o0, o0 = Obj.cells #[.int .i64 0, .int .i64 0, .int .i64 0, .int .i64 0, .int .i64 0, .int .i64 0, .bool false, .int .i64 0, .int .i64 0, .int .i64 0, .int .i64 0, .bool false, .int .i64 0, .slice none 0 0] 43 := ⟨_, rfl⟩
  have h0 := h.alloc o0
  have ct := rterm_any hs i 0 _ h0 hi
  have l0 : Lies (w.alloc o0) w.heap.size 43 zeroPred := by rw [ho0]; exact Lies.new _ _ _
  have hgR : w.heap.size ≠ R := by have := h.lt; omega
  have hgt : R < w.heap.size := h.lt
  have hg0 : Gw R w (w.alloc o0) := Gw.of (below_new _ _)
  have HO := Lib.hid ho0
  clear ho0 hs h h0
  go_enter Tryz.func91, Tryz.ntmps91
  go_upto_region 1 with (fail)
  rw [← HO.out]
  go_wp2_with (fail)
  refine ct.mono ?_
  rintro E w1 ⟨x, i1, e1, rfl, hst1, h1, hg1⟩
  have hi1 : i1 ≤ l.length := step_le hst1.out hi (Tx.term_le hi)
  obtain ⟨o1, ho1⟩ : ∃ o1, o1 = Obj.cells #[.int .i64 x.k, .int .i64 x.t, .int .i64 x.c, .bool x.z, .int .i64 x.n] 41 := ⟨_, rfl⟩
  have h1a := h1.alloc o1
  have la : Lies (w1.alloc o1) w1.heap.size 41 [.int .i64 x.k, .int .i64 x.t, .int .i64 x.c, .bool x.z, .int .i64 x.n] := by rw [ho1]; exact Lies.new _ _ _
  have l1 := (hg1.lies l0 hgR).alloc o1
  have hgw1 := (hg0.trans hg1).trans (Gw.of (R := R) (below_new w1 o1))
  have haR : w1.heap.size ≠ R := by have := h1.lt; omega
  have hgl : w.heap.size ≠ w1.heap.size := by have := (hg1.lies l0 hgR).lt; omega
  obtain ⟨i2, e2, hp⟩ : ∃ i2 e2, (i2, e2) = passS l 44 i1 e1 := ⟨_, _, rfl⟩
  have cp := rpass_any Hs.out i1 e1 44 _ h1a hi1 (by decide) i2 e2 hp
  have hi2 : i2 ≤ l.length := pass_le hp hi1 (by decide)
  have HP := Lib.hid hp
  have HO1 := Lib.hid ho1
  clear ct l0 hg0 hg1 h1 h1a hp ho1
  go_upto_region 2 with (fail)
  rw [← HO1.out]
  go_wp2_with (fail)
  refine cp.mono ?_
  rintro E w3 ⟨rfl, h3, hg3⟩
  have lb := hg3.lies la haR
  have l3 := hg3.lies l1 hgR
  have hgw3 := hgw1.trans hg3
  have c2 := rterm_any Hs.out i2 e2 w3.drew h3.drew hi2
  have a0 := lb.cell (i := 0) rfl
  have a1 := lb.cell (i := 1) rfl
  have a2 := lb.cell (i := 2) rfl
  have a3 := lb.cell (i := 3) rfl
  have a4 := lb.cell (i := 4) rfl
  have HLB := Lib.hid lb
  have HL3 := Lib.hid l3
  have HG3 := Lib.hid hgw3
  clear cp la l1 hgw1 hg3 h3 lb l3 hgw3
  go_upto_region 3 with (fail)
  go_region_with (first
    | (go_at_call 96; (with_reducible refine c2.mono ?_); rintro E w4 ⟨y, i4, e4, rfl, hst2, h4, hg4⟩; have lb4 := hg4.lies HLB.out.drew haR; have a04 := lb4.cell (i := 0) rfl; have a14 := lb4.cell (i := 1) rfl; have a24 := lb4.cell (i := 2) rfl; have a34 := lb4.cell (i := 3) rfl; have a44 := lb4.cell (i := 4) rfl; have l4 := hg4.lies HL3.out.drew hgR; have y0 := l4.cell (i := 0) rfl; have f0 := l4.free 0; have y1 := l4.cell (i := 1) rfl; have f1 := l4.free 1; have y2 := l4.cell (i := 2) rfl; have f2 := l4.free 2; have y3 := l4.cell (i := 3) rfl; have f3 := l4.free 3; have y4 := l4.cell (i := 4) rfl; have f4 := l4.free 4; have y5 := l4.cell (i := 5) rfl; have f5 := l4.free 5; have y6 := l4.cell (i := 6) rfl; have f6 := l4.free 6; have y7 := l4.cell (i := 7) rfl; have f7 := l4.free 7; have y8 := l4.cell (i := 8) rfl; have f8 := l4.free 8; have y9 := l4.cell (i := 9) rfl; have f9 := l4.free 9; have y10 := l4.cell (i := 10) rfl; have f10 := l4.free 10; have y11 := l4.cell (i := 11) rfl; have f11 := l4.free 11; have y12 := l4.cell (i := 12) rfl; have f12 := l4.free 12; have y13 := l4.cell (i := 13) rfl; have f13 := l4.free 13))
  all_goals
    have hgw4 := HG3.out.drew.trans hg4
    have HS := Lib.hid (Tx.cmp_math (j := j) hst1.out HP.out hst2.out)
    have HL4 := Lib.hid l4
    clear y0 y1 y2 y3 y4 y5 y6 y7 y8 y9 y10 y11 y12 y13 f0 f1 f2 f3 f4 f5 f6 f7 f8 f9 f10 f11 f12 f13 a0 a1 a2 a3 a4 a04 a14 a24 a34 a44
    have LF : Lies _ w.heap.size _ [.int .i64 2, .int .i64 0, .int .i64 ((j : Int) + 1), .int .i64 x.k, .int .i64 x.t, .int .i64 x.c, .bool x.z, .int .i64 x.n, .int .i64 y.k, .int .i64 y.t, .int .i64 y.c, .bool y.z, .int .i64 y.n, .slice none 0 0] := ((((((((((((((HL4.out.set 0 (.int .i64 2)).set 1 (.int .i64 0)).set 2 (.int .i64 ((j : Int) + 1))).set 3 (.int .i64 x.k)).set 4 (.int .i64 x.t)).set 5 (.int .i64 x.c)).set 6 (.bool x.z)).set 7 (.int .i64 x.n)).set 8 (.int .i64 y.k)).set 9 (.int .i64 y.t)).set 10 (.int .i64 y.c)).set 11 (.bool y.z)).set 12 (.int .i64 y.n)).set 13 (.slice none 0 0))
    have k0 := LF.cell (i := 0) rfl
    have k1 := LF.cell (i := 1) rfl
    have k2 := LF.cell (i := 2) rfl
    have k3 := LF.cell (i := 3) rfl
    have k4 := LF.cell (i := 4) rfl
    have k5 := LF.cell (i := 5) rfl
    have k6 := LF.cell (i := 6) rfl
    have k7 := LF.cell (i := 7) rfl
    have k8 := LF.cell (i := 8) rfl
    have k9 := LF.cell (i := 9) rfl
    have k10 := LF.cell (i := 10) rfl
    have k11 := LF.cell (i := 11) rfl
    have k12 := LF.cell (i := 12) rfl
    have k13 := LF.cell (i := 13) rfl
    have HF := Lib.hid ((((((((((((((h4.other hgt 0 (.int .i64 2)).other hgt 1 (.int .i64 0)).other hgt 2 (.int .i64 ((j : Int) + 1))).other hgt 3 (.int .i64 x.k)).other hgt 4 (.int .i64 x.t)).other hgt 5 (.int .i64 x.c)).other hgt 6 (.bool x.z)).other hgt 7 (.int .i64 x.n)).other hgt 8 (.int .i64 y.k)).other hgt 9 (.int .i64 y.t)).other hgt 10 (.int .i64 y.c)).other hgt 11 (.bool y.z)).other hgt 12 (.int .i64 y.n)).other hgt 13 (.slice none 0 0))
    have HGF := Lib.hid ((((((((((((((hgw4.other (g := w.heap.size) (Nat.le_refl _) 0 (.int .i64 2)).other (g := w.heap.size) (Nat.le_refl _) 1 (.int .i64 0)).other (g := w.heap.size) (Nat.le_refl _) 2 (.int .i64 ((j : Int) + 1))).other (g := w.heap.size) (Nat.le_refl _) 3 (.int .i64 x.k)).other (g := w.heap.size) (Nat.le_refl _) 4 (.int .i64 x.t)).other (g := w.heap.size) (Nat.le_refl _) 5 (.int .i64 x.c)).other (g := w.heap.size) (Nat.le_refl _) 6 (.bool x.z)).other (g := w.heap.size) (Nat.le_refl _) 7 (.int .i64 x.n)).other (g := w.heap.size) (Nat.le_refl _) 8 (.int .i64 y.k)).other (g := w.heap.size) (Nat.le_refl _) 9 (.int .i64 y.t)).other (g := w.heap.size) (Nat.le_refl _) 10 (.int .i64 y.c)).other (g := w.heap.size) (Nat.le_refl _) 11 (.bool y.z)).other (g := w.heap.size) (Nat.le_refl _) 12 (.int .i64 y.n)).other (g := w.heap.size) (Nat.le_refl _) 13 (.slice none 0 0))
    clear l4 h4 hgw4 LF c2 lb4 hg4
    go_wp2_with (fail)
    exact bodyPost_ret (v := .agg #[.int .i64 2, .int .i64 0, .int .i64 ((j : Int) + 1), .int .i64 x.k, .int .i64 x.t, .int .i64 x.c, .bool x.z, .int .i64 x.n, .int .i64 y.k, .int .i64 y.t, .int .i64 y.c, .bool y.z, .int .i64 y.n, .slice none 0 0]) (by simp [results, Tryz.results91, go_sem, k0, k1, k2, k3, k4, k5, k6, k7, k8, k9, k10, k11, k12, k13]) rfl ⟨⟨2, 0, (j : Int) + 1, x, y⟩, none, 0, 0, [], i4, e4, rfl, HS, Lib.hid (fun _ => PsIn.nil _ _ _), HF.out, HGF.out⟩
end Go.Proofs.YteimbdklakemaaaGreatDoor
