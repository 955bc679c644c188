/-
  THE READER OF PREDICATES: the ways that read predicates within.
-/
import Derived.Test.YteimbdklakemaaaGreatDoorTxnM
namespace Go.Proofs.YteimbdklakemaaaGreatDoor
open Go.RowKit Go.Sort
set_option maxHeartbeats 3200000

namespace Tx
theorem not_math {tk : Nat → Got Pd} {i i1 : Nat} {e1 : Int} {p : Pd} (h : Step (tk i) i 0 p i1 e1) : Step (notG tk i) i 0 (.mk (bare 6 0 0 zt zt) [p]) i1 e1 := by
  refine ⟨fun h => absurd rfl h, fun _ => ?_⟩
  obtain ⟨rfl, rfl, hx⟩ := h.2 rfl
  refine ⟨rfl, rfl, fun h0 => ?_⟩
  rw [hx h0]
  rfl
theorem list_math0 {tk : Nat → Got Pd} {l : List Int} {i i1 i2 : Nat} {e1 e2 kd : Int} (h40 : (i1, e1) = passS l 40 i 0) (hV : nextS l i1 e1 = 41) (h41 : (i2, e2) = passS l 41 i1 e1) : Step (listG tk l i kd) i 0 (.mk (bare kd 0 0 zt zt) []) i2 e2 := by
  have he : e1 = 0 := by
    unfold nextS at hV
    by_cases he : e1 = 0
    · exact he
    · rw [if_neg he] at hV; exact absurd hV (by decide)
  subst he
  rw [nextS, if_pos rfl] at hV
  rw [passS, if_neg (by simp)] at h40 h41
  rw [if_pos hV] at h41
  obtain ⟨rfl, rfl⟩ := pair_eq h41
  by_cases ha : at_ l i = 40
  · rw [if_pos ha] at h40
    obtain ⟨rfl, _⟩ := pair_eq h40
    refine ⟨fun h => absurd rfl h, fun _ => ?_⟩
    unfold listG list
    rw [if_neg (by simp [ha]), if_pos hV]
    exact ⟨rfl, rfl, fun _ => rfl⟩
  · rw [if_neg ha] at h40
    exact absurd (pair_eq h40).2 (by decide)
theorem list_math {tk : Nat → Got Pd} {l : List Int} {i i1 i2 j : Nat} {e1 e2 e' kd : Int} {ps : List Pd} (h40 : (i1, e1) = passS l 40 i 0) (hV : nextS l i1 e1 ≠ 41) (hP : PartsPost tk l i1 e1 ps j e') (h41 : (i2, e2) = passS l 41 j e') : Step (listG tk l i kd) i 0 (.mk (bare kd 0 0 zt zt) ps) i2 e2 := by
  refine ⟨fun h => absurd rfl h, fun _ => ?_⟩
  unfold listG list
  rw [passS, if_neg (by simp)] at h40
  by_cases ha : at_ l i = 40
  · rw [if_pos ha] at h40
    obtain ⟨rfl, rfl⟩ := pair_eq h40
    rw [nextS, if_pos rfl] at hV
    rw [if_neg (by simp [ha]), if_neg hV]
    obtain ⟨i3, e3, h3, rfl, rfl, hx⟩ := hP.2 rfl
    rw [← h3] at h41
    obtain ⟨rfl, rfl⟩ := pair_eq h41
    exact ⟨rfl, rfl, fun h0 => by rw [hx h0]⟩
  · rw [if_neg ha] at h40
    obtain ⟨rfl, rfl⟩ := pair_eq h40
    obtain ⟨rfl, rfl⟩ := hP.1 (by decide)
    rw [passS, if_pos (by decide)] at h41
    obtain ⟨rfl, rfl⟩ := pair_eq h41
    rw [if_pos ha]
    exact ⟨rfl, rfl, fun h => absurd h (by decide)⟩
theorem pass_err {l : List Int} {c : Int} {i i' : Nat} {e e' : Int} (h : (i', e') = passS l c i e) (h0 : e' = 0) : e = 0 := by
  unfold passS at h
  by_cases he : e = 0
  · exact he
  · rw [if_pos he] at h
    obtain ⟨_, rfl⟩ := pair_eq h
    exact h0
end Tx
set_option maxRecDepth 100000 in
theorem rnot_any {w0 : World} {R b c : Nat} {l : List Int} (k : Nat) (hk : k ≤ 3) (ih : PredAt w0 R b c l k) (i : Nat) (sg dp : Int) (hdp : dp = 4 - (k : Int)) (w : World) (h : Rd w0 w R b c l.length i 0) (hi : i ≤ l.length) :
    Calls Tryz.prog 94 #[.pointer (some ⟨R, 0, none⟩), .int .i64 sg, .int .i64 dp] w (Got1 w0 R b c l (k + 1) w (Tx.notG (Tx.take l k) i) i 0) := by
  have hw : wrap64 (dp + 1) = 5 - (k : Int) := by unfold wrap64; omega
  obtain ⟨o0, ho0⟩ : ∃ o0, o0 = Obj.cells #[.int .i64 0, .int .i64 0, .int .i64 0, .int .i64 0, .int .i64 0, .int .i64 0, .bool false, .int .i64 0, .int .i64 0, .int .i64 0, .int .i64 0, .bool false, .int .i64 0, .slice none 0 0] 43 := ⟨_, rfl⟩
  have h0 := h.alloc o0
  have ct := ih i 0 _ h0 hi
  have l0 : Lies (w.alloc o0) w.heap.size 43 zeroPred := by rw [ho0]; exact Lies.new _ _ _
  have hgR : w.heap.size ≠ R := by have := h.lt; omega
  have hgt : R < w.heap.size := h.lt
  have hg0 : Gw R w (w.alloc o0) := Gw.of (below_new _ _)
  have HO := Lib.hid ho0
  clear ho0 h h0 ih hdp
  go_enter Tryz.func94, Tryz.ntmps94
  go_upto_region 1 with (fail)
  rw [← HO.out]
  generalize (5 - (k : Int)) = dk at hw ct
  go_wp2_with (fail)
  refine ct.mono ?_
  rintro E w1 ⟨f, A, m, kk, ps, i1, e1, rfl, hst, hps, h1, hg1⟩
  obtain ⟨o1, ho1⟩ : ∃ o1, o1 = Obj.cells #[.int .i64 f.k, .int .i64 f.u, .int .i64 f.o, .int .i64 f.a.k, .int .i64 f.a.t, .int .i64 f.a.c, .bool f.a.z, .int .i64 f.a.n, .int .i64 f.b.k, .int .i64 f.b.t, .int .i64 f.b.c, .bool f.b.z, .int .i64 f.b.n, .slice A m kk] 43 := ⟨_, rfl⟩
  have hsz1 : w.heap.size + 1 ≤ w1.heap.size := by have := hg1.size; rw [World.size_alloc] at this; exact this
  have hown1 : (w1.alloc o1).ownsRow (w.heap.size + 1) 43 14 (.slice (some ⟨w1.heap.size, 0, none⟩) 1 1) 1 (pdCells [(Pd.mk f ps, .slice A m kk)]) := by
    rw [ho1]
    have := World.ownsRow_lit (base := w.heap.size + 1) (e := 43) (size := 14) w1 (f.cells (.slice A m kk)).toArray 1 hsz1 (by unfold maxLen; omega) rfl
    have e2 : pdCells [(Pd.mk f ps, Value.slice A m kk)] = f.cells (.slice A m kk) := by simp [pdCells, Pd.f]
    rw [e2]
    exact this
  have hin : Hid (e1 = 0 → PsIn (w.heap.size + 1) (k + 1) (w1.alloc o1) (.slice (some ⟨w1.heap.size, 0, none⟩) 1 1) [.mk f ps]) := Lib.hid (by
    intro h0
    refine PsIn.row (lo := w.heap.size + 1) (L := [(Pd.mk f ps, .slice A m kk)]) hown1 rfl (by omega) hsz1 fun x hx => ?_
    obtain rfl := List.mem_singleton.1 hx
    have := (hps.out h0).below (below_new w1 o1)
    rw [World.size_alloc] at this
    exact this)
  have l1 := (hg1.lies l0 hgR).alloc o1
  have h1a := h1.alloc o1
  have hgw1 := (hg0.trans hg1).trans (Gw.of (R := R) (below_new w1 o1))
  have HS := Lib.hid (Tx.not_math (tk := Tx.take l k) hst.out)
  have HO1 := Lib.hid ho1
  clear ct l0 hg0 hg1 hst hps h1 hown1 ho1
  have el : Obj.cells #[.int .i64 f.k, .int .i64 f.u, .int .i64 f.o, .int .i64 f.a.k, .int .i64 f.a.t, .int .i64 f.a.c, .bool f.a.z, .int .i64 f.a.n, .int .i64 f.b.k, .int .i64 f.b.t, .int .i64 f.b.c, .bool f.b.z, .int .i64 f.b.n, .slice A m kk] 43 = o1 := HO1.out.symm
  have y0 := l1.cell (i := 0) rfl
  have f0 := l1.free 0
  have y1 := l1.cell (i := 1) rfl
  have f1 := l1.free 1
  have y2 := l1.cell (i := 2) rfl
  have f2 := l1.free 2
  have y3 := l1.cell (i := 3) rfl
  have f3 := l1.free 3
  have y4 := l1.cell (i := 4) rfl
  have f4 := l1.free 4
  have y5 := l1.cell (i := 5) rfl
  have f5 := l1.free 5
  have y6 := l1.cell (i := 6) rfl
  have f6 := l1.free 6
  have y7 := l1.cell (i := 7) rfl
  have f7 := l1.free 7
  have y8 := l1.cell (i := 8) rfl
  have f8 := l1.free 8
  have y9 := l1.cell (i := 9) rfl
  have f9 := l1.free 9
  have y10 := l1.cell (i := 10) rfl
  have f10 := l1.free 10
  have y11 := l1.cell (i := 11) rfl
  have f11 := l1.free 11
  have y12 := l1.cell (i := 12) rfl
  have f12 := l1.free 12
  have y13 := l1.cell (i := 13) rfl
  have f13 := l1.free 13
  have LF : Lies _ w.heap.size _ [.int .i64 6, .int .i64 0, .int .i64 0, .int .i64 0, .int .i64 0, .int .i64 0, .bool false, .int .i64 0, .int .i64 0, .int .i64 0, .int .i64 0, .bool false, .int .i64 0, .slice (some ⟨w1.heap.size, 0, none⟩) 1 1] := ((((((((((((((l1.set 0 (.int .i64 6)).set 1 (.int .i64 0)).set 2 (.int .i64 0)).set 3 (.int .i64 0)).set 4 (.int .i64 0)).set 5 (.int .i64 0)).set 6 (.bool false)).set 7 (.int .i64 0)).set 8 (.int .i64 0)).set 9 (.int .i64 0)).set 10 (.int .i64 0)).set 11 (.bool false)).set 12 (.int .i64 0)).set 13 (.slice (some ⟨w1.heap.size, 0, none⟩) 1 1))
  have k0 := LF.cell (i := 0) rfl
  have k1 := LF.cell (i := 1) rfl
  have k2 := LF.cell (i := 2) rfl
  have k3 := LF.cell (i := 3) rfl
  have k4 := LF.cell (i := 4) rfl
  have k5 := LF.cell (i := 5) rfl
  have k6 := LF.cell (i := 6) rfl
  have k7 := LF.cell (i := 7) rfl
  have k8 := LF.cell (i := 8) rfl
  have k9 := LF.cell (i := 9) rfl
  have k10 := LF.cell (i := 10) rfl
  have k11 := LF.cell (i := 11) rfl
  have k12 := LF.cell (i := 12) rfl
  have k13 := LF.cell (i := 13) rfl
  have HF := Lib.hid ((((((((((((((h1a.other hgt 0 (.int .i64 6)).other hgt 1 (.int .i64 0)).other hgt 2 (.int .i64 0)).other hgt 3 (.int .i64 0)).other hgt 4 (.int .i64 0)).other hgt 5 (.int .i64 0)).other hgt 6 (.bool false)).other hgt 7 (.int .i64 0)).other hgt 8 (.int .i64 0)).other hgt 9 (.int .i64 0)).other hgt 10 (.int .i64 0)).other hgt 11 (.bool false)).other hgt 12 (.int .i64 0)).other hgt 13 (.slice (some ⟨w1.heap.size, 0, none⟩) 1 1))
  have HGF := Lib.hid ((((((((((((((hgw1.other (g := w.heap.size) (Nat.le_refl _) 0 (.int .i64 6)).other (g := w.heap.size) (Nat.le_refl _) 1 (.int .i64 0)).other (g := w.heap.size) (Nat.le_refl _) 2 (.int .i64 0)).other (g := w.heap.size) (Nat.le_refl _) 3 (.int .i64 0)).other (g := w.heap.size) (Nat.le_refl _) 4 (.int .i64 0)).other (g := w.heap.size) (Nat.le_refl _) 5 (.int .i64 0)).other (g := w.heap.size) (Nat.le_refl _) 6 (.bool false)).other (g := w.heap.size) (Nat.le_refl _) 7 (.int .i64 0)).other (g := w.heap.size) (Nat.le_refl _) 8 (.int .i64 0)).other (g := w.heap.size) (Nat.le_refl _) 9 (.int .i64 0)).other (g := w.heap.size) (Nat.le_refl _) 10 (.int .i64 0)).other (g := w.heap.size) (Nat.le_refl _) 11 (.bool false)).other (g := w.heap.size) (Nat.le_refl _) 12 (.int .i64 0)).other (g := w.heap.size) (Nat.le_refl _) 13 (.slice (some ⟨w1.heap.size, 0, none⟩) 1 1))
  have HIF := Lib.hid (fun h0 => (((((((((((((((hin.out h0).setCell (a := ⟨w.heap.size, 0, none⟩) (Nat.lt_succ_self _) (.int .i64 6)).setCell (a := ⟨w.heap.size, 1, none⟩) (Nat.lt_succ_self _) (.int .i64 0)).setCell (a := ⟨w.heap.size, 2, none⟩) (Nat.lt_succ_self _) (.int .i64 0)).setCell (a := ⟨w.heap.size, 3, none⟩) (Nat.lt_succ_self _) (.int .i64 0)).setCell (a := ⟨w.heap.size, 4, none⟩) (Nat.lt_succ_self _) (.int .i64 0)).setCell (a := ⟨w.heap.size, 5, none⟩) (Nat.lt_succ_self _) (.int .i64 0)).setCell (a := ⟨w.heap.size, 6, none⟩) (Nat.lt_succ_self _) (.bool false)).setCell (a := ⟨w.heap.size, 7, none⟩) (Nat.lt_succ_self _) (.int .i64 0)).setCell (a := ⟨w.heap.size, 8, none⟩) (Nat.lt_succ_self _) (.int .i64 0)).setCell (a := ⟨w.heap.size, 9, none⟩) (Nat.lt_succ_self _) (.int .i64 0)).setCell (a := ⟨w.heap.size, 10, none⟩) (Nat.lt_succ_self _) (.int .i64 0)).setCell (a := ⟨w.heap.size, 11, none⟩) (Nat.lt_succ_self _) (.bool false)).setCell (a := ⟨w.heap.size, 12, none⟩) (Nat.lt_succ_self _) (.int .i64 0)).setCell (a := ⟨w.heap.size, 13, none⟩) (Nat.lt_succ_self _) (.slice (some ⟨w1.heap.size, 0, none⟩) 1 1)))
  clear l1 h1a hgw1 LF hin
  subst el
  go_wp2_with (fail)
  exact bodyPost_ret (v := .agg #[.int .i64 6, .int .i64 0, .int .i64 0, .int .i64 0, .int .i64 0, .int .i64 0, .bool false, .int .i64 0, .int .i64 0, .int .i64 0, .int .i64 0, .bool false, .int .i64 0, .slice (some ⟨w1.heap.size, 0, none⟩) 1 1]) (by simp [results, Tryz.results94, go_sem, k0, k1, k2, k3, k4, k5, k6, k7, k8, k9, k10, k11, k12, k13]) rfl ⟨⟨6, 0, 0, Tx.zt, Tx.zt⟩, some ⟨w1.heap.size, 0, none⟩, 1, 1, [.mk f ps], i1, e1, rfl, HS, Lib.hid (fun h0 => (HIF.out h0).low (Nat.le_succ _)), HF.out, HGF.out⟩
set_option maxRecDepth 100000 in
theorem rlist_p_any {w0 : World} {R b c : Nat} {l : List Int} (hs : Src w0 R b c l) (k : Nat) (hk : k ≤ 3) (ih : PredAt w0 R b c l k) (i q : Nat) (hq : q ≤ 1) (dp : Int) (hdp : dp = 4 - (k : Int)) (w : World) (h : Rd w0 w R b c l.length i 0) (hi : i ≤ l.length) :
    Calls Tryz.prog 93 #[.pointer (some ⟨R, 0, none⟩), .int .i64 q, .int .i64 dp] w (Got1 w0 R b c l (k + 1) w (Tx.listG (Tx.take l k) l i (4 + (q : Int))) i 0) := by
  have hw : wrap64 (dp + 1) = 5 - (k : Int) := by unfold wrap64; omega
  have hw4 : wrap64 (4 + (q : Int)) = 4 + (q : Int) := by unfold wrap64; omega
  have Hs := Lib.hid hs
  obtain ⟨dk, hdk⟩ : ∃ dk, dk = 5 - (k : Int) := ⟨_, rfl⟩
  have IH : Hid (∀ (i : Nat) (e : Int) (w : World), Rd w0 w R b c l.length i e → i ≤ l.length → Calls Tryz.prog 72 #[.pointer (some ⟨R, 0, none⟩), .int .i64 dk] w (Got1 w0 R b c l k w (Tx.take l k i) i e)) := Lib.hid (by rw [hdk]; exact ih)
  rw [← hdk] at hw
  obtain ⟨o0, ho0⟩ : ∃ o0, o0 = Obj.cells #[.int .i64 0, .int .i64 0, .int .i64 0, .int .i64 0, .int .i64 0, .int .i64 0, .bool false, .int .i64 0, .int .i64 0, .int .i64 0, .int .i64 0, .bool false, .int .i64 0, .slice none 0 0] 43 := ⟨_, rfl⟩
  have l0 : Lies (w.alloc o0) w.heap.size 43 zeroPred := by rw [ho0]; exact Lies.new _ _ _
  have hgR : w.heap.size ≠ R := by have := h.lt; omega
  have hgt : R < w.heap.size := h.lt
  have hg0 : Gw R w (w.alloc o0) := Gw.of (below_new _ _)
  have HO := Lib.hid ho0
  
  obtain ⟨o1, ho1⟩ : ∃ o1, o1 = Obj.cells #[.int .i64 (4 + (q : Int)), .int .i64 0, .int .i64 0, .int .i64 0, .int .i64 0, .int .i64 0, .bool false, .int .i64 0, .int .i64 0, .int .i64 0, .int .i64 0, .bool false, .int .i64 0, .slice none 0 0] 43 := ⟨_, rfl⟩
  obtain ⟨W0, hW0⟩ : ∃ W0, W0 = (w.alloc o0).alloc o1 := ⟨_, rfl⟩
  have l6 : Lies W0 w.heap.size 43 zeroPred := by rw [hW0]; exact l0.alloc o1
  have l7 : Lies W0 (w.heap.size + 1) 43 [.int .i64 (4 + (q : Int)), .int .i64 0, .int .i64 0, .int .i64 0, .int .i64 0, .int .i64 0, .bool false, .int .i64 0, .int .i64 0, .int .i64 0, .int .i64 0, .bool false, .int .i64 0, .slice none 0 0] := by
    have := Lies.new (w.alloc o0) 43 [.int .i64 (4 + (q : Int)), .int .i64 0, .int .i64 0, .int .i64 0, .int .i64 0, .int .i64 0, .bool false, .int .i64 0, .int .i64 0, .int .i64 0, .int .i64 0, .bool false, .int .i64 0, .slice none 0 0]
    rw [World.size_alloc] at this
    rw [hW0, ho1]; exact this
  have h0 : Rd w0 W0 R b c l.length i 0 := by rw [hW0]; exact (h.alloc o0).alloc o1
  have hgW : Gw R w W0 := by rw [hW0]; exact hg0.trans (Gw.of (below_new _ _))
  have hszW : W0.heap.size = w.heap.size + 1 + 1 := by rw [hW0, World.size_alloc, World.size_alloc]
  have h7R : w.heap.size + 1 ≠ R := by omega
  obtain ⟨i1, e1, hp⟩ : ∃ i1 e1, (i1, e1) = passS l 40 i 0 := ⟨_, _, rfl⟩
  have cp := rpass_any hs i 0 40 W0 h0 hi (by decide) i1 e1 hp
  have hi1 : i1 ≤ l.length := pass_le hp hi (by decide)
  have HP := Lib.hid hp
  have HW := Lib.hid hW0
  have HO1 := Lib.hid ho1
  clear ho0 hs h ih hdp l0 hg0 ho1 hW0 hp h0 hdk
  go_enter Tryz.func93, Tryz.ntmps93
  go_upto_region 2 with (fail)
  rw [← HO.out, ← HO1.out, ← HW.out]
  go_wp2_with (fail)
  refine cp.mono ?_
  rintro E w1 ⟨rfl, h1, hg1⟩
  have m6 := hg1.lies l6 hgR
  have m7 := hg1.lies l7 h7R
  have hgw1 := hgW.trans hg1
  have hsz1 : w.heap.size + 2 ≤ w1.heap.size := by have := hg1.size; omega
  obtain ⟨V, hV⟩ : ∃ V, V = nextS l i1 e1 := ⟨_, rfl⟩
  have cn := rnext_any Hs.out i1 e1 w1 h1 hi1 V hV
  clear cp l6 l7 hgW hg1 hszW
  by_cases h41 : V = 41
  · have e41 : (V != 41) = false := by simp [h41]
    have HV := Lib.hid (show nextS l i1 e1 = 41 by rw [← hV]; exact h41)
    clear hV h41
    go_wp2_with (fail)
    refine cn.mono ?_
    rintro E w2 ⟨rfl, hb2⟩
    have h2 := h1.below hb2 h1.lt
    have n6 := m6.below hb2 m6.lt
    have n7 := m7.below hb2 m7.lt
    have hgw2 := hgw1.trans (Gw.of (R := R) hb2)
    obtain ⟨i2, e2, hp2⟩ : ∃ i2 e2, (i2, e2) = passS l 41 i1 e1 := ⟨_, _, rfl⟩
    have cp2 := rpass_any Hs.out i1 e1 41 w2 h2 hi1 (by decide) i2 e2 hp2
    have HS := Lib.hid (Tx.list_math0 (tk := Tx.take l k) (kd := 4 + (q : Int)) HP.out HV.out hp2)
    clear cn hb2 h2 h1 m6 m7 hgw1 hp2
    go_wp2_with (fail)
    refine cp2.mono ?_
    rintro E w3 ⟨rfl, h3, hg3⟩
    have r6 := hg3.lies n6 hgR
    have r7 := hg3.lies n7 h7R
    have hgw3 := hgw2.trans hg3
    clear cp2 n6 n7 hgw2 hg3
    have q0 := r7.cell (i := 0) rfl
    have q1 := r7.cell (i := 1) rfl
    have q2 := r7.cell (i := 2) rfl
    have q3 := r7.cell (i := 3) rfl
    have q4 := r7.cell (i := 4) rfl
    have q5 := r7.cell (i := 5) rfl
    have q6 := r7.cell (i := 6) rfl
    have q7 := r7.cell (i := 7) rfl
    have q8 := r7.cell (i := 8) rfl
    have q9 := r7.cell (i := 9) rfl
    have q10 := r7.cell (i := 10) rfl
    have q11 := r7.cell (i := 11) rfl
    have q12 := r7.cell (i := 12) rfl
    have q13 := r7.cell (i := 13) rfl
    have y0 := r6.cell (i := 0) rfl
    have f0 := r6.free 0
    have y1 := r6.cell (i := 1) rfl
    have f1 := r6.free 1
    have y2 := r6.cell (i := 2) rfl
    have f2 := r6.free 2
    have y3 := r6.cell (i := 3) rfl
    have f3 := r6.free 3
    have y4 := r6.cell (i := 4) rfl
    have f4 := r6.free 4
    have y5 := r6.cell (i := 5) rfl
    have f5 := r6.free 5
    have y6 := r6.cell (i := 6) rfl
    have f6 := r6.free 6
    have y7 := r6.cell (i := 7) rfl
    have f7 := r6.free 7
    have y8 := r6.cell (i := 8) rfl
    have f8 := r6.free 8
    have y9 := r6.cell (i := 9) rfl
    have f9 := r6.free 9
    have y10 := r6.cell (i := 10) rfl
    have f10 := r6.free 10
    have y11 := r6.cell (i := 11) rfl
    have f11 := r6.free 11
    have y12 := r6.cell (i := 12) rfl
    have f12 := r6.free 12
    have y13 := r6.cell (i := 13) rfl
    have f13 := r6.free 13
    have LF : Lies _ w.heap.size _ [.int .i64 (4 + (q : Int)), .int .i64 0, .int .i64 0, .int .i64 0, .int .i64 0, .int .i64 0, .bool false, .int .i64 0, .int .i64 0, .int .i64 0, .int .i64 0, .bool false, .int .i64 0, .slice none 0 0] := ((((((((((((((r6.set 0 (.int .i64 (4 + (q : Int)))).set 1 (.int .i64 0)).set 2 (.int .i64 0)).set 3 (.int .i64 0)).set 4 (.int .i64 0)).set 5 (.int .i64 0)).set 6 (.bool false)).set 7 (.int .i64 0)).set 8 (.int .i64 0)).set 9 (.int .i64 0)).set 10 (.int .i64 0)).set 11 (.bool false)).set 12 (.int .i64 0)).set 13 (.slice none 0 0))
    have k0 := LF.cell (i := 0) rfl
    have k1 := LF.cell (i := 1) rfl
    have k2 := LF.cell (i := 2) rfl
    have k3 := LF.cell (i := 3) rfl
    have k4 := LF.cell (i := 4) rfl
    have k5 := LF.cell (i := 5) rfl
    have k6 := LF.cell (i := 6) rfl
    have k7 := LF.cell (i := 7) rfl
    have k8 := LF.cell (i := 8) rfl
    have k9 := LF.cell (i := 9) rfl
    have k10 := LF.cell (i := 10) rfl
    have k11 := LF.cell (i := 11) rfl
    have k12 := LF.cell (i := 12) rfl
    have k13 := LF.cell (i := 13) rfl
    have HF := Lib.hid ((((((((((((((h3.other hgt 0 (.int .i64 (4 + (q : Int)))).other hgt 1 (.int .i64 0)).other hgt 2 (.int .i64 0)).other hgt 3 (.int .i64 0)).other hgt 4 (.int .i64 0)).other hgt 5 (.int .i64 0)).other hgt 6 (.bool false)).other hgt 7 (.int .i64 0)).other hgt 8 (.int .i64 0)).other hgt 9 (.int .i64 0)).other hgt 10 (.int .i64 0)).other hgt 11 (.bool false)).other hgt 12 (.int .i64 0)).other hgt 13 (.slice none 0 0))
    have HGF := Lib.hid ((((((((((((((hgw3.other (g := w.heap.size) (Nat.le_refl _) 0 (.int .i64 (4 + (q : Int)))).other (g := w.heap.size) (Nat.le_refl _) 1 (.int .i64 0)).other (g := w.heap.size) (Nat.le_refl _) 2 (.int .i64 0)).other (g := w.heap.size) (Nat.le_refl _) 3 (.int .i64 0)).other (g := w.heap.size) (Nat.le_refl _) 4 (.int .i64 0)).other (g := w.heap.size) (Nat.le_refl _) 5 (.int .i64 0)).other (g := w.heap.size) (Nat.le_refl _) 6 (.bool false)).other (g := w.heap.size) (Nat.le_refl _) 7 (.int .i64 0)).other (g := w.heap.size) (Nat.le_refl _) 8 (.int .i64 0)).other (g := w.heap.size) (Nat.le_refl _) 9 (.int .i64 0)).other (g := w.heap.size) (Nat.le_refl _) 10 (.int .i64 0)).other (g := w.heap.size) (Nat.le_refl _) 11 (.bool false)).other (g := w.heap.size) (Nat.le_refl _) 12 (.int .i64 0)).other (g := w.heap.size) (Nat.le_refl _) 13 (.slice none 0 0))
    clear r6 r7 h3 hgw3 LF
    go_wp2_with (fail)
    exact bodyPost_ret (v := .agg #[.int .i64 (4 + (q : Int)), .int .i64 0, .int .i64 0, .int .i64 0, .int .i64 0, .int .i64 0, .bool false, .int .i64 0, .int .i64 0, .int .i64 0, .int .i64 0, .bool false, .int .i64 0, .slice none 0 0]) (by simp [results, Tryz.results93, go_sem, k0, k1, k2, k3, k4, k5, k6, k7, k8, k9, k10, k11, k12, k13]) rfl ⟨⟨4 + (q : Int), 0, 0, Tx.zt, Tx.zt⟩, none, 0, 0, [], i2, e2, rfl, HS, Lib.hid (fun _ => PsIn.nil _ _ _), HF.out, HGF.out⟩
  · have e41 : (V != 41) = true := by simp [h41]
    have HV := Lib.hid (show nextS l i1 e1 ≠ 41 by rw [← hV]; exact h41)
    clear hV h41
    go_wp2_with (fail)
    refine cn.mono ?_
    rintro E w2 ⟨rfl, hb2⟩
    have h2 := h1.below hb2 h1.lt
    have n6 := m6.below hb2 m6.lt
    have n7 := m7.below hb2 m7.lt
    have hgw2 := hgw1.trans (Gw.of (R := R) hb2)
    have hsz2 : w.heap.size + 2 ≤ w2.heap.size := Nat.le_trans hsz1 hb2.size
    have cq := rparts_at Hs.out k dk IH.out i1 e1 w2 h2 hi1
    clear cn hb2 h2 h1 m6 m7 hgw1
    go_wp2_with (fail)
    refine cq.mono ?_
    rintro E w3 ⟨A, m, kk, ps, j, e', rfl, hPP, hIn, hj, h3, hg3⟩
    have r6 := hg3.lies n6 hgR
    have r7 := hg3.lies n7 h7R
    have hgw3 := hgw2.trans hg3
    have hin3 : Hid (e' = 0 → PsIn (w.heap.size + 2) (k + 1) w3 (.slice A m kk) ps) := Lib.hid fun h0 => (hIn.out h0).low hsz2
    have y13 := r7.cell (i := 13) rfl
    have f13 := r7.free 13
    have s7 := r7.set 13 (.slice A m kk)
    have s6 := r6.far (p := ⟨w.heap.size + 1, 13, none⟩) (by show w.heap.size ≠ w.heap.size + 1; omega) (.slice A m kk)
    have hs3 := h3.other (g := w.heap.size + 1) (by omega) 13 (.slice A m kk)
    have hgs3 := hgw3.other (g := w.heap.size + 1) (Nat.le_succ _) 13 (.slice A m kk)
    have hins : Hid (e' = 0 → PsIn (w.heap.size + 2) (k + 1) (w3.setCell ⟨w.heap.size + 1, 13, none⟩ (.slice A m kk)) (.slice A m kk) ps) := Lib.hid fun h0 => (hin3.out h0).setCell (a := ⟨w.heap.size + 1, 13, none⟩) (by show w.heap.size + 1 < w.heap.size + 2; omega) _
    obtain ⟨w4, hw4x⟩ : ∃ w4, w4 = w3.setCell ⟨w.heap.size + 1, 13, none⟩ (.slice A m kk) := ⟨_, rfl⟩
    rw [← hw4x] at s7 s6 hs3 hgs3 hins
    obtain ⟨i2, e2, hp2⟩ : ∃ i2 e2, (i2, e2) = passS l 41 j e' := ⟨_, _, rfl⟩
    have cp2 := rpass_any Hs.out j e' 41 w4 hs3 hj (by decide) i2 e2 hp2
    have HS := Lib.hid (Tx.list_math (tk := Tx.take l k) (kd := 4 + (q : Int)) HP.out HV.out hPP.out hp2)
    have HZ := Lib.hid (fun h0 => Tx.pass_err hp2 h0)
    have HW4 := Lib.hid hw4x
    clear cq hPP hIn n6 n7 hgw2 hg3 hin3 h3 r6 r7 hgw3 hp2 hs3 hw4x
    go_wp2_with (fail)
    rw [← HW4.out]
    refine cp2.mono ?_
    rintro E w5 ⟨rfl, h5, hg5⟩
    have r6 := hg5.lies s6 hgR
    have r7 := hg5.lies s7 h7R
    have hgw5 := hgs3.trans hg5
    have hin5 : Hid (e2 = 0 → PsIn (w.heap.size + 2) (k + 1) w5 (.slice A m kk) ps) := Lib.hid fun h0 => (hins.out (HZ.out h0)).gw hg5 (by omega)
    clear cp2 s6 s7 hgs3 hg5 y13 f13 hins
    have q0 := r7.cell (i := 0) rfl
    have q1 := r7.cell (i := 1) rfl
    have q2 := r7.cell (i := 2) rfl
    have q3 := r7.cell (i := 3) rfl
    have q4 := r7.cell (i := 4) rfl
    have q5 := r7.cell (i := 5) rfl
    have q6 := r7.cell (i := 6) rfl
    have q7 := r7.cell (i := 7) rfl
    have q8 := r7.cell (i := 8) rfl
    have q9 := r7.cell (i := 9) rfl
    have q10 := r7.cell (i := 10) rfl
    have q11 := r7.cell (i := 11) rfl
    have q12 := r7.cell (i := 12) rfl
    have q13 := r7.cell (i := 13) rfl
    have y0 := r6.cell (i := 0) rfl
    have f0 := r6.free 0
    have y1 := r6.cell (i := 1) rfl
    have f1 := r6.free 1
    have y2 := r6.cell (i := 2) rfl
    have f2 := r6.free 2
    have y3 := r6.cell (i := 3) rfl
    have f3 := r6.free 3
    have y4 := r6.cell (i := 4) rfl
    have f4 := r6.free 4
    have y5 := r6.cell (i := 5) rfl
    have f5 := r6.free 5
    have y6 := r6.cell (i := 6) rfl
    have f6 := r6.free 6
    have y7 := r6.cell (i := 7) rfl
    have f7 := r6.free 7
    have y8 := r6.cell (i := 8) rfl
    have f8 := r6.free 8
    have y9 := r6.cell (i := 9) rfl
    have f9 := r6.free 9
    have y10 := r6.cell (i := 10) rfl
    have f10 := r6.free 10
    have y11 := r6.cell (i := 11) rfl
    have f11 := r6.free 11
    have y12 := r6.cell (i := 12) rfl
    have f12 := r6.free 12
    have y13 := r6.cell (i := 13) rfl
    have f13 := r6.free 13
    have LF : Lies _ w.heap.size _ [.int .i64 (4 + (q : Int)), .int .i64 0, .int .i64 0, .int .i64 0, .int .i64 0, .int .i64 0, .bool false, .int .i64 0, .int .i64 0, .int .i64 0, .int .i64 0, .bool false, .int .i64 0, .slice A m kk] := ((((((((((((((r6.set 0 (.int .i64 (4 + (q : Int)))).set 1 (.int .i64 0)).set 2 (.int .i64 0)).set 3 (.int .i64 0)).set 4 (.int .i64 0)).set 5 (.int .i64 0)).set 6 (.bool false)).set 7 (.int .i64 0)).set 8 (.int .i64 0)).set 9 (.int .i64 0)).set 10 (.int .i64 0)).set 11 (.bool false)).set 12 (.int .i64 0)).set 13 (.slice A m kk))
    have k0 := LF.cell (i := 0) rfl
    have k1 := LF.cell (i := 1) rfl
    have k2 := LF.cell (i := 2) rfl
    have k3 := LF.cell (i := 3) rfl
    have k4 := LF.cell (i := 4) rfl
    have k5 := LF.cell (i := 5) rfl
    have k6 := LF.cell (i := 6) rfl
    have k7 := LF.cell (i := 7) rfl
    have k8 := LF.cell (i := 8) rfl
    have k9 := LF.cell (i := 9) rfl
    have k10 := LF.cell (i := 10) rfl
    have k11 := LF.cell (i := 11) rfl
    have k12 := LF.cell (i := 12) rfl
    have k13 := LF.cell (i := 13) rfl
    have HF := Lib.hid ((((((((((((((h5.other hgt 0 (.int .i64 (4 + (q : Int)))).other hgt 1 (.int .i64 0)).other hgt 2 (.int .i64 0)).other hgt 3 (.int .i64 0)).other hgt 4 (.int .i64 0)).other hgt 5 (.int .i64 0)).other hgt 6 (.bool false)).other hgt 7 (.int .i64 0)).other hgt 8 (.int .i64 0)).other hgt 9 (.int .i64 0)).other hgt 10 (.int .i64 0)).other hgt 11 (.bool false)).other hgt 12 (.int .i64 0)).other hgt 13 (.slice A m kk))
    have HGF := Lib.hid ((((((((((((((hgw5.other (g := w.heap.size) (Nat.le_refl _) 0 (.int .i64 (4 + (q : Int)))).other (g := w.heap.size) (Nat.le_refl _) 1 (.int .i64 0)).other (g := w.heap.size) (Nat.le_refl _) 2 (.int .i64 0)).other (g := w.heap.size) (Nat.le_refl _) 3 (.int .i64 0)).other (g := w.heap.size) (Nat.le_refl _) 4 (.int .i64 0)).other (g := w.heap.size) (Nat.le_refl _) 5 (.int .i64 0)).other (g := w.heap.size) (Nat.le_refl _) 6 (.bool false)).other (g := w.heap.size) (Nat.le_refl _) 7 (.int .i64 0)).other (g := w.heap.size) (Nat.le_refl _) 8 (.int .i64 0)).other (g := w.heap.size) (Nat.le_refl _) 9 (.int .i64 0)).other (g := w.heap.size) (Nat.le_refl _) 10 (.int .i64 0)).other (g := w.heap.size) (Nat.le_refl _) 11 (.bool false)).other (g := w.heap.size) (Nat.le_refl _) 12 (.int .i64 0)).other (g := w.heap.size) (Nat.le_refl _) 13 (.slice A m kk))
    have HIF := Lib.hid (fun h0 => (((((((((((((((hin5.out h0).setCell (a := ⟨w.heap.size, 0, none⟩) (by show w.heap.size < w.heap.size + 2; omega) (.int .i64 (4 + (q : Int)))).setCell (a := ⟨w.heap.size, 1, none⟩) (by show w.heap.size < w.heap.size + 2; omega) (.int .i64 0)).setCell (a := ⟨w.heap.size, 2, none⟩) (by show w.heap.size < w.heap.size + 2; omega) (.int .i64 0)).setCell (a := ⟨w.heap.size, 3, none⟩) (by show w.heap.size < w.heap.size + 2; omega) (.int .i64 0)).setCell (a := ⟨w.heap.size, 4, none⟩) (by show w.heap.size < w.heap.size + 2; omega) (.int .i64 0)).setCell (a := ⟨w.heap.size, 5, none⟩) (by show w.heap.size < w.heap.size + 2; omega) (.int .i64 0)).setCell (a := ⟨w.heap.size, 6, none⟩) (by show w.heap.size < w.heap.size + 2; omega) (.bool false)).setCell (a := ⟨w.heap.size, 7, none⟩) (by show w.heap.size < w.heap.size + 2; omega) (.int .i64 0)).setCell (a := ⟨w.heap.size, 8, none⟩) (by show w.heap.size < w.heap.size + 2; omega) (.int .i64 0)).setCell (a := ⟨w.heap.size, 9, none⟩) (by show w.heap.size < w.heap.size + 2; omega) (.int .i64 0)).setCell (a := ⟨w.heap.size, 10, none⟩) (by show w.heap.size < w.heap.size + 2; omega) (.int .i64 0)).setCell (a := ⟨w.heap.size, 11, none⟩) (by show w.heap.size < w.heap.size + 2; omega) (.bool false)).setCell (a := ⟨w.heap.size, 12, none⟩) (by show w.heap.size < w.heap.size + 2; omega) (.int .i64 0)).setCell (a := ⟨w.heap.size, 13, none⟩) (by show w.heap.size < w.heap.size + 2; omega) (.slice A m kk)))
    clear r6 r7 h5 hgw5 LF hin5
    go_wp2_with (fail)
    exact bodyPost_ret (v := .agg #[.int .i64 (4 + (q : Int)), .int .i64 0, .int .i64 0, .int .i64 0, .int .i64 0, .int .i64 0, .bool false, .int .i64 0, .int .i64 0, .int .i64 0, .int .i64 0, .bool false, .int .i64 0, .slice A m kk]) (by simp [results, Tryz.results93, go_sem, k0, k1, k2, k3, k4, k5, k6, k7, k8, k9, k10, k11, k12, k13]) rfl ⟨⟨4 + (q : Int), 0, 0, Tx.zt, Tx.zt⟩, A, m, kk, ps, i2, e2, rfl, HS, Lib.hid (fun h0 => (HIF.out h0).low (by omega)), HF.out, HGF.out⟩
end Go.Proofs.YteimbdklakemaaaGreatDoor
