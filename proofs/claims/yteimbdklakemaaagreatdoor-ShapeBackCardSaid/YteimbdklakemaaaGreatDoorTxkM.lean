/-
  THE READER: a term.
-/
import Derived.Test.YteimbdklakemaaaGreatDoorTxjM
namespace Go.Proofs.YteimbdklakemaaaGreatDoor
open Go.RowKit Go.Sort
set_option maxHeartbeats 3200000

theorem step_le {α : Type} {g : Tx.Got α} {i i' n : Nat} {e e' : Int} {x : α} (h : Tx.Step g i e x i' e') (hi : i ≤ n) (hg : g.i ≤ n) : i' ≤ n := by
  by_cases he : e = 0
  · rw [(h.2 he).1]; exact hg
  · rw [(h.1 he).1]; exact hi
theorem pass_le {l : List Int} {c : Int} {i i' : Nat} {e e' : Int} (h : (i', e') = passS l c i e) (hi : i ≤ l.length) (hc : c ≠ -1) : i' ≤ l.length := by
  unfold passS at h
  split at h
  · obtain ⟨rfl, _⟩ := pair_eq h; exact hi
  split at h
  · next hx => obtain ⟨rfl, _⟩ := pair_eq h; exact Tx.at_lt hx hc
  · obtain ⟨rfl, _⟩ := pair_eq h; exact hi
theorem term_value {l : List Int} {i i' : Nat} {e' v : Int} {z : Bool} (h39 : Tx.at_ l i = 39) (h : ValPost l (i + 1) z v i' e') : Tx.Step (Tx.term l i) i 0 ⟨2, 0, 0, z, v⟩ i' e' := by
  refine ⟨fun h => absurd rfl h, fun _ => ?_⟩
  unfold ValPost at h
  unfold Tx.term
  by_cases hn : Tx.at_ l (i + 1) = 8709
  · rw [if_pos hn] at h
    obtain ⟨rfl, rfl, rfl, rfl⟩ := h
    rw [if_pos ⟨h39, hn⟩]
    exact ⟨rfl, rfl, fun _ => rfl⟩
  · rw [if_neg hn] at h
    obtain ⟨rfl, rfl, h3⟩ := h
    rw [if_neg (fun g => hn g.2), if_pos h39]
    refine ⟨rfl, rfl, fun h0 => ?_⟩
    obtain ⟨rfl, rfl⟩ := h3 h0
    rfl
theorem term_col {l : List Int} {i i1 i2 i3 : Nat} {e e1 e2 e3 v1 v2 : Int} (hB : false = (nextS l i e == 39)) (h1 : Tx.Step (Tx.number l i false 63) i e v1 i1 e1) (h2 : (i2, e2) = passS l 46 i1 e1) (h3 : Tx.Step (Tx.number l i2 false 3) i2 e2 v2 i3 e3) :
    Tx.Step (Tx.term l i) i e ⟨1, v1, v2, false, 0⟩ i3 e3 := by
  by_cases he : e = 0
  rotate_left
  · obtain ⟨rfl, rfl⟩ := h1.1 he
    rw [passS, if_pos he] at h2
    obtain ⟨rfl, rfl⟩ := pair_eq h2
    obtain ⟨rfl, rfl⟩ := h3.1 he
    exact ⟨fun _ => ⟨rfl, rfl⟩, fun h => absurd h he⟩
  subst he
  refine ⟨fun h => absurd rfl h, fun _ => ?_⟩
  obtain ⟨rfl, rfl, hx1⟩ := h1.2 rfl
  have h39 : Tx.at_ l i ≠ 39 := by
    rw [nextS, if_pos rfl] at hB
    simpa using hB.symm
  unfold Tx.term
  rw [if_neg (fun g => h39 g.1), if_neg h39]
  simp only
  unfold passS at h2
  by_cases ht : (Tx.number l i false 63).e = 0
  rotate_left
  · rw [if_pos ht] at h2 ⊢
    obtain ⟨rfl, rfl⟩ := pair_eq h2
    obtain ⟨rfl, rfl⟩ := h3.1 ht
    exact ⟨rfl, rfl, fun h => absurd h ht⟩
  rw [if_neg (fun g => g ht)] at h2 ⊢
  by_cases h46 : Tx.at_ l (Tx.number l i false 63).i = 46
  rotate_left
  · rw [if_neg h46] at h2
    rw [if_pos h46]
    obtain ⟨rfl, rfl⟩ := pair_eq h2
    obtain ⟨rfl, rfl⟩ := h3.1 (by decide)
    exact ⟨rfl, rfl, fun h => absurd h (by decide)⟩
  rw [if_pos h46] at h2
  rw [if_neg (fun g => g h46)]
  obtain ⟨rfl, rfl⟩ := pair_eq h2
  obtain ⟨rfl, rfl, hx3⟩ := h3.2 rfl
  refine ⟨rfl, rfl, fun h0 => ?_⟩
  rw [hx1 ht, hx3 h0]
set_option maxRecDepth 100000 in
theorem rterm_any {w0 : World} {R b c : Nat} {l : List Int} (hs : Src w0 R b c l) (i : Nat) (e : Int) (w : World) (h : Rd w0 w R b c l.length i e) (hi : i ≤ l.length) :
    Calls Tryz.prog 96 #[.pointer (some ⟨R, 0, none⟩)] w fun E w' => ∃ (x : Tm) (i' : Nat) (e' : Int), E = .returned (.agg #[.int .i64 x.k, .int .i64 x.t, .int .i64 x.c, .bool x.z, .int .i64 x.n]) ∧ Hid (Tx.Step (Tx.term l i) i e x i' e') ∧ Rd w0 w' R b c l.length i' e' ∧ Gw R w w' := by
  have Hs := Lib.hid hs
  obtain ⟨o0, ho0⟩ : ∃ o0, o0 = Obj.cells #[.int .i64 0, .int .i64 0, .int .i64 0, .bool false, .int .i64 0] 41 := ⟨_, rfl⟩
  have h0 := h.alloc o0
  have l0 : Lies (w.alloc o0) w.heap.size 41 [.int .i64 0, .int .i64 0, .int .i64 0, .bool false, .int .i64 0] := by rw [ho0]; exact Lies.new _ _ _
  have hgR : w.heap.size ≠ R := by have := h.lt; omega
  have hgt : R < w.heap.size := h.lt
  have hg0 : Gw R w (w.alloc o0) := Gw.of (below_new _ _)
  obtain ⟨B, hB⟩ : ∃ B, B = (nextS l i e == 39) := ⟨_, rfl⟩
  have cs := rskip_any hs i e 39 _ h0 hi B hB _ rfl
  have HO := Lib.hid ho0
  clear h hs ho0 h0
  cases B
  · have hb0 : (if false = true then i + 1 else i) = i := rfl
    rw [hb0] at cs
    have HB := Lib.hid hB
    clear hB hb0
    go_enter Tryz.func96, Tryz.ntmps96
    go_upto_region 1 with (fail)
    rw [← HO.out]
    go_wp2_with (fail)
    refine cs.mono ?_
    rintro E w1 ⟨rfl, h1, hg1⟩
    have l1 := hg1.lies l0 hgR
    have hgw1 := hg0.trans hg1
    have c1 := rbelow_any Hs.out i e 64 w1 h1 hi
    clear cs l0 hg0 hg1 h1
    go_wp2_with (fail)
    refine c1.mono ?_
    rintro E w2 ⟨v1, i1, e1, rfl, hst1, h2, hg2⟩
    have hi1 : i1 ≤ l.length := step_le hst1.out hi (Tx.number_le hi)
    have l2 := hg2.lies l1 hgR
    have hgw2 := hgw1.trans hg2
    obtain ⟨i2, e2, hp⟩ : ∃ i2 e2, (i2, e2) = passS l 46 i1 e1 := ⟨_, _, rfl⟩
    have cp := rpass_any Hs.out i1 e1 46 w2 h2 hi1 (by decide) i2 e2 hp
    have hi2 : i2 ≤ l.length := pass_le hp hi1 (by decide)
    have HP := Lib.hid hp
    clear c1 l1 hgw1 hg2 h2 hp
    go_wp2_with (fail)
    refine cp.mono ?_
    rintro E w3 ⟨rfl, h3, hg3⟩
    have l3 := hg3.lies l2 hgR
    have hgw3 := hgw2.trans hg3
    have c2 := rbelow_any Hs.out i2 e2 4 w3 h3 hi2
    clear cp l2 hgw2 hg3 h3
    go_wp2_with (fail)
    refine c2.mono ?_
    rintro E w4 ⟨v2, i3, e3, rfl, hst2, h4, hg4⟩
    have l4 := hg4.lies l3 hgR
    have hgw4 := hgw3.trans hg4
    have HS := Lib.hid (term_col HB.out hst1.out HP.out hst2.out)
    clear c2 l3 hgw3 hg4 hst1 hst2 HP HB
    have y0 := l4.cell (i := 0) rfl
    have f0 := l4.free 0
    have y1 := l4.cell (i := 1) rfl
    have f1 := l4.free 1
    have y2 := l4.cell (i := 2) rfl
    have f2 := l4.free 2
    have y3 := l4.cell (i := 3) rfl
    have f3 := l4.free 3
    have y4 := l4.cell (i := 4) rfl
    have f4 := l4.free 4
    have k0 := (((((l4.set 0 (.int .i64 1)).set 1 (.int .i64 v1)).set 2 (.int .i64 v2)).set 3 (.bool false)).set 4 (.int .i64 0)).cell (i := 0) rfl
    have k1 := (((((l4.set 0 (.int .i64 1)).set 1 (.int .i64 v1)).set 2 (.int .i64 v2)).set 3 (.bool false)).set 4 (.int .i64 0)).cell (i := 1) rfl
    have k2 := (((((l4.set 0 (.int .i64 1)).set 1 (.int .i64 v1)).set 2 (.int .i64 v2)).set 3 (.bool false)).set 4 (.int .i64 0)).cell (i := 2) rfl
    have k3 := (((((l4.set 0 (.int .i64 1)).set 1 (.int .i64 v1)).set 2 (.int .i64 v2)).set 3 (.bool false)).set 4 (.int .i64 0)).cell (i := 3) rfl
    have k4 := (((((l4.set 0 (.int .i64 1)).set 1 (.int .i64 v1)).set 2 (.int .i64 v2)).set 3 (.bool false)).set 4 (.int .i64 0)).cell (i := 4) rfl
    have HF := Lib.hid (((((h4.other hgt 0 (.int .i64 1)).other hgt 1 (.int .i64 v1)).other hgt 2 (.int .i64 v2)).other hgt 3 (.bool false)).other hgt 4 (.int .i64 0))
    have HGF := Lib.hid (((((hgw4.other (g := w.heap.size) (Nat.le_refl _) 0 (.int .i64 1)).other (g := w.heap.size) (Nat.le_refl _) 1 (.int .i64 v1)).other (g := w.heap.size) (Nat.le_refl _) 2 (.int .i64 v2)).other (g := w.heap.size) (Nat.le_refl _) 3 (.bool false)).other (g := w.heap.size) (Nat.le_refl _) 4 (.int .i64 0))
    clear l4 h4 hgw4
    go_wp2_with (fail)
    exact bodyPost_ret (v := .agg #[.int .i64 1, .int .i64 v1, .int .i64 v2, .bool false, .int .i64 0]) (by simp [results, Tryz.results96, go_sem, k0, k1, k2, k3, k4]) rfl ⟨⟨1, v1, v2, false, 0⟩, i3, e3, rfl, HS, HF.out, HGF.out⟩
  · obtain ⟨rfl, h39⟩ : e = 0 ∧ Tx.at_ l i = 39 := by
      unfold nextS at hB
      by_cases he : e = 0
      · rw [if_pos he] at hB
        exact ⟨he, by simpa using hB.symm⟩
      · rw [if_neg he] at hB; exact absurd hB (by decide)
    have hb0 : (if true = true then i + 1 else i) = i + 1 := rfl
    rw [hb0] at cs
    have H39 := Lib.hid h39
    clear hB hb0 h39
    go_enter Tryz.func96, Tryz.ntmps96
    go_upto_region 1 with (fail)
    rw [← HO.out]
    go_wp2_with (fail)
    refine cs.mono ?_
    rintro E w1 ⟨rfl, h1, hg1⟩
    have l1 := hg1.lies l0 hgR
    have hgw1 := hg0.trans hg1
    have c1 := rvalue_any Hs.out (i + 1) w1 h1 (Tx.at_lt H39.out (by decide)) (by omega)
    clear cs l0 hg0 hg1 h1
    go_wp2_with (fail)
    refine c1.mono ?_
    rintro E w2 ⟨z, v, i', e', rfl, hst, h2, hg2⟩
    have l2 := hg2.lies l1 hgR
    have hgw2 := hgw1.trans hg2
    have HS := Lib.hid (term_value H39.out hst.out)
    clear c1 l1 hgw1 hg2 hst
    have y0 := l2.cell (i := 0) rfl
    have f0 := l2.free 0
    have y1 := l2.cell (i := 1) rfl
    have f1 := l2.free 1
    have y2 := l2.cell (i := 2) rfl
    have f2 := l2.free 2
    have y3 := l2.cell (i := 3) rfl
    have f3 := l2.free 3
    have y4 := l2.cell (i := 4) rfl
    have f4 := l2.free 4
    have k0 := (((((l2.set 0 (.int .i64 2)).set 1 (.int .i64 0)).set 2 (.int .i64 0)).set 3 (.bool z)).set 4 (.int .i64 v)).cell (i := 0) rfl
    have k1 := (((((l2.set 0 (.int .i64 2)).set 1 (.int .i64 0)).set 2 (.int .i64 0)).set 3 (.bool z)).set 4 (.int .i64 v)).cell (i := 1) rfl
    have k2 := (((((l2.set 0 (.int .i64 2)).set 1 (.int .i64 0)).set 2 (.int .i64 0)).set 3 (.bool z)).set 4 (.int .i64 v)).cell (i := 2) rfl
    have k3 := (((((l2.set 0 (.int .i64 2)).set 1 (.int .i64 0)).set 2 (.int .i64 0)).set 3 (.bool z)).set 4 (.int .i64 v)).cell (i := 3) rfl
    have k4 := (((((l2.set 0 (.int .i64 2)).set 1 (.int .i64 0)).set 2 (.int .i64 0)).set 3 (.bool z)).set 4 (.int .i64 v)).cell (i := 4) rfl
    have HF := Lib.hid (((((h2.other hgt 0 (.int .i64 2)).other hgt 1 (.int .i64 0)).other hgt 2 (.int .i64 0)).other hgt 3 (.bool z)).other hgt 4 (.int .i64 v))
    have HGF := Lib.hid (((((hgw2.other (g := w.heap.size) (Nat.le_refl _) 0 (.int .i64 2)).other (g := w.heap.size) (Nat.le_refl _) 1 (.int .i64 0)).other (g := w.heap.size) (Nat.le_refl _) 2 (.int .i64 0)).other (g := w.heap.size) (Nat.le_refl _) 3 (.bool z)).other (g := w.heap.size) (Nat.le_refl _) 4 (.int .i64 v))
    clear l2 h2 hgw2
    go_wp2_with (fail)
    exact bodyPost_ret (v := .agg #[.int .i64 2, .int .i64 0, .int .i64 0, .bool z, .int .i64 v]) (by simp [results, Tryz.results96, go_sem, k0, k1, k2, k3, k4]) rfl ⟨⟨2, 0, 0, z, v⟩, i', e', rfl, HS, HF.out, HGF.out⟩
end Go.Proofs.YteimbdklakemaaaGreatDoor
