/-
  THE READER: a value.
-/
import Derived.Test.YteimbdklakemaaaGreatDoorTxiM
import Derived.Deep.Cut
import Derived.Deep.CutRange
namespace Go.Proofs.YteimbdklakemaaaGreatDoor
open Go.RowKit Go.Sort
set_option maxHeartbeats 3200000

theorem Rd.other {w0 w : World} {R b c n i g : Nat} {e : Int} (h : Rd w0 w R b c n i e) (hg : R < g) (k : Nat) (v : Value) : Rd w0 (w.setCell ⟨g, k, none⟩ v) R b c n i e :=
  ⟨h.lies.far (by show R ≠ g; omega) _, h.base.setCell (by show R ≤ g; omega) _⟩
theorem Gw.other {w w' : World} {R g : Nat} (h : Gw R w w') (hg : w.heap.size ≤ g) (k : Nat) (v : Value) : Gw R w (w'.setCell ⟨g, k, none⟩ v) :=
  ⟨h.os, h.tape, h.output, by have := h.size; simpa [World.setCell] using this, fun j hj hne => (Below.heap_setCell w' ⟨g, k, none⟩ v j (by show j ≠ g; omega)).trans (h.block j hj hne)⟩
/-- where the value's runes end, and which error digits told -/
def endS (l : List Int) (i : Nat) : Nat × Int := if Tx.at_ l i = 8709 then (i + 1, 0) else digitsS l (if Tx.at_ l i = 45 then i + 1 else i) 0
theorem end_place {l : List Int} {i j : Nat} {ej : Int} (hi : i ≤ l.length) (hd : (j, ej) = endS l i) : i ≤ j ∧ j ≤ l.length := by
  unfold endS at hd
  split at hd
  · next h =>
    obtain ⟨rfl, _⟩ := pair_eq hd
    have := Tx.at_lt h (by decide)
    omega
  · split at hd
    · next h =>
      have := Tx.at_lt h (by decide)
      have := digits_place (by omega) hd
      omega
    · exact digits_place hi hd
theorem end_math {l : List Int} {i j i' : Nat} {ej e' : Int} (hd : (j, ej) = endS l i) (q : Va.PR) (hq : q = Va.par (Rn.encs ((l.drop i).take (j - i)))) (hS : (i', e') = if q.e = 1 then failS j ej (j - 1) 1 else if q.e = 3 then failS j ej i 3 else (j, ej)) :
    ValPost l i q.z q.v i' e' := by
  unfold endS at hd
  by_cases hn : Tx.at_ l i = 8709
  · rw [if_pos hn] at hd
    obtain ⟨rfl, rfl⟩ := pair_eq hd
    have h1 := Tx.at_cons hn (by decide)
    rw [Nat.add_sub_cancel_left, h1] at hq
    have e3 : Rn.encs ((8709 :: l.drop (i + 1)).take 1) = Va.nul := by
      show Rn.enc ((8709 : Nat) : Int) ++ [] = _
      rw [Rn.enc_three (by decide) (by decide) (by decide)]; rfl
    rw [e3, Va.par_nul] at hq
    subst hq
    rw [if_neg (show ¬ (0 : Int) = 1 by decide), if_neg (show ¬ (0 : Int) = 3 by decide)] at hS
    obtain ⟨rfl, rfl⟩ := pair_eq hS
    unfold ValPost
    rw [if_pos hn]
    exact ⟨rfl, rfl, rfl, rfl⟩
  · rw [if_neg hn] at hd
    exact value_math hn rfl hd q hq hS
set_option maxRecDepth 100000 in
theorem rvalue_any {w0 : World} {R b c : Nat} {l : List Int} (hs : Src w0 R b c l) (i : Nat) (w : World) (h : Rd w0 w R b c l.length i 0) (hi : i ≤ l.length) (hi0 : 1 ≤ i) :
    Calls Tryz.prog 100 #[.pointer (some ⟨R, 0, none⟩)] w fun E w' => ∃ (z : Bool) (v : Int) (i' : Nat) (e' : Int), E = .returned (.agg #[.bool z, .int .i64 v]) ∧ Hid (ValPost l i z v i' e') ∧ Rd w0 w' R b c l.length i' e' ∧ Gw R w w' := by
  obtain ⟨j, ej, hd⟩ : ∃ j ej, (j, ej) = endS l i := ⟨_, _, rfl⟩
  have hij := end_place hi hd
  obtain ⟨A, hsl, hcv⟩ := seg_text hs hij.1 hij.2
  have hsz := encs_le ((l.drop i).take (j - i))
  obtain ⟨s, hsd⟩ : ∃ s, s = Rn.encs ((l.drop i).take (j - i)) := ⟨_, rfl⟩
  obtain ⟨q, hq⟩ : ∃ q, q = Va.par s := ⟨_, rfl⟩
  have hs4 : s.length ≤ 4000000 := by
    rw [hsd]
    have h1 : (Rn.encs ((l.drop i).take (j - i))).length ≤ 4 * ((l.drop i).take (j - i)).length := hsz
    have := hs.len
    simp at h1
    omega
  have HM := fun i' e' => end_math hd q (by rw [hq, hsd]) (i' := i') (e' := e')
  rw [← hsd] at hcv
  have HM2 := Lib.hid HM
  have Hs := Lib.hid hs
  have Hcv := Lib.hid hcv
  have Hsl := Lib.hid hsl
  have HD := Lib.hid hd
  have Hij := Lib.hid hij
  obtain ⟨o0, ho0⟩ : ∃ o0, o0 = Obj.cells #[.bool false, .int .i64 0] 39 := ⟨_, rfl⟩
  have h0 := h.alloc o0
  have x1 := h0.lies.cell (i := 1) rfl
  have l0 : Lies (w.alloc o0) w.heap.size 39 [.bool false, .int .i64 0] := by rw [ho0]; exact Lies.new _ _ _
  have hgR : w.heap.size ≠ R := by have := h.lt; omega
  have hg0 : Gw R w (w.alloc o0) := Gw.of (below_new _ _)
  obtain ⟨B, hB⟩ : ∃ B, B = (nextS l i 0 == 8709) := ⟨_, rfl⟩
  have cs := rskip_any hs i 0 8709 _ h0 hi B hB _ rfl
  have HB := Lib.hid hB
  have HO := Lib.hid ho0
  have HRw := Lib.hid h.lt
  clear hd HM hsz hsd h hs hcv hsl hij hB ho0 h0
  go_enter Tryz.func100, Tryz.ntmps100
  go_upto_region 1 with (fail)
  rw [← HO.out]
  go_wp2_with (fail)
  refine cs.mono ?_
  rintro E w1 ⟨rfl, h1, hg1⟩
  have l1 := hg1.lies l0 hgR
  have hgw1 := hg0.trans hg1
  clear cs x1 l0 hg0 hg1
  go_upto_if 12 with (fail)
  go_cut [] from 13 to 16 (fun wr => Rd w0 wr R b c l.length j ej ∧ Lies wr w.heap.size 39 [.bool false, .int .i64 0] ∧ Gw R w wr)
  case first =>
    have hD := HD.out
    have hB := HB.out
    unfold endS at hD
    rw [nextS, if_pos rfl] at hB
    cases B
    · have hn : Tx.at_ l i ≠ 8709 := by simpa using hB.symm
      rw [if_neg hn] at hD
      have hb0 : (if false = true then i + 1 else i) = i := rfl
      rw [hb0] at h1
      obtain ⟨B2, hB2⟩ : ∃ B2, B2 = (nextS l i 0 == 45) := ⟨_, rfl⟩
      have cs := rskip_any Hs.out i 0 45 w1 h1 hi B2 hB2 _ rfl
      have hs2 : (if B2 then i + 1 else i) = if Tx.at_ l i = 45 then i + 1 else i := by
        rw [nextS, if_pos rfl] at hB2
        by_cases h45 : Tx.at_ l i = 45
        · rw [if_pos h45, hB2, h45]; rfl
        · rw [if_neg h45, hB2]; simp [h45]
      rw [hs2] at cs
      have hle : (if Tx.at_ l i = 45 then i + 1 else i) ≤ l.length := by
        split
        · next hx => exact Tx.at_lt hx (by decide)
        · exact hi
      generalize (if Tx.at_ l i = 45 then i + 1 else i) = s2 at hD cs hle
      have hD2 := Lib.hid hD
      clear hD hB hn hs2 hB2 h1 hb0
      go_wp2_with (fail)
      refine cs.mono ?_
      rintro E w2 ⟨rfl, h2, hg2⟩
      have cd := rdigits_any Hs.out s2 0 w2 h2 hle j ej hD2.out
      have l2 := hg2.lies l1 hgR
      have hgw2 := hgw1.trans hg2
      clear cs h2 l1 hgw1 hg2
      go_wp2_with (fail)
      refine cd.mono ?_
      rintro E w3 ⟨rfl, h3, hg3⟩
      have l3 := hg3.lies l2 hgR
      have hgw3 := hgw2.trans hg3
      clear cd l2 hgw2 hg3
      go_wp2_with (fail)
      go_meet
      case rel => exact ⟨h3, l3, hgw3⟩
    · have hn : Tx.at_ l i = 8709 := by simpa using hB.symm
      rw [if_pos hn] at hD
      obtain ⟨rfl, rfl⟩ := pair_eq hD
      clear hD hB hn
      go_wp2_with (fail)
      go_meet
      case rel => exact ⟨h1, l1, hgw1⟩
  case rest =>
    obtain ⟨h2, l2, hgw2⟩ := hcut
    clear h1 l1 hgw1
    have y0 := h2.lies.cell (i := 0) rfl
    have y1 := h2.lies.cell (i := 1) rfl
    have cp : ∀ W, Below wc.heap.size wc W → Calls Tryz.prog 103 #[.string ⟨s.toArray⟩] W fun e w' => e = .returned (.tuple #[.agg #[.bool q.z, .int .i64 q.v], .int .i64 q.e]) ∧ Below W.heap.size W w' :=
      fun W hb => par_of s W hs4 ((h2.below hb h2.lt).errR Hs.out) q hq
    have hcv : ∀ W, Below wc.heap.size wc W → (convert 34 9 (.slice (some A) (j - i) (c - i))).run Tryz.prog W = .ok (.string ⟨s.toArray⟩) W := fun W hb => Hcv.out W (h2.base.trans (below_low hb (Nat.le_of_lt h2.lt)))
    have hsl := Hsl.out
    have H2 := Lib.hid h2
    have L2 := Lib.hid l2
    have G2 := Lib.hid hgw2
    have hS0 : Below wc.heap.size wc wc := Below.refl _ _
    have hbd : Below wc.heap.size wc wc.drew := hS0.drew
    have hba : Below wc.heap.size wc (wc.alloc (.cells #[.bool false, .int .i64 0] 39)).drew := (hS0.alloc (Nat.le_refl _) _).drew
    have hcv1 := hcv _ hbd
    have hcv2 := hcv _ hba
    have y0a : (wc.alloc (.cells #[.bool false, .int .i64 0] 39)).cell? ⟨R, 0, none⟩ = some (.slice (some ⟨b, 0, none⟩) l.length c) := cell_turn y0 _ (below_new wc _)
    have y1a : (wc.alloc (.cells #[.bool false, .int .i64 0] 39)).cell? ⟨R, 1, none⟩ = some (.int .i64 j) := cell_turn y1 _ (below_new wc _)
    have cp1 := cp _ hbd
    have cp2 := cp _ hba
    clear h2 hcv cp hs4 hq l2 hgw2
    go_upto_region 5 with (fail)
    go_cut [4, 5] from 17 to 31 (fun s4 s5 wr => ∃ g, s4 = .pointer (some ⟨g, 0, none⟩) ∧ s5 = .int .i64 q.e ∧ Lies wr g 39 [.bool q.z, .int .i64 q.v] ∧ Below wc.heap.size wc wr ∧ wc.heap.size ≤ g)
    case first =>
      go_region_with (first
          | (go_at_call 103; (with_reducible refine cp1.mono ?_); rintro e w' ⟨rfl, hbl1⟩)
          | (go_at_call 103; (with_reducible refine cp2.mono ?_); rintro e w' ⟨rfl, hbl1⟩; have lx := (Lies.new wc 39 [.bool false, .int .i64 0]).drew.below hbl1 (by simp [World.drew]); have lx0 := lx.cell (i := 0) rfl; have lx1 := lx.cell (i := 1) rfl; have lf0 := lx.free 0; have lf1 := lx.free 1))
      all_goals
        go_wp2_with (fail)
        go_meet
      all_goals first
        | exact ⟨_, rfl, rfl, Lies.new _ _ _, below_join (below_join hbd hbl1) (below_new _ _), (below_join hbd hbl1).size⟩
        | exact ⟨_, rfl, rfl, (lx.set 0 _).set 1 _, ((below_join hba hbl1).setCell (Nat.le_refl _) _).setCell (Nat.le_refl _) _, Nat.le_refl _⟩
    case rest =>
      obtain ⟨g, rfl, rfl, hL, hbw, hg⟩ := hcut
      have hr := H2.out.below hbw H2.out.lt
      have hl0 := L2.out.below hbw L2.out.lt
      have hgR2 : g ≠ R := by have := H2.out.lt; omega
      have hgw := G2.out.trans (Gw.of hbw)
      have hne : w.heap.size ≠ g := by have := L2.out.lt; omega
      clear cp1 cp2 hcv1 hcv2 hba hbd y0 y1 y0a y1a hsl Hsl Hcv hS0 H2 L2 G2 hbw hg
      have hgt : R < w.heap.size := HRw.out
      obtain ⟨i', e', hS⟩ : ∃ i' e', (i', e') = if q.e = 1 then failS j ej (j - 1) 1 else if q.e = 3 then failS j ej i 3 else (j, ej) := ⟨_, _, rfl⟩
      have HS := Lib.hid (HM2.out i' e' hS)
      by_cases hq1 : q.e = 1
      · rw [if_pos hq1] at hS
        have hj1 : 1 ≤ j := Nat.le_trans hi0 Hij.out.1
        have hw : wrap64 ((j : Int) - 1) = ((j - 1 : Nat) : Int) := by have := Hij.out.2; have := Hs.out.len; unfold wrap64; omega
        have cf := rfail_any j ej (j - 1) 1 wc hr i' e' hS
        have z0 := hL.cell (i := 0) rfl
        have x1 := hr.lies.cell (i := 1) rfl
        rw [hq1] at *
        have HL := Lib.hid hL
        have HL0 := Lib.hid hl0
        have HGw := Lib.hid hgw
        clear hL hl0 hgw hr z0 hS hq1
        go_wp2_with (fail)
        refine cf.mono ?_
        rintro E w3 ⟨rfl, h3, hg3⟩
        have hL3 := hg3.lies HL.out hgR2
        have hl3 := hg3.lies HL0.out hgR
        have hgw3 := HGw.out.trans hg3
        have z0 := hL3.cell (i := 0) rfl
        have z1 := hL3.cell (i := 1) rfl
        clear cf x1 hw
        have y0 := hl3.cell (i := 0) rfl
        have y1 := hl3.cell (i := 1) rfl
        have f0 := hl3.free 0
        have f1 := hl3.free 1
        have m1 := (hl3.set 0 (.bool q.z)).cell (i := 1) rfl
        have mf1 := (hl3.set 0 (.bool q.z)).free 1
        have k0 := ((hl3.set 0 (.bool q.z)).set 1 (.int .i64 q.v)).cell (i := 0) rfl
        have k1 := ((hl3.set 0 (.bool q.z)).set 1 (.int .i64 q.v)).cell (i := 1) rfl
        have HF := Lib.hid ((h3.other hgt 0 (.bool q.z)).other hgt 1 (.int .i64 q.v))
        have HGF := Lib.hid ((hgw3.other (g := w.heap.size) (Nat.le_refl _) 0 (.bool q.z)).other (g := w.heap.size) (Nat.le_refl _) 1 (.int .i64 q.v))
        clear hl3 h3 hgw3 hL3 hg3
        go_wp2_with (fail)
        exact bodyPost_ret (v := .agg #[.bool q.z, .int .i64 q.v]) (by simp [results, Tryz.results100, go_sem, k0, k1]) rfl ⟨q.z, q.v, i', e', rfl, HS, HF.out, HGF.out⟩
      by_cases hq3 : q.e = 3
      · rw [if_neg hq1, if_pos hq3] at hS
        have cf := rfail_any j ej i 3 wc hr i' e' hS
        rw [hq3] at *
        have HL := Lib.hid hL
        have HL0 := Lib.hid hl0
        have HGw := Lib.hid hgw
        clear hL hl0 hgw hr hS hq3 hq1
        go_wp2_with (fail)
        refine cf.mono ?_
        rintro E w3 ⟨rfl, h3, hg3⟩
        have hL3 := hg3.lies HL.out hgR2
        have hl3 := hg3.lies HL0.out hgR
        have hgw3 := HGw.out.trans hg3
        have z0 := hL3.cell (i := 0) rfl
        have z1 := hL3.cell (i := 1) rfl
        clear cf
        have y0 := hl3.cell (i := 0) rfl
        have y1 := hl3.cell (i := 1) rfl
        have f0 := hl3.free 0
        have f1 := hl3.free 1
        have m1 := (hl3.set 0 (.bool q.z)).cell (i := 1) rfl
        have mf1 := (hl3.set 0 (.bool q.z)).free 1
        have k0 := ((hl3.set 0 (.bool q.z)).set 1 (.int .i64 q.v)).cell (i := 0) rfl
        have k1 := ((hl3.set 0 (.bool q.z)).set 1 (.int .i64 q.v)).cell (i := 1) rfl
        have HF := Lib.hid ((h3.other hgt 0 (.bool q.z)).other hgt 1 (.int .i64 q.v))
        have HGF := Lib.hid ((hgw3.other (g := w.heap.size) (Nat.le_refl _) 0 (.bool q.z)).other (g := w.heap.size) (Nat.le_refl _) 1 (.int .i64 q.v))
        clear hl3 h3 hgw3 hL3 hg3
        go_wp2_with (fail)
        exact bodyPost_ret (v := .agg #[.bool q.z, .int .i64 q.v]) (by simp [results, Tryz.results100, go_sem, k0, k1]) rfl ⟨q.z, q.v, i', e', rfl, HS, HF.out, HGF.out⟩
      · rw [if_neg hq1, if_neg hq3] at hS
        obtain ⟨rfl, rfl⟩ := pair_eq hS
        have e1 : (q.e == 1) = false := by simpa using hq1
        have e2 : (q.e == 3) = false := by simpa using hq3
        have z0 := hL.cell (i := 0) rfl
        have z1 := hL.cell (i := 1) rfl
        clear hS hq1 hq3
        have y0 := hl0.cell (i := 0) rfl
        have y1 := hl0.cell (i := 1) rfl
        have f0 := hl0.free 0
        have f1 := hl0.free 1
        have m1 := (hl0.set 0 (.bool q.z)).cell (i := 1) rfl
        have mf1 := (hl0.set 0 (.bool q.z)).free 1
        have k0 := ((hl0.set 0 (.bool q.z)).set 1 (.int .i64 q.v)).cell (i := 0) rfl
        have k1 := ((hl0.set 0 (.bool q.z)).set 1 (.int .i64 q.v)).cell (i := 1) rfl
        have HF := Lib.hid ((hr.other hgt 0 (.bool q.z)).other hgt 1 (.int .i64 q.v))
        have HGF := Lib.hid ((hgw.other (g := w.heap.size) (Nat.le_refl _) 0 (.bool q.z)).other (g := w.heap.size) (Nat.le_refl _) 1 (.int .i64 q.v))
        clear hl0 hr hgw hL
        go_wp2_with (fail)
        exact bodyPost_ret (v := .agg #[.bool q.z, .int .i64 q.v]) (by simp [results, Tryz.results100, go_sem, k0, k1]) rfl ⟨q.z, q.v, i', e', rfl, HS, HF.out, HGF.out⟩
end Go.Proofs.YteimbdklakemaaaGreatDoor
