/-
  THE READER: a number below n; a value.
-/
import Derived.Test.YteimbdklakemaaaGreatDoorTxhM
import Derived.Deep.Cut
import Derived.Deep.CutRange
namespace Go.Proofs.YteimbdklakemaaaGreatDoor
open Go.RowKit Go.Sort
set_option maxHeartbeats 3200000

theorem encs_le (l : List Int) : (⟨(Rn.encs l).toArray⟩ : ByteArray).size ≤ 4 * l.length := by
  rw [← runesBytes_eq]; exact runesBytes_size_le l
theorem par_of (s : List UInt8) (W : World) (hs : s.length ≤ 4000000) (hE : ErrR W) (q : Va.PR) (hq : q = Va.par s) :
    Calls Tryz.prog 103 #[.string ⟨s.toArray⟩] W fun e w' => e = .returned (.tuple #[.agg #[.bool q.z, .int .i64 q.v], .int .i64 q.e]) ∧ Below W.heap.size W w' := by
  rw [hq]
  exact parse_any ⟨s.toArray⟩ W (by show s.length ≤ _; omega) hE
theorem digits_place {l : List Int} {i j : Nat} {e ej : Int} (hi : i ≤ l.length) (hd : (j, ej) = digitsS l i e) : i ≤ j ∧ j ≤ l.length := by
  have hr := Tx.run_le hi
  unfold digitsS at hd
  split at hd
  · obtain ⟨rfl, _⟩ := pair_eq hd; exact ⟨Nat.le_refl _, hi⟩
  split at hd
  · obtain ⟨rfl, _⟩ := pair_eq hd; exact ⟨Nat.le_refl _, hi⟩
  split at hd
  · obtain ⟨rfl, _⟩ := pair_eq hd; omega
  · obtain ⟨rfl, _⟩ := pair_eq hd; omega
set_option maxRecDepth 100000 in
theorem rbelow_any {w0 : World} {R b c : Nat} {l : List Int} (hs : Src w0 R b c l) (i : Nat) (e n : Int) (w : World) (h : Rd w0 w R b c l.length i e) (hi : i ≤ l.length) :
    Calls Tryz.prog 101 #[.pointer (some ⟨R, 0, none⟩), .int .i64 n] w fun E w' => ∃ (v : Int) (i' : Nat) (e' : Int), E = .returned (.int .i64 v) ∧ Hid (Tx.Step (Tx.number l i false (n - 1)) i e v i' e') ∧ Rd w0 w' R b c l.length i' e' ∧ Gw R w w' := by
  obtain ⟨j, ej, hd⟩ : ∃ j ej, (j, ej) = digitsS l i e := ⟨_, _, rfl⟩
  have cd := rdigits_any hs i e w h hi j ej hd
  have hij : i ≤ j ∧ j ≤ l.length := digits_place hi hd
  obtain ⟨A, hsl, hcv⟩ := seg_text hs hij.1 hij.2
  have hsz := encs_le ((l.drop i).take (j - i))
  obtain ⟨s, hsd⟩ : ∃ s, s = Rn.encs ((l.drop i).take (j - i)) := ⟨_, rfl⟩
  obtain ⟨q, hq⟩ : ∃ q, q = Va.par s := ⟨_, rfl⟩
  have hs4 : s.length ≤ 4000000 := by
    rw [hsd]
    have h1 : (Rn.encs ((l.drop i).take (j - i))).length ≤ 4 * ((l.drop i).take (j - i)).length := hsz
    have := hs.len
    simp at h1
    omega
  have HM := fun i' e' => below_math hd q (by rw [hq, hsd]) (n := n) (i' := i') (e' := e')
  rw [← hsd] at hcv
  have HM2 := Lib.hid HM
  have x1 := h.lies.cell (i := 1) rfl
  have Hs := Lib.hid hs
  have Hcv := Lib.hid hcv
  have Hsl := Lib.hid hsl
  clear hd HM hsz hsd h hs hcv hsl
  go_enter Tryz.func101, Tryz.ntmps101
  go_wp2_with (fail)
  refine cd.mono ?_
  rintro E w1 ⟨rfl, h1, hg1⟩
  have y0 := h1.lies.cell (i := 0) rfl
  have y1 := h1.lies.cell (i := 1) rfl
  have cp : ∀ W, Below w1.heap.size w1 W → Calls Tryz.prog 103 #[.string ⟨s.toArray⟩] W fun e w' => e = .returned (.tuple #[.agg #[.bool q.z, .int .i64 q.v], .int .i64 q.e]) ∧ Below W.heap.size W w' :=
    fun W hb => par_of s W hs4 ((h1.below hb h1.lt).errR Hs.out) q hq
  have hcv : ∀ W, Below w1.heap.size w1 W → (convert 34 9 (.slice (some A) (j - i) (c - i))).run Tryz.prog W = .ok (.string ⟨s.toArray⟩) W := fun W hb => Hcv.out W (h1.base.trans (below_low hb (Nat.le_of_lt h1.lt)))
  have hsl := Hsl.out
  have H1 := Lib.hid h1
  have G1 := Lib.hid hg1
  have hS0 : Below w1.heap.size w1 w1 := Below.refl _ _
  have y0' : ∀ W, Below w1.heap.size w1 W → W.cell? ⟨R, 0, none⟩ = some (.slice (some ⟨b, 0, none⟩) l.length c) := cell_turn y0
  have y1' : ∀ W, Below w1.heap.size w1 W → W.cell? ⟨R, 1, none⟩ = some (.int .i64 j) := cell_turn y1
  have hbd : Below w1.heap.size w1 w1.drew := hS0.drew
  have hba : Below w1.heap.size w1 (w1.alloc (.cells #[.bool false, .int .i64 0] 39)).drew := (hS0.alloc (Nat.le_refl _) _).drew
  have hcv1 := hcv _ hbd
  have hcv2 := hcv _ hba
  have y0a : (w1.alloc (.cells #[.bool false, .int .i64 0] 39)).cell? ⟨R, 0, none⟩ = some (.slice (some ⟨b, 0, none⟩) l.length c) := y0' _ (below_new w1 _)
  have y1a : (w1.alloc (.cells #[.bool false, .int .i64 0] 39)).cell? ⟨R, 1, none⟩ = some (.int .i64 j) := y1' _ (below_new w1 _)
  have cp1 := cp _ hbd
  have cp2 := cp _ hba
  clear cd h1 hg1 x1 hij hs4 hq y0' y1' hcv cp
  go_upto_region 3 with (fail)
  go_cut [6, 7] from 14 to 28 (fun s6 s7 wr => ∃ g, s6 = .pointer (some ⟨g, 0, none⟩) ∧ s7 = .int .i64 q.e ∧ Lies wr g 39 [.bool q.z, .int .i64 q.v] ∧ Below w1.heap.size w1 wr ∧ w1.heap.size ≤ g)
  case first =>
    go_region_with (first
        | (go_at_call 103; (with_reducible refine cp1.mono ?_); rintro e w' ⟨rfl, hbl1⟩)
        | (go_at_call 103; (with_reducible refine cp2.mono ?_); rintro e w' ⟨rfl, hbl1⟩; have lx := (Lies.new w1 39 [.bool false, .int .i64 0]).drew.below hbl1 (by simp [World.drew]); have lx0 := lx.cell (i := 0) rfl; have lx1 := lx.cell (i := 1) rfl; have lf0 := lx.free 0; have lf1 := lx.free 1))
    all_goals
      go_wp2_with (fail)
      go_meet
    all_goals first
      | exact ⟨_, rfl, rfl, Lies.new _ _ _, below_join (below_join hbd hbl1) (below_new _ _), (below_join hbd hbl1).size⟩
      | exact ⟨_, rfl, rfl, (lx.set 0 _).set 1 _, ((below_join hba hbl1).setCell (Nat.le_refl _) _).setCell (Nat.le_refl _) _, Nat.le_refl _⟩
  case rest =>
    obtain ⟨g, rfl, rfl, hL, hbw, hg⟩ := hcut
    have hr := H1.out.below hbw H1.out.lt
    have hgR : g ≠ R := by have := H1.out.lt; omega
    have hgw := G1.out.trans (Gw.of hbw)
    have z1 := hL.cell (i := 1) rfl
    clear cp1 cp2 hcv1 hcv2 hba hbd y0 y1 y0a y1a hsl Hsl Hcv hS0 H1 G1 hbw hg
    by_cases hbad : q.e ≠ 0 ∨ n ≤ q.v
    · obtain ⟨i', e', hS⟩ : ∃ i' e', (i', e') = failS j ej i 3 := ⟨_, _, rfl⟩
      have HS := Lib.hid (HM2.out i' e' (by rw [if_pos hbad]; exact hS))
      have cf := rfail_any j ej i 3 wc hr i' e' hS
      have hL2 := Lib.hid hL
      have hgw2 := Lib.hid hgw
      clear hL hgw hS hr HM2
      by_cases hq0 : q.e = 0
      · have e1 : (q.e != 0) = false := by simp [hq0]
        have e2 : decide (n ≤ q.v) = true := by simp; exact hbad.resolve_left (fun h => h hq0)
        clear hbad hq0
        go_wp2_with (fail)
        refine cf.mono ?_
        rintro E w3 ⟨rfl, h3, g3⟩
        have z1 := (g3.lies hL2.out hgR).cell (i := 1) rfl
        clear cf
        go_wp2_with (fail)
        go_ret
        exact ⟨q.v, i', e', rfl, HS, h3, hgw2.out.trans g3⟩
      · have e1 : (q.e != 0) = true := by simp [hq0]
        clear hbad hq0
        go_wp2_with (fail)
        refine cf.mono ?_
        rintro E w3 ⟨rfl, h3, g3⟩
        have z1 := (g3.lies hL2.out hgR).cell (i := 1) rfl
        clear cf
        go_wp2_with (fail)
        go_ret
        exact ⟨q.v, i', e', rfl, HS, h3, hgw2.out.trans g3⟩
    · have HS := Lib.hid (HM2.out j ej (by rw [if_neg hbad]))
      have hq0 : q.e = 0 := Decidable.not_not.1 (fun h => hbad (.inl h))
      have e1 : (q.e != 0) = false := by simp [hq0]
      have e2 : decide (n ≤ q.v) = false := by simp; have := fun h => hbad (.inr h); omega
      have hr2 := Lib.hid hr
      have hgw2 := Lib.hid hgw
      clear hbad hq0 hL hgw hr HM2
      go_wp2_with (fail)
      go_ret
      exact ⟨q.v, j, ej, rfl, HS, hr2.out, hgw2.out⟩
end Go.Proofs.YteimbdklakemaaaGreatDoor
