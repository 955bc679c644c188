/-
  A PREDICATE OUT OF A TEXT: the contract of package text's Parse.
-/
import Derived.Test.YtaodobjekpacoaaGreatDoorTxqM
namespace Go.Proofs.YtaodobjekpacoaaGreatDoor
open Go.RowKit Go.Sort
set_option maxHeartbeats 6400000

set_option maxRecDepth 100000 in
theorem prunes1_any (bs : List UInt8) (w : World) (hs : bs.length ≤ 1000000) :
    Calls Tryz.prog 15 #[.string ⟨bs.toArray⟩] w fun e w' => ∃ b c, e = .returned (.slice (some ⟨b, 0, none⟩) (Rn.runes bs).length c) ∧ (Rn.runes bs).length ≤ c ∧ c ≤ 9223372036854775807 ∧ w.heap.size ≤ b ∧ b < w'.heap.size ∧ (∀ (j : Nat) (u : Int), (Rn.runes bs)[j]? = some u → w'.cell? ⟨b, j, none⟩ = some (.int .i32 u)) ∧ Below w.heap.size w w' := by
  obtain ⟨i0, hi, hz0, hz1, hz2⟩ := info_parts Tryz.infoRune
  go_enter Tryz.func15, Tryz.ntmps15
  have hs63 : (⟨bs.toArray⟩ : ByteArray).size < 9223372036854775807 := by show bs.length < _; omega
  have hrc : Lib.runeCount ⟨bs.toArray⟩ ≤ bs.length := Lib.runeCount_le _
  have cr := fun w => Tryz.utf8_RuneCountInString ⟨bs.toArray⟩ w hs63
  generalize Lib.runeCount ⟨bs.toArray⟩ = q at hrc cr
  go_wp2_with fail
  refine (cr w).mono ?_
  rintro e w0 ⟨rfl, pos0, hw0⟩
  have hb0 : Below w.heap.size w w0 := by rw [hw0]; exact (Below.refl _ w).alloc (Nat.le_refl _) _
  clear hw0 cr
  go_wp2_with (first
    | (at_make; refine wpList_make_own _ rfl _ _ 42 rfl w.heap.size 21 i0 (.int .i32 0) 1 Tryz.underlying42 hi hz0 hz1 .i64 .i64 (q : Int) q rfl rfl rfl (by rw [hz2]; omega) (by unfold maxLen; omega) hb0.size ?_))
  intro w1 hown0 hgrow0
  have hb1 : Below w.heap.size w w1 := hb0.grown hgrow0 hb0.size (fun k hk => by cases hk)
  have hw1 := hb1.size
  have hk0 : (w1.iter ⟨bs.toArray⟩ 0).heap[w1.heap.size]? = some (.stringIter ⟨bs.toArray⟩ 0) := World.iter_heap w1 ⟨bs.toArray⟩ 0
  have ho0 : (w1.iter ⟨bs.toArray⟩ 0).ownsRow w.heap.size 21 1 (.slice (some ⟨w0.heap.size, 0, none⟩) 0 q) ([] : List Int).length (([] : List Int).map (.int .i32)) := hown0.alloc _
  have hbi : Below w.heap.size w (w1.iter ⟨bs.toArray⟩ 0) := hb1.alloc hw1 _
  clear hown0 hgrow0
  go_wp2
  go_loopw [3, 5] (fun v _ wr => ∃ (pos fuel : Nat) (acc : List Int), wr.heap[w1.heap.size]? = some (.stringIter ⟨bs.toArray⟩ pos) ∧ wr.ownsRow w.heap.size 21 1 v acc.length (acc.map (.int .i32)) ∧ v ≠ .slice none 0 0 ∧ Hid (acc ++ Rn.runesAt bs fuel pos = Rn.runes bs) ∧ bs.length ≤ pos + fuel ∧ acc.length ≤ pos ∧ Below w.heap.size w wr) (fun _ _ wr => bs.length - wr.iterPos (w1.heap.size))
  case atStart => exact ⟨0, bs.length, [], hk0, ho0, (by intro h; cases h), Lib.hid rfl, by omega, by simp, hbi⟩
  case round =>
    obtain ⟨pos, fuel, acc, hk, hown, hnn, hacc, hf, hal, hb⟩ := hrel
    have hmu : wr.iterPos (w1.heap.size) = pos := by simp [World.iterPos, hk]
    have hKlt : w1.heap.size < wr.heap.size := (Array.getElem?_eq_some_iff.1 hk).1
    by_cases hp : pos < bs.length
    · obtain ⟨f, rfl⟩ : ∃ f, fuel = f + 1 := ⟨fuel - 1, by omega⟩
      have hnx := next_rune (P := Tryz.prog) hk hp
      have hwd := Rn.dec_pos hp
      have hacc2 := hacc.out
      rw [runesAt_on hp] at hacc2
      obtain ⟨r, hr⟩ : ∃ r : Int, r = ((Rn.dec bs pos).1 : Int) := ⟨_, rfl⟩
      obtain ⟨p2, hp2⟩ : ∃ p2, p2 = pos + (Rn.dec bs pos).2 := ⟨_, rfl⟩
      rw [← hr, ← hp2] at hnx hacc2
      have hk1 := Lib.iterAt_heap wr (w1.heap.size) ⟨bs.toArray⟩ pos p2 hk
      have ho1 := own_iterAt (p2 := p2) hown hk
      have hb1 : Below w.heap.size w (wr.iterAt (w1.heap.size) ⟨bs.toArray⟩ p2) := Lib.below_iterAt hb (hw1) ⟨bs.toArray⟩ p2
      have hlt2 : p2 > pos := by omega
      have hsz1 : (wr.iterAt (w1.heap.size) ⟨bs.toArray⟩ p2).heap.size = wr.heap.size := Lib.iterAt_size _ _ _ _
      have Ha := Lib.hid hacc2
      have Hsz := Lib.hid hsz1
      clear hacc2 hacc hr hp2 hwd hk hown hsz1
      generalize wr.iterAt (w1.heap.size) ⟨bs.toArray⟩ p2 = W1 at hnx hk1 ho1 hb1 Hsz
      go_wp2_with (first
        | (at_builtin; refine wpList_append_own _ rfl _ _ 42 rfl w.heap.size 21 i0 (.int .i32 0) 1 4 Tryz.underlying42 hi hz0 hz1 hz2 rfl (by decide) _ _ _ rfl (ho1.alloc _) ⟨W1.heap.size, 0, none⟩ 1 1 [.int .i32 r] rfl rfl ?c1 ?c2 ?c3 ?c4 ?c5 ?_))
      case c1 => exact cell_one_new _ _ _
      case c2 => simp [Value.oneCell']
      case c3 => unfold maxLen; omega
      case c4 => omega
      case c5 => have := hb1.size; simp; omega
      intro v' w9 hown' hgrow _
      have hk2 := iter_kept (ho1.alloc _) hgrow ((Below.heap_alloc W1 _ _ (by have := Hsz.out; omega)).trans hk1)
      have hown2 := own_snoc hown'
      have hnn2 : v' ≠ .slice none 0 0 := by
        rintro rfl
        rcases hown'.2 with ⟨_, h0⟩ | ⟨g, cap, cur, h0, _⟩
        · omega
        · cases h0
      have hb2 := own_grown hb1 ho1 hgrow
      clear hown' hgrow hk1 ho1
      go_wp2
      go_roundw
      case rel => exact ⟨p2, f, acc ++ [r], hk2, hown2, hnn2, Lib.hid (by rw [← Ha.out]; simp), by omega, by simp; omega, hb2⟩
      case measure =>
        have hmu2 : w9.iterPos (w1.heap.size) = p2 := by simp [World.iterPos, hk2]
        rw [hmu, hmu2]
        omega
    · have hnx := next_done (P := Tryz.prog) hk hp
      have hacc2 := hacc.out
      rw [Rn.runesAt_end bs fuel hp, List.append_nil] at hacc2
      subst hacc2
      clear hk hmu
      go_wp2
      go_ret
      rcases hown.2 with ⟨h0, _⟩ | ⟨g, cap, cur, rfl, hbg, hg, hnc, hcm, _⟩
      · exact absurd h0 hnn
      · refine ⟨g, cap, rfl, hnc, by unfold maxLen at hcm; omega, hbg, (Array.getElem?_eq_some_iff.1 hg).1, fun j u hj => ?_, hb⟩
        have := hown.cells (g := g) rfl j (.int .i32 u) (by rw [List.getElem?_map, hj]; rfl)
        rwa [add_here] at this
theorem Rn.runes_len (bs : List UInt8) : (Rn.runes bs).length ≤ bs.length := Rn.runes_le bs bs.length 0
set_option maxRecDepth 100000 in
theorem tparse_of (hpred : ∀ {w0 : World} {R b c : Nat} {l : List Int}, Src w0 R b c l → PredAt w0 R b c l 4) (bs : List UInt8) (w : World) (hs : bs.length ≤ 1000000) (hE : ErrR w) :
    Calls Tryz.prog 8 #[.string ⟨bs.toArray⟩] w (GotP w (Tx.parse (Rn.runes bs))) := by
  have hll := Rn.runes_len bs
  obtain ⟨o0, ho0⟩ : ∃ o0, o0 = Obj.cells #[.int .i64 0, .int .i64 0, .int .i64 0, .int .i64 0, .int .i64 0, .int .i64 0, .bool false, .int .i64 0, .int .i64 0, .int .i64 0, .int .i64 0, .bool false, .int .i64 0, .slice none 0 0] 35 := ⟨_, rfl⟩
  have hba : Below w.heap.size w (w.alloc o0) := below_new _ _
  have l0 : Lies (w.alloc o0) w.heap.size 35 zeroPred := by rw [ho0]; exact Lies.new _ _ _
  have cr := prunes1_any bs (w.alloc o0) hs
  have hpe : Tx.parse (Rn.runes bs) = if (Tx.takeAt (Rn.runes bs) 0).e = 0 ∧ (Tx.takeAt (Rn.runes bs) 0).i < (Rn.runes bs).length then ⟨Tx.zp, (Tx.takeAt (Rn.runes bs) 0).i, 1⟩ else Tx.takeAt (Rn.runes bs) 0 := rfl
  generalize Rn.runes bs = l at hll cr hpe ⊢
  have ct := fun (b c : Nat) (w1 : World) => ttake_of hpred b c l w1
  generalize Tx.takeAt l 0 = T at hpe ct
  obtain ⟨x, ti, te⟩ := T
  simp only at hpe
  generalize Tx.parse l = P at hpe ⊢
  have HPE := Lib.hid hpe
  have HO := Lib.hid ho0
  have HE := Lib.hid hE
  have hl6 : l.length ≤ 1000000 := Nat.le_trans hll hs
  clear hpe ho0 hll hs hE
  go_enter Tryz.func8, Tryz.ntmps8
  go_upto_region 1 with (fail)
  rw [← HO.out]
  go_wp2_with (fail)
  refine cr.mono ?_
  rintro E w1 ⟨b, c, rfl, hc, hcM, hb1, hb2, hcell, hbw⟩
  have l1 := l0.below hbw l0.lt
  have hb3 := below_join hba hbw
  have ct1 := ct b c w1 hb2 hc hcM hcell hl6 (HE.out.below hb3 (Nat.le_refl _))
  clear cr ct l0 hba hcell hbw
  go_wp2_with (fail)
  refine ct1.mono ?_
  rintro E w3 ⟨f, A, m, kk, ps, rfl, hx, hin, hbw3⟩
  have l3 := l1.below hbw3 l1.lt
  have hbg := below_join hb3 hbw3
  obtain ⟨o8, ho8⟩ : ∃ o8, o8 = Obj.cells #[.int .i64 f.k, .int .i64 f.u, .int .i64 f.o, .int .i64 f.a.k, .int .i64 f.a.t, .int .i64 f.a.c, .bool f.a.z, .int .i64 f.a.n, .int .i64 f.b.k, .int .i64 f.b.t, .int .i64 f.b.c, .bool f.b.z, .int .i64 f.b.n, .slice A m kk] 35 := ⟨_, rfl⟩
  have l8 : Lies (w3.alloc o8) w3.heap.size 35 [.int .i64 f.k, .int .i64 f.u, .int .i64 f.o, .int .i64 f.a.k, .int .i64 f.a.t, .int .i64 f.a.c, .bool f.a.z, .int .i64 f.a.n, .int .i64 f.b.k, .int .i64 f.b.t, .int .i64 f.b.c, .bool f.b.z, .int .i64 f.b.n, .slice A m kk] := by rw [ho8]; exact Lies.new _ _ _
  have l4 := l3.alloc o8
  have hb4 := hbg.alloc hbg.size o8
  have HIN := Lib.hid ((hin.out.below (below_new w3 o8)).low (show w.heap.size + 1 ≤ w1.heap.size from l1.lt))
  have HO8 := Lib.hid ho8
  obtain ⟨w4, hw4⟩ : ∃ w4, w4 = w3.alloc o8 := ⟨_, rfl⟩
  have HW4 := Lib.hid hw4
  rw [← hw4] at l8 l4 hb4 HIN
  clear ct1 l3 hbg hin hw4 ho8 hb3 hbw3
  go_upto_region 3 with (fail)
  rw [← HO8.out, ← HW4.out]
  have q0 := l8.cell (i := 0) rfl
  have q1 := l8.cell (i := 1) rfl
  have q2 := l8.cell (i := 2) rfl
  have q3 := l8.cell (i := 3) rfl
  have q4 := l8.cell (i := 4) rfl
  have q5 := l8.cell (i := 5) rfl
  have q6 := l8.cell (i := 6) rfl
  have q7 := l8.cell (i := 7) rfl
  have q8 := l8.cell (i := 8) rfl
  have q9 := l8.cell (i := 9) rfl
  have q10 := l8.cell (i := 10) rfl
  have q11 := l8.cell (i := 11) rfl
  have q12 := l8.cell (i := 12) rfl
  have q13 := l8.cell (i := 13) rfl
  have y0 := l4.cell (i := 0) rfl
  have f0 := l4.free 0
  have y1 := l4.cell (i := 1) rfl
  have f1 := l4.free 1
  have y2 := l4.cell (i := 2) rfl
  have f2 := l4.free 2
  have y3 := l4.cell (i := 3) rfl
  have f3 := l4.free 3
  have y4 := l4.cell (i := 4) rfl
  have f4 := l4.free 4
  have y5 := l4.cell (i := 5) rfl
  have f5 := l4.free 5
  have y6 := l4.cell (i := 6) rfl
  have f6 := l4.free 6
  have y7 := l4.cell (i := 7) rfl
  have f7 := l4.free 7
  have y8 := l4.cell (i := 8) rfl
  have f8 := l4.free 8
  have y9 := l4.cell (i := 9) rfl
  have f9 := l4.free 9
  have y10 := l4.cell (i := 10) rfl
  have f10 := l4.free 10
  have y11 := l4.cell (i := 11) rfl
  have f11 := l4.free 11
  have y12 := l4.cell (i := 12) rfl
  have f12 := l4.free 12
  have y13 := l4.cell (i := 13) rfl
  have f13 := l4.free 13
  clear l8
  by_cases hbad : te = 0 ∧ ti < l.length
  · have hP := HPE.out
    rw [if_pos hbad] at hP
    subst hP
    obtain ⟨h0, hlt⟩ := hbad
    have e1 : (te == 0) = true := by simp [h0]
    have e2 : decide ((ti : Int) < (l.length : Int)) = true := by simp [hlt]
    have LF : Lies _ w.heap.size _ [.int .i64 0, .int .i64 0, .int .i64 0, .int .i64 0, .int .i64 0, .int .i64 0, .bool false, .int .i64 0, .int .i64 0, .int .i64 0, .int .i64 0, .bool false, .int .i64 0, .slice none 0 0] := ((((((((((((((l4.set 0 (.int .i64 0)).set 1 (.int .i64 0)).set 2 (.int .i64 0)).set 3 (.int .i64 0)).set 4 (.int .i64 0)).set 5 (.int .i64 0)).set 6 (.bool false)).set 7 (.int .i64 0)).set 8 (.int .i64 0)).set 9 (.int .i64 0)).set 10 (.int .i64 0)).set 11 (.bool false)).set 12 (.int .i64 0)).set 13 (.slice none 0 0))
    have k0 := LF.cell (i := 0) rfl
    have k1 := LF.cell (i := 1) rfl
    have k2 := LF.cell (i := 2) rfl
    have k3 := LF.cell (i := 3) rfl
    have k4 := LF.cell (i := 4) rfl
    have k5 := LF.cell (i := 5) rfl
    have k6 := LF.cell (i := 6) rfl
    have k7 := LF.cell (i := 7) rfl
    have k8 := LF.cell (i := 8) rfl
    have k9 := LF.cell (i := 9) rfl
    have k10 := LF.cell (i := 10) rfl
    have k11 := LF.cell (i := 11) rfl
    have k12 := LF.cell (i := 12) rfl
    have k13 := LF.cell (i := 13) rfl
    have HBF := Lib.hid ((((((((((((((hb4.setCell (p := ⟨w.heap.size, 0, none⟩) (Nat.le_refl _) (.int .i64 0)).setCell (p := ⟨w.heap.size, 1, none⟩) (Nat.le_refl _) (.int .i64 0)).setCell (p := ⟨w.heap.size, 2, none⟩) (Nat.le_refl _) (.int .i64 0)).setCell (p := ⟨w.heap.size, 3, none⟩) (Nat.le_refl _) (.int .i64 0)).setCell (p := ⟨w.heap.size, 4, none⟩) (Nat.le_refl _) (.int .i64 0)).setCell (p := ⟨w.heap.size, 5, none⟩) (Nat.le_refl _) (.int .i64 0)).setCell (p := ⟨w.heap.size, 6, none⟩) (Nat.le_refl _) (.bool false)).setCell (p := ⟨w.heap.size, 7, none⟩) (Nat.le_refl _) (.int .i64 0)).setCell (p := ⟨w.heap.size, 8, none⟩) (Nat.le_refl _) (.int .i64 0)).setCell (p := ⟨w.heap.size, 9, none⟩) (Nat.le_refl _) (.int .i64 0)).setCell (p := ⟨w.heap.size, 10, none⟩) (Nat.le_refl _) (.int .i64 0)).setCell (p := ⟨w.heap.size, 11, none⟩) (Nat.le_refl _) (.bool false)).setCell (p := ⟨w.heap.size, 12, none⟩) (Nat.le_refl _) (.int .i64 0)).setCell (p := ⟨w.heap.size, 13, none⟩) (Nat.le_refl _) (.slice none 0 0))
    clear LF
    clear l4 hb4 l1
    go_wp2_with (fail)
    exact bodyPost_ret (v := .tuple #[.agg #[.int .i64 0, .int .i64 0, .int .i64 0, .int .i64 0, .int .i64 0, .int .i64 0, .bool false, .int .i64 0, .int .i64 0, .int .i64 0, .int .i64 0, .bool false, .int .i64 0, .slice none 0 0], .int .i64 ti, .int .i64 1]) (by simp [results, Tryz.results8, go_sem, k0, k1, k2, k3, k4, k5, k6, k7, k8, k9, k10, k11, k12, k13]) rfl ⟨⟨0, 0, 0, Tx.zt, Tx.zt⟩, none, 0, 0, [], rfl, Lib.hid rfl, Lib.hid (PsIn.nil _ _ _), HBF.out⟩
  have hP := HPE.out
  rw [if_neg hbad] at hP
  subst hP
  by_cases h0 : te = 0
  · have hnl : ¬ ti < l.length := fun g => hbad ⟨h0, g⟩
    subst h0
    have e2 : decide ((ti : Int) < (l.length : Int)) = false := by simp; omega
    have e3 : decide (ti < l.length) = false := by simp; omega
    clear hbad
    have LF : Lies _ w.heap.size _ [.int .i64 f.k, .int .i64 f.u, .int .i64 f.o, .int .i64 f.a.k, .int .i64 f.a.t, .int .i64 f.a.c, .bool f.a.z, .int .i64 f.a.n, .int .i64 f.b.k, .int .i64 f.b.t, .int .i64 f.b.c, .bool f.b.z, .int .i64 f.b.n, .slice A m kk] := ((((((((((((((l4.set 0 (.int .i64 f.k)).set 1 (.int .i64 f.u)).set 2 (.int .i64 f.o)).set 3 (.int .i64 f.a.k)).set 4 (.int .i64 f.a.t)).set 5 (.int .i64 f.a.c)).set 6 (.bool f.a.z)).set 7 (.int .i64 f.a.n)).set 8 (.int .i64 f.b.k)).set 9 (.int .i64 f.b.t)).set 10 (.int .i64 f.b.c)).set 11 (.bool f.b.z)).set 12 (.int .i64 f.b.n)).set 13 (.slice A m kk))
    have k0 := LF.cell (i := 0) rfl
    have k1 := LF.cell (i := 1) rfl
    have k2 := LF.cell (i := 2) rfl
    have k3 := LF.cell (i := 3) rfl
    have k4 := LF.cell (i := 4) rfl
    have k5 := LF.cell (i := 5) rfl
    have k6 := LF.cell (i := 6) rfl
    have k7 := LF.cell (i := 7) rfl
    have k8 := LF.cell (i := 8) rfl
    have k9 := LF.cell (i := 9) rfl
    have k10 := LF.cell (i := 10) rfl
    have k11 := LF.cell (i := 11) rfl
    have k12 := LF.cell (i := 12) rfl
    have k13 := LF.cell (i := 13) rfl
    have HBF := Lib.hid ((((((((((((((hb4.setCell (p := ⟨w.heap.size, 0, none⟩) (Nat.le_refl _) (.int .i64 f.k)).setCell (p := ⟨w.heap.size, 1, none⟩) (Nat.le_refl _) (.int .i64 f.u)).setCell (p := ⟨w.heap.size, 2, none⟩) (Nat.le_refl _) (.int .i64 f.o)).setCell (p := ⟨w.heap.size, 3, none⟩) (Nat.le_refl _) (.int .i64 f.a.k)).setCell (p := ⟨w.heap.size, 4, none⟩) (Nat.le_refl _) (.int .i64 f.a.t)).setCell (p := ⟨w.heap.size, 5, none⟩) (Nat.le_refl _) (.int .i64 f.a.c)).setCell (p := ⟨w.heap.size, 6, none⟩) (Nat.le_refl _) (.bool f.a.z)).setCell (p := ⟨w.heap.size, 7, none⟩) (Nat.le_refl _) (.int .i64 f.a.n)).setCell (p := ⟨w.heap.size, 8, none⟩) (Nat.le_refl _) (.int .i64 f.b.k)).setCell (p := ⟨w.heap.size, 9, none⟩) (Nat.le_refl _) (.int .i64 f.b.t)).setCell (p := ⟨w.heap.size, 10, none⟩) (Nat.le_refl _) (.int .i64 f.b.c)).setCell (p := ⟨w.heap.size, 11, none⟩) (Nat.le_refl _) (.bool f.b.z)).setCell (p := ⟨w.heap.size, 12, none⟩) (Nat.le_refl _) (.int .i64 f.b.n)).setCell (p := ⟨w.heap.size, 13, none⟩) (Nat.le_refl _) (.slice A m kk))
    have HIF := Lib.hid ((((((((((((((HIN.out.setCell (a := ⟨w.heap.size, 0, none⟩) (Nat.lt_succ_self _) (.int .i64 f.k)).setCell (a := ⟨w.heap.size, 1, none⟩) (Nat.lt_succ_self _) (.int .i64 f.u)).setCell (a := ⟨w.heap.size, 2, none⟩) (Nat.lt_succ_self _) (.int .i64 f.o)).setCell (a := ⟨w.heap.size, 3, none⟩) (Nat.lt_succ_self _) (.int .i64 f.a.k)).setCell (a := ⟨w.heap.size, 4, none⟩) (Nat.lt_succ_self _) (.int .i64 f.a.t)).setCell (a := ⟨w.heap.size, 5, none⟩) (Nat.lt_succ_self _) (.int .i64 f.a.c)).setCell (a := ⟨w.heap.size, 6, none⟩) (Nat.lt_succ_self _) (.bool f.a.z)).setCell (a := ⟨w.heap.size, 7, none⟩) (Nat.lt_succ_self _) (.int .i64 f.a.n)).setCell (a := ⟨w.heap.size, 8, none⟩) (Nat.lt_succ_self _) (.int .i64 f.b.k)).setCell (a := ⟨w.heap.size, 9, none⟩) (Nat.lt_succ_self _) (.int .i64 f.b.t)).setCell (a := ⟨w.heap.size, 10, none⟩) (Nat.lt_succ_self _) (.int .i64 f.b.c)).setCell (a := ⟨w.heap.size, 11, none⟩) (Nat.lt_succ_self _) (.bool f.b.z)).setCell (a := ⟨w.heap.size, 12, none⟩) (Nat.lt_succ_self _) (.int .i64 f.b.n)).setCell (a := ⟨w.heap.size, 13, none⟩) (Nat.lt_succ_self _) (.slice A m kk))
    clear LF
    clear l4 hb4 l1
    go_wp2_with (fail)
    exact bodyPost_ret (v := .tuple #[.agg #[.int .i64 f.k, .int .i64 f.u, .int .i64 f.o, .int .i64 f.a.k, .int .i64 f.a.t, .int .i64 f.a.c, .bool f.a.z, .int .i64 f.a.n, .int .i64 f.b.k, .int .i64 f.b.t, .int .i64 f.b.c, .bool f.b.z, .int .i64 f.b.n, .slice A m kk], .int .i64 ti, .int .i64 0]) (by simp [results, Tryz.results8, go_sem, k0, k1, k2, k3, k4, k5, k6, k7, k8, k9, k10, k11, k12, k13]) rfl ⟨f, A, m, kk, ps, rfl, hx, Lib.hid (HIF.out.low (Nat.le_succ _)), HBF.out⟩
  · have e1 : (te == 0) = false := by simp [h0]
    clear hbad
    have LF : Lies _ w.heap.size _ [.int .i64 f.k, .int .i64 f.u, .int .i64 f.o, .int .i64 f.a.k, .int .i64 f.a.t, .int .i64 f.a.c, .bool f.a.z, .int .i64 f.a.n, .int .i64 f.b.k, .int .i64 f.b.t, .int .i64 f.b.c, .bool f.b.z, .int .i64 f.b.n, .slice A m kk] := ((((((((((((((l4.set 0 (.int .i64 f.k)).set 1 (.int .i64 f.u)).set 2 (.int .i64 f.o)).set 3 (.int .i64 f.a.k)).set 4 (.int .i64 f.a.t)).set 5 (.int .i64 f.a.c)).set 6 (.bool f.a.z)).set 7 (.int .i64 f.a.n)).set 8 (.int .i64 f.b.k)).set 9 (.int .i64 f.b.t)).set 10 (.int .i64 f.b.c)).set 11 (.bool f.b.z)).set 12 (.int .i64 f.b.n)).set 13 (.slice A m kk))
    have k0 := LF.cell (i := 0) rfl
    have k1 := LF.cell (i := 1) rfl
    have k2 := LF.cell (i := 2) rfl
    have k3 := LF.cell (i := 3) rfl
    have k4 := LF.cell (i := 4) rfl
    have k5 := LF.cell (i := 5) rfl
    have k6 := LF.cell (i := 6) rfl
    have k7 := LF.cell (i := 7) rfl
    have k8 := LF.cell (i := 8) rfl
    have k9 := LF.cell (i := 9) rfl
    have k10 := LF.cell (i := 10) rfl
    have k11 := LF.cell (i := 11) rfl
    have k12 := LF.cell (i := 12) rfl
    have k13 := LF.cell (i := 13) rfl
    have HBF := Lib.hid ((((((((((((((hb4.setCell (p := ⟨w.heap.size, 0, none⟩) (Nat.le_refl _) (.int .i64 f.k)).setCell (p := ⟨w.heap.size, 1, none⟩) (Nat.le_refl _) (.int .i64 f.u)).setCell (p := ⟨w.heap.size, 2, none⟩) (Nat.le_refl _) (.int .i64 f.o)).setCell (p := ⟨w.heap.size, 3, none⟩) (Nat.le_refl _) (.int .i64 f.a.k)).setCell (p := ⟨w.heap.size, 4, none⟩) (Nat.le_refl _) (.int .i64 f.a.t)).setCell (p := ⟨w.heap.size, 5, none⟩) (Nat.le_refl _) (.int .i64 f.a.c)).setCell (p := ⟨w.heap.size, 6, none⟩) (Nat.le_refl _) (.bool f.a.z)).setCell (p := ⟨w.heap.size, 7, none⟩) (Nat.le_refl _) (.int .i64 f.a.n)).setCell (p := ⟨w.heap.size, 8, none⟩) (Nat.le_refl _) (.int .i64 f.b.k)).setCell (p := ⟨w.heap.size, 9, none⟩) (Nat.le_refl _) (.int .i64 f.b.t)).setCell (p := ⟨w.heap.size, 10, none⟩) (Nat.le_refl _) (.int .i64 f.b.c)).setCell (p := ⟨w.heap.size, 11, none⟩) (Nat.le_refl _) (.bool f.b.z)).setCell (p := ⟨w.heap.size, 12, none⟩) (Nat.le_refl _) (.int .i64 f.b.n)).setCell (p := ⟨w.heap.size, 13, none⟩) (Nat.le_refl _) (.slice A m kk))
    have HIF := Lib.hid ((((((((((((((HIN.out.setCell (a := ⟨w.heap.size, 0, none⟩) (Nat.lt_succ_self _) (.int .i64 f.k)).setCell (a := ⟨w.heap.size, 1, none⟩) (Nat.lt_succ_self _) (.int .i64 f.u)).setCell (a := ⟨w.heap.size, 2, none⟩) (Nat.lt_succ_self _) (.int .i64 f.o)).setCell (a := ⟨w.heap.size, 3, none⟩) (Nat.lt_succ_self _) (.int .i64 f.a.k)).setCell (a := ⟨w.heap.size, 4, none⟩) (Nat.lt_succ_self _) (.int .i64 f.a.t)).setCell (a := ⟨w.heap.size, 5, none⟩) (Nat.lt_succ_self _) (.int .i64 f.a.c)).setCell (a := ⟨w.heap.size, 6, none⟩) (Nat.lt_succ_self _) (.bool f.a.z)).setCell (a := ⟨w.heap.size, 7, none⟩) (Nat.lt_succ_self _) (.int .i64 f.a.n)).setCell (a := ⟨w.heap.size, 8, none⟩) (Nat.lt_succ_self _) (.int .i64 f.b.k)).setCell (a := ⟨w.heap.size, 9, none⟩) (Nat.lt_succ_self _) (.int .i64 f.b.t)).setCell (a := ⟨w.heap.size, 10, none⟩) (Nat.lt_succ_self _) (.int .i64 f.b.c)).setCell (a := ⟨w.heap.size, 11, none⟩) (Nat.lt_succ_self _) (.bool f.b.z)).setCell (a := ⟨w.heap.size, 12, none⟩) (Nat.lt_succ_self _) (.int .i64 f.b.n)).setCell (a := ⟨w.heap.size, 13, none⟩) (Nat.lt_succ_self _) (.slice A m kk))
    clear LF
    clear l4 hb4 l1
    go_wp2_with (fail)
    exact bodyPost_ret (v := .tuple #[.agg #[.int .i64 f.k, .int .i64 f.u, .int .i64 f.o, .int .i64 f.a.k, .int .i64 f.a.t, .int .i64 f.a.c, .bool f.a.z, .int .i64 f.a.n, .int .i64 f.b.k, .int .i64 f.b.t, .int .i64 f.b.c, .bool f.b.z, .int .i64 f.b.n, .slice A m kk], .int .i64 ti, .int .i64 te]) (by simp [results, Tryz.results8, go_sem, k0, k1, k2, k3, k4, k5, k6, k7, k8, k9, k10, k11, k12, k13]) rfl ⟨f, A, m, kk, ps, rfl, hx, Lib.hid (HIF.out.low (Nat.le_succ _)), HBF.out⟩
end Go.Proofs.YtaodobjekpacoaaGreatDoor
