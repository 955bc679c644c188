/-
  THE DOCUMENT's ANSWERS OF LAYER 10: Size; LeafOf, On.
-/
import Derived.Test.YteimbdklakemaaaGreatDoorTrsM
import Derived.Test.YteimbdklakemaaaGreatDoorGPred
namespace Go.Proofs.YteimbdklakemaaaGreatDoor
open Go.RowKit Go.Sort
set_option maxHeartbeats 1600000

set_option maxRecDepth 100000 in
theorem r10size_any (d : Nat) : ∀ (a : Tr) (u v : Value) (M : Int) (w : World), TsAt d w u a.ks → PsSome w v a.cs → 1 ≤ M → M ≤ 1000000 →
    Calls Tryz.prog 4 #[.agg #[.int .i64 a.k, .int .i64 a.t, u, v, .bool a.h], .int .i64 M] w
      fun e w' => e = .returned (.int .i64 (min (Tr.size a : Int) M)) ∧ Below w.heap.size w w' := by
  induction d using Nat.strongRecOn with
  | ind d ih =>
  intro a u v M w hu hv hM1 hM2
  obtain ⟨W0, hW0⟩ : ∃ W0, W0 = w.alloc (Obj.cells #[.int .i64 a.k, .int .i64 a.t, u, v, .bool a.h] 25) := ⟨_, rfl⟩
  obtain ⟨l0, p0, hb0⟩ := tr_box (a := a) (u := u) (v := v) hW0
  have HU := Lib.hid (hu.below hb0 (Nat.le_refl _))
  obtain ⟨D, hps⟩ := hv.below hb0 (Nat.le_refl _)
  obtain ⟨A, c, rfl, hl⟩ := hu.form
  obtain ⟨A', c', rfl, hl'⟩ := hps.form
  have HW := Lib.hid hW0
  have IH := Lib.hid ih
  have HP := Lib.hid p0
  have HL := Lib.hid l0.lt
  have HPS := Lib.hid hps
  have hsz := Tr.size_at a
  obtain ⟨n, hn⟩ : ∃ n, n = a.ks.length := ⟨_, rfl⟩
  obtain ⟨m, hm⟩ : ∃ m, m = a.cs.length := ⟨_, rfl⟩
  rw [← hn] at hl HU HP HW ⊢
  rw [← hm] at hl' HPS HP HW ⊢
  have HN := Lib.hid (And.intro hn hm)
  have HSZ := Lib.hid hsz
  clear hW0 ih hu hv hps l0 p0 hn hm hsz
  go_enter Tryz.func4, Tryz.ntmps4
  go_wp2_with fail
  rw [← HW.out]
  go_loopw [5, 6] (fun s i wr => ∃ (q : Nat) (sv : Int), q ≤ m ∧ i = .int .i64 q ∧ s = .int .i64 sv ∧ 1 ≤ sv ∧ sv ≤ M ∧ Hid (sv = min (1 + (Pr.sizes (a.cs.take q) : Int)) M) ∧ Below W0.heap.size W0 wr) (fun _ i _ => m - (intOf i).toNat)
  case atStart => exact ⟨0, 1, Nat.zero_le _, rfl, rfl, by omega, by omega, Lib.hid (by rw [List.take_zero, Pr.sizes]; omega), Below.refl _ _⟩
  case round =>
    obtain ⟨q, sv, hq, rfl, rfl, hs1, hs2, hsv, hb⟩ := hrel
    have k3 := (HP.out.below hb (show w.heap.size < W0.heap.size from HL.out)).c3
    have k2 := (HP.out.below hb (show w.heap.size < W0.heap.size from HL.out)).c2
    have done : ¬ (q < m ∧ sv < M) → Hid (sv = min (1 + (Pr.sizes a.cs : Int)) M) := fun hnot => Lib.hid (by
      have h := hsv.out
      have hm := HN.out.2
      by_cases hlt : q < m
      · have hle : Pr.sizes (a.cs.take q) ≤ Pr.sizes a.cs := Pr.sizes_take q a.cs
        omega
      · rw [List.take_of_length_le (by omega)] at h
        exact h)
    have DONE := Lib.hid done
    clear done
    by_cases hin : q < m ∧ sv < M
    · as_aux_lemma =>
      obtain ⟨hlt, hsm⟩ := hin
      obtain ⟨p, gp⟩ : ∃ p, a.cs[q]? = some p := ⟨a.cs[q]'(by have := HN.out; omega), List.getElem?_eq_getElem _⟩
      have hu := HPS.out
      rw [HN.out.2] at hu
      obtain ⟨e, b, o, s, v, he, rfl, _, hx⟩ := hu.at_ gp
      obtain ⟨hcell, hps⟩ := hx wr hb
      have cs := r6size_any e p.f v p.ps (M - sv) wr hps (by omega) (by omega)
      have ht : a.cs.take (q + 1) = a.cs.take q ++ [p] := by rw [List.take_add_one, gp]; rfl
      have hpe : Pd.mk p.f p.ps = p := by cases p; rfl
      rw [hpe] at cs
      have hp1 := Pr.size_pos p
      have hS : Pr.sizes (a.cs.take (q + 1)) = Pr.sizes (a.cs.take q) + Pr.size p := by rw [ht, Pr.sizes_snoc]
      obtain ⟨x, hx1⟩ : ∃ x, x = min (Pr.size p : Int) (M - sv) := ⟨_, rfl⟩
      have hx2 : 1 ≤ x := by omega
      have hx3 : x ≤ M - sv := by omega
      have H3 : Hid (sv + x = min (1 + (Pr.sizes (a.cs.take (q + 1)) : Int)) M) := Lib.hid (by have := hsv.out; omega)
      rw [← hx1] at cs
      obtain ⟨q0, q1, q2, q3, q4, q5, q6, q7, q8, q9, q10, q11, q12, q13⟩ := hcell
      clear gp hx hps ht hpe hu hp1 hS hx1
      go_wp2_with fail
      refine cs.mono ?_
      rintro e w2 ⟨rfl, hb2⟩
      have hb' := below_join hb hb2
      clear cs q0 q1 q2 q3 q4 q5 q6 q7 q8 q9 q10 q11 q12 q13 k3 k2
      go_wp2_with fail
      go_roundw
      case rel => exact ⟨q + 1, sv + x, by omega, by go_num, rfl, by omega, by omega, H3, hb'⟩
      case measure => simp [intOf]; omega
    · as_aux_lemma =>
      have hsv2 := DONE.out hin
      have hguard : ¬ ((q : Int) < (m : Int)) ∨ ((q : Int) < (m : Int) ∧ ¬ (sv < M)) := by omega
      have hb1 := hb
      have H0 : Hid (∃ (q : Nat) (s2 : Int), q = 0 ∧ s2 = sv ∧ s2 = min (1 + (Pr.sizes a.cs : Int) + (Tr.sizes (a.ks.take q) : Int)) M) := Lib.hid ⟨0, sv, rfl, rfl, by rw [List.take_zero, Tr.sizes]; have := hsv2.out; omega⟩
      clear hin hsv DONE
      rcases hguard with g1 | ⟨g1, g2⟩
      all_goals
        go_wp2_with fail
        go_loopw [5, 7] (fun s i wr => ∃ (q : Nat) (sv : Int), q ≤ n ∧ i = .int .i64 q ∧ s = .int .i64 sv ∧ 1 ≤ sv ∧ sv ≤ M ∧ Hid (sv = min (1 + (Pr.sizes a.cs : Int) + (Tr.sizes (a.ks.take q) : Int)) M) ∧ Below W0.heap.size W0 wr) (fun _ i _ => n - (intOf i).toNat)
        case atStart => exact ⟨0, sv, Nat.zero_le _, rfl, rfl, hs1, hs2, Lib.hid (by obtain ⟨_, _, rfl, rfl, h⟩ := H0.out; exact h), hb1⟩
        case round =>
          obtain ⟨r, tv, hr, rfl, rfl, ht1, ht2, htv, hbr⟩ := hrel
          have k2 := (HP.out.below hbr (show w.heap.size < W0.heap.size from HL.out)).c2
          have done : ¬ (r < n ∧ tv < M) → Hid (tv = min (Tr.size a : Int) M) := fun hnot => Lib.hid (by
            have h := htv.out
            have hn := HN.out.1
            have hz := HSZ.out
            by_cases hlt : r < n
            · have hle : Tr.sizes (a.ks.take r) ≤ Tr.sizes a.ks := Tr.sizes_take r a.ks
              omega
            · rw [List.take_of_length_le (by omega)] at h
              omega)
          have DONE := Lib.hid done
          clear done
          by_cases hin : r < n ∧ tv < M
          · obtain ⟨hlt, hsm⟩ := hin
            obtain ⟨b, gb⟩ : ∃ b, a.ks[r]? = some b := ⟨a.ks[r]'(by have := HN.out; omega), List.getElem?_eq_getElem _⟩
            have hu := HU.out
            rw [HN.out.1] at hu
            obtain ⟨e, bb, oo, ss, xx, yy, he, rfl, _, hx⟩ := hu.at_ gb
            obtain ⟨hcell, hps, hks⟩ := hx wr hbr
            have cs := IH.out e he b xx yy (M - tv) wr hks hps (by omega) (by omega)
            have ht : a.ks.take (r + 1) = a.ks.take r ++ [b] := by rw [List.take_add_one, gb]; rfl
            have hp1 := Tr.size_pos b
            have hS : Tr.sizes (a.ks.take (r + 1)) = Tr.sizes (a.ks.take r) + Tr.size b := by rw [ht, Tr.sizes_snoc]
            obtain ⟨z, hz1⟩ : ∃ z, z = min (Tr.size b : Int) (M - tv) := ⟨_, rfl⟩
            have hz2 : 1 ≤ z := by omega
            have hz3 : z ≤ M - tv := by omega
            have H3 : Hid (tv + z = min (1 + (Pr.sizes a.cs : Int) + (Tr.sizes (a.ks.take (r + 1)) : Int)) M) := Lib.hid (by have := htv.out; omega)
            rw [← hz1] at cs
            obtain ⟨A2, c2, rfl, _⟩ := hks.form
            obtain ⟨D2, hps2⟩ := hps
            obtain ⟨A3, c3, rfl, _⟩ := hps2.form
            obtain ⟨q0, q1, q2, q3, q4⟩ := hcell
            clear gb hx hps2 hks ht hu hp1 hS hz1
            go_wp2_with fail
            refine cs.mono ?_
            rintro e w2 ⟨rfl, hb2⟩
            have hb' := below_join hbr hb2
            clear cs q0 q1 q2 q3 q4 k2
            go_wp2_with fail
            go_roundw
            case rel => exact ⟨r + 1, tv + z, by omega, by go_num, rfl, by omega, by omega, H3, hb'⟩
            case measure => simp [intOf]; omega
          · have he := DONE.out hin
            have hguard : ¬ ((r : Int) < (n : Int)) ∨ ((r : Int) < (n : Int) ∧ ¬ (tv < M)) := by omega
            clear hin DONE htv
            rcases hguard with g3 | ⟨g3, g4⟩
            all_goals
              go_wp2_with fail
              go_ret
              exact ⟨ret_int he.out, below_join hb0 hbr⟩
end Go.Proofs.YteimbdklakemaaaGreatDoor
