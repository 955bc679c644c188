/-
  THE READER: digits.
-/
import Derived.Test.YteimbdklakemaaaGreatDoorTxfM
namespace Go.Proofs.YteimbdklakemaaaGreatDoor
open Go.RowKit Go.Sort
set_option maxHeartbeats 800000

theorem at_drop (l : List Int) (i k : Nat) : Tx.at_ l (i + k) = Tx.at_ (l.drop i) k := by
  unfold Tx.at_
  rw [List.getD_eq_getElem?_getD, List.getD_eq_getElem?_getD, List.getElem?_drop]
theorem tw_dig : ∀ (m : List Int) (k : Nat), k < (m.takeWhile Tx.isDig).length → Tx.isDig (Tx.at_ m k) = true
  | [], k, h => by simp at h
  | c :: r, k, h => by
    rw [List.takeWhile_cons] at h
    cases hc : Tx.isDig c with
    | false => rw [hc] at h; simp at h
    | true =>
      rw [hc] at h
      simp only [if_true, List.length_cons] at h
      cases k with
      | zero => exact hc
      | succ k => exact tw_dig r k (by omega)
theorem tw_stop : ∀ (m : List Int), Tx.isDig (Tx.at_ m (m.takeWhile Tx.isDig).length) = false
  | [] => rfl
  | c :: r => by
    rw [List.takeWhile_cons]
    cases hc : Tx.isDig c with
    | false => exact hc
    | true => exact tw_stop r
theorem run_dig {l : List Int} {i k : Nat} (h : k < Tx.run l i) : Tx.isDig (Tx.at_ l (i + k)) = true := by
  rw [at_drop]; exact tw_dig _ _ h
theorem run_stop (l : List Int) (i : Nat) : Tx.isDig (Tx.at_ l (i + Tx.run l i)) = false := by
  rw [at_drop]; exact tw_stop _

/-- what is told behind digits -/
def digitsS (l : List Int) (i : Nat) (e : Int) : Nat × Int :=
  if e ≠ 0 then (i, e) else if Tx.run l i = 0 then (i, 1) else if Tx.at_ l i = 48 ∧ 1 < Tx.run l i then (i + 1, 1) else (i + Tx.run l i, 0)
set_option maxRecDepth 100000 in
theorem rdigits_any {w0 : World} {R b c : Nat} {l : List Int} (hs : Src w0 R b c l) (i : Nat) (e : Int) (w : World) (h : Rd w0 w R b c l.length i e) (hi : i ≤ l.length) (i' : Nat) (e' : Int) (hS : (i', e') = digitsS l i e) :
    Calls Tryz.prog 102 #[.pointer (some ⟨R, 0, none⟩)] w fun E w' => E = .returned (.tuple #[]) ∧ Rd w0 w' R b c l.length i' e' ∧ Gw R w w' := by
  obtain ⟨N, hN⟩ : ∃ N, N = if e = 0 then Tx.run l i else 0 := ⟨_, rfl⟩
  have hle : i + N ≤ l.length := by
    rw [hN]; split
    · exact Tx.run_le hi
    · exact hi
  have hgo : ∀ k, k ≤ N → Tx.isDig (nextS l (i + k) e) = decide (k < N) := by
    intro k hk
    unfold nextS
    by_cases he : e = 0
    · rw [if_pos he] at hN ⊢
      by_cases hlt : k < N
      · rw [decide_eq_true hlt]; exact run_dig (by omega)
      · rw [decide_eq_false hlt]
        obtain rfl : k = Tx.run l i := by omega
        exact run_stop l i
    · rw [if_neg he] at hN ⊢
      rw [decide_eq_false (by omega)]
      rfl
  have hA : (i', e') = if N = 0 then failS i e i 1 else if 1 < N ∧ Tx.at_ l i = 48 then (i + 1, 1) else (i + N, 0) := by
    rw [hS]
    unfold digitsS failS
    by_cases he : e = 0
    · rw [if_pos he] at hN
      rw [if_neg (by simp [he]), ← hN, if_pos he]
      by_cases h0 : N = 0
      · rw [if_pos h0, if_pos h0]
      · rw [if_neg h0, if_neg h0]
        by_cases h1 : Tx.at_ l i = 48 ∧ 1 < N
        · rw [if_pos h1, if_pos h1.symm]
        · rw [if_neg h1, if_neg (fun g => h1 g.symm)]
    · rw [if_neg he] at hN
      rw [if_pos he, if_pos hN, if_neg he]
  have he0 : N ≠ 0 → e = 0 := by
    intro h0
    by_cases he : e = 0
    · exact he
    · rw [if_neg he] at hN; exact absurd hN h0
  have hlen := hs.len
  have Hs := Lib.hid hs
  have HG := Lib.hid hgo
  have HA := Lib.hid hA
  have HE := Lib.hid he0
  have Hr := Lib.hid h
  have x1 := h.lies.cell (i := 1) rfl
  clear hN hS hgo hA he0 hs h
  go_enter Tryz.func102, Tryz.ntmps102
  go_wp2_with (fail)
  go_loopw [] (fun wr => ∃ k : Nat, k ≤ N ∧ Rd w0 wr R b c l.length (i + k) e ∧ Gw R w wr) (fun wr => i + N - (intOf ((wr.cell? ⟨R, 1, none⟩).getD undef)).toNat)
  case atStart => exact ⟨0, Nat.zero_le _, Hr.out, Gw.refl _⟩
  case round =>
    obtain ⟨k, hk, hr, hg⟩ := hrel
    clear x1
    have hmu : (intOf ((wr.cell? ⟨R, 1, none⟩).getD undef)).toNat = i + k := by rw [hr.lies.cell (i := 1) rfl]; rfl
    have hdg := HG.out k hk
    obtain ⟨V, hV⟩ : ∃ V, V = nextS l (i + k) e := ⟨_, rfl⟩
    have cn := rnext_any Hs.out (i + k) e wr hr (by omega) V hV
    rw [← hV] at hdg
    have cd := fun w => tdigit_any V w
    rw [hdg] at cd
    have Hr1 := Lib.hid hr
    have Hg1 := Lib.hid hg
    clear hr hg hV hdg
    by_cases hlt : k < N
    · have hd : decide (k < N) = true := decide_eq_true hlt
      rw [hd] at cd
      have hw := wrap_small (n := i + k) (by omega)
      have hw2 : wrap64 ((i : Int) + (k : Int) + 1) = ((i + k + 1 : Nat) : Int) := by rw [← hw]; simp
      clear hd
      go_wp2_with (fail)
      refine cn.mono ?_
      rintro E w1 ⟨rfl, hb1⟩
      have h1 := Hr1.out.below hb1 Hr1.out.lt
      have g1 := Lib.hid (Hg1.out.trans (Gw.of hb1))
      clear cn hb1
      go_wp2_with (fail)
      refine (cd _).mono ?_
      rintro E w2 ⟨rfl, rfl⟩
      have x1 := h1.lies.cell (i := 1) rfl
      have f1 := h1.lies.free 1
      have H1 := Lib.hid h1
      clear cd h1
      go_wp2_with (fail)
      have h3 := H1.out.at_ (i + k + 1)
      have g3 := g1.out.trans (Gw.set (R := R) w1 1 (.int .i64 ((i + k + 1 : Nat) : Int)))
      have ec : ((i + k + 1 : Nat) : Int) = (i : Int) + (k : Int) + 1 := by omega
      rw [ec] at h3 g3
      clear x1 f1 H1 g1
      generalize w1.setCell ⟨R, 1, none⟩ (.int .i64 ((i : Int) + (k : Int) + 1)) = w3 at h3 g3 ⊢
      go_roundw
      case rel => exact ⟨k + 1, by omega, h3, g3⟩
      case measure =>
        have hmu2 : (intOf ((w3.cell? ⟨R, 1, none⟩).getD undef)).toNat = i + k + 1 := by rw [h3.lies.cell (i := 1) rfl]; rfl
        rw [hmu, hmu2]
        omega
    · obtain rfl : k = N := by omega
      have hd : decide (k < k) = false := decide_eq_false (by omega)
      rw [hd] at cd
      clear hd hmu
      have H0 := HA.out
      have HA2 := HA
      clear HA
      by_cases h0 : k = 0
      · rw [if_pos h0] at H0
        subst h0
        have HF := Lib.hid H0
        clear H0
        go_wp2_with (fail)
        refine cn.mono ?_
        rintro E w1 ⟨rfl, hb1⟩
        have h1 := Hr1.out.below hb1 Hr1.out.lt
        have g1 := Lib.hid (Hg1.out.trans (Gw.of hb1))
        have cf := rfail_any i e i 1 w1 h1 i' e' HF.out
        clear cn hb1
        go_wp2_with (fail)
        refine (cd _).mono ?_
        rintro E w2 ⟨rfl, rfl⟩
        have x1 := h1.lies.cell (i := 1) rfl
        have e1 : decide (((i + 0 : Nat) : Int) = (i : Int)) = true := by simp
        clear cd h1
        go_wp2_with (fail)
        refine cf.mono ?_
        rintro E w3 ⟨rfl, h3, g3⟩
        go_wp2_with (fail)
        go_end0
        exact ⟨rfl, h3, g1.out.trans g3⟩
      · rw [if_neg h0] at H0
        obtain rfl := HE.out h0
        have hil : i < l.length := by omega
        have h0c := at_some hil
        obtain ⟨z, hz⟩ : ∃ z, z = Tx.at_ l i := ⟨_, rfl⟩
        rw [← hz] at h0c H0
        have e1 : decide ((i : Int) + (k : Int) = (i : Int)) = false := by simp; omega
        have e2 : (((i : Int) + (k : Int)) == (i : Int)) = false := by simp; omega
        have hw := wrap_small (n := i) (by omega)
        have HF := Lib.hid H0
        clear H0 hz
        go_wp2_with (fail)
        refine cn.mono ?_
        rintro E w1 ⟨rfl, hb1⟩
        have h1 := Hr1.out.below hb1 Hr1.out.lt
        have g1 := Lib.hid (Hg1.out.trans (Gw.of hb1))
        clear cn hb1
        go_wp2_with (fail)
        refine (cd _).mono ?_
        rintro E w2 ⟨rfl, rfl⟩
        have x0 := h1.lies.cell (i := 0) rfl
        have x1 := h1.lies.cell (i := 1) rfl
        have x3 := h1.rune Hs.out h0c
        have H1 := Lib.hid h1
        have e3 : ¬ (l.length : Int) ≤ (i : Int) := by omega
        clear cd h1
        by_cases hk1 : 1 < k
        · have e4 : decide (((i + 1 : Nat) : Int) < (i : Int) + (k : Int)) = true := by simp; omega
          by_cases hz48 : z = 48
          · subst hz48
            have HF2 := Lib.hid (show (i', e') = failS (i + k) 0 (i + 1) 1 by rw [HF.out, if_pos ⟨hk1, rfl⟩, failS, if_pos rfl])
            have cf := rfail_any (i + k) 0 (i + 1) 1 w1 H1.out i' e' HF2.out
            go_wp2_with (fail)
            refine cf.mono ?_
            rintro E w3 ⟨rfl, h3, g3⟩
            go_wp2_with (fail)
            go_end0
            exact ⟨rfl, h3, g1.out.trans g3⟩
          · have e5 : (z == 48) = false := by simpa using hz48
            have e6 : decide (z = 48) = false := by simpa using hz48
            obtain ⟨rfl, rfl⟩ : i' = i + k ∧ e' = 0 := by
              have := HF.out
              rw [if_neg (fun g => hz48 g.2)] at this
              cases this
              exact ⟨rfl, rfl⟩
            go_wp2_with (fail)
            go_end0
            exact ⟨rfl, H1.out, g1.out⟩
        · have e4 : decide (((i + 1 : Nat) : Int) < (i : Int) + (k : Int)) = false := by simp; omega
          obtain ⟨rfl, rfl⟩ : i' = i + k ∧ e' = 0 := by
            have := HF.out
            rw [if_neg (fun g => hk1 g.1)] at this
            cases this
            exact ⟨rfl, rfl⟩
          go_wp2_with (fail)
          go_end0
          exact ⟨rfl, H1.out, g1.out⟩
end Go.Proofs.YteimbdklakemaaaGreatDoor
