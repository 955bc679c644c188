/-
  THE LIBRARY's STABLE SORT at rows of rows: blocks, merged two by two; whole.
-/
import Derived.Test.YtaodobjekpacoaaBgvM
namespace Go.Proofs.Ytaodobjekpacoaa
open Go.RowKit Go.Sort
set_option maxHeartbeats 3200000

/-- rows of so many items each, in order -/
def Blks (B : Nat) (Bs : List (List Itm)) : Prop := ∀ X ∈ Bs, X.length = B ∧ So.Ord icm X
theorem Blks.snoc {B : Nat} {Bs : List (List Itm)} {X : List Itm} (h : Blks B Bs) (hl : X.length = B) (ho : So.Ord icm X) : Blks B (Bs ++ [X]) := by
  intro Y hY
  rcases List.mem_append.1 hY with h1 | h1
  · exact h Y h1
  · rw [List.mem_singleton.1 h1]; exact ⟨hl, ho⟩
set_option maxRecDepth 100000 in
theorem stable_any (w0 : World) (g : Nat) (D0 : List Itm) (N c : Nat) (w : World) (hN : N = D0.length) (hs : N ≤ 1000000) (h : Srt w0 g w D0) :
    Calls Try.prog 31 #[.slice (some ⟨g, 0, none⟩) N c, .int .i64 N, .func (.func 19) #[] #[]] w fun e w' => e = .returned (.tuple #[]) ∧ ∃ R, R.Perm D0 ∧ So.Ord icm R ∧ Srt w0 g w' R := by
  have HN := Lib.hid hN
  have H0 : Hid (∃ (Bs : List (List Itm)) (T : List Itm), Blks 20 Bs ∧ Bs.flatten.length = 0 ∧ (Bs.flatten ++ T).Perm D0 ∧ Srt w0 g w (Bs.flatten ++ T)) := Lib.hid ⟨[], D0, fun X hX => by simp at hX, rfl, .refl _, h⟩
  have hs2 : (N : Int) ≤ 1000000 := by omega
  clear hN h
  go_enter Try.func31, Try.ntmps31
  go_wp2_with (fail)
  go_loopw [7, 8] (fun s t wr => ∃ (a : Nat), s = .int .i64 a ∧ t = .int .i64 ((a : Int) + 20) ∧ a ≤ N ∧ Hid (∃ (Bs : List (List Itm)) (T : List Itm), Blks 20 Bs ∧ Bs.flatten.length = a ∧ (Bs.flatten ++ T).Perm D0 ∧ Srt w0 g wr (Bs.flatten ++ T))) (fun s _ _ => N - (intOf s).toNat)
  case atStart => exact ⟨0, rfl, rfl, Nat.zero_le _, H0⟩
  case round =>
    obtain ⟨a, rfl, rfl, ha, hz⟩ := hrel
    have i0 : (a : Int) ≤ 1000000 := by omega
    by_cases hlt : a + 20 ≤ N
    · as_aux_lemma =>
      obtain ⟨Bs, T, hB, hl, hp, hsr⟩ := hz.out
      have hpl := hp.length_eq
      rw [List.length_append, hl, ← HN.out] at hpl
      have eT : T = T.take 20 ++ T.drop 20 := (List.take_append_drop _ _).symm
      have lT : (T.take 20).length = 20 := by rw [List.length_take]; omega
      have i1 : (a : Int) + 20 ≤ (N : Int) := by omega
      obtain ⟨a2, ha2⟩ : ∃ a2, a2 = a + 20 := ⟨_, rfl⟩
      have e2 : (a : Int) + 20 = (a2 : Int) := by omega
      rw [eT] at hsr hp
      have ci := insert_any w0 g Bs.flatten (T.take 20) (T.drop 20) N c (a : Int) (a2 : Int) wr (by rw [HN.out, ← hp.length_eq]) (by omega) (by omega) hs hsr
      have HX := Lib.hid (And.intro hB (And.intro hl (And.intro hp (And.intro lT ha2))))
      have a26 : a2 ≤ N := by omega
      clear hB hl hp hsr hpl eT lT ha2 hz
      rw [e2]
      go_wp2_with (fail)
      refine ci.mono ?_
      rintro E w1 ⟨rfl, R, pR, oR, hsr⟩
      have HR := Lib.hid (And.intro pR (And.intro oR hsr))
      clear ci pR oR hsr
      go_wp2_with (fail)
      go_roundw
      case rel =>
        obtain ⟨hB, hl, hp, lT, ha2⟩ := HX.out
        obtain ⟨pR, oR, hsr⟩ := HR.out
        have hlR : R.length = 20 := by rw [pR.length_eq, lT]
        refine ⟨a2, rfl, rfl, a26, Lib.hid ⟨Bs ++ [R], T.drop 20, hB.snoc hlR oR, ?_, ?_, ?_⟩⟩
        · rw [List.flatten_append, List.length_append, hl]; simp [hlR]; omega
        · refine List.Perm.trans ?_ hp
          rw [List.flatten_append, List.append_assoc]
          refine List.Perm.append_left _ ?_
          simp only [List.flatten_cons, List.flatten_nil, List.append_nil]
          exact List.Perm.append_right _ pR
        · rw [List.flatten_append, List.append_assoc]; simpa using hsr
      case measure => obtain ⟨hB, hl, hp, lT, ha2⟩ := HX.out; simp [intOf]; omega
    · as_aux_lemma =>
      obtain ⟨Bs, T, hB, hl, hp, hsr⟩ := hz.out
      have hpl := hp.length_eq
      rw [List.length_append, hl, ← HN.out] at hpl
      have i1 : ¬ ((a : Int) + 20 ≤ (N : Int)) := by omega
      have ci := insert_any w0 g Bs.flatten T [] N c (a : Int) (N : Int) wr (by rw [List.append_nil, HN.out, ← hp.length_eq]) (by omega) (by omega) hs (by rw [List.append_nil]; exact hsr)
      have HX := Lib.hid (And.intro hB (And.intro hl (And.intro hp hpl)))
      clear hB hl hp hsr hpl hz
      go_wp2_with (fail)
      refine ci.mono ?_
      rintro E w1 ⟨rfl, R, pR, oR, hsr⟩
      have H1 : Hid (∃ (Bs : List (List Itm)) (R : List Itm), Blks 20 Bs ∧ R.length < 20 ∧ So.Ord icm R ∧ (Bs.flatten ++ R).Perm D0 ∧ Srt w0 g w1 (Bs.flatten ++ R)) := Lib.hid (by
        obtain ⟨hB, hl, hp, hpl⟩ := HX.out
        exact ⟨Bs, R, hB, by rw [pR.length_eq]; omega, oR, (List.Perm.append_left _ pR).trans hp, by simpa using hsr⟩)
      clear ci pR oR hsr HX
      go_wp2_with (fail)
      go_loopw [6] (fun s wr => ∃ (B : Nat), s = .int .i64 B ∧ 1 ≤ B ∧ B ≤ 4000000 ∧ Hid (∃ (Bs : List (List Itm)) (R : List Itm), Blks B Bs ∧ R.length < B ∧ So.Ord icm R ∧ (Bs.flatten ++ R).Perm D0 ∧ Srt w0 g wr (Bs.flatten ++ R))) (fun s _ => N - (intOf s).toNat)
      case atStart => exact ⟨20, rfl, by omega, by omega, H1⟩
      case round =>
        obtain ⟨B, rfl, hB1, hB6, hz⟩ := hrel
        by_cases hlt2 : B < N
        · as_aux_lemma =>
          obtain ⟨Bs0, R0, hBs0, hR0, oR0, hp0, hsr0⟩ := hz.out
          obtain ⟨B2, hB2⟩ : ∃ B2, B2 = 2 * B := ⟨_, rfl⟩
          have e2 : 2 * (B : Int) = (B2 : Int) := by omega
          have e2' : (B : Int) * 2 = (B2 : Int) := by omega
          have HB2 := Lib.hid hB2
          have hB26 : B2 ≤ 2000000 := by omega
          have H2 : Hid (∃ (Cs Bs : List (List Itm)), Blks B2 Cs ∧ Blks B Bs ∧ Cs.flatten.length = 0 ∧ (Cs.flatten ++ (Bs.flatten ++ R0)).Perm D0 ∧ Srt w0 g wr (Cs.flatten ++ (Bs.flatten ++ R0))) := Lib.hid ⟨[], Bs0, fun X hX => by simp at hX, hBs0, rfl, hp0, hsr0⟩
          have HR0 := Lib.hid (And.intro hR0 oR0)
          clear hBs0 hp0 hsr0 hz hB2 hR0 oR0
          go_wp2_with (fail)
          go_loopw [7, 8] (fun s t wr => ∃ (a : Nat), s = .int .i64 a ∧ t = .int .i64 ((a : Int) + (B2 : Int)) ∧ a ≤ N ∧ Hid (∃ (Cs Bs : List (List Itm)), Blks B2 Cs ∧ Blks B Bs ∧ Cs.flatten.length = a ∧ (Cs.flatten ++ (Bs.flatten ++ R0)).Perm D0 ∧ Srt w0 g wr (Cs.flatten ++ (Bs.flatten ++ R0)))) (fun s _ _ => N - (intOf s).toNat)
          case atStart => exact ⟨0, rfl, by simp, Nat.zero_le _, H2⟩
          case round =>
            obtain ⟨a, rfl, rfl, ha, hz⟩ := hrel
            have i0 : (a : Int) ≤ 1000000 := by omega
            by_cases hlt3 : a + B2 ≤ N
            · as_aux_lemma =>
              obtain ⟨Cs, Bs, hC, hB, hl, hp, hsr⟩ := hz.out
              have hpl := hp.length_eq
              rw [List.length_append, List.length_append, hl, ← HN.out] at hpl
              obtain ⟨hR0, oR0⟩ := HR0.out
              have hB2 := HB2.out
              obtain ⟨X, Y, Bs', rfl⟩ : ∃ X Y Bs', Bs = X :: Y :: Bs' := by
                cases Bs with
                | nil => simp at hpl; omega
                | cons X r =>
                  cases r with
                  | nil => have := (hB X List.mem_cons_self).1; simp at hpl; omega
                  | cons Y r => exact ⟨X, Y, r, rfl⟩
              obtain ⟨lX, oX⟩ := hB X List.mem_cons_self
              obtain ⟨lY, oY⟩ := hB Y (List.mem_cons_of_mem _ List.mem_cons_self)
              have hB' : Blks B Bs' := fun Z hZ => hB Z (List.mem_cons_of_mem _ (List.mem_cons_of_mem _ hZ))
              have eB : (X :: Y :: Bs').flatten ++ R0 = X ++ (Y ++ (Bs'.flatten ++ R0)) := by simp
              rw [eB] at hp hsr
              obtain ⟨m, hm⟩ : ∃ m, m = a + B := ⟨_, rfl⟩
              have em : (a : Int) + (B : Int) = (m : Int) := by omega
              obtain ⟨b, hb⟩ : ∃ b, b = a + B2 := ⟨_, rfl⟩
              have eb : (a : Int) + (B2 : Int) = (b : Int) := by omega
              have cs := symm_any w0 g (X.length + Y.length) Cs.flatten X Y (Bs'.flatten ++ R0) N c (a : Int) (m : Int) (b : Int) wr (Nat.le_refl _) (by rw [HN.out, ← hp.length_eq]) (by omega) (by omega) (by omega) (by omega) (by omega) oX oY hs hsr
              have hbN : (b : Int) ≤ (N : Int) := by omega
              have b6 : b ≤ N := by omega
              have HX := Lib.hid (And.intro hC (And.intro hB' (And.intro hl (And.intro hp (And.intro lX (And.intro lY (And.intro hb hB2)))))))
              clear hC hB hB' hl hp hsr hpl eB lX lY oX oY hm hb hB2 hR0 oR0 hz
              rw [eb]
              go_wp2_with (fail)
              refine cs.mono ?_
              rintro E w2 ⟨rfl, R, pR, oR, hsr⟩
              have HR := Lib.hid (And.intro pR (And.intro oR hsr))
              clear cs pR oR hsr
              go_wp2_with (fail)
              go_roundw
              case rel =>
                obtain ⟨hC, hB', hl, hp, lX, lY, hb, hB2⟩ := HX.out
                obtain ⟨pR, oR, hsr⟩ := HR.out
                have hlR : R.length = B2 := by rw [pR.length_eq, List.length_append]; omega
                refine ⟨b, rfl, rfl, b6, Lib.hid ⟨Cs ++ [R], Bs', hC.snoc hlR oR, hB', ?_, ?_, ?_⟩⟩
                · rw [List.flatten_append, List.length_append, hl]; simp [hlR]; omega
                · refine List.Perm.trans ?_ hp
                  rw [List.flatten_append, List.append_assoc]
                  refine List.Perm.append_left _ ?_
                  rw [← List.append_assoc X]
                  simp only [List.flatten_cons, List.flatten_nil, List.append_nil]
                  exact List.Perm.append_right (Bs'.flatten ++ R0) pR
                · rw [List.flatten_append, List.append_assoc]; simpa using hsr
              case measure => obtain ⟨hC, hB', hl, hp, lX, lY, hb, hB2⟩ := HX.out; simp [intOf]; omega
            · as_aux_lemma =>
              obtain ⟨Cs, Bs, hC, hB, hl, hp, hsr⟩ := hz.out
              have hpl := hp.length_eq
              rw [List.length_append, List.length_append, hl, ← HN.out] at hpl
              obtain ⟨hR0, oR0⟩ := HR0.out
              have hB2 := HB2.out
              have i1 : ¬ ((a : Int) + (B2 : Int) ≤ (N : Int)) := by omega
              obtain ⟨m, hm⟩ : ∃ m, m = a + B := ⟨_, rfl⟩
              have em : (a : Int) + (B : Int) = (m : Int) := by omega
              by_cases hmN : m < N
              · obtain ⟨X, rfl⟩ : ∃ X, Bs = [X] := by
                  cases Bs with
                  | nil => simp at hpl; omega
                  | cons X r =>
                    cases r with
                    | nil => exact ⟨X, rfl⟩
                    | cons Y r =>
                      have h1 := (hB X List.mem_cons_self).1
                      have h2 := (hB Y (List.mem_cons_of_mem _ List.mem_cons_self)).1
                      simp at hpl; omega
                obtain ⟨lX, oX⟩ := hB X List.mem_cons_self
                have eB : [X].flatten ++ R0 = X ++ (R0 ++ []) := by simp
                have hXR : X.length + R0.length + a = N := by simp at hpl; omega
                rw [eB] at hp hsr
                have cs := symm_any w0 g (X.length + R0.length) Cs.flatten X R0 [] N c (a : Int) (m : Int) (N : Int) wr (Nat.le_refl _) (by rw [HN.out, ← hp.length_eq]) (by omega) (by omega) (by omega) (by omega) (by omega) oX oR0 hs hsr
                have HX := Lib.hid (And.intro hC (And.intro hp (And.intro lX (And.intro hR0 hB2))))
                have hmN2 : (m : Int) < (N : Int) := by omega
                clear hC hB hl hp hsr hpl eB lX oX hm hB2 hR0 oR0 hz hXR
                go_wp2_with (fail)
                refine cs.mono ?_
                rintro E w2 ⟨rfl, R, pR, oR, hsr⟩
                have HR := Lib.hid (show ∃ (Bs : List (List Itm)) (R : List Itm), Blks B2 Bs ∧ R.length < B2 ∧ So.Ord icm R ∧ (Bs.flatten ++ R).Perm D0 ∧ Srt w0 g w2 (Bs.flatten ++ R) by
                  obtain ⟨hC, hp, lX, hR0, hB2⟩ := HX.out
                  exact ⟨Cs, R, hC, by rw [pR.length_eq, List.length_append]; omega, oR, (List.Perm.append_left _ (by simpa using pR)).trans hp, by simpa using hsr⟩)
                clear cs pR oR hsr
                go_wp2_with (fail)
                go_roundw
                case rel => exact ⟨B2, rfl, by have := HB2.out; omega, by omega, HR⟩
                case measure => have := HB2.out; simp [intOf]; omega
              · have HR := Lib.hid (show ∃ (Bs : List (List Itm)) (R : List Itm), Blks B2 Bs ∧ R.length < B2 ∧ So.Ord icm R ∧ (Bs.flatten ++ R).Perm D0 ∧ Srt w0 g wr (Bs.flatten ++ R) by
                  cases Bs with
                  | nil => exact ⟨Cs, R0, hC, by omega, oR0, by simpa using hp, by simpa using hsr⟩
                  | cons X r =>
                    obtain ⟨lX, oX⟩ := hB X List.mem_cons_self
                    have hr0 : r.flatten ++ R0 = [] := List.eq_nil_of_length_eq_zero (by rw [List.flatten_cons, List.length_append] at hpl; rw [List.length_append]; omega)
                    have e : (X :: r).flatten ++ R0 = X := by rw [List.flatten_cons, List.append_assoc, hr0, List.append_nil]
                    rw [e] at hp hsr
                    exact ⟨Cs, X, hC, by omega, oX, hp, hsr⟩)
                have hmN2 : ¬ ((m : Int) < (N : Int)) := by omega
                clear hC hB hl hp hsr hpl hm hB2 hR0 oR0 hz
                go_wp2_with (fail)
                go_roundw
                case rel => exact ⟨B2, rfl, by have := HB2.out; omega, by omega, HR⟩
                case measure => have := HB2.out; simp [intOf]; omega
        · obtain ⟨Bs, R, hBs, hR, oR, hp, hsr⟩ := hz.out
          have hpl := hp.length_eq
          rw [List.length_append, ← HN.out] at hpl
          have hres := Lib.hid (show ∃ R, R.Perm D0 ∧ So.Ord icm R ∧ Srt w0 g wr R by
            cases Bs with
            | nil => exact ⟨R, by simpa using hp, oR, by simpa using hsr⟩
            | cons X r =>
              obtain ⟨lX, oX⟩ := hBs X List.mem_cons_self
              have hr0 : r.flatten ++ R = [] := List.eq_nil_of_length_eq_zero (by rw [List.flatten_cons, List.length_append] at hpl; rw [List.length_append]; omega)
              have e : (X :: r).flatten ++ R = X := by rw [List.flatten_cons, List.append_assoc, hr0, List.append_nil]
              rw [e] at hp hsr
              exact ⟨X, hp, oX, hsr⟩)
          have hge : ¬ ((B : Int) < (N : Int)) := by omega
          clear hBs hR oR hp hsr hpl hz
          go_wp2_with (fail)
          go_end0
          exact ⟨rfl, hres.out⟩
theorem sortst_any (w0 : World) (g : Nat) (D0 : List Itm) (N c : Nat) (w : World) (hN : N = D0.length) (hs : N ≤ 1000000) (h : Srt w0 g w D0) :
    Calls Try.prog 27 #[.slice (some ⟨g, 0, none⟩) N c, .func (.func 19) #[] #[]] w fun e w' => e = .returned (.tuple #[]) ∧ ∃ R, R.Perm D0 ∧ So.Ord icm R ∧ Srt w0 g w' R := by
  have cs := stable_any w0 g D0 N c w hN hs h
  clear h hN
  go_enter Try.func27, Try.ntmps27
  go_wp2_with (fail)
  refine cs.mono ?_
  rintro E w2 ⟨rfl, hR⟩
  have HR := Lib.hid hR
  clear cs hR
  go_wp2_with (fail)
  go_end0
  exact ⟨rfl, HR.out⟩
end Go.Proofs.Ytaodobjekpacoaa
