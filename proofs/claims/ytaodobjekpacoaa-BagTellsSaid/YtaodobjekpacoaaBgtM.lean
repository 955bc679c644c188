/-
  THE LIBRARY's STABLE SORT at rows of rows: insertion.
-/
import Derived.Test.YtaodobjekpacoaaBgsM
namespace Go.Proofs.Ytaodobjekpacoaa
open Go.RowKit Go.Sort
set_option maxHeartbeats 1600000

abbrev icm (x y : Itm) : Int := Bg.cr x.2 y.2
theorem icm_pre : So.Pre icm := ⟨fun a b => Bg.cr_cmp.pre.asym a.2 b.2, fun a b c => Bg.cr_cmp.pre.trans a.2 b.2 c.2⟩
theorem swap_comm (D : List Itm) {i j : Nat} (h : i ≠ j) : So.swap D i j = So.swap D j i := by
  unfold So.swap
  cases hi : D[i]? with
  | none => cases hj : D[j]? <;> rfl
  | some x =>
    cases hj : D[j]? with
    | none => rfl
    | some y => exact List.set_comm _ _ h
theorem Srt.cmps {w0 w : World} {g i j : Nat} {D : List Itm} {x y : Itm} (h : Srt w0 g w D) (hx : D[i]? = some x) (hy : D[j]? = some y) :
    ∀ W, Below w.heap.size w W → Calls Try.prog 19 #[x.1, y.1] W fun e w' => e = .returned (.int .i64 (icm x y)) ∧ Below W.heap.size W w' := fun W hb => by
  obtain ⟨h1, l1⟩ := h.rd x (List.mem_of_getElem? hx)
  obtain ⟨h2, l2⟩ := h.rd y (List.mem_of_getElem? hy)
  have hB := h.base.trans (below_low hb h.base.size)
  exact crow_any _ _ _ _ W (h1.below hB (Nat.le_refl _)) (h2.below hB (Nat.le_refl _)) (by omega) (by omega)
set_option maxRecDepth 100000 in
theorem insert_any (w0 : World) (g : Nat) (P Q S : List Itm) (N c : Nat) (a b : Int) (w : World) (hN : N = (P ++ (Q ++ S)).length) (ha : a = P.length) (hb : b = P.length + Q.length) (hs : N ≤ 1000000) (h : Srt w0 g w (P ++ (Q ++ S))) :
    Calls Try.prog 33 #[.slice (some ⟨g, 0, none⟩) N c, .int .i64 a, .int .i64 b, .func (.func 19) #[] #[]] w fun e w' => e = .returned (.tuple #[]) ∧ ∃ R, R.Perm Q ∧ So.Ord icm R ∧ Srt w0 g w' (P ++ (R ++ S)) := by
  obtain ⟨a, rfl⟩ : ∃ a' : Nat, a = a' := ⟨_, ha⟩
  obtain ⟨b, rfl⟩ : ∃ b' : Nat, b = b' := ⟨P.length + Q.length, by omega⟩
  have hN2 : N = a + Q.length + S.length := by rw [hN]; simp only [List.length_append]; omega
  have H0 : Hid (∃ R T : List Itm, (R ++ T).Perm Q ∧ R.length = min (a + 1 - a) Q.length ∧ So.Ord icm R ∧ Srt w0 g w (P ++ (R ++ (T ++ S)))) := Lib.hid (by
    cases Q with
    | nil => exact ⟨[], [], .refl _, by simp, So.Ord.nil, by simpa using h⟩
    | cons x r => exact ⟨[x], r, .refl _, by simp, So.Ord.one x, by simpa using h⟩)
  have HQ := Lib.hid (show a + Q.length = b ∧ a = P.length ∧ b ≤ N ∧ N = b + S.length by omega)
  have hsa : a ≤ 1000000 := by omega
  have hsb : b ≤ 1000000 := by omega
  clear h hN hN2 ha hb
  go_enter Try.func33, Try.ntmps33
  go_wp2_with (fail)
  go_loopw [8] (fun x wr => ∃ (i : Nat), x = .int .i64 i ∧ i ≤ 1000001 ∧ Hid (a + 1 ≤ i ∧ ∃ R T : List Itm, (R ++ T).Perm Q ∧ R.length = min (i - a) Q.length ∧ So.Ord icm R ∧ Srt w0 g wr (P ++ (R ++ (T ++ S))))) (fun x _ => 1000002 - (intOf x).toNat)
  case atStart => exact ⟨a + 1, by go_num, by omega, Lib.hid ⟨Nat.le_refl _, H0.out⟩⟩
  case round =>
    obtain ⟨i, rfl, hi6, hz⟩ := hrel
    by_cases hlt : i < b
    · obtain ⟨hia, R, T, hperm, hRl, hord, hsr⟩ := hz.out
      obtain ⟨hq1, hq2, hq3, hq4⟩ := HQ.out
      have hTl : 0 < T.length := by have := hperm.length_eq; rw [List.length_append] at this; omega
      obtain ⟨t, T', rfl⟩ : ∃ t T', T = t :: T' := by cases T with
        | nil => simp at hTl
        | cons t r => exact ⟨t, r, rfl⟩
      have hRl2 : R.length = i - a := by have := hperm.length_eq; rw [List.length_append] at this; omega
      have HPO := Lib.hid (And.intro hperm (And.intro hord (And.intro hia hRl2)))
      have HI0 : Hid (a ≤ i ∧ ∃ X Y : List Itm, X ++ Y = R ∧ X.length = i - a ∧ (∀ y ∈ Y, icm t y < 0) ∧ Srt w0 g wr (P ++ (X ++ (t :: (Y ++ (T' ++ S)))))) :=
        Lib.hid ⟨by omega, R, [], by simp, hRl2, by simp, by simpa using hsr⟩
      clear hperm hord hia hRl hRl2 hsr hTl hz hq1 hq2 hq3 hq4
      go_wp2_with (fail)
      go_loopw [9] (fun x wr => ∃ (j : Nat), x = .int .i64 j ∧ j ≤ 1000000 ∧ Hid (a ≤ j ∧ j ≤ i ∧ ∃ X Y : List Itm, X ++ Y = R ∧ X.length = j - a ∧ (∀ y ∈ Y, icm t y < 0) ∧ Srt w0 g wr (P ++ (X ++ (t :: (Y ++ (T' ++ S)))))) ) (fun x _ => (intOf x).toNat)
      case atStart => exact ⟨i, rfl, by omega, Lib.hid ⟨HI0.out.1, Nat.le_refl _, HI0.out.2⟩⟩
      case round =>
        obtain ⟨j, rfl, hj6, hz⟩ := hrel
        obtain ⟨haj, hji, X, Y, hXY, hXl, hY, hsr⟩ := hz.out
        have HXY := Lib.hid (And.intro hXY (And.intro hXl (And.intro hY (And.intro haj hji))))
        -- out of the inner loop
        have out : (∀ z, X.getLast? = some z → So.Le icm z t) → ∀ W, Srt w0 g W (P ++ (X ++ (t :: (Y ++ (T' ++ S))))) → ∃ (i' : Nat), (Value.int .i64 ((i : Int) + 1)) = .int .i64 i' ∧ i' ≤ 1000001 ∧ Hid (a + 1 ≤ i' ∧ ∃ R T : List Itm, (R ++ T).Perm Q ∧ R.length = min (i' - a) Q.length ∧ So.Ord icm R ∧ Srt w0 g W (P ++ (R ++ (T ++ S)))) := by
          intro hle W hW
          obtain ⟨hp, ho, hia, hRl⟩ := HPO.out
          have hpl := hp.length_eq
          rw [List.length_append, List.length_cons] at hpl
          refine ⟨i + 1, by go_num, by omega, Lib.hid ⟨by omega, X ++ t :: Y, T', ?_, ?_, ?_, ?_⟩⟩
          · refine List.Perm.trans ?_ hp
            rw [← hXY]
            simp only [List.append_assoc, List.cons_append]
            refine List.Perm.append_left X ?_
            exact List.perm_middle.symm
          · rw [← hXY, List.length_append] at hRl hpl
            simp only [List.length_append, List.length_cons]
            omega
          · exact So.Ord.insert icm_pre (by rw [hXY]; exact ho) hY hle
          · simpa using hW
        have OUT := Lib.hid out
        clear out
        by_cases hja : a < j
        · obtain ⟨X', z, rfl⟩ : ∃ X' z, X = X' ++ [z] := by
            rcases List.eq_nil_or_concat X with rfl | ⟨X', z, rfl⟩
            · simp at hXl; omega
            · exact ⟨X', z, by simp⟩
          obtain ⟨j1, hj1⟩ : ∃ j1, j = j1 + 1 := ⟨j - 1, by omega⟩
          have e5 : (j : Int) - 1 = (j1 : Int) := by omega
          obtain ⟨hq1, hq2, hq3, hq4⟩ := HQ.out
          rw [List.length_append, List.length_singleton] at hXl
          obtain ⟨D, hD⟩ : ∃ D, D = P ++ (X' ++ [z] ++ (t :: (Y ++ (T' ++ S)))) := ⟨_, rfl⟩
          have eD : D = (P ++ X') ++ z :: ([] ++ t :: (Y ++ (T' ++ S))) := by rw [hD]; simp
          have l1 : j1 = (P ++ X').length := by rw [List.length_append]; omega
          have l2 : j = (P ++ X').length + 1 + ([] : List Itm).length := by rw [← l1]; simpa using hj1
          obtain ⟨gz, gt⟩ := swap_places eD l1 l2
          have hsw : So.swap D j j1 = P ++ (X' ++ (t :: (z :: Y ++ (T' ++ S)))) := by
            rw [swap_comm D (by omega), eD, l1, l2, So.swap_at]; simp
          rw [← hD] at hsr
          have HG := Lib.hid (And.intro gt (And.intro gz hsw))
          have HS := Lib.hid hsr
          have hjN : j < N := by have := (List.getElem?_eq_some_iff.1 gt).1; have hl := HPO.out.2.2.2; have : i < b := hlt; omega
          have cc := in_class (hsr.cmps gt gz)
          obtain ⟨d, hd⟩ : ∃ d, d = icm t z := ⟨_, rfl⟩
          rw [← hd] at cc
          have HD := Lib.hid hd
          have y1 := cell_regrown (hsr.cell gt)
          have y2 := cell_regrown (hsr.cell gz)
          have i1 : (a : Int) < (j : Int) := by omega
          have i2 : (j : Int) < (N : Int) := by omega
          have i3 : (j1 : Int) < (N : Int) := by omega
          have HJ := Lib.hid hj1
          clear hsr gt gz hsw eD l1 l2 hd hz haj hji hXY hXl hY hq1 hq2 hq3 hq4 hj1
          go_wp2_with (fail)
          refine wp_region_quiet_below (by kernel_rfl) (by kernel_rfl) ?_
          repeat (go_big_quiet_step (with_reducible exact cc _ _))
          refine wpQuiet_nil ?_
          intro _ hw'
          obtain ⟨⟨dq, osq⟩, hw''⟩ := hw'
          subst hw''
          have HS2 := Lib.hid (HS.out.below (below_regrown wr dq osq))
          clear y1 y2 cc
          generalize grow (redrawn wr dq) osq = w7 at HS2 ⊢
          by_cases hd0 : d < 0
          · obtain ⟨A1, n1, c1, A2, n2, c2, q3, y1, y2, z1, z3, y3, HSW⟩ := HS2.out.swapping HG.out.1 HG.out.2.1
            have hHG := HG.out.2.2
            rw [hHG] at HSW
            clear hHG
            go_wp2_with (fail)
            go_region
            go_wp2_with (fail)
            go_roundw
            case rel =>
              obtain ⟨hXY, hXl, hY, haj, hji⟩ := HXY.out
              have hj1 := HJ.out
              rw [List.length_append, List.length_singleton] at hXl
              refine ⟨j1, by go_num, by omega, Lib.hid ⟨by omega, by omega, X', z :: Y, ?_, by omega, ?_, HSW.out _⟩⟩
              · rw [← hXY]; simp
              · intro y hy
                rcases List.mem_cons.1 hy with rfl | hy
                · rw [← HD.out]; exact hd0
                · exact hY y hy
            case measure => have hj1 := HJ.out; simp [intOf]; omega
          · have hge := Lib.hid (OUT.out (fun z' hz' => by
              have : z' = z := by simpa using hz'.symm
              subst this
              unfold So.Le
              rw [← HD.out]; exact hd0) w7 (by have := HS2.out; rw [hD] at this; exact this))
            have hd1 : ¬ (d < 0) := hd0
            go_wp2_with (fail)
            go_roundw
            case rel => exact hge.out
            case measure => simp [intOf]; omega
        · have hX0 : X = [] := List.eq_nil_of_length_eq_zero (by omega)
          have hge : ∀ W, Srt w0 g W (P ++ (X ++ (t :: (Y ++ (T' ++ S))))) → _ := OUT.out (fun z hz => by rw [hX0] at hz; simp at hz)
          have HGE := Lib.hid (hge _ (hsr.drewN 0))
          have HGD := Lib.hid hge
          have HSR := Lib.hid hsr
          have hg : decide ((a : Int) < (j : Int)) = false := by simp; omega
          clear hsr hX0 hge hz hXY hXl hY haj hji
          go_wp2_with (fail)
          go_quiet (fail)
          go_wp2_with (fail)
          go_roundw
          case rel => exact HGD.out _ (HSR.out.drewN _)
          case measure => simp [intOf]; omega
    · obtain ⟨hia, R, T, hperm, hRl, hord, hsr⟩ := hz.out
      obtain ⟨hq1, hq2, hq3, hq4⟩ := HQ.out
      have hT : T = [] := by
        have := hperm.length_eq
        rw [List.length_append] at this
        exact List.eq_nil_of_length_eq_zero (by omega)
      subst hT
      rw [List.append_nil] at hperm
      have HR := Lib.hid (show ∃ R, R.Perm Q ∧ So.Ord icm R ∧ Srt w0 g wr (P ++ (R ++ S)) from ⟨R, hperm, hord, by simpa using hsr⟩)
      clear hia hperm hRl hord hsr hq1 hq2 hq3 hq4 hz
      go_wp2_with (fail)
      go_end0
      exact ⟨rfl, HR.out⟩
end Go.Proofs.Ytaodobjekpacoaa
