/-
  THE LIBRARY's STABLE SORT at rows of rows: two rows in order, merged; the one or the other a single item.
-/
import Derived.Test.YtaodobjekpacoaaBgtM
namespace Go.Proofs.Ytaodobjekpacoaa
open Go.RowKit Go.Sort
set_option maxHeartbeats 1600000

/-- what symMerge tells -/
abbrev Merged (w0 : World) (g : Nat) (P U V S : List Itm) (E : Ending) (w' : World) : Prop := E = .returned (.tuple #[]) ∧ ∃ R, R.Perm (U ++ V) ∧ So.Ord icm R ∧ Srt w0 g w' (P ++ (R ++ S))
theorem app_at {P X R : List Itm} {i k : Nat} {x : Itm} (hi : i = P.length + k) (h : X[k]? = some x) : (P ++ (X ++ R))[i]? = some x := by
  subst hi
  rw [List.getElem?_append_right (by omega), Nat.add_sub_cancel_left, List.getElem?_append_left (List.getElem?_eq_some_iff.1 h).1]
  exact h
theorem drop_cons {X : List Itm} {k : Nat} {x : Itm} (h : X[k]? = some x) : X.drop k = x :: X.drop (k + 1) := by
  obtain ⟨h1, rfl⟩ := List.getElem?_eq_some_iff.1 h
  exact List.drop_eq_getElem_cons h1
theorem take_snoc {X : List Itm} {k : Nat} {x : Itm} (h : X[k]? = some x) : X.take (k + 1) = X.take k ++ [x] := by
  rw [List.take_add_one, h]; rfl
set_option maxRecDepth 100000 in
theorem symm_1 (w0 : World) (g : Nat) (P : List Itm) (x : Itm) (V S : List Itm) (N c : Nat) (a m b : Int) (w : World) (hN : N = (P ++ ([x] ++ (V ++ S))).length) (ha : a = P.length) (hm : m = P.length + 1) (hb : b = P.length + 1 + V.length) (oV : So.Ord icm V) (hs : N ≤ 1000000) (h : Srt w0 g w (P ++ ([x] ++ (V ++ S)))) :
    Calls Try.prog 34 #[.slice (some ⟨g, 0, none⟩) N c, .int .i64 a, .int .i64 m, .int .i64 b, .func (.func 19) #[] #[]] w (Merged w0 g P [x] V S) := by
  obtain ⟨a, rfl⟩ : ∃ a' : Nat, a = a' := ⟨_, ha⟩
  obtain ⟨m, rfl⟩ : ∃ m' : Nat, m = m' := ⟨P.length + 1, by omega⟩
  obtain ⟨b, rfl⟩ : ∃ b' : Nat, b = b' := ⟨P.length + 1 + V.length, by omega⟩
  have hN2 : N = a + 1 + V.length + S.length := by rw [hN]; simp only [List.length_append, List.length_singleton]; omega
  have e1 : (m : Int) - (a : Int) = 1 := by omega
  have HQ := Lib.hid (show m = a + 1 ∧ a = P.length ∧ b = a + 1 + V.length ∧ b ≤ N by omega)
  obtain ⟨p, hp⟩ : ∃ p : Nat → Prop, p = fun k => ∃ v, V[k - m]? = some v ∧ icm v x < 0 := ⟨_, rfl⟩
  have hfall : So.Falls p m b := by
    rw [hp]
    rintro k h hk hkh hb ⟨v, hv, hvx⟩
    have hkl : k - m < V.length := by omega
    exact ⟨_, List.getElem?_eq_getElem hkl, So.le_lt icm_pre (oV.at_ icm_pre (show k - m ≤ h - m by omega) (List.getElem?_eq_getElem hkl) hv) hvx⟩
  have HP := Lib.hid hp
  have HF := Lib.hid hfall
  have HO := Lib.hid oV
  have H0 := Lib.hid h
  have hmb : m ≤ b := by omega
  have hb6 : b ≤ 1000000 := by omega
  have hm6 : m ≤ 1000000 := by omega
  clear hN2 hN ha hm hb hp hfall oV h
  go_enter Try.func34, Try.ntmps34
  go_wp2_with (fail)
  go_loopw [10, 11] (fun s t wr => ∃ (i j : Nat), s = .int .i64 i ∧ t = .int .i64 j ∧ i ≤ 1000000 ∧ j ≤ 1000000 ∧ Hid (So.Half p m b i j) ∧ Hid (Srt w0 g wr (P ++ ([x] ++ (V ++ S))))) (fun s t _ => (intOf t).toNat - (intOf s).toNat)
  case atStart => exact ⟨m, b, rfl, rfl, hm6, hb6, Lib.hid (So.Half.start hmb), H0⟩
  case round =>
    obtain ⟨i, j, rfl, rfl, hi6, hj6, hh, hz⟩ := hrel
    by_cases hlt : i < j
    · obtain ⟨h, hh2⟩ : ∃ h, h = (i + j) / 2 := ⟨_, rfl⟩
      have eh : ((i : Int) + (j : Int)) / 2 = (h : Int) := by omega
      obtain ⟨hi, hj⟩ : i ≤ h ∧ h < j := by omega
      obtain ⟨hq1, hq2, hq3, hq4⟩ := HQ.out
      have hmi := hh.out.l
      have hjb := hh.out.h
      obtain ⟨v, gv⟩ : ∃ v, V[h - m]? = some v := ⟨V[h - m]'(by omega), List.getElem?_eq_getElem _⟩
      have hsr := hz.out
      have gx : (P ++ ([x] ++ (V ++ S)))[a]? = some x := app_at (k := 0) (by omega) rfl
      have gh : (P ++ ([x] ++ (V ++ S)))[h]? = some v := by
        rw [← List.append_assoc]
        exact app_at (k := h - m) (by rw [List.length_append, List.length_singleton]; omega) gv
      have cc := in_class (hsr.cmps gh gx)
      obtain ⟨d, hd⟩ : ∃ d, d = icm v x := ⟨_, rfl⟩
      rw [← hd] at cc
      have y1 := cell_regrown (hsr.cell gh)
      have y2 := cell_regrown (hsr.cell gx)
      have i1 : (h : Int) < (N : Int) := by omega
      have i2 : (a : Int) < (N : Int) := by omega
      have HS := Lib.hid hsr
      have HV := Lib.hid (And.intro gv (And.intro hd (And.intro hi (And.intro hj hh2))))
      have hh6 : h ≤ 1000000 := by omega
      clear hsr gx gh gv hd hh2 hz hq1 hq2 hq3 hq4 hmi hjb hi hj
      go_wp2_with (fail)
      refine wp_region_quiet_below (by kernel_rfl) (by kernel_rfl) ?_
      repeat (go_big_quiet_step (with_reducible exact cc _ _))
      refine wpQuiet_nil ?_
      intro _ hw'
      obtain ⟨⟨dq, osq⟩, hw''⟩ := hw'
      subst hw''
      have HS2 := Lib.hid (HS.out.below (below_regrown wr dq osq))
      clear y1 y2 cc
      generalize grow (redrawn wr dq) osq = w7 at HS2 ⊢
      by_cases hd0 : d < 0
      · go_wp2_with (fail)
        go_roundw
        case rel =>
          obtain ⟨gv, hd, hi, hj, hh2⟩ := HV.out
          exact ⟨h + 1, j, by go_num, rfl, by omega, hj6, Lib.hid (hh.out.up HF.out hi hj (by rw [HP.out]; exact ⟨v, gv, by rw [← hd]; exact hd0⟩)), HS2⟩
        case measure => obtain ⟨gv, hd, hi, hj, hh2⟩ := HV.out; simp [intOf]; omega
      · have hd1 : ¬ (d < 0) := hd0
        go_wp2_with (fail)
        go_roundw
        case rel =>
          obtain ⟨gv, hd, hi, hj, hh2⟩ := HV.out
          refine ⟨i, h, rfl, by go_num, hi6, by omega, Lib.hid (hh.out.down HF.out hi hj ?_), HS2⟩
          rw [HP.out]
          rintro ⟨v', hv', hlt'⟩
          rw [gv] at hv'
          cases hv'
          rw [← hd] at hlt'
          exact hd0 hlt'
        case measure => obtain ⟨gv, hd, hi, hj, hh2⟩ := HV.out; simp [intOf]; omega
    · have hij := hh.out.m
      have hmi := hh.out.l
      have hib := hh.out.h
      obtain ⟨hq1, hq2, hq3, hq4⟩ := HQ.out
      obtain ⟨i1, hi1⟩ : ∃ i1, i = i1 + 1 := ⟨i - 1, by omega⟩
      have e5 : (i : Int) - 1 = (i1 : Int) := by omega
      have hai : a ≤ i1 := by omega
      have hib2 : i1 ≤ 1000000 := by omega
      have HI := Lib.hid (And.intro hi1 (show i = j by omega))
      have H1 : Hid (Srt w0 g wr (P ++ (V.take (a - a) ++ (x :: (V.drop (a - a) ++ S))))) := Lib.hid (by rw [Nat.sub_self]; simpa using hz.out)
      clear hij hmi hib hq1 hq2 hq3 hq4 hi1 hz
      go_wp2_with (fail)
      go_loopw [13] (fun s wr => ∃ (k : Nat), s = .int .i64 k ∧ k ≤ i1 ∧ Hid (a ≤ k) ∧ Hid (Srt w0 g wr (P ++ (V.take (k - a) ++ (x :: (V.drop (k - a) ++ S)))))) (fun s _ => i1 - (intOf s).toNat)
      case atStart => exact ⟨a, rfl, hai, Lib.hid (Nat.le_refl _), H1⟩
      case round =>
        obtain ⟨k, rfl, hki, hak, hz⟩ := hrel
        by_cases hlt2 : k < i1
        · obtain ⟨hq1, hq2, hq3, hq4⟩ := HQ.out
          obtain ⟨hi1, hij⟩ := HI.out
          have hak1 := hak.out
          have hib := hh.out.h
          obtain ⟨v, gv⟩ : ∃ v, V[k - a]? = some v := ⟨V[k - a]'(by omega), List.getElem?_eq_getElem _⟩
          obtain ⟨D, hD⟩ : ∃ D, D = P ++ (V.take (k - a) ++ (x :: (V.drop (k - a) ++ S))) := ⟨_, rfl⟩
          have eD : D = (P ++ V.take (k - a)) ++ x :: ([] ++ v :: (V.drop (k - a + 1) ++ S)) := by rw [hD, drop_cons gv]; simp
          have l1 : k = (P ++ V.take (k - a)).length := by rw [List.length_append, List.length_take]; omega
          have l2 : k + 1 = (P ++ V.take (k - a)).length + 1 + ([] : List Itm).length := by rw [← l1]; rfl
          obtain ⟨g1, g2⟩ := swap_places eD l1 l2
          have hsw : So.swap D k (k + 1) = P ++ (V.take (k + 1 - a) ++ (x :: (V.drop (k + 1 - a) ++ S))) := by
            have e : So.swap D k (k + 1) = So.swap D (P ++ V.take (k - a)).length ((P ++ V.take (k - a)).length + 1 + ([] : List Itm).length) := by rw [← l1]; rfl
            rw [e, eD, So.swap_at, show k + 1 - a = k - a + 1 by omega, take_snoc gv]; simp
          have hsr := hz.out
          rw [← hD] at hsr
          obtain ⟨A1, n1, c1, A2, n2, c2, q3, y1, y2, z1, z3, y3, HSW⟩ := hsr.swapping g1 g2
          rw [hsw] at HSW
          obtain ⟨k2, hk2⟩ : ∃ k2, k2 = k + 1 := ⟨_, rfl⟩
          have ek : (k : Int) + 1 = (k2 : Int) := by omega
          rw [← hk2] at y2 z3 y3 HSW
          have i1' : (k : Int) < (N : Int) := by omega
          have i2' : (k2 : Int) < (N : Int) := by omega
          have HK := Lib.hid hk2
          clear eD l1 l2 hsw hsr hz g1 g2 gv hD hq1 hq2 hq3 hq4 hi1 hij hak1 hib hk2
          go_wp2_with (fail)
          go_region
          go_wp2_with (fail)
          go_roundw
          case rel => have hk2 := HK.out; exact ⟨k2, by go_num, by omega, Lib.hid (by have := hak.out; omega), Lib.hid (HSW.out _)⟩
          case measure => have hk2 := HK.out; simp [intOf]; omega
        · have hres := Lib.hid (show ∃ R, R.Perm ([x] ++ V) ∧ So.Ord icm R ∧ Srt w0 g wr (P ++ (R ++ S)) by
            obtain ⟨hq1, hq2, hq3, hq4⟩ := HQ.out
            obtain ⟨hi1, hij⟩ := HI.out
            have hak1 := hak.out
            have hmi := hh.out.l
            have hib := hh.out.h
            obtain rfl : k = i1 := by omega
            have hcut : i - m = k - a := by omega
            have yes : ∀ v ∈ V.take (k - a), icm v x < 0 := by
              intro v hv
              obtain ⟨q, hq, rfl⟩ := List.mem_iff_getElem.1 hv
              rw [List.length_take] at hq
              have := hh.out.yes (m + q) (by omega) (by omega)
              rw [HP.out] at this
              obtain ⟨v, hv2, hlt⟩ := this
              rw [show m + q - m = q by omega, List.getElem?_eq_getElem (by omega)] at hv2
              have e := Option.some.inj hv2
              rw [List.getElem_take, e]; exact hlt
            have no : ∀ v ∈ V.drop (k - a), So.Le icm x v := by
              intro v hv hlt
              obtain ⟨q, hq, rfl⟩ := List.mem_iff_getElem.1 hv
              rw [List.length_drop] at hq
              refine hh.out.no (m + (k - a) + q) (by omega) (by omega) ?_
              rw [HP.out]
              refine ⟨V[k - a + q], ?_, by rw [List.getElem_drop] at hlt; exact hlt⟩
              rw [show m + (k - a) + q - m = k - a + q by omega]
              exact List.getElem?_eq_getElem _
            obtain ⟨o, pm⟩ := So.merged icm_pre (U := [x]) (V := V) (R1 := V.take (k - a)) (R2 := x :: V.drop (k - a)) (i := 0) (j := k - a) (So.Ord.one x) HO.out (by omega) (by omega) (fun _ _ h => absurd h (by omega))
              (fun u y hj hu hy => by
                simp at hy
                subst hy
                exact So.Le.of_lt icm_pre (yes u (List.mem_of_getElem? (i := k - a - 1) (by rw [List.getElem?_take, if_pos (by omega)]; exact hu))))
              (by simp) (by simp) (HO.out.take _) (List.pairwise_cons.2 ⟨no, HO.out.drop _⟩)
            exact ⟨_, pm, o, by have := hz.out; simpa using this⟩)
          have hge : ¬ (k < i1) := hlt2
          clear hz
          go_wp2_with (fail)
          go_end0
          exact ⟨rfl, hres.out⟩
set_option maxRecDepth 100000 in
theorem symm_2 (w0 : World) (g : Nat) (P U : List Itm) (y : Itm) (S : List Itm) (N c : Nat) (a m b : Int) (w : World) (hN : N = (P ++ (U ++ ([y] ++ S))).length) (ha : a = P.length) (hm : m = P.length + U.length) (hb : b = P.length + U.length + 1) (hU1 : 1 < U.length) (oU : So.Ord icm U) (hs : N ≤ 1000000) (h : Srt w0 g w (P ++ (U ++ ([y] ++ S)))) :
    Calls Try.prog 34 #[.slice (some ⟨g, 0, none⟩) N c, .int .i64 a, .int .i64 m, .int .i64 b, .func (.func 19) #[] #[]] w (Merged w0 g P U [y] S) := by
  obtain ⟨a, rfl⟩ : ∃ a' : Nat, a = a' := ⟨_, ha⟩
  obtain ⟨m, rfl⟩ : ∃ m' : Nat, m = m' := ⟨P.length + U.length, by omega⟩
  obtain ⟨b, rfl⟩ : ∃ b' : Nat, b = b' := ⟨P.length + U.length + 1, by omega⟩
  have hN2 : N = a + U.length + 1 + S.length := by rw [hN]; simp only [List.length_append, List.length_singleton]; omega
  have e0 : ¬ ((m : Int) - (a : Int) = 1) := by omega
  have e0' : ((m : Int) - (a : Int) == 1) = false := by simpa using e0
  have e1 : (b : Int) - (m : Int) = 1 := by omega
  have HQ := Lib.hid (show m = a + U.length ∧ a = P.length ∧ b = m + 1 ∧ b ≤ N by omega)
  obtain ⟨p, hp⟩ : ∃ p : Nat → Prop, p = fun k => ∃ u, U[k - a]? = some u ∧ So.Le icm u y := ⟨_, rfl⟩
  have hfall : So.Falls p a m := by
    rw [hp]
    rintro k h hk hkh hb ⟨u, hu, huy⟩
    have hkl : k - a < U.length := by omega
    exact ⟨_, List.getElem?_eq_getElem hkl, So.Le.trans icm_pre (oU.at_ icm_pre (show k - a ≤ h - a by omega) (List.getElem?_eq_getElem hkl) hu) huy⟩
  have HP := Lib.hid hp
  have HF := Lib.hid hfall
  have HO := Lib.hid oU
  have H0 := Lib.hid h
  have ham : a ≤ m := by omega
  have hm6 : m ≤ 1000000 := by omega
  have ha6 : a ≤ 1000000 := by omega
  have hb6 : b ≤ 1000000 := by omega
  clear hN2 hN ha hm hb hp hfall oU h hU1
  go_enter Try.func34, Try.ntmps34
  go_wp2_with (fail)
  go_loopw [14, 15] (fun s t wr => ∃ (i j : Nat), s = .int .i64 i ∧ t = .int .i64 j ∧ i ≤ 1000000 ∧ j ≤ 1000000 ∧ Hid (So.Half p a m i j) ∧ Hid (Srt w0 g wr (P ++ (U ++ ([y] ++ S))))) (fun s t _ => (intOf t).toNat - (intOf s).toNat)
  case atStart => exact ⟨a, m, rfl, rfl, ha6, hm6, Lib.hid (So.Half.start ham), H0⟩
  case round =>
    obtain ⟨i, j, rfl, rfl, hi6, hj6, hh, hz⟩ := hrel
    by_cases hlt : i < j
    · obtain ⟨h, hh2⟩ : ∃ h, h = (i + j) / 2 := ⟨_, rfl⟩
      have eh : ((i : Int) + (j : Int)) / 2 = (h : Int) := by omega
      obtain ⟨hi, hj⟩ : i ≤ h ∧ h < j := by omega
      obtain ⟨hq1, hq2, hq3, hq4⟩ := HQ.out
      have hmi := hh.out.l
      have hjb := hh.out.h
      obtain ⟨u, gu⟩ : ∃ u, U[h - a]? = some u := ⟨U[h - a]'(by omega), List.getElem?_eq_getElem _⟩
      have hsr := hz.out
      have gy : (P ++ (U ++ ([y] ++ S)))[m]? = some y := by
        rw [← List.append_assoc]
        exact app_at (k := 0) (by rw [List.length_append]; omega) rfl
      have gh : (P ++ (U ++ ([y] ++ S)))[h]? = some u := app_at (k := h - a) (by omega) gu
      have cc := in_class (hsr.cmps gy gh)
      obtain ⟨d, hd⟩ : ∃ d, d = icm y u := ⟨_, rfl⟩
      rw [← hd] at cc
      have y1 := cell_regrown (hsr.cell gh)
      have y2 := cell_regrown (hsr.cell gy)
      have i1 : (h : Int) < (N : Int) := by omega
      have i2 : (m : Int) < (N : Int) := by omega
      have HS := Lib.hid hsr
      have HV := Lib.hid (And.intro gu (And.intro hd (And.intro hi (And.intro hj hh2))))
      have hh6 : h ≤ 1000000 := by omega
      clear hsr gy gh gu hd hh2 hz hq1 hq2 hq3 hq4 hmi hjb hi hj
      go_wp2_with (fail)
      refine wp_region_quiet_below (by kernel_rfl) (by kernel_rfl) ?_
      repeat (go_big_quiet_step (with_reducible exact cc _ _))
      refine wpQuiet_nil ?_
      intro _ hw'
      obtain ⟨⟨dq, osq⟩, hw''⟩ := hw'
      subst hw''
      have HS2 := Lib.hid (HS.out.below (below_regrown wr dq osq))
      clear y1 y2 cc
      generalize grow (redrawn wr dq) osq = w7 at HS2 ⊢
      generalize hbb : decide (d < 0) = bb
      by_cases hd1 : d < 0
      · obtain rfl : bb = true := by rw [← hbb]; simpa using hd1
        have HD0 := Lib.hid hd1
        clear hbb hd1
        go_wp2_with (fail)
        go_roundw
        case rel =>
          obtain ⟨gu, hd, hi, hj, hh2⟩ := HV.out
          refine ⟨i, h, rfl, by go_num, hi6, by omega, Lib.hid (hh.out.down HF.out hi hj ?_), HS2⟩
          rw [HP.out]
          rintro ⟨u', hu', hlt'⟩
          rw [gu] at hu'
          cases hu'
          unfold So.Le at hlt'
          rw [← hd] at hlt'
          exact hlt' HD0.out
        case measure => obtain ⟨gu, hd, hi, hj, hh2⟩ := HV.out; simp [intOf]; omega
      · obtain rfl : bb = false := by rw [← hbb]; simpa using hd1
        have HD0 := Lib.hid hd1
        clear hbb hd1
        go_wp2_with (fail)
        go_roundw
        case rel =>
          obtain ⟨gu, hd, hi, hj, hh2⟩ := HV.out
          exact ⟨h + 1, j, by go_num, rfl, by omega, hj6, Lib.hid (hh.out.up HF.out hi hj (by rw [HP.out]; exact ⟨u, gu, by unfold So.Le; rw [← hd]; exact HD0.out⟩)), HS2⟩
        case measure => obtain ⟨gu, hd, hi, hj, hh2⟩ := HV.out; simp [intOf]; omega
    · have hij := hh.out.m
      have hai := hh.out.l
      have him := hh.out.h
      obtain ⟨hq1, hq2, hq3, hq4⟩ := HQ.out
      have hi7 : i ≤ m := by omega
      have HI := Lib.hid (show i = j by omega)
      have H1 : Hid (Srt w0 g wr (P ++ (U.take (m - a) ++ (y :: (U.drop (m - a) ++ S))))) := Lib.hid (by rw [List.take_of_length_le (by omega), List.drop_of_length_le (by omega)]; simpa using hz.out)
      clear hij hai him hq1 hq2 hq3 hq4 hz
      go_wp2_with (fail)
      go_loopw [17] (fun s wr => ∃ (k : Nat), s = .int .i64 k ∧ i ≤ k ∧ k ≤ m ∧ Hid (Srt w0 g wr (P ++ (U.take (k - a) ++ (y :: (U.drop (k - a) ++ S)))))) (fun s _ => (intOf s).toNat)
      case atStart => exact ⟨m, rfl, hi7, Nat.le_refl _, H1⟩
      case round =>
        obtain ⟨k, rfl, hki, hkm, hz⟩ := hrel
        by_cases hlt2 : i < k
        · obtain ⟨hq1, hq2, hq3, hq4⟩ := HQ.out
          have hai := hh.out.l
          obtain ⟨k2, hk2⟩ : ∃ k2, k = k2 + 1 := ⟨k - 1, by omega⟩
          have ek : (k : Int) - 1 = (k2 : Int) := by omega
          obtain ⟨u, gu⟩ : ∃ u, U[k2 - a]? = some u := ⟨U[k2 - a]'(by omega), List.getElem?_eq_getElem _⟩
          obtain ⟨D, hD⟩ : ∃ D, D = P ++ (U.take (k - a) ++ (y :: (U.drop (k - a) ++ S))) := ⟨_, rfl⟩
          have eD : D = (P ++ U.take (k2 - a)) ++ u :: ([] ++ y :: (U.drop (k - a) ++ S)) := by rw [hD, show k - a = k2 - a + 1 by omega, take_snoc gu]; simp
          have l1 : k2 = (P ++ U.take (k2 - a)).length := by rw [List.length_append, List.length_take]; omega
          have l2 : k = (P ++ U.take (k2 - a)).length + 1 + ([] : List Itm).length := by rw [← l1]; exact hk2
          obtain ⟨g1, g2⟩ := swap_places eD l1 l2
          have hsw : So.swap D k k2 = P ++ (U.take (k2 - a) ++ (y :: (U.drop (k2 - a) ++ S))) := by
            have e : So.swap D k2 k = So.swap D (P ++ U.take (k2 - a)).length ((P ++ U.take (k2 - a)).length + 1 + ([] : List Itm).length) := by rw [← l1, hk2]; rfl
            rw [swap_comm D (by omega), e, eD, So.swap_at, drop_cons gu, show k - a = k2 - a + 1 by omega]; simp
          have hsr := hz.out
          rw [← hD] at hsr
          obtain ⟨A1, n1, c1, A2, n2, c2, q3, y1, y2, z1, z3, y3, HSW⟩ := hsr.swapping g2 g1
          rw [hsw] at HSW
          have i1' : (k : Int) < (N : Int) := by omega
          have i2' : (k2 : Int) < (N : Int) := by omega
          have HK := Lib.hid hk2
          clear eD l1 l2 hsw hsr hz g1 g2 gu hD hq1 hq2 hq3 hq4 hai hk2
          go_wp2_with (fail)
          go_region
          go_wp2_with (fail)
          go_roundw
          case rel => have hk2 := HK.out; exact ⟨k2, by go_num, by omega, by omega, Lib.hid (HSW.out _)⟩
          case measure => have hk2 := HK.out; simp [intOf]; omega
        · have hres := Lib.hid (show ∃ R, R.Perm (U ++ [y]) ∧ So.Ord icm R ∧ Srt w0 g wr (P ++ (R ++ S)) by
            obtain ⟨hq1, hq2, hq3, hq4⟩ := HQ.out
            have hij := HI.out
            have hai := hh.out.l
            obtain rfl : k = i := by omega
            have yes : ∀ u ∈ U.take (k - a), So.Le icm u y := by
              intro u hu
              obtain ⟨q, hq, rfl⟩ := List.mem_iff_getElem.1 hu
              rw [List.length_take] at hq
              have := hh.out.yes (a + q) (by omega) (by omega)
              rw [HP.out] at this
              obtain ⟨u, hu2, hlt⟩ := this
              rw [show a + q - a = q by omega, List.getElem?_eq_getElem (by omega)] at hu2
              cases hu2
              rw [List.getElem_take]; exact hlt
            have no : ∀ u, U[k - a]? = some u → So.Le icm y u := by
              intro u hu
              have hl := (List.getElem?_eq_some_iff.1 hu).1
              have hno := hh.out.no k (by omega) (by omega)
              rw [HP.out] at hno
              refine So.Le.of_lt icm_pre (Classical.byContradiction fun hn => hno ⟨u, hu, hn⟩)
            obtain ⟨o, pm⟩ := So.merged icm_pre (U := U) (V := [y]) (R1 := U.take (k - a) ++ [y]) (R2 := U.drop (k - a)) (i := k - a) (j := 1) HO.out (So.Ord.one y) (by omega) (by simp) (fun _ _ _ _ h => by simp at h)
              (fun z u _ hz hu => by
                simp at hz
                subst hz
                exact no u hu)
              (by simp) (by simp) (So.Ord.append.2 ⟨HO.out.take _, So.Ord.one y, fun u hu z hz => by rw [List.mem_singleton.1 hz]; exact yes u hu⟩) (HO.out.drop _)
            exact ⟨_, pm, o, by have := hz.out; simpa using this⟩)
          have hge : ¬ (i < k) := hlt2
          clear hz
          go_wp2_with (fail)
          go_end0
          exact ⟨rfl, hres.out⟩
end Go.Proofs.Ytaodobjekpacoaa
