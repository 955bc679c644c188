/-
  THE LIBRARY's STABLE SORT at rows of rows: two rows in order, merged.
-/
import Derived.Test.YtaodobjekpacoaaBguM
import Derived.Deep.Cut
namespace Go.Proofs.Ytaodobjekpacoaa
open Go.RowKit Go.Sort
set_option maxHeartbeats 3200000

/-- symMerge tells two rows of so many items merged -/
abbrev Symm (w0 : World) (g n : Nat) : Prop := ∀ (P U V S : List Itm) (N c : Nat) (a m b : Int) (w : World), U.length + V.length ≤ n → N = (P ++ (U ++ (V ++ S))).length → a = P.length → m = P.length + U.length → b = P.length + U.length + V.length → 0 < U.length → 0 < V.length → So.Ord icm U → So.Ord icm V → N ≤ 1000000 → Srt w0 g w (P ++ (U ++ (V ++ S))) →
    Calls Try.prog 34 #[.slice (some ⟨g, 0, none⟩) N c, .int .i64 a, .int .i64 m, .int .i64 b, .func (.func 19) #[] #[]] w (Merged w0 g P U V S)
theorem cut_facts {a m b mid nn : Nat} (hmid : mid = (a + b) / 2) (hnn : nn = mid + m) (ham : a < m) (hmb : m < b) : ∃ lo hi, ((mid < m ∧ lo + b = nn ∧ hi = mid) ∨ (¬ mid < m ∧ lo = a ∧ hi = m)) ∧ a ≤ lo ∧ lo ≤ hi ∧ hi ≤ m ∧ nn ≤ b + lo ∧ m + hi ≤ nn ∧ (lo = a ∨ nn = b + lo) ∧ (hi = m ∨ nn = m + hi) := by
  by_cases h : mid < m
  · exact ⟨nn - b, mid, .inl ⟨h, by omega, rfl⟩, by omega, by omega, by omega, by omega, by omega, by omega, by omega⟩
  · exact ⟨a, m, .inr ⟨h, rfl, rfl⟩, by omega, by omega, by omega, by omega, by omega, by omega, by omega⟩
theorem take_perm {U V : List Itm} {i : Nat} (h : U.take i = [] ∨ V = []) (oU : So.Ord icm U) (oV : So.Ord icm V) : So.Ord icm (U.take i ++ V) := by
  rcases h with h | h
  · rw [h]; exact oV
  · subst h; rw [List.append_nil]; exact oU.take i
set_option maxRecDepth 100000 in
theorem symm_3 (w0 : World) (g n : Nat) (ih : Symm w0 g n) (P U V S : List Itm) (N c : Nat) (a m b : Int) (w : World) (hlen : U.length + V.length ≤ n + 1) (hN : N = (P ++ (U ++ (V ++ S))).length) (ha : a = P.length) (hm : m = P.length + U.length) (hb : b = P.length + U.length + V.length) (hU1 : 1 < U.length) (hV1 : 1 < V.length) (oU : So.Ord icm U) (oV : So.Ord icm V) (hs : N ≤ 1000000) (h : Srt w0 g w (P ++ (U ++ (V ++ S)))) :
    Calls Try.prog 34 #[.slice (some ⟨g, 0, none⟩) N c, .int .i64 a, .int .i64 m, .int .i64 b, .func (.func 19) #[] #[]] w (Merged w0 g P U V S) := by
  obtain ⟨a, rfl⟩ : ∃ a' : Nat, a = a' := ⟨_, ha⟩
  obtain ⟨m, rfl⟩ : ∃ m' : Nat, m = m' := ⟨P.length + U.length, by omega⟩
  obtain ⟨b, rfl⟩ : ∃ b' : Nat, b = b' := ⟨P.length + U.length + V.length, by omega⟩
  have hN2 : N = a + U.length + V.length + S.length := by rw [hN]; simp only [List.length_append]; omega
  have e0 : ((m : Int) - (a : Int) == 1) = false := by simp; omega
  have e0' : ¬ ((m : Int) - (a : Int) = 1) := by omega
  have e1 : ((b : Int) - (m : Int) == 1) = false := by simp; omega
  have e1' : ¬ ((b : Int) - (m : Int) = 1) := by omega
  obtain ⟨mid, hmid⟩ : ∃ mid, mid = (a + b) / 2 := ⟨_, rfl⟩
  have em : ((a : Int) + (b : Int)) / 2 = (mid : Int) := by omega
  obtain ⟨nn, hnn⟩ : ∃ nn, nn = mid + m := ⟨_, rfl⟩
  have en : (mid : Int) + (m : Int) = (nn : Int) := by omega
  obtain ⟨pp, hpp⟩ : ∃ pp, nn = pp + 1 := ⟨nn - 1, by omega⟩
  have ep : (nn : Int) - 1 = (pp : Int) := by omega
  obtain ⟨lo, hi, hlh, f1, f2, f3, f4, f5, f6, f7⟩ := cut_facts hmid hnn (show a < m by omega) (show m < b by omega)
  have HQ := Lib.hid (show m = a + U.length ∧ a = P.length ∧ b = m + V.length ∧ b ≤ N ∧ N = b + S.length ∧ 1 < U.length ∧ 1 < V.length by omega)
  have HF := Lib.hid (And.intro f1 (And.intro f2 (And.intro f3 (And.intro f4 (And.intro f5 (And.intro f6 f7))))))
  have HM := Lib.hid (And.intro hmid (And.intro hnn hpp))
  obtain ⟨p, hp⟩ : ∃ p : Nat → Prop, p = fun k => ∃ u v, U[k - a]? = some u ∧ V[pp - k - m]? = some v ∧ So.Le icm u v := ⟨_, rfl⟩
  have hfall : So.Falls p lo hi := by
    rw [hp]
    rintro k h hk hkh hb ⟨u, v, hu, hv, huv⟩
    have hkl : k - a < U.length := by omega
    have hkv : pp - k - m < V.length := by omega
    exact ⟨_, _, List.getElem?_eq_getElem hkl, List.getElem?_eq_getElem hkv, So.Le.trans icm_pre (So.Le.trans icm_pre (oU.at_ icm_pre (show k - a ≤ h - a by omega) (List.getElem?_eq_getElem hkl) hu) huv) (oV.at_ icm_pre (show pp - h - m ≤ pp - k - m by omega) hv (List.getElem?_eq_getElem hkv))⟩
  have HP := Lib.hid hp
  have HFA := Lib.hid hfall
  have HO := Lib.hid (And.intro oU oV)
  have HLH := Lib.hid hlh
  have HLE := Lib.hid hlen
  have H0 := Lib.hid h
  have IH := Lib.hid ih
  have a6 : a ≤ 1000000 := by omega
  have m6 : m ≤ 1000000 := by omega
  have b6 : b ≤ 1000000 := by omega
  have mid6 : mid ≤ 1000000 := by omega
  have nn6 : nn ≤ 2000000 := by omega
  have pp6 : pp ≤ 2000000 := by omega
  have lo6 : lo ≤ 1000000 := by omega
  have hi6 : hi ≤ 1000000 := by omega
  have pp1 : 1 ≤ nn := by omega
  clear hN2 hN ha hm hb hp hfall oU oV h hU1 hV1 hmid hnn hpp f1 f2 f3 f4 f5 f6 f7 hlh hlen ih
  go_enter Try.func34, Try.ntmps34
  go_upto_if 140 with (fail)
  go_cut [20, 21] from 25 (fun s t wr => s = .int .i64 lo ∧ t = .int .i64 hi ∧ Hid (Srt w0 g wr (P ++ (U ++ (V ++ S)))))
  case first =>
    rcases HLH.out with ⟨h1, h2, h3⟩ | ⟨h1, h2, h3⟩
    · have es : (nn : Int) - (b : Int) = (lo : Int) := by omega
      have eh := Lib.hid h3
      have g1 : (mid : Int) < (m : Int) := by omega
      clear h1 h2 h3
      go_wp2_with (fail)
      go_meet
      case rel => exact ⟨rfl, by rw [eh.out], H0⟩
    · have eh := Lib.hid (And.intro h2 h3)
      have g1 : ¬ (mid : Int) < (m : Int) := by omega
      clear h1 h2 h3
      go_wp2_with (fail)
      go_meet
      case rel => exact ⟨by rw [eh.out.1], by rw [eh.out.2], H0⟩
  obtain ⟨rfl, rfl, hz0⟩ := hcut
  clear em en
  have hlohi : lo ≤ hi := HF.out.2.1
  go_wp2_with (fail)
  go_loopw [20, 21] (fun s t wr => ∃ (i j : Nat), s = .int .i64 i ∧ t = .int .i64 j ∧ i ≤ 1000000 ∧ j ≤ 1000000 ∧ Hid (So.Half p lo hi i j) ∧ Hid (Srt w0 g wr (P ++ (U ++ (V ++ S))))) (fun s t _ => (intOf t).toNat - (intOf s).toNat)
  case atStart => exact ⟨lo, hi, rfl, rfl, lo6, hi6, Lib.hid (So.Half.start hlohi), hz0⟩
  case round =>
    obtain ⟨i, j, rfl, rfl, hi7, hj6, hh, hz⟩ := hrel
    by_cases hlt : i < j
    · as_aux_lemma =>
      obtain ⟨h, hh2⟩ : ∃ h, h = (i + j) / 2 := ⟨_, rfl⟩
      have eh : ((i : Int) + (j : Int)) / 2 = (h : Int) := by omega
      obtain ⟨hi, hj⟩ : i ≤ h ∧ h < j := by omega
      obtain ⟨hq1, hq2, hq3, hq4, hq5, hq6, hq7⟩ := HQ.out
      obtain ⟨f1, f2, f3, f4, f5, f6, f7⟩ := HF.out
      obtain ⟨hmid, hnn, hpp⟩ := HM.out
      have hmi := hh.out.l
      have hjb := hh.out.h
      obtain ⟨q, hq⟩ : ∃ q, q = pp - h := ⟨_, rfl⟩
      have eq : (pp : Int) - (h : Int) = (q : Int) := by omega
      obtain ⟨u, gu⟩ : ∃ u, U[h - a]? = some u := ⟨U[h - a]'(by omega), List.getElem?_eq_getElem _⟩
      obtain ⟨v, gv⟩ : ∃ v, V[q - m]? = some v := ⟨V[q - m]'(by omega), List.getElem?_eq_getElem _⟩
      have hsr := hz.out
      have gq : (P ++ (U ++ (V ++ S)))[q]? = some v := by
        rw [← List.append_assoc]
        exact app_at (k := q - m) (by rw [List.length_append]; omega) gv
      have gh : (P ++ (U ++ (V ++ S)))[h]? = some u := app_at (k := h - a) (by omega) gu
      have cc := in_class (hsr.cmps gq gh)
      obtain ⟨d, hd⟩ : ∃ d, d = icm v u := ⟨_, rfl⟩
      rw [← hd] at cc
      have y1 := cell_regrown (hsr.cell gh)
      have y2 := cell_regrown (hsr.cell gq)
      have i1 : (h : Int) < (N : Int) := by omega
      have i2 : (q : Int) < (N : Int) := by omega
      have HS := Lib.hid hsr
      rw [hq] at gv
      have HV := Lib.hid (And.intro gu (And.intro gv (And.intro hd (And.intro hi (And.intro hj hh2)))))
      have hh6 : h ≤ 1000000 := by omega
      clear hsr gq gh gu gv hd hh2 hz hq1 hq2 hq3 hq4 hq5 hq6 hq7 hmi hjb hi hj f1 f2 f3 f4 f5 f6 f7 hmid hnn hpp hq hlohi
      go_wp2_with (fail)
      refine wp_region_quiet_below (by kernel_rfl) (by kernel_rfl) ?_
      repeat (go_big_quiet_step (with_reducible exact cc _ _))
      refine wpQuiet_nil ?_
      intro _ hw'
      obtain ⟨⟨dq, osq⟩, hw''⟩ := hw'
      subst hw''
      have HS2 := Lib.hid (HS.out.below (below_regrown wr dq osq))
      clear y1 y2 cc
      generalize grow (redrawn wr dq) osq = w7 at HS2 ⊢
      generalize hbb : decide (d < 0) = bb
      by_cases hd1 : d < 0
      · obtain rfl : bb = true := by rw [← hbb]; simpa using hd1
        have HD0 := Lib.hid hd1
        clear hbb hd1
        go_wp2_with (fail)
        go_roundw
        case rel =>
          obtain ⟨gu, gv, hd, hi, hj, hh2⟩ := HV.out
          refine ⟨i, h, rfl, by go_num, hi7, by omega, Lib.hid (hh.out.down HFA.out hi hj ?_), HS2⟩
          rw [HP.out]
          rintro ⟨u', v', hu', hv', hlt'⟩
          rw [gu] at hu'
          rw [gv] at hv'
          cases hu'
          cases hv'
          unfold So.Le at hlt'
          rw [← hd] at hlt'
          exact hlt' HD0.out
        case measure => obtain ⟨gu, gv, hd, hi, hj, hh2⟩ := HV.out; simp [intOf]; omega
      · obtain rfl : bb = false := by rw [← hbb]; simpa using hd1
        have HD0 := Lib.hid hd1
        clear hbb hd1
        go_wp2_with (fail)
        go_roundw
        case rel =>
          obtain ⟨gu, gv, hd, hi, hj, hh2⟩ := HV.out
          exact ⟨h + 1, j, by go_num, rfl, by omega, hj6, Lib.hid (hh.out.up HFA.out hi hj (by rw [HP.out]; exact ⟨u, v, gu, gv, by unfold So.Le; rw [← hd]; exact HD0.out⟩)), HS2⟩
        case measure => obtain ⟨gu, gv, hd, hi, hj, hh2⟩ := HV.out; simp [intOf]; omega
    · as_aux_lemma =>
      obtain ⟨hq1, hq2, hq3, hq4, hq5, hq6, hq7⟩ := HQ.out
      obtain ⟨f1, f2, f3, f4, f5, f6, f7⟩ := HF.out
      obtain ⟨hmid, hnn, hpp⟩ := HM.out
      have hij := hh.out.m
      have hmi := hh.out.l
      have hjb := hh.out.h
      obtain ⟨fin, hfin⟩ : ∃ fin, fin = nn - i := ⟨_, rfl⟩
      have ee : (nn : Int) - (i : Int) = (fin : Int) := by omega
      have hm1 : ∀ x y, 0 < i - a → U[i - a - 1]? = some x → V[fin - m]? = some y → So.Le icm x y := by
        intro x y h0 hx hy
        have hyl := (List.getElem?_eq_some_iff.1 hy).1
        have := hh.out.yes (i - 1) (by omega) (by omega)
        rw [HP.out] at this
        obtain ⟨u, v, hu, hv, huv⟩ := this
        rw [show i - 1 - a = i - a - 1 by omega, hx] at hu
        rw [show pp - (i - 1) - m = fin - m by omega, hy] at hv
        cases hu
        cases hv
        exact huv
      have hm2 : ∀ x y, 0 < fin - m → V[fin - m - 1]? = some x → U[i - a]? = some y → So.Le icm x y := by
        intro x y h0 hx hy
        have hyl := (List.getElem?_eq_some_iff.1 hy).1
        have := hh.out.no i (by omega) (by omega)
        rw [HP.out] at this
        refine So.Le.of_lt icm_pre (Classical.byContradiction fun hn => this ⟨y, x, hy, ?_, hn⟩)
        rw [show pp - i - m = fin - m - 1 by omega]
        exact hx
      obtain ⟨U1, hU1⟩ : ∃ U1, U1 = U.take (i - a) := ⟨_, rfl⟩
      obtain ⟨U2, hU2⟩ : ∃ U2, U2 = U.drop (i - a) := ⟨_, rfl⟩
      obtain ⟨V1, hV1⟩ : ∃ V1, V1 = V.take (fin - m) := ⟨_, rfl⟩
      obtain ⟨V2, hV2⟩ : ∃ V2, V2 = V.drop (fin - m) := ⟨_, rfl⟩
      have eU : U1 ++ U2 = U := by rw [hU1, hU2]; exact List.take_append_drop _ _
      have eV : V1 ++ V2 = V := by rw [hV1, hV2]; exact List.take_append_drop _ _
      have l1 : U1.length = i - a := by rw [hU1, List.length_take]; omega
      have l2 : U2.length = m - i := by rw [hU2, List.length_drop]; omega
      have l3 : V1.length = fin - m := by rw [hV1, List.length_take]; omega
      have l4 : V2.length = b - fin := by rw [hV2, List.length_drop]; omega
      have HMG := Lib.hid (show ∀ R1 R2 : List Itm, R1.Perm (U1 ++ V1) → R2.Perm (U2 ++ V2) → So.Ord icm R1 → So.Ord icm R2 → So.Ord icm (R1 ++ R2) ∧ (R1 ++ R2).Perm (U ++ V) from fun R1 R2 p1 p2 o1 o2 => by
        rw [hU1, hV1] at p1
        rw [hU2, hV2] at p2
        exact So.merged icm_pre HO.out.1 HO.out.2 (by omega) (by omega) hm1 hm2 p1 p2 o1 o2)
      have HOO := Lib.hid (show So.Ord icm U1 ∧ So.Ord icm U2 ∧ So.Ord icm V1 ∧ So.Ord icm V2 by
        rw [hU1, hU2, hV1, hV2]
        exact ⟨HO.out.1.take _, HO.out.1.drop _, HO.out.2.take _, HO.out.2.drop _⟩)
      have hsr := hz.out
      rw [← eU, ← eV] at hsr
      have HZ := Lib.hid (show Srt w0 g wr (P ++ (U1 ++ (U2 ++ (V1 ++ (V2 ++ S))))) by simpa only [List.append_assoc] using hsr)
      have HL := Lib.hid (show P.length = a ∧ a ≤ i ∧ i ≤ m ∧ m ≤ fin ∧ fin ≤ b ∧ i ≤ mid ∧ mid ≤ fin ∧ U1.length = i - a ∧ U2.length = m - i ∧ V1.length = fin - m ∧ V2.length = b - fin ∧ b + S.length = N ∧ (i - a) + (fin - m) = mid - a ∧ (b - a ≤ n + 1) ∧ a < mid ∧ mid < b by
        have := HLE.out
        refine ⟨by omega, by omega, by omega, by omega, by omega, by omega, by omega, l1, l2, l3, l4, by omega, by omega, by omega, by omega, by omega⟩)
      clear hq1 hq2 hq3 hq4 hq5 hq6 hq7 f1 f2 f3 f4 f5 f6 f7 hmid hnn hpp hij hmi hjb hfin hm1 hm2 hU1 hU2 hV1 hV2 eU eV l1 l2 l3 l4 hsr hz hlohi hz0
      have hge : ¬ (i < j) := hlt
      have fin6 : fin ≤ 1000000 := by have := HL.out; omega
      obtain ⟨b1, hb1⟩ : ∃ q : Bool, q = (decide (i < m) && decide (m < fin)) := ⟨_, rfl⟩
      have Hb1 := Lib.hid hb1
      clear hb1
      go_upto_region 39 with (fail)
      go_cut [185] from 25 (fun s wr' => s = .bool b1 ∧ wr = wr')
      case first =>
        by_cases g1 : i < m
        · by_cases g2 : m < fin
          · have hq : b1 = true := by rw [Hb1.out]; simp [g1, g2]
            subst hq
            go_wp2_with (fail)
            go_meet
            case rel => exact ⟨rfl, rfl⟩
          · have hq : b1 = false := by rw [Hb1.out]; simp [g1, g2]
            subst hq
            go_wp2_with (fail)
            go_meet
            case rel => exact ⟨rfl, rfl⟩
        · have hq : b1 = false := by rw [Hb1.out]; simp [g1]
          subst hq
          go_wp2_with (fail)
          go_meet
          case rel => exact ⟨rfl, rfl⟩
      obtain ⟨rfl, rfl⟩ := hcut
      go_upto_if 185 with (fail)
      go_cut [] from 25 (fun wr => Hid (Srt w0 g wr (P ++ (U1 ++ (V1 ++ (U2 ++ (V2 ++ S)))))))
      case first =>
       as_aux_lemma =>
        have hL := HL.out
        cases b1
        · have hq := Hb1.out
          have HW8 := Lib.hid (show Srt w0 g wr (P ++ (U1 ++ (V1 ++ (U2 ++ (V2 ++ S))))) by
            by_cases g1 : i < m
            · have g2 : ¬ m < fin := by intro g2; simp [g1, g2] at hq
              have h0 : V1 = [] := List.eq_nil_of_length_eq_zero (by omega)
              have := HZ.out; rw [h0] at this ⊢; exact this
            · have h0 : U2 = [] := List.eq_nil_of_length_eq_zero (by omega)
              have := HZ.out; rw [h0] at this ⊢; exact this)
          clear hL hq
          go_wp2_with (fail)
          go_meet
          case rel => exact HW8
        · have hq := Hb1.out
          obtain ⟨g1, g2⟩ : i < m ∧ m < fin := by simpa using hq.symm
          · have cr := rotate_any w0 g (.func (.func 19) #[] #[]) (P ++ U1) U2 V1 (V2 ++ S) N c (i : Int) (m : Int) (fin : Int) wr (by simp only [List.length_append]; omega) (by rw [List.length_append]; omega) (by rw [List.length_append]; omega) (by rw [List.length_append]; omega) (by omega) (by omega) hs (by simpa only [List.append_assoc] using HZ.out)
            clear hL hq g1 g2
            go_wp2_with (fail)
            refine cr.mono ?_
            rintro E w8 ⟨rfl, hw8⟩
            have HW8 := Lib.hid (show Srt w0 g w8 (P ++ (U1 ++ (V1 ++ (U2 ++ (V2 ++ S))))) by simpa only [List.append_assoc] using hw8)
            clear cr hw8
            go_wp2_with (fail)
            go_meet
            case rel => exact HW8
      clear hge ee
      have HC1 := hcut
      clear hcut
      obtain ⟨b2, hb2⟩ : ∃ q : Bool, q = (decide (a < i) && decide (i < mid)) := ⟨_, rfl⟩
      have Hb2 := Lib.hid hb2
      clear hb2
      go_upto_region 41 with (fail)
      go_cut [199] from 25 (fun s wr' => s = .bool b2 ∧ wc = wr')
      case first =>
        by_cases g1 : a < i
        · by_cases g2 : i < mid
          · have hq : b2 = true := by rw [Hb2.out]; simp [g1, g2]
            subst hq
            go_wp2_with (fail)
            go_meet
            case rel => exact ⟨rfl, rfl⟩
          · have hq : b2 = false := by rw [Hb2.out]; simp [g1, g2]
            subst hq
            go_wp2_with (fail)
            go_meet
            case rel => exact ⟨rfl, rfl⟩
        · have hq : b2 = false := by rw [Hb2.out]; simp [g1]
          subst hq
          go_wp2_with (fail)
          go_meet
          case rel => exact ⟨rfl, rfl⟩
      obtain ⟨rfl, rfl⟩ := hcut
      go_upto_if 199 with (fail)
      go_cut [] from 25 (fun wr => Hid (∃ R1 : List Itm, R1.Perm (U1 ++ V1) ∧ So.Ord icm R1 ∧ Srt w0 g wr (P ++ (R1 ++ (U2 ++ (V2 ++ S))))))
      case first =>
       as_aux_lemma =>
        have hL := HL.out
        cases b2
        · have hq := Hb2.out
          have HW8 := Lib.hid (show ∃ R1 : List Itm, R1.Perm (U1 ++ V1) ∧ So.Ord icm R1 ∧ Srt w0 g wc (P ++ (R1 ++ (U2 ++ (V2 ++ S)))) from ⟨U1 ++ V1, .refl _, by
            by_cases g1 : a < i
            · have g2 : ¬ i < mid := by intro g2; simp [g1, g2] at hq
              have h0 : V1 = [] := List.eq_nil_of_length_eq_zero (by omega)
              rw [h0, List.append_nil]; exact HOO.out.1
            · have h0 : U1 = [] := List.eq_nil_of_length_eq_zero (by omega)
              rw [h0, List.nil_append]; exact HOO.out.2.2.1, by simpa only [List.append_assoc] using HC1.out⟩)
          clear hL hq
          go_wp2_with (fail)
          go_meet
          case rel => exact HW8
        · have hq := Hb2.out
          obtain ⟨g1, g2⟩ : a < i ∧ i < mid := by simpa using hq.symm
          · have cr := IH.out P U1 V1 (U2 ++ (V2 ++ S)) N c (a : Int) (i : Int) (mid : Int) wc (by omega) (by simp only [List.length_append]; omega) (by omega) (by omega) (by omega) (by omega) (by omega) HOO.out.1 HOO.out.2.2.1 hs HC1.out
            clear hL hq g1 g2
            go_wp2_with (fail)
            refine cr.mono ?_
            rintro E w8 ⟨rfl, hw8⟩
            have HW8 := Lib.hid hw8
            clear cr hw8
            go_wp2_with (fail)
            go_meet
            case rel => exact HW8
      as_aux_lemma =>
      obtain ⟨R1, p1, o1, hw8⟩ := hcut.out
      have hL := HL.out
      have hR1 := p1.length_eq
      rw [List.length_append] at hR1
      by_cases g1 : mid < fin
      · by_cases g2 : fin < b
        · have cr := IH.out (P ++ R1) U2 V2 S N c (mid : Int) (fin : Int) (b : Int) wc (by omega) (by simp only [List.length_append]; omega) (by rw [List.length_append]; omega) (by rw [List.length_append]; omega) (by rw [List.length_append]; omega) (by omega) (by omega) HOO.out.2.1 HOO.out.2.2.2 hs (by simpa only [List.append_assoc] using hw8)
          have HP1 := Lib.hid (And.intro p1 o1)
          clear hL hw8 hR1 hcut p1 o1
          go_wp2_with (fail)
          refine cr.mono ?_
          rintro E w8 ⟨rfl, R2, p2, o2, hw9⟩
          have hres := Lib.hid (show ∃ R, R.Perm (U ++ V) ∧ So.Ord icm R ∧ Srt w0 g w8 (P ++ (R ++ S)) from ⟨R1 ++ R2, (HMG.out R1 R2 HP1.out.1 p2 HP1.out.2 o2).2, (HMG.out R1 R2 HP1.out.1 p2 HP1.out.2 o2).1, by simpa only [List.append_assoc] using hw9⟩)
          clear cr p2 o2 hw9
          go_wp2_with (fail)
          go_end0
          exact ⟨rfl, hres.out⟩
        · have h0 : V2 = [] := List.eq_nil_of_length_eq_zero (by omega)
          have o2 : So.Ord icm (U2 ++ V2) := by rw [h0, List.append_nil]; exact HOO.out.2.1
          have hres := Lib.hid (show ∃ R, R.Perm (U ++ V) ∧ So.Ord icm R ∧ Srt w0 g wc (P ++ (R ++ S)) from ⟨R1 ++ (U2 ++ V2), (HMG.out R1 _ p1 (.refl _) o1 o2).2, (HMG.out R1 _ p1 (.refl _) o1 o2).1, by simpa only [List.append_assoc] using hw8⟩)
          clear hL hw8 hR1 hcut p1 o1 o2 h0
          go_wp2_with (fail)
          go_end0
          exact ⟨rfl, hres.out⟩
      · have h0 : U2 = [] := List.eq_nil_of_length_eq_zero (by omega)
        have o2 : So.Ord icm (U2 ++ V2) := by rw [h0, List.nil_append]; exact HOO.out.2.2.2
        have hres := Lib.hid (show ∃ R, R.Perm (U ++ V) ∧ So.Ord icm R ∧ Srt w0 g wc (P ++ (R ++ S)) from ⟨R1 ++ (U2 ++ V2), (HMG.out R1 _ p1 (.refl _) o1 o2).2, (HMG.out R1 _ p1 (.refl _) o1 o2).1, by simpa only [List.append_assoc] using hw8⟩)
        clear hL hw8 hR1 hcut p1 o1 o2 h0
        go_wp2_with (fail)
        go_end0
        exact ⟨rfl, hres.out⟩
theorem symm_any (w0 : World) (g : Nat) : ∀ n, Symm w0 g n := by
  intro n
  induction n with
  | zero => intro P U V S N c a m b w hl _ _ _ _ hU hV; omega
  | succ n ih =>
    intro P U V S N c a m b w hl hN ha hm hb hU hV oU oV hs h
    by_cases h1 : U.length = 1
    · obtain ⟨x, rfl⟩ := List.length_eq_one_iff.1 h1
      exact symm_1 w0 g P x V S N c a m b w hN ha (by simpa using hm) (by simpa using hb) oV hs h
    · by_cases h2 : V.length = 1
      · obtain ⟨y, rfl⟩ := List.length_eq_one_iff.1 h2
        exact symm_2 w0 g P U y S N c a m b w hN ha hm (by simpa using hb) (by omega) oU hs h
      · exact symm_3 w0 g n ih P U V S N c a m b w hl hN ha hm hb (by omega) (by omega) oU oV hs h
end Go.Proofs.Ytaodobjekpacoaa
