/-
  ARE TUPLES APART (the document's word).
-/
import Derived.Test.YtghonbnmakggnaaDoorHsqM
namespace Go.Proofs.YtghonbnmakggnaaDoor
open Go.RowKit Go.Sort
set_option maxHeartbeats 3200000

theorem hasB_nat15 (s j : Nat) : St.hasB s (j : Int) = (decide (j < 64) && s.testBit j) := by
  unfold St.hasB
  rw [decide_eq_true (show (0 : Int) ≤ (j : Int) by omega), Int.toNat_natCast, Bool.true_and]
  congr 1
  rw [decide_eq_decide]; omega
theorem apart_false15 {L : List (List (List Vl))} {s q j : Nat} {t : List (List Vl)} {x : List Vl} (hq : L[q]? = some t) (hj : t[j]? = some x) (hb : St.hasB s (j : Int) = true) (hx : 0 < x.length) : Hs.apart L s = false := by
  rw [hasB_nat15, Bool.and_eq_true, decide_eq_true_iff] at hb
  refine decide_eq_false fun h => ?_
  have := h t (List.mem_of_getElem? hq) j (List.getElem?_eq_some_iff.1 hj).1 hb.1 hb.2
  rw [Mt.row_at hj] at this
  omega
theorem apart_true15 {L : List (List (List Vl))} {s : Nat} (h : ∀ (q : Nat) (t : List (List Vl)), L[q]? = some t → ∀ (j : Nat) (x : List Vl), t[j]? = some x → St.hasB s (j : Int) = true → x.length = 0) : Hs.apart L s = true := by
  refine decide_eq_true fun t ht i hi h64 hb => ?_
  obtain ⟨q, hq, rfl⟩ := List.mem_iff_getElem.1 ht
  rw [Mt.row_at (List.getElem?_eq_getElem hi)]
  exact h q _ (List.getElem?_eq_getElem hq) i _ (List.getElem?_eq_getElem hi) (by rw [hasB_nat15, decide_eq_true h64, hb]; rfl)
set_option maxRecDepth 100000 in
theorem r15apart_any (lv : Value) (L : List (List (List Vl))) (s : Nat) (w : World) (hl : TusOn Al w lv L) (hs : s < 18446744073709551616) (hn100 : L.length ≤ 1000) (ht100 : ∀ t ∈ L, t.length ≤ 1000) :
    Calls Tryd.prog 11 #[lv, .int .u64 (s : Int)] w fun e w' => e = .returned (.bool (Hs.apart L s)) ∧ w = w' := by
  obtain ⟨L0, c0, rfl, _⟩ := hl.form
  obtain ⟨n, hn⟩ : ∃ n, n = L.length := ⟨_, rfl⟩
  rw [← hn] at hl hn100 ⊢
  have HL := Lib.hid hl
  have HN := Lib.hid hn
  have HT := Lib.hid ht100
  have CH := Lib.hid (show ∀ (i : Nat) (W : World), _ from fun i W => rhas_any (s : Int) (i : Int) W (U64.of hs))
  obtain ⟨res, hres⟩ : ∃ res, res = Hs.apart L s := ⟨_, rfl⟩
  rw [← hres]
  have HR := Lib.hid hres
  clear hl hn ht100 hs hres
  go_enter Tryd.func11, Tryd.ntmps11
  go_wp2_with fail
  go_loop [5] (fun i => ∃ q : Nat, q ≤ n ∧ i = .int .i64 q ∧ Hid (∀ (a : Nat) (t : List (List Vl)), a < q → L[a]? = some t → ∀ (j : Nat) (x : List Vl), t[j]? = some x → St.hasB s (j : Int) = true → x.length = 0)) (fun i => n - (intOf i).toNat)
  case atStart => exact ⟨0, Nat.zero_le _, rfl, Lib.hid fun a t h => by omega⟩
  case round =>
    obtain ⟨q, hq, rfl, HZ⟩ := hrel
    by_cases hlt : q < n
    · obtain ⟨t, gt⟩ : ∃ t, L[q]? = some t := ⟨L[q]'(by have := HN.out; omega), List.getElem?_eq_getElem _⟩
      obtain ⟨b1, o1, p1, B1, d1, hL0, _, h1⟩ := HL.out.pick gt
      subst hL0
      obtain ⟨hcell, hu⟩ := h1 w (Below.refl _ _)
      have htn := HT.out t (List.mem_of_getElem? gt)
      obtain ⟨tl, htl⟩ : ∃ n, n = t.length := ⟨_, rfl⟩
      rw [← htl] at hcell hu htn
      have HU := Lib.hid hu
      have GT := Lib.hid (And.intro gt htl)
      have i1 : (0 : Int) ≤ (q : Int) := by omega
      have i2 : (q : Int) < (n : Int) := by omega
      clear gt htl h1 hlt hu
      go_wp2_with fail
      go_loop [6] (fun i => ∃ j : Nat, j ≤ tl ∧ i = .int .i64 j ∧ Hid (∀ (a : Nat) (x : List Vl), a < j → t[a]? = some x → St.hasB s (a : Int) = true → x.length = 0)) (fun i => tl - (intOf i).toNat)
      case atStart => exact ⟨0, Nat.zero_le _, rfl, Lib.hid fun a x h => by omega⟩
      case round =>
        obtain ⟨j, hj, rfl, HY⟩ := hrel
        by_cases hlj : j < tl
        · obtain ⟨x, gx⟩ : ∃ x, t[j]? = some x := ⟨t[j]'(by have := GT.out.2; omega), List.getElem?_eq_getElem _⟩
          obtain ⟨b2, o2, p2, B2, d2, hB, _, h2⟩ := HU.out.pick gx
          subst hB
          have y2 := (h2 _ (Below.refl _ _)).1
          have ch := CH.out j w
          rw [Int.toNat_natCast] at ch
          obtain ⟨bb, hbb⟩ : ∃ bb, bb = St.hasB s (j : Int) := ⟨_, rfl⟩
          rw [← hbb] at ch
          obtain ⟨xl, hxl⟩ : ∃ n, n = x.length := ⟨_, rfl⟩
          rw [← hxl] at y2
          have GX := Lib.hid (And.intro gx (And.intro hxl hbb))
          have j1 : (0 : Int) ≤ (j : Int) := by omega
          have j2 : (j : Int) < (tl : Int) := by omega
          clear gx hxl hbb h2 hlj
          cases bb with
          | false =>
            have hstep : Hid (∀ (a : Nat) (x : List Vl), a < j + 1 → t[a]? = some x → St.hasB s (a : Int) = true → x.length = 0) := Lib.hid fun a x' ha hx' hb => by
              rcases Nat.lt_or_eq_of_le (Nat.le_of_lt_succ ha) with g | g
              · exact HY.out a x' g hx' hb
              · subst g; rw [← GX.out.2.2] at hb; cases hb
            go_wp2_with fail
            refine ch.mono ?_
            rintro e w' ⟨rfl, rfl⟩
            clear ch y2
            go_wp2_with fail
            go_round
            case rel => exact ⟨j + 1, by omega, by go_num, hstep⟩
            case measure => simp [intOf]; omega
          | true =>
            by_cases hx0 : 0 < xl
            · have hno := Lib.hid (show res = false by rw [HR.out]; exact apart_false15 GT.out.1 GX.out.1 GX.out.2.2.symm (by have := GX.out.2.1; omega))
              have z1 : (0 : Int) < (xl : Int) := by omega
              go_wp2_with fail
              refine ch.mono ?_
              rintro e w' ⟨rfl, rfl⟩
              clear ch
              go_wp2_with fail
              go_ret
              exact ⟨ret_bool hno.out.symm, rfl⟩
            · have hstep : Hid (∀ (a : Nat) (x : List Vl), a < j + 1 → t[a]? = some x → St.hasB s (a : Int) = true → x.length = 0) := Lib.hid fun a x' ha hx' hb => by
                rcases Nat.lt_or_eq_of_le (Nat.le_of_lt_succ ha) with g | g
                · exact HY.out a x' g hx' hb
                · subst g
                  rw [GX.out.1] at hx'
                  cases hx'
                  have := GX.out.2.1
                  omega
              have z1 : ¬ (0 : Int) < (xl : Int) := by omega
              have z2 : xl = 0 := by omega
              subst z2
              clear hx0 z1
              go_wp2_with fail
              refine ch.mono ?_
              rintro e w' ⟨rfl, rfl⟩
              clear ch
              go_wp2_with fail
              go_round
              case rel => exact ⟨j + 1, by omega, by go_num, hstep⟩
              case measure => simp [intOf]; omega
        · have hstep : Hid (∀ (a : Nat) (t : List (List Vl)), a < q + 1 → L[a]? = some t → ∀ (j : Nat) (x : List Vl), t[j]? = some x → St.hasB s (j : Int) = true → x.length = 0) := Lib.hid fun a t' ha ht' j' x' hx' hb => by
            rcases Nat.lt_or_eq_of_le (Nat.le_of_lt_succ ha) with g | g
            · exact HZ.out a t' g ht' j' x' hx' hb
            · subst g
              rw [GT.out.1] at ht'
              cases ht'
              have := GT.out.2
              have := (List.getElem?_eq_some_iff.1 hx').1
              exact HY.out j' x' (by omega) hx' hb
          have j2 : ¬ ((j : Int) < (tl : Int)) := by omega
          clear hlj
          go_wp2_with fail
          go_round
          case rel => exact ⟨q + 1, by omega, by go_num, hstep⟩
          case measure => simp [intOf]; omega
    · have hyes := Lib.hid (show res = true by
        rw [HR.out]
        exact apart_true15 fun a t ha j x hx hb => HZ.out a t (by have := (List.getElem?_eq_some_iff.1 ha).1; have := HN.out; omega) ha j x hx hb)
      have i2 : ¬ ((q : Int) < (n : Int)) := by omega
      clear hlt HZ
      go_wp2_with fail
      go_ret
      exact ⟨ret_bool hyes.out.symm, rfl⟩
end Go.Proofs.YtghonbnmakggnaaDoor
