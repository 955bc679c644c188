/-
  THE LIBRARY's STABLE SORT at rows of rows: ranges exchanged; rotated.
-/
import Derived.Test.YtaodobjekpacoaaBgaM
import Derived.BigRegion
import Derived.RegionTactic
import Derived.Laws.Rows
namespace Go.Proofs.Ytaodobjekpacoaa
open Go.RowKit Go.Sort
set_option maxHeartbeats 1600000

abbrev Itm := Value × List Vl
def vals (D : List Itm) : List Value := D.map Prod.fst
/-- block g holds the items D, each reads as its row in w0, and what lies below w0's end is as it was there -/
structure Srt (w0 : World) (g : Nat) (w : World) (D : List Itm) : Prop where
  lies : Lies w g 34 (vals D)
  base : Below w0.heap.size w0 w
  at_ : w0.heap.size ≤ g
  rd : ∀ x ∈ D, RowAt w0 x.1 x.2 ∧ x.2.length ≤ 1000000
theorem Srt.cell {w0 w : World} {g i : Nat} {D : List Itm} {x : Itm} (h : Srt w0 g w D) (hx : D[i]? = some x) : w.cell? ⟨g, i, none⟩ = some x.1 := h.lies.cell (by unfold vals; rw [List.getElem?_map, hx]; rfl)
theorem Srt.free {w0 w : World} {g : Nat} {D : List Itm} (h : Srt w0 g w D) (i : Nat) : w.frozen? ⟨g, i, none⟩ = false := h.lies.free i
theorem Srt.drewN {w0 w : World} {g : Nat} {D : List Itm} (h : Srt w0 g w D) (n : Nat) : Srt w0 g (w.drewN n) D := ⟨h.lies.drewN n, below_drewN h.base n, h.at_, h.rd⟩
theorem Srt.drew {w0 w : World} {g : Nat} {D : List Itm} (h : Srt w0 g w D) : Srt w0 g w.drew D := ⟨h.lies.drew, h.base.drew, h.at_, h.rd⟩
theorem Srt.below {w0 w w' : World} {g : Nat} {D : List Itm} (h : Srt w0 g w D) (hb : Below w.heap.size w w') : Srt w0 g w' D :=
  ⟨h.lies.below hb h.lies.lt, h.base.trans (below_low hb h.base.size), h.at_, h.rd⟩
theorem Srt.form {w0 w : World} {g : Nat} {D : List Itm} (h : Srt w0 g w D) {i : Nat} {x : Itm} (hx : D[i]? = some x) : ∃ A c, x.1 = .slice A x.2.length c := by
  obtain ⟨A, c, hv, _⟩ := (h.rd x (List.mem_of_getElem? hx)).1
  exact ⟨A, c, hv⟩
theorem mem_swap {D : List Itm} {i j : Nat} {z : Itm} (h : z ∈ So.swap D i j) : z ∈ D := by
  unfold So.swap at h
  split at h
  · rename_i x y hx hy
    rcases List.mem_or_eq_of_mem_set h with h | rfl
    · rcases List.mem_or_eq_of_mem_set h with h | rfl
      · exact h
      · exact List.mem_of_getElem? hy
    · exact List.mem_of_getElem? hx
  · exact h
theorem vals_swap {D : List Itm} {i j : Nat} {x y : Itm} (hx : D[i]? = some x) (hy : D[j]? = some y) : vals (So.swap D i j) = ((vals D).set i y.1).set j x.1 := by
  unfold So.swap vals
  rw [hx, hy]
  simp only [List.map_set]
/-- two places exchanged -/
theorem Srt.swap {w0 w : World} {g i j : Nat} {D : List Itm} {x y : Itm} (h : Srt w0 g w D) (hx : D[i]? = some x) (hy : D[j]? = some y) :
    Srt w0 g ((w.setCell ⟨g, i, none⟩ y.1).setCell ⟨g, j, none⟩ x.1) (So.swap D i j) := by
  refine ⟨?_, (h.base.setCell (p := ⟨g, i, none⟩) h.at_ _).setCell (p := ⟨g, j, none⟩) h.at_ _, h.at_, fun z hz => h.rd z (mem_swap hz)⟩
  rw [vals_swap hx hy]
  exact (h.lies.set i y.1).set j x.1
theorem swap_places {A B C D : List Itm} {x y : Itm} {i j : Nat} (e : D = A ++ x :: (B ++ y :: C)) (hi : i = A.length) (hj : j = A.length + 1 + B.length) : D[i]? = some x ∧ D[j]? = some y := by
  subst e hi hj
  refine ⟨by simp, ?_⟩
  rw [List.getElem?_append_right (by omega), show A.length + 1 + B.length - A.length = B.length + 1 by omega, List.getElem?_cons_succ, List.getElem?_append_right (by omega), Nat.sub_self]
  rfl
/-- what a walk wants where two places are exchanged -/
theorem Srt.swapping {w0 w : World} {g i j : Nat} {D : List Itm} {x y : Itm} (h : Srt w0 g w D) (hx : D[i]? = some x) (hy : D[j]? = some y) :
    ∃ A1 n1 c1 A2 n2 c2 q, w.drew.cell? ⟨g, i, none⟩ = some (.slice A1 n1 c1) ∧ w.drew.cell? ⟨g, j, none⟩ = some (.slice A2 n2 c2) ∧ w.drew.frozen? ⟨g, i, none⟩ = false ∧
      (w.setCell ⟨g, i, none⟩ (.slice A2 n2 c2)).drew.frozen? ⟨g, j, none⟩ = false ∧ (w.setCell ⟨g, i, none⟩ (.slice A2 n2 c2)).drew.cell? ⟨g, j, none⟩ = some q ∧
      Hid (∀ n, Srt w0 g (((w.setCell ⟨g, i, none⟩ (.slice A2 n2 c2)).setCell ⟨g, j, none⟩ (.slice A1 n1 c1)).drewN n) (So.swap D i j)) := by
  obtain ⟨A1, c1, f1⟩ := h.form hx
  obtain ⟨A2, c2, f2⟩ := h.form hy
  obtain ⟨xv, xr⟩ := x
  obtain ⟨yv, yr⟩ := y
  simp only at f1 f2
  subst f1 f2
  have hG := (h.lies.set i (.slice A2 yr.length c2)).drew
  have hlt2 : j < ((vals D).set i (.slice A2 yr.length c2)).length := by rw [List.length_set]; unfold vals; rw [List.length_map]; exact (List.getElem?_eq_some_iff.1 hy).1
  exact ⟨A1, _, c1, A2, _, c2, _, h.drew.cell hx, h.drew.cell hy, h.drew.free i, hG.free j, hG.cell (List.getElem?_eq_getElem hlt2), Lib.hid fun n => (h.swap hx hy).drewN n⟩

set_option maxRecDepth 100000 in
theorem swaps_any (w0 : World) (g : Nat) (f : Value) (P U M V S : List Itm) (N c : Nat) (a b n : Int) (w : World) (hN : N = (P ++ (U ++ (M ++ (V ++ S)))).length) (ha : a = P.length) (hb : b = P.length + U.length + M.length) (hn : n = U.length) (hV : V.length = U.length) (hs : N ≤ 1000000) (h : Srt w0 g w (P ++ (U ++ (M ++ (V ++ S))))) :
    Calls Try.prog 36 #[.slice (some ⟨g, 0, none⟩) N c, .int .i64 a, .int .i64 b, .int .i64 n, f] w fun e w' => e = .returned (.tuple #[]) ∧ Srt w0 g w' (P ++ (V ++ (M ++ (U ++ S)))) := by
  obtain ⟨a, rfl⟩ : ∃ a' : Nat, a = a' := ⟨_, ha⟩
  obtain ⟨b, rfl⟩ : ∃ b' : Nat, b = b' := ⟨P.length + U.length + M.length, by omega⟩
  obtain ⟨n, rfl⟩ : ∃ n' : Nat, n = n' := ⟨_, hn⟩
  have hN2 : N = P.length + n + M.length + n + S.length := by rw [hN]; simp only [List.length_append]; omega
  have H0 : Hid (Srt w0 g w (P ++ (V.take 0 ++ (U.drop 0 ++ (M ++ (U.take 0 ++ (V.drop 0 ++ S))))))) := Lib.hid (by simpa using h)
  have HB := Lib.hid (show a + n + M.length = b by omega)
  have HA := Lib.hid (show a = P.length by omega)
  have HN := Lib.hid (show n = U.length ∧ V.length = n by omega)
  have HN2 := Lib.hid (show b + n ≤ N by omega)
  clear h hN hN2 ha hb hn hV
  go_enter Try.func36, Try.ntmps36
  go_wp2_with (fail)
  go_loopw [10] (fun i wr => ∃ (k : Nat), k ≤ n ∧ i = .int .i64 k ∧ Hid (Srt w0 g wr (P ++ (V.take k ++ (U.drop k ++ (M ++ (U.take k ++ (V.drop k ++ S)))))))) (fun i _ => n - (intOf i).toNat)
  case atStart => exact ⟨0, Nat.zero_le _, rfl, H0⟩
  case round =>
    obtain ⟨k, hk, rfl, hz⟩ := hrel
    by_cases hlt : k < n
    · obtain ⟨x, gx⟩ : ∃ x, U[k]? = some x := ⟨U[k]'(by have := HN.out; omega), List.getElem?_eq_getElem _⟩
      obtain ⟨y, gy⟩ : ∃ y, V[k]? = some y := ⟨V[k]'(by have := HN.out; omega), List.getElem?_eq_getElem _⟩
      obtain ⟨h1, h2⟩ := HN.out
      have hba := HB.out
      have hbn := HN2.out
      have haP := HA.out
      obtain ⟨D, hD⟩ : ∃ D, D = P ++ (V.take k ++ (U.drop k ++ (M ++ (U.take k ++ (V.drop k ++ S))))) := ⟨_, rfl⟩
      have eU : U.drop k = x :: U.drop (k + 1) := by rw [List.drop_eq_getElem_cons (by omega)]; congr 1; rw [List.getElem?_eq_getElem (by omega)] at gx; exact Option.some.inj gx
      have eV : V.drop k = y :: V.drop (k + 1) := by rw [List.drop_eq_getElem_cons (by omega)]; congr 1; rw [List.getElem?_eq_getElem (by omega)] at gy; exact Option.some.inj gy
      have eD : D = (P ++ V.take k) ++ x :: ((U.drop (k + 1) ++ (M ++ U.take k)) ++ y :: (V.drop (k + 1) ++ S)) := by rw [hD, eU, eV]; simp only [List.append_assoc, List.cons_append]
      have l1 : a + k = (P ++ V.take k).length := by rw [List.length_append, List.length_take]; omega
      have l2 : b + k = (P ++ V.take k).length + 1 + (U.drop (k + 1) ++ (M ++ U.take k)).length := by simp only [List.length_append, List.length_take, List.length_drop]; omega
      obtain ⟨gx1, gy1⟩ := swap_places eD l1 l2
      have hsw : So.swap D (a + k) (b + k) = P ++ (V.take (k + 1) ++ (U.drop (k + 1) ++ (M ++ (U.take (k + 1) ++ (V.drop (k + 1) ++ S))))) := by
        rw [eD, l1, l2, So.swap_at, List.take_add_one (i := k) (l := V), List.take_add_one (i := k) (l := U), gx, gy]
        simp only [List.append_assoc, List.cons_append, Option.toList, List.nil_append]
      have hs0 := hz.out
      rw [← hD] at hs0
      obtain ⟨A1, n1, c1, A2, n2, c2, q3, y1, y2, z1, z3, y3, HSW⟩ := hs0.swapping gx1 gy1
      rw [hsw] at HSW
      have i1 : (0 : Int) ≤ (a : Int) + (k : Int) := by omega
      have i2 : (a : Int) + (k : Int) < (N : Int) := by omega
      have i3 : (0 : Int) ≤ (b : Int) + (k : Int) := by omega
      have i4 : (b : Int) + (k : Int) < (N : Int) := by omega
      clear eU eV eD l1 l2 hsw hs0 hz gx1 gy1 h1 h2 hba haP gx gy hD
      go_wp2_with (fail)
      go_region
      go_wp2_with (fail)
      go_roundw
      case rel => exact ⟨k + 1, by omega, by go_num, Lib.hid (HSW.out _)⟩
      case measure => simp [intOf]; omega
    · have hres := Lib.hid (show Srt w0 g wr (P ++ (V ++ (M ++ (U ++ S)))) by
        have h := hz.out
        obtain ⟨h1, h2⟩ := HN.out
        obtain rfl : k = n := by omega
        rw [List.take_of_length_le (by omega), List.drop_of_length_le (by omega), List.take_of_length_le (by omega), List.drop_of_length_le (by omega)] at h
        simpa using h)
      go_wp2_with (fail)
      go_end0
      exact ⟨rfl, hres.out⟩
set_option maxRecDepth 100000 in
theorem rotate_any (w0 : World) (g : Nat) (f : Value) (P U V S : List Itm) (N c : Nat) (a m b : Int) (w : World) (hN : N = (P ++ (U ++ (V ++ S))).length) (ha : a = P.length) (hm : m = P.length + U.length) (hb : b = P.length + U.length + V.length) (hU : 0 < U.length) (hV : 0 < V.length) (hs : N ≤ 1000000) (h : Srt w0 g w (P ++ (U ++ (V ++ S)))) :
    Calls Try.prog 35 #[.slice (some ⟨g, 0, none⟩) N c, .int .i64 a, .int .i64 m, .int .i64 b, f] w fun e w' => e = .returned (.tuple #[]) ∧ Srt w0 g w' (P ++ (V ++ (U ++ S))) := by
  obtain ⟨i0, hi0⟩ : ∃ i0, i0 = U.length := ⟨_, rfl⟩
  obtain ⟨j0, hj0⟩ : ∃ j0, j0 = V.length := ⟨_, rfl⟩
  have e1 : m - a = (i0 : Int) := by omega
  have e2 : b - m = (j0 : Int) := by omega
  have e3 : (i0 : Int) ≤ m := by omega
  have e4 : m + (j0 : Int) ≤ (N : Int) := by rw [hN]; simp only [List.length_append]; omega
  have H0 : Hid (∃ P' U' V' S' : List Itm, U'.length = i0 ∧ V'.length = j0 ∧ (P'.length : Int) + i0 = m ∧ 0 < i0 ∧ 0 < j0 ∧ (P' ++ (U' ++ (V' ++ S'))).length = N ∧ P' ++ (V' ++ (U' ++ S')) = P ++ (V ++ (U ++ S)) ∧ Srt w0 g w (P' ++ (U' ++ (V' ++ S')))) :=
    Lib.hid ⟨P, U, V, S, hi0.symm, hj0.symm, by omega, by omega, by omega, hN.symm, rfl, h⟩
  have hs2 : (N : Int) ≤ 1000000 := by omega
  obtain ⟨TG, hTG⟩ : ∃ TG, TG = P ++ (V ++ (U ++ S)) := ⟨_, rfl⟩
  rw [← hTG] at H0 ⊢
  clear hTG h hN hi0 hj0 ha hm hb hU hV
  go_enter Try.func35, Try.ntmps35
  go_wp2_with (fail)
  go_loopw [10, 11] (fun x y wr => ∃ (i j : Nat), x = .int .i64 i ∧ y = .int .i64 j ∧ (i : Int) ≤ m ∧ m + (j : Int) ≤ (N : Int) ∧ Hid (∃ P' U' V' S' : List Itm, U'.length = i ∧ V'.length = j ∧ (P'.length : Int) + i = m ∧ 0 < i ∧ 0 < j ∧ (P' ++ (U' ++ (V' ++ S'))).length = N ∧ P' ++ (V' ++ (U' ++ S')) = TG ∧ Srt w0 g wr (P' ++ (U' ++ (V' ++ S'))))) (fun x y _ => (intOf x).toNat + (intOf y).toNat)
  case atStart => exact ⟨i0, j0, rfl, rfl, e3, e4, H0⟩
  case round =>
    obtain ⟨i, j, rfl, rfl, hi, hj, hz⟩ := hrel
    obtain ⟨P', U', V', S', hUl, hVl, hPm, hi1, hj1, hlen, htg, hsr⟩ := hz.out
    obtain ⟨p, hp⟩ : ∃ p, p = P'.length := ⟨_, rfl⟩
    have e5 : m - (i : Int) = (p : Int) := by omega
    have HL := Lib.hid hlen
    have HT := Lib.hid htg
    have HP := Lib.hid (And.intro hp (And.intro hPm (And.intro hUl hVl)))
    rcases Nat.lt_trichotomy i j with g1 | g1 | g1
    · obtain ⟨d, hd⟩ : ∃ d : Nat, d = j - i := ⟨_, rfl⟩
      have e6 : (j : Int) - (i : Int) = (d : Int) := by omega
      obtain ⟨q, hq⟩ : ∃ q : Int, q = m + (j : Int) - (i : Int) := ⟨_, rfl⟩
      have e7 : m + (j : Int) - (i : Int) = q := hq.symm
      have lt1 : (V'.take d).length = d := by rw [List.length_take]; omega
      have ld1 : (V'.drop d).length = i := by rw [List.length_drop]; omega
      have eD : P' ++ (U' ++ (V' ++ S')) = P' ++ (U' ++ (V'.take d ++ (V'.drop d ++ S'))) := by
        rw [← List.append_assoc (V'.take d), List.take_append_drop]
      rw [eD] at hsr hlen
      have c1 := swaps_any w0 g f P' U' (V'.take d) (V'.drop d) S' N c (p : Int) q (i : Int) wr hlen.symm (by omega) (by omega) (by omega) (by omega) hs hsr
      have r1 : (i : Int) ≠ (j : Int) := by omega
      have r2 : ¬ ((j : Int) < (i : Int)) := by omega
      have r3 : q ≤ (N : Int) := by omega
      have r4 : 0 ≤ q := by omega
      have HJ := Lib.hid (And.intro lt1 ld1)
      have HD := Lib.hid hd
      clear hsr hlen htg hz eD hq lt1 ld1 hp hd hPm hUl hVl
      go_wp2_with (fail)
      refine c1.mono ?_
      rintro E w1 ⟨rfl, hsr2⟩
      have HS := Lib.hid hsr2
      clear c1 hsr2
      go_wp2_with (fail)
      go_roundw
      case rel =>
        obtain ⟨hp, hPm, hUl, hVl⟩ := HP.out
        have hd := HD.out
        refine ⟨i, d, rfl, by go_num, hi, by omega, Lib.hid ⟨P', V'.drop d, V'.take d, U' ++ S', HJ.out.2, HJ.out.1, by omega, hi1, by omega, ?_, ?_, ?_⟩⟩
        · rw [← HL.out]; simp only [List.length_append, HJ.out.1, HJ.out.2]; omega
        · rw [← HT.out, ← List.append_assoc (V'.take d), List.take_append_drop]
        · exact HS.out
      case measure => have hd := HD.out; simp [intOf]; omega
    · subst g1
      have c1 := swaps_any w0 g f P' U' [] V' S' N c (p : Int) m (i : Int) wr hlen.symm (by omega) (by simp; omega) (by omega) (by omega) hs hsr
      clear hsr hlen htg hz hp hPm hUl hVl
      go_wp2_with (fail)
      refine c1.mono ?_
      rintro E w1 ⟨rfl, hsr2⟩
      have HS := Lib.hid (show Srt w0 g w1 TG by rw [← HT.out]; exact hsr2)
      clear c1 hsr2
      go_wp2_with (fail)
      go_end0
      exact ⟨rfl, HS.out⟩
    · obtain ⟨d, hd⟩ : ∃ d : Nat, d = i - j := ⟨_, rfl⟩
      have e6 : (i : Int) - (j : Int) = (d : Int) := by omega
      have lt1 : (U'.take j).length = j := by rw [List.length_take]; omega
      have ld1 : (U'.drop j).length = d := by rw [List.length_drop]; omega
      have eD : P' ++ (U' ++ (V' ++ S')) = P' ++ (U'.take j ++ (U'.drop j ++ (V' ++ S'))) := by
        rw [← List.append_assoc (U'.take j), List.take_append_drop]
      rw [eD] at hsr hlen
      have c1 := swaps_any w0 g f P' (U'.take j) (U'.drop j) V' S' N c (p : Int) m (j : Int) wr hlen.symm (by omega) (by omega) (by omega) (by omega) hs hsr
      have r1 : (i : Int) ≠ (j : Int) := by omega
      have r2 : (j : Int) < (i : Int) := by omega
      have HJ := Lib.hid (And.intro lt1 ld1)
      have HD := Lib.hid hd
      clear hsr hlen htg hz eD lt1 ld1 hp hd hPm hUl hVl
      go_wp2_with (fail)
      refine c1.mono ?_
      rintro E w1 ⟨rfl, hsr2⟩
      have HS := Lib.hid hsr2
      clear c1 hsr2
      go_wp2_with (fail)
      go_roundw
      case rel =>
        obtain ⟨hp, hPm, hUl, hVl⟩ := HP.out
        have hd := HD.out
        refine ⟨d, j, by go_num, rfl, by omega, hj, Lib.hid ⟨P' ++ V', U'.drop j, U'.take j, S', HJ.out.2, HJ.out.1, ?_, by omega, hj1, ?_, ?_, ?_⟩⟩
        · rw [List.length_append]; omega
        · rw [← HL.out]; simp only [List.length_append, HJ.out.1, HJ.out.2]; omega
        · rw [← HT.out, List.append_assoc, ← List.append_assoc (U'.take j), List.take_append_drop]
        · rw [List.append_assoc]; exact HS.out
      case measure => have hd := HD.out; simp [intOf]; omega
end Go.Proofs.Ytaodobjekpacoaa
