/-
  THE LAW CheckTells, walked.
-/
import Derived.Test.YtdcgfhenlddmeaaCkzM
namespace Go.Proofs.Ytdcgfhenlddmeaa
open Go.RowKit Go.Sort
set_option maxHeartbeats 12800000

set_option maxRecDepth 100000 in
theorem checktells_any (a : Tr) (cols : List Int) (cv u v dv : Value) (d : List (List (List Vl))) (w : World) (hc : Sl w cv (cols.map (Value.int .i64))) (hu : ∃ d, TsAt d w u a.ks) (hv : PsSome w v a.cs) (hd : Dts w dv d) :
    Calls Try.prog 3 #[.agg #[cv, .int .i64 a.k, .int .i64 a.t, u, v, .bool a.h], dv] w fun e w' => e = .returned (.bool true) ∧ Below w.heap.size w w' := by
  obtain ⟨A, c, rfl, _⟩ := hu.elim fun d h => h.form
  obtain ⟨A', c', rfl, _⟩ := hv.elim fun d h => h.form
  obtain ⟨C, cc, hcv, _⟩ := id hc
  subst hcv
  obtain ⟨D, dc, hdv, _, _⟩ := id hd
  subst hdv
  obtain ⟨n, hn⟩ : ∃ n, n = (cols.map (Value.int .i64)).length := ⟨_, rfl⟩
  rw [← hn] at hc ⊢
  obtain ⟨ka, hka⟩ : ∃ n, n = a.ks.length := ⟨_, rfl⟩
  rw [← hka] at hu ⊢
  obtain ⟨na, hna⟩ : ∃ n, n = a.cs.length := ⟨_, rfl⟩
  rw [← hna] at hv ⊢
  clear hn hka hna
  obtain ⟨W0, hW0⟩ : ∃ W0, W0 = w.alloc (Obj.cells #[.slice C n cc, .int .i64 a.k, .int .i64 a.t, .slice A ka c, .slice A' na c', .bool a.h] 28) := ⟨_, rfl⟩
  obtain ⟨l0, hb0⟩ := box_one (cs := [.slice C n cc, .int .i64 a.k, .int .i64 a.t, .slice A ka c, .slice A' na c', .bool a.h]) hW0
  have hc0 := hc.below hb0 (Nat.le_refl _)
  have hu0 : ∃ d, TsAt d W0 (.slice A ka c) a.ks := hu.elim fun d h => ⟨d, h.below hb0 (Nat.le_refl _)⟩
  have hv0 := hv.below hb0 (Nat.le_refl _)
  have hd0 := hd.below hb0 (Nat.le_refl _)
  have CF := Lib.hid (in_turn (W0 := W0) fun W h => few11_any a (.slice C n cc) _ _ W (hu0.elim fun d hh => ⟨d, hh.below h (Nat.le_refl _)⟩) (hv0.below h (Nat.le_refl _)))
  have CL := Lib.hid (fun W (h : Below W0.heap.size W0 W) => light11_any _ d W (hd0.below h (Nat.le_refl _)))
  have CA := Lib.hid (in_turn (W0 := W0) fun W h => awake11_any W)
  have C1 := Lib.hid (fun hsz => in_turn (W0 := W0) fun W h => query11_any a cols _ _ _ W (hc0.below h (Nat.le_refl _)) (hu0.elim fun d hh => ⟨d, hh.below h (Nat.le_refl _)⟩) (hv0.below h (Nat.le_refl _)) hsz)
  have C2 := Lib.hid (fun hsz => in_turn (W0 := W0) fun W h => rquery11_any a cols _ _ _ W (hc0.below h (Nat.le_refl _)) (hu0.elim fun d hh => ⟨d, hh.below h (Nat.le_refl _)⟩) (hv0.below h (Nat.le_refl _)) hsz)
  have C3 := Lib.hid (fun hsz => in_turn (W0 := W0) fun W h => right11_any a cols _ _ _ W (hc0.below h (Nat.le_refl _)) (hu0.elim fun d hh => ⟨d, hh.below h (Nat.le_refl _)⟩) (hv0.below h (Nat.le_refl _)) hsz)
  have C4 := Lib.hid (fun hsz => in_turn (W0 := W0) fun W h => rright11_any a cols _ _ _ W (hc0.below h (Nat.le_refl _)) (hu0.elim fun d hh => ⟨d, hh.below h (Nat.le_refl _)⟩) (hv0.below h (Nat.le_refl _)) hsz)
  have C5 := Lib.hid (fun hsz => in_turn (W0 := W0) fun W h => data11_any a cols _ _ _ _ d W (hc0.below h (Nat.le_refl _)) (hu0.elim fun d hh => ⟨d, hh.below h (Nat.le_refl _)⟩) (hv0.below h (Nat.le_refl _)) (hd0.below h (Nat.le_refl _)) hsz)
  have C6 := Lib.hid (fun hsz => in_turn (W0 := W0) fun W h => rdata11_any a cols _ _ _ _ d W (hc0.below h (Nat.le_refl _)) (hu0.elim fun d hh => ⟨d, hh.below h (Nat.le_refl _)⟩) (hv0.below h (Nat.le_refl _)) (hd0.below h (Nat.le_refl _)) hsz)
  have HL0 := Lib.hid l0
  have KK := Lib.hid (fun W (h : Below W0.heap.size W0 W) => (show (W.cell? ⟨w.heap.size, 0, none⟩ = some (.slice C n cc) ∧ W.cell? ⟨w.heap.size, 1, none⟩ = some (.int .i64 a.k) ∧ W.cell? ⟨w.heap.size, 2, none⟩ = some (.int .i64 a.t) ∧ W.cell? ⟨w.heap.size, 3, none⟩ = some (.slice A ka c) ∧ W.cell? ⟨w.heap.size, 4, none⟩ = some (.slice A' na c') ∧ W.cell? ⟨w.heap.size, 5, none⟩ = some (.bool a.h)) ∧ Below W0.heap.size W0 W from
    have ll := l0.below h l0.lt
    ⟨⟨ll.cell (i := 0) rfl, ll.cell (i := 1) rfl, ll.cell (i := 2) rfl, ll.cell (i := 3) rfl, ll.cell (i := 4) rfl, ll.cell (i := 5) rfl⟩, h⟩))
  have HW := Lib.hid hW0
  have HB := Lib.hid hb0
  obtain ⟨⟨p0, p1, p2, p3, p4, p5⟩, _⟩ := KK.out W0 (Below.refl _ _)
  clear hc hu hv hd hc0 hu0 hv0 hd0 l0 hb0 hW0
  obtain ⟨f, hf⟩ : ∃ f, f = decide (Tr.size a ≤ 600) := ⟨_, rfl⟩
  rw [← hf] at CF
  have HF := Lib.hid hf
  clear hf
  go_enter Try.func3, Try.ntmps3
  go_upto_region 1 with (fail)
  rw [← HW.out]
  go_wp2_with fail
  refine (CF.out _ (Below.refl _ _)).mono ?_
  rintro e w1 ⟨rfl, hb1⟩
  clear p0 p1 p2 p3 p4 p5
  cases f with
  | false =>
    have ca := CA.out _ hb1
    go_wp2_with fail
    refine ca.mono ?_
    rintro e w2 ⟨rfl, hb2⟩
    go_wp2_with fail
    go_ret
    exact ⟨rfl, below_join HB.out hb2⟩
  | true =>
    have cl := CL.out _ hb1
    go_wp2_with fail
    refine cl.mono ?_
    rintro e w2 ⟨b, rfl, rfl⟩
    clear cl
    cases b with
    | false =>
      have ca := CA.out _ hb1
      go_wp2_with fail
      refine ca.mono ?_
      rintro e w2 ⟨rfl, hb2⟩
      go_wp2_with fail
      go_ret
      exact ⟨rfl, below_join HB.out hb2⟩
    | true =>
      have hsz : Tr.size a ≤ 1000 := by have h := of_decide_eq_true HF.out.symm; omega
      have D1 := Lib.hid (C1.out hsz)
      have D2 := Lib.hid (C2.out hsz)
      have D3 := Lib.hid (C3.out hsz)
      have D4 := Lib.hid (C4.out hsz)
      have D5 := Lib.hid (C5.out hsz)
      have D6 := Lib.hid (C6.out hsz)
      have hS := hb1
      clear C1 C2 C3 C4 C5 C6 CF CL hb1 hsz HF
      obtain ⟨q, hq⟩ : ∃ q, q = Ck.query cols a := ⟨_, rfl⟩
      obtain ⟨x, hx⟩ : ∃ x, x = Ck.data cols a d := ⟨_, rfl⟩
      rw [← hq] at D1 D2 D3 D4
      rw [← hx] at D5 D6
      obtain ⟨y, hy⟩ : ∃ y, y = (q == 0) := ⟨_, rfl⟩
      rw [← hy] at D3 D4
      clear hq hx hy
      go_upto_region 3 with (fail)
      go_region_held3 (fun W => (W.cell? ⟨w.heap.size, 0, none⟩ = some (.slice C n cc) ∧ W.cell? ⟨w.heap.size, 1, none⟩ = some (.int .i64 a.k) ∧ W.cell? ⟨w.heap.size, 2, none⟩ = some (.int .i64 a.t) ∧ W.cell? ⟨w.heap.size, 3, none⟩ = some (.slice A ka c) ∧ W.cell? ⟨w.heap.size, 4, none⟩ = some (.slice A' na c') ∧ W.cell? ⟨w.heap.size, 5, none⟩ = some (.bool a.h)) ∧ Below W0.heap.size W0 W) (first | (exact KK.out _ (by repeat first | assumption | refine Below.drew ?_)))
        (first
          | (go_at_call 9; (with_reducible refine (D1.out _ (by repeat first | assumption | refine Below.drew ?_)).mono ?_); rintro e w' ⟨rfl, hS'⟩)
          | (go_at_call 10; (with_reducible refine (D2.out _ (by repeat first | assumption | refine Below.drew ?_)).mono ?_); rintro e w' ⟨rfl, hS'⟩)
          | (go_at_call 11; (with_reducible refine (D3.out _ (by repeat first | assumption | refine Below.drew ?_)).mono ?_); rintro e w' ⟨rfl, hS'⟩)
          | (go_at_call 12; (with_reducible refine (D4.out _ (by repeat first | assumption | refine Below.drew ?_)).mono ?_); rintro e w' ⟨rfl, hS'⟩)
          | (go_at_call 13; (with_reducible refine (D5.out _ (by repeat first | assumption | refine Below.drew ?_)).mono ?_); rintro e w' ⟨rfl, hS'⟩)
          | (go_at_call 14; (with_reducible refine (D6.out _ (by repeat first | assumption | refine Below.drew ?_)).mono ?_); rintro e w' ⟨rfl, hS'⟩)
          | (go_at_call 8; (with_reducible refine (CA.out _ (by repeat first | assumption | refine Below.drew ?_)).mono ?_); rintro e w' ⟨rfl, hS'⟩)
          | (fail "no arm"))
      all_goals
        go_wp2_with fail
        go_ret
        exact ⟨rfl, below_join HB.out (by assumption)⟩
end Go.Proofs.Ytdcgfhenlddmeaa
