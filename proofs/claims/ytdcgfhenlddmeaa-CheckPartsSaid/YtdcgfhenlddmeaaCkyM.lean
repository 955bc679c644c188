/-
  THE STATEMENTS' OWN HELP OF LAYER 11: Twos, Few, Light, the chapter's examples.
-/
import Derived.Test.YtdcgfhenlddmeaaCkwM
import Derived.Test.YtdcgfhenlddmeaaTrtM
import Derived.Test.YtdcgfhenlddmeaaTraM
namespace Go.Proofs.Ytdcgfhenlddmeaa
open Go.RowKit Go.Sort
set_option maxHeartbeats 6400000

/-- the cells of the equality of the two tables' first columns -/
abbrev eqCells : List Value := [.int .i64 2, .int .i64 0, .int .i64 1, .int .i64 1, .int .i64 0, .int .i64 0, .bool false, .int .i64 0, .int .i64 1, .int .i64 1, .int .i64 0, .bool false, .int .i64 0, .slice none 0 0]
/-- the cells of two leaves, the second of which is of table i -/
abbrev twoCells (i : Int) : List Value := [.int .i64 0, .int .i64 0, .slice none 0 0, .slice none 0 0, .bool false, .int .i64 0, .int .i64 i, .slice none 0 0, .slice none 0 0, .bool false]
abbrev twoTrI (k i : Int) : Tr := .mk k 0 false [eq01] [leafTr 0, leafTr i]
theorem lies_two {W : World} {g h : Nat} {T T' : TypeId} {k i : Int} (hg : Lies W g T (twoCells i)) (hh : Lies W h T' eqCells) : (∃ d, TsAt d W (.slice (some ⟨g, 0, none⟩) 2 2) (twoTrI k i).ks) ∧ PsSome W (.slice (some ⟨h, 0, none⟩) 1 1) (twoTrI k i).cs := by
  refine ⟨⟨2, some ⟨g, 0, none⟩, 2, rfl, by simp [Tr.ks], fun j a hj => ?_⟩, 1, some ⟨h, 0, none⟩, 1, rfl, by simp [Tr.cs], fun j p hj => ?_⟩
  · have hn : TsAt 1 W (.slice none 0 0) [] := ⟨none, 0, rfl, by simp, fun j a h => by simp at h⟩
    have hp : PsSome W (.slice none 0 0) [] := ⟨0, rfl, none, 0, rfl⟩
    match j, hj with
    | 0, hj =>
      cases hj
      refine ⟨g, 0, none, _, _, rfl, hg.lt, ?_, hp, hn⟩
      rw [show (⟨g, 0, none⟩ : Addr).add (0 * 5) = ⟨g, 0, none⟩ by simp [Addr.add]]
      exact ⟨hg.cell (i := 0) rfl, hg.cell (i := 1) rfl, hg.cell (i := 2) rfl, hg.cell (i := 3) rfl, hg.cell (i := 4) rfl⟩
    | 1, hj =>
      cases hj
      refine ⟨g, 0, none, _, _, rfl, hg.lt, ?_, hp, hn⟩
      rw [show (⟨g, 0, none⟩ : Addr).add (1 * 5) = ⟨g, 5, none⟩ by simp [Addr.add]]
      exact ⟨hg.cell (i := 5) rfl, hg.cell (i := 6) rfl, hg.cell (i := 7) rfl, hg.cell (i := 8) rfl, hg.cell (i := 9) rfl⟩
  · match j, hj with
    | 0, hj =>
      cases hj
      refine ⟨h, 0, none, _, rfl, hh.lt, ?_, rfl, none, 0, rfl⟩
      rw [show (⟨h, 0, none⟩ : Addr).add (0 * 14) = ⟨h, 0, none⟩ by simp [Addr.add]]
      exact Lies.pd (f := (⟨2, 0, 1, ⟨1, 0, 0, false, 0⟩, ⟨1, 1, 0, false, 0⟩⟩ : Pf)) (u := .slice none 0 0) hh
theorem twoI_size (k i : Int) : Tr.size (twoTrI k i) ≤ 1000 := by
  unfold twoTrI leafTr eq01
  simp [Tr.size, Tr.sizes, Pr.sizes, Pr.size]
set_option maxRecDepth 100000 in
theorem on11_any (k i : Int) (A : Option Addr) (n c : Nat) (w : World) :
    Calls Try.prog 40 #[.int .i64 k, .agg #[.int .i64 0, .int .i64 0, .slice none 0 0, .slice none 0 0, .bool false], .agg #[.int .i64 0, .int .i64 i, .slice none 0 0, .slice none 0 0, .bool false], .slice A n c] w
      fun e w' => ∃ g, e = .returned (.agg #[.int .i64 k, .int .i64 0, .slice (some ⟨g, 0, none⟩) 2 2, .slice A n c, .bool false]) ∧ Lies w' g 26 (twoCells i) ∧ w.heap.size ≤ g ∧ Below w.heap.size w w' := by
  go_enter Try.func40, Try.ntmps40
  go_wp2
  refine bodyPost_ret (v := .agg #[.int .i64 k, .int .i64 0, .slice (some ⟨w.heap.size + 1 + 1 + 1, 0, none⟩) 2 2, .slice A n c, .bool false]) (by simp [results, Try.results40, go_sem]) rfl ⟨w.heap.size + 1 + 1 + 1, rfl, ?_, by omega, ?_⟩
  · have l := fun (W : World) (G : Nat) (hG : W.heap.size = G) => (show Lies (W.alloc (Obj.cells (twoCells i).toArray 26)) G 26 (twoCells i) from hG ▸ Lies.new W _ _)
    exact l _ _ (by simp)
  · exact ((((Below.refl _ _).alloc (Nat.le_refl _) _).alloc (by simp) _).alloc (by simp; omega) _).alloc (by simp; omega) _
set_option maxRecDepth 100000 in
theorem two11_any (k : Int) (w : World) :
    Calls Try.prog 30 #[.int .i64 k] w
      fun e w' => ∃ g h, e = .returned (.agg #[.int .i64 k, .int .i64 0, .slice (some ⟨g, 0, none⟩) 2 2, .slice (some ⟨h, 0, none⟩) 1 1, .bool false]) ∧ Lies w' g 26 (twoCells 1) ∧ Lies w' h 49 eqCells ∧ w.heap.size < g ∧ w.heap.size < h ∧ Below w.heap.size w w' := by
  obtain ⟨W0, hW0⟩ : ∃ W0, W0 = w.alloc (Obj.cells #[.int .i64 0, .int .i64 0, .slice none 0 0, .slice none 0 0, .bool false] 26) := ⟨_, rfl⟩
  obtain ⟨q0, hb0⟩ := box_one (cs := [.int .i64 0, .int .i64 0, .slice none 0 0, .slice none 0 0, .bool false]) hW0
  have HQ := Lib.hid q0
  have HW := Lib.hid hW0
  have hsz0 := Lib.hid (show W0.heap.size = w.heap.size + 1 by rw [hW0]; simp)
  clear hW0 q0
  go_enter Try.func30, Try.ntmps30
  go_wp2_with (go_at_call 41; refine (leaf10_any 0 _).mono ?_)
  rintro e w1 ⟨rfl, hb1⟩
  rw [← HW.out] at hb1
  go_wp2_with (go_at_call 41; refine (leaf10_any 1 _).mono ?_)
  rintro e w2 ⟨rfl, hb2⟩
  have hb02 := below_join hb1 hb2
  clear hb1 hb2
  go_wp2_with (go_at_call 42; refine (equal6_any 0 1 _).mono ?_)
  rintro e w3 ⟨rfl, hb3⟩
  have hb03 := below_join hb02 hb3
  clear hb02 hb3
  obtain ⟨W4, hW4⟩ : ∃ W4, W4 = w3.alloc (Obj.cells eqCells.toArray 49) := ⟨_, rfl⟩
  obtain ⟨lp, hb4⟩ := box_one (cs := eqCells) hW4
  go_wp2_with (go_at_call 40; refine (on11_any k 1 _ 1 1 _).mono ?_)
  rw [← hW4]
  have hb04 := below_join hb03 hb4
  have hs4 : w.heap.size < w3.heap.size := by have := hb03.size; have := hsz0.out; omega
  rintro e w5 ⟨g, rfl, hlg, hg4, hb5⟩
  have hg5 : w.heap.size < g := by have := hb4.size; omega
  have lp5 := lp.below hb5 lp.lt
  have hb05 := below_join hb04 hb5
  have q5 := HQ.out.below hb05 (by have := hsz0.out; omega)
  have HB5 := Lib.hid (below_join hb0 hb05)
  have z0 := q5.cell (i := 0) rfl
  have z1 := q5.cell (i := 1) rfl
  have z2 := q5.cell (i := 2) rfl
  have z3 := q5.cell (i := 3) rfl
  have z4 := q5.cell (i := 4) rfl
  have f0 := q5.free 0
  have f1 := q5.free 1
  have f2 := q5.free 2
  have f3 := q5.free 3
  have f4 := q5.free 4
  have HQ5 := Lib.hid q5
  have HLG := Lib.hid hlg
  have HLP := Lib.hid lp5
  clear lp hW4 hb04 hb4 hb5 hb05 q5 hb0 hlg lp5 hb03
  go_wp2_with fail
  obtain ⟨W6, hW6⟩ : ∃ W6, W6 = setCells w5 w.heap.size 0 [.int .i64 k, .int .i64 0, .slice (some ⟨g, 0, none⟩) 2 2, .slice (some ⟨w3.heap.size, 0, none⟩) 1 1, .bool false] := ⟨_, rfl⟩
  simp only [setCells] at hW6
  rw [← hW6]
  change W6 = setCells w5 w.heap.size 0 [.int .i64 k, .int .i64 0, .slice (some ⟨g, 0, none⟩) 2 2, .slice (some ⟨w3.heap.size, 0, none⟩) 1 1, .bool false] at hW6
  have q6 : Lies W6 w.heap.size 26 [.int .i64 k, .int .i64 0, .slice (some ⟨g, 0, none⟩) 2 2, .slice (some ⟨w3.heap.size, 0, none⟩) 1 1, .bool false] := by rw [hW6]; exact HQ5.out.sets _ 0
  have hk6 : ∀ k, w.heap.size < k → W6.heap[k]? = w5.heap[k]? := fun k hk => by rw [hW6, setCells_other _ _ (by omega)]
  have hb6 : Below w.heap.size w W6 := by rw [hW6]; exact Below.sets (Nat.le_refl _) _ _ HB5.out
  have x0 := q6.cell (i := 0) rfl
  have x1 := q6.cell (i := 1) rfl
  have x2 := q6.cell (i := 2) rfl
  have x3 := q6.cell (i := 3) rfl
  have x4 := q6.cell (i := 4) rfl
  clear z0 z1 z2 z3 z4 f0 f1 f2 f3 f4 hW6
  exact bodyPost_ret (v := .agg #[.int .i64 k, .int .i64 0, .slice (some ⟨g, 0, none⟩) 2 2, .slice (some ⟨w3.heap.size, 0, none⟩) 1 1, .bool false]) (by simp [results, Try.results30, go_sem, x0, x1, x2, x3, x4]) rfl ⟨g, w3.heap.size, rfl, (hk6 g hg5).trans HLG.out, (hk6 _ hs4).trans HLP.out, hg5, hs4, hb6⟩
set_option maxRecDepth 100000 in
theorem twos11_any (k : Int) (w : World) :
    Calls Try.prog 21 #[.int .i64 k] w
      fun e w' => ∃ C g h, e = .returned (.agg #[.slice (some ⟨C, 0, none⟩) 2 2, .int .i64 k, .int .i64 0, .slice (some ⟨g, 0, none⟩) 2 2, .slice (some ⟨h, 0, none⟩) 1 1, .bool false]) ∧ Lies w' C 3 [.int .i64 2, .int .i64 2] ∧ Lies w' g 26 (twoCells 1) ∧ Lies w' h 49 eqCells ∧ w.heap.size < g ∧ Below w.heap.size w w' := by
  obtain ⟨W0, hW0⟩ : ∃ W0, W0 = (w.alloc (Obj.cells #[.slice none 0 0, .int .i64 0, .int .i64 0, .slice none 0 0, .slice none 0 0, .bool false] 28)).alloc (Obj.cells #[.int .i64 2, .int .i64 2] 3) := ⟨_, rfl⟩
  obtain ⟨q0, l1, hb0⟩ := box_two (cs := [.slice none 0 0, .int .i64 0, .int .i64 0, .slice none 0 0, .slice none 0 0, .bool false]) (ds := [.int .i64 2, .int .i64 2]) hW0
  have HQ := Lib.hid q0
  have HL1 := Lib.hid l1
  have HW := Lib.hid hW0
  have hsz0 := Lib.hid (show W0.heap.size = w.heap.size + 2 by rw [hW0]; simp)
  clear hW0 q0 l1
  have ct := two11_any k W0
  go_enter Try.func21, Try.ntmps21
  go_wp2_with fail
  rw [← HW.out]
  refine ct.mono ?_
  rintro e w1 ⟨g, h, rfl, hlg, hlh, hg1, hh1, hb1⟩
  have q5 := HQ.out.below hb1 (by have := hsz0.out; omega)
  have l5 := HL1.out.below hb1 (by have := hsz0.out; omega)
  have HB5 := Lib.hid (below_join hb0 hb1)
  have hg5 : w.heap.size < g := by have := hsz0.out; omega
  have hh5 : w.heap.size < h := by have := hsz0.out; omega
  have z0 := q5.cell (i := 0) rfl
  have z1 := q5.cell (i := 1) rfl
  have z2 := q5.cell (i := 2) rfl
  have z3 := q5.cell (i := 3) rfl
  have z4 := q5.cell (i := 4) rfl
  have z5 := q5.cell (i := 5) rfl
  have f0 := q5.free 0
  have f1 := q5.free 1
  have f2 := q5.free 2
  have f3 := q5.free 3
  have f4 := q5.free 4
  have f5 := q5.free 5
  have HQ5 := Lib.hid q5
  have HL5 := Lib.hid l5
  have HLG := Lib.hid hlg
  have HLH := Lib.hid hlh
  clear ct hb0 hb1 q5 l5 hlg hlh hg1 hh1
  go_wp2_with fail
  obtain ⟨W6, hW6⟩ : ∃ W6, W6 = setCells w1 w.heap.size 0 [.slice (some ⟨w.heap.size + 1, 0, none⟩) 2 2, .int .i64 k, .int .i64 0, .slice (some ⟨g, 0, none⟩) 2 2, .slice (some ⟨h, 0, none⟩) 1 1, .bool false] := ⟨_, rfl⟩
  simp only [setCells] at hW6
  rw [← hW6]
  change W6 = setCells w1 w.heap.size 0 [.slice (some ⟨w.heap.size + 1, 0, none⟩) 2 2, .int .i64 k, .int .i64 0, .slice (some ⟨g, 0, none⟩) 2 2, .slice (some ⟨h, 0, none⟩) 1 1, .bool false] at hW6
  have q6 : Lies W6 w.heap.size 28 [.slice (some ⟨w.heap.size + 1, 0, none⟩) 2 2, .int .i64 k, .int .i64 0, .slice (some ⟨g, 0, none⟩) 2 2, .slice (some ⟨h, 0, none⟩) 1 1, .bool false] := by rw [hW6]; exact HQ5.out.sets _ 0
  have hk6 : ∀ k, w.heap.size < k → W6.heap[k]? = w1.heap[k]? := fun k hk => by rw [hW6, setCells_other _ _ (by omega)]
  have hb6 : Below w.heap.size w W6 := by rw [hW6]; exact Below.sets (Nat.le_refl _) _ _ HB5.out
  have x0 := q6.cell (i := 0) rfl
  have x1 := q6.cell (i := 1) rfl
  have x2 := q6.cell (i := 2) rfl
  have x3 := q6.cell (i := 3) rfl
  have x4 := q6.cell (i := 4) rfl
  have x5 := q6.cell (i := 5) rfl
  clear z0 z1 z2 z3 z4 z5 f0 f1 f2 f3 f4 f5 hW6
  exact bodyPost_ret (v := .agg #[.slice (some ⟨w.heap.size + 1, 0, none⟩) 2 2, .int .i64 k, .int .i64 0, .slice (some ⟨g, 0, none⟩) 2 2, .slice (some ⟨h, 0, none⟩) 1 1, .bool false]) (by simp [results, Try.results21, go_sem, x0, x1, x2, x3, x4, x5]) rfl ⟨w.heap.size + 1, g, h, rfl, (hk6 _ (by omega)).trans HL5.out, (hk6 g hg5).trans HLG.out, (hk6 _ hh5).trans HLH.out, hg5, hb6⟩
set_option maxRecDepth 100000 in
theorem few11_any (a : Tr) (cv : Value) (u v : Value) (w : World) (hu : ∃ d, TsAt d w u a.ks) (hv : PsSome w v a.cs) :
    Calls Try.prog 6 #[.agg #[cv, .int .i64 a.k, .int .i64 a.t, u, v, .bool a.h]] w fun e w' => e = .returned (.bool (decide (Tr.size a ≤ 600))) ∧ Below w.heap.size w w' := by
  obtain ⟨A, c, rfl, hl⟩ := hu.elim fun d h => h.form
  obtain ⟨A', c', rfl, hl'⟩ := hv.elim fun d h => h.form
  obtain ⟨W0, hW0⟩ : ∃ W0, W0 = w.alloc (Obj.cells #[cv, .int .i64 a.k, .int .i64 a.t, .slice A a.ks.length c, .slice A' a.cs.length c', .bool a.h] 28) := ⟨_, rfl⟩
  obtain ⟨l0, hb0⟩ := box_one (cs := [cv, .int .i64 a.k, .int .i64 a.t, .slice A a.ks.length c, .slice A' a.cs.length c', .bool a.h]) hW0
  have x1 := l0.cell (i := 1) rfl
  have x2 := l0.cell (i := 2) rfl
  have x3 := l0.cell (i := 3) rfl
  have x4 := l0.cell (i := 4) rfl
  have x5 := l0.cell (i := 5) rfl
  have ct := hu.elim fun d h => r10size_any d a _ _ 601 W0 (h.below hb0 (Nat.le_refl _)) (hv.below hb0 (Nat.le_refl _)) (by decide) (by decide)
  have HW := Lib.hid hW0
  have hd : decide (Tr.size a ≤ 600) = decide (min (Tr.size a : Int) 601 ≤ 600) := by
    by_cases h : Tr.size a ≤ 600
    · rw [decide_eq_true h, decide_eq_true (by omega)]
    · rw [decide_eq_false h, decide_eq_false (by omega)]
  rw [hd]
  obtain ⟨m, hm⟩ : ∃ m, m = min (Tr.size a : Int) 601 := ⟨_, rfl⟩
  rw [← hm] at ct ⊢
  clear hW0 l0 hu hv hd hm
  go_enter Try.func6, Try.ntmps6
  go_upto_region 1 with (fail)
  rw [← HW.out]
  go_wp2_with fail
  refine ct.mono ?_
  rintro e w1 ⟨rfl, hb1⟩
  clear ct x1 x2 x3 x4 x5
  go_wp2_with fail
  go_ret
  exact ⟨rfl, below_join hb0 hb1⟩
set_option maxRecDepth 100000 in
theorem light11_any (dv : Value) (d : List (List (List Vl))) (w : World) (hd : Dts w dv d) :
    Calls Try.prog 7 #[dv] w fun e w' => ∃ b, e = .returned (.bool b) ∧ w = w' := by
  obtain ⟨D, dc, hdv, _, _⟩ := id hd
  subst hdv
  have HD := Lib.hid hd
  obtain ⟨m, hm⟩ : ∃ m, m = d.length := ⟨_, rfl⟩
  rw [← hm] at HD ⊢
  have HM := Lib.hid hm
  clear hd hm
  go_enter Try.func7, Try.ntmps7
  go_wp2_with fail
  go_loopw [3, 4] (fun s i wr => ∃ (z : Int) (q : Nat), q ≤ 70 ∧ i = .int .i64 q ∧ s = .int .i64 z ∧ w = wr) (fun _ i _ => 70 - (intOf i).toNat)
  case atStart => exact ⟨0, 0, by omega, rfl, rfl, rfl⟩
  case round =>
    obtain ⟨z, q, hq, rfl, rfl, rfl⟩ := hrel
    by_cases hlt : q < m
    · by_cases h70 : q < 70
      · obtain ⟨rs, gr⟩ : ∃ x, d[q]? = some x := ⟨d[q]'(by have := HM.out; omega), List.getElem?_eq_getElem _⟩
        obtain ⟨b2, o2, p2, B2, e2, hD, _, hcell2, hrs⟩ := HD.out.at_ gr
        subst hD
        obtain ⟨B2', e2', hB2, _, hrow⟩ := hrs.at_
        obtain ⟨rfl, rfl⟩ : B2 = B2' ∧ e2 = e2' := by cases hB2; exact ⟨rfl, rfl⟩
        have HROW := Lib.hid hrow
        obtain ⟨nr, hnr⟩ : ∃ nr, nr = rs.length := ⟨_, rfl⟩
        rw [← hnr] at hcell2
        have HNR := Lib.hid hnr
        clear gr hrs hrow hB2 hnr
        go_wp2_with fail
        go_loopw [5] (fun i wr => ∃ j : Nat, j ≤ 2000 ∧ i = .int .i64 j ∧ w = wr) (fun i _ => 2000 - (intOf i).toNat)
        case atStart => exact ⟨0, by omega, rfl, rfl⟩
        case round =>
          obtain ⟨j, hj, rfl, rfl⟩ := hrel
          by_cases hlt3 : j < nr
          · by_cases h2 : j < 2000
            · obtain ⟨r, gr⟩ : ∃ r, rs[j]? = some r := ⟨rs[j]'(by have := HNR.out; omega), List.getElem?_eq_getElem _⟩
              obtain ⟨b3, o3, p3, B3, e3, hB3, hc3, _, _⟩ := HROW.out j r gr
              subst hB3
              obtain ⟨nv, hnv⟩ : ∃ nv, nv = r.length := ⟨_, rfl⟩
              rw [← hnv] at hc3
              clear gr hnv
              by_cases h20 : 20 < nv
              · go_wp2_with fail
                all_goals (go_ret; first | exact ⟨_, rfl, rfl⟩ | exact ⟨.inl rfl, rfl⟩ | exact ⟨.inr rfl, rfl⟩ | exact ⟨_, rfl⟩ | rfl | trivial)
              · go_wp2_with fail
                go_roundw
                case rel => exact ⟨j + 1, by omega, by go_num, by first | rfl | trivial⟩
                case measure => simp [intOf]; omega
            · go_wp2_with fail
              go_roundw
              case rel => exact ⟨_, q + 1, by omega, by go_num, by first | rfl | trivial, by first | rfl | trivial⟩
              case measure => simp [intOf]; omega
          · go_wp2_with fail
            go_roundw
            case rel => exact ⟨_, q + 1, by omega, by go_num, by first | rfl | trivial, by first | rfl | trivial⟩
            case measure => simp [intOf]; omega
      · by_cases h66 : m ≤ 66
        · go_wp2_with fail
          all_goals (go_ret; first | exact ⟨_, rfl, rfl⟩ | exact ⟨.inl rfl, rfl⟩ | exact ⟨.inr rfl, rfl⟩ | exact ⟨_, rfl⟩ | rfl | trivial)
        · go_wp2_with fail
          all_goals (go_ret; first | exact ⟨_, rfl, rfl⟩ | exact ⟨.inl rfl, rfl⟩ | exact ⟨.inr rfl, rfl⟩ | exact ⟨_, rfl⟩ | rfl | trivial)
    · by_cases h66 : m ≤ 66
      · go_wp2_with fail
        all_goals (go_ret; first | exact ⟨_, rfl, rfl⟩ | exact ⟨.inl rfl, rfl⟩ | exact ⟨.inr rfl, rfl⟩ | exact ⟨_, rfl⟩ | rfl | trivial)
      · go_wp2_with fail
        all_goals (go_ret; first | exact ⟨_, rfl, rfl⟩ | exact ⟨.inl rfl, rfl⟩ | exact ⟨.inr rfl, rfl⟩ | exact ⟨_, rfl⟩ | rfl | trivial)
end Go.Proofs.Ytdcgfhenlddmeaa
