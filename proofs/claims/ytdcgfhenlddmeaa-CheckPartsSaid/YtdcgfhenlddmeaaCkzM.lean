/-
  THE CHAPTER's EXAMPLES of layer 11.
-/
import Derived.Test.YtdcgfhenlddmeaaCkyM
namespace Go.Proofs.Ytdcgfhenlddmeaa
open Go.RowKit Go.Sort
set_option maxHeartbeats 6400000

theorem lies_sl {w : World} {g : Nat} {T : TypeId} {xs : List Value} (h : Lies w g T xs) : Sl w (.slice (some ⟨g, 0, none⟩) xs.length xs.length) xs := by
  refine ⟨some ⟨g, 0, none⟩, xs.length, rfl, Nat.le_refl _, fun j u hj => ⟨g, 0, none, rfl, h.lt, ?_⟩⟩
  rw [add_from5]
  exact h.cell hj
theorem empty_ts (w : World) : ∃ d, TsAt d w (.slice none 0 0) (leafTr 0).ks := ⟨0, rfl, none, 0, rfl⟩
theorem empty_ps (w : World) : PsSome w (.slice none 0 0) (leafTr 0).cs := ⟨0, rfl, none, 0, rfl⟩
theorem empty_sl (w : World) : Sl w (.slice none 0 0) (([] : List Int).map (Value.int .i64)) := ⟨none, 0, rfl, by simp, fun j u hj => by simp at hj⟩
theorem empty_dts (w : World) : Dts w (.slice none 0 0) [] := ⟨none, 0, rfl, by simp, fun j u hj => by simp at hj⟩
theorem nils_dts {w : World} {g : Nat} {T : TypeId} (h : Lies w g T [.slice none 0 0, .slice none 0 0]) : Dts w (.slice (some ⟨g, 0, none⟩) 2 2) [[], []] := by
  refine ⟨some ⟨g, 0, none⟩, 2, rfl, by simp, fun j rs hj => ?_⟩
  match j, hj with
  | 0, hj => cases hj; exact ⟨g, 0, none, none, 0, rfl, h.lt, by rw [add_from5]; exact h.cell (i := 0) rfl, Rws.nil w⟩
  | 1, hj => cases hj; exact ⟨g, 0, none, none, 0, rfl, h.lt, by rw [add_from5]; exact h.cell (i := 1) rfl, Rws.nil w⟩
/-- what a query of two tables is, of its blocks -/
theorem two_parts {W : World} {C g h : Nat} {k i : Int} (lC : Lies W C 3 [.int .i64 2, .int .i64 2]) (lg : Lies W g 26 (twoCells i)) (lh : Lies W h 49 eqCells) :
    Sl W (.slice (some ⟨C, 0, none⟩) 2 2) (([2, 2] : List Int).map (Value.int .i64)) ∧ (∃ d, TsAt d W (.slice (some ⟨g, 0, none⟩) 2 2) (twoTrI k i).ks) ∧ PsSome W (.slice (some ⟨h, 0, none⟩) 1 1) (twoTrI k i).cs :=
  ⟨lies_sl lC, (lies_two (k := k) lg lh).1, (lies_two (k := k) lg lh).2⟩
theorem ex_a : Ck.query [] (leafTr 0) = 5 := by decide +kernel
theorem ex_b : Ck.query [2, 2] (twoTrI 1 0) = 6 := by decide +kernel
theorem ex_c : Ck.query [2, 2] (twoTrI 2 1) = 0 := by decide +kernel
theorem ex_d : Ck.query [2, 2] (twoTrI 4 1) = 0 := by decide +kernel
theorem ex_e : Ck.data [2, 2] (twoTrI 3 1) [[], []] = 0 := by decide +kernel
theorem ex_f : Ck.data [2, 2] (twoTrI 3 1) [] = 13 := by decide +kernel
theorem c_two {k i : Int} {r : Int} (hr : Ck.query [2, 2] (twoTrI k i) = r) {W : World} {C g h : Nat} (lC : Lies W C 3 [.int .i64 2, .int .i64 2]) (lg : Lies W g 26 (twoCells i)) (lh : Lies W h 49 eqCells) :
    Calls Try.prog 9 #[.agg #[.slice (some ⟨C, 0, none⟩) 2 2, .int .i64 k, .int .i64 0, .slice (some ⟨g, 0, none⟩) 2 2, .slice (some ⟨h, 0, none⟩) 1 1, .bool false]] W fun e w' => e = .returned (.int .i64 r) ∧ Below W.heap.size W w' := by
  obtain ⟨h1, h2, h3⟩ := two_parts (k := k) lC lg lh
  have := query11_any (twoTrI k i) [2, 2] _ _ _ W h1 h2 h3 (twoI_size k i)
  rw [hr] at this
  exact this
theorem c_right {k i : Int} (hr : Ck.query [2, 2] (twoTrI k i) = 0) {W : World} {C g h : Nat} (lC : Lies W C 3 [.int .i64 2, .int .i64 2]) (lg : Lies W g 26 (twoCells i)) (lh : Lies W h 49 eqCells) :
    Calls Try.prog 11 #[.agg #[.slice (some ⟨C, 0, none⟩) 2 2, .int .i64 k, .int .i64 0, .slice (some ⟨g, 0, none⟩) 2 2, .slice (some ⟨h, 0, none⟩) 1 1, .bool false]] W fun e w' => e = .returned (.bool true) ∧ Below W.heap.size W w' := by
  obtain ⟨h1, h2, h3⟩ := two_parts (k := k) lC lg lh
  have := right11_any (twoTrI k i) [2, 2] _ _ _ W h1 h2 h3 (twoI_size k i)
  rw [hr] at this
  exact this
theorem c_data {k i : Int} {r : Int} {dv : Value} {d : List (List (List Vl))} (hr : Ck.data [2, 2] (twoTrI k i) d = r) {W : World} {C g h : Nat} (lC : Lies W C 3 [.int .i64 2, .int .i64 2]) (lg : Lies W g 26 (twoCells i)) (lh : Lies W h 49 eqCells) (hd : Dts W dv d) :
    Calls Try.prog 13 #[.agg #[.slice (some ⟨C, 0, none⟩) 2 2, .int .i64 k, .int .i64 0, .slice (some ⟨g, 0, none⟩) 2 2, .slice (some ⟨h, 0, none⟩) 1 1, .bool false], dv] W fun e w' => e = .returned (.int .i64 r) ∧ Below W.heap.size W w' := by
  obtain ⟨h1, h2, h3⟩ := two_parts (k := k) lC lg lh
  have := data11_any (twoTrI k i) [2, 2] _ _ _ dv d W h1 h2 h3 hd (twoI_size k i)
  rw [hr] at this
  exact this
set_option maxRecDepth 100000 in
theorem awake11_any (w : World) : Calls Try.prog 8 #[] w fun e w' => e = .returned (.bool true) ∧ Below w.heap.size w w' := by
  have ct := twos11_any 1 w
  go_enter Try.func8, Try.ntmps8
  go_wp2_with fail
  refine ct.mono ?_
  rintro e w1 ⟨C, g, h, rfl, lC, lg, lh, hwg, hb1⟩
  clear ct
  obtain ⟨W2, hW2⟩ : ∃ W2, W2 = w1.alloc (Obj.cells #[.slice (some ⟨C, 0, none⟩) 2 2, .int .i64 1, .int .i64 0, .slice (some ⟨g, 0, none⟩) 2 2, .slice (some ⟨h, 0, none⟩) 1 1, .bool false] 28) := ⟨_, rfl⟩
  obtain ⟨lq, hb2⟩ := box_one (cs := [.slice (some ⟨C, 0, none⟩) 2 2, .int .i64 1, .int .i64 0, .slice (some ⟨g, 0, none⟩) 2 2, .slice (some ⟨h, 0, none⟩) 1 1, .bool false]) hW2
  have lg2 := lg.below hb2 lg.lt
  have lC2 := lC.below hb2 lC.lt
  have lh2 := lh.below hb2 lh.lt
  have hgq : g ≠ w1.heap.size := fun e => by have := lg.lt; omega
  have hgC : C ≠ g := lC.ne_ lg (by decide)
  have hgh : h ≠ g := lh.ne_ lg (by decide)
  have x3 := lq.cell (i := 3) rfl
  have y1 := lg2.cell (i := 6) rfl
  have yf := lg2.free 6
  have HW := Lib.hid hW2
  have HLQ := Lib.hid lq
  have HLG := Lib.hid lg2
  have HLC := Lib.hid lC2
  have HLH := Lib.hid lh2
  have HB2 := Lib.hid (below_join hb1 hb2)
  clear lq lg2 lC2 lh2 lg lC lh hb1 hb2 hW2
  go_upto_region 2 with (fail)
  rw [← HW.out]
  go_wp2_with fail
  obtain ⟨W3, hW3⟩ : ∃ W3, W3 = W2.setCell ⟨g, 6, none⟩ (.int .i64 0) := ⟨_, rfl⟩
  have lg3 : Lies W3 g 26 (twoCells 0) := by rw [hW3]; exact HLG.out.set 6 (.int .i64 0)
  have lC3 : Lies W3 C 3 [.int .i64 2, .int .i64 2] := by rw [hW3]; exact HLC.out.far hgC _
  have lh3 : Lies W3 h 49 eqCells := by rw [hW3]; exact HLH.out.far hgh _
  have lq3 : Lies W3 w1.heap.size 28 [.slice (some ⟨C, 0, none⟩) 2 2, .int .i64 1, .int .i64 0, .slice (some ⟨g, 0, none⟩) 2 2, .slice (some ⟨h, 0, none⟩) 1 1, .bool false] := by rw [hW3]; exact HLQ.out.far (fun e => hgq e.symm) _
  have hb3 : Below w.heap.size w W3 := by rw [hW3]; exact HB2.out.setCell (Nat.le_of_lt hwg) _
  rw [← hW3]
  clear hW3 x3 y1 yf
  have cq := query11_any (leafTr 0) [] _ _ _ W3 (empty_sl W3) (empty_ts W3) (empty_ps W3) (by simp [Tr.size, Tr.sizes, Pr.sizes])
  rw [ex_a] at cq
  refine cq.mono ?_
  rintro e w4 ⟨rfl, hb4⟩
  clear cq
  have cq := c_two ex_b (lC3.below hb4 lC3.lt) (lg3.below hb4 lg3.lt) (lh3.below hb4 lh3.lt)
  have lq4 := lq3.below hb4 lq3.lt
  have x0 := lq4.cell (i := 0) rfl
  have x1 := lq4.cell (i := 1) rfl
  have x2 := lq4.cell (i := 2) rfl
  have x3 := lq4.cell (i := 3) rfl
  have x4 := lq4.cell (i := 4) rfl
  have x5 := lq4.cell (i := 5) rfl
  have hb34 : Below w.heap.size w w4 := hb3.trans (below_low hb4 hb3.size)
  clear lC3 lg3 lh3 lq3 hb3 hb4 lq4
  go_wp2_with fail
  refine cq.mono ?_
  rintro e w5 ⟨rfl, hb5⟩
  have hb6 : Below w.heap.size w w5 := hb34.trans (below_low hb5 hb34.size)
  clear cq x0 x1 x2 x3 x4 x5 hb34 hb5
  go_wp2_with fail
  refine (twos11_any 2 w5).mono ?_
  rintro e w6 ⟨C2, g2, h2, rfl, lC, lg, lh, _, hb7⟩
  have hb8 : Below w.heap.size w w6 := hb6.trans (below_low hb7 hb6.size)
  have cq := c_two ex_c lC lg lh
  clear hb6 hb7 lC lg lh
  go_wp2_with fail
  refine cq.mono ?_
  rintro e w7 ⟨rfl, hb9⟩
  have hb10 : Below w.heap.size w w7 := hb8.trans (below_low hb9 hb8.size)
  clear cq hb8 hb9
  go_wp2_with fail
  refine (twos11_any 4 w7).mono ?_
  rintro e w8 ⟨C3, g3, h3, rfl, lC, lg, lh, _, hb7⟩
  have hb8 : Below w.heap.size w w8 := hb10.trans (below_low hb7 hb10.size)
  have cq := c_right ex_d lC lg lh
  clear hb10 hb7 lC lg lh
  go_wp2_with fail
  refine cq.mono ?_
  rintro e w9 ⟨rfl, hb9⟩
  have hb10 : Below w.heap.size w w9 := hb8.trans (below_low hb9 hb8.size)
  clear cq hb8 hb9
  go_wp2_with fail
  refine (twos11_any 3 w9).mono ?_
  rintro e w10 ⟨C4, g4, h4, rfl, lC, lg, lh, _, hb7⟩
  have hb8 : Below w.heap.size w w10 := hb10.trans (below_low hb7 hb10.size)
  obtain ⟨W11, hW11⟩ : ∃ W, W = w10.alloc (Obj.cells #[.slice none 0 0, .slice none 0 0] 52) := ⟨_, rfl⟩
  obtain ⟨ld, hb11⟩ := box_one (cs := [.slice none 0 0, .slice none 0 0]) hW11
  have cq := c_data ex_e (lC.below hb11 lC.lt) (lg.below hb11 lg.lt) (lh.below hb11 lh.lt) (nils_dts ld)
  have hb12 : Below w.heap.size w W11 := hb8.trans (below_low hb11 hb8.size)
  have HW11 := Lib.hid hW11
  clear hb10 hb7 lC lg lh hb8 hb11 ld hW11
  go_wp2_with fail
  rw [← HW11.out]
  refine cq.mono ?_
  rintro e w12 ⟨rfl, hb9⟩
  have hb10 : Below w.heap.size w w12 := hb12.trans (below_low hb9 hb12.size)
  clear cq hb12 hb9
  go_wp2_with fail
  refine (twos11_any 3 w12).mono ?_
  rintro e w13 ⟨C5, g5, h5, rfl, lC, lg, lh, _, hb7⟩
  have hb8 : Below w.heap.size w w13 := hb10.trans (below_low hb7 hb10.size)
  have cq := c_data ex_f lC lg lh (empty_dts w13)
  clear hb10 hb7 lC lg lh
  go_wp2_with fail
  refine cq.mono ?_
  rintro e w14 ⟨rfl, hb9⟩
  have hb10 : Below w.heap.size w w14 := hb8.trans (below_low hb9 hb8.size)
  clear cq hb8 hb9
  go_wp2_with fail
  go_ret
  exact ⟨rfl, hb10⟩
end Go.Proofs.Ytdcgfhenlddmeaa
