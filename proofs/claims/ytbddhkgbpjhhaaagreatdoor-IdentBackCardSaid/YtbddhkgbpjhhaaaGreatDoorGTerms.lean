/-
  LAID TOGETHER, BY PROGRAM, of: Terma, Termb.
-/
import Derived.Test.YtbddhkgbpjhhaaaGreatDoorRows
import Derived.Test.YtbddhkgbpjhhaaaGreatDoorGPlain
import Derived.Test.YtbddhkgbpjhhaaaGreatDoorGBase
namespace Go.Proofs.YtbddhkgbpjhhaaaGreatDoor
open Go.RowKit
set_option maxHeartbeats 400000
theorem tbelow_any (i n : Int) (w : World) :
    Calls Tryz.prog 186 #[.int .i64 i, .int .i64 n] w fun e w' => e = .returned (.bool (Te.below i n)) ∧ w = w' := by
  by_cases h : 0 ≤ i
  · have H := Lib.hid (show Te.below i n = decide (i < n) by unfold Te.below; simp [h])
    go_enter Tryz.func186, Tryz.ntmps186
    go_wp2
    go_ret
    exact ⟨ret_bool (by rw [H.out]), rfl⟩
  · have H := Lib.hid (show Te.below i n = false by unfold Te.below; simp [h])
    go_enter Tryz.func186, Tryz.ntmps186
    go_wp2
    go_ret
    exact ⟨ret_bool (by rw [H.out]), rfl⟩
theorem r5right_any (k t c : Int) (z : Bool) (n : Int) (w : World) :
    Calls Tryz.prog 167 #[.agg #[.int .i64 k, .int .i64 t, .int .i64 c, .bool z, .int .i64 n]] w fun e w' => e = .returned (.bool (Te.right ⟨k, t, c, z, n⟩)) ∧ Below w.heap.size w w' := by
  by_cases h1 : k = 1
  · subst h1
    have HR := Lib.hid (show Te.right ⟨1, t, c, z, n⟩ = (Te.below t 64 && Te.below c 4 && !z && n == 0) from rfl)
    by_cases a1 : 0 ≤ t
    · by_cases a2 : t ≤ 63
      · by_cases a3 : 0 ≤ c
        · by_cases a4 : c ≤ 3
          · cases z
            · have H2 := Lib.hid (show (Te.below t 64 && Te.below c 4 && !false && n == 0) = (n == 0) by rw [Te.below_yes a1 (by omega), Te.below_yes a3 (by omega)]; rfl)
              go_enter Tryz.func167, Tryz.ntmps167
              go_wp2_with fail
              go_ret
              exact ⟨ret_bool (by rw [HR.out, H2.out]), below_new _ _⟩
            · go_enter Tryz.func167, Tryz.ntmps167
              go_wp2_with fail
              go_ret
              exact ⟨ret_bool (by rw [HR.out]; simp), below_new _ _⟩
          · have H2 := Lib.hid (Te.below_no (i := c) (n := 4) (by omega))
            go_enter Tryz.func167, Tryz.ntmps167
            go_wp2_with fail
            go_ret
            exact ⟨ret_bool (by rw [HR.out, H2.out]; simp), below_new _ _⟩
        · have H2 := Lib.hid (Te.below_no (i := c) (n := 4) (by omega))
          go_enter Tryz.func167, Tryz.ntmps167
          go_wp2_with fail
          go_ret
          exact ⟨ret_bool (by rw [HR.out, H2.out]; simp), below_new _ _⟩
      · have H2 := Lib.hid (Te.below_no (i := t) (n := 64) (by omega))
        go_enter Tryz.func167, Tryz.ntmps167
        go_wp2_with fail
        go_ret
        exact ⟨ret_bool (by rw [HR.out, H2.out]; simp), below_new _ _⟩
    · have H2 := Lib.hid (Te.below_no (i := t) (n := 64) (by omega))
      go_enter Tryz.func167, Tryz.ntmps167
      go_wp2_with fail
      go_ret
      exact ⟨ret_bool (by rw [HR.out, H2.out]; simp), below_new _ _⟩
  by_cases h2 : k = 2
  · subst h2
    have HR := Lib.hid (show Te.right ⟨2, t, c, z, n⟩ = (t == 0 && c == 0 && Va.right z n) from rfl)
    clear h1
    by_cases ht : t = 0
    · subst ht
      by_cases hc : c = 0
      · subst hc
        have cv := fun W => rright_any z n W
        obtain ⟨r, hr1⟩ : ∃ r, r = Va.right z n := ⟨_, rfl⟩
        rw [← hr1] at cv
        have HR1 := Lib.hid hr1
        clear hr1
        go_enter Tryz.func167, Tryz.ntmps167
        go_wp2_with fail
        refine (cv _).mono ?_
        rintro e w1 ⟨rfl, hb1⟩
        have hb : Below w.heap.size w w1 := below_join (below_new _ _) hb1
        clear cv hb1
        go_wp2_with fail
        go_ret
        exact ⟨ret_bool (by rw [HR.out, ← HR1.out]; rfl), hb⟩
      · have d1 : (c == 0) = false := by simpa using hc
        have H2 := Lib.hid hc
        clear hc
        go_enter Tryz.func167, Tryz.ntmps167
        go_wp2_with fail
        go_ret
        exact ⟨ret_bool (by rw [HR.out]; simp [H2.out]), below_new _ _⟩
    · have d1 : (t == 0) = false := by simpa using ht
      have H2 := Lib.hid ht
      clear ht
      go_enter Tryz.func167, Tryz.ntmps167
      go_wp2_with fail
      go_ret
      exact ⟨ret_bool (by rw [HR.out]; simp [H2.out]), below_new _ _⟩
  · have d1 : (k == 1) = false := by simpa using h1
    have d2 : (k == 2) = false := by simpa using h2
    have H := Lib.hid (show Te.right ⟨k, t, c, z, n⟩ = false by unfold Te.right; rw [if_neg h1]; simp [h2])
    clear h1 h2
    go_enter Tryz.func167, Tryz.ntmps167
    go_wp2_with fail
    go_ret
    exact ⟨ret_bool H.out.symm, below_new _ _⟩
theorem sl_one (w : World) (t : Int) (g : Nat) (hg : w.heap.size = g) : Sl (w.alloc (.cells #[.int .i64 t] 3)) (.slice (some ⟨g, 0, none⟩) 1 1) ([t].map (Value.int .i64)) := by
  subst hg; exact Sl.new w 3 [.int .i64 t]
theorem ttables_any (k t c : Int) (z : Bool) (n : Int) (w : World) :
    Calls Tryz.prog 126 #[.agg #[.int .i64 k, .int .i64 t, .int .i64 c, .bool z, .int .i64 n]] w fun e w' => e = .returned (.int .u64 (Te.tables ⟨k, t, c, z, n⟩ : Nat)) ∧ Below w.heap.size w w' := by
  by_cases h1 : k = 1
  · subst h1
    have HR := Lib.hid (show Te.tables ⟨1, t, c, z, n⟩ = St.ofN [t] from rfl)
    have cs := fun W g hg => sof_any _ [t] _ (sl_one W t g hg) (by simp)
    obtain ⟨r, hr⟩ : ∃ r, r = St.ofN [t] := ⟨_, rfl⟩
    rw [← hr] at cs
    have HR1 := Lib.hid hr
    clear hr
    go_enter Tryz.func126, Tryz.ntmps126
    go_wp2_with fail
    refine (cs _ _ (by simp)).mono ?_
    rintro e w1 ⟨rfl, rfl⟩
    clear cs
    go_wp2_with fail
    go_ret
    exact ⟨ret_int (by rw [HR.out, ← HR1.out]), below_new2 _ _ _⟩
  · have d1 : (k != 1) = true := by simpa using h1
    have H := Lib.hid (show Te.tables ⟨k, t, c, z, n⟩ = 0 from if_neg h1)
    clear h1
    go_enter Tryz.func126, Tryz.ntmps126
    go_wp2_with fail
    go_ret
    exact ⟨ret_int (by rw [H.out]; rfl), below_new _ _⟩
theorem r5tables_any (k t c : Int) (z : Bool) (n : Int) (w : World) :
    Calls Tryz.prog 147 #[.agg #[.int .i64 k, .int .i64 t, .int .i64 c, .bool z, .int .i64 n]] w fun e w' => e = .returned (.int .u64 (Te.tables ⟨k, t, c, z, n⟩ : Nat)) ∧ Below w.heap.size w w' := by
  by_cases h1 : k = 1
  · subst h1
    have HR := Lib.hid (show Te.tables ⟨1, t, c, z, n⟩ = St.ofN [t] from rfl)
    have cs := fun W g hg => rof_any _ [t] _ (sl_one W t g hg) (by simp)
    obtain ⟨r, hr⟩ : ∃ r, r = St.ofN [t] := ⟨_, rfl⟩
    rw [← hr] at cs
    have HR1 := Lib.hid hr
    clear hr
    go_enter Tryz.func147, Tryz.ntmps147
    go_wp2_with fail
    refine (cs _ _ (by simp)).mono ?_
    rintro e w1 ⟨rfl, rfl⟩
    clear cs
    go_wp2_with fail
    go_ret
    exact ⟨ret_int (by rw [HR.out, ← HR1.out]), below_new2 _ _ _⟩
  · have d1 : (k != 1) = true := by simpa using h1
    have H := Lib.hid (show Te.tables ⟨k, t, c, z, n⟩ = 0 from if_neg h1)
    clear h1
    go_enter Tryz.func147, Tryz.ntmps147
    go_wp2_with fail
    go_ret
    exact ⟨ret_int (by rw [H.out]; rfl), below_new _ _⟩
end Go.Proofs.YtbddhkgbpjhhaaaGreatDoor
namespace Go.Proofs.YtbddhkgbpjhhaaaGreatDoor
open Go.RowKit
set_option maxHeartbeats 400000
theorem tatrow_no (v : Value) (rs : List (List Vl)) (i : Int) (w : World) (hv : Rws w v rs) (h : ¬ (0 ≤ i ∧ i < rs.length)) :
    Calls Tryz.prog 181 #[v, .int .i64 i] w fun e w' => e = .returned (.tuple #[.slice none 0 0, .bool false]) ∧ w = w' := by
  obtain ⟨A, c, rfl, _, _⟩ := hv.at_
  have cb := fun W => tbelow_any i rs.length W
  rw [Te.below_no h] at cb
  clear h hv
  go_enter Tryz.func181, Tryz.ntmps181
  go_wp2_with (first | (with_reducible refine (cb _).mono ?_; rintro e w' ⟨rfl, rfl⟩))
  go_ret2
  exact ⟨rfl, rfl⟩
theorem tatrow_yes (v : Value) (rs : List (List Vl)) (r : List Vl) (j : Nat) (w : World) (hv : Rws w v rs) (h : rs[j]? = some r) :
    ∃ u, RowAt w u r ∧ Calls Tryz.prog 181 #[v, .int .i64 (j : Int)] w fun e w' => e = .returned (.tuple #[u, .bool true]) ∧ w = w' := by
  obtain ⟨A, c, rfl, _, hx⟩ := hv.at_
  have hj : j < rs.length := by
    by_cases hj : j < rs.length
    · exact hj
    · rw [List.getElem?_eq_none (by omega)] at h; cases h
  obtain ⟨b, o, p, B, d, rfl, hcell, hd, hrow⟩ := hx j r h
  have cb := fun W => tbelow_any (j : Int) rs.length W
  rw [Te.below_yes (by omega) (by omega)] at cb
  refine ⟨_, hrow, ?_⟩
  clear h hv hx hrow
  go_enter Tryz.func181, Tryz.ntmps181
  go_wp2_with (first | (with_reducible refine (cb _).mono ?_; rintro e w' ⟨rfl, rfl⟩))
  go_ret2
  exact ⟨rfl, rfl⟩
theorem tatval_no (v : Value) (r : List Vl) (i : Int) (w : World) (hv : RowAt w v r) (h : ¬ (0 ≤ i ∧ i < r.length)) :
    Calls Tryz.prog 182 #[v, .int .i64 i] w fun e w' => e = .returned (.tuple #[.agg #[.bool false, .int .i64 0], .bool false]) ∧ Below w.heap.size w w' := by
  obtain ⟨A, c, rfl, _, _⟩ := hv
  have cb := fun W => tbelow_any i r.length W
  rw [Te.below_no h] at cb
  clear h
  go_enter Tryz.func182, Tryz.ntmps182
  go_wp2_with (first | (with_reducible refine (cb _).mono ?_; rintro e w' ⟨rfl, rfl⟩))
  exact bodyPost_ret (v := .tuple #[.agg #[.bool false, .int .i64 0], .bool false]) (by simp [results, Tryz.results182, go_sem]) rfl ⟨rfl, below_new2 w _ _⟩
theorem tatval_yes (v : Value) (r : List Vl) (x : Vl) (j : Nat) (w : World) (hv : RowAt w v r) (h : r[j]? = some x) :
    Calls Tryz.prog 182 #[v, .int .i64 (j : Int)] w fun e w' => e = .returned (.tuple #[.agg #[.bool x.1, .int .i64 x.2], .bool true]) ∧ Below w.heap.size w w' := by
  obtain ⟨A, c, rfl, _, _⟩ := id hv
  have hj : j < r.length := by
    by_cases hj : j < r.length
    · exact hj
    · rw [List.getElem?_eq_none (by omega)] at h; cases h
  obtain ⟨b, o, p, rfl, hlt, hx⟩ := hv.pair h
  obtain ⟨hc0, hc1⟩ := hx _ (below_new w (.cells #[.bool false, .int .i64 0] 53))
  have cb := fun W => tbelow_any (j : Int) r.length W
  rw [Te.below_yes (by omega) (by omega)] at cb
  obtain ⟨z, n⟩ := x
  dsimp only at hc0 hc1
  clear h hx hv
  go_enter Tryz.func182, Tryz.ntmps182
  go_wp2_with (first | (with_reducible refine (cb _).mono ?_; rintro e w' ⟨rfl, rfl⟩))
  exact bodyPost_ret (v := .tuple #[.agg #[.bool z, .int .i64 n], .bool true]) (by simp [results, Tryz.results182, go_sem]) rfl ⟨rfl, below_new w _⟩
theorem tatrow_any (v : Value) (rs : List (List Vl)) (t : Int) (w : World) (hv : Rws w v rs) :
    ∃ u b r, RowAt w u r ∧ (∀ c, Te.col t c rs = (Te.at_ r c).getD Te.nul) ∧ Calls Tryz.prog 181 #[v, .int .i64 t] w fun e w' => e = .returned (.tuple #[u, .bool b]) ∧ w = w' := by
  by_cases ht : 0 ≤ t ∧ t < rs.length
  · obtain ⟨j, r, rfl, _, hj, hr⟩ := Te.at_in rs ht.1 ht.2
    obtain ⟨u, hu, hc⟩ := tatrow_yes v rs r j w hv hj
    exact ⟨u, true, r, hu, fun c => Te.col_some hr, hc⟩
  · exact ⟨.slice none 0 0, false, [], RowAt.nil w, fun c => by rw [Te.col_out ht, Te.at_out [] (by simp only [List.length_nil]; omega)]; rfl, tatrow_no v rs t w hv ht⟩
theorem tof_any (k t c : Int) (z : Bool) (n : Int) (v : Value) (rs : List (List Vl)) (w : World) (hv : Rws w v rs) :
    Calls Tryz.prog 155 #[.agg #[.int .i64 k, .int .i64 t, .int .i64 c, .bool z, .int .i64 n], v] w fun e w' => e = .returned (.agg #[.bool (Te.val ⟨k, t, c, z, n⟩ rs).1, .int .i64 (Te.val ⟨k, t, c, z, n⟩ rs).2]) ∧ Below w.heap.size w w' := by
  by_cases h1 : k = 1
  · subst h1
    obtain ⟨W0, hW0⟩ : ∃ W0, W0 = (w.alloc (Obj.cells #[.int .i64 1, .int .i64 t, .int .i64 c, .bool z, .int .i64 n] 55)).alloc (Obj.cells #[.bool false, .int .i64 0] 53) := ⟨_, rfl⟩
    have l0 : Lies W0 w.heap.size 55 [.int .i64 1, .int .i64 t, .int .i64 c, .bool z, .int .i64 n] := by rw [hW0]; exact (Lies.new _ _ _).alloc _
    have l1 : Lies W0 (w.heap.size + 1) 53 [.bool false, .int .i64 0] := by rw [hW0]; have := Lies.new (w.alloc (Obj.cells #[.int .i64 1, .int .i64 t, .int .i64 c, .bool z, .int .i64 n] 55)) 53 [.bool false, .int .i64 0]; rwa [World.size_alloc] at this
    have hb0 : Below w.heap.size w W0 := by rw [hW0]; exact below_new2 _ _ _
    obtain ⟨u, b, r, hu, hcol, ca⟩ := tatrow_any v rs t W0 (hv.below hb0 (Nat.le_refl _))
    have hR : Te.val ⟨1, t, c, z, n⟩ rs = (Te.at_ r c).getD Te.nul := hcol c
    have HW := Lib.hid hW0
    have k0 := l0.cell (i := 0) rfl
    have k1 := l0.cell (i := 1) rfl
    have k2 := l0.cell (i := 2) rfl
    have k3 := l0.cell (i := 3) rfl
    have k4 := l0.cell (i := 4) rfl
    rw [hR]
    clear hW0 hv hcol hR l0
    by_cases hc : 0 ≤ c ∧ c < r.length
    · obtain ⟨j, x, rfl, _, hj, hx⟩ := Te.at_in r hc.1 hc.2
      rw [hx]
      have cb := tatval_yes u r x j W0 hu hj
      obtain ⟨y, m⟩ := x
      dsimp only [Option.getD] at cb ⊢
      clear hc hu hj hx
      go_enter Tryz.func155, Tryz.ntmps155
      go_wp2_with fail
      rw [← HW.out]
      refine ca.mono ?_
      rintro e w1 ⟨rfl, rfl⟩
      clear ca
      go_wp2_with fail
      refine cb.mono ?_
      rintro e w2 ⟨rfl, hb2⟩
      have l2 := (l1.below hb2 l1.lt).alloc (Obj.cells #[.bool y, .int .i64 m] 53)
      have q0 := l2.cell (i := 0) rfl
      have q1 := l2.cell (i := 1) rfl
      have g0 := l2.free 0
      have g1 := l2.free 1
      have hbz : Below w.heap.size w (w2.alloc (Obj.cells #[.bool y, .int .i64 m] 53)) := below_join (below_join hb0 hb2) (below_new _ _)
      have L2 := Lib.hid l2
      clear cb l1 l2 k0 k1 k2 k3 k4 hb0 hb2
      go_wp2_with fail
      have m0 := (L2.out.set 0 (.bool y)).cell (i := 0) rfl
      have m1 := ((L2.out.set 0 (.bool y)).set 1 (.int .i64 m)).cell (i := 1) rfl
      exact bodyPost_ret (v := .agg #[.bool y, .int .i64 m]) (by simp [results, Tryz.results155, go_sem, m0, m1]) rfl ⟨rfl, (hbz.setCell (p := ⟨w.heap.size + 1, 0, none⟩) (by simp) _).setCell (p := ⟨w.heap.size + 1, 1, none⟩) (by simp) _⟩
    · have cb := tatval_no u r c W0 hu hc
      rw [Te.at_out r hc]
      clear hc hu
      go_enter Tryz.func155, Tryz.ntmps155
      go_wp2_with fail
      rw [← HW.out]
      refine ca.mono ?_
      rintro e w1 ⟨rfl, rfl⟩
      clear ca
      go_wp2_with fail
      refine cb.mono ?_
      rintro e w2 ⟨rfl, hb2⟩
      have l2 := (l1.below hb2 l1.lt).alloc (Obj.cells #[.bool false, .int .i64 0] 53)
      have q0 := l2.cell (i := 0) rfl
      have q1 := l2.cell (i := 1) rfl
      have g0 := l2.free 0
      have g1 := l2.free 1
      have hbz : Below w.heap.size w (w2.alloc (Obj.cells #[.bool false, .int .i64 0] 53)) := below_join (below_join hb0 hb2) (below_new _ _)
      have L2 := Lib.hid l2
      clear cb l1 l2 k0 k1 k2 k3 k4 hb0 hb2
      go_wp2_with fail
      have m0 := (L2.out.set 0 (.bool true)).cell (i := 0) rfl
      have m1 := ((L2.out.set 0 (.bool true)).set 1 (.int .i64 0)).cell (i := 1) rfl
      exact bodyPost_ret (v := .agg #[.bool true, .int .i64 0]) (by simp [results, Tryz.results155, go_sem, m0, m1]) rfl ⟨rfl, (hbz.setCell (p := ⟨w.heap.size + 1, 0, none⟩) (by simp) _).setCell (p := ⟨w.heap.size + 1, 1, none⟩) (by simp) _⟩
  · have hR : Te.val ⟨k, t, c, z, n⟩ rs = (z, n) := Te.val_other h1
    rw [hR]
    have d1 : (k != 1) = true := by simpa using h1
    clear h1 hR hv
    go_enter Tryz.func155, Tryz.ntmps155
    go_wp2_with fail
    exact bodyPost_ret (v := .agg #[.bool z, .int .i64 n]) (by simp [results, Tryz.results155, go_sem]) rfl ⟨rfl, below_new2 w _ _⟩
end Go.Proofs.YtbddhkgbpjhhaaaGreatDoor
