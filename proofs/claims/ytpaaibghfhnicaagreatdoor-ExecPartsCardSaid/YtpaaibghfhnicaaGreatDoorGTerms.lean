/-
  LAID TOGETHER, BY PROGRAM, of: Terma, Termb.
-/
import Derived.Test.YtpaaibghfhnicaaGreatDoorRows
import Derived.Test.YtpaaibghfhnicaaGreatDoorGPlain
import Derived.Test.YtpaaibghfhnicaaGreatDoorGBase
/-
  THE CONTRACTS OF package term's FUNCTIONS (and the document's): what may be, which tables are named.
-/
namespace Go.Proofs.YtpaaibghfhnicaaGreatDoor
open Go.RowKit
set_option maxHeartbeats 400000

theorem tbelow_any (i n : Int) (w : World) :
    Calls Tryz.prog 146 #[.int .i64 i, .int .i64 n] w fun e w' => e = .returned (.bool (Te.below i n)) ∧ w = w' := by
  by_cases h : 0 ≤ i
  · have H := Lib.hid (show Te.below i n = decide (i < n) by unfold Te.below; simp [h])
    go_enter Tryz.func146, Tryz.ntmps146
    go_wp2
    go_ret
    exact ⟨ret_bool (by rw [H.out]), rfl⟩
  · have H := Lib.hid (show Te.below i n = false by unfold Te.below; simp [h])
    go_enter Tryz.func146, Tryz.ntmps146
    go_wp2
    go_ret
    exact ⟨ret_bool (by rw [H.out]), rfl⟩
theorem tplaced_any (k t c : Int) (z : Bool) (n : Int) (w : World) :
    Calls Tryz.prog 154 #[.agg #[.int .i64 k, .int .i64 t, .int .i64 c, .bool z, .int .i64 n]] w fun e w' => e = .returned (.bool (Te.below t 64 && Te.below c 4)) ∧ Below w.heap.size w w' := by
  obtain ⟨r1, h1⟩ : ∃ r, r = Te.below t 64 := ⟨_, rfl⟩
  obtain ⟨r2, h2⟩ : ∃ r, r = Te.below c 4 := ⟨_, rfl⟩
  have c1 := fun W => tbelow_any t 64 W
  have c2 := fun W => tbelow_any c 4 W
  rw [← h1] at c1 ⊢
  rw [← h2] at c2 ⊢
  clear h1 h2
  go_enter Tryz.func154, Tryz.ntmps154
  cases r1
  · go_wp2_with (first | (with_reducible refine (c1 _).mono ?_; rintro e w' ⟨rfl, rfl⟩))
    go_ret
    exact ⟨rfl, below_new _ _⟩
  · go_wp2_with (first | (with_reducible refine (c1 _).mono ?_; rintro e w' ⟨rfl, rfl⟩) | (with_reducible refine (c2 _).mono ?_; rintro e w' ⟨rfl, rfl⟩))
    go_ret
    exact ⟨ret_bool (by simp), below_new _ _⟩
theorem tright_any (k t c : Int) (z : Bool) (n : Int) (w : World) :
    Calls Tryz.prog 139 #[.agg #[.int .i64 k, .int .i64 t, .int .i64 c, .bool z, .int .i64 n]] w fun e w' => e = .returned (.bool (Te.right ⟨k, t, c, z, n⟩)) ∧ Below w.heap.size w w' := by
  by_cases h1 : k = 1
  · subst h1
    obtain ⟨W0, hW0⟩ : ∃ W0, W0 = w.alloc (Obj.cells #[.int .i64 1, .int .i64 t, .int .i64 c, .bool z, .int .i64 n] 75) := ⟨_, rfl⟩
    have l0 : Lies W0 w.heap.size 75 [.int .i64 1, .int .i64 t, .int .i64 c, .bool z, .int .i64 n] := by rw [hW0]; exact Lies.new _ _ _
    have hb0 : Below w.heap.size w W0 := by rw [hW0]; exact below_new _ _
    have cp := tplaced_any 1 t c z n W0
    have hr : Te.right ⟨1, t, c, z, n⟩ = (Te.below t 64 && Te.below c 4 && !z && n == 0) := rfl
    obtain ⟨r, hr1⟩ : ∃ r, r = (Te.below t 64 && Te.below c 4) := ⟨_, rfl⟩
    rw [← hr1] at cp hr
    have HR := Lib.hid hr
    have HW := Lib.hid hW0
    clear hr1 hr hW0
    go_enter Tryz.func139, Tryz.ntmps139
    go_wp2_with fail
    rw [← HW.out]
    refine cp.mono ?_
    rintro e w1 ⟨rfl, hb1⟩
    have l1 := l0.below hb1 l0.lt
    have hb : Below w.heap.size w w1 := below_join hb0 hb1
    have k0 := l1.cell (i := 0) rfl
    have k1 := l1.cell (i := 1) rfl
    have k2 := l1.cell (i := 2) rfl
    have k3 := l1.cell (i := 3) rfl
    have k4 := l1.cell (i := 4) rfl
    have f1 := l1.free 1
    have f2 := l1.free 2
    clear cp l0 hb0 hb1
    cases r
    · go_wp2_with fail
      go_ret
      exact ⟨ret_bool (by rw [HR.out]; rfl), hb⟩
    · cases z
      · by_cases hn : n = 0
        · subst hn
          have cv := fun W => right_any false 0 W
          go_wp2_with fail
          refine (cv _).mono ?_
          rintro e w2 ⟨rfl, hb2⟩
          have hbs := (hb.setCell (p := ⟨w.heap.size, 1, none⟩) (Nat.le_refl _) (.int .i64 0)).setCell (p := ⟨w.heap.size, 2, none⟩) (Nat.le_refl _) (.int .i64 0)
          have hb' := below_join hbs hb2
          clear cv hb2 hbs k0 k1 k2 k3 k4 f1 f2 l1
          go_wp2_with fail
          go_ret
          exact ⟨ret_bool (by rw [HR.out]; rfl), hb'⟩
        · go_wp2_with fail
          go_ret
          exact ⟨ret_bool (by rw [HR.out]; simp [hn]), hb⟩
      · go_wp2_with fail
        go_ret
        exact ⟨ret_bool (by rw [HR.out]; rfl), hb⟩
  by_cases h2 : k = 2
  · subst h2
    have HR := Lib.hid (show Te.right ⟨2, t, c, z, n⟩ = (t == 0 && c == 0 && Va.right z n) from rfl)
    clear h1
    by_cases ht : t = 0
    · subst ht
      by_cases hc : c = 0
      · subst hc
        have cv := fun W => right_any z n W
        obtain ⟨r, hr1⟩ : ∃ r, r = Va.right z n := ⟨_, rfl⟩
        rw [← hr1] at cv
        have HR1 := Lib.hid hr1
        clear hr1
        go_enter Tryz.func139, Tryz.ntmps139
        go_wp2_with fail
        refine (cv _).mono ?_
        rintro e w1 ⟨rfl, hb1⟩
        have hb : Below w.heap.size w w1 := below_join (below_new _ _) hb1
        clear cv hb1
        go_wp2_with fail
        go_ret
        exact ⟨ret_bool (by rw [HR.out, ← HR1.out]; rfl), hb⟩
      · go_enter Tryz.func139, Tryz.ntmps139
        go_wp2_with fail
        go_ret
        exact ⟨ret_bool (by rw [HR.out]; simp [hc]), below_new _ _⟩
    · go_enter Tryz.func139, Tryz.ntmps139
      go_wp2_with fail
      go_ret
      exact ⟨ret_bool (by rw [HR.out]; simp [ht]), below_new _ _⟩
  · have d1 : (k == 1) = false := by simpa using h1
    have d2 : (k == 2) = false := by simpa using h2
    have H := Lib.hid (show Te.right ⟨k, t, c, z, n⟩ = false by unfold Te.right; rw [if_neg h1]; simp [h2])
    clear h1 h2
    go_enter Tryz.func139, Tryz.ntmps139
    go_wp2_with fail
    go_ret
    exact ⟨ret_bool H.out.symm, below_new _ _⟩
theorem r5right_any (k t c : Int) (z : Bool) (n : Int) (w : World) :
    Calls Tryz.prog 109 #[.agg #[.int .i64 k, .int .i64 t, .int .i64 c, .bool z, .int .i64 n]] w fun e w' => e = .returned (.bool (Te.right ⟨k, t, c, z, n⟩)) ∧ Below w.heap.size w w' := by
  by_cases h1 : k = 1
  · subst h1
    have HR := Lib.hid (show Te.right ⟨1, t, c, z, n⟩ = (Te.below t 64 && Te.below c 4 && !z && n == 0) from rfl)
    by_cases a1 : 0 ≤ t
    · by_cases a2 : t ≤ 63
      · by_cases a3 : 0 ≤ c
        · by_cases a4 : c ≤ 3
          · cases z
            · have H2 := Lib.hid (show (Te.below t 64 && Te.below c 4 && !false && n == 0) = (n == 0) by rw [Te.below_yes a1 (by omega), Te.below_yes a3 (by omega)]; rfl)
              go_enter Tryz.func109, Tryz.ntmps109
              go_wp2_with fail
              go_ret
              exact ⟨ret_bool (by rw [HR.out, H2.out]), below_new _ _⟩
            · go_enter Tryz.func109, Tryz.ntmps109
              go_wp2_with fail
              go_ret
              exact ⟨ret_bool (by rw [HR.out]; simp), below_new _ _⟩
          · have H2 := Lib.hid (Te.below_no (i := c) (n := 4) (by omega))
            go_enter Tryz.func109, Tryz.ntmps109
            go_wp2_with fail
            go_ret
            exact ⟨ret_bool (by rw [HR.out, H2.out]; simp), below_new _ _⟩
        · have H2 := Lib.hid (Te.below_no (i := c) (n := 4) (by omega))
          go_enter Tryz.func109, Tryz.ntmps109
          go_wp2_with fail
          go_ret
          exact ⟨ret_bool (by rw [HR.out, H2.out]; simp), below_new _ _⟩
      · have H2 := Lib.hid (Te.below_no (i := t) (n := 64) (by omega))
        go_enter Tryz.func109, Tryz.ntmps109
        go_wp2_with fail
        go_ret
        exact ⟨ret_bool (by rw [HR.out, H2.out]; simp), below_new _ _⟩
    · have H2 := Lib.hid (Te.below_no (i := t) (n := 64) (by omega))
      go_enter Tryz.func109, Tryz.ntmps109
      go_wp2_with fail
      go_ret
      exact ⟨ret_bool (by rw [HR.out, H2.out]; simp), below_new _ _⟩
  by_cases h2 : k = 2
  · subst h2
    have HR := Lib.hid (show Te.right ⟨2, t, c, z, n⟩ = (t == 0 && c == 0 && Va.right z n) from rfl)
    clear h1
    by_cases ht : t = 0
    · subst ht
      by_cases hc : c = 0
      · subst hc
        have cv := fun W => rright_any z n W
        obtain ⟨r, hr1⟩ : ∃ r, r = Va.right z n := ⟨_, rfl⟩
        rw [← hr1] at cv
        have HR1 := Lib.hid hr1
        clear hr1
        go_enter Tryz.func109, Tryz.ntmps109
        go_wp2_with fail
        refine (cv _).mono ?_
        rintro e w1 ⟨rfl, hb1⟩
        have hb : Below w.heap.size w w1 := below_join (below_new _ _) hb1
        clear cv hb1
        go_wp2_with fail
        go_ret
        exact ⟨ret_bool (by rw [HR.out, ← HR1.out]; rfl), hb⟩
      · have d1 : (c == 0) = false := by simpa using hc
        have H2 := Lib.hid hc
        clear hc
        go_enter Tryz.func109, Tryz.ntmps109
        go_wp2_with fail
        go_ret
        exact ⟨ret_bool (by rw [HR.out]; simp [H2.out]), below_new _ _⟩
    · have d1 : (t == 0) = false := by simpa using ht
      have H2 := Lib.hid ht
      clear ht
      go_enter Tryz.func109, Tryz.ntmps109
      go_wp2_with fail
      go_ret
      exact ⟨ret_bool (by rw [HR.out]; simp [H2.out]), below_new _ _⟩
  · have d1 : (k == 1) = false := by simpa using h1
    have d2 : (k == 2) = false := by simpa using h2
    have H := Lib.hid (show Te.right ⟨k, t, c, z, n⟩ = false by unfold Te.right; rw [if_neg h1]; simp [h2])
    clear h1 h2
    go_enter Tryz.func109, Tryz.ntmps109
    go_wp2_with fail
    go_ret
    exact ⟨ret_bool H.out.symm, below_new _ _⟩
theorem tsame_any (k t c : Int) (z : Bool) (n : Int) (k' t' c' : Int) (z' : Bool) (n' : Int) (w : World) :
    Calls Tryz.prog 164 #[.agg #[.int .i64 k, .int .i64 t, .int .i64 c, .bool z, .int .i64 n], .agg #[.int .i64 k', .int .i64 t', .int .i64 c', .bool z', .int .i64 n']] w fun e w' => e = .returned (.bool (Te.same ⟨k, t, c, z, n⟩ ⟨k', t', c', z', n'⟩)) ∧ Below w.heap.size w w' := by
  go_enter Tryz.func164, Tryz.ntmps164
  go_wp2_with fail
  all_goals go_ret
  all_goals exact ⟨ret_bool (by simp [Te.same, *]), below_new2 _ _ _⟩
theorem sl_one (w : World) (t : Int) (g : Nat) (hg : w.heap.size = g) : Sl (w.alloc (.cells #[.int .i64 t] 3)) (.slice (some ⟨g, 0, none⟩) 1 1) ([t].map (Value.int .i64)) := by
  subst hg; exact Sl.new w 3 [.int .i64 t]
theorem ttables_any (k t c : Int) (z : Bool) (n : Int) (w : World) :
    Calls Tryz.prog 120 #[.agg #[.int .i64 k, .int .i64 t, .int .i64 c, .bool z, .int .i64 n]] w fun e w' => e = .returned (.int .u64 (Te.tables ⟨k, t, c, z, n⟩ : Nat)) ∧ Below w.heap.size w w' := by
  by_cases h1 : k = 1
  · subst h1
    have HR := Lib.hid (show Te.tables ⟨1, t, c, z, n⟩ = St.ofN [t] from rfl)
    have cs := fun W g hg => sof_any _ [t] _ (sl_one W t g hg) (by simp)
    obtain ⟨r, hr⟩ : ∃ r, r = St.ofN [t] := ⟨_, rfl⟩
    rw [← hr] at cs
    have HR1 := Lib.hid hr
    clear hr
    go_enter Tryz.func120, Tryz.ntmps120
    go_wp2_with fail
    refine (cs _ _ (by simp)).mono ?_
    rintro e w1 ⟨rfl, rfl⟩
    clear cs
    go_wp2_with fail
    go_ret
    exact ⟨ret_int (by rw [HR.out, ← HR1.out]), below_new2 _ _ _⟩
  · have d1 : (k != 1) = true := by simpa using h1
    have H := Lib.hid (show Te.tables ⟨k, t, c, z, n⟩ = 0 from if_neg h1)
    clear h1
    go_enter Tryz.func120, Tryz.ntmps120
    go_wp2_with fail
    go_ret
    exact ⟨ret_int (by rw [H.out]; rfl), below_new _ _⟩
theorem r5tables_any (k t c : Int) (z : Bool) (n : Int) (w : World) :
    Calls Tryz.prog 89 #[.agg #[.int .i64 k, .int .i64 t, .int .i64 c, .bool z, .int .i64 n]] w fun e w' => e = .returned (.int .u64 (Te.tables ⟨k, t, c, z, n⟩ : Nat)) ∧ Below w.heap.size w w' := by
  by_cases h1 : k = 1
  · subst h1
    have HR := Lib.hid (show Te.tables ⟨1, t, c, z, n⟩ = St.ofN [t] from rfl)
    have cs := fun W g hg => rof_any _ [t] _ (sl_one W t g hg) (by simp)
    obtain ⟨r, hr⟩ : ∃ r, r = St.ofN [t] := ⟨_, rfl⟩
    rw [← hr] at cs
    have HR1 := Lib.hid hr
    clear hr
    go_enter Tryz.func89, Tryz.ntmps89
    go_wp2_with fail
    refine (cs _ _ (by simp)).mono ?_
    rintro e w1 ⟨rfl, rfl⟩
    clear cs
    go_wp2_with fail
    go_ret
    exact ⟨ret_int (by rw [HR.out, ← HR1.out]), below_new2 _ _ _⟩
  · have d1 : (k != 1) = true := by simpa using h1
    have H := Lib.hid (show Te.tables ⟨k, t, c, z, n⟩ = 0 from if_neg h1)
    clear h1
    go_enter Tryz.func89, Tryz.ntmps89
    go_wp2_with fail
    go_ret
    exact ⟨ret_int (by rw [H.out]; rfl), below_new _ _⟩
end Go.Proofs.YtpaaibghfhnicaaGreatDoor

/-
  THE CONTRACTS OF term.at AND term.Of, AND OF THE DOCUMENT's Of.
-/
namespace Go.Proofs.YtpaaibghfhnicaaGreatDoor
open Go.RowKit
set_option maxHeartbeats 400000

theorem tatrow_no (v : Value) (rs : List (List Vl)) (i : Int) (w : World) (hv : Rws w v rs) (h : ¬ (0 ≤ i ∧ i < rs.length)) :
    Calls Tryz.prog 125 #[v, .int .i64 i] w fun e w' => e = .returned (.tuple #[.slice none 0 0, .bool false]) ∧ w = w' := by
  obtain ⟨A, c, rfl, _, _⟩ := hv.at_
  have cb := fun W => tbelow_any i rs.length W
  rw [Te.below_no h] at cb
  clear h hv
  go_enter Tryz.func125, Tryz.ntmps125
  go_wp2_with (first | (with_reducible refine (cb _).mono ?_; rintro e w' ⟨rfl, rfl⟩))
  go_ret2
  exact ⟨rfl, rfl⟩
theorem tatrow_yes (v : Value) (rs : List (List Vl)) (r : List Vl) (j : Nat) (w : World) (hv : Rws w v rs) (h : rs[j]? = some r) :
    ∃ u, RowAt w u r ∧ Calls Tryz.prog 125 #[v, .int .i64 (j : Int)] w fun e w' => e = .returned (.tuple #[u, .bool true]) ∧ w = w' := by
  obtain ⟨A, c, rfl, _, hx⟩ := hv.at_
  have hj : j < rs.length := by
    by_cases hj : j < rs.length
    · exact hj
    · rw [List.getElem?_eq_none (by omega)] at h; cases h
  obtain ⟨b, o, p, B, d, rfl, hcell, hd, hrow⟩ := hx j r h
  have cb := fun W => tbelow_any (j : Int) rs.length W
  rw [Te.below_yes (by omega) (by omega)] at cb
  refine ⟨_, hrow, ?_⟩
  clear h hv hx hrow
  go_enter Tryz.func125, Tryz.ntmps125
  go_wp2_with (first | (with_reducible refine (cb _).mono ?_; rintro e w' ⟨rfl, rfl⟩))
  go_ret2
  exact ⟨rfl, rfl⟩
theorem tatval_no (v : Value) (r : List Vl) (i : Int) (w : World) (hv : RowAt w v r) (h : ¬ (0 ≤ i ∧ i < r.length)) :
    Calls Tryz.prog 126 #[v, .int .i64 i] w fun e w' => e = .returned (.tuple #[.agg #[.bool false, .int .i64 0], .bool false]) ∧ Below w.heap.size w w' := by
  obtain ⟨A, c, rfl, _, _⟩ := hv
  have cb := fun W => tbelow_any i r.length W
  rw [Te.below_no h] at cb
  clear h
  go_enter Tryz.func126, Tryz.ntmps126
  go_wp2_with (first | (with_reducible refine (cb _).mono ?_; rintro e w' ⟨rfl, rfl⟩))
  exact bodyPost_ret (v := .tuple #[.agg #[.bool false, .int .i64 0], .bool false]) (by simp [results, Tryz.results126, go_sem]) rfl ⟨rfl, below_new2 w _ _⟩
theorem tatval_yes (v : Value) (r : List Vl) (x : Vl) (j : Nat) (w : World) (hv : RowAt w v r) (h : r[j]? = some x) :
    Calls Tryz.prog 126 #[v, .int .i64 (j : Int)] w fun e w' => e = .returned (.tuple #[.agg #[.bool x.1, .int .i64 x.2], .bool true]) ∧ Below w.heap.size w w' := by
  obtain ⟨A, c, rfl, _, _⟩ := id hv
  have hj : j < r.length := by
    by_cases hj : j < r.length
    · exact hj
    · rw [List.getElem?_eq_none (by omega)] at h; cases h
  obtain ⟨b, o, p, rfl, hlt, hx⟩ := hv.pair h
  obtain ⟨hc0, hc1⟩ := hx _ (below_new w (.cells #[.bool false, .int .i64 0] 60))
  have cb := fun W => tbelow_any (j : Int) r.length W
  rw [Te.below_yes (by omega) (by omega)] at cb
  obtain ⟨z, n⟩ := x
  dsimp only at hc0 hc1
  clear h hx hv
  go_enter Tryz.func126, Tryz.ntmps126
  go_wp2_with (first | (with_reducible refine (cb _).mono ?_; rintro e w' ⟨rfl, rfl⟩))
  exact bodyPost_ret (v := .tuple #[.agg #[.bool z, .int .i64 n], .bool true]) (by simp [results, Tryz.results126, go_sem]) rfl ⟨rfl, below_new w _⟩
theorem tatrow_any (v : Value) (rs : List (List Vl)) (t : Int) (w : World) (hv : Rws w v rs) :
    ∃ u b r, RowAt w u r ∧ (∀ c, Te.col t c rs = (Te.at_ r c).getD Te.nul) ∧ Calls Tryz.prog 125 #[v, .int .i64 t] w fun e w' => e = .returned (.tuple #[u, .bool b]) ∧ w = w' := by
  by_cases ht : 0 ≤ t ∧ t < rs.length
  · obtain ⟨j, r, rfl, _, hj, hr⟩ := Te.at_in rs ht.1 ht.2
    obtain ⟨u, hu, hc⟩ := tatrow_yes v rs r j w hv hj
    exact ⟨u, true, r, hu, fun c => Te.col_some hr, hc⟩
  · exact ⟨.slice none 0 0, false, [], RowAt.nil w, fun c => by rw [Te.col_out ht, Te.at_out [] (by simp only [List.length_nil]; omega)]; rfl, tatrow_no v rs t w hv ht⟩
theorem tof_any (k t c : Int) (z : Bool) (n : Int) (v : Value) (rs : List (List Vl)) (w : World) (hv : Rws w v rs) :
    Calls Tryz.prog 102 #[.agg #[.int .i64 k, .int .i64 t, .int .i64 c, .bool z, .int .i64 n], v] w fun e w' => e = .returned (.agg #[.bool (Te.val ⟨k, t, c, z, n⟩ rs).1, .int .i64 (Te.val ⟨k, t, c, z, n⟩ rs).2]) ∧ Below w.heap.size w w' := by
  by_cases h1 : k = 1
  · subst h1
    obtain ⟨W0, hW0⟩ : ∃ W0, W0 = (w.alloc (Obj.cells #[.int .i64 1, .int .i64 t, .int .i64 c, .bool z, .int .i64 n] 75)).alloc (Obj.cells #[.bool false, .int .i64 0] 60) := ⟨_, rfl⟩
    have l0 : Lies W0 w.heap.size 75 [.int .i64 1, .int .i64 t, .int .i64 c, .bool z, .int .i64 n] := by rw [hW0]; exact (Lies.new _ _ _).alloc _
    have l1 : Lies W0 (w.heap.size + 1) 60 [.bool false, .int .i64 0] := by rw [hW0]; have := Lies.new (w.alloc (Obj.cells #[.int .i64 1, .int .i64 t, .int .i64 c, .bool z, .int .i64 n] 75)) 60 [.bool false, .int .i64 0]; rwa [World.size_alloc] at this
    have hb0 : Below w.heap.size w W0 := by rw [hW0]; exact below_new2 _ _ _
    obtain ⟨u, b, r, hu, hcol, ca⟩ := tatrow_any v rs t W0 (hv.below hb0 (Nat.le_refl _))
    have hR : Te.val ⟨1, t, c, z, n⟩ rs = (Te.at_ r c).getD Te.nul := hcol c
    have HW := Lib.hid hW0
    have k0 := l0.cell (i := 0) rfl
    have k1 := l0.cell (i := 1) rfl
    have k2 := l0.cell (i := 2) rfl
    have k3 := l0.cell (i := 3) rfl
    have k4 := l0.cell (i := 4) rfl
    rw [hR]
    clear hW0 hv hcol hR l0
    by_cases hc : 0 ≤ c ∧ c < r.length
    · obtain ⟨j, x, rfl, _, hj, hx⟩ := Te.at_in r hc.1 hc.2
      rw [hx]
      have cb := tatval_yes u r x j W0 hu hj
      obtain ⟨y, m⟩ := x
      dsimp only [Option.getD] at cb ⊢
      clear hc hu hj hx
      go_enter Tryz.func102, Tryz.ntmps102
      go_wp2_with fail
      rw [← HW.out]
      refine ca.mono ?_
      rintro e w1 ⟨rfl, rfl⟩
      clear ca
      go_wp2_with fail
      refine cb.mono ?_
      rintro e w2 ⟨rfl, hb2⟩
      have l2 := (l1.below hb2 l1.lt).alloc (Obj.cells #[.bool y, .int .i64 m] 60)
      have q0 := l2.cell (i := 0) rfl
      have q1 := l2.cell (i := 1) rfl
      have g0 := l2.free 0
      have g1 := l2.free 1
      have hbz : Below w.heap.size w (w2.alloc (Obj.cells #[.bool y, .int .i64 m] 60)) := below_join (below_join hb0 hb2) (below_new _ _)
      have L2 := Lib.hid l2
      clear cb l1 l2 k0 k1 k2 k3 k4 hb0 hb2
      go_wp2_with fail
      have m0 := (L2.out.set 0 (.bool y)).cell (i := 0) rfl
      have m1 := ((L2.out.set 0 (.bool y)).set 1 (.int .i64 m)).cell (i := 1) rfl
      exact bodyPost_ret (v := .agg #[.bool y, .int .i64 m]) (by simp [results, Tryz.results102, go_sem, m0, m1]) rfl ⟨rfl, (hbz.setCell (p := ⟨w.heap.size + 1, 0, none⟩) (by simp) _).setCell (p := ⟨w.heap.size + 1, 1, none⟩) (by simp) _⟩
    · have cb := tatval_no u r c W0 hu hc
      rw [Te.at_out r hc]
      clear hc hu
      go_enter Tryz.func102, Tryz.ntmps102
      go_wp2_with fail
      rw [← HW.out]
      refine ca.mono ?_
      rintro e w1 ⟨rfl, rfl⟩
      clear ca
      go_wp2_with fail
      refine cb.mono ?_
      rintro e w2 ⟨rfl, hb2⟩
      have l2 := (l1.below hb2 l1.lt).alloc (Obj.cells #[.bool false, .int .i64 0] 60)
      have q0 := l2.cell (i := 0) rfl
      have q1 := l2.cell (i := 1) rfl
      have g0 := l2.free 0
      have g1 := l2.free 1
      have hbz : Below w.heap.size w (w2.alloc (Obj.cells #[.bool false, .int .i64 0] 60)) := below_join (below_join hb0 hb2) (below_new _ _)
      have L2 := Lib.hid l2
      clear cb l1 l2 k0 k1 k2 k3 k4 hb0 hb2
      go_wp2_with fail
      have m0 := (L2.out.set 0 (.bool true)).cell (i := 0) rfl
      have m1 := ((L2.out.set 0 (.bool true)).set 1 (.int .i64 0)).cell (i := 1) rfl
      exact bodyPost_ret (v := .agg #[.bool true, .int .i64 0]) (by simp [results, Tryz.results102, go_sem, m0, m1]) rfl ⟨rfl, (hbz.setCell (p := ⟨w.heap.size + 1, 0, none⟩) (by simp) _).setCell (p := ⟨w.heap.size + 1, 1, none⟩) (by simp) _⟩
  · have hR : Te.val ⟨k, t, c, z, n⟩ rs = (z, n) := Te.val_other h1
    rw [hR]
    have d1 : (k != 1) = true := by simpa using h1
    clear h1 hR hv
    go_enter Tryz.func102, Tryz.ntmps102
    go_wp2_with fail
    exact bodyPost_ret (v := .agg #[.bool z, .int .i64 n]) (by simp [results, Tryz.results102, go_sem]) rfl ⟨rfl, below_new2 w _ _⟩
theorem r5of_any (k t c : Int) (z : Bool) (n : Int) (v : Value) (rs : List (List Vl)) (w : World) (hv : Rws w v rs) (hl : rs.length ≤ 1000) (hr : ∀ r ∈ rs, r.length ≤ 1000) :
    Calls Tryz.prog 129 #[.agg #[.int .i64 k, .int .i64 t, .int .i64 c, .bool z, .int .i64 n], v] w fun e w' => e = .returned (.agg #[.bool (Te.val ⟨k, t, c, z, n⟩ rs).1, .int .i64 (Te.val ⟨k, t, c, z, n⟩ rs).2]) ∧ Below w.heap.size w w' := by
  by_cases h1 : k = 1
  · subst h1
    obtain ⟨W0, hW0⟩ : ∃ W0, W0 = (w.alloc (Obj.cells #[.int .i64 1, .int .i64 t, .int .i64 c, .bool z, .int .i64 n] 75)).alloc (Obj.cells #[.bool false, .int .i64 0] 60) := ⟨_, rfl⟩
    have l0 : Lies W0 w.heap.size 75 [.int .i64 1, .int .i64 t, .int .i64 c, .bool z, .int .i64 n] := by rw [hW0]; exact (Lies.new _ _ _).alloc _
    have l1 : Lies W0 (w.heap.size + 1) 60 [.bool false, .int .i64 0] := by rw [hW0]; have := Lies.new (w.alloc (Obj.cells #[.int .i64 1, .int .i64 t, .int .i64 c, .bool z, .int .i64 n] 75)) 60 [.bool false, .int .i64 0]; rwa [World.size_alloc] at this
    have hb0 : Below w.heap.size w W0 := by rw [hW0]; exact below_new2 _ _ _
    obtain ⟨A, cp, rfl, _, hx⟩ := (hv.below hb0 (Nat.le_refl _)).at_
    have hR : Te.val ⟨1, t, c, z, n⟩ rs = Te.col t c rs := rfl
    rw [hR]
    obtain ⟨q, hq⟩ : ∃ q, q = rs.length := ⟨_, rfl⟩
    rw [← hq] at hl ⊢
    have HW := Lib.hid hW0
    have HQ := Lib.hid hq
    have HX := Lib.hid hx
    have HL := Lib.hid hr
    have K1 := Lib.hid (l0.cell (i := 1) rfl)
    have K2 := Lib.hid (l0.cell (i := 2) rfl)
    have L1 := Lib.hid l1
    have q0 := l1.cell (i := 0) rfl
    have q1 := l1.cell (i := 1) rfl
    have g0 := l1.free 0
    have g1 := l1.free 1
    clear hW0 hq hx hr hv hR l0 l1
    go_enter Tryz.func129, Tryz.ntmps129
    go_wp2
    rw [← HW.out]
    have k1 := K1.out
    have k2 := K2.out
    go_loop [5] (fun i => ∃ a : Nat, a ≤ q ∧ i = .int .i64 a ∧ Hid (Te.Seen t c rs a 0)) (fun i => q - (intOf i).toNat)
    case atStart => exact ⟨0, Nat.zero_le _, rfl, Lib.hid (Te.seen_start _ _ _)⟩
    case round =>
      obtain ⟨a, ha, rfl, hs⟩ := hrel
      by_cases hlt : a < q
      · obtain ⟨r, gr⟩ : ∃ r, rs[a]? = some r := ⟨rs[a]'(by have := HQ.out; omega), List.getElem?_eq_getElem _⟩
        obtain ⟨b, o, p, B, d, rfl, hcell, hd, hrow⟩ := HX.out a r gr
        have hm : r.length ≤ 1000 := HL.out r (List.mem_of_getElem? gr)
        obtain ⟨m, hmr⟩ : ∃ m, m = r.length := ⟨_, rfl⟩
        rw [← hmr] at hm hcell
        have HM := Lib.hid hmr
        have HR := Lib.hid hrow
        have GR := Lib.hid gr
        clear hmr hrow gr hd
        go_wp2
        go_loop [6] (fun i => ∃ b : Nat, b ≤ m ∧ i = .int .i64 b ∧ Hid (Te.Seen t c rs a b)) (fun i => m - (intOf i).toNat)
        case atStart => exact ⟨0, Nat.zero_le _, rfl, hs⟩
        case round =>
          obtain ⟨b', hb, rfl, hs2⟩ := hrel
          by_cases hlt2 : b' < m
          · obtain ⟨x, gx⟩ : ∃ x, r[b']? = some x := ⟨r[b']'(by have := HM.out; omega), List.getElem?_eq_getElem _⟩
            obtain ⟨b2, o2, p2, rfl, hl2, hpair⟩ := HR.out.pair gx
            obtain ⟨hc0, hc1⟩ := hpair _ (Below.refl _ _)
            have GX := Lib.hid gx
            clear gx hpair
            by_cases ht : t = a
            · subst ht
              by_cases hc : c = b'
              · subst hc
                have HF := Lib.hid (Te.seen_found GR.out GX.out)
                obtain ⟨y, e⟩ := x
                dsimp only at hc0 hc1
                have e1 : ((a : Int) == (a : Int)) = true := by simp
                have e2 : ((b' : Int) == (b' : Int)) = true := by simp
                go_wp2
                have m0 := (L1.out.set 0 (.bool y)).cell (i := 0) rfl
                have m1 := ((L1.out.set 0 (.bool y)).set 1 (.int .i64 e)).cell (i := 1) rfl
                rw [HF.out]
                exact bodyPost_ret (v := .agg #[.bool y, .int .i64 e]) (by simp [results, Tryz.results129, go_sem, m0, m1]) rfl ⟨rfl, (hb0.setCell (p := ⟨w.heap.size + 1, 0, none⟩) (by simp) _).setCell (p := ⟨w.heap.size + 1, 1, none⟩) (by simp) _⟩
              · have e1 : ((a : Int) == (a : Int)) = true := by simp
                have e2 : ((b' : Int) == c) = false := by simp; omega
                have hs3 := Lib.hid (Te.seen_step hs2.out (fun h => hc h.2))
                clear hc
                go_wp2
                go_round
                case rel => exact ⟨b' + 1, by omega, by go_num, hs3⟩
                case measure => simp [intOf]; omega
            · have e1 : ((a : Int) == t) = false := by simp; omega
              have hs3 := Lib.hid (Te.seen_step hs2.out (fun h => ht h.1))
              clear ht
              go_wp2
              go_round
              case rel => exact ⟨b' + 1, by omega, by go_num, hs3⟩
              case measure => simp [intOf]; omega
          · have hs3 := Lib.hid (Te.seen_row hs2.out GR.out (by have := HM.out; omega))
            go_wp2
            go_round
            case rel => exact ⟨a + 1, by omega, by go_num, hs3⟩
            case measure => simp [intOf]; omega
      · have HE := Lib.hid (Te.seen_end hs.out (by have := HQ.out; omega))
        go_wp2
        have m0 := (L1.out.set 0 (.bool true)).cell (i := 0) rfl
        have m1 := ((L1.out.set 0 (.bool true)).set 1 (.int .i64 0)).cell (i := 1) rfl
        rw [HE.out]
        exact bodyPost_ret (v := .agg #[.bool true, .int .i64 0]) (by simp [results, Tryz.results129, go_sem, m0, m1]) rfl ⟨rfl, (hb0.setCell (p := ⟨w.heap.size + 1, 0, none⟩) (by simp) _).setCell (p := ⟨w.heap.size + 1, 1, none⟩) (by simp) _⟩
  · have hR : Te.val ⟨k, t, c, z, n⟩ rs = (z, n) := Te.val_other h1
    rw [hR]
    have d1 : (k != 1) = true := by simpa using h1
    clear h1 hR hv hr hl
    go_enter Tryz.func129, Tryz.ntmps129
    go_wp2_with fail
    exact bodyPost_ret (v := .agg #[.bool z, .int .i64 n]) (by simp [results, Tryz.results129, go_sem]) rfl ⟨rfl, below_new2 w _ _⟩
end Go.Proofs.YtpaaibghfhnicaaGreatDoor
