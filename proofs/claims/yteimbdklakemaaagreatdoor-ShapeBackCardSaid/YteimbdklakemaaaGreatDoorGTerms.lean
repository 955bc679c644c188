/-
  LAID TOGETHER, BY PROGRAM, of: Terma, Termb.
-/
import Derived.Test.YteimbdklakemaaaGreatDoorRows
import Derived.Test.YteimbdklakemaaaGreatDoorGPlain
import Derived.Test.YteimbdklakemaaaGreatDoorGBase
/-
  THE CONTRACTS OF package term's FUNCTIONS (and the document's): what may be, which tables are named.
-/
namespace Go.Proofs.YteimbdklakemaaaGreatDoor
open Go.RowKit
set_option maxHeartbeats 400000

theorem tbelow_any (i n : Int) (w : World) :
    Calls Tryz.prog 88 #[.int .i64 i, .int .i64 n] w fun e w' => e = .returned (.bool (Te.below i n)) ∧ w = w' := by
  by_cases h : 0 ≤ i
  · have H := Lib.hid (show Te.below i n = decide (i < n) by unfold Te.below; simp [h])
    go_enter Tryz.func88, Tryz.ntmps88
    go_wp2
    go_ret
    exact ⟨ret_bool (by rw [H.out]), rfl⟩
  · have H := Lib.hid (show Te.below i n = false by unfold Te.below; simp [h])
    go_enter Tryz.func88, Tryz.ntmps88
    go_wp2
    go_ret
    exact ⟨ret_bool (by rw [H.out]), rfl⟩
theorem tplaced_any (k t c : Int) (z : Bool) (n : Int) (w : World) :
    Calls Tryz.prog 78 #[.agg #[.int .i64 k, .int .i64 t, .int .i64 c, .bool z, .int .i64 n]] w fun e w' => e = .returned (.bool (Te.below t 64 && Te.below c 4)) ∧ Below w.heap.size w w' := by
  obtain ⟨r1, h1⟩ : ∃ r, r = Te.below t 64 := ⟨_, rfl⟩
  obtain ⟨r2, h2⟩ : ∃ r, r = Te.below c 4 := ⟨_, rfl⟩
  have c1 := fun W => tbelow_any t 64 W
  have c2 := fun W => tbelow_any c 4 W
  rw [← h1] at c1 ⊢
  rw [← h2] at c2 ⊢
  clear h1 h2
  go_enter Tryz.func78, Tryz.ntmps78
  cases r1
  · go_wp2_with (first | (with_reducible refine (c1 _).mono ?_; rintro e w' ⟨rfl, rfl⟩))
    go_ret
    exact ⟨rfl, below_new _ _⟩
  · go_wp2_with (first | (with_reducible refine (c1 _).mono ?_; rintro e w' ⟨rfl, rfl⟩) | (with_reducible refine (c2 _).mono ?_; rintro e w' ⟨rfl, rfl⟩))
    go_ret
    exact ⟨ret_bool (by simp), below_new _ _⟩
theorem tright_any (k t c : Int) (z : Bool) (n : Int) (w : World) :
    Calls Tryz.prog 68 #[.agg #[.int .i64 k, .int .i64 t, .int .i64 c, .bool z, .int .i64 n]] w fun e w' => e = .returned (.bool (Te.right ⟨k, t, c, z, n⟩)) ∧ Below w.heap.size w w' := by
  by_cases h1 : k = 1
  · subst h1
    obtain ⟨W0, hW0⟩ : ∃ W0, W0 = w.alloc (Obj.cells #[.int .i64 1, .int .i64 t, .int .i64 c, .bool z, .int .i64 n] 41) := ⟨_, rfl⟩
    have l0 : Lies W0 w.heap.size 41 [.int .i64 1, .int .i64 t, .int .i64 c, .bool z, .int .i64 n] := by rw [hW0]; exact Lies.new _ _ _
    have hb0 : Below w.heap.size w W0 := by rw [hW0]; exact below_new _ _
    have cp := tplaced_any 1 t c z n W0
    have hr : Te.right ⟨1, t, c, z, n⟩ = (Te.below t 64 && Te.below c 4 && !z && n == 0) := rfl
    obtain ⟨r, hr1⟩ : ∃ r, r = (Te.below t 64 && Te.below c 4) := ⟨_, rfl⟩
    rw [← hr1] at cp hr
    have HR := Lib.hid hr
    have HW := Lib.hid hW0
    clear hr1 hr hW0
    go_enter Tryz.func68, Tryz.ntmps68
    go_wp2_with fail
    rw [← HW.out]
    refine cp.mono ?_
    rintro e w1 ⟨rfl, hb1⟩
    have l1 := l0.below hb1 l0.lt
    have hb : Below w.heap.size w w1 := below_join hb0 hb1
    have k0 := l1.cell (i := 0) rfl
    have k1 := l1.cell (i := 1) rfl
    have k2 := l1.cell (i := 2) rfl
    have k3 := l1.cell (i := 3) rfl
    have k4 := l1.cell (i := 4) rfl
    have f1 := l1.free 1
    have f2 := l1.free 2
    clear cp l0 hb0 hb1
    cases r
    · go_wp2_with fail
      go_ret
      exact ⟨ret_bool (by rw [HR.out]; rfl), hb⟩
    · cases z
      · by_cases hn : n = 0
        · subst hn
          have cv := fun W => right_any false 0 W
          go_wp2_with fail
          refine (cv _).mono ?_
          rintro e w2 ⟨rfl, hb2⟩
          have hbs := (hb.setCell (p := ⟨w.heap.size, 1, none⟩) (Nat.le_refl _) (.int .i64 0)).setCell (p := ⟨w.heap.size, 2, none⟩) (Nat.le_refl _) (.int .i64 0)
          have hb' := below_join hbs hb2
          clear cv hb2 hbs k0 k1 k2 k3 k4 f1 f2 l1
          go_wp2_with fail
          go_ret
          exact ⟨ret_bool (by rw [HR.out]; rfl), hb'⟩
        · go_wp2_with fail
          go_ret
          exact ⟨ret_bool (by rw [HR.out]; simp [hn]), hb⟩
      · go_wp2_with fail
        go_ret
        exact ⟨ret_bool (by rw [HR.out]; rfl), hb⟩
  by_cases h2 : k = 2
  · subst h2
    have HR := Lib.hid (show Te.right ⟨2, t, c, z, n⟩ = (t == 0 && c == 0 && Va.right z n) from rfl)
    clear h1
    by_cases ht : t = 0
    · subst ht
      by_cases hc : c = 0
      · subst hc
        have cv := fun W => right_any z n W
        obtain ⟨r, hr1⟩ : ∃ r, r = Va.right z n := ⟨_, rfl⟩
        rw [← hr1] at cv
        have HR1 := Lib.hid hr1
        clear hr1
        go_enter Tryz.func68, Tryz.ntmps68
        go_wp2_with fail
        refine (cv _).mono ?_
        rintro e w1 ⟨rfl, hb1⟩
        have hb : Below w.heap.size w w1 := below_join (below_new _ _) hb1
        clear cv hb1
        go_wp2_with fail
        go_ret
        exact ⟨ret_bool (by rw [HR.out, ← HR1.out]; rfl), hb⟩
      · go_enter Tryz.func68, Tryz.ntmps68
        go_wp2_with fail
        go_ret
        exact ⟨ret_bool (by rw [HR.out]; simp [hc]), below_new _ _⟩
    · go_enter Tryz.func68, Tryz.ntmps68
      go_wp2_with fail
      go_ret
      exact ⟨ret_bool (by rw [HR.out]; simp [ht]), below_new _ _⟩
  · have d1 : (k == 1) = false := by simpa using h1
    have d2 : (k == 2) = false := by simpa using h2
    have H := Lib.hid (show Te.right ⟨k, t, c, z, n⟩ = false by unfold Te.right; rw [if_neg h1]; simp [h2])
    clear h1 h2
    go_enter Tryz.func68, Tryz.ntmps68
    go_wp2_with fail
    go_ret
    exact ⟨ret_bool H.out.symm, below_new _ _⟩
/-- are two terms the same, as the model compares structs -/
theorem same_cells (k t c : Int) (z : Bool) (n : Int) (k' t' c' : Int) (z' : Bool) (n' : Int) :
    Te.same ⟨k, t, c, z, n⟩ ⟨k', t', c', z', n'⟩ = (k == k' && t == t' && c == c' && z == z' && n == n') := rfl
theorem tsame_any (k t c : Int) (z : Bool) (n : Int) (k' t' c' : Int) (z' : Bool) (n' : Int) (w : World) :
    Calls Tryz.prog 87 #[.agg #[.int .i64 k, .int .i64 t, .int .i64 c, .bool z, .int .i64 n], .agg #[.int .i64 k', .int .i64 t', .int .i64 c', .bool z', .int .i64 n']] w fun e w' => e = .returned (.bool (Te.same ⟨k, t, c, z, n⟩ ⟨k', t', c', z', n'⟩)) ∧ Below w.heap.size w w' := by
  go_enter Tryz.func87, Tryz.ntmps87
  go_wp2_with fail
  all_goals go_ret
  all_goals exact ⟨ret_bool (by simp [Te.same, *]), below_new2 _ _ _⟩
theorem sl_one (w : World) (t : Int) (g : Nat) (hg : w.heap.size = g) : Sl (w.alloc (.cells #[.int .i64 t] 3)) (.slice (some ⟨g, 0, none⟩) 1 1) ([t].map (Value.int .i64)) := by
  subst hg; exact Sl.new w 3 [.int .i64 t]
end Go.Proofs.YteimbdklakemaaaGreatDoor

/-
  THE CONTRACTS OF term.at AND term.Of, AND OF THE DOCUMENT's Of.
-/
namespace Go.Proofs.YteimbdklakemaaaGreatDoor
open Go.RowKit
set_option maxHeartbeats 400000

end Go.Proofs.YteimbdklakemaaaGreatDoor
