/-
  THE CONTRACTS OF package value's FUNCTIONS: what may be, how two stand, how they compare.
-/
import Derived.Test.YthfoagglncimnaaDoorRows
import Derived.Test.YthfoagglncimnaaDoorVal
import Derived.Test.YthfoagglncimnaaDoorWord
import Derived.BigQuiet
import Derived.Deep.QuietTactic
import Derived.Lib.QuietBelow
namespace Go.Proofs.YthfoagglncimnaaDoor
open Go.RowKit Go.Sort
set_option maxHeartbeats 400000

theorem below_new (w : World) (o : Obj) : Below w.heap.size w (w.alloc o) := (Below.refl _ _).alloc (Nat.le_refl _) _
theorem below_new2 (w : World) (o o' : Obj) : Below w.heap.size w ((w.alloc o).alloc o') := (below_new w o).alloc (by simp) _
/-- a call that makes memory, in a world that has grown -/
theorem below_low {A B : Nat} {w w' : World} (h : Below B w w') (hA : A ≤ B) : Below A w w' := ⟨h.os, h.tape, h.output, h.size, fun k hk => h.block k (Nat.lt_of_lt_of_le hk hA)⟩
theorem below_join {a b c : World} (h : Below a.heap.size a b) (k : Below b.heap.size b c) : Below a.heap.size a c := h.trans (below_low k h.size)
/-- the table value.wants -/
def Want (w : World) : Prop := ∀ q p : Nat, q < 7 → p < 3 → w.cell? ⟨0, q * 3 + p, none⟩ = some (.bool (Va.want q p))
theorem Want.below {w w' : World} {B : Nat} (h : Want w) (hb : Below B w w') (hB : w.heap.size ≤ B) : Want w' := fun q p hq hp => by
  have h0 := h q p hq hp
  rw [hb.cell (Nat.lt_of_lt_of_le (block_lt_of_cell h0) hB)]; exact h0

theorem right_any (b : Bool) (n : Int) (w : World) :
    Calls Tryd.prog 67 #[.agg #[.bool b, .int .i64 n]] w fun e w' => e = .returned (.bool (Va.right b n)) ∧ Below w.heap.size w w' := by
  go_enter Tryd.func67, Tryd.ntmps67
  cases b
  · go_wp2
    go_ret
    exact ⟨ret_bool (by simp [Va.right]), below_new _ _⟩
  · go_wp2
    go_ret
    exact ⟨ret_bool (by simp [Va.right]), below_new _ _⟩
theorem rright_any (b : Bool) (n : Int) (w : World) :
    Calls Tryd.prog 70 #[.agg #[.bool b, .int .i64 n]] w fun e w' => e = .returned (.bool (Va.right b n)) ∧ Below w.heap.size w w' := by
  go_enter Tryd.func70, Tryd.ntmps70
  cases b
  · go_wp2
    go_ret
    exact ⟨ret_bool (by simp [Va.right]), below_new _ _⟩
  · go_wp2
    go_ret
    exact ⟨ret_bool (by simp [Va.right]), below_new _ _⟩
theorem less_any (b c : Bool) (n m : Int) (w : World) :
    Calls Tryd.prog 72 #[.agg #[.bool b, .int .i64 n], .agg #[.bool c, .int .i64 m]] w fun e w' => e = .returned (.bool (Va.less b n c m)) ∧ Below w.heap.size w w' := by
  go_enter Tryd.func72, Tryd.ntmps72
  cases b <;> cases c
  all_goals go_wp2
  all_goals go_ret
  all_goals exact ⟨ret_bool (by simp [Va.less]), below_new2 _ _ _⟩
theorem place_any (b c : Bool) (n m : Int) (w : World) :
    Calls Tryd.prog 59 #[.agg #[.bool b, .int .i64 n], .agg #[.bool c, .int .i64 m]] w fun e w' => e = .returned (.int .i64 (Va.place b n c m : Nat)) ∧ Below w.heap.size w w' := by
  have hP : Va.place b n c m = if Va.less b n c m then 0 else if Va.less c m b n then 2 else 1 := rfl
  obtain ⟨r, hr⟩ : ∃ r, r = Va.place b n c m := ⟨_, rfl⟩
  obtain ⟨l1, h1⟩ : ∃ l1, l1 = Va.less b n c m := ⟨_, rfl⟩
  obtain ⟨l2, h2⟩ : ∃ l2, l2 = Va.less c m b n := ⟨_, rfl⟩
  rw [← hr, ← h1, ← h2] at hP
  rw [← hr]
  have H1 := Lib.hid h1
  have H2 := Lib.hid h2
  have HP := Lib.hid hP
  clear hr h1 h2 hP
  go_enter Tryd.func59, Tryd.ntmps59
  go_wp2_with fail
  refine (less_any b c n m _).mono ?_
  rw [← H1.out]
  rintro e w1 ⟨rfl, hb1⟩
  have hb : Below w.heap.size w w1 := below_join (below_new2 w _ _) hb1
  have c1 : w1.cell? ⟨w.heap.size, 0, none⟩ = some (.bool b) := by rw [hb1.cell (by simp; omega)]; simp
  have c2 : w1.cell? ⟨w.heap.size, 1, none⟩ = some (.int .i64 n) := by rw [hb1.cell (by simp; omega)]; simp
  have c3 : w1.cell? ⟨w.heap.size + 1, 0, none⟩ = some (.bool c) := by rw [hb1.cell (by simp)]; simp
  have c4 : w1.cell? ⟨w.heap.size + 1, 1, none⟩ = some (.int .i64 m) := by rw [hb1.cell (by simp)]; simp
  clear hb1
  cases l1
  · go_wp2_with fail
    refine (less_any c b m n _).mono ?_
    rw [← H2.out]
    rintro e w2 ⟨rfl, hb2⟩
    have hb' : Below w.heap.size w w2 := below_join hb hb2
    clear hb2
    cases l2
    · go_wp2
      go_ret
      exact ⟨ret_int (by rw [HP.out]; rfl), hb'⟩
    · go_wp2
      go_ret
      exact ⟨ret_int (by rw [HP.out]; rfl), hb'⟩
  · go_wp2
    go_ret
    exact ⟨ret_int (by rw [HP.out]; rfl), hb⟩
theorem compare_null (o : Int) (b c : Bool) (n m : Int) (w : World) (h : (b || c) = true) :
    Calls Tryd.prog 37 #[.int .i64 o, .agg #[.bool b, .int .i64 n], .agg #[.bool c, .int .i64 m]] w fun e w' => e = .returned (.int .i64 1) ∧ Below w.heap.size w w' := by
  have hc : b = false → c = true := by cases b <;> simp_all
  clear h
  go_enter Tryd.func37, Tryd.ntmps37
  cases b
  · obtain rfl := hc rfl
    clear hc
    go_wp2
    go_ret
    exact ⟨rfl, below_new2 _ _ _⟩
  · clear hc
    go_wp2
    go_ret
    exact ⟨rfl, below_new2 _ _ _⟩
theorem compare_out (o : Int) (n m : Int) (w : World) (h : o < 1 ∨ 6 < o) :
    Calls Tryd.prog 37 #[.int .i64 o, .agg #[.bool false, .int .i64 n], .agg #[.bool false, .int .i64 m]] w fun e w' => e = .returned (.int .i64 1) ∧ Below w.heap.size w w' := by
  by_cases h1 : o < 1
  · have h1' : decide (o < 1) = true := by simp; omega
    clear h
    go_enter Tryd.func37, Tryd.ntmps37
    go_wp2
    go_ret
    exact ⟨rfl, below_new2 _ _ _⟩
  · have h1' : decide (o < 1) = false := by simp; omega
    have h2' : decide (6 < o) = true := by simp; omega
    clear h
    go_enter Tryd.func37, Tryd.ntmps37
    go_wp2
    go_ret
    exact ⟨rfl, below_new2 _ _ _⟩
theorem compare_num (q : Nat) (n m : Int) (w : World) (h1 : 1 ≤ q) (h6 : q ≤ 6) (hW : Want w) :
    Calls Tryd.prog 37 #[.int .i64 (q : Int), .agg #[.bool false, .int .i64 n], .agg #[.bool false, .int .i64 m]] w fun e w' => e = .returned (.int .i64 (Va.truth (Va.want q (Va.place false n false m)))) ∧ Below w.heap.size w w' := by
  obtain ⟨p, hp⟩ : ∃ p, p = Va.place false n false m := ⟨_, rfl⟩
  have hp3 : p < 3 := hp ▸ Va.place_lt _ _ _ _
  rw [← hp]
  have HP := Lib.hid hp
  have d1 : decide ((q : Int) < 1) = false := by simp; omega
  have d2 : decide (6 < (q : Int)) = false := by simp; omega
  have i1 : (0 : Int) ≤ (q : Int) := by omega
  have i2 : (q : Int) < 7 := by omega
  have i3 : (0 : Int) ≤ (p : Int) := by omega
  have i4 : (p : Int) < 3 := by omega
  have hc := hW q p (by omega) hp3
  obtain ⟨t, ht⟩ : ∃ t, t = Va.want q p := ⟨_, rfl⟩
  rw [← ht] at hc ⊢
  clear hp hp3 hW ht h1 h6
  go_enter Tryd.func37, Tryd.ntmps37
  go_wp2
  obtain ⟨W0, hW0⟩ : ∃ W0, W0 = (w.alloc (Obj.cells #[Value.bool false, Value.int IntKind.i64 n] 23)).alloc (Obj.cells #[Value.bool false, Value.int IntKind.i64 m] 23) := ⟨_, rfl⟩
  have hb0 : Below w.heap.size w W0 := by rw [hW0]; exact below_new2 _ _ _
  have k0 : ∀ d os, (grow (redrawn W0 d) os).cell? ⟨w.heap.size, 0, none⟩ = some (.bool false) := cell_regrown (by rw [hW0]; simp)
  have k1 : ∀ d os, (grow (redrawn W0 d) os).cell? ⟨w.heap.size, 0 + 1, none⟩ = some (.int .i64 n) := cell_regrown (by rw [hW0]; simp)
  have k2 : ∀ d os, (grow (redrawn W0 d) os).cell? ⟨w.heap.size + 1, 0, none⟩ = some (.bool false) := cell_regrown (by rw [hW0]; simp)
  have k3 : ∀ d os, (grow (redrawn W0 d) os).cell? ⟨w.heap.size + 1, 0 + 1, none⟩ = some (.int .i64 m) := cell_regrown (by rw [hW0]; simp)
  have k4 : ∀ d os, (grow (redrawn W0 d) os).cell? ⟨0, q * 3 + p, none⟩ = some (.bool t) := cell_regrown (by rw [hb0.cell (block_lt_of_cell hc)]; exact hc)
  have cP : ∀ d os, Calls Tryd.prog 59 #[.agg #[.bool false, .int .i64 n], .agg #[.bool false, .int .i64 m]] (grow (redrawn W0 d) os) fun e w'' => e = .returned (.int .i64 (p : Int)) ∧ ∃ p : Regrown, w'' = grow (redrawn W0 p.d) p.os :=
    fun d os => Calls.regrown_of (by have := place_any false false n m (grow (redrawn W0 d) os); rw [← HP.out] at this; exact this)
  rw [← hW0]
  clear hW0 hc
  refine wp_region_quiet_below (by kernel_rfl) (by kernel_rfl) ?_
  repeat (go_big_quiet_step (exact cP _ _))
  refine wpQuiet_nil ?_
  intro _ hw'
  obtain ⟨⟨dq, osq⟩, hw''⟩ := hw'
  subst hw''
  have hb1 : Below w.heap.size w (grow (redrawn W0 dq) osq) := below_join hb0 (below_regrown _ _ _)
  clear k0 k1 k2 k3 k4 cP hb0
  generalize grow (redrawn W0 dq) osq = w1 at hb1 ⊢
  cases t
  · go_wp2
    go_ret
    exact ⟨rfl, hb1⟩
  · go_wp2
    go_ret
    exact ⟨rfl, hb1⟩
theorem compare_any (o : Int) (b c : Bool) (n m : Int) (w : World) (hW : Want w) :
    Calls Tryd.prog 37 #[.int .i64 o, .agg #[.bool b, .int .i64 n], .agg #[.bool c, .int .i64 m]] w fun e w' => e = .returned (.int .i64 (Va.comp o b n c m)) ∧ Below w.heap.size w w' := by
  by_cases h : (b || c) = true
  · rw [Va.comp_null h]; exact compare_null o b c n m w h
  · obtain ⟨rfl, rfl⟩ : b = false ∧ c = false := by simpa using h
    by_cases ho : o < 1 ∨ 6 < o
    · rw [Va.comp_out ho]; exact compare_out o n m w ho
    · obtain ⟨q, rfl⟩ := Int.eq_ofNat_of_zero_le (show 0 ≤ o by omega)
      rw [Va.comp_want q (by omega) (by omega)]
      exact compare_num q n m w (by omega) (by omega) hW
theorem rtruth_any (b : Bool) (w : World) :
    Calls Tryd.prog 65 #[.bool b] w fun e w' => e = .returned (.int .i64 (Va.truth b)) ∧ w = w' := by
  go_enter Tryd.func65, Tryd.ntmps65
  cases b
  · go_wp2
    go_ret
    exact ⟨rfl, rfl⟩
  · go_wp2
    go_ret
    exact ⟨rfl, rfl⟩
theorem rcompare_any (o : Int) (b c : Bool) (n m : Int) (w : World) :
    Calls Tryd.prog 45 #[.int .i64 o, .agg #[.bool b, .int .i64 n], .agg #[.bool c, .int .i64 m]] w fun e w' => e = .returned (.int .i64 (Va.comp o b n c m)) ∧ Below w.heap.size w w' := by
  by_cases h : (b || c) = true
  · rw [Va.comp_null h]
    have hc : b = false → c = true := by cases b <;> simp_all
    clear h
    go_enter Tryd.func45, Tryd.ntmps45
    cases b
    · obtain rfl := hc rfl
      clear hc
      go_wp2
      go_ret
      exact ⟨rfl, below_new2 _ _ _⟩
    · clear hc
      go_wp2
      go_ret
      exact ⟨rfl, below_new2 _ _ _⟩
  · obtain ⟨rfl, rfl⟩ : b = false ∧ c = false := by simpa using h
    have H := Lib.hid (show Va.comp o false n false m = if o = 1 then Va.truth (n == m) else if o = 2 then Va.truth (n != m) else if o = 3 then Va.truth (decide (n < m)) else if o = 4 then Va.truth (decide (n ≤ m)) else if o = 5 then Va.truth (decide (m < n)) else if o = 6 then Va.truth (decide (m ≤ n)) else 1 from rfl)
    obtain ⟨r, hr⟩ : ∃ r, r = Va.comp o false n false m := ⟨_, rfl⟩
    rw [← hr] at H ⊢
    clear hr h
    go_enter Tryd.func45, Tryd.ntmps45
    by_cases h1 : o = 1
    · subst h1
      go_wp2_with (refine (rtruth_any _ _).mono ?_; rintro e w' ⟨rfl, rfl⟩)
      go_ret
      exact ⟨ret_int (by rw [H.out]; simp), below_new2 _ _ _⟩
    by_cases h2 : o = 2
    · subst h2
      go_wp2_with (refine (rtruth_any _ _).mono ?_; rintro e w' ⟨rfl, rfl⟩)
      go_ret
      exact ⟨ret_int (by rw [H.out]; simp), below_new2 _ _ _⟩
    by_cases h3 : o = 3
    · subst h3
      go_wp2_with (refine (rtruth_any _ _).mono ?_; rintro e w' ⟨rfl, rfl⟩)
      go_ret
      exact ⟨ret_int (by rw [H.out]; simp), below_new2 _ _ _⟩
    by_cases h4 : o = 4
    · subst h4
      go_wp2_with (refine (rtruth_any _ _).mono ?_; rintro e w' ⟨rfl, rfl⟩)
      go_ret
      exact ⟨ret_int (by rw [H.out]; simp), below_new2 _ _ _⟩
    by_cases h5 : o = 5
    · subst h5
      go_wp2_with (refine (rtruth_any _ _).mono ?_; rintro e w' ⟨rfl, rfl⟩)
      go_ret
      exact ⟨ret_int (by rw [H.out]; simp), below_new2 _ _ _⟩
    by_cases h6 : o = 6
    · subst h6
      go_wp2_with (refine (rtruth_any _ _).mono ?_; rintro e w' ⟨rfl, rfl⟩)
      go_ret
      exact ⟨ret_int (by rw [H.out]; simp), below_new2 _ _ _⟩
    have d1 : (o == 1) = false := by simpa using h1
    have d2 : (o == 2) = false := by simpa using h2
    have d3 : (o == 3) = false := by simpa using h3
    have d4 : (o == 4) = false := by simpa using h4
    have d5 : (o == 5) = false := by simpa using h5
    have d6 : (o == 6) = false := by simpa using h6
    have H' : Hid (r = 1) := Lib.hid (by rw [H.out, if_neg h1, if_neg h2, if_neg h3, if_neg h4, if_neg h5, if_neg h6])
    clear H
    go_wp2
    go_ret
    exact ⟨ret_int (by rw [H'.out]), below_new2 _ _ _⟩
end Go.Proofs.YthfoagglncimnaaDoor
