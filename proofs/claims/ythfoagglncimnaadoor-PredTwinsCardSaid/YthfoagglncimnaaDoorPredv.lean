/-
  THE CONTRACT OF THE LIBRARY's Grow, of a nil slice: a row of one's own, of no element yet.
-/
import Derived.Test.YthfoagglncimnaaDoorPredp
import Derived.Lib.AppendZeros
namespace Go.Proofs.YthfoagglncimnaaDoor
open Go.RowKit Go.Sort
set_option maxHeartbeats 3200000

theorem Tryd.infoPred : (Tryd.prog.info? 28).map (fun i => (i.zero, i.size, i.bytes)) = some (some (.agg #[.int .i64 0, .int .i64 0, .int .i64 0, .int .i64 0, .int .i64 0, .int .i64 0, .bool false, .int .i64 0, .int .i64 0, .int .i64 0, .int .i64 0, .bool false, .int .i64 0, .slice none 0 0]), 14, 128) := by kernel_rfl
theorem pgrowi_any (n : Nat) (w : World) (hn : n ≤ 1000000) :
    Calls Tryd.prog 77 #[.slice none 0 0, .int .i64 (n : Int)] w fun e w' => ∃ v, e = .returned v ∧ w'.ownsRow w.heap.size 3 1 v 0 [] ∧ Below w.heap.size w w' := by
  obtain ⟨i0, hi, hz0, hz1, hz2⟩ := info_parts Tryd.infoInt
  have h1 : ¬ ((n : Int) < 0) := by omega
  have h2 : wrap64 ((0 : Int) - (0 : Int)) = 0 := by unfold wrap64; omega
  have h3 : wrap64 ((n : Int) - 0) = (n : Int) := by unfold wrap64; omega
  by_cases h0 : 0 < n
  · have h4 : (n : Int) > 0 := by omega
    have hr := fun ty => Lib.run_append_nil_zeros (P := Tryd.prog) w 63 3 ty 3 i0 (.int .i64 0) .i64 .i64 Tryd.underlying63 Tryd.underlying3 hi hz0 n h0 (by rw [hz1]; decide) (by omega) (by rw [hz2]; omega)
    obtain ⟨G, hG⟩ : ∃ G, G = grownCap w n 0 3 := ⟨_, rfl⟩
    have hG1 : G ≤ maxLen := by rw [hG]; exact grownCap_le_maxLen w n 0 _ (by unfold maxLen; omega)
    have hG2 : n ≤ G := by rw [hG]; exact grownCap_ge w _ _ _
    have hG3 : G ≤ 9223372036854775807 := by unfold maxLen at hG1; omega
    rw [← hG] at hr
    obtain ⟨cur, hcur⟩ : ∃ cur, cur = Builtin.zeroCells (.int .i64 0 : Value).cells n ++ Builtin.zeroCells (.int .i64 0 : Value).cells (G - n) := ⟨_, rfl⟩
    have hcs : cur.size = G * 1 := by
      rw [hcur, Array.size_append, size_zeroCells, size_zeroCells, show (.int .i64 0 : Value).cells.size = 1 from rfl]; omega
    rw [← hcur] at hr
    clear hcur hG
    have how := Lib.hid (World.ownsRow_made (base := w.heap.size) (size := 1) (e := 3) w.drew cur G (Nat.le_refl _) hG1 hcs)
    have hbw := Lib.hid (show Below w.heap.size w (w.drew.alloc (.cells cur 3)) from ((Below.refl _ w).drew).alloc (Nat.le_refl _) _)
    go_enter Tryd.func77, Tryd.ntmps77
    go_wp2_with (first | (at_builtin; refine Lib.wpList_append_run _ rfl _ _ _ _ rfl _ _ rfl rfl _ _ (hr _) ?_))
    go_ret
    exact ⟨_, rfl, how.out, hbw.out⟩
  · obtain rfl : n = 0 := by omega
    go_enter Tryd.func77, Tryd.ntmps77
    go_wp2_with fail
    go_ret
    exact ⟨_, rfl, World.ownsRow_nil _ _ _ _, Below.refl _ _⟩
theorem pgrowp_any (n : Nat) (w : World) (hn : n ≤ 1000000) :
    Calls Tryd.prog 55 #[.slice none 0 0, .int .i64 (n : Int)] w fun e w' => ∃ v, e = .returned v ∧ w'.ownsRow w.heap.size 28 14 v 0 [] ∧ Below w.heap.size w w' := by
  obtain ⟨i0, hi, hz0, hz1, hz2⟩ := info_parts Tryd.infoPred
  have h1 : ¬ ((n : Int) < 0) := by omega
  have h2 : wrap64 ((0 : Int) - (0 : Int)) = 0 := by unfold wrap64; omega
  have h3 : wrap64 ((n : Int) - 0) = (n : Int) := by unfold wrap64; omega
  by_cases h0 : 0 < n
  · have h4 : (n : Int) > 0 := by omega
    have hr := fun ty => Lib.run_append_nil_zeros (P := Tryd.prog) w 26 3 ty 28 i0 (.agg #[.int .i64 0, .int .i64 0, .int .i64 0, .int .i64 0, .int .i64 0, .int .i64 0, .bool false, .int .i64 0, .int .i64 0, .int .i64 0, .int .i64 0, .bool false, .int .i64 0, .slice none 0 0]) .i64 .i64 Tryd.underlying26 Tryd.underlying3 hi hz0 n h0 (by rw [hz1]; decide) (by omega) (by rw [hz2]; omega)
    obtain ⟨G, hG⟩ : ∃ G, G = grownCap w n 0 28 := ⟨_, rfl⟩
    have hG1 : G ≤ maxLen := by rw [hG]; exact grownCap_le_maxLen w n 0 _ (by unfold maxLen; omega)
    have hG2 : n ≤ G := by rw [hG]; exact grownCap_ge w _ _ _
    have hG3 : G ≤ 9223372036854775807 := by unfold maxLen at hG1; omega
    rw [← hG] at hr
    obtain ⟨cur, hcur⟩ : ∃ cur, cur = Builtin.zeroCells (.agg #[.int .i64 0, .int .i64 0, .int .i64 0, .int .i64 0, .int .i64 0, .int .i64 0, .bool false, .int .i64 0, .int .i64 0, .int .i64 0, .int .i64 0, .bool false, .int .i64 0, .slice none 0 0] : Value).cells n ++ Builtin.zeroCells (.agg #[.int .i64 0, .int .i64 0, .int .i64 0, .int .i64 0, .int .i64 0, .int .i64 0, .bool false, .int .i64 0, .int .i64 0, .int .i64 0, .int .i64 0, .bool false, .int .i64 0, .slice none 0 0] : Value).cells (G - n) := ⟨_, rfl⟩
    have hcs : cur.size = G * 14 := by
      rw [hcur, Array.size_append, size_zeroCells, size_zeroCells, show (.agg #[.int .i64 0, .int .i64 0, .int .i64 0, .int .i64 0, .int .i64 0, .int .i64 0, .bool false, .int .i64 0, .int .i64 0, .int .i64 0, .int .i64 0, .bool false, .int .i64 0, .slice none 0 0] : Value).cells.size = 14 from rfl]; omega
    rw [← hcur] at hr
    clear hcur hG
    have how := Lib.hid (World.ownsRow_made (base := w.heap.size) (size := 14) (e := 28) w.drew cur G (Nat.le_refl _) hG1 hcs)
    have hbw := Lib.hid (show Below w.heap.size w (w.drew.alloc (.cells cur 28)) from ((Below.refl _ w).drew).alloc (Nat.le_refl _) _)
    go_enter Tryd.func55, Tryd.ntmps55
    go_wp2_with (first | (at_builtin; refine Lib.wpList_append_run _ rfl _ _ _ _ rfl _ _ rfl rfl _ _ (hr _) ?_))
    go_ret
    exact ⟨_, rfl, how.out, hbw.out⟩
  · obtain rfl : n = 0 := by omega
    go_enter Tryd.func55, Tryd.ntmps55
    go_wp2_with fail
    go_ret
    exact ⟨_, rfl, World.ownsRow_nil _ _ _ _, Below.refl _ _⟩
end Go.Proofs.YthfoagglncimnaaDoor
