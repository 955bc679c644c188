/-
  package tree: Walk.
-/
import Derived.Test.YtdcgfhenlddmeaaTrlcM
namespace Go.Proofs.Ytdcgfhenlddmeaa
open Go.RowKit Go.Sort
set_option maxHeartbeats 1600000

set_option maxRecDepth 100000 in
theorem walk_any (a : Tr) (u v : Value) (w : World) (hu : ∃ d, TsAt d w u a.ks) (hv : PsSome w v a.cs) (hsz : Tr.size a ≤ 1000) :
    Calls Try.prog 31 #[.agg #[.int .i64 a.k, .int .i64 a.t, u, v, .bool a.h]] w
      fun e w' => ∃ u' v', e = .returned (.func (.func 44) #[] #[.pointer (some ⟨w.heap.size, 0, none⟩)]) ∧ TrCell w' ⟨w.heap.size, 0, none⟩ a u' v' ∧ TrOn (fun k => w.heap.size < k) w' (a, u', v') ∧ Below w.heap.size w w' := by
  obtain ⟨A, c, rfl, hl⟩ := hu.elim fun d h => h.form
  obtain ⟨A', c', rfl, hl'⟩ := hv.elim fun d h => h.form
  obtain ⟨W0, hW0⟩ : ∃ W0, W0 = w.alloc (Obj.cells #[.int .i64 a.k, .int .i64 a.t, .slice A a.ks.length c, .slice A' a.cs.length c', .bool a.h] 26) := ⟨_, rfl⟩
  obtain ⟨l0, hb0⟩ := box_one (cs := a.cells (.slice A a.ks.length c) (.slice A' a.cs.length c')) hW0
  have hsz0 := Lib.hid (show w.heap.size < W0.heap.size from l0.lt)
  have cc := tcopy_any a _ _ W0 (hu.elim fun d h => ⟨d, h.below hb0 (Nat.le_refl _)⟩) (hv.below hb0 (Nat.le_refl _)) hsz
  have HW := Lib.hid hW0
  have HL := Lib.hid l0
  obtain ⟨x0, x1, x2, x3, x4⟩ := l0.tr
  simp only [Nat.zero_add] at x0 x1 x2 x3 x4
  rw [HW.out] at x0 x1 x2 x3 x4
  clear hu hv hsz hW0 l0
  go_enter Try.func31, Try.ntmps31
  go_wp2_with fail
  rw [← HW.out]
  refine cc.mono ?_
  rintro e w2 ⟨u2, v2, rfl, hon, hb2⟩
  obtain ⟨B2, c2, hB2, _⟩ := hon.1.elim fun d h => h.at_.form
  obtain ⟨B4, c4, hB4, _⟩ := hon.2.elim fun d h => h.at_.form
  change u2 = .slice B2 a.ks.length c2 at hB2
  change v2 = .slice B4 a.cs.length c4 at hB4
  subst hB2 hB4
  clear cc x0 x1 x2 x3 x4
  have l2 := HL.out.below hb2 hsz0.out
  obtain ⟨z0, z1, z2, z3, z4⟩ := l2.tr
  simp only [Nat.zero_add] at z0 z1 z2 z3 z4
  have f0 := l2.free 0
  have f1 := l2.free 1
  have f2 := l2.free 2
  have f3 := l2.free 3
  have f4 := l2.free 4
  have HL2 := Lib.hid l2
  have HON := Lib.hid hon
  have HB := Lib.hid (below_join hb0 hb2)
  clear l2 hon hb2 hb0
  go_wp2_with fail
  obtain ⟨W6, hW6⟩ : ∃ W6, W6 = setCells w2 w.heap.size 0 [.int .i64 a.k, .int .i64 a.t, .slice B2 a.ks.length c2, .slice B4 a.cs.length c4, .bool a.h] := ⟨_, rfl⟩
  simp only [setCells] at hW6
  rw [← hW6]
  change W6 = setCells w2 w.heap.size 0 [.int .i64 a.k, .int .i64 a.t, .slice B2 a.ks.length c2, .slice B4 a.cs.length c4, .bool a.h] at hW6
  have q6 : Lies W6 w.heap.size 26 (a.cells (.slice B2 a.ks.length c2) (.slice B4 a.cs.length c4)) := by rw [hW6]; exact HL2.out.sets _ 0
  have hon6 : TrOn (fun k => w.heap.size < k) W6 (a, .slice B2 a.ks.length c2, .slice B4 a.cs.length c4) := HON.out.keep (by rw [hW6, setCells_size]; exact Nat.le_refl _) fun k hk hlt => ⟨by rw [hW6, setCells_other _ _ (by have := hsz0.out; omega)], by have := hsz0.out; omega⟩
  have hb6 : Below w.heap.size w W6 := by rw [hW6]; exact Below.sets (Nat.le_refl _) _ _ HB.out
  clear z0 z1 z2 z3 z4 f0 f1 f2 f3 f4 hW6
  go_ret
  exact ⟨_, _, rfl, q6.tr, hon6, hb6⟩
end Go.Proofs.Ytdcgfhenlddmeaa
