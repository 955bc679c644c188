/-
  package tree: Copy.
-/
import Derived.Test.YtdcgfhenlddmeaaTrlpM
import Derived.Test.YtdcgfhenlddmeaaTrltM
namespace Go.Proofs.Ytdcgfhenlddmeaa
open Go.RowKit Go.Sort
set_option maxHeartbeats 1600000

theorem Pr.sizes_of_size {a : Tr} {n : Nat} (h : Tr.size a ≤ n) : Pr.sizes a.cs ≤ n ∧ Tr.sizes a.ks ≤ n := by rw [Tr.size_at] at h; omega
theorem TrCell.lies {w : World} {g : Nat} {T : TypeId} {a : Tr} {u v : Value} (h : Lies w g T [.int .i64 a.k, .int .i64 a.t, u, v, .bool a.h]) : TrCell w ⟨g, 0, none⟩ a u v := Lies.tr h
set_option maxRecDepth 100000 in
theorem tcopy_at (d : Nat) : ∀ (a : Tr) (u v : Value) (w : World), TsAt d w u a.ks → PsSome w v a.cs → Tr.size a ≤ 1000 → Calls Try.prog 43 #[.agg #[.int .i64 a.k, .int .i64 a.t, u, v, .bool a.h]] w (NewTr d w a) := by
  induction d using Nat.strongRecOn with
  | ind d ih =>
  intro a u v w hu hv hsz
  obtain ⟨hsp, hst⟩ := Pr.sizes_of_size hsz
  obtain ⟨D, hv⟩ := hv
  obtain ⟨A, c, rfl, hl⟩ := hu.form
  obtain ⟨A', c', rfl, hl'⟩ := hv.form
  obtain ⟨W0, hW0⟩ : ∃ W0, W0 = (w.alloc (Obj.cells #[.int .i64 a.k, .int .i64 a.t, .slice A a.ks.length c, .slice A' a.cs.length c', .bool a.h] 26)).alloc (Obj.cells #[.int .i64 0, .int .i64 0, .slice none 0 0, .slice none 0 0, .bool false] 26) := ⟨_, rfl⟩
  obtain ⟨l0, l1, hb0⟩ := box_two (cs := a.cells (.slice A a.ks.length c) (.slice A' a.cs.length c')) (ds := [.int .i64 0, .int .i64 0, .slice none 0 0, .slice none 0 0, .bool false]) hW0
  have cs := teach_of d ih _ a.ks W0 (hu.below hb0 (Nat.le_refl _)) hst
  have HV := Lib.hid hv
  have HSP := Lib.hid hsp
  have HW := Lib.hid hW0
  have HP := Lib.hid l0
  have HQ := Lib.hid l1
  have hsz0 : W0.heap.size = w.heap.size + 1 + 1 := by rw [hW0, World.size_alloc, World.size_alloc]
  have x2 := l0.tr.c2
  clear hu hv hW0 l0 l1 ih hsz hsp hst
  go_enter Try.func43, Try.ntmps43
  go_upto_region 1 with (fail)
  rw [← HW.out]
  go_wp2_with fail
  refine cs.mono ?_
  rintro e w2 ⟨r, rfl, hin, hb2⟩
  obtain ⟨B2, c2, rfl, _⟩ := hin.on.at_.form
  clear cs x2
  have l2 := HP.out.below hb2 HP.out.lt
  have q2 := HQ.out.below hb2 HQ.out.lt
  have HIN := Lib.hid hin
  have x2 := l2.tr.c2
  have fr := l2.free 2
  have HL2 := Lib.hid l2
  have HQ2 := Lib.hid q2
  clear hin l2 q2
  go_upto_region 2 with (fail)
  obtain ⟨W3, hW3⟩ : ∃ W3, W3 = w2.setCell ⟨w.heap.size, 2, none⟩ (.slice B2 a.ks.length c2) := ⟨_, rfl⟩
  rw [← hW3]
  have l3 : Lies W3 w.heap.size 26 (a.cells (.slice B2 a.ks.length c2) (.slice A' a.cs.length c')) := by rw [hW3]; exact HL2.out.set 2 _
  have q3 : Lies W3 (w.heap.size + 1) 26 [.int .i64 0, .int .i64 0, .slice none 0 0, .slice none 0 0, .bool false] := by rw [hW3]; exact HQ2.out.far (by show w.heap.size + 1 ≠ w.heap.size; omega) _
  have hs3 : w2.heap.size = W3.heap.size := by rw [hW3]; simp [World.setCell]
  have hk3 : ∀ k, W0.heap.size ≤ k → W3.heap[k]? = w2.heap[k]? := fun k hk => by rw [hW3]; exact Below.heap_setCell _ _ _ _ (by show k ≠ w.heap.size; omega)
  have hin3 : TsTop W0.heap.size d W3 (.slice B2 a.ks.length c2) a.ks := HIN.out.keep (by omega) fun k hk _ => ⟨hk3 k hk, hk⟩
  have hb3 : Below w.heap.size w W3 := by rw [hW3]; exact (below_join hb0 hb2).setCell (Nat.le_refl _) _
  have cp := peach10_of D _ a.cs W3 (HV.out.below hb3 (Nat.le_refl _)) HSP.out
  have HIN3 := Lib.hid hin3
  have HB3 := Lib.hid hb3
  have HL3 := Lib.hid l3
  have HQ3 := Lib.hid q3
  have hle3 : W0.heap.size ≤ W3.heap.size := by have := hb2.size; omega
  have HSZ := Lib.hid (show w.heap.size + 1 < W3.heap.size ∧ w.heap.size + 1 < W0.heap.size ∧ W0.heap.size ≤ W3.heap.size from ⟨by omega, by omega, hle3⟩)
  have x3 := l3.tr.c3
  clear hW3 l3 q3 hin3 hb3 fr hb0 hb2 hsz0 hs3 hk3 x2 hle3
  go_wp2_with fail
  refine cp.mono ?_
  rintro e w4 ⟨r, rfl, hin, hb4⟩
  obtain ⟨B4, c4, rfl, _⟩ := hin.at_.form
  clear cp x3
  have l4 := HL3.out.below hb4 (by have := HSZ.out; omega)
  have q4 := HQ3.out.below hb4 HSZ.out.1
  have x3 := l4.tr.c3
  have fr := l4.free 3
  have HIN4 := Lib.hid hin
  have HL4 := Lib.hid l4
  have HQ4 := Lib.hid q4
  have HB4 := Lib.hid hb4
  clear hin l4 q4 hb4
  go_upto_region 3 with (fail)
  obtain ⟨W5, hW5⟩ : ∃ W5, W5 = w4.setCell ⟨w.heap.size, 3, none⟩ (.slice B4 a.cs.length c4) := ⟨_, rfl⟩
  rw [← hW5]
  have l5 : Lies W5 w.heap.size 26 (a.cells (.slice B2 a.ks.length c2) (.slice B4 a.cs.length c4)) := by rw [hW5]; exact HL4.out.set 3 _
  have q5 : Lies W5 (w.heap.size + 1) 26 [.int .i64 0, .int .i64 0, .slice none 0 0, .slice none 0 0, .bool false] := by rw [hW5]; exact HQ4.out.far (by show w.heap.size + 1 ≠ w.heap.size; omega) _
  have HW5 := Lib.hid hW5
  have HQ5 := Lib.hid q5
  obtain ⟨x0, x1, x2, x3, x4⟩ := l5.tr
  simp only [Nat.zero_add] at x0 x1 x2 x3 x4
  have z0 := q5.cell (i := 0) rfl
  have z1 := q5.cell (i := 1) rfl
  have z2 := q5.cell (i := 2) rfl
  have z3 := q5.cell (i := 3) rfl
  have z4 := q5.cell (i := 4) rfl
  have f0 := q5.free 0
  have f1 := q5.free 1
  have f2 := q5.free 2
  have f3 := q5.free 3
  have f4 := q5.free 4
  clear hW5 l5 q5 fr
  go_wp2_with fail
  obtain ⟨W6, hW6⟩ : ∃ W6, W6 = setCells W5 (w.heap.size + 1) 0 [.int .i64 a.k, .int .i64 a.t, .slice B2 a.ks.length c2, .slice B4 a.cs.length c4, .bool a.h] := ⟨_, rfl⟩
  simp only [setCells] at hW6
  rw [← hW6]
  change W6 = setCells W5 (w.heap.size + 1) 0 [.int .i64 a.k, .int .i64 a.t, .slice B2 a.ks.length c2, .slice B4 a.cs.length c4, .bool a.h] at hW6
  have q6 : Lies W6 (w.heap.size + 1) 26 (a.cells (.slice B2 a.ks.length c2) (.slice B4 a.cs.length c4)) := by rw [hW6]; exact HQ5.out.sets _ 0
  have hs6 : W6.heap.size = w4.heap.size := by rw [hW6, setCells_size, HW5.out]; simp [World.setCell]
  have hk6 : ∀ k, W0.heap.size ≤ k → W6.heap[k]? = w4.heap[k]? := fun k hk => by
    rw [hW6, setCells_other _ _ (by have := HSZ.out; omega), HW5.out]; exact Below.heap_setCell _ _ _ _ (by show k ≠ w.heap.size; have := HSZ.out; omega)
  have hin6 : TsTop w.heap.size d W6 (.slice B2 a.ks.length c2) a.ks := HIN3.out.keep (by have := HB4.out.size; omega) fun k hk hlt => ⟨(hk6 k hk).trans (HB4.out.block k hlt), by have := HSZ.out; omega⟩
  have hip6 : PsOn (fun k => w.heap.size ≤ k ∧ Apart (.slice B2 a.ks.length c2) k) D W6 (.slice B4 a.cs.length c4) a.cs := HIN4.out.keep (by omega) fun k hk hlt => ⟨hk6 k (by have := HSZ.out; omega), by have := HSZ.out; omega, HIN3.out.apart hk⟩
  have hb6 : Below w.heap.size w W6 := by rw [hW6, HW5.out]; exact Below.sets (by omega) _ _ ((below_join HB3.out HB4.out).setCell (Nat.le_refl _) _)
  clear z0 z1 z2 z3 z4 f0 f1 f2 f3 f4 x0 x1 x2 x3 x4 hW6
  obtain ⟨x0, x1, x2, x3, x4⟩ := q6.tr
  simp only [Nat.zero_add] at x0 x1 x2 x3 x4
  exact bodyPost_ret (v := .agg #[.int .i64 a.k, .int .i64 a.t, .slice B2 a.ks.length c2, .slice B4 a.cs.length c4, .bool a.h]) (by simp [results, Try.results43, go_sem, x0, x1, x2, x3, x4]) rfl ⟨_, _, rfl, hin6, ⟨D, hip6⟩, hb6⟩
/-- a copy: the row of its kids is its own, what hangs from it lies behind -/
theorem tcopy_top (a : Tr) (u v : Value) (w : World) (hu : ∃ d, TsAt d w u a.ks) (hv : PsSome w v a.cs) (hsz : Tr.size a ≤ 1000) :
    Calls Try.prog 43 #[.agg #[.int .i64 a.k, .int .i64 a.t, u, v, .bool a.h]] w fun e w' => ∃ d, NewTr d w a e w' := by
  obtain ⟨d, hu⟩ := hu
  exact (tcopy_at d a u v w hu hv hsz).mono fun e w' h => ⟨d, h⟩
/-- a copy, all of it new -/
theorem tcopy_any (a : Tr) (u v : Value) (w : World) (hu : ∃ d, TsAt d w u a.ks) (hv : PsSome w v a.cs) (hsz : Tr.size a ≤ 1000) :
    Calls Try.prog 43 #[.agg #[.int .i64 a.k, .int .i64 a.t, u, v, .bool a.h]] w fun e w' => ∃ u' v', e = .returned (.agg #[.int .i64 a.k, .int .i64 a.t, u', v', .bool a.h]) ∧ TrOn (fun k => w.heap.size ≤ k) w' (a, u', v') ∧ Below w.heap.size w w' := by
  obtain ⟨d, hu⟩ := hu
  exact (tcopy_at d a u v w hu hv hsz).mono fun e w' ⟨u', v', he, h1, h2, hb⟩ => ⟨u', v', he, ⟨⟨d, h1.on⟩, h2.elim fun D h => ⟨D, h.keep (Nat.le_refl _) fun k hk _ => ⟨rfl, hk.1⟩⟩⟩, hb⟩
end Go.Proofs.Ytdcgfhenlddmeaa
