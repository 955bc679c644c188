/-
  THE LAW's Two OF LAYER 10, and what is known of the trees that it makes.
-/
import Derived.Test.YtdcgfhenlddmeaaTriM
import Derived.Test.YtdcgfhenlddmeaaTrnM
import Derived.Test.YtdcgfhenlddmeaaTrpM
namespace Go.Proofs.Ytdcgfhenlddmeaa
open Go.RowKit Go.Sort
set_option maxHeartbeats 1600000

theorem TsOn.two {T : Nat → Prop} {w : World} {g : Nat} (ht : T g) (hg : g < w.heap.size) (t0 : TrCell w ⟨g, 0, none⟩ (leafTr 0) (.slice none 0 0) (.slice none 0 0)) (t1 : TrCell w ⟨g, 5, none⟩ (leafTr 1) (.slice none 0 0) (.slice none 0 0)) :
    TsOn T 2 w (.slice (some ⟨g, 0, none⟩) 2 2) [leafTr 0, leafTr 1] := by
  have hn : TsOn T 1 w (.slice none 0 0) [] := ⟨none, 0, rfl, by simp, fun j a h => by simp at h⟩
  have hp : ∃ e, PsOn T e w (.slice none 0 0) [] := ⟨0, rfl, none, 0, rfl⟩
  refine ⟨some ⟨g, 0, none⟩, 2, rfl, by simp, fun j a hj => ?_⟩
  match j, hj with
  | 0, hj =>
    cases hj
    exact ⟨g, 0, none, _, _, rfl, ht, hg, by simpa [Addr.add] using t0, hp, hn⟩
  | 1, hj =>
    cases hj
    exact ⟨g, 0, none, _, _, rfl, ht, hg, by simpa [Addr.add] using t1, hp, hn⟩
theorem PsOn.oneRow {T : Nat → Prop} {w : World} {g : Nat} {f : Pf} (ht : T g) (hg : g < w.heap.size) (h : PdCell w ⟨g, 0, none⟩ f (.slice none 0 0)) : PsOn T 1 w (.slice (some ⟨g, 0, none⟩) 1 1) [.mk f []] := by
  refine ⟨some ⟨g, 0, none⟩, 1, rfl, by simp, fun j p hj => ?_⟩
  match j, hj with
  | 0, hj =>
    cases hj
    exact ⟨g, 0, none, _, rfl, ht, hg, by rw [show (⟨g, 0, none⟩ : Addr).add (0 * 14) = ⟨g, 0, none⟩ by simp [Addr.add]]; exact h, rfl, none, 0, rfl⟩
theorem two_size (k : Int) : Tr.size (twoTr k) ≤ 1000 := by
  unfold twoTr leafTr eq01
  simp [Tr.size, Tr.sizes, Pr.sizes, Pr.size]
set_option maxRecDepth 100000 in
theorem two10_any (k : Int) (w : World) :
    Calls Try.prog 30 #[.int .i64 k] w
      fun e w' => ∃ u v, e = .returned (.agg #[.int .i64 k, .int .i64 0, u, v, .bool false]) ∧ TrHang w' (twoTr k, u, v) ∧ Below w.heap.size w w' := by
  obtain ⟨W0, hW0⟩ : ∃ W0, W0 = w.alloc (Obj.cells #[.int .i64 0, .int .i64 0, .slice none 0 0, .slice none 0 0, .bool false] 26) := ⟨_, rfl⟩
  obtain ⟨q0, hb0⟩ := box_one (cs := [.int .i64 0, .int .i64 0, .slice none 0 0, .slice none 0 0, .bool false]) hW0
  have HQ := Lib.hid q0
  have HW := Lib.hid hW0
  have hsz0 := Lib.hid (show w.heap.size < W0.heap.size by rw [hW0]; simp)
  clear hW0 q0
  go_enter Try.func30, Try.ntmps30
  go_wp2_with (go_at_call 41; refine (leaf10_any 0 _).mono ?_)
  rintro e w1 ⟨rfl, hb1⟩
  rw [← HW.out] at hb1
  go_wp2_with (go_at_call 41; refine (leaf10_any 1 _).mono ?_)
  rintro e w2 ⟨rfl, hb2⟩
  have hb02 := below_join hb1 hb2
  clear hb1 hb2
  go_wp2_with (go_at_call 42; refine (equal6_any 0 1 _).mono ?_)
  rintro e w3 ⟨rfl, hb3⟩
  have hb03 := below_join hb02 hb3
  clear hb02 hb3
  go_wp2_with (go_at_call 40; refine (on10_any k (leafTr 0, .slice none 0 0, .slice none 0 0) (leafTr 1, .slice none 0 0, .slice none 0 0) _ 1 1 _).mono ?_)
  obtain ⟨W4, hW4⟩ : ∃ W4, W4 = w3.alloc (Obj.cells #[.int .i64 2, .int .i64 0, .int .i64 1, .int .i64 1, .int .i64 0, .int .i64 0, .bool false, .int .i64 0, .int .i64 1, .int .i64 1, .int .i64 0, .bool false, .int .i64 0, .slice none 0 0] 49) := ⟨_, rfl⟩
  obtain ⟨lp, hb4⟩ := box_one (cs := [.int .i64 2, .int .i64 0, .int .i64 1, .int .i64 1, .int .i64 0, .int .i64 0, .bool false, .int .i64 0, .int .i64 1, .int .i64 1, .int .i64 0, .bool false, .int .i64 0, .slice none 0 0]) hW4
  rw [← hW4]
  have hps : PsOn (fun k => w.heap.size < k) 1 W4 (.slice (some ⟨w3.heap.size, 0, none⟩) 1 1) [eq01] := PsOn.oneRow (f := (⟨2, 0, 1, ⟨1, 0, 0, false, 0⟩, ⟨1, 1, 0, false, 0⟩⟩ : Pf)) (by have := hb03.size; have := hsz0.out; omega) lp.lt lp.pd
  have hb04 := below_join hb03 hb4
  have HP := Lib.hid hps
  have HB := Lib.hid hb04
  clear hb03 hps hb4 lp hW4 hb04
  rintro e w5 ⟨g, rfl, hg1, hg2, t0, t1, hb5⟩
  have hts := Lib.hid (TsOn.two (T := fun k => w.heap.size < k) (by have := HB.out.size; have := hsz0.out; omega) hg2 t0 t1)
  have hps5 := Lib.hid (HP.out.keep (T' := fun k => w.heap.size < k) hb5.size fun k hk hlt => ⟨hb5.block k hlt, hk⟩)
  have hb05 := below_join HB.out hb5
  have q5 := HQ.out.below hb05 hsz0.out
  have HB5 := Lib.hid (below_join hb0 hb05)
  have z0 := q5.cell (i := 0) rfl
  have z1 := q5.cell (i := 1) rfl
  have z2 := q5.cell (i := 2) rfl
  have z3 := q5.cell (i := 3) rfl
  have z4 := q5.cell (i := 4) rfl
  have f0 := q5.free 0
  have f1 := q5.free 1
  have f2 := q5.free 2
  have f3 := q5.free 3
  have f4 := q5.free 4
  have HQ5 := Lib.hid q5
  clear t0 t1 hb5 hg1 hg2 HP HB hb05 q5 hb0
  go_wp2_with fail
  obtain ⟨W6, hW6⟩ : ∃ W6, W6 = setCells w5 w.heap.size 0 [.int .i64 k, .int .i64 0, .slice (some ⟨g, 0, none⟩) 2 2, .slice (some ⟨w3.heap.size, 0, none⟩) 1 1, .bool false] := ⟨_, rfl⟩
  simp only [setCells] at hW6
  rw [← hW6]
  change W6 = setCells w5 w.heap.size 0 [.int .i64 k, .int .i64 0, .slice (some ⟨g, 0, none⟩) 2 2, .slice (some ⟨w3.heap.size, 0, none⟩) 1 1, .bool false] at hW6
  have q6 : Lies W6 w.heap.size 26 [.int .i64 k, .int .i64 0, .slice (some ⟨g, 0, none⟩) 2 2, .slice (some ⟨w3.heap.size, 0, none⟩) 1 1, .bool false] := by rw [hW6]; exact HQ5.out.sets _ 0
  have hs6 : W6.heap.size = w5.heap.size := by rw [hW6, setCells_size]
  have hk6 : ∀ k, w.heap.size < k → W6.heap[k]? = w5.heap[k]? := fun k hk => by rw [hW6, setCells_other _ _ (by omega)]
  have hang : TrHang W6 (twoTr k, .slice (some ⟨g, 0, none⟩) 2 2, .slice (some ⟨w3.heap.size, 0, none⟩) 1 1) :=
    TrOn.hang (T := fun k => w.heap.size < k) ⟨⟨2, hts.out.keep (by omega) fun k hk _ => ⟨hk6 k hk, hk⟩⟩, 1, hps5.out.keep (by omega) fun k hk _ => ⟨hk6 k hk, hk⟩⟩
  have hb6 : Below w.heap.size w W6 := by rw [hW6]; exact Below.sets (Nat.le_refl _) _ _ HB5.out
  have x0 := q6.cell (i := 0) rfl
  have x1 := q6.cell (i := 1) rfl
  have x2 := q6.cell (i := 2) rfl
  have x3 := q6.cell (i := 3) rfl
  have x4 := q6.cell (i := 4) rfl
  clear z0 z1 z2 z3 z4 f0 f1 f2 f3 f4 hW6
  exact bodyPost_ret (v := .agg #[.int .i64 k, .int .i64 0, .slice (some ⟨g, 0, none⟩) 2 2, .slice (some ⟨w3.heap.size, 0, none⟩) 1 1, .bool false]) (by simp [results, Try.results30, go_sem, x0, x1, x2, x3, x4]) rfl ⟨_, _, rfl, hang, hb6⟩
end Go.Proofs.Ytdcgfhenlddmeaa
