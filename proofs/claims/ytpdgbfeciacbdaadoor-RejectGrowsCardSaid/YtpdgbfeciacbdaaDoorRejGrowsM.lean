/-
  THE LAW RejectGrows, walked: one predicate more, appended to a copy of those that came in.
-/
import Derived.Test.YtpdgbfeciacbdaaDoorAwakeSevenM
import Derived.Test.YtpdgbfeciacbdaaDoorRejbM
import Derived.Test.YtpdgbfeciacbdaaDoorGOwn
import Derived.Test.YtpdgbfeciacbdaaDoorHeldM
import Derived.Deep.CutRange
namespace Go.Proofs.YtpdgbfeciacbdaaDoor
open Go.RowKit Go.Sort
set_option maxHeartbeats 6400000

theorem PsAt.in0 {d : Nat} : ∀ {w : World} {v : Value} {l : List Pd}, PsAt d w v l → PsIn 0 d w v l := by
  induction d with
  | zero => intro w v l h; exact h
  | succ d ih =>
    intro w v l h
    obtain ⟨A, c, hv, hc, hx⟩ := h
    refine ⟨A, c, hv, hc, fun j p hj => ?_⟩
    obtain ⟨b, o, s, u, hA, hlt, hcell, hp⟩ := hx j p hj
    exact ⟨b, o, s, u, hA, Nat.zero_le _, hlt, hcell, ih hp⟩
theorem pdCells_one {d : Nat} {w : World} {L : List (Pd × Value)} (h : ∀ x ∈ L, PsAt d w x.2 x.1.ps) : ∀ u ∈ pdCells L, u.oneCell' = true := by
  intro u hu
  unfold pdCells at hu
  obtain ⟨x, hx, hu⟩ := List.mem_flatMap.1 hu
  obtain ⟨A, c, e, _⟩ := (h x hx).form
  rw [e] at hu
  exact cells_one _ _ _ _ u hu
/-- a row of one's own, of predicates, read as predicates -/
theorem ps_row {d base n : Nat} {w : World} {v : Value} {L : List (Pd × Value)} (ho : w.ownsRow base 33 14 v n (pdCells L)) (hn : L.length = n) (hnl : n ≤ 9223372036854775807) (hx : ∀ x ∈ L, PsAt d w x.2 x.1.ps) :
    PsAt (d + 1) w v (L.map Prod.fst) := by
  rcases id ho.2 with ⟨hv, h0⟩ | ⟨g, cap, cur, hv, _⟩
  · obtain rfl : L = [] := List.eq_nil_of_length_eq_zero (by omega)
    rw [hv]
    exact PsAt.mono (d := 0) ⟨rfl, none, 0, rfl⟩ (Nat.zero_le _)
  · rw [hv] at ho ⊢
    exact (PsIn.row (lo := 0) ho hn hnl (Nat.zero_le _) (fun x h => (hx x h).in0)).at_
set_option maxRecDepth 100000 in
theorem rejgrows_any (d N M : Nat) (hN : N < 18446744073709551616) (hM : M < 18446744073709551616) (f : Pf) (v u : Value) (ls ps : List Pd) (w : World) (hl : PsCame d w v ls) (hreach : ls.length * 128 ≤ 140737488351232) (hp : PsAt d w u ps) (hWant : Want w) :
    Calls Tryd.prog 5 #[v, .agg #[.int .i64 f.k, .int .i64 f.u, .int .i64 f.o, .int .i64 f.a.k, .int .i64 f.a.t, .int .i64 f.a.c, .bool f.a.z, .int .i64 f.a.n, .int .i64 f.b.k, .int .i64 f.b.t, .int .i64 f.b.c, .bool f.b.z, .int .i64 f.b.n, u], .agg #[.int .u64 (N : Int), .int .u64 (M : Int)]] w fun e w' => e = .returned (.bool true) ∧ Below w.heap.size w w' := by
  obtain ⟨i0, hi, hz0, hz1, hz2⟩ := info_parts Tryd.infoPred
  obtain ⟨A1, c1, rfl, _⟩ := hp.form
  obtain ⟨_, L, hL, hLc, hLx⟩ := hl
  obtain ⟨W0, hW0⟩ : ∃ W0, W0 = (w.alloc (Obj.cells #[.int .i64 f.k, .int .i64 f.u, .int .i64 f.o, .int .i64 f.a.k, .int .i64 f.a.t, .int .i64 f.a.c, .bool f.a.z, .int .i64 f.a.n, .int .i64 f.b.k, .int .i64 f.b.t, .int .i64 f.b.c, .bool f.b.z, .int .i64 f.b.n, .slice A1 ps.length c1] 33)).alloc (Obj.cells #[.int .u64 (N : Int), .int .u64 (M : Int)] 43) := ⟨_, rfl⟩
  obtain ⟨l0, l1, hb0⟩ := box_two (cs := f.cells (.slice A1 ps.length c1)) (ds := [.int .u64 (N : Int), .int .u64 (M : Int)]) hW0
  have hp0 := hp.below hb0 (Nat.le_refl _)
  have hLc0 := hLc.below hb0 (Nat.le_refl _)
  have hLx0 : ∀ x ∈ L, PsAt d W0 x.2 x.1.ps := fun x h => (hLx x h).below hb0 (Nat.le_refl _)
  have hw0 := hWant.below hb0 (Nat.le_refl _)
  obtain ⟨n, hn⟩ : ∃ n, n = ls.length := ⟨_, rfl⟩
  have hLn : L.length = n := by rw [hn, ← hL, List.length_map]
  rw [← hn] at hreach hLc0
  have hform : ∃ A c, v = .slice A n c := by
    rcases hLc0 with ⟨h, h2, _⟩ | ⟨b, c, h, _⟩
    · exact ⟨none, 0, by rw [h, h2]⟩
    · exact ⟨some b, c, h⟩
  obtain ⟨A, c, rfl⟩ := hform
  have HW := Lib.hid hW0
  have HWN := Lib.hid hw0
  have HP0 := Lib.hid hp0
  have HLX := Lib.hid hLx0
  have HLC := Lib.hid hLc0
  have L0 := Lib.hid l0
  have L1 := Lib.hid l1
  have HLN := Lib.hid hLn
  have HLS := Lib.hid hL
  have HNN := Lib.hid hn
  have HB0 := Lib.hid hb0
  have HPS := Lib.hid (pdCells_one hLx0)
  have hsz0 : W0.heap.size = w.heap.size + 1 + 1 := by rw [hW0, World.size_alloc, World.size_alloc]
  have HSZ := Lib.hid hsz0
  have KK := Lib.hid (fun W (h : Below W0.heap.size W0 W) => keep14 l0.pd l0.lt h)
  clear hW0 hp hWant hp0 hLc0 hLx0 hw0 l0 l1 hLn hL hLc hLx hn hb0 hsz0
  go_enter Tryd.func5, Tryd.ntmps5
  go_upto_region 1 with (fail)
  rw [← HW.out]
  go_cut [7] from 10 to 15 (fun s wr => wr.ownsRow W0.heap.size 33 14 s (n + 1) (pdCells (L ++ [(Pd.mk f ps, .slice A1 ps.length c1)])) ∧ Below W0.heap.size W0 wr)
  case first =>
    refine wp_region_held_drew (S := (fun W => (W.cell? ⟨w.heap.size, 0, none⟩ = some (.int .i64 f.k) ∧ W.cell? ⟨w.heap.size, 1, none⟩ = some (.int .i64 f.u) ∧ W.cell? ⟨w.heap.size, 2, none⟩ = some (.int .i64 f.o) ∧ W.cell? ⟨w.heap.size, 3, none⟩ = some (.int .i64 f.a.k) ∧ W.cell? ⟨w.heap.size, 4, none⟩ = some (.int .i64 f.a.t) ∧ W.cell? ⟨w.heap.size, 5, none⟩ = some (.int .i64 f.a.c) ∧ W.cell? ⟨w.heap.size, 6, none⟩ = some (.bool f.a.z) ∧ W.cell? ⟨w.heap.size, 7, none⟩ = some (.int .i64 f.a.n) ∧ W.cell? ⟨w.heap.size, 8, none⟩ = some (.int .i64 f.b.k) ∧ W.cell? ⟨w.heap.size, 9, none⟩ = some (.int .i64 f.b.t) ∧ W.cell? ⟨w.heap.size, 10, none⟩ = some (.int .i64 f.b.c) ∧ W.cell? ⟨w.heap.size, 11, none⟩ = some (.bool f.b.z) ∧ W.cell? ⟨w.heap.size, 12, none⟩ = some (.int .i64 f.b.n) ∧ W.cell? ⟨w.heap.size, 13, none⟩ = some (.slice A1 ps.length c1)) ∧ Below W0.heap.size W0 W)) (by kernel_rfl) (by (try dsimp only); exact KK.out _ (Below.refl _ _).drew) (fun hHeld => ?_)
    refine any_norm (l' := Array.replicate 7 false) (m' := 7) (by kernel_rfl) (by kernel_rfl) ?_
    refine take_op (i := 1) (v := ?v4) rfl (by kernel_rfl) (by kernel_rfl) (by kernel_rfl) (fun _ _ _ h => h) (Or.inl ⟨by rfl, ?hy4⟩) (by assumption) ?rest4
    case hy4 => (intro w hSw; (try dsimp only at hSw); go_simp; try with_reducible rfl)
    try simp only [Act.put, List.setIfInBounds_toArray, List.set_cons_zero, List.set_cons_succ]
    refine take_op (i := 3) (v := ?v5) rfl (by kernel_rfl) (by kernel_rfl) (by kernel_rfl) (fun _ _ _ h => h) (Or.inl ⟨by rfl, ?hy5⟩) (by assumption) ?rest5
    case hy5 => (intro w hSw; (try dsimp only at hSw); go_simp; try with_reducible rfl)
    try simp only [Act.put, List.setIfInBounds_toArray, List.set_cons_zero, List.set_cons_succ]
    refine wpAnyH_ready (rs := [0, 4]) (by kernel_rfl) (by simp) ?_
    refine ready_op rfl (fun K hK => ?_) (ready_op rfl (fun K hK => ?_) AllReadyH.nil)
    · go_simp
      have bA : Below W0.heap.size W0 ((W0.alloc (Obj.cells #[] 33)).drew) := (below_new _ _).drew
      have oA : ((W0.alloc (Obj.cells #[] 33)).drew).ownsRow W0.heap.size 33 14 (.slice (some ⟨W0.heap.size, 0, none⟩) 0 0) 0 [] := own_empty W0 33 14 W0.heap.size (Nat.le_refl _) _ rfl
      refine hK.out _ _ (by (try dsimp only); (exact KK.out _ (by repeat first | assumption | refine Below.drew ?_ | refine below_alloc6 ?_ _))) (fun hHeld => ?_)
      clear hK K
      try simp only [List.setIfInBounds_toArray, List.set_cons_zero, List.set_cons_succ]
      refine wpAnyH_ready (rs := [2, 4]) (by kernel_rfl) (by simp) ?_
      refine ready_op rfl (fun K hK => ?_) (ready_op rfl (fun K hK => ?_) AllReadyH.nil)
      · rw [if_pos (by rfl)]
        refine wp_append_n _ _ _ 22 rfl W0.heap.size 33 i0 (.agg #[.int .i64 0, .int .i64 0, .int .i64 0, .int .i64 0, .int .i64 0, .int .i64 0, .bool false, .int .i64 0, .int .i64 0, .int .i64 0, .int .i64 0, .bool false, .int .i64 0, .slice none 0 0]) 14 128 Tryd.underlying22 hi hz0 hz1 hz2 rfl (by decide) _ 0 _ rfl oA _ n _ rfl ((HLC.out).below bA (Nat.le_refl _)) HPS.out (by unfold maxLen; omega) (by omega) bA.size ?_
        intro v12 w12 hown12 hgrow12
        have hb12 : Below W0.heap.size W0 w12 := bA.grown hgrow12 bA.size (fun k hk => (oA.lt k hk).1)
        replace hown12 : w12.ownsRow W0.heap.size 33 14 v12 n (pdCells L) := by simpa [pdCells] using hown12
        refine hK.out _ _ (by (try dsimp only); (exact KK.out _ (by repeat first | assumption | refine Below.drew ?_ | refine below_alloc6 ?_ _))) (fun hHeld => ?_)
        clear hK K
        try simp only [Act.put, List.setIfInBounds_toArray, List.set_cons_zero, List.set_cons_succ]
        refine wpAnyH_ready (rs := [4]) (by kernel_rfl) (by simp) ?_
        refine ready_op rfl (fun K hK => ?_) AllReadyH.nil
        go_simp
        have b14 : Below W0.heap.size W0 (w12.alloc (Obj.cells #[.int .i64 f.k, .int .i64 f.u, .int .i64 f.o, .int .i64 f.a.k, .int .i64 f.a.t, .int .i64 f.a.c, .bool f.a.z, .int .i64 f.a.n, .int .i64 f.b.k, .int .i64 f.b.t, .int .i64 f.b.c, .bool f.b.z, .int .i64 f.b.n, .slice A1 ps.length c1] 33)) := hb12.alloc hb12.size _
        have o14 := hown12.alloc (Obj.cells #[.int .i64 f.k, .int .i64 f.u, .int .i64 f.o, .int .i64 f.a.k, .int .i64 f.a.t, .int .i64 f.a.c, .bool f.a.z, .int .i64 f.a.n, .int .i64 f.b.k, .int .i64 f.b.t, .int .i64 f.b.c, .bool f.b.z, .int .i64 f.b.n, .slice A1 ps.length c1] 33)
        have hcm14 : CameN (w12.alloc (Obj.cells #[.int .i64 f.k, .int .i64 f.u, .int .i64 f.o, .int .i64 f.a.k, .int .i64 f.a.t, .int .i64 f.a.c, .bool f.a.z, .int .i64 f.a.n, .int .i64 f.b.k, .int .i64 f.b.t, .int .i64 f.b.c, .bool f.b.z, .int .i64 f.b.n, .slice A1 ps.length c1] 33)) 14 (.slice (some ⟨w12.heap.size, 0, none⟩) 1 1) 1 (f.cells (.slice A1 ps.length c1)) := CameN.new w12 33 14 1 (f.cells (.slice A1 ps.length c1)) _ rfl rfl
        refine hK.out _ _ (by (try dsimp only); (exact KK.out _ (by repeat first | assumption | refine Below.drew ?_ | refine below_alloc6 ?_ _))) (fun hHeld => ?_)
        clear hK K
        try simp only [List.setIfInBounds_toArray, List.set_cons_zero, List.set_cons_succ]
        refine wpAnyH_ready (rs := [5]) (by kernel_rfl) (by simp) ?_
        refine ready_op rfl (fun K hK => ?_) AllReadyH.nil
        rw [if_pos (by rfl)]
        refine wp_append_n _ _ _ 22 rfl W0.heap.size 33 i0 (.agg #[.int .i64 0, .int .i64 0, .int .i64 0, .int .i64 0, .int .i64 0, .int .i64 0, .bool false, .int .i64 0, .int .i64 0, .int .i64 0, .int .i64 0, .bool false, .int .i64 0, .slice none 0 0]) 14 128 Tryd.underlying22 hi hz0 hz1 hz2 rfl (by decide) _ n _ rfl o14 _ 1 _ rfl hcm14 (cells_one _ _ _ _) (by unfold maxLen; omega) (by omega) b14.size ?_
        intro v15 w15 hown15 hgrow15
        have hb15 : Below W0.heap.size W0 w15 := b14.grown hgrow15 b14.size (fun k hk => (o14.lt k hk).1)
        replace hown15 : w15.ownsRow W0.heap.size 33 14 v15 (n + 1) (pdCells (L ++ [(Pd.mk f ps, .slice A1 ps.length c1)])) := by
          have e : pdCells (L ++ [(Pd.mk f ps, Value.slice A1 ps.length c1)]) = pdCells L ++ (f.cells (.slice A1 ps.length c1)) := by simp [pdCells, Pd.f]
          rw [e]; exact hown15
        refine hK.out _ _ (by (try dsimp only); (exact KK.out _ (by repeat first | assumption | refine Below.drew ?_ | refine below_alloc6 ?_ _))) (fun hHeld => ?_)
        clear hK K
        try simp only [Act.put, List.setIfInBounds_toArray, List.set_cons_zero, List.set_cons_succ]
        refine take_op (i := 6) (v := ?v1) rfl (by kernel_rfl) (by kernel_rfl) (by kernel_rfl) (fun _ _ _ h => h) (Or.inl ⟨by rfl, ?hy1⟩) (by assumption) ?rest1
        case hy1 => (intro w hSw; (try dsimp only at hSw); go_simp; try with_reducible rfl)
        try simp only [Act.put, List.setIfInBounds_toArray, List.set_cons_zero, List.set_cons_succ]
        refine wpAnyH_done (by kernel_rfl) ?_ _
        go_wp2_with fail
        go_meet
        case rel => exact ⟨hown15, hb15⟩
      · go_simp
        have bA2 : Below W0.heap.size W0 (((W0.alloc (Obj.cells #[] 33)).alloc (Obj.cells #[.int .i64 f.k, .int .i64 f.u, .int .i64 f.o, .int .i64 f.a.k, .int .i64 f.a.t, .int .i64 f.a.c, .bool f.a.z, .int .i64 f.a.n, .int .i64 f.b.k, .int .i64 f.b.t, .int .i64 f.b.c, .bool f.b.z, .int .i64 f.b.n, .slice A1 ps.length c1] 33)).drew) := (below_new2 _ _ _).drew
        have oA2 : (((W0.alloc (Obj.cells #[] 33)).alloc (Obj.cells #[.int .i64 f.k, .int .i64 f.u, .int .i64 f.o, .int .i64 f.a.k, .int .i64 f.a.t, .int .i64 f.a.c, .bool f.a.z, .int .i64 f.a.n, .int .i64 f.b.k, .int .i64 f.b.t, .int .i64 f.b.c, .bool f.b.z, .int .i64 f.b.n, .slice A1 ps.length c1] 33)).drew).ownsRow W0.heap.size 33 14 (.slice (some ⟨W0.heap.size, 0, none⟩) 0 0) 0 [] := oA.alloc (Obj.cells #[.int .i64 f.k, .int .i64 f.u, .int .i64 f.o, .int .i64 f.a.k, .int .i64 f.a.t, .int .i64 f.a.c, .bool f.a.z, .int .i64 f.a.n, .int .i64 f.b.k, .int .i64 f.b.t, .int .i64 f.b.c, .bool f.b.z, .int .i64 f.b.n, .slice A1 ps.length c1] 33)
        have cA2 : CameN (((W0.alloc (Obj.cells #[] 33)).alloc (Obj.cells #[.int .i64 f.k, .int .i64 f.u, .int .i64 f.o, .int .i64 f.a.k, .int .i64 f.a.t, .int .i64 f.a.c, .bool f.a.z, .int .i64 f.a.n, .int .i64 f.b.k, .int .i64 f.b.t, .int .i64 f.b.c, .bool f.b.z, .int .i64 f.b.n, .slice A1 ps.length c1] 33)).drew) 14 (.slice (some ⟨W0.heap.size + 1, 0, none⟩) 1 1) 1 (f.cells (.slice A1 ps.length c1)) := CameN.new (W0.alloc (Obj.cells #[] 33)) 33 14 1 (f.cells (.slice A1 ps.length c1)) _ (by rw [World.size_alloc]) rfl
        refine hK.out _ _ (by (try dsimp only); (exact KK.out _ (by repeat first | assumption | refine Below.drew ?_ | refine below_alloc6 ?_ _))) (fun hHeld => ?_)
        clear hK K
        try simp only [List.setIfInBounds_toArray, List.set_cons_zero, List.set_cons_succ]
        refine wpAnyH_ready (rs := [2]) (by kernel_rfl) (by simp) ?_
        refine ready_op rfl (fun K hK => ?_) AllReadyH.nil
        rw [if_pos (by rfl)]
        refine wp_append_n _ _ _ 22 rfl W0.heap.size 33 i0 (.agg #[.int .i64 0, .int .i64 0, .int .i64 0, .int .i64 0, .int .i64 0, .int .i64 0, .bool false, .int .i64 0, .int .i64 0, .int .i64 0, .int .i64 0, .bool false, .int .i64 0, .slice none 0 0]) 14 128 Tryd.underlying22 hi hz0 hz1 hz2 rfl (by decide) _ 0 _ rfl oA2 _ n _ rfl ((HLC.out).below bA2 (Nat.le_refl _)) HPS.out (by unfold maxLen; omega) (by omega) bA2.size ?_
        intro v12 w12 hown12 hgrow12
        have hb12 : Below W0.heap.size W0 w12 := bA2.grown hgrow12 bA2.size (fun k hk => (oA2.lt k hk).1)
        replace hown12 : w12.ownsRow W0.heap.size 33 14 v12 n (pdCells L) := by simpa [pdCells] using hown12
        have hcm14 := cA2.grown hgrow12 (by show W0.heap.size + 1 ≠ W0.heap.size; omega)
        refine hK.out _ _ (by (try dsimp only); (exact KK.out _ (by repeat first | assumption | refine Below.drew ?_ | refine below_alloc6 ?_ _))) (fun hHeld => ?_)
        clear hK K
        try simp only [Act.put, List.setIfInBounds_toArray, List.set_cons_zero, List.set_cons_succ]
        refine wpAnyH_ready (rs := [5]) (by kernel_rfl) (by simp) ?_
        refine ready_op rfl (fun K hK => ?_) AllReadyH.nil
        rw [if_pos (by rfl)]
        refine wp_append_n _ _ _ 22 rfl W0.heap.size 33 i0 (.agg #[.int .i64 0, .int .i64 0, .int .i64 0, .int .i64 0, .int .i64 0, .int .i64 0, .bool false, .int .i64 0, .int .i64 0, .int .i64 0, .int .i64 0, .bool false, .int .i64 0, .slice none 0 0]) 14 128 Tryd.underlying22 hi hz0 hz1 hz2 rfl (by decide) _ n _ rfl hown12 _ 1 _ rfl hcm14 (cells_one _ _ _ _) (by unfold maxLen; omega) (by omega) hb12.size ?_
        intro v15 w15 hown15 hgrow15
        have hb15 : Below W0.heap.size W0 w15 := hb12.grown hgrow15 hb12.size (fun k hk => (hown12.lt k hk).1)
        replace hown15 : w15.ownsRow W0.heap.size 33 14 v15 (n + 1) (pdCells (L ++ [(Pd.mk f ps, .slice A1 ps.length c1)])) := by
          have e : pdCells (L ++ [(Pd.mk f ps, Value.slice A1 ps.length c1)]) = pdCells L ++ (f.cells (.slice A1 ps.length c1)) := by simp [pdCells, Pd.f]
          rw [e]; exact hown15
        refine hK.out _ _ (by (try dsimp only); (exact KK.out _ (by repeat first | assumption | refine Below.drew ?_ | refine below_alloc6 ?_ _))) (fun hHeld => ?_)
        clear hK K
        try simp only [Act.put, List.setIfInBounds_toArray, List.set_cons_zero, List.set_cons_succ]
        refine take_op (i := 6) (v := ?v2) rfl (by kernel_rfl) (by kernel_rfl) (by kernel_rfl) (fun _ _ _ h => h) (Or.inl ⟨by rfl, ?hy2⟩) (by assumption) ?rest2
        case hy2 => (intro w hSw; (try dsimp only at hSw); go_simp; try with_reducible rfl)
        try simp only [Act.put, List.setIfInBounds_toArray, List.set_cons_zero, List.set_cons_succ]
        refine wpAnyH_done (by kernel_rfl) ?_ _
        go_wp2_with fail
        go_meet
        case rel => exact ⟨hown15, hb15⟩
    · go_simp
      have bB : Below W0.heap.size W0 ((W0.alloc (Obj.cells #[.int .i64 f.k, .int .i64 f.u, .int .i64 f.o, .int .i64 f.a.k, .int .i64 f.a.t, .int .i64 f.a.c, .bool f.a.z, .int .i64 f.a.n, .int .i64 f.b.k, .int .i64 f.b.t, .int .i64 f.b.c, .bool f.b.z, .int .i64 f.b.n, .slice A1 ps.length c1] 33)).drew) := (below_new _ _).drew
      refine hK.out _ _ (by (try dsimp only); (exact KK.out _ (by repeat first | assumption | refine Below.drew ?_ | refine below_alloc6 ?_ _))) (fun hHeld => ?_)
      clear hK K
      try simp only [List.setIfInBounds_toArray, List.set_cons_zero, List.set_cons_succ]
      refine wpAnyH_ready (rs := [0]) (by kernel_rfl) (by simp) ?_
      refine ready_op rfl (fun K hK => ?_) AllReadyH.nil
      go_simp
      have bB2 : Below W0.heap.size W0 (((W0.alloc (Obj.cells #[.int .i64 f.k, .int .i64 f.u, .int .i64 f.o, .int .i64 f.a.k, .int .i64 f.a.t, .int .i64 f.a.c, .bool f.a.z, .int .i64 f.a.n, .int .i64 f.b.k, .int .i64 f.b.t, .int .i64 f.b.c, .bool f.b.z, .int .i64 f.b.n, .slice A1 ps.length c1] 33)).alloc (Obj.cells #[] 33)).drew) := (below_new2 _ _ _).drew
      have oB2 : (((W0.alloc (Obj.cells #[.int .i64 f.k, .int .i64 f.u, .int .i64 f.o, .int .i64 f.a.k, .int .i64 f.a.t, .int .i64 f.a.c, .bool f.a.z, .int .i64 f.a.n, .int .i64 f.b.k, .int .i64 f.b.t, .int .i64 f.b.c, .bool f.b.z, .int .i64 f.b.n, .slice A1 ps.length c1] 33)).alloc (Obj.cells #[] 33)).drew).ownsRow W0.heap.size 33 14 (.slice (some ⟨W0.heap.size + 1, 0, none⟩) 0 0) 0 [] := own_empty (W0.alloc (Obj.cells #[.int .i64 f.k, .int .i64 f.u, .int .i64 f.o, .int .i64 f.a.k, .int .i64 f.a.t, .int .i64 f.a.c, .bool f.a.z, .int .i64 f.a.n, .int .i64 f.b.k, .int .i64 f.b.t, .int .i64 f.b.c, .bool f.b.z, .int .i64 f.b.n, .slice A1 ps.length c1] 33)) 33 14 W0.heap.size (by rw [World.size_alloc]; omega) _ (by rw [World.size_alloc])
      have cB2 : CameN (((W0.alloc (Obj.cells #[.int .i64 f.k, .int .i64 f.u, .int .i64 f.o, .int .i64 f.a.k, .int .i64 f.a.t, .int .i64 f.a.c, .bool f.a.z, .int .i64 f.a.n, .int .i64 f.b.k, .int .i64 f.b.t, .int .i64 f.b.c, .bool f.b.z, .int .i64 f.b.n, .slice A1 ps.length c1] 33)).alloc (Obj.cells #[] 33)).drew) 14 (.slice (some ⟨W0.heap.size, 0, none⟩) 1 1) 1 (f.cells (.slice A1 ps.length c1)) := (CameN.new W0 33 14 1 (f.cells (.slice A1 ps.length c1)) _ rfl rfl).below (below_new _ _).drew (Nat.le_refl _)
      refine hK.out _ _ (by (try dsimp only); (exact KK.out _ (by repeat first | assumption | refine Below.drew ?_ | refine below_alloc6 ?_ _))) (fun hHeld => ?_)
      clear hK K
      try simp only [List.setIfInBounds_toArray, List.set_cons_zero, List.set_cons_succ]
      refine wpAnyH_ready (rs := [2]) (by kernel_rfl) (by simp) ?_
      refine ready_op rfl (fun K hK => ?_) AllReadyH.nil
      rw [if_pos (by rfl)]
      refine wp_append_n _ _ _ 22 rfl W0.heap.size 33 i0 (.agg #[.int .i64 0, .int .i64 0, .int .i64 0, .int .i64 0, .int .i64 0, .int .i64 0, .bool false, .int .i64 0, .int .i64 0, .int .i64 0, .int .i64 0, .bool false, .int .i64 0, .slice none 0 0]) 14 128 Tryd.underlying22 hi hz0 hz1 hz2 rfl (by decide) _ 0 _ rfl oB2 _ n _ rfl ((HLC.out).below bB2 (Nat.le_refl _)) HPS.out (by unfold maxLen; omega) (by omega) bB2.size ?_
      intro v12 w12 hown12 hgrow12
      have hb12 : Below W0.heap.size W0 w12 := bB2.grown hgrow12 bB2.size (fun k hk => (oB2.lt k hk).1)
      replace hown12 : w12.ownsRow W0.heap.size 33 14 v12 n (pdCells L) := by simpa [pdCells] using hown12
      have hcm14 := cB2.grown hgrow12 (by show W0.heap.size ≠ W0.heap.size + 1; omega)
      refine hK.out _ _ (by (try dsimp only); (exact KK.out _ (by repeat first | assumption | refine Below.drew ?_ | refine below_alloc6 ?_ _))) (fun hHeld => ?_)
      clear hK K
      try simp only [Act.put, List.setIfInBounds_toArray, List.set_cons_zero, List.set_cons_succ]
      refine wpAnyH_ready (rs := [5]) (by kernel_rfl) (by simp) ?_
      refine ready_op rfl (fun K hK => ?_) AllReadyH.nil
      rw [if_pos (by rfl)]
      refine wp_append_n _ _ _ 22 rfl W0.heap.size 33 i0 (.agg #[.int .i64 0, .int .i64 0, .int .i64 0, .int .i64 0, .int .i64 0, .int .i64 0, .bool false, .int .i64 0, .int .i64 0, .int .i64 0, .int .i64 0, .bool false, .int .i64 0, .slice none 0 0]) 14 128 Tryd.underlying22 hi hz0 hz1 hz2 rfl (by decide) _ n _ rfl hown12 _ 1 _ rfl hcm14 (cells_one _ _ _ _) (by unfold maxLen; omega) (by omega) hb12.size ?_
      intro v15 w15 hown15 hgrow15
      have hb15 : Below W0.heap.size W0 w15 := hb12.grown hgrow15 hb12.size (fun k hk => (hown12.lt k hk).1)
      replace hown15 : w15.ownsRow W0.heap.size 33 14 v15 (n + 1) (pdCells (L ++ [(Pd.mk f ps, .slice A1 ps.length c1)])) := by
        have e : pdCells (L ++ [(Pd.mk f ps, Value.slice A1 ps.length c1)]) = pdCells L ++ (f.cells (.slice A1 ps.length c1)) := by simp [pdCells, Pd.f]
        rw [e]; exact hown15
      refine hK.out _ _ (by (try dsimp only); (exact KK.out _ (by repeat first | assumption | refine Below.drew ?_ | refine below_alloc6 ?_ _))) (fun hHeld => ?_)
      clear hK K
      try simp only [Act.put, List.setIfInBounds_toArray, List.set_cons_zero, List.set_cons_succ]
      refine take_op (i := 6) (v := ?v3) rfl (by kernel_rfl) (by kernel_rfl) (by kernel_rfl) (fun _ _ _ h => h) (Or.inl ⟨by rfl, ?hy3⟩) (by assumption) ?rest3
      case hy3 => (intro w hSw; (try dsimp only at hSw); go_simp; try with_reducible rfl)
      try simp only [Act.put, List.setIfInBounds_toArray, List.set_cons_zero, List.set_cons_succ]
      refine wpAnyH_done (by kernel_rfl) ?_ _
      go_wp2_with fail
      go_meet
      case rel => exact ⟨hown15, hb15⟩
  obtain ⟨hown, hb1⟩ := hcut
  have hmore : PsAt (d + 1) wc u7 (ls ++ [Pd.mk f ps]) := by
    have h := ps_row (d := d) hown (by rw [List.length_append, HLN.out]; rfl) (by omega) (fun x hx => by
      rcases List.mem_append.1 hx with h | h
      · exact (HLX.out x h).below hb1 (Nat.le_refl _)
      · obtain rfl := List.mem_singleton.1 h
        exact HP0.out.below hb1 (Nat.le_refl _))
    rw [List.map_append, HLS.out] at h
    exact h
  have cf := few7_any (d + 1) u7 _ wc hmore
  obtain ⟨A7, c7, rfl, _⟩ := hmore.form
  have hlen : (ls ++ [Pd.mk f ps]).length = n + 1 := by rw [List.length_append, ← HNN.out]; rfl
  rw [hlen] at cf hmore ⊢
  obtain ⟨b, hb⟩ : ∃ b, b = Rj.few (ls ++ [Pd.mk f ps]) := ⟨_, rfl⟩
  rw [← hb] at cf
  have HB := Lib.hid hb
  have HM := Lib.hid hmore
  have HB1 := Lib.hid hb1
  clear hown hmore hlen hb
  go_wp2_with fail
  refine cf.mono ?_
  rintro e w2 ⟨rfl, hb2⟩
  have hb3 := below_join hb1 hb2
  have HB2 := Lib.hid hb2
  clear cf hb1 hb2
  cases b
  · have ca := awake7_any w2 (HWN.out.below hb3 (Nat.le_refl _))
    go_wp2_with fail
    refine ca.mono ?_
    rintro e w3 ⟨rfl, hb4⟩
    clear ca
    go_wp2_with fail
    go_ret
    exact ⟨rfl, below_join (below_join HB0.out hb3) hb4⟩
  obtain ⟨_, hsz⟩ := Rj.few_yes HB.out.symm
  rw [Pr.sizes_snoc, Pr.size] at hsz
  have HZ := Lib.hid hsz
  clear hsz
  have m0 := L1.out.below hb3 L1.out.lt
  have pk := (KK.out _ hb3).1
  obtain ⟨x0, x1, x2, x3, x4, x5, x6, x7, x8, x9, x10, x11, x12, x13⟩ := pk
  have n0 := m0.cell (i := 0) rfl
  have n1 := m0.cell (i := 1) rfl
  have cA := fun W (h : Below w2.heap.size w2 W) => rmay_any d N hN f _ ps W (HP0.out.below (below_join hb3 h) (Nat.le_refl _)) (by have := HZ.out; omega) (HWN.out.below (below_join hb3 h) (Nat.le_refl _))
  have cB := fun W (h : Below w2.heap.size w2 W) => rmay_any d (N ||| M) (Nat.or_lt_two_pow (n := 64) hN hM) f _ ps W (HP0.out.below (below_join hb3 h) (Nat.le_refl _)) (by have := HZ.out; omega) (HWN.out.below (below_join hb3 h) (Nat.le_refl _))
  have ho := u64_or_nat N M hN hM
  have hA := Rj.may_has N (.mk f ps)
  have hBh := Rj.may_has (N ||| M) (.mk f ps)
  generalize Rj.may N (.mk f ps) = mA at cA hA
  generalize Rj.may (N ||| M) (.mk f ps) = mB at cB hBh
  obtain ⟨a0, a1, a2⟩ := mA
  obtain ⟨k0, k1, k2⟩ := mB
  dsimp only at cA cB
  have HA := Lib.hid hA
  have HBH := Lib.hid hBh
  clear hA hBh
  have KK2 := Lib.hid (fun W (h : Below w2.heap.size w2 W) => (show ((W.cell? ⟨w.heap.size, 0, none⟩ = some (.int .i64 f.k) ∧ W.cell? ⟨w.heap.size, 1, none⟩ = some (.int .i64 f.u) ∧ W.cell? ⟨w.heap.size, 2, none⟩ = some (.int .i64 f.o) ∧ W.cell? ⟨w.heap.size, 3, none⟩ = some (.int .i64 f.a.k) ∧ W.cell? ⟨w.heap.size, 4, none⟩ = some (.int .i64 f.a.t) ∧ W.cell? ⟨w.heap.size, 5, none⟩ = some (.int .i64 f.a.c) ∧ W.cell? ⟨w.heap.size, 6, none⟩ = some (.bool f.a.z) ∧ W.cell? ⟨w.heap.size, 7, none⟩ = some (.int .i64 f.a.n) ∧ W.cell? ⟨w.heap.size, 8, none⟩ = some (.int .i64 f.b.k) ∧ W.cell? ⟨w.heap.size, 9, none⟩ = some (.int .i64 f.b.t) ∧ W.cell? ⟨w.heap.size, 10, none⟩ = some (.int .i64 f.b.c) ∧ W.cell? ⟨w.heap.size, 11, none⟩ = some (.bool f.b.z) ∧ W.cell? ⟨w.heap.size, 12, none⟩ = some (.int .i64 f.b.n) ∧ W.cell? ⟨w.heap.size, 13, none⟩ = some (.slice A1 ps.length c1)) ∧ (W.cell? ⟨w.heap.size + 1, 0, none⟩ = some (.int .u64 (N : Int)) ∧ W.cell? ⟨w.heap.size + 1, 1, none⟩ = some (.int .u64 (M : Int)))) ∧ Below w2.heap.size w2 W from ⟨⟨(KK.out _ (below_join hb3 h)).1, (m0.below h m0.lt).cell (i := 0) rfl, (m0.below h m0.lt).cell (i := 1) rfl⟩, h⟩))
  have CA := Lib.hid cA
  have CB := Lib.hid cB
  clear cA cB m0 n0 n1
  go_wp2_with fail
  clear x0 x1 x2 x3 x4 x5 x6 x7 x8 x9 x10 x11 x12 x13
  go_cut [8, 9] from 20 to 30 (fun s8 s9 wr => ∃ g8 g9, s8 = .pointer (some ⟨g8, 0, none⟩) ∧ s9 = .pointer (some ⟨g9, 0, none⟩) ∧ Lies wr g8 26 [.bool a0, .bool a1, .bool a2] ∧ Lies wr g9 26 [.bool k0, .bool k1, .bool k2] ∧ Below w2.heap.size w2 wr)
  case first =>
    refine wp_region_held_drew (S := (fun W => ((W.cell? ⟨w.heap.size, 0, none⟩ = some (.int .i64 f.k) ∧ W.cell? ⟨w.heap.size, 1, none⟩ = some (.int .i64 f.u) ∧ W.cell? ⟨w.heap.size, 2, none⟩ = some (.int .i64 f.o) ∧ W.cell? ⟨w.heap.size, 3, none⟩ = some (.int .i64 f.a.k) ∧ W.cell? ⟨w.heap.size, 4, none⟩ = some (.int .i64 f.a.t) ∧ W.cell? ⟨w.heap.size, 5, none⟩ = some (.int .i64 f.a.c) ∧ W.cell? ⟨w.heap.size, 6, none⟩ = some (.bool f.a.z) ∧ W.cell? ⟨w.heap.size, 7, none⟩ = some (.int .i64 f.a.n) ∧ W.cell? ⟨w.heap.size, 8, none⟩ = some (.int .i64 f.b.k) ∧ W.cell? ⟨w.heap.size, 9, none⟩ = some (.int .i64 f.b.t) ∧ W.cell? ⟨w.heap.size, 10, none⟩ = some (.int .i64 f.b.c) ∧ W.cell? ⟨w.heap.size, 11, none⟩ = some (.bool f.b.z) ∧ W.cell? ⟨w.heap.size, 12, none⟩ = some (.int .i64 f.b.n) ∧ W.cell? ⟨w.heap.size, 13, none⟩ = some (.slice A1 ps.length c1)) ∧ (W.cell? ⟨w.heap.size + 1, 0, none⟩ = some (.int .u64 (N : Int)) ∧ W.cell? ⟨w.heap.size + 1, 1, none⟩ = some (.int .u64 (M : Int)))) ∧ Below w2.heap.size w2 W)) (by kernel_rfl) (by (try dsimp only); exact KK2.out _ (Below.refl _ _).drew) (fun hHeld => ?_)
    have bX : Below w2.heap.size w2 w2.drew := (Below.refl _ _).drew
    generalize w2.drew = X at hHeld bX ⊢
    refine any_norm (l' := Array.replicate 15 false) (m' := 15) (by kernel_rfl) (by kernel_rfl) ?_
    refine cut_two (m := 2) (listed' := #[true, true, true, true, true, true, true, true, true, true, true, true, true, false, false]) (fun a W => ∃ (g8 g9 : Nat) (v20 v21 v22 v24 v25 v26 v27 v28 v29 : Value), a = ⟨#[.slice A n c, .agg #[.int .i64 f.k, .int .i64 f.u, .int .i64 f.o, .int .i64 f.a.k, .int .i64 f.a.t, .int .i64 f.a.c, .bool f.a.z, .int .i64 f.a.n, .int .i64 f.b.k, .int .i64 f.b.t, .int .i64 f.b.c, .bool f.b.z, .int .i64 f.b.n, .slice A1 ps.length c1], .agg #[.int .u64 (N : Int), .int .u64 (M : Int)], undef, .pointer (some ⟨w.heap.size, 0, none⟩), .pointer (some ⟨w.heap.size + 1, 0, none⟩), .bool false, .slice A7 (n + 1) c7, .pointer (some ⟨g8, 0, none⟩), .pointer (some ⟨g9, 0, none⟩), u10, u11, u12, u13, u14, u15, .slice A7 (n + 1) c7, .bool true, .bool false, undef, v20, v21, v22, .agg #[.bool a0, .bool a1, .bool a2], v24, v25, v26, v27, v28, v29, .agg #[.bool k0, .bool k1, .bool k2], undef, undef, undef, undef, undef, undef, undef, undef, undef, undef, undef, undef, undef, undef, undef, undef, undef, undef, undef, undef, undef, undef, undef, undef, undef, undef, undef, undef, undef, undef, undef, undef, undef, undef, undef, undef, undef, undef, undef, undef, undef, undef], []⟩ ∧ (((W.cell? ⟨w.heap.size, 0, none⟩ = some (.int .i64 f.k) ∧ W.cell? ⟨w.heap.size, 1, none⟩ = some (.int .i64 f.u) ∧ W.cell? ⟨w.heap.size, 2, none⟩ = some (.int .i64 f.o) ∧ W.cell? ⟨w.heap.size, 3, none⟩ = some (.int .i64 f.a.k) ∧ W.cell? ⟨w.heap.size, 4, none⟩ = some (.int .i64 f.a.t) ∧ W.cell? ⟨w.heap.size, 5, none⟩ = some (.int .i64 f.a.c) ∧ W.cell? ⟨w.heap.size, 6, none⟩ = some (.bool f.a.z) ∧ W.cell? ⟨w.heap.size, 7, none⟩ = some (.int .i64 f.a.n) ∧ W.cell? ⟨w.heap.size, 8, none⟩ = some (.int .i64 f.b.k) ∧ W.cell? ⟨w.heap.size, 9, none⟩ = some (.int .i64 f.b.t) ∧ W.cell? ⟨w.heap.size, 10, none⟩ = some (.int .i64 f.b.c) ∧ W.cell? ⟨w.heap.size, 11, none⟩ = some (.bool f.b.z) ∧ W.cell? ⟨w.heap.size, 12, none⟩ = some (.int .i64 f.b.n) ∧ W.cell? ⟨w.heap.size, 13, none⟩ = some (.slice A1 ps.length c1)) ∧ (W.cell? ⟨w.heap.size + 1, 0, none⟩ = some (.int .u64 (N : Int)) ∧ W.cell? ⟨w.heap.size + 1, 1, none⟩ = some (.int .u64 (M : Int)))) ∧ Below w2.heap.size w2 W) ∧ Lies W g8 26 [.bool false, .bool false, .bool false] ∧ Lies W g9 26 [.bool false, .bool false, .bool false] ∧ g8 ≠ g9 ∧ w2.heap.size ≤ g8 ∧ w2.heap.size ≤ g9) ?cutX ?fstX
    case fstX =>
      intro hmid
      refine take_op (i := 0) (v := ?v6) rfl (by kernel_rfl) (by kernel_rfl) (by kernel_rfl) (fun _ _ _ h => h) (Or.inl ⟨by rfl, ?hy6⟩) (by assumption) ?rest6
      case hy6 => (intro w hSw; (try dsimp only at hSw); go_simp; try with_reducible rfl)
      try simp only [Act.put, List.setIfInBounds_toArray, List.set_cons_zero, List.set_cons_succ]
      refine take_op (i := 1) (v := ?v7) rfl (by kernel_rfl) (by kernel_rfl) (by kernel_rfl) (fun _ _ _ h => h) (Or.inl ⟨by rfl, ?hy7⟩) (by assumption) ?rest7
      case hy7 => (intro w hSw; (try dsimp only at hSw); go_simp; try with_reducible rfl)
      try simp only [Act.put, List.setIfInBounds_toArray, List.set_cons_zero, List.set_cons_succ]
      refine take_op (i := 2) (v := ?v8) rfl (by kernel_rfl) (by kernel_rfl) (by kernel_rfl) (fun _ _ _ h => h) (Or.inl ⟨by rfl, ?hy8⟩) (by assumption) ?rest8
      case hy8 => (intro w hSw; (try dsimp only at hSw); go_simp; try with_reducible rfl)
      try simp only [Act.put, List.setIfInBounds_toArray, List.set_cons_zero, List.set_cons_succ]
      refine take_op (i := 4) (v := ?v9) rfl (by kernel_rfl) (by kernel_rfl) (by kernel_rfl) (fun _ _ _ h => h) (Or.inl ⟨by rfl, ?hy9⟩) (by assumption) ?rest9
      case hy9 => (intro w hSw; (try dsimp only at hSw); go_simp; try with_reducible rfl)
      try simp only [Act.put, List.setIfInBounds_toArray, List.set_cons_zero, List.set_cons_succ]
      refine take_op (i := 5) (v := ?v10) rfl (by kernel_rfl) (by kernel_rfl) (by kernel_rfl) (fun _ _ _ h => h) (Or.inl ⟨by rfl, ?hy10⟩) (by assumption) ?rest10
      case hy10 => (intro w hSw; (try dsimp only at hSw); go_simp; try with_reducible rfl)
      try simp only [Act.put, List.setIfInBounds_toArray, List.set_cons_zero, List.set_cons_succ]
      refine take_op (i := 6) (v := ?v11) rfl (by kernel_rfl) (by kernel_rfl) (by kernel_rfl) (fun _ _ _ h => h) (Or.inl ⟨by rfl, ?hy11⟩) (by assumption) ?rest11
      case hy11 => (intro w hSw; (try dsimp only at hSw); go_simp; try with_reducible rfl)
      try simp only [Act.put, List.setIfInBounds_toArray, List.set_cons_zero, List.set_cons_succ]
      refine take_op (i := 7) (v := ?v12) rfl (by kernel_rfl) (by kernel_rfl) (by kernel_rfl) (fun _ _ _ h => h) (Or.inl ⟨by rfl, ?hy12⟩) (by assumption) ?rest12
      case hy12 => (intro w hSw; (try dsimp only at hSw); go_simp; try with_reducible rfl)
      try simp only [Act.put, List.setIfInBounds_toArray, List.set_cons_zero, List.set_cons_succ]
      refine take_op (i := 8) (v := ?v13) rfl (by kernel_rfl) (by kernel_rfl) (by kernel_rfl) (fun _ _ _ h => h) (Or.inl ⟨by rfl, ?hy13⟩) (by assumption) ?rest13
      case hy13 => (intro w hSw; (try dsimp only at hSw); go_simp; try with_reducible rfl)
      try simp only [Act.put, List.setIfInBounds_toArray, List.set_cons_zero, List.set_cons_succ]
      refine take_op (i := 9) (v := ?v14) rfl (by kernel_rfl) (by kernel_rfl) (by kernel_rfl) (fun _ _ _ h => h) (Or.inl ⟨by rfl, ?hy14⟩) (by assumption) ?rest14
      case hy14 => (intro w hSw; (try dsimp only at hSw); go_simp; try with_reducible rfl)
      try simp only [Act.put, List.setIfInBounds_toArray, List.set_cons_zero, List.set_cons_succ]
      refine wpAnyH_ready (rs := [3, 11, 12]) (by kernel_rfl) (by simp) ?_
      refine ready_op rfl (fun K hK => ?_) (ready_op rfl (fun K hK => ?_) (ready_op rfl (fun K hK => ?_) AllReadyH.nil))
      · go_simp
        refine (CA.out _ bX).mono ?_
        rintro e Y1 ⟨rfl, hxy⟩
        try dsimp only
        have bY1 := below_join bX hxy
        refine hK.out _ _ (by (try dsimp only); (exact KK2.out _ (by assumption))) (fun hHeld => ?_)
        clear hK K
        try simp only [List.setIfInBounds_toArray, List.set_cons_zero, List.set_cons_succ]
        refine wpAnyH_ready (rs := [10, 11, 12]) (by kernel_rfl) (by simp) ?_
        refine ready_op rfl (fun K hK => ?_) (ready_op rfl (fun K hK => ?_) (ready_op rfl (fun K hK => ?_) AllReadyH.nil))
        · go_simp
          refine (CB.out _ bY1).mono ?_
          rintro e Y2 ⟨rfl, hxy⟩
          try dsimp only
          have bY2 := below_join bY1 hxy
          refine hK.out _ _ (by (try dsimp only); (exact KK2.out _ (by assumption))) (fun hHeld => ?_)
          clear hK K
          try simp only [List.setIfInBounds_toArray, List.set_cons_zero, List.set_cons_succ]
          refine wpAnyH_ready (rs := [11, 12]) (by kernel_rfl) (by simp) ?_
          refine ready_op rfl (fun K hK => ?_) (ready_op rfl (fun K hK => ?_) AllReadyH.nil)
          · go_simp
            obtain ⟨Y3, hY⟩ : ∃ Y, Y = Y2.alloc (Obj.cells #[.bool false, .bool false, .bool false] 26) := ⟨_, rfl⟩
            obtain ⟨g8, hg8⟩ : ∃ g, g = Y2.heap.size := ⟨_, rfl⟩
            have bY3 : Below w2.heap.size w2 Y3 := by rw [hY]; exact bY2.alloc bY2.size _
            have l8 : Lies Y3 g8 26 [.bool false, .bool false, .bool false] := by rw [hY, hg8]; exact Lies.new _ _ _
            have hge8 : w2.heap.size ≤ g8 := by rw [hg8]; exact bY2.size
            rw [← hY, ← hg8]
            clear hY
            refine hK.out _ _ (by (try dsimp only); (exact KK2.out _ (by assumption))) (fun hHeld => ?_)
            clear hK K
            try simp only [List.setIfInBounds_toArray, List.set_cons_zero, List.set_cons_succ]
            refine wpAnyH_ready (rs := [12]) (by kernel_rfl) (by simp) ?_
            refine ready_op rfl (fun K hK => ?_) AllReadyH.nil
            · go_simp
              obtain ⟨Y4, hY⟩ : ∃ Y, Y = Y3.alloc (Obj.cells #[.bool false, .bool false, .bool false] 26) := ⟨_, rfl⟩
              obtain ⟨g9, hg9⟩ : ∃ g, g = Y3.heap.size := ⟨_, rfl⟩
              have bY4 : Below w2.heap.size w2 Y4 := by rw [hY]; exact bY3.alloc bY3.size _
              have l9 : Lies Y4 g9 26 [.bool false, .bool false, .bool false] := by rw [hY, hg9]; exact Lies.new _ _ _
              have hlt8 := l8.lt
              replace l8 : Lies Y4 g8 26 [.bool false, .bool false, .bool false] := by rw [hY]; exact l8.alloc _
              have hge9 : w2.heap.size ≤ g9 := by rw [hg9]; exact bY3.size
              rw [← hY, ← hg9]
              clear hY
              refine hK.out _ _ (by (try dsimp only); (exact KK2.out _ (by assumption))) (fun hHeld => ?_)
              clear hK K
              try simp only [List.setIfInBounds_toArray, List.set_cons_zero, List.set_cons_succ]
              try rw [← hg8]
              try rw [← hg9]
              exact any_norm (by kernel_rfl) (by kernel_rfl) (hmid _ _ ⟨g8, g9, _, _, _, _, _, _, _, _, _, rfl, by assumption, l8, l9, by omega, by omega, by omega⟩)
          · go_simp
            obtain ⟨Y5, hY⟩ : ∃ Y, Y = Y2.alloc (Obj.cells #[.bool false, .bool false, .bool false] 26) := ⟨_, rfl⟩
            obtain ⟨g9, hg9⟩ : ∃ g, g = Y2.heap.size := ⟨_, rfl⟩
            have bY5 : Below w2.heap.size w2 Y5 := by rw [hY]; exact bY2.alloc bY2.size _
            have l9 : Lies Y5 g9 26 [.bool false, .bool false, .bool false] := by rw [hY, hg9]; exact Lies.new _ _ _
            have hge9 : w2.heap.size ≤ g9 := by rw [hg9]; exact bY2.size
            rw [← hY, ← hg9]
            clear hY
            refine hK.out _ _ (by (try dsimp only); (exact KK2.out _ (by assumption))) (fun hHeld => ?_)
            clear hK K
            try simp only [List.setIfInBounds_toArray, List.set_cons_zero, List.set_cons_succ]
            refine wpAnyH_ready (rs := [11]) (by kernel_rfl) (by simp) ?_
            refine ready_op rfl (fun K hK => ?_) AllReadyH.nil
            · go_simp
              obtain ⟨Y6, hY⟩ : ∃ Y, Y = Y5.alloc (Obj.cells #[.bool false, .bool false, .bool false] 26) := ⟨_, rfl⟩
              obtain ⟨g8, hg8⟩ : ∃ g, g = Y5.heap.size := ⟨_, rfl⟩
              have bY6 : Below w2.heap.size w2 Y6 := by rw [hY]; exact bY5.alloc bY5.size _
              have l8 : Lies Y6 g8 26 [.bool false, .bool false, .bool false] := by rw [hY, hg8]; exact Lies.new _ _ _
              have hlt9 := l9.lt
              replace l9 : Lies Y6 g9 26 [.bool false, .bool false, .bool false] := by rw [hY]; exact l9.alloc _
              have hge8 : w2.heap.size ≤ g8 := by rw [hg8]; exact bY5.size
              rw [← hY, ← hg8]
              clear hY
              refine hK.out _ _ (by (try dsimp only); (exact KK2.out _ (by assumption))) (fun hHeld => ?_)
              clear hK K
              try simp only [List.setIfInBounds_toArray, List.set_cons_zero, List.set_cons_succ]
              try rw [← hg8]
              try rw [← hg9]
              exact any_norm (by kernel_rfl) (by kernel_rfl) (hmid _ _ ⟨g8, g9, _, _, _, _, _, _, _, _, _, rfl, by assumption, l8, l9, by omega, by omega, by omega⟩)
        · go_simp
          obtain ⟨Y7, hY⟩ : ∃ Y, Y = Y1.alloc (Obj.cells #[.bool false, .bool false, .bool false] 26) := ⟨_, rfl⟩
          obtain ⟨g8, hg8⟩ : ∃ g, g = Y1.heap.size := ⟨_, rfl⟩
          have bY7 : Below w2.heap.size w2 Y7 := by rw [hY]; exact bY1.alloc bY1.size _
          have l8 : Lies Y7 g8 26 [.bool false, .bool false, .bool false] := by rw [hY, hg8]; exact Lies.new _ _ _
          have hge8 : w2.heap.size ≤ g8 := by rw [hg8]; exact bY1.size
          rw [← hY, ← hg8]
          clear hY
          refine hK.out _ _ (by (try dsimp only); (exact KK2.out _ (by assumption))) (fun hHeld => ?_)
          clear hK K
          try simp only [List.setIfInBounds_toArray, List.set_cons_zero, List.set_cons_succ]
          refine wpAnyH_ready (rs := [10, 12]) (by kernel_rfl) (by simp) ?_
          refine ready_op rfl (fun K hK => ?_) (ready_op rfl (fun K hK => ?_) AllReadyH.nil)
          · go_simp
            refine (CB.out _ bY7).mono ?_
            rintro e Y8 ⟨rfl, hxy⟩
            try dsimp only
            have bY8 := below_join bY7 hxy
            replace l8 := l8.below hxy l8.lt
            refine hK.out _ _ (by (try dsimp only); (exact KK2.out _ (by assumption))) (fun hHeld => ?_)
            clear hK K
            try simp only [List.setIfInBounds_toArray, List.set_cons_zero, List.set_cons_succ]
            refine wpAnyH_ready (rs := [12]) (by kernel_rfl) (by simp) ?_
            refine ready_op rfl (fun K hK => ?_) AllReadyH.nil
            · go_simp
              obtain ⟨Y9, hY⟩ : ∃ Y, Y = Y8.alloc (Obj.cells #[.bool false, .bool false, .bool false] 26) := ⟨_, rfl⟩
              obtain ⟨g9, hg9⟩ : ∃ g, g = Y8.heap.size := ⟨_, rfl⟩
              have bY9 : Below w2.heap.size w2 Y9 := by rw [hY]; exact bY8.alloc bY8.size _
              have l9 : Lies Y9 g9 26 [.bool false, .bool false, .bool false] := by rw [hY, hg9]; exact Lies.new _ _ _
              have hlt8 := l8.lt
              replace l8 : Lies Y9 g8 26 [.bool false, .bool false, .bool false] := by rw [hY]; exact l8.alloc _
              have hge9 : w2.heap.size ≤ g9 := by rw [hg9]; exact bY8.size
              rw [← hY, ← hg9]
              clear hY
              refine hK.out _ _ (by (try dsimp only); (exact KK2.out _ (by assumption))) (fun hHeld => ?_)
              clear hK K
              try simp only [List.setIfInBounds_toArray, List.set_cons_zero, List.set_cons_succ]
              try rw [← hg8]
              try rw [← hg9]
              exact any_norm (by kernel_rfl) (by kernel_rfl) (hmid _ _ ⟨g8, g9, _, _, _, _, _, _, _, _, _, rfl, by assumption, l8, l9, by omega, by omega, by omega⟩)
          · go_simp
            obtain ⟨Y10, hY⟩ : ∃ Y, Y = Y7.alloc (Obj.cells #[.bool false, .bool false, .bool false] 26) := ⟨_, rfl⟩
            obtain ⟨g9, hg9⟩ : ∃ g, g = Y7.heap.size := ⟨_, rfl⟩
            have bY10 : Below w2.heap.size w2 Y10 := by rw [hY]; exact bY7.alloc bY7.size _
            have l9 : Lies Y10 g9 26 [.bool false, .bool false, .bool false] := by rw [hY, hg9]; exact Lies.new _ _ _
            have hlt8 := l8.lt
            replace l8 : Lies Y10 g8 26 [.bool false, .bool false, .bool false] := by rw [hY]; exact l8.alloc _
            have hge9 : w2.heap.size ≤ g9 := by rw [hg9]; exact bY7.size
            rw [← hY, ← hg9]
            clear hY
            refine hK.out _ _ (by (try dsimp only); (exact KK2.out _ (by assumption))) (fun hHeld => ?_)
            clear hK K
            try simp only [List.setIfInBounds_toArray, List.set_cons_zero, List.set_cons_succ]
            refine wpAnyH_ready (rs := [10]) (by kernel_rfl) (by simp) ?_
            refine ready_op rfl (fun K hK => ?_) AllReadyH.nil
            · go_simp
              refine (CB.out _ bY10).mono ?_
              rintro e Y11 ⟨rfl, hxy⟩
              try dsimp only
              have bY11 := below_join bY10 hxy
              replace l8 := l8.below hxy l8.lt
              replace l9 := l9.below hxy l9.lt
              refine hK.out _ _ (by (try dsimp only); (exact KK2.out _ (by assumption))) (fun hHeld => ?_)
              clear hK K
              try simp only [List.setIfInBounds_toArray, List.set_cons_zero, List.set_cons_succ]
              try rw [← hg8]
              try rw [← hg9]
              exact any_norm (by kernel_rfl) (by kernel_rfl) (hmid _ _ ⟨g8, g9, _, _, _, _, _, _, _, _, _, rfl, by assumption, l8, l9, by omega, by omega, by omega⟩)
        · go_simp
          obtain ⟨Y12, hY⟩ : ∃ Y, Y = Y1.alloc (Obj.cells #[.bool false, .bool false, .bool false] 26) := ⟨_, rfl⟩
          obtain ⟨g9, hg9⟩ : ∃ g, g = Y1.heap.size := ⟨_, rfl⟩
          have bY12 : Below w2.heap.size w2 Y12 := by rw [hY]; exact bY1.alloc bY1.size _
          have l9 : Lies Y12 g9 26 [.bool false, .bool false, .bool false] := by rw [hY, hg9]; exact Lies.new _ _ _
          have hge9 : w2.heap.size ≤ g9 := by rw [hg9]; exact bY1.size
          rw [← hY, ← hg9]
          clear hY
          refine hK.out _ _ (by (try dsimp only); (exact KK2.out _ (by assumption))) (fun hHeld => ?_)
          clear hK K
          try simp only [List.setIfInBounds_toArray, List.set_cons_zero, List.set_cons_succ]
          refine wpAnyH_ready (rs := [10, 11]) (by kernel_rfl) (by simp) ?_
          refine ready_op rfl (fun K hK => ?_) (ready_op rfl (fun K hK => ?_) AllReadyH.nil)
          · go_simp
            refine (CB.out _ bY12).mono ?_
            rintro e Y13 ⟨rfl, hxy⟩
            try dsimp only
            have bY13 := below_join bY12 hxy
            replace l9 := l9.below hxy l9.lt
            refine hK.out _ _ (by (try dsimp only); (exact KK2.out _ (by assumption))) (fun hHeld => ?_)
            clear hK K
            try simp only [List.setIfInBounds_toArray, List.set_cons_zero, List.set_cons_succ]
            refine wpAnyH_ready (rs := [11]) (by kernel_rfl) (by simp) ?_
            refine ready_op rfl (fun K hK => ?_) AllReadyH.nil
            · go_simp
              obtain ⟨Y14, hY⟩ : ∃ Y, Y = Y13.alloc (Obj.cells #[.bool false, .bool false, .bool false] 26) := ⟨_, rfl⟩
              obtain ⟨g8, hg8⟩ : ∃ g, g = Y13.heap.size := ⟨_, rfl⟩
              have bY14 : Below w2.heap.size w2 Y14 := by rw [hY]; exact bY13.alloc bY13.size _
              have l8 : Lies Y14 g8 26 [.bool false, .bool false, .bool false] := by rw [hY, hg8]; exact Lies.new _ _ _
              have hlt9 := l9.lt
              replace l9 : Lies Y14 g9 26 [.bool false, .bool false, .bool false] := by rw [hY]; exact l9.alloc _
              have hge8 : w2.heap.size ≤ g8 := by rw [hg8]; exact bY13.size
              rw [← hY, ← hg8]
              clear hY
              refine hK.out _ _ (by (try dsimp only); (exact KK2.out _ (by assumption))) (fun hHeld => ?_)
              clear hK K
              try simp only [List.setIfInBounds_toArray, List.set_cons_zero, List.set_cons_succ]
              try rw [← hg8]
              try rw [← hg9]
              exact any_norm (by kernel_rfl) (by kernel_rfl) (hmid _ _ ⟨g8, g9, _, _, _, _, _, _, _, _, _, rfl, by assumption, l8, l9, by omega, by omega, by omega⟩)
          · go_simp
            obtain ⟨Y15, hY⟩ : ∃ Y, Y = Y12.alloc (Obj.cells #[.bool false, .bool false, .bool false] 26) := ⟨_, rfl⟩
            obtain ⟨g8, hg8⟩ : ∃ g, g = Y12.heap.size := ⟨_, rfl⟩
            have bY15 : Below w2.heap.size w2 Y15 := by rw [hY]; exact bY12.alloc bY12.size _
            have l8 : Lies Y15 g8 26 [.bool false, .bool false, .bool false] := by rw [hY, hg8]; exact Lies.new _ _ _
            have hlt9 := l9.lt
            replace l9 : Lies Y15 g9 26 [.bool false, .bool false, .bool false] := by rw [hY]; exact l9.alloc _
            have hge8 : w2.heap.size ≤ g8 := by rw [hg8]; exact bY12.size
            rw [← hY, ← hg8]
            clear hY
            refine hK.out _ _ (by (try dsimp only); (exact KK2.out _ (by assumption))) (fun hHeld => ?_)
            clear hK K
            try simp only [List.setIfInBounds_toArray, List.set_cons_zero, List.set_cons_succ]
            refine wpAnyH_ready (rs := [10]) (by kernel_rfl) (by simp) ?_
            refine ready_op rfl (fun K hK => ?_) AllReadyH.nil
            · go_simp
              refine (CB.out _ bY15).mono ?_
              rintro e Y16 ⟨rfl, hxy⟩
              try dsimp only
              have bY16 := below_join bY15 hxy
              replace l8 := l8.below hxy l8.lt
              replace l9 := l9.below hxy l9.lt
              refine hK.out _ _ (by (try dsimp only); (exact KK2.out _ (by assumption))) (fun hHeld => ?_)
              clear hK K
              try simp only [List.setIfInBounds_toArray, List.set_cons_zero, List.set_cons_succ]
              try rw [← hg8]
              try rw [← hg9]
              exact any_norm (by kernel_rfl) (by kernel_rfl) (hmid _ _ ⟨g8, g9, _, _, _, _, _, _, _, _, _, rfl, by assumption, l8, l9, by omega, by omega, by omega⟩)
      · go_simp
        obtain ⟨Y17, hY⟩ : ∃ Y, Y = X.alloc (Obj.cells #[.bool false, .bool false, .bool false] 26) := ⟨_, rfl⟩
        obtain ⟨g8, hg8⟩ : ∃ g, g = X.heap.size := ⟨_, rfl⟩
        have bY17 : Below w2.heap.size w2 Y17 := by rw [hY]; exact bX.alloc bX.size _
        have l8 : Lies Y17 g8 26 [.bool false, .bool false, .bool false] := by rw [hY, hg8]; exact Lies.new _ _ _
        have hge8 : w2.heap.size ≤ g8 := by rw [hg8]; exact bX.size
        rw [← hY, ← hg8]
        clear hY
        refine hK.out _ _ (by (try dsimp only); (exact KK2.out _ (by assumption))) (fun hHeld => ?_)
        clear hK K
        try simp only [List.setIfInBounds_toArray, List.set_cons_zero, List.set_cons_succ]
        refine wpAnyH_ready (rs := [3, 12]) (by kernel_rfl) (by simp) ?_
        refine ready_op rfl (fun K hK => ?_) (ready_op rfl (fun K hK => ?_) AllReadyH.nil)
        · go_simp
          refine (CA.out _ bY17).mono ?_
          rintro e Y18 ⟨rfl, hxy⟩
          try dsimp only
          have bY18 := below_join bY17 hxy
          replace l8 := l8.below hxy l8.lt
          refine hK.out _ _ (by (try dsimp only); (exact KK2.out _ (by assumption))) (fun hHeld => ?_)
          clear hK K
          try simp only [List.setIfInBounds_toArray, List.set_cons_zero, List.set_cons_succ]
          refine wpAnyH_ready (rs := [10, 12]) (by kernel_rfl) (by simp) ?_
          refine ready_op rfl (fun K hK => ?_) (ready_op rfl (fun K hK => ?_) AllReadyH.nil)
          · go_simp
            refine (CB.out _ bY18).mono ?_
            rintro e Y19 ⟨rfl, hxy⟩
            try dsimp only
            have bY19 := below_join bY18 hxy
            replace l8 := l8.below hxy l8.lt
            refine hK.out _ _ (by (try dsimp only); (exact KK2.out _ (by assumption))) (fun hHeld => ?_)
            clear hK K
            try simp only [List.setIfInBounds_toArray, List.set_cons_zero, List.set_cons_succ]
            refine wpAnyH_ready (rs := [12]) (by kernel_rfl) (by simp) ?_
            refine ready_op rfl (fun K hK => ?_) AllReadyH.nil
            · go_simp
              obtain ⟨Y20, hY⟩ : ∃ Y, Y = Y19.alloc (Obj.cells #[.bool false, .bool false, .bool false] 26) := ⟨_, rfl⟩
              obtain ⟨g9, hg9⟩ : ∃ g, g = Y19.heap.size := ⟨_, rfl⟩
              have bY20 : Below w2.heap.size w2 Y20 := by rw [hY]; exact bY19.alloc bY19.size _
              have l9 : Lies Y20 g9 26 [.bool false, .bool false, .bool false] := by rw [hY, hg9]; exact Lies.new _ _ _
              have hlt8 := l8.lt
              replace l8 : Lies Y20 g8 26 [.bool false, .bool false, .bool false] := by rw [hY]; exact l8.alloc _
              have hge9 : w2.heap.size ≤ g9 := by rw [hg9]; exact bY19.size
              rw [← hY, ← hg9]
              clear hY
              refine hK.out _ _ (by (try dsimp only); (exact KK2.out _ (by assumption))) (fun hHeld => ?_)
              clear hK K
              try simp only [List.setIfInBounds_toArray, List.set_cons_zero, List.set_cons_succ]
              try rw [← hg8]
              try rw [← hg9]
              exact any_norm (by kernel_rfl) (by kernel_rfl) (hmid _ _ ⟨g8, g9, _, _, _, _, _, _, _, _, _, rfl, by assumption, l8, l9, by omega, by omega, by omega⟩)
          · go_simp
            obtain ⟨Y21, hY⟩ : ∃ Y, Y = Y18.alloc (Obj.cells #[.bool false, .bool false, .bool false] 26) := ⟨_, rfl⟩
            obtain ⟨g9, hg9⟩ : ∃ g, g = Y18.heap.size := ⟨_, rfl⟩
            have bY21 : Below w2.heap.size w2 Y21 := by rw [hY]; exact bY18.alloc bY18.size _
            have l9 : Lies Y21 g9 26 [.bool false, .bool false, .bool false] := by rw [hY, hg9]; exact Lies.new _ _ _
            have hlt8 := l8.lt
            replace l8 : Lies Y21 g8 26 [.bool false, .bool false, .bool false] := by rw [hY]; exact l8.alloc _
            have hge9 : w2.heap.size ≤ g9 := by rw [hg9]; exact bY18.size
            rw [← hY, ← hg9]
            clear hY
            refine hK.out _ _ (by (try dsimp only); (exact KK2.out _ (by assumption))) (fun hHeld => ?_)
            clear hK K
            try simp only [List.setIfInBounds_toArray, List.set_cons_zero, List.set_cons_succ]
            refine wpAnyH_ready (rs := [10]) (by kernel_rfl) (by simp) ?_
            refine ready_op rfl (fun K hK => ?_) AllReadyH.nil
            · go_simp
              refine (CB.out _ bY21).mono ?_
              rintro e Y22 ⟨rfl, hxy⟩
              try dsimp only
              have bY22 := below_join bY21 hxy
              replace l8 := l8.below hxy l8.lt
              replace l9 := l9.below hxy l9.lt
              refine hK.out _ _ (by (try dsimp only); (exact KK2.out _ (by assumption))) (fun hHeld => ?_)
              clear hK K
              try simp only [List.setIfInBounds_toArray, List.set_cons_zero, List.set_cons_succ]
              try rw [← hg8]
              try rw [← hg9]
              exact any_norm (by kernel_rfl) (by kernel_rfl) (hmid _ _ ⟨g8, g9, _, _, _, _, _, _, _, _, _, rfl, by assumption, l8, l9, by omega, by omega, by omega⟩)
        · go_simp
          obtain ⟨Y23, hY⟩ : ∃ Y, Y = Y17.alloc (Obj.cells #[.bool false, .bool false, .bool false] 26) := ⟨_, rfl⟩
          obtain ⟨g9, hg9⟩ : ∃ g, g = Y17.heap.size := ⟨_, rfl⟩
          have bY23 : Below w2.heap.size w2 Y23 := by rw [hY]; exact bY17.alloc bY17.size _
          have l9 : Lies Y23 g9 26 [.bool false, .bool false, .bool false] := by rw [hY, hg9]; exact Lies.new _ _ _
          have hlt8 := l8.lt
          replace l8 : Lies Y23 g8 26 [.bool false, .bool false, .bool false] := by rw [hY]; exact l8.alloc _
          have hge9 : w2.heap.size ≤ g9 := by rw [hg9]; exact bY17.size
          rw [← hY, ← hg9]
          clear hY
          refine hK.out _ _ (by (try dsimp only); (exact KK2.out _ (by assumption))) (fun hHeld => ?_)
          clear hK K
          try simp only [List.setIfInBounds_toArray, List.set_cons_zero, List.set_cons_succ]
          refine wpAnyH_ready (rs := [3]) (by kernel_rfl) (by simp) ?_
          refine ready_op rfl (fun K hK => ?_) AllReadyH.nil
          · go_simp
            refine (CA.out _ bY23).mono ?_
            rintro e Y24 ⟨rfl, hxy⟩
            try dsimp only
            have bY24 := below_join bY23 hxy
            replace l8 := l8.below hxy l8.lt
            replace l9 := l9.below hxy l9.lt
            refine hK.out _ _ (by (try dsimp only); (exact KK2.out _ (by assumption))) (fun hHeld => ?_)
            clear hK K
            try simp only [List.setIfInBounds_toArray, List.set_cons_zero, List.set_cons_succ]
            refine wpAnyH_ready (rs := [10]) (by kernel_rfl) (by simp) ?_
            refine ready_op rfl (fun K hK => ?_) AllReadyH.nil
            · go_simp
              refine (CB.out _ bY24).mono ?_
              rintro e Y25 ⟨rfl, hxy⟩
              try dsimp only
              have bY25 := below_join bY24 hxy
              replace l8 := l8.below hxy l8.lt
              replace l9 := l9.below hxy l9.lt
              refine hK.out _ _ (by (try dsimp only); (exact KK2.out _ (by assumption))) (fun hHeld => ?_)
              clear hK K
              try simp only [List.setIfInBounds_toArray, List.set_cons_zero, List.set_cons_succ]
              try rw [← hg8]
              try rw [← hg9]
              exact any_norm (by kernel_rfl) (by kernel_rfl) (hmid _ _ ⟨g8, g9, _, _, _, _, _, _, _, _, _, rfl, by assumption, l8, l9, by omega, by omega, by omega⟩)
      · go_simp
        obtain ⟨Y26, hY⟩ : ∃ Y, Y = X.alloc (Obj.cells #[.bool false, .bool false, .bool false] 26) := ⟨_, rfl⟩
        obtain ⟨g9, hg9⟩ : ∃ g, g = X.heap.size := ⟨_, rfl⟩
        have bY26 : Below w2.heap.size w2 Y26 := by rw [hY]; exact bX.alloc bX.size _
        have l9 : Lies Y26 g9 26 [.bool false, .bool false, .bool false] := by rw [hY, hg9]; exact Lies.new _ _ _
        have hge9 : w2.heap.size ≤ g9 := by rw [hg9]; exact bX.size
        rw [← hY, ← hg9]
        clear hY
        refine hK.out _ _ (by (try dsimp only); (exact KK2.out _ (by assumption))) (fun hHeld => ?_)
        clear hK K
        try simp only [List.setIfInBounds_toArray, List.set_cons_zero, List.set_cons_succ]
        refine wpAnyH_ready (rs := [3, 11]) (by kernel_rfl) (by simp) ?_
        refine ready_op rfl (fun K hK => ?_) (ready_op rfl (fun K hK => ?_) AllReadyH.nil)
        · go_simp
          refine (CA.out _ bY26).mono ?_
          rintro e Y27 ⟨rfl, hxy⟩
          try dsimp only
          have bY27 := below_join bY26 hxy
          replace l9 := l9.below hxy l9.lt
          refine hK.out _ _ (by (try dsimp only); (exact KK2.out _ (by assumption))) (fun hHeld => ?_)
          clear hK K
          try simp only [List.setIfInBounds_toArray, List.set_cons_zero, List.set_cons_succ]
          refine wpAnyH_ready (rs := [10, 11]) (by kernel_rfl) (by simp) ?_
          refine ready_op rfl (fun K hK => ?_) (ready_op rfl (fun K hK => ?_) AllReadyH.nil)
          · go_simp
            refine (CB.out _ bY27).mono ?_
            rintro e Y28 ⟨rfl, hxy⟩
            try dsimp only
            have bY28 := below_join bY27 hxy
            replace l9 := l9.below hxy l9.lt
            refine hK.out _ _ (by (try dsimp only); (exact KK2.out _ (by assumption))) (fun hHeld => ?_)
            clear hK K
            try simp only [List.setIfInBounds_toArray, List.set_cons_zero, List.set_cons_succ]
            refine wpAnyH_ready (rs := [11]) (by kernel_rfl) (by simp) ?_
            refine ready_op rfl (fun K hK => ?_) AllReadyH.nil
            · go_simp
              obtain ⟨Y29, hY⟩ : ∃ Y, Y = Y28.alloc (Obj.cells #[.bool false, .bool false, .bool false] 26) := ⟨_, rfl⟩
              obtain ⟨g8, hg8⟩ : ∃ g, g = Y28.heap.size := ⟨_, rfl⟩
              have bY29 : Below w2.heap.size w2 Y29 := by rw [hY]; exact bY28.alloc bY28.size _
              have l8 : Lies Y29 g8 26 [.bool false, .bool false, .bool false] := by rw [hY, hg8]; exact Lies.new _ _ _
              have hlt9 := l9.lt
              replace l9 : Lies Y29 g9 26 [.bool false, .bool false, .bool false] := by rw [hY]; exact l9.alloc _
              have hge8 : w2.heap.size ≤ g8 := by rw [hg8]; exact bY28.size
              rw [← hY, ← hg8]
              clear hY
              refine hK.out _ _ (by (try dsimp only); (exact KK2.out _ (by assumption))) (fun hHeld => ?_)
              clear hK K
              try simp only [List.setIfInBounds_toArray, List.set_cons_zero, List.set_cons_succ]
              try rw [← hg8]
              try rw [← hg9]
              exact any_norm (by kernel_rfl) (by kernel_rfl) (hmid _ _ ⟨g8, g9, _, _, _, _, _, _, _, _, _, rfl, by assumption, l8, l9, by omega, by omega, by omega⟩)
          · go_simp
            obtain ⟨Y30, hY⟩ : ∃ Y, Y = Y27.alloc (Obj.cells #[.bool false, .bool false, .bool false] 26) := ⟨_, rfl⟩
            obtain ⟨g8, hg8⟩ : ∃ g, g = Y27.heap.size := ⟨_, rfl⟩
            have bY30 : Below w2.heap.size w2 Y30 := by rw [hY]; exact bY27.alloc bY27.size _
            have l8 : Lies Y30 g8 26 [.bool false, .bool false, .bool false] := by rw [hY, hg8]; exact Lies.new _ _ _
            have hlt9 := l9.lt
            replace l9 : Lies Y30 g9 26 [.bool false, .bool false, .bool false] := by rw [hY]; exact l9.alloc _
            have hge8 : w2.heap.size ≤ g8 := by rw [hg8]; exact bY27.size
            rw [← hY, ← hg8]
            clear hY
            refine hK.out _ _ (by (try dsimp only); (exact KK2.out _ (by assumption))) (fun hHeld => ?_)
            clear hK K
            try simp only [List.setIfInBounds_toArray, List.set_cons_zero, List.set_cons_succ]
            refine wpAnyH_ready (rs := [10]) (by kernel_rfl) (by simp) ?_
            refine ready_op rfl (fun K hK => ?_) AllReadyH.nil
            · go_simp
              refine (CB.out _ bY30).mono ?_
              rintro e Y31 ⟨rfl, hxy⟩
              try dsimp only
              have bY31 := below_join bY30 hxy
              replace l8 := l8.below hxy l8.lt
              replace l9 := l9.below hxy l9.lt
              refine hK.out _ _ (by (try dsimp only); (exact KK2.out _ (by assumption))) (fun hHeld => ?_)
              clear hK K
              try simp only [List.setIfInBounds_toArray, List.set_cons_zero, List.set_cons_succ]
              try rw [← hg8]
              try rw [← hg9]
              exact any_norm (by kernel_rfl) (by kernel_rfl) (hmid _ _ ⟨g8, g9, _, _, _, _, _, _, _, _, _, rfl, by assumption, l8, l9, by omega, by omega, by omega⟩)
        · go_simp
          obtain ⟨Y32, hY⟩ : ∃ Y, Y = Y26.alloc (Obj.cells #[.bool false, .bool false, .bool false] 26) := ⟨_, rfl⟩
          obtain ⟨g8, hg8⟩ : ∃ g, g = Y26.heap.size := ⟨_, rfl⟩
          have bY32 : Below w2.heap.size w2 Y32 := by rw [hY]; exact bY26.alloc bY26.size _
          have l8 : Lies Y32 g8 26 [.bool false, .bool false, .bool false] := by rw [hY, hg8]; exact Lies.new _ _ _
          have hlt9 := l9.lt
          replace l9 : Lies Y32 g9 26 [.bool false, .bool false, .bool false] := by rw [hY]; exact l9.alloc _
          have hge8 : w2.heap.size ≤ g8 := by rw [hg8]; exact bY26.size
          rw [← hY, ← hg8]
          clear hY
          refine hK.out _ _ (by (try dsimp only); (exact KK2.out _ (by assumption))) (fun hHeld => ?_)
          clear hK K
          try simp only [List.setIfInBounds_toArray, List.set_cons_zero, List.set_cons_succ]
          refine wpAnyH_ready (rs := [3]) (by kernel_rfl) (by simp) ?_
          refine ready_op rfl (fun K hK => ?_) AllReadyH.nil
          · go_simp
            refine (CA.out _ bY32).mono ?_
            rintro e Y33 ⟨rfl, hxy⟩
            try dsimp only
            have bY33 := below_join bY32 hxy
            replace l8 := l8.below hxy l8.lt
            replace l9 := l9.below hxy l9.lt
            refine hK.out _ _ (by (try dsimp only); (exact KK2.out _ (by assumption))) (fun hHeld => ?_)
            clear hK K
            try simp only [List.setIfInBounds_toArray, List.set_cons_zero, List.set_cons_succ]
            refine wpAnyH_ready (rs := [10]) (by kernel_rfl) (by simp) ?_
            refine ready_op rfl (fun K hK => ?_) AllReadyH.nil
            · go_simp
              refine (CB.out _ bY33).mono ?_
              rintro e Y34 ⟨rfl, hxy⟩
              try dsimp only
              have bY34 := below_join bY33 hxy
              replace l8 := l8.below hxy l8.lt
              replace l9 := l9.below hxy l9.lt
              refine hK.out _ _ (by (try dsimp only); (exact KK2.out _ (by assumption))) (fun hHeld => ?_)
              clear hK K
              try simp only [List.setIfInBounds_toArray, List.set_cons_zero, List.set_cons_succ]
              try rw [← hg8]
              try rw [← hg9]
              exact any_norm (by kernel_rfl) (by kernel_rfl) (hmid _ _ ⟨g8, g9, _, _, _, _, _, _, _, _, _, rfl, by assumption, l8, l9, by omega, by omega, by omega⟩)
    rintro a Y ⟨g8, g9, v20, v21, v22, v24, v25, v26, v27, v28, v29, rfl, hHeld, l8, l9, hne, hge8, hge9⟩
    have bY := hHeld.2
    dsimp only
    have z0 := l8.cell (i := 0) rfl
    have fz0 := l8.free 0
    have z1 := l8.cell (i := 1) rfl
    have fz1 := l8.free 1
    have z2 := l8.cell (i := 2) rfl
    have fz2 := l8.free 2
    refine wpAnyH_ready (rs := [13]) (by kernel_rfl) (by simp) ?_
    refine ready_st rfl (fun K hK => ?_) AllReadyH.nil
    go_simp
    obtain ⟨Z, hZ⟩ : ∃ Z, Z = ((Y.setCell ⟨g8, 0, none⟩ (.bool a0)).setCell ⟨g8, 1, none⟩ (.bool a1)).setCell ⟨g8, 2, none⟩ (.bool a2) := ⟨_, rfl⟩
    rw [← hZ]
    have m8 : Lies Z g8 26 [.bool a0, .bool a1, .bool a2] := by rw [hZ]; exact ((l8.set 0 _).set 1 _).set 2 _
    have m9 : Lies Z g9 26 [.bool false, .bool false, .bool false] := by rw [hZ]; exact ((l9.far (p := ⟨g8, 0, none⟩) hne.symm _).far (p := ⟨g8, 1, none⟩) hne.symm _).far (p := ⟨g8, 2, none⟩) hne.symm _
    have bZ : Below w2.heap.size w2 Z := by rw [hZ]; exact ((bY.setCell (p := ⟨g8, 0, none⟩) hge8 _).setCell (p := ⟨g8, 1, none⟩) hge8 _).setCell (p := ⟨g8, 2, none⟩) hge8 _
    clear hZ z0 z1 z2 fz0 fz1 fz2 l8 l9
    refine hK.out _ _ (by (try dsimp only); (exact KK2.out _ (by assumption))) (fun hHeld => ?_)
    clear hK K
    have y0 := m9.cell (i := 0) rfl
    have fy0 := m9.free 0
    have y1 := m9.cell (i := 1) rfl
    have fy1 := m9.free 1
    have y2 := m9.cell (i := 2) rfl
    have fy2 := m9.free 2
    refine wpAnyH_ready (rs := [14]) (by kernel_rfl) (by simp) ?_
    refine ready_st rfl (fun K hK => ?_) AllReadyH.nil
    go_simp
    obtain ⟨V, hV⟩ : ∃ V, V = ((Z.setCell ⟨g9, 0, none⟩ (.bool k0)).setCell ⟨g9, 1, none⟩ (.bool k1)).setCell ⟨g9, 2, none⟩ (.bool k2) := ⟨_, rfl⟩
    rw [← hV]
    have q9 : Lies V g9 26 [.bool k0, .bool k1, .bool k2] := by rw [hV]; exact ((m9.set 0 _).set 1 _).set 2 _
    have q8 : Lies V g8 26 [.bool a0, .bool a1, .bool a2] := by rw [hV]; exact ((m8.far (p := ⟨g9, 0, none⟩) hne _).far (p := ⟨g9, 1, none⟩) hne _).far (p := ⟨g9, 2, none⟩) hne _
    have bV : Below w2.heap.size w2 V := by rw [hV]; exact ((bZ.setCell (p := ⟨g9, 0, none⟩) hge9 _).setCell (p := ⟨g9, 1, none⟩) hge9 _).setCell (p := ⟨g9, 2, none⟩) hge9 _
    clear hV y0 y1 y2 fy0 fy1 fy2 m8 m9
    refine hK.out _ _ (by (try dsimp only); (exact KK2.out _ (by assumption))) (fun hHeld => ?_)
    clear hK K
    refine wpAnyH_done (by kernel_rfl) ?_ _
    go_wp2_with fail
    go_meet
    case rel => exact ⟨g8, g9, rfl, rfl, q8, q9, bV⟩
  obtain ⟨g8, g9, rfl, rfl, l8, l9, hb4⟩ := hcut
  have ha : a0 = true ∨ (a0 = false ∧ a1 = true) ∨ (a0 = false ∧ a1 = false ∧ a2 = true) := by
    have := HA.out
    cases a0 <;> cases a1 <;> cases a2 <;> simp_all [M3.has]
  have hk : k0 = true ∨ (k0 = false ∧ k1 = true) ∨ (k0 = false ∧ k1 = false ∧ k2 = true) := by
    have := HBH.out
    cases k0 <;> cases k1 <;> cases k2 <;> simp_all [M3.has]
  have z0 := l8.cell (i := 0) rfl
  have z1 := l8.cell (i := 1) rfl
  have z2 := l8.cell (i := 2) rfl
  have y0 := l9.cell (i := 0) rfl
  have y1 := l9.cell (i := 1) rfl
  have y2 := l9.cell (i := 2) rfl
  go_upto_region 5 with (fail)
  go_cut [58] from 31 to 58 (fun s wr => s = .bool false ∧ wc = wr)
  case first =>
    rcases ha with rfl | ⟨rfl, rfl⟩ | ⟨rfl, rfl, rfl⟩ <;> rcases hk with rfl | ⟨rfl, rfl⟩ | ⟨rfl, rfl, rfl⟩
    all_goals
      go_wp2_with fail
      go_meet
      case rel => exact ⟨rfl, rfl⟩
  obtain ⟨rfl, rfl⟩ := hcut
  have hb5 := below_join hb3 hb4
  clear z0 z1 z2 y0 y1 y2 l8 l9 ha hk
  have m0 := (L1.out.below hb5 L1.out.lt).cell (i := 0) rfl
  have hls : PsAt (d + 1) W0 (.slice A n c) ls := by
    have := came_ps HLC.out HLN.out (by omega) HLX.out
    rw [HLS.out] at this
    exact this
  have c1 := rrej_any (d + 1) N hN _ ls wc (hls.below hb5 (Nat.le_refl _)) (by have := HZ.out; omega) (HWN.out.below hb5 (Nat.le_refl _))
  have c2 := fun W (h : Below wc.heap.size wc W) => rrej_any (d + 1) N hN _ (ls ++ [Pd.mk f ps]) W (HM.out.below (below_join HB2.out (below_join hb4 h)) (Nat.le_refl _)) (by rw [Pr.sizes_snoc, Pr.size]; have := HZ.out; omega) (HWN.out.below (below_join hb5 h) (Nat.le_refl _))
  have hmm := Rj.rejects_more N ls (.mk f ps)
  generalize Rj.rejects N ls = r1 at c1 hmm
  generalize Rj.rejects N (ls ++ [Pd.mk f ps]) = r2 at c2 hmm
  have HMM := Lib.hid hmm
  clear hmm hls
  go_wp2_with fail
  refine c1.mono ?_
  rintro e w5 ⟨rfl, hb6⟩
  have hb7 := below_join hb5 hb6
  clear c1 m0
  cases r1
  · have ca := awake7_any w5 (HWN.out.below hb7 (Nat.le_refl _))
    go_wp2_with fail
    refine ca.mono ?_
    rintro e w6 ⟨rfl, hb8⟩
    clear ca
    go_wp2_with fail
    go_ret
    exact ⟨rfl, below_join HB0.out (below_join hb7 hb8)⟩
  · obtain rfl : r2 = true := HMM.out rfl
    have m0 := (L1.out.below hb7 L1.out.lt).cell (i := 0) rfl
    go_wp2_with fail
    refine (c2 _ hb6).mono ?_
    rintro e w6 ⟨rfl, hb8⟩
    have hb9 := below_join hb7 hb8
    have ca := awake7_any w6 (HWN.out.below hb9 (Nat.le_refl _))
    clear c2 m0
    go_wp2_with fail
    refine ca.mono ?_
    rintro e w7 ⟨rfl, hb10⟩
    clear ca
    go_wp2_with fail
    go_ret
    exact ⟨rfl, below_join HB0.out (below_join hb9 hb10)⟩
end Go.Proofs.YtpdgbfeciacbdaaDoor
