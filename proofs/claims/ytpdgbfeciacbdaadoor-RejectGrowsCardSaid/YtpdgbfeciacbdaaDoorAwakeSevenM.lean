/-
  LAYER 7's awake.
-/
import Derived.Test.YtpdgbfeciacbdaaDoorRejpM
import Derived.Test.YtpdgbfeciacbdaaDoorRejcM
import Derived.Test.YtpdgbfeciacbdaaDoorPdBuiltM
import Derived.Test.YtpdgbfeciacbdaaDoorGPred
import Derived.Deep.RegionHeld3
namespace Go.Proofs.YtpdgbfeciacbdaaDoor
open Go.RowKit Go.Sort
set_option maxHeartbeats 6400000

theorem below_alloc6 {w W : World} (h : Below w.heap.size w W) (o : Obj) : Below w.heap.size w (W.alloc o) := h.alloc h.size o
theorem keep14 {W0 W : World} {g : Nat} {f : Pf} {u : Value} (h : PdCell W0 ⟨g, 0, none⟩ f u) (hg : g < W0.heap.size) (hb : Below W0.heap.size W0 W) :
    (W.cell? ⟨g, 0, none⟩ = some (.int .i64 f.k) ∧ W.cell? ⟨g, 1, none⟩ = some (.int .i64 f.u) ∧ W.cell? ⟨g, 2, none⟩ = some (.int .i64 f.o) ∧ W.cell? ⟨g, 3, none⟩ = some (.int .i64 f.a.k) ∧ W.cell? ⟨g, 4, none⟩ = some (.int .i64 f.a.t) ∧ W.cell? ⟨g, 5, none⟩ = some (.int .i64 f.a.c) ∧ W.cell? ⟨g, 6, none⟩ = some (.bool f.a.z) ∧ W.cell? ⟨g, 7, none⟩ = some (.int .i64 f.a.n) ∧ W.cell? ⟨g, 8, none⟩ = some (.int .i64 f.b.k) ∧ W.cell? ⟨g, 9, none⟩ = some (.int .i64 f.b.t) ∧ W.cell? ⟨g, 10, none⟩ = some (.int .i64 f.b.c) ∧ W.cell? ⟨g, 11, none⟩ = some (.bool f.b.z) ∧ W.cell? ⟨g, 12, none⟩ = some (.int .i64 f.b.n) ∧ W.cell? ⟨g, 13, none⟩ = some (u)) ∧ Below W0.heap.size W0 W := by
  obtain ⟨k0, k1, k2, k3, k4, k5, k6, k7, k8, k9, k10, k11, k12, k13⟩ := h.below hb hg
  refine ⟨⟨k0, k1, k2, k3, k4, k5, k6, k7, k8, k9, k10, k11, k12, ?_⟩, hb⟩
  exact k13
set_option maxRecDepth 100000 in
theorem awake7_any (w : World) (hWant : Want w) : Calls Tryd.prog 7 #[] w fun e w' => e = .returned (.bool true) ∧ Below w.heap.size w w' := by
  have ce := equal6_any 0 1 w
  go_enter Tryd.func7, Tryd.ntmps7
  go_wp2_with fail
  refine ce.mono ?_
  rintro e w1 ⟨rfl, hb1⟩
  clear ce
  obtain ⟨W2, hW2⟩ : ∃ W2, W2 = w1.alloc (Obj.cells #[.int .i64 2, .int .i64 0, .int .i64 1, .int .i64 1, .int .i64 0, .int .i64 0, .bool false, .int .i64 0, .int .i64 1, .int .i64 1, .int .i64 0, .bool false, .int .i64 0, .slice none 0 0] 33) := ⟨_, rfl⟩
  obtain ⟨l2, hb2⟩ := box_one (cs := [.int .i64 2, .int .i64 0, .int .i64 1, .int .i64 1, .int .i64 0, .int .i64 0, .bool false, .int .i64 0, .int .i64 1, .int .i64 1, .int .i64 0, .bool false, .int .i64 0, .slice none 0 0]) hW2
  have hb3 := below_join hb1 hb2
  have pk : PdCell W2 ⟨w1.heap.size, 0, none⟩ (⟨2, 0, 1, ⟨1, 0, 0, false, 0⟩, ⟨1, 1, 0, false, 0⟩⟩ : Pf) (.slice none 0 0) := l2.pd
  have KK := Lib.hid (fun W (h : Below W2.heap.size W2 W) => keep14 pk l2.lt h)
  have HB3 := Lib.hid hb3
  have HW2 := Lib.hid hW2
  have hS := Below.refl W2.heap.size W2
  have hw2 := hWant.below hb3 (Nat.le_refl _)
  have p0 : ∀ W, PsAt 0 W (.slice none 0 0) [] := fun W => ⟨rfl, none, 0, rfl⟩
  have s0 : Pr.sizes [] ≤ 1000 := by rw [Pr.sizes]; omega
  have s1 : ∀ f : Pf, Pr.sizes [Pd.mk f []] ≤ 1000 := fun f => by rw [Pr.sizes, Pr.sizes, Pr.size, Pr.sizes]; omega
  have s2 : ∀ f g : Pf, Pr.sizes [Pd.mk f [], Pd.mk g []] ≤ 1000 := fun f g => by rw [Pr.sizes, Pr.sizes, Pr.sizes, Pr.size, Pr.size, Pr.sizes]; omega
  have v1 : Rj.rejects 1 [Pd.mk (⟨2, 0, 1, ⟨1, 0, 0, false, 0⟩, ⟨1, 1, 0, false, 0⟩⟩ : Pf) []] = true := by unfold Rj.rejects; rw [List.map_cons, List.map_nil, Rj.may_eq]; decide +kernel
  have v2 : Rj.rejects 1 [Pd.mk (⟨3, 0, 0, ⟨1, 0, 0, false, 0⟩, ⟨0, 0, 0, false, 0⟩⟩ : Pf) []] = false := by unfold Rj.rejects; rw [List.map_cons, List.map_nil, Rj.may_eq]; decide +kernel
  have v3 : Rj.rejects 1 [Pd.mk (⟨3, 0, 0, ⟨1, 0, 0, false, 0⟩, ⟨0, 0, 0, false, 0⟩⟩ : Pf) [], Pd.mk (⟨2, 0, 1, ⟨1, 0, 0, false, 0⟩, ⟨1, 1, 0, false, 0⟩⟩ : Pf) []] = true := by unfold Rj.rejects; rw [List.map_cons, List.map_cons, List.map_nil, Rj.may_eq, Rj.may_eq]; decide +kernel
  have v4 : Rj.may 0 (Pd.mk (⟨2, 0, 1, ⟨1, 0, 0, false, 0⟩, ⟨1, 1, 0, false, 0⟩⟩ : Pf) []) = (true, true, true) := by rw [Rj.may_eq]; decide +kernel
  have v5 : Rj.rejects 1 [] = false := by unfold Rj.rejects; rw [List.map_nil]; decide +kernel
  have c1 := fun W (h : Below W2.heap.size W2 W) => (rrej_any 1 1 (by decide) (.slice (some ⟨W.heap.size, 0, none⟩) 1 1) [Pd.mk (⟨2, 0, 1, ⟨1, 0, 0, false, 0⟩, ⟨1, 1, 0, false, 0⟩⟩ : Pf) []] (W.alloc (Obj.cells #[.int .i64 2, .int .i64 0, .int .i64 1, .int .i64 1, .int .i64 0, .int .i64 0, .bool false, .int .i64 0, .int .i64 1, .int .i64 1, .int .i64 0, .bool false, .int .i64 0, .slice none 0 0] 33)) (pred_built W 0 (⟨2, 0, 1, ⟨1, 0, 0, false, 0⟩, ⟨1, 1, 0, false, 0⟩⟩ : Pf) (.slice none 0 0) [] _ rfl (p0 _)) (s1 _) ((hw2.below h (Nat.le_refl _)).below (below_new _ _) (Nat.le_refl _))).mono fun e w' ⟨he, hb⟩ => (⟨he, below_join (below_alloc6 h _) hb⟩ : e = _ ∧ Below W2.heap.size W2 w')
  have c1d := fun W (h : Below W2.heap.size W2 W) => (rrej_any 1 1 (by decide) (.slice (some ⟨W.heap.size, 0, none⟩) 1 1) [Pd.mk (⟨2, 0, 1, ⟨1, 0, 0, false, 0⟩, ⟨1, 1, 0, false, 0⟩⟩ : Pf) []] (W.alloc (Obj.cells #[.int .i64 2, .int .i64 0, .int .i64 1, .int .i64 1, .int .i64 0, .int .i64 0, .bool false, .int .i64 0, .int .i64 1, .int .i64 1, .int .i64 0, .bool false, .int .i64 0, .slice none 0 0] 33)).drew ((pred_built W 0 (⟨2, 0, 1, ⟨1, 0, 0, false, 0⟩, ⟨1, 1, 0, false, 0⟩⟩ : Pf) (.slice none 0 0) [] _ rfl (p0 _)).below ((Below.refl _ _).drew) (Nat.le_refl _)) (s1 _) (((hw2.below h (Nat.le_refl _)).below (below_new _ _) (Nat.le_refl _)).below ((Below.refl _ _).drew) (Nat.le_refl _))).mono fun e w' ⟨he, hb⟩ => (⟨he, below_join (Below.drew (below_alloc6 h _)) hb⟩ : e = _ ∧ Below W2.heap.size W2 w')
  have c2 := fun W (h : Below W2.heap.size W2 W) => (rrej_any 1 1 (by decide) (.slice (some ⟨W.heap.size, 0, none⟩) 1 1) [Pd.mk (⟨3, 0, 0, ⟨1, 0, 0, false, 0⟩, ⟨0, 0, 0, false, 0⟩⟩ : Pf) []] (W.alloc (Obj.cells #[.int .i64 3, .int .i64 0, .int .i64 0, .int .i64 1, .int .i64 0, .int .i64 0, .bool false, .int .i64 0, .int .i64 0, .int .i64 0, .int .i64 0, .bool false, .int .i64 0, .slice none 0 0] 33)) (pred_built W 0 (⟨3, 0, 0, ⟨1, 0, 0, false, 0⟩, ⟨0, 0, 0, false, 0⟩⟩ : Pf) (.slice none 0 0) [] _ rfl (p0 _)) (s1 _) ((hw2.below h (Nat.le_refl _)).below (below_new _ _) (Nat.le_refl _))).mono fun e w' ⟨he, hb⟩ => (⟨he, below_join (below_alloc6 h _) hb⟩ : e = _ ∧ Below W2.heap.size W2 w')
  have c3 := fun W (h : Below W2.heap.size W2 W) => (rrej_any 1 1 (by decide) (.slice (some ⟨W.heap.size, 0, none⟩) 2 2) [Pd.mk (⟨3, 0, 0, ⟨1, 0, 0, false, 0⟩, ⟨0, 0, 0, false, 0⟩⟩ : Pf) [], Pd.mk (⟨2, 0, 1, ⟨1, 0, 0, false, 0⟩, ⟨1, 1, 0, false, 0⟩⟩ : Pf) []] (W.alloc (Obj.cells #[.int .i64 3, .int .i64 0, .int .i64 0, .int .i64 1, .int .i64 0, .int .i64 0, .bool false, .int .i64 0, .int .i64 0, .int .i64 0, .int .i64 0, .bool false, .int .i64 0, .slice none 0 0, .int .i64 2, .int .i64 0, .int .i64 1, .int .i64 1, .int .i64 0, .int .i64 0, .bool false, .int .i64 0, .int .i64 1, .int .i64 1, .int .i64 0, .bool false, .int .i64 0, .slice none 0 0] 33)) (preds_built W 0 (⟨3, 0, 0, ⟨1, 0, 0, false, 0⟩, ⟨0, 0, 0, false, 0⟩⟩ : Pf) (⟨2, 0, 1, ⟨1, 0, 0, false, 0⟩, ⟨1, 1, 0, false, 0⟩⟩ : Pf) (.slice none 0 0) (.slice none 0 0) [] [] _ rfl (p0 _) (p0 _)) (s2 _ _) ((hw2.below h (Nat.le_refl _)).below (below_new _ _) (Nat.le_refl _))).mono fun e w' ⟨he, hb⟩ => (⟨he, below_join (below_alloc6 h _) hb⟩ : e = _ ∧ Below W2.heap.size W2 w')
  have c4 := in_turn (W0 := W2) fun W h => rmay_any 0 0 (by decide) (⟨2, 0, 1, ⟨1, 0, 0, false, 0⟩, ⟨1, 1, 0, false, 0⟩⟩ : Pf) (.slice none 0 0) [] W (p0 _) s0 (hw2.below h (Nat.le_refl _))
  have c5 := in_turn (W0 := W2) fun W h => rrej_any 0 1 (by decide) (.slice none 0 0) [] W (p0 _) s0 (hw2.below h (Nat.le_refl _))
  have c6 := in_turn (W0 := W2) fun W _ => isnull7_any 0 W
  rw [v1, show ((1 : Nat) : Int) = 1 from rfl] at c1 c1d
  rw [v2, show ((1 : Nat) : Int) = 1 from rfl] at c2
  rw [v3, show ((1 : Nat) : Int) = 1 from rfl] at c3
  rw [v4, show ((0 : Nat) : Int) = 0 from rfl] at c4
  rw [v5, show ((1 : Nat) : Int) = 1 from rfl] at c5
  dsimp only at c1 c1d c2 c3 c4 c5 c6
  have q1 := arr_eq true true true true true true
  replace c1 := Lib.hid c1
  replace c1d := Lib.hid c1d
  replace c2 := Lib.hid c2
  replace c3 := Lib.hid c3
  replace c4 := Lib.hid c4
  replace c5 := Lib.hid c5
  replace c6 := Lib.hid c6
  clear hW2 l2 hb2 hb3 pk hb1 p0 s0 s1 s2 v1 v2 v3 v4 v5 hWant hw2
  go_wp2_with fail
  rw [← HW2.out]
  go_region_held3 (fun W => (W.cell? ⟨w1.heap.size, 0, none⟩ = some (.int .i64 2) ∧ W.cell? ⟨w1.heap.size, 1, none⟩ = some (.int .i64 0) ∧ W.cell? ⟨w1.heap.size, 2, none⟩ = some (.int .i64 1) ∧ W.cell? ⟨w1.heap.size, 3, none⟩ = some (.int .i64 1) ∧ W.cell? ⟨w1.heap.size, 4, none⟩ = some (.int .i64 0) ∧ W.cell? ⟨w1.heap.size, 5, none⟩ = some (.int .i64 0) ∧ W.cell? ⟨w1.heap.size, 6, none⟩ = some (.bool false) ∧ W.cell? ⟨w1.heap.size, 7, none⟩ = some (.int .i64 0) ∧ W.cell? ⟨w1.heap.size, 8, none⟩ = some (.int .i64 1) ∧ W.cell? ⟨w1.heap.size, 9, none⟩ = some (.int .i64 1) ∧ W.cell? ⟨w1.heap.size, 10, none⟩ = some (.int .i64 0) ∧ W.cell? ⟨w1.heap.size, 11, none⟩ = some (.bool false) ∧ W.cell? ⟨w1.heap.size, 12, none⟩ = some (.int .i64 0) ∧ W.cell? ⟨w1.heap.size, 13, none⟩ = some (.slice none 0 0)) ∧ Below W2.heap.size W2 W) (first | (refine KK.out _ ?_; repeat first | assumption | refine Below.drew ?_ | refine below_alloc6 ?_ _))
    (first
      | (go_at_call 10; (with_reducible refine (c1.out _ (by repeat first | assumption | refine Below.drew ?_ | refine below_alloc6 ?_ _)).mono ?_); rintro e w' ⟨rfl, hS'⟩)
      | (go_at_call 10; (with_reducible refine (c1d.out _ (by repeat first | assumption | refine Below.drew ?_ | refine below_alloc6 ?_ _)).mono ?_); rintro e w' ⟨rfl, hS'⟩)
      | (go_at_call 10; (with_reducible refine (c2.out _ (by repeat first | assumption | refine Below.drew ?_ | refine below_alloc6 ?_ _)).mono ?_); rintro e w' ⟨rfl, hS'⟩)
      | (go_at_call 10; (with_reducible refine (c3.out _ (by repeat first | assumption | refine Below.drew ?_ | refine below_alloc6 ?_ _)).mono ?_); rintro e w' ⟨rfl, hS'⟩)
      | (go_at_call 10; (with_reducible refine (c5.out _ (by repeat first | assumption | refine Below.drew ?_ | refine below_alloc6 ?_ _)).mono ?_); rintro e w' ⟨rfl, hS'⟩)
      | (go_at_call 8; (with_reducible refine (c4.out _ (by repeat first | assumption | refine Below.drew ?_ | refine below_alloc6 ?_ _)).mono ?_); rintro e w' ⟨rfl, hS'⟩)
      | (go_at_call 17; (with_reducible refine (c6.out _ (by repeat first | assumption | refine Below.drew ?_ | refine below_alloc6 ?_ _)).mono ?_); rintro e w' ⟨rfl, hS'⟩)
      | (fail "no arm"))
  go_wp2_with fail
  go_ret
  exact ⟨rfl, below_join HB3.out (by repeat first | assumption | refine Below.drew ?_ | refine below_alloc6 ?_ _)⟩
end Go.Proofs.YtpdgbfeciacbdaaDoor
