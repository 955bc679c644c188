/-
  LAYER 6's awake.
-/
import Derived.Test.YthfoagglncimnaaDoorPredp
import Derived.Test.YthfoagglncimnaaDoorSamep
import Derived.Deep.RegionHeld3
namespace Go.Proofs.YthfoagglncimnaaDoor
open Go.RowKit Go.Sort
set_option maxHeartbeats 6400000

theorem below_alloc6 {w W : World} (h : Below w.heap.size w W) (o : Obj) : Below w.heap.size w (W.alloc o) := h.alloc h.size o
theorem Rws.drew {w : World} {v : Value} {rs : List (List Vl)} (h : Rws w v rs) : Rws w.drew v rs := by
  obtain ⟨vs, hs, hl, hr⟩ := h
  exact ⟨vs, hs.drew, hl, fun i r hi => hr i r hi⟩
/-- two rows of one value each that the call has just built, in either order -/
theorem rws_two (W : World) (z z' : Bool) (n n' : Int) : Rws (((W.alloc (Obj.cells #[.bool z, .int .i64 n] 23)).alloc (Obj.cells #[.bool z', .int .i64 n'] 23)).alloc (Obj.cells #[.slice (some ⟨W.heap.size, 0, none⟩) 1 1, .slice (some ⟨W.heap.size + 1, 0, none⟩) 1 1] 45)) (.slice (some ⟨W.heap.size + 1 + 1, 0, none⟩) 2 2) [[(z, n)], [(z', n')]] := by
  obtain ⟨W2, hW2⟩ : ∃ W2, W2 = (W.alloc (Obj.cells #[.bool z, .int .i64 n] 23)).alloc (Obj.cells #[.bool z', .int .i64 n'] 23) := ⟨_, rfl⟩
  obtain ⟨l1, l2, hb⟩ := box_two (cs := [.bool z, .int .i64 n]) (ds := [.bool z', .int .i64 n']) hW2
  have hs : W2.heap.size = W.heap.size + 1 + 1 := by rw [hW2, World.size_alloc, World.size_alloc]
  rw [← hW2, ← hs]
  refine ⟨[.slice (some ⟨W.heap.size, 0, none⟩) 1 1, .slice (some ⟨W.heap.size + 1, 0, none⟩) 1 1], Sl.new W2 45 [.slice (some ⟨W.heap.size, 0, none⟩) 1 1, .slice (some ⟨W.heap.size + 1, 0, none⟩) 1 1], rfl, fun i r hr => ?_⟩
  have hk : Below W2.heap.size W2 (W2.alloc (Obj.cells #[.slice (some ⟨W.heap.size, 0, none⟩) 1 1, .slice (some ⟨W.heap.size + 1, 0, none⟩) 1 1] 45)) := below_new _ _
  match i, hr with
  | 0, hr =>
    cases hr
    refine ⟨_, rfl, RowAt.below (w := W2) ⟨_, _, rfl, Nat.le_refl _, fun j x hx => ⟨_, _, _, rfl, l1.lt, ?_⟩⟩ hk (Nat.le_refl _)⟩
    match j, hx with
    | 0, hx => cases hx; exact ⟨l1.cell (i := 0) rfl, l1.cell (i := 1) rfl⟩
  | 1, hr =>
    cases hr
    refine ⟨_, rfl, RowAt.below (w := W2) ⟨_, _, rfl, Nat.le_refl _, fun j x hx => ⟨_, _, _, rfl, l2.lt, ?_⟩⟩ hk (Nat.le_refl _)⟩
    match j, hx with
    | 0, hx => cases hx; exact ⟨l2.cell (i := 0) rfl, l2.cell (i := 1) rfl⟩
theorem rws_swap (W : World) (z z' : Bool) (n n' : Int) : Rws (((W.alloc (Obj.cells #[.bool z', .int .i64 n'] 23)).alloc (Obj.cells #[.bool z, .int .i64 n] 23)).alloc (Obj.cells #[.slice (some ⟨W.heap.size + 1, 0, none⟩) 1 1, .slice (some ⟨W.heap.size, 0, none⟩) 1 1] 45)) (.slice (some ⟨W.heap.size + 1 + 1, 0, none⟩) 2 2) [[(z, n)], [(z', n')]] := by
  obtain ⟨W2, hW2⟩ : ∃ W2, W2 = (W.alloc (Obj.cells #[.bool z', .int .i64 n'] 23)).alloc (Obj.cells #[.bool z, .int .i64 n] 23) := ⟨_, rfl⟩
  obtain ⟨l1, l2, hb⟩ := box_two (cs := [.bool z', .int .i64 n']) (ds := [.bool z, .int .i64 n]) hW2
  have hs : W2.heap.size = W.heap.size + 1 + 1 := by rw [hW2, World.size_alloc, World.size_alloc]
  rw [← hW2, ← hs]
  refine ⟨[.slice (some ⟨W.heap.size + 1, 0, none⟩) 1 1, .slice (some ⟨W.heap.size, 0, none⟩) 1 1], Sl.new W2 45 [.slice (some ⟨W.heap.size + 1, 0, none⟩) 1 1, .slice (some ⟨W.heap.size, 0, none⟩) 1 1], rfl, fun i r hr => ?_⟩
  have hk : Below W2.heap.size W2 (W2.alloc (Obj.cells #[.slice (some ⟨W.heap.size + 1, 0, none⟩) 1 1, .slice (some ⟨W.heap.size, 0, none⟩) 1 1] 45)) := below_new _ _
  match i, hr with
  | 0, hr =>
    cases hr
    refine ⟨_, rfl, RowAt.below (w := W2) ⟨_, _, rfl, Nat.le_refl _, fun j x hx => ⟨_, _, _, rfl, l2.lt, ?_⟩⟩ hk (Nat.le_refl _)⟩
    match j, hx with
    | 0, hx => cases hx; exact ⟨l2.cell (i := 0) rfl, l2.cell (i := 1) rfl⟩
  | 1, hr =>
    cases hr
    refine ⟨_, rfl, RowAt.below (w := W2) ⟨_, _, rfl, Nat.le_refl _, fun j x hx => ⟨_, _, _, rfl, l1.lt, ?_⟩⟩ hk (Nat.le_refl _)⟩
    match j, hx with
    | 0, hx => cases hx; exact ⟨l1.cell (i := 0) rfl, l1.cell (i := 1) rfl⟩
theorem cut_two {P : Program} {md : Region.Mode} {ops : Array Oper} {Q : Exit → Act → World → Prop} {S : World → Prop} {fuel m : Nat} {listed listed' : Array Bool} {a : Act} {w : World} (Mid : Act → World → Prop)
    (h2 : ∀ a w, Mid a w → wpAnyH P md ops Q S m listed' a w) (h1 : (∀ a w, Mid a w → wpAnyH P md ops Q S m listed' a w) → wpAnyH P md ops Q S fuel listed a w) : wpAnyH P md ops Q S fuel listed a w := h1 h2
theorem take_op {P : Program} {md : Region.Mode} {ops : Array Oper} {Q : Exit → Act → World → Prop} {S : World → Prop} {i d : Nat} {op : Op} {ty : TypeId} {pos : String} {after : Array Edge} {g : Option (Nat × Bool)} {v : Value} {fuel : Nat} {listed : Array Bool} {a : Act} {w : World} (hi : ops[i]? = some ⟨some d, op, ty, pos, after, g⟩)
    (hs : Region.noSelect ops = true) (hf : Region.free md ops listed i = true) (hr : (Region.ready md ops listed).contains i = true)
    (hQ : ∀ c a w, Q (.panic c) (a.put (some d) v) w → Q (.panic c) a w) (hy : YieldsIf P ops S ⟨some d, op, ty, pos, after, g⟩ v a) (hS : S w)
    (h : wpAnyH P md ops Q S fuel (listed.setIfInBounds i true) (a.put (some d) v) w) : wpAnyH P md ops Q S (fuel + 1) listed a w := wpAnyH_take hi hs hf hr hQ hy hS h
theorem ready_op {P : Program} {md : Region.Mode} {ops : Array Oper} {Q : Exit → Act → World → Prop} {S : World → Prop} {i d : Nat} {op : Op} {ty : TypeId} {pos : String} {after : Array Edge} {g : Option (Nat × Bool)} {fuel : Nat} {listed : Array Bool} {a : Act} {w : World} {rs : List Nat} (ho : ops[i]? = some ⟨some d, op, ty, pos, after, g⟩)
    (h : ∀ K' : Act → World → Prop, Shut (∀ a w, S w → (S w → wpAnyH P md ops Q S fuel (listed.setIfInBounds i true) a w) → K' a w) → if Region.wanted ⟨some d, op, ty, pos, after, g⟩ (yielded ops a.tmps) = true then Oper.wp P ⟨some d, op, ty, pos, after, g⟩ a w K' Q else K' (a.put (some d) undef) w)
    (hs : AllReadyH P md ops Q S fuel listed a w rs) : AllReadyH P md ops Q S fuel listed a w (i :: rs) := AllReadyH.cons ho h hs
theorem any_norm {P : Program} {md : Region.Mode} {ops : Array Oper} {Q : Exit → Act → World → Prop} {S : World → Prop} {m m' : Nat} {l l' : Array Bool} {a : Act} {w : World} (h : l = l') (hm : m = m') (k : wpAnyH P md ops Q S m' l' a w) : wpAnyH P md ops Q S m l a w := h ▸ hm ▸ k
theorem any_listed {P : Program} {md : Region.Mode} {ops : Array Oper} {Q : Exit → Act → World → Prop} {S : World → Prop} {m : Nat} {l l' : Array Bool} {a : Act} {w : World} (h : l = l') (k : wpAnyH P md ops Q S m l' a w) : wpAnyH P md ops Q S m l a w := h ▸ k
set_option maxRecDepth 100000 in
theorem awake6_any (w : World) (hWant : Want w) : Calls Tryd.prog 7 #[] w fun e w' => e = .returned (.bool true) ∧ Below w.heap.size w w' := by
  have ce := equal6_any 0 1 w
  go_enter Tryd.func7, Tryd.ntmps7
  go_wp2_with fail
  refine ce.mono ?_
  rintro e w1 ⟨rfl, hb1⟩
  clear ce
  obtain ⟨W2, hW2⟩ : ∃ W2, W2 = w1.alloc (Obj.cells #[.int .i64 2, .int .i64 0, .int .i64 1, .int .i64 1, .int .i64 0, .int .i64 0, .bool false, .int .i64 0, .int .i64 1, .int .i64 1, .int .i64 0, .bool false, .int .i64 0, .slice none 0 0] 28) := ⟨_, rfl⟩
  obtain ⟨l2, hb2⟩ := box_one (cs := [.int .i64 2, .int .i64 0, .int .i64 1, .int .i64 1, .int .i64 0, .int .i64 0, .bool false, .int .i64 0, .int .i64 1, .int .i64 1, .int .i64 0, .bool false, .int .i64 0, .slice none 0 0]) hW2
  have hb3 := below_join hb1 hb2
  have pk : PdCell W2 ⟨w1.heap.size, 0, none⟩ (⟨2, 0, 1, ⟨1, 0, 0, false, 0⟩, ⟨1, 1, 0, false, 0⟩⟩ : Pf) (.slice none 0 0) := l2.pd
  have KK := Lib.hid (fun W (h : Below W2.heap.size W2 W) => keep14 pk l2.lt h)
  have HB3 := Lib.hid hb3
  have hb3' := hb3
  have HW2 := Lib.hid hW2
  have hS := Below.refl W2.heap.size W2
  have HWN := Lib.hid (fun W (h : Below W2.heap.size W2 W) => (hWant.below hb3' (Nat.le_refl _)).below h (Nat.le_refl _))
  have p0 : ∀ W, PsAt 0 W (.slice none 0 0) [] := fun W => ⟨rfl, none, 0, rfl⟩
  have s0 : Pr.sizes [] ≤ 1000 := by rw [Pr.sizes]; omega
  have a00 := fun W (h : Below W2.heap.size W2 W) => (pof_any 0 (⟨2, 0, 1, ⟨1, 0, 0, false, 0⟩, ⟨1, 1, 0, false, 0⟩⟩ : Pf) (.slice none 0 0) [] (.slice (some ⟨W.heap.size + 1 + 1, 0, none⟩) 2 2) [[(false, 5)], [(true, 0)]] (((W.alloc (Obj.cells #[.bool false, .int .i64 5] 23)).alloc (Obj.cells #[.bool true, .int .i64 0] 23)).alloc (Obj.cells #[.slice (some ⟨W.heap.size, 0, none⟩) 1 1, .slice (some ⟨W.heap.size + 1, 0, none⟩) 1 1] 45)) (p0 _) s0 (rws_two W false true 5 0) (HWN.out _ ((below_alloc6 (below_alloc6 (below_alloc6 h _) _) _)))).mono fun e w' ⟨he, hb⟩ => (⟨he, below_join (below_alloc6 (below_alloc6 (below_alloc6 h _) _) _) hb⟩ : e = _ ∧ Below W2.heap.size W2 w')
  have a01 := fun W (h : Below W2.heap.size W2 W) => (pof_any 0 (⟨2, 0, 1, ⟨1, 0, 0, false, 0⟩, ⟨1, 1, 0, false, 0⟩⟩ : Pf) (.slice none 0 0) [] (.slice (some ⟨W.heap.size + 1 + 1, 0, none⟩) 2 2) [[(false, 5)], [(true, 0)]] (((W.alloc (Obj.cells #[.bool false, .int .i64 5] 23)).alloc (Obj.cells #[.bool true, .int .i64 0] 23)).alloc (Obj.cells #[.slice (some ⟨W.heap.size, 0, none⟩) 1 1, .slice (some ⟨W.heap.size + 1, 0, none⟩) 1 1] 45)).drew (p0 _) s0 (Rws.drew (rws_two W false true 5 0)) (HWN.out _ ((below_alloc6 (below_alloc6 (below_alloc6 h _) _) _).drew))).mono fun e w' ⟨he, hb⟩ => (⟨he, below_join (below_alloc6 (below_alloc6 (below_alloc6 h _) _) _).drew hb⟩ : e = _ ∧ Below W2.heap.size W2 w')
  have a10 := fun W (h : Below W2.heap.size W2 W) => (pof_any 0 (⟨2, 0, 1, ⟨1, 0, 0, false, 0⟩, ⟨1, 1, 0, false, 0⟩⟩ : Pf) (.slice none 0 0) [] (.slice (some ⟨W.heap.size + 1 + 1, 0, none⟩) 2 2) [[(false, 5)], [(true, 0)]] (((W.alloc (Obj.cells #[.bool true, .int .i64 0] 23)).alloc (Obj.cells #[.bool false, .int .i64 5] 23)).alloc (Obj.cells #[.slice (some ⟨W.heap.size + 1, 0, none⟩) 1 1, .slice (some ⟨W.heap.size, 0, none⟩) 1 1] 45)) (p0 _) s0 (rws_swap W false true 5 0) (HWN.out _ ((below_alloc6 (below_alloc6 (below_alloc6 h _) _) _)))).mono fun e w' ⟨he, hb⟩ => (⟨he, below_join (below_alloc6 (below_alloc6 (below_alloc6 h _) _) _) hb⟩ : e = _ ∧ Below W2.heap.size W2 w')
  have a11 := fun W (h : Below W2.heap.size W2 W) => (pof_any 0 (⟨2, 0, 1, ⟨1, 0, 0, false, 0⟩, ⟨1, 1, 0, false, 0⟩⟩ : Pf) (.slice none 0 0) [] (.slice (some ⟨W.heap.size + 1 + 1, 0, none⟩) 2 2) [[(false, 5)], [(true, 0)]] (((W.alloc (Obj.cells #[.bool true, .int .i64 0] 23)).alloc (Obj.cells #[.bool false, .int .i64 5] 23)).alloc (Obj.cells #[.slice (some ⟨W.heap.size + 1, 0, none⟩) 1 1, .slice (some ⟨W.heap.size, 0, none⟩) 1 1] 45)).drew (p0 _) s0 (Rws.drew (rws_swap W false true 5 0)) (HWN.out _ ((below_alloc6 (below_alloc6 (below_alloc6 h _) _) _).drew))).mono fun e w' ⟨he, hb⟩ => (⟨he, below_join (below_alloc6 (below_alloc6 (below_alloc6 h _) _) _).drew hb⟩ : e = _ ∧ Below W2.heap.size W2 w')
  have b00 := fun W (h : Below W2.heap.size W2 W) => (pof_any 0 (⟨2, 0, 1, ⟨1, 0, 0, false, 0⟩, ⟨1, 1, 0, false, 0⟩⟩ : Pf) (.slice none 0 0) [] (.slice (some ⟨W.heap.size + 1 + 1, 0, none⟩) 2 2) [[(false, 5)], [(false, 5)]] (((W.alloc (Obj.cells #[.bool false, .int .i64 5] 23)).alloc (Obj.cells #[.bool false, .int .i64 5] 23)).alloc (Obj.cells #[.slice (some ⟨W.heap.size, 0, none⟩) 1 1, .slice (some ⟨W.heap.size + 1, 0, none⟩) 1 1] 45)) (p0 _) s0 (rws_two W false false 5 5) (HWN.out _ ((below_alloc6 (below_alloc6 (below_alloc6 h _) _) _)))).mono fun e w' ⟨he, hb⟩ => (⟨he, below_join (below_alloc6 (below_alloc6 (below_alloc6 h _) _) _) hb⟩ : e = _ ∧ Below W2.heap.size W2 w')
  have b01 := fun W (h : Below W2.heap.size W2 W) => (pof_any 0 (⟨2, 0, 1, ⟨1, 0, 0, false, 0⟩, ⟨1, 1, 0, false, 0⟩⟩ : Pf) (.slice none 0 0) [] (.slice (some ⟨W.heap.size + 1 + 1, 0, none⟩) 2 2) [[(false, 5)], [(false, 5)]] (((W.alloc (Obj.cells #[.bool false, .int .i64 5] 23)).alloc (Obj.cells #[.bool false, .int .i64 5] 23)).alloc (Obj.cells #[.slice (some ⟨W.heap.size, 0, none⟩) 1 1, .slice (some ⟨W.heap.size + 1, 0, none⟩) 1 1] 45)).drew (p0 _) s0 (Rws.drew (rws_two W false false 5 5)) (HWN.out _ ((below_alloc6 (below_alloc6 (below_alloc6 h _) _) _).drew))).mono fun e w' ⟨he, hb⟩ => (⟨he, below_join (below_alloc6 (below_alloc6 (below_alloc6 h _) _) _).drew hb⟩ : e = _ ∧ Below W2.heap.size W2 w')
  have b10 := fun W (h : Below W2.heap.size W2 W) => (pof_any 0 (⟨2, 0, 1, ⟨1, 0, 0, false, 0⟩, ⟨1, 1, 0, false, 0⟩⟩ : Pf) (.slice none 0 0) [] (.slice (some ⟨W.heap.size + 1 + 1, 0, none⟩) 2 2) [[(false, 5)], [(false, 5)]] (((W.alloc (Obj.cells #[.bool false, .int .i64 5] 23)).alloc (Obj.cells #[.bool false, .int .i64 5] 23)).alloc (Obj.cells #[.slice (some ⟨W.heap.size + 1, 0, none⟩) 1 1, .slice (some ⟨W.heap.size, 0, none⟩) 1 1] 45)) (p0 _) s0 (rws_swap W false false 5 5) (HWN.out _ ((below_alloc6 (below_alloc6 (below_alloc6 h _) _) _)))).mono fun e w' ⟨he, hb⟩ => (⟨he, below_join (below_alloc6 (below_alloc6 (below_alloc6 h _) _) _) hb⟩ : e = _ ∧ Below W2.heap.size W2 w')
  have b11 := fun W (h : Below W2.heap.size W2 W) => (pof_any 0 (⟨2, 0, 1, ⟨1, 0, 0, false, 0⟩, ⟨1, 1, 0, false, 0⟩⟩ : Pf) (.slice none 0 0) [] (.slice (some ⟨W.heap.size + 1 + 1, 0, none⟩) 2 2) [[(false, 5)], [(false, 5)]] (((W.alloc (Obj.cells #[.bool false, .int .i64 5] 23)).alloc (Obj.cells #[.bool false, .int .i64 5] 23)).alloc (Obj.cells #[.slice (some ⟨W.heap.size + 1, 0, none⟩) 1 1, .slice (some ⟨W.heap.size, 0, none⟩) 1 1] 45)).drew (p0 _) s0 (Rws.drew (rws_swap W false false 5 5)) (HWN.out _ ((below_alloc6 (below_alloc6 (below_alloc6 h _) _) _).drew))).mono fun e w' ⟨he, hb⟩ => (⟨he, below_join (below_alloc6 (below_alloc6 (below_alloc6 h _) _) _).drew hb⟩ : e = _ ∧ Below W2.heap.size W2 w')
  have c3 := in_turn (W0 := W2) fun W _ => pright_any 0 (⟨2, 0, 1, ⟨1, 0, 0, false, 0⟩, ⟨1, 1, 0, false, 0⟩⟩ : Pf) (.slice none 0 0) [] W (p0 _)
  have c4 := in_turn (W0 := W2) fun W _ => ptables_any 0 (⟨2, 0, 1, ⟨1, 0, 0, false, 0⟩, ⟨1, 1, 0, false, 0⟩⟩ : Pf) (.slice none 0 0) [] W (p0 _)
  have c5 : ∀ W, Below W2.heap.size W2 W → Calls Tryd.prog 8 #[.agg #[.int .i64 2, .int .i64 0, .int .i64 1, .int .i64 1, .int .i64 0, .int .i64 0, .bool false, .int .i64 0, .int .i64 1, .int .i64 1, .int .i64 0, .bool false, .int .i64 0, .slice none 0 0]] W fun e w' => ∃ A c, e = .returned (.slice A 2 c) ∧ Below W2.heap.size W2 w' := fun W h => (pcols_any 0 (⟨2, 0, 1, ⟨1, 0, 0, false, 0⟩, ⟨1, 1, 0, false, 0⟩⟩ : Pf) (.slice none 0 0) [] W (p0 _) s0).mono fun e w' ⟨v, he, ⟨A, c, hv, _, _⟩, hb⟩ => ⟨A, c, by rw [he, hv]; rfl, below_join h hb⟩
  have c6 : ∀ W, Below W2.heap.size W2 W → Calls Tryd.prog 14 #[.agg #[.int .i64 2, .int .i64 0, .int .i64 1, .int .i64 1, .int .i64 0, .int .i64 0, .bool false, .int .i64 0, .int .i64 1, .int .i64 1, .int .i64 0, .bool false, .int .i64 0, .slice none 0 0]] W fun e w' => ∃ uc dc, e = .returned (.agg #[.int .i64 2, .int .i64 0, .int .i64 1, .int .i64 1, .int .i64 0, .int .i64 0, .bool false, .int .i64 0, .int .i64 1, .int .i64 1, .int .i64 0, .bool false, .int .i64 0, uc]) ∧ Hid (∀ V, Below w'.heap.size w' V → PsAt dc V uc []) ∧ Below W2.heap.size W2 w' := fun W h => (pcopy_any 0 (⟨2, 0, 1, ⟨1, 0, 0, false, 0⟩, ⟨1, 1, 0, false, 0⟩⟩ : Pf) (.slice none 0 0) [] W (p0 _) s0).mono fun e w' ⟨uc, dc, he, hp, hb⟩ => ⟨uc, dc, he, Lib.hid (fun V hV => hp.below hV (Nat.le_refl _)), below_join h hb⟩
  have cc := fun (uc : Value) (dc : Nat) (W : World) (hc : PsAt dc W uc []) (h : Below W2.heap.size W2 W) => (psame_any dc (⟨2, 0, 1, ⟨1, 0, 0, false, 0⟩, ⟨1, 1, 0, false, 0⟩⟩ : Pf) (⟨2, 0, 1, ⟨1, 0, 0, false, 0⟩, ⟨1, 1, 0, false, 0⟩⟩ : Pf) (.slice none 0 0) uc [] [] W ((p0 W).mono (Nat.zero_le _)) hc).mono fun e w' ⟨he, hb⟩ => (⟨he, below_join h hb⟩ : e = _ ∧ Below W2.heap.size W2 w')
  have c7 := in_turn (W0 := W2) fun W h => pall_any 0 (.slice none 0 0) [] (.slice none 0 0) [] W (p0 _) s0 (Rws.nil W) (HWN.out W h)
  rw [Pr.of_eq, show Pr.made (⟨2, 0, 1, ⟨1, 0, 0, false, 0⟩, ⟨1, 1, 0, false, 0⟩⟩ : Pf) [[(false, 5)], [(true, 0)]] ([].map (Pr.of [[(false, 5)], [(true, 0)]])) = 1 by decide +kernel] at a00 a01 a10 a11
  rw [Pr.of_eq, show Pr.made (⟨2, 0, 1, ⟨1, 0, 0, false, 0⟩, ⟨1, 1, 0, false, 0⟩⟩ : Pf) [[(false, 5)], [(false, 5)]] ([].map (Pr.of [[(false, 5)], [(false, 5)]])) = 2 by decide +kernel] at b00 b01 b10 b11
  rw [show Pr.rightAt (.mk (⟨2, 0, 1, ⟨1, 0, 0, false, 0⟩, ⟨1, 1, 0, false, 0⟩⟩ : Pf) []) 1 = true by rw [Pr.rightAt, Pr.rightAts]; decide +kernel] at c3
  rw [show Pr.tables (.mk (⟨2, 0, 1, ⟨1, 0, 0, false, 0⟩, ⟨1, 1, 0, false, 0⟩⟩ : Pf) []) = 3 by rw [Pr.tables, Pr.tabless]; decide +kernel] at c4
  rw [same_self] at cc
  rw [show Lo.andI (([] : List Pd).map (Pr.of [])) = 2 from rfl] at c7
  dsimp only at a00 a01 a10 a11 b00 b01 b10 b11 c3 c4 cc c7
  replace a00 := Lib.hid a00
  replace a01 := Lib.hid a01
  replace a10 := Lib.hid a10
  replace a11 := Lib.hid a11
  replace b00 := Lib.hid b00
  replace b01 := Lib.hid b01
  replace b10 := Lib.hid b10
  replace b11 := Lib.hid b11
  replace c3 := Lib.hid c3
  replace c4 := Lib.hid c4
  replace c5 := Lib.hid c5
  replace c6 := Lib.hid c6
  replace c7 := Lib.hid c7
  replace cc := Lib.hid cc
  clear hW2 l2 hb2 hb3 hb3' pk hb1 p0 s0 hWant HWN
  go_wp2_with fail
  rw [← HW2.out]
  refine wp_region_held_drew (S := (fun W => (W.cell? ⟨w1.heap.size, 0, none⟩ = some (.int .i64 2) ∧ W.cell? ⟨w1.heap.size, 1, none⟩ = some (.int .i64 0) ∧ W.cell? ⟨w1.heap.size, 2, none⟩ = some (.int .i64 1) ∧ W.cell? ⟨w1.heap.size, 3, none⟩ = some (.int .i64 1) ∧ W.cell? ⟨w1.heap.size, 4, none⟩ = some (.int .i64 0) ∧ W.cell? ⟨w1.heap.size, 5, none⟩ = some (.int .i64 0) ∧ W.cell? ⟨w1.heap.size, 6, none⟩ = some (.bool false) ∧ W.cell? ⟨w1.heap.size, 7, none⟩ = some (.int .i64 0) ∧ W.cell? ⟨w1.heap.size, 8, none⟩ = some (.int .i64 1) ∧ W.cell? ⟨w1.heap.size, 9, none⟩ = some (.int .i64 1) ∧ W.cell? ⟨w1.heap.size, 10, none⟩ = some (.int .i64 0) ∧ W.cell? ⟨w1.heap.size, 11, none⟩ = some (.bool false) ∧ W.cell? ⟨w1.heap.size, 12, none⟩ = some (.int .i64 0) ∧ W.cell? ⟨w1.heap.size, 13, none⟩ = some (.slice none 0 0)) ∧ Below W2.heap.size W2 W)) (by kernel_rfl) (by (try dsimp only); (refine KK.out _ ?_; repeat first | assumption | refine Below.drew ?_ | refine below_alloc6 ?_ _)) (fun hHeld => ?_)
  refine any_norm (l' := Array.replicate 44 false) (m' := 44) (by kernel_rfl) (by kernel_rfl) ?_
  refine cut_two (m := 35) (listed' := #[true, true, true, true, true, true, true, true, true, false, false, false, false, false, false, false, false, false, false, false, false, false, false, false, false, false, false, false, false, false, false, false, false, false, false, false, false, false, false, false, false, false, false, false]) (fun a W => ∃ v5 v7 v8 : Value, a = ⟨#[.bool false, .pointer (some ⟨w1.heap.size, 0, none⟩), .agg #[.int .i64 2, .int .i64 0, .int .i64 1, .int .i64 1, .int .i64 0, .int .i64 0, .bool false, .int .i64 0, .int .i64 1, .int .i64 1, .int .i64 0, .bool false, .int .i64 0, .slice none 0 0], .agg #[.int .i64 2, .int .i64 0, .int .i64 1, .int .i64 1, .int .i64 0, .int .i64 0, .bool false, .int .i64 0, .int .i64 1, .int .i64 1, .int .i64 0, .bool false, .int .i64 0, .slice none 0 0], .agg #[.bool false, .int .i64 5], v5, .agg #[.bool true, .int .i64 0], v7, v8, .int .i64 1, .bool true, .bool true, undef, undef, undef, undef, undef, undef, undef, undef, undef, undef, undef, undef, undef, undef, undef, undef, undef, undef, undef, undef, undef, undef, undef, undef, undef, undef, undef, undef, undef, undef, undef, undef, undef, undef], []⟩ ∧ ((W.cell? ⟨w1.heap.size, 0, none⟩ = some (.int .i64 2) ∧ W.cell? ⟨w1.heap.size, 1, none⟩ = some (.int .i64 0) ∧ W.cell? ⟨w1.heap.size, 2, none⟩ = some (.int .i64 1) ∧ W.cell? ⟨w1.heap.size, 3, none⟩ = some (.int .i64 1) ∧ W.cell? ⟨w1.heap.size, 4, none⟩ = some (.int .i64 0) ∧ W.cell? ⟨w1.heap.size, 5, none⟩ = some (.int .i64 0) ∧ W.cell? ⟨w1.heap.size, 6, none⟩ = some (.bool false) ∧ W.cell? ⟨w1.heap.size, 7, none⟩ = some (.int .i64 0) ∧ W.cell? ⟨w1.heap.size, 8, none⟩ = some (.int .i64 1) ∧ W.cell? ⟨w1.heap.size, 9, none⟩ = some (.int .i64 1) ∧ W.cell? ⟨w1.heap.size, 10, none⟩ = some (.int .i64 0) ∧ W.cell? ⟨w1.heap.size, 11, none⟩ = some (.bool false) ∧ W.cell? ⟨w1.heap.size, 12, none⟩ = some (.int .i64 0) ∧ W.cell? ⟨w1.heap.size, 13, none⟩ = some (.slice none 0 0)) ∧ Below W2.heap.size W2 W)) ?cutA ?fstA
  case fstA =>
    intro hmid
    as_aux_lemma =>
      refine take_op (i := 0) (v := ?v1) rfl (by kernel_rfl) (by kernel_rfl) (by kernel_rfl) (fun _ _ _ h => h) (Or.inl ⟨by rfl, ?hy1⟩) (by assumption) ?rest1
      case hy1 => (intro w hSw; (try dsimp only at hSw); go_simp; try with_reducible rfl)
      try simp only [Act.put, List.setIfInBounds_toArray, List.set_cons_zero, List.set_cons_succ]
      refine take_op (i := 1) (v := ?v2) rfl (by kernel_rfl) (by kernel_rfl) (by kernel_rfl) (fun _ _ _ h => h) (Or.inl ⟨by rfl, ?hy2⟩) (by assumption) ?rest2
      case hy2 => (intro w hSw; (try dsimp only at hSw); go_simp; try with_reducible rfl)
      try simp only [Act.put, List.setIfInBounds_toArray, List.set_cons_zero, List.set_cons_succ]
      refine take_op (i := 3) (v := ?v3) rfl (by kernel_rfl) (by kernel_rfl) (by kernel_rfl) (fun _ _ _ h => h) (Or.inl ⟨by rfl, ?hy3⟩) (by assumption) ?rest3
      case hy3 => (intro w hSw; (try dsimp only at hSw); go_simp; try with_reducible rfl)
      try simp only [Act.put, List.setIfInBounds_toArray, List.set_cons_zero, List.set_cons_succ]
      refine wpAnyH_ready (rs := [2, 4]) (by kernel_rfl) (by simp) ?_
      refine ready_op rfl (fun K hK => ?_) (ready_op rfl (fun K hK => ?_) AllReadyH.nil)
      · go_simp
        refine hK.out _ _ (by (try dsimp only); (refine KK.out _ ?_; repeat first | assumption | refine Below.drew ?_ | refine below_alloc6 ?_ _)) (fun hHeld => ?_)
        clear hK K
        try simp only [List.setIfInBounds_toArray, List.set_cons_zero, List.set_cons_succ]
        refine wpAnyH_ready (rs := [4]) (by kernel_rfl) (by simp) ?_
        refine ready_op rfl (fun K hK => ?_) AllReadyH.nil
        go_simp
        refine hK.out _ _ (by (try dsimp only); (refine KK.out _ ?_; repeat first | assumption | refine Below.drew ?_ | refine below_alloc6 ?_ _)) (fun hHeld => ?_)
        clear hK K
        try simp only [List.setIfInBounds_toArray, List.set_cons_zero, List.set_cons_succ]
        refine wpAnyH_ready (rs := [5]) (by kernel_rfl) (by simp) ?_
        refine ready_op rfl (fun K hK => ?_) AllReadyH.nil
        go_simp
        refine hK.out _ _ (by (try dsimp only); (refine KK.out _ ?_; repeat first | assumption | refine Below.drew ?_ | refine below_alloc6 ?_ _)) (fun hHeld => ?_)
        clear hK K
        try simp only [List.setIfInBounds_toArray, List.set_cons_zero, List.set_cons_succ]
        refine wpAnyH_ready (rs := [6]) (by kernel_rfl) (by simp) ?_
        refine ready_op rfl (fun K hK => ?_) AllReadyH.nil
        go_simp
        first
          | (with_reducible refine (a00.out _ (by repeat first | assumption | refine Below.drew ?_ | refine below_alloc6 ?_ _)).mono ?_; rintro e w' ⟨rfl, hS'⟩)
          | (with_reducible refine (a01.out _ (by repeat first | assumption | refine Below.drew ?_ | refine below_alloc6 ?_ _)).mono ?_; rintro e w' ⟨rfl, hS'⟩)
          | (with_reducible refine (a10.out _ (by repeat first | assumption | refine Below.drew ?_ | refine below_alloc6 ?_ _)).mono ?_; rintro e w' ⟨rfl, hS'⟩)
          | (with_reducible refine (a11.out _ (by repeat first | assumption | refine Below.drew ?_ | refine below_alloc6 ?_ _)).mono ?_; rintro e w' ⟨rfl, hS'⟩)
        try dsimp only
        refine hK.out _ _ (by (try dsimp only); (refine KK.out _ ?_; repeat first | assumption | refine Below.drew ?_ | refine below_alloc6 ?_ _)) (fun hHeld => ?_)
        clear hK K
        try simp only [List.setIfInBounds_toArray, List.set_cons_zero, List.set_cons_succ]
        refine take_op (i := 7) (v := ?v4) rfl (by kernel_rfl) (by kernel_rfl) (by kernel_rfl) (fun _ _ _ h => h) (Or.inl ⟨by rfl, ?hy4⟩) (by assumption) ?rest4
        case hy4 => (intro w hSw; (try dsimp only at hSw); go_simp; try with_reducible rfl)
        try simp only [Act.put, List.setIfInBounds_toArray, List.set_cons_zero, List.set_cons_succ]
        refine take_op (i := 8) (v := ?v5) rfl (by kernel_rfl) (by kernel_rfl) (by kernel_rfl) (fun _ _ _ h => h) (Or.inl ⟨by rfl, ?hy5⟩) (by assumption) ?rest5
        case hy5 => (intro w hSw; (try dsimp only at hSw); go_simp; try with_reducible rfl)
        try simp only [Act.put, List.setIfInBounds_toArray, List.set_cons_zero, List.set_cons_succ]
        exact any_norm (by kernel_rfl) (by kernel_rfl) (hmid _ _ ⟨_, _, _, rfl, by assumption⟩)
      · go_simp
        refine hK.out _ _ (by (try dsimp only); (refine KK.out _ ?_; repeat first | assumption | refine Below.drew ?_ | refine below_alloc6 ?_ _)) (fun hHeld => ?_)
        clear hK K
        try simp only [List.setIfInBounds_toArray, List.set_cons_zero, List.set_cons_succ]
        refine wpAnyH_ready (rs := [2]) (by kernel_rfl) (by simp) ?_
        refine ready_op rfl (fun K hK => ?_) AllReadyH.nil
        go_simp
        refine hK.out _ _ (by (try dsimp only); (refine KK.out _ ?_; repeat first | assumption | refine Below.drew ?_ | refine below_alloc6 ?_ _)) (fun hHeld => ?_)
        clear hK K
        try simp only [List.setIfInBounds_toArray, List.set_cons_zero, List.set_cons_succ]
        refine wpAnyH_ready (rs := [5]) (by kernel_rfl) (by simp) ?_
        refine ready_op rfl (fun K hK => ?_) AllReadyH.nil
        go_simp
        refine hK.out _ _ (by (try dsimp only); (refine KK.out _ ?_; repeat first | assumption | refine Below.drew ?_ | refine below_alloc6 ?_ _)) (fun hHeld => ?_)
        clear hK K
        try simp only [List.setIfInBounds_toArray, List.set_cons_zero, List.set_cons_succ]
        refine wpAnyH_ready (rs := [6]) (by kernel_rfl) (by simp) ?_
        refine ready_op rfl (fun K hK => ?_) AllReadyH.nil
        go_simp
        first
          | (with_reducible refine (a00.out _ (by repeat first | assumption | refine Below.drew ?_ | refine below_alloc6 ?_ _)).mono ?_; rintro e w' ⟨rfl, hS'⟩)
          | (with_reducible refine (a01.out _ (by repeat first | assumption | refine Below.drew ?_ | refine below_alloc6 ?_ _)).mono ?_; rintro e w' ⟨rfl, hS'⟩)
          | (with_reducible refine (a10.out _ (by repeat first | assumption | refine Below.drew ?_ | refine below_alloc6 ?_ _)).mono ?_; rintro e w' ⟨rfl, hS'⟩)
          | (with_reducible refine (a11.out _ (by repeat first | assumption | refine Below.drew ?_ | refine below_alloc6 ?_ _)).mono ?_; rintro e w' ⟨rfl, hS'⟩)
        try dsimp only
        refine hK.out _ _ (by (try dsimp only); (refine KK.out _ ?_; repeat first | assumption | refine Below.drew ?_ | refine below_alloc6 ?_ _)) (fun hHeld => ?_)
        clear hK K
        try simp only [List.setIfInBounds_toArray, List.set_cons_zero, List.set_cons_succ]
        refine take_op (i := 7) (v := ?v6) rfl (by kernel_rfl) (by kernel_rfl) (by kernel_rfl) (fun _ _ _ h => h) (Or.inl ⟨by rfl, ?hy6⟩) (by assumption) ?rest6
        case hy6 => (intro w hSw; (try dsimp only at hSw); go_simp; try with_reducible rfl)
        try simp only [Act.put, List.setIfInBounds_toArray, List.set_cons_zero, List.set_cons_succ]
        refine take_op (i := 8) (v := ?v7) rfl (by kernel_rfl) (by kernel_rfl) (by kernel_rfl) (fun _ _ _ h => h) (Or.inl ⟨by rfl, ?hy7⟩) (by assumption) ?rest7
        case hy7 => (intro w hSw; (try dsimp only at hSw); go_simp; try with_reducible rfl)
        try simp only [Act.put, List.setIfInBounds_toArray, List.set_cons_zero, List.set_cons_succ]
        exact any_norm (by kernel_rfl) (by kernel_rfl) (hmid _ _ ⟨_, _, _, rfl, by assumption⟩)
  rintro a W ⟨v5, v7, v8, rfl, hHeld⟩
  clear hS
  have hSm := hHeld.2
  dsimp only
  refine cut_two (m := 25) (listed' := #[true, true, true, true, true, true, true, true, true, true, true, true, true, true, true, true, true, true, true, false, false, false, false, false, false, false, false, false, false, false, false, false, false, false, false, false, false, false, false, false, false, false, false, false]) (fun a W => ∃ v14 v16 v17 : Value, a = ⟨#[.bool false, .pointer (some ⟨w1.heap.size, 0, none⟩), .agg #[.int .i64 2, .int .i64 0, .int .i64 1, .int .i64 1, .int .i64 0, .int .i64 0, .bool false, .int .i64 0, .int .i64 1, .int .i64 1, .int .i64 0, .bool false, .int .i64 0, .slice none 0 0], .agg #[.int .i64 2, .int .i64 0, .int .i64 1, .int .i64 1, .int .i64 0, .int .i64 0, .bool false, .int .i64 0, .int .i64 1, .int .i64 1, .int .i64 0, .bool false, .int .i64 0, .slice none 0 0], .agg #[.bool false, .int .i64 5], v5, .agg #[.bool true, .int .i64 0], v7, v8, .int .i64 1, .bool true, .bool true, .agg #[.int .i64 2, .int .i64 0, .int .i64 1, .int .i64 1, .int .i64 0, .int .i64 0, .bool false, .int .i64 0, .int .i64 1, .int .i64 1, .int .i64 0, .bool false, .int .i64 0, .slice none 0 0], .agg #[.bool false, .int .i64 5], v14, .agg #[.bool false, .int .i64 5], v16, v17, .int .i64 2, .bool true, .bool true, .bool true, undef, undef, undef, undef, undef, undef, undef, undef, undef, undef, undef, undef, undef, undef, undef, undef, undef, undef, undef, undef, undef, undef, undef, undef], []⟩ ∧ ((W.cell? ⟨w1.heap.size, 0, none⟩ = some (.int .i64 2) ∧ W.cell? ⟨w1.heap.size, 1, none⟩ = some (.int .i64 0) ∧ W.cell? ⟨w1.heap.size, 2, none⟩ = some (.int .i64 1) ∧ W.cell? ⟨w1.heap.size, 3, none⟩ = some (.int .i64 1) ∧ W.cell? ⟨w1.heap.size, 4, none⟩ = some (.int .i64 0) ∧ W.cell? ⟨w1.heap.size, 5, none⟩ = some (.int .i64 0) ∧ W.cell? ⟨w1.heap.size, 6, none⟩ = some (.bool false) ∧ W.cell? ⟨w1.heap.size, 7, none⟩ = some (.int .i64 0) ∧ W.cell? ⟨w1.heap.size, 8, none⟩ = some (.int .i64 1) ∧ W.cell? ⟨w1.heap.size, 9, none⟩ = some (.int .i64 1) ∧ W.cell? ⟨w1.heap.size, 10, none⟩ = some (.int .i64 0) ∧ W.cell? ⟨w1.heap.size, 11, none⟩ = some (.bool false) ∧ W.cell? ⟨w1.heap.size, 12, none⟩ = some (.int .i64 0) ∧ W.cell? ⟨w1.heap.size, 13, none⟩ = some (.slice none 0 0)) ∧ Below W2.heap.size W2 W)) ?cutB ?fstB
  case fstB =>
    intro hmid
    as_aux_lemma =>
      refine take_op (i := 9) (v := ?v8) rfl (by kernel_rfl) (by kernel_rfl) (by kernel_rfl) (fun _ _ _ h => h) (Or.inl ⟨by rfl, ?hy8⟩) (by assumption) ?rest8
      case hy8 => (intro w hSw; (try dsimp only at hSw); go_simp; try with_reducible rfl)
      try simp only [Act.put, List.setIfInBounds_toArray, List.set_cons_zero, List.set_cons_succ]
      refine take_op (i := 10) (v := ?v9) rfl (by kernel_rfl) (by kernel_rfl) (by kernel_rfl) (fun _ _ _ h => h) (Or.inl ⟨by rfl, ?hy9⟩) (by assumption) ?rest9
      case hy9 => (intro w hSw; (try dsimp only at hSw); go_simp; try with_reducible rfl)
      try simp only [Act.put, List.setIfInBounds_toArray, List.set_cons_zero, List.set_cons_succ]
      refine take_op (i := 12) (v := ?v10) rfl (by kernel_rfl) (by kernel_rfl) (by kernel_rfl) (fun _ _ _ h => h) (Or.inl ⟨by rfl, ?hy10⟩) (by assumption) ?rest10
      case hy10 => (intro w hSw; (try dsimp only at hSw); go_simp; try with_reducible rfl)
      try simp only [Act.put, List.setIfInBounds_toArray, List.set_cons_zero, List.set_cons_succ]
      refine wpAnyH_ready (rs := [11, 13]) (by kernel_rfl) (by simp) ?_
      refine ready_op rfl (fun K hK => ?_) (ready_op rfl (fun K hK => ?_) AllReadyH.nil)
      · go_simp
        refine hK.out _ _ (by (try dsimp only); (refine KK.out _ ?_; repeat first | assumption | refine Below.drew ?_ | refine below_alloc6 ?_ _)) (fun hHeld => ?_)
        clear hK K
        try simp only [List.setIfInBounds_toArray, List.set_cons_zero, List.set_cons_succ]
        refine wpAnyH_ready (rs := [13]) (by kernel_rfl) (by simp) ?_
        refine ready_op rfl (fun K hK => ?_) AllReadyH.nil
        go_simp
        refine hK.out _ _ (by (try dsimp only); (refine KK.out _ ?_; repeat first | assumption | refine Below.drew ?_ | refine below_alloc6 ?_ _)) (fun hHeld => ?_)
        clear hK K
        try simp only [List.setIfInBounds_toArray, List.set_cons_zero, List.set_cons_succ]
        refine wpAnyH_ready (rs := [14]) (by kernel_rfl) (by simp) ?_
        refine ready_op rfl (fun K hK => ?_) AllReadyH.nil
        go_simp
        refine hK.out _ _ (by (try dsimp only); (refine KK.out _ ?_; repeat first | assumption | refine Below.drew ?_ | refine below_alloc6 ?_ _)) (fun hHeld => ?_)
        clear hK K
        try simp only [List.setIfInBounds_toArray, List.set_cons_zero, List.set_cons_succ]
        refine wpAnyH_ready (rs := [15]) (by kernel_rfl) (by simp) ?_
        refine ready_op rfl (fun K hK => ?_) AllReadyH.nil
        go_simp
        first
          | (with_reducible refine (b00.out _ (by repeat first | assumption | refine Below.drew ?_ | refine below_alloc6 ?_ _)).mono ?_; rintro e w' ⟨rfl, hS'⟩)
          | (with_reducible refine (b01.out _ (by repeat first | assumption | refine Below.drew ?_ | refine below_alloc6 ?_ _)).mono ?_; rintro e w' ⟨rfl, hS'⟩)
          | (with_reducible refine (b10.out _ (by repeat first | assumption | refine Below.drew ?_ | refine below_alloc6 ?_ _)).mono ?_; rintro e w' ⟨rfl, hS'⟩)
          | (with_reducible refine (b11.out _ (by repeat first | assumption | refine Below.drew ?_ | refine below_alloc6 ?_ _)).mono ?_; rintro e w' ⟨rfl, hS'⟩)
        try dsimp only
        refine hK.out _ _ (by (try dsimp only); (refine KK.out _ ?_; repeat first | assumption | refine Below.drew ?_ | refine below_alloc6 ?_ _)) (fun hHeld => ?_)
        clear hK K
        try simp only [List.setIfInBounds_toArray, List.set_cons_zero, List.set_cons_succ]
        refine take_op (i := 16) (v := ?v11) rfl (by kernel_rfl) (by kernel_rfl) (by kernel_rfl) (fun _ _ _ h => h) (Or.inl ⟨by rfl, ?hy11⟩) (by assumption) ?rest11
        case hy11 => (intro w hSw; (try dsimp only at hSw); go_simp; try with_reducible rfl)
        try simp only [Act.put, List.setIfInBounds_toArray, List.set_cons_zero, List.set_cons_succ]
        refine take_op (i := 17) (v := ?v12) rfl (by kernel_rfl) (by kernel_rfl) (by kernel_rfl) (fun _ _ _ h => h) (Or.inl ⟨by rfl, ?hy12⟩) (by assumption) ?rest12
        case hy12 => (intro w hSw; (try dsimp only at hSw); go_simp; try with_reducible rfl)
        try simp only [Act.put, List.setIfInBounds_toArray, List.set_cons_zero, List.set_cons_succ]
        refine take_op (i := 18) (v := ?v13) rfl (by kernel_rfl) (by kernel_rfl) (by kernel_rfl) (fun _ _ _ h => h) (Or.inl ⟨by rfl, ?hy13⟩) (by assumption) ?rest13
        case hy13 => (intro w hSw; (try dsimp only at hSw); go_simp; try with_reducible rfl)
        try simp only [Act.put, List.setIfInBounds_toArray, List.set_cons_zero, List.set_cons_succ]
        exact any_norm (by kernel_rfl) (by kernel_rfl) (hmid _ _ ⟨_, _, _, rfl, by assumption⟩)
      · go_simp
        refine hK.out _ _ (by (try dsimp only); (refine KK.out _ ?_; repeat first | assumption | refine Below.drew ?_ | refine below_alloc6 ?_ _)) (fun hHeld => ?_)
        clear hK K
        try simp only [List.setIfInBounds_toArray, List.set_cons_zero, List.set_cons_succ]
        refine wpAnyH_ready (rs := [11]) (by kernel_rfl) (by simp) ?_
        refine ready_op rfl (fun K hK => ?_) AllReadyH.nil
        go_simp
        refine hK.out _ _ (by (try dsimp only); (refine KK.out _ ?_; repeat first | assumption | refine Below.drew ?_ | refine below_alloc6 ?_ _)) (fun hHeld => ?_)
        clear hK K
        try simp only [List.setIfInBounds_toArray, List.set_cons_zero, List.set_cons_succ]
        refine wpAnyH_ready (rs := [14]) (by kernel_rfl) (by simp) ?_
        refine ready_op rfl (fun K hK => ?_) AllReadyH.nil
        go_simp
        refine hK.out _ _ (by (try dsimp only); (refine KK.out _ ?_; repeat first | assumption | refine Below.drew ?_ | refine below_alloc6 ?_ _)) (fun hHeld => ?_)
        clear hK K
        try simp only [List.setIfInBounds_toArray, List.set_cons_zero, List.set_cons_succ]
        refine wpAnyH_ready (rs := [15]) (by kernel_rfl) (by simp) ?_
        refine ready_op rfl (fun K hK => ?_) AllReadyH.nil
        go_simp
        first
          | (with_reducible refine (b00.out _ (by repeat first | assumption | refine Below.drew ?_ | refine below_alloc6 ?_ _)).mono ?_; rintro e w' ⟨rfl, hS'⟩)
          | (with_reducible refine (b01.out _ (by repeat first | assumption | refine Below.drew ?_ | refine below_alloc6 ?_ _)).mono ?_; rintro e w' ⟨rfl, hS'⟩)
          | (with_reducible refine (b10.out _ (by repeat first | assumption | refine Below.drew ?_ | refine below_alloc6 ?_ _)).mono ?_; rintro e w' ⟨rfl, hS'⟩)
          | (with_reducible refine (b11.out _ (by repeat first | assumption | refine Below.drew ?_ | refine below_alloc6 ?_ _)).mono ?_; rintro e w' ⟨rfl, hS'⟩)
        try dsimp only
        refine hK.out _ _ (by (try dsimp only); (refine KK.out _ ?_; repeat first | assumption | refine Below.drew ?_ | refine below_alloc6 ?_ _)) (fun hHeld => ?_)
        clear hK K
        try simp only [List.setIfInBounds_toArray, List.set_cons_zero, List.set_cons_succ]
        refine take_op (i := 16) (v := ?v14) rfl (by kernel_rfl) (by kernel_rfl) (by kernel_rfl) (fun _ _ _ h => h) (Or.inl ⟨by rfl, ?hy14⟩) (by assumption) ?rest14
        case hy14 => (intro w hSw; (try dsimp only at hSw); go_simp; try with_reducible rfl)
        try simp only [Act.put, List.setIfInBounds_toArray, List.set_cons_zero, List.set_cons_succ]
        refine take_op (i := 17) (v := ?v15) rfl (by kernel_rfl) (by kernel_rfl) (by kernel_rfl) (fun _ _ _ h => h) (Or.inl ⟨by rfl, ?hy15⟩) (by assumption) ?rest15
        case hy15 => (intro w hSw; (try dsimp only at hSw); go_simp; try with_reducible rfl)
        try simp only [Act.put, List.setIfInBounds_toArray, List.set_cons_zero, List.set_cons_succ]
        refine take_op (i := 18) (v := ?v16) rfl (by kernel_rfl) (by kernel_rfl) (by kernel_rfl) (fun _ _ _ h => h) (Or.inl ⟨by rfl, ?hy16⟩) (by assumption) ?rest16
        case hy16 => (intro w hSw; (try dsimp only at hSw); go_simp; try with_reducible rfl)
        try simp only [Act.put, List.setIfInBounds_toArray, List.set_cons_zero, List.set_cons_succ]
        exact any_norm (by kernel_rfl) (by kernel_rfl) (hmid _ _ ⟨_, _, _, rfl, by assumption⟩)
  rintro a X ⟨v14, v16, v17, rfl, hHeld⟩
  clear hSm
  have hSn := hHeld.2
  dsimp only
  as_aux_lemma =>
    refine take_op (i := 19) (v := ?v17) rfl (by kernel_rfl) (by kernel_rfl) (by kernel_rfl) (fun _ _ _ h => h) (Or.inl ⟨by rfl, ?hy17⟩) (by assumption) ?rest17
    case hy17 => (intro w hSw; (try dsimp only at hSw); go_simp; try with_reducible rfl)
    try simp only [Act.put, List.setIfInBounds_toArray, List.set_cons_zero, List.set_cons_succ]
    refine wpAnyH_ready (rs := [20]) (by kernel_rfl) (by simp) ?_
    refine ready_op rfl (fun K hK => ?_) AllReadyH.nil
    go_simp
    with_reducible refine (c3.out _ (by repeat first | assumption | refine Below.drew ?_ | refine below_alloc6 ?_ _)).mono ?_
    rintro e w' ⟨rfl, hS'⟩
    try dsimp only
    refine hK.out _ _ (by (try dsimp only); (refine KK.out _ ?_; repeat first | assumption | refine Below.drew ?_ | refine below_alloc6 ?_ _)) (fun hHeld => ?_)
    clear hK K
    try simp only [List.setIfInBounds_toArray, List.set_cons_zero, List.set_cons_succ]
    refine take_op (i := 21) (v := ?v18) rfl (by kernel_rfl) (by kernel_rfl) (by kernel_rfl) (fun _ _ _ h => h) (Or.inl ⟨by rfl, ?hy18⟩) (by assumption) ?rest18
    case hy18 => (intro w hSw; (try dsimp only at hSw); go_simp; try with_reducible rfl)
    try simp only [Act.put, List.setIfInBounds_toArray, List.set_cons_zero, List.set_cons_succ]
    refine take_op (i := 22) (v := ?v19) rfl (by kernel_rfl) (by kernel_rfl) (by kernel_rfl) (fun _ _ _ h => h) (Or.inl ⟨by rfl, ?hy19⟩) (by assumption) ?rest19
    case hy19 => (intro w hSw; (try dsimp only at hSw); go_simp; try with_reducible rfl)
    try simp only [Act.put, List.setIfInBounds_toArray, List.set_cons_zero, List.set_cons_succ]
    refine take_op (i := 23) (v := ?v20) rfl (by kernel_rfl) (by kernel_rfl) (by kernel_rfl) (fun _ _ _ h => h) (Or.inl ⟨by rfl, ?hy20⟩) (by assumption) ?rest20
    case hy20 => (intro w hSw; (try dsimp only at hSw); go_simp; try with_reducible rfl)
    try simp only [Act.put, List.setIfInBounds_toArray, List.set_cons_zero, List.set_cons_succ]
    refine wpAnyH_ready (rs := [24]) (by kernel_rfl) (by simp) ?_
    refine ready_op rfl (fun K hK => ?_) AllReadyH.nil
    go_simp
    with_reducible refine (c4.out _ (by repeat first | assumption | refine Below.drew ?_ | refine below_alloc6 ?_ _)).mono ?_
    rintro e w' ⟨rfl, hS'⟩
    try dsimp only
    refine hK.out _ _ (by (try dsimp only); (refine KK.out _ ?_; repeat first | assumption | refine Below.drew ?_ | refine below_alloc6 ?_ _)) (fun hHeld => ?_)
    clear hK K
    try simp only [List.setIfInBounds_toArray, List.set_cons_zero, List.set_cons_succ]
    refine take_op (i := 25) (v := ?v21) rfl (by kernel_rfl) (by kernel_rfl) (by kernel_rfl) (fun _ _ _ h => h) (Or.inl ⟨by rfl, ?hy21⟩) (by assumption) ?rest21
    case hy21 => (intro w hSw; (try dsimp only at hSw); go_simp; try with_reducible rfl)
    try simp only [Act.put, List.setIfInBounds_toArray, List.set_cons_zero, List.set_cons_succ]
    refine take_op (i := 26) (v := ?v22) rfl (by kernel_rfl) (by kernel_rfl) (by kernel_rfl) (fun _ _ _ h => h) (Or.inl ⟨by rfl, ?hy22⟩) (by assumption) ?rest22
    case hy22 => (intro w hSw; (try dsimp only at hSw); go_simp; try with_reducible rfl)
    try simp only [Act.put, List.setIfInBounds_toArray, List.set_cons_zero, List.set_cons_succ]
    refine take_op (i := 27) (v := ?v23) rfl (by kernel_rfl) (by kernel_rfl) (by kernel_rfl) (fun _ _ _ h => h) (Or.inl ⟨by rfl, ?hy23⟩) (by assumption) ?rest23
    case hy23 => (intro w hSw; (try dsimp only at hSw); go_simp; try with_reducible rfl)
    try simp only [Act.put, List.setIfInBounds_toArray, List.set_cons_zero, List.set_cons_succ]
    refine take_op (i := 28) (v := ?v24) rfl (by kernel_rfl) (by kernel_rfl) (by kernel_rfl) (fun _ _ _ h => h) (Or.inl ⟨by rfl, ?hy24⟩) (by assumption) ?rest24
    case hy24 => (intro w hSw; (try dsimp only at hSw); go_simp; try with_reducible rfl)
    try simp only [Act.put, List.setIfInBounds_toArray, List.set_cons_zero, List.set_cons_succ]
    refine wpAnyH_ready (rs := [29]) (by kernel_rfl) (by simp) ?_
    refine ready_op rfl (fun K hK => ?_) AllReadyH.nil
    go_simp
    with_reducible refine (c5.out _ (by repeat first | assumption | refine Below.drew ?_ | refine below_alloc6 ?_ _)).mono ?_
    rintro e w' ⟨A5, e5, rfl, hS'⟩
    try dsimp only
    refine hK.out _ _ (by (try dsimp only); (refine KK.out _ ?_; repeat first | assumption | refine Below.drew ?_ | refine below_alloc6 ?_ _)) (fun hHeld => ?_)
    clear hK K
    try simp only [List.setIfInBounds_toArray, List.set_cons_zero, List.set_cons_succ]
    refine take_op (i := 30) (v := ?v25) rfl (by kernel_rfl) (by kernel_rfl) (by kernel_rfl) (fun _ _ _ h => h) (Or.inl ⟨by rfl, ?hy25⟩) (by assumption) ?rest25
    case hy25 => (intro w hSw; (try dsimp only at hSw); go_simp; try with_reducible rfl)
    try simp only [Act.put, List.setIfInBounds_toArray, List.set_cons_zero, List.set_cons_succ]
    refine take_op (i := 31) (v := ?v26) rfl (by kernel_rfl) (by kernel_rfl) (by kernel_rfl) (fun _ _ _ h => h) (Or.inl ⟨by rfl, ?hy26⟩) (by assumption) ?rest26
    case hy26 => (intro w hSw; (try dsimp only at hSw); go_simp; try with_reducible rfl)
    try simp only [Act.put, List.setIfInBounds_toArray, List.set_cons_zero, List.set_cons_succ]
    refine take_op (i := 32) (v := ?v27) rfl (by kernel_rfl) (by kernel_rfl) (by kernel_rfl) (fun _ _ _ h => h) (Or.inl ⟨by rfl, ?hy27⟩) (by assumption) ?rest27
    case hy27 => (intro w hSw; (try dsimp only at hSw); go_simp; try with_reducible rfl)
    try simp only [Act.put, List.setIfInBounds_toArray, List.set_cons_zero, List.set_cons_succ]
    refine take_op (i := 33) (v := ?v28) rfl (by kernel_rfl) (by kernel_rfl) (by kernel_rfl) (fun _ _ _ h => h) (Or.inl ⟨by rfl, ?hy28⟩) (by assumption) ?rest28
    case hy28 => (intro w hSw; (try dsimp only at hSw); go_simp; try with_reducible rfl)
    try simp only [Act.put, List.setIfInBounds_toArray, List.set_cons_zero, List.set_cons_succ]
    refine take_op (i := 34) (v := ?v29) rfl (by kernel_rfl) (by kernel_rfl) (by kernel_rfl) (fun _ _ _ h => h) (Or.inl ⟨by rfl, ?hy29⟩) (by assumption) ?rest29
    case hy29 => (intro w hSw; (try dsimp only at hSw); go_simp; try with_reducible rfl)
    try simp only [Act.put, List.setIfInBounds_toArray, List.set_cons_zero, List.set_cons_succ]
    refine take_op (i := 35) (v := ?v30) rfl (by kernel_rfl) (by kernel_rfl) (by kernel_rfl) (fun _ _ _ h => h) (Or.inl ⟨by rfl, ?hy30⟩) (by assumption) ?rest30
    case hy30 => (intro w hSw; (try dsimp only at hSw); go_simp; try with_reducible rfl)
    try simp only [Act.put, List.setIfInBounds_toArray, List.set_cons_zero, List.set_cons_succ]
    refine wpAnyH_ready (rs := [36]) (by kernel_rfl) (by simp) ?_
    refine ready_op rfl (fun K hK => ?_) AllReadyH.nil
    go_simp
    with_reducible refine (c6.out _ (by repeat first | assumption | refine Below.drew ?_ | refine below_alloc6 ?_ _)).mono ?_
    rintro e wc ⟨uc, dc, rfl, hcp, hSc⟩
    have hrc := Below.refl wc.heap.size wc
    try dsimp only
    refine hK.out _ _ (by (try dsimp only); (refine KK.out _ ?_; repeat first | assumption | refine Below.drew ?_ | refine below_alloc6 ?_ _)) (fun hHeld => ?_)
    clear hK K
    try simp only [List.setIfInBounds_toArray, List.set_cons_zero, List.set_cons_succ]
    refine wpAnyH_ready (rs := [37]) (by kernel_rfl) (by simp) ?_
    refine ready_op rfl (fun K hK => ?_) AllReadyH.nil
    go_simp
    with_reducible refine (cc.out _ _ _ (hcp.out _ (by repeat first | assumption | refine Below.drew ?_)) (by repeat first | assumption | refine Below.drew ?_ | refine below_alloc6 ?_ _)).mono ?_
    rintro e w' ⟨rfl, hS'⟩
    try dsimp only
    refine hK.out _ _ (by (try dsimp only); (refine KK.out _ ?_; repeat first | assumption | refine Below.drew ?_ | refine below_alloc6 ?_ _)) (fun hHeld => ?_)
    clear hK K
    try simp only [List.setIfInBounds_toArray, List.set_cons_zero, List.set_cons_succ]
    refine take_op (i := 38) (v := ?v31) rfl (by kernel_rfl) (by kernel_rfl) (by kernel_rfl) (fun _ _ _ h => h) (Or.inl ⟨by rfl, ?hy31⟩) (by assumption) ?rest31
    case hy31 => (intro w hSw; (try dsimp only at hSw); go_simp; try with_reducible rfl)
    try simp only [Act.put, List.setIfInBounds_toArray, List.set_cons_zero, List.set_cons_succ]
    refine take_op (i := 39) (v := ?v32) rfl (by kernel_rfl) (by kernel_rfl) (by kernel_rfl) (fun _ _ _ h => h) (Or.inl ⟨by rfl, ?hy32⟩) (by assumption) ?rest32
    case hy32 => (intro w hSw; (try dsimp only at hSw); go_simp; try with_reducible rfl)
    try simp only [Act.put, List.setIfInBounds_toArray, List.set_cons_zero, List.set_cons_succ]
    refine wpAnyH_ready (rs := [40]) (by kernel_rfl) (by simp) ?_
    refine ready_op rfl (fun K hK => ?_) AllReadyH.nil
    go_simp
    with_reducible refine (c7.out _ (by repeat first | assumption | refine Below.drew ?_ | refine below_alloc6 ?_ _)).mono ?_
    rintro e w' ⟨rfl, hS'⟩
    try dsimp only
    refine hK.out _ _ (by (try dsimp only); (refine KK.out _ ?_; repeat first | assumption | refine Below.drew ?_ | refine below_alloc6 ?_ _)) (fun hHeld => ?_)
    clear hK K
    try simp only [List.setIfInBounds_toArray, List.set_cons_zero, List.set_cons_succ]
    refine take_op (i := 41) (v := ?v33) rfl (by kernel_rfl) (by kernel_rfl) (by kernel_rfl) (fun _ _ _ h => h) (Or.inl ⟨by rfl, ?hy33⟩) (by assumption) ?rest33
    case hy33 => (intro w hSw; (try dsimp only at hSw); go_simp; try with_reducible rfl)
    try simp only [Act.put, List.setIfInBounds_toArray, List.set_cons_zero, List.set_cons_succ]
    refine take_op (i := 42) (v := ?v34) rfl (by kernel_rfl) (by kernel_rfl) (by kernel_rfl) (fun _ _ _ h => h) (Or.inl ⟨by rfl, ?hy34⟩) (by assumption) ?rest34
    case hy34 => (intro w hSw; (try dsimp only at hSw); go_simp; try with_reducible rfl)
    try simp only [Act.put, List.setIfInBounds_toArray, List.set_cons_zero, List.set_cons_succ]
    refine take_op (i := 43) (v := ?v35) rfl (by kernel_rfl) (by kernel_rfl) (by kernel_rfl) (fun _ _ _ h => h) (Or.inl ⟨by rfl, ?hy35⟩) (by assumption) ?rest35
    case hy35 => (intro w hSw; (try dsimp only at hSw); go_simp; try with_reducible rfl)
    try simp only [Act.put, List.setIfInBounds_toArray, List.set_cons_zero, List.set_cons_succ]
    refine wpAnyH_done (by kernel_rfl) ?_ _
    go_wp2_with fail
    go_ret
    exact ⟨rfl, below_join HB3.out (by repeat first | assumption | refine Below.drew ?_ | refine below_alloc6 ?_ _)⟩
end Go.Proofs.YthfoagglncimnaaDoor
