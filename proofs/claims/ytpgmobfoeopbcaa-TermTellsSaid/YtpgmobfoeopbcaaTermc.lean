/-
  LAYER 5's few AND awake.
-/
import Derived.Test.YtpgmobfoeopbcaaTermb
import Derived.Test.YtpgmobfoeopbcaaTurn
namespace Go.Proofs.Ytpgmobfoeopbcaa
open Go.RowKit
set_option maxHeartbeats 400000

def Te.few (rs : List (List Vl)) : Bool := decide (rs.length ≤ 70 ∧ ∀ r ∈ rs, r.length ≤ 20)
theorem Te.few_yes {rs : List (List Vl)} (h : Te.few rs = true) : rs.length ≤ 70 ∧ ∀ r ∈ rs, r.length ≤ 20 := of_decide_eq_true h
theorem few_any (v : Value) (rs : List (List Vl)) (w : World) (hv : Rws w v rs) :
    Calls Try.prog 5 #[v] w fun e w' => e = .returned (.bool (Te.few rs)) ∧ w = w' := by
  obtain ⟨A, cp, rfl, _, hx⟩ := hv.at_
  obtain ⟨q, hq⟩ : ∃ q, q = rs.length := ⟨_, rfl⟩
  rw [← hq]
  have HQ := Lib.hid hq
  have HX := Lib.hid hx
  clear hq hx hv
  go_enter Try.func5, Try.ntmps5
  go_wp2
  go_loop [3] (fun i => ∃ a : Nat, a ≤ q ∧ a ≤ 100 ∧ i = .int .i64 a ∧ Hid (∀ (j : Nat) (r : List Vl), j < a → rs[j]? = some r → r.length ≤ 20)) (fun i => 100 - (intOf i).toNat)
  case atStart => exact ⟨0, Nat.zero_le _, Nat.zero_le _, rfl, Lib.hid (fun j r h => by omega)⟩
  case round =>
    obtain ⟨a, ha, ha2, rfl, hs⟩ := hrel
    by_cases hlt : a < q
    · by_cases hlt2 : a < 100
      · obtain ⟨r, gr⟩ : ∃ r, rs[a]? = some r := ⟨rs[a]'(by have := HQ.out; omega), List.getElem?_eq_getElem _⟩
        obtain ⟨b, o, p, B, d, rfl, hcell, _, _⟩ := HX.out a r gr
        obtain ⟨m, hmr⟩ : ∃ m, m = r.length := ⟨_, rfl⟩
        rw [← hmr] at hcell
        have HM := Lib.hid hmr
        have GR := Lib.hid gr
        clear hmr gr
        by_cases hm : 20 < m
        · have HF : Hid (Te.few rs = false) := Lib.hid (decide_eq_false (fun h => by have := h.2 r (List.mem_of_getElem? GR.out); have := HM.out; omega))
          have d1 : decide (20 < m) = true := by simpa using hm
          go_wp2
          go_ret
          exact ⟨ret_bool HF.out.symm, rfl⟩
        · have hs2 : Hid (∀ (j : Nat) (r : List Vl), j < a + 1 → rs[j]? = some r → r.length ≤ 20) := Lib.hid (fun j r' hj hr' => by
            by_cases e : j = a
            · subst e; rw [GR.out] at hr'; cases hr'; have := HM.out; omega
            · exact hs.out j r' (by omega) hr')
          have d1 : decide (20 < m) = false := by simpa using hm
          go_wp2
          go_round
          case rel => exact ⟨a + 1, by omega, by omega, by go_num, hs2⟩
          case measure => simp [intOf]; omega
      · obtain rfl : a = 100 := by omega
        have HF : Hid (Te.few rs = false) := Lib.hid (decide_eq_false (fun h => by have := h.1; have := HQ.out; omega))
        go_wp2
        go_ret
        exact ⟨ret_bool (by rw [HF.out]; simp; omega), rfl⟩
    · obtain rfl : a = q := by omega
      have HF : Hid (Te.few rs = decide (a ≤ 70)) := Lib.hid (by
        unfold Te.few
        rw [decide_eq_decide, HQ.out]
        refine ⟨fun h => h.1, fun h => ⟨h, fun r hr => ?_⟩⟩
        obtain ⟨j, hj, e⟩ := List.mem_iff_getElem.1 hr
        exact hs.out j r (by have := HQ.out; omega) (by rw [List.getElem?_eq_getElem hj, e]))
      clear hlt
      go_wp2
      go_ret
      exact ⟨ret_bool (by rw [HF.out]; simp; try omega), rfl⟩
theorem box_one {w W0 : World} {t : TypeId} {cs : List Value} (h : W0 = w.alloc (Obj.cells cs.toArray t)) : Lies W0 w.heap.size t cs ∧ Below w.heap.size w W0 := by
  rw [h]; exact ⟨Lies.new w t cs, below_new w _⟩
/-- rows that the call has just built: nil, nil, and one of two values -/
theorem rws_built (W : World) (z z' : Bool) (n n' : Int) (g : Nat) (hg : W.heap.size = g) :
    Rws ((W.alloc (Obj.cells #[.bool z, .int .i64 n, .bool z', .int .i64 n'] 23)).alloc (Obj.cells #[.slice none 0 0, .slice none 0 0, .slice (some ⟨g, 0, none⟩) 2 2] 36)) (.slice (some ⟨g + 1, 0, none⟩) 3 3) [[], [], [(z, n), (z', n')]] := by
  subst hg
  obtain ⟨W1, hW1⟩ : ∃ W1, W1 = W.alloc (Obj.cells #[.bool z, .int .i64 n, .bool z', .int .i64 n'] 23) := ⟨_, rfl⟩
  obtain ⟨l1, hb1⟩ := box_one (cs := [.bool z, .int .i64 n, .bool z', .int .i64 n']) hW1
  rw [← hW1]
  have hs : W.heap.size + 1 = W1.heap.size := by rw [hW1, World.size_alloc]
  rw [hs]
  refine ⟨[.slice none 0 0, .slice none 0 0, .slice (some ⟨W.heap.size, 0, none⟩) 2 2], Sl.new W1 _ _, rfl, fun i r hr => ?_⟩
  match i, hr with
  | 0, hr => cases hr; exact ⟨_, rfl, RowAt.nil _⟩
  | 1, hr => cases hr; exact ⟨_, rfl, RowAt.nil _⟩
  | 2, hr =>
    cases hr
    refine ⟨_, rfl, RowAt.below (w := W1) ?_ (below_new _ _) (Nat.le_refl _)⟩
    refine ⟨_, _, rfl, Nat.le_refl _, fun j x hx => ⟨_, _, _, rfl, l1.lt, ?_⟩⟩
    match j, hx with
    | 0, hx => cases hx; exact ⟨l1.cell (i := 0) rfl, l1.cell (i := 1) rfl⟩
    | 1, hx => cases hx; exact ⟨l1.cell (i := 2) rfl, l1.cell (i := 3) rfl⟩
theorem awake5_any (w : World) :
    Calls Try.prog 6 #[] w fun e w' => e = .returned (.bool true) ∧ Below w.heap.size w w' := by
  obtain ⟨W0, hW0⟩ : ∃ W0, W0 = w.alloc (Obj.cells #[.int .i64 1, .int .i64 2, .int .i64 1, .bool false, .int .i64 0] 25) := ⟨_, rfl⟩
  obtain ⟨l0, hb0⟩ := box_one (cs := [.int .i64 1, .int .i64 2, .int .i64 1, .bool false, .int .i64 0]) hW0
  have k0 := cell_turn (l0.cell (i := 0) rfl)
  have k1 := cell_turn (l0.cell (i := 1) rfl)
  have k2 := cell_turn (l0.cell (i := 2) rfl)
  have k3 := cell_turn (l0.cell (i := 3) rfl)
  have k4 := cell_turn (l0.cell (i := 4) rfl)
  have c1 := in_turn (W0 := W0) fun W _ => tof_any 1 2 1 false 0 _ [] W (Rws.nil W)
  have c2 := in_turn (W0 := W0) fun W _ => tright_any 1 2 1 false 0 W
  have c3 := in_turn (W0 := W0) fun W _ => ttables_any 1 2 1 false 0 W
  have c4 := in_turn (W0 := W0) fun W _ => tsame_any 1 2 1 false 0 1 2 1 false 0 W
  rw [show Te.val ⟨1, 2, 1, false, 0⟩ [] = (true, 0) from rfl] at c1
  rw [show Te.right ⟨1, 2, 1, false, 0⟩ = true from rfl] at c2
  rw [show Te.tables ⟨1, 2, 1, false, 0⟩ = 4 by decide +kernel] at c3
  rw [show Te.same ⟨1, 2, 1, false, 0⟩ ⟨1, 2, 1, false, 0⟩ = true from rfl] at c4
  have c5 := fun W (h : Below W0.heap.size W0 W) => (tof_any 1 2 1 false 0 _ _ _ (rws_built W false false 5 7 _ rfl)).mono fun e w' ⟨he, hb⟩ => (⟨he, below_join (below_join h (below_new2 W _ _)) hb⟩ : e = _ ∧ Below W0.heap.size W0 w')
  rw [show Te.val ⟨1, 2, 1, false, 0⟩ [[], [], [(false, 5), (false, 7)]] = (false, 7) by decide +kernel] at c5
  dsimp only at c1 c5
  have HW := Lib.hid hW0
  have hS := Below.refl W0.heap.size W0
  clear l0 hW0
  go_enter Try.func6, Try.ntmps6
  go_wp2_with fail
  rw [← HW.out]
  go_wp2_with ((first
    | (with_reducible refine (c1 _ (by assumption)).mono ?_) | (with_reducible refine (c2 _ (by assumption)).mono ?_)
    | (with_reducible refine (c3 _ (by assumption)).mono ?_) | (with_reducible refine (c4 _ (by assumption)).mono ?_) | (with_reducible refine (c5 _ (by assumption)).mono ?_)); rintro e w' ⟨rfl, hS'⟩)
  go_ret
  exact ⟨rfl, below_join hb0 (by assumption)⟩
end Go.Proofs.Ytpgmobfoeopbcaa
