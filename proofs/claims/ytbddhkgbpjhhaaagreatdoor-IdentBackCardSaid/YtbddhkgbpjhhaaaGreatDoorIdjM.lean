/-
  PACKAGE ident: Ways, given that its function keeps what it is handed.
-/
import Derived.Test.YtbddhkgbpjhhaaaGreatDoorIdgM
import Derived.Test.YtbddhkgbpjhhaaaGreatDoorIdbM
namespace Go.Proofs.YtbddhkgbpjhhaaaGreatDoor
open Go.RowKit Go.Sort
set_option maxHeartbeats 6400000
theorem Id.here_len (a : Tr) : (Id.here a).length ≤ 5 := by
  unfold Id.here
  exact Nat.le_trans (List.length_filterMap_le _ _) (by simp)
theorem Id.ways_len (a : Tr) : (Id.ways a).length ≤ 5 * Tr.size a := by
  refine Tr.ind (P := fun a => (Id.ways a).length ≤ 5 * Tr.size a) (fun a ih => ?_) a
  have h1 := Id.here_len a
  have h2 := Tr.size_at a
  by_cases h : a.ks.length = 2
  · obtain ⟨x, y, hk⟩ : ∃ x y, a.ks = [x, y] := by
      match hkk : a.ks, h with
      | [x, y], _ => exact ⟨x, y, rfl⟩
    have ex := ih x (by rw [hk]; simp)
    have ey := ih y (by rw [hk]; simp)
    have es := Id.size_two hk
    rw [Id.ways_two hk, List.length_append, List.length_append, List.length_map, List.length_map]
    omega
  · rw [Id.ways_not h]; omega
def WaysIs (a : Tr) (w : World) (E : Ending) (w' : World) : Prop := ∃ v d, E = .returned v ∧ TsOn (fun k => w.heap.size ≤ k) d w' v (Id.ways a) ∧ Below w.heap.size w w'
set_option maxRecDepth 100000 in
theorem iways_of (hand : ∀ (N base lb : Nat), N ≤ 1000 → Hand N 5000 (fun _ => False) (Kept base lb) 31 #[.pointer (some ⟨lb, 0, none⟩)]) (a : Tr) (uA : Option Addr) (uN uC : Nat) (pA : Option Addr) (pN pC : Nat) (w : World) (ht : TrHang w (a, .slice uA uN uC, .slice pA pN pC)) (hsz : Tr.size a ≤ 1000) (hC : Chgs w) (hW : Want w) :
    Calls Tryz.prog 8 #[.agg #[.int .i64 a.k, .int .i64 a.t, .slice uA uN uC, .slice pA pN pC, .bool a.h]] w (WaysIs a w) := by
  have hon : TrOn (fun k => k < w.heap.size) w (a, .slice uA uN uC, .slice pA pN pC) := ht.on fun k h => h
  obtain ⟨W0, hW0⟩ : ∃ W0, W0 = (w.alloc (Obj.cells #[.int .i64 a.k, .int .i64 a.t, .slice uA uN uC, .slice pA pN pC, .bool a.h] 26)).alloc (Obj.cells #[.slice none 0 0] 23) := ⟨_, rfl⟩
  obtain ⟨l0, l1, hb0⟩ := box_two (cs := [.int .i64 a.k, .int .i64 a.t, .slice uA uN uC, .slice pA pN pC, .bool a.h]) (ds := [.slice none 0 0]) hW0
  have hs0 : W0.heap.size = w.heap.size + 1 + 1 := by rw [hW0, World.size_alloc, World.size_alloc]
  have cm := imark_any (fun k => k < w.heap.size) a uA uN uC pA pN pC W0 (hon.keep hb0.size fun k hk hlt => ⟨hb0.block k hlt, hk⟩) hsz (fun k hk => Nat.lt_of_lt_of_le hk hb0.size)
  have q0 := l0.cell (i := 0) rfl
  have q1 := l0.cell (i := 1) rfl
  have q2 := l0.cell (i := 2) rfl
  have q3 := l0.cell (i := 3) rfl
  have q4 := l0.cell (i := 4) rfl
  have HW := Lib.hid hW0
  have HB0 := Lib.hid hb0
  have HL1 := Lib.hid l1
  have HS0 := Lib.hid hs0
  have HSZ := Lib.hid hsz
  have HC := Lib.hid hC
  have HWA := Lib.hid hW
  have HAND := Lib.hid hand
  clear hon hW0 l0 l1 hb0 hs0 hsz hC hW ht hand
  go_enter Tryz.func8, Tryz.ntmps8
  go_upto_region 2 with (fail)
  rw [← HW.out]
  go_wp2_with fail
  refine cm.mono ?_
  rintro E w1 ⟨xA, xN, xC, rfl, htn, hb1⟩
  have hbw := below_join HB0.out hb1
  have hs1 : w.heap.size + 1 < w1.heap.size := by have := hb1.size; have := HS0.out; omega
  have hkept : Kept w.heap.size (w.heap.size + 1) [] (fun k => k = w.heap.size + 1) w1 :=
    ⟨⟨hs1, Nat.le_succ _, rfl⟩, fun k hk => by subst hk; exact ⟨Nat.le_succ _, hs1⟩, .slice none 0 0, [], rfl, HL1.out.below hb1 (by have := HS0.out; omega), ⟨World.ownsRow_nil _ _ _ _, fun m hm => by simp at hm⟩, fun k hk => by cases hk⟩
  have hg1 : 0 < w.heap.size := block_lt_of_cell (HC.out 0 _ (show Id.cells[0]? = some _ from rfl))
  have hg2 : 2 < w.heap.size := block_lt_of_cell (HWA.out 0 0 (by decide) (by decide))
  have ct := itour_at (Tr.size a) _ _ _ _ _ _ (HAND.out (Tr.size a) w.heap.size (w.heap.size + 1) HSZ.out) (fun k => (k < w.heap.size ∨ W0.heap.size ≤ k) ∧ k < w1.heap.size) [] _ w1 (by have h1 := Id.ways_len a; have h2 := HSZ.out; show 0 + (Id.ways a).length ≤ 5000; omega) (Nat.le_refl _) HSZ.out hkept (htn.mono fun k hk hlt => ⟨hk, hlt⟩) (fun k hk => ⟨hk.2, fun e => by have := HS0.out; rcases hk.1 with h | h <;> omega⟩) (fun e => by omega) (fun e => by omega) (HC.out.below hbw (Nat.le_refl _)) (HWA.out.below hbw (Nat.le_refl _))
  have CT := Lib.hid ct
  have HBW := Lib.hid hbw
  clear cm htn hb1 hbw hs1 hkept hg1 hg2 ct q0 q1 q2 q3 q4
  go_wp2_with fail
  refine CT.out.mono ?_
  rintro E w2 ⟨⟨r, rfl⟩, O2, hK, hk2, _⟩
  rw [List.nil_append] at hK
  obtain ⟨v, d, hl, hts⟩ := hK.on (by have := Id.ways_len a; have := HSZ.out; omega)
  have HRES := Lib.hid (show TsOn (fun k => w.heap.size ≤ k) d w2 v (Id.ways a) ∧ Below w.heap.size w w2 from
    ⟨hts, hk2.os.trans HBW.out.os, hk2.tape.trans HBW.out.tape, hk2.output.trans HBW.out.output, Nat.le_trans HBW.out.size hk2.size, fun k hk => (hk2.same k (Nat.lt_of_lt_of_le hk HBW.out.size) (fun e => by omega)).trans (HBW.out.block k hk)⟩)
  have c0 := hl.cell (i := 0) rfl
  clear hK hk2 hl hts
  go_wp2_with fail
  go_ret
  exact ⟨v, d, rfl, HRES.out⟩
end Go.Proofs.YtbddhkgbpjhhaaaGreatDoor
