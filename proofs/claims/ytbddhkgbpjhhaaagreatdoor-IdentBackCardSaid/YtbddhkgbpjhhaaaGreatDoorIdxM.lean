/-
  PACKAGE ident: a node's parts put together in the other form.
-/
import Derived.Test.YtbddhkgbpjhhaaaGreatDoorIduM
import Derived.Test.YtbddhkgbpjhhaaaGreatDoorIdvM
import Derived.Deep.RegionHeld3
namespace Go.Proofs.YtbddhkgbpjhhaaaGreatDoor
open Go.RowKit Go.Sort
set_option maxHeartbeats 6400000
theorem TNd.psOn {T : Nat → Prop} {w : World} {z : Nd} (h : TNd T w z) : ∃ e, PsOn T e w z.p z.a.cs := h.tr.2
def MdIs (T : Nat → Prop) (t : Tr) (w : World) (E : Ending) (w' : World) : Prop := ∃ z : Nd, E = .returned (.agg #[.int .i64 z.a.k, .int .i64 z.a.t, .slice z.uA z.uN z.uC, .slice z.pA z.pN z.pC, .bool z.a.h, .int .u64 (z.n : Int), .slice z.xA z.xN z.xC]) ∧ z.a = t ∧ TNd (fun k => T k ∨ w.heap.size ≤ k) w' z ∧ Below w.heap.size w w'
set_option maxRecDepth 100000 in
theorem imade1_any (T : Nat → Prop) (a b e f g : Nd) (w : World) (hp : PtOk T 1 w a b e f g) (hT : ∀ k, T k → k < w.heap.size) (hka : a.a.k ≠ 0) :
    Calls Tryz.prog 70 #[.agg (.int .i64 a.a.k :: .int .i64 a.a.t :: .slice a.uA a.uN a.uC :: .slice a.pA a.pN a.pC :: .bool a.a.h :: .int .u64 (a.n : Int) :: .slice a.xA a.xN a.xC :: .int .i64 b.a.k :: .int .i64 b.a.t :: .slice b.uA b.uN b.uC :: .slice b.pA b.pN b.pC :: .bool b.a.h :: .int .u64 (b.n : Int) :: .slice b.xA b.xN b.xC :: .int .i64 e.a.k :: .int .i64 e.a.t :: .slice e.uA e.uN e.uC :: .slice e.pA e.pN e.pC :: .bool e.a.h :: .int .u64 (e.n : Int) :: .slice e.xA e.xN e.xC :: .int .i64 f.a.k :: .int .i64 f.a.t :: .slice f.uA f.uN f.uC :: .slice f.pA f.pN f.pC :: .bool f.a.h :: .int .u64 (f.n : Int) :: .slice f.xA f.xN f.xC :: .int .i64 g.a.k :: .int .i64 g.a.t :: .slice g.uA g.uN g.uC :: .slice g.pA g.pN g.pC :: .bool g.a.h :: .int .u64 (g.n : Int) :: .slice g.xA g.xN g.xC :: []).toArray] w (MdIs T (Id.made 1 ⟨a.a, b.a, e.a, f.a, g.a⟩) w) := by
  obtain ⟨W0, hW0⟩ : ∃ W0, W0 = (w.alloc (Obj.cells (.int .i64 a.a.k :: .int .i64 a.a.t :: .slice a.uA a.uN a.uC :: .slice a.pA a.pN a.pC :: .bool a.a.h :: .int .u64 (a.n : Int) :: .slice a.xA a.xN a.xC :: .int .i64 b.a.k :: .int .i64 b.a.t :: .slice b.uA b.uN b.uC :: .slice b.pA b.pN b.pC :: .bool b.a.h :: .int .u64 (b.n : Int) :: .slice b.xA b.xN b.xC :: .int .i64 e.a.k :: .int .i64 e.a.t :: .slice e.uA e.uN e.uC :: .slice e.pA e.pN e.pC :: .bool e.a.h :: .int .u64 (e.n : Int) :: .slice e.xA e.xN e.xC :: .int .i64 f.a.k :: .int .i64 f.a.t :: .slice f.uA f.uN f.uC :: .slice f.pA f.pN f.pC :: .bool f.a.h :: .int .u64 (f.n : Int) :: .slice f.xA f.xN f.xC :: .int .i64 g.a.k :: .int .i64 g.a.t :: .slice g.uA g.uN g.uC :: .slice g.pA g.pN g.pC :: .bool g.a.h :: .int .u64 (g.n : Int) :: .slice g.xA g.xN g.xC :: []).toArray 123)).alloc (Obj.cells #[.int .i64 0, .int .i64 0, .slice none 0 0, .slice none 0 0, .bool false, .int .u64 0, .slice none 0 0] 68) := ⟨_, rfl⟩
  obtain ⟨l0, l1, hb0⟩ := box_two (cs := (.int .i64 a.a.k :: .int .i64 a.a.t :: .slice a.uA a.uN a.uC :: .slice a.pA a.pN a.pC :: .bool a.a.h :: .int .u64 (a.n : Int) :: .slice a.xA a.xN a.xC :: .int .i64 b.a.k :: .int .i64 b.a.t :: .slice b.uA b.uN b.uC :: .slice b.pA b.pN b.pC :: .bool b.a.h :: .int .u64 (b.n : Int) :: .slice b.xA b.xN b.xC :: .int .i64 e.a.k :: .int .i64 e.a.t :: .slice e.uA e.uN e.uC :: .slice e.pA e.pN e.pC :: .bool e.a.h :: .int .u64 (e.n : Int) :: .slice e.xA e.xN e.xC :: .int .i64 f.a.k :: .int .i64 f.a.t :: .slice f.uA f.uN f.uC :: .slice f.pA f.pN f.pC :: .bool f.a.h :: .int .u64 (f.n : Int) :: .slice f.xA f.xN f.xC :: .int .i64 g.a.k :: .int .i64 g.a.t :: .slice g.uA g.uN g.uC :: .slice g.pA g.pN g.pC :: .bool g.a.h :: .int .u64 (g.n : Int) :: .slice g.xA g.xN g.xC :: [])) (ds := [.int .i64 0, .int .i64 0, .slice none 0 0, .slice none 0 0, .bool false, .int .u64 0, .slice none 0 0]) hW0
  have hs0 : W0.heap.size = w.heap.size + 1 + 1 := by rw [hW0, World.size_alloc, World.size_alloc]
  have hT0 : ∀ k, T k → k < W0.heap.size := fun k hk => by have := hT k hk; omega
  have cc := ion_any T a f e W0 ((hp.ha.below hb0).psOn) (hp.hf.below hb0) (hp.he.below hb0) hka hT0
  have hF : Id.made 1 ⟨a.a, b.a, e.a, f.a, g.a⟩ = Id.on a.a f.a e.a := rfl
  rw [hF]
  have x0 := l0.cell (i := 0) rfl
  have x1 := l0.cell (i := 1) rfl
  have x2 := l0.cell (i := 2) rfl
  have x3 := l0.cell (i := 3) rfl
  have x4 := l0.cell (i := 4) rfl
  have x5 := l0.cell (i := 5) rfl
  have x6 := l0.cell (i := 6) rfl
  have x14 := l0.cell (i := 14) rfl
  have x15 := l0.cell (i := 15) rfl
  have x16 := l0.cell (i := 16) rfl
  have x17 := l0.cell (i := 17) rfl
  have x18 := l0.cell (i := 18) rfl
  have x19 := l0.cell (i := 19) rfl
  have x20 := l0.cell (i := 20) rfl
  have x21 := l0.cell (i := 21) rfl
  have x22 := l0.cell (i := 22) rfl
  have x23 := l0.cell (i := 23) rfl
  have x24 := l0.cell (i := 24) rfl
  have x25 := l0.cell (i := 25) rfl
  have x26 := l0.cell (i := 26) rfl
  have x27 := l0.cell (i := 27) rfl
  have HW := Lib.hid hW0
  have HB0 := Lib.hid hb0
  have HL1 := Lib.hid l1
  have HT := Lib.hid hT
  have HS := Lib.hid hs0
  clear hp hT hka hF hW0 l0 l1 hb0 hs0 hT0
  go_enter Tryz.func70, Tryz.ntmps70
  go_upto_region 1 with (fail)
  rw [← HW.out]
  go_wp2_with fail
  refine cc.mono ?_
  rintro E w2 ⟨z, rfl, hz, ht, hb2⟩
  have HD := Lib.hid (HL1.out.below hb2 HL1.out.lt)
  have HB2 := Lib.hid (below_join HB0.out hb2)
  have HZ := Lib.hid hz
  have HTN := Lib.hid ht
  have m0 := HD.out.cell (i := 0) rfl
  have f0 := HD.out.free 0
  have m1 := HD.out.cell (i := 1) rfl
  have f1 := HD.out.free 1
  have m2 := HD.out.cell (i := 2) rfl
  have f2 := HD.out.free 2
  have m3 := HD.out.cell (i := 3) rfl
  have f3 := HD.out.free 3
  have m4 := HD.out.cell (i := 4) rfl
  have f4 := HD.out.free 4
  have m5 := HD.out.cell (i := 5) rfl
  have f5 := HD.out.free 5
  have m6 := HD.out.cell (i := 6) rfl
  have f6 := HD.out.free 6
  clear cc hz ht hb2 x0 x1 x2 x3 x4 x5 x6 x14 x15 x16 x17 x18 x19 x20 x21 x22 x23 x24 x25 x26 x27
  go_wp2_with fail
  obtain ⟨W6, hW6⟩ : ∃ W6, W6 = setCells w2 (w.heap.size + 1) 0 (.int .i64 z.a.k :: .int .i64 z.a.t :: .slice z.uA z.uN z.uC :: .slice z.pA z.pN z.pC :: .bool z.a.h :: .int .u64 (z.n : Int) :: .slice z.xA z.xN z.xC :: []) := ⟨_, rfl⟩
  obtain ⟨hl, hb6, hk6, hq6, _⟩ := stored_many (P := Tryz.prog) (L := (.int .i64 z.a.k :: .int .i64 z.a.t :: .slice z.uA z.uN z.uC :: .slice z.pA z.pN z.pC :: .bool z.a.h :: .int .u64 (z.n : Int) :: .slice z.xA z.xN z.xC :: [])) (w := w) HD.out rfl Tryz.underlying68 rfl (by kernel_rfl) HB2.out (Nat.le_succ _) hW6
  simp only [setCells] at hW6
  rw [← hW6]
  clear hW6
  refine bodyPost_ret (v := .agg (.int .i64 z.a.k :: .int .i64 z.a.t :: .slice z.uA z.uN z.uC :: .slice z.pA z.pN z.pC :: .bool z.a.h :: .int .u64 (z.n : Int) :: .slice z.xA z.xN z.xC :: []).toArray) (results_cell rfl rfl hl) rfl ?_
  exact ⟨z, rfl, HZ.out, HTN.out.keep hk6.size (fun k hk hlt => ⟨hk6.same k hlt (by
    have h1 := HS.out
    rcases hk with hk | hk
    · have := HT.out k hk; omega
    · omega), hk.imp id (fun h => by have := HS.out; omega)⟩), hb6⟩
set_option maxRecDepth 100000 in
theorem imade2_any (T : Nat → Prop) (a b e f g : Nd) (w : World) (hp : PtOk T 2 w a b e f g) (hT : ∀ k, T k → k < w.heap.size) (hka : a.a.k ≠ 0) (hkb : b.a.k ≠ 0) :
    Calls Tryz.prog 76 #[.agg (.int .i64 a.a.k :: .int .i64 a.a.t :: .slice a.uA a.uN a.uC :: .slice a.pA a.pN a.pC :: .bool a.a.h :: .int .u64 (a.n : Int) :: .slice a.xA a.xN a.xC :: .int .i64 b.a.k :: .int .i64 b.a.t :: .slice b.uA b.uN b.uC :: .slice b.pA b.pN b.pC :: .bool b.a.h :: .int .u64 (b.n : Int) :: .slice b.xA b.xN b.xC :: .int .i64 e.a.k :: .int .i64 e.a.t :: .slice e.uA e.uN e.uC :: .slice e.pA e.pN e.pC :: .bool e.a.h :: .int .u64 (e.n : Int) :: .slice e.xA e.xN e.xC :: .int .i64 f.a.k :: .int .i64 f.a.t :: .slice f.uA f.uN f.uC :: .slice f.pA f.pN f.pC :: .bool f.a.h :: .int .u64 (f.n : Int) :: .slice f.xA f.xN f.xC :: .int .i64 g.a.k :: .int .i64 g.a.t :: .slice g.uA g.uN g.uC :: .slice g.pA g.pN g.pC :: .bool g.a.h :: .int .u64 (g.n : Int) :: .slice g.xA g.xN g.xC :: []).toArray] w (MdIs T (Id.made 2 ⟨a.a, b.a, e.a, f.a, g.a⟩) w) := by
  obtain ⟨W0, hW0⟩ : ∃ W0, W0 = (w.alloc (Obj.cells (.int .i64 a.a.k :: .int .i64 a.a.t :: .slice a.uA a.uN a.uC :: .slice a.pA a.pN a.pC :: .bool a.a.h :: .int .u64 (a.n : Int) :: .slice a.xA a.xN a.xC :: .int .i64 b.a.k :: .int .i64 b.a.t :: .slice b.uA b.uN b.uC :: .slice b.pA b.pN b.pC :: .bool b.a.h :: .int .u64 (b.n : Int) :: .slice b.xA b.xN b.xC :: .int .i64 e.a.k :: .int .i64 e.a.t :: .slice e.uA e.uN e.uC :: .slice e.pA e.pN e.pC :: .bool e.a.h :: .int .u64 (e.n : Int) :: .slice e.xA e.xN e.xC :: .int .i64 f.a.k :: .int .i64 f.a.t :: .slice f.uA f.uN f.uC :: .slice f.pA f.pN f.pC :: .bool f.a.h :: .int .u64 (f.n : Int) :: .slice f.xA f.xN f.xC :: .int .i64 g.a.k :: .int .i64 g.a.t :: .slice g.uA g.uN g.uC :: .slice g.pA g.pN g.pC :: .bool g.a.h :: .int .u64 (g.n : Int) :: .slice g.xA g.xN g.xC :: []).toArray 123)).alloc (Obj.cells #[.int .i64 0, .int .i64 0, .slice none 0 0, .slice none 0 0, .bool false, .int .u64 0, .slice none 0 0] 68) := ⟨_, rfl⟩
  obtain ⟨l0, l1, hb0⟩ := box_two (cs := (.int .i64 a.a.k :: .int .i64 a.a.t :: .slice a.uA a.uN a.uC :: .slice a.pA a.pN a.pC :: .bool a.a.h :: .int .u64 (a.n : Int) :: .slice a.xA a.xN a.xC :: .int .i64 b.a.k :: .int .i64 b.a.t :: .slice b.uA b.uN b.uC :: .slice b.pA b.pN b.pC :: .bool b.a.h :: .int .u64 (b.n : Int) :: .slice b.xA b.xN b.xC :: .int .i64 e.a.k :: .int .i64 e.a.t :: .slice e.uA e.uN e.uC :: .slice e.pA e.pN e.pC :: .bool e.a.h :: .int .u64 (e.n : Int) :: .slice e.xA e.xN e.xC :: .int .i64 f.a.k :: .int .i64 f.a.t :: .slice f.uA f.uN f.uC :: .slice f.pA f.pN f.pC :: .bool f.a.h :: .int .u64 (f.n : Int) :: .slice f.xA f.xN f.xC :: .int .i64 g.a.k :: .int .i64 g.a.t :: .slice g.uA g.uN g.uC :: .slice g.pA g.pN g.pC :: .bool g.a.h :: .int .u64 (g.n : Int) :: .slice g.xA g.xN g.xC :: [])) (ds := [.int .i64 0, .int .i64 0, .slice none 0 0, .slice none 0 0, .bool false, .int .u64 0, .slice none 0 0]) hW0
  have hs0 : W0.heap.size = w.heap.size + 1 + 1 := by rw [hW0, World.size_alloc, World.size_alloc]
  have hF : Id.made 2 ⟨a.a, b.a, e.a, f.a, g.a⟩ = Id.on a.a e.a (Id.on b.a f.a g.a) := rfl
  rw [hF]
  have HT := Lib.hid hT
  have C1 := Lib.hid (fun W (hb : Below w.heap.size w W) => ion_any T b f g W (((hp.bg (by decide)).1.below hb).psOn) (hp.hf.below hb) ((hp.bg (by decide)).2.below hb) hkb (fun k hk => Nat.lt_of_lt_of_le (hT k hk) hb.size))
  have C2 := Lib.hid (fun W1 W (X : Nd) (hb : Below w.heap.size w W) (hw1 : w.heap.size + 1 + 1 ≤ W1) (hx : TNd (fun k => T k ∨ W1 ≤ k) W X) => ion_any (fun k => (T k ∨ w.heap.size + 1 + 1 ≤ k) ∧ k < W.heap.size) a e X W (((hp.ha.below hb).mono (fun k hk hlt => ⟨.inl hk, hlt⟩)).psOn) ((hp.he.below hb).mono (fun k hk hlt => ⟨.inl hk, hlt⟩)) (hx.mono (fun k hk hlt => ⟨hk.imp id (fun h => Nat.le_trans hw1 h), hlt⟩)) hka (fun k hk => hk.2))
  have HW := Lib.hid hW0
  have HB0 := Lib.hid hb0
  have HS := Lib.hid hs0
  have HS0 := Lib.hid (show Below w.heap.size w W0.drew ∧ Lies W0.drew w.heap.size 123 (.int .i64 a.a.k :: .int .i64 a.a.t :: .slice a.uA a.uN a.uC :: .slice a.pA a.pN a.pC :: .bool a.a.h :: .int .u64 (a.n : Int) :: .slice a.xA a.xN a.xC :: .int .i64 b.a.k :: .int .i64 b.a.t :: .slice b.uA b.uN b.uC :: .slice b.pA b.pN b.pC :: .bool b.a.h :: .int .u64 (b.n : Int) :: .slice b.xA b.xN b.xC :: .int .i64 e.a.k :: .int .i64 e.a.t :: .slice e.uA e.uN e.uC :: .slice e.pA e.pN e.pC :: .bool e.a.h :: .int .u64 (e.n : Int) :: .slice e.xA e.xN e.xC :: .int .i64 f.a.k :: .int .i64 f.a.t :: .slice f.uA f.uN f.uC :: .slice f.pA f.pN f.pC :: .bool f.a.h :: .int .u64 (f.n : Int) :: .slice f.xA f.xN f.xC :: .int .i64 g.a.k :: .int .i64 g.a.t :: .slice g.uA g.uN g.uC :: .slice g.pA g.pN g.pC :: .bool g.a.h :: .int .u64 (g.n : Int) :: .slice g.xA g.xN g.xC :: []) ∧ ∃ cs, cs.length = 7 ∧ Lies W0.drew (w.heap.size + 1) 68 cs from ⟨hb0.drew, l0, _, rfl, l1⟩)
  clear hp hT hka hkb hF hW0 l0 l1 hb0 hs0
  go_enter Tryz.func76, Tryz.ntmps76
  go_upto_region 1 with (fail)
  rw [← HW.out]
  refine wp_region_held_drew (S := fun W => Below w.heap.size w W ∧ Lies W w.heap.size 123 (.int .i64 a.a.k :: .int .i64 a.a.t :: .slice a.uA a.uN a.uC :: .slice a.pA a.pN a.pC :: .bool a.a.h :: .int .u64 (a.n : Int) :: .slice a.xA a.xN a.xC :: .int .i64 b.a.k :: .int .i64 b.a.t :: .slice b.uA b.uN b.uC :: .slice b.pA b.pN b.pC :: .bool b.a.h :: .int .u64 (b.n : Int) :: .slice b.xA b.xN b.xC :: .int .i64 e.a.k :: .int .i64 e.a.t :: .slice e.uA e.uN e.uC :: .slice e.pA e.pN e.pC :: .bool e.a.h :: .int .u64 (e.n : Int) :: .slice e.xA e.xN e.xC :: .int .i64 f.a.k :: .int .i64 f.a.t :: .slice f.uA f.uN f.uC :: .slice f.pA f.pN f.pC :: .bool f.a.h :: .int .u64 (f.n : Int) :: .slice f.xA f.xN f.xC :: .int .i64 g.a.k :: .int .i64 g.a.t :: .slice g.uA g.uN g.uC :: .slice g.pA g.pN g.pC :: .bool g.a.h :: .int .u64 (g.n : Int) :: .slice g.xA g.xN g.xC :: []) ∧ ∃ cs, cs.length = 7 ∧ Lies W (w.heap.size + 1) 68 cs) (by kernel_rfl) HS0.out (fun hS => ?_)
  refine any_norm17 (l' := Array.replicate 13 false) (m' := 13) (by kernel_rfl) (by kernel_rfl) ?_
  refine take_any (i := 0) (v := ?v0) rfl (by kernel_rfl) (by kernel_rfl) (by kernel_rfl) (fun _ _ _ h => h) (Or.inl ⟨by rfl, ?hy0⟩) hS ?rest0
  case hy0 => (intro w hSw; go_simp; try with_reducible rfl)
  try simp only [Act.put, List.setIfInBounds_toArray, List.set_cons_zero, List.set_cons_succ]
  refine take_any (i := 1) (v := ?v1) rfl (by kernel_rfl) (by kernel_rfl) (by kernel_rfl) (fun _ _ _ h => h) (Or.inl ⟨by rfl, ?hy1⟩) hS ?rest1
  case hy1 => (intro w hSw; obtain ⟨_, hc, _⟩ := hSw; have x0 := hc.cell (i := 0) rfl; have x1 := hc.cell (i := 1) rfl; have x2 := hc.cell (i := 2) rfl; have x3 := hc.cell (i := 3) rfl; have x4 := hc.cell (i := 4) rfl; have x5 := hc.cell (i := 5) rfl; have x6 := hc.cell (i := 6) rfl; clear hc; go_simp; try with_reducible rfl)
  try simp only [Act.put, List.setIfInBounds_toArray, List.set_cons_zero, List.set_cons_succ]
  refine take_any (i := 2) (v := ?v2) rfl (by kernel_rfl) (by kernel_rfl) (by kernel_rfl) (fun _ _ _ h => h) (Or.inl ⟨by rfl, ?hy2⟩) hS ?rest2
  case hy2 => (intro w hSw; go_simp; try with_reducible rfl)
  try simp only [Act.put, List.setIfInBounds_toArray, List.set_cons_zero, List.set_cons_succ]
  refine take_any (i := 3) (v := ?v3) rfl (by kernel_rfl) (by kernel_rfl) (by kernel_rfl) (fun _ _ _ h => h) (Or.inl ⟨by rfl, ?hy3⟩) hS ?rest3
  case hy3 => (intro w hSw; obtain ⟨_, hc, _⟩ := hSw; have x0 := hc.cell (i := 14) rfl; have x1 := hc.cell (i := 15) rfl; have x2 := hc.cell (i := 16) rfl; have x3 := hc.cell (i := 17) rfl; have x4 := hc.cell (i := 18) rfl; have x5 := hc.cell (i := 19) rfl; have x6 := hc.cell (i := 20) rfl; clear hc; go_simp; try with_reducible rfl)
  try simp only [Act.put, List.setIfInBounds_toArray, List.set_cons_zero, List.set_cons_succ]
  refine take_any (i := 4) (v := ?v4) rfl (by kernel_rfl) (by kernel_rfl) (by kernel_rfl) (fun _ _ _ h => h) (Or.inl ⟨by rfl, ?hy4⟩) hS ?rest4
  case hy4 => (intro w hSw; go_simp; try with_reducible rfl)
  try simp only [Act.put, List.setIfInBounds_toArray, List.set_cons_zero, List.set_cons_succ]
  refine take_any (i := 5) (v := ?v5) rfl (by kernel_rfl) (by kernel_rfl) (by kernel_rfl) (fun _ _ _ h => h) (Or.inl ⟨by rfl, ?hy5⟩) hS ?rest5
  case hy5 => (intro w hSw; obtain ⟨_, hc, _⟩ := hSw; have x0 := hc.cell (i := 7) rfl; have x1 := hc.cell (i := 8) rfl; have x2 := hc.cell (i := 9) rfl; have x3 := hc.cell (i := 10) rfl; have x4 := hc.cell (i := 11) rfl; have x5 := hc.cell (i := 12) rfl; have x6 := hc.cell (i := 13) rfl; clear hc; go_simp; try with_reducible rfl)
  try simp only [Act.put, List.setIfInBounds_toArray, List.set_cons_zero, List.set_cons_succ]
  refine take_any (i := 6) (v := ?v6) rfl (by kernel_rfl) (by kernel_rfl) (by kernel_rfl) (fun _ _ _ h => h) (Or.inl ⟨by rfl, ?hy6⟩) hS ?rest6
  case hy6 => (intro w hSw; go_simp; try with_reducible rfl)
  try simp only [Act.put, List.setIfInBounds_toArray, List.set_cons_zero, List.set_cons_succ]
  refine take_any (i := 7) (v := ?v7) rfl (by kernel_rfl) (by kernel_rfl) (by kernel_rfl) (fun _ _ _ h => h) (Or.inl ⟨by rfl, ?hy7⟩) hS ?rest7
  case hy7 => (intro w hSw; obtain ⟨_, hc, _⟩ := hSw; have x0 := hc.cell (i := 21) rfl; have x1 := hc.cell (i := 22) rfl; have x2 := hc.cell (i := 23) rfl; have x3 := hc.cell (i := 24) rfl; have x4 := hc.cell (i := 25) rfl; have x5 := hc.cell (i := 26) rfl; have x6 := hc.cell (i := 27) rfl; clear hc; go_simp; try with_reducible rfl)
  try simp only [Act.put, List.setIfInBounds_toArray, List.set_cons_zero, List.set_cons_succ]
  refine take_any (i := 8) (v := ?v8) rfl (by kernel_rfl) (by kernel_rfl) (by kernel_rfl) (fun _ _ _ h => h) (Or.inl ⟨by rfl, ?hy8⟩) hS ?rest8
  case hy8 => (intro w hSw; go_simp; try with_reducible rfl)
  try simp only [Act.put, List.setIfInBounds_toArray, List.set_cons_zero, List.set_cons_succ]
  refine take_any (i := 9) (v := ?v9) rfl (by kernel_rfl) (by kernel_rfl) (by kernel_rfl) (fun _ _ _ h => h) (Or.inl ⟨by rfl, ?hy9⟩) hS ?rest9
  case hy9 => (intro w hSw; obtain ⟨_, hc, _⟩ := hSw; have x0 := hc.cell (i := 28) rfl; have x1 := hc.cell (i := 29) rfl; have x2 := hc.cell (i := 30) rfl; have x3 := hc.cell (i := 31) rfl; have x4 := hc.cell (i := 32) rfl; have x5 := hc.cell (i := 33) rfl; have x6 := hc.cell (i := 34) rfl; clear hc; go_simp; try with_reducible rfl)
  try simp only [Act.put, List.setIfInBounds_toArray, List.set_cons_zero, List.set_cons_succ]
  obtain ⟨hbS, hcS, hdS⟩ := hS
  refine wpAnyH_ready (rs := [10]) (by kernel_rfl) (by simp) ?_
  refine AllReadyH.cons rfl (fun K hK => ?_) AllReadyH.nil
  rw [if_pos (by kernel_rfl)]
  go_simp
  refine (C1.out _ hbS).mono ?_
  rintro E w1 ⟨X, rfl, hX, hTX, hb1⟩
  try dsimp only
  have HB1 := Lib.hid (below_join hbS hb1)
  have hS1 : Below w.heap.size w w1 ∧ Lies w1 w.heap.size 123 (.int .i64 a.a.k :: .int .i64 a.a.t :: .slice a.uA a.uN a.uC :: .slice a.pA a.pN a.pC :: .bool a.a.h :: .int .u64 (a.n : Int) :: .slice a.xA a.xN a.xC :: .int .i64 b.a.k :: .int .i64 b.a.t :: .slice b.uA b.uN b.uC :: .slice b.pA b.pN b.pC :: .bool b.a.h :: .int .u64 (b.n : Int) :: .slice b.xA b.xN b.xC :: .int .i64 e.a.k :: .int .i64 e.a.t :: .slice e.uA e.uN e.uC :: .slice e.pA e.pN e.pC :: .bool e.a.h :: .int .u64 (e.n : Int) :: .slice e.xA e.xN e.xC :: .int .i64 f.a.k :: .int .i64 f.a.t :: .slice f.uA f.uN f.uC :: .slice f.pA f.pN f.pC :: .bool f.a.h :: .int .u64 (f.n : Int) :: .slice f.xA f.xN f.xC :: .int .i64 g.a.k :: .int .i64 g.a.t :: .slice g.uA g.uN g.uC :: .slice g.pA g.pN g.pC :: .bool g.a.h :: .int .u64 (g.n : Int) :: .slice g.xA g.xN g.xC :: []) ∧ ∃ cs, cs.length = 7 ∧ Lies w1 (w.heap.size + 1) 68 cs := ⟨HB1.out, hcS.below hb1 hcS.lt, hdS.elim fun cs h => ⟨cs, h.1, h.2.below hb1 h.2.lt⟩⟩
  have HHX := Lib.hid hX
  have HTX := Lib.hid hTX
  have HWS := Lib.hid (show w.heap.size + 1 + 1 ≤ W0.drew.heap.size from Nat.le_of_eq HS.out.symm)
  have HW1S := Lib.hid (Nat.le_trans HWS.out hb1.size)
  refine hK.out _ _ hS1 (fun _ => ?_)
  clear hK K hbS hcS hdS hX hTX hb1
  obtain ⟨hbS, hcS, hdS⟩ := hS1
  try simp only [Act.put, List.setIfInBounds_toArray, List.set_cons_zero, List.set_cons_succ]
  refine wpAnyH_ready (rs := [11]) (by kernel_rfl) (by simp) ?_
  refine AllReadyH.cons rfl (fun K hK => ?_) AllReadyH.nil
  rw [if_pos (by kernel_rfl)]
  go_simp
  refine (C2.out _ _ X hbS HWS.out HTX.out).mono ?_
  rintro E w2 ⟨z, rfl, hz, htz, hb2⟩
  try dsimp only
  have HB2 := Lib.hid (below_join hbS hb2)
  have HZ := Lib.hid hz
  have HTZ := Lib.hid (show TNd (fun k => T k ∨ w.heap.size + 1 + 1 ≤ k) w2 z from htz.mono fun k hk _ => by
    rcases hk with hk | hk
    · exact hk.1
    · exact .inr (Nat.le_trans HW1S.out hk))
  have hS2 : Below w.heap.size w w2 ∧ Lies w2 w.heap.size 123 (.int .i64 a.a.k :: .int .i64 a.a.t :: .slice a.uA a.uN a.uC :: .slice a.pA a.pN a.pC :: .bool a.a.h :: .int .u64 (a.n : Int) :: .slice a.xA a.xN a.xC :: .int .i64 b.a.k :: .int .i64 b.a.t :: .slice b.uA b.uN b.uC :: .slice b.pA b.pN b.pC :: .bool b.a.h :: .int .u64 (b.n : Int) :: .slice b.xA b.xN b.xC :: .int .i64 e.a.k :: .int .i64 e.a.t :: .slice e.uA e.uN e.uC :: .slice e.pA e.pN e.pC :: .bool e.a.h :: .int .u64 (e.n : Int) :: .slice e.xA e.xN e.xC :: .int .i64 f.a.k :: .int .i64 f.a.t :: .slice f.uA f.uN f.uC :: .slice f.pA f.pN f.pC :: .bool f.a.h :: .int .u64 (f.n : Int) :: .slice f.xA f.xN f.xC :: .int .i64 g.a.k :: .int .i64 g.a.t :: .slice g.uA g.uN g.uC :: .slice g.pA g.pN g.pC :: .bool g.a.h :: .int .u64 (g.n : Int) :: .slice g.xA g.xN g.xC :: []) ∧ ∃ cs, cs.length = 7 ∧ Lies w2 (w.heap.size + 1) 68 cs := ⟨HB2.out, hcS.below hb2 hcS.lt, hdS.elim fun cs h => ⟨cs, h.1, h.2.below hb2 h.2.lt⟩⟩
  refine hK.out _ _ hS2 (fun _ => ?_)
  clear hK K hbS hcS hdS hz htz hb2
  obtain ⟨hbS, hcS, cs, hcl, hdS⟩ := hS2
  try simp only [Act.put, List.setIfInBounds_toArray, List.set_cons_zero, List.set_cons_succ]
  refine wpAnyH_ready (rs := [12]) (by kernel_rfl) (by simp) ?_
  refine AllReadyH.cons rfl (fun K hK => ?_) AllReadyH.nil
  rw [if_pos (by kernel_rfl)]
  refine wp_store_mid 68 _ _ rfl (w.heap.size + 1) 0 (.int .i64 z.a.k :: .int .i64 z.a.t :: .slice z.uA z.uN z.uC :: .slice z.pA z.pN z.pC :: .bool z.a.h :: .int .u64 (z.n : Int) :: .slice z.xA z.xN z.xC :: []).toArray rfl rfl (hdS.there hcl.symm) (by kernel_rfl) (by rw [← Array.all_toList]; rfl) ?_
  obtain ⟨W6, hW6⟩ : ∃ W6, W6 = setCells w2 (w.heap.size + 1) 0 (.int .i64 z.a.k :: .int .i64 z.a.t :: .slice z.uA z.uN z.uC :: .slice z.pA z.pN z.pC :: .bool z.a.h :: .int .u64 (z.n : Int) :: .slice z.xA z.xN z.xC :: []) := ⟨_, rfl⟩
  rw [setCells_kit]
  rw [← hW6]
  obtain ⟨hl, hb6, hk6, hq6, _⟩ := stored_many (P := Tryz.prog) (L := (.int .i64 z.a.k :: .int .i64 z.a.t :: .slice z.uA z.uN z.uC :: .slice z.pA z.pN z.pC :: .bool z.a.h :: .int .u64 (z.n : Int) :: .slice z.xA z.xN z.xC :: [])) (w := w) hdS hcl.symm Tryz.underlying68 rfl (by rw [hcl]; kernel_rfl) HB2.out (Nat.le_succ _) hW6
  clear hW6
  refine hK.out _ _ ⟨hb6, (hk6.same _ hcS.lt (by omega)).trans hcS, _, rfl, hq6⟩ (fun _ => ?_)
  clear hK K
  try simp only [Act.put, List.setIfInBounds_toArray]
  refine wpAnyH_done (by kernel_rfl) ?_ _
  clear hbS hcS hdS hcl
  go_wp2_with fail
  refine bodyPost_ret (v := .agg (.int .i64 z.a.k :: .int .i64 z.a.t :: .slice z.uA z.uN z.uC :: .slice z.pA z.pN z.pC :: .bool z.a.h :: .int .u64 (z.n : Int) :: .slice z.xA z.xN z.xC :: []).toArray) (results_cell rfl rfl hl) rfl ?_
  exact ⟨z, rfl, HZ.out.trans (by rw [HHX.out]), HTZ.out.keep hk6.size (fun k hk hlt => ⟨hk6.same k hlt (by
    rcases hk with hk | hk
    · have := HT.out k hk; omega
    · omega), hk.imp id (fun h => by omega)⟩), hb6⟩
set_option maxRecDepth 100000 in
theorem imade3_any (T : Nat → Prop) (a b e f g : Nd) (w : World) (hp : PtOk T 3 w a b e f g) (hT : ∀ k, T k → k < w.heap.size) (hka : a.a.k ≠ 0) (hkb : b.a.k ≠ 0) :
    Calls Tryz.prog 79 #[.agg (.int .i64 a.a.k :: .int .i64 a.a.t :: .slice a.uA a.uN a.uC :: .slice a.pA a.pN a.pC :: .bool a.a.h :: .int .u64 (a.n : Int) :: .slice a.xA a.xN a.xC :: .int .i64 b.a.k :: .int .i64 b.a.t :: .slice b.uA b.uN b.uC :: .slice b.pA b.pN b.pC :: .bool b.a.h :: .int .u64 (b.n : Int) :: .slice b.xA b.xN b.xC :: .int .i64 e.a.k :: .int .i64 e.a.t :: .slice e.uA e.uN e.uC :: .slice e.pA e.pN e.pC :: .bool e.a.h :: .int .u64 (e.n : Int) :: .slice e.xA e.xN e.xC :: .int .i64 f.a.k :: .int .i64 f.a.t :: .slice f.uA f.uN f.uC :: .slice f.pA f.pN f.pC :: .bool f.a.h :: .int .u64 (f.n : Int) :: .slice f.xA f.xN f.xC :: .int .i64 g.a.k :: .int .i64 g.a.t :: .slice g.uA g.uN g.uC :: .slice g.pA g.pN g.pC :: .bool g.a.h :: .int .u64 (g.n : Int) :: .slice g.xA g.xN g.xC :: []).toArray] w (MdIs T (Id.made 3 ⟨a.a, b.a, e.a, f.a, g.a⟩) w) := by
  obtain ⟨W0, hW0⟩ : ∃ W0, W0 = (w.alloc (Obj.cells (.int .i64 a.a.k :: .int .i64 a.a.t :: .slice a.uA a.uN a.uC :: .slice a.pA a.pN a.pC :: .bool a.a.h :: .int .u64 (a.n : Int) :: .slice a.xA a.xN a.xC :: .int .i64 b.a.k :: .int .i64 b.a.t :: .slice b.uA b.uN b.uC :: .slice b.pA b.pN b.pC :: .bool b.a.h :: .int .u64 (b.n : Int) :: .slice b.xA b.xN b.xC :: .int .i64 e.a.k :: .int .i64 e.a.t :: .slice e.uA e.uN e.uC :: .slice e.pA e.pN e.pC :: .bool e.a.h :: .int .u64 (e.n : Int) :: .slice e.xA e.xN e.xC :: .int .i64 f.a.k :: .int .i64 f.a.t :: .slice f.uA f.uN f.uC :: .slice f.pA f.pN f.pC :: .bool f.a.h :: .int .u64 (f.n : Int) :: .slice f.xA f.xN f.xC :: .int .i64 g.a.k :: .int .i64 g.a.t :: .slice g.uA g.uN g.uC :: .slice g.pA g.pN g.pC :: .bool g.a.h :: .int .u64 (g.n : Int) :: .slice g.xA g.xN g.xC :: []).toArray 123)).alloc (Obj.cells #[.int .i64 0, .int .i64 0, .slice none 0 0, .slice none 0 0, .bool false, .int .u64 0, .slice none 0 0] 68) := ⟨_, rfl⟩
  obtain ⟨l0, l1, hb0⟩ := box_two (cs := (.int .i64 a.a.k :: .int .i64 a.a.t :: .slice a.uA a.uN a.uC :: .slice a.pA a.pN a.pC :: .bool a.a.h :: .int .u64 (a.n : Int) :: .slice a.xA a.xN a.xC :: .int .i64 b.a.k :: .int .i64 b.a.t :: .slice b.uA b.uN b.uC :: .slice b.pA b.pN b.pC :: .bool b.a.h :: .int .u64 (b.n : Int) :: .slice b.xA b.xN b.xC :: .int .i64 e.a.k :: .int .i64 e.a.t :: .slice e.uA e.uN e.uC :: .slice e.pA e.pN e.pC :: .bool e.a.h :: .int .u64 (e.n : Int) :: .slice e.xA e.xN e.xC :: .int .i64 f.a.k :: .int .i64 f.a.t :: .slice f.uA f.uN f.uC :: .slice f.pA f.pN f.pC :: .bool f.a.h :: .int .u64 (f.n : Int) :: .slice f.xA f.xN f.xC :: .int .i64 g.a.k :: .int .i64 g.a.t :: .slice g.uA g.uN g.uC :: .slice g.pA g.pN g.pC :: .bool g.a.h :: .int .u64 (g.n : Int) :: .slice g.xA g.xN g.xC :: [])) (ds := [.int .i64 0, .int .i64 0, .slice none 0 0, .slice none 0 0, .bool false, .int .u64 0, .slice none 0 0]) hW0
  have hs0 : W0.heap.size = w.heap.size + 1 + 1 := by rw [hW0, World.size_alloc, World.size_alloc]
  have hF : Id.made 3 ⟨a.a, b.a, e.a, f.a, g.a⟩ = Id.on b.a (Id.on a.a e.a f.a) g.a := rfl
  rw [hF]
  have HT := Lib.hid hT
  have C1 := Lib.hid (fun W (hb : Below w.heap.size w W) => ion_any T a e f W ((hp.ha.below hb).psOn) (hp.he.below hb) (hp.hf.below hb) hka (fun k hk => Nat.lt_of_lt_of_le (hT k hk) hb.size))
  have C2 := Lib.hid (fun W1 W (X : Nd) (hb : Below w.heap.size w W) (hw1 : w.heap.size + 1 + 1 ≤ W1) (hx : TNd (fun k => T k ∨ W1 ≤ k) W X) => ion_any (fun k => (T k ∨ w.heap.size + 1 + 1 ≤ k) ∧ k < W.heap.size) b X g W ((((hp.bg (by decide)).1.below hb).mono (fun k hk hlt => ⟨.inl hk, hlt⟩)).psOn) (hx.mono (fun k hk hlt => ⟨hk.imp id (fun h => Nat.le_trans hw1 h), hlt⟩)) (((hp.bg (by decide)).2.below hb).mono (fun k hk hlt => ⟨.inl hk, hlt⟩)) hkb (fun k hk => hk.2))
  have HW := Lib.hid hW0
  have HB0 := Lib.hid hb0
  have HS := Lib.hid hs0
  have HS0 := Lib.hid (show Below w.heap.size w W0.drew ∧ Lies W0.drew w.heap.size 123 (.int .i64 a.a.k :: .int .i64 a.a.t :: .slice a.uA a.uN a.uC :: .slice a.pA a.pN a.pC :: .bool a.a.h :: .int .u64 (a.n : Int) :: .slice a.xA a.xN a.xC :: .int .i64 b.a.k :: .int .i64 b.a.t :: .slice b.uA b.uN b.uC :: .slice b.pA b.pN b.pC :: .bool b.a.h :: .int .u64 (b.n : Int) :: .slice b.xA b.xN b.xC :: .int .i64 e.a.k :: .int .i64 e.a.t :: .slice e.uA e.uN e.uC :: .slice e.pA e.pN e.pC :: .bool e.a.h :: .int .u64 (e.n : Int) :: .slice e.xA e.xN e.xC :: .int .i64 f.a.k :: .int .i64 f.a.t :: .slice f.uA f.uN f.uC :: .slice f.pA f.pN f.pC :: .bool f.a.h :: .int .u64 (f.n : Int) :: .slice f.xA f.xN f.xC :: .int .i64 g.a.k :: .int .i64 g.a.t :: .slice g.uA g.uN g.uC :: .slice g.pA g.pN g.pC :: .bool g.a.h :: .int .u64 (g.n : Int) :: .slice g.xA g.xN g.xC :: []) ∧ ∃ cs, cs.length = 7 ∧ Lies W0.drew (w.heap.size + 1) 68 cs from ⟨hb0.drew, l0, _, rfl, l1⟩)
  clear hp hT hka hkb hF hW0 l0 l1 hb0 hs0
  go_enter Tryz.func79, Tryz.ntmps79
  go_upto_region 1 with (fail)
  rw [← HW.out]
  refine wp_region_held_drew (S := fun W => Below w.heap.size w W ∧ Lies W w.heap.size 123 (.int .i64 a.a.k :: .int .i64 a.a.t :: .slice a.uA a.uN a.uC :: .slice a.pA a.pN a.pC :: .bool a.a.h :: .int .u64 (a.n : Int) :: .slice a.xA a.xN a.xC :: .int .i64 b.a.k :: .int .i64 b.a.t :: .slice b.uA b.uN b.uC :: .slice b.pA b.pN b.pC :: .bool b.a.h :: .int .u64 (b.n : Int) :: .slice b.xA b.xN b.xC :: .int .i64 e.a.k :: .int .i64 e.a.t :: .slice e.uA e.uN e.uC :: .slice e.pA e.pN e.pC :: .bool e.a.h :: .int .u64 (e.n : Int) :: .slice e.xA e.xN e.xC :: .int .i64 f.a.k :: .int .i64 f.a.t :: .slice f.uA f.uN f.uC :: .slice f.pA f.pN f.pC :: .bool f.a.h :: .int .u64 (f.n : Int) :: .slice f.xA f.xN f.xC :: .int .i64 g.a.k :: .int .i64 g.a.t :: .slice g.uA g.uN g.uC :: .slice g.pA g.pN g.pC :: .bool g.a.h :: .int .u64 (g.n : Int) :: .slice g.xA g.xN g.xC :: []) ∧ ∃ cs, cs.length = 7 ∧ Lies W (w.heap.size + 1) 68 cs) (by kernel_rfl) HS0.out (fun hS => ?_)
  refine any_norm17 (l' := Array.replicate 13 false) (m' := 13) (by kernel_rfl) (by kernel_rfl) ?_
  refine take_any (i := 0) (v := ?v0) rfl (by kernel_rfl) (by kernel_rfl) (by kernel_rfl) (fun _ _ _ h => h) (Or.inl ⟨by rfl, ?hy0⟩) hS ?rest0
  case hy0 => (intro w hSw; go_simp; try with_reducible rfl)
  try simp only [Act.put, List.setIfInBounds_toArray, List.set_cons_zero, List.set_cons_succ]
  refine take_any (i := 1) (v := ?v1) rfl (by kernel_rfl) (by kernel_rfl) (by kernel_rfl) (fun _ _ _ h => h) (Or.inl ⟨by rfl, ?hy1⟩) hS ?rest1
  case hy1 => (intro w hSw; obtain ⟨_, hc, _⟩ := hSw; have x0 := hc.cell (i := 7) rfl; have x1 := hc.cell (i := 8) rfl; have x2 := hc.cell (i := 9) rfl; have x3 := hc.cell (i := 10) rfl; have x4 := hc.cell (i := 11) rfl; have x5 := hc.cell (i := 12) rfl; have x6 := hc.cell (i := 13) rfl; clear hc; go_simp; try with_reducible rfl)
  try simp only [Act.put, List.setIfInBounds_toArray, List.set_cons_zero, List.set_cons_succ]
  refine take_any (i := 2) (v := ?v2) rfl (by kernel_rfl) (by kernel_rfl) (by kernel_rfl) (fun _ _ _ h => h) (Or.inl ⟨by rfl, ?hy2⟩) hS ?rest2
  case hy2 => (intro w hSw; go_simp; try with_reducible rfl)
  try simp only [Act.put, List.setIfInBounds_toArray, List.set_cons_zero, List.set_cons_succ]
  refine take_any (i := 3) (v := ?v3) rfl (by kernel_rfl) (by kernel_rfl) (by kernel_rfl) (fun _ _ _ h => h) (Or.inl ⟨by rfl, ?hy3⟩) hS ?rest3
  case hy3 => (intro w hSw; obtain ⟨_, hc, _⟩ := hSw; have x0 := hc.cell (i := 0) rfl; have x1 := hc.cell (i := 1) rfl; have x2 := hc.cell (i := 2) rfl; have x3 := hc.cell (i := 3) rfl; have x4 := hc.cell (i := 4) rfl; have x5 := hc.cell (i := 5) rfl; have x6 := hc.cell (i := 6) rfl; clear hc; go_simp; try with_reducible rfl)
  try simp only [Act.put, List.setIfInBounds_toArray, List.set_cons_zero, List.set_cons_succ]
  refine take_any (i := 4) (v := ?v4) rfl (by kernel_rfl) (by kernel_rfl) (by kernel_rfl) (fun _ _ _ h => h) (Or.inl ⟨by rfl, ?hy4⟩) hS ?rest4
  case hy4 => (intro w hSw; go_simp; try with_reducible rfl)
  try simp only [Act.put, List.setIfInBounds_toArray, List.set_cons_zero, List.set_cons_succ]
  refine take_any (i := 5) (v := ?v5) rfl (by kernel_rfl) (by kernel_rfl) (by kernel_rfl) (fun _ _ _ h => h) (Or.inl ⟨by rfl, ?hy5⟩) hS ?rest5
  case hy5 => (intro w hSw; obtain ⟨_, hc, _⟩ := hSw; have x0 := hc.cell (i := 14) rfl; have x1 := hc.cell (i := 15) rfl; have x2 := hc.cell (i := 16) rfl; have x3 := hc.cell (i := 17) rfl; have x4 := hc.cell (i := 18) rfl; have x5 := hc.cell (i := 19) rfl; have x6 := hc.cell (i := 20) rfl; clear hc; go_simp; try with_reducible rfl)
  try simp only [Act.put, List.setIfInBounds_toArray, List.set_cons_zero, List.set_cons_succ]
  refine take_any (i := 6) (v := ?v6) rfl (by kernel_rfl) (by kernel_rfl) (by kernel_rfl) (fun _ _ _ h => h) (Or.inl ⟨by rfl, ?hy6⟩) hS ?rest6
  case hy6 => (intro w hSw; go_simp; try with_reducible rfl)
  try simp only [Act.put, List.setIfInBounds_toArray, List.set_cons_zero, List.set_cons_succ]
  refine take_any (i := 7) (v := ?v7) rfl (by kernel_rfl) (by kernel_rfl) (by kernel_rfl) (fun _ _ _ h => h) (Or.inl ⟨by rfl, ?hy7⟩) hS ?rest7
  case hy7 => (intro w hSw; obtain ⟨_, hc, _⟩ := hSw; have x0 := hc.cell (i := 21) rfl; have x1 := hc.cell (i := 22) rfl; have x2 := hc.cell (i := 23) rfl; have x3 := hc.cell (i := 24) rfl; have x4 := hc.cell (i := 25) rfl; have x5 := hc.cell (i := 26) rfl; have x6 := hc.cell (i := 27) rfl; clear hc; go_simp; try with_reducible rfl)
  try simp only [Act.put, List.setIfInBounds_toArray, List.set_cons_zero, List.set_cons_succ]
  refine take_any (i := 9) (v := ?v8) rfl (by kernel_rfl) (by kernel_rfl) (by kernel_rfl) (fun _ _ _ h => h) (Or.inl ⟨by rfl, ?hy8⟩) hS ?rest8
  case hy8 => (intro w hSw; go_simp; try with_reducible rfl)
  try simp only [Act.put, List.setIfInBounds_toArray, List.set_cons_zero, List.set_cons_succ]
  refine take_any (i := 10) (v := ?v9) rfl (by kernel_rfl) (by kernel_rfl) (by kernel_rfl) (fun _ _ _ h => h) (Or.inl ⟨by rfl, ?hy9⟩) hS ?rest9
  case hy9 => (intro w hSw; obtain ⟨_, hc, _⟩ := hSw; have x0 := hc.cell (i := 28) rfl; have x1 := hc.cell (i := 29) rfl; have x2 := hc.cell (i := 30) rfl; have x3 := hc.cell (i := 31) rfl; have x4 := hc.cell (i := 32) rfl; have x5 := hc.cell (i := 33) rfl; have x6 := hc.cell (i := 34) rfl; clear hc; go_simp; try with_reducible rfl)
  try simp only [Act.put, List.setIfInBounds_toArray, List.set_cons_zero, List.set_cons_succ]
  obtain ⟨hbS, hcS, hdS⟩ := hS
  refine wpAnyH_ready (rs := [8]) (by kernel_rfl) (by simp) ?_
  refine AllReadyH.cons rfl (fun K hK => ?_) AllReadyH.nil
  rw [if_pos (by kernel_rfl)]
  go_simp
  refine (C1.out _ hbS).mono ?_
  rintro E w1 ⟨X, rfl, hX, hTX, hb1⟩
  try dsimp only
  have HB1 := Lib.hid (below_join hbS hb1)
  have hS1 : Below w.heap.size w w1 ∧ Lies w1 w.heap.size 123 (.int .i64 a.a.k :: .int .i64 a.a.t :: .slice a.uA a.uN a.uC :: .slice a.pA a.pN a.pC :: .bool a.a.h :: .int .u64 (a.n : Int) :: .slice a.xA a.xN a.xC :: .int .i64 b.a.k :: .int .i64 b.a.t :: .slice b.uA b.uN b.uC :: .slice b.pA b.pN b.pC :: .bool b.a.h :: .int .u64 (b.n : Int) :: .slice b.xA b.xN b.xC :: .int .i64 e.a.k :: .int .i64 e.a.t :: .slice e.uA e.uN e.uC :: .slice e.pA e.pN e.pC :: .bool e.a.h :: .int .u64 (e.n : Int) :: .slice e.xA e.xN e.xC :: .int .i64 f.a.k :: .int .i64 f.a.t :: .slice f.uA f.uN f.uC :: .slice f.pA f.pN f.pC :: .bool f.a.h :: .int .u64 (f.n : Int) :: .slice f.xA f.xN f.xC :: .int .i64 g.a.k :: .int .i64 g.a.t :: .slice g.uA g.uN g.uC :: .slice g.pA g.pN g.pC :: .bool g.a.h :: .int .u64 (g.n : Int) :: .slice g.xA g.xN g.xC :: []) ∧ ∃ cs, cs.length = 7 ∧ Lies w1 (w.heap.size + 1) 68 cs := ⟨HB1.out, hcS.below hb1 hcS.lt, hdS.elim fun cs h => ⟨cs, h.1, h.2.below hb1 h.2.lt⟩⟩
  have HHX := Lib.hid hX
  have HTX := Lib.hid hTX
  have HWS := Lib.hid (show w.heap.size + 1 + 1 ≤ W0.drew.heap.size from Nat.le_of_eq HS.out.symm)
  have HW1S := Lib.hid (Nat.le_trans HWS.out hb1.size)
  refine hK.out _ _ hS1 (fun _ => ?_)
  clear hK K hbS hcS hdS hX hTX hb1
  obtain ⟨hbS, hcS, hdS⟩ := hS1
  try simp only [Act.put, List.setIfInBounds_toArray, List.set_cons_zero, List.set_cons_succ]
  refine wpAnyH_ready (rs := [11]) (by kernel_rfl) (by simp) ?_
  refine AllReadyH.cons rfl (fun K hK => ?_) AllReadyH.nil
  rw [if_pos (by kernel_rfl)]
  go_simp
  refine (C2.out _ _ X hbS HWS.out HTX.out).mono ?_
  rintro E w2 ⟨z, rfl, hz, htz, hb2⟩
  try dsimp only
  have HB2 := Lib.hid (below_join hbS hb2)
  have HZ := Lib.hid hz
  have HTZ := Lib.hid (show TNd (fun k => T k ∨ w.heap.size + 1 + 1 ≤ k) w2 z from htz.mono fun k hk _ => by
    rcases hk with hk | hk
    · exact hk.1
    · exact .inr (Nat.le_trans HW1S.out hk))
  have hS2 : Below w.heap.size w w2 ∧ Lies w2 w.heap.size 123 (.int .i64 a.a.k :: .int .i64 a.a.t :: .slice a.uA a.uN a.uC :: .slice a.pA a.pN a.pC :: .bool a.a.h :: .int .u64 (a.n : Int) :: .slice a.xA a.xN a.xC :: .int .i64 b.a.k :: .int .i64 b.a.t :: .slice b.uA b.uN b.uC :: .slice b.pA b.pN b.pC :: .bool b.a.h :: .int .u64 (b.n : Int) :: .slice b.xA b.xN b.xC :: .int .i64 e.a.k :: .int .i64 e.a.t :: .slice e.uA e.uN e.uC :: .slice e.pA e.pN e.pC :: .bool e.a.h :: .int .u64 (e.n : Int) :: .slice e.xA e.xN e.xC :: .int .i64 f.a.k :: .int .i64 f.a.t :: .slice f.uA f.uN f.uC :: .slice f.pA f.pN f.pC :: .bool f.a.h :: .int .u64 (f.n : Int) :: .slice f.xA f.xN f.xC :: .int .i64 g.a.k :: .int .i64 g.a.t :: .slice g.uA g.uN g.uC :: .slice g.pA g.pN g.pC :: .bool g.a.h :: .int .u64 (g.n : Int) :: .slice g.xA g.xN g.xC :: []) ∧ ∃ cs, cs.length = 7 ∧ Lies w2 (w.heap.size + 1) 68 cs := ⟨HB2.out, hcS.below hb2 hcS.lt, hdS.elim fun cs h => ⟨cs, h.1, h.2.below hb2 h.2.lt⟩⟩
  refine hK.out _ _ hS2 (fun _ => ?_)
  clear hK K hbS hcS hdS hz htz hb2
  obtain ⟨hbS, hcS, cs, hcl, hdS⟩ := hS2
  try simp only [Act.put, List.setIfInBounds_toArray, List.set_cons_zero, List.set_cons_succ]
  refine wpAnyH_ready (rs := [12]) (by kernel_rfl) (by simp) ?_
  refine AllReadyH.cons rfl (fun K hK => ?_) AllReadyH.nil
  rw [if_pos (by kernel_rfl)]
  refine wp_store_mid 68 _ _ rfl (w.heap.size + 1) 0 (.int .i64 z.a.k :: .int .i64 z.a.t :: .slice z.uA z.uN z.uC :: .slice z.pA z.pN z.pC :: .bool z.a.h :: .int .u64 (z.n : Int) :: .slice z.xA z.xN z.xC :: []).toArray rfl rfl (hdS.there hcl.symm) (by kernel_rfl) (by rw [← Array.all_toList]; rfl) ?_
  obtain ⟨W6, hW6⟩ : ∃ W6, W6 = setCells w2 (w.heap.size + 1) 0 (.int .i64 z.a.k :: .int .i64 z.a.t :: .slice z.uA z.uN z.uC :: .slice z.pA z.pN z.pC :: .bool z.a.h :: .int .u64 (z.n : Int) :: .slice z.xA z.xN z.xC :: []) := ⟨_, rfl⟩
  rw [setCells_kit]
  rw [← hW6]
  obtain ⟨hl, hb6, hk6, hq6, _⟩ := stored_many (P := Tryz.prog) (L := (.int .i64 z.a.k :: .int .i64 z.a.t :: .slice z.uA z.uN z.uC :: .slice z.pA z.pN z.pC :: .bool z.a.h :: .int .u64 (z.n : Int) :: .slice z.xA z.xN z.xC :: [])) (w := w) hdS hcl.symm Tryz.underlying68 rfl (by rw [hcl]; kernel_rfl) HB2.out (Nat.le_succ _) hW6
  clear hW6
  refine hK.out _ _ ⟨hb6, (hk6.same _ hcS.lt (by omega)).trans hcS, _, rfl, hq6⟩ (fun _ => ?_)
  clear hK K
  try simp only [Act.put, List.setIfInBounds_toArray]
  refine wpAnyH_done (by kernel_rfl) ?_ _
  clear hbS hcS hdS hcl
  go_wp2_with fail
  refine bodyPost_ret (v := .agg (.int .i64 z.a.k :: .int .i64 z.a.t :: .slice z.uA z.uN z.uC :: .slice z.pA z.pN z.pC :: .bool z.a.h :: .int .u64 (z.n : Int) :: .slice z.xA z.xN z.xC :: []).toArray) (results_cell rfl rfl hl) rfl ?_
  exact ⟨z, rfl, HZ.out.trans (by rw [HHX.out]), HTZ.out.keep hk6.size (fun k hk hlt => ⟨hk6.same k hlt (by
    rcases hk with hk | hk
    · have := HT.out k hk; omega
    · omega), hk.imp id (fun h => by omega)⟩), hb6⟩
set_option maxRecDepth 100000 in
theorem imade4_any (T : Nat → Prop) (a b e f g : Nd) (w : World) (hp : PtOk T 4 w a b e f g) (hT : ∀ k, T k → k < w.heap.size) (hka : a.a.k ≠ 0) (hkb : b.a.k ≠ 0) :
    Calls Tryz.prog 81 #[.agg (.int .i64 a.a.k :: .int .i64 a.a.t :: .slice a.uA a.uN a.uC :: .slice a.pA a.pN a.pC :: .bool a.a.h :: .int .u64 (a.n : Int) :: .slice a.xA a.xN a.xC :: .int .i64 b.a.k :: .int .i64 b.a.t :: .slice b.uA b.uN b.uC :: .slice b.pA b.pN b.pC :: .bool b.a.h :: .int .u64 (b.n : Int) :: .slice b.xA b.xN b.xC :: .int .i64 e.a.k :: .int .i64 e.a.t :: .slice e.uA e.uN e.uC :: .slice e.pA e.pN e.pC :: .bool e.a.h :: .int .u64 (e.n : Int) :: .slice e.xA e.xN e.xC :: .int .i64 f.a.k :: .int .i64 f.a.t :: .slice f.uA f.uN f.uC :: .slice f.pA f.pN f.pC :: .bool f.a.h :: .int .u64 (f.n : Int) :: .slice f.xA f.xN f.xC :: .int .i64 g.a.k :: .int .i64 g.a.t :: .slice g.uA g.uN g.uC :: .slice g.pA g.pN g.pC :: .bool g.a.h :: .int .u64 (g.n : Int) :: .slice g.xA g.xN g.xC :: []).toArray] w (MdIs T (Id.made 4 ⟨a.a, b.a, e.a, f.a, g.a⟩) w) := by
  obtain ⟨W0, hW0⟩ : ∃ W0, W0 = (w.alloc (Obj.cells (.int .i64 a.a.k :: .int .i64 a.a.t :: .slice a.uA a.uN a.uC :: .slice a.pA a.pN a.pC :: .bool a.a.h :: .int .u64 (a.n : Int) :: .slice a.xA a.xN a.xC :: .int .i64 b.a.k :: .int .i64 b.a.t :: .slice b.uA b.uN b.uC :: .slice b.pA b.pN b.pC :: .bool b.a.h :: .int .u64 (b.n : Int) :: .slice b.xA b.xN b.xC :: .int .i64 e.a.k :: .int .i64 e.a.t :: .slice e.uA e.uN e.uC :: .slice e.pA e.pN e.pC :: .bool e.a.h :: .int .u64 (e.n : Int) :: .slice e.xA e.xN e.xC :: .int .i64 f.a.k :: .int .i64 f.a.t :: .slice f.uA f.uN f.uC :: .slice f.pA f.pN f.pC :: .bool f.a.h :: .int .u64 (f.n : Int) :: .slice f.xA f.xN f.xC :: .int .i64 g.a.k :: .int .i64 g.a.t :: .slice g.uA g.uN g.uC :: .slice g.pA g.pN g.pC :: .bool g.a.h :: .int .u64 (g.n : Int) :: .slice g.xA g.xN g.xC :: []).toArray 123)).alloc (Obj.cells #[.int .i64 0, .int .i64 0, .slice none 0 0, .slice none 0 0, .bool false, .int .u64 0, .slice none 0 0] 68) := ⟨_, rfl⟩
  obtain ⟨l0, l1, hb0⟩ := box_two (cs := (.int .i64 a.a.k :: .int .i64 a.a.t :: .slice a.uA a.uN a.uC :: .slice a.pA a.pN a.pC :: .bool a.a.h :: .int .u64 (a.n : Int) :: .slice a.xA a.xN a.xC :: .int .i64 b.a.k :: .int .i64 b.a.t :: .slice b.uA b.uN b.uC :: .slice b.pA b.pN b.pC :: .bool b.a.h :: .int .u64 (b.n : Int) :: .slice b.xA b.xN b.xC :: .int .i64 e.a.k :: .int .i64 e.a.t :: .slice e.uA e.uN e.uC :: .slice e.pA e.pN e.pC :: .bool e.a.h :: .int .u64 (e.n : Int) :: .slice e.xA e.xN e.xC :: .int .i64 f.a.k :: .int .i64 f.a.t :: .slice f.uA f.uN f.uC :: .slice f.pA f.pN f.pC :: .bool f.a.h :: .int .u64 (f.n : Int) :: .slice f.xA f.xN f.xC :: .int .i64 g.a.k :: .int .i64 g.a.t :: .slice g.uA g.uN g.uC :: .slice g.pA g.pN g.pC :: .bool g.a.h :: .int .u64 (g.n : Int) :: .slice g.xA g.xN g.xC :: [])) (ds := [.int .i64 0, .int .i64 0, .slice none 0 0, .slice none 0 0, .bool false, .int .u64 0, .slice none 0 0]) hW0
  have hs0 : W0.heap.size = w.heap.size + 1 + 1 := by rw [hW0, World.size_alloc, World.size_alloc]
  have hF : Id.made 4 ⟨a.a, b.a, e.a, f.a, g.a⟩ = Id.on a.a (Id.on b.a e.a g.a) f.a := rfl
  rw [hF]
  have HT := Lib.hid hT
  have C1 := Lib.hid (fun W (hb : Below w.heap.size w W) => ion_any T b e g W (((hp.bg (by decide)).1.below hb).psOn) (hp.he.below hb) ((hp.bg (by decide)).2.below hb) hkb (fun k hk => Nat.lt_of_lt_of_le (hT k hk) hb.size))
  have C2 := Lib.hid (fun W1 W (X : Nd) (hb : Below w.heap.size w W) (hw1 : w.heap.size + 1 + 1 ≤ W1) (hx : TNd (fun k => T k ∨ W1 ≤ k) W X) => ion_any (fun k => (T k ∨ w.heap.size + 1 + 1 ≤ k) ∧ k < W.heap.size) a X f W (((hp.ha.below hb).mono (fun k hk hlt => ⟨.inl hk, hlt⟩)).psOn) (hx.mono (fun k hk hlt => ⟨hk.imp id (fun h => Nat.le_trans hw1 h), hlt⟩)) ((hp.hf.below hb).mono (fun k hk hlt => ⟨.inl hk, hlt⟩)) hka (fun k hk => hk.2))
  have HW := Lib.hid hW0
  have HB0 := Lib.hid hb0
  have HS := Lib.hid hs0
  have HS0 := Lib.hid (show Below w.heap.size w W0.drew ∧ Lies W0.drew w.heap.size 123 (.int .i64 a.a.k :: .int .i64 a.a.t :: .slice a.uA a.uN a.uC :: .slice a.pA a.pN a.pC :: .bool a.a.h :: .int .u64 (a.n : Int) :: .slice a.xA a.xN a.xC :: .int .i64 b.a.k :: .int .i64 b.a.t :: .slice b.uA b.uN b.uC :: .slice b.pA b.pN b.pC :: .bool b.a.h :: .int .u64 (b.n : Int) :: .slice b.xA b.xN b.xC :: .int .i64 e.a.k :: .int .i64 e.a.t :: .slice e.uA e.uN e.uC :: .slice e.pA e.pN e.pC :: .bool e.a.h :: .int .u64 (e.n : Int) :: .slice e.xA e.xN e.xC :: .int .i64 f.a.k :: .int .i64 f.a.t :: .slice f.uA f.uN f.uC :: .slice f.pA f.pN f.pC :: .bool f.a.h :: .int .u64 (f.n : Int) :: .slice f.xA f.xN f.xC :: .int .i64 g.a.k :: .int .i64 g.a.t :: .slice g.uA g.uN g.uC :: .slice g.pA g.pN g.pC :: .bool g.a.h :: .int .u64 (g.n : Int) :: .slice g.xA g.xN g.xC :: []) ∧ ∃ cs, cs.length = 7 ∧ Lies W0.drew (w.heap.size + 1) 68 cs from ⟨hb0.drew, l0, _, rfl, l1⟩)
  clear hp hT hka hkb hF hW0 l0 l1 hb0 hs0
  go_enter Tryz.func81, Tryz.ntmps81
  go_upto_region 1 with (fail)
  rw [← HW.out]
  refine wp_region_held_drew (S := fun W => Below w.heap.size w W ∧ Lies W w.heap.size 123 (.int .i64 a.a.k :: .int .i64 a.a.t :: .slice a.uA a.uN a.uC :: .slice a.pA a.pN a.pC :: .bool a.a.h :: .int .u64 (a.n : Int) :: .slice a.xA a.xN a.xC :: .int .i64 b.a.k :: .int .i64 b.a.t :: .slice b.uA b.uN b.uC :: .slice b.pA b.pN b.pC :: .bool b.a.h :: .int .u64 (b.n : Int) :: .slice b.xA b.xN b.xC :: .int .i64 e.a.k :: .int .i64 e.a.t :: .slice e.uA e.uN e.uC :: .slice e.pA e.pN e.pC :: .bool e.a.h :: .int .u64 (e.n : Int) :: .slice e.xA e.xN e.xC :: .int .i64 f.a.k :: .int .i64 f.a.t :: .slice f.uA f.uN f.uC :: .slice f.pA f.pN f.pC :: .bool f.a.h :: .int .u64 (f.n : Int) :: .slice f.xA f.xN f.xC :: .int .i64 g.a.k :: .int .i64 g.a.t :: .slice g.uA g.uN g.uC :: .slice g.pA g.pN g.pC :: .bool g.a.h :: .int .u64 (g.n : Int) :: .slice g.xA g.xN g.xC :: []) ∧ ∃ cs, cs.length = 7 ∧ Lies W (w.heap.size + 1) 68 cs) (by kernel_rfl) HS0.out (fun hS => ?_)
  refine any_norm17 (l' := Array.replicate 13 false) (m' := 13) (by kernel_rfl) (by kernel_rfl) ?_
  refine take_any (i := 0) (v := ?v0) rfl (by kernel_rfl) (by kernel_rfl) (by kernel_rfl) (fun _ _ _ h => h) (Or.inl ⟨by rfl, ?hy0⟩) hS ?rest0
  case hy0 => (intro w hSw; go_simp; try with_reducible rfl)
  try simp only [Act.put, List.setIfInBounds_toArray, List.set_cons_zero, List.set_cons_succ]
  refine take_any (i := 1) (v := ?v1) rfl (by kernel_rfl) (by kernel_rfl) (by kernel_rfl) (fun _ _ _ h => h) (Or.inl ⟨by rfl, ?hy1⟩) hS ?rest1
  case hy1 => (intro w hSw; obtain ⟨_, hc, _⟩ := hSw; have x0 := hc.cell (i := 0) rfl; have x1 := hc.cell (i := 1) rfl; have x2 := hc.cell (i := 2) rfl; have x3 := hc.cell (i := 3) rfl; have x4 := hc.cell (i := 4) rfl; have x5 := hc.cell (i := 5) rfl; have x6 := hc.cell (i := 6) rfl; clear hc; go_simp; try with_reducible rfl)
  try simp only [Act.put, List.setIfInBounds_toArray, List.set_cons_zero, List.set_cons_succ]
  refine take_any (i := 2) (v := ?v2) rfl (by kernel_rfl) (by kernel_rfl) (by kernel_rfl) (fun _ _ _ h => h) (Or.inl ⟨by rfl, ?hy2⟩) hS ?rest2
  case hy2 => (intro w hSw; go_simp; try with_reducible rfl)
  try simp only [Act.put, List.setIfInBounds_toArray, List.set_cons_zero, List.set_cons_succ]
  refine take_any (i := 3) (v := ?v3) rfl (by kernel_rfl) (by kernel_rfl) (by kernel_rfl) (fun _ _ _ h => h) (Or.inl ⟨by rfl, ?hy3⟩) hS ?rest3
  case hy3 => (intro w hSw; obtain ⟨_, hc, _⟩ := hSw; have x0 := hc.cell (i := 7) rfl; have x1 := hc.cell (i := 8) rfl; have x2 := hc.cell (i := 9) rfl; have x3 := hc.cell (i := 10) rfl; have x4 := hc.cell (i := 11) rfl; have x5 := hc.cell (i := 12) rfl; have x6 := hc.cell (i := 13) rfl; clear hc; go_simp; try with_reducible rfl)
  try simp only [Act.put, List.setIfInBounds_toArray, List.set_cons_zero, List.set_cons_succ]
  refine take_any (i := 4) (v := ?v4) rfl (by kernel_rfl) (by kernel_rfl) (by kernel_rfl) (fun _ _ _ h => h) (Or.inl ⟨by rfl, ?hy4⟩) hS ?rest4
  case hy4 => (intro w hSw; go_simp; try with_reducible rfl)
  try simp only [Act.put, List.setIfInBounds_toArray, List.set_cons_zero, List.set_cons_succ]
  refine take_any (i := 5) (v := ?v5) rfl (by kernel_rfl) (by kernel_rfl) (by kernel_rfl) (fun _ _ _ h => h) (Or.inl ⟨by rfl, ?hy5⟩) hS ?rest5
  case hy5 => (intro w hSw; obtain ⟨_, hc, _⟩ := hSw; have x0 := hc.cell (i := 14) rfl; have x1 := hc.cell (i := 15) rfl; have x2 := hc.cell (i := 16) rfl; have x3 := hc.cell (i := 17) rfl; have x4 := hc.cell (i := 18) rfl; have x5 := hc.cell (i := 19) rfl; have x6 := hc.cell (i := 20) rfl; clear hc; go_simp; try with_reducible rfl)
  try simp only [Act.put, List.setIfInBounds_toArray, List.set_cons_zero, List.set_cons_succ]
  refine take_any (i := 6) (v := ?v6) rfl (by kernel_rfl) (by kernel_rfl) (by kernel_rfl) (fun _ _ _ h => h) (Or.inl ⟨by rfl, ?hy6⟩) hS ?rest6
  case hy6 => (intro w hSw; go_simp; try with_reducible rfl)
  try simp only [Act.put, List.setIfInBounds_toArray, List.set_cons_zero, List.set_cons_succ]
  refine take_any (i := 7) (v := ?v7) rfl (by kernel_rfl) (by kernel_rfl) (by kernel_rfl) (fun _ _ _ h => h) (Or.inl ⟨by rfl, ?hy7⟩) hS ?rest7
  case hy7 => (intro w hSw; obtain ⟨_, hc, _⟩ := hSw; have x0 := hc.cell (i := 28) rfl; have x1 := hc.cell (i := 29) rfl; have x2 := hc.cell (i := 30) rfl; have x3 := hc.cell (i := 31) rfl; have x4 := hc.cell (i := 32) rfl; have x5 := hc.cell (i := 33) rfl; have x6 := hc.cell (i := 34) rfl; clear hc; go_simp; try with_reducible rfl)
  try simp only [Act.put, List.setIfInBounds_toArray, List.set_cons_zero, List.set_cons_succ]
  refine take_any (i := 9) (v := ?v8) rfl (by kernel_rfl) (by kernel_rfl) (by kernel_rfl) (fun _ _ _ h => h) (Or.inl ⟨by rfl, ?hy8⟩) hS ?rest8
  case hy8 => (intro w hSw; go_simp; try with_reducible rfl)
  try simp only [Act.put, List.setIfInBounds_toArray, List.set_cons_zero, List.set_cons_succ]
  refine take_any (i := 10) (v := ?v9) rfl (by kernel_rfl) (by kernel_rfl) (by kernel_rfl) (fun _ _ _ h => h) (Or.inl ⟨by rfl, ?hy9⟩) hS ?rest9
  case hy9 => (intro w hSw; obtain ⟨_, hc, _⟩ := hSw; have x0 := hc.cell (i := 21) rfl; have x1 := hc.cell (i := 22) rfl; have x2 := hc.cell (i := 23) rfl; have x3 := hc.cell (i := 24) rfl; have x4 := hc.cell (i := 25) rfl; have x5 := hc.cell (i := 26) rfl; have x6 := hc.cell (i := 27) rfl; clear hc; go_simp; try with_reducible rfl)
  try simp only [Act.put, List.setIfInBounds_toArray, List.set_cons_zero, List.set_cons_succ]
  obtain ⟨hbS, hcS, hdS⟩ := hS
  refine wpAnyH_ready (rs := [8]) (by kernel_rfl) (by simp) ?_
  refine AllReadyH.cons rfl (fun K hK => ?_) AllReadyH.nil
  rw [if_pos (by kernel_rfl)]
  go_simp
  refine (C1.out _ hbS).mono ?_
  rintro E w1 ⟨X, rfl, hX, hTX, hb1⟩
  try dsimp only
  have HB1 := Lib.hid (below_join hbS hb1)
  have hS1 : Below w.heap.size w w1 ∧ Lies w1 w.heap.size 123 (.int .i64 a.a.k :: .int .i64 a.a.t :: .slice a.uA a.uN a.uC :: .slice a.pA a.pN a.pC :: .bool a.a.h :: .int .u64 (a.n : Int) :: .slice a.xA a.xN a.xC :: .int .i64 b.a.k :: .int .i64 b.a.t :: .slice b.uA b.uN b.uC :: .slice b.pA b.pN b.pC :: .bool b.a.h :: .int .u64 (b.n : Int) :: .slice b.xA b.xN b.xC :: .int .i64 e.a.k :: .int .i64 e.a.t :: .slice e.uA e.uN e.uC :: .slice e.pA e.pN e.pC :: .bool e.a.h :: .int .u64 (e.n : Int) :: .slice e.xA e.xN e.xC :: .int .i64 f.a.k :: .int .i64 f.a.t :: .slice f.uA f.uN f.uC :: .slice f.pA f.pN f.pC :: .bool f.a.h :: .int .u64 (f.n : Int) :: .slice f.xA f.xN f.xC :: .int .i64 g.a.k :: .int .i64 g.a.t :: .slice g.uA g.uN g.uC :: .slice g.pA g.pN g.pC :: .bool g.a.h :: .int .u64 (g.n : Int) :: .slice g.xA g.xN g.xC :: []) ∧ ∃ cs, cs.length = 7 ∧ Lies w1 (w.heap.size + 1) 68 cs := ⟨HB1.out, hcS.below hb1 hcS.lt, hdS.elim fun cs h => ⟨cs, h.1, h.2.below hb1 h.2.lt⟩⟩
  have HHX := Lib.hid hX
  have HTX := Lib.hid hTX
  have HWS := Lib.hid (show w.heap.size + 1 + 1 ≤ W0.drew.heap.size from Nat.le_of_eq HS.out.symm)
  have HW1S := Lib.hid (Nat.le_trans HWS.out hb1.size)
  refine hK.out _ _ hS1 (fun _ => ?_)
  clear hK K hbS hcS hdS hX hTX hb1
  obtain ⟨hbS, hcS, hdS⟩ := hS1
  try simp only [Act.put, List.setIfInBounds_toArray, List.set_cons_zero, List.set_cons_succ]
  refine wpAnyH_ready (rs := [11]) (by kernel_rfl) (by simp) ?_
  refine AllReadyH.cons rfl (fun K hK => ?_) AllReadyH.nil
  rw [if_pos (by kernel_rfl)]
  go_simp
  refine (C2.out _ _ X hbS HWS.out HTX.out).mono ?_
  rintro E w2 ⟨z, rfl, hz, htz, hb2⟩
  try dsimp only
  have HB2 := Lib.hid (below_join hbS hb2)
  have HZ := Lib.hid hz
  have HTZ := Lib.hid (show TNd (fun k => T k ∨ w.heap.size + 1 + 1 ≤ k) w2 z from htz.mono fun k hk _ => by
    rcases hk with hk | hk
    · exact hk.1
    · exact .inr (Nat.le_trans HW1S.out hk))
  have hS2 : Below w.heap.size w w2 ∧ Lies w2 w.heap.size 123 (.int .i64 a.a.k :: .int .i64 a.a.t :: .slice a.uA a.uN a.uC :: .slice a.pA a.pN a.pC :: .bool a.a.h :: .int .u64 (a.n : Int) :: .slice a.xA a.xN a.xC :: .int .i64 b.a.k :: .int .i64 b.a.t :: .slice b.uA b.uN b.uC :: .slice b.pA b.pN b.pC :: .bool b.a.h :: .int .u64 (b.n : Int) :: .slice b.xA b.xN b.xC :: .int .i64 e.a.k :: .int .i64 e.a.t :: .slice e.uA e.uN e.uC :: .slice e.pA e.pN e.pC :: .bool e.a.h :: .int .u64 (e.n : Int) :: .slice e.xA e.xN e.xC :: .int .i64 f.a.k :: .int .i64 f.a.t :: .slice f.uA f.uN f.uC :: .slice f.pA f.pN f.pC :: .bool f.a.h :: .int .u64 (f.n : Int) :: .slice f.xA f.xN f.xC :: .int .i64 g.a.k :: .int .i64 g.a.t :: .slice g.uA g.uN g.uC :: .slice g.pA g.pN g.pC :: .bool g.a.h :: .int .u64 (g.n : Int) :: .slice g.xA g.xN g.xC :: []) ∧ ∃ cs, cs.length = 7 ∧ Lies w2 (w.heap.size + 1) 68 cs := ⟨HB2.out, hcS.below hb2 hcS.lt, hdS.elim fun cs h => ⟨cs, h.1, h.2.below hb2 h.2.lt⟩⟩
  refine hK.out _ _ hS2 (fun _ => ?_)
  clear hK K hbS hcS hdS hz htz hb2
  obtain ⟨hbS, hcS, cs, hcl, hdS⟩ := hS2
  try simp only [Act.put, List.setIfInBounds_toArray, List.set_cons_zero, List.set_cons_succ]
  refine wpAnyH_ready (rs := [12]) (by kernel_rfl) (by simp) ?_
  refine AllReadyH.cons rfl (fun K hK => ?_) AllReadyH.nil
  rw [if_pos (by kernel_rfl)]
  refine wp_store_mid 68 _ _ rfl (w.heap.size + 1) 0 (.int .i64 z.a.k :: .int .i64 z.a.t :: .slice z.uA z.uN z.uC :: .slice z.pA z.pN z.pC :: .bool z.a.h :: .int .u64 (z.n : Int) :: .slice z.xA z.xN z.xC :: []).toArray rfl rfl (hdS.there hcl.symm) (by kernel_rfl) (by rw [← Array.all_toList]; rfl) ?_
  obtain ⟨W6, hW6⟩ : ∃ W6, W6 = setCells w2 (w.heap.size + 1) 0 (.int .i64 z.a.k :: .int .i64 z.a.t :: .slice z.uA z.uN z.uC :: .slice z.pA z.pN z.pC :: .bool z.a.h :: .int .u64 (z.n : Int) :: .slice z.xA z.xN z.xC :: []) := ⟨_, rfl⟩
  rw [setCells_kit]
  rw [← hW6]
  obtain ⟨hl, hb6, hk6, hq6, _⟩ := stored_many (P := Tryz.prog) (L := (.int .i64 z.a.k :: .int .i64 z.a.t :: .slice z.uA z.uN z.uC :: .slice z.pA z.pN z.pC :: .bool z.a.h :: .int .u64 (z.n : Int) :: .slice z.xA z.xN z.xC :: [])) (w := w) hdS hcl.symm Tryz.underlying68 rfl (by rw [hcl]; kernel_rfl) HB2.out (Nat.le_succ _) hW6
  clear hW6
  refine hK.out _ _ ⟨hb6, (hk6.same _ hcS.lt (by omega)).trans hcS, _, rfl, hq6⟩ (fun _ => ?_)
  clear hK K
  try simp only [Act.put, List.setIfInBounds_toArray]
  refine wpAnyH_done (by kernel_rfl) ?_ _
  clear hbS hcS hdS hcl
  go_wp2_with fail
  refine bodyPost_ret (v := .agg (.int .i64 z.a.k :: .int .i64 z.a.t :: .slice z.uA z.uN z.uC :: .slice z.pA z.pN z.pC :: .bool z.a.h :: .int .u64 (z.n : Int) :: .slice z.xA z.xN z.xC :: []).toArray) (results_cell rfl rfl hl) rfl ?_
  exact ⟨z, rfl, HZ.out.trans (by rw [HHX.out]), HTZ.out.keep hk6.size (fun k hk hlt => ⟨hk6.same k hlt (by
    rcases hk with hk | hk
    · have := HT.out k hk; omega
    · omega), hk.imp id (fun h => by omega)⟩), hb6⟩
set_option maxRecDepth 100000 in
theorem imade5_any (T : Nat → Prop) (a b e f g : Nd) (w : World) (hp : PtOk T 5 w a b e f g) (hT : ∀ k, T k → k < w.heap.size) (hka : a.a.k ≠ 0) (hkb : b.a.k ≠ 0) :
    Calls Tryz.prog 83 #[.agg (.int .i64 a.a.k :: .int .i64 a.a.t :: .slice a.uA a.uN a.uC :: .slice a.pA a.pN a.pC :: .bool a.a.h :: .int .u64 (a.n : Int) :: .slice a.xA a.xN a.xC :: .int .i64 b.a.k :: .int .i64 b.a.t :: .slice b.uA b.uN b.uC :: .slice b.pA b.pN b.pC :: .bool b.a.h :: .int .u64 (b.n : Int) :: .slice b.xA b.xN b.xC :: .int .i64 e.a.k :: .int .i64 e.a.t :: .slice e.uA e.uN e.uC :: .slice e.pA e.pN e.pC :: .bool e.a.h :: .int .u64 (e.n : Int) :: .slice e.xA e.xN e.xC :: .int .i64 f.a.k :: .int .i64 f.a.t :: .slice f.uA f.uN f.uC :: .slice f.pA f.pN f.pC :: .bool f.a.h :: .int .u64 (f.n : Int) :: .slice f.xA f.xN f.xC :: .int .i64 g.a.k :: .int .i64 g.a.t :: .slice g.uA g.uN g.uC :: .slice g.pA g.pN g.pC :: .bool g.a.h :: .int .u64 (g.n : Int) :: .slice g.xA g.xN g.xC :: []).toArray] w (MdIs T (Id.made 5 ⟨a.a, b.a, e.a, f.a, g.a⟩) w) := by
  obtain ⟨W0, hW0⟩ : ∃ W0, W0 = (w.alloc (Obj.cells (.int .i64 a.a.k :: .int .i64 a.a.t :: .slice a.uA a.uN a.uC :: .slice a.pA a.pN a.pC :: .bool a.a.h :: .int .u64 (a.n : Int) :: .slice a.xA a.xN a.xC :: .int .i64 b.a.k :: .int .i64 b.a.t :: .slice b.uA b.uN b.uC :: .slice b.pA b.pN b.pC :: .bool b.a.h :: .int .u64 (b.n : Int) :: .slice b.xA b.xN b.xC :: .int .i64 e.a.k :: .int .i64 e.a.t :: .slice e.uA e.uN e.uC :: .slice e.pA e.pN e.pC :: .bool e.a.h :: .int .u64 (e.n : Int) :: .slice e.xA e.xN e.xC :: .int .i64 f.a.k :: .int .i64 f.a.t :: .slice f.uA f.uN f.uC :: .slice f.pA f.pN f.pC :: .bool f.a.h :: .int .u64 (f.n : Int) :: .slice f.xA f.xN f.xC :: .int .i64 g.a.k :: .int .i64 g.a.t :: .slice g.uA g.uN g.uC :: .slice g.pA g.pN g.pC :: .bool g.a.h :: .int .u64 (g.n : Int) :: .slice g.xA g.xN g.xC :: []).toArray 123)).alloc (Obj.cells #[.int .i64 0, .int .i64 0, .slice none 0 0, .slice none 0 0, .bool false, .int .u64 0, .slice none 0 0] 68) := ⟨_, rfl⟩
  obtain ⟨l0, l1, hb0⟩ := box_two (cs := (.int .i64 a.a.k :: .int .i64 a.a.t :: .slice a.uA a.uN a.uC :: .slice a.pA a.pN a.pC :: .bool a.a.h :: .int .u64 (a.n : Int) :: .slice a.xA a.xN a.xC :: .int .i64 b.a.k :: .int .i64 b.a.t :: .slice b.uA b.uN b.uC :: .slice b.pA b.pN b.pC :: .bool b.a.h :: .int .u64 (b.n : Int) :: .slice b.xA b.xN b.xC :: .int .i64 e.a.k :: .int .i64 e.a.t :: .slice e.uA e.uN e.uC :: .slice e.pA e.pN e.pC :: .bool e.a.h :: .int .u64 (e.n : Int) :: .slice e.xA e.xN e.xC :: .int .i64 f.a.k :: .int .i64 f.a.t :: .slice f.uA f.uN f.uC :: .slice f.pA f.pN f.pC :: .bool f.a.h :: .int .u64 (f.n : Int) :: .slice f.xA f.xN f.xC :: .int .i64 g.a.k :: .int .i64 g.a.t :: .slice g.uA g.uN g.uC :: .slice g.pA g.pN g.pC :: .bool g.a.h :: .int .u64 (g.n : Int) :: .slice g.xA g.xN g.xC :: [])) (ds := [.int .i64 0, .int .i64 0, .slice none 0 0, .slice none 0 0, .bool false, .int .u64 0, .slice none 0 0]) hW0
  have hs0 : W0.heap.size = w.heap.size + 1 + 1 := by rw [hW0, World.size_alloc, World.size_alloc]
  have hF : Id.made 5 ⟨a.a, b.a, e.a, f.a, g.a⟩ = Id.on b.a f.a (Id.on a.a e.a g.a) := rfl
  rw [hF]
  have HT := Lib.hid hT
  have C1 := Lib.hid (fun W (hb : Below w.heap.size w W) => ion_any T a e g W ((hp.ha.below hb).psOn) (hp.he.below hb) ((hp.bg (by decide)).2.below hb) hka (fun k hk => Nat.lt_of_lt_of_le (hT k hk) hb.size))
  have C2 := Lib.hid (fun W1 W (X : Nd) (hb : Below w.heap.size w W) (hw1 : w.heap.size + 1 + 1 ≤ W1) (hx : TNd (fun k => T k ∨ W1 ≤ k) W X) => ion_any (fun k => (T k ∨ w.heap.size + 1 + 1 ≤ k) ∧ k < W.heap.size) b f X W ((((hp.bg (by decide)).1.below hb).mono (fun k hk hlt => ⟨.inl hk, hlt⟩)).psOn) ((hp.hf.below hb).mono (fun k hk hlt => ⟨.inl hk, hlt⟩)) (hx.mono (fun k hk hlt => ⟨hk.imp id (fun h => Nat.le_trans hw1 h), hlt⟩)) hkb (fun k hk => hk.2))
  have HW := Lib.hid hW0
  have HB0 := Lib.hid hb0
  have HS := Lib.hid hs0
  have HS0 := Lib.hid (show Below w.heap.size w W0.drew ∧ Lies W0.drew w.heap.size 123 (.int .i64 a.a.k :: .int .i64 a.a.t :: .slice a.uA a.uN a.uC :: .slice a.pA a.pN a.pC :: .bool a.a.h :: .int .u64 (a.n : Int) :: .slice a.xA a.xN a.xC :: .int .i64 b.a.k :: .int .i64 b.a.t :: .slice b.uA b.uN b.uC :: .slice b.pA b.pN b.pC :: .bool b.a.h :: .int .u64 (b.n : Int) :: .slice b.xA b.xN b.xC :: .int .i64 e.a.k :: .int .i64 e.a.t :: .slice e.uA e.uN e.uC :: .slice e.pA e.pN e.pC :: .bool e.a.h :: .int .u64 (e.n : Int) :: .slice e.xA e.xN e.xC :: .int .i64 f.a.k :: .int .i64 f.a.t :: .slice f.uA f.uN f.uC :: .slice f.pA f.pN f.pC :: .bool f.a.h :: .int .u64 (f.n : Int) :: .slice f.xA f.xN f.xC :: .int .i64 g.a.k :: .int .i64 g.a.t :: .slice g.uA g.uN g.uC :: .slice g.pA g.pN g.pC :: .bool g.a.h :: .int .u64 (g.n : Int) :: .slice g.xA g.xN g.xC :: []) ∧ ∃ cs, cs.length = 7 ∧ Lies W0.drew (w.heap.size + 1) 68 cs from ⟨hb0.drew, l0, _, rfl, l1⟩)
  clear hp hT hka hkb hF hW0 l0 l1 hb0 hs0
  go_enter Tryz.func83, Tryz.ntmps83
  go_upto_region 1 with (fail)
  rw [← HW.out]
  refine wp_region_held_drew (S := fun W => Below w.heap.size w W ∧ Lies W w.heap.size 123 (.int .i64 a.a.k :: .int .i64 a.a.t :: .slice a.uA a.uN a.uC :: .slice a.pA a.pN a.pC :: .bool a.a.h :: .int .u64 (a.n : Int) :: .slice a.xA a.xN a.xC :: .int .i64 b.a.k :: .int .i64 b.a.t :: .slice b.uA b.uN b.uC :: .slice b.pA b.pN b.pC :: .bool b.a.h :: .int .u64 (b.n : Int) :: .slice b.xA b.xN b.xC :: .int .i64 e.a.k :: .int .i64 e.a.t :: .slice e.uA e.uN e.uC :: .slice e.pA e.pN e.pC :: .bool e.a.h :: .int .u64 (e.n : Int) :: .slice e.xA e.xN e.xC :: .int .i64 f.a.k :: .int .i64 f.a.t :: .slice f.uA f.uN f.uC :: .slice f.pA f.pN f.pC :: .bool f.a.h :: .int .u64 (f.n : Int) :: .slice f.xA f.xN f.xC :: .int .i64 g.a.k :: .int .i64 g.a.t :: .slice g.uA g.uN g.uC :: .slice g.pA g.pN g.pC :: .bool g.a.h :: .int .u64 (g.n : Int) :: .slice g.xA g.xN g.xC :: []) ∧ ∃ cs, cs.length = 7 ∧ Lies W (w.heap.size + 1) 68 cs) (by kernel_rfl) HS0.out (fun hS => ?_)
  refine any_norm17 (l' := Array.replicate 13 false) (m' := 13) (by kernel_rfl) (by kernel_rfl) ?_
  refine take_any (i := 0) (v := ?v0) rfl (by kernel_rfl) (by kernel_rfl) (by kernel_rfl) (fun _ _ _ h => h) (Or.inl ⟨by rfl, ?hy0⟩) hS ?rest0
  case hy0 => (intro w hSw; go_simp; try with_reducible rfl)
  try simp only [Act.put, List.setIfInBounds_toArray, List.set_cons_zero, List.set_cons_succ]
  refine take_any (i := 1) (v := ?v1) rfl (by kernel_rfl) (by kernel_rfl) (by kernel_rfl) (fun _ _ _ h => h) (Or.inl ⟨by rfl, ?hy1⟩) hS ?rest1
  case hy1 => (intro w hSw; obtain ⟨_, hc, _⟩ := hSw; have x0 := hc.cell (i := 7) rfl; have x1 := hc.cell (i := 8) rfl; have x2 := hc.cell (i := 9) rfl; have x3 := hc.cell (i := 10) rfl; have x4 := hc.cell (i := 11) rfl; have x5 := hc.cell (i := 12) rfl; have x6 := hc.cell (i := 13) rfl; clear hc; go_simp; try with_reducible rfl)
  try simp only [Act.put, List.setIfInBounds_toArray, List.set_cons_zero, List.set_cons_succ]
  refine take_any (i := 2) (v := ?v2) rfl (by kernel_rfl) (by kernel_rfl) (by kernel_rfl) (fun _ _ _ h => h) (Or.inl ⟨by rfl, ?hy2⟩) hS ?rest2
  case hy2 => (intro w hSw; go_simp; try with_reducible rfl)
  try simp only [Act.put, List.setIfInBounds_toArray, List.set_cons_zero, List.set_cons_succ]
  refine take_any (i := 3) (v := ?v3) rfl (by kernel_rfl) (by kernel_rfl) (by kernel_rfl) (fun _ _ _ h => h) (Or.inl ⟨by rfl, ?hy3⟩) hS ?rest3
  case hy3 => (intro w hSw; obtain ⟨_, hc, _⟩ := hSw; have x0 := hc.cell (i := 21) rfl; have x1 := hc.cell (i := 22) rfl; have x2 := hc.cell (i := 23) rfl; have x3 := hc.cell (i := 24) rfl; have x4 := hc.cell (i := 25) rfl; have x5 := hc.cell (i := 26) rfl; have x6 := hc.cell (i := 27) rfl; clear hc; go_simp; try with_reducible rfl)
  try simp only [Act.put, List.setIfInBounds_toArray, List.set_cons_zero, List.set_cons_succ]
  refine take_any (i := 4) (v := ?v4) rfl (by kernel_rfl) (by kernel_rfl) (by kernel_rfl) (fun _ _ _ h => h) (Or.inl ⟨by rfl, ?hy4⟩) hS ?rest4
  case hy4 => (intro w hSw; go_simp; try with_reducible rfl)
  try simp only [Act.put, List.setIfInBounds_toArray, List.set_cons_zero, List.set_cons_succ]
  refine take_any (i := 5) (v := ?v5) rfl (by kernel_rfl) (by kernel_rfl) (by kernel_rfl) (fun _ _ _ h => h) (Or.inl ⟨by rfl, ?hy5⟩) hS ?rest5
  case hy5 => (intro w hSw; obtain ⟨_, hc, _⟩ := hSw; have x0 := hc.cell (i := 0) rfl; have x1 := hc.cell (i := 1) rfl; have x2 := hc.cell (i := 2) rfl; have x3 := hc.cell (i := 3) rfl; have x4 := hc.cell (i := 4) rfl; have x5 := hc.cell (i := 5) rfl; have x6 := hc.cell (i := 6) rfl; clear hc; go_simp; try with_reducible rfl)
  try simp only [Act.put, List.setIfInBounds_toArray, List.set_cons_zero, List.set_cons_succ]
  refine take_any (i := 6) (v := ?v6) rfl (by kernel_rfl) (by kernel_rfl) (by kernel_rfl) (fun _ _ _ h => h) (Or.inl ⟨by rfl, ?hy6⟩) hS ?rest6
  case hy6 => (intro w hSw; go_simp; try with_reducible rfl)
  try simp only [Act.put, List.setIfInBounds_toArray, List.set_cons_zero, List.set_cons_succ]
  refine take_any (i := 7) (v := ?v7) rfl (by kernel_rfl) (by kernel_rfl) (by kernel_rfl) (fun _ _ _ h => h) (Or.inl ⟨by rfl, ?hy7⟩) hS ?rest7
  case hy7 => (intro w hSw; obtain ⟨_, hc, _⟩ := hSw; have x0 := hc.cell (i := 14) rfl; have x1 := hc.cell (i := 15) rfl; have x2 := hc.cell (i := 16) rfl; have x3 := hc.cell (i := 17) rfl; have x4 := hc.cell (i := 18) rfl; have x5 := hc.cell (i := 19) rfl; have x6 := hc.cell (i := 20) rfl; clear hc; go_simp; try with_reducible rfl)
  try simp only [Act.put, List.setIfInBounds_toArray, List.set_cons_zero, List.set_cons_succ]
  refine take_any (i := 8) (v := ?v8) rfl (by kernel_rfl) (by kernel_rfl) (by kernel_rfl) (fun _ _ _ h => h) (Or.inl ⟨by rfl, ?hy8⟩) hS ?rest8
  case hy8 => (intro w hSw; go_simp; try with_reducible rfl)
  try simp only [Act.put, List.setIfInBounds_toArray, List.set_cons_zero, List.set_cons_succ]
  refine take_any (i := 9) (v := ?v9) rfl (by kernel_rfl) (by kernel_rfl) (by kernel_rfl) (fun _ _ _ h => h) (Or.inl ⟨by rfl, ?hy9⟩) hS ?rest9
  case hy9 => (intro w hSw; obtain ⟨_, hc, _⟩ := hSw; have x0 := hc.cell (i := 28) rfl; have x1 := hc.cell (i := 29) rfl; have x2 := hc.cell (i := 30) rfl; have x3 := hc.cell (i := 31) rfl; have x4 := hc.cell (i := 32) rfl; have x5 := hc.cell (i := 33) rfl; have x6 := hc.cell (i := 34) rfl; clear hc; go_simp; try with_reducible rfl)
  try simp only [Act.put, List.setIfInBounds_toArray, List.set_cons_zero, List.set_cons_succ]
  obtain ⟨hbS, hcS, hdS⟩ := hS
  refine wpAnyH_ready (rs := [10]) (by kernel_rfl) (by simp) ?_
  refine AllReadyH.cons rfl (fun K hK => ?_) AllReadyH.nil
  rw [if_pos (by kernel_rfl)]
  go_simp
  refine (C1.out _ hbS).mono ?_
  rintro E w1 ⟨X, rfl, hX, hTX, hb1⟩
  try dsimp only
  have HB1 := Lib.hid (below_join hbS hb1)
  have hS1 : Below w.heap.size w w1 ∧ Lies w1 w.heap.size 123 (.int .i64 a.a.k :: .int .i64 a.a.t :: .slice a.uA a.uN a.uC :: .slice a.pA a.pN a.pC :: .bool a.a.h :: .int .u64 (a.n : Int) :: .slice a.xA a.xN a.xC :: .int .i64 b.a.k :: .int .i64 b.a.t :: .slice b.uA b.uN b.uC :: .slice b.pA b.pN b.pC :: .bool b.a.h :: .int .u64 (b.n : Int) :: .slice b.xA b.xN b.xC :: .int .i64 e.a.k :: .int .i64 e.a.t :: .slice e.uA e.uN e.uC :: .slice e.pA e.pN e.pC :: .bool e.a.h :: .int .u64 (e.n : Int) :: .slice e.xA e.xN e.xC :: .int .i64 f.a.k :: .int .i64 f.a.t :: .slice f.uA f.uN f.uC :: .slice f.pA f.pN f.pC :: .bool f.a.h :: .int .u64 (f.n : Int) :: .slice f.xA f.xN f.xC :: .int .i64 g.a.k :: .int .i64 g.a.t :: .slice g.uA g.uN g.uC :: .slice g.pA g.pN g.pC :: .bool g.a.h :: .int .u64 (g.n : Int) :: .slice g.xA g.xN g.xC :: []) ∧ ∃ cs, cs.length = 7 ∧ Lies w1 (w.heap.size + 1) 68 cs := ⟨HB1.out, hcS.below hb1 hcS.lt, hdS.elim fun cs h => ⟨cs, h.1, h.2.below hb1 h.2.lt⟩⟩
  have HHX := Lib.hid hX
  have HTX := Lib.hid hTX
  have HWS := Lib.hid (show w.heap.size + 1 + 1 ≤ W0.drew.heap.size from Nat.le_of_eq HS.out.symm)
  have HW1S := Lib.hid (Nat.le_trans HWS.out hb1.size)
  refine hK.out _ _ hS1 (fun _ => ?_)
  clear hK K hbS hcS hdS hX hTX hb1
  obtain ⟨hbS, hcS, hdS⟩ := hS1
  try simp only [Act.put, List.setIfInBounds_toArray, List.set_cons_zero, List.set_cons_succ]
  refine wpAnyH_ready (rs := [11]) (by kernel_rfl) (by simp) ?_
  refine AllReadyH.cons rfl (fun K hK => ?_) AllReadyH.nil
  rw [if_pos (by kernel_rfl)]
  go_simp
  refine (C2.out _ _ X hbS HWS.out HTX.out).mono ?_
  rintro E w2 ⟨z, rfl, hz, htz, hb2⟩
  try dsimp only
  have HB2 := Lib.hid (below_join hbS hb2)
  have HZ := Lib.hid hz
  have HTZ := Lib.hid (show TNd (fun k => T k ∨ w.heap.size + 1 + 1 ≤ k) w2 z from htz.mono fun k hk _ => by
    rcases hk with hk | hk
    · exact hk.1
    · exact .inr (Nat.le_trans HW1S.out hk))
  have hS2 : Below w.heap.size w w2 ∧ Lies w2 w.heap.size 123 (.int .i64 a.a.k :: .int .i64 a.a.t :: .slice a.uA a.uN a.uC :: .slice a.pA a.pN a.pC :: .bool a.a.h :: .int .u64 (a.n : Int) :: .slice a.xA a.xN a.xC :: .int .i64 b.a.k :: .int .i64 b.a.t :: .slice b.uA b.uN b.uC :: .slice b.pA b.pN b.pC :: .bool b.a.h :: .int .u64 (b.n : Int) :: .slice b.xA b.xN b.xC :: .int .i64 e.a.k :: .int .i64 e.a.t :: .slice e.uA e.uN e.uC :: .slice e.pA e.pN e.pC :: .bool e.a.h :: .int .u64 (e.n : Int) :: .slice e.xA e.xN e.xC :: .int .i64 f.a.k :: .int .i64 f.a.t :: .slice f.uA f.uN f.uC :: .slice f.pA f.pN f.pC :: .bool f.a.h :: .int .u64 (f.n : Int) :: .slice f.xA f.xN f.xC :: .int .i64 g.a.k :: .int .i64 g.a.t :: .slice g.uA g.uN g.uC :: .slice g.pA g.pN g.pC :: .bool g.a.h :: .int .u64 (g.n : Int) :: .slice g.xA g.xN g.xC :: []) ∧ ∃ cs, cs.length = 7 ∧ Lies w2 (w.heap.size + 1) 68 cs := ⟨HB2.out, hcS.below hb2 hcS.lt, hdS.elim fun cs h => ⟨cs, h.1, h.2.below hb2 h.2.lt⟩⟩
  refine hK.out _ _ hS2 (fun _ => ?_)
  clear hK K hbS hcS hdS hz htz hb2
  obtain ⟨hbS, hcS, cs, hcl, hdS⟩ := hS2
  try simp only [Act.put, List.setIfInBounds_toArray, List.set_cons_zero, List.set_cons_succ]
  refine wpAnyH_ready (rs := [12]) (by kernel_rfl) (by simp) ?_
  refine AllReadyH.cons rfl (fun K hK => ?_) AllReadyH.nil
  rw [if_pos (by kernel_rfl)]
  refine wp_store_mid 68 _ _ rfl (w.heap.size + 1) 0 (.int .i64 z.a.k :: .int .i64 z.a.t :: .slice z.uA z.uN z.uC :: .slice z.pA z.pN z.pC :: .bool z.a.h :: .int .u64 (z.n : Int) :: .slice z.xA z.xN z.xC :: []).toArray rfl rfl (hdS.there hcl.symm) (by kernel_rfl) (by rw [← Array.all_toList]; rfl) ?_
  obtain ⟨W6, hW6⟩ : ∃ W6, W6 = setCells w2 (w.heap.size + 1) 0 (.int .i64 z.a.k :: .int .i64 z.a.t :: .slice z.uA z.uN z.uC :: .slice z.pA z.pN z.pC :: .bool z.a.h :: .int .u64 (z.n : Int) :: .slice z.xA z.xN z.xC :: []) := ⟨_, rfl⟩
  rw [setCells_kit]
  rw [← hW6]
  obtain ⟨hl, hb6, hk6, hq6, _⟩ := stored_many (P := Tryz.prog) (L := (.int .i64 z.a.k :: .int .i64 z.a.t :: .slice z.uA z.uN z.uC :: .slice z.pA z.pN z.pC :: .bool z.a.h :: .int .u64 (z.n : Int) :: .slice z.xA z.xN z.xC :: [])) (w := w) hdS hcl.symm Tryz.underlying68 rfl (by rw [hcl]; kernel_rfl) HB2.out (Nat.le_succ _) hW6
  clear hW6
  refine hK.out _ _ ⟨hb6, (hk6.same _ hcS.lt (by omega)).trans hcS, _, rfl, hq6⟩ (fun _ => ?_)
  clear hK K
  try simp only [Act.put, List.setIfInBounds_toArray]
  refine wpAnyH_done (by kernel_rfl) ?_ _
  clear hbS hcS hdS hcl
  go_wp2_with fail
  refine bodyPost_ret (v := .agg (.int .i64 z.a.k :: .int .i64 z.a.t :: .slice z.uA z.uN z.uC :: .slice z.pA z.pN z.pC :: .bool z.a.h :: .int .u64 (z.n : Int) :: .slice z.xA z.xN z.xC :: []).toArray) (results_cell rfl rfl hl) rfl ?_
  exact ⟨z, rfl, HZ.out.trans (by rw [HHX.out]), HTZ.out.keep hk6.size (fun k hk hlt => ⟨hk6.same k hlt (by
    rcases hk with hk | hk
    · have := HT.out k hk; omega
    · omega), hk.imp id (fun h => by omega)⟩), hb6⟩
end Go.Proofs.YtbddhkgbpjhhaaaGreatDoor
