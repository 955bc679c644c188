/-
  PACKAGE ident: what each change asks of the parts.
-/
import Derived.Test.YtbddhkgbpjhhaaaGreatDoorIdvM
namespace Go.Proofs.YtbddhkgbpjhhaaaGreatDoor
open Go.RowKit Go.Sort
set_option maxHeartbeats 6400000
set_option maxRecDepth 100000 in
theorem iholds1_any (T : Nat → Prop) (a b e f g : Nd) (w : World) (hp : PtOk T 1 w a b e f g) (hW : Want w) :
    Calls Tryz.prog 69 #[.agg (.int .i64 a.a.k :: .int .i64 a.a.t :: .slice a.uA a.uN a.uC :: .slice a.pA a.pN a.pC :: .bool a.a.h :: .int .u64 (a.n : Int) :: .slice a.xA a.xN a.xC :: .int .i64 b.a.k :: .int .i64 b.a.t :: .slice b.uA b.uN b.uC :: .slice b.pA b.pN b.pC :: .bool b.a.h :: .int .u64 (b.n : Int) :: .slice b.xA b.xN b.xC :: .int .i64 e.a.k :: .int .i64 e.a.t :: .slice e.uA e.uN e.uC :: .slice e.pA e.pN e.pC :: .bool e.a.h :: .int .u64 (e.n : Int) :: .slice e.xA e.xN e.xC :: .int .i64 f.a.k :: .int .i64 f.a.t :: .slice f.uA f.uN f.uC :: .slice f.pA f.pN f.pC :: .bool f.a.h :: .int .u64 (f.n : Int) :: .slice f.xA f.xN f.xC :: .int .i64 g.a.k :: .int .i64 g.a.t :: .slice g.uA g.uN g.uC :: .slice g.pA g.pN g.pC :: .bool g.a.h :: .int .u64 (g.n : Int) :: .slice g.xA g.xN g.xC :: []).toArray] w fun E w' => E = .returned (.bool (Id.holds 1 ⟨a.a, b.a, e.a, f.a, g.a⟩)) ∧ Below w.heap.size w w' := by
  have hF : Id.holds 1 ⟨a.a, b.a, e.a, f.a, g.a⟩ = true := rfl
  rw [hF]
  obtain ⟨W0, hW0⟩ : ∃ W0, W0 = w.alloc (Obj.cells (.int .i64 a.a.k :: .int .i64 a.a.t :: .slice a.uA a.uN a.uC :: .slice a.pA a.pN a.pC :: .bool a.a.h :: .int .u64 (a.n : Int) :: .slice a.xA a.xN a.xC :: .int .i64 b.a.k :: .int .i64 b.a.t :: .slice b.uA b.uN b.uC :: .slice b.pA b.pN b.pC :: .bool b.a.h :: .int .u64 (b.n : Int) :: .slice b.xA b.xN b.xC :: .int .i64 e.a.k :: .int .i64 e.a.t :: .slice e.uA e.uN e.uC :: .slice e.pA e.pN e.pC :: .bool e.a.h :: .int .u64 (e.n : Int) :: .slice e.xA e.xN e.xC :: .int .i64 f.a.k :: .int .i64 f.a.t :: .slice f.uA f.uN f.uC :: .slice f.pA f.pN f.pC :: .bool f.a.h :: .int .u64 (f.n : Int) :: .slice f.xA f.xN f.xC :: .int .i64 g.a.k :: .int .i64 g.a.t :: .slice g.uA g.uN g.uC :: .slice g.pA g.pN g.pC :: .bool g.a.h :: .int .u64 (g.n : Int) :: .slice g.xA g.xN g.xC :: []).toArray 123) := ⟨_, rfl⟩
  obtain ⟨l0, hb0⟩ := box_one (cs := (.int .i64 a.a.k :: .int .i64 a.a.t :: .slice a.uA a.uN a.uC :: .slice a.pA a.pN a.pC :: .bool a.a.h :: .int .u64 (a.n : Int) :: .slice a.xA a.xN a.xC :: .int .i64 b.a.k :: .int .i64 b.a.t :: .slice b.uA b.uN b.uC :: .slice b.pA b.pN b.pC :: .bool b.a.h :: .int .u64 (b.n : Int) :: .slice b.xA b.xN b.xC :: .int .i64 e.a.k :: .int .i64 e.a.t :: .slice e.uA e.uN e.uC :: .slice e.pA e.pN e.pC :: .bool e.a.h :: .int .u64 (e.n : Int) :: .slice e.xA e.xN e.xC :: .int .i64 f.a.k :: .int .i64 f.a.t :: .slice f.uA f.uN f.uC :: .slice f.pA f.pN f.pC :: .bool f.a.h :: .int .u64 (f.n : Int) :: .slice f.xA f.xN f.xC :: .int .i64 g.a.k :: .int .i64 g.a.t :: .slice g.uA g.uN g.uC :: .slice g.pA g.pN g.pC :: .bool g.a.h :: .int .u64 (g.n : Int) :: .slice g.xA g.xN g.xC :: [])) hW0
  have HW := Lib.hid hW0
  have HB := Lib.hid hb0
  clear hp hW hF hW0 l0 hb0
  go_enter Tryz.func69, Tryz.ntmps69
  go_upto_region 1 with (fail)
  rw [← HW.out]
  go_wp2_with fail
  go_ret
  exact ⟨rfl, HB.out⟩
set_option maxRecDepth 100000 in
theorem iholds2_any (T : Nat → Prop) (a b e f g : Nd) (w : World) (hp : PtOk T 2 w a b e f g) (hW : Want w) :
    Calls Tryz.prog 73 #[.agg (.int .i64 a.a.k :: .int .i64 a.a.t :: .slice a.uA a.uN a.uC :: .slice a.pA a.pN a.pC :: .bool a.a.h :: .int .u64 (a.n : Int) :: .slice a.xA a.xN a.xC :: .int .i64 b.a.k :: .int .i64 b.a.t :: .slice b.uA b.uN b.uC :: .slice b.pA b.pN b.pC :: .bool b.a.h :: .int .u64 (b.n : Int) :: .slice b.xA b.xN b.xC :: .int .i64 e.a.k :: .int .i64 e.a.t :: .slice e.uA e.uN e.uC :: .slice e.pA e.pN e.pC :: .bool e.a.h :: .int .u64 (e.n : Int) :: .slice e.xA e.xN e.xC :: .int .i64 f.a.k :: .int .i64 f.a.t :: .slice f.uA f.uN f.uC :: .slice f.pA f.pN f.pC :: .bool f.a.h :: .int .u64 (f.n : Int) :: .slice f.xA f.xN f.xC :: .int .i64 g.a.k :: .int .i64 g.a.t :: .slice g.uA g.uN g.uC :: .slice g.pA g.pN g.pC :: .bool g.a.h :: .int .u64 (g.n : Int) :: .slice g.xA g.xN g.xC :: []).toArray] w fun E w' => E = .returned (.bool (Id.holds 2 ⟨a.a, b.a, e.a, f.a, g.a⟩)) ∧ Below w.heap.size w w' := by
  obtain ⟨W0, hW0⟩ : ∃ W0, W0 = w.alloc (Obj.cells (.int .i64 a.a.k :: .int .i64 a.a.t :: .slice a.uA a.uN a.uC :: .slice a.pA a.pN a.pC :: .bool a.a.h :: .int .u64 (a.n : Int) :: .slice a.xA a.xN a.xC :: .int .i64 b.a.k :: .int .i64 b.a.t :: .slice b.uA b.uN b.uC :: .slice b.pA b.pN b.pC :: .bool b.a.h :: .int .u64 (b.n : Int) :: .slice b.xA b.xN b.xC :: .int .i64 e.a.k :: .int .i64 e.a.t :: .slice e.uA e.uN e.uC :: .slice e.pA e.pN e.pC :: .bool e.a.h :: .int .u64 (e.n : Int) :: .slice e.xA e.xN e.xC :: .int .i64 f.a.k :: .int .i64 f.a.t :: .slice f.uA f.uN f.uC :: .slice f.pA f.pN f.pC :: .bool f.a.h :: .int .u64 (f.n : Int) :: .slice f.xA f.xN f.xC :: .int .i64 g.a.k :: .int .i64 g.a.t :: .slice g.uA g.uN g.uC :: .slice g.pA g.pN g.pC :: .bool g.a.h :: .int .u64 (g.n : Int) :: .slice g.xA g.xN g.xC :: []).toArray 123) := ⟨_, rfl⟩
  obtain ⟨l0, hb0⟩ := box_one (cs := (.int .i64 a.a.k :: .int .i64 a.a.t :: .slice a.uA a.uN a.uC :: .slice a.pA a.pN a.pC :: .bool a.a.h :: .int .u64 (a.n : Int) :: .slice a.xA a.xN a.xC :: .int .i64 b.a.k :: .int .i64 b.a.t :: .slice b.uA b.uN b.uC :: .slice b.pA b.pN b.pC :: .bool b.a.h :: .int .u64 (b.n : Int) :: .slice b.xA b.xN b.xC :: .int .i64 e.a.k :: .int .i64 e.a.t :: .slice e.uA e.uN e.uC :: .slice e.pA e.pN e.pC :: .bool e.a.h :: .int .u64 (e.n : Int) :: .slice e.xA e.xN e.xC :: .int .i64 f.a.k :: .int .i64 f.a.t :: .slice f.uA f.uN f.uC :: .slice f.pA f.pN f.pC :: .bool f.a.h :: .int .u64 (f.n : Int) :: .slice f.xA f.xN f.xC :: .int .i64 g.a.k :: .int .i64 g.a.t :: .slice g.uA g.uN g.uC :: .slice g.pA g.pN g.pC :: .bool g.a.h :: .int .u64 (g.n : Int) :: .slice g.xA g.xN g.xC :: [])) hW0
  have c1 := inamed_any b e W0 (((hp.bg (by decide)).1.below hb0).ps) hp.he.lt hp.sb
  have hF : Id.holds 2 ⟨a.a, b.a, e.a, f.a, g.a⟩ = (Id.named b.a e.a == 0 && Id.firm ⟨a.a, b.a, e.a, f.a, g.a⟩) := rfl
  have hN : Id.named b.a e.a = Pr.tabless b.a.cs &&& e.n := by unfold Id.named; rw [hp.he.n]
  rw [hF, hN]
  obtain ⟨m, hm⟩ : ∃ m, m = Pr.tabless b.a.cs &&& e.n := ⟨_, rfl⟩
  rw [← hm] at c1 ⊢
  have C2 := Lib.hid (fun W (hb : Below W0.heap.size W0 W) => have hbw := below_join hb0 hb; irejects_any T 2 (by decide) a b e f g W (hp.below hbw) (hW.below hbw (Nat.le_refl _)))
  obtain ⟨R, hR⟩ : ∃ R, R = Id.firm ⟨a.a, b.a, e.a, f.a, g.a⟩ := ⟨_, rfl⟩
  rw [← hR] at C2 ⊢
  have HX := Lib.hid (fun W (h : Below W0.heap.size W0 W) => l0.below h l0.lt)
  have x7 := l0.cell (i := 7) rfl
  have x8 := l0.cell (i := 8) rfl
  have x9 := l0.cell (i := 9) rfl
  have x10 := l0.cell (i := 10) rfl
  have x11 := l0.cell (i := 11) rfl
  have x12 := l0.cell (i := 12) rfl
  have x13 := l0.cell (i := 13) rfl
  have x14 := l0.cell (i := 14) rfl
  have x15 := l0.cell (i := 15) rfl
  have x16 := l0.cell (i := 16) rfl
  have x17 := l0.cell (i := 17) rfl
  have x18 := l0.cell (i := 18) rfl
  have x19 := l0.cell (i := 19) rfl
  have x20 := l0.cell (i := 20) rfl
  have HW := Lib.hid hW0
  have HB := Lib.hid hb0
  clear hW0 l0 hb0 hp hW hF hN hm hR
  go_enter Tryz.func73, Tryz.ntmps73
  go_upto_region 1 with (fail)
  rw [← HW.out]
  go_wp2_with fail
  refine c1.mono ?_
  rintro E w1 ⟨rfl, hb1⟩
  have HB1 := Lib.hid (below_join HB.out hb1)
  have c2 := C2.out w1 hb1
  have l1 := HX.out w1 hb1
  clear c1 x7 x8 x9 x10 x11 x12 x13 x14 x15 x16 x17 x18 x19 x20 hb1 C2 HX
  by_cases h0 : m = 0
  · subst h0
    have hla : w1.rangeAt w.heap.size 0 (.int .i64 a.a.k :: .int .i64 a.a.t :: .slice a.uA a.uN a.uC :: .slice a.pA a.pN a.pC :: .bool a.a.h :: .int .u64 (a.n : Int) :: .slice a.xA a.xN a.xC :: .int .i64 b.a.k :: .int .i64 b.a.t :: .slice b.uA b.uN b.uC :: .slice b.pA b.pN b.pC :: .bool b.a.h :: .int .u64 (b.n : Int) :: .slice b.xA b.xN b.xC :: .int .i64 e.a.k :: .int .i64 e.a.t :: .slice e.uA e.uN e.uC :: .slice e.pA e.pN e.pC :: .bool e.a.h :: .int .u64 (e.n : Int) :: .slice e.xA e.xN e.xC :: .int .i64 f.a.k :: .int .i64 f.a.t :: .slice f.uA f.uN f.uC :: .slice f.pA f.pN f.pC :: .bool f.a.h :: .int .u64 (f.n : Int) :: .slice f.xA f.xN f.xC :: .int .i64 g.a.k :: .int .i64 g.a.t :: .slice g.uA g.uN g.uC :: .slice g.pA g.pN g.pC :: .bool g.a.h :: .int .u64 (g.n : Int) :: .slice g.xA g.xN g.xC :: []) := fun j v hj => by rw [Nat.zero_add]; exact l1.cell hj
    have HLA := Lib.hid hla
    clear l1 hla
    go_wp2_with (refine wpList_load_g rfl 123 _ rfl w.heap.size 0 rfl (.int .i64 a.a.k :: .int .i64 a.a.t :: .slice a.uA a.uN a.uC :: .slice a.pA a.pN a.pC :: .bool a.a.h :: .int .u64 (a.n : Int) :: .slice a.xA a.xN a.xC :: .int .i64 b.a.k :: .int .i64 b.a.t :: .slice b.uA b.uN b.uC :: .slice b.pA b.pN b.pC :: .bool b.a.h :: .int .u64 (b.n : Int) :: .slice b.xA b.xN b.xC :: .int .i64 e.a.k :: .int .i64 e.a.t :: .slice e.uA e.uN e.uC :: .slice e.pA e.pN e.pC :: .bool e.a.h :: .int .u64 (e.n : Int) :: .slice e.xA e.xN e.xC :: .int .i64 f.a.k :: .int .i64 f.a.t :: .slice f.uA f.uN f.uC :: .slice f.pA f.pN f.pC :: .bool f.a.h :: .int .u64 (f.n : Int) :: .slice f.xA f.xN f.xC :: .int .i64 g.a.k :: .int .i64 g.a.t :: .slice g.uA g.uN g.uC :: .slice g.pA g.pN g.pC :: .bool g.a.h :: .int .u64 (g.n : Int) :: .slice g.xA g.xN g.xC :: []) _ HLA.out Tryz.underlying123 rfl (by kernel_rfl) ?_)
    refine c2.mono ?_
    rintro E w2 ⟨rfl, hb2⟩
    have HB2 := Lib.hid (below_join HB1.out hb2)
    clear c2 hb2
    go_wp2_with fail
    go_ret
    exact ⟨by simp, HB2.out⟩
  · have hf : ((m : Int) == 0) = false := by simp; omega
    have hg : (m == 0) = false := by simp; omega
    clear c2 l1
    go_wp2_with fail
    go_ret
    exact ⟨by rw [hg]; rfl, HB1.out⟩
set_option maxRecDepth 100000 in
theorem iholds3_any (T : Nat → Prop) (a b e f g : Nd) (w : World) (hp : PtOk T 3 w a b e f g) (hW : Want w) :
    Calls Tryz.prog 78 #[.agg (.int .i64 a.a.k :: .int .i64 a.a.t :: .slice a.uA a.uN a.uC :: .slice a.pA a.pN a.pC :: .bool a.a.h :: .int .u64 (a.n : Int) :: .slice a.xA a.xN a.xC :: .int .i64 b.a.k :: .int .i64 b.a.t :: .slice b.uA b.uN b.uC :: .slice b.pA b.pN b.pC :: .bool b.a.h :: .int .u64 (b.n : Int) :: .slice b.xA b.xN b.xC :: .int .i64 e.a.k :: .int .i64 e.a.t :: .slice e.uA e.uN e.uC :: .slice e.pA e.pN e.pC :: .bool e.a.h :: .int .u64 (e.n : Int) :: .slice e.xA e.xN e.xC :: .int .i64 f.a.k :: .int .i64 f.a.t :: .slice f.uA f.uN f.uC :: .slice f.pA f.pN f.pC :: .bool f.a.h :: .int .u64 (f.n : Int) :: .slice f.xA f.xN f.xC :: .int .i64 g.a.k :: .int .i64 g.a.t :: .slice g.uA g.uN g.uC :: .slice g.pA g.pN g.pC :: .bool g.a.h :: .int .u64 (g.n : Int) :: .slice g.xA g.xN g.xC :: []).toArray] w fun E w' => E = .returned (.bool (Id.holds 3 ⟨a.a, b.a, e.a, f.a, g.a⟩)) ∧ Below w.heap.size w w' := by
  obtain ⟨W0, hW0⟩ : ∃ W0, W0 = w.alloc (Obj.cells (.int .i64 a.a.k :: .int .i64 a.a.t :: .slice a.uA a.uN a.uC :: .slice a.pA a.pN a.pC :: .bool a.a.h :: .int .u64 (a.n : Int) :: .slice a.xA a.xN a.xC :: .int .i64 b.a.k :: .int .i64 b.a.t :: .slice b.uA b.uN b.uC :: .slice b.pA b.pN b.pC :: .bool b.a.h :: .int .u64 (b.n : Int) :: .slice b.xA b.xN b.xC :: .int .i64 e.a.k :: .int .i64 e.a.t :: .slice e.uA e.uN e.uC :: .slice e.pA e.pN e.pC :: .bool e.a.h :: .int .u64 (e.n : Int) :: .slice e.xA e.xN e.xC :: .int .i64 f.a.k :: .int .i64 f.a.t :: .slice f.uA f.uN f.uC :: .slice f.pA f.pN f.pC :: .bool f.a.h :: .int .u64 (f.n : Int) :: .slice f.xA f.xN f.xC :: .int .i64 g.a.k :: .int .i64 g.a.t :: .slice g.uA g.uN g.uC :: .slice g.pA g.pN g.pC :: .bool g.a.h :: .int .u64 (g.n : Int) :: .slice g.xA g.xN g.xC :: []).toArray 123) := ⟨_, rfl⟩
  obtain ⟨l0, hb0⟩ := box_one (cs := (.int .i64 a.a.k :: .int .i64 a.a.t :: .slice a.uA a.uN a.uC :: .slice a.pA a.pN a.pC :: .bool a.a.h :: .int .u64 (a.n : Int) :: .slice a.xA a.xN a.xC :: .int .i64 b.a.k :: .int .i64 b.a.t :: .slice b.uA b.uN b.uC :: .slice b.pA b.pN b.pC :: .bool b.a.h :: .int .u64 (b.n : Int) :: .slice b.xA b.xN b.xC :: .int .i64 e.a.k :: .int .i64 e.a.t :: .slice e.uA e.uN e.uC :: .slice e.pA e.pN e.pC :: .bool e.a.h :: .int .u64 (e.n : Int) :: .slice e.xA e.xN e.xC :: .int .i64 f.a.k :: .int .i64 f.a.t :: .slice f.uA f.uN f.uC :: .slice f.pA f.pN f.pC :: .bool f.a.h :: .int .u64 (f.n : Int) :: .slice f.xA f.xN f.xC :: .int .i64 g.a.k :: .int .i64 g.a.t :: .slice g.uA g.uN g.uC :: .slice g.pA g.pN g.pC :: .bool g.a.h :: .int .u64 (g.n : Int) :: .slice g.xA g.xN g.xC :: [])) hW0
  have c1 := inamed_any a g W0 ((hp.ha.below hb0).ps) (hp.bg (by decide)).2.lt hp.sa
  have hF : Id.holds 3 ⟨a.a, b.a, e.a, f.a, g.a⟩ = (Id.named a.a g.a == 0 && Id.firm ⟨a.a, b.a, e.a, f.a, g.a⟩) := rfl
  have hN : Id.named a.a g.a = Pr.tabless a.a.cs &&& g.n := by unfold Id.named; rw [(hp.bg (by decide)).2.n]
  rw [hF, hN]
  obtain ⟨m, hm⟩ : ∃ m, m = Pr.tabless a.a.cs &&& g.n := ⟨_, rfl⟩
  rw [← hm] at c1 ⊢
  have C2 := Lib.hid (fun W (hb : Below W0.heap.size W0 W) => have hbw := below_join hb0 hb; irejects_any T 3 (by decide) a b e f g W (hp.below hbw) (hW.below hbw (Nat.le_refl _)))
  obtain ⟨R, hR⟩ : ∃ R, R = Id.firm ⟨a.a, b.a, e.a, f.a, g.a⟩ := ⟨_, rfl⟩
  rw [← hR] at C2 ⊢
  have HX := Lib.hid (fun W (h : Below W0.heap.size W0 W) => l0.below h l0.lt)
  have x0 := l0.cell (i := 0) rfl
  have x1 := l0.cell (i := 1) rfl
  have x2 := l0.cell (i := 2) rfl
  have x3 := l0.cell (i := 3) rfl
  have x4 := l0.cell (i := 4) rfl
  have x5 := l0.cell (i := 5) rfl
  have x6 := l0.cell (i := 6) rfl
  have x28 := l0.cell (i := 28) rfl
  have x29 := l0.cell (i := 29) rfl
  have x30 := l0.cell (i := 30) rfl
  have x31 := l0.cell (i := 31) rfl
  have x32 := l0.cell (i := 32) rfl
  have x33 := l0.cell (i := 33) rfl
  have x34 := l0.cell (i := 34) rfl
  have HW := Lib.hid hW0
  have HB := Lib.hid hb0
  clear hW0 l0 hb0 hp hW hF hN hm hR
  go_enter Tryz.func78, Tryz.ntmps78
  go_upto_region 1 with (fail)
  rw [← HW.out]
  go_wp2_with fail
  refine c1.mono ?_
  rintro E w1 ⟨rfl, hb1⟩
  have HB1 := Lib.hid (below_join HB.out hb1)
  have c2 := C2.out w1 hb1
  have l1 := HX.out w1 hb1
  clear c1 x0 x1 x2 x3 x4 x5 x6 x28 x29 x30 x31 x32 x33 x34 hb1 C2 HX
  by_cases h0 : m = 0
  · subst h0
    have hla : w1.rangeAt w.heap.size 0 (.int .i64 a.a.k :: .int .i64 a.a.t :: .slice a.uA a.uN a.uC :: .slice a.pA a.pN a.pC :: .bool a.a.h :: .int .u64 (a.n : Int) :: .slice a.xA a.xN a.xC :: .int .i64 b.a.k :: .int .i64 b.a.t :: .slice b.uA b.uN b.uC :: .slice b.pA b.pN b.pC :: .bool b.a.h :: .int .u64 (b.n : Int) :: .slice b.xA b.xN b.xC :: .int .i64 e.a.k :: .int .i64 e.a.t :: .slice e.uA e.uN e.uC :: .slice e.pA e.pN e.pC :: .bool e.a.h :: .int .u64 (e.n : Int) :: .slice e.xA e.xN e.xC :: .int .i64 f.a.k :: .int .i64 f.a.t :: .slice f.uA f.uN f.uC :: .slice f.pA f.pN f.pC :: .bool f.a.h :: .int .u64 (f.n : Int) :: .slice f.xA f.xN f.xC :: .int .i64 g.a.k :: .int .i64 g.a.t :: .slice g.uA g.uN g.uC :: .slice g.pA g.pN g.pC :: .bool g.a.h :: .int .u64 (g.n : Int) :: .slice g.xA g.xN g.xC :: []) := fun j v hj => by rw [Nat.zero_add]; exact l1.cell hj
    have HLA := Lib.hid hla
    clear l1 hla
    go_wp2_with (refine wpList_load_g rfl 123 _ rfl w.heap.size 0 rfl (.int .i64 a.a.k :: .int .i64 a.a.t :: .slice a.uA a.uN a.uC :: .slice a.pA a.pN a.pC :: .bool a.a.h :: .int .u64 (a.n : Int) :: .slice a.xA a.xN a.xC :: .int .i64 b.a.k :: .int .i64 b.a.t :: .slice b.uA b.uN b.uC :: .slice b.pA b.pN b.pC :: .bool b.a.h :: .int .u64 (b.n : Int) :: .slice b.xA b.xN b.xC :: .int .i64 e.a.k :: .int .i64 e.a.t :: .slice e.uA e.uN e.uC :: .slice e.pA e.pN e.pC :: .bool e.a.h :: .int .u64 (e.n : Int) :: .slice e.xA e.xN e.xC :: .int .i64 f.a.k :: .int .i64 f.a.t :: .slice f.uA f.uN f.uC :: .slice f.pA f.pN f.pC :: .bool f.a.h :: .int .u64 (f.n : Int) :: .slice f.xA f.xN f.xC :: .int .i64 g.a.k :: .int .i64 g.a.t :: .slice g.uA g.uN g.uC :: .slice g.pA g.pN g.pC :: .bool g.a.h :: .int .u64 (g.n : Int) :: .slice g.xA g.xN g.xC :: []) _ HLA.out Tryz.underlying123 rfl (by kernel_rfl) ?_)
    refine c2.mono ?_
    rintro E w2 ⟨rfl, hb2⟩
    have HB2 := Lib.hid (below_join HB1.out hb2)
    clear c2 hb2
    go_wp2_with fail
    go_ret
    exact ⟨by simp, HB2.out⟩
  · have hf : ((m : Int) == 0) = false := by simp; omega
    have hg : (m == 0) = false := by simp; omega
    clear c2 l1
    go_wp2_with fail
    go_ret
    exact ⟨by rw [hg]; rfl, HB1.out⟩
set_option maxRecDepth 100000 in
theorem iholds4_any (T : Nat → Prop) (a b e f g : Nd) (w : World) (hp : PtOk T 4 w a b e f g) (hW : Want w) :
    Calls Tryz.prog 80 #[.agg (.int .i64 a.a.k :: .int .i64 a.a.t :: .slice a.uA a.uN a.uC :: .slice a.pA a.pN a.pC :: .bool a.a.h :: .int .u64 (a.n : Int) :: .slice a.xA a.xN a.xC :: .int .i64 b.a.k :: .int .i64 b.a.t :: .slice b.uA b.uN b.uC :: .slice b.pA b.pN b.pC :: .bool b.a.h :: .int .u64 (b.n : Int) :: .slice b.xA b.xN b.xC :: .int .i64 e.a.k :: .int .i64 e.a.t :: .slice e.uA e.uN e.uC :: .slice e.pA e.pN e.pC :: .bool e.a.h :: .int .u64 (e.n : Int) :: .slice e.xA e.xN e.xC :: .int .i64 f.a.k :: .int .i64 f.a.t :: .slice f.uA f.uN f.uC :: .slice f.pA f.pN f.pC :: .bool f.a.h :: .int .u64 (f.n : Int) :: .slice f.xA f.xN f.xC :: .int .i64 g.a.k :: .int .i64 g.a.t :: .slice g.uA g.uN g.uC :: .slice g.pA g.pN g.pC :: .bool g.a.h :: .int .u64 (g.n : Int) :: .slice g.xA g.xN g.xC :: []).toArray] w fun E w' => E = .returned (.bool (Id.holds 4 ⟨a.a, b.a, e.a, f.a, g.a⟩)) ∧ Below w.heap.size w w' := by
  obtain ⟨W0, hW0⟩ : ∃ W0, W0 = w.alloc (Obj.cells (.int .i64 a.a.k :: .int .i64 a.a.t :: .slice a.uA a.uN a.uC :: .slice a.pA a.pN a.pC :: .bool a.a.h :: .int .u64 (a.n : Int) :: .slice a.xA a.xN a.xC :: .int .i64 b.a.k :: .int .i64 b.a.t :: .slice b.uA b.uN b.uC :: .slice b.pA b.pN b.pC :: .bool b.a.h :: .int .u64 (b.n : Int) :: .slice b.xA b.xN b.xC :: .int .i64 e.a.k :: .int .i64 e.a.t :: .slice e.uA e.uN e.uC :: .slice e.pA e.pN e.pC :: .bool e.a.h :: .int .u64 (e.n : Int) :: .slice e.xA e.xN e.xC :: .int .i64 f.a.k :: .int .i64 f.a.t :: .slice f.uA f.uN f.uC :: .slice f.pA f.pN f.pC :: .bool f.a.h :: .int .u64 (f.n : Int) :: .slice f.xA f.xN f.xC :: .int .i64 g.a.k :: .int .i64 g.a.t :: .slice g.uA g.uN g.uC :: .slice g.pA g.pN g.pC :: .bool g.a.h :: .int .u64 (g.n : Int) :: .slice g.xA g.xN g.xC :: []).toArray 123) := ⟨_, rfl⟩
  obtain ⟨l0, hb0⟩ := box_one (cs := (.int .i64 a.a.k :: .int .i64 a.a.t :: .slice a.uA a.uN a.uC :: .slice a.pA a.pN a.pC :: .bool a.a.h :: .int .u64 (a.n : Int) :: .slice a.xA a.xN a.xC :: .int .i64 b.a.k :: .int .i64 b.a.t :: .slice b.uA b.uN b.uC :: .slice b.pA b.pN b.pC :: .bool b.a.h :: .int .u64 (b.n : Int) :: .slice b.xA b.xN b.xC :: .int .i64 e.a.k :: .int .i64 e.a.t :: .slice e.uA e.uN e.uC :: .slice e.pA e.pN e.pC :: .bool e.a.h :: .int .u64 (e.n : Int) :: .slice e.xA e.xN e.xC :: .int .i64 f.a.k :: .int .i64 f.a.t :: .slice f.uA f.uN f.uC :: .slice f.pA f.pN f.pC :: .bool f.a.h :: .int .u64 (f.n : Int) :: .slice f.xA f.xN f.xC :: .int .i64 g.a.k :: .int .i64 g.a.t :: .slice g.uA g.uN g.uC :: .slice g.pA g.pN g.pC :: .bool g.a.h :: .int .u64 (g.n : Int) :: .slice g.xA g.xN g.xC :: [])) hW0
  have c1 := inamed_any b f W0 (((hp.bg (by decide)).1.below hb0).ps) hp.hf.lt hp.sb
  have hF : Id.holds 4 ⟨a.a, b.a, e.a, f.a, g.a⟩ = (Id.named b.a f.a == 0) := rfl
  have hN : Id.named b.a f.a = Pr.tabless b.a.cs &&& f.n := by unfold Id.named; rw [hp.hf.n]
  rw [hF, hN]
  obtain ⟨m, hm⟩ : ∃ m, m = Pr.tabless b.a.cs &&& f.n := ⟨_, rfl⟩
  rw [← hm] at c1 ⊢
  have x7 := l0.cell (i := 7) rfl
  have x8 := l0.cell (i := 8) rfl
  have x9 := l0.cell (i := 9) rfl
  have x10 := l0.cell (i := 10) rfl
  have x11 := l0.cell (i := 11) rfl
  have x12 := l0.cell (i := 12) rfl
  have x13 := l0.cell (i := 13) rfl
  have x21 := l0.cell (i := 21) rfl
  have x22 := l0.cell (i := 22) rfl
  have x23 := l0.cell (i := 23) rfl
  have x24 := l0.cell (i := 24) rfl
  have x25 := l0.cell (i := 25) rfl
  have x26 := l0.cell (i := 26) rfl
  have x27 := l0.cell (i := 27) rfl
  have HW := Lib.hid hW0
  have HB := Lib.hid hb0
  clear hW0 l0 hb0 hp hW hF hN hm
  go_enter Tryz.func80, Tryz.ntmps80
  go_upto_region 1 with (fail)
  rw [← HW.out]
  go_wp2_with fail
  refine c1.mono ?_
  rintro E w1 ⟨rfl, hb1⟩
  have HB1 := Lib.hid (below_join HB.out hb1)
  clear c1 x7 x8 x9 x10 x11 x12 x13 x21 x22 x23 x24 x25 x26 x27 hb1
  by_cases h0 : m = 0
  · subst h0
    go_wp2_with fail
    go_ret
    exact ⟨rfl, HB1.out⟩
  · have hf : ((m : Int) == 0) = false := by simp; omega
    have hg : (m == 0) = false := by simp; omega
    go_wp2_with fail
    go_ret
    exact ⟨by rw [hg]; rfl, HB1.out⟩
set_option maxRecDepth 100000 in
theorem iholds5_any (T : Nat → Prop) (a b e f g : Nd) (w : World) (hp : PtOk T 5 w a b e f g) (hW : Want w) :
    Calls Tryz.prog 82 #[.agg (.int .i64 a.a.k :: .int .i64 a.a.t :: .slice a.uA a.uN a.uC :: .slice a.pA a.pN a.pC :: .bool a.a.h :: .int .u64 (a.n : Int) :: .slice a.xA a.xN a.xC :: .int .i64 b.a.k :: .int .i64 b.a.t :: .slice b.uA b.uN b.uC :: .slice b.pA b.pN b.pC :: .bool b.a.h :: .int .u64 (b.n : Int) :: .slice b.xA b.xN b.xC :: .int .i64 e.a.k :: .int .i64 e.a.t :: .slice e.uA e.uN e.uC :: .slice e.pA e.pN e.pC :: .bool e.a.h :: .int .u64 (e.n : Int) :: .slice e.xA e.xN e.xC :: .int .i64 f.a.k :: .int .i64 f.a.t :: .slice f.uA f.uN f.uC :: .slice f.pA f.pN f.pC :: .bool f.a.h :: .int .u64 (f.n : Int) :: .slice f.xA f.xN f.xC :: .int .i64 g.a.k :: .int .i64 g.a.t :: .slice g.uA g.uN g.uC :: .slice g.pA g.pN g.pC :: .bool g.a.h :: .int .u64 (g.n : Int) :: .slice g.xA g.xN g.xC :: []).toArray] w fun E w' => E = .returned (.bool (Id.holds 5 ⟨a.a, b.a, e.a, f.a, g.a⟩)) ∧ Below w.heap.size w w' := by
  obtain ⟨W0, hW0⟩ : ∃ W0, W0 = w.alloc (Obj.cells (.int .i64 a.a.k :: .int .i64 a.a.t :: .slice a.uA a.uN a.uC :: .slice a.pA a.pN a.pC :: .bool a.a.h :: .int .u64 (a.n : Int) :: .slice a.xA a.xN a.xC :: .int .i64 b.a.k :: .int .i64 b.a.t :: .slice b.uA b.uN b.uC :: .slice b.pA b.pN b.pC :: .bool b.a.h :: .int .u64 (b.n : Int) :: .slice b.xA b.xN b.xC :: .int .i64 e.a.k :: .int .i64 e.a.t :: .slice e.uA e.uN e.uC :: .slice e.pA e.pN e.pC :: .bool e.a.h :: .int .u64 (e.n : Int) :: .slice e.xA e.xN e.xC :: .int .i64 f.a.k :: .int .i64 f.a.t :: .slice f.uA f.uN f.uC :: .slice f.pA f.pN f.pC :: .bool f.a.h :: .int .u64 (f.n : Int) :: .slice f.xA f.xN f.xC :: .int .i64 g.a.k :: .int .i64 g.a.t :: .slice g.uA g.uN g.uC :: .slice g.pA g.pN g.pC :: .bool g.a.h :: .int .u64 (g.n : Int) :: .slice g.xA g.xN g.xC :: []).toArray 123) := ⟨_, rfl⟩
  obtain ⟨l0, hb0⟩ := box_one (cs := (.int .i64 a.a.k :: .int .i64 a.a.t :: .slice a.uA a.uN a.uC :: .slice a.pA a.pN a.pC :: .bool a.a.h :: .int .u64 (a.n : Int) :: .slice a.xA a.xN a.xC :: .int .i64 b.a.k :: .int .i64 b.a.t :: .slice b.uA b.uN b.uC :: .slice b.pA b.pN b.pC :: .bool b.a.h :: .int .u64 (b.n : Int) :: .slice b.xA b.xN b.xC :: .int .i64 e.a.k :: .int .i64 e.a.t :: .slice e.uA e.uN e.uC :: .slice e.pA e.pN e.pC :: .bool e.a.h :: .int .u64 (e.n : Int) :: .slice e.xA e.xN e.xC :: .int .i64 f.a.k :: .int .i64 f.a.t :: .slice f.uA f.uN f.uC :: .slice f.pA f.pN f.pC :: .bool f.a.h :: .int .u64 (f.n : Int) :: .slice f.xA f.xN f.xC :: .int .i64 g.a.k :: .int .i64 g.a.t :: .slice g.uA g.uN g.uC :: .slice g.pA g.pN g.pC :: .bool g.a.h :: .int .u64 (g.n : Int) :: .slice g.xA g.xN g.xC :: [])) hW0
  have c1 := inamed_any a f W0 ((hp.ha.below hb0).ps) hp.hf.lt hp.sa
  have hF : Id.holds 5 ⟨a.a, b.a, e.a, f.a, g.a⟩ = (Id.named a.a f.a == 0) := rfl
  have hN : Id.named a.a f.a = Pr.tabless a.a.cs &&& f.n := by unfold Id.named; rw [hp.hf.n]
  rw [hF, hN]
  obtain ⟨m, hm⟩ : ∃ m, m = Pr.tabless a.a.cs &&& f.n := ⟨_, rfl⟩
  rw [← hm] at c1 ⊢
  have x0 := l0.cell (i := 0) rfl
  have x1 := l0.cell (i := 1) rfl
  have x2 := l0.cell (i := 2) rfl
  have x3 := l0.cell (i := 3) rfl
  have x4 := l0.cell (i := 4) rfl
  have x5 := l0.cell (i := 5) rfl
  have x6 := l0.cell (i := 6) rfl
  have x21 := l0.cell (i := 21) rfl
  have x22 := l0.cell (i := 22) rfl
  have x23 := l0.cell (i := 23) rfl
  have x24 := l0.cell (i := 24) rfl
  have x25 := l0.cell (i := 25) rfl
  have x26 := l0.cell (i := 26) rfl
  have x27 := l0.cell (i := 27) rfl
  have HW := Lib.hid hW0
  have HB := Lib.hid hb0
  clear hW0 l0 hb0 hp hW hF hN hm
  go_enter Tryz.func82, Tryz.ntmps82
  go_upto_region 1 with (fail)
  rw [← HW.out]
  go_wp2_with fail
  refine c1.mono ?_
  rintro E w1 ⟨rfl, hb1⟩
  have HB1 := Lib.hid (below_join HB.out hb1)
  clear c1 x0 x1 x2 x3 x4 x5 x6 x21 x22 x23 x24 x25 x26 x27 hb1
  by_cases h0 : m = 0
  · subst h0
    go_wp2_with fail
    go_ret
    exact ⟨rfl, HB1.out⟩
  · have hf : ((m : Int) == 0) = false := by simp; omega
    have hg : (m == 0) = false := by simp; omega
    go_wp2_with fail
    go_ret
    exact ⟨by rw [hg]; rfl, HB1.out⟩
end Go.Proofs.YtbddhkgbpjhhaaaGreatDoor
