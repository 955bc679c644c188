/-
  THE CONTRACTS OF THE DOCUMENT's ANSWERS OF LAYER 7: And and Or of many; what one predicate may be; Rejects.
-/
import Derived.Test.YtpdgbfeciacbdaaDoorRejaM
import Derived.Test.YtpdgbfeciacbdaaDoorGPred
namespace Go.Proofs.YtpdgbfeciacbdaaDoor
open Go.RowKit Go.Sort
set_option maxHeartbeats 3200000

namespace Rj
theorem andM_get (N : Nat) (ps : List Pd) {t : Int} (ht : t = 0 ∨ t = 1 ∨ t = 2) : (andM (ps.map (may N))).get t = ((ps.all fun p => (may N p).has) && (if t = 2 then ps.all fun p => (may N p).get 2 || (may N p).get 2 else if t = 1 then (ps.any fun p => (may N p).get 1) && (ps.all fun p => (may N p).get 1 || (may N p).get 2) else ps.any fun p => (may N p).get 0)) := by
  unfold andM
  simp only [List.all_map, List.any_map, M3.get_0, M3.get_1, M3.get_2, Bool.or_self]
  have e : (ps.all (M3.has ∘ may N)) = ps.all fun p => (may N p).has := rfl
  rw [e]
  cases ps.all fun p => (may N p).has
  · rcases ht with rfl | rfl | rfl <;> simp [M3.get]
  · rcases ht with rfl | rfl | rfl
    · rw [M3.get_0]; simp [Function.comp_def]
    · rw [M3.get_1]; simp [Function.comp_def]
    · rw [M3.get_2]; simp [Function.comp_def]
theorem orM_get (N : Nat) (ps : List Pd) {t : Int} (ht : t = 0 ∨ t = 1 ∨ t = 2) : (orM (ps.map (may N))).get t = ((ps.all fun p => (may N p).has) && (if t = 0 then ps.all fun p => (may N p).get 0 || (may N p).get 0 else if t = 1 then (ps.any fun p => (may N p).get 1) && (ps.all fun p => (may N p).get 1 || (may N p).get 0) else ps.any fun p => (may N p).get 2)) := by
  unfold orM
  simp only [List.all_map, List.any_map, M3.get_0, M3.get_1, M3.get_2, Bool.or_self]
  have e : (ps.all (M3.has ∘ may N)) = ps.all fun p => (may N p).has := rfl
  rw [e]
  cases ps.all fun p => (may N p).has
  · rcases ht with rfl | rfl | rfl <;> simp [M3.get]
  · rcases ht with rfl | rfl | rfl
    · rw [M3.get_0]; simp [Function.comp_def]
    · rw [M3.get_1]; simp [Function.comp_def]
    · rw [M3.get_2]; simp [Function.comp_def]
end Rj
theorem r7many_02 (d N : Nat) (ih : ∀ e, e < d → ∀ (f : Pf) (u : Value) (ps : List Pd) (t : Int) (w : World), PsAt e w u ps → (t = 0 ∨ t = 1 ∨ t = 2) → Calls Tryd.prog 9 #[.agg #[.int .i64 f.k, .int .i64 f.u, .int .i64 f.o, .int .i64 f.a.k, .int .i64 f.a.t, .int .i64 f.a.c, .bool f.a.z, .int .i64 f.a.n, .int .i64 f.b.k, .int .i64 f.b.t, .int .i64 f.b.c, .bool f.b.z, .int .i64 f.b.n, u], .int .u64 (N : Int), .int .i64 t] w fun e w' => e = .returned (.bool ((Rj.may N (.mk f ps)).get t)) ∧ Below w.heap.size w w') (u : Value) (ps : List Pd) (w : World) (hu : PsAt d w u ps) :
    Calls Tryd.prog 27 #[u, .int .u64 (N : Int), .int .i64 0, .int .i64 2] w fun e w' => e = .returned (.bool ((Rj.andM (ps.map (Rj.may N))).get 0)) ∧ Below w.heap.size w w' := by
  rw [Rj.andM_get N ps (by decide)]
  have ca := r7all_of d N ih u ps w hu
  rw [if_neg (by decide), if_neg (by decide)]
  have c1 := fun W (h : Below w.heap.size w W) => r7some_of d N ih u ps 0 W (hu.below h (Nat.le_refl _)) (by decide)
  generalize (ps.any fun p => (Rj.may N p).get 0) = b1 at c1 ⊢
  generalize (ps.all fun p => (Rj.may N p).has) = bA at ca ⊢
  obtain ⟨A, c, rfl, hl⟩ := hu.form
  clear ih hu hl
  go_enter Tryd.func27, Tryd.ntmps27
  go_wp2_with fail
  refine ca.mono ?_
  rintro e w1 ⟨rfl, hb1⟩
  clear ca
  cases bA
  · go_wp2_with fail
    go_ret
    exact ⟨rfl, hb1⟩
  · go_wp2_with fail
    refine (c1 _ hb1).mono ?_
    rintro e w2 ⟨rfl, hb2⟩
    clear c1
    go_wp2_with fail
    go_ret
    exact ⟨ret_bool (by simp), below_join hb1 hb2⟩
theorem r7many_12 (d N : Nat) (ih : ∀ e, e < d → ∀ (f : Pf) (u : Value) (ps : List Pd) (t : Int) (w : World), PsAt e w u ps → (t = 0 ∨ t = 1 ∨ t = 2) → Calls Tryd.prog 9 #[.agg #[.int .i64 f.k, .int .i64 f.u, .int .i64 f.o, .int .i64 f.a.k, .int .i64 f.a.t, .int .i64 f.a.c, .bool f.a.z, .int .i64 f.a.n, .int .i64 f.b.k, .int .i64 f.b.t, .int .i64 f.b.c, .bool f.b.z, .int .i64 f.b.n, u], .int .u64 (N : Int), .int .i64 t] w fun e w' => e = .returned (.bool ((Rj.may N (.mk f ps)).get t)) ∧ Below w.heap.size w w') (u : Value) (ps : List Pd) (w : World) (hu : PsAt d w u ps) :
    Calls Tryd.prog 27 #[u, .int .u64 (N : Int), .int .i64 1, .int .i64 2] w fun e w' => e = .returned (.bool ((Rj.andM (ps.map (Rj.may N))).get 1)) ∧ Below w.heap.size w w' := by
  rw [Rj.andM_get N ps (by decide)]
  have ca := r7all_of d N ih u ps w hu
  rw [if_neg (by decide), if_pos rfl]
  have c1 := fun W (h : Below w.heap.size w W) => r7some_of d N ih u ps 1 W (hu.below h (Nat.le_refl _)) (by decide)
  have c2 := fun W (h : Below w.heap.size w W) => r7every_of d N ih u ps 1 2 W (hu.below h (Nat.le_refl _)) (by decide) (by decide)
  generalize (ps.any fun p => (Rj.may N p).get 1) = b1 at c1 ⊢
  generalize (ps.all fun p => (Rj.may N p).get 1 || (Rj.may N p).get 2) = b2 at c2 ⊢
  generalize (ps.all fun p => (Rj.may N p).has) = bA at ca ⊢
  obtain ⟨A, c, rfl, hl⟩ := hu.form
  clear ih hu hl
  go_enter Tryd.func27, Tryd.ntmps27
  go_wp2_with fail
  refine ca.mono ?_
  rintro e w1 ⟨rfl, hb1⟩
  clear ca
  cases bA
  · go_wp2_with fail
    go_ret
    exact ⟨rfl, hb1⟩
  · go_wp2_with fail
    refine (c1 _ hb1).mono ?_
    rintro e w2 ⟨rfl, hb2⟩
    have hb3 := below_join hb1 hb2
    clear c1
    cases b1
    · go_wp2_with fail
      go_ret
      exact ⟨rfl, hb3⟩
    · go_wp2_with fail
      refine (c2 _ hb3).mono ?_
      rintro e w3 ⟨rfl, hb4⟩
      clear c2
      go_wp2_with fail
      go_ret
      exact ⟨ret_bool (by simp), below_join hb3 hb4⟩
theorem r7many_22 (d N : Nat) (ih : ∀ e, e < d → ∀ (f : Pf) (u : Value) (ps : List Pd) (t : Int) (w : World), PsAt e w u ps → (t = 0 ∨ t = 1 ∨ t = 2) → Calls Tryd.prog 9 #[.agg #[.int .i64 f.k, .int .i64 f.u, .int .i64 f.o, .int .i64 f.a.k, .int .i64 f.a.t, .int .i64 f.a.c, .bool f.a.z, .int .i64 f.a.n, .int .i64 f.b.k, .int .i64 f.b.t, .int .i64 f.b.c, .bool f.b.z, .int .i64 f.b.n, u], .int .u64 (N : Int), .int .i64 t] w fun e w' => e = .returned (.bool ((Rj.may N (.mk f ps)).get t)) ∧ Below w.heap.size w w') (u : Value) (ps : List Pd) (w : World) (hu : PsAt d w u ps) :
    Calls Tryd.prog 27 #[u, .int .u64 (N : Int), .int .i64 2, .int .i64 2] w fun e w' => e = .returned (.bool ((Rj.andM (ps.map (Rj.may N))).get 2)) ∧ Below w.heap.size w w' := by
  rw [Rj.andM_get N ps (by decide)]
  have ca := r7all_of d N ih u ps w hu
  rw [if_pos rfl]
  have c1 := fun W (h : Below w.heap.size w W) => r7every_of d N ih u ps 2 2 W (hu.below h (Nat.le_refl _)) (by decide) (by decide)
  generalize (ps.all fun p => (Rj.may N p).get 2 || (Rj.may N p).get 2) = b1 at c1 ⊢
  generalize (ps.all fun p => (Rj.may N p).has) = bA at ca ⊢
  obtain ⟨A, c, rfl, hl⟩ := hu.form
  clear ih hu hl
  go_enter Tryd.func27, Tryd.ntmps27
  go_wp2_with fail
  refine ca.mono ?_
  rintro e w1 ⟨rfl, hb1⟩
  clear ca
  cases bA
  · go_wp2_with fail
    go_ret
    exact ⟨rfl, hb1⟩
  · go_wp2_with fail
    refine (c1 _ hb1).mono ?_
    rintro e w2 ⟨rfl, hb2⟩
    clear c1
    go_wp2_with fail
    go_ret
    exact ⟨ret_bool (by simp), below_join hb1 hb2⟩
theorem r7many_00 (d N : Nat) (ih : ∀ e, e < d → ∀ (f : Pf) (u : Value) (ps : List Pd) (t : Int) (w : World), PsAt e w u ps → (t = 0 ∨ t = 1 ∨ t = 2) → Calls Tryd.prog 9 #[.agg #[.int .i64 f.k, .int .i64 f.u, .int .i64 f.o, .int .i64 f.a.k, .int .i64 f.a.t, .int .i64 f.a.c, .bool f.a.z, .int .i64 f.a.n, .int .i64 f.b.k, .int .i64 f.b.t, .int .i64 f.b.c, .bool f.b.z, .int .i64 f.b.n, u], .int .u64 (N : Int), .int .i64 t] w fun e w' => e = .returned (.bool ((Rj.may N (.mk f ps)).get t)) ∧ Below w.heap.size w w') (u : Value) (ps : List Pd) (w : World) (hu : PsAt d w u ps) :
    Calls Tryd.prog 27 #[u, .int .u64 (N : Int), .int .i64 0, .int .i64 0] w fun e w' => e = .returned (.bool ((Rj.orM (ps.map (Rj.may N))).get 0)) ∧ Below w.heap.size w w' := by
  rw [Rj.orM_get N ps (by decide)]
  have ca := r7all_of d N ih u ps w hu
  rw [if_pos rfl]
  have c1 := fun W (h : Below w.heap.size w W) => r7every_of d N ih u ps 0 0 W (hu.below h (Nat.le_refl _)) (by decide) (by decide)
  generalize (ps.all fun p => (Rj.may N p).get 0 || (Rj.may N p).get 0) = b1 at c1 ⊢
  generalize (ps.all fun p => (Rj.may N p).has) = bA at ca ⊢
  obtain ⟨A, c, rfl, hl⟩ := hu.form
  clear ih hu hl
  go_enter Tryd.func27, Tryd.ntmps27
  go_wp2_with fail
  refine ca.mono ?_
  rintro e w1 ⟨rfl, hb1⟩
  clear ca
  cases bA
  · go_wp2_with fail
    go_ret
    exact ⟨rfl, hb1⟩
  · go_wp2_with fail
    refine (c1 _ hb1).mono ?_
    rintro e w2 ⟨rfl, hb2⟩
    clear c1
    go_wp2_with fail
    go_ret
    exact ⟨ret_bool (by simp), below_join hb1 hb2⟩
theorem r7many_10 (d N : Nat) (ih : ∀ e, e < d → ∀ (f : Pf) (u : Value) (ps : List Pd) (t : Int) (w : World), PsAt e w u ps → (t = 0 ∨ t = 1 ∨ t = 2) → Calls Tryd.prog 9 #[.agg #[.int .i64 f.k, .int .i64 f.u, .int .i64 f.o, .int .i64 f.a.k, .int .i64 f.a.t, .int .i64 f.a.c, .bool f.a.z, .int .i64 f.a.n, .int .i64 f.b.k, .int .i64 f.b.t, .int .i64 f.b.c, .bool f.b.z, .int .i64 f.b.n, u], .int .u64 (N : Int), .int .i64 t] w fun e w' => e = .returned (.bool ((Rj.may N (.mk f ps)).get t)) ∧ Below w.heap.size w w') (u : Value) (ps : List Pd) (w : World) (hu : PsAt d w u ps) :
    Calls Tryd.prog 27 #[u, .int .u64 (N : Int), .int .i64 1, .int .i64 0] w fun e w' => e = .returned (.bool ((Rj.orM (ps.map (Rj.may N))).get 1)) ∧ Below w.heap.size w w' := by
  rw [Rj.orM_get N ps (by decide)]
  have ca := r7all_of d N ih u ps w hu
  rw [if_neg (by decide), if_pos rfl]
  have c1 := fun W (h : Below w.heap.size w W) => r7some_of d N ih u ps 1 W (hu.below h (Nat.le_refl _)) (by decide)
  have c2 := fun W (h : Below w.heap.size w W) => r7every_of d N ih u ps 1 0 W (hu.below h (Nat.le_refl _)) (by decide) (by decide)
  generalize (ps.any fun p => (Rj.may N p).get 1) = b1 at c1 ⊢
  generalize (ps.all fun p => (Rj.may N p).get 1 || (Rj.may N p).get 0) = b2 at c2 ⊢
  generalize (ps.all fun p => (Rj.may N p).has) = bA at ca ⊢
  obtain ⟨A, c, rfl, hl⟩ := hu.form
  clear ih hu hl
  go_enter Tryd.func27, Tryd.ntmps27
  go_wp2_with fail
  refine ca.mono ?_
  rintro e w1 ⟨rfl, hb1⟩
  clear ca
  cases bA
  · go_wp2_with fail
    go_ret
    exact ⟨rfl, hb1⟩
  · go_wp2_with fail
    refine (c1 _ hb1).mono ?_
    rintro e w2 ⟨rfl, hb2⟩
    have hb3 := below_join hb1 hb2
    clear c1
    cases b1
    · go_wp2_with fail
      go_ret
      exact ⟨rfl, hb3⟩
    · go_wp2_with fail
      refine (c2 _ hb3).mono ?_
      rintro e w3 ⟨rfl, hb4⟩
      clear c2
      go_wp2_with fail
      go_ret
      exact ⟨ret_bool (by simp), below_join hb3 hb4⟩
theorem r7many_20 (d N : Nat) (ih : ∀ e, e < d → ∀ (f : Pf) (u : Value) (ps : List Pd) (t : Int) (w : World), PsAt e w u ps → (t = 0 ∨ t = 1 ∨ t = 2) → Calls Tryd.prog 9 #[.agg #[.int .i64 f.k, .int .i64 f.u, .int .i64 f.o, .int .i64 f.a.k, .int .i64 f.a.t, .int .i64 f.a.c, .bool f.a.z, .int .i64 f.a.n, .int .i64 f.b.k, .int .i64 f.b.t, .int .i64 f.b.c, .bool f.b.z, .int .i64 f.b.n, u], .int .u64 (N : Int), .int .i64 t] w fun e w' => e = .returned (.bool ((Rj.may N (.mk f ps)).get t)) ∧ Below w.heap.size w w') (u : Value) (ps : List Pd) (w : World) (hu : PsAt d w u ps) :
    Calls Tryd.prog 27 #[u, .int .u64 (N : Int), .int .i64 2, .int .i64 0] w fun e w' => e = .returned (.bool ((Rj.orM (ps.map (Rj.may N))).get 2)) ∧ Below w.heap.size w w' := by
  rw [Rj.orM_get N ps (by decide)]
  have ca := r7all_of d N ih u ps w hu
  rw [if_neg (by decide), if_neg (by decide)]
  have c1 := fun W (h : Below w.heap.size w W) => r7some_of d N ih u ps 2 W (hu.below h (Nat.le_refl _)) (by decide)
  generalize (ps.any fun p => (Rj.may N p).get 2) = b1 at c1 ⊢
  generalize (ps.all fun p => (Rj.may N p).has) = bA at ca ⊢
  obtain ⟨A, c, rfl, hl⟩ := hu.form
  clear ih hu hl
  go_enter Tryd.func27, Tryd.ntmps27
  go_wp2_with fail
  refine ca.mono ?_
  rintro e w1 ⟨rfl, hb1⟩
  clear ca
  cases bA
  · go_wp2_with fail
    go_ret
    exact ⟨rfl, hb1⟩
  · go_wp2_with fail
    refine (c1 _ hb1).mono ?_
    rintro e w2 ⟨rfl, hb2⟩
    clear c1
    go_wp2_with fail
    go_ret
    exact ⟨ret_bool (by simp), below_join hb1 hb2⟩
set_option maxRecDepth 100000 in
theorem r7is_0 (d N : Nat) (hN : N < 18446744073709551616) (ih : ∀ e, e < d → ∀ (f : Pf) (u : Value) (ps : List Pd) (t : Int) (w : World), PsAt e w u ps → (t = 0 ∨ t = 1 ∨ t = 2) → Calls Tryd.prog 9 #[.agg #[.int .i64 f.k, .int .i64 f.u, .int .i64 f.o, .int .i64 f.a.k, .int .i64 f.a.t, .int .i64 f.a.c, .bool f.a.z, .int .i64 f.a.n, .int .i64 f.b.k, .int .i64 f.b.t, .int .i64 f.b.c, .bool f.b.z, .int .i64 f.b.n, u], .int .u64 (N : Int), .int .i64 t] w fun e w' => e = .returned (.bool ((Rj.may N (.mk f ps)).get t)) ∧ Below w.heap.size w w') (f : Pf) (u : Value) (ps : List Pd) (w : World) (hu : PsAt d w u ps) :
    Calls Tryd.prog 9 #[.agg #[.int .i64 f.k, .int .i64 f.u, .int .i64 f.o, .int .i64 f.a.k, .int .i64 f.a.t, .int .i64 f.a.c, .bool f.a.z, .int .i64 f.a.n, .int .i64 f.b.k, .int .i64 f.b.t, .int .i64 f.b.c, .bool f.b.z, .int .i64 f.b.n, u], .int .u64 (N : Int), .int .i64 0] w fun e w' => e = .returned (.bool ((Rj.may N (.mk f ps)).get 0)) ∧ Below w.heap.size w w' := by
  obtain ⟨A, c, rfl, hl⟩ := hu.form
  obtain ⟨W0, hW0⟩ : ∃ W0, W0 = w.alloc (Obj.cells #[.int .i64 f.k, .int .i64 f.u, .int .i64 f.o, .int .i64 f.a.k, .int .i64 f.a.t, .int .i64 f.a.c, .bool f.a.z, .int .i64 f.a.n, .int .i64 f.b.k, .int .i64 f.b.t, .int .i64 f.b.c, .bool f.b.z, .int .i64 f.b.n, .slice A ps.length c] 33) := ⟨_, rfl⟩
  obtain ⟨l0, p0, hb0⟩ := pd_box hW0
  have hu0 := hu.below hb0 (Nat.le_refl _)
  have HW := Lib.hid hW0
  have HP := Lib.hid p0
  have HL := Lib.hid l0.lt
  have HE := Lib.hid (Rj.may_eq N f ps)
  obtain ⟨res, hres⟩ : ∃ res, res = (Rj.may N (.mk f ps)).get 0 := ⟨_, rfl⟩
  have HR := Lib.hid hres
  rw [← hres]
  by_cases h1 : f.k = 1
  · have e1 : (f.k == 1) = true := by simpa using h1
    have hm := Lib.hid (show res = (f.u == 0) by rw [HR.out, HE.out, Rj.made_1 h1]; rfl)
    obtain ⟨x0, x1, x2, x3, x4, x5, x6, x7, x8, x9, x10, x11, x12, x13⟩ := p0
    have e5 : ((0 : Int) == f.u) = (f.u == 0) := by rw [Bool.eq_iff_iff]; simp; omega
    obtain ⟨r, hr⟩ : ∃ r, r = (f.u == 0) := ⟨_, rfl⟩
    rw [← hr] at hm e5
    clear hu hu0 ih l0 hW0 hres h1 hr
    cases r
    · go_enter Tryd.func9, Tryd.ntmps9
      go_upto_region 1 with (fail)
      rw [← HW.out]
      go_wp2_with fail
      go_ret
      exact ⟨ret_bool (hm.out.symm), hb0⟩
    · go_enter Tryd.func9, Tryd.ntmps9
      go_upto_region 1 with (fail)
      rw [← HW.out]
      go_wp2_with fail
      go_ret
      exact ⟨ret_bool (hm.out.symm), hb0⟩
  have e1 : (f.k == 1) = false := by simpa using h1
  by_cases h2 : f.k = 2
  · have e2 : (f.k == 2) = true := by simpa using h2
    have ca := r7sure_any f.a.k f.a.t f.a.c f.a.z f.a.n N
    have cb := r7sure_any f.b.k f.b.t f.b.c f.b.z f.b.n N
    have cc := rcompare_any f.o f.a.z f.b.z f.a.n f.b.n
    have ha' : Rj.sure ⟨f.a.k, f.a.t, f.a.c, f.a.z, f.a.n⟩ N = Rj.sure f.a N := rfl
    have hb' : Rj.sure ⟨f.b.k, f.b.t, f.b.c, f.b.z, f.b.n⟩ N = Rj.sure f.b N := rfl
    rw [ha'] at ca
    rw [hb'] at cb
    have hm0 : res = (Rj.made f N (ps.map (Rj.may N))).get 0 := by rw [HR.out, HE.out]
    rw [Rj.made_2 h2] at hm0
    obtain ⟨o1, ho1⟩ : ∃ r, r = decide (f.o < 1) := ⟨_, rfl⟩
    obtain ⟨o2, ho2⟩ : ∃ r, r = decide (6 < f.o) := ⟨_, rfl⟩
    obtain ⟨sa, hsa⟩ : ∃ r, r = Rj.sure f.a N := ⟨_, rfl⟩
    obtain ⟨sb, hsb⟩ : ∃ r, r = Rj.sure f.b N := ⟨_, rfl⟩
    obtain ⟨ka, hka⟩ : ∃ r, r = (f.a.k == 1) := ⟨_, rfl⟩
    obtain ⟨kb, hkb⟩ : ∃ r, r = (f.b.k == 1) := ⟨_, rfl⟩
    obtain ⟨cv, hcv⟩ : ∃ r, r = Va.comp f.o f.a.z f.a.n f.b.z f.b.n := ⟨_, rfl⟩
    rw [← hsa] at ca
    rw [← hsb] at cb
    rw [← hcv] at cc
    rw [← ho1, ← ho2, ← hsa, ← hsb, ← hka, ← hkb, ← hcv] at hm0
    have d1 := ho1.symm
    have d2 := ho2.symm
    have d3 := hka.symm
    have d4 := hkb.symm
    have hm := Lib.hid hm0
    obtain ⟨x0, x1, x2, x3, x4, x5, x6, x7, x8, x9, x10, x11, x12, x13⟩ := p0
    clear hu hu0 ih l0 hW0 hres h1 h2 ho1 ho2 hsa hsb hka hkb hcv ha' hb' hm0
    cases o1
    · cases o2
      · cases sa
        · go_enter Tryd.func9, Tryd.ntmps9
          go_upto_region 1 with (fail)
          rw [← HW.out]
          go_wp2_with fail
          refine (ca _ hN).mono ?_
          rintro e w2 ⟨rfl, hb2⟩
          have hb5 := below_join hb0 hb2
          clear ca x0 x1 x2 x3 x4 x5 x6 x7 x8 x9 x10 x11 x12 x13
          obtain ⟨x0, x1, x2, x3, x4, x5, x6, x7, x8, x9, x10, x11, x12, x13⟩ := HP.out.below hb2 (show w.heap.size < W0.heap.size from HL.out)
          cases sb
          · go_wp2_with fail
            refine (cb _ hN).mono ?_
            rintro e w3 ⟨rfl, hb3⟩
            have hbz := below_join hb5 hb3
            have hW3 := below_join hb2 hb3
            clear cb x0 x1 x2 x3 x4 x5 x6 x7 x8 x9 x10 x11 x12 x13
            obtain ⟨x0, x1, x2, x3, x4, x5, x6, x7, x8, x9, x10, x11, x12, x13⟩ := HP.out.below hW3 (show w.heap.size < W0.heap.size from HL.out)
            cases ka
            · cases kb
              · go_wp2_with fail
                refine (cc _).mono ?_
                rintro e w4 ⟨rfl, hb4⟩
                clear x0 x1 x2 x3 x4 x5 x6 x7 x8 x9 x10 x11 x12 x13
                go_wp2_with fail
                go_ret
                exact ⟨ret_bool (by rw [hm.out]; show _ = (cv == 0); rw [Bool.eq_iff_iff]; simp; omega), below_join hbz hb4⟩
              · go_wp2_with fail
                go_ret
                exact ⟨ret_bool (by rw [hm.out]; rfl), hbz⟩
            · go_wp2_with fail
              go_ret
              exact ⟨ret_bool (by rw [hm.out]; rfl), hbz⟩
          · go_wp2_with (first | (with_reducible refine (cb _ hN).mono ?_; rintro e w3 ⟨rfl, hb3⟩))
            go_ret
            exact ⟨ret_bool (by rw [hm.out]; rfl), below_join hb5 hb3⟩
        · go_enter Tryd.func9, Tryd.ntmps9
          go_upto_region 1 with (fail)
          rw [← HW.out]
          go_wp2_with (first | (with_reducible refine (ca _ hN).mono ?_; rintro e w2 ⟨rfl, hb2⟩))
          go_ret
          exact ⟨ret_bool (by rw [hm.out]; rfl), below_join hb0 hb2⟩
      · go_enter Tryd.func9, Tryd.ntmps9
        go_upto_region 1 with (fail)
        rw [← HW.out]
        go_wp2_with fail
        go_ret
        exact ⟨ret_bool (by rw [hm.out]; rfl), hb0⟩
    · go_enter Tryd.func9, Tryd.ntmps9
      go_upto_region 1 with (fail)
      rw [← HW.out]
      go_wp2_with fail
      go_ret
      exact ⟨ret_bool (by rw [hm.out]; rfl), hb0⟩
  have e2 : (f.k == 2) = false := by simpa using h2
  by_cases h3 : f.k = 3
  · have e3 : (f.k == 3) = true := by simpa using h3
    have ca := r7sure_any f.a.k f.a.t f.a.c f.a.z f.a.n N
    have ha' : Rj.sure ⟨f.a.k, f.a.t, f.a.c, f.a.z, f.a.n⟩ N = Rj.sure f.a N := rfl
    rw [ha'] at ca
    have hm0 : res = (Rj.made f N (ps.map (Rj.may N))).get 0 := by rw [HR.out, HE.out]
    rw [Rj.made_3 h3] at hm0
    obtain ⟨sa, hsa⟩ : ∃ r, r = Rj.sure f.a N := ⟨_, rfl⟩
    obtain ⟨ka, hka⟩ : ∃ r, r = (f.a.k == 1) := ⟨_, rfl⟩
    rw [← hsa] at ca
    rw [← hsa, ← hka] at hm0
    have d3 := hka.symm
    have hm := Lib.hid hm0
    obtain ⟨x0, x1, x2, x3, x4, x5, x6, x7, x8, x9, x10, x11, x12, x13⟩ := p0
    clear hu hu0 ih l0 hW0 hres h1 h2 h3 hsa hka ha' hm0
    go_enter Tryd.func9, Tryd.ntmps9
    go_upto_region 1 with (fail)
    rw [← HW.out]
    go_wp2_with fail
    refine (ca _ hN).mono ?_
    rintro e w2 ⟨rfl, hb2⟩
    have hb5 := below_join hb0 hb2
    clear ca x0 x1 x2 x3 x4 x5 x6 x7 x8 x9 x10 x11 x12 x13
    have x3 := (HP.out.below hb2 (show w.heap.size < W0.heap.size from HL.out)).c3
    cases sa
    · cases ka
      · go_wp2_with fail
        go_ret
        exact ⟨ret_bool (by rw [hm.out]; rfl), hb5⟩
      · go_wp2_with fail
        go_ret
        exact ⟨ret_bool (by rw [hm.out]; rfl), hb5⟩
    · go_wp2_with fail
      go_ret
      exact ⟨ret_bool (by rw [hm.out]; rfl), hb5⟩
  have e3 : (f.k == 3) = false := by simpa using h3
  by_cases h4 : f.k = 4
  · have e4 : (f.k == 4) = true := by simpa using h4
    have hm := Lib.hid (show res = (Rj.andM (ps.map (Rj.may N))).get 0 by rw [HR.out, HE.out, Rj.made_4 h4])
    have cs := r7many_02 d N ih _ ps W0 hu0
    rw [← hm.out] at cs
    obtain ⟨x0, x1, x2, x3, x4, x5, x6, x7, x8, x9, x10, x11, x12, x13⟩ := p0
    clear hu hu0 ih l0 hW0 hres h1 h2 h3 h4 
    go_enter Tryd.func9, Tryd.ntmps9
    go_upto_region 1 with (fail)
    rw [← HW.out]
    go_wp2_with fail
    refine cs.mono ?_
    rintro e w2 ⟨rfl, hb2⟩
    clear cs x0 x1 x2 x3 x4 x5 x6 x7 x8 x9 x10 x11 x12 x13
    go_wp2_with fail
    go_ret
    exact ⟨rfl, below_join hb0 hb2⟩
  have e4 : (f.k == 4) = false := by simpa using h4
  by_cases h5 : f.k = 5
  · have e5 : (f.k == 5) = true := by simpa using h5
    have hm := Lib.hid (show res = (Rj.orM (ps.map (Rj.may N))).get 0 by rw [HR.out, HE.out, Rj.made_5 h5])
    have cs := r7many_00 d N ih _ ps W0 hu0
    rw [← hm.out] at cs
    obtain ⟨x0, x1, x2, x3, x4, x5, x6, x7, x8, x9, x10, x11, x12, x13⟩ := p0
    clear hu hu0 ih l0 hW0 hres h1 h2 h3 h4 h5
    go_enter Tryd.func9, Tryd.ntmps9
    go_upto_region 1 with (fail)
    rw [← HW.out]
    go_wp2_with fail
    refine cs.mono ?_
    rintro e w2 ⟨rfl, hb2⟩
    clear cs x0 x1 x2 x3 x4 x5 x6 x7 x8 x9 x10 x11 x12 x13
    go_wp2_with fail
    go_ret
    exact ⟨rfl, below_join hb0 hb2⟩
  have e5 : (f.k == 5) = false := by simpa using h5
  by_cases h6 : f.k = 6
  · have e6 : (f.k == 6) = true := by simpa using h6
    by_cases hn0 : ps.length = 0
    · have hps : ps = [] := List.eq_nil_of_length_eq_zero hn0
      have hm := Lib.hid (show res = M3.get (false, true, false) 0 by rw [HR.out, HE.out, hps, List.map_nil, Rj.made_6n h6])
      rw [hn0] at HW p0 ⊢
      obtain ⟨x0, x1, x2, x3, x4, x5, x6, x7, x8, x9, x10, x11, x12, x13⟩ := p0
      clear hu hu0 ih l0 hW0 hres h1 h2 h3 h4 h5 h6 hps
      go_enter Tryd.func9, Tryd.ntmps9
      go_upto_region 1 with (fail)
      rw [← HW.out]
      go_wp2_with fail
      go_ret
      exact ⟨ret_bool (by rw [hm.out]; rfl), hb0⟩
    · obtain ⟨p, ps', hps⟩ : ∃ p ps', ps = p :: ps' := by
        cases h : ps with
        | nil => rw [h] at hn0; exact absurd rfl hn0
        | cons p r => exact ⟨p, r, rfl⟩
      have hm := Lib.hid (show res = (Rj.may N p).get 2 by rw [HR.out, HE.out, hps, List.map_cons, Rj.made_6c h6]; rfl)
      have gp : ps[0]? = some p := by rw [hps]; rfl
      obtain ⟨e, b, o, s, v', he, rfl, _, hx⟩ := hu0.at_ gp
      obtain ⟨hcell, hpp⟩ := hx W0 (Below.refl _ _)
      have cs := ih e he p.f v' p.ps 2 W0 hpp (by decide)
      rw [Rj.may_mk, ← hm.out] at cs
      obtain ⟨n, hn⟩ : ∃ n, n = ps.length := ⟨_, rfl⟩
      have hn1 : 0 < n := by omega
      have x0 := p0.c0
      have x13 := p0.c13
      rw [← hn] at hl HW x13 ⊢
      have hcell : PdCell W0 ⟨b, o, s⟩ p.f v' := hcell
      obtain ⟨y0, y1, y2, y3, y4, y5, y6, y7, y8, y9, y10, y11, y12, y13⟩ := hcell
      have ew : IntKind.i64.wrap ((2 : Int) - 0) = 2 := by decide +kernel
      clear hu hu0 ih l0 hW0 h1 h2 h3 h4 h5 h6 hres hx hpp gp hps hn p0 hn0 HP
      go_enter Tryd.func9, Tryd.ntmps9
      go_upto_region 1 with (fail)
      rw [← HW.out]
      go_wp2_with fail
      refine cs.mono ?_
      rintro e w2 ⟨rfl, hb2⟩
      clear cs x0 x13 y0 y1 y2 y3 y4 y5 y6 y7 y8 y9 y10 y11 y12 y13
      go_wp2_with fail
      go_ret
      exact ⟨rfl, below_join hb0 hb2⟩
  have e6 : (f.k == 6) = false := by simpa using h6
  have hm := Lib.hid (show res = M3.get (false, true, false) 0 by rw [HR.out, HE.out, Rj.made_no h1 h2 h3 h4 h5 h6])
  obtain ⟨x0, x1, x2, x3, x4, x5, x6, x7, x8, x9, x10, x11, x12, x13⟩ := p0
  clear hu hu0 ih l0 hW0 hres h1 h2 h3 h4 h5 h6
  go_enter Tryd.func9, Tryd.ntmps9
  go_upto_region 1 with (fail)
  rw [← HW.out]
  go_wp2_with fail
  go_ret
  exact ⟨ret_bool (by rw [hm.out]; rfl), hb0⟩
set_option maxRecDepth 100000 in
theorem r7is_1 (d N : Nat) (hN : N < 18446744073709551616) (ih : ∀ e, e < d → ∀ (f : Pf) (u : Value) (ps : List Pd) (t : Int) (w : World), PsAt e w u ps → (t = 0 ∨ t = 1 ∨ t = 2) → Calls Tryd.prog 9 #[.agg #[.int .i64 f.k, .int .i64 f.u, .int .i64 f.o, .int .i64 f.a.k, .int .i64 f.a.t, .int .i64 f.a.c, .bool f.a.z, .int .i64 f.a.n, .int .i64 f.b.k, .int .i64 f.b.t, .int .i64 f.b.c, .bool f.b.z, .int .i64 f.b.n, u], .int .u64 (N : Int), .int .i64 t] w fun e w' => e = .returned (.bool ((Rj.may N (.mk f ps)).get t)) ∧ Below w.heap.size w w') (f : Pf) (u : Value) (ps : List Pd) (w : World) (hu : PsAt d w u ps) :
    Calls Tryd.prog 9 #[.agg #[.int .i64 f.k, .int .i64 f.u, .int .i64 f.o, .int .i64 f.a.k, .int .i64 f.a.t, .int .i64 f.a.c, .bool f.a.z, .int .i64 f.a.n, .int .i64 f.b.k, .int .i64 f.b.t, .int .i64 f.b.c, .bool f.b.z, .int .i64 f.b.n, u], .int .u64 (N : Int), .int .i64 1] w fun e w' => e = .returned (.bool ((Rj.may N (.mk f ps)).get 1)) ∧ Below w.heap.size w w' := by
  obtain ⟨A, c, rfl, hl⟩ := hu.form
  obtain ⟨W0, hW0⟩ : ∃ W0, W0 = w.alloc (Obj.cells #[.int .i64 f.k, .int .i64 f.u, .int .i64 f.o, .int .i64 f.a.k, .int .i64 f.a.t, .int .i64 f.a.c, .bool f.a.z, .int .i64 f.a.n, .int .i64 f.b.k, .int .i64 f.b.t, .int .i64 f.b.c, .bool f.b.z, .int .i64 f.b.n, .slice A ps.length c] 33) := ⟨_, rfl⟩
  obtain ⟨l0, p0, hb0⟩ := pd_box hW0
  have hu0 := hu.below hb0 (Nat.le_refl _)
  have HW := Lib.hid hW0
  have HP := Lib.hid p0
  have HL := Lib.hid l0.lt
  have HE := Lib.hid (Rj.may_eq N f ps)
  obtain ⟨res, hres⟩ : ∃ res, res = (Rj.may N (.mk f ps)).get 1 := ⟨_, rfl⟩
  have HR := Lib.hid hres
  rw [← hres]
  by_cases h1 : f.k = 1
  · have e1 : (f.k == 1) = true := by simpa using h1
    have hm := Lib.hid (show res = (f.u == 1 || (decide (f.u < 0) || decide (2 < f.u))) by rw [HR.out, HE.out, Rj.made_1 h1]; rfl)
    obtain ⟨x0, x1, x2, x3, x4, x5, x6, x7, x8, x9, x10, x11, x12, x13⟩ := p0
    have e5 : ((1 : Int) == f.u) = (f.u == 1) := by rw [Bool.eq_iff_iff]; simp; omega
    obtain ⟨r, hr⟩ : ∃ r, r = (f.u == 1) := ⟨_, rfl⟩
    obtain ⟨r2, hr2⟩ : ∃ r, r = decide (f.u < 0) := ⟨_, rfl⟩
    obtain ⟨r3, hr3⟩ : ∃ r, r = decide (2 < f.u) := ⟨_, rfl⟩
    rw [← hr] at hm e5
    rw [← hr2, ← hr3] at hm
    have d2 := hr2.symm
    have d3 := hr3.symm
    clear hu hu0 ih l0 hW0 hres h1 hr hr2 hr3
    cases r
    · cases r2
      · cases r3
        · go_enter Tryd.func9, Tryd.ntmps9
          go_upto_region 1 with (fail)
          rw [← HW.out]
          go_wp2_with fail
          go_ret
          exact ⟨ret_bool (hm.out.symm), hb0⟩
        · go_enter Tryd.func9, Tryd.ntmps9
          go_upto_region 1 with (fail)
          rw [← HW.out]
          go_wp2_with fail
          go_ret
          exact ⟨ret_bool (hm.out.symm), hb0⟩
      · go_enter Tryd.func9, Tryd.ntmps9
        go_upto_region 1 with (fail)
        rw [← HW.out]
        go_wp2_with fail
        go_ret
        exact ⟨ret_bool (hm.out.symm), hb0⟩
    · go_enter Tryd.func9, Tryd.ntmps9
      go_upto_region 1 with (fail)
      rw [← HW.out]
      go_wp2_with fail
      go_ret
      exact ⟨ret_bool (hm.out.symm), hb0⟩
  have e1 : (f.k == 1) = false := by simpa using h1
  by_cases h2 : f.k = 2
  · have e2 : (f.k == 2) = true := by simpa using h2
    have ca := r7sure_any f.a.k f.a.t f.a.c f.a.z f.a.n N
    have cb := r7sure_any f.b.k f.b.t f.b.c f.b.z f.b.n N
    have cc := rcompare_any f.o f.a.z f.b.z f.a.n f.b.n
    have ha' : Rj.sure ⟨f.a.k, f.a.t, f.a.c, f.a.z, f.a.n⟩ N = Rj.sure f.a N := rfl
    have hb' : Rj.sure ⟨f.b.k, f.b.t, f.b.c, f.b.z, f.b.n⟩ N = Rj.sure f.b N := rfl
    rw [ha'] at ca
    rw [hb'] at cb
    have hm0 : res = (Rj.made f N (ps.map (Rj.may N))).get 1 := by rw [HR.out, HE.out]
    rw [Rj.made_2 h2] at hm0
    obtain ⟨o1, ho1⟩ : ∃ r, r = decide (f.o < 1) := ⟨_, rfl⟩
    obtain ⟨o2, ho2⟩ : ∃ r, r = decide (6 < f.o) := ⟨_, rfl⟩
    obtain ⟨sa, hsa⟩ : ∃ r, r = Rj.sure f.a N := ⟨_, rfl⟩
    obtain ⟨sb, hsb⟩ : ∃ r, r = Rj.sure f.b N := ⟨_, rfl⟩
    obtain ⟨ka, hka⟩ : ∃ r, r = (f.a.k == 1) := ⟨_, rfl⟩
    obtain ⟨kb, hkb⟩ : ∃ r, r = (f.b.k == 1) := ⟨_, rfl⟩
    obtain ⟨cv, hcv⟩ : ∃ r, r = Va.comp f.o f.a.z f.a.n f.b.z f.b.n := ⟨_, rfl⟩
    rw [← hsa] at ca
    rw [← hsb] at cb
    rw [← hcv] at cc
    rw [← ho1, ← ho2, ← hsa, ← hsb, ← hka, ← hkb, ← hcv] at hm0
    have d1 := ho1.symm
    have d2 := ho2.symm
    have d3 := hka.symm
    have d4 := hkb.symm
    have hm := Lib.hid hm0
    obtain ⟨x0, x1, x2, x3, x4, x5, x6, x7, x8, x9, x10, x11, x12, x13⟩ := p0
    clear hu hu0 ih l0 hW0 hres h1 h2 ho1 ho2 hsa hsb hka hkb hcv ha' hb' hm0
    cases o1
    · cases o2
      · cases sa
        · go_enter Tryd.func9, Tryd.ntmps9
          go_upto_region 1 with (fail)
          rw [← HW.out]
          go_wp2_with fail
          refine (ca _ hN).mono ?_
          rintro e w2 ⟨rfl, hb2⟩
          have hb5 := below_join hb0 hb2
          clear ca x0 x1 x2 x3 x4 x5 x6 x7 x8 x9 x10 x11 x12 x13
          obtain ⟨x0, x1, x2, x3, x4, x5, x6, x7, x8, x9, x10, x11, x12, x13⟩ := HP.out.below hb2 (show w.heap.size < W0.heap.size from HL.out)
          cases sb
          · go_wp2_with fail
            refine (cb _ hN).mono ?_
            rintro e w3 ⟨rfl, hb3⟩
            have hbz := below_join hb5 hb3
            have hW3 := below_join hb2 hb3
            clear cb x0 x1 x2 x3 x4 x5 x6 x7 x8 x9 x10 x11 x12 x13
            obtain ⟨x0, x1, x2, x3, x4, x5, x6, x7, x8, x9, x10, x11, x12, x13⟩ := HP.out.below hW3 (show w.heap.size < W0.heap.size from HL.out)
            cases ka
            · cases kb
              · go_wp2_with fail
                refine (cc _).mono ?_
                rintro e w4 ⟨rfl, hb4⟩
                clear x0 x1 x2 x3 x4 x5 x6 x7 x8 x9 x10 x11 x12 x13
                go_wp2_with fail
                go_ret
                exact ⟨ret_bool (by rw [hm.out]; show _ = (cv == 1); rw [Bool.eq_iff_iff]; simp; omega), below_join hbz hb4⟩
              · go_wp2_with fail
                go_ret
                exact ⟨ret_bool (by rw [hm.out]; rfl), hbz⟩
            · go_wp2_with fail
              go_ret
              exact ⟨ret_bool (by rw [hm.out]; rfl), hbz⟩
          · go_wp2_with (first | (with_reducible refine (cb _ hN).mono ?_; rintro e w3 ⟨rfl, hb3⟩))
            go_ret
            exact ⟨ret_bool (by rw [hm.out]; rfl), below_join hb5 hb3⟩
        · go_enter Tryd.func9, Tryd.ntmps9
          go_upto_region 1 with (fail)
          rw [← HW.out]
          go_wp2_with (first | (with_reducible refine (ca _ hN).mono ?_; rintro e w2 ⟨rfl, hb2⟩))
          go_ret
          exact ⟨ret_bool (by rw [hm.out]; rfl), below_join hb0 hb2⟩
      · go_enter Tryd.func9, Tryd.ntmps9
        go_upto_region 1 with (fail)
        rw [← HW.out]
        go_wp2_with fail
        go_ret
        exact ⟨ret_bool (by rw [hm.out]; rfl), hb0⟩
    · go_enter Tryd.func9, Tryd.ntmps9
      go_upto_region 1 with (fail)
      rw [← HW.out]
      go_wp2_with fail
      go_ret
      exact ⟨ret_bool (by rw [hm.out]; rfl), hb0⟩
  have e2 : (f.k == 2) = false := by simpa using h2
  by_cases h3 : f.k = 3
  · have e3 : (f.k == 3) = true := by simpa using h3
    have ca := r7sure_any f.a.k f.a.t f.a.c f.a.z f.a.n N
    have ha' : Rj.sure ⟨f.a.k, f.a.t, f.a.c, f.a.z, f.a.n⟩ N = Rj.sure f.a N := rfl
    rw [ha'] at ca
    have hm0 : res = (Rj.made f N (ps.map (Rj.may N))).get 1 := by rw [HR.out, HE.out]
    rw [Rj.made_3 h3] at hm0
    obtain ⟨sa, hsa⟩ : ∃ r, r = Rj.sure f.a N := ⟨_, rfl⟩
    obtain ⟨ka, hka⟩ : ∃ r, r = (f.a.k == 1) := ⟨_, rfl⟩
    rw [← hsa] at ca
    rw [← hsa, ← hka] at hm0
    have d3 := hka.symm
    have hm := Lib.hid hm0
    obtain ⟨x0, x1, x2, x3, x4, x5, x6, x7, x8, x9, x10, x11, x12, x13⟩ := p0
    clear hu hu0 ih l0 hW0 hres h1 h2 h3 hsa hka ha' hm0
    go_enter Tryd.func9, Tryd.ntmps9
    go_upto_region 1 with (fail)
    rw [← HW.out]
    go_wp2_with fail
    refine (ca _ hN).mono ?_
    rintro e w2 ⟨rfl, hb2⟩
    have hb5 := below_join hb0 hb2
    clear ca x0 x1 x2 x3 x4 x5 x6 x7 x8 x9 x10 x11 x12 x13
    have x3 := (HP.out.below hb2 (show w.heap.size < W0.heap.size from HL.out)).c3
    cases sa
    · cases ka
      · go_wp2_with fail
        go_ret
        exact ⟨ret_bool (by rw [hm.out]; rfl), hb5⟩
      · go_wp2_with fail
        go_ret
        exact ⟨ret_bool (by rw [hm.out]; rfl), hb5⟩
    · go_wp2_with fail
      go_ret
      exact ⟨ret_bool (by rw [hm.out]; rfl), hb5⟩
  have e3 : (f.k == 3) = false := by simpa using h3
  by_cases h4 : f.k = 4
  · have e4 : (f.k == 4) = true := by simpa using h4
    have hm := Lib.hid (show res = (Rj.andM (ps.map (Rj.may N))).get 1 by rw [HR.out, HE.out, Rj.made_4 h4])
    have cs := r7many_12 d N ih _ ps W0 hu0
    rw [← hm.out] at cs
    obtain ⟨x0, x1, x2, x3, x4, x5, x6, x7, x8, x9, x10, x11, x12, x13⟩ := p0
    clear hu hu0 ih l0 hW0 hres h1 h2 h3 h4 
    go_enter Tryd.func9, Tryd.ntmps9
    go_upto_region 1 with (fail)
    rw [← HW.out]
    go_wp2_with fail
    refine cs.mono ?_
    rintro e w2 ⟨rfl, hb2⟩
    clear cs x0 x1 x2 x3 x4 x5 x6 x7 x8 x9 x10 x11 x12 x13
    go_wp2_with fail
    go_ret
    exact ⟨rfl, below_join hb0 hb2⟩
  have e4 : (f.k == 4) = false := by simpa using h4
  by_cases h5 : f.k = 5
  · have e5 : (f.k == 5) = true := by simpa using h5
    have hm := Lib.hid (show res = (Rj.orM (ps.map (Rj.may N))).get 1 by rw [HR.out, HE.out, Rj.made_5 h5])
    have cs := r7many_10 d N ih _ ps W0 hu0
    rw [← hm.out] at cs
    obtain ⟨x0, x1, x2, x3, x4, x5, x6, x7, x8, x9, x10, x11, x12, x13⟩ := p0
    clear hu hu0 ih l0 hW0 hres h1 h2 h3 h4 h5
    go_enter Tryd.func9, Tryd.ntmps9
    go_upto_region 1 with (fail)
    rw [← HW.out]
    go_wp2_with fail
    refine cs.mono ?_
    rintro e w2 ⟨rfl, hb2⟩
    clear cs x0 x1 x2 x3 x4 x5 x6 x7 x8 x9 x10 x11 x12 x13
    go_wp2_with fail
    go_ret
    exact ⟨rfl, below_join hb0 hb2⟩
  have e5 : (f.k == 5) = false := by simpa using h5
  by_cases h6 : f.k = 6
  · have e6 : (f.k == 6) = true := by simpa using h6
    by_cases hn0 : ps.length = 0
    · have hps : ps = [] := List.eq_nil_of_length_eq_zero hn0
      have hm := Lib.hid (show res = M3.get (false, true, false) 1 by rw [HR.out, HE.out, hps, List.map_nil, Rj.made_6n h6])
      rw [hn0] at HW p0 ⊢
      obtain ⟨x0, x1, x2, x3, x4, x5, x6, x7, x8, x9, x10, x11, x12, x13⟩ := p0
      clear hu hu0 ih l0 hW0 hres h1 h2 h3 h4 h5 h6 hps
      go_enter Tryd.func9, Tryd.ntmps9
      go_upto_region 1 with (fail)
      rw [← HW.out]
      go_wp2_with fail
      go_ret
      exact ⟨ret_bool (by rw [hm.out]; rfl), hb0⟩
    · obtain ⟨p, ps', hps⟩ : ∃ p ps', ps = p :: ps' := by
        cases h : ps with
        | nil => rw [h] at hn0; exact absurd rfl hn0
        | cons p r => exact ⟨p, r, rfl⟩
      have hm := Lib.hid (show res = (Rj.may N p).get 1 by rw [HR.out, HE.out, hps, List.map_cons, Rj.made_6c h6]; rfl)
      have gp : ps[0]? = some p := by rw [hps]; rfl
      obtain ⟨e, b, o, s, v', he, rfl, _, hx⟩ := hu0.at_ gp
      obtain ⟨hcell, hpp⟩ := hx W0 (Below.refl _ _)
      have cs := ih e he p.f v' p.ps 1 W0 hpp (by decide)
      rw [Rj.may_mk, ← hm.out] at cs
      obtain ⟨n, hn⟩ : ∃ n, n = ps.length := ⟨_, rfl⟩
      have hn1 : 0 < n := by omega
      have x0 := p0.c0
      have x13 := p0.c13
      rw [← hn] at hl HW x13 ⊢
      have hcell : PdCell W0 ⟨b, o, s⟩ p.f v' := hcell
      obtain ⟨y0, y1, y2, y3, y4, y5, y6, y7, y8, y9, y10, y11, y12, y13⟩ := hcell
      have ew : IntKind.i64.wrap ((2 : Int) - 1) = 1 := by decide +kernel
      clear hu hu0 ih l0 hW0 h1 h2 h3 h4 h5 h6 hres hx hpp gp hps hn p0 hn0 HP
      go_enter Tryd.func9, Tryd.ntmps9
      go_upto_region 1 with (fail)
      rw [← HW.out]
      go_wp2_with fail
      refine cs.mono ?_
      rintro e w2 ⟨rfl, hb2⟩
      clear cs x0 x13 y0 y1 y2 y3 y4 y5 y6 y7 y8 y9 y10 y11 y12 y13
      go_wp2_with fail
      go_ret
      exact ⟨rfl, below_join hb0 hb2⟩
  have e6 : (f.k == 6) = false := by simpa using h6
  have hm := Lib.hid (show res = M3.get (false, true, false) 1 by rw [HR.out, HE.out, Rj.made_no h1 h2 h3 h4 h5 h6])
  obtain ⟨x0, x1, x2, x3, x4, x5, x6, x7, x8, x9, x10, x11, x12, x13⟩ := p0
  clear hu hu0 ih l0 hW0 hres h1 h2 h3 h4 h5 h6
  go_enter Tryd.func9, Tryd.ntmps9
  go_upto_region 1 with (fail)
  rw [← HW.out]
  go_wp2_with fail
  go_ret
  exact ⟨ret_bool (by rw [hm.out]; rfl), hb0⟩
set_option maxRecDepth 100000 in
theorem r7is_2 (d N : Nat) (hN : N < 18446744073709551616) (ih : ∀ e, e < d → ∀ (f : Pf) (u : Value) (ps : List Pd) (t : Int) (w : World), PsAt e w u ps → (t = 0 ∨ t = 1 ∨ t = 2) → Calls Tryd.prog 9 #[.agg #[.int .i64 f.k, .int .i64 f.u, .int .i64 f.o, .int .i64 f.a.k, .int .i64 f.a.t, .int .i64 f.a.c, .bool f.a.z, .int .i64 f.a.n, .int .i64 f.b.k, .int .i64 f.b.t, .int .i64 f.b.c, .bool f.b.z, .int .i64 f.b.n, u], .int .u64 (N : Int), .int .i64 t] w fun e w' => e = .returned (.bool ((Rj.may N (.mk f ps)).get t)) ∧ Below w.heap.size w w') (f : Pf) (u : Value) (ps : List Pd) (w : World) (hu : PsAt d w u ps) :
    Calls Tryd.prog 9 #[.agg #[.int .i64 f.k, .int .i64 f.u, .int .i64 f.o, .int .i64 f.a.k, .int .i64 f.a.t, .int .i64 f.a.c, .bool f.a.z, .int .i64 f.a.n, .int .i64 f.b.k, .int .i64 f.b.t, .int .i64 f.b.c, .bool f.b.z, .int .i64 f.b.n, u], .int .u64 (N : Int), .int .i64 2] w fun e w' => e = .returned (.bool ((Rj.may N (.mk f ps)).get 2)) ∧ Below w.heap.size w w' := by
  obtain ⟨A, c, rfl, hl⟩ := hu.form
  obtain ⟨W0, hW0⟩ : ∃ W0, W0 = w.alloc (Obj.cells #[.int .i64 f.k, .int .i64 f.u, .int .i64 f.o, .int .i64 f.a.k, .int .i64 f.a.t, .int .i64 f.a.c, .bool f.a.z, .int .i64 f.a.n, .int .i64 f.b.k, .int .i64 f.b.t, .int .i64 f.b.c, .bool f.b.z, .int .i64 f.b.n, .slice A ps.length c] 33) := ⟨_, rfl⟩
  obtain ⟨l0, p0, hb0⟩ := pd_box hW0
  have hu0 := hu.below hb0 (Nat.le_refl _)
  have HW := Lib.hid hW0
  have HP := Lib.hid p0
  have HL := Lib.hid l0.lt
  have HE := Lib.hid (Rj.may_eq N f ps)
  obtain ⟨res, hres⟩ : ∃ res, res = (Rj.may N (.mk f ps)).get 2 := ⟨_, rfl⟩
  have HR := Lib.hid hres
  rw [← hres]
  by_cases h1 : f.k = 1
  · have e1 : (f.k == 1) = true := by simpa using h1
    have hm := Lib.hid (show res = (f.u == 2) by rw [HR.out, HE.out, Rj.made_1 h1]; rfl)
    obtain ⟨x0, x1, x2, x3, x4, x5, x6, x7, x8, x9, x10, x11, x12, x13⟩ := p0
    have e5 : ((2 : Int) == f.u) = (f.u == 2) := by rw [Bool.eq_iff_iff]; simp; omega
    obtain ⟨r, hr⟩ : ∃ r, r = (f.u == 2) := ⟨_, rfl⟩
    rw [← hr] at hm e5
    clear hu hu0 ih l0 hW0 hres h1 hr
    cases r
    · go_enter Tryd.func9, Tryd.ntmps9
      go_upto_region 1 with (fail)
      rw [← HW.out]
      go_wp2_with fail
      go_ret
      exact ⟨ret_bool (hm.out.symm), hb0⟩
    · go_enter Tryd.func9, Tryd.ntmps9
      go_upto_region 1 with (fail)
      rw [← HW.out]
      go_wp2_with fail
      go_ret
      exact ⟨ret_bool (hm.out.symm), hb0⟩
  have e1 : (f.k == 1) = false := by simpa using h1
  by_cases h2 : f.k = 2
  · have e2 : (f.k == 2) = true := by simpa using h2
    have ca := r7sure_any f.a.k f.a.t f.a.c f.a.z f.a.n N
    have cb := r7sure_any f.b.k f.b.t f.b.c f.b.z f.b.n N
    have cc := rcompare_any f.o f.a.z f.b.z f.a.n f.b.n
    have ha' : Rj.sure ⟨f.a.k, f.a.t, f.a.c, f.a.z, f.a.n⟩ N = Rj.sure f.a N := rfl
    have hb' : Rj.sure ⟨f.b.k, f.b.t, f.b.c, f.b.z, f.b.n⟩ N = Rj.sure f.b N := rfl
    rw [ha'] at ca
    rw [hb'] at cb
    have hm0 : res = (Rj.made f N (ps.map (Rj.may N))).get 2 := by rw [HR.out, HE.out]
    rw [Rj.made_2 h2] at hm0
    obtain ⟨o1, ho1⟩ : ∃ r, r = decide (f.o < 1) := ⟨_, rfl⟩
    obtain ⟨o2, ho2⟩ : ∃ r, r = decide (6 < f.o) := ⟨_, rfl⟩
    obtain ⟨sa, hsa⟩ : ∃ r, r = Rj.sure f.a N := ⟨_, rfl⟩
    obtain ⟨sb, hsb⟩ : ∃ r, r = Rj.sure f.b N := ⟨_, rfl⟩
    obtain ⟨ka, hka⟩ : ∃ r, r = (f.a.k == 1) := ⟨_, rfl⟩
    obtain ⟨kb, hkb⟩ : ∃ r, r = (f.b.k == 1) := ⟨_, rfl⟩
    obtain ⟨cv, hcv⟩ : ∃ r, r = Va.comp f.o f.a.z f.a.n f.b.z f.b.n := ⟨_, rfl⟩
    rw [← hsa] at ca
    rw [← hsb] at cb
    rw [← hcv] at cc
    rw [← ho1, ← ho2, ← hsa, ← hsb, ← hka, ← hkb, ← hcv] at hm0
    have d1 := ho1.symm
    have d2 := ho2.symm
    have d3 := hka.symm
    have d4 := hkb.symm
    have hm := Lib.hid hm0
    obtain ⟨x0, x1, x2, x3, x4, x5, x6, x7, x8, x9, x10, x11, x12, x13⟩ := p0
    clear hu hu0 ih l0 hW0 hres h1 h2 ho1 ho2 hsa hsb hka hkb hcv ha' hb' hm0
    cases o1
    · cases o2
      · cases sa
        · go_enter Tryd.func9, Tryd.ntmps9
          go_upto_region 1 with (fail)
          rw [← HW.out]
          go_wp2_with fail
          refine (ca _ hN).mono ?_
          rintro e w2 ⟨rfl, hb2⟩
          have hb5 := below_join hb0 hb2
          clear ca x0 x1 x2 x3 x4 x5 x6 x7 x8 x9 x10 x11 x12 x13
          obtain ⟨x0, x1, x2, x3, x4, x5, x6, x7, x8, x9, x10, x11, x12, x13⟩ := HP.out.below hb2 (show w.heap.size < W0.heap.size from HL.out)
          cases sb
          · go_wp2_with fail
            refine (cb _ hN).mono ?_
            rintro e w3 ⟨rfl, hb3⟩
            have hbz := below_join hb5 hb3
            have hW3 := below_join hb2 hb3
            clear cb x0 x1 x2 x3 x4 x5 x6 x7 x8 x9 x10 x11 x12 x13
            obtain ⟨x0, x1, x2, x3, x4, x5, x6, x7, x8, x9, x10, x11, x12, x13⟩ := HP.out.below hW3 (show w.heap.size < W0.heap.size from HL.out)
            cases ka
            · cases kb
              · go_wp2_with fail
                refine (cc _).mono ?_
                rintro e w4 ⟨rfl, hb4⟩
                clear x0 x1 x2 x3 x4 x5 x6 x7 x8 x9 x10 x11 x12 x13
                go_wp2_with fail
                go_ret
                exact ⟨ret_bool (by rw [hm.out]; show _ = (cv == 2); rw [Bool.eq_iff_iff]; simp; omega), below_join hbz hb4⟩
              · go_wp2_with fail
                go_ret
                exact ⟨ret_bool (by rw [hm.out]; rfl), hbz⟩
            · go_wp2_with fail
              go_ret
              exact ⟨ret_bool (by rw [hm.out]; rfl), hbz⟩
          · go_wp2_with (first | (with_reducible refine (cb _ hN).mono ?_; rintro e w3 ⟨rfl, hb3⟩))
            go_ret
            exact ⟨ret_bool (by rw [hm.out]; rfl), below_join hb5 hb3⟩
        · go_enter Tryd.func9, Tryd.ntmps9
          go_upto_region 1 with (fail)
          rw [← HW.out]
          go_wp2_with (first | (with_reducible refine (ca _ hN).mono ?_; rintro e w2 ⟨rfl, hb2⟩))
          go_ret
          exact ⟨ret_bool (by rw [hm.out]; rfl), below_join hb0 hb2⟩
      · go_enter Tryd.func9, Tryd.ntmps9
        go_upto_region 1 with (fail)
        rw [← HW.out]
        go_wp2_with fail
        go_ret
        exact ⟨ret_bool (by rw [hm.out]; rfl), hb0⟩
    · go_enter Tryd.func9, Tryd.ntmps9
      go_upto_region 1 with (fail)
      rw [← HW.out]
      go_wp2_with fail
      go_ret
      exact ⟨ret_bool (by rw [hm.out]; rfl), hb0⟩
  have e2 : (f.k == 2) = false := by simpa using h2
  by_cases h3 : f.k = 3
  · have e3 : (f.k == 3) = true := by simpa using h3
    have ca := r7sure_any f.a.k f.a.t f.a.c f.a.z f.a.n N
    have ha' : Rj.sure ⟨f.a.k, f.a.t, f.a.c, f.a.z, f.a.n⟩ N = Rj.sure f.a N := rfl
    rw [ha'] at ca
    have hm0 : res = (Rj.made f N (ps.map (Rj.may N))).get 2 := by rw [HR.out, HE.out]
    rw [Rj.made_3 h3] at hm0
    obtain ⟨sa, hsa⟩ : ∃ r, r = Rj.sure f.a N := ⟨_, rfl⟩
    obtain ⟨ka, hka⟩ : ∃ r, r = (f.a.k == 1) := ⟨_, rfl⟩
    rw [← hsa] at ca
    rw [← hsa, ← hka] at hm0
    have d3 := hka.symm
    have hm := Lib.hid hm0
    obtain ⟨x0, x1, x2, x3, x4, x5, x6, x7, x8, x9, x10, x11, x12, x13⟩ := p0
    clear hu hu0 ih l0 hW0 hres h1 h2 h3 hsa hka ha' hm0
    go_enter Tryd.func9, Tryd.ntmps9
    go_upto_region 1 with (fail)
    rw [← HW.out]
    go_wp2_with fail
    refine (ca _ hN).mono ?_
    rintro e w2 ⟨rfl, hb2⟩
    have hb5 := below_join hb0 hb2
    clear ca x0 x1 x2 x3 x4 x5 x6 x7 x8 x9 x10 x11 x12 x13
    have x3 := (HP.out.below hb2 (show w.heap.size < W0.heap.size from HL.out)).c3
    cases sa
    · cases ka
      · go_wp2_with fail
        go_ret
        exact ⟨ret_bool (by rw [hm.out]; rfl), hb5⟩
      · go_wp2_with fail
        go_ret
        exact ⟨ret_bool (by rw [hm.out]; rfl), hb5⟩
    · go_wp2_with fail
      go_ret
      exact ⟨ret_bool (by rw [hm.out]; rfl), hb5⟩
  have e3 : (f.k == 3) = false := by simpa using h3
  by_cases h4 : f.k = 4
  · have e4 : (f.k == 4) = true := by simpa using h4
    have hm := Lib.hid (show res = (Rj.andM (ps.map (Rj.may N))).get 2 by rw [HR.out, HE.out, Rj.made_4 h4])
    have cs := r7many_22 d N ih _ ps W0 hu0
    rw [← hm.out] at cs
    obtain ⟨x0, x1, x2, x3, x4, x5, x6, x7, x8, x9, x10, x11, x12, x13⟩ := p0
    clear hu hu0 ih l0 hW0 hres h1 h2 h3 h4 
    go_enter Tryd.func9, Tryd.ntmps9
    go_upto_region 1 with (fail)
    rw [← HW.out]
    go_wp2_with fail
    refine cs.mono ?_
    rintro e w2 ⟨rfl, hb2⟩
    clear cs x0 x1 x2 x3 x4 x5 x6 x7 x8 x9 x10 x11 x12 x13
    go_wp2_with fail
    go_ret
    exact ⟨rfl, below_join hb0 hb2⟩
  have e4 : (f.k == 4) = false := by simpa using h4
  by_cases h5 : f.k = 5
  · have e5 : (f.k == 5) = true := by simpa using h5
    have hm := Lib.hid (show res = (Rj.orM (ps.map (Rj.may N))).get 2 by rw [HR.out, HE.out, Rj.made_5 h5])
    have cs := r7many_20 d N ih _ ps W0 hu0
    rw [← hm.out] at cs
    obtain ⟨x0, x1, x2, x3, x4, x5, x6, x7, x8, x9, x10, x11, x12, x13⟩ := p0
    clear hu hu0 ih l0 hW0 hres h1 h2 h3 h4 h5
    go_enter Tryd.func9, Tryd.ntmps9
    go_upto_region 1 with (fail)
    rw [← HW.out]
    go_wp2_with fail
    refine cs.mono ?_
    rintro e w2 ⟨rfl, hb2⟩
    clear cs x0 x1 x2 x3 x4 x5 x6 x7 x8 x9 x10 x11 x12 x13
    go_wp2_with fail
    go_ret
    exact ⟨rfl, below_join hb0 hb2⟩
  have e5 : (f.k == 5) = false := by simpa using h5
  by_cases h6 : f.k = 6
  · have e6 : (f.k == 6) = true := by simpa using h6
    by_cases hn0 : ps.length = 0
    · have hps : ps = [] := List.eq_nil_of_length_eq_zero hn0
      have hm := Lib.hid (show res = M3.get (false, true, false) 2 by rw [HR.out, HE.out, hps, List.map_nil, Rj.made_6n h6])
      rw [hn0] at HW p0 ⊢
      obtain ⟨x0, x1, x2, x3, x4, x5, x6, x7, x8, x9, x10, x11, x12, x13⟩ := p0
      clear hu hu0 ih l0 hW0 hres h1 h2 h3 h4 h5 h6 hps
      go_enter Tryd.func9, Tryd.ntmps9
      go_upto_region 1 with (fail)
      rw [← HW.out]
      go_wp2_with fail
      go_ret
      exact ⟨ret_bool (by rw [hm.out]; rfl), hb0⟩
    · obtain ⟨p, ps', hps⟩ : ∃ p ps', ps = p :: ps' := by
        cases h : ps with
        | nil => rw [h] at hn0; exact absurd rfl hn0
        | cons p r => exact ⟨p, r, rfl⟩
      have hm := Lib.hid (show res = (Rj.may N p).get 0 by rw [HR.out, HE.out, hps, List.map_cons, Rj.made_6c h6]; rfl)
      have gp : ps[0]? = some p := by rw [hps]; rfl
      obtain ⟨e, b, o, s, v', he, rfl, _, hx⟩ := hu0.at_ gp
      obtain ⟨hcell, hpp⟩ := hx W0 (Below.refl _ _)
      have cs := ih e he p.f v' p.ps 0 W0 hpp (by decide)
      rw [Rj.may_mk, ← hm.out] at cs
      obtain ⟨n, hn⟩ : ∃ n, n = ps.length := ⟨_, rfl⟩
      have hn1 : 0 < n := by omega
      have x0 := p0.c0
      have x13 := p0.c13
      rw [← hn] at hl HW x13 ⊢
      have hcell : PdCell W0 ⟨b, o, s⟩ p.f v' := hcell
      obtain ⟨y0, y1, y2, y3, y4, y5, y6, y7, y8, y9, y10, y11, y12, y13⟩ := hcell
      have ew : IntKind.i64.wrap ((2 : Int) - 2) = 0 := by decide +kernel
      clear hu hu0 ih l0 hW0 h1 h2 h3 h4 h5 h6 hres hx hpp gp hps hn p0 hn0 HP
      go_enter Tryd.func9, Tryd.ntmps9
      go_upto_region 1 with (fail)
      rw [← HW.out]
      go_wp2_with fail
      refine cs.mono ?_
      rintro e w2 ⟨rfl, hb2⟩
      clear cs x0 x13 y0 y1 y2 y3 y4 y5 y6 y7 y8 y9 y10 y11 y12 y13
      go_wp2_with fail
      go_ret
      exact ⟨rfl, below_join hb0 hb2⟩
  have e6 : (f.k == 6) = false := by simpa using h6
  have hm := Lib.hid (show res = M3.get (false, true, false) 2 by rw [HR.out, HE.out, Rj.made_no h1 h2 h3 h4 h5 h6])
  obtain ⟨x0, x1, x2, x3, x4, x5, x6, x7, x8, x9, x10, x11, x12, x13⟩ := p0
  clear hu hu0 ih l0 hW0 hres h1 h2 h3 h4 h5 h6
  go_enter Tryd.func9, Tryd.ntmps9
  go_upto_region 1 with (fail)
  rw [← HW.out]
  go_wp2_with fail
  go_ret
  exact ⟨ret_bool (by rw [hm.out]; rfl), hb0⟩
theorem r7is_at (N : Nat) (hN : N < 18446744073709551616) (d : Nat) : ∀ (f : Pf) (u : Value) (ps : List Pd) (t : Int) (w : World), PsAt d w u ps → (t = 0 ∨ t = 1 ∨ t = 2) → Calls Tryd.prog 9 #[.agg #[.int .i64 f.k, .int .i64 f.u, .int .i64 f.o, .int .i64 f.a.k, .int .i64 f.a.t, .int .i64 f.a.c, .bool f.a.z, .int .i64 f.a.n, .int .i64 f.b.k, .int .i64 f.b.t, .int .i64 f.b.c, .bool f.b.z, .int .i64 f.b.n, u], .int .u64 (N : Int), .int .i64 t] w fun e w' => e = .returned (.bool ((Rj.may N (.mk f ps)).get t)) ∧ Below w.heap.size w w' := by
  induction d using Nat.strongRecOn with
  | ind d ih =>
  intro f u ps t w hu ht
  rcases ht with rfl | rfl | rfl
  · exact r7is_0 d N hN ih f u ps w hu
  · exact r7is_1 d N hN ih f u ps w hu
  · exact r7is_2 d N hN ih f u ps w hu
theorem r7rejects_any (d N : Nat) (hN : N < 18446744073709551616) (u : Value) (ps : List Pd) (w : World) (hu : PsAt d w u ps) :
    Calls Tryd.prog 11 #[u, .int .u64 (N : Int)] w fun e w' => e = .returned (.bool (Rj.rejects N ps)) ∧ Below w.heap.size w w' := by
  have cs := r7many_22 d N (fun e _ => r7is_at N hN e) u ps w hu
  rw [M3.get_2] at cs
  unfold Rj.rejects
  generalize (Rj.andM (ps.map (Rj.may N))).2.2 = r at cs ⊢
  obtain ⟨A, c, rfl, hl⟩ := hu.form
  clear hu hl
  go_enter Tryd.func11, Tryd.ntmps11
  go_wp2_with fail
  refine cs.mono ?_
  rintro e w2 ⟨rfl, hb2⟩
  clear cs
  go_wp2_with fail
  go_ret
  exact ⟨rfl, hb2⟩
end Go.Proofs.YtpdgbfeciacbdaaDoor
