/-
  THE CONTRACTS OF THE DOCUMENT's ANSWERS OF LAYER 7: null for sure; parts gone through; what one may be.
-/
import Derived.Test.YtpdgbfeciacbdaaDoorGPlain
import Derived.Test.YtpdgbfeciacbdaaDoorGPred
import Derived.Test.YtpdgbfeciacbdaaDoorGBase
import Derived.Deep.Cut
namespace Go.Proofs.YtpdgbfeciacbdaaDoor
open Go.RowKit Go.Sort
set_option maxHeartbeats 3200000

theorem r7sure_any (k t c : Int) (z : Bool) (n : Int) (N : Nat) (w : World) (hN : N < 18446744073709551616) :
    Calls Tryd.prog 25 #[.agg #[.int .i64 k, .int .i64 t, .int .i64 c, .bool z, .int .i64 n], .int .u64 (N : Int)] w fun e w' => e = .returned (.bool (Rj.sure ⟨k, t, c, z, n⟩ N)) ∧ Below w.heap.size w w' := by
  obtain ⟨W0, hW0⟩ : ∃ W0, W0 = w.alloc (Obj.cells #[.int .i64 k, .int .i64 t, .int .i64 c, .bool z, .int .i64 n] 31) := ⟨_, rfl⟩
  obtain ⟨l0, hb0⟩ := box_one (cs := [.int .i64 k, .int .i64 t, .int .i64 c, .bool z, .int .i64 n]) hW0
  have ch := fun w => rhas_any (N : Int) t w (U64.of hN)
  rw [Int.toNat_natCast] at ch
  have HW := Lib.hid hW0
  have z0 := l0.cell (i := 0) rfl
  have z1 := l0.cell (i := 1) rfl
  have z3 := l0.cell (i := 3) rfl
  clear hW0 l0
  have hs : Rj.sure ⟨k, t, c, z, n⟩ N = ((k == 1 && St.hasB N t) || (k != 1 && z)) := rfl
  rw [hs]
  clear hs
  by_cases hk : k = 1
  · have e1 : (k == 1) = true := by simpa using hk
    have e2 : (k != 1) = false := by simp [hk]
    rw [e1, e2]
    generalize St.hasB N t = r at ch ⊢
    clear hk
    cases r
    · go_enter Tryd.func25, Tryd.ntmps25
      go_upto_region 1 with (fail)
      rw [← HW.out]
      go_wp2_with (first | (with_reducible refine (ch _).mono ?_; rintro e w2 ⟨rfl, rfl⟩))
      go_ret
      exact ⟨rfl, hb0⟩
    · go_enter Tryd.func25, Tryd.ntmps25
      go_upto_region 1 with (fail)
      rw [← HW.out]
      go_wp2_with (first | (with_reducible refine (ch _).mono ?_; rintro e w2 ⟨rfl, rfl⟩))
      go_ret
      exact ⟨rfl, hb0⟩
  · have e1 : (k == 1) = false := by simpa using hk
    have e2 : (k != 1) = true := by simpa using hk
    rw [e1, e2]
    clear hk ch
    go_enter Tryd.func25, Tryd.ntmps25
    go_upto_region 1 with (fail)
    rw [← HW.out]
    go_wp2_with fail
    go_ret
    exact ⟨ret_bool (by simp), hb0⟩
set_option maxRecDepth 100000 in
theorem r7some_of (d N : Nat) (ih : ∀ e, e < d → ∀ (f : Pf) (u : Value) (ps : List Pd) (t : Int) (w : World), PsAt e w u ps → (t = 0 ∨ t = 1 ∨ t = 2) → Calls Tryd.prog 9 #[.agg #[.int .i64 f.k, .int .i64 f.u, .int .i64 f.o, .int .i64 f.a.k, .int .i64 f.a.t, .int .i64 f.a.c, .bool f.a.z, .int .i64 f.a.n, .int .i64 f.b.k, .int .i64 f.b.t, .int .i64 f.b.c, .bool f.b.z, .int .i64 f.b.n, u], .int .u64 (N : Int), .int .i64 t] w fun e w' => e = .returned (.bool ((Rj.may N (.mk f ps)).get t)) ∧ Below w.heap.size w w') (u : Value) (ps : List Pd) (t : Int) (w : World) (hu : PsAt d w u ps) (ht : t = 0 ∨ t = 1 ∨ t = 2) :
    Calls Tryd.prog 43 #[u, .int .u64 (N : Int), .int .i64 t] w fun e w' => e = .returned (.bool (ps.any fun p => (Rj.may N p).get t)) ∧ Below w.heap.size w w' := by
  obtain ⟨A, c, rfl, hl⟩ := hu.form
  have HU := Lib.hid hu
  have IH := Lib.hid ih
  obtain ⟨n, hn⟩ : ∃ n, n = ps.length := ⟨_, rfl⟩
  rw [← hn] at hl HU ⊢
  have HN := Lib.hid hn
  clear hn hu ih
  go_enter Tryd.func43, Tryd.ntmps43
  go_wp2_with fail
  go_loopw [7] (fun i wr => ∃ q : Nat, q ≤ n ∧ i = .int .i64 q ∧ Hid (((ps.take q).any fun p => (Rj.may N p).get t) = false) ∧ Below w.heap.size w wr) (fun i _ => n - (intOf i).toNat)
  case atStart => exact ⟨0, Nat.zero_le _, rfl, Lib.hid (by simp), Below.refl _ _⟩
  case round =>
    obtain ⟨q, hq, rfl, hno, hb⟩ := hrel
    by_cases hlt : q < n
    · obtain ⟨p, gp⟩ : ∃ p, ps[q]? = some p := ⟨ps[q]'(by have := HN.out; omega), List.getElem?_eq_getElem _⟩
      have hu := HU.out
      rw [HN.out] at hu
      obtain ⟨e, b', o, s, v, he, rfl, hblt, hx⟩ := hu.at_ gp
      obtain ⟨hcell, _⟩ := hx wr hb
      have HX := Lib.hid hx
      have HE := Lib.hid he
      have GP := Lib.hid gp
      have i1 : (0 : Int) ≤ (q : Int) := by omega
      have i2 : (q : Int) < (n : Int) := by omega
      have c1 := IH.out e HE.out p.f v p.ps t wr (HX.out _ hb).2 ht
      rw [Rj.may_mk] at c1
      obtain ⟨r, hr⟩ : ∃ r, r = (Rj.may N p).get t := ⟨_, rfl⟩
      rw [← hr] at c1
      have HR := Lib.hid hr
      clear hr
      obtain ⟨x0, x1, x2, x3, x4, x5, x6, x7, x8, x9, x10, x11, x12, x13⟩ := hcell
      clear gp hu hx hblt he
      go_wp2_with fail
      refine c1.mono ?_
      rintro e2 w2 ⟨rfl, hb2⟩
      have hbz := below_join hb hb2
      clear c1 hb2 hb x0 x1 x2 x3 x4 x5 x6 x7 x8 x9 x10 x11 x12 x13
      cases r
      · have hs2 : Hid (((ps.take (q + 1)).any fun p => (Rj.may N p).get t) = false) := Lib.hid (by rw [List.take_add_one, GP.out, List.any_append, hno.out]; simp [← HR.out])
        go_wp2_with fail
        go_roundw
        case rel => exact ⟨q + 1, by omega, by go_num, hs2, hbz⟩
        case measure => simp [intOf]; omega
      · have he : Hid ((ps.any fun p => (Rj.may N p).get t) = true) := Lib.hid (List.any_eq_true.2 ⟨p, List.mem_of_getElem? GP.out, HR.out.symm⟩)
        go_wp2_with fail
        go_ret
        exact ⟨ret_bool he.out.symm, hbz⟩
    · have he : Hid ((ps.any fun p => (Rj.may N p).get t) = false) := Lib.hid (by rw [← hno.out, List.take_of_length_le (by have := HN.out; omega)])
      go_wp2_with fail
      go_ret
      exact ⟨ret_bool he.out.symm, hb⟩
set_option maxRecDepth 100000 in
theorem r7every_of (d N : Nat) (ih : ∀ e, e < d → ∀ (f : Pf) (u : Value) (ps : List Pd) (t : Int) (w : World), PsAt e w u ps → (t = 0 ∨ t = 1 ∨ t = 2) → Calls Tryd.prog 9 #[.agg #[.int .i64 f.k, .int .i64 f.u, .int .i64 f.o, .int .i64 f.a.k, .int .i64 f.a.t, .int .i64 f.a.c, .bool f.a.z, .int .i64 f.a.n, .int .i64 f.b.k, .int .i64 f.b.t, .int .i64 f.b.c, .bool f.b.z, .int .i64 f.b.n, u], .int .u64 (N : Int), .int .i64 t] w fun e w' => e = .returned (.bool ((Rj.may N (.mk f ps)).get t)) ∧ Below w.heap.size w w') (u : Value) (ps : List Pd) (t y : Int) (w : World) (hu : PsAt d w u ps) (ht : t = 0 ∨ t = 1 ∨ t = 2) (hy : y = 0 ∨ y = 1 ∨ y = 2) :
    Calls Tryd.prog 42 #[u, .int .u64 (N : Int), .int .i64 t, .int .i64 y] w fun e w' => e = .returned (.bool (ps.all fun p => (Rj.may N p).get t || (Rj.may N p).get y)) ∧ Below w.heap.size w w' := by
  obtain ⟨A, c, rfl, hl⟩ := hu.form
  have HU := Lib.hid hu
  have IH := Lib.hid ih
  obtain ⟨n, hn⟩ : ∃ n, n = ps.length := ⟨_, rfl⟩
  rw [← hn] at hl HU ⊢
  have HN := Lib.hid hn
  clear hn hu ih
  go_enter Tryd.func42, Tryd.ntmps42
  go_wp2_with fail
  go_loopw [9] (fun i wr => ∃ q : Nat, q ≤ n ∧ i = .int .i64 q ∧ Hid (((ps.take q).all fun p => (Rj.may N p).get t || (Rj.may N p).get y) = true) ∧ Below w.heap.size w wr) (fun i _ => n - (intOf i).toNat)
  case atStart => exact ⟨0, Nat.zero_le _, rfl, Lib.hid (by simp), Below.refl _ _⟩
  case round =>
    obtain ⟨q, hq, rfl, hno, hb⟩ := hrel
    by_cases hlt : q < n
    · obtain ⟨p, gp⟩ : ∃ p, ps[q]? = some p := ⟨ps[q]'(by have := HN.out; omega), List.getElem?_eq_getElem _⟩
      have hu := HU.out
      rw [HN.out] at hu
      obtain ⟨e, b', o, s, v, he, rfl, hblt, hx⟩ := hu.at_ gp
      obtain ⟨hcell, _⟩ := hx wr hb
      have HX := Lib.hid hx
      have HE := Lib.hid he
      have GP := Lib.hid gp
      have i1 : (0 : Int) ≤ (q : Int) := by omega
      have i2 : (q : Int) < (n : Int) := by omega
      have c1 := IH.out e HE.out p.f v p.ps t wr (HX.out _ hb).2 ht
      rw [Rj.may_mk] at c1
      obtain ⟨r, hr⟩ : ∃ r, r = (Rj.may N p).get t := ⟨_, rfl⟩
      rw [← hr] at c1
      have HR := Lib.hid hr
      obtain ⟨r2, hr2⟩ : ∃ r, r = (Rj.may N p).get y := ⟨_, rfl⟩
      have HR2 := Lib.hid hr2
      clear hr hr2
      obtain ⟨x0, x1, x2, x3, x4, x5, x6, x7, x8, x9, x10, x11, x12, x13⟩ := hcell
      clear gp hu hx hblt he
      go_wp2_with fail
      refine c1.mono ?_
      rintro e2 w2 ⟨rfl, hb2⟩
      have hb3 := below_join hb hb2
      clear c1 hb2 hb x0 x1 x2 x3 x4 x5 x6 x7 x8 x9 x10 x11 x12 x13
      cases r
      · obtain ⟨hcell, _⟩ := HX.out w2 hb3
        have c2 := IH.out e HE.out p.f v p.ps y w2 (HX.out _ hb3).2 hy
        rw [Rj.may_mk, ← HR2.out] at c2
        obtain ⟨x0, x1, x2, x3, x4, x5, x6, x7, x8, x9, x10, x11, x12, x13⟩ := hcell
        go_wp2_with fail
        refine c2.mono ?_
        rintro e3 w3 ⟨rfl, hb4⟩
        have hbz := below_join hb3 hb4
        clear c2 hb4 hb3 x0 x1 x2 x3 x4 x5 x6 x7 x8 x9 x10 x11 x12 x13
        cases r2
        · have he : Hid ((ps.all fun p => (Rj.may N p).get t || (Rj.may N p).get y) = false) := Lib.hid (by
            rw [Bool.eq_false_iff]
            intro hc
            have := List.all_eq_true.1 hc p (List.mem_of_getElem? GP.out)
            rw [← HR.out, ← HR2.out] at this
            exact absurd this (by decide))
          go_wp2_with fail
          go_ret
          exact ⟨ret_bool he.out.symm, hbz⟩
        · have hs2 : Hid (((ps.take (q + 1)).all fun p => (Rj.may N p).get t || (Rj.may N p).get y) = true) := Lib.hid (by rw [List.take_add_one, GP.out, List.all_append, hno.out]; simp [← HR.out, ← HR2.out])
          go_wp2_with fail
          go_roundw
          case rel => exact ⟨q + 1, by omega, by go_num, hs2, hbz⟩
          case measure => simp [intOf]; omega
      · have hbz := hb3
        have hs2 : Hid (((ps.take (q + 1)).all fun p => (Rj.may N p).get t || (Rj.may N p).get y) = true) := Lib.hid (by rw [List.take_add_one, GP.out, List.all_append, hno.out]; simp [← HR.out, ← HR2.out])
        go_wp2_with fail
        go_roundw
        case rel => exact ⟨q + 1, by omega, by go_num, hs2, hbz⟩
        case measure => simp [intOf]; omega
    · have he : Hid ((ps.all fun p => (Rj.may N p).get t || (Rj.may N p).get y) = true) := Lib.hid (by rw [← hno.out, List.take_of_length_le (by have := HN.out; omega)])
      go_wp2_with fail
      go_ret
      exact ⟨ret_bool he.out.symm, hb⟩
set_option maxRecDepth 100000 in
theorem r7all_of (d N : Nat) (ih : ∀ e, e < d → ∀ (f : Pf) (u : Value) (ps : List Pd) (t : Int) (w : World), PsAt e w u ps → (t = 0 ∨ t = 1 ∨ t = 2) → Calls Tryd.prog 9 #[.agg #[.int .i64 f.k, .int .i64 f.u, .int .i64 f.o, .int .i64 f.a.k, .int .i64 f.a.t, .int .i64 f.a.c, .bool f.a.z, .int .i64 f.a.n, .int .i64 f.b.k, .int .i64 f.b.t, .int .i64 f.b.c, .bool f.b.z, .int .i64 f.b.n, u], .int .u64 (N : Int), .int .i64 t] w fun e w' => e = .returned (.bool ((Rj.may N (.mk f ps)).get t)) ∧ Below w.heap.size w w') (u : Value) (ps : List Pd) (w : World) (hu : PsAt d w u ps) :
    Calls Tryd.prog 41 #[u, .int .u64 (N : Int)] w fun e w' => e = .returned (.bool (ps.all fun p => (Rj.may N p).has)) ∧ Below w.heap.size w w' := by
  obtain ⟨A, c, rfl, hl⟩ := hu.form
  have HU := Lib.hid hu
  have IH := Lib.hid ih
  obtain ⟨n, hn⟩ : ∃ n, n = ps.length := ⟨_, rfl⟩
  rw [← hn] at hl HU ⊢
  have HN := Lib.hid hn
  clear hn hu ih
  go_enter Tryd.func41, Tryd.ntmps41
  go_wp2_with fail
  go_loopw [5] (fun i wr => ∃ q : Nat, q ≤ n ∧ i = .int .i64 q ∧ Hid (((ps.take q).all fun p => (Rj.may N p).has) = true) ∧ Below w.heap.size w wr) (fun i _ => n - (intOf i).toNat)
  case atStart => exact ⟨0, Nat.zero_le _, rfl, Lib.hid (by simp), Below.refl _ _⟩
  case round =>
    obtain ⟨q, hq, rfl, hno, hb⟩ := hrel
    by_cases hlt : q < n
    · obtain ⟨p, gp⟩ : ∃ p, ps[q]? = some p := ⟨ps[q]'(by have := HN.out; omega), List.getElem?_eq_getElem _⟩
      have hu := HU.out
      rw [HN.out] at hu
      obtain ⟨e, b', o, s, v, he, rfl, hblt, hx⟩ := hu.at_ gp
      obtain ⟨hcell, _⟩ := hx wr hb
      have HX := Lib.hid hx
      have HE := Lib.hid he
      have GP := Lib.hid gp
      have i1 : (0 : Int) ≤ (q : Int) := by omega
      have i2 : (q : Int) < (n : Int) := by omega
      have c1 := IH.out e HE.out p.f v p.ps 0 wr (HX.out _ hb).2 (by decide)
      rw [Rj.may_mk] at c1
      obtain ⟨⟨m0, m1, m2⟩, hm⟩ : ∃ m : M3, m = Rj.may N p := ⟨_, rfl⟩
      rw [← hm, M3.get_0] at c1
      have HM := Lib.hid hm
      clear hm
      dsimp only at c1
      obtain ⟨x0, x1, x2, x3, x4, x5, x6, x7, x8, x9, x10, x11, x12, x13⟩ := hcell
      clear gp hu hx hblt he
      go_wp2_with fail
      refine c1.mono ?_
      rintro e2 w2 ⟨rfl, hb2⟩
      have hb3 := below_join hb hb2
      clear c1 hb2 hb x0 x1 x2 x3 x4 x5 x6 x7 x8 x9 x10 x11 x12 x13
      cases m0
      · obtain ⟨hcell, _⟩ := HX.out w2 hb3
        have c2 := IH.out e HE.out p.f v p.ps 1 w2 (HX.out _ hb3).2 (by decide)
        rw [Rj.may_mk, ← HM.out, M3.get_1] at c2
        dsimp only at c2
        obtain ⟨x0, x1, x2, x3, x4, x5, x6, x7, x8, x9, x10, x11, x12, x13⟩ := hcell
        go_wp2_with fail
        refine c2.mono ?_
        rintro e3 w3 ⟨rfl, hc1⟩
        have hb4 := below_join hb3 hc1
        clear c2 hc1 x0 x1 x2 x3 x4 x5 x6 x7 x8 x9 x10 x11 x12 x13
        cases m1
        · obtain ⟨hcell, _⟩ := HX.out w3 hb4
          have c3 := IH.out e HE.out p.f v p.ps 2 w3 (HX.out _ hb4).2 (by decide)
          rw [Rj.may_mk, ← HM.out, M3.get_2] at c3
          dsimp only at c3
          obtain ⟨x0, x1, x2, x3, x4, x5, x6, x7, x8, x9, x10, x11, x12, x13⟩ := hcell
          go_wp2_with fail
          refine c3.mono ?_
          rintro e4 w4 ⟨rfl, hc2⟩
          have hbz := below_join hb4 hc2
          clear c3 hc2 x0 x1 x2 x3 x4 x5 x6 x7 x8 x9 x10 x11 x12 x13
          cases m2
          · have he : Hid ((ps.all fun p => (Rj.may N p).has) = false) := Lib.hid (by
              rw [Bool.eq_false_iff]
              intro hc
              have := List.all_eq_true.1 hc p (List.mem_of_getElem? GP.out)
              rw [← HM.out] at this
              exact absurd this (by decide))
            go_wp2_with fail
            go_ret
            exact ⟨ret_bool he.out.symm, hbz⟩
          · have hs2 : Hid (((ps.take (q + 1)).all fun p => (Rj.may N p).has) = true) := Lib.hid (by rw [List.take_add_one, GP.out, List.all_append, hno.out]; simp [← HM.out, M3.has])
            go_wp2_with fail
            go_roundw
            case rel => exact ⟨q + 1, by omega, by go_num, hs2, hbz⟩
            case measure => simp [intOf]; omega
        · have hbz := hb4
          have hs2 : Hid (((ps.take (q + 1)).all fun p => (Rj.may N p).has) = true) := Lib.hid (by rw [List.take_add_one, GP.out, List.all_append, hno.out]; simp [← HM.out, M3.has])
          go_wp2_with fail
          go_roundw
          case rel => exact ⟨q + 1, by omega, by go_num, hs2, hbz⟩
          case measure => simp [intOf]; omega
      · have hbz := hb3
        have hs2 : Hid (((ps.take (q + 1)).all fun p => (Rj.may N p).has) = true) := Lib.hid (by rw [List.take_add_one, GP.out, List.all_append, hno.out]; simp [← HM.out, M3.has])
        go_wp2_with fail
        go_roundw
        case rel => exact ⟨q + 1, by omega, by go_num, hs2, hbz⟩
        case measure => simp [intOf]; omega
    · have he : Hid ((ps.all fun p => (Rj.may N p).has) = true) := Lib.hid (by rw [← hno.out, List.take_of_length_le (by have := HN.out; omega)])
      go_wp2_with fail
      go_ret
      exact ⟨ret_bool he.out.symm, hb⟩
end Go.Proofs.YtpdgbfeciacbdaaDoor
