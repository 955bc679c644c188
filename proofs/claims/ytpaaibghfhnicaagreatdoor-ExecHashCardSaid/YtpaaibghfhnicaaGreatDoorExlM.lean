/-
  THE LAW's tree with Hash in some of its operators.
-/
import Derived.Test.YtpaaibghfhnicaaGreatDoorExhM
import Derived.Test.YtpaaibghfhnicaaGreatDoorGTreeA
import Derived.Test.YtpaaibghfhnicaaGreatDoorGTreeB
import Derived.Test.YtpaaibghfhnicaaGreatDoorExbM
import Derived.Deep.RegionLaw
namespace Go.Proofs.YtpaaibghfhnicaaGreatDoor
open Go.RowKit Go.Sort
set_option maxHeartbeats 6400000

theorem below_alloc17 {w W : World} {B : Nat} (h : Below B w W) (hB : B ≤ w.heap.size) (o : Obj) : Below B w (W.alloc o) := h.alloc (Nat.le_trans hB h.size) o
/-- what hashed hands back -/
def HashedIs (T : Nat → Prop) (w : World) (a : Tr) (b : Nat) (v : Value) (E : Ending) (w' : World) : Prop :=
  ∃ A n c, E = .returned (.agg #[.int .i64 a.k, .int .i64 a.t, .slice A n c, v, .bool (Ex.hashed b a).h]) ∧ (∃ d, TsOn (fun k => T k ∨ w.heap.size ≤ k) d w' (.slice A n c) (Ex.hashed b a).ks) ∧ Below w.heap.size w w'
theorem two_kids {T : Nat → Prop} {d e p q : Nat} {w : World} {g c : Nat} {x y : Tr} {u v u' v' : Value} (hT : T g) (hg : g < w.heap.size) (hx : TrCell w ⟨g, 0, none⟩ x u v) (hy : TrCell w ⟨g, 5, none⟩ y u' v') (h1 : PsOn T p w v x.cs) (h2 : TsOn T d w u x.ks) (h3 : PsOn T q w v' y.cs) (h4 : TsOn T e w u' y.ks) (hc : 2 ≤ c) :
    TsOn T (max d e + 1) w (.slice (some ⟨g, 0, none⟩) 2 c) [x, y] := by
  refine ⟨some ⟨g, 0, none⟩, c, rfl, ⟨by simp, hc⟩, fun j a hj => ?_⟩
  match j, hj with
  | 0, hj =>
    cases hj
    exact ⟨g, 0, none, u, v, rfl, hT, hg, by rw [Nat.zero_mul, add_zero9]; exact hx, ⟨p, h1⟩, h2.mono (Nat.le_max_left _ _)⟩
  | 1, hj =>
    cases hj
    exact ⟨g, 0, none, u', v', rfl, hT, hg, by rw [show (⟨g, 0, none⟩ : Addr).add (1 * 5) = ⟨g, 5, none⟩ from by unfold Addr.add; simp]; exact hy, ⟨q, h3⟩, h4.mono (Nat.le_max_right _ _)⟩
set_option maxRecDepth 100000 in
theorem hashed16_any (T : Nat → Prop) (cols : List Int) (dd : Nat) : ∀ (a : Tr) (u v : Value) (b : Nat) (w : World), TsOn T dd w u a.ks → (∃ A c, v = .slice A a.cs.length c) → Ck.Good cols a → b < 18446744073709551616 → (∀ k, T k → k < w.heap.size) →
    Calls Tryz.prog 18 #[.agg #[.int .i64 a.k, .int .i64 a.t, u, v, .bool a.h], .int .u64 (b : Int)] w (HashedIs T w a b v) := by
  induction dd using Nat.strongRecOn with
  | _ dd ih =>
  intro a u v b w hu hv hg hb64 hTl
  obtain ⟨A, c, rfl, _⟩ := hu.at_.form
  obtain ⟨A', c', rfl⟩ := hv
  obtain ⟨W1, hW1⟩ : ∃ W1, W1 = (w.alloc (Obj.cells #[.int .i64 a.k, .int .i64 a.t, .slice A a.ks.length c, .slice A' a.cs.length c', .bool a.h] 26)).alloc (Obj.cells #[.int .i64 0, .int .i64 0, .slice none 0 0, .slice none 0 0, .bool false] 26) := ⟨_, rfl⟩
  obtain ⟨l0, l1, hb1⟩ := box_two (cs := [.int .i64 a.k, .int .i64 a.t, .slice A a.ks.length c, .slice A' a.cs.length c', .bool a.h]) (ds := [.int .i64 0, .int .i64 0, .slice none 0 0, .slice none 0 0, .bool false]) hW1
  have hs1 : W1.heap.size = w.heap.size + 2 := by rw [hW1]; simp
  have HW := Lib.hid hW1
  have HB1 := Lib.hid hb1
  have HS1 := Lib.hid hs1
  have x0 := l0.cell (i := 0) rfl
  have x1 := l0.cell (i := 1) rfl
  have x2 := l0.cell (i := 2) rfl
  have x3 := l0.cell (i := 3) rfl
  have x4 := l0.cell (i := 4) rfl
  by_cases hk : a.k = 0
  · have HA := Lib.hid (Ex.hashed_leaf b hk)
    have z0 := l1.cell (i := 0) rfl
    have z1 := l1.cell (i := 1) rfl
    have z2 := l1.cell (i := 2) rfl
    have z3 := l1.cell (i := 3) rfl
    have z4 := l1.cell (i := 4) rfl
    have f0 := l1.free 0
    have f1 := l1.free 1
    have f2 := l1.free 2
    have f3 := l1.free 3
    have f4 := l1.free 4
    have HL1 := Lib.hid l1
    have HU := Lib.hid hu
    have hk2 : (a.k == 0) = true := by simpa using hk
    have hkk := Lib.hid hk
    clear hW1 hb1 hs1 l0 l1 hu hg hb64 ih hk hTl
    obtain ⟨ak, hak⟩ : ∃ z, z = a.k := ⟨_, rfl⟩
    obtain ⟨at_, hat⟩ : ∃ z, z = a.t := ⟨_, rfl⟩
    obtain ⟨ah, hah⟩ : ∃ z, z = a.h := ⟨_, rfl⟩
    have HEQ := Lib.hid (And.intro hak (And.intro hat hah))
    obtain ⟨kl, hkl⟩ : ∃ z, z = a.ks.length := ⟨_, rfl⟩
    obtain ⟨cl, hcl⟩ : ∃ z, z = a.cs.length := ⟨_, rfl⟩
    have HEL := Lib.hid (And.intro hkl hcl)
    rw [← hak] at x0 hk2
    rw [← hat] at x1
    rw [← hkl] at x2
    rw [← hcl] at x3
    rw [← hah] at x4
    rw [← hak, ← hat, ← hah, ← hkl, ← hcl] at HW ⊢
    clear hak hat hah hkl hcl
    go_enter Tryz.func18, Tryz.ntmps18
    go_upto_region 1 with (fail)
    rw [← HW.out]
    go_wp2_with fail
    obtain ⟨W6, hW6⟩ : ∃ W6, W6 = setCells W1 (w.heap.size + 1) 0 [.int .i64 ak, .int .i64 at_, .slice A kl c, .slice A' cl c', .bool ah] := ⟨_, rfl⟩
    simp only [setCells] at hW6
    rw [← hW6]
    change W6 = setCells W1 (w.heap.size + 1) 0 [.int .i64 ak, .int .i64 at_, .slice A kl c, .slice A' cl c', .bool ah] at hW6
    have q6 : Lies W6 (w.heap.size + 1) 26 [.int .i64 ak, .int .i64 at_, .slice A kl c, .slice A' cl c', .bool ah] := by rw [hW6]; exact HL1.out.sets _ 0
    have hb6 : Below w.heap.size w W6 := by rw [hW6]; exact Below.sets (Nat.le_succ _) _ _ HB1.out
    have y0 := q6.cell (i := 0) rfl
    have y1 := q6.cell (i := 1) rfl
    have y2 := q6.cell (i := 2) rfl
    have y3 := q6.cell (i := 3) rfl
    have y4 := q6.cell (i := 4) rfl
    clear x0 x1 x2 x3 x4 z0 z1 z2 z3 z4 f0 f1 f2 f3 f4 hW6
    refine bodyPost_ret (v := .agg #[.int .i64 ak, .int .i64 at_, .slice A kl c, .slice A' cl c', .bool ah]) (by simp [results, Tryz.results18, go_sem, y0, y1, y2, y3, y4]) rfl ?_
    refine ⟨A, kl, c, by rw [HA.out, HEQ.out.1, HEQ.out.2.1, HEQ.out.2.2], ?_, hb6⟩
    rw [HA.out, HEL.out.1]
    exact ⟨dd, HU.out.keep hb6.size fun k hk hlt => ⟨hb6.block k hlt, .inl hk⟩⟩
  · obtain ⟨x, y, hks, _⟩ := hg.op hk
    have HA := Lib.hid (Ex.hashed_op b hk hks)
    have gx := hg.kid (b := x) (by rw [hks]; simp)
    have gy := hg.kid (b := y) (by rw [hks]; simp)
    have hts : TsOn T dd w (.slice A ([x, y] : List Tr).length c) [x, y] := by rw [hks] at hu; exact hu
    have hl2 : a.ks.length = 2 := by rw [hks]; rfl
    rw [hl2] at HW l0 x2 ⊢
    obtain ⟨e6, b0, o0, s0, u6, v6, hlt6, rfl, hTb, hb0l, hq1, hq2, hc6, ⟨p6, hp6⟩, ht6⟩ := hts.one (j := 0) (a := x) rfl
    obtain ⟨e8, b0', o0', s0', u8, v8, hlt8, hA8, _, _, hq3, hq4, hc8, ⟨p8, hp8⟩, ht8⟩ := hts.one (j := 1) (a := y) rfl
    obtain ⟨rfl, rfl, rfl⟩ : b0 = b0' ∧ o0 = o0' ∧ s0 = s0' := by
      simp only [Option.some.injEq, Addr.mk.injEq] at hA8
      exact hA8
    clear hq1 hq2 hq3 hq4
    obtain ⟨B6, d6, rfl, _⟩ := ht6.at_.form
    obtain ⟨B7, d7, rfl, _⟩ := hp6.at_.form
    obtain ⟨B8, d8, rfl, _⟩ := ht8.at_.form
    obtain ⟨B9, d9, rfl, _⟩ := hp8.at_.form
    simp only [Nat.zero_mul, add_zero9] at hc6
    have hadd : (⟨b0, o0, s0⟩ : Addr).add (1 * 5) = ⟨b0, o0 + 5, none⟩ := by unfold Addr.add; simp
    rw [hadd] at hc8
    have hX := fun (W : World) (h : Below w.heap.size w W) => And.intro (hc6.below h hb0l) (And.intro (hp6.keep (T' := T) h.size fun k hk hlt => ⟨h.block k hlt, hk⟩) (ht6.keep (T' := T) h.size fun k hk hlt => ⟨h.block k hlt, hk⟩))
    have hY := fun (W : World) (h : Below w.heap.size w W) => And.intro (hc8.below h hb0l) (And.intro (hp8.keep (T' := T) h.size fun k hk hlt => ⟨h.block k hlt, hk⟩) (ht8.keep (T' := T) h.size fun k hk hlt => ⟨h.block k hlt, hk⟩))
    obtain ⟨m2, hm2⟩ : ∃ z, z = b % 2 := ⟨_, rfl⟩
    obtain ⟨b2, hb2⟩ : ∃ z, z = b / 2 := ⟨_, rfl⟩
    obtain ⟨b3, hb3⟩ : ∃ z, z = b / 3 := ⟨_, rfl⟩
    have hrem : ((b : Int)).tmod 2 = (m2 : Int) := by rw [hm2]; exact (Int.ofNat_tmod b 2).symm
    have hq2 : ((b : Int)).tdiv 2 = (b2 : Int) := by rw [hb2]; exact (Int.ofNat_tdiv b 2).symm
    have hq3 : ((b : Int)).tdiv 3 = (b3 : Int) := by rw [hb3]; exact (Int.ofNat_tdiv b 3).symm
    have hw2 : IntKind.u64.wrap (b2 : Int) = (b2 : Int) := by rw [IntKind.wrap_u64]; omega
    have hw3 : IntKind.u64.wrap (b3 : Int) = (b3 : Int) := by rw [IntKind.wrap_u64]; omega
    obtain ⟨hh, hhh⟩ : ∃ z : Bool, z = (b % 2 == 1) := ⟨_, rfl⟩
    have hmh : ((m2 : Int) == 1) = hh := by
      rw [hhh, hm2]
      rcases Nat.mod_two_eq_zero_or_one b with e | e <;> rw [e] <;> rfl
    obtain ⟨x', hx'⟩ : ∃ z, z = Ex.hashed b2 x := ⟨_, rfl⟩
    obtain ⟨y', hy'⟩ : ∃ z, z = Ex.hashed b3 y := ⟨_, rfl⟩
    have HA2 := Lib.hid (show Ex.hashed b a = .mk a.k a.t hh a.cs [x', y'] by rw [HA.out, hhh, hx', hy', hb2, hb3])
    have HXY := Lib.hid (show (x'.k = x.k ∧ x'.t = x.t ∧ x'.cs = x.cs) ∧ (y'.k = y.k ∧ y'.t = y.t ∧ y'.cs = y.cs) by rw [hx', hy']; exact ⟨Ex.hashed_same gx _, Ex.hashed_same gy _⟩)
    obtain ⟨W2, hW2⟩ : ∃ W2, W2 = W1.setCell ⟨w.heap.size, 4, none⟩ (.bool hh) := ⟨_, rfl⟩
    have l2 : Lies W2 w.heap.size 26 [.int .i64 a.k, .int .i64 a.t, .slice (some ⟨b0, o0, s0⟩) 2 c, .slice A' a.cs.length c', .bool hh] := by rw [hW2]; exact l0.set 4 _
    have l3 : Lies W2 (w.heap.size + 1) 26 [.int .i64 0, .int .i64 0, .slice none 0 0, .slice none 0 0, .bool false] := by rw [hW2]; exact l1.far (by show w.heap.size + 1 ≠ w.heap.size; omega) _
    have hb2' : Below w.heap.size w W2 := by rw [hW2]; exact hb1.setCell (Nat.le_refl _) _
    have CX := Lib.hid (fun W (h : Below W2.heap.size W2 W) => have hbw := below_join hb2' h; (ih e6 hlt6 x _ (.slice B7 x.cs.length d7) b2 W (hX W hbw).2.2 ⟨_, _, rfl⟩ gx (by omega) (fun k hk => Nat.lt_of_lt_of_le (hTl k hk) hbw.size)).mono fun e w' ho =>
      (show ∃ A3 n3 c3, e = Ending.returned (.agg #[.int .i64 x.k, .int .i64 x.t, .slice A3 n3 c3, .slice B7 x.cs.length d7, .bool x'.h]) ∧ Hid (∃ d, TsOn (fun k => T k ∨ W2.heap.size ≤ k) d w' (.slice A3 n3 c3) x'.ks) ∧ Hid (Below W.heap.size W w') ∧ Below W2.heap.size W2 w' from by
        obtain ⟨A3, n3, c3, rfl, h4, h6⟩ := ho
        rw [← hx'] at h4 ⊢
        exact ⟨A3, n3, c3, rfl, Lib.hid (h4.elim fun d h5 => ⟨d, h5.keep (Nat.le_refl _) fun k hk _ => ⟨rfl, hk.imp id (Nat.le_trans h.size)⟩⟩), Lib.hid h6, below_join h h6⟩))
    have CY := Lib.hid (fun W (h : Below W2.heap.size W2 W) => have hbw := below_join hb2' h; (ih e8 hlt8 y _ (.slice B9 y.cs.length d9) b3 W (hY W hbw).2.2 ⟨_, _, rfl⟩ gy (by omega) (fun k hk => Nat.lt_of_lt_of_le (hTl k hk) hbw.size)).mono fun e w' ho =>
      (show ∃ A3 n3 c3, e = Ending.returned (.agg #[.int .i64 y.k, .int .i64 y.t, .slice A3 n3 c3, .slice B9 y.cs.length d9, .bool y'.h]) ∧ Hid (∃ d, TsOn (fun k => T k ∨ W2.heap.size ≤ k) d w' (.slice A3 n3 c3) y'.ks) ∧ Hid (Below W.heap.size W w') ∧ Below W2.heap.size W2 w' from by
        obtain ⟨A3, n3, c3, rfl, h4, h6⟩ := ho
        rw [← hy'] at h4 ⊢
        exact ⟨A3, n3, c3, rfl, Lib.hid (h4.elim fun d h5 => ⟨d, h5.keep (Nat.le_refl _) fun k hk _ => ⟨rfl, hk.imp id (Nat.le_trans h.size)⟩⟩), Lib.hid h6, below_join h h6⟩))
    have KK := Lib.hid (fun W (h : Below W2.heap.size W2 W) => (show (W.cell? ⟨w.heap.size, 2, none⟩ = some (.slice (some ⟨b0, o0, s0⟩) 2 c) ∧ W.frozen? ⟨w.heap.size, 2, none⟩ = false ∧ W.cell? (⟨b0, o0, s0⟩ : Addr) = some (.int .i64 x.k) ∧ W.cell? ⟨(⟨b0, o0, s0⟩ : Addr).block, (⟨b0, o0, s0⟩ : Addr).off + 1, none⟩ = some (.int .i64 x.t) ∧ W.cell? ⟨(⟨b0, o0, s0⟩ : Addr).block, (⟨b0, o0, s0⟩ : Addr).off + 2, none⟩ = some (.slice B6 x.ks.length d6) ∧ W.cell? ⟨(⟨b0, o0, s0⟩ : Addr).block, (⟨b0, o0, s0⟩ : Addr).off + 3, none⟩ = some (.slice B7 x.cs.length d7) ∧ W.cell? ⟨(⟨b0, o0, s0⟩ : Addr).block, (⟨b0, o0, s0⟩ : Addr).off + 4, none⟩ = some (.bool x.h) ∧ W.cell? ⟨b0, o0 + 5, none⟩ = some (.int .i64 y.k) ∧ W.cell? ⟨b0, o0 + 5 + 1, none⟩ = some (.int .i64 y.t) ∧ W.cell? ⟨b0, o0 + 5 + 2, none⟩ = some (.slice B8 y.ks.length d8) ∧ W.cell? ⟨b0, o0 + 5 + 3, none⟩ = some (.slice B9 y.cs.length d9) ∧ W.cell? ⟨b0, o0 + 5 + 4, none⟩ = some (.bool y.h)) ∧ Below W2.heap.size W2 W from
      have hbw := below_join hb2' h
      have px := (hX W hbw).1
      have py := (hY W hbw).1
      have l := l2.below h l2.lt
      ⟨⟨l.cell (i := 2) rfl, l.free 2, px.c0, px.c1, px.c2, px.c3, px.c4, py.c0, py.c1, py.c2, py.c3, py.c4⟩, h⟩))
    have HW2 := Lib.hid hW2
    have f4 := l0.free 4
    have hk2 : (a.k == 0) = false := by simpa using hk
    have i0 : (0 : Int) ≤ 0 := by omega
    have HBS := Lib.hid (And.intro hm2 (And.intro hb2 hb3))
    have HFIN := Lib.hid (fun (wA wB : World) (A3 A4 : Option Addr) (n3 c3 n4 c4 : Nat) (hTA : Hid (∃ d, TsOn (fun k => T k ∨ W2.heap.size ≤ k) d wA (.slice A3 n3 c3) x'.ks)) (hSA : Below W2.heap.size W2 wA) (hTB : Hid (∃ d, TsOn (fun k => T k ∨ W2.heap.size ≤ k) d wB (.slice A4 n4 c4) y'.ks)) (hBB : Hid (Below wA.heap.size wA wB)) (hSB : Below W2.heap.size W2 wB) =>
      (show (∃ d, TsOn (fun k => T k ∨ w.heap.size + 2 ≤ k) d ((wB.alloc (Obj.cells #[.int .i64 x.k, .int .i64 x.t, .slice A3 n3 c3, .slice B7 x.cs.length d7, .bool x'.h, .int .i64 y.k, .int .i64 y.t, .slice A4 n4 c4, .slice B9 y.cs.length d9, .bool y'.h] 26)).setCell ⟨w.heap.size, 2, none⟩ (.slice (some ⟨wB.heap.size, 0, none⟩) 2 2)) (.slice (some ⟨wB.heap.size, 0, none⟩) 2 2) [x', y']) ∧
          Lies ((wB.alloc (Obj.cells #[.int .i64 x.k, .int .i64 x.t, .slice A3 n3 c3, .slice B7 x.cs.length d7, .bool x'.h, .int .i64 y.k, .int .i64 y.t, .slice A4 n4 c4, .slice B9 y.cs.length d9, .bool y'.h] 26)).setCell ⟨w.heap.size, 2, none⟩ (.slice (some ⟨wB.heap.size, 0, none⟩) 2 2)) w.heap.size 26 [.int .i64 a.k, .int .i64 a.t, .slice (some ⟨wB.heap.size, 0, none⟩) 2 2, .slice A' a.cs.length c', .bool hh] ∧
          Lies ((wB.alloc (Obj.cells #[.int .i64 x.k, .int .i64 x.t, .slice A3 n3 c3, .slice B7 x.cs.length d7, .bool x'.h, .int .i64 y.k, .int .i64 y.t, .slice A4 n4 c4, .slice B9 y.cs.length d9, .bool y'.h] 26)).setCell ⟨w.heap.size, 2, none⟩ (.slice (some ⟨wB.heap.size, 0, none⟩) 2 2)) (w.heap.size + 1) 26 [.int .i64 0, .int .i64 0, .slice none 0 0, .slice none 0 0, .bool false] ∧
          Below w.heap.size w ((wB.alloc (Obj.cells #[.int .i64 x.k, .int .i64 x.t, .slice A3 n3 c3, .slice B7 x.cs.length d7, .bool x'.h, .int .i64 y.k, .int .i64 y.t, .slice A4 n4 c4, .slice B9 y.cs.length d9, .bool y'.h] 26)).setCell ⟨w.heap.size, 2, none⟩ (.slice (some ⟨wB.heap.size, 0, none⟩) 2 2)) from by
        have hw2 : w.heap.size + 2 ≤ W2.heap.size := by rw [HW2.out]; have := HS1.out; simp; omega
        have hgB : w.heap.size ≠ wB.heap.size := by have := hSB.size; omega
        have lN := Lies.new wB 26 [.int .i64 x.k, .int .i64 x.t, .slice A3 n3 c3, .slice B7 x.cs.length d7, .bool x'.h, .int .i64 y.k, .int .i64 y.t, .slice A4 n4 c4, .slice B9 y.cs.length d9, .bool y'.h]
        have hb8 := below_new wB (Obj.cells #[.int .i64 x.k, .int .i64 x.t, .slice A3 n3 c3, .slice B7 x.cs.length d7, .bool x'.h, .int .i64 y.k, .int .i64 y.t, .slice A4 n4 c4, .slice B9 y.cs.length d9, .bool y'.h] 26)
        have l8 := ((l2.below hSB l2.lt).alloc (Obj.cells #[.int .i64 x.k, .int .i64 x.t, .slice A3 n3 c3, .slice B7 x.cs.length d7, .bool x'.h, .int .i64 y.k, .int .i64 y.t, .slice A4 n4 c4, .slice B9 y.cs.length d9, .bool y'.h] 26)).set 2 (.slice (some ⟨wB.heap.size, 0, none⟩) 2 2)
        have l9 := ((l3.below hSB l3.lt).alloc (Obj.cells #[.int .i64 x.k, .int .i64 x.t, .slice A3 n3 c3, .slice B7 x.cs.length d7, .bool x'.h, .int .i64 y.k, .int .i64 y.t, .slice A4 n4 c4, .slice B9 y.cs.length d9, .bool y'.h] 26)).far (p := ⟨w.heap.size, 2, none⟩) (by show w.heap.size + 1 ≠ w.heap.size; omega) (.slice (some ⟨wB.heap.size, 0, none⟩) 2 2)
        have hbw := below_join hb2' hSB
        have hbN := ((below_join hbw hb8).setCell (p := ⟨w.heap.size, 2, none⟩) (Nat.le_refl _) (.slice (some ⟨wB.heap.size, 0, none⟩) 2 2))
        have lN2 := lN.far (p := ⟨w.heap.size, 2, none⟩) (by exact fun e => hgB e.symm) (.slice (some ⟨wB.heap.size, 0, none⟩) 2 2)
        obtain ⟨⟨xk, xt, xc⟩, yk, yt, yc⟩ := HXY.out
        have kp : ∀ k, (T k ∨ W2.heap.size ≤ k) → k < wB.heap.size → ((wB.alloc (Obj.cells #[.int .i64 x.k, .int .i64 x.t, .slice A3 n3 c3, .slice B7 x.cs.length d7, .bool x'.h, .int .i64 y.k, .int .i64 y.t, .slice A4 n4 c4, .slice B9 y.cs.length d9, .bool y'.h] 26)).setCell ⟨w.heap.size, 2, none⟩ (.slice (some ⟨wB.heap.size, 0, none⟩) 2 2)).heap[k]? = wB.heap[k]? ∧ (T k ∨ w.heap.size + 2 ≤ k) := fun k hk hlt =>
          ⟨(Below.heap_setCell _ _ _ _ (by show k ≠ w.heap.size; rcases hk with hk | hk; exact Nat.ne_of_lt (hTl k hk); omega)).trans (hb8.block k hlt), hk.imp id (fun h => by omega)⟩
        obtain ⟨dA, tA⟩ := hTA.out
        obtain ⟨dB, tB⟩ := hTB.out
        have tA2 := (tA.keep (T' := fun k => T k ∨ W2.heap.size ≤ k) hBB.out.size fun k hk hlt => ⟨hBB.out.block k hlt, hk⟩).keep (T' := fun k => T k ∨ w.heap.size + 2 ≤ k) (by simp) kp
        have tB2 := tB.keep (T' := fun k => T k ∨ w.heap.size + 2 ≤ k) (by simp) kp
        have pX := hp6.keep (T' := fun k => T k ∨ w.heap.size + 2 ≤ k) hbN.size fun k hk hlt => ⟨hbN.block k hlt, .inl hk⟩
        have pY := hp8.keep (T' := fun k => T k ∨ w.heap.size + 2 ≤ k) hbN.size fun k hk hlt => ⟨hbN.block k hlt, .inl hk⟩
        refine ⟨⟨_, two_kids (g := wB.heap.size) (u := .slice A3 n3 c3) (v := .slice B7 x.cs.length d7) (u' := .slice A4 n4 c4) (v' := .slice B9 y.cs.length d9) (.inr (by have := hSB.size; omega)) (by simp) ⟨by rw [xk]; exact lN2.cell (i := 0) rfl, by rw [xt]; exact lN2.cell (i := 1) rfl, lN2.cell (i := 2) rfl, lN2.cell (i := 3) rfl, lN2.cell (i := 4) rfl⟩ ⟨by rw [yk]; exact lN2.cell (i := 5) rfl, by rw [yt]; exact lN2.cell (i := 6) rfl, lN2.cell (i := 7) rfl, lN2.cell (i := 8) rfl, lN2.cell (i := 9) rfl⟩ (by rw [xc]; exact pX) tA2 (by rw [yc]; exact pY) tB2 (Nat.le_refl _)⟩, l8, l9, hbN⟩))
    have HTL := Lib.hid hTl
    clear hW1 hb1 hs1 l0 l1 hu hg hb64 ih hk hX hY hts hks hl2 gx gy l2 l3 hb2' hW2 hA8 hadd hb0l hhh hx' hy' hm2 hb2 hb3 hTl hTb hc6 hc8 hp6 hp8 ht6 ht8
    obtain ⟨ak, hak⟩ : ∃ z, z = a.k := ⟨_, rfl⟩
    obtain ⟨at_, hat⟩ : ∃ z, z = a.t := ⟨_, rfl⟩
    obtain ⟨ah, hah⟩ : ∃ z, z = a.h := ⟨_, rfl⟩
    have HEQ := Lib.hid (And.intro hak (And.intro hat hah))
    obtain ⟨cl, hcl⟩ : ∃ z, z = a.cs.length := ⟨_, rfl⟩
    rw [← hak] at x0 hk2
    rw [← hat] at x1
    rw [← hcl] at x3
    rw [← hah] at x4
    rw [← hak, ← hat, ← hah, ← hcl] at HW ⊢
    rw [← hak, ← hat, ← hcl] at HFIN
    clear hak hat hah hcl
    go_enter Tryz.func18, Tryz.ntmps18
    go_upto_region 1 with (fail)
    rw [← HW.out]
    go_upto_region 4 with (fail)
    rw [← HW2.out]
    have hS := Below.refl W2.heap.size W2
    clear x0 x1 x2 x3 x4 f4
    obtain ⟨⟨k0, k1, k2, k3, k4, k5, k6, k7, k8, k9, k10, k11⟩, _⟩ := KK.out W2.drew (Below.drew hS)
    go_region_with (first
        | (go_at_call 18; (with_reducible refine (CX.out _ (by repeat first | assumption | refine Below.drew ?_)).mono ?_); rintro e wA ⟨A3, n3, c3, rfl, hTA, hBA, hSA⟩; obtain ⟨⟨k0, k1, k2, k3, k4, k5, k6, k7, k8, k9, k10, k11⟩, _⟩ := KK.out wA hSA)
        | (go_at_call 18; (with_reducible refine (CY.out _ (by repeat first | assumption | refine Below.drew ?_)).mono ?_); rintro e wB ⟨A4, n4, c4, rfl, hTB, hBB, hSB⟩; obtain ⟨⟨k0, k1, k2, k3, k4, k5, k6, k7, k8, k9, k10, k11⟩, _⟩ := KK.out wB hSB; have kA := (fun o => (KK.out (wB.alloc o) (below_alloc17 hSB (Nat.le_refl _) o)).1.1); have kF := (fun o => (KK.out (wB.alloc o) (below_alloc17 hSB (Nat.le_refl _) o)).1.2.1)))
    all_goals
      have hf := HFIN.out wA wB A3 A4 n3 c3 n4 c4 hTA hSA hTB hBB hSB
      clear k0 k1 k2 k3 k4 k5 k6 k7 k8 k9 k10 k11 kA kF
      generalize ((wB.alloc (Obj.cells #[.int .i64 x.k, .int .i64 x.t, .slice A3 n3 c3, .slice B7 x.cs.length d7, .bool x'.h, .int .i64 y.k, .int .i64 y.t, .slice A4 n4 c4, .slice B9 y.cs.length d9, .bool y'.h] 26)).setCell ⟨w.heap.size, 2, none⟩ (.slice (some ⟨wB.heap.size, 0, none⟩) 2 2)) = W8 at hf ⊢
      obtain ⟨hts8, l8, l9, hb8⟩ := hf
      have x0 := l8.cell (i := 0) rfl
      have x1 := l8.cell (i := 1) rfl
      have x2 := l8.cell (i := 2) rfl
      have x3 := l8.cell (i := 3) rfl
      have x4 := l8.cell (i := 4) rfl
      have z0 := l9.cell (i := 0) rfl
      have z1 := l9.cell (i := 1) rfl
      have z2 := l9.cell (i := 2) rfl
      have z3 := l9.cell (i := 3) rfl
      have z4 := l9.cell (i := 4) rfl
      have f0 := l9.free 0
      have f1 := l9.free 1
      have f2 := l9.free 2
      have f3 := l9.free 3
      have f4 := l9.free 4
      have HL9 := Lib.hid l9
      have HB8 := Lib.hid hb8
      have HT8 := Lib.hid hts8
      clear l8 l9 hb8 hts8 hTA hSA hTB hBB hSB
      go_wp2_with fail
      obtain ⟨W6, hW6⟩ : ∃ W6, W6 = setCells W8 (w.heap.size + 1) 0 [.int .i64 ak, .int .i64 at_, .slice (some ⟨wB.heap.size, 0, none⟩) 2 2, .slice A' cl c', .bool hh] := ⟨_, rfl⟩
      simp only [setCells] at hW6
      rw [← hW6]
      change W6 = setCells W8 (w.heap.size + 1) 0 [.int .i64 ak, .int .i64 at_, .slice (some ⟨wB.heap.size, 0, none⟩) 2 2, .slice A' cl c', .bool hh] at hW6
      have q6 : Lies W6 (w.heap.size + 1) 26 [.int .i64 ak, .int .i64 at_, .slice (some ⟨wB.heap.size, 0, none⟩) 2 2, .slice A' cl c', .bool hh] := by rw [hW6]; exact HL9.out.sets _ 0
      have hb6 : Below w.heap.size w W6 := by rw [hW6]; exact Below.sets (Nat.le_succ _) _ _ HB8.out
      have ht6 : ∃ d, TsOn (fun k => T k ∨ w.heap.size ≤ k) d W6 (.slice (some ⟨wB.heap.size, 0, none⟩) 2 2) [x', y'] := by
        obtain ⟨d, h⟩ := HT8.out
        refine ⟨d, h.keep (by rw [hW6]; exact (Below.sets (Nat.zero_le _) _ 0 (Below.refl 0 W8)).size) fun k hk hlt => ⟨by rw [hW6]; exact setCells_other _ _ (by rcases hk with hk | hk; have := HTL.out k hk; omega; omega) _ _ _, hk.imp id (fun h => by omega)⟩⟩
      have y0 := q6.cell (i := 0) rfl
      have y1 := q6.cell (i := 1) rfl
      have y2 := q6.cell (i := 2) rfl
      have y3 := q6.cell (i := 3) rfl
      have y4 := q6.cell (i := 4) rfl
      clear x0 x1 x2 x3 x4 z0 z1 z2 z3 z4 f0 f1 f2 f3 f4 hW6
      refine bodyPost_ret (v := .agg #[.int .i64 ak, .int .i64 at_, .slice (some ⟨wB.heap.size, 0, none⟩) 2 2, .slice A' cl c', .bool hh]) (by simp [results, Tryz.results18, go_sem, y0, y1, y2, y3, y4]) rfl ?_
      refine ⟨some ⟨wB.heap.size, 0, none⟩, 2, 2, by rw [HA2.out, HEQ.out.1, HEQ.out.2.1]; rfl, ?_, hb6⟩
      rw [HA2.out]
      exact ht6
end Go.Proofs.YtpaaibghfhnicaaGreatDoor
