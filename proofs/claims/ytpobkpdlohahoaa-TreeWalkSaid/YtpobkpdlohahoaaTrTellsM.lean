/-
  THE LAW TreeTells, walked.
-/
import Derived.Test.YtpobkpdlohahoaaTruM
import Derived.Test.YtpobkpdlohahoaaTrdM
namespace Go.Proofs.Ytpobkpdlohahoaa
open Go.RowKit Go.Sort
set_option maxHeartbeats 6400000

theorem fsame_own10 (f : Pf) : Pr.fsame f f = true := by
  unfold Pr.fsame; simp [Te.same]
theorem same_own10 : ∀ p : Pd, Pr.same p p = true := by
  intro p
  have key : ∀ n, ∀ p : Pd, Pr.size p ≤ n → Pr.same p p = true := by
    intro n
    induction n with
    | zero => intro p h; have := Pr.size_pos p; omega
    | succ n ih =>
      intro p h
      rw [Pr.same_at, fsame_own10, Bool.true_and, Pr.sames_iff rfl]
      intro j a b ha hb
      rw [ha] at hb
      cases hb
      exact ih a (by have h1 := Pr.sizes_at ha; have h2 := Pr.size_at p; omega)
  exact key _ p (Nat.le_refl _)
theorem Tr.same_own (a : Tr) : Tr.same a a = true := by
  refine Tr.ind (P := fun a => Tr.same a a = true) (fun a ih => ?_) a
  rw [Tr.same_at]
  have h1 : Pr.sames a.cs a.cs = true := (Pr.sames_iff rfl).2 fun j x y hx hy => by
    rw [hx] at hy
    cases hy
    exact same_own10 x
  have h2 : Tr.sames a.ks a.ks = true := (Tr.sames_iff rfl).2 fun j x y hx hy => by
    rw [hx] at hy
    cases hy
    exact ih x (List.mem_of_getElem? hx)
  simp [h1, h2]
theorem keep5 {W0 W : World} {g : Nat} {a : Tr} {u v : Value} (h : TrCell W0 ⟨g, 0, none⟩ a u v) (hg : g < W0.heap.size) (hb : Below W0.heap.size W0 W) :
    W.cell? ⟨g, 0, none⟩ = some (.int .i64 a.k) ∧ W.cell? ⟨g, 1, none⟩ = some (.int .i64 a.t) ∧ W.cell? ⟨g, 2, none⟩ = some u ∧ W.cell? ⟨g, 3, none⟩ = some v ∧ W.cell? ⟨g, 4, none⟩ = some (.bool a.h) := by
  obtain ⟨k0, k1, k2, k3, k4⟩ := h.below hb hg
  simp only [Nat.zero_add] at k0 k1 k2 k3 k4
  exact ⟨k0, k1, k2, k3, k4⟩
theorem r10same_of {W : World} {a b : Tr} {u x v y : Value} (ha : TrHang W (a, u, x)) (hb : TrHang W (b, v, y)) :
    Calls Try.prog 13 #[.agg #[.int .i64 a.k, .int .i64 a.t, u, x, .bool a.h], .agg #[.int .i64 b.k, .int .i64 b.t, v, y, .bool b.h]] W fun e w' => e = .returned (.bool (Tr.same a b)) ∧ Below W.heap.size W w' := by
  obtain ⟨⟨d, h1⟩, h2⟩ := ha
  obtain ⟨⟨e, h3⟩, h4⟩ := hb
  exact r10same_any (max d e) a b u x v y W (h1.mono (by omega)) h2 (h3.mono (by omega)) h4
theorem min301 (n : Nat) : (300 < min (n : Int) 301) ↔ 300 < n := by omega
set_option maxRecDepth 100000 in
theorem treetells_any (a b : Tr) (u x v y : Value) (w : World) (hu : ∃ d, TsAt d w u a.ks) (hx : PsSome w x a.cs) (hv : ∃ d, TsAt d w v b.ks) (hy : PsSome w y b.cs) :
    Calls Try.prog 3 #[.agg #[.int .i64 a.k, .int .i64 a.t, u, x, .bool a.h], .agg #[.int .i64 b.k, .int .i64 b.t, v, y, .bool b.h]] w fun e w' => e = .returned (.bool true) ∧ Below w.heap.size w w' := by
  have hha : TrHang w (a, u, x) := ⟨hu, hx⟩
  have hhb : TrHang w (b, v, y) := ⟨hv, hy⟩
  obtain ⟨A, c, rfl, _⟩ := hu.elim fun d h => h.form
  obtain ⟨A', c', rfl, _⟩ := hx.elim fun d h => h.form
  obtain ⟨B, e, rfl, _⟩ := hv.elim fun d h => h.form
  obtain ⟨B', e', rfl, _⟩ := hy.elim fun d h => h.form
  clear hu hx hv hy
  obtain ⟨W0, hW0⟩ : ∃ W0, W0 = (w.alloc (Obj.cells #[.int .i64 a.k, .int .i64 a.t, .slice A a.ks.length c, .slice A' a.cs.length c', .bool a.h] 25)).alloc (Obj.cells #[.int .i64 b.k, .int .i64 b.t, .slice B b.ks.length e, .slice B' b.cs.length e', .bool b.h] 25) := ⟨_, rfl⟩
  obtain ⟨l0, l1, hb0⟩ := box_two (cs := a.cells (.slice A a.ks.length c) (.slice A' a.cs.length c')) (ds := b.cells (.slice B b.ks.length e) (.slice B' b.cs.length e')) hW0
  have hsz0 : w.heap.size < W0.heap.size := l0.lt
  have hsz1 : w.heap.size + 1 < W0.heap.size := l1.lt
  have hha0 := hha.below hb0
  have hhb0 := hhb.below hb0
  have c1 := in_turn (W0 := W0) fun W h => (hha0.below h).1.elim fun d hd => r10size_any d a _ _ 301 W hd (hha0.below h).2 (by decide) (by decide)
  have c2 := in_turn (W0 := W0) fun W h => (hhb0.below h).1.elim fun d hd => r10size_any d b _ _ 301 W hd (hhb0.below h).2 (by decide) (by decide)
  have c3 := in_turn (W0 := W0) fun W h => awake10_any W
  obtain ⟨n, hn⟩ : ∃ n : Int, n = min (Tr.size a : Int) 301 := ⟨_, rfl⟩
  obtain ⟨m, hm⟩ : ∃ m : Int, m = min (Tr.size b : Int) 301 := ⟨_, rfl⟩
  rw [← hn] at c1
  rw [← hm] at c2
  have k0 := l0.tr
  have k1 := l1.tr
  have KK := Lib.hid (fun W (h : Below W0.heap.size W0 W) => (⟨⟨keep5 k0 hsz0 h, keep5 k1 hsz1 h⟩, h⟩ : (_ ∧ _) ∧ Below W0.heap.size W0 W))
  have HW := Lib.hid hW0
  have HB := Lib.hid hb0
  have C1 := Lib.hid c1
  have C2 := Lib.hid c2
  have C3 := Lib.hid c3
  have HA := Lib.hid hha0
  have HBB := Lib.hid hhb0
  clear c1 c2 c3 hha hhb hha0 hhb0 l0 l1 hb0 hsz0 hsz1
  obtain ⟨⟨⟨p0, p1, p2, p3, p4⟩, ⟨q0, q1, q2, q3, q4⟩⟩, _⟩ := KK.out W0 (Below.refl _ _)
  clear k0 k1 hW0
  rw [HW.out] at p0 p1 p2 p3 p4 q0 q1 q2 q3 q4
  go_enter Try.func3, Try.ntmps3
  go_wp2_with fail
  rw [← HW.out]
  refine (C1.out _ (Below.refl _ _)).mono ?_
  rintro e w1 ⟨rfl, hb1⟩
  clear p0 p1 p2 p3 p4 q0 q1 q2 q3 q4
  by_cases hs : 300 < Tr.size a
  · obtain rfl : n = 301 := by omega
    clear hn hm
    have ca := C3.out _ hb1
    go_wp2_with fail
    refine ca.mono ?_
    rintro e w2 ⟨rfl, hb2⟩
    go_wp2_with fail
    go_ret
    exact ⟨rfl, below_join HB.out hb2⟩
  · have hlt : ¬ 300 < n := by omega
    have hsa : Tr.size a ≤ 1000 := by omega
    clear hn
    obtain ⟨⟨⟨p0, p1, p2, p3, p4⟩, ⟨q0, q1, q2, q3, q4⟩⟩, _⟩ := KK.out w1 hb1
    have cb := C2.out _ hb1
    go_wp2_with fail
    refine cb.mono ?_
    rintro e w2 ⟨rfl, hb2⟩
    clear p0 p1 p2 p3 p4 q0 q1 q2 q3 q4 cb
    by_cases hs2 : 300 < Tr.size b
    · obtain rfl : m = 301 := by omega
      clear hm
      have ca := C3.out _ hb2
      go_wp2_with fail
      refine ca.mono ?_
      rintro e w3 ⟨rfl, hb3⟩
      go_wp2_with fail
      go_ret
      exact ⟨rfl, below_join HB.out hb3⟩
    · have hlt2 : ¬ 300 < m := by omega
      clear hm
      go_upto_region 3 with (fail)
      have D1 := in_turn (W0 := W0) fun W h => ttables_any a _ _ W (HA.out.below h).1 (HA.out.below h).2 hsa
      have D2 := in_turn (W0 := W0) fun W h => (HA.out.below h).1.elim fun d hd => r10tables_any d a _ _ W hd (HA.out.below h).2 hsa
      have D3 := in_turn (W0 := W0) fun W h => (HA.out.below h).1.elim fun d hd => tseen_any d a _ _ W hd (HA.out.below h).2
      have D4 := in_turn (W0 := W0) fun W h => (HA.out.below h).1.elim fun d hd => r10seen_any d a _ (.slice A' a.cs.length c') W hd
      have D5 := in_turn (W0 := W0) fun W h => trsame_any (HA.out.below h).1 (HA.out.below h).2 (HBB.out.below h).1 (HBB.out.below h).2
      have D6 := in_turn (W0 := W0) fun W h => r10same_of (HA.out.below h) (HBB.out.below h)
      have D7 := fun (W : World) (h : Below W0.heap.size W0 W) => (tcopy_any a _ _ W (HA.out.below h).1 (HA.out.below h).2 hsa).mono fun e w' ⟨u, v, he, ht, hb⟩ => (show ∃ B b B' b', e = Ending.returned (.agg #[.int .i64 a.k, .int .i64 a.t, .slice B a.ks.length b, .slice B' a.cs.length b', .bool a.h]) ∧ TrHang w' (a, .slice B a.ks.length b, .slice B' a.cs.length b') ∧ Below W0.heap.size W0 w' from by
        replace ht := ht.hang
        obtain ⟨A, c, hA, _⟩ := ht.1.elim fun d h => h.form
        obtain ⟨A', c', hA', _⟩ := ht.2.elim fun D h => h.form
        change u = .slice A a.ks.length c at hA
        change v = .slice A' a.cs.length c' at hA'
        subst hA hA'
        exact ⟨A, c, A', c', he, ht, below_join h hb⟩)
      have D8 := fun (W : World) (B1 : Option Addr) (b1 : Nat) (B2 : Option Addr) (b2 : Nat) (ht : TrHang W (a, .slice B1 a.ks.length b1, .slice B2 a.cs.length b2)) (h : Below W0.heap.size W0 W) => (r10same_of ht (HA.out.below h)).mono fun e w' ⟨he, hb⟩ => (⟨he, below_join h hb⟩ : e = _ ∧ Below W0.heap.size W0 w')
      have D9 := in_turn (W0 := W0) fun W h => tsize_any a _ _ W (HA.out.below h).1 (HA.out.below h).2 hsa
      have D10 := fun (W : World) (h : Below W0.heap.size W0 W) => ((HA.out.below h).1.elim fun d hd => r10all_any W d a _ _ W (Below.refl _ _) hd (HA.out.below h).2 hsa).mono fun e w' ⟨v, L, he, hL, _, how, hb⟩ => (show ∃ B b, e = Ending.returned (.slice B (Tr.all a).length b) ∧ Below W0.heap.size W0 w' from by
        obtain ⟨B, b, rfl, _⟩ := own_tr how
        exact ⟨B, b, by rw [he, ← hL, List.length_map], below_join h hb⟩)
      rw [Tr.same_own a] at D8
      obtain ⟨vt, hvt⟩ : ∃ z : Int, z = (Tr.tables a : Nat) := ⟨_, rfl⟩
      obtain ⟨vs, hvs⟩ : ∃ z : Int, z = (Tr.seen a : Nat) := ⟨_, rfl⟩
      obtain ⟨bs, hbs⟩ : ∃ z : Bool, z = Tr.same a b := ⟨_, rfl⟩
      obtain ⟨na, hna⟩ : ∃ z, z = (Tr.all a).length := ⟨_, rfl⟩
      rw [← hvt] at D1 D2
      rw [← hvs] at D3 D4
      rw [← hbs] at D5 D6
      rw [← hna] at D9 D10
      clear hvt hvs hbs hna
      dsimp only at D1 D2 D3 D4 D5 D6 D7 D8 D9 D10
      replace D1 := Lib.hid D1
      replace D2 := Lib.hid D2
      replace D3 := Lib.hid D3
      replace D4 := Lib.hid D4
      replace D5 := Lib.hid D5
      replace D6 := Lib.hid D6
      replace D7 := Lib.hid D7
      replace D8 := Lib.hid D8
      replace D9 := Lib.hid D9
      replace D10 := Lib.hid D10
      clear hb1
      go_region_held3 (fun W => ((W.cell? ⟨w.heap.size, 0, none⟩ = some (.int .i64 a.k) ∧ W.cell? ⟨w.heap.size, 1, none⟩ = some (.int .i64 a.t) ∧ W.cell? ⟨w.heap.size, 2, none⟩ = some (.slice A a.ks.length c) ∧ W.cell? ⟨w.heap.size, 3, none⟩ = some (.slice A' a.cs.length c') ∧ W.cell? ⟨w.heap.size, 4, none⟩ = some (.bool a.h)) ∧ (W.cell? ⟨w.heap.size + 1, 0, none⟩ = some (.int .i64 b.k) ∧ W.cell? ⟨w.heap.size + 1, 1, none⟩ = some (.int .i64 b.t) ∧ W.cell? ⟨w.heap.size + 1, 2, none⟩ = some (.slice B b.ks.length e) ∧ W.cell? ⟨w.heap.size + 1, 3, none⟩ = some (.slice B' b.cs.length e') ∧ W.cell? ⟨w.heap.size + 1, 4, none⟩ = some (.bool b.h))) ∧ Below W0.heap.size W0 W) (first | (exact KK.out _ (by repeat first | assumption | refine Below.drew ?_ | refine below_alloc10 ?_ _)))
        (first
          | (go_at_call 8; (with_reducible refine (D1.out _ (by repeat first | assumption | refine Below.drew ?_ | refine below_alloc10 ?_ _)).mono ?_); rintro e w' ⟨rfl, hS'⟩)
          | (go_at_call 9; (with_reducible refine (D2.out _ (by repeat first | assumption | refine Below.drew ?_ | refine below_alloc10 ?_ _)).mono ?_); rintro e w' ⟨rfl, hS'⟩)
          | (go_at_call 10; (with_reducible refine (D3.out _ (by repeat first | assumption | refine Below.drew ?_ | refine below_alloc10 ?_ _)).mono ?_); rintro e w' ⟨rfl, hS'⟩)
          | (go_at_call 11; (with_reducible refine (D4.out _ (by repeat first | assumption | refine Below.drew ?_ | refine below_alloc10 ?_ _)).mono ?_); rintro e w' ⟨rfl, hS'⟩)
          | (go_at_call 12; (with_reducible refine (D5.out _ (by repeat first | assumption | refine Below.drew ?_ | refine below_alloc10 ?_ _)).mono ?_); rintro e w' ⟨rfl, hS'⟩)
          | (go_at_call 13; (with_reducible refine (D6.out _ (by repeat first | assumption | refine Below.drew ?_ | refine below_alloc10 ?_ _)).mono ?_); rintro e w' ⟨rfl, hS'⟩)
          | (go_at_call 14; (with_reducible refine (D7.out _ (by repeat first | assumption | refine Below.drew ?_ | refine below_alloc10 ?_ _)).mono ?_); rintro e w' ⟨B1, b1, B2, b2, rfl, hht, hS'⟩)
          | (go_at_call 13; (with_reducible refine (D8.out _ _ _ _ _ (by repeat first | assumption | refine hang_drew ?_ | refine hang_alloc ?_ _) (by repeat first | assumption | refine Below.drew ?_ | refine below_alloc10 ?_ _)).mono ?_); rintro e w' ⟨rfl, hS'⟩)
          | (go_at_call 15; (with_reducible refine (D9.out _ (by repeat first | assumption | refine Below.drew ?_ | refine below_alloc10 ?_ _)).mono ?_); rintro e w' ⟨rfl, hS'⟩)
          | (go_at_call 16; (with_reducible refine (D10.out _ (by repeat first | assumption | refine Below.drew ?_ | refine below_alloc10 ?_ _)).mono ?_); rintro e w' ⟨B1, b1, rfl, hS'⟩)
          | (go_at_call 7; (with_reducible refine (C3.out _ (by repeat first | assumption | refine Below.drew ?_ | refine below_alloc10 ?_ _)).mono ?_); rintro e w' ⟨rfl, hS'⟩)
          | (fail "no arm"))
      all_goals
        go_wp2_with (fail)
        go_ret
        exact ⟨rfl, below_join HB.out (by repeat first | assumption | refine Below.drew ?_ | refine below_alloc10 ?_ _)⟩
end Go.Proofs.Ytpobkpdlohahoaa
