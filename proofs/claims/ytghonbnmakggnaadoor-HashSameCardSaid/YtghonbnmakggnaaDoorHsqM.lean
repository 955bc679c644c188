/-
  WHICH COMPARISONS ARE KEYS: package hash's Keys, the document's.
-/
import Derived.Test.YtghonbnmakggnaaDoorHstM
import Derived.Test.YtghonbnmakggnaaDoorGBase
import Derived.Test.YtghonbnmakggnaaDoorGPred
namespace Go.Proofs.YtghonbnmakggnaaDoor
open Go.RowKit Go.Sort
set_option maxHeartbeats 6400000

theorem Hs.inn_has {s : Nat} {x : Tm} (h : x.k = 1) : Hs.inn s x = St.hasB s x.t := by
  rw [Hs.inn_eq, h]
  unfold St.hasB
  by_cases h0 : 0 ≤ x.t <;> by_cases h1 : x.t ≤ 63
  · rw [decide_eq_true h0, decide_eq_true h1, decide_eq_true (show 0 ≤ x.t ∧ x.t < 64 by omega)]; simp
  · rw [decide_eq_false h1, decide_eq_false (show ¬ (0 ≤ x.t ∧ x.t < 64) by omega)]; simp
  · rw [decide_eq_false h0, decide_eq_false (show ¬ (0 ≤ x.t ∧ x.t < 64) by omega)]; simp
  · rw [decide_eq_false h0, decide_eq_false (show ¬ (0 ≤ x.t ∧ x.t < 64) by omega)]; simp
theorem Hs.inn_no {s : Nat} {x : Tm} (h : x.k ≠ 1) : Hs.inn s x = false := by rw [Hs.inn_eq, decide_eq_false h, Bool.false_and]
/-- behind a round in which a key was put -/
theorem keys_put15 {wr wA : World} {W1 : World} {base m : Nat} {u : Value} {ks : List (Tm × Tm)} (hown : wr.ownsRow base 36 10 u m (kyCells ks)) (hb : Below wr.heap.size wr W1) (hA : Below W1.heap.size W1 wA) :
    wA.ownsRow base 36 10 u m (kyCells ks) :=
  own_keeps (S := fun _ => True) (own_keeps (S := fun _ => True) hown (keeps_all hb) fun _ _ => trivial) (keeps_all hA) fun _ _ => trivial
set_option maxRecDepth 100000 in
theorem hkeys_any (d : Nat) (cv : Value) (ps : List Pd) (l r : Nat) (w : World) (hp : PsAt d w cv ps) (hl : l < 18446744073709551616) (hr : r < 18446744073709551616) (hn100 : ps.length ≤ 1000) :
    Calls Tryd.prog 7 #[cv, .int .u64 (l : Int), .int .u64 (r : Int)] w (OwnKys w (Hs.keys ps l r)) := by
  obtain ⟨i0, hi, hz0, hz1, hz2⟩ := info_parts Tryd.infoKey15
  obtain ⟨P0, p0, rfl, _⟩ := hp.form
  obtain ⟨n, hn⟩ : ∃ n, n = ps.length := ⟨_, rfl⟩
  rw [← hn] at hp hn100 ⊢
  have HP := Lib.hid hp
  have HN := Lib.hid hn
  have HLR := Lib.hid (And.intro hl hr)
  have HNIL : Hid (Hs.keys (ps.take 0) l r = []) := Lib.hid (by rw [List.take_zero]; rfl)
  clear hp hn hl hr
  go_enter Tryd.func7, Tryd.ntmps7
  go_wp2_with fail
  go_loopw [7, 12] (fun s i wr => ∃ (q m : Nat) (u : Value), q ≤ n ∧ m ≤ q ∧ i = .int .i64 q ∧ u = s ∧ wr.ownsRow w.heap.size 36 10 u m (kyCells (Hs.keys (ps.take q) l r)) ∧ Below w.heap.size w wr) (fun _ i _ => n - (intOf i).toNat)
  case atStart => exact ⟨0, 0, _, Nat.zero_le _, Nat.le_refl _, rfl, rfl, by rw [HNIL.out]; exact World.ownsRow_nil _ _ _ _, Below.refl _ _⟩
  case round =>
    obtain ⟨q, m, u, hq, hmq, rfl, rfl, hown, hb⟩ := hrel
    by_cases hlt : q < n
    · obtain ⟨p, gp⟩ : ∃ p, ps[q]? = some p := ⟨ps[q]'(by have := HN.out; omega), List.getElem?_eq_getElem _⟩
      have hu := HP.out
      rw [HN.out] at hu
      obtain ⟨e, b', o, s', A2, he, rfl, hblt, hx⟩ := hu.at_ gp
      obtain ⟨z0, z1, z2, z3, z4, z5, z6, z7, z8, z9, z10, z11, z12, z13⟩ := (hx wr hb).1
      have hA2 := ((hx wr hb).2).form
      obtain ⟨A2a, A2c, rfl, _⟩ := hA2
      have HKT := Lib.hid (Hs.keys_take (l := l) (r := r) gp)
      have i1 : (0 : Int) ≤ (q : Int) := by omega
      have i2 : (q : Int) < (n : Int) := by omega
      obtain ⟨W1, hW1⟩ : ∃ W1, W1 = wr.alloc (Obj.cells #[.int .i64 p.f.k, .int .i64 p.f.u, .int .i64 p.f.o, .int .i64 p.f.a.k, .int .i64 p.f.a.t, .int .i64 p.f.a.c, .bool p.f.a.z, .int .i64 p.f.a.n, .int .i64 p.f.b.k, .int .i64 p.f.b.t, .int .i64 p.f.b.c, .bool p.f.b.z, .int .i64 p.f.b.n, .slice A2a p.ps.length A2c] 46) := ⟨_, rfl⟩
      obtain ⟨lb, hb1⟩ := box_one (cs := [.int .i64 p.f.k, .int .i64 p.f.u, .int .i64 p.f.o, .int .i64 p.f.a.k, .int .i64 p.f.a.t, .int .i64 p.f.a.c, .bool p.f.a.z, .int .i64 p.f.a.n, .int .i64 p.f.b.k, .int .i64 p.f.b.t, .int .i64 p.f.b.c, .bool p.f.b.z, .int .i64 p.f.b.n, .slice A2a p.ps.length A2c]) hW1
      have HB1 := Lib.hid hb1
      have HBW := Lib.hid hb
      have HOWN := Lib.hid hown
      have HW1 := Lib.hid hW1
      have HLT := Lib.hid hlt
      have hS : Below W1.heap.size W1 W1 := Below.refl _ _
      by_cases hko : p.f.k = 2 ∧ p.f.o = 1
      · obtain ⟨hk2, ho1⟩ := hko
        have e1 : (p.f.k != 2) = false := by simp [hk2]
        have e2 : (p.f.o != 1) = false := by simp [ho1]
        have HKO := Lib.hid (And.intro hk2 ho1)
        have cA1 := in_turn (W0 := W1) fun W _ => hwithin_any p.f.a l W HLR.out.1
        have cA2 := in_turn (W0 := W1) fun W _ => hwithin_any p.f.b r W HLR.out.2
        have cA3 := in_turn (W0 := W1) fun W _ => hwithin_any p.f.b l W HLR.out.1
        have cA4 := in_turn (W0 := W1) fun W _ => hwithin_any p.f.a r W HLR.out.2
        obtain ⟨x1, h1⟩ : ∃ x, x = Hs.inn l p.f.a := ⟨_, rfl⟩
        obtain ⟨x2, h2⟩ : ∃ x, x = Hs.inn r p.f.b := ⟨_, rfl⟩
        obtain ⟨x3, h3⟩ : ∃ x, x = Hs.inn l p.f.b := ⟨_, rfl⟩
        obtain ⟨x4, h4⟩ : ∃ x, x = Hs.inn r p.f.a := ⟨_, rfl⟩
        rw [← h1] at cA1
        rw [← h2] at cA2
        rw [← h3] at cA3
        rw [← h4] at cA4
        have H1 := Lib.hid h1
        have H2 := Lib.hid h2
        have H3 := Lib.hid h3
        have H4 := Lib.hid h4
        clear h1 h2 h3 h4
        have k0 := cell_turn (lb.cell (i := 3) rfl)
        have k1 := cell_turn (lb.cell (i := 4) rfl)
        have k2 := cell_turn (lb.cell (i := 5) rfl)
        have k3 := cell_turn (lb.cell (i := 6) rfl)
        have k4 := cell_turn (lb.cell (i := 7) rfl)
        have k5 := cell_turn (lb.cell (i := 8) rfl)
        have k6 := cell_turn (lb.cell (i := 9) rfl)
        have k7 := cell_turn (lb.cell (i := 10) rfl)
        have k8 := cell_turn (lb.cell (i := 11) rfl)
        have k9 := cell_turn (lb.cell (i := 12) rfl)
        clear gp hu hx hblt lb hb1 hb hown hW1 hk2 ho1 hlt
        go_upto_region 6 with (fail)
        rw [← HW1.out]
        clear z0 z1 z2 z3 z4 z5 z6 z7 z8 z9 z10 z11 z12 z13 e1 e2
        have hway : (x1 = true ∧ x2 = true) ∨ (x1 = true ∧ x2 = false ∧ x3 = true ∧ x4 = true) ∨ (x1 = true ∧ x2 = false ∧ x3 = true ∧ x4 = false) ∨ (x1 = true ∧ x2 = false ∧ x3 = false) ∨ (x1 = false ∧ x3 = true ∧ x4 = true) ∨ (x1 = false ∧ x3 = true ∧ x4 = false) ∨ (x1 = false ∧ x3 = false) := by
          clear cA1 cA2 cA3 cA4 H1 H2 H3 H4
          cases x1 <;> cases x2 <;> cases x3 <;> cases x4 <;> decide
        rcases hway with ⟨rfl, rfl⟩ | ⟨rfl, rfl, rfl, rfl⟩ | ⟨rfl, rfl, rfl, rfl⟩ | ⟨rfl, rfl, rfl⟩ | ⟨rfl, rfl, rfl⟩ | ⟨rfl, rfl, rfl⟩ | ⟨rfl, rfl⟩
        · have c := cA1 _ hS
          go_wp2_with fail
          clear hS
          refine c.mono ?_
          rintro e wA1 ⟨rfl, hS⟩
          clear c
          have c := cA2 _ hS
          go_wp2_with fail
          clear hS
          refine c.mono ?_
          rintro e wA2 ⟨rfl, hS⟩
          clear c
          have HO2 := Lib.hid ((keys_put15 HOWN.out HB1.out hS).alloc (Obj.cells [.int .i64 p.f.a.k, .int .i64 p.f.a.t, .int .i64 p.f.a.c, .bool p.f.a.z, .int .i64 p.f.a.n, .int .i64 p.f.b.k, .int .i64 p.f.b.t, .int .i64 p.f.b.c, .bool p.f.b.z, .int .i64 p.f.b.n].toArray 36))
          have HB5 := Lib.hid ((HBW.out.trans (below_low (below_join HB1.out hS) HBW.out.size)).alloc (by have := HBW.out.size; have := HB1.out.size; have := hS.size; omega) (Obj.cells [.int .i64 p.f.a.k, .int .i64 p.f.a.t, .int .i64 p.f.a.c, .bool p.f.a.z, .int .i64 p.f.a.n, .int .i64 p.f.b.k, .int .i64 p.f.b.t, .int .i64 p.f.b.c, .bool p.f.b.z, .int .i64 p.f.b.n].toArray 36))
          have hcm := Lib.hid (CameN.new wA2 36 10 1 [.int .i64 p.f.a.k, .int .i64 p.f.a.t, .int .i64 p.f.a.c, .bool p.f.a.z, .int .i64 p.f.a.n, .int .i64 p.f.b.k, .int .i64 p.f.b.t, .int .i64 p.f.b.c, .bool p.f.b.z, .int .i64 p.f.b.n] wA2.heap.size rfl rfl)
          have HKT2 := Lib.hid (show Hs.keys (ps.take (q + 1)) l r = Hs.keys (ps.take q) l r ++ [(p.f.a, p.f.b)] by rw [HKT.out]; unfold Hs.key1; rw [if_pos HKO.out, ← H1.out, ← H2.out]; rfl)
          go_wp2_with (first
            | (at_builtin; refine wpList_append_n _ rfl _ _ 29 rfl w.heap.size 36 i0 (.agg #[.int .i64 0, .int .i64 0, .int .i64 0, .bool false, .int .i64 0, .int .i64 0, .int .i64 0, .int .i64 0, .bool false, .int .i64 0]) 10 80 Tryd.underlying29 hi hz0 hz1 hz2 rfl (by decide) _ m _ rfl HO2.out _ 1 [.int .i64 p.f.a.k, .int .i64 p.f.a.t, .int .i64 p.f.a.c, .bool p.f.a.z, .int .i64 p.f.a.n, .int .i64 p.f.b.k, .int .i64 p.f.b.t, .int .i64 p.f.b.c, .bool p.f.b.z, .int .i64 p.f.b.n] rfl hcm.out (ky_ones (p.f.a, p.f.b)) ?c3 ?c4 ?c5 ?_))
          case c3 => unfold maxLen; omega
          case c4 => omega
          case c5 => simpa using HB5.out.size
          intro v1 w5 hown1 hgrow
          have hb5 : Below w.heap.size w w5 := HB5.out.grown hgrow HB5.out.size (fun k hk => (HOWN.out.lt k hk).1)
          have hown5 : w5.ownsRow w.heap.size 36 10 v1 (m + 1) (kyCells (Hs.keys (ps.take (q + 1)) l r)) := by rw [HKT2.out, kyCells_snoc]; exact hown1
          have HF := Lib.hid (And.intro hown5 hb5)
          clear hown1 hgrow hown5 hb5 cA1 cA2 cA3 cA4 k0 k1 k2 k3 k4 k5 k6 k7 k8 k9 hS
          go_wp2_with fail
          go_roundw
          case rel => exact ⟨q + 1, m + 1, v1, by omega, by omega, by go_num, rfl, HF.out.1, HF.out.2⟩
          case measure => simp [intOf]; omega
        · have c := cA1 _ hS
          go_wp2_with fail
          clear hS
          refine c.mono ?_
          rintro e wA1 ⟨rfl, hS⟩
          clear c
          have c := cA2 _ hS
          go_wp2_with fail
          clear hS
          refine c.mono ?_
          rintro e wA2 ⟨rfl, hS⟩
          clear c
          have c := cA3 _ hS
          go_wp2_with fail
          clear hS
          refine c.mono ?_
          rintro e wA3 ⟨rfl, hS⟩
          clear c
          have c := cA4 _ hS
          go_wp2_with fail
          clear hS
          refine c.mono ?_
          rintro e wA4 ⟨rfl, hS⟩
          clear c
          have HO2 := Lib.hid ((keys_put15 HOWN.out HB1.out hS).alloc (Obj.cells [.int .i64 p.f.b.k, .int .i64 p.f.b.t, .int .i64 p.f.b.c, .bool p.f.b.z, .int .i64 p.f.b.n, .int .i64 p.f.a.k, .int .i64 p.f.a.t, .int .i64 p.f.a.c, .bool p.f.a.z, .int .i64 p.f.a.n].toArray 36))
          have HB5 := Lib.hid ((HBW.out.trans (below_low (below_join HB1.out hS) HBW.out.size)).alloc (by have := HBW.out.size; have := HB1.out.size; have := hS.size; omega) (Obj.cells [.int .i64 p.f.b.k, .int .i64 p.f.b.t, .int .i64 p.f.b.c, .bool p.f.b.z, .int .i64 p.f.b.n, .int .i64 p.f.a.k, .int .i64 p.f.a.t, .int .i64 p.f.a.c, .bool p.f.a.z, .int .i64 p.f.a.n].toArray 36))
          have hcm := Lib.hid (CameN.new wA4 36 10 1 [.int .i64 p.f.b.k, .int .i64 p.f.b.t, .int .i64 p.f.b.c, .bool p.f.b.z, .int .i64 p.f.b.n, .int .i64 p.f.a.k, .int .i64 p.f.a.t, .int .i64 p.f.a.c, .bool p.f.a.z, .int .i64 p.f.a.n] wA4.heap.size rfl rfl)
          have HKT2 := Lib.hid (show Hs.keys (ps.take (q + 1)) l r = Hs.keys (ps.take q) l r ++ [(p.f.b, p.f.a)] by rw [HKT.out]; unfold Hs.key1; rw [if_pos HKO.out, ← H1.out, ← H3.out, ← H4.out, ← H2.out]; rfl)
          go_wp2_with (first
            | (at_builtin; refine wpList_append_n _ rfl _ _ 29 rfl w.heap.size 36 i0 (.agg #[.int .i64 0, .int .i64 0, .int .i64 0, .bool false, .int .i64 0, .int .i64 0, .int .i64 0, .int .i64 0, .bool false, .int .i64 0]) 10 80 Tryd.underlying29 hi hz0 hz1 hz2 rfl (by decide) _ m _ rfl HO2.out _ 1 [.int .i64 p.f.b.k, .int .i64 p.f.b.t, .int .i64 p.f.b.c, .bool p.f.b.z, .int .i64 p.f.b.n, .int .i64 p.f.a.k, .int .i64 p.f.a.t, .int .i64 p.f.a.c, .bool p.f.a.z, .int .i64 p.f.a.n] rfl hcm.out (ky_ones (p.f.b, p.f.a)) ?c3 ?c4 ?c5 ?_))
          case c3 => unfold maxLen; omega
          case c4 => omega
          case c5 => simpa using HB5.out.size
          intro v1 w5 hown1 hgrow
          have hb5 : Below w.heap.size w w5 := HB5.out.grown hgrow HB5.out.size (fun k hk => (HOWN.out.lt k hk).1)
          have hown5 : w5.ownsRow w.heap.size 36 10 v1 (m + 1) (kyCells (Hs.keys (ps.take (q + 1)) l r)) := by rw [HKT2.out, kyCells_snoc]; exact hown1
          have HF := Lib.hid (And.intro hown5 hb5)
          clear hown1 hgrow hown5 hb5 cA1 cA2 cA3 cA4 k0 k1 k2 k3 k4 k5 k6 k7 k8 k9 hS
          go_wp2_with fail
          go_roundw
          case rel => exact ⟨q + 1, m + 1, v1, by omega, by omega, by go_num, rfl, HF.out.1, HF.out.2⟩
          case measure => simp [intOf]; omega
        · have c := cA1 _ hS
          go_wp2_with fail
          clear hS
          refine c.mono ?_
          rintro e wA1 ⟨rfl, hS⟩
          clear c
          have c := cA2 _ hS
          go_wp2_with fail
          clear hS
          refine c.mono ?_
          rintro e wA2 ⟨rfl, hS⟩
          clear c
          have c := cA3 _ hS
          go_wp2_with fail
          clear hS
          refine c.mono ?_
          rintro e wA3 ⟨rfl, hS⟩
          clear c
          have c := cA4 _ hS
          go_wp2_with fail
          clear hS
          refine c.mono ?_
          rintro e wA4 ⟨rfl, hS⟩
          clear c
          have HKT2 := Lib.hid (show Hs.keys (ps.take (q + 1)) l r = Hs.keys (ps.take q) l r by rw [HKT.out]; unfold Hs.key1; rw [if_pos HKO.out, ← H1.out, ← H3.out, ← H2.out, ← H4.out]; simp)
          have HF := Lib.hid (And.intro (show wA4.ownsRow w.heap.size 36 10 u m (kyCells (Hs.keys (ps.take (q + 1)) l r)) by rw [HKT2.out]; exact keys_put15 HOWN.out HB1.out hS) (HBW.out.trans (below_low (below_join HB1.out hS) HBW.out.size)))
          clear cA1 cA2 cA3 cA4 k0 k1 k2 k3 k4 k5 k6 k7 k8 k9 hS
          go_wp2_with fail
          go_roundw
          case rel => exact ⟨q + 1, m, u, by omega, by omega, by go_num, rfl, HF.out.1, HF.out.2⟩
          case measure => simp [intOf]; omega
        · have c := cA1 _ hS
          go_wp2_with fail
          clear hS
          refine c.mono ?_
          rintro e wA1 ⟨rfl, hS⟩
          clear c
          have c := cA2 _ hS
          go_wp2_with fail
          clear hS
          refine c.mono ?_
          rintro e wA2 ⟨rfl, hS⟩
          clear c
          have c := cA3 _ hS
          go_wp2_with fail
          clear hS
          refine c.mono ?_
          rintro e wA3 ⟨rfl, hS⟩
          clear c
          have HKT2 := Lib.hid (show Hs.keys (ps.take (q + 1)) l r = Hs.keys (ps.take q) l r by rw [HKT.out]; unfold Hs.key1; rw [if_pos HKO.out, ← H1.out, ← H3.out, ← H2.out]; simp)
          have HF := Lib.hid (And.intro (show wA3.ownsRow w.heap.size 36 10 u m (kyCells (Hs.keys (ps.take (q + 1)) l r)) by rw [HKT2.out]; exact keys_put15 HOWN.out HB1.out hS) (HBW.out.trans (below_low (below_join HB1.out hS) HBW.out.size)))
          clear cA1 cA2 cA3 cA4 k0 k1 k2 k3 k4 k5 k6 k7 k8 k9 hS
          go_wp2_with fail
          go_roundw
          case rel => exact ⟨q + 1, m, u, by omega, by omega, by go_num, rfl, HF.out.1, HF.out.2⟩
          case measure => simp [intOf]; omega
        · have c := cA1 _ hS
          go_wp2_with fail
          clear hS
          refine c.mono ?_
          rintro e wA1 ⟨rfl, hS⟩
          clear c
          have c := cA3 _ hS
          go_wp2_with fail
          clear hS
          refine c.mono ?_
          rintro e wA3 ⟨rfl, hS⟩
          clear c
          have c := cA4 _ hS
          go_wp2_with fail
          clear hS
          refine c.mono ?_
          rintro e wA4 ⟨rfl, hS⟩
          clear c
          have HO2 := Lib.hid ((keys_put15 HOWN.out HB1.out hS).alloc (Obj.cells [.int .i64 p.f.b.k, .int .i64 p.f.b.t, .int .i64 p.f.b.c, .bool p.f.b.z, .int .i64 p.f.b.n, .int .i64 p.f.a.k, .int .i64 p.f.a.t, .int .i64 p.f.a.c, .bool p.f.a.z, .int .i64 p.f.a.n].toArray 36))
          have HB5 := Lib.hid ((HBW.out.trans (below_low (below_join HB1.out hS) HBW.out.size)).alloc (by have := HBW.out.size; have := HB1.out.size; have := hS.size; omega) (Obj.cells [.int .i64 p.f.b.k, .int .i64 p.f.b.t, .int .i64 p.f.b.c, .bool p.f.b.z, .int .i64 p.f.b.n, .int .i64 p.f.a.k, .int .i64 p.f.a.t, .int .i64 p.f.a.c, .bool p.f.a.z, .int .i64 p.f.a.n].toArray 36))
          have hcm := Lib.hid (CameN.new wA4 36 10 1 [.int .i64 p.f.b.k, .int .i64 p.f.b.t, .int .i64 p.f.b.c, .bool p.f.b.z, .int .i64 p.f.b.n, .int .i64 p.f.a.k, .int .i64 p.f.a.t, .int .i64 p.f.a.c, .bool p.f.a.z, .int .i64 p.f.a.n] wA4.heap.size rfl rfl)
          have HKT2 := Lib.hid (show Hs.keys (ps.take (q + 1)) l r = Hs.keys (ps.take q) l r ++ [(p.f.b, p.f.a)] by rw [HKT.out]; unfold Hs.key1; rw [if_pos HKO.out, ← H1.out, ← H3.out, ← H4.out]; rfl)
          go_wp2_with (first
            | (at_builtin; refine wpList_append_n _ rfl _ _ 29 rfl w.heap.size 36 i0 (.agg #[.int .i64 0, .int .i64 0, .int .i64 0, .bool false, .int .i64 0, .int .i64 0, .int .i64 0, .int .i64 0, .bool false, .int .i64 0]) 10 80 Tryd.underlying29 hi hz0 hz1 hz2 rfl (by decide) _ m _ rfl HO2.out _ 1 [.int .i64 p.f.b.k, .int .i64 p.f.b.t, .int .i64 p.f.b.c, .bool p.f.b.z, .int .i64 p.f.b.n, .int .i64 p.f.a.k, .int .i64 p.f.a.t, .int .i64 p.f.a.c, .bool p.f.a.z, .int .i64 p.f.a.n] rfl hcm.out (ky_ones (p.f.b, p.f.a)) ?c3 ?c4 ?c5 ?_))
          case c3 => unfold maxLen; omega
          case c4 => omega
          case c5 => simpa using HB5.out.size
          intro v1 w5 hown1 hgrow
          have hb5 : Below w.heap.size w w5 := HB5.out.grown hgrow HB5.out.size (fun k hk => (HOWN.out.lt k hk).1)
          have hown5 : w5.ownsRow w.heap.size 36 10 v1 (m + 1) (kyCells (Hs.keys (ps.take (q + 1)) l r)) := by rw [HKT2.out, kyCells_snoc]; exact hown1
          have HF := Lib.hid (And.intro hown5 hb5)
          clear hown1 hgrow hown5 hb5 cA1 cA2 cA3 cA4 k0 k1 k2 k3 k4 k5 k6 k7 k8 k9 hS
          go_wp2_with fail
          go_roundw
          case rel => exact ⟨q + 1, m + 1, v1, by omega, by omega, by go_num, rfl, HF.out.1, HF.out.2⟩
          case measure => simp [intOf]; omega
        · have c := cA1 _ hS
          go_wp2_with fail
          clear hS
          refine c.mono ?_
          rintro e wA1 ⟨rfl, hS⟩
          clear c
          have c := cA3 _ hS
          go_wp2_with fail
          clear hS
          refine c.mono ?_
          rintro e wA3 ⟨rfl, hS⟩
          clear c
          have c := cA4 _ hS
          go_wp2_with fail
          clear hS
          refine c.mono ?_
          rintro e wA4 ⟨rfl, hS⟩
          clear c
          have HKT2 := Lib.hid (show Hs.keys (ps.take (q + 1)) l r = Hs.keys (ps.take q) l r by rw [HKT.out]; unfold Hs.key1; rw [if_pos HKO.out, ← H1.out, ← H3.out, ← H4.out]; simp)
          have HF := Lib.hid (And.intro (show wA4.ownsRow w.heap.size 36 10 u m (kyCells (Hs.keys (ps.take (q + 1)) l r)) by rw [HKT2.out]; exact keys_put15 HOWN.out HB1.out hS) (HBW.out.trans (below_low (below_join HB1.out hS) HBW.out.size)))
          clear cA1 cA2 cA3 cA4 k0 k1 k2 k3 k4 k5 k6 k7 k8 k9 hS
          go_wp2_with fail
          go_roundw
          case rel => exact ⟨q + 1, m, u, by omega, by omega, by go_num, rfl, HF.out.1, HF.out.2⟩
          case measure => simp [intOf]; omega
        · have c := cA1 _ hS
          go_wp2_with fail
          clear hS
          refine c.mono ?_
          rintro e wA1 ⟨rfl, hS⟩
          clear c
          have c := cA3 _ hS
          go_wp2_with fail
          clear hS
          refine c.mono ?_
          rintro e wA3 ⟨rfl, hS⟩
          clear c
          have HKT2 := Lib.hid (show Hs.keys (ps.take (q + 1)) l r = Hs.keys (ps.take q) l r by rw [HKT.out]; unfold Hs.key1; rw [if_pos HKO.out, ← H1.out, ← H3.out]; simp)
          have HF := Lib.hid (And.intro (show wA3.ownsRow w.heap.size 36 10 u m (kyCells (Hs.keys (ps.take (q + 1)) l r)) by rw [HKT2.out]; exact keys_put15 HOWN.out HB1.out hS) (HBW.out.trans (below_low (below_join HB1.out hS) HBW.out.size)))
          clear cA1 cA2 cA3 cA4 k0 k1 k2 k3 k4 k5 k6 k7 k8 k9 hS
          go_wp2_with fail
          go_roundw
          case rel => exact ⟨q + 1, m, u, by omega, by omega, by go_num, rfl, HF.out.1, HF.out.2⟩
          case measure => simp [intOf]; omega
      · have hcase : (p.f.k != 2) = true ∨ ((p.f.k != 2) = false ∧ (p.f.o != 1) = true) := by
          by_cases h : p.f.k = 2
          · exact .inr ⟨by simp [h], by simp; exact fun h2 => hko ⟨h, h2⟩⟩
          · exact .inl (by simp [h])
        have HKO := Lib.hid hko
        clear gp hu hx hblt lb hb hown hko hlt
        rcases hcase with e1 | ⟨e1, e2⟩
        all_goals
          have HKT2 := Lib.hid (show Hs.keys (ps.take (q + 1)) l r = Hs.keys (ps.take q) l r by rw [HKT.out]; unfold Hs.key1; rw [if_neg HKO.out]; simp)
          have HF := Lib.hid (And.intro (show W1.ownsRow w.heap.size 36 10 u m (kyCells (Hs.keys (ps.take (q + 1)) l r)) by rw [HKT2.out]; exact keys_put15 HOWN.out HB1.out hS) (HBW.out.trans (below_low (below_join HB1.out hS) HBW.out.size)))
          clear hS; rw [hW1] at HF
          go_wp2_with fail
          go_roundw
          case rel => exact ⟨q + 1, m, u, by omega, by omega, by go_num, rfl, HF.out.1, HF.out.2⟩
          case measure => simp [intOf]; omega
    · have hres := Lib.hid (show OwnKys w (Hs.keys ps l r) (.returned u) wr from ⟨u, rfl, by
        rw [List.take_of_length_le (by have := HN.out; omega)] at hown
        have h1 := hown.1
        rw [kyCells_length] at h1
        obtain rfl : (Hs.keys ps l r).length = m := by omega
        exact hown, hb⟩)
      have i2 : ¬ ((q : Int) < (n : Int)) := by omega
      clear hown hb hlt
      go_wp2_with fail
      go_ret
      exact hres.out
set_option maxRecDepth 100000 in
theorem r15keys_any (d : Nat) (cv : Value) (ps : List Pd) (l r : Nat) (w : World) (hp : PsAt d w cv ps) (hl : l < 18446744073709551616) (hr : r < 18446744073709551616) (hn100 : ps.length ≤ 1000) :
    Calls Tryd.prog 8 #[cv, .int .u64 (l : Int), .int .u64 (r : Int)] w (OwnKys w (Hs.keys ps l r)) := by
  obtain ⟨i0, hi, hz0, hz1, hz2⟩ := info_parts Tryd.infoKey15
  obtain ⟨P0, p0, rfl, _⟩ := hp.form
  obtain ⟨n, hn⟩ : ∃ n, n = ps.length := ⟨_, rfl⟩
  rw [← hn] at hp hn100 ⊢
  have HP := Lib.hid hp
  have HN := Lib.hid hn
  have HLR := Lib.hid (And.intro hl hr)
  have HNIL : Hid (Hs.keys (ps.take 0) l r = []) := Lib.hid (by rw [List.take_zero]; rfl)
  have HOW := Lib.hid (own_empty w 36 10 w.heap.size (Nat.le_refl _) w.heap.size rfl)
  have HB0 := Lib.hid ((Below.refl w.heap.size w).alloc (Nat.le_refl _) (Obj.cells #[] 36))
  clear hp hn hl hr
  go_enter Tryd.func8, Tryd.ntmps8
  go_wp2_with fail
  go_loopw [7, 8] (fun s i wr => ∃ (q m : Nat) (u : Value), q ≤ n ∧ m ≤ q ∧ i = .int .i64 q ∧ u = s ∧ wr.ownsRow w.heap.size 36 10 u m (kyCells (Hs.keys (ps.take q) l r)) ∧ Below w.heap.size w wr) (fun _ i _ => n - (intOf i).toNat)
  case atStart => exact ⟨0, 0, _, Nat.zero_le _, Nat.le_refl _, rfl, rfl, by rw [HNIL.out]; exact HOW.out, HB0.out⟩
  case round =>
    obtain ⟨q, m, u, hq, hmq, rfl, rfl, hown, hb⟩ := hrel
    by_cases hlt : q < n
    · obtain ⟨p, gp⟩ : ∃ p, ps[q]? = some p := ⟨ps[q]'(by have := HN.out; omega), List.getElem?_eq_getElem _⟩
      have hu := HP.out
      rw [HN.out] at hu
      obtain ⟨e, b', o, s', A2, he, rfl, hblt, hx⟩ := hu.at_ gp
      obtain ⟨z0, z1, z2, z3, z4, z5, z6, z7, z8, z9, z10, z11, z12, z13⟩ := (hx wr hb).1
      have hA2 := ((hx wr hb).2).form
      obtain ⟨A2a, A2c, rfl, _⟩ := hA2
      have HKT := Lib.hid (Hs.keys_take (l := l) (r := r) gp)
      have i1 : (0 : Int) ≤ (q : Int) := by omega
      have i2 : (q : Int) < (n : Int) := by omega
      obtain ⟨W1, hW1⟩ : ∃ W1, W1 = wr.alloc (Obj.cells #[.int .i64 p.f.k, .int .i64 p.f.u, .int .i64 p.f.o, .int .i64 p.f.a.k, .int .i64 p.f.a.t, .int .i64 p.f.a.c, .bool p.f.a.z, .int .i64 p.f.a.n, .int .i64 p.f.b.k, .int .i64 p.f.b.t, .int .i64 p.f.b.c, .bool p.f.b.z, .int .i64 p.f.b.n, .slice A2a p.ps.length A2c] 46) := ⟨_, rfl⟩
      obtain ⟨lb, hb1⟩ := box_one (cs := [.int .i64 p.f.k, .int .i64 p.f.u, .int .i64 p.f.o, .int .i64 p.f.a.k, .int .i64 p.f.a.t, .int .i64 p.f.a.c, .bool p.f.a.z, .int .i64 p.f.a.n, .int .i64 p.f.b.k, .int .i64 p.f.b.t, .int .i64 p.f.b.c, .bool p.f.b.z, .int .i64 p.f.b.n, .slice A2a p.ps.length A2c]) hW1
      have HB1 := Lib.hid hb1
      have HBW := Lib.hid hb
      have HOWN := Lib.hid hown
      have HW1 := Lib.hid hW1
      have HLT := Lib.hid hlt
      have hS : Below W1.heap.size W1 W1 := Below.refl _ _
      by_cases hko : (p.f.k = 2 ∧ p.f.o = 1) ∧ (p.f.a.k = 1 ∧ p.f.b.k = 1)
      · obtain ⟨⟨hk2, ho1⟩, hak, hbk⟩ := hko
        have e1 : (p.f.k != 2) = false := by simp [hk2]
        have e2 : (p.f.o != 1) = false := by simp [ho1]
        have e3 : (p.f.a.k != 1) = false := by simp [hak]
        have e4 : (p.f.b.k != 1) = false := by simp [hbk]
        have HKO := Lib.hid (And.intro hk2 ho1)
        have cA1 := fun W => rhas_any (l : Int) p.f.a.t W (U64.of HLR.out.1)
        have cA2 := fun W => rhas_any (r : Int) p.f.b.t W (U64.of HLR.out.2)
        have cA4 := fun W => rhas_any (r : Int) p.f.a.t W (U64.of HLR.out.2)
        have cA3 := fun W => rhas_any (l : Int) p.f.b.t W (U64.of HLR.out.1)
        simp only [Int.toNat_natCast] at cA1 cA2 cA3 cA4
        rw [← Hs.inn_has hak] at cA1 cA4
        rw [← Hs.inn_has hbk] at cA2 cA3
        obtain ⟨x1, h1⟩ : ∃ x, x = Hs.inn l p.f.a := ⟨_, rfl⟩
        obtain ⟨x2, h2⟩ : ∃ x, x = Hs.inn r p.f.b := ⟨_, rfl⟩
        obtain ⟨x3, h3⟩ : ∃ x, x = Hs.inn l p.f.b := ⟨_, rfl⟩
        obtain ⟨x4, h4⟩ : ∃ x, x = Hs.inn r p.f.a := ⟨_, rfl⟩
        rw [← h1] at cA1
        rw [← h2] at cA2
        rw [← h3] at cA3
        rw [← h4] at cA4
        have H1 := Lib.hid h1
        have H2 := Lib.hid h2
        have H3 := Lib.hid h3
        have H4 := Lib.hid h4
        clear h1 h2 h3 h4
        have k0 := lb.cell (i := 3) rfl
        have k1 := lb.cell (i := 4) rfl
        have k2 := lb.cell (i := 5) rfl
        have k3 := lb.cell (i := 6) rfl
        have k4 := lb.cell (i := 7) rfl
        have k5 := lb.cell (i := 8) rfl
        have k6 := lb.cell (i := 9) rfl
        have k7 := lb.cell (i := 10) rfl
        have k8 := lb.cell (i := 11) rfl
        have k9 := lb.cell (i := 12) rfl
        clear gp hu hx hblt lb hb1 hb hown hW1 hk2 ho1 hak hbk hlt
        go_upto_region 7 with (fail)
        rw [← HW1.out]
        clear z0 z1 z2 z3 z4 z5 z6 z7 z8 z9 z10 z11 z12 z13 e1 e2 e3 e4
        have hway : (x1 = true ∧ x2 = true) ∨ (x1 = true ∧ x2 = false ∧ x4 = true ∧ x3 = true) ∨ (x1 = true ∧ x2 = false ∧ x4 = true ∧ x3 = false) ∨ (x1 = true ∧ x2 = false ∧ x4 = false) ∨ (x1 = false ∧ x4 = true ∧ x3 = true) ∨ (x1 = false ∧ x4 = true ∧ x3 = false) ∨ (x1 = false ∧ x4 = false) := by
          clear cA1 cA2 cA3 cA4 H1 H2 H3 H4
          cases x1 <;> cases x2 <;> cases x3 <;> cases x4 <;> decide
        rcases hway with ⟨rfl, rfl⟩ | ⟨rfl, rfl, rfl, rfl⟩ | ⟨rfl, rfl, rfl, rfl⟩ | ⟨rfl, rfl, rfl⟩ | ⟨rfl, rfl, rfl⟩ | ⟨rfl, rfl, rfl⟩ | ⟨rfl, rfl⟩
        · have c := cA1 W1
          go_wp2_with fail
          refine c.mono ?_
          rintro e w' ⟨rfl, rfl⟩
          clear c
          have c := cA2 W1
          go_wp2_with fail
          refine c.mono ?_
          rintro e w' ⟨rfl, rfl⟩
          clear c
          have HO2 := Lib.hid ((keys_put15 HOWN.out HB1.out hS).alloc (Obj.cells [.int .i64 p.f.a.k, .int .i64 p.f.a.t, .int .i64 p.f.a.c, .bool p.f.a.z, .int .i64 p.f.a.n, .int .i64 p.f.b.k, .int .i64 p.f.b.t, .int .i64 p.f.b.c, .bool p.f.b.z, .int .i64 p.f.b.n].toArray 36))
          have HB5 := Lib.hid ((HBW.out.trans (below_low (below_join HB1.out hS) HBW.out.size)).alloc (by have := HBW.out.size; have := HB1.out.size; have := hS.size; omega) (Obj.cells [.int .i64 p.f.a.k, .int .i64 p.f.a.t, .int .i64 p.f.a.c, .bool p.f.a.z, .int .i64 p.f.a.n, .int .i64 p.f.b.k, .int .i64 p.f.b.t, .int .i64 p.f.b.c, .bool p.f.b.z, .int .i64 p.f.b.n].toArray 36))
          have hcm := Lib.hid (CameN.new W1 36 10 1 [.int .i64 p.f.a.k, .int .i64 p.f.a.t, .int .i64 p.f.a.c, .bool p.f.a.z, .int .i64 p.f.a.n, .int .i64 p.f.b.k, .int .i64 p.f.b.t, .int .i64 p.f.b.c, .bool p.f.b.z, .int .i64 p.f.b.n] W1.heap.size rfl rfl)
          have HKT2 := Lib.hid (show Hs.keys (ps.take (q + 1)) l r = Hs.keys (ps.take q) l r ++ [(p.f.a, p.f.b)] by rw [HKT.out]; unfold Hs.key1; rw [if_pos HKO.out, ← H1.out, ← H2.out]; rfl)
          go_wp2_with (first
            | (at_builtin; refine wpList_append_n _ rfl _ _ 29 rfl w.heap.size 36 i0 (.agg #[.int .i64 0, .int .i64 0, .int .i64 0, .bool false, .int .i64 0, .int .i64 0, .int .i64 0, .int .i64 0, .bool false, .int .i64 0]) 10 80 Tryd.underlying29 hi hz0 hz1 hz2 rfl (by decide) _ m _ rfl HO2.out _ 1 [.int .i64 p.f.a.k, .int .i64 p.f.a.t, .int .i64 p.f.a.c, .bool p.f.a.z, .int .i64 p.f.a.n, .int .i64 p.f.b.k, .int .i64 p.f.b.t, .int .i64 p.f.b.c, .bool p.f.b.z, .int .i64 p.f.b.n] rfl hcm.out (ky_ones (p.f.a, p.f.b)) ?c3 ?c4 ?c5 ?_))
          case c3 => unfold maxLen; omega
          case c4 => omega
          case c5 => simpa using HB5.out.size
          intro v1 w5 hown1 hgrow
          have hb5 : Below w.heap.size w w5 := HB5.out.grown hgrow HB5.out.size (fun k hk => (HOWN.out.lt k hk).1)
          have hown5 : w5.ownsRow w.heap.size 36 10 v1 (m + 1) (kyCells (Hs.keys (ps.take (q + 1)) l r)) := by rw [HKT2.out, kyCells_snoc]; exact hown1
          have HF := Lib.hid (And.intro hown5 hb5)
          clear hown1 hgrow hown5 hb5 cA1 cA2 cA3 cA4 k0 k1 k2 k3 k4 k5 k6 k7 k8 k9 hS
          go_wp2_with fail
          go_roundw
          case rel => exact ⟨q + 1, m + 1, v1, by omega, by omega, by go_num, rfl, HF.out.1, HF.out.2⟩
          case measure => simp [intOf]; omega
        · have c := cA1 W1
          go_wp2_with fail
          refine c.mono ?_
          rintro e w' ⟨rfl, rfl⟩
          clear c
          have c := cA2 W1
          go_wp2_with fail
          refine c.mono ?_
          rintro e w' ⟨rfl, rfl⟩
          clear c
          have c := cA4 W1
          go_wp2_with fail
          refine c.mono ?_
          rintro e w' ⟨rfl, rfl⟩
          clear c
          have c := cA3 W1
          go_wp2_with fail
          refine c.mono ?_
          rintro e w' ⟨rfl, rfl⟩
          clear c
          have HO2 := Lib.hid ((keys_put15 HOWN.out HB1.out hS).alloc (Obj.cells [.int .i64 p.f.b.k, .int .i64 p.f.b.t, .int .i64 p.f.b.c, .bool p.f.b.z, .int .i64 p.f.b.n, .int .i64 p.f.a.k, .int .i64 p.f.a.t, .int .i64 p.f.a.c, .bool p.f.a.z, .int .i64 p.f.a.n].toArray 36))
          have HB5 := Lib.hid ((HBW.out.trans (below_low (below_join HB1.out hS) HBW.out.size)).alloc (by have := HBW.out.size; have := HB1.out.size; have := hS.size; omega) (Obj.cells [.int .i64 p.f.b.k, .int .i64 p.f.b.t, .int .i64 p.f.b.c, .bool p.f.b.z, .int .i64 p.f.b.n, .int .i64 p.f.a.k, .int .i64 p.f.a.t, .int .i64 p.f.a.c, .bool p.f.a.z, .int .i64 p.f.a.n].toArray 36))
          have hcm := Lib.hid (CameN.new W1 36 10 1 [.int .i64 p.f.b.k, .int .i64 p.f.b.t, .int .i64 p.f.b.c, .bool p.f.b.z, .int .i64 p.f.b.n, .int .i64 p.f.a.k, .int .i64 p.f.a.t, .int .i64 p.f.a.c, .bool p.f.a.z, .int .i64 p.f.a.n] W1.heap.size rfl rfl)
          have HKT2 := Lib.hid (show Hs.keys (ps.take (q + 1)) l r = Hs.keys (ps.take q) l r ++ [(p.f.b, p.f.a)] by rw [HKT.out]; unfold Hs.key1; rw [if_pos HKO.out, ← H1.out, ← H3.out, ← H4.out, ← H2.out]; rfl)
          go_wp2_with (first
            | (at_builtin; refine wpList_append_n _ rfl _ _ 29 rfl w.heap.size 36 i0 (.agg #[.int .i64 0, .int .i64 0, .int .i64 0, .bool false, .int .i64 0, .int .i64 0, .int .i64 0, .int .i64 0, .bool false, .int .i64 0]) 10 80 Tryd.underlying29 hi hz0 hz1 hz2 rfl (by decide) _ m _ rfl HO2.out _ 1 [.int .i64 p.f.b.k, .int .i64 p.f.b.t, .int .i64 p.f.b.c, .bool p.f.b.z, .int .i64 p.f.b.n, .int .i64 p.f.a.k, .int .i64 p.f.a.t, .int .i64 p.f.a.c, .bool p.f.a.z, .int .i64 p.f.a.n] rfl hcm.out (ky_ones (p.f.b, p.f.a)) ?c3 ?c4 ?c5 ?_))
          case c3 => unfold maxLen; omega
          case c4 => omega
          case c5 => simpa using HB5.out.size
          intro v1 w5 hown1 hgrow
          have hb5 : Below w.heap.size w w5 := HB5.out.grown hgrow HB5.out.size (fun k hk => (HOWN.out.lt k hk).1)
          have hown5 : w5.ownsRow w.heap.size 36 10 v1 (m + 1) (kyCells (Hs.keys (ps.take (q + 1)) l r)) := by rw [HKT2.out, kyCells_snoc]; exact hown1
          have HF := Lib.hid (And.intro hown5 hb5)
          clear hown1 hgrow hown5 hb5 cA1 cA2 cA3 cA4 k0 k1 k2 k3 k4 k5 k6 k7 k8 k9 hS
          go_wp2_with fail
          go_roundw
          case rel => exact ⟨q + 1, m + 1, v1, by omega, by omega, by go_num, rfl, HF.out.1, HF.out.2⟩
          case measure => simp [intOf]; omega
        · have c := cA1 W1
          go_wp2_with fail
          refine c.mono ?_
          rintro e w' ⟨rfl, rfl⟩
          clear c
          have c := cA2 W1
          go_wp2_with fail
          refine c.mono ?_
          rintro e w' ⟨rfl, rfl⟩
          clear c
          have c := cA4 W1
          go_wp2_with fail
          refine c.mono ?_
          rintro e w' ⟨rfl, rfl⟩
          clear c
          have c := cA3 W1
          go_wp2_with fail
          refine c.mono ?_
          rintro e w' ⟨rfl, rfl⟩
          clear c
          have HKT2 := Lib.hid (show Hs.keys (ps.take (q + 1)) l r = Hs.keys (ps.take q) l r by rw [HKT.out]; unfold Hs.key1; rw [if_pos HKO.out, ← H1.out, ← H4.out, ← H2.out, ← H3.out]; simp)
          have HF := Lib.hid (And.intro (show W1.ownsRow w.heap.size 36 10 u m (kyCells (Hs.keys (ps.take (q + 1)) l r)) by rw [HKT2.out]; exact keys_put15 HOWN.out HB1.out hS) (HBW.out.trans (below_low (below_join HB1.out hS) HBW.out.size)))
          clear cA1 cA2 cA3 cA4 k0 k1 k2 k3 k4 k5 k6 k7 k8 k9 hS
          go_wp2_with fail
          go_roundw
          case rel => exact ⟨q + 1, m, u, by omega, by omega, by go_num, rfl, HF.out.1, HF.out.2⟩
          case measure => simp [intOf]; omega
        · have c := cA1 W1
          go_wp2_with fail
          refine c.mono ?_
          rintro e w' ⟨rfl, rfl⟩
          clear c
          have c := cA2 W1
          go_wp2_with fail
          refine c.mono ?_
          rintro e w' ⟨rfl, rfl⟩
          clear c
          have c := cA4 W1
          go_wp2_with fail
          refine c.mono ?_
          rintro e w' ⟨rfl, rfl⟩
          clear c
          have HKT2 := Lib.hid (show Hs.keys (ps.take (q + 1)) l r = Hs.keys (ps.take q) l r by rw [HKT.out]; unfold Hs.key1; rw [if_pos HKO.out, ← H1.out, ← H4.out, ← H2.out]; simp)
          have HF := Lib.hid (And.intro (show W1.ownsRow w.heap.size 36 10 u m (kyCells (Hs.keys (ps.take (q + 1)) l r)) by rw [HKT2.out]; exact keys_put15 HOWN.out HB1.out hS) (HBW.out.trans (below_low (below_join HB1.out hS) HBW.out.size)))
          clear cA1 cA2 cA3 cA4 k0 k1 k2 k3 k4 k5 k6 k7 k8 k9 hS
          go_wp2_with fail
          go_roundw
          case rel => exact ⟨q + 1, m, u, by omega, by omega, by go_num, rfl, HF.out.1, HF.out.2⟩
          case measure => simp [intOf]; omega
        · have c := cA1 W1
          go_wp2_with fail
          refine c.mono ?_
          rintro e w' ⟨rfl, rfl⟩
          clear c
          have c := cA4 W1
          go_wp2_with fail
          refine c.mono ?_
          rintro e w' ⟨rfl, rfl⟩
          clear c
          have c := cA3 W1
          go_wp2_with fail
          refine c.mono ?_
          rintro e w' ⟨rfl, rfl⟩
          clear c
          have HO2 := Lib.hid ((keys_put15 HOWN.out HB1.out hS).alloc (Obj.cells [.int .i64 p.f.b.k, .int .i64 p.f.b.t, .int .i64 p.f.b.c, .bool p.f.b.z, .int .i64 p.f.b.n, .int .i64 p.f.a.k, .int .i64 p.f.a.t, .int .i64 p.f.a.c, .bool p.f.a.z, .int .i64 p.f.a.n].toArray 36))
          have HB5 := Lib.hid ((HBW.out.trans (below_low (below_join HB1.out hS) HBW.out.size)).alloc (by have := HBW.out.size; have := HB1.out.size; have := hS.size; omega) (Obj.cells [.int .i64 p.f.b.k, .int .i64 p.f.b.t, .int .i64 p.f.b.c, .bool p.f.b.z, .int .i64 p.f.b.n, .int .i64 p.f.a.k, .int .i64 p.f.a.t, .int .i64 p.f.a.c, .bool p.f.a.z, .int .i64 p.f.a.n].toArray 36))
          have hcm := Lib.hid (CameN.new W1 36 10 1 [.int .i64 p.f.b.k, .int .i64 p.f.b.t, .int .i64 p.f.b.c, .bool p.f.b.z, .int .i64 p.f.b.n, .int .i64 p.f.a.k, .int .i64 p.f.a.t, .int .i64 p.f.a.c, .bool p.f.a.z, .int .i64 p.f.a.n] W1.heap.size rfl rfl)
          have HKT2 := Lib.hid (show Hs.keys (ps.take (q + 1)) l r = Hs.keys (ps.take q) l r ++ [(p.f.b, p.f.a)] by rw [HKT.out]; unfold Hs.key1; rw [if_pos HKO.out, ← H1.out, ← H3.out, ← H4.out]; rfl)
          go_wp2_with (first
            | (at_builtin; refine wpList_append_n _ rfl _ _ 29 rfl w.heap.size 36 i0 (.agg #[.int .i64 0, .int .i64 0, .int .i64 0, .bool false, .int .i64 0, .int .i64 0, .int .i64 0, .int .i64 0, .bool false, .int .i64 0]) 10 80 Tryd.underlying29 hi hz0 hz1 hz2 rfl (by decide) _ m _ rfl HO2.out _ 1 [.int .i64 p.f.b.k, .int .i64 p.f.b.t, .int .i64 p.f.b.c, .bool p.f.b.z, .int .i64 p.f.b.n, .int .i64 p.f.a.k, .int .i64 p.f.a.t, .int .i64 p.f.a.c, .bool p.f.a.z, .int .i64 p.f.a.n] rfl hcm.out (ky_ones (p.f.b, p.f.a)) ?c3 ?c4 ?c5 ?_))
          case c3 => unfold maxLen; omega
          case c4 => omega
          case c5 => simpa using HB5.out.size
          intro v1 w5 hown1 hgrow
          have hb5 : Below w.heap.size w w5 := HB5.out.grown hgrow HB5.out.size (fun k hk => (HOWN.out.lt k hk).1)
          have hown5 : w5.ownsRow w.heap.size 36 10 v1 (m + 1) (kyCells (Hs.keys (ps.take (q + 1)) l r)) := by rw [HKT2.out, kyCells_snoc]; exact hown1
          have HF := Lib.hid (And.intro hown5 hb5)
          clear hown1 hgrow hown5 hb5 cA1 cA2 cA3 cA4 k0 k1 k2 k3 k4 k5 k6 k7 k8 k9 hS
          go_wp2_with fail
          go_roundw
          case rel => exact ⟨q + 1, m + 1, v1, by omega, by omega, by go_num, rfl, HF.out.1, HF.out.2⟩
          case measure => simp [intOf]; omega
        · have c := cA1 W1
          go_wp2_with fail
          refine c.mono ?_
          rintro e w' ⟨rfl, rfl⟩
          clear c
          have c := cA4 W1
          go_wp2_with fail
          refine c.mono ?_
          rintro e w' ⟨rfl, rfl⟩
          clear c
          have c := cA3 W1
          go_wp2_with fail
          refine c.mono ?_
          rintro e w' ⟨rfl, rfl⟩
          clear c
          have HKT2 := Lib.hid (show Hs.keys (ps.take (q + 1)) l r = Hs.keys (ps.take q) l r by rw [HKT.out]; unfold Hs.key1; rw [if_pos HKO.out, ← H1.out, ← H4.out, ← H3.out]; simp)
          have HF := Lib.hid (And.intro (show W1.ownsRow w.heap.size 36 10 u m (kyCells (Hs.keys (ps.take (q + 1)) l r)) by rw [HKT2.out]; exact keys_put15 HOWN.out HB1.out hS) (HBW.out.trans (below_low (below_join HB1.out hS) HBW.out.size)))
          clear cA1 cA2 cA3 cA4 k0 k1 k2 k3 k4 k5 k6 k7 k8 k9 hS
          go_wp2_with fail
          go_roundw
          case rel => exact ⟨q + 1, m, u, by omega, by omega, by go_num, rfl, HF.out.1, HF.out.2⟩
          case measure => simp [intOf]; omega
        · have c := cA1 W1
          go_wp2_with fail
          refine c.mono ?_
          rintro e w' ⟨rfl, rfl⟩
          clear c
          have c := cA4 W1
          go_wp2_with fail
          refine c.mono ?_
          rintro e w' ⟨rfl, rfl⟩
          clear c
          have HKT2 := Lib.hid (show Hs.keys (ps.take (q + 1)) l r = Hs.keys (ps.take q) l r by rw [HKT.out]; unfold Hs.key1; rw [if_pos HKO.out, ← H1.out, ← H4.out]; simp)
          have HF := Lib.hid (And.intro (show W1.ownsRow w.heap.size 36 10 u m (kyCells (Hs.keys (ps.take (q + 1)) l r)) by rw [HKT2.out]; exact keys_put15 HOWN.out HB1.out hS) (HBW.out.trans (below_low (below_join HB1.out hS) HBW.out.size)))
          clear cA1 cA2 cA3 cA4 k0 k1 k2 k3 k4 k5 k6 k7 k8 k9 hS
          go_wp2_with fail
          go_roundw
          case rel => exact ⟨q + 1, m, u, by omega, by omega, by go_num, rfl, HF.out.1, HF.out.2⟩
          case measure => simp [intOf]; omega
      · have hcase : (p.f.k != 2) = true ∨ ((p.f.k != 2) = false ∧ (p.f.o != 1) = true) ∨ ((p.f.k != 2) = false ∧ (p.f.o != 1) = false ∧ (p.f.a.k != 1) = true) ∨ ((p.f.k != 2) = false ∧ (p.f.o != 1) = false ∧ (p.f.a.k != 1) = false ∧ (p.f.b.k != 1) = true) := by
          by_cases h : p.f.k = 2 <;> by_cases h2 : p.f.o = 1 <;> by_cases h3 : p.f.a.k = 1 <;> by_cases h4 : p.f.b.k = 1 <;> simp_all
        have HKO := Lib.hid (show Hs.key1 l r p = none by
          unfold Hs.key1
          by_cases h : p.f.k = 2 ∧ p.f.o = 1
          · rw [if_pos h]
            by_cases h3 : p.f.a.k = 1
            · have h4 : p.f.b.k ≠ 1 := fun h4 => hko ⟨h, h3, h4⟩
              rw [Hs.inn_no (s := r) h4, Hs.inn_no (s := l) h4]; simp
            · rw [Hs.inn_no (s := l) h3, Hs.inn_no (s := r) h3]; simp
          · rw [if_neg h])
        clear gp hu hx hblt lb hb hown hko hlt
        rcases hcase with e1 | ⟨e1, e2⟩ | ⟨e1, e2, e3⟩ | ⟨e1, e2, e3, e4⟩
        all_goals
          have HKT2 := Lib.hid (show Hs.keys (ps.take (q + 1)) l r = Hs.keys (ps.take q) l r by rw [HKT.out]; rw [HKO.out]; simp)
          have HF := Lib.hid (And.intro (show W1.ownsRow w.heap.size 36 10 u m (kyCells (Hs.keys (ps.take (q + 1)) l r)) by rw [HKT2.out]; exact keys_put15 HOWN.out HB1.out hS) (HBW.out.trans (below_low (below_join HB1.out hS) HBW.out.size)))
          clear hS; rw [hW1] at HF
          go_wp2_with fail
          go_roundw
          case rel => exact ⟨q + 1, m, u, by omega, by omega, by go_num, rfl, HF.out.1, HF.out.2⟩
          case measure => simp [intOf]; omega
    · have hres := Lib.hid (show OwnKys w (Hs.keys ps l r) (.returned u) wr from ⟨u, rfl, by
        rw [List.take_of_length_le (by have := HN.out; omega)] at hown
        have h1 := hown.1
        rw [kyCells_length] at h1
        obtain rfl : (Hs.keys ps l r).length = m := by omega
        exact hown, hb⟩)
      have i2 : ¬ ((q : Int) < (n : Int)) := by omega
      clear hown hb hlt
      go_wp2_with fail
      go_ret
      exact hres.out
end Go.Proofs.YtghonbnmakggnaaDoor
