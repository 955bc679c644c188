/-
  THE CONTRACTS OF package reject: a column; null for sure; a comparison; only, turned, crossed.
-/
import Derived.Test.YtpdgbfeciacbdaaDoorGPlain
import Derived.Test.YtpdgbfeciacbdaaDoorGPred
import Derived.Test.YtpdgbfeciacbdaaDoorGBase
import Derived.Test.YtpdgbfeciacbdaaDoorGLogs
import Derived.Deep.Cut
namespace Go.Proofs.YtpdgbfeciacbdaaDoor
open Go.RowKit Go.Sort
set_option maxHeartbeats 1600000

theorem jcol_any (k t c : Int) (z : Bool) (n : Int) (w : World) :
    Calls Tryd.prog 37 #[.agg #[.int .i64 k, .int .i64 t, .int .i64 c, .bool z, .int .i64 n]] w fun e w' => e = .returned (.bool (k == 1)) ∧ Below w.heap.size w w' := by
  go_enter Tryd.func37, Tryd.ntmps37
  go_wp2_with fail
  go_ret
  exact ⟨rfl, below_new _ _⟩
theorem jcomps_any (o : Int) (w : World) :
    Calls Tryd.prog 36 #[.int .i64 o] w fun e w' => e = .returned (.bool (!(decide (o < 1) || decide (6 < o)))) ∧ w = w' := by
  by_cases h1 : o < 1
  · have d1 : decide (1 ≤ o) = false := by simp; omega
    have H : Hid ((!(decide (o < 1) || decide (6 < o))) = false) := Lib.hid (by simp; omega)
    clear h1
    go_enter Tryd.func36, Tryd.ntmps36
    go_wp2_with fail
    go_ret
    exact ⟨ret_bool H.out.symm, rfl⟩
  · have d1 : decide (1 ≤ o) = true := by simp; omega
    by_cases h2 : 6 < o
    · have d2 : decide (o ≤ 6) = false := by simp; omega
      have H : Hid ((!(decide (o < 1) || decide (6 < o))) = false) := Lib.hid (by simp; omega)
      clear h1 h2
      go_enter Tryd.func36, Tryd.ntmps36
      go_wp2_with fail
      go_ret
      exact ⟨ret_bool H.out.symm, rfl⟩
    · have d2 : decide (o ≤ 6) = true := by simp; omega
      have H : Hid ((!(decide (o < 1) || decide (6 < o))) = true) := Lib.hid (by simp; omega)
      clear h1 h2
      go_enter Tryd.func36, Tryd.ntmps36
      go_wp2_with fail
      go_ret
      exact ⟨ret_bool H.out.symm, rfl⟩
theorem jsure_any (k t c : Int) (z : Bool) (n : Int) (N : Nat) (w : World) (hN : N < 18446744073709551616) :
    Calls Tryd.prog 35 #[.agg #[.int .i64 k, .int .i64 t, .int .i64 c, .bool z, .int .i64 n], .int .u64 (N : Int)] w fun e w' => e = .returned (.bool (Rj.sure ⟨k, t, c, z, n⟩ N)) ∧ Below w.heap.size w w' := by
  obtain ⟨W0, hW0⟩ : ∃ W0, W0 = w.alloc (Obj.cells #[.int .i64 k, .int .i64 t, .int .i64 c, .bool z, .int .i64 n] 31) := ⟨_, rfl⟩
  obtain ⟨l0, hb0⟩ := box_one (cs := [.int .i64 k, .int .i64 t, .int .i64 c, .bool z, .int .i64 n]) hW0
  have ch := fun w => has_any (N : Int) t w (U64.of hN)
  rw [Int.toNat_natCast] at ch
  have cc := jcol_any k t c z n W0
  have HW := Lib.hid hW0
  have L0 := Lib.hid l0
  have HB0 := Lib.hid hb0
  have z0 := l0.cell (i := 0) rfl
  have z1 := l0.cell (i := 1) rfl
  have z2 := l0.cell (i := 2) rfl
  have z3 := l0.cell (i := 3) rfl
  have z4 := l0.cell (i := 4) rfl
  have hlt : w.heap.size < W0.heap.size := l0.lt
  clear hW0 l0 hb0
  have hs : Rj.sure ⟨k, t, c, z, n⟩ N = ((k == 1 && St.hasB N t) || (k != 1 && z)) := rfl
  rw [hs]
  clear hs
  by_cases hk : k = 1
  · have e1 : (k == 1) = true := by simpa using hk
    have e2 : (k != 1) = false := by simp [hk]
    rw [e1] at cc
    rw [e1, e2]
    obtain ⟨r, hr⟩ : ∃ r, r = St.hasB N t := ⟨_, rfl⟩
    rw [← hr] at ch ⊢
    clear hk hr e1 e2
    go_enter Tryd.func35, Tryd.ntmps35
    go_upto_region 1 with (fail)
    rw [← HW.out]
    go_wp2_with fail
    refine cc.mono ?_
    rintro e w2 ⟨rfl, hb2⟩
    have y1 := (hb2.cell (p := ⟨w.heap.size, 1, none⟩) hlt).trans z1
    have HB2 := Lib.hid hb2
    clear cc hb2 z0 z1 z2 z3 z4
    go_wp2_with (first | (with_reducible refine (ch _).mono ?_; rintro e w3 ⟨rfl, rfl⟩))
    go_ret
    exact ⟨ret_bool (by simp), below_join HB0.out HB2.out⟩
  · have e1 : (k == 1) = false := by simpa using hk
    have e2 : (k != 1) = true := by simpa using hk
    rw [e1] at cc
    rw [e1, e2]
    clear hk ch e1 e2
    go_enter Tryd.func35, Tryd.ntmps35
    go_upto_region 1 with (fail)
    rw [← HW.out]
    go_wp2_with fail
    refine cc.mono ?_
    rintro e w2 ⟨rfl, hb2⟩
    have y1 := (hb2.cell (p := ⟨w.heap.size, 3, none⟩) hlt).trans z3
    have HB2 := Lib.hid hb2
    clear cc hb2 z0 z1 z2 z3 z4
    go_wp2_with fail
    go_ret
    exact ⟨ret_bool (by simp), below_join HB0.out HB2.out⟩
theorem jonly_any (v : Value) (l : List Nat) (w : World) (hv : Sl w v (l.map fun (n : Nat) => Value.int .i64 (n : Int))) (hl : l.length ≤ 1000) (h3 : ∀ x ∈ l, x < 3) :
    Calls Tryd.prog 24 #[v] w fun e w' => e = .returned (.agg #[.bool (M3.only l).1, .bool (M3.only l).2.1, .bool (M3.only l).2.2]) ∧ Below w.heap.size w w' := by
  obtain ⟨A, c, rfl, _, hx⟩ := hv
  rw [List.length_map]
  obtain ⟨n, hn⟩ : ∃ n, n = l.length := ⟨_, rfl⟩
  rw [← hn] at hl ⊢
  have HN := Lib.hid hn
  have HX := Lib.hid hx
  have H3 := Lib.hid h3
  obtain ⟨⟨m0, m1, m2⟩, hM⟩ : ∃ m, m = M3.only l := ⟨_, rfl⟩
  rw [← hM]
  have HM := Lib.hid hM
  dsimp only
  clear hM
  obtain ⟨W0, hW0⟩ : ∃ W0, W0 = w.alloc (Obj.cells #[.bool false, .bool false, .bool false] 26) := ⟨_, rfl⟩
  obtain ⟨l0, hb0⟩ := box_one (cs := [.bool false, .bool false, .bool false]) hW0
  obtain ⟨W1, hW1⟩ : ∃ W1, W1 = W0.alloc (Obj.cells #[.bool false, .bool false, .bool false] 26) := ⟨_, rfl⟩
  obtain ⟨l1, hb1⟩ := box_one (cs := [.bool false, .bool false, .bool false]) hW1
  have hz : W0.heap.size = w.heap.size + 1 := by rw [hW0]; simp
  rw [hz] at l1
  have l01 := l0.below hb1 l0.lt
  have HW0 := Lib.hid hW0
  have HW1 := Lib.hid hW1
  have L01 := Lib.hid l01
  have L1 := Lib.hid l1
  have HB1 := Lib.hid (below_join hb0 hb1)
  have HZ := Lib.hid hz
  clear hn hx h3 hW0 hW1 l0 l1 l01 hb0 hb1 hz
  go_enter Tryd.func24, Tryd.ntmps24
  go_upto_region 2 with (fail)
  rw [← HW0.out, ← HW1.out]
  go_wp2_with fail
  go_loopw [8] (fun i wr => ∃ q : Nat, q ≤ n ∧ i = .int .i64 q ∧ Hid (Lies wr (w.heap.size + 1) 26 (M3.only (l.take q)).cells) ∧ Hid (Lies wr w.heap.size 26 [.bool false, .bool false, .bool false]) ∧ Below w.heap.size w wr) (fun i _ => n - (intOf i).toNat)
  case atStart => exact ⟨0, Nat.zero_le _, rfl, Lib.hid (by rw [List.take_zero]; exact L1.out), L01, HB1.out⟩
  case round =>
    obtain ⟨q, hq, rfl, hm, h0, hb⟩ := hrel
    by_cases hlt : q < n
    · obtain ⟨x, gx⟩ : ∃ x, l[q]? = some x := ⟨l[q]'(by have := HN.out; omega), List.getElem?_eq_getElem _⟩
      obtain ⟨b1, o1, p1, rfl, hblt, hcell⟩ := HX.out q (.int .i64 x) (by simp [gx])
      have hcw : wr.cell? ((⟨b1, o1, p1⟩ : Addr).add q) = some (.int .i64 x) := (hb.cell (p := (⟨b1, o1, p1⟩ : Addr).add q) (by unfold Addr.add; split <;> exact hblt)).trans hcell
      have hx3 : x < 3 := H3.out x (List.mem_of_getElem? gx)
      have hcx : wr.cell? ⟨w.heap.size + 1, x, none⟩ = some (.bool ((M3.only (l.take q)).at_ x)) := hm.out.cell (M3.cells_at hx3)
      have hfr : wr.frozen? ⟨w.heap.size + 1, x, none⟩ = false := hm.out.free x
      have HS := Lib.hid (show M3.only (l.take (q + 1)) = (M3.only (l.take q)).put x by rw [List.take_add_one, gx]; exact M3.only_snoc _ _)
      have i1 : (0 : Int) ≤ (x : Int) := by omega
      have i2 : (x : Int) < 3 := by omega
      clear hcell gx
      go_wp2_with fail
      go_roundw
      case rel => exact ⟨q + 1, by omega, by go_num, Lib.hid (by rw [HS.out, ← M3.cells_set hx3]; exact hm.out.set x _), Lib.hid (h0.out.far (by simp) _), hb.setCell (by simp) _⟩
      case measure => simp [intOf]; omega
    · obtain rfl : q = n := by omega
      have hm2 := hm.out
      rw [List.take_of_length_le (by have := HN.out; omega), ← HM.out] at hm2
      have z0 := hm2.cell (i := 0) rfl
      have z1 := hm2.cell (i := 1) rfl
      have z2 := hm2.cell (i := 2) rfl
      have y0 := h0.out.cell (i := 0) rfl
      have y1 := h0.out.cell (i := 1) rfl
      have y2 := h0.out.cell (i := 2) rfl
      have f0 := h0.out.free 0
      have f1 := h0.out.free 1
      have f2 := h0.out.free 2
      clear hm2
      go_wp2_with fail
      exact bodyPost_ret (v := .agg #[.bool m0, .bool m1, .bool m2]) (by simp [results, Tryd.results24, go_sem, y0, y1, y2]) rfl ⟨rfl, ((hb.setCell (by simp) _).setCell (by simp) _).setCell (by simp) _⟩
theorem Lo.notI_nat {t : Nat} (h : t < 3) : Lo.notI (t : Int) = ((2 - t : Nat) : Int) := by
  match t, h with
  | 0, _ => decide
  | 1, _ => decide
  | 2, _ => decide
theorem jturn_any (m : M3) (w : World) :
    Calls Tryd.prog 23 #[.agg #[.bool m.1, .bool m.2.1, .bool m.2.2]] w fun e w' => e = .returned (.agg #[.bool m.2.2, .bool m.2.1, .bool m.1]) ∧ Below w.heap.size w w' := by
  obtain ⟨W0, hW0⟩ : ∃ W0, W0 = w.alloc (Obj.cells #[.bool m.1, .bool m.2.1, .bool m.2.2] 26) := ⟨_, rfl⟩
  obtain ⟨l0, hb0⟩ := box_one (cs := m.cells) hW0
  obtain ⟨W1, hW1⟩ : ∃ W1, W1 = W0.alloc (Obj.cells #[.bool false, .bool false, .bool false] 26) := ⟨_, rfl⟩
  obtain ⟨l1, hb1⟩ := box_one (cs := [.bool false, .bool false, .bool false]) hW1
  obtain ⟨W2, hW2⟩ : ∃ W2, W2 = W1.alloc (Obj.cells #[.bool false, .bool false, .bool false] 26) := ⟨_, rfl⟩
  obtain ⟨l2, hb2⟩ := box_one (cs := M3.no.cells) hW2
  have hz : W0.heap.size = w.heap.size + 1 := by rw [hW0]; simp
  have hz1 : W1.heap.size = w.heap.size + 1 + 1 := by rw [hW1]; simp [hz]
  have l02 := (l0.below hb1 l0.lt).below hb2 (by have := l0.lt; omega)
  have l12 := l1.below hb2 l1.lt
  rw [hz] at l12
  rw [hz1] at l2
  have HW0 := Lib.hid hW0
  have HW1 := Lib.hid hW1
  have HW2 := Lib.hid hW2
  have L0 := Lib.hid l02
  have L1 := Lib.hid l12
  have L2 := Lib.hid l2
  have HB := Lib.hid (below_join (below_join hb0 hb1) hb2)
  have HM := Lib.hid (M3.turn_all m)
  have cn := fun (t : Nat) (h : t < 3) w => Lo.notI_nat h ▸ lnot_any t w
  obtain ⟨y0, h0⟩ : ∃ y, y = m.1 := ⟨_, rfl⟩
  obtain ⟨y1, h1⟩ : ∃ y, y = m.2.1 := ⟨_, rfl⟩
  obtain ⟨y2, h2⟩ : ∃ y, y = m.2.2 := ⟨_, rfl⟩
  rw [← h0, ← h1, ← h2] at HW0 ⊢
  rw [← h0, ← h1, ← h2] at HM
  clear hW0 hW1 hW2 l0 l1 l2 l02 l12 hb0 hb1 hb2 hz hz1 h0 h1 h2
  go_enter Tryd.func23, Tryd.ntmps23
  go_upto_region 2 with (fail)
  rw [← HW0.out, ← HW1.out, ← HW2.out]
  go_wp2_with fail
  go_loopw [5] (fun i wr => ∃ q : Nat, q ≤ 3 ∧ i = .int .i64 q ∧ Hid (Lies wr (w.heap.size + 1 + 1) 26 (m.turn q).cells) ∧ Hid (Lies wr w.heap.size 26 m.cells) ∧ Hid (Lies wr (w.heap.size + 1) 26 [.bool false, .bool false, .bool false]) ∧ Below w.heap.size w wr) (fun i _ => 3 - (intOf i).toNat)
  case atStart => exact ⟨0, Nat.zero_le _, rfl, L2, L0, L1, HB.out⟩
  case round =>
    obtain ⟨q, hq, rfl, hm, h0, h1, hb⟩ := hrel
    by_cases hlt : q < 3
    · obtain ⟨b, hbv⟩ : ∃ b, b = m.at_ q := ⟨_, rfl⟩
      have hcx : wr.cell? ⟨w.heap.size, q, none⟩ = some (.bool b) := hbv ▸ h0.out.cell (M3.cells_at hlt)
      have hbq := Lib.hid hbv.symm
      have i1 : (0 : Int) ≤ (q : Int) := by omega
      have i2 : (q : Int) < 3 := by omega
      clear hbv
      cases b
      · have hs2 : Hid (Lies wr (w.heap.size + 1 + 1) 26 (m.turn (q + 1)).cells) := Lib.hid (by rw [M3.turn_no hbq.out]; exact hm.out)
        clear cn
        go_wp2_with fail
        go_roundw
        case rel => exact ⟨q + 1, by omega, by go_num, hs2, h0, h1, hb⟩
        case measure => simp [intOf]; omega
      · obtain ⟨x, hxx⟩ : ∃ x, x = 2 - q := ⟨_, rfl⟩
        have hx3 : x < 3 := by omega
        have c1 := cn q hlt wr
        rw [← hxx] at c1
        have hc2 : wr.cell? ⟨w.heap.size + 1 + 1, x, none⟩ = some (.bool ((m.turn q).at_ x)) := hm.out.cell (M3.cells_at hx3)
        have hfr : wr.frozen? ⟨w.heap.size + 1 + 1, x, none⟩ = false := hm.out.free x
        have HS := Lib.hid (show m.turn (q + 1) = (m.turn q).put x by rw [hxx]; exact M3.turn_yes hbq.out)
        have i3 : (0 : Int) ≤ (x : Int) := by omega
        have i4 : (x : Int) < 3 := by omega
        clear cn hxx
        go_wp2_with fail
        refine c1.mono ?_
        rintro e w2 ⟨rfl, rfl⟩
        go_wp2_with fail
        go_roundw
        case rel => exact ⟨q + 1, by omega, by go_num, Lib.hid (by rw [HS.out, ← M3.cells_set hx3]; exact hm.out.set x _), Lib.hid (h0.out.far (by simp; omega) _), Lib.hid (h1.out.far (by simp) _), hb.setCell (by simp; omega) _⟩
        case measure => simp [intOf]; omega
    · obtain rfl : q = 3 := by omega
      have hm2 := hm.out
      rw [HM.out] at hm2
      have z0 := hm2.cell (i := 0) rfl
      have z1 := hm2.cell (i := 1) rfl
      have z2 := hm2.cell (i := 2) rfl
      have x0 := h1.out.cell (i := 0) rfl
      have x1 := h1.out.cell (i := 1) rfl
      have x2 := h1.out.cell (i := 2) rfl
      have f0 := h1.out.free 0
      have f1 := h1.out.free 1
      have f2 := h1.out.free 2
      clear hm2 cn
      dsimp only at z0 z1 z2
      go_wp2_with fail
      exact bodyPost_ret (v := .agg #[.bool y2, .bool y1, .bool y0]) (by simp [results, Tryd.results23, go_sem, x0, x1, x2]) rfl ⟨rfl, ((hb.setCell (by simp) _).setCell (by simp) _).setCell (by simp) _⟩
set_option maxRecDepth 100000 in
theorem jcrossA_any (a b : M3) (w : World) :
    Calls Tryd.prog 38 #[.agg #[.bool a.1, .bool a.2.1, .bool a.2.2], .agg #[.bool b.1, .bool b.2.1, .bool b.2.2], .func (.func 21) #[] #[]] w fun e w' => e = .returned (.agg #[.bool (Rj.cA a b).1, .bool (Rj.cA a b).2.1, .bool (Rj.cA a b).2.2]) ∧ Below w.heap.size w w' := by
  obtain ⟨⟨m0, m1, m2⟩, hM⟩ : ∃ m, m = Rj.cA a b := ⟨_, rfl⟩
  rw [← hM]
  have HM := Lib.hid hM
  dsimp only
  clear hM
  obtain ⟨W0, hW0⟩ : ∃ W0, W0 = w.alloc (Obj.cells #[.bool a.1, .bool a.2.1, .bool a.2.2] 26) := ⟨_, rfl⟩
  obtain ⟨l0, hb0⟩ := box_one (cs := a.cells) hW0
  obtain ⟨W1, hW1⟩ : ∃ W1, W1 = W0.alloc (Obj.cells #[.bool b.1, .bool b.2.1, .bool b.2.2] 26) := ⟨_, rfl⟩
  obtain ⟨l1, hb1⟩ := box_one (cs := b.cells) hW1
  obtain ⟨W2, hW2⟩ : ∃ W2, W2 = W1.alloc (Obj.cells #[.bool false, .bool false, .bool false] 26) := ⟨_, rfl⟩
  obtain ⟨l2, hb2⟩ := box_one (cs := [.bool false, .bool false, .bool false]) hW2
  obtain ⟨W3, hW3⟩ : ∃ W3, W3 = W2.alloc (Obj.cells #[.bool false, .bool false, .bool false] 26) := ⟨_, rfl⟩
  obtain ⟨l3, hb3⟩ := box_one (cs := M3.no.cells) hW3
  have hz : W0.heap.size = w.heap.size + 1 := by rw [hW0]; simp
  have hz1 : W1.heap.size = w.heap.size + 1 + 1 := by rw [hW1]; simp [hz]
  have hz2 : W2.heap.size = w.heap.size + 1 + 1 + 1 := by rw [hW2]; simp [hz1]
  have l03 := ((l0.below hb1 l0.lt).below hb2 (by omega)).below hb3 (by omega)
  have l13 := (l1.below hb2 l1.lt).below hb3 (by omega)
  have l23 := l2.below hb3 l2.lt
  rw [hz] at l13
  rw [hz1] at l23
  rw [hz2] at l3
  have hsz : w.heap.size + 4 ≤ W3.heap.size := by rw [hW3]; simp [hz2]
  have HW0 := Lib.hid hW0
  have HW1 := Lib.hid hW1
  have HW2 := Lib.hid hW2
  have HW3 := Lib.hid hW3
  have L0 := Lib.hid l03
  have L1 := Lib.hid l13
  have L2 := Lib.hid l23
  have L3 := Lib.hid l3
  have HB := Lib.hid (below_join (below_join (below_join hb0 hb1) hb2) hb3)
  have HSZ := Lib.hid hsz
  have co : ∀ (s t : Nat) (hs : s < 3) (ht : t < 3) (W : World), Calls Tryd.prog 21 #[.slice (some ⟨W.heap.size, 0, none⟩) 2 2] (W.alloc (.cells #[.int .i64 s, .int .i64 t] 3)) fun e w' => e = .returned (.int .i64 (Rj.oA s t : Nat)) ∧ Below W.heap.size W w' := fun s t hs ht W => by
    have k := land_any _ [(s : Int), (t : Int)] _ (sl_built W [(s : Int), (t : Int)]) (by simp)
    rw [Rj.oA_of hs ht] at k
    exact k.mono fun e w' ⟨he, hb⟩ => ⟨he, below_join (below_new _ _) hb⟩
  have CO := Lib.hid co
  clear hW0 hW1 hW2 hW3 l0 l1 l2 l3 l03 l13 l23 hb0 hb1 hb2 hb3 hz hz1 hz2 hsz co
  go_enter Tryd.func38, Tryd.ntmps38
  go_upto_region 2 with (fail)
  rw [← HW0.out, ← HW1.out, ← HW2.out, ← HW3.out]
  go_wp2_with fail
  go_loopw [10] (fun i wr => ∃ s : Nat, s ≤ 3 ∧ i = .int .i64 s ∧ Hid (Lies wr (w.heap.size + 1 + 1 + 1) 26 (M3.cross Rj.oA a b (3 * s)).cells) ∧ Hid (Lies wr w.heap.size 26 a.cells) ∧ Hid (Lies wr (w.heap.size + 1) 26 b.cells) ∧ Hid (Lies wr (w.heap.size + 1 + 1) 26 [.bool false, .bool false, .bool false]) ∧ w.heap.size + 4 ≤ wr.heap.size ∧ Below w.heap.size w wr) (fun i _ => 3 - (intOf i).toNat)
  case atStart => exact ⟨0, Nat.zero_le _, rfl, L3, L0, L1, L2, HSZ.out, HB.out⟩
  case round =>
    obtain ⟨s, hs, rfl, hm, ha, hbb, h2, hsz, hb⟩ := hrel
    by_cases hlt : s < 3
    · have ds : decide ((s : Int) < 3) = true := by simp; omega
      go_wp2_with fail
      clear ds
      go_loopw [13] (fun i wr => ∃ t : Nat, t ≤ 3 ∧ i = .int .i64 t ∧ Hid (Lies wr (w.heap.size + 1 + 1 + 1) 26 (M3.cross Rj.oA a b (3 * s + t)).cells) ∧ Hid (Lies wr w.heap.size 26 a.cells) ∧ Hid (Lies wr (w.heap.size + 1) 26 b.cells) ∧ Hid (Lies wr (w.heap.size + 1 + 1) 26 [.bool false, .bool false, .bool false]) ∧ w.heap.size + 4 ≤ wr.heap.size ∧ Below w.heap.size w wr) (fun i _ => 3 - (intOf i).toNat)
      case atStart => exact ⟨0, Nat.zero_le _, rfl, hm, ha, hbb, h2, hsz, hb⟩
      case round =>
        clear hm ha hbb h2 hsz hb
        obtain ⟨t, ht, rfl, hm, ha, hbb, h2, hsz, hb⟩ := hrel
        by_cases htlt : t < 3
        · obtain ⟨x, hxv⟩ : ∃ x, x = a.at_ s := ⟨_, rfl⟩
          obtain ⟨y, hyv⟩ : ∃ y, y = b.at_ t := ⟨_, rfl⟩
          have hcx : wr.cell? ⟨w.heap.size, s, none⟩ = some (.bool x) := hxv ▸ ha.out.cell (M3.cells_at hlt)
          have hcy : wr.cell? ⟨w.heap.size + 1, t, none⟩ = some (.bool y) := hyv ▸ hbb.out.cell (M3.cells_at htlt)
          have hxq := Lib.hid hxv.symm
          have hyq := Lib.hid hyv.symm
          have i1 : (0 : Int) ≤ (s : Int) := by omega
          have i2 : (s : Int) < 3 := by omega
          have i3 : (0 : Int) ≤ (t : Int) := by omega
          have i4 : (t : Int) < 3 := by omega
          clear hxv hyv
          have no : (x && y) = false → Hid (Lies wr (w.heap.size + 1 + 1 + 1) 26 (M3.cross Rj.oA a b (3 * s + (t + 1))).cells) := fun h => Lib.hid (by
            rw [show 3 * s + (t + 1) = 3 * s + t + 1 by omega, M3.cross_no htlt (by rw [hxq.out, hyq.out]; exact h)]; exact hm.out)
          cases x
          · have hs2 := no rfl
            clear no
            go_wp2_with fail
            go_roundw
            case rel => exact ⟨t + 1, by omega, by go_num, hs2, ha, hbb, h2, hsz, hb⟩
            case measure => simp [intOf]; omega
          · cases y
            · have hs2 := no rfl
              clear no
              go_wp2_with fail
              go_roundw
              case rel => exact ⟨t + 1, by omega, by go_num, hs2, ha, hbb, h2, hsz, hb⟩
              case measure => simp [intOf]; omega
            · obtain ⟨z, hzz⟩ : ∃ z, z = Rj.oA s t := ⟨_, rfl⟩
              have hz3 : z < 3 := by rw [hzz]; exact Rj.oA_lt hlt htlt
              have c1 := CO.out s t hlt htlt wr
              rw [← hzz] at c1
              have HS := Lib.hid (show M3.cross Rj.oA a b (3 * s + (t + 1)) = (M3.cross Rj.oA a b (3 * s + t)).put z by
                rw [hzz, show 3 * s + (t + 1) = 3 * s + t + 1 by omega]; exact M3.cross_yes htlt hxq.out hyq.out)
              have i5 : (0 : Int) ≤ (z : Int) := by omega
              have i6 : (z : Int) < 3 := by omega
              clear hzz no
              go_wp2_with fail
              refine c1.mono ?_
              rintro e w2 ⟨rfl, hb2⟩
              have hm' := hm.out.below hb2 (by omega)
              have hc2 : w2.cell? ⟨w.heap.size + 1 + 1 + 1, z, none⟩ = some (.bool ((M3.cross Rj.oA a b (3 * s + t)).at_ z)) := hm'.cell (M3.cells_at hz3)
              have hfr : w2.frozen? ⟨w.heap.size + 1 + 1 + 1, z, none⟩ = false := hm'.free z
              have hmm := Lib.hid hm'
              have ha' := Lib.hid (ha.out.below hb2 (by omega))
              have hbb' := Lib.hid (hbb.out.below hb2 (by omega))
              have h2' := Lib.hid (h2.out.below hb2 (by omega))
              have hb' := below_join hb hb2
              have hsz' : w.heap.size + 4 ≤ w2.heap.size := Nat.le_trans hsz hb2.size
              clear hm' c1 hb2 hcx hcy
              go_wp2_with fail
              go_roundw
              case rel => exact ⟨t + 1, by omega, by go_num, Lib.hid (by rw [HS.out, ← M3.cells_set hz3]; exact hmm.out.set z _), Lib.hid (ha'.out.far (by simp; omega) _), Lib.hid (hbb'.out.far (by simp) _), Lib.hid (h2'.out.far (by simp) _), by simpa using hsz', hb'.setCell (by simp; omega) _⟩
              case measure => simp [intOf]; omega
        · obtain rfl : t = 3 := by omega
          go_wp2_with fail
          go_roundw
          case rel => exact ⟨s + 1, by omega, by go_num, Lib.hid (by rw [show 3 * (s + 1) = 3 * s + 3 by omega]; exact hm.out), ha, hbb, h2, hsz, hb⟩
          case measure => simp [intOf]; omega
    · obtain rfl : s = 3 := by omega
      have hm2 : Lies wr (w.heap.size + 1 + 1 + 1) 26 (Rj.cA a b).cells := hm.out
      rw [← HM.out] at hm2
      have z0 := hm2.cell (i := 0) rfl
      have z1 := hm2.cell (i := 1) rfl
      have z2 := hm2.cell (i := 2) rfl
      have x0 := h2.out.cell (i := 0) rfl
      have x1 := h2.out.cell (i := 1) rfl
      have x2 := h2.out.cell (i := 2) rfl
      have f0 := h2.out.free 0
      have f1 := h2.out.free 1
      have f2 := h2.out.free 2
      clear hm2
      dsimp only at z0 z1 z2
      go_wp2_with fail
      exact bodyPost_ret (v := .agg #[.bool m0, .bool m1, .bool m2]) (by simp [results, Tryd.results38, go_sem, x0, x1, x2]) rfl ⟨rfl, ((hb.setCell (by simp; omega) _).setCell (by simp; omega) _).setCell (by simp; omega) _⟩
set_option maxRecDepth 100000 in
theorem jcrossO_any (a b : M3) (w : World) :
    Calls Tryd.prog 38 #[.agg #[.bool a.1, .bool a.2.1, .bool a.2.2], .agg #[.bool b.1, .bool b.2.1, .bool b.2.2], .func (.func 22) #[] #[]] w fun e w' => e = .returned (.agg #[.bool (Rj.cO a b).1, .bool (Rj.cO a b).2.1, .bool (Rj.cO a b).2.2]) ∧ Below w.heap.size w w' := by
  obtain ⟨⟨m0, m1, m2⟩, hM⟩ : ∃ m, m = Rj.cO a b := ⟨_, rfl⟩
  rw [← hM]
  have HM := Lib.hid hM
  dsimp only
  clear hM
  obtain ⟨W0, hW0⟩ : ∃ W0, W0 = w.alloc (Obj.cells #[.bool a.1, .bool a.2.1, .bool a.2.2] 26) := ⟨_, rfl⟩
  obtain ⟨l0, hb0⟩ := box_one (cs := a.cells) hW0
  obtain ⟨W1, hW1⟩ : ∃ W1, W1 = W0.alloc (Obj.cells #[.bool b.1, .bool b.2.1, .bool b.2.2] 26) := ⟨_, rfl⟩
  obtain ⟨l1, hb1⟩ := box_one (cs := b.cells) hW1
  obtain ⟨W2, hW2⟩ : ∃ W2, W2 = W1.alloc (Obj.cells #[.bool false, .bool false, .bool false] 26) := ⟨_, rfl⟩
  obtain ⟨l2, hb2⟩ := box_one (cs := [.bool false, .bool false, .bool false]) hW2
  obtain ⟨W3, hW3⟩ : ∃ W3, W3 = W2.alloc (Obj.cells #[.bool false, .bool false, .bool false] 26) := ⟨_, rfl⟩
  obtain ⟨l3, hb3⟩ := box_one (cs := M3.no.cells) hW3
  have hz : W0.heap.size = w.heap.size + 1 := by rw [hW0]; simp
  have hz1 : W1.heap.size = w.heap.size + 1 + 1 := by rw [hW1]; simp [hz]
  have hz2 : W2.heap.size = w.heap.size + 1 + 1 + 1 := by rw [hW2]; simp [hz1]
  have l03 := ((l0.below hb1 l0.lt).below hb2 (by omega)).below hb3 (by omega)
  have l13 := (l1.below hb2 l1.lt).below hb3 (by omega)
  have l23 := l2.below hb3 l2.lt
  rw [hz] at l13
  rw [hz1] at l23
  rw [hz2] at l3
  have hsz : w.heap.size + 4 ≤ W3.heap.size := by rw [hW3]; simp [hz2]
  have HW0 := Lib.hid hW0
  have HW1 := Lib.hid hW1
  have HW2 := Lib.hid hW2
  have HW3 := Lib.hid hW3
  have L0 := Lib.hid l03
  have L1 := Lib.hid l13
  have L2 := Lib.hid l23
  have L3 := Lib.hid l3
  have HB := Lib.hid (below_join (below_join (below_join hb0 hb1) hb2) hb3)
  have HSZ := Lib.hid hsz
  have co : ∀ (s t : Nat) (hs : s < 3) (ht : t < 3) (W : World), Calls Tryd.prog 22 #[.slice (some ⟨W.heap.size, 0, none⟩) 2 2] (W.alloc (.cells #[.int .i64 s, .int .i64 t] 3)) fun e w' => e = .returned (.int .i64 (Rj.oO s t : Nat)) ∧ Below W.heap.size W w' := fun s t hs ht W => by
    have k := lor_any _ [(s : Int), (t : Int)] _ (sl_built W [(s : Int), (t : Int)]) (by simp)
    rw [Rj.oO_of hs ht] at k
    exact k.mono fun e w' ⟨he, hb⟩ => ⟨he, below_join (below_new _ _) hb⟩
  have CO := Lib.hid co
  clear hW0 hW1 hW2 hW3 l0 l1 l2 l3 l03 l13 l23 hb0 hb1 hb2 hb3 hz hz1 hz2 hsz co
  go_enter Tryd.func38, Tryd.ntmps38
  go_upto_region 2 with (fail)
  rw [← HW0.out, ← HW1.out, ← HW2.out, ← HW3.out]
  go_wp2_with fail
  go_loopw [10] (fun i wr => ∃ s : Nat, s ≤ 3 ∧ i = .int .i64 s ∧ Hid (Lies wr (w.heap.size + 1 + 1 + 1) 26 (M3.cross Rj.oO a b (3 * s)).cells) ∧ Hid (Lies wr w.heap.size 26 a.cells) ∧ Hid (Lies wr (w.heap.size + 1) 26 b.cells) ∧ Hid (Lies wr (w.heap.size + 1 + 1) 26 [.bool false, .bool false, .bool false]) ∧ w.heap.size + 4 ≤ wr.heap.size ∧ Below w.heap.size w wr) (fun i _ => 3 - (intOf i).toNat)
  case atStart => exact ⟨0, Nat.zero_le _, rfl, L3, L0, L1, L2, HSZ.out, HB.out⟩
  case round =>
    obtain ⟨s, hs, rfl, hm, ha, hbb, h2, hsz, hb⟩ := hrel
    by_cases hlt : s < 3
    · have ds : decide ((s : Int) < 3) = true := by simp; omega
      go_wp2_with fail
      clear ds
      go_loopw [13] (fun i wr => ∃ t : Nat, t ≤ 3 ∧ i = .int .i64 t ∧ Hid (Lies wr (w.heap.size + 1 + 1 + 1) 26 (M3.cross Rj.oO a b (3 * s + t)).cells) ∧ Hid (Lies wr w.heap.size 26 a.cells) ∧ Hid (Lies wr (w.heap.size + 1) 26 b.cells) ∧ Hid (Lies wr (w.heap.size + 1 + 1) 26 [.bool false, .bool false, .bool false]) ∧ w.heap.size + 4 ≤ wr.heap.size ∧ Below w.heap.size w wr) (fun i _ => 3 - (intOf i).toNat)
      case atStart => exact ⟨0, Nat.zero_le _, rfl, hm, ha, hbb, h2, hsz, hb⟩
      case round =>
        clear hm ha hbb h2 hsz hb
        obtain ⟨t, ht, rfl, hm, ha, hbb, h2, hsz, hb⟩ := hrel
        by_cases htlt : t < 3
        · obtain ⟨x, hxv⟩ : ∃ x, x = a.at_ s := ⟨_, rfl⟩
          obtain ⟨y, hyv⟩ : ∃ y, y = b.at_ t := ⟨_, rfl⟩
          have hcx : wr.cell? ⟨w.heap.size, s, none⟩ = some (.bool x) := hxv ▸ ha.out.cell (M3.cells_at hlt)
          have hcy : wr.cell? ⟨w.heap.size + 1, t, none⟩ = some (.bool y) := hyv ▸ hbb.out.cell (M3.cells_at htlt)
          have hxq := Lib.hid hxv.symm
          have hyq := Lib.hid hyv.symm
          have i1 : (0 : Int) ≤ (s : Int) := by omega
          have i2 : (s : Int) < 3 := by omega
          have i3 : (0 : Int) ≤ (t : Int) := by omega
          have i4 : (t : Int) < 3 := by omega
          clear hxv hyv
          have no : (x && y) = false → Hid (Lies wr (w.heap.size + 1 + 1 + 1) 26 (M3.cross Rj.oO a b (3 * s + (t + 1))).cells) := fun h => Lib.hid (by
            rw [show 3 * s + (t + 1) = 3 * s + t + 1 by omega, M3.cross_no htlt (by rw [hxq.out, hyq.out]; exact h)]; exact hm.out)
          cases x
          · have hs2 := no rfl
            clear no
            go_wp2_with fail
            go_roundw
            case rel => exact ⟨t + 1, by omega, by go_num, hs2, ha, hbb, h2, hsz, hb⟩
            case measure => simp [intOf]; omega
          · cases y
            · have hs2 := no rfl
              clear no
              go_wp2_with fail
              go_roundw
              case rel => exact ⟨t + 1, by omega, by go_num, hs2, ha, hbb, h2, hsz, hb⟩
              case measure => simp [intOf]; omega
            · obtain ⟨z, hzz⟩ : ∃ z, z = Rj.oO s t := ⟨_, rfl⟩
              have hz3 : z < 3 := by rw [hzz]; exact Rj.oO_lt hlt htlt
              have c1 := CO.out s t hlt htlt wr
              rw [← hzz] at c1
              have HS := Lib.hid (show M3.cross Rj.oO a b (3 * s + (t + 1)) = (M3.cross Rj.oO a b (3 * s + t)).put z by
                rw [hzz, show 3 * s + (t + 1) = 3 * s + t + 1 by omega]; exact M3.cross_yes htlt hxq.out hyq.out)
              have i5 : (0 : Int) ≤ (z : Int) := by omega
              have i6 : (z : Int) < 3 := by omega
              clear hzz no
              go_wp2_with fail
              refine c1.mono ?_
              rintro e w2 ⟨rfl, hb2⟩
              have hm' := hm.out.below hb2 (by omega)
              have hc2 : w2.cell? ⟨w.heap.size + 1 + 1 + 1, z, none⟩ = some (.bool ((M3.cross Rj.oO a b (3 * s + t)).at_ z)) := hm'.cell (M3.cells_at hz3)
              have hfr : w2.frozen? ⟨w.heap.size + 1 + 1 + 1, z, none⟩ = false := hm'.free z
              have hmm := Lib.hid hm'
              have ha' := Lib.hid (ha.out.below hb2 (by omega))
              have hbb' := Lib.hid (hbb.out.below hb2 (by omega))
              have h2' := Lib.hid (h2.out.below hb2 (by omega))
              have hb' := below_join hb hb2
              have hsz' : w.heap.size + 4 ≤ w2.heap.size := Nat.le_trans hsz hb2.size
              clear hm' c1 hb2 hcx hcy
              go_wp2_with fail
              go_roundw
              case rel => exact ⟨t + 1, by omega, by go_num, Lib.hid (by rw [HS.out, ← M3.cells_set hz3]; exact hmm.out.set z _), Lib.hid (ha'.out.far (by simp; omega) _), Lib.hid (hbb'.out.far (by simp) _), Lib.hid (h2'.out.far (by simp) _), by simpa using hsz', hb'.setCell (by simp; omega) _⟩
              case measure => simp [intOf]; omega
        · obtain rfl : t = 3 := by omega
          go_wp2_with fail
          go_roundw
          case rel => exact ⟨s + 1, by omega, by go_num, Lib.hid (by rw [show 3 * (s + 1) = 3 * s + 3 by omega]; exact hm.out), ha, hbb, h2, hsz, hb⟩
          case measure => simp [intOf]; omega
    · obtain rfl : s = 3 := by omega
      have hm2 : Lies wr (w.heap.size + 1 + 1 + 1) 26 (Rj.cO a b).cells := hm.out
      rw [← HM.out] at hm2
      have z0 := hm2.cell (i := 0) rfl
      have z1 := hm2.cell (i := 1) rfl
      have z2 := hm2.cell (i := 2) rfl
      have x0 := h2.out.cell (i := 0) rfl
      have x1 := h2.out.cell (i := 1) rfl
      have x2 := h2.out.cell (i := 2) rfl
      have f0 := h2.out.free 0
      have f1 := h2.out.free 1
      have f2 := h2.out.free 2
      clear hm2
      dsimp only at z0 z1 z2
      go_wp2_with fail
      exact bodyPost_ret (v := .agg #[.bool m0, .bool m1, .bool m2]) (by simp [results, Tryd.results38, go_sem, x0, x1, x2]) rfl ⟨rfl, ((hb.setCell (by simp; omega) _).setCell (by simp; omega) _).setCell (by simp; omega) _⟩
end Go.Proofs.YtpdgbfeciacbdaaDoor
