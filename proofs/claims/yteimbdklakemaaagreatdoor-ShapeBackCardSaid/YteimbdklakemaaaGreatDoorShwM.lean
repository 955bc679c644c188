/-
  THE READER OF TREES: a tree.
-/
import Derived.Test.YteimbdklakemaaaGreatDoorShvM
namespace Go.Proofs.YteimbdklakemaaaGreatDoor
open Go.RowKit Go.Sort
set_option maxHeartbeats 6400000

theorem opens_go {l : List Int} {s : Sh.St} {j : Nat} (h : j ≤ Sh.opens l s) : (Sh.nx l ⟨s.i + j, s.v, s.e⟩ = 40) ↔ j < Sh.opens l s := by
  constructor
  · intro hx
    rcases Nat.lt_or_ge j (Sh.opens l s) with h1 | h1
    · exact h1
    · exfalso
      obtain rfl : j = Sh.opens l s := by omega
      obtain ⟨he, hat⟩ := Sh.nx_eq hx (by decide)
      have he' : s.e = 0 := he
      unfold Sh.opens at hat
      rw [if_pos he'] at hat
      dsimp only at hat
      have key : ∀ m : List Int, m.getD (m.takeWhile (· == 40)).length (-1) ≠ 40 := by
        intro m
        induction m with
        | nil => simp
        | cons c r ih =>
          rw [List.takeWhile_cons]
          by_cases hc : c = 40
          · subst hc
            simpa using ih
          · rw [if_neg (by simpa using hc)]
            simpa using hc
      refine key (l.drop s.i) ?_
      unfold Tx.at_ at hat
      rw [List.getD_eq_getElem?_getD] at hat ⊢
      rw [List.getElem?_drop]
      exact hat
  · intro hj
    have := Sh.opens_at j hj
    unfold Sh.nx
    by_cases he : s.e = 0
    · rw [if_pos he]; exact this
    · unfold Sh.opens at hj; rw [if_neg he] at hj; omega
set_option maxRecDepth 100000 in
theorem stree_of {w0 : World} {R b c : Nat} {l : List Int} (hs : Src w0 R b c l) (k : Nat) (tr : Sh.St → Tr × Sh.St) (htk : ∀ s, Sh.Ok l s → Sh.Ok l (tr s).2) (hmo : Sh.TreeTook l tr) (s : Sh.St) (w : World) (h : SRd w0 w R b c l.length s) (hk : Sh.Ok l s) (hroom : s.e = 0 → l.length < s.i + (k + 1))
    (hop : s.e = 0 → ∀ (lo : Nat) (x : Tr) (AU : Option Addr) (mU kU : Nat) (AV : Option Addr) (mV kV : Nat) (s : Sh.St) (w : World), SRd w0 w R b c l.length s → Sh.Ok l s → (s.e = 0 → l.length < s.i + (k + 1)) → R < lo → lo ≤ w.heap.size → (s.e = 0 → TrFrom lo w x (.slice AU mU kU) (.slice AV mV kV)) →
      Calls Tryz.prog 29 #[.pointer (some ⟨R, 0, none⟩), .agg #[.int .i64 x.k, .int .i64 x.t, .slice AU mU kU, .slice AV mV kV, .bool x.h]] w (GotT lo w0 R b c l w (Sh.oper l tr x s))) :
    Calls Tryz.prog 15 #[.pointer (some ⟨R, 0, none⟩)] w (GotT w.heap.size w0 R b c l w (Sh.ops (Sh.oper l tr) (Sh.opens l s) (Sh.leaf l ⟨s.i + Sh.opens l s, s.v, s.e⟩).1 (Sh.leaf l ⟨s.i + Sh.opens l s, s.v, s.e⟩).2)) := by
  obtain ⟨o0, ho0⟩ : ∃ o0, o0 = Obj.cells #[.int .i64 0, .int .i64 0, .slice none 0 0, .slice none 0 0, .bool false] 25 := ⟨_, rfl⟩
  have hRw : R < w.heap.size := h.lt
  have l0 : Lies (w.alloc o0) w.heap.size 25 [.int .i64 0, .int .i64 0, .slice none 0 0, .slice none 0 0, .bool false] := by rw [ho0]; exact Lies.new _ _ _
  have h0 := h.alloc o0
  have g0 : Gw R w (w.alloc o0) := Gw.of (below_new _ _)
  obtain ⟨wA, hwA⟩ : ∃ wA, wA = w.alloc o0 := ⟨_, rfl⟩
  rw [← hwA] at l0 h0 g0
  obtain ⟨O, hO⟩ : ∃ O, O = Sh.opens l s := ⟨_, rfl⟩
  have hgo := fun j (h : j ≤ Sh.opens l s) => opens_go (l := l) (s := s) (j := j) h
  have hOl := Sh.opens_le (l := l) (s := s) hk.1
  have hko := hk.opened
  rw [← hO] at hgo hOl hko ⊢
  have hlen := hs.len
  have hO1 : O ≤ 1000000 := by omega
  obtain ⟨n, sB, hlf⟩ : ∃ (n : Nat) (sB : Sh.St), (Sh.leafT n, sB) = Sh.leaf l ⟨s.i + O, s.v, s.e⟩ := ⟨_, _, rfl⟩
  have hkB : Sh.Ok l sB := by have := hko.leaf; rw [← hlf] at this; exact this
  have hroomB : sB.e = 0 → s.e = 0 ∧ l.length < sB.i + (k + 1) := by
    intro he
    have hh : (Sh.leaf l ⟨s.i + O, s.v, s.e⟩).2.e = 0 := by rw [← hlf]; exact he
    obtain ⟨c1, _, _, n', _, _, c6⟩ := Sh.leaf_took hh
    have q := Sh.Stands.le c6
    rw [← hlf] at q
    have q' : s.i + O ≤ sB.i := q
    have c1' : s.e = 0 := c1
    have := hroom c1'
    exact ⟨c1', by omega⟩
  have Hs := Lib.hid hs
  have HGO := Lib.hid hgo
  have HOL := Lib.hid (And.intro hOl hO1)
  have HLF := Lib.hid hlf
  have HKO := Lib.hid (And.intro hko hkB)
  have HRB := Lib.hid hroomB
  have HOP := Lib.hid hop
  have HTK := Lib.hid htk
  have HMO := Lib.hid hmo
  have HA := Lib.hid ho0
  have HWA := Lib.hid hwA
  have HRW := Lib.hid hRw
  rw [← hlf]
  have L0 := Lib.hid l0
  have H0 := Lib.hid h0
  have G0 := Lib.hid g0
  clear hs hgo hOl hO1 hlf hko hkB hroomB hop htk hmo ho0 hwA hRw l0 h0 g0 h hk hroom hlen hO
  go_enter Tryz.func15, Tryz.ntmps15
  go_wp2_with (fail)
  rw [← HA.out, ← HWA.out]
  go_loopw [3] (fun v wr => ∃ j : Nat, v = .int .i64 j ∧ j ≤ O ∧ SRd w0 wr R b c l.length ⟨s.i + j, s.v, s.e⟩ ∧ Gw R w wr ∧ Hid (Lies wr w.heap.size 25 [.int .i64 0, .int .i64 0, .slice none 0 0, .slice none 0 0, .bool false])) (fun v _ => O + 1 - (intOf v).toNat)
  case atStart => exact ⟨0, rfl, Nat.zero_le _, H0.out, G0.out, L0⟩
  case round =>
    obtain ⟨j, rfl, hj, hr, hg, hl⟩ := hrel
    clear H0 G0 L0
    obtain ⟨B, hB⟩ : ∃ B, B = decide (Sh.nx l ⟨s.i + j, s.v, s.e⟩ = 40) := ⟨_, rfl⟩
    obtain ⟨s1, hs1⟩ : ∃ s1, s1 = Sh.skip l 40 ⟨s.i + j, s.v, s.e⟩ := ⟨_, rfl⟩
    have cs := sskip_any Hs.out ⟨s.i + j, s.v, s.e⟩ 40 wr hr (by have := HOL.out.1; show s.i + j ≤ _; omega) B hB s1 hs1
    have hiff := HGO.out j hj
    have Hg := Lib.hid hg
    have hRw := HRW.out
    have HB := Lib.hid hB
    have HS1 := Lib.hid hs1
    clear hr hg hB hs1
    cases B
    · have hn : ¬ Sh.nx l ⟨s.i + j, s.v, s.e⟩ = 40 := by simpa using HB.out.symm
      obtain rfl : j = O := by
        rcases Nat.lt_or_ge j O with h1 | h1
        · exact absurd (hiff.2 h1) hn
        · omega
      obtain rfl : s1 = ⟨s.i + j, s.v, s.e⟩ := by rw [HS1.out]; exact skip_off hn
      clear hn hiff HS1 hj
      go_wp2_with (fail)
      refine cs.mono ?_
      rintro E w1 ⟨rfl, h1, g1⟩
      have cl := sleaf_any Hs.out ⟨s.i + j, s.v, s.e⟩ w1 h1 HKO.out.1 n sB HLF.out
      have G1 := Lib.hid (Hg.out.trans g1)
      have L1 := Lib.hid (g1.lies hl.out (by omega))
      clear cs h1 g1 hl Hg
      go_wp2_with (fail)
      refine cl.mono ?_
      rintro E w2 ⟨rfl, h2, g2⟩
      obtain ⟨o1, ho1⟩ : ∃ o1, o1 = Obj.cells #[.int .i64 0, .int .i64 n, .slice none 0 0, .slice none 0 0, .bool false] 25 := ⟨_, rfl⟩
      obtain ⟨w3, hw3⟩ : ∃ w3, w3 = w2.alloc o1 := ⟨_, rfl⟩
      obtain ⟨g4, hg4⟩ : ∃ g4, w2.heap.size = g4 := ⟨_, rfl⟩
      have G3 := Lib.hid (show Gw R w w3 by rw [hw3]; exact (G1.out.trans g2).trans (Gw.of (below_new _ _)))
      have L3 := Lib.hid (show Lies w3 w.heap.size 25 [.int .i64 0, .int .i64 0, .slice none 0 0, .slice none 0 0, .bool false] by rw [hw3]; exact (g2.lies L1.out (by omega)).alloc _)
      have L4 := Lib.hid (show Lies w3 g4 25 [.int .i64 0, .int .i64 n, .slice none 0 0, .slice none 0 0, .bool false] by rw [hw3, ho1, ← hg4]; exact Lies.new _ _ _)
      have H3 := Lib.hid (show SRd w0 w3 R b c l.length sB by rw [hw3]; exact h2.alloc _)
      have HZ := Lib.hid (show w.heap.size < g4 ∧ w3.heap.size = g4 + 1 from ⟨by rw [← hg4]; have h5 := g2.size; have h6 := L1.out.lt; omega, by rw [hw3, World.size_alloc, hg4]⟩)
      have HO1 := Lib.hid ho1
      have HW3 := Lib.hid hw3
      have HG4 := Lib.hid hg4
      clear cl h2 g2 ho1 hw3 G1 L1 hg4 hRw
      go_upto_region 5 with (fail)
      rw [← HO1.out, ← HW3.out, HG4.out]
      go_loopw [3] (fun v wr => ∃ (o : Nat) (x : Tr) (AU : Option Addr) (mU kU : Nat) (AV : Option Addr) (mV kV : Nat) (s2 : Sh.St) (x' : Tr), v = .int .i64 o ∧ o ≤ 1000000 ∧ Lies wr g4 25 [.int .i64 x.k, .int .i64 x.t, .slice AU mU kU, .slice AV mV kV, .bool x.h] ∧ SRd w0 wr R b c l.length s2 ∧ Gw R w wr ∧ Sh.Ok l s2 ∧ g4 + 1 ≤ wr.heap.size ∧
          Hid (Lies wr w.heap.size 25 [.int .i64 0, .int .i64 0, .slice none 0 0, .slice none 0 0, .bool false]) ∧ Hid (Sh.ops (Sh.oper l tr) o x' s2 = Sh.ops (Sh.oper l tr) j (Sh.leafT n) sB) ∧ Hid (s2.e = 0 → x' = x ∧ TrFrom (g4 + 1) wr x (.slice AU mU kU) (.slice AV mV kV) ∧ s.e = 0 ∧ l.length < s2.i + (k + 1))) (fun v _ => (intOf v).toNat)
      case atStart => exact ⟨j, Sh.leafT n, none, 0, 0, none, 0, 0, sB, Sh.leafT n, rfl, HOL.out.2, L4.out, H3.out, G3.out, HKO.out.2, by rw [HZ.out.2]; exact Nat.le_refl _, L3, Lib.hid rfl, Lib.hid fun he => ⟨rfl, TrFrom.leaf _ _ _, HRB.out he⟩⟩
      case round =>
        obtain ⟨o, x, AU, mU, kU, AV, mV, kV, s2, x', rfl, ho, hL, hr, hg, hk2, hsz, hl, hops, hyes⟩ := hrel
        clear G3 L3 L4 H3 HO1 HW3
        have x3 := hr.lies.cell (i := 3) rfl
        have a0 := hL.cell (i := 0) rfl
        have p0 := hL.free 0
        have a1 := hL.cell (i := 1) rfl
        have p1 := hL.free 1
        have a2 := hL.cell (i := 2) rfl
        have p2 := hL.free 2
        have a3 := hL.cell (i := 3) rfl
        have p3 := hL.free 3
        have a4 := hL.cell (i := 4) rfl
        have p4 := hL.free 4
        have HL := Lib.hid hL
        have Hr := Lib.hid hr
        have Hg := Lib.hid hg
        have HK2 := Lib.hid hk2
        have HSZ := Lib.hid hsz
        have HRW2 := HRW.out
        have HZ2 := HZ.out
        by_cases hgo2 : 0 < o ∧ s2.e = 0
        · obtain ⟨ho0, he0⟩ := hgo2
          obtain ⟨o', ho'⟩ : ∃ o', o = o' + 1 := ⟨o - 1, by omega⟩
          have e1 : decide (0 < (o : Int)) = true := by simp; omega
          have e1n : decide (0 < o) = true := by simp; omega
          have hw : wrap64 ((o : Int) - 1) = (o' : Int) := by rw [wrap64_id (by omega) (by omega)]; omega
          obtain ⟨y1, y2, y3, y4⟩ := hyes.out he0
          have co := HOP.out y3 (g4 + 1) x AU mU kU AV mV kV s2 wr hr hk2 (fun _ => y4) (by omega) hsz (fun _ => y2)
          rw [he0] at x3
          have HY := Lib.hid (And.intro ho' (And.intro he0 (And.intro y1 (And.intro y3 y4))))
          obtain ⟨gt, hgt⟩ : ∃ gt, gt = Sh.oper l tr x s2 := ⟨_, rfl⟩
          rw [← hgt] at co
          have HGT := Lib.hid hgt
          have Hz := Lib.hid (And.intro HRW2 HZ2)
          clear hL hr hg hk2 hsz y1 y2 y3 y4 ho0 he0 ho' hgt hyes HRW2 HZ2
          go_wp2_with (fail)
          refine co.mono ?_
          rintro E w5 ⟨y, A2, m2, c2, A3, m3, c3, s5, rfl, hs5, hy, hyt, h5, g5⟩
          have l5 := g5.lies HL.out (by have := Hz.out; omega)
          have hRg : R < g4 := by have := Hz.out; omega
          have gw5 := Hg.out.trans g5
          have hwg : w.heap.size ≤ g4 := by have := Hz.out; omega
          have b0 := l5.cell (i := 0) rfl
          have q0 := l5.free 0
          have b1 := l5.cell (i := 1) rfl
          have q1 := l5.free 1
          have b2 := l5.cell (i := 2) rfl
          have q2 := l5.free 2
          have b3 := l5.cell (i := 3) rfl
          have q3 := l5.free 3
          have b4 := l5.cell (i := 4) rfl
          have q4 := l5.free 4
          have LF : Lies _ g4 _ [.int .i64 y.k, .int .i64 y.t, .slice A2 m2 c2, .slice A3 m3 c3, .bool y.h] := (((((l5.set 0 (.int .i64 y.k)).set 1 (.int .i64 y.t)).set 2 (.slice A2 m2 c2)).set 3 (.slice A3 m3 c3)).set 4 (.bool y.h))
          have z0 := LF.cell (i := 0) rfl
          have z1 := LF.cell (i := 1) rfl
          have z2 := LF.cell (i := 2) rfl
          have z3 := LF.cell (i := 3) rfl
          have z4 := LF.cell (i := 4) rfl
          have HF := Lib.hid (((((h5.put hRg 0 (.int .i64 y.k)).put hRg 1 (.int .i64 y.t)).put hRg 2 (.slice A2 m2 c2)).put hRg 3 (.slice A3 m3 c3)).put hRg 4 (.bool y.h))
          have HGF := Lib.hid (((((gw5.put hwg 0 (.int .i64 y.k)).put hwg 1 (.int .i64 y.t)).put hwg 2 (.slice A2 m2 c2)).put hwg 3 (.slice A3 m3 c3)).put hwg 4 (.bool y.h))
          have HLF2 := Lib.hid LF
          have HLZ := Lib.hid (((((((g5.lies hl.out (by have := Hz.out; omega)).far (p := ⟨g4, 0, none⟩) (by have := Hz.out; show w.heap.size ≠ g4; omega) (.int .i64 y.k)).far (p := ⟨g4, 1, none⟩) (by have := Hz.out; show w.heap.size ≠ g4; omega) (.int .i64 y.t)).far (p := ⟨g4, 2, none⟩) (by have := Hz.out; show w.heap.size ≠ g4; omega) (.slice A2 m2 c2)).far (p := ⟨g4, 3, none⟩) (by have := Hz.out; show w.heap.size ≠ g4; omega) (.slice A3 m3 c3)).far (p := ⟨g4, 4, none⟩) (by have := Hz.out; show w.heap.size ≠ g4; omega) (.bool y.h)))
          have HYT := Lib.hid (fun h0 => (TrFrom.put (TrFrom.put (TrFrom.put (TrFrom.put (TrFrom.put (TrFrom.low (hyt.out h0) (Nat.le_refl _)) (Nat.lt_succ_self g4) 0 (.int .i64 y.k)) (Nat.lt_succ_self g4) 1 (.int .i64 y.t)) (Nat.lt_succ_self g4) 2 (.slice A2 m2 c2)) (Nat.lt_succ_self g4) 3 (.slice A3 m3 c3)) (Nat.lt_succ_self g4) 4 (.bool y.h)))
          clear LF z0 z1 z2 z3 z4 l5 hRg hwg a0 a1 a2 a3 a4 p0 p1 p2 p3 p4 x3 co
          go_wp2_with (fail)
          go_roundw
          case rel =>
            clear hw e1 e1n
            obtain ⟨ho', he0, y1, y3, y4⟩ := HY.out
            refine ⟨o', y, A2, m2, c2, A3, m3, c3, s5, (Sh.oper l tr x s2).1, ?_, by omega, HLF2.out, HF.out, HGF.out, ?_, ?_, HLZ, Lib.hid ?_, Lib.hid fun h0 => ⟨?_, HYT.out h0, y3, ?_⟩⟩
            · first | rfl | (congr 1; omega)
            · rw [hs5.out, HGT.out]; exact HK2.out.oper (fun {s} h => HTK.out s h)
            · have := HSZ.out; have := g5.size; simp [World.setCell]; omega
            · rw [← hops.out, ho', Sh.ops, if_pos he0, y1, hs5.out, HGT.out]
            · rw [← HGT.out]; exact hy.out h0
            · have hh : (Sh.oper l tr x s2).2.e = 0 := by rw [← HGT.out, ← hs5.out]; exact h0
              obtain ⟨_, _, _, _, _, _, _, _, _, _, _, _, _, _, _, _, _, hst⟩ := Sh.oper_took HMO.out hh
              have := Sh.Stands.le hst
              rw [← HGT.out, ← hs5.out] at this
              omega
          case measure =>
            have := HY.out.1
            clear hw e1 e1n
            simp [intOf]; omega
        · have hend : Sh.ops (Sh.oper l tr) o x' s2 = (x', s2) := by
            by_cases he : s2.e = 0
            · obtain rfl : o = 0 := by
                rcases Nat.eq_zero_or_pos o with h1 | h1
                · exact h1
                · exact absurd ⟨h1, he⟩ hgo2
              rfl
            · exact Sh.ops_err _ _ _ _ he
          have HEND := Lib.hid (hops.out.symm.trans hend)
          have lz := hl.out
          have hwlt : R < w.heap.size := HRW2
          have hlt4 : w.heap.size < g4 + 1 := by have := HZ2.1; omega
          have y0 := lz.cell (i := 0) rfl
          have f0 := lz.free 0
          have y1 := lz.cell (i := 1) rfl
          have f1 := lz.free 1
          have y2 := lz.cell (i := 2) rfl
          have f2 := lz.free 2
          have y3 := lz.cell (i := 3) rfl
          have f3 := lz.free 3
          have y4 := lz.cell (i := 4) rfl
          have f4 := lz.free 4
          have LF : Lies _ w.heap.size _ [.int .i64 x.k, .int .i64 x.t, .slice AU mU kU, .slice AV mV kV, .bool x.h] := (((((lz.set 0 (.int .i64 x.k)).set 1 (.int .i64 x.t)).set 2 (.slice AU mU kU)).set 3 (.slice AV mV kV)).set 4 (.bool x.h))
          have k0 := LF.cell (i := 0) rfl
          have k1 := LF.cell (i := 1) rfl
          have k2 := LF.cell (i := 2) rfl
          have k3 := LF.cell (i := 3) rfl
          have k4 := LF.cell (i := 4) rfl
          have HF := Lib.hid (((((hr.put hwlt 0 (.int .i64 x.k)).put hwlt 1 (.int .i64 x.t)).put hwlt 2 (.slice AU mU kU)).put hwlt 3 (.slice AV mV kV)).put hwlt 4 (.bool x.h))
          have HGF := Lib.hid (((((hg.put (Nat.le_refl _) 0 (.int .i64 x.k)).put (Nat.le_refl _) 1 (.int .i64 x.t)).put (Nat.le_refl _) 2 (.slice AU mU kU)).put (Nat.le_refl _) 3 (.slice AV mV kV)).put (Nat.le_refl _) 4 (.bool x.h))
          have HYT := Lib.hid (fun h0 => (TrFrom.put (TrFrom.put (TrFrom.put (TrFrom.put (TrFrom.put (hyes.out h0).2.1 hlt4 0 (.int .i64 x.k)) hlt4 1 (.int .i64 x.t)) hlt4 2 (.slice AU mU kU)) hlt4 3 (.slice AV mV kV)) hlt4 4 (.bool x.h)))
          have HYE := Lib.hid (fun h0 => (hyes.out h0).1)
          clear LF lz hl hyes hops hend hr hg hwlt hlt4 HZ2 HRW2 hk2 hsz hL
          by_cases ho0 : 0 < o
          · have e1 : decide (0 < (o : Int)) = true := by simp; omega
            have e1n : decide (0 < o) = true := by simp; omega
            have he0 : ¬ s2.e = 0 := fun h => hgo2 ⟨ho0, h⟩
            have e2 : (s2.e == 0) = false := by simpa using he0
            have e3 : decide (s2.e = 0) = false := by simpa using he0
            clear hgo2 ho0
            go_wp2_with (fail)
            exact bodyPost_ret (v := .agg #[.int .i64 x.k, .int .i64 x.t, .slice AU mU kU, .slice AV mV kV, .bool x.h]) (by simp [results, Tryz.results15, go_sem, k0, k1, k2, k3, k4]) rfl ⟨x, AU, mU, kU, AV, mV, kV, s2, rfl, Lib.hid (by rw [HEND.out]), Lib.hid (fun h0 => by rw [HEND.out]; exact HYE.out h0), Lib.hid (fun h0 => TrFrom.low (HYT.out h0) (Nat.le_succ_of_le (Nat.le_of_lt HZ.out.1))), HF.out, HGF.out⟩
          · have e1 : decide (0 < (o : Int)) = false := by simp; omega
            have e1n : decide (0 < o) = false := by simp; omega
            clear hgo2 ho0
            go_wp2_with (fail)
            exact bodyPost_ret (v := .agg #[.int .i64 x.k, .int .i64 x.t, .slice AU mU kU, .slice AV mV kV, .bool x.h]) (by simp [results, Tryz.results15, go_sem, k0, k1, k2, k3, k4]) rfl ⟨x, AU, mU, kU, AV, mV, kV, s2, rfl, Lib.hid (by rw [HEND.out]), Lib.hid (fun h0 => by rw [HEND.out]; exact HYE.out h0), Lib.hid (fun h0 => TrFrom.low (HYT.out h0) (Nat.le_succ_of_le (Nat.le_of_lt HZ.out.1))), HF.out, HGF.out⟩
    · have hn : Sh.nx l ⟨s.i + j, s.v, s.e⟩ = 40 := by simpa using HB.out.symm
      have hjO := hiff.1 hn
      obtain rfl : s1 = ⟨s.i + (j + 1), s.v, s.e⟩ := by rw [HS1.out]; exact skip_on hn
      have hjb : j ≤ 1000000 := by have := HOL.out.2; omega
      have hw := wrap_small12 hjb
      have HJ := Lib.hid hjO
      clear hn hiff HS1 hj hjO
      go_wp2_with (fail)
      refine cs.mono ?_
      rintro E w1 ⟨rfl, h1, g1⟩
      have G1 := Lib.hid (Hg.out.trans g1)
      have L1 := Lib.hid (g1.lies hl.out (Ne.symm (Nat.ne_of_lt hRw)))
      clear cs g1 hRw
      go_wp2_with (fail)
      go_roundw
      case rel => exact ⟨j + 1, by first | rfl | simp | (rw [hw]), HJ.out, h1, G1.out, L1⟩
      case measure =>
        have hq := HJ.out
        try rw [hw]
        clear hw
        simp [intOf]
        omega
end Go.Proofs.YteimbdklakemaaaGreatDoor
