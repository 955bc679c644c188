/-
  THE LAW CheckParts, walked.
-/
import Derived.Test.YtdcgfhenlddmeaaCkhM
import Derived.Test.YtdcgfhenlddmeaaCkmrM
namespace Go.Proofs.Ytdcgfhenlddmeaa
open Go.RowKit Go.Sort
set_option maxHeartbeats 25600000

theorem partsVs_all (qb : Nat) (ca : Addr) (n cc : Nat) (k t : Int) (A A' : Option Addr) (ka c na c' : Nat) (hh : Bool) (G : PG) (tm : Array Value) :
    gFr (fun j => (2 ^ 11 - 1).testBit j) (partsVs qb ca n cc k t A A' ka c na c' hh G) tm = puts [(33, .slice (some ⟨G.e0, 0, none⟩) 0 0), (34, .pointer (some ⟨qb, 0, none⟩)), (35, .slice (some ca) n cc), (36, G.e1), (37, .slice (some ⟨G.g1, 0, none⟩) 1 1), (38, .slice (some ⟨G.g2, 0, none⟩) (n + 1) G.c2), (39, .pointer (some ⟨qb, 1, none⟩)), (40, .agg #[.int .i64 k, .int .i64 t, .slice A ka c, .slice A' na c', .bool hh]), (41, .agg #[.slice (some ⟨G.g2, 0, none⟩) (n + 1) G.c2, .int .i64 k, .int .i64 t, .slice A ka c, .slice A' na c', .bool hh]), (4, .pointer (some ⟨G.B, 0, none⟩))] tm := by
  have e : (partsVs qb ca n cc k t A A' ka c na c' hh G).filter (fun x => (fun j => (2 ^ 11 - 1).testBit j) x.1) = partsVs qb ca n cc k t A A' ka c na c' hh G := by
    refine List.filter_eq_self.2 fun x hx => ?_
    simp only [partsVs, List.mem_cons, List.not_mem_nil, or_false] at hx
    rcases hx with rfl | rfl | rfl | rfl | rfl | rfl | rfl | rfl | rfl | rfl <;> (dsimp only; decide)
  unfold gFr
  rw [e]
  rfl
set_option maxRecDepth 100000 in
theorem checkparts_any (a : Tr) (cols : List Int) (cv u v : Value) (w : World) (hc : Sl w cv (cols.map (Value.int .i64))) (hu : ∃ d, TsAt d w u a.ks) (hv : PsSome w v a.cs) :
    Calls Try.prog 5 #[.agg #[cv, .int .i64 a.k, .int .i64 a.t, u, v, .bool a.h]] w fun e w' => e = .returned (.bool true) ∧ Below w.heap.size w w' := by
  obtain ⟨A, c, rfl, _⟩ := hu.elim fun d h => h.form
  obtain ⟨A', c', rfl, _⟩ := hv.elim fun d h => h.form
  obtain ⟨C, cc, hcv, _⟩ := id hc
  subst hcv
  rw [List.length_map] at hc ⊢
  obtain ⟨n, hn⟩ : ∃ n, n = cols.length := ⟨_, rfl⟩
  rw [← hn] at hc ⊢
  obtain ⟨ka, hka⟩ : ∃ n, n = a.ks.length := ⟨_, rfl⟩
  rw [← hka] at hu ⊢
  obtain ⟨na, hna⟩ : ∃ n, n = a.cs.length := ⟨_, rfl⟩
  rw [← hna] at hv ⊢
  have HNC := Lib.hid hn
  have HKA := Lib.hid hka
  clear hn hka hna
  obtain ⟨W0, hW0⟩ : ∃ W0, W0 = w.alloc (Obj.cells #[.slice C n cc, .int .i64 a.k, .int .i64 a.t, .slice A ka c, .slice A' na c', .bool a.h] 28) := ⟨_, rfl⟩
  obtain ⟨l0, hb0⟩ := box_one (cs := [.slice C n cc, .int .i64 a.k, .int .i64 a.t, .slice A ka c, .slice A' na c', .bool a.h]) hW0
  have hc0 := hc.below hb0 (Nat.le_refl _)
  have hu0 : ∃ d, TsAt d W0 (.slice A ka c) a.ks := hu.elim fun d h => ⟨d, h.below hb0 (Nat.le_refl _)⟩
  have hv0 := hv.below hb0 (Nat.le_refl _)
  have CF := Lib.hid (in_turn (W0 := W0) fun W h => few11_any a (.slice C n cc) _ _ W (hu0.elim fun d hh => ⟨d, hh.below h (Nat.le_refl _)⟩) (hv0.below h (Nat.le_refl _)))
  have CA := Lib.hid (in_turn (W0 := W0) fun W h => awake11_any W)
  have C1 := Lib.hid (fun hsz => in_turn (W0 := W0) fun W h => right11_any a cols _ _ _ W (hc0.below h (Nat.le_refl _)) (hu0.elim fun d hh => ⟨d, hh.below h (Nat.le_refl _)⟩) (hv0.below h (Nat.le_refl _)) hsz)
  have HC := Lib.hid hc0
  have HU := Lib.hid hu0
  have HV := Lib.hid hv0
  have HL0 := Lib.hid l0
  have HW := Lib.hid hW0
  have HB := Lib.hid hb0
  have p0 := l0.cell (i := 0) rfl
  have p1 := l0.cell (i := 1) rfl
  have p2 := l0.cell (i := 2) rfl
  have p3 := l0.cell (i := 3) rfl
  have p4 := l0.cell (i := 4) rfl
  have p5 := l0.cell (i := 5) rfl
  clear hc hu hv hc0 hu0 hv0 l0 hb0 hW0
  obtain ⟨f, hf⟩ : ∃ f, f = decide (Tr.size a ≤ 600) := ⟨_, rfl⟩
  rw [← hf] at CF
  have HF := Lib.hid hf
  clear hf
  go_enter Try.func5, Try.ntmps5
  go_upto_region 1 with (fail)
  rw [← HW.out]
  go_wp2_with fail
  refine (CF.out _ (Below.refl _ _)).mono ?_
  rintro e w1 ⟨rfl, hb1⟩
  clear p0 p1 p2 p3 p4 p5
  cases f with
  | false =>
    have ca := CA.out _ hb1
    go_wp2_with fail
    refine ca.mono ?_
    rintro e w2 ⟨rfl, hb2⟩
    go_wp2_with fail
    go_ret
    exact ⟨rfl, below_join HB.out hb2⟩
  | true =>
    have hsz : Tr.size a ≤ 1000 := by have h := of_decide_eq_true HF.out.symm; omega
    obtain ⟨z, hz⟩ : ∃ z, z = (Ck.query cols a == 0) := ⟨_, rfl⟩
    have cq := C1.out hsz w1 hb1
    rw [← hz] at cq
    have HZ := Lib.hid hz
    have lq := HL0.out.below hb1 HL0.out.lt
    have p0 := lq.cell (i := 0) rfl
    have p1 := lq.cell (i := 1) rfl
    have p2 := lq.cell (i := 2) rfl
    have p3 := lq.cell (i := 3) rfl
    have p4 := lq.cell (i := 4) rfl
    have p5 := lq.cell (i := 5) rfl
    clear hz lq CF HF
    cases z with
    | false =>
      go_wp2_with fail
      refine cq.mono ?_
      rintro e w2 ⟨rfl, hb2⟩
      have ca := CA.out _ hb2
      clear cq p0 p1 p2 p3 p4 p5
      go_wp2_with fail
      refine ca.mono ?_
      rintro e w3 ⟨rfl, hb3⟩
      go_wp2_with fail
      go_ret
      exact ⟨rfl, below_join HB.out hb3⟩
    | true =>
      have hq0 : Ck.query cols a = 0 := by have := HZ.out; simpa using this.symm
      obtain ⟨g1, _, g3⟩ := Ck.query_right hq0
      have hgood := Ck.good_of g3
      have hnpos : 0 < n := by
        obtain ⟨j, hj⟩ := Ck.seen_some g1 a hgood
        have := Ck.seen_fine cols.length a (fun x hx => Ck.alone_fine (Ck.what_alone (hgood x hx))) j hj
        have := HNC.out
        omega
      have hn64 : n ≤ 64 := by have := HNC.out; omega
      obtain ⟨ca, hca⟩ : ∃ ca, C = some ca := by
        obtain ⟨b1, o1, p1', hA, _, _⟩ := HC.out.ints_at (j := 0) (List.getElem?_eq_getElem (by have := HNC.out; omega))
        exact ⟨_, hA⟩
      subst hca
      have HQ0 := Lib.hid hq0
      clear g1 g3 hgood
      go_wp2_with fail
      refine cq.mono ?_
      rintro e w2 ⟨rfl, hb2⟩
      clear cq p0 p1 p2 p3 p4 p5 hb1
      go_wp2_with fail
      go_loopw [3] (fun i wr => ∃ q : Nat, q ≤ ka ∧ i = .int .i64 q ∧ Below W0.heap.size W0 wr) (fun i _ => ka - (intOf i).toNat)
      case atStart => exact ⟨0, Nat.zero_le _, rfl, hb2⟩
      case round =>
        obtain ⟨q, hq, rfl, hb⟩ := hrel
        have lq := HL0.out.below hb HL0.out.lt
        have p3 := lq.cell (i := 3) rfl
        by_cases hlt : q < ka
        · obtain ⟨x, gx⟩ : ∃ x, a.ks[q]? = some x := ⟨a.ks[q]'(by have := HKA.out; omega), List.getElem?_eq_getElem _⟩
          obtain ⟨dd, hts⟩ := HU.out
          rw [HKA.out] at hts
          obtain ⟨e6, b0, o0, s0, u6, v6, _, hA6, _, hX⟩ := hts.at_ gx
          subst hA6
          obtain ⟨B6, d6, rfl, _⟩ := (hX W0 (Below.refl _ _)).2.2.form
          obtain ⟨B7, d7, rfl, _⟩ := (hX W0 (Below.refl _ _)).2.1.elim fun d h => h.form
          have hxm := List.mem_of_getElem? gx
          have hxs : Tr.size x ≤ 1000 := by
            have h1 := Tr.sizes_at gx
            have h2 := Tr.size_at a
            omega
          have hxq := Ck.kid_right HQ0.out hxm
          have CK := Lib.hid (in_turn (W0 := wr) fun W h => right11_any x cols (.slice (some ca) n cc) (.slice B6 x.ks.length d6) (.slice B7 x.cs.length d7) W (HC.out.below (below_join hb h) (Nat.le_refl _)) ⟨_, (hX W (below_join hb h)).2.2⟩ (hX W (below_join hb h)).2.1 hxs)
          rw [hxq] at CK
          have CK2 := Lib.hid (show ∀ W, Below wr.heap.size wr W → Calls Try.prog 11 #[.agg #[.slice (some ca) n cc, .int .i64 x.k, .int .i64 x.t, .slice B6 x.ks.length d6, .slice B7 x.cs.length d7, .bool x.h]] W fun e w' => e = .returned (.bool true) ∧ Below wr.heap.size wr w' from CK.out)
          have KK := Lib.hid (fun W (h : Below wr.heap.size wr W) => (show (W.cell? ⟨w.heap.size, 0, none⟩ = some (.slice (some ca) n cc) ∧ W.cell? ⟨w.heap.size, 3, none⟩ = some (.slice (some ⟨b0, o0, s0⟩) ka c) ∧ W.cell? ((⟨b0, o0, s0⟩ : Addr).add (q * 5)) = some (.int .i64 x.k) ∧ W.cell? ⟨((⟨b0, o0, s0⟩ : Addr).add (q * 5)).block, ((⟨b0, o0, s0⟩ : Addr).add (q * 5)).off + 1, none⟩ = some (.int .i64 x.t) ∧ W.cell? ⟨((⟨b0, o0, s0⟩ : Addr).add (q * 5)).block, ((⟨b0, o0, s0⟩ : Addr).add (q * 5)).off + 2, none⟩ = some (.slice B6 x.ks.length d6) ∧ W.cell? ⟨((⟨b0, o0, s0⟩ : Addr).add (q * 5)).block, ((⟨b0, o0, s0⟩ : Addr).add (q * 5)).off + 3, none⟩ = some (.slice B7 x.cs.length d7) ∧ W.cell? ⟨((⟨b0, o0, s0⟩ : Addr).add (q * 5)).block, ((⟨b0, o0, s0⟩ : Addr).add (q * 5)).off + 4, none⟩ = some (.bool x.h)) ∧ Below wr.heap.size wr W from
            have ll := HL0.out.below (below_join hb h) HL0.out.lt
            have px := (hX W (below_join hb h)).1
            ⟨⟨ll.cell (i := 0) rfl, ll.cell (i := 3) rfl, px.c0, px.c1, px.c2, px.c3, px.c4⟩, h⟩))
          have HB2 := Lib.hid hb
          have hS := Below.refl wr.heap.size wr
          clear hts hX hxm hxs hxq CK gx lq hb
          go_upto_region 6 with (fail)
          clear p3
          go_region_held3 (fun W => (W.cell? ⟨w.heap.size, 0, none⟩ = some (.slice (some ca) n cc) ∧ W.cell? ⟨w.heap.size, 3, none⟩ = some (.slice (some ⟨b0, o0, s0⟩) ka c) ∧ W.cell? ((⟨b0, o0, s0⟩ : Addr).add (q * 5)) = some (.int .i64 x.k) ∧ W.cell? ⟨((⟨b0, o0, s0⟩ : Addr).add (q * 5)).block, ((⟨b0, o0, s0⟩ : Addr).add (q * 5)).off + 1, none⟩ = some (.int .i64 x.t) ∧ W.cell? ⟨((⟨b0, o0, s0⟩ : Addr).add (q * 5)).block, ((⟨b0, o0, s0⟩ : Addr).add (q * 5)).off + 2, none⟩ = some (.slice B6 x.ks.length d6) ∧ W.cell? ⟨((⟨b0, o0, s0⟩ : Addr).add (q * 5)).block, ((⟨b0, o0, s0⟩ : Addr).add (q * 5)).off + 3, none⟩ = some (.slice B7 x.cs.length d7) ∧ W.cell? ⟨((⟨b0, o0, s0⟩ : Addr).add (q * 5)).block, ((⟨b0, o0, s0⟩ : Addr).add (q * 5)).off + 4, none⟩ = some (.bool x.h)) ∧ Below wr.heap.size wr W) (first | (exact KK.out _ (by repeat first | assumption | refine Below.drew ?_)))
            (first
              | (go_at_call 11; (with_reducible refine (CK2.out _ (by repeat first | assumption | refine Below.drew ?_)).mono ?_); rintro e w5 ⟨rfl, hS5⟩)
              | (fail "no arm"))
          have hb5 : Below W0.heap.size W0 w5 := below_join HB2.out hS5
          have hkb : ka ≤ 9223372036854775807 := by have := HKA.out; omega
          clear hS hS5
          go_wp2_with fail
          go_roundw
          case rel => exact ⟨q + 1, by omega, by go_num, hb5⟩
          case measure => simp [intOf]; omega
        · have HB2 := Lib.hid hb
          have HLQ := Lib.hid lq
          clear lq hb
          go_upto_region 8 with (fail)
          clear p3
          refine parts_region rfl rfl rfl rfl rfl rfl rfl rfl rfl rfl rfl rfl rfl rfl rfl rfl rfl rfl rfl rfl rfl rfl rfl rfl rfl rfl rfl rfl rfl rfl rfl rfl rfl rfl rfl rfl rfl rfl rfl rfl rfl rfl rfl rfl rfl (by decide +kernel) (by decide +kernel) _ _ cols w.heap.size ca n cc a.k a.t A A' ka c na c' a.h rfl (by simp) HNC.out hn64 HLQ.out (HC.out.below HB2.out (Nat.le_refl _)) ?_
          intro G W8 hb8 hbx hsl2
          rw [partsVs_all]
          simp only [puts, List.foldl_cons, List.foldl_nil, List.setIfInBounds_toArray, List.set_cons_zero, List.set_cons_succ]
          have hb08 := below_join HB2.out hb8
          have hmr := Ck.more_right HQ0.out
          rw [← HNC.out] at hmr
          have CM := Lib.hid (in_turn (W0 := W8) fun W h => right11_any a (cols ++ [1]) (.slice (some ⟨G.g2, 0, none⟩) (n + 1) G.c2) (.slice A ka c) (.slice A' na c') W (hsl2.below h (Nat.le_refl _)) (HU.out.elim fun d hh => ⟨d, hh.below (below_join hb08 h) (Nat.le_refl _)⟩) (HV.out.below (below_join hb08 h) (Nat.le_refl _)) hsz)
          rw [hmr] at CM
          have CA8 := Lib.hid (in_turn (W0 := W8) fun W _ => awake11_any W)
          have KK := Lib.hid (fun W (h : Below W8.heap.size W8 W) => (show (W.cell? ⟨w.heap.size, 0, none⟩ = some (.slice (some ca) n cc) ∧ W.cell? ⟨G.B, 0, none⟩ = some (.slice (some ⟨G.g2, 0, none⟩) (n + 1) G.c2) ∧ W.cell? ⟨G.B, 1, none⟩ = some (.int .i64 a.k) ∧ W.cell? ⟨G.B, 2, none⟩ = some (.int .i64 a.t) ∧ W.cell? ⟨G.B, 3, none⟩ = some (.slice A ka c) ∧ W.cell? ⟨G.B, 4, none⟩ = some (.slice A' na c') ∧ W.cell? ⟨G.B, 5, none⟩ = some (.bool a.h)) ∧ Below W8.heap.size W8 W from
            have ll := HL0.out.below (below_join hb08 h) HL0.out.lt
            have lb := hbx.below h hbx.lt
            ⟨⟨ll.cell (i := 0) rfl, lb.cell (i := 0) rfl, lb.cell (i := 1) rfl, lb.cell (i := 2) rfl, lb.cell (i := 3) rfl, lb.cell (i := 4) rfl, lb.cell (i := 5) rfl⟩, h⟩))
          have HB8 := Lib.hid hb08
          have hS := Below.refl W8.heap.size W8
          clear hb8 hbx hsl2 hb08 hmr
          by_cases h64 : n < 64
          · rw [decide_eq_true h64] at CM
            go_upto_region 9 with (fail)
            go_region_held3 (fun W => (W.cell? ⟨w.heap.size, 0, none⟩ = some (.slice (some ca) n cc) ∧ W.cell? ⟨G.B, 0, none⟩ = some (.slice (some ⟨G.g2, 0, none⟩) (n + 1) G.c2) ∧ W.cell? ⟨G.B, 1, none⟩ = some (.int .i64 a.k) ∧ W.cell? ⟨G.B, 2, none⟩ = some (.int .i64 a.t) ∧ W.cell? ⟨G.B, 3, none⟩ = some (.slice A ka c) ∧ W.cell? ⟨G.B, 4, none⟩ = some (.slice A' na c') ∧ W.cell? ⟨G.B, 5, none⟩ = some (.bool a.h)) ∧ Below W8.heap.size W8 W) (first | (exact KK.out _ (by repeat first | assumption | refine Below.drew ?_)))
              (first
                | (go_at_call 11; (with_reducible refine (CM.out _ (by repeat first | assumption | refine Below.drew ?_)).mono ?_); rintro e w6 ⟨rfl, hS6⟩)
                | (go_at_call 8; (with_reducible refine (CA8.out _ (by repeat first | assumption | refine Below.drew ?_)).mono ?_); rintro e w6 ⟨rfl, hS6⟩)
                | (fail "no arm"))
            all_goals
              go_wp2_with fail
              go_ret
              exact ⟨rfl, below_join HB.out (below_join HB8.out (by assumption))⟩
          · rw [decide_eq_false h64] at CM
            go_upto_region 9 with (fail)
            go_region_held3 (fun W => (W.cell? ⟨w.heap.size, 0, none⟩ = some (.slice (some ca) n cc) ∧ W.cell? ⟨G.B, 0, none⟩ = some (.slice (some ⟨G.g2, 0, none⟩) (n + 1) G.c2) ∧ W.cell? ⟨G.B, 1, none⟩ = some (.int .i64 a.k) ∧ W.cell? ⟨G.B, 2, none⟩ = some (.int .i64 a.t) ∧ W.cell? ⟨G.B, 3, none⟩ = some (.slice A ka c) ∧ W.cell? ⟨G.B, 4, none⟩ = some (.slice A' na c') ∧ W.cell? ⟨G.B, 5, none⟩ = some (.bool a.h)) ∧ Below W8.heap.size W8 W) (first | (exact KK.out _ (by repeat first | assumption | refine Below.drew ?_)))
              (first
                | (go_at_call 11; (with_reducible refine (CM.out _ (by repeat first | assumption | refine Below.drew ?_)).mono ?_); rintro e w6 ⟨rfl, hS6⟩)
                | (go_at_call 8; (with_reducible refine (CA8.out _ (by repeat first | assumption | refine Below.drew ?_)).mono ?_); rintro e w6 ⟨rfl, hS6⟩)
                | (fail "no arm"))
            all_goals
              go_wp2_with fail
              go_ret
              exact ⟨by first | rfl | (show Ending.returned (Value.bool (!decide ((n : Int) < 64))) = _; rw [decide_eq_false (by omega)]; rfl), below_join HB.out (below_join HB8.out (by assumption))⟩
end Go.Proofs.Ytdcgfhenlddmeaa
