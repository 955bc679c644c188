/-
  THE LAW CheckRight, walked.
-/
import Derived.Test.YtdcgfhenlddmeaaCkzM
import Derived.Test.YtdcgfhenlddmeaaCkmrM
namespace Go.Proofs.Ytdcgfhenlddmeaa
open Go.RowKit Go.Sort
set_option maxHeartbeats 25600000

theorem andNot_none11 {x y : Nat} (hx : x < 18446744073709551616) (hy : y < 18446744073709551616) (h : x ||| y = y) : bits .andNot .u64 (x : Int) (y : Int) = 0 := by
  rw [u64_andNot_nat x y hx hy]
  have : x &&& (18446744073709551615 - y) = 0 := by
    refine Nat.eq_of_testBit_eq fun i => ?_
    rw [Nat.testBit_and, Nat.zero_testBit]
    have e : (18446744073709551615 - y).testBit i = (decide (i < 64) && !y.testBit i) := by
      have := Nat.testBit_two_pow_sub_succ (n := 64) (x := y) (by omega) i
      rw [show 2 ^ 64 - (y + 1) = 18446744073709551615 - y by omega] at this
      exact this
    rw [e]
    have hb : x.testBit i = true → y.testBit i = true := fun hx => by
      rw [← h, Nat.testBit_or, hx, Bool.true_or]
    cases hxi : x.testBit i
    · rfl
    · rw [hb hxi]; simp
  rw [this]; rfl
set_option maxRecDepth 100000 in
theorem checkright_any (a : Tr) (cols : List Int) (cv u v : Value) (w : World) (hc : Sl w cv (cols.map (Value.int .i64))) (hu : ∃ d, TsAt d w u a.ks) (hv : PsSome w v a.cs) :
    Calls Try.prog 4 #[.agg #[cv, .int .i64 a.k, .int .i64 a.t, u, v, .bool a.h]] w fun e w' => e = .returned (.bool true) ∧ Below w.heap.size w w' := by
  obtain ⟨A, c, rfl, _⟩ := hu.elim fun d h => h.form
  obtain ⟨A', c', rfl, _⟩ := hv.elim fun d h => h.form
  obtain ⟨C, cc, hcv, _⟩ := id hc
  subst hcv
  rw [List.length_map] at hc ⊢
  obtain ⟨n, hn⟩ : ∃ n, n = cols.length := ⟨_, rfl⟩
  rw [← hn] at hc ⊢
  obtain ⟨ka, hka⟩ : ∃ n, n = a.ks.length := ⟨_, rfl⟩
  rw [← hka] at hu ⊢
  obtain ⟨na, hna⟩ : ∃ n, n = a.cs.length := ⟨_, rfl⟩
  rw [← hna] at hv ⊢
  have HNC := Lib.hid hn
  clear hn hka hna
  obtain ⟨W0, hW0⟩ : ∃ W0, W0 = w.alloc (Obj.cells #[.slice C n cc, .int .i64 a.k, .int .i64 a.t, .slice A ka c, .slice A' na c', .bool a.h] 28) := ⟨_, rfl⟩
  obtain ⟨l0, hb0⟩ := box_one (cs := [.slice C n cc, .int .i64 a.k, .int .i64 a.t, .slice A ka c, .slice A' na c', .bool a.h]) hW0
  have hc0 := hc.below hb0 (Nat.le_refl _)
  have hu0 : ∃ d, TsAt d W0 (.slice A ka c) a.ks := hu.elim fun d h => ⟨d, h.below hb0 (Nat.le_refl _)⟩
  have hv0 := hv.below hb0 (Nat.le_refl _)
  have CF := Lib.hid (in_turn (W0 := W0) fun W h => few11_any a (.slice C n cc) _ _ W (hu0.elim fun d hh => ⟨d, hh.below h (Nat.le_refl _)⟩) (hv0.below h (Nat.le_refl _)))
  have CA := Lib.hid (in_turn (W0 := W0) fun W h => awake11_any W)
  have C1 := Lib.hid (fun hsz => in_turn (W0 := W0) fun W h => query11_any a cols _ _ _ W (hc0.below h (Nat.le_refl _)) (hu0.elim fun d hh => ⟨d, hh.below h (Nat.le_refl _)⟩) (hv0.below h (Nat.le_refl _)) hsz)
  have C3 := Lib.hid (fun hsz W (h : Below W0.heap.size W0 W) => hu0.elim fun d hh => r10all_any W0 d a _ _ W h hh hv0 hsz)
  have C4 := Lib.hid (fun hsz => in_turn (W0 := W0) fun W h => hu0.elim fun d hh => r10tables_any d a _ _ W (hh.below h (Nat.le_refl _)) (hv0.below h (Nat.le_refl _)) hsz)
  have HL0 := Lib.hid l0
  have HW := Lib.hid hW0
  have HB := Lib.hid hb0
  have p0 := l0.cell (i := 0) rfl
  have p1 := l0.cell (i := 1) rfl
  have p2 := l0.cell (i := 2) rfl
  have p3 := l0.cell (i := 3) rfl
  have p4 := l0.cell (i := 4) rfl
  have p5 := l0.cell (i := 5) rfl
  clear hc hu hv hc0 hu0 hv0 l0 hb0 hW0
  obtain ⟨f, hf⟩ : ∃ f, f = decide (Tr.size a ≤ 600) := ⟨_, rfl⟩
  rw [← hf] at CF
  have HF := Lib.hid hf
  clear hf
  go_enter Try.func4, Try.ntmps4
  go_upto_region 1 with (fail)
  rw [← HW.out]
  go_wp2_with fail
  refine (CF.out _ (Below.refl _ _)).mono ?_
  rintro e w1 ⟨rfl, hb1⟩
  clear p0 p1 p2 p3 p4 p5
  cases f with
  | false =>
    have ca := CA.out _ hb1
    go_wp2_with fail
    refine ca.mono ?_
    rintro e w2 ⟨rfl, hb2⟩
    go_wp2_with fail
    go_ret
    exact ⟨rfl, below_join HB.out hb2⟩
  | true =>
    have hsz : Tr.size a ≤ 1000 := by have h := of_decide_eq_true HF.out.symm; omega
    have hsz6 : Tr.size a ≤ 600 := of_decide_eq_true HF.out.symm
    have HSZ := Lib.hid hsz6
    obtain ⟨z, hz⟩ : ∃ z, z = Ck.query cols a := ⟨_, rfl⟩
    have cq := C1.out hsz w1 hb1
    rw [← hz] at cq
    have HZ := Lib.hid hz
    have lq := HL0.out.below hb1 HL0.out.lt
    have p0 := lq.cell (i := 0) rfl
    have p1 := lq.cell (i := 1) rfl
    have p2 := lq.cell (i := 2) rfl
    have p3 := lq.cell (i := 3) rfl
    have p4 := lq.cell (i := 4) rfl
    have p5 := lq.cell (i := 5) rfl
    clear hz lq hsz6 CF HF
    by_cases hz0 : z = 0
    · subst hz0
      obtain ⟨g1, _, g3⟩ := Ck.query_right HZ.out.symm
      have HG := Lib.hid (Ck.good_of g3)
      have HIN := Lib.hid (fun b hb => Ck.tour_lv (Ck.tour_in (b := b) g3 hb))
      have HN64 := Lib.hid g1
      have hcount := Lib.hid (Ck.all_count a HG.out)
      have hpop := Lib.hid (Ck.pop_lv (Ck.tour_lv g3) (Ck.lv_fine g1 HG.out))
      have hal := Tr.all_length_le a
      clear g1 g3
      go_wp2_with fail
      refine cq.mono ?_
      rintro e w2 ⟨rfl, hb2⟩
      clear cq p0 p1 p2 p3 p4 p5 hb1
      have lq := HL0.out.below hb2 HL0.out.lt
      have p1 := lq.cell (i := 1) rfl
      have p2 := lq.cell (i := 2) rfl
      have p3 := lq.cell (i := 3) rfl
      have p4 := lq.cell (i := 4) rfl
      have p5 := lq.cell (i := 5) rfl
      have cal := C3.out hsz w2 hb2
      clear lq
      go_wp2_with fail
      refine cal.mono ?_
      rintro e w3 ⟨v2, L, rfl, hm, hang, hown2, hb3⟩
      have hb4 := below_join hb2 hb3
      obtain ⟨m, hmn⟩ : ∃ m, m = L.length := ⟨_, rfl⟩
      have hln : m = (Tr.all a).length := by rw [hmn, ← hm, List.length_map]
      have hml : m ≤ 600 := by have := HSZ.out; omega
      obtain ⟨B, c2, rfl, _⟩ := own_tr hown2
      rw [← hmn] at hown2 ⊢
      have HN := Lib.hid hmn
      have HM := Lib.hid hm
      have HLN := Lib.hid hln
      have HANG := Lib.hid hang
      have HO := Lib.hid hown2
      clear cal p1 p2 p3 p4 p5 hmn hm hang hown2 hb2 hb3 hln hal
      go_wp2_with fail
      go_loopw [4, 5] (fun s i wr => ∃ q : Nat, q ≤ m ∧ i = .int .i64 q ∧ s = .int .i64 ((Ck.lv ((Tr.all a).take q)).length : Nat) ∧ Hid (wr.ownsRow w2.heap.size 26 5 (.slice B m c2) m (trCells L)) ∧ Below W0.heap.size W0 wr) (fun _ i _ => m - (intOf i).toNat)
      case atStart => exact ⟨0, Nat.zero_le _, rfl, rfl, HO, hb4⟩
      case round =>
        obtain ⟨q, hq, rfl, rfl, hrow, hb⟩ := hrel
        have hlvl : (Ck.lv ((Tr.all a).take q)).length ≤ q := by
          unfold Ck.lv
          rw [List.length_map]
          exact Nat.le_trans (List.length_filter_le _ _) (by rw [List.length_take]; omega)
        by_cases hlt : q < m
        · obtain ⟨xx, gx⟩ : ∃ x, L[q]? = some x := ⟨L[q]'(by have := HN.out; omega), List.getElem?_eq_getElem _⟩
          have gb : (Tr.all a)[q]? = some xx.1 := by rw [← HM.out, List.getElem?_map, gx]; rfl
          have hrow' := hrow.out
          rw [HN.out] at hrow'
          obtain ⟨A1, c1, hv1, hx⟩ := own_tr hrow'
          cases hv1
          obtain ⟨g, rfl, hg1, hg2, hcell⟩ := hx q xx gx
          rw [add_from5] at hcell
          have hh := HANG.out xx (List.mem_of_getElem? gx)
          obtain ⟨t, ux, vx⟩ := xx
          have hh1 : ∃ d, TsAt d W0 ux t.ks := hh.1
          have hh2 : PsSome W0 vx t.cs := hh.2
          change TrCell wr ⟨g, q * 5, none⟩ t ux vx at hcell
          change (Tr.all a)[q]? = some t at gb
          obtain ⟨B5, e5, rfl, _⟩ := hh1.elim fun d h => h.form
          obtain ⟨B6', e6, rfl, _⟩ := hh2.elim fun d h => h.form
          have hmem := List.mem_of_getElem? gb
          have hgt : Ck.Good cols t := fun x hx => HG.out x (by
            obtain ⟨P, S, e⟩ := Ck.all_piece a t hmem
            rw [e]; exact List.mem_append_right _ (List.mem_append_left _ hx))
          have hts := Nat.le_trans (Tr.all_size hmem) HSZ.out
          have hnd := HIN.out t hmem
          have htk : (Tr.all a).take (q + 1) = (Tr.all a).take q ++ [t] := by rw [List.take_add_one, gb]; rfl
          obtain ⟨W5, hW5⟩ : ∃ W5, W5 = wr.alloc (Obj.cells #[.int .i64 t.k, .int .i64 t.t, .slice B5 t.ks.length e5, .slice B6' t.cs.length e6, .bool t.h] 26) := ⟨_, rfl⟩
          obtain ⟨l5, hb5⟩ := box_one (cs := [.int .i64 t.k, .int .i64 t.t, .slice B5 t.ks.length e5, .slice B6' t.cs.length e6, .bool t.h]) hW5
          have hrow5 := Lib.hid (own_kept hrow.out hb5)
          have hb6 := below_join hb hb5
          have HTK := Lib.hid htk
          have HGT := Lib.hid hgt
          have HND := Lib.hid hnd
          have HH1 := Lib.hid hh1
          have HH2 := Lib.hid hh2
          have HL5 := Lib.hid l5
          have HW5 := Lib.hid hW5
          have HTS := Lib.hid hts
          obtain ⟨y0, y1, y2, y3, y4⟩ := hcell
          clear hh hh1 hh2 hmem hgt hts hnd htk gb gx hrow' hx hW5 l5 hrow hb hb5 hg1 hg2
          go_upto_region 9 with (fail)
          rw [← HW5.out]
          clear y0 y1 y2 y3 y4
          have y0 := HL5.out.cell (i := 0) rfl
          by_cases hk : t.k = 0
          · obtain ⟨_, _, ht0, htn⟩ := HGT.out.leaf hk
            have y1 := HL5.out.cell (i := 1) rfl
            have p0 := (HL0.out.below hb6 HL0.out.lt).cell (i := 0) rfl
            have htn2 : ¬ ((n : Int) ≤ t.t) := by have := HNC.out; omega
            have htn3 : t.t < (n : Int) := by omega
            have ht1 : ¬ (t.t < 0) := by omega
            have hlv2 : ((Ck.lv ((Tr.all a).take (q + 1))).length : Int) = ((Ck.lv ((Tr.all a).take q)).length : Int) + 1 := by
              rw [HTK.out, Ck.lv_app, Ck.lv_one, if_pos hk]; simp
            rw [hk] at y0
            have HLV := Lib.hid hlv2
            clear hlv2 hk
            obtain ⟨lv0, hlv0⟩ : ∃ k, k = (Ck.lv ((Tr.all a).take q)).length := ⟨_, rfl⟩
            rw [← hlv0] at HLV hlvl ⊢
            clear hlv0
            go_wp2_with fail
            go_roundw
            case rel => exact ⟨q + 1, by omega, by go_num, by rw [HLV.out], hrow5, hb6⟩
            case measure => simp [intOf]; omega
          · have hk2 : (t.k == 0) = false := by simpa using hk
            obtain ⟨x, y, hks, hcs, _, hcj⟩ := HGT.out.op hk
            have hlv2 : (Ck.lv ((Tr.all a).take (q + 1))).length = (Ck.lv ((Tr.all a).take q)).length := by
              rw [HTK.out, Ck.lv_app, Ck.lv_one, if_neg hk]; simp
            have HLV := Lib.hid hlv2
            obtain ⟨jx, hjx⟩ := Ck.seen_some HN64.out x (HGT.out.kid (by rw [hks]; simp))
            obtain ⟨jy, hjy⟩ := Ck.seen_some HN64.out y (HGT.out.kid (by rw [hks]; simp))
            have hap := Ck.kids_apart hks HND.out
            have hx0 : ((Tr.seen x : Nat) : Int) ≠ 0 := by have := Ck.bit_ne hjx; omega
            have hy0 : ((Tr.seen y : Nat) : Int) ≠ 0 := by have := Ck.bit_ne hjy; omega
            have hx0' : (((Tr.seen x : Nat) : Int) == 0) = false := by simpa using hx0
            have hy0' : (((Tr.seen y : Nat) : Int) == 0) = false := by simpa using hy0
            have hand : bits BinOp.and IntKind.u64 (Tr.seen x : Int) (Tr.seen y : Int) = 0 := by
              rw [u64_and_nat _ _ (Tr.seen_lt x) (Tr.seen_lt y), hap]; rfl
            have hk3 : t.ks.length = 2 := by rw [hks]; rfl
            have HCJ := Lib.hid (Ck.conjs_zero.1 hcj)
            obtain ⟨nb, hnb⟩ : ∃ nb, nb = t.cs.length := ⟨_, rfl⟩
            have hnb0 : nb ≠ 0 := by rw [hnb]; exact fun e => hcs (List.eq_nil_of_length_eq_zero e)
            have hnb0' : ((nb : Int) == 0) = false := by simpa using hnb0
            have hnbl : nb ≤ 600 := by
              have h1 := Tr.size_at t
              have h2 := Pr.sizes_length t.cs
              have h3 := HTS.out
              omega
            rw [hk3, ← hnb] at HL5
            have HNB := Lib.hid hnb
            have hh1 := HH1.out
            obtain ⟨dd, hts⟩ := hh1
            obtain ⟨e7, b0, o0, s0, u6, v6, _, hA7, hb0l, hX⟩ := hts.at_ (j := 0) (a := x) (by rw [hks]; rfl)
            obtain ⟨e8, b0', o0', s0', u8, v8, _, hA8, _, hY⟩ := hts.at_ (j := 1) (a := y) (by rw [hks]; rfl)
            subst hA7
            obtain ⟨rfl, rfl, rfl⟩ : b0 = b0' ∧ o0 = o0' ∧ s0 = s0' := by
              simp only [Option.some.injEq, Addr.mk.injEq] at hA8
              exact hA8
            obtain ⟨B6, d6, rfl, _⟩ := (hX W0 (Below.refl _ _)).2.2.form
            obtain ⟨B7, d7, rfl, _⟩ := (hX W0 (Below.refl _ _)).2.1.elim fun d h => h.form
            obtain ⟨B8, d8, rfl, _⟩ := (hY W0 (Below.refl _ _)).2.2.form
            obtain ⟨B9, d9, rfl, _⟩ := (hY W0 (Below.refl _ _)).2.1.elim fun d h => h.form
            have hadd : (⟨b0, o0, s0⟩ : Addr).add (1 * 5) = ⟨b0, o0 + 5, none⟩ := by unfold Addr.add; simp
            simp only [Nat.zero_mul, add_zero9] at hX
            simp only [hadd] at hY
            have D0 := Lib.hid (in_turn (W0 := W0) fun W h => r10seen_any _ x _ (.slice B7 x.cs.length d7) W (hX W h).2.2)
            have D1 := Lib.hid (in_turn (W0 := W0) fun W h => r10seen_any _ y _ (.slice B9 y.cs.length d9) W (hY W h).2.2)
            have KK := Lib.hid (fun W (h : Below W5.heap.size W5 W) => (show (W.cell? ⟨wr.heap.size, 2, none⟩ = some (.slice (some ⟨b0, o0, s0⟩) 2 e5) ∧ W.cell? ⟨b0, o0, s0⟩ = some (.int .i64 x.k) ∧ W.cell? ⟨b0, o0 + 1, none⟩ = some (.int .i64 x.t) ∧ W.cell? ⟨b0, o0 + 2, none⟩ = some (.slice B6 x.ks.length d6) ∧ W.cell? ⟨b0, o0 + 3, none⟩ = some (.slice B7 x.cs.length d7) ∧ W.cell? ⟨b0, o0 + 4, none⟩ = some (.bool x.h) ∧ W.cell? ⟨b0, o0 + 5, none⟩ = some (.int .i64 y.k) ∧ W.cell? ⟨b0, o0 + 5 + 1, none⟩ = some (.int .i64 y.t) ∧ W.cell? ⟨b0, o0 + 5 + 2, none⟩ = some (.slice B8 y.ks.length d8) ∧ W.cell? ⟨b0, o0 + 5 + 3, none⟩ = some (.slice B9 y.cs.length d9) ∧ W.cell? ⟨b0, o0 + 5 + 4, none⟩ = some (.bool y.h)) ∧ Below W5.heap.size W5 W from
              have pt := HL5.out.below h HL5.out.lt
              have px := (hX W (below_join hb6 h)).1
              have py := (hY W (below_join hb6 h)).1
              ⟨⟨pt.cell (i := 2) rfl, px.c0, px.c1, px.c2, px.c3, px.c4, py.c0, py.c1, py.c2, py.c3, py.c4⟩, h⟩))
            have E0 := Lib.hid (in_turn (W0 := W5) fun W h => r10seen_any _ x _ (.slice B7 x.cs.length d7) W (hX W (below_join hb6 h)).2.2)
            have E1 := Lib.hid (in_turn (W0 := W5) fun W h => r10seen_any _ y _ (.slice B9 y.cs.length d9) W (hY W (below_join hb6 h)).2.2)
            have hor := u64_or_nat (Tr.seen x) (Tr.seen y) (Tr.seen_lt x) (Tr.seen_lt y)
            have y2 := HL5.out.cell (i := 2) rfl
            have y3 := HL5.out.cell (i := 3) rfl
            have HOR := Lib.hid hor
            have HB6 := Lib.hid hb6
            have hS := Below.refl W5.heap.size W5
            obtain ⟨lv0, hlv0⟩ : ∃ k, k = (Ck.lv ((Tr.all a).take q)).length := ⟨_, rfl⟩
            rw [← hlv0] at HLV hlvl ⊢
            clear hlv0 hap hjx hjy hx0 hy0 hk3 hcs hcj hks hlv2 hts hA8 hb0l hX hY hadd hor hnb hk hb6 hnb0
            go_upto_region 15 with (fail)
            clear y0 y2 y3
            go_region_held3 (fun W => (W.cell? ⟨wr.heap.size, 2, none⟩ = some (.slice (some ⟨b0, o0, s0⟩) 2 e5) ∧ W.cell? ⟨b0, o0, s0⟩ = some (.int .i64 x.k) ∧ W.cell? ⟨b0, o0 + 1, none⟩ = some (.int .i64 x.t) ∧ W.cell? ⟨b0, o0 + 2, none⟩ = some (.slice B6 x.ks.length d6) ∧ W.cell? ⟨b0, o0 + 3, none⟩ = some (.slice B7 x.cs.length d7) ∧ W.cell? ⟨b0, o0 + 4, none⟩ = some (.bool x.h) ∧ W.cell? ⟨b0, o0 + 5, none⟩ = some (.int .i64 y.k) ∧ W.cell? ⟨b0, o0 + 5 + 1, none⟩ = some (.int .i64 y.t) ∧ W.cell? ⟨b0, o0 + 5 + 2, none⟩ = some (.slice B8 y.ks.length d8) ∧ W.cell? ⟨b0, o0 + 5 + 3, none⟩ = some (.slice B9 y.cs.length d9) ∧ W.cell? ⟨b0, o0 + 5 + 4, none⟩ = some (.bool y.h)) ∧ Below W5.heap.size W5 W) (first | (exact KK.out _ (by repeat first | assumption | refine Below.drew ?_)))
              (first
                | (go_at_call 16; (with_reducible refine (E0.out _ (by repeat first | assumption | refine Below.drew ?_)).mono ?_); rintro e w6 ⟨rfl, hS6⟩)
                | (go_at_call 16; (with_reducible refine (E1.out _ (by repeat first | assumption | refine Below.drew ?_)).mono ?_); rintro e w6 ⟨rfl, hS6⟩)
                | (fail "no arm"))
            all_goals
              have hS7 : Below W5.heap.size W5 w6 := hS6
              clear hS hS6
              go_wp2_with fail
              go_loopw [9] (fun i wq => ∃ j : Nat, j ≤ nb ∧ i = .int .i64 j ∧ Below W5.heap.size W5 wq) (fun i _ => nb - (intOf i).toNat)
              case atStart => exact ⟨0, Nat.zero_le _, rfl, hS7⟩
              case round =>
                obtain ⟨j, hj, rfl, hb8⟩ := hrel
                have y3 := (HL5.out.below hb8 HL5.out.lt).cell (i := 3) rfl
                by_cases hjl : j < nb
                · obtain ⟨p, gp⟩ : ∃ p, t.cs[j]? = some p := ⟨t.cs[j]'(by have := HNB.out; omega), List.getElem?_eq_getElem _⟩
                  obtain ⟨dv, hvv⟩ := HH2.out
                  obtain ⟨e9, b9, o9, s9, u9, _, hA9, _, hP9⟩ := hvv.at_ gp
                  subst hA9
                  obtain ⟨⟨z0, z1, z2, z3, z4, z5, z6, z7, z8, z9, z10, z11, z12, z13⟩, hps9⟩ := hP9 _ (below_join HB6.out hb8)
                  have ctt := r6tables_any e9 p.f u9 p.ps _ hps9
                  have hpm : Pd.mk p.f p.ps = p := by cases p; rfl
                  rw [hpm] at ctt
                  obtain ⟨B10, d10, rfl, _⟩ := hps9.form
                  obtain ⟨q1, q2, q3⟩ := Ck.conj_good (HCJ.out p (List.mem_of_getElem? gp))
                  have hTl := tables_lt p
                  obtain ⟨T, hT⟩ : ∃ T, T = Pr.tables p := ⟨_, rfl⟩
                  rw [← hT] at q1 q2 q3 hTl ctt
                  have a1 := HOR.out
                  have a2 := andNot_none11 hTl (Nat.or_lt_two_pow (n := 64) (Tr.seen_lt x) (Tr.seen_lt y)) q1
                  have a3 := u64_and_nat T (Tr.seen x) hTl (Tr.seen_lt x)
                  have a4 := u64_and_nat T (Tr.seen y) hTl (Tr.seen_lt y)
                  have n3 : (((T &&& Tr.seen x : Nat) : Int) == 0) = false := by simpa using q2
                  have n4 : (((T &&& Tr.seen y : Nat) : Int) == 0) = false := by simpa using q3
                  clear hvv hP9 hps9 hpm gp hT q1 q2 q3 hTl
                  go_wp2_with fail
                  refine ctt.mono ?_
                  rintro e w10 ⟨rfl, hb10⟩
                  have hb11 := below_join hb8 hb10
                  clear ctt z0 z1 z2 z3 z4 z5 z6 z7 z8 z9 z10 z11 z12 z13 y3
                  go_wp2_with fail
                  go_roundw
                  case rel => exact ⟨j + 1, by omega, by go_num, hb11⟩
                  case measure => simp [intOf]; omega
                · have hrow6 := Lib.hid (own_kept hrow5.out hb8)
                  have hb9 := below_join HB6.out hb8
                  go_wp2_with fail
                  go_roundw
                  case rel => exact ⟨q + 1, by omega, by go_num, by rw [HLV.out], hrow6, hb9⟩
                  case measure => simp [intOf]; omega
        · have htk : (Tr.all a).take q = Tr.all a := List.take_of_length_le (by have := HLN.out; omega)
          rw [htk] at hlvl ⊢
          have lq := HL0.out.below hb HL0.out.lt
          have p1 := lq.cell (i := 1) rfl
          have p2 := lq.cell (i := 2) rfl
          have p3 := lq.cell (i := 3) rfl
          have p4 := lq.cell (i := 4) rfl
          have p5 := lq.cell (i := 5) rfl
          have ctb := C4.out hsz _ hb
          obtain ⟨LV, hLV⟩ : ∃ k, k = (Ck.lv (Tr.all a)).length := ⟨_, rfl⟩
          have hc2 := hcount.out
          have hp2 := hpop.out
          rw [← hLV] at hc2 hp2 hlvl ⊢
          rw [← Ck.tables_lv] at hp2
          have hm2 : ((m : Int) == 2 * (LV : Int) - 1) = true := by
            have := HLN.out
            simp only [beq_iff_eq]; omega
          have hTl : Tr.tables a < 18446744073709551616 := St.ofN_lt _
          obtain ⟨T, hT⟩ : ∃ T, T = Tr.tables a := ⟨_, rfl⟩
          rw [← hT] at ctb hp2 hTl
          have cct := fun W => rcount_any (T : Int) W (U64.of hTl)
          simp only [Int.toNat_natCast, hp2] at cct
          have CCT := Lib.hid cct
          clear htk lq hLV hc2 hp2 hT cct hrow
          go_wp2_with fail
          refine ctb.mono ?_
          rintro e w7 ⟨rfl, hb7⟩
          clear ctb p1 p2 p3 p4 p5
          go_wp2_with fail
          refine (CCT.out _).mono ?_
          rintro e w8 ⟨rfl, hb8⟩
          have hb9 := below_join hb7 hb8
          have ca := CA.out _ hb9
          go_wp2_with fail
          refine ca.mono ?_
          rintro e w9 ⟨rfl, hb10⟩
          clear ca
          go_wp2_with fail
          go_ret
          exact ⟨rfl, below_join HB.out hb10⟩
    · have hz1 : (z != 0) = true := by simpa using hz0
      go_wp2_with fail
      refine cq.mono ?_
      rintro e w2 ⟨rfl, hb2⟩
      have ca := CA.out _ hb2
      clear cq p0 p1 p2 p3 p4 p5
      go_wp2_with fail
      refine ca.mono ?_
      rintro e w3 ⟨rfl, hb3⟩
      go_wp2_with fail
      go_ret
      exact ⟨rfl, below_join HB.out hb3⟩
end Go.Proofs.Ytdcgfhenlddmeaa
