/-
  The document's answer for layer 11: Data.
-/
import Derived.Test.YtdcgfhenlddmeaaCkvM
import Derived.Test.YtdcgfhenlddmeaaCkwM
namespace Go.Proofs.Ytdcgfhenlddmeaa
open Go.RowKit Go.Sort
set_option maxHeartbeats 25600000

/-- a row conforms -/
def Ck.rowOk (k : Int) (r : List Vl) : Bool := decide ((r.length : Int) = k) && r.all fun v => Va.right v.1 v.2
theorem Ck.fits_rows {rs : List (List Vl)} {k : Int} (h : rs.length ≤ 1000) : Ck.fits rs k = rs.all (Ck.rowOk k) := by
  unfold Ck.fits
  rw [decide_eq_true h, Bool.true_and]
  rfl
theorem Ck.data_bad {cols : List Int} {d : List (List (List Vl))} {q : Nat} {rs : List (List Vl)} {k : Int} (hz : (d.zip cols)[q]? = some (rs, k)) (h : Ck.fits rs k = false) : Ck.fitAll cols d ≠ true := by
  unfold Ck.fitAll
  intro hh
  have := List.all_eq_true.1 hh _ (List.mem_of_getElem? hz)
  rw [h] at this
  simp at this
theorem cell_to {W0 W : World} {X : Addr} {v : Value} (h : W0.cell? X = some v) (hb : Below W0.heap.size W0 W) : W.cell? X = some v := (hb.cell (block_lt_of_cell h)).trans h
set_option maxRecDepth 100000 in
theorem rdata11_any (a : Tr) (cols : List Int) (cv : Value) (u v dv : Value) (d : List (List (List Vl))) (w : World) (hc : Sl w cv (cols.map (Value.int .i64))) (hu : ∃ d, TsAt d w u a.ks) (hv : PsSome w v a.cs) (hd : Dts w dv d) (hsz : Tr.size a ≤ 1000) :
    Calls Try.prog 14 #[.agg #[cv, .int .i64 a.k, .int .i64 a.t, u, v, .bool a.h], dv] w
      fun e w' => e = .returned (.int .i64 (Ck.data cols a d)) ∧ Below w.heap.size w w' := by
  obtain ⟨A, c, rfl, hl⟩ := hu.elim fun d h => h.form
  obtain ⟨A', c', rfl, hl'⟩ := hv.elim fun d h => h.form
  obtain ⟨C, cc, hcv, _⟩ := id hc
  subst hcv
  obtain ⟨D, dc, hdv, _, _⟩ := id hd
  subst hdv
  rw [List.length_map] at hc ⊢
  obtain ⟨n, hn⟩ : ∃ n, n = cols.length := ⟨_, rfl⟩
  rw [← hn] at hc ⊢
  obtain ⟨m, hm⟩ : ∃ m, m = d.length := ⟨_, rfl⟩
  rw [← hm] at hd ⊢
  obtain ⟨W0, hW0⟩ : ∃ W0, W0 = w.alloc (Obj.cells #[.slice C n cc, .int .i64 a.k, .int .i64 a.t, .slice A a.ks.length c, .slice A' a.cs.length c', .bool a.h] 28) := ⟨_, rfl⟩
  obtain ⟨l0, hb0⟩ := box_one (cs := [.slice C n cc, .int .i64 a.k, .int .i64 a.t, .slice A a.ks.length c, .slice A' a.cs.length c', .bool a.h]) hW0
  have x0 := l0.cell (i := 0) rfl
  have x1 := l0.cell (i := 1) rfl
  have x2 := l0.cell (i := 2) rfl
  have x3 := l0.cell (i := 3) rfl
  have x4 := l0.cell (i := 4) rfl
  have x5 := l0.cell (i := 5) rfl
  have ct := rquery11_any a cols _ _ _ W0 (hc.below hb0 (Nat.le_refl _)) (hu.elim fun d h => ⟨d, h.below hb0 (Nat.le_refl _)⟩) (hv.below hb0 (Nat.le_refl _)) hsz
  have HC := Lib.hid (hc.below hb0 (Nat.le_refl _))
  have HD := Lib.hid (hd.below hb0 (Nat.le_refl _))
  have HX0 := Lib.hid x0
  have HW := Lib.hid hW0
  have HB := Lib.hid hb0
  have HN := Lib.hid hn
  have HM := Lib.hid hm
  obtain ⟨R, hR⟩ : ∃ R, R = Ck.data cols a d := ⟨_, rfl⟩
  rw [← hR]
  unfold Ck.data at hR
  obtain ⟨z, hz⟩ : ∃ z, z = Ck.query cols a := ⟨_, rfl⟩
  rw [← hz] at ct hR
  have HZ := Lib.hid hz
  clear hc hd hu hv hsz l0 hb0 hW0 hn hm hz
  by_cases hz0 : z = 0
  · obtain ⟨h64, hcol⟩ := Ck.query_zero (HZ.out.symm.trans hz0)
    subst hz0
    rw [if_neg (by simp)] at hR
    have HCOL := Lib.hid hcol
    have hn64 : n ≤ 64 := by have := HN.out; omega
    clear hcol h64
    by_cases hmn : m = n
    · rw [if_neg (by have := HN.out; have := HM.out; omega)] at hR
      have HR := Lib.hid hR
      subst hmn
      clear hR
      go_enter Try.func14, Try.ntmps14
      go_upto_region 1 with (fail)
      rw [← HW.out]
      go_wp2_with fail
      refine ct.mono ?_
      rintro e w1 ⟨rfl, hb1⟩
      clear ct x0 x1 x2 x3 x4 x5
      have x0 := cell_to HX0.out hb1
      go_wp2_with fail
      clear x0
      go_loopw [6] (fun i wr => ∃ q : Nat, q ≤ m ∧ i = .int .i64 q ∧ Hid (((d.zip cols).take q).all (fun x => Ck.fits x.1 x.2) = true) ∧ Below W0.heap.size W0 wr) (fun i _ => m - (intOf i).toNat)
      case atStart => exact ⟨0, Nat.zero_le _, rfl, Lib.hid (by simp), hb1⟩
      case round =>
        obtain ⟨q, hq, rfl, hok, hb⟩ := hrel
        by_cases hlt : q < m
        · obtain ⟨rs, gr⟩ : ∃ x, d[q]? = some x := ⟨d[q]'(by have := HM.out; omega), List.getElem?_eq_getElem _⟩
          obtain ⟨x, gx⟩ : ∃ x, cols[q]? = some x := ⟨cols[q]'(by have := HN.out; omega), List.getElem?_eq_getElem _⟩
          have hxb := HCOL.out x (List.mem_of_getElem? gx)
          obtain ⟨k, rfl⟩ : ∃ k : Nat, x = k := ⟨x.toNat, by omega⟩
          obtain ⟨b1, o1, p1, rfl, _, hcell⟩ := HC.out.ints_at gx
          obtain ⟨b2, o2, p2, B2, e2, hD, _, hcell2, hrs⟩ := HD.out.at_ gr
          subst hD
          have gz := zip_at11 gr gx
          have HGZ := Lib.hid gz
          have HCE := Lib.hid hcell
          have HCE2 := Lib.hid hcell2
          have HRS := Lib.hid hrs
          obtain ⟨B2', e2', hB2, _, hrow⟩ := hrs.at_
          obtain ⟨rfl, rfl⟩ : B2 = B2' ∧ e2 = e2' := by cases hB2; exact ⟨rfl, rfl⟩
          have HROW := Lib.hid hrow
          obtain ⟨nr, hnr⟩ : ∃ nr, nr = rs.length := ⟨_, rfl⟩
          have HNR := Lib.hid hnr
          have y2 := cell_to hcell2 hb
          rw [← hnr] at y2
          have hk4 : k ≤ 4 := by omega
          clear gr gx gz hrs hxb hcell hcell2 hrow hB2 hnr
          by_cases hbig : 1000 < nr
          · have hr : R = 13 := by
              rw [HR.out, if_neg (Ck.data_bad HGZ.out _)]
              unfold Ck.fits; rw [decide_eq_false (by have := HNR.out; omega), Bool.false_and]
            go_wp2_with fail
            go_ret
            exact ⟨by first | rfl | (rw [hr]; rfl), below_join HB.out hb⟩
          · have HFR := Lib.hid (show Ck.fits rs (k : Int) = rs.all (Ck.rowOk k) from Ck.fits_rows (by have := HNR.out; omega))
            go_wp2_with fail
            clear y2
            go_loopw [7] (fun i wr => ∃ j : Nat, j ≤ nr ∧ i = .int .i64 j ∧ Hid ((rs.take j).all (Ck.rowOk k) = true) ∧ Below W0.heap.size W0 wr) (fun i _ => nr - (intOf i).toNat)
            case atStart => exact ⟨0, Nat.zero_le _, rfl, Lib.hid (by simp), hb⟩
            case round =>
              obtain ⟨j, hj, rfl, hok3, hb3⟩ := hrel
              have y2 := cell_to HCE2.out hb3
              rw [← HNR.out] at y2
              by_cases hlt3 : j < nr
              · obtain ⟨r, gr⟩ : ∃ r, rs[j]? = some r := ⟨rs[j]'(by have := HNR.out; omega), List.getElem?_eq_getElem _⟩
                obtain ⟨b3, o3, p3, B3, e3, hB3, hc3, _, hra⟩ := HROW.out j r gr
                subst hB3
                have HC3 := Lib.hid hc3
                have HRA := Lib.hid hra
                have y3 := cell_to hc3 hb3
                have x0 := cell_to HX0.out hb3
                have y1 := cell_to HCE.out hb3
                have ht : rs.take (j + 1) = rs.take j ++ [r] := by rw [List.take_add_one, gr]; rfl
                have HT := Lib.hid ht
                have HGR := Lib.hid gr
                have hbad := Lib.hid (fun h : Ck.rowOk (k : Int) r = false => show R = 13 by
                  rw [HR.out, if_neg (Ck.data_bad HGZ.out _)]
                  rw [HFR.out, Bool.eq_false_iff]
                  intro hh
                  have := List.all_eq_true.1 hh r (List.mem_of_getElem? gr)
                  rw [h] at this
                  simp at this)
                clear gr ht hc3 hra
                by_cases hrk : r.length = k
                · obtain ⟨nv, hnv⟩ : ∃ nv, nv = r.length := ⟨_, rfl⟩
                  rw [← hnv] at y3 hrk
                  have HNV := Lib.hid hnv
                  subst hrk
                  clear hnv
                  go_upto_region 14 with (fail)
                  go_quiet (fail)
                  have hb4 : Below W0.heap.size W0 (wr.drewN nq) := below_drewN hb3 nq
                  obtain ⟨w4, hw4⟩ : ∃ w4, w4 = wr.drewN nq := ⟨_, rfl⟩
                  rw [← hw4] at hb4 ⊢
                  clear hw4 y1 y2 y3 x0
                  go_wp2_with fail
                  go_loopw [8] (fun i wr => ∃ l : Nat, l ≤ nv ∧ i = .int .i64 l ∧ Hid ((r.take l).all (fun v => Va.right v.1 v.2) = true) ∧ Below W0.heap.size W0 wr) (fun i _ => nv - (intOf i).toNat)
                  case atStart => exact ⟨0, Nat.zero_le _, rfl, Lib.hid (by simp), hb4⟩
                  case round =>
                    obtain ⟨l, hl5, rfl, hok5, hb5⟩ := hrel
                    have y2 := cell_to HCE2.out hb5
                    rw [← HNR.out] at y2
                    have y3 := cell_to HC3.out hb5
                    rw [← HNV.out] at y3
                    by_cases hlt5 : l < nv
                    · obtain ⟨vv, gv⟩ : ∃ v, r[l]? = some v := ⟨r[l]'(by have := HNV.out; omega), List.getElem?_eq_getElem _⟩
                      obtain ⟨b6, o6, p6, hB6, _, hc6⟩ := HRA.out.pair gv
                      subst hB6
                      obtain ⟨z0, z1⟩ := hc6 wr hb5
                      have cr := rright_any vv.1 vv.2 wr
                      obtain ⟨f, hf⟩ : ∃ f, f = Va.right vv.1 vv.2 := ⟨_, rfl⟩
                      rw [← hf] at cr
                      have HF := Lib.hid hf
                      have HGV := Lib.hid gv
                      clear hc6 gv hf
                      cases f with
                      | true =>
                        have hok6 := Lib.hid (show (r.take (l + 1)).all (fun v => Va.right v.1 v.2) = true by
                          rw [List.take_add_one, HGV.out, List.all_append, hok5.out]
                          simp [← HF.out])
                        go_wp2_with fail
                        refine cr.mono ?_
                        rintro e w7 ⟨rfl, hb7⟩
                        have hb8 := below_join hb5 hb7
                        clear cr y2 y3 z0 z1
                        go_wp2_with fail
                        go_roundw
                        case rel => exact ⟨l + 1, by omega, by go_num, hok6, hb8⟩
                        case measure => simp [intOf]; omega
                      | false =>
                        have hr := hbad.out (by
                          unfold Ck.rowOk
                          rw [Bool.and_eq_false_iff]
                          refine .inr ?_
                          rw [Bool.eq_false_iff]
                          intro hh
                          have := List.all_eq_true.1 hh vv (List.mem_of_getElem? HGV.out)
                          rw [← HF.out] at this
                          simp at this)
                        go_wp2_with fail
                        refine cr.mono ?_
                        rintro e w7 ⟨rfl, hb7⟩
                        have hb8 := below_join hb5 hb7
                        clear cr y2 y3 z0 z1
                        go_wp2_with fail
                        go_ret
                        exact ⟨by first | rfl | (rw [hr]; rfl), below_join HB.out hb8⟩
                    · have hok6 := Lib.hid (show (rs.take (j + 1)).all (Ck.rowOk nv) = true by
                        rw [HT.out, List.all_append, hok3.out, Bool.true_and, List.all_cons, List.all_nil, Bool.and_true]
                        unfold Ck.rowOk
                        rw [decide_eq_true (by have := HNV.out; omega), Bool.true_and, ← hok5.out, List.take_of_length_le (by have := HNV.out; omega)])
                      clear hok5
                      go_wp2_with fail
                      go_roundw
                      case rel => exact ⟨j + 1, by omega, by go_num, hok6, hb5⟩
                      case measure => simp [intOf]; omega
                · have hrk' : ((r.length : Int) != (k : Int)) = true := by simp; omega
                  have hr := hbad.out (by unfold Ck.rowOk; rw [decide_eq_false (by omega), Bool.false_and])
                  go_upto_region 14 with (fail)
                  go_quiet (fail)
                  go_wp2_with fail
                  go_ret
                  exact ⟨by first | rfl | (rw [hr]; rfl), below_join HB.out (below_drewN hb3 _)⟩
              · have hok4 := Lib.hid (show ((d.zip cols).take (q + 1)).all (fun x => Ck.fits x.1 x.2) = true by
                  rw [List.take_add_one, HGZ.out, List.all_append, hok.out]
                  simp only [Option.toList_some, List.all_cons, List.all_nil, Bool.and_true, Bool.true_and]
                  rw [HFR.out, ← hok3.out, List.take_of_length_le (by have := HNR.out; omega)])
                clear hok3
                go_wp2_with fail
                go_roundw
                case rel => exact ⟨q + 1, by omega, by go_num, hok4, hb3⟩
                case measure => simp [intOf]; omega
        · have hr : R = 0 := by
            rw [HR.out, if_pos]
            unfold Ck.fitAll
            rw [← hok.out, List.take_of_length_le]
            rw [List.length_zip, ← HM.out, ← HN.out]; omega
          clear hok
          go_wp2_with fail
          go_ret
          exact ⟨by first | rfl | (rw [hr]; rfl), below_join HB.out hb⟩
    · rw [if_pos (by have := HN.out; have := HM.out; omega)] at hR
      subst hR
      have hmn' : ((m : Int) != (n : Int)) = true := by simp; omega
      go_enter Try.func14, Try.ntmps14
      go_upto_region 1 with (fail)
      rw [← HW.out]
      go_wp2_with fail
      refine ct.mono ?_
      rintro e w1 ⟨rfl, hb1⟩
      clear ct x0 x1 x2 x3 x4 x5
      have x0 := cell_to HX0.out hb1
      go_wp2_with fail
      go_ret
      exact ⟨rfl, below_join HB.out hb1⟩
  · rw [if_pos hz0] at hR
    subst hR
    have hz1 : (R != 0) = true := by simpa using hz0
    go_enter Try.func14, Try.ntmps14
    go_upto_region 1 with (fail)
    rw [← HW.out]
    go_wp2_with fail
    refine ct.mono ?_
    rintro e w1 ⟨rfl, hb1⟩
    clear ct x0 x1 x2 x3 x4 x5
    go_wp2_with fail
    go_ret
    exact ⟨rfl, below_join HB.out hb1⟩
end Go.Proofs.Ytdcgfhenlddmeaa
