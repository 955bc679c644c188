/-
  The document's answer for layer 11: conj.
-/
import Derived.Test.YtdcgfhenlddmeaaCkpM
namespace Go.Proofs.Ytdcgfhenlddmeaa
open Go.RowKit Go.Sort
set_option maxHeartbeats 25600000

set_option maxRecDepth 100000 in
theorem rconj_any (d : Nat) (f : Pf) (u : Value) (ps : List Pd) (cv : Value) (cols : List Int) (l r : Nat) (w : World) (hu : PsAt d w u ps) (hc : Sl w cv (cols.map (Value.int .i64))) (hl : l < 18446744073709551616) (hr : r < 18446744073709551616)
    (hlr : ∀ j, (l ||| r).testBit j = true → j < cols.length) (hsz : Pr.sizes ps ≤ 1000) :
    Calls Try.prog 35 #[.agg #[.int .i64 f.k, .int .i64 f.u, .int .i64 f.o, .int .i64 f.a.k, .int .i64 f.a.t, .int .i64 f.a.c, .bool f.a.z, .int .i64 f.a.n, .int .i64 f.b.k, .int .i64 f.b.t, .int .i64 f.b.c, .bool f.b.z, .int .i64 f.b.n, u], cv, .int .u64 (l : Int), .int .u64 (r : Int)] w
      fun e w' => e = .returned (.int .i64 (Ck.conj cols l r (.mk f ps))) ∧ Below w.heap.size w w' := by
  obtain ⟨A, c, rfl, hlen⟩ := hu.form
  obtain ⟨W0, hW0⟩ : ∃ W0, W0 = w.alloc (Obj.cells #[.int .i64 f.k, .int .i64 f.u, .int .i64 f.o, .int .i64 f.a.k, .int .i64 f.a.t, .int .i64 f.a.c, .bool f.a.z, .int .i64 f.a.n, .int .i64 f.b.k, .int .i64 f.b.t, .int .i64 f.b.c, .bool f.b.z, .int .i64 f.b.n, .slice A ps.length c] 49) := ⟨_, rfl⟩
  obtain ⟨l0, p0, hb0⟩ := pd_box hW0
  have hlt0 := l0.lt
  have cs := r6right_any d f _ ps W0 (hu.below hb0 (Nat.le_refl _))
  have cs2 := fun W (h : Below W0.heap.size W0 W) => (r6cols_any d f _ ps W ((hu.below hb0 (Nat.le_refl _)).below h (Nat.le_refl _)) hsz).mono fun e w' h => own_some h (by have := Pr.cols_len (.mk f ps); rw [Pr.size] at this; omega)
  have cs3 := fun W (h : Below W0.heap.size W0 W) => r6tables_any d f _ ps W ((hu.below hb0 (Nat.le_refl _)).below h (Nat.le_refl _))
  have CS2 := Lib.hid cs2
  have CS3 := Lib.hid cs3
  have HP := Lib.hid p0
  have HC := Lib.hid (hc.below hb0 (Nat.le_refl _))
  have HLR := Lib.hid hlr
  have HW := Lib.hid hW0
  have HB := Lib.hid hb0
  have HLT := Lib.hid hlt0
  have HLEN := Lib.hid (Pr.cols_len (.mk f ps))
  have hsz2 : Pr.size (.mk f ps) = 1 + Pr.sizes ps := by rw [Pr.size]
  have HTL := Lib.hid (tables_lt (.mk f ps))
  obtain ⟨C, cc, hcv, _⟩ := hc
  subst hcv
  rw [List.length_map] at HC ⊢
  obtain ⟨n, hnn⟩ : ∃ n, n = cols.length := ⟨_, rfl⟩
  rw [← hnn] at HC ⊢
  have HN := Lib.hid hnn
  have HOR := Lib.hid (u64_or_nat l r hl hr)
  obtain ⟨R, hR⟩ : ∃ R, R = Ck.conj cols l r (.mk f ps) := ⟨_, rfl⟩
  obtain ⟨L, hL⟩ : ∃ L, L = Pr.cols (.mk f ps) := ⟨_, rfl⟩
  obtain ⟨T, hT⟩ : ∃ T, T = Pr.tables (.mk f ps) := ⟨_, rfl⟩
  rw [← hR]
  unfold Ck.conj at hR
  rw [← hL, ← hT] at hR
  rw [← hL] at HLEN
  rw [← hT] at HTL
  simp only [← hL] at CS2
  simp only [← hT] at CS3
  have HSZ := Lib.hid (show L.length ≤ 2002 by have := HLEN.out; omega)
  obtain ⟨rt, hrt⟩ : ∃ rt, rt = Pr.rightAt (.mk f ps) 1 := ⟨_, rfl⟩
  rw [← hrt] at hR cs
  have HA1 := Lib.hid (u64_and_nat T l HTL.out hl)
  have HA2 := Lib.hid (u64_and_nat T r HTL.out hr)
  clear hu hlr hW0 hb0 l0 hlt0 cs2 cs3 hL hT hrt hnn hsz hsz2 HLEN
  obtain ⟨x0, x1, x2, x3, x4, x5, x6, x7, x8, x9, x10, x11, x12, x13⟩ := p0
  go_enter Try.func35, Try.ntmps35
  go_upto_region 1 with (fail)
  rw [← HW.out]
  cases rt with
  | false =>
    rw [if_pos rfl] at hR
    subst hR
    go_wp2_with fail
    refine cs.mono ?_
    rintro e w2 ⟨rfl, hb2⟩
    clear cs x0 x1 x2 x3 x4 x5 x6 x7 x8 x9 x10 x11 x12 x13
    go_wp2_with fail
    go_ret
    exact ⟨rfl, below_join HB.out hb2⟩
  | true =>
    rw [if_neg (by simp)] at hR
    have HR := Lib.hid hR
    clear hR
    go_wp2_with fail
    refine cs.mono ?_
    rintro e w2 ⟨rfl, hb2⟩
    clear cs x0 x1 x2 x3 x4 x5 x6 x7 x8 x9 x10 x11 x12 x13
    obtain ⟨x0, x1, x2, x3, x4, x5, x6, x7, x8, x9, x10, x11, x12, x13⟩ := HP.out.below hb2 HLT.out
    go_wp2_with fail
    refine (CS2.out w2 hb2).mono ?_
    rintro e w3 ⟨pv, rfl, hpv, hb3⟩
    clear x0 x1 x2 x3 x4 x5 x6 x7 x8 x9 x10 x11 x12 x13
    have HPV := Lib.hid hpv
    obtain ⟨B, cb, rfl, _, _⟩ := hpv
    obtain ⟨k, hk⟩ : ∃ k, k = L.length := ⟨_, rfl⟩
    have HK := Lib.hid hk
    rw [← hk]
    have hsk : k ≤ 2002 := by have := HSZ.out; omega
    have hb3' := below_join hb2 hb3
    clear hk
    go_wp2_with fail
    go_loopw [10] (fun i wr => ∃ q : Nat, q ≤ k ∧ i = .int .i64 q ∧ Hid ((L.take q).any (Ck.out cols l r) = false) ∧ Below w3.heap.size w3 wr) (fun i _ => k - (intOf i).toNat)
    case atStart => exact ⟨0, Nat.zero_le _, rfl, Lib.hid (by simp), Below.refl _ _⟩
    case round =>
      obtain ⟨q, hq, rfl, hno, hb⟩ := hrel
      by_cases hlt : q < k
      · obtain ⟨x, gx⟩ : ∃ x, L[q]? = some x := ⟨L[q]'(by have := HK.out; omega), List.getElem?_eq_getElem _⟩
        obtain ⟨A4, c4, hA4, _, hx⟩ := pairs_below HPV.out hb (Nat.le_refl _)
        obtain ⟨b1, o1, p1, rfl, _, y0, y1⟩ := hx q x gx
        have e1 : B = some ⟨b1, o1, p1⟩ := by cases hA4; rfl
        subst e1
        have ht : L.take (q + 1) = L.take q ++ [x] := by rw [List.take_add_one, gx]; rfl
        have Gx := Lib.hid gx
        have Ht := Lib.hid ht
        clear gx hx hA4 ht
        obtain ⟨x1, x2⟩ := x
        dsimp only at y0 y1
        have chl := fun W => rhas_any (l : Int) x1 W (U64.of hl)
        have chr := fun W => rhas_any (r : Int) x1 W (U64.of hr)
        simp only [Int.toNat_natCast] at chl chr
        replace chl := fun W => (chl W).mono fun e w' h => (⟨h.1, h.2.symm⟩ : _ ∧ w' = W)
        replace chr := fun W => (chr W).mono fun e w' h => (⟨h.1, h.2.symm⟩ : _ ∧ w' = W)
        have hb6 := hb
        by_cases hh : St.hasB (l ||| r) x1 = true
        · have hin : ∃ q1 : Nat, x1 = q1 ∧ q1 < n := by
            have h2 := hh
            unfold St.hasB at h2
            simp only [Bool.and_eq_true, decide_eq_true_eq] at h2
            exact ⟨x1.toNat, by omega, by rw [HN.out]; exact HLR.out _ h2.2.2⟩
          obtain ⟨q1, rfl, hq1⟩ := hin
          obtain ⟨m, hm⟩ : ∃ m, cols[q1]? = some m := ⟨cols[q1]'(by have := HN.out; omega), List.getElem?_eq_getElem _⟩
          obtain ⟨b2, o2, p2, rfl, _, u0⟩ := (HC.out.below (below_join hb3' hb6) (Nat.le_refl _)).ints_at hm
          have hout := Ck.out_yes (x := ((q1 : Int), x2)) hh rfl hm
          rw [Ck.has_or, Bool.or_eq_true] at hh
          by_cases hm2 : m ≤ x2
          · rw [decide_eq_true hm2] at hout
            have hr10 : R = 10 := by
              rw [HR.out, if_pos (List.any_eq_true.2 ⟨_, List.mem_of_getElem? Gx.out, hout⟩)]
            subst hr10
            clear hout
            cases hbl : St.hasB l (q1 : Int) with
            | true =>
              rw [hbl] at chl
              clear hh hbl
              go_upto_region 7 with (fail)
              go_quiet ((go_at_call 39; (with_reducible exact Calls.quiet_of_same (chl _))))
              go_wp2_with fail
              go_ret
              exact ⟨rfl, below_join HB.out (below_join hb3' (below_drewN hb6 _))⟩
            | false =>
              have hbr : St.hasB r (q1 : Int) = true := by rw [hbl] at hh; simpa using hh
              rw [hbl] at chl
              rw [hbr] at chr
              clear hh hbl hbr
              go_upto_region 7 with (fail)
              go_quiet ((go_at_call 39; first | (with_reducible exact Calls.quiet_of_same (chl _)) | (with_reducible exact Calls.quiet_of_same (chr _))))
              go_wp2_with fail
              go_ret
              exact ⟨rfl, below_join HB.out (below_join hb3' (below_drewN hb6 _))⟩
          · rw [decide_eq_false hm2] at hout
            have hno2 : Hid ((L.take (q + 1)).any (Ck.out cols l r) = false) := Lib.hid (by rw [Ht.out, List.any_append, hno.out, List.any_cons, List.any_nil, hout]; rfl)
            clear hout
            cases hbl : St.hasB l (q1 : Int) with
            | true =>
              rw [hbl] at chl
              clear hh hbl
              go_upto_region 7 with (fail)
              go_quiet ((go_at_call 39; (with_reducible exact Calls.quiet_of_same (chl _))))
              go_wp2_with fail
              go_roundw
              case rel => exact ⟨q + 1, by omega, by go_num, hno2, below_drewN hb6 _⟩
              case measure => simp [intOf]; omega
            | false =>
              have hbr : St.hasB r (q1 : Int) = true := by rw [hbl] at hh; simpa using hh
              rw [hbl] at chl
              rw [hbr] at chr
              clear hh hbl hbr
              go_upto_region 7 with (fail)
              go_quiet ((go_at_call 39; first | (with_reducible exact Calls.quiet_of_same (chl _)) | (with_reducible exact Calls.quiet_of_same (chr _))))
              go_wp2_with fail
              go_roundw
              case rel => exact ⟨q + 1, by omega, by go_num, hno2, below_drewN hb6 _⟩
              case measure => simp [intOf]; omega
        · have hh2 : St.hasB (l ||| r) x1 = false := by simpa using hh
          have hout := Ck.out_no (cols := cols) (x := (x1, x2)) hh2
          have hr10 : R = 10 := by
            rw [HR.out, if_pos (List.any_eq_true.2 ⟨_, List.mem_of_getElem? Gx.out, hout⟩)]
          subst hr10
          rw [Ck.has_or, Bool.or_eq_false_iff] at hh2
          rw [hh2.1] at chl
          rw [hh2.2] at chr
          clear hh hh2 hout
          go_upto_region 7 with (fail)
          go_quiet ((go_at_call 39; first | (with_reducible exact Calls.quiet_of_same (chl _)) | (with_reducible exact Calls.quiet_of_same (chr _))))
          go_wp2_with fail
          go_ret
          exact ⟨rfl, below_join HB.out (below_join hb3' (below_drewN hb6 _))⟩
      · have hany : L.any (Ck.out cols l r) = false := by rw [← hno.out, List.take_of_length_le (by have := HK.out; omega)]
        have hR2 : R = if T &&& l = 0 ∨ T &&& r = 0 then 11 else 0 := by rw [HR.out, if_neg (by rw [hany]; simp)]
        have hb7 := below_join hb3' hb
        obtain ⟨x0, x1, x2, x3, x4, x5, x6, x7, x8, x9, x10, x11, x12, x13⟩ := HP.out.below hb7 HLT.out
        have ct := CS3.out wr hb7
        clear hany
        by_cases t1 : T &&& l = 0
        · rw [if_pos (.inl t1)] at hR2
          subst hR2
          have e1 := HA1.out
          rw [t1] at e1
          have E1 := Lib.hid e1
          clear e1 t1
          go_wp2_with fail
          refine ct.mono ?_
          rintro e w8 ⟨rfl, hb8⟩
          clear ct x0 x1 x2 x3 x4 x5 x6 x7 x8 x9 x10 x11 x12 x13
          go_wp2_with (first | (rw [E1.out]; go_in))
          go_ret
          exact ⟨rfl, below_join HB.out (below_join hb7 hb8)⟩
        · have e1 := HA1.out
          have n1 : (((T &&& l : Nat) : Int) == 0) = false := by simpa using t1
          have E1 := Lib.hid e1
          clear e1
          by_cases t2 : T &&& r = 0
          · rw [if_pos (.inr t2)] at hR2
            subst hR2
            have e2 := HA2.out
            rw [t2] at e2
            have E2 := Lib.hid e2
            clear e2 t2 t1
            go_wp2_with fail
            refine ct.mono ?_
            rintro e w8 ⟨rfl, hb8⟩
            clear ct x0 x1 x2 x3 x4 x5 x6 x7 x8 x9 x10 x11 x12 x13
            have a1 := E1.out
            have a2 := E2.out
            go_wp2_with fail
            go_ret
            exact ⟨rfl, below_join HB.out (below_join hb7 hb8)⟩
          · rw [if_neg (by simp [t1, t2])] at hR2
            subst hR2
            have n2 : (((T &&& r : Nat) : Int) == 0) = false := by simpa using t2
            have E2 := HA2.out
            clear t2 t1
            go_wp2_with fail
            refine ct.mono ?_
            rintro e w8 ⟨rfl, hb8⟩
            clear ct x0 x1 x2 x3 x4 x5 x6 x7 x8 x9 x10 x11 x12 x13
            have a1 := E1.out
            go_wp2_with fail
            go_ret
            exact ⟨rfl, below_join HB.out (below_join hb7 hb8)⟩
end Go.Proofs.Ytdcgfhenlddmeaa
