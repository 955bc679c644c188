/-
  package check: conjunct.
-/
import Derived.Test.YtdcgfhenlddmeaaCkmM
import Derived.Test.YtdcgfhenlddmeaaPredsM
import Derived.Test.YtdcgfhenlddmeaaPredtM
import Derived.Test.YtdcgfhenlddmeaaPreduM
import Derived.Test.YtdcgfhenlddmeaaGBase
namespace Go.Proofs.Ytdcgfhenlddmeaa
open Go.RowKit Go.Sort
set_option maxHeartbeats 1600000

theorem pairs_below {w w' : World} {B : Nat} {v : Value} {l : List (Int × Int)} (h : Pairs w v l) (hb : Below B w w') (hB : w.heap.size ≤ B) : Pairs w' v l := by
  obtain ⟨A, c, hv, hl, hx⟩ := h
  refine ⟨A, c, hv, hl, fun j x hj => ?_⟩
  obtain ⟨b, o, p, hA, hlt, h0, h1⟩ := hx j x hj
  exact ⟨b, o, p, hA, Nat.lt_of_lt_of_le hlt hb.size, (hb.cell (by rw [add_block]; show b < B; omega)).trans h0, (hb.cell (by show ((⟨b, o, p⟩ : Addr).add (j * 2)).block < B; rw [add_block]; show b < B; omega)).trans h1⟩
theorem Sl.ints_at {w : World} {A : Option Addr} {n c : Nat} {l : List Int} {k : IntKind} {j : Nat} {x : Int} (h : Sl w (.slice A n c) (l.map (Value.int k))) (hj : l[j]? = some x) :
    ∃ b o p, A = some ⟨b, o, p⟩ ∧ b < w.heap.size ∧ w.cell? ((⟨b, o, p⟩ : Addr).add j) = some (.int k x) := by
  obtain ⟨A', c', hv, _, hx⟩ := h
  cases hv
  exact hx j _ (by rw [List.getElem?_map, hj]; rfl)
theorem Ck.out_no {cols : List Int} {l r : Nat} {x : Int × Int} (h : St.hasB (l ||| r) x.1 = false) : Ck.out cols l r x = true := by
  rw [Ck.has_or, Bool.or_eq_false_iff] at h
  unfold Ck.out
  rw [h.1, h.2]; rfl
theorem Ck.out_yes {cols : List Int} {l r : Nat} {x : Int × Int} {q : Nat} {m : Int} (h : St.hasB (l ||| r) x.1 = true) (hq : x.1 = q) (hm : cols[q]? = some m) : Ck.out cols l r x = decide (m ≤ x.2) := by
  rw [Ck.has_or, Bool.or_eq_true] at h
  unfold Ck.out
  rw [hq] at h ⊢
  have e : (!St.hasB l (q : Int) && !St.hasB r (q : Int)) = false := by
    rcases h with h | h <;> simp [h]
  have e2 : cols.getD ((q : Int)).toNat 0 = m := by
    rw [Int.toNat_natCast, List.getD_eq_getElem?_getD, hm]; rfl
  rw [e, e2, Bool.false_or]
set_option maxRecDepth 100000 in
theorem conjunct_any (d : Nat) (f : Pf) (u : Value) (ps : List Pd) (cv : Value) (cols : List Int) (l r : Nat) (w : World) (hu : PsAt d w u ps) (hc : Sl w cv (cols.map (Value.int .i64))) (hl : l < 18446744073709551616) (hr : r < 18446744073709551616)
    (hlr : ∀ j, (l ||| r).testBit j = true → j < cols.length) (hsz : Pr.sizes ps ≤ 1000) :
    Calls Try.prog 34 #[.agg #[.int .i64 f.k, .int .i64 f.u, .int .i64 f.o, .int .i64 f.a.k, .int .i64 f.a.t, .int .i64 f.a.c, .bool f.a.z, .int .i64 f.a.n, .int .i64 f.b.k, .int .i64 f.b.t, .int .i64 f.b.c, .bool f.b.z, .int .i64 f.b.n, u], cv, .int .u64 (l : Int), .int .u64 (r : Int)] w
      fun e w' => e = .returned (.int .i64 (Ck.conj cols l r (.mk f ps))) ∧ Below w.heap.size w w' := by
  obtain ⟨A, c, rfl, hlen⟩ := hu.form
  obtain ⟨W0, hW0⟩ : ∃ W0, W0 = w.alloc (Obj.cells #[.int .i64 f.k, .int .i64 f.u, .int .i64 f.o, .int .i64 f.a.k, .int .i64 f.a.t, .int .i64 f.a.c, .bool f.a.z, .int .i64 f.a.n, .int .i64 f.b.k, .int .i64 f.b.t, .int .i64 f.b.c, .bool f.b.z, .int .i64 f.b.n, .slice A ps.length c] 49) := ⟨_, rfl⟩
  obtain ⟨l0, p0, hb0⟩ := pd_box hW0
  have hlt0 := l0.lt
  have cs := pright_any d f _ ps W0 (hu.below hb0 (Nat.le_refl _))
  have cs2 := fun W (h : Below W0.heap.size W0 W) => pcols_any d f _ ps W ((hu.below hb0 (Nat.le_refl _)).below h (Nat.le_refl _)) hsz
  have cs3 := fun W (h : Below W0.heap.size W0 W) => ptables_any d f _ ps W ((hu.below hb0 (Nat.le_refl _)).below h (Nat.le_refl _))
  have CS2 := Lib.hid cs2
  have CS3 := Lib.hid cs3
  have HP := Lib.hid p0
  have HC := Lib.hid (hc.below hb0 (Nat.le_refl _))
  have HLR := Lib.hid hlr
  have HW := Lib.hid hW0
  have HB := Lib.hid hb0
  have HLT := Lib.hid hlt0
  have HLEN := Lib.hid (Pr.cols_len (.mk f ps))
  have hsz2 : Pr.size (.mk f ps) = 1 + Pr.sizes ps := by rw [Pr.size]
  have HTL := Lib.hid (tables_lt (.mk f ps))
  obtain ⟨C, cc, hcv, _⟩ := hc
  subst hcv
  rw [List.length_map] at HC ⊢
  obtain ⟨n, hnn⟩ : ∃ n, n = cols.length := ⟨_, rfl⟩
  rw [← hnn] at HC ⊢
  have HN := Lib.hid hnn
  have HOR := Lib.hid (u64_or_nat l r hl hr)
  obtain ⟨R, hR⟩ : ∃ R, R = Ck.conj cols l r (.mk f ps) := ⟨_, rfl⟩
  obtain ⟨L, hL⟩ : ∃ L, L = Pr.cols (.mk f ps) := ⟨_, rfl⟩
  obtain ⟨T, hT⟩ : ∃ T, T = Pr.tables (.mk f ps) := ⟨_, rfl⟩
  rw [← hR]
  unfold Ck.conj at hR
  rw [← hL, ← hT] at hR
  rw [← hL] at HLEN
  rw [← hT] at HTL
  simp only [← hL] at CS2
  simp only [← hT] at CS3
  have HSZ := Lib.hid (show L.length ≤ 2002 by have := HLEN.out; omega)
  obtain ⟨rt, hrt⟩ : ∃ rt, rt = Pr.rightAt (.mk f ps) 1 := ⟨_, rfl⟩
  rw [← hrt] at hR cs
  have HA1 := Lib.hid (u64_and_nat T l HTL.out hl)
  have HA2 := Lib.hid (u64_and_nat T r HTL.out hr)
  clear hu hlr hW0 hb0 l0 hlt0 cs2 cs3 hL hT hrt hnn hsz hsz2 HLEN
  obtain ⟨x0, x1, x2, x3, x4, x5, x6, x7, x8, x9, x10, x11, x12, x13⟩ := p0
  go_enter Try.func34, Try.ntmps34
  go_upto_region 1 with (fail)
  rw [← HW.out]
  cases rt with
  | false =>
    rw [if_pos rfl] at hR
    subst hR
    go_wp2_with fail
    refine cs.mono ?_
    rintro e w2 ⟨rfl, hb2⟩
    clear cs x0 x1 x2 x3 x4 x5 x6 x7 x8 x9 x10 x11 x12 x13
    go_wp2_with fail
    go_ret
    exact ⟨rfl, below_join HB.out hb2⟩
  | true =>
    rw [if_neg (by simp)] at hR
    have HR := Lib.hid hR
    clear hR
    go_wp2_with fail
    refine cs.mono ?_
    rintro e w2 ⟨rfl, hb2⟩
    clear cs x0 x1 x2 x3 x4 x5 x6 x7 x8 x9 x10 x11 x12 x13
    obtain ⟨x0, x1, x2, x3, x4, x5, x6, x7, x8, x9, x10, x11, x12, x13⟩ := HP.out.below hb2 HLT.out
    go_wp2_with fail
    refine (CS2.out w2 hb2).mono ?_
    rintro e w3 ⟨pv, rfl, hpv, hb3⟩
    clear x0 x1 x2 x3 x4 x5 x6 x7 x8 x9 x10 x11 x12 x13
    have HPV := Lib.hid hpv
    obtain ⟨B, cb, rfl, _, _⟩ := hpv
    obtain ⟨k, hk⟩ : ∃ k, k = L.length := ⟨_, rfl⟩
    have HK := Lib.hid hk
    rw [← hk]
    have hsk : k ≤ 2002 := by have := HSZ.out; omega
    have hb3' := below_join hb2 hb3
    clear hk
    go_wp2_with fail
    go_loopw [20] (fun i wr => ∃ q : Nat, q ≤ k ∧ i = .int .i64 q ∧ Hid ((L.take q).any (Ck.out cols l r) = false) ∧ Below w3.heap.size w3 wr) (fun i _ => k - (intOf i).toNat)
    case atStart => exact ⟨0, Nat.zero_le _, rfl, Lib.hid (by simp), Below.refl _ _⟩
    case round =>
      obtain ⟨q, hq, rfl, hno, hb⟩ := hrel
      by_cases hlt : q < k
      · obtain ⟨x, gx⟩ : ∃ x, L[q]? = some x := ⟨L[q]'(by have := HK.out; omega), List.getElem?_eq_getElem _⟩
        obtain ⟨A4, c4, hA4, _, hx⟩ := pairs_below HPV.out hb (Nat.le_refl _)
        obtain ⟨b1, o1, p1, rfl, _, y0, y1⟩ := hx q x gx
        have e1 : B = some ⟨b1, o1, p1⟩ := by cases hA4; rfl
        subst e1
        have ht : L.take (q + 1) = L.take q ++ [x] := by rw [List.take_add_one, gx]; rfl
        have Gx := Lib.hid gx
        have Ht := Lib.hid ht
        clear gx hx hA4 ht
        obtain ⟨x1, x2⟩ := x
        dsimp only at y0 y1
        obtain ⟨W5, hW5⟩ : ∃ W5, W5 = wr.alloc (Obj.cells #[.int .i64 x1, .int .i64 x2] 83) := ⟨_, rfl⟩
        obtain ⟨l5, hb5⟩ := box1 hW5
        have z0 := l5.cell (i := 0) rfl
        have z1 := l5.cell (i := 1) rfl
        have HW5 := Lib.hid hW5
        have hb5' := below_join hb hb5
        clear hW5 l5 hb5 hb
        go_upto_region 6 with (fail)
        rw [← HW5.out]
        clear y0 y1
        go_quiet (fail)
        obtain ⟨W6, hW6⟩ : ∃ W6, W6 = W5.drewN nq := ⟨_, rfl⟩
        rw [← hW6]
        have hb6 : Below w3.heap.size w3 W6 := by rw [hW6]; exact below_drewN hb5' nq
        have ch := has_any ((l ||| r : Nat) : Int) x1 W6 (U64.of (Nat.or_lt_two_pow (n := 64) hl hr))
        rw [Int.toNat_natCast, ← HOR.out] at ch
        clear hW6 hb5' z0 z1
        by_cases hh : St.hasB (l ||| r) x1 = true
        · have hin : ∃ q1 : Nat, x1 = q1 ∧ q1 < n := by
            have h2 := hh
            unfold St.hasB at h2
            simp only [Bool.and_eq_true, decide_eq_true_eq] at h2
            exact ⟨x1.toNat, by omega, by rw [HN.out]; exact HLR.out _ h2.2.2⟩
          obtain ⟨q1, rfl, hq1⟩ := hin
          obtain ⟨m, hm⟩ : ∃ m, cols[q1]? = some m := ⟨cols[q1]'(by have := HN.out; omega), List.getElem?_eq_getElem _⟩
          obtain ⟨b2, o2, p2, rfl, _, u0⟩ := (HC.out.below (below_join hb3' hb6) (Nat.le_refl _)).ints_at hm
          have hout := Ck.out_yes (x := ((q1 : Int), x2)) hh rfl hm
          rw [hh] at ch
          by_cases hm2 : m ≤ x2
          · rw [decide_eq_true hm2] at hout
            have hr10 : R = 10 := by
              rw [HR.out, if_pos (List.any_eq_true.2 ⟨_, List.mem_of_getElem? Gx.out, hout⟩)]
            subst hr10
            clear hh hout
            go_wp2_with fail
            refine ch.mono ?_
            rintro e w' ⟨rfl, rfl⟩
            clear ch
            go_wp2_with fail
            go_ret
            exact ⟨rfl, below_join HB.out (below_join hb3' hb6)⟩
          · rw [decide_eq_false hm2] at hout
            have hno2 : Hid ((L.take (q + 1)).any (Ck.out cols l r) = false) := Lib.hid (by rw [Ht.out, List.any_append, hno.out, List.any_cons, List.any_nil, hout]; rfl)
            clear hh hout
            go_wp2_with fail
            refine ch.mono ?_
            rintro e w' ⟨rfl, rfl⟩
            clear ch
            go_wp2_with fail
            go_roundw
            case rel => exact ⟨q + 1, by omega, by go_num, hno2, hb6⟩
            case measure => simp [intOf]; omega
        · have hh2 : St.hasB (l ||| r) x1 = false := by simpa using hh
          have hout := Ck.out_no (cols := cols) (x := (x1, x2)) hh2
          have hr10 : R = 10 := by
            rw [HR.out, if_pos (List.any_eq_true.2 ⟨_, List.mem_of_getElem? Gx.out, hout⟩)]
          subst hr10
          rw [hh2] at ch
          clear hh hh2 hout
          go_wp2_with fail
          refine ch.mono ?_
          rintro e w' ⟨rfl, rfl⟩
          clear ch
          go_wp2_with fail
          go_ret
          exact ⟨rfl, below_join HB.out (below_join hb3' hb6)⟩
      · have hany : L.any (Ck.out cols l r) = false := by rw [← hno.out, List.take_of_length_le (by have := HK.out; omega)]
        have hR2 : R = if T &&& l = 0 ∨ T &&& r = 0 then 11 else 0 := by rw [HR.out, if_neg (by rw [hany]; simp)]
        have hb7 := below_join hb3' hb
        obtain ⟨x0, x1, x2, x3, x4, x5, x6, x7, x8, x9, x10, x11, x12, x13⟩ := HP.out.below hb7 HLT.out
        have ct := CS3.out wr hb7
        clear hany
        by_cases t1 : T &&& l = 0
        · rw [if_pos (.inl t1)] at hR2
          subst hR2
          have e1 := HA1.out
          rw [t1] at e1
          have E1 := Lib.hid e1
          clear e1 t1
          go_wp2_with fail
          refine ct.mono ?_
          rintro e w8 ⟨rfl, hb8⟩
          clear ct x0 x1 x2 x3 x4 x5 x6 x7 x8 x9 x10 x11 x12 x13
          go_wp2_with (first | (rw [E1.out]; go_in))
          go_ret
          exact ⟨rfl, below_join HB.out (below_join hb7 hb8)⟩
        · have e1 := HA1.out
          have n1 : (((T &&& l : Nat) : Int) == 0) = false := by simpa using t1
          have E1 := Lib.hid e1
          clear e1
          by_cases t2 : T &&& r = 0
          · rw [if_pos (.inr t2)] at hR2
            subst hR2
            have e2 := HA2.out
            rw [t2] at e2
            have E2 := Lib.hid e2
            clear e2 t2 t1
            go_wp2_with fail
            refine ct.mono ?_
            rintro e w8 ⟨rfl, hb8⟩
            clear ct x0 x1 x2 x3 x4 x5 x6 x7 x8 x9 x10 x11 x12 x13
            have a1 := E1.out
            have a2 := E2.out
            go_wp2_with fail
            go_ret
            exact ⟨rfl, below_join HB.out (below_join hb7 hb8)⟩
          · rw [if_neg (by simp [t1, t2])] at hR2
            subst hR2
            have n2 : (((T &&& r : Nat) : Int) == 0) = false := by simpa using t2
            have E2 := HA2.out
            clear t2 t1
            go_wp2_with fail
            refine ct.mono ?_
            rintro e w8 ⟨rfl, hb8⟩
            clear ct x0 x1 x2 x3 x4 x5 x6 x7 x8 x9 x10 x11 x12 x13
            have a1 := E1.out
            go_wp2_with fail
            go_ret
            exact ⟨rfl, below_join HB.out (below_join hb7 hb8)⟩
end Go.Proofs.Ytdcgfhenlddmeaa
