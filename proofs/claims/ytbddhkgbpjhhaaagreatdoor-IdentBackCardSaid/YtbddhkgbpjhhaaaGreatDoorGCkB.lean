/-
  LAID TOGETHER, BY PROGRAM, of: Ckp, Ckq, Ckr, Ckc, Ckt.
-/
import Derived.Test.YtbddhkgbpjhhaaaGreatDoorGPl2
import Derived.Test.YtbddhkgbpjhhaaaGreatDoorGCkA
import Derived.Test.YtbddhkgbpjhhaaaGreatDoorGBase
import Derived.Test.YtbddhkgbpjhhaaaGreatDoorGTreeA
import Derived.Deep.RegionHeld3
import Derived.OrdersIn
import Derived.Shelf.Abstract
import Derived.WalkKit
import Derived.OwnWalkIn
import Derived.TacticsInMore
namespace Go.Proofs.YtbddhkgbpjhhaaaGreatDoor
open Go.RowKit Go.Sort
set_option maxHeartbeats 1600000
theorem pairs_below {w w' : World} {B : Nat} {v : Value} {l : List (Int × Int)} (h : Pairs w v l) (hb : Below B w w') (hB : w.heap.size ≤ B) : Pairs w' v l := by
  obtain ⟨A, c, hv, hl, hx⟩ := h
  refine ⟨A, c, hv, hl, fun j x hj => ?_⟩
  obtain ⟨b, o, p, hA, hlt, h0, h1⟩ := hx j x hj
  exact ⟨b, o, p, hA, Nat.lt_of_lt_of_le hlt hb.size, (hb.cell (by rw [add_block]; show b < B; omega)).trans h0, (hb.cell (by show ((⟨b, o, p⟩ : Addr).add (j * 2)).block < B; rw [add_block]; show b < B; omega)).trans h1⟩
theorem Sl.ints_at {w : World} {A : Option Addr} {n c : Nat} {l : List Int} {k : IntKind} {j : Nat} {x : Int} (h : Sl w (.slice A n c) (l.map (Value.int k))) (hj : l[j]? = some x) :
    ∃ b o p, A = some ⟨b, o, p⟩ ∧ b < w.heap.size ∧ w.cell? ((⟨b, o, p⟩ : Addr).add j) = some (.int k x) := by
  obtain ⟨A', c', hv, _, hx⟩ := h
  cases hv
  exact hx j _ (by rw [List.getElem?_map, hj]; rfl)
theorem Ck.out_no {cols : List Int} {l r : Nat} {x : Int × Int} (h : St.hasB (l ||| r) x.1 = false) : Ck.out cols l r x = true := by
  rw [Ck.has_or, Bool.or_eq_false_iff] at h
  unfold Ck.out
  rw [h.1, h.2]; rfl
theorem Ck.out_yes {cols : List Int} {l r : Nat} {x : Int × Int} {q : Nat} {m : Int} (h : St.hasB (l ||| r) x.1 = true) (hq : x.1 = q) (hm : cols[q]? = some m) : Ck.out cols l r x = decide (m ≤ x.2) := by
  rw [Ck.has_or, Bool.or_eq_true] at h
  unfold Ck.out
  rw [hq] at h ⊢
  have e : (!St.hasB l (q : Int) && !St.hasB r (q : Int)) = false := by
    rcases h with h | h <;> simp [h]
  have e2 : cols.getD ((q : Int)).toNat 0 = m := by
    rw [Int.toNat_natCast, List.getD_eq_getElem?_getD, hm]; rfl
  rw [e, e2, Bool.false_or]
end Go.Proofs.YtbddhkgbpjhhaaaGreatDoor
namespace Go.Proofs.YtbddhkgbpjhhaaaGreatDoor
open Go.RowKit Go.Sort
set_option maxHeartbeats 25600000
set_option maxRecDepth 100000 in
theorem rconj_any (d : Nat) (f : Pf) (u : Value) (ps : List Pd) (cv : Value) (cols : List Int) (l r : Nat) (w : World) (hu : PsAt d w u ps) (hc : Sl w cv (cols.map (Value.int .i64))) (hl : l < 18446744073709551616) (hr : r < 18446744073709551616)
    (hlr : ∀ j, (l ||| r).testBit j = true → j < cols.length) (hsz : Pr.sizes ps ≤ 1000) :
    Calls Tryz.prog 108 #[.agg #[.int .i64 f.k, .int .i64 f.u, .int .i64 f.o, .int .i64 f.a.k, .int .i64 f.a.t, .int .i64 f.a.c, .bool f.a.z, .int .i64 f.a.n, .int .i64 f.b.k, .int .i64 f.b.t, .int .i64 f.b.c, .bool f.b.z, .int .i64 f.b.n, u], cv, .int .u64 (l : Int), .int .u64 (r : Int)] w
      fun e w' => e = .returned (.int .i64 (Ck.conj cols l r (.mk f ps))) ∧ Below w.heap.size w w' := by
  obtain ⟨A, c, rfl, hlen⟩ := hu.form
  obtain ⟨W0, hW0⟩ : ∃ W0, W0 = w.alloc (Obj.cells #[.int .i64 f.k, .int .i64 f.u, .int .i64 f.o, .int .i64 f.a.k, .int .i64 f.a.t, .int .i64 f.a.c, .bool f.a.z, .int .i64 f.a.n, .int .i64 f.b.k, .int .i64 f.b.t, .int .i64 f.b.c, .bool f.b.z, .int .i64 f.b.n, .slice A ps.length c] 57) := ⟨_, rfl⟩
  obtain ⟨l0, p0, hb0⟩ := pd_box hW0
  have hlt0 := l0.lt
  have cs := r6right_any d f _ ps W0 (hu.below hb0 (Nat.le_refl _))
  have cs2 := fun W (h : Below W0.heap.size W0 W) => (r6cols_any d f _ ps W ((hu.below hb0 (Nat.le_refl _)).below h (Nat.le_refl _)) hsz).mono fun e w' h => own_some h (by have := Pr.cols_len (.mk f ps); rw [Pr.size] at this; omega)
  have cs3 := fun W (h : Below W0.heap.size W0 W) => r6tables_any d f _ ps W ((hu.below hb0 (Nat.le_refl _)).below h (Nat.le_refl _))
  have CS2 := Lib.hid cs2
  have CS3 := Lib.hid cs3
  have HP := Lib.hid p0
  have HC := Lib.hid (hc.below hb0 (Nat.le_refl _))
  have HLR := Lib.hid hlr
  have HW := Lib.hid hW0
  have HB := Lib.hid hb0
  have HLT := Lib.hid hlt0
  have HLEN := Lib.hid (Pr.cols_len (.mk f ps))
  have hsz2 : Pr.size (.mk f ps) = 1 + Pr.sizes ps := by rw [Pr.size]
  have HTL := Lib.hid (tables_lt (.mk f ps))
  obtain ⟨C, cc, hcv, _⟩ := hc
  subst hcv
  rw [List.length_map] at HC ⊢
  obtain ⟨n, hnn⟩ : ∃ n, n = cols.length := ⟨_, rfl⟩
  rw [← hnn] at HC ⊢
  have HN := Lib.hid hnn
  have HOR := Lib.hid (u64_or_nat l r hl hr)
  obtain ⟨R, hR⟩ : ∃ R, R = Ck.conj cols l r (.mk f ps) := ⟨_, rfl⟩
  obtain ⟨L, hL⟩ : ∃ L, L = Pr.cols (.mk f ps) := ⟨_, rfl⟩
  obtain ⟨T, hT⟩ : ∃ T, T = Pr.tables (.mk f ps) := ⟨_, rfl⟩
  rw [← hR]
  unfold Ck.conj at hR
  rw [← hL, ← hT] at hR
  rw [← hL] at HLEN
  rw [← hT] at HTL
  simp only [← hL] at CS2
  simp only [← hT] at CS3
  have HSZ := Lib.hid (show L.length ≤ 2002 by have := HLEN.out; omega)
  obtain ⟨rt, hrt⟩ : ∃ rt, rt = Pr.rightAt (.mk f ps) 1 := ⟨_, rfl⟩
  rw [← hrt] at hR cs
  have HA1 := Lib.hid (u64_and_nat T l HTL.out hl)
  have HA2 := Lib.hid (u64_and_nat T r HTL.out hr)
  clear hu hlr hW0 hb0 l0 hlt0 cs2 cs3 hL hT hrt hnn hsz hsz2 HLEN
  obtain ⟨x0, x1, x2, x3, x4, x5, x6, x7, x8, x9, x10, x11, x12, x13⟩ := p0
  go_enter Tryz.func108, Tryz.ntmps108
  go_upto_region 1 with (fail)
  rw [← HW.out]
  cases rt with
  | false =>
    rw [if_pos rfl] at hR
    subst hR
    go_wp2_with fail
    refine cs.mono ?_
    rintro e w2 ⟨rfl, hb2⟩
    clear cs x0 x1 x2 x3 x4 x5 x6 x7 x8 x9 x10 x11 x12 x13
    go_wp2_with fail
    go_ret
    exact ⟨rfl, below_join HB.out hb2⟩
  | true =>
    rw [if_neg (by simp)] at hR
    have HR := Lib.hid hR
    clear hR
    go_wp2_with fail
    refine cs.mono ?_
    rintro e w2 ⟨rfl, hb2⟩
    clear cs x0 x1 x2 x3 x4 x5 x6 x7 x8 x9 x10 x11 x12 x13
    obtain ⟨x0, x1, x2, x3, x4, x5, x6, x7, x8, x9, x10, x11, x12, x13⟩ := HP.out.below hb2 HLT.out
    go_wp2_with fail
    refine (CS2.out w2 hb2).mono ?_
    rintro e w3 ⟨pv, rfl, hpv, hb3⟩
    clear x0 x1 x2 x3 x4 x5 x6 x7 x8 x9 x10 x11 x12 x13
    have HPV := Lib.hid hpv
    obtain ⟨B, cb, rfl, _, _⟩ := hpv
    obtain ⟨k, hk⟩ : ∃ k, k = L.length := ⟨_, rfl⟩
    have HK := Lib.hid hk
    rw [← hk]
    have hsk : k ≤ 2002 := by have := HSZ.out; omega
    have hb3' := below_join hb2 hb3
    clear hk
    go_wp2_with fail
    go_loopw [10] (fun i wr => ∃ q : Nat, q ≤ k ∧ i = .int .i64 q ∧ Hid ((L.take q).any (Ck.out cols l r) = false) ∧ Below w3.heap.size w3 wr) (fun i _ => k - (intOf i).toNat)
    case atStart => exact ⟨0, Nat.zero_le _, rfl, Lib.hid (by simp), Below.refl _ _⟩
    case round =>
      obtain ⟨q, hq, rfl, hno, hb⟩ := hrel
      by_cases hlt : q < k
      · obtain ⟨x, gx⟩ : ∃ x, L[q]? = some x := ⟨L[q]'(by have := HK.out; omega), List.getElem?_eq_getElem _⟩
        obtain ⟨A4, c4, hA4, _, hx⟩ := pairs_below HPV.out hb (Nat.le_refl _)
        obtain ⟨b1, o1, p1, rfl, _, y0, y1⟩ := hx q x gx
        have e1 : B = some ⟨b1, o1, p1⟩ := by cases hA4; rfl
        subst e1
        have ht : L.take (q + 1) = L.take q ++ [x] := by rw [List.take_add_one, gx]; rfl
        have Gx := Lib.hid gx
        have Ht := Lib.hid ht
        clear gx hx hA4 ht
        obtain ⟨x1, x2⟩ := x
        dsimp only at y0 y1
        have chl := fun W => rhas_any (l : Int) x1 W (U64.of hl)
        have chr := fun W => rhas_any (r : Int) x1 W (U64.of hr)
        simp only [Int.toNat_natCast] at chl chr
        replace chl := fun W => (chl W).mono fun e w' h => (⟨h.1, h.2.symm⟩ : _ ∧ w' = W)
        replace chr := fun W => (chr W).mono fun e w' h => (⟨h.1, h.2.symm⟩ : _ ∧ w' = W)
        have hb6 := hb
        by_cases hh : St.hasB (l ||| r) x1 = true
        · have hin : ∃ q1 : Nat, x1 = q1 ∧ q1 < n := by
            have h2 := hh
            unfold St.hasB at h2
            simp only [Bool.and_eq_true, decide_eq_true_eq] at h2
            exact ⟨x1.toNat, by omega, by rw [HN.out]; exact HLR.out _ h2.2.2⟩
          obtain ⟨q1, rfl, hq1⟩ := hin
          obtain ⟨m, hm⟩ : ∃ m, cols[q1]? = some m := ⟨cols[q1]'(by have := HN.out; omega), List.getElem?_eq_getElem _⟩
          obtain ⟨b2, o2, p2, rfl, _, u0⟩ := (HC.out.below (below_join hb3' hb6) (Nat.le_refl _)).ints_at hm
          have hout := Ck.out_yes (x := ((q1 : Int), x2)) hh rfl hm
          rw [Ck.has_or, Bool.or_eq_true] at hh
          by_cases hm2 : m ≤ x2
          · rw [decide_eq_true hm2] at hout
            have hr10 : R = 10 := by
              rw [HR.out, if_pos (List.any_eq_true.2 ⟨_, List.mem_of_getElem? Gx.out, hout⟩)]
            subst hr10
            clear hout
            cases hbl : St.hasB l (q1 : Int) with
            | true =>
              rw [hbl] at chl
              clear hh hbl
              go_upto_region 7 with (fail)
              go_quiet ((go_at_call 131; (with_reducible exact Calls.quiet_of_same (chl _))))
              go_wp2_with fail
              go_ret
              exact ⟨rfl, below_join HB.out (below_join hb3' (below_drewN hb6 _))⟩
            | false =>
              have hbr : St.hasB r (q1 : Int) = true := by rw [hbl] at hh; simpa using hh
              rw [hbl] at chl
              rw [hbr] at chr
              clear hh hbl hbr
              go_upto_region 7 with (fail)
              go_quiet ((go_at_call 131; first | (with_reducible exact Calls.quiet_of_same (chl _)) | (with_reducible exact Calls.quiet_of_same (chr _))))
              go_wp2_with fail
              go_ret
              exact ⟨rfl, below_join HB.out (below_join hb3' (below_drewN hb6 _))⟩
          · rw [decide_eq_false hm2] at hout
            have hno2 : Hid ((L.take (q + 1)).any (Ck.out cols l r) = false) := Lib.hid (by rw [Ht.out, List.any_append, hno.out, List.any_cons, List.any_nil, hout]; rfl)
            clear hout
            cases hbl : St.hasB l (q1 : Int) with
            | true =>
              rw [hbl] at chl
              clear hh hbl
              go_upto_region 7 with (fail)
              go_quiet ((go_at_call 131; (with_reducible exact Calls.quiet_of_same (chl _))))
              go_wp2_with fail
              go_roundw
              case rel => exact ⟨q + 1, by omega, by go_num, hno2, below_drewN hb6 _⟩
              case measure => simp [intOf]; omega
            | false =>
              have hbr : St.hasB r (q1 : Int) = true := by rw [hbl] at hh; simpa using hh
              rw [hbl] at chl
              rw [hbr] at chr
              clear hh hbl hbr
              go_upto_region 7 with (fail)
              go_quiet ((go_at_call 131; first | (with_reducible exact Calls.quiet_of_same (chl _)) | (with_reducible exact Calls.quiet_of_same (chr _))))
              go_wp2_with fail
              go_roundw
              case rel => exact ⟨q + 1, by omega, by go_num, hno2, below_drewN hb6 _⟩
              case measure => simp [intOf]; omega
        · have hh2 : St.hasB (l ||| r) x1 = false := by simpa using hh
          have hout := Ck.out_no (cols := cols) (x := (x1, x2)) hh2
          have hr10 : R = 10 := by
            rw [HR.out, if_pos (List.any_eq_true.2 ⟨_, List.mem_of_getElem? Gx.out, hout⟩)]
          subst hr10
          rw [Ck.has_or, Bool.or_eq_false_iff] at hh2
          rw [hh2.1] at chl
          rw [hh2.2] at chr
          clear hh hh2 hout
          go_upto_region 7 with (fail)
          go_quiet ((go_at_call 131; first | (with_reducible exact Calls.quiet_of_same (chl _)) | (with_reducible exact Calls.quiet_of_same (chr _))))
          go_wp2_with fail
          go_ret
          exact ⟨rfl, below_join HB.out (below_join hb3' (below_drewN hb6 _))⟩
      · have hany : L.any (Ck.out cols l r) = false := by rw [← hno.out, List.take_of_length_le (by have := HK.out; omega)]
        have hR2 : R = if T &&& l = 0 ∨ T &&& r = 0 then 11 else 0 := by rw [HR.out, if_neg (by rw [hany]; simp)]
        have hb7 := below_join hb3' hb
        obtain ⟨x0, x1, x2, x3, x4, x5, x6, x7, x8, x9, x10, x11, x12, x13⟩ := HP.out.below hb7 HLT.out
        have ct := CS3.out wr hb7
        clear hany
        by_cases t1 : T &&& l = 0
        · rw [if_pos (.inl t1)] at hR2
          subst hR2
          have e1 := HA1.out
          rw [t1] at e1
          have E1 := Lib.hid e1
          clear e1 t1
          go_wp2_with fail
          refine ct.mono ?_
          rintro e w8 ⟨rfl, hb8⟩
          clear ct x0 x1 x2 x3 x4 x5 x6 x7 x8 x9 x10 x11 x12 x13
          go_wp2_with (first | (rw [E1.out]; go_in))
          go_ret
          exact ⟨rfl, below_join HB.out (below_join hb7 hb8)⟩
        · have e1 := HA1.out
          have n1 : (((T &&& l : Nat) : Int) == 0) = false := by simpa using t1
          have E1 := Lib.hid e1
          clear e1
          by_cases t2 : T &&& r = 0
          · rw [if_pos (.inr t2)] at hR2
            subst hR2
            have e2 := HA2.out
            rw [t2] at e2
            have E2 := Lib.hid e2
            clear e2 t2 t1
            go_wp2_with fail
            refine ct.mono ?_
            rintro e w8 ⟨rfl, hb8⟩
            clear ct x0 x1 x2 x3 x4 x5 x6 x7 x8 x9 x10 x11 x12 x13
            have a1 := E1.out
            have a2 := E2.out
            go_wp2_with fail
            go_ret
            exact ⟨rfl, below_join HB.out (below_join hb7 hb8)⟩
          · rw [if_neg (by simp [t1, t2])] at hR2
            subst hR2
            have n2 : (((T &&& r : Nat) : Int) == 0) = false := by simpa using t2
            have E2 := HA2.out
            clear t2 t1
            go_wp2_with fail
            refine ct.mono ?_
            rintro e w8 ⟨rfl, hb8⟩
            clear ct x0 x1 x2 x3 x4 x5 x6 x7 x8 x9 x10 x11 x12 x13
            have a1 := E1.out
            go_wp2_with fail
            go_ret
            exact ⟨rfl, below_join HB.out (below_join hb7 hb8)⟩
end Go.Proofs.YtbddhkgbpjhhaaaGreatDoor
namespace Go.Proofs.YtbddhkgbpjhhaaaGreatDoor
open Go.RowKit Go.Sort
set_option maxHeartbeats 25600000
def Ck.oneR (cols came : List Int) (t : Tr) (c : Nat) : Int := if Ck.what cols t c ≠ 0 then Ck.what cols t c else if t.k = 0 ∧ t.t ∈ came then 6 else 0
theorem Ck.oneR_bad {cols came : List Int} {t : Tr} {c : Nat} (h : Ck.alone cols.length t (c + t.cs.length) ≠ 0) : Ck.oneR cols came t c = Ck.alone cols.length t (c + t.cs.length) := by
  have e : Ck.what cols t c = Ck.alone cols.length t (c + t.cs.length) := by unfold Ck.what; rw [if_pos h]
  unfold Ck.oneR
  rw [e, if_pos h]
theorem Ck.oneR_leaf {cols came : List Int} {t : Tr} {c : Nat} (h : Ck.alone cols.length t (c + t.cs.length) = 0) (hk : t.k = 0) : Ck.oneR cols came t c = if t.t ∈ came then 6 else 0 := by
  have e : Ck.what cols t c = 0 := by unfold Ck.what; rw [if_neg (not_not_intro h), if_pos hk]
  unfold Ck.oneR
  rw [e, if_neg (by simp)]
  simp [hk]
theorem Ck.oneR_op {cols came : List Int} {t : Tr} {c : Nat} (h : Ck.alone cols.length t (c + t.cs.length) = 0) (hk : t.k ≠ 0) : Ck.oneR cols came t c = Ck.conjs cols (Ck.ksn t 0) (Ck.ksn t 1) t.cs := by
  have e : Ck.what cols t c = Ck.conjs cols (Ck.ksn t 0) (Ck.ksn t 1) t.cs := by unfold Ck.what; rw [if_neg (not_not_intro h), if_neg hk]
  unfold Ck.oneR
  rw [e]
  by_cases hz : Ck.conjs cols (Ck.ksn t 0) (Ck.ksn t 1) t.cs = 0
  · rw [if_neg (not_not_intro hz), if_neg (fun x => hk x.1), hz]
  · rw [if_pos hz]
theorem Ck.doc_at (cols : List Int) (t : Tr) (r : List Tr) (came : List Int) (c : Nat) : Ck.doc cols (t :: r) came c = if Ck.oneR cols came t c ≠ 0 then Ck.oneR cols came t c else Ck.doc cols r (Ck.comes t came) (c + t.cs.length) := by
  rw [Ck.doc]
  unfold Ck.oneR
  by_cases h : Ck.what cols t c ≠ 0
  · simp [h]
  · by_cases h2 : t.k = 0 ∧ t.t ∈ came
    · simp [h, h2]
    · simp [h, h2]
theorem Ck.conjs_take {cols : List Int} {l r : Nat} {L : List Pd} {q : Nat} {p : Pd} (h : Ck.conjs cols l r (L.take q) = 0) (hp : L[q]? = some p) :
    (Ck.conj cols l r p = 0 → Ck.conjs cols l r (L.take (q + 1)) = 0) ∧ (Ck.conj cols l r p ≠ 0 → Ck.conjs cols l r L = Ck.conj cols l r p) := by
  induction L generalizing q with
  | nil => simp at hp
  | cons a t ih =>
    cases q with
    | zero =>
      simp at hp
      subst hp
      refine ⟨fun h0 => ?_, fun h0 => ?_⟩
      · rw [List.take_succ_cons, List.take_zero, Ck.conjs, if_neg (not_not_intro h0), Ck.conjs]
      · rw [Ck.conjs, if_pos h0]
    | succ q =>
      rw [List.take_succ_cons, Ck.conjs] at h
      split at h
      · rename_i hh; exact absurd h hh
      · rename_i hh
        obtain ⟨i1, i2⟩ := ih h (by simpa using hp)
        refine ⟨fun h0 => ?_, fun h0 => ?_⟩
        · rw [List.take_succ_cons, Ck.conjs, if_neg hh]; exact i1 h0
        · rw [Ck.conjs, if_neg hh]; exact i2 h0
set_option maxRecDepth 100000 in
theorem rone_any (a : Tr) (u v cv mv : Value) (cols came : List Int) (c0 : Nat) (w : World) (hu : ∃ d, TsAt d w u a.ks) (hv : PsSome w v a.cs) (hc : Sl w cv (cols.map (Value.int .i64))) (hm : Sl w mv (came.map (Value.int .i64))) (hml : came.length ≤ 9223372036854775807) (hc6 : c0 ≤ 64)
    (hfine : ∀ i j, (Ck.ksn a i).testBit j = true → j < cols.length) (hsz : Tr.size a ≤ 1000) :
    Calls Tryz.prog 67 #[.agg #[.int .i64 a.k, .int .i64 a.t, u, v, .bool a.h], cv, mv, .int .i64 (c0 : Int)] w
      fun e w' => e = .returned (.int .i64 (Ck.oneR cols came a c0)) ∧ Below w.heap.size w w' := by
  obtain ⟨A, c, rfl, hlu⟩ := hu.elim fun d h => h.form
  obtain ⟨A', c', rfl, hlv⟩ := hv.elim fun d h => h.form
  obtain ⟨W1, hW1⟩ : ∃ W1, W1 = w.alloc (Obj.cells #[.int .i64 a.k, .int .i64 a.t, .slice A a.ks.length c, .slice A' a.cs.length c', .bool a.h] 26) := ⟨_, rfl⟩
  obtain ⟨l0, p0, hb0⟩ := tr_box (a := a) (u := .slice A a.ks.length c) (v := .slice A' a.cs.length c') hW1
  have HU := Lib.hid (hu.elim fun d h => (⟨d, h.below hb0 (Nat.le_refl _)⟩ : ∃ d, TsAt d W1 (.slice A a.ks.length c) a.ks))
  have HV := Lib.hid (hv.below hb0 (Nat.le_refl _))
  have HC := Lib.hid (hc.below hb0 (Nat.le_refl _))
  have HM := Lib.hid (hm.below hb0 (Nat.le_refl _))
  have HP := Lib.hid p0
  have HLT := Lib.hid l0.lt
  have HW := Lib.hid hW1
  have HB := Lib.hid hb0
  have HF := Lib.hid hfine
  have hcsl : a.cs.length ≤ 1000 ∧ Pr.sizes a.cs ≤ 1000 := by
    have h1 := Tr.size_at a
    have h2 := Pr.sizes_length a.cs
    omega
  have HSZ := Lib.hid hcsl
  obtain ⟨C, cc, rfl, _⟩ := hc
  obtain ⟨M, mc, rfl, _⟩ := hm
  rw [List.length_map] at HC ⊢
  rw [List.length_map] at HM ⊢
  obtain ⟨R, hR⟩ : ∃ R, R = Ck.oneR cols came a c0 := ⟨_, rfl⟩
  rw [← hR]
  obtain ⟨al, hal⟩ : ∃ al, al = Ck.alone cols.length a (c0 + a.cs.length) := ⟨_, rfl⟩
  have HBAD := Lib.hid (show al ≠ 0 → R = al from fun e => by rw [hR, hal]; exact Ck.oneR_bad (hal ▸ e))
  have HLEAF := Lib.hid (show al = 0 → a.k = 0 → R = if a.t ∈ came then 6 else 0 from fun e hk => by rw [hR]; exact Ck.oneR_leaf (hal ▸ e) hk)
  have HOP := Lib.hid (show al = 0 → a.k ≠ 0 → R = Ck.conjs cols (Ck.ksn a 0) (Ck.ksn a 1) a.cs from fun e hk => by rw [hR]; exact Ck.oneR_op (hal ▸ e) hk)
  clear hR
  unfold Ck.alone at hal
  obtain ⟨nc, hnc⟩ : ∃ nc, nc = cols.length := ⟨_, rfl⟩
  obtain ⟨nm, hnm⟩ : ∃ nm, nm = came.length := ⟨_, rfl⟩
  obtain ⟨m, hmm⟩ : ∃ m, m = a.ks.length := ⟨_, rfl⟩
  obtain ⟨n, hn⟩ : ∃ n, n = a.cs.length := ⟨_, rfl⟩
  rw [← hnc] at HC hal ⊢
  rw [← hnm] at HM hml ⊢
  rw [← hmm] at hlu HU hal HW HP p0 ⊢
  rw [← hn] at hlv HV hal HW HP p0 hcsl ⊢
  have HNC := Lib.hid hnc
  have HNM := Lib.hid hnm
  have HMM := Lib.hid hmm
  have HN := Lib.hid hn
  obtain ⟨q0, q1, q2, q3, q4⟩ := p0
  obtain ⟨k, hk⟩ : ∃ k, k = a.k := ⟨_, rfl⟩
  obtain ⟨t, ht⟩ : ∃ t, t = a.t := ⟨_, rfl⟩
  obtain ⟨h, hh⟩ : ∃ h, h = a.h := ⟨_, rfl⟩
  rw [← hk] at q0 HW hal HLEAF HOP ⊢
  rw [← ht] at q1 HW hal HLEAF ⊢
  rw [← hh] at q4 HW hal ⊢
  have HKT := Lib.hid (And.intro hk ht)
  clear hu hv l0 hb0 hW1 hfine hsz hnc hnm hmm hn hk ht hh
  by_cases k0 : k < 0
  · rw [if_pos (.inl k0)] at hal
    obtain rfl := (HBAD.out (by omega)).trans hal
    go_enter Tryz.func67, Tryz.ntmps67
    go_upto_region 1 with (fail)
    rw [← HW.out]
    go_wp2_with fail
    go_ret
    exact ⟨rfl, HB.out⟩
  by_cases k4 : 4 < k
  · rw [if_pos (.inr (.inl k4))] at hal
    obtain rfl := (HBAD.out (by omega)).trans hal
    go_enter Tryz.func67, Tryz.ntmps67
    go_upto_region 1 with (fail)
    rw [← HW.out]
    go_wp2_with fail
    go_ret
    exact ⟨rfl, HB.out⟩
  by_cases kz : k = 0
  · subst kz
    cases h
    · rw [if_neg (by simp)] at hal
      by_cases m0 : m = 0
      · subst m0
        rw [if_neg (by simp)] at hal
        by_cases m1 : n = 0
        · subst m1
          rw [if_neg (by omega), if_pos rfl] at hal
          by_cases t0 : t < 0
          · rw [if_pos (.inl t0)] at hal
            obtain rfl := (HBAD.out (by omega)).trans hal
            go_enter Tryz.func67, Tryz.ntmps67
            go_upto_region 1 with (fail)
            rw [← HW.out]
            go_wp2_with fail
            go_ret
            exact ⟨rfl, HB.out⟩
          by_cases tn : (nc : Int) ≤ t
          · rw [if_pos (.inr tn)] at hal
            obtain rfl := (HBAD.out (by omega)).trans hal
            go_enter Tryz.func67, Tryz.ntmps67
            go_upto_region 1 with (fail)
            rw [← HW.out]
            go_wp2_with fail
            go_ret
            exact ⟨rfl, HB.out⟩
          · rw [if_neg (by omega)] at hal
            have HR := Lib.hid (HLEAF.out hal rfl)
            go_enter Tryz.func67, Tryz.ntmps67
            go_upto_region 1 with (fail)
            rw [← HW.out]
            go_wp2_with fail
            go_loopw [9] (fun i wr => ∃ q : Nat, q ≤ nm ∧ i = .int .i64 q ∧ Hid (t ∉ came.take q) ∧ ∃ z, wr = W1.drewN z) (fun i _ => nm - (intOf i).toNat)
            case atStart => exact ⟨0, Nat.zero_le _, rfl, Lib.hid (by simp), 0, rfl⟩
            case round =>
              obtain ⟨q, hq, rfl, hno, z, rfl⟩ := hrel
              by_cases hlt : q < nm
              · obtain ⟨x, gx⟩ : ∃ x, came[q]? = some x := ⟨came[q]'(by have := HNM.out; omega), List.getElem?_eq_getElem _⟩
                obtain ⟨b2, o2, p2, rfl, _, u0⟩ := HM.out.ints_at gx
                by_cases hxt : x = t
                · subst hxt
                  have hr6 : R = 6 := by rw [HR.out, if_pos (List.mem_of_getElem? gx)]
                  subst hr6
                  clear gx hno
                  go_upto_region 15 with (fail)
                  go_quiet (fail)
                  go_wp2_with fail
                  go_ret
                  exact ⟨rfl, below_drewN (below_drewN HB.out _) _⟩
                · have hxt' : (x == t) = false := by simpa using hxt
                  have hno2 : Hid (t ∉ came.take (q + 1)) := Lib.hid (by
                    rw [List.take_add_one, gx]
                    simp only [Option.toList_some, List.mem_append, List.mem_singleton, not_or]
                    exact ⟨hno.out, fun e => hxt e.symm⟩)
                  clear gx hno
                  go_upto_region 15 with (fail)
                  go_quiet (fail)
                  go_wp2_with fail
                  go_roundw
                  case rel => exact ⟨q + 1, by omega, by go_num, hno2, _, rfl⟩
                  case measure => simp [intOf]; omega
              · have hr0 : R = 0 := by
                  rw [HR.out, if_neg]
                  rw [← List.take_of_length_le (i := q) (l := came) (by have := HNM.out; omega)]
                  exact hno.out
                subst hr0
                go_wp2_with fail
                go_ret
                exact ⟨rfl, below_drewN HB.out _⟩
        · rw [if_pos (by omega)] at hal
          obtain rfl := (HBAD.out (by omega)).trans hal
          have hpos : 0 < n := by omega
          go_enter Tryz.func67, Tryz.ntmps67
          go_upto_region 1 with (fail)
          rw [← HW.out]
          go_wp2_with fail
          go_ret
          exact ⟨rfl, HB.out⟩
      · rw [if_pos (by simpa using m0)] at hal
        obtain rfl := (HBAD.out (by omega)).trans hal
        have hpos : 0 < m := by omega
        go_enter Tryz.func67, Tryz.ntmps67
        go_upto_region 1 with (fail)
        rw [← HW.out]
        go_wp2_with fail
        go_ret
        exact ⟨rfl, HB.out⟩
    · rw [if_pos (.inr (.inr ⟨rfl, rfl⟩))] at hal
      obtain rfl := (HBAD.out (by omega)).trans hal
      go_enter Tryz.func67, Tryz.ntmps67
      go_upto_region 1 with (fail)
      rw [← HW.out]
      go_wp2_with fail
      go_ret
      exact ⟨rfl, HB.out⟩
  · have kz' : (k == 0) = false := by simpa using kz
    rw [if_neg (by omega), if_neg kz, if_neg kz] at hal
    by_cases m2 : m = 2
    · subst m2
      rw [if_neg (by simp)] at hal
      by_cases m1 : n = 0
      · subst m1
        rw [if_pos (by omega)] at hal
        obtain rfl := (HBAD.out (by omega)).trans hal
        go_enter Tryz.func67, Tryz.ntmps67
        go_upto_region 1 with (fail)
        rw [← HW.out]
        go_wp2_with fail
        go_ret
        exact ⟨rfl, HB.out⟩
      · have m1' : ((n : Int) == 0) = false := by simpa using m1
        by_cases c6 : 64 < c0 + n
        · rw [if_pos (by omega)] at hal
          obtain rfl := (HBAD.out (by omega)).trans hal
          have c6' : (64 : Int) < (c0 : Int) + (n : Int) := by omega
          go_enter Tryz.func67, Tryz.ntmps67
          go_upto_region 1 with (fail)
          rw [← HW.out]
          go_wp2_with fail
          go_ret
          exact ⟨rfl, HB.out⟩
        · rw [if_neg (by omega)] at hal
          have c6' : ¬ ((64 : Int) < (c0 : Int) + (n : Int)) := by omega
          by_cases t0 : t = 0
          · subst t0
            rw [if_neg (by omega)] at hal
            have HR := Lib.hid (HOP.out hal kz)
            obtain ⟨x, y, hks⟩ : ∃ x y, a.ks = [x, y] := by
              have h2 := HMM.out
              match hkk : a.ks with
              | [] => rw [hkk] at h2; simp at h2
              | [_] => rw [hkk] at h2; simp at h2
              | [x, y] => exact ⟨x, y, rfl⟩
              | _ :: _ :: _ :: _ => rw [hkk] at h2; simp at h2
            obtain ⟨dd, hts⟩ := HU.out
            rw [HMM.out] at hts
            obtain ⟨e6, b0, o0, s0, u6, v6, _, rfl, hb0l, hX⟩ := hts.at_ (j := 0) (a := x) (by rw [hks]; rfl)
            obtain ⟨e8, b0', o0', s0', u8, v8, _, hA8, _, hY⟩ := hts.at_ (j := 1) (a := y) (by rw [hks]; rfl)
            obtain ⟨rfl, rfl, rfl⟩ : b0 = b0' ∧ o0 = o0' ∧ s0 = s0' := by
              simp only [Option.some.injEq, Addr.mk.injEq] at hA8
              exact hA8
            obtain ⟨B6, d6, rfl, _⟩ := (hX W1 (Below.refl _ _)).2.2.form
            obtain ⟨B7, d7, rfl, _⟩ := (hX W1 (Below.refl _ _)).2.1.elim fun d h => h.form
            obtain ⟨B8, d8, rfl, _⟩ := (hY W1 (Below.refl _ _)).2.2.form
            obtain ⟨B9, d9, rfl, _⟩ := (hY W1 (Below.refl _ _)).2.1.elim fun d h => h.form
            simp only [Nat.zero_mul, add_zero9] at hX
            have hadd : (⟨b0, o0, s0⟩ : Addr).add (1 * 5) = ⟨b0, o0 + 5, none⟩ := by unfold Addr.add; simp
            simp only [hadd] at hY
            have e0 : Ck.ksn a 0 = Tr.seen x := by unfold Ck.ksn; rw [hks]; rfl
            have e1 : Ck.ksn a 1 = Tr.seen y := by unfold Ck.ksn; rw [hks]; rfl
            have hfn : ∀ j, (Tr.seen x ||| Tr.seen y).testBit j = true → j < cols.length := fun j hj => by
              rw [Nat.testBit_or, Bool.or_eq_true] at hj
              rcases hj with hj | hj
              · exact HF.out 0 j (by rw [e0]; exact hj)
              · exact HF.out 1 j (by rw [e1]; exact hj)
            have hR2 := HR.out
            rw [e0, e1] at hR2
            have HR2 := Lib.hid hR2
            have HX := Lib.hid hX
            have HY := Lib.hid hY
            have HFN := Lib.hid hfn
            clear hX hY hfn hR2 e0 e1 hts hA8 hks hal HR
            have C0 := Lib.hid (fun W (h : Below W1.heap.size W1 W) => (r10seen_any _ x _ (.slice B7 x.cs.length d7) W (HX.out W h).2.2).mono fun e w' ⟨he, hb⟩ => (⟨he, below_join h hb⟩ : e = _ ∧ Below W1.heap.size W1 w'))
            have C1 := Lib.hid (fun W (h : Below W1.heap.size W1 W) => (r10seen_any _ y _ (.slice B9 y.cs.length d9) W (HY.out W h).2.2).mono fun e w' ⟨he, hb⟩ => (⟨he, below_join h hb⟩ : e = _ ∧ Below W1.heap.size W1 w'))
            go_enter Tryz.func67, Tryz.ntmps67
            go_upto_region 1 with (fail)
            rw [← HW.out]
            go_wp2_with fail
            clear q0 q1 q2 q3 q4
            go_loopw [10] (fun i wr => ∃ q : Nat, q ≤ n ∧ i = .int .i64 q ∧ Hid (Ck.conjs cols (Tr.seen x) (Tr.seen y) (a.cs.take q) = 0) ∧ Below W1.heap.size W1 wr) (fun i _ => n - (intOf i).toNat)
            case atStart => exact ⟨0, Nat.zero_le _, rfl, Lib.hid (by simp [Ck.conjs]), Below.refl _ _⟩
            case round =>
              obtain ⟨q, hq, rfl, hno, hb⟩ := hrel
              have q3 := (HP.out.below hb HLT.out).c3
              by_cases hlt : q < n
              · obtain ⟨p, gp⟩ : ∃ p, a.cs[q]? = some p := ⟨a.cs[q]'(by have := HN.out; omega), List.getElem?_eq_getElem _⟩
                obtain ⟨dv, hvv⟩ := HV.out
                rw [HN.out] at hvv
                obtain ⟨e5, b5, o5, s5, u5, _, rfl, _, hP5⟩ := hvv.at_ gp
                obtain ⟨B5, d5, rfl, _⟩ := (hP5 W1 (Below.refl _ _)).2.form
                have HP5 := Lib.hid hP5
                obtain ⟨z, hz⟩ : ∃ z, z = Ck.conj cols (Tr.seen x) (Tr.seen y) (.mk p.f p.ps) := ⟨_, rfl⟩
                have C2 := Lib.hid (fun W (h : Below W1.heap.size W1 W) => (rconj_any e5 p.f (.slice B5 p.ps.length d5) p.ps (.slice C nc cc) cols (Tr.seen x) (Tr.seen y) W (HP5.out W h).2 (HC.out.below h (Nat.le_refl _)) (Tr.seen_lt x) (Tr.seen_lt y) HFN.out (by have := Pr.sizes_down gp; have := HSZ.out; omega)).mono fun e w' ⟨he, hb⟩ => (⟨by rw [he, ← hz], below_join h hb⟩ : e = Ending.returned (.int .i64 z) ∧ Below W1.heap.size W1 w'))
                have hpm : Pd.mk p.f p.ps = p := by cases p; rfl
                rw [hpm] at hz
                obtain ⟨hgo, hstop⟩ := Ck.conjs_take hno.out gp
                rw [← hz] at hgo hstop
                have HGO := Lib.hid hgo
                have HST := Lib.hid hstop
                have hS := hb
                have KK := Lib.hid (fun W (h : Below W1.heap.size W1 W) => (show (W.cell? ⟨w.heap.size, 2, none⟩ = some (.slice (some ⟨b0, o0, s0⟩) 2 c) ∧ W.cell? ⟨w.heap.size, 3, none⟩ = some (.slice (some ⟨b5, o5, s5⟩) n c') ∧ W.cell? ((⟨b5, o5, s5⟩ : Addr).add (q * 14)) = some (.int .i64 p.f.k) ∧ W.cell? ⟨((⟨b5, o5, s5⟩ : Addr).add (q * 14)).block, ((⟨b5, o5, s5⟩ : Addr).add (q * 14)).off + 1, none⟩ = some (.int .i64 p.f.u) ∧ W.cell? ⟨((⟨b5, o5, s5⟩ : Addr).add (q * 14)).block, ((⟨b5, o5, s5⟩ : Addr).add (q * 14)).off + 2, none⟩ = some (.int .i64 p.f.o) ∧ W.cell? ⟨((⟨b5, o5, s5⟩ : Addr).add (q * 14)).block, ((⟨b5, o5, s5⟩ : Addr).add (q * 14)).off + 3, none⟩ = some (.int .i64 p.f.a.k) ∧ W.cell? ⟨((⟨b5, o5, s5⟩ : Addr).add (q * 14)).block, ((⟨b5, o5, s5⟩ : Addr).add (q * 14)).off + 4, none⟩ = some (.int .i64 p.f.a.t) ∧ W.cell? ⟨((⟨b5, o5, s5⟩ : Addr).add (q * 14)).block, ((⟨b5, o5, s5⟩ : Addr).add (q * 14)).off + 5, none⟩ = some (.int .i64 p.f.a.c) ∧ W.cell? ⟨((⟨b5, o5, s5⟩ : Addr).add (q * 14)).block, ((⟨b5, o5, s5⟩ : Addr).add (q * 14)).off + 6, none⟩ = some (.bool p.f.a.z) ∧ W.cell? ⟨((⟨b5, o5, s5⟩ : Addr).add (q * 14)).block, ((⟨b5, o5, s5⟩ : Addr).add (q * 14)).off + 7, none⟩ = some (.int .i64 p.f.a.n) ∧ W.cell? ⟨((⟨b5, o5, s5⟩ : Addr).add (q * 14)).block, ((⟨b5, o5, s5⟩ : Addr).add (q * 14)).off + 8, none⟩ = some (.int .i64 p.f.b.k) ∧ W.cell? ⟨((⟨b5, o5, s5⟩ : Addr).add (q * 14)).block, ((⟨b5, o5, s5⟩ : Addr).add (q * 14)).off + 9, none⟩ = some (.int .i64 p.f.b.t) ∧ W.cell? ⟨((⟨b5, o5, s5⟩ : Addr).add (q * 14)).block, ((⟨b5, o5, s5⟩ : Addr).add (q * 14)).off + 10, none⟩ = some (.int .i64 p.f.b.c) ∧ W.cell? ⟨((⟨b5, o5, s5⟩ : Addr).add (q * 14)).block, ((⟨b5, o5, s5⟩ : Addr).add (q * 14)).off + 11, none⟩ = some (.bool p.f.b.z) ∧ W.cell? ⟨((⟨b5, o5, s5⟩ : Addr).add (q * 14)).block, ((⟨b5, o5, s5⟩ : Addr).add (q * 14)).off + 12, none⟩ = some (.int .i64 p.f.b.n) ∧ W.cell? ⟨((⟨b5, o5, s5⟩ : Addr).add (q * 14)).block, ((⟨b5, o5, s5⟩ : Addr).add (q * 14)).off + 13, none⟩ = some (.slice B5 p.ps.length d5) ∧ W.cell? (⟨b0, o0, s0⟩ : Addr) = some (.int .i64 x.k) ∧ W.cell? ⟨(⟨b0, o0, s0⟩ : Addr).block, (⟨b0, o0, s0⟩ : Addr).off + 1, none⟩ = some (.int .i64 x.t) ∧ W.cell? ⟨(⟨b0, o0, s0⟩ : Addr).block, (⟨b0, o0, s0⟩ : Addr).off + 2, none⟩ = some (.slice B6 x.ks.length d6) ∧ W.cell? ⟨(⟨b0, o0, s0⟩ : Addr).block, (⟨b0, o0, s0⟩ : Addr).off + 3, none⟩ = some (.slice B7 x.cs.length d7) ∧ W.cell? ⟨(⟨b0, o0, s0⟩ : Addr).block, (⟨b0, o0, s0⟩ : Addr).off + 4, none⟩ = some (.bool x.h) ∧ W.cell? ⟨b0, o0 + 5, none⟩ = some (.int .i64 y.k) ∧ W.cell? ⟨b0, o0 + 5 + 1, none⟩ = some (.int .i64 y.t) ∧ W.cell? ⟨b0, o0 + 5 + 2, none⟩ = some (.slice B8 y.ks.length d8) ∧ W.cell? ⟨b0, o0 + 5 + 3, none⟩ = some (.slice B9 y.cs.length d9) ∧ W.cell? ⟨b0, o0 + 5 + 4, none⟩ = some (.bool y.h)) ∧ Below W1.heap.size W1 W from
                  have pt := HP.out.below h HLT.out
                  have pp := (HP5.out W h).1
                  have px := (HX.out W h).1
                  have py := (HY.out W h).1
                  ⟨⟨pt.c2, pt.c3, pp.c0, pp.c1, pp.c2, pp.c3, pp.c4, pp.c5, pp.c6, pp.c7, pp.c8, pp.c9, pp.c10, pp.c11, pp.c12, pp.c13, px.c0, px.c1, px.c2, px.c3, px.c4, py.c0, py.c1, py.c2, py.c3, py.c4⟩, h⟩))
                clear hP5 hz hpm hgo hstop gp hvv hno hb
                go_upto_region 27 with (fail)
                go_region_held3 (fun W => (W.cell? ⟨w.heap.size, 2, none⟩ = some (.slice (some ⟨b0, o0, s0⟩) 2 c) ∧ W.cell? ⟨w.heap.size, 3, none⟩ = some (.slice (some ⟨b5, o5, s5⟩) n c') ∧ W.cell? ((⟨b5, o5, s5⟩ : Addr).add (q * 14)) = some (.int .i64 p.f.k) ∧ W.cell? ⟨((⟨b5, o5, s5⟩ : Addr).add (q * 14)).block, ((⟨b5, o5, s5⟩ : Addr).add (q * 14)).off + 1, none⟩ = some (.int .i64 p.f.u) ∧ W.cell? ⟨((⟨b5, o5, s5⟩ : Addr).add (q * 14)).block, ((⟨b5, o5, s5⟩ : Addr).add (q * 14)).off + 2, none⟩ = some (.int .i64 p.f.o) ∧ W.cell? ⟨((⟨b5, o5, s5⟩ : Addr).add (q * 14)).block, ((⟨b5, o5, s5⟩ : Addr).add (q * 14)).off + 3, none⟩ = some (.int .i64 p.f.a.k) ∧ W.cell? ⟨((⟨b5, o5, s5⟩ : Addr).add (q * 14)).block, ((⟨b5, o5, s5⟩ : Addr).add (q * 14)).off + 4, none⟩ = some (.int .i64 p.f.a.t) ∧ W.cell? ⟨((⟨b5, o5, s5⟩ : Addr).add (q * 14)).block, ((⟨b5, o5, s5⟩ : Addr).add (q * 14)).off + 5, none⟩ = some (.int .i64 p.f.a.c) ∧ W.cell? ⟨((⟨b5, o5, s5⟩ : Addr).add (q * 14)).block, ((⟨b5, o5, s5⟩ : Addr).add (q * 14)).off + 6, none⟩ = some (.bool p.f.a.z) ∧ W.cell? ⟨((⟨b5, o5, s5⟩ : Addr).add (q * 14)).block, ((⟨b5, o5, s5⟩ : Addr).add (q * 14)).off + 7, none⟩ = some (.int .i64 p.f.a.n) ∧ W.cell? ⟨((⟨b5, o5, s5⟩ : Addr).add (q * 14)).block, ((⟨b5, o5, s5⟩ : Addr).add (q * 14)).off + 8, none⟩ = some (.int .i64 p.f.b.k) ∧ W.cell? ⟨((⟨b5, o5, s5⟩ : Addr).add (q * 14)).block, ((⟨b5, o5, s5⟩ : Addr).add (q * 14)).off + 9, none⟩ = some (.int .i64 p.f.b.t) ∧ W.cell? ⟨((⟨b5, o5, s5⟩ : Addr).add (q * 14)).block, ((⟨b5, o5, s5⟩ : Addr).add (q * 14)).off + 10, none⟩ = some (.int .i64 p.f.b.c) ∧ W.cell? ⟨((⟨b5, o5, s5⟩ : Addr).add (q * 14)).block, ((⟨b5, o5, s5⟩ : Addr).add (q * 14)).off + 11, none⟩ = some (.bool p.f.b.z) ∧ W.cell? ⟨((⟨b5, o5, s5⟩ : Addr).add (q * 14)).block, ((⟨b5, o5, s5⟩ : Addr).add (q * 14)).off + 12, none⟩ = some (.int .i64 p.f.b.n) ∧ W.cell? ⟨((⟨b5, o5, s5⟩ : Addr).add (q * 14)).block, ((⟨b5, o5, s5⟩ : Addr).add (q * 14)).off + 13, none⟩ = some (.slice B5 p.ps.length d5) ∧ W.cell? (⟨b0, o0, s0⟩ : Addr) = some (.int .i64 x.k) ∧ W.cell? ⟨(⟨b0, o0, s0⟩ : Addr).block, (⟨b0, o0, s0⟩ : Addr).off + 1, none⟩ = some (.int .i64 x.t) ∧ W.cell? ⟨(⟨b0, o0, s0⟩ : Addr).block, (⟨b0, o0, s0⟩ : Addr).off + 2, none⟩ = some (.slice B6 x.ks.length d6) ∧ W.cell? ⟨(⟨b0, o0, s0⟩ : Addr).block, (⟨b0, o0, s0⟩ : Addr).off + 3, none⟩ = some (.slice B7 x.cs.length d7) ∧ W.cell? ⟨(⟨b0, o0, s0⟩ : Addr).block, (⟨b0, o0, s0⟩ : Addr).off + 4, none⟩ = some (.bool x.h) ∧ W.cell? ⟨b0, o0 + 5, none⟩ = some (.int .i64 y.k) ∧ W.cell? ⟨b0, o0 + 5 + 1, none⟩ = some (.int .i64 y.t) ∧ W.cell? ⟨b0, o0 + 5 + 2, none⟩ = some (.slice B8 y.ks.length d8) ∧ W.cell? ⟨b0, o0 + 5 + 3, none⟩ = some (.slice B9 y.cs.length d9) ∧ W.cell? ⟨b0, o0 + 5 + 4, none⟩ = some (.bool y.h)) ∧ Below W1.heap.size W1 W) (first | (exact KK.out _ (by repeat first | assumption | refine Below.drew ?_)))
                  (first
                    | (go_at_call 16; (with_reducible refine (C0.out _ (by repeat first | assumption | refine Below.drew ?_)).mono ?_); rintro e w' ⟨rfl, hS'⟩)
                    | (go_at_call 16; (with_reducible refine (C1.out _ (by repeat first | assumption | refine Below.drew ?_)).mono ?_); rintro e w' ⟨rfl, hS'⟩)
                    | (go_at_call 108; (with_reducible refine (C2.out _ (by repeat first | assumption | refine Below.drew ?_)).mono ?_); rintro e w' ⟨rfl, hS'⟩)
                    | (fail "no arm"))
                all_goals
                  by_cases hz0 : z = 0
                  · subst hz0
                    have hno2 := Lib.hid (HGO.out rfl)
                    go_wp2_with fail
                    go_roundw
                    case rel => exact ⟨q + 1, by omega, by go_num, hno2, by assumption⟩
                    case measure => simp [intOf]; omega
                  · have hz1 : (z != 0) = true := by simpa using hz0
                    have hrz : R = z := HR2.out.trans (HST.out hz0)
                    go_wp2_with fail
                    go_ret
                    exact ⟨by first | rfl | (rw [hrz]; rfl), below_join HB.out (by assumption)⟩
              · have hr0 : R = 0 := by
                  rw [HR2.out, ← hno.out, List.take_of_length_le (by have := HN.out; omega)]
                clear hno
                go_wp2_with fail
                go_ret
                exact ⟨by first | rfl | (rw [hr0]; rfl), below_join HB.out hb⟩
          · rw [if_pos (by omega)] at hal
            obtain rfl := (HBAD.out (by omega)).trans hal
            have t0' : (t != 0) = true := by simpa using t0
            go_enter Tryz.func67, Tryz.ntmps67
            go_upto_region 1 with (fail)
            rw [← HW.out]
            go_wp2_with fail
            go_ret
            exact ⟨rfl, HB.out⟩
    · have m2' : ((m : Int) != 2) = true := by simp; omega
      rw [if_pos (by simpa using m2)] at hal
      obtain rfl := (HBAD.out (by omega)).trans hal
      go_enter Tryz.func67, Tryz.ntmps67
      go_upto_region 1 with (fail)
      rw [← HW.out]
      go_wp2_with fail
      go_ret
      exact ⟨rfl, HB.out⟩
end Go.Proofs.YtbddhkgbpjhhaaaGreatDoor
namespace Go.Proofs.YtbddhkgbpjhhaaaGreatDoor
open Go Go.RowKit
end Go.Proofs.YtbddhkgbpjhhaaaGreatDoor
namespace Go.Proofs.YtbddhkgbpjhhaaaGreatDoor
open Go Go.RowKit
set_option maxHeartbeats 3200000
end Go.Proofs.YtbddhkgbpjhhaaaGreatDoor
