/-
  The document's answer for layer 11: one.
-/
import Derived.Test.YtdcgfhenlddmeaaCkqM
import Derived.Test.YtdcgfhenlddmeaaTrbM
import Derived.Deep.RegionHeld3
namespace Go.Proofs.Ytdcgfhenlddmeaa
open Go.RowKit Go.Sort
set_option maxHeartbeats 25600000

/-- what is wrong with a tree, as the document says it -/
def Ck.oneR (cols came : List Int) (t : Tr) (c : Nat) : Int := if Ck.what cols t c ≠ 0 then Ck.what cols t c else if t.k = 0 ∧ t.t ∈ came then 6 else 0
theorem Ck.oneR_bad {cols came : List Int} {t : Tr} {c : Nat} (h : Ck.alone cols.length t (c + t.cs.length) ≠ 0) : Ck.oneR cols came t c = Ck.alone cols.length t (c + t.cs.length) := by
  have e : Ck.what cols t c = Ck.alone cols.length t (c + t.cs.length) := by unfold Ck.what; rw [if_pos h]
  unfold Ck.oneR
  rw [e, if_pos h]
theorem Ck.oneR_leaf {cols came : List Int} {t : Tr} {c : Nat} (h : Ck.alone cols.length t (c + t.cs.length) = 0) (hk : t.k = 0) : Ck.oneR cols came t c = if t.t ∈ came then 6 else 0 := by
  have e : Ck.what cols t c = 0 := by unfold Ck.what; rw [if_neg (not_not_intro h), if_pos hk]
  unfold Ck.oneR
  rw [e, if_neg (by simp)]
  simp [hk]
theorem Ck.oneR_op {cols came : List Int} {t : Tr} {c : Nat} (h : Ck.alone cols.length t (c + t.cs.length) = 0) (hk : t.k ≠ 0) : Ck.oneR cols came t c = Ck.conjs cols (Ck.ksn t 0) (Ck.ksn t 1) t.cs := by
  have e : Ck.what cols t c = Ck.conjs cols (Ck.ksn t 0) (Ck.ksn t 1) t.cs := by unfold Ck.what; rw [if_neg (not_not_intro h), if_neg hk]
  unfold Ck.oneR
  rw [e]
  by_cases hz : Ck.conjs cols (Ck.ksn t 0) (Ck.ksn t 1) t.cs = 0
  · rw [if_neg (not_not_intro hz), if_neg (fun x => hk x.1), hz]
  · rw [if_pos hz]
theorem Ck.doc_at (cols : List Int) (t : Tr) (r : List Tr) (came : List Int) (c : Nat) : Ck.doc cols (t :: r) came c = if Ck.oneR cols came t c ≠ 0 then Ck.oneR cols came t c else Ck.doc cols r (Ck.comes t came) (c + t.cs.length) := by
  rw [Ck.doc]
  unfold Ck.oneR
  by_cases h : Ck.what cols t c ≠ 0
  · simp [h]
  · by_cases h2 : t.k = 0 ∧ t.t ∈ came
    · simp [h, h2]
    · simp [h, h2]
theorem Ck.conjs_take {cols : List Int} {l r : Nat} {L : List Pd} {q : Nat} {p : Pd} (h : Ck.conjs cols l r (L.take q) = 0) (hp : L[q]? = some p) :
    (Ck.conj cols l r p = 0 → Ck.conjs cols l r (L.take (q + 1)) = 0) ∧ (Ck.conj cols l r p ≠ 0 → Ck.conjs cols l r L = Ck.conj cols l r p) := by
  induction L generalizing q with
  | nil => simp at hp
  | cons a t ih =>
    cases q with
    | zero =>
      simp at hp
      subst hp
      refine ⟨fun h0 => ?_, fun h0 => ?_⟩
      · rw [List.take_succ_cons, List.take_zero, Ck.conjs, if_neg (not_not_intro h0), Ck.conjs]
      · rw [Ck.conjs, if_pos h0]
    | succ q =>
      rw [List.take_succ_cons, Ck.conjs] at h
      split at h
      · rename_i hh; exact absurd h hh
      · rename_i hh
        obtain ⟨i1, i2⟩ := ih h (by simpa using hp)
        refine ⟨fun h0 => ?_, fun h0 => ?_⟩
        · rw [List.take_succ_cons, Ck.conjs, if_neg hh]; exact i1 h0
        · rw [Ck.conjs, if_neg hh]; exact i2 h0
set_option maxRecDepth 100000 in
theorem rone_any (a : Tr) (u v cv mv : Value) (cols came : List Int) (c0 : Nat) (w : World) (hu : ∃ d, TsAt d w u a.ks) (hv : PsSome w v a.cs) (hc : Sl w cv (cols.map (Value.int .i64))) (hm : Sl w mv (came.map (Value.int .i64))) (hml : came.length ≤ 9223372036854775807) (hc6 : c0 ≤ 64)
    (hfine : ∀ i j, (Ck.ksn a i).testBit j = true → j < cols.length) (hsz : Tr.size a ≤ 1000) :
    Calls Try.prog 23 #[.agg #[.int .i64 a.k, .int .i64 a.t, u, v, .bool a.h], cv, mv, .int .i64 (c0 : Int)] w
      fun e w' => e = .returned (.int .i64 (Ck.oneR cols came a c0)) ∧ Below w.heap.size w w' := by
  obtain ⟨A, c, rfl, hlu⟩ := hu.elim fun d h => h.form
  obtain ⟨A', c', rfl, hlv⟩ := hv.elim fun d h => h.form
  obtain ⟨W1, hW1⟩ : ∃ W1, W1 = w.alloc (Obj.cells #[.int .i64 a.k, .int .i64 a.t, .slice A a.ks.length c, .slice A' a.cs.length c', .bool a.h] 26) := ⟨_, rfl⟩
  obtain ⟨l0, p0, hb0⟩ := tr_box (a := a) (u := .slice A a.ks.length c) (v := .slice A' a.cs.length c') hW1
  have HU := Lib.hid (hu.elim fun d h => (⟨d, h.below hb0 (Nat.le_refl _)⟩ : ∃ d, TsAt d W1 (.slice A a.ks.length c) a.ks))
  have HV := Lib.hid (hv.below hb0 (Nat.le_refl _))
  have HC := Lib.hid (hc.below hb0 (Nat.le_refl _))
  have HM := Lib.hid (hm.below hb0 (Nat.le_refl _))
  have HP := Lib.hid p0
  have HLT := Lib.hid l0.lt
  have HW := Lib.hid hW1
  have HB := Lib.hid hb0
  have HF := Lib.hid hfine
  have hcsl : a.cs.length ≤ 1000 ∧ Pr.sizes a.cs ≤ 1000 := by
    have h1 := Tr.size_at a
    have h2 := Pr.sizes_length a.cs
    omega
  have HSZ := Lib.hid hcsl
  obtain ⟨C, cc, rfl, _⟩ := hc
  obtain ⟨M, mc, rfl, _⟩ := hm
  rw [List.length_map] at HC ⊢
  rw [List.length_map] at HM ⊢
  obtain ⟨R, hR⟩ : ∃ R, R = Ck.oneR cols came a c0 := ⟨_, rfl⟩
  rw [← hR]
  obtain ⟨al, hal⟩ : ∃ al, al = Ck.alone cols.length a (c0 + a.cs.length) := ⟨_, rfl⟩
  have HBAD := Lib.hid (show al ≠ 0 → R = al from fun e => by rw [hR, hal]; exact Ck.oneR_bad (hal ▸ e))
  have HLEAF := Lib.hid (show al = 0 → a.k = 0 → R = if a.t ∈ came then 6 else 0 from fun e hk => by rw [hR]; exact Ck.oneR_leaf (hal ▸ e) hk)
  have HOP := Lib.hid (show al = 0 → a.k ≠ 0 → R = Ck.conjs cols (Ck.ksn a 0) (Ck.ksn a 1) a.cs from fun e hk => by rw [hR]; exact Ck.oneR_op (hal ▸ e) hk)
  clear hR
  unfold Ck.alone at hal
  obtain ⟨nc, hnc⟩ : ∃ nc, nc = cols.length := ⟨_, rfl⟩
  obtain ⟨nm, hnm⟩ : ∃ nm, nm = came.length := ⟨_, rfl⟩
  obtain ⟨m, hmm⟩ : ∃ m, m = a.ks.length := ⟨_, rfl⟩
  obtain ⟨n, hn⟩ : ∃ n, n = a.cs.length := ⟨_, rfl⟩
  rw [← hnc] at HC hal ⊢
  rw [← hnm] at HM hml ⊢
  rw [← hmm] at hlu HU hal HW HP p0 ⊢
  rw [← hn] at hlv HV hal HW HP p0 hcsl ⊢
  have HNC := Lib.hid hnc
  have HNM := Lib.hid hnm
  have HMM := Lib.hid hmm
  have HN := Lib.hid hn
  obtain ⟨q0, q1, q2, q3, q4⟩ := p0
  obtain ⟨k, hk⟩ : ∃ k, k = a.k := ⟨_, rfl⟩
  obtain ⟨t, ht⟩ : ∃ t, t = a.t := ⟨_, rfl⟩
  obtain ⟨h, hh⟩ : ∃ h, h = a.h := ⟨_, rfl⟩
  rw [← hk] at q0 HW hal HLEAF HOP ⊢
  rw [← ht] at q1 HW hal HLEAF ⊢
  rw [← hh] at q4 HW hal ⊢
  have HKT := Lib.hid (And.intro hk ht)
  clear hu hv l0 hb0 hW1 hfine hsz hnc hnm hmm hn hk ht hh
  by_cases k0 : k < 0
  · rw [if_pos (.inl k0)] at hal
    obtain rfl := (HBAD.out (by omega)).trans hal
    go_enter Try.func23, Try.ntmps23
    go_upto_region 1 with (fail)
    rw [← HW.out]
    go_wp2_with fail
    go_ret
    exact ⟨rfl, HB.out⟩
  by_cases k4 : 4 < k
  · rw [if_pos (.inr (.inl k4))] at hal
    obtain rfl := (HBAD.out (by omega)).trans hal
    go_enter Try.func23, Try.ntmps23
    go_upto_region 1 with (fail)
    rw [← HW.out]
    go_wp2_with fail
    go_ret
    exact ⟨rfl, HB.out⟩
  by_cases kz : k = 0
  · subst kz
    cases h
    · rw [if_neg (by simp)] at hal
      by_cases m0 : m = 0
      · subst m0
        rw [if_neg (by simp)] at hal
        by_cases m1 : n = 0
        · subst m1
          rw [if_neg (by omega), if_pos rfl] at hal
          by_cases t0 : t < 0
          · rw [if_pos (.inl t0)] at hal
            obtain rfl := (HBAD.out (by omega)).trans hal
            go_enter Try.func23, Try.ntmps23
            go_upto_region 1 with (fail)
            rw [← HW.out]
            go_wp2_with fail
            go_ret
            exact ⟨rfl, HB.out⟩
          by_cases tn : (nc : Int) ≤ t
          · rw [if_pos (.inr tn)] at hal
            obtain rfl := (HBAD.out (by omega)).trans hal
            go_enter Try.func23, Try.ntmps23
            go_upto_region 1 with (fail)
            rw [← HW.out]
            go_wp2_with fail
            go_ret
            exact ⟨rfl, HB.out⟩
          · rw [if_neg (by omega)] at hal
            have HR := Lib.hid (HLEAF.out hal rfl)
            go_enter Try.func23, Try.ntmps23
            go_upto_region 1 with (fail)
            rw [← HW.out]
            go_wp2_with fail
            go_loopw [9] (fun i wr => ∃ q : Nat, q ≤ nm ∧ i = .int .i64 q ∧ Hid (t ∉ came.take q) ∧ ∃ z, wr = W1.drewN z) (fun i _ => nm - (intOf i).toNat)
            case atStart => exact ⟨0, Nat.zero_le _, rfl, Lib.hid (by simp), 0, rfl⟩
            case round =>
              obtain ⟨q, hq, rfl, hno, z, rfl⟩ := hrel
              by_cases hlt : q < nm
              · obtain ⟨x, gx⟩ : ∃ x, came[q]? = some x := ⟨came[q]'(by have := HNM.out; omega), List.getElem?_eq_getElem _⟩
                obtain ⟨b2, o2, p2, rfl, _, u0⟩ := HM.out.ints_at gx
                by_cases hxt : x = t
                · subst hxt
                  have hr6 : R = 6 := by rw [HR.out, if_pos (List.mem_of_getElem? gx)]
                  subst hr6
                  clear gx hno
                  go_upto_region 15 with (fail)
                  go_quiet (fail)
                  go_wp2_with fail
                  go_ret
                  exact ⟨rfl, below_drewN (below_drewN HB.out _) _⟩
                · have hxt' : (x == t) = false := by simpa using hxt
                  have hno2 : Hid (t ∉ came.take (q + 1)) := Lib.hid (by
                    rw [List.take_add_one, gx]
                    simp only [Option.toList_some, List.mem_append, List.mem_singleton, not_or]
                    exact ⟨hno.out, fun e => hxt e.symm⟩)
                  clear gx hno
                  go_upto_region 15 with (fail)
                  go_quiet (fail)
                  go_wp2_with fail
                  go_roundw
                  case rel => exact ⟨q + 1, by omega, by go_num, hno2, _, rfl⟩
                  case measure => simp [intOf]; omega
              · have hr0 : R = 0 := by
                  rw [HR.out, if_neg]
                  rw [← List.take_of_length_le (i := q) (l := came) (by have := HNM.out; omega)]
                  exact hno.out
                subst hr0
                go_wp2_with fail
                go_ret
                exact ⟨rfl, below_drewN HB.out _⟩
        · rw [if_pos (by omega)] at hal
          obtain rfl := (HBAD.out (by omega)).trans hal
          have hpos : 0 < n := by omega
          go_enter Try.func23, Try.ntmps23
          go_upto_region 1 with (fail)
          rw [← HW.out]
          go_wp2_with fail
          go_ret
          exact ⟨rfl, HB.out⟩
      · rw [if_pos (by simpa using m0)] at hal
        obtain rfl := (HBAD.out (by omega)).trans hal
        have hpos : 0 < m := by omega
        go_enter Try.func23, Try.ntmps23
        go_upto_region 1 with (fail)
        rw [← HW.out]
        go_wp2_with fail
        go_ret
        exact ⟨rfl, HB.out⟩
    · rw [if_pos (.inr (.inr ⟨rfl, rfl⟩))] at hal
      obtain rfl := (HBAD.out (by omega)).trans hal
      go_enter Try.func23, Try.ntmps23
      go_upto_region 1 with (fail)
      rw [← HW.out]
      go_wp2_with fail
      go_ret
      exact ⟨rfl, HB.out⟩
  · have kz' : (k == 0) = false := by simpa using kz
    rw [if_neg (by omega), if_neg kz, if_neg kz] at hal
    by_cases m2 : m = 2
    · subst m2
      rw [if_neg (by simp)] at hal
      by_cases m1 : n = 0
      · subst m1
        rw [if_pos (by omega)] at hal
        obtain rfl := (HBAD.out (by omega)).trans hal
        go_enter Try.func23, Try.ntmps23
        go_upto_region 1 with (fail)
        rw [← HW.out]
        go_wp2_with fail
        go_ret
        exact ⟨rfl, HB.out⟩
      · have m1' : ((n : Int) == 0) = false := by simpa using m1
        by_cases c6 : 64 < c0 + n
        · rw [if_pos (by omega)] at hal
          obtain rfl := (HBAD.out (by omega)).trans hal
          have c6' : (64 : Int) < (c0 : Int) + (n : Int) := by omega
          go_enter Try.func23, Try.ntmps23
          go_upto_region 1 with (fail)
          rw [← HW.out]
          go_wp2_with fail
          go_ret
          exact ⟨rfl, HB.out⟩
        · rw [if_neg (by omega)] at hal
          have c6' : ¬ ((64 : Int) < (c0 : Int) + (n : Int)) := by omega
          by_cases t0 : t = 0
          · subst t0
            rw [if_neg (by omega)] at hal
            have HR := Lib.hid (HOP.out hal kz)
            obtain ⟨x, y, hks⟩ : ∃ x y, a.ks = [x, y] := by
              have h2 := HMM.out
              match hkk : a.ks with
              | [] => rw [hkk] at h2; simp at h2
              | [_] => rw [hkk] at h2; simp at h2
              | [x, y] => exact ⟨x, y, rfl⟩
              | _ :: _ :: _ :: _ => rw [hkk] at h2; simp at h2
            obtain ⟨dd, hts⟩ := HU.out
            rw [HMM.out] at hts
            obtain ⟨e6, b0, o0, s0, u6, v6, _, rfl, hb0l, hX⟩ := hts.at_ (j := 0) (a := x) (by rw [hks]; rfl)
            obtain ⟨e8, b0', o0', s0', u8, v8, _, hA8, _, hY⟩ := hts.at_ (j := 1) (a := y) (by rw [hks]; rfl)
            obtain ⟨rfl, rfl, rfl⟩ : b0 = b0' ∧ o0 = o0' ∧ s0 = s0' := by
              simp only [Option.some.injEq, Addr.mk.injEq] at hA8
              exact hA8
            obtain ⟨B6, d6, rfl, _⟩ := (hX W1 (Below.refl _ _)).2.2.form
            obtain ⟨B7, d7, rfl, _⟩ := (hX W1 (Below.refl _ _)).2.1.elim fun d h => h.form
            obtain ⟨B8, d8, rfl, _⟩ := (hY W1 (Below.refl _ _)).2.2.form
            obtain ⟨B9, d9, rfl, _⟩ := (hY W1 (Below.refl _ _)).2.1.elim fun d h => h.form
            simp only [Nat.zero_mul, add_zero9] at hX
            have hadd : (⟨b0, o0, s0⟩ : Addr).add (1 * 5) = ⟨b0, o0 + 5, none⟩ := by unfold Addr.add; simp
            simp only [hadd] at hY
            have e0 : Ck.ksn a 0 = Tr.seen x := by unfold Ck.ksn; rw [hks]; rfl
            have e1 : Ck.ksn a 1 = Tr.seen y := by unfold Ck.ksn; rw [hks]; rfl
            have hfn : ∀ j, (Tr.seen x ||| Tr.seen y).testBit j = true → j < cols.length := fun j hj => by
              rw [Nat.testBit_or, Bool.or_eq_true] at hj
              rcases hj with hj | hj
              · exact HF.out 0 j (by rw [e0]; exact hj)
              · exact HF.out 1 j (by rw [e1]; exact hj)
            have hR2 := HR.out
            rw [e0, e1] at hR2
            have HR2 := Lib.hid hR2
            have HX := Lib.hid hX
            have HY := Lib.hid hY
            have HFN := Lib.hid hfn
            clear hX hY hfn hR2 e0 e1 hts hA8 hks hal HR
            have C0 := Lib.hid (fun W (h : Below W1.heap.size W1 W) => (r10seen_any _ x _ (.slice B7 x.cs.length d7) W (HX.out W h).2.2).mono fun e w' ⟨he, hb⟩ => (⟨he, below_join h hb⟩ : e = _ ∧ Below W1.heap.size W1 w'))
            have C1 := Lib.hid (fun W (h : Below W1.heap.size W1 W) => (r10seen_any _ y _ (.slice B9 y.cs.length d9) W (HY.out W h).2.2).mono fun e w' ⟨he, hb⟩ => (⟨he, below_join h hb⟩ : e = _ ∧ Below W1.heap.size W1 w'))
            go_enter Try.func23, Try.ntmps23
            go_upto_region 1 with (fail)
            rw [← HW.out]
            go_wp2_with fail
            clear q0 q1 q2 q3 q4
            go_loopw [10] (fun i wr => ∃ q : Nat, q ≤ n ∧ i = .int .i64 q ∧ Hid (Ck.conjs cols (Tr.seen x) (Tr.seen y) (a.cs.take q) = 0) ∧ Below W1.heap.size W1 wr) (fun i _ => n - (intOf i).toNat)
            case atStart => exact ⟨0, Nat.zero_le _, rfl, Lib.hid (by simp [Ck.conjs]), Below.refl _ _⟩
            case round =>
              obtain ⟨q, hq, rfl, hno, hb⟩ := hrel
              have q3 := (HP.out.below hb HLT.out).c3
              by_cases hlt : q < n
              · obtain ⟨p, gp⟩ : ∃ p, a.cs[q]? = some p := ⟨a.cs[q]'(by have := HN.out; omega), List.getElem?_eq_getElem _⟩
                obtain ⟨dv, hvv⟩ := HV.out
                rw [HN.out] at hvv
                obtain ⟨e5, b5, o5, s5, u5, _, rfl, _, hP5⟩ := hvv.at_ gp
                obtain ⟨B5, d5, rfl, _⟩ := (hP5 W1 (Below.refl _ _)).2.form
                have HP5 := Lib.hid hP5
                obtain ⟨z, hz⟩ : ∃ z, z = Ck.conj cols (Tr.seen x) (Tr.seen y) (.mk p.f p.ps) := ⟨_, rfl⟩
                have C2 := Lib.hid (fun W (h : Below W1.heap.size W1 W) => (rconj_any e5 p.f (.slice B5 p.ps.length d5) p.ps (.slice C nc cc) cols (Tr.seen x) (Tr.seen y) W (HP5.out W h).2 (HC.out.below h (Nat.le_refl _)) (Tr.seen_lt x) (Tr.seen_lt y) HFN.out (by have := Pr.sizes_down gp; have := HSZ.out; omega)).mono fun e w' ⟨he, hb⟩ => (⟨by rw [he, ← hz], below_join h hb⟩ : e = Ending.returned (.int .i64 z) ∧ Below W1.heap.size W1 w'))
                have hpm : Pd.mk p.f p.ps = p := by cases p; rfl
                rw [hpm] at hz
                obtain ⟨hgo, hstop⟩ := Ck.conjs_take hno.out gp
                rw [← hz] at hgo hstop
                have HGO := Lib.hid hgo
                have HST := Lib.hid hstop
                have hS := hb
                have KK := Lib.hid (fun W (h : Below W1.heap.size W1 W) => (show (W.cell? ⟨w.heap.size, 2, none⟩ = some (.slice (some ⟨b0, o0, s0⟩) 2 c) ∧ W.cell? ⟨w.heap.size, 3, none⟩ = some (.slice (some ⟨b5, o5, s5⟩) n c') ∧ W.cell? ((⟨b5, o5, s5⟩ : Addr).add (q * 14)) = some (.int .i64 p.f.k) ∧ W.cell? ⟨((⟨b5, o5, s5⟩ : Addr).add (q * 14)).block, ((⟨b5, o5, s5⟩ : Addr).add (q * 14)).off + 1, none⟩ = some (.int .i64 p.f.u) ∧ W.cell? ⟨((⟨b5, o5, s5⟩ : Addr).add (q * 14)).block, ((⟨b5, o5, s5⟩ : Addr).add (q * 14)).off + 2, none⟩ = some (.int .i64 p.f.o) ∧ W.cell? ⟨((⟨b5, o5, s5⟩ : Addr).add (q * 14)).block, ((⟨b5, o5, s5⟩ : Addr).add (q * 14)).off + 3, none⟩ = some (.int .i64 p.f.a.k) ∧ W.cell? ⟨((⟨b5, o5, s5⟩ : Addr).add (q * 14)).block, ((⟨b5, o5, s5⟩ : Addr).add (q * 14)).off + 4, none⟩ = some (.int .i64 p.f.a.t) ∧ W.cell? ⟨((⟨b5, o5, s5⟩ : Addr).add (q * 14)).block, ((⟨b5, o5, s5⟩ : Addr).add (q * 14)).off + 5, none⟩ = some (.int .i64 p.f.a.c) ∧ W.cell? ⟨((⟨b5, o5, s5⟩ : Addr).add (q * 14)).block, ((⟨b5, o5, s5⟩ : Addr).add (q * 14)).off + 6, none⟩ = some (.bool p.f.a.z) ∧ W.cell? ⟨((⟨b5, o5, s5⟩ : Addr).add (q * 14)).block, ((⟨b5, o5, s5⟩ : Addr).add (q * 14)).off + 7, none⟩ = some (.int .i64 p.f.a.n) ∧ W.cell? ⟨((⟨b5, o5, s5⟩ : Addr).add (q * 14)).block, ((⟨b5, o5, s5⟩ : Addr).add (q * 14)).off + 8, none⟩ = some (.int .i64 p.f.b.k) ∧ W.cell? ⟨((⟨b5, o5, s5⟩ : Addr).add (q * 14)).block, ((⟨b5, o5, s5⟩ : Addr).add (q * 14)).off + 9, none⟩ = some (.int .i64 p.f.b.t) ∧ W.cell? ⟨((⟨b5, o5, s5⟩ : Addr).add (q * 14)).block, ((⟨b5, o5, s5⟩ : Addr).add (q * 14)).off + 10, none⟩ = some (.int .i64 p.f.b.c) ∧ W.cell? ⟨((⟨b5, o5, s5⟩ : Addr).add (q * 14)).block, ((⟨b5, o5, s5⟩ : Addr).add (q * 14)).off + 11, none⟩ = some (.bool p.f.b.z) ∧ W.cell? ⟨((⟨b5, o5, s5⟩ : Addr).add (q * 14)).block, ((⟨b5, o5, s5⟩ : Addr).add (q * 14)).off + 12, none⟩ = some (.int .i64 p.f.b.n) ∧ W.cell? ⟨((⟨b5, o5, s5⟩ : Addr).add (q * 14)).block, ((⟨b5, o5, s5⟩ : Addr).add (q * 14)).off + 13, none⟩ = some (.slice B5 p.ps.length d5) ∧ W.cell? (⟨b0, o0, s0⟩ : Addr) = some (.int .i64 x.k) ∧ W.cell? ⟨(⟨b0, o0, s0⟩ : Addr).block, (⟨b0, o0, s0⟩ : Addr).off + 1, none⟩ = some (.int .i64 x.t) ∧ W.cell? ⟨(⟨b0, o0, s0⟩ : Addr).block, (⟨b0, o0, s0⟩ : Addr).off + 2, none⟩ = some (.slice B6 x.ks.length d6) ∧ W.cell? ⟨(⟨b0, o0, s0⟩ : Addr).block, (⟨b0, o0, s0⟩ : Addr).off + 3, none⟩ = some (.slice B7 x.cs.length d7) ∧ W.cell? ⟨(⟨b0, o0, s0⟩ : Addr).block, (⟨b0, o0, s0⟩ : Addr).off + 4, none⟩ = some (.bool x.h) ∧ W.cell? ⟨b0, o0 + 5, none⟩ = some (.int .i64 y.k) ∧ W.cell? ⟨b0, o0 + 5 + 1, none⟩ = some (.int .i64 y.t) ∧ W.cell? ⟨b0, o0 + 5 + 2, none⟩ = some (.slice B8 y.ks.length d8) ∧ W.cell? ⟨b0, o0 + 5 + 3, none⟩ = some (.slice B9 y.cs.length d9) ∧ W.cell? ⟨b0, o0 + 5 + 4, none⟩ = some (.bool y.h)) ∧ Below W1.heap.size W1 W from
                  have pt := HP.out.below h HLT.out
                  have pp := (HP5.out W h).1
                  have px := (HX.out W h).1
                  have py := (HY.out W h).1
                  ⟨⟨pt.c2, pt.c3, pp.c0, pp.c1, pp.c2, pp.c3, pp.c4, pp.c5, pp.c6, pp.c7, pp.c8, pp.c9, pp.c10, pp.c11, pp.c12, pp.c13, px.c0, px.c1, px.c2, px.c3, px.c4, py.c0, py.c1, py.c2, py.c3, py.c4⟩, h⟩))
                clear hP5 hz hpm hgo hstop gp hvv hno hb
                go_upto_region 27 with (fail)
                go_region_held3 (fun W => (W.cell? ⟨w.heap.size, 2, none⟩ = some (.slice (some ⟨b0, o0, s0⟩) 2 c) ∧ W.cell? ⟨w.heap.size, 3, none⟩ = some (.slice (some ⟨b5, o5, s5⟩) n c') ∧ W.cell? ((⟨b5, o5, s5⟩ : Addr).add (q * 14)) = some (.int .i64 p.f.k) ∧ W.cell? ⟨((⟨b5, o5, s5⟩ : Addr).add (q * 14)).block, ((⟨b5, o5, s5⟩ : Addr).add (q * 14)).off + 1, none⟩ = some (.int .i64 p.f.u) ∧ W.cell? ⟨((⟨b5, o5, s5⟩ : Addr).add (q * 14)).block, ((⟨b5, o5, s5⟩ : Addr).add (q * 14)).off + 2, none⟩ = some (.int .i64 p.f.o) ∧ W.cell? ⟨((⟨b5, o5, s5⟩ : Addr).add (q * 14)).block, ((⟨b5, o5, s5⟩ : Addr).add (q * 14)).off + 3, none⟩ = some (.int .i64 p.f.a.k) ∧ W.cell? ⟨((⟨b5, o5, s5⟩ : Addr).add (q * 14)).block, ((⟨b5, o5, s5⟩ : Addr).add (q * 14)).off + 4, none⟩ = some (.int .i64 p.f.a.t) ∧ W.cell? ⟨((⟨b5, o5, s5⟩ : Addr).add (q * 14)).block, ((⟨b5, o5, s5⟩ : Addr).add (q * 14)).off + 5, none⟩ = some (.int .i64 p.f.a.c) ∧ W.cell? ⟨((⟨b5, o5, s5⟩ : Addr).add (q * 14)).block, ((⟨b5, o5, s5⟩ : Addr).add (q * 14)).off + 6, none⟩ = some (.bool p.f.a.z) ∧ W.cell? ⟨((⟨b5, o5, s5⟩ : Addr).add (q * 14)).block, ((⟨b5, o5, s5⟩ : Addr).add (q * 14)).off + 7, none⟩ = some (.int .i64 p.f.a.n) ∧ W.cell? ⟨((⟨b5, o5, s5⟩ : Addr).add (q * 14)).block, ((⟨b5, o5, s5⟩ : Addr).add (q * 14)).off + 8, none⟩ = some (.int .i64 p.f.b.k) ∧ W.cell? ⟨((⟨b5, o5, s5⟩ : Addr).add (q * 14)).block, ((⟨b5, o5, s5⟩ : Addr).add (q * 14)).off + 9, none⟩ = some (.int .i64 p.f.b.t) ∧ W.cell? ⟨((⟨b5, o5, s5⟩ : Addr).add (q * 14)).block, ((⟨b5, o5, s5⟩ : Addr).add (q * 14)).off + 10, none⟩ = some (.int .i64 p.f.b.c) ∧ W.cell? ⟨((⟨b5, o5, s5⟩ : Addr).add (q * 14)).block, ((⟨b5, o5, s5⟩ : Addr).add (q * 14)).off + 11, none⟩ = some (.bool p.f.b.z) ∧ W.cell? ⟨((⟨b5, o5, s5⟩ : Addr).add (q * 14)).block, ((⟨b5, o5, s5⟩ : Addr).add (q * 14)).off + 12, none⟩ = some (.int .i64 p.f.b.n) ∧ W.cell? ⟨((⟨b5, o5, s5⟩ : Addr).add (q * 14)).block, ((⟨b5, o5, s5⟩ : Addr).add (q * 14)).off + 13, none⟩ = some (.slice B5 p.ps.length d5) ∧ W.cell? (⟨b0, o0, s0⟩ : Addr) = some (.int .i64 x.k) ∧ W.cell? ⟨(⟨b0, o0, s0⟩ : Addr).block, (⟨b0, o0, s0⟩ : Addr).off + 1, none⟩ = some (.int .i64 x.t) ∧ W.cell? ⟨(⟨b0, o0, s0⟩ : Addr).block, (⟨b0, o0, s0⟩ : Addr).off + 2, none⟩ = some (.slice B6 x.ks.length d6) ∧ W.cell? ⟨(⟨b0, o0, s0⟩ : Addr).block, (⟨b0, o0, s0⟩ : Addr).off + 3, none⟩ = some (.slice B7 x.cs.length d7) ∧ W.cell? ⟨(⟨b0, o0, s0⟩ : Addr).block, (⟨b0, o0, s0⟩ : Addr).off + 4, none⟩ = some (.bool x.h) ∧ W.cell? ⟨b0, o0 + 5, none⟩ = some (.int .i64 y.k) ∧ W.cell? ⟨b0, o0 + 5 + 1, none⟩ = some (.int .i64 y.t) ∧ W.cell? ⟨b0, o0 + 5 + 2, none⟩ = some (.slice B8 y.ks.length d8) ∧ W.cell? ⟨b0, o0 + 5 + 3, none⟩ = some (.slice B9 y.cs.length d9) ∧ W.cell? ⟨b0, o0 + 5 + 4, none⟩ = some (.bool y.h)) ∧ Below W1.heap.size W1 W) (first | (exact KK.out _ (by repeat first | assumption | refine Below.drew ?_)))
                  (first
                    | (go_at_call 16; (with_reducible refine (C0.out _ (by repeat first | assumption | refine Below.drew ?_)).mono ?_); rintro e w' ⟨rfl, hS'⟩)
                    | (go_at_call 16; (with_reducible refine (C1.out _ (by repeat first | assumption | refine Below.drew ?_)).mono ?_); rintro e w' ⟨rfl, hS'⟩)
                    | (go_at_call 35; (with_reducible refine (C2.out _ (by repeat first | assumption | refine Below.drew ?_)).mono ?_); rintro e w' ⟨rfl, hS'⟩)
                    | (fail "no arm"))
                all_goals
                  by_cases hz0 : z = 0
                  · subst hz0
                    have hno2 := Lib.hid (HGO.out rfl)
                    go_wp2_with fail
                    go_roundw
                    case rel => exact ⟨q + 1, by omega, by go_num, hno2, by assumption⟩
                    case measure => simp [intOf]; omega
                  · have hz1 : (z != 0) = true := by simpa using hz0
                    have hrz : R = z := HR2.out.trans (HST.out hz0)
                    go_wp2_with fail
                    go_ret
                    exact ⟨by first | rfl | (rw [hrz]; rfl), below_join HB.out (by assumption)⟩
              · have hr0 : R = 0 := by
                  rw [HR2.out, ← hno.out, List.take_of_length_le (by have := HN.out; omega)]
                clear hno
                go_wp2_with fail
                go_ret
                exact ⟨by first | rfl | (rw [hr0]; rfl), below_join HB.out hb⟩
          · rw [if_pos (by omega)] at hal
            obtain rfl := (HBAD.out (by omega)).trans hal
            have t0' : (t != 0) = true := by simpa using t0
            go_enter Try.func23, Try.ntmps23
            go_upto_region 1 with (fail)
            rw [← HW.out]
            go_wp2_with fail
            go_ret
            exact ⟨rfl, HB.out⟩
    · have m2' : ((m : Int) != 2) = true := by simp; omega
      rw [if_pos (by simpa using m2)] at hal
      obtain rfl := (HBAD.out (by omega)).trans hal
      go_enter Try.func23, Try.ntmps23
      go_upto_region 1 with (fail)
      rw [← HW.out]
      go_wp2_with fail
      go_ret
      exact ⟨rfl, HB.out⟩
end Go.Proofs.Ytdcgfhenlddmeaa
