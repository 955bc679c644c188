/-
  package tree: Seen.
-/
import Derived.Test.YtdcgfhenlddmeaaTrbM
import Derived.Test.YtdcgfhenlddmeaaGBase
namespace Go.Proofs.Ytdcgfhenlddmeaa
open Go.RowKit Go.Sort
set_option maxHeartbeats 1600000

set_option maxRecDepth 100000 in
theorem tseen_any (d : Nat) : ∀ (a : Tr) (u v : Value) (w : World), TsAt d w u a.ks → PsSome w v a.cs →
    Calls Try.prog 33 #[.agg #[.int .i64 a.k, .int .i64 a.t, u, v, .bool a.h]] w fun e w' => e = .returned (.int .u64 (Tr.seen a : Nat)) ∧ Below w.heap.size w w' := by
  induction d using Nat.strongRecOn with
  | ind d ih =>
  intro a u v w hu hv
  obtain ⟨W0, hW0⟩ : ∃ W0, W0 = w.alloc (Obj.cells #[.int .i64 a.k, .int .i64 a.t, u, v, .bool a.h] 26) := ⟨_, rfl⟩
  obtain ⟨l0, p0, hb0⟩ := tr_box (a := a) (u := u) (v := v) hW0
  obtain ⟨A, c, rfl, hl⟩ := hu.form
  obtain ⟨A', c', rfl, hl'⟩ := hv.elim fun D h => h.form
  have hcap := hu.cap
  have HU := Lib.hid (hu.below hb0 (Nat.le_refl _))
  have HSE := Lib.hid (Tr.seen_at a)
  have IH := Lib.hid ih
  obtain ⟨q0, q1, q2, q3, q4⟩ := p0
  obtain ⟨n, hn⟩ : ∃ n, n = a.ks.length := ⟨_, rfl⟩
  rw [← hn] at hl HU q2 hcap hW0 ⊢
  have HN := Lib.hid hn
  have HW := Lib.hid hW0
  obtain ⟨kd, hkd⟩ : ∃ kd, kd = a.k := ⟨_, rfl⟩
  rw [← hkd] at q0 HW ⊢
  have HK := Lib.hid hkd
  clear hW0 ih hu hv l0 hn hkd hl'
  by_cases hk : kd = 0
  · subst hk
    have cs := sof_any _ [a.t] _ (Sl.new W0 3 [.int .i64 a.t]) (by simp)
    have hb1 := below_join hb0 (below_new W0 (Obj.cells #[.int .i64 a.t] 3))
    have HE := Lib.hid (show St.ofN [a.t] = Tr.seen a by rw [HSE.out, if_pos HK.out.symm])
    clear q3 q4
    go_enter Try.func33, Try.ntmps33
    go_upto_region 1 with (fail)
    rw [← HW.out]
    go_wp2_with fail
    refine cs.mono ?_
    rintro e w1 ⟨rfl, rfl⟩
    clear cs
    go_wp2_with fail
    go_ret
    exact ⟨by rw [HE.out]; rfl, hb1⟩
  · have hk0 : (kd == 0) = false := by simpa using hk
    obtain ⟨L, hL⟩ : ∃ L : List Tr, L = if kd = 3 ∨ kd = 4 then a.ks.take 1 else a.ks := ⟨_, rfl⟩
    obtain ⟨m, hm⟩ : ∃ m, m = L.length := ⟨_, rfl⟩
    have hmn : m ≤ n := by
      rw [hm, hL, HN.out]
      split
      · rw [List.length_take]; omega
      · exact Nat.le_refl _
    have HLA := Lib.hid (show ∀ (q : Nat) (b : Tr), L[q]? = some b → a.ks[q]? = some b from fun q b h => by
      rw [hL] at h
      split at h
      · rw [List.getElem?_take] at h
        split at h
        · exact h
        · cases h
      · exact h)
    have HEND := Lib.hid (show Tr.seens L = Tr.seen a by
      rw [HSE.out, if_neg (by rw [← HK.out]; exact hk), hL, ← HK.out]
      by_cases h34 : kd = 3 ∨ kd = 4
      · rw [if_pos h34, if_pos h34, Tr.seens_one]
      · rw [if_neg h34, if_neg h34])
    have HM := Lib.hid hm
    by_cases h34 : kd = 3 ∨ kd = 4
    · have hm1 : m = min n 1 := by
        rw [hm, hL, if_pos h34, List.length_take, HN.out]; omega
      have HM1 := Lib.hid hm1
      clear hL hm hm1
      by_cases hn1 : n ≤ 1
      · obtain rfl : m = n := by have := HM1.out; omega
        go_enter Try.func33, Try.ntmps33
        go_upto_region 1 with (fail)
        rw [← HW.out]
        have hn2 : ¬ ((1 : Int) < (m : Int)) := by omega
        have hn3 : (m : Int) ≤ 1 := by omega
        rcases h34 with h3 | h3
        all_goals subst h3
        all_goals clear hk
        all_goals go_wp2_with fail
        all_goals clear hn2 hn3
        all_goals (
          go_loopw [4, 27] (fun s i wr => ∃ (q sv : Nat), q ≤ m ∧ i = .int .i64 q ∧ s = .int .u64 sv ∧ Hid (sv = Tr.seens (L.take q)) ∧ Below W0.heap.size W0 wr) (fun _ i _ => m - (intOf i).toNat)
          case atStart => exact ⟨0, 0, Nat.zero_le _, rfl, rfl, Lib.hid (by rw [List.take_zero, Tr.seens]), Below.refl _ _⟩
          case round =>
            obtain ⟨q, sv, hq, rfl, rfl, hsv, hb⟩ := hrel
            by_cases hlt : q < m
            · obtain ⟨b, gL⟩ : ∃ b, L[q]? = some b := ⟨L[q]'(by have := HM.out; omega), List.getElem?_eq_getElem _⟩
              have gb := HLA.out q b gL
              have hu := HU.out
              rw [HN.out] at hu
              obtain ⟨e, bb, oo, ss, xx, yy, he, rfl, _, hx⟩ := hu.at_ gb
              obtain ⟨hcell, hps, hks⟩ := hx wr hb
              obtain ⟨A2, c2, rfl, _⟩ := hks.form
              obtain ⟨D2, hps2⟩ := hps
              obtain ⟨A3, c3, rfl, _⟩ := hps2.form
              have hba := below_join hb (below_new wr (Obj.cells #[.int .i64 b.k, .int .i64 b.t, .slice A2 b.ks.length c2, .slice A3 b.cs.length c3, .bool b.h] 26))
              obtain ⟨_, hps3, hks3⟩ := hx _ hba
              have cs := IH.out e he b _ _ _ hks3 hps3
              have hqn : q < m := Nat.lt_of_lt_of_le hlt hmn
              have ht : L.take (q + 1) = L.take q ++ [b] := by rw [List.take_add_one, gL]; rfl
              have hsl : sv < 18446744073709551616 := by rw [hsv.out]; exact Tr.seens_lt _
              have H2 := Lib.hid (u64_or_nat sv (Tr.seen b) hsl (Tr.seen_lt b))
              have H3 := Lib.hid (show sv ||| Tr.seen b = Tr.seens (L.take (q + 1)) by rw [ht, Tr.seens_snoc, hsv.out])
              have HBA := Lib.hid hba
              obtain ⟨x0, x1, x2, x3, x4⟩ := hcell
              have hlt1 : (q : Int) < (m : Int) := by omega
              clear gL gb hx hps2 hks hps3 hks3 ht hsl hu hb hba he q0 q1 q2 q3 q4
              go_wp2_with fail
              refine cs.mono ?_
              rintro e w2 ⟨rfl, hb2⟩
              have hb' := below_join HBA.out hb2
              clear cs x0 x1 x2 x3 x4 hb2
              go_wp2_with fail
              go_roundw
              case rel => exact ⟨q + 1, _, by omega, by go_num, by rw [H2.out], H3, hb'⟩
              case measure => simp [intOf]; omega
            · have hlt1 : ¬ ((q : Int) < (m : Int)) := by omega
              have he : Hid (sv = Tr.seen a) := Lib.hid (by
                rw [hsv.out, List.take_of_length_le (by have := HM.out; omega)]
                exact HEND.out)
              go_wp2_with fail
              go_ret
              exact ⟨by rw [he.out]; rfl, below_join hb0 hb⟩)
      · obtain rfl : m = 1 := by have := HM1.out; omega
        go_enter Try.func33, Try.ntmps33
        go_upto_region 1 with (fail)
        rw [← HW.out]
        have hn2 : (1 : Int) < (n : Int) := by omega
        have hn3 : ¬ (n : Int) ≤ 1 := by omega
        have hn4 : 1 ≤ c := by omega
        rcases h34 with h3 | h3
        all_goals subst h3
        all_goals clear hk
        all_goals go_wp2_with fail
        all_goals clear hn2 hn3
        all_goals (
          go_loopw [4, 27] (fun s i wr => ∃ (q sv : Nat), q ≤ 1 ∧ i = .int .i64 q ∧ s = .int .u64 sv ∧ Hid (sv = Tr.seens (L.take q)) ∧ Below W0.heap.size W0 wr) (fun _ i _ => 1 - (intOf i).toNat)
          case atStart => exact ⟨0, 0, Nat.zero_le _, rfl, rfl, Lib.hid (by rw [List.take_zero, Tr.seens]), Below.refl _ _⟩
          case round =>
            obtain ⟨q, sv, hq, rfl, rfl, hsv, hb⟩ := hrel
            by_cases hlt : q < 1
            · obtain ⟨b, gL⟩ : ∃ b, L[q]? = some b := ⟨L[q]'(by have := HM.out; omega), List.getElem?_eq_getElem _⟩
              have gb := HLA.out q b gL
              have hu := HU.out
              rw [HN.out] at hu
              obtain ⟨e, bb, oo, ss, xx, yy, he, rfl, _, hx⟩ := hu.at_ gb
              obtain ⟨hcell, hps, hks⟩ := hx wr hb
              obtain ⟨A2, c2, rfl, _⟩ := hks.form
              obtain ⟨D2, hps2⟩ := hps
              obtain ⟨A3, c3, rfl, _⟩ := hps2.form
              have hba := below_join hb (below_new wr (Obj.cells #[.int .i64 b.k, .int .i64 b.t, .slice A2 b.ks.length c2, .slice A3 b.cs.length c3, .bool b.h] 26))
              obtain ⟨_, hps3, hks3⟩ := hx _ hba
              have cs := IH.out e he b _ _ _ hks3 hps3
              have hqn : q < n := Nat.lt_of_lt_of_le hlt hmn
              have ht : L.take (q + 1) = L.take q ++ [b] := by rw [List.take_add_one, gL]; rfl
              have hsl : sv < 18446744073709551616 := by rw [hsv.out]; exact Tr.seens_lt _
              have H2 := Lib.hid (u64_or_nat sv (Tr.seen b) hsl (Tr.seen_lt b))
              have H3 := Lib.hid (show sv ||| Tr.seen b = Tr.seens (L.take (q + 1)) by rw [ht, Tr.seens_snoc, hsv.out])
              have HBA := Lib.hid hba
              obtain ⟨x0, x1, x2, x3, x4⟩ := hcell
              have hlt1 : (q : Int) < 1 := by omega
              clear gL gb hx hps2 hks hps3 hks3 ht hsl hu hb hba he q0 q1 q2 q3 q4
              go_wp2_with fail
              refine cs.mono ?_
              rintro e w2 ⟨rfl, hb2⟩
              have hb' := below_join HBA.out hb2
              clear cs x0 x1 x2 x3 x4 hb2
              go_wp2_with fail
              go_roundw
              case rel => exact ⟨q + 1, _, by omega, by go_num, by rw [H2.out], H3, hb'⟩
              case measure => simp [intOf]; omega
            · have hlt1 : ¬ ((q : Int) < 1) := by omega
              have he : Hid (sv = Tr.seen a) := Lib.hid (by
                rw [hsv.out, List.take_of_length_le (by have := HM.out; omega)]
                exact HEND.out)
              go_wp2_with fail
              go_ret
              exact ⟨by rw [he.out]; rfl, below_join hb0 hb⟩)
    · have hmn2 : m = n := by rw [hm, hL, if_neg h34, HN.out]
      obtain rfl := hmn2
      have h3 : (kd == 3) = false := by simp; omega
      have h4 : (kd == 4) = false := by simp; omega
      clear hL hm h34 hk
      go_enter Try.func33, Try.ntmps33
      go_upto_region 1 with (fail)
      rw [← HW.out]
      go_wp2_with fail
      go_loopw [4, 27] (fun s i wr => ∃ (q sv : Nat), q ≤ m ∧ i = .int .i64 q ∧ s = .int .u64 sv ∧ Hid (sv = Tr.seens (L.take q)) ∧ Below W0.heap.size W0 wr) (fun _ i _ => m - (intOf i).toNat)
      case atStart => exact ⟨0, 0, Nat.zero_le _, rfl, rfl, Lib.hid (by rw [List.take_zero, Tr.seens]), Below.refl _ _⟩
      case round =>
        obtain ⟨q, sv, hq, rfl, rfl, hsv, hb⟩ := hrel
        by_cases hlt : q < m
        · obtain ⟨b, gL⟩ : ∃ b, L[q]? = some b := ⟨L[q]'(by have := HM.out; omega), List.getElem?_eq_getElem _⟩
          have gb := HLA.out q b gL
          have hu := HU.out
          rw [HN.out] at hu
          obtain ⟨e, bb, oo, ss, xx, yy, he, rfl, _, hx⟩ := hu.at_ gb
          obtain ⟨hcell, hps, hks⟩ := hx wr hb
          obtain ⟨A2, c2, rfl, _⟩ := hks.form
          obtain ⟨D2, hps2⟩ := hps
          obtain ⟨A3, c3, rfl, _⟩ := hps2.form
          have hba := below_join hb (below_new wr (Obj.cells #[.int .i64 b.k, .int .i64 b.t, .slice A2 b.ks.length c2, .slice A3 b.cs.length c3, .bool b.h] 26))
          obtain ⟨_, hps3, hks3⟩ := hx _ hba
          have cs := IH.out e he b _ _ _ hks3 hps3
          have hqn : q < m := Nat.lt_of_lt_of_le hlt hmn
          have ht : L.take (q + 1) = L.take q ++ [b] := by rw [List.take_add_one, gL]; rfl
          have hsl : sv < 18446744073709551616 := by rw [hsv.out]; exact Tr.seens_lt _
          have H2 := Lib.hid (u64_or_nat sv (Tr.seen b) hsl (Tr.seen_lt b))
          have H3 := Lib.hid (show sv ||| Tr.seen b = Tr.seens (L.take (q + 1)) by rw [ht, Tr.seens_snoc, hsv.out])
          have HBA := Lib.hid hba
          obtain ⟨x0, x1, x2, x3, x4⟩ := hcell
          have hlt1 : (q : Int) < (m : Int) := by omega
          clear gL gb hx hps2 hks hps3 hks3 ht hsl hu hb hba he q0 q1 q2 q3 q4
          go_wp2_with fail
          refine cs.mono ?_
          rintro e w2 ⟨rfl, hb2⟩
          have hb' := below_join HBA.out hb2
          clear cs x0 x1 x2 x3 x4 hb2
          go_wp2_with fail
          go_roundw
          case rel => exact ⟨q + 1, _, by omega, by go_num, by rw [H2.out], H3, hb'⟩
          case measure => simp [intOf]; omega
        · have hlt1 : ¬ ((q : Int) < (m : Int)) := by omega
          have he : Hid (sv = Tr.seen a) := Lib.hid (by
            rw [hsv.out, List.take_of_length_le (by have := HM.out; omega)]
            exact HEND.out)
          go_wp2_with fail
          go_ret
          exact ⟨by rw [he.out]; rfl, below_join hb0 hb⟩
end Go.Proofs.Ytdcgfhenlddmeaa
