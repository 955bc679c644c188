/-
  THE CONTRACT OF watersmeetref01's Parts.
-/
import Derived.Test.YtjidhdakigpoeaaDoorLawp
namespace Go.Proofs.YtjidhdakigpoeaaDoor
open Go.RowKit
set_option maxHeartbeats 400000

theorem partsOf_at {s n : Nat} (h0 : 1 ≤ n) (h : n < 2 ^ St.pop 64 s) : (partsOf s)[n - 1]? = some (St.pd 64 s n) := by
  have h1 : (partsAll s)[n]? = some (St.pd 64 s n) := by
    unfold partsAll
    rw [List.getElem?_map, List.getElem?_range h]; rfl
  rw [partsAll_eq] at h1
  obtain ⟨m, rfl⟩ : ∃ m, n = m + 1 := ⟨n - 1, by omega⟩
  simpa using h1
theorem partsOf_length (s : Nat) : (partsOf s).length = 2 ^ St.pop 64 s - 1 := by unfold partsOf partsAll; simp
theorem partsOf_snoc {s n : Nat} (h0 : 1 ≤ n) (h : n < 2 ^ St.pop 64 s) : (partsOf s).take n = (partsOf s).take (n - 1) ++ [St.pd 64 s n] := by
  obtain ⟨m, rfl⟩ : ∃ m, n = m + 1 := ⟨n - 1, by omega⟩
  have := partsOf_at h0 h
  rw [List.take_add_one]
  simp only [Nat.add_sub_cancel] at this ⊢
  rw [this]; rfl

theorem Sl.cellAt {w : World} {A : Option Addr} {n c : Nat} {xs : List Value} (h : Sl w (.slice A n c) xs) {j : Nat} {u : Value} (hj : xs[j]? = some u) : ∃ b o p, A = some ⟨b, o, p⟩ ∧ w.cell? ((⟨b, o, p⟩ : Addr).add j) = some u := by
  obtain ⟨A', c', e, _, hx⟩ := h
  injection e with e1
  subst e1
  obtain ⟨b, o, p, hA, _, hc⟩ := hx j u hj
  exact ⟨b, o, p, hA, hc⟩

theorem rparts_any (s : Nat) (w : World) (hs : s < 18446744073709551616) (hc : St.pop 64 s ≤ 10) :
    Calls Tryd.prog 23 #[.int .u64 s] w (OwnNums 22 .u64 w (ints (partsOf s))) := by
  obtain ⟨i0, hi, hz0, hz1, hz2⟩ := info_parts Tryd.rowU64
  have Hlen := Lib.hid (St.memb_length s)
  have HS := Lib.hid hs
  have hpow : 2 ^ St.pop 64 s ≤ 1024 := Nat.pow_le_pow_right (n := 2) (j := 10) (by decide) hc
  have hpow1 : 1 ≤ 2 ^ St.pop 64 s := Nat.one_le_two_pow
  obtain ⟨c, hcc⟩ : ∃ c, c = St.pop 64 s := ⟨_, rfl⟩
  obtain ⟨M, hM⟩ : ∃ M, M = 2 ^ c := ⟨_, rfl⟩
  rw [← hcc, ← hM] at hpow hpow1
  rw [← hcc] at hc Hlen
  have HC := Lib.hid hcc
  have HM := Lib.hid hM
  clear hs hcc hM
  go_enter Tryd.func23, Tryd.ntmps23
  go_wp2_with fail
  refine (rlist_any _ _ (U64.of HS.out)).mono ?_
  intro e w1 h
  rw [Int.toNat_natCast] at h
  obtain ⟨A, cp, rfl, _, _, hsl, hb1⟩ := h.form
  rw [ints_length, Hlen.out] at hsl
  rw [ints_length, Hlen.out]
  clear h
  have HP : ∀ w', Hid (Calls Tryd.prog 26 #[.int .i64 c] w' fun e w'' => e = .returned (.int .u64 M) ∧ w' = w'') := fun w' => Lib.hid (by
    have := power_any c w' (by omega) (by omega)
    rw [HM.out]; simpa using this)
  have HP' := Lib.hid HP
  clear HP
  go_wp2_with fail
  go_loopw [4, 5] (fun v i wr => ∃ n : Nat, 1 ≤ n ∧ n ≤ M ∧ i = .int .i64 n ∧ wr.ownsRow w1.heap.size 22 1 v (ints ((partsOf s).take (n - 1))).length ((ints ((partsOf s).take (n - 1))).map (Value.int .u64)) ∧ Below w1.heap.size w1 wr) (fun _ i _ => M - (intOf i).toNat)
  case atStart =>
    refine ⟨1, by omega, by omega, rfl, ?_, (Below.refl _ w1).alloc (Nat.le_refl _) _⟩
    exact World.ownsRow_made w1 #[] 0 (Nat.le_refl _) (by decide) rfl
  case round =>
    obtain ⟨n, hn1, hn, rfl, hown, hb⟩ := hrel
    by_cases hlt : n < M
    · have HSl := Lib.hid (hsl.below hb (Nat.le_refl _))
      have hnl : Hid (n < 2 ^ St.pop 64 s) := Lib.hid (by rw [← HC.out, ← HM.out]; exact hlt)
      obtain ⟨wo, hwo⟩ : ∃ wo, wo = wr := ⟨_, rfl⟩
      rw [← hwo] at hown hb HSl ⊢
      clear hwo
      go_wp2_with (go_at_call 26; refine ((HP'.out _).out).mono ?_; rintro e w' ⟨rfl, rfl⟩)
      go_loop [6, 7] (fun p k => ∃ q pv : Nat, q ≤ c ∧ k = .int .i64 q ∧ p = .int .u64 pv ∧ Hid (pv = St.pdl ((St.memb s).take q) n)) (fun _ k => c - (intOf k).toNat)
      case atStart => exact ⟨0, 0, by omega, rfl, rfl, Lib.hid (by simp [St.pdl])⟩
      case round =>
        obtain ⟨q, pv, hq, rfl, rfl, hpv⟩ := hrel
        by_cases hqc : q < c
        · obtain ⟨x, gx⟩ : ∃ x, (St.memb s)[q]? = some x := ⟨(St.memb s)[q]'(by rw [Hlen.out]; exact hqc), List.getElem?_eq_getElem _⟩
          have hx64 : x < 64 := St.memb_lt (List.mem_of_getElem? gx)
          obtain ⟨b, o, p, rfl, hcell⟩ := HSl.out.cellAt (j := q) (u := .int .i64 x) (by simp [ints, gx])
          have hsn := St.pdl_snoc (St.memb s) n q x gx
          have htot : St.pdl ((St.memb s).take (q + 1)) n ≤ s := by
            have h1 := St.pdl_take_le (St.memb s) n (q + 1)
            have h2 := St.pdl_memb 64 s n
            have h3 := St.pd_le 64 s n
            have e : St.memb s = St.membTo 64 s := rfl
            rw [← e] at h2
            omega
          clear gx
          cases hbit : n.testBit q
          · have HB := Lib.hid hbit
            have hz : n / 2 ^ q % 2 = 0 := by
              have := Nat.testBit_eq_decide_div_mod_eq (x := n) (i := q)
              rw [hbit] at this
              have := of_decide_eq_false this.symm
              omega
            have hnext : Hid (pv = St.pdl ((St.memb s).take (q + 1)) n) := Lib.hid (by rw [hsn, hz, hpv.out]; simp)
            clear hbit hz hsn htot
            go_wp2_with (go_at_call 8; refine (rhas_nat n q _ _ (by omega) (by omega) HB.out).mono ?_; rintro e w' ⟨rfl, rfl⟩)
            go_round
            case rel => exact ⟨q + 1, pv, by omega, by go_num, rfl, hnext⟩
            case measure => simp [intOf]; omega
          · have HB := Lib.hid hbit
            have hz : n / 2 ^ q % 2 = 1 := by
              have := Nat.testBit_eq_decide_div_mod_eq (x := n) (i := q)
              rw [hbit] at this
              exact of_decide_eq_true this.symm
            obtain ⟨pw, hpw⟩ : ∃ pw, pw = 2 ^ x := ⟨_, rfl⟩
            have hnext : Hid (pv + pw = St.pdl ((St.memb s).take (q + 1)) n) := Lib.hid (by rw [hsn, hz, hpv.out, hpw]; simp)
            have hbd : pv + pw < 18446744073709551616 := by have := hnext.out; have := HS.out; omega
            have HPx : Hid (Calls Tryd.prog 26 #[.int .i64 x] wo fun e w' => e = .returned (.int .u64 pw) ∧ wo = w') := Lib.hid (by
              have := power_any x wo (by omega) (by omega)
              rw [hpw]; simpa using this)
            clear hbit hz hsn htot hpw
            go_wp2_with fail
            refine (rhas_nat n q _ _ (by omega) (by omega) HB.out).mono ?_
            rintro e w' ⟨rfl, rfl⟩
            go_wp2_with fail
            refine HPx.out.mono ?_
            rintro e w' ⟨rfl, rfl⟩
            go_wp2_with fail
            go_round
            case rel => exact ⟨q + 1, pv + pw, by omega, by go_num, by go_num, hnext⟩
            case measure => simp [intOf]; omega
        · have hfin : Hid (pv = St.pd 64 s n) := Lib.hid (by
            rw [hpv.out, List.take_of_length_le (by rw [Hlen.out]; omega)]
            exact St.pdl_memb 64 s n)
          have hlen : (ints ((partsOf s).take (n - 1))).length ≤ 1024 := by rw [ints_length, List.length_take]; omega
          have Hsn := Lib.hid (partsOf_snoc hn1 hnl.out)
          rw [← hfin.out] at Hsn
          go_wp2_with (at_builtin; refine wpList_append_own _ rfl _ _ 34 rfl w1.heap.size 22 i0 (.int .u64 0) 1 8 Tryd.underlying34 hi hz0 hz1 hz2 rfl (by decide) _ _ _ rfl (hown.alloc _) ⟨wo.heap.size, 0, none⟩ 1 1 [.int .u64 pv] rfl rfl ?c1 ?c2 ?c3 ?c4 ?c5 ?_)
          case c2 => simp [Value.oneCell']
          case c3 => unfold maxLen; omega
          case c4 => omega
          case c5 => have := hb.size; simp; omega
          intro v' w2 hown' hgrow _
          have hown2 := own_snoc hown'
          have hb2 := own_grown hb hown hgrow
          clear hown' hgrow
          go_wp2
          go_roundw
          case rel => exact ⟨n + 1, by omega, by omega, by go_num, by rw [show n + 1 - 1 = n from rfl, Hsn.out, ints_snoc]; exact hown2, hb2⟩
          case measure => simp [intOf]; omega
    · have hfull : Hid ((partsOf s).take (n - 1) = partsOf s) := Lib.hid (List.take_of_length_le (by rw [partsOf_length, ← HC.out, ← HM.out]; omega))
      have hbb : Below w.heap.size w wr := hb1.trans (hb.mono hb1.size)
      have hown3 := hown.mono hb1.size
      go_wp2_with (go_at_call 26; refine ((HP'.out _).out).mono ?_; rintro e w' ⟨rfl, rfl⟩)
      go_ret
      rw [hfull.out] at hown3
      exact ⟨_, rfl, hown3, hbb⟩
end Go.Proofs.YtjidhdakigpoeaaDoor
