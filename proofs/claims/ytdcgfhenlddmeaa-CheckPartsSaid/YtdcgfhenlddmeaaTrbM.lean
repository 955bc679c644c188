/-
  THE DOCUMENT's ANSWERS OF LAYER 10: Seen.
-/
import Derived.Test.YtdcgfhenlddmeaaTraM
import Derived.Test.YtdcgfhenlddmeaaGBase
namespace Go.Proofs.Ytdcgfhenlddmeaa
open Go.RowKit Go.Sort
set_option maxHeartbeats 1600000

theorem add_zero9 (a : Addr) : a.add 0 = a := by unfold Addr.add; simp
theorem or_lt9 {x y : Nat} (hx : x < 18446744073709551616) (hy : y < 18446744073709551616) : x ||| y < 18446744073709551616 := Nat.or_lt_two_pow (n := 64) hx hy
namespace Tr
mutual
theorem seen_lt : ∀ a : Tr, seen a < 18446744073709551616
  | .mk k t h cs ks => by
    rw [seen]
    split
    · exact St.ofN_lt _
    · split
      · exact seen1_lt ks
      · exact seens_lt ks
theorem seen1_lt : ∀ l : List Tr, seen1 l < 18446744073709551616
  | [] => by rw [seen1]; decide
  | a :: _ => by rw [seen1]; exact seen_lt a
theorem seens_lt : ∀ l : List Tr, seens l < 18446744073709551616
  | [] => by rw [seens]; decide
  | a :: r => by rw [seens]; exact or_lt9 (seen_lt a) (seens_lt r)
end
theorem seens_one (l : List Tr) : seens (l.take 1) = seen1 l := by
  cases l with
  | nil => rfl
  | cons a r => rw [List.take_succ_cons, List.take_zero, seens, seens, seen1, Nat.or_zero]
end Tr
set_option maxRecDepth 100000 in
theorem r10seen_any (d : Nat) : ∀ (a : Tr) (u v : Value) (w : World), TsAt d w u a.ks →
    Calls Try.prog 16 #[.agg #[.int .i64 a.k, .int .i64 a.t, u, v, .bool a.h]] w
      fun e w' => e = .returned (.int .u64 (Tr.seen a : Nat)) ∧ Below w.heap.size w w' := by
  induction d using Nat.strongRecOn with
  | ind d ih =>
  intro a u v w hu
  obtain ⟨W0, hW0⟩ : ∃ W0, W0 = w.alloc (Obj.cells #[.int .i64 a.k, .int .i64 a.t, u, v, .bool a.h] 26) := ⟨_, rfl⟩
  obtain ⟨l0, p0, hb0⟩ := tr_box (a := a) (u := u) (v := v) hW0
  have HU := Lib.hid (hu.below hb0 (Nat.le_refl _))
  obtain ⟨A, c, rfl, hl⟩ := hu.form
  have HW := Lib.hid hW0
  have IH := Lib.hid ih
  have HP := Lib.hid p0
  have HL := Lib.hid l0.lt
  have hse := Tr.seen_at a
  obtain ⟨n, hn⟩ : ∃ n, n = a.ks.length := ⟨_, rfl⟩
  rw [← hn] at hl HU HP HW ⊢
  have HN := Lib.hid hn
  have HSE := Lib.hid hse
  obtain ⟨q0, q1, q2, q3, q4⟩ := p0
  rw [← hn] at q2
  obtain ⟨kd, hkd⟩ : ∃ kd, kd = a.k := ⟨_, rfl⟩
  obtain ⟨tb, htb⟩ : ∃ tb, tb = a.t := ⟨_, rfl⟩
  rw [← hkd] at q0 HW ⊢
  rw [← htb] at q1 HW ⊢
  have HK := Lib.hid (And.intro hkd htb)
  clear hW0 ih hu l0 hn hse hkd htb
  by_cases hk : kd = 0
  · subst hk
    have hres := Lib.hid (show St.ofN [tb] = Tr.seen a by rw [HSE.out, if_pos HK.out.1.symm, HK.out.2])
    have cs := rof_any _ [tb] _ (Sl.new W0 3 [.int .i64 tb]) (by simp)
    rw [hres.out] at cs
    have hb1 := below_join hb0 (below_new W0 (Obj.cells #[.int .i64 tb] 3))
    clear q2 q3 q4
    go_enter Try.func16, Try.ntmps16
    go_upto_region 1 with (fail)
    rw [← HW.out]
    go_wp2_with fail
    refine cs.mono ?_
    rintro e w1 ⟨rfl, rfl⟩
    clear cs
    go_wp2_with fail
    go_ret
    exact ⟨rfl, hb1⟩
  · have hk2 : (kd == 0) = false := by simpa using hk
    obtain ⟨L, hL⟩ : ∃ L : List Tr, L = if kd = 3 ∨ kd = 4 then a.ks.take 1 else a.ks := ⟨_, rfl⟩
    have HLL := Lib.hid hL
    clear hL
    go_enter Try.func16, Try.ntmps16
    go_upto_region 1 with (fail)
    rw [← HW.out]
    go_wp2_with fail
    clear q0 q1 q2 q3 q4
    go_loopw [3, 4] (fun s i wr => ∃ (q sv : Nat), q ≤ n ∧ i = .int .i64 q ∧ s = .int .u64 sv ∧ Hid (sv = Tr.seens (L.take q)) ∧ Below W0.heap.size W0 wr) (fun _ i _ => n - (intOf i).toNat)
    case atStart => exact ⟨0, 0, Nat.zero_le _, rfl, rfl, Lib.hid (by rw [List.take_zero, Tr.seens]), Below.refl _ _⟩
    case round =>
      obtain ⟨q, sv, hq, rfl, rfl, hsv, hb⟩ := hrel
      have pr := HP.out.below hb (show w.heap.size < W0.heap.size from HL.out)
      have k2 := pr.c2
      have k0 := pr.c0
      rw [← HK.out.1] at k0
      clear pr
      by_cases hlt : q < n
      · obtain ⟨b, gb⟩ : ∃ b, a.ks[q]? = some b := ⟨a.ks[q]'(by have := HN.out; omega), List.getElem?_eq_getElem _⟩
        by_cases hinc : q = 0 ∨ (kd ≠ 3 ∧ kd ≠ 4)
        · have hu := HU.out
          rw [HN.out] at hu
          obtain ⟨e, bb, oo, ss, xx, yy, he, rfl, _, hx⟩ := hu.at_ gb
          obtain ⟨hcell, hps, hks⟩ := hx wr hb
          have cs := IH.out e he b xx yy wr hks
          have ht : L.take (q + 1) = L.take q ++ [b] := by
            rw [HLL.out]
            split
            · next h34 =>
              obtain rfl : q = 0 := hinc.resolve_right fun h => by rcases h34 with h | h <;> omega
              rw [List.take_take]
              cases hks' : a.ks with
              | nil => rw [hks'] at gb; simp at gb
              | cons z r => rw [hks'] at gb; simp at gb; subst gb; rfl
            · rw [List.take_add_one, gb]; rfl
          have hsl : sv < 18446744073709551616 := by rw [hsv.out]; exact Tr.seens_lt _
          have H2 := Lib.hid (u64_or_nat sv (Tr.seen b) hsl (Tr.seen_lt b))
          have H3 := Lib.hid (show sv ||| Tr.seen b = Tr.seens (L.take (q + 1)) by rw [ht, Tr.seens_snoc, hsv.out])
          obtain ⟨A2, c2, rfl, _⟩ := hks.form
          obtain ⟨D2, hps2⟩ := hps
          obtain ⟨A3, c3, rfl, _⟩ := hps2.form
          obtain ⟨q0, q1, q2, q3, q4⟩ := hcell
          clear gb hx hps2 hks ht hsl hu
          rcases Nat.eq_zero_or_pos q with h0 | h0
          · subst h0
            simp only [Nat.zero_mul, add_zero9] at q0 q1 q2 q3 q4
            clear hinc
            go_wp2_with fail
            refine cs.mono ?_
            rintro e w2 ⟨rfl, hb2⟩
            have hb' := below_join hb hb2
            clear cs q0 q1 q2 q3 q4 k2 k0
            go_wp2_with fail
            go_roundw
            case rel => exact ⟨0 + 1, _, by omega, by go_num, by rw [H2.out], H3, hb'⟩
            case measure => simp [intOf]; omega
          · have h1 : ¬ ((q : Int) = 0) := by omega
            have h3 : kd ≠ 3 := (hinc.resolve_left (by omega)).1
            have h4 : kd ≠ 4 := (hinc.resolve_left (by omega)).2
            have h1' : ((q : Int) == 0) = false := by simpa using h1
            have h3' : (kd != 3) = true := by simpa using h3
            have h4' : (kd != 4) = true := by simpa using h4
            clear h1 h3 h4
            clear hinc
            go_wp2_with fail
            refine cs.mono ?_
            rintro e w2 ⟨rfl, hb2⟩
            have hb' := below_join hb hb2
            clear cs q0 q1 q2 q3 q4 k2 k0
            go_wp2_with fail
            go_roundw
            case rel => exact ⟨q + 1, _, by omega, by go_num, by rw [H2.out], H3, hb'⟩
            case measure => simp [intOf]; omega
        · have h1 : ¬ ((q : Int) = 0) := by omega
          have h34 : kd = 3 ∨ kd = 4 := by omega
          have H3 := Lib.hid (show sv = Tr.seens (L.take (q + 1)) by
            rw [hsv.out, HLL.out, if_pos h34, List.take_take, List.take_take, show min q 1 = 1 by omega, show min (q + 1) 1 = 1 by omega])
          clear gb hinc
          rcases h34 with h3 | h3
          all_goals
            have HK3 := Lib.hid h3
            rw [h3] at k0
            clear h3
            go_wp2_with fail
            go_roundw
            case rel => exact ⟨q + 1, sv, by omega, by go_num, rfl, H3, hb⟩
            case measure => simp [intOf]; omega
      · have he : Hid (sv = Tr.seen a) := Lib.hid (by
          rw [hsv.out, HSE.out, if_neg (by rw [← HK.out.1]; exact hk), HLL.out, ← HK.out.1]
          have hn := HN.out
          by_cases h34 : kd = 3 ∨ kd = 4
          · rw [if_pos h34, if_pos h34, List.take_of_length_le (by rw [List.length_take]; omega), Tr.seens_one]
          · rw [if_neg h34, if_neg h34, List.take_of_length_le (by omega)])
        go_wp2_with fail
        go_ret
        exact ⟨by rw [he.out]; rfl, below_join hb0 hb⟩
end Go.Proofs.Ytdcgfhenlddmeaa
