/-
  THE READER OF TREES: an operator's sign, a leaf.
-/
import Derived.Test.YteimbdklakemaaaGreatDoorShrM
import Derived.Test.YteimbdklakemaaaGreatDoorTxgM
namespace Go.Proofs.YteimbdklakemaaaGreatDoor
open Go.RowKit Go.Sort
set_option maxHeartbeats 12800000

theorem kind_hit {l : List Int} {s : Sh.St} {k : Nat} (h1 : 1 ≤ k) (h4 : k ≤ 4) (h : Sh.nx l s = Sh.sgn k) : Sh.kind l s = ((k : Int), Sh.on s) := by
  unfold Sh.kind
  rw [h, (Sh.sgn_facts (k := (k : Int)) (by omega) (by omega)).1, if_neg (by omega)]
theorem kind_miss {l : List Int} {s : Sh.St} (h : ∀ j : Nat, 1 ≤ j → j < 5 → Sh.nx l s ≠ Sh.sgn j) : Sh.kind l s = (0, Sh.fail s.i 1 s) := by
  unfold Sh.kind
  rcases Sh.kindOf_cases (Sh.nx l s) with h0 | ⟨h1, h2, _, h4⟩
  · rw [if_pos h0]
  · refine absurd ?_ (h (Sh.kindOf (Sh.nx l s)).toNat (by omega) (by omega))
    rw [show (((Sh.kindOf (Sh.nx l s)).toNat : Nat) : Int) = Sh.kindOf (Sh.nx l s) by omega, h4]
theorem skip_off {l : List Int} {c : Int} {s : Sh.St} (h : Sh.nx l s ≠ c) : Sh.skip l c s = s := by unfold Sh.skip; rw [if_neg h]
theorem skip_on {l : List Int} {c : Int} {s : Sh.St} (h : Sh.nx l s = c) : Sh.skip l c s = Sh.on s := by unfold Sh.skip; rw [if_pos h]
set_option maxRecDepth 100000 in
theorem skind_any {w0 : World} {R b c : Nat} {l : List Int} (hs : Src w0 R b c l) (hg : Sgn w0) (s : Sh.St) (w : World) (h : SRd w0 w R b c l.length s) (hi : s.i ≤ l.length) (K : Int) (s' : Sh.St) (hS : (K, s') = Sh.kind l s) :
    Calls Tryz.prog 39 #[.pointer (some ⟨R, 0, none⟩)] w fun E w' => E = .returned (.int .i64 K) ∧ SRd w0 w' R b c l.length s' ∧ Gw R w w' := by
  have Hs := Lib.hid hs
  have Hg := Lib.hid hg
  have Hr := Lib.hid h
  have HS := Lib.hid hS
  clear hs hg h hS
  go_enter Tryz.func39, Tryz.ntmps39
  go_wp2_with (fail)
  go_loopw [3] (fun v wr => ∃ k : Nat, v = .int .i64 k ∧ 1 ≤ k ∧ k ≤ 5 ∧ Hid (∀ j : Nat, 1 ≤ j → j < k → Sh.nx l s ≠ Sh.sgn j) ∧ SRd w0 wr R b c l.length s ∧ Gw R w wr) (fun v _ => 6 - (intOf v).toNat)
  case atStart => exact ⟨1, rfl, by decide, by decide, Lib.hid (by intro j h1 h2; omega), Hr.out, Gw.refl _⟩
  case round =>
    obtain ⟨k, rfl, hk1, hk5, hno, hr, hgw⟩ := hrel
    by_cases hk : k ≤ 4
    · have hle : ((k : Int) ≤ 4) := by omega
      have hsg := (hr.sgn Hs.out Hg.out) k hk
      obtain ⟨B, hB⟩ : ∃ B, B = decide (Sh.nx l s = Sh.sgn k) := ⟨_, rfl⟩
      obtain ⟨s1, hs1⟩ : ∃ s1, s1 = Sh.skip l (Sh.sgn k) s := ⟨_, rfl⟩
      have cs := sskip_any Hs.out s (Sh.sgn k) wr hr hi B hB s1 hs1
      have Hr1 := Lib.hid hr
      have Hg1 := Lib.hid hgw
      have HB := Lib.hid hB
      have HS1 := Lib.hid hs1
      clear hr hgw hB hs1
      cases B
      · have hn : Sh.nx l s ≠ Sh.sgn k := by simpa using HB.out.symm
        obtain rfl : s1 = s := by rw [HS1.out]; exact skip_off hn
        have HN := Lib.hid hn
        have hw := wrap_small12 (n := k) (by omega)
        clear hn HS1
        go_wp2_with (fail)
        refine cs.mono ?_
        rintro E w1 ⟨rfl, h1, hg1⟩
        clear cs hsg
        go_wp2_with (fail)
        go_roundw
        case rel =>
          refine ⟨k + 1, by first | rfl | simp, by omega, by omega, Lib.hid ?_, h1, Hg1.out.trans hg1⟩
          intro j h1 h2
          rcases Nat.lt_or_ge j k with h3 | h3
          · exact hno.out j h1 h3
          · obtain rfl : j = k := by omega
            exact HN.out
        case measure => simp [intOf]; omega
      · have hn : Sh.nx l s = Sh.sgn k := by simpa using HB.out.symm
        have hfin := HS.out
        rw [kind_hit hk1 hk hn] at hfin
        obtain ⟨rfl, rfl⟩ : K = (k : Int) ∧ s' = Sh.on s := by cases hfin; exact ⟨rfl, rfl⟩
        obtain rfl : s1 = Sh.on s := by rw [HS1.out]; exact skip_on hn
        clear hn HS1 hfin
        go_wp2_with (fail)
        refine cs.mono ?_
        rintro E w1 ⟨rfl, h1, hg1⟩
        clear cs hsg
        go_wp2_with (fail)
        go_ret
        exact ⟨rfl, h1, Hg1.out.trans hg1⟩
    · obtain rfl : k = 5 := by omega
      have hfin := HS.out
      rw [kind_miss hno.out] at hfin
      obtain ⟨rfl, hs2⟩ : K = 0 ∧ s' = Sh.fail s.i 1 s := by cases hfin; exact ⟨rfl, rfl⟩
      have x1 := hr.lies.cell (i := 1) rfl
      have cf := sfail_any s s.i 1 wr hr s' hs2
      have Hg1 := Lib.hid hgw
      clear hr hgw hs2 hfin
      go_wp2_with (fail)
      refine cf.mono ?_
      rintro E w1 ⟨rfl, h1, hg1⟩
      clear cf x1
      go_wp2_with (fail)
      go_ret
      exact ⟨rfl, h1, Hg1.out.trans hg1⟩
theorem wrap64_id {n : Int} (h0 : -9223372036854775808 ≤ n) (h1 : n ≤ 9223372036854775807) : wrap64 n = n := by unfold wrap64; omega
theorem leaf_wrap {m : Nat} {V : Int} (hm : m ≤ 64) (h0 : 48 ≤ V) (h1 : V ≤ 57) : wrap64 ((m : Int) * 10 + (V - 48)) = (m : Int) * 10 + (V - 48) := wrap64_id (by omega) (by omega)
theorem ten_wrap {m : Nat} (hm : m ≤ 64) : wrap64 ((m : Int) * 10) = (m : Int) * 10 := wrap64_id (by omega) (by omega)
theorem Gw.put {w w1 : World} {R B : Nat} (h : Gw R w w1) (hB : w.heap.size ≤ B) (i : Nat) (v : Value) : Gw R w (w1.setCell ⟨B, i, none⟩ v) :=
  ⟨h.os, h.tape, h.output, by simpa [World.setCell] using h.size, fun k hk hne => (Below.heap_setCell _ _ _ _ (by rintro rfl; exact absurd hk (Nat.not_lt.2 hB))).trans (h.block k hk hne)⟩
theorem SRd.put {w0 w : World} {R b c n B : Nat} {s : Sh.St} (h : SRd w0 w R b c n s) (hB : R < B) (i : Nat) (v : Value) : SRd w0 (w.setCell ⟨B, i, none⟩ v) R b c n s :=
  ⟨(Below.heap_setCell _ _ _ _ (by rintro rfl; exact absurd hB (Nat.lt_irrefl _))).trans h.lies, h.base.setCell (Nat.le_of_lt hB) _⟩
theorem place_wrap {i k n : Nat} (h : i + k ≤ n) (hn : n ≤ 1000000) : wrap64 ((i : Int) + (k : Int) + 1) = (i : Int) + (k : Int) + 1 := wrap64_id (by omega) (by omega)
theorem leaf_step {m : Nat} {V : Int} (h0 : 48 ≤ V) : min ((m : Int) * 10 + (V - 48)) 64 = ((min (10 * m + (V - 48).toNat) 64 : Nat) : Int) := by omega
theorem wrap32_id {n : Int} (h0 : -2147483648 ≤ n) (h1 : n ≤ 2147483647) : wrap32 n = n := by unfold wrap32; omega
theorem digs_at {l : List Int} {s : Sh.St} {k : Nat} (h : k < (Sh.digs l s).length) : s.e = 0 ∧ ∃ c, (Sh.digs l s)[k]? = some c ∧ Sh.nx l ⟨s.i + k, s.v, s.e⟩ = c ∧ 48 ≤ c ∧ c ≤ 57 ∧ Tx.isDig c = true := by
  unfold Sh.digs at h ⊢
  by_cases he : s.e = 0
  · rw [if_pos he] at h ⊢
    obtain ⟨q1, q2⟩ := Tx.run_all l s.i
    refine ⟨he, _, List.getElem?_eq_getElem h, ?_⟩
    have hm := List.all_eq_true.1 q1 _ (List.getElem_mem h)
    have hc : Sh.nx l ⟨s.i + k, s.v, s.e⟩ = ((l.drop s.i).take (Tx.run l s.i))[k] := by
      unfold Sh.nx Tx.at_
      rw [if_pos he]
      dsimp only
      have hlt : s.i + k < l.length := by
        rw [List.length_take, List.length_drop] at h
        omega
      rw [List.getD_eq_getElem?_getD, List.getElem?_eq_getElem hlt]
      simp
    refine ⟨hc, ?_, ?_, hm⟩
    · unfold Tx.isDig at hm; simp at hm; simp; omega
    · unfold Tx.isDig at hm; simp at hm; simp; omega
  · rw [if_neg he] at h; simp at h
theorem digs_end (l : List Int) (s : Sh.St) : Tx.isDig (Sh.nx l ⟨s.i + (Sh.digs l s).length, s.v, s.e⟩) = false := by
  unfold Sh.digs
  by_cases he : s.e = 0
  · rw [if_pos he, (Tx.run_all l s.i).2]
    unfold Sh.nx
    rw [if_pos he]
    exact run_stop l s.i
  · rw [if_neg he]
    unfold Sh.nx
    rw [if_neg he]
    rfl
theorem capv_take {ds : List Int} {k : Nat} {c : Int} (h : ds[k]? = some c) : Sh.capv 0 (ds.take (k + 1)) = min (10 * Sh.capv 0 (ds.take k) + (c - 48).toNat) 64 := by
  unfold Sh.capv
  rw [List.take_add_one, h]
  simp
set_option maxRecDepth 100000 in
theorem sleaf_any {w0 : World} {R b c : Nat} {l : List Int} (hs : Src w0 R b c l) (s : Sh.St) (w : World) (h : SRd w0 w R b c l.length s) (hk : Sh.Ok l s) (n : Nat) (s' : Sh.St) (hS : (Sh.leafT n, s') = Sh.leaf l s) :
    Calls Tryz.prog 28 #[.pointer (some ⟨R, 0, none⟩)] w fun E w' => E = .returned (.agg #[.int .i64 0, .int .i64 n, .slice none 0 0, .slice none 0 0, .bool false]) ∧ SRd w0 w' R b c l.length s' ∧ Gw R w w' := by
  obtain ⟨b0, hb0⟩ : ∃ b0, b0 = Sh.begin_ l s := ⟨_, rfl⟩
  have hkb : Sh.Ok l b0 := by rw [hb0]; exact hk.begin
  obtain ⟨o0, ho0⟩ : ∃ o0, o0 = Obj.cells #[.int .i64 0, .int .i64 0, .slice none 0 0, .slice none 0 0, .bool false] 25 := ⟨_, rfl⟩
  have hl0 : Lies (w.alloc o0) w.heap.size 25 [.int .i64 0, .int .i64 0, .slice none 0 0, .slice none 0 0, .bool false] := by rw [ho0]; exact Lies.new _ _ _
  have cb := sbegin_any hs s (w.alloc o0) (h.alloc o0) hk b0 hb0
  have hRw : R < w.heap.size := h.lt
  have hlen := hs.len
  have hds : (Sh.leafT n, s') = (Sh.leafT (Sh.capv 0 (Sh.digs l b0)), if (Sh.digs l b0).length = 0 then Sh.fail b0.i 1 ⟨b0.i + (Sh.digs l b0).length, b0.v, b0.e⟩ else if 1 < (Sh.digs l b0).length ∧ Tx.at_ l b0.i = 48 then Sh.fail (b0.i + 1) 1 ⟨b0.i + (Sh.digs l b0).length, b0.v, b0.e⟩ else if Sh.capv 0 (Sh.digs l b0) = 64 then Sh.fail b0.i 3 ⟨b0.i + (Sh.digs l b0).length, b0.v, b0.e⟩ else ⟨b0.i + (Sh.digs l b0).length, b0.v, b0.e⟩) := by rw [hS, Sh.leaf, hb0]
  have hle := Sh.digs_le (l := l) hkb.1
  have hat := fun k hk => digs_at (l := l) (s := b0) (k := k) hk
  have hen := digs_end l b0
  obtain ⟨ds, hdd⟩ : ∃ ds, ds = Sh.digs l b0 := ⟨_, rfl⟩
  rw [← hdd] at hds hle hat hen
  obtain ⟨N, hN⟩ : ∃ N, N = ds.length := ⟨_, rfl⟩
  rw [← hN] at hds hle hat hen
  have HAT := Lib.hid hat
  have HEN := Lib.hid hen
  have HFIN := Lib.hid hds
  have HNN := Lib.hid hN
  have HO := Lib.hid ho0
  have HL0 := Lib.hid hl0
  have Hs := Lib.hid hs
  clear hdd hds hat hen hN hb0 hS h hk hs ho0 hl0
  go_enter Tryz.func28, Tryz.ntmps28
  go_wp2_with (fail)
  rw [← HO.out]
  refine cb.mono ?_
  rintro E w1 ⟨rfl, h1, hg1⟩
  have x1 := h1.lies.cell (i := 1) rfl
  have Hr := Lib.hid h1
  have Hg := Lib.hid hg1
  clear cb h1 hg1
  obtain ⟨wA, hwA⟩ : ∃ wA, wA = w.alloc o0 := ⟨_, rfl⟩
  rw [← hwA] at Hg
  go_wp2_with (fail)
  go_loopw [4] (fun v wr => ∃ k : Nat, k ≤ N ∧ v = .int .i64 (Sh.capv 0 (ds.take k)) ∧ SRd w0 wr R b c l.length ⟨b0.i + k, b0.v, b0.e⟩ ∧ Gw R wA wr) (fun _ wr => b0.i + N - (intOf ((wr.cell? ⟨R, 1, none⟩).getD undef)).toNat)
  case atStart => exact ⟨0, Nat.zero_le _, rfl, Hr.out, Hg.out⟩
  case round =>
    obtain ⟨k, hk, rfl, hr, hg⟩ := hrel
    clear x1
    have hik : b0.i + k ≤ l.length := by omega
    have hw := place_wrap hik hlen
    have HMU := Lib.hid (show (intOf ((wr.cell? ⟨R, 1, none⟩).getD undef)).toNat = b0.i + k by rw [hr.lies.cell (i := 1) rfl]; rfl)
    obtain ⟨V, hV⟩ : ∃ V, V = Sh.nx l ⟨b0.i + k, b0.v, b0.e⟩ := ⟨_, rfl⟩
    have cn := fun W (hb : Below wr.heap.size wr W) => snext_any Hs.out ⟨b0.i + k, b0.v, b0.e⟩ W (hr.below hb hr.lt) hik V hV
    have cd := fun w => sdigit_any V w
    obtain ⟨m, hm⟩ : ∃ m, m = Sh.capv 0 (ds.take k) := ⟨_, rfl⟩
    have hm64 : m ≤ 64 := by rw [hm]; exact Sh.capv_le _
    rw [← hm]
    have HM := Lib.hid hm
    have HV := Lib.hid hV
    have Hr1 := Lib.hid hr
    have Hg1 := Lib.hid hg
    clear hr hg hV hm
    by_cases hlt : k < N
    · obtain ⟨_, u, hu1, hu2, hu3, hu4, hu5⟩ := HAT.out k hlt
      obtain rfl : V = u := by rw [HV.out]; exact hu2
      rw [hu5] at cd
      have HU := Lib.hid hu1
      have hw4 := leaf_wrap hm64 hu3 hu4
      have hw6 := ten_wrap hm64
      have hw3 : wrap32 (V - 48) = V - 48 := wrap32_id (by omega) (by omega)
      have hw5 : wrap64 (V - 48) = V - 48 := wrap64_id (by omega) (by omega)
      have HQ := Lib.hid (And.intro hk (And.intro hlt hu3))
      clear hu1 hu2 hu5 hm64 hu3 hu4 hk hlt hik hle hlen hkb hRw
      go_wp2_with (fail)
      refine (cn _ (Below.refl _ _)).mono ?_
      rintro E w1 ⟨rfl, hb1⟩
      go_wp2_with (fail)
      refine (cd _).mono ?_
      rintro E w2 ⟨rfl, rfl⟩
      go_wp2_with (fail)
      refine (cn _ hb1).mono ?_
      rintro E w2 ⟨rfl, hb2⟩
      have hb12 := below_join hb1 hb2
      have h2 := Hr1.out.below hb12 Hr1.out.lt
      have x1 := h2.lies.cell (i := 1) rfl
      have f1 := h2.lies.free 1
      have h3 := h2.at_ (b0.i + k + 1)
      have g3 := (Hg1.out.trans (Gw.of (R := R) hb12)).trans (Gw.set (R := R) w2 1 (.int .i64 ((b0.i + k + 1 : Nat) : Int)))
      have ec : ((b0.i + k + 1 : Nat) : Int) = (b0.i : Int) + (k : Int) + 1 := by omega
      rw [ec] at h3 g3
      dsimp only at x1
      have ec2 : ((b0.i + k : Nat) : Int) = (b0.i : Int) + (k : Int) := by omega
      rw [ec2] at x1
      have H3 := Lib.hid h3
      have G3 := Lib.hid g3
      clear cn cd hb1 hb2 hb12 h2 h3 g3 ec ec2
      go_wp2_with (fail)
      generalize w2.setCell ⟨R, 1, none⟩ (.int .i64 ((b0.i : Int) + (k : Int) + 1)) = w3 at H3 G3 ⊢
      refine ⟨⟨k + 1, HQ.out.2.1, ?_, H3.out, G3.out⟩, ?_⟩
      · rw [capv_take HU.out, ← HM.out, leaf_step HQ.out.2.2]
      · have hmu2 : (intOf ((w3.cell? ⟨R, 1, none⟩).getD undef)).toNat = b0.i + k + 1 := by rw [H3.out.lies.cell (i := 1) rfl]; rfl
        rw [hmu2, HMU.out]
        have := HQ.out.2.1
        clear hw hw3 hw4 hw5 hw6
        omega
    · obtain rfl : k = N := by omega
      have hnd := HEN.out
      rw [← HV.out] at hnd
      rw [hnd] at cd
      have hfull : ds.take k = ds := by rw [HNN.out]; exact List.take_length
      have hm2 : m = Sh.capv 0 ds := by rw [HM.out, hfull]
      have hfin := HFIN.out
      rw [← hm2] at hfin
      obtain ⟨rfl, hs2⟩ : n = m ∧ s' = if k = 0 then Sh.fail b0.i 1 ⟨b0.i + k, b0.v, b0.e⟩ else if 1 < k ∧ Tx.at_ l b0.i = 48 then Sh.fail (b0.i + 1) 1 ⟨b0.i + k, b0.v, b0.e⟩ else if m = 64 then Sh.fail b0.i 3 ⟨b0.i + k, b0.v, b0.e⟩ else ⟨b0.i + k, b0.v, b0.e⟩ := by
        have h1 := congrArg Prod.fst hfin
        have h2 := congrArg Prod.snd hfin
        refine ⟨?_, h2⟩
        have h3 := congrArg Tr.t h1
        have h4 : (n : Int) = (m : Int) := h3
        omega
      have HS2 := Lib.hid hs2
      have HL := Lib.hid (show Gw R wA wr → Lies wr w.heap.size 25 [.int .i64 0, .int .i64 0, .slice none 0 0, .slice none 0 0, .bool false] from fun g => g.lies (hwA ▸ HL0.out) (by omega))
      have HW := Lib.hid (show Gw R w wA by rw [hwA]; exact Gw.of (below_new w o0))
      have hw7 : wrap64 ((b0.i : Int) + 1) = (b0.i : Int) + 1 := by have := wrap_small12 (n := b0.i) (by omega); rw [this]; omega
      have ec2 : ((b0.i + k : Nat) : Int) = (b0.i : Int) + (k : Int) := by omega
      have h0l : (b0.i : Nat) + k ≤ l.length := hik
      have Hen := Lib.hid (And.intro hik hm64)
      clear hnd hfull hm2 hfin hs2 hw hik hle hkb hm64
      go_wp2_with (fail)
      refine (cn _ (Below.refl _ _)).mono ?_
      rintro E w1 ⟨rfl, hb1⟩
      go_wp2_with (fail)
      refine (cd _).mono ?_
      rintro E w2 ⟨rfl, rfl⟩
      have h1 := Hr1.out.below hb1 Hr1.out.lt
      have l1 := (HL.out Hg1.out).below hb1 (HL.out Hg1.out).lt
      have G1 := Lib.hid (HW.out.trans (Hg1.out.trans (Gw.of hb1)))
      have x0 := h1.lies.cell (i := 0) rfl
      have x1 := h1.lies.cell (i := 1) rfl
      dsimp only at x1
      rw [ec2] at x1
      have H1 := Lib.hid h1
      have L1 := Lib.hid l1
      clear cn cd hb1 h1 l1
      by_cases hN0 : k = 0
      · have e1 : decide ((b0.i : Int) + (k : Int) = (b0.i : Int)) = true := by simp [hN0]
        have e2 : (((b0.i : Int) + (k : Int)) == (b0.i : Int)) = true := by simp [hN0]
        have cf := sfail_any ⟨b0.i + k, b0.v, b0.e⟩ b0.i 1 w1 H1.out s' (by rw [HS2.out, if_pos hN0])
        clear hN0 ec2 h0l hlt
        go_wp2_with (fail)
        refine cf.mono ?_
        rintro E w2 ⟨rfl, h2, hg2⟩
        have l2 := hg2.lies L1.out (by omega)
        have g2 := G1.out.trans hg2
        clear cf x0 x1 hg2
        have y0 := l2.cell (i := 0) rfl
        have f0 := l2.free 0
        have y1 := l2.cell (i := 1) rfl
        have f1 := l2.free 1
        have y2 := l2.cell (i := 2) rfl
        have f2 := l2.free 2
        have y3 := l2.cell (i := 3) rfl
        have f3 := l2.free 3
        have y4 := l2.cell (i := 4) rfl
        have f4 := l2.free 4
        have LF : Lies _ w.heap.size _ [.int .i64 0, .int .i64 n, .slice none 0 0, .slice none 0 0, .bool false] := (((((l2.set 0 (.int .i64 0)).set 1 (.int .i64 n)).set 2 (.slice none 0 0)).set 3 (.slice none 0 0)).set 4 (.bool false))
        have k0 := LF.cell (i := 0) rfl
        have k1 := LF.cell (i := 1) rfl
        have k2 := LF.cell (i := 2) rfl
        have k3 := LF.cell (i := 3) rfl
        have k4 := LF.cell (i := 4) rfl
        have HF := Lib.hid (((((h2.put hRw 0 (.int .i64 0)).put hRw 1 (.int .i64 n)).put hRw 2 (.slice none 0 0)).put hRw 3 (.slice none 0 0)).put hRw 4 (.bool false))
        have HGF := Lib.hid (((((g2.put (Nat.le_refl _) 0 (.int .i64 0)).put (Nat.le_refl _) 1 (.int .i64 n)).put (Nat.le_refl _) 2 (.slice none 0 0)).put (Nat.le_refl _) 3 (.slice none 0 0)).put (Nat.le_refl _) 4 (.bool false))
        clear LF
        go_wp2_with (fail)
        exact bodyPost_ret (v := .agg #[.int .i64 0, .int .i64 n, .slice none 0 0, .slice none 0 0, .bool false]) (by simp [results, Tryz.results28, go_sem, k0, k1, k2, k3, k4]) rfl ⟨rfl, HF.out, HGF.out⟩
      have e1 : decide ((b0.i : Int) + (k : Int) = (b0.i : Int)) = false := by simp; omega
      have e2 : (((b0.i : Int) + (k : Int)) == (b0.i : Int)) = false := by simp; omega
      have hlt0 : b0.i < l.length := by omega
      have hc0 := H1.out.rune Hs.out (shat_some hlt0)
      obtain ⟨z, hz⟩ : ∃ z, z = Tx.at_ l b0.i := ⟨_, rfl⟩
      rw [← hz] at hc0
      have e3 : ¬ (b0.i : Int) < 0 := by omega
      have e4 : (b0.i : Int) < (l.length : Int) := by omega
      by_cases h2d : 1 < k
      · have e5 : decide ((b0.i : Int) + 1 < (b0.i : Int) + (k : Int)) = true := by simp; omega
        have e6 : (b0.i : Int) + 1 < (b0.i : Int) + (k : Int) := by omega
        by_cases hz48 : z = 48
        · subst hz48
          have cf := sfail_any ⟨b0.i + k, b0.v, b0.e⟩ (b0.i + 1) 1 w1 H1.out s' (by rw [HS2.out, if_neg hN0, if_pos ⟨h2d, hz.symm⟩])
          have ec3 : ((b0.i + 1 : Nat) : Int) = (b0.i : Int) + 1 := by omega
          rw [ec3] at cf
          clear hN0 ec2 ec3 h0l hlt hlt0 h2d hz
          go_wp2_with (fail)
          refine cf.mono ?_
          rintro E w2 ⟨rfl, h2, hg2⟩
          have l2 := hg2.lies L1.out (by omega)
          have g2 := G1.out.trans hg2
          clear cf x0 x1 hg2
          have y0 := l2.cell (i := 0) rfl
          have f0 := l2.free 0
          have y1 := l2.cell (i := 1) rfl
          have f1 := l2.free 1
          have y2 := l2.cell (i := 2) rfl
          have f2 := l2.free 2
          have y3 := l2.cell (i := 3) rfl
          have f3 := l2.free 3
          have y4 := l2.cell (i := 4) rfl
          have f4 := l2.free 4
          have LF : Lies _ w.heap.size _ [.int .i64 0, .int .i64 n, .slice none 0 0, .slice none 0 0, .bool false] := (((((l2.set 0 (.int .i64 0)).set 1 (.int .i64 n)).set 2 (.slice none 0 0)).set 3 (.slice none 0 0)).set 4 (.bool false))
          have k0 := LF.cell (i := 0) rfl
          have k1 := LF.cell (i := 1) rfl
          have k2 := LF.cell (i := 2) rfl
          have k3 := LF.cell (i := 3) rfl
          have k4 := LF.cell (i := 4) rfl
          have HF := Lib.hid (((((h2.put hRw 0 (.int .i64 0)).put hRw 1 (.int .i64 n)).put hRw 2 (.slice none 0 0)).put hRw 3 (.slice none 0 0)).put hRw 4 (.bool false))
          have HGF := Lib.hid (((((g2.put (Nat.le_refl _) 0 (.int .i64 0)).put (Nat.le_refl _) 1 (.int .i64 n)).put (Nat.le_refl _) 2 (.slice none 0 0)).put (Nat.le_refl _) 3 (.slice none 0 0)).put (Nat.le_refl _) 4 (.bool false))
          clear LF
          go_wp2_with (fail)
          exact bodyPost_ret (v := .agg #[.int .i64 0, .int .i64 n, .slice none 0 0, .slice none 0 0, .bool false]) (by simp [results, Tryz.results28, go_sem, k0, k1, k2, k3, k4]) rfl ⟨rfl, HF.out, HGF.out⟩
        · have e7 : decide (z = 48) = false := decide_eq_false hz48
          have e8 : (z == 48) = false := by simpa using hz48
          have hnot : ¬ (1 < k ∧ Tx.at_ l b0.i = 48) := fun g => hz48 (hz.trans g.2)
          by_cases h64 : n = 64
          · have e9 : decide ((n : Int) = 64) = true := by simp; omega
            have e10 : ((n : Int) == 64) = true := by simp; omega
            have cf := sfail_any ⟨b0.i + k, b0.v, b0.e⟩ b0.i 3 w1 H1.out s' (by rw [HS2.out, if_neg hN0, if_neg hnot, if_pos h64])
            clear hN0 ec2 h0l hlt hlt0 h2d hz hz48 hnot h64
            go_wp2_with (fail)
            refine cf.mono ?_
            rintro E w2 ⟨rfl, h2, hg2⟩
            have l2 := hg2.lies L1.out (by omega)
            have g2 := G1.out.trans hg2
            clear cf x0 x1 hg2
            have y0 := l2.cell (i := 0) rfl
            have f0 := l2.free 0
            have y1 := l2.cell (i := 1) rfl
            have f1 := l2.free 1
            have y2 := l2.cell (i := 2) rfl
            have f2 := l2.free 2
            have y3 := l2.cell (i := 3) rfl
            have f3 := l2.free 3
            have y4 := l2.cell (i := 4) rfl
            have f4 := l2.free 4
            have LF : Lies _ w.heap.size _ [.int .i64 0, .int .i64 n, .slice none 0 0, .slice none 0 0, .bool false] := (((((l2.set 0 (.int .i64 0)).set 1 (.int .i64 n)).set 2 (.slice none 0 0)).set 3 (.slice none 0 0)).set 4 (.bool false))
            have k0 := LF.cell (i := 0) rfl
            have k1 := LF.cell (i := 1) rfl
            have k2 := LF.cell (i := 2) rfl
            have k3 := LF.cell (i := 3) rfl
            have k4 := LF.cell (i := 4) rfl
            have HF := Lib.hid (((((h2.put hRw 0 (.int .i64 0)).put hRw 1 (.int .i64 n)).put hRw 2 (.slice none 0 0)).put hRw 3 (.slice none 0 0)).put hRw 4 (.bool false))
            have HGF := Lib.hid (((((g2.put (Nat.le_refl _) 0 (.int .i64 0)).put (Nat.le_refl _) 1 (.int .i64 n)).put (Nat.le_refl _) 2 (.slice none 0 0)).put (Nat.le_refl _) 3 (.slice none 0 0)).put (Nat.le_refl _) 4 (.bool false))
            clear LF
            go_wp2_with (fail)
            exact bodyPost_ret (v := .agg #[.int .i64 0, .int .i64 n, .slice none 0 0, .slice none 0 0, .bool false]) (by simp [results, Tryz.results28, go_sem, k0, k1, k2, k3, k4]) rfl ⟨rfl, HF.out, HGF.out⟩
          · have e9 : decide ((n : Int) = 64) = false := by simp; omega
            have e10 : ((n : Int) == 64) = false := by simp; omega
            have hs3 := HS2.out
            rw [if_neg hN0, if_neg hnot, if_neg h64] at hs3
            subst hs3
            clear hN0 ec2 h0l hlt hlt0 h2d hz hz48 hnot h64
            have h2 := H1.out
            have g2 := G1.out
            have l2 := L1.out
            have y0 := l2.cell (i := 0) rfl
            have f0 := l2.free 0
            have y1 := l2.cell (i := 1) rfl
            have f1 := l2.free 1
            have y2 := l2.cell (i := 2) rfl
            have f2 := l2.free 2
            have y3 := l2.cell (i := 3) rfl
            have f3 := l2.free 3
            have y4 := l2.cell (i := 4) rfl
            have f4 := l2.free 4
            have LF : Lies _ w.heap.size _ [.int .i64 0, .int .i64 n, .slice none 0 0, .slice none 0 0, .bool false] := (((((l2.set 0 (.int .i64 0)).set 1 (.int .i64 n)).set 2 (.slice none 0 0)).set 3 (.slice none 0 0)).set 4 (.bool false))
            have k0 := LF.cell (i := 0) rfl
            have k1 := LF.cell (i := 1) rfl
            have k2 := LF.cell (i := 2) rfl
            have k3 := LF.cell (i := 3) rfl
            have k4 := LF.cell (i := 4) rfl
            have HF := Lib.hid (((((h2.put hRw 0 (.int .i64 0)).put hRw 1 (.int .i64 n)).put hRw 2 (.slice none 0 0)).put hRw 3 (.slice none 0 0)).put hRw 4 (.bool false))
            have HGF := Lib.hid (((((g2.put (Nat.le_refl _) 0 (.int .i64 0)).put (Nat.le_refl _) 1 (.int .i64 n)).put (Nat.le_refl _) 2 (.slice none 0 0)).put (Nat.le_refl _) 3 (.slice none 0 0)).put (Nat.le_refl _) 4 (.bool false))
            clear LF
            go_wp2_with (fail)
            exact bodyPost_ret (v := .agg #[.int .i64 0, .int .i64 n, .slice none 0 0, .slice none 0 0, .bool false]) (by simp [results, Tryz.results28, go_sem, k0, k1, k2, k3, k4]) rfl ⟨rfl, HF.out, HGF.out⟩
      · have e5 : decide ((b0.i : Int) + 1 < (b0.i : Int) + (k : Int)) = false := by simp; omega
        have e6 : ¬ (b0.i : Int) + 1 < (b0.i : Int) + (k : Int) := by omega
        have hnot : ¬ (1 < k ∧ Tx.at_ l b0.i = 48) := fun g => h2d g.1
        by_cases h64 : n = 64
        · have e9 : decide ((n : Int) = 64) = true := by simp; omega
          have e10 : ((n : Int) == 64) = true := by simp; omega
          have cf := sfail_any ⟨b0.i + k, b0.v, b0.e⟩ b0.i 3 w1 H1.out s' (by rw [HS2.out, if_neg hN0, if_neg hnot, if_pos h64])
          clear hN0 ec2 h0l hlt hlt0 h2d hz hnot h64
          go_wp2_with (fail)
          refine cf.mono ?_
          rintro E w2 ⟨rfl, h2, hg2⟩
          have l2 := hg2.lies L1.out (by omega)
          have g2 := G1.out.trans hg2
          clear cf x0 x1 hg2
          have y0 := l2.cell (i := 0) rfl
          have f0 := l2.free 0
          have y1 := l2.cell (i := 1) rfl
          have f1 := l2.free 1
          have y2 := l2.cell (i := 2) rfl
          have f2 := l2.free 2
          have y3 := l2.cell (i := 3) rfl
          have f3 := l2.free 3
          have y4 := l2.cell (i := 4) rfl
          have f4 := l2.free 4
          have LF : Lies _ w.heap.size _ [.int .i64 0, .int .i64 n, .slice none 0 0, .slice none 0 0, .bool false] := (((((l2.set 0 (.int .i64 0)).set 1 (.int .i64 n)).set 2 (.slice none 0 0)).set 3 (.slice none 0 0)).set 4 (.bool false))
          have k0 := LF.cell (i := 0) rfl
          have k1 := LF.cell (i := 1) rfl
          have k2 := LF.cell (i := 2) rfl
          have k3 := LF.cell (i := 3) rfl
          have k4 := LF.cell (i := 4) rfl
          have HF := Lib.hid (((((h2.put hRw 0 (.int .i64 0)).put hRw 1 (.int .i64 n)).put hRw 2 (.slice none 0 0)).put hRw 3 (.slice none 0 0)).put hRw 4 (.bool false))
          have HGF := Lib.hid (((((g2.put (Nat.le_refl _) 0 (.int .i64 0)).put (Nat.le_refl _) 1 (.int .i64 n)).put (Nat.le_refl _) 2 (.slice none 0 0)).put (Nat.le_refl _) 3 (.slice none 0 0)).put (Nat.le_refl _) 4 (.bool false))
          clear LF
          go_wp2_with (fail)
          exact bodyPost_ret (v := .agg #[.int .i64 0, .int .i64 n, .slice none 0 0, .slice none 0 0, .bool false]) (by simp [results, Tryz.results28, go_sem, k0, k1, k2, k3, k4]) rfl ⟨rfl, HF.out, HGF.out⟩
        · have e9 : decide ((n : Int) = 64) = false := by simp; omega
          have e10 : ((n : Int) == 64) = false := by simp; omega
          have hs3 := HS2.out
          rw [if_neg hN0, if_neg hnot, if_neg h64] at hs3
          subst hs3
          clear hN0 ec2 h0l hlt hlt0 h2d hz hnot h64
          have h2 := H1.out
          have g2 := G1.out
          have l2 := L1.out
          have y0 := l2.cell (i := 0) rfl
          have f0 := l2.free 0
          have y1 := l2.cell (i := 1) rfl
          have f1 := l2.free 1
          have y2 := l2.cell (i := 2) rfl
          have f2 := l2.free 2
          have y3 := l2.cell (i := 3) rfl
          have f3 := l2.free 3
          have y4 := l2.cell (i := 4) rfl
          have f4 := l2.free 4
          have LF : Lies _ w.heap.size _ [.int .i64 0, .int .i64 n, .slice none 0 0, .slice none 0 0, .bool false] := (((((l2.set 0 (.int .i64 0)).set 1 (.int .i64 n)).set 2 (.slice none 0 0)).set 3 (.slice none 0 0)).set 4 (.bool false))
          have k0 := LF.cell (i := 0) rfl
          have k1 := LF.cell (i := 1) rfl
          have k2 := LF.cell (i := 2) rfl
          have k3 := LF.cell (i := 3) rfl
          have k4 := LF.cell (i := 4) rfl
          have HF := Lib.hid (((((h2.put hRw 0 (.int .i64 0)).put hRw 1 (.int .i64 n)).put hRw 2 (.slice none 0 0)).put hRw 3 (.slice none 0 0)).put hRw 4 (.bool false))
          have HGF := Lib.hid (((((g2.put (Nat.le_refl _) 0 (.int .i64 0)).put (Nat.le_refl _) 1 (.int .i64 n)).put (Nat.le_refl _) 2 (.slice none 0 0)).put (Nat.le_refl _) 3 (.slice none 0 0)).put (Nat.le_refl _) 4 (.bool false))
          clear LF
          go_wp2_with (fail)
          exact bodyPost_ret (v := .agg #[.int .i64 0, .int .i64 n, .slice none 0 0, .slice none 0 0, .bool false]) (by simp [results, Tryz.results28, go_sem, k0, k1, k2, k3, k4]) rfl ⟨rfl, HF.out, HGF.out⟩
end Go.Proofs.YteimbdklakemaaaGreatDoor
