/-
  THE CONTRACTS OF package value's FUNCTIONS, LAST PART: Print; of the document's own: digits.
-/
import Derived.Test.YtlaelegbfjpodaaDoorValb
import Derived.Lib.ItoaLen
import Derived.Deep.DeepCutAuto
import Derived.Deep.CutBlock
import Derived.Laws.IdiomStrings
namespace Go.Proofs.YtlaelegbfjpodaaDoor
open Go.RowKit Go.Sort
set_option maxHeartbeats 400000

theorem below_grown (w : World) (k : Nat) (os : Array Obj) : Below w.heap.size w (grow (w.drewN k) os) :=
  ⟨rfl, rfl, rfl, by simp [grow], fun j hj => by simp [grow, Array.getElem?_append, hj]⟩
/-- what Print tells -/
def prt (b : Bool) (n : Int) : List UInt8 := if b then Va.nul else Lib.itoa n

theorem print_any (b : Bool) (n : Int) (w : World) (h0 : -9223372036854775808 ≤ n) (h1 : n ≤ 9223372036854775807) (hP : Pows w) :
    Calls Tryd.prog 17 #[.agg #[.bool b, .int .i64 n]] w fun e w' => e = .returned (.string ⟨(prt b n).toArray⟩) ∧ Below w.heap.size w w' := by
  cases b
  · have hP1 : Pows (w.alloc (Obj.cells #[Value.bool false, Value.int IntKind.i64 n] 23)) := hP.below (below_new w _) (Nat.le_refl _)
    have hf := Tryd.strconv_FormatInt_10 n h0 h1 _ hP1
    clear hP hP1 h0 h1
    go_enter Tryd.func17, Tryd.ntmps17
    go_wp2_with fail
    refine hf.mono ?_
    rintro e w1 ⟨rfl, k, os, rfl⟩
    have hb := below_join (below_new w (Obj.cells #[Value.bool false, Value.int IntKind.i64 n] 23)) (below_grown _ k os)
    clear hf
    generalize grow ((w.alloc (Obj.cells #[Value.bool false, Value.int IntKind.i64 n] 23)).drewN k) os = w1 at hb ⊢
    go_wp2
    go_ret
    exact ⟨rfl, hb⟩
  · clear hP h0 h1
    go_enter Tryd.func17, Tryd.ntmps17
    go_wp2
    go_ret
    exact ⟨rfl, below_new _ _⟩
theorem digits_on {u m : Nat} {s : List UInt8} (h : Lib.decDigits u = Lib.decDigits m ++ s) (hm : ¬ m < 10) : Lib.decDigits u = Lib.decDigits (m / 10) ++ (UInt8.ofNat (48 + m % 10) :: s) := by
  rw [h, Va.digits_big hm, List.append_assoc]; rfl
theorem app_l (s t : List UInt8) : (⟨s.toArray⟩ : ByteArray) ++ ⟨t.toArray⟩ = ⟨(s ++ t).toArray⟩ := by
  apply ByteArray.ext
  rw [ByteArray.data_append]
  simp
theorem conv_one (W : World) (x : Int) (k : Nat) (hk : k < 10) (hx : x = 48 + (k : Int)) :
    (convert 67 9 (.slice (some ⟨W.heap.size, 0, none⟩) 1 1)).run Tryd.prog (W.alloc (.cells #[.int .u8 x] 5)) = .ok (.string ⟨[UInt8.ofNat (48 + k)].toArray⟩) (W.alloc (.cells #[.int .u8 x] 5)) := by
  refine run_convert_bytes_back (W.alloc (.cells #[.int .u8 x] 5)) 67 9 5 ⟨W.heap.size, 0, none⟩ 1 [UInt8.ofNat (48 + k)] Tryd.underlying67 Tryd.underlying5 Tryd.underlying9 ?_
  intro j hj
  have hj0 : j = 0 := by simp at hj; omega
  subst hj0
  have e : ((⟨W.heap.size, 0, none⟩ : Addr).add 0) = ⟨W.heap.size, 0, none⟩ := rfl
  rw [e, World.cell?_alloc_new, hx]
  have := Va.toNat_dig hk
  simp only [List.getElem_cons_zero, this]
  simp
theorem rnatural_any (u : Nat) (w : World) (hu : u < 18446744073709551616) :
    Calls Tryd.prog 33 #[.int .u64 (u : Int)] w fun e w' => e = .returned (.string ⟨(Lib.decDigits u).toArray⟩) ∧ Below w.heap.size w w' := by
  have hlen : (Lib.decDigits u).length ≤ 20 := by rw [Lib.decDigits_length]; exact Lib.nDigits_le20 u hu
  obtain ⟨r, hr⟩ : ∃ r, r = Lib.decDigits u := ⟨_, rfl⟩
  rw [← hr] at hlen ⊢
  have HR := Lib.hid hr
  have HU := Lib.hid hu
  clear hr hu
  go_enter Tryd.func33, Tryd.ntmps33
  go_wp2
  go_loopw [0, 3] (fun v s wr => ∃ (m : Nat) (t : List UInt8), v = .int .u64 (m : Int) ∧ s = .string ⟨t.toArray⟩ ∧ Hid (r = Lib.decDigits m ++ t) ∧ Hid (m < 18446744073709551616) ∧ Below w.heap.size w wr) (fun v _ _ => (intOf v).toNat)
  case atStart => exact ⟨u, [], rfl, rfl, Lib.hid (by rw [HR.out, List.append_nil]), HU, Below.refl _ _⟩
  case round =>
    obtain ⟨m, t, rfl, rfl, hrt, hm, hb⟩ := hrel
    have htl : t.length ≤ 20 := by
      have := congrArg List.length hrt.out
      rw [List.length_append] at this
      omega
    have hn : ¬ 9223372036854775807 < 1 + t.length := by omega
    by_cases h10 : m < 10
    · have d1 : decide ((10 : Int) ≤ (m : Int)) = false := by simp; omega
      have hcv := conv_one wr (48 + (m : Int)) m h10 rfl
      have hr2 : r = UInt8.ofNat (48 + m) :: t := by rw [hrt.out, Va.digits_small h10]; rfl
      obtain ⟨c, hc⟩ : ∃ c, c = UInt8.ofNat (48 + m) := ⟨_, rfl⟩
      rw [← hc] at hcv hr2
      have Hr2 := Lib.hid hr2
      clear hlen htl hc hr2
      go_wp2
      go_ret
      refine ⟨?_, hb.alloc hb.size _⟩
      rw [Hr2.out, show (⟨#[c]⟩ : ByteArray) = ⟨[c].toArray⟩ from rfl, app_l]
      rfl
    · have d1 : decide ((10 : Int) ≤ (m : Int)) = true := by simp; omega
      have hcv := conv_one wr (48 + (m : Int) % 10) (m % 10) (Nat.mod_lt _ (by omega)) (by omega)
      have hr2 := digits_on (HR.out.symm.trans hrt.out) h10
      rw [← HR.out] at hr2
      obtain ⟨c, hc⟩ : ∃ c, c = UInt8.ofNat (48 + m % 10) := ⟨_, rfl⟩
      rw [← hc] at hcv hr2
      have Hr2 := Lib.hid hr2
      have H64 : Hid (m / 10 < 18446744073709551616) := Lib.hid (by have := hm.out; omega)
      have hw : IntKind.u64.wrap ((m : Int) / 10) = (m : Int) / 10 := by
        have := hm.out
        rw [IntKind.wrap_u64]; omega
      clear hlen htl hc hr2
      go_wp2
      go_roundw
      case rel => exact ⟨m / 10, c :: t, by simp, by rw [show (⟨#[c]⟩ : ByteArray) = ⟨[c].toArray⟩ from rfl, app_l]; rfl, Hr2, H64, hb.alloc hb.size _⟩
      case measure => simp [intOf]; omega
theorem rwhole_any (n : Int) (w : World) (h0 : -9223372036854775808 ≤ n) (h1 : n ≤ 9223372036854775807) :
    Calls Tryd.prog 26 #[.int .i64 n] w fun e w' => e = .returned (.string ⟨(Lib.itoa n).toArray⟩) ∧ Below w.heap.size w w' := by
  by_cases hn : n < 0
  · obtain ⟨u, hu⟩ : ∃ u : Nat, n = -(u : Int) := ⟨n.natAbs, by omega⟩
    have hu1 : 1 ≤ u := by omega
    have hu2 : u < 18446744073709551616 := by omega
    have hi : Lib.itoa n = 45 :: Lib.decDigits u := by rw [hu]; exact Lib.itoa_neg u hu1
    have hlen : (Lib.decDigits u).length ≤ 20 := by rw [Lib.decDigits_length]; exact Lib.nDigits_le20 u hu2
    rw [hi]
    obtain ⟨D, hD⟩ : ∃ D, D = Lib.decDigits u := ⟨_, rfl⟩
    have hnat := fun w' => rnatural_any u w' hu2
    rw [← hD] at hnat hlen ⊢
    have d1 : decide (n < 0) = true := by simp; omega
    have e1 : IntKind.i64.wrap (n + 1) = n + 1 := by rw [IntKind.wrap_i64]; omega
    have e2 : IntKind.i64.wrap (-(n + 1)) = ((u - 1 : Nat) : Int) := by rw [IntKind.wrap_i64]; omega
    have e3 : IntKind.u64.wrap (((u - 1 : Nat) : Int)) = ((u - 1 : Nat) : Int) := by rw [IntKind.wrap_u64]; omega
    have e4 : IntKind.u64.wrap (((u - 1 : Nat) : Int) + 1) = (u : Int) := by rw [IntKind.wrap_u64]; omega
    have hl : ¬ 9223372036854775807 < 1 + D.length := by omega
    clear hD hlen hi hu hn h0 h1 hu2
    go_enter Tryd.func26, Tryd.ntmps26
    go_wp2_with fail
    refine (hnat _).mono ?_
    rintro e w1 ⟨rfl, hb⟩
    go_wp2
    go_ret
    refine ⟨?_, hb⟩
    rw [show (⟨#[45]⟩ : ByteArray) = ⟨[45].toArray⟩ from rfl, app_l]
    rfl
  · obtain ⟨u, hu⟩ : ∃ u : Nat, n = (u : Int) := ⟨n.toNat, by omega⟩
    subst hu
    have hu2 : u < 18446744073709551616 := by omega
    have hi : Lib.itoa (u : Int) = Lib.decDigits u := Lib.itoa_nonneg u
    rw [hi]
    have hnat := fun w' => rnatural_any u w' hu2
    have d1 : decide ((u : Int) < 0) = false := by simp
    have e3 : IntKind.u64.wrap (u : Int) = (u : Int) := by rw [IntKind.wrap_u64]; omega
    clear hi hn h0 h1 hu2
    go_enter Tryd.func26, Tryd.ntmps26
    go_wp2_with fail
    refine (hnat _).mono ?_
    rintro e w1 ⟨rfl, hb⟩
    go_wp2
    go_ret
    exact ⟨rfl, hb⟩
theorem rnull_any (w : World) :
    Calls Tryd.prog 20 #[] w fun e w' => e = .returned (.string ⟨#[226, 136, 133]⟩) ∧ w = w' := by
  go_enter Tryd.func20, Tryd.ntmps20
  go_wp2
  go_ret
  exact ⟨rfl, rfl⟩
theorem rprint_any (b : Bool) (n : Int) (w : World) (h0 : -9223372036854775808 ≤ n) (h1 : n ≤ 9223372036854775807) :
    Calls Tryd.prog 18 #[.agg #[.bool b, .int .i64 n]] w fun e w' => e = .returned (.string ⟨(prt b n).toArray⟩) ∧ Below w.heap.size w w' := by
  cases b
  · have hf := fun w' => rwhole_any n w' h0 h1
    clear h0 h1
    go_enter Tryd.func18, Tryd.ntmps18
    go_wp2_with fail
    refine (hf _).mono ?_
    rintro e w1 ⟨rfl, hb⟩
    have hb := below_join (below_new w (Obj.cells #[Value.bool false, Value.int IntKind.i64 n] 23)) hb
    clear hf
    go_wp2
    go_ret
    exact ⟨rfl, hb⟩
  · clear h0 h1
    go_enter Tryd.func18, Tryd.ntmps18
    go_wp2_with fail
    refine (rnull_any _).mono ?_
    rintro e w1 ⟨rfl, rfl⟩
    go_wp2
    go_ret
    exact ⟨rfl, below_new _ _⟩
theorem lnull_any (w : World) :
    Calls Tryd.prog 19 #[] w fun e w' => e = .returned (.agg #[.bool true, .int .i64 0]) ∧ Below w.heap.size w w' := by
  go_enter Tryd.func19, Tryd.ntmps19
  go_wp2
  exact bodyPost_ret (v := .agg #[.bool true, .int .i64 0]) (by simp [results, Tryd.results19, go_sem]) rfl ⟨rfl, below_new _ _⟩
/-- the result's block, written anew -/
theorem store_val {w W0 : World} {t : TypeId} (hW : W0 = w.alloc (Obj.cells #[Value.bool false, Value.int IntKind.i64 0] t)) (x : Int) :
    Below w.heap.size w ((W0.setCell ⟨w.heap.size, 0, none⟩ (.bool false)).setCell ⟨w.heap.size, 1, none⟩ (.int .i64 x)) ∧
    ((W0.setCell ⟨w.heap.size, 0, none⟩ (.bool false)).setCell ⟨w.heap.size, 1, none⟩ (.int .i64 x)).cell? ⟨w.heap.size, 0, none⟩ = some (.bool false) ∧
    ((W0.setCell ⟨w.heap.size, 0, none⟩ (.bool false)).setCell ⟨w.heap.size, 1, none⟩ (.int .i64 x)).cell? ⟨w.heap.size, 1, none⟩ = some (.int .i64 x) := by
  have hL : Lies W0 w.heap.size t [Value.bool false, Value.int IntKind.i64 0] := by rw [hW]; exact Lies.new w _ _
  have hb : Below w.heap.size w W0 := by rw [hW]; exact below_new w _
  have hL2 := (hL.set 0 (.bool false)).set 1 (.int .i64 x)
  exact ⟨(hb.setCell (Nat.le_refl _) _).setCell (Nat.le_refl _) _, hL2.cell (i := 0) rfl, hL2.cell (i := 1) rfl⟩
theorem get_of {s : ByteArray} {i : Nat} {c : UInt8} (h : s.data.toList[i]? = some c) {hi : i < s.size} : s[i]'hi = c := by
  obtain ⟨h1, h2⟩ := List.getElem?_eq_some_iff.1 h
  rw [← h2]; rfl
set_option maxRecDepth 100000 in
theorem rparse_any (s : ByteArray) (w : World) (hs : s.size ≤ 281474976710656) :
    Calls Tryd.prog 10 #[.string s] w fun e w' => e = .returned (.tuple #[.agg #[.bool (Va.par s.data.toList).z, .int .i64 (Va.par s.data.toList).v], .int .i64 (Va.par s.data.toList).e]) ∧ Below w.heap.size w w' := by
  obtain ⟨l, hl⟩ : ∃ l, l = s.data.toList := ⟨_, rfl⟩
  have hsz : s.size = l.length := by rw [hl]; rfl
  obtain ⟨R, hR⟩ : ∃ R, R = Va.par l := ⟨_, rfl⟩
  rw [← hl, ← hR]
  by_cases h1 : l = Va.nul
  · have he : s = ⟨#[226, 136, 133]⟩ := by
      obtain ⟨⟨d⟩⟩ := s
      rw [hl] at h1
      have h1 : d = Va.nul := h1
      rw [h1]; rfl
    rw [hR, h1, Va.par_nul]
    subst he
    clear h1 hl hs hsz hR
    go_enter Tryd.func10, Tryd.ntmps10
    go_wp2_with (refine (rnull_any _).mono ?_; rintro e w1 ⟨rfl, rfl⟩)
    exact bodyPost_ret (v := .tuple #[.agg #[.bool true, .int .i64 0], .int .i64 0]) (by simp [results, Tryd.results10, go_sem]) rfl ⟨rfl, below_new _ _⟩
  · have d0 : (s.toList == [226, 136, 133]) = false := by
      rw [Lib.toList_data, ← hl, beq_eq_false_iff_ne]; exact h1
    obtain ⟨m, hm⟩ : ∃ m, m = Va.mins l := ⟨_, rfl⟩
    obtain ⟨d, hd⟩ : ∃ d, d = Va.rest l := ⟨_, rfl⟩
    obtain ⟨f, hf⟩ : ∃ f : Nat, f = if m then 1 else 0 := ⟨_, rfl⟩
    have hfd : f + d.length = s.size := by
      rw [hf, hd, hsz]
      unfold Va.rest
      rw [← hm]
      cases m with
      | false => simp
      | true =>
        have : 1 < l.length := by
          have := hm.symm
          simp only [Va.mins, Bool.and_eq_true, decide_eq_true_eq] at this
          exact this.1
        simp; omega
    have hget : ∀ j c, d[j]? = some c → s.data.toList[f + j]? = some c := by
      intro j c h
      rw [← hl, hf]
      rw [hd] at h
      unfold Va.rest at h
      rw [← hm] at h
      cases m with
      | false => simpa using h
      | true =>
        simp only [if_true, List.getElem?_tail] at h ⊢
        rw [Nat.add_comm]; exact h
    obtain ⟨W0, hW0⟩ : ∃ W0, W0 = w.alloc (Obj.cells #[Value.bool false, Value.int IntKind.i64 0] 23) := ⟨_, rfl⟩
    have hmv : (1 < s.size ∧ ∃ c : UInt8, s.data.toList[0]? = some c ∧ ((c.toNat : Int) == 45) = m) ∨ (¬ 1 < s.size ∧ m = false) := by
      rw [hsz, ← hl]
      by_cases hlen : 1 < l.length
      · left
        refine ⟨hlen, ?_⟩
        cases l with
        | nil => simp at hlen
        | cons c r =>
          refine ⟨c, rfl, ?_⟩
          rw [hm]
          unfold Va.mins
          rw [decide_eq_true hlen, Bool.true_and, List.head?_cons]
          have e45 : (45 : UInt8).toNat = 45 := rfl
          by_cases hc : c = 45
          · subst hc; rfl
          · have : c.toNat ≠ 45 := fun e => hc (UInt8.toNat_inj.1 e)
            have h2 : ((c.toNat : Int) == 45) = false := by simp; omega
            rw [h2]
            simp [hc]
      · right
        refine ⟨hlen, ?_⟩
        rw [hm]; unfold Va.mins; rw [decide_eq_false hlen]; rfl
    have HS := Lib.hid hsz
    have HL := Lib.hid hl
    have HR := Lib.hid hR
    have HM := Lib.hid hm
    have HD := Lib.hid hd
    have HF := Lib.hid hf
    have HFD := Lib.hid hfd
    have HG := Lib.hid hget
    have HN := Lib.hid h1
    have HW := Lib.hid hW0
    have HZ := Lib.hid hs
    clear hs hsz hl hR hm hd hf hfd hget h1 hW0
    go_enter Tryd.func10, Tryd.ntmps10
    go_upto_region 3 with (refine (rnull_any _).mono ?_; rintro e w1 ⟨rfl, rfl⟩)
    rw [← HW.out]
    go_cut [4] (fun s4 wx => s4 = .bool m ∧ wx = W0)
    case first =>
      rcases hmv with ⟨hlen, c, hc, hcm⟩ | ⟨hlen, hmf⟩
      · have d1 : decide ((1 : Int) < (s.size : Int)) = true := by simp; omega
        have hgt : s[0] = c := get_of hc
        clear hc
        go_wp2_with fail
        go_meet
        exact ⟨rfl, rfl⟩
      · subst hmf
        have d1 : decide ((1 : Int) < (s.size : Int)) = false := by simp; omega
        go_wp2_with fail
        go_meet
        exact ⟨rfl, rfl⟩
    case rest =>
      obtain ⟨rfl, hwc⟩ := hcut
      have hwc' := hwc.symm
      subst hwc'
      clear hmv hwc
      go_upto_if 22 with fail
      go_cut [5] (fun s5 wx => s5 = .int .i64 (f : Int) ∧ wx = W0)
      case first =>
        have hf := HF.out
        cases m with
        | false =>
          have hf : f = 0 := hf
          subst hf
          go_wp2
          go_meet
          exact ⟨rfl, rfl⟩
        | true =>
          have hf : f = 1 := hf
          subst hf
          go_wp2
          go_meet
          exact ⟨rfl, rfl⟩
      case rest =>
        obtain ⟨rfl, hwc⟩ := hcut
        have hwc' := hwc.symm
        subst hwc'
        clear hwc
        have hL : Lies W0 w.heap.size 23 [Value.bool false, Value.int IntKind.i64 0] := by rw [HW.out]; exact Lies.new w _ _
        have c0 : W0.cell? ⟨w.heap.size, 0, none⟩ = some (.bool false) := hL.cell rfl
        have c1 : W0.cell? ⟨w.heap.size, 1, none⟩ = some (.int .i64 0) := hL.cell rfl
        have f0 : W0.frozen? ⟨w.heap.size, 0, none⟩ = false := hL.free 0
        have f1 : W0.frozen? ⟨w.heap.size, 1, none⟩ = false := hL.free 1
        clear hL
        by_cases hd0 : d = []
        · have hfs : f = s.size := by
            have := HFD.out
            rw [hd0] at this
            simpa using this
          subst hfs
          have hRf : Hid (R = ⟨false, 0, 1⟩) := Lib.hid (by rw [HR.out]; exact Va.rp_nil HN.out (by rw [← HD.out]; exact hd0))
          clear hd0
          obtain ⟨b2, g0, g1⟩ := store_val HW.out 0
          go_wp2
          clear c0 c1 f0 f1
          generalize (W0.setCell ⟨w.heap.size, 0, none⟩ (.bool false)).setCell ⟨w.heap.size, 1, none⟩ (.int .i64 0) = w3 at *
          rw [hRf.out]
          exact bodyPost_ret (v := .tuple #[.agg #[.bool false, .int .i64 0], .int .i64 1]) (by simp [results, Tryd.results10, go_sem, g0, g1]) rfl ⟨rfl, b2⟩
        · have hne : ((s.size : Int) == (f : Int)) = false := by
            have := HFD.out
            have : 0 < d.length := List.length_pos_iff.2 hd0
            simp; omega
          have HD0 := Lib.hid hd0
          clear hd0
          go_wp2
          go_loop [6, 7, 8] (fun v6 v7 v8 => ∃ (p : Nat) (a : Int) (g : Bool), p ≤ s.size ∧ v6 = .int .u64 a ∧ v7 = .bool g ∧ v8 = .int .i64 (p : Int) ∧ Hid (f ≤ p) ∧ Hid (Va.Lp d (p - f) a g)) (fun _ _ v8 => s.size - (intOf v8).toNat)
          case atStart => exact ⟨f, 0, false, by have := HFD.out; omega, rfl, rfl, rfl, Lib.hid (Nat.le_refl _), Lib.hid (by rw [Nat.sub_self]; exact Va.Lp.zero d)⟩
          case round =>
            obtain ⟨p, a, g, hps, rfl, rfl, rfl, hfp, hJ⟩ := hrel
            by_cases hlt : p < s.size
            · have hz := HZ.out
              have hfp' := hfp.out
              have hfd' := HFD.out
              obtain ⟨c, hc⟩ : ∃ c, d[p - f]? = some c := ⟨_, List.getElem?_eq_getElem (show p - f < d.length by omega)⟩
              have hgt : s[p] = c := get_of (by have := HG.out _ _ hc; rwa [show f + (p - f) = p by omega] at this)
              obtain ⟨z, hzc⟩ : ∃ z : Int, z = (c.toNat : Int) := ⟨_, rfl⟩
              have e0 : IntKind.i64.wrap ((p : Int) + 1) = (p : Int) + 1 := by rw [IntKind.wrap_i64]; omega
              have HP1 : Hid (f ≤ p + 1) := Lib.hid (by omega)
              have ej : p + 1 - f = p - f + 1 := by omega
              have HJ1 := Lib.hid ej
              by_cases hdig : Va.isD c = true
              · have hd2 := Va.isD_iff.1 hdig
                obtain ⟨x, hx⟩ : ∃ x : Int, x = z - 48 := ⟨_, rfl⟩
                have e1 : IntKind.u8.wrap (z - 48) = x := by rw [IntKind.wrap_u8]; omega
                have e2 : IntKind.u64.wrap x = x := by rw [IntKind.wrap_u64]; omega
                have d1 : decide (z < 48) = false := by simp; omega
                have d2 : decide (57 < z) = false := by simp; omega
                have hzz : (c.toNat : Int) = z := hzc.symm
                have HX := Lib.hid (show x = (c.toNat : Int) - 48 by omega)
                cases g with
                | true =>
                  have hJ2 := Lib.hid (hJ.out.great hc hdig)
                  clear hz hfp' hfd' hc hzc ej hdig hd2 hx
                  go_wp2
                  exact ⟨⟨p + 1, a, true, by omega, rfl, rfl, by simp, HP1, Lib.hid (by rw [HJ1.out]; exact hJ2.out)⟩, by simp [intOf]; omega⟩
                | false =>
                  by_cases hA : 922337203685477580 < a
                  · have d3 : decide (922337203685477580 < a) = true := by simp; omega
                    have hJ2 := Lib.hid (hJ.out.over hc hdig (.inl hA))
                    clear hz hfp' hfd' hc hzc ej hdig hd2 hx hA
                    go_wp2
                    exact ⟨⟨p + 1, a, true, by omega, rfl, rfl, by simp, HP1, Lib.hid (by rw [HJ1.out]; exact hJ2.out)⟩, by simp [intOf]; omega⟩
                  · have d3 : decide (922337203685477580 < a) = false := by simp; omega
                    by_cases hK : a = 922337203685477580
                    · have d4 : (a == 922337203685477580) = true := by simp; omega
                      by_cases h8 : 8 < x
                      · have d5 : decide (8 < x) = true := by simp; omega
                        have hJ2 := Lib.hid (hJ.out.over hc hdig (.inr ⟨hK, by omega⟩))
                        clear hz hfp' hfd' hc hzc ej hdig hd2 hx hA hK h8
                        go_wp2
                        exact ⟨⟨p + 1, a, true, by omega, rfl, rfl, by simp, HP1, Lib.hid (by rw [HJ1.out]; exact hJ2.out)⟩, by simp [intOf]; omega⟩
                      · have d5 : decide (8 < x) = false := by simp; omega
                        have hJ2 := hJ.out.on hc hdig (by omega)
                        have hb := hJ2.2.1
                        have hb2 := hJ2.2.2.1
                        rw [← HX.out] at hJ2 hb hb2
                        obtain ⟨b, hbb⟩ : ∃ b, b = 10 * a + x := ⟨_, rfl⟩
                        obtain ⟨y, hy⟩ : ∃ y, y = 10 * a := ⟨_, rfl⟩
                        have e3 : IntKind.u64.wrap (10 * a) = y := by rw [IntKind.wrap_u64]; omega
                        have e4 : IntKind.u64.wrap (y + x) = b := by rw [IntKind.wrap_u64]; omega
                        rw [← hbb] at hJ2
                        replace hJ2 := Lib.hid hJ2
                        clear hz hfp' hfd' hc hzc ej hdig hd2 hx hA hK h8 hb hb2 hbb hy
                        go_wp2
                        exact ⟨⟨p + 1, b, false, by omega, rfl, rfl, by simp, HP1, Lib.hid (by rw [HJ1.out]; exact hJ2.out)⟩, by simp [intOf]; omega⟩
                    · have d4 : (a == 922337203685477580) = false := by simp; omega
                      have hJ2 := hJ.out.on hc hdig (by omega)
                      have hb := hJ2.2.1
                      have hb2 := hJ2.2.2.1
                      rw [← HX.out] at hJ2 hb hb2
                      obtain ⟨b, hbb⟩ : ∃ b, b = 10 * a + x := ⟨_, rfl⟩
                      obtain ⟨y, hy⟩ : ∃ y, y = 10 * a := ⟨_, rfl⟩
                      have e3 : IntKind.u64.wrap (10 * a) = y := by rw [IntKind.wrap_u64]; omega
                      have e4 : IntKind.u64.wrap (y + x) = b := by rw [IntKind.wrap_u64]; omega
                      rw [← hbb] at hJ2
                      replace hJ2 := Lib.hid hJ2
                      clear hz hfp' hfd' hc hzc ej hdig hd2 hx hA hK hb hb2 hbb hy
                      go_wp2
                      exact ⟨⟨p + 1, b, false, by omega, rfl, rfl, by simp, HP1, Lib.hid (by rw [HJ1.out]; exact hJ2.out)⟩, by simp [intOf]; omega⟩
              · have hRf : Hid (R = ⟨false, 0, 1⟩) := Lib.hid (by rw [HR.out]; exact Va.rp_bad HN.out (by rw [← HD.out]; exact Va.all_not hc (by simpa using hdig)))
                obtain ⟨b2, g0, g1⟩ := store_val HW.out 0
                have hzz : (c.toNat : Int) = z := hzc.symm
                by_cases h48 : z < 48
                · have d1 : decide (z < 48) = true := by simp; omega
                  clear hz hfp' hfd' hc hzc ej hdig h48 hJ e0 HP1 HJ1
                  go_wp2
                  clear c0 c1 f0 f1
                  generalize (W0.setCell ⟨w.heap.size, 0, none⟩ (.bool false)).setCell ⟨w.heap.size, 1, none⟩ (.int .i64 0) = w3 at *
                  rw [hRf.out]
                  exact bodyPost_ret (v := .tuple #[.agg #[.bool false, .int .i64 0], .int .i64 1]) (by simp [results, Tryd.results10, go_sem, g0, g1]) rfl ⟨rfl, b2⟩
                · have d1 : decide (z < 48) = false := by simp; omega
                  have d2 : decide (57 < z) = true := by
                    have := hdig
                    rw [Va.isD_iff] at this
                    simp; omega
                  clear hz hfp' hfd' hc hzc ej hdig h48 hJ e0 HP1 HJ1
                  go_wp2
                  clear c0 c1 f0 f1
                  generalize (W0.setCell ⟨w.heap.size, 0, none⟩ (.bool false)).setCell ⟨w.heap.size, 1, none⟩ (.int .i64 0) = w3 at *
                  rw [hRf.out]
                  exact bodyPost_ret (v := .tuple #[.agg #[.bool false, .int .i64 0], .int .i64 1]) (by simp [results, Tryd.results10, go_sem, g0, g1]) rfl ⟨rfl, b2⟩
            · have hpe : p = s.size := by omega
              have hl2 : d ≠ [] := HD0.out
              have hJ2 : Va.Lp d d.length a g := by
                have := hJ.out
                rwa [show p - f = d.length by have := HFD.out; omega] at this
              obtain ⟨c, hc⟩ : ∃ c, d[0]? = some c := by
                cases d with
                | nil => exact absurd rfl hl2
                | cons c r => exact ⟨c, rfl⟩
              have hfs : f < s.size := by have := HFD.out; have := List.length_pos_iff.2 hl2; omega
              have hgt : s[f] = c := get_of (by have := HG.out _ _ hc; simpa using this)
              have hdh : d.head? = some 48 ↔ c = 48 := by
                cases d with
                | nil => exact absurd rfl hl2
                | cons c' r =>
                  obtain rfl : c' = c := by simpa using hc
                  simp
              obtain ⟨z, hzc⟩ : ∃ z : Int, z = (c.toNat : Int) := ⟨_, rfl⟩
              have hzz : (c.toNat : Int) = z := hzc.symm
              have e48 : c = 48 ↔ z = 48 := by
                rw [hzc]
                constructor
                · rintro rfl; rfl
                · intro h; exact UInt8.toNat_inj.1 (by show c.toNat = 48; omega)
              by_cases h48 : z = 48 ∧ 1 < s.size
              · obtain ⟨h48, h1l⟩ := h48
                have hRf : Hid (R = ⟨false, 0, 1⟩) := Lib.hid (by rw [HR.out]; exact Va.rp_nought HN.out (by rw [← HD.out, hdh, e48]; exact h48) (by rw [← HS.out]; exact h1l))
                obtain ⟨b2, g0, g1⟩ := store_val HW.out 0
                have d1 : (z == 48) = true := by simp; omega
                have d2 : decide ((1 : Int) < (s.size : Int)) = true := by simp; omega
                clear hpe hl2 hJ2 hc hzc hdh e48 h48 h1l hJ hfp
                go_wp2
                clear c0 c1 f0 f1
                generalize (W0.setCell ⟨w.heap.size, 0, none⟩ (.bool false)).setCell ⟨w.heap.size, 1, none⟩ (.int .i64 0) = w3 at *
                rw [hRf.out]
                exact bodyPost_ret (v := .tuple #[.agg #[.bool false, .int .i64 0], .int .i64 1]) (by simp [results, Tryd.results10, go_sem, g0, g1]) rfl ⟨rfl, b2⟩
              · have hRe : R = if g then ⟨false, 0, 3⟩ else if m then ⟨false, -a, 0⟩ else if a = 9223372036854775808 then ⟨false, 0, 3⟩ else ⟨false, a, 0⟩ := by
                  rw [HR.out, HM.out]
                  refine Va.rp_end (l := l) (by rw [← HD.out]; exact hJ2) (by rw [← HD.out]; exact hl2) ?_
                  rw [← HD.out, ← HS.out, hdh, e48]; exact h48
                have HRe := Lib.hid hRe
                have HA := Lib.hid (show 0 ≤ a ∧ a ≤ 9223372036854775808 from ⟨hJ2.2.1, hJ2.2.2.1⟩)
                clear hRe hpe hl2 hJ2 hc hzc hdh e48 hJ hfp
                go_upto_region 20 with fail
                go_cut [78] (fun v wx => v = .bool false ∧ wx = W0)
                case first =>
                  by_cases hz48 : z = 48
                  · have d1 : (z == 48) = true := by simp; omega
                    have d2 : decide ((1 : Int) < (s.size : Int)) = false := by
                      have : ¬ 1 < s.size := fun h => h48 ⟨hz48, h⟩
                      simp; omega
                    clear h48 hz48
                    go_wp2_with fail
                    go_meet
                    exact ⟨rfl, rfl⟩
                  · have d1 : (z == 48) = false := by simp; omega
                    clear h48 hz48
                    go_wp2_with fail
                    go_meet
                    exact ⟨rfl, rfl⟩
                case rest =>
                  obtain ⟨rfl, hwc⟩ := hcut
                  have hwc' := hwc.symm
                  subst hwc'
                  clear hwc h48 hgt hzz hfs hlt
                  cases g with
                  | true =>
                    have HRf : Hid (R = ⟨false, 0, 3⟩) := Lib.hid (by rw [HRe.out]; rfl)
                    obtain ⟨b2, g0, g1⟩ := store_val HW.out 0
                    go_wp2
                    clear c0 c1 f0 f1
                    generalize (W0.setCell ⟨w.heap.size, 0, none⟩ (.bool false)).setCell ⟨w.heap.size, 1, none⟩ (.int .i64 (0)) = w3 at *
                    rw [HRf.out]
                    exact bodyPost_ret (v := .tuple #[.agg #[.bool false, .int .i64 (0)], .int .i64 3]) (by simp [results, Tryd.results10, go_sem, g0, g1]) rfl ⟨rfl, b2⟩
                  | false =>
                    by_cases hmax : a = 9223372036854775808
                    · have d1 : (a == 9223372036854775808) = true := by simp; omega
                      cases m with
                      | false =>
                        have HRf : Hid (R = ⟨false, 0, 3⟩) := Lib.hid (by rw [HRe.out, hmax]; rfl)
                        obtain ⟨b2, g0, g1⟩ := store_val HW.out 0
                        clear hmax
                        go_wp2
                        clear c0 c1 f0 f1
                        generalize (W0.setCell ⟨w.heap.size, 0, none⟩ (.bool false)).setCell ⟨w.heap.size, 1, none⟩ (.int .i64 (0)) = w3 at *
                        rw [HRf.out]
                        exact bodyPost_ret (v := .tuple #[.agg #[.bool false, .int .i64 (0)], .int .i64 3]) (by simp [results, Tryd.results10, go_sem, g0, g1]) rfl ⟨rfl, b2⟩
                      | true =>
                        have HRf : Hid (R = ⟨false, -9223372036854775808, 0⟩) := Lib.hid (by rw [HRe.out, hmax]; rfl)
                        obtain ⟨b2, g0, g1⟩ := store_val HW.out (-9223372036854775808)
                        clear hmax
                        go_wp2
                        clear c0 c1 f0 f1
                        generalize (W0.setCell ⟨w.heap.size, 0, none⟩ (.bool false)).setCell ⟨w.heap.size, 1, none⟩ (.int .i64 (-9223372036854775808)) = w3 at *
                        rw [HRf.out]
                        exact bodyPost_ret (v := .tuple #[.agg #[.bool false, .int .i64 (-9223372036854775808)], .int .i64 0]) (by simp [results, Tryd.results10, go_sem, g0, g1]) rfl ⟨rfl, b2⟩
                    · have d1 : (a == 9223372036854775808) = false := by simp; omega
                      have e1 : IntKind.i64.wrap a = a := by
                        have := HA.out
                        rw [IntKind.wrap_i64]; omega
                      have e2 : IntKind.i64.wrap (-a) = -a := by
                        have := HA.out
                        rw [IntKind.wrap_i64]; omega
                      cases m with
                      | false =>
                        have HRf : Hid (R = ⟨false, a, 0⟩) := Lib.hid (by
                          rw [HRe.out, if_neg (by simp), if_neg (by simp), if_neg hmax])
                        obtain ⟨b2, g0, g1⟩ := store_val HW.out a
                        clear hmax
                        go_wp2
                        clear c0 c1 f0 f1
                        generalize (W0.setCell ⟨w.heap.size, 0, none⟩ (.bool false)).setCell ⟨w.heap.size, 1, none⟩ (.int .i64 (a)) = w3 at *
                        rw [HRf.out]
                        exact bodyPost_ret (v := .tuple #[.agg #[.bool false, .int .i64 (a)], .int .i64 0]) (by simp [results, Tryd.results10, go_sem, g0, g1]) rfl ⟨rfl, b2⟩
                      | true =>
                        have HRf : Hid (R = ⟨false, -a, 0⟩) := Lib.hid (by
                          rw [HRe.out, if_neg (by simp), if_pos rfl])
                        obtain ⟨b2, g0, g1⟩ := store_val HW.out (-a)
                        clear hmax
                        go_wp2
                        clear c0 c1 f0 f1
                        generalize (W0.setCell ⟨w.heap.size, 0, none⟩ (.bool false)).setCell ⟨w.heap.size, 1, none⟩ (.int .i64 (-a)) = w3 at *
                        rw [HRf.out]
                        exact bodyPost_ret (v := .tuple #[.agg #[.bool false, .int .i64 (-a)], .int .i64 0]) (by simp [results, Tryd.results10, go_sem, g0, g1]) rfl ⟨rfl, b2⟩
end Go.Proofs.YtlaelegbfjpodaaDoor
