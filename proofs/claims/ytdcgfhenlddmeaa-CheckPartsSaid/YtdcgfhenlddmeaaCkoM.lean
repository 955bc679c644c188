/-
  package check: wrong, conforms; the library's IndexFunc, ContainsFunc over a row's values.
-/
import Derived.Test.YtdcgfhenlddmeaaCkmM
import Derived.Test.YtdcgfhenlddmeaaGBase
import Derived.Test.YtdcgfhenlddmeaaGPred
namespace Go.Proofs.Ytdcgfhenlddmeaa
open Go.RowKit Go.Sort
set_option maxHeartbeats 1600000

set_option maxRecDepth 100000 in
theorem wrong_any (b : Bool) (n : Int) (w : World) :
    Calls Try.prog 37 #[.agg #[.bool b, .int .i64 n]] w fun e w' => e = .returned (.bool (!Va.right b n)) ∧ Below w.heap.size w w' := by
  obtain ⟨W0, hW0⟩ : ∃ W0, W0 = w.alloc (Obj.cells #[.bool b, .int .i64 n] 45) := ⟨_, rfl⟩
  obtain ⟨l0, hb0⟩ := box1 hW0
  have cs := right_any b n W0
  have q0 := l0.cell (i := 0) rfl
  have q1 := l0.cell (i := 1) rfl
  have HW := Lib.hid hW0
  obtain ⟨r, hr⟩ : ∃ r, r = Va.right b n := ⟨_, rfl⟩
  rw [← hr] at cs ⊢
  clear hW0 l0 hr
  go_enter Try.func37, Try.ntmps37
  go_upto_region 1 with (fail)
  rw [← HW.out]
  go_wp2_with fail
  refine cs.mono ?_
  rintro e w1 ⟨rfl, hb1⟩
  clear cs q0 q1
  go_wp2_with fail
  go_ret
  exact ⟨rfl, below_join hb0 hb1⟩
set_option maxRecDepth 100000 in
theorem indexw_any (v : Value) (l : List Vl) (w : World) (hv : RowAt w v l) (hl : l.length ≤ 9223372036854775807) :
    Calls Try.prog 55 #[v, .func (.func 37) #[] #[]] w fun e w' => (∃ r : Int, e = .returned (.int .i64 r) ∧ decide (0 ≤ r) = l.any (fun t => !Va.right t.1 t.2)) ∧ Below w.heap.size w w' := by
  have HV := Lib.hid hv
  obtain ⟨A, c, rfl, _, _⟩ := hv
  obtain ⟨n, hn⟩ : ∃ n, n = l.length := ⟨_, rfl⟩
  have Hn := Lib.hid hn
  rw [← hn] at hl ⊢
  clear hn
  go_enter Try.func55, Try.ntmps55
  go_wp2
  go_loopw [8] (fun i wr => ∃ k : Nat, k ≤ n ∧ i = .int .i64 k ∧ Hid ((l.take k).any (fun t => !Va.right t.1 t.2) = false) ∧ Below w.heap.size w wr) (fun i _ => n - (intOf i).toNat)
  case atStart => exact ⟨0, Nat.zero_le _, rfl, Lib.hid (by simp), Below.refl _ _⟩
  case round =>
    obtain ⟨k, hk, rfl, hno, hb⟩ := hrel
    by_cases hlt : k < n
    · obtain ⟨x, gx⟩ : ∃ x, l[k]? = some x := ⟨l[k]'(by have := Hn.out; omega), List.getElem?_eq_getElem _⟩
      obtain ⟨b1, o1, p1, rfl, _, hcell⟩ := HV.out.pair gx
      obtain ⟨c0, c1⟩ := hcell wr hb
      have ht : l.take (k + 1) = l.take k ++ [x] := by rw [List.take_add_one, gx]; rfl
      have Gx := Lib.hid gx
      clear gx hcell
      obtain ⟨r, hr⟩ : ∃ r, r = (!Va.right x.1 x.2) := ⟨_, rfl⟩
      have hs : Calls Try.prog 37 #[.agg #[.bool x.1, .int .i64 x.2]] wr fun e w' => e = .returned (.bool r) ∧ Below wr.heap.size wr w' := by
        rw [hr]; exact wrong_any x.1 x.2 wr
      have Hr := Lib.hid hr
      have Ht := Lib.hid ht
      clear hr ht
      cases r with
      | true =>
        have hyes : Hid (l.any (fun t => !Va.right t.1 t.2) = true) := Lib.hid (List.any_eq_true.2 ⟨x, List.mem_of_getElem? Gx.out, Hr.out.symm⟩)
        go_wp2_with fail
        refine hs.mono ?_
        rintro e w2 ⟨rfl, hb2⟩
        go_wp2_with fail
        go_ret
        exact ⟨⟨k, rfl, by rw [hyes.out]; simp⟩, below_join hb hb2⟩
      | false =>
        have hno2 : Hid ((l.take (k + 1)).any (fun t => !Va.right t.1 t.2) = false) := Lib.hid (by rw [Ht.out, List.any_append, hno.out]; simpa using Hr.out)
        go_wp2_with fail
        refine hs.mono ?_
        rintro e w2 ⟨rfl, hb2⟩
        go_wp2_with fail
        go_roundw
        case rel => exact ⟨k + 1, by omega, by go_num, hno2, below_join hb hb2⟩
        case measure => simp [intOf]; omega
    · have hend : Hid (l.any (fun t => !Va.right t.1 t.2) = false) := Lib.hid (by rw [← hno.out, List.take_of_length_le (by have := Hn.out; omega)])
      go_wp2
      go_ret
      exact ⟨⟨-1, rfl, by rw [hend.out]; rfl⟩, hb⟩
set_option maxRecDepth 100000 in
theorem containsw_any (v : Value) (l : List Vl) (w : World) (hv : RowAt w v l) (hl : l.length ≤ 9223372036854775807) :
    Calls Try.prog 36 #[v, .func (.func 37) #[] #[]] w fun e w' => e = .returned (.bool (l.any (fun t => !Va.right t.1 t.2))) ∧ Below w.heap.size w w' := by
  have hi := indexw_any v l w hv hl
  obtain ⟨A, c, rfl, _, _⟩ := hv
  go_enter Try.func36, Try.ntmps36
  go_wp2_with fail
  refine hi.mono ?_
  rintro e w' ⟨⟨r, rfl, hr⟩, hb⟩
  go_wp2_with fail
  go_ret
  exact ⟨by rw [← hr]; rfl, hb⟩
theorem fits_row (r : List Vl) (n : Int) : (decide ((r.length : Int) = n) && r.all fun v => Va.right v.1 v.2) = !(decide ((r.length : Int) ≠ n) || r.any fun v => !Va.right v.1 v.2) := by
  rw [List.all_eq_not_any_not]
  by_cases h : (r.length : Int) = n <;> simp [h]
set_option maxRecDepth 100000 in
theorem conforms_any (v : Value) (rs : List (List Vl)) (m : Nat) (w : World) (hv : Rws w v rs) (hm : m ≤ 100) :
    Calls Try.prog 24 #[v, .int .i64 (m : Int)] w fun e w' => e = .returned (.bool (Ck.fits rs (m : Int))) ∧ Below w.heap.size w w' := by
  have HV := Lib.hid hv
  obtain ⟨A, c, rfl, hc, _⟩ := hv.at_
  obtain ⟨n, hn⟩ : ∃ n, n = rs.length := ⟨_, rfl⟩
  have Hn := Lib.hid hn
  rw [← hn] at hc ⊢
  clear hn hv
  by_cases hbig : n ≤ 1000
  · have hf : Hid (Ck.fits rs (m : Int) = rs.all fun r => decide ((r.length : Int) = m) && r.all fun v => Va.right v.1 v.2) := Lib.hid (by
      unfold Ck.fits; rw [decide_eq_true (by have := Hn.out; omega), Bool.true_and])
    go_enter Try.func24, Try.ntmps24
    go_wp2_with fail
    go_loopw [12] (fun i wr => ∃ k : Nat, k ≤ n ∧ i = .int .i64 k ∧ Hid ((rs.take k).all (fun r => decide ((r.length : Int) = m) && r.all fun v => Va.right v.1 v.2) = true) ∧ Below w.heap.size w wr) (fun i _ => n - (intOf i).toNat)
    case atStart => exact ⟨0, Nat.zero_le _, rfl, Lib.hid (by simp), Below.refl _ _⟩
    case round =>
      obtain ⟨k, hk, rfl, hno, hb⟩ := hrel
      by_cases hlt : k < n
      · obtain ⟨r, gx⟩ : ∃ r, rs[k]? = some r := ⟨rs[k]'(by have := Hn.out; omega), List.getElem?_eq_getElem _⟩
        obtain ⟨A', c', hA, _, hx⟩ := (HV.out.below hb (Nat.le_refl _)).at_
        obtain ⟨b1, o1, p1, B, d, rfl, hcell, _, hrow⟩ := hx k r gx
        have hsl : A = some ⟨b1, o1, p1⟩ := by cases hA; rfl
        subst hsl
        have ht : rs.take (k + 1) = rs.take k ++ [r] := by rw [List.take_add_one, gx]; rfl
        have Gx := Lib.hid gx
        have Ht := Lib.hid ht
        clear gx hx hA ht
        by_cases hrm : r.length = m
        · have cs := containsw_any _ r wr hrow (by omega)
          rw [hrm] at hcell cs
          have hrm' : (((m : Nat) : Int) != (m : Int)) = false := by simp
          obtain ⟨z, hz⟩ : ∃ z, z = r.any (fun t => !Va.right t.1 t.2) := ⟨_, rfl⟩
          rw [← hz] at cs
          have Hz := Lib.hid hz
          have Hrm := Lib.hid hrm
          clear hz hrm hrow
          cases z with
          | true =>
            have hend : Hid (Ck.fits rs (m : Int) = false) := Lib.hid (by
              rw [hf.out, Bool.eq_false_iff]
              intro h
              have h2 := List.all_eq_true.1 h r (List.mem_of_getElem? Gx.out)
              rw [fits_row, ← Hz.out] at h2
              simp at h2)
            go_wp2_with fail
            refine cs.mono ?_
            rintro e w2 ⟨rfl, hb2⟩
            go_wp2_with fail
            go_ret
            exact ⟨by rw [hend.out]; rfl, below_join hb hb2⟩
          | false =>
            have hno2 : Hid ((rs.take (k + 1)).all (fun r => decide ((r.length : Int) = m) && r.all fun v => Va.right v.1 v.2) = true) := Lib.hid (by
              rw [Ht.out, List.all_append, hno.out, Bool.true_and, List.all_cons, List.all_nil, Bool.and_true, fits_row, ← Hz.out, Hrm.out]
              simp)
            go_wp2_with fail
            refine cs.mono ?_
            rintro e w2 ⟨rfl, hb2⟩
            go_wp2_with fail
            go_roundw
            case rel => exact ⟨k + 1, by omega, by go_num, hno2, below_join hb hb2⟩
            case measure => simp [intOf]; omega
        · have hrm' : ((r.length : Int) != (m : Int)) = true := by simp; omega
          have hend : Hid (Ck.fits rs (m : Int) = false) := Lib.hid (by
            rw [hf.out, Bool.eq_false_iff]
            intro h
            have h2 := List.all_eq_true.1 h r (List.mem_of_getElem? Gx.out)
            rw [decide_eq_false (by omega)] at h2
            simp at h2)
          clear hrow
          go_wp2_with fail
          go_ret
          exact ⟨by rw [hend.out]; rfl, hb⟩
      · have hend : Hid (Ck.fits rs (m : Int) = true) := Lib.hid (by rw [hf.out, ← hno.out, List.take_of_length_le (by have := Hn.out; omega)])
        go_wp2_with fail
        go_ret
        exact ⟨by rw [hend.out]; rfl, hb⟩
  · have hf : Hid (Ck.fits rs (m : Int) = false) := Lib.hid (by
      unfold Ck.fits; rw [decide_eq_false (by have := Hn.out; omega), Bool.false_and])
    go_enter Try.func24, Try.ntmps24
    go_wp2_with fail
    go_ret
    exact ⟨by rw [hf.out]; rfl, Below.refl _ _⟩
end Go.Proofs.Ytdcgfhenlddmeaa
