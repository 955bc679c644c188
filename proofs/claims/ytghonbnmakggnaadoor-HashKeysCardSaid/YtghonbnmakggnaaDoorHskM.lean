/-
  A TUPLE's KEY: package hash's Key, by a builder; the document's, by strings one behind the other.
-/
import Derived.Test.YtghonbnmakggnaaDoorHstM
import Derived.Test.YtghonbnmakggnaaDoorBwrM
import Derived.Test.YtghonbnmakggnaaDoorValcM
import Derived.Test.YtghonbnmakggnaaDoorGTerms
namespace Go.Proofs.YtghonbnmakggnaaDoor
open Go.RowKit Go.Sort
set_option maxHeartbeats 6400000

def Hs.I64 (n : Int) : Prop := -9223372036854775808 ≤ n ∧ n ≤ 9223372036854775807
theorem Hs.prt_le {v : Vl} (h : Hs.I64 v.2) : (Hs.prt v).length ≤ 21 := by
  unfold Hs.prt
  split
  · decide
  · exact Lib.itoa_length_le _ h.1 h.2
theorem Hs.text_le {rs : List (List Vl)} : ∀ (xs : List Tm), (∀ x ∈ xs, Hs.I64 (Te.val x rs).2) → (Hs.text xs rs).length ≤ xs.length * 22
  | [], _ => by simp [Hs.text]
  | x :: xs, h => by
    have h1 := Hs.text_le xs fun y hy => h y (List.mem_cons_of_mem _ hy)
    have h2 := Hs.prt_le (h x List.mem_cons_self)
    have e : Hs.text (x :: xs) rs = (Hs.prt (Te.val x rs) ++ [44]) ++ Hs.text xs rs := by unfold Hs.text; rw [List.flatMap_cons]
    rw [e, List.length_append, List.length_append, List.length_cons]
    simp only [List.length_cons, List.length_nil]
    omega
theorem Hs.key_le {rs : List (List Vl)} {xs : List Tm} {k : List UInt8} (h : Hs.key xs rs = some k) (hi : ∀ x ∈ xs, Hs.I64 (Te.val x rs).2) : k.length ≤ xs.length * 22 := by
  unfold Hs.key at h
  split at h
  · cases h
  · cases h; exact Hs.text_le xs hi
/-- what Key tells -/
def KeyIs (w : World) (k : Option (List UInt8)) (E : Ending) (w' : World) : Prop :=
  E = .returned (.tuple #[.string ⟨(k.getD []).toArray⟩, .bool k.isSome]) ∧ Below w.heap.size w w'
set_option maxRecDepth 100000 in
theorem hkey_any (tv v : Value) (xs : List Tm) (rs : List (List Vl)) (w : World) (ht : TmsAt w tv xs) (hv : Rws w v rs) (hP : Pows w) (hi : ∀ x ∈ xs, Hs.I64 (Te.val x rs).2) (hn : xs.length ≤ 1000) :
    Calls Tryd.prog 9 #[tv, v] w (KeyIs w (Hs.key xs rs)) := by
  obtain ⟨A0, c0, rfl, _⟩ := ht.form
  obtain ⟨W0, hW0⟩ : ∃ W0, W0 = w.alloc (.cells #[.pointer none, .slice none 0 0] 55) := ⟨_, rfl⟩
  obtain ⟨n, hnn⟩ : ∃ n, n = xs.length := ⟨_, rfl⟩
  rw [← hnn] at ht hn ⊢
  have h0 := fresh_bld w
  have hb0 := below_new w (.cells #[.pointer none, .slice none 0 0] 55)
  rw [← hW0] at h0 hb0
  have HT := Lib.hid ht
  have HV := Lib.hid hv
  have HP := Lib.hid hP
  have HI := Lib.hid hi
  have HN := Lib.hid hnn
  have HW := Lib.hid hW0
  have HS0 := Lib.hid (show W0.heap.size = w.heap.size + 1 by rw [hW0, World.size_alloc])
  have H0 := Lib.hid (Wr.refl h0)
  have HB0 := Lib.hid hb0
  clear ht hv hP hi hnn hW0 h0 hb0
  go_enter Tryd.func9, Tryd.ntmps9
  go_wp2_with fail
  rw [← HW.out]
  go_loopw [12] (fun i wr => ∃ q : Nat, q ≤ n ∧ i = .int .i64 q ∧ Hid (Hs.nulls (xs.take q) rs = false) ∧ Wr w.heap.size w.heap.size (Hs.text (xs.take q) rs) W0 wr) (fun i _ => n - (intOf i).toNat)
  case atStart => exact ⟨0, Nat.zero_le _, rfl, Lib.hid rfl, H0.out⟩
  case round =>
    obtain ⟨q, hq, rfl, HZ, hwr⟩ := hrel
    have hBr : w.heap.size ≤ wr.heap.size := by have := hwr.low.size; have := HS0.out; omega
    have hlt0 : w.heap.size < wr.heap.size := by
      rcases hwr.bld with h | h
      · exact h.lt
      · exact h.lt
    have hbW : Below w.heap.size w wr := HB0.out.trans hwr.low
    by_cases hlt : q < n
    · obtain ⟨x, gx⟩ : ∃ x, xs[q]? = some x := ⟨xs[q]'(by have := HN.out; omega), List.getElem?_eq_getElem _⟩
      obtain ⟨b, o, p, rfl, hx⟩ := HT.out.at_ gx
      obtain ⟨y0, y1, y2, y3, y4⟩ := hx wr hbW
      have i1 : (0 : Int) ≤ (q : Int) := by omega
      have i2 : (q : Int) < (n : Int) := by omega
      have hb1 := below_new wr (Obj.cells #[.int .i64 x.k, .int .i64 x.t, .int .i64 x.c, .bool x.z, .int .i64 x.n] 35)
      have hw1 := hwr.grown hBr hb1
      have hb01 : Below w.heap.size w (wr.alloc (Obj.cells #[.int .i64 x.k, .int .i64 x.t, .int .i64 x.c, .bool x.z, .int .i64 x.n] 35)) := hbW.trans (below_low hb1 hBr)
      have co := tof_any x.k x.t x.c x.z x.n v rs _ (HV.out.below hb01 (Nat.le_refl _))
      have hmm : Hs.I64 (Te.val x rs).2 := HI.out x (List.mem_of_getElem? gx)
      have htk := Hs.text_take (t := rs) gx
      have hnk := Hs.nulls_take (t := rs) gx
      have hnm := Hs.nulls_mem (t := rs) gx
      have hle := Hs.text_le (rs := rs) (xs.take q) fun y hy => HI.out y (List.mem_of_mem_take hy)
      rw [List.length_take] at hle
      change Calls Tryd.prog _ _ _ (fun e w' => e = .returned (.agg #[.bool (Te.val x rs).1, .int .i64 (Te.val x rs).2]) ∧ _) at co
      obtain ⟨⟨z, m⟩, hzm⟩ : ∃ zm, zm = Te.val x rs := ⟨_, rfl⟩
      rw [← hzm] at co hmm htk hnk hnm
      dsimp only at co hmm hnk hnm
      rw [HZ.out, Bool.false_or] at hnk
      have hS1 : w.heap.size ≤ (wr.alloc (Obj.cells #[.int .i64 x.k, .int .i64 x.t, .int .i64 x.c, .bool x.z, .int .i64 x.n] 35)).heap.size := by simp; omega
      have HW1 := Lib.hid hw1
      have HB01 := Lib.hid hb01
      have HTK := Lib.hid htk
      have HNK := Lib.hid hnk
      have HS1 := Lib.hid hS1
      have hle2 : (Hs.text (xs.take q) rs).length ≤ 22000 := by omega
      have HLE := Lib.hid hle2
      clear gx hx hb1 hw1 hb01 htk hnk hzm HZ hwr hlt0 hS1 hle hle2 hlt
      cases z with
      | true =>
        have HNM := Lib.hid (Hs.key_null (hnm rfl))
        clear hnm
        go_wp2_with fail
        refine co.mono ?_
        rintro e w2 ⟨rfl, hb2⟩
        have HB2 := Lib.hid (HB01.out.trans (below_low hb2 HS1.out))
        have HS2 := Lib.hid (Nat.le_trans HS1.out hb2.size)
        clear co hb2 y0 y1 y2 y3 y4
        go_wp2_with fail
        go_ret2
        rw [HNM.out]
        exact ⟨rfl, HB2.out.alloc HS2.out _⟩
      | false =>
        clear hnm
        have HMM := Lib.hid hmm
        go_wp2_with fail
        refine co.mono ?_
        rintro e w2 ⟨rfl, hb2⟩
        obtain ⟨W3, hW3⟩ : ∃ W3, W3 = w2.alloc (Obj.cells #[.bool false, .int .i64 m] 33) := ⟨_, rfl⟩
        obtain ⟨l3, hb3⟩ := box_one (cs := [.bool false, .int .i64 m]) hW3
        have hb13 := below_join hb2 hb3
        have hw3 := HW1.out.grown HS1.out hb13
        have HB3 := Lib.hid (HB01.out.trans (below_low hb13 HS1.out))
        have HS3 := Lib.hid (Nat.le_trans HS1.out hb13.size)
        have HW3 := Lib.hid hw3
        have HEQ := Lib.hid hW3
        have cp := print_any false m W3 HMM.out.1 HMM.out.2 (HP.out.below HB3.out (Nat.le_refl _))
        have k0 := l3.cell (i := 0) rfl
        have k1 := l3.cell (i := 1) rfl
        rw [hW3] at k0 k1
        clear co hb2 y0 y1 y2 y3 y4 hW3 l3 hb3 hb13 hw3
        go_wp2_with fail
        rw [← HEQ.out]
        refine cp.mono ?_
        rintro e w4 ⟨rfl, hb4⟩
        have hw4 := HW3.out.grown HS3.out hb4
        have HS4 := Lib.hid (Nat.le_trans HS3.out hb4.size)
        have hpl : (prt false m).length ≤ 21 := Hs.prt_le (v := (false, m)) HMM.out
        have cs := wstring_any w.heap.size w.heap.size _ (prt false m) w4 hw4.bld (by have := HLE.out; omega) HS4.out
        have HW4 := Lib.hid hw4
        have HPL := Lib.hid hpl
        clear cp k0 k1 hb4 hw4 hpl
        go_wp2_with fail
        refine cs.mono ?_
        rintro e w5 ⟨⟨n5, rfl⟩, h5⟩
        have hw5 := HW4.out.trans h5
        have HS5 := Lib.hid (Nat.le_trans HS4.out (h5.low.size))
        have cb := wbyte_any w.heap.size w.heap.size _ 44 w5 hw5.bld (by rw [List.length_append]; have := HLE.out; have := HPL.out; omega) HS5.out
        rw [show (((44 : UInt8).toNat : Nat) : Int) = 44 from rfl] at cb
        have HW5 := Lib.hid hw5
        clear cs h5 hw5
        go_wp2_with fail
        refine cb.mono ?_
        rintro e w6 ⟨rfl, h6⟩
        have hw6 := HW5.out.trans h6
        have HF := Lib.hid (show Wr w.heap.size w.heap.size (Hs.text (xs.take (q + 1)) rs) W0 w6 by
          rw [HTK.out, ← List.append_assoc]
          exact hw6)
        clear cb h6 hw6
        go_wp2_with fail
        go_roundw
        case rel => exact ⟨q + 1, by omega, by go_num, HNK, HF.out⟩
        case measure => simp [intOf]; omega
    · have hres := Lib.hid (show Hs.key xs rs = some (Hs.text (xs.take q) rs) from by
        have hz := HZ.out
        rw [List.take_of_length_le (by have := HN.out; omega)] at hz ⊢
        exact Hs.key_some hz)
      have i2 : ¬ ((q : Int) < (n : Int)) := by omega
      have cs := Tryd.Builder_String_any_k w.heap.size w.heap.size (Hs.text (xs.take q) rs) wr hwr.bld hBr
      have HBW := Lib.hid hbW
      clear hlt hwr hbW hlt0
      go_wp2_with fail
      refine cs.mono ?_
      rintro e w4 ⟨rfl, _, h4, _⟩
      clear cs
      go_wp2_with fail
      go_ret2
      rw [hres.out]
      exact ⟨rfl, HBW.out.trans h4⟩
set_option maxRecDepth 100000 in
theorem r15key_any (tv v : Value) (xs : List Tm) (rs : List (List Vl)) (w : World) (ht : TmsAt w tv xs) (hv : Rws w v rs) (hl : rs.length ≤ 1000) (hr : ∀ r ∈ rs, r.length ≤ 1000) (hi : ∀ x ∈ xs, Hs.I64 (Te.val x rs).2) (hn : xs.length ≤ 1000) :
    Calls Tryd.prog 10 #[tv, v] w (KeyIs w (Hs.key xs rs)) := by
  obtain ⟨A0, c0, rfl, _⟩ := ht.form
  obtain ⟨n, hnn⟩ : ∃ n, n = xs.length := ⟨_, rfl⟩
  rw [← hnn] at ht hn ⊢
  have HT := Lib.hid ht
  have HV := Lib.hid hv
  have HLR := Lib.hid (And.intro hl hr)
  have HI := Lib.hid hi
  have HN := Lib.hid hnn
  clear ht hv hl hr hi hnn
  go_enter Tryd.func10, Tryd.ntmps10
  go_wp2_with fail
  go_loopw [6, 7] (fun s i wr => ∃ q : Nat, q ≤ n ∧ i = .int .i64 q ∧ s = .string ⟨(Hs.text (xs.take q) rs).toArray⟩ ∧ Hid (Hs.nulls (xs.take q) rs = false) ∧ Below w.heap.size w wr) (fun _ i _ => n - (intOf i).toNat)
  case atStart => exact ⟨0, Nat.zero_le _, rfl, rfl, Lib.hid rfl, Below.refl _ _⟩
  case round =>
    obtain ⟨q, hq, rfl, rfl, HZ, hbW⟩ := hrel
    by_cases hlt : q < n
    · obtain ⟨x, gx⟩ : ∃ x, xs[q]? = some x := ⟨xs[q]'(by have := HN.out; omega), List.getElem?_eq_getElem _⟩
      obtain ⟨b, o, p, rfl, hx⟩ := HT.out.at_ gx
      obtain ⟨y0, y1, y2, y3, y4⟩ := hx wr hbW
      have i1 : (0 : Int) ≤ (q : Int) := by omega
      have i2 : (q : Int) < (n : Int) := by omega
      have co := r5of_any x.k x.t x.c x.z x.n v rs _ (HV.out.below hbW (Nat.le_refl _)) HLR.out.1 HLR.out.2
      have hmm : Hs.I64 (Te.val x rs).2 := HI.out x (List.mem_of_getElem? gx)
      have htk := Hs.text_take (t := rs) gx
      have hnk := Hs.nulls_take (t := rs) gx
      have hnm := Hs.nulls_mem (t := rs) gx
      have hle := Hs.text_le (rs := rs) (xs.take q) fun y hy => HI.out y (List.mem_of_mem_take hy)
      rw [List.length_take] at hle
      change Calls Tryd.prog _ _ _ (fun e w' => e = .returned (.agg #[.bool (Te.val x rs).1, .int .i64 (Te.val x rs).2]) ∧ _) at co
      obtain ⟨⟨z, m⟩, hzm⟩ : ∃ zm, zm = Te.val x rs := ⟨_, rfl⟩
      rw [← hzm] at co hmm htk hnk hnm
      dsimp only at co hmm hnk hnm
      rw [HZ.out, Bool.false_or] at hnk
      have HTK := Lib.hid htk
      have HNK := Lib.hid hnk
      have HBW := Lib.hid hbW
      have hle2 : (Hs.text (xs.take q) rs).length ≤ 22000 := by omega
      obtain ⟨X, hX⟩ : ∃ X, X = Hs.text (xs.take q) rs := ⟨_, rfl⟩
      rw [← hX] at hle2 HTK ⊢
      have HLE := Lib.hid hle2
      clear gx hx htk hnk hzm HZ hle hle2 hlt hX hbW
      cases z with
      | true =>
        have HNM := Lib.hid (Hs.key_null (hnm rfl))
        clear hnm
        go_wp2_with fail
        refine co.mono ?_
        rintro e w2 ⟨rfl, hb2⟩
        have HB2 := Lib.hid (below_join HBW.out hb2)
        clear co hb2 y0 y1 y2 y3 y4
        go_wp2_with fail
        go_ret2
        rw [HNM.out]
        exact ⟨rfl, HB2.out.alloc HB2.out.size _⟩
      | false =>
        clear hnm
        have HMM := Lib.hid hmm
        go_wp2_with fail
        refine co.mono ?_
        rintro e w2 ⟨rfl, hb2⟩
        obtain ⟨W3, hW3⟩ : ∃ W3, W3 = w2.alloc (Obj.cells #[.bool false, .int .i64 m] 33) := ⟨_, rfl⟩
        obtain ⟨l3, hb3⟩ := box_one (cs := [.bool false, .int .i64 m]) hW3
        have HB3 := Lib.hid (below_join (below_join HBW.out hb2) hb3)
        have HEQ := Lib.hid hW3
        have cp := rprint_any false m W3 HMM.out.1 HMM.out.2
        have hpl : (prt false m).length ≤ 21 := Hs.prt_le (v := (false, m)) HMM.out
        obtain ⟨Y, hY⟩ : ∃ Y, Y = prt false m := ⟨_, rfl⟩
        rw [← hY] at cp hpl
        have k0 := l3.cell (i := 0) rfl
        have k1 := l3.cell (i := 1) rfl
        rw [hW3] at k0 k1
        have HTK2 := Lib.hid (show Hs.text (xs.take (q + 1)) rs = X ++ (Y ++ [44]) by rw [HTK.out, hY]; rfl)
        have z1 : ¬ 9223372036854775807 < X.length + Y.length := by have := HLE.out; omega
        have z2 : ¬ 9223372036854775807 < X.length + Y.length + 1 := by have := HLE.out; omega
        clear co hb2 y0 y1 y2 y3 y4 hW3 l3 hb3 hpl hY
        go_wp2_with fail
        rw [← HEQ.out]
        refine cp.mono ?_
        rintro e w4 ⟨rfl, hb4⟩
        have HB4 := Lib.hid (below_join HB3.out hb4)
        clear cp k0 k1 hb4
        go_wp2_with fail
        go_roundw
        case rel => exact ⟨q + 1, by omega, by go_num, by rw [HTK2.out, show (⟨#[44]⟩ : ByteArray) = ⟨[44].toArray⟩ from rfl, app_l, app_l, List.append_assoc], HNK, HB4.out⟩
        case measure => simp [intOf]; omega
    · have hres := Lib.hid (show Hs.key xs rs = some (Hs.text (xs.take q) rs) from by
        have hz := HZ.out
        rw [List.take_of_length_le (by have := HN.out; omega)] at hz ⊢
        exact Hs.key_some hz)
      have i2 : ¬ ((q : Int) < (n : Int)) := by omega
      have HBW := Lib.hid hbW
      clear hlt hbW
      go_wp2_with fail
      go_ret2
      rw [hres.out]
      exact ⟨rfl, HBW.out⟩
end Go.Proofs.YtghonbnmakggnaaDoor
