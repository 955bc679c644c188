/-
  package check: Data.
-/
import Derived.Test.YtdcgfhenlddmeaaCkuM
import Derived.Test.YtdcgfhenlddmeaaCkoM
namespace Go.Proofs.Ytdcgfhenlddmeaa
open Go.RowKit Go.Sort
set_option maxHeartbeats 6400000

/-- the slice value v reads, in w, as these lists of rows -/
def Dts (w : World) (v : Value) (d : List (List (List Vl))) : Prop :=
  ∃ A c, v = .slice A d.length c ∧ d.length ≤ c ∧ ∀ j rs, d[j]? = some rs → ∃ b o p B e, A = some ⟨b, o, p⟩ ∧ b < w.heap.size ∧ w.cell? ((⟨b, o, p⟩ : Addr).add j) = some (.slice B rs.length e) ∧ Rws w (.slice B rs.length e) rs
theorem Dts.below {w w' : World} {B : Nat} {v : Value} {d : List (List (List Vl))} (h : Dts w v d) (hb : Below B w w') (hB : w.heap.size ≤ B) : Dts w' v d := by
  obtain ⟨A, c, hv, hc, hx⟩ := h
  refine ⟨A, c, hv, hc, fun j rs hj => ?_⟩
  obtain ⟨b, o, p, B', e, hA, hlt, h0, h1⟩ := hx j rs hj
  exact ⟨b, o, p, B', e, hA, Nat.lt_of_lt_of_le hlt hb.size, (hb.cell (by rw [add_block]; show b < B; omega)).trans h0, h1.below hb hB⟩
theorem Dts.at_ {w : World} {A : Option Addr} {n c j : Nat} {d : List (List (List Vl))} {rs : List (List Vl)} (h : Dts w (.slice A n c) d) (hj : d[j]? = some rs) : ∃ b o p B e, A = some ⟨b, o, p⟩ ∧ b < w.heap.size ∧ w.cell? ((⟨b, o, p⟩ : Addr).add j) = some (.slice B rs.length e) ∧ Rws w (.slice B rs.length e) rs := by
  obtain ⟨A', c', hv, _, hx⟩ := h
  cases hv
  exact hx j rs hj
theorem Ck.query_zero {cols : List Int} {a : Tr} (h : Ck.query cols a = 0) : cols.length ≤ 64 ∧ ∀ x ∈ cols, 1 ≤ x ∧ x ≤ 4 := by
  unfold Ck.query at h
  split at h
  · simp at h
  · rename_i h1
    split at h
    · simp at h
    · rename_i h2
      refine ⟨by omega, fun x hx => ?_⟩
      have h3 : ¬ ((decide (x < 1) || decide (4 < x)) = true) := fun hh => h2 (List.any_eq_true.2 ⟨x, hx, hh⟩)
      simp at h3
      omega
theorem zip_at11 {d : List (List (List Vl))} {cols : List Int} {q : Nat} {rs : List (List Vl)} {m : Int} (h1 : d[q]? = some rs) (h2 : cols[q]? = some m) : (d.zip cols)[q]? = some (rs, m) := by
  rw [List.getElem?_zip_eq_some]
  exact ⟨h1, h2⟩
set_option maxRecDepth 100000 in
theorem data11_any (a : Tr) (cols : List Int) (cv : Value) (u v dv : Value) (d : List (List (List Vl))) (w : World) (hc : Sl w cv (cols.map (Value.int .i64))) (hu : ∃ d, TsAt d w u a.ks) (hv : PsSome w v a.cs) (hd : Dts w dv d) (hsz : Tr.size a ≤ 1000) :
    Calls Try.prog 13 #[.agg #[cv, .int .i64 a.k, .int .i64 a.t, u, v, .bool a.h], dv] w
      fun e w' => e = .returned (.int .i64 (Ck.data cols a d)) ∧ Below w.heap.size w w' := by
  obtain ⟨A, c, rfl, hl⟩ := hu.elim fun d h => h.form
  obtain ⟨A', c', rfl, hl'⟩ := hv.elim fun d h => h.form
  obtain ⟨C, cc, hcv, _⟩ := id hc
  subst hcv
  obtain ⟨D, dc, hdv, _, _⟩ := id hd
  subst hdv
  rw [List.length_map] at hc ⊢
  obtain ⟨n, hn⟩ : ∃ n, n = cols.length := ⟨_, rfl⟩
  rw [← hn] at hc ⊢
  obtain ⟨m, hm⟩ : ∃ m, m = d.length := ⟨_, rfl⟩
  rw [← hm] at hd ⊢
  obtain ⟨W0, hW0⟩ : ∃ W0, W0 = w.alloc (Obj.cells #[.slice C n cc, .int .i64 a.k, .int .i64 a.t, .slice A a.ks.length c, .slice A' a.cs.length c', .bool a.h] 28) := ⟨_, rfl⟩
  obtain ⟨l0, hb0⟩ := box_one (cs := [.slice C n cc, .int .i64 a.k, .int .i64 a.t, .slice A a.ks.length c, .slice A' a.cs.length c', .bool a.h]) hW0
  have x0 := l0.cell (i := 0) rfl
  have x1 := l0.cell (i := 1) rfl
  have x2 := l0.cell (i := 2) rfl
  have x3 := l0.cell (i := 3) rfl
  have x4 := l0.cell (i := 4) rfl
  have x5 := l0.cell (i := 5) rfl
  have ct := query11_any a cols _ _ _ W0 (hc.below hb0 (Nat.le_refl _)) (hu.elim fun d h => ⟨d, h.below hb0 (Nat.le_refl _)⟩) (hv.below hb0 (Nat.le_refl _)) hsz
  have HC := Lib.hid (hc.below hb0 (Nat.le_refl _))
  have HD := Lib.hid (hd.below hb0 (Nat.le_refl _))
  have HL0 := Lib.hid l0
  have HW := Lib.hid hW0
  have HB := Lib.hid hb0
  have HN := Lib.hid hn
  have HM := Lib.hid hm
  obtain ⟨R, hR⟩ : ∃ R, R = Ck.data cols a d := ⟨_, rfl⟩
  rw [← hR]
  unfold Ck.data at hR
  obtain ⟨z, hz⟩ : ∃ z, z = Ck.query cols a := ⟨_, rfl⟩
  rw [← hz] at ct hR
  have HZ := Lib.hid hz
  clear hc hd hu hv hsz l0 hb0 hW0 hn hm hz
  by_cases hz0 : z = 0
  · obtain ⟨h64, hcol⟩ := Ck.query_zero (HZ.out.symm.trans hz0)
    subst hz0
    rw [if_neg (by simp)] at hR
    have HCOL := Lib.hid hcol
    have hn64 : n ≤ 64 := by have := HN.out; omega
    clear hcol h64
    by_cases hmn : m = n
    · rw [if_neg (by have := HN.out; have := HM.out; omega)] at hR
      have HR := Lib.hid hR
      subst hmn
      clear hR
      go_enter Try.func13, Try.ntmps13
      go_upto_region 1 with (fail)
      rw [← HW.out]
      go_wp2_with fail
      refine ct.mono ?_
      rintro e w1 ⟨rfl, hb1⟩
      clear ct x0 x1 x2 x3 x4 x5
      have x0 := (HL0.out.below hb1 HL0.out.lt).cell (i := 0) rfl
      go_wp2_with fail
      clear x0
      go_loopw [21] (fun i wr => ∃ q : Nat, q ≤ m ∧ i = .int .i64 q ∧ Hid (((d.zip cols).take q).all (fun x => Ck.fits x.1 x.2) = true) ∧ Below W0.heap.size W0 wr) (fun i _ => m - (intOf i).toNat)
      case atStart => exact ⟨0, Nat.zero_le _, rfl, Lib.hid (by simp), hb1⟩
      case round =>
        obtain ⟨q, hq, rfl, hok, hb⟩ := hrel
        by_cases hlt : q < m
        · obtain ⟨rs, gr⟩ : ∃ x, d[q]? = some x := ⟨d[q]'(by have := HM.out; omega), List.getElem?_eq_getElem _⟩
          obtain ⟨x, gx⟩ : ∃ x, cols[q]? = some x := ⟨cols[q]'(by have := HN.out; omega), List.getElem?_eq_getElem _⟩
          have hxb := HCOL.out x (List.mem_of_getElem? gx)
          obtain ⟨k, rfl⟩ : ∃ k : Nat, x = k := ⟨x.toNat, by omega⟩
          obtain ⟨b1, o1, p1, rfl, _, hcell⟩ := (HC.out.below hb (Nat.le_refl _)).ints_at gx
          obtain ⟨b2, o2, p2, B2, e2, hD, _, hcell2, hrs⟩ := (HD.out.below hb (Nat.le_refl _)).at_ gr
          subst hD
          have cf := conforms_any _ rs k wr hrs (by omega)
          have x0 := (HL0.out.below hb HL0.out.lt).cell (i := 0) rfl
          have gz := zip_at11 gr gx
          have HGZ := Lib.hid gz
          obtain ⟨f, hf⟩ : ∃ f, f = Ck.fits rs (k : Int) := ⟨_, rfl⟩
          rw [← hf] at cf
          have HF := Lib.hid hf
          clear gr gx gz hf hrs hxb
          cases f with
          | true =>
            have hok2 := Lib.hid (show ((d.zip cols).take (q + 1)).all (fun x => Ck.fits x.1 x.2) = true by
              rw [List.take_add_one, HGZ.out, List.all_append, hok.out]
              simp [← HF.out])
            go_wp2_with fail
            refine cf.mono ?_
            rintro e w2 ⟨rfl, hb2⟩
            have hb3 := below_join hb hb2
            clear cf x0 hcell hcell2
            go_wp2_with fail
            go_roundw
            case rel => exact ⟨q + 1, by omega, by go_num, hok2, hb3⟩
            case measure => simp [intOf]; omega
          | false =>
            have hr : R = 13 := by
              rw [HR.out, if_neg]
              unfold Ck.fitAll
              intro hh
              have := List.all_eq_true.1 hh _ (List.mem_of_getElem? HGZ.out)
              rw [← HF.out] at this
              simp at this
            go_wp2_with fail
            refine cf.mono ?_
            rintro e w2 ⟨rfl, hb2⟩
            have hb3 := below_join hb hb2
            clear cf x0 hcell hcell2
            go_wp2_with fail
            go_ret
            exact ⟨by first | rfl | (rw [hr]; rfl), below_join HB.out hb3⟩
        · have hr : R = 0 := by
            rw [HR.out, if_pos]
            unfold Ck.fitAll
            rw [← hok.out, List.take_of_length_le]
            rw [List.length_zip, ← HM.out, ← HN.out]; omega
          clear hok
          go_wp2_with fail
          go_ret
          exact ⟨by first | rfl | (rw [hr]; rfl), below_join HB.out hb⟩
    · rw [if_pos (by have := HN.out; have := HM.out; omega)] at hR
      subst hR
      have hmn' : ((m : Int) != (n : Int)) = true := by simp; omega
      go_enter Try.func13, Try.ntmps13
      go_upto_region 1 with (fail)
      rw [← HW.out]
      go_wp2_with fail
      refine ct.mono ?_
      rintro e w1 ⟨rfl, hb1⟩
      clear ct x0 x1 x2 x3 x4 x5
      have x0 := (HL0.out.below hb1 HL0.out.lt).cell (i := 0) rfl
      go_wp2_with fail
      go_ret
      exact ⟨rfl, below_join HB.out hb1⟩
  · rw [if_pos hz0] at hR
    subst hR
    have hz1 : (R != 0) = true := by simpa using hz0
    go_enter Try.func13, Try.ntmps13
    go_upto_region 1 with (fail)
    rw [← HW.out]
    go_wp2_with fail
    refine ct.mono ?_
    rintro e w1 ⟨rfl, hb1⟩
    clear ct x0 x1 x2 x3 x4 x5
    go_wp2_with fail
    go_ret
    exact ⟨rfl, below_join HB.out hb1⟩
end Go.Proofs.Ytdcgfhenlddmeaa
