/-
  THE LAW ExecTells.
-/
import Derived.Test.YtpaaibghfhnicaaGreatDoorExiM
import Derived.Test.YtpaaibghfhnicaaGreatDoorExwM
import Derived.Test.YtpaaibghfhnicaaGreatDoorGMtB
import Derived.Test.YtpaaibghfhnicaaGreatDoorExrM
namespace Go.Proofs.YtpaaibghfhnicaaGreatDoor
open Go.RowKit Go.Sort
set_option maxHeartbeats 6400000

theorem flat_le16 {t : List (List Vl)} {s : Nat} {cols : List Int} (hc : cols.length ≤ 64) (hx : ∀ x ∈ cols, x ≤ 100) : (Mt.flat t s cols).length ≤ 6400 := by
  rw [← Mt.flat_memb t s cols hc, Mt.flatOf_length]
  refine Nat.le_trans (Mt.wide_le hx _) ?_
  have : (St.memb (s &&& St.belowN ((cols.length : Int) - 1))).length ≤ 64 := by
    unfold St.memb St.membTo
    exact Nat.le_trans (List.length_filter_le _ _) (by simp)
  omega
theorem run_le16 {cols : List Int} {a : Tr} {D : List (List (List Vl))} (hok : Ck.data cols a D = 0 → Ex.Ok 10000 cols D a) : (Ex.run cols a D).length ≤ 10000 ∧ ∀ x ∈ Ex.run cols a D, x.length ≤ 6400 := by
  unfold Ex.run
  by_cases h : Ck.data cols a D = 0
  · rw [if_pos h]
    have hs := Ex.sound_of h
    refine ⟨by unfold Ex.rows; rw [List.length_map]; exact ((hok h).few (Nat.le_refl _)).len, fun x hx => ?_⟩
    obtain ⟨t, _, rfl⟩ := List.mem_map.1 hx
    exact flat_le16 hs.wide fun x hx => by have := hs.col x hx; omega
  · rw [if_neg h]; exact ⟨by simp, fun x hx => by simp at hx⟩
theorem list_self16 (l : List (List Vl)) : decide (Bg.lex Bg.cr l l = 0) = true := decide_eq_true ((Bg.lex_cmp Bg.cr_cmp).self _)
/-- the library's list of two rows that are the same -/
theorem r9same16 {r : List (List Vl)} {u v : Value} {w : World} (hu : Rws w u r) (hv : Rws w v r) (hr : r.length ≤ 10000) (hx : ∀ x ∈ r, x.length ≤ 6400) :
    Calls Tryz.prog 13 #[u, v] w fun e w' => e = .returned (.bool true) ∧ Below w.heap.size w w' := by
  obtain ⟨vs, hvs⟩ := hu
  obtain ⟨us, hus⟩ := hv
  have h := r9list_any u v vs us r r w hvs hus (fun x h => Nat.le_trans (hx x h) (by decide)) (fun x h => Nat.le_trans (hx x h) (by decide)) (Nat.le_trans hr (by decide)) (Nat.le_trans hr (by decide))
  rw [list_self16] at h
  exact h
set_option maxRecDepth 100000 in
theorem exectells_any (a : Tr) (cols : List Int) (cv u v dv : Value) (D : List (List (List Vl))) (w : World) (hc : Sl w cv (cols.map (Value.int .i64))) (hu : ∃ d, TsAt d w u a.ks) (hv : PsSome w v a.cs) (hd : Dts w dv D)
    (hwf : ∀ rs ∈ D, ∀ x ∈ rs, ∀ v ∈ x, -9223372036854775808 ≤ v.2 ∧ v.2 ≤ 9223372036854775807) (hW : Want w) (hP : Pows w) (hT : Tab w) :
    Calls Tryz.prog 3 #[.agg #[cv, .int .i64 a.k, .int .i64 a.t, u, v, .bool a.h], dv] w fun e w' => e = .returned (.bool true) ∧ Below w.heap.size w w' := by
  obtain ⟨A, c, rfl, _⟩ := hu.elim fun d h => h.form
  obtain ⟨A', c', rfl, _⟩ := hv.elim fun d h => h.form
  obtain ⟨W0, hW0⟩ : ∃ W0, W0 = w.alloc (Obj.cells #[cv, .int .i64 a.k, .int .i64 a.t, .slice A a.ks.length c, .slice A' a.cs.length c', .bool a.h] 28) := ⟨_, rfl⟩
  obtain ⟨l0, hb0⟩ := box_one (cs := [cv, .int .i64 a.k, .int .i64 a.t, .slice A a.ks.length c, .slice A' a.cs.length c', .bool a.h]) hW0
  have cf := few11_any a cv (.slice A a.ks.length c) (.slice A' a.cs.length c') W0 (hu.elim fun d h => ⟨d, h.below hb0 (Nat.le_refl _)⟩) (hv.below hb0 (Nat.le_refl _))
  have CL := Lib.hid (fun W (h : Below W0.heap.size W0 W) => light11_any dv D W (hd.below (below_join hb0 h) (Nat.le_refl _)))
  have CD := Lib.hid (fun W (h : Below W0.heap.size W0 W) (hs : Tr.size a ≤ 1000) => have hbw := below_join hb0 h; rdata11_any a cols cv (.slice A a.ks.length c) (.slice A' a.cs.length c') dv D W (hc.below hbw (Nat.le_refl _)) (hu.elim fun d h => ⟨d, h.below hbw (Nat.le_refl _)⟩) (hv.below hbw (Nat.le_refl _)) (hd.below hbw (Nat.le_refl _)) hs)
  have CB := Lib.hid (fun W (h : Below W0.heap.size W0 W) (hs : Tr.size a ≤ 1000) (hz : Ck.data cols a D = 0) => have hbw := below_join hb0 h; have hso := Ex.sound_of hz; hu.elim fun d hu => r16bears_any d a (.slice A a.ks.length c) (.slice A' a.cs.length c') dv D 3000 W (hu.below hbw (Nat.le_refl _)) (hv.below hbw (Nat.le_refl _)) (hd.below hbw (Nat.le_refl _)) hs (by decide) (fun rs hrs => by
      obtain ⟨j, hj, rfl⟩ := List.mem_iff_getElem.1 hrs
      have hjc : j < cols.length := by have := hso.len; omega
      have := (hso.rows j _ _ (List.getElem?_eq_getElem hj) (List.getElem?_eq_getElem hjc)).1
      omega) (by have := hso.len; have := hso.wide; omega))
  have CA := Lib.hid (fun W (h : Below W0.heap.size W0 W) => have hbw := below_join hb0 h; awake16_any W (hW.below hbw (Nat.le_refl _)) (hP.below hbw (Nat.le_refl _)) (hT.below hbw))
  have CR := Lib.hid (fun W (h : Below W0.heap.size W0 W) (hs : Tr.size a ≤ 1000) (hok : Ck.data cols a D = 0 → Ex.Ok 10000 cols D a) => have hbw := below_join hb0 h; xrun_any a cols cv (.slice A a.ks.length c) (.slice A' a.cs.length c') dv D W (hc.below hbw (Nat.le_refl _)) (hu.elim fun d h => ⟨d, h.below hbw (Nat.le_refl _)⟩) (hv.below hbw (Nat.le_refl _)) (hd.below hbw (Nat.le_refl _)) hs (hW.below hbw (Nat.le_refl _)) (hP.below hbw (Nat.le_refl _)) (hT.below hbw) hok)
  have CQ := Lib.hid (fun W (h : Below W0.heap.size W0 W) (hs : Tr.size a ≤ 1000) (hok : Ck.data cols a D = 0 → Ex.Ok 10000 cols D a) => have hbw := below_join hb0 h; r16run_any a cols cv (.slice A a.ks.length c) (.slice A' a.cs.length c') dv D W (hc.below hbw (Nat.le_refl _)) (hu.elim fun d h => ⟨d, h.below hbw (Nat.le_refl _)⟩) (hv.below hbw (Nat.le_refl _)) (hd.below hbw (Nat.le_refl _)) hs hok)
  have CT := Lib.hid (fun W (h : Below W0.heap.size W0 W) (hok : Ex.Ok 10000 cols D a) => have hbw := below_join hb0 h; hu.elim fun d hu => xtuples_own cols D dv d a (.slice A a.ks.length c) (.slice A' a.cs.length c') W (hu.below hbw (Nat.le_refl _)) (hv.below hbw (Nat.le_refl _)) hok (hd.below hbw (Nat.le_refl _)) (hW.below hbw (Nat.le_refl _)) (hP.below hbw (Nat.le_refl _)))
  have CU := Lib.hid (fun W (h : Below W0.heap.size W0 W) (hok : Ex.Ok 10000 cols D a) => have hbw := below_join hb0 h; hu.elim fun d hu => r16tuples_any cols D dv d a (.slice A a.ks.length c) (.slice A' a.cs.length c') W (hu.below hbw (Nat.le_refl _)) (hv.below hbw (Nat.le_refl _)) hok (hd.below hbw (Nat.le_refl _)))
  obtain ⟨cA, cn, cc, rfl⟩ : ∃ cA cn cc, cv = .slice cA cn cc := by obtain ⟨A, c, h, _⟩ := hc; exact ⟨A, _, c, h⟩
  obtain ⟨DA, dc, rfl, _⟩ := id hd
  have HX := Lib.hid (fun W (h : Below W0.heap.size W0 W) => l0.below h l0.lt)
  have x0 := l0.cell (i := 0) rfl
  have x1 := l0.cell (i := 1) rfl
  have x2 := l0.cell (i := 2) rfl
  have x3 := l0.cell (i := 3) rfl
  have x4 := l0.cell (i := 4) rfl
  have x5 := l0.cell (i := 5) rfl
  have HW := Lib.hid hW0
  have HB0 := Lib.hid hb0
  have HWF := Lib.hid hwf
  clear hW0 l0 hb0 hc hu hv hd hwf hW hP hT
  by_cases hs : Tr.size a ≤ 600
  · rw [decide_eq_true hs] at cf
    have HS := Lib.hid (show Tr.size a ≤ 1000 by omega)
    clear hs
    go_enter Tryz.func3, Tryz.ntmps3
    go_upto_region 1 with (fail)
    rw [← HW.out]
    go_wp2_with fail
    refine cf.mono ?_
    rintro e w1 ⟨rfl, hb1⟩
    have cl := CL.out w1 hb1
    clear cf
    go_wp2_with fail
    refine cl.mono ?_
    rintro e w2 ⟨b, rfl, rfl⟩
    have HB1 := Lib.hid hb1
    cases b
    · have ca := CA.out w1 hb1
      clear cl hb1 x0 x1 x2 x3 x4 x5
      go_wp2_with fail
      refine ca.mono ?_
      rintro e w3 ⟨rfl, hb3⟩
      have HB3 := Lib.hid (below_join HB0.out (below_join HB1.out hb3))
      clear ca hb3
      go_wp2_with fail
      go_ret
      exact ⟨rfl, HB3.out⟩
    have cd := CD.out w1 hb1 HS.out
    obtain ⟨z, hz⟩ : ∃ z, z = Ck.data cols a D := ⟨_, rfl⟩
    rw [← hz] at cd
    have HZ := Lib.hid hz
    have l := HX.out w1 hb1
    have x0 := l.cell (i := 0) rfl
    have x1 := l.cell (i := 1) rfl
    have x2 := l.cell (i := 2) rfl
    have x3 := l.cell (i := 3) rfl
    have x4 := l.cell (i := 4) rfl
    have x5 := l.cell (i := 5) rfl
    clear cl hb1 l hz
    go_wp2_with fail
    refine cd.mono ?_
    rintro e w3 ⟨rfl, hb3⟩
    have hb13 := below_join HB1.out hb3
    have l := HX.out w3 hb13
    have x0 := l.cell (i := 0) rfl
    have x1 := l.cell (i := 1) rfl
    have x2 := l.cell (i := 2) rfl
    have x3 := l.cell (i := 3) rfl
    have x4 := l.cell (i := 4) rfl
    have x5 := l.cell (i := 5) rfl
    have HB3 := Lib.hid hb13
    clear cd l hb3
    by_cases hz0 : z = 0
    · have cb := CB.out w3 hb13 HS.out (HZ.out.symm.trans hz0)
      subst hz0
      by_cases hpb : Ex.prod D (Tr.all a) ≤ 3000
      · rw [decide_eq_true hpb] at cb
        have HOK := Lib.hid ((Ex.sound_of HZ.out.symm).ok (M := 10000) HWF.out (Nat.le_trans hpb (by decide)) HS.out)
        clear hb13 hpb
        go_wp2_with fail
        refine cb.mono ?_
        rintro e w4 ⟨rfl, hb4⟩
        have hb04 := below_join HB3.out hb4
        have cr := CR.out w4 hb04 HS.out (fun _ => HOK.out)
        have l := HX.out w4 hb04
        have x0 := l.cell (i := 0) rfl
        have x1 := l.cell (i := 1) rfl
        have x2 := l.cell (i := 2) rfl
        have x3 := l.cell (i := 3) rfl
        have x4 := l.cell (i := 4) rfl
        have x5 := l.cell (i := 5) rfl
        have HB4 := Lib.hid hb04
        clear cb hb4 hb04 l
        go_wp2_with fail
        refine cr.mono ?_
        rintro e w5 ⟨A5, c5, rfl, hR5, hb5⟩
        rw [← HZ.out]
        have hb05 := below_join HB4.out hb5
        have cq := CQ.out w5 hb05 HS.out (fun _ => HOK.out)
        have l := HX.out w5 hb05
        have x0 := l.cell (i := 0) rfl
        have x1 := l.cell (i := 1) rfl
        have x2 := l.cell (i := 2) rfl
        have x3 := l.cell (i := 3) rfl
        have x4 := l.cell (i := 4) rfl
        have x5 := l.cell (i := 5) rfl
        have HB5 := Lib.hid hb05
        have HR5 := Lib.hid hR5
        clear cr hb5 hb05 l hR5
        go_wp2_with fail
        refine cq.mono ?_
        rintro e w6 ⟨A6, c6, rfl, hR6, hb6⟩
        rw [← HZ.out]
        have hb06 := below_join HB5.out hb6
        have hle := run_le16 (cols := cols) (a := a) (D := D) (fun _ => HOK.out)
        have cs := r9same16 (HR5.out.below hb6 (Nat.le_refl _)) hR6 hle.1 hle.2
        have HB6 := Lib.hid hb06
        obtain ⟨RL, hRL⟩ : ∃ n, n = (Ex.run cols a D).length := ⟨_, rfl⟩
        rw [← hRL] at cs ⊢
        clear cq hb6 hb06 hR6 hle hRL
        go_wp2_with fail
        refine cs.mono ?_
        rintro e w7 ⟨rfl, hb7⟩
        have hb07 := below_join HB6.out hb7
        have HB7 := Lib.hid hb07
        obtain ⟨TL, hTL⟩ : ∃ n, n = (Ex.tuples D a).length := ⟨_, rfl⟩
        have HTL := Lib.hid hTL
        obtain ⟨ak, hak⟩ : ∃ z, z = a.k := ⟨_, rfl⟩
        obtain ⟨at_, hat⟩ : ∃ z, z = a.t := ⟨_, rfl⟩
        obtain ⟨ah, hah⟩ : ∃ z, z = a.h := ⟨_, rfl⟩
        obtain ⟨kl, hkl⟩ : ∃ z, z = a.ks.length := ⟨_, rfl⟩
        obtain ⟨cl, hcl⟩ : ∃ z, z = a.cs.length := ⟨_, rfl⟩
        have CTT := Lib.hid (fun W (h : Below w7.heap.size w7 W) => (CT.out W (below_join hb07 h) HOK.out).mono fun e w' ho =>
          (show ∃ A3 a3, e = Ending.returned (.slice A3 TL a3) ∧ Hid (TusOn Al w' (.slice A3 TL a3) (Ex.tuples D a)) ∧ Below w7.heap.size w7 w' from by
            obtain ⟨A3, a3, us3, rfl, h4, _, h6⟩ := ho
            rw [HTL.out]
            exact ⟨A3, a3, rfl, Lib.hid h4.tus, below_join h h6⟩))
        have CUU := Lib.hid (fun W (h : Below w7.heap.size w7 W) => (CU.out W (below_join hb07 h) HOK.out).mono fun e w' ho =>
          (show ∃ A3 a3, e = Ending.returned (.slice A3 TL a3) ∧ Hid (TusOn Al w' (.slice A3 TL a3) (Ex.tuples D a)) ∧ Hid (Below W.heap.size W w') ∧ Below w7.heap.size w7 w' from by
            obtain ⟨A3, a3, rfl, h4, h6⟩ := ho
            rw [HTL.out]
            exact ⟨A3, a3, rfl, Lib.hid h4, Lib.hid h6, below_join h h6⟩))
        have CLL := Lib.hid (fun W (lv rv : Value) (h : Below w7.heap.size w7 W) (hl : TusOn Al W lv (Ex.tuples D a)) (hr : TusOn Al W rv (Ex.tuples D a)) =>
          have hf := HOK.out.few (Nat.le_refl _)
          (r13list_any Al lv rv (Ex.tuples D a) (Ex.tuples D a) W hl hr (fun x hx => Nat.le_trans (hf.tup x hx).1 (by decide)) (fun x hx => Nat.le_trans (hf.tup x hx).1 (by decide)) (fun x hx y hy => Nat.le_trans ((hf.tup x hx).2 y hy) (by decide)) (fun x hx y hy => Nat.le_trans ((hf.tup x hx).2 y hy) (by decide)) (Nat.le_trans hf.len (by decide)) (Nat.le_trans hf.len (by decide))).mono fun e w' ⟨he, hb⟩ =>
            (⟨by rw [he, Mt.list_refl], below_join h hb⟩ : e = Ending.returned (.bool true) ∧ Below w7.heap.size w7 w'))
        have CAA := Lib.hid (fun W (h : Below w7.heap.size w7 W) => (CA.out W (below_join hb07 h)).mono fun e w' ⟨he, hb⟩ => (⟨he, below_join h hb⟩ : e = Ending.returned (.bool true) ∧ Below w7.heap.size w7 w'))
        have KK := Lib.hid (fun W (h : Below w7.heap.size w7 W) => (show (W.cell? ⟨w.heap.size, 1, none⟩ = some (.int .i64 ak) ∧ W.cell? ⟨w.heap.size, 2, none⟩ = some (.int .i64 at_) ∧ W.cell? ⟨w.heap.size, 3, none⟩ = some (.slice A kl c) ∧ W.cell? ⟨w.heap.size, 4, none⟩ = some (.slice A' cl c') ∧ W.cell? ⟨w.heap.size, 5, none⟩ = some (.bool ah)) ∧ Below w7.heap.size w7 W from
          have l := HX.out W (below_join hb07 h)
          ⟨⟨by rw [hak]; exact l.cell (i := 1) rfl, by rw [hat]; exact l.cell (i := 2) rfl, by rw [hkl]; exact l.cell (i := 3) rfl, by rw [hcl]; exact l.cell (i := 4) rfl, by rw [hah]; exact l.cell (i := 5) rfl⟩, h⟩))
        rw [← hak, ← hat, ← hah, ← hkl, ← hcl] at CTT CUU
        have hS := Below.refl w7.heap.size w7
        clear cs hb7 hb07 hTL hak hat hah hkl hcl x0 x1 x2 x3 x4 x5
        go_upto_region 9 with (fail)
        go_region_held3 (fun W => (W.cell? ⟨w.heap.size, 1, none⟩ = some (.int .i64 ak) ∧ W.cell? ⟨w.heap.size, 2, none⟩ = some (.int .i64 at_) ∧ W.cell? ⟨w.heap.size, 3, none⟩ = some (.slice A kl c) ∧ W.cell? ⟨w.heap.size, 4, none⟩ = some (.slice A' cl c') ∧ W.cell? ⟨w.heap.size, 5, none⟩ = some (.bool ah)) ∧ Below w7.heap.size w7 W) (first | (exact KK.out _ (by repeat first | assumption | refine Below.drew ?_)))
          (first
            | (go_at_call 15; (with_reducible refine (CTT.out _ (by repeat first | assumption | refine Below.drew ?_)).mono ?_); rintro e wA ⟨A3, a3, rfl, hTL, hSA⟩)
            | (go_at_call 16; (with_reducible refine (CUU.out _ (by repeat first | assumption | refine Below.drew ?_)).mono ?_); rintro e wB ⟨A4, a4, rfl, hTR, hBB, hSB⟩)
            | (go_at_call 14; (with_reducible refine (CLL.out _ _ _ (by repeat first | assumption | refine Below.drew ?_) (hTL.out.below hBB.out (Nat.le_refl _)) hTR.out).mono ?_); rintro e wC ⟨rfl, hSC⟩)
            | (go_at_call 8; (with_reducible refine (CAA.out _ (by repeat first | assumption | refine Below.drew ?_)).mono ?_); rintro e wD ⟨rfl, hSD⟩)
            | (fail "no arm"))
        all_goals
          go_wp2_with fail
          go_ret
          exact ⟨rfl, below_join HB0.out (below_join HB7.out (by assumption))⟩
      · rw [decide_eq_false hpb] at cb
        clear hb13 hpb
        go_wp2_with fail
        refine cb.mono ?_
        rintro e w4 ⟨rfl, hb4⟩
        have hb04 := below_join HB3.out hb4
        have ca := CA.out w4 hb04
        have HB4 := Lib.hid hb04
        clear cb hb4 hb04 x0 x1 x2 x3 x4 x5
        go_wp2_with fail
        refine ca.mono ?_
        rintro e w5 ⟨rfl, hb5⟩
        have HB5 := Lib.hid (below_join HB0.out (below_join HB4.out hb5))
        clear ca hb5
        go_wp2_with fail
        go_ret
        exact ⟨rfl, HB5.out⟩
    · have hz1 : (z == 0) = false := by simpa using hz0
      have hz2 : (z != 0) = true := by simpa using hz0
      have HNO := Lib.hid (show Ck.data cols a D = 0 → Ex.Ok 10000 cols D a from fun h => absurd (HZ.out.trans h) hz0)
      have cr := CR.out w3 hb13 HS.out HNO.out
      clear hb13
      go_wp2_with fail
      refine cr.mono ?_
      rintro e w5 ⟨A5, c5, rfl, hR5, hb5⟩
      rw [← HZ.out]
      have hb05 := below_join HB3.out hb5
      have cq := CQ.out w5 hb05 HS.out HNO.out
      have l := HX.out w5 hb05
      have x0 := l.cell (i := 0) rfl
      have x1 := l.cell (i := 1) rfl
      have x2 := l.cell (i := 2) rfl
      have x3 := l.cell (i := 3) rfl
      have x4 := l.cell (i := 4) rfl
      have x5 := l.cell (i := 5) rfl
      have HB5 := Lib.hid hb05
      have HR5 := Lib.hid hR5
      clear cr hb5 hb05 l hR5
      go_wp2_with fail
      refine cq.mono ?_
      rintro e w6 ⟨A6, c6, rfl, hR6, hb6⟩
      rw [← HZ.out]
      have hb06 := below_join HB5.out hb6
      have hle := run_le16 (cols := cols) (a := a) (D := D) HNO.out
      have cs := r9same16 (HR5.out.below hb6 (Nat.le_refl _)) hR6 hle.1 hle.2
      have HB6 := Lib.hid hb06
      obtain ⟨RL, hRL⟩ : ∃ n, n = (Ex.run cols a D).length := ⟨_, rfl⟩
      rw [← hRL] at cs ⊢
      clear cq hb6 hb06 hR6 hle hRL
      go_wp2_with fail
      refine cs.mono ?_
      rintro e w7 ⟨rfl, hb7⟩
      have hb07 := below_join HB6.out hb7
      have CAA := Lib.hid (fun W (h : Below w7.heap.size w7 W) => (CA.out W (below_join hb07 h)).mono fun e w' ⟨he, hb⟩ => (⟨he, below_join h hb⟩ : e = Ending.returned (.bool true) ∧ Below w7.heap.size w7 w'))
      have HB7 := Lib.hid hb07
      have hS := Below.refl w7.heap.size w7
      clear cs hb7 hb07 x0 x1 x2 x3 x4 x5
      go_upto_region 9 with (fail)
      refine end_region16 rfl rfl rfl rfl rfl rfl rfl rfl rfl rfl rfl rfl rfl rfl rfl rfl rfl rfl rfl rfl rfl rfl rfl rfl rfl rfl rfl rfl rfl rfl rfl rfl (by kernel_rfl) (by kernel_rfl) (by kernel_rfl) (by kernel_rfl) (by kernel_rfl) (by kernel_rfl) (by kernel_rfl) (by kernel_rfl) (by kernel_rfl) (by kernel_rfl) rfl _ w7 z hz0 rfl rfl (fun W h => CAA.out W h) ?_
      intro W hb
      simp only [endVs, List.map_cons, List.map_nil, puts, List.foldl_cons, List.foldl_nil, List.setIfInBounds_toArray, List.set_cons_zero, List.set_cons_succ]
      have HBL := Lib.hid hb
      clear hb hS
      go_wp2_with fail
      go_ret
      exact ⟨rfl, below_join HB0.out (below_join HB7.out HBL.out)⟩
  · rw [decide_eq_false hs] at cf
    clear hs
    go_enter Tryz.func3, Tryz.ntmps3
    go_upto_region 1 with (fail)
    rw [← HW.out]
    go_wp2_with fail
    refine cf.mono ?_
    rintro e w1 ⟨rfl, hb1⟩
    have ca := CA.out w1 hb1
    have HB1 := Lib.hid hb1
    clear cf hb1 x0 x1 x2 x3 x4 x5
    go_wp2_with fail
    refine ca.mono ?_
    rintro e w2 ⟨rfl, hb2⟩
    have HB2 := Lib.hid (below_join HB0.out (below_join HB1.out hb2))
    clear ca hb2
    go_wp2_with fail
    go_ret
    exact ⟨rfl, HB2.out⟩
end Go.Proofs.YtpaaibghfhnicaaGreatDoor
