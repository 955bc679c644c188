/-
  PACKAGE exec: Tuples.
-/
import Derived.Test.YtpaaibghfhnicaaGreatDoorExaM
import Derived.Test.YtpaaibghfhnicaaGreatDoorExcM
namespace Go.Proofs.YtpaaibghfhnicaaGreatDoor
open Go.RowKit Go.Sort
set_option maxHeartbeats 6400000

theorem OwnTus.none_ {w w' : World} (hb : Below w.heap.size w w') : OwnTus w [] (.returned (.slice none 0 0)) w' :=
  ⟨none, 0, [], rfl, ⟨World.ownsRow_nil _ _ _ _, rfl, fun i t h => by simp at h⟩, Nat.le_refl _, hb⟩
theorem Ex.Ok.wf {M : Nat} {cols : List Int} {d : List (List (List Vl))} {a : Tr} (h : Ex.Ok M cols d a) : Hs.Wf (Ex.tuples d a) := fun t ht x hx v hv =>
  (Ex.tuples_fit h.fine h.len a h.good t ht).wf x hx v hv
/-- of a leaf that may be: its table's rows -/
theorem Ex.Ok.leaf {M : Nat} {cols : List Int} {d : List (List (List Vl))} {a : Tr} (h : Ex.Ok M cols d a) (hk : a.k = 0) : ∃ (tn : Nat) (rs : List (List Vl)), a.t = (tn : Int) ∧ d[tn]? = some rs ∧ tn < 64 ∧ rs.length ≤ M ∧ ∀ x ∈ rs, x.length ≤ 4 := by
  obtain ⟨h1, _, h2, h3⟩ := h.good.leaf hk
  obtain ⟨tn, htn⟩ : ∃ tn : Nat, a.t = (tn : Int) := ⟨a.t.toNat, (Int.toNat_of_nonneg h2).symm⟩
  have hlt : tn < d.length := by have := h.len; omega
  have h64 := h.fine.1
  have hm := h.most
  rw [Ex.all_leaf h1] at hm
  have hm2 : Ex.cnt d a * 1 ≤ M := hm
  unfold Ex.cnt at hm2
  rw [if_pos ⟨hk, h2, by omega⟩, htn, Int.toNat_natCast, List.getElem?_eq_getElem hlt] at hm2
  have hm3 : max 1 d[tn].length * 1 ≤ M := hm2
  refine ⟨tn, _, htn, List.getElem?_eq_getElem hlt, by omega, by omega, fun x hx => (h.fine.2 _ (List.getElem_mem hlt) x hx).1⟩
theorem run_field16 (k t : Int) (A B : Option Addr) (n c m e : Nat) (h : Bool) (f : Nat) (X : Value) (W : World) : (Instr.field 68 (.agg #[.int .i64 k, .int .i64 t, .slice A n c, .slice B m e, .bool h, .func (.func f) #[X] #[]]) 1).run Tryz.prog W = .ok (.func (.func f) #[X] #[]) W := by
  simp [Instr.field, go_sem, asAgg]
set_option maxRecDepth 100000 in
theorem xtuples_own (cols : List Int) (D : List (List (List Vl))) (dv : Value) (dd : Nat) : ∀ (a : Tr) (u v : Value) (w : World), TsAt dd w u a.ks → PsSome w v a.cs → Ex.Ok 10000 cols D a → Dts w dv D → Want w → Pows w →
    Calls Tryz.prog 15 #[.agg #[.int .i64 a.k, .int .i64 a.t, u, v, .bool a.h], dv] w (OwnTus w (Ex.tuples D a)) := by
  induction dd using Nat.strongRecOn with
  | _ dd ih =>
  intro a u v w hu hv hok hd hW hP
  obtain ⟨W0, hW0⟩ : ∃ W0, W0 = w.alloc (Obj.cells #[.int .i64 a.k, .int .i64 a.t, u, v, .bool a.h] 26) := ⟨_, rfl⟩
  obtain ⟨l0, pc, hb0⟩ := tr_box (a := a) (u := u) (v := v) hW0
  have hd0 := hd.below hb0 (Nat.le_refl _)
  obtain ⟨d', hv⟩ := hv
  have hv' := hv.below hb0 (Nat.le_refl _)
  obtain ⟨P0, p0, rfl, _⟩ := hv.form
  by_cases hk : a.k = 0
  · obtain ⟨tn, rs, htn, hg, h64, hrs, hx⟩ := hok.leaf hk
    have cl := xleaf_own tn dv D rs W0 hd0 hg h64 hrs (fun x hx' => by have := hx x hx'; omega)
    rw [Ex.tuples_leaf hk, htn]
    obtain ⟨A, c, rfl, _⟩ := hu.form
    obtain ⟨x0, x1, _, _, _⟩ := pc
    rw [hk] at x0
    rw [htn] at x1
    obtain ⟨DA, dc, rfl, _⟩ := id hd
    have HB := Lib.hid hb0
    rw [hk, htn] at hW0
    have HW := Lib.hid hW0
    rw [hk]
    obtain ⟨ah, hah⟩ : ∃ z, z = a.h := ⟨_, rfl⟩
    rw [← hah] at HW ⊢
    generalize a.ks.length = kl at *
    generalize a.cs.length = cl' at *
    generalize D.length = dl at *
    clear hu hv hok hd hW hP hW0 l0 hb0 hd0 hv' hg hrs hx ih hk htn hah
    go_enter Tryz.func15, Tryz.ntmps15
    go_upto_region 1 with (fail)
    rw [← HW.out]
    go_wp2_with fail
    refine cl.mono ?_
    rintro E w2 ho
    have HO := Lib.hid (ho.up HB.out)
    obtain ⟨A2, a2, _, rfl, _, _, _⟩ := ho
    clear cl x0 x1
    go_wp2_with fail
    go_ret
    exact HO.out
  · obtain ⟨x, y, hks, _⟩ := hok.good.op hk
    obtain ⟨hokx, hoky⟩ := hok.kids hk hks
    have HJN := Lib.hid (Ex.tuples_op (d := D) hk hks).symm
    have HJH := Lib.hid (hok.hash hk hks)
    have HSZ := Lib.hid (show Pr.sizes a.cs ≤ 1000 by have h1 := Tr.size_at a; have := hok.size; omega)
    have HFEW := Lib.hid (And.intro (hokx.few (Nat.le_refl _)) (hoky.few (Nat.le_refl _)))
    have HWF := Lib.hid (And.intro hokx.wf hoky.wf)
    rw [hks] at hu
    obtain ⟨A, c, hu0, _⟩ := hu.form
    change u = .slice A 2 c at hu0
    subst hu0
    have hts : TsAt dd W0 (.slice A ([x, y] : List Tr).length c) [x, y] := hu.below hb0 (Nat.le_refl _)
    obtain ⟨e6, b0, o0, s0, u6, v6, hlt6, rfl, hb0l, hX⟩ := hts.at_ (j := 0) (a := x) rfl
    obtain ⟨e8, b0', o0', s0', u8, v8, hlt8, hA8, _, hY⟩ := hts.at_ (j := 1) (a := y) rfl
    obtain ⟨rfl, rfl, rfl⟩ : b0 = b0' ∧ o0 = o0' ∧ s0 = s0' := by
      simp only [Option.some.injEq, Addr.mk.injEq] at hA8
      exact hA8
    obtain ⟨B6, d6, rfl, _⟩ := (hX W0 (Below.refl _ _)).2.2.form
    obtain ⟨B7, d7, rfl, _⟩ := (hX W0 (Below.refl _ _)).2.1.elim fun d h => h.form
    obtain ⟨B8, d8, rfl, _⟩ := (hY W0 (Below.refl _ _)).2.2.form
    obtain ⟨B9, d9, rfl, _⟩ := (hY W0 (Below.refl _ _)).2.1.elim fun d h => h.form
    simp only [Nat.zero_mul, add_zero9] at hX
    have hadd : (⟨b0, o0, s0⟩ : Addr).add (1 * 5) = ⟨b0, o0 + 5, none⟩ := by unfold Addr.add; simp
    simp only [hadd] at hY
    have HWP := Lib.hid (And.intro (hW.below hb0 (Nat.le_refl _)) (hP.below hb0 (Nat.le_refl _)))
    have cx := ih e6 hlt6 x _ (.slice B7 x.cs.length d7) W0 (hX W0 (Below.refl _ _)).2.2 (hX W0 (Below.refl _ _)).2.1 hokx hd0 HWP.out.1 HWP.out.2
    have px := (hX W0 (Below.refl _ _)).1
    obtain ⟨y0, y1, y2, y3, y4⟩ := px
    have CT := Lib.hid (fun W (h : Below W0.heap.size W0 W) => ih e8 hlt8 y _ (.slice B9 y.cs.length d9) W (hY W h).2.2 (hY W h).2.1 hoky (hd0.below h (Nat.le_refl _)) (HWP.out.1.below h (Nat.le_refl _)) (HWP.out.2.below h (Nat.le_refl _)))
    have HY := Lib.hid hY
    obtain ⟨x0, x1, x2, x3, x4⟩ := id pc
    obtain ⟨DA, dc, rfl, _⟩ := id hd
    obtain ⟨ak, hak⟩ : ∃ z, z = a.k := ⟨_, rfl⟩
    obtain ⟨at_, hat⟩ : ∃ z, z = a.t := ⟨_, rfl⟩
    obtain ⟨ah, hah⟩ : ∃ z, z = a.h := ⟨_, rfl⟩
    have HK := Lib.hid hak
    have HT := Lib.hid hat
    have HH0 := Lib.hid hah
    have HPC := Lib.hid pc
    have HLT := Lib.hid l0.lt
    have HB0 := Lib.hid hb0
    have hak0 : (ak == 0) = false := by rw [hak]; simpa using hk
    rw [← hak] at hW0 x0 ⊢
    rw [← hat] at hW0 x1 ⊢
    rw [← hah] at hW0 x4 ⊢
    obtain ⟨pl, hpl⟩ : ∃ z, z = a.cs.length := ⟨_, rfl⟩
    have HPL := Lib.hid hpl
    rw [← hpl] at hW0 x3 ⊢
    have HW := Lib.hid hW0
    obtain ⟨n1, hn1⟩ : ∃ n, n = (Ex.tuples D x).length := ⟨_, rfl⟩
    obtain ⟨JL, hJL⟩ : ∃ n, n = (Ex.tuples D a).length := ⟨_, rfl⟩
    have HJL := Lib.hid hJL
    have HN1 := Lib.hid hn1
    obtain ⟨n2, hn2⟩ : ∃ n, n = (Ex.tuples D y).length := ⟨_, rfl⟩
    have HN2 := Lib.hid hn2
    have HJ0 := Lib.hid (show n1 = 0 → Ex.tuples D a = [] from fun h => by
      rw [← HJN.out, List.eq_nil_of_length_eq_zero (show (Ex.tuples D x).length = 0 by rw [← hn1]; exact h)]; rfl)
    have i0 : (0 : Int) ≤ 0 := by omega
    clear hu hv hok hd hW hP hW0 l0 hb0 hd0 hX ih hk hak hat hah hks hn1 hn2 hJL hpl hokx hoky pc hA8 hadd hb0l
    go_enter Tryz.func15, Tryz.ntmps15
    go_upto_region 1 with (fail)
    rw [← HW.out]
    go_wp2_with fail
    refine cx.mono ?_
    rintro E w1 ⟨A1, a1, us1, rfl, hT1, ha1, hb01⟩
    have hl1 := hT1.tus
    rw [← HN1.out] at hl1 ⊢
    clear cx hT1 ha1 x0 x1 x2 x3 x4 y0 y1 y2 y3 y4
    have q2 := (HPC.out.below hb01 HLT.out).c2
    by_cases hn0 : n1 = 0
    · have HRES := Lib.hid (show OwnTus w (Ex.tuples D a) (.returned (.slice none 0 0)) w1 from by
        rw [HJ0.out hn0]; exact OwnTus.none_ (below_join HB0.out hb01))
      subst hn0
      clear hl1 hb01 hts hv'
      go_wp2_with fail
      go_ret
      exact HRES.out
    have hn3 : ((n1 : Int) == 0) = false := by simpa using hn0
    have CT := Lib.hid (fun W (h : Below w1.heap.size w1 W) => (CT.out W (below_join hb01 h)).mono fun e w' ho =>
      (show ∃ A3 a3, e = Ending.returned (.slice A3 n2 a3) ∧ Hid (TusOn Al w' (.slice A3 n2 a3) (Ex.tuples D y)) ∧ Below w1.heap.size w1 w' from by
        obtain ⟨A3, a3, us3, rfl, h4, _, h6⟩ := ho
        rw [HN2.out]
        exact ⟨A3, a3, rfl, Lib.hid h4.tus, below_join h h6⟩))
    have hcase : a.h = false ∨ a.h = true := by cases a.h <;> simp
    rcases hcase with HH | HH
    · obtain rfl : ah = false := HH0.out.trans HH
      have HH := Lib.hid HH
      have CJ := Lib.hid (fun W (rv : Value) (h : Below w1.heap.size w1 W) (hr : TusOn Al W rv (Ex.tuples D y)) =>
        have hb0W := below_join hb01 h
        have hbwW := below_join HB0.out hb0W
        (nested16_own ak at_ (some ⟨b0, o0, s0⟩) 2 c d' (.slice P0 a.cs.length p0) (.slice A1 n1 a1) rv a.cs (Ex.tuples D x) (Ex.tuples D y) W (hv'.below hb0W (Nat.le_refl _)) HSZ.out (HWP.out.1.below hb0W (Nat.le_refl _)) (hl1.below h (Nat.le_refl _)) hr HFEW.out.1 HFEW.out.2).mono fun e w' ho =>
          (show ∃ A2 a2, e = Ending.returned (.slice A2 JL a2) ∧ Hid (OwnTus w (Ex.tuples D a) (.returned (.slice A2 JL a2)) w') ∧ Below w1.heap.size w1 w' from by
            rw [HK.out, HJN.out] at ho
            have h5 := ho.up hbwW
            obtain ⟨A2, a2, us, rfl, _, _, h6⟩ := ho
            rw [HJL.out]
            exact ⟨A2, a2, rfl, Lib.hid h5, below_join h h6⟩))
      have CO := Lib.hid (fun W (h : Below w1.heap.size w1 W) => (operaten_any ak at_ (some ⟨b0, o0, s0⟩) P0 2 c pl p0 W).mono fun e w' ⟨he, hb⟩ => (⟨he, below_join h hb⟩ : e = _ ∧ Below w1.heap.size w1 w'))
      have KK := Lib.hid (fun W (h : Below w1.heap.size w1 W) => (show (W.cell? ⟨w.heap.size, 0, none⟩ = some (.int .i64 ak) ∧ W.cell? ⟨w.heap.size, 1, none⟩ = some (.int .i64 at_) ∧ W.cell? ⟨w.heap.size, 2, none⟩ = some (.slice (some ⟨b0, o0, s0⟩) 2 c) ∧ W.cell? ⟨w.heap.size, 3, none⟩ = some (.slice P0 pl p0) ∧ W.cell? ⟨w.heap.size, 4, none⟩ = some (.bool false) ∧ W.cell? ⟨b0, o0 + 5, none⟩ = some (.int .i64 y.k) ∧ W.cell? ⟨b0, o0 + 5 + 1, none⟩ = some (.int .i64 y.t) ∧ W.cell? ⟨b0, o0 + 5 + 2, none⟩ = some (.slice B8 y.ks.length d8) ∧ W.cell? ⟨b0, o0 + 5 + 3, none⟩ = some (.slice B9 y.cs.length d9) ∧ W.cell? ⟨b0, o0 + 5 + 4, none⟩ = some (.bool y.h)) ∧ Below w1.heap.size w1 W from
        have hb0W := below_join hb01 h
        have py := (HY.out W hb0W).1
        have p := HPC.out.below hb0W HLT.out
        ⟨⟨by rw [HK.out]; exact p.c0, by rw [HT.out]; exact p.c1, p.c2, by rw [HPL.out]; exact p.c3, by rw [← HH.out]; exact p.c4, py.c0, py.c1, py.c2, py.c3, py.c4⟩, h⟩))
      rw [← HPL.out] at CJ
      have hS := Below.refl w1.heap.size w1
      have hfld := fun (h : Bool) (f : Nat) (X : Value) (W : World) => run_field16 ak at_ (some ⟨b0, o0, s0⟩) P0 2 c pl p0 h f X W
      clear hl1 hb01
      go_upto_region 8 with (fail)
      go_region_held3 (fun W => (W.cell? ⟨w.heap.size, 0, none⟩ = some (.int .i64 ak) ∧ W.cell? ⟨w.heap.size, 1, none⟩ = some (.int .i64 at_) ∧ W.cell? ⟨w.heap.size, 2, none⟩ = some (.slice (some ⟨b0, o0, s0⟩) 2 c) ∧ W.cell? ⟨w.heap.size, 3, none⟩ = some (.slice P0 pl p0) ∧ W.cell? ⟨w.heap.size, 4, none⟩ = some (.bool false) ∧ W.cell? ⟨b0, o0 + 5, none⟩ = some (.int .i64 y.k) ∧ W.cell? ⟨b0, o0 + 5 + 1, none⟩ = some (.int .i64 y.t) ∧ W.cell? ⟨b0, o0 + 5 + 2, none⟩ = some (.slice B8 y.ks.length d8) ∧ W.cell? ⟨b0, o0 + 5 + 3, none⟩ = some (.slice B9 y.cs.length d9) ∧ W.cell? ⟨b0, o0 + 5 + 4, none⟩ = some (.bool y.h)) ∧ Below w1.heap.size w1 W) (first | (exact KK.out _ (by repeat first | assumption | refine Below.drew ?_)))
        (first
          | (go_at_call 35; (with_reducible refine (CO.out _ (by repeat first | assumption | refine Below.drew ?_)).mono ?_); rintro e w' ⟨rfl, hS'⟩)
          | (go_at_call 15; (with_reducible refine (CT.out _ (by repeat first | assumption | refine Below.drew ?_)).mono ?_); rintro e w' ⟨A3, a3, rfl, hTR, hS'⟩)
          | (go_at_call 52; (with_reducible refine (CJ.out _ _ (by repeat first | assumption | refine Below.drew ?_) (hTR.out)).mono ?_); rintro e w' ⟨A2, a2, rfl, hO, hS'⟩)
          | (fail "no arm"))
      all_goals
        go_wp2_with fail
        go_ret
        exact hO.out
    · obtain rfl : ah = true := HH0.out.trans HH
      have HH := Lib.hid HH
      have CJ := Lib.hid (fun W (rv : Value) (h : Below w1.heap.size w1 W) (hr : TusOn Al W rv (Ex.tuples D y)) =>
        have hb0W := below_join hb01 h
        have hbwW := below_join HB0.out hb0W
        (hashed16_own ak at_ d' dd (.slice (some ⟨b0, o0, s0⟩) 2 c) (.slice P0 a.cs.length p0) (.slice A1 n1 a1) rv x y a.cs (Ex.tuples D x) (Ex.tuples D y) W (hts.below hb0W (Nat.le_refl _)) (hv'.below hb0W (Nat.le_refl _)) HSZ.out (HWP.out.1.below hb0W (Nat.le_refl _)) (HWP.out.2.below hb0W (Nat.le_refl _)) (hl1.below h (Nat.le_refl _)) hr HFEW.out.1 HFEW.out.2 HWF.out.1 HWF.out.2).mono fun e w' ho =>
          (show ∃ A2 a2, e = Ending.returned (.slice A2 JL a2) ∧ Hid (OwnTus w (Ex.tuples D a) (.returned (.slice A2 JL a2)) w') ∧ Below w1.heap.size w1 w' from by
            rw [HK.out, HJH.out] at ho
            have h5 := ho.up hbwW
            obtain ⟨A2, a2, us, rfl, _, _, h6⟩ := ho
            rw [HJL.out]
            exact ⟨A2, a2, rfl, Lib.hid h5, below_join h h6⟩))
      have CO := Lib.hid (fun W (h : Below w1.heap.size w1 W) => (operateh_any ak at_ (some ⟨b0, o0, s0⟩) P0 2 c pl p0 W).mono fun e w' ⟨he, hb⟩ => (⟨he, below_join h hb⟩ : e = _ ∧ Below w1.heap.size w1 w'))
      have KK := Lib.hid (fun W (h : Below w1.heap.size w1 W) => (show (W.cell? ⟨w.heap.size, 0, none⟩ = some (.int .i64 ak) ∧ W.cell? ⟨w.heap.size, 1, none⟩ = some (.int .i64 at_) ∧ W.cell? ⟨w.heap.size, 2, none⟩ = some (.slice (some ⟨b0, o0, s0⟩) 2 c) ∧ W.cell? ⟨w.heap.size, 3, none⟩ = some (.slice P0 pl p0) ∧ W.cell? ⟨w.heap.size, 4, none⟩ = some (.bool true) ∧ W.cell? ⟨b0, o0 + 5, none⟩ = some (.int .i64 y.k) ∧ W.cell? ⟨b0, o0 + 5 + 1, none⟩ = some (.int .i64 y.t) ∧ W.cell? ⟨b0, o0 + 5 + 2, none⟩ = some (.slice B8 y.ks.length d8) ∧ W.cell? ⟨b0, o0 + 5 + 3, none⟩ = some (.slice B9 y.cs.length d9) ∧ W.cell? ⟨b0, o0 + 5 + 4, none⟩ = some (.bool y.h)) ∧ Below w1.heap.size w1 W from
        have hb0W := below_join hb01 h
        have py := (HY.out W hb0W).1
        have p := HPC.out.below hb0W HLT.out
        ⟨⟨by rw [HK.out]; exact p.c0, by rw [HT.out]; exact p.c1, p.c2, by rw [HPL.out]; exact p.c3, by rw [← HH.out]; exact p.c4, py.c0, py.c1, py.c2, py.c3, py.c4⟩, h⟩))
      rw [← HPL.out] at CJ
      have hS := Below.refl w1.heap.size w1
      have hfld := fun (h : Bool) (f : Nat) (X : Value) (W : World) => run_field16 ak at_ (some ⟨b0, o0, s0⟩) P0 2 c pl p0 h f X W
      clear hl1 hb01
      go_upto_region 8 with (fail)
      go_region_held3 (fun W => (W.cell? ⟨w.heap.size, 0, none⟩ = some (.int .i64 ak) ∧ W.cell? ⟨w.heap.size, 1, none⟩ = some (.int .i64 at_) ∧ W.cell? ⟨w.heap.size, 2, none⟩ = some (.slice (some ⟨b0, o0, s0⟩) 2 c) ∧ W.cell? ⟨w.heap.size, 3, none⟩ = some (.slice P0 pl p0) ∧ W.cell? ⟨w.heap.size, 4, none⟩ = some (.bool true) ∧ W.cell? ⟨b0, o0 + 5, none⟩ = some (.int .i64 y.k) ∧ W.cell? ⟨b0, o0 + 5 + 1, none⟩ = some (.int .i64 y.t) ∧ W.cell? ⟨b0, o0 + 5 + 2, none⟩ = some (.slice B8 y.ks.length d8) ∧ W.cell? ⟨b0, o0 + 5 + 3, none⟩ = some (.slice B9 y.cs.length d9) ∧ W.cell? ⟨b0, o0 + 5 + 4, none⟩ = some (.bool y.h)) ∧ Below w1.heap.size w1 W) (first | (exact KK.out _ (by repeat first | assumption | refine Below.drew ?_)))
        (first
          | (go_at_call 35; (with_reducible refine (CO.out _ (by repeat first | assumption | refine Below.drew ?_)).mono ?_); rintro e w' ⟨rfl, hS'⟩)
          | (go_at_call 15; (with_reducible refine (CT.out _ (by repeat first | assumption | refine Below.drew ?_)).mono ?_); rintro e w' ⟨A3, a3, rfl, hTR, hS'⟩)
          | (go_at_call 53; (with_reducible refine (CJ.out _ _ (by repeat first | assumption | refine Below.drew ?_) (hTR.out)).mono ?_); rintro e w' ⟨A2, a2, rfl, hO, hS'⟩)
          | (fail "no arm"))
      all_goals
        go_wp2_with fail
        go_ret
        exact hO.out
end Go.Proofs.YtpaaibghfhnicaaGreatDoor
