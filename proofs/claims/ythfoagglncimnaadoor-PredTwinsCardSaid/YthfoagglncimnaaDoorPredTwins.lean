/-
  THE LAW PredTwins, walked.
-/
import Derived.Test.YthfoagglncimnaaDoorAwakeSix
import Derived.Test.YthfoagglncimnaaDoorOwnRws
import Derived.Test.YthfoagglncimnaaDoorTwin
import Derived.Test.YthfoagglncimnaaDoorRefb
namespace Go.Proofs.YthfoagglncimnaaDoor
open Go.RowKit Go.Sort
set_option maxHeartbeats 6400000

set_option maxRecDepth 100000 in
theorem predtwins_any (d : Nat) (f : Pf) (u : Value) (ps : List Pd) (r r2 : Value) (rs os : List (List Vl)) (w : World) (hu : PsAt d w u ps) (hr : Rws w r rs) (hr2 : Rws w r2 os) (hWant : Want w) :
    Calls Tryd.prog 4 #[.agg #[.int .i64 f.k, .int .i64 f.u, .int .i64 f.o, .int .i64 f.a.k, .int .i64 f.a.t, .int .i64 f.a.c, .bool f.a.z, .int .i64 f.a.n, .int .i64 f.b.k, .int .i64 f.b.t, .int .i64 f.b.c, .bool f.b.z, .int .i64 f.b.n, u], r, r2] w fun e w' => e = .returned (.bool true) ∧ Below w.heap.size w w' := by
  obtain ⟨i0, hi, hz0, hz1, hz2⟩ := info_parts Tryd.infoRow
  obtain ⟨W0, hW0⟩ : ∃ W0, W0 = w.alloc (Obj.cells #[.int .i64 f.k, .int .i64 f.u, .int .i64 f.o, .int .i64 f.a.k, .int .i64 f.a.t, .int .i64 f.a.c, .bool f.a.z, .int .i64 f.a.n, .int .i64 f.b.k, .int .i64 f.b.t, .int .i64 f.b.c, .bool f.b.z, .int .i64 f.b.n, u] 28) := ⟨_, rfl⟩
  obtain ⟨l0, p0, hb0⟩ := pd_box hW0
  have hu0 := hu.below hb0 (Nat.le_refl _)
  have hr0 := hr.below hb0 (Nat.le_refl _)
  have cf := few6_any d f u ps r rs W0 hu0 hr0
  have HU := Lib.hid hu0
  have HR := Lib.hid hr0
  have HWN := Lib.hid (hWant.below hb0 (Nat.le_refl _))
  have HR2 := Lib.hid (hr2.below hb0 (Nat.le_refl _))
  have HW := Lib.hid hW0
  have HP := Lib.hid p0
  have HL := Lib.hid l0.lt
  clear hWant hW0 hu hr hr2 hu0 hr0 l0
  obtain ⟨k0, k1, k2, k3, k4, k5, k6, k7, k8, k9, k10, k11, k12, k13⟩ := p0
  rw [HW.out] at k0 k1 k2 k3 k4 k5 k6 k7 k8 k9 k10 k11 k12 k13 cf
  obtain ⟨b1, hb1⟩ : ∃ b, b = Pr.few (.mk f ps) rs := ⟨_, rfl⟩
  rw [← hb1] at cf
  have HB1 := Lib.hid hb1
  clear hb1
  go_enter Tryd.func4, Tryd.ntmps4
  go_wp2_with fail
  rw [← HW.out] at cf ⊢
  refine cf.mono ?_
  rintro e w1 ⟨rfl, hb1⟩
  clear cf k0 k1 k2 k3 k4 k5 k6 k7 k8 k9 k10 k11 k12 k13
  cases b1
  · have ca := awake6_any w1 (HWN.out.below hb1 (Nat.le_refl _))
    go_wp2_with fail
    refine ca.mono ?_
    rintro e w2 ⟨rfl, hb2⟩
    go_wp2_with fail
    go_ret
    exact ⟨rfl, below_join (below_join hb0 hb1) hb2⟩
  obtain ⟨k0, k1, k2, k3, k4, k5, k6, k7, k8, k9, k10, k11, k12, k13⟩ := HP.out.below hb1 HL.out
  have cg := few6_any d f u ps r2 os w1 (HU.out.below hb1 (Nat.le_refl _)) (HR2.out.below hb1 (Nat.le_refl _))
  obtain ⟨b2, hb2⟩ : ∃ b, b = Pr.few (.mk f ps) os := ⟨_, rfl⟩
  rw [← hb2] at cg
  have HB2 := Lib.hid hb2
  clear hb2
  go_wp2_with fail
  refine cg.mono ?_
  rintro e w2 ⟨rfl, hb2⟩
  have hb3 := below_join hb1 hb2
  clear cg k0 k1 k2 k3 k4 k5 k6 k7 k8 k9 k10 k11 k12 k13 hb1 hb2
  cases b2
  · have ca := awake6_any w2 (HWN.out.below hb3 (Nat.le_refl _))
    go_wp2_with fail
    refine ca.mono ?_
    rintro e w3 ⟨rfl, hb4⟩
    go_wp2_with fail
    go_ret
    exact ⟨rfl, below_join (below_join hb0 hb3) hb4⟩
  obtain ⟨⟨h70, h20⟩, hs1⟩ := Pr.few_yes HB1.out.symm
  obtain ⟨⟨h70b, h20b⟩, _⟩ := Pr.few_yes HB2.out.symm
  have hz1 : Pr.sizes ps ≤ 199 := by rw [Pr.size_at] at hs1; have : (Pd.mk f ps).ps = ps := rfl; rw [this] at hs1; omega
  have HS := Lib.hid (And.intro h70 (And.intro h20 (And.intro h20b hz1)))
  obtain ⟨k0, k1, k2, k3, k4, k5, k6, k7, k8, k9, k10, k11, k12, k13⟩ := HP.out.below hb3 HL.out
  have ct := ptables_any d f u ps w2 (HU.out.below hb3 (Nat.le_refl _))
  have hslt := tables_lt (.mk f ps)
  obtain ⟨s, hs⟩ : ∃ s, s = Pr.tables (.mk f ps) := ⟨_, rfl⟩
  rw [← hs] at ct hslt
  have HSS := Lib.hid hs
  have HSL := Lib.hid hslt
  clear hs hslt h70 h20 hs1 h20b h70b hz1 HB1 HB2
  go_wp2_with fail
  refine ct.mono ?_
  rintro e w3 ⟨rfl, hb4⟩
  have hb5 := below_join hb3 hb4
  obtain ⟨A1, c1, hf1, hlc1, hx1⟩ := (HR.out.below hb5 (Nat.le_refl _)).at_
  obtain ⟨A2, c2, hf2, hlc2, hx2⟩ := (HR2.out.below hb5 (Nat.le_refl _)).at_
  have HB5 := Lib.hid hb5
  have HR3 := Lib.hid (HR.out.below hb5 (Nat.le_refl _))
  have HU3 := Lib.hid (HU.out.below hb5 (Nat.le_refl _))
  have HW3 := Lib.hid (HWN.out.below hb5 (Nat.le_refl _))
  subst hf1 hf2
  obtain ⟨n, hn⟩ : ∃ n, n = rs.length := ⟨_, rfl⟩
  obtain ⟨m, hm⟩ : ∃ m, m = os.length := ⟨_, rfl⟩
  rw [← hn] at HR3 ⊢
  rw [← hm]
  have HN := Lib.hid hn
  have HM := Lib.hid hm
  have HX1 := Lib.hid hx1
  have HX2 := Lib.hid hx2
  have how : OwnRws w3 (w3.alloc (Obj.cells #[] 45)) (.slice (some ⟨w3.heap.size, 0, none⟩) 0 0) 0 [] (Pr.twin s rs os 0) :=
    ⟨own_none w3 _ _ rfl, rfl, rfl, fun i r h => by simp [Pr.twin] at h, below_new _ _⟩
  have HOW := Lib.hid how
  clear ct k0 k1 k2 k3 k4 k5 k6 k7 k8 k9 k10 k11 k12 k13 hb3 hb4 hb5 hn hm hx1 hx2 hlc1 hlc2 how
  go_wp2_with fail
  go_loopw [8, 9] (fun v8 i wr => ∃ (q : Nat) (vs : List Value), q ≤ 64 ∧ i = .int .i64 q ∧ OwnRws w3 wr v8 q vs (Pr.twin s rs os q)) (fun _ i _ => 64 - (intOf i).toNat)
  case atStart => exact ⟨0, [], Nat.zero_le _, rfl, HOW.out⟩
  case round =>
    obtain ⟨q, vs, hq, rfl, ho⟩ := hrel
    by_cases hlt : q < 64
    · obtain ⟨b, hb⟩ : ∃ b, s.testBit q = b := ⟨_, rfl⟩
      have ch := fun W => rhas_nat s q b W HSL.out hlt hb
      have HBB := Lib.hid hb
      have HTW := Lib.hid (show Pr.twin s rs os (q + 1) = Pr.twin s rs os q ++ [Pr.twinRow s rs os q] from rfl)
      have h63 := Lib.hid (show q + 1 ≤ maxLen by unfold maxLen; omega)
      have hby := Lib.hid (show (q + 1) * 24 ≤ 140737488355328 by omega)
      clear hb
      cases b
      · by_cases hqm : q < m
        · obtain ⟨y, gy⟩ : ∃ y, os[q]? = some y := ⟨os[q]'(by have := HM.out; omega), List.getElem?_eq_getElem _⟩
          obtain ⟨b7, o7, s7, B7, d7, rfl, hc7, _, hrow7⟩ := HX2.out q y gy
          replace hc7 := (ho.kept.cell (by rw [add_block]; have := block_lt_of_cell hc7; rwa [add_block] at this)).trans hc7
          have hR := Lib.hid (show Pr.twinRow s rs os q = y by unfold Pr.twinRow; rw [HBB.out]; simp [List.getD, gy])
          have d1 : decide (q < m) = true := by simpa using hqm
          clear gy
          have hone := Lib.hid (show ∀ u ∈ ([.slice B7 y.length d7] : List Value), u.oneCell' = true by intro u hu; obtain rfl : u = .slice B7 y.length d7 := (by simpa using hu); rfl)
          have hoa := Lib.hid (ho.own.alloc (Obj.cells #[.slice B7 y.length d7] 45))
          have hbs := Lib.hid (show w3.heap.size ≤ (wr.alloc (Obj.cells #[.slice B7 y.length d7] 45)).heap.size by have := ho.kept.size; rw [World.size_alloc]; omega)
          have HUO := Lib.hid (show RowAt w3 (.slice B7 y.length d7) (Pr.twinRow s rs os q) from hR.out ▸ hrow7)
          clear hrow7
          go_wp2_with (first
            | (go_at_call 21; (with_reducible refine (ch _).mono ?_); rintro e w' ⟨rfl, rfl⟩)
            | (at_builtin; refine wpList_append_own _ rfl _ _ 29 rfl w3.heap.size 45 i0 (.slice none 0 0) 1 24 Tryd.underlying29 hi hz0 hz1 hz2 rfl (by decide) _ q _ rfl hoa.out ⟨wr.heap.size, 0, none⟩ 1 1 [.slice B7 y.length d7] rfl rfl ?a1 hone.out h63.out hby.out hbs.out ?_))
          case a1 => exact cell_one_new _ _ _
          intro v1 w5 hown5 hgrow _
          have hb5 : Below w3.heap.size w3 w5 := (ho.kept.alloc ho.kept.size _).grown hgrow hbs.out (fun k hk => (ho.own.lt k hk).1)
          have ho5 := ho.push hown5 HUO.out hb5
          clear hown5 hgrow
          go_wp2_with fail
          go_roundw
          case rel => exact ⟨q + 1, _, by omega, by go_num, by rw [HTW.out]; exact ho5⟩
          case measure => simp [intOf]; omega
        · have hR := Lib.hid (show Pr.twinRow s rs os q = [] by unfold Pr.twinRow; rw [HBB.out]; simp [List.getD, List.getElem?_eq_none (show os.length ≤ q by have := HM.out; omega)])
          have d1 : decide (q < m) = false := by simpa using hqm
          have hone := Lib.hid (show ∀ u ∈ ([.slice none 0 0] : List Value), u.oneCell' = true by intro u hu; obtain rfl : u = .slice none 0 0 := (by simpa using hu); rfl)
          have hoa := Lib.hid (ho.own.alloc (Obj.cells #[.slice none 0 0] 45))
          have hbs := Lib.hid (show w3.heap.size ≤ (wr.alloc (Obj.cells #[.slice none 0 0] 45)).heap.size by have := ho.kept.size; rw [World.size_alloc]; omega)
          have HUO := Lib.hid (show RowAt w3 (.slice none 0 0) (Pr.twinRow s rs os q) from hR.out ▸ RowAt.nil _)
          go_wp2_with (first
            | (go_at_call 21; (with_reducible refine (ch _).mono ?_); rintro e w' ⟨rfl, rfl⟩)
            | (at_builtin; refine wpList_append_own _ rfl _ _ 29 rfl w3.heap.size 45 i0 (.slice none 0 0) 1 24 Tryd.underlying29 hi hz0 hz1 hz2 rfl (by decide) _ q _ rfl hoa.out ⟨wr.heap.size, 0, none⟩ 1 1 [.slice none 0 0] rfl rfl ?a2 hone.out h63.out hby.out hbs.out ?_))
          case a2 => exact cell_one_new _ _ _
          intro v1 w5 hown5 hgrow _
          have hb5 : Below w3.heap.size w3 w5 := (ho.kept.alloc ho.kept.size _).grown hgrow hbs.out (fun k hk => (ho.own.lt k hk).1)
          have ho5 := ho.push hown5 HUO.out hb5
          clear hown5 hgrow
          go_wp2_with fail
          go_roundw
          case rel => exact ⟨q + 1, _, by omega, by go_num, by rw [HTW.out]; exact ho5⟩
          case measure => simp [intOf]; omega
      · by_cases hqn : q < n
        · obtain ⟨y, gy⟩ : ∃ y, rs[q]? = some y := ⟨rs[q]'(by have := HN.out; omega), List.getElem?_eq_getElem _⟩
          obtain ⟨b7, o7, s7, B7, d7, rfl, hc7, _, hrow7⟩ := HX1.out q y gy
          replace hc7 := (ho.kept.cell (by rw [add_block]; have := block_lt_of_cell hc7; rwa [add_block] at this)).trans hc7
          have hR := Lib.hid (show Pr.twinRow s rs os q = y by unfold Pr.twinRow; rw [HBB.out]; simp [List.getD, gy])
          have d1 : decide (q < n) = true := by simpa using hqn
          clear gy
          have hone := Lib.hid (show ∀ u ∈ ([.slice B7 y.length d7] : List Value), u.oneCell' = true by intro u hu; obtain rfl : u = .slice B7 y.length d7 := (by simpa using hu); rfl)
          have hoa := Lib.hid (ho.own.alloc (Obj.cells #[.slice B7 y.length d7] 45))
          have hbs := Lib.hid (show w3.heap.size ≤ (wr.alloc (Obj.cells #[.slice B7 y.length d7] 45)).heap.size by have := ho.kept.size; rw [World.size_alloc]; omega)
          have HUO := Lib.hid (show RowAt w3 (.slice B7 y.length d7) (Pr.twinRow s rs os q) from hR.out ▸ hrow7)
          clear hrow7
          go_wp2_with (first
            | (go_at_call 21; (with_reducible refine (ch _).mono ?_); rintro e w' ⟨rfl, rfl⟩)
            | (at_builtin; refine wpList_append_own _ rfl _ _ 29 rfl w3.heap.size 45 i0 (.slice none 0 0) 1 24 Tryd.underlying29 hi hz0 hz1 hz2 rfl (by decide) _ q _ rfl hoa.out ⟨wr.heap.size, 0, none⟩ 1 1 [.slice B7 y.length d7] rfl rfl ?a3 hone.out h63.out hby.out hbs.out ?_))
          case a3 => exact cell_one_new _ _ _
          intro v1 w5 hown5 hgrow _
          have hb5 : Below w3.heap.size w3 w5 := (ho.kept.alloc ho.kept.size _).grown hgrow hbs.out (fun k hk => (ho.own.lt k hk).1)
          have ho5 := ho.push hown5 HUO.out hb5
          clear hown5 hgrow
          go_wp2_with fail
          go_roundw
          case rel => exact ⟨q + 1, _, by omega, by go_num, by rw [HTW.out]; exact ho5⟩
          case measure => simp [intOf]; omega
        · have hR := Lib.hid (show Pr.twinRow s rs os q = [] by unfold Pr.twinRow; rw [HBB.out]; simp [List.getD, List.getElem?_eq_none (show rs.length ≤ q by have := HN.out; omega)])
          have d1 : decide (q < n) = false := by simpa using hqn
          have hone := Lib.hid (show ∀ u ∈ ([.slice none 0 0] : List Value), u.oneCell' = true by intro u hu; obtain rfl : u = .slice none 0 0 := (by simpa using hu); rfl)
          have hoa := Lib.hid (ho.own.alloc (Obj.cells #[.slice none 0 0] 45))
          have hbs := Lib.hid (show w3.heap.size ≤ (wr.alloc (Obj.cells #[.slice none 0 0] 45)).heap.size by have := ho.kept.size; rw [World.size_alloc]; omega)
          have HUO := Lib.hid (show RowAt w3 (.slice none 0 0) (Pr.twinRow s rs os q) from hR.out ▸ RowAt.nil _)
          go_wp2_with (first
            | (go_at_call 21; (with_reducible refine (ch _).mono ?_); rintro e w' ⟨rfl, rfl⟩)
            | (at_builtin; refine wpList_append_own _ rfl _ _ 29 rfl w3.heap.size 45 i0 (.slice none 0 0) 1 24 Tryd.underlying29 hi hz0 hz1 hz2 rfl (by decide) _ q _ rfl hoa.out ⟨wr.heap.size, 0, none⟩ 1 1 [.slice none 0 0] rfl rfl ?a4 hone.out h63.out hby.out hbs.out ?_))
          case a4 => exact cell_one_new _ _ _
          intro v1 w5 hown5 hgrow _
          have hb5 : Below w3.heap.size w3 w5 := (ho.kept.alloc ho.kept.size _).grown hgrow hbs.out (fun k hk => (ho.own.lt k hk).1)
          have ho5 := ho.push hown5 HUO.out hb5
          clear hown5 hgrow
          go_wp2_with fail
          go_roundw
          case rel => exact ⟨q + 1, _, by omega, by go_num, by rw [HTW.out]; exact ho5⟩
          case measure => simp [intOf]; omega
    · obtain rfl : q = 64 := by omega
      have HZ0 := Lib.hid (below_join hb0 HB5.out)
      by_cases hn64 : 64 < n
      · have d1 : decide ((64 : Int) < (n : Int)) = true := by simp; omega
        have d2 : decide (64 < n) = true := by simp; omega
        have ca := awake6_any wr (HW3.out.below ho.kept (Nat.le_refl _))
        have hk := ho.kept
        clear ho
        go_wp2_with fail
        refine ca.mono ?_
        rintro e w6 ⟨rfl, hb6⟩
        go_wp2_with fail
        go_ret
        exact ⟨rfl, below_join (below_join HZ0.out hk) hb6⟩
      · have d1 : decide ((64 : Int) < (n : Int)) = false := by simp; omega
        have d2 : decide (64 < n) = false := by simp; omega
        obtain ⟨h70, h20, h20b, hz1⟩ := HS.out
        have hl64 : rs.length ≤ 64 := by have := HN.out; omega
        have htw : Pr.of (Pr.twin s rs os 64) (.mk f ps) = Pr.of rs (.mk f ps) := Pr.of_twin hl64 _ (fun j hj => by rw [HSS.out]; exact hj)
        have c1 := in_class (W0 := wr) fun W h => pof_any d f u ps _ (Pr.twin s rs os 64) W ((HU3.out.below ho.kept (Nat.le_refl _)).below h (Nat.le_refl _)) (by omega) (ho.rws.below h (Nat.le_refl _)) ((HW3.out.below ho.kept (Nat.le_refl _)).below h (Nat.le_refl _))
        have c2 := in_class (W0 := wr) fun W h => pof_any d f u ps _ rs W ((HU3.out.below ho.kept (Nat.le_refl _)).below h (Nat.le_refl _)) (by omega) ((HR3.out.below ho.kept (Nat.le_refl _)).below h (Nat.le_refl _)) ((HW3.out.below ho.kept (Nat.le_refl _)).below h (Nat.le_refl _))
        have c3 := in_class (W0 := wr) fun W h => awake6_any W ((HW3.out.below ho.kept (Nat.le_refl _)).below h (Nat.le_refl _))
        rw [htw] at c1
        generalize Pr.of rs (.mk f ps) = x at c1 c2
        obtain ⟨k0, k1, k2, k3, k4, k5, k6, k7, k8, k9, k10, k11, k12, k13⟩ := (HP.out.below HB5.out HL.out).below ho.kept (show w.heap.size < w3.heap.size by have := HL.out; have := HB5.out.size; omega)
        have i0 := cell_regrown k0
        have i1 := cell_regrown k1
        have i2 := cell_regrown k2
        have i3 := cell_regrown k3
        have i4 := cell_regrown k4
        have i5 := cell_regrown k5
        have i6 := cell_regrown k6
        have i7 := cell_regrown k7
        have i8 := cell_regrown k8
        have i9 := cell_regrown k9
        have i10 := cell_regrown k10
        have i11 := cell_regrown k11
        have i12 := cell_regrown k12
        have i13 := cell_regrown k13
        have hk := ho.kept
        clear ho h70 h20 h20b hz1 hl64 htw k0 k1 k2 k3 k4 k5 k6 k7 k8 k9 k10 k11 k12 k13
        go_wp2_with fail
        refine wp_region_quiet_below (by kernel_rfl) (by kernel_rfl) ?_
        repeat (go_big_quiet_step (with_reducible first | exact c1 _ _ | exact c2 _ _ | exact c3 _ _))
        refine wpQuiet_nil ?_
        intro _ hw'
        obtain ⟨⟨dq, osq⟩, hw''⟩ := hw'
        subst hw''
        have hbz := below_join (below_join HZ0.out hk) (below_regrown wr dq osq)
        clear c1 c2 c3 i0 i1 i2 i3 i4 i5 i6 i7 i8 i9 i10 i11 i12 i13
        generalize grow (redrawn wr dq) osq = wz at hbz ⊢
        go_wp2_with fail
        go_ret
        exact ⟨rfl, hbz⟩
end Go.Proofs.YthfoagglncimnaaDoor
