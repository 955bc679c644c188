/-
  THE LAW's awake OF LAYER 17: what its calls tell.
-/
import Derived.Test.YtbddhkgbpjhhaaaGreatDoorIdcM
import Derived.Test.YtbddhkgbpjhhaaaGreatDoorIdlM
import Derived.Test.YtbddhkgbpjhhaaaGreatDoorGTreeB
import Derived.Test.YtbddhkgbpjhhaaaGreatDoorGTreeA
import Derived.Test.YtbddhkgbpjhhaaaGreatDoorIdrM
namespace Go.Proofs.YtbddhkgbpjhhaaaGreatDoor
open Go.RowKit Go.Sort
set_option maxHeartbeats 6400000
abbrev eq17 : Pd := .mk ⟨2, 0, 1, ⟨1, 1, 0, false, 0⟩, ⟨1, 2, 0, false, 0⟩⟩ []
abbrev lefts17 : Tr := .mk 2 0 false [eq17] [twoTr 2, leafTr 2]
theorem lefts17_size : Tr.size lefts17 ≤ 1000 := by
  unfold lefts17 twoTr leafTr eq01 eq17
  simp [Tr.size, Tr.sizes, Pr.sizes, Pr.size]
theorem lefts17_hang {w : World} {g h : Nat} {u v : Value} (hg : g < w.heap.size) (t0 : TrCell w ⟨g, 0, none⟩ (twoTr 2) u v) (t1 : TrCell w ⟨g, 5, none⟩ (leafTr 2) (.slice none 0 0) (.slice none 0 0)) (ht : TrHang w (twoTr 2, u, v)) (hp : PdCell w ⟨h, 0, none⟩ ⟨2, 0, 1, ⟨1, 1, 0, false, 0⟩, ⟨1, 2, 0, false, 0⟩⟩ (.slice none 0 0)) (hh : h < w.heap.size) :
    TrHang w (lefts17, .slice (some ⟨g, 0, none⟩) 2 2, .slice (some ⟨h, 0, none⟩) 1 1) := by
  obtain ⟨⟨d, hd⟩, hv⟩ := ht
  refine ⟨⟨d + 1, some ⟨g, 0, none⟩, 2, rfl, by simp [Tr.ks], fun j a hj => ?_⟩, 1, (PsOn.oneRow (T := fun _ => True) trivial hh hp).at_⟩
  match j, hj with
  | 0, hj =>
    cases hj
    exact ⟨g, 0, none, _, _, rfl, hg, by simpa [Addr.add] using t0, hv, hd⟩
  | 1, hj =>
    cases hj
    exact ⟨g, 0, none, _, _, rfl, hg, by simpa [Addr.add] using t1, ⟨0, rfl, none, 0, rfl⟩, (show TsAt 0 w (.slice none 0 0) [] from ⟨rfl, none, 0, rfl⟩).mono (Nat.zero_le _)⟩
theorem do17_is : (Id.doo 1 (twoTr 1)).isSome = true ∧ (Id.doo 1 (twoTr 1)).getD Id.zero = .mk 1 0 false [eq01] [leafTr 1, leafTr 0] := ⟨by kernel_rfl, by kernel_rfl⟩
theorem do17_no : (Id.doo 1 (twoTr 2)).isSome = false ∧ (Id.doo 1 (twoTr 2)).getD Id.zero = Id.zero := ⟨by kernel_rfl, by kernel_rfl⟩
theorem do17_was : (Id.doo 2 lefts17).isSome = true ∧ (Id.doo 2 lefts17).getD Id.zero = .mk 2 0 false [eq01] [leafTr 0, .mk 2 0 false [eq17] [leafTr 1, leafTr 2]] := ⟨by kernel_rfl, by kernel_rfl⟩
theorem ways17_one : (Id.ways lefts17).length = 1 := by kernel_rfl
theorem may17_is : Id.may 4 4 2 = true ∧ Id.may 2 3 1 = false := ⟨by decide, by decide⟩
theorem kid17 {T : Nat → Prop} {w : World} {x : TrV} (h : TrOn T w x) {j : Nat} {a : Tr} (hj : x.1.ks[j]? = some a) :
    ∃ b o s c u v, x.2.1 = .slice (some ⟨b, o, s⟩) x.1.ks.length c ∧ TrCell w ((⟨b, o, s⟩ : Addr).add (j * 5)) a u v ∧ TrOn T w (a, u, v) := by
  obtain ⟨d, hd⟩ := h.1
  obtain ⟨A, c, hA, _⟩ := hd.at_.form
  rw [hA] at hd
  obtain ⟨e, b, o, s, u, v, _, rfl, _, _, _, _, hc, hp, hk⟩ := hd.one hj
  exact ⟨b, o, s, c, u, v, hA, hc, ⟨e, hk⟩, hp⟩
theorem do17a (uA : Option Addr) (uN uC : Nat) (pA : Option Addr) (pN pC : Nat) (w : World) (h : TrHang w (twoTr 1, .slice uA uN uC, .slice pA pN pC)) (hC : Chgs w) (hW : Want w) :
    Calls Tryz.prog 13 #[.int .i64 1, .agg #[.int .i64 1, .int .i64 0, .slice uA uN uC, .slice pA pN pC, .bool false]] w fun E w' => ∃ b o s c A n c2, E = .returned (.tuple #[.agg #[.int .i64 1, .int .i64 0, .slice (some ⟨b, o, s⟩) 2 c, .slice A n c2, .bool false], .bool true]) ∧ w'.cell? ⟨b, o + 1, none⟩ = some (.int .i64 1) ∧ Below w.heap.size w w' :=
  (idoo_any 1 (by decide) (by decide) (twoTr 1) uA uN uC pA pN pC w h (two_size 1) hC hW).mono fun E w' ho => by
    obtain ⟨t, u, v, ht, rfl, hon, hb⟩ := ho
    rw [do17_is.2] at ht
    subst ht
    obtain ⟨b, o, s, c, _, _, h1, h2, _⟩ := kid17 hon (j := 0) (a := leafTr 1) rfl
    obtain ⟨A, c2, h3, _⟩ := hon.2.elim fun d h => h.at_.form
    change u = .slice (some ⟨b, o, s⟩) 2 c at h1
    change v = .slice A 1 c2 at h3
    subst h1 h3
    exact ⟨b, o, s, c, A, 1, c2, by rw [do17_is.1]; rfl, by have := h2.c1; simpa [Addr.add, Tr.t] using this, hb⟩
theorem do17b (uA : Option Addr) (uN uC : Nat) (pA : Option Addr) (pN pC : Nat) (w : World) (h : TrHang w (twoTr 2, .slice uA uN uC, .slice pA pN pC)) (hC : Chgs w) (hW : Want w) :
    Calls Tryz.prog 13 #[.int .i64 1, .agg #[.int .i64 2, .int .i64 0, .slice uA uN uC, .slice pA pN pC, .bool false]] w fun E w' => ∃ B n c A m c2, E = .returned (.tuple #[.agg #[.int .i64 0, .int .i64 0, .slice B n c, .slice A m c2, .bool false], .bool false]) ∧ Below w.heap.size w w' :=
  (idoo_any 1 (by decide) (by decide) (twoTr 2) uA uN uC pA pN pC w h (two_size 2) hC hW).mono fun E w' ho => by
    obtain ⟨t, u, v, ht, rfl, hon, hb⟩ := ho
    rw [do17_no.2] at ht
    subst ht
    obtain ⟨B, c, h1, _⟩ := hon.1.elim fun d h => h.at_.form
    obtain ⟨A, c2, h3, _⟩ := hon.2.elim fun d h => h.at_.form
    change u = .slice B 0 c at h1
    change v = .slice A 0 c2 at h3
    subst h1 h3
    exact ⟨B, _, c, A, _, c2, by rw [do17_no.1]; rfl, hb⟩
theorem do17c (uA : Option Addr) (uN uC : Nat) (pA : Option Addr) (pN pC : Nat) (w : World) (h : TrHang w (lefts17, .slice uA uN uC, .slice pA pN pC)) (hC : Chgs w) (hW : Want w) :
    Calls Tryz.prog 13 #[.int .i64 2, .agg #[.int .i64 2, .int .i64 0, .slice uA uN uC, .slice pA pN pC, .bool false]] w fun E w' => ∃ b o s c A n c2 b2 o2 s2 c3, E = .returned (.tuple #[.agg #[.int .i64 2, .int .i64 0, .slice (some ⟨b, o, s⟩) 2 c, .slice A n c2, .bool false], .bool true]) ∧ w'.cell? ⟨b, o + 1, none⟩ = some (.int .i64 0) ∧ w'.cell? ⟨b, o + 5 + 2, none⟩ = some (.slice (some ⟨b2, o2, s2⟩) 2 c3) ∧ w'.cell? ⟨b2, o2 + 1, none⟩ = some (.int .i64 1) ∧ Below w.heap.size w w' :=
  (idoo_any 2 (by decide) (by decide) lefts17 uA uN uC pA pN pC w h lefts17_size hC hW).mono fun E w' ho => by
    obtain ⟨t, u, v, ht, rfl, hon, hb⟩ := ho
    rw [do17_was.2] at ht
    subst ht
    obtain ⟨b, o, s, c, _, _, h1, h2, _⟩ := kid17 hon (j := 0) (a := leafTr 0) rfl
    obtain ⟨b', o', s', c', u2, v2, h1', h2', hon2⟩ := kid17 hon (j := 1) (a := .mk 2 0 false [eq17] [leafTr 1, leafTr 2]) rfl
    obtain ⟨b2, o2, s2, c3, _, _, h5, h6, _⟩ := kid17 hon2 (j := 0) (a := leafTr 1) rfl
    obtain ⟨A, c2, h3, _⟩ := hon.2.elim fun d h => h.at_.form
    change u = .slice (some ⟨b, o, s⟩) 2 c at h1
    change u = .slice (some ⟨b', o', s'⟩) 2 c' at h1'
    change u2 = .slice (some ⟨b2, o2, s2⟩) 2 c3 at h5
    change v = .slice A 1 c2 at h3
    subst h1 h3 h5
    obtain ⟨rfl, rfl, rfl, rfl⟩ : b' = b ∧ o' = o ∧ s' = s ∧ c' = c := by simpa [eq_comm, and_assoc] using h1'
    exact ⟨b', o', s', c', A, 1, c2, b2, o2, s2, c3, by rw [do17_was.1]; rfl, by have := h2.c1; simpa [Addr.add, Tr.t] using this, by have := h2'.c2; simpa [Addr.add] using this, by have := h6.c1; simpa [Addr.add, Tr.t] using this, hb⟩
theorem ways17 (uA : Option Addr) (uN uC : Nat) (pA : Option Addr) (pN pC : Nat) (w : World) (h : TrHang w (lefts17, .slice uA uN uC, .slice pA pN pC)) (hC : Chgs w) (hW : Want w) :
    Calls Tryz.prog 8 #[.agg #[.int .i64 2, .int .i64 0, .slice uA uN uC, .slice pA pN pC, .bool false]] w fun E w' => ∃ A c, E = .returned (.slice A 1 c) ∧ Below w.heap.size w w' :=
  (iways_any lefts17 uA uN uC pA pN pC w h lefts17_size hC hW).mono fun E w' ho => by
    obtain ⟨v, d, rfl, hts, hb⟩ := ho
    obtain ⟨A, c, h1, _⟩ := hts.at_.form
    rw [ways17_one] at h1
    exact ⟨A, c, by rw [h1], hb⟩
theorem TrHang.below17 {w w' : World} {x : TrV} (h : TrHang w x) (hb : Below w.heap.size w w') : TrHang w' x := ((h.on (T := fun _ => True) fun _ _ => trivial).keep (T' := fun _ => True) hb.size fun k _ hlt => ⟨hb.block k hlt, trivial⟩).hang
theorem TrHang.form17 {w : World} {x : TrV} (h : TrHang w x) : ∃ A c B e, x.2.1 = .slice A x.1.ks.length c ∧ x.2.2 = .slice B x.1.cs.length e := by
  obtain ⟨A, c, h1, _⟩ := h.1.elim fun d h => h.form
  obtain ⟨B, e, h2, _⟩ := h.2.elim fun d h => h.form
  exact ⟨A, c, B, e, h1, h2⟩
set_option maxRecDepth 100000 in
theorem awake17_any (w : World) (hC : Chgs w) (hW : Want w) : Calls Tryz.prog 6 #[] w fun E w' => E = .returned (.bool true) ∧ Below w.heap.size w w' := by
  have ct := two10_any 1 w
  have HG := Lib.hid (fun W (h : Below w.heap.size w W) => And.intro (hC.below h (Nat.le_refl _)) (hW.below h (Nat.le_refl _)))
  clear hC hW
  go_enter Tryz.func6, Tryz.ntmps6
  go_wp2_with fail
  refine ct.mono ?_
  rintro e w1 ⟨u1, v1, rfl, hh, hb1⟩
  obtain ⟨A1, c1, B1, e1, h1, h2⟩ := hh.form17
  change u1 = .slice A1 2 c1 at h1
  change v1 = .slice B1 1 e1 at h2
  subst h1 h2
  have cd := do17a _ _ _ _ _ _ w1 hh (HG.out _ hb1).1 (HG.out _ hb1).2
  have HB1 := Lib.hid hb1
  clear ct hh hb1
  go_wp2_with fail
  refine cd.mono ?_
  rintro e w2 ⟨b, o, s, c, A, n, c2, rfl, hx, hb2⟩
  obtain ⟨W3, hW3⟩ : ∃ W3, W3 = w2.alloc (Obj.cells #[.int .i64 1, .int .i64 0, .slice (some ⟨b, o, s⟩) 2 c, .slice A n c2, .bool false] 26) := ⟨_, rfl⟩
  obtain ⟨l3, hb3⟩ := box_one (cs := [.int .i64 1, .int .i64 0, .slice (some ⟨b, o, s⟩) 2 c, .slice A n c2, .bool false]) hW3
  have HX := Lib.hid (fun W (h : Below W3.heap.size W3 W) => (show W.cell? ⟨b, o + 1, none⟩ = some (.int .i64 1) ∧ W.cell? ⟨w2.heap.size, 2, none⟩ = some (.slice (some ⟨b, o, s⟩) 2 c) from
    have hbb := block_lt_of_cell hx
    ⟨((below_join hb3 h).cell (p := ⟨b, o + 1, none⟩) hbb).trans hx, (l3.below h l3.lt).cell (i := 2) rfl⟩))
  have HB3 := Lib.hid (below_join HB1.out (below_join hb2 hb3))
  have ct := two10_any 2 W3
  have HW3 := Lib.hid hW3
  clear cd hx hb2 hW3 l3 hb3
  go_wp2_with fail
  rw [← HW3.out]
  refine ct.mono ?_
  rintro e w4 ⟨u1, v1, rfl, hh, hb4⟩
  obtain ⟨A1, c1, B1, e1, h1, h2⟩ := hh.form17
  change u1 = .slice A1 2 c1 at h1
  change v1 = .slice B1 1 e1 at h2
  subst h1 h2
  have cd := do17b _ _ _ _ _ _ w4 hh (HG.out _ (below_join HB3.out hb4)).1 (HG.out _ (below_join HB3.out hb4)).2
  have HB4 := Lib.hid hb4
  clear ct hh hb4
  go_wp2_with fail
  refine cd.mono ?_
  rintro e w5 ⟨B2, n2, c2', A2, m2, e2, rfl, hb5⟩
  obtain ⟨W6, hW6⟩ : ∃ W6, W6 = w5.alloc (Obj.cells #[.int .i64 0, .int .i64 0, .slice B2 n2 c2', .slice A2 m2 e2, .bool false] 26) := ⟨_, rfl⟩
  have HB6 := Lib.hid (show Below W3.heap.size W3 W6 from below_join HB4.out (below_join hb5 (by rw [hW6]; exact below_new _ _)))
  have ct := two10_any 2 W6
  have HW6 := Lib.hid hW6
  clear cd hb5 hW6
  go_wp2_with fail
  rw [← HW6.out]
  refine ct.mono ?_
  rintro e w7 ⟨u1, v1, rfl, hh, hb7⟩
  obtain ⟨A1, c1, B1, e1, h1, h2⟩ := hh.form17
  change u1 = .slice A1 2 c1 at h1
  change v1 = .slice B1 1 e1 at h2
  subst h1 h2
  have HH := Lib.hid hh
  have HB7 := Lib.hid (below_join HB6.out hb7)
  have cl := leaf10_any 2 w7
  clear ct hh hb7
  go_wp2_with fail
  refine cl.mono ?_
  rintro e w8 ⟨rfl, hb8⟩
  have ce := equal6_any 1 2 w8
  have HB8 := Lib.hid hb8
  clear cl hb8
  go_wp2_with fail
  refine ce.mono ?_
  rintro e w9 ⟨rfl, hb9⟩
  obtain ⟨W10, hW10⟩ : ∃ W10, W10 = w9.alloc (Obj.cells #[.int .i64 2, .int .i64 0, .int .i64 1, .int .i64 1, .int .i64 1, .int .i64 0, .bool false, .int .i64 0, .int .i64 1, .int .i64 2, .int .i64 0, .bool false, .int .i64 0, .slice none 0 0] 57) := ⟨_, rfl⟩
  obtain ⟨l10, hb10⟩ := box_one (cs := [.int .i64 2, .int .i64 0, .int .i64 1, .int .i64 1, .int .i64 1, .int .i64 0, .bool false, .int .i64 0, .int .i64 1, .int .i64 2, .int .i64 0, .bool false, .int .i64 0, .slice none 0 0]) hW10
  have HB10 := Lib.hid (below_join HB8.out (below_join hb9 hb10))
  have co := on10_any 2 (twoTr 2, .slice A1 2 c1, .slice B1 1 e1) (leafTr 2, .slice none 0 0, .slice none 0 0) (some ⟨w9.heap.size, 0, none⟩) 1 1 W10
  have HL10 := Lib.hid l10
  have HW10 := Lib.hid hW10
  clear ce hb9 hW10 l10 hb10
  go_wp2_with fail
  rw [← HW10.out]
  refine co.mono ?_
  rintro e w11 ⟨g, rfl, hg1, hg2, t0, t1, hb11⟩
  have hh11 := lefts17_hang hg2 t0 t1 ((HH.out.below17 HB10.out).below17 hb11) (HL10.out.below hb11 HL10.out.lt).pd (Nat.lt_of_lt_of_le HL10.out.lt hb11.size)
  obtain ⟨W12, hW12⟩ : ∃ W12, W12 = w11.alloc (Obj.cells #[.int .i64 2, .int .i64 0, .slice (some ⟨g, 0, none⟩) 2 2, .slice (some ⟨w9.heap.size, 0, none⟩) 1 1, .bool false] 26) := ⟨_, rfl⟩
  obtain ⟨l12, hb12⟩ := box_one (cs := [.int .i64 2, .int .i64 0, .slice (some ⟨g, 0, none⟩) 2 2, .slice (some ⟨w9.heap.size, 0, none⟩) 1 1, .bool false]) hW12
  have HB12 := Lib.hid (below_join HB7.out (below_join HB10.out (below_join hb11 hb12)))
  have hh12 := hh11.below17 hb12
  have HL12 := Lib.hid l12
  have HW12 := Lib.hid hW12
  have HH12 := Lib.hid hh12
  have hbw := below_join HB3.out HB12.out
  have cd := do17c _ _ _ _ _ _ W12 hh12 (HG.out _ hbw).1 (HG.out _ hbw).2
  have HBW := Lib.hid hbw
  have x0 := l12.cell (i := 0) rfl
  have x1 := l12.cell (i := 1) rfl
  have x2 := l12.cell (i := 2) rfl
  have x3 := l12.cell (i := 3) rfl
  have x4 := l12.cell (i := 4) rfl
  clear co hg1 hg2 t0 t1 hb11 hh11 hW12 l12 hb12 hh12 hbw
  go_upto_region 4 with (fail)
  rw [← HW12.out]
  go_wp2_with fail
  refine cd.mono ?_
  rintro e w13 ⟨b3, o3, s3, c3, A3, n3, c4, b4, o4, s4, c5, rfl, hy0, hy1, hy2, hb13⟩
  obtain ⟨W14, hW14⟩ : ∃ W14, W14 = w13.alloc (Obj.cells #[.int .i64 2, .int .i64 0, .slice (some ⟨b3, o3, s3⟩) 2 c3, .slice A3 n3 c4, .bool false] 26) := ⟨_, rfl⟩
  obtain ⟨l14, hb14⟩ := box_one (cs := [.int .i64 2, .int .i64 0, .slice (some ⟨b3, o3, s3⟩) 2 c3, .slice A3 n3 c4, .bool false]) hW14
  have HB14 := Lib.hid (below_join hb13 hb14)
  have hx := HX.out W14 (below_join HB12.out HB14.out)
  obtain ⟨hx1, hx2⟩ := hx
  have r2 := l14.cell (i := 2) rfl
  have r0 := (hb14.cell (p := ⟨b3, o3 + 1, none⟩) (block_lt_of_cell hy0)).trans hy0
  have r1 := (hb14.cell (p := ⟨b3, o3 + 5 + 2, none⟩) (block_lt_of_cell hy1)).trans hy1
  have r3 := (hb14.cell (p := ⟨b4, o4 + 1, none⟩) (block_lt_of_cell hy2)).trans hy2
  have HW14 := Lib.hid hW14
  have cm := imay_any 4 4 2 W14 (HG.out _ (below_join HBW.out HB14.out)).1
  rw [may17_is.1] at cm
  clear cd hy0 hy1 hy2 hb13 hW14 l14 hb14 x0 x1 x2 x3 x4
  go_upto_region 5 with (fail)
  rw [← HW14.out]
  go_wp2_with fail
  refine cm.mono ?_
  rintro e w15 ⟨rfl, hb15⟩
  have HB15 := Lib.hid (below_join HB14.out hb15)
  have cn := imay_any 2 3 1 w15 (HG.out _ (below_join HBW.out HB15.out)).1
  rw [may17_is.2] at cn
  clear cm hb15 r2 r0 r1 r3 hx1 hx2
  go_wp2_with fail
  refine cn.mono ?_
  rintro e w16 ⟨rfl, hb16⟩
  have HB16 := Lib.hid (below_join HB15.out hb16)
  have hl := HL12.out.below HB16.out HL12.out.lt
  have x0 := hl.cell (i := 0) rfl
  have x1 := hl.cell (i := 1) rfl
  have x2 := hl.cell (i := 2) rfl
  have x3 := hl.cell (i := 3) rfl
  have x4 := hl.cell (i := 4) rfl
  have hbw := below_join HBW.out HB16.out
  have cw := ways17 _ _ _ _ _ _ w16 (HH12.out.below17 HB16.out) (HG.out _ hbw).1 (HG.out _ hbw).2
  have HBX := Lib.hid hbw
  clear cn hb16 hl hbw
  go_wp2_with fail
  refine cw.mono ?_
  rintro e w17 ⟨A9, c9, rfl, hb17⟩
  have HB17 := Lib.hid (below_join HBX.out hb17)
  clear cw hb17 x0 x1 x2 x3 x4
  go_wp2_with fail
  go_ret
  exact ⟨rfl, HB17.out⟩
end Go.Proofs.YtbddhkgbpjhhaaaGreatDoor
