/-
  THE CONTRACTS OF package pred's Of AND All: the closure over the parts; each part's truth in a row; whole.
-/
import Derived.Test.YthfoagglncimnaaDoorPredv
import Derived.Test.YthfoagglncimnaaDoorPredd
import Derived.Test.YthfoagglncimnaaDoorTermb
import Derived.Test.YthfoagglncimnaaDoorLogc
import Derived.Deep.Cut
namespace Go.Proofs.YthfoagglncimnaaDoor
open Go.RowKit Go.Sort
set_option maxHeartbeats 3200000

theorem Rws.form {w : World} {v : Value} {rs : List (List Vl)} (h : Rws w v rs) : ∃ A c, v = .slice A rs.length c := by
  obtain ⟨A, c, hv, _⟩ := h.at_
  exact ⟨A, c, hv⟩
theorem Lo.andI_sure {t : Int} (h : (t == 0 || t == 1 || t == 2) = true) : Lo.andI [t] = t := by
  have : t = 0 ∨ t = 1 ∨ t = 2 := by simpa [or_assoc] using h
  rcases this with rfl | rfl | rfl <;> decide
theorem Lo.andI_none {t : Int} (h : (t == 0 || t == 1 || t == 2) = false) : Lo.andI [t] = 1 := by
  have : t ≠ 0 ∧ t ≠ 2 := by simp at h; omega
  exact Lo.andI_one (by simp; omega) (by simp; omega)
/-- the closure over one part -/
theorem ptruth1_of (b : Nat) (f : Pf) (A : Option Addr) (n c : Nat) (v : Value) (r : Int) (w : World) (hc : w.cell? ⟨b, 0, none⟩ = some v)
    (hs : ∀ W, Below w.heap.size w W → Calls Tryd.prog 17 #[.agg #[.int .i64 f.k, .int .i64 f.u, .int .i64 f.o, .int .i64 f.a.k, .int .i64 f.a.t, .int .i64 f.a.c, .bool f.a.z, .int .i64 f.a.n, .int .i64 f.b.k, .int .i64 f.b.t, .int .i64 f.b.c, .bool f.b.z, .int .i64 f.b.n, .slice A n c], v] W fun e w' => e = .returned (.int .i64 r) ∧ Below W.heap.size W w') :
    Calls Tryd.prog 64 #[.agg #[.int .i64 f.k, .int .i64 f.u, .int .i64 f.o, .int .i64 f.a.k, .int .i64 f.a.t, .int .i64 f.a.c, .bool f.a.z, .int .i64 f.a.n, .int .i64 f.b.k, .int .i64 f.b.t, .int .i64 f.b.c, .bool f.b.z, .int .i64 f.b.n, .slice A n c], .pointer (some ⟨b, 0, none⟩)] w fun e w' => e = .returned (.int .i64 r) ∧ Below w.heap.size w w' := by
  obtain ⟨W0, hW0⟩ : ∃ W0, W0 = w.alloc (Obj.cells #[.int .i64 f.k, .int .i64 f.u, .int .i64 f.o, .int .i64 f.a.k, .int .i64 f.a.t, .int .i64 f.a.c, .bool f.a.z, .int .i64 f.a.n, .int .i64 f.b.k, .int .i64 f.b.t, .int .i64 f.b.c, .bool f.b.z, .int .i64 f.b.n, .slice A n c] 28) := ⟨_, rfl⟩
  obtain ⟨l0, p0, hb0⟩ := pd_box hW0
  have hbb : b < w.heap.size := World.block_lt_of_cell? w _ hc
  have hc0 : W0.cell? ⟨b, 0, none⟩ = some v := (hb0.cell (p := ⟨b, 0, none⟩) hbb).trans hc
  have cs := hs W0 hb0
  have HW := Lib.hid hW0
  obtain ⟨x0, x1, x2, x3, x4, x5, x6, x7, x8, x9, x10, x11, x12, x13⟩ := p0
  clear hW0 l0 hc hs hbb
  go_enter Tryd.func64, Tryd.ntmps64
  go_upto_region 1 with (fail)
  rw [← HW.out]
  go_wp2_with fail
  refine cs.mono ?_
  rintro e w2 ⟨rfl, hb2⟩
  clear cs x0 x1 x2 x3 x4 x5 x6 x7 x8 x9 x10 x11 x12 x13
  go_wp2_with fail
  go_ret
  exact ⟨rfl, below_join hb0 hb2⟩
set_option maxRecDepth 100000 in
theorem peachi_of (d : Nat) (ih : ∀ e, e < d → ∀ (f : Pf) (u : Value) (ps : List Pd) (v : Value) (rs : List (List Vl)) (w : World), PsAt e w u ps → Pr.sizes ps ≤ 1000 → Rws w v rs → Want w → Calls Tryd.prog 17 #[.agg #[.int .i64 f.k, .int .i64 f.u, .int .i64 f.o, .int .i64 f.a.k, .int .i64 f.a.t, .int .i64 f.a.c, .bool f.a.z, .int .i64 f.a.n, .int .i64 f.b.k, .int .i64 f.b.t, .int .i64 f.b.c, .bool f.b.z, .int .i64 f.b.n, u], v] w fun e w' => e = .returned (.int .i64 (Pr.of rs (.mk f ps))) ∧ Below w.heap.size w w') (b : Nat) (u : Value) (ps : List Pd) (v : Value) (rs : List (List Vl)) (w : World) (hu : PsAt d w u ps) (hsz : Pr.sizes ps ≤ 1000) (hv : Rws w v rs) (hW : Want w) (hc : w.cell? ⟨b, 0, none⟩ = some v) :
    Calls Tryd.prog 63 #[u, .func (.func 64) #[] #[.pointer (some ⟨b, 0, none⟩)]] w fun e w' => ∃ r, e = .returned r ∧ w'.ownsRow w.heap.size 3 1 r ps.length ((ps.map (Pr.of rs)).map (Value.int .i64)) ∧ Below w.heap.size w w' := by
  obtain ⟨i0, hi, hz0, hz1, hz2⟩ := info_parts Tryd.infoInt
  have HU := Lib.hid hu
  have HV := Lib.hid hv
  have HWa := Lib.hid hW
  have HC := Lib.hid hc
  have IH := Lib.hid ih
  have HZ := Lib.hid hsz
  obtain ⟨A, c, rfl, hl⟩ := hu.form
  have hn1 := Pr.sizes_length ps
  obtain ⟨n, hn⟩ : ∃ n, n = ps.length := ⟨_, rfl⟩
  rw [← hn] at hl HU hn1 ⊢
  have hn2 : n ≤ 1000 := by omega
  have HN := Lib.hid hn
  have cg := pgrowi_any n w (by omega)
  clear hu hv hW hc ih hsz hn1 hn
  go_enter Tryd.func63, Tryd.ntmps63
  go_wp2_with fail
  refine cg.mono ?_
  rintro e w1 ⟨v1, rfl, hown1, hb1⟩
  have HO := Lib.hid hown1
  clear cg hown1
  go_wp2_with fail
  go_loopw [5, 13] (fun s i wr => ∃ (q : Nat), q ≤ n ∧ i = .int .i64 q ∧ wr.ownsRow w.heap.size 3 1 s q (((ps.take q).map (Pr.of rs)).map (Value.int .i64)) ∧ Below w.heap.size w wr) (fun _ i _ => n - (intOf i).toNat)
  case atStart => exact ⟨0, Nat.zero_le _, rfl, HO.out, hb1⟩
  case round =>
    obtain ⟨q, hq, rfl, hown, hb⟩ := hrel
    by_cases hlt : q < n
    · obtain ⟨p, gp⟩ : ∃ p, ps[q]? = some p := ⟨ps[q]'(by have := HN.out; omega), List.getElem?_eq_getElem _⟩
      have hu := HU.out
      rw [HN.out] at hu
      obtain ⟨e, b', o, s, v', he, rfl, _, hx⟩ := hu.at_ gp
      obtain ⟨hcell, hps⟩ := hx wr hb
      obtain ⟨A2, c2, rfl, _⟩ := hps.form
      have hb3 : Below w.heap.size w (wr.alloc (Obj.cells #[.int .i64 p.f.k, .int .i64 p.f.u, .int .i64 p.f.o, .int .i64 p.f.a.k, .int .i64 p.f.a.t, .int .i64 p.f.a.c, .bool p.f.a.z, .int .i64 p.f.a.n, .int .i64 p.f.b.k, .int .i64 p.f.b.t, .int .i64 p.f.b.c, .bool p.f.b.z, .int .i64 p.f.b.n, .slice A2 p.ps.length c2] 28)) := below_join hb (below_new _ _)
      have hown2 : (wr.alloc (Obj.cells #[.int .i64 p.f.k, .int .i64 p.f.u, .int .i64 p.f.o, .int .i64 p.f.a.k, .int .i64 p.f.a.t, .int .i64 p.f.a.c, .bool p.f.a.z, .int .i64 p.f.a.n, .int .i64 p.f.b.k, .int .i64 p.f.b.t, .int .i64 p.f.b.c, .bool p.f.b.z, .int .i64 p.f.b.n, .slice A2 p.ps.length c2] 28)).ownsRow _ _ _ _ _ _ := hown.alloc _
      obtain ⟨x, hx1⟩ : ∃ x, x = Pr.of rs p := ⟨_, rfl⟩
      have hcb : (wr.alloc (Obj.cells #[.int .i64 p.f.k, .int .i64 p.f.u, .int .i64 p.f.o, .int .i64 p.f.a.k, .int .i64 p.f.a.t, .int .i64 p.f.a.c, .bool p.f.a.z, .int .i64 p.f.a.n, .int .i64 p.f.b.k, .int .i64 p.f.b.t, .int .i64 p.f.b.c, .bool p.f.b.z, .int .i64 p.f.b.n, .slice A2 p.ps.length c2] 28)).cell? ⟨b, 0, none⟩ = some v := (hb3.cell (p := ⟨b, 0, none⟩) (World.block_lt_of_cell? w _ HC.out)).trans HC.out
      have cs := ptruth1_of b p.f A2 p.ps.length c2 v x _ hcb (fun W h => by
        have hW3 := below_join hb3 h
        have k := IH.out e he p.f _ p.ps v rs W ((hx W hW3).2) (by have := Pr.sizes_down gp; have := HZ.out; omega) (HV.out.below hW3 (Nat.le_refl _)) (HWa.out.below hW3 (Nat.le_refl _))
        rw [Pr.of_mk, ← hx1] at k
        exact k)
      have ht := Pr.ofs_take (rs := rs) gp
      rw [← hx1] at ht
      have HT := Lib.hid ht
      obtain ⟨x0, x1, x2, x3, x4, x5, x6, x7, x8, x9, x10, x11, x12, x13⟩ := hcell
      clear gp hx hps hu hx1 ht hcb hown
      go_wp2_with fail
      refine cs.mono ?_
      rintro e w2 ⟨rfl, hb2⟩
      have hb' := below_join hb3 hb2
      have hown3 := own_kept hown2 hb2
      clear cs x0 x1 x2 x3 x4 x5 x6 x7 x8 x9 x10 x11 x12 x13 hb2 hb3 hown2
      go_wp2_with (first
        | (at_builtin; refine wpList_append_own _ rfl _ _ 63 rfl w.heap.size 3 i0 (.int .i64 0) 1 8 Tryd.underlying63 hi hz0 hz1 hz2 rfl (by decide) _ _ _ rfl (hown3.alloc _) ⟨w2.heap.size, 0, none⟩ 1 1 [.int .i64 x] rfl rfl ?c1 ?c2 ?c3 ?c4 ?c5 ?_))
      case c1 => exact cell_one_new _ _ _
      case c2 => simp [Value.oneCell']
      case c3 => unfold maxLen; omega
      case c4 => omega
      case c5 => have := hb'.size; simp; omega
      intro v1 w3 hown4 hgrow _
      have hb5 : Below w.heap.size w w3 := (hb'.alloc hb'.size _).grown hgrow (by have := hb'.size; simp; omega) (fun k hk => (hown3.lt k hk).1)
      have hown5 : w3.ownsRow w.heap.size 3 1 v1 (q + 1) (((ps.take (q + 1)).map (Pr.of rs)).map (Value.int .i64)) := by rw [HT.out]; simpa using hown4
      clear hown4 hgrow hown3 hb'
      go_wp2_with fail
      go_roundw
      case rel => exact ⟨q + 1, by omega, by go_num, hown5, hb5⟩
      case measure => simp [intOf]; omega
    · obtain rfl : n = q := by omega
      rw [List.take_of_length_le (by have := HN.out; omega)] at hown
      have HOW := Lib.hid hown
      clear hown
      go_wp2_with fail
      go_ret
      exact ⟨_, rfl, HOW.out, hb⟩
theorem ptruths_of (d : Nat) (ih : ∀ e, e < d → ∀ (f : Pf) (u : Value) (ps : List Pd) (v : Value) (rs : List (List Vl)) (w : World), PsAt e w u ps → Pr.sizes ps ≤ 1000 → Rws w v rs → Want w → Calls Tryd.prog 17 #[.agg #[.int .i64 f.k, .int .i64 f.u, .int .i64 f.o, .int .i64 f.a.k, .int .i64 f.a.t, .int .i64 f.a.c, .bool f.a.z, .int .i64 f.a.n, .int .i64 f.b.k, .int .i64 f.b.t, .int .i64 f.b.c, .bool f.b.z, .int .i64 f.b.n, u], v] w fun e w' => e = .returned (.int .i64 (Pr.of rs (.mk f ps))) ∧ Below w.heap.size w w') (u : Value) (ps : List Pd) (v : Value) (rs : List (List Vl)) (w : World) (hu : PsAt d w u ps) (hsz : Pr.sizes ps ≤ 1000) (hv : Rws w v rs) (hW : Want w) :
    Calls Tryd.prog 41 #[u, v] w fun e w' => ∃ r, e = .returned r ∧ Sl w' r ((ps.map (Pr.of rs)).map (Value.int .i64)) ∧ Below w.heap.size w w' := by
  obtain ⟨B, c', rfl⟩ := hv.form
  obtain ⟨W0, hW0⟩ : ∃ W0, W0 = w.alloc (Obj.cells #[.slice B rs.length c'] 29) := ⟨_, rfl⟩
  obtain ⟨l0, hb0⟩ := box_one (cs := [.slice B rs.length c']) hW0
  have cs := peachi_of d ih w.heap.size u ps _ rs W0 (hu.below hb0 (Nat.le_refl _)) hsz (hv.below hb0 (Nat.le_refl _)) (hW.below hb0 (Nat.le_refl _)) (l0.cell (i := 0) rfl)
  obtain ⟨A, c, rfl, hl⟩ := hu.form
  have HW := Lib.hid hW0
  clear hW0 l0 ih hu hv hW hsz
  go_enter Tryd.func41, Tryd.ntmps41
  go_upto_region 1 with (fail)
  rw [← HW.out]
  go_wp2_with fail
  refine cs.mono ?_
  rintro e w2 ⟨r, rfl, hown, hb2⟩
  have HO := Lib.hid (Sl.own hown)
  clear cs hown
  go_wp2_with fail
  go_ret
  exact ⟨r, rfl, HO.out, below_join hb0 hb2⟩
theorem pall_of (d : Nat) (ih : ∀ e, e < d → ∀ (f : Pf) (u : Value) (ps : List Pd) (v : Value) (rs : List (List Vl)) (w : World), PsAt e w u ps → Pr.sizes ps ≤ 1000 → Rws w v rs → Want w → Calls Tryd.prog 17 #[.agg #[.int .i64 f.k, .int .i64 f.u, .int .i64 f.o, .int .i64 f.a.k, .int .i64 f.a.t, .int .i64 f.a.c, .bool f.a.z, .int .i64 f.a.n, .int .i64 f.b.k, .int .i64 f.b.t, .int .i64 f.b.c, .bool f.b.z, .int .i64 f.b.n, u], v] w fun e w' => e = .returned (.int .i64 (Pr.of rs (.mk f ps))) ∧ Below w.heap.size w w') (u : Value) (ps : List Pd) (v : Value) (rs : List (List Vl)) (w : World) (hu : PsAt d w u ps) (hsz : Pr.sizes ps ≤ 1000) (hv : Rws w v rs) (hW : Want w) :
    Calls Tryd.prog 19 #[u, v] w fun e w' => e = .returned (.int .i64 (Lo.andI (ps.map (Pr.of rs)))) ∧ Below w.heap.size w w' := by
  have cs := ptruths_of d ih u ps v rs w hu hsz hv hW
  obtain ⟨B, c', rfl⟩ := hv.form
  obtain ⟨A, c, rfl, hl⟩ := hu.form
  have HN := Lib.hid (show (ps.map (Pr.of rs)).length ≤ 9223372036854775807 by rw [List.length_map]; exact hl)
  clear ih hu hv hW hsz hl
  go_enter Tryd.func19, Tryd.ntmps19
  go_wp2_with fail
  refine cs.mono ?_
  rintro e w2 ⟨r, rfl, hsl, hb2⟩
  have ca := land_any r (ps.map (Pr.of rs)) w2 hsl HN.out
  clear cs hsl
  go_wp2_with fail
  refine ca.mono ?_
  rintro e w3 ⟨rfl, hb3⟩
  clear ca
  go_wp2_with fail
  go_ret
  exact ⟨rfl, below_join hb2 hb3⟩
/-- a value's first field -/
theorem val_null (y : Bool) (m : Int) (w : World) : (Instr.field 23 (.agg #[.bool y, .int .i64 m]) 0).run Tryd.prog w = .ok (.bool y) w := by kernel_rfl
set_option maxRecDepth 100000 in
theorem pof_at (d : Nat) : ∀ (f : Pf) (u : Value) (ps : List Pd) (v : Value) (rs : List (List Vl)) (w : World), PsAt d w u ps → Pr.sizes ps ≤ 1000 → Rws w v rs → Want w → Calls Tryd.prog 17 #[.agg #[.int .i64 f.k, .int .i64 f.u, .int .i64 f.o, .int .i64 f.a.k, .int .i64 f.a.t, .int .i64 f.a.c, .bool f.a.z, .int .i64 f.a.n, .int .i64 f.b.k, .int .i64 f.b.t, .int .i64 f.b.c, .bool f.b.z, .int .i64 f.b.n, u], v] w fun e w' => e = .returned (.int .i64 (Pr.of rs (.mk f ps))) ∧ Below w.heap.size w w' := by
  induction d using Nat.strongRecOn with
  | ind d ih =>
  intro f u ps v rs w hu hsz hv hW
  obtain ⟨A, c, rfl, hl⟩ := hu.form
  obtain ⟨W0, hW0⟩ : ∃ W0, W0 = w.alloc (Obj.cells #[.int .i64 f.k, .int .i64 f.u, .int .i64 f.o, .int .i64 f.a.k, .int .i64 f.a.t, .int .i64 f.a.c, .bool f.a.z, .int .i64 f.a.n, .int .i64 f.b.k, .int .i64 f.b.t, .int .i64 f.b.c, .bool f.b.z, .int .i64 f.b.n, .slice A ps.length c] 28) := ⟨_, rfl⟩
  obtain ⟨l0, p0, hb0⟩ := pd_box hW0
  have hu0 := hu.below hb0 (Nat.le_refl _)
  have hv0 := hv.below hb0 (Nat.le_refl _)
  have hw0 := hW.below hb0 (Nat.le_refl _)
  obtain ⟨B, c', rfl⟩ := hv.form
  have HW := Lib.hid hW0
  have HE := Lib.hid (Pr.of_eq rs f ps)
  obtain ⟨res, hres⟩ : ∃ res, res = Pr.of rs (.mk f ps) := ⟨_, rfl⟩
  rw [← hres] at HE ⊢
  by_cases h1 : f.k = 1
  · have e1 : (f.k == 1) = true := by simpa using h1
    have cr := lright_any f.u
    obtain ⟨r, hr⟩ : ∃ r, r = (f.u == 0 || f.u == 1 || f.u == 2) := ⟨_, rfl⟩
    have hm := Lib.hid (show res = (if r then f.u else 1) by
      rw [HE.out, Pr.made_1 h1]
      cases r
      · exact Lo.andI_none hr.symm
      · exact Lo.andI_sure hr.symm)
    rw [← hr] at cr
    obtain ⟨x0, x1, x2, x3, x4, x5, x6, x7, x8, x9, x10, x11, x12, x13⟩ := p0
    clear hu hu0 hv hv0 hW hw0 ih l0 hW0 hr h1 hres
    go_enter Tryd.func17, Tryd.ntmps17
    go_upto_region 1 with (fail)
    rw [← HW.out]
    cases r
    · go_wp2_with (first | (with_reducible refine (cr _).mono ?_; rintro e w3 ⟨rfl, rfl⟩))
      go_ret
      exact ⟨ret_int hm.out.symm, hb0⟩
    · go_wp2_with (first | (with_reducible refine (cr _).mono ?_; rintro e w3 ⟨rfl, rfl⟩))
      go_ret
      exact ⟨ret_int hm.out.symm, hb0⟩
  have e1 : (f.k == 1) = false := by simpa using h1
  by_cases h2 : f.k = 2
  · have e2 : (f.k == 2) = true := by simpa using h2
    obtain ⟨y, m, hym⟩ : ∃ y m, Te.val ⟨f.a.k, f.a.t, f.a.c, f.a.z, f.a.n⟩ rs = (y, m) := ⟨_, _, rfl⟩
    obtain ⟨y2, m2, hym2⟩ : ∃ y m, Te.val ⟨f.b.k, f.b.t, f.b.c, f.b.z, f.b.n⟩ rs = (y, m) := ⟨_, _, rfl⟩
    have hm := Lib.hid (show res = Va.comp f.o y m y2 m2 by rw [HE.out, Pr.made_2 h2, show Te.val f.a rs = (y, m) from hym, show Te.val f.b rs = (y2, m2) from hym2])
    have c1 := in_class (W0 := W0) fun W h => tof_any f.a.k f.a.t f.a.c f.a.z f.a.n _ rs W (hv0.below h (Nat.le_refl _))
    have c2 := in_class (W0 := W0) fun W h => tof_any f.b.k f.b.t f.b.c f.b.z f.b.n _ rs W (hv0.below h (Nat.le_refl _))
    have c3 := in_class (W0 := W0) fun W h => compare_any f.o y y2 m m2 W (hw0.below h (Nat.le_refl _))
    rw [hym] at c1
    rw [hym2] at c2
    dsimp only at c1 c2
    have k0 := p0.c0
    have HP := Lib.hid p0
    clear hu hu0 hv hv0 hW hw0 ih l0 hW0 h1 h2 hres hym hym2 p0
    go_enter Tryd.func17, Tryd.ntmps17
    go_upto_region 1 with (fail)
    rw [← HW.out]
    go_wp2_with fail
    have g2 := cell_regrown HP.out.c2
    have g3 := cell_regrown HP.out.c3
    have g4 := cell_regrown HP.out.c4
    have g5 := cell_regrown HP.out.c5
    have g6 := cell_regrown HP.out.c6
    have g7 := cell_regrown HP.out.c7
    have g8 := cell_regrown HP.out.c8
    have g9 := cell_regrown HP.out.c9
    have g10 := cell_regrown HP.out.c10
    have g11 := cell_regrown HP.out.c11
    have g12 := cell_regrown HP.out.c12
    clear k0
    refine wp_region_quiet_below (by kernel_rfl) (by kernel_rfl) ?_
    repeat (go_big_quiet_step (with_reducible first | exact c1 _ _ | exact c2 _ _ | exact c3 _ _))
    refine wpQuiet_nil ?_
    intro _ hw'
    obtain ⟨⟨dq, osq⟩, hw''⟩ := hw'
    subst hw''
    have hbz := below_join hb0 (below_regrown W0 dq osq)
    clear g2 g3 g4 g5 g6 g7 g8 g9 g10 g11 g12 c1 c2 c3
    generalize grow (redrawn W0 dq) osq = wz at hbz ⊢
    go_wp2_with fail
    go_ret
    exact ⟨ret_int hm.out.symm, hbz⟩
  have e2 : (f.k == 2) = false := by simpa using h2
  by_cases h3 : f.k = 3
  · have e3 : (f.k == 3) = true := by simpa using h3
    obtain ⟨y, m, hym⟩ : ∃ y m, Te.val ⟨f.a.k, f.a.t, f.a.c, f.a.z, f.a.n⟩ rs = (y, m) := ⟨_, _, rfl⟩
    have hm := Lib.hid (show res = (if y then 2 else 0) by rw [HE.out, Pr.made_3 h3, show Te.val f.a rs = (y, m) from hym])
    have c1 := tof_any f.a.k f.a.t f.a.c f.a.z f.a.n _ rs W0 hv0
    rw [hym] at c1
    dsimp only at c1
    have c2 := lof_any y
    obtain ⟨rr, hrr⟩ : ∃ rr, rr = (if y then (2 : Int) else 0) := ⟨_, rfl⟩
    have hm := Lib.hid (show res = rr by rw [hm.out, hrr])
    rw [← hrr] at c2
    have hvn := val_null y m
    obtain ⟨x0, x1, x2, x3, x4, x5, x6, x7, x8, x9, x10, x11, x12, x13⟩ := p0
    clear hu hu0 hv hv0 hW hw0 ih l0 hW0 h1 h2 h3 hres hym hrr
    go_enter Tryd.func17, Tryd.ntmps17
    go_upto_region 1 with (fail)
    rw [← HW.out]
    go_wp2_with fail
    refine c1.mono ?_
    rintro e w2 ⟨rfl, hb2⟩
    clear c1 x0 x1 x2 x3 x4 x5 x6 x7 x8 x9 x10 x11 x12 x13
    go_wp2_with fail
    refine (c2 _).mono ?_
    rintro e w3 ⟨rfl, rfl⟩
    clear c2
    go_wp2_with fail
    go_ret
    exact ⟨ret_int hm.out.symm, below_join hb0 hb2⟩
  have e3 : (f.k == 3) = false := by simpa using h3
  by_cases h4 : f.k = 4
  · have e4 : (f.k == 4) = true := by simpa using h4
    have hm := Lib.hid (HE.out.trans (Pr.made_4 h4))
    have cs := pall_of d ih _ ps _ rs W0 hu0 hsz hv0 hw0
    obtain ⟨x0, x1, x2, x3, x4, x5, x6, x7, x8, x9, x10, x11, x12, x13⟩ := p0
    clear hu hu0 hv hv0 hW hw0 ih l0 hW0 h1 h2 h3 h4 hres
    go_enter Tryd.func17, Tryd.ntmps17
    go_upto_region 1 with (fail)
    rw [← HW.out]
    go_wp2_with fail
    refine cs.mono ?_
    rintro e w2 ⟨rfl, hb2⟩
    clear cs x0 x1 x2 x3 x4 x5 x6 x7 x8 x9 x10 x11 x12 x13
    go_wp2_with fail
    go_ret
    exact ⟨ret_int hm.out.symm, below_join hb0 hb2⟩
  have e4 : (f.k == 4) = false := by simpa using h4
  by_cases h5 : f.k = 5
  · have e5 : (f.k == 5) = true := by simpa using h5
    have hm := Lib.hid (HE.out.trans (Pr.made_5 h5))
    have cs := ptruths_of d ih _ ps _ rs W0 hu0 hsz hv0 hw0
    have HN := Lib.hid (show (ps.map (Pr.of rs)).length ≤ 9223372036854775807 by rw [List.length_map]; exact hl)
    obtain ⟨x0, x1, x2, x3, x4, x5, x6, x7, x8, x9, x10, x11, x12, x13⟩ := p0
    clear hu hu0 hv hv0 hW hw0 ih l0 hW0 h1 h2 h3 h4 h5 hres
    go_enter Tryd.func17, Tryd.ntmps17
    go_upto_region 1 with (fail)
    rw [← HW.out]
    go_wp2_with fail
    refine cs.mono ?_
    rintro e w2 ⟨r, rfl, hsl, hb2⟩
    have ca := lor_any r (ps.map (Pr.of rs)) w2 hsl HN.out
    clear cs x0 x1 x2 x3 x4 x5 x6 x7 x8 x9 x10 x11 x12 x13 hsl
    go_wp2_with fail
    refine ca.mono ?_
    rintro e w3 ⟨rfl, hb3⟩
    clear ca
    go_wp2_with fail
    go_ret
    exact ⟨ret_int hm.out.symm, below_join hb0 (below_join hb2 hb3)⟩
  have e5 : (f.k == 5) = false := by simpa using h5
  by_cases h6 : f.k = 6
  · have e6 : (f.k == 6) = true := by simpa using h6
    by_cases hn0 : ps.length = 0
    · have hps : ps = [] := List.eq_nil_of_length_eq_zero hn0
      have hm := Lib.hid (show res = 1 by rw [HE.out, hps]; exact Pr.made_6n h6)
      rw [hn0] at HW p0 ⊢
      obtain ⟨x0, x1, x2, x3, x4, x5, x6, x7, x8, x9, x10, x11, x12, x13⟩ := p0
      clear hu hu0 hv hv0 hW hw0 ih l0 hW0 h1 h2 h3 h4 h5 h6 hres hps
      go_enter Tryd.func17, Tryd.ntmps17
      go_upto_region 1 with (fail)
      rw [← HW.out]
      go_wp2_with fail
      go_ret
      exact ⟨ret_int hm.out.symm, hb0⟩
    · obtain ⟨p, ps', hps⟩ : ∃ p ps', ps = p :: ps' := by
        cases h : ps with
        | nil => rw [h] at hn0; exact absurd rfl hn0
        | cons p r => exact ⟨p, r, rfl⟩
      obtain ⟨x, hx1⟩ : ∃ x, x = Pr.of rs p := ⟨_, rfl⟩
      have hm := Lib.hid (show res = Lo.notI x by rw [HE.out, hps, hx1]; exact Pr.made_6c h6)
      have gp : ps[0]? = some p := by rw [hps]; rfl
      obtain ⟨e, b, o, s, v', he, rfl, _, hx⟩ := hu0.at_ gp
      obtain ⟨hcell, hpp⟩ := hx W0 (Below.refl _ _)
      have cs := ih e he p.f v' p.ps _ rs W0 hpp (by have := Pr.sizes_down gp; omega) hv0 hw0
      rw [Pr.of_mk, ← hx1] at cs
      have cn := lnot_any x
      obtain ⟨n, hn⟩ : ∃ n, n = ps.length := ⟨_, rfl⟩
      have hn1 : 0 < n := by omega
      have x0 := p0.c0
      have x13 := p0.c13
      rw [← hn] at hl HW x13 ⊢
      have hcell : PdCell W0 ⟨b, o, s⟩ p.f v' := hcell
      obtain ⟨y0, y1, y2, y3, y4, y5, y6, y7, y8, y9, y10, y11, y12, y13⟩ := hcell
      clear hu hu0 hv hv0 hW hw0 ih l0 hW0 h1 h2 h3 h4 h5 h6 hres hx hpp gp hps hn p0 hx1 hn0
      go_enter Tryd.func17, Tryd.ntmps17
      go_upto_region 1 with (fail)
      rw [← HW.out]
      go_wp2_with fail
      refine cs.mono ?_
      rintro e w2 ⟨rfl, hb2⟩
      clear cs x0 x13 y0 y1 y2 y3 y4 y5 y6 y7 y8 y9 y10 y11 y12 y13
      go_wp2_with fail
      refine (cn _).mono ?_
      rintro e w3 ⟨rfl, rfl⟩
      clear cn
      go_wp2_with fail
      go_ret
      exact ⟨ret_int hm.out.symm, below_join hb0 hb2⟩
  have e6 : (f.k == 6) = false := by simpa using h6
  have hm := Lib.hid (show res = 1 by rw [HE.out]; exact Pr.made_no h1 h2 h3 h4 h5 h6)
  obtain ⟨x0, x1, x2, x3, x4, x5, x6, x7, x8, x9, x10, x11, x12, x13⟩ := p0
  clear hu hu0 hv hv0 hW hw0 ih l0 hW0 h1 h2 h3 h4 h5 h6 hres
  go_enter Tryd.func17, Tryd.ntmps17
  go_upto_region 1 with (fail)
  rw [← HW.out]
  go_wp2_with fail
  go_ret
  exact ⟨ret_int hm.out.symm, hb0⟩
theorem pof_any (d : Nat) (f : Pf) (u : Value) (ps : List Pd) (v : Value) (rs : List (List Vl)) (w : World) (hu : PsAt d w u ps) (hsz : Pr.sizes ps ≤ 1000) (hv : Rws w v rs) (hW : Want w) :
    Calls Tryd.prog 17 #[.agg #[.int .i64 f.k, .int .i64 f.u, .int .i64 f.o, .int .i64 f.a.k, .int .i64 f.a.t, .int .i64 f.a.c, .bool f.a.z, .int .i64 f.a.n, .int .i64 f.b.k, .int .i64 f.b.t, .int .i64 f.b.c, .bool f.b.z, .int .i64 f.b.n, u], v] w fun e w' => e = .returned (.int .i64 (Pr.of rs (.mk f ps))) ∧ Below w.heap.size w w' := pof_at d f u ps v rs w hu hsz hv hW
theorem pall_any (d : Nat) (u : Value) (ps : List Pd) (v : Value) (rs : List (List Vl)) (w : World) (hu : PsAt d w u ps) (hsz : Pr.sizes ps ≤ 1000) (hv : Rws w v rs) (hW : Want w) :
    Calls Tryd.prog 19 #[u, v] w fun e w' => e = .returned (.int .i64 (Lo.andI (ps.map (Pr.of rs)))) ∧ Below w.heap.size w w' :=
  pall_of d (fun e _ => pof_at e) u ps v rs w hu hsz hv hW
end Go.Proofs.YthfoagglncimnaaDoor
