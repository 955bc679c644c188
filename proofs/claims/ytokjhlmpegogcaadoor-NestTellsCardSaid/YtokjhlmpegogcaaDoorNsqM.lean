/-
  PACKAGE nest: tuples copied (Clone, alone, copies); Each.
-/
import Derived.Test.YtokjhlmpegogcaaDoorNspM
import Derived.Test.YtokjhlmpegogcaaDoorNsiM
namespace Go.Proofs.YtokjhlmpegogcaaDoor
open Go.RowKit Go.Sort
set_option maxHeartbeats 3200000

set_option maxRecDepth 100000 in
theorem tuclone_nil (c : Nat) (w : World) : Calls Tryd.prog 25 #[.slice none 0 c] w fun e w' => e = .returned (.slice none 0 0) ∧ w = w' := by
  have hnil := fun (W : World) => Lib.run_eql_slice_nil_nil (P := Tryd.prog) W 0 c Tryd.underlying23
  go_enter Tryd.func25, Tryd.ntmps25
  go_wp2_with (fail)
  go_ret
  exact ⟨rfl, rfl⟩
/-- a row in memory that is new, cell by cell the one that came -/
theorem tuclone_some (b : Addr) (n c : Nat) (xs : List Value) (w : World) (hl : xs.length = n * 1) (hx : ∀ k u, xs[k]? = some u → w.cell? (b.add k) = some u) (h1 : ∀ u ∈ xs, u.oneCell' = true) (hn : n ≤ 1000000) :
    Calls Tryd.prog 25 #[.slice (some b) n c] w fun e w' => ∃ A c', e = .returned (.slice A n c') ∧ n ≤ c' ∧ Below w.heap.size w w' ∧ (n = 0 ∨ ∃ g, A = some ⟨g, 0, none⟩ ∧ w.heap.size ≤ g ∧ RowLies w' g 32 xs) := by
  obtain ⟨i0, hi, hz0, hz1, hz2⟩ := info_parts Tryd.infoTup13
  have hsome := fun (W : World) => Lib.run_eql_slice_some_nil (P := Tryd.prog) W b n c Tryd.underlying23
  obtain ⟨W0, hW0⟩ : ∃ W0, W0 = w.alloc (Obj.cells #[] 32) := ⟨_, rfl⟩
  have hb0 : Below w.heap.size w W0 := by rw [hW0]; exact below_new _ _
  have hcell := Lib.hid (show ∀ k u, xs[k]? = some u → W0.cell? (b.add k) = some u from fun k u hk => (World.cell?_of_block (hb0.block _ (block_lt_of_cell (hx k u hk)))).trans (hx k u hk))
  have hown : Hid (W0.ownsRow w.heap.size 32 1 (.slice (some ⟨w.heap.size, 0, none⟩) 0 0) 0 []) := Lib.hid (by rw [hW0]; exact World.ownsRow_made w #[] 0 (Nat.le_refl _) (by decide) rfl)
  have HW := Lib.hid hW0
  have HL := Lib.hid hl
  have H1 := Lib.hid h1
  clear hW0 hx hl h1
  go_enter Tryd.func25, Tryd.ntmps25
  go_wp2_with (first
    | (at_builtin; rw [← HW.out]; refine wpList_append_own _ rfl _ _ 23 rfl w.heap.size 32 i0 (.slice none 0 0) 1 24 Tryd.underlying23 hi hz0 hz1 hz2 rfl (by decide) _ 0 [] rfl hown.out b n c xs rfl HL.out hcell.out H1.out (by unfold maxLen; omega) (by omega) hb0.size ?_))
  intro v' w' hown' hgrow _
  have hb2 : Below w.heap.size w w' := hb0.grown hgrow hb0.size (fun q hq => (hown.out.lt q hq).1)
  have hown2 : w'.ownsRow w.heap.size 32 1 v' n xs := by simpa using hown'
  have hres : ∃ A c', v' = .slice A n c' ∧ n ≤ c' ∧ (n = 0 ∨ ∃ g, A = some ⟨g, 0, none⟩ ∧ w.heap.size ≤ g ∧ RowLies w' g 32 xs) := by
    rcases id hown2.2 with ⟨hv, hn0⟩ | ⟨g, cap, cur, rfl, hbg, hg, hnc, _⟩
    · exact ⟨none, 0, by rw [hn0]; exact hv, by omega, .inl hn0⟩
    · obtain ⟨r1, r2, r3⟩ := RowLies.own hown2 HL.out
      exact ⟨_, cap, rfl, r3, .inr ⟨g, rfl, r2, r1⟩⟩
  obtain ⟨A, c', rfl, hnc, hor⟩ := hres
  have HR := Lib.hid hor
  have HB := Lib.hid hb2
  clear hown' hgrow hown hcell hown2 hor hb2
  go_wp2_with (fail)
  go_ret
  exact ⟨A, c', rfl, hnc, HB.out, HR.out⟩
theorem nalone_any (av : Value) (a : List (List Vl)) (w : World) (ha : RwsOn Al w av a) (hla : a.length ≤ 1000) (ha2 : ∀ x ∈ a, x.length ≤ 1000000) :
    Calls Tryd.prog 19 #[av] w (MergedN w a) := by
  have cm := merge_any Al av (.slice none 0 0) a [] w ha (RwsOn.nil _ _) hla (by simp) ha2 (by simp)
  rw [Mt.merge_nil] at cm
  obtain ⟨A1, c1, rfl, _⟩ := ha.form
  clear ha ha2
  obtain ⟨n, hn⟩ : ∃ n, n = a.length := ⟨_, rfl⟩
  rw [← hn] at cm ⊢
  have HN := Lib.hid hn
  clear hn
  go_enter Tryd.func19, Tryd.ntmps19
  go_wp2_with fail
  refine cm.mono ?_
  rintro E w2 ⟨B, d, rfl, hr, hb⟩
  have hres := Lib.hid (show MergedN w a (.returned (.slice B a.length d)) w2 from ⟨B, d, rfl, hr, hb⟩)
  rw [← HN.out] at hres ⊢
  clear cm hr hb
  go_wp2_with fail
  go_ret
  exact hres.out
/-- a list of tuples in memory of its own -/
def NewTus (w : World) (ts : List (List (List Vl))) (e : Ending) (w' : World) : Prop := ∃ A c, e = .returned (.slice A ts.length c) ∧ TusOn (fun k => w.heap.size ≤ k) w' (.slice A ts.length c) ts ∧ Below w.heap.size w w'
set_option maxRecDepth 100000 in
theorem tucopies_any (v : Value) (ts : List (List (List Vl))) (w : World) (hv : TusOn Al w v ts) (hf : Ns.Few 1000 1000 ts) :
    Calls Tryd.prog 18 #[v, .func (.func 19) #[] #[]] w (NewTus w ts) := by
  obtain ⟨A, c, rfl, hl⟩ := hv.form
  by_cases hn0 : ts = []
  · subst hn0
    have cg : Calls Tryd.prog 25 #[.slice A 0 c] w fun e w' => ∃ A' c', e = .returned (.slice A' 0 c') ∧ Below w.heap.size w w' := by
      cases A with
      | none => exact (tuclone_nil c w).mono fun e w' ⟨h1, h2⟩ => ⟨none, 0, h1, h2 ▸ Below.refl _ _⟩
      | some b => exact (tuclone_some b 0 c [] w rfl (fun k u h => by simp at h) (fun u h => by simp at h) (by omega)).mono fun e w' ⟨A', c', h1, _, h2, _⟩ => ⟨A', c', h1, h2⟩
    clear hv hf
    go_enter Tryd.func18, Tryd.ntmps18
    go_wp2_with fail
    refine cg.mono ?_
    rintro e w1 ⟨A', c', rfl, hb1⟩
    clear cg
    go_wp2_with fail
    go_loopw [11] (fun i wr => i = .int .i64 0 ∧ w1 = wr) (fun i _ => 0)
    case atStart => exact ⟨rfl, rfl⟩
    case round =>
      obtain ⟨rfl, rfl⟩ := hrel
      go_wp2_with fail
      go_ret
      exact ⟨A', c', rfl, ⟨[], ⟨A', c', rfl, Nat.zero_le _, fun j u h => by simp at h⟩, rfl, fun i t h => by simp at h⟩, hb1⟩
  obtain ⟨us, hv⟩ := hv
  have hul := hv.len
  have hlp : 0 < ts.length := by
    cases ts with
    | nil => exact absurd rfl hn0
    | cons a r => simp
  obtain ⟨b, rfl, hsrc⟩ := hv.sl.src (by omega)
  have cg := tuclone_some b ts.length c us w (by omega) hsrc (tus_ones hv) (Nat.le_trans hf.len (by decide))
  have hln : ts.length ≤ 1000 := hf.len
  have CA := Lib.hid (show ∀ (u : Value) (t : List (List Vl)) (W : World), RwsOn Al W u t → t ∈ ts → _ from fun u t W h hm => nalone_any u t W h (hf.tup t hm).1 (fun x hx => Nat.le_trans ((hf.tup t hm).2 x hx) (by decide)))
  have HT := Lib.hid (show ∀ W, Below w.heap.size w W → ∀ (i : Nat) (t : List (List Vl)), ts[i]? = some t → ∃ u, us[i]? = some u ∧ RwsOn Al W u t from fun W hb i t hi => by
    obtain ⟨u, h1, h2⟩ := hv.tup i t hi
    exact ⟨u, h1, h2.below hb (Nat.le_refl _)⟩)
  obtain ⟨n, hn⟩ : ∃ n, n = ts.length := ⟨_, rfl⟩
  rw [← hn] at cg hl hul hlp hln ⊢
  have HN := Lib.hid (And.intro hn hul)
  clear hv hf hn hn0 hsrc hul
  go_enter Tryd.func18, Tryd.ntmps18
  go_wp2_with fail
  refine cg.mono ?_
  rintro e w1 ⟨A', c', rfl, hnc, hb1, hor⟩
  obtain ⟨g, rfl, hg, hrow1⟩ := hor.resolve_left (by omega)
  have HNC := Lib.hid hnc
  have HG := Lib.hid hg
  have hgl := Lib.hid hrow1.lt
  have HR := Lib.hid hrow1
  clear cg hor hrow1 hnc hg
  go_wp2_with fail
  go_loopw [11] (fun i wr => ∃ (q : Nat) (vs : List Value), q ≤ n ∧ i = .int .i64 q ∧ Hid (vs.length = n ∧ ∀ (j : Nat), (q ≤ j → vs[j]? = us[j]?) ∧ (j < q → ∀ t, ts[j]? = some t → ∃ u, vs[j]? = some u ∧ RwsOn (fun k => w1.heap.size ≤ k) wr u t)) ∧ Hid (RowLies wr g 32 vs) ∧ Below w.heap.size w wr ∧ Hid (w1.heap.size ≤ wr.heap.size)) (fun i _ => n - (intOf i).toNat)
  case atStart => exact ⟨0, us, Nat.zero_le _, rfl, Lib.hid ⟨HN.out.2, fun j => ⟨fun _ => rfl, fun hj => by omega⟩⟩, HR, hb1, Lib.hid (Nat.le_refl _)⟩
  case round =>
    obtain ⟨q, vs, hq, rfl, hM, hrow, hb, hsz1⟩ := hrel
    by_cases hlt : q < n
    · obtain ⟨t, gt⟩ : ∃ t, ts[q]? = some t := ⟨ts[q]'(by have := HN.out.1; omega), List.getElem?_eq_getElem _⟩
      obtain ⟨u, hu, hut⟩ := HT.out wr hb q t gt
      have hvq : vs[q]? = some u := ((hM.out.2 q).1 (Nat.le_refl _)).trans hu
      have hcell := hrow.out.cell hvq
      obtain ⟨B, d, rfl, _⟩ := hut.form
      have cs := CA.out _ t wr hut (List.mem_of_getElem? gt)
      have i1 : (0 : Int) ≤ (q : Int) := by omega
      have i2 : (q : Int) < (n : Int) := by omega
      have GT := Lib.hid gt
      obtain ⟨tl, htl⟩ : ∃ m, m = t.length := ⟨_, rfl⟩
      rw [← htl] at cs hcell
      have HTL := Lib.hid htl
      clear hu hut hvq gt htl hlt
      go_wp2_with fail
      refine cs.mono ?_
      rintro e2 w2 ⟨B2, d2, rfl, hnu, hb2⟩
      have hrow2 := hrow.out.block (w' := w2) (hb2.block _ hrow.out.lt)
      have hb3 := below_join hb hb2
      have f0 := hrow2.free q
      have hql : q < vs.length := by have := hM.out.1; have := i2; omega
      obtain ⟨old, hold⟩ : ∃ old, vs[q]? = some old := ⟨_, List.getElem?_eq_getElem hql⟩
      have hcell2 : w2.cell? ⟨g, q, none⟩ = some old := hrow2.cell hold
      have hrow4 := Lib.hid (RowLies.sets (ys := [.slice B2 t.length d2]) (zs := vs.set q (.slice B2 t.length d2)) (o := q) hrow2 (by simp) (by simp; omega) (fun k hk => by rw [List.getElem?_set_ne (by simp at hk; omega)]) (fun i hi => by
        obtain rfl : i = 0 := by simpa using hi
        rw [Nat.add_zero, List.getElem?_set_self hql]; rfl))
      have hb4 := Lib.hid (show Below w.heap.size w (w2.setCell ⟨g, q, none⟩ (.slice B2 t.length d2)) from hb3.setCell HG.out _)
      have hM4 : Hid ((vs.set q (.slice B2 t.length d2)).length = n ∧ ∀ (j : Nat), (q + 1 ≤ j → (vs.set q (.slice B2 t.length d2))[j]? = us[j]?) ∧ (j < q + 1 → ∀ t', ts[j]? = some t' → ∃ u, (vs.set q (.slice B2 t.length d2))[j]? = some u ∧ RwsOn (fun k => w1.heap.size ≤ k) (w2.setCell ⟨g, q, none⟩ (.slice B2 t.length d2)) u t')) := Lib.hid (by
        have hkp : Keeps (fun k => w1.heap.size ≤ k) w2 (w2.setCell ⟨g, q, none⟩ (.slice B2 t.length d2)) := ⟨rfl, rfl, rfl, by simp, fun k _ hk => Below.heap_setCell _ _ _ _ (by have := hgl.out; show k ≠ g; omega)⟩
        refine ⟨by rw [List.length_set]; exact hM.out.1, fun j => ⟨fun hj => by rw [List.getElem?_set_ne (by omega)]; exact (hM.out.2 j).1 (by omega), fun hj t' ht' => ?_⟩⟩
        by_cases e : j = q
        · subst e
          rw [GT.out] at ht'
          cases ht'
          exact ⟨_, List.getElem?_set_self hql, (hnu.mono fun k _ hk => Nat.le_trans hsz1.out hk).keep hkp fun _ _ h => h⟩
        · obtain ⟨u, h1, h2⟩ := (hM.out.2 j).2 (by omega) t' ht'
          exact ⟨u, by rw [List.getElem?_set_ne (by omega)]; exact h1, (h2.below hb2 (Nat.le_refl _)).keep hkp fun _ _ h => h⟩)
      have hsz5 := Lib.hid (show w1.heap.size ≤ (w2.setCell ⟨g, q, none⟩ (.slice B2 t.length d2)).heap.size by have := hsz1.out; have := hb2.size; simp; omega)
      rw [← HTL.out] at hrow4 hb4 hM4 hsz5 ⊢
      clear hrow hrow2 hM hb hb2 hb3 hnu cs hcell hold
      go_wp2_with fail
      go_roundw
      case rel => exact ⟨q + 1, _, by omega, by go_num, hM4, hrow4, hb4.out, hsz5⟩
      case measure => simp [intOf]; omega
    · obtain rfl : q = n := by omega
      have hres := Lib.hid (show NewTus w ts (.returned (.slice (some ⟨g, 0, none⟩) q c')) wr from by
        refine ⟨some ⟨g, 0, none⟩, c', by rw [HN.out.1], ⟨vs, ⟨_, c', by rw [hM.out.1, HN.out.1], by rw [hM.out.1]; exact HNC.out, fun j u hj => ⟨g, 0, none, rfl, HG.out, hrow.out.lt, by rw [add_here]; exact hrow.out.cell hj⟩⟩, by rw [hM.out.1, HN.out.1], fun i t hi => ?_⟩, hb⟩
        obtain ⟨u, h1, h2⟩ := (hM.out.2 i).2 (by have := (List.getElem?_eq_some_iff.1 hi).1; have := HN.out.1; omega) t hi
        exact ⟨u, h1, h2.mono fun k _ hk => by have := hb1.size; omega⟩)
      clear hM hrow hb hlt
      go_wp2_with fail
      go_ret
      exact hres.out
/-- what Each hands back: a tour over copies -/
def NewTour (k : Int) (d : Nat) (ps : List Pd) (L R : List (List (List Vl))) (w : World) (e : Ending) (w' : World) : Prop :=
  ∃ s cv lv rv, e = .returned (.func (.func 22) #[] #[.pointer (some ⟨s + 1 + 1, 0, none⟩), .pointer (some ⟨s, 0, none⟩), .pointer (some ⟨s + 1, 0, none⟩), .pointer (some ⟨s + 1 + 1 + 1, 0, none⟩)]) ∧ NsCells w' s (s + 1) (s + 1 + 1) (s + 1 + 1 + 1) k cv lv rv ∧ w.heap.size ≤ s ∧ w'.heap.size = s + 4 ∧
    PsOn (fun j => w.heap.size ≤ j) d w' cv ps ∧ TusOn (fun j => w.heap.size ≤ j) w' lv L ∧ TusOn (fun j => w.heap.size ≤ j) w' rv R ∧ Below w.heap.size w w'
set_option maxRecDepth 100000 in
theorem nEach_any (k : Int) (d : Nat) (cv lv rv : Value) (ps : List Pd) (L R : List (List (List Vl))) (w : World) (hp : PsAt d w cv ps) (hsz : Pr.sizes ps ≤ 1000) (hl : TusOn Al w lv L) (hr : TusOn Al w rv R) (hfl : Ns.Few 100 100 L) (hfr : Ns.Few 100 100 R) :
    Calls Tryd.prog 10 #[.int .i64 k, cv, lv, rv] w (NewTour k d ps L R w) := by
  obtain ⟨P0, p0, rfl, _⟩ := hp.form
  obtain ⟨L0, c0, rfl, _⟩ := hl.form
  obtain ⟨R0, c1, rfl, _⟩ := hr.form
  have cp := pcopies_any d _ ps w hp hsz
  have cl := fun W (hb : Below w.heap.size w W) => tucopies_any _ L W (hl.below hb (Nat.le_refl _)) (hfl.more (by decide) (by decide))
  have cr := fun W (hb : Below w.heap.size w W) => tucopies_any _ R W (hr.below hb (Nat.le_refl _)) (hfr.more (by decide) (by decide))
  have CL := Lib.hid cl
  have CR := Lib.hid cr
  obtain ⟨n, hn⟩ : ∃ n, n = L.length := ⟨_, rfl⟩
  obtain ⟨rl, hrl⟩ : ∃ n, n = R.length := ⟨_, rfl⟩
  obtain ⟨pl, hpl⟩ : ∃ n, n = ps.length := ⟨_, rfl⟩
  rw [← hn] at CL ⊢
  rw [← hrl] at CR ⊢
  rw [← hpl] at cp ⊢
  have HN := Lib.hid (And.intro hn (And.intro hrl hpl))
  clear hn hrl hpl cl cr hp hl hr hsz hfl hfr
  go_enter Tryd.func10, Tryd.ntmps10
  go_wp2_with fail
  refine cp.mono ?_
  rintro e w1 ⟨u1, rfl, hp1, hb1⟩
  obtain ⟨P1, q1, hu1, _⟩ := hp1.at_.form
  subst hu1
  have HP1 := Lib.hid hp1
  have HB1 := Lib.hid hb1
  rw [← HN.out.2.2] at HP1 ⊢
  have c2 := CL.out w1 hb1
  clear cp hp1 hb1
  go_wp2_with fail
  refine c2.mono ?_
  rintro e w2 ⟨L1, d1, rfl, hl2, hb2⟩
  have HL2 := Lib.hid hl2
  have HB2 := Lib.hid hb2
  rw [← HN.out.1] at HL2 ⊢
  have c3 := CR.out w2 (below_join HB1.out hb2)
  clear c2 hl2 hb2
  go_wp2_with fail
  refine c3.mono ?_
  rintro e w3 ⟨R1, d2, rfl, hr3, hb3⟩
  have HR3 := Lib.hid hr3
  have HB3 := Lib.hid hb3
  rw [← HN.out.2.1] at HR3 ⊢
  have c4 := neach_any k (.slice P1 pl q1) (.slice L1 n d1) (.slice R1 rl d2) w3 ⟨_, _, _, rfl⟩ ⟨_, _, _, rfl⟩ ⟨_, _, _, rfl⟩
  clear c3 hr3 hb3
  go_wp2_with fail
  refine c4.mono ?_
  rintro e w4 ⟨rfl, hw4⟩
  have hres := Lib.hid (show NewTour k d ps L R w (.returned (.func (.func 22) #[] #[.pointer (some ⟨w3.heap.size + 1 + 1, 0, none⟩), .pointer (some ⟨w3.heap.size, 0, none⟩), .pointer (some ⟨w3.heap.size + 1, 0, none⟩), .pointer (some ⟨w3.heap.size + 1 + 1 + 1, 0, none⟩)])) w4 from by
    have hb13 := below_join HB2.out HB3.out
    have hb34 : Below w3.heap.size w3 w4 := by rw [hw4]; exact ((((Below.refl _ w3).alloc (Nat.le_refl _) _).alloc (by simp) _).alloc (by simp; omega) _).alloc (by simp; omega) _
    have hb14 := below_join hb13 hb34
    have hb24 := below_join HB3.out hb34
    have s1 := HB1.out.size
    have s2 := HB2.out.size
    have s3 := HB3.out.size
    refine ⟨w3.heap.size, _, _, _, rfl, by rw [hw4]; exact ns_cells w3 k _ _ _, by omega, by rw [hw4]; simp, HP1.out.on.keep hb14.size fun j hj hlt => ⟨hb14.block j hlt, hj⟩, (HL2.out.below hb24 (Nat.le_refl _)).mono fun j _ hj => by omega, (HR3.out.below hb34 (Nat.le_refl _)).mono fun j _ hj => by omega, below_join HB1.out hb14⟩)
  clear c4 hw4
  go_wp2_with fail
  go_ret
  exact hres.out
end Go.Proofs.YtokjhlmpegogcaaDoor
