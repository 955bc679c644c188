/-
  PACKAGE nest: predicates copied (copies, apart).
-/
import Derived.Test.YtokjhlmpegogcaaDoorPsnM
namespace Go.Proofs.YtokjhlmpegogcaaDoor
open Go.RowKit Go.Sort
set_option maxHeartbeats 3200000

theorem PsOn.into {lo d : Nat} : ∀ {w : World} {v : Value} {l : List Pd}, PsOn (fun k => lo ≤ k) d w v l → PsIn lo d w v l := by
  induction d with
  | zero => intro w v l h; exact h
  | succ d ih =>
    intro w v l h
    obtain ⟨A, c, hv, hc, hx⟩ := h
    refine ⟨A, c, hv, hc, fun j p hj => ?_⟩
    obtain ⟨b, o, s, u, hA, hlo, hlt, hcell, hp⟩ := hx j p hj
    exact ⟨b, o, s, u, hA, hlo, hlt, hcell, ih hp⟩
set_option maxRecDepth 100000 in
theorem pcopies_of (d : Nat) (ih : ∀ e, e < d → ∀ (f : Pf) (u : Value) (ps : List Pd) (w : World), PsAt e w u ps → Pr.sizes ps ≤ 1000 → Calls Tryd.prog 17 #[.agg #[.int .i64 f.k, .int .i64 f.u, .int .i64 f.o, .int .i64 f.a.k, .int .i64 f.a.t, .int .i64 f.a.c, .bool f.a.z, .int .i64 f.a.n, .int .i64 f.b.k, .int .i64 f.b.t, .int .i64 f.b.c, .bool f.b.z, .int .i64 f.b.n, u]] w (NewPred e w f ps)) (u : Value) (l : List Pd) (w : World) (hu : PsAt d w u l) (hsz : Pr.sizes l ≤ 1000) :
    Calls Tryd.prog 16 #[u, .func (.func 17) #[] #[]] w fun e w' => ∃ r, e = .returned r ∧ PsIn w.heap.size d w' r l ∧ Below w.heap.size w w' := by
  obtain ⟨A, c, rfl, hl⟩ := hu.form
  by_cases hn0 : l = []
  · subst hn0
    have hz : ∀ (W : World) A c, PsIn w.heap.size d W (.slice A 0 c) [] := fun W A c => PsIn.mono (d := 0) ⟨rfl, A, c, rfl⟩ (Nat.zero_le _)
    have cg : Calls Tryd.prog 24 #[.slice A 0 c] w fun e w' => ∃ A' c', e = .returned (.slice A' 0 c') ∧ Below w.heap.size w w' := by
      cases A with
      | none => exact (pclone_nil c w).mono fun e w' ⟨h1, h2⟩ => ⟨none, 0, h1, h2 ▸ Below.refl _ _⟩
      | some b => exact (pclone_some b 0 c [] w rfl (fun k u h => by simp at h) (fun u h => by simp at h) (by omega)).mono fun e w' ⟨A', c', h1, _, h2, _⟩ => ⟨A', c', h1, h2⟩
    have HZ := Lib.hid hz
    clear hu hsz hz ih
    go_enter Tryd.func16, Tryd.ntmps16
    go_wp2_with fail
    refine cg.mono ?_
    rintro e w1 ⟨A', c', rfl, hb1⟩
    clear cg
    go_wp2_with fail
    go_loopw [11] (fun i wr => i = .int .i64 0 ∧ w1 = wr) (fun i _ => 0)
    case atStart => exact ⟨rfl, rfl⟩
    case round =>
      obtain ⟨rfl, rfl⟩ := hrel
      go_wp2_with fail
      go_ret
      exact ⟨_, rfl, HZ.out _ _ _, hb1⟩
  obtain ⟨d, rfl⟩ : ∃ e, d = e + 1 := by
    cases d with
    | zero => exact absurd hu.1 hn0
    | succ d => exact ⟨d, rfl⟩
  obtain ⟨L, hLl, hL⟩ := hu.rows
  have hlen : L.length = l.length := by rw [← hLl, List.length_map]
  have hlp : 0 < l.length := by
    cases l with
    | nil => exact absurd rfl hn0
    | cons a r => simp
  obtain ⟨b, rfl⟩ : ∃ b, A = some b := by
    obtain ⟨x, hx⟩ : ∃ x, L[0]? = some x := ⟨_, List.getElem?_eq_getElem (by omega)⟩
    obtain ⟨b, o, s, h, _⟩ := hL 0 x hx
    exact ⟨_, h⟩
  have hln : l.length ≤ 1000 := Nat.le_trans (Pr.sizes_length l) hsz
  have hrd : ∀ (j : Nat) (x : Pd × Value), L[j]? = some x → PdCell w (b.add (j * 14)) x.1.f x.2 := fun j x h => by
    obtain ⟨b', o, s, h1, _, h2, _⟩ := hL j x h
    cases h1
    exact h2
  have hone : ∀ u ∈ pdCells L, u.oneCell' = true := by
    intro u hu
    simp only [pdCells, List.mem_flatMap] at hu
    obtain ⟨x, hx, hu⟩ := hu
    obtain ⟨j, hj⟩ := List.mem_iff_getElem?.1 hx
    obtain ⟨_, _, _, _, _, _, hk⟩ := hL j x hj
    obtain ⟨A2, c2, h2, _⟩ := hk.form
    rw [h2] at hu
    exact cells_one _ _ _ _ u hu
  have cg := pclone_some b l.length c (pdCells L) w (by rw [pdCells_length, hlen]) (pdCells_here hrd) hone (by omega)
  have hHang : ∀ W, Below w.heap.size w W → ∀ (j : Nat) (x : Pd × Value), L[j]? = some x → PsAt d W x.2 x.1.ps := fun W hb j x h => by
    obtain ⟨_, _, _, _, _, _, hk⟩ := hL j x h
    exact hk.below hb (Nat.le_refl _)
  have hsize : ∀ (j : Nat) (x : Pd × Value), L[j]? = some x → Pr.sizes x.1.ps ≤ 1000 := fun j x h => by
    have h2 : l[j]? = some x.1 := by rw [← hLl, List.getElem?_map, h]; rfl
    have := Pr.sizes_down h2
    omega
  have hfst : ∀ (j : Nat) (x : Pd × Value), L[j]? = some x → l[j]? = some x.1 := fun j x h => by rw [← hLl, List.getElem?_map, h]; rfl
  have HH := Lib.hid hHang
  have HZ := Lib.hid hsize
  have HF := Lib.hid hfst
  have HLL := Lib.hid hlen
  have IH := Lib.hid ih
  
  obtain ⟨n, hn⟩ : ∃ n, n = l.length := ⟨_, rfl⟩
  rw [← hn] at cg hl hlp hln HLL ⊢
  have HN := Lib.hid hn
  clear ih hu hsz hn hn0 hL hLl hlen hrd hone hHang hsize hfst
  go_enter Tryd.func16, Tryd.ntmps16
  go_wp2_with fail
  refine cg.mono ?_
  rintro e w1 ⟨A', c', rfl, hnc, hb1, hor⟩
  obtain ⟨g, rfl, hg, hrow1⟩ := hor.resolve_left (by omega)
  have HNC := Lib.hid hnc
  have HG := Lib.hid hg
  have hgl := Lib.hid hrow1.lt
  have HR := Lib.hid hrow1
  obtain ⟨T1, hT1⟩ : ∃ T1 : Nat → Prop, T1 = fun k => w1.heap.size ≤ k := ⟨_, rfl⟩
  have HT1 := Lib.hid hT1
  clear cg hor hrow1 hnc hT1 hg
  go_wp2_with fail
  go_loopw [11] (fun i wr => ∃ (q : Nat) (M : List (Pd × Value)), q ≤ n ∧ i = .int .i64 q ∧ Hid (M.length = n ∧ ∀ (j : Nat) (x : Pd × Value), M[j]? = some x → (q ≤ j → L[j]? = some x) ∧ (j < q → l[j]? = some x.1 ∧ PsOn T1 d wr x.2 x.1.ps)) ∧ Hid (RowLies wr g 40 (pdCells M)) ∧ Below w.heap.size w wr ∧ Hid (w1.heap.size ≤ wr.heap.size)) (fun i _ => n - (intOf i).toNat)
  case atStart => exact ⟨0, L, Nat.zero_le _, rfl, Lib.hid ⟨HLL.out, fun j x h => ⟨fun _ => h, fun hj => by omega⟩⟩, HR, hb1, Lib.hid (Nat.le_refl _)⟩
  case round =>
    obtain ⟨q, M, hq, rfl, hM, hrow, hb, hsz1⟩ := hrel
    by_cases hlt : q < n
    · obtain ⟨⟨x, xu⟩, hMx⟩ : ∃ x, M[q]? = some x := ⟨M[q]'(by have := hM.out.1; omega), List.getElem?_eq_getElem _⟩
      have hLx := (hM.out.2 q _ hMx).1 (Nat.le_refl _)
      have hcell := hrow.out.pd hMx
      have hk1 := HH.out wr hb q _ hLx
      obtain ⟨A2, c2, hA2, _⟩ := hk1.form
      change xu = .slice A2 x.ps.length c2 at hA2
      subst hA2
      have hba : Below w.heap.size w (wr.alloc (Obj.cells #[.int .i64 x.f.k, .int .i64 x.f.u, .int .i64 x.f.o, .int .i64 x.f.a.k, .int .i64 x.f.a.t, .int .i64 x.f.a.c, .bool x.f.a.z, .int .i64 x.f.a.n, .int .i64 x.f.b.k, .int .i64 x.f.b.t, .int .i64 x.f.b.c, .bool x.f.b.z, .int .i64 x.f.b.n, .slice A2 x.ps.length c2] 40)) := below_join hb (below_new _ _)
      have cs := IH.out d (Nat.lt_succ_self d) x.f _ x.ps _ (HH.out _ hba q _ hLx) (HZ.out q _ hLx)
      have hfst := HF.out q _ hLx
      have hrowa := hrow.out.block (w' := wr.alloc (Obj.cells #[.int .i64 x.f.k, .int .i64 x.f.u, .int .i64 x.f.o, .int .i64 x.f.a.k, .int .i64 x.f.a.t, .int .i64 x.f.a.c, .bool x.f.a.z, .int .i64 x.f.a.n, .int .i64 x.f.b.k, .int .i64 x.f.b.t, .int .i64 x.f.b.c, .bool x.f.b.z, .int .i64 x.f.b.n, .slice A2 x.ps.length c2] 40)) (Below.heap_alloc _ _ _ hrow.out.lt)
      have HRA := Lib.hid hrowa
      have HBA := Lib.hid hba
      have HFX := Lib.hid hfst
      have HMX := Lib.hid hMx
      have hgs := hrow.out.lt
      obtain ⟨x0, x1, x2, x3, x4, x5, x6, x7, x8, x9, x10, x11, x12, x13⟩ := hcell
      dsimp only at x0 x1 x2 x3 x4 x5 x6 x7 x8 x9 x10 x11 x12 x13
      have CS := Lib.hid cs
      clear hLx hk1 hba hfst hrowa hMx cs
      go_wp2_with fail
      refine CS.out.mono ?_
      rintro e2 w2 ⟨u2, rfl, hnu, hb2⟩
      obtain ⟨B2, k2, rfl⟩ := hnu.form
      have hrow2 := HRA.out.block (w' := w2) (hb2.block _ HRA.out.lt)
      have hb3 := Lib.hid (below_join HBA.out hb2)
      have hcell2 := hrow2.pd HMX.out
      obtain ⟨z0, z1, z2, z3, z4, z5, z6, z7, z8, z9, z10, z11, z12, z13⟩ := hcell2
      dsimp only at z0 z1 z2 z3 z4 z5 z6 z7 z8 z9 z10 z11 z12 z13
      have f0 := hrow2.free (q * 14)
      have f1 := hrow2.free (q * 14 + 1)
      have f2 := hrow2.free (q * 14 + 2)
      have f3 := hrow2.free (q * 14 + 3)
      have f4 := hrow2.free (q * 14 + 4)
      have f5 := hrow2.free (q * 14 + 5)
      have f6 := hrow2.free (q * 14 + 6)
      have f7 := hrow2.free (q * 14 + 7)
      have f8 := hrow2.free (q * 14 + 8)
      have f9 := hrow2.free (q * 14 + 9)
      have f10 := hrow2.free (q * 14 + 10)
      have f11 := hrow2.free (q * 14 + 11)
      have f12 := hrow2.free (q * 14 + 12)
      have f13 := hrow2.free (q * 14 + 13)
      have hs2 := hb2.size
      rw [World.size_alloc] at hs2
      have HS2 := Lib.hid hs2
      have hlen2 : q < M.length := by have := hM.out.1; omega
      obtain ⟨u1, u2, u3⟩ := pdCells_put (y := (x, .slice B2 x.ps.length k2)) hlen2
      have hrow4 := Lib.hid (RowLies.sets (ys := [.int .i64 x.f.k, .int .i64 x.f.u, .int .i64 x.f.o, .int .i64 x.f.a.k, .int .i64 x.f.a.t, .int .i64 x.f.a.c, .bool x.f.a.z, .int .i64 x.f.a.n, .int .i64 x.f.b.k, .int .i64 x.f.b.t, .int .i64 x.f.b.c, .bool x.f.b.z, .int .i64 x.f.b.n, .slice B2 x.ps.length k2]) (o := q * 14) hrow2 u1 (by rw [pdCells_length]; show q * 14 + 14 ≤ _; omega) u2 (fun i hi => u3 i hi))
      have hb4 := Lib.hid (Below.sets (B := w.heap.size) (g := g) HG.out [.int .i64 x.f.k, .int .i64 x.f.u, .int .i64 x.f.o, .int .i64 x.f.a.k, .int .i64 x.f.a.t, .int .i64 x.f.a.c, .bool x.f.a.z, .int .i64 x.f.a.n, .int .i64 x.f.b.k, .int .i64 x.f.b.t, .int .i64 x.f.b.c, .bool x.f.b.z, .int .i64 x.f.b.n, .slice B2 x.ps.length k2] (q * 14) hb3.out)
      have hsz4 : w2.heap.size = (setCells w2 g (q * 14) [.int .i64 x.f.k, .int .i64 x.f.u, .int .i64 x.f.o, .int .i64 x.f.a.k, .int .i64 x.f.a.t, .int .i64 x.f.a.c, .bool x.f.a.z, .int .i64 x.f.a.n, .int .i64 x.f.b.k, .int .i64 x.f.b.t, .int .i64 x.f.b.c, .bool x.f.b.z, .int .i64 x.f.b.n, .slice B2 x.ps.length k2]).heap.size := (setCells_size _ _ _ _).symm
      have hM4 : Hid ((M.set q (x, .slice B2 x.ps.length k2)).length = n ∧ ∀ (j : Nat) (z : Pd × Value), (M.set q (x, .slice B2 x.ps.length k2))[j]? = some z → (q + 1 ≤ j → L[j]? = some z) ∧ (j < q + 1 → l[j]? = some z.1 ∧ PsOn T1 d (setCells w2 g (q * 14) [.int .i64 x.f.k, .int .i64 x.f.u, .int .i64 x.f.o, .int .i64 x.f.a.k, .int .i64 x.f.a.t, .int .i64 x.f.a.c, .bool x.f.a.z, .int .i64 x.f.a.n, .int .i64 x.f.b.k, .int .i64 x.f.b.t, .int .i64 x.f.b.c, .bool x.f.b.z, .int .i64 x.f.b.n, .slice B2 x.ps.length k2]) z.2 z.1.ps)) := Lib.hid (by
        have hs0 := hsz1.out
        have hgl2 := hgl.out
        have hkeep : ∀ k, T1 k → k < w2.heap.size → (setCells w2 g (q * 14) [.int .i64 x.f.k, .int .i64 x.f.u, .int .i64 x.f.o, .int .i64 x.f.a.k, .int .i64 x.f.a.t, .int .i64 x.f.a.c, .bool x.f.a.z, .int .i64 x.f.a.n, .int .i64 x.f.b.k, .int .i64 x.f.b.t, .int .i64 x.f.b.c, .bool x.f.b.z, .int .i64 x.f.b.n, .slice B2 x.ps.length k2]).heap[k]? = w2.heap[k]? ∧ T1 k := fun k hk _ => ⟨setCells_other _ _ (by rw [HT1.out] at hk; omega) _ _ _, hk⟩
        have hkeep1 : ∀ k, T1 k → k < wr.heap.size → (setCells w2 g (q * 14) [.int .i64 x.f.k, .int .i64 x.f.u, .int .i64 x.f.o, .int .i64 x.f.a.k, .int .i64 x.f.a.t, .int .i64 x.f.a.c, .bool x.f.a.z, .int .i64 x.f.a.n, .int .i64 x.f.b.k, .int .i64 x.f.b.t, .int .i64 x.f.b.c, .bool x.f.b.z, .int .i64 x.f.b.n, .slice B2 x.ps.length k2]).heap[k]? = wr.heap[k]? ∧ T1 k := fun k hk hlt => ⟨((hkeep k hk (by omega)).1.trans (hb2.block k (by rw [World.size_alloc]; omega))).trans (Below.heap_alloc _ _ _ hlt), hk⟩
        refine ⟨by rw [List.length_set]; exact hM.out.1, fun j z hz => ?_⟩
        by_cases hj : j = q
        · subst hj
          rw [List.getElem?_set_self hlen2] at hz
          cases hz
          refine ⟨fun h => by omega, fun _ => ⟨HFX.out, ?_⟩⟩
          exact hnu.on.keep (by omega) (fun k hk hlt => hkeep k (by rw [World.size_alloc] at hk; rw [HT1.out]; omega) hlt)
        · rw [List.getElem?_set_ne (fun e => hj e.symm)] at hz
          obtain ⟨h1, h2⟩ := hM.out.2 j z hz
          refine ⟨fun h => h1 (by omega), fun h => ?_⟩
          obtain ⟨h3, h4⟩ := h2 (by omega)
          exact ⟨h3, h4.keep (by omega) hkeep1⟩)
      have hsz5 := Lib.hid (show w1.heap.size ≤ (setCells w2 g (q * 14) [.int .i64 x.f.k, .int .i64 x.f.u, .int .i64 x.f.o, .int .i64 x.f.a.k, .int .i64 x.f.a.t, .int .i64 x.f.a.c, .bool x.f.a.z, .int .i64 x.f.a.n, .int .i64 x.f.b.k, .int .i64 x.f.b.t, .int .i64 x.f.b.c, .bool x.f.b.z, .int .i64 x.f.b.n, .slice B2 x.ps.length k2]).heap.size by have := hsz1.out; omega)
      clear hrow hrow2 hM hb hb2 hnu u1 u2 u3 hlen2 hsz4 hs2 hgs x0 x1 x2 x3 x4 x5 x6 x7 x8 x9 x10 x11 x12 x13 CS HRA HBA
      go_wp2_with fail
      go_roundw
      case rel => exact ⟨q + 1, _, by omega, by go_num, hM4, hrow4, hb4.out, hsz5⟩
      case measure => simp [intOf]; omega
    · obtain rfl : q = n := by omega
      have hres : PsIn w.heap.size (d + 1) wr (.slice (some ⟨g, 0, none⟩) q c') l := by
        refine ⟨_, c', by rw [HN.out], by have := HN.out; omega, fun j a ha => ?_⟩
        have hj : j < q := by rw [HN.out]; exact (List.getElem?_eq_some_iff.1 ha).1
        obtain ⟨x, hx⟩ : ∃ x, M[j]? = some x := ⟨M[j]'(by have := hM.out.1; omega), List.getElem?_eq_getElem _⟩
        obtain ⟨h1, h2⟩ := (hM.out.2 j x hx).2 hj
        rw [ha] at h1
        cases h1
        have hcell := hrow.out.pd hx
        have hlow : ∀ k, T1 k → k < wr.heap.size → wr.heap[k]? = wr.heap[k]? ∧ w.heap.size ≤ k := fun k hk _ => ⟨rfl, by rw [HT1.out] at hk; have := hb1.size; omega⟩
        exact ⟨g, 0, none, _, rfl, HG.out, hrow.out.lt, by rw [add_here]; exact hcell, (h2.keep (Nat.le_refl _) hlow).into⟩
      have HRES := Lib.hid hres
      clear hres hM hrow
      go_wp2_with fail
      go_ret
      exact ⟨_, rfl, HRES.out, hb⟩
set_option maxRecDepth 100000 in
theorem papart_at (d : Nat) : ∀ (f : Pf) (u : Value) (ps : List Pd) (w : World), PsAt d w u ps → Pr.sizes ps ≤ 1000 → Calls Tryd.prog 17 #[.agg #[.int .i64 f.k, .int .i64 f.u, .int .i64 f.o, .int .i64 f.a.k, .int .i64 f.a.t, .int .i64 f.a.c, .bool f.a.z, .int .i64 f.a.n, .int .i64 f.b.k, .int .i64 f.b.t, .int .i64 f.b.c, .bool f.b.z, .int .i64 f.b.n, u]] w (NewPred d w f ps) := by
  induction d using Nat.strongRecOn with
  | ind d ih =>
  intro f u ps w hu hsz
  obtain ⟨A, c, rfl, hl⟩ := hu.form
  obtain ⟨W0, hW0⟩ : ∃ W0, W0 = (w.alloc (Obj.cells #[.int .i64 f.k, .int .i64 f.u, .int .i64 f.o, .int .i64 f.a.k, .int .i64 f.a.t, .int .i64 f.a.c, .bool f.a.z, .int .i64 f.a.n, .int .i64 f.b.k, .int .i64 f.b.t, .int .i64 f.b.c, .bool f.b.z, .int .i64 f.b.n, .slice A ps.length c] 40)).alloc (Obj.cells #[.int .i64 0, .int .i64 0, .int .i64 0, .int .i64 0, .int .i64 0, .int .i64 0, .bool false, .int .i64 0, .int .i64 0, .int .i64 0, .int .i64 0, .bool false, .int .i64 0, .slice none 0 0] 40) := ⟨_, rfl⟩
  obtain ⟨l0, l1, hb0⟩ := box_two (cs := f.cells (.slice A ps.length c)) (ds := [.int .i64 0, .int .i64 0, .int .i64 0, .int .i64 0, .int .i64 0, .int .i64 0, .bool false, .int .i64 0, .int .i64 0, .int .i64 0, .int .i64 0, .bool false, .int .i64 0, .slice none 0 0]) hW0
  have cs := pcopies_of d ih _ ps W0 (hu.below hb0 (Nat.le_refl _)) hsz
  have HW := Lib.hid hW0
  have HP := Lib.hid l0
  have HQ := Lib.hid l1
  have hsz0 : W0.heap.size = w.heap.size + 1 + 1 := by rw [hW0, World.size_alloc, World.size_alloc]
  have x13 := l0.pd.c13
  clear hu hW0 l0 l1 ih hsz
  go_enter Tryd.func17, Tryd.ntmps17
  go_upto_region 1 with (fail)
  rw [← HW.out]
  go_wp2_with fail
  refine cs.mono ?_
  rintro e w2 ⟨r, rfl, hin, hb2⟩
  obtain ⟨B2, c2, rfl⟩ := hin.form
  clear cs x13
  have l2 := HP.out.below hb2 HP.out.lt
  have q2 := HQ.out.below hb2 HQ.out.lt
  have HIN := Lib.hid hin
  have x13 := l2.pd.c13
  have fr := l2.free 13
  have HL2 := Lib.hid l2
  have HQ2 := Lib.hid q2
  clear hin l2 q2
  go_upto_region 2 with (fail)
  obtain ⟨W3, hW3⟩ : ∃ W3, W3 = w2.setCell ⟨w.heap.size, 13, none⟩ (.slice B2 ps.length c2) := ⟨_, rfl⟩
  rw [← hW3]
  have l3 : Lies W3 w.heap.size 40 (f.cells (.slice B2 ps.length c2)) := by rw [hW3]; exact HL2.out.set 13 _
  have q3 : Lies W3 (w.heap.size + 1) 40 [.int .i64 0, .int .i64 0, .int .i64 0, .int .i64 0, .int .i64 0, .int .i64 0, .bool false, .int .i64 0, .int .i64 0, .int .i64 0, .int .i64 0, .bool false, .int .i64 0, .slice none 0 0] := by rw [hW3]; exact HQ2.out.far (by show w.heap.size + 1 ≠ w.heap.size; omega) _
  have hin3 : PsIn W0.heap.size d W3 (.slice B2 ps.length c2) ps := by rw [hW3]; exact HIN.out.setCell (by show w.heap.size < W0.heap.size; omega) _
  have hb3 : Below w.heap.size w W3 := by rw [hW3]; exact (below_join hb0 hb2).setCell (Nat.le_refl _) _
  have HIN3 := Lib.hid hin3
  have HB3 := Lib.hid hb3
  have HSZ := Lib.hid hsz0
  obtain ⟨x0, x1, x2, x3, x4, x5, x6, x7, x8, x9, x10, x11, x12, x13⟩ := l3.pd
  have z0 := q3.cell (i := 0) rfl
  have z1 := q3.cell (i := 1) rfl
  have z2 := q3.cell (i := 2) rfl
  have z3 := q3.cell (i := 3) rfl
  have z4 := q3.cell (i := 4) rfl
  have z5 := q3.cell (i := 5) rfl
  have z6 := q3.cell (i := 6) rfl
  have z7 := q3.cell (i := 7) rfl
  have z8 := q3.cell (i := 8) rfl
  have z9 := q3.cell (i := 9) rfl
  have z10 := q3.cell (i := 10) rfl
  have z11 := q3.cell (i := 11) rfl
  have z12 := q3.cell (i := 12) rfl
  have z13 := q3.cell (i := 13) rfl
  have f0 := q3.free 0
  have f1 := q3.free 1
  have f2 := q3.free 2
  have f3 := q3.free 3
  have f4 := q3.free 4
  have f5 := q3.free 5
  have f6 := q3.free 6
  have f7 := q3.free 7
  have f8 := q3.free 8
  have f9 := q3.free 9
  have f10 := q3.free 10
  have f11 := q3.free 11
  have f12 := q3.free 12
  have f13 := q3.free 13
  clear hW3 l3 hin3 hb3 fr hb0 hb2 hsz0
  have Q3 := Lib.hid q3
  clear q3
  go_wp2_with fail
  obtain ⟨W4, hW4⟩ : ∃ W4, W4 = ((((((((((((((W3).setCell ⟨w.heap.size + 1, 0, none⟩ (.int .i64 f.k)).setCell ⟨w.heap.size + 1, 1, none⟩ (.int .i64 f.u)).setCell ⟨w.heap.size + 1, 2, none⟩ (.int .i64 f.o)).setCell ⟨w.heap.size + 1, 3, none⟩ (.int .i64 f.a.k)).setCell ⟨w.heap.size + 1, 4, none⟩ (.int .i64 f.a.t)).setCell ⟨w.heap.size + 1, 5, none⟩ (.int .i64 f.a.c)).setCell ⟨w.heap.size + 1, 6, none⟩ (.bool f.a.z)).setCell ⟨w.heap.size + 1, 7, none⟩ (.int .i64 f.a.n)).setCell ⟨w.heap.size + 1, 8, none⟩ (.int .i64 f.b.k)).setCell ⟨w.heap.size + 1, 9, none⟩ (.int .i64 f.b.t)).setCell ⟨w.heap.size + 1, 10, none⟩ (.int .i64 f.b.c)).setCell ⟨w.heap.size + 1, 11, none⟩ (.bool f.b.z)).setCell ⟨w.heap.size + 1, 12, none⟩ (.int .i64 f.b.n)).setCell ⟨w.heap.size + 1, 13, none⟩ (.slice B2 ps.length c2) := ⟨_, rfl⟩
  rw [← hW4]
  have hh : w.heap.size + 1 < W0.heap.size := by have := HSZ.out; omega
  have hh2 : w.heap.size ≤ w.heap.size + 1 := by omega
  have q4 : Lies W4 (w.heap.size + 1) 40 (f.cells (.slice B2 ps.length c2)) := by rw [hW4]; exact ((((((((((((((Q3.out).set 0 _).set 1 _).set 2 _).set 3 _).set 4 _).set 5 _).set 6 _).set 7 _).set 8 _).set 9 _).set 10 _).set 11 _).set 12 _).set 13 _
  have hin4 : PsIn W0.heap.size d W4 (.slice B2 ps.length c2) ps := by rw [hW4]; exact ((((((((((((((HIN3.out).setCell hh _).setCell hh _).setCell hh _).setCell hh _).setCell hh _).setCell hh _).setCell hh _).setCell hh _).setCell hh _).setCell hh _).setCell hh _).setCell hh _).setCell hh _).setCell hh _
  have hb4 : Below w.heap.size w W4 := by rw [hW4]; exact ((((((((((((((HB3.out).setCell hh2 _).setCell hh2 _).setCell hh2 _).setCell hh2 _).setCell hh2 _).setCell hh2 _).setCell hh2 _).setCell hh2 _).setCell hh2 _).setCell hh2 _).setCell hh2 _).setCell hh2 _).setCell hh2 _).setCell hh2 _
  clear hW4 z0 z1 z2 z3 z4 z5 z6 z7 z8 z9 z10 z11 z12 z13 f0 f1 f2 f3 f4 f5 f6 f7 f8 f9 f10 f11 f12 f13 x0 x1 x2 x3 x4 x5 x6 x7 x8 x9 x10 x11 x12 x13
  obtain ⟨x0, x1, x2, x3, x4, x5, x6, x7, x8, x9, x10, x11, x12, x13⟩ := q4.pd
  simp only [Nat.zero_add] at x0 x1 x2 x3 x4 x5 x6 x7 x8 x9 x10 x11 x12 x13
  exact bodyPost_ret (v := .agg #[.int .i64 f.k, .int .i64 f.u, .int .i64 f.o, .int .i64 f.a.k, .int .i64 f.a.t, .int .i64 f.a.c, .bool f.a.z, .int .i64 f.a.n, .int .i64 f.b.k, .int .i64 f.b.t, .int .i64 f.b.c, .bool f.b.z, .int .i64 f.b.n, .slice B2 ps.length c2]) (by simp [results, Tryd.results17, go_sem, x0, x1, x2, x3, x4, x5, x6, x7, x8, x9, x10, x11, x12, x13]) rfl ⟨_, rfl, hin4.low (by omega), hb4⟩
/-- predicates of their own -/
theorem pcopies_any (d : Nat) (u : Value) (l : List Pd) (w : World) (hu : PsAt d w u l) (hsz : Pr.sizes l ≤ 1000) :
    Calls Tryd.prog 16 #[u, .func (.func 17) #[] #[]] w fun e w' => ∃ r, e = .returned r ∧ PsIn w.heap.size d w' r l ∧ Below w.heap.size w w' :=
  pcopies_of d (fun e _ f u ps w h hs => papart_at e f u ps w h hs) u l w hu hsz
end Go.Proofs.YtokjhlmpegogcaaDoor
