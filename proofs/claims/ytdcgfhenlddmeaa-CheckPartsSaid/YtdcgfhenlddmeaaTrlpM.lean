/-
  package tree: each, of predicates.
-/
import Derived.Test.YtdcgfhenlddmeaaTrlM
namespace Go.Proofs.Ytdcgfhenlddmeaa
open Go.RowKit Go.Sort
set_option maxHeartbeats 1000000

set_option maxRecDepth 100000 in
theorem peach10_of (d : Nat) (u : Value) (l : List Pd) (w : World) (hu : PsAt d w u l) (hsz : Pr.sizes l ≤ 1000) :
    Calls Try.prog 58 #[u, .func (.func 59) #[] #[]] w fun e w' => ∃ r, e = .returned r ∧ PsOn (fun k => w.heap.size ≤ k) d w' r l ∧ Below w.heap.size w w' := by
  obtain ⟨A, c, rfl, hl⟩ := hu.form
  by_cases hn0 : l = []
  · subst hn0
    have hz : ∀ (W : World) A c, PsOn (fun k => w.heap.size ≤ k) d W (.slice A 0 c) [] := fun W A c => PsOn.mono (d := 0) ⟨rfl, A, c, rfl⟩ (Nat.zero_le _)
    have cg : Calls Try.prog 70 #[.slice A 0 c] w fun e w' => ∃ A' c', e = .returned (.slice A' 0 c') ∧ Below w.heap.size w w' := by
      cases A with
      | none => exact (pclone_nil c w).mono fun e w' ⟨h1, h2⟩ => ⟨none, 0, h1, h2 ▸ Below.refl _ _⟩
      | some b => exact (pclone_some b 0 c [] w rfl (fun k u h => by simp at h) (fun u h => by simp at h) (by omega)).mono fun e w' ⟨A', c', h1, _, h2, _⟩ => ⟨A', c', h1, h2⟩
    have HZ := Lib.hid hz
    clear hu hsz hz
    go_enter Try.func58, Try.ntmps58
    go_wp2_with fail
    refine cg.mono ?_
    rintro e w1 ⟨A', c', rfl, hb1⟩
    clear cg
    go_wp2_with fail
    go_loopw [11] (fun i wr => i = .int .i64 0 ∧ w1 = wr) (fun i _ => 0)
    case atStart => exact ⟨rfl, rfl⟩
    case round =>
      obtain ⟨rfl, rfl⟩ := hrel
      go_wp2_with fail
      go_ret
      exact ⟨_, rfl, HZ.out _ _ _, hb1⟩
  obtain ⟨d, rfl⟩ : ∃ e, d = e + 1 := by
    cases d with
    | zero => exact absurd hu.1 hn0
    | succ d => exact ⟨d, rfl⟩
  obtain ⟨L, hLl, hL⟩ := hu.rows
  have hlen : L.length = l.length := by rw [← hLl, List.length_map]
  have hlp : 0 < l.length := by
    cases l with
    | nil => exact absurd rfl hn0
    | cons a r => simp
  obtain ⟨b, rfl⟩ : ∃ b, A = some b := by
    obtain ⟨x, hx⟩ : ∃ x, L[0]? = some x := ⟨_, List.getElem?_eq_getElem (by omega)⟩
    obtain ⟨b, o, s, h, _⟩ := hL 0 x hx
    exact ⟨_, h⟩
  have hln : l.length ≤ 1000 := Nat.le_trans (Pr.sizes_length l) hsz
  have hrd : ∀ (j : Nat) (x : Pd × Value), L[j]? = some x → PdCell w (b.add (j * 14)) x.1.f x.2 := fun j x h => by
    obtain ⟨b', o, s, h1, _, h2, _⟩ := hL j x h
    cases h1
    exact h2
  have hone : ∀ u ∈ pdCells L, u.oneCell' = true := by
    intro u hu
    simp only [pdCells, List.mem_flatMap] at hu
    obtain ⟨x, hx, hu⟩ := hu
    obtain ⟨j, hj⟩ := List.mem_iff_getElem?.1 hx
    obtain ⟨_, _, _, _, _, _, hk⟩ := hL j x hj
    obtain ⟨A2, c2, h2, _⟩ := hk.form
    rw [h2] at hu
    exact cells_one _ _ _ _ u hu
  have cg := pclone_some b l.length c (pdCells L) w (by rw [pdCells_length, hlen]) (pdCells_here hrd) hone (by omega)
  have hHang : ∀ W, Below w.heap.size w W → ∀ (j : Nat) (x : Pd × Value), L[j]? = some x → PsAt d W x.2 x.1.ps := fun W hb j x h => by
    obtain ⟨_, _, _, _, _, _, hk⟩ := hL j x h
    exact hk.below hb (Nat.le_refl _)
  have hsize : ∀ (j : Nat) (x : Pd × Value), L[j]? = some x → Pr.sizes x.1.ps ≤ 1000 := fun j x h => by
    have h2 : l[j]? = some x.1 := by rw [← hLl, List.getElem?_map, h]; rfl
    have := Pr.sizes_down h2
    omega
  have hfst : ∀ (j : Nat) (x : Pd × Value), L[j]? = some x → l[j]? = some x.1 := fun j x h => by rw [← hLl, List.getElem?_map, h]; rfl
  have HH := Lib.hid hHang
  have HZ := Lib.hid hsize
  have HF := Lib.hid hfst
  have HLL := Lib.hid hlen
  
  obtain ⟨n, hn⟩ : ∃ n, n = l.length := ⟨_, rfl⟩
  rw [← hn] at cg hl hlp hln HLL ⊢
  have HN := Lib.hid hn
  clear hu hsz hn hn0 hL hLl hlen hrd hone hHang hsize hfst
  go_enter Try.func58, Try.ntmps58
  go_wp2_with fail
  refine cg.mono ?_
  rintro e w1 ⟨A', c', rfl, hnc, hb1, hor⟩
  obtain ⟨g, rfl, hg, hrow1⟩ := hor.resolve_left (by omega)
  have HNC := Lib.hid hnc
  have HG := Lib.hid hg
  have hgl := Lib.hid hrow1.lt
  have HR := Lib.hid hrow1
  obtain ⟨T1, hT1⟩ : ∃ T1 : Nat → Prop, T1 = fun k => w1.heap.size ≤ k := ⟨_, rfl⟩
  have HT1 := Lib.hid hT1
  clear cg hor hrow1 hnc hT1 hg
  go_wp2_with fail
  go_loopw [11] (fun i wr => ∃ (q : Nat) (M : List (Pd × Value)), q ≤ n ∧ i = .int .i64 q ∧ Hid (M.length = n ∧ ∀ (j : Nat) (x : Pd × Value), M[j]? = some x → (q ≤ j → L[j]? = some x) ∧ (j < q → l[j]? = some x.1 ∧ PsOn T1 d wr x.2 x.1.ps)) ∧ Hid (RowLies wr g 49 (pdCells M)) ∧ Below w.heap.size w wr ∧ Hid (w1.heap.size ≤ wr.heap.size)) (fun i _ => n - (intOf i).toNat)
  case atStart => exact ⟨0, L, Nat.zero_le _, rfl, Lib.hid ⟨HLL.out, fun j x h => ⟨fun _ => h, fun hj => by omega⟩⟩, HR, hb1, Lib.hid (Nat.le_refl _)⟩
  case round =>
    obtain ⟨q, M, hq, rfl, hM, hrow, hb, hsz1⟩ := hrel
    by_cases hlt : q < n
    · obtain ⟨⟨x, xu⟩, hMx⟩ : ∃ x, M[q]? = some x := ⟨M[q]'(by have := hM.out.1; omega), List.getElem?_eq_getElem _⟩
      have hLx := (hM.out.2 q _ hMx).1 (Nat.le_refl _)
      have hcell := hrow.out.pd hMx
      have hk1 := HH.out wr hb q _ hLx
      obtain ⟨A2, c2, hA2, _⟩ := hk1.form
      change xu = .slice A2 x.ps.length c2 at hA2
      subst hA2
      have hba : Below w.heap.size w (wr.alloc (Obj.cells #[.int .i64 x.f.k, .int .i64 x.f.u, .int .i64 x.f.o, .int .i64 x.f.a.k, .int .i64 x.f.a.t, .int .i64 x.f.a.c, .bool x.f.a.z, .int .i64 x.f.a.n, .int .i64 x.f.b.k, .int .i64 x.f.b.t, .int .i64 x.f.b.c, .bool x.f.b.z, .int .i64 x.f.b.n, .slice A2 x.ps.length c2] 49)) := below_join hb (below_new _ _)
      have cs := pcopy_at d x.f _ x.ps _ (HH.out _ hba q _ hLx) (HZ.out q _ hLx)
      have hfst := HF.out q _ hLx
      have hrowa := hrow.out.block (w' := wr.alloc (Obj.cells #[.int .i64 x.f.k, .int .i64 x.f.u, .int .i64 x.f.o, .int .i64 x.f.a.k, .int .i64 x.f.a.t, .int .i64 x.f.a.c, .bool x.f.a.z, .int .i64 x.f.a.n, .int .i64 x.f.b.k, .int .i64 x.f.b.t, .int .i64 x.f.b.c, .bool x.f.b.z, .int .i64 x.f.b.n, .slice A2 x.ps.length c2] 49)) (Below.heap_alloc _ _ _ hrow.out.lt)
      have HRA := Lib.hid hrowa
      have HBA := Lib.hid hba
      have HFX := Lib.hid hfst
      have HMX := Lib.hid hMx
      have hgs := hrow.out.lt
      obtain ⟨x0, x1, x2, x3, x4, x5, x6, x7, x8, x9, x10, x11, x12, x13⟩ := hcell
      dsimp only at x0 x1 x2 x3 x4 x5 x6 x7 x8 x9 x10 x11 x12 x13
      have CS := Lib.hid cs
      clear hLx hk1 hba hfst hrowa hMx cs
      go_wp2_with fail
      refine CS.out.mono ?_
      rintro e2 w2 ⟨u2, rfl, hnu, hb2⟩
      obtain ⟨B2, k2, rfl⟩ := hnu.form
      have hrow2 := HRA.out.block (w' := w2) (hb2.block _ HRA.out.lt)
      have hb3 := Lib.hid (below_join HBA.out hb2)
      have hcell2 := hrow2.pd HMX.out
      obtain ⟨z0, z1, z2, z3, z4, z5, z6, z7, z8, z9, z10, z11, z12, z13⟩ := hcell2
      dsimp only at z0 z1 z2 z3 z4 z5 z6 z7 z8 z9 z10 z11 z12 z13
      have f0 := hrow2.free (q * 14)
      have f1 := hrow2.free (q * 14 + 1)
      have f2 := hrow2.free (q * 14 + 2)
      have f3 := hrow2.free (q * 14 + 3)
      have f4 := hrow2.free (q * 14 + 4)
      have f5 := hrow2.free (q * 14 + 5)
      have f6 := hrow2.free (q * 14 + 6)
      have f7 := hrow2.free (q * 14 + 7)
      have f8 := hrow2.free (q * 14 + 8)
      have f9 := hrow2.free (q * 14 + 9)
      have f10 := hrow2.free (q * 14 + 10)
      have f11 := hrow2.free (q * 14 + 11)
      have f12 := hrow2.free (q * 14 + 12)
      have f13 := hrow2.free (q * 14 + 13)
      have hs2 := hb2.size
      rw [World.size_alloc] at hs2
      have HS2 := Lib.hid hs2
      have hlen2 : q < M.length := by have := hM.out.1; omega
      obtain ⟨u1, u2, u3⟩ := pdCells_put (y := (x, .slice B2 x.ps.length k2)) hlen2
      have hrow4 := Lib.hid (RowLies.sets (ys := [.int .i64 x.f.k, .int .i64 x.f.u, .int .i64 x.f.o, .int .i64 x.f.a.k, .int .i64 x.f.a.t, .int .i64 x.f.a.c, .bool x.f.a.z, .int .i64 x.f.a.n, .int .i64 x.f.b.k, .int .i64 x.f.b.t, .int .i64 x.f.b.c, .bool x.f.b.z, .int .i64 x.f.b.n, .slice B2 x.ps.length k2]) (o := q * 14) hrow2 u1 (by rw [pdCells_length]; show q * 14 + 14 ≤ _; omega) u2 (fun i hi => u3 i hi))
      have hb4 := Lib.hid (Below.sets (B := w.heap.size) (g := g) HG.out [.int .i64 x.f.k, .int .i64 x.f.u, .int .i64 x.f.o, .int .i64 x.f.a.k, .int .i64 x.f.a.t, .int .i64 x.f.a.c, .bool x.f.a.z, .int .i64 x.f.a.n, .int .i64 x.f.b.k, .int .i64 x.f.b.t, .int .i64 x.f.b.c, .bool x.f.b.z, .int .i64 x.f.b.n, .slice B2 x.ps.length k2] (q * 14) hb3.out)
      have hsz4 : w2.heap.size = (setCells w2 g (q * 14) [.int .i64 x.f.k, .int .i64 x.f.u, .int .i64 x.f.o, .int .i64 x.f.a.k, .int .i64 x.f.a.t, .int .i64 x.f.a.c, .bool x.f.a.z, .int .i64 x.f.a.n, .int .i64 x.f.b.k, .int .i64 x.f.b.t, .int .i64 x.f.b.c, .bool x.f.b.z, .int .i64 x.f.b.n, .slice B2 x.ps.length k2]).heap.size := (setCells_size _ _ _ _).symm
      have hM4 : Hid ((M.set q (x, .slice B2 x.ps.length k2)).length = n ∧ ∀ (j : Nat) (z : Pd × Value), (M.set q (x, .slice B2 x.ps.length k2))[j]? = some z → (q + 1 ≤ j → L[j]? = some z) ∧ (j < q + 1 → l[j]? = some z.1 ∧ PsOn T1 d (setCells w2 g (q * 14) [.int .i64 x.f.k, .int .i64 x.f.u, .int .i64 x.f.o, .int .i64 x.f.a.k, .int .i64 x.f.a.t, .int .i64 x.f.a.c, .bool x.f.a.z, .int .i64 x.f.a.n, .int .i64 x.f.b.k, .int .i64 x.f.b.t, .int .i64 x.f.b.c, .bool x.f.b.z, .int .i64 x.f.b.n, .slice B2 x.ps.length k2]) z.2 z.1.ps)) := Lib.hid (by
        have hs0 := hsz1.out
        have hgl2 := hgl.out
        have hkeep : ∀ k, T1 k → k < w2.heap.size → (setCells w2 g (q * 14) [.int .i64 x.f.k, .int .i64 x.f.u, .int .i64 x.f.o, .int .i64 x.f.a.k, .int .i64 x.f.a.t, .int .i64 x.f.a.c, .bool x.f.a.z, .int .i64 x.f.a.n, .int .i64 x.f.b.k, .int .i64 x.f.b.t, .int .i64 x.f.b.c, .bool x.f.b.z, .int .i64 x.f.b.n, .slice B2 x.ps.length k2]).heap[k]? = w2.heap[k]? ∧ T1 k := fun k hk _ => ⟨setCells_other _ _ (by rw [HT1.out] at hk; omega) _ _ _, hk⟩
        have hkeep1 : ∀ k, T1 k → k < wr.heap.size → (setCells w2 g (q * 14) [.int .i64 x.f.k, .int .i64 x.f.u, .int .i64 x.f.o, .int .i64 x.f.a.k, .int .i64 x.f.a.t, .int .i64 x.f.a.c, .bool x.f.a.z, .int .i64 x.f.a.n, .int .i64 x.f.b.k, .int .i64 x.f.b.t, .int .i64 x.f.b.c, .bool x.f.b.z, .int .i64 x.f.b.n, .slice B2 x.ps.length k2]).heap[k]? = wr.heap[k]? ∧ T1 k := fun k hk hlt => ⟨((hkeep k hk (by omega)).1.trans (hb2.block k (by rw [World.size_alloc]; omega))).trans (Below.heap_alloc _ _ _ hlt), hk⟩
        refine ⟨by rw [List.length_set]; exact hM.out.1, fun j z hz => ?_⟩
        by_cases hj : j = q
        · subst hj
          rw [List.getElem?_set_self hlen2] at hz
          cases hz
          refine ⟨fun h => by omega, fun _ => ⟨HFX.out, ?_⟩⟩
          exact hnu.on.keep (by omega) (fun k hk hlt => hkeep k (by rw [World.size_alloc] at hk; rw [HT1.out]; omega) hlt)
        · rw [List.getElem?_set_ne (fun e => hj e.symm)] at hz
          obtain ⟨h1, h2⟩ := hM.out.2 j z hz
          refine ⟨fun h => h1 (by omega), fun h => ?_⟩
          obtain ⟨h3, h4⟩ := h2 (by omega)
          exact ⟨h3, h4.keep (by omega) hkeep1⟩)
      have hsz5 := Lib.hid (show w1.heap.size ≤ (setCells w2 g (q * 14) [.int .i64 x.f.k, .int .i64 x.f.u, .int .i64 x.f.o, .int .i64 x.f.a.k, .int .i64 x.f.a.t, .int .i64 x.f.a.c, .bool x.f.a.z, .int .i64 x.f.a.n, .int .i64 x.f.b.k, .int .i64 x.f.b.t, .int .i64 x.f.b.c, .bool x.f.b.z, .int .i64 x.f.b.n, .slice B2 x.ps.length k2]).heap.size by have := hsz1.out; omega)
      clear hrow hrow2 hM hb hb2 hnu u1 u2 u3 hlen2 hsz4 hs2 hgs x0 x1 x2 x3 x4 x5 x6 x7 x8 x9 x10 x11 x12 x13 CS HRA HBA
      go_wp2_with fail
      go_roundw
      case rel => exact ⟨q + 1, _, by omega, by go_num, hM4, hrow4, hb4.out, hsz5⟩
      case measure => simp [intOf]; omega
    · obtain rfl : q = n := by omega
      have hres : PsOn (fun k => w.heap.size ≤ k) (d + 1) wr (.slice (some ⟨g, 0, none⟩) q c') l := by
        refine ⟨_, c', by rw [HN.out], by have := HN.out; omega, fun j a ha => ?_⟩
        have hj : j < q := by rw [HN.out]; exact (List.getElem?_eq_some_iff.1 ha).1
        obtain ⟨x, hx⟩ : ∃ x, M[j]? = some x := ⟨M[j]'(by have := hM.out.1; omega), List.getElem?_eq_getElem _⟩
        obtain ⟨h1, h2⟩ := (hM.out.2 j x hx).2 hj
        rw [ha] at h1
        cases h1
        have hcell := hrow.out.pd hx
        have hlow : ∀ k, T1 k → k < wr.heap.size → wr.heap[k]? = wr.heap[k]? ∧ w.heap.size ≤ k := fun k hk _ => ⟨rfl, by rw [HT1.out] at hk; have := hb1.size; omega⟩
        exact ⟨g, 0, none, _, rfl, HG.out, hrow.out.lt, by rw [add_from5]; exact hcell, h2.keep (Nat.le_refl _) hlow⟩
      have HRES := Lib.hid hres
      clear hres hM hrow
      go_wp2_with fail
      go_ret
      exact ⟨_, rfl, HRES.out, hb⟩
end Go.Proofs.Ytdcgfhenlddmeaa
