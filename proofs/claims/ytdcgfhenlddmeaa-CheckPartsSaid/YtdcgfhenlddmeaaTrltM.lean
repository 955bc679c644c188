/-
  package tree: each, of trees.
-/
import Derived.Test.YtdcgfhenlddmeaaTrlM
namespace Go.Proofs.Ytdcgfhenlddmeaa
open Go.RowKit Go.Sort
set_option maxHeartbeats 1000000

set_option maxRecDepth 100000 in
theorem teach_of (d : Nat) (ih : ∀ e, e < d → ∀ (a : Tr) (u v : Value) (w : World), TsAt e w u a.ks → PsSome w v a.cs → Tr.size a ≤ 1000 → Calls Try.prog 43 #[.agg #[.int .i64 a.k, .int .i64 a.t, u, v, .bool a.h]] w (NewTr e w a)) (u : Value) (l : List Tr) (w : World) (hu : TsAt d w u l) (hsz : Tr.sizes l ≤ 1000) :
    Calls Try.prog 57 #[u, .func (.func 43) #[] #[]] w fun e w' => ∃ r, e = .returned r ∧ TsTop w.heap.size d w' r l ∧ Below w.heap.size w w' := by
  obtain ⟨A, c, rfl, hl⟩ := hu.form
  by_cases hn0 : l = []
  · subst hn0
    have hz : ∀ (W : World) A c, TsTop w.heap.size d W (.slice A 0 c) [] := fun W A c => TsTop.nil _ _ _ _ _
    have cg : Calls Try.prog 46 #[.slice A 0 c] w fun e w' => ∃ A' c', e = .returned (.slice A' 0 c') ∧ Below w.heap.size w w' := by
      cases A with
      | none => exact (tclone_nil c w).mono fun e w' ⟨h1, h2⟩ => ⟨none, 0, h1, h2 ▸ Below.refl _ _⟩
      | some b => exact (tclone_some b 0 c [] w rfl (fun k u h => by simp at h) (fun u h => by simp at h) (by omega)).mono fun e w' ⟨A', c', h1, _, h2, _⟩ => ⟨A', c', h1, h2⟩
    have HZ := Lib.hid hz
    clear hu ih hsz hz
    go_enter Try.func57, Try.ntmps57
    go_wp2_with fail
    refine cg.mono ?_
    rintro e w1 ⟨A', c', rfl, hb1⟩
    clear cg
    go_wp2_with fail
    go_loopw [11] (fun i wr => i = .int .i64 0 ∧ w1 = wr) (fun i _ => 0)
    case atStart => exact ⟨rfl, rfl⟩
    case round =>
      obtain ⟨rfl, rfl⟩ := hrel
      go_wp2_with fail
      go_ret
      exact ⟨_, rfl, HZ.out _ _ _, hb1⟩
  obtain ⟨d, rfl⟩ : ∃ e, d = e + 1 := by
    cases d with
    | zero => exact absurd hu.1 hn0
    | succ d => exact ⟨d, rfl⟩
  obtain ⟨L, hLl, hL⟩ := hu.rows
  have hlen : L.length = l.length := by rw [← hLl, List.length_map]
  have hlp : 0 < l.length := by
    cases l with
    | nil => exact absurd rfl hn0
    | cons a r => simp
  obtain ⟨b, rfl⟩ : ∃ b, A = some b := by
    obtain ⟨x, hx⟩ : ∃ x, L[0]? = some x := ⟨_, List.getElem?_eq_getElem (by omega)⟩
    obtain ⟨b, o, s, h, _⟩ := hL 0 x hx
    exact ⟨_, h⟩
  have hln : l.length ≤ 1000 := Nat.le_trans (Tr.sizes_length l) hsz
  have hrd : ∀ (j : Nat) (x : TrV), L[j]? = some x → TrCell w (b.add (j * 5)) x.1 x.2.1 x.2.2 := fun j x h => by
    obtain ⟨b', o, s, h1, _, h2, _⟩ := hL j x h
    cases h1
    exact h2
  have hone : ∀ u ∈ trCells L, u.oneCell' = true := by
    intro u hu
    simp only [trCells, List.mem_flatMap] at hu
    obtain ⟨x, hx, hu⟩ := hu
    obtain ⟨j, hj⟩ := List.mem_iff_getElem?.1 hx
    obtain ⟨_, _, _, _, _, _, ⟨D, hp⟩, hk⟩ := hL j x hj
    obtain ⟨A2, c2, h2, _⟩ := hk.form
    obtain ⟨A4, c4, h4, _⟩ := hp.form
    rw [h2, h4] at hu
    simp [Tr.cells] at hu
    rcases hu with rfl | rfl | rfl | rfl | rfl <;> rfl
  have cg := tclone_some b l.length c (trCells L) w (by rw [trCells_length, hlen]) (trCells_here hrd) hone (by omega)
  have hHang : ∀ W, Below w.heap.size w W → ∀ (j : Nat) (x : TrV), L[j]? = some x → TsAt d W x.2.1 x.1.ks ∧ PsSome W x.2.2 x.1.cs := fun W hb j x h => by
    obtain ⟨_, _, _, _, _, _, hp, hk⟩ := hL j x h
    exact ⟨hk.below hb (Nat.le_refl _), hp.below hb (Nat.le_refl _)⟩
  have hsize : ∀ (j : Nat) (x : TrV), L[j]? = some x → Tr.size x.1 ≤ 1000 := fun j x h => by
    have h2 : l[j]? = some x.1 := by rw [← hLl, List.getElem?_map, h]; rfl
    have := Tr.sizes_at h2
    omega
  have hfst : ∀ (j : Nat) (x : TrV), L[j]? = some x → l[j]? = some x.1 := fun j x h => by rw [← hLl, List.getElem?_map, h]; rfl
  have HH := Lib.hid hHang
  have HZ := Lib.hid hsize
  have HF := Lib.hid hfst
  have HLL := Lib.hid hlen
  have IH := Lib.hid ih
  obtain ⟨n, hn⟩ : ∃ n, n = l.length := ⟨_, rfl⟩
  rw [← hn] at cg hl hlp hln HLL ⊢
  have HN := Lib.hid hn
  clear hu ih hsz hn hn0 hL hLl hlen hrd hone hHang hsize hfst
  go_enter Try.func57, Try.ntmps57
  go_wp2_with fail
  refine cg.mono ?_
  rintro e w1 ⟨A', c', rfl, hnc, hb1, hor⟩
  obtain ⟨g, rfl, hg, hrow1⟩ := hor.resolve_left (by omega)
  have HNC := Lib.hid hnc
  have HG := Lib.hid hg
  have hgl := Lib.hid hrow1.lt
  have HR := Lib.hid hrow1
  obtain ⟨T1, hT1⟩ : ∃ T1 : Nat → Prop, T1 = fun k => w1.heap.size ≤ k := ⟨_, rfl⟩
  have HT1 := Lib.hid hT1
  clear cg hor hrow1 hnc hT1 hg
  go_wp2_with fail
  go_loopw [11] (fun i wr => ∃ (q : Nat) (M : List (TrV)), q ≤ n ∧ i = .int .i64 q ∧ Hid (M.length = n ∧ ∀ (j : Nat) (x : TrV), M[j]? = some x → (q ≤ j → L[j]? = some x) ∧ (j < q → l[j]? = some x.1 ∧ TsOn T1 d wr x.2.1 x.1.ks ∧ ∃ D, PsOn T1 D wr x.2.2 x.1.cs)) ∧ Hid (RowLies wr g 26 (trCells M)) ∧ Below w.heap.size w wr ∧ Hid (w1.heap.size ≤ wr.heap.size)) (fun i _ => n - (intOf i).toNat)
  case atStart => exact ⟨0, L, Nat.zero_le _, rfl, Lib.hid ⟨HLL.out, fun j x h => ⟨fun _ => h, fun hj => by omega⟩⟩, HR, hb1, Lib.hid (Nat.le_refl _)⟩
  case round =>
    obtain ⟨q, M, hq, rfl, hM, hrow, hb, hsz1⟩ := hrel
    by_cases hlt : q < n
    · obtain ⟨⟨x, xu, xv⟩, hMx⟩ : ∃ x, M[q]? = some x := ⟨M[q]'(by have := hM.out.1; omega), List.getElem?_eq_getElem _⟩
      have hLx := (hM.out.2 q _ hMx).1 (Nat.le_refl _)
      have hcell := hrow.out.tr hMx
      obtain ⟨hk1, hp1⟩ := HH.out wr hb q _ hLx
      obtain ⟨A2, c2, hA2, _⟩ := hk1.form
      obtain ⟨A4, c4, hA4, _⟩ := hp1.elim fun D h => h.form
      change xu = .slice A2 x.ks.length c2 at hA2
      change xv = .slice A4 x.cs.length c4 at hA4
      subst hA2 hA4
      have hba : Below w.heap.size w (wr.alloc (Obj.cells #[.int .i64 x.k, .int .i64 x.t, .slice A2 x.ks.length c2, .slice A4 x.cs.length c4, .bool x.h] 26)) := below_join hb (below_new _ _)
      obtain ⟨hk2, hp2⟩ := HH.out _ hba q _ hLx
      have cs := IH.out d (Nat.lt_succ_self d) x _ _ _ hk2 hp2 (HZ.out q _ hLx)
      have hfst := HF.out q _ hLx
      have hrowa := hrow.out.block (w' := wr.alloc (Obj.cells #[.int .i64 x.k, .int .i64 x.t, .slice A2 x.ks.length c2, .slice A4 x.cs.length c4, .bool x.h] 26)) (Below.heap_alloc _ _ _ hrow.out.lt)
      have HRA := Lib.hid hrowa
      have HBA := Lib.hid hba
      have HFX := Lib.hid hfst
      have HMX := Lib.hid hMx
      have hgs := hrow.out.lt
      obtain ⟨x0, x1, x2, x3, x4⟩ := hcell
      dsimp only at x0 x1 x2 x3 x4
      have CS := Lib.hid cs
      clear hLx hk1 hp1 hk2 hp2 hba hfst hrowa hMx cs
      go_wp2_with fail
      refine CS.out.mono ?_
      rintro e2 w2 ⟨u2, v2, rfl, hnu, hnv, hb2⟩
      replace hnu := hnu.on
      obtain ⟨B2, k2, rfl, _⟩ := hnu.at_.form
      obtain ⟨B4, k4, rfl, _⟩ := hnv.elim fun D h => h.at_.form
      have hrow2 := HRA.out.block (w' := w2) (hb2.block _ HRA.out.lt)
      have hb3 := Lib.hid (below_join HBA.out hb2)
      have hcell2 := hrow2.tr HMX.out
      obtain ⟨z0, z1, z2, z3, z4⟩ := hcell2
      dsimp only at z0 z1 z2 z3 z4
      have f0 := hrow2.free (q * 5)
      have f1 := hrow2.free (q * 5 + 1)
      have f2 := hrow2.free (q * 5 + 2)
      have f3 := hrow2.free (q * 5 + 3)
      have f4 := hrow2.free (q * 5 + 4)
      have hs2 := hb2.size
      rw [World.size_alloc] at hs2
      have HS2 := Lib.hid hs2
      have hlen2 : q < M.length := by have := hM.out.1; omega
      obtain ⟨u1, u2, u3⟩ := trCells_put (y := (x, .slice B2 x.ks.length k2, .slice B4 x.cs.length k4)) hlen2
      have hrow4 := Lib.hid (RowLies.sets (ys := [.int .i64 x.k, .int .i64 x.t, .slice B2 x.ks.length k2, .slice B4 x.cs.length k4, .bool x.h]) (o := q * 5) hrow2 u1 (by rw [trCells_length]; show q * 5 + 5 ≤ _; omega) u2 (fun i hi => u3 i hi))
      have hb4 := Lib.hid (Below.sets (B := w.heap.size) (g := g) HG.out [.int .i64 x.k, .int .i64 x.t, .slice B2 x.ks.length k2, .slice B4 x.cs.length k4, .bool x.h] (q * 5) hb3.out)
      have hsz4 : w2.heap.size = (setCells w2 g (q * 5) [.int .i64 x.k, .int .i64 x.t, .slice B2 x.ks.length k2, .slice B4 x.cs.length k4, .bool x.h]).heap.size := (setCells_size _ _ _ _).symm
      have hM4 : Hid ((M.set q (x, .slice B2 x.ks.length k2, .slice B4 x.cs.length k4)).length = n ∧ ∀ (j : Nat) (z : TrV), (M.set q (x, .slice B2 x.ks.length k2, .slice B4 x.cs.length k4))[j]? = some z → (q + 1 ≤ j → L[j]? = some z) ∧ (j < q + 1 → l[j]? = some z.1 ∧ TsOn T1 d (setCells w2 g (q * 5) [.int .i64 x.k, .int .i64 x.t, .slice B2 x.ks.length k2, .slice B4 x.cs.length k4, .bool x.h]) z.2.1 z.1.ks ∧ ∃ D, PsOn T1 D (setCells w2 g (q * 5) [.int .i64 x.k, .int .i64 x.t, .slice B2 x.ks.length k2, .slice B4 x.cs.length k4, .bool x.h]) z.2.2 z.1.cs)) := Lib.hid (by
        have hs0 := hsz1.out
        have hgl2 := hgl.out
        have hkeep : ∀ k, T1 k → k < w2.heap.size → (setCells w2 g (q * 5) [.int .i64 x.k, .int .i64 x.t, .slice B2 x.ks.length k2, .slice B4 x.cs.length k4, .bool x.h]).heap[k]? = w2.heap[k]? ∧ T1 k := fun k hk _ => ⟨setCells_other _ _ (by rw [HT1.out] at hk; omega) _ _ _, hk⟩
        have hkeep1 : ∀ k, T1 k → k < wr.heap.size → (setCells w2 g (q * 5) [.int .i64 x.k, .int .i64 x.t, .slice B2 x.ks.length k2, .slice B4 x.cs.length k4, .bool x.h]).heap[k]? = wr.heap[k]? ∧ T1 k := fun k hk hlt => ⟨((hkeep k hk (by omega)).1.trans (hb2.block k (by rw [World.size_alloc]; omega))).trans (Below.heap_alloc _ _ _ hlt), hk⟩
        refine ⟨by rw [List.length_set]; exact hM.out.1, fun j z hz => ?_⟩
        by_cases hj : j = q
        · subst hj
          rw [List.getElem?_set_self hlen2] at hz
          cases hz
          refine ⟨fun h => by omega, fun _ => ⟨HFX.out, ?_⟩⟩
          have hk5 : ∀ k, (wr.alloc (Obj.cells #[.int .i64 x.k, .int .i64 x.t, .slice A2 x.ks.length c2, .slice A4 x.cs.length c4, .bool x.h] 26)).heap.size ≤ k → k < w2.heap.size → (setCells w2 g (j * 5) [.int .i64 x.k, .int .i64 x.t, .slice B2 x.ks.length k2, .slice B4 x.cs.length k4, .bool x.h]).heap[k]? = w2.heap[k]? ∧ T1 k := fun k hk hlt => by
            have ht : T1 k := by rw [HT1.out, World.size_alloc] at *; omega
            exact hkeep k ht hlt
          exact ⟨hnu.keep (by omega) hk5, hnv.elim fun D h => ⟨D, h.keep (by omega) fun k hk => hk5 k hk.1⟩⟩
        · rw [List.getElem?_set_ne (fun e => hj e.symm)] at hz
          obtain ⟨h1, h2⟩ := hM.out.2 j z hz
          refine ⟨fun h => h1 (by omega), fun h => ?_⟩
          obtain ⟨h3, h4⟩ := h2 (by omega)
          exact ⟨h3, h4.1.keep (by omega) hkeep1, h4.2.elim fun D h => ⟨D, h.keep (by omega) hkeep1⟩⟩)
      have hsz5 := Lib.hid (show w1.heap.size ≤ (setCells w2 g (q * 5) [.int .i64 x.k, .int .i64 x.t, .slice B2 x.ks.length k2, .slice B4 x.cs.length k4, .bool x.h]).heap.size by have := hsz1.out; omega)
      clear hrow hrow2 hM hb hb2 hnu hnv u1 u2 u3 hlen2 hsz4 hs2 hgs x0 x1 x2 x3 x4 CS HRA HBA
      go_wp2_with fail
      go_roundw
      case rel => exact ⟨q + 1, _, by omega, by go_num, hM4, hrow4, hb4.out, hsz5⟩
      case measure => simp [intOf]; omega
    · obtain rfl : q = n := by omega
      have hMl : M.map (·.1) = l := by
        refine List.ext_getElem? fun j => ?_
        rw [List.getElem?_map]
        cases hx : M[j]? with
        | none =>
          rw [List.getElem?_eq_none_iff] at hx
          exact (List.getElem?_eq_none_iff.2 (by have := HN.out; have := hM.out.1; omega)).symm
        | some x =>
          have hj : j < q := by have := hM.out.1; have := (List.getElem?_eq_some_iff.1 hx).1; omega
          exact (((hM.out.2 j x hx).2 hj).1).symm
      have hres : TsTop w.heap.size (d + 1) wr (.slice (some ⟨g, 0, none⟩) q c') l := by
        have hgl2 := hgl.out
        have hlow : ∀ k, T1 k → k < wr.heap.size → wr.heap[k]? = wr.heap[k]? ∧ g < k := fun k hk _ => ⟨rfl, by rw [HT1.out] at hk; omega⟩
        refine ⟨M, _, c', hMl, by rw [HN.out], ⟨by have := HN.out; omega, by rw [← HN.out]; exact HNC.out⟩, .inr ⟨g, d, rfl, rfl, HG.out, hrow.out, fun j x hx => ?_⟩⟩
        have hj : j < q := by have := hM.out.1; have := (List.getElem?_eq_some_iff.1 hx).1; omega
        obtain ⟨h1, h2⟩ := (hM.out.2 j x hx).2 hj
        exact ⟨h2.2.elim fun D h => ⟨D, h.keep (Nat.le_refl _) hlow⟩, h2.1.keep (Nat.le_refl _) hlow⟩
      have HRES := Lib.hid hres
      clear hres hM hrow
      go_wp2_with fail
      go_ret
      exact ⟨_, rfl, HRES.out, hb⟩
end Go.Proofs.Ytdcgfhenlddmeaa
