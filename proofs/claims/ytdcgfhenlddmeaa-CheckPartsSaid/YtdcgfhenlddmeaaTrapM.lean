/-
  package tree: what a tour hands out has kids of its own: the closure that sets them apart.
-/
import Derived.Test.YtdcgfhenlddmeaaTrlcM
import Derived.Test.YtdcgfhenlddmeaaTrwM
import Derived.Deep.RegionWith
import Derived.Deep.Cut
import Derived.Deep.CutRange
namespace Go.Proofs.Ytdcgfhenlddmeaa
open Go.RowKit Go.Sort
set_option maxHeartbeats 1000000

theorem trCells_kids {L : List TrV} {q : Nat} {x : TrV} (hx : L[q]? = some x) (u' : Value) :
    (trCells (L.set q (x.1, u', x.2.2))).length = (trCells L).length ∧ (∀ k, (k < q * 5 + 2 ∨ q * 5 + 2 + 1 ≤ k) → (trCells (L.set q (x.1, u', x.2.2)))[k]? = (trCells L)[k]?) ∧ (trCells (L.set q (x.1, u', x.2.2)))[q * 5 + 2]? = some u' := by
  have hq : q < L.length := (List.getElem?_eq_some_iff.1 hx).1
  obtain ⟨h1, h2, h3⟩ := trCells_put (y := (x.1, u', x.2.2)) hq
  refine ⟨h1, fun k hk => ?_, h3 2 (by decide)⟩
  by_cases hin : q * 5 ≤ k ∧ k < q * 5 + 5
  · obtain ⟨i, rfl⟩ : ∃ i, k = q * 5 + i := ⟨k - q * 5, by omega⟩
    rw [h3 i (by omega), trCells_get hx (by omega)]
    match i, hk with
    | 0, _ => rfl
    | 1, _ => rfl
    | 2, hk => omega
    | i + 3, _ => rfl
  · exact h2 k (by omega)
theorem Keeps.setCell {S : Nat → Prop} {W W' : World} (h : Keeps S W W') {a : Addr} (v : Value) (ha : ¬ S a.block ∨ W.heap.size ≤ a.block) : Keeps S W (W'.setCell a v) :=
  ⟨h.os, h.tape, h.output, by simpa [World.setCell] using h.size, fun k hk hs => (Below.heap_setCell _ _ _ _ (fun e => by rcases ha with ha | ha; exact ha (e ▸ hs); omega)).trans (h.same k hk hs)⟩
theorem Keeps.drew {S : Nat → Prop} {A B : World} (h : Keeps S A B) : Keeps S A B.drew := ⟨h.os, h.tape, h.output, h.size, h.same⟩
theorem keeps_new {S : Nat → Prop} {A B : World} (h : Below A.heap.size A B) : Keeps S A B := ⟨h.os, h.tape, h.output, h.size, fun k hk _ => h.block k hk⟩
theorem TsOn.rows2 {T : Nat → Prop} {d : Nat} {w : World} {A : Option Addr} {n c : Nat} {l : List Tr} (h : TsOn T (d + 1) w (.slice A n c) l) :
    ∃ L : List TrV, L.map (·.1) = l ∧ ∀ (j : Nat) (x : TrV), L[j]? = some x → ∃ b o s, A = some ⟨b, o, s⟩ ∧ T b ∧ b < w.heap.size ∧ TrCell w ((⟨b, o, s⟩ : Addr).add (j * 5)) x.1 x.2.1 x.2.2 ∧ (∃ e, PsOn T e w x.2.2 x.1.cs) ∧ TsOn T d w x.2.1 x.1.ks := by
  obtain ⟨A', c', hv, _, hx⟩ := h
  cases hv
  exact pairs_of (Q := fun j (p : Tr) (y : Value × Value) => ∃ b o s, A = some ⟨b, o, s⟩ ∧ T b ∧ b < w.heap.size ∧ TrCell w ((⟨b, o, s⟩ : Addr).add (j * 5)) p y.1 y.2 ∧ (∃ e, PsOn T e w y.2 p.cs) ∧ TsOn T d w y.1 p.ks) fun j p hj => by
    obtain ⟨b, o, s, x, y, h1, h2, h3, h4, h5, h6⟩ := hx j p hj
    exact ⟨(x, y), b, o, s, h1, h2, h3, h4, h5, h6⟩
/-- what the closure leans on: how many were made so far, and the closure itself -/
structure ApEnv (M P : Nat) (w : World) : Prop where
  m : ∃ t i, Lies w M t [.int .i64 i]
  p : w.cell? ⟨P, 0, none⟩ = some (.func (.func 45) #[] #[.pointer (some ⟨M, 0, none⟩), .pointer (some ⟨P, 0, none⟩)])
  ne : M ≠ P
theorem ApEnv.ltm {M P : Nat} {w : World} (h : ApEnv M P w) : M < w.heap.size := by
  obtain ⟨t, i, l⟩ := h.m
  exact l.lt
theorem ApEnv.ltp {M P : Nat} {w : World} (h : ApEnv M P w) : P < w.heap.size := block_lt_of_cell h.p
/-- kept where neither block is turned -/
theorem ApEnv.keep {M P : Nat} {w w' : World} (h : ApEnv M P w) (hm : w'.heap[M]? = w.heap[M]?) (hp : w'.heap[P]? = w.heap[P]?) : ApEnv M P w' := by
  obtain ⟨t, i, l⟩ := h.m
  exact ⟨⟨t, i, hm.trans l⟩, (World.cell?_of_block (a := ⟨P, 0, none⟩) hp).trans h.p, h.ne⟩
theorem ApEnv.below {M P : Nat} {w w' : World} (h : ApEnv M P w) (hb : Below w.heap.size w w') : ApEnv M P w' := h.keep (hb.block M h.ltm) (hb.block P h.ltp)
theorem ApEnv.made {M P : Nat} {w : World} (h : ApEnv M P w) (i : Int) : ApEnv M P (w.setCell ⟨M, 0, none⟩ (.int .i64 i)) := by
  obtain ⟨t, j, l⟩ := h.m
  exact ⟨⟨t, i, l.set 0 _⟩, (World.cell?_of_block (a := ⟨P, 0, none⟩) (Below.heap_setCell _ _ _ _ (fun e => h.ne e.symm))).trans h.p, h.ne⟩
set_option maxRecDepth 100000 in
theorem apart_at (M P : Nat) (T : Nat → Prop) (d : Nat) : ∀ (l : List Tr) (u : Value) (w : World), ApEnv M P w → (∀ k, T k → k < w.heap.size) → ¬ T M → ¬ T P → TsOn T d w u l → Tr.sizes l ≤ 1000 →
    Calls Try.prog 45 #[u, .pointer (some ⟨M, 0, none⟩), .pointer (some ⟨P, 0, none⟩)] w fun e w' => ∃ r, e = .returned r ∧ TsOn (fun k => T k ∨ w.heap.size ≤ k) d w' r l ∧ Keeps (fun k => k ≠ M) w w' ∧ ApEnv M P w' := by
  induction d using Nat.strongRecOn with
  | ind d ih =>
  intro l u w he hT hTM hTP hu hsz
  obtain ⟨A, c, rfl, hl⟩ := hu.at_.form
  obtain ⟨t0, i0, lm⟩ := he.m
  have m0 := lm.cell (i := 0) rfl
  have fm0 := lm.free 0
  by_cases hn0 : l = []
  · subst hn0
    obtain ⟨w1, hw1⟩ : ∃ w1, w1 = w.setCell ⟨M, 0, none⟩ (.int .i64 (wrap64 i0)) := ⟨_, rfl⟩
    have he1 : ApEnv M P w1 := by rw [hw1]; exact he.made _
    have hk1 : Keeps (fun k => k ≠ M) w w1 := by rw [hw1]; exact (Keeps.refl _ _).setCell _ (.inl fun h => h rfl)
    have cg : Calls Try.prog 46 #[.slice A 0 c] w1 fun e w' => ∃ A' c', e = .returned (.slice A' 0 c') ∧ Below w1.heap.size w1 w' := by
      cases A with
      | none => exact (tclone_nil c w1).mono fun e w' ⟨h1, h2⟩ => ⟨none, 0, h1, h2 ▸ Below.refl _ _⟩
      | some b => exact (tclone_some b 0 c [] w1 rfl (fun k u h => by simp at h) (fun u h => by simp at h) (by omega)).mono fun e w' ⟨A', c', h1, _, h2, _⟩ => ⟨A', c', h1, h2⟩
    have HW := Lib.hid hw1
    have HE := Lib.hid he1
    have HK := Lib.hid hk1
    clear hu ih hsz he he1 hk1 hw1 hT hTM hTP lm
    go_enter Try.func45, Try.ntmps45
    go_wp2_with fail
    rw [← HW.out]
    refine cg.mono ?_
    rintro e w2 ⟨A', c', rfl, hb1⟩
    clear cg m0 fm0
    have HB := Lib.hid hb1
    go_wp2_with fail
    go_loopw [14] (fun i wr => i = .int .i64 0 ∧ w2 = wr) (fun i _ => 0)
    case atStart => exact ⟨rfl, rfl⟩
    case round =>
      obtain ⟨rfl, rfl⟩ := hrel
      go_wp2_with fail
      go_ret
      exact ⟨_, rfl, TsOn.mono (d := 0) ⟨rfl, A', c', rfl⟩ (Nat.zero_le _), HK.out.trans (keeps_new HB.out), HE.out.below HB.out⟩
  obtain ⟨d, rfl⟩ : ∃ e, d = e + 1 := by
    cases d with
    | zero => exact absurd hu.1 hn0
    | succ d => exact ⟨d, rfl⟩
  obtain ⟨L, hLl, hL⟩ := hu.rows2
  have hlen : L.length = l.length := by rw [← hLl, List.length_map]
  have hlp : 0 < l.length := by
    cases l with
    | nil => exact absurd rfl hn0
    | cons a r => simp
  obtain ⟨b, rfl⟩ : ∃ b, A = some b := by
    obtain ⟨x, hx⟩ : ∃ x, L[0]? = some x := ⟨_, List.getElem?_eq_getElem (by omega)⟩
    obtain ⟨b, o, s, h, _⟩ := hL 0 x hx
    exact ⟨_, h⟩
  have hln : l.length ≤ 1000 := Nat.le_trans (Tr.sizes_length l) hsz
  obtain ⟨w1, hw1⟩ : ∃ w1, w1 = w.setCell ⟨M, 0, none⟩ (.int .i64 (wrap64 (i0 + (l.length : Nat)))) := ⟨_, rfl⟩
  have he1 : ApEnv M P w1 := by rw [hw1]; exact he.made _
  have hk1 : Keeps (fun k => k ≠ M) w w1 := by rw [hw1]; exact (Keeps.refl _ _).setCell _ (.inl fun h => h rfl)
  have hs1 : w1.heap.size = w.heap.size := by rw [hw1]; simp [World.setCell]
  have hrd : ∀ (j : Nat) (x : TrV), L[j]? = some x → TrCell w1 (b.add (j * 5)) x.1 x.2.1 x.2.2 := fun j x h => by
    obtain ⟨b', o, s, h1, ht, hlt, h2, _⟩ := hL j x h
    cases h1
    exact h2.at_block (by rw [add_block]; exact hk1.same _ hlt (fun e => hTM (e ▸ ht)))
  have hone : ∀ u ∈ trCells L, u.oneCell' = true := by
    intro u hu
    simp only [trCells, List.mem_flatMap] at hu
    obtain ⟨x, hx, hu⟩ := hu
    obtain ⟨j, hj⟩ := List.mem_iff_getElem?.1 hx
    obtain ⟨_, _, _, _, _, _, _, ⟨D, hp⟩, hk⟩ := hL j x hj
    obtain ⟨A2, c2, h2, _⟩ := hk.at_.form
    obtain ⟨A4, c4, h4, _⟩ := hp.at_.form
    rw [h2, h4] at hu
    simp [Tr.cells] at hu
    rcases hu with rfl | rfl | rfl | rfl | rfl <;> rfl
  have cg := tclone_some b l.length c (trCells L) w1 (by rw [trCells_length, hlen]) (trCells_here hrd) hone (by omega)
  have hHang : ∀ W, Keeps (fun k => k ≠ M) w W → ∀ (j : Nat) (x : TrV), L[j]? = some x → TsOn T d W x.2.1 x.1.ks ∧ ∃ D, PsOn T D W x.2.2 x.1.cs := fun W hb j x h => by
    obtain ⟨_, _, _, _, _, _, _, ⟨D, hp⟩, hk⟩ := hL j x h
    have hkk : ∀ k, T k → k < w.heap.size → W.heap[k]? = w.heap[k]? ∧ T k := fun k hk hlt => ⟨hb.same k hlt (fun e => hTM (e ▸ hk)), hk⟩
    exact ⟨hk.keep hb.size hkk, D, hp.keep hb.size hkk⟩
  have hsize : ∀ (j : Nat) (x : TrV), L[j]? = some x → Tr.sizes x.1.ks ≤ 1000 := fun j x h => by
    have h2 : l[j]? = some x.1 := by rw [← hLl, List.getElem?_map, h]; rfl
    have := Tr.sizes_at h2
    have := (Pr.sizes_of_size (a := x.1) (n := 1000) (by omega)).2
    omega
  have hfst : ∀ (j : Nat) (x : TrV), L[j]? = some x → l[j]? = some x.1 := fun j x h => by rw [← hLl, List.getElem?_map, h]; rfl
  have HH := Lib.hid hHang
  have HZ := Lib.hid hsize
  have HF := Lib.hid hfst
  have HLL := Lib.hid hlen
  have IH := Lib.hid ih
  have HT := Lib.hid hT
  have HTM := Lib.hid hTM
  have HTP := Lib.hid hTP
  have HE := Lib.hid he
  obtain ⟨n, hn⟩ : ∃ n, n = l.length := ⟨_, rfl⟩
  rw [← hn] at cg hl hlp hln HLL hw1 ⊢
  have HN := Lib.hid hn
  have HW := Lib.hid hw1
  have HE1 := Lib.hid he1
  have HK1 := Lib.hid hk1
  have HS1 := Lib.hid hs1
  clear hu ih hsz hn hn0 hL hLl hlen hrd hone hHang hsize hfst hT hTM hTP he he1 hk1 hw1 hs1 lm
  go_enter Try.func45, Try.ntmps45
  go_wp2_with fail
  rw [← HW.out]
  refine cg.mono ?_
  rintro e w2 ⟨A', c', rfl, hnc, hb2, hor⟩
  obtain ⟨g, rfl, hg, hrow1⟩ := hor.resolve_left (by omega)
  have HNC := Lib.hid hnc
  have HG := Lib.hid (show w.heap.size ≤ g by have := HS1.out; omega)
  have hgl := Lib.hid hrow1.lt
  have HR := Lib.hid hrow1
  have HE2 := Lib.hid (HE1.out.below hb2)
  have HK2 := Lib.hid (HK1.out.trans (keeps_new hb2))
  obtain ⟨T1, hT1⟩ : ∃ T1 : Nat → Prop, T1 = fun k => T k ∨ w2.heap.size ≤ k := ⟨_, rfl⟩
  have HT1 := Lib.hid hT1
  clear cg hor hrow1 hnc hT1 hg hb2 m0 fm0
  go_wp2_with fail
  go_loopw [14] (fun i wr => ∃ (q : Nat) (N : List (TrV)), q ≤ n ∧ i = .int .i64 q ∧ Hid (N.length = n ∧ ∀ (j : Nat) (x : TrV), N[j]? = some x → (q ≤ j → L[j]? = some x) ∧ (j < q → l[j]? = some x.1 ∧ TsOn T1 d wr x.2.1 x.1.ks ∧ ∃ D, PsOn T1 D wr x.2.2 x.1.cs)) ∧ Hid (RowLies wr g 26 (trCells N)) ∧ Hid (Keeps (fun k => k ≠ M) w wr) ∧ Hid (ApEnv M P wr) ∧ Hid (w2.heap.size ≤ wr.heap.size)) (fun i _ => n - (intOf i).toNat)
  case atStart => exact ⟨0, L, Nat.zero_le _, rfl, Lib.hid ⟨HLL.out, fun j x h => ⟨fun _ => h, fun hj => by omega⟩⟩, HR, HK2, HE2, Lib.hid (Nat.le_refl _)⟩
  case round =>
    obtain ⟨q, N, hq, rfl, hN, hrow, hk, hen, hsz2⟩ := hrel
    by_cases hlt : q < n
    · obtain ⟨⟨x, xu, xv⟩, hNx⟩ : ∃ x, N[q]? = some x := ⟨N[q]'(by have := hN.out.1; omega), List.getElem?_eq_getElem _⟩
      have hLx := (hN.out.2 q _ hNx).1 (Nat.le_refl _)
      have hcell := hrow.out.tr hNx
      obtain ⟨hk1, hp1⟩ := HH.out wr hk.out q _ hLx
      obtain ⟨A2, c2, hA2, _⟩ := hk1.at_.form
      change xu = .slice A2 x.ks.length c2 at hA2
      subst hA2
      have cs := fun (W : World) (h : Below wr.heap.size wr W) => IH.out d (Nat.lt_succ_self d) x.ks _ W (hen.out.below h) (fun k hk2 => Nat.lt_of_lt_of_le (HT.out k hk2) (Nat.le_trans hk.out.size h.size)) HTM.out HTP.out (hk1.keep h.size fun k hk2 hlt => ⟨h.block k hlt, hk2⟩) (HZ.out q _ hLx)
      have hfst := HF.out q _ hLx
      have HFX := Lib.hid hfst
      have HNX := Lib.hid hNx
      have HP1 := Lib.hid hp1
      have CS := Lib.hid cs
      have x2 := hcell.c2
      have hpc := hen.out.p
      dsimp only at x2
      have hgM : g ≠ M := by have := HE.out.ltm; have := HG.out; omega
      have hgr := hrow.out.lt
      go_upto_region 6 with (fail)
      clear hcell hk1 hfst hLx hNx hp1 cs
      go_region_with (first
        | (go_at_call 45; (with_reducible refine (CS.out _ (by repeat first | exact Below.refl _ _ | refine Below.drew ?_)).mono ?_); rintro e w5 ⟨r5, rfl, hnu, hkn, hen5⟩; obtain ⟨B5, c5, hB5, _⟩ := hnu.at_.form; subst hB5; have hr5 := hrow.out.block (w' := w5) (hkn.same g hgr hgM); have z2 := (hr5.tr HNX.out).c2; have f2 := hr5.free (q * 5 + 2); dsimp only at z2))
      all_goals
        have hkn2 : Keeps (fun k => k ≠ M) wr w5 := ⟨hkn.os, hkn.tape, hkn.output, hkn.size, hkn.same⟩
        have hnu2 : TsOn (fun k => T k ∨ wr.heap.size ≤ k) d w5 (.slice B5 x.ks.length c5) x.ks := hnu
        have hlen2 : q < N.length := by have := hN.out.1; omega
        obtain ⟨u1, u2, u3⟩ := trCells_kids HNX.out (.slice B5 x.ks.length c5)
        obtain ⟨W6, hW6⟩ : ∃ W6, W6 = w5.setCell ⟨g, q * 5 + 2, none⟩ (.slice B5 x.ks.length c5) := ⟨_, rfl⟩
        rw [← hW6]
        have hs6 : W6.heap.size = w5.heap.size := by rw [hW6]; simp [World.setCell]
        have ho6 : ∀ k, k ≠ g → W6.heap[k]? = w5.heap[k]? := fun k hk => by rw [hW6]; exact Below.heap_setCell _ _ _ _ hk
        have hrow6 : RowLies W6 g 26 (trCells (N.set q (x, .slice B5 x.ks.length c5, xv))) := by
          rw [hW6]
          exact RowLies.sets (ys := [.slice B5 x.ks.length c5]) (o := q * 5 + 2) hr5 u1 (by rw [trCells_length]; simp; omega) u2 (fun i hi => by
            obtain rfl : i = 0 := by simpa using hi
            exact u3)
        have hk6 : Keeps (fun k => k ≠ M) w W6 := by rw [hW6]; exact (hk.out.trans hkn2).setCell _ (.inr HG.out)
        have hen6 : ApEnv M P W6 := hen5.keep (ho6 M (fun e => hgM e.symm)) (ho6 P (fun e => by have := HE.out.ltp; have := HG.out; omega))
        have hsz6 : w2.heap.size ≤ W6.heap.size := by have := hsz2.out; have := hkn2.size; omega
        have hTk : ∀ k, T1 k → k ≠ g ∧ k ≠ M := fun k h => by
          have hgl2 := hgl.out
          have hg2 := HG.out
          have hm2 := HE.out.ltm
          rw [HT1.out] at h
          rcases h with h | h
          · have := HT.out k h
            exact ⟨by omega, fun e => HTM.out (e ▸ h)⟩
          · have := hk.out.size
            have := HK2.out.size
            exact ⟨by omega, by omega⟩
        have hM6 : (N.set q (x, .slice B5 x.ks.length c5, xv)).length = n ∧ ∀ (j : Nat) (z : TrV), (N.set q (x, .slice B5 x.ks.length c5, xv))[j]? = some z → (q + 1 ≤ j → L[j]? = some z) ∧ (j < q + 1 → l[j]? = some z.1 ∧ TsOn T1 d W6 z.2.1 z.1.ks ∧ ∃ D, PsOn T1 D W6 z.2.2 z.1.cs) := by
          refine ⟨by rw [List.length_set]; exact hN.out.1, fun j z hz => ?_⟩
          by_cases hj : j = q
          · subst hj
            rw [List.getElem?_set_self hlen2] at hz
            cases hz
            refine ⟨fun h => by omega, fun _ => ⟨HFX.out, ?_, ?_⟩⟩
            · refine hnu2.keep (by omega) fun k hk2 hlt2 => ?_
              have ht : T1 k := by
                rw [HT1.out]
                rcases hk2 with h | h
                · exact .inl h
                · exact .inr (Nat.le_trans hsz2.out h)
              exact ⟨ho6 k (hTk k ht).1, ht⟩
            · obtain ⟨D, hp⟩ := HP1.out
              refine ⟨D, hp.keep (by have := hkn2.size; omega) fun k hk2 hlt2 => ?_⟩
              have ht : T1 k := by rw [HT1.out]; exact .inl hk2
              exact ⟨(ho6 k (hTk k ht).1).trans (hkn2.same k hlt2 (hTk k ht).2), ht⟩
          · rw [List.getElem?_set_ne (fun e => hj e.symm)] at hz
            obtain ⟨h1, h2⟩ := hN.out.2 j z hz
            refine ⟨fun h => h1 (by omega), fun h => ?_⟩
            obtain ⟨h3, h4, D, h5⟩ := h2 (by omega)
            have hkk : ∀ k, T1 k → k < wr.heap.size → W6.heap[k]? = wr.heap[k]? ∧ T1 k := fun k ht hlt2 => ⟨(ho6 k (hTk k ht).1).trans (hkn2.same k hlt2 (hTk k ht).2), ht⟩
            exact ⟨h3, h4.keep (by have := hkn2.size; omega) hkk, D, h5.keep (by have := hkn2.size; omega) hkk⟩
        have HM6 := Lib.hid hM6
        have HR6 := Lib.hid hrow6
        have HK6 := Lib.hid hk6
        have HE6 := Lib.hid hen6
        have HS6 := Lib.hid hsz6
        clear hkn hkn2 hnu hnu2 hlen2 u1 u2 u3 hW6 hs6 ho6 hrow6 hk6 hen6 hsz6 hTk hM6 hr5 z2 f2 hen5 x2 hpc
        go_wp2_with fail
        go_roundw
        case rel => exact ⟨q + 1, _, by omega, by go_num, HM6, HR6, HK6, HE6, HS6⟩
        case measure => simp [intOf]; omega
    · obtain rfl : q = n := by omega
      have hgl2 := hgl.out
      have hres : TsOn (fun k => T k ∨ w.heap.size ≤ k) (d + 1) wr (.slice (some ⟨g, 0, none⟩) q c') l := by
        refine ⟨_, c', by rw [HN.out], ⟨by have := HN.out; omega, by rw [← HN.out]; exact HNC.out⟩, fun j a ha => ?_⟩
        have hj : j < q := by rw [HN.out]; exact (List.getElem?_eq_some_iff.1 ha).1
        obtain ⟨x, hx⟩ : ∃ x, N[j]? = some x := ⟨N[j]'(by have := hN.out.1; omega), List.getElem?_eq_getElem _⟩
        obtain ⟨h1, h2, D, h3⟩ := (hN.out.2 j x hx).2 hj
        rw [ha] at h1
        cases h1
        have hlow : ∀ k, T1 k → k < wr.heap.size → wr.heap[k]? = wr.heap[k]? ∧ (T k ∨ w.heap.size ≤ k) := fun k hk2 _ => ⟨rfl, by
          rw [HT1.out] at hk2
          rcases hk2 with h | h
          · exact .inl h
          · exact .inr (Nat.le_trans HK2.out.size h)⟩
        exact ⟨g, 0, none, _, _, rfl, .inr HG.out, hrow.out.lt, by rw [add_from5]; exact hrow.out.tr hx, ⟨D, h3.keep (Nat.le_refl _) hlow⟩, h2.keep (Nat.le_refl _) hlow⟩
      have HRES := Lib.hid hres
      clear hres hN hrow hgl2
      go_wp2_with fail
      go_ret
      exact ⟨_, rfl, HRES.out, hk.out, hen.out⟩
end Go.Proofs.Ytdcgfhenlddmeaa
