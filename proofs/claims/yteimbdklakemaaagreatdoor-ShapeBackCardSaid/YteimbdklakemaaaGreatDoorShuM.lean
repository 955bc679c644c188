/-
  THE READER OF TREES: conjuncts, and the brackets around them.
-/
import Derived.Test.YteimbdklakemaaaGreatDoorShtM
import Derived.Test.YteimbdklakemaaaGreatDoorShdM
namespace Go.Proofs.YteimbdklakemaaaGreatDoor
open Go.RowKit Go.Sort
set_option maxHeartbeats 6400000

namespace Sh
/-- in the loop: out is read, m conjuncts, in the state s2 -/
def LoopRel (l : List Int) (p0 : Pd) (s1 : St) (out : List Pd) (m : Nat) (s2 : St) : Prop :=
  ∃ o : List Pd, o.length = m ∧ loop l 65 [p0] s1 = loop l (66 - m) o s2 ∧ (s2.e = 0 → o = out) ∧ (m = 65 → s2.e ≠ 0)
theorem loop_first {l : List Int} {p0 p : Pd} {s1 : St} (h : s1.e = 0 → p0 = p) : LoopRel l p0 s1 [p] 1 s1 :=
  ⟨[p0], rfl, rfl, fun he => by rw [h he], fun h => absurd h (by decide)⟩
theorem loop_on {l : List Int} {p0 p : Pd} {s1 s2 s4 s5 : St} {out : List Pd} {m : Nat} (h : LoopRel l p0 s1 out m s2) (hx : nx l s2 = 59) (hm : m ≤ 65) (h4 : s4 = if m = 64 then fail (on s2).i 2 (on s2) else on s2) (h5 : s5 = (pred l s4).2) (hp : s5.e = 0 → (pred l s4).1 = p) : LoopRel l p0 s1 (out ++ [p]) (m + 1) s5 := by
  obtain ⟨o, h1, h2, h3, h6⟩ := h
  obtain ⟨he, _⟩ := nx_eq hx (by decide)
  have hm5 : m ≠ 65 := fun g => h6 g he
  have hmo : more o (on s2) = s4 := by unfold more; rw [h1, h4]
  refine ⟨o ++ [(pred l s4).1], by simp [h1], ?_, ?_, ?_⟩
  · rw [h2, show 66 - m = (66 - (m + 1)) + 1 by omega, loop, if_pos hx, hmo, ← h5]
  · intro h0
    rw [hp h0, h3 he]
  · intro g h0
    rw [h5] at h0
    have := (pred_took h0).1
    rw [h4, if_pos (by omega)] at this
    exact fail_ne (by decide) this
theorem loop_end {l : List Int} {p0 : Pd} {s1 s2 : St} {out : List Pd} {m : Nat} (h : LoopRel l p0 s1 out m s2) (hx : nx l s2 ≠ 59) (hm : m ≤ 65) : (loop l 65 [p0] s1).2 = s2 ∧ (s2.e = 0 → (loop l 65 [p0] s1).1 = out) := by
  obtain ⟨o, h1, h2, h3, h6⟩ := h
  have e : loop l (66 - m) o s2 = (o, s2) := by rw [show 66 - m = (65 - m) + 1 by omega, loop, if_neg hx]
  rw [h2, e]
  exact ⟨rfl, h3⟩
end Sh
theorem SRd.grown12 {w0 w w' : World} {R b c n : Nat} {s : Sh.St} {row : Option Nat} (h : SRd w0 w R b c n s) (hg : w.grownBy w' row) (hr : ∀ g, row = some g → R < g) : SRd w0 w' R b c n s := by
  have key : ∀ k, k ≤ R → w'.heap[k]? = w.heap[k]? := fun k hk => hg.block k (by have := h.lt; omega) (by intro e; have := hr k e.symm; omega)
  exact ⟨(key R (Nat.le_refl _)).trans h.lies, h.base.trans ⟨hg.os, hg.tape, hg.output, hg.size, fun k hk => key k (Nat.le_of_lt hk)⟩⟩
set_option maxRecDepth 100000 in
theorem sconj_any {w0 : World} {R b c : Nat} {l : List Int} (hs : Src w0 R b c l) (s : Sh.St) (w : World) (h : SRd w0 w R b c l.length s) (hk : Sh.Ok l s) :
    Calls Tryz.prog 40 #[.pointer (some ⟨R, 0, none⟩)] w fun E w' => ∃ (A : Option Addr) (m kk : Nat) (ps : List Pd) (s' : Sh.St),
      E = .returned (.slice A m kk) ∧ Hid (s' = (Sh.conj l s).2) ∧ Hid (s'.e = 0 → (Sh.conj l s).1 = ps) ∧ Hid (PsIn w.heap.size 5 w' (.slice A m kk) ps) ∧ SRd w0 w' R b c l.length s' ∧ Gw R w w' := by
  obtain ⟨i0, hi0, hz0, hz1, hz2⟩ := info_parts Tryz.infoPred
  have hRw : R < w.heap.size := h.lt
  obtain ⟨sa, hsa⟩ : ∃ sa, sa = Sh.pass l 91 s := ⟨_, rfl⟩
  have hka : Sh.Ok l sa := by rw [hsa]; exact hk.pass (by decide)
  have ca := spass_any hs s 91 w h hk.1 sa hsa
  obtain ⟨s1, hs1⟩ : ∃ s1, s1 = (Sh.pred l sa).2 := ⟨_, rfl⟩
  obtain ⟨p0, hp0⟩ : ∃ p0, p0 = (Sh.pred l sa).1 := ⟨_, rfl⟩
  have hconj : Sh.conj l s = ((Sh.loop l 65 [p0] s1).1, Sh.pass l 93 (Sh.loop l 65 [p0] s1).2) := by rw [hp0, hs1, hsa]; rfl
  have hk1 : Sh.Ok l s1 := by rw [hs1]; exact hka.pred
  have Hs := Lib.hid hs
  have HC := Lib.hid hconj
  have HS1 := Lib.hid hs1
  have HP0 := Lib.hid hp0
  have HK := Lib.hid (And.intro hka hk1)
  clear h hs hk hsa hka hs1 hp0 hconj hk1
  go_enter_defers Tryz.func40, Tryz.ntmps40
  go_wp2_with (fail)
  refine ca.mono ?_
  rintro E wa ⟨rfl, ha, hga⟩
  have cp := spred_any Hs.out sa wa ha HK.out.1.1
  have hwa : w.heap.size ≤ wa.heap.size := hga.size
  have HGA := Lib.hid hga
  clear ca ha hga
  go_wp2_with (fail)
  refine cp.mono ?_
  rintro E w1 ⟨f, A, m, kk, ps, sx, rfl, hsx, hpx, hps, h1, hg1⟩
  obtain rfl : s1 = sx := by rw [HS1.out]; exact hsx.out.symm
  obtain ⟨o1, ho1⟩ : ∃ o1, o1 = Obj.cells #[.int .i64 f.k, .int .i64 f.u, .int .i64 f.o, .int .i64 f.a.k, .int .i64 f.a.t, .int .i64 f.a.c, .bool f.a.z, .int .i64 f.a.n, .int .i64 f.b.k, .int .i64 f.b.t, .int .i64 f.b.c, .bool f.b.z, .int .i64 f.b.n, .slice A m kk] 43 := ⟨_, rfl⟩
  have hgw1 := HGA.out.trans hg1
  have hown1 : (w1.alloc o1).ownsRow w.heap.size 43 14 (.slice (some ⟨w1.heap.size, 0, none⟩) 1 1) 1 (pdCells [(Pd.mk f ps, .slice A m kk)]) := by
    rw [ho1]
    have := World.ownsRow_lit (base := w.heap.size) (e := 43) (size := 14) w1 (f.cells (.slice A m kk)).toArray 1 hgw1.size (by unfold maxLen; omega) rfl
    have e2 : pdCells [(Pd.mk f ps, Value.slice A m kk)] = f.cells (.slice A m kk) := by simp [pdCells, Pd.f]
    rw [e2]
    exact this
  have h1a := h1.alloc o1
  have hg1a := hgw1.trans (Gw.of (R := R) (below_new w1 o1))
  have hby : Hid (∀ x ∈ [(Pd.mk f ps, Value.slice A m kk)], PsBy (Aside w.heap.size (.slice (some ⟨w1.heap.size, 0, none⟩) 1 1)) 4 (w1.alloc o1) x.2 x.1.ps) := Lib.hid (by
    intro x hx
    obtain rfl := List.mem_singleton.1 hx
    refine PsBy.imp (by simp) ?_ (PsBy.of_in hps.out)
    intro q hq hlt
    exact ⟨⟨Nat.le_trans hwa hq, by intro e; have e : q = w1.heap.size := Option.some.inj e; omega⟩, (Below.heap_alloc w1 o1 q hlt)⟩)
  have hLP := Lib.hid (Sh.loop_first (l := l) (p0 := p0) (p := Pd.mk f ps) (s1 := s1) (fun h => by rw [HP0.out]; exact hpx.out h))
  have HO1 := Lib.hid ho1
  have H1a := Lib.hid h1a
  have G1a := Lib.hid hg1a
  have HOW := Lib.hid hown1
  clear cp hsx hpx hps h1 hg1 ho1 hown1 h1a hg1a hgw1 HGA hwa
  go_upto_region 4 with (fail)
  rw [← HO1.out]
  go_loopw [3] (fun v wr => ∃ (L : List (Pd × Value)) (m : Nat) (s2 : Sh.St), 1 ≤ m ∧ m ≤ 65 ∧ Sh.Ok l s2 ∧ wr.ownsRow w.heap.size 43 14 v m (pdCells L) ∧ L.length = m ∧ SRd w0 wr R b c l.length s2 ∧ Gw R w wr ∧ Hid (∀ x ∈ L, PsBy (Aside w.heap.size v) 4 wr x.2 x.1.ps) ∧ Hid (Sh.LoopRel l p0 s1 (L.map Prod.fst) m s2)) (fun v _ => 70 - lenV v)
  case atStart => exact ⟨[(Pd.mk f ps, .slice A m kk)], 1, s1, by omega, by omega, HK.out.2, HOW.out, rfl, H1a.out, G1a.out, hby, hLP⟩
  case round =>
    obtain ⟨L, m5, s2, hm1, hm5, hk2, hown, hLm, hr, hg, hby2, hLP2⟩ := hrel
    clear H1a G1a HOW hby hLP HO1
    obtain ⟨g5, cap5, hv5, hg5⟩ := own_form hown hm1
    subst hv5
    have hlt5 := (hown.lt g5 rfl).2
    obtain ⟨B, hB⟩ : ∃ B, B = decide (Sh.nx l s2 = 59) := ⟨_, rfl⟩
    have Hown := Lib.hid hown
    have Hg := Lib.hid hg
    cases B
    · have hn : Sh.nx l s2 ≠ 59 := by simpa using hB.symm
      have cs := sskip_any Hs.out s2 59 wr hr hk2.1 false hB s2 (skip_off hn).symm
      have HE := Lib.hid (Sh.loop_end hLP2.out hn hm5)
      clear hB hn hr hown hg
      go_wp2_with (fail)
      refine cs.mono ?_
      rintro E w2 ⟨rfl, h2, hg2⟩
      have hown2 := own_gw Hown.out hg2 hRw
      have HIn : Hid (PsIn w.heap.size 5 w2 (.slice (some ⟨g5, 0, none⟩) m5 cap5) (L.map Prod.fst)) := Lib.hid (by
        refine PsIn.row (lo := w.heap.size) hown2 hLm (by omega) hg5 fun x hx => ?_
        refine PsBy.to_in (PsBy.imp hg2.size ?_ (hby2.out x hx))
        intro q hq hlt
        exact ⟨hq.1, hg2.block q hlt (by intro e; have e : q = R := Option.some.inj e; have := hq.1; omega)⟩)
      have HG := Lib.hid (Hg.out.trans hg2)
      obtain ⟨s9, hs9⟩ : ∃ s9, s9 = Sh.pass l 93 s2 := ⟨_, rfl⟩
      have cd := spass_def Hs.out s2 93 w2 h2 hk2.1 s9 .returning hs9
      have HS9 := Lib.hid hs9
      clear cs hown2 hg2 hs9 h2
      go_wp2_with (fail)
      refine leaves_cons (f := 38) (args := #[.pointer (some ⟨R, 0, none⟩), .int .i32 93]) (by simp) (by simp [go_sem]) ?_
      refine cd.mono ?_
      rintro E u' w3 ⟨rfl, rfl, h3, hg3⟩
      refine ⟨_, results_tmp rfl _ _ _, some ⟨g5, 0, none⟩, m5, cap5, L.map Prod.fst, s9, rfl, Lib.hid ?_, Lib.hid ?_, Lib.hid (HIn.out.gw hg3 hRw), h3, HG.out.trans hg3⟩
      · rw [HS9.out, HC.out, HE.out.1]
      · intro h0
        rw [HC.out]
        refine HE.out.2 ?_
        rw [HS9.out] at h0
        exact (Sh.pass_took (by decide) h0).1
    · have hn : Sh.nx l s2 = 59 := by simpa using hB.symm
      have cs := sskip_any Hs.out s2 59 wr hr hk2.1 true hB (Sh.on s2) (skip_on hn).symm
      obtain ⟨s4, hs4⟩ : ∃ s4, s4 = if m5 = 64 then Sh.fail (Sh.on s2).i 2 (Sh.on s2) else Sh.on s2 := ⟨_, rfl⟩
      have hk3 : Sh.Ok l (Sh.on s2) := hk2.on (Sh.nx_lt hn (by decide))
      have hk4 : Sh.Ok l s4 := by
        rw [hs4]; split
        · exact hk3.fail hk3.1 (by decide)
        · exact hk3
      have hm64 : m5 ≤ 64 := by
        obtain ⟨_, _, _, _, h6⟩ := hLP2.out
        have := (Sh.nx_eq hn (by decide)).1
        omega
      have HOK4 := Lib.hid hk4
      have more : ∀ (w2 : World), SRd w0 w2 R b c l.length s4 → Gw R wr w2 → ∀ (E : Ending) (w3 : World), GotS w0 R b c l w2 s4 E w3 →
          ∃ (f2 : Pf) (A2 : Option Addr) (n2 c2 : Nat), E = .returned (.agg #[.int .i64 f2.k, .int .i64 f2.u, .int .i64 f2.o, .int .i64 f2.a.k, .int .i64 f2.a.t, .int .i64 f2.a.c, .bool f2.a.z, .int .i64 f2.a.n, .int .i64 f2.b.k, .int .i64 f2.b.t, .int .i64 f2.b.c, .bool f2.b.z, .int .i64 f2.b.n, .slice A2 n2 c2]) ∧ w3.ownsRow w.heap.size 43 14 (.slice (some ⟨g5, 0, none⟩) m5 cap5) m5 (pdCells L) ∧ w.heap.size ≤ w3.heap.size ∧
            ∀ (v : Value) (wr : World), wr.ownsRow w.heap.size 43 14 v (m5 + 1) (pdCells L ++ f2.cells (.slice A2 n2 c2)) → (w3.alloc (.cells (f2.cells (.slice A2 n2 c2)).toArray 43)).grownBy wr (some g5) → (v.ownBlock = some g5 ∨ ∃ g, v.ownBlock = some g ∧ w3.heap.size + 1 ≤ g) →
              ∃ (L : List (Pd × Value)) (m : Nat) (s2 : Sh.St), 1 ≤ m ∧ m ≤ 65 ∧ Sh.Ok l s2 ∧ wr.ownsRow w.heap.size 43 14 v m (pdCells L) ∧ L.length = m ∧ SRd w0 wr R b c l.length s2 ∧ Gw R w wr ∧ Hid (∀ x ∈ L, PsBy (Aside w.heap.size v) 4 wr x.2 x.1.ps) ∧ Hid (Sh.LoopRel l p0 s1 (L.map Prod.fst) m s2) := by
        intro w2 hr2 hg2 E w3 hgot
        obtain ⟨f2, A2, n2, c2, ps2, s5, rfl, hst2, hpx2, hps2, hr3, hg3⟩ := hgot
        have hsz2 : w.heap.size ≤ w2.heap.size := Nat.le_trans Hg.out.size hg2.size
        have hsz3 : w.heap.size ≤ w3.heap.size := Nat.le_trans hsz2 hg3.size
        have hgw3 : Gw R wr w3 := hg2.trans hg3
        refine ⟨f2, A2, n2, c2, rfl, own_gw Hown.out hgw3 hRw, hsz3, ?_⟩
        intro v' w9 ho9 hgr9 hwh
        refine ⟨L ++ [(.mk f2 ps2, .slice A2 n2 c2)], m5 + 1, s5, by omega, by omega, by rw [hst2.out]; exact HOK4.out.pred, ?_, by simp [hLm], ?_, ?_, ?_, ?_⟩
        · have e3 : pdCells (L ++ [(Pd.mk f2 ps2, Value.slice A2 n2 c2)]) = pdCells L ++ f2.cells (.slice A2 n2 c2) := by simp [pdCells, Pd.f]
          rw [e3]; exact ho9
        · exact (hr3.alloc _).grown12 hgr9 (by intro g hg; cases hg; omega)
        · exact ((Hg.out.trans hgw3).trans (Gw.of (below_new _ _))).grown hgr9 (by intro g hg; cases hg; exact hg5)
        · refine Lib.hid fun x hx => ?_
          have keep9 : ∀ q, q < w3.heap.size → q ≠ g5 → w9.heap[q]? = w3.heap[q]? := fun q hq hne => (hgr9.block q (by rw [World.size_alloc]; omega) (by intro e; exact hne (Option.some.inj e))).trans (Below.heap_alloc w3 _ q hq)
          have away : ∀ q, q < w3.heap.size → q ≠ g5 → some q ≠ v'.ownBlock := by
            intro q hq hne e3
            rcases hwh with h | ⟨g, h, hge⟩
            · rw [h] at e3; exact hne (Option.some.inj e3)
            · rw [h] at e3
              have e4 : q = g := Option.some.inj e3
              omega
          have hsz9 : w3.heap.size ≤ w9.heap.size := Nat.le_trans (by rw [World.size_alloc]; omega) hgr9.size
          rcases List.mem_append.1 hx with hx | hx
          · refine PsBy.imp (Nat.le_trans hgw3.size hsz9) ?_ (hby2.out x hx)
            intro q hq hlt
            have hne : q ≠ g5 := fun e3 => hq.2 (by rw [e3]; rfl)
            have hqR : q ≠ R := by have := hq.1; omega
            have hlt3 : q < w3.heap.size := Nat.lt_of_lt_of_le hlt hgw3.size
            exact ⟨⟨hq.1, away q hlt3 hne⟩, (keep9 q hlt3 hne).trans (hgw3.block q hlt (by intro e; exact hqR (Option.some.inj e)))⟩
          · obtain rfl := List.mem_singleton.1 hx
            refine PsBy.imp hsz9 ?_ (PsBy.of_in hps2.out)
            intro q hq hlt
            have hne : q ≠ g5 := by have := hg2.size; omega
            exact ⟨⟨by omega, away q hlt hne⟩, keep9 q hlt hne⟩
        · refine Lib.hid ?_
          rw [List.map_append]
          exact Sh.loop_on hLP2.out hn hm5 hs4 hst2.out hpx2.out
      have HMore := Lib.hid more
      clear more hk2 hk3 hk4 hB hr hown hg hby2
      by_cases h4 : m5 = 64
      · subst h4
        have HS4 := Lib.hid (show s4 = Sh.fail (Sh.on s2).i 2 (Sh.on s2) by rw [hs4, if_pos rfl])
        clear hs4 hn hLP2
        go_wp2_with (fail)
        refine cs.mono ?_
        rintro E w2 ⟨rfl, h2, hg2⟩
        have x1 := h2.lies.cell (i := 1) rfl
        have cf := sfail_any (Sh.on s2) (Sh.on s2).i 2 w2 h2 s4 HS4.out
        clear cs h2
        go_wp2_with (fail)
        refine cf.mono ?_
        rintro E w3 ⟨rfl, h3, hg3⟩
        have cp3 := spred_any Hs.out s4 w3 h3 HOK4.out.1
        have HM3 := Lib.hid (HMore.out w3 h3 (hg2.trans hg3))
        clear cf x1 h3 hg2 hg3
        go_wp2_with (fail)
        refine cp3.mono ?_
        intro E w4 hgot
        have hm := HM3.out E w4 hgot
        clear hgot cp3 HM3
        obtain ⟨f2, A2, n2, c2, rfl, hown3, hsz3, hfin⟩ := hm
        have HF := Lib.hid hfin
        have hoa := Lib.hid (hown3.alloc (Obj.cells #[.int .i64 f2.k, .int .i64 f2.u, .int .i64 f2.o, .int .i64 f2.a.k, .int .i64 f2.a.t, .int .i64 f2.a.c, .bool f2.a.z, .int .i64 f2.a.n, .int .i64 f2.b.k, .int .i64 f2.b.t, .int .i64 f2.b.c, .bool f2.b.z, .int .i64 f2.b.n, .slice A2 n2 c2] 43))
        have hca := Lib.hid (show ∀ q u, (f2.cells (.slice A2 n2 c2))[q]? = some u → (w4.alloc (Obj.cells #[.int .i64 f2.k, .int .i64 f2.u, .int .i64 f2.o, .int .i64 f2.a.k, .int .i64 f2.a.t, .int .i64 f2.a.c, .bool f2.a.z, .int .i64 f2.a.n, .int .i64 f2.b.k, .int .i64 f2.b.t, .int .i64 f2.b.c, .bool f2.b.z, .int .i64 f2.b.n, .slice A2 n2 c2] 43)).cell? ((⟨w4.heap.size, 0, none⟩ : Addr).add q) = some u from fun q u hqu => by rw [add_here]; exact (Lies.new w4 _ (f2.cells (.slice A2 n2 c2))).cell hqu)
        have hsa := Lib.hid (show w.heap.size ≤ (w4.alloc (Obj.cells #[.int .i64 f2.k, .int .i64 f2.u, .int .i64 f2.o, .int .i64 f2.a.k, .int .i64 f2.a.t, .int .i64 f2.a.c, .bool f2.a.z, .int .i64 f2.a.n, .int .i64 f2.b.k, .int .i64 f2.b.t, .int .i64 f2.b.c, .bool f2.b.z, .int .i64 f2.b.n, .slice A2 n2 c2] 43)).heap.size by rw [World.size_alloc]; omega)
        clear hown3 hfin HMore
        go_wp2_with (first
          | (at_builtin; refine wpList_append_where _ rfl _ _ 23 rfl w.heap.size 43 i0 _ 14 128 Tryz.underlying23 hi0 hz0 hz1 hz2 rfl (by decide) _ 64 (pdCells L) rfl hoa.out ⟨w4.heap.size, 0, none⟩ 1 1 (f2.cells (.slice A2 n2 c2)) rfl rfl hca.out (cells_one _ _ _ _) (by unfold maxLen; omega) (by omega) hsa.out ?_))
        intro v' w9 hown9 hgrow hwh
        have hfin := HF.out v' w9 hown9 hgrow hwh
        have hlen := own_len hown9
        clear hown9 hgrow hwh hoa hca hsa HF
        go_wp2_with (fail)
        go_roundw
        case rel => exact hfin
        case measure =>
          show 70 - lenV v' < 70 - 64
          rw [hlen]
          omega
      · have e4 : decide ((m5 : Int) = 64) = false := by simp; omega
        have e5 : ((m5 : Int) == 64) = false := by simp; omega
        have HS4 := Lib.hid (show s4 = Sh.on s2 by rw [hs4, if_neg h4])
        clear hs4 hn hLP2
        go_wp2_with (fail)
        refine cs.mono ?_
        rintro E w2 ⟨rfl, h2, hg2⟩
        rw [← HS4.out] at h2
        have cp3 := spred_any Hs.out s4 w2 h2 HOK4.out.1
        have HM3 := Lib.hid (HMore.out w2 h2 hg2)
        clear cs h2 hg2
        go_wp2_with (fail)
        refine cp3.mono ?_
        intro E w4 hgot
        have hm := HM3.out E w4 hgot
        clear hgot cp3 HM3
        obtain ⟨f2, A2, n2, c2, rfl, hown3, hsz3, hfin⟩ := hm
        have HF := Lib.hid hfin
        have hoa := Lib.hid (hown3.alloc (Obj.cells #[.int .i64 f2.k, .int .i64 f2.u, .int .i64 f2.o, .int .i64 f2.a.k, .int .i64 f2.a.t, .int .i64 f2.a.c, .bool f2.a.z, .int .i64 f2.a.n, .int .i64 f2.b.k, .int .i64 f2.b.t, .int .i64 f2.b.c, .bool f2.b.z, .int .i64 f2.b.n, .slice A2 n2 c2] 43))
        have hca := Lib.hid (show ∀ q u, (f2.cells (.slice A2 n2 c2))[q]? = some u → (w4.alloc (Obj.cells #[.int .i64 f2.k, .int .i64 f2.u, .int .i64 f2.o, .int .i64 f2.a.k, .int .i64 f2.a.t, .int .i64 f2.a.c, .bool f2.a.z, .int .i64 f2.a.n, .int .i64 f2.b.k, .int .i64 f2.b.t, .int .i64 f2.b.c, .bool f2.b.z, .int .i64 f2.b.n, .slice A2 n2 c2] 43)).cell? ((⟨w4.heap.size, 0, none⟩ : Addr).add q) = some u from fun q u hqu => by rw [add_here]; exact (Lies.new w4 _ (f2.cells (.slice A2 n2 c2))).cell hqu)
        have hsa := Lib.hid (show w.heap.size ≤ (w4.alloc (Obj.cells #[.int .i64 f2.k, .int .i64 f2.u, .int .i64 f2.o, .int .i64 f2.a.k, .int .i64 f2.a.t, .int .i64 f2.a.c, .bool f2.a.z, .int .i64 f2.a.n, .int .i64 f2.b.k, .int .i64 f2.b.t, .int .i64 f2.b.c, .bool f2.b.z, .int .i64 f2.b.n, .slice A2 n2 c2] 43)).heap.size by rw [World.size_alloc]; omega)
        clear hown3 hfin HMore
        go_wp2_with (first
          | (at_builtin; refine wpList_append_where _ rfl _ _ 23 rfl w.heap.size 43 i0 _ 14 128 Tryz.underlying23 hi0 hz0 hz1 hz2 rfl (by decide) _ m5 (pdCells L) rfl hoa.out ⟨w4.heap.size, 0, none⟩ 1 1 (f2.cells (.slice A2 n2 c2)) rfl rfl hca.out (cells_one _ _ _ _) (by unfold maxLen; omega) (by omega) hsa.out ?_))
        intro v' w9 hown9 hgrow hwh
        have hfin := HF.out v' w9 hown9 hgrow hwh
        have hlen := own_len hown9
        clear hown9 hgrow hwh hoa hca hsa HF
        go_wp2_with (fail)
        go_roundw
        case rel => exact hfin
        case measure =>
          show 70 - lenV v' < 70 - m5
          rw [hlen]
          omega
end Go.Proofs.YteimbdklakemaaaGreatDoor
