/-
  DEFERRED CALLS: pass of the reader, WriteRune of a builder.
-/
import Derived.Test.YteimbdklakemaaaGreatDoorShrM
import Derived.Test.YteimbdklakemaaaGreatDoorShbM
import Derived.Defers
namespace Go.Proofs.YteimbdklakemaaaGreatDoor
open Go.RowKit Go.Sort
set_option linter.unusedVariables false
set_option maxHeartbeats 4000000
set_option maxRecDepth 100000 in
theorem spass_def {w0 : World} {R b c : Nat} {l : List Int} (hs : Src w0 R b c l) (s : Sh.St) (c0 : Int) (w : World) (h : SRd w0 w R b c l.length s) (hi : s.i ≤ l.length) (s' : Sh.St) (u : FrameMode) (hS : s' = Sh.pass l c0 s) :
    CallsD Tryz.prog 38 #[.pointer (some ⟨R, 0, none⟩), .int .i32 c0] u w fun E u' w' => u' = u ∧ (E = .returned (.tuple #[]) ∧ SRd w0 w' R b c l.length s' ∧ Gw R w w') := by
  obtain ⟨B, hB⟩ : ∃ B, B = decide (Sh.nx l s = c0) := ⟨_, rfl⟩
  obtain ⟨s1, hs1⟩ : ∃ s1, s1 = Sh.skip l c0 s := ⟨_, rfl⟩
  have cs := sskip_any hs s c0 w h hi B hB s1 hs1
  have hfin : (B = true → s' = s1) ∧ (B = false → s1 = s ∧ s' = Sh.fail s.i 1 s) := by
    unfold Sh.pass at hS
    unfold Sh.skip at hs1
    by_cases hx : Sh.nx l s = c0
    · rw [if_pos hx] at hS hs1
      have : B = true := by rw [hB]; simpa using hx
      exact ⟨fun _ => by rw [hS, hs1], fun h => by rw [this] at h; cases h⟩
    · rw [if_neg hx] at hS hs1
      have : B = false := by rw [hB]; simpa using hx
      exact ⟨fun h => absurd (this.symm.trans h) (by decide), fun _ => ⟨hs1, hS⟩⟩
  have HF := Lib.hid hfin
  clear hfin hB hs1 hS h hs
  cases B
  · obtain ⟨rfl, hS2⟩ := HF.out.2 rfl
    have HS2 := Lib.hid hS2
    clear hS2
    go_enter_d Tryz.func38, Tryz.ntmps38
    go_wp2_with (fail)
    refine cs.mono ?_
    rintro E w1 ⟨rfl, h1, hg1⟩
    have x1 := h1.lies.cell (i := 1) rfl
    have cf := sfail_any s1 s1.i 1 w1 h1 s' HS2.out
    clear cs h1
    go_wp2_with (fail)
    refine cf.mono ?_
    rintro E w2 ⟨rfl, h2, hg2⟩
    clear cf x1
    go_wp2_with (fail)
    go_end0
    exact ⟨rfl, h2, hg1.trans hg2⟩
  · obtain rfl := HF.out.1 rfl
    go_enter_d Tryz.func38, Tryz.ntmps38
    go_wp2_with (fail)
    refine cs.mono ?_
    rintro E w1 ⟨rfl, h1, hg1⟩
    clear cs
    go_wp2_with (fail)
    go_end0
    exact ⟨rfl, h1, hg1⟩
set_option maxRecDepth 100000 in
theorem brune_def (B b : Nat) (bs : List Value) (r : Int) (hr : (0 ≤ r ∧ r ≤ 127) ∨ (2048 ≤ r ∧ r < 55296)) (w : World) (u : FrameMode) (h : Bld B b bs w) (hlen : bs.length + 4 ≤ 140737488355328) (hBw : B ≤ w.heap.size) :
    CallsD Tryz.prog 25 #[.pointer (some ⟨b, 0, none⟩), .int .i32 r] u w fun e u' w' => u' = u ∧ (e = .returned (.tuple #[.int .i64 (rcells r).length, .nilIface]) ∧ (BldAt B b (.pointer (some ⟨b, 0, none⟩)) (bs ++ rcells r) w' ∧ Below B w w' ∧ Okp b w w')) := by
  have hk4 := rcells_le r
  have ck := fun w h => bcheck_any B b bs w h
  go_enter_d Tryz.func25, Tryz.ntmps25
  go_wp2_with (refine (ck _ h).mono ?_)
  rintro e w1 ⟨rfl, h1, hb1, hk1⟩
  obtain ⟨hB, v, hbk, hown, hne⟩ := h1
  obtain ⟨ao, cap, rfl⟩ : ∃ ao cap, v = .slice ao bs.length cap := by
    rcases hown.2 with ⟨hv, h0⟩ | ⟨g, cap, cur, fz, hv, _⟩
    · exact ⟨none, 0, by rw [hv, h0]⟩
    · exact ⟨_, _, hv⟩
  have c0 : w1.cell? ⟨b, 0, none⟩ = some (.pointer (some ⟨b, 0, none⟩)) := by rw [Lib.cell_of_heap hbk]; rfl
  have c1 : w1.cell? ⟨b, 1, none⟩ = some (.slice ao bs.length cap) := by rw [Lib.cell_of_heap hbk]; rfl
  have ca := bappend_any B _ bs.length bs r hr _ hown hlen (by have := hb1.size; omega)
  go_wp2_with (refine ca.mono ?_)
  rintro e w2 ⟨v', rfl, hown', o, hgrow⟩
  have hlt : b < w1.heap.size := by
    rcases Nat.lt_or_ge b w1.heap.size with h' | h'
    · exact h'
    · simp [Array.getElem?_eq_none h'] at hbk
  have hb2 : w2.heap[b]? = some (.cells #[.pointer (some ⟨b, 0, none⟩), .slice ao bs.length cap] 49 (0, 0)) := by
    rw [hgrow.block b (by simp; omega) (fun e => hne e.symm), Lib.alloc_old w1 _ b hlt]
    exact hbk
  have d0 : w2.cell? ⟨b, 0, none⟩ = some (.pointer (some ⟨b, 0, none⟩)) := by rw [Lib.cell_of_heap hb2]; rfl
  have d1 : w2.cell? ⟨b, 1, none⟩ = some (.slice ao bs.length cap) := by rw [Lib.cell_of_heap hb2]; rfl
  have f1 : w2.frozen? ⟨b, 1, none⟩ = false := Lib.frozen_of_heap hb2 1
  obtain ⟨g, cap', rfl⟩ : ∃ g cap', v' = .slice (some ⟨g, 0, none⟩) (bs.length + (rcells r).length) cap' := by
    rcases hown'.2 with ⟨_, h0⟩ | ⟨g, cap', cur, fz, hv, _⟩
    · omega
    · exact ⟨g, cap', hv⟩
  go_wp2
  go_ret2
  refine ⟨?_, ?_, ?_, ((hk1.alloc _).grown hgrow (Lib.ownsRowF_kind (hown.alloc _))).setCell ⟨b, 1, none⟩ rfl _⟩
  · have e : ((bs.length : Int) + ((rcells r).length : Int) - (bs.length : Int)) = ((rcells r).length : Int) := by omega
    simp [e]
  · exact Lib.BuilderAtF.put (T := 49) (e := 5) hB hb2 (bs' := bs ++ rcells r) (by simpa using hown') (by decide)
  · exact ((hb1.alloc (by have := hb1.size; omega) _).grown hgrow (by have := hb1.size; simp; omega) (fun k hk => (hown.lt k hk).1)).setCell (p := ⟨b, 1, none⟩) hB _
end Go.Proofs.YteimbdklakemaaaGreatDoor
