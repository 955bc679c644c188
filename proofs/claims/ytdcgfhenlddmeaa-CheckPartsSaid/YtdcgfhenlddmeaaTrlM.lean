/-
  package tree: rows cloned, and each of them copied: Copy.
-/
import Derived.Test.YtdcgfhenlddmeaaTrpM
import Derived.Laws.AppendOwnNone
import Derived.Lib.BufferMore
namespace Go.Proofs.Ytdcgfhenlddmeaa
open Go.RowKit Go.Sort
set_option maxHeartbeats 3200000

set_option maxRecDepth 100000 in
theorem pclone_nil (c : Nat) (w : World) : Calls Try.prog 70 #[.slice none 0 c] w fun e w' => e = .returned (.slice none 0 0) ∧ w = w' := by
  have hnil := fun (W : World) => Lib.run_eql_slice_nil_nil (P := Try.prog) W 0 c Try.underlying24
  go_enter Try.func70, Try.ntmps70
  go_wp2_with (fail)
  go_ret
  exact ⟨rfl, rfl⟩
/-- a row in memory that is new, cell by cell the one that came -/
theorem pclone_some (b : Addr) (n c : Nat) (xs : List Value) (w : World) (hl : xs.length = n * 14) (hx : ∀ k u, xs[k]? = some u → w.cell? (b.add k) = some u) (h1 : ∀ u ∈ xs, u.oneCell' = true) (hn : n ≤ 1000000) :
    Calls Try.prog 70 #[.slice (some b) n c] w fun e w' => ∃ A c', e = .returned (.slice A n c') ∧ n ≤ c' ∧ Below w.heap.size w w' ∧ (n = 0 ∨ ∃ g, A = some ⟨g, 0, none⟩ ∧ w.heap.size ≤ g ∧ RowLies w' g 49 xs) := by
  obtain ⟨i0, hi, hz0, hz1, hz2⟩ := info_parts Try.infoPred
  have hsome := fun (W : World) => Lib.run_eql_slice_some_nil (P := Try.prog) W b n c Try.underlying24
  obtain ⟨W0, hW0⟩ : ∃ W0, W0 = w.alloc (Obj.cells #[] 49) := ⟨_, rfl⟩
  have hb0 : Below w.heap.size w W0 := by rw [hW0]; exact below_new _ _
  have hcell := Lib.hid (show ∀ k u, xs[k]? = some u → W0.cell? (b.add k) = some u from fun k u hk => (World.cell?_of_block (hb0.block _ (block_lt_of_cell (hx k u hk)))).trans (hx k u hk))
  have hown : Hid (W0.ownsRow w.heap.size 49 14 (.slice (some ⟨w.heap.size, 0, none⟩) 0 0) 0 []) := Lib.hid (by rw [hW0]; exact World.ownsRow_made w #[] 0 (Nat.le_refl _) (by decide) rfl)
  have HW := Lib.hid hW0
  have HL := Lib.hid hl
  have H1 := Lib.hid h1
  clear hW0 hx hl h1
  go_enter Try.func70, Try.ntmps70
  go_wp2_with (first
    | (at_builtin; rw [← HW.out]; refine wpList_append_own _ rfl _ _ 24 rfl w.heap.size 49 i0 (.agg #[.int .i64 0, .int .i64 0, .int .i64 0, .int .i64 0, .int .i64 0, .int .i64 0, .bool false, .int .i64 0, .int .i64 0, .int .i64 0, .int .i64 0, .bool false, .int .i64 0, .slice none 0 0]) 14 128 Try.underlying24 hi hz0 hz1 hz2 rfl (by decide) _ 0 [] rfl hown.out b n c xs rfl HL.out hcell.out H1.out (by unfold maxLen; omega) (by omega) hb0.size ?_))
  intro v' w' hown' hgrow _
  have hb2 : Below w.heap.size w w' := hb0.grown hgrow hb0.size (fun q hq => (hown.out.lt q hq).1)
  have hown2 : w'.ownsRow w.heap.size 49 14 v' n xs := by simpa using hown'
  have hres : ∃ A c', v' = .slice A n c' ∧ n ≤ c' ∧ (n = 0 ∨ ∃ g, A = some ⟨g, 0, none⟩ ∧ w.heap.size ≤ g ∧ RowLies w' g 49 xs) := by
    rcases id hown2.2 with ⟨hv, hn0⟩ | ⟨g, cap, cur, rfl, hbg, hg, hnc, _⟩
    · exact ⟨none, 0, by rw [hn0]; exact hv, by omega, .inl hn0⟩
    · obtain ⟨r1, r2, r3⟩ := RowLies.own hown2 HL.out
      exact ⟨_, cap, rfl, r3, .inr ⟨g, rfl, r2, r1⟩⟩
  obtain ⟨A, c', rfl, hnc, hor⟩ := hres
  have HR := Lib.hid hor
  have HB := Lib.hid hb2
  clear hown' hgrow hown hcell hown2 hor hb2
  go_wp2_with (fail)
  go_ret
  exact ⟨A, c', rfl, hnc, HB.out, HR.out⟩
set_option maxRecDepth 100000 in
theorem tclone_nil (c : Nat) (w : World) : Calls Try.prog 46 #[.slice none 0 c] w fun e w' => e = .returned (.slice none 0 0) ∧ w = w' := by
  have hnil := fun (W : World) => Lib.run_eql_slice_nil_nil (P := Try.prog) W 0 c Try.underlying23
  go_enter Try.func46, Try.ntmps46
  go_wp2_with (fail)
  go_ret
  exact ⟨rfl, rfl⟩
/-- a row in memory that is new, cell by cell the one that came -/
theorem tclone_some (b : Addr) (n c : Nat) (xs : List Value) (w : World) (hl : xs.length = n * 5) (hx : ∀ k u, xs[k]? = some u → w.cell? (b.add k) = some u) (h1 : ∀ u ∈ xs, u.oneCell' = true) (hn : n ≤ 1000000) :
    Calls Try.prog 46 #[.slice (some b) n c] w fun e w' => ∃ A c', e = .returned (.slice A n c') ∧ n ≤ c' ∧ Below w.heap.size w w' ∧ (n = 0 ∨ ∃ g, A = some ⟨g, 0, none⟩ ∧ w.heap.size ≤ g ∧ RowLies w' g 26 xs) := by
  obtain ⟨i0, hi, hz0, hz1, hz2⟩ := info_parts Try.infoTree
  have hsome := fun (W : World) => Lib.run_eql_slice_some_nil (P := Try.prog) W b n c Try.underlying23
  obtain ⟨W0, hW0⟩ : ∃ W0, W0 = w.alloc (Obj.cells #[] 26) := ⟨_, rfl⟩
  have hb0 : Below w.heap.size w W0 := by rw [hW0]; exact below_new _ _
  have hcell := Lib.hid (show ∀ k u, xs[k]? = some u → W0.cell? (b.add k) = some u from fun k u hk => (World.cell?_of_block (hb0.block _ (block_lt_of_cell (hx k u hk)))).trans (hx k u hk))
  have hown : Hid (W0.ownsRow w.heap.size 26 5 (.slice (some ⟨w.heap.size, 0, none⟩) 0 0) 0 []) := Lib.hid (by rw [hW0]; exact World.ownsRow_made w #[] 0 (Nat.le_refl _) (by decide) rfl)
  have HW := Lib.hid hW0
  have HL := Lib.hid hl
  have H1 := Lib.hid h1
  clear hW0 hx hl h1
  go_enter Try.func46, Try.ntmps46
  go_wp2_with (first
    | (at_builtin; rw [← HW.out]; refine wpList_append_own _ rfl _ _ 23 rfl w.heap.size 26 i0 (.agg #[.int .i64 0, .int .i64 0, .slice none 0 0, .slice none 0 0, .bool false]) 5 72 Try.underlying23 hi hz0 hz1 hz2 rfl (by decide) _ 0 [] rfl hown.out b n c xs rfl HL.out hcell.out H1.out (by unfold maxLen; omega) (by omega) hb0.size ?_))
  intro v' w' hown' hgrow _
  have hb2 : Below w.heap.size w w' := hb0.grown hgrow hb0.size (fun q hq => (hown.out.lt q hq).1)
  have hown2 : w'.ownsRow w.heap.size 26 5 v' n xs := by simpa using hown'
  have hres : ∃ A c', v' = .slice A n c' ∧ n ≤ c' ∧ (n = 0 ∨ ∃ g, A = some ⟨g, 0, none⟩ ∧ w.heap.size ≤ g ∧ RowLies w' g 26 xs) := by
    rcases id hown2.2 with ⟨hv, hn0⟩ | ⟨g, cap, cur, rfl, hbg, hg, hnc, _⟩
    · exact ⟨none, 0, by rw [hn0]; exact hv, by omega, .inl hn0⟩
    · obtain ⟨r1, r2, r3⟩ := RowLies.own hown2 HL.out
      exact ⟨_, cap, rfl, r3, .inr ⟨g, rfl, r2, r1⟩⟩
  obtain ⟨A, c', rfl, hnc, hor⟩ := hres
  have HR := Lib.hid hor
  have HB := Lib.hid hb2
  clear hown' hgrow hown hcell hown2 hor hb2
  go_wp2_with (fail)
  go_ret
  exact ⟨A, c', rfl, hnc, HB.out, HR.out⟩
/-- a row of trees of its own, from block lo on; what hangs from them lies behind it -/
def TsTop (lo d : Nat) (w : World) (v : Value) (l : List Tr) : Prop :=
  ∃ (M : List TrV) (A : Option Addr) (c : Nat), M.map (·.1) = l ∧ v = .slice A l.length c ∧ (l.length ≤ 9223372036854775807 ∧ l.length ≤ c) ∧
    (l = [] ∨ ∃ g e, d = e + 1 ∧ A = some ⟨g, 0, none⟩ ∧ lo ≤ g ∧ RowLies w g 26 (trCells M) ∧ ∀ (j : Nat) (x : TrV), M[j]? = some x → (∃ D, PsOn (fun k => g < k) D w x.2.2 x.1.cs) ∧ TsOn (fun k => g < k) e w x.2.1 x.1.ks)
theorem TsTop.nil (lo d : Nat) (w : World) (A : Option Addr) (c : Nat) : TsTop lo d w (.slice A 0 c) [] := ⟨[], A, c, rfl, rfl, by simp, .inl rfl⟩
theorem TsTop.on {lo d : Nat} {w : World} {v : Value} {l : List Tr} (h : TsTop lo d w v l) : TsOn (fun k => lo ≤ k) d w v l := by
  obtain ⟨M, A, c, hM, rfl, hl, h⟩ := h
  rcases h with rfl | ⟨g, e, rfl, rfl, hlo, hrow, hx⟩
  · exact TsOn.mono (d := 0) ⟨rfl, A, c, rfl⟩ (Nat.zero_le _)
  · refine ⟨_, c, rfl, hl, fun j a ha => ?_⟩
    rw [← hM, List.getElem?_map] at ha
    obtain ⟨x, hj, rfl⟩ := Option.map_eq_some_iff.1 ha
    obtain ⟨⟨D, h1⟩, h2⟩ := hx j x hj
    have hk : ∀ k, g < k → k < w.heap.size → w.heap[k]? = w.heap[k]? ∧ lo ≤ k := fun k hk _ => ⟨rfl, by omega⟩
    exact ⟨g, 0, none, _, _, rfl, hlo, hrow.lt, by rw [add_from5]; exact hrow.tr hj, ⟨D, h1.keep (Nat.le_refl _) hk⟩, h2.keep (Nat.le_refl _) hk⟩
theorem TsTop.keep {lo lo' d : Nat} {w w' : World} {v : Value} {l : List Tr} (h : TsTop lo d w v l) (hs : w.heap.size ≤ w'.heap.size) (hb : ∀ k, lo ≤ k → k < w.heap.size → w'.heap[k]? = w.heap[k]? ∧ lo' ≤ k) : TsTop lo' d w' v l := by
  obtain ⟨M, A, c, hM, rfl, hl, h⟩ := h
  refine ⟨M, A, c, hM, rfl, hl, ?_⟩
  rcases h with rfl | ⟨g, e, rfl, rfl, hlo, hrow, hx⟩
  · exact .inl rfl
  · obtain ⟨hg1, hg2⟩ := hb g hlo hrow.lt
    have hk : ∀ k, g < k → k < w.heap.size → w'.heap[k]? = w.heap[k]? ∧ g < k := fun k hk hlt => ⟨(hb k (by omega) hlt).1, hk⟩
    exact .inr ⟨g, e, rfl, rfl, hg2, hrow.block hg1, fun j x hj => ⟨(hx j x hj).1.elim fun D h => ⟨D, h.keep hs hk⟩, (hx j x hj).2.keep hs hk⟩⟩
/-- a block that is not the one of a row -/
def Apart (u : Value) (k : Nat) : Prop := ∀ g n c, u = .slice (some ⟨g, 0, none⟩) n c → 0 < n → k ≠ g
/-- a tree in memory that was not there; its row of kids lies apart from what its conjuncts are -/
def NewTr (d : Nat) (w : World) (a : Tr) (e : Ending) (w' : World) : Prop := ∃ u v, e = .returned (.agg #[.int .i64 a.k, .int .i64 a.t, u, v, .bool a.h]) ∧ TsTop w.heap.size d w' u a.ks ∧ (∃ D, PsOn (fun k => w.heap.size ≤ k ∧ Apart u k) D w' v a.cs) ∧ Below w.heap.size w w'
theorem TsTop.apart {lo d : Nat} {w : World} {v : Value} {l : List Tr} (h : TsTop lo d w v l) {k : Nat} (hk : w.heap.size ≤ k) : Apart v k := by
  obtain ⟨M, A, c, hM, rfl, hl, h⟩ := h
  intro g n c hv hn
  cases hv
  rcases h with rfl | ⟨g', e, rfl, hA, hlo, hrow, hx⟩
  · simp at hn
  · cases hA
    have := hrow.lt
    omega
end Go.Proofs.Ytdcgfhenlddmeaa
