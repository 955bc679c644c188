/-
  LAID TOGETHER, BY PROGRAM, of: Predp, Predv, Predw, Predx, Camen, PsList.
-/
import Derived.Test.YtdcgfhenlddmeaaGPred
import Derived.Test.YtdcgfhenlddmeaaGTerms
import Derived.Test.YtdcgfhenlddmeaaGLogs
import Derived.Lib.AppendZeros
import Derived.Deep.Cut
/-
  WHAT THE CONTRACTS OF package pred SPEAK OF. THE CONTRACTS THEMSELVES (wip/pred-contracts.txt) COME HERE, proved of what lands.
-/
namespace Go.Proofs.Ytdcgfhenlddmeaa
open Go.RowKit Go.Sort
/-- pairs of numbers in memory -/
def Pairs (w : World) (v : Value) (l : List (Int × Int)) : Prop :=
  ∃ A c, v = .slice A l.length c ∧ l.length ≤ 1000000 ∧ ∀ (j : Nat) (x : Int × Int), l[j]? = some x → ∃ b o p, A = some ⟨b, o, p⟩ ∧ b < w.heap.size ∧ w.cell? ((⟨b, o, p⟩ : Addr).add (j * 2)) = some (.int .i64 x.1) ∧ w.cell? ⟨((⟨b, o, p⟩ : Addr).add (j * 2)).block, ((⟨b, o, p⟩ : Addr).add (j * 2)).off + 1, none⟩ = some (.int .i64 x.2)
def SomePairs (w : World) (l : List (Int × Int)) (e : Ending) (w' : World) : Prop := ∃ v, e = .returned v ∧ Pairs w' v l ∧ Below w.heap.size w w'
/-- a predicate in memory of its own -/
def SomePred (w : World) (f : Pf) (ps : List Pd) (e : Ending) (w' : World) : Prop := ∃ u d, e = .returned (.agg #[.int .i64 f.k, .int .i64 f.u, .int .i64 f.o, .int .i64 f.a.k, .int .i64 f.a.t, .int .i64 f.a.c, .bool f.a.z, .int .i64 f.a.n, .int .i64 f.b.k, .int .i64 f.b.t, .int .i64 f.b.c, .bool f.b.z, .int .i64 f.b.n, u]) ∧ PsAt d w' u ps ∧ Below w.heap.size w w'
end Go.Proofs.Ytdcgfhenlddmeaa

/-
  THE CONTRACT OF THE LIBRARY's Grow, of a nil slice: a row of one's own, of no element yet.
-/
namespace Go.Proofs.Ytdcgfhenlddmeaa
open Go.RowKit Go.Sort
set_option maxHeartbeats 3200000

theorem Try.infoPred : (Try.prog.info? 49).map (fun i => (i.zero, i.size, i.bytes)) = some (some (.agg #[.int .i64 0, .int .i64 0, .int .i64 0, .int .i64 0, .int .i64 0, .int .i64 0, .bool false, .int .i64 0, .int .i64 0, .int .i64 0, .int .i64 0, .bool false, .int .i64 0, .slice none 0 0]), 14, 128) := by kernel_rfl
theorem pgrowp_any (n : Nat) (w : World) (hn : n ≤ 1000000) :
    Calls Try.prog 78 #[.slice none 0 0, .int .i64 (n : Int)] w fun e w' => ∃ v, e = .returned v ∧ w'.ownsRow w.heap.size 49 14 v 0 [] ∧ Below w.heap.size w w' := by
  obtain ⟨i0, hi, hz0, hz1, hz2⟩ := info_parts Try.infoPred
  have h1 : ¬ ((n : Int) < 0) := by omega
  have h2 : wrap64 ((0 : Int) - (0 : Int)) = 0 := by unfold wrap64; omega
  have h3 : wrap64 ((n : Int) - 0) = (n : Int) := by unfold wrap64; omega
  by_cases h0 : 0 < n
  · have h4 : (n : Int) > 0 := by omega
    have hr := fun ty => Lib.run_append_nil_zeros (P := Try.prog) w 24 3 ty 49 i0 (.agg #[.int .i64 0, .int .i64 0, .int .i64 0, .int .i64 0, .int .i64 0, .int .i64 0, .bool false, .int .i64 0, .int .i64 0, .int .i64 0, .int .i64 0, .bool false, .int .i64 0, .slice none 0 0]) .i64 .i64 Try.underlying24 Try.underlying3 hi hz0 n h0 (by rw [hz1]; decide) (by omega) (by rw [hz2]; omega)
    obtain ⟨G, hG⟩ : ∃ G, G = grownCap w n 0 49 := ⟨_, rfl⟩
    have hG1 : G ≤ maxLen := by rw [hG]; exact grownCap_le_maxLen w n 0 _ (by unfold maxLen; omega)
    have hG2 : n ≤ G := by rw [hG]; exact grownCap_ge w _ _ _
    have hG3 : G ≤ 9223372036854775807 := by unfold maxLen at hG1; omega
    rw [← hG] at hr
    obtain ⟨cur, hcur⟩ : ∃ cur, cur = Builtin.zeroCells (.agg #[.int .i64 0, .int .i64 0, .int .i64 0, .int .i64 0, .int .i64 0, .int .i64 0, .bool false, .int .i64 0, .int .i64 0, .int .i64 0, .int .i64 0, .bool false, .int .i64 0, .slice none 0 0] : Value).cells n ++ Builtin.zeroCells (.agg #[.int .i64 0, .int .i64 0, .int .i64 0, .int .i64 0, .int .i64 0, .int .i64 0, .bool false, .int .i64 0, .int .i64 0, .int .i64 0, .int .i64 0, .bool false, .int .i64 0, .slice none 0 0] : Value).cells (G - n) := ⟨_, rfl⟩
    have hcs : cur.size = G * 14 := by
      rw [hcur, Array.size_append, size_zeroCells, size_zeroCells, show (.agg #[.int .i64 0, .int .i64 0, .int .i64 0, .int .i64 0, .int .i64 0, .int .i64 0, .bool false, .int .i64 0, .int .i64 0, .int .i64 0, .int .i64 0, .bool false, .int .i64 0, .slice none 0 0] : Value).cells.size = 14 from rfl]; omega
    rw [← hcur] at hr
    clear hcur hG
    have how := Lib.hid (World.ownsRow_made (base := w.heap.size) (size := 14) (e := 49) w.drew cur G (Nat.le_refl _) hG1 hcs)
    have hbw := Lib.hid (show Below w.heap.size w (w.drew.alloc (.cells cur 49)) from ((Below.refl _ w).drew).alloc (Nat.le_refl _) _)
    go_enter Try.func78, Try.ntmps78
    go_wp2_with (first | (at_builtin; refine Lib.wpList_append_run _ rfl _ _ _ _ rfl _ _ rfl rfl _ _ (hr _) ?_))
    go_ret
    exact ⟨_, rfl, how.out, hbw.out⟩
  · obtain rfl : n = 0 := by omega
    go_enter Try.func78, Try.ntmps78
    go_wp2_with fail
    go_ret
    exact ⟨_, rfl, World.ownsRow_nil _ _ _ _, Below.refl _ _⟩
end Go.Proofs.Ytdcgfhenlddmeaa

/-
  THE CONTRACTS OF package pred's Of AND All: the closure over the parts; each part's truth in a row; whole.
-/
namespace Go.Proofs.Ytdcgfhenlddmeaa
open Go.RowKit Go.Sort
set_option maxHeartbeats 3200000

theorem Rws.form {w : World} {v : Value} {rs : List (List Vl)} (h : Rws w v rs) : ∃ A c, v = .slice A rs.length c := by
  obtain ⟨A, c, hv, _⟩ := h.at_
  exact ⟨A, c, hv⟩
theorem Lo.andI_sure {t : Int} (h : (t == 0 || t == 1 || t == 2) = true) : Lo.andI [t] = t := by
  have : t = 0 ∨ t = 1 ∨ t = 2 := by simpa [or_assoc] using h
  rcases this with rfl | rfl | rfl <;> decide
theorem Lo.andI_none {t : Int} (h : (t == 0 || t == 1 || t == 2) = false) : Lo.andI [t] = 1 := by
  have : t ≠ 0 ∧ t ≠ 2 := by simp at h; omega
  exact Lo.andI_one (by simp; omega) (by simp; omega)
end Go.Proofs.Ytdcgfhenlddmeaa

/-
  THE CONTRACT OF package pred's Copy: predicates in memory that is new.
-/
namespace Go.Proofs.Ytdcgfhenlddmeaa
open Go.RowKit Go.Sort
set_option maxHeartbeats 3200000

/-- as PsAt, in blocks from lo on -/
def PsIn (lo : Nat) : Nat → World → Value → List Pd → Prop
  | 0, _, v, l => l = [] ∧ ∃ A c, v = .slice A 0 c
  | d + 1, w, v, l => ∃ A c, v = .slice A l.length c ∧ l.length ≤ 9223372036854775807 ∧ ∀ (j : Nat) (p : Pd), l[j]? = some p → ∃ b o s u, A = some ⟨b, o, s⟩ ∧ lo ≤ b ∧ b < w.heap.size ∧ PdCell w ((⟨b, o, s⟩ : Addr).add (j * 14)) p.f u ∧ PsIn lo d w u p.ps
theorem PsIn.at_ {lo d : Nat} : ∀ {w : World} {v : Value} {l : List Pd}, PsIn lo d w v l → PsAt d w v l := by
  induction d with
  | zero => intro w v l h; exact h
  | succ d ih =>
    intro w v l h
    obtain ⟨A, c, hv, hc, hx⟩ := h
    refine ⟨A, c, hv, hc, fun j p hj => ?_⟩
    obtain ⟨b, o, s, u, hA, _, hlt, hcell, hp⟩ := hx j p hj
    exact ⟨b, o, s, u, hA, hlt, hcell, ih hp⟩
theorem PsIn.form {lo d : Nat} {w : World} {v : Value} {l : List Pd} (h : PsIn lo d w v l) : ∃ A c, v = .slice A l.length c := by
  obtain ⟨A, c, hv, _⟩ := h.at_.form
  exact ⟨A, c, hv⟩
theorem PdCell.block {w w' : World} {X : Addr} {f : Pf} {u : Value} (h : PdCell w X f u) (hb : w'.heap[X.block]? = w.heap[X.block]?) : PdCell w' X f u :=
  have k : ∀ n, w'.cell? ⟨X.block, n, none⟩ = w.cell? ⟨X.block, n, none⟩ := fun n => World.cell?_of_block (a := ⟨X.block, n, none⟩) hb
  ⟨(World.cell?_of_block hb).trans h.c0, (k _).trans h.c1, (k _).trans h.c2, (k _).trans h.c3, (k _).trans h.c4, (k _).trans h.c5, (k _).trans h.c6, (k _).trans h.c7, (k _).trans h.c8, (k _).trans h.c9, (k _).trans h.c10, (k _).trans h.c11, (k _).trans h.c12, (k _).trans h.c13⟩
/-- kept, where each block from lo on that was there lies as it lay -/
theorem PsIn.keep {lo d : Nat} {w w' : World} (hs : w.heap.size ≤ w'.heap.size) (hb : ∀ k, lo ≤ k → k < w.heap.size → w'.heap[k]? = w.heap[k]?) : ∀ {v : Value} {l : List Pd}, PsIn lo d w v l → PsIn lo d w' v l := by
  induction d with
  | zero => intro v l h; exact h
  | succ d ih =>
    intro v l h
    obtain ⟨A, c, hv, hc, hx⟩ := h
    refine ⟨A, c, hv, hc, fun j p hj => ?_⟩
    obtain ⟨b, o, s, u, hA, hlo, hlt, hcell, hp⟩ := hx j p hj
    exact ⟨b, o, s, u, hA, hlo, Nat.lt_of_lt_of_le hlt hs, hcell.block (by rw [add_block]; exact hb b hlo hlt), ih hp⟩
theorem PsIn.low {lo lo' d : Nat} {w : World} (hl : lo' ≤ lo) : ∀ {v : Value} {l : List Pd}, PsIn lo d w v l → PsIn lo' d w v l := by
  induction d with
  | zero => intro v l h; exact h
  | succ d ih =>
    intro v l h
    obtain ⟨A, c, hv, hc, hx⟩ := h
    refine ⟨A, c, hv, hc, fun j p hj => ?_⟩
    obtain ⟨b, o, s, u, hA, hlo, hlt, hcell, hp⟩ := hx j p hj
    exact ⟨b, o, s, u, hA, Nat.le_trans hl hlo, hlt, hcell, ih hp⟩
theorem PsIn.more {lo d : Nat} : ∀ {w : World} {v : Value} {l : List Pd}, PsIn lo d w v l → PsIn lo (d + 1) w v l := by
  induction d with
  | zero =>
    intro w v l h
    obtain ⟨rfl, A, c, rfl⟩ := h
    exact ⟨A, c, rfl, by simp, fun j p hj => by simp at hj⟩
  | succ d ih =>
    intro w v l h
    obtain ⟨A, c, hv, hc, hx⟩ := h
    refine ⟨A, c, hv, hc, fun j p hj => ?_⟩
    obtain ⟨b, o, s, u, hA, hlo, hlt, hcell, hp⟩ := hx j p hj
    exact ⟨b, o, s, u, hA, hlo, hlt, hcell, ih hp⟩
theorem PsIn.mono {lo d e : Nat} {w : World} {v : Value} {l : List Pd} (h : PsIn lo d w v l) (hd : d ≤ e) : PsIn lo e w v l := by
  induction hd with
  | refl => exact h
  | step _ ih => exact ih.more
theorem PsIn.below {lo d : Nat} {w w' : World} {v : Value} {l : List Pd} (h : PsIn lo d w v l) (hb : Below w.heap.size w w') : PsIn lo d w' v l := h.keep hb.size fun k _ hk => hb.block k hk
theorem PsIn.setCell {lo d : Nat} {w : World} {v : Value} {l : List Pd} (h : PsIn lo d w v l) {a : Addr} (ha : a.block < lo) (u : Value) : PsIn lo d (w.setCell a u) v l :=
  h.keep (by simp [World.setCell]) fun k h1 hk => Below.heap_setCell _ _ _ _ (by omega)
theorem PsIn.grown {lo d g : Nat} {w w' : World} {v : Value} {l : List Pd} (h : PsIn lo d w v l) (hg : w.grownBy w' (some g)) (hlo : g < lo) : PsIn lo d w' v l :=
  h.keep hg.size fun k h1 hk => hg.block k hk (by intro e; cases e; omega)
/-- the cells of predicates, in a row -/
def pdCells (L : List (Pd × Value)) : List Value := L.flatMap fun x => x.1.f.cells x.2
theorem cells_len (f : Pf) (u : Value) : (f.cells u).length = 14 := rfl
theorem pdCells_at : ∀ (L : List (Pd × Value)) (j i : Nat) (x : Pd × Value), L[j]? = some x → i < 14 → (pdCells L)[j * 14 + i]? = (x.1.f.cells x.2)[i]? := by
  intro L
  induction L with
  | nil => intro j i x h; simp at h
  | cons y r ih =>
    intro j i x h hi
    have e : pdCells (y :: r) = y.1.f.cells y.2 ++ pdCells r := rfl
    rw [e]
    cases j with
    | zero =>
      simp at h; subst h
      rw [List.getElem?_append_left (by rw [cells_len]; omega)]
      congr 1; omega
    | succ j =>
      rw [List.getElem?_append_right (by rw [cells_len]; omega), cells_len, show (j + 1) * 14 + i - 14 = j * 14 + i by omega]
      exact ih j i x (by simpa using h) hi
theorem add_here (g k : Nat) : (⟨g, 0, none⟩ : Addr).add k = ⟨g, k, none⟩ := by
  unfold Addr.add
  split
  · next h => subst h; rfl
  · simp
/-- a row of predicates of one's own, read as predicates -/
theorem PsIn.row {lo d base g n cap : Nat} {w : World} {L : List (Pd × Value)} (ho : w.ownsRow base 49 14 (.slice (some ⟨g, 0, none⟩) n cap) n (pdCells L)) (hn : L.length = n) (hnl : n ≤ 9223372036854775807) (hg : lo ≤ g) (hx : ∀ x ∈ L, PsIn lo d w x.2 x.1.ps) :
    PsIn lo (d + 1) w (.slice (some ⟨g, 0, none⟩) n cap) (L.map Prod.fst) := by
  refine ⟨_, cap, by rw [List.length_map, hn], by rw [List.length_map]; omega, fun j p hj => ?_⟩
  rw [List.getElem?_map] at hj
  obtain ⟨x, hx1, rfl⟩ : ∃ x, L[j]? = some x ∧ x.1 = p := by
    cases h : L[j]? with
    | none => rw [h] at hj; cases hj
    | some x => rw [h] at hj; exact ⟨x, rfl, by simpa using hj⟩
  refine ⟨g, 0, none, x.2, rfl, hg, (ho.lt g rfl).2, ?_, hx x (List.mem_of_getElem? hx1)⟩
  have hc := ho.cells (g := g) rfl
  have k : ∀ i u, i < 14 → (x.1.f.cells x.2)[i]? = some u → w.cell? ⟨g, j * 14 + i, none⟩ = some u := fun i u hi hu => by
    have := hc (j * 14 + i) u ((pdCells_at L j i x hx1 hi).trans hu)
    rwa [add_here] at this
  rw [add_here]
  exact ⟨k 0 _ (by decide) rfl, k 1 _ (by decide) rfl, k 2 _ (by decide) rfl, k 3 _ (by decide) rfl, k 4 _ (by decide) rfl, k 5 _ (by decide) rfl, k 6 _ (by decide) rfl, k 7 _ (by decide) rfl, k 8 _ (by decide) rfl, k 9 _ (by decide) rfl, k 10 _ (by decide) rfl, k 11 _ (by decide) rfl, k 12 _ (by decide) rfl, k 13 _ (by decide) rfl⟩
theorem cells_one (f : Pf) (A : Option Addr) (n c : Nat) : ∀ u ∈ f.cells (.slice A n c), u.oneCell' = true := by
  intro u hu
  simp only [Pf.cells, List.mem_cons, List.not_mem_nil, or_false] at hu
  rcases hu with rfl | rfl | rfl | rfl | rfl | rfl | rfl | rfl | rfl | rfl | rfl | rfl | rfl | rfl <;> rfl
/-- a predicate in memory that was not there -/
def NewPred (d : Nat) (w : World) (f : Pf) (ps : List Pd) (e : Ending) (w' : World) : Prop := ∃ u, e = .returned (.agg #[.int .i64 f.k, .int .i64 f.u, .int .i64 f.o, .int .i64 f.a.k, .int .i64 f.a.t, .int .i64 f.a.c, .bool f.a.z, .int .i64 f.a.n, .int .i64 f.b.k, .int .i64 f.b.t, .int .i64 f.b.c, .bool f.b.z, .int .i64 f.b.n, u]) ∧ PsIn w.heap.size d w' u ps ∧ Below w.heap.size w w'
theorem pgrowp_nil (w : World) :
    Calls Try.prog 78 #[.slice none 0 0, .int .i64 (0 : Nat)] w fun e w' => e = .returned (.slice none 0 0) ∧ w = w' := by
  have h2 : wrap64 ((0 : Int) - (0 : Int)) = 0 := by unfold wrap64; omega
  go_enter Try.func78, Try.ntmps78
  go_wp2_with fail
  go_ret
  exact ⟨rfl, rfl⟩
theorem pgrowp_cap (n : Nat) (w : World) (hn : n ≤ 1000000) (h0 : 0 < n) :
    Calls Try.prog 78 #[.slice none 0 0, .int .i64 (n : Int)] w fun e w' => ∃ G, e = .returned (.slice (some ⟨w.heap.size, 0, none⟩) 0 G) ∧ n ≤ G ∧ w'.ownsRow w.heap.size 49 14 (.slice (some ⟨w.heap.size, 0, none⟩) 0 G) 0 (pdCells []) ∧ Below w.heap.size w w' ∧ w.heap.size < w'.heap.size := by
  obtain ⟨i0, hi, hz0, hz1, hz2⟩ := info_parts Try.infoPred
  have h1 : ¬ ((n : Int) < 0) := by omega
  have h2 : wrap64 ((0 : Int) - (0 : Int)) = 0 := by unfold wrap64; omega
  have h3 : wrap64 ((n : Int) - 0) = (n : Int) := by unfold wrap64; omega
  have h4 : (n : Int) > 0 := by omega
  have hr := fun ty => Lib.run_append_nil_zeros (P := Try.prog) w 24 3 ty 49 i0 (.agg #[.int .i64 0, .int .i64 0, .int .i64 0, .int .i64 0, .int .i64 0, .int .i64 0, .bool false, .int .i64 0, .int .i64 0, .int .i64 0, .int .i64 0, .bool false, .int .i64 0, .slice none 0 0]) .i64 .i64 Try.underlying24 Try.underlying3 hi hz0 n h0 (by rw [hz1]; decide) (by omega) (by rw [hz2]; omega)
  obtain ⟨G, hG⟩ : ∃ G, G = grownCap w n 0 49 := ⟨_, rfl⟩
  have hG1 : G ≤ maxLen := by rw [hG]; exact grownCap_le_maxLen w n 0 _ (by unfold maxLen; omega)
  have hG2 : n ≤ G := by rw [hG]; exact grownCap_ge w _ _ _
  have hG3 : G ≤ 9223372036854775807 := by unfold maxLen at hG1; omega
  rw [← hG] at hr
  obtain ⟨cur, hcur⟩ : ∃ cur, cur = Builtin.zeroCells (.agg #[.int .i64 0, .int .i64 0, .int .i64 0, .int .i64 0, .int .i64 0, .int .i64 0, .bool false, .int .i64 0, .int .i64 0, .int .i64 0, .int .i64 0, .bool false, .int .i64 0, .slice none 0 0] : Value).cells n ++ Builtin.zeroCells (.agg #[.int .i64 0, .int .i64 0, .int .i64 0, .int .i64 0, .int .i64 0, .int .i64 0, .bool false, .int .i64 0, .int .i64 0, .int .i64 0, .int .i64 0, .bool false, .int .i64 0, .slice none 0 0] : Value).cells (G - n) := ⟨_, rfl⟩
  have hcs : cur.size = G * 14 := by
    rw [hcur, Array.size_append, size_zeroCells, size_zeroCells, show (.agg #[.int .i64 0, .int .i64 0, .int .i64 0, .int .i64 0, .int .i64 0, .int .i64 0, .bool false, .int .i64 0, .int .i64 0, .int .i64 0, .int .i64 0, .bool false, .int .i64 0, .slice none 0 0] : Value).cells.size = 14 from rfl]; omega
  rw [← hcur] at hr
  clear hcur hG
  have how := Lib.hid (World.ownsRow_made (base := w.heap.size) (size := 14) (e := 49) w.drew cur G (Nat.le_refl _) hG1 hcs)
  have hbw := Lib.hid (show Below w.heap.size w (w.drew.alloc (.cells cur 49)) from ((Below.refl _ w).drew).alloc (Nat.le_refl _) _)
  have hlt := Lib.hid (show w.heap.size < (w.drew.alloc (.cells cur 49)).heap.size by rw [World.size_alloc]; exact Nat.lt_succ_self _)
  go_enter Try.func78, Try.ntmps78
  go_wp2_with (first | (at_builtin; refine Lib.wpList_append_run _ rfl _ _ _ _ rfl _ _ rfl rfl _ _ (hr _) ?_))
  go_ret
  exact ⟨G, rfl, hG2, how.out, hbw.out, hlt.out⟩
set_option maxRecDepth 100000 in
theorem peachp_of (d : Nat) (ih : ∀ e, e < d → ∀ (f : Pf) (u : Value) (ps : List Pd) (w : World), PsAt e w u ps → Pr.sizes ps ≤ 1000 → Calls Try.prog 59 #[.agg #[.int .i64 f.k, .int .i64 f.u, .int .i64 f.o, .int .i64 f.a.k, .int .i64 f.a.t, .int .i64 f.a.c, .bool f.a.z, .int .i64 f.a.n, .int .i64 f.b.k, .int .i64 f.b.t, .int .i64 f.b.c, .bool f.b.z, .int .i64 f.b.n, u]] w (NewPred e w f ps)) (u : Value) (ps : List Pd) (w : World) (hu : PsAt d w u ps) (hsz : Pr.sizes ps ≤ 1000) :
    Calls Try.prog 71 #[u, .func (.func 59) #[] #[]] w fun e w' => ∃ r, e = .returned r ∧ PsIn w.heap.size d w' r ps ∧ Below w.heap.size w w' := by
  obtain ⟨A, c, rfl, hl⟩ := hu.form
  by_cases hn0 : ps.length = 0
  · have hps : ps = [] := List.eq_nil_of_length_eq_zero hn0
    rw [hn0, hps]
    have cg := pgrowp_nil w
    clear hu ih hsz
    go_enter Try.func71, Try.ntmps71
    go_wp2_with fail
    refine cg.mono ?_
    rintro e w1 ⟨rfl, rfl⟩
    go_wp2_with fail
    go_loopw [5, 13] (fun s i wr => i = .int .i64 0 ∧ s = .slice none 0 0 ∧ w = wr) (fun _ i _ => 0)
    case atStart => exact ⟨rfl, rfl, rfl⟩
    case round =>
      obtain ⟨rfl, rfl, rfl⟩ := hrel
      go_wp2_with fail
      go_ret
      exact ⟨_, rfl, PsIn.mono (d := 0) ⟨rfl, none, 0, rfl⟩ (Nat.zero_le _), Below.refl _ _⟩
  obtain ⟨d', rfl⟩ : ∃ d', d = d' + 1 := by
    cases d with
    | zero => obtain ⟨h, _⟩ := hu; rw [h] at hn0; exact absurd rfl hn0
    | succ d => exact ⟨d, rfl⟩
  obtain ⟨i0, hi, hz0, hz1, hz2⟩ := info_parts Try.infoPred
  have HU := Lib.hid hu
  have IH := Lib.hid ih
  have HZ := Lib.hid hsz
  have hn1 := Pr.sizes_length ps
  obtain ⟨n, hn⟩ : ∃ n, n = ps.length := ⟨_, rfl⟩
  rw [← hn] at hl HU hn1 hn0 ⊢
  have hn2 : n ≤ 1000 := by omega
  have HN := Lib.hid hn
  have cg := pgrowp_cap n w (by omega) (by omega)
  clear hu ih hsz hn1 hn hn0
  go_enter Try.func71, Try.ntmps71
  go_wp2_with fail
  refine cg.mono ?_
  rintro e w1 ⟨G, rfl, hG, hown1, hb1, hlt1⟩
  have HO := Lib.hid hown1
  clear cg hown1
  go_wp2_with fail
  go_loopw [5, 13] (fun s i wr => ∃ (q : Nat) (L : List (Pd × Value)), q ≤ n ∧ i = .int .i64 q ∧ s = .slice (some ⟨w.heap.size, 0, none⟩) q G ∧ Hid (L.map Prod.fst = ps.take q) ∧ wr.ownsRow w.heap.size 49 14 (.slice (some ⟨w.heap.size, 0, none⟩) q G) q (pdCells L) ∧ Hid (∀ x ∈ L, PsIn (w.heap.size + 1) d' wr x.2 x.1.ps) ∧ Below w.heap.size w wr) (fun _ i _ => n - (intOf i).toNat)
  case atStart => exact ⟨0, [], Nat.zero_le _, rfl, rfl, Lib.hid (by simp), HO.out, Lib.hid (fun x h => by simp at h), hb1⟩
  case round =>
    obtain ⟨q, L, hq, rfl, rfl, hL, hown, hin, hb⟩ := hrel
    by_cases hlt : q < n
    · obtain ⟨p, gp⟩ : ∃ p, ps[q]? = some p := ⟨ps[q]'(by have := HN.out; omega), List.getElem?_eq_getElem _⟩
      have hu := HU.out
      rw [HN.out] at hu
      obtain ⟨e, b', o, s, v', he, rfl, _, hx⟩ := hu.at_ gp
      obtain ⟨hcell, hps⟩ := hx wr hb
      obtain ⟨A2, c2, rfl, _⟩ := hps.form
      have hb3 : Below w.heap.size w (wr.alloc (Obj.cells #[.int .i64 p.f.k, .int .i64 p.f.u, .int .i64 p.f.o, .int .i64 p.f.a.k, .int .i64 p.f.a.t, .int .i64 p.f.a.c, .bool p.f.a.z, .int .i64 p.f.a.n, .int .i64 p.f.b.k, .int .i64 p.f.b.t, .int .i64 p.f.b.c, .bool p.f.b.z, .int .i64 p.f.b.n, .slice A2 p.ps.length c2] 49)) := below_join hb (below_new _ _)
      have hown2 : (wr.alloc (Obj.cells #[.int .i64 p.f.k, .int .i64 p.f.u, .int .i64 p.f.o, .int .i64 p.f.a.k, .int .i64 p.f.a.t, .int .i64 p.f.a.c, .bool p.f.a.z, .int .i64 p.f.a.n, .int .i64 p.f.b.k, .int .i64 p.f.b.t, .int .i64 p.f.b.c, .bool p.f.b.z, .int .i64 p.f.b.n, .slice A2 p.ps.length c2] 49)).ownsRow _ _ _ _ _ _ := hown.alloc _
      have hgw : w.heap.size < wr.heap.size := (hown.lt _ rfl).2
      have hgw2 : w.heap.size < (wr.alloc (Obj.cells #[.int .i64 p.f.k, .int .i64 p.f.u, .int .i64 p.f.o, .int .i64 p.f.a.k, .int .i64 p.f.a.t, .int .i64 p.f.a.c, .bool p.f.a.z, .int .i64 p.f.a.n, .int .i64 p.f.b.k, .int .i64 p.f.b.t, .int .i64 p.f.b.c, .bool p.f.b.z, .int .i64 p.f.b.n, .slice A2 p.ps.length c2] 49)).heap.size := by rw [World.size_alloc]; omega
      have hin2 : Hid (∀ x ∈ L, PsIn (w.heap.size + 1) d' (wr.alloc (Obj.cells #[.int .i64 p.f.k, .int .i64 p.f.u, .int .i64 p.f.o, .int .i64 p.f.a.k, .int .i64 p.f.a.t, .int .i64 p.f.a.c, .bool p.f.a.z, .int .i64 p.f.a.n, .int .i64 p.f.b.k, .int .i64 p.f.b.t, .int .i64 p.f.b.c, .bool p.f.b.z, .int .i64 p.f.b.n, .slice A2 p.ps.length c2] 49)) x.2 x.1.ps) := Lib.hid fun x h => (hin.out x h).below (below_new _ _)
      have cs := IH.out e (by omega) p.f _ p.ps _ ((hx _ hb3).2) (by have := Pr.sizes_down gp; have := HZ.out; omega)
      have HT := Lib.hid (show ps.take (q + 1) = ps.take q ++ [p] by rw [List.take_add_one, gp]; rfl)
      have HE := Lib.hid he
      obtain ⟨x0, x1, x2, x3, x4, x5, x6, x7, x8, x9, x10, x11, x12, x13⟩ := hcell
      clear gp hx hps hu hown hin he
      go_wp2_with fail
      refine cs.mono ?_
      rintro e2 w2 ⟨u2, rfl, hnew, hb2⟩
      have hb' := below_join hb3 hb2
      have hown3 := own_kept hown2 hb2
      have hin3 : Hid (∀ x ∈ L, PsIn (w.heap.size + 1) d' w2 x.2 x.1.ps) := Lib.hid fun x h => (hin2.out x h).below hb2
      obtain ⟨B2, k2, rfl⟩ := hnew.form
      have hnew2 := Lib.hid ((hnew.low (show w.heap.size + 1 ≤ _ from hgw2)).mono (show e ≤ d' by have := HE.out; omega))
      have hgw3 : w.heap.size < w2.heap.size := Nat.lt_of_lt_of_le hgw2 hb2.size
      clear cs x0 x1 x2 x3 x4 x5 x6 x7 x8 x9 x10 x11 x12 x13 hb2 hb3 hown2 hin2 hnew hgw hgw2
      have hoa := Lib.hid (hown3.alloc (Obj.cells #[.int .i64 p.f.k, .int .i64 p.f.u, .int .i64 p.f.o, .int .i64 p.f.a.k, .int .i64 p.f.a.t, .int .i64 p.f.a.c, .bool p.f.a.z, .int .i64 p.f.a.n, .int .i64 p.f.b.k, .int .i64 p.f.b.t, .int .i64 p.f.b.c, .bool p.f.b.z, .int .i64 p.f.b.n, .slice B2 p.ps.length k2] 49))
      have hca := Lib.hid (show ∀ j u, (p.f.cells (.slice B2 p.ps.length k2))[j]? = some u → (w2.alloc (Obj.cells #[.int .i64 p.f.k, .int .i64 p.f.u, .int .i64 p.f.o, .int .i64 p.f.a.k, .int .i64 p.f.a.t, .int .i64 p.f.a.c, .bool p.f.a.z, .int .i64 p.f.a.n, .int .i64 p.f.b.k, .int .i64 p.f.b.t, .int .i64 p.f.b.c, .bool p.f.b.z, .int .i64 p.f.b.n, .slice B2 p.ps.length k2] 49)).cell? ((⟨w2.heap.size, 0, none⟩ : Addr).add j) = some u from fun j u hju => by rw [add_here]; exact (Lies.new w2 _ (p.f.cells (.slice B2 p.ps.length k2))).cell hju)
      have hba := Lib.hid (hb'.alloc hb'.size (Obj.cells #[.int .i64 p.f.k, .int .i64 p.f.u, .int .i64 p.f.o, .int .i64 p.f.a.k, .int .i64 p.f.a.t, .int .i64 p.f.a.c, .bool p.f.a.z, .int .i64 p.f.a.n, .int .i64 p.f.b.k, .int .i64 p.f.b.t, .int .i64 p.f.b.c, .bool p.f.b.z, .int .i64 p.f.b.n, .slice B2 p.ps.length k2] 49))
      have hsa := Lib.hid (show w.heap.size ≤ (w2.alloc (Obj.cells #[.int .i64 p.f.k, .int .i64 p.f.u, .int .i64 p.f.o, .int .i64 p.f.a.k, .int .i64 p.f.a.t, .int .i64 p.f.a.c, .bool p.f.a.z, .int .i64 p.f.a.n, .int .i64 p.f.b.k, .int .i64 p.f.b.t, .int .i64 p.f.b.c, .bool p.f.b.z, .int .i64 p.f.b.n, .slice B2 p.ps.length k2] 49)).heap.size by rw [World.size_alloc]; omega)
      clear hown3
      go_wp2_with (first
        | (at_builtin; refine wpList_append_fits _ rfl _ _ 24 rfl w.heap.size 49 i0 14 Try.underlying24 hi hz1 w.heap.size q G _ rfl hoa.out ⟨w2.heap.size, 0, none⟩ 1 1 (p.f.cells (.slice B2 p.ps.length k2)) rfl rfl hca.out (cells_one _ _ _ _) (by omega) ?_))
      intro w3 hown4 hgrow
      have hb5 : Below w.heap.size w w3 := hba.out.grown hgrow hsa.out (fun k hk => by cases hk; exact Nat.le_refl _)
      have hL2 : Hid ((L ++ [(p, Value.slice B2 p.ps.length k2)]).map Prod.fst = ps.take (q + 1)) := Lib.hid (by rw [List.map_append, hL.out, HT.out]; rfl)
      have hown5 : w3.ownsRow w.heap.size 49 14 (.slice (some ⟨w.heap.size, 0, none⟩) (q + 1) G) (q + 1) (pdCells (L ++ [(p, .slice B2 p.ps.length k2)])) := by
        have e : pdCells (L ++ [(p, Value.slice B2 p.ps.length k2)]) = pdCells L ++ p.f.cells (.slice B2 p.ps.length k2) := by simp [pdCells]
        rw [e]; exact hown4
      have hin5 : Hid (∀ x ∈ L ++ [(p, Value.slice B2 p.ps.length k2)], PsIn (w.heap.size + 1) d' w3 x.2 x.1.ps) := Lib.hid fun x hx => by
        rcases List.mem_append.1 hx with h | h
        · exact ((hin3.out x h).below (below_new _ _)).grown hgrow (by omega)
        · obtain rfl := List.mem_singleton.1 h
          exact (hnew2.out.below (below_new _ _)).grown hgrow (by omega)
      clear hown4 hgrow hb' hin3 hnew2
      go_wp2_with fail
      go_roundw
      case rel => exact ⟨q + 1, _, by omega, by go_num, rfl, hL2, hown5, hin5, hb5⟩
      case measure => simp [intOf]; omega
    · obtain rfl : n = q := by omega
      have hLn : L.map Prod.fst = ps := by rw [hL.out, List.take_of_length_le (by have := HN.out; omega)]
      have hrow : PsIn w.heap.size (d' + 1) wr (.slice (some ⟨w.heap.size, 0, none⟩) n G) ps := by
        have := PsIn.row (lo := w.heap.size) hown (by rw [← List.length_map (f := Prod.fst), hLn, HN.out]) (by omega) (Nat.le_refl _) (fun x h => (hin.out x h).low (Nat.le_succ _))
        rwa [hLn] at this
      have HR := Lib.hid hrow
      clear hrow hown hin hLn
      go_wp2_with fail
      go_ret
      exact ⟨_, rfl, HR.out, hb⟩
set_option maxRecDepth 100000 in
theorem pcopy_at (d : Nat) : ∀ (f : Pf) (u : Value) (ps : List Pd) (w : World), PsAt d w u ps → Pr.sizes ps ≤ 1000 → Calls Try.prog 59 #[.agg #[.int .i64 f.k, .int .i64 f.u, .int .i64 f.o, .int .i64 f.a.k, .int .i64 f.a.t, .int .i64 f.a.c, .bool f.a.z, .int .i64 f.a.n, .int .i64 f.b.k, .int .i64 f.b.t, .int .i64 f.b.c, .bool f.b.z, .int .i64 f.b.n, u]] w (NewPred d w f ps) := by
  induction d using Nat.strongRecOn with
  | ind d ih =>
  intro f u ps w hu hsz
  obtain ⟨A, c, rfl, hl⟩ := hu.form
  obtain ⟨W0, hW0⟩ : ∃ W0, W0 = (w.alloc (Obj.cells #[.int .i64 f.k, .int .i64 f.u, .int .i64 f.o, .int .i64 f.a.k, .int .i64 f.a.t, .int .i64 f.a.c, .bool f.a.z, .int .i64 f.a.n, .int .i64 f.b.k, .int .i64 f.b.t, .int .i64 f.b.c, .bool f.b.z, .int .i64 f.b.n, .slice A ps.length c] 49)).alloc (Obj.cells #[.int .i64 0, .int .i64 0, .int .i64 0, .int .i64 0, .int .i64 0, .int .i64 0, .bool false, .int .i64 0, .int .i64 0, .int .i64 0, .int .i64 0, .bool false, .int .i64 0, .slice none 0 0] 49) := ⟨_, rfl⟩
  obtain ⟨l0, l1, hb0⟩ := box_two (cs := f.cells (.slice A ps.length c)) (ds := [.int .i64 0, .int .i64 0, .int .i64 0, .int .i64 0, .int .i64 0, .int .i64 0, .bool false, .int .i64 0, .int .i64 0, .int .i64 0, .int .i64 0, .bool false, .int .i64 0, .slice none 0 0]) hW0
  have cs := peachp_of d ih _ ps W0 (hu.below hb0 (Nat.le_refl _)) hsz
  have HW := Lib.hid hW0
  have HP := Lib.hid l0
  have HQ := Lib.hid l1
  have hsz0 : W0.heap.size = w.heap.size + 1 + 1 := by rw [hW0, World.size_alloc, World.size_alloc]
  have x13 := l0.pd.c13
  clear hu hW0 l0 l1 ih hsz
  go_enter Try.func59, Try.ntmps59
  go_upto_region 1 with (fail)
  rw [← HW.out]
  go_wp2_with fail
  refine cs.mono ?_
  rintro e w2 ⟨r, rfl, hin, hb2⟩
  obtain ⟨B2, c2, rfl⟩ := hin.form
  clear cs x13
  have l2 := HP.out.below hb2 HP.out.lt
  have q2 := HQ.out.below hb2 HQ.out.lt
  have HIN := Lib.hid hin
  have x13 := l2.pd.c13
  have fr := l2.free 13
  have HL2 := Lib.hid l2
  have HQ2 := Lib.hid q2
  clear hin l2 q2
  go_upto_region 2 with (fail)
  obtain ⟨W3, hW3⟩ : ∃ W3, W3 = w2.setCell ⟨w.heap.size, 13, none⟩ (.slice B2 ps.length c2) := ⟨_, rfl⟩
  rw [← hW3]
  have l3 : Lies W3 w.heap.size 49 (f.cells (.slice B2 ps.length c2)) := by rw [hW3]; exact HL2.out.set 13 _
  have q3 : Lies W3 (w.heap.size + 1) 49 [.int .i64 0, .int .i64 0, .int .i64 0, .int .i64 0, .int .i64 0, .int .i64 0, .bool false, .int .i64 0, .int .i64 0, .int .i64 0, .int .i64 0, .bool false, .int .i64 0, .slice none 0 0] := by rw [hW3]; exact HQ2.out.far (by show w.heap.size + 1 ≠ w.heap.size; omega) _
  have hin3 : PsIn W0.heap.size d W3 (.slice B2 ps.length c2) ps := by rw [hW3]; exact HIN.out.setCell (by show w.heap.size < W0.heap.size; omega) _
  have hb3 : Below w.heap.size w W3 := by rw [hW3]; exact (below_join hb0 hb2).setCell (Nat.le_refl _) _
  have HIN3 := Lib.hid hin3
  have HB3 := Lib.hid hb3
  have HSZ := Lib.hid hsz0
  obtain ⟨x0, x1, x2, x3, x4, x5, x6, x7, x8, x9, x10, x11, x12, x13⟩ := l3.pd
  have z0 := q3.cell (i := 0) rfl
  have z1 := q3.cell (i := 1) rfl
  have z2 := q3.cell (i := 2) rfl
  have z3 := q3.cell (i := 3) rfl
  have z4 := q3.cell (i := 4) rfl
  have z5 := q3.cell (i := 5) rfl
  have z6 := q3.cell (i := 6) rfl
  have z7 := q3.cell (i := 7) rfl
  have z8 := q3.cell (i := 8) rfl
  have z9 := q3.cell (i := 9) rfl
  have z10 := q3.cell (i := 10) rfl
  have z11 := q3.cell (i := 11) rfl
  have z12 := q3.cell (i := 12) rfl
  have z13 := q3.cell (i := 13) rfl
  have f0 := q3.free 0
  have f1 := q3.free 1
  have f2 := q3.free 2
  have f3 := q3.free 3
  have f4 := q3.free 4
  have f5 := q3.free 5
  have f6 := q3.free 6
  have f7 := q3.free 7
  have f8 := q3.free 8
  have f9 := q3.free 9
  have f10 := q3.free 10
  have f11 := q3.free 11
  have f12 := q3.free 12
  have f13 := q3.free 13
  clear hW3 l3 hin3 hb3 fr hb0 hb2 hsz0
  have Q3 := Lib.hid q3
  clear q3
  go_wp2_with fail
  obtain ⟨W4, hW4⟩ : ∃ W4, W4 = ((((((((((((((W3).setCell ⟨w.heap.size + 1, 0, none⟩ (.int .i64 f.k)).setCell ⟨w.heap.size + 1, 1, none⟩ (.int .i64 f.u)).setCell ⟨w.heap.size + 1, 2, none⟩ (.int .i64 f.o)).setCell ⟨w.heap.size + 1, 3, none⟩ (.int .i64 f.a.k)).setCell ⟨w.heap.size + 1, 4, none⟩ (.int .i64 f.a.t)).setCell ⟨w.heap.size + 1, 5, none⟩ (.int .i64 f.a.c)).setCell ⟨w.heap.size + 1, 6, none⟩ (.bool f.a.z)).setCell ⟨w.heap.size + 1, 7, none⟩ (.int .i64 f.a.n)).setCell ⟨w.heap.size + 1, 8, none⟩ (.int .i64 f.b.k)).setCell ⟨w.heap.size + 1, 9, none⟩ (.int .i64 f.b.t)).setCell ⟨w.heap.size + 1, 10, none⟩ (.int .i64 f.b.c)).setCell ⟨w.heap.size + 1, 11, none⟩ (.bool f.b.z)).setCell ⟨w.heap.size + 1, 12, none⟩ (.int .i64 f.b.n)).setCell ⟨w.heap.size + 1, 13, none⟩ (.slice B2 ps.length c2) := ⟨_, rfl⟩
  rw [← hW4]
  have hh : w.heap.size + 1 < W0.heap.size := by have := HSZ.out; omega
  have hh2 : w.heap.size ≤ w.heap.size + 1 := by omega
  have q4 : Lies W4 (w.heap.size + 1) 49 (f.cells (.slice B2 ps.length c2)) := by rw [hW4]; exact ((((((((((((((Q3.out).set 0 _).set 1 _).set 2 _).set 3 _).set 4 _).set 5 _).set 6 _).set 7 _).set 8 _).set 9 _).set 10 _).set 11 _).set 12 _).set 13 _
  have hin4 : PsIn W0.heap.size d W4 (.slice B2 ps.length c2) ps := by rw [hW4]; exact ((((((((((((((HIN3.out).setCell hh _).setCell hh _).setCell hh _).setCell hh _).setCell hh _).setCell hh _).setCell hh _).setCell hh _).setCell hh _).setCell hh _).setCell hh _).setCell hh _).setCell hh _).setCell hh _
  have hb4 : Below w.heap.size w W4 := by rw [hW4]; exact ((((((((((((((HB3.out).setCell hh2 _).setCell hh2 _).setCell hh2 _).setCell hh2 _).setCell hh2 _).setCell hh2 _).setCell hh2 _).setCell hh2 _).setCell hh2 _).setCell hh2 _).setCell hh2 _).setCell hh2 _).setCell hh2 _).setCell hh2 _
  clear hW4 z0 z1 z2 z3 z4 z5 z6 z7 z8 z9 z10 z11 z12 z13 f0 f1 f2 f3 f4 f5 f6 f7 f8 f9 f10 f11 f12 f13 x0 x1 x2 x3 x4 x5 x6 x7 x8 x9 x10 x11 x12 x13
  obtain ⟨x0, x1, x2, x3, x4, x5, x6, x7, x8, x9, x10, x11, x12, x13⟩ := q4.pd
  simp only [Nat.zero_add] at x0 x1 x2 x3 x4 x5 x6 x7 x8 x9 x10 x11 x12 x13
  exact bodyPost_ret (v := .agg #[.int .i64 f.k, .int .i64 f.u, .int .i64 f.o, .int .i64 f.a.k, .int .i64 f.a.t, .int .i64 f.a.c, .bool f.a.z, .int .i64 f.a.n, .int .i64 f.b.k, .int .i64 f.b.t, .int .i64 f.b.c, .bool f.b.z, .int .i64 f.b.n, .slice B2 ps.length c2]) (by simp [results, Try.results59, go_sem, x0, x1, x2, x3, x4, x5, x6, x7, x8, x9, x10, x11, x12, x13]) rfl ⟨_, rfl, hin4.low (by omega), hb4⟩
theorem pcopy_any (d : Nat) (f : Pf) (u : Value) (ps : List Pd) (w : World) (hu : PsAt d w u ps) (hsz : Pr.sizes ps ≤ 1000) :
    Calls Try.prog 59 #[.agg #[.int .i64 f.k, .int .i64 f.u, .int .i64 f.o, .int .i64 f.a.k, .int .i64 f.a.t, .int .i64 f.a.c, .bool f.a.z, .int .i64 f.a.n, .int .i64 f.b.k, .int .i64 f.b.t, .int .i64 f.b.c, .bool f.b.z, .int .i64 f.b.n, u]] w (SomePred w f ps) :=
  (pcopy_at d f u ps w hu hsz).mono fun _ _ ⟨u', he, hin, hb⟩ => ⟨u', d, he, hin.at_, hb⟩
end Go.Proofs.Ytdcgfhenlddmeaa

/-
  A SLICE THAT CAME IN, of elements of any number of cells: what is kept of it; its append, as one operation of a region.
-/
namespace Go.Proofs.Ytdcgfhenlddmeaa
open Go.RowKit Go.Sort
theorem CameN.below {w w' : World} {B s m : Nat} {u : Value} {xs : List Value} (h : CameN w s u m xs) (hb : Below B w w') (hB : w.heap.size ≤ B) : CameN w' s u m xs := by
  rcases h with h | ⟨b, c, hu, hl, hx⟩
  · exact .inl h
  · refine .inr ⟨b, c, hu, hl, fun j x hj => ?_⟩
    have := hx j x hj
    have hlt := World.block_lt_of_cell? w _ this
    exact (hb.cell (Nat.lt_of_lt_of_le hlt hB)).trans this
theorem CameN.grown {w w' : World} {s m g g' c n k : Nat} {xs : List Value} (h : CameN w s (.slice (some ⟨g, 0, none⟩) m c) m xs) (hg : w.grownBy w' (Value.slice (some ⟨g', 0, none⟩) n k).ownBlock) (hne : g ≠ g') : CameN w' s (.slice (some ⟨g, 0, none⟩) m c) m xs := by
  rcases h with ⟨h, _⟩ | ⟨b, c', hu, hl, hx⟩
  · cases h
  · cases hu
    refine .inr ⟨_, _, rfl, hl, fun j x hj => ?_⟩
    exact hg.cell (hx j x hj) (by rw [add_block]; simp [Value.ownBlock]; exact hne)
theorem wp_append_n {P : Program} (w : World) {o : Oper} {a : Act} {K : Act → World → Prop} {Q : Exit → Act → World → Prop} (s x : Operand) (t : TypeId)
    (ho : o.op = .call { callee := .builtin .append, args := #[s, x], argTypes := #[t, t] })
    (base : Nat) (e : TypeId) (i : TypeInfo) (z : Value) (size bytes : Nat) (ht : P.underlying t = some (.slice e)) (hi : P.info? e = some i) (hz : i.zero = some z)
    (hsize : i.size = size) (hby : i.bytes = bytes) (hzs : z.cells.size = size) (hs0 : 0 < size)
    (v : Value) (n : Nat) (xs : List Value) (hs : a.eval s = v) (hown : w.ownsRow base e size v n xs)
    (u : Value) (m : Nat) (news : List Value) (hx : a.eval x = u) (hu : CameN w size u m news) (h1 : ∀ u ∈ news, u.oneCell' = true)
    (h63 : n + m ≤ maxLen) (hbytes : (n + m) * bytes ≤ 140737488355328) (hbase : base ≤ w.heap.size)
    (h : ∀ v' w', w'.ownsRow base e size v' (n + m) (xs ++ news) → w.grownBy w' v.ownBlock → K (a.put o.dst v') w') : o.wp P a w K Q := by
  rcases hu with ⟨rfl, rfl, rfl⟩ | ⟨b, c, rfl, hl, hc⟩
  · have hr := run_append_owned_none (P := P) w base t o.type e i size ht hi v n xs hown
    unfold Oper.wp execOp
    simp only [ho, resolve, invoke, builtin, Sem.run_bind, Sem.run_pure, Result.andThen_ok, List.map_toArray, List.map_cons, List.map_nil, hs, hx, hr]
    exact h v w (by simpa using hown) ⟨rfl, rfl, rfl, Nat.le_refl _, fun _ _ _ => rfl⟩
  · exact wp_append_own w s x t ho base e i z size bytes ht hi hz hsize hby hzs hs0 v n xs hs hown b m c news hx hl hc h1 h63 hbytes hbase fun v' w' h2 h3 _ => h v' w' h2 h3
theorem add_off (a : Addr) (k i : Nat) (hi : 0 < i) : a.add (k + i) = ⟨(a.add k).block, (a.add k).off + i, none⟩ := by
  unfold Addr.add
  by_cases h : k = 0
  · subst h; simp; omega
  · rw [if_neg (by omega), if_neg h]; simp; omega
end Go.Proofs.Ytdcgfhenlddmeaa

/-
  PREDICATES THAT CAME IN, with their cells: nil, or at an address.
-/
namespace Go.Proofs.Ytdcgfhenlddmeaa
open Go.RowKit Go.Sort
/-- predicates that came in: with their cells; nil, or at an address -/
def PsCame (d : Nat) (w : World) (u : Value) (ps : List Pd) : Prop :=
  ps.length ≤ 9223372036854775807 ∧ ∃ L : List (Pd × Value), L.map Prod.fst = ps ∧ CameN w 14 u ps.length (pdCells L) ∧ ∀ x ∈ L, PsAt d w x.2 x.1.ps
theorem pdCells_len (L : List (Pd × Value)) : (pdCells L).length = L.length * 14 := by
  induction L with
  | nil => rfl
  | cons x r ih => show (x.1.f.cells x.2 ++ pdCells r).length = _; rw [List.length_append, ih, cells_len, List.length_cons]; omega
/-- predicates that came in, read as predicates -/
theorem came_ps {d m : Nat} {w : World} {u : Value} {L : List (Pd × Value)} (h : CameN w 14 u m (pdCells L)) (hm : L.length = m) (hl : m ≤ 9223372036854775807) (hx : ∀ x ∈ L, PsAt d w x.2 x.1.ps) : PsAt (d + 1) w u (L.map Prod.fst) := by
  rcases h with ⟨rfl, rfl, _⟩ | ⟨b, c, rfl, _, hc⟩
  · obtain rfl : L = [] := List.eq_nil_of_length_eq_zero hm
    exact PsAt.mono (d := 0) ⟨rfl, none, 0, rfl⟩ (Nat.zero_le _)
  · refine ⟨some b, c, by rw [List.length_map, hm], by rw [List.length_map, hm]; exact hl, fun j p hj => ?_⟩
    rw [List.getElem?_map] at hj
    obtain ⟨x, hx1, rfl⟩ : ∃ x, L[j]? = some x ∧ x.1 = p := by
      cases h : L[j]? with
      | none => rw [h] at hj; cases hj
      | some x => rw [h] at hj; exact ⟨x, rfl, by simpa using hj⟩
    obtain ⟨bb, o, s⟩ := b
    have k : ∀ i v, i < 14 → (x.1.f.cells x.2)[i]? = some v → w.cell? ((⟨bb, o, s⟩ : Addr).add (j * 14 + i)) = some v := fun i v hi hv => hc (j * 14 + i) v ((pdCells_at L j i x hx1 hi).trans hv)
    have k' : ∀ i v, 0 < i → i < 14 → (x.1.f.cells x.2)[i]? = some v → w.cell? ⟨((⟨bb, o, s⟩ : Addr).add (j * 14)).block, ((⟨bb, o, s⟩ : Addr).add (j * 14)).off + i, none⟩ = some v := fun i v h0 hi hv => by rw [← add_off _ _ _ h0]; exact k i v hi hv
    have k0 := k 0 _ (by decide) rfl
    have hlt := World.block_lt_of_cell? w _ k0
    rw [add_block] at hlt
    exact ⟨bb, o, s, x.2, rfl, hlt, ⟨k0, k' 1 _ (by decide) (by decide) rfl, k' 2 _ (by decide) (by decide) rfl, k' 3 _ (by decide) (by decide) rfl, k' 4 _ (by decide) (by decide) rfl, k' 5 _ (by decide) (by decide) rfl, k' 6 _ (by decide) (by decide) rfl, k' 7 _ (by decide) (by decide) rfl, k' 8 _ (by decide) (by decide) rfl, k' 9 _ (by decide) (by decide) rfl, k' 10 _ (by decide) (by decide) rfl, k' 11 _ (by decide) (by decide) rfl, k' 12 _ (by decide) (by decide) rfl, k' 13 _ (by decide) (by decide) rfl⟩, hx x (List.mem_of_getElem? hx1)⟩
theorem PsCame.ps {d : Nat} {w : World} {u : Value} {ps : List Pd} (h : PsCame d w u ps) : PsAt (d + 1) w u ps := by
  obtain ⟨hl, L, rfl, hc, hx⟩ := h
  rw [List.length_map] at hl
  exact came_ps hc (by rw [List.length_map]) (by rw [List.length_map]; exact hl) hx
theorem PsCame.mono {d e : Nat} {w : World} {u : Value} {ps : List Pd} (h : PsCame d w u ps) (hd : d ≤ e) : PsCame e w u ps := by
  obtain ⟨hl, L, hL, hc, hx⟩ := h
  exact ⟨hl, L, hL, hc, fun x hm => (hx x hm).mono hd⟩
end Go.Proofs.Ytdcgfhenlddmeaa
