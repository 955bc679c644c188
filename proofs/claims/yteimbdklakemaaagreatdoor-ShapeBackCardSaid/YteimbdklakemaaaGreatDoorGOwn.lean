/-
  LAID TOGETHER, BY PROGRAM, of: Predp, Predv, Predw, Predx, Camen, PsList.
-/
import Derived.Test.YteimbdklakemaaaGreatDoorGPred
import Derived.Test.YteimbdklakemaaaGreatDoorGTerms
import Derived.Test.YteimbdklakemaaaGreatDoorGLogs
import Derived.Lib.AppendZeros
import Derived.Deep.Cut
/-
  WHAT THE CONTRACTS OF package pred SPEAK OF. THE CONTRACTS THEMSELVES (wip/pred-contracts.txt) COME HERE, proved of what lands.
-/
namespace Go.Proofs.YteimbdklakemaaaGreatDoor
open Go.RowKit Go.Sort
/-- pairs of numbers in memory -/
def Pairs (w : World) (v : Value) (l : List (Int × Int)) : Prop :=
  ∃ A c, v = .slice A l.length c ∧ l.length ≤ 1000000 ∧ ∀ (j : Nat) (x : Int × Int), l[j]? = some x → ∃ b o p, A = some ⟨b, o, p⟩ ∧ b < w.heap.size ∧ w.cell? ((⟨b, o, p⟩ : Addr).add (j * 2)) = some (.int .i64 x.1) ∧ w.cell? ⟨((⟨b, o, p⟩ : Addr).add (j * 2)).block, ((⟨b, o, p⟩ : Addr).add (j * 2)).off + 1, none⟩ = some (.int .i64 x.2)
def SomePairs (w : World) (l : List (Int × Int)) (e : Ending) (w' : World) : Prop := ∃ v, e = .returned v ∧ Pairs w' v l ∧ Below w.heap.size w w'
/-- a predicate in memory of its own -/
def SomePred (w : World) (f : Pf) (ps : List Pd) (e : Ending) (w' : World) : Prop := ∃ u d, e = .returned (.agg #[.int .i64 f.k, .int .i64 f.u, .int .i64 f.o, .int .i64 f.a.k, .int .i64 f.a.t, .int .i64 f.a.c, .bool f.a.z, .int .i64 f.a.n, .int .i64 f.b.k, .int .i64 f.b.t, .int .i64 f.b.c, .bool f.b.z, .int .i64 f.b.n, u]) ∧ PsAt d w' u ps ∧ Below w.heap.size w w'
end Go.Proofs.YteimbdklakemaaaGreatDoor

/-
  THE CONTRACT OF THE LIBRARY's Grow, of a nil slice: a row of one's own, of no element yet.
-/
namespace Go.Proofs.YteimbdklakemaaaGreatDoor
open Go.RowKit Go.Sort
set_option maxHeartbeats 3200000

theorem Tryz.infoPred : (Tryz.prog.info? 43).map (fun i => (i.zero, i.size, i.bytes)) = some (some (.agg #[.int .i64 0, .int .i64 0, .int .i64 0, .int .i64 0, .int .i64 0, .int .i64 0, .bool false, .int .i64 0, .int .i64 0, .int .i64 0, .int .i64 0, .bool false, .int .i64 0, .slice none 0 0]), 14, 128) := by kernel_rfl
end Go.Proofs.YteimbdklakemaaaGreatDoor

/-
  THE CONTRACTS OF package pred's Of AND All: the closure over the parts; each part's truth in a row; whole.
-/
namespace Go.Proofs.YteimbdklakemaaaGreatDoor
open Go.RowKit Go.Sort
set_option maxHeartbeats 3200000

theorem Rws.form {w : World} {v : Value} {rs : List (List Vl)} (h : Rws w v rs) : ∃ A c, v = .slice A rs.length c := by
  obtain ⟨A, c, hv, _⟩ := h.at_
  exact ⟨A, c, hv⟩
theorem Lo.andI_sure {t : Int} (h : (t == 0 || t == 1 || t == 2) = true) : Lo.andI [t] = t := by
  have : t = 0 ∨ t = 1 ∨ t = 2 := by simpa [or_assoc] using h
  rcases this with rfl | rfl | rfl <;> decide
theorem Lo.andI_none {t : Int} (h : (t == 0 || t == 1 || t == 2) = false) : Lo.andI [t] = 1 := by
  have : t ≠ 0 ∧ t ≠ 2 := by simp at h; omega
  exact Lo.andI_one (by simp; omega) (by simp; omega)
end Go.Proofs.YteimbdklakemaaaGreatDoor

/-
  THE CONTRACT OF package pred's Copy: predicates in memory that is new.
-/
namespace Go.Proofs.YteimbdklakemaaaGreatDoor
open Go.RowKit Go.Sort
set_option maxHeartbeats 3200000

/-- as PsAt, in blocks from lo on -/
def PsIn (lo : Nat) : Nat → World → Value → List Pd → Prop
  | 0, _, v, l => l = [] ∧ ∃ A c, v = .slice A 0 c
  | d + 1, w, v, l => ∃ A c, v = .slice A l.length c ∧ l.length ≤ 9223372036854775807 ∧ ∀ (j : Nat) (p : Pd), l[j]? = some p → ∃ b o s u, A = some ⟨b, o, s⟩ ∧ lo ≤ b ∧ b < w.heap.size ∧ PdCell w ((⟨b, o, s⟩ : Addr).add (j * 14)) p.f u ∧ PsIn lo d w u p.ps
theorem PsIn.at_ {lo d : Nat} : ∀ {w : World} {v : Value} {l : List Pd}, PsIn lo d w v l → PsAt d w v l := by
  induction d with
  | zero => intro w v l h; exact h
  | succ d ih =>
    intro w v l h
    obtain ⟨A, c, hv, hc, hx⟩ := h
    refine ⟨A, c, hv, hc, fun j p hj => ?_⟩
    obtain ⟨b, o, s, u, hA, _, hlt, hcell, hp⟩ := hx j p hj
    exact ⟨b, o, s, u, hA, hlt, hcell, ih hp⟩
theorem PsIn.form {lo d : Nat} {w : World} {v : Value} {l : List Pd} (h : PsIn lo d w v l) : ∃ A c, v = .slice A l.length c := by
  obtain ⟨A, c, hv, _⟩ := h.at_.form
  exact ⟨A, c, hv⟩
theorem PdCell.block {w w' : World} {X : Addr} {f : Pf} {u : Value} (h : PdCell w X f u) (hb : w'.heap[X.block]? = w.heap[X.block]?) : PdCell w' X f u :=
  have k : ∀ n, w'.cell? ⟨X.block, n, none⟩ = w.cell? ⟨X.block, n, none⟩ := fun n => World.cell?_of_block (a := ⟨X.block, n, none⟩) hb
  ⟨(World.cell?_of_block hb).trans h.c0, (k _).trans h.c1, (k _).trans h.c2, (k _).trans h.c3, (k _).trans h.c4, (k _).trans h.c5, (k _).trans h.c6, (k _).trans h.c7, (k _).trans h.c8, (k _).trans h.c9, (k _).trans h.c10, (k _).trans h.c11, (k _).trans h.c12, (k _).trans h.c13⟩
/-- kept, where each block from lo on that was there lies as it lay -/
theorem PsIn.keep {lo d : Nat} {w w' : World} (hs : w.heap.size ≤ w'.heap.size) (hb : ∀ k, lo ≤ k → k < w.heap.size → w'.heap[k]? = w.heap[k]?) : ∀ {v : Value} {l : List Pd}, PsIn lo d w v l → PsIn lo d w' v l := by
  induction d with
  | zero => intro v l h; exact h
  | succ d ih =>
    intro v l h
    obtain ⟨A, c, hv, hc, hx⟩ := h
    refine ⟨A, c, hv, hc, fun j p hj => ?_⟩
    obtain ⟨b, o, s, u, hA, hlo, hlt, hcell, hp⟩ := hx j p hj
    exact ⟨b, o, s, u, hA, hlo, Nat.lt_of_lt_of_le hlt hs, hcell.block (by rw [add_block]; exact hb b hlo hlt), ih hp⟩
theorem PsIn.low {lo lo' d : Nat} {w : World} (hl : lo' ≤ lo) : ∀ {v : Value} {l : List Pd}, PsIn lo d w v l → PsIn lo' d w v l := by
  induction d with
  | zero => intro v l h; exact h
  | succ d ih =>
    intro v l h
    obtain ⟨A, c, hv, hc, hx⟩ := h
    refine ⟨A, c, hv, hc, fun j p hj => ?_⟩
    obtain ⟨b, o, s, u, hA, hlo, hlt, hcell, hp⟩ := hx j p hj
    exact ⟨b, o, s, u, hA, Nat.le_trans hl hlo, hlt, hcell, ih hp⟩
theorem PsIn.more {lo d : Nat} : ∀ {w : World} {v : Value} {l : List Pd}, PsIn lo d w v l → PsIn lo (d + 1) w v l := by
  induction d with
  | zero =>
    intro w v l h
    obtain ⟨rfl, A, c, rfl⟩ := h
    exact ⟨A, c, rfl, by simp, fun j p hj => by simp at hj⟩
  | succ d ih =>
    intro w v l h
    obtain ⟨A, c, hv, hc, hx⟩ := h
    refine ⟨A, c, hv, hc, fun j p hj => ?_⟩
    obtain ⟨b, o, s, u, hA, hlo, hlt, hcell, hp⟩ := hx j p hj
    exact ⟨b, o, s, u, hA, hlo, hlt, hcell, ih hp⟩
theorem PsIn.mono {lo d e : Nat} {w : World} {v : Value} {l : List Pd} (h : PsIn lo d w v l) (hd : d ≤ e) : PsIn lo e w v l := by
  induction hd with
  | refl => exact h
  | step _ ih => exact ih.more
theorem PsIn.below {lo d : Nat} {w w' : World} {v : Value} {l : List Pd} (h : PsIn lo d w v l) (hb : Below w.heap.size w w') : PsIn lo d w' v l := h.keep hb.size fun k _ hk => hb.block k hk
theorem PsIn.setCell {lo d : Nat} {w : World} {v : Value} {l : List Pd} (h : PsIn lo d w v l) {a : Addr} (ha : a.block < lo) (u : Value) : PsIn lo d (w.setCell a u) v l :=
  h.keep (by simp [World.setCell]) fun k h1 hk => Below.heap_setCell _ _ _ _ (by omega)
theorem PsIn.grown {lo d g : Nat} {w w' : World} {v : Value} {l : List Pd} (h : PsIn lo d w v l) (hg : w.grownBy w' (some g)) (hlo : g < lo) : PsIn lo d w' v l :=
  h.keep hg.size fun k h1 hk => hg.block k hk (by intro e; cases e; omega)
/-- the cells of predicates, in a row -/
def pdCells (L : List (Pd × Value)) : List Value := L.flatMap fun x => x.1.f.cells x.2
theorem cells_len (f : Pf) (u : Value) : (f.cells u).length = 14 := rfl
theorem pdCells_at : ∀ (L : List (Pd × Value)) (j i : Nat) (x : Pd × Value), L[j]? = some x → i < 14 → (pdCells L)[j * 14 + i]? = (x.1.f.cells x.2)[i]? := by
  intro L
  induction L with
  | nil => intro j i x h; simp at h
  | cons y r ih =>
    intro j i x h hi
    have e : pdCells (y :: r) = y.1.f.cells y.2 ++ pdCells r := rfl
    rw [e]
    cases j with
    | zero =>
      simp at h; subst h
      rw [List.getElem?_append_left (by rw [cells_len]; omega)]
      congr 1; omega
    | succ j =>
      rw [List.getElem?_append_right (by rw [cells_len]; omega), cells_len, show (j + 1) * 14 + i - 14 = j * 14 + i by omega]
      exact ih j i x (by simpa using h) hi
theorem add_here (g k : Nat) : (⟨g, 0, none⟩ : Addr).add k = ⟨g, k, none⟩ := by
  unfold Addr.add
  split
  · next h => subst h; rfl
  · simp
/-- a row of predicates of one's own, read as predicates -/
theorem PsIn.row {lo d base g n cap : Nat} {w : World} {L : List (Pd × Value)} (ho : w.ownsRow base 43 14 (.slice (some ⟨g, 0, none⟩) n cap) n (pdCells L)) (hn : L.length = n) (hnl : n ≤ 9223372036854775807) (hg : lo ≤ g) (hx : ∀ x ∈ L, PsIn lo d w x.2 x.1.ps) :
    PsIn lo (d + 1) w (.slice (some ⟨g, 0, none⟩) n cap) (L.map Prod.fst) := by
  refine ⟨_, cap, by rw [List.length_map, hn], by rw [List.length_map]; omega, fun j p hj => ?_⟩
  rw [List.getElem?_map] at hj
  obtain ⟨x, hx1, rfl⟩ : ∃ x, L[j]? = some x ∧ x.1 = p := by
    cases h : L[j]? with
    | none => rw [h] at hj; cases hj
    | some x => rw [h] at hj; exact ⟨x, rfl, by simpa using hj⟩
  refine ⟨g, 0, none, x.2, rfl, hg, (ho.lt g rfl).2, ?_, hx x (List.mem_of_getElem? hx1)⟩
  have hc := ho.cells (g := g) rfl
  have k : ∀ i u, i < 14 → (x.1.f.cells x.2)[i]? = some u → w.cell? ⟨g, j * 14 + i, none⟩ = some u := fun i u hi hu => by
    have := hc (j * 14 + i) u ((pdCells_at L j i x hx1 hi).trans hu)
    rwa [add_here] at this
  rw [add_here]
  exact ⟨k 0 _ (by decide) rfl, k 1 _ (by decide) rfl, k 2 _ (by decide) rfl, k 3 _ (by decide) rfl, k 4 _ (by decide) rfl, k 5 _ (by decide) rfl, k 6 _ (by decide) rfl, k 7 _ (by decide) rfl, k 8 _ (by decide) rfl, k 9 _ (by decide) rfl, k 10 _ (by decide) rfl, k 11 _ (by decide) rfl, k 12 _ (by decide) rfl, k 13 _ (by decide) rfl⟩
theorem cells_one (f : Pf) (A : Option Addr) (n c : Nat) : ∀ u ∈ f.cells (.slice A n c), u.oneCell' = true := by
  intro u hu
  simp only [Pf.cells, List.mem_cons, List.not_mem_nil, or_false] at hu
  rcases hu with rfl | rfl | rfl | rfl | rfl | rfl | rfl | rfl | rfl | rfl | rfl | rfl | rfl | rfl <;> rfl
/-- a predicate in memory that was not there -/
def NewPred (d : Nat) (w : World) (f : Pf) (ps : List Pd) (e : Ending) (w' : World) : Prop := ∃ u, e = .returned (.agg #[.int .i64 f.k, .int .i64 f.u, .int .i64 f.o, .int .i64 f.a.k, .int .i64 f.a.t, .int .i64 f.a.c, .bool f.a.z, .int .i64 f.a.n, .int .i64 f.b.k, .int .i64 f.b.t, .int .i64 f.b.c, .bool f.b.z, .int .i64 f.b.n, u]) ∧ PsIn w.heap.size d w' u ps ∧ Below w.heap.size w w'
end Go.Proofs.YteimbdklakemaaaGreatDoor

/-
  A SLICE THAT CAME IN, of elements of any number of cells: what is kept of it; its append, as one operation of a region.
-/
namespace Go.Proofs.YteimbdklakemaaaGreatDoor
open Go.RowKit Go.Sort
theorem CameN.below {w w' : World} {B s m : Nat} {u : Value} {xs : List Value} (h : CameN w s u m xs) (hb : Below B w w') (hB : w.heap.size ≤ B) : CameN w' s u m xs := by
  rcases h with h | ⟨b, c, hu, hl, hx⟩
  · exact .inl h
  · refine .inr ⟨b, c, hu, hl, fun j x hj => ?_⟩
    have := hx j x hj
    have hlt := World.block_lt_of_cell? w _ this
    exact (hb.cell (Nat.lt_of_lt_of_le hlt hB)).trans this
theorem CameN.grown {w w' : World} {s m g g' c n k : Nat} {xs : List Value} (h : CameN w s (.slice (some ⟨g, 0, none⟩) m c) m xs) (hg : w.grownBy w' (Value.slice (some ⟨g', 0, none⟩) n k).ownBlock) (hne : g ≠ g') : CameN w' s (.slice (some ⟨g, 0, none⟩) m c) m xs := by
  rcases h with ⟨h, _⟩ | ⟨b, c', hu, hl, hx⟩
  · cases h
  · cases hu
    refine .inr ⟨_, _, rfl, hl, fun j x hj => ?_⟩
    exact hg.cell (hx j x hj) (by rw [add_block]; simp [Value.ownBlock]; exact hne)
theorem wp_append_n {P : Program} (w : World) {o : Oper} {a : Act} {K : Act → World → Prop} {Q : Exit → Act → World → Prop} (s x : Operand) (t : TypeId)
    (ho : o.op = .call { callee := .builtin .append, args := #[s, x], argTypes := #[t, t] })
    (base : Nat) (e : TypeId) (i : TypeInfo) (z : Value) (size bytes : Nat) (ht : P.underlying t = some (.slice e)) (hi : P.info? e = some i) (hz : i.zero = some z)
    (hsize : i.size = size) (hby : i.bytes = bytes) (hzs : z.cells.size = size) (hs0 : 0 < size)
    (v : Value) (n : Nat) (xs : List Value) (hs : a.eval s = v) (hown : w.ownsRow base e size v n xs)
    (u : Value) (m : Nat) (news : List Value) (hx : a.eval x = u) (hu : CameN w size u m news) (h1 : ∀ u ∈ news, u.oneCell' = true)
    (h63 : n + m ≤ maxLen) (hbytes : (n + m) * bytes ≤ 140737488355328) (hbase : base ≤ w.heap.size)
    (h : ∀ v' w', w'.ownsRow base e size v' (n + m) (xs ++ news) → w.grownBy w' v.ownBlock → K (a.put o.dst v') w') : o.wp P a w K Q := by
  rcases hu with ⟨rfl, rfl, rfl⟩ | ⟨b, c, rfl, hl, hc⟩
  · have hr := run_append_owned_none (P := P) w base t o.type e i size ht hi v n xs hown
    unfold Oper.wp execOp
    simp only [ho, resolve, invoke, builtin, Sem.run_bind, Sem.run_pure, Result.andThen_ok, List.map_toArray, List.map_cons, List.map_nil, hs, hx, hr]
    exact h v w (by simpa using hown) ⟨rfl, rfl, rfl, Nat.le_refl _, fun _ _ _ => rfl⟩
  · exact wp_append_own w s x t ho base e i z size bytes ht hi hz hsize hby hzs hs0 v n xs hs hown b m c news hx hl hc h1 h63 hbytes hbase fun v' w' h2 h3 _ => h v' w' h2 h3
theorem add_off (a : Addr) (k i : Nat) (hi : 0 < i) : a.add (k + i) = ⟨(a.add k).block, (a.add k).off + i, none⟩ := by
  unfold Addr.add
  by_cases h : k = 0
  · subst h; simp; omega
  · rw [if_neg (by omega), if_neg h]; simp; omega
end Go.Proofs.YteimbdklakemaaaGreatDoor

/-
  PREDICATES THAT CAME IN, with their cells: nil, or at an address.
-/
namespace Go.Proofs.YteimbdklakemaaaGreatDoor
open Go.RowKit Go.Sort
/-- predicates that came in: with their cells; nil, or at an address -/
def PsCame (d : Nat) (w : World) (u : Value) (ps : List Pd) : Prop :=
  ps.length ≤ 9223372036854775807 ∧ ∃ L : List (Pd × Value), L.map Prod.fst = ps ∧ CameN w 14 u ps.length (pdCells L) ∧ ∀ x ∈ L, PsAt d w x.2 x.1.ps
theorem pdCells_len (L : List (Pd × Value)) : (pdCells L).length = L.length * 14 := by
  induction L with
  | nil => rfl
  | cons x r ih => show (x.1.f.cells x.2 ++ pdCells r).length = _; rw [List.length_append, ih, cells_len, List.length_cons]; omega
/-- predicates that came in, read as predicates -/
theorem came_ps {d m : Nat} {w : World} {u : Value} {L : List (Pd × Value)} (h : CameN w 14 u m (pdCells L)) (hm : L.length = m) (hl : m ≤ 9223372036854775807) (hx : ∀ x ∈ L, PsAt d w x.2 x.1.ps) : PsAt (d + 1) w u (L.map Prod.fst) := by
  rcases h with ⟨rfl, rfl, _⟩ | ⟨b, c, rfl, _, hc⟩
  · obtain rfl : L = [] := List.eq_nil_of_length_eq_zero hm
    exact PsAt.mono (d := 0) ⟨rfl, none, 0, rfl⟩ (Nat.zero_le _)
  · refine ⟨some b, c, by rw [List.length_map, hm], by rw [List.length_map, hm]; exact hl, fun j p hj => ?_⟩
    rw [List.getElem?_map] at hj
    obtain ⟨x, hx1, rfl⟩ : ∃ x, L[j]? = some x ∧ x.1 = p := by
      cases h : L[j]? with
      | none => rw [h] at hj; cases hj
      | some x => rw [h] at hj; exact ⟨x, rfl, by simpa using hj⟩
    obtain ⟨bb, o, s⟩ := b
    have k : ∀ i v, i < 14 → (x.1.f.cells x.2)[i]? = some v → w.cell? ((⟨bb, o, s⟩ : Addr).add (j * 14 + i)) = some v := fun i v hi hv => hc (j * 14 + i) v ((pdCells_at L j i x hx1 hi).trans hv)
    have k' : ∀ i v, 0 < i → i < 14 → (x.1.f.cells x.2)[i]? = some v → w.cell? ⟨((⟨bb, o, s⟩ : Addr).add (j * 14)).block, ((⟨bb, o, s⟩ : Addr).add (j * 14)).off + i, none⟩ = some v := fun i v h0 hi hv => by rw [← add_off _ _ _ h0]; exact k i v hi hv
    have k0 := k 0 _ (by decide) rfl
    have hlt := World.block_lt_of_cell? w _ k0
    rw [add_block] at hlt
    exact ⟨bb, o, s, x.2, rfl, hlt, ⟨k0, k' 1 _ (by decide) (by decide) rfl, k' 2 _ (by decide) (by decide) rfl, k' 3 _ (by decide) (by decide) rfl, k' 4 _ (by decide) (by decide) rfl, k' 5 _ (by decide) (by decide) rfl, k' 6 _ (by decide) (by decide) rfl, k' 7 _ (by decide) (by decide) rfl, k' 8 _ (by decide) (by decide) rfl, k' 9 _ (by decide) (by decide) rfl, k' 10 _ (by decide) (by decide) rfl, k' 11 _ (by decide) (by decide) rfl, k' 12 _ (by decide) (by decide) rfl, k' 13 _ (by decide) (by decide) rfl⟩, hx x (List.mem_of_getElem? hx1)⟩
theorem PsCame.ps {d : Nat} {w : World} {u : Value} {ps : List Pd} (h : PsCame d w u ps) : PsAt (d + 1) w u ps := by
  obtain ⟨hl, L, rfl, hc, hx⟩ := h
  rw [List.length_map] at hl
  exact came_ps hc (by rw [List.length_map]) (by rw [List.length_map]; exact hl) hx
theorem PsCame.mono {d e : Nat} {w : World} {u : Value} {ps : List Pd} (h : PsCame d w u ps) (hd : d ≤ e) : PsCame e w u ps := by
  obtain ⟨hl, L, hL, hc, hx⟩ := h
  exact ⟨hl, L, hL, hc, fun x hm => (hx x hm).mono hd⟩
end Go.Proofs.YteimbdklakemaaaGreatDoor
