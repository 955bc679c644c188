/-
  PREDICATES IN THE BLOCKS OF A SET; a row of them cloned and written into: cells set one behind the other, with the slices of their cells; slices.Clone of predicates.
-/
import Derived.Test.YtghonbnmakggnaaDoorIterM
import Derived.Test.YtghonbnmakggnaaDoorGOwn
import Derived.Test.YtghonbnmakggnaaDoorGCame
import Derived.Laws.AppendOwnNone
import Derived.Lib.BufferMore
namespace Go.Proofs.YtghonbnmakggnaaDoor
open Go.RowKit Go.Sort
set_option maxHeartbeats 3200000

theorem PdCell.at_block {w w' : World} {X : Addr} {f : Pf} {u : Value} (h : PdCell w X f u) (hb : w'.heap[X.block]? = w.heap[X.block]?) : PdCell w' X f u :=
  have k : ∀ n, w'.cell? ⟨X.block, n, none⟩ = w.cell? ⟨X.block, n, none⟩ := fun n => World.cell?_of_block (a := ⟨X.block, n, none⟩) hb
  ⟨(World.cell?_of_block hb).trans h.c0, (k _).trans h.c1, (k _).trans h.c2, (k _).trans h.c3, (k _).trans h.c4, (k _).trans h.c5, (k _).trans h.c6, (k _).trans h.c7, (k _).trans h.c8, (k _).trans h.c9, (k _).trans h.c10, (k _).trans h.c11, (k _).trans h.c12, (k _).trans h.c13⟩
/-- predicates in blocks of T -/
def PsOn (T : Nat → Prop) : Nat → World → Value → List Pd → Prop
  | 0, _, v, l => l = [] ∧ ∃ A c, v = .slice A 0 c
  | d + 1, w, v, l => ∃ A c, v = .slice A l.length c ∧ l.length ≤ 9223372036854775807 ∧ ∀ (j : Nat) (p : Pd), l[j]? = some p → ∃ b o s u, A = some ⟨b, o, s⟩ ∧ T b ∧ b < w.heap.size ∧ PdCell w ((⟨b, o, s⟩ : Addr).add (j * 14)) p.f u ∧ PsOn T d w u p.ps
theorem PsOn.at_ {T : Nat → Prop} {d : Nat} : ∀ {w : World} {v : Value} {l : List Pd}, PsOn T d w v l → PsAt d w v l := by
  induction d with
  | zero => intro w v l h; exact h
  | succ d ih =>
    intro w v l h
    obtain ⟨A, c, hv, hc, hx⟩ := h
    refine ⟨A, c, hv, hc, fun j p hj => ?_⟩
    obtain ⟨b, o, s, u, hA, _, hlt, hcell, hp⟩ := hx j p hj
    exact ⟨b, o, s, u, hA, hlt, hcell, ih hp⟩
theorem PsAt.on {T : Nat → Prop} {d : Nat} : ∀ {w : World} {v : Value} {l : List Pd}, PsAt d w v l → (∀ k, k < w.heap.size → T k) → PsOn T d w v l := by
  induction d with
  | zero => intro w v l h _; exact h
  | succ d ih =>
    intro w v l h ht
    obtain ⟨A, c, hv, hc, hx⟩ := h
    refine ⟨A, c, hv, hc, fun j p hj => ?_⟩
    obtain ⟨b, o, s, u, hA, hlt, hcell, hp⟩ := hx j p hj
    exact ⟨b, o, s, u, hA, ht b hlt, hlt, hcell, ih hp ht⟩
theorem PsOn.keep {T T' : Nat → Prop} {d : Nat} {w w' : World} (hs : w.heap.size ≤ w'.heap.size) (hb : ∀ k, T k → k < w.heap.size → w'.heap[k]? = w.heap[k]? ∧ T' k) : ∀ {v : Value} {l : List Pd}, PsOn T d w v l → PsOn T' d w' v l := by
  induction d with
  | zero => intro v l h; exact h
  | succ d ih =>
    intro v l h
    obtain ⟨A, c, hv, hc, hx⟩ := h
    refine ⟨A, c, hv, hc, fun j p hj => ?_⟩
    obtain ⟨b, o, s, u, hA, ht, hlt, hcell, hp⟩ := hx j p hj
    obtain ⟨h1, h2⟩ := hb b ht hlt
    exact ⟨b, o, s, u, hA, h2, Nat.lt_of_lt_of_le hlt hs, hcell.at_block (by rw [add_block]; exact h1), ih hp⟩
theorem PsOn.more {T : Nat → Prop} {d : Nat} : ∀ {w : World} {v : Value} {l : List Pd}, PsOn T d w v l → PsOn T (d + 1) w v l := by
  induction d with
  | zero =>
    intro w v l h
    obtain ⟨rfl, A, c, rfl⟩ := h
    exact ⟨A, c, rfl, by simp, fun j a hj => by simp at hj⟩
  | succ d ih =>
    intro w v l h
    obtain ⟨A, c, hv, hc, hx⟩ := h
    refine ⟨A, c, hv, hc, fun j a hj => ?_⟩
    obtain ⟨b, o, s, u, hA, ht, hlt, hcell, hp⟩ := hx j a hj
    exact ⟨b, o, s, u, hA, ht, hlt, hcell, ih hp⟩
theorem PsOn.mono {T : Nat → Prop} {d e : Nat} {w : World} {v : Value} {l : List Pd} (h : PsOn T d w v l) (hd : d ≤ e) : PsOn T e w v l := by
  induction hd with
  | refl => exact h
  | step _ ih => exact ih.more
/-- the cells xs from place o on -/
def setMany : List Value → Nat → List Value → List Value
  | cs, _, [] => cs
  | cs, o, x :: r => setMany (cs.set o x) (o + 1) r
/-- stores, one behind the other -/
def setCells (W : World) (g : Nat) : Nat → List Value → World
  | _, [] => W
  | o, x :: r => setCells (W.setCell ⟨g, o, none⟩ x) g (o + 1) r
theorem setMany_length (xs : List Value) : ∀ (cs : List Value) (o : Nat), (setMany cs o xs).length = cs.length := by
  induction xs with
  | nil => intro cs o; rfl
  | cons x r ih => intro cs o; rw [setMany, ih, List.length_set]
theorem setMany_out (xs : List Value) : ∀ (cs : List Value) (o k : Nat), (k < o ∨ o + xs.length ≤ k) → (setMany cs o xs)[k]? = cs[k]? := by
  induction xs with
  | nil => intro cs o k _; rfl
  | cons x r ih =>
    intro cs o k h
    rw [List.length_cons] at h
    rw [setMany, ih _ _ _ (by omega), List.getElem?_set_ne (by omega)]
theorem setMany_in (xs : List Value) : ∀ (cs : List Value) (o i : Nat), i < xs.length → o + xs.length ≤ cs.length → (setMany cs o xs)[o + i]? = xs[i]? := by
  induction xs with
  | nil => intro cs o i h; simp at h
  | cons x r ih =>
    intro cs o i h hl
    rw [List.length_cons] at h hl
    rw [setMany]
    cases i with
    | zero =>
      show (setMany (cs.set o x) (o + 1) r)[o]? = some x
      rw [setMany_out _ _ _ _ (.inl (by omega)), List.getElem?_set_self (by omega)]
    | succ i => rw [show o + (i + 1) = o + 1 + i by omega, ih _ _ _ (by omega) (by rw [List.length_set]; omega)]; rfl
theorem Lies.sets {g : Nat} {T : TypeId} (xs : List Value) : ∀ {W : World} {cs : List Value} (o : Nat), Lies W g T cs → Lies (setCells W g o xs) g T (setMany cs o xs) := by
  induction xs with
  | nil => intro W cs o h; exact h
  | cons x r ih => intro W cs o h; exact ih (o + 1) (h.set o x)
theorem setCells_size (g : Nat) (xs : List Value) : ∀ (W : World) (o : Nat), (setCells W g o xs).heap.size = W.heap.size := by
  induction xs with
  | nil => intro W o; rfl
  | cons x r ih => intro W o; rw [setCells, ih]; simp [World.setCell]
theorem setCells_other (g k : Nat) (hk : k ≠ g) (xs : List Value) : ∀ (W : World) (o : Nat), (setCells W g o xs).heap[k]? = W.heap[k]? := by
  induction xs with
  | nil => intro W o; rfl
  | cons x r ih => intro W o; rw [setCells, ih]; exact Below.heap_setCell _ _ _ _ hk
theorem Below.sets {B g : Nat} (hg : B ≤ g) (xs : List Value) : ∀ {w W : World} (o : Nat), Below B w W → Below B w (setCells W g o xs) := by
  induction xs with
  | nil => intro w W o h; exact h
  | cons x r ih => intro w W o h; exact ih (o + 1) (h.setCell hg x)
theorem PsIn.on {lo d : Nat} : ∀ {w : World} {v : Value} {l : List Pd}, PsIn lo d w v l → PsOn (fun k => lo ≤ k) d w v l := by
  induction d with
  | zero => intro w v l h; exact h
  | succ d ih =>
    intro w v l h
    obtain ⟨A, c, hv, hc, hx⟩ := h
    refine ⟨A, c, hv, hc, fun j p hj => ?_⟩
    obtain ⟨b, o, s, u, hA, hlo, hlt, hcell, hp⟩ := hx j p hj
    exact ⟨b, o, s, u, hA, hlo, hlt, hcell, ih hp⟩
theorem add_more (b : Addr) (m i : Nat) (h : 0 < i) : b.add (m + i) = ⟨(b.add m).block, (b.add m).off + i, none⟩ := by
  unfold Addr.add
  rw [if_neg (by omega)]
  split
  · next h0 => subst h0; simp
  · simp; omega
theorem pdCells_length (L : List (Pd × Value)) : (pdCells L).length = L.length * 14 := by
  induction L with
  | nil => rfl
  | cons x r ih =>
    have e : pdCells (x :: r) = x.1.f.cells x.2 ++ pdCells r := rfl
    rw [e, List.length_append, ih, cells_len, List.length_cons]; omega
/-- a list of pairs that goes with a list -/
theorem pairs_of {α β : Type} {l : List α} {Q : Nat → α → β → Prop} (h : ∀ (j : Nat) (a : α), l[j]? = some a → ∃ x, Q j a x) : ∃ L : List (α × β), L.map (·.1) = l ∧ ∀ (j : Nat) (x : α × β), L[j]? = some x → Q j x.1 x.2 := by
  obtain ⟨L, hl, hL⟩ := list_of (α := α × β) (Q := fun j x => l[j]? = some x.1 ∧ Q j x.1 x.2) l.length (fun i hi => by
    obtain ⟨x, hx⟩ := h i _ (List.getElem?_eq_getElem hi)
    exact ⟨(l[i], x), List.getElem?_eq_getElem hi, hx⟩)
  refine ⟨L, List.ext_getElem? fun j => ?_, fun j x hj => (hL j x hj).2⟩
  rw [List.getElem?_map]
  cases hj : L[j]? with
  | none =>
    rw [List.getElem?_eq_none_iff] at hj
    exact (List.getElem?_eq_none_iff.2 (by omega)).symm
  | some x => exact (hL j x hj).1.symm
/-- predicates that lie at a slice, with the slices of their parts -/
theorem PsAt.rows {d : Nat} {w : World} {A : Option Addr} {n c : Nat} {l : List Pd} (h : PsAt (d + 1) w (.slice A n c) l) :
    ∃ L : List (Pd × Value), L.map (·.1) = l ∧ ∀ (j : Nat) (x : Pd × Value), L[j]? = some x → ∃ b o s, A = some ⟨b, o, s⟩ ∧ b < w.heap.size ∧ PdCell w ((⟨b, o, s⟩ : Addr).add (j * 14)) x.1.f x.2 ∧ PsAt d w x.2 x.1.ps := by
  obtain ⟨A', c', hv, _, hx⟩ := h
  cases hv
  exact pairs_of (Q := fun j (p : Pd) u => ∃ b o s, A = some ⟨b, o, s⟩ ∧ b < w.heap.size ∧ PdCell w ((⟨b, o, s⟩ : Addr).add (j * 14)) p.f u ∧ PsAt d w u p.ps) fun j p hj => by
    obtain ⟨b, o, s, u, h1, h2, h3, h4⟩ := hx j p hj
    exact ⟨u, b, o, s, h1, h2, h3, h4⟩
/-- their cells, one by one -/
theorem pdCells_here {w : World} {b : Addr} {L : List (Pd × Value)} (h : ∀ (j : Nat) (x : Pd × Value), L[j]? = some x → PdCell w (b.add (j * 14)) x.1.f x.2) : ∀ (k : Nat) (u : Value), (pdCells L)[k]? = some u → w.cell? (b.add k) = some u := by
  intro k u hk
  have hlt := (List.getElem?_eq_some_iff.1 hk).1
  rw [pdCells_length] at hlt
  have hj : k / 14 < L.length := by omega
  obtain ⟨x, hx⟩ : ∃ x, L[k / 14]? = some x := ⟨_, List.getElem?_eq_getElem hj⟩
  have hi : k % 14 < 14 := Nat.mod_lt _ (by decide)
  have hke : k = k / 14 * 14 + k % 14 := by omega
  rw [hke, pdCells_at L _ _ x hx hi] at hk
  obtain ⟨c0, c1, c2, c3, c4, c5, c6, c7, c8, c9, c10, c11, c12, c13⟩ := h _ x hx
  rw [hke]
  generalize k % 14 = i at hk hi ⊢
  match i, hi with
  | 0, _ => cases hk; exact c0
  | 1, _ => cases hk; rw [add_more _ _ _ (by decide)]; exact c1
  | 2, _ => cases hk; rw [add_more _ _ _ (by decide)]; exact c2
  | 3, _ => cases hk; rw [add_more _ _ _ (by decide)]; exact c3
  | 4, _ => cases hk; rw [add_more _ _ _ (by decide)]; exact c4
  | 5, _ => cases hk; rw [add_more _ _ _ (by decide)]; exact c5
  | 6, _ => cases hk; rw [add_more _ _ _ (by decide)]; exact c6
  | 7, _ => cases hk; rw [add_more _ _ _ (by decide)]; exact c7
  | 8, _ => cases hk; rw [add_more _ _ _ (by decide)]; exact c8
  | 9, _ => cases hk; rw [add_more _ _ _ (by decide)]; exact c9
  | 10, _ => cases hk; rw [add_more _ _ _ (by decide)]; exact c10
  | 11, _ => cases hk; rw [add_more _ _ _ (by decide)]; exact c11
  | 12, _ => cases hk; rw [add_more _ _ _ (by decide)]; exact c12
  | 13, _ => cases hk; rw [add_more _ _ _ (by decide)]; exact c13
/-- block g holds the cells of a row, and what is spare -/
def RowLies (w : World) (g : Nat) (T : TypeId) (xs : List Value) : Prop := ∃ cs, Lies w g T cs ∧ xs.length ≤ cs.length ∧ ∀ (k : Nat) (u : Value), xs[k]? = some u → cs[k]? = some u
theorem RowLies.cell {w : World} {g : Nat} {T : TypeId} {xs : List Value} (h : RowLies w g T xs) {k : Nat} {u : Value} (hk : xs[k]? = some u) : w.cell? ⟨g, k, none⟩ = some u := by
  obtain ⟨cs, hl, _, hx⟩ := h
  exact hl.cell (hx k u hk)
theorem RowLies.free {w : World} {g : Nat} {T : TypeId} {xs : List Value} (h : RowLies w g T xs) (k : Nat) : w.frozen? ⟨g, k, none⟩ = false := by
  obtain ⟨cs, hl, _, _⟩ := h
  exact hl.free k
theorem RowLies.lt {w : World} {g : Nat} {T : TypeId} {xs : List Value} (h : RowLies w g T xs) : g < w.heap.size := by
  obtain ⟨cs, hl, _, _⟩ := h
  exact hl.lt
theorem RowLies.block {w w' : World} {g : Nat} {T : TypeId} {xs : List Value} (h : RowLies w g T xs) (hb : w'.heap[g]? = w.heap[g]?) : RowLies w' g T xs := by
  obtain ⟨cs, hl, h1, h2⟩ := h
  exact ⟨cs, hb.trans hl, h1, h2⟩
theorem RowLies.sets {w : World} {g : Nat} {T : TypeId} {xs ys zs : List Value} {o : Nat} (h : RowLies w g T xs) (hl : zs.length = xs.length) (ho : o + ys.length ≤ xs.length) (h1 : ∀ k, (k < o ∨ o + ys.length ≤ k) → zs[k]? = xs[k]?) (h2 : ∀ i, i < ys.length → zs[o + i]? = ys[i]?) :
    RowLies (setCells w g o ys) g T zs := by
  obtain ⟨cs, hc, hlen, hx⟩ := h
  refine ⟨setMany cs o ys, hc.sets ys o, by rw [setMany_length]; omega, fun k u hk => ?_⟩
  by_cases hko : k < o ∨ o + ys.length ≤ k
  · rw [setMany_out _ _ _ _ hko]
    exact hx k u ((h1 k hko).symm.trans hk)
  · obtain ⟨i, rfl⟩ : ∃ i, k = o + i := ⟨k - o, by omega⟩
    rw [setMany_in _ _ _ _ (by omega) (by omega), ← h2 i (by omega)]
    exact hk
theorem RowLies.own {w : World} {base g n c size : Nat} {T : TypeId} {xs : List Value} (h : w.ownsRow base T size (.slice (some ⟨g, 0, none⟩) n c) n xs) (hlen : xs.length = n * size) : RowLies w g T xs ∧ base ≤ g ∧ n ≤ c := by
  rcases h.2 with ⟨hv, _⟩ | ⟨g', cap, cur, hv, hb, hg, hnc, hrest⟩
  · cases hv
  · cases hv
    have hc := h.cells (g := g) rfl
    refine ⟨⟨cur.toList, by show w.heap[g]? = _; rw [hg, Array.toArray_toList], ?_, fun k u hk => ?_⟩, hb, hnc⟩
    · by_cases hz : xs.length ≤ cur.size
      · simpa using hz
      · exfalso
        have hlast : xs[xs.length - 1]? = some (xs[xs.length - 1]'(by omega)) := List.getElem?_eq_getElem _
        have hc2 := hc _ _ hlast
        rw [add_here] at hc2
        unfold World.cell? at hc2
        rw [show w.heap[g]? = _ from hg] at hc2
        have := (Array.getElem?_eq_some_iff.1 (show cur[xs.length - 1]? = _ from by simpa using hc2)).1
        omega
    · have hc2 := hc k u hk
      rw [add_here] at hc2
      unfold World.cell? at hc2
      rw [show w.heap[g]? = _ from hg] at hc2
      simpa using hc2
theorem pdCells_put {L : List (Pd × Value)} {q : Nat} {y : Pd × Value} (hq : q < L.length) : (pdCells (L.set q y)).length = (pdCells L).length ∧ (∀ k, (k < q * 14 ∨ q * 14 + 14 ≤ k) → (pdCells (L.set q y))[k]? = (pdCells L)[k]?) ∧ ∀ i, i < 14 → (pdCells (L.set q y))[q * 14 + i]? = (y.1.f.cells y.2)[i]? := by
  have hlen : (pdCells (L.set q y)).length = (pdCells L).length := by rw [pdCells_length, pdCells_length, List.length_set]
  refine ⟨hlen, fun k hk => ?_, fun i hi => ?_⟩
  · by_cases hkl : k < (pdCells L).length
    · rw [pdCells_length] at hkl
      have hj : k / 14 < L.length := by omega
      have hjq : q ≠ k / 14 := by omega
      have hke : k = k / 14 * 14 + k % 14 := by omega
      obtain ⟨x, hx⟩ : ∃ x, L[k / 14]? = some x := ⟨_, List.getElem?_eq_getElem hj⟩
      have hx2 : (L.set q y)[k / 14]? = some x := by rw [List.getElem?_set_ne hjq]; exact hx
      rw [hke, pdCells_at (L.set q y) _ _ _ hx2 (Nat.mod_lt _ (by decide)), pdCells_at L _ _ _ hx (Nat.mod_lt _ (by decide))]
    · rw [List.getElem?_eq_none (by omega), List.getElem?_eq_none (by omega)]
  · exact pdCells_at (L.set q y) _ _ _ (List.getElem?_set_self hq) hi
theorem RowLies.pd {w : World} {g : Nat} {T : TypeId} {M : List (Pd × Value)} (h : RowLies w g T (pdCells M)) {j : Nat} {x : Pd × Value} (hx : M[j]? = some x) : PdCell w ⟨g, j * 14, none⟩ x.1.f x.2 :=
  have k : ∀ i u, i < 14 → (x.1.f.cells x.2)[i]? = some u → w.cell? ⟨g, j * 14 + i, none⟩ = some u := fun i u hi hu => h.cell (by rw [pdCells_at M _ _ x hx hi]; exact hu)
  ⟨k 0 _ (by decide) rfl, k 1 _ (by decide) rfl, k 2 _ (by decide) rfl, k 3 _ (by decide) rfl, k 4 _ (by decide) rfl, k 5 _ (by decide) rfl, k 6 _ (by decide) rfl, k 7 _ (by decide) rfl, k 8 _ (by decide) rfl, k 9 _ (by decide) rfl, k 10 _ (by decide) rfl, k 11 _ (by decide) rfl, k 12 _ (by decide) rfl, k 13 _ (by decide) rfl⟩
end Go.Proofs.YtghonbnmakggnaaDoor
