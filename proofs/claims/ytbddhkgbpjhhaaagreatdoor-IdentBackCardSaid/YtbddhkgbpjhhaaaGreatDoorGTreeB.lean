/-
  LAID TOGETHER, BY PROGRAM, of: Psn, Trn, Trw, Trx, Try, Trp, Trl, Trlp, Trlt, Trlc, Trap, Trwk, Trwl, Trt, TrCame.
-/
import Derived.Test.YtbddhkgbpjhhaaaGreatDoorGIter
import Derived.Test.YtbddhkgbpjhhaaaGreatDoorGOwn
import Derived.Test.YtbddhkgbpjhhaaaGreatDoorGCame
import Derived.Test.YtbddhkgbpjhhaaaGreatDoorGTreeA
import Derived.Test.YtbddhkgbpjhhaaaGreatDoorGBase
import Derived.Laws.AppendOwnNone
import Derived.Lib.BufferMore
import Derived.Laws.EntriesVeiled
import Derived.Deep.RegionWith
import Derived.Deep.Cut
import Derived.Deep.CutRange
namespace Go.Proofs.YtbddhkgbpjhhaaaGreatDoor
open Go.RowKit Go.Sort
set_option maxHeartbeats 3200000
theorem PdCell.at_block {w w' : World} {X : Addr} {f : Pf} {u : Value} (h : PdCell w X f u) (hb : w'.heap[X.block]? = w.heap[X.block]?) : PdCell w' X f u :=
  have k : ∀ n, w'.cell? ⟨X.block, n, none⟩ = w.cell? ⟨X.block, n, none⟩ := fun n => World.cell?_of_block (a := ⟨X.block, n, none⟩) hb
  ⟨(World.cell?_of_block hb).trans h.c0, (k _).trans h.c1, (k _).trans h.c2, (k _).trans h.c3, (k _).trans h.c4, (k _).trans h.c5, (k _).trans h.c6, (k _).trans h.c7, (k _).trans h.c8, (k _).trans h.c9, (k _).trans h.c10, (k _).trans h.c11, (k _).trans h.c12, (k _).trans h.c13⟩
def PsOn (T : Nat → Prop) : Nat → World → Value → List Pd → Prop
  | 0, _, v, l => l = [] ∧ ∃ A c, v = .slice A 0 c
  | d + 1, w, v, l => ∃ A c, v = .slice A l.length c ∧ l.length ≤ 9223372036854775807 ∧ ∀ (j : Nat) (p : Pd), l[j]? = some p → ∃ b o s u, A = some ⟨b, o, s⟩ ∧ T b ∧ b < w.heap.size ∧ PdCell w ((⟨b, o, s⟩ : Addr).add (j * 14)) p.f u ∧ PsOn T d w u p.ps
theorem PsOn.at_ {T : Nat → Prop} {d : Nat} : ∀ {w : World} {v : Value} {l : List Pd}, PsOn T d w v l → PsAt d w v l := by
  induction d with
  | zero => intro w v l h; exact h
  | succ d ih =>
    intro w v l h
    obtain ⟨A, c, hv, hc, hx⟩ := h
    refine ⟨A, c, hv, hc, fun j p hj => ?_⟩
    obtain ⟨b, o, s, u, hA, _, hlt, hcell, hp⟩ := hx j p hj
    exact ⟨b, o, s, u, hA, hlt, hcell, ih hp⟩
theorem PsAt.on {T : Nat → Prop} {d : Nat} : ∀ {w : World} {v : Value} {l : List Pd}, PsAt d w v l → (∀ k, k < w.heap.size → T k) → PsOn T d w v l := by
  induction d with
  | zero => intro w v l h _; exact h
  | succ d ih =>
    intro w v l h ht
    obtain ⟨A, c, hv, hc, hx⟩ := h
    refine ⟨A, c, hv, hc, fun j p hj => ?_⟩
    obtain ⟨b, o, s, u, hA, hlt, hcell, hp⟩ := hx j p hj
    exact ⟨b, o, s, u, hA, ht b hlt, hlt, hcell, ih hp ht⟩
theorem PsOn.keep {T T' : Nat → Prop} {d : Nat} {w w' : World} (hs : w.heap.size ≤ w'.heap.size) (hb : ∀ k, T k → k < w.heap.size → w'.heap[k]? = w.heap[k]? ∧ T' k) : ∀ {v : Value} {l : List Pd}, PsOn T d w v l → PsOn T' d w' v l := by
  induction d with
  | zero => intro v l h; exact h
  | succ d ih =>
    intro v l h
    obtain ⟨A, c, hv, hc, hx⟩ := h
    refine ⟨A, c, hv, hc, fun j p hj => ?_⟩
    obtain ⟨b, o, s, u, hA, ht, hlt, hcell, hp⟩ := hx j p hj
    obtain ⟨h1, h2⟩ := hb b ht hlt
    exact ⟨b, o, s, u, hA, h2, Nat.lt_of_lt_of_le hlt hs, hcell.at_block (by rw [add_block]; exact h1), ih hp⟩
theorem PsOn.more {T : Nat → Prop} {d : Nat} : ∀ {w : World} {v : Value} {l : List Pd}, PsOn T d w v l → PsOn T (d + 1) w v l := by
  induction d with
  | zero =>
    intro w v l h
    obtain ⟨rfl, A, c, rfl⟩ := h
    exact ⟨A, c, rfl, by simp, fun j a hj => by simp at hj⟩
  | succ d ih =>
    intro w v l h
    obtain ⟨A, c, hv, hc, hx⟩ := h
    refine ⟨A, c, hv, hc, fun j a hj => ?_⟩
    obtain ⟨b, o, s, u, hA, ht, hlt, hcell, hp⟩ := hx j a hj
    exact ⟨b, o, s, u, hA, ht, hlt, hcell, ih hp⟩
theorem PsOn.mono {T : Nat → Prop} {d e : Nat} {w : World} {v : Value} {l : List Pd} (h : PsOn T d w v l) (hd : d ≤ e) : PsOn T e w v l := by
  induction hd with
  | refl => exact h
  | step _ ih => exact ih.more
def setMany : List Value → Nat → List Value → List Value
  | cs, _, [] => cs
  | cs, o, x :: r => setMany (cs.set o x) (o + 1) r
def setCells (W : World) (g : Nat) : Nat → List Value → World
  | _, [] => W
  | o, x :: r => setCells (W.setCell ⟨g, o, none⟩ x) g (o + 1) r
theorem setMany_length (xs : List Value) : ∀ (cs : List Value) (o : Nat), (setMany cs o xs).length = cs.length := by
  induction xs with
  | nil => intro cs o; rfl
  | cons x r ih => intro cs o; rw [setMany, ih, List.length_set]
theorem setMany_out (xs : List Value) : ∀ (cs : List Value) (o k : Nat), (k < o ∨ o + xs.length ≤ k) → (setMany cs o xs)[k]? = cs[k]? := by
  induction xs with
  | nil => intro cs o k _; rfl
  | cons x r ih =>
    intro cs o k h
    rw [List.length_cons] at h
    rw [setMany, ih _ _ _ (by omega), List.getElem?_set_ne (by omega)]
theorem setMany_in (xs : List Value) : ∀ (cs : List Value) (o i : Nat), i < xs.length → o + xs.length ≤ cs.length → (setMany cs o xs)[o + i]? = xs[i]? := by
  induction xs with
  | nil => intro cs o i h; simp at h
  | cons x r ih =>
    intro cs o i h hl
    rw [List.length_cons] at h hl
    rw [setMany]
    cases i with
    | zero =>
      show (setMany (cs.set o x) (o + 1) r)[o]? = some x
      rw [setMany_out _ _ _ _ (.inl (by omega)), List.getElem?_set_self (by omega)]
    | succ i => rw [show o + (i + 1) = o + 1 + i by omega, ih _ _ _ (by omega) (by rw [List.length_set]; omega)]; rfl
theorem Lies.sets {g : Nat} {T : TypeId} (xs : List Value) : ∀ {W : World} {cs : List Value} (o : Nat), Lies W g T cs → Lies (setCells W g o xs) g T (setMany cs o xs) := by
  induction xs with
  | nil => intro W cs o h; exact h
  | cons x r ih => intro W cs o h; exact ih (o + 1) (h.set o x)
theorem setCells_size (g : Nat) (xs : List Value) : ∀ (W : World) (o : Nat), (setCells W g o xs).heap.size = W.heap.size := by
  induction xs with
  | nil => intro W o; rfl
  | cons x r ih => intro W o; rw [setCells, ih]; simp [World.setCell]
theorem setCells_other (g k : Nat) (hk : k ≠ g) (xs : List Value) : ∀ (W : World) (o : Nat), (setCells W g o xs).heap[k]? = W.heap[k]? := by
  induction xs with
  | nil => intro W o; rfl
  | cons x r ih => intro W o; rw [setCells, ih]; exact Below.heap_setCell _ _ _ _ hk
theorem Below.sets {B g : Nat} (hg : B ≤ g) (xs : List Value) : ∀ {w W : World} (o : Nat), Below B w W → Below B w (setCells W g o xs) := by
  induction xs with
  | nil => intro w W o h; exact h
  | cons x r ih => intro w W o h; exact ih (o + 1) (h.setCell hg x)
theorem PsIn.on {lo d : Nat} : ∀ {w : World} {v : Value} {l : List Pd}, PsIn lo d w v l → PsOn (fun k => lo ≤ k) d w v l := by
  induction d with
  | zero => intro w v l h; exact h
  | succ d ih =>
    intro w v l h
    obtain ⟨A, c, hv, hc, hx⟩ := h
    refine ⟨A, c, hv, hc, fun j p hj => ?_⟩
    obtain ⟨b, o, s, u, hA, hlo, hlt, hcell, hp⟩ := hx j p hj
    exact ⟨b, o, s, u, hA, hlo, hlt, hcell, ih hp⟩
theorem add_more (b : Addr) (m i : Nat) (h : 0 < i) : b.add (m + i) = ⟨(b.add m).block, (b.add m).off + i, none⟩ := by
  unfold Addr.add
  rw [if_neg (by omega)]
  split
  · next h0 => subst h0; simp
  · simp; omega
theorem pdCells_length (L : List (Pd × Value)) : (pdCells L).length = L.length * 14 := by
  induction L with
  | nil => rfl
  | cons x r ih =>
    have e : pdCells (x :: r) = x.1.f.cells x.2 ++ pdCells r := rfl
    rw [e, List.length_append, ih, cells_len, List.length_cons]; omega
theorem pairs_of {α β : Type} {l : List α} {Q : Nat → α → β → Prop} (h : ∀ (j : Nat) (a : α), l[j]? = some a → ∃ x, Q j a x) : ∃ L : List (α × β), L.map (·.1) = l ∧ ∀ (j : Nat) (x : α × β), L[j]? = some x → Q j x.1 x.2 := by
  obtain ⟨L, hl, hL⟩ := list_of (α := α × β) (Q := fun j x => l[j]? = some x.1 ∧ Q j x.1 x.2) l.length (fun i hi => by
    obtain ⟨x, hx⟩ := h i _ (List.getElem?_eq_getElem hi)
    exact ⟨(l[i], x), List.getElem?_eq_getElem hi, hx⟩)
  refine ⟨L, List.ext_getElem? fun j => ?_, fun j x hj => (hL j x hj).2⟩
  rw [List.getElem?_map]
  cases hj : L[j]? with
  | none =>
    rw [List.getElem?_eq_none_iff] at hj
    exact (List.getElem?_eq_none_iff.2 (by omega)).symm
  | some x => exact (hL j x hj).1.symm
theorem PsAt.rows {d : Nat} {w : World} {A : Option Addr} {n c : Nat} {l : List Pd} (h : PsAt (d + 1) w (.slice A n c) l) :
    ∃ L : List (Pd × Value), L.map (·.1) = l ∧ ∀ (j : Nat) (x : Pd × Value), L[j]? = some x → ∃ b o s, A = some ⟨b, o, s⟩ ∧ b < w.heap.size ∧ PdCell w ((⟨b, o, s⟩ : Addr).add (j * 14)) x.1.f x.2 ∧ PsAt d w x.2 x.1.ps := by
  obtain ⟨A', c', hv, _, hx⟩ := h
  cases hv
  exact pairs_of (Q := fun j (p : Pd) u => ∃ b o s, A = some ⟨b, o, s⟩ ∧ b < w.heap.size ∧ PdCell w ((⟨b, o, s⟩ : Addr).add (j * 14)) p.f u ∧ PsAt d w u p.ps) fun j p hj => by
    obtain ⟨b, o, s, u, h1, h2, h3, h4⟩ := hx j p hj
    exact ⟨u, b, o, s, h1, h2, h3, h4⟩
theorem pdCells_here {w : World} {b : Addr} {L : List (Pd × Value)} (h : ∀ (j : Nat) (x : Pd × Value), L[j]? = some x → PdCell w (b.add (j * 14)) x.1.f x.2) : ∀ (k : Nat) (u : Value), (pdCells L)[k]? = some u → w.cell? (b.add k) = some u := by
  intro k u hk
  have hlt := (List.getElem?_eq_some_iff.1 hk).1
  rw [pdCells_length] at hlt
  have hj : k / 14 < L.length := by omega
  obtain ⟨x, hx⟩ : ∃ x, L[k / 14]? = some x := ⟨_, List.getElem?_eq_getElem hj⟩
  have hi : k % 14 < 14 := Nat.mod_lt _ (by decide)
  have hke : k = k / 14 * 14 + k % 14 := by omega
  rw [hke, pdCells_at L _ _ x hx hi] at hk
  obtain ⟨c0, c1, c2, c3, c4, c5, c6, c7, c8, c9, c10, c11, c12, c13⟩ := h _ x hx
  rw [hke]
  generalize k % 14 = i at hk hi ⊢
  match i, hi with
  | 0, _ => cases hk; exact c0
  | 1, _ => cases hk; rw [add_more _ _ _ (by decide)]; exact c1
  | 2, _ => cases hk; rw [add_more _ _ _ (by decide)]; exact c2
  | 3, _ => cases hk; rw [add_more _ _ _ (by decide)]; exact c3
  | 4, _ => cases hk; rw [add_more _ _ _ (by decide)]; exact c4
  | 5, _ => cases hk; rw [add_more _ _ _ (by decide)]; exact c5
  | 6, _ => cases hk; rw [add_more _ _ _ (by decide)]; exact c6
  | 7, _ => cases hk; rw [add_more _ _ _ (by decide)]; exact c7
  | 8, _ => cases hk; rw [add_more _ _ _ (by decide)]; exact c8
  | 9, _ => cases hk; rw [add_more _ _ _ (by decide)]; exact c9
  | 10, _ => cases hk; rw [add_more _ _ _ (by decide)]; exact c10
  | 11, _ => cases hk; rw [add_more _ _ _ (by decide)]; exact c11
  | 12, _ => cases hk; rw [add_more _ _ _ (by decide)]; exact c12
  | 13, _ => cases hk; rw [add_more _ _ _ (by decide)]; exact c13
def RowLies (w : World) (g : Nat) (T : TypeId) (xs : List Value) : Prop := ∃ cs, Lies w g T cs ∧ xs.length ≤ cs.length ∧ ∀ (k : Nat) (u : Value), xs[k]? = some u → cs[k]? = some u
theorem RowLies.cell {w : World} {g : Nat} {T : TypeId} {xs : List Value} (h : RowLies w g T xs) {k : Nat} {u : Value} (hk : xs[k]? = some u) : w.cell? ⟨g, k, none⟩ = some u := by
  obtain ⟨cs, hl, _, hx⟩ := h
  exact hl.cell (hx k u hk)
theorem RowLies.free {w : World} {g : Nat} {T : TypeId} {xs : List Value} (h : RowLies w g T xs) (k : Nat) : w.frozen? ⟨g, k, none⟩ = false := by
  obtain ⟨cs, hl, _, _⟩ := h
  exact hl.free k
theorem RowLies.lt {w : World} {g : Nat} {T : TypeId} {xs : List Value} (h : RowLies w g T xs) : g < w.heap.size := by
  obtain ⟨cs, hl, _, _⟩ := h
  exact hl.lt
theorem RowLies.block {w w' : World} {g : Nat} {T : TypeId} {xs : List Value} (h : RowLies w g T xs) (hb : w'.heap[g]? = w.heap[g]?) : RowLies w' g T xs := by
  obtain ⟨cs, hl, h1, h2⟩ := h
  exact ⟨cs, hb.trans hl, h1, h2⟩
theorem RowLies.sets {w : World} {g : Nat} {T : TypeId} {xs ys zs : List Value} {o : Nat} (h : RowLies w g T xs) (hl : zs.length = xs.length) (ho : o + ys.length ≤ xs.length) (h1 : ∀ k, (k < o ∨ o + ys.length ≤ k) → zs[k]? = xs[k]?) (h2 : ∀ i, i < ys.length → zs[o + i]? = ys[i]?) :
    RowLies (setCells w g o ys) g T zs := by
  obtain ⟨cs, hc, hlen, hx⟩ := h
  refine ⟨setMany cs o ys, hc.sets ys o, by rw [setMany_length]; omega, fun k u hk => ?_⟩
  by_cases hko : k < o ∨ o + ys.length ≤ k
  · rw [setMany_out _ _ _ _ hko]
    exact hx k u ((h1 k hko).symm.trans hk)
  · obtain ⟨i, rfl⟩ : ∃ i, k = o + i := ⟨k - o, by omega⟩
    rw [setMany_in _ _ _ _ (by omega) (by omega), ← h2 i (by omega)]
    exact hk
theorem RowLies.own {w : World} {base g n c size : Nat} {T : TypeId} {xs : List Value} (h : w.ownsRow base T size (.slice (some ⟨g, 0, none⟩) n c) n xs) (hlen : xs.length = n * size) : RowLies w g T xs ∧ base ≤ g ∧ n ≤ c := by
  rcases h.2 with ⟨hv, _⟩ | ⟨g', cap, cur, hv, hb, hg, hnc, hrest⟩
  · cases hv
  · cases hv
    have hc := h.cells (g := g) rfl
    refine ⟨⟨cur.toList, by show w.heap[g]? = _; rw [hg, Array.toArray_toList], ?_, fun k u hk => ?_⟩, hb, hnc⟩
    · by_cases hz : xs.length ≤ cur.size
      · simpa using hz
      · exfalso
        have hlast : xs[xs.length - 1]? = some (xs[xs.length - 1]'(by omega)) := List.getElem?_eq_getElem _
        have hc2 := hc _ _ hlast
        rw [add_here] at hc2
        unfold World.cell? at hc2
        rw [show w.heap[g]? = _ from hg] at hc2
        have := (Array.getElem?_eq_some_iff.1 (show cur[xs.length - 1]? = _ from by simpa using hc2)).1
        omega
    · have hc2 := hc k u hk
      rw [add_here] at hc2
      unfold World.cell? at hc2
      rw [show w.heap[g]? = _ from hg] at hc2
      simpa using hc2
theorem pdCells_put {L : List (Pd × Value)} {q : Nat} {y : Pd × Value} (hq : q < L.length) : (pdCells (L.set q y)).length = (pdCells L).length ∧ (∀ k, (k < q * 14 ∨ q * 14 + 14 ≤ k) → (pdCells (L.set q y))[k]? = (pdCells L)[k]?) ∧ ∀ i, i < 14 → (pdCells (L.set q y))[q * 14 + i]? = (y.1.f.cells y.2)[i]? := by
  have hlen : (pdCells (L.set q y)).length = (pdCells L).length := by rw [pdCells_length, pdCells_length, List.length_set]
  refine ⟨hlen, fun k hk => ?_, fun i hi => ?_⟩
  · by_cases hkl : k < (pdCells L).length
    · rw [pdCells_length] at hkl
      have hj : k / 14 < L.length := by omega
      have hjq : q ≠ k / 14 := by omega
      have hke : k = k / 14 * 14 + k % 14 := by omega
      obtain ⟨x, hx⟩ : ∃ x, L[k / 14]? = some x := ⟨_, List.getElem?_eq_getElem hj⟩
      have hx2 : (L.set q y)[k / 14]? = some x := by rw [List.getElem?_set_ne hjq]; exact hx
      rw [hke, pdCells_at (L.set q y) _ _ _ hx2 (Nat.mod_lt _ (by decide)), pdCells_at L _ _ _ hx (Nat.mod_lt _ (by decide))]
    · rw [List.getElem?_eq_none (by omega), List.getElem?_eq_none (by omega)]
  · exact pdCells_at (L.set q y) _ _ _ (List.getElem?_set_self hq) hi
theorem RowLies.pd {w : World} {g : Nat} {T : TypeId} {M : List (Pd × Value)} (h : RowLies w g T (pdCells M)) {j : Nat} {x : Pd × Value} (hx : M[j]? = some x) : PdCell w ⟨g, j * 14, none⟩ x.1.f x.2 :=
  have k : ∀ i u, i < 14 → (x.1.f.cells x.2)[i]? = some u → w.cell? ⟨g, j * 14 + i, none⟩ = some u := fun i u hi hu => h.cell (by rw [pdCells_at M _ _ x hx hi]; exact hu)
  ⟨k 0 _ (by decide) rfl, k 1 _ (by decide) rfl, k 2 _ (by decide) rfl, k 3 _ (by decide) rfl, k 4 _ (by decide) rfl, k 5 _ (by decide) rfl, k 6 _ (by decide) rfl, k 7 _ (by decide) rfl, k 8 _ (by decide) rfl, k 9 _ (by decide) rfl, k 10 _ (by decide) rfl, k 11 _ (by decide) rfl, k 12 _ (by decide) rfl, k 13 _ (by decide) rfl⟩
set_option maxRecDepth 100000 in
theorem pclone_nil (c : Nat) (w : World) : Calls Tryz.prog 96 #[.slice none 0 c] w fun e w' => e = .returned (.slice none 0 0) ∧ w = w' := by
  have hnil := fun (W : World) => Lib.run_eql_slice_nil_nil (P := Tryz.prog) W 0 c Tryz.underlying24
  go_enter Tryz.func96, Tryz.ntmps96
  go_wp2_with (fail)
  go_ret
  exact ⟨rfl, rfl⟩
theorem pclone_some (b : Addr) (n c : Nat) (xs : List Value) (w : World) (hl : xs.length = n * 14) (hx : ∀ k u, xs[k]? = some u → w.cell? (b.add k) = some u) (h1 : ∀ u ∈ xs, u.oneCell' = true) (hn : n ≤ 1000000) :
    Calls Tryz.prog 96 #[.slice (some b) n c] w fun e w' => ∃ A c', e = .returned (.slice A n c') ∧ n ≤ c' ∧ Below w.heap.size w w' ∧ (n = 0 ∨ ∃ g, A = some ⟨g, 0, none⟩ ∧ w.heap.size ≤ g ∧ RowLies w' g 57 xs) := by
  obtain ⟨i0, hi, hz0, hz1, hz2⟩ := info_parts Tryz.infoPred
  have hsome := fun (W : World) => Lib.run_eql_slice_some_nil (P := Tryz.prog) W b n c Tryz.underlying24
  obtain ⟨W0, hW0⟩ : ∃ W0, W0 = w.alloc (Obj.cells #[] 57) := ⟨_, rfl⟩
  have hb0 : Below w.heap.size w W0 := by rw [hW0]; exact below_new _ _
  have hcell := Lib.hid (show ∀ k u, xs[k]? = some u → W0.cell? (b.add k) = some u from fun k u hk => (World.cell?_of_block (hb0.block _ (block_lt_of_cell (hx k u hk)))).trans (hx k u hk))
  have hown : Hid (W0.ownsRow w.heap.size 57 14 (.slice (some ⟨w.heap.size, 0, none⟩) 0 0) 0 []) := Lib.hid (by rw [hW0]; exact World.ownsRow_made w #[] 0 (Nat.le_refl _) (by decide) rfl)
  have HW := Lib.hid hW0
  have HL := Lib.hid hl
  have H1 := Lib.hid h1
  clear hW0 hx hl h1
  go_enter Tryz.func96, Tryz.ntmps96
  go_wp2_with (first
    | (at_builtin; rw [← HW.out]; refine wpList_append_own _ rfl _ _ 24 rfl w.heap.size 57 i0 (.agg #[.int .i64 0, .int .i64 0, .int .i64 0, .int .i64 0, .int .i64 0, .int .i64 0, .bool false, .int .i64 0, .int .i64 0, .int .i64 0, .int .i64 0, .bool false, .int .i64 0, .slice none 0 0]) 14 128 Tryz.underlying24 hi hz0 hz1 hz2 rfl (by decide) _ 0 [] rfl hown.out b n c xs rfl HL.out hcell.out H1.out (by unfold maxLen; omega) (by omega) hb0.size ?_))
  intro v' w' hown' hgrow _
  have hb2 : Below w.heap.size w w' := hb0.grown hgrow hb0.size (fun q hq => (hown.out.lt q hq).1)
  have hown2 : w'.ownsRow w.heap.size 57 14 v' n xs := by simpa using hown'
  have hres : ∃ A c', v' = .slice A n c' ∧ n ≤ c' ∧ (n = 0 ∨ ∃ g, A = some ⟨g, 0, none⟩ ∧ w.heap.size ≤ g ∧ RowLies w' g 57 xs) := by
    rcases id hown2.2 with ⟨hv, hn0⟩ | ⟨g, cap, cur, rfl, hbg, hg, hnc, _⟩
    · exact ⟨none, 0, by rw [hn0]; exact hv, by omega, .inl hn0⟩
    · obtain ⟨r1, r2, r3⟩ := RowLies.own hown2 HL.out
      exact ⟨_, cap, rfl, r3, .inr ⟨g, rfl, r2, r1⟩⟩
  obtain ⟨A, c', rfl, hnc, hor⟩ := hres
  have HR := Lib.hid hor
  have HB := Lib.hid hb2
  clear hown' hgrow hown hcell hown2 hor hb2
  go_wp2_with (fail)
  go_ret
  exact ⟨A, c', rfl, hnc, HB.out, HR.out⟩
end Go.Proofs.YtbddhkgbpjhhaaaGreatDoor
namespace Go.Proofs.YtbddhkgbpjhhaaaGreatDoor
open Go.RowKit
theorem TrCell.at_block {w w' : World} {X : Addr} {a : Tr} {u v : Value} (h : TrCell w X a u v) (hb : w'.heap[X.block]? = w.heap[X.block]?) : TrCell w' X a u v :=
  have k : ∀ n, w'.cell? ⟨X.block, n, none⟩ = w.cell? ⟨X.block, n, none⟩ := fun n => World.cell?_of_block (a := ⟨X.block, n, none⟩) hb
  ⟨(World.cell?_of_block hb).trans h.c0, (k _).trans h.c1, (k _).trans h.c2, (k _).trans h.c3, (k _).trans h.c4⟩
def TsOn (T : Nat → Prop) : Nat → World → Value → List Tr → Prop
  | 0, _, v, l => l = [] ∧ ∃ A c, v = .slice A 0 c
  | d + 1, w, v, l => ∃ A c, v = .slice A l.length c ∧ (l.length ≤ 9223372036854775807 ∧ l.length ≤ c) ∧ ∀ (j : Nat) (a : Tr), l[j]? = some a → ∃ b o s x y, A = some ⟨b, o, s⟩ ∧ T b ∧ b < w.heap.size ∧ TrCell w ((⟨b, o, s⟩ : Addr).add (j * 5)) a x y ∧ (∃ e, PsOn T e w y a.cs) ∧ TsOn T d w x a.ks
theorem TsOn.at_ {T : Nat → Prop} {d : Nat} : ∀ {w : World} {v : Value} {l : List Tr}, TsOn T d w v l → TsAt d w v l := by
  induction d with
  | zero => intro w v l h; exact h
  | succ d ih =>
    intro w v l h
    obtain ⟨A, c, hv, hc, hx⟩ := h
    refine ⟨A, c, hv, hc, fun j p hj => ?_⟩
    obtain ⟨b, o, s, x, y, hA, _, hlt, hcell, ⟨e, hp⟩, hk⟩ := hx j p hj
    exact ⟨b, o, s, x, y, hA, hlt, hcell, ⟨e, hp.at_⟩, ih hk⟩
theorem TsAt.on {T : Nat → Prop} {d : Nat} : ∀ {w : World} {v : Value} {l : List Tr}, TsAt d w v l → (∀ k, k < w.heap.size → T k) → TsOn T d w v l := by
  induction d with
  | zero => intro w v l h _; exact h
  | succ d ih =>
    intro w v l h ht
    obtain ⟨A, c, hv, hc, hx⟩ := h
    refine ⟨A, c, hv, hc, fun j p hj => ?_⟩
    obtain ⟨b, o, s, x, y, hA, hlt, hcell, ⟨e, hp⟩, hk⟩ := hx j p hj
    exact ⟨b, o, s, x, y, hA, ht b hlt, hlt, hcell, ⟨e, hp.on ht⟩, ih hk ht⟩
theorem TsOn.keep {T T' : Nat → Prop} {d : Nat} {w w' : World} (hs : w.heap.size ≤ w'.heap.size) (hb : ∀ k, T k → k < w.heap.size → w'.heap[k]? = w.heap[k]? ∧ T' k) : ∀ {v : Value} {l : List Tr}, TsOn T d w v l → TsOn T' d w' v l := by
  induction d with
  | zero => intro v l h; exact h
  | succ d ih =>
    intro v l h
    obtain ⟨A, c, hv, hc, hx⟩ := h
    refine ⟨A, c, hv, hc, fun j p hj => ?_⟩
    obtain ⟨b, o, s, x, y, hA, ht, hlt, hcell, ⟨e, hp⟩, hk⟩ := hx j p hj
    obtain ⟨h1, h2⟩ := hb b ht hlt
    exact ⟨b, o, s, x, y, hA, h2, Nat.lt_of_lt_of_le hlt hs, hcell.at_block (by rw [add_block]; exact h1), ⟨e, hp.keep hs hb⟩, ih hk⟩
theorem TsOn.more {T : Nat → Prop} {d : Nat} : ∀ {w : World} {v : Value} {l : List Tr}, TsOn T d w v l → TsOn T (d + 1) w v l := by
  induction d with
  | zero =>
    intro w v l h
    obtain ⟨rfl, A, c, rfl⟩ := h
    exact ⟨A, c, rfl, by simp, fun j a hj => by simp at hj⟩
  | succ d ih =>
    intro w v l h
    obtain ⟨A, c, hv, hc, hx⟩ := h
    refine ⟨A, c, hv, hc, fun j a hj => ?_⟩
    obtain ⟨b, o, s, x, y, hA, ht, hlt, hcell, hp, hk⟩ := hx j a hj
    exact ⟨b, o, s, x, y, hA, ht, hlt, hcell, hp, ih hk⟩
theorem TsOn.mono {T : Nat → Prop} {d e : Nat} {w : World} {v : Value} {l : List Tr} (h : TsOn T d w v l) (hd : d ≤ e) : TsOn T e w v l := by
  induction hd with
  | refl => exact h
  | step _ ih => exact ih.more
def TrOn (T : Nat → Prop) (w : World) (x : TrV) : Prop := (∃ d, TsOn T d w x.2.1 x.1.ks) ∧ ∃ d, PsOn T d w x.2.2 x.1.cs
theorem TrOn.hang {T : Nat → Prop} {w : World} {x : TrV} (h : TrOn T w x) : TrHang w x := by
  obtain ⟨⟨d, h1⟩, e, h2⟩ := h
  exact ⟨⟨d, h1.at_⟩, e, h2.at_⟩
theorem TrHang.on {T : Nat → Prop} {w : World} {x : TrV} (h : TrHang w x) (ht : ∀ k, k < w.heap.size → T k) : TrOn T w x := by
  obtain ⟨⟨d, h1⟩, e, h2⟩ := h
  exact ⟨⟨d, h1.on ht⟩, e, h2.on ht⟩
theorem TrOn.keep {T T' : Nat → Prop} {w w' : World} {x : TrV} (h : TrOn T w x) (hs : w.heap.size ≤ w'.heap.size) (hb : ∀ k, T k → k < w.heap.size → w'.heap[k]? = w.heap[k]? ∧ T' k) : TrOn T' w' x := by
  obtain ⟨⟨d, h1⟩, e, h2⟩ := h
  exact ⟨⟨d, h1.keep hs hb⟩, e, h2.keep hs hb⟩
abbrev trV (x : TrV) : Value := .agg #[.int .i64 x.1.k, .int .i64 x.1.t, x.2.1, x.2.2, .bool x.1.h]
def kidAt (w : World) (u : Value) (j i : Nat) : Value :=
  match u with
  | .slice (some A) _ _ => (w.cell? ⟨(A.add (j * 5)).block, (A.add (j * 5)).off + i, none⟩).getD undef
  | _ => undef
mutual
def Tr.flat (w : World) : Tr → Value → Value → List TrV
  | .mk k t h cs ks, u, v => Tr.flats w ks u 0 ++ [(.mk k t h cs ks, u, v)]
def Tr.flats (w : World) : List Tr → Value → Nat → List TrV
  | [], _, _ => []
  | b :: r, u, j => Tr.flat w b (kidAt w u j 2) (kidAt w u j 3) ++ Tr.flats w r u (j + 1)
end
theorem Tr.flat_at (w : World) (a : Tr) (u v : Value) : Tr.flat w a u v = Tr.flats w a.ks u 0 ++ [(a, u, v)] := by cases a; rw [Tr.flat]; rfl
theorem Tr.flats_snoc (w : World) (l : List Tr) (b : Tr) (u : Value) : ∀ j, Tr.flats w (l ++ [b]) u j = Tr.flats w l u j ++ Tr.flat w b (kidAt w u (j + l.length) 2) (kidAt w u (j + l.length) 3) := by
  induction l with
  | nil => intro j; rw [List.nil_append, Tr.flats, Tr.flats, Tr.flats, List.append_nil, List.nil_append]; rfl
  | cons a r ih =>
    intro j
    rw [List.cons_append, Tr.flats, Tr.flats, ih, List.append_assoc, List.length_cons, show j + 1 + r.length = j + (r.length + 1) by omega]
theorem Tr.flats_take (w : World) {l : List Tr} {q : Nat} {b : Tr} (h : l[q]? = some b) (u : Value) : Tr.flats w (l.take (q + 1)) u 0 = Tr.flats w (l.take q) u 0 ++ Tr.flat w b (kidAt w u q 2) (kidAt w u q 3) := by
  have hq : q < l.length := (List.getElem?_eq_some_iff.1 h).1
  rw [List.take_add_one, h]
  show Tr.flats w (l.take q ++ [b]) u 0 = _
  rw [Tr.flats_snoc, List.length_take, Nat.zero_add, Nat.min_eq_left (Nat.le_of_lt hq)]
theorem Tr.flats_split (w : World) {l : List Tr} {q : Nat} {b : Tr} (h : l[q]? = some b) (u : Value) : ∃ r, Tr.flats w l u 0 = Tr.flats w (l.take q) u 0 ++ (Tr.flat w b (kidAt w u q 2) (kidAt w u q 3) ++ r) := by
  have key : ∀ (l : List Tr) (q j : Nat), ∃ r, Tr.flats w l u j = Tr.flats w (l.take q) u j ++ r := by
    intro l
    induction l with
    | nil => intro q j; exact ⟨[], by simp [Tr.flats]⟩
    | cons a s ih =>
      intro q j
      cases q with
      | zero => exact ⟨_, by rw [List.take_zero, Tr.flats.eq_1, List.nil_append]⟩
      | succ q =>
        obtain ⟨r, hr⟩ := ih q (j + 1)
        exact ⟨r, by rw [List.take_succ_cons, Tr.flats, Tr.flats, hr, List.append_assoc]⟩
  obtain ⟨r, hr⟩ := key l (q + 1) 0
  exact ⟨r, by rw [hr, Tr.flats_take w h, List.append_assoc]⟩
theorem TsOn.one {T : Nat → Prop} {d : Nat} {w : World} {A : Option Addr} {c : Nat} {l : List Tr} {j : Nat} {a : Tr} (h : TsOn T d w (.slice A l.length c) l) (hj : l[j]? = some a) :
    ∃ e b o s x y, e < d ∧ A = some ⟨b, o, s⟩ ∧ T b ∧ b < w.heap.size ∧ x = kidAt w (.slice A l.length c) j 2 ∧ y = kidAt w (.slice A l.length c) j 3 ∧ TrCell w ((⟨b, o, s⟩ : Addr).add (j * 5)) a x y ∧ (∃ e, PsOn T e w y a.cs) ∧ TsOn T e w x a.ks := by
  cases d with
  | zero => obtain ⟨rfl, _⟩ := h; simp at hj
  | succ d =>
    obtain ⟨A', c', hv, _, hx⟩ := h
    cases hv
    obtain ⟨b, o, s, x, y, rfl, ht, hlt, hcell, hp, hk⟩ := hx j a hj
    refine ⟨d, b, o, s, x, y, Nat.lt_succ_self d, rfl, ht, hlt, ?_, ?_, hcell, hp, hk⟩
    · have := hcell.c2
      simp only [kidAt]
      rw [this]; rfl
    · have := hcell.c3
      simp only [kidAt]
      rw [this]; rfl
theorem Tr.flat_fst (w : World) (a : Tr) : ∀ u v, (Tr.flat w a u v).map (·.1) = Tr.all a := by
  refine Tr.ind (P := fun a => ∀ u v, (Tr.flat w a u v).map (·.1) = Tr.all a) (fun a ih => ?_) a
  intro u v
  rw [Tr.flat_at, Tr.all_at, List.map_append]
  have key : ∀ (l : List Tr), (∀ b ∈ l, ∀ u v, (Tr.flat w b u v).map (·.1) = Tr.all b) → ∀ j, (Tr.flats w l u j).map (·.1) = Tr.alls l := by
    intro l
    induction l with
    | nil => intro _ j; rw [Tr.flats, Tr.alls]; rfl
    | cons b r ih2 =>
      intro hl j
      rw [Tr.flats, Tr.alls, List.map_append, hl b List.mem_cons_self, ih2 fun c hc => hl c (List.mem_cons_of_mem _ hc)]
  rw [key a.ks ih]
  rfl
theorem Tr.flat_on {T : Nat → Prop} (w : World) (a : Tr) : ∀ u v, TrOn T w (a, u, v) → ∀ x ∈ Tr.flat w a u v, TrOn T w x := by
  refine Tr.ind (P := fun a => ∀ u v, TrOn T w (a, u, v) → ∀ x ∈ Tr.flat w a u v, TrOn T w x) (fun a ih => ?_) a
  intro u v h x hx
  rw [Tr.flat_at, List.mem_append, List.mem_singleton] at hx
  rcases hx with hx | rfl
  · obtain ⟨⟨d, hu⟩, _⟩ := h
    obtain ⟨A, c, hA, _⟩ := hu.at_.form
    change u = .slice A a.ks.length c at hA
    subst hA
    have key : ∀ (q : Nat), q ≤ a.ks.length → ∀ x ∈ Tr.flats w (a.ks.take q) (.slice A a.ks.length c) 0, TrOn T w x := by
      intro q
      induction q with
      | zero => intro _ x hx; rw [List.take_zero, Tr.flats] at hx; simp at hx
      | succ q ihq =>
        intro hq x hx
        have hb : a.ks[q]? = some (a.ks[q]'(by omega)) := List.getElem?_eq_getElem _
        rw [Tr.flats_take w hb, List.mem_append] at hx
        rcases hx with hx | hx
        · exact ihq (by omega) x hx
        · obtain ⟨e, _, _, _, _, _, _, _, _, _, hx2, hy2, _, hp, hk⟩ := hu.one hb
          rw [← hx2, ← hy2] at hx
          exact ih _ (List.getElem_mem _) _ _ ⟨⟨e, hk⟩, hp⟩ x hx
    exact key a.ks.length (Nat.le_refl _) x (by rw [List.take_length]; exact hx)
  · exact h
end Go.Proofs.YtbddhkgbpjhhaaaGreatDoor
namespace Go.Proofs.YtbddhkgbpjhhaaaGreatDoor
open Go.RowKit Go.Shelf
attribute [local go_sem] Oper.semAt_some
set_option maxHeartbeats 800000
structure TourEnv (T : Nat → Prop) (W0 : World) (l G Y : Nat) (O : Nat → Prop) (W : World) : Prop where
  size : W0.heap.size ≤ W.heap.size
  same : ∀ k, T k → k < W0.heap.size → W.heap[k]? = W0.heap[k]?
  no : ∀ k, T k → ¬ O k
  g : W.cell? ⟨G, 0, none⟩ = some (.func (.func 119) #[] #[.pointer (some ⟨G, 0, none⟩), .pointer (some ⟨Y, 0, none⟩)])
  y : W.cell? ⟨Y, 0, none⟩ = some (.func (.yield l) #[] #[])
  ng : ¬ O G
  ny : ¬ O Y
theorem TourEnv.chg {T : Nat → Prop} {W0 W W' : World} {l G Y : Nat} {O O' : Nat → Prop} (h : TourEnv T W0 l G Y O W) (hT : ∀ k, T k → k < W0.heap.size) (hc : Chg O W O' W') : TourEnv T W0 l G Y O' W' := by
  have hG := block_lt_of_cell h.g
  have hY := block_lt_of_cell h.y
  refine ⟨Nat.le_trans h.size hc.keeps.size, fun k hk hlt => ?_, fun k hk ho => ?_, hc.keeps.cell h.ng h.g, hc.keeps.cell h.ny h.y, fun ho => h.ng (hc.own _ hG ho), fun ho => h.ny (hc.own _ hY ho)⟩
  · exact (hc.keeps.same k (Nat.lt_of_lt_of_le hlt h.size) (h.no k hk)).trans (h.same k hk hlt)
  · exact h.no k hk (hc.own k (Nat.lt_of_lt_of_le (hT k hk) h.size) ho)
theorem Chg.alloc (O : Nat → Prop) (W : World) (o : Obj) : Chg O W O (W.alloc o) := ⟨Keeps.alloc _ W o, fun _ _ h => h⟩
set_option maxRecDepth 100000 in
theorem tour_any (T : Nat → Prop) (W0 : World) (hT : ∀ k, T k → k < W0.heap.size) (m l G Y : Nat) (J Jx : List TrV → (Nat → Prop) → World → Prop) (xs : List TrV)
    (hJ : StableS (fun _ => True) J) (hO : ∀ pre O' W', J pre O' W' → ∀ k, O' k → k < W'.heap.size ∧ ¬ T k)
    (hY : ∀ pre x O1 W1, J pre O1 W1 → pre ++ [x] <+: xs → YieldAt Fence.wide m Tryz.prog l #[trV x] W1 fun e W' =>
      (e = .returned (.bool true) ∧ ∃ O', J (pre ++ [x]) O' W' ∧ Chg O1 W1 O' W') ∨ (e = .returned (.bool false) ∧ ∃ O', Jx (pre ++ [x]) O' W' ∧ Chg O1 W1 O' W'))
    (d : Nat) : ∀ (a : Tr) (u v : Value) (W : World) (O : Nat → Prop) (pre : List TrV), TsOn T d W0 u a.ks → (∃ e, PsOn T e W0 v a.cs) → TourEnv T W0 l G Y O W → J pre O W → pre ++ Tr.flat W0 a u v <+: xs →
    Calls Tryz.prog 119 #[.agg #[.int .i64 a.k, .int .i64 a.t, u, v, .bool a.h], .pointer (some ⟨G, 0, none⟩), .pointer (some ⟨Y, 0, none⟩)] W fun e W' =>
      (e = .returned (.bool true) ∧ ∃ O', J (pre ++ Tr.flat W0 a u v) O' W' ∧ Chg O W O' W') ∨ (e = .returned (.bool false) ∧ ∃ p O', p <+: xs ∧ Jx p O' W' ∧ Chg O W O' W') := by
  induction d using Nat.strongRecOn with
  | ind d ih =>
  intro a u v W O pre hu hv henv hj hpx
  obtain ⟨W1, hW1⟩ : ∃ W1, W1 = W.alloc (Obj.cells #[.int .i64 a.k, .int .i64 a.t, u, v, .bool a.h] 26) := ⟨_, rfl⟩
  obtain ⟨l0, p0, hb0⟩ := tr_box (a := a) (u := u) (v := v) hW1
  have hc0 : Chg O W O W1 := by rw [hW1]; exact Chg.alloc _ _ _
  have hob : ¬ O W.heap.size := fun h => Nat.lt_irrefl _ (hO _ _ _ hj _ h).1
  have hj1 : J pre O W1 := hJ _ _ _ _ hj (by rw [hW1]; exact Keeps.alloc _ _ _)
  have henv1 := henv.chg hT hc0
  obtain ⟨A, c, rfl, hl⟩ := hu.at_.form
  obtain ⟨A', c', rfl, hl'⟩ := hv.elim fun D h => h.at_.form
  have hsp := fun (q : Nat) (b : Tr) (h : a.ks[q]? = some b) => Tr.flats_split W0 h (.slice A a.ks.length c)
  have HFL := Lib.hid (Tr.flat_at W0 a (.slice A a.ks.length c) (.slice A' a.cs.length c'))
  have hsz1 : W1.heap.size = W.heap.size + 1 := by rw [hW1]; simp
  obtain ⟨n, hn⟩ : ∃ n, n = a.ks.length := ⟨_, rfl⟩
  have HN := Lib.hid hn
  have HU := Lib.hid hu
  have HV := Lib.hid hv
  have HSP := Lib.hid hsp
  have IH := Lib.hid ih
  have HJ := Lib.hid hJ
  have HO := Lib.hid hO
  have HY := Lib.hid hY
  have HT := Lib.hid hT
  have HPX := Lib.hid hpx
  have HE := Lib.hid henv1
  have HJ1 := Lib.hid hj1
  have HC0 := Lib.hid hc0
  have HW := Lib.hid hW1
  have HP0 := Lib.hid p0
  have HOB := Lib.hid hob
  have HSZ := Lib.hid hsz1
  rw [← hn] at hl
  have h2 := p0.c2
  have hlN := Lib.hid hl
  clear hsp hu hv ih hJ hO hY hT hpx henv hj hW1 l0 hb0 hc0 hob hj1 henv1 p0 hsz1 hn
  refine (callsIn_wide (n := 9)).1 ?_
  refine callsIn_of_wp Tryz.func119 rfl trivial ?_ rfl
  simp only [Tryz.ntmps119, List.size_toArray, List.length_cons, List.length_nil, Nat.reduceAdd, Nat.reduceSub, Array.replicate_succ, Array.replicate_zero, List.push_toArray, List.append_toArray, List.nil_append, List.cons_append]
  gi_wp2_with fail
  rw [← HW.out]
  rw [← HN.out] at HFL HU HSP HPX h2 ⊢
  gi_loopw [10] (fun i wr => ∃ (q : Nat) (O' : Nat → Prop), q ≤ n ∧ i = .int .i64 q ∧ J (pre ++ Tr.flats W0 (a.ks.take q) (.slice A n c) 0) O' wr ∧ Chg O W1 O' wr) (fun i _ => n - (intOf i).toNat)
  case atStart => exact ⟨0, O, Nat.zero_le _, rfl, by rw [List.take_zero, Tr.flats, List.append_nil]; exact HJ1.out, ⟨Keeps.refl _ _, fun _ _ h => h⟩⟩
  case round =>
    obtain ⟨q, O1, hq, rfl, hj, hc⟩ := hrel
    have hcw : Chg O W O1 wr := HC0.out.trans hc
    have henv := HE.out.chg HT.out hc
    by_cases hlt : q < n
    · obtain ⟨b, gb⟩ : ∃ b, a.ks[q]? = some b := ⟨a.ks[q]'(by have := HN.out; omega), List.getElem?_eq_getElem _⟩
      have hu := HU.out
      rw [HN.out] at hu
      obtain ⟨e, bb, o, s, x, y, he, rfl, hTb, hlt0, hx, hy, hcell, hp, hk⟩ := hu.one gb
      have q1 := hcell.at_block (w' := wr) (by rw [add_block]; exact henv.same bb hTb hlt0)
      obtain ⟨r, hr⟩ := HSP.out q b gb
      rw [← HN.out] at hx hy
      have Hx := Lib.hid hx
      have Hy := Lib.hid hy
      obtain ⟨B1, d1, rfl, _⟩ := hk.at_.form
      obtain ⟨B2, d2, rfl, _⟩ := hp.elim fun D h => h.at_.form
      obtain ⟨x0, x1, x2, x3, x4⟩ := q1
      have hca := Chg.alloc O1 wr (Obj.cells #[.int .i64 b.k, .int .i64 b.t, .slice B1 b.ks.length d1, .slice B2 b.cs.length d2, .bool b.h] 26)
      have henv2 := henv.chg HT.out hca
      have hj2 := HJ.out _ _ _ _ hj (Keeps.alloc _ wr (Obj.cells #[.int .i64 b.k, .int .i64 b.t, .slice B1 b.ks.length d1, .slice B2 b.cs.length d2, .bool b.h] 26))
      have hpx2 : (pre ++ Tr.flats W0 (a.ks.take q) (.slice (some ⟨bb, o, s⟩) n c) 0) ++ Tr.flat W0 b (.slice B1 b.ks.length d1) (.slice B2 b.cs.length d2) <+: xs := by
        refine List.IsPrefix.trans ?_ HPX.out
        rw [HFL.out, hr, Hx.out, Hy.out]
        exact ⟨r ++ [(a, .slice (some ⟨bb, o, s⟩) n c, .slice A' a.cs.length c')], by simp [List.append_assoc]⟩
      have cs := IH.out e he b _ _ _ O1 _ hk hp henv2 hj2 hpx2
      have hft := Tr.flats_take W0 gb (.slice (some ⟨bb, o, s⟩) n c)
      rw [← Hx.out, ← Hy.out] at hft
      have HFT := Lib.hid hft
      have HCW := Lib.hid (hc.trans hca)
      have hg := henv2.g
      have CS := Lib.hid cs
      clear hx hy hu hj henv hcw henv2 hj2 hpx2 hcell hp hk hr hTb hlt0 gb he hft hc hca cs
      gi_wp2_with fail
      refine ⟨trivial, (callsIn_wide.2 CS.out).mono ?_⟩
      rintro e w3 (⟨rfl, O3, hj3, hc3⟩ | ⟨rfl, p, O3, hp3, hj3, hc3⟩)
      · have hc4 := HCW.out.trans hc3
        rw [List.append_assoc, ← HFT.out] at hj3
        clear hc3 hg x0 x1 x2 x3 x4
        gi_wp2_with fail
        go_roundw
        case rel => exact ⟨q + 1, O3, by omega, by go_num, hj3, hc4⟩
        case measure => simp [intOf]; omega
      · have hc4 := Lib.hid (HCW.out.trans hc3)
        clear hc3 hg x0 x1 x2 x3 x4
        gi_wp2_with fail
        go_ret
        exact .inr ⟨rfl, p, O3, hp3, hj3, HC0.out.trans hc4.out⟩
    · obtain rfl : q = n := by omega
      have ht : a.ks.take q = a.ks := List.take_of_length_le (by have := HN.out; omega)
      rw [ht] at hj
      have p1 : TrCell wr ⟨W.heap.size, 0, none⟩ a _ _ := HP0.out.at_block (hc.keeps.same _ (by rw [HSZ.out]; exact Nat.lt_succ_self _) HOB.out)
      have hpx2 : (pre ++ Tr.flats W0 a.ks (.slice A q c) 0) ++ [(a, .slice A q c, .slice A' a.cs.length c')] <+: xs := by
        have := HPX.out
        rwa [HFL.out, ← List.append_assoc] at this
      have hend : (pre ++ Tr.flats W0 a.ks (.slice A q c) 0) ++ [(a, .slice A q c, .slice A' a.cs.length c')] = pre ++ Tr.flat W0 a (.slice A q c) (.slice A' a.cs.length c') := by rw [HFL.out, List.append_assoc]
      have HEND := Lib.hid hend
      have HPX2 := Lib.hid hpx2
      have HCW := Lib.hid hcw
      obtain ⟨fn, tmps, assign, body, hy, hR⟩ := HY.out _ _ _ _ hj hpx2
      have HR := Lib.hid hR
      obtain ⟨x0, x1, x2, x3, x4⟩ := p1
      simp only [Nat.zero_add] at x0 x1 x2 x3 x4
      rw [← HN.out] at x2
      have hyy := henv.y
      clear hR hj hc hcw henv hpx2 hend ht
      gi_wp2_with fail
      refine (roundIn_any HR.out).mono ?_
      rintro e w3 (⟨rfl, O3, hj3, hc3⟩ | ⟨rfl, O3, hj3, hc3⟩)
      · have HC := Lib.hid (HCW.out.trans hc3)
        rw [HEND.out, HN.out] at hj3
        clear hc3 hy hyy x0 x1 x2 x3 x4
        gi_wp2_with fail
        go_ret
        exact .inl ⟨rfl, O3, hj3, HC.out⟩
      · have HC := Lib.hid (HCW.out.trans hc3)
        clear hc3 hy hyy x0 x1 x2 x3 x4
        gi_wp2_with fail
        go_ret
        exact .inr ⟨rfl, _, O3, HPX2.out, hj3, HC.out⟩
theorem within_any (a : Tr) (u v : Value) (w : World) (hu : ∃ A n c, u = .slice A n c) (hv : ∃ A n c, v = .slice A n c) :
    Calls Tryz.prog 95 #[.agg #[.int .i64 a.k, .int .i64 a.t, u, v, .bool a.h]] w fun e w' => e = .returned (.func (.func 118) #[] #[.pointer (some ⟨w.heap.size, 0, none⟩)]) ∧ w' = w.alloc (.cells #[.int .i64 a.k, .int .i64 a.t, u, v, .bool a.h] 26) := by
  obtain ⟨A, n, c, rfl⟩ := hu
  obtain ⟨A', n', c', rfl⟩ := hv
  go_enter Tryz.func95, Tryz.ntmps95
  go_wp2
  go_ret
  exact ⟨rfl, rfl⟩
theorem within_iter (m : Nat) (T : Nat → Prop) (W0 : World) (hT : ∀ k, T k → k < W0.heap.size) (bx : Nat) (a : Tr) (u v : Value) (hon : TrOn T W0 (a, u, v)) :
    IterR Fence.wide (m + 1) Tryz.prog 118 #[.pointer (some ⟨bx, 0, none⟩)] (fun _ _ _ (x : TrV) vs => vs = #[trV x] ∧ TrOn T W0 x) (fun k => T k ∨ k = bx) (fun _ _ => True)
      (fun W => TrCell W ⟨bx, 0, none⟩ a u v ∧ W0.heap.size ≤ W.heap.size ∧ ∀ k, T k → k < W0.heap.size → W.heap[k]? = W0.heap[k]?) (Tr.flat W0 a u v) := by
  rintro l J Jx W O ⟨hcell, hsz, hsame⟩ hJ hJx hO hY h0
  have hbx := block_lt_of_cell hcell.c0
  have hon' := Tr.flat_on W0 a u v hon
  obtain ⟨⟨d, hu⟩, hv⟩ := hon
  obtain ⟨A, c, hA, hl⟩ := hu.at_.form
  obtain ⟨A', c', hA', hl'⟩ := hv.elim fun D h => h.at_.form
  change u = .slice A a.ks.length c at hA
  change v = .slice A' a.cs.length c' at hA'
  subst hA hA'
  obtain ⟨w2, hw2⟩ : ∃ w2, (W.alloc (.cells #[.func (.yield l) #[] #[]] 136)).alloc (.cells #[.func (.func 119) #[] #[.pointer (some ⟨W.heap.size + 1, 0, none⟩), .pointer (some ⟨W.heap.size, 0, none⟩)]] 136) = w2 := ⟨_, rfl⟩
  have hk2 : ∀ S, Keeps S W w2 := fun S => by rw [← hw2]; exact (Keeps.alloc S W _).trans (Keeps.alloc S _ _)
  have hsz2 : w2.heap.size = W.heap.size + 2 := by rw [← hw2]; simp
  have hnew : ∀ k, W.heap.size ≤ k → ¬ O k := fun k hk h => by have := (hO _ _ _ h0 k h).1; omega
  have henv : TourEnv T W0 l (W.heap.size + 1) W.heap.size O w2 := by
    refine ⟨by omega, fun k hk hlt => ((hk2 (fun _ => True)).same k (by omega) trivial).trans (hsame k hk hlt), fun k hk ho => (hO _ _ _ h0 k ho).2 (.inl hk), ?_, ?_, hnew _ (by omega), hnew _ (Nat.le_refl _)⟩
    · rw [← hw2]
      have := (Boxed.new (W.alloc (.cells #[.func (.yield l) #[] #[]] 136)) 136 (.func (.func 119) #[] #[.pointer (some ⟨W.heap.size + 1, 0, none⟩), .pointer (some ⟨W.heap.size, 0, none⟩)])).cell
      rwa [World.size_alloc] at this
    · rw [← hw2]
      exact (World.cell?_alloc_lt _ _ _ (by simp)).trans (Boxed.new W 136 (.func (.yield l) #[] #[])).cell
  have cs := tour_any T W0 hT m l (W.heap.size + 1) W.heap.size J Jx (Tr.flat W0 a (.slice A a.ks.length c) (.slice A' a.cs.length c')) hJ (fun pre O' W' h k hk => ⟨(hO pre O' W' h k hk).1, fun ht => (hO pre O' W' h k hk).2 (.inl ht)⟩)
    (fun pre x O1 W1 h hp => hY pre x #[trV x] O1 W1 h hp ⟨rfl, hon' x (hp.subset (by simp))⟩) d a _ _ w2 O [] hu hv henv (hJ _ _ _ _ h0 (hk2 _)) (by rw [List.nil_append]; exact ⟨[], by simp⟩)
  have hcell2 : TrCell w2 ⟨bx, 0, none⟩ a (.slice A a.ks.length c) (.slice A' a.cs.length c') := hcell.at_block ((hk2 (fun _ => True)).same bx hbx trivial)
  obtain ⟨x0, x1, x2, x3, x4⟩ := hcell2
  simp only [Nat.zero_add] at x0 x1 x2 x3 x4
  have hg := henv.g
  have CS := Lib.hid cs
  have HW2 := Lib.hid hw2
  clear hcell hsz hsame hJ hJx hO hY h0 hbx hu hv hl hl' hon' hk2 hsz2 hnew henv cs hT
  refine callsIn_of_wp Tryz.func118 rfl trivial ?_ rfl
  simp only [Tryz.ntmps118, List.size_toArray, List.length_cons, List.length_nil, Nat.reduceAdd, Nat.reduceSub, Array.replicate_succ, Array.replicate_zero, List.push_toArray, List.append_toArray, List.nil_append, List.cons_append]
  subst hw2
  gi_wp2_with fail
  refine ⟨trivial, (callsIn_wide.2 CS.out).mono ?_⟩
  rintro e w3 (⟨rfl, O3, hj3, hc3⟩ | ⟨rfl, p, O3, hp3, hj3, hc3⟩)
  · clear hg x0 x1 x2 x3 x4
    gi_wp2_with fail
    go_end0
    exact ⟨⟨_, rfl⟩, .inl ⟨O3, by simpa using hj3⟩⟩
  · clear hg x0 x1 x2 x3 x4
    gi_wp2_with fail
    go_end0
    exact ⟨⟨_, rfl⟩, .inr ⟨p, O3, hp3, hj3⟩⟩
end Go.Proofs.YtbddhkgbpjhhaaaGreatDoor
namespace Go.Proofs.YtbddhkgbpjhhaaaGreatDoor
open Go.RowKit Go.Shelf
attribute [local go_sem] Oper.semAt_some
set_option maxHeartbeats 800000
theorem form_trs {w : World} {u : Value} {l : List Tr} (h : ∃ d, TsAt d w u l) : ∃ A n c, u = .slice A n c := by
  obtain ⟨d, h⟩ := h
  obtain ⟨A, c, h, _⟩ := h.form
  exact ⟨A, _, c, h⟩
theorem form_pds {w : World} {u : Value} {l : List Pd} (h : PsSome w u l) : ∃ A n c, u = .slice A n c := by
  obtain ⟨d, h⟩ := h
  obtain ⟨A, c, h, _⟩ := h.form
  exact ⟨A, _, c, h⟩
theorem below_putObj (W : World) (D : Nat) (o : Obj) {B : Nat} (h : B ≤ D) : Below B W (W.putObj D o) :=
  ⟨rfl, rfl, rfl, by simp, fun k hk => World.putObj_heap_other (by omega)⟩
structure CountI (w : World) (T : TypeId) (val : List TrV → Value) (pre : List TrV) (O : Nat → Prop) (W : World) : Prop where
  own : ∀ k, O k ↔ k = w.heap.size + 1
  box : Boxed W (w.heap.size + 1) T (val pre)
  below : Below w.heap.size w W
theorem CountI.keep {w : World} {T : TypeId} {val : List TrV → Value} {pre : List TrV} {O : Nat → Prop} {W W' : World} {S : Nat → Prop} (h : CountI w T val pre O W) (hk : Keeps (fun k => O k ∨ S k) W W') (hS : ∀ k, k < w.heap.size → S k) : CountI w T val pre O W' :=
  ⟨h.own, (hk.same _ h.box.lt (.inl ((h.own _).2 rfl))).trans h.box, h.below.trans (hk.below (Nat.le_trans h.below.size (Nat.le_refl _)) fun k hk => .inr (hS k hk))⟩
theorem CountI.step {w : World} {T : TypeId} {val : List TrV → Value} {pre : List TrV} {x : TrV} {O : Nat → Prop} {W W1 : World} (h : CountI w T val pre O W) (hb : Below W.heap.size W W1) :
    CountI w T val (pre ++ [x]) O (W1.setCell ⟨w.heap.size + 1, 0, none⟩ (val (pre ++ [x]))) ∧ Chg O W O (W1.setCell ⟨w.heap.size + 1, 0, none⟩ (val (pre ++ [x]))) := by
  have hlt := h.box.lt
  have hbx : Boxed W1 (w.heap.size + 1) T (val pre) := (hb.block _ hlt).trans h.box
  refine ⟨⟨h.own, hbx.set _, (h.below.trans ⟨hb.os, hb.tape, hb.output, hb.size, fun k hk => hb.block k (by have := h.below.size; omega)⟩).setCell (by show w.heap.size ≤ w.heap.size + 1; omega) _⟩, ⟨hb.os, hb.tape, hb.output, by simpa using hb.size, fun k hk hn => ?_⟩, fun _ _ h => h⟩
  have hne : k ≠ w.heap.size + 1 := fun e => hn ((h.own k).2 e)
  exact (Below.heap_setCell W1 _ _ k hne).trans (hb.block k hk)
end Go.Proofs.YtbddhkgbpjhhaaaGreatDoor
namespace Go.Proofs.YtbddhkgbpjhhaaaGreatDoor
open Go.RowKit Go.Shelf
attribute [local go_sem] Oper.semAt_some
set_option maxHeartbeats 800000
theorem CountI.drew {w : World} {T : TypeId} {val : List TrV → Value} {pre : List TrV} {O : Nat → Prop} {W : World} (h : CountI w T val pre O W) : CountI w T val pre O W.drew := ⟨h.own, h.box, h.below.drew⟩
theorem Chg.drew {O O' : Nat → Prop} {A B : World} (h : Chg O A O' B) : Chg O A O' B.drew := ⟨⟨h.keeps.os, h.keeps.tape, h.keeps.output, h.keeps.size, h.keeps.same⟩, h.own⟩
theorem St.ofN_app (l : List Int) (i : Int) : St.ofN (l ++ [i]) = St.ofN l ||| St.ofN [i] := by
  by_cases h : 0 ≤ i ∧ i ≤ 63
  · have h1 := St.ofN_snoc_in [] i h.1 h.2
    rw [List.nil_append, St.ofN_nil, Nat.zero_or] at h1
    rw [St.ofN_snoc_in l i h.1 h.2, h1]
  · have h1 := St.ofN_snoc_out [] i h
    rw [List.nil_append, St.ofN_nil] at h1
    rw [St.ofN_snoc_out l i h, h1, Nat.or_zero]
def tabV (pre : List TrV) : Value := .int .u64 (St.ofN (leafTs (pre.map (·.1))) : Nat)
set_option maxRecDepth 100000 in
theorem trtables_any (a : Tr) (u v : Value) (w : World) (hu : ∃ d, TsAt d w u a.ks) (hv : PsSome w v a.cs) (hsz : Tr.size a ≤ 1000) :
    Calls Tryz.prog 55 #[.agg #[.int .i64 a.k, .int .i64 a.t, u, v, .bool a.h]] w fun e w' => e = .returned (.int .u64 (Tr.tables a : Nat)) ∧ Below w.heap.size w w' := by
  have hon : TrOn (fun k => k < w.heap.size) w (a, u, v) := TrHang.on ⟨hu, hv⟩ (fun k h => h)
  obtain ⟨A, n, c, rfl⟩ := form_trs hu
  obtain ⟨A', n', c', rfl⟩ := form_pds hv
  have cw := fun W => within_any a (.slice A n c) (.slice A' n' c') W ⟨_, _, _, rfl⟩ ⟨_, _, _, rfl⟩
  have hlen : (Tr.flat w a (.slice A n c) (.slice A' n' c')).length = (Tr.all a).length := by rw [← Tr.flat_fst w a (.slice A n c) (.slice A' n' c'), List.length_map]
  have hle := Tr.all_length_le a
  have HS := Lib.hid hlen
  have HON := Lib.hid hon
  have HL := Lib.hid (show (Tr.all a).length ≤ 1000 by omega)
  clear hu hv hsz hle hlen hon
  refine (callsIn_wide (n := 9)).1 ?_
  refine callsIn_of_wp_marks Tryz.func55 rfl trivial ?_ rfl
  simp only [Tryz.ntmps55, List.size_toArray, List.length_cons, List.length_nil, Nat.reduceAdd, Nat.reduceSub, Array.replicate_succ, Array.replicate_zero, List.push_toArray, List.append_toArray, List.nil_append, List.cons_append]
  gi_wp2_with fail
  refine ⟨trivial, (callsIn_wide.2 (cw _)).mono ?_⟩
  rintro e w' ⟨rfl, rfl⟩
  clear cw
  gi_wp2_with fail
  obtain ⟨w4, hw4⟩ : ∃ w4, ((w.alloc (Obj.cells #[.int .i64 a.k, .int .i64 a.t, .slice A n c, .slice A' n' c', .bool a.h] 26)).alloc (Obj.cells #[.int .u64 0] 45)).alloc (Obj.cells #[.int .i64 a.k, .int .i64 a.t, .slice A n c, .slice A' n' c', .bool a.h] 26) = w4 := ⟨_, rfl⟩
  have hz : w4.heap.size = w.heap.size + 3 := by rw [← hw4]; simp
  have hb4 : Below w.heap.size w w4 := by rw [← hw4]; exact (((Below.refl _ w).alloc (Nat.le_refl _) _).alloc (by simp) _).alloc (by simp; omega) _
  have hbox : Boxed w4 (w.heap.size + 1) 45 (tabV []) := by
    rw [← hw4]
    have := (Boxed.new (w.alloc (Obj.cells #[.int .i64 a.k, .int .i64 a.t, .slice A n c, .slice A' n' c', .bool a.h] 26)) 45 (.int .u64 0)).alloc (Obj.cells #[.int .i64 a.k, .int .i64 a.t, .slice A n c, .slice A' n' c', .bool a.h] 26)
    rwa [World.size_alloc] at this
  have htc : TrCell w4 ⟨w.heap.size + 2, 0, none⟩ a (.slice A n c) (.slice A' n' c') := by
    have := (tr_box (w := (w.alloc (Obj.cells #[.int .i64 a.k, .int .i64 a.t, .slice A n c, .slice A' n' c', .bool a.h] 26)).alloc (Obj.cells #[.int .u64 0] 45)) (T := 26) (a := a) (u := .slice A n c) (v := .slice A' n' c') rfl).2.1
    rw [World.size_alloc, World.size_alloc] at this
    rw [← hw4]
    exact this
  have hI0 : CountI w 45 tabV [] (fun k => k = w.heap.size + 1) w4 := ⟨fun _ => Iff.rfl, hbox, hb4⟩
  rw [hw4]
  clear hw4 hbox
  refine wpIn_range_rel rfl (by omega) (gf := 118) (lb := #[.pointer (some ⟨w.heap.size + 2, 0, none⟩)]) rfl trivial (enters_of Tryz.func118 (by kernel_rfl) rfl)
    (within_iter 7 (fun k => k < w.heap.size) w (fun k h => h) (w.heap.size + 2) a (.slice A n c) (.slice A' n' c') HON.out) ?hpre ?hC ?hps ?hR (CountI w 45 tabV) (fun _ _ _ _ => False) ?hI ?hIx ?hSD ?hIO (fun k => k = w.heap.size + 1) ?hO hI0
    (fun O W x _ a' => ∃ Bx, w4.heap.size + 2 ≤ Bx ∧ Bx < W.heap.size ∧ ¬ O Bx ∧ TrCell W ⟨Bx, 0, none⟩ x.1 x.2.1 x.2.2 ∧ a' = { tmps := #[.agg #[.int .i64 a.k, .int .i64 a.t, .slice A n c, .slice A' n' c', .bool a.h], .pointer (some ⟨w.heap.size, 0, none⟩), .int .u64 0, .pointer (some ⟨w.heap.size + 1, 0, none⟩), .pointer (some ⟨Bx, 0, none⟩), .agg #[.int .i64 a.k, .int .i64 a.t, .slice A n c, .slice A' n' c', .bool a.h], .func (.func 118) #[] #[.pointer (some ⟨w.heap.size + 2, 0, none⟩)], trV x, undef, undef, undef, undef, undef, undef, undef, undef, undef, undef], defers := [] })
    (fun O W W' x _ a' hk ⟨Bx, h1, h2, h3, h4, h5⟩ => ⟨Bx, h1, Nat.lt_of_lt_of_le h2 hk.size, h3, h4.at_block (hk.same Bx h2 (by omega)), h5⟩) ?assign ?body ?done ?stop
  case hpre => exact fun W3 hb => ⟨htc.below hb (by show w.heap.size + 2 < w4.heap.size; omega), Nat.le_trans hb4.size hb.size, fun k _ hk => (hb.block k (by omega)).trans (hb4.block k hk)⟩
  case hC =>
    intro k hk
    rcases hk with hk | hk
    · change k < w.heap.size at hk; omega
    · omega
  case hps => rintro B O W x vs ⟨rfl, _⟩; rfl
  case hR => intro O O' W W' x vs _ _ _ h; exact h
  case hI => intro pre O A B h hk; exact h.keep hk fun k hlt => ⟨trivial, by omega, by omega⟩
  case hIx => intro c pre O A B h _; exact h
  case hSD => intro k _; trivial
  case hIO =>
    intro pre O W h k hk
    have e := (h.own k).1 hk
    refine ⟨by rw [e]; exact h.box.lt, fun hc => ?_⟩
    rcases hc with hc | hc
    · change k < w.heap.size at hc; omega
    · omega
  case hO => intro k hk; omega
  case assign =>
    rintro l2 ⟨x, xu, xv⟩ vs O W3 K hs hOl ⟨rfl, hx⟩ hK
    obtain ⟨⟨d1, hx1⟩, d2, hx2⟩ := hx
    obtain ⟨B1, e1, hB1, _⟩ := hx1.at_.form
    obtain ⟨B2, e2, hB2, _⟩ := hx2.at_.form
    change xu = .slice B1 x.ks.length e1 at hB1
    change xv = .slice B2 x.cs.length e2 at hB2
    subst hB1 hB2
    rw [show (#[7] : Array Tmp).zip #[trV (x, .slice B1 x.ks.length e1, .slice B2 x.cs.length e2)] = #[(7, trV (x, .slice B1 x.ks.length e1, .slice B2 x.cs.length e2))] from by simp [List.zip_toArray]]
    have htb := (tr_box (w := W3) (T := 26) (a := x) (u := .slice B1 x.ks.length e1) (v := .slice B2 x.cs.length e2) rfl).2.1
    have hnb : ¬ O W3.heap.size := fun h => Nat.lt_irrefl _ (hOl _ h)
    have HK := Lib.hid hK
    clear hx1 hx2 hK
    gi_wp2
    exact HK.out _ _ (Keeps.alloc _ _ _) ⟨W3.heap.size, hs, by simp, hnb, htb, rfl⟩
  case body =>
    rintro l2 pre x vs O W3 a' hl2 h hpx hrx ⟨Bx, hB1, hB2, hB3, htr, rfl⟩
    obtain ⟨sv, hsv⟩ : ∃ sv, sv = St.ofN (leafTs (pre.map (·.1))) := ⟨_, rfl⟩
    have hc1 : W3.cell? ⟨w.heap.size + 1, 0, none⟩ = some (.int .u64 (sv : Nat)) := by rw [hsv]; exact h.box.cell
    have hc2 := h.box.frozen
    obtain ⟨y0, y1, _, _, _⟩ := htr
    simp only [Nat.zero_add] at y0 y1
    have hpx2 : leafTs ((pre ++ [x]).map (·.1)) = leafTs (pre.map (·.1)) ++ (if x.1.k = 0 then [x.1.t] else []) := by
      rw [List.map_append]
      by_cases hk : x.1.k = 0 <;> simp [leafTs, hk]
    by_cases hk0 : x.1.k = 0
    · have hb0 : (x.1.k == 0) = true := by simpa using hk0
      rw [if_pos hk0] at hpx2
      have hor : bits BinOp.or IntKind.u64 (sv : Int) ((St.ofN [x.1.t] : Nat) : Int) = ((sv ||| St.ofN [x.1.t] : Nat) : Int) := u64_or_nat _ _ (by rw [hsv]; exact St.ofN_lt _) (St.ofN_lt _)
      have hval : tabV (pre ++ [x]) = .int .u64 (bits BinOp.or IntKind.u64 (sv : Int) ((St.ofN [x.1.t] : Nat) : Int)) := by rw [hor, tabV, hpx2, hsv, St.ofN_app]
      have hst := h.step (x := x) ((Below.refl _ W3).alloc (Nat.le_refl _) (Obj.cells #[.int .i64 x.1.t] 3))
      rw [hval] at hst
      have HST := Lib.hid hst
      have cs := sof_any _ [x.1.t] _ (Sl.new W3 3 [.int .i64 x.1.t]) (by simp)
      have hc3 : ∀ o, (W3.alloc o).cell? ⟨w.heap.size + 1, 0, none⟩ = some (.int .u64 (sv : Nat)) := fun o => (World.cell?_alloc_lt W3 _ _ h.box.lt).trans hc1
      have hc4 : ∀ o, (W3.drew.alloc o).cell? ⟨w.heap.size + 1, 0, none⟩ = some (.int .u64 (sv : Nat)) := fun o => hc3 o
      have hf3 : ∀ o, (W3.alloc o).frozen? ⟨w.heap.size + 1, 0, none⟩ = false := fun o => (h.box.alloc o).frozen
      have hf4 : ∀ o, (W3.drew.alloc o).frozen? ⟨w.heap.size + 1, 0, none⟩ = false := fun o => hf3 o
      have CS := Lib.hid cs
      have csd := sof_any _ [x.1.t] _ (Sl.new W3.drew 3 [.int .i64 x.1.t]) (by simp)
      have CSD := Lib.hid csd
      clear cs csd h hpx hrx hpx2 hk0 hval hor hst hsv
      have hmx : Tryz.prog.follows .mixedOrders = true := by kernel_rfl
      gi_wp2
      gi_region_with_o (refine ⟨trivial, ?_⟩; gi_at_call 46; (first | refine (CallsIn.inRound l2 (callsIn_wide.2 CS.out)).mono ?_ | refine (CallsIn.inRound l2 (callsIn_wide.2 CSD.out)).mono ?_); rintro e w' ⟨rfl, rfl⟩)
      all_goals gi_wp2
      all_goals (first | exact ⟨O, HST.out.1.drew, HST.out.2.drew⟩ | exact ⟨O, HST.out.1, HST.out.2⟩)
    · have hb0 : (x.1.k == 0) = false := by simpa using hk0
      rw [if_neg hk0, List.append_nil] at hpx2
      have hst : CountI w 45 tabV (pre ++ [x]) O W3 := ⟨h.own, by rw [tabV, hpx2]; exact h.box, h.below⟩
      have HST := Lib.hid hst
      clear h hpx hrx hpx2 hk0 hst hsv
      gi_wp2
      exact ⟨O, HST.out, ⟨Keeps.refl _ _, fun _ _ h => h⟩⟩
  case done =>
    intro D O W3 hD h hOD hK
    have hc1 : W3.cell? ⟨w.heap.size + 1, 0, none⟩ = some (.int .u64 (Tr.tables a : Nat)) := by
      have := h.box.cell
      rwa [tabV, Tr.flat_fst] at this
    have hfin := Lib.hid (h.below.trans (below_putObj W3 D (.deferred none) (show w.heap.size ≤ D by omega)))
    clear h
    gi_wp2
    refine ⟨by simp, .inl ⟨_, _, rfl, run_takeDeferred hK, ?_⟩⟩
    exact ⟨_, results_tmp (t := 2) rfl _ _ _, rfl, hfin.out⟩
  case stop => rintro D c pre O W3 hD hpx h; exact h.elim
end Go.Proofs.YtbddhkgbpjhhaaaGreatDoor
namespace Go.Proofs.YtbddhkgbpjhhaaaGreatDoor
open Go.RowKit
theorem trCells_length (L : List TrV) : (trCells L).length = L.length * 5 := by
  induction L with
  | nil => rfl
  | cons x r ih =>
    have e : trCells (x :: r) = x.1.cells x.2.1 x.2.2 ++ trCells r := rfl
    rw [e, List.length_append, ih, List.length_cons]; simp [Tr.cells]; omega
theorem TsAt.rows {d : Nat} {w : World} {A : Option Addr} {n c : Nat} {l : List Tr} (h : TsAt (d + 1) w (.slice A n c) l) :
    ∃ L : List TrV, L.map (·.1) = l ∧ ∀ (j : Nat) (x : TrV), L[j]? = some x → ∃ b o s, A = some ⟨b, o, s⟩ ∧ b < w.heap.size ∧ TrCell w ((⟨b, o, s⟩ : Addr).add (j * 5)) x.1 x.2.1 x.2.2 ∧ PsSome w x.2.2 x.1.cs ∧ TsAt d w x.2.1 x.1.ks := by
  obtain ⟨A', c', hv, _, hx⟩ := h
  cases hv
  exact pairs_of (Q := fun j (p : Tr) (y : Value × Value) => ∃ b o s, A = some ⟨b, o, s⟩ ∧ b < w.heap.size ∧ TrCell w ((⟨b, o, s⟩ : Addr).add (j * 5)) p y.1 y.2 ∧ PsSome w y.2 p.cs ∧ TsAt d w y.1 p.ks) fun j p hj => by
    obtain ⟨b, o, s, x, y, h1, h2, h3, h4, h5⟩ := hx j p hj
    exact ⟨(x, y), b, o, s, h1, h2, h3, h4, h5⟩
theorem trCells_here {w : World} {b : Addr} {L : List TrV} (h : ∀ (j : Nat) (x : TrV), L[j]? = some x → TrCell w (b.add (j * 5)) x.1 x.2.1 x.2.2) : ∀ (k : Nat) (u : Value), (trCells L)[k]? = some u → w.cell? (b.add k) = some u := by
  intro k u hk
  have hlt := (List.getElem?_eq_some_iff.1 hk).1
  rw [trCells_length] at hlt
  have hj : k / 5 < L.length := by omega
  obtain ⟨x, hx⟩ : ∃ x, L[k / 5]? = some x := ⟨_, List.getElem?_eq_getElem hj⟩
  have hi : k % 5 < 5 := Nat.mod_lt _ (by decide)
  have hke : k = k / 5 * 5 + k % 5 := by omega
  rw [hke, trCells_get hx hi] at hk
  obtain ⟨c0, c1, c2, c3, c4⟩ := h _ x hx
  rw [hke]
  generalize k % 5 = i at hk hi ⊢
  match i, hi with
  | 0, _ => cases hk; exact c0
  | 1, _ => cases hk; rw [add_more _ _ _ (by decide)]; exact c1
  | 2, _ => cases hk; rw [add_more _ _ _ (by decide)]; exact c2
  | 3, _ => cases hk; rw [add_more _ _ _ (by decide)]; exact c3
  | 4, _ => cases hk; rw [add_more _ _ _ (by decide)]; exact c4
theorem trCells_put {L : List (TrV)} {q : Nat} {y : TrV} (hq : q < L.length) : (trCells (L.set q y)).length = (trCells L).length ∧ (∀ k, (k < q * 5 ∨ q * 5 + 5 ≤ k) → (trCells (L.set q y))[k]? = (trCells L)[k]?) ∧ ∀ i, i < 5 → (trCells (L.set q y))[q * 5 + i]? = (y.1.cells y.2.1 y.2.2)[i]? := by
  have hlen : (trCells (L.set q y)).length = (trCells L).length := by rw [trCells_length, trCells_length, List.length_set]
  refine ⟨hlen, fun k hk => ?_, fun i hi => ?_⟩
  · by_cases hkl : k < (trCells L).length
    · rw [trCells_length] at hkl
      have hj : k / 5 < L.length := by omega
      have hjq : q ≠ k / 5 := by omega
      have hke : k = k / 5 * 5 + k % 5 := by omega
      obtain ⟨x, hx⟩ : ∃ x, L[k / 5]? = some x := ⟨_, List.getElem?_eq_getElem hj⟩
      have hx2 : (L.set q y)[k / 5]? = some x := by rw [List.getElem?_set_ne hjq]; exact hx
      rw [hke, trCells_get hx2 (Nat.mod_lt _ (by decide)), trCells_get hx (Nat.mod_lt _ (by decide))]
    · rw [List.getElem?_eq_none (by omega), List.getElem?_eq_none (by omega)]
  · exact trCells_get (List.getElem?_set_self hq) hi
theorem RowLies.tr {w : World} {g : Nat} {T : TypeId} {M : List TrV} (h : RowLies w g T (trCells M)) {j : Nat} {x : TrV} (hx : M[j]? = some x) : TrCell w ⟨g, j * 5, none⟩ x.1 x.2.1 x.2.2 :=
  have k : ∀ i u, i < 5 → (x.1.cells x.2.1 x.2.2)[i]? = some u → w.cell? ⟨g, j * 5 + i, none⟩ = some u := fun i u hi hu => h.cell (by rw [trCells_get hx hi]; exact hu)
  ⟨k 0 _ (by decide) rfl, k 1 _ (by decide) rfl, k 2 _ (by decide) rfl, k 3 _ (by decide) rfl, k 4 _ (by decide) rfl⟩
end Go.Proofs.YtbddhkgbpjhhaaaGreatDoor
namespace Go.Proofs.YtbddhkgbpjhhaaaGreatDoor
open Go.RowKit Go.Sort
set_option maxHeartbeats 3200000
set_option maxRecDepth 100000 in
theorem tclone_nil (c : Nat) (w : World) : Calls Tryz.prog 54 #[.slice none 0 c] w fun e w' => e = .returned (.slice none 0 0) ∧ w = w' := by
  have hnil := fun (W : World) => Lib.run_eql_slice_nil_nil (P := Tryz.prog) W 0 c Tryz.underlying23
  go_enter Tryz.func54, Tryz.ntmps54
  go_wp2_with (fail)
  go_ret
  exact ⟨rfl, rfl⟩
theorem tclone_some (b : Addr) (n c : Nat) (xs : List Value) (w : World) (hl : xs.length = n * 5) (hx : ∀ k u, xs[k]? = some u → w.cell? (b.add k) = some u) (h1 : ∀ u ∈ xs, u.oneCell' = true) (hn : n ≤ 1000000) :
    Calls Tryz.prog 54 #[.slice (some b) n c] w fun e w' => ∃ A c', e = .returned (.slice A n c') ∧ n ≤ c' ∧ Below w.heap.size w w' ∧ (n = 0 ∨ ∃ g, A = some ⟨g, 0, none⟩ ∧ w.heap.size ≤ g ∧ RowLies w' g 26 xs) := by
  obtain ⟨i0, hi, hz0, hz1, hz2⟩ := info_parts Tryz.infoTree
  have hsome := fun (W : World) => Lib.run_eql_slice_some_nil (P := Tryz.prog) W b n c Tryz.underlying23
  obtain ⟨W0, hW0⟩ : ∃ W0, W0 = w.alloc (Obj.cells #[] 26) := ⟨_, rfl⟩
  have hb0 : Below w.heap.size w W0 := by rw [hW0]; exact below_new _ _
  have hcell := Lib.hid (show ∀ k u, xs[k]? = some u → W0.cell? (b.add k) = some u from fun k u hk => (World.cell?_of_block (hb0.block _ (block_lt_of_cell (hx k u hk)))).trans (hx k u hk))
  have hown : Hid (W0.ownsRow w.heap.size 26 5 (.slice (some ⟨w.heap.size, 0, none⟩) 0 0) 0 []) := Lib.hid (by rw [hW0]; exact World.ownsRow_made w #[] 0 (Nat.le_refl _) (by decide) rfl)
  have HW := Lib.hid hW0
  have HL := Lib.hid hl
  have H1 := Lib.hid h1
  clear hW0 hx hl h1
  go_enter Tryz.func54, Tryz.ntmps54
  go_wp2_with (first
    | (at_builtin; rw [← HW.out]; refine wpList_append_own _ rfl _ _ 23 rfl w.heap.size 26 i0 (.agg #[.int .i64 0, .int .i64 0, .slice none 0 0, .slice none 0 0, .bool false]) 5 72 Tryz.underlying23 hi hz0 hz1 hz2 rfl (by decide) _ 0 [] rfl hown.out b n c xs rfl HL.out hcell.out H1.out (by unfold maxLen; omega) (by omega) hb0.size ?_))
  intro v' w' hown' hgrow _
  have hb2 : Below w.heap.size w w' := hb0.grown hgrow hb0.size (fun q hq => (hown.out.lt q hq).1)
  have hown2 : w'.ownsRow w.heap.size 26 5 v' n xs := by simpa using hown'
  have hres : ∃ A c', v' = .slice A n c' ∧ n ≤ c' ∧ (n = 0 ∨ ∃ g, A = some ⟨g, 0, none⟩ ∧ w.heap.size ≤ g ∧ RowLies w' g 26 xs) := by
    rcases id hown2.2 with ⟨hv, hn0⟩ | ⟨g, cap, cur, rfl, hbg, hg, hnc, _⟩
    · exact ⟨none, 0, by rw [hn0]; exact hv, by omega, .inl hn0⟩
    · obtain ⟨r1, r2, r3⟩ := RowLies.own hown2 HL.out
      exact ⟨_, cap, rfl, r3, .inr ⟨g, rfl, r2, r1⟩⟩
  obtain ⟨A, c', rfl, hnc, hor⟩ := hres
  have HR := Lib.hid hor
  have HB := Lib.hid hb2
  clear hown' hgrow hown hcell hown2 hor hb2
  go_wp2_with (fail)
  go_ret
  exact ⟨A, c', rfl, hnc, HB.out, HR.out⟩
def TsTop (lo d : Nat) (w : World) (v : Value) (l : List Tr) : Prop :=
  ∃ (M : List TrV) (A : Option Addr) (c : Nat), M.map (·.1) = l ∧ v = .slice A l.length c ∧ (l.length ≤ 9223372036854775807 ∧ l.length ≤ c) ∧
    (l = [] ∨ ∃ g e, d = e + 1 ∧ A = some ⟨g, 0, none⟩ ∧ lo ≤ g ∧ RowLies w g 26 (trCells M) ∧ ∀ (j : Nat) (x : TrV), M[j]? = some x → (∃ D, PsOn (fun k => g < k) D w x.2.2 x.1.cs) ∧ TsOn (fun k => g < k) e w x.2.1 x.1.ks)
theorem TsTop.nil (lo d : Nat) (w : World) (A : Option Addr) (c : Nat) : TsTop lo d w (.slice A 0 c) [] := ⟨[], A, c, rfl, rfl, by simp, .inl rfl⟩
theorem TsTop.on {lo d : Nat} {w : World} {v : Value} {l : List Tr} (h : TsTop lo d w v l) : TsOn (fun k => lo ≤ k) d w v l := by
  obtain ⟨M, A, c, hM, rfl, hl, h⟩ := h
  rcases h with rfl | ⟨g, e, rfl, rfl, hlo, hrow, hx⟩
  · exact TsOn.mono (d := 0) ⟨rfl, A, c, rfl⟩ (Nat.zero_le _)
  · refine ⟨_, c, rfl, hl, fun j a ha => ?_⟩
    rw [← hM, List.getElem?_map] at ha
    obtain ⟨x, hj, rfl⟩ := Option.map_eq_some_iff.1 ha
    obtain ⟨⟨D, h1⟩, h2⟩ := hx j x hj
    have hk : ∀ k, g < k → k < w.heap.size → w.heap[k]? = w.heap[k]? ∧ lo ≤ k := fun k hk _ => ⟨rfl, by omega⟩
    exact ⟨g, 0, none, _, _, rfl, hlo, hrow.lt, by rw [add_from5]; exact hrow.tr hj, ⟨D, h1.keep (Nat.le_refl _) hk⟩, h2.keep (Nat.le_refl _) hk⟩
theorem TsTop.keep {lo lo' d : Nat} {w w' : World} {v : Value} {l : List Tr} (h : TsTop lo d w v l) (hs : w.heap.size ≤ w'.heap.size) (hb : ∀ k, lo ≤ k → k < w.heap.size → w'.heap[k]? = w.heap[k]? ∧ lo' ≤ k) : TsTop lo' d w' v l := by
  obtain ⟨M, A, c, hM, rfl, hl, h⟩ := h
  refine ⟨M, A, c, hM, rfl, hl, ?_⟩
  rcases h with rfl | ⟨g, e, rfl, rfl, hlo, hrow, hx⟩
  · exact .inl rfl
  · obtain ⟨hg1, hg2⟩ := hb g hlo hrow.lt
    have hk : ∀ k, g < k → k < w.heap.size → w'.heap[k]? = w.heap[k]? ∧ g < k := fun k hk hlt => ⟨(hb k (by omega) hlt).1, hk⟩
    exact .inr ⟨g, e, rfl, rfl, hg2, hrow.block hg1, fun j x hj => ⟨(hx j x hj).1.elim fun D h => ⟨D, h.keep hs hk⟩, (hx j x hj).2.keep hs hk⟩⟩
def Apart (u : Value) (k : Nat) : Prop := ∀ g n c, u = .slice (some ⟨g, 0, none⟩) n c → 0 < n → k ≠ g
def NewTr (d : Nat) (w : World) (a : Tr) (e : Ending) (w' : World) : Prop := ∃ u v, e = .returned (.agg #[.int .i64 a.k, .int .i64 a.t, u, v, .bool a.h]) ∧ TsTop w.heap.size d w' u a.ks ∧ (∃ D, PsOn (fun k => w.heap.size ≤ k ∧ Apart u k) D w' v a.cs) ∧ Below w.heap.size w w'
theorem TsTop.apart {lo d : Nat} {w : World} {v : Value} {l : List Tr} (h : TsTop lo d w v l) {k : Nat} (hk : w.heap.size ≤ k) : Apart v k := by
  obtain ⟨M, A, c, hM, rfl, hl, h⟩ := h
  intro g n c hv hn
  cases hv
  rcases h with rfl | ⟨g', e, rfl, hA, hlo, hrow, hx⟩
  · simp at hn
  · cases hA
    have := hrow.lt
    omega
end Go.Proofs.YtbddhkgbpjhhaaaGreatDoor
namespace Go.Proofs.YtbddhkgbpjhhaaaGreatDoor
open Go.RowKit Go.Sort
set_option maxHeartbeats 1000000
set_option maxRecDepth 100000 in
theorem peach10_of (d : Nat) (u : Value) (l : List Pd) (w : World) (hu : PsAt d w u l) (hsz : Pr.sizes l ≤ 1000) :
    Calls Tryz.prog 57 #[u, .func (.func 58) #[] #[]] w fun e w' => ∃ r, e = .returned r ∧ PsOn (fun k => w.heap.size ≤ k) d w' r l ∧ Below w.heap.size w w' := by
  obtain ⟨A, c, rfl, hl⟩ := hu.form
  by_cases hn0 : l = []
  · subst hn0
    have hz : ∀ (W : World) A c, PsOn (fun k => w.heap.size ≤ k) d W (.slice A 0 c) [] := fun W A c => PsOn.mono (d := 0) ⟨rfl, A, c, rfl⟩ (Nat.zero_le _)
    have cg : Calls Tryz.prog 96 #[.slice A 0 c] w fun e w' => ∃ A' c', e = .returned (.slice A' 0 c') ∧ Below w.heap.size w w' := by
      cases A with
      | none => exact (pclone_nil c w).mono fun e w' ⟨h1, h2⟩ => ⟨none, 0, h1, h2 ▸ Below.refl _ _⟩
      | some b => exact (pclone_some b 0 c [] w rfl (fun k u h => by simp at h) (fun u h => by simp at h) (by omega)).mono fun e w' ⟨A', c', h1, _, h2, _⟩ => ⟨A', c', h1, h2⟩
    have HZ := Lib.hid hz
    clear hu hsz hz
    go_enter Tryz.func57, Tryz.ntmps57
    go_wp2_with fail
    refine cg.mono ?_
    rintro e w1 ⟨A', c', rfl, hb1⟩
    clear cg
    go_wp2_with fail
    go_loopw [11] (fun i wr => i = .int .i64 0 ∧ w1 = wr) (fun i _ => 0)
    case atStart => exact ⟨rfl, rfl⟩
    case round =>
      obtain ⟨rfl, rfl⟩ := hrel
      go_wp2_with fail
      go_ret
      exact ⟨_, rfl, HZ.out _ _ _, hb1⟩
  obtain ⟨d, rfl⟩ : ∃ e, d = e + 1 := by
    cases d with
    | zero => exact absurd hu.1 hn0
    | succ d => exact ⟨d, rfl⟩
  obtain ⟨L, hLl, hL⟩ := hu.rows
  have hlen : L.length = l.length := by rw [← hLl, List.length_map]
  have hlp : 0 < l.length := by
    cases l with
    | nil => exact absurd rfl hn0
    | cons a r => simp
  obtain ⟨b, rfl⟩ : ∃ b, A = some b := by
    obtain ⟨x, hx⟩ : ∃ x, L[0]? = some x := ⟨_, List.getElem?_eq_getElem (by omega)⟩
    obtain ⟨b, o, s, h, _⟩ := hL 0 x hx
    exact ⟨_, h⟩
  have hln : l.length ≤ 1000 := Nat.le_trans (Pr.sizes_length l) hsz
  have hrd : ∀ (j : Nat) (x : Pd × Value), L[j]? = some x → PdCell w (b.add (j * 14)) x.1.f x.2 := fun j x h => by
    obtain ⟨b', o, s, h1, _, h2, _⟩ := hL j x h
    cases h1
    exact h2
  have hone : ∀ u ∈ pdCells L, u.oneCell' = true := by
    intro u hu
    simp only [pdCells, List.mem_flatMap] at hu
    obtain ⟨x, hx, hu⟩ := hu
    obtain ⟨j, hj⟩ := List.mem_iff_getElem?.1 hx
    obtain ⟨_, _, _, _, _, _, hk⟩ := hL j x hj
    obtain ⟨A2, c2, h2, _⟩ := hk.form
    rw [h2] at hu
    exact cells_one _ _ _ _ u hu
  have cg := pclone_some b l.length c (pdCells L) w (by rw [pdCells_length, hlen]) (pdCells_here hrd) hone (by omega)
  have hHang : ∀ W, Below w.heap.size w W → ∀ (j : Nat) (x : Pd × Value), L[j]? = some x → PsAt d W x.2 x.1.ps := fun W hb j x h => by
    obtain ⟨_, _, _, _, _, _, hk⟩ := hL j x h
    exact hk.below hb (Nat.le_refl _)
  have hsize : ∀ (j : Nat) (x : Pd × Value), L[j]? = some x → Pr.sizes x.1.ps ≤ 1000 := fun j x h => by
    have h2 : l[j]? = some x.1 := by rw [← hLl, List.getElem?_map, h]; rfl
    have := Pr.sizes_down h2
    omega
  have hfst : ∀ (j : Nat) (x : Pd × Value), L[j]? = some x → l[j]? = some x.1 := fun j x h => by rw [← hLl, List.getElem?_map, h]; rfl
  have HH := Lib.hid hHang
  have HZ := Lib.hid hsize
  have HF := Lib.hid hfst
  have HLL := Lib.hid hlen
  
  obtain ⟨n, hn⟩ : ∃ n, n = l.length := ⟨_, rfl⟩
  rw [← hn] at cg hl hlp hln HLL ⊢
  have HN := Lib.hid hn
  clear hu hsz hn hn0 hL hLl hlen hrd hone hHang hsize hfst
  go_enter Tryz.func57, Tryz.ntmps57
  go_wp2_with fail
  refine cg.mono ?_
  rintro e w1 ⟨A', c', rfl, hnc, hb1, hor⟩
  obtain ⟨g, rfl, hg, hrow1⟩ := hor.resolve_left (by omega)
  have HNC := Lib.hid hnc
  have HG := Lib.hid hg
  have hgl := Lib.hid hrow1.lt
  have HR := Lib.hid hrow1
  obtain ⟨T1, hT1⟩ : ∃ T1 : Nat → Prop, T1 = fun k => w1.heap.size ≤ k := ⟨_, rfl⟩
  have HT1 := Lib.hid hT1
  clear cg hor hrow1 hnc hT1 hg
  go_wp2_with fail
  go_loopw [11] (fun i wr => ∃ (q : Nat) (M : List (Pd × Value)), q ≤ n ∧ i = .int .i64 q ∧ Hid (M.length = n ∧ ∀ (j : Nat) (x : Pd × Value), M[j]? = some x → (q ≤ j → L[j]? = some x) ∧ (j < q → l[j]? = some x.1 ∧ PsOn T1 d wr x.2 x.1.ps)) ∧ Hid (RowLies wr g 57 (pdCells M)) ∧ Below w.heap.size w wr ∧ Hid (w1.heap.size ≤ wr.heap.size)) (fun i _ => n - (intOf i).toNat)
  case atStart => exact ⟨0, L, Nat.zero_le _, rfl, Lib.hid ⟨HLL.out, fun j x h => ⟨fun _ => h, fun hj => by omega⟩⟩, HR, hb1, Lib.hid (Nat.le_refl _)⟩
  case round =>
    obtain ⟨q, M, hq, rfl, hM, hrow, hb, hsz1⟩ := hrel
    by_cases hlt : q < n
    · obtain ⟨⟨x, xu⟩, hMx⟩ : ∃ x, M[q]? = some x := ⟨M[q]'(by have := hM.out.1; omega), List.getElem?_eq_getElem _⟩
      have hLx := (hM.out.2 q _ hMx).1 (Nat.le_refl _)
      have hcell := hrow.out.pd hMx
      have hk1 := HH.out wr hb q _ hLx
      obtain ⟨A2, c2, hA2, _⟩ := hk1.form
      change xu = .slice A2 x.ps.length c2 at hA2
      subst hA2
      have hba : Below w.heap.size w (wr.alloc (Obj.cells #[.int .i64 x.f.k, .int .i64 x.f.u, .int .i64 x.f.o, .int .i64 x.f.a.k, .int .i64 x.f.a.t, .int .i64 x.f.a.c, .bool x.f.a.z, .int .i64 x.f.a.n, .int .i64 x.f.b.k, .int .i64 x.f.b.t, .int .i64 x.f.b.c, .bool x.f.b.z, .int .i64 x.f.b.n, .slice A2 x.ps.length c2] 57)) := below_join hb (below_new _ _)
      have cs := pcopy_at d x.f _ x.ps _ (HH.out _ hba q _ hLx) (HZ.out q _ hLx)
      have hfst := HF.out q _ hLx
      have hrowa := hrow.out.block (w' := wr.alloc (Obj.cells #[.int .i64 x.f.k, .int .i64 x.f.u, .int .i64 x.f.o, .int .i64 x.f.a.k, .int .i64 x.f.a.t, .int .i64 x.f.a.c, .bool x.f.a.z, .int .i64 x.f.a.n, .int .i64 x.f.b.k, .int .i64 x.f.b.t, .int .i64 x.f.b.c, .bool x.f.b.z, .int .i64 x.f.b.n, .slice A2 x.ps.length c2] 57)) (Below.heap_alloc _ _ _ hrow.out.lt)
      have HRA := Lib.hid hrowa
      have HBA := Lib.hid hba
      have HFX := Lib.hid hfst
      have HMX := Lib.hid hMx
      have hgs := hrow.out.lt
      obtain ⟨x0, x1, x2, x3, x4, x5, x6, x7, x8, x9, x10, x11, x12, x13⟩ := hcell
      dsimp only at x0 x1 x2 x3 x4 x5 x6 x7 x8 x9 x10 x11 x12 x13
      have CS := Lib.hid cs
      clear hLx hk1 hba hfst hrowa hMx cs
      go_wp2_with fail
      refine CS.out.mono ?_
      rintro e2 w2 ⟨u2, rfl, hnu, hb2⟩
      obtain ⟨B2, k2, rfl⟩ := hnu.form
      have hrow2 := HRA.out.block (w' := w2) (hb2.block _ HRA.out.lt)
      have hb3 := Lib.hid (below_join HBA.out hb2)
      have hcell2 := hrow2.pd HMX.out
      obtain ⟨z0, z1, z2, z3, z4, z5, z6, z7, z8, z9, z10, z11, z12, z13⟩ := hcell2
      dsimp only at z0 z1 z2 z3 z4 z5 z6 z7 z8 z9 z10 z11 z12 z13
      have f0 := hrow2.free (q * 14)
      have f1 := hrow2.free (q * 14 + 1)
      have f2 := hrow2.free (q * 14 + 2)
      have f3 := hrow2.free (q * 14 + 3)
      have f4 := hrow2.free (q * 14 + 4)
      have f5 := hrow2.free (q * 14 + 5)
      have f6 := hrow2.free (q * 14 + 6)
      have f7 := hrow2.free (q * 14 + 7)
      have f8 := hrow2.free (q * 14 + 8)
      have f9 := hrow2.free (q * 14 + 9)
      have f10 := hrow2.free (q * 14 + 10)
      have f11 := hrow2.free (q * 14 + 11)
      have f12 := hrow2.free (q * 14 + 12)
      have f13 := hrow2.free (q * 14 + 13)
      have hs2 := hb2.size
      rw [World.size_alloc] at hs2
      have HS2 := Lib.hid hs2
      have hlen2 : q < M.length := by have := hM.out.1; omega
      obtain ⟨u1, u2, u3⟩ := pdCells_put (y := (x, .slice B2 x.ps.length k2)) hlen2
      have hrow4 := Lib.hid (RowLies.sets (ys := [.int .i64 x.f.k, .int .i64 x.f.u, .int .i64 x.f.o, .int .i64 x.f.a.k, .int .i64 x.f.a.t, .int .i64 x.f.a.c, .bool x.f.a.z, .int .i64 x.f.a.n, .int .i64 x.f.b.k, .int .i64 x.f.b.t, .int .i64 x.f.b.c, .bool x.f.b.z, .int .i64 x.f.b.n, .slice B2 x.ps.length k2]) (o := q * 14) hrow2 u1 (by rw [pdCells_length]; show q * 14 + 14 ≤ _; omega) u2 (fun i hi => u3 i hi))
      have hb4 := Lib.hid (Below.sets (B := w.heap.size) (g := g) HG.out [.int .i64 x.f.k, .int .i64 x.f.u, .int .i64 x.f.o, .int .i64 x.f.a.k, .int .i64 x.f.a.t, .int .i64 x.f.a.c, .bool x.f.a.z, .int .i64 x.f.a.n, .int .i64 x.f.b.k, .int .i64 x.f.b.t, .int .i64 x.f.b.c, .bool x.f.b.z, .int .i64 x.f.b.n, .slice B2 x.ps.length k2] (q * 14) hb3.out)
      have hsz4 : w2.heap.size = (setCells w2 g (q * 14) [.int .i64 x.f.k, .int .i64 x.f.u, .int .i64 x.f.o, .int .i64 x.f.a.k, .int .i64 x.f.a.t, .int .i64 x.f.a.c, .bool x.f.a.z, .int .i64 x.f.a.n, .int .i64 x.f.b.k, .int .i64 x.f.b.t, .int .i64 x.f.b.c, .bool x.f.b.z, .int .i64 x.f.b.n, .slice B2 x.ps.length k2]).heap.size := (setCells_size _ _ _ _).symm
      have hM4 : Hid ((M.set q (x, .slice B2 x.ps.length k2)).length = n ∧ ∀ (j : Nat) (z : Pd × Value), (M.set q (x, .slice B2 x.ps.length k2))[j]? = some z → (q + 1 ≤ j → L[j]? = some z) ∧ (j < q + 1 → l[j]? = some z.1 ∧ PsOn T1 d (setCells w2 g (q * 14) [.int .i64 x.f.k, .int .i64 x.f.u, .int .i64 x.f.o, .int .i64 x.f.a.k, .int .i64 x.f.a.t, .int .i64 x.f.a.c, .bool x.f.a.z, .int .i64 x.f.a.n, .int .i64 x.f.b.k, .int .i64 x.f.b.t, .int .i64 x.f.b.c, .bool x.f.b.z, .int .i64 x.f.b.n, .slice B2 x.ps.length k2]) z.2 z.1.ps)) := Lib.hid (by
        have hs0 := hsz1.out
        have hgl2 := hgl.out
        have hkeep : ∀ k, T1 k → k < w2.heap.size → (setCells w2 g (q * 14) [.int .i64 x.f.k, .int .i64 x.f.u, .int .i64 x.f.o, .int .i64 x.f.a.k, .int .i64 x.f.a.t, .int .i64 x.f.a.c, .bool x.f.a.z, .int .i64 x.f.a.n, .int .i64 x.f.b.k, .int .i64 x.f.b.t, .int .i64 x.f.b.c, .bool x.f.b.z, .int .i64 x.f.b.n, .slice B2 x.ps.length k2]).heap[k]? = w2.heap[k]? ∧ T1 k := fun k hk _ => ⟨setCells_other _ _ (by rw [HT1.out] at hk; omega) _ _ _, hk⟩
        have hkeep1 : ∀ k, T1 k → k < wr.heap.size → (setCells w2 g (q * 14) [.int .i64 x.f.k, .int .i64 x.f.u, .int .i64 x.f.o, .int .i64 x.f.a.k, .int .i64 x.f.a.t, .int .i64 x.f.a.c, .bool x.f.a.z, .int .i64 x.f.a.n, .int .i64 x.f.b.k, .int .i64 x.f.b.t, .int .i64 x.f.b.c, .bool x.f.b.z, .int .i64 x.f.b.n, .slice B2 x.ps.length k2]).heap[k]? = wr.heap[k]? ∧ T1 k := fun k hk hlt => ⟨((hkeep k hk (by omega)).1.trans (hb2.block k (by rw [World.size_alloc]; omega))).trans (Below.heap_alloc _ _ _ hlt), hk⟩
        refine ⟨by rw [List.length_set]; exact hM.out.1, fun j z hz => ?_⟩
        by_cases hj : j = q
        · subst hj
          rw [List.getElem?_set_self hlen2] at hz
          cases hz
          refine ⟨fun h => by omega, fun _ => ⟨HFX.out, ?_⟩⟩
          exact hnu.on.keep (by omega) (fun k hk hlt => hkeep k (by rw [World.size_alloc] at hk; rw [HT1.out]; omega) hlt)
        · rw [List.getElem?_set_ne (fun e => hj e.symm)] at hz
          obtain ⟨h1, h2⟩ := hM.out.2 j z hz
          refine ⟨fun h => h1 (by omega), fun h => ?_⟩
          obtain ⟨h3, h4⟩ := h2 (by omega)
          exact ⟨h3, h4.keep (by omega) hkeep1⟩)
      have hsz5 := Lib.hid (show w1.heap.size ≤ (setCells w2 g (q * 14) [.int .i64 x.f.k, .int .i64 x.f.u, .int .i64 x.f.o, .int .i64 x.f.a.k, .int .i64 x.f.a.t, .int .i64 x.f.a.c, .bool x.f.a.z, .int .i64 x.f.a.n, .int .i64 x.f.b.k, .int .i64 x.f.b.t, .int .i64 x.f.b.c, .bool x.f.b.z, .int .i64 x.f.b.n, .slice B2 x.ps.length k2]).heap.size by have := hsz1.out; omega)
      clear hrow hrow2 hM hb hb2 hnu u1 u2 u3 hlen2 hsz4 hs2 hgs x0 x1 x2 x3 x4 x5 x6 x7 x8 x9 x10 x11 x12 x13 CS HRA HBA
      go_wp2_with fail
      go_roundw
      case rel => exact ⟨q + 1, _, by omega, by go_num, hM4, hrow4, hb4.out, hsz5⟩
      case measure => simp [intOf]; omega
    · obtain rfl : q = n := by omega
      have hres : PsOn (fun k => w.heap.size ≤ k) (d + 1) wr (.slice (some ⟨g, 0, none⟩) q c') l := by
        refine ⟨_, c', by rw [HN.out], by have := HN.out; omega, fun j a ha => ?_⟩
        have hj : j < q := by rw [HN.out]; exact (List.getElem?_eq_some_iff.1 ha).1
        obtain ⟨x, hx⟩ : ∃ x, M[j]? = some x := ⟨M[j]'(by have := hM.out.1; omega), List.getElem?_eq_getElem _⟩
        obtain ⟨h1, h2⟩ := (hM.out.2 j x hx).2 hj
        rw [ha] at h1
        cases h1
        have hcell := hrow.out.pd hx
        have hlow : ∀ k, T1 k → k < wr.heap.size → wr.heap[k]? = wr.heap[k]? ∧ w.heap.size ≤ k := fun k hk _ => ⟨rfl, by rw [HT1.out] at hk; have := hb1.size; omega⟩
        exact ⟨g, 0, none, _, rfl, HG.out, hrow.out.lt, by rw [add_from5]; exact hcell, h2.keep (Nat.le_refl _) hlow⟩
      have HRES := Lib.hid hres
      clear hres hM hrow
      go_wp2_with fail
      go_ret
      exact ⟨_, rfl, HRES.out, hb⟩
end Go.Proofs.YtbddhkgbpjhhaaaGreatDoor
namespace Go.Proofs.YtbddhkgbpjhhaaaGreatDoor
open Go.RowKit Go.Sort
set_option maxHeartbeats 1000000
set_option maxRecDepth 100000 in
theorem teach_of (d : Nat) (ih : ∀ e, e < d → ∀ (a : Tr) (u v : Value) (w : World), TsAt e w u a.ks → PsSome w v a.cs → Tr.size a ≤ 1000 → Calls Tryz.prog 32 #[.agg #[.int .i64 a.k, .int .i64 a.t, u, v, .bool a.h]] w (NewTr e w a)) (u : Value) (l : List Tr) (w : World) (hu : TsAt d w u l) (hsz : Tr.sizes l ≤ 1000) :
    Calls Tryz.prog 56 #[u, .func (.func 32) #[] #[]] w fun e w' => ∃ r, e = .returned r ∧ TsTop w.heap.size d w' r l ∧ Below w.heap.size w w' := by
  obtain ⟨A, c, rfl, hl⟩ := hu.form
  by_cases hn0 : l = []
  · subst hn0
    have hz : ∀ (W : World) A c, TsTop w.heap.size d W (.slice A 0 c) [] := fun W A c => TsTop.nil _ _ _ _ _
    have cg : Calls Tryz.prog 54 #[.slice A 0 c] w fun e w' => ∃ A' c', e = .returned (.slice A' 0 c') ∧ Below w.heap.size w w' := by
      cases A with
      | none => exact (tclone_nil c w).mono fun e w' ⟨h1, h2⟩ => ⟨none, 0, h1, h2 ▸ Below.refl _ _⟩
      | some b => exact (tclone_some b 0 c [] w rfl (fun k u h => by simp at h) (fun u h => by simp at h) (by omega)).mono fun e w' ⟨A', c', h1, _, h2, _⟩ => ⟨A', c', h1, h2⟩
    have HZ := Lib.hid hz
    clear hu ih hsz hz
    go_enter Tryz.func56, Tryz.ntmps56
    go_wp2_with fail
    refine cg.mono ?_
    rintro e w1 ⟨A', c', rfl, hb1⟩
    clear cg
    go_wp2_with fail
    go_loopw [11] (fun i wr => i = .int .i64 0 ∧ w1 = wr) (fun i _ => 0)
    case atStart => exact ⟨rfl, rfl⟩
    case round =>
      obtain ⟨rfl, rfl⟩ := hrel
      go_wp2_with fail
      go_ret
      exact ⟨_, rfl, HZ.out _ _ _, hb1⟩
  obtain ⟨d, rfl⟩ : ∃ e, d = e + 1 := by
    cases d with
    | zero => exact absurd hu.1 hn0
    | succ d => exact ⟨d, rfl⟩
  obtain ⟨L, hLl, hL⟩ := hu.rows
  have hlen : L.length = l.length := by rw [← hLl, List.length_map]
  have hlp : 0 < l.length := by
    cases l with
    | nil => exact absurd rfl hn0
    | cons a r => simp
  obtain ⟨b, rfl⟩ : ∃ b, A = some b := by
    obtain ⟨x, hx⟩ : ∃ x, L[0]? = some x := ⟨_, List.getElem?_eq_getElem (by omega)⟩
    obtain ⟨b, o, s, h, _⟩ := hL 0 x hx
    exact ⟨_, h⟩
  have hln : l.length ≤ 1000 := Nat.le_trans (Tr.sizes_length l) hsz
  have hrd : ∀ (j : Nat) (x : TrV), L[j]? = some x → TrCell w (b.add (j * 5)) x.1 x.2.1 x.2.2 := fun j x h => by
    obtain ⟨b', o, s, h1, _, h2, _⟩ := hL j x h
    cases h1
    exact h2
  have hone : ∀ u ∈ trCells L, u.oneCell' = true := by
    intro u hu
    simp only [trCells, List.mem_flatMap] at hu
    obtain ⟨x, hx, hu⟩ := hu
    obtain ⟨j, hj⟩ := List.mem_iff_getElem?.1 hx
    obtain ⟨_, _, _, _, _, _, ⟨D, hp⟩, hk⟩ := hL j x hj
    obtain ⟨A2, c2, h2, _⟩ := hk.form
    obtain ⟨A4, c4, h4, _⟩ := hp.form
    rw [h2, h4] at hu
    simp [Tr.cells] at hu
    rcases hu with rfl | rfl | rfl | rfl | rfl <;> rfl
  have cg := tclone_some b l.length c (trCells L) w (by rw [trCells_length, hlen]) (trCells_here hrd) hone (by omega)
  have hHang : ∀ W, Below w.heap.size w W → ∀ (j : Nat) (x : TrV), L[j]? = some x → TsAt d W x.2.1 x.1.ks ∧ PsSome W x.2.2 x.1.cs := fun W hb j x h => by
    obtain ⟨_, _, _, _, _, _, hp, hk⟩ := hL j x h
    exact ⟨hk.below hb (Nat.le_refl _), hp.below hb (Nat.le_refl _)⟩
  have hsize : ∀ (j : Nat) (x : TrV), L[j]? = some x → Tr.size x.1 ≤ 1000 := fun j x h => by
    have h2 : l[j]? = some x.1 := by rw [← hLl, List.getElem?_map, h]; rfl
    have := Tr.sizes_at h2
    omega
  have hfst : ∀ (j : Nat) (x : TrV), L[j]? = some x → l[j]? = some x.1 := fun j x h => by rw [← hLl, List.getElem?_map, h]; rfl
  have HH := Lib.hid hHang
  have HZ := Lib.hid hsize
  have HF := Lib.hid hfst
  have HLL := Lib.hid hlen
  have IH := Lib.hid ih
  obtain ⟨n, hn⟩ : ∃ n, n = l.length := ⟨_, rfl⟩
  rw [← hn] at cg hl hlp hln HLL ⊢
  have HN := Lib.hid hn
  clear hu ih hsz hn hn0 hL hLl hlen hrd hone hHang hsize hfst
  go_enter Tryz.func56, Tryz.ntmps56
  go_wp2_with fail
  refine cg.mono ?_
  rintro e w1 ⟨A', c', rfl, hnc, hb1, hor⟩
  obtain ⟨g, rfl, hg, hrow1⟩ := hor.resolve_left (by omega)
  have HNC := Lib.hid hnc
  have HG := Lib.hid hg
  have hgl := Lib.hid hrow1.lt
  have HR := Lib.hid hrow1
  obtain ⟨T1, hT1⟩ : ∃ T1 : Nat → Prop, T1 = fun k => w1.heap.size ≤ k := ⟨_, rfl⟩
  have HT1 := Lib.hid hT1
  clear cg hor hrow1 hnc hT1 hg
  go_wp2_with fail
  go_loopw [11] (fun i wr => ∃ (q : Nat) (M : List (TrV)), q ≤ n ∧ i = .int .i64 q ∧ Hid (M.length = n ∧ ∀ (j : Nat) (x : TrV), M[j]? = some x → (q ≤ j → L[j]? = some x) ∧ (j < q → l[j]? = some x.1 ∧ TsOn T1 d wr x.2.1 x.1.ks ∧ ∃ D, PsOn T1 D wr x.2.2 x.1.cs)) ∧ Hid (RowLies wr g 26 (trCells M)) ∧ Below w.heap.size w wr ∧ Hid (w1.heap.size ≤ wr.heap.size)) (fun i _ => n - (intOf i).toNat)
  case atStart => exact ⟨0, L, Nat.zero_le _, rfl, Lib.hid ⟨HLL.out, fun j x h => ⟨fun _ => h, fun hj => by omega⟩⟩, HR, hb1, Lib.hid (Nat.le_refl _)⟩
  case round =>
    obtain ⟨q, M, hq, rfl, hM, hrow, hb, hsz1⟩ := hrel
    by_cases hlt : q < n
    · obtain ⟨⟨x, xu, xv⟩, hMx⟩ : ∃ x, M[q]? = some x := ⟨M[q]'(by have := hM.out.1; omega), List.getElem?_eq_getElem _⟩
      have hLx := (hM.out.2 q _ hMx).1 (Nat.le_refl _)
      have hcell := hrow.out.tr hMx
      obtain ⟨hk1, hp1⟩ := HH.out wr hb q _ hLx
      obtain ⟨A2, c2, hA2, _⟩ := hk1.form
      obtain ⟨A4, c4, hA4, _⟩ := hp1.elim fun D h => h.form
      change xu = .slice A2 x.ks.length c2 at hA2
      change xv = .slice A4 x.cs.length c4 at hA4
      subst hA2 hA4
      have hba : Below w.heap.size w (wr.alloc (Obj.cells #[.int .i64 x.k, .int .i64 x.t, .slice A2 x.ks.length c2, .slice A4 x.cs.length c4, .bool x.h] 26)) := below_join hb (below_new _ _)
      obtain ⟨hk2, hp2⟩ := HH.out _ hba q _ hLx
      have cs := IH.out d (Nat.lt_succ_self d) x _ _ _ hk2 hp2 (HZ.out q _ hLx)
      have hfst := HF.out q _ hLx
      have hrowa := hrow.out.block (w' := wr.alloc (Obj.cells #[.int .i64 x.k, .int .i64 x.t, .slice A2 x.ks.length c2, .slice A4 x.cs.length c4, .bool x.h] 26)) (Below.heap_alloc _ _ _ hrow.out.lt)
      have HRA := Lib.hid hrowa
      have HBA := Lib.hid hba
      have HFX := Lib.hid hfst
      have HMX := Lib.hid hMx
      have hgs := hrow.out.lt
      obtain ⟨x0, x1, x2, x3, x4⟩ := hcell
      dsimp only at x0 x1 x2 x3 x4
      have CS := Lib.hid cs
      clear hLx hk1 hp1 hk2 hp2 hba hfst hrowa hMx cs
      go_wp2_with fail
      refine CS.out.mono ?_
      rintro e2 w2 ⟨u2, v2, rfl, hnu, hnv, hb2⟩
      replace hnu := hnu.on
      obtain ⟨B2, k2, rfl, _⟩ := hnu.at_.form
      obtain ⟨B4, k4, rfl, _⟩ := hnv.elim fun D h => h.at_.form
      have hrow2 := HRA.out.block (w' := w2) (hb2.block _ HRA.out.lt)
      have hb3 := Lib.hid (below_join HBA.out hb2)
      have hcell2 := hrow2.tr HMX.out
      obtain ⟨z0, z1, z2, z3, z4⟩ := hcell2
      dsimp only at z0 z1 z2 z3 z4
      have f0 := hrow2.free (q * 5)
      have f1 := hrow2.free (q * 5 + 1)
      have f2 := hrow2.free (q * 5 + 2)
      have f3 := hrow2.free (q * 5 + 3)
      have f4 := hrow2.free (q * 5 + 4)
      have hs2 := hb2.size
      rw [World.size_alloc] at hs2
      have HS2 := Lib.hid hs2
      have hlen2 : q < M.length := by have := hM.out.1; omega
      obtain ⟨u1, u2, u3⟩ := trCells_put (y := (x, .slice B2 x.ks.length k2, .slice B4 x.cs.length k4)) hlen2
      have hrow4 := Lib.hid (RowLies.sets (ys := [.int .i64 x.k, .int .i64 x.t, .slice B2 x.ks.length k2, .slice B4 x.cs.length k4, .bool x.h]) (o := q * 5) hrow2 u1 (by rw [trCells_length]; show q * 5 + 5 ≤ _; omega) u2 (fun i hi => u3 i hi))
      have hb4 := Lib.hid (Below.sets (B := w.heap.size) (g := g) HG.out [.int .i64 x.k, .int .i64 x.t, .slice B2 x.ks.length k2, .slice B4 x.cs.length k4, .bool x.h] (q * 5) hb3.out)
      have hsz4 : w2.heap.size = (setCells w2 g (q * 5) [.int .i64 x.k, .int .i64 x.t, .slice B2 x.ks.length k2, .slice B4 x.cs.length k4, .bool x.h]).heap.size := (setCells_size _ _ _ _).symm
      have hM4 : Hid ((M.set q (x, .slice B2 x.ks.length k2, .slice B4 x.cs.length k4)).length = n ∧ ∀ (j : Nat) (z : TrV), (M.set q (x, .slice B2 x.ks.length k2, .slice B4 x.cs.length k4))[j]? = some z → (q + 1 ≤ j → L[j]? = some z) ∧ (j < q + 1 → l[j]? = some z.1 ∧ TsOn T1 d (setCells w2 g (q * 5) [.int .i64 x.k, .int .i64 x.t, .slice B2 x.ks.length k2, .slice B4 x.cs.length k4, .bool x.h]) z.2.1 z.1.ks ∧ ∃ D, PsOn T1 D (setCells w2 g (q * 5) [.int .i64 x.k, .int .i64 x.t, .slice B2 x.ks.length k2, .slice B4 x.cs.length k4, .bool x.h]) z.2.2 z.1.cs)) := Lib.hid (by
        have hs0 := hsz1.out
        have hgl2 := hgl.out
        have hkeep : ∀ k, T1 k → k < w2.heap.size → (setCells w2 g (q * 5) [.int .i64 x.k, .int .i64 x.t, .slice B2 x.ks.length k2, .slice B4 x.cs.length k4, .bool x.h]).heap[k]? = w2.heap[k]? ∧ T1 k := fun k hk _ => ⟨setCells_other _ _ (by rw [HT1.out] at hk; omega) _ _ _, hk⟩
        have hkeep1 : ∀ k, T1 k → k < wr.heap.size → (setCells w2 g (q * 5) [.int .i64 x.k, .int .i64 x.t, .slice B2 x.ks.length k2, .slice B4 x.cs.length k4, .bool x.h]).heap[k]? = wr.heap[k]? ∧ T1 k := fun k hk hlt => ⟨((hkeep k hk (by omega)).1.trans (hb2.block k (by rw [World.size_alloc]; omega))).trans (Below.heap_alloc _ _ _ hlt), hk⟩
        refine ⟨by rw [List.length_set]; exact hM.out.1, fun j z hz => ?_⟩
        by_cases hj : j = q
        · subst hj
          rw [List.getElem?_set_self hlen2] at hz
          cases hz
          refine ⟨fun h => by omega, fun _ => ⟨HFX.out, ?_⟩⟩
          have hk5 : ∀ k, (wr.alloc (Obj.cells #[.int .i64 x.k, .int .i64 x.t, .slice A2 x.ks.length c2, .slice A4 x.cs.length c4, .bool x.h] 26)).heap.size ≤ k → k < w2.heap.size → (setCells w2 g (j * 5) [.int .i64 x.k, .int .i64 x.t, .slice B2 x.ks.length k2, .slice B4 x.cs.length k4, .bool x.h]).heap[k]? = w2.heap[k]? ∧ T1 k := fun k hk hlt => by
            have ht : T1 k := by rw [HT1.out, World.size_alloc] at *; omega
            exact hkeep k ht hlt
          exact ⟨hnu.keep (by omega) hk5, hnv.elim fun D h => ⟨D, h.keep (by omega) fun k hk => hk5 k hk.1⟩⟩
        · rw [List.getElem?_set_ne (fun e => hj e.symm)] at hz
          obtain ⟨h1, h2⟩ := hM.out.2 j z hz
          refine ⟨fun h => h1 (by omega), fun h => ?_⟩
          obtain ⟨h3, h4⟩ := h2 (by omega)
          exact ⟨h3, h4.1.keep (by omega) hkeep1, h4.2.elim fun D h => ⟨D, h.keep (by omega) hkeep1⟩⟩)
      have hsz5 := Lib.hid (show w1.heap.size ≤ (setCells w2 g (q * 5) [.int .i64 x.k, .int .i64 x.t, .slice B2 x.ks.length k2, .slice B4 x.cs.length k4, .bool x.h]).heap.size by have := hsz1.out; omega)
      clear hrow hrow2 hM hb hb2 hnu hnv u1 u2 u3 hlen2 hsz4 hs2 hgs x0 x1 x2 x3 x4 CS HRA HBA
      go_wp2_with fail
      go_roundw
      case rel => exact ⟨q + 1, _, by omega, by go_num, hM4, hrow4, hb4.out, hsz5⟩
      case measure => simp [intOf]; omega
    · obtain rfl : q = n := by omega
      have hMl : M.map (·.1) = l := by
        refine List.ext_getElem? fun j => ?_
        rw [List.getElem?_map]
        cases hx : M[j]? with
        | none =>
          rw [List.getElem?_eq_none_iff] at hx
          exact (List.getElem?_eq_none_iff.2 (by have := HN.out; have := hM.out.1; omega)).symm
        | some x =>
          have hj : j < q := by have := hM.out.1; have := (List.getElem?_eq_some_iff.1 hx).1; omega
          exact (((hM.out.2 j x hx).2 hj).1).symm
      have hres : TsTop w.heap.size (d + 1) wr (.slice (some ⟨g, 0, none⟩) q c') l := by
        have hgl2 := hgl.out
        have hlow : ∀ k, T1 k → k < wr.heap.size → wr.heap[k]? = wr.heap[k]? ∧ g < k := fun k hk _ => ⟨rfl, by rw [HT1.out] at hk; omega⟩
        refine ⟨M, _, c', hMl, by rw [HN.out], ⟨by have := HN.out; omega, by rw [← HN.out]; exact HNC.out⟩, .inr ⟨g, d, rfl, rfl, HG.out, hrow.out, fun j x hx => ?_⟩⟩
        have hj : j < q := by have := hM.out.1; have := (List.getElem?_eq_some_iff.1 hx).1; omega
        obtain ⟨h1, h2⟩ := (hM.out.2 j x hx).2 hj
        exact ⟨h2.2.elim fun D h => ⟨D, h.keep (Nat.le_refl _) hlow⟩, h2.1.keep (Nat.le_refl _) hlow⟩
      have HRES := Lib.hid hres
      clear hres hM hrow
      go_wp2_with fail
      go_ret
      exact ⟨_, rfl, HRES.out, hb⟩
end Go.Proofs.YtbddhkgbpjhhaaaGreatDoor
namespace Go.Proofs.YtbddhkgbpjhhaaaGreatDoor
open Go.RowKit Go.Sort
set_option maxHeartbeats 1600000
theorem Pr.sizes_of_size {a : Tr} {n : Nat} (h : Tr.size a ≤ n) : Pr.sizes a.cs ≤ n ∧ Tr.sizes a.ks ≤ n := by rw [Tr.size_at] at h; omega
set_option maxRecDepth 100000 in
theorem tcopy_at (d : Nat) : ∀ (a : Tr) (u v : Value) (w : World), TsAt d w u a.ks → PsSome w v a.cs → Tr.size a ≤ 1000 → Calls Tryz.prog 32 #[.agg #[.int .i64 a.k, .int .i64 a.t, u, v, .bool a.h]] w (NewTr d w a) := by
  induction d using Nat.strongRecOn with
  | ind d ih =>
  intro a u v w hu hv hsz
  obtain ⟨hsp, hst⟩ := Pr.sizes_of_size hsz
  obtain ⟨D, hv⟩ := hv
  obtain ⟨A, c, rfl, hl⟩ := hu.form
  obtain ⟨A', c', rfl, hl'⟩ := hv.form
  obtain ⟨W0, hW0⟩ : ∃ W0, W0 = (w.alloc (Obj.cells #[.int .i64 a.k, .int .i64 a.t, .slice A a.ks.length c, .slice A' a.cs.length c', .bool a.h] 26)).alloc (Obj.cells #[.int .i64 0, .int .i64 0, .slice none 0 0, .slice none 0 0, .bool false] 26) := ⟨_, rfl⟩
  obtain ⟨l0, l1, hb0⟩ := box_two (cs := a.cells (.slice A a.ks.length c) (.slice A' a.cs.length c')) (ds := [.int .i64 0, .int .i64 0, .slice none 0 0, .slice none 0 0, .bool false]) hW0
  have cs := teach_of d ih _ a.ks W0 (hu.below hb0 (Nat.le_refl _)) hst
  have HV := Lib.hid hv
  have HSP := Lib.hid hsp
  have HW := Lib.hid hW0
  have HP := Lib.hid l0
  have HQ := Lib.hid l1
  have hsz0 : W0.heap.size = w.heap.size + 1 + 1 := by rw [hW0, World.size_alloc, World.size_alloc]
  have x2 := l0.tr.c2
  clear hu hv hW0 l0 l1 ih hsz hsp hst
  go_enter Tryz.func32, Tryz.ntmps32
  go_upto_region 1 with (fail)
  rw [← HW.out]
  go_wp2_with fail
  refine cs.mono ?_
  rintro e w2 ⟨r, rfl, hin, hb2⟩
  obtain ⟨B2, c2, rfl, _⟩ := hin.on.at_.form
  clear cs x2
  have l2 := HP.out.below hb2 HP.out.lt
  have q2 := HQ.out.below hb2 HQ.out.lt
  have HIN := Lib.hid hin
  have x2 := l2.tr.c2
  have fr := l2.free 2
  have HL2 := Lib.hid l2
  have HQ2 := Lib.hid q2
  clear hin l2 q2
  go_upto_region 2 with (fail)
  obtain ⟨W3, hW3⟩ : ∃ W3, W3 = w2.setCell ⟨w.heap.size, 2, none⟩ (.slice B2 a.ks.length c2) := ⟨_, rfl⟩
  rw [← hW3]
  have l3 : Lies W3 w.heap.size 26 (a.cells (.slice B2 a.ks.length c2) (.slice A' a.cs.length c')) := by rw [hW3]; exact HL2.out.set 2 _
  have q3 : Lies W3 (w.heap.size + 1) 26 [.int .i64 0, .int .i64 0, .slice none 0 0, .slice none 0 0, .bool false] := by rw [hW3]; exact HQ2.out.far (by show w.heap.size + 1 ≠ w.heap.size; omega) _
  have hs3 : w2.heap.size = W3.heap.size := by rw [hW3]; simp [World.setCell]
  have hk3 : ∀ k, W0.heap.size ≤ k → W3.heap[k]? = w2.heap[k]? := fun k hk => by rw [hW3]; exact Below.heap_setCell _ _ _ _ (by show k ≠ w.heap.size; omega)
  have hin3 : TsTop W0.heap.size d W3 (.slice B2 a.ks.length c2) a.ks := HIN.out.keep (by omega) fun k hk _ => ⟨hk3 k hk, hk⟩
  have hb3 : Below w.heap.size w W3 := by rw [hW3]; exact (below_join hb0 hb2).setCell (Nat.le_refl _) _
  have cp := peach10_of D _ a.cs W3 (HV.out.below hb3 (Nat.le_refl _)) HSP.out
  have HIN3 := Lib.hid hin3
  have HB3 := Lib.hid hb3
  have HL3 := Lib.hid l3
  have HQ3 := Lib.hid q3
  have hle3 : W0.heap.size ≤ W3.heap.size := by have := hb2.size; omega
  have HSZ := Lib.hid (show w.heap.size + 1 < W3.heap.size ∧ w.heap.size + 1 < W0.heap.size ∧ W0.heap.size ≤ W3.heap.size from ⟨by omega, by omega, hle3⟩)
  have x3 := l3.tr.c3
  clear hW3 l3 q3 hin3 hb3 fr hb0 hb2 hsz0 hs3 hk3 x2 hle3
  go_wp2_with fail
  refine cp.mono ?_
  rintro e w4 ⟨r, rfl, hin, hb4⟩
  obtain ⟨B4, c4, rfl, _⟩ := hin.at_.form
  clear cp x3
  have l4 := HL3.out.below hb4 (by have := HSZ.out; omega)
  have q4 := HQ3.out.below hb4 HSZ.out.1
  have x3 := l4.tr.c3
  have fr := l4.free 3
  have HIN4 := Lib.hid hin
  have HL4 := Lib.hid l4
  have HQ4 := Lib.hid q4
  have HB4 := Lib.hid hb4
  clear hin l4 q4 hb4
  go_upto_region 3 with (fail)
  obtain ⟨W5, hW5⟩ : ∃ W5, W5 = w4.setCell ⟨w.heap.size, 3, none⟩ (.slice B4 a.cs.length c4) := ⟨_, rfl⟩
  rw [← hW5]
  have l5 : Lies W5 w.heap.size 26 (a.cells (.slice B2 a.ks.length c2) (.slice B4 a.cs.length c4)) := by rw [hW5]; exact HL4.out.set 3 _
  have q5 : Lies W5 (w.heap.size + 1) 26 [.int .i64 0, .int .i64 0, .slice none 0 0, .slice none 0 0, .bool false] := by rw [hW5]; exact HQ4.out.far (by show w.heap.size + 1 ≠ w.heap.size; omega) _
  have HW5 := Lib.hid hW5
  have HQ5 := Lib.hid q5
  obtain ⟨x0, x1, x2, x3, x4⟩ := l5.tr
  simp only [Nat.zero_add] at x0 x1 x2 x3 x4
  have z0 := q5.cell (i := 0) rfl
  have z1 := q5.cell (i := 1) rfl
  have z2 := q5.cell (i := 2) rfl
  have z3 := q5.cell (i := 3) rfl
  have z4 := q5.cell (i := 4) rfl
  have f0 := q5.free 0
  have f1 := q5.free 1
  have f2 := q5.free 2
  have f3 := q5.free 3
  have f4 := q5.free 4
  clear hW5 l5 q5 fr
  go_wp2_with fail
  obtain ⟨W6, hW6⟩ : ∃ W6, W6 = setCells W5 (w.heap.size + 1) 0 [.int .i64 a.k, .int .i64 a.t, .slice B2 a.ks.length c2, .slice B4 a.cs.length c4, .bool a.h] := ⟨_, rfl⟩
  simp only [setCells] at hW6
  rw [← hW6]
  change W6 = setCells W5 (w.heap.size + 1) 0 [.int .i64 a.k, .int .i64 a.t, .slice B2 a.ks.length c2, .slice B4 a.cs.length c4, .bool a.h] at hW6
  have q6 : Lies W6 (w.heap.size + 1) 26 (a.cells (.slice B2 a.ks.length c2) (.slice B4 a.cs.length c4)) := by rw [hW6]; exact HQ5.out.sets _ 0
  have hs6 : W6.heap.size = w4.heap.size := by rw [hW6, setCells_size, HW5.out]; simp [World.setCell]
  have hk6 : ∀ k, W0.heap.size ≤ k → W6.heap[k]? = w4.heap[k]? := fun k hk => by
    rw [hW6, setCells_other _ _ (by have := HSZ.out; omega), HW5.out]; exact Below.heap_setCell _ _ _ _ (by show k ≠ w.heap.size; have := HSZ.out; omega)
  have hin6 : TsTop w.heap.size d W6 (.slice B2 a.ks.length c2) a.ks := HIN3.out.keep (by have := HB4.out.size; omega) fun k hk hlt => ⟨(hk6 k hk).trans (HB4.out.block k hlt), by have := HSZ.out; omega⟩
  have hip6 : PsOn (fun k => w.heap.size ≤ k ∧ Apart (.slice B2 a.ks.length c2) k) D W6 (.slice B4 a.cs.length c4) a.cs := HIN4.out.keep (by omega) fun k hk hlt => ⟨hk6 k (by have := HSZ.out; omega), by have := HSZ.out; omega, HIN3.out.apart hk⟩
  have hb6 : Below w.heap.size w W6 := by rw [hW6, HW5.out]; exact Below.sets (by omega) _ _ ((below_join HB3.out HB4.out).setCell (Nat.le_refl _) _)
  clear z0 z1 z2 z3 z4 f0 f1 f2 f3 f4 x0 x1 x2 x3 x4 hW6
  obtain ⟨x0, x1, x2, x3, x4⟩ := q6.tr
  simp only [Nat.zero_add] at x0 x1 x2 x3 x4
  exact bodyPost_ret (v := .agg #[.int .i64 a.k, .int .i64 a.t, .slice B2 a.ks.length c2, .slice B4 a.cs.length c4, .bool a.h]) (by simp [results, Tryz.results32, go_sem, x0, x1, x2, x3, x4]) rfl ⟨_, _, rfl, hin6, ⟨D, hip6⟩, hb6⟩
theorem tcopy_any (a : Tr) (u v : Value) (w : World) (hu : ∃ d, TsAt d w u a.ks) (hv : PsSome w v a.cs) (hsz : Tr.size a ≤ 1000) :
    Calls Tryz.prog 32 #[.agg #[.int .i64 a.k, .int .i64 a.t, u, v, .bool a.h]] w fun e w' => ∃ u' v', e = .returned (.agg #[.int .i64 a.k, .int .i64 a.t, u', v', .bool a.h]) ∧ TrOn (fun k => w.heap.size ≤ k) w' (a, u', v') ∧ Below w.heap.size w w' := by
  obtain ⟨d, hu⟩ := hu
  exact (tcopy_at d a u v w hu hv hsz).mono fun e w' ⟨u', v', he, h1, h2, hb⟩ => ⟨u', v', he, ⟨⟨d, h1.on⟩, h2.elim fun D h => ⟨D, h.keep (Nat.le_refl _) fun k hk _ => ⟨rfl, hk.1⟩⟩⟩, hb⟩
end Go.Proofs.YtbddhkgbpjhhaaaGreatDoor
namespace Go.Proofs.YtbddhkgbpjhhaaaGreatDoor
open Go.RowKit Go.Sort
set_option maxHeartbeats 1000000
theorem Keeps.setCell {S : Nat → Prop} {W W' : World} (h : Keeps S W W') {a : Addr} (v : Value) (ha : ¬ S a.block ∨ W.heap.size ≤ a.block) : Keeps S W (W'.setCell a v) :=
  ⟨h.os, h.tape, h.output, by simpa [World.setCell] using h.size, fun k hk hs => (Below.heap_setCell _ _ _ _ (fun e => by rcases ha with ha | ha; exact ha (e ▸ hs); omega)).trans (h.same k hk hs)⟩
end Go.Proofs.YtbddhkgbpjhhaaaGreatDoor
namespace Go.Proofs.YtbddhkgbpjhhaaaGreatDoor
open Go.RowKit Go.Shelf
attribute [local go_sem] Oper.semAt_some
set_option maxHeartbeats 1600000
theorem Tr.all_size {a x : Tr} (h : x ∈ Tr.all a) : Tr.size x ≤ Tr.size a := by
  revert x
  refine Tr.ind (P := fun a => ∀ {x : Tr}, x ∈ Tr.all a → Tr.size x ≤ Tr.size a) (fun a ih => ?_) a
  intro x h
  rw [Tr.all_at, List.mem_append, List.mem_singleton] at h
  rcases h with h | rfl
  · have key : ∀ l : List Tr, (∀ b ∈ l, ∀ {x : Tr}, x ∈ Tr.all b → Tr.size x ≤ Tr.size b) → x ∈ Tr.alls l → Tr.size x ≤ Tr.sizes l := by
      intro l
      induction l with
      | nil => intro _ h; rw [Tr.alls] at h; simp at h
      | cons b r ih2 =>
        intro hl h
        rw [Tr.alls, List.mem_append] at h
        rw [Tr.sizes]
        rcases h with h | h
        · have := hl b List.mem_cons_self h; omega
        · have := ih2 (fun c hc => hl c (List.mem_cons_of_mem _ hc)) h; omega
    have := key a.ks ih h
    have h2 := Tr.size_at a; omega
  · exact Nat.le_refl _
theorem four_new {W w4 : World} {t0 t1 t2 t3 : TypeId} {c0 c1 c2 c3 : List Value} (h : w4 = (((W.alloc (.cells c0.toArray t0)).alloc (.cells c1.toArray t1)).alloc (.cells c2.toArray t2)).alloc (.cells c3.toArray t3)) :
    Lies w4 W.heap.size t0 c0 ∧ Lies w4 (W.heap.size + 1) t1 c1 ∧ Lies w4 (W.heap.size + 1 + 1) t2 c2 ∧ Lies w4 (W.heap.size + 1 + 1 + 1) t3 c3 ∧ Below W.heap.size W w4 ∧ w4.heap.size = W.heap.size + 4 := by
  have l1 := Lies.new (W.alloc (.cells c0.toArray t0)) t1 c1
  have l2 := Lies.new ((W.alloc (.cells c0.toArray t0)).alloc (.cells c1.toArray t1)) t2 c2
  have l3 := Lies.new (((W.alloc (.cells c0.toArray t0)).alloc (.cells c1.toArray t1)).alloc (.cells c2.toArray t2)) t3 c3
  simp only [World.size_alloc] at l1 l2 l3
  rw [h]
  exact ⟨((((Lies.new W t0 c0).alloc _).alloc _).alloc _), ((l1.alloc _).alloc _), l2.alloc _, l3, (((below_new W _).alloc (by simp) _).alloc (by simp; omega) _).alloc (by simp; omega) _, by simp⟩
end Go.Proofs.YtbddhkgbpjhhaaaGreatDoor
namespace Go.Proofs.YtbddhkgbpjhhaaaGreatDoor
open Go.RowKit Go.Sort
set_option maxHeartbeats 1600000
end Go.Proofs.YtbddhkgbpjhhaaaGreatDoor
namespace Go.Proofs.YtbddhkgbpjhhaaaGreatDoor
open Go.RowKit Go.Sort
set_option maxHeartbeats 1600000
theorem TsOn.two {T : Nat → Prop} {w : World} {g : Nat} (ht : T g) (hg : g < w.heap.size) (t0 : TrCell w ⟨g, 0, none⟩ (leafTr 0) (.slice none 0 0) (.slice none 0 0)) (t1 : TrCell w ⟨g, 5, none⟩ (leafTr 1) (.slice none 0 0) (.slice none 0 0)) :
    TsOn T 2 w (.slice (some ⟨g, 0, none⟩) 2 2) [leafTr 0, leafTr 1] := by
  have hn : TsOn T 1 w (.slice none 0 0) [] := ⟨none, 0, rfl, by simp, fun j a h => by simp at h⟩
  have hp : ∃ e, PsOn T e w (.slice none 0 0) [] := ⟨0, rfl, none, 0, rfl⟩
  refine ⟨some ⟨g, 0, none⟩, 2, rfl, by simp, fun j a hj => ?_⟩
  match j, hj with
  | 0, hj =>
    cases hj
    exact ⟨g, 0, none, _, _, rfl, ht, hg, by simpa [Addr.add] using t0, hp, hn⟩
  | 1, hj =>
    cases hj
    exact ⟨g, 0, none, _, _, rfl, ht, hg, by simpa [Addr.add] using t1, hp, hn⟩
theorem PsOn.oneRow {T : Nat → Prop} {w : World} {g : Nat} {f : Pf} (ht : T g) (hg : g < w.heap.size) (h : PdCell w ⟨g, 0, none⟩ f (.slice none 0 0)) : PsOn T 1 w (.slice (some ⟨g, 0, none⟩) 1 1) [.mk f []] := by
  refine ⟨some ⟨g, 0, none⟩, 1, rfl, by simp, fun j p hj => ?_⟩
  match j, hj with
  | 0, hj =>
    cases hj
    exact ⟨g, 0, none, _, rfl, ht, hg, by rw [show (⟨g, 0, none⟩ : Addr).add (0 * 14) = ⟨g, 0, none⟩ by simp [Addr.add]]; exact h, rfl, none, 0, rfl⟩
theorem two_size (k : Int) : Tr.size (twoTr k) ≤ 1000 := by
  unfold twoTr leafTr eq01
  simp [Tr.size, Tr.sizes, Pr.sizes, Pr.size]
set_option maxRecDepth 100000 in
theorem two10_any (k : Int) (w : World) :
    Calls Tryz.prog 20 #[.int .i64 k] w
      fun e w' => ∃ u v, e = .returned (.agg #[.int .i64 k, .int .i64 0, u, v, .bool false]) ∧ TrHang w' (twoTr k, u, v) ∧ Below w.heap.size w w' := by
  obtain ⟨W0, hW0⟩ : ∃ W0, W0 = w.alloc (Obj.cells #[.int .i64 0, .int .i64 0, .slice none 0 0, .slice none 0 0, .bool false] 26) := ⟨_, rfl⟩
  obtain ⟨q0, hb0⟩ := box_one (cs := [.int .i64 0, .int .i64 0, .slice none 0 0, .slice none 0 0, .bool false]) hW0
  have HQ := Lib.hid q0
  have HW := Lib.hid hW0
  have hsz0 := Lib.hid (show w.heap.size < W0.heap.size by rw [hW0]; simp)
  clear hW0 q0
  go_enter Tryz.func20, Tryz.ntmps20
  go_wp2_with (go_at_call 22; refine (leaf10_any 0 _).mono ?_)
  rintro e w1 ⟨rfl, hb1⟩
  rw [← HW.out] at hb1
  go_wp2_with (go_at_call 22; refine (leaf10_any 1 _).mono ?_)
  rintro e w2 ⟨rfl, hb2⟩
  have hb02 := below_join hb1 hb2
  clear hb1 hb2
  go_wp2_with (go_at_call 23; refine (equal6_any 0 1 _).mono ?_)
  rintro e w3 ⟨rfl, hb3⟩
  have hb03 := below_join hb02 hb3
  clear hb02 hb3
  go_wp2_with (go_at_call 21; refine (on10_any k (leafTr 0, .slice none 0 0, .slice none 0 0) (leafTr 1, .slice none 0 0, .slice none 0 0) _ 1 1 _).mono ?_)
  obtain ⟨W4, hW4⟩ : ∃ W4, W4 = w3.alloc (Obj.cells #[.int .i64 2, .int .i64 0, .int .i64 1, .int .i64 1, .int .i64 0, .int .i64 0, .bool false, .int .i64 0, .int .i64 1, .int .i64 1, .int .i64 0, .bool false, .int .i64 0, .slice none 0 0] 57) := ⟨_, rfl⟩
  obtain ⟨lp, hb4⟩ := box_one (cs := [.int .i64 2, .int .i64 0, .int .i64 1, .int .i64 1, .int .i64 0, .int .i64 0, .bool false, .int .i64 0, .int .i64 1, .int .i64 1, .int .i64 0, .bool false, .int .i64 0, .slice none 0 0]) hW4
  rw [← hW4]
  have hps : PsOn (fun k => w.heap.size < k) 1 W4 (.slice (some ⟨w3.heap.size, 0, none⟩) 1 1) [eq01] := PsOn.oneRow (f := (⟨2, 0, 1, ⟨1, 0, 0, false, 0⟩, ⟨1, 1, 0, false, 0⟩⟩ : Pf)) (by have := hb03.size; have := hsz0.out; omega) lp.lt lp.pd
  have hb04 := below_join hb03 hb4
  have HP := Lib.hid hps
  have HB := Lib.hid hb04
  clear hb03 hps hb4 lp hW4 hb04
  rintro e w5 ⟨g, rfl, hg1, hg2, t0, t1, hb5⟩
  have hts := Lib.hid (TsOn.two (T := fun k => w.heap.size < k) (by have := HB.out.size; have := hsz0.out; omega) hg2 t0 t1)
  have hps5 := Lib.hid (HP.out.keep (T' := fun k => w.heap.size < k) hb5.size fun k hk hlt => ⟨hb5.block k hlt, hk⟩)
  have hb05 := below_join HB.out hb5
  have q5 := HQ.out.below hb05 hsz0.out
  have HB5 := Lib.hid (below_join hb0 hb05)
  have z0 := q5.cell (i := 0) rfl
  have z1 := q5.cell (i := 1) rfl
  have z2 := q5.cell (i := 2) rfl
  have z3 := q5.cell (i := 3) rfl
  have z4 := q5.cell (i := 4) rfl
  have f0 := q5.free 0
  have f1 := q5.free 1
  have f2 := q5.free 2
  have f3 := q5.free 3
  have f4 := q5.free 4
  have HQ5 := Lib.hid q5
  clear t0 t1 hb5 hg1 hg2 HP HB hb05 q5 hb0
  go_wp2_with fail
  obtain ⟨W6, hW6⟩ : ∃ W6, W6 = setCells w5 w.heap.size 0 [.int .i64 k, .int .i64 0, .slice (some ⟨g, 0, none⟩) 2 2, .slice (some ⟨w3.heap.size, 0, none⟩) 1 1, .bool false] := ⟨_, rfl⟩
  simp only [setCells] at hW6
  rw [← hW6]
  change W6 = setCells w5 w.heap.size 0 [.int .i64 k, .int .i64 0, .slice (some ⟨g, 0, none⟩) 2 2, .slice (some ⟨w3.heap.size, 0, none⟩) 1 1, .bool false] at hW6
  have q6 : Lies W6 w.heap.size 26 [.int .i64 k, .int .i64 0, .slice (some ⟨g, 0, none⟩) 2 2, .slice (some ⟨w3.heap.size, 0, none⟩) 1 1, .bool false] := by rw [hW6]; exact HQ5.out.sets _ 0
  have hs6 : W6.heap.size = w5.heap.size := by rw [hW6, setCells_size]
  have hk6 : ∀ k, w.heap.size < k → W6.heap[k]? = w5.heap[k]? := fun k hk => by rw [hW6, setCells_other _ _ (by omega)]
  have hang : TrHang W6 (twoTr k, .slice (some ⟨g, 0, none⟩) 2 2, .slice (some ⟨w3.heap.size, 0, none⟩) 1 1) :=
    TrOn.hang (T := fun k => w.heap.size < k) ⟨⟨2, hts.out.keep (by omega) fun k hk _ => ⟨hk6 k hk, hk⟩⟩, 1, hps5.out.keep (by omega) fun k hk _ => ⟨hk6 k hk, hk⟩⟩
  have hb6 : Below w.heap.size w W6 := by rw [hW6]; exact Below.sets (Nat.le_refl _) _ _ HB5.out
  have x0 := q6.cell (i := 0) rfl
  have x1 := q6.cell (i := 1) rfl
  have x2 := q6.cell (i := 2) rfl
  have x3 := q6.cell (i := 3) rfl
  have x4 := q6.cell (i := 4) rfl
  clear z0 z1 z2 z3 z4 f0 f1 f2 f3 f4 hW6
  exact bodyPost_ret (v := .agg #[.int .i64 k, .int .i64 0, .slice (some ⟨g, 0, none⟩) 2 2, .slice (some ⟨w3.heap.size, 0, none⟩) 1 1, .bool false]) (by simp [results, Tryz.results20, go_sem, x0, x1, x2, x3, x4]) rfl ⟨_, _, rfl, hang, hb6⟩
end Go.Proofs.YtbddhkgbpjhhaaaGreatDoor
namespace Go.Proofs.YtbddhkgbpjhhaaaGreatDoor
set_option maxRecDepth 100000
open Go.RowKit Go.WideShapes Go.ChangeShapes Go.Deep
section
variable {H : Type} {enc : TypeId × Value → H} {W : World}
theorem tree_cells {n : Nat} {cs : List Value} {y : DataW H × List MemPlace} (h : DataW.trod enc Tryz.prog W 0 (fun _ => true) true n 26 cs = some y) :
    ∃ (k t : Int) (b : Bool) (u v : Value) (m : Nat) (z z' : DataW H × List MemPlace), cs = [.int .i64 k, .int .i64 t, u, v, .bool b] ∧ m < n ∧ DataW.trod enc Tryz.prog W 0 (fun _ => true) true m 23 [u] = some z ∧ DataW.trod enc Tryz.prog W 0 (fun _ => true) true m 24 [v] = some z' := by
  obtain ⟨xs, m, hm, _, hl, hlen, hg⟩ := DataW.trod_struct Tryz.underlying26 h
  match cs, hl.trans (show Tryz.prog.cellsOf 26 = 5 by kernel_rfl) with
  | [c0, c1, c2, c3, c4], _ =>
    obtain ⟨_, _, g0⟩ := fld_came hg 0 3 0 1 rfl (by kernel_rfl) hlen
    obtain ⟨_, _, g1⟩ := fld_came hg 1 3 1 1 rfl (by kernel_rfl) hlen
    obtain ⟨z, _, g2⟩ := fld_came hg 2 23 2 1 rfl (by kernel_rfl) hlen
    obtain ⟨z', _, g3⟩ := fld_came hg 3 24 3 1 rfl (by kernel_rfl) hlen
    obtain ⟨_, _, g4⟩ := fld_came hg 4 4 4 1 rfl (by kernel_rfl) hlen
    obtain ⟨k, hk, _, _⟩ := DataW.trod_int Tryz.underlying3 g0
    obtain ⟨t, ht, _, _⟩ := DataW.trod_int Tryz.underlying3 g1
    obtain ⟨b, hb, _⟩ := DataW.trod_bool Tryz.underlying4 g4
    simp at hk ht hb
    exact ⟨k, t, b, c2, c3, m, z, z', by rw [hk, ht, hb], by omega, g2, g3⟩
theorem trees_came (n : Nat) : ∀ (v : Value) (y : DataW H × List MemPlace), DataW.trod enc Tryz.prog W 0 (fun _ => true) true n 23 [v] = some y → ∃ d ts, TsAt d W v ts := by
  induction n using Nat.strongRecOn with
  | ind n ih =>
  intro v y h
  rcases DataW.trod_slice Tryz.underlying23 h with ⟨hv, _⟩ | ⟨a, len, cap, elems, rest, m, hm, hv, _, _, hl, hcap, hlen, hel, _, _⟩
  · obtain rfl : v = .slice none 0 0 := by simpa using hv
    exact ⟨0, [], rfl, none, 0, rfl⟩
  · obtain rfl : v = .slice (some a) len cap := by simpa using hv
    rw [show Tryz.prog.cellsOf 26 = 5 by kernel_rfl] at hel
    have each : ∀ i, i < len → ∃ d, ∃ (p : Tr) (x y : Value), TrCell W (a.add (i * 5)) p x y ∧ PsSome W y p.cs ∧ TsAt d W x p.ks := by
      intro i hi
      have h1 := hel i hi
      rw [List.getElem?_eq_getElem (by omega)] at h1
      obtain ⟨cs', h2, h3⟩ := Option.bind_eq_some_iff.1 h1
      obtain ⟨k, t, b, u, v, m', z, z', rfl, hk, h4, h5⟩ := tree_cells h3
      obtain ⟨d, ts, hts⟩ := ih m' (by omega) u z h4
      obtain ⟨d', ps, hps⟩ := preds_came m' v z' h5
      obtain ⟨_, _, hc⟩ := World.cells?_some h2
      have hx : ∀ j, 0 < j → (a.add (i * 5)).add j = ⟨(a.add (i * 5)).block, (a.add (i * 5)).off + j, none⟩ := fun j hj => by
        generalize a.add (i * 5) = X
        unfold Addr.add
        rw [if_neg (by omega)]
      have h0 := hc 0 (by decide)
      have e0 : (a.add (i * 5)).add 0 = a.add (i * 5) := by unfold Addr.add; simp
      rw [e0] at h0
      have g := fun j (hj : 0 < j) (hj2 : j < 5) => by have := hc j hj2; rwa [hx j hj] at this
      exact ⟨d, .mk k t b ps ts, u, v, ⟨h0, g 1 (by decide) (by decide), g 2 (by decide) (by decide), g 3 (by decide) (by decide), g 4 (by decide) (by decide)⟩, ⟨d', hps⟩, hts⟩
    obtain ⟨D, hD⟩ := fuel_lt (q := fun i d => ∃ (p : Tr) (x y : Value), TrCell W (a.add (i * 5)) p x y ∧ PsSome W y p.cs ∧ TsAt d W x p.ks) (fun i x z hxz ⟨p, u, v, hp, hs, hu⟩ => ⟨p, u, v, hp, hs, hu.mono hxz⟩) each
    obtain ⟨ps, hpl, hps⟩ := list_of (α := Tr) (Q := fun (i : Nat) (p : Tr) => ∃ x y, TrCell W (a.add (i * 5)) p x y ∧ PsSome W y p.cs ∧ TsAt D W x p.ks) len hD
    refine ⟨D + 1, ps, some a, cap, by rw [hpl], ⟨by unfold maxLen at hcap; omega, by omega⟩, fun j p hj => ?_⟩
    obtain ⟨x, y, hp, hs, hu⟩ := hps j p hj
    obtain ⟨b, o, s⟩ := a
    refine ⟨b, o, s, x, y, rfl, ?_, hp, hs, hu⟩
    have := block_lt_of_cell hp.c0
    rwa [add_block] at this
end
end Go.Proofs.YtbddhkgbpjhhaaaGreatDoor
