/-
  NODES IN MEMORY: a tree with its tables and its kids' nodes, seven cells each; rows of nodes; what a change tells of a node.
-/
import Derived.Test.YtbddhkgbpjhhaaaGreatDoorGPl2
import Derived.Test.YtbddhkgbpjhhaaaGreatDoorGTreeB
import Derived.Test.YtbddhkgbpjhhaaaGreatDoorGMtB
namespace Go.Proofs.YtbddhkgbpjhhaaaGreatDoor
open Go.RowKit
structure Nd where
  a : Tr
  uA : Option Addr
  uN : Nat
  uC : Nat
  pA : Option Addr
  pN : Nat
  pC : Nat
  n : Nat
  xA : Option Addr
  xN : Nat
  xC : Nat
namespace Nd
def u (z : Nd) : Value := .slice z.uA z.uN z.uC
def p (z : Nd) : Value := .slice z.pA z.pN z.pC
def x (z : Nd) : Value := .slice z.xA z.xN z.xC
def cells (z : Nd) : List Value := [.int .i64 z.a.k, .int .i64 z.a.t, .slice z.uA z.uN z.uC, .slice z.pA z.pN z.pC, .bool z.a.h, .int .u64 (z.n : Int), .slice z.xA z.xN z.xC]
def zero : Nd := ⟨Id.zero, none, 0, 0, none, 0, 0, 0, none, 0, 0⟩
theorem cells_length (z : Nd) : z.cells.length = 7 := rfl
theorem cells_one (z : Nd) : ∀ u ∈ z.cells, u.oneCell' = true := by
  intro u hu
  simp [cells] at hu
  rcases hu with rfl | rfl | rfl | rfl | rfl | rfl | rfl <;> rfl
end Nd
structure NdCell (w : World) (X : Addr) (z : Nd) : Prop where
  c0 : w.cell? X = some (.int .i64 z.a.k)
  c1 : w.cell? ⟨X.block, X.off + 1, none⟩ = some (.int .i64 z.a.t)
  c2 : w.cell? ⟨X.block, X.off + 2, none⟩ = some (.slice z.uA z.uN z.uC)
  c3 : w.cell? ⟨X.block, X.off + 3, none⟩ = some (.slice z.pA z.pN z.pC)
  c4 : w.cell? ⟨X.block, X.off + 4, none⟩ = some (.bool z.a.h)
  c5 : w.cell? ⟨X.block, X.off + 5, none⟩ = some (.int .u64 (z.n : Int))
  c6 : w.cell? ⟨X.block, X.off + 6, none⟩ = some (.slice z.xA z.xN z.xC)
theorem NdCell.at_block {w w' : World} {X : Addr} {z : Nd} (h : NdCell w X z) (hb : w'.heap[X.block]? = w.heap[X.block]?) : NdCell w' X z :=
  have k : ∀ n, w'.cell? ⟨X.block, n, none⟩ = w.cell? ⟨X.block, n, none⟩ := fun n => World.cell?_of_block (a := ⟨X.block, n, none⟩) hb
  ⟨(World.cell?_of_block hb).trans h.c0, (k _).trans h.c1, (k _).trans h.c2, (k _).trans h.c3, (k _).trans h.c4, (k _).trans h.c5, (k _).trans h.c6⟩
theorem Lies.nd {w : World} {g : Nat} {T : TypeId} {z : Nd} (h : Lies w g T z.cells) : NdCell w ⟨g, 0, none⟩ z :=
  ⟨h.cell (i := 0) rfl, h.cell (i := 1) rfl, h.cell (i := 2) rfl, h.cell (i := 3) rfl, h.cell (i := 4) rfl, h.cell (i := 5) rfl, h.cell (i := 6) rfl⟩
def NksOn (T : Nat → Prop) : Nat → World → Value → List Tr → Prop
  | 0, _, v, l => l = [] ∧ ∃ A c, v = .slice A 0 c
  | d + 1, w, v, l => ∃ A c, v = .slice A l.length c ∧ (l.length ≤ 9223372036854775807 ∧ l.length ≤ c) ∧ ∀ (j : Nat) (a : Tr), l[j]? = some a → ∃ b o s z, A = some ⟨b, o, s⟩ ∧ T b ∧ b < w.heap.size ∧ NdCell w ((⟨b, o, s⟩ : Addr).add (j * 7)) z ∧ z.a = a ∧ z.n = Tr.tables a ∧ TrOn T w (a, z.u, z.p) ∧ NksOn T d w z.x a.ks
theorem NksOn.form {T : Nat → Prop} {d : Nat} {w : World} {v : Value} {l : List Tr} (h : NksOn T d w v l) : ∃ A c, v = .slice A l.length c ∧ l.length ≤ 9223372036854775807 := by
  cases d with
  | zero => obtain ⟨rfl, A, c, rfl⟩ := h; exact ⟨A, c, rfl, by simp⟩
  | succ d => obtain ⟨A, c, rfl, hl, _⟩ := h; exact ⟨A, c, rfl, hl.1⟩
theorem NksOn.keep {T T' : Nat → Prop} {d : Nat} {w w' : World} (hs : w.heap.size ≤ w'.heap.size) (hb : ∀ k, T k → k < w.heap.size → w'.heap[k]? = w.heap[k]? ∧ T' k) : ∀ {v : Value} {l : List Tr}, NksOn T d w v l → NksOn T' d w' v l := by
  induction d with
  | zero => intro v l h; exact h
  | succ d ih =>
    intro v l h
    obtain ⟨A, c, hv, hc, hx⟩ := h
    refine ⟨A, c, hv, hc, fun j a hj => ?_⟩
    obtain ⟨b, o, s, z, hA, ht, hlt, hcell, h1, h2, h3, hk⟩ := hx j a hj
    obtain ⟨e1, e2⟩ := hb b ht hlt
    exact ⟨b, o, s, z, hA, e2, Nat.lt_of_lt_of_le hlt hs, hcell.at_block (by rw [add_block]; exact e1), h1, h2, h3.keep hs hb, ih hk⟩
theorem NksOn.more {T : Nat → Prop} {d : Nat} : ∀ {w : World} {v : Value} {l : List Tr}, NksOn T d w v l → NksOn T (d + 1) w v l := by
  induction d with
  | zero =>
    intro w v l h
    obtain ⟨rfl, A, c, rfl⟩ := h
    exact ⟨A, c, rfl, by simp, fun j a hj => by simp at hj⟩
  | succ d ih =>
    intro w v l h
    obtain ⟨A, c, hv, hc, hx⟩ := h
    refine ⟨A, c, hv, hc, fun j a hj => ?_⟩
    obtain ⟨b, o, s, z, hA, ht, hlt, hcell, h1, h2, h3, hk⟩ := hx j a hj
    exact ⟨b, o, s, z, hA, ht, hlt, hcell, h1, h2, h3, ih hk⟩
theorem NksOn.mono {T : Nat → Prop} {d e : Nat} {w : World} {v : Value} {l : List Tr} (h : NksOn T d w v l) (hd : d ≤ e) : NksOn T e w v l := by
  induction hd with
  | refl => exact h
  | step _ ih => exact ih.more
structure TNd (T : Nat → Prop) (w : World) (z : Nd) : Prop where
  n : z.n = Tr.tables z.a
  tr : TrOn T w (z.a, z.u, z.p)
  ks : ∃ d, NksOn T d w z.x z.a.ks
theorem TNd.keep {T T' : Nat → Prop} {w w' : World} {z : Nd} (h : TNd T w z) (hs : w.heap.size ≤ w'.heap.size) (hb : ∀ k, T k → k < w.heap.size → w'.heap[k]? = w.heap[k]? ∧ T' k) : TNd T' w' z :=
  ⟨h.n, h.tr.keep hs hb, h.ks.elim fun d h => ⟨d, h.keep hs hb⟩⟩
theorem TNd.below {T : Nat → Prop} {w w' : World} {z : Nd} (h : TNd T w z) (hb : Below w.heap.size w w') : TNd T w' z := h.keep hb.size fun k hk hlt => ⟨hb.block k hlt, hk⟩
theorem TNd.mono {T T' : Nat → Prop} {w : World} {z : Nd} (h : TNd T w z) (ht : ∀ k, T k → k < w.heap.size → T' k) : TNd T' w z := h.keep (Nat.le_refl _) fun k hk hlt => ⟨rfl, ht k hk hlt⟩
theorem TNd.uN {T : Nat → Prop} {w : World} {z : Nd} (h : TNd T w z) : z.uN = z.a.ks.length := by
  obtain ⟨A, c, e, _⟩ := h.tr.1.elim fun d h => h.at_.form
  change Value.slice z.uA z.uN z.uC = .slice A z.a.ks.length c at e
  injection e
theorem TNd.xN {T : Nat → Prop} {w : World} {z : Nd} (h : TNd T w z) : z.xN = z.a.ks.length := by
  obtain ⟨A, c, e, _⟩ := h.ks.elim fun d h => h.form
  change Value.slice z.xA z.xN z.xC = .slice A z.a.ks.length c at e
  injection e
theorem TNd.lt {T : Nat → Prop} {w : World} {z : Nd} (h : TNd T w z) : z.n < 18446744073709551616 := by
  rw [h.n]; exact St.ofN_lt _
theorem TNd.kid {T : Nat → Prop} {w : World} {z : Nd} (h : TNd T w z) {j : Nat} {b : Tr} (hj : z.a.ks[j]? = some b) :
    ∃ g o s y, z.xA = some ⟨g, o, s⟩ ∧ T g ∧ g < w.heap.size ∧ y.a = b ∧ NdCell w ((⟨g, o, s⟩ : Addr).add (j * 7)) y ∧ TNd T w y := by
  obtain ⟨d, hk⟩ := h.ks
  cases d with
  | zero => obtain ⟨e, _⟩ := hk; rw [e] at hj; simp at hj
  | succ d =>
    obtain ⟨A, c, hv, _, hx⟩ := hk
    obtain ⟨g, o, s, y, hA, ht, hlt, hcell, h1, h2, h3, h4⟩ := hx j b hj
    change Value.slice z.xA z.xN z.xC = .slice A z.a.ks.length c at hv
    have hxA : z.xA = A := by injection hv
    subst h1
    exact ⟨g, o, s, y, hxA.trans hA, ht, hlt, rfl, hcell, h2, h3, ⟨d, h4⟩⟩
theorem TNd.zero_u (T : Nat → Prop) (w : World) : TrOn T w (Id.zero, .slice none 0 0, .slice none 0 0) := ⟨⟨0, rfl, none, 0, rfl⟩, 0, rfl, none, 0, rfl⟩
theorem setMany_all {xs cs : List Value} (hl : xs.length = cs.length) : setMany cs 0 xs = xs := by
  refine List.ext_getElem? fun i => ?_
  by_cases h : i < xs.length
  · have := setMany_in xs cs 0 i h (by omega)
    rwa [Nat.zero_add] at this
  · rw [List.getElem?_eq_none (by rw [setMany_length]; omega), List.getElem?_eq_none (by omega)]
theorem Lies.put_all {W : World} {g : Nat} {T : TypeId} {cs xs : List Value} (h : Lies W g T cs) (hl : xs.length = cs.length) : Lies (setCells W g 0 xs) g T xs := by
  have := h.sets xs 0
  rwa [setMany_all hl] at this
def ndCells (l : List Nd) : List Value := l.flatMap Nd.cells
theorem ndCells_app (l m : List Nd) : ndCells (l ++ m) = ndCells l ++ ndCells m := by simp [ndCells]
theorem ndCells_get : ∀ {L : List Nd} {j i : Nat} {z : Nd}, L[j]? = some z → i < 7 → (ndCells L)[j * 7 + i]? = z.cells[i]?
  | [], j, i, z, h, _ => by simp at h
  | x :: r, 0, i, z, h, hi => by
    simp at h; subst h
    show (x.cells ++ ndCells r)[0 * 7 + i]? = _
    rw [Nat.zero_mul, Nat.zero_add, List.getElem?_append_left (by rw [Nd.cells_length]; exact hi)]
  | x :: r, j + 1, i, z, h, hi => by
    show (x.cells ++ ndCells r)[(j + 1) * 7 + i]? = _
    rw [List.getElem?_append_right (by rw [Nd.cells_length]; omega), Nd.cells_length, show (j + 1) * 7 + i - 7 = j * 7 + i by omega]
    exact ndCells_get (L := r) (by simpa using h) hi
theorem add_on17 (g o i : Nat) : (⟨g, o, none⟩ : Addr).add i = ⟨g, o + i, none⟩ := by
  unfold Addr.add
  split
  · next h => subst h; rfl
  · rfl
theorem nd_cells {w : World} {X : Addr} {z : Nd} (h : ∀ i u, z.cells[i]? = some u → w.cell? (X.add i) = some u) : NdCell w X z := by
  have k : ∀ i u, 0 < i → z.cells[i]? = some u → w.cell? ⟨X.block, X.off + i, none⟩ = some u := fun i u hi hu => by
    have := h i u hu
    unfold Addr.add at this
    rwa [if_neg (by omega)] at this
  exact ⟨by have := h 0 _ rfl; rwa [add_zero9] at this, k 1 _ (by decide) rfl, k 2 _ (by decide) rfl, k 3 _ (by decide) rfl, k 4 _ (by decide) rfl, k 5 _ (by decide) rfl, k 6 _ (by decide) rfl⟩
theorem Tryz.infoNode : (Tryz.prog.info? 68).map (fun i => (i.zero, i.size, i.bytes)) = some (some (.agg #[.int .i64 0, .int .i64 0, .slice none 0 0, .slice none 0 0, .bool false, .int .u64 0, .slice none 0 0]), 7, 104) := by kernel_rfl
structure NdRow (R : Nat → Prop) (base : Nat) (w : World) (v : Value) (zs : List Nd) : Prop where
  own : w.ownsRow base 68 7 v zs.length (ndCells zs)
  nd : ∀ z ∈ zs, TNd (fun k => v.ownBlock ≠ some k ∧ R k) w z
theorem NdRow.below {R : Nat → Prop} {base : Nat} {w w' : World} {v : Value} {zs : List Nd} (h : NdRow R base w v zs) (hb : Below w.heap.size w w') : NdRow R base w' v zs :=
  ⟨own_keeps h.own (keeps_below hb) (fun k hk => (h.own.lt k hk).2), fun z hz => (h.nd z hz).below hb⟩
theorem NdRow.push {R : Nat → Prop} {base : Nat} {w w' : World} {v v' : Value} {zs : List Nd} {z : Nd} (h : NdRow R base w v zs) (hz : TNd (fun k => v.ownBlock ≠ some k ∧ R k) w z)
    (hown : w'.ownsRow base 68 7 v' (zs.length + 1) (ndCells zs ++ z.cells)) (hg : w.grownBy w' v.ownBlock) (hw : v'.ownBlock = v.ownBlock ∨ ∃ g, v'.ownBlock = some g ∧ w.heap.size ≤ g) : NdRow R base w' v' (zs ++ [z]) := by
  have hkp : ∀ {y : Nd}, TNd (fun k => v.ownBlock ≠ some k ∧ R k) w y → TNd (fun k => v'.ownBlock ≠ some k ∧ R k) w' y := fun {y} hy =>
    hy.keep hg.size fun k hk hlt => ⟨hg.block k hlt (fun e => hk.1 e.symm), by
      refine ⟨?_, hk.2⟩
      rcases hw with e | ⟨g, e, hge⟩
      · rw [e]; exact hk.1
      · rw [e]; intro e2; cases e2; omega⟩
  refine ⟨by rw [List.length_append, List.length_singleton, ndCells_app]; simpa [ndCells] using hown, fun y hy => ?_⟩
  rcases List.mem_append.1 hy with hy | hy
  · exact hkp (h.nd y hy)
  · rw [List.mem_singleton] at hy; subst hy; exact hkp hz
theorem NdRow.form {R : Nat → Prop} {base : Nat} {w : World} {v : Value} {zs : List Nd} (h : NdRow R base w v zs) : ∃ A c, v = .slice A zs.length c := by
  rcases h.own.2 with ⟨rfl, h0⟩ | ⟨g, cap, cur, rfl, _⟩
  · rw [h0]; exact ⟨none, 0, rfl⟩
  · exact ⟨_, cap, rfl⟩
theorem NdRow.nks {R : Nat → Prop} {base : Nat} {w : World} {v : Value} {zs : List Nd} (h : NdRow R base w v zs) (hl : zs.length ≤ 1000) : ∃ d, NksOn (fun k => v.ownBlock = some k ∨ R k) d w v (zs.map Nd.a) := by
  have hd : ∃ d, ∀ z ∈ zs, NksOn (fun k => v.ownBlock = some k ∨ R k) d w z.x z.a.ks := by
    have hnd := h.nd
    clear h hl
    induction zs with
    | nil => exact ⟨0, fun z hz => by simp at hz⟩
    | cons z r ih =>
      obtain ⟨d1, h1⟩ := ih fun y hy => hnd y (List.mem_cons_of_mem _ hy)
      obtain ⟨d2, h2⟩ := (hnd z List.mem_cons_self).ks
      have h2' : NksOn (fun k => v.ownBlock = some k ∨ R k) d2 w z.x z.a.ks := h2.keep (Nat.le_refl _) fun k hk _ => ⟨rfl, .inr hk.2⟩
      refine ⟨max d1 d2, fun y hy => ?_⟩
      rcases List.mem_cons.1 hy with rfl | hy
      · exact h2'.mono (Nat.le_max_right _ _)
      · exact (h1 y hy).mono (Nat.le_max_left _ _)
  obtain ⟨d, hd⟩ := hd
  refine ⟨d + 1, ?_⟩
  rcases id h.own.2 with ⟨rfl, h0⟩ | ⟨g, cap, cur, rfl, _, _, hnc, _⟩
  · have : zs = [] := List.eq_nil_of_length_eq_zero h0
    subst this
    exact ⟨none, 0, rfl, by simp, fun j a hj => by simp at hj⟩
  · refine ⟨_, cap, by rw [List.length_map], by rw [List.length_map]; exact ⟨by omega, hnc⟩, fun j a hj => ?_⟩
    rw [List.getElem?_map] at hj
    obtain ⟨z, hz, rfl⟩ := Option.map_eq_some_iff.1 hj
    have hz' := h.nd z (List.mem_of_getElem? hz)
    refine ⟨g, 0, none, z, rfl, .inl rfl, (h.own.lt g rfl).2, nd_cells fun i u hi => ?_, rfl, hz'.n, hz'.tr.keep (Nat.le_refl _) fun k hk _ => ⟨rfl, .inr hk.2⟩, hd z (List.mem_of_getElem? hz)⟩
    have hi7 : i < 7 := by have := (List.getElem?_eq_some_iff.1 hi).1; rwa [Nd.cells_length] at this
    have := h.own.cells (g := g) rfl (j * 7 + i) u (by rw [ndCells_get hz hi7]; exact hi)
    rw [add_here] at this
    rw [add_here, add_on17]
    exact this
end Go.Proofs.YtbddhkgbpjhhaaaGreatDoor
