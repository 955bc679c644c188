/-
  THE SHELF: a map of lists of tuples by their keys; no two lists lie in one row.
-/
import Derived.Test.YtghonbnmakggnaaDoorHskM
import Derived.Test.YtghonbnmakggnaaDoorNsjM
import Derived.Maps.OwnIn
import Derived.Maps.Views
import Derived.Maps.OwnSet
namespace Go.Proofs.YtghonbnmakggnaaDoor
open Go.RowKit Go.Sort Go.Maps
set_option maxHeartbeats 6400000

/-- an element, whatever it is -/
def heldElem (v : Value) : Option (DataW Value × List MemPlace) := some (.held v, [])
def upd {α : Type} (g : List UInt8 → α) (k : List UInt8) (v : α) : List UInt8 → α := fun s => if s = k then v else g s
theorem upd_same {α : Type} (g : List UInt8 → α) (k : List UInt8) (v : α) : upd g k v k = v := if_pos rfl
theorem upd_other {α : Type} (g : List UInt8 → α) {k s : List UInt8} (v : α) (h : s ≠ k) : upd g k v s = g s := if_neg h
structure Shelf (R : Nat → Prop) (base : Nat) (w : World) (b n : Nat) (g : List UInt8 → Value) (U : List UInt8 → List Value) (f : List UInt8 → List (List (List Vl))) : Prop where
  map : ∃ D, w.ownsMap Tryd.prog 9 heldElem b n D ∧ ∀ k, D.atKey (.string k) (.held (.slice none 0 0)) = .held (g k)
  row : ∀ k, TuRow R base w (g k) (f k).length (U k) (f k)
  apart : ∀ k k', k ≠ k' → ∀ j, (g k).ownBlock = some j → (g k').ownBlock ≠ some j
  lt : b < base
  rlt : ∀ j, R j → j < base
  rb : ¬ R b
theorem law15 : Keyed Tryd.prog 9 := string_keyed Tryd.underlying9
theorem zero15 (w : World) : (zeroValue 27).run Tryd.prog w = .ok (.slice none 0 0) w := by kernel_rfl
theorem key15 {k : List UInt8} (h : k.length ≤ maxLen) : keyOf Tryd.prog 9 (.string ⟨k.toArray⟩) = some (.string k) := by
  have hs : (⟨k.toArray⟩ : ByteArray).size ≤ maxLen := h
  simp [keyOf, Tryd.underlying9, mapKey, hs]
variable {R S : Nat → Prop} {base b n : Nat} {w w' : World} {g : List UInt8 → Value} {U : List UInt8 → List Value} {f : List UInt8 → List (List (List Vl))}
theorem owns_block15 {H : Type} {w w' : World} {P : Program} {k : TypeId} {R : Value → Option (DataW H × List MemPlace)} {b n : Nat} {D : DataW H} (h : w.ownsMap P k R b n D) (hb : w'.heap[b]? = w.heap[b]?) : w'.ownsMap P k R b n D := by
  obtain ⟨es, clock, h1, h2⟩ := h
  exact ⟨es, clock, hb.trans h1, h2⟩
theorem Shelf.blt (h : Shelf R base w b n g U f) : b < w.heap.size := by obtain ⟨D, h1, _⟩ := h.map; exact h1.lt
theorem Shelf.keep (h : Shelf R base w b n g U f) (hk : Keeps S w w') (hb : S b) (hr : ∀ j, j < w.heap.size → base ≤ j → S j) (hR : ∀ j, j < w.heap.size → R j → S j) : Shelf R base w' b n g U f := by
  obtain ⟨D, h1, h2⟩ := h.map
  exact ⟨⟨D, owns_block15 h1 (hk.same _ h1.lt hb), h2⟩, fun k => (h.row k).keep hk (fun j hj => hr j ((h.row k).own.lt j hj).2 ((h.row k).own.lt j hj).1) (fun j hj _ hR' => hR j hj hR'), h.apart, h.lt, h.rlt, h.rb⟩
theorem Shelf.below (h : Shelf R base w b n g U f) (hb : Below w.heap.size w w') : Shelf R base w' b n g U f :=
  h.keep (S := fun _ => True) (keeps_all hb) trivial (fun _ _ _ => trivial) (fun _ _ _ => trivial)
theorem Shelf.mono (h : Shelf R base w b n g U f) {n' : Nat} (hn : n ≤ n') : Shelf R base w b n' g U f := by
  obtain ⟨D, h1, h2⟩ := h.map
  exact ⟨⟨D, h1.mono hn, h2⟩, h.row, h.apart, h.lt, h.rlt, h.rb⟩
theorem Shelf.made (w : World) (hR : ∀ j, R j → j < w.heap.size) : Shelf R (w.heap.size + 1) (w.alloc (.map #[] 0)) w.heap.size 0 (fun _ => .slice none 0 0) (fun _ => []) (fun _ => []) :=
  ⟨⟨_, World.ownsMap_made w _ _ _, fun k => by simp [DataW.atKey]⟩, fun k => ⟨World.ownsRow_nil _ _ _ _, rfl, fun i t h => by simp at h⟩, (fun _ _ _ j hj => by cases hj), Nat.lt_succ_self _, fun j hj => Nat.lt_succ_of_lt (hR j hj), fun h => Nat.lt_irrefl _ (hR _ h)⟩
theorem Shelf.look (h : Shelf R base w b n g U f) {k : List UInt8} (hk : k.length ≤ maxLen) :
    (Instr.lookup 67 (.map (some b)) (.string ⟨k.toArray⟩) false).run Tryd.prog w = .ok (g k) w := by
  obtain ⟨D, h1, h2⟩ := h.map
  obtain ⟨v, ps, hrun, hv⟩ := h1.lookup (t := 67) (e := 27) law15 Tryd.underlying67 (zero15 w) (show heldElem (.slice none 0 0) = some (.held (.slice none 0 0), []) from rfl) (key15 hk)
  rw [h2 k] at hv
  have hv : v = g k := by
    have h3 : (DataW.held v : DataW Value) = DataW.held (g k) := congrArg Prod.fst (Option.some.inj hv)
    exact DataW.held.inj h3
  rw [hrun, hv]
theorem Shelf.store (h : Shelf R base w b n g U f) {k0 : List UInt8} (hk0 : k0.length ≤ maxLen) {w2 : World} {v' : Value} {us' : List Value} {ts' : List (List (List Vl))} (hg : w.grownBy w2 (g k0).ownBlock) (hrow : TuRow R base w2 v' ts'.length us' ts')
    (hloc : v'.ownBlock = (g k0).ownBlock ∨ ∃ j, v'.ownBlock = some j ∧ w.heap.size ≤ j) (hn : n < maxLen) :
    ∃ w3, (Instr.mapUpdate 67 (.map (some b)) (.string ⟨k0.toArray⟩) v').run Tryd.prog w2 = .ok () w3 ∧ Shelf R base w3 b (n + 1) (upd g k0 v') (upd U k0 us') (upd f k0 ts') ∧ w2.grownBy w3 (some b) := by
  obtain ⟨D, h1, h2⟩ := h.map
  have hgb : some b ≠ (g k0).ownBlock := fun e => by have := ((h.row k0).own.lt b e.symm).1; have := h.lt; omega
  have h3 := h1.kept hg hgb
  obtain ⟨w3, hrun, h4, h5⟩ := h3.update (t := 67) (e := 27) law15 Tryd.underlying67 hn (key15 hk0) (show heldElem v' = some (.held v', []) from rfl)
  refine ⟨w3, hrun, ⟨⟨_, h4, fun k => ?_⟩, fun k => ?_, fun k k' hne j hj => ?_, h.lt, h.rlt, h.rb⟩, h5⟩
  · by_cases e : k = k0
    · subst e
      rw [upd_same, atKey_put_same h3.isMap (show WideAt.IsKeyLit (.string k) from trivial)]
    · rw [upd_other _ _ e, atKey_put_other (fun e2 => e (by cases e2; rfl))]
      exact h2 k
  · by_cases e : k = k0
    · subst e
      rw [upd_same, upd_same, upd_same]
      exact hrow.keep (keeps_grown h5) (fun j hj e => by have := (hrow.own.lt j hj).1; have := h.lt; cases e; omega) (fun j _ _ hR e => by cases e; exact h.rb hR)
    · rw [upd_other _ _ e, upd_other _ _ e, upd_other _ _ e]
      have h6 := (h.row k).keep (keeps_grown hg) (fun j hj e3 => h.apart k0 k (fun e2 => e e2.symm) j e3 hj) (fun j _ _ hR e2 => by have := ((h.row k0).own.lt j e2).1; have := h.rlt j hR; omega)
      exact h6.keep (keeps_grown h5) (fun j hj e => by have := (h6.own.lt j hj).1; have := h.lt; cases e; omega) (fun j _ _ hR e => by cases e; exact h.rb hR)
  · by_cases e : k = k0
    · subst e
      rw [upd_same] at hj
      rw [upd_other _ _ (fun e => hne e.symm)]
      intro e2
      rcases hloc with hl | ⟨j2, hl, hge⟩
      · exact h.apart k k' hne j (hl ▸ hj) e2
      · rw [hl] at hj
        cases hj
        have := ((h.row k').own.lt _ e2).2
        omega
    · rw [upd_other _ _ e] at hj
      by_cases e2 : k' = k0
      · subst e2
        rw [upd_same]
        intro e3
        rcases hloc with hl | ⟨j2, hl, hge⟩
        · exact h.apart k k' hne j hj (hl ▸ e3)
        · rw [hl] at e3
          cases e3
          have := ((h.row k).own.lt _ hj).2
          omega
      · rw [upd_other _ _ e2]
        exact h.apart k k' hne j hj
end Go.Proofs.YtghonbnmakggnaaDoor
