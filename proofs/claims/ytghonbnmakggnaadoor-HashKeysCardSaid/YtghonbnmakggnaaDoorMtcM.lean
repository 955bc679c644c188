/-
  THE DOCUMENT's ANSWERS OF LAYER 13: Merge, Matches, Extend.
-/
import Derived.Test.YtghonbnmakggnaaDoorMtbM
import Derived.Test.YtghonbnmakggnaaDoorGPred
import Derived.OwnWalk
import Derived.Laws.OwnMore
namespace Go.Proofs.YtghonbnmakggnaaDoor
open Go.RowKit Go.Sort
set_option maxHeartbeats 1600000

/-- what the document's Merge tells: a tuple in a block of its own, its rows where they lay -/
def Merged (T : Nat → Prop) (w : World) (t : List (List Vl)) (E : Ending) (w' : World) : Prop :=
  ∃ A c, E = .returned (.slice A t.length c) ∧ RwsOn (fun k => w.heap.size ≤ k ∨ T k) w' (.slice A t.length c) t ∧ Below w.heap.size w w'
/-- what tells a list of tuples -/
def Tuples (w : World) (ts : List (List (List Vl))) (E : Ending) (w' : World) : Prop :=
  ∃ A c, E = .returned (.slice A ts.length c) ∧ TusOn Al w' (.slice A ts.length c) ts ∧ Below w.heap.size w w'
/-- .. in the blocks S -/
def TuplesOn (S : Nat → Prop) (w : World) (ts : List (List (List Vl))) (E : Ending) (w' : World) : Prop :=
  ∃ A c, E = .returned (.slice A ts.length c) ∧ TusOn S w' (.slice A ts.length c) ts ∧ Below w.heap.size w w'
theorem TuplesOn.tuples {S : Nat → Prop} {w w' : World} {ts : List (List (List Vl))} {E : Ending} (h : TuplesOn S w ts E w') : Tuples w ts E w' := by
  obtain ⟨A, c, h1, h2, h3⟩ := h
  exact ⟨A, c, h1, h2.al, h3⟩
theorem ownsForm {w : World} {base n : Nat} {e : TypeId} {s : Nat} {v : Value} {us : List Value} (h : w.ownsRow base e s v n us) : ∃ A c, v = .slice A n c := by
  rcases h.2 with ⟨rfl, rfl⟩ | ⟨g, cap, cur, rfl, _⟩
  · exact ⟨none, 0, rfl⟩
  · exact ⟨_, cap, rfl⟩
theorem cell_one13 (w : World) (t : TypeId) (u : Value) : ∀ j x, [u][j]? = some x → (w.alloc (Obj.cells #[u] t)).cell? ((⟨w.heap.size, 0, none⟩ : Addr).add j) = some x := cell_one_new _ _ _
/-- one tuple alone, in a list just built -/
theorem tus_one {T : Nat → Prop} {w : World} {A : Option Addr} {c n : Nat} {t : List (List Vl)} (h : RwsOn T w (.slice A n c) t) (e : TypeId) : TusOn Al (w.alloc (Obj.cells #[.slice A n c] e)) (.slice (some ⟨w.heap.size, 0, none⟩) 1 1) [t] := by
  have hb := below_new w (Obj.cells #[.slice A n c] e)
  refine ⟨[.slice A n c], ⟨_, 1, rfl, Nat.le_refl _, fun j u hu => ⟨w.heap.size, 0, none, rfl, trivial, by simp, cell_one_new _ _ _ j u hu⟩⟩, rfl, fun i x hi => ?_⟩
  cases i with
  | zero => cases hi; exact ⟨_, rfl, (h.below hb (Nat.le_refl _)).al⟩
  | succ i => simp at hi
/-- .. in the blocks S -/
theorem tus_oneOn {T S : Nat → Prop} {w : World} {A : Option Addr} {c n : Nat} {t : List (List Vl)} (h : RwsOn T w (.slice A n c) t) (e : TypeId) (hT : ∀ k, T k → S k) (hs : S w.heap.size) : TusOn S (w.alloc (Obj.cells #[.slice A n c] e)) (.slice (some ⟨w.heap.size, 0, none⟩) 1 1) [t] := by
  have hb := below_new w (Obj.cells #[.slice A n c] e)
  refine ⟨[.slice A n c], ⟨_, 1, rfl, Nat.le_refl _, fun j u hu => ⟨w.heap.size, 0, none, rfl, hs, by simp, cell_one_new _ _ _ j u hu⟩⟩, rfl, fun i x hi => ?_⟩
  cases i with
  | zero => cases hi; exact ⟨_, rfl, (h.below hb (Nat.le_refl _)).mono fun k _ hk => hT k hk⟩
  | succ i => simp at hi
end Go.Proofs.YtghonbnmakggnaaDoor
