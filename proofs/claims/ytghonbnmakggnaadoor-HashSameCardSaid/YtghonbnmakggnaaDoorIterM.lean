/-
  A RANGE OVER A FUNCTION, WITH WHAT EACH SIDE MAY WRITE SAID BY A SET OF BLOCKS: the caller's rounds write its own set O (and new blocks) alone; the iterator writes what neither lay when it was called nor is the caller's. So an iterator may itself range over another one, and call yield within its rounds.
-/
import Derived.RangeFuncNested
import Derived.RangeFuncBound
import Derived.RangeFuncCalls
import Derived.RangeFuncLeaves
import Derived.Shelf.Abstract
import Derived.Shelf.RegionOpen
import Derived.WalkKit
import Derived.OwnWalkIn
import Derived.TacticsInMore
import Derived.LoopNIn
import Derived.LoopIn
namespace Go.Proofs.YtghonbnmakggnaaDoor
open Go Go.RowKit

/-- W' has all that W has in the blocks S, and the streams -/
structure Keeps (S : Nat → Prop) (W W' : World) : Prop where
  os : W'.os = W.os
  tape : W'.tape = W.tape
  output : W'.output = W.output
  size : W.heap.size ≤ W'.heap.size
  same : ∀ k, k < W.heap.size → S k → W'.heap[k]? = W.heap[k]?
theorem Keeps.refl (S : Nat → Prop) (W : World) : Keeps S W W := ⟨rfl, rfl, rfl, Nat.le_refl _, fun _ _ _ => rfl⟩
theorem Keeps.trans {S : Nat → Prop} {A B C : World} (h : Keeps S A B) (k : Keeps S B C) : Keeps S A C :=
  ⟨k.os.trans h.os, k.tape.trans h.tape, k.output.trans h.output, Nat.le_trans h.size k.size, fun j hj hs => (k.same j (Nat.lt_of_lt_of_le hj h.size) hs).trans (h.same j hj hs)⟩
theorem Keeps.mono {S T : Nat → Prop} {A B : World} (h : Keeps S A B) (ht : ∀ k, T k → S k) : Keeps T A B := ⟨h.os, h.tape, h.output, h.size, fun j hj hs => h.same j hj (ht j hs)⟩
theorem Keeps.alloc (S : Nat → Prop) (W : World) (o : Obj) : Keeps S W (W.alloc o) := ⟨rfl, rfl, rfl, by simp, fun k hk _ => Below.heap_alloc W o k hk⟩
theorem Keeps.putObj {S : Nat → Prop} (W : World) (l : Nat) (o : Obj) (h : ¬ S l) : Keeps S W (W.putObj l o) :=
  ⟨rfl, rfl, rfl, by simp, fun k _ hs => World.putObj_heap_other (fun e => h (e ▸ hs))⟩
theorem Keeps.below {S : Nat → Prop} {W W' : World} {B : Nat} (h : Keeps S W W') (hB : B ≤ W.heap.size) (hS : ∀ k, k < B → S k) : Below B W W' :=
  ⟨h.os, h.tape, h.output, h.size, fun k hk => h.same k (Nat.lt_of_lt_of_le hk hB) (hS k hk)⟩

/-- a round: from W to W' the blocks O alone may have turned; of the blocks that lay none has become the caller's -/
structure Chg (O : Nat → Prop) (W : World) (O' : Nat → Prop) (W' : World) : Prop where
  keeps : Keeps (fun k => ¬ O k) W W'
  own : ∀ k, k < W.heap.size → O' k → O k
theorem Chg.refl (O : Nat → Prop) (W : World) : Chg O W O W := ⟨Keeps.refl _ _, fun _ _ h => h⟩
theorem Chg.trans {O O' O'' : Nat → Prop} {A B C : World} (h : Chg O A O' B) (k : Chg O' B O'' C) : Chg O A O'' C :=
  ⟨⟨k.keeps.os.trans h.keeps.os, k.keeps.tape.trans h.keeps.tape, k.keeps.output.trans h.keeps.output, Nat.le_trans h.keeps.size k.keeps.size,
    fun j hj hn => (k.keeps.same j (Nat.lt_of_lt_of_le hj h.keeps.size) (fun h' => hn (h.own j hj h'))).trans (h.keeps.same j hj hn)⟩,
   fun j hj h' => h.own j hj (k.own j (Nat.lt_of_lt_of_le hj h.keeps.size) h')⟩

/-- an invariant of the caller's that abides whatever turns neither the caller's blocks nor what lay below B -/
def Stable {β : Type} (B : Nat) (J : β → (Nat → Prop) → World → Prop) : Prop :=
  ∀ s O W W', J s O W → Keeps (fun k => O k ∨ k < B) W W' → J s O W'

/-- THE ITERATOR's CONTRACT: xs come, in this order, unless a round says 'no more'; C: the blocks that it has captured and reads; Pre: what it asks of the world in which it is called. -/
def IterC {α : Type} (F : Fence) (n : Nat) (P : Program) (g : Nat) (lb : Array Value) (encs : α → Array Value) (C : Nat → Prop) (Pre : World → Prop) (xs : List α) : Prop :=
  ∀ (l : Nat) (J Jx : List α → (Nat → Prop) → World → Prop) (W : World) (O : Nat → Prop), Pre W → Stable W.heap.size J → Stable W.heap.size Jx →
    (∀ pre O' W', J pre O' W' → ∀ k, O' k → k < W'.heap.size ∧ ¬ C k) →
    (∀ pre x O1 W1, J pre O1 W1 → pre ++ [x] <+: xs → YieldAt F (n - 1) P l (encs x) W1 fun e W' =>
      (e = .returned (.bool true) ∧ ∃ O', J (pre ++ [x]) O' W' ∧ Chg O1 W1 O' W') ∨ (e = .returned (.bool false) ∧ ∃ O', Jx (pre ++ [x]) O' W' ∧ Chg O1 W1 O' W')) →
    J [] O W →
    CallsIn F n P g (#[.func (.yield l) #[] #[]] ++ lb) W fun e W' => (∃ v, e = .returned v) ∧ ((∃ O', J xs O' W') ∨ (∃ pre O', pre <+: xs ∧ Jx pre O' W'))

/-- how a round's body may be left -/
def sepPost {α : Type} (I : List α → (Nat → Prop) → World → Prop) (Ix : Code → List α → (Nat → Prop) → World → Prop) (xs : List α) (O : Nat → Prop) (W : World) : Exit → Act → World → Prop
  | .normal, _, W' => ∃ O', I xs O' W' ∧ Chg O W O' W'
  | .ret, _, W' => ∃ O', Ix .ret xs O' W' ∧ Chg O W O' W'
  | .exit id, _, W' => ∃ O', Ix (.exit id) xs O' W' ∧ Chg O W O' W'
  | .goto t, _, W' => ∃ O', Ix (.goto t) xs O' W' ∧ Chg O W O' W'
  | .panic _, _, _ => False
  | .outgrown, _, _ => False

variable {F : Fence} {n : Nat} {P : Program}

/-- THE STATEMENT 'for x := range g { .. }', outside every round. -/
theorem wpIn_range_sep {α : Type} {g : Operand} {ps : Array Tmp} {assign body : Code} {Q : Exit → Act → World → Prop} {a : Act} {w : World}
    (hro : F.round = none) (h1 : 1 ≤ n) {gf : Nat} {lb : Array Value} (hg : a.eval g = .func (.func gf) #[] lb) (hFg : F.fn gf) (eg : ∀ args w, (callFunc gf args).run P w = .ok (.enter gf args) w)
    {encs : α → Array Value} {C : Nat → Prop} {Pre : World → Prop} {xs : List α} (hseq : IterC F (n - 1) P gf lb encs C Pre xs)
    (hpre : ∀ W, Below w.heap.size w W → Pre W) (hC : ∀ k, C k → k < w.heap.size) (hps : ∀ x, (encs x).size = ps.size)
    (I : List α → (Nat → Prop) → World → Prop) (Ix : Code → List α → (Nat → Prop) → World → Prop) (hI : Stable w.heap.size I) (hIx : ∀ c, Stable w.heap.size (Ix c))
    (hIO : ∀ pre O W, I pre O W → ∀ k, O k → k < W.heap.size ∧ ¬ C k) (O : Nat → Prop) (hO : ∀ k, O k → k < w.heap.size) (h0 : I [] O w) (a₁ : α → Act)
    (hassign : ∀ (l : Nat) (x : α) (W : World) (K : Act → World → Prop), K (a₁ x) W →
      assign.wpIn (F.inRound l) (n - 1 - 1) P (Exit.then K (fun _ _ _ => False)) { tmps := (ps.zip (encs x)).foldl (fun t (p, v) => t.setIfInBounds p v) a.tmps, defers := [] } W)
    (hbody : ∀ (l : Nat) (pre : List α) (x : α) (O : Nat → Prop) (W : World), w.heap.size ≤ l → I pre O W → pre ++ [x] <+: xs → body.wpIn (F.inRound l) (n - 1 - 1) P (sepPost I Ix (pre ++ [x]) O W) (a₁ x) W)
    (hdone : ∀ (D : Nat) (O : Nat → Prop) (W : World), w.heap.size ≤ D → I xs O W → ¬ O D → W.heap[D]? = some (.deferred (some [])) → Q .normal { a with defers := { target := .collected D, args := #[] } :: a.defers } W)
    (hstop : ∀ (D : Nat) (c : Code) (pre : List α) (O : Nat → Prop) (W : World), w.heap.size ≤ D → pre <+: xs → Ix c pre O W → ¬ O D → W.heap[D]? = some (.deferred (some [])) → c.wpIn F n P Q { a with defers := { target := .collected D, args := #[] } :: a.defers } W) :
    (Code.rangeFunc g ps assign body).wpIn F n P Q a w := by
  refine wpIn_rangeFunc ?_
  intro fn hfn
  rw [hro]
  let D := w.heap.size
  let L := w.heap.size + 1
  obtain ⟨rec, hrec⟩ : ∃ rec : LoopState → Option Code → Loop, rec = fun st pe => { state := st, pending := pe, fn, tmps := a.tmps, params := ps, assign, body, defers := w.heap.size } := ⟨_, rfl⟩
  obtain ⟨W1, hW1⟩ : ∃ W1, (w.alloc (.deferred (some []))).alloc (.loop (rec .ready none)) = W1 := ⟨_, rfl⟩
  have hsz : W1.heap.size = w.heap.size + 2 := by rw [← hW1]; simp
  have hL1 : W1.heap[L]? = some (.loop (rec .ready none)) := by
    rw [← hW1]; have := World.alloc_heap_new (w.alloc (.deferred (some []))) (.loop (rec .ready none)); rwa [World.size_alloc] at this
  have hD1 : W1.heap[D]? = some (.deferred (some [])) := by
    rw [← hW1]; exact (Below.heap_alloc _ _ _ (by simp [D])).trans (World.alloc_heap_new w _)
  have hk1 : ∀ S, Keeps S w W1 := fun S => by rw [← hW1]; exact (Keeps.alloc S w _).trans (Keeps.alloc S _ _)
  have hb1 : Below w.heap.size w W1 := (hk1 (fun _ => True)).below (Nat.le_refl _) (fun _ _ => trivial)
  refine ⟨L, [{ target := .collected w.heap.size, args := #[] }], W1, { target := .fn (.func gf) lb, args := #[.func (.yield L) #[] #[]] }, W1, gf,
    #[.func (.yield L) #[] #[]] ++ lb, W1, ?_, ?_, ?_, ?_, fun _ => h1, ?_⟩
  · rw [← hW1, hrec]; exact run_enterLoop_outer _ _ _ _ _
  · simp only [resolve, hg]
    simp [go_sem]
  · intro f' hf'; simp [Target.leads] at hf'; subst hf'; exact hFg
  · simp [invoke, go_sem, eg]
  · -- what the law tells the iterator: the caller's invariant, and the two blocks of book-keeping, of which the record is the caller's to write
    let J : List α → (Nat → Prop) → World → Prop := fun pre O W => ∃ O0, (∀ k, O k ↔ (O0 k ∨ k = L)) ∧ I pre O0 W ∧ ¬ O0 D ∧ ¬ O0 L ∧ W.heap[L]? = some (.loop (rec .ready none)) ∧ W.heap[D]? = some (.deferred (some []))
    let Jx : List α → (Nat → Prop) → World → Prop := fun pre O W => ∃ O0 c, (∀ k, O k ↔ (O0 k ∨ k = L)) ∧ Ix c pre O0 W ∧ ¬ O0 D ∧ ¬ O0 L ∧ W.heap[L]? = some (.loop (rec .done (some c))) ∧ W.heap[D]? = some (.deferred (some []))
    have hkeep : ∀ {O O0 : Nat → Prop} {A B : World}, (∀ k, O k ↔ (O0 k ∨ k = L)) → Keeps (fun k => O k ∨ k < W1.heap.size) A B → Keeps (fun k => O0 k ∨ k < w.heap.size) A B :=
      fun he hk => hk.mono (fun k hh => by rcases hh with hh | hh; exact .inl ((he k).2 (.inl hh)); exact .inr (by omega))
    refine (hseq L J Jx W1 (fun k => O k ∨ k = L) (hpre _ hb1) ?_ ?_ ?_ ?_ ?_).mono ?_
    · rintro s O' A B ⟨O0, he, hi, hd, hl, hrl, hrd⟩ hk
      exact ⟨O0, he, hI _ _ _ _ hi (hkeep he hk), hd, hl, (hk.same L (Array.getElem?_eq_some_iff.1 hrl).1 (.inr (by simp [L]; omega))).trans hrl, (hk.same D (Array.getElem?_eq_some_iff.1 hrd).1 (.inr (by simp [D]; omega))).trans hrd⟩
    · rintro s O' A B ⟨O0, c, he, hi, hd, hl, hrl, hrd⟩ hk
      exact ⟨O0, c, he, hIx c _ _ _ _ hi (hkeep he hk), hd, hl, (hk.same L (Array.getElem?_eq_some_iff.1 hrl).1 (.inr (by simp [L]; omega))).trans hrl, (hk.same D (Array.getElem?_eq_some_iff.1 hrd).1 (.inr (by simp [D]; omega))).trans hrd⟩
    · rintro pre O' W' ⟨O0, he, hi, hd, hl, hrl, hrd⟩ k hk
      rcases (he k).1 hk with hk | hk
      · exact hIO _ _ _ hi k hk
      · subst hk
        exact ⟨(Array.getElem?_eq_some_iff.1 hrl).1, fun hc => by have := hC _ hc; simp [L] at this; omega⟩
    · -- one round
      rintro pre x O1 W ⟨O0, he, hi, hd, hl, hrl, hrd⟩ hpx
      have hlt : L < W.heap.size := (Array.getElem?_eq_some_iff.1 hrl).1
      have hy := run_yield (P := P) (args := encs x) hrl (by rw [hrec]; exact hps x)
      rw [hrec] at hy
      refine ⟨fn, _, assign, body, hy, roundIn_of_wpIn hfn (hassign _ x W _ ?_)⟩
      clear hy
      refine ⟨_, run_beginRound hrl (by rw [hrec]), ?_⟩
      obtain ⟨W2, hW2⟩ : ∃ W2, W.putObj L (.loop { rec .ready none with state := .busy }) = W2 := ⟨_, rfl⟩
      rw [hW2]
      have hl2 : W2.heap[L]? = some (.loop { rec .ready none with state := .busy }) := by rw [← hW2]; exact World.putObj_heap_same hlt
      have hd2 : W2.heap[D]? = some (.deferred (some [])) := by rw [← hW2]; exact (World.putObj_heap_other (by simp [L, D])).trans hrd
      have hkp : Keeps (fun k => O0 k ∨ k < w.heap.size) W W2 := by rw [← hW2]; exact Keeps.putObj W L _ (by rintro (hh | hh); exact hl hh; exact absurd hh (Nat.not_lt.2 (Nat.le_succ _)))
      have hs2 : W2.heap.size = W.heap.size := by rw [← hW2]; simp
      have hkn : Keeps (fun k => k ≠ L) W W2 := by rw [← hW2]; exact Keeps.putObj W L _ (fun hh => hh rfl)
      refine wpIn_mono (hbody L pre x O0 W2 (by simp [L]) (hI _ _ _ _ hi hkp) hpx) ?_
      -- behind the body
      have fin : ∀ (jump : Option Code) (O3 : Nat → Prop) (W3 : World), Chg O0 W2 O3 W3 →
          ∃ W4, (Instr.endRound L jump).run P W3 = .ok (.bool jump.isNone) W4 ∧ ¬ O3 D ∧ ¬ O3 L ∧ Keeps (fun k => O3 k ∨ k < w.heap.size) W3 W4 ∧
          W4.heap[L]? = some (.loop (rec (if jump.isNone then .ready else .done) jump)) ∧ W4.heap[D]? = some (.deferred (some [])) ∧ Chg O1 W (fun k => O3 k ∨ k = L) W4 := fun jump O3 W3 hc => by
        have h3l : W3.heap[L]? = some (.loop { rec .ready none with state := .busy }) := (hc.keeps.same L (by omega) hl).trans hl2
        have h3d : W3.heap[D]? = some (.deferred (some [])) := (hc.keeps.same D (by simp [L, D] at hlt ⊢; omega) hd).trans hd2
        have hrun := run_endRound (P := P) jump h3l
        have hnd : ¬ O3 D := fun h => hd (hc.own D (by simp [L, D] at hlt ⊢; omega) h)
        have hnl : ¬ O3 L := fun h => hl (hc.own L (by omega) h)
        rw [hrec] at hrun h3l
        obtain ⟨W4, hW4⟩ : ∃ W4, W3.putObj L (.loop (rec (if jump.isNone then .ready else .done) jump)) = W4 := ⟨_, rfl⟩
        refine ⟨W4, ?_, hnd, hnl, ?_, ?_, ?_, ⟨?_, ?_⟩⟩
        · rw [← hW4, hrec]; exact hrun
        · rw [← hW4]; exact Keeps.putObj W3 L _ (by rintro (hh | hh); exact hnl hh; exact absurd hh (Nat.not_lt.2 (Nat.le_succ _)))
        · rw [← hW4]; exact World.putObj_heap_same (Array.getElem?_eq_some_iff.1 h3l).1
        · rw [← hW4]; exact (World.putObj_heap_other (by simp [L, D])).trans h3d
        · have k34 : Keeps (fun k => k ≠ L) W3 W4 := by rw [← hW4]; exact Keeps.putObj W3 L _ (fun hh => hh rfl)
          exact ((hkn.mono (fun k hk e => hk ((he k).2 (.inr e)))).trans ((hc.keeps.mono (fun k hk h => hk ((he k).2 (.inl h)))).trans (k34.mono (fun k hk e => hk ((he k).2 (.inr e))))))
        · intro k hk hO
          rcases hO with hO | hO
          · exact (he k).2 (.inl (hc.own k (by omega) hO))
          · exact (he k).2 (.inr hO)
      rintro e a3 W3 hp
      cases e with
      | normal =>
        obtain ⟨O3, hi3, hc3⟩ := hp
        obtain ⟨W4, hr, hnd, hnl, hk4, hl4, hd4, hc4⟩ := fin none O3 W3 hc3
        exact ⟨_, _, hr, .inl ⟨rfl, _, ⟨O3, fun _ => Iff.rfl, hI _ _ _ _ hi3 hk4, hnd, hnl, hl4, hd4⟩, hc4⟩⟩
      | ret =>
        obtain ⟨O3, hi3, hc3⟩ := hp
        obtain ⟨W4, hr, hnd, hnl, hk4, hl4, hd4, hc4⟩ := fin (some .ret) O3 W3 hc3
        exact ⟨_, _, hr, .inr ⟨rfl, _, ⟨O3, .ret, fun _ => Iff.rfl, hIx _ _ _ _ _ hi3 hk4, hnd, hnl, hl4, hd4⟩, hc4⟩⟩
      | exit id =>
        obtain ⟨O3, hi3, hc3⟩ := hp
        obtain ⟨W4, hr, hnd, hnl, hk4, hl4, hd4, hc4⟩ := fin (some (.exit id)) O3 W3 hc3
        exact ⟨_, _, hr, .inr ⟨rfl, _, ⟨O3, .exit id, fun _ => Iff.rfl, hIx _ _ _ _ _ hi3 hk4, hnd, hnl, hl4, hd4⟩, hc4⟩⟩
      | goto t =>
        obtain ⟨O3, hi3, hc3⟩ := hp
        obtain ⟨W4, hr, hnd, hnl, hk4, hl4, hd4, hc4⟩ := fin (some (.goto t)) O3 W3 hc3
        exact ⟨_, _, hr, .inr ⟨rfl, _, ⟨O3, .goto t, fun _ => Iff.rfl, hIx _ _ _ _ _ hi3 hk4, hnd, hnl, hl4, hd4⟩, hc4⟩⟩
      | panic ch => exact hp.elim
      | outgrown => exact hp.elim
    · exact ⟨O, fun _ => Iff.rfl, hI _ _ _ _ h0 (hk1 _), fun h => by have := hO _ h; simp [D] at this, fun h => by have := hO _ h; simp [L] at this; omega, hL1, hD1⟩
    · -- behind the iterator
      rintro e W2 ⟨⟨v, rfl⟩, (⟨O', O0, he, hi, hd, hl, hrl, hrd⟩ | ⟨pre, O', hpx, O0, c, he, hi, hd, hl, hrl, hrd⟩)⟩
      · have hend := run_endLoop (P := P) hrl (by rw [hrec]; simp)
        rw [hrec] at hend
        exact ⟨none, _, hend, hdone D O0 _ (Nat.le_refl _) (hI _ _ _ _ hi (Keeps.putObj _ _ _ (by rintro (hh | hh); exact hl hh; exact absurd hh (Nat.not_lt.2 (Nat.le_succ _))))) hd ((World.putObj_heap_other (by simp [L, D])).trans hrd)⟩
      · have hend := run_endLoop (P := P) hrl (by rw [hrec]; simp)
        rw [hrec] at hend
        exact ⟨some c, _, hend, hstop D c pre O0 _ (Nat.le_refl _) hpx (hIx c _ _ _ _ hi (Keeps.putObj _ _ _ (by rintro (hh | hh); exact hl hh; exact absurd hh (Nat.not_lt.2 (Nat.le_succ _))))) hd ((World.putObj_heap_other (by simp [L, D])).trans hrd)⟩
end Go.Proofs.YtghonbnmakggnaaDoor
