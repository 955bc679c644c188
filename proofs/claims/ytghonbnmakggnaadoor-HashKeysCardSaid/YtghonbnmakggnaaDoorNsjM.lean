/-
  THE DOCUMENT's Join; tuples put behind others in a list of one's own.
-/
import Derived.Test.YtghonbnmakggnaaDoorNsmM
import Derived.Test.YtghonbnmakggnaaDoorMtfM
import Derived.Test.YtghonbnmakggnaaDoorMtjM
import Derived.Test.YtghonbnmakggnaaDoorMtvM
namespace Go.Proofs.YtghonbnmakggnaaDoor
open Go.RowKit Go.Sort
set_option maxHeartbeats 3200000

variable {w w' : World} {v : Value}
theorem TuRow.pushes {R : Nat → Prop} {base n m : Nat} {us news : List Value} {ts xs : List (List (List Vl))} {v' : Value} (h : TuRow R base w v n us ts) (hl : xs.length = m) (hu : ∀ (i : Nat) (t : List (List Vl)), xs[i]? = some t → ∃ u, news[i]? = some u ∧ RwsOn (fun k => v.ownBlock ≠ some k ∧ R k) w u t)
    (hown : w'.ownsRow base 25 1 v' (n + m) (us ++ news)) (hg : w.grownBy w' v.ownBlock) (hw : v'.ownBlock = v.ownBlock ∨ ∃ g, v'.ownBlock = some g ∧ w.heap.size ≤ g) : TuRow R base w' v' (n + m) (us ++ news) (ts ++ xs) := by
  have hkp : ∀ {x : Value} {y : List (List Vl)}, RwsOn (fun k => v.ownBlock ≠ some k ∧ R k) w x y → RwsOn (fun k => v'.ownBlock ≠ some k ∧ R k) w' x y := fun {x y} hx => by
    have h1 : RwsOn (fun k => (v.ownBlock ≠ some k ∧ R k) ∧ k < w.heap.size) w x y := hx.mono fun k hk1 hk2 => ⟨hk2, hk1⟩
    refine (h1.keep (keeps_grown hg) fun _ _ hk2 => hk2.1.1).mono fun _ _ hk2 => ⟨?_, hk2.1.2⟩
    rcases hw with e | ⟨g, e, hge⟩
    · rw [e]; exact hk2.1.1
    · rw [e]; intro e2; cases e2; have := hk2.2; omega
  have hul : us.length = n := by have := h.own.1; omega
  have htl : ts.length = n := h.len
  refine ⟨hown, by rw [List.length_append, htl, hl], fun i x hi => ?_⟩
  by_cases e : i < ts.length
  · rw [List.getElem?_append_left e] at hi
    obtain ⟨y, hy, hr⟩ := h.tup i x hi
    exact ⟨y, by rw [List.getElem?_append_left (by omega)]; exact hy, hkp hr⟩
  · rw [List.getElem?_append_right (by omega)] at hi
    obtain ⟨y, hy, hr⟩ := hu _ x hi
    exact ⟨y, by rw [List.getElem?_append_right (by omega), hul, ← htl]; exact hy, hkp hr⟩
/-- what a call made, put behind a list of the caller's own -/
theorem TuRow.more {R S : Nat → Prop} {base n m c : Nat} {us : List Value} {ts xs : List (List (List Vl))} {A : Option Addr} (h : TuRow R base w v n us ts) (hx : TusOn S w (.slice A m c) xs) (hS : ∀ k, k < w.heap.size → S k → v.ownBlock ≠ some k ∧ R k) :
    ∃ news, news.length = m ∧ xs.length = m ∧ (∀ u ∈ news, u.oneCell' = true) ∧ (0 < m → ∃ ad, A = some ad ∧ ∀ (j : Nat) (u : Value), news[j]? = some u → w.cell? (ad.add j) = some u) ∧
      ∀ v' w', w'.ownsRow base 25 1 v' (n + m) (us ++ news) → w.grownBy w' v.ownBlock → (v'.ownBlock = v.ownBlock ∨ ∃ g, v'.ownBlock = some g ∧ w.heap.size ≤ g) → TuRow R base w' v' (n + m) (us ++ news) (ts ++ xs) := by
  obtain ⟨us2, hx⟩ := hx
  have hl : us2.length = m := by obtain ⟨A', c', hv, _⟩ := hx.sl; cases hv; rfl
  have hl2 : xs.length = m := by rw [← hx.len]; exact hl
  refine ⟨us2, hl, hl2, tus_ones hx, fun h0 => ?_, fun v' w' h1 h2 h3 => h.pushes hl2 (fun i t hi => ?_) h1 h2 h3⟩
  · obtain ⟨⟨A', c', hv, hc, hy⟩, _, _⟩ := hx
    subst hl
    exact SlOn.src (T := S) (n := us2.length) (c := c) ⟨A', c', hv, hc, hy⟩ h0
  · obtain ⟨u, h1, h2⟩ := hx.tup i t hi
    exact ⟨u, h1, h2.mono hS⟩
end Go.Proofs.YtghonbnmakggnaaDoor
