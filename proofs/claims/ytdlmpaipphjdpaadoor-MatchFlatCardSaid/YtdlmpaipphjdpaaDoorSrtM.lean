/-
  SORTED LISTS, by a comparison that tells a number (below 0: ahead): insertion; a search by halves; two sorted lists merged by a rotation and two lesser merges. Plain mathematics.
-/
import Init
namespace Go.Proofs.YtdlmpaipphjdpaaDoor.So

/-- the comparison puts things in order: not both ahead of one another; what is not behind stays so -/
structure Pre {α : Type} (cm : α → α → Int) : Prop where
  asym : ∀ a b, cm a b < 0 → ¬ cm b a < 0
  trans : ∀ a b c, ¬ cm b a < 0 → ¬ cm c b < 0 → ¬ cm c a < 0
/-- b is not ahead of a -/
def Le {α : Type} (cm : α → α → Int) (a b : α) : Prop := ¬ cm b a < 0
def Ord {α : Type} (cm : α → α → Int) (l : List α) : Prop := l.Pairwise (Le cm)
section
variable {α : Type} {cm : α → α → Int}
theorem Pre.refl (h : Pre cm) (a : α) : Le cm a a := fun g => h.asym a a g g
theorem Le.of_lt (h : Pre cm) {a b : α} (g : cm a b < 0) : Le cm a b := h.asym a b g
theorem Le.trans (h : Pre cm) {a b c : α} (x : Le cm a b) (y : Le cm b c) : Le cm a c := h.trans a b c x y
theorem lt_le (h : Pre cm) {a b c : α} (x : cm a b < 0) (y : Le cm b c) : cm a c < 0 := Classical.byContradiction fun n => h.trans b c a y n x
theorem le_lt (h : Pre cm) {a b c : α} (x : Le cm a b) (y : cm b c < 0) : cm a c < 0 := Classical.byContradiction fun n => h.trans c a b n x y
theorem Ord.nil : Ord cm ([] : List α) := List.Pairwise.nil
theorem Ord.one (a : α) : Ord cm [a] := List.pairwise_singleton _ _
theorem Ord.append {l m : List α} : Ord cm (l ++ m) ↔ Ord cm l ∧ Ord cm m ∧ ∀ a ∈ l, ∀ b ∈ m, Le cm a b := List.pairwise_append
theorem Ord.at_ (hp : Pre cm) {l : List α} (h : Ord cm l) {i j : Nat} {x y : α} (hij : i ≤ j) (hi : l[i]? = some x) (hj : l[j]? = some y) : Le cm x y := by
  rcases Nat.lt_or_ge i j with g | g
  · obtain ⟨h1, rfl⟩ := List.getElem?_eq_some_iff.1 hi
    obtain ⟨h2, rfl⟩ := List.getElem?_eq_some_iff.1 hj
    exact List.pairwise_iff_getElem.1 h i j h1 h2 g
  · have : i = j := by omega
    subst this
    rw [hi] at hj
    cases hj
    exact hp.refl x
theorem Ord.of_at {l : List α} (h : ∀ (i j : Nat) (x y : α), i < j → l[i]? = some x → l[j]? = some y → Le cm x y) : Ord cm l :=
  List.pairwise_iff_getElem.2 fun i j hi hj g => h i j _ _ g (List.getElem?_eq_getElem hi) (List.getElem?_eq_getElem hj)
theorem Ord.take {l : List α} (h : Ord cm l) (n : Nat) : Ord cm (l.take n) := h.sublist (List.take_sublist n l)
theorem Ord.drop {l : List α} (h : Ord cm l) (n : Nat) : Ord cm (l.drop n) := h.sublist (List.drop_sublist n l)

/-- one put in where it belongs -/
theorem Ord.insert (hp : Pre cm) {X Y : List α} {x : α} (h : Ord cm (X ++ Y)) (hY : ∀ y ∈ Y, cm x y < 0) (hX : ∀ a, X.getLast? = some a → Le cm a x) : Ord cm (X ++ x :: Y) := by
  obtain ⟨h1, h2, h3⟩ := Ord.append.1 h
  refine Ord.append.2 ⟨h1, List.pairwise_cons.2 ⟨fun y hy => Le.of_lt hp (hY y hy), h2⟩, fun a ha b hb => ?_⟩
  have key : ∀ a ∈ X, Le cm a x := by
    intro a ha
    obtain ⟨i, hi, rfl⟩ := List.mem_iff_getElem.1 ha
    have hl : X.getLast? = some (X[X.length - 1]'(by omega)) := by
      rw [List.getLast?_eq_getElem?]; exact List.getElem?_eq_getElem _
    exact Le.trans hp (h1.at_ hp (j := X.length - 1) (by omega) (List.getElem?_eq_getElem hi) (List.getElem?_eq_getElem _)) (hX _ hl)
  rcases List.mem_cons.1 hb with rfl | hb
  · exact key a ha
  · exact h3 a ha b hb

/-- merged, where what is ahead of the cut is ahead of what is behind -/
theorem merged (hp : Pre cm) {U V R1 R2 : List α} {i j : Nat} (hU : Ord cm U) (hV : Ord cm V) (hi : i ≤ U.length) (hj : j ≤ V.length)
    (h1 : ∀ x y, 0 < i → U[i - 1]? = some x → V[j]? = some y → Le cm x y) (h2 : ∀ x y, 0 < j → V[j - 1]? = some x → U[i]? = some y → Le cm x y)
    (p1 : R1.Perm (U.take i ++ V.take j)) (p2 : R2.Perm (U.drop i ++ V.drop j)) (o1 : Ord cm R1) (o2 : Ord cm R2) : Ord cm (R1 ++ R2) ∧ (R1 ++ R2).Perm (U ++ V) := by
  refine ⟨Ord.append.2 ⟨o1, o2, fun a ha b hb => ?_⟩, ?_⟩
  · have a1 := List.mem_append.1 (p1.mem_iff.1 ha)
    have b1 := List.mem_append.1 (p2.mem_iff.1 hb)
    have tk : ∀ (l : List α) (n : Nat), a ∈ l.take n → ∃ k, k < n ∧ l[k]? = some a := by
      intro l n h
      obtain ⟨k, hk, rfl⟩ := List.mem_iff_getElem.1 h
      rw [List.length_take] at hk
      exact ⟨k, by omega, by rw [List.getElem_take]; exact List.getElem?_eq_getElem _⟩
    have dr : ∀ (l : List α) (n : Nat), b ∈ l.drop n → ∃ k, n ≤ k ∧ l[k]? = some b := by
      intro l n h
      obtain ⟨k, hk, rfl⟩ := List.mem_iff_getElem.1 h
      rw [List.length_drop] at hk
      exact ⟨n + k, by omega, by rw [List.getElem_drop]; exact List.getElem?_eq_getElem _⟩
    have lt_len : ∀ {l : List α} {k : Nat} {z : α}, l[k]? = some z → k < l.length := fun h => (List.getElem?_eq_some_iff.1 h).1
    rcases a1 with ha | ha <;> rcases b1 with hb | hb
    · obtain ⟨k, hk, hka⟩ := tk U i ha
      obtain ⟨m, hm, hmb⟩ := dr U i hb
      exact hU.at_ hp (by omega) hka hmb
    · obtain ⟨k, hk, hka⟩ := tk U i ha
      obtain ⟨m, hm, hmb⟩ := dr V j hb
      have := lt_len hmb
      have e1 : U[i - 1]? = some (U[i - 1]'(by omega)) := List.getElem?_eq_getElem _
      have e2 : V[j]? = some (V[j]'(by omega)) := List.getElem?_eq_getElem _
      exact Le.trans hp (Le.trans hp (hU.at_ hp (by omega) hka e1) (h1 _ _ (by omega) e1 e2)) (hV.at_ hp hm e2 hmb)
    · obtain ⟨k, hk, hka⟩ := tk V j ha
      obtain ⟨m, hm, hmb⟩ := dr U i hb
      have := lt_len hmb
      have e1 : V[j - 1]? = some (V[j - 1]'(by omega)) := List.getElem?_eq_getElem _
      have e2 : U[i]? = some (U[i]'(by omega)) := List.getElem?_eq_getElem _
      exact Le.trans hp (Le.trans hp (hV.at_ hp (by omega) hka e1) (h2 _ _ (by omega) e1 e2)) (hU.at_ hp hm e2 hmb)
    · obtain ⟨k, hk, hka⟩ := tk V j ha
      obtain ⟨m, hm, hmb⟩ := dr V j hb
      exact hV.at_ hp (by omega) hka hmb
  · refine (p1.append p2).trans ?_
    have e : (U.take i ++ V.take j ++ (U.drop i ++ V.drop j)).Perm ((U.take i ++ U.drop i) ++ (V.take j ++ V.drop j)) := by
      rw [List.append_assoc, List.append_assoc]
      refine List.Perm.append_left _ ?_
      rw [← List.append_assoc, ← List.append_assoc]
      exact List.Perm.append_right _ List.perm_append_comm
    rw [List.take_append_drop, List.take_append_drop] at e
    exact e

/-- a search by halves: how far it is -/
structure Half (p : Nat → Prop) (lo hi i j : Nat) : Prop where
  l : lo ≤ i
  m : i ≤ j
  h : j ≤ hi
  yes : ∀ k, lo ≤ k → k < i → p k
  no : ∀ k, j ≤ k → k < hi → ¬ p k
/-- who is behind one that is not, is not -/
def Falls (p : Nat → Prop) (lo hi : Nat) : Prop := ∀ k h, lo ≤ k → k ≤ h → h < hi → p h → p k
theorem Half.start {p : Nat → Prop} {lo hi : Nat} (h : lo ≤ hi) : Half p lo hi lo hi := ⟨Nat.le_refl _, h, Nat.le_refl _, fun k h1 h2 => by omega, fun k h1 h2 => by omega⟩
theorem Half.up {p : Nat → Prop} {lo hi i j c : Nat} (h : Half p lo hi i j) (hf : Falls p lo hi) (h1 : i ≤ c) (h2 : c < j) (hc : p c) : Half p lo hi (c + 1) j :=
  ⟨by have := h.l; omega, by omega, h.h, fun k a b => hf k c a (by omega) (by have := h.h; omega) hc, h.no⟩
theorem Half.down {p : Nat → Prop} {lo hi i j c : Nat} (h : Half p lo hi i j) (hf : Falls p lo hi) (h1 : i ≤ c) (h2 : c < j) (hc : ¬ p c) : Half p lo hi i c :=
  ⟨h.l, h1, by have := h.h; omega, h.yes, fun k a b hk => hc (hf c k (by have := h.l; omega) a b hk)⟩

/-- two places changed -/
def swap (l : List α) (i j : Nat) : List α := match l[i]?, l[j]? with
  | some x, some y => (l.set i y).set j x
  | _, _ => l
theorem swap_at (A B C : List α) (x y : α) : swap (A ++ x :: (B ++ y :: C)) A.length (A.length + 1 + B.length) = A ++ y :: (B ++ x :: C) := by
  have e1 : (A ++ x :: (B ++ y :: C))[A.length]? = some x := by simp
  have e2 : (A ++ x :: (B ++ y :: C))[A.length + 1 + B.length]? = some y := by
    rw [List.getElem?_append_right (by omega), show A.length + 1 + B.length - A.length = B.length + 1 by omega]; simp
  unfold swap
  rw [e1, e2]
  simp only
  rw [List.set_append_right _ _ (by omega), Nat.sub_self, List.set_cons_zero, List.set_append_right _ _ (by omega), show A.length + 1 + B.length - A.length = B.length + 1 by omega, List.set_cons_succ, List.set_append_right _ _ (by omega), Nat.sub_self, List.set_cons_zero]
end
end Go.Proofs.YtdlmpaipphjdpaaDoor.So
