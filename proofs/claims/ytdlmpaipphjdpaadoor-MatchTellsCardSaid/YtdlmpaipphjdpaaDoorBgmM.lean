/-
  ROWS AND BAGS OF ROWS, compared. Plain mathematics.
-/
import Derived.Test.YtdlmpaipphjdpaaDoorSrtM
import Derived.Test.YtdlmpaipphjdpaaDoorGPlain
namespace Go.Proofs.YtdlmpaipphjdpaaDoor.Bg
open So

/-- lists compared by their parts: the first that differ, else the lengths -/
def lex {α : Type} (f : α → α → Int) : List α → List α → Int
  | [], [] => 0
  | [], _ :: _ => -1
  | _ :: _, [] => 1
  | x :: r, y :: s => if f x y = 0 then lex f r s else f x y
/-- a comparison that turns round, and goes on -/
structure Cmp {α : Type} (f : α → α → Int) : Prop where
  neg : ∀ a b, f a b < 0 ↔ 0 < f b a
  trans : ∀ a b c, f a b ≤ 0 → f b c ≤ 0 → f a c ≤ 0
section
variable {α : Type} {f : α → α → Int}
theorem Cmp.zero (h : Cmp f) {a b : α} (g : f a b = 0) : f b a = 0 := by have h1 := h.neg a b; have h2 := h.neg b a; omega
theorem Cmp.self (h : Cmp f) (a : α) : f a a = 0 := by have h1 := h.neg a a; omega
theorem Cmp.lt_le (h : Cmp f) {a b c : α} (x : f a b < 0) (y : f b c ≤ 0) : f a c < 0 := by
  have h1 := h.trans a b c (by omega) y
  rcases Int.lt_or_eq_of_le h1 with g | g
  · exact g
  · have h2 := h.trans b c a y (by have := h.zero g; omega)
    have h3 := (h.neg a b).1 x
    omega
theorem Cmp.le_lt (h : Cmp f) {a b c : α} (x : f a b ≤ 0) (y : f b c < 0) : f a c < 0 := by
  have h1 := h.trans a b c x (by omega)
  rcases Int.lt_or_eq_of_le h1 with g | g
  · exact g
  · have h2 := h.trans c a b (by have := h.zero g; omega) x
    have h3 := (h.neg b c).1 y
    omega
theorem Cmp.pre (h : Cmp f) : Pre f where
  asym a b g := by have := (h.neg a b).1 g; omega
  trans a b c x y := by
    have h1 := h.neg b a
    have h2 := h.neg c b
    have h3 := h.neg c a
    have h4 := h.trans a b c (by omega) (by omega)
    omega
theorem Cmp.eq_left (h : Cmp f) {a b c : α} (g : f a b = 0) : (f a c = 0 ↔ f b c = 0) ∧ (f a c < 0 ↔ f b c < 0) := by
  have g' := h.zero g
  have n1 := h.neg a c
  have n2 := h.neg b c
  have n3 := h.neg c a
  have n4 := h.neg c b
  have p1 : f a c ≤ 0 → f b c ≤ 0 := fun x => h.trans b a c (by omega) x
  have p2 : f b c ≤ 0 → f a c ≤ 0 := fun x => h.trans a b c (by omega) x
  have q1 : f a c < 0 → f b c < 0 := fun x => h.le_lt (by omega) x
  have q2 : f b c < 0 → f a c < 0 := fun x => h.le_lt (by omega) x
  omega
theorem Cmp.eq_right (h : Cmp f) {a b c : α} (g : f a b = 0) : (f c a = 0 ↔ f c b = 0) ∧ (f c a < 0 ↔ f c b < 0) := by
  have e := h.eq_left (c := c) g
  have n1 := h.neg c a
  have n2 := h.neg c b
  have n3 := h.neg a c
  have n4 := h.neg b c
  omega
theorem lex_cmp (h : Cmp f) : Cmp (lex f) where
  neg a b := by
    induction a generalizing b with
    | nil => cases b <;> simp [lex]
    | cons x r ih =>
      cases b with
      | nil => simp [lex]
      | cons y s =>
        simp only [lex]
        by_cases g : f x y = 0
        · rw [if_pos g, if_pos (h.zero g)]; exact ih s
        · rw [if_neg g, if_neg (fun e => g (h.zero e))]; exact h.neg x y
  trans a b c := by
    induction a generalizing b c with
    | nil => cases b <;> cases c <;> simp [lex]
    | cons x r ih =>
      cases b with
      | nil => simp [lex]
      | cons y s =>
        cases c with
        | nil => simp [lex]
        | cons z t =>
          simp only [lex]
          intro h1 h2
          by_cases g1 : f x y = 0
          · rw [if_pos g1] at h1
            by_cases g2 : f y z = 0
            · rw [if_pos g2] at h2
              rw [if_pos ((h.eq_left g1).1.2 g2)]
              exact ih s t h1 h2
            · rw [if_neg g2] at h2
              have h3 : f x z < 0 := h.le_lt (b := y) (by omega) (by omega)
              rw [if_neg (by omega)]
              omega
          · rw [if_neg g1] at h1
            by_cases g2 : f y z = 0
            · have h3 : f x z < 0 := h.lt_le (b := y) (by omega) (by omega)
              rw [if_neg (by omega)]
              omega
            · rw [if_neg g2] at h2
              have h3 : f x z < 0 := h.lt_le (b := y) (by omega) h2
              rw [if_neg (by omega)]
              omega
/-- the first so many are the same -/
theorem lex_drop {a b : List α} {i : Nat} (ha : i ≤ a.length) (hb : i ≤ b.length) (h : ∀ j x y, j < i → a[j]? = some x → b[j]? = some y → f x y = 0) : lex f a b = lex f (a.drop i) (b.drop i) := by
  induction i generalizing a b with
  | zero => simp
  | succ i ih =>
    cases a with
    | nil => simp at ha
    | cons x r =>
      cases b with
      | nil => simp at hb
      | cons y s =>
        simp only [lex, List.drop_succ_cons]
        rw [if_pos (h 0 x y (by omega) rfl rfl)]
        exact ih (by simpa using ha) (by simpa using hb) fun j u v hj hu hv => h (j + 1) u v (by omega) (by simpa using hu) (by simpa using hv)
theorem lex_at {a b : List α} {i : Nat} {x y : α} (ha : a[i]? = some x) (hb : b[i]? = some y) (h : ∀ j x y, j < i → a[j]? = some x → b[j]? = some y → f x y = 0) (hn : f x y ≠ 0) : lex f a b = f x y := by
  obtain ⟨h1, rfl⟩ := List.getElem?_eq_some_iff.1 ha
  obtain ⟨h2, rfl⟩ := List.getElem?_eq_some_iff.1 hb
  rw [lex_drop (by omega) (by omega) h, List.drop_eq_getElem_cons h1, List.drop_eq_getElem_cons h2, lex, if_neg hn]
theorem lex_end {a b : List α} (h : ∀ j x y, j < min a.length b.length → a[j]? = some x → b[j]? = some y → f x y = 0) : lex f a b = if a.length < b.length then -1 else if a.length > b.length then 1 else 0 := by
  rw [lex_drop (i := min a.length b.length) (by omega) (by omega) h]
  rcases Nat.lt_trichotomy a.length b.length with g | g | g
  · rw [List.drop_of_length_le (by omega), if_pos g, List.drop_eq_getElem_cons (by omega)]; rfl
  · rw [List.drop_of_length_le (by omega), List.drop_of_length_le (by omega), if_neg (by omega), if_neg (by omega)]; rfl
  · rw [if_neg (by omega), if_pos g, List.drop_of_length_le (l := b) (by omega), List.drop_eq_getElem_cons (by omega)]; rfl
/-- none differs: as long, and the same one by one -/
theorem lex_zero {a b : List α} : lex f a b = 0 ↔ a.length = b.length ∧ ∀ (j : Nat) (x y : α), a[j]? = some x → b[j]? = some y → f x y = 0 := by
  induction a generalizing b with
  | nil => cases b <;> simp [lex]
  | cons x r ih =>
    cases b with
    | nil => simp [lex]
    | cons y s =>
      simp only [lex, List.length_cons]
      by_cases g : f x y = 0
      · rw [if_pos g, ih]
        constructor
        · rintro ⟨h1, h2⟩
          refine ⟨by omega, fun j u v hu hv => ?_⟩
          cases j with
          | zero => simp at hu hv; subst hu; subst hv; exact g
          | succ j => exact h2 j u v (by simpa using hu) (by simpa using hv)
        · rintro ⟨h1, h2⟩
          exact ⟨by omega, fun j u v hu hv => h2 (j + 1) u v (by simpa using hu) (by simpa using hv)⟩
      · rw [if_neg g]
        constructor
        · intro e; exact absurd e g
        · rintro ⟨_, h2⟩; exact h2 0 x y rfl rfl

/-- how many are not behind x -/
def upTo (f : α → α → Int) (l : List α) (x : α) : Nat := l.countP fun y => decide (f y x ≤ 0)
/-- how many are as x -/
def times (f : α → α → Int) (l : List α) (x : α) : Nat := l.countP fun y => decide (f y x = 0)
theorem upTo_perm {l m : List α} (h : l.Perm m) (x : α) : upTo f l x = upTo f m x := h.countP_eq _
theorem times_perm {l m : List α} (h : l.Perm m) (x : α) : times f l x = times f m x := h.countP_eq _
theorem countP_each {p q : α → Bool} : ∀ {l m : List α}, l.length = m.length → (∀ (j : Nat) (x y : α), l[j]? = some x → m[j]? = some y → p x = q y) → l.countP p = m.countP q
  | [], [], _, _ => by simp
  | [], _ :: _, h, _ => by simp at h
  | _ :: _, [], h, _ => by simp at h
  | x :: r, y :: s, h, g => by
    rw [List.countP_cons, List.countP_cons, g 0 x y rfl rfl, countP_each (l := r) (m := s) (by simpa using h) fun j u v hu hv => g (j + 1) u v (by simpa using hu) (by simpa using hv)]
theorem upTo_lex (h : Cmp f) {l m : List α} (e : lex f l m = 0) (x : α) : upTo f l x = upTo f m x := by
  obtain ⟨h1, h2⟩ := lex_zero.1 e
  refine countP_each h1 fun j u v hu hv => ?_
  have := h.eq_left (c := x) (h2 j u v hu hv)
  have n : (f u x ≤ 0) ↔ (f v x ≤ 0) := by omega
  simp [n]
theorem times_lex (h : Cmp f) {l m : List α} (e : lex f l m = 0) (x : α) : times f l x = times f m x := by
  obtain ⟨h1, h2⟩ := lex_zero.1 e
  refine countP_each h1 fun j u v hu hv => ?_
  have := (h.eq_left (c := x) (h2 j u v hu hv)).1
  simp [this]
theorem not_lt_at (h : Cmp f) {l m : List α} (ol : Ord f l) (om : Ord f m) (hc : ∀ x, upTo f l x = upTo f m x) {i : Nat} {x y : α} (hx : l[i]? = some x) (hy : m[i]? = some y) : ¬ f x y < 0 := by
  intro hlt
  have h1 : i + 1 ≤ upTo f l x := by
    have hi := (List.getElem?_eq_some_iff.1 hx).1
    unfold upTo
    have e : l.countP (fun y => decide (f y x ≤ 0)) = (l.take (i + 1)).countP (fun y => decide (f y x ≤ 0)) + (l.drop (i + 1)).countP (fun y => decide (f y x ≤ 0)) := by
      rw [← List.countP_append, List.take_append_drop]
    have a : (l.take (i + 1)).countP (fun y => decide (f y x ≤ 0)) = (l.take (i + 1)).length := by
      rw [List.countP_eq_length]
      intro u hu
      obtain ⟨k, hk, rfl⟩ := List.mem_iff_getElem.1 hu
      rw [List.length_take] at hk
      have := ol.at_ h.pre (i := k) (j := i) (by omega) (List.getElem?_eq_getElem (by omega)) hx
      rw [List.getElem_take]
      have n := h.neg x l[k]
      have n2 := h.neg l[k] x
      unfold Le at this
      simp
      omega
    rw [List.length_take] at a
    omega
  have h2 : upTo f m x ≤ i := by
    have hi := (List.getElem?_eq_some_iff.1 hy).1
    unfold upTo
    have e : m.countP (fun y => decide (f y x ≤ 0)) = (m.take i).countP (fun y => decide (f y x ≤ 0)) + (m.drop i).countP (fun y => decide (f y x ≤ 0)) := by
      rw [← List.countP_append, List.take_append_drop]
    have a : (m.drop i).countP (fun y => decide (f y x ≤ 0)) = 0 := by
      rw [List.countP_eq_zero]
      intro u hu
      obtain ⟨k, hk, rfl⟩ := List.mem_iff_getElem.1 hu
      rw [List.length_drop] at hk
      have := om.at_ h.pre (i := i) (j := i + k) (by omega) hy (List.getElem?_eq_getElem (by omega))
      rw [List.getElem_drop]
      have n := h.neg m[i + k] y
      have n3 := h.neg y m[i + k]
      unfold Le at this
      have n2 := h.lt_le hlt (c := m[i + k]) (by omega)
      have n4 := h.neg x m[i + k]
      simp
      omega
    have b := List.countP_le_length (p := fun y => decide (f y x ≤ 0)) (l := m.take i)
    rw [List.length_take] at b
    omega
  have := hc x
  omega
/-- two lists in order that have as many up to each: the same, one by one -/
theorem ord_same (h : Cmp f) {l m : List α} (ol : Ord f l) (om : Ord f m) (hl : l.length = m.length) (hc : ∀ x, upTo f l x = upTo f m x) : lex f l m = 0 := by
  refine lex_zero.2 ⟨hl, fun j x y hx hy => ?_⟩
  have h1 := not_lt_at h ol om hc hx hy
  have h2 := not_lt_at h om ol (fun x => (hc x).symm) hy hx
  have := h.neg x y
  have := h.neg y x
  omega
/-- the same bag: as many, and each of the one as often in the other -/
def same (f : α → α → Int) (a b : List α) : Bool := a.length == b.length && a.all fun x => times f a x == times f b x
theorem same_iff {a b : List α} : same f a b = true ↔ a.length = b.length ∧ ∀ x ∈ a, times f a x = times f b x := by
  unfold same
  simp
theorem pair_off (h : Cmp f) : ∀ (a b : List α), a.length = b.length → (∀ x ∈ a, times f a x = times f b x) → ∃ c, c.Perm b ∧ lex f a c = 0
  | [], b, hl, _ => by
    cases b with
    | nil => exact ⟨[], .refl _, rfl⟩
    | cons y s => simp at hl
  | x :: r, b, hl, hc => by
    have hx := hc x List.mem_cons_self
    have hpos : 0 < times f b x := by
      rw [← hx]
      unfold times
      rw [List.countP_cons]
      simp [h.self x]
    obtain ⟨y, hy, hyx⟩ := List.countP_pos_iff.1 hpos
    have hyx' : f y x = 0 := by simpa using hyx
    obtain ⟨s, t, rfl⟩ := List.append_of_mem hy
    have hp : (s ++ y :: t).Perm (y :: (s ++ t)) := List.perm_middle
    have hl2 : r.length = (s ++ t).length := by simp at hl ⊢; omega
    obtain ⟨c, hcp, hcl⟩ := pair_off h r (s ++ t) hl2 fun z hz => by
      have h1 := hc z (List.mem_cons_of_mem _ hz)
      rw [times_perm hp z] at h1
      unfold times at h1 ⊢
      rw [List.countP_cons, List.countP_cons] at h1
      have e := (h.eq_left (c := z) hyx').1
      have e2 : (decide (f x z = 0)) = (decide (f y z = 0)) := by simp [e]
      rw [e2] at h1
      omega
    refine ⟨y :: c, (hcp.cons y).trans hp.symm, ?_⟩
    rw [lex, if_pos (h.zero hyx')]
    exact hcl
/-- two lists put in order are the same just if the lists are the same bag -/
theorem same_ord (h : Cmp f) {a b sa sb : List α} (pa : sa.Perm a) (pb : sb.Perm b) (oa : Ord f sa) (ob : Ord f sb) : decide (lex f sa sb = 0) = same f a b := by
  have key : lex f sa sb = 0 ↔ same f a b = true := by
    rw [same_iff]
    constructor
    · intro e
      refine ⟨by rw [← pa.length_eq, ← pb.length_eq]; exact (lex_zero.1 e).1, fun x _ => ?_⟩
      rw [← times_perm pa, ← times_perm pb]
      exact times_lex h e x
    · rintro ⟨hl, hc⟩
      obtain ⟨c, hcp, hcl⟩ := pair_off h a b hl hc
      refine ord_same h oa ob (by rw [pa.length_eq, pb.length_eq]; exact hl) fun x => ?_
      rw [upTo_perm pa, upTo_lex h hcl, upTo_perm hcp, upTo_perm pb]
  rw [Bool.eq_iff_iff, decide_eq_true_iff]
  exact key
theorem same_symm (h : Cmp f) (a b : List α) : same f a b = same f b a := by
  have key : ∀ a b : List α, same f a b = true → same f b a = true := by
    intro a b e
    obtain ⟨hl, hc⟩ := same_iff.1 e
    obtain ⟨c, hcp, hcl⟩ := pair_off h a b hl hc
    refine same_iff.2 ⟨hl.symm, fun x _ => ?_⟩
    rw [times_lex h hcl, times_perm hcp]
  rw [Bool.eq_iff_iff]
  exact ⟨key a b, key b a⟩
theorem same_perm {a b : List α} (p : a.Perm b) : same f a b = true := same_iff.2 ⟨p.length_eq, fun x _ => times_perm p x⟩
end

/-- values compared -/
def cv (x y : Vl) : Int := if Va.same x.1 x.2 y.1 y.2 then 0 else if Va.less x.1 x.2 y.1 y.2 then -1 else 1
theorem cv_cmp : Cmp cv where
  neg := by
    rintro ⟨b, n⟩ ⟨c, m⟩
    cases b <;> cases c <;> simp [cv, Va.same, Va.less]
    split <;> split <;> (try split) <;> (try split) <;> omega
  trans := by
    rintro ⟨b, n⟩ ⟨c, m⟩ ⟨d, k⟩
    cases b <;> cases c <;> cases d <;> simp [cv, Va.same, Va.less]
    split <;> split <;> (try split) <;> (try split) <;> (try split) <;> (try split) <;> omega
/-- rows compared -/
def cr (r s : List Vl) : Int := lex cv r s
theorem cr_cmp : Cmp cr := lex_cmp cv_cmp
end Go.Proofs.YtdlmpaipphjdpaaDoor.Bg
