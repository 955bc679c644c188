/-
  WORDS: predicates and trees that lie in the blocks of a set; a tree with all within it, each with the slices of its cells.
-/
import Derived.Test.YteimbdklakemaaaGreatDoorTrfM
import Derived.Test.YteimbdklakemaaaGreatDoorIterM
namespace Go.Proofs.YteimbdklakemaaaGreatDoor
open Go.RowKit

theorem PdCell.at_block {w w' : World} {X : Addr} {f : Pf} {u : Value} (h : PdCell w X f u) (hb : w'.heap[X.block]? = w.heap[X.block]?) : PdCell w' X f u :=
  have k : ∀ n, w'.cell? ⟨X.block, n, none⟩ = w.cell? ⟨X.block, n, none⟩ := fun n => World.cell?_of_block (a := ⟨X.block, n, none⟩) hb
  ⟨(World.cell?_of_block hb).trans h.c0, (k _).trans h.c1, (k _).trans h.c2, (k _).trans h.c3, (k _).trans h.c4, (k _).trans h.c5, (k _).trans h.c6, (k _).trans h.c7, (k _).trans h.c8, (k _).trans h.c9, (k _).trans h.c10, (k _).trans h.c11, (k _).trans h.c12, (k _).trans h.c13⟩
theorem TrCell.at_block {w w' : World} {X : Addr} {a : Tr} {u v : Value} (h : TrCell w X a u v) (hb : w'.heap[X.block]? = w.heap[X.block]?) : TrCell w' X a u v :=
  have k : ∀ n, w'.cell? ⟨X.block, n, none⟩ = w.cell? ⟨X.block, n, none⟩ := fun n => World.cell?_of_block (a := ⟨X.block, n, none⟩) hb
  ⟨(World.cell?_of_block hb).trans h.c0, (k _).trans h.c1, (k _).trans h.c2, (k _).trans h.c3, (k _).trans h.c4⟩
/-- predicates in blocks of T -/
def PsOn (T : Nat → Prop) : Nat → World → Value → List Pd → Prop
  | 0, _, v, l => l = [] ∧ ∃ A c, v = .slice A 0 c
  | d + 1, w, v, l => ∃ A c, v = .slice A l.length c ∧ l.length ≤ 9223372036854775807 ∧ ∀ (j : Nat) (p : Pd), l[j]? = some p → ∃ b o s u, A = some ⟨b, o, s⟩ ∧ T b ∧ b < w.heap.size ∧ PdCell w ((⟨b, o, s⟩ : Addr).add (j * 14)) p.f u ∧ PsOn T d w u p.ps
theorem PsOn.at_ {T : Nat → Prop} {d : Nat} : ∀ {w : World} {v : Value} {l : List Pd}, PsOn T d w v l → PsAt d w v l := by
  induction d with
  | zero => intro w v l h; exact h
  | succ d ih =>
    intro w v l h
    obtain ⟨A, c, hv, hc, hx⟩ := h
    refine ⟨A, c, hv, hc, fun j p hj => ?_⟩
    obtain ⟨b, o, s, u, hA, _, hlt, hcell, hp⟩ := hx j p hj
    exact ⟨b, o, s, u, hA, hlt, hcell, ih hp⟩
theorem PsAt.on {T : Nat → Prop} {d : Nat} : ∀ {w : World} {v : Value} {l : List Pd}, PsAt d w v l → (∀ k, k < w.heap.size → T k) → PsOn T d w v l := by
  induction d with
  | zero => intro w v l h _; exact h
  | succ d ih =>
    intro w v l h ht
    obtain ⟨A, c, hv, hc, hx⟩ := h
    refine ⟨A, c, hv, hc, fun j p hj => ?_⟩
    obtain ⟨b, o, s, u, hA, hlt, hcell, hp⟩ := hx j p hj
    exact ⟨b, o, s, u, hA, ht b hlt, hlt, hcell, ih hp ht⟩
theorem PsOn.keep {T T' : Nat → Prop} {d : Nat} {w w' : World} (hs : w.heap.size ≤ w'.heap.size) (hb : ∀ k, T k → k < w.heap.size → w'.heap[k]? = w.heap[k]? ∧ T' k) : ∀ {v : Value} {l : List Pd}, PsOn T d w v l → PsOn T' d w' v l := by
  induction d with
  | zero => intro v l h; exact h
  | succ d ih =>
    intro v l h
    obtain ⟨A, c, hv, hc, hx⟩ := h
    refine ⟨A, c, hv, hc, fun j p hj => ?_⟩
    obtain ⟨b, o, s, u, hA, ht, hlt, hcell, hp⟩ := hx j p hj
    obtain ⟨h1, h2⟩ := hb b ht hlt
    exact ⟨b, o, s, u, hA, h2, Nat.lt_of_lt_of_le hlt hs, hcell.at_block (by rw [add_block]; exact h1), ih hp⟩
/-- trees in blocks of T -/
def TsOn (T : Nat → Prop) : Nat → World → Value → List Tr → Prop
  | 0, _, v, l => l = [] ∧ ∃ A c, v = .slice A 0 c
  | d + 1, w, v, l => ∃ A c, v = .slice A l.length c ∧ (l.length ≤ 9223372036854775807 ∧ l.length ≤ c) ∧ ∀ (j : Nat) (a : Tr), l[j]? = some a → ∃ b o s x y, A = some ⟨b, o, s⟩ ∧ T b ∧ b < w.heap.size ∧ TrCell w ((⟨b, o, s⟩ : Addr).add (j * 5)) a x y ∧ (∃ e, PsOn T e w y a.cs) ∧ TsOn T d w x a.ks
theorem TsOn.at_ {T : Nat → Prop} {d : Nat} : ∀ {w : World} {v : Value} {l : List Tr}, TsOn T d w v l → TsAt d w v l := by
  induction d with
  | zero => intro w v l h; exact h
  | succ d ih =>
    intro w v l h
    obtain ⟨A, c, hv, hc, hx⟩ := h
    refine ⟨A, c, hv, hc, fun j p hj => ?_⟩
    obtain ⟨b, o, s, x, y, hA, _, hlt, hcell, ⟨e, hp⟩, hk⟩ := hx j p hj
    exact ⟨b, o, s, x, y, hA, hlt, hcell, ⟨e, hp.at_⟩, ih hk⟩
theorem TsAt.on {T : Nat → Prop} {d : Nat} : ∀ {w : World} {v : Value} {l : List Tr}, TsAt d w v l → (∀ k, k < w.heap.size → T k) → TsOn T d w v l := by
  induction d with
  | zero => intro w v l h _; exact h
  | succ d ih =>
    intro w v l h ht
    obtain ⟨A, c, hv, hc, hx⟩ := h
    refine ⟨A, c, hv, hc, fun j p hj => ?_⟩
    obtain ⟨b, o, s, x, y, hA, hlt, hcell, ⟨e, hp⟩, hk⟩ := hx j p hj
    exact ⟨b, o, s, x, y, hA, ht b hlt, hlt, hcell, ⟨e, hp.on ht⟩, ih hk ht⟩
theorem TsOn.keep {T T' : Nat → Prop} {d : Nat} {w w' : World} (hs : w.heap.size ≤ w'.heap.size) (hb : ∀ k, T k → k < w.heap.size → w'.heap[k]? = w.heap[k]? ∧ T' k) : ∀ {v : Value} {l : List Tr}, TsOn T d w v l → TsOn T' d w' v l := by
  induction d with
  | zero => intro v l h; exact h
  | succ d ih =>
    intro v l h
    obtain ⟨A, c, hv, hc, hx⟩ := h
    refine ⟨A, c, hv, hc, fun j p hj => ?_⟩
    obtain ⟨b, o, s, x, y, hA, ht, hlt, hcell, ⟨e, hp⟩, hk⟩ := hx j p hj
    obtain ⟨h1, h2⟩ := hb b ht hlt
    exact ⟨b, o, s, x, y, hA, h2, Nat.lt_of_lt_of_le hlt hs, hcell.at_block (by rw [add_block]; exact h1), ⟨e, hp.keep hs hb⟩, ih hk⟩
theorem TsOn.more {T : Nat → Prop} {d : Nat} : ∀ {w : World} {v : Value} {l : List Tr}, TsOn T d w v l → TsOn T (d + 1) w v l := by
  induction d with
  | zero =>
    intro w v l h
    obtain ⟨rfl, A, c, rfl⟩ := h
    exact ⟨A, c, rfl, by simp, fun j a hj => by simp at hj⟩
  | succ d ih =>
    intro w v l h
    obtain ⟨A, c, hv, hc, hx⟩ := h
    refine ⟨A, c, hv, hc, fun j a hj => ?_⟩
    obtain ⟨b, o, s, x, y, hA, ht, hlt, hcell, hp, hk⟩ := hx j a hj
    exact ⟨b, o, s, x, y, hA, ht, hlt, hcell, hp, ih hk⟩
theorem TsOn.mono {T : Nat → Prop} {d e : Nat} {w : World} {v : Value} {l : List Tr} (h : TsOn T d w v l) (hd : d ≤ e) : TsOn T e w v l := by
  induction hd with
  | refl => exact h
  | step _ ih => exact ih.more
/-- all that hangs from a tree's cells lies in blocks of T -/
def TrOn (T : Nat → Prop) (w : World) (x : TrV) : Prop := (∃ d, TsOn T d w x.2.1 x.1.ks) ∧ ∃ d, PsOn T d w x.2.2 x.1.cs
theorem TrOn.hang {T : Nat → Prop} {w : World} {x : TrV} (h : TrOn T w x) : TrHang w x := by
  obtain ⟨⟨d, h1⟩, e, h2⟩ := h
  exact ⟨⟨d, h1.at_⟩, e, h2.at_⟩
theorem TrHang.on {T : Nat → Prop} {w : World} {x : TrV} (h : TrHang w x) (ht : ∀ k, k < w.heap.size → T k) : TrOn T w x := by
  obtain ⟨⟨d, h1⟩, e, h2⟩ := h
  exact ⟨⟨d, h1.on ht⟩, e, h2.on ht⟩
theorem TrOn.keep {T T' : Nat → Prop} {w w' : World} {x : TrV} (h : TrOn T w x) (hs : w.heap.size ≤ w'.heap.size) (hb : ∀ k, T k → k < w.heap.size → w'.heap[k]? = w.heap[k]? ∧ T' k) : TrOn T' w' x := by
  obtain ⟨⟨d, h1⟩, e, h2⟩ := h
  exact ⟨⟨d, h1.keep hs hb⟩, e, h2.keep hs hb⟩
/-- the tree's value -/
abbrev trV (x : TrV) : Value := .agg #[.int .i64 x.1.k, .int .i64 x.1.t, x.2.1, x.2.2, .bool x.1.h]
/-- cell i of the j-th tree of the slice u, as w reads it -/
def kidAt (w : World) (u : Value) (j i : Nat) : Value :=
  match u with
  | .slice (some A) _ _ => (w.cell? ⟨(A.add (j * 5)).block, (A.add (j * 5)).off + i, none⟩).getD undef
  | _ => undef
mutual
/-- a tree and all within it, kids ahead, each with the slices of its cells -/
def Tr.flat (w : World) : Tr → Value → Value → List TrV
  | .mk k t h cs ks, u, v => Tr.flats w ks u 0 ++ [(.mk k t h cs ks, u, v)]
def Tr.flats (w : World) : List Tr → Value → Nat → List TrV
  | [], _, _ => []
  | b :: r, u, j => Tr.flat w b (kidAt w u j 2) (kidAt w u j 3) ++ Tr.flats w r u (j + 1)
end
theorem Tr.flat_at (w : World) (a : Tr) (u v : Value) : Tr.flat w a u v = Tr.flats w a.ks u 0 ++ [(a, u, v)] := by cases a; rw [Tr.flat]; rfl
theorem Tr.flats_snoc (w : World) (l : List Tr) (b : Tr) (u : Value) : ∀ j, Tr.flats w (l ++ [b]) u j = Tr.flats w l u j ++ Tr.flat w b (kidAt w u (j + l.length) 2) (kidAt w u (j + l.length) 3) := by
  induction l with
  | nil => intro j; rw [List.nil_append, Tr.flats, Tr.flats, Tr.flats, List.append_nil, List.nil_append]; rfl
  | cons a r ih =>
    intro j
    rw [List.cons_append, Tr.flats, Tr.flats, ih, List.append_assoc, List.length_cons, show j + 1 + r.length = j + (r.length + 1) by omega]
theorem Tr.flats_take (w : World) {l : List Tr} {q : Nat} {b : Tr} (h : l[q]? = some b) (u : Value) : Tr.flats w (l.take (q + 1)) u 0 = Tr.flats w (l.take q) u 0 ++ Tr.flat w b (kidAt w u q 2) (kidAt w u q 3) := by
  have hq : q < l.length := (List.getElem?_eq_some_iff.1 h).1
  rw [List.take_add_one, h]
  show Tr.flats w (l.take q ++ [b]) u 0 = _
  rw [Tr.flats_snoc, List.length_take, Nat.zero_add, Nat.min_eq_left (Nat.le_of_lt hq)]
theorem Tr.flats_split (w : World) {l : List Tr} {q : Nat} {b : Tr} (h : l[q]? = some b) (u : Value) : ∃ r, Tr.flats w l u 0 = Tr.flats w (l.take q) u 0 ++ (Tr.flat w b (kidAt w u q 2) (kidAt w u q 3) ++ r) := by
  have key : ∀ (l : List Tr) (q j : Nat), ∃ r, Tr.flats w l u j = Tr.flats w (l.take q) u j ++ r := by
    intro l
    induction l with
    | nil => intro q j; exact ⟨[], by simp [Tr.flats]⟩
    | cons a s ih =>
      intro q j
      cases q with
      | zero => exact ⟨_, by rw [List.take_zero, Tr.flats.eq_1, List.nil_append]⟩
      | succ q =>
        obtain ⟨r, hr⟩ := ih q (j + 1)
        exact ⟨r, by rw [List.take_succ_cons, Tr.flats, Tr.flats, hr, List.append_assoc]⟩
  obtain ⟨r, hr⟩ := key l (q + 1) 0
  exact ⟨r, by rw [hr, Tr.flats_take w h, List.append_assoc]⟩
/-- one of the trees, as a world that has them where they lay reads it -/
theorem TsOn.one {T : Nat → Prop} {d : Nat} {w : World} {A : Option Addr} {c : Nat} {l : List Tr} {j : Nat} {a : Tr} (h : TsOn T d w (.slice A l.length c) l) (hj : l[j]? = some a) :
    ∃ e b o s x y, e < d ∧ A = some ⟨b, o, s⟩ ∧ T b ∧ b < w.heap.size ∧ x = kidAt w (.slice A l.length c) j 2 ∧ y = kidAt w (.slice A l.length c) j 3 ∧ TrCell w ((⟨b, o, s⟩ : Addr).add (j * 5)) a x y ∧ (∃ e, PsOn T e w y a.cs) ∧ TsOn T e w x a.ks := by
  cases d with
  | zero => obtain ⟨rfl, _⟩ := h; simp at hj
  | succ d =>
    obtain ⟨A', c', hv, _, hx⟩ := h
    cases hv
    obtain ⟨b, o, s, x, y, rfl, ht, hlt, hcell, hp, hk⟩ := hx j a hj
    refine ⟨d, b, o, s, x, y, Nat.lt_succ_self d, rfl, ht, hlt, ?_, ?_, hcell, hp, hk⟩
    · have := hcell.c2
      simp only [kidAt]
      rw [this]; rfl
    · have := hcell.c3
      simp only [kidAt]
      rw [this]; rfl
theorem Tr.flat_fst (w : World) (a : Tr) : ∀ u v, (Tr.flat w a u v).map (·.1) = Tr.all a := by
  refine Tr.ind (P := fun a => ∀ u v, (Tr.flat w a u v).map (·.1) = Tr.all a) (fun a ih => ?_) a
  intro u v
  rw [Tr.flat_at, Tr.all_at, List.map_append]
  have key : ∀ (l : List Tr), (∀ b ∈ l, ∀ u v, (Tr.flat w b u v).map (·.1) = Tr.all b) → ∀ j, (Tr.flats w l u j).map (·.1) = Tr.alls l := by
    intro l
    induction l with
    | nil => intro _ j; rw [Tr.flats, Tr.alls]; rfl
    | cons b r ih2 =>
      intro hl j
      rw [Tr.flats, Tr.alls, List.map_append, hl b List.mem_cons_self, ih2 fun c hc => hl c (List.mem_cons_of_mem _ hc)]
  rw [key a.ks ih]
  rfl
theorem Tr.flat_on {T : Nat → Prop} (w : World) (a : Tr) : ∀ u v, TrOn T w (a, u, v) → ∀ x ∈ Tr.flat w a u v, TrOn T w x := by
  refine Tr.ind (P := fun a => ∀ u v, TrOn T w (a, u, v) → ∀ x ∈ Tr.flat w a u v, TrOn T w x) (fun a ih => ?_) a
  intro u v h x hx
  rw [Tr.flat_at, List.mem_append, List.mem_singleton] at hx
  rcases hx with hx | rfl
  · obtain ⟨⟨d, hu⟩, _⟩ := h
    obtain ⟨A, c, hA, _⟩ := hu.at_.form
    change u = .slice A a.ks.length c at hA
    subst hA
    have key : ∀ (q : Nat), q ≤ a.ks.length → ∀ x ∈ Tr.flats w (a.ks.take q) (.slice A a.ks.length c) 0, TrOn T w x := by
      intro q
      induction q with
      | zero => intro _ x hx; rw [List.take_zero, Tr.flats] at hx; simp at hx
      | succ q ihq =>
        intro hq x hx
        have hb : a.ks[q]? = some (a.ks[q]'(by omega)) := List.getElem?_eq_getElem _
        rw [Tr.flats_take w hb, List.mem_append] at hx
        rcases hx with hx | hx
        · exact ihq (by omega) x hx
        · obtain ⟨e, _, _, _, _, _, _, _, _, _, hx2, hy2, _, hp, hk⟩ := hu.one hb
          rw [← hx2, ← hy2] at hx
          exact ih _ (List.getElem_mem _) _ _ ⟨⟨e, hk⟩, hp⟩ x hx
    exact key a.ks.length (Nat.le_refl _) x (by rw [List.take_length]; exact hx)
  · exact h
end Go.Proofs.YteimbdklakemaaaGreatDoor
