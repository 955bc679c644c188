/-
  LAID TOGETHER, BY PROGRAM, of: Srt, Bgm, Bga, Bgr.
-/
import Derived.Test.YtpaaibghfhnicaaGreatDoorGPlain
import Derived.Test.YtpaaibghfhnicaaGreatDoorGBase
import Init
import Derived.Lib.QuietBelow
import Derived.BigQuiet
import Derived.Deep.Cut
/-
  SORTED LISTS, by a comparison that tells a number (below 0: ahead): insertion; a search by halves; two sorted lists merged by a rotation and two lesser merges. Plain mathematics.
-/
namespace Go.Proofs.YtpaaibghfhnicaaGreatDoor.So

structure Pre {α : Type} (cm : α → α → Int) : Prop where
  asym : ∀ a b, cm a b < 0 → ¬ cm b a < 0
  trans : ∀ a b c, ¬ cm b a < 0 → ¬ cm c b < 0 → ¬ cm c a < 0
def Le {α : Type} (cm : α → α → Int) (a b : α) : Prop := ¬ cm b a < 0
def Ord {α : Type} (cm : α → α → Int) (l : List α) : Prop := l.Pairwise (Le cm)
section
variable {α : Type} {cm : α → α → Int}
theorem Pre.refl (h : Pre cm) (a : α) : Le cm a a := fun g => h.asym a a g g
theorem Le.trans (h : Pre cm) {a b c : α} (x : Le cm a b) (y : Le cm b c) : Le cm a c := h.trans a b c x y
theorem lt_le (h : Pre cm) {a b c : α} (x : cm a b < 0) (y : Le cm b c) : cm a c < 0 := Classical.byContradiction fun n => h.trans b c a y n x
theorem le_lt (h : Pre cm) {a b c : α} (x : Le cm a b) (y : cm b c < 0) : cm a c < 0 := Classical.byContradiction fun n => h.trans c a b n x y
theorem Ord.nil : Ord cm ([] : List α) := List.Pairwise.nil
theorem Ord.one (a : α) : Ord cm [a] := List.pairwise_singleton _ _
theorem Ord.append {l m : List α} : Ord cm (l ++ m) ↔ Ord cm l ∧ Ord cm m ∧ ∀ a ∈ l, ∀ b ∈ m, Le cm a b := List.pairwise_append
theorem Ord.at_ (hp : Pre cm) {l : List α} (h : Ord cm l) {i j : Nat} {x y : α} (hij : i ≤ j) (hi : l[i]? = some x) (hj : l[j]? = some y) : Le cm x y := by
  rcases Nat.lt_or_ge i j with g | g
  · obtain ⟨h1, rfl⟩ := List.getElem?_eq_some_iff.1 hi
    obtain ⟨h2, rfl⟩ := List.getElem?_eq_some_iff.1 hj
    exact List.pairwise_iff_getElem.1 h i j h1 h2 g
  · have : i = j := by omega
    subst this
    rw [hi] at hj
    cases hj
    exact hp.refl x
theorem Ord.of_at {l : List α} (h : ∀ (i j : Nat) (x y : α), i < j → l[i]? = some x → l[j]? = some y → Le cm x y) : Ord cm l :=
  List.pairwise_iff_getElem.2 fun i j hi hj g => h i j _ _ g (List.getElem?_eq_getElem hi) (List.getElem?_eq_getElem hj)
theorem Ord.take {l : List α} (h : Ord cm l) (n : Nat) : Ord cm (l.take n) := h.sublist (List.take_sublist n l)
theorem Ord.drop {l : List α} (h : Ord cm l) (n : Nat) : Ord cm (l.drop n) := h.sublist (List.drop_sublist n l)

theorem merged (hp : Pre cm) {U V R1 R2 : List α} {i j : Nat} (hU : Ord cm U) (hV : Ord cm V) (hi : i ≤ U.length) (hj : j ≤ V.length)
    (h1 : ∀ x y, 0 < i → U[i - 1]? = some x → V[j]? = some y → Le cm x y) (h2 : ∀ x y, 0 < j → V[j - 1]? = some x → U[i]? = some y → Le cm x y)
    (p1 : R1.Perm (U.take i ++ V.take j)) (p2 : R2.Perm (U.drop i ++ V.drop j)) (o1 : Ord cm R1) (o2 : Ord cm R2) : Ord cm (R1 ++ R2) ∧ (R1 ++ R2).Perm (U ++ V) := by
  refine ⟨Ord.append.2 ⟨o1, o2, fun a ha b hb => ?_⟩, ?_⟩
  · have a1 := List.mem_append.1 (p1.mem_iff.1 ha)
    have b1 := List.mem_append.1 (p2.mem_iff.1 hb)
    have tk : ∀ (l : List α) (n : Nat), a ∈ l.take n → ∃ k, k < n ∧ l[k]? = some a := by
      intro l n h
      obtain ⟨k, hk, rfl⟩ := List.mem_iff_getElem.1 h
      rw [List.length_take] at hk
      exact ⟨k, by omega, by rw [List.getElem_take]; exact List.getElem?_eq_getElem _⟩
    have dr : ∀ (l : List α) (n : Nat), b ∈ l.drop n → ∃ k, n ≤ k ∧ l[k]? = some b := by
      intro l n h
      obtain ⟨k, hk, rfl⟩ := List.mem_iff_getElem.1 h
      rw [List.length_drop] at hk
      exact ⟨n + k, by omega, by rw [List.getElem_drop]; exact List.getElem?_eq_getElem _⟩
    have lt_len : ∀ {l : List α} {k : Nat} {z : α}, l[k]? = some z → k < l.length := fun h => (List.getElem?_eq_some_iff.1 h).1
    rcases a1 with ha | ha <;> rcases b1 with hb | hb
    · obtain ⟨k, hk, hka⟩ := tk U i ha
      obtain ⟨m, hm, hmb⟩ := dr U i hb
      exact hU.at_ hp (by omega) hka hmb
    · obtain ⟨k, hk, hka⟩ := tk U i ha
      obtain ⟨m, hm, hmb⟩ := dr V j hb
      have := lt_len hmb
      have e1 : U[i - 1]? = some (U[i - 1]'(by omega)) := List.getElem?_eq_getElem _
      have e2 : V[j]? = some (V[j]'(by omega)) := List.getElem?_eq_getElem _
      exact Le.trans hp (Le.trans hp (hU.at_ hp (by omega) hka e1) (h1 _ _ (by omega) e1 e2)) (hV.at_ hp hm e2 hmb)
    · obtain ⟨k, hk, hka⟩ := tk V j ha
      obtain ⟨m, hm, hmb⟩ := dr U i hb
      have := lt_len hmb
      have e1 : V[j - 1]? = some (V[j - 1]'(by omega)) := List.getElem?_eq_getElem _
      have e2 : U[i]? = some (U[i]'(by omega)) := List.getElem?_eq_getElem _
      exact Le.trans hp (Le.trans hp (hV.at_ hp (by omega) hka e1) (h2 _ _ (by omega) e1 e2)) (hU.at_ hp hm e2 hmb)
    · obtain ⟨k, hk, hka⟩ := tk V j ha
      obtain ⟨m, hm, hmb⟩ := dr V j hb
      exact hV.at_ hp (by omega) hka hmb
  · refine (p1.append p2).trans ?_
    have e : (U.take i ++ V.take j ++ (U.drop i ++ V.drop j)).Perm ((U.take i ++ U.drop i) ++ (V.take j ++ V.drop j)) := by
      rw [List.append_assoc, List.append_assoc]
      refine List.Perm.append_left _ ?_
      rw [← List.append_assoc, ← List.append_assoc]
      exact List.Perm.append_right _ List.perm_append_comm
    rw [List.take_append_drop, List.take_append_drop] at e
    exact e

structure Half (p : Nat → Prop) (lo hi i j : Nat) : Prop where
  l : lo ≤ i
  m : i ≤ j
  h : j ≤ hi
  yes : ∀ k, lo ≤ k → k < i → p k
  no : ∀ k, j ≤ k → k < hi → ¬ p k
def Falls (p : Nat → Prop) (lo hi : Nat) : Prop := ∀ k h, lo ≤ k → k ≤ h → h < hi → p h → p k
theorem Half.up {p : Nat → Prop} {lo hi i j c : Nat} (h : Half p lo hi i j) (hf : Falls p lo hi) (h1 : i ≤ c) (h2 : c < j) (hc : p c) : Half p lo hi (c + 1) j :=
  ⟨by have := h.l; omega, by omega, h.h, fun k a b => hf k c a (by omega) (by have := h.h; omega) hc, h.no⟩
end
end Go.Proofs.YtpaaibghfhnicaaGreatDoor.So

/-
  ROWS AND BAGS OF ROWS, compared. Plain mathematics.
-/
namespace Go.Proofs.YtpaaibghfhnicaaGreatDoor.Bg
open So

def lex {α : Type} (f : α → α → Int) : List α → List α → Int
  | [], [] => 0
  | [], _ :: _ => -1
  | _ :: _, [] => 1
  | x :: r, y :: s => if f x y = 0 then lex f r s else f x y
structure Cmp {α : Type} (f : α → α → Int) : Prop where
  neg : ∀ a b, f a b < 0 ↔ 0 < f b a
  trans : ∀ a b c, f a b ≤ 0 → f b c ≤ 0 → f a c ≤ 0
section
variable {α : Type} {f : α → α → Int}
theorem Cmp.zero (h : Cmp f) {a b : α} (g : f a b = 0) : f b a = 0 := by have h1 := h.neg a b; have h2 := h.neg b a; omega
theorem Cmp.self (h : Cmp f) (a : α) : f a a = 0 := by have h1 := h.neg a a; omega
theorem Cmp.lt_le (h : Cmp f) {a b c : α} (x : f a b < 0) (y : f b c ≤ 0) : f a c < 0 := by
  have h1 := h.trans a b c (by omega) y
  rcases Int.lt_or_eq_of_le h1 with g | g
  · exact g
  · have h2 := h.trans b c a y (by have := h.zero g; omega)
    have h3 := (h.neg a b).1 x
    omega
theorem Cmp.le_lt (h : Cmp f) {a b c : α} (x : f a b ≤ 0) (y : f b c < 0) : f a c < 0 := by
  have h1 := h.trans a b c x (by omega)
  rcases Int.lt_or_eq_of_le h1 with g | g
  · exact g
  · have h2 := h.trans c a b (by have := h.zero g; omega) x
    have h3 := (h.neg b c).1 y
    omega
theorem Cmp.pre (h : Cmp f) : Pre f where
  asym a b g := by have := (h.neg a b).1 g; omega
  trans a b c x y := by
    have h1 := h.neg b a
    have h2 := h.neg c b
    have h3 := h.neg c a
    have h4 := h.trans a b c (by omega) (by omega)
    omega
theorem Cmp.eq_left (h : Cmp f) {a b c : α} (g : f a b = 0) : (f a c = 0 ↔ f b c = 0) ∧ (f a c < 0 ↔ f b c < 0) := by
  have g' := h.zero g
  have n1 := h.neg a c
  have n2 := h.neg b c
  have n3 := h.neg c a
  have n4 := h.neg c b
  have p1 : f a c ≤ 0 → f b c ≤ 0 := fun x => h.trans b a c (by omega) x
  have p2 : f b c ≤ 0 → f a c ≤ 0 := fun x => h.trans a b c (by omega) x
  have q1 : f a c < 0 → f b c < 0 := fun x => h.le_lt (by omega) x
  have q2 : f b c < 0 → f a c < 0 := fun x => h.le_lt (by omega) x
  omega
theorem lex_cmp (h : Cmp f) : Cmp (lex f) where
  neg a b := by
    induction a generalizing b with
    | nil => cases b <;> simp [lex]
    | cons x r ih =>
      cases b with
      | nil => simp [lex]
      | cons y s =>
        simp only [lex]
        by_cases g : f x y = 0
        · rw [if_pos g, if_pos (h.zero g)]; exact ih s
        · rw [if_neg g, if_neg (fun e => g (h.zero e))]; exact h.neg x y
  trans a b c := by
    induction a generalizing b c with
    | nil => cases b <;> cases c <;> simp [lex]
    | cons x r ih =>
      cases b with
      | nil => simp [lex]
      | cons y s =>
        cases c with
        | nil => simp [lex]
        | cons z t =>
          simp only [lex]
          intro h1 h2
          by_cases g1 : f x y = 0
          · rw [if_pos g1] at h1
            by_cases g2 : f y z = 0
            · rw [if_pos g2] at h2
              rw [if_pos ((h.eq_left g1).1.2 g2)]
              exact ih s t h1 h2
            · rw [if_neg g2] at h2
              have h3 : f x z < 0 := h.le_lt (b := y) (by omega) (by omega)
              rw [if_neg (by omega)]
              omega
          · rw [if_neg g1] at h1
            by_cases g2 : f y z = 0
            · have h3 : f x z < 0 := h.lt_le (b := y) (by omega) (by omega)
              rw [if_neg (by omega)]
              omega
            · rw [if_neg g2] at h2
              have h3 : f x z < 0 := h.lt_le (b := y) (by omega) h2
              rw [if_neg (by omega)]
              omega
theorem lex_zero {a b : List α} : lex f a b = 0 ↔ a.length = b.length ∧ ∀ (j : Nat) (x y : α), a[j]? = some x → b[j]? = some y → f x y = 0 := by
  induction a generalizing b with
  | nil => cases b <;> simp [lex]
  | cons x r ih =>
    cases b with
    | nil => simp [lex]
    | cons y s =>
      simp only [lex, List.length_cons]
      by_cases g : f x y = 0
      · rw [if_pos g, ih]
        constructor
        · rintro ⟨h1, h2⟩
          refine ⟨by omega, fun j u v hu hv => ?_⟩
          cases j with
          | zero => simp at hu hv; subst hu; subst hv; exact g
          | succ j => exact h2 j u v (by simpa using hu) (by simpa using hv)
        · rintro ⟨h1, h2⟩
          exact ⟨by omega, fun j u v hu hv => h2 (j + 1) u v (by simpa using hu) (by simpa using hv)⟩
      · rw [if_neg g]
        constructor
        · intro e; exact absurd e g
        · rintro ⟨_, h2⟩; exact h2 0 x y rfl rfl

def times (f : α → α → Int) (l : List α) (x : α) : Nat := l.countP fun y => decide (f y x = 0)
def same (f : α → α → Int) (a b : List α) : Bool := a.length == b.length && a.all fun x => times f a x == times f b x
end

def cv (x y : Vl) : Int := if Va.same x.1 x.2 y.1 y.2 then 0 else if Va.less x.1 x.2 y.1 y.2 then -1 else 1
theorem cv_cmp : Cmp cv where
  neg := by
    rintro ⟨b, n⟩ ⟨c, m⟩
    cases b <;> cases c <;> simp [cv, Va.same, Va.less]
    split <;> split <;> (try split) <;> (try split) <;> omega
  trans := by
    rintro ⟨b, n⟩ ⟨c, m⟩ ⟨d, k⟩
    cases b <;> cases c <;> cases d <;> simp [cv, Va.same, Va.less]
    split <;> split <;> (try split) <;> (try split) <;> (try split) <;> (try split) <;> omega
def cr (r s : List Vl) : Int := lex cv r s
theorem cr_cmp : Cmp cr := lex_cmp cv_cmp
end Go.Proofs.YtpaaibghfhnicaaGreatDoor.Bg

/-
  PACKAGE bag's COMPARISONS: of two values, of two lengths, of two rows; and the document's.
-/
namespace Go.Proofs.YtpaaibghfhnicaaGreatDoor
open Go.RowKit Go.Sort
set_option maxHeartbeats 1600000

theorem RwsOf.pick {w : World} {A : Option Addr} {c n : Nat} {vs : List Value} {r : List (List Vl)} {j : Nat} {x : List Vl} (h : RwsOf w (.slice A n c) vs r) (hj : r[j]? = some x) :
    ∃ b o p, ∃ e : Value, A = some ⟨b, o, p⟩ ∧ ∀ W, Below w.heap.size w W → W.cell? ((⟨b, o, p⟩ : Addr).add j) = some e ∧ RowAt W e x := by
  obtain ⟨u, hu, hrow⟩ := h.row j x hj
  obtain ⟨A', c', hv, _, hx⟩ := h.sl
  cases hv
  obtain ⟨b, o, p, hA, hlt, hc⟩ := hx j u hu
  exact ⟨b, o, p, u, hA, fun W hb => ⟨(hb.cell (by rw [add_block]; exact hlt)).trans hc, hrow.below hb (Nat.le_refl _)⟩⟩
end Go.Proofs.YtpaaibghfhnicaaGreatDoor

/-
  THE DOCUMENT's ANSWERS OF LAYER 9 (but Sorted), bag's Times, and which lists are few.
-/
namespace Go.Proofs.YtpaaibghfhnicaaGreatDoor
open Go.RowKit Go.Sort
set_option maxHeartbeats 1600000

theorem Bg.cv_zero (x y : Vl) : decide (Bg.cv x y = 0) = Va.same x.1 x.2 y.1 y.2 := by
  unfold Bg.cv
  cases Va.same x.1 x.2 y.1 y.2 <;> cases Va.less x.1 x.2 y.1 y.2 <;> simp
theorem Bg.lex_no {α : Type} {f : α → α → Int} {a b : List α} (h : a.length ≠ b.length) : Bg.lex f a b ≠ 0 := fun e => h (Bg.lex_zero.1 e).1
set_option maxRecDepth 100000 in
theorem r9same_any (u v : Value) (r s : List Vl) (w : World) (hu : RowAt w u r) (hv : RowAt w v s) (hr : r.length ≤ 4611686018427387904) (hs : s.length ≤ 4611686018427387904) :
    Calls Tryz.prog 32 #[u, v] w fun e w' => e = .returned (.bool (decide (Bg.cr r s = 0))) ∧ Below w.heap.size w w' := by
  obtain ⟨A, c, rfl, _, _⟩ := id hu
  obtain ⟨A', c', rfl, _, _⟩ := id hv
  have hpu := fun (j : Nat) (x : Vl) (hj : r[j]? = some x) => hu.pair hj
  have hpv := fun (j : Nat) (x : Vl) (hj : s[j]? = some x) => hv.pair hj
  have HU := Lib.hid hpu
  have HV := Lib.hid hpv
  obtain ⟨n, hn⟩ : ∃ n, n = r.length := ⟨_, rfl⟩
  obtain ⟨m, hm⟩ : ∃ m, m = s.length := ⟨_, rfl⟩
  rw [← hn] at hr ⊢
  rw [← hm] at hs ⊢
  have HN := Lib.hid (And.intro hn hm)
  clear hpu hpv hu hv hn hm
  by_cases hnm : n = m
  · subst hnm
    have hS := Below.refl w.heap.size w
    go_enter Tryz.func32, Tryz.ntmps32
    go_wp2_with (fail)
    go_loopw [5] (fun i wr => ∃ (k : Nat), k ≤ n ∧ i = .int .i64 k ∧ Hid (∀ j x y, j < k → r[j]? = some x → s[j]? = some y → Bg.cv x y = 0) ∧ Below w.heap.size w wr) (fun i _ => n - (intOf i).toNat)
    case atStart => exact ⟨0, Nat.zero_le _, rfl, Lib.hid fun j x y h => by omega, hS⟩
    case round =>
     obtain ⟨k, hk, rfl, hz, hb⟩ := hrel
     by_cases hlt : k < n
     · obtain ⟨x, gx⟩ : ∃ x, r[k]? = some x := ⟨r[k]'(by have := HN.out; omega), List.getElem?_eq_getElem _⟩
       obtain ⟨y, gy⟩ : ∃ y, s[k]? = some y := ⟨s[k]'(by have := HN.out; omega), List.getElem?_eq_getElem _⟩
       obtain ⟨b1, o1, p1, rfl, hl1, h1⟩ := HU.out k x gx
       obtain ⟨b2, o2, p2, rfl, hl2, h2⟩ := HV.out k y gy
       have i1 : (0 : Int) ≤ (k : Int) := by omega
       have i2 : (k : Int) < (n : Int) := by omega
       have y1 := cell_regrown (h1 wr hb).1
       have y2 := cell_regrown (h1 wr hb).2
       have y3 := cell_regrown (h2 wr hb).1
       have y4 := cell_regrown (h2 wr hb).2
       obtain ⟨d, hd⟩ : ∃ d : Bool, d = decide (Bg.cv x y = 0) := ⟨_, rfl⟩
       have cc := in_class (W0 := wr) fun W _ => rsame_any x.1 y.1 x.2 y.2 W
       rw [← Bg.cv_zero, ← hd] at cc
       have HD := Lib.hid hd
       have GX := Lib.hid gx
       have GY := Lib.hid gy
       clear h1 h2 gx gy hd
       go_wp2_with (fail)
       refine wp_region_quiet_below (by kernel_rfl) (by kernel_rfl) ?_
       repeat (go_big_quiet_step (with_reducible exact cc _ _))
       refine wpQuiet_nil ?_
       intro _ hw'
       obtain ⟨⟨dq, osq⟩, hw''⟩ := hw'
       subst hw''
       have hb2 := below_join hb (below_regrown wr dq osq)
       clear y1 y2 y3 y4 i1 i2 hb cc
       generalize grow (redrawn wr dq) osq = w7 at hb2 ⊢
       cases d
       · have hres : Hid (false = decide (Bg.cr r s = 0)) := Lib.hid (by
           symm
           rw [decide_eq_false_iff_not]
           intro e
           have h := HD.out
           rw [(Bg.lex_zero.1 e).2 k x y GX.out GY.out] at h
           simp at h)
         go_wp2_with (fail)
         go_ret
         exact ⟨ret_bool hres.out, hb2⟩
       · have hz2 : Hid (∀ j x y, j < k + 1 → r[j]? = some x → s[j]? = some y → Bg.cv x y = 0) := Lib.hid fun j x' y' hj hx hy => by
           rcases Nat.lt_or_eq_of_le (Nat.le_of_lt_succ hj) with g | g
           · exact hz.out j x' y' g hx hy
           · subst g
             rw [GX.out] at hx; rw [GY.out] at hy
             cases hx; cases hy
             simpa using HD.out.symm
         go_wp2_with (fail)
         go_roundw
         case rel => exact ⟨k + 1, by omega, by go_num, hz2, hb2⟩
         case measure => simp [intOf]; omega
     · have hres : Hid (true = decide (Bg.cr r s = 0)) := Lib.hid (by
         symm
         rw [decide_eq_true_iff]
         obtain ⟨h1, h2⟩ := HN.out
         exact Bg.lex_zero.2 ⟨by omega, fun j x y hx hy => hz.out j x y (by have := (List.getElem?_eq_some_iff.1 hx).1; omega) hx hy⟩)
       go_wp2_with (fail)
       go_ret
       exact ⟨ret_bool hres.out, hb⟩
  · have hnm2 : ((n : Int) != (m : Int)) = true := by simpa using fun h => hnm (by omega)
    have hnm3 : ¬ ((n : Int) = (m : Int)) := fun h => hnm (by omega)
    have hres : Hid (false = decide (Bg.cr r s = 0)) := Lib.hid (by
      symm
      rw [decide_eq_false_iff_not]
      obtain ⟨h1, h2⟩ := HN.out
      exact Bg.lex_no (by omega))
    clear hnm
    go_enter Tryz.func32, Tryz.ntmps32
    go_wp2_with (fail)
    go_ret
    exact ⟨ret_bool hres.out, Below.refl _ _⟩
set_option maxRecDepth 100000 in
theorem r9list_any (u v : Value) (vs us : List Value) (r s : List (List Vl)) (w : World) (hu : RwsOf w u vs r) (hv : RwsOf w v us s) (hr2 : ∀ x ∈ r, x.length ≤ 4611686018427387904) (hs2 : ∀ x ∈ s, x.length ≤ 4611686018427387904) (hr : r.length ≤ 4611686018427387904) (hs : s.length ≤ 4611686018427387904) :
    Calls Tryz.prog 13 #[u, v] w fun e w' => e = .returned (.bool (decide (Bg.lex Bg.cr r s = 0))) ∧ Below w.heap.size w w' := by
  obtain ⟨A, c, rfl, _, _⟩ := Rws.at_ ⟨vs, hu⟩
  obtain ⟨A', c', rfl, _, _⟩ := Rws.at_ ⟨us, hv⟩
  have hpu := fun (j : Nat) (x : List Vl) (hj : r[j]? = some x) => hu.pick hj
  have HR2 := Lib.hid hr2
  have hpv := fun (j : Nat) (x : List Vl) (hj : s[j]? = some x) => hv.pick hj
  have HS2 := Lib.hid hs2
  clear hr2 hs2
  have HU := Lib.hid hpu
  have HV := Lib.hid hpv
  obtain ⟨n, hn⟩ : ∃ n, n = r.length := ⟨_, rfl⟩
  obtain ⟨m, hm⟩ : ∃ m, m = s.length := ⟨_, rfl⟩
  rw [← hn] at hr ⊢
  rw [← hm] at hs ⊢
  have HN := Lib.hid (And.intro hn hm)
  clear hpu hpv hu hv hn hm
  by_cases hnm : n = m
  · subst hnm
    have hS := Below.refl w.heap.size w
    go_enter Tryz.func13, Tryz.ntmps13
    go_wp2_with (fail)
    go_loopw [5] (fun i wr => ∃ (k : Nat), k ≤ n ∧ i = .int .i64 k ∧ Hid (∀ j x y, j < k → r[j]? = some x → s[j]? = some y → Bg.cr x y = 0) ∧ Below w.heap.size w wr) (fun i _ => n - (intOf i).toNat)
    case atStart => exact ⟨0, Nat.zero_le _, rfl, Lib.hid fun j x y h => by omega, hS⟩
    case round =>
     obtain ⟨k, hk, rfl, hz, hb⟩ := hrel
     by_cases hlt : k < n
     · obtain ⟨x, gx⟩ : ∃ x, r[k]? = some x := ⟨r[k]'(by have := HN.out; omega), List.getElem?_eq_getElem _⟩
       obtain ⟨y, gy⟩ : ∃ y, s[k]? = some y := ⟨s[k]'(by have := HN.out; omega), List.getElem?_eq_getElem _⟩
       obtain ⟨b1, o1, p1, e1, rfl, h1⟩ := HU.out k x gx
       obtain ⟨b2, o2, p2, e2, rfl, h2⟩ := HV.out k y gy
       have i1 : (0 : Int) ≤ (k : Int) := by omega
       have i2 : (k : Int) < (n : Int) := by omega
       have y1 := cell_regrown (h1 wr hb).1
       have y3 := cell_regrown (h2 wr hb).1
       obtain ⟨d, hd⟩ : ∃ d : Bool, d = decide (Bg.cr x y = 0) := ⟨_, rfl⟩
       have cc := in_class (W0 := wr) fun W h => r9same_any _ _ x y W ((h1 wr hb).2.below h (Nat.le_refl _)) ((h2 wr hb).2.below h (Nat.le_refl _)) (HR2.out x (List.mem_of_getElem? gx)) (HS2.out y (List.mem_of_getElem? gy))
       rw [← hd] at cc
       have HD := Lib.hid hd
       have GX := Lib.hid gx
       have GY := Lib.hid gy
       clear h1 h2 gx gy hd
       go_wp2_with (fail)
       refine wp_region_quiet_below (by kernel_rfl) (by kernel_rfl) ?_
       repeat (go_big_quiet_step (with_reducible exact cc _ _))
       refine wpQuiet_nil ?_
       intro _ hw'
       obtain ⟨⟨dq, osq⟩, hw''⟩ := hw'
       subst hw''
       have hb2 := below_join hb (below_regrown wr dq osq)
       clear y1 y3 i1 i2 hb cc
       generalize grow (redrawn wr dq) osq = w7 at hb2 ⊢
       cases d
       · have hres : Hid (false = decide (Bg.lex Bg.cr r s = 0)) := Lib.hid (by
           symm
           rw [decide_eq_false_iff_not]
           intro e
           have h := HD.out
           rw [(Bg.lex_zero.1 e).2 k x y GX.out GY.out] at h
           simp at h)
         go_wp2_with (fail)
         go_ret
         exact ⟨ret_bool hres.out, hb2⟩
       · have hz2 : Hid (∀ j x y, j < k + 1 → r[j]? = some x → s[j]? = some y → Bg.cr x y = 0) := Lib.hid fun j x' y' hj hx hy => by
           rcases Nat.lt_or_eq_of_le (Nat.le_of_lt_succ hj) with g | g
           · exact hz.out j x' y' g hx hy
           · subst g
             rw [GX.out] at hx; rw [GY.out] at hy
             cases hx; cases hy
             simpa using HD.out.symm
         go_wp2_with (fail)
         go_roundw
         case rel => exact ⟨k + 1, by omega, by go_num, hz2, hb2⟩
         case measure => simp [intOf]; omega
     · have hres : Hid (true = decide (Bg.lex Bg.cr r s = 0)) := Lib.hid (by
         symm
         rw [decide_eq_true_iff]
         obtain ⟨h1, h2⟩ := HN.out
         exact Bg.lex_zero.2 ⟨by omega, fun j x y hx hy => hz.out j x y (by have := (List.getElem?_eq_some_iff.1 hx).1; omega) hx hy⟩)
       go_wp2_with (fail)
       go_ret
       exact ⟨ret_bool hres.out, hb⟩
  · have hnm2 : ((n : Int) != (m : Int)) = true := by simpa using fun h => hnm (by omega)
    have hnm3 : ¬ ((n : Int) = (m : Int)) := fun h => hnm (by omega)
    have hres : Hid (false = decide (Bg.lex Bg.cr r s = 0)) := Lib.hid (by
      symm
      rw [decide_eq_false_iff_not]
      obtain ⟨h1, h2⟩ := HN.out
      exact Bg.lex_no (by omega))
    clear hnm
    go_enter Tryz.func13, Tryz.ntmps13
    go_wp2_with (fail)
    go_ret
    exact ⟨ret_bool hres.out, Below.refl _ _⟩
end Go.Proofs.YtpaaibghfhnicaaGreatDoor
