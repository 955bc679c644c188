/-
  TREES AS TEXTS: what has a form, its text, who reads a tree out of runes; there and back. Plain mathematics.
-/
import Derived.Test.YteimbdklakemaaaGreatDoorTxtM
import Derived.Test.YteimbdklakemaaaGreatDoorTreM
namespace Go.Proofs.YteimbdklakemaaaGreatDoor
namespace Sh
open Tx
/-! ### What has a form, and its text -/
def leafT (n : Nat) : Tr := .mk 0 n false [] []
/-- a tree that has a form, of so many leaves -/
inductive Form : Tr → Nat → Prop where
  | leaf (t : Int) (h0 : 0 ≤ t) (h1 : t ≤ 63) : Form (.mk 0 t false [] []) 1
  | op (k : Int) (h : Bool) (cs : List Pd) (a b : Tr) (m n : Nat) (hk1 : 1 ≤ k) (hk4 : k ≤ 4) (hc1 : 1 ≤ cs.length) (hc2 : cs.length ≤ 64) (hr : ∀ c ∈ cs, Pr.rightAt c 1 = true) (ha : Form a m) (hb : Form b n) : Form (.mk k 0 h cs [a, b]) (m + n)
theorem Form.pos {a : Tr} {n : Nat} (h : Form a n) : 1 ≤ n := by
  induction h with
  | leaf => exact Nat.le_refl _
  | op _ _ _ _ _ _ _ _ _ _ _ _ _ _ i1 i2 => omega
def sgn (k : Int) : Int := if k = 1 then 8904 else if k = 2 then 10197 else if k = 3 then 8905 else if k = 4 then 9655 else 0
mutual
def txt : Tr → List Int
  | .mk k t h cs ks => if k = 0 then whole t else [40] ++ ((txts ks).getD 0 [] ++ ([sgn k] ++ ((if h then [35] else []) ++ ([91] ++ (texts cs ++ ([93] ++ ((txts ks).getD 1 [] ++ [41])))))))
def txts : List Tr → List (List Int)
  | [] => []
  | a :: r => txt a :: txts r
end
theorem txt_leaf (t : Int) (h : Bool) (cs : List Pd) (ks : List Tr) : txt (.mk 0 t h cs ks) = whole t := by rw [txt, if_pos rfl]
theorem txt_op {k t : Int} (h : Bool) (cs : List Pd) (a b : Tr) (hk : k ≠ 0) : txt (.mk k t h cs [a, b]) = [40] ++ (txt a ++ ([sgn k] ++ ((if h then [35] else []) ++ ([91] ++ (texts cs ++ ([93] ++ (txt b ++ [41]))))))) := by
  rw [txt, if_neg hk, txts, txts, txts]; rfl
mutual
/-- the numbers in it are int64's -/
def wfT : Tr → Prop
  | .mk _ _ _ cs ks => wfs cs ∧ wfTs ks
def wfTs : List Tr → Prop
  | [] => True
  | a :: r => wfT a ∧ wfTs r
end
/-! ### How many leaves -/
def conjoins (cs : List Pd) : Bool := decide (1 ≤ cs.length) && (decide (cs.length ≤ 64) && cs.all fun c => Pr.rightAt c 1)
def alone (a : Tr) : Bool :=
  if a.k = 0 then decide (0 ≤ a.t) && (decide (a.t < 64) && (decide (a.ks.length = 0) && (decide (a.cs.length = 0) && !a.h)))
  else decide (1 ≤ a.k) && (decide (a.k ≤ 4) && (decide (a.t = 0) && (decide (a.ks.length = 2) && conjoins a.cs)))
theorem alone_mk (k t : Int) (h : Bool) (cs : List Pd) (ks : List Tr) : alone (.mk k t h cs ks) =
    if k = 0 then decide (0 ≤ t) && (decide (t < 64) && (decide (ks.length = 0) && (decide (cs.length = 0) && !h)))
    else decide (1 ≤ k) && (decide (k ≤ 4) && (decide (t = 0) && (decide (ks.length = 2) && conjoins cs))) := rfl
/-- how many leaves, of the two kids' -/
def both (most : Nat) (f g : Nat → Nat) : Nat := if f (most - 1) = 0 then 0 else if g (most - f (most - 1)) = 0 then 0 else f (most - 1) + g (most - f (most - 1))
mutual
def lv : Tr → Nat → Nat
  | .mk k t h cs ks => fun most => if most = 0 ∨ alone (.mk k t h cs ks) = false then 0 else if k = 0 then 1 else both most ((lvs ks).getD 0 fun _ => 0) ((lvs ks).getD 1 fun _ => 0)
def lvs : List Tr → List (Nat → Nat)
  | [] => []
  | a :: r => lv a :: lvs r
end
theorem lv_mk (k t : Int) (h : Bool) (cs : List Pd) (ks : List Tr) (most : Nat) : lv (.mk k t h cs ks) most = if most = 0 ∨ alone (.mk k t h cs ks) = false then 0 else if k = 0 then 1 else both most ((lvs ks).getD 0 fun _ => 0) ((lvs ks).getD 1 fun _ => 0) := by
  rw [lv]
theorem lv_at (a : Tr) (most : Nat) : lv a most = if most = 0 ∨ alone a = false then 0 else if a.k = 0 then 1 else both most ((lvs a.ks).getD 0 fun _ => 0) ((lvs a.ks).getD 1 fun _ => 0) := by
  cases a; rw [lv]; rfl
theorem lvs_two (a b : Tr) : (lvs [a, b]).getD 0 (fun _ => 0) = lv a ∧ (lvs [a, b]).getD 1 (fun _ => 0) = lv b := by
  rw [lvs, lvs, lvs]; exact ⟨rfl, rfl⟩
theorem lv_le (a : Tr) : ∀ most, lv a most ≤ most := by
  refine Tr.ind (P := fun a => ∀ most, lv a most ≤ most) (fun a ih most => ?_) a
  obtain ⟨k, t, h, cs, ks⟩ := a
  rw [lv_mk]
  split
  · exact Nat.zero_le _
  next h1 =>
  split
  · omega
  next h2 =>
  have hal : alone (.mk k t h cs ks) = true := by
    cases hx : alone (.mk k t h cs ks)
    · exact absurd (.inr hx) h1
    · rfl
  rw [alone_mk, if_neg h2] at hal
  simp only [Bool.and_eq_true, decide_eq_true_eq] at hal
  obtain ⟨x, y, rfl⟩ : ∃ x y, ks = [x, y] := by
    match ks, hal.2.2.2.1 with
    | [x, y], _ => exact ⟨x, y, rfl⟩
  rw [(lvs_two x y).1, (lvs_two x y).2]
  have i1 := ih x (by simp [Tr.ks]) (most - 1)
  have i2 := ih y (by simp [Tr.ks]) (most - lv x (most - 1))
  unfold both
  split
  · omega
  split
  · omega
  · omega
theorem conjoins_iff {cs : List Pd} : conjoins cs = true ↔ 1 ≤ cs.length ∧ cs.length ≤ 64 ∧ ∀ c ∈ cs, Pr.rightAt c 1 = true := by
  unfold conjoins
  simp only [Bool.and_eq_true, decide_eq_true_eq, List.all_eq_true]
theorem lv_form (a : Tr) : ∀ most, lv a most ≠ 0 → Form a (lv a most) := by
  refine Tr.ind (P := fun a => ∀ most, lv a most ≠ 0 → Form a (lv a most)) (fun a ih most => ?_) a
  obtain ⟨k, t, h, cs, ks⟩ := a
  rw [lv_mk]
  split
  · exact fun h => absurd rfl h
  next h1 =>
  have hal : alone (.mk k t h cs ks) = true := by
    cases hx : alone (.mk k t h cs ks)
    · exact absurd (.inr hx) h1
    · rfl
  rw [alone_mk] at hal
  by_cases hk : k = 0
  · subst hk
    rw [if_pos rfl] at hal ⊢
    intro _
    simp only [Bool.and_eq_true, decide_eq_true_eq, Bool.not_eq_true'] at hal
    obtain ⟨q0, q1, q2, q3, rfl⟩ := hal
    obtain rfl := List.eq_nil_of_length_eq_zero q2
    obtain rfl := List.eq_nil_of_length_eq_zero q3
    exact Form.leaf t q0 (by omega)
  · rw [if_neg hk] at hal ⊢
    simp only [Bool.and_eq_true, decide_eq_true_eq] at hal
    obtain ⟨q0, q1, rfl, q3, q4⟩ := hal
    obtain ⟨x, y, rfl⟩ : ∃ x y, ks = [x, y] := by
      match ks, q3 with
      | [x, y], _ => exact ⟨x, y, rfl⟩
    rw [(lvs_two x y).1, (lvs_two x y).2]
    unfold both
    split
    · exact fun h => absurd rfl h
    next h3 =>
    split
    · exact fun h => absurd rfl h
    next h4 =>
    intro _
    obtain ⟨c1, c2, c3⟩ := conjoins_iff.1 q4
    exact Form.op k h cs x y _ _ q0 q1 c1 c2 c3 (ih x (by simp [Tr.ks]) _ h3) (ih y (by simp [Tr.ks]) _ h4)
theorem form_alone {a : Tr} {n : Nat} (h : Form a n) : alone a = true := by
  cases h with
  | leaf t h0 h1 =>
    rw [alone_mk, if_pos rfl]
    simp; omega
  | op k h cs a b m n hk1 hk4 hc1 hc2 hr ha hb =>
    rw [alone_mk, if_neg (by omega)]
    simp only [Bool.and_eq_true, decide_eq_true_eq]
    exact ⟨hk1, hk4, trivial, rfl, conjoins_iff.2 ⟨hc1, hc2, hr⟩⟩
theorem form_lv {a : Tr} {n : Nat} (h : Form a n) : ∀ most, n ≤ most → lv a most = n := by
  induction h with
  | leaf t h0 h1 =>
    intro most hm
    rw [lv_mk, form_alone (.leaf t h0 h1), if_neg (by simp; omega), if_pos rfl]
  | op k h cs a b m n hk1 hk4 hc1 hc2 hr ha hb i1 i2 =>
    intro most hm
    have hk : ¬ k = 0 := by omega
    have p1 := ha.pos
    have p2 := hb.pos
    rw [lv_mk, form_alone (.op k h cs a b m n hk1 hk4 hc1 hc2 hr ha hb), if_neg (by simp; omega), if_neg hk, (lvs_two a b).1, (lvs_two a b).2]
    unfold both
    rw [i1 (most - 1) (by omega), if_neg (by omega), i2 (most - m) (by omega), if_neg (by omega)]
/-! ### Who reads -/
structure St where
  i : Nat
  v : Nat
  e : Int
def nx (l : List Int) (s : St) : Int := if s.e = 0 then at_ l s.i else -1
def fail (j : Nat) (x : Int) (s : St) : St := if s.e = 0 then ⟨j, s.v, x⟩ else s
def on (s : St) : St := ⟨s.i + 1, s.v, s.e⟩
def skip (l : List Int) (c : Int) (s : St) : St := if nx l s = c then on s else s
def pass (l : List Int) (c : Int) (s : St) : St := if nx l s = c then on s else fail s.i 1 s
def kindOf (c : Int) : Int := if c = 8904 then 1 else if c = 10197 then 2 else if c = 8905 then 3 else if c = 9655 then 4 else 0
def kind (l : List Int) (s : St) : Int × St := if kindOf (nx l s) = 0 then (0, fail s.i 1 s) else (kindOf (nx l s), on s)
def pred (l : List Int) (s : St) : Pd × St := if s.e = 0 then ((take l 4 s.i).x, ⟨(take l 4 s.i).i, s.v, (take l 4 s.i).e⟩) else (zp, s)
/-- ahead of one more -/
def more (out : List Pd) (s : St) : St := if out.length = 64 then fail s.i 2 s else s
def loop (l : List Int) : Nat → List Pd → St → List Pd × St
  | 0, out, s => (out, s)
  | k + 1, out, s => if nx l s = 59 then loop l k (out ++ [(pred l (more out (on s))).1]) (pred l (more out (on s))).2 else (out, s)
def conj (l : List Int) (s : St) : List Pd × St :=
  let p := pred l (pass l 91 s)
  let c := loop l 65 [p.1] p.2
  (c.1, pass l 93 c.2)
def begin_ (l : List Int) (s : St) : St := if isDig (nx l s) then (if 64 < s.v + 1 then fail s.i 2 ⟨s.i, s.v + 1, s.e⟩ else ⟨s.i, s.v + 1, s.e⟩) else s
/-- no more has to be known of a number than that it is too great -/
def capv (a : Nat) (ds : List Int) : Nat := ds.foldl (fun a c => min (10 * a + (c - 48).toNat) 64) a
def digs (l : List Int) (s : St) : List Int := if s.e = 0 then (l.drop s.i).take (run l s.i) else []
def leaf (l : List Int) (s : St) : Tr × St :=
  let b := begin_ l s
  let ds := digs l b
  let n := capv 0 ds
  let b' : St := ⟨b.i + ds.length, b.v, b.e⟩
  (leafT n, if ds.length = 0 then fail b.i 1 b' else if 1 < ds.length ∧ at_ l b.i = 48 then fail (b.i + 1) 1 b' else if n = 64 then fail b.i 3 b' else b')
def oper (l : List Int) (tr : St → Tr × St) (a : Tr) (s : St) : Tr × St :=
  let k := kind l s
  let c := conj l (skip l 35 k.2)
  let b := tr c.2
  (.mk k.1 0 (decide (nx l k.2 = 35)) c.1 [a, b.1], pass l 41 b.2)
def ops (f : Tr → St → Tr × St) : Nat → Tr → St → Tr × St
  | 0, a, s => (a, s)
  | o + 1, a, s => if s.e = 0 then ops f o (f a s).1 (f a s).2 else (a, s)
def opens (l : List Int) (s : St) : Nat := if s.e = 0 then ((l.drop s.i).takeWhile (· == 40)).length else 0
def tree (l : List Int) : Nat → St → Tr × St
  | 0, s => (leafT 0, if s.e = 0 then ⟨s.i, s.v, 1⟩ else s)
  | k + 1, s =>
    let a := leaf l ⟨s.i + opens l s, s.v, s.e⟩
    ops (oper l (tree l k)) (opens l s) a.1 a.2
def zeroT : Tr := .mk 0 0 false [] []
def parse (l : List Int) : Got Tr :=
  let a := tree l (l.length + 1) ⟨0, 0, 0⟩
  let s := if nx l a.2 = -1 then a.2 else fail a.2.i 1 a.2
  if s.e = 0 then ⟨a.1, s.i, 0⟩ else ⟨zeroT, s.i, s.e⟩
end Sh
end Go.Proofs.YteimbdklakemaaaGreatDoor
