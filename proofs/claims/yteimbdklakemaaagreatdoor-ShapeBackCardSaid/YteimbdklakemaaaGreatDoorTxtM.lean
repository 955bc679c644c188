/-
  THE PLAIN MATHEMATICS OF LAYER 8: a predicate's text, rune by rune; what stands at a rune of a text.
-/
import Derived.Test.YteimbdklakemaaaGreatDoorGPlain
namespace Go.Proofs.YteimbdklakemaaaGreatDoor
open Go.Lib
namespace Tx
/-- the rune at a place; none is -1 -/
def at_ (l : List Int) (i : Nat) : Int := l.getD i (-1)
def isDig (c : Int) : Bool := decide (48 ≤ c) && decide (c ≤ 57)
/-- how many digits stand there -/
def run (l : List Int) (i : Nat) : Nat := ((l.drop i).takeWhile isDig).length
def val (ds : List Int) : Nat := ds.foldl (fun a c => 10 * a + (c - 48).toNat) 0
/-- what a step tells: a thing, the place behind it (or of what is wrong), a code -/
structure Got (α : Type) where
  x : α
  i : Nat
  e : Int
def number (l : List Int) (i : Nat) (minus : Bool) (most : Int) : Got Int :=
  let neg := minus && at_ l i == 45
  let s := if neg then i + 1 else i
  let n := run l s
  if n = 0 then ⟨0, s, 1⟩
  else if at_ l s = 48 ∧ 1 < n then ⟨0, s + 1, 1⟩
  else if at_ l s = 48 ∧ neg then ⟨0, s, 1⟩
  else
    let m := val ((l.drop s).take n)
    let v : Int := if neg then -(m : Int) else m
    if v < -9223372036854775808 ∨ 9223372036854775807 < v ∨ most < v then ⟨0, i, 3⟩ else ⟨v, s + n, 0⟩
def term (l : List Int) (i : Nat) : Got Tm :=
  if at_ l i = 39 ∧ at_ l (i + 1) = 0x2205 then ⟨⟨2, 0, 0, true, 0⟩, i + 2, 0⟩
  else if at_ l i = 39 then
    let n := number l (i + 1) true 9223372036854775807
    ⟨⟨2, 0, 0, false, n.x⟩, n.i, n.e⟩
  else
    let t := number l i false 63
    if t.e ≠ 0 then ⟨⟨0, 0, 0, false, 0⟩, t.i, t.e⟩
    else if at_ l t.i ≠ 46 then ⟨⟨0, 0, 0, false, 0⟩, t.i, 1⟩
    else
      let c := number l (t.i + 1) false 3
      ⟨⟨1, t.x, c.x, false, 0⟩, c.i, c.e⟩
def bare (k u o : Int) (a b : Tm) : Pf := ⟨k, u, o, a, b⟩
def zt : Tm := ⟨0, 0, 0, false, 0⟩
def zp : Pd := .mk ⟨0, 0, 0, zt, zt⟩ []
/-- parts from behind a bracket on, r of them at most -/
def parts (tk : Nat → Got Pd) (l : List Int) : Nat → List Pd → Nat → Got (List Pd)
  | 0, _, i => ⟨[], i, 2⟩
  | r + 1, out, i =>
    let p := tk i
    if p.e ≠ 0 then ⟨[], p.i, p.e⟩
    else if at_ l p.i = 41 then ⟨out ++ [p.x], p.i + 1, 0⟩
    else if at_ l p.i ≠ 59 then ⟨[], p.i, 1⟩
    else parts tk l r (out ++ [p.x]) (p.i + 1)
def list (tk : Nat → Got Pd) (l : List Int) (i : Nat) : Got (List Pd) :=
  if at_ l i ≠ 40 then ⟨[], i, 1⟩
  else if at_ l (i + 1) = 41 then ⟨[], i + 2, 0⟩
  else parts tk l 4 [] (i + 1)
def truths : List Int := [0x22A5, 63, 0x22A4]
def signs : List Int := [61, 0x2260, 60, 0x2264, 62, 0x2265]
/-- a place in a list, if it is there -/
def place (l : List Int) (c : Int) : Option Nat := l.findIdx? (· == c)
/-- one predicate, k deep at most -/
def take (l : List Int) : Nat → Nat → Got Pd
  | 0, i => ⟨zp, i, 2⟩
  | k + 1, i =>
    let c := at_ l i
    match place truths c with
    | some j => ⟨.mk (bare 1 j 0 zt zt) [], i + 1, 0⟩
    | none =>
    match place signs c with
    | some j =>
      let a := term l (i + 1)
      if a.e ≠ 0 then ⟨zp, a.i, a.e⟩
      else if at_ l a.i ≠ 44 then ⟨zp, a.i, 1⟩
      else
        let b := term l (a.i + 1)
        ⟨.mk (bare 2 0 (j + 1) a.x b.x) [], b.i, b.e⟩
    | none =>
      if c = 0x2205 then
        let a := term l (i + 1)
        ⟨.mk (bare 3 0 0 a.x zt) [], a.i, a.e⟩
      else if c = 0x2227 ∨ c = 0x2228 then
        let p := list (take l k) l (i + 1)
        ⟨.mk (bare (if c = 0x2227 then 4 else 5) 0 0 zt zt) p.x, p.i, p.e⟩
      else if c = 0xAC then
        let p := take l k (i + 1)
        ⟨.mk (bare 6 0 0 zt zt) [p.x], p.i, p.e⟩
      else ⟨zp, i, 1⟩
def takeAt (l : List Int) (i : Int) : Got Pd :=
  if i < 0 ∨ (l.length : Int) < i then ⟨zp, 0, 3⟩
  else
    let p := take l 4 i.toNat
    if p.e ≠ 0 then ⟨zp, p.i, p.e⟩ else p
def parse (l : List Int) : Got Pd :=
  let p := takeAt l 0
  if p.e = 0 ∧ p.i < l.length then ⟨zp, p.i, 1⟩ else p
/-! ### The text -/
def digits (n : Nat) : List Int := (decDigits n).map fun c => (c.toNat : Int)
def whole (n : Int) : List Int := if n < 0 then 45 :: digits n.natAbs else digits n.natAbs
def termText (x : Tm) : List Int := if x.k = 1 then whole x.t ++ [46] ++ whole x.c else if x.z then [39, 0x2205] else 39 :: whole x.n
mutual
def text : Pd → List Int
  | .mk f ps =>
    if f.k = 1 then [truths.getD f.u.toNat (-1)]
    else if f.k = 2 then signs.getD (f.o - 1).toNat (-1) :: termText f.a ++ [44] ++ termText f.b
    else if f.k = 3 then 0x2205 :: termText f.a
    else if f.k = 4 then [0x2227, 40] ++ texts ps ++ [41]
    else if f.k = 5 then [0x2228, 40] ++ texts ps ++ [41]
    else 0xAC :: texts ps
def texts : List Pd → List Int
  | [] => []
  | [p] => text p
  | p :: q :: r => text p ++ [59] ++ texts (q :: r)
end
/-! ### Numbers come back -/
theorem isDig_dig {c : UInt8} (h : Va.isD c = true) : isDig (c.toNat : Int) = true := by
  rw [Va.isD_iff] at h
  unfold isDig
  simp; omega
theorem val_digits (ds : List UInt8) : ∀ a, ds.all Va.isD = true → (ds.map fun c => (c.toNat : Int)).foldl (fun (a : Nat) c => 10 * a + (c - 48).toNat) a = Va.num a ds := by
  induction ds with
  | nil => intro a _; rfl
  | cons c r ih =>
    intro a h
    rw [List.all_cons, Bool.and_eq_true] at h
    rw [List.map_cons, List.foldl_cons, Va.num_cons, ← ih _ h.2]
    have := Va.isD_iff.1 h.1
    congr 2
    omega
theorem digits_all (n : Nat) : (digits n).all isDig = true := by
  rw [List.all_eq_true]
  intro c hc
  obtain ⟨b, hb, rfl⟩ := List.mem_map.1 hc
  exact isDig_dig (List.all_eq_true.1 (Va.digits_facts n).1 b hb)
theorem digits_val (n : Nat) : val (digits n) = n := by
  unfold val digits
  rw [val_digits _ 0 (Va.digits_facts n).1]
  exact (Va.digits_facts n).2.2.1
theorem digits_ne (n : Nat) : digits n ≠ [] := by
  unfold digits
  intro h
  exact (Va.digits_facts n).2.1 (List.map_eq_nil_iff.1 h)
theorem digits_head {n : Nat} (h : n ≠ 0) : (digits n).head? ≠ some 48 := by
  unfold digits
  rw [List.head?_map]
  intro e
  cases hd : (decDigits n).head? with
  | none => rw [hd] at e; cases e
  | some c =>
    rw [hd] at e
    have e2 : ((c.toNat : Int)) = 48 := by simpa using e
    have : c.toNat = 48 := by omega
    exact (Va.digits_facts n).2.2.2 h (by rw [hd]; congr 1; exact UInt8.toNat_inj.1 this)
theorem digits_zero : digits 0 = [48] := by decide +kernel
/-- a place behind pre -/
theorem at_app (pre r : List Int) (j : Nat) : at_ (pre ++ r) (pre.length + j) = at_ r j := by
  unfold at_
  simp [List.getD, List.getElem?_append_right]
theorem run_app {pre ds post : List Int} (hd : ds.all isDig = true) (hp : isDig (at_ post 0) = false) : run (pre ++ (ds ++ post)) pre.length = ds.length := by
  unfold run
  rw [List.drop_left]
  have key : ∀ ds : List Int, ds.all isDig = true → (ds ++ post).takeWhile isDig = ds := by
    intro ds
    induction ds with
    | nil =>
      intro _
      cases post with
      | nil => rfl
      | cons c r => rw [List.nil_append, List.takeWhile_cons]; rw [show isDig c = false from hp]; rfl
    | cons c r ih =>
      intro h
      rw [List.all_cons, Bool.and_eq_true] at h
      rw [List.cons_append, List.takeWhile_cons, h.1, ih h.2]; rfl
  rw [key ds hd]
theorem number_plain {pre post : List Int} {n : Nat} {minus : Bool} {most : Int} (hp : isDig (at_ post 0) = false) (hn : (n : Int) ≤ most) (h64 : n < 9223372036854775808) :
    number (pre ++ (digits n ++ post)) pre.length minus most = ⟨n, pre.length + (digits n).length, 0⟩ := by
  have hr := run_app (pre := pre) (digits_all n) hp
  have hne := digits_ne n
  obtain ⟨c, r, hcr⟩ : ∃ c r, digits n = c :: r := by
    cases h : digits n with
    | nil => exact absurd h hne
    | cons c r => exact ⟨c, r, rfl⟩
  have hc : isDig c = true := by have := digits_all n; rw [hcr, List.all_cons, Bool.and_eq_true] at this; exact this.1
  have hat : at_ (pre ++ (digits n ++ post)) pre.length = c := by
    have := at_app pre (digits n ++ post) 0
    rw [Nat.add_zero] at this
    rw [this, hcr]; rfl
  have h45 : (at_ (pre ++ (digits n ++ post)) pre.length == 45) = false := by
    rw [hat]
    unfold isDig at hc
    simp at hc ⊢
    omega
  unfold number
  simp only [h45, Bool.and_false, Bool.false_eq_true, if_false, and_false]
  rw [hr, if_neg (by rw [hcr]; simp)]
  have h48 : ¬ (at_ (pre ++ (digits n ++ post)) pre.length = 48 ∧ 1 < (digits n).length) := by
    rintro ⟨h1, h2⟩
    by_cases h0 : n = 0
    · subst h0; rw [digits_zero] at h2; simp at h2
    · refine digits_head h0 ?_
      rw [hat] at h1
      rw [hcr, h1]; rfl
  rw [if_neg h48, List.drop_left, List.take_left, digits_val]
  rw [if_neg (by omega)]
theorem number_minus {pre post : List Int} {n : Nat} {most : Int} (hp : isDig (at_ post 0) = false) (h0 : n ≠ 0) (hm : 0 ≤ most) (h64 : n ≤ 9223372036854775808) :
    number (pre ++ ((45 :: digits n) ++ post)) pre.length true most = ⟨-(n : Int), pre.length + (digits n).length + 1, 0⟩ := by
  have e : pre ++ ((45 :: digits n) ++ post) = (pre ++ [45]) ++ (digits n ++ post) := by simp
  have hl : (pre ++ [(45 : Int)]).length = pre.length + 1 := by simp
  have hr := run_app (pre := pre ++ [45]) (digits_all n) hp
  have h45 : (at_ (pre ++ ((45 :: digits n) ++ post)) pre.length == 45) = true := by
    have := at_app pre ((45 :: digits n) ++ post) 0
    rw [Nat.add_zero] at this
    rw [this]; rfl
  obtain ⟨c, r, hcr⟩ : ∃ c r, digits n = c :: r := by
    cases h : digits n with
    | nil => exact absurd h (digits_ne n)
    | cons c r => exact ⟨c, r, rfl⟩
  have hat : at_ ((pre ++ [45]) ++ (digits n ++ post)) (pre ++ [(45 : Int)]).length = c := by
    have := at_app (pre ++ [45]) (digits n ++ post) 0
    rw [Nat.add_zero] at this
    rw [this, hcr]; rfl
  have h48 : c ≠ 48 := fun h => digits_head h0 (by rw [hcr, h]; rfl)
  unfold number
  simp only [h45, Bool.and_true, if_true]
  rw [e, ← hl, hr, if_neg (by rw [hcr]; simp), if_neg (by rw [hat]; exact fun h => h48 h.1), if_neg (by rw [hat]; exact fun h => h48 h.1), List.drop_left, List.take_left, digits_val]
  rw [if_neg (by omega)]
  congr 1
  rw [hl]; omega
def I64 (n : Int) : Prop := -9223372036854775808 ≤ n ∧ n ≤ 9223372036854775807
theorem number_whole {pre post : List Int} {n : Int} (hp : isDig (at_ post 0) = false) (h64 : I64 n) :
    number (pre ++ (whole n ++ post)) pre.length true 9223372036854775807 = ⟨n, pre.length + (whole n).length, 0⟩ := by
  obtain ⟨h1, h2⟩ := h64
  unfold whole
  by_cases hn : n < 0
  · rw [if_pos hn, number_minus hp (by omega) (by omega) (by omega)]
    congr 1
    omega
  · rw [if_neg hn, number_plain hp (by omega) (by omega)]
    congr 1
    omega
theorem number_nat {pre post : List Int} {n most : Int} (hp : isDig (at_ post 0) = false) (h0 : 0 ≤ n) (hm : n ≤ most) (h64 : n ≤ 9223372036854775807) :
    number (pre ++ (whole n ++ post)) pre.length false most = ⟨n, pre.length + (whole n).length, 0⟩ := by
  unfold whole
  rw [if_neg (by omega), number_plain hp (by omega) (by omega)]
  congr 1
  omega
theorem whole_head {n : Int} (h : 0 ≤ n) (r : List Int) : ∃ c s, whole n ++ r = c :: s ∧ isDig c = true := by
  unfold whole
  rw [if_neg (by omega)]
  cases hd : digits n.natAbs with
  | nil => exact absurd hd (digits_ne _)
  | cons c s =>
    refine ⟨c, s ++ r, rfl, ?_⟩
    have := digits_all n.natAbs
    rw [hd, List.all_cons, Bool.and_eq_true] at this
    exact this.1
theorem at_here (pre r : List Int) : at_ (pre ++ r) pre.length = at_ r 0 := at_app pre r 0
theorem term_back {pre post : List Int} {x : Tm} (hx : Te.right x = true) (h64 : I64 x.n) (hp : isDig (at_ post 0) = false) :
    term (pre ++ (termText x ++ post)) pre.length = ⟨x, pre.length + (termText x).length, 0⟩ := by
  obtain ⟨k, t, c, z, n⟩ := x
  simp only at h64
  by_cases hk : k = 1
  · subst hk
    have hr : 0 ≤ t ∧ t ≤ 63 ∧ 0 ≤ c ∧ c ≤ 3 ∧ z = false ∧ n = 0 := by
      simp [Te.right, Te.below] at hx
      obtain ⟨⟨⟨⟨a1, a2⟩, a3, a4⟩, a5⟩, a6⟩ := hx
      exact ⟨a1, by omega, a3, by omega, a5, a6⟩
    obtain ⟨ht0, ht1, hc0, hc1, rfl, rfl⟩ := hr
    have e : termText ⟨1, t, c, false, 0⟩ = whole t ++ [46] ++ whole c := rfl
    rw [e]
    obtain ⟨d, s, hd, hdig⟩ := whole_head ht0 ([46] ++ whole c ++ post)
    have e2 : whole t ++ [46] ++ whole c ++ post = whole t ++ ([46] ++ whole c ++ post) := by simp
    have hat : at_ (pre ++ (whole t ++ [46] ++ whole c ++ post)) pre.length = d := by rw [at_here, e2, hd]; rfl
    have hne : d ≠ 39 := by unfold isDig at hdig; simp at hdig; omega
    unfold term
    rw [hat, if_neg (fun h => hne h.1), if_neg hne]
    have n1 := number_nat (pre := pre) (post := [46] ++ whole c ++ post) (n := t) (most := 63) (by rw [List.append_assoc, List.singleton_append]; rfl) ht0 ht1 (by omega)
    rw [e2, n1]
    simp only [ne_eq, not_true_eq_false, if_false]
    have hat2 : at_ (pre ++ (whole t ++ ([46] ++ whole c ++ post))) (pre.length + (whole t).length) = 46 := by
      have := at_app (pre ++ whole t) ([46] ++ whole c ++ post) 0
      rw [List.length_append, Nat.add_zero, List.append_assoc] at this
      rw [this]; rfl
    rw [hat2]
    simp only [not_true_eq_false, if_false]
    have n2 := number_nat (pre := pre ++ whole t ++ [46]) (post := post) (n := c) (most := 3) hp hc0 hc1 (by omega)
    have e3 : pre ++ whole t ++ [46] ++ (whole c ++ post) = pre ++ (whole t ++ ([46] ++ whole c ++ post)) := by simp
    have e4 : (pre ++ whole t ++ [(46 : Int)]).length = pre.length + (whole t).length + 1 := by simp; omega
    rw [e3, e4] at n2
    rw [n2]
    congr 1
    simp; omega
  · have hr : k = 2 ∧ t = 0 ∧ c = 0 ∧ (z = true → n = 0) := by
      unfold Te.right at hx
      rw [if_neg hk] at hx
      simp [Va.right] at hx
      obtain ⟨⟨⟨a1, a2⟩, a3⟩, a4⟩ := hx
      refine ⟨a1, a2, a3, fun hz => ?_⟩
      rcases a4 with a4 | a4
      · rw [hz] at a4; cases a4
      · exact a4
    obtain ⟨rfl, rfl, rfl, hz⟩ := hr
    cases z
    · have e : termText ⟨2, 0, 0, false, n⟩ = 39 :: whole n := rfl
      rw [e]
      have hat : at_ (pre ++ (39 :: whole n ++ post)) pre.length = 39 := by rw [at_here]; rfl
      have hat2 : at_ (pre ++ (39 :: whole n ++ post)) (pre.length + 1) ≠ 0x2205 := by
        rw [at_app]
        show at_ (whole n ++ post) 0 ≠ 0x2205
        by_cases hn : n < 0
        · unfold whole; rw [if_pos hn]; show (45 : Int) ≠ 0x2205; decide
        · obtain ⟨d, s, hd, hdig⟩ := whole_head (n := n) (by omega) post
          rw [hd]
          unfold isDig at hdig
          simp at hdig
          show d ≠ 0x2205
          omega
      unfold term
      rw [hat, if_neg (fun h => hat2 h.2), if_pos rfl]
      have n1 := number_whole (pre := pre ++ [39]) (post := post) (n := n) hp h64
      have e3 : pre ++ [39] ++ (whole n ++ post) = pre ++ (39 :: whole n ++ post) := by simp
      have e4 : (pre ++ [(39 : Int)]).length = pre.length + 1 := by simp
      rw [e3, e4] at n1
      rw [n1]
      congr 1
      simp; omega
    · obtain rfl := hz rfl
      have e : termText ⟨2, 0, 0, true, 0⟩ = [39, 0x2205] := rfl
      rw [e]
      unfold term
      rw [if_pos ⟨by rw [at_here]; rfl, by rw [at_app]; rfl⟩]
      rfl
/-! ### Predicates come back -/
mutual
def wf : Pd → Prop
  | .mk f ps => I64 f.a.n ∧ I64 f.b.n ∧ wfs ps
def wfs : List Pd → Prop
  | [] => True
  | p :: r => wf p ∧ wfs r
end
theorem zero_eq {x : Tm} (h : Te.zero x = true) : x = zt := by
  obtain ⟨k, t, c, z, n⟩ := x
  simp [Te.zero, Te.same] at h
  obtain ⟨⟨⟨⟨rfl, rfl⟩, rfl⟩, rfl⟩, rfl⟩ := h
  rfl
theorem nil_eq {α : Type} {ps : List α} (h : (ps.length == 0) = true) : ps = [] := List.eq_nil_of_length_eq_zero (by simpa using h)
/-- a predicate that may be, by its kind -/
theorem kinds {f : Pf} {ps : List Pd} {d : Nat} (h : Pr.rightAt (.mk f ps) d = true) : d ≤ 4 ∧
    ((∃ u, 0 ≤ u ∧ u ≤ 2 ∧ f = ⟨1, u, 0, zt, zt⟩ ∧ ps = []) ∨ (∃ o a b, 1 ≤ o ∧ o ≤ 6 ∧ f = ⟨2, 0, o, a, b⟩ ∧ Te.right a = true ∧ Te.right b = true ∧ ps = []) ∨
     (∃ a, f = ⟨3, 0, 0, a, zt⟩ ∧ Te.right a = true ∧ ps = []) ∨ ((f = ⟨4, 0, 0, zt, zt⟩ ∨ f = ⟨5, 0, 0, zt, zt⟩) ∧ ps.length ≤ 4 ∧ Pr.rightAts ps (d + 1) = true) ∨
     (f = ⟨6, 0, 0, zt, zt⟩ ∧ ps.length = 1 ∧ Pr.rightAts ps (d + 1) = true)) := by
  obtain ⟨k, u, o, a, b⟩ := f
  rw [Pr.rightAt] at h
  simp only [Bool.and_eq_true] at h
  obtain ⟨⟨h1, h2⟩, h3⟩ := h
  unfold Pr.head at h1
  simp only [Bool.and_eq_true, Bool.or_eq_true, decide_eq_true_eq, beq_iff_eq] at h1
  obtain ⟨⟨⟨⟨⟨⟨hd, hk1⟩, hk6⟩, hu⟩, ho⟩, hb⟩, ha⟩ := h1
  refine ⟨hd, ?_⟩
  unfold Pr.tail at h3
  simp only at h3
  have hk : k = 1 ∨ k = 2 ∨ k = 3 ∨ k = 4 ∨ k = 5 ∨ k = 6 := by omega
  rcases hk with rfl | rfl | rfl | rfl | rfl | rfl
  · simp only [if_true, Bool.and_eq_true, decide_eq_true_eq] at h3
    obtain rfl : o = 0 := by omega
    obtain rfl := zero_eq (x := b) (hb.resolve_left (by omega))
    obtain rfl := zero_eq (x := a) (ha.resolve_left (by omega))
    exact .inl ⟨u, h3.1.2, h3.2, rfl, nil_eq h3.1.1⟩
  · rw [if_neg (by decide), if_pos rfl] at h3
    simp only [Bool.and_eq_true, decide_eq_true_eq] at h3
    obtain rfl : u = 0 := by omega
    exact .inr (.inl ⟨o, a, b, h3.1.1.1.2, h3.1.1.2, rfl, h3.1.2, h3.2, nil_eq h3.1.1.1.1⟩)
  · rw [if_neg (by decide), if_neg (by decide), if_pos rfl] at h3
    simp only [Bool.and_eq_true] at h3
    obtain rfl : u = 0 := by omega
    obtain rfl : o = 0 := by omega
    obtain rfl := zero_eq (x := b) (hb.resolve_left (by omega))
    exact .inr (.inr (.inl ⟨a, rfl, h3.2, nil_eq h3.1⟩))
  · rw [if_neg (by decide), if_neg (by decide), if_neg (by decide), if_neg (by decide)] at h3
    obtain rfl : u = 0 := by omega
    obtain rfl : o = 0 := by omega
    obtain rfl := zero_eq (x := b) (hb.resolve_left (by omega))
    obtain rfl := zero_eq (x := a) (ha.resolve_left (by omega))
    exact .inr (.inr (.inr (.inl ⟨.inl rfl, by simpa using h3, h2⟩)))
  · rw [if_neg (by decide), if_neg (by decide), if_neg (by decide), if_neg (by decide)] at h3
    obtain rfl : u = 0 := by omega
    obtain rfl : o = 0 := by omega
    obtain rfl := zero_eq (x := b) (hb.resolve_left (by omega))
    obtain rfl := zero_eq (x := a) (ha.resolve_left (by omega))
    exact .inr (.inr (.inr (.inl ⟨.inr rfl, by simpa using h3, h2⟩)))
  · rw [if_neg (by decide), if_neg (by decide), if_neg (by decide), if_pos rfl] at h3
    obtain rfl : u = 0 := by omega
    obtain rfl : o = 0 := by omega
    obtain rfl := zero_eq (x := b) (hb.resolve_left (by omega))
    obtain rfl := zero_eq (x := a) (ha.resolve_left (by omega))
    exact .inr (.inr (.inr (.inr ⟨rfl, by simpa using h3, h2⟩)))
theorem parts_back (tk : Nat → Got Pd) (l : List Int) : ∀ (ps : List Pd) (r : Nat) (out : List Pd) (pre post : List Int), ps ≠ [] → ps.length ≤ r → l = pre ++ (texts ps ++ (41 :: post)) →
    (∀ p ∈ ps, ∀ pre' post' : List Int, l = pre' ++ (text p ++ post') → isDig (at_ post' 0) = false → tk pre'.length = ⟨p, pre'.length + (text p).length, 0⟩) →
    parts tk l r out pre.length = ⟨out ++ ps, pre.length + (texts ps).length + 1, 0⟩
  | [], _, _, _, _, h, _, _, _ => absurd rfl h
  | [p], 0, _, _, _, _, h, _, _ => by simp at h
  | [p], r + 1, out, pre, post, _, _, hl, ht => by
    have e : texts [p] = text p := by rw [texts]
    rw [e] at hl ⊢
    have h1 := ht p List.mem_cons_self pre (41 :: post) hl (show isDig 41 = false by decide)
    have h2 : at_ l (pre.length + (text p).length) = 41 := by
      have := at_app (pre ++ text p) (41 :: post) 0
      rw [List.length_append, Nat.add_zero, List.append_assoc, ← hl] at this
      rw [this]; rfl
    rw [parts]
    simp only [h1, ne_eq, not_true_eq_false, if_false, h2, if_true]
  | p :: q :: r', 0, _, _, _, _, h, _, _ => by simp at h
  | p :: q :: r', r + 1, out, pre, post, _, hr, hl, ht => by
    have e : texts (p :: q :: r') = text p ++ [59] ++ texts (q :: r') := by rw [texts]
    rw [e] at hl ⊢
    have hl1 : l = pre ++ (text p ++ (59 :: (texts (q :: r') ++ (41 :: post)))) := by rw [hl]; simp
    have h1 := ht p List.mem_cons_self pre _ hl1 (show isDig 59 = false by decide)
    have h2 : at_ l (pre.length + (text p).length) = 59 := by
      have := at_app (pre ++ text p) (59 :: (texts (q :: r') ++ (41 :: post))) 0
      rw [List.length_append, Nat.add_zero, List.append_assoc, ← hl1] at this
      rw [this]; rfl
    rw [parts]
    simp only [h1, ne_eq, not_true_eq_false, if_false, h2]
    rw [if_neg (by decide)]
    have h3 := parts_back tk l (q :: r') r (out ++ [p]) (pre ++ text p ++ [59]) post (by simp) (by simpa using hr) (by rw [hl]; simp) (fun x hx => ht x (List.mem_cons_of_mem _ hx))
    have e2 : (pre ++ text p ++ [(59 : Int)]).length = pre.length + (text p).length + 1 := by simp; omega
    rw [e2] at h3
    rw [h3]
    congr 1
    · simp
    · simp; omega
theorem text_head {p : Pd} {d : Nat} (h : Pr.rightAt p d = true) : ∃ c s, text p = c :: s ∧ c ≠ 41 := by
  obtain ⟨f, ps⟩ := p
  obtain ⟨_, ⟨u, h0, h2, rfl, rfl⟩ | ⟨o, a, b, h1, h6, rfl, _, _, rfl⟩ | ⟨a, rfl, _, rfl⟩ | ⟨rfl | rfl, _⟩ | ⟨rfl, _⟩⟩ := kinds h
  · have : u = 0 ∨ u = 1 ∨ u = 2 := by omega
    rcases this with rfl | rfl | rfl <;> exact ⟨_, _, rfl, by decide⟩
  · have : o = 1 ∨ o = 2 ∨ o = 3 ∨ o = 4 ∨ o = 5 ∨ o = 6 := by omega
    rcases this with rfl | rfl | rfl | rfl | rfl | rfl <;> exact ⟨_, _, rfl, by dsimp only; decide⟩
  · exact ⟨_, _, rfl, by decide⟩
  · exact ⟨_, _, rfl, by decide⟩
  · exact ⟨_, _, rfl, by decide⟩
  · exact ⟨_, _, rfl, by decide⟩
theorem wfs_at {ps : List Pd} (h : wfs ps) : ∀ p ∈ ps, wf p := by
  induction ps with
  | nil => intro p hp; simp at hp
  | cons q r ih =>
    rw [wfs] at h
    intro p hp
    rcases List.mem_cons.1 hp with rfl | hp
    · exact h.1
    · exact ih h.2 p hp
theorem back : ∀ (n : Nat) (p : Pd) (d : Nat) (pre post : List Int), Pr.size p ≤ n → Pr.rightAt p d = true → wf p → isDig (at_ post 0) = false → take (pre ++ (text p ++ post)) (5 - d) pre.length = ⟨p, pre.length + (text p).length, 0⟩ := by
  intro n
  induction n with
  | zero => intro p d pre post h; have := Pr.size_pos p; omega
  | succ n ih =>
    intro p d pre post hs hr hw hp
    obtain ⟨f, ps⟩ := p
    rw [wf] at hw
    obtain ⟨wa, wb, wps⟩ := hw
    rw [Pr.size] at hs
    obtain ⟨hd, hk⟩ := kinds hr
    have hparts : ∀ x ∈ ps, Pr.rightAts ps (d + 1) = true → ∀ pre' post' : List Int, isDig (at_ post' 0) = false → take (pre' ++ (text x ++ post')) (4 - d) pre'.length = ⟨x, pre'.length + (text x).length, 0⟩ := by
      intro x hx hra pre' post' hp'
      obtain ⟨j, hj, hjx⟩ := List.mem_iff_getElem.1 hx
      have h1 := Pr.sizes_at (l := ps) (j := j) (p := x) (by rw [List.getElem?_eq_getElem hj, hjx])
      have := ih x (d + 1) pre' post' (by omega) ((Pr.rightAts_iff ps (d + 1)).1 hra x hx) (wfs_at wps x hx) hp'
      rwa [show 5 - (d + 1) = 4 - d by omega] at this
    rw [show 5 - d = (4 - d) + 1 by omega, take]
    rcases hk with ⟨u, h0, h2, rfl, rfl⟩ | ⟨o, a, b, h1, h6, rfl, ha, hb, rfl⟩ | ⟨a, rfl, ha, rfl⟩ | ⟨hf, hl, hra⟩ | ⟨rfl, hl, hra⟩
    · have hat : at_ (pre ++ (text (.mk ⟨1, u, 0, zt, zt⟩ []) ++ post)) pre.length = truths.getD u.toNat (-1) := by rw [at_here]; rfl
      rw [hat]
      have : u = 0 ∨ u = 1 ∨ u = 2 := by omega
      rcases this with rfl | rfl | rfl <;> rfl
    · have e : text (.mk ⟨2, 0, o, a, b⟩ []) = signs.getD (o - 1).toNat (-1) :: termText a ++ [44] ++ termText b := rfl
      rw [e]
      have hat : at_ (pre ++ (signs.getD (o - 1).toNat (-1) :: termText a ++ [44] ++ termText b ++ post)) pre.length = signs.getD (o - 1).toNat (-1) := by rw [at_here]; rfl
      have t1 := term_back (pre := pre ++ [signs.getD (o - 1).toNat (-1)]) (post := [44] ++ termText b ++ post) ha wa (by rw [List.append_assoc, List.singleton_append]; rfl)
      have t2 := term_back (pre := pre ++ [signs.getD (o - 1).toNat (-1)] ++ termText a ++ [44]) (post := post) hb wb hp
      have e1 : pre ++ [signs.getD (o - 1).toNat (-1)] ++ (termText a ++ ([44] ++ termText b ++ post)) = pre ++ (signs.getD (o - 1).toNat (-1) :: termText a ++ [44] ++ termText b ++ post) := by simp
      have e2 : pre ++ [signs.getD (o - 1).toNat (-1)] ++ termText a ++ [44] ++ (termText b ++ post) = pre ++ (signs.getD (o - 1).toNat (-1) :: termText a ++ [44] ++ termText b ++ post) := by simp
      have e3 : (pre ++ [signs.getD (o - 1).toNat (-1)]).length = pre.length + 1 := by simp
      have e4 : (pre ++ [signs.getD (o - 1).toNat (-1)] ++ termText a ++ [44]).length = pre.length + 1 + (termText a).length + 1 := by simp; omega
      rw [e1, e3] at t1
      rw [e2, e4] at t2
      have hat2 : at_ (pre ++ (signs.getD (o - 1).toNat (-1) :: termText a ++ [44] ++ termText b ++ post)) (pre.length + 1 + (termText a).length) = 44 := by
        have := at_app (pre ++ [signs.getD (o - 1).toNat (-1)] ++ termText a) ([44] ++ (termText b ++ post)) 0
        rw [Nat.add_zero] at this
        have e5 : (pre ++ [signs.getD (o - 1).toNat (-1)] ++ termText a).length = pre.length + 1 + (termText a).length := by simp; omega
        rw [e5] at this
        rw [← e2, show pre ++ [signs.getD (o - 1).toNat (-1)] ++ termText a ++ [44] ++ (termText b ++ post) = pre ++ [signs.getD (o - 1).toNat (-1)] ++ termText a ++ ([44] ++ (termText b ++ post)) by simp, this]
        rfl
      have hpl : place truths (signs.getD (o - 1).toNat (-1)) = none ∧ place signs (signs.getD (o - 1).toNat (-1)) = some (o - 1).toNat := by
        have : o = 1 ∨ o = 2 ∨ o = 3 ∨ o = 4 ∨ o = 5 ∨ o = 6 := by omega
        rcases this with rfl | rfl | rfl | rfl | rfl | rfl <;> exact ⟨by decide, by decide⟩
      simp only [hat, hpl.1, hpl.2, t1, ne_eq, not_true_eq_false, if_false, hat2, t2]
      have e6 : (((o - 1).toNat : Nat) : Int) + 1 = o := by omega
      rw [e6]
      congr 1
      simp; omega
    · have e : text (.mk ⟨3, 0, 0, a, zt⟩ []) = 0x2205 :: termText a := rfl
      rw [e]
      have hat : at_ (pre ++ (0x2205 :: termText a ++ post)) pre.length = 0x2205 := by rw [at_here]; rfl
      have t1 := term_back (pre := pre ++ [0x2205]) (post := post) ha wa hp
      have e1 : pre ++ [0x2205] ++ (termText a ++ post) = pre ++ (0x2205 :: termText a ++ post) := by simp
      have e3 : (pre ++ [(0x2205 : Int)]).length = pre.length + 1 := by simp
      rw [e1, e3] at t1
      rw [hat]
      have p1 : place truths 0x2205 = none := by decide
      have p2 : place signs 0x2205 = none := by decide
      simp only [p1, p2, if_true, t1]
      congr 1
      simp; omega
    · have hlist : ∀ c : Int, list (take (pre ++ ([c, 40] ++ texts ps ++ [41] ++ post)) (4 - d)) (pre ++ ([c, 40] ++ texts ps ++ [41] ++ post)) (pre.length + 1) = ⟨ps, pre.length + ([c, 40] ++ texts ps ++ [41]).length, 0⟩ := by
        intro c
        have a1 : at_ (pre ++ ([c, 40] ++ texts ps ++ [41] ++ post)) (pre.length + 1) = 40 := by rw [at_app]; rfl
        unfold list
        rw [a1]
        simp only [ne_eq, not_true_eq_false, if_false]
        cases hps : ps with
        | nil =>
          have a2 : at_ (pre ++ ([c, 40] ++ texts [] ++ [41] ++ post)) (pre.length + 1 + 1) = 41 := by rw [Nat.add_assoc, at_app]; rfl
          rw [if_pos a2]
          rfl
        | cons x r =>
          rw [← hps]
          obtain ⟨y, z, hy, hne⟩ := text_head ((Pr.rightAts_iff ps (d + 1)).1 hra x (by rw [hps]; exact List.mem_cons_self))
          have htx : ∃ z', texts ps = y :: z' := by
            rw [hps]
            cases r with
            | nil => exact ⟨z, by rw [texts, hy]⟩
            | cons q r' => exact ⟨z ++ [59] ++ texts (q :: r'), by rw [texts, hy]; rfl⟩
          obtain ⟨z', hz'⟩ := htx
          have a2 : at_ (pre ++ ([c, 40] ++ texts ps ++ [41] ++ post)) (pre.length + 1 + 1) ≠ 41 := by rw [Nat.add_assoc, at_app, hz']; exact hne
          rw [if_neg a2]
          have h3 := parts_back (take (pre ++ ([c, 40] ++ texts ps ++ [41] ++ post)) (4 - d)) (pre ++ ([c, 40] ++ texts ps ++ [41] ++ post)) ps 4 [] (pre ++ [c, 40]) post (by rw [hps]; simp) hl (by simp) (fun x hx pre' post' he hp' => by rw [he]; exact hparts x hx hra pre' post' hp')
          have e2 : (pre ++ [c, 40]).length = pre.length + 1 + 1 := by simp
          rw [e2] at h3
          rw [h3]
          congr 1
          simp; omega
      rcases hf with rfl | rfl
      · have e : text (.mk ⟨4, 0, 0, zt, zt⟩ ps) = [0x2227, 40] ++ texts ps ++ [41] := by rw [text]; rfl
        rw [e]
        have hat : at_ (pre ++ ([0x2227, 40] ++ texts ps ++ [41] ++ post)) pre.length = 0x2227 := by rw [at_here]; rfl
        have p1 : place truths 0x2227 = none := by decide
        have p2 : place signs 0x2227 = none := by decide
        have h3 := hlist 0x2227
        simp only [hat, p1, p2, h3]
        rfl
      · have e : text (.mk ⟨5, 0, 0, zt, zt⟩ ps) = [0x2228, 40] ++ texts ps ++ [41] := by rw [text]; rfl
        rw [e]
        have hat : at_ (pre ++ ([0x2228, 40] ++ texts ps ++ [41] ++ post)) pre.length = 0x2228 := by rw [at_here]; rfl
        have p1 : place truths 0x2228 = none := by decide
        have p2 : place signs 0x2228 = none := by decide
        have h3 := hlist 0x2228
        simp only [hat, p1, p2, h3]
        rfl
    · obtain ⟨x, rfl⟩ : ∃ x, ps = [x] := by
        cases ps with
        | nil => simp at hl
        | cons x r => cases r with
          | nil => exact ⟨x, rfl⟩
          | cons q r' => simp at hl
      have e : text (.mk ⟨6, 0, 0, zt, zt⟩ [x]) = 0xAC :: text x := by rw [text, texts]; rfl
      rw [e]
      have hat : at_ (pre ++ (0xAC :: text x ++ post)) pre.length = 0xAC := by rw [at_here]; rfl
      have t1 := hparts x List.mem_cons_self hra (pre ++ [0xAC]) post hp
      have e1 : pre ++ [0xAC] ++ (text x ++ post) = pre ++ (0xAC :: text x ++ post) := by simp
      have e3 : (pre ++ [(0xAC : Int)]).length = pre.length + 1 := by simp
      rw [e1, e3] at t1
      have p1 : place truths 0xAC = none := by decide
      have p2 : place signs 0xAC = none := by decide
      simp only [hat, p1, p2, t1]
      rw [if_neg (by decide), if_neg (by decide), if_pos trivial]
      simp only [List.length_cons]
      congr 1
      omega
/-! ### The other way round -/
theorem digits_back {ds : List Int} (hall : ds.all isDig = true) (hne : ds ≠ []) (h48 : ds.head? = some 48 → ds = [48]) : digits (val ds) = ds := by
  have hm : (ds.map fun c => UInt8.ofNat c.toNat).map (fun c => (c.toNat : Int)) = ds := by
    rw [List.map_map]
    have : ∀ c ∈ ds, ((fun c : UInt8 => (c.toNat : Int)) ∘ fun c : Int => UInt8.ofNat c.toNat) c = c := by
      intro c hc
      have h := List.all_eq_true.1 hall c hc
      unfold isDig at h
      simp at h
      simp only [Function.comp]
      rw [UInt8.toNat_ofNat']
      omega
    rw [List.map_congr_left this, List.map_id']
  generalize hb : (ds.map fun c => UInt8.ofNat c.toNat) = bs at hm
  have hbs : bs.all Va.isD = true := by
    rw [List.all_eq_true]
    intro b hb2
    rw [← hb] at hb2
    obtain ⟨c, hc, rfl⟩ := List.mem_map.1 hb2
    have h := List.all_eq_true.1 hall c hc
    unfold isDig at h
    simp at h
    rw [Va.isD_iff, UInt8.toNat_ofNat']
    omega
  have hv : val ds = Va.num 0 bs := by
    rw [← hm]
    exact val_digits bs 0 hbs
  have hcan : Va.can bs = true := by
    unfold Va.can
    rw [hbs, Bool.true_and, Bool.or_eq_true]
    by_cases he : bs.head? = some 48
    · left
      have hh : ds.head? = some 48 := by
        rw [← hm, List.head?_map, he]; rfl
      have hd := h48 hh
      rw [← hb, hd]
      decide
    · right
      rw [Bool.and_eq_true]
      refine ⟨decide_eq_true (fun h => hne (by rw [← hm, h]; rfl)), decide_eq_true he⟩
  unfold digits
  rw [hv, Va.digits_num hcan, hm]
theorem run_all (l : List Int) (i : Nat) : ((l.drop i).take (run l i)).all isDig = true ∧ ((l.drop i).take (run l i)).length = run l i := by
  unfold run
  have key : ∀ r : List Int, r.take (r.takeWhile isDig).length = r.takeWhile isDig := by
    intro r
    induction r with
    | nil => rfl
    | cons c s ih =>
      rw [List.takeWhile_cons]
      cases isDig c
      · rfl
      · simp [ih]
  rw [key]
  refine ⟨?_, rfl⟩
  generalize l.drop i = r
  induction r with
  | nil => rfl
  | cons c s ih =>
    rw [List.takeWhile_cons]
    cases hc : isDig c
    · rfl
    · rw [if_pos rfl, List.all_cons, hc, ih]; rfl
theorem at_head (l : List Int) (i : Nat) : at_ l i = ((l.drop i).head?).getD (-1) := by
  unfold at_
  rw [List.getD_eq_getElem?_getD, List.head?_drop]
theorem at_cons {l : List Int} {i : Nat} {c : Int} (h : at_ l i = c) (hc : c ≠ -1) : l.drop i = c :: l.drop (i + 1) := by
  rw [at_head] at h
  cases hd : l.drop i with
  | nil => rw [hd] at h; exact absurd h.symm hc
  | cons x r =>
    rw [hd] at h
    have hx : x = c := h
    have : l.drop (i + 1) = r := by rw [← List.drop_drop, hd]; rfl
    rw [this, hx]
theorem run_took {l : List Int} {s : Nat} (h0 : run l s ≠ 0) (h1 : at_ l s = 48 → run l s = 1) : digits (val ((l.drop s).take (run l s))) = (l.drop s).take (run l s) := by
  obtain ⟨ha, hn⟩ := run_all l s
  refine digits_back ha ?_ ?_
  · intro he
    rw [he] at hn
    exact h0 hn.symm
  · intro hh
    have hat : at_ l s = 48 := by
      rw [at_head]
      cases hd : l.drop s with
      | nil => rw [hd] at hh; simp at hh
      | cons x r =>
        rw [hd] at hh
        cases hr : run l s with
        | zero => exact absurd hr h0
        | succ n => rw [hr] at hh; simpa using hh
    rw [h1 hat, at_cons hat (by decide)]
    rfl
/-- what a number is, where one stands -/
theorem number_took {l : List Int} {i e : Nat} {minus : Bool} {most v : Int} (h : number l i minus most = ⟨v, e, 0⟩) :
    v ≤ most ∧ I64 v ∧ (minus = false → 0 ≤ v) ∧ e = i + (whole v).length ∧ (l.drop i).take (whole v).length = whole v := by
  unfold number at h
  simp only at h
  by_cases hg : (minus && at_ l i == 45) = true
  · rw [hg] at h
    simp only [if_true, and_true] at h
    have hm : minus = true := by revert hg; cases minus <;> simp
    have h45 : at_ l i = 45 := by rw [hm] at hg; simpa using hg
    by_cases hn : run l (i + 1) = 0
    · rw [if_pos hn] at h; injection h with _ _ he; exact absurd he (by decide)
    rw [if_neg hn] at h
    by_cases h1 : at_ l (i + 1) = 48 ∧ 1 < run l (i + 1)
    · rw [if_pos h1] at h; injection h with _ _ he; exact absurd he (by decide)
    rw [if_neg h1] at h
    by_cases h2 : at_ l (i + 1) = 48
    · rw [if_pos h2] at h; injection h with _ _ he; exact absurd he (by decide)
    rw [if_neg h2] at h
    have hd := run_took hn (fun h => absurd h h2)
    generalize hds : (l.drop (i + 1)).take (run l (i + 1)) = ds at h hd
    have hl : ds.length = run l (i + 1) := by rw [← hds]; exact (run_all l (i + 1)).2
    split at h
    · injection h with _ _ he; exact absurd he (by decide)
    next h3 =>
    injection h with hv he _
    have hm0 : val ds ≠ 0 := by
      intro h0
      rw [h0, digits_zero] at hd
      refine h2 ?_
      rw [at_head]
      cases hq : l.drop (i + 1) with
      | nil => rw [hq, ← hd] at hds; simp at hds
      | cons x r =>
        rw [hq, ← hd] at hds
        cases hr : run l (i + 1) with
        | zero => exact absurd hr hn
        | succ n => rw [hr] at hds; simp at hds; exact hds.1
    have hw : whole v = 45 :: ds := by
      unfold whole
      rw [if_pos (by omega)]
      have : v.natAbs = val ds := by omega
      rw [this, hd]
    rw [hw]
    refine ⟨by omega, ⟨by omega, by omega⟩, fun hf => by rw [hm] at hf; exact absurd hf (by decide), ?_, ?_⟩
    · rw [List.length_cons, hl]; omega
    · rw [at_cons h45 (by decide), List.length_cons, List.take_succ_cons, hl, hds]
  · rw [Bool.not_eq_true] at hg
    rw [hg] at h
    simp only [Bool.false_eq_true, if_false, and_false] at h
    by_cases hn : run l i = 0
    · rw [if_pos hn] at h; injection h with _ _ he; exact absurd he (by decide)
    rw [if_neg hn] at h
    by_cases h1 : at_ l i = 48 ∧ 1 < run l i
    · rw [if_pos h1] at h; injection h with _ _ he; exact absurd he (by decide)
    rw [if_neg h1] at h
    have hd := run_took hn (fun h => by
      have : ¬ 1 < run l i := fun h' => h1 ⟨h, h'⟩
      omega)
    generalize hds : (l.drop i).take (run l i) = ds at h hd
    have hl : ds.length = run l i := by rw [← hds]; exact (run_all l i).2
    split at h
    · injection h with _ _ he; exact absurd he (by decide)
    next h3 =>
    injection h with hv he _
    have hw : whole v = ds := by
      unfold whole
      rw [if_neg (by omega)]
      have : v.natAbs = val ds := by omega
      rw [this, hd]
    rw [hw]
    refine ⟨by omega, ⟨by omega, by omega⟩, fun _ => by omega, by omega, ?_⟩
    rw [hl, hds]
/-- a text stands at i, and ends ahead of e -/
def Stands (l : List Int) (i : Nat) (t : List Int) (e : Nat) : Prop := e = i + t.length ∧ (l.drop i).take t.length = t
theorem Stands.one {l : List Int} {i : Nat} {c : Int} (h : at_ l i = c) (hc : c ≠ -1) : Stands l i [c] (i + 1) := by
  refine ⟨rfl, ?_⟩
  rw [at_cons h hc]
  rfl
theorem Stands.app {l t u : List Int} {i j k : Nat} (h : Stands l i t j) (g : Stands l j u k) : Stands l i (t ++ u) k := by
  obtain ⟨rfl, h2⟩ := h
  obtain ⟨rfl, g2⟩ := g
  refine ⟨by rw [List.length_append]; omega, ?_⟩
  rw [List.length_append, List.take_add, h2, List.drop_drop, g2]
theorem number_stands {l : List Int} {i e : Nat} {minus : Bool} {most v : Int} (h : number l i minus most = ⟨v, e, 0⟩) : Stands l i (whole v) e :=
  ⟨(number_took h).2.2.2.1, (number_took h).2.2.2.2⟩
/-- what a term is, where one stands -/
theorem term_took {l : List Int} {i e : Nat} {x : Tm} (h : term l i = ⟨x, e, 0⟩) : Te.right x = true ∧ I64 x.n ∧ Stands l i (termText x) e := by
  unfold term at h
  by_cases h1 : at_ l i = 39 ∧ at_ l (i + 1) = 0x2205
  · rw [if_pos h1] at h
    injection h with hx he _
    subst hx he
    exact ⟨by decide, ⟨by decide, by decide⟩, Stands.app (Stands.one h1.1 (by decide)) (Stands.one h1.2 (by decide))⟩
  rw [if_neg h1] at h
  by_cases h2 : at_ l i = 39
  · rw [if_pos h2] at h
    simp only at h
    generalize hn : number l (i + 1) true 9223372036854775807 = n at h
    obtain ⟨nx, ni, ne⟩ := n
    injection h with hx he h0
    simp only at h0 he hx
    subst hx he h0
    exact ⟨by simp [Te.right, Va.right], (number_took hn).2.1, Stands.app (Stands.one h2 (by decide)) (number_stands hn)⟩
  rw [if_neg h2] at h
  simp only at h
  generalize hn : number l i false 63 = n at h
  obtain ⟨nx, ni, ne⟩ := n
  simp only at h
  by_cases h3 : ne = 0
  rotate_left
  · rw [if_pos h3] at h
    injection h with _ _ h0
    exact absurd h0 h3
  rw [if_neg (fun g => g h3)] at h
  subst h3
  by_cases h4 : at_ l ni = 46
  rotate_left
  · rw [if_pos h4] at h
    injection h with _ _ h0
    exact absurd h0 (by decide)
  rw [if_neg (fun g => g h4)] at h
  generalize hm : number l (ni + 1) false 3 = m at h
  obtain ⟨mx, mi, me⟩ := m
  injection h with hx he h0
  simp only at h0 he hx
  subst hx he h0
  obtain ⟨n1, _, n0, _⟩ := number_took hn
  obtain ⟨m1, _, m0, _⟩ := number_took hm
  have n0' := n0 rfl
  have m0' := m0 rfl
  refine ⟨?_, (⟨by decide, by decide⟩ : I64 0), Stands.app (Stands.app (number_stands hn) (Stands.one h4 (by decide))) (number_stands hm)⟩
  unfold Te.right
  simp only [if_true]
  rw [Te.below_yes n0' (by omega), Te.below_yes m0' (by omega)]
  rfl
theorem parts_took (tk : Nat → Got Pd) (l : List Int) (d : Nat) (htk : ∀ i p e, tk i = ⟨p, e, 0⟩ → Pr.rightAt p d = true ∧ wf p ∧ Stands l i (text p) e) :
    ∀ (r : Nat) (out : List Pd) (i : Nat) (ps : List Pd) (e : Nat), parts tk l r out i = ⟨ps, e, 0⟩ →
    ∃ qs, qs ≠ [] ∧ ps = out ++ qs ∧ qs.length ≤ r ∧ Pr.rightAts qs d = true ∧ wfs qs ∧ Stands l i (texts qs ++ [41]) e := by
  intro r
  induction r with
  | zero =>
    intro out i ps e h
    rw [parts] at h
    injection h with _ _ h0
    exact absurd h0 (by decide)
  | succ r ih =>
    intro out i ps e h
    rw [parts] at h
    generalize hp : tk i = p at h
    obtain ⟨px, pi, pe⟩ := p
    simp only at h
    by_cases h1 : pe = 0
    rotate_left
    · rw [if_pos h1] at h
      injection h with _ _ h0
      exact absurd h0 h1
    rw [if_neg (fun g => g h1)] at h
    subst h1
    obtain ⟨a1, a2, a3⟩ := htk i px pi hp
    by_cases h2 : at_ l pi = 41
    · rw [if_pos h2] at h
      injection h with hx he _
      subst hx he
      refine ⟨[px], by simp, rfl, by simp, ?_, ?_, ?_⟩
      · rw [Pr.rightAts, Pr.rightAts, a1]; rfl
      · exact ⟨a2, trivial⟩
      · rw [texts]
        exact a3.app (Stands.one h2 (by decide))
    rw [if_neg h2] at h
    by_cases h3 : at_ l pi = 59
    rotate_left
    · rw [if_pos h3] at h
      injection h with _ _ h0
      exact absurd h0 (by decide)
    rw [if_neg (fun g => g h3)] at h
    obtain ⟨qs, q0, q1, q2, q3, q4, q5⟩ := ih _ _ _ _ h
    refine ⟨px :: qs, by simp, by rw [q1, List.append_assoc]; rfl, by rw [List.length_cons]; omega, ?_, ⟨a2, q4⟩, ?_⟩
    · rw [Pr.rightAts, a1, q3]; rfl
    · cases qs with
      | nil => exact absurd rfl q0
      | cons q qs =>
        rw [texts, List.append_assoc]
        exact (a3.app (Stands.one h3 (by decide))).app q5
theorem place_some {r : List Int} {c : Int} {j : Nat} (h : place r c = some j) : j < r.length ∧ r.getD j (-1) = c := by
  unfold place at h
  rw [List.findIdx?_eq_some_iff_getElem] at h
  obtain ⟨h1, h2, _⟩ := h
  refine ⟨h1, ?_⟩
  rw [List.getD_eq_getElem?_getD, List.getElem?_eq_getElem h1]
  simpa using h2
/-- a predicate's own fields may be -/
theorem right_made {f : Pf} {ps : List Pd} {d : Nat} (hd : d ≤ 4) (hp : Pr.rightAts ps (d + 1) = true)
    (h : (∃ u, 0 ≤ u ∧ u ≤ 2 ∧ f = ⟨1, u, 0, zt, zt⟩ ∧ ps = []) ∨ (∃ o a b, 1 ≤ o ∧ o ≤ 6 ∧ f = ⟨2, 0, o, a, b⟩ ∧ Te.right a = true ∧ Te.right b = true ∧ ps = []) ∨
     (∃ a, f = ⟨3, 0, 0, a, zt⟩ ∧ Te.right a = true ∧ ps = []) ∨ ((f = ⟨4, 0, 0, zt, zt⟩ ∨ f = ⟨5, 0, 0, zt, zt⟩) ∧ ps.length ≤ 4) ∨
     (f = ⟨6, 0, 0, zt, zt⟩ ∧ ps.length = 1)) : Pr.rightAt (.mk f ps) d = true := by
  have zz : Te.zero zt = true := by decide
  rw [Pr.rightAt, hp]
  unfold Pr.head Pr.tail
  rw [decide_eq_true hd]
  rcases h with ⟨u, h0, h1, rfl, rfl⟩ | ⟨o, a, b, h0, h1, rfl, ha, hb, rfl⟩ | ⟨a, rfl, ha, rfl⟩ | ⟨rfl | rfl, hl⟩ | ⟨rfl, hl⟩
  · simp [zz, h0, h1]
  · simp [h0, h1, ha, hb]
  · simp [zz, ha]
  · simp [zz, hl]
  · simp [zz, hl]
  · simp [zz, hl]
/-- what a predicate is, where one stands -/
theorem took (l : List Int) : ∀ (k i : Nat) (p : Pd) (e : Nat), k ≤ 5 → take l k i = ⟨p, e, 0⟩ → Pr.rightAt p (5 - k) = true ∧ wf p ∧ Stands l i (text p) e := by
  intro k
  induction k with
  | zero =>
    intro i p e _ h
    rw [take] at h
    injection h with _ _ h0
    exact absurd h0 (by decide)
  | succ k ih =>
    intro i p e hk h
    have ih' := fun i p e => ih i p e (by omega)
    have hd : 5 - (k + 1) ≤ 4 := by omega
    have hd1 : 5 - k = 5 - (k + 1) + 1 := by omega
    rw [hd1] at ih'
    generalize 5 - (k + 1) = d at hd ih' ⊢
    have z64 : I64 zt.n := ⟨by decide, by decide⟩
    rw [take] at h
    simp only at h
    generalize hc : at_ l i = c at h
    split at h
    · next j hj =>
      obtain ⟨j1, j2⟩ := place_some hj
      injection h with hx he _
      subst hx he
      have j3 : j < 3 := j1
      refine ⟨right_made hd rfl (.inl ⟨j, by omega, by omega, rfl, rfl⟩), ⟨z64, z64, trivial⟩, ?_⟩
      have ht : text (.mk (bare 1 j 0 zt zt) []) = [c] := by
        rw [text, ← j2]; rfl
      rw [ht]
      refine Stands.one hc ?_
      rw [← j2]
      obtain rfl | rfl | rfl : j = 0 ∨ j = 1 ∨ j = 2 := by omega
      all_goals decide
    split at h
    · next j hj =>
      obtain ⟨j1, j2⟩ := place_some hj
      have j3 : j < 6 := j1
      have hcne : c ≠ -1 := by
        rw [← j2]
        obtain rfl | rfl | rfl | rfl | rfl | rfl : j = 0 ∨ j = 1 ∨ j = 2 ∨ j = 3 ∨ j = 4 ∨ j = 5 := by omega
        all_goals decide
      generalize ha : term l (i + 1) = a at h
      obtain ⟨ax, ai, ae⟩ := a
      simp only at h
      by_cases h1 : ae = 0
      rotate_left
      · rw [if_pos h1] at h
        injection h with _ _ h0
        exact absurd h0 h1
      rw [if_neg (fun g => g h1)] at h
      subst h1
      by_cases h2 : at_ l ai = 44
      rotate_left
      · rw [if_pos h2] at h
        injection h with _ _ h0
        exact absurd h0 (by decide)
      rw [if_neg (fun g => g h2)] at h
      generalize hb : term l (ai + 1) = b at h
      obtain ⟨bx, bi, be⟩ := b
      injection h with hx he h0
      simp only at h0 he hx
      subst hx he h0
      obtain ⟨a1, a2, a3⟩ := term_took ha
      obtain ⟨b1, b2, b3⟩ := term_took hb
      refine ⟨right_made hd rfl (.inr (.inl ⟨_, ax, bx, by omega, by omega, rfl, a1, b1, rfl⟩)), ⟨a2, b2, trivial⟩, ?_⟩
      have ht : text (.mk (bare 2 0 (j + 1) ax bx) []) = [c] ++ termText ax ++ [44] ++ termText bx := by
        rw [text, ← j2]
        simp [bare]
      rw [ht]
      exact (((Stands.one hc hcne).app a3).app (Stands.one h2 (by decide))).app b3
    by_cases h3 : c = 0x2205
    · rw [if_pos h3] at h
      generalize ha : term l (i + 1) = a at h
      obtain ⟨ax, ai, ae⟩ := a
      injection h with hx he h0
      simp only at h0 he hx
      subst hx he h0
      obtain ⟨a1, a2, a3⟩ := term_took ha
      refine ⟨right_made hd rfl (.inr (.inr (.inl ⟨ax, rfl, a1, rfl⟩))), ⟨a2, z64, trivial⟩, ?_⟩
      have ht : text (.mk (bare 3 0 0 ax zt) []) = [0x2205] ++ termText ax := by
        rw [text]; rfl
      rw [ht]
      subst h3
      exact (Stands.one hc (by decide)).app a3
    rw [if_neg h3] at h
    by_cases h4 : c = 0x2227 ∨ c = 0x2228
    · rw [if_pos h4] at h
      generalize ha : list (take l k) l (i + 1) = a at h
      obtain ⟨ax, ai, ae⟩ := a
      injection h with hx he h0
      simp only at h0 he hx
      subst hx he h0
      have hl : Pr.rightAts ax (d + 1) = true ∧ wfs ax ∧ ax.length ≤ 4 ∧ Stands l (i + 1) ([40] ++ texts ax ++ [41]) ai := by
        unfold list at ha
        by_cases g1 : at_ l (i + 1) = 40
        rotate_left
        · rw [if_pos g1] at ha
          injection ha with _ _ h0
          exact absurd h0 (by decide)
        rw [if_neg (fun g => g g1)] at ha
        by_cases g2 : at_ l (i + 1 + 1) = 41
        · rw [if_pos g2] at ha
          injection ha with hx he _
          subst hx he
          exact ⟨rfl, trivial, by decide, (Stands.one g1 (by decide)).app (Stands.one g2 (by decide))⟩
        rw [if_neg g2] at ha
        obtain ⟨qs, q0, q1, q2, q3, q4, q5⟩ := parts_took (take l k) l (d + 1) ih' _ _ _ _ _ ha
        rw [List.nil_append] at q1
        subst q1
        refine ⟨q3, q4, q2, ?_⟩
        rw [List.append_assoc]
        exact (Stands.one g1 (by decide)).app q5
      obtain ⟨l1, l2, l3, l4⟩ := hl
      rcases h4 with rfl | rfl
      · refine ⟨right_made hd l1 (.inr (.inr (.inr (.inl ⟨.inl rfl, l3⟩)))), ⟨z64, z64, l2⟩, ?_⟩
        have ht : text (.mk (bare 4 0 0 zt zt) ax) = [0x2227] ++ ([40] ++ texts ax ++ [41]) := by
          rw [text]; rfl
        rw [if_pos rfl, ht]
        exact (Stands.one hc (by decide)).app l4
      · refine ⟨right_made hd l1 (.inr (.inr (.inr (.inl ⟨.inr rfl, l3⟩)))), ⟨z64, z64, l2⟩, ?_⟩
        have ht : text (.mk (bare 5 0 0 zt zt) ax) = [0x2228] ++ ([40] ++ texts ax ++ [41]) := by
          rw [text]; rfl
        rw [if_neg (by decide), ht]
        exact (Stands.one hc (by decide)).app l4
    rw [if_neg h4] at h
    by_cases h5 : c = 0xAC
    · rw [if_pos h5] at h
      generalize ha : take l k (i + 1) = a at h
      obtain ⟨ax, ai, ae⟩ := a
      injection h with hx he h0
      simp only at h0 he hx
      subst hx he h0
      obtain ⟨a1, a2, a3⟩ := ih' _ _ _ ha
      refine ⟨right_made hd (by rw [Pr.rightAts, Pr.rightAts, a1]; rfl) (.inr (.inr (.inr (.inr ⟨rfl, rfl⟩)))), ⟨z64, z64, a2, trivial⟩, ?_⟩
      have ht : text (.mk (bare 6 0 0 zt zt) [ax]) = [0xAC] ++ text ax := by
        rw [text, texts]; rfl
      rw [ht]
      subst h5
      exact (Stands.one hc (by decide)).app a3
    rw [if_neg h5] at h
    injection h with _ _ h0
    exact absurd h0 (by decide)
theorem takeAt_yes {l : List Int} {p : Pd} {i : Nat} (h : take l 4 0 = ⟨p, i, 0⟩) : takeAt l 0 = ⟨p, i, 0⟩ := by
  unfold takeAt
  rw [if_neg (show ¬ ((0 : Int) < 0 ∨ (l.length : Int) < 0) by omega)]
  have h' : take l 4 (0 : Int).toNat = ⟨p, i, 0⟩ := h
  rw [h']
  rfl
theorem takeAt_no {l : List Int} {p : Pd} {i : Nat} {e : Int} (h : take l 4 0 = ⟨p, i, e⟩) (he : e ≠ 0) : takeAt l 0 = ⟨zp, i, e⟩ := by
  unfold takeAt
  rw [if_neg (show ¬ ((0 : Int) < 0 ∨ (l.length : Int) < 0) by omega)]
  have h' : take l 4 (0 : Int).toNat = ⟨p, i, e⟩ := h
  rw [h']
  exact if_pos he
/-- a text that parse takes is the text of what it tells -/
theorem parse_took {l : List Int} {p : Pd} {e : Nat} (h : parse l = ⟨p, e, 0⟩) : Pr.rightAt p 1 = true ∧ wf p ∧ text p = l ∧ e = l.length := by
  unfold parse at h
  generalize ht : take l 4 0 = t at h
  obtain ⟨tx, ti, te⟩ := t
  by_cases h1 : te = 0
  rotate_left
  · rw [takeAt_no ht h1] at h
    simp only at h
    rw [if_neg (fun g => h1 g.1)] at h
    injection h with _ _ h0
    exact absurd h0 h1
  subst h1
  rw [takeAt_yes ht] at h
  simp only at h
  by_cases h2 : ti < l.length
  · rw [if_pos ⟨trivial, h2⟩] at h
    injection h with _ _ h0
    exact absurd h0 (by decide)
  rw [if_neg (fun g => h2 g.2)] at h
  injection h with hx he _
  subst hx he
  obtain ⟨a1, a2, a3, a4⟩ := took l 4 _ _ _ (by decide) ht
  rw [List.drop_zero] at a4
  have hlen : (text tx).length ≤ l.length := by
    rw [← a4, List.length_take]
    omega
  refine ⟨a1, a2, ?_, by omega⟩
  rw [← a4]
  have : (text tx).length = l.length := by omega
  rw [this, List.take_length]
/-- a predicate that may be comes back of its text -/
theorem parse_back {p : Pd} (h : Pr.rightAt p 1 = true) (hw : wf p) : parse (text p) = ⟨p, (text p).length, 0⟩ := by
  have t := back _ p 1 [] [] (Nat.le_refl _) h hw (by decide)
  rw [List.nil_append, List.append_nil, List.length_nil, Nat.zero_add] at t
  unfold parse
  rw [takeAt_yes t]
  simp
/-! ### The runes of a text are no surrogates, and not the mark of a wrong byte -/
def Low (r : Int) : Prop := 0 ≤ r ∧ r < 55296
theorem low_all {l m : List Int} (h : ∀ r ∈ l, Low r) (g : ∀ r ∈ m, Low r) : ∀ r ∈ l ++ m, Low r := fun r hr => (List.mem_append.1 hr).elim (h r) (g r)
theorem low_one {c : Int} (h : Low c) : ∀ r ∈ [c], Low r := fun _ hr => List.mem_singleton.1 hr ▸ h
theorem digits_low (n : Nat) : ∀ r ∈ digits n, Low r := by
  intro r hr
  have h := List.all_eq_true.1 (digits_all n) r hr
  unfold isDig at h
  simp at h
  exact ⟨by omega, by omega⟩
theorem whole_low (n : Int) : ∀ r ∈ whole n, Low r := by
  unfold whole
  split
  · exact low_all (l := [45]) (low_one ⟨by decide, by decide⟩) (digits_low _)
  · exact digits_low _
theorem term_low (x : Tm) : ∀ r ∈ termText x, Low r := by
  unfold termText
  split
  · exact low_all (low_all (whole_low _) (low_one ⟨by decide, by decide⟩)) (whole_low _)
  split
  · exact low_all (l := [39]) (low_one ⟨by decide, by decide⟩) (low_one ⟨by decide, by decide⟩)
  · exact low_all (l := [39]) (low_one ⟨by decide, by decide⟩) (whole_low _)
theorem texts_low : ∀ ps : List Pd, (∀ p ∈ ps, ∀ r ∈ text p, Low r) → ∀ r ∈ texts ps, Low r
  | [], _ => by rw [texts]; simp
  | [p], h => by rw [texts]; exact h p List.mem_cons_self
  | p :: q :: s, h => by
    rw [texts]
    exact low_all (low_all (h p List.mem_cons_self) (low_one ⟨by decide, by decide⟩)) (texts_low (q :: s) fun x hx => h x (List.mem_cons_of_mem _ hx))
theorem text_low : ∀ (n : Nat) (p : Pd) (d : Nat), Pr.size p ≤ n → Pr.rightAt p d = true → ∀ r ∈ text p, Low r := by
  intro n
  induction n with
  | zero => intro p d h; have := Pr.size_pos p; omega
  | succ n ih =>
    intro p d hs hr
    obtain ⟨f, ps⟩ := p
    rw [Pr.size] at hs
    obtain ⟨hd, hk⟩ := kinds hr
    have hparts : Pr.rightAts ps (d + 1) = true → ∀ r ∈ texts ps, Low r := by
      intro hra
      refine texts_low ps fun x hx => ?_
      obtain ⟨j, hj, hjx⟩ := List.mem_iff_getElem.1 hx
      have h1 := Pr.sizes_at (l := ps) (j := j) (p := x) (by rw [List.getElem?_eq_getElem hj, hjx])
      exact ih x (d + 1) (by omega) ((Pr.rightAts_iff ps (d + 1)).1 hra x hx)
    rcases hk with ⟨u, h0, h2, rfl, rfl⟩ | ⟨o, a, b, h1, h6, rfl, ha, hb, rfl⟩ | ⟨a, rfl, ha, rfl⟩ | ⟨hf, hl, hra⟩ | ⟨rfl, hl, hra⟩
    · have e : text (.mk ⟨1, u, 0, zt, zt⟩ []) = [truths.getD u.toNat (-1)] := rfl
      rw [e]
      have : u = 0 ∨ u = 1 ∨ u = 2 := by omega
      rcases this with rfl | rfl | rfl <;> exact low_one ⟨by decide, by decide⟩
    · have e : text (.mk ⟨2, 0, o, a, b⟩ []) = [signs.getD (o - 1).toNat (-1)] ++ termText a ++ [44] ++ termText b := rfl
      rw [e]
      refine low_all (low_all (low_all (low_one ?_) (term_low a)) (low_one ⟨by decide, by decide⟩)) (term_low b)
      have : o = 1 ∨ o = 2 ∨ o = 3 ∨ o = 4 ∨ o = 5 ∨ o = 6 := by omega
      rcases this with rfl | rfl | rfl | rfl | rfl | rfl <;> exact ⟨by decide, by decide⟩
    · have e : text (.mk ⟨3, 0, 0, a, zt⟩ []) = [0x2205] ++ termText a := rfl
      rw [e]
      exact low_all (low_one ⟨by decide, by decide⟩) (term_low a)
    · rcases hf with rfl | rfl
      · have e : text (.mk ⟨4, 0, 0, zt, zt⟩ ps) = [0x2227] ++ ([40] ++ texts ps ++ [41]) := by rw [text]; rfl
        rw [e]
        exact low_all (low_one ⟨by decide, by decide⟩) (low_all (low_all (low_one ⟨by decide, by decide⟩) (hparts hra)) (low_one ⟨by decide, by decide⟩))
      · have e : text (.mk ⟨5, 0, 0, zt, zt⟩ ps) = [0x2228] ++ ([40] ++ texts ps ++ [41]) := by rw [text]; rfl
        rw [e]
        exact low_all (low_one ⟨by decide, by decide⟩) (low_all (low_all (low_one ⟨by decide, by decide⟩) (hparts hra)) (low_one ⟨by decide, by decide⟩))
    · have e : text (.mk ⟨6, 0, 0, zt, zt⟩ ps) = [0xAC] ++ texts ps := by rw [text]; rfl
      rw [e]
      exact low_all (low_one ⟨by decide, by decide⟩) (hparts hra)
/-! ### No place beyond the end is told -/
theorem at_lt {l : List Int} {i : Nat} {c : Int} (h : at_ l i = c) (hc : c ≠ -1) : i < l.length := by
  have := at_cons h hc
  have hl : (l.drop i).length = (l.drop (i + 1)).length + 1 := by rw [this]; rfl
  rw [List.length_drop, List.length_drop] at hl
  omega
theorem run_le {l : List Int} {i : Nat} (h : i ≤ l.length) : i + run l i ≤ l.length := by
  have h1 := (run_all l i).2
  rw [List.length_take, List.length_drop] at h1
  omega
theorem number_le {l : List Int} {i : Nat} {minus : Bool} {most : Int} (h : i ≤ l.length) : (number l i minus most).i ≤ l.length := by
  have key : ∀ (neg : Bool) (s : Nat), s ≤ l.length → (if run l s = 0 then (⟨0, s, 1⟩ : Got Int) else if at_ l s = 48 ∧ 1 < run l s then ⟨0, s + 1, 1⟩ else if at_ l s = 48 ∧ neg = true then ⟨0, s, 1⟩
      else if (if neg then -(val ((l.drop s).take (run l s)) : Int) else val ((l.drop s).take (run l s))) < -9223372036854775808 ∨ 9223372036854775807 < (if neg then -(val ((l.drop s).take (run l s)) : Int) else val ((l.drop s).take (run l s))) ∨ most < (if neg then -(val ((l.drop s).take (run l s)) : Int) else val ((l.drop s).take (run l s))) then ⟨0, i, 3⟩
      else ⟨if neg then -(val ((l.drop s).take (run l s)) : Int) else val ((l.drop s).take (run l s)), s + run l s, 0⟩).i ≤ l.length := by
    intro neg s hs
    have hr := run_le hs
    split
    · exact hs
    split
    · next hx => exact at_lt hx.1 (by decide)
    split
    · exact hs
    repeat' split
    all_goals first | exact h | exact hr
  unfold number
  refine key (minus && at_ l i == 45) _ ?_
  split
  · next hx =>
    simp only [Bool.and_eq_true, beq_iff_eq] at hx
    exact at_lt hx.2 (by decide)
  · exact h
theorem term_le {l : List Int} {i : Nat} (h : i ≤ l.length) : (term l i).i ≤ l.length := by
  unfold term
  split
  · next hx => exact at_lt hx.2 (by decide)
  split
  · next hx => exact number_le (at_lt hx (by decide))
  · have h1 := number_le (l := l) (i := i) (minus := false) (most := 63) h
    simp only
    split
    · exact h1
    split
    · exact h1
    · next hx =>
      exact number_le (at_lt (Decidable.not_not.1 hx) (by decide))
theorem parts_le (tk : Nat → Got Pd) (l : List Int) (htk : ∀ i, i ≤ l.length → (tk i).i ≤ l.length) : ∀ (r : Nat) (out : List Pd) (i : Nat), i ≤ l.length → (parts tk l r out i).i ≤ l.length := by
  intro r
  induction r with
  | zero => intro out i h; rw [parts]; exact h
  | succ r ih =>
    intro out i h
    have h1 := htk i h
    rw [parts]
    split
    · exact h1
    split
    · next hx => exact at_lt hx (by decide)
    split
    · exact h1
    · next hx => exact ih _ _ (at_lt (Decidable.not_not.1 hx) (by decide))
theorem take_le (l : List Int) : ∀ (k i : Nat), i ≤ l.length → (take l k i).i ≤ l.length := by
  intro k
  induction k with
  | zero => intro i h; rw [take]; exact h
  | succ k ih =>
    intro i h
    rw [take]
    simp only
    generalize hc : at_ l i = c
    split
    · next j hj =>
      obtain ⟨j1, j2⟩ := place_some hj
      refine at_lt hc ?_
      have j3 : j < 3 := j1
      rw [← j2]
      obtain rfl | rfl | rfl : j = 0 ∨ j = 1 ∨ j = 2 := by omega
      all_goals decide
    split
    · next j hj =>
      obtain ⟨j1, j2⟩ := place_some hj
      have hcne : c ≠ -1 := by
        have j3 : j < 6 := j1
        rw [← j2]
        obtain rfl | rfl | rfl | rfl | rfl | rfl : j = 0 ∨ j = 1 ∨ j = 2 ∨ j = 3 ∨ j = 4 ∨ j = 5 := by omega
        all_goals decide
      have h1 := term_le (l := l) (i := i + 1) (at_lt hc hcne)
      split
      · exact h1
      split
      · exact h1
      · next hx => exact term_le (at_lt (Decidable.not_not.1 hx) (by decide))
    split
    · next hx => exact term_le (at_lt (hc.trans hx) (by decide))
    split
    · next hx =>
      have h0 : i + 1 ≤ l.length := by
        rcases hx with rfl | rfl
        · exact at_lt hc (by decide)
        · exact at_lt hc (by decide)
      show (list (take l k) l (i + 1)).i ≤ l.length
      unfold list
      split
      · exact h0
      split
      · next hy => exact at_lt hy (by decide)
      · next hz _ => exact parts_le _ l ih 4 [] _ (at_lt (Decidable.not_not.1 hz) (by decide))
    split
    · next hx => exact ih _ (at_lt (hc.trans hx) (by decide))
    · exact h
theorem parse_le (l : List Int) : (parse l).i ≤ l.length := by
  have h := take_le l 4 0 (Nat.zero_le _)
  have key : (takeAt l 0).i ≤ l.length := by
    generalize ht : take l 4 0 = t at h
    obtain ⟨p, i, e⟩ := t
    by_cases he : e = 0
    · subst he; rw [takeAt_yes ht]; exact h
    · rw [takeAt_no ht he]; exact h
  unfold parse
  simp only
  split
  · exact key
  · exact key
theorem parse_zero {l : List Int} (h : (parse l).e ≠ 0) : (parse l).x = zp := by
  unfold parse at h ⊢
  generalize ht : take l 4 0 = t at h
  obtain ⟨p, i, e⟩ := t
  by_cases he : e = 0
  · subst he
    rw [takeAt_yes ht] at h ⊢
    simp only at h ⊢
    split
    · rfl
    · next hx => rw [if_neg hx] at h; exact absurd rfl h
  · rw [takeAt_no ht he]
    simp only
    split <;> rfl
end Tx
end Go.Proofs.YteimbdklakemaaaGreatDoor
