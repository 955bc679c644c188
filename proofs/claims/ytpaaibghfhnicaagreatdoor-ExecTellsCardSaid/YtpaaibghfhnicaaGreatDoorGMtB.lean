/-
  LAID TOGETHER, BY PROGRAM, of: Mtm, Mta, Clr, Mtb, Mtc, Mtl, Mtd.
-/
import Derived.Test.YtpaaibghfhnicaaGreatDoorGPlain
import Derived.Test.YtpaaibghfhnicaaGreatDoorGBase
import Derived.Test.YtpaaibghfhnicaaGreatDoorGIter
import Derived.Test.YtpaaibghfhnicaaGreatDoorGPred
import Derived.Laws.AppendOwnNone
import Derived.Lib.BufferMore
import Derived.WalkKit
import Derived.WalkSpells
import Derived.OwnWalk
import Derived.Laws.OwnMore
import Derived.Laws.CopyOwn
import Derived.Lib.Hide
import Derived.Lib.AppendZerosOnto
import Derived.Lib.AppendZeros
/-
  TUPLES, as plain mathematics: what two of them make, which ones match, what an operator makes of one, a tuple's row.
-/
namespace Go.Proofs.YtpaaibghfhnicaaGreatDoor
namespace Mt
def row (t : List (List Vl)) (i : Nat) : List Vl := (t[i]?).getD []
theorem row_at {t : List (List Vl)} {i : Nat} {r : List Vl} (h : t[i]? = some r) : row t i = r := by unfold row; rw [h]; rfl
theorem row_out {t : List (List Vl)} {i : Nat} (h : t.length ≤ i) : row t i = [] := by unfold row; rw [List.getElem?_eq_none h]; rfl
theorem row_mem {t : List (List Vl)} {i : Nat} (h : i < t.length) : t[i]? = some (row t i) := by unfold row; rw [List.getElem?_eq_getElem h]; rfl
def pick (a b : List (List Vl)) (i : Nat) : List Vl := if (row a i).length = 0 then row b i else row a i
def merge (a b : List (List Vl)) : List (List Vl) := (List.range (max a.length b.length)).map (pick a b)
theorem merge_length (a b : List (List Vl)) : (merge a b).length = max a.length b.length := by simp [merge]
theorem merge_at (a b : List (List Vl)) {i : Nat} (h : i < max a.length b.length) : (merge a b)[i]? = some (pick a b i) := by
  unfold merge
  rw [List.getElem?_map, List.getElem?_range h]
  rfl
theorem row_nil (i : Nat) : row [] i = [] := row_out (by simp)
theorem pick_nil (a : List (List Vl)) (i : Nat) : pick a [] i = row a i := by
  unfold pick
  split
  · rename_i h; rw [row_nil, List.eq_nil_of_length_eq_zero h]
  · rfl
theorem merge_nil (a : List (List Vl)) : merge a [] = a := by
  refine List.ext_getElem? fun i => ?_
  by_cases h : i < a.length
  · rw [merge_at a [] (by simpa using h), pick_nil, row_mem h]
  · rw [List.getElem?_eq_none (by rw [merge_length]; simp; omega), List.getElem?_eq_none (by omega)]
theorem pick_mem {a b : List (List Vl)} {n : Nat} (ha : ∀ r ∈ a, r.length ≤ n) (hb : ∀ r ∈ b, r.length ≤ n) (i : Nat) : (pick a b i).length ≤ n := by
  have h : ∀ t : List (List Vl), (∀ r ∈ t, r.length ≤ n) → (row t i).length ≤ n := fun t ht => by
    by_cases h : i < t.length
    · exact ht _ (List.mem_of_getElem? (row_mem h))
    · rw [row_out (by omega)]; simp
  unfold pick
  split
  · exact h b hb
  · exact h a ha
theorem merge_mem {a b : List (List Vl)} {n : Nat} (ha : ∀ r ∈ a, r.length ≤ n) (hb : ∀ r ∈ b, r.length ≤ n) : ∀ r ∈ merge a b, r.length ≤ n := by
  intro r hr
  obtain ⟨i, _, rfl⟩ := List.mem_map.1 hr
  exact pick_mem ha hb i
def same (a b : List (List Vl)) : Bool := decide (∀ i, i < max a.length b.length → row a i = row b i)
theorem same_refl (a : List (List Vl)) : same a a = true := decide_eq_true fun _ _ => rfl
def tup (x : List (List (List Vl))) (i : Nat) : List (List Vl) := (x[i]?).getD []
theorem tup_at {x : List (List (List Vl))} {i : Nat} {t : List (List Vl)} (h : x[i]? = some t) : tup x i = t := by unfold tup; rw [h]; rfl
def list (x y : List (List (List Vl))) : Bool := decide (x.length = y.length ∧ ∀ i, i < x.length → same (tup x i) (tup y i) = true)
theorem list_refl (x : List (List (List Vl))) : list x x = true := decide_eq_true ⟨rfl, fun _ _ => same_refl _⟩
def fits (ps : List Pd) (l t : List (List Vl)) : Bool := decide (Lo.andI (ps.map (Pr.of (merge l t))) = 2)
def found (ps : List Pd) (l : List (List Vl)) (r : List (List (List Vl))) : List (List (List Vl)) := (r.filter (fits ps l)).map (merge l)
theorem found_nil (ps : List Pd) (l : List (List Vl)) : found ps l [] = [] := rfl
theorem found_take {ps : List Pd} {l : List (List Vl)} {r : List (List (List Vl))} {q : Nat} {t : List (List Vl)} (h : r[q]? = some t) :
    found ps l (r.take (q + 1)) = found ps l (r.take q) ++ (if fits ps l t then [merge l t] else []) := by
  unfold found
  rw [List.take_add_one, h, List.filter_append, List.map_append]
  congr 1
  simp only [Option.toList, List.filter_cons, List.filter_nil]
  cases fits ps l t <;> rfl
theorem found_le (ps : List Pd) (l : List (List Vl)) (r : List (List (List Vl))) : (found ps l r).length ≤ r.length := by
  unfold found
  rw [List.length_map]
  exact List.length_filter_le _ _
theorem any_found (ps : List Pd) (l : List (List Vl)) (r : List (List (List Vl))) : r.any (fits ps l) = decide (0 < (found ps l r).length) := by
  unfold found
  rw [List.length_map]
  induction r with
  | nil => rfl
  | cons t r ih =>
    rw [List.any_cons, List.filter_cons, ih]
    cases fits ps l t <;> simp
def of (k : Int) (l : List (List Vl)) (m : List (List (List Vl))) : List (List (List Vl)) :=
  if k = 1 ∨ (k = 2 ∧ 0 < m.length) then m else if k = 2 ∨ (k = 3 ∧ 0 < m.length) ∨ (k = 4 ∧ ¬ 0 < m.length) then [l] else []
def extend (k : Int) (ps : List Pd) (l : List (List Vl)) (r : List (List (List Vl))) : List (List (List Vl)) := of k l (found ps l r)
def cut (n : Nat) (r : List Vl) : List Vl := (List.range n).map fun k => (r[k]?).getD (true, 0)
theorem cut_length (n : Nat) (r : List Vl) : (cut n r).length = n := by simp [cut]
theorem cut_succ (n : Nat) (r : List Vl) : cut (n + 1) r = cut n r ++ [(r[n]?).getD (true, 0)] := by unfold cut; rw [List.range_succ, List.map_append]; rfl
theorem cut_zero (r : List Vl) : cut 0 r = [] := rfl
theorem cut_eq (n : Nat) (r : List Vl) : cut n r = r.take n ++ List.replicate (n - r.length) (true, 0) := by
  refine List.ext_getElem? fun k => ?_
  by_cases h : k < n
  · unfold cut
    rw [List.getElem?_map, List.getElem?_range h]
    by_cases g : k < r.length
    · rw [List.getElem?_append_left (by rw [List.length_take]; omega), List.getElem?_take_of_lt h, Option.map_some, List.getElem?_eq_getElem g]; rfl
    · rw [List.getElem?_append_right (by rw [List.length_take]; omega), List.getElem?_replicate, if_pos (by rw [List.length_take]; omega), Option.map_some, List.getElem?_eq_none (by omega)]; rfl
  · rw [List.getElem?_eq_none (by rw [cut_length]; omega), List.getElem?_eq_none (by simp; omega)]
def num (cols : List Int) (i : Nat) : Nat := ((cols[i]?).getD 0).toNat
def flat (t : List (List Vl)) (s : Nat) (cols : List Int) : List Vl := (List.range cols.length).flatMap fun i => if s.testBit i then cut (num cols i) (row t i) else []
def flatTo (t : List (List Vl)) (s : Nat) (cols : List Int) (k : Nat) : List Vl := (List.range k).flatMap fun i => if s.testBit i then cut (num cols i) (row t i) else []
theorem flatTo_succ (t : List (List Vl)) (s : Nat) (cols : List Int) (k : Nat) : flatTo t s cols (k + 1) = flatTo t s cols k ++ (if s.testBit k then cut (num cols k) (row t k) else []) := by
  unfold flatTo
  rw [List.range_succ, List.flatMap_append]
  simp
def flatOf (t : List (List Vl)) (cols : List Int) (js : List Nat) : List Vl := js.flatMap fun i => cut (num cols i) (row t i)
def wide (cols : List Int) (js : List Nat) : Nat := (js.map (num cols)).sum
theorem flatOf_length (t : List (List Vl)) (cols : List Int) (js : List Nat) : (flatOf t cols js).length = wide cols js := by
  unfold flatOf wide
  induction js with
  | nil => rfl
  | cons j js ih => rw [List.flatMap_cons, List.length_append, ih, cut_length, List.map_cons, List.sum_cons]
theorem flatMap_filter {α : Type} (p : Nat → Bool) (f : Nat → List α) (l : List Nat) : (l.filter p).flatMap f = l.flatMap fun i => if p i then f i else [] := by
  induction l with
  | nil => rfl
  | cons i l ih =>
    rw [List.filter_cons, List.flatMap_cons]
    cases h : p i <;> simp [ih]
theorem flat_memb (t : List (List Vl)) (s : Nat) (cols : List Int) (hc : cols.length ≤ 64) : flatOf t cols (St.memb (s &&& St.belowN ((cols.length : Int) - 1))) = flat t s cols := by
  unfold flatOf flat
  rw [show St.memb (s &&& St.belowN ((cols.length : Int) - 1)) = (List.range cols.length).filter fun i => s.testBit i from ?_, flatMap_filter]
  unfold St.memb St.membTo
  rw [show (64 : Nat) = cols.length + (64 - cols.length) by omega, List.range_add, List.filter_append]
  rw [show (List.filter (fun i => (s &&& St.belowN ((cols.length : Int) - 1)).testBit i) (List.map (fun x => cols.length + x) (List.range (64 - cols.length)))) = [] from List.filter_eq_nil_iff.2 ?_, List.append_nil]
  · refine List.filter_congr fun i hi => ?_
    have hi := List.mem_range.1 hi
    rw [Nat.testBit_and, St.testBit_belowN, decide_eq_true (show i < 64 by omega), decide_eq_true (show ((i : Nat) : Int) ≤ (cols.length : Int) - 1 by omega)]
    simp
  · intro i hi
    obtain ⟨k, _, rfl⟩ := List.mem_map.1 hi
    rw [Nat.testBit_and, St.testBit_belowN, decide_eq_false (show ¬ (((cols.length + k : Nat) : Int) ≤ (cols.length : Int) - 1) by omega)]
    simp
end Mt
end Go.Proofs.YtpaaibghfhnicaaGreatDoor

/-
  ROWS, TUPLES, LISTS OF TUPLES IN MEMORY, with the blocks that they lie in as a set.
-/
namespace Go.Proofs.YtpaaibghfhnicaaGreatDoor
open Go.RowKit

def SlOn (T : Nat → Prop) (w : World) (v : Value) (xs : List Value) : Prop :=
  ∃ A c, v = .slice A xs.length c ∧ xs.length ≤ c ∧ ∀ j u, xs[j]? = some u → ∃ b o p, A = some ⟨b, o, p⟩ ∧ T b ∧ b < w.heap.size ∧ w.cell? ((⟨b, o, p⟩ : Addr).add j) = some u
def RowOn (T : Nat → Prop) (w : World) (v : Value) (r : List Vl) : Prop :=
  ∃ A c, v = .slice A r.length c ∧ r.length ≤ c ∧ ∀ j x, r[j]? = some x → ∃ b o p, A = some ⟨b, o, p⟩ ∧ T b ∧ b < w.heap.size ∧ w.cell? ((⟨b, o, p⟩ : Addr).add (j * 2)) = some (.bool x.1) ∧ w.cell? ((⟨b, o, p⟩ : Addr).add (j * 2 + 1)) = some (.int .i64 x.2)
structure RwsIn (T : Nat → Prop) (w : World) (v : Value) (vs : List Value) (rs : List (List Vl)) : Prop where
  sl : SlOn T w v vs
  len : vs.length = rs.length
  row : ∀ (i : Nat) (r : List Vl), rs[i]? = some r → ∃ u, vs[i]? = some u ∧ RowOn T w u r
def RwsOn (T : Nat → Prop) (w : World) (v : Value) (rs : List (List Vl)) : Prop := ∃ vs, RwsIn T w v vs rs
structure TusIn (T : Nat → Prop) (w : World) (v : Value) (us : List Value) (ts : List (List (List Vl))) : Prop where
  sl : SlOn T w v us
  len : us.length = ts.length
  tup : ∀ (i : Nat) (t : List (List Vl)), ts[i]? = some t → ∃ u, us[i]? = some u ∧ RwsOn T w u t
def TusOn (T : Nat → Prop) (w : World) (v : Value) (ts : List (List (List Vl))) : Prop := ∃ us, TusIn T w v us ts

variable {T S : Nat → Prop} {w w' : World} {v : Value}
theorem SlOn.keep {xs : List Value} (h : SlOn T w v xs) (hk : Keeps S w w') (hs : ∀ k, k < w.heap.size → T k → S k) : SlOn T w' v xs := by
  obtain ⟨A, c, hv, hc, hx⟩ := h
  refine ⟨A, c, hv, hc, fun j u hj => ?_⟩
  obtain ⟨b, o, p, hA, hT, hlt, h0⟩ := hx j u hj
  exact ⟨b, o, p, hA, hT, Nat.lt_of_lt_of_le hlt hk.size, (World.cell?_of_block (by rw [add_block]; exact hk.same b hlt (hs b hlt hT))).trans h0⟩
theorem SlOn.mono {xs : List Value} (h : SlOn T w v xs) (hs : ∀ k, k < w.heap.size → T k → S k) : SlOn S w v xs := by
  obtain ⟨A, c, hv, hc, hx⟩ := h
  refine ⟨A, c, hv, hc, fun j u hj => ?_⟩
  obtain ⟨b, o, p, hA, hT, hlt, h0⟩ := hx j u hj
  exact ⟨b, o, p, hA, hs b hlt hT, hlt, h0⟩
theorem RowOn.keep {r : List Vl} (h : RowOn T w v r) (hk : Keeps S w w') (hs : ∀ k, k < w.heap.size → T k → S k) : RowOn T w' v r := by
  obtain ⟨A, c, hv, hc, hx⟩ := h
  refine ⟨A, c, hv, hc, fun j u hj => ?_⟩
  obtain ⟨b, o, p, hA, hT, hlt, h0, h1⟩ := hx j u hj
  have k : ∀ n, w'.cell? ((⟨b, o, p⟩ : Addr).add n) = w.cell? ((⟨b, o, p⟩ : Addr).add n) := fun n => World.cell?_of_block (by rw [add_block]; exact hk.same b hlt (hs b hlt hT))
  exact ⟨b, o, p, hA, hT, Nat.lt_of_lt_of_le hlt hk.size, (k _).trans h0, (k _).trans h1⟩
theorem RowOn.mono {r : List Vl} (h : RowOn T w v r) (hs : ∀ k, k < w.heap.size → T k → S k) : RowOn S w v r := by
  obtain ⟨A, c, hv, hc, hx⟩ := h
  refine ⟨A, c, hv, hc, fun j u hj => ?_⟩
  obtain ⟨b, o, p, hA, hT, hlt, h0⟩ := hx j u hj
  exact ⟨b, o, p, hA, hs b hlt hT, hlt, h0⟩
theorem RwsIn.keep {vs : List Value} {rs : List (List Vl)} (h : RwsIn T w v vs rs) (hk : Keeps S w w') (hs : ∀ k, k < w.heap.size → T k → S k) : RwsIn T w' v vs rs :=
  ⟨h.sl.keep hk hs, h.len, fun i r hi => by obtain ⟨u, hu, hr⟩ := h.row i r hi; exact ⟨u, hu, hr.keep hk hs⟩⟩
theorem RwsIn.mono {vs : List Value} {rs : List (List Vl)} (h : RwsIn T w v vs rs) (hs : ∀ k, k < w.heap.size → T k → S k) : RwsIn S w v vs rs :=
  ⟨h.sl.mono hs, h.len, fun i r hi => by obtain ⟨u, hu, hr⟩ := h.row i r hi; exact ⟨u, hu, hr.mono hs⟩⟩
theorem RwsOn.keep {rs : List (List Vl)} (h : RwsOn T w v rs) (hk : Keeps S w w') (hs : ∀ k, k < w.heap.size → T k → S k) : RwsOn T w' v rs := by
  obtain ⟨vs, h⟩ := h; exact ⟨vs, h.keep hk hs⟩
theorem RwsOn.mono {rs : List (List Vl)} (h : RwsOn T w v rs) (hs : ∀ k, k < w.heap.size → T k → S k) : RwsOn S w v rs := by
  obtain ⟨vs, h⟩ := h; exact ⟨vs, h.mono hs⟩
theorem TusIn.keep {us : List Value} {ts : List (List (List Vl))} (h : TusIn T w v us ts) (hk : Keeps S w w') (hs : ∀ k, k < w.heap.size → T k → S k) : TusIn T w' v us ts :=
  ⟨h.sl.keep hk hs, h.len, fun i r hi => by obtain ⟨u, hu, hr⟩ := h.tup i r hi; exact ⟨u, hu, hr.keep hk hs⟩⟩
theorem TusIn.mono {us : List Value} {ts : List (List (List Vl))} (h : TusIn T w v us ts) (hs : ∀ k, k < w.heap.size → T k → S k) : TusIn S w v us ts :=
  ⟨h.sl.mono hs, h.len, fun i r hi => by obtain ⟨u, hu, hr⟩ := h.tup i r hi; exact ⟨u, hu, hr.mono hs⟩⟩
theorem TusOn.keep {ts : List (List (List Vl))} (h : TusOn T w v ts) (hk : Keeps S w w') (hs : ∀ k, k < w.heap.size → T k → S k) : TusOn T w' v ts := by
  obtain ⟨vs, h⟩ := h; exact ⟨vs, h.keep hk hs⟩
theorem TusOn.mono {ts : List (List (List Vl))} (h : TusOn T w v ts) (hs : ∀ k, k < w.heap.size → T k → S k) : TusOn S w v ts := by
  obtain ⟨vs, h⟩ := h; exact ⟨vs, h.mono hs⟩
theorem keeps_below {B : Nat} (h : Below B w w') : Keeps (fun k => k < B) w w' := ⟨h.os, h.tape, h.output, h.size, fun k _ hk => h.block k hk⟩
theorem RowOn.below {r : List Vl} {B : Nat} (h : RowOn T w v r) (hb : Below B w w') (hB : w.heap.size ≤ B) : RowOn T w' v r := h.keep (keeps_below hb) fun _ hk _ => Nat.lt_of_lt_of_le hk hB
theorem RwsIn.below {vs : List Value} {r : List (List Vl)} {B : Nat} (h : RwsIn T w v vs r) (hb : Below B w w') (hB : w.heap.size ≤ B) : RwsIn T w' v vs r := h.keep (keeps_below hb) fun _ hk _ => Nat.lt_of_lt_of_le hk hB
theorem RwsOn.below {r : List (List Vl)} {B : Nat} (h : RwsOn T w v r) (hb : Below B w w') (hB : w.heap.size ≤ B) : RwsOn T w' v r := h.keep (keeps_below hb) fun _ hk _ => Nat.lt_of_lt_of_le hk hB
theorem TusOn.below {r : List (List (List Vl))} {B : Nat} (h : TusOn T w v r) (hb : Below B w w') (hB : w.heap.size ≤ B) : TusOn T w' v r := h.keep (keeps_below hb) fun _ hk _ => Nat.lt_of_lt_of_le hk hB
theorem keeps_grown {row : Option Nat} (h : w.grownBy w' row) : Keeps (fun k => row ≠ some k) w w' := ⟨h.os, h.tape, h.output, h.size, fun k hk hne => h.block k hk (fun e => hne e.symm)⟩
theorem RowOn.at_ {r : List Vl} (h : RowOn T w v r) : RowAt w v r := by
  obtain ⟨A, c, hv, hc, hx⟩ := h
  exact ⟨A, c, hv, hc, fun j x hj => by obtain ⟨b, o, p, h1, _, h3⟩ := hx j x hj; exact ⟨b, o, p, h1, h3⟩⟩
theorem RowAt.on {r : List Vl} (h : RowAt w v r) : RowOn (fun k => k < w.heap.size) w v r := by
  obtain ⟨A, c, hv, hc, hx⟩ := h
  exact ⟨A, c, hv, hc, fun j x hj => by obtain ⟨b, o, p, h1, h2, h3⟩ := hx j x hj; exact ⟨b, o, p, h1, h2, h2, h3⟩⟩
theorem SlOn.sl {xs : List Value} (h : SlOn T w v xs) : Sl w v xs := by
  obtain ⟨A, c, hv, hc, hx⟩ := h
  exact ⟨A, c, hv, hc, fun j x hj => by obtain ⟨b, o, p, h1, _, h3⟩ := hx j x hj; exact ⟨b, o, p, h1, h3⟩⟩
theorem Sl.on {xs : List Value} (h : Sl w v xs) : SlOn (fun k => k < w.heap.size) w v xs := by
  obtain ⟨A, c, hv, hc, hx⟩ := h
  exact ⟨A, c, hv, hc, fun j x hj => by obtain ⟨b, o, p, h1, h2, h3⟩ := hx j x hj; exact ⟨b, o, p, h1, h2, h2, h3⟩⟩
theorem RwsIn.of {vs : List Value} {rs : List (List Vl)} (h : RwsIn T w v vs rs) : RwsOf w v vs rs := ⟨h.sl.sl, h.len, fun i r hi => by obtain ⟨u, hu, hr⟩ := h.row i r hi; exact ⟨u, hu, hr.at_⟩⟩
theorem RwsOn.rws {rs : List (List Vl)} (h : RwsOn T w v rs) : Rws w v rs := by obtain ⟨vs, h⟩ := h; exact ⟨vs, h.of⟩
theorem Rws.on {rs : List (List Vl)} (h : Rws w v rs) : RwsOn (fun k => k < w.heap.size) w v rs := by
  obtain ⟨vs, h⟩ := h
  exact ⟨vs, h.sl.on, h.len, fun i r hi => by obtain ⟨u, hu, hr⟩ := h.row i r hi; exact ⟨u, hu, hr.on⟩⟩
theorem RowOn.nil (T : Nat → Prop) (w : World) : RowOn T w (.slice none 0 0) [] := ⟨none, 0, rfl, Nat.le_refl _, fun j x h => by simp at h⟩
theorem SlOn.nil (T : Nat → Prop) (w : World) : SlOn T w (.slice none 0 0) [] := ⟨none, 0, rfl, Nat.le_refl _, fun j x h => by simp at h⟩
theorem RwsOn.nil (T : Nat → Prop) (w : World) : RwsOn T w (.slice none 0 0) [] := ⟨[], SlOn.nil _ _, rfl, fun i r h => by simp at h⟩
theorem TusOn.nil (T : Nat → Prop) (w : World) : TusOn T w (.slice none 0 0) [] := ⟨[], SlOn.nil _ _, rfl, fun i r h => by simp at h⟩
theorem RowOn.one {r : List Vl} (h : RowOn T w v r) : v.oneCell' = true := by obtain ⟨A, c, rfl, _⟩ := h; rfl
theorem SlOn.one {xs : List Value} (h : SlOn T w v xs) : v.oneCell' = true := by obtain ⟨A, c, rfl, _⟩ := h; rfl
theorem RwsOn.one {rs : List (List Vl)} (h : RwsOn T w v rs) : v.oneCell' = true := by obtain ⟨vs, h⟩ := h; exact h.sl.one
theorem RwsOn.form {rs : List (List Vl)} (h : RwsOn T w v rs) : ∃ A c, v = .slice A rs.length c ∧ rs.length ≤ c := by
  obtain ⟨vs, ⟨A, c, hv, hc, _⟩, hl, _⟩ := h; exact ⟨A, c, by rw [← hl]; exact hv, by omega⟩
theorem TusOn.form {ts : List (List (List Vl))} (h : TusOn T w v ts) : ∃ A c, v = .slice A ts.length c ∧ ts.length ≤ c := by
  obtain ⟨vs, ⟨A, c, hv, hc, _⟩, hl, _⟩ := h; exact ⟨A, c, by rw [← hl]; exact hv, by omega⟩
theorem RowOn.form {r : List Vl} (h : RowOn T w v r) : ∃ A c, v = .slice A r.length c ∧ r.length ≤ c := by obtain ⟨A, c, hv, hc, _⟩ := h; exact ⟨A, c, hv, hc⟩
theorem RwsOn.at_ {A : Option Addr} {n c : Nat} {rs : List (List Vl)} (h : RwsOn T w (.slice A n c) rs) {i : Nat} {r : List Vl} (hi : rs[i]? = some r) :
    ∃ b o p B d, A = some ⟨b, o, p⟩ ∧ T b ∧ b < w.heap.size ∧ w.cell? ((⟨b, o, p⟩ : Addr).add i) = some (.slice B r.length d) ∧ r.length ≤ d ∧ RowOn T w (.slice B r.length d) r := by
  obtain ⟨vs, ⟨A', c', hv, _, hx⟩, _, hr⟩ := h
  cases hv
  obtain ⟨u, hu, hru⟩ := hr i r hi
  obtain ⟨b, o, p, hA, hT, hlt, hc⟩ := hx i u hu
  obtain ⟨B, d, rfl, hd⟩ := hru.form
  exact ⟨b, o, p, B, d, hA, hT, hlt, hc, hd, hru⟩
theorem TusOn.at_ {A : Option Addr} {n c : Nat} {ts : List (List (List Vl))} (h : TusOn T w (.slice A n c) ts) {i : Nat} {t : List (List Vl)} (hi : ts[i]? = some t) :
    ∃ b o p B d, A = some ⟨b, o, p⟩ ∧ T b ∧ b < w.heap.size ∧ w.cell? ((⟨b, o, p⟩ : Addr).add i) = some (.slice B t.length d) ∧ t.length ≤ d ∧ RwsOn T w (.slice B t.length d) t := by
  obtain ⟨vs, ⟨A', c', hv, _, hx⟩, _, hr⟩ := h
  cases hv
  obtain ⟨u, hu, hru⟩ := hr i t hi
  obtain ⟨b, o, p, hA, hT, hlt, hc⟩ := hx i u hu
  obtain ⟨B, d, rfl, hd⟩ := hru.form
  exact ⟨b, o, p, B, d, hA, hT, hlt, hc, hd, hru⟩
theorem RwsIn.cell {A : Option Addr} {n c : Nat} {vs : List Value} {rs : List (List Vl)} (h : RwsIn T w (.slice A n c) vs rs) {i : Nat} {r : List Vl} (hi : rs[i]? = some r) :
    ∃ b o p B d, A = some ⟨b, o, p⟩ ∧ T b ∧ b < w.heap.size ∧ vs[i]? = some (.slice B r.length d) ∧ w.cell? ((⟨b, o, p⟩ : Addr).add i) = some (.slice B r.length d) ∧ r.length ≤ d ∧ RowOn T w (.slice B r.length d) r := by
  obtain ⟨⟨A', c', hv, _, hx⟩, _, hr⟩ := h
  cases hv
  obtain ⟨u, hu, hru⟩ := hr i r hi
  obtain ⟨b, o, p, hA, hT, hlt, hc⟩ := hx i u hu
  obtain ⟨B, d, rfl, hd⟩ := hru.form
  exact ⟨b, o, p, B, d, hA, hT, hlt, hu, hc, hd, hru⟩
theorem SlOn.own {base : Nat} {e : TypeId} {n : Nat} {xs : List Value} (h : w.ownsRow base e 1 v n xs) : SlOn (fun k => v.ownBlock = some k) w v xs := by
  have hl : xs.length = n := by have := h.1; omega
  rcases h.2 with ⟨hv, hn⟩ | ⟨g, cap, cur, hv, hb, hg, hnc, hcm, hs, ht⟩
  · refine ⟨none, 0, by rw [hv, hl, hn], by omega, fun j u hu => ?_⟩
    have : xs = [] := List.eq_nil_of_length_eq_zero (by omega)
    subst this; simp at hu
  · refine ⟨some ⟨g, 0, none⟩, cap, by rw [hv, hl], by omega, fun j u hu => ⟨g, 0, none, rfl, by rw [hv]; rfl, ?_, ?_⟩⟩
    · exact (Array.getElem?_eq_some_iff.1 hg).1
    · exact h.cells (g := g) (by rw [hv]; rfl) j u hu
theorem RwsOn.pick {A : Option Addr} {n c : Nat} {rs : List (List Vl)} (h : RwsOn T w (.slice A n c) rs) {i : Nat} {r : List Vl} (hi : rs[i]? = some r) :
    ∃ b o p B d, A = some ⟨b, o, p⟩ ∧ r.length ≤ d ∧ ∀ W, Below w.heap.size w W → W.cell? ((⟨b, o, p⟩ : Addr).add i) = some (.slice B r.length d) ∧ RowOn T W (.slice B r.length d) r := by
  obtain ⟨b, o, p, B, d, hA, _, hlt, hc, hd, hr⟩ := h.at_ hi
  exact ⟨b, o, p, B, d, hA, hd, fun W hb => ⟨(hb.cell (by rw [add_block]; exact hlt)).trans hc, hr.below hb (Nat.le_refl _)⟩⟩
theorem TusOn.pick {A : Option Addr} {n c : Nat} {ts : List (List (List Vl))} (h : TusOn T w (.slice A n c) ts) {i : Nat} {t : List (List Vl)} (hi : ts[i]? = some t) :
    ∃ b o p B d, A = some ⟨b, o, p⟩ ∧ t.length ≤ d ∧ ∀ W, Below w.heap.size w W → W.cell? ((⟨b, o, p⟩ : Addr).add i) = some (.slice B t.length d) ∧ RwsOn T W (.slice B t.length d) t := by
  obtain ⟨b, o, p, B, d, hA, _, hlt, hc, hd, hr⟩ := h.at_ hi
  exact ⟨b, o, p, B, d, hA, hd, fun W hb => ⟨(hb.cell (by rw [add_block]; exact hlt)).trans hc, hr.below hb (Nat.le_refl _)⟩⟩
def Al : Nat → Prop := fun _ => True
theorem RwsOn.al {rs : List (List Vl)} (h : RwsOn T w v rs) : RwsOn Al w v rs := h.mono fun _ _ _ => trivial
theorem TusOn.al {rs : List (List (List Vl))} (h : TusOn T w v rs) : TusOn Al w v rs := h.mono fun _ _ _ => trivial
theorem own_keeps {base : Nat} {e : TypeId} {s n : Nat} {xs : List Value} (h : w.ownsRow base e s v n xs) (hk : Keeps S w w') (hs : ∀ k, v.ownBlock = some k → S k) : w'.ownsRow base e s v n xs := by
  refine ⟨h.1, ?_⟩
  rcases h.2 with hn | ⟨g, cap, cur, rfl, h1, hg, rest⟩
  · exact .inl hn
  · exact .inr ⟨g, cap, cur, rfl, h1, (hk.same g (Array.getElem?_eq_some_iff.1 hg).1 (hs g rfl)).trans hg, rest⟩
structure TuRow (R : Nat → Prop) (base : Nat) (w : World) (v : Value) (n : Nat) (us : List Value) (ts : List (List (List Vl))) : Prop where
  own : w.ownsRow base 36 1 v n us
  len : ts.length = n
  tup : ∀ (i : Nat) (t : List (List Vl)), ts[i]? = some t → ∃ u, us[i]? = some u ∧ RwsOn (fun k => v.ownBlock ≠ some k ∧ R k) w u t
theorem TuRow.keep {R : Nat → Prop} {base n : Nat} {us : List Value} {ts : List (List (List Vl))} (h : TuRow R base w v n us ts) (hk : Keeps S w w') (hs : ∀ k, v.ownBlock = some k → S k) (hs2 : ∀ k, k < w.heap.size → v.ownBlock ≠ some k → R k → S k) : TuRow R base w' v n us ts :=
  ⟨own_keeps h.own hk hs, h.len, fun i t hi => by obtain ⟨u, hu, hr⟩ := h.tup i t hi; exact ⟨u, hu, hr.keep hk fun k hk1 hk2 => hs2 k hk1 hk2.1 hk2.2⟩⟩
theorem TuRow.mono {R R' : Nat → Prop} {base n : Nat} {us : List Value} {ts : List (List (List Vl))} (h : TuRow R base w v n us ts) (hs : ∀ k, k < w.heap.size → R k → R' k) : TuRow R' base w v n us ts :=
  ⟨h.own, h.len, fun i t hi => by obtain ⟨u, hu, hr⟩ := h.tup i t hi; exact ⟨u, hu, hr.mono fun k hk1 hk2 => ⟨hk2.1, hs k hk1 hk2.2⟩⟩⟩
theorem keeps_two {B : Nat} {w0 : World} (h1 : Below B w0 w) (h2 : Below B w0 w') (hs : w.heap.size ≤ w'.heap.size) : Keeps (fun k => k < B) w w' :=
  ⟨h2.os.trans h1.os.symm, h2.tape.trans h1.tape.symm, h2.output.trans h1.output.symm, hs, fun k _ hk => (h2.block k hk).trans (h1.block k hk).symm⟩
theorem TuRow.below {R : Nat → Prop} {base n : Nat} {us : List Value} {ts : List (List (List Vl))} (h : TuRow R base w v n us ts) (hb : Below w.heap.size w w') : TuRow R base w' v n us ts :=
  h.keep (keeps_below hb) (fun k hk => (h.own.lt k hk).2) fun _ hk _ _ => hk
theorem TuRow.push {R : Nat → Prop} {base n : Nat} {us : List Value} {ts : List (List (List Vl))} {v' u : Value} {t : List (List Vl)} (h : TuRow R base w v n us ts) (hu : RwsOn (fun k => v.ownBlock ≠ some k ∧ R k) w u t)
    (hown : w'.ownsRow base 36 1 v' (n + 1) (us ++ [u])) (hg : w.grownBy w' v.ownBlock) (hw : v'.ownBlock = v.ownBlock ∨ ∃ g, v'.ownBlock = some g ∧ w.heap.size ≤ g) : TuRow R base w' v' (n + 1) (us ++ [u]) (ts ++ [t]) := by
  have hkp : ∀ {x : Value} {y : List (List Vl)}, RwsOn (fun k => v.ownBlock ≠ some k ∧ R k) w x y → RwsOn (fun k => v'.ownBlock ≠ some k ∧ R k) w' x y := fun {x y} hx => by
    have h1 : RwsOn (fun k => (v.ownBlock ≠ some k ∧ R k) ∧ k < w.heap.size) w x y := hx.mono fun k hk1 hk2 => ⟨hk2, hk1⟩
    refine (h1.keep (keeps_grown hg) fun _ _ hk2 => hk2.1.1).mono fun _ _ hk2 => ⟨?_, hk2.1.2⟩
    rcases hw with e | ⟨g, e, hge⟩
    · rw [e]; exact hk2.1.1
    · rw [e]; intro e2; cases e2; have := hk2.2; omega
  have hul : us.length = n := by have := h.own.1; omega
  refine ⟨hown, by rw [List.length_append, h.len]; rfl, fun i x hi => ?_⟩
  by_cases e : i < ts.length
  · rw [List.getElem?_append_left e] at hi
    obtain ⟨y, hy, hr⟩ := h.tup i x hi
    exact ⟨y, by rw [List.getElem?_append_left (by rw [hul, ← h.len]; exact e)]; exact hy, hkp hr⟩
  · have hi2 : i = ts.length := by
      by_cases e2 : i = ts.length
      · exact e2
      · rw [List.getElem?_eq_none (by simp; omega)] at hi; cases hi
    subst hi2
    rw [List.getElem?_append_right (Nat.le_refl _), Nat.sub_self] at hi
    cases hi
    refine ⟨u, ?_, hkp hu⟩
    rw [List.getElem?_append_right (by rw [hul, h.len]; exact Nat.le_refl _), hul, h.len, Nat.sub_self]
    rfl
theorem TuRow.tus {R : Nat → Prop} {base n : Nat} {us : List Value} {ts : List (List (List Vl))} (h : TuRow R base w v n us ts) : TusOn Al w v ts :=
  ⟨us, (SlOn.own h.own).mono fun _ _ _ => trivial, by have := h.own.1; have := h.len; omega, fun i t hi => by obtain ⟨u, hu, hr⟩ := h.tup i t hi; exact ⟨u, hu, hr.al⟩⟩
theorem TuRow.tusOn {R S : Nat → Prop} {base n : Nat} {us : List Value} {ts : List (List (List Vl))} (h : TuRow R base w v n us ts) (hb : ∀ k, base ≤ k → S k) (hR : ∀ k, R k → S k) : TusOn S w v ts :=
  ⟨us, (SlOn.own h.own).mono fun k _ hk => hb k (h.own.lt k hk).1, by have := h.own.1; have := h.len; omega, fun i t hi => by obtain ⟨u, hu, hr⟩ := h.tup i t hi; exact ⟨u, hu, hr.mono fun k _ hk => hR k hk.2⟩⟩
theorem add_here13 (g k : Nat) : (⟨g, 0, none⟩ : Addr).add k = ⟨g, k, none⟩ := by
  unfold Addr.add
  split
  · next h => subst h; rfl
  · simp
theorem wpList_append_at {P : Program} (w : World) {ops : Array Oper} {rest : List Oper} {o : Oper} {a : Act} {Q : Exit → Act → World → Prop} (hgd : o.guard = none) (s x : Operand) (t : TypeId)
    (ho : o.op = .call { callee := .builtin .append, args := #[s, x], argTypes := #[t, t] })
    (base : Nat) (e : TypeId) (i : TypeInfo) (z : Value) (size bytes : Nat) (ht : P.underlying t = some (.slice e)) (hi : P.info? e = some i) (hz : i.zero = some z)
    (hsize : i.size = size) (hby : i.bytes = bytes) (hzs : z.cells.size = size) (hs0 : 0 < size)
    (v : Value) (n : Nat) (xs : List Value) (hs : a.eval s = v) (hown : w.ownsRow base e size v n xs)
    (ad : Addr) (m c : Nat) (news : List Value) (hx : a.eval x = .slice (some ad) m c) (hl : news.length = m * size) (hc : ∀ j u, news[j]? = some u → w.cell? (ad.add j) = some u) (h1 : ∀ u ∈ news, u.oneCell' = true)
    (h63 : n + m ≤ maxLen) (hbytes : (n + m) * bytes ≤ 140737488355328) (hbase : base ≤ w.heap.size)
    (h : ∀ v' w', w'.ownsRow base e size v' (n + m) (xs ++ news) → w.grownBy w' v.ownBlock → (v'.ownBlock = v.ownBlock ∨ ∃ g, v'.ownBlock = some g ∧ w.heap.size ≤ g) → wpList P ops Q rest (a.put o.dst v') w') : wpList P ops Q (o :: rest) a w := by
  refine wpList_plain hgd fun K hK => ?_
  obtain ⟨v', w', hrun, r1, r2, r3⟩ := run_append_sep (P := P) w base t o.type e i z size bytes ht hi hz hsize hby hzs hs0 v n xs hown ad m c news hl hc h1 h63 hbytes hbase
  unfold Oper.wp
  simp [execOp, ho, resolve, invoke, builtin, hs, hx, hrun, Result.andThen]
  exact hK _ _ (h v' w' r1 r2 r3)
theorem Tryz.infoRow13 : (Tryz.prog.info? 53).map (fun i => (i.zero, i.size, i.bytes)) = some (some (.slice none 0 0), 1, 24) := by kernel_rfl
theorem Tryz.infoTup13 : (Tryz.prog.info? 36).map (fun i => (i.zero, i.size, i.bytes)) = some (some (.slice none 0 0), 1, 24) := by kernel_rfl
theorem SlOn.src {A : Option Addr} {n c : Nat} {xs : List Value} (h : SlOn T w (.slice A n c) xs) (h0 : 0 < xs.length) : ∃ ad, A = some ad ∧ ∀ (j : Nat) (u : Value), xs[j]? = some u → w.cell? (ad.add j) = some u := by
  obtain ⟨A', c', hv, _, hx⟩ := h
  cases hv
  obtain ⟨b, o, p, rfl, _⟩ := hx 0 _ (List.getElem?_eq_getElem h0)
  refine ⟨_, rfl, fun j u hj => ?_⟩
  obtain ⟨b', o', p', hA, _, _, hc⟩ := hx j u hj
  cases hA
  exact hc
theorem RwsIn.ones {vs : List Value} {rs : List (List Vl)} (h : RwsIn T w v vs rs) : ∀ u ∈ vs, u.oneCell' = true := fun u hu => by
  obtain ⟨i, hi, rfl⟩ := List.mem_iff_getElem.1 hu
  obtain ⟨u, h1, h2⟩ := h.row i _ (List.getElem?_eq_getElem (show i < rs.length by have := h.len; omega))
  rw [List.getElem?_eq_getElem hi] at h1
  cases h1
  exact h2.one
theorem keeps_all (h : Below w.heap.size w w') : Keeps S w w' := ⟨h.os, h.tape, h.output, h.size, fun k hk _ => h.block k hk⟩
theorem RwsOn.at_keep {A : Option Addr} {n c : Nat} {rs : List (List Vl)} (h : RwsOn T w (.slice A n c) rs) (hk : Keeps S w w') (hs : ∀ k, T k → S k) {i : Nat} {r : List Vl} (hi : rs[i]? = some r) :
    ∃ b o p B d, A = some ⟨b, o, p⟩ ∧ r.length ≤ d ∧ w'.cell? ((⟨b, o, p⟩ : Addr).add i) = some (.slice B r.length d) ∧ RowOn T w (.slice B r.length d) r := by
  obtain ⟨b, o, p, B, d, hA, hT, hlt, hc, hd, hr⟩ := h.at_ hi
  exact ⟨b, o, p, B, d, hA, hd, (World.cell?_of_block (by rw [add_block]; exact hk.same b hlt (hs b hT))).trans hc, hr⟩
theorem TusOn.at_keep {A : Option Addr} {n c : Nat} {ts : List (List (List Vl))} (h : TusOn T w (.slice A n c) ts) (hk : Keeps S w w') (hs : ∀ k, T k → S k) {i : Nat} {t : List (List Vl)} (hi : ts[i]? = some t) :
    ∃ b o p B d, A = some ⟨b, o, p⟩ ∧ t.length ≤ d ∧ w'.cell? ((⟨b, o, p⟩ : Addr).add i) = some (.slice B t.length d) ∧ RwsOn T w (.slice B t.length d) t := by
  obtain ⟨b, o, p, B, d, hA, hT, hlt, hc, hd, hr⟩ := h.at_ hi
  exact ⟨b, o, p, B, d, hA, hd, (World.cell?_of_block (by rw [add_block]; exact hk.same b hlt (hs b hT))).trans hc, hr⟩
end Go.Proofs.YtpaaibghfhnicaaGreatDoor

/-
  A ROW CLONED (the library's slices.Clone of a row): in memory of its own.
-/
namespace Go.Proofs.YtpaaibghfhnicaaGreatDoor
open Go.RowKit Go.Sort
set_option maxHeartbeats 1600000

def rowCells (r : List Vl) : List Value := r.flatMap fun x => [.bool x.1, .int .i64 x.2]
theorem rowCells_length (r : List Vl) : (rowCells r).length = r.length * 2 := by
  unfold rowCells
  induction r with
  | nil => rfl
  | cons x r ih => rw [List.flatMap_cons, List.length_append, ih, List.length_cons]; simp; omega
theorem rowCells_one (r : List Vl) : ∀ u ∈ rowCells r, u.oneCell' = true := by
  intro u hu
  simp only [rowCells, List.mem_flatMap] at hu
  obtain ⟨x, _, hx⟩ := hu
  simp at hx
  rcases hx with rfl | rfl <;> rfl
theorem rowCells_at (r : List Vl) {j : Nat} {x : Vl} (h : r[j]? = some x) : (rowCells r)[j * 2]? = some (.bool x.1) ∧ (rowCells r)[j * 2 + 1]? = some (.int .i64 x.2) := by
  induction r generalizing j with
  | nil => simp at h
  | cons y r ih =>
    unfold rowCells
    rw [List.flatMap_cons]
    cases j with
    | zero => simp at h; subst h; exact ⟨rfl, rfl⟩
    | succ j =>
      have := ih (by simpa using h)
      rw [show (j + 1) * 2 = j * 2 + 2 by omega]
      exact this
theorem rowCells_back (r : List Vl) {k : Nat} {u : Value} (h : (rowCells r)[k]? = some u) : ∃ j x, r[j]? = some x ∧ ((k = j * 2 ∧ u = .bool x.1) ∨ (k = j * 2 + 1 ∧ u = .int .i64 x.2)) := by
  have hk := (List.getElem?_eq_some_iff.1 h).1
  rw [rowCells_length] at hk
  have hj : k / 2 < r.length := by omega
  obtain ⟨h1, h2⟩ := rowCells_at r (List.getElem?_eq_getElem hj)
  refine ⟨k / 2, _, List.getElem?_eq_getElem hj, ?_⟩
  rcases Nat.mod_two_eq_zero_or_one k with e | e
  · have : k = k / 2 * 2 := by omega
    rw [← this, h] at h1
    exact .inl ⟨this, Option.some.inj h1⟩
  · have : k = k / 2 * 2 + 1 := by omega
    rw [← this, h] at h2
    exact .inr ⟨this, Option.some.inj h2⟩
theorem Tryz.infoVal9 : (Tryz.prog.info? 60).map (fun i => (i.zero, i.size, i.bytes)) = some (some (.agg #[.bool false, .int .i64 0]), 2, 16) := by kernel_rfl
theorem rowUp_own {w : World} {base : Nat} {v : Value} {r : List Vl} (h : w.ownsRow base 60 2 v r.length (rowCells r)) : RowOn (fun k => base ≤ k) w v r := by
  rcases h.2 with ⟨hv, hn⟩ | ⟨g, cap, cur, rfl, hb, hg, hnc, _⟩
  · have : r = [] := List.eq_nil_of_length_eq_zero hn
    subst this
    exact ⟨none, 0, hv, Nat.le_refl _, fun j x hj => by simp at hj⟩
  · refine ⟨_, cap, rfl, hnc, fun j x hj => ⟨g, 0, none, rfl, hb, (Array.getElem?_eq_some_iff.1 hg).1, ?_, ?_⟩⟩
    · exact h.cells (g := g) rfl _ _ (rowCells_at r hj).1
    · exact h.cells (g := g) rfl _ _ (rowCells_at r hj).2
theorem RowAt.cells {w : World} {b : Addr} {c : Nat} {r : List Vl} (h : RowAt w (.slice (some b) r.length c) r) : ∀ (j : Nat) (u : Value), (rowCells r)[j]? = some u → w.cell? (b.add j) = some u := by
  obtain ⟨A, c', hv, _, hx⟩ := h
  injection hv with f1 f2 f3
  intro k u hk
  obtain ⟨j, x, hj, h2⟩ := rowCells_back r hk
  obtain ⟨b', o, p, hA, _, h4, h5⟩ := hx j x hj
  rw [← f1] at hA
  cases hA
  rcases h2 with ⟨rfl, rfl⟩ | ⟨rfl, rfl⟩
  · exact h4
  · exact h5
def Cloned (w : World) (r : List Vl) (E : Ending) (w' : World) : Prop := ∃ A c, E = .returned (.slice A r.length c) ∧ RowOn (fun k => w.heap.size ≤ k) w' (.slice A r.length c) r ∧ Below w.heap.size w w'
set_option maxRecDepth 100000 in
theorem clone_any (v : Value) (r : List Vl) (w : World) (hv : RowAt w v r) (hr : r.length ≤ 1000000) :
    Calls Tryz.prog 51 #[v] w (Cloned w r) := by
  obtain ⟨A, c, rfl, _, _⟩ := id hv
  obtain ⟨i0, hi, hz0, hz1, hz2⟩ := info_parts Tryz.infoVal9
  have hnil := fun (W : World) => Lib.run_eql_slice_nil_nil (P := Tryz.prog) W r.length c Tryz.underlying53
  have hsome := fun (W : World) (b : Addr) => Lib.run_eql_slice_some_nil (P := Tryz.prog) W b r.length c Tryz.underlying53
  cases A with
  | none =>
    have h0 : r = [] := by
      cases r with
      | nil => rfl
      | cons x r =>
        obtain ⟨A', c', hv', _, hx⟩ := hv
        injection hv' with f1 f2 f3
        obtain ⟨b, o, p, hA, _⟩ := hx 0 x rfl
        rw [← f1] at hA
        cases hA
    subst h0
    clear hsome hv hnil
    have hnil := fun (W : World) => Lib.run_eql_slice_nil_nil (P := Tryz.prog) W 0 c Tryz.underlying53
    go_enter Tryz.func51, Tryz.ntmps51
    go_wp2_with (fail)
    go_ret
    exact ⟨none, 0, rfl, ⟨none, 0, rfl, Nat.le_refl _, fun j x hj => by simp at hj⟩, Below.refl _ _⟩
  | some b =>
    obtain ⟨W0, hW0⟩ : ∃ W0, W0 = w.alloc (Obj.cells #[] 60) := ⟨_, rfl⟩
    have hb0 : Below w.heap.size w W0 := by rw [hW0]; exact below_new _ _
    have hcell := Lib.hid (hv.below hb0 (Nat.le_refl _)).cells
    have hown : Hid (W0.ownsRow w.heap.size 60 2 (.slice (some ⟨w.heap.size, 0, none⟩) 0 0) 0 []) := Lib.hid (by rw [hW0]; exact World.ownsRow_made w #[] 0 (Nat.le_refl _) (by decide) rfl)
    have hsm := fun W => hsome W b
    have HW := Lib.hid hW0
    clear hv hsome hnil hW0
    go_enter Tryz.func51, Tryz.ntmps51
    go_wp2_with (first
      | (at_builtin; rw [← HW.out]; refine wpList_append_own _ rfl _ _ 53 rfl w.heap.size 60 i0 (.agg #[.bool false, .int .i64 0]) 2 16 Tryz.underlying53 hi hz0 hz1 hz2 rfl (by decide) _ 0 [] rfl hown.out b r.length c (rowCells r) rfl (rowCells_length r) hcell.out (rowCells_one r) (by unfold maxLen; omega) (by omega) hb0.size ?_))
    intro v' w' hown' hgrow _
    have hb2 : Below w.heap.size w w' := hb0.grown hgrow hb0.size (fun q hq => (hown.out.lt q hq).1)
    have hup : RowOn (fun k => w.heap.size ≤ k) w' v' r := rowUp_own (by simpa using hown')
    obtain ⟨A', c', rfl, _, _⟩ := id hup
    have HUP := Lib.hid hup
    clear hown' hgrow hup hown hcell hsm
    go_wp2_with (fail)
    go_ret
    exact ⟨A', c', rfl, HUP.out, hb2⟩
end Go.Proofs.YtpaaibghfhnicaaGreatDoor

/-
  THE DOCUMENT's ANSWERS OF LAYER 13: a table's row; are two tuples the same; are two lists?
-/
namespace Go.Proofs.YtpaaibghfhnicaaGreatDoor
open Go.RowKit Go.Sort
set_option maxHeartbeats 1600000

section
variable (z : Bool) (n : Int) (z' : Bool) (n' : Int) (w : World)
theorem val_ne :
    (binOp .neq 60 (.agg #[.bool z, .int .i64 n]) (.agg #[.bool z', .int .i64 n'])).run Tryz.prog w = .ok (.bool (!decide ((z, n) = (z', n')))) w := by
  go_simp
  by_cases e4 : z = z' <;> by_cases e5 : n = n' <;> simp [e4, e5]
end
set_option maxRecDepth 100000 in
theorem r13row_any (T : Nat → Prop) (v : Value) (t : List (List Vl)) (i : Nat) (w : World) (hv : RwsOn T w v t) (hi : i ≤ 1000) :
    Calls Tryz.prog 49 #[v, .int .i64 (i : Int)] w fun e w' => ∃ A c, e = .returned (.slice A (Mt.row t i).length c) ∧ RowOn T w (.slice A (Mt.row t i).length c) (Mt.row t i) ∧ w = w' := by
  obtain ⟨A, c, rfl, hc⟩ := hv.form
  have h0 : ¬ ((i : Int) < 0) := by omega
  by_cases h : i < t.length
  · obtain ⟨b, o, p, B, d, rfl, _, _, hcell, _, hrow⟩ := hv.at_ (Mt.row_mem h)
    have i1 : (0 : Int) ≤ (i : Int) := by omega
    have i2 : (i : Int) < (t.length : Int) := by omega
    have i3 : ¬ ((t.length : Int) ≤ (i : Int)) := by omega
    have HR := Lib.hid hrow
    clear hrow hv h
    generalize t.length = n at *
    generalize (Mt.row t i).length = m at *
    go_enter Tryz.func49, Tryz.ntmps49
    go_wp2_with fail
    go_ret
    exact ⟨B, d, rfl, HR.out, rfl⟩
  · have i3 : ((t.length : Int) ≤ (i : Int)) := by omega
    have HR := Lib.hid (Mt.row_out (show t.length ≤ i by omega))
    clear hv h
    generalize t.length = n at *
    go_enter Tryz.func49, Tryz.ntmps49
    go_wp2_with fail
    go_ret
    exact ⟨none, 0, by rw [HR.out]; rfl, by rw [HR.out]; exact RowOn.nil T w, rfl⟩
theorem Mt.row_ext {x y : List Vl} (h : x.length = y.length) (hx : ∀ (j : Nat) (p q : Vl), x[j]? = some p → y[j]? = some q → p = q) : x = y := by
  refine List.ext_getElem? fun j => ?_
  by_cases hj : j < x.length
  · rw [List.getElem?_eq_getElem hj, List.getElem?_eq_getElem (show j < y.length by omega)]
    rw [hx j _ _ (List.getElem?_eq_getElem hj) (List.getElem?_eq_getElem (show j < y.length by omega))]
  · rw [List.getElem?_eq_none (by omega), List.getElem?_eq_none (by omega)]
set_option maxRecDepth 100000 in
theorem r13same_any (T : Nat → Prop) (u v : Value) (a b : List (List Vl)) (w : World) (hu : RwsOn T w u a) (hv : RwsOn T w v b) (ha : a.length ≤ 1000) (hb : b.length ≤ 1000) (ha2 : ∀ x ∈ a, x.length ≤ 1000000) (hb2 : ∀ x ∈ b, x.length ≤ 1000000) :
    Calls Tryz.prog 33 #[u, v] w fun e w' => e = .returned (.bool (Mt.same a b)) ∧ Below w.heap.size w w' := by
  obtain ⟨A, c, rfl, _⟩ := hu.form
  obtain ⟨A', c', rfl, _⟩ := hv.form
  have cu := fun (k : Nat) (wr : World) (h : Below w.heap.size w wr) (hk : k ≤ 1000) => r13row_any T _ a k wr (hu.below h (Nat.le_refl _)) hk
  have cv := fun (k : Nat) (wr : World) (h : Below w.heap.size w wr) (hk : k ≤ 1000) => r13row_any T _ b k wr (hv.below h (Nat.le_refl _)) hk
  have hR : ∀ (t : List (List Vl)) (k : Nat), (∀ x ∈ t, x.length ≤ 1000000) → (Mt.row t k).length ≤ 1000000 := fun t k ht => by
    by_cases h : k < t.length
    · exact ht _ (List.mem_of_getElem? (Mt.row_mem h))
    · rw [Mt.row_out (by omega)]; simp
  have HRA := Lib.hid fun k => hR a k ha2
  have HRB := Lib.hid fun k => hR b k hb2
  have CU := Lib.hid cu
  have CV := Lib.hid cv
  obtain ⟨n, hn⟩ : ∃ n, n = a.length := ⟨_, rfl⟩
  obtain ⟨m, hm⟩ : ∃ m, m = b.length := ⟨_, rfl⟩
  rw [← hn] at CU ha ⊢
  rw [← hm] at CV hb ⊢
  have HN := Lib.hid (And.intro hn hm)
  clear hu hv cu cv hR ha2 hb2 hn hm
  go_enter Tryz.func33, Tryz.ntmps33
  go_wp2_with fail
  go_loopw [5] (fun i wr => ∃ k : Nat, k ≤ 1000 ∧ i = .int .i64 k ∧ Hid (k ≤ max n m ∧ ∀ j, j < k → Mt.row a j = Mt.row b j) ∧ Below w.heap.size w wr) (fun i _ => 1000 - (intOf i).toNat)
  case atStart => exact ⟨0, by omega, rfl, Lib.hid ⟨by omega, fun j h => by omega⟩, Below.refl _ _⟩
  case round =>
    obtain ⟨k, hk, rfl, hz, hb⟩ := hrel
    by_cases hlt : k < n ∨ k < m
    · have hk1 : k < 1000 := by omega
      have test : (decide ((k : Int) < (n : Int)) || decide ((k : Int) < (m : Int))) = true := by
        rcases hlt with h | h
        · rw [decide_eq_true (by omega)]; rfl
        · rw [decide_eq_true (show (k : Int) < (m : Int) by omega)]; simp
      have hlx := Lib.hid (show k + 1 ≤ max n m by omega)
      obtain ⟨x, hx⟩ : ∃ x, x = Mt.row a k := ⟨_, rfl⟩
      obtain ⟨y, hy⟩ : ∃ y, y = Mt.row b k := ⟨_, rfl⟩
      have c1 := CU.out k wr hb hk
      have c2 := CV.out k wr hb hk
      have hxl := HRA.out k
      have hyl := HRB.out k
      rw [← hx] at c1 hxl
      rw [← hy] at c2 hyl
      have HX := Lib.hid hx
      have HY := Lib.hid hy
      have hcase : decide ((k : Int) < (n : Int)) = true ∨ (decide ((k : Int) < (n : Int)) = false ∧ decide ((k : Int) < (m : Int)) = true) := by
        by_cases g2 : k < n
        · exact .inl (decide_eq_true (by omega))
        · exact .inr ⟨decide_eq_false (by omega), decide_eq_true (by omega)⟩
      have hres : Hid (¬ x = y → false = Mt.same a b) := Lib.hid fun hne => by
        symm
        refine decide_eq_false fun h => hne ?_
        rw [HX.out, HY.out]
        exact h k (by have := HN.out; have := hlx.out; omega)
      have hnext : Hid (x = y → k + 1 ≤ max n m ∧ ∀ j, j < k + 1 → Mt.row a j = Mt.row b j) := Lib.hid fun he => ⟨hlx.out, fun j hj => by
        rcases Nat.lt_or_eq_of_le (Nat.le_of_lt_succ hj) with g | g
        · exact hz.out.2 j g
        · subst g; rw [← HX.out, ← HY.out]; exact he⟩
      clear hx hy test hlt hlx
      rcases hcase with t1 | ⟨t1, t2⟩
      all_goals
        try have t1' := of_decide_eq_true t1
        try have t1' := of_decide_eq_false t1
        try have t2' := of_decide_eq_true t2
        go_wp2_with fail
        refine c1.mono ?_
        rintro e w1 ⟨A1, d1, rfl, hr1, rfl⟩
        clear c1
        go_wp2_with fail
        refine c2.mono ?_
        rintro e w2 ⟨A2, d2, rfl, hr2, rfl⟩
        clear c2
        try clear t2 t2'
        clear t1 t1'
        have hp1 := fun (j : Nat) (q : Vl) (hj : x[j]? = some q) => hr1.at_.pair hj
        have hp2 := fun (j : Nat) (q : Vl) (hj : y[j]? = some q) => hr2.at_.pair hj
        have HP1 := Lib.hid hp1
        have HP2 := Lib.hid hp2
        clear hp1 hp2 hr1 hr2
        obtain ⟨s, hs⟩ : ∃ s, s = x.length := ⟨_, rfl⟩
        obtain ⟨s', hs'⟩ : ∃ s, s = y.length := ⟨_, rfl⟩
        rw [← hs] at hxl ⊢
        rw [← hs'] at hyl ⊢
        have HS := Lib.hid (And.intro hs hs')
        clear hs hs'
        by_cases hss : s = s'
        · subst hss
          go_wp2_with fail
          go_loopw [8] (fun i wr' => ∃ q : Nat, q ≤ s ∧ i = .int .i64 q ∧ Hid (∀ (j : Nat) (p p' : Vl), j < q → x[j]? = some p → y[j]? = some p' → p = p') ∧ Below wr.heap.size wr wr') (fun i _ => s - (intOf i).toNat)
          case atStart => exact ⟨0, Nat.zero_le _, rfl, Lib.hid fun j p p' h => by omega, Below.refl _ _⟩
          case round =>
            obtain ⟨q, hq, rfl, hqz, hb2⟩ := hrel
            by_cases hlq : q < s
            · obtain ⟨p, gp⟩ : ∃ p, x[q]? = some p := ⟨x[q]'(by have := HS.out; omega), List.getElem?_eq_getElem _⟩
              obtain ⟨p', gp'⟩ : ∃ p, y[q]? = some p := ⟨y[q]'(by have := HS.out; omega), List.getElem?_eq_getElem _⟩
              obtain ⟨b1, o1, p1, rfl, _, h1⟩ := HP1.out q p gp
              obtain ⟨b2, o2, p2, rfl, _, h2⟩ := HP2.out q p' gp'
              have i1 : (0 : Int) ≤ (q : Int) := by omega
              have i2 : (q : Int) < (s : Int) := by omega
              have y1 := cell_regrown (h1 _ hb2).1
              have y2 := cell_regrown (h1 _ hb2).2
              have y3 := cell_regrown (h2 _ hb2).1
              have y4 := cell_regrown (h2 _ hb2).2
              have hne := fun W => val_ne p.1 p.2 p'.1 p'.2 W
              obtain ⟨d, hd⟩ : ∃ d : Bool, d = decide ((p.1, p.2) = (p'.1, p'.2)) := ⟨_, rfl⟩
              rw [← hd] at hne
              have HD := Lib.hid hd
              have GP := Lib.hid (And.intro gp gp')
              clear h1 h2 gp gp' hd
              go_wp2_with (fail)
              refine wp_region_quiet_below (by kernel_rfl) (by kernel_rfl) ?_
              repeat (go_big_quiet_step (fail))
              refine wpQuiet_nil ?_
              intro _ hw'
              obtain ⟨⟨dq, osq⟩, hw''⟩ := hw'
              subst hw''
              have hb3 := below_join hb2 (below_regrown wr dq osq)
              clear y1 y2 y3 y4 i1 i2 hb2 hne
              generalize grow (redrawn wr dq) osq = w7 at hb3 ⊢
              cases d
              · have hr := Lib.hid (hres.out fun e => by
                  have h := HD.out
                  have g1 := GP.out.1
                  rw [e, GP.out.2] at g1
                  have g1 := Option.some.inj g1
                  rw [g1] at h
                  simp at h)
                go_wp2_with (fail)
                go_ret
                exact ⟨ret_bool hr.out, below_join hb hb3⟩
              · have hq2 : Hid (∀ (j : Nat) (p p' : Vl), j < q + 1 → x[j]? = some p → y[j]? = some p' → p = p') := Lib.hid fun j r r' hj hx hy => by
                  rcases Nat.lt_or_eq_of_le (Nat.le_of_lt_succ hj) with g | g
                  · exact hqz.out j r r' g hx hy
                  · subst g
                    rw [GP.out.1] at hx; rw [GP.out.2] at hy
                    cases hx; cases hy
                    exact of_decide_eq_true HD.out.symm
                go_wp2_with (fail)
                go_roundw
                case rel => exact ⟨q + 1, by omega, by go_num, hq2, hb3⟩
                case measure => simp [intOf]; omega
            · have hxy : x = y := by
                obtain ⟨g1, g2⟩ := HS.out
                exact Mt.row_ext (by omega) fun j p p' h1 h2 => hqz.out j p p' (by have := (List.getElem?_eq_some_iff.1 h1).1; omega) h1 h2
              have hn2 := Lib.hid (hnext.out hxy)
              clear hxy
              go_wp2_with fail
              go_roundw
              case rel => exact ⟨k + 1, by omega, by go_num, hn2, below_join hb hb2⟩
              case measure => simp [intOf]; omega
        · have hss2 : ((s : Int) != (s' : Int)) = true := by simpa using fun h => hss (by omega)
          have hss3 : ¬ ((s : Int) = (s' : Int)) := fun h => hss (by omega)
          have hr := Lib.hid (hres.out fun e => hss (by have := HS.out; rw [this.1, this.2, e]))
          clear hss
          go_wp2_with fail
          go_ret
          exact ⟨ret_bool hr.out, hb⟩
    · have hn1 : ¬ ((k : Int) < (n : Int)) := by omega
      have hm1 : ¬ ((k : Int) < (m : Int)) := by omega
      have hr : Hid (true = Mt.same a b) := Lib.hid (by
        symm
        refine decide_eq_true fun j hj => hz.out.2 j ?_
        have := HN.out
        omega)
      clear hlt
      go_wp2_with fail
      go_ret
      exact ⟨ret_bool hr.out, hb⟩
set_option maxRecDepth 100000 in
theorem r13list_any (T : Nat → Prop) (u v : Value) (r s : List (List (List Vl))) (w : World) (hu : TusOn T w u r) (hv : TusOn T w v s) (hr2 : ∀ x ∈ r, x.length ≤ 1000) (hs2 : ∀ x ∈ s, x.length ≤ 1000) (hr3 : ∀ x ∈ r, ∀ y ∈ x, y.length ≤ 1000000) (hs3 : ∀ x ∈ s, ∀ y ∈ x, y.length ≤ 1000000) (hr : r.length ≤ 1000000) (hs : s.length ≤ 1000000) :
    Calls Tryz.prog 14 #[u, v] w fun e w' => e = .returned (.bool (Mt.list r s)) ∧ Below w.heap.size w w' := by
  obtain ⟨A, c, rfl, _⟩ := hu.form
  obtain ⟨A', c', rfl, _⟩ := hv.form
  have hpu := fun (j : Nat) (x : List (List Vl)) (hj : r[j]? = some x) => hu.pick hj
  have HR2 := Lib.hid (And.intro hr2 hr3)
  have hpv := fun (j : Nat) (x : List (List Vl)) (hj : s[j]? = some x) => hv.pick hj
  have HS2 := Lib.hid (And.intro hs2 hs3)
  clear hr2 hs2 hr3 hs3
  have HU := Lib.hid hpu
  have HV := Lib.hid hpv
  obtain ⟨n, hn⟩ : ∃ n, n = r.length := ⟨_, rfl⟩
  obtain ⟨m, hm⟩ : ∃ m, m = s.length := ⟨_, rfl⟩
  rw [← hn] at hr ⊢
  rw [← hm] at hs ⊢
  have HN := Lib.hid (And.intro hn hm)
  clear hpu hpv hu hv hn hm
  by_cases hnm : n = m
  · subst hnm
    have hS := Below.refl w.heap.size w
    go_enter Tryz.func14, Tryz.ntmps14
    go_wp2_with (fail)
    go_loopw [5] (fun i wr => ∃ (k : Nat), k ≤ n ∧ i = .int .i64 k ∧ Hid (∀ j, j < k → Mt.same (Mt.tup r j) (Mt.tup s j) = true) ∧ Below w.heap.size w wr) (fun i _ => n - (intOf i).toNat)
    case atStart => exact ⟨0, Nat.zero_le _, rfl, Lib.hid fun j h => by omega, hS⟩
    case round =>
     obtain ⟨k, hk, rfl, hz, hb⟩ := hrel
     by_cases hlt : k < n
     · obtain ⟨x, gx⟩ : ∃ x, r[k]? = some x := ⟨r[k]'(by have := HN.out; omega), List.getElem?_eq_getElem _⟩
       obtain ⟨y, gy⟩ : ∃ y, s[k]? = some y := ⟨s[k]'(by have := HN.out; omega), List.getElem?_eq_getElem _⟩
       obtain ⟨b1, o1, p1, B1, d1, rfl, _, h1⟩ := HU.out k x gx
       obtain ⟨b2, o2, p2, B2, d2, rfl, _, h2⟩ := HV.out k y gy
       have i1 : (0 : Int) ≤ (k : Int) := by omega
       have i2 : (k : Int) < (n : Int) := by omega
       have y1 := cell_regrown (h1 wr hb).1
       have y3 := cell_regrown (h2 wr hb).1
       obtain ⟨d, hd⟩ : ∃ d : Bool, d = Mt.same x y := ⟨_, rfl⟩
       have cc := in_class (W0 := wr) fun W h => r13same_any T _ _ x y W ((h1 wr hb).2.below h (Nat.le_refl _)) ((h2 wr hb).2.below h (Nat.le_refl _)) (HR2.out.1 x (List.mem_of_getElem? gx)) (HS2.out.1 y (List.mem_of_getElem? gy)) (HR2.out.2 x (List.mem_of_getElem? gx)) (HS2.out.2 y (List.mem_of_getElem? gy))
       rw [← hd] at cc
       have HD := Lib.hid hd
       have GX := Lib.hid (Mt.tup_at gx)
       have GY := Lib.hid (Mt.tup_at gy)
       clear h1 h2 gx gy hd
       generalize x.length = xl at *
       generalize y.length = yl at *
       go_wp2_with (fail)
       refine wp_region_quiet_below (by kernel_rfl) (by kernel_rfl) ?_
       repeat (go_big_quiet_step (with_reducible exact cc _ _))
       refine wpQuiet_nil ?_
       intro _ hw'
       obtain ⟨⟨dq, osq⟩, hw''⟩ := hw'
       subst hw''
       have hb2 := below_join hb (below_regrown wr dq osq)
       clear y1 y3 i1 i2 hb cc
       generalize grow (redrawn wr dq) osq = w7 at hb2 ⊢
       cases d
       · have hres : Hid (false = Mt.list r s) := Lib.hid (by
           symm
           refine decide_eq_false fun h => ?_
           have h2 := h.2 k (by have := HN.out; omega)
           rw [GX.out, GY.out, ← HD.out] at h2
           cases h2)
         go_wp2_with (fail)
         go_ret
         exact ⟨ret_bool hres.out, hb2⟩
       · have hz2 : Hid (∀ j, j < k + 1 → Mt.same (Mt.tup r j) (Mt.tup s j) = true) := Lib.hid fun j hj => by
           rcases Nat.lt_or_eq_of_le (Nat.le_of_lt_succ hj) with g | g
           · exact hz.out j g
           · subst g
             rw [GX.out, GY.out]; exact HD.out.symm
         go_wp2_with (fail)
         go_roundw
         case rel => exact ⟨k + 1, by omega, by go_num, hz2, hb2⟩
         case measure => simp [intOf]; omega
     · have hres : Hid (true = Mt.list r s) := Lib.hid (by
         symm
         obtain ⟨h1, h2⟩ := HN.out
         exact decide_eq_true ⟨by omega, fun j hj => hz.out j (by omega)⟩)
       go_wp2_with (fail)
       go_ret
       exact ⟨ret_bool hres.out, hb⟩
  · have hnm2 : ((n : Int) != (m : Int)) = true := by simpa using fun h => hnm (by omega)
    have hnm3 : ¬ ((n : Int) = (m : Int)) := fun h => hnm (by omega)
    have hres : Hid (false = Mt.list r s) := Lib.hid (by
      symm
      refine decide_eq_false fun h => hnm ?_
      obtain ⟨h1, h2⟩ := HN.out
      have := h.1
      omega)
    clear hnm
    go_enter Tryz.func14, Tryz.ntmps14
    go_wp2_with (fail)
    go_ret
    exact ⟨ret_bool hres.out, Below.refl _ _⟩
end Go.Proofs.YtpaaibghfhnicaaGreatDoor

/-
  THE DOCUMENT's ANSWERS OF LAYER 13: Merge, Matches, Extend.
-/
namespace Go.Proofs.YtpaaibghfhnicaaGreatDoor
open Go.RowKit Go.Sort
set_option maxHeartbeats 1600000

def Merged (T : Nat → Prop) (w : World) (t : List (List Vl)) (E : Ending) (w' : World) : Prop :=
  ∃ A c, E = .returned (.slice A t.length c) ∧ RwsOn (fun k => w.heap.size ≤ k ∨ T k) w' (.slice A t.length c) t ∧ Below w.heap.size w w'
set_option maxRecDepth 100000 in
theorem r13merge_any (T : Nat → Prop) (u v : Value) (a b : List (List Vl)) (w : World) (hu : RwsOn T w u a) (hv : RwsOn T w v b) (ha : a.length ≤ 1000) (hb : b.length ≤ 1000) :
    Calls Tryz.prog 86 #[u, v] w (Merged T w (Mt.merge a b)) := by
  obtain ⟨i0, hi, hz0, hz1, hz2⟩ := info_parts Tryz.infoRow13
  obtain ⟨A, c, rfl, _⟩ := hu.form
  obtain ⟨A', c', rfl, _⟩ := hv.form
  have hu2 : RwsOn (fun k => T k ∧ k < w.heap.size) w _ a := hu.mono fun k h1 h2 => ⟨h2, h1⟩
  have hv2 : RwsOn (fun k => T k ∧ k < w.heap.size) w _ b := hv.mono fun k h1 h2 => ⟨h2, h1⟩
  have cu := fun (k : Nat) (wr : World) (h : Below w.heap.size w wr) (hk : k ≤ 1000) => r13row_any _ _ a k wr (hu2.below h (Nat.le_refl _)) hk
  have cv := fun (k : Nat) (wr : World) (h : Below w.heap.size w wr) (hk : k ≤ 1000) => r13row_any _ _ b k wr (hv2.below h (Nat.le_refl _)) hk
  have CU := Lib.hid cu
  have CV := Lib.hid cv
  have ML := Mt.merge_length a b
  obtain ⟨n, hn⟩ : ∃ n, n = a.length := ⟨_, rfl⟩
  obtain ⟨m, hm⟩ : ∃ m, m = b.length := ⟨_, rfl⟩
  rw [← hn] at CU ha ML ⊢
  rw [← hm] at CV hb ML ⊢
  have HN := Lib.hid (And.intro hn (And.intro hm ML))
  have HOW := Lib.hid (own_empty w 53 1 w.heap.size (Nat.le_refl _) w.heap.size rfl)
  have hb1 := (Below.refl w.heap.size w).alloc (Nat.le_refl _) (Obj.cells #[] 53)
  clear hu hv hu2 hv2 cu cv hn hm ML
  go_enter Tryz.func86, Tryz.ntmps86
  go_wp2_with fail
  go_loopw [5, 6] (fun s i wr => ∃ (k : Nat) (us : List Value) (sv : Value), k ≤ 1000 ∧ i = .int .i64 k ∧ sv = s ∧ wr.ownsRow w.heap.size 53 1 sv k us ∧ Hid (k ≤ max n m ∧ ∀ j, j < k → ∃ u, us[j]? = some u ∧ RowOn (fun k => T k ∧ k < w.heap.size) wr u (Mt.pick a b j)) ∧ Below w.heap.size w wr) (fun _ i _ => 1000 - (intOf i).toNat)
  case atStart => exact ⟨0, [], _, by omega, rfl, rfl, HOW.out, Lib.hid ⟨by omega, fun j h => by omega⟩, hb1⟩
  case round =>
    obtain ⟨k, us, sv, hk, rfl, rfl, hown, hz, hb⟩ := hrel
    by_cases hlt : k < n ∨ k < m
    · have hcase : decide ((k : Int) < (n : Int)) = true ∨ (decide ((k : Int) < (n : Int)) = false ∧ decide ((k : Int) < (m : Int)) = true) := by
        by_cases g2 : k < n
        · exact .inl (decide_eq_true (by omega))
        · exact .inr ⟨decide_eq_false (by omega), decide_eq_true (by omega)⟩
      have hk1 : k < 1000 := by omega
      have hlx := Lib.hid (show k + 1 ≤ max n m by omega)
      obtain ⟨x, hx⟩ : ∃ x, x = Mt.row a k := ⟨_, rfl⟩
      obtain ⟨y, hy⟩ : ∃ y, y = Mt.row b k := ⟨_, rfl⟩
      have c1 := CU.out k wr hb hk
      have c2 := CV.out k wr hb hk
      rw [← hx] at c1
      rw [← hy] at c2
      have hp : Mt.pick a b k = if x.length = 0 then y else x := by rw [hx, hy]; rfl
      obtain ⟨xl, hxl⟩ : ∃ n, n = x.length := ⟨_, rfl⟩
      rw [← hxl] at c1 hp
      obtain ⟨yl, hyl⟩ : ∃ n, n = y.length := ⟨_, rfl⟩
      rw [← hyl] at c2
      have HP := Lib.hid hp
      have hul : us.length = k := by have := hown.1; omega
      have HUL := Lib.hid hul
      have next : ∀ (u v' : Value) (w3 : World), RowOn (fun k => T k ∧ k < w.heap.size) wr u (Mt.pick a b k) → Below w.heap.size w w3 → wr.heap.size ≤ w3.heap.size → (∀ j, j < k + 1 → ∃ u', (us ++ [u])[j]? = some u' ∧ RowOn (fun k => T k ∧ k < w.heap.size) w3 u' (Mt.pick a b j)) := fun u v' w3 hu hb3 hsz j hj => by
        have kp := keeps_two hb hb3 hsz
        rcases Nat.lt_or_eq_of_le (Nat.le_of_lt_succ hj) with g | g
        · obtain ⟨u', h1, h2⟩ := hz.out.2 j g
          exact ⟨u', by rw [List.getElem?_append_left (by omega)]; exact h1, h2.keep kp fun k _ h => h.2⟩
        · subst g
          refine ⟨u, ?_, hu.keep kp fun k _ h => h.2⟩
          rw [List.getElem?_append_right (by omega), hul, Nat.sub_self]
          rfl
      have NEXT := Lib.hid next
      clear hx hy hlt hp hxl hyl next hul
      rcases hcase with t1 | ⟨t1, t2⟩
      all_goals
        try have t1' := of_decide_eq_true t1
        try have t1' := of_decide_eq_false t1
        try have t2' := of_decide_eq_true t2
        go_wp2_with fail
        refine c1.mono ?_
        rintro e w1 ⟨A1, d1, rfl, hr1, rfl⟩
        try clear t2 t2'
        clear t1 t1'
        have HR1 := Lib.hid hr1
        clear hr1
        by_cases h0 : xl = 0
        · have i0' : ¬ ((xl : Int) > 0) := by omega
          have HP2 := Lib.hid (HP.out.trans (if_pos h0))
          clear h0 c1
          go_wp2_with fail
          refine c2.mono ?_
          rintro e w1 ⟨A2, d2, rfl, hr2, rfl⟩
          clear c2
          have HR2 := Lib.hid hr2
          clear hr2
          have hu2 := by have h := HR2.out; rw [← HP2.out] at h; exact h
          have HU2 := Lib.hid hu2
          clear hu2
          go_wp2_with (first
            | (at_builtin; refine wpList_append_own _ rfl _ _ 36 rfl w.heap.size 53 i0 (.slice none 0 0) 1 24 Tryz.underlying36 hi hz0 hz1 hz2 rfl (by decide) _ k us rfl (hown.alloc _) ⟨wr.heap.size, 0, none⟩ 1 1 [.slice A2 yl d2] rfl rfl ?c1 ?c2 ?c3 ?c4 ?c5 ?_))
          case c1 => exact cell_one_new _ _ _
          case c2 => simp [Value.oneCell']
          case c3 => unfold maxLen; omega
          case c4 => omega
          case c5 => have := hb.size; simp; omega
          intro v1 w3 hown3 hgrow _
          have hb3 : Below w.heap.size w w3 := (hb.alloc hb.size _).grown hgrow (by have := hb.size; simp; omega) (fun k hk => (hown.lt k hk).1)
          have hsz : wr.heap.size ≤ w3.heap.size := by have := hgrow.size; simp at this; omega
          have hn2 := Lib.hid (And.intro (show k + 1 ≤ max n m from hlx.out) (NEXT.out _ v1 w3 HU2.out hb3 hsz))
          clear hgrow hown hb hsz
          go_wp2_with fail
          go_roundw
          case rel => exact ⟨k + 1, _, _, by omega, by go_num, rfl, hown3, hn2, hb3⟩
          case measure => simp [intOf]; omega
        · have i0' : (xl : Int) > 0 := by omega
          have HP2 := Lib.hid (HP.out.trans (if_neg h0))
          clear h0 c2
          go_wp2_with fail
          refine c1.mono ?_
          rintro e w1 ⟨A2, d2, rfl, hr2, rfl⟩
          clear c1
          have HR2 := Lib.hid hr2
          clear hr2
          have hu2 := by have h := HR2.out; rw [← HP2.out] at h; exact h
          have HU2 := Lib.hid hu2
          clear hu2
          go_wp2_with (first
            | (at_builtin; refine wpList_append_own _ rfl _ _ 36 rfl w.heap.size 53 i0 (.slice none 0 0) 1 24 Tryz.underlying36 hi hz0 hz1 hz2 rfl (by decide) _ k us rfl (hown.alloc _) ⟨wr.heap.size, 0, none⟩ 1 1 [.slice A2 xl d2] rfl rfl ?c1 ?c2 ?c3 ?c4 ?c5 ?_))
          case c1 => exact cell_one_new _ _ _
          case c2 => simp [Value.oneCell']
          case c3 => unfold maxLen; omega
          case c4 => omega
          case c5 => have := hb.size; simp; omega
          intro v1 w3 hown3 hgrow _
          have hb3 : Below w.heap.size w w3 := (hb.alloc hb.size _).grown hgrow (by have := hb.size; simp; omega) (fun k hk => (hown.lt k hk).1)
          have hsz : wr.heap.size ≤ w3.heap.size := by have := hgrow.size; simp at this; omega
          have hn2 := Lib.hid (And.intro (show k + 1 ≤ max n m from hlx.out) (NEXT.out _ v1 w3 HU2.out hb3 hsz))
          clear hgrow hown hb hsz
          go_wp2_with fail
          go_roundw
          case rel => exact ⟨k + 1, _, _, by omega, by go_num, rfl, hown3, hn2, hb3⟩
          case measure => simp [intOf]; omega
    · have hn1 : ¬ ((k : Int) < (n : Int)) := by omega
      have hm1 : ¬ ((k : Int) < (m : Int)) := by omega
      have hkm : k = max n m := by have := hz.out.1; omega
      have H := hz.out.2
      obtain ⟨c0, A0, rfl⟩ : ∃ c0 A0, sv = .slice A0 k c0 := by
        rcases hown.2 with ⟨rfl, rfl⟩ | ⟨g, cap, cur, rfl, _⟩
        · exact ⟨0, none, rfl⟩
        · exact ⟨cap, _, rfl⟩
      have hres := Lib.hid (show Merged T w (Mt.merge a b) (.returned (.slice A0 k c0)) wr from by
        have hlen : (Mt.merge a b).length = k := by rw [HN.out.2.2, hkm]
        refine ⟨A0, c0, by rw [hlen], ?_, hb⟩
        rw [hlen]
        have hul : us.length = k := by have := hown.1; omega
        refine ⟨us, (SlOn.own hown).mono fun j _ hj => .inl (hown.lt j hj).1, by rw [hul, hlen], fun j r hj => ?_⟩
        have hj2 : j < k := by rw [← hlen]; exact (List.getElem?_eq_some_iff.1 hj).1
        obtain ⟨u', h1, h2⟩ := H j hj2
        rw [Mt.merge_at a b (by obtain ⟨h1, h2, _⟩ := HN.out; omega)] at hj
        cases hj
        exact ⟨u', h1, h2.mono fun _ _ h => .inr h.1⟩)
      clear hlt H hz hown hkm
      go_wp2_with fail
      go_ret
      exact hres.out
def Tuples (w : World) (ts : List (List (List Vl))) (E : Ending) (w' : World) : Prop :=
  ∃ A c, E = .returned (.slice A ts.length c) ∧ TusOn Al w' (.slice A ts.length c) ts ∧ Below w.heap.size w w'
def TuplesOn (S : Nat → Prop) (w : World) (ts : List (List (List Vl))) (E : Ending) (w' : World) : Prop :=
  ∃ A c, E = .returned (.slice A ts.length c) ∧ TusOn S w' (.slice A ts.length c) ts ∧ Below w.heap.size w w'
theorem TuplesOn.tuples {S : Nat → Prop} {w w' : World} {ts : List (List (List Vl))} {E : Ending} (h : TuplesOn S w ts E w') : Tuples w ts E w' := by
  obtain ⟨A, c, h1, h2, h3⟩ := h
  exact ⟨A, c, h1, h2.al, h3⟩
theorem ownsForm {w : World} {base n : Nat} {e : TypeId} {s : Nat} {v : Value} {us : List Value} (h : w.ownsRow base e s v n us) : ∃ A c, v = .slice A n c := by
  rcases h.2 with ⟨rfl, rfl⟩ | ⟨g, cap, cur, rfl, _⟩
  · exact ⟨none, 0, rfl⟩
  · exact ⟨_, cap, rfl⟩
set_option maxRecDepth 100000 in
theorem r13matches_on (T : Nat → Prop) (d : Nat) (cv lv rv : Value) (ps : List Pd) (l : List (List Vl)) (r : List (List (List Vl))) (w : World) (hp : PsAt d w cv ps) (hsz : Pr.sizes ps ≤ 1000) (hl : RwsOn T w lv l) (hr : TusOn T w rv r)
    (hl1 : l.length ≤ 100) (hl2 : ∀ x ∈ l, x.length ≤ 100) (hr1 : r.length ≤ 20000) (hr2 : ∀ x ∈ r, x.length ≤ 100) (hr3 : ∀ x ∈ r, ∀ y ∈ x, y.length ≤ 100) :
    Calls Tryz.prog 68 #[cv, lv, rv] w (TuplesOn (fun k => w.heap.size ≤ k ∨ T k) w (Mt.found ps l r)) := by
  obtain ⟨i0, hi, hz0, hz1, hz2⟩ := info_parts Tryz.infoTup13
  have hl' : RwsOn (fun k => T k ∧ k < w.heap.size) w lv l := hl.mono fun k h1 h2 => ⟨h2, h1⟩
  have hr' : TusOn (fun k => T k ∧ k < w.heap.size) w rv r := hr.mono fun k h1 h2 => ⟨h2, h1⟩
  obtain ⟨P0, p0, rfl, _⟩ := hp.form
  obtain ⟨L0, c0, rfl, _⟩ := hl'.form
  obtain ⟨R0, c1, rfl, _⟩ := hr'.form
  have HP := Lib.hid (And.intro hp hsz)
  have HL := Lib.hid (And.intro hl' (And.intro hl1 hl2))
  have HR := Lib.hid (And.intro hr' (And.intro hr2 hr3))
  have hfl := fun q => Mt.found_le ps l (r.take q)
  have HFL := Lib.hid hfl
  obtain ⟨n, hn⟩ : ∃ n, n = r.length := ⟨_, rfl⟩
  rw [← hn] at hr1 HR ⊢
  have HN := Lib.hid hn
  obtain ⟨ll, hll⟩ : ∃ n, n = l.length := ⟨_, rfl⟩
  rw [← hll] at HL ⊢
  have HLL := Lib.hid hll
  obtain ⟨pl, hpl⟩ : ∃ n, n = ps.length := ⟨_, rfl⟩
  rw [← hpl] at HP ⊢
  have HOW := Lib.hid (own_empty w 36 1 w.heap.size (Nat.le_refl _) w.heap.size rfl)
  have hb1 := (Below.refl w.heap.size w).alloc (Nat.le_refl _) (Obj.cells #[] 36)
  clear hp hsz hl hr hl' hr' hl1 hl2 hr2 hr3 hn hll hpl hfl
  go_enter Tryz.func68, Tryz.ntmps68
  go_wp2_with fail
  go_loopw [7, 8] (fun s i wr => ∃ (q m : Nat) (us : List Value) (sv : Value), q ≤ n ∧ i = .int .i64 q ∧ sv = s ∧ m ≤ q ∧ Hid (m = (Mt.found ps l (r.take q)).length) ∧ Hid (TuRow (fun k => w.heap.size ≤ k ∨ T k) w.heap.size wr sv m us (Mt.found ps l (r.take q))) ∧ Below w.heap.size w wr) (fun _ i _ => n - (intOf i).toNat)
  case atStart => exact ⟨0, 0, [], _, by omega, rfl, rfl, by omega, Lib.hid (by simp [Mt.found_nil]), Lib.hid ⟨HOW.out, by simp [Mt.found_nil], fun i t h => by simp [Mt.found_nil] at h⟩, hb1⟩
  case round =>
    obtain ⟨q, m, us, sv, hq, rfl, rfl, hmq, HM, HT, hb⟩ := hrel
    by_cases hlt : q < n
    · obtain ⟨t, gt⟩ : ∃ t, r[q]? = some t := ⟨r[q]'(by have := HN.out; omega), List.getElem?_eq_getElem _⟩
      obtain ⟨b1, o1, p1, B1, d1, hR0, _, h1⟩ := HR.out.1.pick gt
      subst hR0
      have i1 : (0 : Int) ≤ (q : Int) := by omega
      have i2 : (q : Int) < (n : Int) := by omega
      obtain ⟨hcell, ht⟩ := h1 wr hb
      have htl := HR.out.2.1 t (List.mem_of_getElem? gt)
      have htl2 := HR.out.2.2 t (List.mem_of_getElem? gt)
      have hll := HLL.out
      have cm := r13merge_any (fun k => T k ∧ k < w.heap.size) _ _ l t wr (HL.out.1.below hb (Nat.le_refl _)) ht (by have := HL.out.2.1; omega) (by omega)
      have hml := Mt.merge_length l t
      obtain ⟨M, hM⟩ : ∃ M, M = Mt.merge l t := ⟨_, rfl⟩
      have hM2 : ∀ x ∈ M, x.length ≤ 1000 := by rw [hM]; exact fun x hx => Nat.le_trans (Mt.merge_mem HL.out.2.2 htl2 x hx) (by decide)
      rw [← hM] at cm hml
      have hM1 : M.length ≤ 1000 := by have := HL.out.2.1; omega
      have HMM := Lib.hid (And.intro hM (And.intro hM1 hM2))
      have HGT := Lib.hid (Mt.found_take (ps := ps) (l := l) gt)
      obtain ⟨tl, htl'⟩ : ∃ n, n = t.length := ⟨_, rfl⟩
      rw [← htl'] at cm hcell
      clear h1 gt ht htl htl2 hM hM1 hM2 hml hll htl'
      go_wp2_with fail
      refine cm.mono ?_
      rintro E w2 ⟨MA, mc, rfl, hMO, hb2⟩
      clear cm hcell
      have HMO := Lib.hid hMO
      have cs := r6all_any d _ ps _ M w2 (HP.out.1.below (below_join hb hb2) (Nat.le_refl _)) HP.out.2 hMO.rws HMM.out.2.1 HMM.out.2.2
      obtain ⟨z, hz⟩ : ∃ z, z = Lo.andI (ps.map (Pr.of M)) := ⟨_, rfl⟩
      rw [← hz] at cs
      have HZ := Lib.hid (show Mt.fits ps l t = decide (z = 2) by unfold Mt.fits; rw [← HMM.out.1, ← hz])
      obtain ⟨ml, hml⟩ : ∃ n, n = M.length := ⟨_, rfl⟩
      rw [← hml] at cs HMO ⊢
      clear hMO hz hml
      go_wp2_with fail
      refine cs.mono ?_
      rintro E w3 ⟨rfl, hb3⟩
      clear cs
      have hb4 := below_join hb (below_join hb2 hb3)
      have hsz := hb.size
      have hsz2 := hb2.size
      have hsz3 := hb3.size
      have HMO3 := Lib.hid (show RwsOn (fun k => sv.ownBlock ≠ some k ∧ (w.heap.size ≤ k ∨ T k)) (w3.alloc (Obj.cells #[.slice MA ml mc] 36)) (.slice MA ml mc) M from by
        have h1 := HMO.out.below hb3 (Nat.le_refl _)
        have h2 := h1.below (below_new w3 (Obj.cells #[.slice MA ml mc] 36)) (Nat.le_refl _)
        refine h2.mono fun k _ hk => ⟨fun e => ?_, ?_⟩
        · have := HT.out.own.lt k e
          rcases hk with hk | hk
          · omega
          · have := hk.2; omega
        · rcases hk with hk | hk
          · exact .inl (by omega)
          · exact .inr hk.1)
      have HT3 := Lib.hid ((HT.out.below (below_join hb2 hb3)).below (below_new w3 (Obj.cells #[.slice MA ml mc] 36)))
      have HTQ := Lib.hid (HT.out.below (below_join hb2 hb3))
      clear hb hb2 hb3 hsz2 hsz3
      by_cases hz2 : z = 2
      · have HG2 := Lib.hid (show Mt.found ps l (r.take (q + 1)) = Mt.found ps l (r.take q) ++ [M] by rw [HGT.out, HZ.out, HMM.out.1, hz2]; rfl)
        subst hz2
        go_wp2_with (first
          | (at_builtin; refine wpList_append_at _ rfl _ _ 29 rfl w.heap.size 36 i0 (.slice none 0 0) 1 24 Tryz.underlying29 hi hz0 hz1 hz2 rfl (by decide) _ m us rfl HT3.out.own ⟨w3.heap.size, 0, none⟩ 1 1 [.slice MA ml mc] rfl rfl ?c1 ?c2 ?c3 ?c4 ?c5 ?_))
        case c1 => exact cell_one_new _ _ _
        case c2 => simp [Value.oneCell']
        case c3 => unfold maxLen; omega
        case c4 => omega
        case c5 => have := hb4.size; simp; omega
        intro v1 w5 hown3 hgrow hwhere
        have hb5 : Below w.heap.size w w5 := (hb4.alloc hb4.size _).grown hgrow (by have := hb4.size; simp; omega) (fun k hk => (HTQ.out.own.lt k hk).1)
        have HT5 := Lib.hid (show TuRow (fun k => w.heap.size ≤ k ∨ T k) w.heap.size w5 v1 (m + 1) (us ++ [.slice MA ml mc]) (Mt.found ps l (r.take (q + 1))) from by rw [HG2.out]; exact HT3.out.push HMO3.out hown3 hgrow (by simpa using hwhere))
        have HM5 := Lib.hid (show m + 1 = (Mt.found ps l (r.take (q + 1))).length by rw [HG2.out, List.length_append, ← HM.out]; rfl)
        clear hown3 hgrow hwhere hb4
        go_wp2_with fail
        go_roundw
        case rel => exact ⟨q + 1, m + 1, _, _, by omega, by go_num, rfl, by omega, HM5, HT5, hb5⟩
        case measure => simp [intOf]; omega
      · have HG2 := (show Mt.found ps l (r.take (q + 1)) = Mt.found ps l (r.take q) by rw [HGT.out, HZ.out, decide_eq_false hz2]; simp)
        have HM5 := Lib.hid (show m = (Mt.found ps l (r.take (q + 1))).length by rw [HG2, ← HM.out])
        have HT5 := Lib.hid (show TuRow (fun k => w.heap.size ≤ k ∨ T k) w.heap.size w3 sv m us (Mt.found ps l (r.take (q + 1))) from by rw [HG2]; exact HTQ.out)
        clear HG2
        go_wp2_with fail
        go_roundw
        case rel => exact ⟨q + 1, m, _, _, by omega, by go_num, rfl, by omega, HM5, HT5, hb4⟩
        case measure => simp [intOf]; omega
    · obtain ⟨A0, a0, rfl⟩ := ownsForm HT.out.own
      have hres := Lib.hid (show TuplesOn (fun k => w.heap.size ≤ k ∨ T k) w (Mt.found ps l r) (.returned (.slice A0 m a0)) wr from by
        have h1 := HT.out
        have h2 := HM.out
        rw [List.take_of_length_le (by have := HN.out; omega)] at h1 h2
        exact ⟨A0, a0, by rw [← h2], by rw [← h2]; exact h1.tusOn (fun _ h => .inl h) (fun _ h => h), hb⟩)
      clear hb
      go_wp2_with fail
      go_ret
      exact hres.out
theorem tus_oneOn {T S : Nat → Prop} {w : World} {A : Option Addr} {c n : Nat} {t : List (List Vl)} (h : RwsOn T w (.slice A n c) t) (e : TypeId) (hT : ∀ k, T k → S k) (hs : S w.heap.size) : TusOn S (w.alloc (Obj.cells #[.slice A n c] e)) (.slice (some ⟨w.heap.size, 0, none⟩) 1 1) [t] := by
  have hb := below_new w (Obj.cells #[.slice A n c] e)
  refine ⟨[.slice A n c], ⟨_, 1, rfl, Nat.le_refl _, fun j u hu => ⟨w.heap.size, 0, none, rfl, hs, by simp, cell_one_new _ _ _ j u hu⟩⟩, rfl, fun i x hi => ?_⟩
  cases i with
  | zero => cases hi; exact ⟨_, rfl, (h.below hb (Nat.le_refl _)).mono fun k _ hk => hT k hk⟩
  | succ i => simp at hi
set_option maxRecDepth 100000 in
theorem r13extend_on (T : Nat → Prop) (k : Int) (d : Nat) (cv lv rv : Value) (ps : List Pd) (l : List (List Vl)) (r : List (List (List Vl))) (w : World) (hp : PsAt d w cv ps) (hsz : Pr.sizes ps ≤ 1000) (hl : RwsOn T w lv l) (hr : TusOn T w rv r)
    (hl1 : l.length ≤ 100) (hl2 : ∀ x ∈ l, x.length ≤ 100) (hr1 : r.length ≤ 20000) (hr2 : ∀ x ∈ r, x.length ≤ 100) (hr3 : ∀ x ∈ r, ∀ y ∈ x, y.length ≤ 100) :
    Calls Tryz.prog 54 #[.int .i64 k, cv, lv, rv] w (TuplesOn (fun j => w.heap.size ≤ j ∨ T j) w (Mt.extend k ps l r)) := by
  have cm := r13matches_on T d cv lv rv ps l r w hp hsz hl hr hl1 hl2 hr1 hr2 hr3
  obtain ⟨m, hm⟩ : ∃ m, m = Mt.found ps l r := ⟨_, rfl⟩
  obtain ⟨P0, p0, rfl, _⟩ := hp.form
  obtain ⟨L0, c0, rfl, _⟩ := hl.form
  obtain ⟨R0, c1, rfl, _⟩ := hr.form
  have HL := Lib.hid hl
  unfold Mt.extend
  rw [← hm] at cm ⊢
  have hml : m.length ≤ 20000 := by rw [hm]; exact Nat.le_trans (Mt.found_le _ _ _) hr1
  clear hp hsz hl hr hl1 hl2 hr1 hr2 hr3 hm
  generalize ps.length = pl at *
  generalize r.length = rl at *
  obtain ⟨ll, hll⟩ : ∃ n, n = l.length := ⟨_, rfl⟩
  rw [← hll] at HL cm ⊢
  have HLL := Lib.hid hll
  clear hll
  obtain ⟨ml, hml'⟩ : ∃ n, n = m.length := ⟨_, rfl⟩
  have HML := Lib.hid hml'
  have fin1 : (k = 1 ∨ (k = 2 ∧ 0 < ml)) → Mt.of k l m = m := fun h => by unfold Mt.of; rw [if_pos (by rw [← hml']; exact h)]
  have fin2 : ¬ (k = 1 ∨ (k = 2 ∧ 0 < ml)) → (k = 2 ∨ (k = 3 ∧ 0 < ml) ∨ (k = 4 ∧ ¬ 0 < ml)) → Mt.of k l m = [l] := fun h h2 => by
    unfold Mt.of; rw [if_neg (by rw [← hml']; exact h), if_pos (by rw [← hml']; exact h2)]
  have fin3 : ¬ (k = 1 ∨ (k = 2 ∧ 0 < ml)) → ¬ (k = 2 ∨ (k = 3 ∧ 0 < ml) ∨ (k = 4 ∧ ¬ 0 < ml)) → Mt.of k l m = [] := fun h h2 => by
    unfold Mt.of; rw [if_neg (by rw [← hml']; exact h), if_neg (by rw [← hml']; exact h2)]
  have F1 := Lib.hid fin1
  have F2 := Lib.hid fin2
  have F3 := Lib.hid fin3
  clear fin1 fin2 fin3
  go_enter Tryz.func54, Tryz.ntmps54
  go_wp2_with fail
  refine cm.mono ?_
  rintro E w1 ⟨MA, mc, rfl, hMO, hb⟩
  have HL1 := Lib.hid (HL.out.below hb (Nat.le_refl _))
  have R1 := Lib.hid (show (k = 1 ∨ (k = 2 ∧ 0 < ml)) → TuplesOn (fun j => w.heap.size ≤ j ∨ T j) w (Mt.of k l m) (.returned (.slice MA ml mc)) w1 from fun h => by
    rw [F1.out h, HML.out]; exact ⟨MA, mc, rfl, hMO, hb⟩)
  have R2 := Lib.hid (show ¬ (k = 1 ∨ (k = 2 ∧ 0 < ml)) → (k = 2 ∨ (k = 3 ∧ 0 < ml) ∨ (k = 4 ∧ ¬ 0 < ml)) → TuplesOn (fun j => w.heap.size ≤ j ∨ T j) w (Mt.of k l m) (.returned (.slice (some ⟨w1.heap.size, 0, none⟩) 1 1)) (w1.alloc (Obj.cells #[.slice L0 ll c0] 36)) from fun h h2 => by
    rw [F2.out h h2]; exact ⟨_, 1, rfl, tus_oneOn HL1.out _ (fun _ h => .inr h) (.inl hb.size), below_join hb (below_new _ _)⟩)
  have R3 := Lib.hid (show ¬ (k = 1 ∨ (k = 2 ∧ 0 < ml)) → ¬ (k = 2 ∨ (k = 3 ∧ 0 < ml) ∨ (k = 4 ∧ ¬ 0 < ml)) → TuplesOn (fun j => w.heap.size ≤ j ∨ T j) w (Mt.of k l m) (.returned (.slice none 0 0)) w1 from fun h h2 => by
    rw [F3.out h h2]; exact ⟨none, 0, rfl, TusOn.nil _ _, hb⟩)
  rw [← hml'] at hml ⊢
  clear cm hMO hml' hb F1 F2 F3 HL HL1 HML HLL
  by_cases hs : 0 < ml
  · have hs1 : (0 : Int) < (ml : Int) := by omega
    have hs2 : (ml : Int) > 0 := by omega
    have hs3 : decide (0 < ml) = true := decide_eq_true hs
    by_cases k1 : k = 1
    · have R := Lib.hid (R1.out (by omega))
      clear R1 R2 R3
      subst k1
      go_wp2_with fail
      go_ret
      exact R.out
    · by_cases k2 : k = 2
      · have R := Lib.hid (R1.out (by omega))
        clear R1 R2 R3 k1
        subst k2
        go_wp2_with fail
        go_ret
        exact R.out
      · by_cases k3 : k = 3
        · have R := Lib.hid (R2.out (by omega) (by omega))
          clear R1 R2 R3 k1 k2
          subst k3
          go_wp2_with fail
          go_ret
          exact R.out
        · have R := Lib.hid (R3.out (by omega) (by omega))
          clear R1 R2 R3
          by_cases k4 : k = 4
          · clear k1 k2 k3
            subst k4
            go_wp2_with fail
            go_ret
            exact R.out
          · go_wp2_with fail
            go_ret
            exact R.out
  · have hs1 : ¬ ((0 : Int) < (ml : Int)) := by omega
    have hs2 : ¬ ((ml : Int) > 0) := by omega
    have hs3 : decide (0 < ml) = false := decide_eq_false hs
    by_cases k1 : k = 1
    · have R := Lib.hid (R1.out (by omega))
      clear R1 R2 R3
      subst k1
      go_wp2_with fail
      go_ret
      exact R.out
    · by_cases k2 : k = 2
      · have R := Lib.hid (R2.out (by omega) (by omega))
        clear R1 R2 R3 k1
        subst k2
        go_wp2_with fail
        go_ret
        exact R.out
      · by_cases k4 : k = 4
        · have R := Lib.hid (R2.out (by omega) (by omega))
          clear R1 R2 R3 k1 k2
          subst k4
          go_wp2_with fail
          go_ret
          exact R.out
        · have R := Lib.hid (R3.out (by omega) (by omega))
          clear R1 R2 R3
          by_cases k3 : k = 3
          · clear k1 k2 k4
            subst k3
            go_wp2_with fail
            go_ret
            exact R.out
          · go_wp2_with fail
            go_ret
            exact R.out
end Go.Proofs.YtpaaibghfhnicaaGreatDoor

/-
  LAWS OF NO PROGRAM: clear and copy over a block that is known whole; elements of any number of cells.
-/
namespace Go.Proofs.YtpaaibghfhnicaaGreatDoor
open Go Go.RowKit
variable {P : Program}

theorem keeps_setRow (w : World) (g : Nat) (cs : Array Value) : Keeps (fun k => k ≠ g) w (w.setRow g cs) :=
  ⟨rfl, rfl, rfl, by simp [World.setRow], fun k _ hk => setRow_other w g k cs hk⟩
theorem keeps_setCell (w : World) (p : Addr) (u : Value) : Keeps (fun k => k ≠ p.block) w (w.setCell p u) :=
  ⟨rfl, rfl, rfl, by simp, fun k _ hk => Below.heap_setCell w p u k hk⟩
theorem run_clear_row (w : World) (t e ty : TypeId) (z : Value) (ht : P.underlying t = some (.slice e)) (hv : ∀ w, (zeroValue e).run P w = .ok z w) (hz : z.cells = #[z]) (h1 : z.oneCell' = true)
    (g n c : Nat) (cur : List Value) (T : TypeId) (hg : w.heap[g]? = some (.cells cur.toArray T (0, 0))) (hn : n ≤ cur.length) :
    ∃ w', (Builtin.clear_ #[t] ty #[.slice (some ⟨g, 0, none⟩) n c]).run P w = .ok (.tuple #[]) w' ∧ w'.heap[g]? = some (.cells (List.replicate n z ++ cur.drop n).toArray T (0, 0)) ∧ Keeps (fun k => k ≠ g) w w' ∧ w'.heap.size = w.heap.size := by
  cases n with
  | zero =>
    refine ⟨w, ?_, by simpa using hg, Keeps.refl _ _, rfl⟩
    simp [Builtin.clear_, run_underlying ht]
  | succ n =>
    have hzc : (Builtin.zeroCells z.cells (n + 1)).toList = List.replicate (n + 1) z := by
      refine List.eq_replicate_iff.2 ⟨by simp [Builtin.zeroCells, hz], fun b hb => ?_⟩
      obtain ⟨i, hi, rfl⟩ := List.mem_iff_getElem.1 hb
      simp [Builtin.zeroCells, hz, Nat.mod_one]
    have hst := run_storeCells_at P g 0 T (List.replicate (n + 1) z) 0 cur.toArray w hg (by simpa using hn) (by intro v hv'; rw [List.eq_of_mem_replicate hv']; exact h1)
    have hst' : (storeCells ⟨g, 0, none⟩ (List.replicate (n + 1) z) 0).run P w = .ok () (w.setRow g (List.replicate (n + 1) z ++ cur.drop (n + 1)).toArray) := by
      rw [hst]; simp
    refine ⟨w.setRow g (List.replicate (n + 1) z ++ cur.drop (n + 1)).toArray, ?_, setRow_heap w g _ _ T _ hg, keeps_setRow w g _, by simp [World.setRow]⟩
    simp [Builtin.clear_, run_underlying ht, hv, hzc, hst']
theorem wpList_clear_row (w : World) {ops : Array Oper} {rest : List Oper} {o : Oper} {a : Act} {Q : Exit → Act → World → Prop} (hgd : o.guard = none) (s : Operand) (t : TypeId)
    (ho : o.op = .call { callee := .builtin .clear, args := #[s], argTypes := #[t] }) (e : TypeId) (z : Value) (ht : P.underlying t = some (.slice e)) (hv : ∀ w, (zeroValue e).run P w = .ok z w) (hz : z.cells = #[z]) (h1 : z.oneCell' = true)
    (g n c : Nat) (hs : a.eval s = .slice (some ⟨g, 0, none⟩) n c) (cur : List Value) (T : TypeId) (hg : w.heap[g]? = some (.cells cur.toArray T (0, 0))) (hn : n ≤ cur.length)
    (h : ∀ w', w'.heap[g]? = some (.cells (List.replicate n z ++ cur.drop n).toArray T (0, 0)) → Keeps (fun k => k ≠ g) w w' → w'.heap.size = w.heap.size → wpList P ops Q rest (a.put o.dst (.tuple #[])) w') : wpList P ops Q (o :: rest) a w := by
  refine wpList_plain hgd fun K hK => ?_
  obtain ⟨w', hrun, r1, r2, r3⟩ := run_clear_row (P := P) w t e o.type z ht hv hz h1 g n c cur T hg hn
  unfold Oper.wp
  simp [execOp, ho, resolve, invoke, builtin, hs, hrun, Result.andThen]
  exact hK _ _ (h w' r1 r2 r3)
theorem run_copy_any (w : World) (dT sT ty elem : TypeId) (size : Nat) (hu : P.underlying dT = some (.slice elem)) (hsz : (P.info? elem).map (·.size) = some size)
    (dp sp : Option Addr) (dLen dCap sLen sCap : Nat)
    (g off : Nat) (cur : List Value) (t : TypeId) (hg : w.heap[g]? = some (.cells cur.toArray t (0, 0))) (k : Nat) (hk : k = Nat.min sLen dLen) (cs : List Value) (hn : cs.length = k * size)
    (hpos : 0 < cs.length → dp = some ⟨g, off, none⟩ ∧ ∃ ad, sp = some ad ∧ ∀ j v, cs[j]? = some v → w.cell? (ad.add j) = some v)
    (hs0 : 0 < size) (hfit : off + cs.length ≤ cur.length) (h1 : ∀ v ∈ cs, v.oneCell' = true) :
    ∃ w', (Builtin.copy_ #[dT, sT] ty #[.slice dp dLen dCap, .slice sp sLen sCap]).run P w = .ok (goInt k) w' ∧ w'.heap[g]? = some (.cells (splice cur off cs).toArray t (0, 0)) ∧ Keeps (fun k => k ≠ g) w w' ∧ w'.heap.size = w.heap.size := by
  cases hq : P.info? elem with
  | none => simp [hq] at hsz
  | some i =>
    have hi : i.size = size := by simpa [hq] using hsz
    by_cases h0 : cs.length = 0
    · obtain rfl : cs = [] := List.eq_nil_of_length_eq_zero h0
      have hk0 : k = 0 := by
        rcases Nat.eq_zero_or_pos k with e | e
        · exact e
        · have := Nat.mul_pos e hs0; simp at hn; omega
      refine ⟨w, ?_, by simpa [splice] using hg, Keeps.refl _ _, rfl⟩
      subst hk0
      have hfc : ∀ x : Option Addr, (Builtin.firstCells i.size 0 (.slice x sLen sCap)).run P w = .ok #[] w := fun x => by
        cases x with
        | none => exact run_firstCells_none w i.size 0 sLen sCap
        | some ad => exact run_firstCells_some (P := P) w i.size 0 ad sLen sCap [] (by simp) (by simp)
      cases dp <;> simp [Builtin.copy_, run_underlying hu, Builtin.lenOf, sizeOf, typeInfo, hq, ← hk, hfc, storeCells]
    · obtain ⟨rfl, ad, rfl, hsrc⟩ := hpos (by omega)
      have hl := run_firstCells_some (P := P) w i.size k ad sLen sCap cs (by rw [hi]; exact hn) hsrc
      have hst := run_storeCells_at P g off t cs 0 cur.toArray w hg (by simpa using hfit) h1
      have hst' : (storeCells ⟨g, off, none⟩ cs 0).run P w = .ok () (w.setRow g (splice cur off cs).toArray) := by
        rw [hst]; simp [splice]
      refine ⟨w.setRow g (splice cur off cs).toArray, ?_, setRow_heap w g _ _ t _ hg, keeps_setRow w g _, by simp [World.setRow]⟩
      simp [Builtin.copy_, run_underlying hu, Builtin.lenOf, sizeOf, typeInfo, hq, ← hk, hl, hst']
theorem wpList_copy_any (w : World) {ops : Array Oper} {rest : List Oper} {o : Oper} {a : Act} {Q : Exit → Act → World → Prop} (hgd : o.guard = none) (d s : Operand) (dT sT : TypeId)
    (ho : o.op = .call { callee := .builtin .copy, args := #[d, s], argTypes := #[dT, sT] }) (elem : TypeId) (size : Nat) (hu : P.underlying dT = some (.slice elem)) (hsz : (P.info? elem).map (·.size) = some size)
    (dp sp : Option Addr) (dLen dCap sLen sCap : Nat) (hd : a.eval d = .slice dp dLen dCap) (hs : a.eval s = .slice sp sLen sCap)
    (g off : Nat) (cur : List Value) (t : TypeId) (hg : w.heap[g]? = some (.cells cur.toArray t (0, 0))) (k : Nat) (hk : k = Nat.min sLen dLen) (cs : List Value) (hn : cs.length = k * size)
    (hpos : 0 < cs.length → dp = some ⟨g, off, none⟩ ∧ ∃ ad, sp = some ad ∧ ∀ j v, cs[j]? = some v → w.cell? (ad.add j) = some v)
    (hs0 : 0 < size) (hfit : off + cs.length ≤ cur.length) (h1 : ∀ v ∈ cs, v.oneCell' = true)
    (h : ∀ w', w'.heap[g]? = some (.cells (splice cur off cs).toArray t (0, 0)) → Keeps (fun k => k ≠ g) w w' → w'.heap.size = w.heap.size → wpList P ops Q rest (a.put o.dst (goInt k)) w') : wpList P ops Q (o :: rest) a w := by
  refine wpList_plain hgd fun K hK => ?_
  obtain ⟨w', hrun, r1, r2, r3⟩ := run_copy_any (P := P) w dT sT o.type elem size hu hsz dp sp dLen dCap sLen sCap g off cur t hg k hk cs hn hpos hs0 hfit h1
  unfold Oper.wp
  simp [execOp, ho, resolve, invoke, builtin, hd, hs, hrun, Result.andThen]
  exact hK _ _ (h w' r1 r2 r3)
theorem step_copy_any {ops : Array Oper} {o : Oper} {a : Act} {w : World} {K : Act → World → Prop} {Q : Exit → Act → World → Prop} {E : Prop} (hgd : o.guard = none) (d s : Operand) (dT sT : TypeId)
    (ho : o.op = .call { callee := .builtin .copy, args := #[d, s], argTypes := #[dT, sT] }) (elem : TypeId) (size : Nat) (hu : P.underlying dT = some (.slice elem)) (hsz : (P.info? elem).map (·.size) = some size)
    (dp sp : Option Addr) (dLen dCap sLen sCap : Nat) (hd : a.eval d = .slice dp dLen dCap) (hs : a.eval s = .slice sp sLen sCap)
    (g off : Nat) (cur : List Value) (t : TypeId) (hg : w.heap[g]? = some (.cells cur.toArray t (0, 0))) (k : Nat) (hk : k = Nat.min sLen dLen) (cs : List Value) (hn : cs.length = k * size)
    (hpos : 0 < cs.length → dp = some ⟨g, off, none⟩ ∧ ∃ ad, sp = some ad ∧ ∀ j v, cs[j]? = some v → w.cell? (ad.add j) = some v)
    (hs0 : 0 < size) (hfit : off + cs.length ≤ cur.length) (h1 : ∀ v ∈ cs, v.oneCell' = true)
    (h : ∀ w', Hid (w'.heap[g]? = some (.cells (splice cur off cs).toArray t (0, 0)) ∧ Keeps (fun k => k ≠ g) w w' ∧ w'.heap.size = w.heap.size) → K (a.put o.dst (goInt k)) w') :
    if Region.wanted o (yielded ops a.tmps) = true then Oper.wp P o a w K Q else E := by
  have hw : Region.wanted o (yielded ops a.tmps) = true := by simp [Region.wanted, hgd]
  rw [if_pos hw]
  obtain ⟨w', hrun, r1, r2, r3⟩ := run_copy_any (P := P) w dT sT o.type elem size hu hsz dp sp dLen dCap sLen sCap g off cur t hg k hk cs hn hpos hs0 hfit h1
  unfold Oper.wp
  simp [execOp, ho, resolve, invoke, builtin, hd, hs, hrun, Result.andThen]
  exact h w' (Lib.hid ⟨r1, r2, r3⟩)
end Go.Proofs.YtpaaibghfhnicaaGreatDoor

/-
  PACKAGE match: lay; Merge. And the library's Grow of a list of rows.
-/
namespace Go.Proofs.YtpaaibghfhnicaaGreatDoor
open Go.RowKit Go.Sort
set_option maxHeartbeats 3200000

def Grown13 (base n : Nat) (v : Value) (w : World) (E : Ending) (w' : World) : Prop :=
  ∃ A c, E = .returned (.slice A 0 c) ∧ w'.ownsRow base 53 1 (.slice A 0 c) 0 [] ∧ n ≤ c ∧ Below w.heap.size w w' ∧ ((Value.slice A 0 c).ownBlock = v.ownBlock ∨ ∃ g, (Value.slice A 0 c).ownBlock = some g ∧ w.heap.size ≤ g)
theorem bare_grow {w : World} {A : Option Addr} {c base : Nat} (h : w.ownsRow base 53 1 (.slice A 0 c) 0 []) :
    ∃ olds : List Value, olds.length = c ∧ (Builtin.firstCells 1 c (.slice A c c)).run Tryz.prog w.drew = .ok olds.toArray w.drew := by
  rcases h.2 with ⟨hv, _⟩ | ⟨g, cap, cur, hv, hb, hg, _, hm, hs, _⟩
  · cases hv
    exact ⟨[], rfl, run_firstCells_none w.drew 1 0 0 0⟩
  · cases hv
    refine ⟨cur.toList, by simpa using hs, run_firstCells_some (P := Tryz.prog) w.drew 1 c ⟨g, 0, none⟩ c c cur.toList (by simpa using hs) fun j u hj => ?_⟩
    have e : ((⟨g, 0, none⟩ : Addr).add j) = ⟨g, j, none⟩ := by
      unfold Addr.add
      split <;> simp_all
    rw [e]
    show w.cell? _ = _
    unfold World.cell?
    simp only [hg]
    simpa using hj
set_option maxRecDepth 100000 in
theorem growr_any (base n c : Nat) (A : Option Addr) (w : World) (hn : n ≤ 1000) (hown : w.ownsRow base 53 1 (.slice A 0 c) 0 []) (hbase : base ≤ w.heap.size) :
    Calls Tryz.prog 157 #[.slice A 0 c, .int .i64 (n : Int)] w (Grown13 base n (.slice A 0 c) w) := by
  obtain ⟨i0, hi, hz0, hz1, hz2⟩ := info_parts Tryz.infoRow13
  have hcm : c ≤ maxLen := by
    rcases hown.2 with ⟨hv, _⟩ | ⟨g, cap, cur, hv, hb, hg, _, hm, hs, _⟩
    · cases hv; unfold maxLen; omega
    · cases hv; exact hm
  have hc63 : c ≤ 9223372036854775807 := by unfold maxLen at hcm; omega
  have h1 : ¬ ((n : Int) < 0) := by omega
  have h2 : wrap64 ((c : Int) - (0 : Int)) = (c : Int) := by unfold wrap64; omega
  have h3 : wrap64 ((n : Int) - (c : Int)) = (n : Int) - (c : Int) := by unfold wrap64; omega
  by_cases hroom : n ≤ c
  · have h4 : ¬ ((n : Int) - (c : Int) > 0) := by omega
    have HO := Lib.hid hown
    clear hown
    go_enter Tryz.func157, Tryz.ntmps157
    go_wp2_with fail
    go_ret
    exact ⟨A, c, rfl, HO.out, hroom, Below.refl _ _, .inl rfl⟩
  · have h4 : ((n : Int) - (c : Int) > 0) := by omega
    obtain ⟨olds, hol, hold⟩ := bare_grow hown
    have hck : c + (n - c) = n := by omega
    have hr : ∀ ty, (Builtin.append_ #[36, 3] ty #[.slice A c c, .int .i64 ((n : Int) - (c : Int))]).run Tryz.prog w =
        .ok (.slice (some ⟨w.heap.size, 0, none⟩) n (grownCap w n c 53)) (w.drew.alloc (.cells (olds.toArray ++ Builtin.zeroCells (.slice none 0 0 : Value).cells (n - c) ++ Builtin.zeroCells (.slice none 0 0 : Value).cells (grownCap w n c 53 - n)) 53)) := fun ty => by
      have h := Lib.run_append_grow_zeros (P := Tryz.prog) w 36 3 ty 53 i0 (.slice none 0 0) .i64 .i64 Tryz.underlying36 Tryz.underlying3 hi hz0 A c c olds (by rw [hz1]; exact hold) (n - c) (by omega) (by rw [hz1]; decide) (by omega) (by omega) (by rw [hz2]; omega)
        (by rw [hck]; exact growslice_fits (by omega) (by rw [hz2]; omega))
      rw [hck] at h
      rw [show (n : Int) - (c : Int) = ((n - c : Nat) : Int) by omega]
      exact h
    obtain ⟨G, hG⟩ : ∃ G, G = grownCap w n c 53 := ⟨_, rfl⟩
    have hG1 : G ≤ maxLen := by rw [hG]; exact grownCap_le_maxLen w n c _ (by unfold maxLen; omega)
    have hG2 : n ≤ G := by rw [hG]; exact grownCap_ge w _ _ _
    have hG3 : G ≤ 9223372036854775807 := by unfold maxLen at hG1; omega
    rw [← hG] at hr
    obtain ⟨cur, hcur⟩ : ∃ cur, cur = olds.toArray ++ Builtin.zeroCells (.slice none 0 0 : Value).cells (n - c) ++ Builtin.zeroCells (.slice none 0 0 : Value).cells (G - n) := ⟨_, rfl⟩
    have hcs : cur.size = G * 1 := by
      rw [hcur, Array.size_append, Array.size_append, size_zeroCells, size_zeroCells, show (.slice none 0 0 : Value).cells.size = 1 from rfl, List.size_toArray, hol]; omega
    rw [← hcur] at hr
    clear hcur hG hold hck
    have how := Lib.hid (World.ownsRow_made (base := base) (size := 1) (e := 53) w.drew cur G hbase hG1 hcs)
    have hbw := Lib.hid (show Below w.heap.size w (w.drew.alloc (.cells cur 53)) from ((Below.refl _ w).drew).alloc (Nat.le_refl _) _)
    have HO := Lib.hid hown
    clear hown hroom
    go_enter Tryz.func157, Tryz.ntmps157
    go_wp2_with (first | (at_builtin; refine Lib.wpList_append_run _ rfl _ _ _ _ rfl _ _ rfl rfl _ _ (hr _) ?_))
    all_goals (go_ret; exact ⟨_, G, rfl, how.out, hG2, hbw.out, .inr ⟨w.heap.size, rfl, Nat.le_refl _⟩⟩)
theorem bare_of {w : World} {base n : Nat} {v : Value} {xs : List Value} (h : w.ownsRow base 53 1 v n xs) :
    ∃ A c, v = .slice A n c ∧ n ≤ c ∧ c ≤ maxLen ∧ w.ownsRow base 53 1 (.slice A 0 c) 0 [] ∧ (A = none → n = 0 ∧ c = 0) := by
  rcases h.2 with ⟨rfl, rfl⟩ | ⟨g, cap, cur, rfl, hb, hg, hn, hm, hs, _⟩
  · exact ⟨none, 0, rfl, Nat.le_refl _, by unfold maxLen; omega, World.ownsRow_nil _ _ _ _, fun _ => ⟨rfl, rfl⟩⟩
  · exact ⟨_, cap, rfl, hn, hm, ⟨by simp, .inr ⟨g, cap, cur, rfl, hb, hg, Nat.zero_le _, hm, hs, by simp⟩⟩, fun h => by cases h⟩
theorem zero13 (i0 : TypeInfo) (hi : Tryz.prog.info? 53 = some i0) (hz : i0.zero = some (.slice none 0 0)) : ∀ w, (zeroValue 53).run Tryz.prog w = .ok (.slice none 0 0) w := fun w => by
  simp [zeroValue, typeInfo, hi, hz]
def Laid13 (T : Nat → Prop) (base : Nat) (tv : Value) (w : World) (m : List (List Vl)) (E : Ending) (w' : World) : Prop :=
  ∃ A c us, E = .returned (.slice A m.length c) ∧ w'.ownsRow base 53 1 (.slice A m.length c) m.length us ∧ (∀ (i : Nat) (r : List Vl), m[i]? = some r → ∃ u, us[i]? = some u ∧ RowOn T w u r) ∧ Keeps (fun k => tv.ownBlock ≠ some k) w w' ∧
    ((Value.slice A m.length c).ownBlock = tv.ownBlock ∨ ∃ g, (Value.slice A m.length c).ownBlock = some g ∧ w.heap.size ≤ g)
theorem bare_form {w : World} {base c : Nat} {G : Option Addr} (h : w.ownsRow base 53 1 (.slice G 0 c) 0 []) :
    (G = none ∧ c = 0) ∨ ∃ g cl, G = some ⟨g, 0, none⟩ ∧ base ≤ g ∧ c ≤ maxLen ∧ Lies w g 53 cl ∧ cl.length = c := by
  rcases h.2 with ⟨hv, _⟩ | ⟨g, cap, cur, hv, hb, hg, _, hm, hs, _⟩
  · cases hv; exact .inl ⟨rfl, rfl⟩
  · cases hv; exact .inr ⟨g, cur.toList, rfl, hb, hm, by simpa [Lies] using hg, by simpa using hs⟩
def Part13 (T : Nat → Prop) (w : World) (a b : List (List Vl)) (L k : Nat) (cl : List Value) : Prop :=
  ∀ j, j < L → ∃ u, cl[j]? = some u ∧ RowOn T w u (if j < k then Mt.pick a b j else Mt.row b j)
theorem part_start {T : Nat → Prop} {w : World} {a b : List (List Vl)} {L : Nat} {cl vb : List Value} {bv : Value} (h : RwsIn T w bv vb b) :
    Part13 T w a b L 0 (splice (List.replicate L (.slice none 0 0) ++ cl.drop L) 0 vb) := by
  intro j hj
  rw [if_neg (by omega)]
  have hl := h.len
  by_cases hb : j < b.length
  · obtain ⟨u, hu, hr⟩ := h.row j _ (Mt.row_mem hb)
    refine ⟨u, ?_, hr⟩
    unfold splice
    rw [List.take_zero, List.nil_append, List.getElem?_append_left (by omega)]
    exact hu
  · refine ⟨.slice none 0 0, ?_, by rw [Mt.row_out (by omega)]; exact RowOn.nil T w⟩
    unfold splice
    rw [List.take_zero, List.nil_append, List.getElem?_append_right (by omega), List.getElem?_drop, List.getElem?_append_left (by simp; omega), List.getElem?_replicate, if_pos (by omega)]
theorem part_set {T : Nat → Prop} {w : World} {a b : List (List Vl)} {L k : Nat} {cl : List Value} {u : Value} (h : Part13 T w a b L k cl) (hl : L ≤ cl.length) (hr : RowOn T w u (Mt.row a k)) (hne : ¬ (Mt.row a k).length = 0) :
    Part13 T w a b L (k + 1) (cl.set k u) := by
  intro j hj
  by_cases e : j = k
  · subst e
    refine ⟨u, by rw [List.getElem?_set_self (by omega)], ?_⟩
    rw [if_pos (by omega)]
    unfold Mt.pick
    rw [if_neg hne]
    exact hr
  · obtain ⟨u', h1, h2⟩ := h j hj
    refine ⟨u', by rw [List.getElem?_set_ne (by omega)]; exact h1, ?_⟩
    by_cases g : j < k
    · rw [if_pos (by omega)]; rw [if_pos g] at h2; exact h2
    · rw [if_neg (by omega)]; rw [if_neg g] at h2; exact h2
theorem part_skip {T : Nat → Prop} {w : World} {a b : List (List Vl)} {L k : Nat} {cl : List Value} (h : Part13 T w a b L k cl) (he : (Mt.row a k).length = 0) : Part13 T w a b L (k + 1) cl := by
  intro j hj
  obtain ⟨u', h1, h2⟩ := h j hj
  refine ⟨u', h1, ?_⟩
  by_cases e : j = k
  · subst e
    rw [if_neg (by omega)] at h2
    rw [if_pos (by omega)]
    unfold Mt.pick
    rw [if_pos he]
    exact h2
  · by_cases g : j < k
    · rw [if_pos (by omega)]; rw [if_pos g] at h2; exact h2
    · rw [if_neg (by omega)]; rw [if_neg g] at h2; exact h2
theorem keeps_into {S : Nat → Prop} {w w1 w2 : World} {g : Nat} (h : Keeps S w w1) (k : Keeps (fun k => k ≠ g) w1 w2) (hg : ∀ k, k < w.heap.size → S k → k ≠ g) : Keeps S w w2 :=
  ⟨k.os.trans h.os, k.tape.trans h.tape, k.output.trans h.output, Nat.le_trans h.size k.size, fun j hj hs => (k.same j (Nat.lt_of_lt_of_le hj h.size) (hg j hj hs)).trans (h.same j hj hs)⟩
theorem laid_end {T : Nat → Prop} {base g c L : Nat} {tv : Value} {w wr : World} {a b : List (List Vl)} {cl : List Value} (hl : Lies wr g 53 cl) (hc : cl.length = c) (hcm : c ≤ maxLen) (hb : base ≤ g) (hL : L ≤ c) (hp : Part13 T w a b L a.length cl) (hk : Keeps (fun k => tv.ownBlock ≠ some k) w wr)
    (hm : (Mt.merge a b).length = L) (hw : tv.ownBlock = some g ∨ w.heap.size ≤ g) :
    Laid13 T base tv w (Mt.merge a b) (.returned (.slice (some ⟨g, 0, none⟩) L c)) wr := by
  refine ⟨_, c, cl.take L, by rw [hm], ⟨?_, .inr ⟨g, c, cl.toArray, rfl, hb, hl, by rw [hm]; exact hL, hcm, by simpa using hc, by rw [hm, Nat.mul_one]⟩⟩, fun i r hi => ?_, hk, hw.imp (fun h => h.symm) fun h => ⟨g, rfl, h⟩⟩
  · rw [hm, List.length_take]; omega
  · have hi2 : i < L := by rw [← hm]; exact (List.getElem?_eq_some_iff.1 hi).1
    obtain ⟨u, h1, h2⟩ := hp i hi2
    rw [Mt.merge_at a b (by rw [← Mt.merge_length, hm]; exact hi2)] at hi
    cases hi
    refine ⟨u, by rw [List.getElem?_take_of_lt hi2]; exact h1, ?_⟩
    by_cases e : i < a.length
    · rw [if_pos e] at h2; exact h2
    · rw [if_neg e] at h2
      unfold Mt.pick
      rw [Mt.row_out (show a.length ≤ i by omega)]
      exact h2
set_option maxRecDepth 100000 in
theorem lay_any (T : Nat → Prop) (base n0 : Nat) (tv av bv : Value) (xs : List Value) (a b : List (List Vl)) (w : World) (hown : w.ownsRow base 53 1 tv n0 xs) (hbase : base ≤ w.heap.size)
    (ha : RwsOn T w av a) (hb : RwsOn T w bv b) (hT : ∀ k, tv.ownBlock = some k → ¬ T k) (hla : a.length ≤ 1000) (hlb : b.length ≤ 1000) :
    Calls Tryz.prog 144 #[tv, av, bv] w (Laid13 T base tv w (Mt.merge a b)) := by
  obtain ⟨i0, hi, hz0, hz1, hz2⟩ := info_parts Tryz.infoRow13
  obtain ⟨A, c, rfl, hn0, hcm, hbare, hA⟩ := bare_of hown
  obtain ⟨A1, c1, rfl, _⟩ := ha.form
  obtain ⟨A2, c2, rfl, _⟩ := hb.form
  have ML := Mt.merge_length a b
  obtain ⟨n, hn⟩ : ∃ n, n = a.length := ⟨_, rfl⟩
  obtain ⟨m, hm⟩ : ∃ m, m = b.length := ⟨_, rfl⟩
  rw [← hn] at ha hla ML ⊢
  rw [← hm] at hb hlb ML ⊢
  have hc63 : c ≤ 9223372036854775807 := by unfold maxLen at hcm; omega
  have cg := growr_any base (max n m) c A w (by omega) hbare hbase
  have HA := Lib.hid ha
  have HB := Lib.hid hb
  have HT := Lib.hid hT
  have HN := Lib.hid (And.intro hn (And.intro hm ML))
  clear hn hm ML ha hb hT hown hbare hcm
  have hmx : max n m ≤ 1000 := by omega
  obtain ⟨L, hL⟩ : ∃ L, L = max n m := ⟨_, rfl⟩
  rw [← hL] at cg hmx
  rw [← hL] at HN
  have hnL : n ≤ L := by omega
  have hmL : m ≤ L := by omega
  have HA0 := Lib.hid hA
  have HAF := Lib.hid (And.intro hnL hmL)
  rcases (show (n < m ∧ L = m) ∨ (¬ n < m ∧ L = n) by omega) with ⟨hnm, hLe⟩ | ⟨hnm, hLe⟩
  all_goals
    first | subst m | subst n
    clear hL hnL hmL hA
    go_enter Tryz.func144, Tryz.ntmps144
    go_wp2_with fail
    refine cg.mono ?_
    rintro E w1 ⟨G, c3, rfl, hown1, hc3, hb1, hwh⟩
    clear cg
    rcases bare_form hown1 with ⟨rfl, rfl⟩ | ⟨g, cl, rfl, hbg, hcm1, hg, hcl⟩
    · have hL0 : L = 0 := by omega
      first
        | (exfalso; omega)
        | (obtain rfl : m = 0 := by have := HAF.out; omega
           have hres := Lib.hid (show Laid13 T base (.slice A n0 c) w (Mt.merge a b) (.returned (.slice none 0 0)) w1 from by
             have hml : (Mt.merge a b).length = 0 := by rw [HN.out.2.2, hL0]
             refine ⟨none, 0, [], by rw [hml], by rw [hml]; exact World.ownsRow_nil _ _ _ _, fun i r hi => ?_, keeps_all hb1, ?_⟩
             · rw [List.eq_nil_of_length_eq_zero hml] at hi; simp at hi
             · rcases hwh with h | ⟨g', h, hge⟩
               · exact .inl (by cases A <;> exact h)
               · cases h)
           have hcl := fun (ty : TypeId) (W : World) => (show (Builtin.clear_ #[36] ty #[.slice none 0 0]).run Tryz.prog W = .ok (.tuple #[]) W by simp [Builtin.clear_, run_underlying Tryz.underlying36])
           have hcp := fun (ty : TypeId) (W : World) => run_copy_none (P := Tryz.prog) W 36 36 ty 53 none A2 0 0 0 c2 Tryz.underlying36 (by rw [hi]; exact congrArg some hz1) rfl
           clear hwh hown1 HAF HN
           subst hL0
           go_wp2_with fail
           go_loopw [26] (fun i wr => i = .int .i64 0 ∧ w1 = wr) (fun _ _ => 0)
           case atStart => exact ⟨rfl, rfl⟩
           case round =>
             obtain ⟨rfl, rfl⟩ := hrel
             go_wp2_with fail
             go_ret
             exact hres.out)
    · have hc363 : c3 ≤ 9223372036854775807 := by unfold maxLen at hcm1; omega
      obtain ⟨vb, hvb⟩ := HB.out
      have HVB := Lib.hid hvb
      have HG := Lib.hid (And.intro hg hcl)
      have hwh2 : (Value.slice A n0 c).ownBlock = some g ∨ w.heap.size ≤ g := by
        rcases hwh with h | ⟨g', h, hge⟩
        · exact .inl (by cases A <;> exact h.symm)
        · change some g = some g' at h; cases h; exact .inr hge
      have HOWN := Lib.hid (And.intro hbg (And.intro hcm1 hwh2))
      have HB1 := Lib.hid hb1
      have hL3 : (L : Int) ≤ (c3 : Int) := by omega
      have hL3' : ¬ ((c3 : Int) < (L : Int)) := by omega
      clear hown1 hbg hg hcm1 hcl hvb hb1 hwh hwh2
      go_wp2_with (first
        | (refine wpList_clear_row _ rfl _ _ rfl 53 (.slice none 0 0) Tryz.underlying36 (zero13 i0 hi hz0) rfl rfl g L c3 rfl cl 53 HG.out.1 (by have := HG.out.2; omega) ?_))
      intro w2 hg2 hk2 _
      have hne : ∀ k, k < w.heap.size → (Value.slice A n0 c).ownBlock ≠ some k → k ≠ g := fun k hk hs e => by
        subst e
        rcases HOWN.out.2.2 with h | h
        · exact hs h
        · omega
      have HNE := Lib.hid hne
      have HK2 := Lib.hid (keeps_into (keeps_all (S := fun k => (Value.slice A n0 c).ownBlock ≠ some k) HB1.out) hk2 hne)
      have hvb2 := HVB.out.keep HK2.out fun k _ h e => HT.out k e h
      have HVB2 := Lib.hid hvb2
      have HG2 := Lib.hid hg2
      clear hg2 hk2 hvb2 hne
      have hlen2 : (List.replicate L (Value.slice none 0 0) ++ cl.drop L).length = c3 := by
        rw [List.length_append, List.length_replicate, List.length_drop]; have := HG.out.2; omega
      have HL2 := Lib.hid hlen2
      clear hlen2
      go_wp2_with (first
        | (refine wpList_copy_any _ rfl _ _ _ _ rfl 53 1 Tryz.underlying36 (by rw [hi]; exact congrArg some hz1) (some ⟨g, 0, none⟩) A2 L c3 L c2 rfl rfl g 0 _ 53 HG2.out b.length (by have := HAF.out; have := HN.out.2.1; show _ = min _ _; omega) vb (by have := HVB.out.len; have := HN.out.2.1; omega) (fun h0 => ⟨rfl, HVB2.out.sl.src h0⟩) (by decide) (by have := HL2.out; have := HAF.out; have := HVB.out.len; have := HN.out.2.1; omega) HVB.out.ones ?_)
        | (refine wpList_copy_any _ rfl _ _ _ _ rfl 53 1 Tryz.underlying36 (by rw [hi]; exact congrArg some hz1) (some ⟨g, 0, none⟩) A2 L c3 m c2 rfl rfl g 0 _ 53 HG2.out b.length (by have := HAF.out; have := HN.out.2.1; show _ = min _ _; omega) vb (by have := HVB.out.len; have := HN.out.2.1; omega) (fun h0 => ⟨rfl, HVB2.out.sl.src h0⟩) (by decide) (by have := HL2.out; have := HAF.out; have := HVB.out.len; have := HN.out.2.1; omega) HVB.out.ones ?_))
      intro w3 hg3 hk3 _
      have HK3 := Lib.hid (keeps_into HK2.out hk3 HNE.out)
      have hlen3 := length_splice _ 0 vb (show 0 + vb.length ≤ (List.replicate L (Value.slice none 0 0) ++ cl.drop L).length by have := HL2.out; have := HAF.out; have := HVB.out.len; have := HN.out.2.1; omega)
      have hp3 := part_start (a := a) (cl := cl) (L := L) HVB.out
      obtain ⟨c0, hc0⟩ : ∃ l, l = splice (List.replicate L (Value.slice none 0 0) ++ cl.drop L) 0 vb := ⟨_, rfl⟩
      rw [← hc0] at hg3 hlen3 hp3
      have HS := Lib.hid (show Lies w3 g 53 c0 ∧ c0.length = c3 ∧ Part13 T w a b L 0 c0 from ⟨hg3, by rw [hlen3]; exact HL2.out, hp3⟩)
      clear hg3 hk3 hlen3 hp3 hc0 HL2 HG2 HVB2 HK2 HG
      go_wp2_with fail
      go_loopw [26] (fun i wr => ∃ (k : Nat) (cl : List Value), k ≤ a.length ∧ k ≤ 1000 ∧ i = .int .i64 k ∧ Hid (Lies wr g 53 cl ∧ cl.length = c3 ∧ Part13 T w a b L k cl) ∧ Hid (Keeps (fun k => (Value.slice A n0 c).ownBlock ≠ some k) w wr)) (fun i _ => 1000 - (intOf i).toNat)
      case atStart => exact ⟨0, c0, by omega, by omega, rfl, HS, HK3⟩
      case round =>
        obtain ⟨k, cl', hkl, hk1, rfl, HC, HK⟩ := hrel
        by_cases hlt : k < a.length
        · have hk2 : k < 1000 := by have := HN.out.1; omega
          obtain ⟨b1, o1, p1, B1, d1, rfl, _, y0, hrow⟩ := HA.out.at_keep HK.out (fun k h e => HT.out k e h) (Mt.row_mem hlt)
          have i1 : (0 : Int) ≤ (k : Int) := by omega
          try have i2 : (k : Int) < (n : Int) := by have := HN.out.1; omega
          have i3 : (k : Int) < (L : Int) := by have := HN.out.1; have := HAF.out; omega
          have hkc : k < c3 := by omega
          obtain ⟨z1, y1⟩ : ∃ z, wr.cell? ⟨g, k, none⟩ = some z := ⟨_, HC.out.1.cell (i := k) (List.getElem?_eq_getElem (show k < cl'.length by rw [HC.out.2.1]; exact hkc))⟩
          have hk3 := Lib.hid (show k + 1 ≤ a.length by omega)
          have y2 := HC.out.1.free k
          obtain ⟨rl, hrl⟩ : ∃ n, n = (Mt.row a k).length := ⟨_, rfl⟩
          rw [← hrl] at y0 hrow
          have hset := HC.out.1.set k (.slice B1 rl d1)
          by_cases h0 : rl = 0
          · have hp2 := part_skip HC.out.2.2 (hrl.symm.trans h0)
            have HC2 := Lib.hid (And.intro HC.out.1 (And.intro HC.out.2.1 hp2))
            have i4 : ¬ ((rl : Int) > 0) := by omega
            clear hset hp2 hrow hrl h0 y1 y2 hlt hkc
            go_wp2_with fail
            go_roundw
            case rel => exact ⟨k + 1, _, hk3.out, by omega, by go_num, HC2, HK⟩
            case measure => simp [intOf]; omega
          · have hp2 := part_set HC.out.2.2 (by rw [HC.out.2.1]; exact hc3) hrow (by rw [← hrl]; exact h0)
            have HC2 := Lib.hid (show Lies (wr.setCell ⟨g, k, none⟩ (.slice B1 rl d1)) g 53 (cl'.set k (.slice B1 rl d1)) ∧ (cl'.set k (.slice B1 rl d1)).length = c3 ∧ _ from And.intro hset (And.intro (by rw [List.length_set]; exact HC.out.2.1) hp2))
            have HK2 := Lib.hid (keeps_into HK.out (keeps_setCell wr ⟨g, k, none⟩ (.slice B1 rl d1)) HNE.out)
            have i4 : (rl : Int) > 0 := by omega
            clear hset hp2 hrow hrl h0 hlt hkc
            go_wp2_with fail
            go_roundw
            case rel => exact ⟨k + 1, _, hk3.out, by omega, by go_num, HC2, HK2⟩
            case measure => simp [intOf]; omega
        · have hke : k = a.length := by omega
          have hres := Lib.hid (laid_end HC.out.1 HC.out.2.1 HOWN.out.2.1 HOWN.out.1 hc3 (by have h := HC.out.2.2; rw [hke] at h; exact h) HK.out HN.out.2.2 HOWN.out.2.2)
          first
            | have i2 : ¬ ((k : Int) < (n : Int)) := by have := HN.out.1; omega
            | have i2 : ¬ ((k : Int) < (L : Int)) := by have := HN.out.1; omega
          clear hke hlt
          go_wp2_with fail
          go_ret
          exact hres.out
def MergedN (w : World) (t : List (List Vl)) (E : Ending) (w' : World) : Prop :=
  ∃ A c, E = .returned (.slice A t.length c) ∧ RwsOn (fun k => w.heap.size ≤ k) w' (.slice A t.length c) t ∧ Below w.heap.size w w'
structure Clo13 (T : Nat → Prop) (w w1 wr : World) (g c : Nat) (m : List (List Vl)) (k : Nat) (cl : List Value) : Prop where
  lies : Lies wr g 53 cl
  len : cl.length = c
  new : ∀ j, j < k → ∃ u, cl[j]? = some u ∧ RowOn (fun b => w1.heap.size ≤ b) wr u (Mt.row m j)
  old : ∀ j, k ≤ j → j < m.length → ∃ u, cl[j]? = some u ∧ RowOn T w u (Mt.row m j)
  kept : Keeps (fun b => b ≠ g) w1 wr
theorem clo_step {T : Nat → Prop} {w w1 wr w2 : World} {g c k : Nat} {m : List (List Vl)} {cl : List Value} {u : Value} (h : Clo13 T w w1 wr g c m k cl) (hg : g < w1.heap.size) (hk : k < m.length) (hm : m.length ≤ c) (hb : Below wr.heap.size wr w2) (hu : RowOn (fun b => wr.heap.size ≤ b) w2 u (Mt.row m k)) :
    Clo13 T w w1 (w2.setCell ⟨g, k, none⟩ u) g c m (k + 1) (cl.set k u) := by
  have hs := h.kept.size
  have hl2 : Lies w2 g 53 cl := h.lies.below hb h.lies.lt
  have kp2 : Keeps (fun b => b ≠ g) w2 (w2.setCell ⟨g, k, none⟩ u) := keeps_setCell w2 ⟨g, k, none⟩ u
  refine ⟨hl2.set k u, by rw [List.length_set]; exact h.len, fun j hj => ?_, fun j hj hj2 => ?_, ?_⟩
  · by_cases e : j = k
    · subst e
      exact ⟨u, List.getElem?_set_self (by rw [h.len]; omega), (hu.keep kp2 fun b _ hb2 e2 => by omega).mono fun b _ hb2 => by omega⟩
    · obtain ⟨u', h1, h2⟩ := h.new j (by omega)
      exact ⟨u', by rw [List.getElem?_set_ne (by omega)]; exact h1, (h2.below hb (Nat.le_refl _)).keep kp2 fun b _ hb2 e2 => by omega⟩
  · obtain ⟨u', h1, h2⟩ := h.old j (by omega) hj2
    exact ⟨u', by rw [List.getElem?_set_ne (by omega)]; exact h1, h2⟩
  · exact (h.kept.trans (keeps_all hb)).trans kp2
set_option maxRecDepth 100000 in
theorem merge_any (T : Nat → Prop) (av bv : Value) (a b : List (List Vl)) (w : World) (ha : RwsOn T w av a) (hb : RwsOn T w bv b) (hla : a.length ≤ 1000) (hlb : b.length ≤ 1000) (ha2 : ∀ x ∈ a, x.length ≤ 1000000) (hb2 : ∀ x ∈ b, x.length ≤ 1000000) :
    Calls Tryz.prog 141 #[av, bv] w (MergedN w (Mt.merge a b)) := by
  have cl := lay_any T w.heap.size 0 (.slice none 0 0) av bv [] a b w (World.ownsRow_nil _ _ _ _) (Nat.le_refl _) ha hb (fun k h => by cases h) hla hlb
  have hml := Mt.merge_length a b
  have hmm := Mt.merge_mem ha2 hb2
  obtain ⟨A1, c1, rfl, _⟩ := ha.form
  obtain ⟨A2, c2, rfl, _⟩ := hb.form
  obtain ⟨m, hm⟩ : ∃ m, m = Mt.merge a b := ⟨_, rfl⟩
  rw [← hm] at cl hml hmm ⊢
  have hm1 : m.length ≤ 1000 := by omega
  clear hm hml ha hb ha2 hb2
  generalize a.length = la at *
  generalize b.length = lb at *
  go_enter Tryz.func141, Tryz.ntmps141
  go_wp2_with fail
  refine cl.mono ?_
  rintro E w1 ⟨G, c, us, rfl, hown, hus, hk1, _⟩
  clear cl
  have hb1 : Below w.heap.size w w1 := ⟨hk1.os, hk1.tape, hk1.output, hk1.size, fun k hk => hk1.same k hk (by simp [Value.ownBlock])⟩
  have hul := hown.1
  rcases hown.2 with ⟨hv, h0⟩ | ⟨g, cap, cur, hv, hbg, hg, hn1, hcm, hcs, htk⟩
  · obtain ⟨rfl, rfl⟩ : G = none ∧ c = 0 := by injection hv with e1 _ e3; exact ⟨e1, e3⟩
    have hm0 := List.eq_nil_of_length_eq_zero h0
    subst hm0
    have hres := Lib.hid (show MergedN w [] (.returned (.slice none 0 0)) w1 from ⟨none, 0, rfl, RwsOn.nil _ _, hb1⟩)
    clear hown hus hk1 hb1 hul hv h0 hmm
    go_wp2_with fail
    go_loopw [13] (fun i wr => i = .int .i64 0 ∧ w1 = wr) (fun _ _ => 0)
    case atStart => exact ⟨rfl, rfl⟩
    case round =>
      obtain ⟨rfl, rfl⟩ := hrel
      go_wp2_with fail
      go_ret
      exact hres.out
  · obtain ⟨rfl, rfl⟩ : G = some ⟨g, 0, none⟩ ∧ c = cap := by cases hv; exact ⟨rfl, rfl⟩
    have hcur : ∀ j, j < m.length → cur.toList[j]? = us[j]? := fun j hj => by rw [← htk, List.getElem?_take_of_lt (by omega)]
    have hst : Clo13 T w w1 w1 g c m 0 cur.toList := ⟨by simpa [Lies] using hg, by simpa using hcs, fun j hj => by omega, fun j _ hj => by
      obtain ⟨u, h1, h2⟩ := hus j _ (Mt.row_mem hj)
      exact ⟨u, by rw [hcur j hj]; exact h1, h2⟩, Keeps.refl _ _⟩
    obtain ⟨c0, hc0⟩ : ∃ c0, c0 = cur.toList := ⟨_, rfl⟩
    rw [← hc0] at hst
    have hglt : g < w1.heap.size := (Array.getElem?_eq_some_iff.1 hg).1
    have HST := Lib.hid hst
    have HM := Lib.hid hmm
    have HB1 := Lib.hid hb1
    have hlc : m.length ≤ c := hn1
    have hc63 : c ≤ 9223372036854775807 := by unfold maxLen at hcm; omega
    obtain ⟨L, hL⟩ : ∃ n, n = m.length := ⟨_, rfl⟩
    rw [← hL] at hm1 hlc ⊢
    have HL := Lib.hid hL
    have HBG := Lib.hid hbg
    clear hbg hst hg hv hown hus hcur htk hcs hn1 hcm hk1 hb1 hmm hul hc0 hL cur
    go_wp2_with fail
    go_loopw [13] (fun i wr => ∃ (k : Nat) (cl : List Value), k ≤ L ∧ i = .int .i64 k ∧ Hid (Clo13 T w w1 wr g c m k cl)) (fun i _ => L - (intOf i).toNat)
    case atStart => exact ⟨0, c0, by omega, rfl, HST⟩
    case round =>
      obtain ⟨k, cl', hk, rfl, HC⟩ := hrel
      by_cases hlt : k < L
      · obtain ⟨u, hcu, hru⟩ := HC.out.old k (Nat.le_refl _) (by rw [← HL.out]; exact hlt)
        obtain ⟨B, d, rfl, hd⟩ := hru.form
        have hru2 := (((hru.mono (S := fun k => k < w.heap.size) fun _ h _ => h).below HB1.out (Nat.le_refl _)).keep HC.out.kept fun b _ h e => by have := HBG.out; omega).at_
        have hrl : (Mt.row m k).length ≤ 1000000 := HM.out _ (List.mem_of_getElem? (Mt.row_mem (by rw [← HL.out]; exact hlt)))
        have cc := clone_any _ (Mt.row m k) wr hru2 hrl
        have i1 : (0 : Int) ≤ (k : Int) := by omega
        have i2 : (k : Int) < (L : Int) := by omega
        have hkc : k < c := by omega
        have y1 := HC.out.lies.cell (i := k) hcu
        have HKL := Lib.hid (show k < m.length by rw [← HL.out]; exact hlt)
        have hglr := HC.out.lies.lt
        obtain ⟨rl, hrl'⟩ : ∃ n, n = (Mt.row m k).length := ⟨_, rfl⟩
        rw [← hrl'] at y1 cc
        clear hcu hru hru2 hrl hrl'
        go_wp2_with fail
        refine cc.mono ?_
        rintro E w2 ⟨A3, d3, rfl, hr3, hb3⟩
        have HN3 := Lib.hid (clo_step HC.out hglt HKL.out (by rw [← HL.out]; exact hlc) hb3 hr3)
        have y2 := (HC.out.lies.below hb3 hglr).cell (i := k) (List.getElem?_eq_getElem (show k < cl'.length by rw [HC.out.len]; exact hkc))
        obtain ⟨z2, y2⟩ : ∃ z, w2.cell? ⟨g, k, none⟩ = some z := ⟨_, y2⟩
        have y3 := (HC.out.lies.below hb3 hglr).free k
        obtain ⟨rl2, hrl2⟩ : ∃ n, n = (Mt.row m k).length := ⟨_, rfl⟩
        rw [← hrl2] at HN3 ⊢
        clear cc y1 hb3 hr3 hrl2 hglr
        go_wp2_with fail
        go_roundw
        case rel => exact ⟨k + 1, _, by omega, by go_num, HN3⟩
        case measure => simp [intOf]; omega
      · have hkL : k = L := by omega
        have hres := Lib.hid (show MergedN w m (.returned (.slice (some ⟨g, 0, none⟩) L c)) wr from by
          have HCo := HC.out
          have hs := HCo.kept.size
          have hs1 := HB1.out.size
          refine ⟨_, c, by rw [← HL.out], ?_, ?_⟩
          · rw [← HL.out]
            refine ⟨cl'.take L, ⟨_, c, by rw [List.length_take, HCo.len]; congr 1; omega, by rw [List.length_take, HCo.len]; omega, fun j u hj => ?_⟩, by rw [List.length_take, HCo.len, ← HL.out]; omega, fun j r hj => ?_⟩
            · have hj2 : j < L := by have := (List.getElem?_eq_some_iff.1 hj).1; rw [List.length_take] at this; omega
              rw [List.getElem?_take_of_lt hj2] at hj
              refine ⟨g, 0, none, rfl, HBG.out, HCo.lies.lt, ?_⟩
              have e : ((⟨g, 0, none⟩ : Addr).add j) = ⟨g, j, none⟩ := by
                unfold Addr.add
                split <;> simp_all
              rw [e]
              exact HCo.lies.cell hj
            · have hj2 : j < L := by rw [HL.out]; exact (List.getElem?_eq_some_iff.1 hj).1
              obtain ⟨u, h1, h2⟩ := HCo.new j (by omega)
              rw [Mt.row_at hj] at h2
              exact ⟨u, by rw [List.getElem?_take_of_lt hj2]; exact h1, h2.mono fun b _ h => by omega⟩
          · exact HB1.out.trans (HCo.kept.below hs1 fun b hb e => by have := HBG.out; omega))
        have i2 : ¬ ((k : Int) < (L : Int)) := by omega
        clear hkL hlt
        go_wp2_with fail
        go_ret
        exact hres.out
end Go.Proofs.YtpaaibghfhnicaaGreatDoor
