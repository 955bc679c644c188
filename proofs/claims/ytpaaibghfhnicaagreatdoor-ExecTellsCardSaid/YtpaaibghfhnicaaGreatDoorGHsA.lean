/-
  LAID TOGETHER, BY PROGRAM, of: Hsm, Hst, Hsk.
-/
import Derived.Test.YtpaaibghfhnicaaGreatDoorGNsm
import Derived.Test.YtpaaibghfhnicaaGreatDoorGMtB
import Derived.Test.YtpaaibghfhnicaaGreatDoorGPred
import Derived.Test.YtpaaibghfhnicaaGreatDoorGBase
import Derived.Test.YtpaaibghfhnicaaGreatDoorGTerms
import Derived.Test.YtpaaibghfhnicaaGreatDoorGBwr
import Derived.Test.YtpaaibghfhnicaaGreatDoorGVal
import Derived.Lib.ItoaLen
import Derived.Lib.Hide
/-
  JOINS BY HASHED KEYS, as plain mathematics: which comparisons are keys, a tuple's key; where sides are apart, who is left out could not have matched.
-/
namespace Go.Proofs.YtpaaibghfhnicaaGreatDoor
namespace Hs
def inn (s : Nat) (x : Tm) : Bool := decide (Te.tables x &&& s ≠ 0)
theorem inn_eq (s : Nat) (x : Tm) : inn s x = (decide (x.k = 1) && (decide (0 ≤ x.t ∧ x.t < 64) && s.testBit x.t.toNat)) := by
  unfold inn Te.tables
  by_cases hk : x.k = 1
  · rw [if_pos hk, decide_eq_true hk, Bool.true_and, Bool.eq_iff_iff, decide_eq_true_iff, Bool.and_eq_true, decide_eq_true_iff]
    constructor
    · intro h
      obtain ⟨j, hj⟩ : ∃ j, (St.ofN [x.t] &&& s).testBit j = true := Nat.exists_testBit_of_ne_zero h
      rw [Nat.testBit_and, St.testBit_ofN] at hj
      simp at hj
      obtain ⟨⟨h1, h2⟩, h3⟩ := hj
      rw [← h2]
      exact ⟨by omega, by simpa using h3⟩
    · rintro ⟨⟨h0, h1⟩, h2⟩ h3
      have h4 : (St.ofN [x.t] &&& s).testBit x.t.toNat = true := by
        rw [Nat.testBit_and, St.testBit_ofN, h2]
        simp; omega
      rw [h3] at h4
      simp at h4
  · rw [if_neg hk, decide_eq_false hk]; simp
def key1 (l r : Nat) (p : Pd) : Option (Tm × Tm) :=
  if p.f.k = 2 ∧ p.f.o = 1 then
    if inn l p.f.a && inn r p.f.b then some (p.f.a, p.f.b) else if inn l p.f.b && inn r p.f.a then some (p.f.b, p.f.a) else none
  else none
def keys (ps : List Pd) (l r : Nat) : List (Tm × Tm) := ps.filterMap (key1 l r)
theorem keys_take {ps : List Pd} {l r q : Nat} {p : Pd} (h : ps[q]? = some p) : keys (ps.take (q + 1)) l r = keys (ps.take q) l r ++ (key1 l r p).toList := by
  unfold keys
  rw [List.take_add_one, h, List.filterMap_append]
  cases hk : key1 l r p <;> simp [hk]
theorem keys_le (ps : List Pd) (l r : Nat) : (keys ps l r).length ≤ ps.length := List.length_filterMap_le _ _
def prt (v : Vl) : List UInt8 := if v.1 then Va.nul else Lib.itoa v.2
def text (xs : List Tm) (t : List (List Vl)) : List UInt8 := xs.flatMap fun x => prt (Te.val x t) ++ [44]
def nulls (xs : List Tm) (t : List (List Vl)) : Bool := xs.any fun x => (Te.val x t).1
def key (xs : List Tm) (t : List (List Vl)) : Option (List UInt8) := if nulls xs t then none else some (text xs t)
theorem text_take {xs : List Tm} {t : List (List Vl)} {q : Nat} {x : Tm} (h : xs[q]? = some x) : text (xs.take (q + 1)) t = text (xs.take q) t ++ (prt (Te.val x t) ++ [44]) := by
  unfold text
  rw [List.take_add_one, h, List.flatMap_append]
  simp
theorem nulls_take {xs : List Tm} {t : List (List Vl)} {q : Nat} {x : Tm} (h : xs[q]? = some x) : nulls (xs.take (q + 1)) t = (nulls (xs.take q) t || (Te.val x t).1) := by
  unfold nulls
  rw [List.take_add_one, h, List.any_append]
  simp
theorem nulls_mem {xs : List Tm} {t : List (List Vl)} {q : Nat} {x : Tm} (h : xs[q]? = some x) (hn : (Te.val x t).1 = true) : nulls xs t = true := List.any_eq_true.2 ⟨x, List.mem_of_getElem? h, hn⟩
theorem key_null {xs : List Tm} {t : List (List Vl)} (h : nulls xs t = true) : key xs t = none := if_pos h
theorem key_some {xs : List Tm} {t : List (List Vl)} (h : nulls xs t = false) : key xs t = some (text xs t) := by unfold key; rw [h]; rfl
def alike (xs : List Tm) (k : Option (List UInt8)) (R : List (List (List Vl))) : List (List (List Vl)) := match k with
  | none => []
  | some s => R.filter fun x => key xs x == some s
theorem alike_take {xs : List Tm} {s : List UInt8} {R : List (List (List Vl))} {q : Nat} {t : List (List Vl)} (h : R[q]? = some t) :
    alike xs (some s) (R.take (q + 1)) = alike xs (some s) (R.take q) ++ (if key xs t = some s then [t] else []) := by
  show List.filter _ _ = List.filter _ _ ++ _
  rw [List.take_add_one, h, List.filter_append]
  congr 1
  by_cases hk : key xs t = some s <;> simp [hk]
theorem alike_sub {xs : List Tm} {k : Option (List UInt8)} {R : List (List (List Vl))} : (alike xs k R).Sublist R := by
  cases k with
  | none => exact List.nil_sublist _
  | some s => exact List.filter_sublist
def join (k : Int) (ps : List Pd) (l r : Nat) (L R : List (List (List Vl))) : List (List (List Vl)) :=
  L.flatMap fun t => Mt.extend k ps t (alike ((keys ps l r).map Prod.snd) (key ((keys ps l r).map Prod.fst) t) R)
theorem join_take {k : Int} {ps : List Pd} {l r : Nat} {L R : List (List (List Vl))} {q : Nat} {t : List (List Vl)} (h : L[q]? = some t) :
    join k ps l r (L.take (q + 1)) R = join k ps l r (L.take q) R ++ Mt.extend k ps t (alike ((keys ps l r).map Prod.snd) (key ((keys ps l r).map Prod.fst) t) R) := by
  unfold join
  rw [List.take_add_one, h, List.flatMap_append]
  simp
theorem few_alike {n m : Nat} {xs : List Tm} {k : Option (List UInt8)} {R : List (List (List Vl))} (h : Ns.Few n m R) : Ns.Few n m (alike xs k R) :=
  ⟨Nat.le_trans alike_sub.length_le h.len, fun t ht => h.tup t (alike_sub.subset ht)⟩
def apart (L : List (List (List Vl))) (s : Nat) : Bool := decide (∀ t ∈ L, ∀ i, i < t.length → i < 64 → s.testBit i = true → (Mt.row t i).length = 0)
theorem apart_row {L : List (List (List Vl))} {s : Nat} (h : apart L s = true) {t : List (List Vl)} (ht : t ∈ L) {i : Nat} (hi : i < 64) (hs : s.testBit i = true) : Mt.row t i = [] := by
  by_cases hl : i < t.length
  · exact List.eq_nil_of_length_eq_zero (of_decide_eq_true h t ht i hl hi hs)
  · exact Mt.row_out (by omega)
theorem row_merge (a b : List (List Vl)) (i : Nat) : Mt.row (Mt.merge a b) i = Mt.pick a b i := by
  by_cases h : i < max a.length b.length
  · exact Mt.row_at (Mt.merge_at a b h)
  · rw [Mt.row_out (by rw [Mt.merge_length]; omega)]
    unfold Mt.pick
    rw [Mt.row_out (t := a) (by omega), Mt.row_out (t := b) (by omega)]
    rfl
theorem col_row {t : Int} (h : 0 ≤ t) (c : Int) (rs : List (List Vl)) : Te.col t c rs = (Te.at_ (Mt.row rs t.toNat) c).getD Te.nul := by
  obtain ⟨i, rfl⟩ := Int.eq_ofNat_of_zero_le h
  unfold Te.col
  rw [Te.at_nat]
  show _ = (Te.at_ (Mt.row rs i) c).getD Te.nul
  by_cases hi : i < rs.length
  · rw [Mt.row_mem hi]; rfl
  · rw [List.getElem?_eq_none (by omega), Mt.row_out (by omega)]
    unfold Te.at_
    split <;> simp
theorem val_row {x : Tm} {s : Nat} (h : inn s x = true) {t u : List (List Vl)} (hr : ∀ i, i < 64 → s.testBit i = true → Mt.row t i = Mt.row u i) : Te.val x t = Te.val x u := by
  rw [inn_eq] at h
  simp only [Bool.and_eq_true, decide_eq_true_iff] at h
  obtain ⟨hk, ⟨h0, h1⟩, h2⟩ := h
  rw [Te.val_col hk, Te.val_col hk, col_row h0, col_row h0, hr _ (by omega) h2]
theorem fits_key {ps : List Pd} {l r : Nat} {t x : List (List Vl)} (hf : Mt.fits ps t x = true) (ht : ∀ i, i < 64 → r.testBit i = true → Mt.row t i = []) (hx : ∀ i, i < 64 → l.testBit i = true → Mt.row x i = [])
    {c : Tm × Tm} (hc : c ∈ keys ps l r) : (Te.val c.1 t).1 = false ∧ (Te.val c.2 x).1 = false ∧ (Te.val c.1 t).2 = (Te.val c.2 x).2 := by
  obtain ⟨p, hp, hk⟩ := List.mem_filterMap.1 hc
  have h2 : Pr.of (Mt.merge t x) p = 2 := Lo.andI_eq2.1 (of_decide_eq_true hf) _ (List.mem_map_of_mem hp)
  have hl : ∀ i, i < 64 → l.testBit i = true → Mt.row (Mt.merge t x) i = Mt.row t i := fun i hi hs => by
    rw [row_merge]; unfold Mt.pick
    split
    · rename_i h; rw [hx i hi hs, List.eq_nil_of_length_eq_zero h]
    · rfl
  have hr : ∀ i, i < 64 → r.testBit i = true → Mt.row (Mt.merge t x) i = Mt.row x i := fun i hi hs => by
    rw [row_merge]; unfold Mt.pick
    rw [ht i hi hs]; rfl
  unfold key1 at hk
  split at hk
  · rename_i ho
    rw [Pr.of_at, Pr.made_2 ho.1, ho.2] at h2
    have hcomp : ∀ (b : Bool) (n : Int) (c : Bool) (m : Int), Va.comp 1 b n c m = 2 → b = false ∧ c = false ∧ n = m := by
      intro b n c m h
      by_cases hb : (b || c) = true
      · rw [Va.comp_null hb] at h; cases h
      · simp at hb
        obtain ⟨rfl, rfl⟩ := hb
        rw [show (1 : Int) = ((1 : Nat) : Int) from rfl, Va.comp_want 1 (by decide) (by decide), Va.place_num] at h
        refine ⟨rfl, rfl, ?_⟩
        by_cases h1 : n < m
        · rw [if_pos h1] at h; simp [Va.want, Va.truth] at h
        · rw [if_neg h1] at h
          by_cases h3 : m < n
          · rw [if_pos h3] at h; simp [Va.want, Va.truth] at h
          · omega
    obtain ⟨n1, n2, n3⟩ := hcomp _ _ _ _ h2
    split at hk
    · rename_i hi
      simp only [Bool.and_eq_true] at hi
      cases hk
      rw [val_row hi.1 hl] at n1 n3
      rw [val_row hi.2 hr] at n2 n3
      exact ⟨n1, n2, n3⟩
    · split at hk
      · rename_i hi
        simp only [Bool.and_eq_true] at hi
        cases hk
        rw [val_row hi.1 hl] at n2 n3
        rw [val_row hi.2 hr] at n1 n3
        exact ⟨n2, n1, n3.symm⟩
      · cases hk
  · cases hk
theorem fits_alike {ps : List Pd} {l r : Nat} {t x : List (List Vl)} (hf : Mt.fits ps t x = true) (ht : ∀ i, i < 64 → r.testBit i = true → Mt.row t i = []) (hx : ∀ i, i < 64 → l.testBit i = true → Mt.row x i = []) :
    ∃ s, key ((keys ps l r).map Prod.fst) t = some s ∧ key ((keys ps l r).map Prod.snd) x = some s := by
  have h := fun c hc => fits_key hf ht hx (c := c) hc
  generalize keys ps l r = K at h
  have hn1 : nulls (K.map Prod.fst) t = false := by
    rw [nulls, List.any_eq_false]; intro y hy
    obtain ⟨c, hc, rfl⟩ := List.mem_map.1 hy
    simp [(h c hc).1]
  have hn2 : nulls (K.map Prod.snd) x = false := by
    rw [nulls, List.any_eq_false]; intro y hy
    obtain ⟨c, hc, rfl⟩ := List.mem_map.1 hy
    simp [(h c hc).2.1]
  refine ⟨_, key_some hn1, ?_⟩
  rw [key_some hn2]
  congr 1
  unfold text
  clear hn1 hn2
  induction K with
  | nil => rfl
  | cons c K ih =>
    obtain ⟨h1, h2, h3⟩ := h c List.mem_cons_self
    rw [List.map_cons, List.map_cons, List.flatMap_cons, List.flatMap_cons, ih fun c hc => h c (List.mem_cons_of_mem _ hc)]
    congr 2
    unfold prt
    rw [h1, h2, h3]
theorem found_alike {ps : List Pd} {l r : Nat} {t : List (List Vl)} {R : List (List (List Vl))} (ht : ∀ i, i < 64 → r.testBit i = true → Mt.row t i = []) (hR : apart R l = true) :
    Mt.found ps t (alike ((keys ps l r).map Prod.snd) (key ((keys ps l r).map Prod.fst) t) R) = Mt.found ps t R := by
  have hx : ∀ x ∈ R, Mt.fits ps t x = true → ∃ s, key ((keys ps l r).map Prod.fst) t = some s ∧ key ((keys ps l r).map Prod.snd) x = some s := fun x hx hf =>
    fits_alike hf ht fun i hi hs => apart_row hR hx hi hs
  unfold Mt.found
  congr 1
  cases hk : key ((keys ps l r).map Prod.fst) t with
  | none =>
    symm
    show List.filter _ R = _
    rw [show alike ((keys ps l r).map Prod.snd) none R = [] from rfl, List.filter_nil, List.filter_eq_nil_iff]
    intro x hxR hf
    obtain ⟨s, h1, _⟩ := hx x hxR hf
    rw [hk] at h1; cases h1
  | some s =>
    unfold alike
    rw [List.filter_filter]
    refine List.filter_congr fun x hxR => ?_
    cases hf : Mt.fits ps t x with
    | false => rfl
    | true =>
      obtain ⟨s', h1, h2⟩ := hx x hxR hf
      rw [hk] at h1
      cases h1
      simp [h2]
theorem extend_alike {k : Int} {ps : List Pd} {l r : Nat} {t : List (List Vl)} {R : List (List (List Vl))} (ht : ∀ i, i < 64 → r.testBit i = true → Mt.row t i = []) (hR : apart R l = true) :
    Mt.extend k ps t (alike ((keys ps l r).map Prod.snd) (key ((keys ps l r).map Prod.fst) t) R) = Mt.extend k ps t R := by
  unfold Mt.extend
  rw [found_alike ht hR]
theorem join_same {k : Int} {ps : List Pd} {l r : Nat} {L R : List (List (List Vl))} (hL : apart L r = true) (hR : apart R l = true) : join k ps l r L R = Ns.join k ps L R := by
  unfold join Ns.join
  have : ∀ t ∈ L, Mt.extend k ps t (alike ((keys ps l r).map Prod.snd) (key ((keys ps l r).map Prod.fst) t) R) = Mt.extend k ps t R := fun t ht => extend_alike (fun i hi hs => apart_row hL ht hi hs) hR
  clear hL
  induction L with
  | nil => rfl
  | cons t L ih => rw [List.flatMap_cons, List.flatMap_cons, this t List.mem_cons_self, ih fun u hu => this u (List.mem_cons_of_mem _ hu)]
end Hs
end Go.Proofs.YtpaaibghfhnicaaGreatDoor

/-
  TERMS AND PAIRS OF TERMS IN MEMORY; package hash: within, side.
-/
namespace Go.Proofs.YtpaaibghfhnicaaGreatDoor
open Go.RowKit Go.Sort
set_option maxHeartbeats 3200000

def Tm.cells (x : Tm) : List Value := [.int .i64 x.k, .int .i64 x.t, .int .i64 x.c, .bool x.z, .int .i64 x.n]
def tmCells (xs : List Tm) : List Value := xs.flatMap Tm.cells
def kyCells (ks : List (Tm × Tm)) : List Value := ks.flatMap fun c => c.1.cells ++ c.2.cells
theorem kyCells_length (ks : List (Tm × Tm)) : (kyCells ks).length = ks.length * 10 := by
  unfold kyCells
  induction ks with
  | nil => rfl
  | cons x xs ih => rw [List.flatMap_cons, List.length_append, ih, List.length_cons]; show 10 + _ = _; omega
theorem tm_ones (x : Tm) : ∀ u ∈ x.cells, u.oneCell' = true := by
  intro u hu
  simp only [Tm.cells, List.mem_cons, List.not_mem_nil, or_false] at hu
  rcases hu with rfl | rfl | rfl | rfl | rfl <;> rfl
theorem ky_ones (c : Tm × Tm) : ∀ u ∈ c.1.cells ++ c.2.cells, u.oneCell' = true := fun u hu => (List.mem_append.1 hu).elim (tm_ones _ u) (tm_ones _ u)
theorem tmCells_snoc (xs : List Tm) (x : Tm) : tmCells (xs ++ [x]) = tmCells xs ++ x.cells := by simp [tmCells]
theorem kyCells_snoc (xs : List (Tm × Tm)) (x : Tm × Tm) : kyCells (xs ++ [x]) = kyCells xs ++ (x.1.cells ++ x.2.cells) := by simp [kyCells]
theorem flat_at15 {α : Type} (f : α → List Value) (s : Nat) (hs : ∀ x, (f x).length = s) : ∀ (l : List α) (j : Nat) (x : α), l[j]? = some x → ∀ k, k < s → (l.flatMap f)[j * s + k]? = (f x)[k]?
  | [], j, x, h, k, _ => by simp at h
  | y :: l, 0, x, h, k, hk => by
    cases h
    rw [List.flatMap_cons, Nat.zero_mul, Nat.zero_add, List.getElem?_append_left (by rw [hs]; exact hk)]
  | y :: l, j + 1, x, h, k, hk => by
    rw [List.flatMap_cons, List.getElem?_append_right (by rw [hs, Nat.succ_mul]; omega), hs]
    rw [show (j + 1) * s + k - s = j * s + k by rw [Nat.succ_mul]; omega]
    exact flat_at15 f s hs l j x (by simpa using h) k hk
structure TmCell (w : World) (X : Addr) (x : Tm) : Prop where
  c0 : w.cell? X = some (.int .i64 x.k)
  c1 : w.cell? ⟨X.block, X.off + 1, none⟩ = some (.int .i64 x.t)
  c2 : w.cell? ⟨X.block, X.off + 2, none⟩ = some (.int .i64 x.c)
  c3 : w.cell? ⟨X.block, X.off + 3, none⟩ = some (.bool x.z)
  c4 : w.cell? ⟨X.block, X.off + 4, none⟩ = some (.int .i64 x.n)
structure KyCell (w : World) (X : Addr) (x y : Tm) : Prop where
  c0 : w.cell? X = some (.int .i64 x.k)
  c1 : w.cell? ⟨X.block, X.off + 1, none⟩ = some (.int .i64 x.t)
  c2 : w.cell? ⟨X.block, X.off + 2, none⟩ = some (.int .i64 x.c)
  c3 : w.cell? ⟨X.block, X.off + 3, none⟩ = some (.bool x.z)
  c4 : w.cell? ⟨X.block, X.off + 4, none⟩ = some (.int .i64 x.n)
  c5 : w.cell? ⟨X.block, X.off + 5, none⟩ = some (.int .i64 y.k)
  c6 : w.cell? ⟨X.block, X.off + 6, none⟩ = some (.int .i64 y.t)
  c7 : w.cell? ⟨X.block, X.off + 7, none⟩ = some (.int .i64 y.c)
  c8 : w.cell? ⟨X.block, X.off + 8, none⟩ = some (.bool y.z)
  c9 : w.cell? ⟨X.block, X.off + 9, none⟩ = some (.int .i64 y.n)
def TmsAt (w : World) (v : Value) (xs : List Tm) : Prop :=
  ∃ A c, v = .slice A xs.length c ∧ xs.length ≤ c ∧ ∀ j x, xs[j]? = some x → ∃ b o p, A = some ⟨b, o, p⟩ ∧ b < w.heap.size ∧ TmCell w ((⟨b, o, p⟩ : Addr).add (j * 5)) x
def KysAt (w : World) (v : Value) (ks : List (Tm × Tm)) : Prop :=
  ∃ A c, v = .slice A ks.length c ∧ ks.length ≤ c ∧ ∀ j x, ks[j]? = some x → ∃ b o p, A = some ⟨b, o, p⟩ ∧ b < w.heap.size ∧ KyCell w ((⟨b, o, p⟩ : Addr).add (j * 10)) x.1 x.2
theorem TmCell.below {w w' : World} {B : Nat} {X : Addr} {x : Tm} (h : TmCell w X x) (hb : Below B w w') (hX : X.block < B) : TmCell w' X x :=
  have k := fun (o : Nat) => hb.cell (p := ⟨X.block, o, none⟩) hX
  ⟨(hb.cell hX).trans h.c0, (k _).trans h.c1, (k _).trans h.c2, (k _).trans h.c3, (k _).trans h.c4⟩
theorem KyCell.below {w w' : World} {B : Nat} {X : Addr} {x y : Tm} (h : KyCell w X x y) (hb : Below B w w') (hX : X.block < B) : KyCell w' X x y :=
  have k := fun (o : Nat) => hb.cell (p := ⟨X.block, o, none⟩) hX
  ⟨(hb.cell hX).trans h.c0, (k _).trans h.c1, (k _).trans h.c2, (k _).trans h.c3, (k _).trans h.c4, (k _).trans h.c5, (k _).trans h.c6, (k _).trans h.c7, (k _).trans h.c8, (k _).trans h.c9⟩
variable {w w' : World} {v : Value} {B : Nat}
theorem TmsAt.below {xs : List Tm} (h : TmsAt w v xs) (hb : Below B w w') (hB : w.heap.size ≤ B) : TmsAt w' v xs := by
  obtain ⟨A, c, hv, hc, hx⟩ := h
  exact ⟨A, c, hv, hc, fun j x hj => by obtain ⟨b, o, p, h1, h2, h3⟩ := hx j x hj; exact ⟨b, o, p, h1, Nat.lt_of_lt_of_le h2 hb.size, h3.below hb (by rw [add_block]; show b < B; omega)⟩⟩
theorem KysAt.below {xs : List (Tm × Tm)} (h : KysAt w v xs) (hb : Below B w w') (hB : w.heap.size ≤ B) : KysAt w' v xs := by
  obtain ⟨A, c, hv, hc, hx⟩ := h
  exact ⟨A, c, hv, hc, fun j x hj => by obtain ⟨b, o, p, h1, h2, h3⟩ := hx j x hj; exact ⟨b, o, p, h1, Nat.lt_of_lt_of_le h2 hb.size, h3.below hb (by rw [add_block]; show b < B; omega)⟩⟩
theorem TmsAt.form {xs : List Tm} (h : TmsAt w v xs) : ∃ A c, v = .slice A xs.length c ∧ xs.length ≤ c := by obtain ⟨A, c, hv, hc, _⟩ := h; exact ⟨A, c, hv, hc⟩
theorem KysAt.form {xs : List (Tm × Tm)} (h : KysAt w v xs) : ∃ A c, v = .slice A xs.length c ∧ xs.length ≤ c := by obtain ⟨A, c, hv, hc, _⟩ := h; exact ⟨A, c, hv, hc⟩
theorem TmsAt.at_ {A : Option Addr} {n c : Nat} {xs : List Tm} (h : TmsAt w (.slice A n c) xs) {j : Nat} {x : Tm} (hj : xs[j]? = some x) :
    ∃ b o p, A = some ⟨b, o, p⟩ ∧ ∀ W, Below w.heap.size w W → TmCell W ((⟨b, o, p⟩ : Addr).add (j * 5)) x := by
  obtain ⟨A', c', hv, _, hx⟩ := h
  cases hv
  obtain ⟨b, o, p, h1, h2, h3⟩ := hx j x hj
  exact ⟨b, o, p, h1, fun W hb => h3.below hb (by rw [add_block]; exact h2)⟩
theorem KysAt.at_ {A : Option Addr} {n c : Nat} {xs : List (Tm × Tm)} (h : KysAt w (.slice A n c) xs) {j : Nat} {x : Tm × Tm} (hj : xs[j]? = some x) :
    ∃ b o p, A = some ⟨b, o, p⟩ ∧ ∀ W, Below w.heap.size w W → KyCell W ((⟨b, o, p⟩ : Addr).add (j * 10)) x.1 x.2 := by
  obtain ⟨A', c', hv, _, hx⟩ := h
  cases hv
  obtain ⟨b, o, p, h1, h2, h3⟩ := hx j x hj
  exact ⟨b, o, p, h1, fun W hb => h3.below hb (by rw [add_block]; exact h2)⟩
theorem TmsAt.cut {A : Option Addr} {n c : Nat} {xs : List Tm} (h : TmsAt w (.slice A n c) xs) {k : Nat} (hk : k ≤ n) : TmsAt w (.slice A k c) (xs.take k) := by
  obtain ⟨A', c', hv, hc, hx⟩ := h
  cases hv
  refine ⟨A, c, by rw [List.length_take]; congr 1; omega, by rw [List.length_take]; omega, fun j x hj => ?_⟩
  rw [List.getElem?_take] at hj
  split at hj
  · exact hx j x hj
  · cases hj
theorem TmsAt.own {base : Nat} {e : TypeId} {n : Nat} {xs : List Tm} (h : w.ownsRow base e 5 v n (tmCells xs)) (hn : xs.length = n) : TmsAt w v xs := by
  rcases id h.2 with ⟨hv, h0⟩ | ⟨g, cap, cur, hv, hb, hg, hnc, _⟩
  · refine ⟨none, 0, by rw [hv, hn, h0], by omega, fun j x hj => ?_⟩
    obtain rfl : xs = [] := List.eq_nil_of_length_eq_zero (by omega)
    simp at hj
  · refine ⟨some ⟨g, 0, none⟩, cap, by rw [hv, hn], by omega, fun j x hj => ⟨g, 0, none, rfl, (Array.getElem?_eq_some_iff.1 hg).1, ?_⟩⟩
    have hc := fun k (hk : k < 5) => flat_at15 Tm.cells 5 (fun _ => rfl) xs j x hj k hk
    have hr := fun k u (hu : (tmCells xs)[k]? = some u) => h.cells (g := g) (by rw [hv]; rfl) k u hu
    simp only [add_here13] at hr ⊢
    exact ⟨hr _ _ (hc 0 (by decide)), hr _ _ (hc 1 (by decide)), hr _ _ (hc 2 (by decide)), hr _ _ (hc 3 (by decide)), hr _ _ (hc 4 (by decide))⟩
theorem KysAt.own {base : Nat} {e : TypeId} {n : Nat} {xs : List (Tm × Tm)} (h : w.ownsRow base e 10 v n (kyCells xs)) (hn : xs.length = n) : KysAt w v xs := by
  rcases id h.2 with ⟨hv, h0⟩ | ⟨g, cap, cur, hv, hb, hg, hnc, _⟩
  · refine ⟨none, 0, by rw [hv, hn, h0], by omega, fun j x hj => ?_⟩
    obtain rfl : xs = [] := List.eq_nil_of_length_eq_zero (by omega)
    simp at hj
  · refine ⟨some ⟨g, 0, none⟩, cap, by rw [hv, hn], by omega, fun j x hj => ⟨g, 0, none, rfl, (Array.getElem?_eq_some_iff.1 hg).1, ?_⟩⟩
    have hc := fun k (hk : k < 10) => flat_at15 (fun c : Tm × Tm => c.1.cells ++ c.2.cells) 10 (fun _ => rfl) xs j x hj k hk
    have hr := fun k u (hu : (kyCells xs)[k]? = some u) => h.cells (g := g) (by rw [hv]; rfl) k u hu
    simp only [add_here13] at hr ⊢
    exact ⟨hr _ _ (hc 0 (by decide)), hr _ _ (hc 1 (by decide)), hr _ _ (hc 2 (by decide)), hr _ _ (hc 3 (by decide)), hr _ _ (hc 4 (by decide)), hr _ _ (hc 5 (by decide)), hr _ _ (hc 6 (by decide)), hr _ _ (hc 7 (by decide)), hr _ _ (hc 8 (by decide)), hr _ _ (hc 9 (by decide))⟩
def OwnTms (w : World) (xs : List Tm) (E : Ending) (w' : World) : Prop := ∃ v, E = .returned v ∧ w'.ownsRow w.heap.size 75 5 v xs.length (tmCells xs) ∧ Below w.heap.size w w'
def OwnKys (w : World) (ks : List (Tm × Tm)) (E : Ending) (w' : World) : Prop := ∃ v, E = .returned v ∧ w'.ownsRow w.heap.size 141 10 v ks.length (kyCells ks) ∧ Below w.heap.size w w'
theorem Tryz.infoTerm15 : (Tryz.prog.info? 75).map (fun i => (i.zero, i.size, i.bytes)) = some (some (.agg #[.int .i64 0, .int .i64 0, .int .i64 0, .bool false, .int .i64 0]), 5, 40) := by kernel_rfl
theorem Tryz.infoKey15 : (Tryz.prog.info? 141).map (fun i => (i.zero, i.size, i.bytes)) = some (some (.agg #[.int .i64 0, .int .i64 0, .int .i64 0, .bool false, .int .i64 0, .int .i64 0, .int .i64 0, .int .i64 0, .bool false, .int .i64 0]), 10, 80) := by kernel_rfl
theorem inn_lt (x : Tm) : Te.tables x < 18446744073709551616 := by
  unfold Te.tables
  split
  · exact St.ofN_lt _
  · decide
theorem hwithin_any (x : Tm) (s : Nat) (w : World) (hs : s < 18446744073709551616) :
    Calls Tryz.prog 101 #[.agg #[.int .i64 x.k, .int .i64 x.t, .int .i64 x.c, .bool x.z, .int .i64 x.n], .int .u64 (s : Int)] w fun e w' => e = .returned (.bool (Hs.inn s x)) ∧ Below w.heap.size w w' := by
  have ct := fun W => ttables_any x.k x.t x.c x.z x.n W
  have hl := inn_lt x
  have HI : Hid (Hs.inn s x = decide (Te.tables x &&& s ≠ 0)) := Lib.hid rfl
  obtain ⟨tb, htb⟩ : ∃ tb, tb = Te.tables x := ⟨_, rfl⟩
  rw [← htb] at hl HI
  have ct2 : ∀ W, Calls Tryz.prog 120 #[.agg #[.int .i64 x.k, .int .i64 x.t, .int .i64 x.c, .bool x.z, .int .i64 x.n]] W fun e w' => e = .returned (.int .u64 (tb : Int)) ∧ Below W.heap.size W w' := by rw [htb]; exact ct
  have hand := bits_and_u64_nat tb s hl hs
  generalize hz : tb &&& s = z at hand HI
  have hb0 := below_new w (Obj.cells #[.int .i64 x.k, .int .i64 x.t, .int .i64 x.c, .bool x.z, .int .i64 x.n] 75)
  have HB := Lib.hid hb0
  clear ct htb hl hs hz hb0
  go_enter Tryz.func101, Tryz.ntmps101
  go_wp2_with fail
  refine (ct2 _).mono ?_
  rintro e w1 ⟨rfl, hb1⟩
  have hb2 := below_join HB.out hb1
  clear ct2 hb1
  go_wp2_with fail
  go_ret
  exact ⟨ret_bool (by rw [HI.out, Bool.eq_iff_iff]; simp), hb2⟩
set_option maxRecDepth 100000 in
theorem hside0_any (kv : Value) (ks : List (Tm × Tm)) (w : World) (hk : KysAt w kv ks) (hn100 : ks.length ≤ 1000) :
    Calls Tryz.prog 83 #[kv, .int .i64 0] w (OwnTms w (ks.map Prod.fst)) := by
  obtain ⟨i0, hi, hz0, hz1, hz2⟩ := info_parts Tryz.infoTerm15
  obtain ⟨K0, c0, rfl, _⟩ := hk.form
  obtain ⟨n, hn⟩ : ∃ n, n = ks.length := ⟨_, rfl⟩
  rw [← hn] at hk hn100 ⊢
  have HK := Lib.hid hk
  have HN := Lib.hid hn
  clear hk hn
  go_enter Tryz.func83, Tryz.ntmps83
  go_wp2_with fail
  go_loopw [5, 10] (fun s i wr => ∃ (q : Nat) (u : Value), q ≤ n ∧ i = .int .i64 q ∧ u = s ∧ wr.ownsRow w.heap.size 75 5 u q (tmCells ((ks.map Prod.fst).take q)) ∧ Below w.heap.size w wr) (fun _ i _ => n - (intOf i).toNat)
  case atStart => exact ⟨0, _, Nat.zero_le _, rfl, rfl, World.ownsRow_nil _ _ _ _, Below.refl _ _⟩
  case round =>
    obtain ⟨q, u, hq, rfl, rfl, hown, hb⟩ := hrel
    by_cases hlt : q < n
    · obtain ⟨⟨x, y⟩, gx⟩ : ∃ x, ks[q]? = some x := ⟨ks[q]'(by have := HN.out; omega), List.getElem?_eq_getElem _⟩
      obtain ⟨b, o, p, rfl, hx⟩ := HK.out.at_ gx
      obtain ⟨y0, y1, y2, y3, y4, y5, y6, y7, y8, y9⟩ := hx wr hb
      have HT := Lib.hid (show tmCells ((ks.map Prod.fst).take (q + 1)) = tmCells ((ks.map Prod.fst).take q) ++ x.cells by rw [List.take_add_one, List.getElem?_map, gx]; exact tmCells_snoc _ _)
      have i1 : (0 : Int) ≤ (q : Int) := by omega
      have i2 : (q : Int) < (n : Int) := by omega
      have hnw := (below_new wr (Obj.cells #[.int .i64 x.k, .int .i64 x.t, .int .i64 x.c, .bool x.z, .int .i64 x.n, .int .i64 y.k, .int .i64 y.t, .int .i64 y.c, .bool y.z, .int .i64 y.n] 141))
      have hcm := Lib.hid (CameN.new (wr.alloc (Obj.cells #[.int .i64 x.k, .int .i64 x.t, .int .i64 x.c, .bool x.z, .int .i64 x.n, .int .i64 y.k, .int .i64 y.t, .int .i64 y.c, .bool y.z, .int .i64 y.n] 141)) 75 5 1 [.int .i64 x.k, .int .i64 x.t, .int .i64 x.c, .bool x.z, .int .i64 x.n] (wr.heap.size + 1) (by rw [World.size_alloc]) rfl)
      have HO := Lib.hid ((hown.alloc (Obj.cells #[.int .i64 x.k, .int .i64 x.t, .int .i64 x.c, .bool x.z, .int .i64 x.n, .int .i64 y.k, .int .i64 y.t, .int .i64 y.c, .bool y.z, .int .i64 y.n] 141)).alloc (Obj.cells [.int .i64 x.k, .int .i64 x.t, .int .i64 x.c, .bool x.z, .int .i64 x.n].toArray 75))
      have HB := Lib.hid (hb.trans (below_low (below_join hnw (below_new (wr.alloc (Obj.cells #[.int .i64 x.k, .int .i64 x.t, .int .i64 x.c, .bool x.z, .int .i64 x.n, .int .i64 y.k, .int .i64 y.t, .int .i64 y.c, .bool y.z, .int .i64 y.n] 141)) (Obj.cells [.int .i64 x.k, .int .i64 x.t, .int .i64 x.c, .bool x.z, .int .i64 x.n].toArray 75))) hb.size))
      have HL := Lib.hid (fun k hk => (hown.lt k hk).1)
      clear gx hx hown hb hnw hlt
      go_wp2_with (first
        | (at_builtin; refine wpList_append_n _ rfl _ _ 124 rfl w.heap.size 75 i0 (.agg #[.int .i64 0, .int .i64 0, .int .i64 0, .bool false, .int .i64 0]) 5 40 Tryz.underlying124 hi hz0 hz1 hz2 rfl (by decide) _ q _ rfl HO.out _ 1 [.int .i64 x.k, .int .i64 x.t, .int .i64 x.c, .bool x.z, .int .i64 x.n] rfl hcm.out (tm_ones x) ?c3 ?c4 ?c5 ?_))
      case c3 => unfold maxLen; omega
      case c4 => omega
      case c5 => simpa using HB.out.size
      intro v1 w5 hown1 hgrow
      have hb5 : Below w.heap.size w w5 := HB.out.grown hgrow HB.out.size HL.out
      have hown5 : w5.ownsRow w.heap.size 75 5 v1 (q + 1) (tmCells ((ks.map Prod.fst).take (q + 1))) := by rw [HT.out]; exact hown1
      clear hown1 hgrow y0 y1 y2 y3 y4 y5 y6 y7 y8 y9
      go_wp2_with fail
      go_roundw
      case rel => exact ⟨q + 1, v1, by omega, by go_num, rfl, hown5, hb5⟩
      case measure => simp [intOf]; omega
    · have hres := Lib.hid (show OwnTms w (ks.map Prod.fst) (.returned u) wr from ⟨u, rfl, by
        rw [List.take_of_length_le (by rw [List.length_map]; have := HN.out; omega)] at hown
        rw [List.length_map, ← HN.out]
        obtain rfl : q = n := by omega
        exact hown, hb⟩)
      have i2 : ¬ ((q : Int) < (n : Int)) := by omega
      clear hown hb hlt
      go_wp2_with fail
      go_ret
      exact hres.out
set_option maxRecDepth 100000 in
theorem hside1_any (kv : Value) (ks : List (Tm × Tm)) (w : World) (hk : KysAt w kv ks) (hn100 : ks.length ≤ 1000) :
    Calls Tryz.prog 83 #[kv, .int .i64 1] w (OwnTms w (ks.map Prod.snd)) := by
  obtain ⟨i0, hi, hz0, hz1, hz2⟩ := info_parts Tryz.infoTerm15
  obtain ⟨K0, c0, rfl, _⟩ := hk.form
  obtain ⟨n, hn⟩ : ∃ n, n = ks.length := ⟨_, rfl⟩
  rw [← hn] at hk hn100 ⊢
  have HK := Lib.hid hk
  have HN := Lib.hid hn
  clear hk hn
  go_enter Tryz.func83, Tryz.ntmps83
  go_wp2_with fail
  go_loopw [5, 10] (fun s i wr => ∃ (q : Nat) (u : Value), q ≤ n ∧ i = .int .i64 q ∧ u = s ∧ wr.ownsRow w.heap.size 75 5 u q (tmCells ((ks.map Prod.snd).take q)) ∧ Below w.heap.size w wr) (fun _ i _ => n - (intOf i).toNat)
  case atStart => exact ⟨0, _, Nat.zero_le _, rfl, rfl, World.ownsRow_nil _ _ _ _, Below.refl _ _⟩
  case round =>
    obtain ⟨q, u, hq, rfl, rfl, hown, hb⟩ := hrel
    by_cases hlt : q < n
    · obtain ⟨⟨x, y⟩, gx⟩ : ∃ x, ks[q]? = some x := ⟨ks[q]'(by have := HN.out; omega), List.getElem?_eq_getElem _⟩
      obtain ⟨b, o, p, rfl, hx⟩ := HK.out.at_ gx
      obtain ⟨y0, y1, y2, y3, y4, y5, y6, y7, y8, y9⟩ := hx wr hb
      have HT := Lib.hid (show tmCells ((ks.map Prod.snd).take (q + 1)) = tmCells ((ks.map Prod.snd).take q) ++ y.cells by rw [List.take_add_one, List.getElem?_map, gx]; exact tmCells_snoc _ _)
      have i1 : (0 : Int) ≤ (q : Int) := by omega
      have i2 : (q : Int) < (n : Int) := by omega
      have hnw := (below_new wr (Obj.cells #[.int .i64 x.k, .int .i64 x.t, .int .i64 x.c, .bool x.z, .int .i64 x.n, .int .i64 y.k, .int .i64 y.t, .int .i64 y.c, .bool y.z, .int .i64 y.n] 141))
      have hcm := Lib.hid (CameN.new (wr.alloc (Obj.cells #[.int .i64 x.k, .int .i64 x.t, .int .i64 x.c, .bool x.z, .int .i64 x.n, .int .i64 y.k, .int .i64 y.t, .int .i64 y.c, .bool y.z, .int .i64 y.n] 141)) 75 5 1 [.int .i64 y.k, .int .i64 y.t, .int .i64 y.c, .bool y.z, .int .i64 y.n] (wr.heap.size + 1) (by rw [World.size_alloc]) rfl)
      have HO := Lib.hid ((hown.alloc (Obj.cells #[.int .i64 x.k, .int .i64 x.t, .int .i64 x.c, .bool x.z, .int .i64 x.n, .int .i64 y.k, .int .i64 y.t, .int .i64 y.c, .bool y.z, .int .i64 y.n] 141)).alloc (Obj.cells [.int .i64 y.k, .int .i64 y.t, .int .i64 y.c, .bool y.z, .int .i64 y.n].toArray 75))
      have HB := Lib.hid (hb.trans (below_low (below_join hnw (below_new (wr.alloc (Obj.cells #[.int .i64 x.k, .int .i64 x.t, .int .i64 x.c, .bool x.z, .int .i64 x.n, .int .i64 y.k, .int .i64 y.t, .int .i64 y.c, .bool y.z, .int .i64 y.n] 141)) (Obj.cells [.int .i64 y.k, .int .i64 y.t, .int .i64 y.c, .bool y.z, .int .i64 y.n].toArray 75))) hb.size))
      have HL := Lib.hid (fun k hk => (hown.lt k hk).1)
      clear gx hx hown hb hnw hlt
      go_wp2_with (first
        | (at_builtin; refine wpList_append_n _ rfl _ _ 124 rfl w.heap.size 75 i0 (.agg #[.int .i64 0, .int .i64 0, .int .i64 0, .bool false, .int .i64 0]) 5 40 Tryz.underlying124 hi hz0 hz1 hz2 rfl (by decide) _ q _ rfl HO.out _ 1 [.int .i64 y.k, .int .i64 y.t, .int .i64 y.c, .bool y.z, .int .i64 y.n] rfl hcm.out (tm_ones y) ?c3 ?c4 ?c5 ?_))
      case c3 => unfold maxLen; omega
      case c4 => omega
      case c5 => simpa using HB.out.size
      intro v1 w5 hown1 hgrow
      have hb5 : Below w.heap.size w w5 := HB.out.grown hgrow HB.out.size HL.out
      have hown5 : w5.ownsRow w.heap.size 75 5 v1 (q + 1) (tmCells ((ks.map Prod.snd).take (q + 1))) := by rw [HT.out]; exact hown1
      clear hown1 hgrow y0 y1 y2 y3 y4 y5 y6 y7 y8 y9
      go_wp2_with fail
      go_roundw
      case rel => exact ⟨q + 1, v1, by omega, by go_num, rfl, hown5, hb5⟩
      case measure => simp [intOf]; omega
    · have hres := Lib.hid (show OwnTms w (ks.map Prod.snd) (.returned u) wr from ⟨u, rfl, by
        rw [List.take_of_length_le (by rw [List.length_map]; have := HN.out; omega)] at hown
        rw [List.length_map, ← HN.out]
        obtain rfl : q = n := by omega
        exact hown, hb⟩)
      have i2 : ¬ ((q : Int) < (n : Int)) := by omega
      clear hown hb hlt
      go_wp2_with fail
      go_ret
      exact hres.out
end Go.Proofs.YtpaaibghfhnicaaGreatDoor

/-
  A TUPLE's KEY: package hash's Key, by a builder; the document's, by strings one behind the other.
-/
namespace Go.Proofs.YtpaaibghfhnicaaGreatDoor
open Go.RowKit Go.Sort
set_option maxHeartbeats 6400000

def Hs.I64 (n : Int) : Prop := -9223372036854775808 ≤ n ∧ n ≤ 9223372036854775807
theorem Hs.prt_le {v : Vl} (h : Hs.I64 v.2) : (Hs.prt v).length ≤ 21 := by
  unfold Hs.prt
  split
  · decide
  · exact Lib.itoa_length_le _ h.1 h.2
theorem Hs.text_le {rs : List (List Vl)} : ∀ (xs : List Tm), (∀ x ∈ xs, Hs.I64 (Te.val x rs).2) → (Hs.text xs rs).length ≤ xs.length * 22
  | [], _ => by simp [Hs.text]
  | x :: xs, h => by
    have h1 := Hs.text_le xs fun y hy => h y (List.mem_cons_of_mem _ hy)
    have h2 := Hs.prt_le (h x List.mem_cons_self)
    have e : Hs.text (x :: xs) rs = (Hs.prt (Te.val x rs) ++ [44]) ++ Hs.text xs rs := by unfold Hs.text; rw [List.flatMap_cons]
    rw [e, List.length_append, List.length_append, List.length_cons]
    simp only [List.length_cons, List.length_nil]
    omega
theorem Hs.key_le {rs : List (List Vl)} {xs : List Tm} {k : List UInt8} (h : Hs.key xs rs = some k) (hi : ∀ x ∈ xs, Hs.I64 (Te.val x rs).2) : k.length ≤ xs.length * 22 := by
  unfold Hs.key at h
  split at h
  · cases h
  · cases h; exact Hs.text_le xs hi
def KeyIs (w : World) (k : Option (List UInt8)) (E : Ending) (w' : World) : Prop :=
  E = .returned (.tuple #[.string ⟨(k.getD []).toArray⟩, .bool k.isSome]) ∧ Below w.heap.size w w'
set_option maxRecDepth 100000 in
theorem hkey_any (tv v : Value) (xs : List Tm) (rs : List (List Vl)) (w : World) (ht : TmsAt w tv xs) (hv : Rws w v rs) (hP : Pows w) (hi : ∀ x ∈ xs, Hs.I64 (Te.val x rs).2) (hn : xs.length ≤ 1000) :
    Calls Tryz.prog 85 #[tv, v] w (KeyIs w (Hs.key xs rs)) := by
  obtain ⟨A0, c0, rfl, _⟩ := ht.form
  obtain ⟨W0, hW0⟩ : ∃ W0, W0 = w.alloc (.cells #[.pointer none, .slice none 0 0] 145) := ⟨_, rfl⟩
  obtain ⟨n, hnn⟩ : ∃ n, n = xs.length := ⟨_, rfl⟩
  rw [← hnn] at ht hn ⊢
  have h0 := fresh_bld w
  have hb0 := below_new w (.cells #[.pointer none, .slice none 0 0] 145)
  rw [← hW0] at h0 hb0
  have HT := Lib.hid ht
  have HV := Lib.hid hv
  have HP := Lib.hid hP
  have HI := Lib.hid hi
  have HN := Lib.hid hnn
  have HW := Lib.hid hW0
  have HS0 := Lib.hid (show W0.heap.size = w.heap.size + 1 by rw [hW0, World.size_alloc])
  have H0 := Lib.hid (Wr.refl h0)
  have HB0 := Lib.hid hb0
  clear ht hv hP hi hnn hW0 h0 hb0
  go_enter Tryz.func85, Tryz.ntmps85
  go_wp2_with fail
  rw [← HW.out]
  go_loopw [12] (fun i wr => ∃ q : Nat, q ≤ n ∧ i = .int .i64 q ∧ Hid (Hs.nulls (xs.take q) rs = false) ∧ Wr w.heap.size w.heap.size (Hs.text (xs.take q) rs) W0 wr) (fun i _ => n - (intOf i).toNat)
  case atStart => exact ⟨0, Nat.zero_le _, rfl, Lib.hid rfl, H0.out⟩
  case round =>
    obtain ⟨q, hq, rfl, HZ, hwr⟩ := hrel
    have hBr : w.heap.size ≤ wr.heap.size := by have := hwr.low.size; have := HS0.out; omega
    have hlt0 : w.heap.size < wr.heap.size := by
      rcases hwr.bld with h | h
      · exact h.lt
      · exact h.lt
    have hbW : Below w.heap.size w wr := HB0.out.trans hwr.low
    by_cases hlt : q < n
    · obtain ⟨x, gx⟩ : ∃ x, xs[q]? = some x := ⟨xs[q]'(by have := HN.out; omega), List.getElem?_eq_getElem _⟩
      obtain ⟨b, o, p, rfl, hx⟩ := HT.out.at_ gx
      obtain ⟨y0, y1, y2, y3, y4⟩ := hx wr hbW
      have i1 : (0 : Int) ≤ (q : Int) := by omega
      have i2 : (q : Int) < (n : Int) := by omega
      have hb1 := below_new wr (Obj.cells #[.int .i64 x.k, .int .i64 x.t, .int .i64 x.c, .bool x.z, .int .i64 x.n] 75)
      have hw1 := hwr.grown hBr hb1
      have hb01 : Below w.heap.size w (wr.alloc (Obj.cells #[.int .i64 x.k, .int .i64 x.t, .int .i64 x.c, .bool x.z, .int .i64 x.n] 75)) := hbW.trans (below_low hb1 hBr)
      have co := tof_any x.k x.t x.c x.z x.n v rs _ (HV.out.below hb01 (Nat.le_refl _))
      have hmm : Hs.I64 (Te.val x rs).2 := HI.out x (List.mem_of_getElem? gx)
      have htk := Hs.text_take (t := rs) gx
      have hnk := Hs.nulls_take (t := rs) gx
      have hnm := Hs.nulls_mem (t := rs) gx
      have hle := Hs.text_le (rs := rs) (xs.take q) fun y hy => HI.out y (List.mem_of_mem_take hy)
      rw [List.length_take] at hle
      change Calls Tryz.prog _ _ _ (fun e w' => e = .returned (.agg #[.bool (Te.val x rs).1, .int .i64 (Te.val x rs).2]) ∧ _) at co
      obtain ⟨⟨z, m⟩, hzm⟩ : ∃ zm, zm = Te.val x rs := ⟨_, rfl⟩
      rw [← hzm] at co hmm htk hnk hnm
      dsimp only at co hmm hnk hnm
      rw [HZ.out, Bool.false_or] at hnk
      have hS1 : w.heap.size ≤ (wr.alloc (Obj.cells #[.int .i64 x.k, .int .i64 x.t, .int .i64 x.c, .bool x.z, .int .i64 x.n] 75)).heap.size := by simp; omega
      have HW1 := Lib.hid hw1
      have HB01 := Lib.hid hb01
      have HTK := Lib.hid htk
      have HNK := Lib.hid hnk
      have HS1 := Lib.hid hS1
      have hle2 : (Hs.text (xs.take q) rs).length ≤ 22000 := by omega
      have HLE := Lib.hid hle2
      clear gx hx hb1 hw1 hb01 htk hnk hzm HZ hwr hlt0 hS1 hle hle2 hlt
      cases z with
      | true =>
        have HNM := Lib.hid (Hs.key_null (hnm rfl))
        clear hnm
        go_wp2_with fail
        refine co.mono ?_
        rintro e w2 ⟨rfl, hb2⟩
        have HB2 := Lib.hid (HB01.out.trans (below_low hb2 HS1.out))
        have HS2 := Lib.hid (Nat.le_trans HS1.out hb2.size)
        clear co hb2 y0 y1 y2 y3 y4
        go_wp2_with fail
        go_ret2
        rw [HNM.out]
        exact ⟨rfl, HB2.out.alloc HS2.out _⟩
      | false =>
        clear hnm
        have HMM := Lib.hid hmm
        go_wp2_with fail
        refine co.mono ?_
        rintro e w2 ⟨rfl, hb2⟩
        obtain ⟨W3, hW3⟩ : ∃ W3, W3 = w2.alloc (Obj.cells #[.bool false, .int .i64 m] 60) := ⟨_, rfl⟩
        obtain ⟨l3, hb3⟩ := box_one (cs := [.bool false, .int .i64 m]) hW3
        have hb13 := below_join hb2 hb3
        have hw3 := HW1.out.grown HS1.out hb13
        have HB3 := Lib.hid (HB01.out.trans (below_low hb13 HS1.out))
        have HS3 := Lib.hid (Nat.le_trans HS1.out hb13.size)
        have HW3 := Lib.hid hw3
        have HEQ := Lib.hid hW3
        have cp := print_any false m W3 HMM.out.1 HMM.out.2 (HP.out.below HB3.out (Nat.le_refl _))
        have k0 := l3.cell (i := 0) rfl
        have k1 := l3.cell (i := 1) rfl
        rw [hW3] at k0 k1
        clear co hb2 y0 y1 y2 y3 y4 hW3 l3 hb3 hb13 hw3
        go_wp2_with fail
        rw [← HEQ.out]
        refine cp.mono ?_
        rintro e w4 ⟨rfl, hb4⟩
        have hw4 := HW3.out.grown HS3.out hb4
        have HS4 := Lib.hid (Nat.le_trans HS3.out hb4.size)
        have hpl : (prt false m).length ≤ 21 := Hs.prt_le (v := (false, m)) HMM.out
        have cs := wstring_any w.heap.size w.heap.size _ (prt false m) w4 hw4.bld (by have := HLE.out; omega) HS4.out
        have HW4 := Lib.hid hw4
        have HPL := Lib.hid hpl
        clear cp k0 k1 hb4 hw4 hpl
        go_wp2_with fail
        refine cs.mono ?_
        rintro e w5 ⟨⟨n5, rfl⟩, h5⟩
        have hw5 := HW4.out.trans h5
        have HS5 := Lib.hid (Nat.le_trans HS4.out (h5.low.size))
        have cb := wbyte_any w.heap.size w.heap.size _ 44 w5 hw5.bld (by rw [List.length_append]; have := HLE.out; have := HPL.out; omega) HS5.out
        rw [show (((44 : UInt8).toNat : Nat) : Int) = 44 from rfl] at cb
        have HW5 := Lib.hid hw5
        clear cs h5 hw5
        go_wp2_with fail
        refine cb.mono ?_
        rintro e w6 ⟨rfl, h6⟩
        have hw6 := HW5.out.trans h6
        have HF := Lib.hid (show Wr w.heap.size w.heap.size (Hs.text (xs.take (q + 1)) rs) W0 w6 by
          rw [HTK.out, ← List.append_assoc]
          exact hw6)
        clear cb h6 hw6
        go_wp2_with fail
        go_roundw
        case rel => exact ⟨q + 1, by omega, by go_num, HNK, HF.out⟩
        case measure => simp [intOf]; omega
    · have hres := Lib.hid (show Hs.key xs rs = some (Hs.text (xs.take q) rs) from by
        have hz := HZ.out
        rw [List.take_of_length_le (by have := HN.out; omega)] at hz ⊢
        exact Hs.key_some hz)
      have i2 : ¬ ((q : Int) < (n : Int)) := by omega
      have cs := Tryz.Builder_String_any_k w.heap.size w.heap.size (Hs.text (xs.take q) rs) wr hwr.bld hBr
      have HBW := Lib.hid hbW
      clear hlt hwr hbW hlt0
      go_wp2_with fail
      refine cs.mono ?_
      rintro e w4 ⟨rfl, _, h4, _⟩
      clear cs
      go_wp2_with fail
      go_ret2
      rw [hres.out]
      exact ⟨rfl, HBW.out.trans h4⟩
end Go.Proofs.YtpaaibghfhnicaaGreatDoor
