/-
  JOINS BY HASHED KEYS, as plain mathematics: which comparisons are keys, a tuple's key; where sides are apart, who is left out could not have matched.
-/
import Derived.Test.YtghonbnmakggnaaDoorNsmM
import Derived.Lib.ItoaLen
namespace Go.Proofs.YtghonbnmakggnaaDoor
namespace Hs
/-- is a term a column of a table of s? -/
def inn (s : Nat) (x : Tm) : Bool := decide (Te.tables x &&& s ≠ 0)
theorem inn_eq (s : Nat) (x : Tm) : inn s x = (decide (x.k = 1) && (decide (0 ≤ x.t ∧ x.t < 64) && s.testBit x.t.toNat)) := by
  unfold inn Te.tables
  by_cases hk : x.k = 1
  · rw [if_pos hk, decide_eq_true hk, Bool.true_and, Bool.eq_iff_iff, decide_eq_true_iff, Bool.and_eq_true, decide_eq_true_iff]
    constructor
    · intro h
      obtain ⟨j, hj⟩ : ∃ j, (St.ofN [x.t] &&& s).testBit j = true := Nat.exists_testBit_of_ne_zero h
      rw [Nat.testBit_and, St.testBit_ofN] at hj
      simp at hj
      obtain ⟨⟨h1, h2⟩, h3⟩ := hj
      rw [← h2]
      exact ⟨by omega, by simpa using h3⟩
    · rintro ⟨⟨h0, h1⟩, h2⟩ h3
      have h4 : (St.ofN [x.t] &&& s).testBit x.t.toNat = true := by
        rw [Nat.testBit_and, St.testBit_ofN, h2]
        simp; omega
      rw [h3] at h4
      simp at h4
  · rw [if_neg hk, decide_eq_false hk]; simp
def key1 (l r : Nat) (p : Pd) : Option (Tm × Tm) :=
  if p.f.k = 2 ∧ p.f.o = 1 then
    if inn l p.f.a && inn r p.f.b then some (p.f.a, p.f.b) else if inn l p.f.b && inn r p.f.a then some (p.f.b, p.f.a) else none
  else none
def keys (ps : List Pd) (l r : Nat) : List (Tm × Tm) := ps.filterMap (key1 l r)
theorem keys_take {ps : List Pd} {l r q : Nat} {p : Pd} (h : ps[q]? = some p) : keys (ps.take (q + 1)) l r = keys (ps.take q) l r ++ (key1 l r p).toList := by
  unfold keys
  rw [List.take_add_one, h, List.filterMap_append]
  cases hk : key1 l r p <;> simp [hk]
theorem keys_le (ps : List Pd) (l r : Nat) : (keys ps l r).length ≤ ps.length := List.length_filterMap_le _ _
/-- the texts of terms' values; is one of them null? -/
def prt (v : Vl) : List UInt8 := if v.1 then Va.nul else Lib.itoa v.2
def text (xs : List Tm) (t : List (List Vl)) : List UInt8 := xs.flatMap fun x => prt (Te.val x t) ++ [44]
def nulls (xs : List Tm) (t : List (List Vl)) : Bool := xs.any fun x => (Te.val x t).1
def key (xs : List Tm) (t : List (List Vl)) : Option (List UInt8) := if nulls xs t then none else some (text xs t)
theorem text_nil (t : List (List Vl)) : text [] t = [] := rfl
theorem text_take {xs : List Tm} {t : List (List Vl)} {q : Nat} {x : Tm} (h : xs[q]? = some x) : text (xs.take (q + 1)) t = text (xs.take q) t ++ (prt (Te.val x t) ++ [44]) := by
  unfold text
  rw [List.take_add_one, h, List.flatMap_append]
  simp
theorem nulls_take {xs : List Tm} {t : List (List Vl)} {q : Nat} {x : Tm} (h : xs[q]? = some x) : nulls (xs.take (q + 1)) t = (nulls (xs.take q) t || (Te.val x t).1) := by
  unfold nulls
  rw [List.take_add_one, h, List.any_append]
  simp
theorem nulls_mem {xs : List Tm} {t : List (List Vl)} {q : Nat} {x : Tm} (h : xs[q]? = some x) (hn : (Te.val x t).1 = true) : nulls xs t = true := List.any_eq_true.2 ⟨x, List.mem_of_getElem? h, hn⟩
theorem key_null {xs : List Tm} {t : List (List Vl)} (h : nulls xs t = true) : key xs t = none := if_pos h
theorem key_some {xs : List Tm} {t : List (List Vl)} (h : nulls xs t = false) : key xs t = some (text xs t) := by unfold key; rw [h]; rfl
/-- the tuples that have a key -/
def alike (xs : List Tm) (k : Option (List UInt8)) (R : List (List (List Vl))) : List (List (List Vl)) := match k with
  | none => []
  | some s => R.filter fun x => key xs x == some s
theorem alike_take {xs : List Tm} {s : List UInt8} {R : List (List (List Vl))} {q : Nat} {t : List (List Vl)} (h : R[q]? = some t) :
    alike xs (some s) (R.take (q + 1)) = alike xs (some s) (R.take q) ++ (if key xs t = some s then [t] else []) := by
  show List.filter _ _ = List.filter _ _ ++ _
  rw [List.take_add_one, h, List.filter_append]
  congr 1
  by_cases hk : key xs t = some s <;> simp [hk]
theorem alike_sub {xs : List Tm} {k : Option (List UInt8)} {R : List (List (List Vl))} : (alike xs k R).Sublist R := by
  cases k with
  | none => exact List.nil_sublist _
  | some s => exact List.filter_sublist
def join (k : Int) (ps : List Pd) (l r : Nat) (L R : List (List (List Vl))) : List (List (List Vl)) :=
  L.flatMap fun t => Mt.extend k ps t (alike ((keys ps l r).map Prod.snd) (key ((keys ps l r).map Prod.fst) t) R)
theorem join_take {k : Int} {ps : List Pd} {l r : Nat} {L R : List (List (List Vl))} {q : Nat} {t : List (List Vl)} (h : L[q]? = some t) :
    join k ps l r (L.take (q + 1)) R = join k ps l r (L.take q) R ++ Mt.extend k ps t (alike ((keys ps l r).map Prod.snd) (key ((keys ps l r).map Prod.fst) t) R) := by
  unfold join
  rw [List.take_add_one, h, List.flatMap_append]
  simp
theorem few_alike {n m : Nat} {xs : List Tm} {k : Option (List UInt8)} {R : List (List (List Vl))} (h : Ns.Few n m R) : Ns.Few n m (alike xs k R) :=
  ⟨Nat.le_trans alike_sub.length_le h.len, fun t ht => h.tup t (alike_sub.subset ht)⟩
/-- has no tuple a row of a table of s? -/
def apart (L : List (List (List Vl))) (s : Nat) : Bool := decide (∀ t ∈ L, ∀ i, i < t.length → i < 64 → s.testBit i = true → (Mt.row t i).length = 0)
theorem apart_row {L : List (List (List Vl))} {s : Nat} (h : apart L s = true) {t : List (List Vl)} (ht : t ∈ L) {i : Nat} (hi : i < 64) (hs : s.testBit i = true) : Mt.row t i = [] := by
  by_cases hl : i < t.length
  · exact List.eq_nil_of_length_eq_zero (of_decide_eq_true h t ht i hl hi hs)
  · exact Mt.row_out (by omega)
theorem row_merge (a b : List (List Vl)) (i : Nat) : Mt.row (Mt.merge a b) i = Mt.pick a b i := by
  by_cases h : i < max a.length b.length
  · exact Mt.row_at (Mt.merge_at a b h)
  · rw [Mt.row_out (by rw [Mt.merge_length]; omega)]
    unfold Mt.pick
    rw [Mt.row_out (t := a) (by omega), Mt.row_out (t := b) (by omega)]
    rfl
theorem col_row {t : Int} (h : 0 ≤ t) (c : Int) (rs : List (List Vl)) : Te.col t c rs = (Te.at_ (Mt.row rs t.toNat) c).getD Te.nul := by
  obtain ⟨i, rfl⟩ := Int.eq_ofNat_of_zero_le h
  unfold Te.col
  rw [Te.at_nat]
  show _ = (Te.at_ (Mt.row rs i) c).getD Te.nul
  by_cases hi : i < rs.length
  · rw [Mt.row_mem hi]; rfl
  · rw [List.getElem?_eq_none (by omega), Mt.row_out (by omega)]
    unfold Te.at_
    split <;> simp
theorem val_row {x : Tm} {s : Nat} (h : inn s x = true) {t u : List (List Vl)} (hr : ∀ i, i < 64 → s.testBit i = true → Mt.row t i = Mt.row u i) : Te.val x t = Te.val x u := by
  rw [inn_eq] at h
  simp only [Bool.and_eq_true, decide_eq_true_iff] at h
  obtain ⟨hk, ⟨h0, h1⟩, h2⟩ := h
  rw [Te.val_col hk, Te.val_col hk, col_row h0, col_row h0, hr _ (by omega) h2]
/-- of what matches, a key's two terms are not null, and the same -/
theorem fits_key {ps : List Pd} {l r : Nat} {t x : List (List Vl)} (hf : Mt.fits ps t x = true) (ht : ∀ i, i < 64 → r.testBit i = true → Mt.row t i = []) (hx : ∀ i, i < 64 → l.testBit i = true → Mt.row x i = [])
    {c : Tm × Tm} (hc : c ∈ keys ps l r) : (Te.val c.1 t).1 = false ∧ (Te.val c.2 x).1 = false ∧ (Te.val c.1 t).2 = (Te.val c.2 x).2 := by
  obtain ⟨p, hp, hk⟩ := List.mem_filterMap.1 hc
  have h2 : Pr.of (Mt.merge t x) p = 2 := Lo.andI_eq2.1 (of_decide_eq_true hf) _ (List.mem_map_of_mem hp)
  have hl : ∀ i, i < 64 → l.testBit i = true → Mt.row (Mt.merge t x) i = Mt.row t i := fun i hi hs => by
    rw [row_merge]; unfold Mt.pick
    split
    · rename_i h; rw [hx i hi hs, List.eq_nil_of_length_eq_zero h]
    · rfl
  have hr : ∀ i, i < 64 → r.testBit i = true → Mt.row (Mt.merge t x) i = Mt.row x i := fun i hi hs => by
    rw [row_merge]; unfold Mt.pick
    rw [ht i hi hs]; rfl
  unfold key1 at hk
  split at hk
  · rename_i ho
    rw [Pr.of_at, Pr.made_2 ho.1, ho.2] at h2
    have hcomp : ∀ (b : Bool) (n : Int) (c : Bool) (m : Int), Va.comp 1 b n c m = 2 → b = false ∧ c = false ∧ n = m := by
      intro b n c m h
      by_cases hb : (b || c) = true
      · rw [Va.comp_null hb] at h; cases h
      · simp at hb
        obtain ⟨rfl, rfl⟩ := hb
        rw [show (1 : Int) = ((1 : Nat) : Int) from rfl, Va.comp_want 1 (by decide) (by decide), Va.place_num] at h
        refine ⟨rfl, rfl, ?_⟩
        by_cases h1 : n < m
        · rw [if_pos h1] at h; simp [Va.want, Va.truth] at h
        · rw [if_neg h1] at h
          by_cases h3 : m < n
          · rw [if_pos h3] at h; simp [Va.want, Va.truth] at h
          · omega
    obtain ⟨n1, n2, n3⟩ := hcomp _ _ _ _ h2
    split at hk
    · rename_i hi
      simp only [Bool.and_eq_true] at hi
      cases hk
      rw [val_row hi.1 hl] at n1 n3
      rw [val_row hi.2 hr] at n2 n3
      exact ⟨n1, n2, n3⟩
    · split at hk
      · rename_i hi
        simp only [Bool.and_eq_true] at hi
        cases hk
        rw [val_row hi.1 hl] at n2 n3
        rw [val_row hi.2 hr] at n1 n3
        exact ⟨n2, n1, n3.symm⟩
      · cases hk
  · cases hk
theorem fits_alike {ps : List Pd} {l r : Nat} {t x : List (List Vl)} (hf : Mt.fits ps t x = true) (ht : ∀ i, i < 64 → r.testBit i = true → Mt.row t i = []) (hx : ∀ i, i < 64 → l.testBit i = true → Mt.row x i = []) :
    ∃ s, key ((keys ps l r).map Prod.fst) t = some s ∧ key ((keys ps l r).map Prod.snd) x = some s := by
  have h := fun c hc => fits_key hf ht hx (c := c) hc
  generalize keys ps l r = K at h
  have hn1 : nulls (K.map Prod.fst) t = false := by
    rw [nulls, List.any_eq_false]; intro y hy
    obtain ⟨c, hc, rfl⟩ := List.mem_map.1 hy
    simp [(h c hc).1]
  have hn2 : nulls (K.map Prod.snd) x = false := by
    rw [nulls, List.any_eq_false]; intro y hy
    obtain ⟨c, hc, rfl⟩ := List.mem_map.1 hy
    simp [(h c hc).2.1]
  refine ⟨_, key_some hn1, ?_⟩
  rw [key_some hn2]
  congr 1
  unfold text
  clear hn1 hn2
  induction K with
  | nil => rfl
  | cons c K ih =>
    obtain ⟨h1, h2, h3⟩ := h c List.mem_cons_self
    rw [List.map_cons, List.map_cons, List.flatMap_cons, List.flatMap_cons, ih fun c hc => h c (List.mem_cons_of_mem _ hc)]
    congr 2
    unfold prt
    rw [h1, h2, h3]
theorem found_alike {ps : List Pd} {l r : Nat} {t : List (List Vl)} {R : List (List (List Vl))} (ht : ∀ i, i < 64 → r.testBit i = true → Mt.row t i = []) (hR : apart R l = true) :
    Mt.found ps t (alike ((keys ps l r).map Prod.snd) (key ((keys ps l r).map Prod.fst) t) R) = Mt.found ps t R := by
  have hx : ∀ x ∈ R, Mt.fits ps t x = true → ∃ s, key ((keys ps l r).map Prod.fst) t = some s ∧ key ((keys ps l r).map Prod.snd) x = some s := fun x hx hf =>
    fits_alike hf ht fun i hi hs => apart_row hR hx hi hs
  unfold Mt.found
  congr 1
  cases hk : key ((keys ps l r).map Prod.fst) t with
  | none =>
    symm
    show List.filter _ R = _
    rw [show alike ((keys ps l r).map Prod.snd) none R = [] from rfl, List.filter_nil, List.filter_eq_nil_iff]
    intro x hxR hf
    obtain ⟨s, h1, _⟩ := hx x hxR hf
    rw [hk] at h1; cases h1
  | some s =>
    unfold alike
    rw [List.filter_filter]
    refine List.filter_congr fun x hxR => ?_
    cases hf : Mt.fits ps t x with
    | false => rfl
    | true =>
      obtain ⟨s', h1, h2⟩ := hx x hxR hf
      rw [hk] at h1
      cases h1
      simp [h2]
theorem extend_alike {k : Int} {ps : List Pd} {l r : Nat} {t : List (List Vl)} {R : List (List (List Vl))} (ht : ∀ i, i < 64 → r.testBit i = true → Mt.row t i = []) (hR : apart R l = true) :
    Mt.extend k ps t (alike ((keys ps l r).map Prod.snd) (key ((keys ps l r).map Prod.fst) t) R) = Mt.extend k ps t R := by
  unfold Mt.extend
  rw [found_alike ht hR]
/-- THE SAME -/
theorem join_same {k : Int} {ps : List Pd} {l r : Nat} {L R : List (List (List Vl))} (hL : apart L r = true) (hR : apart R l = true) : join k ps l r L R = Ns.join k ps L R := by
  unfold join Ns.join
  have : ∀ t ∈ L, Mt.extend k ps t (alike ((keys ps l r).map Prod.snd) (key ((keys ps l r).map Prod.fst) t) R) = Mt.extend k ps t R := fun t ht => extend_alike (fun i hi hs => apart_row hL ht hi hs) hR
  clear hL
  induction L with
  | nil => rfl
  | cons t L ih => rw [List.flatMap_cons, List.flatMap_cons, this t List.mem_cons_self, ih fun u hu => this u (List.mem_cons_of_mem _ hu)]
/-- a tuple whose key has a null matches nothing -/
theorem null_alone {ps : List Pd} {l r : Nat} {t : List (List Vl)} {R : List (List (List Vl))} (hL : apart [t] r = true) (hR : apart R l = true) {c : Tm × Tm} (hc : c ∈ keys ps l r) (hn : (Te.val c.1 t).1 = true) : (join 4 ps l r [t] R).length = 1 := by
  have h0 : Mt.found ps t R = [] := by
    unfold Mt.found
    rw [List.map_eq_nil_iff, List.filter_eq_nil_iff]
    intro x hx hf
    have := (fits_key hf (fun i hi hs => apart_row hL List.mem_cons_self hi hs) (fun i hi hs => apart_row hR hx hi hs) hc).1
    rw [hn] at this; cases this
  rw [join_same hL hR, Ns.join_one, Ns.extend_anti]
  unfold Ns.has
  rw [h0]
  rfl
theorem apart_one {L : List (List (List Vl))} {s : Nat} (h : apart L s = true) {t : List (List Vl)} (ht : t ∈ L) : apart [t] s = true :=
  decide_eq_true fun u hu => by rw [List.mem_singleton.1 hu]; exact of_decide_eq_true h t ht
end Hs
end Go.Proofs.YtghonbnmakggnaaDoor
