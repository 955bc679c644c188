/-
  TREES DONE ON DATA, as plain mathematics: a tree's tuples, a query's rows; how many there are at most, what stands in them; a tree with Hash in some operators tells the same.
-/
import Derived.Test.YtpaaibghfhnicaaGreatDoorGNsm
import Derived.Test.YtpaaibghfhnicaaGreatDoorGHsA
import Derived.Test.YtpaaibghfhnicaaGreatDoorGCkC
import Derived.Test.YtpaaibghfhnicaaGreatDoorGMtA
namespace Go.Proofs.YtpaaibghfhnicaaGreatDoor
namespace Ex
/-- a leaf's tuples -/
def leaf (t : Int) (d : List (List (List Vl))) : List (List (List Vl)) := ((d[t.toNat]?).getD []).map fun r => List.replicate t.toNat [] ++ [r]
def fst (l : List (List (List (List Vl)))) : List (List (List Vl)) := (l[0]?).getD []
def snd (l : List (List (List (List Vl)))) : List (List (List Vl)) := (l[1]?).getD []
mutual
def tuples (d : List (List (List Vl))) : Tr → List (List (List Vl))
  | .mk k t _ cs ks => if k = 0 then leaf t d else Ns.join k cs (fst (tupless d ks)) (snd (tupless d ks))
def tupless (d : List (List (List Vl))) : List Tr → List (List (List (List Vl)))
  | [] => []
  | a :: r => tuples d a :: tupless d r
end
theorem tuples_leaf {d : List (List (List Vl))} {a : Tr} (h : a.k = 0) : tuples d a = leaf a.t d := by
  obtain ⟨k, t, h', cs, ks⟩ := a
  rw [tuples, if_pos (by exact h)]; rfl
theorem tuples_op {d : List (List (List Vl))} {a x y : Tr} (h : a.k ≠ 0) (hk : a.ks = [x, y]) : tuples d a = Ns.join a.k a.cs (tuples d x) (tuples d y) := by
  obtain ⟨k, t, h', cs, ks⟩ := a
  change ks = [x, y] at hk
  subst hk
  rw [tuples, if_neg (by exact h), tupless, tupless, tupless]; rfl
/-- the rows -/
def rows (cols : List Int) (a : Tr) (d : List (List (List Vl))) : List (List Vl) := (tuples d a).map fun t => Mt.flat t (Tr.seen a) cols
/-- the product of the leaves' counts -/
def cnt (d : List (List (List Vl))) (a : Tr) : Nat := if a.k = 0 ∧ 0 ≤ a.t ∧ a.t < (d.length : Int) then max 1 ((d[a.t.toNat]?).getD []).length else 1
def prod (d : List (List (List Vl))) : List Tr → Nat
  | [] => 1
  | a :: r => cnt d a * prod d r
theorem cnt_pos (d : List (List (List Vl))) (a : Tr) : 1 ≤ cnt d a := by
  unfold cnt; split <;> omega
theorem prod_pos (d : List (List (List Vl))) : ∀ l, 1 ≤ prod d l
  | [] => Nat.le_refl _
  | a :: r => Nat.mul_le_mul (cnt_pos d a) (prod_pos d r)
theorem prod_app (d : List (List (List Vl))) (m : List Tr) : ∀ l, prod d (l ++ m) = prod d l * prod d m
  | [] => by simp [prod]
  | a :: r => by rw [List.cons_append, prod, prod, prod_app d m r, Nat.mul_assoc]
theorem prod_take {d : List (List (List Vl))} {l : List Tr} {q : Nat} {a : Tr} (h : l[q]? = some a) : prod d (l.take (q + 1)) = prod d (l.take q) * cnt d a := by
  rw [List.take_add_one, h, prod_app]
  show _ * (cnt d a * 1) = _
  rw [Nat.mul_one]
theorem prod_le {d : List (List (List Vl))} {l : List Tr} (q : Nat) : prod d (l.take q) ≤ prod d l := by
  have h : prod d l = prod d (l.take q) * prod d (l.drop q) := by rw [← prod_app, List.take_append_drop]
  rw [h]
  exact Nat.le_mul_of_pos_right _ (prod_pos d _)
theorem all_op {a x y : Tr} (hk : a.ks = [x, y]) : Tr.all a = Tr.all x ++ (Tr.all y ++ [a]) := by
  rw [Tr.all_at, hk, Tr.alls, Tr.alls, Tr.alls, List.append_nil, List.append_assoc]
theorem all_leaf {a : Tr} (hk : a.ks = []) : Tr.all a = [a] := by rw [Tr.all_at, hk, Tr.alls, List.nil_append]
theorem prod_op {d : List (List (List Vl))} {a x y : Tr} (hk : a.ks = [x, y]) (h : a.k ≠ 0) : prod d (Tr.all a) = prod d (Tr.all x) * prod d (Tr.all y) := by
  rw [all_op hk, prod_app, prod_app]
  have : prod d [a] = 1 := by
    show cnt d a * 1 = 1
    unfold cnt
    rw [if_neg (fun e => h e.1)]
  rw [this, Nat.mul_one]
theorem extend_le (k : Int) (ps : List Pd) (t : List (List Vl)) (R : List (List (List Vl))) : (Mt.extend k ps t R).length ≤ max 1 R.length := by
  have h := Mt.found_le ps t R
  unfold Mt.extend Mt.of
  split
  · omega
  · split
    · simp; omega
    · simp
theorem join_le (k : Int) (ps : List Pd) (L R : List (List (List Vl))) : (Ns.join k ps L R).length ≤ L.length * max 1 R.length := by
  induction L with
  | nil => simp [Ns.join]
  | cons t L ih =>
    have h := extend_le k ps t R
    have e : Ns.join k ps (t :: L) R = Mt.extend k ps t R ++ Ns.join k ps L R := by unfold Ns.join; rw [List.flatMap_cons]
    rw [e, List.length_append, List.length_cons, Nat.succ_mul]
    omega
/-- there are no more tuples than the product -/
theorem tuples_le {cols : List Int} (d : List (List (List Vl))) (hd : d.length = cols.length) (a : Tr) : Ck.Good cols a → (tuples d a).length ≤ prod d (Tr.all a) := by
  refine Tr.ind (P := fun a => Ck.Good cols a → (tuples d a).length ≤ prod d (Tr.all a)) (fun a ih => ?_) a
  intro hg
  by_cases hk : a.k = 0
  · obtain ⟨h1, _, h2, h3⟩ := hg.leaf hk
    rw [tuples_leaf hk, all_leaf h1]
    show _ ≤ cnt d a * 1
    unfold cnt leaf
    rw [if_pos ⟨hk, h2, by omega⟩, List.length_map]
    omega
  · obtain ⟨x, y, h1, _⟩ := hg.op hk
    rw [tuples_op hk h1, prod_op h1 hk]
    have hx := ih x (by rw [h1]; simp) (hg.kid (by rw [h1]; simp))
    have hy := ih y (by rw [h1]; simp) (hg.kid (by rw [h1]; simp))
    refine Nat.le_trans (join_le _ _ _ _) (Nat.mul_le_mul hx ?_)
    have := prod_pos d (Tr.all y)
    omega
/-- what stands in a tuple whose tables are in S -/
structure Fit (S : List Int) (t : List (List Vl)) : Prop where
  len : t.length ≤ 64
  row : ∀ x ∈ t, x.length ≤ 4
  wf : ∀ x ∈ t, ∀ v ∈ x, -9223372036854775808 ≤ v.2 ∧ v.2 ≤ 9223372036854775807
  own : ∀ i, Mt.row t i ≠ [] → (i : Int) ∈ S
theorem Fit.mono {S S' : List Int} {t : List (List Vl)} (h : Fit S t) (hS : ∀ i ∈ S, i ∈ S') : Fit S' t := ⟨h.len, h.row, h.wf, fun i hi => hS _ (h.own i hi)⟩
theorem merge_in {a b : List (List Vl)} {x : List Vl} (h : x ∈ Mt.merge a b) : x ∈ a ∨ x ∈ b ∨ x = [] := by
  obtain ⟨i, _, rfl⟩ := List.mem_map.1 h
  have key : ∀ t : List (List Vl), Mt.row t i ∈ t ∨ Mt.row t i = [] := fun t => by
    by_cases hi : i < t.length
    · exact .inl (List.mem_of_getElem? (Mt.row_mem hi))
    · exact .inr (Mt.row_out (by omega))
  unfold Mt.pick
  split
  · rcases key b with h | h
    · exact .inr (.inl h)
    · exact .inr (.inr h)
  · rcases key a with h | h
    · exact .inl h
    · exact .inr (.inr h)
theorem Fit.merge {S S' : List Int} {a b : List (List Vl)} (ha : Fit S a) (hb : Fit S' b) : Fit (S ++ S') (Mt.merge a b) := by
  refine ⟨by rw [Mt.merge_length]; have := ha.len; have := hb.len; omega, Mt.merge_mem ha.row hb.row, fun x hx v hv => ?_, fun i hi => ?_⟩
  · rcases merge_in hx with h | h | h
    · exact ha.wf x h v hv
    · exact hb.wf x h v hv
    · rw [h] at hv; simp at hv
  · rw [Hs.row_merge] at hi
    unfold Mt.pick at hi
    split at hi
    · exact List.mem_append_right _ (hb.own i hi)
    · exact List.mem_append_left _ (ha.own i hi)
theorem extend_fit {S S' : List Int} {k : Int} {ps : List Pd} {t : List (List Vl)} {R : List (List (List Vl))} (ht : Fit S t) (hR : ∀ u ∈ R, Fit S' u) : ∀ u ∈ Mt.extend k ps t R, Fit (S ++ S') u := by
  have h1 : ∀ u ∈ Mt.found ps t R, Fit (S ++ S') u := fun u hu => by
    unfold Mt.found at hu
    obtain ⟨v, hv, rfl⟩ := List.mem_map.1 hu
    exact ht.merge (hR v (List.mem_filter.1 hv).1)
  intro u hu
  unfold Mt.extend Mt.of at hu
  split at hu
  · exact h1 u hu
  · split at hu
    · rw [List.mem_singleton.1 hu]; exact ht.mono fun i hi => List.mem_append_left _ hi
    · simp at hu
theorem join_fit {S S' : List Int} {k : Int} {ps : List Pd} {L R : List (List (List Vl))} (hL : ∀ t ∈ L, Fit S t) (hR : ∀ u ∈ R, Fit S' u) : ∀ u ∈ Ns.join k ps L R, Fit (S ++ S') u := fun u hu => by
  obtain ⟨t, ht, hu⟩ := List.mem_flatMap.1 hu
  exact extend_fit (hL t ht) hR u hu
/-- rows that are not long, their numbers int64 -/
def Fine (d : List (List (List Vl))) : Prop := d.length ≤ 64 ∧ ∀ rs ∈ d, ∀ x ∈ rs, x.length ≤ 4 ∧ ∀ v ∈ x, -9223372036854775808 ≤ v.2 ∧ v.2 ≤ 9223372036854775807
theorem leaf_fit {d : List (List (List Vl))} (hd : Fine d) {t : Int} (h0 : 0 ≤ t) (h1 : t < d.length) : ∀ u ∈ leaf t d, Fit [t] u := fun u hu => by
  obtain ⟨r, hr, rfl⟩ := List.mem_map.1 hu
  have hlt : t.toNat < d.length := by omega
  rw [List.getElem?_eq_getElem hlt] at hr
  have hm := hd.2 _ (List.getElem_mem hlt) r hr
  have h64 := hd.1
  refine ⟨by simp; omega, fun x hx => ?_, fun x hx v hv => ?_, fun i hi => ?_⟩
  · rcases List.mem_append.1 hx with hx | hx
    · rw [(List.mem_replicate.1 hx).2]; simp
    · rw [List.mem_singleton.1 hx]; exact hm.1
  · rcases List.mem_append.1 hx with hx | hx
    · rw [(List.mem_replicate.1 hx).2] at hv; simp at hv
    · rw [List.mem_singleton.1 hx] at hv; exact hm.2 v hv
  · have hi2 : i = t.toNat := by
      unfold Mt.row at hi
      rcases Nat.lt_trichotomy i t.toNat with g | g | g
      · rw [List.getElem?_append_left (by simpa using g), List.getElem?_replicate, if_pos g] at hi; exact absurd rfl hi
      · exact g
      · rw [List.getElem?_eq_none (by simp; omega)] at hi; exact absurd rfl hi
    rw [hi2, Int.toNat_of_nonneg h0]; simp
theorem tuples_fit {cols : List Int} {d : List (List (List Vl))} (hd : Fine d) (hl : d.length = cols.length) (a : Tr) : Ck.Good cols a → ∀ u ∈ tuples d a, Fit (Ck.lv (Tr.all a)) u := by
  refine Tr.ind (P := fun a => Ck.Good cols a → ∀ u ∈ tuples d a, Fit (Ck.lv (Tr.all a)) u) (fun a ih => ?_) a
  intro hg
  by_cases hk : a.k = 0
  · obtain ⟨h1, _, h2, h3⟩ := hg.leaf hk
    rw [tuples_leaf hk, all_leaf h1, Ck.lv_one, if_pos hk]
    exact leaf_fit hd h2 (by omega)
  · obtain ⟨x, y, h1, _⟩ := hg.op hk
    rw [tuples_op hk h1, all_op h1, Ck.lv_app, Ck.lv_app, Ck.lv_one, if_neg hk, List.append_nil]
    exact join_fit (ih x (by rw [h1]; simp) (hg.kid (by rw [h1]; simp))) (ih y (by rw [h1]; simp) (hg.kid (by rw [h1]; simp)))
/-- the two sides of an operator are apart -/
theorem apart_of {S : List Int} {L : List (List (List Vl))} {b : Tr} (hL : ∀ u ∈ L, Fit S u) (hn : ∀ i ∈ S, i ∉ Ck.lv (Tr.all b)) : Hs.apart L (Tr.seen b) = true := by
  refine decide_eq_true fun t ht i hi h64 hb => ?_
  by_cases he : Mt.row t i = []
  · rw [he]; rfl
  · exact absurd (Ck.seen_lv b i hb) (hn _ ((hL t ht).own i he))
theorem lv_apart {a x y : Tr} (hk : a.ks = [x, y]) (hn : (Ck.lv (Tr.all a)).Nodup) : (Ck.lv (Tr.all x)).Nodup ∧ (Ck.lv (Tr.all y)).Nodup ∧ (∀ i ∈ Ck.lv (Tr.all x), i ∉ Ck.lv (Tr.all y)) ∧ ∀ i ∈ Ck.lv (Tr.all y), i ∉ Ck.lv (Tr.all x) := by
  rw [all_op hk, Ck.lv_app, Ck.lv_app, List.nodup_append] at hn
  obtain ⟨h1, h2, h3⟩ := hn
  have h4 := (List.nodup_append.1 h2).1
  exact ⟨h1, h4, fun i hi hj => h3 i hi i (List.mem_append_left _ hj) rfl, fun i hi hj => h3 i hj i (List.mem_append_left _ hi) rfl⟩
/-- a tree of a query without an error, its data right, joined to at most M -/
structure Ok (M : Nat) (cols : List Int) (d : List (List (List Vl))) (a : Tr) : Prop where
  good : Ck.Good cols a
  nodup : (Ck.lv (Tr.all a)).Nodup
  most : prod d (Tr.all a) ≤ M
  fine : Fine d
  len : d.length = cols.length
  size : Tr.size a ≤ 1000
theorem Ok.kids {M : Nat} {cols : List Int} {d : List (List (List Vl))} {a x y : Tr} (h : Ok M cols d a) (hk : a.k ≠ 0) (hks : a.ks = [x, y]) : Ok M cols d x ∧ Ok M cols d y := by
  obtain ⟨h1, h2, _, _⟩ := lv_apart hks h.nodup
  have hm := h.most
  rw [prod_op hks hk] at hm
  have hx := prod_pos d (Tr.all x)
  have hy := prod_pos d (Tr.all y)
  have hs := h.size
  rw [Tr.size_at, hks] at hs
  simp only [Tr.sizes] at hs
  exact ⟨⟨h.good.kid (by rw [hks]; simp), h1, Nat.le_trans (Nat.le_mul_of_pos_right _ hy) hm, h.fine, h.len, by omega⟩, ⟨h.good.kid (by rw [hks]; simp), h2, Nat.le_trans (Nat.le_mul_of_pos_left _ hx) hm, h.fine, h.len, by omega⟩⟩
theorem Ok.few {M : Nat} {cols : List Int} {d : List (List (List Vl))} {a : Tr} (h : Ok M cols d a) (hM : M ≤ 10000) : Ns.Few 10000 100 (tuples d a) :=
  ⟨Nat.le_trans (tuples_le d h.len a h.good) (Nat.le_trans h.most hM), fun t ht => by
    have hf := tuples_fit h.fine h.len a h.good t ht
    exact ⟨by have := hf.len; omega, fun x hx => by have := hf.row x hx; omega⟩⟩
theorem Ok.apart {M : Nat} {cols : List Int} {d : List (List (List Vl))} {a x y : Tr} (h : Ok M cols d a) (hks : a.ks = [x, y]) : Hs.apart (tuples d x) (Tr.seen y) = true ∧ Hs.apart (tuples d y) (Tr.seen x) = true := by
  obtain ⟨_, _, h3, h4⟩ := lv_apart hks h.nodup
  exact ⟨apart_of (tuples_fit h.fine h.len x (h.good.kid (by rw [hks]; simp))) h3, apart_of (tuples_fit h.fine h.len y (h.good.kid (by rw [hks]; simp))) h4⟩
theorem Ok.hash {M : Nat} {cols : List Int} {d : List (List (List Vl))} {a x y : Tr} (h : Ok M cols d a) (hk : a.k ≠ 0) (hks : a.ks = [x, y]) : Hs.join a.k a.cs (Tr.seen x) (Tr.seen y) (tuples d x) (tuples d y) = tuples d a := by
  rw [Hs.join_same (h.apart hks).1 (h.apart hks).2, tuples_op hk hks]
theorem fits_fine {cols : List Int} {d : List (List (List Vl))} (h : Ck.fitAll cols d = true) : ∀ (j : Nat) (rs : List (List Vl)) (m : Int), d[j]? = some rs → cols[j]? = some m → rs.length ≤ 1000 ∧ ∀ r ∈ rs, (r.length : Int) = m := by
  intro j rs m h1 h2
  unfold Ck.fitAll at h
  have h3 := List.all_eq_true.1 h (rs, m) (by
    have h4 : (d.zip cols)[j]? = some (rs, m) := by rw [List.getElem?_zip_eq_some]; exact ⟨h1, h2⟩
    exact List.mem_of_getElem? h4)
  unfold Ck.fits at h3
  rw [Bool.and_eq_true, decide_eq_true_iff] at h3
  refine ⟨h3.1, fun r hr => ?_⟩
  have h5 := List.all_eq_true.1 h3.2 r hr
  rw [Bool.and_eq_true, decide_eq_true_iff] at h5
  exact h5.1
/-- data without an error -/
structure Sound (cols : List Int) (d : List (List (List Vl))) (a : Tr) : Prop where
  wide : cols.length ≤ 64
  len : d.length = cols.length
  col : ∀ x ∈ cols, 1 ≤ x ∧ x ≤ 4
  good : Ck.Good cols a
  nodup : (Ck.lv (Tr.all a)).Nodup
  rows : ∀ (j : Nat) (rs : List (List Vl)) (m : Int), d[j]? = some rs → cols[j]? = some m → rs.length ≤ 1000 ∧ ∀ r ∈ rs, (r.length : Int) = m
theorem sound_of {cols : List Int} {d : List (List (List Vl))} {a : Tr} (h : Ck.data cols a d = 0) : Sound cols d a := by
  unfold Ck.data at h
  split at h
  · rename_i hq; exact absurd h hq
  · rename_i hq
    split at h
    · simp at h
    · rename_i hl
      split at h
      · rename_i hf
        obtain ⟨h1, h2, h3⟩ := Ck.query_right (Decidable.not_not.1 hq)
        obtain ⟨h4, h5⟩ := Ck.tour_zero.1 h3
        have h6 := Ck.run_lv h4
        rw [h6, List.nil_append] at h5
        exact ⟨h1, Decidable.not_not.1 hl, h2, Ck.good_of h3, h5, fits_fine hf⟩
      · simp at h
theorem Sound.fine {cols : List Int} {d : List (List (List Vl))} {a : Tr} (h : Sound cols d a) (hw : ∀ rs ∈ d, ∀ x ∈ rs, ∀ v ∈ x, -9223372036854775808 ≤ v.2 ∧ v.2 ≤ 9223372036854775807) : Fine d := by
  refine ⟨by have := h.len; have := h.wide; omega, fun rs hrs x hx => ⟨?_, hw rs hrs x hx⟩⟩
  obtain ⟨j, hj, rfl⟩ := List.mem_iff_getElem.1 hrs
  have hc : j < cols.length := by have := h.len; omega
  have h1 := (h.rows j _ _ (List.getElem?_eq_getElem hj) (List.getElem?_eq_getElem hc)).2 x hx
  have h2 := h.col _ (List.getElem_mem hc)
  omega
theorem Sound.ok {M : Nat} {cols : List Int} {d : List (List (List Vl))} {a : Tr} (h : Sound cols d a) (hw : ∀ rs ∈ d, ∀ x ∈ rs, ∀ v ∈ x, -9223372036854775808 ≤ v.2 ∧ v.2 ≤ 9223372036854775807) (hm : prod d (Tr.all a) ≤ M) (hs : Tr.size a ≤ 1000) : Ok M cols d a :=
  ⟨h.good, h.nodup, hm, h.fine hw, h.len, hs⟩
end Ex
end Go.Proofs.YtpaaibghfhnicaaGreatDoor
