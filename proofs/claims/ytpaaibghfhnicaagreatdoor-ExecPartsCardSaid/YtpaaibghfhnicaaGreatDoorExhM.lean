/-
  A TREE WITH HASH IN SOME OF ITS OPERATORS, as plain mathematics: it may be where the tree may be, and tells the same tuples.
-/
import Derived.Test.YtpaaibghfhnicaaGreatDoorExmM
namespace Go.Proofs.YtpaaibghfhnicaaGreatDoor
namespace Ex
mutual
def hashed : Nat → Tr → Tr
  | b, .mk k t h cs ks => if k = 0 then .mk k t h cs ks else .mk k t (b % 2 == 1) cs (hasheds (b / 2) (b / 3) ks)
def hasheds : Nat → Nat → List Tr → List Tr
  | _, _, [] => []
  | b, c, a :: r => hashed b a :: hasheds c c r
end
theorem hashed_leaf {a : Tr} (b : Nat) (h : a.k = 0) : hashed b a = a := by
  obtain ⟨k, t, h', cs, ks⟩ := a
  rw [hashed, if_pos (by exact h)]
theorem hashed_op {a x y : Tr} (b : Nat) (h : a.k ≠ 0) (hk : a.ks = [x, y]) : hashed b a = .mk a.k a.t (b % 2 == 1) a.cs [hashed (b / 2) x, hashed (b / 3) y] := by
  obtain ⟨k, t, h', cs, ks⟩ := a
  change ks = [x, y] at hk
  subst hk
  rw [hashed, if_neg (by exact h), hasheds, hasheds, hasheds]; rfl
theorem hashed_same {cols : List Int} {a : Tr} (hg : Ck.Good cols a) (b : Nat) : (hashed b a).k = a.k ∧ (hashed b a).t = a.t ∧ (hashed b a).cs = a.cs := by
  by_cases hk : a.k = 0
  · rw [hashed_leaf b hk]; exact ⟨rfl, rfl, rfl⟩
  · obtain ⟨x, y, h1, _⟩ := hg.op hk
    rw [hashed_op b hk h1]; exact ⟨rfl, rfl, rfl⟩
theorem tuples_hashed {cols : List Int} (d : List (List (List Vl))) (a : Tr) : Ck.Good cols a → ∀ b, tuples d (hashed b a) = tuples d a := by
  refine Tr.ind (P := fun a => Ck.Good cols a → ∀ b, tuples d (hashed b a) = tuples d a) (fun a ih => ?_) a
  intro hg b
  by_cases hk : a.k = 0
  · rw [hashed_leaf b hk]
  · obtain ⟨x, y, h1, _⟩ := hg.op hk
    rw [hashed_op b hk h1, tuples_op (a := .mk a.k a.t (b % 2 == 1) a.cs [hashed (b / 2) x, hashed (b / 3) y]) hk rfl, tuples_op hk h1, ih x (by rw [h1]; simp) (hg.kid (by rw [h1]; simp)), ih y (by rw [h1]; simp) (hg.kid (by rw [h1]; simp))]
    rfl
theorem seen_hashed {cols : List Int} (a : Tr) : Ck.Good cols a → ∀ b, Tr.seen (hashed b a) = Tr.seen a := by
  refine Tr.ind (P := fun a => Ck.Good cols a → ∀ b, Tr.seen (hashed b a) = Tr.seen a) (fun a ih => ?_) a
  intro hg b
  by_cases hk : a.k = 0
  · rw [hashed_leaf b hk]
  · obtain ⟨x, y, h1, _⟩ := hg.op hk
    rw [hashed_op b hk h1, Tr.seen_at, Tr.seen_at]
    change (if a.k = 0 then _ else if a.k = 3 ∨ a.k = 4 then Tr.seen1 [hashed (b / 2) x, hashed (b / 3) y] else Tr.seens [hashed (b / 2) x, hashed (b / 3) y]) = _
    rw [if_neg hk, if_neg hk, h1, Tr.seen1, Tr.seens, Tr.seens, Tr.seens, Tr.seen1, Tr.seens, Tr.seens, Tr.seens, ih x (by rw [h1]; simp) (hg.kid (by rw [h1]; simp)), ih y (by rw [h1]; simp) (hg.kid (by rw [h1]; simp))]
theorem size_hashed {cols : List Int} (a : Tr) : Ck.Good cols a → ∀ b, Tr.size (hashed b a) = Tr.size a := by
  refine Tr.ind (P := fun a => Ck.Good cols a → ∀ b, Tr.size (hashed b a) = Tr.size a) (fun a ih => ?_) a
  intro hg b
  by_cases hk : a.k = 0
  · rw [hashed_leaf b hk]
  · obtain ⟨x, y, h1, _⟩ := hg.op hk
    rw [hashed_op b hk h1, Tr.size_at, Tr.size_at]
    change 1 + Pr.sizes a.cs + Tr.sizes [hashed (b / 2) x, hashed (b / 3) y] = _
    rw [h1, Tr.sizes, Tr.sizes, Tr.sizes, Tr.sizes, Tr.sizes, Tr.sizes, ih x (by rw [h1]; simp) (hg.kid (by rw [h1]; simp)), ih y (by rw [h1]; simp) (hg.kid (by rw [h1]; simp))]
theorem prod_hashed {cols : List Int} (d : List (List (List Vl))) (a : Tr) : Ck.Good cols a → ∀ b, prod d (Tr.all (hashed b a)) = prod d (Tr.all a) := by
  refine Tr.ind (P := fun a => Ck.Good cols a → ∀ b, prod d (Tr.all (hashed b a)) = prod d (Tr.all a)) (fun a ih => ?_) a
  intro hg b
  by_cases hk : a.k = 0
  · rw [hashed_leaf b hk]
  · obtain ⟨x, y, h1, _⟩ := hg.op hk
    rw [hashed_op b hk h1, prod_op (a := .mk a.k a.t (b % 2 == 1) a.cs [hashed (b / 2) x, hashed (b / 3) y]) rfl hk, prod_op h1 hk, ih x (by rw [h1]; simp) (hg.kid (by rw [h1]; simp)), ih y (by rw [h1]; simp) (hg.kid (by rw [h1]; simp))]
theorem what_hashed {cols : List Int} {a x y : Tr} (hk : a.k ≠ 0) (h1 : a.ks = [x, y]) {x' y' : Tr} (hx : Tr.seen x' = Tr.seen x) (hy : Tr.seen y' = Tr.seen y) (z : Bool) (c : Nat) : Ck.what cols (.mk a.k a.t z a.cs [x', y']) c = Ck.what cols a c := by
  have e0 : Ck.ksn (.mk a.k a.t z a.cs [x', y']) 0 = Ck.ksn a 0 := by
    unfold Ck.ksn
    rw [h1]
    exact hx
  have e1 : Ck.ksn (.mk a.k a.t z a.cs [x', y']) 1 = Ck.ksn a 1 := by
    unfold Ck.ksn
    rw [h1]
    exact hy
  have e2 : ∀ n c, Ck.alone n (.mk a.k a.t z a.cs [x', y']) c = Ck.alone n a c := fun n c => by
    unfold Ck.alone
    change (if a.k < 0 ∨ 4 < a.k ∨ (a.k = 0 ∧ z = true) then (4 : Int) else if ([x', y'] : List Tr).length ≠ (if a.k = 0 then 0 else 2) then 7 else if (a.k = 0 ∧ a.cs.length ≠ 0) ∨ (a.k ≠ 0 ∧ a.cs.length = 0) ∨ 64 < c then 8 else if a.t < 0 ∨ (if a.k = 0 then (n : Int) else 1) ≤ a.t then 5 else 0) = _
    rw [h1]
    simp only [hk, false_and]
    rfl
  unfold Ck.what
  rw [e0, e1, e2]
  rfl
theorem run_hashed {cols : List Int} (a : Tr) : Ck.Good cols a → ∀ (b : Nat) (m m' : List Tr), (∀ came c, Ck.run cols m' came c = Ck.run cols m came c) → ∀ came c, Ck.run cols (Tr.all (hashed b a) ++ m') came c = Ck.run cols (Tr.all a ++ m) came c := by
  refine Tr.ind (P := fun a => Ck.Good cols a → ∀ (b : Nat) (m m' : List Tr), (∀ came c, Ck.run cols m' came c = Ck.run cols m came c) → ∀ came c, Ck.run cols (Tr.all (hashed b a) ++ m') came c = Ck.run cols (Tr.all a ++ m) came c) (fun a ih => ?_) a
  intro hg b m m' hm came c
  have hone : ∀ (t t' : Tr), (∀ c, Ck.what cols t' c = Ck.what cols t c) → (∀ z, Ck.comes t' z = Ck.comes t z) → t'.cs = t.cs → ∀ came c, Ck.run cols ([t'] ++ m') came c = Ck.run cols ([t] ++ m) came c := fun t t' h1 h2 h3 came c => by
    show Ck.run cols (t' :: m') came c = Ck.run cols (t :: m) came c
    rw [Ck.run, Ck.run, h1, h2, h3, hm]
  by_cases hk : a.k = 0
  · rw [hashed_leaf b hk, all_leaf (hg.leaf hk).1]
    exact hone a a (fun _ => rfl) (fun _ => rfl) rfl came c
  · obtain ⟨x, y, h1, _⟩ := hg.op hk
    have gx := hg.kid (b := x) (by rw [h1]; simp)
    have gy := hg.kid (b := y) (by rw [h1]; simp)
    rw [hashed_op b hk h1, all_op (a := .mk a.k a.t (b % 2 == 1) a.cs [hashed (b / 2) x, hashed (b / 3) y]) rfl, all_op h1, List.append_assoc, List.append_assoc, List.append_assoc, List.append_assoc]
    refine ih x (by rw [h1]; simp) gx _ _ _ (fun came c => ?_) came c
    refine ih y (by rw [h1]; simp) gy _ _ _ (fun came c => ?_) came c
    exact hone a _ (fun c => what_hashed hk h1 (seen_hashed x gx _) (seen_hashed y gy _) _ c) (fun z => rfl) rfl came c
theorem data_hashed {cols : List Int} {d : List (List (List Vl))} {a : Tr} (hg : Ck.Good cols a) (b : Nat) : Ck.data cols (hashed b a) d = Ck.data cols a d := by
  have h1 : Ck.run cols (Tr.all (hashed b a)) [] 0 = Ck.run cols (Tr.all a) [] 0 := by
    have h := run_hashed a hg b [] [] (fun _ _ => rfl) [] 0
    rwa [List.append_nil, List.append_nil] at h
  have h2 : Ck.query cols (hashed b a) = Ck.query cols a := by
    unfold Ck.query Ck.tour
    rw [h1]
  unfold Ck.data
  rw [h2]
theorem rows_hashed {cols : List Int} {d : List (List (List Vl))} {a : Tr} (hg : Ck.Good cols a) (b : Nat) : rows cols (hashed b a) d = rows cols a d := by
  unfold rows
  rw [tuples_hashed d a hg b, seen_hashed a hg b]
/-- data of which the tables that do not stand in the tree are none -/
def less (s : Nat) (d : List (List (List Vl))) : List (List (List Vl)) := (List.range d.length).map fun i : Nat => if St.hasB s (i : Int) then (d[i]?).getD [] else []
theorem less_length (s : Nat) (d : List (List (List Vl))) : (less s d).length = d.length := by simp [less]
theorem less_at (s : Nat) (d : List (List (List Vl))) {i : Nat} (h : i < d.length) : (less s d)[i]? = some (if St.hasB s (i : Int) then (d[i]?).getD [] else []) := by
  unfold less
  rw [List.getElem?_map, List.getElem?_range h]; rfl
theorem tables_has {cols : List Int} (hc : cols.length ≤ 64) {a b : Tr} (hb : b ∈ Tr.all a) (hk : b.k = 0) (h : 0 ≤ b.t ∧ b.t < cols.length) : St.hasB (Tr.tables a) b.t = true := by
  have hm : b.t ∈ ((Tr.all a).filter fun x => x.k == 0).map Tr.t := List.mem_map.2 ⟨b, List.mem_filter.2 ⟨hb, by simp [hk]⟩, rfl⟩
  unfold St.hasB Tr.tables
  rw [St.testBit_ofN]
  have e : ((b.t.toNat : Nat) : Int) = b.t := Int.toNat_of_nonneg h.1
  simp only [Bool.and_eq_true, decide_eq_true_eq]
  refine ⟨h.1, by omega, ?_⟩
  simp only [e]
  first
    | exact ⟨by omega, hm⟩
    | (simp; exact ⟨by omega, hm⟩)
theorem leaf_less {d d' : List (List (List Vl))} {t : Int} (h : d'[t.toNat]? = d[t.toNat]?) : leaf t d' = leaf t d := by unfold leaf; rw [h]
/-- what a tree tells hangs on the tables of its leaves alone -/
theorem tuples_less {cols : List Int} {d d' : List (List (List Vl))} (a : Tr) : Ck.Good cols a → (∀ b ∈ Tr.all a, b.k = 0 → d'[b.t.toNat]? = d[b.t.toNat]?) → tuples d' a = tuples d a := by
  refine Tr.ind (P := fun a => Ck.Good cols a → (∀ b ∈ Tr.all a, b.k = 0 → d'[b.t.toNat]? = d[b.t.toNat]?) → tuples d' a = tuples d a) (fun a ih => ?_) a
  intro hg h
  by_cases hk : a.k = 0
  · rw [tuples_leaf hk, tuples_leaf hk]
    exact leaf_less (h a (by rw [Tr.all_at]; simp) hk)
  · obtain ⟨x, y, h1, _⟩ := hg.op hk
    rw [tuples_op hk h1, tuples_op hk h1, ih x (by rw [h1]; simp) (hg.kid (by rw [h1]; simp)) fun b hb => h b (by rw [all_op h1]; exact List.mem_append_left _ hb), ih y (by rw [h1]; simp) (hg.kid (by rw [h1]; simp)) fun b hb => h b (by rw [all_op h1]; exact List.mem_append_right _ (List.mem_append_left _ hb))]
end Ex
end Go.Proofs.YtpaaibghfhnicaaGreatDoor
