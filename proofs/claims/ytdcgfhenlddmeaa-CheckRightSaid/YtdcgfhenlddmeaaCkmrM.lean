/-
  WHAT A RIGHT QUERY's TREES ARE: plain mathematics.
-/
import Derived.Test.YtdcgfhenlddmeaaCkmmM
namespace Go.Proofs.Ytdcgfhenlddmeaa
namespace Ck
/-- the leaves' tables -/
def lv (l : List Tr) : List Int := (l.filter fun x => x.k == 0).map Tr.t
theorem lv_app (l m : List Tr) : lv (l ++ m) = lv l ++ lv m := by simp [lv]
theorem lv_one (t : Tr) : lv [t] = if t.k = 0 then [t.t] else [] := by
  unfold lv
  by_cases h : t.k = 0 <;> simp [h]
theorem run_lv {cols : List Int} {l : List Tr} : ∀ {came : List Int} {c : Nat}, (run cols l came c).1 = 0 → (run cols l came c).2 = came ++ lv l := by
  induction l with
  | nil => intro came c _; simp [run, lv]
  | cons x r ih =>
    intro came c h
    rw [run] at h ⊢
    split at h
    · rename_i hw; exact absurd h hw
    · rename_i hw
      rw [if_neg hw, ih h]
      rw [show x :: r = [x] ++ r from rfl, lv_app, lv_one]
      unfold comes
      split <;> simp
/-- each tree of a right query's tour is right, as it stands -/
def Good (cols : List Int) (a : Tr) : Prop := ∀ x ∈ Tr.all a, what cols x 0 = 0
theorem good_of {cols : List Int} {a : Tr} (h : tour cols a = 0) : Good cols a := fun x hx => by
  obtain ⟨c', _, h2⟩ := run_each (tour_zero.1 h).1 x hx
  exact what_less h2 (Nat.zero_le _)
theorem Good.kid {cols : List Int} {a b : Tr} (h : Good cols a) (hb : b ∈ a.ks) : Good cols b := fun x hx => h x (by rw [Tr.all_at]; exact List.mem_append_left _ (mem_alls hb x hx))
theorem Good.own {cols : List Int} {a : Tr} (h : Good cols a) : what cols a 0 = 0 := h a (by rw [Tr.all_at]; simp)
theorem Good.leaf {cols : List Int} {a : Tr} (h : Good cols a) (hk : a.k = 0) : a.ks = [] ∧ a.cs = [] ∧ 0 ≤ a.t ∧ a.t < cols.length := by
  have h1 := what_alone h.own
  obtain ⟨h2, h3⟩ := alone_leaf h1 hk
  obtain ⟨h4, h5⟩ := alone_fine h1 hk
  exact ⟨h2, h3, h4, h5⟩
theorem Good.op {cols : List Int} {a : Tr} (h : Good cols a) (hk : a.k ≠ 0) : ∃ x y, a.ks = [x, y] ∧ a.cs ≠ [] ∧ (a.k = 0 ∨ 1 ≤ a.k) ∧ conjs cols (Tr.seen x) (Tr.seen y) a.cs = 0 := by
  have h1 := what_alone h.own
  obtain ⟨h2, h3, h4, _, _⟩ := alone_kids h1 hk
  obtain ⟨x, y, hks⟩ : ∃ x y, a.ks = [x, y] := by
    match hkk : a.ks with
    | [] => rw [hkk] at h2; simp at h2
    | [_] => rw [hkk] at h2; simp at h2
    | [x, y] => exact ⟨x, y, rfl⟩
    | _ :: _ :: _ :: _ => rw [hkk] at h2; simp at h2
  refine ⟨x, y, hks, fun e => h3 (by rw [e]; rfl), .inr h4, ?_⟩
  have h5 := h.own
  unfold what at h5
  rw [if_neg (not_not_intro h1), if_neg hk] at h5
  have e0 : ksn a 0 = Tr.seen x := by unfold ksn; rw [hks]; rfl
  have e1 : ksn a 1 = Tr.seen y := by unfold ksn; rw [hks]; rfl
  rwa [e0, e1] at h5
mutual
theorem seen_lv : ∀ (a : Tr) (j : Nat), (Tr.seen a).testBit j = true → (j : Int) ∈ lv (Tr.all a)
  | .mk k t h cs ks => by
    intro j hj
    have hin : ∀ i : Int, i ∈ lv (Tr.alls ks) → i ∈ lv (Tr.all (.mk k t h cs ks)) := fun i hi => by
      rw [Tr.all_at, lv_app]; exact List.mem_append_left _ hi
    rw [Tr.seen] at hj
    split at hj
    · rename_i hk
      rw [St.testBit_ofN] at hj
      simp at hj
      rw [Tr.all_at, lv_app, lv_one, if_pos (by exact hk)]
      exact List.mem_append_right _ (by rw [hj.2]; simp [Tr.t])
    · split at hj
      · exact hin _ (seen1_lv ks j hj)
      · exact hin _ (seens_lv ks j hj)
theorem seen1_lv : ∀ (l : List Tr) (j : Nat), (Tr.seen1 l).testBit j = true → (j : Int) ∈ lv (Tr.alls l)
  | [] => by intro j hj; rw [Tr.seen1] at hj; simp at hj
  | a :: r => by intro j hj; rw [Tr.seen1] at hj; rw [Tr.alls, lv_app]; exact List.mem_append_left _ (seen_lv a j hj)
theorem seens_lv : ∀ (l : List Tr) (j : Nat), (Tr.seens l).testBit j = true → (j : Int) ∈ lv (Tr.alls l)
  | [] => by intro j hj; rw [Tr.seens] at hj; simp at hj
  | a :: r => by
    intro j hj
    rw [Tr.seens, Nat.testBit_or, Bool.or_eq_true] at hj
    rw [Tr.alls, lv_app]
    rcases hj with hj | hj
    · exact List.mem_append_left _ (seen_lv a j hj)
    · exact List.mem_append_right _ (seens_lv r j hj)
end
theorem bit_ne {x j : Nat} (h : x.testBit j = true) : x ≠ 0 := fun e => by rw [e] at h; simp at h
theorem seen_some {cols : List Int} (hn : cols.length ≤ 64) (a : Tr) : Good cols a → ∃ j, (Tr.seen a).testBit j = true := by
  refine Tr.ind (P := fun a => Good cols a → ∃ j, (Tr.seen a).testBit j = true) (fun a ih => ?_) a
  intro hg
  by_cases hk : a.k = 0
  · obtain ⟨_, _, h1, h2⟩ := hg.leaf hk
    refine ⟨a.t.toNat, ?_⟩
    rw [Tr.seen_at, if_pos hk, St.testBit_ofN]
    simp
    omega
  · obtain ⟨x, y, hks, _, _, _⟩ := hg.op hk
    obtain ⟨j, hj⟩ := ih x (by rw [hks]; simp) (hg.kid (by rw [hks]; simp))
    refine ⟨j, ?_⟩
    rw [Tr.seen_at, if_neg hk, hks]
    split
    · rw [Tr.seen1]; exact hj
    · rw [Tr.seens, Nat.testBit_or, hj]; rfl
theorem all_two {a x y : Tr} (h : a.ks = [x, y]) : Tr.all a = Tr.all x ++ (Tr.all y ++ [a]) := by
  rw [Tr.all_at, h, Tr.alls, Tr.alls, Tr.alls]; simp
theorem kids_apart {a x y : Tr} (h : a.ks = [x, y]) (hn : (lv (Tr.all a)).Nodup) : Tr.seen x &&& Tr.seen y = 0 := by
  refine Nat.eq_of_testBit_eq fun j => ?_
  rw [Nat.testBit_and, Nat.zero_testBit]
  by_cases hx : (Tr.seen x).testBit j = true
  · by_cases hy : (Tr.seen y).testBit j = true
    · exfalso
      rw [all_two h, lv_app, lv_app] at hn
      exact (List.nodup_append.1 hn).2.2 _ (seen_lv x j hx) _ (List.mem_append_left _ (seen_lv y j hy)) rfl
    · simp [hy]
  · simp [hx]
theorem all_count {cols : List Int} (a : Tr) : Good cols a → (Tr.all a).length + 1 = 2 * (lv (Tr.all a)).length := by
  refine Tr.ind (P := fun a => Good cols a → (Tr.all a).length + 1 = 2 * (lv (Tr.all a)).length) (fun a ih => ?_) a
  intro hg
  by_cases hk : a.k = 0
  · obtain ⟨h1, _, _, _⟩ := hg.leaf hk
    rw [Tr.all_at, h1, Tr.alls, List.nil_append, lv_one, if_pos hk]; rfl
  · obtain ⟨x, y, hks, _, _, _⟩ := hg.op hk
    have e1 := ih x (by rw [hks]; simp) (hg.kid (by rw [hks]; simp))
    have e2 := ih y (by rw [hks]; simp) (hg.kid (by rw [hks]; simp))
    rw [all_two hks, lv_app, lv_app, lv_one, if_neg hk]
    simp only [List.length_append, List.length_singleton, List.length_nil]
    omega
mutual
theorem tables_cols : ∀ (p : Pd) (j : Nat), (Pr.tables p).testBit j = true → ∃ c ∈ Pr.cols p, c.1 = (j : Int)
  | .mk f ps => by
    intro j hj
    have key : ∀ x : Tm, (Te.tables x).testBit j = true → ∃ c ∈ Te.cols x, c.1 = (j : Int) := fun x hx => by
      unfold Te.tables at hx
      unfold Te.cols
      split at hx
      · rename_i hk
        rw [St.testBit_ofN] at hx
        simp at hx
        exact ⟨(x.t, x.c), by rw [if_pos hk]; simp, hx.2.symm⟩
      · simp at hx
    rw [Pr.tables, Nat.testBit_or, Nat.testBit_or, Bool.or_eq_true, Bool.or_eq_true] at hj
    rw [Pr.cols]
    rcases hj with (hj | hj) | hj
    · obtain ⟨c, h1, h2⟩ := key _ hj; exact ⟨c, by simp [h1], h2⟩
    · obtain ⟨c, h1, h2⟩ := key _ hj; exact ⟨c, by simp [h1], h2⟩
    · obtain ⟨c, h1, h2⟩ := tabless_cols ps j hj; exact ⟨c, by simp [h1], h2⟩
theorem tabless_cols : ∀ (l : List Pd) (j : Nat), (Pr.tabless l).testBit j = true → ∃ c ∈ Pr.colss l, c.1 = (j : Int)
  | [] => by intro j hj; rw [Pr.tabless] at hj; simp at hj
  | p :: r => by
    intro j hj
    rw [Pr.tabless, Nat.testBit_or, Bool.or_eq_true] at hj
    rw [Pr.colss]
    rcases hj with hj | hj
    · obtain ⟨c, h1, h2⟩ := tables_cols p j hj; exact ⟨c, by simp [h1], h2⟩
    · obtain ⟨c, h1, h2⟩ := tabless_cols r j hj; exact ⟨c, by simp [h1], h2⟩
end
/-- what a conjunct that may be names -/
theorem conj_good {cols : List Int} {l r : Nat} {p : Pd} (h : conj cols l r p = 0) : Pr.tables p ||| (l ||| r) = l ||| r ∧ Pr.tables p &&& l ≠ 0 ∧ Pr.tables p &&& r ≠ 0 := by
  unfold conj at h
  split at h
  · simp at h
  · split at h
    · simp at h
    · rename_i h2
      split at h
      · simp at h
      · rename_i h3
        refine ⟨?_, fun e => h3 (.inl e), fun e => h3 (.inr e)⟩
        refine Nat.eq_of_testBit_eq fun j => ?_
        rw [Nat.testBit_or]
        by_cases ht : (Pr.tables p).testBit j = true
        · obtain ⟨c, hc, hcj⟩ := tables_cols p j ht
          have ho : out cols l r c = false := by
            rw [Bool.eq_false_iff]; intro hh; exact h2 (List.any_eq_true.2 ⟨c, hc, hh⟩)
          unfold out at ho
          rw [Bool.or_eq_false_iff, Bool.and_eq_false_iff] at ho
          have hb : (l ||| r).testBit j = true := by
            rw [Nat.testBit_or, Bool.or_eq_true]
            rcases ho.1 with hh | hh
            · left
              simp only [Bool.not_eq_false'] at hh
              unfold St.hasB at hh
              simp only [Bool.and_eq_true] at hh
              rw [hcj, Int.toNat_natCast] at hh
              exact hh.2.2
            · right
              simp only [Bool.not_eq_false'] at hh
              unfold St.hasB at hh
              simp only [Bool.and_eq_true] at hh
              rw [hcj, Int.toNat_natCast] at hh
              exact hh.2.2
          rw [hb, Bool.or_true]
        · simp [ht]
/-- how many tables there are -/
theorem pop_lv {l : List Int} (hn : l.Nodup) (hb : ∀ i ∈ l, 0 ≤ i ∧ i < 64) : St.pop 64 (St.ofN l) = l.length := by
  rw [← St.memb_length]
  have h1 : (St.memb (St.ofN l)).Nodup := by
    unfold St.memb St.membTo
    exact List.Pairwise.filter _ List.nodup_range
  have h2 : (l.map Int.toNat).Nodup := by
    rw [List.Nodup, List.pairwise_map]
    exact hn.imp_of_mem fun {x y} hx hy hxy e => hxy (by have := hb x hx; have := hb y hy; omega)
  have hp : (St.memb (St.ofN l)).Perm (l.map Int.toNat) := (List.perm_ext_iff_of_nodup h1 h2).2 fun j => by
    rw [St.mem_memb, St.testBit_ofN, List.mem_map]
    constructor
    · rintro ⟨h, hj⟩
      simp at hj
      exact ⟨(j : Int), hj.2, by simp⟩
    · rintro ⟨i, hi, rfl⟩
      have := hb i hi
      refine ⟨by omega, ?_⟩
      simp
      refine ⟨by omega, ?_⟩
      rw [show max i 0 = i by omega]
      exact hi
  rw [hp.length_eq, List.length_map]
theorem tables_lv (a : Tr) : Tr.tables a = St.ofN (lv (Tr.all a)) := rfl
theorem lv_fine {cols : List Int} {a : Tr} (hn : cols.length ≤ 64) (hg : Good cols a) : ∀ i ∈ lv (Tr.all a), 0 ≤ i ∧ i < 64 := by
  intro i hi
  unfold lv at hi
  obtain ⟨x, hx, rfl⟩ := List.mem_map.1 hi
  rw [List.mem_filter] at hx
  obtain ⟨h1, h2⟩ := alone_fine (what_alone (hg x hx.1)) (by simpa using hx.2)
  omega
theorem tour_lv {cols : List Int} {a : Tr} (h : tour cols a = 0) : (lv (Tr.all a)).Nodup := by
  obtain ⟨h1, h2⟩ := tour_zero.1 h
  rw [run_lv h1] at h2
  simpa using h2
end Ck
end Go.Proofs.Ytdcgfhenlddmeaa
