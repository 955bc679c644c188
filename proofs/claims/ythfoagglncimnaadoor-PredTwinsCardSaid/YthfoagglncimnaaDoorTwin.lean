/-
  THE PLAIN MATHEMATICS OF TWINS: rows of tables that are not named are of no matter.
-/
import Derived.Test.YthfoagglncimnaaDoorPrd
namespace Go.Proofs.YthfoagglncimnaaDoor
namespace Pr
def twinRow (s : Nat) (rs os : List (List Vl)) (i : Nat) : List Vl := if s.testBit i then rs.getD i [] else os.getD i []
def twin (s : Nat) (rs os : List (List Vl)) : Nat → List (List Vl) | 0 => [] | n + 1 => twin s rs os n ++ [twinRow s rs os n]
theorem twin_len (s : Nat) (rs os : List (List Vl)) : ∀ n, (twin s rs os n).length = n
  | 0 => rfl
  | n + 1 => by rw [twin, List.length_append, twin_len s rs os n]; rfl
theorem twin_at (s : Nat) (rs os : List (List Vl)) : ∀ n i, i < n → (twin s rs os n)[i]? = some (twinRow s rs os i)
  | 0, i, h => by omega
  | n + 1, i, h => by
    rw [twin]
    by_cases e : i < n
    · rw [List.getElem?_append_left (by rw [twin_len]; exact e)]; exact twin_at s rs os n i e
    · have : i = n := by omega
      subst this
      rw [List.getElem?_append_right (by rw [twin_len]; exact Nat.le_refl _), twin_len, Nat.sub_self]; rfl
theorem twin_mem {s : Nat} {rs os : List (List Vl)} {n k : Nat} (h1 : ∀ r ∈ rs, r.length ≤ k) (h2 : ∀ r ∈ os, r.length ≤ k) : ∀ r ∈ twin s rs os n, r.length ≤ k := by
  induction n with
  | zero => intro r h; simp [twin] at h
  | succ n ih =>
    intro r h
    rw [twin, List.mem_append] at h
    rcases h with h | h
    · exact ih r h
    · simp at h
      subst h
      have key : ∀ l : List (List Vl), (∀ r ∈ l, r.length ≤ k) → (l.getD n []).length ≤ k := by
        intro l hl
        rw [List.getD]
        cases hx : l[n]? with
        | none => simp
        | some y => exact hl y (List.mem_of_getElem? hx)
      unfold twinRow
      split
      · exact key rs h1
      · exact key os h2
theorem col_getD (t : Nat) (c : Int) (rs : List (List Vl)) : Te.col t c rs = (Te.at_ (rs.getD t []) c).getD Te.nul := by
  unfold Te.col
  rw [Te.at_nat, List.getD]
  cases rs[t]? with
  | none => simp [Te.at_]
  | some r => rfl
theorem col_twin {s : Nat} {rs os : List (List Vl)} {t c : Int} (hl : rs.length ≤ 64) (h : ∀ j : Nat, t = j → j < 64 → s.testBit j = true) : Te.col t c (twin s rs os 64) = Te.col t c rs := by
  by_cases ht : 0 ≤ t ∧ t < 64
  · obtain ⟨j, rfl⟩ := Int.eq_ofNat_of_zero_le ht.1
    have hj : j < 64 := by omega
    rw [col_getD, col_getD, List.getD, twin_at s rs os 64 j hj]
    unfold twinRow
    rw [if_pos (h j rfl hj)]
    rfl
  · rw [Te.col_out (by rw [twin_len]; omega), Te.col_out (by omega)]
theorem val_twin {s : Nat} {rs os : List (List Vl)} {x : Tm} (hl : rs.length ≤ 64) (h : ∀ j : Nat, (Te.tables x).testBit j = true → s.testBit j = true) : Te.val x (twin s rs os 64) = Te.val x rs := by
  by_cases hk : x.k = 1
  · rw [Te.val_col hk, Te.val_col hk]
    refine col_twin hl fun j hj hlt => h j ?_
    unfold Te.tables
    rw [if_pos hk, St.testBit_ofN]
    simp [hlt, hj]
  · rw [Te.val_other hk, Te.val_other hk]
theorem made_twin {s : Nat} {rs os : List (List Vl)} {f : Pf} {l : List Int} (hl : rs.length ≤ 64) (ha : ∀ j : Nat, (Te.tables f.a).testBit j = true → s.testBit j = true) (hb : ∀ j : Nat, (Te.tables f.b).testBit j = true → s.testBit j = true) :
    made f (twin s rs os 64) l = made f rs l := by
  unfold made
  rw [val_twin hl ha, val_twin hl hb]
mutual
theorem of_twin {s : Nat} {rs os : List (List Vl)} (hl : rs.length ≤ 64) : ∀ p : Pd, (∀ j : Nat, (tables p).testBit j = true → s.testBit j = true) → of (twin s rs os 64) p = of rs p
  | .mk f ps, h => by
    rw [of, of]
    rw [tables] at h
    rw [ofs_twin hl ps (fun j hj => h j (by rw [Nat.testBit_or, hj, Bool.or_true]))]
    exact made_twin hl (fun j hj => h j (by rw [Nat.testBit_or, Nat.testBit_or, hj]; rfl)) (fun j hj => h j (by rw [Nat.testBit_or, Nat.testBit_or, hj, Bool.or_true]; rfl))
theorem ofs_twin {s : Nat} {rs os : List (List Vl)} (hl : rs.length ≤ 64) : ∀ l : List Pd, (∀ j : Nat, (tabless l).testBit j = true → s.testBit j = true) → ofs (twin s rs os 64) l = ofs rs l
  | [], _ => by rw [ofs, ofs]
  | p :: r, h => by
    rw [ofs, ofs]
    rw [tabless] at h
    rw [of_twin hl p (fun j hj => h j (by rw [Nat.testBit_or, hj]; rfl)), ofs_twin hl r (fun j hj => h j (by rw [Nat.testBit_or, hj, Bool.or_true]))]
end
end Pr
end Go.Proofs.YthfoagglncimnaaDoor
