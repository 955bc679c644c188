/-
  DATA WITH THE TABLES OF THE TREE ALONE; a leaf's rows, as plain mathematics.
-/
import Derived.Test.YtpaaibghfhnicaaGreatDoorExhM
import Derived.Test.YtpaaibghfhnicaaGreatDoorExfM
namespace Go.Proofs.YtpaaibghfhnicaaGreatDoor
namespace Ex
/-- the leaves' tables have their rows -/
theorem less_leaf {cols : List Int} {d : List (List (List Vl))} {a : Tr} (hs : Sound cols d a) : ∀ b ∈ Tr.all a, b.k = 0 → (less (Tr.tables a) d)[b.t.toNat]? = d[b.t.toNat]? := fun b hb hk => by
  have h1 := Ck.alone_fine (Ck.what_alone (hs.good b hb)) hk
  have hlt : b.t.toNat < d.length := by have := hs.len; omega
  rw [less_at _ _ hlt, show ((b.t.toNat : Nat) : Int) = b.t from Int.toNat_of_nonneg h1.1, tables_has hs.wide hb hk h1, if_pos rfl, List.getElem?_eq_getElem hlt]
  rfl
theorem prod_eq {d d' : List (List (List Vl))} (hl : d'.length = d.length) : ∀ l : List Tr, (∀ b ∈ l, b.k = 0 → d'[b.t.toNat]? = d[b.t.toNat]?) → prod d' l = prod d l
  | [], _ => rfl
  | b :: r, h => by
    rw [prod, prod, prod_eq hl r fun x hx => h x (List.mem_cons_of_mem _ hx)]
    congr 1
    unfold cnt
    rw [hl]
    by_cases hk : b.k = 0
    · rw [h b List.mem_cons_self hk]
    · rw [if_neg (fun e => hk e.1), if_neg (fun e => hk e.1)]
theorem less_mem {s : Nat} {d : List (List (List Vl))} {rs : List (List Vl)} (h : rs ∈ less s d) : rs ∈ d ∨ rs = [] := by
  obtain ⟨i, hi, rfl⟩ := List.mem_map.1 h
  have hlt := List.mem_range.1 hi
  by_cases hs : St.hasB s (i : Int) = true
  · rw [if_pos hs, List.getElem?_eq_getElem hlt]; exact .inl (List.getElem_mem hlt)
  · rw [if_neg hs]; exact .inr rfl
theorem less_data {cols : List Int} {d : List (List (List Vl))} {a : Tr} (s : Nat) (h : Ck.data cols a d = 0) : Ck.data cols a (less s d) = 0 := by
  unfold Ck.data at h ⊢
  by_cases hq : Ck.query cols a = 0
  · rw [if_neg (not_not_intro hq)] at h ⊢
    by_cases hl : d.length = cols.length
    · rw [if_neg (not_not_intro hl)] at h
      rw [if_neg (not_not_intro (by rw [less_length]; exact hl))]
      by_cases hf : Ck.fitAll cols d = true
      · rw [if_pos]
        unfold Ck.fitAll at hf ⊢
        rw [List.all_eq_true] at hf ⊢
        rintro ⟨rs, m⟩ hx
        obtain ⟨j, hj⟩ := List.getElem?_of_mem hx
        rw [List.getElem?_zip_eq_some] at hj
        obtain ⟨h1, h2⟩ := hj
        have hlt : j < d.length := by
          have := (List.getElem?_eq_some_iff.1 h1).1
          rwa [less_length] at this
        rw [less_at _ _ hlt] at h1
        by_cases hs : St.hasB s (j : Int) = true
        · rw [if_pos hs] at h1
          cases h1
          refine hf (_, m) (List.mem_of_getElem? (i := j) ?_)
          rw [List.getElem?_zip_eq_some]
          exact ⟨by rw [List.getElem?_eq_getElem hlt]; first | done | rfl, h2⟩
        · rw [if_neg hs] at h1
          cases h1
          simp [Ck.fits]
      · rw [if_neg hf] at h; simp at h
    · rw [if_pos hl] at h; simp at h
  · rw [if_pos hq] at h; exact absurd h hq
theorem less_run {cols : List Int} {d : List (List (List Vl))} {a : Tr} (h : Ck.data cols a d = 0) : run cols a (less (Tr.tables a) d) = run cols a d := by
  have hs := sound_of h
  unfold run rows
  rw [if_pos h, if_pos (less_data _ h), tuples_less a hs.good (less_leaf hs)]
theorem less_ok {M : Nat} {cols : List Int} {d : List (List (List Vl))} {a : Tr} (h : Ck.data cols a d = 0) (hok : Ok M cols d a) (hw : ∀ rs ∈ d, ∀ x ∈ rs, ∀ v ∈ x, -9223372036854775808 ≤ v.2 ∧ v.2 ≤ 9223372036854775807) : Ok M cols (less (Tr.tables a) d) a :=
  (sound_of (less_data _ h)).ok (fun rs hrs => by
    rcases less_mem hrs with h1 | h1
    · exact hw rs h1
    · rw [h1]; intro x hx; simp at hx) (by rw [prod_eq (less_length _ _) _ (less_leaf (sound_of h))]; exact hok.most) hok.size
/-- how wide a row is -/
def wide (cols : List Int) (s k : Nat) : Nat := (Mt.flatTo [] s cols k).length
theorem wide_zero (cols : List Int) (s : Nat) : wide cols s 0 = 0 := rfl
theorem wide_succ (cols : List Int) (s k : Nat) : wide cols s (k + 1) = wide cols s k + (if s.testBit k then Mt.num cols k else 0) := by
  unfold wide
  rw [Mt.flatTo_succ, List.length_append]
  by_cases h : s.testBit k = true
  · rw [if_pos h, if_pos h, Mt.cut_length]
  · rw [if_neg h, if_neg h]; rfl
theorem flatTo_length (t : List (List Vl)) (s : Nat) (cols : List Int) (k : Nat) : (Mt.flatTo t s cols k).length = wide cols s k := by
  induction k with
  | zero => rfl
  | succ k ih =>
    rw [Mt.flatTo_succ, List.length_append, ih, wide_succ]
    by_cases h : s.testBit k = true
    · rw [if_pos h, if_pos h, Mt.cut_length]
    · rw [if_neg h, if_neg h]; rfl
theorem run_wide {cols : List Int} {d : List (List (List Vl))} {a : Tr} : ∀ r ∈ run cols a d, r.length = wide cols (Tr.seen a) cols.length := fun r hr => by
  unfold run at hr
  split at hr
  · obtain ⟨t, _, rfl⟩ := List.mem_map.1 hr
    exact flatTo_length t _ cols cols.length
  · simp at hr
theorem wide_le {cols : List Int} (hc : ∀ x ∈ cols, 1 ≤ x ∧ x ≤ 4) (s : Nat) : ∀ k, wide cols s k ≤ 4 * k
  | 0 => Nat.le_refl _
  | k + 1 => by
    have h1 := wide_le hc s k
    have h2 : Mt.num cols k ≤ 4 := by
      unfold Mt.num
      by_cases hk : k < cols.length
      · rw [List.getElem?_eq_getElem hk]
        have := hc _ (List.getElem_mem hk)
        show (cols[k]).toNat ≤ 4
        omega
      · rw [List.getElem?_eq_none (by omega)]; decide
    rw [wide_succ]
    split <;> omega
/-- a leaf tells its rows -/
theorem flat_leaf {cols : List Int} {t : Nat} {r : List Vl} (ht : t < cols.length) (h64 : cols.length ≤ 64) (hr : ((r.length : Nat) : Int) = cols[t]) : Mt.flat (List.replicate t [] ++ [r]) (St.ofN [(t : Int)]) cols = r := by
  have hb : ∀ k, (St.ofN [(t : Int)]).testBit k = decide (k = t) := fun k => by
    rw [St.testBit_ofN]
    by_cases e : k = t
    · subst e; simp; omega
    · rw [decide_eq_false e]
      simp
      omega
  have hrow : Mt.row (List.replicate t [] ++ [r]) t = r := by
    refine Mt.row_at ?_
    rw [List.getElem?_append_right (by simp)]
    simp
  have hnum : Mt.num cols t = r.length := by
    unfold Mt.num
    rw [List.getElem?_eq_getElem ht]
    show (cols[t]).toNat = _
    omega
  have key : ∀ k, Mt.flatTo (List.replicate t [] ++ [r]) (St.ofN [(t : Int)]) cols k = if t < k then r else [] := fun k => by
    induction k with
    | zero => rfl
    | succ k ih =>
      rw [Mt.flatTo_succ, ih, hb]
      by_cases e : k = t
      · subst e
        rw [if_neg (Nat.lt_irrefl _), if_pos (by simp), if_pos (Nat.lt_succ_self _), hrow, hnum, Mt.cut_eq, List.take_of_length_le (Nat.le_refl _), Nat.sub_self]
        simp
      · rw [decide_eq_false e, if_neg Bool.false_ne_true, List.append_nil]
        by_cases g : t < k
        · rw [if_pos g, if_pos (by omega)]
        · rw [if_neg g, if_neg (by omega)]
  show Mt.flatTo _ _ cols cols.length = r
  rw [key, if_pos ht]
theorem run_leaf {cols : List Int} {d : List (List (List Vl))} {a : Tr} (h : Ck.data cols a d = 0) (hk : a.k = 0) {t : Nat} {rs : List (List Vl)} (ht : a.t = (t : Int)) (hg : d[t]? = some rs) : run cols a d = rs := by
  have hs := sound_of h
  obtain ⟨_, _, _, h3⟩ := hs.good.leaf hk
  have htc : t < cols.length := by omega
  have hrow := (hs.rows t rs _ hg (List.getElem?_eq_getElem htc)).2
  unfold run rows
  rw [if_pos h, tuples_leaf hk, ht, Tr.seen_at, if_pos hk, ht]
  unfold leaf
  rw [Int.toNat_natCast, hg]
  show ((rs.map _).map _) = rs
  rw [List.map_map]
  conv => rhs; rw [← List.map_id rs]
  refine List.map_congr_left fun r hr => ?_
  exact flat_leaf htc hs.wide (hrow r hr)
end Ex
end Go.Proofs.YtpaaibghfhnicaaGreatDoor
