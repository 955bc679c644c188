/-
  THE LAW RejectMeans, walked: rows copied, some of them made null.
-/
import Derived.Test.YtpdgbfeciacbdaaDoorAwakeSevenM
import Derived.Test.YtpdgbfeciacbdaaDoorRejbM
import Derived.Test.YtpdgbfeciacbdaaDoorOwnRwsM
import Derived.Test.YtpdgbfeciacbdaaDoorGOwn
import Derived.Laws.OwnMore
import Derived.Deep.Onto
namespace Go.Proofs.YtpdgbfeciacbdaaDoor
open Go.RowKit Go.Sort
set_option maxHeartbeats 6400000

/-- a row's cells -/
def rowCells (r : List Vl) : List Value := r.flatMap fun x => [.bool x.1, .int .i64 x.2]
theorem rowCells_len (r : List Vl) : (rowCells r).length = r.length * 2 := by
  induction r with
  | nil => rfl
  | cons x r ih => show ([Value.bool x.1, .int .i64 x.2] ++ rowCells r).length = _; rw [List.length_append, ih, List.length_cons]; simp; omega
theorem rowCells_app (r s : List Vl) : rowCells (r ++ s) = rowCells r ++ rowCells s := by simp [rowCells]
theorem rowCells_at : ∀ (r : List Vl) (j : Nat) (x : Vl), r[j]? = some x → (rowCells r)[j * 2]? = some (.bool x.1) ∧ (rowCells r)[j * 2 + 1]? = some (.int .i64 x.2) := by
  intro r
  induction r with
  | nil => intro j x h; simp at h
  | cons y r ih =>
    intro j x h
    have e : rowCells (y :: r) = .bool y.1 :: .int .i64 y.2 :: rowCells r := rfl
    cases j with
    | zero => simp at h; subst h; exact ⟨rfl, rfl⟩
    | succ j =>
      obtain ⟨h1, h2⟩ := ih j x (by simpa using h)
      rw [e, show (j + 1) * 2 = j * 2 + 2 by omega, show j * 2 + 2 + 1 = j * 2 + 1 + 2 by omega]
      exact ⟨by simpa using h1, by simpa using h2⟩
theorem rowCells_one (r : List Vl) : ∀ u ∈ rowCells r, u.oneCell' = true := by
  intro u hu
  simp only [rowCells, List.mem_flatMap] at hu
  obtain ⟨x, _, hx⟩ := hu
  simp at hx
  rcases hx with rfl | rfl <;> rfl
/-- one place more made null -/
theorem rowCells_null {r : List Vl} {k : Nat} (hk : k < r.length) : ((rowCells (List.replicate k Te.nul ++ r.drop k)).set (k * 2) (.bool true)).set (k * 2 + 1) (.int .i64 0) = rowCells (List.replicate (k + 1) Te.nul ++ r.drop (k + 1)) := by
  rw [rowCells_app, rowCells_app, List.drop_eq_getElem_cons hk, List.replicate_succ', rowCells_app]
  have hl : (rowCells (List.replicate k Te.nul)).length = k * 2 := by rw [rowCells_len, List.length_replicate]
  generalize rowCells (List.replicate k Te.nul) = A at hl
  have e : rowCells (r[k] :: r.drop (k + 1)) = .bool (r[k]).1 :: .int .i64 (r[k]).2 :: rowCells (r.drop (k + 1)) := rfl
  rw [e, ← hl]
  generalize rowCells (r.drop (k + 1)) = B
  have e2 : rowCells [Te.nul] = [.bool true, .int .i64 0] := rfl
  rw [e2]
  rw [List.set_append_right _ _ (Nat.le_refl _), Nat.sub_self, List.set_cons_zero, List.set_append_right _ _ (by omega)]
  rw [show A.length + 1 - A.length = 1 by omega, List.set_cons_succ, List.set_cons_zero, List.append_assoc]
  rfl
/-- a row in a row of one's own, read as a row -/
theorem RowAt.own {w : World} {base : Nat} {v : Value} {r : List Vl} (h : w.ownsRow base 29 2 v r.length (rowCells r)) : RowAt w v r := by
  rcases id h.2 with ⟨rfl, h0⟩ | ⟨g, cap, cur, rfl, _, hg, hc, _⟩
  · obtain rfl : r = [] := List.eq_nil_of_length_eq_zero h0
    exact RowAt.nil _
  · refine ⟨some ⟨g, 0, none⟩, cap, rfl, hc, fun j x hx => ⟨g, 0, none, rfl, (Array.getElem?_eq_some_iff.1 hg).1, ?_⟩⟩
    obtain ⟨h1, h2⟩ := rowCells_at r j x hx
    exact ⟨h.cells (g := g) rfl _ _ h1, h.cells (g := g) rfl _ _ h2⟩
/-- two rows of one's own, of two types of elements, are two blocks -/
theorem own_apart {w : World} {b b' : Nat} {e e' : TypeId} {s s' n n' : Nat} {v v' : Value} {xs xs' : List Value} (h : w.ownsRow b e s v n xs) (h' : w.ownsRow b' e' s' v' n' xs') (hne : e ≠ e') : v.ownBlock = none ∨ v.ownBlock ≠ v'.ownBlock := by
  rcases h.2 with ⟨rfl, _⟩ | ⟨g, cap, cur, rfl, _, hg, _⟩
  · exact .inl rfl
  · refine .inr fun hc => ?_
    rcases h'.2 with ⟨rfl, _⟩ | ⟨g', cap', cur', rfl, _, hg', _⟩
    · simp [Value.ownBlock] at hc
    · obtain rfl : g = g' := by simpa [Value.ownBlock] using hc
      rw [hg] at hg'
      injection hg' with hg'
      injection hg' with _ ht
      exact hne ht
theorem add_here' (g k : Nat) : (⟨g, 0, none⟩ : Addr).add k = ⟨g, k, none⟩ := by
  unfold Addr.add
  split
  · next h => subst h; rfl
  · simp
namespace Rj
/-- the row of table i, made null where it is to be -/
def nulRow (N : Nat) (rs : List (List Vl)) (i : Nat) : List Vl := if St.hasB N (i : Int) then (rs.getD i []).map fun _ => Te.nul else rs.getD i []
def nulled (N : Nat) (rs : List (List Vl)) (q : Nat) : List (List Vl) := (List.range q).map (nulRow N rs)
theorem nulled_len (N : Nat) (rs : List (List Vl)) (q : Nat) : (nulled N rs q).length = q := by simp [nulled]
theorem nulled_at {N : Nat} {rs : List (List Vl)} {q j : Nat} (h : j < q) : (nulled N rs q)[j]? = some (nulRow N rs j) := by simp [nulled, h]
theorem gone_nulled (N : Nat) (rs : List (List Vl)) (q : Nat) : Gone N (nulled N rs q) := fun t c ht => by
  by_cases h : 0 ≤ t ∧ t < (nulled N rs q).length
  · obtain ⟨i, rfl⟩ : ∃ i : Nat, t = i := ⟨t.toNat, by omega⟩
    have hi : i < q := by rw [nulled_len] at h; omega
    have e : Te.at_ (nulled N rs q) (i : Int) = some (nulRow N rs i) := by rw [Te.at_nat, nulled_at hi]
    rw [Te.col_some e]
    unfold nulRow
    rw [if_pos ht]
    cases hc : Te.at_ ((rs.getD i []).map fun _ => Te.nul) c with
    | none => rfl
    | some x =>
      unfold Te.at_ at hc
      split at hc
      · rw [List.getElem?_map] at hc
        cases h2 : (rs.getD i [])[c.toNat]? with
        | none => rw [h2] at hc; cases hc
        | some y => rw [h2] at hc; cases hc; rfl
      · cases hc
  · have : Te.at_ (nulled N rs q) t = none := Te.at_out _ h
    rw [Te.col_none this]; rfl
end Rj
/-- rows of rows of one's own, read as rows -/
theorem rws_own {w : World} {base q N : Nat} {v : Value} {us : List Value} {rs : List (List Vl)} (h : w.ownsRow base 38 1 v q us) (hl : us.length = q) (hx : ∀ (j : Nat) (x : Value), us[j]? = some x → w.ownsRow 0 29 2 x (Rj.nulRow N rs j).length (rowCells (Rj.nulRow N rs j))) : Rws w v (Rj.nulled N rs q) :=
  ⟨us, Sl.own h, by rw [hl, Rj.nulled_len], fun i r hr => by
    have hi : i < q := by
      by_cases hi : i < q
      · exact hi
      · rw [List.getElem?_eq_none (by rw [Rj.nulled_len]; omega)] at hr; cases hr
    rw [Rj.nulled_at hi] at hr
    cases hr
    exact ⟨us[i]'(by omega), List.getElem?_eq_getElem _, RowAt.own (hx i _ (List.getElem?_eq_getElem _))⟩⟩
/-- a row that came in: nil, or at an address -/
theorem row_camen {w : World} {x : Value} {r : List Vl} (h : RowAt w x r) (hf : x = .slice none 0 0 ∨ ∃ b n c, x = .slice (some b) n c) : CameN w 2 x r.length (rowCells r) := by
  obtain ⟨A, c, hv, _, hx⟩ := h
  rcases hf with rfl | ⟨b, n, c', rfl⟩
  · have h0 : r.length = 0 := by injection hv with _ h _; exact h.symm
    obtain rfl : r = [] := List.eq_nil_of_length_eq_zero h0
    exact .inl ⟨rfl, rfl, rfl⟩
  · cases hv
    refine .inr ⟨b, c, rfl, rowCells_len r, fun j u hu => ?_⟩
    have hj : j < r.length * 2 := by
      by_cases hj : j < r.length * 2
      · exact hj
      · rw [List.getElem?_eq_none (by rw [rowCells_len]; omega)] at hu; cases hu
    obtain ⟨y, hy⟩ : ∃ y, r[j / 2]? = some y := ⟨r[j / 2]'(by omega), List.getElem?_eq_getElem _⟩
    obtain ⟨b', o, p, hb, _, c0, c1⟩ := hx (j / 2) y hy
    cases hb
    obtain ⟨h1, h2⟩ := rowCells_at r (j / 2) y hy
    by_cases he : j % 2 = 0
    · rw [show j / 2 * 2 = j by omega] at h1 c0
      rw [h1] at hu
      cases hu
      exact c0
    · rw [show j / 2 * 2 + 1 = j by omega] at h2 c1
      rw [h2] at hu
      cases hu
      exact c1
/-- an array of three truths, at a place -/
theorem idx_0 (a b c : Bool) (w : World) : (Instr.index 26 (.agg #[.bool a, .bool b, .bool c]) (.int .i64 0)).run Tryd.prog w = .ok (.bool a) w := by kernel_rfl
theorem idx_1 (a b c : Bool) (w : World) : (Instr.index 26 (.agg #[.bool a, .bool b, .bool c]) (.int .i64 1)).run Tryd.prog w = .ok (.bool b) w := by kernel_rfl
theorem idx_2 (a b c : Bool) (w : World) : (Instr.index 26 (.agg #[.bool a, .bool b, .bool c]) (.int .i64 2)).run Tryd.prog w = .ok (.bool c) w := by kernel_rfl
theorem Tryd.infoVal : (Tryd.prog.info? 29).map (fun i => (i.zero, i.size, i.bytes)) = some (some (.agg #[.bool false, .int .i64 0]), 2, 16) := by kernel_rfl
/-- the copies so far -/
structure Copies (w0 wr : World) (N : Nat) (rs : List (List Vl)) (s : Value) (q : Nat) (us : List Value) : Prop where
  len : us.length = q
  own : wr.ownsRow w0.heap.size 38 1 s q us
  row : ∀ (j : Nat) (x : Value), us[j]? = some x → wr.ownsRow 0 29 2 x (Rj.nulRow N rs j).length (rowCells (Rj.nulRow N rs j))
  below : Below w0.heap.size w0 wr
theorem own_far {w w' : World} {base : Nat} {e : TypeId} {s : Nat} {v : Value} {n : Nat} {xs : List Value} (h : w.ownsRow base e s v n xs) (hb : Below w.heap.size w w') : w'.ownsRow base e s v n xs := own_below h hb
theorem Copies.far {w0 wr w' : World} {N : Nat} {rs : List (List Vl)} {s : Value} {q : Nat} {us : List Value} (h : Copies w0 wr N rs s q us) (hb : Below wr.heap.size wr w') : Copies w0 w' N rs s q us :=
  ⟨h.len, own_far h.own hb, fun j x hx => own_far (h.row j x hx) hb, below_join h.below hb⟩
/-- one more -/
theorem Copies.push {w0 wr w' : World} {N : Nat} {rs : List (List Vl)} {s s' : Value} {q : Nat} {us : List Value} {x : Value} (h : Copies w0 wr N rs s q us) (hx : wr.ownsRow 0 29 2 x (Rj.nulRow N rs q).length (rowCells (Rj.nulRow N rs q)))
    (ho : w'.ownsRow w0.heap.size 38 1 s' (q + 1) (us ++ [x])) (hg : wr.grownBy w' s.ownBlock) (hb : Below w0.heap.size w0 w') : Copies w0 w' N rs s' (q + 1) (us ++ [x]) := by
  refine ⟨by simp [h.len], ho, fun j y hj => ?_, hb⟩
  have key : ∀ y i, wr.ownsRow 0 29 2 y (Rj.nulRow N rs i).length (rowCells (Rj.nulRow N rs i)) → w'.ownsRow 0 29 2 y (Rj.nulRow N rs i).length (rowCells (Rj.nulRow N rs i)) := fun y i hy => hy.kept hg (own_apart hy h.own (by decide))
  by_cases e : j < us.length
  · rw [List.getElem?_append_left e] at hj
    exact key y j (h.row j y hj)
  · have hj2 : j = us.length := by
      by_cases e2 : j = us.length
      · exact e2
      · rw [List.getElem?_eq_none (by simp; omega)] at hj; cases hj
    subst hj2
    rw [List.getElem?_append_right (Nat.le_refl _), Nat.sub_self] at hj
    cases hj
    rw [h.len]
    exact key x q hx
set_option maxRecDepth 100000 in
theorem rejmeans_any (d N : Nat) (hN : N < 18446744073709551616) (v u : Value) (ls : List Pd) (vs : List Value) (rs : List (List Vl)) (w : World) (hl : PsAt d w v ls) (hr : RwsOf w u vs rs) (hf : ∀ x ∈ vs, x = .slice none 0 0 ∨ ∃ b n c, x = .slice (some b) n c) (hWant : Want w) :
    Calls Tryd.prog 4 #[v, .int .u64 (N : Int), u] w fun e w' => e = .returned (.bool true) ∧ Below w.heap.size w w' := by
  obtain ⟨i0, hi, hz0, hz1, hz2⟩ := info_parts Tryd.infoRow
  obtain ⟨j0, hj, hy0, hy1, hy2⟩ := info_parts Tryd.infoVal
  have cf := few7_any d v ls w hl
  have HWN := Lib.hid hWant
  obtain ⟨A, c, rfl, hl63⟩ := hl.form
  have HLS := Lib.hid hl
  have HR := Lib.hid hr
  have HF := Lib.hid hf
  obtain ⟨B, cB, rfl, hBc, hBx⟩ := hr.sl
  obtain ⟨b, hb0⟩ : ∃ b, b = Rj.few ls := ⟨_, rfl⟩
  rw [← hb0] at cf
  have HB := Lib.hid hb0
  obtain ⟨n, hn⟩ : ∃ n, n = ls.length := ⟨_, rfl⟩
  rw [← hn] at hl63 HLS cf ⊢
  have HN := Lib.hid hn
  obtain ⟨m, hm⟩ : ∃ m, m = vs.length := ⟨_, rfl⟩
  rw [← hm] at HR hBc ⊢
  have HM := Lib.hid hm
  have HBX := Lib.hid hBx
  clear hl hr hf hWant hb0 hn hm hBx
  go_enter Tryd.func4, Tryd.ntmps4
  go_wp2_with fail
  refine cf.mono ?_
  rintro e w1 ⟨rfl, hb1⟩
  clear cf
  cases b
  · have ca := awake7_any w1 (HWN.out.below hb1 (Nat.le_refl _))
    go_wp2_with fail
    refine ca.mono ?_
    rintro e w2 ⟨rfl, hb2⟩
    clear ca
    go_wp2_with fail
    go_ret
    exact ⟨rfl, below_join hb1 hb2⟩
  by_cases hm64 : 64 < m
  · have ca := awake7_any w1 (HWN.out.below hb1 (Nat.le_refl _))
    have d1 : decide ((64 : Int) < (m : Int)) = true := by simp; omega
    have d2 : decide (64 < m) = true := by simpa using hm64
    go_wp2_with fail
    refine ca.mono ?_
    rintro e w2 ⟨rfl, hb2⟩
    clear ca
    go_wp2_with fail
    go_ret
    exact ⟨rfl, below_join hb1 hb2⟩
  have d1 : decide ((64 : Int) < (m : Int)) = false := by simp; omega
  have d2 : decide (64 < m) = false := by simpa using hm64
  obtain ⟨hl20, hsz⟩ := Rj.few_yes HB.out.symm
  have HZ := Lib.hid hsz
  have HB1 := Lib.hid hb1
  have hcop : Copies w1 (w1.alloc (Obj.cells #[] 38)) N rs (.slice (some ⟨w1.heap.size, 0, none⟩) 0 0) 0 [] := ⟨rfl, own_none w1 _ _ rfl, fun j x h => by simp at h, below_new _ _⟩
  have HC0 := Lib.hid hcop
  clear hsz hl20 hb1 hcop
  go_wp2_with fail
  clear d1 d2
  go_loopw [7, 8] (fun s i wr => ∃ (q : Nat) (us : List Value), q ≤ m ∧ i = .int .i64 q ∧ Copies w1 wr N rs s q us) (fun _ i _ => m - (intOf i).toNat)
  case atStart => exact ⟨0, [], Nat.zero_le _, rfl, HC0.out⟩
  case round =>
    obtain ⟨q, us, hq, rfl, hc⟩ := hrel
    obtain ⟨wq, rfl⟩ : ∃ x, x = wr := ⟨_, rfl⟩
    by_cases hlt : q < m
    · obtain ⟨x0, gx⟩ : ∃ x, vs[q]? = some x := ⟨vs[q]'(by have := HM.out; omega), List.getElem?_eq_getElem _⟩
      obtain ⟨r, gr⟩ : ∃ r, rs[q]? = some r := ⟨rs[q]'(by have := HM.out; have := HR.out.len; omega), List.getElem?_eq_getElem _⟩
      have hw1 := below_join HB1.out hc.below
      obtain ⟨x0', gx', hrow⟩ := HR.out.row q r gr
      rw [gx] at gx'
      cases gx'
      have hcm := (row_camen hrow (HF.out x0 (List.mem_of_getElem? gx))).below hw1 (Nat.le_refl _)
      obtain ⟨b5, o5, s5, rfl, hlt5, hcell⟩ := HBX.out q x0 gx
      have hcell2 := (hw1.cell (by rw [add_block]; exact hlt5)).trans hcell
      obtain ⟨B0, c0, rfl, _⟩ := id hrow
      have hgetD : rs.getD q [] = r := by simp [List.getD, gr]
      have hnul : Rj.nulRow N rs q = if St.hasB N (q : Int) then r.map (fun _ => Te.nul) else r := by unfold Rj.nulRow; rw [hgetD]
      have HNU := Lib.hid hnul
      have HCM := Lib.hid hcm
      have i1 : (0 : Int) ≤ (q : Int) := by omega
      have i2 : (q : Int) < (m : Int) := by omega
      obtain ⟨k, hk⟩ : ∃ k, k = r.length := ⟨_, rfl⟩
      rw [← hk] at HCM hcell2 
      have HK := Lib.hid hk
      clear gx gr hrow hcm hcell hgetD hnul hlt5 hk
      by_cases hk20 : 20 < k
      · have ca := awake7_any wq (HWN.out.below hw1 (Nat.le_refl _))
        have d1 : decide ((20 : Int) < (k : Int)) = true := by simp; omega
        have d2 : decide (20 < k) = true := by simpa using hk20
        go_wp2_with fail
        refine ca.mono ?_
        rintro e w2 ⟨rfl, hb2⟩
        clear ca
        go_wp2_with fail
        go_ret
        exact ⟨rfl, below_join hw1 hb2⟩
      have d1 : decide ((20 : Int) < (k : Int)) = false := by simp; omega
      have d2 : decide (20 < k) = false := by simpa using hk20
      have hcell3 : (wq.alloc (Obj.cells #[] 29)).cell? ((⟨b5, o5, s5⟩ : Addr).add q) = some (.slice B0 k c0) := ((below_new wq (Obj.cells #[] 29)).cell (World.block_lt_of_cell? wq _ hcell2)).trans hcell2
      have oE : (wq.alloc (Obj.cells #[] 29)).ownsRow wq.heap.size 29 2 (.slice (some ⟨wq.heap.size, 0, none⟩) 0 0) 0 [] := own_empty wq 29 2 wq.heap.size (Nat.le_refl _) _ rfl
      have cE := HCM.out.below (below_new wq (Obj.cells #[] 29)) (Nat.le_refl _)
      have bE := below_new wq (Obj.cells #[] 29)
      have OE := Lib.hid oE
      have CE := Lib.hid cE
      have BE := Lib.hid bE
      clear oE cE bE
      go_wp2_with (first
        | (at_builtin; refine wpList_append_n _ rfl _ _ 38 rfl wq.heap.size 29 j0 (.agg #[.bool false, .int .i64 0]) 2 16 Tryd.underlying38 hj hy0 hy1 hy2 rfl (by decide) _ 0 _ rfl OE.out _ k (rowCells r) rfl CE.out (rowCells_one r) ?l1 ?l2 ?l3 ?_))
      case l1 => unfold maxLen; omega
      case l2 => omega
      case l3 => exact BE.out.size
      intro v9 w9 hown9 hgrow9
      have hb9 : Below wq.heap.size wq w9 := BE.out.grown hgrow9 BE.out.size (fun k hk => (OE.out.lt k hk).1)
      replace hown9 : w9.ownsRow wq.heap.size 29 2 v9 k (rowCells r) := by simpa using hown9
      have ch := fun w => rhas_any (N : Int) (q : Int) w (U64.of hN)
      rw [Int.toNat_natCast] at ch
      obtain ⟨hb, hhb⟩ : ∃ hb, hb = St.hasB N (q : Int) := ⟨_, rfl⟩
      rw [← hhb] at ch
      have HHB := Lib.hid hhb
      obtain ⟨A9, c9, rfl, hA9⟩ : ∃ A9 c9, v9 = .slice A9 k c9 ∧ (0 < k → ∃ g, A9 = some ⟨g, 0, none⟩) := by
        rcases hown9.2 with ⟨h1, h2⟩ | ⟨g, cap, cur, h1, _⟩
        · exact ⟨none, 0, by rw [h1, h2], fun h => by omega⟩
        · exact ⟨_, cap, h1, fun _ => ⟨g, rfl⟩⟩
      clear hhb hgrow9 hcell2 hcell3 OE CE BE
      cases hb
      · have hrq : Rj.nulRow N rs q = r := by rw [HNU.out, ← HHB.out]; rfl
        have hx9 : w9.ownsRow wq.heap.size 29 2 (.slice A9 k c9) (Rj.nulRow N rs q).length (rowCells (Rj.nulRow N rs q)) := by rw [hrq, ← HK.out]; exact hown9
        have hbx := hb9
        have hcx := hc.far hbx
        have HXX := Lib.hid (hx9.mono (Nat.zero_le _))
        have oT := Lib.hid (hcx.own.alloc (Obj.cells #[.slice A9 k c9] 38))
        have bT := Lib.hid (hcx.below.alloc hcx.below.size (Obj.cells #[.slice A9 k c9] 38))
        have HCX := Lib.hid hcx
        have one : ∀ u ∈ ([.slice A9 k c9] : List Value), u.oneCell' = true := by intro u hu; obtain rfl : u = .slice A9 k c9 := (by simpa using hu); rfl
        clear hcx hx9 hbx
        go_wp2_with (first
          | (with_reducible refine (ch _).mono ?_; rintro e w' ⟨rfl, rfl⟩)
          | (at_builtin; refine wpList_append_own _ rfl _ _ 36 rfl w1.heap.size 38 i0 (.slice none 0 0) 1 24 Tryd.underlying36 hi hz0 hz1 hz2 rfl (by decide) _ q _ rfl oT.out ⟨w9.heap.size, 0, none⟩ 1 1 [.slice A9 k c9] rfl rfl ?a1 one ?a3 ?a4 bT.out.size ?_))
        case a1 => exact cell_one_new _ _ _
        case a3 => unfold maxLen; omega
        case a4 => omega
        intro v1 w5 hown5 hgrow5 _
        have hpush := (HCX.out.far (below_new _ _)).push (HXX.out.alloc _) hown5 hgrow5 (bT.out.grown hgrow5 bT.out.size (fun k hk => (oT.out.lt k hk).1))
        clear hown5 hgrow5
        go_wp2_with fail
        go_roundw
        case rel => exact ⟨q + 1, _, by omega, by go_num, hpush⟩
        case measure => simp [intOf]; omega
      · have hrq : Rj.nulRow N rs q = List.replicate k Te.nul ++ r.drop k := by
          rw [HNU.out, ← HHB.out, HK.out]
          show r.map (fun _ => Te.nul) = _
          rw [List.drop_length, List.append_nil, List.map_const']
        have HRQ := Lib.hid hrq
        have HO9 := Lib.hid hown9
        have HB9 := Lib.hid hb9
        clear hrq hown9 hb9
        go_wp2_with (first | (with_reducible refine (ch _).mono ?_; rintro e w' ⟨rfl, rfl⟩))
        go_loopw [10] (fun i wr => ∃ t : Nat, t ≤ k ∧ i = .int .i64 t ∧ wr.ownsRow wq.heap.size 29 2 (.slice A9 k c9) k (rowCells (List.replicate t Te.nul ++ r.drop t)) ∧ Below wq.heap.size wq wr) (fun i _ => k - (intOf i).toNat)
        case atStart => exact ⟨0, Nat.zero_le _, rfl, by simpa using HO9.out, HB9.out⟩
        case round =>
          obtain ⟨t, ht, rfl, hown, hbx⟩ := hrel
          by_cases htk : t < k
          · obtain ⟨g, rfl⟩ := hA9 (by omega)
            have hcells : (rowCells (List.replicate t Te.nul ++ r.drop t)).length = k * 2 := by rw [rowCells_len, List.length_append, List.length_replicate, List.length_drop]; have := HK.out; omega
            have i1 : (0 : Int) ≤ (t : Int) := by omega
            have i2 : (t : Int) < (k : Int) := by omega
            have z0 : ∃ x, wr.cell? ⟨g, t * 2, none⟩ = some x := ⟨_, (hown.cellAt (t * 2) (by omega)).trans (List.getElem?_eq_getElem (by omega))⟩
            have f0 := hown.frozenAt (t * 2)
            have s1 := hown.stored (t * 2) (.bool true)
            have z1 : ∃ x, (wr.setCell ⟨g, t * 2, none⟩ (.bool true)).cell? ⟨g, t * 2 + 1, none⟩ = some x := ⟨_, (s1.1.cellAt (t * 2 + 1) (by omega)).trans (List.getElem?_eq_getElem (by simp; omega))⟩
            have f1 := s1.1.frozenAt (t * 2 + 1)
            have s2 := s1.1.stored (t * 2 + 1) (.int .i64 0)
            have e1 : (⟨g, 0, none⟩ : Addr).add (t * 2) = ⟨g, t * 2, none⟩ := add_here' g _
            obtain ⟨x0, z0⟩ := z0
            obtain ⟨x1, z1⟩ := z1
            have hge := (hown.lt g rfl).1
            have hnx : ((wr.setCell ⟨g, t * 2, none⟩ (.bool true)).setCell ⟨g, t * 2 + 1, none⟩ (.int .i64 0)).ownsRow wq.heap.size 29 2 (.slice (some ⟨g, 0, none⟩) k c9) k (rowCells (List.replicate (t + 1) Te.nul ++ r.drop (t + 1))) := by
              rw [← rowCells_null (show t < r.length by have := HK.out; omega)]; exact s2.1
            have hbn : Below wq.heap.size wq ((wr.setCell ⟨g, t * 2, none⟩ (.bool true)).setCell ⟨g, t * 2 + 1, none⟩ (.int .i64 0)) := (hbx.setCell (p := ⟨g, t * 2, none⟩) hge _).setCell (p := ⟨g, t * 2 + 1, none⟩) hge _
            have HNX := Lib.hid hnx
            have HBN := Lib.hid hbn
            clear hnx hbn s1 s2 hown hbx hcells e1
            go_wp2_with fail
            go_roundw
            case rel => exact ⟨t + 1, by omega, by go_num, HNX.out, HBN.out⟩
            case measure => simp [intOf]; omega
          · obtain rfl : t = k := by omega
            have hx9 : wr.ownsRow wq.heap.size 29 2 (.slice A9 t c9) (Rj.nulRow N rs q).length (rowCells (Rj.nulRow N rs q)) := by
              have e : (Rj.nulRow N rs q).length = t := by rw [HRQ.out, List.length_append, List.length_replicate, List.length_drop]; have := HK.out; omega
              rw [e, HRQ.out]; exact hown
            have hcx := hc.far hbx
            have HXX := Lib.hid (hx9.mono (Nat.zero_le _))
            have oT := Lib.hid (hcx.own.alloc (Obj.cells #[.slice A9 t c9] 38))
            have bT := Lib.hid (hcx.below.alloc hcx.below.size (Obj.cells #[.slice A9 t c9] 38))
            have HCX := Lib.hid hcx
            have one : ∀ u ∈ ([.slice A9 t c9] : List Value), u.oneCell' = true := by intro u hu; obtain rfl : u = .slice A9 t c9 := (by simpa using hu); rfl
            clear hcx hx9 hbx
            go_wp2_with (first
              | (at_builtin; refine wpList_append_own _ rfl _ _ 36 rfl w1.heap.size 38 i0 (.slice none 0 0) 1 24 Tryd.underlying36 hi hz0 hz1 hz2 rfl (by decide) _ q _ rfl oT.out ⟨wr.heap.size, 0, none⟩ 1 1 [.slice A9 t c9] rfl rfl ?a1 one ?a3 ?a4 bT.out.size ?_))
            case a1 => exact cell_one_new _ _ _
            case a3 => unfold maxLen; omega
            case a4 => omega
            intro v1 w5 hown5 hgrow5 _
            have hpush := (HCX.out.far (below_new _ _)).push (HXX.out.alloc _) hown5 hgrow5 (bT.out.grown hgrow5 bT.out.size (fun k hk => (oT.out.lt k hk).1))
            clear hown5 hgrow5
            go_wp2_with fail
            go_roundw
            case rel => exact ⟨q + 1, _, by omega, by go_num, hpush⟩
            case measure => simp [intOf]; omega
    · obtain rfl : q = m := by omega
      have hrws := rws_own hc.own hc.len hc.row
      have hbq := below_join HB1.out hc.below
      have hge := Rj.gone_nulled N rs q
      generalize Rj.nulled N rs q = tw at hrws hge
      have HT := Lib.hid hrws
      have HG := Lib.hid hge
      have HBQ := Lib.hid hbq
      clear hrws hge hc hbq
      go_wp2_with fail
      go_loopw [11] (fun i wr => ∃ t : Nat, t ≤ n ∧ i = .int .i64 t ∧ Below wq.heap.size wq wr) (fun i _ => n - (intOf i).toNat)
      case atStart => exact ⟨0, Nat.zero_le _, rfl, Below.refl _ _⟩
      case round =>
        obtain ⟨t, ht, rfl, hb⟩ := hrel
        have hbw := below_join HBQ.out hb
        by_cases htn : t < n
        · obtain ⟨p, gp⟩ : ∃ p, ls[t]? = some p := ⟨ls[t]'(by have := HN.out; omega), List.getElem?_eq_getElem _⟩
          have hu := HLS.out
          rw [HN.out] at hu
          obtain ⟨e, b', o, s, v', he, rfl, hblt, hx⟩ := hu.at_ gp
          obtain ⟨hcell, hps⟩ := hx wr hbw
          have hd := Pr.sizes_down gp
          have co := pof_any e p.f v' p.ps _ tw wr hps (by have := HZ.out; omega) (HT.out.below hb (Nat.le_refl _)) (HWN.out.below hbw (Nat.le_refl _))
          rw [Pr.of_mk] at co
          have hcs := Pr.of_cases tw p
          have hget := Rj.holds HG.out _ p (Nat.le_refl _)
          obtain ⟨x, hx1⟩ : ∃ x, x = Pr.of tw p := ⟨_, rfl⟩
          rw [← hx1] at co hcs hget
          have HX := Lib.hid hx
          obtain ⟨⟨m0, m1, m2⟩, hm⟩ : ∃ m : M3, m = Rj.may N p := ⟨_, rfl⟩
          rw [← hm] at hget
          have HMM := Lib.hid hm
          have HZZ := Lib.hid (show Pr.sizes p.ps ≤ 1000 by have := HZ.out; omega)
          have HGT := Lib.hid hget
          have HCS := Lib.hid hcs
          have i1 : (0 : Int) ≤ (t : Int) := by omega
          have i2 : (t : Int) < (n : Int) := by omega
          obtain ⟨x0, x1, x2, x3, x4, x5, x6, x7, x8, x9, x10, x11, x12, x13⟩ := hcell
          clear gp hu hx hm hblt hd hps hget hcs hx1
          go_wp2_with fail
          refine co.mono ?_
          rintro e2 w2 ⟨rfl, hb2⟩
          have hb3 := below_join hb hb2
          have hbw3 := below_join hbw hb2
          clear co x0 x1 x2 x3 x4 x5 x6 x7 x8 x9 x10 x11 x12 x13 hb2
          obtain ⟨x0, x1, x2, x3, x4, x5, x6, x7, x8, x9, x10, x11, x12, x13⟩ := (HX.out w2 hbw3).1
          have cm := rmay_any e N hN p.f v' p.ps w2 ((HX.out w2 hbw3).2) HZZ.out (HWN.out.below hbw3 (Nat.le_refl _))
          rw [Rj.may_mk, ← HMM.out] at cm
          dsimp only at cm
          rcases HCS.out with rfl | rfl | rfl
          · obtain rfl : m0 = true := HGT.out
            have hix := idx_0 true m1 m2
            go_wp2_with fail
            refine cm.mono ?_
            rintro e3 w3 ⟨rfl, hb4⟩
            have hb5 := below_join hb3 hb4
            clear cm x0 x1 x2 x3 x4 x5 x6 x7 x8 x9 x10 x11 x12 x13
            go_wp2_with fail
            go_roundw
            case rel => exact ⟨t + 1, by omega, by go_num, hb5⟩
            case measure => simp [intOf]; omega
          · obtain rfl : m1 = true := HGT.out
            have hix := idx_1 m0 true m2
            go_wp2_with fail
            refine cm.mono ?_
            rintro e3 w3 ⟨rfl, hb4⟩
            have hb5 := below_join hb3 hb4
            clear cm x0 x1 x2 x3 x4 x5 x6 x7 x8 x9 x10 x11 x12 x13
            go_wp2_with fail
            go_roundw
            case rel => exact ⟨t + 1, by omega, by go_num, hb5⟩
            case measure => simp [intOf]; omega
          · obtain rfl : m2 = true := HGT.out
            have hix := idx_2 m0 m1 true
            go_wp2_with fail
            refine cm.mono ?_
            rintro e3 w3 ⟨rfl, hb4⟩
            have hb5 := below_join hb3 hb4
            clear cm x0 x1 x2 x3 x4 x5 x6 x7 x8 x9 x10 x11 x12 x13
            go_wp2_with fail
            go_roundw
            case rel => exact ⟨t + 1, by omega, by go_num, hb5⟩
            case measure => simp [intOf]; omega
        · have c1 := rrej_any d N hN _ ls wr (HLS.out.below hbw (Nat.le_refl _)) (by have := HZ.out; omega) (HWN.out.below hbw (Nat.le_refl _))
          have hrh := Rj.rejects_holds HG.out ls
          obtain ⟨r, hr1⟩ : ∃ r, r = Rj.rejects N ls := ⟨_, rfl⟩
          rw [← hr1] at c1 hrh
          have HRH := Lib.hid hrh
          have d1 : decide (t < n) = false := by simpa using htn
          clear hrh hr1
          go_wp2_with fail
          refine c1.mono ?_
          rintro e2 w2 ⟨rfl, hb2⟩
          have hb3 := below_join hb hb2
          have hbw3 := below_join hbw hb2
          clear c1
          cases r
          · have ca := awake7_any w2 (HWN.out.below hbw3 (Nat.le_refl _))
            go_wp2_with fail
            refine ca.mono ?_
            rintro e3 w3 ⟨rfl, hb4⟩
            clear ca
            go_wp2_with fail
            go_ret
            exact ⟨rfl, below_join hbw3 hb4⟩
          · have cl := pall_any d _ ls _ tw w2 (HLS.out.below hbw3 (Nat.le_refl _)) (by have := HZ.out; omega) (HT.out.below hb3 (Nat.le_refl _)) (HWN.out.below hbw3 (Nat.le_refl _))
            have hne := HRH.out rfl
            generalize Lo.andI (ls.map (Pr.of tw)) = x at cl hne
            have d3 : (x != 2) = true := by simpa using hne
            clear hne
            go_wp2_with fail
            refine cl.mono ?_
            rintro e3 w3 ⟨rfl, hb4⟩
            have hb5 := below_join hbw3 hb4
            have ca := awake7_any w3 (HWN.out.below hb5 (Nat.le_refl _))
            clear cl
            go_wp2_with fail
            refine ca.mono ?_
            rintro e4 w4 ⟨rfl, hb6⟩
            clear ca
            go_wp2_with fail
            go_ret
            exact ⟨rfl, below_join hb5 hb6⟩
end Go.Proofs.YtpdgbfeciacbdaaDoor
