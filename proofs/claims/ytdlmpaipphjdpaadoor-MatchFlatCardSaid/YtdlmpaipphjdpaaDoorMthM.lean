/-
  PACKAGE match: width; Flat.
-/
import Derived.Test.YtdlmpaipphjdpaaDoorMtgM
import Derived.Test.YtdlmpaipphjdpaaDoorMtcM
namespace Go.Proofs.YtdlmpaipphjdpaaDoor
open Go.RowKit Go.Sort
set_option maxHeartbeats 3200000

theorem ints_cell {w : World} {A : Option Addr} {n c : Nat} {l : List Int} {k : IntKind} {j : Nat} {x : Int} (h : Sl w (.slice A n c) (l.map (Value.int k))) (hj : l[j]? = some x) :
    ∃ b o p, A = some ⟨b, o, p⟩ ∧ b < w.heap.size ∧ w.cell? ((⟨b, o, p⟩ : Addr).add j) = some (.int k x) := by
  obtain ⟨A', c', hv, _, hx⟩ := h
  cases hv
  exact hx j _ (by rw [List.getElem?_map, hj]; rfl)
theorem Mt.wide_take {cols : List Int} {js : List Nat} {q j : Nat} (h : js[q]? = some j) : Mt.wide cols (js.take (q + 1)) = Mt.wide cols (js.take q) + Mt.num cols j := by
  unfold Mt.wide
  rw [List.take_add_one, h, List.map_append, List.sum_append]
  rfl
theorem Mt.num_at {cols : List Int} {j : Nat} {x : Int} (h : cols[j]? = some x) : Mt.num cols j = x.toNat := by unfold Mt.num; rw [h]; rfl
set_option maxRecDepth 100000 in
theorem width_any (tv cv : Value) (js : List Nat) (cols : List Int) (w : World) (ht : Sl w tv ((ints js).map (Value.int .i64))) (hc : Sl w cv (cols.map (Value.int .i64))) (hj : ∀ j ∈ js, j < cols.length) (hb : ∀ x ∈ cols, x ≤ 100) (hjl : js.length ≤ 64) :
    Calls Tryd.prog 32 #[tv, cv] w fun e w' => e = .returned (.tuple #[.int .i64 (Mt.wide cols js : Nat), .bool true]) ∧ w = w' := by
  obtain ⟨A, c, htv, _⟩ := id ht
  subst htv
  obtain ⟨B, d, hcv, _⟩ := id hc
  subst hcv
  simp only [List.length_map, ints] at ht hc ⊢
  obtain ⟨n, hn⟩ : ∃ n, n = js.length := ⟨_, rfl⟩
  obtain ⟨m, hm⟩ : ∃ m, m = cols.length := ⟨_, rfl⟩
  rw [← hn] at ht hjl ⊢
  rw [← hm] at hc ⊢
  have HT := Lib.hid ht
  have HC := Lib.hid hc
  have HJ := Lib.hid (And.intro hn (And.intro hm (And.intro hj hb)))
  clear ht hc hj hb hn hm
  go_enter Tryd.func32, Tryd.ntmps32
  go_wp2_with fail
  go_loopw [6, 11] (fun s i wr => ∃ (q z : Nat), q ≤ n ∧ i = .int .i64 q ∧ s = .int .i64 z ∧ z ≤ 100 * q ∧ Hid (z = Mt.wide cols (js.take q)) ∧ w = wr) (fun _ i _ => n - (intOf i).toNat)
  case atStart => exact ⟨0, 0, by omega, rfl, rfl, by omega, Lib.hid rfl, rfl⟩
  case round =>
    obtain ⟨q, z, hq, rfl, rfl, hz, HZ, rfl⟩ := hrel
    by_cases hlt : q < n
    · obtain ⟨j, gj⟩ : ∃ j, js[q]? = some j := ⟨js[q]'(by have := HJ.out.1; omega), List.getElem?_eq_getElem _⟩
      have hjm : j < m := by rw [HJ.out.2.1]; exact HJ.out.2.2.1 j (List.mem_of_getElem? gj)
      obtain ⟨x, gx⟩ : ∃ x, cols[j]? = some x := ⟨cols[j]'(by have := HJ.out.2.1; omega), List.getElem?_eq_getElem _⟩
      have hx := HJ.out.2.2.2 x (List.mem_of_getElem? gx)
      obtain ⟨b1, o1, p1, rfl, _, y0⟩ := ints_cell (l := js.map Int.ofNat) (j := q) (x := (j : Int)) HT.out (by rw [List.getElem?_map, gj]; rfl)
      obtain ⟨b2, o2, p2, rfl, _, y1⟩ := ints_cell HC.out gx
      have i1 : (0 : Int) ≤ (q : Int) := by omega
      have i2 : (q : Int) < (n : Int) := by omega
      have i3 : (0 : Int) ≤ (j : Int) := by omega
      have i4 : (j : Int) < (m : Int) := by omega
      have hst := Mt.wide_take (cols := cols) gj
      rw [Mt.num_at gx, ← HZ.out] at hst
      have HST := Lib.hid hst
      clear gj gx hst hlt hjm
      by_cases hx0 : 0 > x
      · have hx0' : x < 0 := hx0
        have i5 : ¬ (x > 134217727 - (z : Int)) := by omega
        have i6 : ¬ (134217727 - (z : Int) < x) := by omega
        have hz2 := Lib.hid (show z = Mt.wide cols (js.take (q + 1)) by rw [HST.out]; omega)
        go_wp2_with fail
        go_roundw
        case rel => exact ⟨q + 1, z, by omega, by go_num, by go_num, by omega, hz2, by first | rfl | trivial⟩
        case measure => simp [intOf]; omega
      · obtain ⟨y, rfl⟩ : ∃ y : Nat, x = y := ⟨x.toNat, by omega⟩
        have hx0' : ¬ ((y : Int) < 0) := hx0
        have i5 : ¬ ((y : Int) > 134217727 - (z : Int)) := by omega
        have i6 : ¬ (134217727 - (z : Int) < (y : Int)) := by omega
        have hz2 := Lib.hid (show z + y = Mt.wide cols (js.take (q + 1)) by rw [HST.out]; omega)
        go_wp2_with fail
        go_roundw
        case rel => exact ⟨q + 1, z + y, by omega, by go_num, by go_num, by omega, hz2, by first | rfl | trivial⟩
        case measure => simp [intOf]; omega
    · have i2 : ¬ ((q : Int) < (n : Int)) := by omega
      have hres := Lib.hid (show z = Mt.wide cols js by rw [HZ.out, List.take_of_length_le (by have := HJ.out.1; omega)])
      go_wp2_with fail
      go_ret2
      exact ⟨by rw [← hres.out]; rfl, rfl⟩
theorem Mt.wide_mono {cols : List Int} {js : List Nat} (q : Nat) : Mt.wide cols (js.take q) ≤ Mt.wide cols js := by
  have h := List.take_append_drop q js
  have e : Mt.wide cols js = Mt.wide cols (js.take q) + Mt.wide cols (js.drop q) := by
    conv => lhs; rw [← h]
    unfold Mt.wide
    rw [List.map_append, List.sum_append]
  omega
theorem Mt.wide_le {cols : List Int} (hb : ∀ x ∈ cols, x ≤ 100) : ∀ js : List Nat, Mt.wide cols js ≤ 100 * js.length
  | [] => Nat.le_refl _
  | j :: js => by
    have ih := Mt.wide_le hb js
    have : Mt.num cols j ≤ 100 := by
      unfold Mt.num
      by_cases h : j < cols.length
      · rw [List.getElem?_eq_getElem h]
        have := hb _ (List.getElem_mem h)
        show (cols[j]).toNat ≤ 100
        omega
      · rw [List.getElem?_eq_none (by omega)]; simp
    unfold Mt.wide at *
    rw [List.map_cons, List.sum_cons, List.length_cons]
    omega
theorem Mt.flatOf_take {t : List (List Vl)} {cols : List Int} {js : List Nat} {q j : Nat} (h : js[q]? = some j) : Mt.flatOf t cols (js.take (q + 1)) = Mt.flatOf t cols (js.take q) ++ Mt.cut (Mt.num cols j) (Mt.row t j) := by
  unfold Mt.flatOf
  rw [List.take_add_one, h, List.flatMap_append]
  simp
theorem rowCells_append (a b : List Vl) : rowCells (a ++ b) = rowCells a ++ rowCells b := by unfold rowCells; rw [List.flatMap_append]
/-- the row, so far laid, and null behind it -/
def laid13 (t : List (List Vl)) (cols : List Int) (js : List Nat) (q : Nat) : List Vl := Mt.flatOf t cols (js.take q) ++ List.replicate (Mt.wide cols js - Mt.wide cols (js.take q)) (true, 0)
theorem laid13_length (t : List (List Vl)) (cols : List Int) (js : List Nat) (q : Nat) : (laid13 t cols js q).length = Mt.wide cols js := by
  unfold laid13
  rw [List.length_append, Mt.flatOf_length, List.length_replicate]
  have := Mt.wide_mono (cols := cols) (js := js) q
  omega
/-- one table's values laid over null -/
theorem laid13_step {t : List (List Vl)} {cols : List Int} {js : List Nat} {q j : Nat} (h : js[q]? = some j) :
    splice (rowCells (laid13 t cols js q)) (Mt.wide cols (js.take q) * 2) (rowCells ((Mt.row t j).take (Mt.num cols j))) = rowCells (laid13 t cols js (q + 1)) := by
  have hw := Mt.wide_take (cols := cols) h
  have hm := Mt.wide_mono (cols := cols) (js := js) (q + 1)
  have hF := Mt.flatOf_length t cols (js.take q)
  unfold laid13 splice
  rw [Mt.flatOf_take h, Mt.cut_eq]
  rw [rowCells_append, List.take_left' (by rw [rowCells_length, hF]), List.drop_append, List.drop_eq_nil_of_le (by rw [rowCells_length, rowCells_length, hF]; omega), List.nil_append, rowCells_length, rowCells_length, hF, List.length_take]
  rw [List.append_assoc, List.append_assoc, rowCells_append, rowCells_append, List.replicate_append_replicate]
  congr 2
  have e : ∀ a b : Nat, (rowCells (List.replicate (a + b) ((true, 0) : Vl))).drop (a * 2) = rowCells (List.replicate b (true, 0)) := fun a b => by
    rw [← rowCells_rep, List.drop_left' (by rw [rowCells_length, List.length_replicate])]
  have e2 := e (min (Mt.num cols j) (Mt.row t j).length) (Mt.num cols j - (Mt.row t j).length + (Mt.wide cols js - Mt.wide cols (js.take (q + 1))))
  rw [← e2]
  congr 1
  · omega
  · congr 2
    omega
theorem laid13_skip {t : List (List Vl)} {cols : List Int} {js : List Nat} {q j : Nat} (h : js[q]? = some j) (hj : t.length ≤ j) : laid13 t cols js (q + 1) = laid13 t cols js q := by
  have hw := Mt.wide_take (cols := cols) h
  have hm := Mt.wide_mono (cols := cols) (js := js) (q + 1)
  unfold laid13
  rw [Mt.flatOf_take h, Mt.row_out hj, Mt.cut_eq, List.take_nil, List.nil_append, List.append_assoc, List.length_nil, List.replicate_append_replicate]
  congr 2
  omega
theorem laid13_start (t : List (List Vl)) (cols : List Int) (js : List Nat) : laid13 t cols js 0 = List.replicate (Mt.wide cols js) (true, 0) := rfl
theorem laid13_end (t : List (List Vl)) (cols : List Int) (js : List Nat) : laid13 t cols js js.length = Mt.flatOf t cols js := by
  unfold laid13
  rw [List.take_of_length_le (Nat.le_refl _), Nat.sub_self]
  simp
theorem rowCells_take (r : List Vl) (y : Nat) : rowCells (r.take y) = (rowCells r).take (y * 2) := by
  by_cases h : y ≤ r.length
  · have e := List.take_append_drop y r
    conv => rhs; rw [← e, rowCells_append]
    rw [List.take_left' (by rw [rowCells_length, List.length_take]; omega)]
  · rw [List.take_of_length_le (by omega), List.take_of_length_le (by rw [rowCells_length]; omega)]
theorem row_src {w : World} {A : Option Addr} {n c : Nat} {r : List Vl} (h : RowAt w (.slice A n c) r) (y : Nat) (h0 : 0 < (rowCells (r.take y)).length) :
    ∃ ad, A = some ad ∧ ∀ (j : Nat) (v : Value), (rowCells (r.take y))[j]? = some v → w.cell? (ad.add j) = some v := by
  have hn : n = r.length := by obtain ⟨A', c', hv, _⟩ := h; injection hv
  subst hn
  rw [rowCells_length, List.length_take] at h0
  obtain ⟨b, o, p, rfl, _⟩ := h.pair (j := 0) (List.getElem?_eq_getElem (show 0 < r.length by omega))
  refine ⟨_, rfl, fun j v hj => h.cells j v ?_⟩
  rw [rowCells_take] at hj
  have := (List.getElem?_eq_some_iff.1 hj).1
  rw [List.length_take] at this
  rwa [List.getElem?_take_of_lt (by omega)] at hj
theorem flat_step {w1 wr w4 : World} {g z y : Nat} {t : List (List Vl)} {cols : List Int} {js : List Nat} {q j : Nat} {r : List Vl} (hr : r = Mt.row t j) (h : Below w1.heap.size w1 wr) (hg : w1.heap.size ≤ g)
    (hst : splice (rowCells (laid13 t cols js q)) (z * 2) (rowCells ((Mt.row t j).take y)) = rowCells (laid13 t cols js (q + 1)))
    (h4 : Hid (w4.heap[g]? = some (.cells (splice (rowCells (laid13 t cols js q)) (z * 2) (rowCells (r.take y))).toArray 42 (0, 0)) ∧ Keeps (fun k => k ≠ g) wr.drew w4 ∧ w4.heap.size = wr.drew.heap.size)) :
    Lies w4 g 42 (rowCells (laid13 t cols js (q + 1))) ∧ Below w1.heap.size w1 w4 := by
  obtain ⟨e1, e2, _⟩ := h4.out
  subst hr
  rw [hst] at e1
  exact ⟨e1, (h.drew).trans (e2.below h.size fun b hb e => by omega)⟩
/-- what Flat tells -/
def Flat13 (w : World) (r : List Vl) (E : Ending) (w' : World) : Prop :=
  ∃ A c, E = .returned (.slice A r.length c) ∧ RowAt w' (.slice A r.length c) r ∧ Below w.heap.size w w'
theorem flat_row {w : World} {g : Nat} {r : List Vl} (h : Lies w g 42 (rowCells r)) : RowAt w (.slice (some ⟨g, 0, none⟩) r.length r.length) r :=
  ⟨_, _, rfl, Nat.le_refl _, fun j x hj => ⟨g, 0, none, rfl, h.lt, by rw [add_here13]; exact h.cell (rowCells_at r hj).1, by rw [add_here13]; exact h.cell (rowCells_at r hj).2⟩⟩
set_option maxRecDepth 100000 in
theorem flat_any (tv cv : Value) (t : List (List Vl)) (s : Nat) (cols : List Int) (w : World) (ht : RwsOn Al w tv t) (hs : s < 18446744073709551616) (hc : Sl w cv (cols.map (Value.int .i64))) (htl : t.length ≤ 1000) (ht2 : ∀ r ∈ t, r.length ≤ 1000) (hcl : cols.length ≤ 64) (hb : ∀ x ∈ cols, x ≤ 100) (hT : Tab w) :
    Calls Tryd.prog 17 #[tv, .int .u64 (s : Int), cv] w (Flat13 w (Mt.flat t s cols)) := by
  obtain ⟨i0, hi, hz0, hz1, hz2⟩ := info_parts Tryd.infoVal13
  obtain ⟨T0, t0, rfl, _⟩ := ht.form
  obtain ⟨B, d, hcv, _⟩ := id hc
  subst hcv
  rw [List.length_map] at hc ⊢
  have hfl := Mt.flat_memb t s cols hcl
  obtain ⟨m, hm⟩ : ∃ m, m = cols.length := ⟨_, rfl⟩
  rw [← hm] at hc hcl hfl ⊢
  have cb := below_any ((m : Int) - 1) w
  obtain ⟨bn, hbn⟩ : ∃ b, b = St.belowN ((m : Int) - 1) := ⟨_, rfl⟩
  have hbnl : bn < 18446744073709551616 := by rw [hbn]; exact St.belowN_lt _
  have hjb : ∀ j ∈ St.memb (s &&& bn), j < cols.length := fun j hj => by
    have h := (St.mem_memb.1 hj).2
    rw [Nat.testBit_and, hbn, St.testBit_belowN] at h
    simp at h
    omega
  rw [← hbn] at cb hfl
  have hand : bits BinOp.and .u64 (s : Int) (bn : Int) = ((s &&& bn : Nat) : Int) := bits_and_u64_nat s bn hs hbnl
  have hand2 : bits BinOp.and .u64 (bn : Int) (s : Int) = ((s &&& bn : Nat) : Int) := by rw [bits_and_u64_nat bn s hbnl hs, Nat.and_comm]
  obtain ⟨X, hX⟩ : ∃ X, X = s &&& bn := ⟨_, rfl⟩
  rw [← hX] at hand hand2 hfl hjb
  have hXl : X < 18446744073709551616 := by rw [hX]; exact Nat.lt_of_le_of_lt Nat.and_le_left hs
  have cs := slist_any (X : Int) w (U64.of hXl) hT
  rw [Int.toNat_natCast] at cs
  have hjl : (St.memb X).length ≤ 64 := by rw [St.memb_length]; exact St.pop_le 64 X
  obtain ⟨js, hjs⟩ : ∃ js, js = St.memb X := ⟨_, rfl⟩
  rw [← hjs] at cs hfl hjb hjl
  rw [← hfl]
  have hwl := Mt.wide_le hb js
  have HC := Lib.hid (And.intro hc (And.intro hm (And.intro hjb hb)))
  have HT := Lib.hid (And.intro ht (And.intro htl ht2))
  obtain ⟨tl, htl'⟩ : ∃ n, n = t.length := ⟨_, rfl⟩
  rw [← htl'] at HT ⊢
  have HTL := Lib.hid htl'
  clear hc hm hjb hb ht htl ht2 htl' hfl hbn hbnl hX hXl hjs hT hs
  go_enter Tryd.func17, Tryd.ntmps17
  go_wp2_with (first
    | (go_at_call 31; refine cb.mono ?_; rintro e w' ⟨rfl, rfl⟩)
    | (go_at_call 30; refine cs.mono ?_))
  rintro E w1 ⟨v1, rfl, hown, hb1⟩
  have hsl : Sl w1 v1 ((ints js).map (Value.int .i64)) := Sl.own hown
  have cw := width_any v1 _ js cols w1 hsl (HC.out.1.below hb1 (Nat.le_refl _) |> fun h => by rw [HC.out.2.1] at h; exact h) HC.out.2.2.1 HC.out.2.2.2 hjl
  obtain ⟨V, vc, rfl⟩ := ownsForm hown
  have hjle : (ints js).length = js.length := by simp [ints]
  rw [← HC.out.2.1] at cw
  rw [hjle] at cw hsl ⊢
  have HSL := Lib.hid hsl
  have HB1 := Lib.hid hb1
  clear cs cb hown hand hand2 hjle hsl hb1
  have hw64 : Mt.wide cols js ≤ 6400 := by omega
  have cr := repeat_any (Mt.wide cols js) 1 (some ⟨w1.heap.size, 0, none⟩) (true, 0) (w1.alloc (Obj.cells #[.bool true, .int .i64 0] 42)) (by omega) (flat_row (r := [(true, 0)]) (Lies.new w1 42 [.bool true, .int .i64 0]))
  rw [← laid13_start t cols js] at cr
  have HLEN := Lib.hid (laid13_length t cols js 0)
  obtain ⟨W, hW⟩ : ∃ W, W = Mt.wide cols js := ⟨_, rfl⟩
  rw [← hW] at cw cr hw64 HLEN
  have HW := Lib.hid hW
  clear hW hwl
  go_wp2_with (first
    | (go_at_call 32; refine cw.mono ?_; rintro e w' ⟨rfl, rfl⟩)
    | (go_at_call 33; refine cr.mono ?_))
  rintro E w3 ⟨g, rfl, hge, hl3, hb3⟩
  rw [HLEN.out]
  have hb03 : Below w1.heap.size w1 w3 := below_join (below_new w1 _) hb3
  have hge2 : w1.heap.size ≤ g := by simp at hge; omega
  have HS := Lib.hid (And.intro hl3 (And.intro hb03 hge2))
  clear cw cr hl3 hb3 hge hb03 hge2
  go_wp2_with fail
  go_loopw [11, 36] (fun s i wr => ∃ (q z : Nat), q ≤ js.length ∧ i = .int .i64 q ∧ s = .int .i64 z ∧ z ≤ W ∧ Hid (z = Mt.wide cols (js.take q)) ∧ Hid (Lies wr g 42 (rowCells (laid13 t cols js q)) ∧ Below w1.heap.size w1 wr)) (fun _ i _ => js.length - (intOf i).toNat)
  case atStart => exact ⟨0, 0, by omega, rfl, rfl, by omega, Lib.hid rfl, Lib.hid ⟨HS.out.1, HS.out.2.1⟩⟩
  case round =>
    obtain ⟨q, z, hq, rfl, rfl, hz, HZ, HR⟩ := hrel
    by_cases hlt : q < js.length
    · obtain ⟨j, gj⟩ : ∃ j, js[q]? = some j := ⟨js[q]'hlt, List.getElem?_eq_getElem _⟩
      have hjm : j < m := by rw [HC.out.2.1]; exact HC.out.2.2.1 j (List.mem_of_getElem? gj)
      obtain ⟨x, gx⟩ : ∃ x, cols[j]? = some x := ⟨cols[j]'(by have := HC.out.2.1; omega), List.getElem?_eq_getElem _⟩
      have hx := HC.out.2.2.2 x (List.mem_of_getElem? gx)
      obtain ⟨b1, o1, p1, rfl, _, y0⟩ := ints_cell (l := js.map Int.ofNat) (j := q) (x := (j : Int)) (HSL.out.below HR.out.2 (Nat.le_refl _)) (by rw [List.getElem?_map, gj]; rfl)
      have hb0 := below_join HB1.out HR.out.2
      obtain ⟨b2, o2, p2, rfl, _, y1⟩ := ints_cell (HC.out.1.below hb0 (Nat.le_refl _)) gx
      have i1 : (0 : Int) ≤ (q : Int) := by omega
      have i2 : (q : Int) < (js.length : Int) := by omega
      have i3 : (0 : Int) ≤ (j : Int) := by omega
      have i4 : (j : Int) < (m : Int) := by omega
      have hwt := Mt.wide_take (cols := cols) gj
      have hwm := Mt.wide_mono (cols := cols) (js := js) (q + 1)
      have hnum := Mt.num_at gx
      have hst := laid13_step (t := t) (cols := cols) gj
      have hsk := laid13_skip (t := t) (cols := cols) gj
      rw [hnum, ← HZ.out] at hst hwt
      rw [← HW.out] at hwm
      have HST := Lib.hid (And.intro hst (And.intro hsk (And.intro hwt hwm)))
      have HLL := Lib.hid (laid13_length t cols js q)
      have HB0 := Lib.hid hb0
      clear gj gx hst hsk hwt hwm hnum hb0 hjm
      obtain ⟨y, hy⟩ : ∃ y, y = x.toNat := ⟨_, rfl⟩
      have hzy : z + y ≤ W := by have := HST.out.2.2; omega
      have hy100 : y ≤ 100 := by omega
      rw [← hy] at HST
      by_cases hjt : j < tl
      · obtain ⟨b3, o3, p3, B3, d3, rfl, _, _, y2, hd3, hrow⟩ := (HT.out.1.below HB0.out (Nat.le_refl _)).at_ (Mt.row_mem (show j < t.length by rw [← HTL.out]; exact hjt))
        have i5 : (j : Int) < (tl : Int) := by omega
        have hrl := HT.out.2.2 _ (List.mem_of_getElem? (Mt.row_mem (show j < t.length by rw [← HTL.out]; exact hjt)))
        obtain ⟨r, hr⟩ : ∃ r, r = Mt.row t j := ⟨_, rfl⟩
        rw [← hr] at y2 hrl hd3 hrow
        obtain ⟨rl, hrl'⟩ : ∃ n, n = r.length := ⟨_, rfl⟩
        rw [← hrl'] at y2 hrl hd3 hrow
        have HROW := Lib.hid (show RowAt wr.drew (.slice B3 rl d3) r from hrow.at_)
        have HRJ := Lib.hid (And.intro hr hrl')
        clear hrow hjt hr hrl'
        have HHS := Lib.hid HS.out.2.2
        by_cases hzW : z = W
        · obtain rfl : y = 0 := by omega
          rcases (show x < 0 ∨ x = 0 by omega) with hx0 | hx0
          · clear hy
            go_wp2_with fail
            go_region_law (refine step_copy_any rfl (.tmp 54) (.tmp 58) _ _ rfl 42 2 Tryd.underlying36 (by rw [hi]; exact congrArg some hz1) (some ⟨g, 0, none⟩) B3 0 0 rl d3 (by simp [Act.eval]) (by simp [Act.eval]) g (z * 2) (rowCells (laid13 t cols js q)) 42 HR.out.1 (Nat.min rl 0) rfl (rowCells (r.take 0)) (by rw [rowCells_length, List.length_take, ← HRJ.out.2]; exact congrArg (· * 2) (Nat.min_comm _ _)) (fun h0 => ⟨absurd h0 (by simp [rowCells]), row_src HROW.out _ h0⟩) (by decide) (by have := HLL.out; rw [rowCells_length, rowCells_length, List.length_take, HLL.out, ← HW.out]; omega) (rowCells_one _) ?_; intro w4 hg4)
            have HR4 := Lib.hid (flat_step HRJ.out.1 HR.out.2 HHS.out HST.out.1 hg4)
            clear hg4
            go_simp
            go_wp2_with fail
            go_roundw
            case rel => exact ⟨q + 1, _, by omega, by go_num, by first | rfl | go_num, hzy, Lib.hid HST.out.2.2.1.symm, HR4⟩
            case measure => simp [intOf]; omega
          · clear hy
            subst hx0
            go_wp2_with fail
            go_region_law (refine step_copy_any rfl (.tmp 54) (.tmp 58) _ _ rfl 42 2 Tryd.underlying36 (by rw [hi]; exact congrArg some hz1) (some ⟨g, 0, none⟩) B3 0 0 rl d3 (by simp [Act.eval]) (by simp [Act.eval]) g (z * 2) (rowCells (laid13 t cols js q)) 42 HR.out.1 (Nat.min rl 0) rfl (rowCells (r.take 0)) (by rw [rowCells_length, List.length_take, ← HRJ.out.2]; exact congrArg (· * 2) (Nat.min_comm _ _)) (fun h0 => ⟨absurd h0 (by simp [rowCells]), row_src HROW.out _ h0⟩) (by decide) (by have := HLL.out; rw [rowCells_length, rowCells_length, List.length_take, HLL.out, ← HW.out]; omega) (rowCells_one _) ?_; intro w4 hg4)
            have HR4 := Lib.hid (flat_step HRJ.out.1 HR.out.2 HHS.out HST.out.1 hg4)
            clear hg4
            go_simp
            go_wp2_with fail
            go_roundw
            case rel => exact ⟨q + 1, _, by omega, by go_num, by first | rfl | go_num, hzy, Lib.hid HST.out.2.2.1.symm, HR4⟩
            case measure => simp [intOf]; omega
        · have hzW2 : ¬ W = z := fun e => hzW e.symm
          have i7 : (z : Int) + (y : Int) ≤ (W : Int) := by omega
          have i8 : (0 : Int) ≤ (z : Int) + (y : Int) := by omega
          have i9 : (z : Int) ≤ (z : Int) + (y : Int) := by omega
          have i10 : ((z : Int) + (y : Int)).toNat = z + y := by omega
          rcases (show (x < 0 ∧ y = 0) ∨ (¬ x < 0 ∧ x = y) by omega) with ⟨hx0, hy0⟩ | ⟨hx0, hy0⟩
          · clear hy i7 i8 i9 i10
            subst hy0
            go_wp2_with fail
            go_region_law (refine step_copy_any rfl (.tmp 54) (.tmp 58) _ _ rfl 42 2 Tryd.underlying36 (by rw [hi]; exact congrArg some hz1) (some ⟨g, z * 2, none⟩) B3 0 (W - z) rl d3 (by simp [Act.eval]) (by simp [Act.eval]) g (z * 2) (rowCells (laid13 t cols js q)) 42 HR.out.1 (Nat.min rl 0) rfl (rowCells (r.take 0)) (by rw [rowCells_length, List.length_take, ← HRJ.out.2]; exact congrArg (· * 2) (Nat.min_comm _ _)) (fun h0 => ⟨rfl, row_src HROW.out _ h0⟩) (by decide) (by have := HLL.out; rw [rowCells_length, rowCells_length, List.length_take, HLL.out, ← HW.out]; omega) (rowCells_one _) ?_; intro w4 hg4)
            have HR4 := Lib.hid (flat_step HRJ.out.1 HR.out.2 HHS.out HST.out.1 hg4)
            clear hg4
            go_simp
            go_wp2_with fail
            go_roundw
            case rel => exact ⟨q + 1, _, by omega, by go_num, by first | rfl | go_num, hzy, Lib.hid HST.out.2.2.1.symm, HR4⟩
            case measure => simp [intOf]; omega
          · clear hy
            subst hy0
            go_wp2_with fail
            go_region_law (refine step_copy_any rfl (.tmp 54) (.tmp 58) _ _ rfl 42 2 Tryd.underlying36 (by rw [hi]; exact congrArg some hz1) (some ⟨g, z * 2, none⟩) B3 y (W - z) rl d3 (by simp [Act.eval]) (by simp [Act.eval]) g (z * 2) (rowCells (laid13 t cols js q)) 42 HR.out.1 (Nat.min rl y) rfl (rowCells (r.take y)) (by rw [rowCells_length, List.length_take, ← HRJ.out.2]; exact congrArg (· * 2) (Nat.min_comm _ _)) (fun h0 => ⟨rfl, row_src HROW.out _ h0⟩) (by decide) (by have := HLL.out; rw [rowCells_length, rowCells_length, List.length_take, HLL.out, ← HW.out]; omega) (rowCells_one _) ?_; intro w4 hg4)
            have HR4 := Lib.hid (flat_step HRJ.out.1 HR.out.2 HHS.out HST.out.1 hg4)
            clear hg4
            go_simp
            go_wp2_with fail
            go_roundw
            case rel => exact ⟨q + 1, _, by omega, by go_num, by first | rfl | go_num, hzy, Lib.hid HST.out.2.2.1.symm, HR4⟩
            case measure => simp [intOf]; omega
      · have i5 : ¬ ((j : Int) < (tl : Int)) := by omega
        have hst := HST.out.2.1 (by rw [← HTL.out]; omega)
        have HR2 := Lib.hid (show Lies wr g 42 (rowCells (laid13 t cols js (q + 1))) ∧ Below w1.heap.size w1 wr from by rw [hst]; exact HR.out)
        clear hst hjt
        rcases (show (x < 0 ∧ y = 0) ∨ (¬ x < 0 ∧ x = y) by omega) with ⟨hx0, hy0⟩ | ⟨hx0, hy0⟩
        all_goals
          clear hy
          subst hy0
          go_wp2_with fail
          go_roundw
          case rel => exact ⟨q + 1, _, by omega, by go_num, by first | rfl | go_num, hzy, Lib.hid HST.out.2.2.1.symm, HR2⟩
          case measure => simp [intOf]; omega
    · have i2 : ¬ ((q : Int) < (js.length : Int)) := by omega
      have hres := Lib.hid (show Flat13 w (Mt.flatOf t cols js) (.returned (.slice (some ⟨g, 0, none⟩) W W)) wr from by
        have h := HR.out
        rw [show q = js.length by omega, laid13_end] at h
        have hl : (Mt.flatOf t cols js).length = W := by rw [Mt.flatOf_length, HW.out]
        exact ⟨_, W, by rw [hl], by rw [← hl]; exact flat_row h.1, below_join HB1.out h.2⟩)
      clear hlt
      go_wp2_with fail
      go_ret
      exact hres.out
end Go.Proofs.YtdlmpaipphjdpaaDoor
