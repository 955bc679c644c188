/-
  THE CHAPTER's EXAMPLE of layer 9.
-/
import Derived.Test.YtaodobjekpacoaaBgzM
import Derived.Test.YtaodobjekpacoaaBgrM
import Derived.Deep.RegionHeld3
import Derived.ArgAppend
namespace Go.Proofs.Ytaodobjekpacoaa
open Go.RowKit Go.Sort
set_option maxHeartbeats 6400000

theorem below_alloc9 {W0 W : World} (h : Below W0.heap.size W0 W) (o : Obj) : Below W0.heap.size W0 (W.alloc o) := h.alloc h.size _
theorem six_boxes {w W : World} {t0 t1 t2 t3 t4 t5 : TypeId} {c0 c1 c2 c3 c4 c5 : List Value} (h : W = (((((w.alloc (.cells c0.toArray t0)).alloc (.cells c1.toArray t1)).alloc (.cells c2.toArray t2)).alloc (.cells c3.toArray t3)).alloc (.cells c4.toArray t4)).alloc (.cells c5.toArray t5)) :
    Lies W w.heap.size t0 c0 ∧ Lies W (w.heap.size + 1) t1 c1 ∧ Lies W (w.heap.size + 1 + 1) t2 c2 ∧ Lies W (w.heap.size + 1 + 1 + 1) t3 c3 ∧ Lies W (w.heap.size + 1 + 1 + 1 + 1) t4 c4 ∧ Lies W (w.heap.size + 1 + 1 + 1 + 1 + 1) t5 c5 ∧ Below w.heap.size w W := by
  have l1 := Lies.new (w.alloc (.cells c0.toArray t0)) t1 c1
  have l2 := Lies.new ((w.alloc (.cells c0.toArray t0)).alloc (.cells c1.toArray t1)) t2 c2
  have l3 := Lies.new (((w.alloc (.cells c0.toArray t0)).alloc (.cells c1.toArray t1)).alloc (.cells c2.toArray t2)) t3 c3
  have l4 := Lies.new ((((w.alloc (.cells c0.toArray t0)).alloc (.cells c1.toArray t1)).alloc (.cells c2.toArray t2)).alloc (.cells c3.toArray t3)) t4 c4
  have l5 := Lies.new (((((w.alloc (.cells c0.toArray t0)).alloc (.cells c1.toArray t1)).alloc (.cells c2.toArray t2)).alloc (.cells c3.toArray t3)).alloc (.cells c4.toArray t4)) t5 c5
  simp only [World.size_alloc] at l1 l2 l3 l4 l5
  rw [h]
  exact ⟨(((((Lies.new w t0 c0).alloc _).alloc _).alloc _).alloc _).alloc _, (((l1.alloc _).alloc _).alloc _).alloc _, ((l2.alloc _).alloc _).alloc _, (l3.alloc _).alloc _, l4.alloc _, l5,
    below_alloc9 (below_alloc9 (below_alloc9 (below_alloc9 (below_alloc9 (below_new _ _) _) _) _) _) _⟩
theorem row_lies {W : World} {g : Nat} {t : TypeId} {b : Bool} {n : Int} (h : Lies W g t [.bool b, .int .i64 n]) : RowAt W (.slice (some ⟨g, 0, none⟩) 1 1) [(b, n)] := by
  refine ⟨some ⟨g, 0, none⟩, 1, rfl, Nat.le_refl _, fun j x hj => ?_⟩
  cases j with
  | succ j => simp at hj
  | zero =>
    simp at hj
    subst hj
    exact ⟨g, 0, none, rfl, h.lt, by rw [add_here9]; exact h.cell rfl, by rw [add_here9]; exact h.cell rfl⟩
theorem rws_lies {W : World} {G c : Nat} {t : TypeId} {vs us : List Value} {rs : List (List Vl)} (h : Lies W G t us) (hp : ∀ (j : Nat) (u : Value), vs[j]? = some u → us[j]? = some u) (hc : vs.length ≤ c) (hl : vs.length = rs.length)
    (hr : ∀ (i : Nat) (r : List Vl), rs[i]? = some r → ∃ u, vs[i]? = some u ∧ RowAt W u r) : RwsOf W (.slice (some ⟨G, 0, none⟩) vs.length c) vs rs :=
  ⟨⟨some ⟨G, 0, none⟩, c, rfl, hc, fun j u hu => ⟨G, 0, none, rfl, h.lt, by rw [add_here9]; exact h.cell (hp j u hu)⟩⟩, hl, hr⟩
theorem two_rows {W : World} {u v : Value} {r s : List Vl} (hu : RowAt W u r) (hv : RowAt W v s) : ∀ (i : Nat) (q : List Vl), [r, s][i]? = some q → ∃ z, [u, v][i]? = some z ∧ RowAt W z q := by
  intro i q hq
  match i, hq with
  | 0, hq => cases hq; exact ⟨u, rfl, hu⟩
  | 1, hq => cases hq; exact ⟨v, rfl, hv⟩
theorem wp_append_arg9 {P : Program} (w : World) {o : Oper} {a : Act} {K : Act → World → Prop} {Q : Exit → Act → World → Prop} (s x : Operand) (t : TypeId)
    (ho : o.op = .call { callee := .builtin .append, args := #[s, x], argTypes := #[t, t] })
    (e : TypeId) (i : TypeInfo) (z : Value) (size bytes : Nat) (ht : P.underlying t = some (.slice e)) (hi : P.info? e = some i) (hz : i.zero = some z)
    (hsize : i.size = size) (hby : i.bytes = bytes) (hzs : z.cells.size = size) (hs0 : 0 < size)
    (b : Addr) (n cap : Nat) (olds : List Value) (hs : a.eval s = .slice (some b) n cap) (hlo : olds.length = n * size) (holds : ∀ j u, olds[j]? = some u → w.cell? (b.add j) = some u)
    (ad : Addr) (m c : Nat) (news : List Value) (hx : a.eval x = .slice (some ad) m c) (hn : news.length = m * size) (hc : ∀ j u, news[j]? = some u → w.cell? (ad.add j) = some u)
    (hfull : cap < n + m) (b1 : n + m ≤ maxLen) (b2 : (n + m) * bytes ≤ 140737488355328)
    (h : ∀ v' w', w'.ownsRow w.heap.size e size v' (n + m) (olds ++ news) → w.grownBy w' none → K (a.put o.dst v') w') : o.wp P a w K Q := by
  obtain ⟨v', w', hrun, r1, r2⟩ := run_append_arg_grows (P := P) w t o.type e i z size bytes ht hi hz hsize hby hzs hs0 b n cap olds hlo holds ad m c news hn hc hfull b1 b2
  unfold Oper.wp
  simp [execOp, ho, resolve, invoke, builtin, hs, hx, hrun, Result.andThen]
  exact h v' w' r1 r2
theorem built_two (W : World) (o : Obj) (x y : Value) (Z : Array Value) (t : TypeId) (c : Nat) (hc : 2 ≤ c) : Sl (((W.alloc o).alloc (Obj.cells (#[x, y] ++ Z) t)).drew) (.slice (some ⟨W.heap.size + 1, 0, none⟩) 2 c) [x, y] := by
  have l := (Lies.new (W.alloc o) t ([x, y] ++ Z.toList)).drew
  rw [World.size_alloc] at l
  have e : ([x, y] ++ Z.toList).toArray = #[x, y] ++ Z := by simp
  rw [e] at l
  exact ⟨some ⟨W.heap.size + 1, 0, none⟩, c, rfl, hc, fun j u hu => ⟨W.heap.size + 1, 0, none, rfl, l.lt, by
    rw [add_here9]
    exact l.cell (by rw [List.getElem?_append_left (List.getElem?_eq_some_iff.1 hu).1]; exact hu)⟩⟩
abbrev rowsA9 : List (List Vl) := [[(true, 0)], [(false, 1)]]
abbrev rowsB9 : List (List Vl) := [[(false, 1)], [(true, 0)]]
theorem ordA9 : So.Ord Bg.cr rowsA9 := by
  unfold So.Ord
  simp [So.Le, Bg.cr, Bg.lex, Bg.cv, Va.same, Va.less]
theorem same_yes9 : Bg.same Bg.cr rowsA9 rowsB9 = true := by decide
theorem same_no9 : Bg.same Bg.cr rowsA9 [[(false, 1)]] = false := by decide
theorem same_nil9 : Bg.same Bg.cr rowsA9 [[(true, 0)], [(true, 0)]] = false := by decide
theorem less9 : decide (Bg.cr [(true, 0)] [(false, 1)] < 0) = true := by decide
theorem times9 : Bg.times Bg.cr rowsA9 [(false, 1)] = 1 := by decide
theorem sorted9 {S : List (List Vl)} (hp : S.Perm rowsB9) (ho : So.Ord Bg.cr S) : decide (Bg.lex Bg.cr S rowsA9 = 0) = true := by
  rw [decide_eq_true_iff]
  have hp2 : S.Perm rowsA9 := hp.trans (List.Perm.swap _ _ _)
  exact Bg.ord_same Bg.cr_cmp ho ordA9 hp2.length_eq fun x => Bg.upTo_perm hp2 x
theorem Try.infoRowB : (Try.prog.info? 24).map (fun i => (i.zero, i.size, i.bytes)) = some (some (.slice none 0 0), 1, 24) := by kernel_rfl
set_option maxRecDepth 100000 in
theorem awake9_any (w : World) :
    Calls Try.prog 7 #[] w fun e w' => e = .returned (.bool true) ∧ Below w.heap.size w w' := by
  obtain ⟨W1, hW1⟩ : ∃ W1, W1 = ((((((w.alloc (Obj.cells #[.bool true, .int .i64 0] 33)).alloc (Obj.cells #[.bool false, .int .i64 1] 33)).alloc (Obj.cells #[.slice (some ⟨w.heap.size, 0, none⟩) 1 1, .slice (some ⟨w.heap.size + 1, 0, none⟩) 1 1] 24)).alloc (Obj.cells #[.bool false, .int .i64 1] 33)).alloc (Obj.cells #[.bool true, .int .i64 0] 33)).alloc (Obj.cells #[.slice (some ⟨w.heap.size + 1 + 1 + 1, 0, none⟩) 1 1, .slice (some ⟨w.heap.size + 1 + 1 + 1 + 1, 0, none⟩) 1 1] 24)) := ⟨_, rfl⟩
  obtain ⟨l0, l1, l2, l3, l4, l5, hb1⟩ := six_boxes hW1
  have ra0 := row_lies l0
  have ra1 := row_lies l1
  have rb0 := row_lies l3
  have rb1 := row_lies l4
  have hA : RwsOf W1 (.slice (some ⟨w.heap.size + 1 + 1, 0, none⟩) 2 2) [.slice (some ⟨w.heap.size, 0, none⟩) 1 1, .slice (some ⟨w.heap.size + 1, 0, none⟩) 1 1] rowsA9 := rws_lies l2 (fun j u h => h) (Nat.le_refl _) rfl (two_rows ra0 ra1)
  have hB : RwsOf W1 (.slice (some ⟨w.heap.size + 1 + 1 + 1 + 1 + 1, 0, none⟩) 2 2) [.slice (some ⟨w.heap.size + 1 + 1 + 1, 0, none⟩) 1 1, .slice (some ⟨w.heap.size + 1 + 1 + 1 + 1, 0, none⟩) 1 1] rowsB9 := rws_lies l5 (fun j u h => h) (Nat.le_refl _) rfl (two_rows rb0 rb1)
  have hB1 : RwsOf W1 (.slice (some ⟨w.heap.size + 1 + 1 + 1 + 1 + 1, 0, none⟩) 1 2) [.slice (some ⟨w.heap.size + 1 + 1 + 1, 0, none⟩) 1 1] [[(false, 1)]] := rws_lies (vs := [.slice (some ⟨w.heap.size + 1 + 1 + 1, 0, none⟩) 1 1]) l5 (fun j u h => by cases j with
    | zero => exact h
    | succ j => simp at h) (by simp) rfl (fun i q hq => by cases i with
    | zero => cases hq; exact ⟨_, rfl, rb0⟩
    | succ i => simp at hq)
  have sm : ∀ x ∈ rowsA9, x.length ≤ 1000000 := by decide
  have smB : ∀ x ∈ rowsB9, x.length ≤ 1000000 := by decide
  have c1 := in_turn (W0 := W1) fun W h => bsameb_any _ _ _ _ _ _ W (hA.below h (Nat.le_refl _)) (hB.below h (Nat.le_refl _)) (by decide) (by decide) sm smB
  have c2 := in_turn (W0 := W1) fun W h => bsameb_any _ _ _ _ _ _ W (hA.below h (Nat.le_refl _)) (hB1.below h (Nat.le_refl _)) (by decide) (by decide) sm (by decide)
  have c3 := in_turn (W0 := W1) fun W h => bless_any _ _ _ _ W (ra0.below h (Nat.le_refl _)) (ra1.below h (Nat.le_refl _)) (by decide) (by decide)
  have c4 := in_turn (W0 := W1) fun W h => btimes_any _ _ _ _ _ W (hA.below h (Nat.le_refl _)) (rb0.below h (Nat.le_refl _)) (by decide) (by decide) (by decide)
  have c5 := fun (W : World) (h : Below W1.heap.size W1 W) => (bsorted_any _ _ _ W (hB.below h (Nat.le_refl _)) (by decide) smB).mono fun e w' hE => (show ∃ (v : Value) (us : List Value) (S : List (List Vl)), e = .returned v ∧ S.Perm rowsB9 ∧ So.Ord Bg.cr S ∧ RwsOf w' v us S ∧ Below W1.heap.size W1 w' from by
    obtain ⟨v, us, S, he, hp, ho, hr, hb⟩ := hE
    exact ⟨v, us, S, he, hp, ho, hr, below_join h hb⟩)
  have c6 := fun (v : Value) (us : List Value) (S : List (List Vl)) (W : World) (hv : RwsOf W v us S) (hp : S.Perm rowsB9) (ho : So.Ord Bg.cr S) (h : Below W1.heap.size W1 W) => (r9list_any v _ us _ S rowsA9 W hv (hA.below h (Nat.le_refl _)) (fun x hx => by have := smB x (hp.mem_iff.1 hx); omega) (fun x hx => by have := sm x hx; omega) (by rw [hp.length_eq]; decide) (by decide)).mono fun e w' ⟨he, hb⟩ => (show e = Ending.returned (Value.bool true) ∧ Below W1.heap.size W1 w' from ⟨by rw [he, sorted9 hp ho], below_join h hb⟩)
  have c8 := fun (W : World) (o : Obj) (Z : Array Value) (c : Nat) (hc : 2 ≤ c) (h : Below W1.heap.size W1 W) => (bsameb_any _ (.slice (some ⟨W.heap.size + 1, 0, none⟩) 2 c) _ [.slice (some ⟨w.heap.size, 0, none⟩) 1 1, .slice (some ⟨w.heap.size, 0, none⟩) 1 1] _ [[(true, 0)], [(true, 0)]] (((W.alloc o).alloc (Obj.cells (#[.slice (some ⟨w.heap.size, 0, none⟩) 1 1, .slice (some ⟨w.heap.size, 0, none⟩) 1 1] ++ Z) 24)).drew) (hA.below (below_alloc9 (below_alloc9 h _) _).drew (Nat.le_refl _))
    ⟨built_two _ _ _ _ _ _ _ hc, rfl, two_rows (ra0.below (below_alloc9 (below_alloc9 h _) _).drew (Nat.le_refl _)) (ra0.below (below_alloc9 (below_alloc9 h _) _).drew (Nat.le_refl _))⟩ (by decide) (by decide) sm (by decide)).mono fun e w' ⟨he, hb⟩ => (show e = Ending.returned (Value.bool false) ∧ Below W1.heap.size W1 w' from ⟨by rw [he, same_nil9], below_join (below_alloc9 (below_alloc9 h _) _).drew hb⟩)
  rw [same_yes9] at c1
  rw [same_no9] at c2
  rw [less9] at c3
  rw [times9] at c4
  have k0 : W1.cell? ⟨w.heap.size + 1 + 1, 0, none⟩ = some (.slice (some ⟨w.heap.size, 0, none⟩) 1 1) := l2.cell rfl
  have k1 : W1.cell? ⟨w.heap.size + 1 + 1, 1, none⟩ = some (.slice (some ⟨w.heap.size + 1, 0, none⟩) 1 1) := l2.cell rfl
  have k2 : W1.cell? ⟨w.heap.size + 1 + 1 + 1 + 1 + 1, 0, none⟩ = some (.slice (some ⟨w.heap.size + 1 + 1 + 1, 0, none⟩) 1 1) := l5.cell rfl
  have lt2 := l2.lt
  have lt5 := l5.lt
  have KK := Lib.hid (fun W (h : Below W1.heap.size W1 W) => (show (W.cell? ⟨w.heap.size + 1 + 1, 0, none⟩ = some (.slice (some ⟨w.heap.size, 0, none⟩) 1 1) ∧ W.cell? ⟨w.heap.size + 1 + 1, 1, none⟩ = some (.slice (some ⟨w.heap.size + 1, 0, none⟩) 1 1) ∧ W.cell? ⟨w.heap.size + 1 + 1 + 1 + 1 + 1, 0, none⟩ = some (.slice (some ⟨w.heap.size + 1 + 1 + 1, 0, none⟩) 1 1)) ∧ Below W1.heap.size W1 W from ⟨⟨(h.cell lt2).trans k0, (h.cell lt2).trans k1, (h.cell lt5).trans k2⟩, h⟩))
  try simp only [List.length_cons, List.length_nil, Nat.zero_add] at c1 c2 c3 c4 c5 c6 c8
  replace c1 := Lib.hid c1
  replace c2 := Lib.hid c2
  replace c3 := Lib.hid c3
  replace c4 := Lib.hid c4
  replace c5 := Lib.hid c5
  replace c6 := Lib.hid c6
  replace c8 := Lib.hid c8
  have HW1 := Lib.hid hW1
  have HB1 := Lib.hid hb1
  have hS := Below.refl W1.heap.size W1
  obtain ⟨i0, hi, hz0, hz1, hz2⟩ := info_parts Try.infoRowB
  clear hW1 l0 l1 l2 l3 l4 l5 hb1 ra0 ra1 rb0 rb1 hA hB hB1 sm smB k0 k1 k2 lt2 lt5
  go_enter Try.func7, Try.ntmps7
  go_upto_region 3 with (fail)
  rw [← HW1.out]
  go_region_held3 (fun W => (W.cell? ⟨w.heap.size + 1 + 1, 0, none⟩ = some (.slice (some ⟨w.heap.size, 0, none⟩) 1 1) ∧ W.cell? ⟨w.heap.size + 1 + 1, 1, none⟩ = some (.slice (some ⟨w.heap.size + 1, 0, none⟩) 1 1) ∧ W.cell? ⟨w.heap.size + 1 + 1 + 1 + 1 + 1, 0, none⟩ = some (.slice (some ⟨w.heap.size + 1 + 1 + 1, 0, none⟩) 1 1)) ∧ Below W1.heap.size W1 W) (first | (exact KK.out _ (by repeat first | assumption | refine Below.drew ?_ | refine below_alloc9 ?_ _)))
    (first
      | (go_at_call 15; (with_reducible refine (c1.out _ (by repeat first | assumption | refine Below.drew ?_ | refine below_alloc9 ?_ _)).mono ?_); rintro e w' ⟨rfl, hS'⟩)
      | (go_at_call 15; (with_reducible refine (c2.out _ (by repeat first | assumption | refine Below.drew ?_ | refine below_alloc9 ?_ _)).mono ?_); rintro e w' ⟨rfl, hS'⟩)
      | (go_at_call 15; (with_reducible refine (c8.out _ _ _ _ (by with_unfolding_all exact grownCap_ge _ _ _ _) (by repeat first | assumption | refine Below.drew ?_ | refine below_alloc9 ?_ _)).mono ?_); rintro e w' ⟨rfl, hS'⟩)
      | (go_at_call 8; (with_reducible refine (c3.out _ (by repeat first | assumption | refine Below.drew ?_ | refine below_alloc9 ?_ _)).mono ?_); rintro e w' ⟨rfl, hS'⟩)
      | (go_at_call 17; (with_reducible refine (c4.out _ (by repeat first | assumption | refine Below.drew ?_ | refine below_alloc9 ?_ _)).mono ?_); rintro e w' ⟨rfl, hS'⟩)
      | (go_at_call 13; (with_reducible refine (c5.out _ (by repeat first | assumption | refine Below.drew ?_ | refine below_alloc9 ?_ _)).mono ?_); rintro e w' ⟨v5, us5, S5, rfl, hp5, ho5, hr5, hS5⟩)
      | (go_at_call 12; (with_reducible refine (c6.out _ _ _ _ (by assumption) (by assumption) (by assumption) (by repeat first | assumption | refine Below.drew ?_ | refine below_alloc9 ?_ _)).mono ?_); rintro e w' ⟨rfl, hS'⟩)
      | (fail "no arm"))
  all_goals
    go_wp2_with (fail)
    go_ret
    exact ⟨rfl, below_join HB1.out (by repeat first | assumption | refine Below.drew ?_ | refine below_alloc9 ?_ _)⟩
end Go.Proofs.Ytaodobjekpacoaa
