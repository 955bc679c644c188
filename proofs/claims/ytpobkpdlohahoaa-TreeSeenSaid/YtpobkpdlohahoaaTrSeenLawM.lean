/-
  THE LAW TreeSeen, walked.
-/
import Derived.Test.YtpobkpdlohahoaaTrTellsM
import Derived.Laws.BitsAllLaws
namespace Go.Proofs.Ytpobkpdlohahoaa
open Go.RowKit Go.Sort
set_option maxHeartbeats 6400000

theorem St.ofN_apps (l m : List Int) : St.ofN (l ++ m) = St.ofN l ||| St.ofN m := by
  have key : ∀ (m : List Int) (l : List Int), St.ofN (l ++ m) = St.ofN l ||| St.ofN m := by
    intro m
    induction m with
    | nil => intro l; rw [List.append_nil, St.ofN_nil, Nat.or_zero]
    | cons i r ih =>
      intro l
      have h1 := ih (l ++ [i])
      have h2 := ih [i]
      rw [List.append_assoc] at h1
      change St.ofN (l ++ i :: r) = _ at h1
      change St.ofN (i :: r) = _ at h2
      rw [h1, h2, St.ofN_app, Nat.or_assoc]
  exact key m l
/-- the tables of the leaves of some trees, as a set -/
def leafSet (l : List Tr) : Nat := St.ofN (leafTs l)
theorem leafSet_app (l m : List Tr) : leafSet (l ++ m) = leafSet l ||| leafSet m := by
  unfold leafSet leafTs
  rw [List.filter_append, List.map_append, St.ofN_apps]
theorem tables_set (a : Tr) : Tr.tables a = leafSet (Tr.alls a.ks) ||| leafSet [a] := by
  show leafSet (Tr.all a) = _
  rw [Tr.all_at, leafSet_app]
theorem or_in {x y z : Nat} (h : x ||| y = y) : x ||| (y ||| z) = y ||| z := by rw [← Nat.or_assoc, h]
theorem or_both {x y z v : Nat} (h : x ||| y = y) (h2 : z ||| v = v) : (x ||| z) ||| (y ||| v) = y ||| v := by
  have : (x ||| z) ||| (y ||| v) = (x ||| y) ||| (z ||| v) := by rw [Nat.or_assoc, ← Nat.or_assoc z y v, Nat.or_comm z y, Nat.or_assoc y z v, ← Nat.or_assoc]
  rw [this, h, h2]
theorem seen_in (a : Tr) : Tr.seen a ||| Tr.tables a = Tr.tables a := by
  refine Tr.ind (P := fun a => Tr.seen a ||| Tr.tables a = Tr.tables a) (fun a ih => ?_) a
  have hall : ∀ l : List Tr, (∀ b ∈ l, Tr.seen b ||| Tr.tables b = Tr.tables b) → Tr.seens l ||| leafSet (Tr.alls l) = leafSet (Tr.alls l) := by
    intro l
    induction l with
    | nil => intro _; rw [Tr.seens, Nat.zero_or]
    | cons b r ih2 =>
      intro h
      rw [Tr.seens, Tr.alls, leafSet_app]
      exact or_both (h b List.mem_cons_self) (ih2 fun c hc => h c (List.mem_cons_of_mem _ hc))
  have hone : ∀ l : List Tr, (∀ b ∈ l, Tr.seen b ||| Tr.tables b = Tr.tables b) → Tr.seen1 l ||| leafSet (Tr.alls l) = leafSet (Tr.alls l) := by
    intro l h
    cases l with
    | nil => rw [Tr.seen1, Nat.zero_or]
    | cons b r =>
      rw [Tr.seen1, Tr.alls, leafSet_app]
      exact or_in (h b List.mem_cons_self)
  rw [tables_set, Tr.seen_at]
  split
  · next hk =>
    have : leafSet [a] = St.ofN [a.t] := by unfold leafSet leafTs; simp [hk]
    rw [this, Nat.or_comm (leafSet _) _, ← Nat.or_assoc, Nat.or_self]
  · split
    · exact or_in (hone a.ks ih)
    · exact or_in (hall a.ks ih)
theorem seen_leaf {a : Tr} (hk : a.k = 0) (hn : a.ks = []) : Tr.seen a = Tr.tables a := by
  rw [tables_set, Tr.seen_at, if_pos hk, hn, Tr.alls]
  unfold leafSet leafTs
  simp [hk, St.ofN_nil]
theorem tables_lt (a : Tr) : Tr.tables a < 18446744073709551616 := St.ofN_lt _
theorem andNot_none {x y : Nat} (hx : x < 18446744073709551616) (hy : y < 18446744073709551616) (h : x ||| y = y) : bits .andNot .u64 (x : Int) (y : Int) = 0 := by
  rw [u64_andNot_nat x y hx hy]
  have : x &&& (18446744073709551615 - y) = 0 := by
    refine Nat.eq_of_testBit_eq fun i => ?_
    rw [Nat.testBit_and, Nat.zero_testBit]
    have e : (18446744073709551615 - y).testBit i = (decide (i < 64) && !y.testBit i) := by
      have := Nat.testBit_two_pow_sub_succ (n := 64) (x := y) (by omega) i
      rw [show 2 ^ 64 - (y + 1) = 18446744073709551615 - y by omega] at this
      exact this
    rw [e]
    have hb : x.testBit i = true → y.testBit i = true := fun hx => by
      rw [← h, Nat.testBit_or, hx, Bool.true_or]
    cases hxi : x.testBit i
    · rfl
    · rw [hb hxi]; simp
  rw [this]; rfl
/-- the first kid's table by one more -/
def bump (b : Tr) : Tr := .mk b.k (IntKind.i64.wrap (b.t + 1)) b.h b.cs b.ks
theorem bump_other (a b : Tr) (r : List Tr) (h : a.ks = b :: r) : Tr.same (.mk a.k a.t a.h a.cs (bump b :: r)) a = false := by
  have hne : Tr.same (bump b) b = false := by
    rw [Tr.same_at]
    have : ((bump b).t == b.t) = false := by
      rw [beq_eq_false_iff_ne]
      show IntKind.i64.wrap (b.t + 1) ≠ b.t
      rw [IntKind.wrap_i64]; omega
    rw [this]; simp
  rw [Tr.same_at]
  show (_ && _ && _ && _ && Tr.sames (bump b :: r) a.ks) = false
  rw [h, Tr.sames, hne]
  simp
/-- a store into the first kid of a row of its own -/
theorem TsTop.bump {lo d g c n : Nat} {w : World} {b : Tr} {r : List Tr} (h : TsTop lo d w (.slice (some ⟨g, 0, none⟩) n c) (b :: r)) :
    lo ≤ g ∧ w.cell? ⟨g, 1, none⟩ = some (.int .i64 b.t) ∧ w.frozen? ⟨g, 1, none⟩ = false ∧ TsTop lo d (w.setCell ⟨g, 1, none⟩ (.int .i64 (IntKind.i64.wrap (b.t + 1)))) (.slice (some ⟨g, 0, none⟩) n c) (Go.Proofs.Ytpobkpdlohahoaa.bump b :: r) := by
  obtain ⟨M, A, c', hM, hv, hl, h⟩ := h
  cases hv
  rcases h with h | ⟨g', e, rfl, hA, hlo, hrow, hx⟩
  · cases h
  · cases hA
    cases M with
    | nil => cases hM
    | cons x M =>
      obtain ⟨z, zu, zv⟩ := x
      simp only [List.map_cons, List.cons.injEq] at hM
      obtain ⟨rfl, hM⟩ := hM
      refine ⟨hlo, hrow.cell (k := 1) rfl, hrow.free 1, ?_⟩
      have hrow2 := hrow.sets (ys := [.int .i64 (IntKind.i64.wrap (z.t + 1))]) (zs := trCells ((Go.Proofs.Ytpobkpdlohahoaa.bump z, zu, zv) :: M)) (o := 1) (by rw [trCells_length, trCells_length]; rfl) (by rw [trCells_length]; simp; omega) (fun k hk => ?_) (fun i hi => ?_)
      · refine ⟨(Go.Proofs.Ytpobkpdlohahoaa.bump z, zu, zv) :: M, some ⟨g, 0, none⟩, c, ?_, ?_, ?_, .inr ⟨g, e, rfl, rfl, hlo, hrow2, fun j y hj => ?_⟩⟩
        · rw [List.map_cons, hM]
        · rw [List.length_cons, List.length_cons]
        · rw [List.length_cons] at hl ⊢; exact hl
        · have hk : ∀ k, g < k → k < w.heap.size → (w.setCell ⟨g, 1, none⟩ (.int .i64 (IntKind.i64.wrap (z.t + 1)))).heap[k]? = w.heap[k]? ∧ g < k := fun k hk _ => ⟨Below.heap_setCell _ _ _ _ (by show k ≠ g; omega), hk⟩
          have hs : w.heap.size ≤ (w.setCell ⟨g, 1, none⟩ (.int .i64 (IntKind.i64.wrap (z.t + 1)))).heap.size := by simp [World.setCell]
          cases j with
          | zero =>
            cases hj
            obtain ⟨⟨D, h1⟩, h2⟩ := hx 0 _ rfl
            exact ⟨⟨D, h1.keep hs hk⟩, h2.keep hs hk⟩
          | succ j =>
            obtain ⟨⟨D, h1⟩, h2⟩ := hx (j + 1) y hj
            exact ⟨⟨D, h1.keep hs hk⟩, h2.keep hs hk⟩
      · simp only [List.length_cons, List.length_nil] at hk
        have e1 : trCells ((Go.Proofs.Ytpobkpdlohahoaa.bump z, zu, zv) :: M) = [.int .i64 z.k, .int .i64 (IntKind.i64.wrap (z.t + 1)), zu, zv, .bool z.h] ++ trCells M := rfl
        have e2 : trCells ((z, zu, zv) :: M) = [.int .i64 z.k, .int .i64 z.t, zu, zv, .bool z.h] ++ trCells M := rfl
        rw [e1, e2]
        match k, hk with
        | 0, _ => rfl
        | 1, hk => omega
        | k + 2, _ => rfl
      · simp only [List.length_cons, List.length_nil] at hi
        obtain rfl : i = 0 := by omega
        rfl
set_option maxRecDepth 100000 in
theorem treeseen_any (a : Tr) (u x : Value) (w : World) (hu : ∃ d, TsAt d w u a.ks) (hx : PsSome w x a.cs) :
    Calls Try.prog 5 #[.agg #[.int .i64 a.k, .int .i64 a.t, u, x, .bool a.h]] w fun e w' => e = .returned (.bool true) ∧ Below w.heap.size w w' := by
  have hha : TrHang w (a, u, x) := ⟨hu, hx⟩
  obtain ⟨A, c, rfl, hl⟩ := hu.elim fun d h => h.form
  obtain ⟨A', c', rfl, hl'⟩ := hx.elim fun d h => h.form
  clear hu hx
  obtain ⟨W0, hW0⟩ : ∃ W0, W0 = w.alloc (Obj.cells #[.int .i64 a.k, .int .i64 a.t, .slice A a.ks.length c, .slice A' a.cs.length c', .bool a.h] 25) := ⟨_, rfl⟩
  obtain ⟨l0, hb0⟩ := box_one (cs := a.cells (.slice A a.ks.length c) (.slice A' a.cs.length c')) hW0
  have hsz0 : w.heap.size < W0.heap.size := l0.lt
  have hha0 := hha.below hb0
  have c1 := in_turn (W0 := W0) fun W h => (hha0.below h).1.elim fun d hd => r10size_any d a _ _ 301 W hd (hha0.below h).2 (by decide) (by decide)
  have c3 := in_turn (W0 := W0) fun W h => awake10_any W
  obtain ⟨m, hm⟩ : ∃ m : Int, m = min (Tr.size a : Int) 301 := ⟨_, rfl⟩
  rw [← hm] at c1
  have k0 := l0.tr
  have KK := Lib.hid (fun W (h : Below W0.heap.size W0 W) => keep5 k0 hsz0 h)
  have HW := Lib.hid hW0
  have HB := Lib.hid hb0
  have C1 := Lib.hid c1
  have C3 := Lib.hid c3
  have HA := Lib.hid hha0
  clear c1 c3 hha hha0 l0 hb0 hsz0
  obtain ⟨n, hn⟩ : ∃ n, n = a.ks.length := ⟨_, rfl⟩
  obtain ⟨n', hn'⟩ : ∃ n, n = a.cs.length := ⟨_, rfl⟩
  rw [← hn, ← hn'] at C1 KK HA HW
  rw [← hn] at hl ⊢
  rw [← hn'] at hl' ⊢
  have HN := Lib.hid hn
  have HN' := Lib.hid hn'
  obtain ⟨p0, p1, p2, p3, p4⟩ := KK.out W0 (Below.refl _ _)
  clear k0 hW0 hn hn'
  rw [HW.out] at p0 p1 p2 p3 p4
  go_enter Try.func5, Try.ntmps5
  go_wp2_with fail
  rw [← HW.out]
  refine (C1.out _ (Below.refl _ _)).mono ?_
  rintro e w1 ⟨rfl, hb1⟩
  clear p0 p1 p2 p3 p4
  by_cases hs : 300 < Tr.size a
  · obtain rfl : m = 301 := by omega
    clear hm
    have ca := C3.out _ hb1
    go_wp2_with fail
    refine ca.mono ?_
    rintro e w2 ⟨rfl, hb2⟩
    go_wp2_with fail
    go_ret
    exact ⟨rfl, below_join HB.out hb2⟩
  have hlt : ¬ 300 < m := by omega
  have HS := Lib.hid (show Tr.size a ≤ 1000 by omega)
  clear hm hs
  have D1 := Lib.hid (in_turn (W0 := W0) fun W h => ttables_any a _ _ W (HA.out.below h).1 (HA.out.below h).2 HS.out)
  have D3 := Lib.hid (in_turn (W0 := W0) fun W h => (HA.out.below h).1.elim fun d hd => tseen_any d a _ _ W hd (HA.out.below h).2)
  have hand := andNot_none (Tr.seen_lt a) (tables_lt a) (seen_in a)
  have hleaf : a.k = 0 → n = 0 → Tr.seen a = Tr.tables a := fun hk h0 => seen_leaf hk (List.eq_nil_of_length_eq_zero (by have := HN.out; omega))
  obtain ⟨vs, hvs⟩ : ∃ z, z = Tr.seen a := ⟨_, rfl⟩
  obtain ⟨vt, hvt⟩ : ∃ z, z = Tr.tables a := ⟨_, rfl⟩
  rw [← hvs, ← hvt] at hand hleaf
  rw [← hvs] at D3
  rw [← hvt] at D1
  clear hvs hvt
  have HLF := Lib.hid hleaf
  clear hleaf
  obtain ⟨p0, p1, p2, p3, p4⟩ := KK.out w1 hb1
  have cb := D3.out _ hb1
  go_wp2_with fail
  refine cb.mono ?_
  rintro e w2 ⟨rfl, hb2⟩
  clear p0 p1 p2 p3 p4 cb hb1
  obtain ⟨p0, p1, p2, p3, p4⟩ := KK.out w2 hb2
  have cb := D1.out _ hb2
  go_wp2_with fail
  refine cb.mono ?_
  rintro e w3 ⟨rfl, hb3⟩
  clear p0 p1 p2 p3 p4 cb hb2
  obtain ⟨p0, p1, p2, p3, p4⟩ := KK.out w3 hb3
  have ct := D1.out _ hb3
  have HB3 := Lib.hid hb3
  obtain ⟨wx, hwx⟩ : ∃ wx, wx = w3 := ⟨_, rfl⟩
  by_cases hk : a.k = 0
  · by_cases h0 : n = 0
    · obtain rfl : vs = vt := HLF.out hk h0
      rw [hk, h0] at ct
      go_wp2_with fail
      refine ct.mono ?_
      rintro e w4 ⟨rfl, hb4⟩
      clear p0 p1 p2 p3 p4 ct
      go_upto_region 6 with (fail)
      have hbx := hb4
      obtain ⟨wx, hwx⟩ : ∃ wx, wx = w4 := ⟨_, rfl⟩
      rw [← hwx] at hbx ⊢
      have HK := Lib.hid hk
      have H0 := Lib.hid h0
      clear hk h0 hb4 hwx
      obtain ⟨p0, p1, p2, p3, p4⟩ := KK.out wx hbx
      have cc : Calls Try.prog 14 #[.agg #[.int .i64 a.k, .int .i64 a.t, .slice A n c, .slice A' n' c', .bool a.h]] wx fun e w' => ∃ d, NewTr d wx a e w' := tcopy_top a _ _ wx (HA.out.below hbx).1 (HA.out.below hbx).2 HS.out
      go_wp2_with fail
      refine cc.mono ?_
      rintro e w5 ⟨d, cu, cv, rfl, htop, ⟨D, hps⟩, hb5⟩
      obtain ⟨G, e2, rfl, _⟩ := htop.on.at_.form
      obtain ⟨G', e3, rfl, _⟩ := hps.at_.form
      rw [← HN.out] at htop hps ⊢
      rw [← HN'.out] at hps ⊢
      clear p0 p1 p2 p3 p4 cc
      obtain ⟨W6, hW6⟩ : ∃ W6, W6 = w5.alloc (Obj.cells #[.int .i64 a.k, .int .i64 a.t, .slice G n e2, .slice G' n' e3, .bool a.h] 25) := ⟨_, rfl⟩
      obtain ⟨l6, hb6⟩ := box_one (cs := a.cells (.slice G n e2) (.slice G' n' e3)) hW6
      have hb06 := below_join (below_join hbx hb5) hb6
      have hc6 : TrHang W6 (a, .slice G n e2, .slice G' n' e3) := TrHang.below (w := w5) ⟨⟨d, htop.on.at_⟩, D, hps.at_⟩ hb6
      have s1 : Calls Try.prog 12 #[.agg #[.int .i64 a.k, .int .i64 a.t, .slice G n e2, .slice G' n' e3, .bool a.h], .agg #[.int .i64 a.k, .int .i64 a.t, .slice A n c, .slice A' n' c', .bool a.h]] W6 fun e w' => e = .returned (.bool (Tr.same a a)) ∧ Below W6.heap.size W6 w' := trsame_any hc6.1 hc6.2 (HA.out.below hb06).1 (HA.out.below hb06).2
      rw [Tr.same_own] at s1
      have HT := Lib.hid htop
      have HPS := Lib.hid hps
      have HB5 := Lib.hid hb5
      have HB6 := Lib.hid hb6
      have HBX := Lib.hid hbx
      have HL6 := Lib.hid l6
      have HW6 := Lib.hid hW6
      have HC6 := Lib.hid hc6
      have k6 := l6.tr
      obtain ⟨z0, z1, z2, z3, z4⟩ := keep5 k6 l6.lt (Below.refl _ _)
      obtain ⟨p0, p1, p2, p3, p4⟩ := KK.out W6 hb06
      have K6 := Lib.hid (fun W (h : Below W6.heap.size W6 W) => keep5 k6 l6.lt h)
      have HB06 := Lib.hid hb06
      clear htop hps hb5 hb6 l6 hW6 hc6 k6 hb06 hbx
      go_upto_region 7 with (fail)
      rw [HW6.out] at z0 z1 z2 z3 z4 p0 p1 p2 p3 p4 s1
      go_wp2_with fail
      rw [← HW6.out] at s1 ⊢
      refine s1.mono ?_
      rintro e w7 ⟨rfl, hb7⟩
      clear z0 z1 z2 z3 z4 p0 p1 p2 p3 p4 s1
      obtain ⟨z0, z1, z2, z3, z4⟩ := K6.out _ hb7
      obtain ⟨p0, p1, p2, p3, p4⟩ := KK.out _ (below_join HB06.out hb7)
      have s2 : Calls Try.prog 12 #[.agg #[.int .i64 a.k, .int .i64 a.t, .slice A n c, .slice A' n' c', .bool a.h], .agg #[.int .i64 a.k, .int .i64 a.t, .slice G n e2, .slice G' n' e3, .bool a.h]] w7 fun e w' => e = .returned (.bool (Tr.same a a)) ∧ Below w7.heap.size w7 w' :=
        trsame_any (HA.out.below (below_join HB06.out hb7)).1 (HA.out.below (below_join HB06.out hb7)).2 (HC6.out.below hb7).1 (HC6.out.below hb7).2
      rw [Tr.same_own] at s2
      go_wp2_with fail
      refine s2.mono ?_
      rintro e w8 ⟨rfl, hb8⟩
      clear z0 z1 z2 z3 z4 p0 p1 p2 p3 p4 s2
      have hb68 := below_join hb7 hb8
      have hb08 := below_join HB06.out hb68
      clear hb7 hb8
      obtain ⟨z0, z1, z2, z3, z4⟩ := K6.out _ hb68
      obtain ⟨p0, p1, p2, p3, p4⟩ := KK.out _ hb08
      by_cases h9 : n = 0
      · have ca := C3.out _ hb08
        go_wp2_with fail
        refine ca.mono ?_
        rintro e w9 ⟨rfl, hb9⟩
        go_wp2_with fail
        go_ret
        exact ⟨rfl, below_join HB.out hb9⟩
      · exact absurd H0.out h9
    · clear ct
      go_upto_region 6 with (fail)
      clear p0 p1 p2 p3 p4
      have hbx := hb3
      obtain ⟨wx, hwx⟩ : ∃ wx, wx = w3 := ⟨_, rfl⟩
      rw [← hwx] at hbx ⊢
      have HK := Lib.hid hk
      have H0 := Lib.hid h0
      clear hk h0 hwx hb3
      obtain ⟨p0, p1, p2, p3, p4⟩ := KK.out wx hbx
      have cc : Calls Try.prog 14 #[.agg #[.int .i64 a.k, .int .i64 a.t, .slice A n c, .slice A' n' c', .bool a.h]] wx fun e w' => ∃ d, NewTr d wx a e w' := tcopy_top a _ _ wx (HA.out.below hbx).1 (HA.out.below hbx).2 HS.out
      go_wp2_with fail
      refine cc.mono ?_
      rintro e w5 ⟨d, cu, cv, rfl, htop, ⟨D, hps⟩, hb5⟩
      obtain ⟨G, e2, rfl, _⟩ := htop.on.at_.form
      obtain ⟨G', e3, rfl, _⟩ := hps.at_.form
      rw [← HN.out] at htop hps ⊢
      rw [← HN'.out] at hps ⊢
      clear p0 p1 p2 p3 p4 cc
      obtain ⟨W6, hW6⟩ : ∃ W6, W6 = w5.alloc (Obj.cells #[.int .i64 a.k, .int .i64 a.t, .slice G n e2, .slice G' n' e3, .bool a.h] 25) := ⟨_, rfl⟩
      obtain ⟨l6, hb6⟩ := box_one (cs := a.cells (.slice G n e2) (.slice G' n' e3)) hW6
      have hb06 := below_join (below_join hbx hb5) hb6
      have hc6 : TrHang W6 (a, .slice G n e2, .slice G' n' e3) := TrHang.below (w := w5) ⟨⟨d, htop.on.at_⟩, D, hps.at_⟩ hb6
      have s1 : Calls Try.prog 12 #[.agg #[.int .i64 a.k, .int .i64 a.t, .slice G n e2, .slice G' n' e3, .bool a.h], .agg #[.int .i64 a.k, .int .i64 a.t, .slice A n c, .slice A' n' c', .bool a.h]] W6 fun e w' => e = .returned (.bool (Tr.same a a)) ∧ Below W6.heap.size W6 w' := trsame_any hc6.1 hc6.2 (HA.out.below hb06).1 (HA.out.below hb06).2
      rw [Tr.same_own] at s1
      have HT := Lib.hid htop
      have HPS := Lib.hid hps
      have HB5 := Lib.hid hb5
      have HB6 := Lib.hid hb6
      have HBX := Lib.hid hbx
      have HL6 := Lib.hid l6
      have HW6 := Lib.hid hW6
      have HC6 := Lib.hid hc6
      have k6 := l6.tr
      obtain ⟨z0, z1, z2, z3, z4⟩ := keep5 k6 l6.lt (Below.refl _ _)
      obtain ⟨p0, p1, p2, p3, p4⟩ := KK.out W6 hb06
      have K6 := Lib.hid (fun W (h : Below W6.heap.size W6 W) => keep5 k6 l6.lt h)
      have HB06 := Lib.hid hb06
      clear htop hps hb5 hb6 l6 hW6 hc6 k6 hb06 hbx
      go_upto_region 7 with (fail)
      rw [HW6.out] at z0 z1 z2 z3 z4 p0 p1 p2 p3 p4 s1
      go_wp2_with fail
      rw [← HW6.out] at s1 ⊢
      refine s1.mono ?_
      rintro e w7 ⟨rfl, hb7⟩
      clear z0 z1 z2 z3 z4 p0 p1 p2 p3 p4 s1
      obtain ⟨z0, z1, z2, z3, z4⟩ := K6.out _ hb7
      obtain ⟨p0, p1, p2, p3, p4⟩ := KK.out _ (below_join HB06.out hb7)
      have s2 : Calls Try.prog 12 #[.agg #[.int .i64 a.k, .int .i64 a.t, .slice A n c, .slice A' n' c', .bool a.h], .agg #[.int .i64 a.k, .int .i64 a.t, .slice G n e2, .slice G' n' e3, .bool a.h]] w7 fun e w' => e = .returned (.bool (Tr.same a a)) ∧ Below w7.heap.size w7 w' :=
        trsame_any (HA.out.below (below_join HB06.out hb7)).1 (HA.out.below (below_join HB06.out hb7)).2 (HC6.out.below hb7).1 (HC6.out.below hb7).2
      rw [Tr.same_own] at s2
      go_wp2_with fail
      refine s2.mono ?_
      rintro e w8 ⟨rfl, hb8⟩
      clear z0 z1 z2 z3 z4 p0 p1 p2 p3 p4 s2
      have hb68 := below_join hb7 hb8
      have hb08 := below_join HB06.out hb68
      clear hb7 hb8
      obtain ⟨z0, z1, z2, z3, z4⟩ := K6.out _ hb68
      obtain ⟨p0, p1, p2, p3, p4⟩ := KK.out _ hb08
      by_cases h9 : n = 0
      · have ca := C3.out _ hb08
        go_wp2_with fail
        refine ca.mono ?_
        rintro e w9 ⟨rfl, hb9⟩
        go_wp2_with fail
        go_ret
        exact ⟨rfl, below_join HB.out hb9⟩
      · go_upto_region 10 with (fail)
        obtain ⟨b, r, hbr⟩ : ∃ b r, a.ks = b :: r := by
          have := HN.out
          cases h : a.ks with
          | nil => rw [h] at this; exact absurd this h9
          | cons b r => exact ⟨b, r, rfl⟩
        obtain ⟨bb, o, s, rfl, y1⟩ : ∃ bb o s, A = some ⟨bb, o, s⟩ ∧ ∀ W, Below W0.heap.size W0 W → W.cell? ⟨bb, o + 1, none⟩ = some (.int .i64 b.t) := by
          obtain ⟨d2, h2⟩ : ∃ d2, TsAt d2 W0 (.slice A n c) a.ks := HA.out.1
          cases d2 with
          | zero => rw [hbr] at h2; cases h2.1
          | succ d2 =>
            obtain ⟨A2, c2, hv2, _, hx2⟩ := h2
            simp only [Value.slice.injEq] at hv2
            obtain ⟨rfl, _, rfl⟩ := hv2
            obtain ⟨bb, o, s, x2, y2, rfl, hlt2, hcell2, _⟩ := hx2 0 b (by rw [hbr]; rfl)
            refine ⟨bb, o, s, rfl, fun W hW => ?_⟩
            have h3 := (hcell2.below hW (by rw [add_block]; exact hlt2)).c1
            have e3 : (⟨bb, o, s⟩ : Addr).add (0 * 5) = ⟨bb, o, s⟩ := by simp [Addr.add]
            rw [e3] at h3
            exact h3
        have htop8 : TsTop wx.heap.size d w8 (.slice G n e2) (b :: r) := by
          rw [← hbr]
          exact HT.out.keep (by have := HB6.out.size; have := hb68.size; omega) fun k hk hlt => ⟨((below_join HB6.out hb68).block k hlt), hk⟩
        have hn0 : 0 < n := by omega
        obtain ⟨g, hG⟩ : ∃ g, G = some ⟨g, 0, none⟩ := by
          obtain ⟨M, A2, c2, _, hv, _, h⟩ := htop8
          cases hv
          rcases h with h | ⟨g, e, _, rfl, _⟩
          · cases h
          · exact ⟨g, rfl⟩
        subst hG
        obtain ⟨hlo, g1, g2, htop9⟩ := htop8.bump
        have Y1 := Lib.hid y1
        have y8 := y1 _ hb08
        clear y1
        obtain ⟨W9, hW9⟩ : ∃ W9, W9 = w8.setCell ⟨g, 1, none⟩ (.int .i64 (IntKind.i64.wrap (b.t + 1))) := ⟨_, rfl⟩
        rw [← hW9] at htop9
        have hlo0 : W0.heap.size ≤ g := Nat.le_trans HBX.out.size hlo
        have hb09 : Below W0.heap.size W0 W9 := by rw [hW9]; exact hb08.setCell hlo0 _
        have hg5 : g < w5.heap.size := by
          obtain ⟨M, A2, c2, hMM, hv, _, h⟩ := HT.out
          cases hv
          rcases h with h | ⟨g', e, _, hA, _, hrow, _⟩
          · rw [hbr] at h; cases h
          · cases hA; exact hrow.lt
        have hc9 : TrHang W9 (.mk a.k a.t a.h a.cs (bump b :: r), .slice (some ⟨g, 0, none⟩) n e2, .slice G' n' e3) := by
          refine ⟨⟨d, htop9.on.at_⟩, D, ?_⟩
          have h1 : PsOn (fun k => wx.heap.size ≤ k ∧ Apart (.slice (some ⟨g, 0, none⟩) n e2) k) D W9 (.slice G' n' e3) a.cs := HPS.out.keep (by rw [hW9]; have := HB6.out.size; have := hb68.size; simp [World.setCell]; omega) fun k hk hlt => ⟨by
            rw [hW9]
            refine (Below.heap_setCell _ _ _ _ ?_).trans ((below_join HB6.out hb68).block k hlt)
            exact hk.2 g n e2 rfl hn0, hk⟩
          exact h1.at_
        have h69 : Below W6.heap.size W6 w8 := hb68
        have kc := K6.out _ hb68
        have z9 : W9.cell? ⟨w5.heap.size, 0, none⟩ = some (.int .i64 a.k) ∧ W9.cell? ⟨w5.heap.size, 1, none⟩ = some (.int .i64 a.t) ∧ W9.cell? ⟨w5.heap.size, 2, none⟩ = some (.slice (some ⟨g, 0, none⟩) n e2) ∧ W9.cell? ⟨w5.heap.size, 3, none⟩ = some (.slice G' n' e3) ∧ W9.cell? ⟨w5.heap.size, 4, none⟩ = some (.bool a.h) := by
          have hne : w5.heap.size ≠ g := by omega
          have ks := fun i => World.cell?_of_block (w := w8) (w' := W9) (a := ⟨w5.heap.size, i, none⟩) (by rw [hW9]; exact Below.heap_setCell _ _ _ _ hne)
          obtain ⟨q0, q1, q2, q3, q4⟩ := kc
          exact ⟨(ks _).trans q0, (ks _).trans q1, (ks _).trans q2, (ks _).trans q3, (ks _).trans q4⟩
        have s3 : Calls Try.prog 12 #[.agg #[.int .i64 a.k, .int .i64 a.t, .slice (some ⟨g, 0, none⟩) n e2, .slice G' n' e3, .bool a.h], .agg #[.int .i64 a.k, .int .i64 a.t, .slice (some ⟨bb, o, s⟩) n c, .slice A' n' c', .bool a.h]] W9 fun e w' => e = .returned (.bool (Tr.same (.mk a.k a.t a.h a.cs (bump b :: r)) a)) ∧ Below W9.heap.size W9 w' := trsame_any (a := .mk a.k a.t a.h a.cs (bump b :: r)) hc9.1 hc9.2 (HA.out.below hb09).1 (HA.out.below hb09).2
        rw [bump_other a b r hbr] at s3
        have S3 := Lib.hid s3
        have Z9 := Lib.hid z9
        have HB9 := Lib.hid hb09
        have HW9 := Lib.hid (show W9 = w8.setCell ⟨g, 1, none⟩ (.int .i64 (wrap64 (b.t + 1))) by rw [hW9, show IntKind.i64.wrap (b.t + 1) = wrap64 (b.t + 1) from IntWalk.i64_left _])
        have P9 := Lib.hid (KK.out _ hb09)
        have Y9 := Lib.hid (Y1.out _ hb09)
        clear s3 z9 hb09 hW9 htop9 hc9 htop8 hlo hlo0 hg5 kc h69
        go_upto_region 12 with (fail)
        rw [← HW9.out]
        clear z0 z1 z2 z3 z4 p0 p1 p2 p3 p4 y8 g1 g2
        obtain ⟨z0, z1, z2, z3, z4⟩ := Z9.out
        obtain ⟨p0, p1, p2, p3, p4⟩ := P9.out
        have y9 := Y9.out
        have s3 := S3.out
        go_wp2_with fail
        refine s3.mono ?_
        rintro e w10 ⟨rfl, hb10⟩
        clear z0 z1 z2 z3 z4 p0 p1 p2 p3 p4 y9 s3
        have ca := C3.out _ (below_join HB9.out hb10)
        go_wp2_with fail
        refine ca.mono ?_
        rintro e w11 ⟨rfl, hb11⟩
        go_wp2_with fail
        go_ret
        exact ⟨rfl, below_join HB.out hb11⟩
  · clear ct
    go_upto_region 6 with (fail)
    clear p0 p1 p2 p3 p4
    have hbx := hb3
    obtain ⟨wx, hwx⟩ : ∃ wx, wx = w3 := ⟨_, rfl⟩
    rw [← hwx] at hbx ⊢
    have HK := Lib.hid hk
    clear hk hwx hb3
    obtain ⟨p0, p1, p2, p3, p4⟩ := KK.out wx hbx
    have cc : Calls Try.prog 14 #[.agg #[.int .i64 a.k, .int .i64 a.t, .slice A n c, .slice A' n' c', .bool a.h]] wx fun e w' => ∃ d, NewTr d wx a e w' := tcopy_top a _ _ wx (HA.out.below hbx).1 (HA.out.below hbx).2 HS.out
    go_wp2_with fail
    refine cc.mono ?_
    rintro e w5 ⟨d, cu, cv, rfl, htop, ⟨D, hps⟩, hb5⟩
    obtain ⟨G, e2, rfl, _⟩ := htop.on.at_.form
    obtain ⟨G', e3, rfl, _⟩ := hps.at_.form
    rw [← HN.out] at htop hps ⊢
    rw [← HN'.out] at hps ⊢
    clear p0 p1 p2 p3 p4 cc
    obtain ⟨W6, hW6⟩ : ∃ W6, W6 = w5.alloc (Obj.cells #[.int .i64 a.k, .int .i64 a.t, .slice G n e2, .slice G' n' e3, .bool a.h] 25) := ⟨_, rfl⟩
    obtain ⟨l6, hb6⟩ := box_one (cs := a.cells (.slice G n e2) (.slice G' n' e3)) hW6
    have hb06 := below_join (below_join hbx hb5) hb6
    have hc6 : TrHang W6 (a, .slice G n e2, .slice G' n' e3) := TrHang.below (w := w5) ⟨⟨d, htop.on.at_⟩, D, hps.at_⟩ hb6
    have s1 : Calls Try.prog 12 #[.agg #[.int .i64 a.k, .int .i64 a.t, .slice G n e2, .slice G' n' e3, .bool a.h], .agg #[.int .i64 a.k, .int .i64 a.t, .slice A n c, .slice A' n' c', .bool a.h]] W6 fun e w' => e = .returned (.bool (Tr.same a a)) ∧ Below W6.heap.size W6 w' := trsame_any hc6.1 hc6.2 (HA.out.below hb06).1 (HA.out.below hb06).2
    rw [Tr.same_own] at s1
    have HT := Lib.hid htop
    have HPS := Lib.hid hps
    have HB5 := Lib.hid hb5
    have HB6 := Lib.hid hb6
    have HBX := Lib.hid hbx
    have HL6 := Lib.hid l6
    have HW6 := Lib.hid hW6
    have HC6 := Lib.hid hc6
    have k6 := l6.tr
    obtain ⟨z0, z1, z2, z3, z4⟩ := keep5 k6 l6.lt (Below.refl _ _)
    obtain ⟨p0, p1, p2, p3, p4⟩ := KK.out W6 hb06
    have K6 := Lib.hid (fun W (h : Below W6.heap.size W6 W) => keep5 k6 l6.lt h)
    have HB06 := Lib.hid hb06
    clear htop hps hb5 hb6 l6 hW6 hc6 k6 hb06 hbx
    go_upto_region 7 with (fail)
    rw [HW6.out] at z0 z1 z2 z3 z4 p0 p1 p2 p3 p4 s1
    go_wp2_with fail
    rw [← HW6.out] at s1 ⊢
    refine s1.mono ?_
    rintro e w7 ⟨rfl, hb7⟩
    clear z0 z1 z2 z3 z4 p0 p1 p2 p3 p4 s1
    obtain ⟨z0, z1, z2, z3, z4⟩ := K6.out _ hb7
    obtain ⟨p0, p1, p2, p3, p4⟩ := KK.out _ (below_join HB06.out hb7)
    have s2 : Calls Try.prog 12 #[.agg #[.int .i64 a.k, .int .i64 a.t, .slice A n c, .slice A' n' c', .bool a.h], .agg #[.int .i64 a.k, .int .i64 a.t, .slice G n e2, .slice G' n' e3, .bool a.h]] w7 fun e w' => e = .returned (.bool (Tr.same a a)) ∧ Below w7.heap.size w7 w' :=
      trsame_any (HA.out.below (below_join HB06.out hb7)).1 (HA.out.below (below_join HB06.out hb7)).2 (HC6.out.below hb7).1 (HC6.out.below hb7).2
    rw [Tr.same_own] at s2
    go_wp2_with fail
    refine s2.mono ?_
    rintro e w8 ⟨rfl, hb8⟩
    clear z0 z1 z2 z3 z4 p0 p1 p2 p3 p4 s2
    have hb68 := below_join hb7 hb8
    have hb08 := below_join HB06.out hb68
    clear hb7 hb8
    obtain ⟨z0, z1, z2, z3, z4⟩ := K6.out _ hb68
    obtain ⟨p0, p1, p2, p3, p4⟩ := KK.out _ hb08
    by_cases h9 : n = 0
    · have ca := C3.out _ hb08
      go_wp2_with fail
      refine ca.mono ?_
      rintro e w9 ⟨rfl, hb9⟩
      go_wp2_with fail
      go_ret
      exact ⟨rfl, below_join HB.out hb9⟩
    · go_upto_region 10 with (fail)
      obtain ⟨b, r, hbr⟩ : ∃ b r, a.ks = b :: r := by
        have := HN.out
        cases h : a.ks with
        | nil => rw [h] at this; exact absurd this h9
        | cons b r => exact ⟨b, r, rfl⟩
      obtain ⟨bb, o, s, rfl, y1⟩ : ∃ bb o s, A = some ⟨bb, o, s⟩ ∧ ∀ W, Below W0.heap.size W0 W → W.cell? ⟨bb, o + 1, none⟩ = some (.int .i64 b.t) := by
        obtain ⟨d2, h2⟩ : ∃ d2, TsAt d2 W0 (.slice A n c) a.ks := HA.out.1
        cases d2 with
        | zero => rw [hbr] at h2; cases h2.1
        | succ d2 =>
          obtain ⟨A2, c2, hv2, _, hx2⟩ := h2
          simp only [Value.slice.injEq] at hv2
          obtain ⟨rfl, _, rfl⟩ := hv2
          obtain ⟨bb, o, s, x2, y2, rfl, hlt2, hcell2, _⟩ := hx2 0 b (by rw [hbr]; rfl)
          refine ⟨bb, o, s, rfl, fun W hW => ?_⟩
          have h3 := (hcell2.below hW (by rw [add_block]; exact hlt2)).c1
          have e3 : (⟨bb, o, s⟩ : Addr).add (0 * 5) = ⟨bb, o, s⟩ := by simp [Addr.add]
          rw [e3] at h3
          exact h3
      have htop8 : TsTop wx.heap.size d w8 (.slice G n e2) (b :: r) := by
        rw [← hbr]
        exact HT.out.keep (by have := HB6.out.size; have := hb68.size; omega) fun k hk hlt => ⟨((below_join HB6.out hb68).block k hlt), hk⟩
      have hn0 : 0 < n := by omega
      obtain ⟨g, hG⟩ : ∃ g, G = some ⟨g, 0, none⟩ := by
        obtain ⟨M, A2, c2, _, hv, _, h⟩ := htop8
        cases hv
        rcases h with h | ⟨g, e, _, rfl, _⟩
        · cases h
        · exact ⟨g, rfl⟩
      subst hG
      obtain ⟨hlo, g1, g2, htop9⟩ := htop8.bump
      have Y1 := Lib.hid y1
      have y8 := y1 _ hb08
      clear y1
      obtain ⟨W9, hW9⟩ : ∃ W9, W9 = w8.setCell ⟨g, 1, none⟩ (.int .i64 (IntKind.i64.wrap (b.t + 1))) := ⟨_, rfl⟩
      rw [← hW9] at htop9
      have hlo0 : W0.heap.size ≤ g := Nat.le_trans HBX.out.size hlo
      have hb09 : Below W0.heap.size W0 W9 := by rw [hW9]; exact hb08.setCell hlo0 _
      have hg5 : g < w5.heap.size := by
        obtain ⟨M, A2, c2, hMM, hv, _, h⟩ := HT.out
        cases hv
        rcases h with h | ⟨g', e, _, hA, _, hrow, _⟩
        · rw [hbr] at h; cases h
        · cases hA; exact hrow.lt
      have hc9 : TrHang W9 (.mk a.k a.t a.h a.cs (bump b :: r), .slice (some ⟨g, 0, none⟩) n e2, .slice G' n' e3) := by
        refine ⟨⟨d, htop9.on.at_⟩, D, ?_⟩
        have h1 : PsOn (fun k => wx.heap.size ≤ k ∧ Apart (.slice (some ⟨g, 0, none⟩) n e2) k) D W9 (.slice G' n' e3) a.cs := HPS.out.keep (by rw [hW9]; have := HB6.out.size; have := hb68.size; simp [World.setCell]; omega) fun k hk hlt => ⟨by
          rw [hW9]
          refine (Below.heap_setCell _ _ _ _ ?_).trans ((below_join HB6.out hb68).block k hlt)
          exact hk.2 g n e2 rfl hn0, hk⟩
        exact h1.at_
      have h69 : Below W6.heap.size W6 w8 := hb68
      have kc := K6.out _ hb68
      have z9 : W9.cell? ⟨w5.heap.size, 0, none⟩ = some (.int .i64 a.k) ∧ W9.cell? ⟨w5.heap.size, 1, none⟩ = some (.int .i64 a.t) ∧ W9.cell? ⟨w5.heap.size, 2, none⟩ = some (.slice (some ⟨g, 0, none⟩) n e2) ∧ W9.cell? ⟨w5.heap.size, 3, none⟩ = some (.slice G' n' e3) ∧ W9.cell? ⟨w5.heap.size, 4, none⟩ = some (.bool a.h) := by
        have hne : w5.heap.size ≠ g := by omega
        have ks := fun i => World.cell?_of_block (w := w8) (w' := W9) (a := ⟨w5.heap.size, i, none⟩) (by rw [hW9]; exact Below.heap_setCell _ _ _ _ hne)
        obtain ⟨q0, q1, q2, q3, q4⟩ := kc
        exact ⟨(ks _).trans q0, (ks _).trans q1, (ks _).trans q2, (ks _).trans q3, (ks _).trans q4⟩
      have s3 : Calls Try.prog 12 #[.agg #[.int .i64 a.k, .int .i64 a.t, .slice (some ⟨g, 0, none⟩) n e2, .slice G' n' e3, .bool a.h], .agg #[.int .i64 a.k, .int .i64 a.t, .slice (some ⟨bb, o, s⟩) n c, .slice A' n' c', .bool a.h]] W9 fun e w' => e = .returned (.bool (Tr.same (.mk a.k a.t a.h a.cs (bump b :: r)) a)) ∧ Below W9.heap.size W9 w' := trsame_any (a := .mk a.k a.t a.h a.cs (bump b :: r)) hc9.1 hc9.2 (HA.out.below hb09).1 (HA.out.below hb09).2
      rw [bump_other a b r hbr] at s3
      have S3 := Lib.hid s3
      have Z9 := Lib.hid z9
      have HB9 := Lib.hid hb09
      have HW9 := Lib.hid (show W9 = w8.setCell ⟨g, 1, none⟩ (.int .i64 (wrap64 (b.t + 1))) by rw [hW9, show IntKind.i64.wrap (b.t + 1) = wrap64 (b.t + 1) from IntWalk.i64_left _])
      have P9 := Lib.hid (KK.out _ hb09)
      have Y9 := Lib.hid (Y1.out _ hb09)
      clear s3 z9 hb09 hW9 htop9 hc9 htop8 hlo hlo0 hg5 kc h69
      go_upto_region 12 with (fail)
      rw [← HW9.out]
      clear z0 z1 z2 z3 z4 p0 p1 p2 p3 p4 y8 g1 g2
      obtain ⟨z0, z1, z2, z3, z4⟩ := Z9.out
      obtain ⟨p0, p1, p2, p3, p4⟩ := P9.out
      have y9 := Y9.out
      have s3 := S3.out
      go_wp2_with fail
      refine s3.mono ?_
      rintro e w10 ⟨rfl, hb10⟩
      clear z0 z1 z2 z3 z4 p0 p1 p2 p3 p4 y9 s3
      have ca := C3.out _ (below_join HB9.out hb10)
      go_wp2_with fail
      refine ca.mono ?_
      rintro e w11 ⟨rfl, hb11⟩
      go_wp2_with fail
      go_ret
      exact ⟨rfl, below_join HB.out hb11⟩
end Go.Proofs.Ytpobkpdlohahoaa
