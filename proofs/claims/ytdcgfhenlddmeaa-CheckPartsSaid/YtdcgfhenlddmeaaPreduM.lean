/-
  THE CONTRACT OF package pred's Columns: one row of one's own, handed all the way through; what is kept beside it.
-/
import Derived.Test.YtdcgfhenlddmeaaGOwn
import Derived.Deep.Cut
import Derived.Deep.RegionHeld3
namespace Go.Proofs.Ytdcgfhenlddmeaa
open Go.RowKit Go.Sort
set_option maxHeartbeats 3200000

theorem own_some {w w' : World} {l : List (Int × Int)} {e : Ending} (h : OwnPairs w l e w') (hl : l.length ≤ 1000000) : SomePairs w l e w' := by
  obtain ⟨v, rfl, hown, hb⟩ := h
  refine ⟨v, rfl, ?_, hb⟩
  rcases hown.2 with ⟨rfl, hn⟩ | ⟨g, cap, cur, rfl, _, hg, _⟩
  · refine ⟨none, 0, by rw [hn], hl, fun j x hj => ?_⟩
    rw [List.eq_nil_of_length_eq_zero hn] at hj
    simp at hj
  · refine ⟨some ⟨g, 0, none⟩, cap, rfl, hl, fun j x hj => ⟨g, 0, none, rfl, (Array.getElem?_eq_some_iff.1 hg).1, ?_⟩⟩
    have hc := hown.cells (g := g) rfl
    have key : ∀ (l : List (Int × Int)) (j : Nat) (x : Int × Int), l[j]? = some x → (pairCells l)[j * 2]? = some (.int .i64 x.1) ∧ (pairCells l)[j * 2 + 1]? = some (.int .i64 x.2) := by
      intro l
      induction l with
      | nil => intro j x h; simp at h
      | cons y r ih =>
        intro j x h
        cases j with
        | zero => simp at h; subst h; exact ⟨rfl, rfl⟩
        | succ j =>
          obtain ⟨h1, h2⟩ := ih j x (by simpa using h)
          have e : pairCells (y :: r) = .int .i64 y.1 :: .int .i64 y.2 :: pairCells r := rfl
          rw [e, show (j + 1) * 2 = j * 2 + 2 by omega, show j * 2 + 2 + 1 = j * 2 + 1 + 2 by omega]
          exact ⟨by simpa using h1, by simpa using h2⟩
    obtain ⟨h1, h2⟩ := key l j x hj
    refine ⟨hc _ _ h1, ?_⟩
    rw [add_next]
    exact hc _ _ h2
theorem Pr.colss_app (l m : List Pd) : Pr.colss (l ++ m) = Pr.colss l ++ Pr.colss m := by
  induction l with
  | nil => rw [List.nil_append, Pr.colss, List.nil_append]
  | cons p r ih => rw [List.cons_append, Pr.colss, ih, Pr.colss, List.append_assoc]
/-- from a to w: blocks below base lie as they lay, and so do all blocks that are no rows of pairs -/
structure Step (base : Nat) (a w : World) : Prop where
  below : Below base a w
  spare : ∀ g t cs, Lies a g t cs → t ≠ 83 → Lies w g t cs
theorem Step.refl (base : Nat) (a : World) : Step base a a := ⟨Below.refl _ _, fun _ _ _ h _ => h⟩
theorem Step.trans {base : Nat} {a b c : World} (h : Step base a b) (k : Step base b c) : Step base a c := ⟨h.below.trans k.below, fun g t cs l hne => k.spare g t cs (h.spare g t cs l hne) hne⟩
theorem Step.drew {base : Nat} {a w : World} (h : Step base a w) : Step base a w.drew := ⟨h.below.drew, fun g t cs l hne => h.spare g t cs l hne⟩
theorem Step.alloc {base : Nat} {a w : World} (h : Step base a w) (hB : base ≤ w.heap.size) (o : Obj) : Step base a (w.alloc o) := ⟨h.below.alloc hB o, fun g t cs l hne => (h.spare g t cs l hne).alloc o⟩
theorem Step.grown {base s n : Nat} {a w w' : World} {v : Value} {xs : List Value} (h : Step base a w) (hB : base ≤ w.heap.size) (ho : w.ownsRow base 83 s v n xs) (hg : w.grownBy w' v.ownBlock) : Step base a w' := by
  refine ⟨h.below.grown hg hB (fun k hk => (ho.lt k hk).1), fun g t cs l hne => ?_⟩
  have l2 := h.spare g t cs l hne
  refine (hg.block g l2.lt ?_).trans l2
  intro hk
  rcases ho.2 with ⟨hv, _⟩ | ⟨g', cap, cur, hv, _, hh, _⟩
  · rw [hv] at hk; simp [Value.ownBlock] at hk
  · rw [hv] at hk
    obtain rfl : g = g' := by simpa [Value.ownBlock] using hk
    unfold Lies at l2
    rw [l2] at hh
    injection hh with hh
    injection hh with _ ht
    exact hne ht
theorem keepG {base : Nat} {W0 W : World} {g : Nat} {f : Pf} {u : Value} (h : Lies W0 g 49 (f.cells u)) (hs : Step base W0 W) : (W.cell? ⟨g, 3, none⟩ = some (.int .i64 f.a.k) ∧ W.cell? ⟨g, 4, none⟩ = some (.int .i64 f.a.t) ∧ W.cell? ⟨g, 5, none⟩ = some (.int .i64 f.a.c) ∧ W.cell? ⟨g, 6, none⟩ = some (.bool f.a.z) ∧ W.cell? ⟨g, 7, none⟩ = some (.int .i64 f.a.n) ∧ W.cell? ⟨g, 8, none⟩ = some (.int .i64 f.b.k) ∧ W.cell? ⟨g, 9, none⟩ = some (.int .i64 f.b.t) ∧ W.cell? ⟨g, 10, none⟩ = some (.int .i64 f.b.c) ∧ W.cell? ⟨g, 11, none⟩ = some (.bool f.b.z) ∧ W.cell? ⟨g, 12, none⟩ = some (.int .i64 f.b.n)) ∧ Step base W0 W := by
  have p := (hs.spare g _ _ h (by decide)).pd
  exact ⟨⟨p.c3, p.c4, p.c5, p.c6, p.c7, p.c8, p.c9, p.c10, p.c11, p.c12⟩, hs⟩
theorem pcol1_any (base : Nat) (v : Value) (N : Nat) (xs : List Value) (k t c : Int) (z : Bool) (n : Int) (w : World) (hown : w.ownsRow base 83 2 v N xs) (hB : base ≤ w.heap.size) (hN : N ≤ 5000) :
    Calls Try.prog 65 #[v, .agg #[.int .i64 k, .int .i64 t, .int .i64 c, .bool z, .int .i64 n]] w fun e w' => ∃ v', e = .returned v' ∧ w'.ownsRow base 83 2 v' (N + (Te.cols ⟨k, t, c, z, n⟩).length) (xs ++ pairCells (Te.cols ⟨k, t, c, z, n⟩)) ∧ Step base w w' := by
  obtain ⟨i0, hi, hz0, hz1, hz2⟩ := info_parts Try.infoPair
  obtain ⟨W0, hW0⟩ : ∃ W0, W0 = w.alloc (Obj.cells #[.int .i64 k, .int .i64 t, .int .i64 c, .bool z, .int .i64 n] 47) := ⟨_, rfl⟩
  obtain ⟨l0, hb0⟩ := box_one (cs := [.int .i64 k, .int .i64 t, .int .i64 c, .bool z, .int .i64 n]) hW0
  have hs0 : Step base w W0 := by rw [hW0]; exact (Step.refl base w).alloc hB _
  have hown0 : W0.ownsRow base 83 2 v N xs := by rw [hW0]; exact hown.alloc _
  have hB0 : base ≤ W0.heap.size := by rw [hW0, World.size_alloc]; omega
  have HW := Lib.hid hW0
  have z0 := l0.cell (i := 0) rfl
  have z1 := l0.cell (i := 1) rfl
  have z2 := l0.cell (i := 2) rfl
  clear hW0 l0 hb0 hown hB
  by_cases hk : k = 1
  · have e1 : (k != 1) = false := by simp [hk]
    have hL : Te.cols ⟨k, t, c, z, n⟩ = [(t, c)] := if_pos hk
    rw [hL]
    have hcm := Lib.hid (show CameN (W0.alloc (Obj.cells #[.int .i64 t, .int .i64 c] 83)) 2 (.slice (some ⟨W0.heap.size, 0, none⟩) 1 1) 1 [.int .i64 t, .int .i64 c] from CameN.new W0 83 2 1 [.int .i64 t, .int .i64 c] _ rfl rfl)
    have hone := Lib.hid (show ∀ u ∈ ([.int .i64 t, .int .i64 c] : List Value), u.oneCell' = true from pairCells_one [(t, c)])
    have h63 := Lib.hid (show N + 1 ≤ maxLen by unfold maxLen; omega)
    have hby := Lib.hid (show (N + 1) * 16 ≤ 140737488355328 by omega)
    have hbs := Lib.hid (show base ≤ (W0.alloc (Obj.cells #[.int .i64 t, .int .i64 c] 83)).heap.size by rw [World.size_alloc]; omega)
    have hoa := Lib.hid (hown0.alloc (Obj.cells #[.int .i64 t, .int .i64 c] 83))
    have hsa := Lib.hid (hs0.alloc hB0 (Obj.cells #[.int .i64 t, .int .i64 c] 83))
    clear hk hL hs0 hown0
    go_enter Try.func65, Try.ntmps65
    go_upto_region 1 with (fail)
    rw [← HW.out]
    go_wp2_with (first
      | (at_builtin; refine wpList_append_n _ rfl _ _ 81 rfl base 83 i0 (.agg #[.int .i64 0, .int .i64 0]) 2 16 Try.underlying81 hi hz0 hz1 hz2 rfl (by decide) _ N _ rfl hoa.out _ 1 [.int .i64 t, .int .i64 c] rfl hcm.out hone.out h63.out hby.out hbs.out ?_))
    intro v1 w1 hown1 hgrow
    have hs1 := hsa.out.grown hbs.out hoa.out hgrow
    clear z0 z1 z2 hgrow
    go_wp2_with fail
    go_ret
    exact ⟨v1, rfl, hown1, hs1⟩
  · have e1 : (k != 1) = true := by simpa using hk
    have hL : Te.cols ⟨k, t, c, z, n⟩ = [] := if_neg hk
    rw [hL]
    clear hk hL
    go_enter Try.func65, Try.ntmps65
    go_upto_region 1 with (fail)
    rw [← HW.out]
    go_wp2_with fail
    go_ret
    exact ⟨v, rfl, by simpa [pairCells] using hown0, hs0⟩
set_option maxRecDepth 100000 in
theorem pgcol_any (d : Nat) : ∀ (f : Pf) (u : Value) (ps : List Pd) (w0 w : World) (v0 : Value) (N : Nat) (xs : List Value), PsAt d w0 u ps → Step w0.heap.size w0 w → w.ownsRow w0.heap.size 83 2 v0 N xs → N + (Pr.cols (.mk f ps)).length ≤ 5000 →
    Calls Try.prog 64 #[.agg #[.int .i64 f.k, .int .i64 f.u, .int .i64 f.o, .int .i64 f.a.k, .int .i64 f.a.t, .int .i64 f.a.c, .bool f.a.z, .int .i64 f.a.n, .int .i64 f.b.k, .int .i64 f.b.t, .int .i64 f.b.c, .bool f.b.z, .int .i64 f.b.n, u], v0, .func (.func 65) #[] #[]] w
      fun e w' => ∃ v', e = .returned v' ∧ w'.ownsRow w0.heap.size 83 2 v' (N + (Pr.cols (.mk f ps)).length) (xs ++ pairCells (Pr.cols (.mk f ps))) ∧ Step w0.heap.size w w' := by
  induction d using Nat.strongRecOn with
  | ind d ih =>
  intro f u ps w0 w v0 N xs hu hs0 hown hN
  obtain ⟨A, c, rfl, hl⟩ := hu.form
  have hB : w0.heap.size ≤ w.heap.size := hs0.below.size
  obtain ⟨W0, hW0⟩ : ∃ W0, W0 = w.alloc (Obj.cells #[.int .i64 f.k, .int .i64 f.u, .int .i64 f.o, .int .i64 f.a.k, .int .i64 f.a.t, .int .i64 f.a.c, .bool f.a.z, .int .i64 f.a.n, .int .i64 f.b.k, .int .i64 f.b.t, .int .i64 f.b.c, .bool f.b.z, .int .i64 f.b.n, .slice A ps.length c] 49) := ⟨_, rfl⟩
  obtain ⟨l0, p0, hb0⟩ := pd_box hW0
  have hs1 : Step w0.heap.size w W0 := by rw [hW0]; exact (Step.refl _ w).alloc hB _
  have hown0 : W0.ownsRow w0.heap.size 83 2 v0 N xs := by rw [hW0]; exact hown.alloc _
  have hB0 : w0.heap.size ≤ W0.heap.size := Nat.le_trans hB hb0.size
  have HU := Lib.hid hu
  have HW := Lib.hid hW0
  have IH := Lib.hid ih
  have L0 := Lib.hid l0
  have HS0 := Lib.hid (hs0.trans hs1)
  have HS1 := Lib.hid hs1
  have HB0 := Lib.hid hB0
  have hC : Pr.cols (.mk f ps) = (Te.cols f.a ++ Te.cols f.b) ++ Pr.colss ps := Pr.cols_at (.mk f ps)
  have HC := Lib.hid hC
  have ha1 : (Te.cols ⟨f.a.k, f.a.t, f.a.c, f.a.z, f.a.n⟩).length ≤ 1 := Pr.te_cols_len _
  have hb1 : (Te.cols ⟨f.b.k, f.b.t, f.b.c, f.b.z, f.b.n⟩).length ≤ 1 := Pr.te_cols_len _
  have hN1 : N ≤ 5000 := by omega
  have hN2 : N + (Te.cols ⟨f.a.k, f.a.t, f.a.c, f.a.z, f.a.n⟩).length ≤ 5000 := by
    rw [hC, List.length_append, List.length_append] at hN
    have : (Te.cols f.a).length = (Te.cols ⟨f.a.k, f.a.t, f.a.c, f.a.z, f.a.n⟩).length := rfl
    omega
  have HN1 := Lib.hid hN1
  have HN2 := Lib.hid hN2
  have HNN := Lib.hid hN
  have ca := fun W (h : W.ownsRow w0.heap.size 83 2 v0 N xs) (hb : Step w0.heap.size W0 W) => pcol1_any w0.heap.size v0 N xs f.a.k f.a.t f.a.c f.a.z f.a.n W h (Nat.le_trans hB0 hb.below.size) hN1
  have cb := fun v1 W (h : W.ownsRow w0.heap.size 83 2 v1 (N + (Te.cols ⟨f.a.k, f.a.t, f.a.c, f.a.z, f.a.n⟩).length) (xs ++ pairCells (Te.cols ⟨f.a.k, f.a.t, f.a.c, f.a.z, f.a.n⟩))) (hb : Step w0.heap.size W0 W) => pcol1_any w0.heap.size v1 _ _ f.b.k f.b.t f.b.c f.b.z f.b.n W h (Nat.le_trans hB0 hb.below.size) hN2
  have CA := Lib.hid ca
  have CB := Lib.hid cb
  have hS : Step w0.heap.size W0 W0 := Step.refl _ _
  obtain ⟨x0, x1, x2, x3, x4, x5, x6, x7, x8, x9, x10, x11, x12, x13⟩ := p0
  clear hW0 ih hu l0 hs0 hs1 hown hB hC ha1 hb1 hN1 hN2 hN ca cb hb0 hB0 x0 x1 x2 x13
  go_enter Try.func64, Try.ntmps64
  go_wp2_with fail
  rw [← HW.out]
  go_region_held3 (fun W => (W.cell? ⟨w.heap.size, 3, none⟩ = some (.int .i64 f.a.k) ∧ W.cell? ⟨w.heap.size, 4, none⟩ = some (.int .i64 f.a.t) ∧ W.cell? ⟨w.heap.size, 5, none⟩ = some (.int .i64 f.a.c) ∧ W.cell? ⟨w.heap.size, 6, none⟩ = some (.bool f.a.z) ∧ W.cell? ⟨w.heap.size, 7, none⟩ = some (.int .i64 f.a.n) ∧ W.cell? ⟨w.heap.size, 8, none⟩ = some (.int .i64 f.b.k) ∧ W.cell? ⟨w.heap.size, 9, none⟩ = some (.int .i64 f.b.t) ∧ W.cell? ⟨w.heap.size, 10, none⟩ = some (.int .i64 f.b.c) ∧ W.cell? ⟨w.heap.size, 11, none⟩ = some (.bool f.b.z) ∧ W.cell? ⟨w.heap.size, 12, none⟩ = some (.int .i64 f.b.n)) ∧ Step w0.heap.size W0 W) (first | (exact keepG L0.out (by first | assumption | exact Step.drew (by assumption))))
    (first
      | (go_at_call 65; (with_reducible refine (CA.out _ (by first | assumption | exact World.ownsRow.drew (by assumption)) (by first | assumption | exact Step.drew (by assumption))).mono ?_); rintro e w2 ⟨v2, rfl, hown2, hst2⟩; have hS2 := Step.trans (by first | assumption | exact Step.drew (by assumption)) hst2)
      | (go_at_call 65; (with_reducible refine (CB.out _ _ (by first | assumption | exact World.ownsRow.drew (by assumption)) (by first | assumption | exact Step.drew (by assumption))).mono ?_); rintro e w3 ⟨v3, rfl, hown3, hst3⟩; have hS3 := Step.trans (by first | assumption | exact Step.drew (by assumption)) hst3))
  obtain ⟨L, hL⟩ : ∃ L, L = Te.cols f.a ++ Te.cols f.b := ⟨_, rfl⟩
  have hC2 : Pr.cols (.mk f ps) = L ++ Pr.colss ps := by rw [HC.out, hL]
  have hown4 : w3.ownsRow w0.heap.size 83 2 v3 (N + L.length) (xs ++ pairCells L) := by
    rw [hL, List.length_append, pairCells_app, ← List.append_assoc, ← Nat.add_assoc]
    exact hown3
  have HC2 := Lib.hid hC2
  have k13 := (hS3.spare _ _ _ L0.out (by decide)).pd.c13
  obtain ⟨n, hn⟩ : ∃ n, n = ps.length := ⟨_, rfl⟩
  have hnn : n ≤ 9223372036854775807 := by omega
  have hu0 := HU.out
  rw [← hn] at hl hu0 k13 ⊢
  have HU0 := Lib.hid hu0
  have HN := Lib.hid hn
  have HO4 := Lib.hid hown4
  have H3 := Lib.hid hS3
  clear hn hL hC2 hown2 hown3 hown4 hst2 hst3 hS2 hS hown0 x3 x4 x5 x6 x7 x8 x9 x10 x11 x12 HU hu0 hS3 CA CB
  go_wp2_with fail
  clear k13
  go_loopw [1, 21] (fun s i wr => ∃ q : Nat, q ≤ n ∧ i = .int .i64 q ∧ wr.ownsRow w0.heap.size 83 2 s (N + (L ++ Pr.colss (ps.take q)).length) (xs ++ pairCells (L ++ Pr.colss (ps.take q))) ∧ Step w0.heap.size W0 wr) (fun _ i _ => n - (intOf i).toNat)
  case atStart => exact ⟨0, Nat.zero_le _, rfl, by rw [List.take_zero, Pr.colss, List.append_nil]; exact HO4.out, H3.out⟩
  case round =>
    obtain ⟨q, hq, rfl, hown, hst⟩ := hrel
    by_cases hlt : q < n
    · obtain ⟨p, gp⟩ : ∃ p, ps[q]? = some p := ⟨ps[q]'(by have := HN.out; omega), List.getElem?_eq_getElem _⟩
      have hu := HU0.out
      rw [HN.out] at hu
      obtain ⟨e, b, o, s, v', he, rfl, _, hx⟩ := hu.at_ gp
      have hwr : Below w0.heap.size w0 wr := (HS0.out.trans hst).below
      obtain ⟨hcell, hps⟩ := hx wr hwr
      obtain ⟨A2, c2, rfl, _⟩ := hps.form
      have hsq : Step w0.heap.size W0 (wr.alloc (Obj.cells #[.int .i64 p.f.k, .int .i64 p.f.u, .int .i64 p.f.o, .int .i64 p.f.a.k, .int .i64 p.f.a.t, .int .i64 p.f.a.c, .bool p.f.a.z, .int .i64 p.f.a.n, .int .i64 p.f.b.k, .int .i64 p.f.b.t, .int .i64 p.f.b.c, .bool p.f.b.z, .int .i64 p.f.b.n, .slice A2 p.ps.length c2] 49)) := hst.alloc hwr.size _
      have hoq : (wr.alloc (Obj.cells #[.int .i64 p.f.k, .int .i64 p.f.u, .int .i64 p.f.o, .int .i64 p.f.a.k, .int .i64 p.f.a.t, .int .i64 p.f.a.c, .bool p.f.a.z, .int .i64 p.f.a.n, .int .i64 p.f.b.k, .int .i64 p.f.b.t, .int .i64 p.f.b.c, .bool p.f.b.z, .int .i64 p.f.b.n, .slice A2 p.ps.length c2] 49)).ownsRow w0.heap.size 83 2 _ _ _ := hown.alloc _
      have hlen : N + (L ++ Pr.colss (ps.take q)).length + (Pr.cols p).length ≤ 5000 := by
        have h1 := HNN.out
        rw [HC2.out] at h1
        have h2 : (Pr.colss (ps.take (q + 1))).length ≤ (Pr.colss ps).length := by
          have : ps = ps.take (q + 1) ++ ps.drop (q + 1) := (List.take_append_drop _ _).symm
          have h3 : Pr.colss ps = Pr.colss (ps.take (q + 1)) ++ Pr.colss (ps.drop (q + 1)) := by
            conv => lhs; rw [this, Pr.colss_app]
          rw [h3, List.length_append]; omega
        rw [Pr.colss_take gp, List.length_append] at h2
        rw [List.length_append] at h1 ⊢
        omega
      have cs := IH.out e he p.f _ p.ps w0 _ _ _ _ ((hx w0 (Below.refl _ _)).2) (HS0.out.trans hsq) hoq (by rw [Pr.cols_mk]; exact hlen)
      rw [Pr.cols_mk] at cs
      have HT := Lib.hid (show L ++ Pr.colss (ps.take (q + 1)) = (L ++ Pr.colss (ps.take q)) ++ Pr.cols p by rw [Pr.colss_take gp, List.append_assoc])
      obtain ⟨M, hM⟩ : ∃ M, M = L ++ Pr.colss (ps.take q) := ⟨_, rfl⟩
      rw [← hM] at cs
      have HM := Lib.hid hM
      obtain ⟨x0, x1, x2, x3, x4, x5, x6, x7, x8, x9, x10, x11, x12, x13⟩ := hcell
      clear gp hx hps hu hwr hown hoq hlen hM
      go_wp2_with fail
      refine cs.mono ?_
      rintro e w2 ⟨v2, rfl, hown5, hst5⟩
      have hst6 := hsq.trans hst5
      have hown6 : w2.ownsRow w0.heap.size 83 2 v2 (N + (L ++ Pr.colss (ps.take (q + 1))).length) (xs ++ pairCells (L ++ Pr.colss (ps.take (q + 1)))) := by
        rw [HT.out, ← HM.out, List.length_append, pairCells_app, ← List.append_assoc, ← Nat.add_assoc]; exact hown5
      clear cs x0 x1 x2 x3 x4 x5 x6 x7 x8 x9 x10 x11 x12 x13 hst5 hsq hst hown5
      go_wp2_with fail
      go_roundw
      case rel => exact ⟨q + 1, by omega, by go_num, hown6, hst6⟩
      case measure => simp [intOf]; omega
    · have he : Hid (L ++ Pr.colss (ps.take q) = Pr.cols (.mk f ps)) := Lib.hid (by rw [HC2.out, List.take_of_length_le (by have := HN.out; omega)])
      rw [he.out] at hown
      have HO := Lib.hid hown
      clear hown
      go_wp2_with fail
      go_ret
      exact ⟨_, rfl, HO.out, HS1.out.trans hst⟩
theorem pcols_any (d : Nat) (f : Pf) (u : Value) (ps : List Pd) (w : World) (hu : PsAt d w u ps) (hsz : Pr.sizes ps ≤ 1000) :
    Calls Try.prog 50 #[.agg #[.int .i64 f.k, .int .i64 f.u, .int .i64 f.o, .int .i64 f.a.k, .int .i64 f.a.t, .int .i64 f.a.c, .bool f.a.z, .int .i64 f.a.n, .int .i64 f.b.k, .int .i64 f.b.t, .int .i64 f.b.c, .bool f.b.z, .int .i64 f.b.n, u]] w (SomePairs w (Pr.cols (.mk f ps))) := by
  have hlen : (Pr.cols (.mk f ps)).length ≤ 2002 := by
    have := Pr.cols_len (.mk f ps)
    rw [Pr.size] at this
    omega
  obtain ⟨A, c, rfl, hl⟩ := hu.form
  obtain ⟨W0, hW0⟩ : ∃ W0, W0 = w.alloc (Obj.cells #[.int .i64 f.k, .int .i64 f.u, .int .i64 f.o, .int .i64 f.a.k, .int .i64 f.a.t, .int .i64 f.a.c, .bool f.a.z, .int .i64 f.a.n, .int .i64 f.b.k, .int .i64 f.b.t, .int .i64 f.b.c, .bool f.b.z, .int .i64 f.b.n, .slice A ps.length c] 49) := ⟨_, rfl⟩
  obtain ⟨l0, p0, hb0⟩ := pd_box hW0
  have cs := pgcol_any d f _ ps W0 W0 (.slice none 0 0) 0 [] (hu.below hb0 (Nat.le_refl _)) (Step.refl _ _) (World.ownsRow_nil _ _ _ _) (by omega)
  rw [Nat.zero_add, List.nil_append] at cs
  obtain ⟨M, hM⟩ : ∃ M, M = Pr.cols (.mk f ps) := ⟨_, rfl⟩
  rw [← hM] at cs hlen ⊢
  have HW := Lib.hid hW0
  obtain ⟨x0, x1, x2, x3, x4, x5, x6, x7, x8, x9, x10, x11, x12, x13⟩ := p0
  clear hu hW0 l0 hM
  go_enter Try.func50, Try.ntmps50
  go_upto_region 1 with (fail)
  rw [← HW.out]
  go_wp2_with fail
  refine cs.mono ?_
  rintro e w2 ⟨v2, rfl, hown2, hst2⟩
  clear cs x0 x1 x2 x3 x4 x5 x6 x7 x8 x9 x10 x11 x12 x13
  go_wp2_with fail
  go_ret
  exact own_some ⟨v2, rfl, hown2.mono hb0.size, below_join hb0 hst2.below⟩ (by omega)
end Go.Proofs.Ytdcgfhenlddmeaa
