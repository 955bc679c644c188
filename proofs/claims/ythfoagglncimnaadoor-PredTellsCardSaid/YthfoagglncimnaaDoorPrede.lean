/-
  THE CONTRACT OF THE DOCUMENT's Columns OF LAYER 6; append of a row of any number of cells each.
-/
import Derived.Test.YthfoagglncimnaaDoorPredd
import Derived.Laws.AppendOwnNone
import Derived.Deep.Cut
import Derived.Deep.Onto
import Derived.Deep.Cut
import Derived.Deep.Onto
import Derived.Deep.Cut
import Derived.Deep.Onto
import Derived.Deep.Cut
import Derived.Deep.Onto
import Derived.Deep.Cut
import Derived.Deep.Onto
namespace Go.Proofs.YthfoagglncimnaaDoor
open Go.RowKit Go.Sort
set_option maxHeartbeats 1600000

/-- a slice whose cells are known: nil, or at an address -/
def CameN (w : World) (size : Nat) (u : Value) (m : Nat) (news : List Value) : Prop :=
  (u = .slice none 0 0 ∧ m = 0 ∧ news = []) ∨ ∃ b c, u = .slice (some b) m c ∧ news.length = m * size ∧ ∀ (j : Nat) (x : Value), news[j]? = some x → w.cell? (b.add j) = some x
theorem CameN.own {w : World} {base : Nat} {e : TypeId} {size : Nat} {v : Value} {n : Nat} {xs : List Value} (h : w.ownsRow base e size v n xs) : CameN w size v n xs := by
  rcases h.2 with ⟨hv, hn⟩ | ⟨g, cap, cur, rfl, _⟩
  · exact .inl ⟨hv, hn, List.eq_nil_of_length_eq_zero (by rw [h.1, hn, Nat.zero_mul])⟩
  · exact .inr ⟨_, cap, rfl, h.1, fun j x hx => h.cells (g := g) rfl j x hx⟩
theorem CameN.new (w : World) (t : TypeId) (size m : Nat) (xs : List Value) (g : Nat) (hg : w.heap.size = g) (hl : xs.length = m * size) : CameN (w.alloc (.cells xs.toArray t)) size (.slice (some ⟨g, 0, none⟩) m m) m xs := by
  subst hg
  refine .inr ⟨_, _, rfl, hl, fun j x hx => ?_⟩
  obtain ⟨A, c, hv, _, h⟩ := Sl.new w t xs
  cases hv
  obtain ⟨b, o, p, hA, _, hc⟩ := h j x hx
  cases hA
  exact hc
theorem wpList_append_n {P : Program} (w : World) {ops : Array Oper} {rest : List Oper} {o : Oper} {a : Act} {Q : Exit → Act → World → Prop} (hgd : o.guard = none) (s x : Operand) (t : TypeId)
    (ho : o.op = .call { callee := .builtin .append, args := #[s, x], argTypes := #[t, t] })
    (base : Nat) (e : TypeId) (i : TypeInfo) (z : Value) (size bytes : Nat) (ht : P.underlying t = some (.slice e)) (hi : P.info? e = some i) (hz : i.zero = some z)
    (hsize : i.size = size) (hby : i.bytes = bytes) (hzs : z.cells.size = size) (hs0 : 0 < size)
    (v : Value) (n : Nat) (xs : List Value) (hs : a.eval s = v) (hown : w.ownsRow base e size v n xs)
    (u : Value) (m : Nat) (news : List Value) (hx : a.eval x = u) (hu : CameN w size u m news) (h1 : ∀ u ∈ news, u.oneCell' = true)
    (h63 : n + m ≤ maxLen) (hbytes : (n + m) * bytes ≤ 140737488355328) (hbase : base ≤ w.heap.size)
    (h : ∀ v' w', w'.ownsRow base e size v' (n + m) (xs ++ news) → w.grownBy w' v.ownBlock → wpList P ops Q rest (a.put o.dst v') w') : wpList P ops Q (o :: rest) a w := by
  rcases hu with ⟨rfl, rfl, rfl⟩ | ⟨b, c, rfl, hl, hc⟩
  · refine wpList_append_own_none hgd s x t ho base e i size ht hi v n xs hs hown hx ?_
    exact h v w (by simpa using hown) ⟨rfl, rfl, rfl, Nat.le_refl _, fun _ _ _ => rfl⟩
  · exact wpList_append_own w hgd s x t ho base e i z size bytes ht hi hz hsize hby hzs hs0 v n xs hs hown b m c news hx hl hc h1 h63 hbytes hbase fun v' w' h2 h3 _ => h v' w' h2 h3
/-- the cells of pairs of numbers -/
def pairCells (l : List (Int × Int)) : List Value := l.flatMap fun x => [.int .i64 x.1, .int .i64 x.2]
theorem pairCells_app (l m : List (Int × Int)) : pairCells (l ++ m) = pairCells l ++ pairCells m := by simp [pairCells]
theorem pairCells_one (l : List (Int × Int)) : ∀ u ∈ pairCells l, u.oneCell' = true := by
  intro u hu
  simp only [pairCells, List.mem_flatMap] at hu
  obtain ⟨x, _, hx⟩ := hu
  simp at hx
  rcases hx with rfl | rfl <;> rfl
/-- what a call hands back: a slice of its own that holds the pairs l -/
def OwnPairs (w : World) (l : List (Int × Int)) (e : Ending) (w' : World) : Prop :=
  ∃ v, e = .returned v ∧ w'.ownsRow w.heap.size 34 2 v l.length (pairCells l) ∧ Below w.heap.size w w'
theorem Tryd.infoPair : (Tryd.prog.info? 34).map (fun i => (i.zero, i.size, i.bytes)) = some (some (.agg #[.int .i64 0, .int .i64 0]), 2, 16) := by kernel_rfl
set_option maxRecDepth 100000 in
theorem r6cols_any (d : Nat) : ∀ (f : Pf) (u : Value) (ps : List Pd) (w : World), PsAt d w u ps → Pr.sizes ps ≤ 1000 →
    Calls Tryd.prog 9 #[.agg #[.int .i64 f.k, .int .i64 f.u, .int .i64 f.o, .int .i64 f.a.k, .int .i64 f.a.t, .int .i64 f.a.c, .bool f.a.z, .int .i64 f.a.n, .int .i64 f.b.k, .int .i64 f.b.t, .int .i64 f.b.c, .bool f.b.z, .int .i64 f.b.n, u]] w (OwnPairs w (Pr.cols (.mk f ps))) := by
  induction d using Nat.strongRecOn with
  | ind d ih =>
  intro f u ps w hu hsz
  obtain ⟨i0, hi, hz0, hz1, hz2⟩ := info_parts Tryd.infoPair
  obtain ⟨W0, hW0⟩ : ∃ W0, W0 = w.alloc (Obj.cells #[.int .i64 f.k, .int .i64 f.u, .int .i64 f.o, .int .i64 f.a.k, .int .i64 f.a.t, .int .i64 f.a.c, .bool f.a.z, .int .i64 f.a.n, .int .i64 f.b.k, .int .i64 f.b.t, .int .i64 f.b.c, .bool f.b.z, .int .i64 f.b.n, u] 28) := ⟨_, rfl⟩
  obtain ⟨l0, p0, hb0⟩ := pd_box hW0
  have HU := Lib.hid (hu.below hb0 (Nat.le_refl _))
  obtain ⟨A, c, rfl, hl⟩ := hu.form
  have hn1 := Pr.sizes_length ps
  have HW := Lib.hid hW0
  have IH := Lib.hid ih
  have HP := Lib.hid p0
  have HL := Lib.hid l0.lt
  have HZ := Lib.hid hsz
  obtain ⟨n, hn⟩ : ∃ n, n = ps.length := ⟨_, rfl⟩
  rw [← hn] at hl HU HP HW hn1 ⊢
  have hn2 : n ≤ 1000 := by omega
  have HN := Lib.hid hn
  have how := own_empty W0 34 2 W0.heap.size (Nat.le_refl _) (w.heap.size + 1) (by rw [hW0, World.size_alloc])
  have hb : Below W0.heap.size W0 (W0.alloc (Obj.cells #[] 34)) := below_new _ _
  have HB0 := Lib.hid hb0
  have hcl := Pr.cols_at (.mk f ps)
  have HC := Lib.hid (show Pr.cols (.mk f ps) = (Te.cols f.a ++ Te.cols f.b) ++ Pr.colss ps from hcl)
  have HSZ := Lib.hid (show W0.heap.size = w.heap.size + 1 by rw [hW0, World.size_alloc])
  clear hW0 ih hu l0 p0 hn hsz hn1 hcl hb0
  go_enter Tryd.func9, Tryd.ntmps9
  have hown : (W0.alloc (Obj.cells #[] 34)).ownsRow W0.heap.size 34 2 (.slice (some ⟨w.heap.size + 1, 0, none⟩) 0 0) 0 (pairCells []) := how
  have hlen : (0 : Nat) ≤ 1 := by omega
  have z3 := (HP.out.below hb (show w.heap.size < W0.heap.size from HL.out)).c3
  rw [HW.out] at z3
  go_upto_if 9 with (fail)
  rw [← HW.out]
  clear z3
  go_cut [3] from 5 (fun s wr => wr.ownsRow W0.heap.size 34 2 s (Te.cols f.a).length (pairCells (Te.cols f.a)) ∧ Below W0.heap.size W0 wr)
  case first =>
    obtain ⟨k0, k1, k2, k3, k4, k5, k6, k7, k8, k9, k10, k11, k12, k13⟩ := HP.out.below hb (show w.heap.size < W0.heap.size from HL.out)
    by_cases h : f.a.k = 1
    · have e1 : (f.a.k == 1) = true := by simpa using h
      have hL := Lib.hid (show Te.cols f.a = [] ++ [(f.a.t, f.a.c)] by simp [Te.cols, h])
      have hcm := Lib.hid (show CameN ((W0.alloc (Obj.cells #[] 34)).alloc (Obj.cells #[.int .i64 f.a.t, .int .i64 f.a.c] 34)) 2 (.slice (some ⟨W0.heap.size + 1, 0, none⟩) 1 1) 1 [.int .i64 f.a.t, .int .i64 f.a.c] from CameN.new (W0.alloc (Obj.cells #[] 34)) 34 2 1 [.int .i64 f.a.t, .int .i64 f.a.c] _ (by rw [World.size_alloc]) rfl)
      have hone := Lib.hid (show ∀ u ∈ ([.int .i64 f.a.t, .int .i64 f.a.c] : List Value), u.oneCell' = true from pairCells_one [(f.a.t, f.a.c)])
      have h63 := Lib.hid (show 0 + 1 ≤ maxLen by unfold maxLen; omega)
      have hby := Lib.hid (show (0 + 1) * 16 ≤ 140737488355328 by omega)
      have hbs := Lib.hid (show W0.heap.size ≤ ((W0.alloc (Obj.cells #[] 34)).alloc (Obj.cells #[.int .i64 f.a.t, .int .i64 f.a.c] 34)).heap.size by have := hb.size; rw [World.size_alloc]; omega)
      have hoa := Lib.hid (hown.alloc (Obj.cells #[.int .i64 f.a.t, .int .i64 f.a.c] 34))
      clear h
      go_wp2_with (first
        | (at_builtin; refine wpList_append_n _ rfl _ _ 32 rfl W0.heap.size 34 i0 (.agg #[.int .i64 0, .int .i64 0]) 2 16 Tryd.underlying32 hi hz0 hz1 hz2 rfl (by decide) _ 0 _ rfl hoa.out _ 1 [.int .i64 f.a.t, .int .i64 f.a.c] rfl hcm.out hone.out h63.out hby.out hbs.out ?_))
      intro v1 w1 hown1 hgrow
      have hb1 : Below W0.heap.size W0 w1 := (hb.alloc hb.size _).grown hgrow hbs.out (fun k hk => (hown.lt k hk).1)
      have hown2 : w1.ownsRow W0.heap.size 34 2 v1 (Te.cols f.a).length (pairCells (Te.cols f.a)) := by rw [hL.out, List.length_append, pairCells_app]; exact hown1
      clear hown1 hgrow k0 k1 k2 k3 k4 k5 k6 k7 k8 k9 k10 k11 k12 k13
      go_wp2_with fail
      go_meet
      case rel => exact ⟨hown2, hb1⟩
    · have e1 : (f.a.k == 1) = false := by simpa using h
      have hL := Lib.hid (show Te.cols f.a = [] by simp [Te.cols, h])
      clear h
      go_wp2_with fail
      go_meet
      case rel => exact ⟨by rw [hL.out]; exact hown, hb⟩
  clear hown hb hlen
  obtain ⟨hown, hb⟩ := hcut
  have hlen : (Te.cols f.a).length ≤ 1 := Pr.te_cols_len _
  have z8 := (HP.out.below hb (show w.heap.size < W0.heap.size from HL.out)).c8
  go_upto_if 23 with (fail)
  clear z8
  go_cut [3] from 5 (fun s wr => wr.ownsRow W0.heap.size 34 2 s (Te.cols f.a ++ Te.cols f.b).length (pairCells (Te.cols f.a ++ Te.cols f.b)) ∧ Below W0.heap.size W0 wr)
  case first =>
    obtain ⟨k0, k1, k2, k3, k4, k5, k6, k7, k8, k9, k10, k11, k12, k13⟩ := HP.out.below hb (show w.heap.size < W0.heap.size from HL.out)
    by_cases h : f.b.k = 1
    · have e1 : (f.b.k == 1) = true := by simpa using h
      have hL := Lib.hid (show Te.cols f.a ++ Te.cols f.b = Te.cols f.a ++ [(f.b.t, f.b.c)] by simp [Te.cols, h])
      have hcm := Lib.hid (show CameN (wc.alloc (Obj.cells #[.int .i64 f.b.t, .int .i64 f.b.c] 34)) 2 (.slice (some ⟨wc.heap.size, 0, none⟩) 1 1) 1 [.int .i64 f.b.t, .int .i64 f.b.c] from CameN.new wc 34 2 1 [.int .i64 f.b.t, .int .i64 f.b.c] _ rfl rfl)
      have hone := Lib.hid (show ∀ u ∈ ([.int .i64 f.b.t, .int .i64 f.b.c] : List Value), u.oneCell' = true from pairCells_one [(f.b.t, f.b.c)])
      have h63 := Lib.hid (show (Te.cols f.a).length + 1 ≤ maxLen by unfold maxLen; omega)
      have hby := Lib.hid (show ((Te.cols f.a).length + 1) * 16 ≤ 140737488355328 by omega)
      have hbs := Lib.hid (show W0.heap.size ≤ (wc.alloc (Obj.cells #[.int .i64 f.b.t, .int .i64 f.b.c] 34)).heap.size by have := hb.size; rw [World.size_alloc]; omega)
      have hoa := Lib.hid (hown.alloc (Obj.cells #[.int .i64 f.b.t, .int .i64 f.b.c] 34))
      clear h
      go_wp2_with (first
        | (at_builtin; refine wpList_append_n _ rfl _ _ 32 rfl W0.heap.size 34 i0 (.agg #[.int .i64 0, .int .i64 0]) 2 16 Tryd.underlying32 hi hz0 hz1 hz2 rfl (by decide) _ (Te.cols f.a).length _ rfl hoa.out _ 1 [.int .i64 f.b.t, .int .i64 f.b.c] rfl hcm.out hone.out h63.out hby.out hbs.out ?_))
      intro v1 w1 hown1 hgrow
      have hb1 : Below W0.heap.size W0 w1 := (hb.alloc hb.size _).grown hgrow hbs.out (fun k hk => (hown.lt k hk).1)
      have hown2 : w1.ownsRow W0.heap.size 34 2 v1 (Te.cols f.a ++ Te.cols f.b).length (pairCells (Te.cols f.a ++ Te.cols f.b)) := by rw [hL.out, List.length_append, pairCells_app]; exact hown1
      clear hown1 hgrow k0 k1 k2 k3 k4 k5 k6 k7 k8 k9 k10 k11 k12 k13
      go_wp2_with fail
      go_meet
      case rel => exact ⟨hown2, hb1⟩
    · have e1 : (f.b.k == 1) = false := by simpa using h
      have hL := Lib.hid (show Te.cols f.a ++ Te.cols f.b = Te.cols f.a by simp [Te.cols, h])
      clear h
      go_wp2_with fail
      go_meet
      case rel => exact ⟨by rw [hL.out]; exact hown, hb⟩
  clear hown hb hlen
  obtain ⟨hown, hb⟩ := hcut
  have HS := Lib.hid hown
  go_wp2_with fail
  go_loopw [3, 4] (fun s i wr => ∃ (q : Nat), q ≤ n ∧ i = .int .i64 q ∧ wr.ownsRow W0.heap.size 34 2 s ((Te.cols f.a ++ Te.cols f.b) ++ Pr.colss (ps.take q)).length (pairCells ((Te.cols f.a ++ Te.cols f.b) ++ Pr.colss (ps.take q))) ∧ Below W0.heap.size W0 wr) (fun _ i _ => n - (intOf i).toNat)
  case atStart => exact ⟨0, Nat.zero_le _, rfl, by rw [List.take_zero, Pr.colss, List.append_nil]; exact HS.out, hb⟩
  case round =>
    obtain ⟨q, hq, rfl, hown, hb⟩ := hrel
    have k13 := (HP.out.below hb (show w.heap.size < W0.heap.size from HL.out)).c13
    by_cases hlt : q < n
    · obtain ⟨p, gp⟩ : ∃ p, ps[q]? = some p := ⟨ps[q]'(by have := HN.out; omega), List.getElem?_eq_getElem _⟩
      have hu := HU.out
      rw [HN.out] at hu
      obtain ⟨e, b, o, s, v', he, rfl, _, hx⟩ := hu.at_ gp
      obtain ⟨hcell, hps⟩ := hx wr hb
      have cs := IH.out e he p.f v' p.ps wr hps (by have := Pr.sizes_down gp; have := HZ.out; omega)
      rw [Pr.cols_mk] at cs
      have HT := Lib.hid (Pr.colss_take gp)
      have hl1 : ((Te.cols f.a ++ Te.cols f.b) ++ Pr.colss (ps.take q)).length ≤ 3000 := by
        have h1 := Pr.te_cols_len f.a
        have h2 := Pr.te_cols_len f.b
        have h3 := Pr.colss_len (ps.take q)
        have h4 := Pr.sizes_take q ps
        have h5 := HZ.out
        rw [List.length_append, List.length_append]
        omega
      have hl2 : (Pr.cols p).length ≤ 3000 := by
        have h1 := Pr.cols_len p
        have h2 := Pr.sizes_at gp
        have h3 := HZ.out
        omega
      obtain ⟨L1, hL1⟩ : ∃ L, L = (Te.cols f.a ++ Te.cols f.b) ++ Pr.colss (ps.take q) := ⟨_, rfl⟩
      obtain ⟨L2, hL2⟩ : ∃ L, L = Pr.cols p := ⟨_, rfl⟩
      have HT2 := Lib.hid (show (Te.cols f.a ++ Te.cols f.b) ++ Pr.colss (ps.take (q + 1)) = L1 ++ L2 by rw [HT.out, hL1, hL2, List.append_assoc, List.append_assoc, List.append_assoc])
      rw [← hL1] at hown hl1
      rw [← hL2] at cs hl2
      obtain ⟨q0, q1, q2, q3, q4, q5, q6, q7, q8, q9, q10, q11, q12, q13⟩ := hcell
      clear gp hx hps hu hL1 hL2 HT
      go_wp2_with fail
      refine cs.mono ?_
      rintro e w2 ⟨v2, rfl, hown2, hb2⟩
      have hb' := below_join hb hb2
      have hown3 := own_kept hown hb2
      have hcame := CameN.own hown2
      clear cs q0 q1 q2 q3 q4 q5 q6 q7 q8 q9 q10 q11 q12 q13 k13 hb2 hb hown hown2
      go_wp2_with (first
        | (at_builtin; refine wpList_append_n _ rfl _ _ 32 rfl W0.heap.size 34 i0 (.agg #[.int .i64 0, .int .i64 0]) 2 16 Tryd.underlying32 hi hz0 hz1 hz2 rfl (by decide) _ _ _ rfl hown3 _ _ _ rfl hcame (pairCells_one _) ?l1 ?l2 ?l3 ?_))
      case l1 => unfold maxLen; omega
      case l2 => omega
      case l3 => exact hb'.size
      intro v1 w3 hown4 hgrow
      have hb3 : Below W0.heap.size W0 w3 := hb'.grown hgrow hb'.size (fun k hk => (hown3.lt k hk).1)
      have hown5 : w3.ownsRow W0.heap.size 34 2 v1 ((Te.cols f.a ++ Te.cols f.b) ++ Pr.colss (ps.take (q + 1))).length (pairCells ((Te.cols f.a ++ Te.cols f.b) ++ Pr.colss (ps.take (q + 1)))) := by rw [HT2.out, List.length_append, pairCells_app]; exact hown4
      clear hown4 hgrow hown3 hcame hb'
      go_wp2_with fail
      go_roundw
      case rel => exact ⟨q + 1, by omega, by go_num, hown5, hb3⟩
      case measure => simp [intOf]; omega
    · have hL : (Te.cols f.a ++ Te.cols f.b) ++ Pr.colss (ps.take q) = Pr.cols (.mk f ps) := by rw [List.take_of_length_le (by have := HN.out; omega), HC.out]
      rw [hL] at hown
      have HO := Lib.hid hown
      clear hL hown
      go_wp2_with fail
      go_ret
      exact ⟨_, rfl, HO.out.mono HB0.out.size, below_join HB0.out hb⟩
end Go.Proofs.YthfoagglncimnaaDoor
