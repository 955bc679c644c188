/-
  THE LAW LogicLaws, walked.
-/
import Derived.Test.YtgopoeblkconeaaLogTells
import Derived.Test.YtgopoeblkconeaaSeq
import Derived.Deep.RegionHeld3
namespace Go.Proofs.Ytgopoeblkconeaa
open Go.RowKit Go.Sort
set_option maxHeartbeats 800000

theorem Try.infoInt4 : (Try.prog.info? 3).map (fun i => (i.zero, i.size, i.bytes)) = some (some (.int .i64 0), 1, 8) := by kernel_rfl
theorem in_turn4 {f : FuncId} {args : Array Value} {W0 W : World} {v : Value} (h : Calls Try.prog f args W fun e w' => e = .returned v ∧ Below W.heap.size W w') (hb : Below W0.heap.size W0 W) :
    Calls Try.prog f args W fun e w' => e = .returned v ∧ Below W0.heap.size W0 w' := h.mono fun _ _ ⟨he, hw⟩ => ⟨he, below_join4 hb hw⟩
theorem nots_snoc {l : List Int} {k : Nat} {x : Int} (h : l[k]? = some x) : (l.take (k + 1)).map Lo.notI = (l.take k).map Lo.notI ++ [Lo.notI x] := by
  rw [List.take_add_one, h]; simp

theorem cell_turn4 {W0 : World} {a : Addr} {v : Value} (h : W0.cell? a = some v) : ∀ W, Below W0.heap.size W0 W → W.cell? a = some v :=
  fun W hb => by rw [hb.cell (block_lt_of_cell h)]; exact h
theorem and_turn {W0 : World} {v : Value} {l : List Int} (hs : Sl W0 v (l.map (Value.int .i64))) (hl : l.length ≤ 9223372036854775807) (W : World) (h : Below W0.heap.size W0 W) :
    Calls Try.prog 9 #[v] W fun e w' => e = .returned (.int .i64 (Lo.andI l)) ∧ Below W0.heap.size W0 w' := in_turn4 (land_any v l W (hs.below h (Nat.le_refl _)) hl) h
theorem or_turn {W0 : World} {v : Value} {l : List Int} (hs : Sl W0 v (l.map (Value.int .i64))) (hl : l.length ≤ 9223372036854775807) (W : World) (h : Below W0.heap.size W0 W) :
    Calls Try.prog 11 #[v] W fun e w' => e = .returned (.int .i64 (Lo.orI l)) ∧ Below W0.heap.size W0 w' := in_turn4 (lor_any v l W (hs.below h (Nat.le_refl _)) hl) h
theorem not_turn {W0 W : World} (t : Int) (h : Below W0.heap.size W0 W) :
    Calls Try.prog 6 #[.int .i64 t] W fun e w' => e = .returned (.int .i64 (Lo.notI t)) ∧ Below W0.heap.size W0 w' := (lnot_any t W).mono fun _ _ ⟨he, hb⟩ => ⟨he, hb ▸ h⟩
theorem own_nothing (w : World) : (w.alloc (.cells #[] 3)).ownsRow w.heap.size 3 1 (.slice (some ⟨w.heap.size, 0, none⟩) 0 0) 0 [] := World.ownsRow_made w #[] 0 (Nat.le_refl _) (by decide) rfl
theorem below_alloc4 {w W : World} (h : Below w.heap.size w W) (o : Obj) : Below w.heap.size w (W.alloc o) := h.alloc h.size o
theorem keep4 {w W : World} {a : Addr} {x : Value} (hc : w.cell? a = some x) (h : Below w.heap.size w W) : W.cell? a = some x ∧ Below w.heap.size w W := ⟨cell_turn4 hc W h, h⟩

set_option maxRecDepth 100000 in
theorem logiclaws_any (v u : Value) (l m : List Int) (w : World) (hv : Came1 w v (l.map (Value.int .i64))) (hu : Came1 w u (m.map (Value.int .i64))) (hl : l.length ≤ 9223372036854775807) (hm : m.length ≤ 9223372036854775807) :
    Calls Try.prog 4 #[v, u] w fun e w' => e = .returned (.bool true) ∧ Below w.heap.size w w' := by
  obtain ⟨i0, hi, hz0, hz1, hz2⟩ := info_parts Try.infoInt4
  have HV := Lib.hid hv
  have HU := Lib.hid hu
  obtain ⟨A, c, rfl, _, hx⟩ := hv.sl
  obtain ⟨B, d, rfl, _, _⟩ := hu.sl
  rw [List.length_map] at HV HU ⊢
  rw [List.length_map]
  obtain ⟨n, hn⟩ : ∃ n, n = l.length := ⟨_, rfl⟩
  obtain ⟨q, hq⟩ : ∃ q, q = m.length := ⟨_, rfl⟩
  have HL := Lib.hid hl
  have HM := Lib.hid hm
  rw [← hn] at hl HV ⊢
  rw [← hq] at hm HU ⊢
  have Hn := Lib.hid hn
  have Hq := Lib.hid hq
  have HX := Lib.hid hx
  clear hn hq hx hv hu
  have HW := Lib.hid (fun (W : World) (h : Below w.heap.size w W) => (awake4_any W).mono fun _ _ ⟨he, hb⟩ => (⟨he, below_join4 h hb⟩ : _ ∧ Below w.heap.size w _))
  by_cases hlt : n ≤ 200 ∧ q ≤ 200
  · obtain ⟨hn2, hq2⟩ := hlt
    go_enter Try.func4, Try.ntmps4
    go_wp2_with fail
    go_loopw [5, 6] (fun v5 i wr => ∃ k : Nat, k ≤ n ∧ i = .int .i64 k ∧ wr.ownsRow w.heap.size 3 1 v5 k (((l.take k).map Lo.notI).map (Value.int .i64)) ∧ Below w.heap.size w wr) (fun _ i _ => n - (intOf i).toNat)
    case atStart =>
      refine ⟨0, Nat.zero_le _, rfl, ?_, (Below.refl _ w).alloc (Nat.le_refl _) _⟩
      exact World.ownsRow_made w #[] 0 (Nat.le_refl _) (by decide) rfl
    case round =>
      obtain ⟨k, hk, rfl, hown, hS⟩ := hrel
      by_cases hkn : k < n
      · obtain ⟨x, gx⟩ : ∃ x, l[k]? = some x := ⟨l[k]'(by have := Hn.out; omega), List.getElem?_eq_getElem _⟩
        obtain ⟨b1, o1, p1, rfl, _, hcell⟩ := HX.out k (.int .i64 x) (by simp [gx])
        have hc : wr.cell? ((⟨b1, o1, p1⟩ : Addr).add k) = some (.int .i64 x) := by rw [hS.cell (block_lt_of_cell hcell)]; exact hcell
        have Hc := Lib.hid hc
        obtain ⟨y, hy⟩ : ∃ y, y = Lo.notI x := ⟨_, rfl⟩
        have c1 : ∀ W, Calls Try.prog 6 #[.int .i64 x] W fun e w' => e = .returned (.int .i64 y) ∧ W = w' := by rw [hy]; exact lnot_any x
        have Hs := Lib.hid (nots_snoc gx)
        have Hy := Lib.hid hy
        have HB := Lib.hid (block_lt_of_cell hcell)
        have HC0 := Lib.hid hcell
        clear gx hcell hy
        go_wp2_with (first
          | (with_reducible refine (c1 _).mono ?_; rintro e w' ⟨rfl, rfl⟩)
          | (at_builtin; refine wpList_append_own _ rfl _ _ 22 rfl w.heap.size 3 i0 (.int .i64 0) 1 8 Try.underlying22 hi hz0 hz1 hz2 rfl (by decide) _ _ _ rfl (hown.alloc _) ⟨wr.heap.size, 0, none⟩ 1 1 [.int .i64 y] rfl rfl ?c1 ?c2 ?c3 ?c4 ?c5 ?_))
        case c1 => exact cell_one_new _ _ _
        case c2 => simp [Value.oneCell']
        case c3 => unfold maxLen; omega
        case c4 => omega
        case c5 => have := hS.size; simp; omega
        intro v' w1 hown' hgrow _
        have hw : Below w.heap.size w w1 := (hS.alloc hS.size _).grown hgrow (by have := hS.size; simp; omega) (fun j hj => (hown.lt j hj).1)
        have hown2 : w1.ownsRow w.heap.size 3 1 v' (k + 1) (((l.take (k + 1)).map Lo.notI).map (Value.int .i64)) := by
          rw [Hs.out, ← Hy.out]; simpa using hown'
        clear hown hown' hgrow
        have hc1 : w1.cell? ((⟨b1, o1, p1⟩ : Addr).add k) = some (.int .i64 x) := by rw [hw.cell HB.out]; exact HC0.out
        obtain ⟨z, hz⟩ : ∃ z, z = Lo.notI y := ⟨_, rfl⟩
        have d1 : ∀ W, Calls Try.prog 6 #[.int .i64 y] W fun e w' => e = .returned (.int .i64 z) ∧ W = w' := by rw [hz]; exact lnot_any y
        have hzx : Lo.andI [x] = z := by rw [hz, Hy.out, Lo.not_not]
        have d2 : Calls Try.prog 9 #[.slice (some ⟨w1.heap.size, 0, none⟩) 1 1] (w1.alloc (.cells #[.int .i64 x] 3)).drew fun e w' => e = .returned (.int .i64 z) ∧ Below w1.heap.size w1 w' := by
          rw [← hzx]
          exact (land_any _ [x] _ (sl_built w1 [x]).drew (by simp)).mono fun _ _ ⟨he, hb⟩ => ⟨he, below_join4 (((Below.refl _ w1).alloc (Nat.le_refl _) _).drew) hb⟩
        have D2 := Lib.hid d2
        have HC1 := Lib.hid hc1
        have hS1 : Below w1.heap.size w1 w1 := Below.refl _ _
        clear hc Hc hz hzx d2
        go_wp2_with fail
        go_region_held3 (fun w' => w'.cell? ((⟨b1, o1, p1⟩ : Addr).add k) = some (.int .i64 x) ∧ Below w1.heap.size w1 w') (first | (exact keep4 HC1.out (by first | assumption | exact Below.drew (by assumption) | exact below_alloc4 (by assumption) _ | exact Below.drew (below_alloc4 (by assumption) _))) | (go_split_ands; exact keep4 HC1.out (by first | assumption | exact Below.drew (by assumption) | exact below_alloc4 (by assumption) _ | exact Below.drew (below_alloc4 (by assumption) _))))
          (first
            | (go_at_call 6; (with_reducible refine (c1 _).mono ?_); rintro e w' ⟨rfl, rfl⟩)
            | (go_at_call 6; (with_reducible refine (d1 _).mono ?_); rintro e w' ⟨rfl, rfl⟩)
            | (go_at_call 9; (with_reducible refine D2.out.mono ?_); rintro e w' ⟨rfl, hbl5⟩))
        all_goals
          have hS2 := below_join4 hw hbl5
          have hown3 := own_below hown2 hbl5
          clear hown2 hc1 c1 d1 hS1 hS hw hbl5
          go_wp2
          go_roundw
          case rel => exact ⟨k + 1, by omega, by go_num, hown3, hS2⟩
          case measure => simp [intOf]; omega
      · obtain rfl : k = n := by omega
        have hN : (l.take k).map Lo.notI = l.map Lo.notI := by rw [List.take_of_length_le (by have := Hn.out; omega)]
        rw [hN] at hown
        have HN := Lib.hid (Sl.own hown)
        have HVr := Lib.hid (HV.out.below hS (Nat.le_refl _))
        have HUr := Lib.hid (HU.out.below hS (Nat.le_refl _))
        have Hlm0 : Hid (l.length = k) := Lib.hid Hn.out.symm
        have Hmm0 : Hid (m.length = q) := Lib.hid Hq.out.symm
        have hr := Below.refl wr.heap.size wr
        clear hown hN
        go_wp2_with (first
          | (at_builtin; refine wpList_append_came _ rfl _ _ 22 rfl wr.heap.size 3 i0 (.int .i64 0) 8 Try.underlying22 hi hz0 hz1 hz2 rfl _ 0 [] rfl (own_nothing wr) _ (l.map (Value.int .i64)) rfl (HVr.out.below (below_alloc4 hr _) (Nat.le_refl _)) (ints_one _ _) ?e1 ?e2 ?e3 ?_))
        case e1 => have h1 := Hlm0.out; have h2 := Hmm0.out; simp only [List.length_map]; unfold maxLen; omega
        case e2 => have h1 := Hlm0.out; have h2 := Hmm0.out; simp only [List.length_map]; omega
        case e3 => simp
        intro va wa howa hgwa
        have hbwa : Below wr.heap.size wr wa := grown_below (own_nothing wr) hgwa (below_alloc4 hr _) (by first | simp | exact hbwr.size)
        have hpwa : wa.ownsRow wr.heap.size 3 1 va l.length (l.map (Value.int .i64)) := by simpa [Nat.add_assoc] using howa
        clear howa hgwa
        go_wp2_with (first
          | (at_builtin; refine wpList_append_came _ rfl _ _ 22 rfl wr.heap.size 3 i0 (.int .i64 0) 8 Try.underlying22 hi hz0 hz1 hz2 rfl _ l.length (l.map (Value.int .i64)) rfl hpwa _ (m.map (Value.int .i64)) rfl (HUr.out.below hbwa (Nat.le_refl _)) (ints_one _ _) ?f1 ?f2 ?f3 ?_))
        case f1 => have h1 := Hlm0.out; have h2 := Hmm0.out; simp only [List.length_map]; unfold maxLen; omega
        case f2 => have h1 := Hlm0.out; have h2 := Hmm0.out; simp only [List.length_map]; omega
        case f3 => exact hbwa.size
        intro vb wb howb hgwb
        have hbwb : Below wr.heap.size wr wb := grown_below hpwa hgwb hbwa (by first | simp | exact hbwa.size)
        have hpwb : wb.ownsRow wr.heap.size 3 1 vb (l.length + m.length) ((l ++ m).map (Value.int .i64)) := by simpa [Nat.add_assoc] using howb
        clear howb hgwb
        clear hpwa hbwa
        have HVb := Lib.hid (HVr.out.below hbwb (Nat.le_refl _))
        have HUb := Lib.hid (HUr.out.below hbwb (Nat.le_refl _))
        have Hb := Lib.hid (Sl.own hpwb)
        have hr2 := Below.refl wb.heap.size wb
        clear hpwb
        go_wp2_with (first
          | (at_builtin; refine wpList_append_came _ rfl _ _ 22 rfl wb.heap.size 3 i0 (.int .i64 0) 8 Try.underlying22 hi hz0 hz1 hz2 rfl _ 0 [] rfl (own_nothing wb) _ (m.map (Value.int .i64)) rfl (HUb.out.below (below_alloc4 hr2 _) (Nat.le_refl _)) (ints_one _ _) ?g1 ?g2 ?g3 ?_))
        case g1 => have h1 := Hlm0.out; have h2 := Hmm0.out; simp only [List.length_map]; unfold maxLen; omega
        case g2 => have h1 := Hlm0.out; have h2 := Hmm0.out; simp only [List.length_map]; omega
        case g3 => simp
        intro vc wc howc hgwc
        have hbwc : Below wb.heap.size wb wc := grown_below (own_nothing wb) hgwc (below_alloc4 hr2 _) (by first | simp | exact hbwb.size)
        have hpwc : wc.ownsRow wb.heap.size 3 1 vc m.length (m.map (Value.int .i64)) := by simpa [Nat.add_assoc] using howc
        clear howc hgwc
        go_wp2_with (first
          | (at_builtin; refine wpList_append_came _ rfl _ _ 22 rfl wb.heap.size 3 i0 (.int .i64 0) 8 Try.underlying22 hi hz0 hz1 hz2 rfl _ m.length (m.map (Value.int .i64)) rfl hpwc _ (l.map (Value.int .i64)) rfl (HVb.out.below hbwc (Nat.le_refl _)) (ints_one _ _) ?p1 ?p2 ?p3 ?_))
        case p1 => have h1 := Hlm0.out; have h2 := Hmm0.out; simp only [List.length_map]; unfold maxLen; omega
        case p2 => have h1 := Hlm0.out; have h2 := Hmm0.out; simp only [List.length_map]; omega
        case p3 => exact hbwc.size
        intro vd wd howd hgwd
        have hbwd : Below wb.heap.size wb wd := grown_below hpwc hgwd hbwc (by first | simp | exact hbwc.size)
        have hpwd : wd.ownsRow wb.heap.size 3 1 vd (m.length + l.length) ((m ++ l).map (Value.int .i64)) := by simpa [Nat.add_assoc] using howd
        clear howd hgwd
        go_wp2_with (first
          | (at_builtin; refine wpList_append_came _ rfl _ _ 22 rfl wb.heap.size 3 i0 (.int .i64 0) 8 Try.underlying22 hi hz0 hz1 hz2 rfl _ (m.length + l.length) ((m ++ l).map (Value.int .i64)) rfl hpwd _ (m.map (Value.int .i64)) rfl (HUb.out.below hbwd (Nat.le_refl _)) (ints_one _ _) ?r1 ?r2 ?r3 ?_))
        case r1 => have h1 := Hlm0.out; have h2 := Hmm0.out; simp only [List.length_map]; unfold maxLen; omega
        case r2 => have h1 := Hlm0.out; have h2 := Hmm0.out; simp only [List.length_map]; omega
        case r3 => exact hbwd.size
        intro ve we howe hgwe
        have hbwe : Below wb.heap.size wb we := grown_below hpwd hgwe hbwd (by first | simp | exact hbwd.size)
        have hpwe : we.ownsRow wb.heap.size 3 1 ve (m.length + (l.length + m.length)) (((m ++ l) ++ m).map (Value.int .i64)) := by simpa [Nat.add_assoc] using howe
        clear howe hgwe
        have hse : Below w.heap.size w we := below_join4 (below_join4 hS hbwb) hbwe
        have sV := (HVb.out.below hbwe (Nat.le_refl _)).sl
        have sU := (HUb.out.below hbwe (Nat.le_refl _)).sl
        have sN := (HN.out.below hbwb (Nat.le_refl _)).below hbwe (Nat.le_refl _)
        have sB := Hb.out.below hbwe (Nat.le_refl _)
        have sT := Sl.own hpwe
        have h1 := Hlm0.out
        have h2 := Hmm0.out
        have c1 := and_turn sV HL.out
        have c3 := or_turn sN (by rw [List.length_map]; exact HL.out)
        have c4 := and_turn sB (by rw [List.length_append]; omega)
        have c5 := and_turn sT (by rw [List.length_append, List.length_append]; omega)
        have c6 := or_turn sB (by rw [List.length_append]; omega)
        have c7 := or_turn sT (by rw [List.length_append, List.length_append]; omega)
        have c8 := and_turn sU HM.out
        have c10 := or_turn sV HL.out
        have c11 := or_turn sU HM.out
        have c2 := fun W (h : Below we.heap.size we W) => not_turn (Lo.andI l) h
        have c9 := fun W (h : Below we.heap.size we W) => and_built [Lo.andI l, Lo.andI m] (by simp) h
        have c12 := fun W (h : Below we.heap.size we W) => or_built [Lo.orI l, Lo.orI m] (by simp) h
        have c13 := fun W (h : Below we.heap.size we W) => in_turn4 (awake4_any W) h
        rw [← Lo.and_turned] at c5
        rw [← Lo.or_turned] at c7
        rw [← Lo.not_and] at c3
        rw [← Lo.and_both] at c9
        rw [← Lo.or_both] at c12
        simp only [List.map_cons, List.map_nil, List.length_cons, List.length_nil] at c9 c12
        generalize Lo.andI (l ++ m) = ab at c4 c5 c9
        generalize Lo.orI (l ++ m) = ob at c6 c7 c12
        generalize Lo.notI (Lo.andI l) = na at c2 c3
        generalize Lo.andI l = a at c1 c2 c9
        generalize Lo.andI m = am at c8 c9
        generalize Lo.orI l = o at c10 c12
        generalize Lo.orI m = om at c11 c12
        have hS0 := Below.refl we.heap.size we
        clear sV sU sN sB sT hr hr2 h1 h2 hS hbwb hbwc hbwd hbwe hpwc hpwd hpwe
        go_wp2_with ((first
          | (with_reducible refine (c1 _ (by assumption)).mono ?_) | (with_reducible refine (c2 _ (by assumption)).mono ?_) | (with_reducible refine (c3 _ (by assumption)).mono ?_) | (with_reducible refine (c4 _ (by assumption)).mono ?_)
          | (with_reducible refine (c5 _ (by assumption)).mono ?_) | (with_reducible refine (c6 _ (by assumption)).mono ?_) | (with_reducible refine (c7 _ (by assumption)).mono ?_) | (with_reducible refine (c8 _ (by assumption)).mono ?_)
          | (with_reducible refine (c9 _ (by assumption)).mono ?_) | (with_reducible refine (c10 _ (by assumption)).mono ?_) | (with_reducible refine (c11 _ (by assumption)).mono ?_) | (with_reducible refine (c12 _ (by assumption)).mono ?_) | (with_reducible refine (c13 _ (by assumption)).mono ?_)); rintro e w' ⟨rfl, hS'⟩)
        go_ret
        exact ⟨rfl, below_join4 hse (by assumption)⟩
  · go_enter Try.func4, Try.ntmps4
    have hS := Below.refl w.heap.size w
    by_cases h1 : n ≤ 200
    · have h2 : ¬ q ≤ 200 := fun h => hlt ⟨h1, h⟩
      clear hlt
      go_wp2_with ((first | (with_reducible refine (HW.out _ (by assumption)).mono ?_)); rintro e w' ⟨rfl, hS'⟩)
      go_ret
      exact ⟨rfl, by assumption⟩
    · clear hlt
      go_wp2_with ((first | (with_reducible refine (HW.out _ (by assumption)).mono ?_)); rintro e w' ⟨rfl, hS'⟩)
      go_ret
      exact ⟨rfl, by assumption⟩
end Go.Proofs.Ytgopoeblkconeaa
