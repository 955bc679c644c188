/-
  THE LAW TermRows, walked.
-/
import Derived.Test.YtpgmobfoeopbcaaTermTells
import Derived.Test.YtpgmobfoeopbcaaSeq
import Derived.OwnWalk
namespace Go.Proofs.Ytpgmobfoeopbcaa
open Go.RowKit Go.Sort
set_option maxHeartbeats 8000000

theorem Try.infoRow : (Try.prog.info? 36).map (fun i => (i.zero, i.size, i.bytes)) = some (some (.slice none 0 0), 1, 24) := by kernel_rfl
theorem own_none (w : World) (e : TypeId) (g : Nat) (hg : w.heap.size = g) : (w.alloc (.cells #[] e)).ownsRow g e 1 (.slice (some ⟨g, 0, none⟩) 0 0) 0 [] := by
  subst hg; exact World.ownsRow_made w #[] 0 (Nat.le_refl _) (by decide) rfl
/-- rows in memory of the call's own: their slice values lie in a row of its own, the rows where they lay -/
structure OwnRws (w0 w : World) (v : Value) (n : Nat) (vs : List Value) (rs : List (List Vl)) : Prop where
  own : w.ownsRow w0.heap.size 36 1 v n vs
  len : vs.length = n
  lens : rs.length = n
  row : ∀ (i : Nat) (r : List Vl), rs[i]? = some r → ∃ u, vs[i]? = some u ∧ RowAt w0 u r
  kept : Below w0.heap.size w0 w
theorem OwnRws.rws {w0 w : World} {v : Value} {n : Nat} {vs : List Value} {rs : List (List Vl)} (h : OwnRws w0 w v n vs rs) : Rws w v rs :=
  ⟨vs, Sl.own h.own, by rw [h.len, h.lens], fun i r hr => by obtain ⟨u, hu, hr⟩ := h.row i r hr; exact ⟨u, hu, hr.below h.kept (Nat.le_refl _)⟩⟩
/-- one place made nil -/
theorem OwnRws.gone {w0 w : World} {g cap n : Nat} {vs : List Value} {rs : List (List Vl)} (h : OwnRws w0 w (.slice (some ⟨g, 0, none⟩) n cap) n vs rs) (j : Nat) :
    OwnRws w0 (w.setCell ⟨g, j, none⟩ (.slice none 0 0)) (.slice (some ⟨g, 0, none⟩) n cap) n (vs.set j (.slice none 0 0)) (rs.set j []) := by
  have hs := (h.own.stored j (.slice none 0 0)).1
  have hg := (h.own.lt g rfl).1
  refine ⟨hs, by simp [h.len], by simp [h.lens], fun i r hi => ?_, h.kept.setCell hg _⟩
  by_cases e : i = j
  · subst e
    have hl : i < rs.length := by
      by_cases hl : i < rs.length
      · exact hl
      · rw [List.getElem?_eq_none (by simp; omega)] at hi; cases hi
    rw [List.getElem?_set_self hl] at hi
    cases hi
    exact ⟨.slice none 0 0, by rw [List.getElem?_set_self (by rw [h.len, ← h.lens]; exact hl)], RowAt.nil _⟩
  · rw [List.getElem?_set_ne (by omega)] at hi
    obtain ⟨u, hu, hr⟩ := h.row i r hi
    exact ⟨u, by rw [List.getElem?_set_ne (by omega)]; exact hu, hr⟩
theorem OwnRws.grown {w0 w w' : World} {v : Value} {n : Nat} {vs : List Value} {rs : List (List Vl)} (h : OwnRws w0 w v n vs rs) (hb : Below w.heap.size w w') : OwnRws w0 w' v n vs rs :=
  ⟨own_below h.own hb, h.len, h.lens, h.row, below_join h.kept hb⟩
theorem OwnRws.form {w0 w : World} {v : Value} {n : Nat} {vs : List Value} {rs : List (List Vl)} (h : OwnRws w0 w v n vs rs) : ∃ A cap, v = .slice A n cap ∧ (0 < n → ∃ g, A = some ⟨g, 0, none⟩) := by
  rcases h.own.2 with ⟨rfl, hn⟩ | ⟨g, cap, cur, rfl, _⟩
  · exact ⟨none, 0, by rw [hn], fun h => by omega⟩
  · exact ⟨_, cap, rfl, fun _ => ⟨g, rfl⟩⟩
/-- the cell at a place -/
theorem OwnRws.at_ {w0 w : World} {g cap n : Nat} {vs : List Value} {rs : List (List Vl)} (h : OwnRws w0 w (.slice (some ⟨g, 0, none⟩) n cap) n vs rs) {j : Nat} (hj : j < n) :
    (∃ u, w.cell? ⟨g, j, none⟩ = some u) ∧ w.frozen? ⟨g, j, none⟩ = false := by
  refine ⟨⟨vs[j]'(by rw [h.len]; exact hj), ?_⟩, h.own.frozenAt j⟩
  rw [h.own.cellAt j (by omega), List.getElem?_eq_getElem]

set_option maxRecDepth 100000 in
theorem termrows_any (k t c : Int) (z : Bool) (n : Int) (v : Value) (vs : List Value) (rs : List (List Vl)) (x : Int) (w : World) (hv : RwsOf w v vs rs) (hcame : Came1 w v vs) (hone : ∀ u ∈ vs, u.oneCell' = true) (hx0 : 0 ≤ x) (hx1 : x ≤ 255) :
    Calls Try.prog 4 #[.agg #[.int .i64 k, .int .i64 t, .int .i64 c, .bool z, .int .i64 n], v, .int .u8 x] w fun e w' => e = .returned (.bool true) ∧ Below w.heap.size w w' := by
  obtain ⟨i0, hi, hz0, hz1, hz2⟩ := info_parts Try.infoRow
  obtain ⟨W0, hW0⟩ : ∃ W0, W0 = w.alloc (Obj.cells #[.int .i64 k, .int .i64 t, .int .i64 c, .bool z, .int .i64 n] 25) := ⟨_, rfl⟩
  obtain ⟨l0, hb0⟩ := box_one (cs := [.int .i64 k, .int .i64 t, .int .i64 c, .bool z, .int .i64 n]) hW0
  have hv0 : RwsOf W0 v vs rs := hv.below hb0 (Nat.le_refl _)
  have hc0 : Came1 W0 v vs := hcame.below hb0 (Nat.le_refl _)
  have cf := few_any v rs W0 ⟨vs, hv0⟩
  have HW := Lib.hid hW0
  clear hW0 hv hcame
  by_cases hf : Te.few rs = true
  · rw [hf] at cf
    obtain ⟨h70, h20⟩ := Te.few_yes hf
    have cw := tof_any k t c z n v rs W0 ⟨vs, hv0⟩
    have HV := Lib.hid hv0
    have HC := Lib.hid hc0
    have HO := Lib.hid hone
    have L0 := Lib.hid l0
    obtain ⟨y, m, hym⟩ : ∃ y m, Te.val ⟨k, t, c, z, n⟩ rs = (y, m) := ⟨_, _, rfl⟩
    rw [hym] at cw
    dsimp only at cw
    have HY := Lib.hid hym
    clear hf h20 hym hv0 hc0 hone l0
    go_enter Try.func4, Try.ntmps4
    go_wp2_with fail
    rw [← HW.out]
    refine cf.mono ?_
    rintro e w1 ⟨rfl, rfl⟩
    clear cf
    have k0 := L0.out.cell (i := 0) rfl
    have k1 := L0.out.cell (i := 1) rfl
    have k2 := L0.out.cell (i := 2) rfl
    have k3 := L0.out.cell (i := 3) rfl
    have k4 := L0.out.cell (i := 4) rfl
    go_wp2_with fail
    refine cw.mono ?_
    rintro e w1 ⟨rfl, hb1⟩
    clear cw k0 k1 k2 k3 k4
    obtain ⟨W2, hW2⟩ : ∃ W2, W2 = w1.alloc (Obj.cells #[.bool y, .int .i64 m] 23) := ⟨_, rfl⟩
    obtain ⟨l2, hb2'⟩ := box_one (cs := [.bool y, .int .i64 m]) hW2
    have hb2 : Below W0.heap.size W0 W2 := below_join hb1 hb2'
    have hb3 : Below W0.heap.size W0 (W2.alloc (.cells #[] 36)) := below_join hb2 (below_new _ _)
    have hc3 := HC.out.below hb3 (Nat.le_refl _)
    have how := own_none W2 36 (w1.heap.size + 1) (by rw [hW2, World.size_alloc])
    have hlen := HV.out.len
    rw [hW2] at hc3 how
    have HC3 := Lib.hid hc3
    have HOW := Lib.hid how
    have HW2 := Lib.hid hW2
    have HB2 := Lib.hid hb2
    have L2 := Lib.hid l2
    have L02 := Lib.hid (L0.out.below hb2 L0.out.lt)
    have hsz : W2.heap.size = w1.heap.size + 1 := by rw [hW2, World.size_alloc]
    have HSZ := Lib.hid hsz
    clear hW2 hb1 hb2' hb2 hb3 hc3 how l2 hsz
    go_wp2_with (first
      | (at_builtin; refine wpList_append_came _ rfl _ _ 26 rfl (w1.heap.size + 1) 36 i0 (.slice none 0 0) 24 Try.underlying26 hi hz0 hz1 hz2 rfl _ 0 [] rfl HOW.out v vs rfl HC3.out HO.out ?f1 ?f2 ?f3 ?_))
    case f1 => unfold maxLen; omega
    case f2 => omega
    case f3 => simp
    intro v4 w4 how4 hg4
    rw [← HW2.out] at hg4
    have hb4 : Below W2.heap.size W2 w4 := ((Below.refl _ W2).alloc (Nat.le_refl _) _).grown hg4 (by simp) (fun k hk => by simp only [Value.ownBlock, Option.some.injEq] at hk; have := HSZ.out; omega)
    have ho4 : OwnRws W2 w4 v4 rs.length vs rs := ⟨by rw [HSZ.out]; simpa [hlen] using how4, hlen, rfl, fun i r hr => by obtain ⟨u, hu, hr⟩ := HV.out.row i r hr; exact ⟨u, hu, hr.below HB2.out (Nat.le_refl _)⟩, hb4⟩
    clear how4 hg4
    obtain ⟨A4, c4, rfl, hA4⟩ := ho4.form
    obtain ⟨j, hj⟩ : ∃ j : Nat, x % 64 = (j : Int) := Int.eq_ofNat_of_zero_le (by omega)
    have hj64 : j < 64 := by omega
    by_cases hk : k = 1
    · subst hk
      by_cases hjl : j < rs.length
      · have d2 : decide (j < rs.length) = true := by simpa using hjl
        by_cases hjt : (j : Int) = t
        · subst hjt
          have k0 := (L02.out.below ho4.kept L02.out.lt).cell (i := 0) rfl
          have k1 := (L02.out.below ho4.kept L02.out.lt).cell (i := 1) rfl
          go_wp2_with fail
          clear k0 k1
          have hV := HY
          have k0 := cell_regrown ((L02.out.below ho4.kept L02.out.lt).cell (i := 0) rfl)
          have k1 := cell_regrown ((L02.out.below ho4.kept L02.out.lt).cell (i := 1) rfl)
          have k2 := cell_regrown ((L02.out.below ho4.kept L02.out.lt).cell (i := 2) rfl)
          have k3 := cell_regrown ((L02.out.below ho4.kept L02.out.lt).cell (i := 3) rfl)
          have k4 := cell_regrown ((L02.out.below ho4.kept L02.out.lt).cell (i := 4) rfl)
          have m0 := cell_regrown ((L2.out.below ho4.kept L2.out.lt).cell (i := 0) rfl)
          have m1 := cell_regrown ((L2.out.below ho4.kept L2.out.lt).cell (i := 1) rfl)
          have c1 := in_class (W0 := w4) fun W h => tof_any 1 (j : Int) c z n _ _ W (ho4.grown h).rws
          rw [hV.out] at c1
          dsimp only at c1
          refine wp_region_quiet_below (by kernel_rfl) (by kernel_rfl) ?_
          repeat (go_big_quiet_step (with_reducible exact c1 _ _))
          refine wpQuiet_nil ?_
          intro _ hw'
          obtain ⟨⟨dq, osq⟩, hw''⟩ := hw'
          subst hw''
          have ho6 := ho4.grown (below_regrown w4 dq osq)
          clear k0 k1 k2 k3 k4 m0 m1 c1 ho4
          generalize grow (redrawn w4 dq) osq = w6 at ho6 ⊢
          have k0 := (L02.out.below ho6.kept L02.out.lt).cell (i := 0) rfl
          have k1 := (L02.out.below ho6.kept L02.out.lt).cell (i := 1) rfl
          obtain ⟨g, rfl⟩ := hA4 (by omega)
          obtain ⟨⟨u, hce⟩, hfr⟩ := ho6.at_ hjl
          have ho7 := ho6.gone j
          have hN := Lib.hid (show Te.val ⟨1, (j : Int), c, z, n⟩ (rs.set j []) = (true, 0) by rw [Te.val_col rfl]; exact Te.col_gone (by first | omega | (simp; omega)))
          have q0 := (L02.out.below ho7.kept L02.out.lt).cell (i := 0) rfl
          have q1 := (L02.out.below ho7.kept L02.out.lt).cell (i := 1) rfl
          have q2 := (L02.out.below ho7.kept L02.out.lt).cell (i := 2) rfl
          have q3 := (L02.out.below ho7.kept L02.out.lt).cell (i := 3) rfl
          have q4 := (L02.out.below ho7.kept L02.out.lt).cell (i := 4) rfl
          go_wp2_with fail
          clear hce hfr k0 k1 q0 q1 q2 q3 q4
          obtain ⟨W7, hW7⟩ : ∃ W7, W7 = w6.setCell ⟨g, j, none⟩ (.slice none 0 0) := ⟨_, rfl⟩
          rw [← hW7] at ho7 ⊢
          clear hW7 ho6
          have k0 := (L02.out.below ho7.kept L02.out.lt).cell (i := 0) rfl
          have k1 := (L02.out.below ho7.kept L02.out.lt).cell (i := 1) rfl
          have k2 := (L02.out.below ho7.kept L02.out.lt).cell (i := 2) rfl
          have k3 := (L02.out.below ho7.kept L02.out.lt).cell (i := 3) rfl
          have k4 := (L02.out.below ho7.kept L02.out.lt).cell (i := 4) rfl
          have c2 := tof_any 1 (j : Int) c z n _ _ W7 ho7.rws
          rw [hN.out] at c2
          dsimp only at c2
          refine c2.mono ?_
          rintro e w8 ⟨rfl, hS8⟩
          clear c2 k0 k1 k2 k3 k4
          go_wp2_with ((first | (with_reducible refine (awake5_any _).mono ?_)); rintro e w' ⟨rfl, hS⟩)
          go_ret
          exact ⟨rfl, below_join (below_join (below_join (below_join hb0 HB2.out) ho7.kept) hS8) hS⟩
        · have d3 : ((j : Int) != t) = true := by simpa using hjt
          by_cases h0 : 0 ≤ t
          · obtain ⟨i, rfl⟩ := Int.eq_ofNat_of_zero_le h0
            by_cases hi2 : i < rs.length
            · have f2 : decide (i < rs.length) = true := by simpa using hi2
              have k0 := (L02.out.below ho4.kept L02.out.lt).cell (i := 0) rfl
              have k1 := (L02.out.below ho4.kept L02.out.lt).cell (i := 1) rfl
              obtain ⟨g, rfl⟩ := hA4 (by omega)
              obtain ⟨⟨u, hce⟩, hfr⟩ := ho4.at_ hjl
              have ho5 := ho4.gone j
              have hV := Lib.hid (show Te.val ⟨1, (i : Int), c, z, n⟩ (rs.set j []) = (y, m) by rw [← HY.out]; exact Te.val_set_col (fun h => hjt h.symm))
              go_wp2_with fail
              clear hce hfr k0 k1
              obtain ⟨W5, hW5⟩ : ∃ W5, W5 = w4.setCell ⟨g, j, none⟩ (.slice none 0 0) := ⟨_, rfl⟩
              rw [← hW5] at ho5 ⊢
              clear hW5 ho4 hb4
              have k0 := cell_regrown ((L02.out.below ho5.kept L02.out.lt).cell (i := 0) rfl)
              have k1 := cell_regrown ((L02.out.below ho5.kept L02.out.lt).cell (i := 1) rfl)
              have k2 := cell_regrown ((L02.out.below ho5.kept L02.out.lt).cell (i := 2) rfl)
              have k3 := cell_regrown ((L02.out.below ho5.kept L02.out.lt).cell (i := 3) rfl)
              have k4 := cell_regrown ((L02.out.below ho5.kept L02.out.lt).cell (i := 4) rfl)
              have m0 := cell_regrown ((L2.out.below ho5.kept L2.out.lt).cell (i := 0) rfl)
              have m1 := cell_regrown ((L2.out.below ho5.kept L2.out.lt).cell (i := 1) rfl)
              have c1 := in_class (W0 := W5) fun W h => tof_any 1 (i : Int) c z n _ _ W (ho5.grown h).rws
              rw [hV.out] at c1
              dsimp only at c1
              refine wp_region_quiet_below (by kernel_rfl) (by kernel_rfl) ?_
              repeat (go_big_quiet_step (with_reducible exact c1 _ _))
              refine wpQuiet_nil ?_
              intro _ hw'
              obtain ⟨⟨dq, osq⟩, hw''⟩ := hw'
              subst hw''
              have ho6 := ho5.grown (below_regrown W5 dq osq)
              clear k0 k1 k2 k3 k4 m0 m1 c1 ho5
              generalize grow (redrawn W5 dq) osq = w6 at ho6 ⊢
              have k0 := (L02.out.below ho6.kept L02.out.lt).cell (i := 0) rfl
              have k1 := (L02.out.below ho6.kept L02.out.lt).cell (i := 1) rfl
              obtain ⟨⟨u, hce⟩, hfr⟩ := ho6.at_ hi2
              have ho7 := ho6.gone i
              have hN := Lib.hid (show Te.val ⟨1, (i : Int), c, z, n⟩ ((rs.set j []).set i []) = (true, 0) by rw [Te.val_col rfl]; exact Te.col_gone (by first | omega | (simp; omega)))
              have q0 := (L02.out.below ho7.kept L02.out.lt).cell (i := 0) rfl
              have q1 := (L02.out.below ho7.kept L02.out.lt).cell (i := 1) rfl
              have q2 := (L02.out.below ho7.kept L02.out.lt).cell (i := 2) rfl
              have q3 := (L02.out.below ho7.kept L02.out.lt).cell (i := 3) rfl
              have q4 := (L02.out.below ho7.kept L02.out.lt).cell (i := 4) rfl
              go_wp2_with fail
              clear hce hfr k0 k1 q0 q1 q2 q3 q4
              obtain ⟨W7, hW7⟩ : ∃ W7, W7 = w6.setCell ⟨g, i, none⟩ (.slice none 0 0) := ⟨_, rfl⟩
              rw [← hW7] at ho7 ⊢
              clear hW7 ho6
              have k0 := (L02.out.below ho7.kept L02.out.lt).cell (i := 0) rfl
              have k1 := (L02.out.below ho7.kept L02.out.lt).cell (i := 1) rfl
              have k2 := (L02.out.below ho7.kept L02.out.lt).cell (i := 2) rfl
              have k3 := (L02.out.below ho7.kept L02.out.lt).cell (i := 3) rfl
              have k4 := (L02.out.below ho7.kept L02.out.lt).cell (i := 4) rfl
              have c2 := tof_any 1 (i : Int) c z n _ _ W7 ho7.rws
              rw [hN.out] at c2
              dsimp only at c2
              refine c2.mono ?_
              rintro e w8 ⟨rfl, hS8⟩
              clear c2 k0 k1 k2 k3 k4
              go_wp2_with ((first | (with_reducible refine (awake5_any _).mono ?_)); rintro e w' ⟨rfl, hS⟩)
              go_ret
              exact ⟨rfl, below_join (below_join (below_join (below_join hb0 HB2.out) ho7.kept) hS8) hS⟩
            · have f2 : decide (i < rs.length) = false := by simpa using hi2
              have k0 := (L02.out.below ho4.kept L02.out.lt).cell (i := 0) rfl
              have k1 := (L02.out.below ho4.kept L02.out.lt).cell (i := 1) rfl
              obtain ⟨g, rfl⟩ := hA4 (by omega)
              obtain ⟨⟨u, hce⟩, hfr⟩ := ho4.at_ hjl
              have ho5 := ho4.gone j
              have hV := Lib.hid (show Te.val ⟨1, (i : Int), c, z, n⟩ (rs.set j []) = (y, m) by rw [← HY.out]; exact Te.val_set_col (fun h => hjt h.symm))
              go_wp2_with fail
              clear hce hfr k0 k1
              obtain ⟨W5, hW5⟩ : ∃ W5, W5 = w4.setCell ⟨g, j, none⟩ (.slice none 0 0) := ⟨_, rfl⟩
              rw [← hW5] at ho5 ⊢
              clear hW5 ho4 hb4
              have k0 := cell_regrown ((L02.out.below ho5.kept L02.out.lt).cell (i := 0) rfl)
              have k1 := cell_regrown ((L02.out.below ho5.kept L02.out.lt).cell (i := 1) rfl)
              have k2 := cell_regrown ((L02.out.below ho5.kept L02.out.lt).cell (i := 2) rfl)
              have k3 := cell_regrown ((L02.out.below ho5.kept L02.out.lt).cell (i := 3) rfl)
              have k4 := cell_regrown ((L02.out.below ho5.kept L02.out.lt).cell (i := 4) rfl)
              have m0 := cell_regrown ((L2.out.below ho5.kept L2.out.lt).cell (i := 0) rfl)
              have m1 := cell_regrown ((L2.out.below ho5.kept L2.out.lt).cell (i := 1) rfl)
              have c1 := in_class (W0 := W5) fun W h => tof_any 1 (i : Int) c z n _ _ W (ho5.grown h).rws
              rw [hV.out] at c1
              dsimp only at c1
              refine wp_region_quiet_below (by kernel_rfl) (by kernel_rfl) ?_
              repeat (go_big_quiet_step (with_reducible exact c1 _ _))
              refine wpQuiet_nil ?_
              intro _ hw'
              obtain ⟨⟨dq, osq⟩, hw''⟩ := hw'
              subst hw''
              have ho6 := ho5.grown (below_regrown W5 dq osq)
              clear k0 k1 k2 k3 k4 m0 m1 c1 ho5
              generalize grow (redrawn W5 dq) osq = w6 at ho6 ⊢
              have k0 := (L02.out.below ho6.kept L02.out.lt).cell (i := 0) rfl
              have k1 := (L02.out.below ho6.kept L02.out.lt).cell (i := 1) rfl
              have hN := Lib.hid (show Te.val ⟨1, (i : Int), c, z, n⟩ (rs.set j []) = (true, 0) by rw [Te.val_col rfl]; exact Te.col_out (by first | omega | (simp; omega)))
              clear k0 k1
              have k0 := (L02.out.below ho6.kept L02.out.lt).cell (i := 0) rfl
              have k1 := (L02.out.below ho6.kept L02.out.lt).cell (i := 1) rfl
              have k2 := (L02.out.below ho6.kept L02.out.lt).cell (i := 2) rfl
              have k3 := (L02.out.below ho6.kept L02.out.lt).cell (i := 3) rfl
              have k4 := (L02.out.below ho6.kept L02.out.lt).cell (i := 4) rfl
              have c2 := tof_any 1 (i : Int) c z n _ _ w6 ho6.rws
              rw [hN.out] at c2
              dsimp only at c2
              go_wp2_with fail
              refine c2.mono ?_
              rintro e w8 ⟨rfl, hS8⟩
              clear c2 k0 k1 k2 k3 k4
              go_wp2_with ((first | (with_reducible refine (awake5_any _).mono ?_)); rintro e w' ⟨rfl, hS⟩)
              go_ret
              exact ⟨rfl, below_join (below_join (below_join (below_join hb0 HB2.out) ho6.kept) hS8) hS⟩
          · have k0 := (L02.out.below ho4.kept L02.out.lt).cell (i := 0) rfl
            have k1 := (L02.out.below ho4.kept L02.out.lt).cell (i := 1) rfl
            obtain ⟨g, rfl⟩ := hA4 (by omega)
            obtain ⟨⟨u, hce⟩, hfr⟩ := ho4.at_ hjl
            have ho5 := ho4.gone j
            have hV := Lib.hid (show Te.val ⟨1, t, c, z, n⟩ (rs.set j []) = (y, m) by rw [← HY.out]; exact Te.val_set_col (fun h => hjt h.symm))
            go_wp2_with fail
            clear hce hfr k0 k1
            obtain ⟨W5, hW5⟩ : ∃ W5, W5 = w4.setCell ⟨g, j, none⟩ (.slice none 0 0) := ⟨_, rfl⟩
            rw [← hW5] at ho5 ⊢
            clear hW5 ho4 hb4
            have k0 := cell_regrown ((L02.out.below ho5.kept L02.out.lt).cell (i := 0) rfl)
            have k1 := cell_regrown ((L02.out.below ho5.kept L02.out.lt).cell (i := 1) rfl)
            have k2 := cell_regrown ((L02.out.below ho5.kept L02.out.lt).cell (i := 2) rfl)
            have k3 := cell_regrown ((L02.out.below ho5.kept L02.out.lt).cell (i := 3) rfl)
            have k4 := cell_regrown ((L02.out.below ho5.kept L02.out.lt).cell (i := 4) rfl)
            have m0 := cell_regrown ((L2.out.below ho5.kept L2.out.lt).cell (i := 0) rfl)
            have m1 := cell_regrown ((L2.out.below ho5.kept L2.out.lt).cell (i := 1) rfl)
            have c1 := in_class (W0 := W5) fun W h => tof_any 1 t c z n _ _ W (ho5.grown h).rws
            rw [hV.out] at c1
            dsimp only at c1
            refine wp_region_quiet_below (by kernel_rfl) (by kernel_rfl) ?_
            repeat (go_big_quiet_step (with_reducible exact c1 _ _))
            refine wpQuiet_nil ?_
            intro _ hw'
            obtain ⟨⟨dq, osq⟩, hw''⟩ := hw'
            subst hw''
            have ho6 := ho5.grown (below_regrown W5 dq osq)
            clear k0 k1 k2 k3 k4 m0 m1 c1 ho5
            generalize grow (redrawn W5 dq) osq = w6 at ho6 ⊢
            have k0 := (L02.out.below ho6.kept L02.out.lt).cell (i := 0) rfl
            have k1 := (L02.out.below ho6.kept L02.out.lt).cell (i := 1) rfl
            have hN := Lib.hid (show Te.val ⟨1, t, c, z, n⟩ (rs.set j []) = (true, 0) by rw [Te.val_col rfl]; exact Te.col_out (by first | omega | (simp; omega)))
            clear k0 k1
            have k0 := (L02.out.below ho6.kept L02.out.lt).cell (i := 0) rfl
            have k1 := (L02.out.below ho6.kept L02.out.lt).cell (i := 1) rfl
            have k2 := (L02.out.below ho6.kept L02.out.lt).cell (i := 2) rfl
            have k3 := (L02.out.below ho6.kept L02.out.lt).cell (i := 3) rfl
            have k4 := (L02.out.below ho6.kept L02.out.lt).cell (i := 4) rfl
            have c2 := tof_any 1 t c z n _ _ w6 ho6.rws
            rw [hN.out] at c2
            dsimp only at c2
            go_wp2_with fail
            refine c2.mono ?_
            rintro e w8 ⟨rfl, hS8⟩
            clear c2 k0 k1 k2 k3 k4
            go_wp2_with ((first | (with_reducible refine (awake5_any _).mono ?_)); rintro e w' ⟨rfl, hS⟩)
            go_ret
            exact ⟨rfl, below_join (below_join (below_join (below_join hb0 HB2.out) ho6.kept) hS8) hS⟩
      · have d2 : decide (j < rs.length) = false := by simpa using hjl
        by_cases h0 : 0 ≤ t
        · obtain ⟨i, rfl⟩ := Int.eq_ofNat_of_zero_le h0
          by_cases hi2 : i < rs.length
          · have f2 : decide (i < rs.length) = true := by simpa using hi2
            have k0 := (L02.out.below ho4.kept L02.out.lt).cell (i := 0) rfl
            have k1 := (L02.out.below ho4.kept L02.out.lt).cell (i := 1) rfl
            go_wp2_with fail
            clear k0 k1
            have hV := HY
            have k0 := cell_regrown ((L02.out.below ho4.kept L02.out.lt).cell (i := 0) rfl)
            have k1 := cell_regrown ((L02.out.below ho4.kept L02.out.lt).cell (i := 1) rfl)
            have k2 := cell_regrown ((L02.out.below ho4.kept L02.out.lt).cell (i := 2) rfl)
            have k3 := cell_regrown ((L02.out.below ho4.kept L02.out.lt).cell (i := 3) rfl)
            have k4 := cell_regrown ((L02.out.below ho4.kept L02.out.lt).cell (i := 4) rfl)
            have m0 := cell_regrown ((L2.out.below ho4.kept L2.out.lt).cell (i := 0) rfl)
            have m1 := cell_regrown ((L2.out.below ho4.kept L2.out.lt).cell (i := 1) rfl)
            have c1 := in_class (W0 := w4) fun W h => tof_any 1 (i : Int) c z n _ _ W (ho4.grown h).rws
            rw [hV.out] at c1
            dsimp only at c1
            refine wp_region_quiet_below (by kernel_rfl) (by kernel_rfl) ?_
            repeat (go_big_quiet_step (with_reducible exact c1 _ _))
            refine wpQuiet_nil ?_
            intro _ hw'
            obtain ⟨⟨dq, osq⟩, hw''⟩ := hw'
            subst hw''
            have ho6 := ho4.grown (below_regrown w4 dq osq)
            clear k0 k1 k2 k3 k4 m0 m1 c1 ho4
            generalize grow (redrawn w4 dq) osq = w6 at ho6 ⊢
            have k0 := (L02.out.below ho6.kept L02.out.lt).cell (i := 0) rfl
            have k1 := (L02.out.below ho6.kept L02.out.lt).cell (i := 1) rfl
            obtain ⟨g, rfl⟩ := hA4 (by omega)
            obtain ⟨⟨u, hce⟩, hfr⟩ := ho6.at_ hi2
            have ho7 := ho6.gone i
            have hN := Lib.hid (show Te.val ⟨1, (i : Int), c, z, n⟩ (rs.set i []) = (true, 0) by rw [Te.val_col rfl]; exact Te.col_gone (by first | omega | (simp; omega)))
            have q0 := (L02.out.below ho7.kept L02.out.lt).cell (i := 0) rfl
            have q1 := (L02.out.below ho7.kept L02.out.lt).cell (i := 1) rfl
            have q2 := (L02.out.below ho7.kept L02.out.lt).cell (i := 2) rfl
            have q3 := (L02.out.below ho7.kept L02.out.lt).cell (i := 3) rfl
            have q4 := (L02.out.below ho7.kept L02.out.lt).cell (i := 4) rfl
            go_wp2_with fail
            clear hce hfr k0 k1 q0 q1 q2 q3 q4
            obtain ⟨W7, hW7⟩ : ∃ W7, W7 = w6.setCell ⟨g, i, none⟩ (.slice none 0 0) := ⟨_, rfl⟩
            rw [← hW7] at ho7 ⊢
            clear hW7 ho6
            have k0 := (L02.out.below ho7.kept L02.out.lt).cell (i := 0) rfl
            have k1 := (L02.out.below ho7.kept L02.out.lt).cell (i := 1) rfl
            have k2 := (L02.out.below ho7.kept L02.out.lt).cell (i := 2) rfl
            have k3 := (L02.out.below ho7.kept L02.out.lt).cell (i := 3) rfl
            have k4 := (L02.out.below ho7.kept L02.out.lt).cell (i := 4) rfl
            have c2 := tof_any 1 (i : Int) c z n _ _ W7 ho7.rws
            rw [hN.out] at c2
            dsimp only at c2
            refine c2.mono ?_
            rintro e w8 ⟨rfl, hS8⟩
            clear c2 k0 k1 k2 k3 k4
            go_wp2_with ((first | (with_reducible refine (awake5_any _).mono ?_)); rintro e w' ⟨rfl, hS⟩)
            go_ret
            exact ⟨rfl, below_join (below_join (below_join (below_join hb0 HB2.out) ho7.kept) hS8) hS⟩
          · have f2 : decide (i < rs.length) = false := by simpa using hi2
            have k0 := (L02.out.below ho4.kept L02.out.lt).cell (i := 0) rfl
            have k1 := (L02.out.below ho4.kept L02.out.lt).cell (i := 1) rfl
            go_wp2_with fail
            clear k0 k1
            have hV := HY
            have k0 := cell_regrown ((L02.out.below ho4.kept L02.out.lt).cell (i := 0) rfl)
            have k1 := cell_regrown ((L02.out.below ho4.kept L02.out.lt).cell (i := 1) rfl)
            have k2 := cell_regrown ((L02.out.below ho4.kept L02.out.lt).cell (i := 2) rfl)
            have k3 := cell_regrown ((L02.out.below ho4.kept L02.out.lt).cell (i := 3) rfl)
            have k4 := cell_regrown ((L02.out.below ho4.kept L02.out.lt).cell (i := 4) rfl)
            have m0 := cell_regrown ((L2.out.below ho4.kept L2.out.lt).cell (i := 0) rfl)
            have m1 := cell_regrown ((L2.out.below ho4.kept L2.out.lt).cell (i := 1) rfl)
            have c1 := in_class (W0 := w4) fun W h => tof_any 1 (i : Int) c z n _ _ W (ho4.grown h).rws
            rw [hV.out] at c1
            dsimp only at c1
            refine wp_region_quiet_below (by kernel_rfl) (by kernel_rfl) ?_
            repeat (go_big_quiet_step (with_reducible exact c1 _ _))
            refine wpQuiet_nil ?_
            intro _ hw'
            obtain ⟨⟨dq, osq⟩, hw''⟩ := hw'
            subst hw''
            have ho6 := ho4.grown (below_regrown w4 dq osq)
            clear k0 k1 k2 k3 k4 m0 m1 c1 ho4
            generalize grow (redrawn w4 dq) osq = w6 at ho6 ⊢
            have k0 := (L02.out.below ho6.kept L02.out.lt).cell (i := 0) rfl
            have k1 := (L02.out.below ho6.kept L02.out.lt).cell (i := 1) rfl
            have hN := Lib.hid (show Te.val ⟨1, (i : Int), c, z, n⟩ rs = (true, 0) by rw [Te.val_col rfl]; exact Te.col_out (by first | omega | (simp; omega)))
            clear k0 k1
            have k0 := (L02.out.below ho6.kept L02.out.lt).cell (i := 0) rfl
            have k1 := (L02.out.below ho6.kept L02.out.lt).cell (i := 1) rfl
            have k2 := (L02.out.below ho6.kept L02.out.lt).cell (i := 2) rfl
            have k3 := (L02.out.below ho6.kept L02.out.lt).cell (i := 3) rfl
            have k4 := (L02.out.below ho6.kept L02.out.lt).cell (i := 4) rfl
            have c2 := tof_any 1 (i : Int) c z n _ _ w6 ho6.rws
            rw [hN.out] at c2
            dsimp only at c2
            go_wp2_with fail
            refine c2.mono ?_
            rintro e w8 ⟨rfl, hS8⟩
            clear c2 k0 k1 k2 k3 k4
            go_wp2_with ((first | (with_reducible refine (awake5_any _).mono ?_)); rintro e w' ⟨rfl, hS⟩)
            go_ret
            exact ⟨rfl, below_join (below_join (below_join (below_join hb0 HB2.out) ho6.kept) hS8) hS⟩
        · have k0 := (L02.out.below ho4.kept L02.out.lt).cell (i := 0) rfl
          have k1 := (L02.out.below ho4.kept L02.out.lt).cell (i := 1) rfl
          go_wp2_with fail
          clear k0 k1
          have hV := HY
          have k0 := cell_regrown ((L02.out.below ho4.kept L02.out.lt).cell (i := 0) rfl)
          have k1 := cell_regrown ((L02.out.below ho4.kept L02.out.lt).cell (i := 1) rfl)
          have k2 := cell_regrown ((L02.out.below ho4.kept L02.out.lt).cell (i := 2) rfl)
          have k3 := cell_regrown ((L02.out.below ho4.kept L02.out.lt).cell (i := 3) rfl)
          have k4 := cell_regrown ((L02.out.below ho4.kept L02.out.lt).cell (i := 4) rfl)
          have m0 := cell_regrown ((L2.out.below ho4.kept L2.out.lt).cell (i := 0) rfl)
          have m1 := cell_regrown ((L2.out.below ho4.kept L2.out.lt).cell (i := 1) rfl)
          have c1 := in_class (W0 := w4) fun W h => tof_any 1 t c z n _ _ W (ho4.grown h).rws
          rw [hV.out] at c1
          dsimp only at c1
          refine wp_region_quiet_below (by kernel_rfl) (by kernel_rfl) ?_
          repeat (go_big_quiet_step (with_reducible exact c1 _ _))
          refine wpQuiet_nil ?_
          intro _ hw'
          obtain ⟨⟨dq, osq⟩, hw''⟩ := hw'
          subst hw''
          have ho6 := ho4.grown (below_regrown w4 dq osq)
          clear k0 k1 k2 k3 k4 m0 m1 c1 ho4
          generalize grow (redrawn w4 dq) osq = w6 at ho6 ⊢
          have k0 := (L02.out.below ho6.kept L02.out.lt).cell (i := 0) rfl
          have k1 := (L02.out.below ho6.kept L02.out.lt).cell (i := 1) rfl
          have hN := Lib.hid (show Te.val ⟨1, t, c, z, n⟩ rs = (true, 0) by rw [Te.val_col rfl]; exact Te.col_out (by first | omega | (simp; omega)))
          clear k0 k1
          have k0 := (L02.out.below ho6.kept L02.out.lt).cell (i := 0) rfl
          have k1 := (L02.out.below ho6.kept L02.out.lt).cell (i := 1) rfl
          have k2 := (L02.out.below ho6.kept L02.out.lt).cell (i := 2) rfl
          have k3 := (L02.out.below ho6.kept L02.out.lt).cell (i := 3) rfl
          have k4 := (L02.out.below ho6.kept L02.out.lt).cell (i := 4) rfl
          have c2 := tof_any 1 t c z n _ _ w6 ho6.rws
          rw [hN.out] at c2
          dsimp only at c2
          go_wp2_with fail
          refine c2.mono ?_
          rintro e w8 ⟨rfl, hS8⟩
          clear c2 k0 k1 k2 k3 k4
          go_wp2_with ((first | (with_reducible refine (awake5_any _).mono ?_)); rintro e w' ⟨rfl, hS⟩)
          go_ret
          exact ⟨rfl, below_join (below_join (below_join (below_join hb0 HB2.out) ho6.kept) hS8) hS⟩
    · have d1 : (k != 1) = true := by simpa using hk
      by_cases hjl : j < rs.length
      · have d2 : decide (j < rs.length) = true := by simpa using hjl
        have k0 := (L02.out.below ho4.kept L02.out.lt).cell (i := 0) rfl
        have k1 := (L02.out.below ho4.kept L02.out.lt).cell (i := 1) rfl
        obtain ⟨g, rfl⟩ := hA4 (by omega)
        obtain ⟨⟨u, hce⟩, hfr⟩ := ho4.at_ hjl
        have ho5 := ho4.gone j
        have hV := Lib.hid (show Te.val ⟨k, t, c, z, n⟩ (rs.set j []) = (y, m) by rw [← HY.out]; exact Te.val_set_other hk)
        go_wp2_with fail
        clear hce hfr k0 k1
        obtain ⟨W5, hW5⟩ : ∃ W5, W5 = w4.setCell ⟨g, j, none⟩ (.slice none 0 0) := ⟨_, rfl⟩
        rw [← hW5] at ho5 ⊢
        clear hW5 ho4 hb4
        have k0 := cell_regrown ((L02.out.below ho5.kept L02.out.lt).cell (i := 0) rfl)
        have k1 := cell_regrown ((L02.out.below ho5.kept L02.out.lt).cell (i := 1) rfl)
        have k2 := cell_regrown ((L02.out.below ho5.kept L02.out.lt).cell (i := 2) rfl)
        have k3 := cell_regrown ((L02.out.below ho5.kept L02.out.lt).cell (i := 3) rfl)
        have k4 := cell_regrown ((L02.out.below ho5.kept L02.out.lt).cell (i := 4) rfl)
        have m0 := cell_regrown ((L2.out.below ho5.kept L2.out.lt).cell (i := 0) rfl)
        have m1 := cell_regrown ((L2.out.below ho5.kept L2.out.lt).cell (i := 1) rfl)
        have c1 := in_class (W0 := W5) fun W h => tof_any k t c z n _ _ W (ho5.grown h).rws
        rw [hV.out] at c1
        dsimp only at c1
        refine wp_region_quiet_below (by kernel_rfl) (by kernel_rfl) ?_
        repeat (go_big_quiet_step (with_reducible exact c1 _ _))
        refine wpQuiet_nil ?_
        intro _ hw'
        obtain ⟨⟨dq, osq⟩, hw''⟩ := hw'
        subst hw''
        have ho6 := ho5.grown (below_regrown W5 dq osq)
        clear k0 k1 k2 k3 k4 m0 m1 c1 ho5
        generalize grow (redrawn W5 dq) osq = w6 at ho6 ⊢
        have k0 := (L02.out.below ho6.kept L02.out.lt).cell (i := 0) rfl
        have k3 := (L02.out.below ho6.kept L02.out.lt).cell (i := 3) rfl
        have k4 := (L02.out.below ho6.kept L02.out.lt).cell (i := 4) rfl
        have m0 := (L2.out.below ho6.kept L2.out.lt).cell (i := 0) rfl
        have m1 := (L2.out.below ho6.kept L2.out.lt).cell (i := 1) rfl
        obtain ⟨rfl, rfl⟩ : z = y ∧ n = m := by have h := HY.out; rw [Te.val_other hk] at h; simpa using h
        go_wp2_with ((first | (with_reducible refine (awake5_any _).mono ?_)); rintro e w' ⟨rfl, hS⟩)
        go_ret
        exact ⟨rfl, below_join (below_join (below_join hb0 HB2.out) ho6.kept) hS⟩
      · have d2 : decide (j < rs.length) = false := by simpa using hjl
        have k0 := (L02.out.below ho4.kept L02.out.lt).cell (i := 0) rfl
        have k1 := (L02.out.below ho4.kept L02.out.lt).cell (i := 1) rfl
        go_wp2_with fail
        clear k0 k1
        have hV := HY
        have k0 := cell_regrown ((L02.out.below ho4.kept L02.out.lt).cell (i := 0) rfl)
        have k1 := cell_regrown ((L02.out.below ho4.kept L02.out.lt).cell (i := 1) rfl)
        have k2 := cell_regrown ((L02.out.below ho4.kept L02.out.lt).cell (i := 2) rfl)
        have k3 := cell_regrown ((L02.out.below ho4.kept L02.out.lt).cell (i := 3) rfl)
        have k4 := cell_regrown ((L02.out.below ho4.kept L02.out.lt).cell (i := 4) rfl)
        have m0 := cell_regrown ((L2.out.below ho4.kept L2.out.lt).cell (i := 0) rfl)
        have m1 := cell_regrown ((L2.out.below ho4.kept L2.out.lt).cell (i := 1) rfl)
        have c1 := in_class (W0 := w4) fun W h => tof_any k t c z n _ _ W (ho4.grown h).rws
        rw [hV.out] at c1
        dsimp only at c1
        refine wp_region_quiet_below (by kernel_rfl) (by kernel_rfl) ?_
        repeat (go_big_quiet_step (with_reducible exact c1 _ _))
        refine wpQuiet_nil ?_
        intro _ hw'
        obtain ⟨⟨dq, osq⟩, hw''⟩ := hw'
        subst hw''
        have ho6 := ho4.grown (below_regrown w4 dq osq)
        clear k0 k1 k2 k3 k4 m0 m1 c1 ho4
        generalize grow (redrawn w4 dq) osq = w6 at ho6 ⊢
        have k0 := (L02.out.below ho6.kept L02.out.lt).cell (i := 0) rfl
        have k3 := (L02.out.below ho6.kept L02.out.lt).cell (i := 3) rfl
        have k4 := (L02.out.below ho6.kept L02.out.lt).cell (i := 4) rfl
        have m0 := (L2.out.below ho6.kept L2.out.lt).cell (i := 0) rfl
        have m1 := (L2.out.below ho6.kept L2.out.lt).cell (i := 1) rfl
        obtain ⟨rfl, rfl⟩ : z = y ∧ n = m := by have h := HY.out; rw [Te.val_other hk] at h; simpa using h
        go_wp2_with ((first | (with_reducible refine (awake5_any _).mono ?_)); rintro e w' ⟨rfl, hS⟩)
        go_ret
        exact ⟨rfl, below_join (below_join (below_join hb0 HB2.out) ho6.kept) hS⟩
  · have hf' : Te.few rs = false := by simpa using hf
    rw [hf'] at cf
    have ca := awake5_any W0
    clear hf hf' l0 hv0 hc0
    go_enter Try.func4, Try.ntmps4
    go_wp2_with fail
    rw [← HW.out]
    refine cf.mono ?_
    rintro e w1 ⟨rfl, rfl⟩
    clear cf
    go_wp2_with (refine ca.mono ?_; rintro e w' ⟨rfl, hS⟩)
    go_ret
    exact ⟨rfl, below_join hb0 hS⟩
end Go.Proofs.Ytpgmobfoeopbcaa
