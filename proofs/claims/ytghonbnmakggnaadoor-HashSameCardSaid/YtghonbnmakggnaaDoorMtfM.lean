/-
  PACKAGE match: Extend.
-/
import Derived.Test.YtghonbnmakggnaaDoorMteM
namespace Go.Proofs.YtghonbnmakggnaaDoor
open Go.RowKit Go.Sort
set_option maxHeartbeats 3200000

set_option maxRecDepth 100000 in
theorem extend_on (k : Int) (d : Nat) (cv lv rv : Value) (ps : List Pd) (l : List (List Vl)) (r : List (List (List Vl))) (w : World) (hp : PsAt d w cv ps) (hsz : Pr.sizes ps ≤ 1000) (hW : Want w) (hl : RwsOn Al w lv l) (hr : TusOn Al w rv r)
    (hl1 : l.length ≤ 100) (hl2 : ∀ x ∈ l, x.length ≤ 100) (hr1 : r.length ≤ 1000) (hr2 : ∀ x ∈ r, x.length ≤ 100) (hr3 : ∀ x ∈ r, ∀ y ∈ x, y.length ≤ 100) :
    Calls Tryd.prog 40 #[.int .i64 k, cv, lv, rv] w (TuplesOn (fun j => w.heap.size ≤ j) w (Mt.extend k ps l r)) := by
  have cm := matches_on d cv lv rv ps l r w hp hsz hW hl hr hl1 hl2 hr1 hr2 hr3
  have hl' : RwsOn (fun k => k < w.heap.size) w lv l := hl.mono fun k h1 _ => h1
  have hr' : TusOn (fun k => k < w.heap.size) w rv r := hr.mono fun k h1 _ => h1
  have hany := Mt.any_found ps l r
  obtain ⟨P0, p0, rfl, _⟩ := hp.form
  obtain ⟨L0, c0, rfl, _⟩ := hl.form
  obtain ⟨R0, c1, rfl, _⟩ := hr.form
  have ca := fun (W : World) (h : Below w.heap.size w W) => alone_on _ l W (hl.below h (Nat.le_refl _)) (by omega) fun x hx => Nat.le_trans (hl2 x hx) (by decide)
  have cc := fun (W : World) (gc gl gr : Nat) (hM : Mat w W gc gl gr _ _ _) => contains13_any d w W gc gl gr _ _ (.slice none 0 0) _ ps l r hM hp hsz hW hl' hr' (by omega) (fun x hx => Nat.le_trans (hr2 x hx) (by decide)) (by omega)
  have ct := matcher_any w P0 L0 ps.length p0 l.length c0
  obtain ⟨m, hm⟩ : ∃ m, m = Mt.found ps l r := ⟨_, rfl⟩
  unfold Mt.extend
  rw [← hm] at cm hany ⊢
  obtain ⟨b, hb⟩ : ∃ b, b = r.any (Mt.fits ps l) := ⟨_, rfl⟩
  rw [← hb] at cc hany
  have hml : m.length ≤ 1000 := by rw [hm]; exact Nat.le_trans (Mt.found_le _ _ _) hr1
  have CA := Lib.hid ca
  have CC := Lib.hid cc
  clear hp hsz hW hl hr hl' hr' hl1 hl2 hr1 hr2 hr3 hm hb ca cc
  generalize ps.length = pl at *
  generalize r.length = rl at *
  generalize l.length = ll at *
  obtain ⟨ml, hml'⟩ : ∃ n, n = m.length := ⟨_, rfl⟩
  have fin1 : (k = 1 ∨ (k = 2 ∧ 0 < ml)) → Mt.of k l m = m := fun h => by unfold Mt.of; rw [if_pos (by rw [← hml']; exact h)]
  have fin2 : ¬ (k = 1 ∨ (k = 2 ∧ 0 < ml)) → (k = 2 ∨ (k = 3 ∧ 0 < ml) ∨ (k = 4 ∧ ¬ 0 < ml)) → Mt.of k l m = [l] := fun h h2 => by
    unfold Mt.of; rw [if_neg (by rw [← hml']; exact h), if_pos (by rw [← hml']; exact h2)]
  have fin3 : ¬ (k = 1 ∨ (k = 2 ∧ 0 < ml)) → ¬ (k = 2 ∨ (k = 3 ∧ 0 < ml) ∨ (k = 4 ∧ ¬ 0 < ml)) → Mt.of k l m = [] := fun h h2 => by
    unfold Mt.of; rw [if_neg (by rw [← hml']; exact h), if_neg (by rw [← hml']; exact h2)]
  rw [← hml'] at hany hml
  by_cases k1 : k = 1
  · have e := fin1 (.inl k1)
    rw [e]
    clear e fin1 fin2 fin3 hany hml' hml ct CA CC
    subst k1
    go_enter Tryd.func40, Tryd.ntmps40
    go_wp2_with fail
    refine cm.mono ?_
    rintro E w1 ⟨A, c, rfl, hT, hb⟩
    have hres := Lib.hid (show TuplesOn (fun j => w.heap.size ≤ j) w m (.returned (.slice A m.length c)) w1 from ⟨A, c, rfl, hT, hb⟩)
    generalize m.length = q at *
    clear cm hT hb
    go_wp2_with fail
    go_ret
    exact hres.out
  · by_cases k2 : k = 2
    · by_cases hs : 0 < ml
      · have e := fin1 (.inr ⟨k2, hs⟩)
        rw [e]
        clear e fin1 fin2 fin3 hany ct CA CC k1
        subst k2
        have hs1 : (ml : Int) > 0 := by omega
        have hs2 : (0 : Int) < (ml : Int) := by omega
        go_enter Tryd.func40, Tryd.ntmps40
        go_wp2_with fail
        refine cm.mono ?_
        rintro E w1 ⟨A, c, rfl, hT, hb⟩
        have hres := Lib.hid (show TuplesOn (fun j => w.heap.size ≤ j) w m (.returned (.slice A m.length c)) w1 from ⟨A, c, rfl, hT, hb⟩)
        rw [← hml'] at hres ⊢
        clear cm hT hb hml'
        go_wp2_with fail
        go_ret
        exact hres.out
      · have e := fin2 (by omega) (.inl k2)
        rw [e]
        clear e fin1 fin2 fin3 hany ct CC k1
        subst k2
        have hs1 : ¬ ((ml : Int) > 0) := by omega
        have hs2 : ¬ ((0 : Int) < (ml : Int)) := by omega
        go_enter Tryd.func40, Tryd.ntmps40
        go_wp2_with fail
        refine cm.mono ?_
        rintro E w1 ⟨A, c, rfl, hT, hb⟩
        have HB := Lib.hid hb
        rw [← hml'] at ⊢
        clear cm hT hb hml'
        go_wp2_with fail
        refine (CA.out w1 HB.out).mono ?_
        rintro E w2 ⟨A2, c2, rfl, hT2, hb2⟩
        have hres := Lib.hid (show TuplesOn (fun j => w.heap.size ≤ j) w [l] (.returned (.slice A2 1 c2)) w2 from ⟨A2, c2, rfl, hT2.mono (fun _ _ h => Nat.le_trans HB.out.size h), below_join HB.out hb2⟩)
        clear hT2 hb2
        go_wp2_with fail
        go_ret
        exact hres.out
    · by_cases k34 : k = 3 ∨ k = 4
      · have hcase : ((k = 3 ∧ 0 < ml ∧ Mt.of k l m = [l]) ∨ (k = 4 ∧ ¬ 0 < ml ∧ Mt.of k l m = [l])) ∨ ((k = 3 ∧ ¬ 0 < ml ∧ Mt.of k l m = []) ∨ (k = 4 ∧ 0 < ml ∧ Mt.of k l m = [])) := by
          by_cases hs : 0 < ml
          · rcases k34 with h | h
            · exact .inl (.inl ⟨h, hs, fin2 (by omega) (by omega)⟩)
            · exact .inr (.inr ⟨h, hs, fin3 (by omega) (by omega)⟩)
          · rcases k34 with h | h
            · exact .inr (.inl ⟨h, hs, fin3 (by omega) (by omega)⟩)
            · exact .inl (.inr ⟨h, hs, fin2 (by omega) (by omega)⟩)
        have HA := Lib.hid hany
        clear fin1 fin2 fin3 hany cm hml' k34 k1 k2
        rcases hcase with hcase | hcase
        · rcases hcase with ⟨hk, hs, e⟩ | ⟨hk, hs, e⟩
          all_goals
            subst k
            have hbe : b = decide (0 < ml) := HA.out
            first
              | (rw [decide_eq_true hs] at hbe)
              | (rw [decide_eq_false hs] at hbe)
            subst b
            rw [e]
            clear e
            go_enter Tryd.func40, Tryd.ntmps40
            go_wp2_with fail
            refine ct.mono ?_
            rintro E w1 ⟨gc, gl, gr, rfl, hM⟩
            have cc := CC.out w1 gc gl gr hM
            clear ct hM
            go_wp2_with fail
            refine cc.mono ?_
            rintro E w2 ⟨rfl, hb⟩
            have HB := Lib.hid hb
            clear cc hb
            go_wp2_with fail
            refine (CA.out w2 HB.out).mono ?_
            rintro E w3 ⟨A2, c2, rfl, hT2, hb2⟩
            have hres := Lib.hid (show TuplesOn (fun j => w.heap.size ≤ j) w [l] (.returned (.slice A2 1 c2)) w3 from ⟨A2, c2, rfl, hT2.mono (fun _ _ h => Nat.le_trans HB.out.size h), below_join HB.out hb2⟩)
            clear hT2 hb2
            go_wp2_with fail
            go_ret
            exact hres.out
        · rcases hcase with ⟨hk, hs, e⟩ | ⟨hk, hs, e⟩
          all_goals
            subst k
            have hbe : b = decide (0 < ml) := HA.out
            first
              | (rw [decide_eq_true hs] at hbe)
              | (rw [decide_eq_false hs] at hbe)
            subst b
            rw [e]
            clear e
            go_enter Tryd.func40, Tryd.ntmps40
            go_wp2_with fail
            refine ct.mono ?_
            rintro E w1 ⟨gc, gl, gr, rfl, hM⟩
            have cc := CC.out w1 gc gl gr hM
            clear ct hM
            go_wp2_with fail
            refine cc.mono ?_
            rintro E w2 ⟨rfl, hb⟩
            have HB := Lib.hid hb
            clear cc hb
            have hres := Lib.hid (show TuplesOn (fun j => w.heap.size ≤ j) w [] (.returned (.slice none 0 0)) w2 from ⟨none, 0, rfl, TusOn.nil _ _, HB.out⟩)
            go_wp2_with fail
            go_ret
            exact hres.out
      · have e := fin3 (by omega) (by omega)
        rw [e]
        have k3 : ¬ k = 3 := by omega
        have k4 : ¬ k = 4 := by omega
        have hres := Lib.hid (show TuplesOn (fun j => w.heap.size ≤ j) w [] (.returned (.slice none 0 0)) w from ⟨none, 0, rfl, TusOn.nil _ _, Below.refl _ _⟩)
        clear e fin1 fin2 fin3 hany cm hml' k34 ct CA CC
        go_enter Tryd.func40, Tryd.ntmps40
        go_wp2_with fail
        go_ret
        exact hres.out
theorem extend_any (k : Int) (d : Nat) (cv lv rv : Value) (ps : List Pd) (l : List (List Vl)) (r : List (List (List Vl))) (w : World) (hp : PsAt d w cv ps) (hsz : Pr.sizes ps ≤ 1000) (hW : Want w) (hl : RwsOn Al w lv l) (hr : TusOn Al w rv r)
    (hl1 : l.length ≤ 100) (hl2 : ∀ x ∈ l, x.length ≤ 100) (hr1 : r.length ≤ 1000) (hr2 : ∀ x ∈ r, x.length ≤ 100) (hr3 : ∀ x ∈ r, ∀ y ∈ x, y.length ≤ 100) :
    Calls Tryd.prog 40 #[.int .i64 k, cv, lv, rv] w (Tuples w (Mt.extend k ps l r)) :=
  (extend_on k d cv lv rv ps l r w hp hsz hW hl hr hl1 hl2 hr1 hr2 hr3).mono fun _ _ h => h.tuples
end Go.Proofs.YtghonbnmakggnaaDoor
