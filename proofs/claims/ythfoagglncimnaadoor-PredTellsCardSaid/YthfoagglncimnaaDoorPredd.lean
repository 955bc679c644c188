/-
  THE CONTRACTS OF THE DOCUMENT's Of AND All OF LAYER 6.
-/
import Derived.Test.YthfoagglncimnaaDoorPreda
import Derived.Test.YthfoagglncimnaaDoorTermb
import Derived.Test.YthfoagglncimnaaDoorLogc
import Derived.Test.YthfoagglncimnaaDoorRefc
import Derived.OwnWalk
namespace Go.Proofs.YthfoagglncimnaaDoor
open Go.RowKit Go.Sort
set_option maxHeartbeats 3200000

theorem own_empty (w : World) (e : TypeId) (s base : Nat) (hb : base ≤ w.heap.size) (g : Nat) (hg : w.heap.size = g) : (w.alloc (.cells #[] e)).ownsRow base e s (.slice (some ⟨g, 0, none⟩) 0 0) 0 [] := by
  subst hg; exact World.ownsRow_made w #[] 0 hb (by decide) (by simp)
/-- an own row, kept where only new blocks are laid -/
theorem own_kept {w w' : World} {base : Nat} {e : TypeId} {s : Nat} {v : Value} {n : Nat} {xs : List Value} (h : w.ownsRow base e s v n xs) (hb : Below w.heap.size w w') : w'.ownsRow base e s v n xs := by
  refine ⟨h.1, ?_⟩
  rcases h.2 with hn | ⟨g, cap, cur, rfl, h1, hg, rest⟩
  · exact .inl hn
  · exact .inr ⟨g, cap, cur, rfl, h1, (hb.block g (Array.getElem?_eq_some_iff.1 hg).1).trans hg, rest⟩
set_option maxRecDepth 100000 in
theorem r6of_any (d : Nat) : ∀ (f : Pf) (u : Value) (ps : List Pd) (v : Value) (rs : List (List Vl)) (w : World), PsAt d w u ps → Pr.sizes ps ≤ 1000 → Rws w v rs → rs.length ≤ 1000 → (∀ r ∈ rs, r.length ≤ 1000) →
    Calls Tryd.prog 18 #[.agg #[.int .i64 f.k, .int .i64 f.u, .int .i64 f.o, .int .i64 f.a.k, .int .i64 f.a.t, .int .i64 f.a.c, .bool f.a.z, .int .i64 f.a.n, .int .i64 f.b.k, .int .i64 f.b.t, .int .i64 f.b.c, .bool f.b.z, .int .i64 f.b.n, u], v] w fun e w' => e = .returned (.int .i64 (Pr.of rs (.mk f ps))) ∧ Below w.heap.size w w' := by
  induction d using Nat.strongRecOn with
  | ind d ih =>
  intro f u ps v rs w hu hsz hv hrl hrr
  obtain ⟨i0, hi, hz0, hz1, hz2⟩ := info_parts Tryd.infoInt
  obtain ⟨W0, hW0⟩ : ∃ W0, W0 = w.alloc (Obj.cells #[.int .i64 f.k, .int .i64 f.u, .int .i64 f.o, .int .i64 f.a.k, .int .i64 f.a.t, .int .i64 f.a.c, .bool f.a.z, .int .i64 f.a.n, .int .i64 f.b.k, .int .i64 f.b.t, .int .i64 f.b.c, .bool f.b.z, .int .i64 f.b.n, u] 28) := ⟨_, rfl⟩
  obtain ⟨l0, p0, hb0⟩ := pd_box hW0
  have HU := Lib.hid (hu.below hb0 (Nat.le_refl _))
  have HV := Lib.hid (hv.below hb0 (Nat.le_refl _))
  have HR := Lib.hid (And.intro hrl hrr)
  obtain ⟨A, c, rfl, hl⟩ := hu.form
  have hn1 := Pr.sizes_length ps
  have HW := Lib.hid hW0
  have IH := Lib.hid ih
  have HP := Lib.hid p0
  have HL := Lib.hid l0.lt
  have HZ := Lib.hid hsz
  obtain ⟨n, hn⟩ : ∃ n, n = ps.length := ⟨_, rfl⟩
  rw [← hn] at hl HU HP HW hn1 ⊢
  have hn2 : n ≤ 1000 := by omega
  have HN := Lib.hid hn
  have how := own_empty W0 3 1 W0.heap.size (Nat.le_refl _) (w.heap.size + 1) (by rw [hW0, World.size_alloc])
  have hb1 := (Below.refl W0.heap.size W0).alloc (Nat.le_refl _) (Obj.cells #[] 3)
  have HOW := Lib.hid how
  have hHE : Pr.of rs (.mk f ps) = Pr.made f rs (ps.map (Pr.of rs)) := Pr.of_eq _ _ _
  obtain ⟨res, hres⟩ : ∃ res, res = Pr.of rs (.mk f ps) := ⟨_, rfl⟩
  rw [← hres] at hHE ⊢
  have HE := Lib.hid hHE
  clear hW0 ih hu hv l0 p0 hn hrl hrr hsz hn1 how hHE hres
  go_enter Tryd.func18, Tryd.ntmps18
  go_wp2_with fail
  rw [← HW.out]
  go_loopw [5, 6] (fun s i wr => ∃ (q : Nat), q ≤ n ∧ i = .int .i64 q ∧ wr.ownsRow W0.heap.size 3 1 s q (((ps.take q).map (Pr.of rs)).map (Value.int .i64)) ∧ Below W0.heap.size W0 wr) (fun _ i _ => n - (intOf i).toNat)
  case atStart => exact ⟨0, Nat.zero_le _, rfl, HOW.out, hb1⟩
  case round =>
    obtain ⟨q, hq, rfl, hown, hb⟩ := hrel
    have pr := HP.out.below hb (show w.heap.size < W0.heap.size from HL.out)
    by_cases hlt : q < n
    · obtain ⟨p, gp⟩ : ∃ p, ps[q]? = some p := ⟨ps[q]'(by have := HN.out; omega), List.getElem?_eq_getElem _⟩
      have hu := HU.out
      rw [HN.out] at hu
      obtain ⟨e, b, o, s, v', he, rfl, _, hx⟩ := hu.at_ gp
      obtain ⟨hcell, hps⟩ := hx wr hb
      have cs := IH.out e he p.f v' p.ps v rs wr hps (by have := Pr.sizes_down gp; have := HZ.out; omega) (HV.out.below hb (Nat.le_refl _)) HR.out.1 HR.out.2
      rw [Pr.of_mk] at cs
      have ht := Pr.ofs_take (rs := rs) gp
      obtain ⟨x, hx1⟩ : ∃ x, x = Pr.of rs p := ⟨_, rfl⟩
      rw [← hx1] at cs ht
      have HT := Lib.hid ht
      have k13 := pr.c13
      obtain ⟨q0, q1, q2, q3, q4, q5, q6, q7, q8, q9, q10, q11, q12, q13⟩ := hcell
      clear gp hx hps hu hx1 pr ht
      go_wp2_with fail
      refine cs.mono ?_
      rintro e w2 ⟨rfl, hb2⟩
      have hb' := below_join hb hb2
      have hown2 := own_kept hown hb2
      clear cs q0 q1 q2 q3 q4 q5 q6 q7 q8 q9 q10 q11 q12 q13 k13 hb2 hb hown
      go_wp2_with (first
        | (at_builtin; refine wpList_append_own _ rfl _ _ 63 rfl W0.heap.size 3 i0 (.int .i64 0) 1 8 Tryd.underlying63 hi hz0 hz1 hz2 rfl (by decide) _ _ _ rfl (hown2.alloc _) ⟨w2.heap.size, 0, none⟩ 1 1 [.int .i64 x] rfl rfl ?c1 ?c2 ?c3 ?c4 ?c5 ?_))
      case c1 => exact cell_one_new _ _ _
      case c2 => simp [Value.oneCell']
      case c3 => unfold maxLen; omega
      case c4 => omega
      case c5 => have := hb'.size; simp; omega
      intro v1 w3 hown3 hgrow _
      have hb3 : Below W0.heap.size W0 w3 := (hb'.alloc hb'.size _).grown hgrow (by have := hb'.size; simp; omega) (fun k hk => (hown2.lt k hk).1)
      have hown4 : w3.ownsRow W0.heap.size 3 1 v1 (q + 1) (((ps.take (q + 1)).map (Pr.of rs)).map (Value.int .i64)) := by rw [HT.out]; simpa using hown3
      clear hown3 hgrow hown2 hb'
      go_wp2_with fail
      go_roundw
      case rel => exact ⟨q + 1, by omega, by go_num, hown4, hb3⟩
      case measure => simp [intOf]; omega
    · obtain rfl : n = q := by omega
      rw [List.take_of_length_le (by have := HN.out; omega)] at hown
      obtain ⟨y, m, hym⟩ : ∃ y m, Te.val ⟨f.a.k, f.a.t, f.a.c, f.a.z, f.a.n⟩ rs = (y, m) := ⟨_, _, rfl⟩
      have ca := r5of_any f.a.k f.a.t f.a.c f.a.z f.a.n v rs wr (HV.out.below hb (Nat.le_refl _)) HR.out.1 HR.out.2
      rw [hym] at ca
      dsimp only at ca
      have HY := Lib.hid (show Te.val f.a rs = (y, m) from hym)
      obtain ⟨k0, k1, k2, k3, k4, k5, k6, k7, k8, k9, k10, k11, k12, k13⟩ := pr
      clear hym hlt
      go_wp2_with fail
      refine ca.mono ?_
      rintro e w2 ⟨rfl, hb2⟩
      have hb3 : Below wr.heap.size wr (w2.alloc (Obj.cells #[.bool y, .int .i64 m] 23)) := below_join hb2 (below_new _ _)
      have hown3 := own_kept hown hb3
      have hb4 := below_join hb hb3
      have l3 : Lies (w2.alloc (Obj.cells #[.bool y, .int .i64 m] 23)) w2.heap.size 23 [.bool y, .int .i64 m] := Lies.new _ _ _
      obtain ⟨k0, k1, k2, k3, k4, k5, k6, k7, k8, k9, k10, k11, k12, k13⟩ := HP.out.below hb4 (show w.heap.size < W0.heap.size from HL.out)
      have HB := Lib.hid (below_join hb0 hb4)
      clear ca hb2 hb3 hb
      by_cases h1 : f.k = 1
      · have e1 : (f.k == 1) = true := by simpa using h1
        have hm := Lib.hid (HE.out.trans (Pr.made_1 h1))
        have cs := r4and_any (.slice (some ⟨w2.heap.size + 1, 0, none⟩) 1 1) [f.u] _ (sl_one (w2.alloc (Obj.cells #[.bool y, .int .i64 m] 23)) f.u (w2.heap.size + 1) (by simp)) (by simp)
        clear h1
        go_wp2_with fail
        refine cs.mono ?_
        rintro e w3 ⟨rfl, rfl⟩
        clear cs
        go_wp2_with fail
        go_ret
        exact ⟨ret_int hm.out.symm, below_join HB.out (below_new _ _)⟩
      by_cases h2 : f.k = 2
      · have e2 : (f.k == 2) = true := by simpa using h2
        have e1 : (f.k == 1) = false := by simp; omega
        obtain ⟨y2, m2, hym2⟩ : ∃ y m, Te.val ⟨f.b.k, f.b.t, f.b.c, f.b.z, f.b.n⟩ rs = (y, m) := ⟨_, _, rfl⟩
        have hm := Lib.hid (show res = Va.comp f.o y m y2 m2 by rw [HE.out, Pr.made_2 h2, HY.out, show Te.val f.b rs = (y2, m2) from hym2])
        have c1 := in_class (W0 := (w2.alloc (Obj.cells #[.bool y, .int .i64 m] 23))) fun W h => r5of_any f.b.k f.b.t f.b.c f.b.z f.b.n v rs W ((HV.out.below hb4 (Nat.le_refl _)).below h (Nat.le_refl _)) HR.out.1 HR.out.2
        rw [hym2] at c1
        dsimp only at c1
        have c2 := in_class (W0 := (w2.alloc (Obj.cells #[.bool y, .int .i64 m] 23))) fun W _ => rcompare_any f.o y y2 m m2 W
        clear h1 h2 hym2
        go_wp2_with fail
        obtain ⟨W3, hW3⟩ : ∃ W3, W3 = (w2.alloc (Obj.cells #[.bool y, .int .i64 m] 23)) := ⟨_, rfl⟩
        rw [← hW3] at c1 c2 l3 k2 k8 k9 k10 k11 k12 HB ⊢
        have g0 := cell_regrown (l3.cell (i := 0) rfl)
        have g1 := cell_regrown (l3.cell (i := 1) rfl)
        have j2 := cell_regrown k2
        have j8 := cell_regrown k8
        have j9 := cell_regrown k9
        have j10 := cell_regrown k10
        have j11 := cell_regrown k11
        have j12 := cell_regrown k12
        clear hW3
        refine wp_region_quiet_below (by kernel_rfl) (by kernel_rfl) ?_
        repeat (go_big_quiet_step (with_reducible first | exact c1 _ _ | exact c2 _ _))
        refine wpQuiet_nil ?_
        intro _ hw'
        obtain ⟨⟨dq, osq⟩, hw''⟩ := hw'
        subst hw''
        have hbz := below_join HB.out (below_regrown W3 dq osq)
        clear g0 g1 j2 j8 j9 j10 j11 j12 c1 c2 k0 k1 k2 k3 k4 k5 k6 k7 k8 k9 k10 k11 k12 k13
        generalize grow (redrawn W3 dq) osq = wz at hbz ⊢
        go_wp2_with fail
        go_ret
        exact ⟨ret_int hm.out.symm, hbz⟩
      by_cases h3 : f.k = 3
      · have e3 : (f.k == 3) = true := by simpa using h3
        have e1 : (f.k == 1) = false := by simp; omega
        have e2 : (f.k == 2) = false := by simp; omega
        have hm := Lib.hid (show res = (if y then 2 else 0) by rw [HE.out, Pr.made_3 h3, HY.out])
        clear h1 h2 h3
        cases y
        · have g0 := l3.cell (i := 0) rfl
          go_wp2_with fail
          go_ret
          exact ⟨ret_int (by rw [hm.out]; rfl), HB.out⟩
        · have g0 := l3.cell (i := 0) rfl
          go_wp2_with fail
          go_ret
          exact ⟨ret_int (by rw [hm.out]; rfl), HB.out⟩
      by_cases h4 : f.k = 4
      · have e4 : (f.k == 4) = true := by simpa using h4
        have e1 : (f.k == 1) = false := by simp; omega
        have e2 : (f.k == 2) = false := by simp; omega
        have e3 : (f.k == 3) = false := by simp; omega
        have hm := Lib.hid (HE.out.trans (Pr.made_4 h4))
        have cs := r4and_any _ (ps.map (Pr.of rs)) _ (Sl.own hown3) (by rw [List.length_map, ← HN.out]; omega)
        clear h1 h2 h3 h4
        go_wp2_with fail
        refine cs.mono ?_
        rintro e w3 ⟨rfl, rfl⟩
        clear cs
        go_wp2_with fail
        go_ret
        exact ⟨ret_int hm.out.symm, HB.out⟩
      by_cases h5 : f.k = 5
      · have e5 : (f.k == 5) = true := by simpa using h5
        have e1 : (f.k == 1) = false := by simp; omega
        have e2 : (f.k == 2) = false := by simp; omega
        have e3 : (f.k == 3) = false := by simp; omega
        have e4 : (f.k == 4) = false := by simp; omega
        have hm := Lib.hid (HE.out.trans (Pr.made_5 h5))
        have cs := r4or_any _ (ps.map (Pr.of rs)) _ (Sl.own hown3) (by rw [List.length_map, ← HN.out]; omega)
        clear h1 h2 h3 h4 h5
        go_wp2_with fail
        refine cs.mono ?_
        rintro e w3 ⟨rfl, rfl⟩
        clear cs
        go_wp2_with fail
        go_ret
        exact ⟨ret_int hm.out.symm, HB.out⟩
      by_cases h6 : f.k = 6
      · have e6 : (f.k == 6) = true := by simpa using h6
        have e1 : (f.k == 1) = false := by simp; omega
        have e2 : (f.k == 2) = false := by simp; omega
        have e3 : (f.k == 3) = false := by simp; omega
        have e4 : (f.k == 4) = false := by simp; omega
        have e5 : (f.k == 5) = false := by simp; omega
        obtain ⟨A5, c5, hs5, _, hx5⟩ := Sl.own hown3
        rw [List.length_map, List.length_map, ← HN.out] at hs5
        subst hs5
        by_cases hn0 : n = 0
        · have hps : ps = [] := List.eq_nil_of_length_eq_zero (by rw [← HN.out]; exact hn0)
          have hm := Lib.hid (show res = 1 by rw [HE.out, hps]; exact Pr.made_6n h6)
          have z0 : decide (0 < n) = false := by simp; omega
          clear h1 h2 h3 h4 h5 h6 hx5 hn0 hps hown3
          go_wp2_with fail
          go_ret
          exact ⟨ret_int hm.out.symm, HB.out⟩
        · obtain ⟨x, xs, hl0⟩ : ∃ x xs, ps.map (Pr.of rs) = x :: xs := by
            cases h : ps.map (Pr.of rs) with
            | nil => exact absurd (by have := congrArg List.length h; rw [List.length_map, ← HN.out] at this; simpa using this) hn0
            | cons x xs => exact ⟨x, xs, rfl⟩
          have hm := Lib.hid (show res = Lo.notI x by rw [HE.out, hl0]; exact Pr.made_6c h6)
          obtain ⟨b5, o5, s5, rfl, _, hc5⟩ := hx5 0 (.int .i64 x) (by rw [hl0]; rfl)
          have hc6 : (w2.alloc (Obj.cells #[.bool y, .int .i64 m] 23)).cell? ⟨b5, o5, s5⟩ = some (.int .i64 x) := hc5
          have z0 : decide (0 < n) = true := by simp; omega
          have z1 : 0 < n := by omega
          have cs := r4not_any x (w2.alloc (Obj.cells #[.bool y, .int .i64 m] 23))
          clear h1 h2 h3 h4 h5 h6 hx5 hn0 hl0 hc5 hown3
          go_wp2_with fail
          refine cs.mono ?_
          rintro e w3 ⟨rfl, rfl⟩
          clear cs
          go_wp2_with fail
          go_ret
          exact ⟨ret_int hm.out.symm, HB.out⟩
      have hm := Lib.hid (show res = 1 by rw [HE.out]; exact Pr.made_no h1 h2 h3 h4 h5 h6)
      have e1 : (f.k == 1) = false := by simp; omega
      have e2 : (f.k == 2) = false := by simp; omega
      have e3 : (f.k == 3) = false := by simp; omega
      have e4 : (f.k == 4) = false := by simp; omega
      have e5 : (f.k == 5) = false := by simp; omega
      have e6 : (f.k == 6) = false := by simp; omega
      clear h1 h2 h3 h4 h5 h6
      go_wp2_with fail
      go_ret
      exact ⟨ret_int hm.out.symm, HB.out⟩
set_option maxRecDepth 100000 in
theorem r6all_any (d : Nat) (u : Value) (ps : List Pd) (v : Value) (rs : List (List Vl)) (w : World) (hu : PsAt d w u ps) (hsz : Pr.sizes ps ≤ 1000) (hv : Rws w v rs) (hrl : rs.length ≤ 1000) (hrr : ∀ r ∈ rs, r.length ≤ 1000) :
    Calls Tryd.prog 20 #[u, v] w fun e w' => e = .returned (.int .i64 (Lo.andI (ps.map (Pr.of rs)))) ∧ Below w.heap.size w w' := by
  obtain ⟨i0, hi, hz0, hz1, hz2⟩ := info_parts Tryd.infoInt
  have HU := Lib.hid hu
  have HV := Lib.hid hv
  have HR := Lib.hid (And.intro hrl hrr)
  obtain ⟨A, c, rfl, hl⟩ := hu.form
  have hn1 := Pr.sizes_length ps
  have HZ := Lib.hid hsz
  obtain ⟨n, hn⟩ : ∃ n, n = ps.length := ⟨_, rfl⟩
  rw [← hn] at hl HU hn1 ⊢
  have hn2 : n ≤ 1000 := by omega
  have HN := Lib.hid hn
  have HOW := Lib.hid (own_empty w 3 1 w.heap.size (Nat.le_refl _) w.heap.size rfl)
  have hb1 := (Below.refl w.heap.size w).alloc (Nat.le_refl _) (Obj.cells #[] 3)
  obtain ⟨res, hres⟩ : ∃ res, res = Lo.andI (ps.map (Pr.of rs)) := ⟨_, rfl⟩
  rw [← hres]
  have HE := Lib.hid hres
  clear hu hv hn hrl hrr hsz hn1 hres
  go_enter Tryd.func20, Tryd.ntmps20
  go_wp2_with fail
  go_loopw [5, 6] (fun s i wr => ∃ (q : Nat), q ≤ n ∧ i = .int .i64 q ∧ wr.ownsRow w.heap.size 3 1 s q (((ps.take q).map (Pr.of rs)).map (Value.int .i64)) ∧ Below w.heap.size w wr) (fun _ i _ => n - (intOf i).toNat)
  case atStart => exact ⟨0, Nat.zero_le _, rfl, HOW.out, hb1⟩
  case round =>
    obtain ⟨q, hq, rfl, hown, hb⟩ := hrel
    by_cases hlt : q < n
    · obtain ⟨p, gp⟩ : ∃ p, ps[q]? = some p := ⟨ps[q]'(by have := HN.out; omega), List.getElem?_eq_getElem _⟩
      have hu := HU.out
      rw [HN.out] at hu
      obtain ⟨e, b, o, s, v', he, rfl, _, hx⟩ := hu.at_ gp
      obtain ⟨hcell, hps⟩ := hx wr hb
      have cs := r6of_any e p.f v' p.ps v rs wr hps (by have := Pr.sizes_down gp; have := HZ.out; omega) (HV.out.below hb (Nat.le_refl _)) HR.out.1 HR.out.2
      rw [Pr.of_mk] at cs
      have ht := Pr.ofs_take (rs := rs) gp
      obtain ⟨x, hx1⟩ : ∃ x, x = Pr.of rs p := ⟨_, rfl⟩
      rw [← hx1] at cs ht
      have HT := Lib.hid ht
      obtain ⟨q0, q1, q2, q3, q4, q5, q6, q7, q8, q9, q10, q11, q12, q13⟩ := hcell
      clear gp hx hps hu hx1 ht
      go_wp2_with fail
      refine cs.mono ?_
      rintro e w2 ⟨rfl, hb2⟩
      have hb' := below_join hb hb2
      have hown2 := own_kept hown hb2
      clear cs q0 q1 q2 q3 q4 q5 q6 q7 q8 q9 q10 q11 q12 q13 hb2 hb hown
      go_wp2_with (first
        | (at_builtin; refine wpList_append_own _ rfl _ _ 63 rfl w.heap.size 3 i0 (.int .i64 0) 1 8 Tryd.underlying63 hi hz0 hz1 hz2 rfl (by decide) _ _ _ rfl (hown2.alloc _) ⟨w2.heap.size, 0, none⟩ 1 1 [.int .i64 x] rfl rfl ?c1 ?c2 ?c3 ?c4 ?c5 ?_))
      case c1 => exact cell_one_new _ _ _
      case c2 => simp [Value.oneCell']
      case c3 => unfold maxLen; omega
      case c4 => omega
      case c5 => have := hb'.size; simp; omega
      intro v1 w3 hown3 hgrow _
      have hb3 : Below w.heap.size w w3 := (hb'.alloc hb'.size _).grown hgrow (by have := hb'.size; simp; omega) (fun k hk => (hown2.lt k hk).1)
      have hown4 : w3.ownsRow w.heap.size 3 1 v1 (q + 1) (((ps.take (q + 1)).map (Pr.of rs)).map (Value.int .i64)) := by rw [HT.out]; simpa using hown3
      clear hown3 hgrow hown2 hb'
      go_wp2_with fail
      go_roundw
      case rel => exact ⟨q + 1, by omega, by go_num, hown4, hb3⟩
      case measure => simp [intOf]; omega
    · obtain rfl : n = q := by omega
      rw [List.take_of_length_le (by have := HN.out; omega)] at hown
      have cs := r4and_any _ (ps.map (Pr.of rs)) _ (Sl.own hown) (by rw [List.length_map, ← HN.out]; omega)
      go_wp2_with fail
      refine cs.mono ?_
      rintro e w3 ⟨rfl, rfl⟩
      clear cs
      go_wp2_with fail
      go_ret
      exact ⟨ret_int HE.out.symm, hb⟩
end Go.Proofs.YthfoagglncimnaaDoor
