/-
  THE LAW TextBack, walked.
-/
import Derived.Test.YtaodobjekpacoaaDoorTxwM
import Derived.Test.YtaodobjekpacoaaDoorTxvM
namespace Go.Proofs.YtaodobjekpacoaaDoor
open Go.RowKit Go.Sort
set_option maxHeartbeats 6400000
theorem fsame_itself (f : Pf) : Pr.fsame f f = true := by
  unfold Pr.fsame Te.same; simp
theorem same_itself : ∀ p : Pd, Pr.same p p = true := by
  intro p
  have key : ∀ n, ∀ p : Pd, Pr.size p ≤ n → Pr.same p p = true := by
    intro n
    induction n with
    | zero => intro p h; have := Pr.size_pos p; omega
    | succ n ih =>
      intro p h
      rw [Pr.same_at, fsame_itself, Bool.true_and, Pr.sames_iff rfl]
      intro j a b ha hb
      rw [ha] at hb
      cases hb
      exact ih a (by have h1 := Pr.sizes_at ha; have h2 := Pr.size_at p; omega)
  exact key _ p (Nat.le_refl _)
theorem PsAt.none_ (d : Nat) (w : World) : PsAt d w (.slice none 0 0) [] := by
  cases d with
  | zero => exact ⟨rfl, none, 0, rfl⟩
  | succ d => exact ⟨none, 0, rfl, by decide, fun j p h => by simp at h⟩
theorem sizes_le {c : Nat} : ∀ l : List Pd, (∀ p ∈ l, Pr.size p ≤ c) → Pr.sizes l ≤ l.length * c
  | [], _ => by rw [Pr.sizes]; exact Nat.zero_le _
  | p :: r, h => by
    rw [Pr.sizes, List.length_cons, Nat.succ_mul]
    have h1 := h p List.mem_cons_self
    have h2 := sizes_le r fun q hq => h q (List.mem_cons_of_mem _ hq)
    omega
theorem size_right : ∀ (k : Nat) (p : Pd) (d : Nat), 5 ≤ d + k → Pr.rightAt p d = true → Pr.size p ≤ 5 ^ k := by
  intro k
  induction k with
  | zero =>
    intro p d hd h
    obtain ⟨f, ps⟩ := p
    have := (Tx.kinds h).1
    omega
  | succ k ih =>
    intro p d hd h
    obtain ⟨f, ps⟩ := p
    obtain ⟨_, hk⟩ := Tx.kinds h
    have h5 : 1 ≤ 5 ^ k := Nat.pos_of_ne_zero (by simp)
    rw [Pr.size, Nat.pow_succ]
    have hs : Pr.sizes ps ≤ 4 * 5 ^ k := by
      have key : ps.length ≤ 4 → Pr.rightAts ps (d + 1) = true → Pr.sizes ps ≤ 4 * 5 ^ k := fun hl hr =>
        Nat.le_trans (sizes_le ps fun q hq => ih q (d + 1) (by omega) ((Pr.rightAts_iff _ _).1 hr q hq)) (Nat.mul_le_mul_right _ hl)
      have z0 : ps = [] → Pr.sizes ps ≤ 4 * 5 ^ k := fun h => by rw [h, Pr.sizes]; exact Nat.zero_le _
      rcases hk with ⟨_, _, _, _, h0⟩ | ⟨_, _, _, _, _, _, _, _, h0⟩ | ⟨_, _, _, h0⟩ | ⟨_, hl, hr⟩ | ⟨_, hl, hr⟩
      · exact z0 h0
      · exact z0 h0
      · exact z0 h0
      · exact key hl hr
      · exact key (by omega) hr
    omega

theorem OwnNums.formed {E : TypeId} {K : IntKind} {w w' : World} {l : List Int} {e : Ending} (h : OwnNums E K w l e w') : ∃ A c, e = .returned (.slice A l.length c) ∧ Below w.heap.size w w' := by
  obtain ⟨v, rfl, ho, hb⟩ := h
  obtain ⟨A, c, hv, _, _⟩ := Sl.own ho
  rw [List.length_map] at hv
  exact ⟨A, c, by rw [hv], hb⟩
set_option maxRecDepth 100000 in
theorem textback_any (d : Nat) (f : Pf) (u : Value) (ps : List Pd) (bs : List UInt8) (w : World) (hu : PsAt d w u ps) (hw : Tx.wf (.mk f ps)) (hE : ErrR w) (hP : Pows w) :
    Calls Tryd.prog 3 #[.agg #[.int .i64 f.k, .int .i64 f.u, .int .i64 f.o, .int .i64 f.a.k, .int .i64 f.a.t, .int .i64 f.a.c, .bool f.a.z, .int .i64 f.a.n, .int .i64 f.b.k, .int .i64 f.b.t, .int .i64 f.b.c, .bool f.b.z, .int .i64 f.b.n, u], .string ⟨bs.toArray⟩] w fun e w' => e = .returned (.bool true) ∧ Below w.heap.size w w' := by
  obtain ⟨W0, hW0⟩ : ∃ W0, W0 = w.alloc (Obj.cells #[.int .i64 f.k, .int .i64 f.u, .int .i64 f.o, .int .i64 f.a.k, .int .i64 f.a.t, .int .i64 f.a.c, .bool f.a.z, .int .i64 f.a.n, .int .i64 f.b.k, .int .i64 f.b.t, .int .i64 f.b.c, .bool f.b.z, .int .i64 f.b.n, u] 28) := ⟨_, rfl⟩
  obtain ⟨l0, p0, hb0⟩ := pd_box hW0
  have hu0 := hu.below hb0 (Nat.le_refl _)
  have cs := r6size_any d f u ps 201 W0 hu0 (by decide) (by decide)
  have HU := Lib.hid hu0
  have HE := Lib.hid hE
  have HP := Lib.hid hP
  have HW := Lib.hid hW0
  have HP0 := Lib.hid p0
  have HL0 := Lib.hid l0.lt
  have HWF := Lib.hid hw
  obtain ⟨x0, x1, x2, x3, x4, x5, x6, x7, x8, x9, x10, x11, x12, x13⟩ := p0
  clear hu hu0 hE hP l0 hw
  rw [hW0] at x0 x1 x2 x3 x4 x5 x6 x7 x8 x9 x10 x11 x12 x13 cs
  clear hW0
  obtain ⟨z, hz⟩ : ∃ z, z = Pr.size (.mk f ps) := ⟨_, rfl⟩
  rw [← hz] at cs
  have HZ := Lib.hid hz
  clear hz
  go_enter Tryd.func3, Tryd.ntmps3
  go_wp2_with (fail)
  rw [← HW.out] at cs ⊢
  refine cs.mono ?_
  rintro E w1 ⟨rfl, hb1⟩
  have hbw1 := below_join hb0 hb1
  clear cs x0 x1 x2 x3 x4 x5 x6 x7 x8 x9 x10 x11 x12 x13
  by_cases hz : 200 < z
  · have hm : min (z : Int) 201 = 201 := by omega
    rw [hm]
    have ca := awake8_of rpred_any w1 (HE.out.below hbw1 (Nat.le_refl _)) (HP.out.below hbw1 (Nat.le_refl _))
    go_wp2_with (fail)
    refine ca.mono ?_
    rintro E wz ⟨rfl, hbz⟩
    go_wp2_with (fail)
    go_ret
    exact ⟨rfl, below_join hbw1 hbz⟩
  have hm : ¬ (200 < min (z : Int) 201) := by omega
  obtain ⟨m1, hm1⟩ : ∃ m1, m1 = min (z : Int) 201 := ⟨_, rfl⟩
  rw [← hm1] at hm ⊢
  clear hm1
  by_cases hs : 2000 < bs.length
  · have hs2 : (2000 : Int) < (bs.length : Int) := by omega
    have ca := awake8_of rpred_any w1 (HE.out.below hbw1 (Nat.le_refl _)) (HP.out.below hbw1 (Nat.le_refl _))
    go_wp2_with (fail)
    refine ca.mono ?_
    rintro E wz ⟨rfl, hbz⟩
    go_wp2_with (fail)
    go_ret
    exact ⟨rfl, below_join hbw1 hbz⟩
  have hs2 : ¬ ((2000 : Int) < (bs.length : Int)) := by omega
  have HS := Lib.hid (show bs.length ≤ 2000 by omega)
  have hsz : Pr.size (.mk f ps) ≤ 200 := by have := HZ.out; omega
  have HSZ := Lib.hid hsz
  have cp := tpred_any d f u ps w1 (HU.out.below hb1 (Nat.le_refl _)) HWF.out (by omega) (HP.out.below hbw1 (Nat.le_refl _))
  obtain ⟨x0, x1, x2, x3, x4, x5, x6, x7, x8, x9, x10, x11, x12, x13⟩ := HP0.out.below hb1 (show w.heap.size < W0.heap.size from HL0.out)
  obtain ⟨r, hr⟩ : ∃ r, r = Pr.rightAt (.mk f ps) 1 := ⟨_, rfl⟩
  rw [← hr] at cp
  have HR := Lib.hid hr
  clear hz hs hr hsz
  cases r
  · go_wp2_with (fail)
    refine cp.mono ?_
    rintro E wm ⟨rfl, hb2⟩
    have hbm := below_join hbw1 hb2
    clear cp x0 x1 x2 x3 x4 x5 x6 x7 x8 x9 x10 x11 x12 x13 hb1 hb2 hm hs2
    have cb := tparse_any bs wm (by have := HS.out; omega) (HE.out.below hbm (Nat.le_refl _))
    obtain ⟨P, hP2⟩ : ∃ P, P = Tx.parse (Rn.runes bs) := ⟨_, rfl⟩
    rw [← hP2] at cb
    obtain ⟨px, pi, pe⟩ := P
    have HPE := Lib.hid hP2
    clear hP2
    go_wp2_with (fail)
    refine cb.mono ?_
    rintro E w5 ⟨f2, A2, m2, k2, qs, rfl, hx, hin, hb5⟩
    obtain ⟨o2, ho2⟩ : ∃ o2, o2 = Obj.cells #[.int .i64 f2.k, .int .i64 f2.u, .int .i64 f2.o, .int .i64 f2.a.k, .int .i64 f2.a.t, .int .i64 f2.a.c, .bool f2.a.z, .int .i64 f2.a.n, .int .i64 f2.b.k, .int .i64 f2.b.t, .int .i64 f2.b.c, .bool f2.b.z, .int .i64 f2.b.n, .slice A2 m2 k2] 28 := ⟨_, rfl⟩
    obtain ⟨w6, hw6⟩ : ∃ w6, w6 = w5.alloc o2 := ⟨_, rfl⟩
    obtain ⟨l6, p6, hb6⟩ := pd_box (f := f2) (u := .slice A2 m2 k2) (hw6.trans (by rw [ho2]; rfl))
    have hat := (hin.out.at_).below hb6 (Nat.le_refl _)
    have hbw6 := below_join hbm (below_join hb5 hb6)
    have hb56 := below_join hb5 hb6
    have HAT := Lib.hid hat
    have HO2 := Lib.hid ho2
    have HW6 := Lib.hid hw6
    have HBW6 := Lib.hid hbw6
    have HX := Lib.hid hx.out
    have HL6 := Lib.hid l6.lt
    have HP6 := Lib.hid p6
    clear cb hat ho2 hw6 hbw6 hx hin l6 hb5 hb6 p6
    go_upto_region 9 with (fail)
    rw [← HO2.out, ← HW6.out]
    obtain ⟨y0, y1, y2, y3, y4, y5, y6, y7, y8, y9, y10, y11, y12, y13⟩ := HP6.out
    by_cases he : pe = 0
    · subst he
      have hbt := Tx.bytes_took (s := bs) (p := .mk f2 qs) (e := pi) (by rw [← HPE.out, ← HX.out])
      obtain ⟨hr2, hw2, hbs, _⟩ := hbt
      have hz2 : Pr.size (.mk f2 qs) ≤ 1000000 := Nat.le_trans (size_right 4 _ 1 (by decide) hr2) (by decide)
      have cp := tpred_any 4 f2 _ qs w6 HAT.out hw2 hz2 (HP.out.below HBW6.out (Nat.le_refl _))
      have ht2 : Tx.told (.mk f2 qs) = bs := by unfold Tx.told; rw [if_pos hr2]; exact hbs
      rw [ht2, if_pos hr2] at cp
      clear hr2 hw2 hbs hz2 ht2
      go_wp2_with (fail)
      refine cp.mono ?_
      rintro E w7 ⟨rfl, hb7⟩
      have hbw7 := below_join HBW6.out hb7
      clear cp y0 y1 y2 y3 y4 y5 y6 y7 y8 y9 y10 y11 y12 y13
      have ca := awake8_of rpred_any w7 (HE.out.below hbw7 (Nat.le_refl _)) (HP.out.below hbw7 (Nat.le_refl _))
      go_wp2_with (fail)
      refine ca.mono ?_
      rintro E wz ⟨rfl, hbz⟩
      go_wp2_with (fail)
      go_ret
      exact ⟨rfl, below_join hbw7 hbz⟩

    · have hz := Tx.parse_zero (l := Rn.runes bs) (by rw [← HPE.out]; exact he)
      rw [← HPE.out] at hz
      have hzz : Tx.zp = .mk f2 qs := hz.symm.trans HX.out
      have hle := Tx.parse_le (Rn.runes bs)
      rw [← HPE.out] at hle
      have hsm : Pr.same (.mk f2 qs) Tx.zp = true := by rw [hzz]; exact same_itself _
      have cs2 := fun W (hb : Below w6.heap.size w6 W) => r6same_any 4 f2 ⟨0, 0, 0, ⟨0, 0, 0, false, 0⟩, ⟨0, 0, 0, false, 0⟩⟩ (.slice A2 m2 k2) (.slice none 0 0) qs [] W (HAT.out.below hb (Nat.le_refl _)) (PsAt.none_ _ _)
      rw [show Pr.same (.mk f2 qs) (.mk ⟨0, 0, 0, ⟨0, 0, 0, false, 0⟩, ⟨0, 0, 0, false, 0⟩⟩ []) = true from hsm] at cs2
      have hne : ¬ (pe = 0) := he
      have hpi : (pi : Int) ≤ ((Rn.runes bs).length : Int) := by exact_mod_cast hle
      have hp0 : (0 : Int) ≤ (pi : Int) := by omega
      obtain ⟨L, hL⟩ : ∃ L, L = Rn.runes bs := ⟨_, rfl⟩
      rw [← hL] at hpi
      have HLL := Lib.hid hL
      clear hz hzz hle hsm he hL
      go_wp2_with (fail)
      refine (cs2 _ (Below.refl _ _)).mono ?_
      rintro E w7 ⟨rfl, hb7⟩
      have hbw7 := below_join HBW6.out hb7
      have cr2 := rrunes_any bs w7 (by have := HS.out; omega)
      rw [← HLL.out] at cr2
      clear cs2 y0 y1 y2 y3 y4 y5 y6 y7 y8 y9 y10 y11 y12 y13
      go_wp2_with (fail)
      refine cr2.mono ?_
      intro E w8 hE8
      obtain ⟨b8, c8, hE8a, hb8⟩ := OwnNums.formed hE8
      subst hE8a
      have hbw8 := below_join hbw7 hb8
      clear cr2
      have ca := awake8_of rpred_any w8 (HE.out.below hbw8 (Nat.le_refl _)) (HP.out.below hbw8 (Nat.le_refl _))
      go_wp2_with (fail)
      refine ca.mono ?_
      rintro E wz ⟨rfl, hbz⟩
      go_wp2_with (fail)
      go_ret
      exact ⟨rfl, below_join hbw8 hbz⟩
  · have hto : Tx.told (.mk f ps) = Tx.bytes (.mk f ps) := by unfold Tx.told; rw [if_pos HR.out.symm]
    rw [hto] at cp
    clear hto
    have hbl := Tx.bytes_le _ (.mk f ps) 1 (Nat.le_refl _) HR.out.symm HWF.out
    have hbk := Tx.bytes_back HR.out.symm HWF.out
    obtain ⟨bs1, hbs1⟩ : ∃ bs1, bs1 = Tx.bytes (.mk f ps) := ⟨_, rfl⟩
    rw [← hbs1] at cp hbl hbk
    have hl1 : bs1.length ≤ 1000000 := by have := HSZ.out; omega
    have HBK := Lib.hid hbk
    have HL1 := Lib.hid hl1
    clear hbs1 hbl hbk hl1
    go_wp2_with (fail)
    refine cp.mono ?_
    rintro E w2 ⟨rfl, hb2⟩
    have hb12 := below_join hb1 hb2
    have hbw2 := below_join hb0 hb12
    have ct := tparse_any bs1 w2 HL1.out (HE.out.below hbw2 (Nat.le_refl _))
    rw [HBK.out] at ct
    clear cp x0 x1 x2 x3 x4 x5 x6 x7 x8 x9 x10 x11 x12 x13 hb1 hb2
    go_wp2_with (fail)
    refine ct.mono ?_
    rintro E w3 ⟨f1, A1, m1', k1, ps1, rfl, hx, hin, hb3⟩
    obtain ⟨rfl, rfl⟩ : f = f1 ∧ ps = ps1 := by have := hx.out; simpa using this
    obtain ⟨o1, ho1⟩ : ∃ o1, o1 = Obj.cells #[.int .i64 f.k, .int .i64 f.u, .int .i64 f.o, .int .i64 f.a.k, .int .i64 f.a.t, .int .i64 f.a.c, .bool f.a.z, .int .i64 f.a.n, .int .i64 f.b.k, .int .i64 f.b.t, .int .i64 f.b.c, .bool f.b.z, .int .i64 f.b.n, .slice A1 m1' k1] 28 := ⟨_, rfl⟩
    obtain ⟨w4, hw4⟩ : ∃ w4, w4 = w3.alloc o1 := ⟨_, rfl⟩
    obtain ⟨l4, p4, hb4⟩ := pd_box (f := f) (u := .slice A1 m1' k1) (hw4.trans (by rw [ho1]; rfl))
    have hat := ((hin.out.at_).below hb4 (Nat.le_refl _))
    have hb34 := below_join hb3 hb4
    have hb14 := below_join hb12 hb34
    have hu4 := HU.out.below hb14 (Nat.le_refl _)
    have hs4 := r6same_any (max d 4) f f u (.slice A1 m1' k1) ps ps w4 (hu4.mono (Nat.le_max_left _ _)) (hat.mono (Nat.le_max_right _ _))
    rw [same_itself] at hs4
    have cr4 := fun W => rrunes_any bs1 W HL1.out
    obtain ⟨L1, hL1⟩ : ∃ L1, L1 = Rn.runes bs1 := ⟨_, rfl⟩
    rw [← hL1] at cr4 ⊢
    have HO1 := Lib.hid ho1
    have HW4 := Lib.hid hw4
    have hbw4 := below_join hb0 hb14
    have HX0 := Lib.hid (HP0.out.below hb14 (show w.heap.size < W0.heap.size from HL0.out))
    have HX4 := Lib.hid p4
    clear ct hx hin ho1 hw4 hL1 hat hu4 l4 hb3 hb4 hb34 hb12 p4
    go_upto_region 6 with (fail)
    rw [← HO1.out, ← HW4.out]
    obtain ⟨x0, x1, x2, x3, x4, x5, x6, x7, x8, x9, x10, x11, x12, x13⟩ := HX0.out
    obtain ⟨y0, y1, y2, y3, y4, y5, y6, y7, y8, y9, y10, y11, y12, y13⟩ := HX4.out
    go_wp2_with (fail)
    refine hs4.mono ?_
    rintro E w5 ⟨rfl, hb5⟩
    clear hs4 x0 x1 x2 x3 x4 x5 x6 x7 x8 x9 x10 x11 x12 x13 y0 y1 y2 y3 y4 y5 y6 y7 y8 y9 y10 y11 y12 y13
    go_wp2_with (fail)
    refine (cr4 w5).mono ?_
    intro E wm hE8
    obtain ⟨b8, c8, hE8a, hb8⟩ := OwnNums.formed hE8
    subst hE8a
    have hbm := below_join hbw4 (below_join hb5 hb8)
    clear cr4 hb5 hb8 hbw4 hbw2 hb14 hE8 hm hs2
    have cb := tparse_any bs wm (by have := HS.out; omega) (HE.out.below hbm (Nat.le_refl _))
    obtain ⟨P, hP2⟩ : ∃ P, P = Tx.parse (Rn.runes bs) := ⟨_, rfl⟩
    rw [← hP2] at cb
    obtain ⟨px, pi, pe⟩ := P
    have HPE := Lib.hid hP2
    clear hP2
    go_wp2_with (fail)
    refine cb.mono ?_
    rintro E w5 ⟨f2, A2, m2, k2, qs, rfl, hx, hin, hb5⟩
    obtain ⟨o2, ho2⟩ : ∃ o2, o2 = Obj.cells #[.int .i64 f2.k, .int .i64 f2.u, .int .i64 f2.o, .int .i64 f2.a.k, .int .i64 f2.a.t, .int .i64 f2.a.c, .bool f2.a.z, .int .i64 f2.a.n, .int .i64 f2.b.k, .int .i64 f2.b.t, .int .i64 f2.b.c, .bool f2.b.z, .int .i64 f2.b.n, .slice A2 m2 k2] 28 := ⟨_, rfl⟩
    obtain ⟨w6, hw6⟩ : ∃ w6, w6 = w5.alloc o2 := ⟨_, rfl⟩
    obtain ⟨l6, p6, hb6⟩ := pd_box (f := f2) (u := .slice A2 m2 k2) (hw6.trans (by rw [ho2]; rfl))
    have hat := (hin.out.at_).below hb6 (Nat.le_refl _)
    have hbw6 := below_join hbm (below_join hb5 hb6)
    have hb56 := below_join hb5 hb6
    have HAT := Lib.hid hat
    have HO2 := Lib.hid ho2
    have HW6 := Lib.hid hw6
    have HBW6 := Lib.hid hbw6
    have HX := Lib.hid hx.out
    have HL6 := Lib.hid l6.lt
    have HP6 := Lib.hid p6
    clear cb hat ho2 hw6 hbw6 hx hin l6 hb5 hb6 p6
    go_upto_region 9 with (fail)
    rw [← HO2.out, ← HW6.out]
    obtain ⟨y0, y1, y2, y3, y4, y5, y6, y7, y8, y9, y10, y11, y12, y13⟩ := HP6.out
    by_cases he : pe = 0
    · subst he
      have hbt := Tx.bytes_took (s := bs) (p := .mk f2 qs) (e := pi) (by rw [← HPE.out, ← HX.out])
      obtain ⟨hr2, hw2, hbs, _⟩ := hbt
      have hz2 : Pr.size (.mk f2 qs) ≤ 1000000 := Nat.le_trans (size_right 4 _ 1 (by decide) hr2) (by decide)
      have cp := tpred_any 4 f2 _ qs w6 HAT.out hw2 hz2 (HP.out.below HBW6.out (Nat.le_refl _))
      have ht2 : Tx.told (.mk f2 qs) = bs := by unfold Tx.told; rw [if_pos hr2]; exact hbs
      rw [ht2, if_pos hr2] at cp
      clear hr2 hw2 hbs hz2 ht2
      go_wp2_with (fail)
      refine cp.mono ?_
      rintro E w7 ⟨rfl, hb7⟩
      have hbw7 := below_join HBW6.out hb7
      clear cp y0 y1 y2 y3 y4 y5 y6 y7 y8 y9 y10 y11 y12 y13
      have ca := awake8_of rpred_any w7 (HE.out.below hbw7 (Nat.le_refl _)) (HP.out.below hbw7 (Nat.le_refl _))
      go_wp2_with (fail)
      refine ca.mono ?_
      rintro E wz ⟨rfl, hbz⟩
      go_wp2_with (fail)
      go_ret
      exact ⟨rfl, below_join hbw7 hbz⟩

    · have hz := Tx.parse_zero (l := Rn.runes bs) (by rw [← HPE.out]; exact he)
      rw [← HPE.out] at hz
      have hzz : Tx.zp = .mk f2 qs := hz.symm.trans HX.out
      have hle := Tx.parse_le (Rn.runes bs)
      rw [← HPE.out] at hle
      have hsm : Pr.same (.mk f2 qs) Tx.zp = true := by rw [hzz]; exact same_itself _
      have cs2 := fun W (hb : Below w6.heap.size w6 W) => r6same_any 4 f2 ⟨0, 0, 0, ⟨0, 0, 0, false, 0⟩, ⟨0, 0, 0, false, 0⟩⟩ (.slice A2 m2 k2) (.slice none 0 0) qs [] W (HAT.out.below hb (Nat.le_refl _)) (PsAt.none_ _ _)
      rw [show Pr.same (.mk f2 qs) (.mk ⟨0, 0, 0, ⟨0, 0, 0, false, 0⟩, ⟨0, 0, 0, false, 0⟩⟩ []) = true from hsm] at cs2
      have hne : ¬ (pe = 0) := he
      have hpi : (pi : Int) ≤ ((Rn.runes bs).length : Int) := by exact_mod_cast hle
      have hp0 : (0 : Int) ≤ (pi : Int) := by omega
      obtain ⟨L, hL⟩ : ∃ L, L = Rn.runes bs := ⟨_, rfl⟩
      rw [← hL] at hpi
      have HLL := Lib.hid hL
      clear hz hzz hle hsm he hL
      go_wp2_with (fail)
      refine (cs2 _ (Below.refl _ _)).mono ?_
      rintro E w7 ⟨rfl, hb7⟩
      have hbw7 := below_join HBW6.out hb7
      have cr2 := rrunes_any bs w7 (by have := HS.out; omega)
      rw [← HLL.out] at cr2
      clear cs2 y0 y1 y2 y3 y4 y5 y6 y7 y8 y9 y10 y11 y12 y13
      go_wp2_with (fail)
      refine cr2.mono ?_
      intro E w8 hE8
      obtain ⟨b8, c8, hE8a, hb8⟩ := OwnNums.formed hE8
      subst hE8a
      have hbw8 := below_join hbw7 hb8
      clear cr2
      have ca := awake8_of rpred_any w8 (HE.out.below hbw8 (Nat.le_refl _)) (HP.out.below hbw8 (Nat.le_refl _))
      go_wp2_with (fail)
      refine ca.mono ?_
      rintro E wz ⟨rfl, hbz⟩
      go_wp2_with (fail)
      go_ret
      exact ⟨rfl, below_join hbw8 hbz⟩
end Go.Proofs.YtaodobjekpacoaaDoor
