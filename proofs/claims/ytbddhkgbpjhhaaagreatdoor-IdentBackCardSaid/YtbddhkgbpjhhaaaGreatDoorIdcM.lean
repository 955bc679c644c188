/-
  PACKAGE ident: Do.
-/
import Derived.Test.YtbddhkgbpjhhaaaGreatDoorIdyaM
import Derived.Test.YtbddhkgbpjhhaaaGreatDoorIdbM
import Derived.Test.YtbddhkgbpjhhaaaGreatDoorGTreeB
namespace Go.Proofs.YtbddhkgbpjhhaaaGreatDoor
open Go.RowKit Go.Sort
set_option maxHeartbeats 6400000
theorem Id.size_two {t x y : Tr} (h : t.ks = [x, y]) : Tr.size t = 1 + Pr.sizes t.cs + (Tr.size x + Tr.size y) := by
  rw [Tr.size_at, h, Tr.sizes, Tr.sizes, Tr.sizes, Nat.add_zero]
theorem Id.doo_size {how : Nat} {t x : Tr} (h : Id.doo how t = some x) : Tr.size x = Tr.size t := by
  unfold Id.doo at h
  cases hp : Id.apart how t with
  | none => rw [hp] at h; cases h
  | some p =>
    rw [hp] at h
    change (if (Id.may how p.a.k p.b.k && Id.holds how p) = true then some (Id.made how p) else none) = some x at h
    split at h
    · cases h
      unfold Id.apart at hp
      unfold Id.made
      split at hp
      · rename_i h1
        obtain ⟨e, f, hk, rfl⟩ := Id.alone_some hp
        rw [if_pos h1, Id.size_on, Id.size_two hk]; dsimp only; omega
      · rename_i h1
        rw [if_neg h1]
        split at hp
        · rename_i h2
          obtain ⟨y, e, f, g, hk, hk2, rfl⟩ := Id.first_some hp
          have e1 := Id.size_two hk
          have e2 := Id.size_two hk2
          split
          · rw [Id.size_on, Id.size_on]; dsimp only; omega
          · rw [if_neg (by omega)]
            split
            · rw [Id.size_on, Id.size_on]; dsimp only; omega
            · omega
        · rename_i h2
          obtain ⟨y, e, f, g, hk, hk2, rfl⟩ := Id.second_some hp
          have e1 := Id.size_two hk
          have e2 := Id.size_two hk2
          rw [if_neg (by omega)]
          split
          · rw [Id.size_on, Id.size_on]; dsimp only; omega
          · rw [if_neg (by omega), Id.size_on, Id.size_on]; dsimp only; omega
    · cases h
theorem DoIs.any {T : Nat → Prop} {how : Nat} {t : Tr} {w w' : World} {E : Ending} (h : DoIs T how t w E w') : ∃ z : Nd, E = .returned (.tuple #[.agg #[.int .i64 z.a.k, .int .i64 z.a.t, .slice z.uA z.uN z.uC, .slice z.pA z.pN z.pC, .bool z.a.h, .int .u64 (z.n : Int), .slice z.xA z.xN z.xC], .bool (Id.doo how t).isSome]) ∧ z.a = (Id.doo how t).getD Id.zero ∧ TrOn (fun k => T k ∨ w.heap.size ≤ k) w' (z.a, z.u, z.p) ∧ Below w.heap.size w w' := by
  rcases h with ⟨z, h1, h2, h3, h4⟩ | ⟨h1, h2, h3⟩
  · exact ⟨z, by rw [h1]; exact h2, by rw [h1]; rfl, h3.tr, h4⟩
  · exact ⟨Nd.zero, by rw [h1]; exact h2, by rw [h1]; rfl, TNd.zero_u _ _, h3⟩
theorem Id.do_size {how : Nat} {t : Tr} (h : Tr.size t ≤ 1000) : Tr.size ((Id.doo how t).getD Id.zero) ≤ 1000 := by
  cases hd : Id.doo how t with
  | none => show Tr.size Id.zero ≤ 1000; unfold Id.zero; rw [Tr.size, Pr.sizes, Tr.sizes]; omega
  | some x => have := Id.doo_size hd; show Tr.size x ≤ 1000; omega
def DooIs (how : Nat) (a : Tr) (w : World) (E : Ending) (w' : World) : Prop := ∃ t u v, t = (Id.doo how a).getD Id.zero ∧ E = .returned (.tuple #[.agg #[.int .i64 t.k, .int .i64 t.t, u, v, .bool t.h], .bool (Id.doo how a).isSome]) ∧ TrOn (fun k => w.heap.size ≤ k) w' (t, u, v) ∧ Below w.heap.size w w'
set_option maxRecDepth 100000 in
theorem idoo_any (how : Nat) (h1 : 1 ≤ how) (h5 : how ≤ 5) (a : Tr) (uA : Option Addr) (uN uC : Nat) (pA : Option Addr) (pN pC : Nat) (w : World) (ht : TrHang w (a, .slice uA uN uC, .slice pA pN pC)) (hsz : Tr.size a ≤ 1000) (hC : Chgs w) (hW : Want w) :
    Calls Tryz.prog 13 #[.int .i64 (how : Int), .agg #[.int .i64 a.k, .int .i64 a.t, .slice uA uN uC, .slice pA pN pC, .bool a.h]] w (DooIs how a w) := by
  have hon : TrOn (fun k => k < w.heap.size) w (a, .slice uA uN uC, .slice pA pN pC) := ht.on fun k h => h
  obtain ⟨W0, hW0⟩ : ∃ W0, W0 = (w.alloc (Obj.cells #[.int .i64 a.k, .int .i64 a.t, .slice uA uN uC, .slice pA pN pC, .bool a.h] 26)).alloc (Obj.cells #[.int .i64 0, .int .i64 0, .slice none 0 0, .slice none 0 0, .bool false] 26) := ⟨_, rfl⟩
  obtain ⟨l0, l1, hb0⟩ := box_two (cs := [.int .i64 a.k, .int .i64 a.t, .slice uA uN uC, .slice pA pN pC, .bool a.h]) (ds := [.int .i64 0, .int .i64 0, .slice none 0 0, .slice none 0 0, .bool false]) hW0
  have hs0 : W0.heap.size = w.heap.size + 1 + 1 := by rw [hW0, World.size_alloc, World.size_alloc]
  have cc := ichanges_any W0
  have HX := Lib.hid (fun W (h : Below W0.heap.size W0 W) => l0.below h l0.lt)
  have HD := Lib.hid (fun W (h : Below W0.heap.size W0 W) => l1.below h l1.lt)
  have HON := Lib.hid (fun W (h : Below w.heap.size w W) => (hon.keep (T' := fun k => k < w.heap.size) h.size fun k hk hlt => ⟨h.block k hlt, hk⟩))
  have CM := Lib.hid (fun W (h : Below W0.heap.size W0 W) => imark_any (fun k => k < w.heap.size) a uA uN uC pA pN pC W (HON.out W (below_join hb0 h)) hsz (fun k hk => Nat.lt_of_lt_of_le hk (below_join hb0 h).size))
  obtain ⟨j, rfl⟩ : ∃ j, how = j + 1 := ⟨how - 1, by omega⟩
  have hj : j < 5 := by omega
  have CD := Lib.hid (fun (z : Nd) (Tz : Nat → Prop) (W : World) (h : Below W0.heap.size W0 W) (hza : z.a = a) (hz : TNd Tz W z) (hTz : ∀ k, Tz k → k < W.heap.size) =>
    (ido_any j hj Tz z W hz hTz (by rw [hza]; exact hsz) (hC.below (below_join hb0 h) (Nat.le_refl _)) (hW.below (below_join hb0 h) (Nat.le_refl _))).mono fun E w' ho => (show ∃ y : Nd, E = .returned (.tuple #[.agg #[.int .i64 y.a.k, .int .i64 y.a.t, .slice y.uA y.uN y.uC, .slice y.pA y.pN y.pC, .bool y.a.h, .int .u64 (y.n : Int), .slice y.xA y.xN y.xC], .bool (Id.doo (j + 1) a).isSome]) ∧ y.a = (Id.doo (j + 1) a).getD Id.zero ∧ TrOn (fun k => Tz k ∨ W.heap.size ≤ k) w' (y.a, y.u, y.p) ∧ Below W.heap.size W w' from by
      obtain ⟨y, h1, h2, h3, h4⟩ := ho.any
      rw [hza] at h1 h2
      exact ⟨y, h1, h2, h3, h4⟩))
  have HSZ := Lib.hid (Id.do_size (how := j + 1) hsz)
  have HS0 := Lib.hid hs0
  have HW := Lib.hid hW0
  have HB0 := Lib.hid hb0
  obtain ⟨D, hD⟩ : ∃ D, D = (Id.doo (j + 1) a).isSome := ⟨_, rfl⟩
  obtain ⟨R, hR⟩ : ∃ R, R = (Id.doo (j + 1) a).getD Id.zero := ⟨_, rfl⟩
  rw [← hD, ← hR] at CD
  rw [← hR] at HSZ
  have HDE := Lib.hid hD
  obtain ⟨H, hH⟩ : ∃ H : Int, H = ((j + 1 : Nat) : Int) := ⟨_, rfl⟩
  rw [← hH] at CD ⊢
  have HH := Lib.hid hH
  have HRE := Lib.hid hR
  clear ht hsz hC hW hon hW0 hs0 hb0 l0 l1 h1 h5 hD hR hH
  go_enter Tryz.func13, Tryz.ntmps13
  go_upto_region 1 with (fail)
  rw [← HW.out]
  go_wp2_with fail
  refine cc.mono ?_
  rintro E w1 ⟨rfl, lc, hb1⟩
  have HLC := Lib.hid lc
  have HB1 := Lib.hid hb1
  clear cc lc hb1
  go_wp2_with fail
  go_loopw [12] (fun i wr => ∃ q : Nat, q ≤ j ∧ i = .int .i64 q ∧ Below w1.heap.size w1 wr) (fun i _ => 5 - (intOf i).toNat)
  case atStart => exact ⟨0, Nat.zero_le _, rfl, Below.refl _ _⟩
  case round =>
    obtain ⟨q, hq, rfl, hb⟩ := hrel
    have i2 : (q : Int) < 5 := by omega
    obtain ⟨c0, c1, c2, c3⟩ := ch_at q (by omega)
    obtain ⟨m, hm⟩ : ∃ m : Int, m = ((q + 1 : Nat) : Int) := ⟨_, rfl⟩
    rw [← hm] at c0
    have lcr := HLC.out.below hb HLC.out.lt
    have x0 := lcr.cell c0
    have x1 := lcr.cell c1
    have x2 := lcr.cell c2
    have x3 := lcr.cell c3
    have hbw := below_join HB1.out hb
    obtain ⟨W2, hW2⟩ : ∃ W2, W2 = wr.alloc (Obj.cells #[.int .i64 m, .func (.func (chA q)) #[] #[], .func (.func (chH q)) #[] #[], .func (.func (chM q)) #[] #[]] 86) := ⟨_, rfl⟩
    obtain ⟨l2, hb2⟩ := box_one (cs := [.int .i64 m, .func (.func (chA q)) #[] #[], .func (.func (chH q)) #[] #[], .func (.func (chM q)) #[] #[]]) hW2
    have HW2 := Lib.hid hW2
    have HB2 := Lib.hid (below_join hbw hb2)
    have HB12 := Lib.hid (below_join hb hb2)
    have HY := Lib.hid (fun W (h : Below W2.heap.size W2 W) => l2.below h l2.lt)
    have y0 := l2.cell (i := 0) rfl
    clear c0 c1 c2 c3 lcr hbw hW2 hb2 hb l2
    by_cases hqj : q = j
    · subst hqj
      obtain rfl : m = H := by rw [hm, HH.out]
      have heb : (m == m) = true := by simp
      clear hm
      go_upto_region 5 with (fail)
      rw [← HW2.out]
      clear x0 x1 x2 x3 y0
      refine wp_region_held_drew (S := fun W => Below W2.heap.size W2 W) (by kernel_rfl) (Below.refl _ W2).drew (fun hS => ?_)
      refine any_norm17 (l' := Array.replicate 10 false) (m' := 10) (by kernel_rfl) (by kernel_rfl) ?_
      refine take_any (i := 0) (v := ?v1) rfl (by kernel_rfl) (by kernel_rfl) (by kernel_rfl) (fun _ _ _ h => h) (Or.inl ⟨by rfl, ?hy1⟩) hS ?rest1
      case hy1 => (intro w hSw; have l := HY.out _ hSw; have y0 := l.cell (i := 0) rfl; have y1 := l.cell (i := 1) rfl; have y2 := l.cell (i := 2) rfl; have y3 := l.cell (i := 3) rfl; clear l; go_simp; try with_reducible rfl)
      try simp only [Act.put, List.setIfInBounds_toArray, List.set_cons_zero, List.set_cons_succ]
      refine take_any (i := 1) (v := ?v2) rfl (by kernel_rfl) (by kernel_rfl) (by kernel_rfl) (fun _ _ _ h => h) (Or.inl ⟨by rfl, ?hy2⟩) hS ?rest2
      case hy2 => (intro w hSw; have l := HX.out _ (below_join HB2.out hSw); have y0 := l.cell (i := 0) rfl; have y1 := l.cell (i := 1) rfl; have y2 := l.cell (i := 2) rfl; have y3 := l.cell (i := 3) rfl; have y4 := l.cell (i := 4) rfl; clear l; go_simp; try with_reducible rfl)
      try simp only [Act.put, List.setIfInBounds_toArray, List.set_cons_zero, List.set_cons_succ]
      refine wpAnyH_ready (rs := [2, 7]) (by kernel_rfl) (by simp) ?_
      refine AllReadyH.cons rfl (fun K hK => ?_) (AllReadyH.cons rfl (fun K hK => ?_) AllReadyH.nil)
      · rw [if_pos (by kernel_rfl)]
        go_simp
        refine (CM.out _ (below_join HB2.out hS)).mono ?_
        rintro E wM ⟨xA, xN, xC, rfl, htM, hbM⟩
        try dsimp only
        have HTM := Lib.hid htM
        have hW2M : W2.heap.size ≤ (W2.drew).heap.size := hS.size
        have HWM := Lib.hid (show W2.heap.size ≤ (W2.drew).heap.size ∧ (W2.drew).heap.size ≤ wM.heap.size from ⟨hS.size, hbM.size⟩)
        replace hS := below_join hS hbM
        clear htM hW2M
        refine hK.out _ _ hS (fun _ => ?_)
        clear hK K
        try simp only [Act.put, List.setIfInBounds_toArray, List.set_cons_zero, List.set_cons_succ]
        refine wpAnyH_ready (rs := [3, 7]) (by kernel_rfl) (by simp) ?_
        refine AllReadyH.cons rfl (fun K hK => ?_) (AllReadyH.cons rfl (fun K hK => ?_) AllReadyH.nil)
        · rw [if_pos (by kernel_rfl)]
          go_simp
          refine (CD.out ⟨a, uA, uN, uC, pA, pN, pC, Tr.tables a, xA, xN, xC⟩ (fun k => k < wM.heap.size) _ (below_join HB2.out hS) rfl (HTM.out.mono fun k _ hlt => hlt) (fun k h => h)).mono ?_
          rintro E wD ⟨y, rfl, hya, hyt, hbD⟩
          try dsimp only
          have HBD := Lib.hid hbD
          replace hS := below_join hS hbD
          have HYA := Lib.hid hya
          have HYT := Lib.hid hyt
          clear hya hyt hbD
          refine hK.out _ _ hS (fun _ => ?_)
          clear hK K
          try simp only [Act.put, List.setIfInBounds_toArray, List.set_cons_zero, List.set_cons_succ]
          refine take_any (i := 4) (v := ?v3) rfl (by kernel_rfl) (by kernel_rfl) (by kernel_rfl) (fun _ _ _ h => h) (Or.inl ⟨by rfl, ?hy3⟩) hS ?rest3
          case hy3 => (intro w hSw; go_simp; try with_reducible rfl)
          try simp only [Act.put, List.setIfInBounds_toArray, List.set_cons_zero, List.set_cons_succ]
          refine take_any (i := 5) (v := ?v4) rfl (by kernel_rfl) (by kernel_rfl) (by kernel_rfl) (fun _ _ _ h => h) (Or.inl ⟨by rfl, ?hy4⟩) hS ?rest4
          case hy4 => (intro w hSw; go_simp; try with_reducible rfl)
          try simp only [Act.put, List.setIfInBounds_toArray, List.set_cons_zero, List.set_cons_succ]
          refine take_any (i := 6) (v := ?v5) rfl (by kernel_rfl) (by kernel_rfl) (by kernel_rfl) (fun _ _ _ h => h) (Or.inl ⟨by rfl, ?hy5⟩) hS ?rest5
          case hy5 => (intro w hSw; go_simp; try with_reducible rfl)
          try simp only [Act.put, List.setIfInBounds_toArray, List.set_cons_zero, List.set_cons_succ]
          refine wpAnyH_ready (rs := [7]) (by kernel_rfl) (by simp) ?_
          refine AllReadyH.cons rfl (fun K hK => ?_) AllReadyH.nil
          rw [if_pos (by kernel_rfl)]
          go_simp
          have hq := Lies.new (wD) 68 [.int .i64 0, .int .i64 0, .slice none 0 0, .slice none 0 0, .bool false, .int .u64 0, .slice none 0 0]
          have HGW := Lib.hid (show W2.heap.size ≤ (wD).heap.size from hS.size)
          replace hS := below_join hS (below_new (wD) (Obj.cells #[.int .i64 0, .int .i64 0, .slice none 0 0, .slice none 0 0, .bool false, .int .u64 0, .slice none 0 0] 68))
          refine hK.out _ _ hS (fun _ => ?_)
          clear hK K
          try simp only [Act.put, List.setIfInBounds_toArray, List.set_cons_zero, List.set_cons_succ]
          refine wpAnyH_ready (rs := [8]) (by kernel_rfl) (by simp) ?_
          refine AllReadyH.cons rfl (fun K hK => ?_) AllReadyH.nil
          rw [if_pos (by kernel_rfl)]
          refine wp_store_mid 68 _ _ rfl wD.heap.size 0 (.int .i64 y.a.k :: .int .i64 y.a.t :: .slice y.uA y.uN y.uC :: .slice y.pA y.pN y.pC :: .bool y.a.h :: .int .u64 (y.n : Int) :: .slice y.xA y.xN y.xC :: []).toArray rfl rfl (Lies.there hq rfl) (by kernel_rfl) (by rw [← Array.all_toList]; rfl) ?_
          obtain ⟨W9, hW9⟩ : ∃ W9, W9 = setCells ((wD.alloc (Obj.cells #[.int .i64 0, .int .i64 0, .slice none 0 0, .slice none 0 0, .bool false, .int .u64 0, .slice none 0 0] 68))) (wD.heap.size) 0 (.int .i64 y.a.k :: .int .i64 y.a.t :: .slice y.uA y.uN y.uC :: .slice y.pA y.pN y.pC :: .bool y.a.h :: .int .u64 (y.n : Int) :: .slice y.xA y.xN y.xC :: []) := ⟨_, rfl⟩
          rw [setCells_kit]
          rw [← hW9]
          have hk9 : Keeps (fun k => k ≠ wD.heap.size) ((wD.alloc (Obj.cells #[.int .i64 0, .int .i64 0, .slice none 0 0, .slice none 0 0, .bool false, .int .u64 0, .slice none 0 0] 68))) W9 := ⟨by rw [hW9]; exact setCells_os _ _ _ _, by rw [hW9]; exact setCells_tape _ _ _ _, by rw [hW9]; exact setCells_output _ _ _ _, by rw [hW9, setCells_size]; exact Nat.le_refl _, fun k _ hne => by rw [hW9]; exact setCells_other _ _ hne _ _ _⟩
          have hq9 : Lies W9 (wD.heap.size) 68 (.int .i64 y.a.k :: .int .i64 y.a.t :: .slice y.uA y.uN y.uC :: .slice y.pA y.pN y.pC :: .bool y.a.h :: .int .u64 (y.n : Int) :: .slice y.xA y.xN y.xC :: []) := by rw [hW9]; exact hq.put_all rfl
          clear hW9
          have hlow : W2.heap.size ≤ wD.heap.size := HGW.out
          have hyt9 : TrHang W9 (y.a, y.u, y.p) := (HYT.out.keep (T' := fun _ => True) (Nat.le_trans (by rw [World.size_alloc]; exact Nat.le_succ _) hk9.size) (fun k hk hlt => ⟨(hk9.same k (by rw [World.size_alloc]; omega) (by omega)).trans (Below.heap_alloc _ _ _ hlt), trivial⟩)).hang
          replace hS : Below W2.heap.size W2 W9 := ⟨hk9.os.trans hS.os, hk9.tape.trans hS.tape, hk9.output.trans hS.output, Nat.le_trans hS.size hk9.size, fun k hk => (hk9.same k (Nat.lt_of_lt_of_le hk hS.size) (by omega)).trans (hS.block k hk)⟩
          clear hk9 hq
          refine hK.out _ _ hS (fun _ => ?_)
          clear hK K
          try simp only [Act.put, List.setIfInBounds_toArray]
          refine take_any (i := 9) (v := ?v6) rfl (by kernel_rfl) (by kernel_rfl) (by kernel_rfl) (fun _ _ _ h => h) (Or.inl ⟨by rfl, ?hy6⟩) hS ?rest6
          case hy6 => (intro w hSw; go_simp; try with_reducible rfl)
          try simp only [Act.put]
          refine wpAnyH_done (by kernel_rfl) ?_ _
          have HL9 := Lib.hid hq9
          have HG9 := Lib.hid (show W2.heap.size ≤ wD.heap.size from hlow)
          obtain ⟨g, hg⟩ : ∃ g, g = wD.heap.size := ⟨_, rfl⟩
          rw [← hg] at HL9 HG9 ⊢
          clear hg hq9 hlow
          have HB9 := Lib.hid (below_join HB2.out hS)
          clear hS
          have cp := tcopy_any y.a (.slice y.uA y.uN y.uC) (.slice y.pA y.pN y.pC) W9 hyt9.1 hyt9.2 (by rw [HYA.out]; exact HSZ.out)
          have g0 := HL9.out.cell (i := 0) rfl
          have g1 := HL9.out.cell (i := 1) rfl
          have g2 := HL9.out.cell (i := 2) rfl
          have g3 := HL9.out.cell (i := 3) rfl
          have g4 := HL9.out.cell (i := 4) rfl
          clear hyt9
          go_wp2_with fail
          refine cp.mono ?_
          rintro E w10 ⟨u', v', rfl, hon, hb10⟩
          obtain ⟨A1, c1, hA1, _⟩ := hon.1.elim fun d h => h.at_.form
          obtain ⟨A2, c2, hA2, _⟩ := hon.2.elim fun d h => h.at_.form
          change u' = .slice A1 y.a.ks.length c1 at hA1
          change v' = .slice A2 y.a.cs.length c2 at hA2
          subst hA1 hA2
          have HON10 := Lib.hid hon
          have HB10 := Lib.hid (below_join HB9.out hb10)
          have HDD := Lib.hid (HD.out w10 HB10.out)
          have HS9 := Lib.hid (show W0.heap.size ≤ W9.heap.size from HB9.out.size)
          have m0 := HDD.out.cell (i := 0) rfl
          have r0 := HDD.out.free 0
          have m1 := HDD.out.cell (i := 1) rfl
          have r1 := HDD.out.free 1
          have m2 := HDD.out.cell (i := 2) rfl
          have r2 := HDD.out.free 2
          have m3 := HDD.out.cell (i := 3) rfl
          have r3 := HDD.out.free 3
          have m4 := HDD.out.cell (i := 4) rfl
          have r4 := HDD.out.free 4
          clear cp g0 g1 g2 g3 g4 hon hb10
          go_wp2_with fail
          obtain ⟨W6, hW6⟩ : ∃ W6, W6 = setCells w10 (w.heap.size + 1) 0 (.int .i64 y.a.k :: .int .i64 y.a.t :: .slice A1 y.a.ks.length c1 :: .slice A2 y.a.cs.length c2 :: .bool y.a.h :: []) := ⟨_, rfl⟩
          obtain ⟨hl, hb6, hk6, _, _⟩ := stored_many (P := Tryz.prog) (L := (.int .i64 y.a.k :: .int .i64 y.a.t :: .slice A1 y.a.ks.length c1 :: .slice A2 y.a.cs.length c2 :: .bool y.a.h :: [])) (w := w) HDD.out rfl Tryz.underlying26 rfl (by kernel_rfl) (below_join HB0.out HB10.out) (Nat.le_succ _) hW6
          simp only [setCells] at hW6
          rw [← hW6]
          clear hW6
          refine bodyPost_ret (v := .tuple #[.agg (.int .i64 y.a.k :: .int .i64 y.a.t :: .slice A1 y.a.ks.length c1 :: .slice A2 y.a.cs.length c2 :: .bool y.a.h :: []).toArray, .bool D]) (results_cell_tmp rfl rfl rfl hl) rfl ?_
          exact ⟨y.a, _, _, HYA.out.trans HRE.out, by rw [HDE.out], HON10.out.keep hk6.size (fun k hk hlt => ⟨hk6.same k hlt (by have := HS0.out; have := HS9.out; omega), by have := HS0.out; have := HS9.out; omega⟩), hb6⟩
        · rw [if_pos (by kernel_rfl)]
          go_simp
          have hq := Lies.new (wM) 68 [.int .i64 0, .int .i64 0, .slice none 0 0, .slice none 0 0, .bool false, .int .u64 0, .slice none 0 0]
          have HGW := Lib.hid (show W2.heap.size ≤ (wM).heap.size from hS.size)
          replace hS := below_join hS (below_new (wM) (Obj.cells #[.int .i64 0, .int .i64 0, .slice none 0 0, .slice none 0 0, .bool false, .int .u64 0, .slice none 0 0] 68))
          refine hK.out _ _ hS (fun _ => ?_)
          clear hK K
          try simp only [Act.put, List.setIfInBounds_toArray, List.set_cons_zero, List.set_cons_succ]
          refine wpAnyH_ready (rs := [3]) (by kernel_rfl) (by simp) ?_
          refine AllReadyH.cons rfl (fun K hK => ?_) AllReadyH.nil
          rw [if_pos (by kernel_rfl)]
          go_simp
          refine (CD.out ⟨a, uA, uN, uC, pA, pN, pC, Tr.tables a, xA, xN, xC⟩ (fun k => k < wM.heap.size) _ (below_join HB2.out hS) rfl ((HTM.out.mono fun k _ hlt => hlt).below (below_new _ _)) (fun k h => by rw [World.size_alloc]; omega)).mono ?_
          rintro E wD ⟨y, rfl, hya, hyt, hbD⟩
          try dsimp only
          have HBD := Lib.hid hbD
          replace hS := below_join hS hbD
          have HYA := Lib.hid hya
          have HYT := Lib.hid hyt
          clear hya hyt hbD
          replace hq := hq.below HBD.out (by rw [World.size_alloc]; exact Nat.lt_succ_self _)
          refine hK.out _ _ hS (fun _ => ?_)
          clear hK K
          try simp only [Act.put, List.setIfInBounds_toArray, List.set_cons_zero, List.set_cons_succ]
          refine take_any (i := 4) (v := ?v7) rfl (by kernel_rfl) (by kernel_rfl) (by kernel_rfl) (fun _ _ _ h => h) (Or.inl ⟨by rfl, ?hy7⟩) hS ?rest7
          case hy7 => (intro w hSw; go_simp; try with_reducible rfl)
          try simp only [Act.put, List.setIfInBounds_toArray, List.set_cons_zero, List.set_cons_succ]
          refine take_any (i := 5) (v := ?v8) rfl (by kernel_rfl) (by kernel_rfl) (by kernel_rfl) (fun _ _ _ h => h) (Or.inl ⟨by rfl, ?hy8⟩) hS ?rest8
          case hy8 => (intro w hSw; go_simp; try with_reducible rfl)
          try simp only [Act.put, List.setIfInBounds_toArray, List.set_cons_zero, List.set_cons_succ]
          refine take_any (i := 6) (v := ?v9) rfl (by kernel_rfl) (by kernel_rfl) (by kernel_rfl) (fun _ _ _ h => h) (Or.inl ⟨by rfl, ?hy9⟩) hS ?rest9
          case hy9 => (intro w hSw; go_simp; try with_reducible rfl)
          try simp only [Act.put, List.setIfInBounds_toArray, List.set_cons_zero, List.set_cons_succ]
          refine wpAnyH_ready (rs := [8]) (by kernel_rfl) (by simp) ?_
          refine AllReadyH.cons rfl (fun K hK => ?_) AllReadyH.nil
          rw [if_pos (by kernel_rfl)]
          refine wp_store_mid 68 _ _ rfl wM.heap.size 0 (.int .i64 y.a.k :: .int .i64 y.a.t :: .slice y.uA y.uN y.uC :: .slice y.pA y.pN y.pC :: .bool y.a.h :: .int .u64 (y.n : Int) :: .slice y.xA y.xN y.xC :: []).toArray rfl rfl (Lies.there hq rfl) (by kernel_rfl) (by rw [← Array.all_toList]; rfl) ?_
          obtain ⟨W9, hW9⟩ : ∃ W9, W9 = setCells (wD) (wM.heap.size) 0 (.int .i64 y.a.k :: .int .i64 y.a.t :: .slice y.uA y.uN y.uC :: .slice y.pA y.pN y.pC :: .bool y.a.h :: .int .u64 (y.n : Int) :: .slice y.xA y.xN y.xC :: []) := ⟨_, rfl⟩
          rw [setCells_kit]
          rw [← hW9]
          have hk9 : Keeps (fun k => k ≠ wM.heap.size) (wD) W9 := ⟨by rw [hW9]; exact setCells_os _ _ _ _, by rw [hW9]; exact setCells_tape _ _ _ _, by rw [hW9]; exact setCells_output _ _ _ _, by rw [hW9, setCells_size]; exact Nat.le_refl _, fun k _ hne => by rw [hW9]; exact setCells_other _ _ hne _ _ _⟩
          have hq9 : Lies W9 (wM.heap.size) 68 (.int .i64 y.a.k :: .int .i64 y.a.t :: .slice y.uA y.uN y.uC :: .slice y.pA y.pN y.pC :: .bool y.a.h :: .int .u64 (y.n : Int) :: .slice y.xA y.xN y.xC :: []) := by rw [hW9]; exact hq.put_all rfl
          clear hW9
          have hlow : W2.heap.size ≤ wM.heap.size := HGW.out
          have hyt9 : TrHang W9 (y.a, y.u, y.p) := (HYT.out.keep (T' := fun _ => True) hk9.size (fun k hk hlt => ⟨(hk9.same k hlt (by rcases hk with hk | hk; omega; rw [World.size_alloc] at hk; omega)), trivial⟩)).hang
          replace hS : Below W2.heap.size W2 W9 := ⟨hk9.os.trans hS.os, hk9.tape.trans hS.tape, hk9.output.trans hS.output, Nat.le_trans hS.size hk9.size, fun k hk => (hk9.same k (Nat.lt_of_lt_of_le hk hS.size) (by omega)).trans (hS.block k hk)⟩
          clear hk9 hq
          refine hK.out _ _ hS (fun _ => ?_)
          clear hK K
          try simp only [Act.put, List.setIfInBounds_toArray]
          refine take_any (i := 9) (v := ?v10) rfl (by kernel_rfl) (by kernel_rfl) (by kernel_rfl) (fun _ _ _ h => h) (Or.inl ⟨by rfl, ?hy10⟩) hS ?rest10
          case hy10 => (intro w hSw; go_simp; try with_reducible rfl)
          try simp only [Act.put]
          refine wpAnyH_done (by kernel_rfl) ?_ _
          have HL9 := Lib.hid hq9
          have HG9 := Lib.hid (show W2.heap.size ≤ wM.heap.size from hlow)
          obtain ⟨g, hg⟩ : ∃ g, g = wM.heap.size := ⟨_, rfl⟩
          rw [← hg] at HL9 HG9 ⊢
          clear hg hq9 hlow
          have HB9 := Lib.hid (below_join HB2.out hS)
          clear hS
          have cp := tcopy_any y.a (.slice y.uA y.uN y.uC) (.slice y.pA y.pN y.pC) W9 hyt9.1 hyt9.2 (by rw [HYA.out]; exact HSZ.out)
          have g0 := HL9.out.cell (i := 0) rfl
          have g1 := HL9.out.cell (i := 1) rfl
          have g2 := HL9.out.cell (i := 2) rfl
          have g3 := HL9.out.cell (i := 3) rfl
          have g4 := HL9.out.cell (i := 4) rfl
          clear hyt9
          go_wp2_with fail
          refine cp.mono ?_
          rintro E w10 ⟨u', v', rfl, hon, hb10⟩
          obtain ⟨A1, c1, hA1, _⟩ := hon.1.elim fun d h => h.at_.form
          obtain ⟨A2, c2, hA2, _⟩ := hon.2.elim fun d h => h.at_.form
          change u' = .slice A1 y.a.ks.length c1 at hA1
          change v' = .slice A2 y.a.cs.length c2 at hA2
          subst hA1 hA2
          have HON10 := Lib.hid hon
          have HB10 := Lib.hid (below_join HB9.out hb10)
          have HDD := Lib.hid (HD.out w10 HB10.out)
          have HS9 := Lib.hid (show W0.heap.size ≤ W9.heap.size from HB9.out.size)
          have m0 := HDD.out.cell (i := 0) rfl
          have r0 := HDD.out.free 0
          have m1 := HDD.out.cell (i := 1) rfl
          have r1 := HDD.out.free 1
          have m2 := HDD.out.cell (i := 2) rfl
          have r2 := HDD.out.free 2
          have m3 := HDD.out.cell (i := 3) rfl
          have r3 := HDD.out.free 3
          have m4 := HDD.out.cell (i := 4) rfl
          have r4 := HDD.out.free 4
          clear cp g0 g1 g2 g3 g4 hon hb10
          go_wp2_with fail
          obtain ⟨W6, hW6⟩ : ∃ W6, W6 = setCells w10 (w.heap.size + 1) 0 (.int .i64 y.a.k :: .int .i64 y.a.t :: .slice A1 y.a.ks.length c1 :: .slice A2 y.a.cs.length c2 :: .bool y.a.h :: []) := ⟨_, rfl⟩
          obtain ⟨hl, hb6, hk6, _, _⟩ := stored_many (P := Tryz.prog) (L := (.int .i64 y.a.k :: .int .i64 y.a.t :: .slice A1 y.a.ks.length c1 :: .slice A2 y.a.cs.length c2 :: .bool y.a.h :: [])) (w := w) HDD.out rfl Tryz.underlying26 rfl (by kernel_rfl) (below_join HB0.out HB10.out) (Nat.le_succ _) hW6
          simp only [setCells] at hW6
          rw [← hW6]
          clear hW6
          refine bodyPost_ret (v := .tuple #[.agg (.int .i64 y.a.k :: .int .i64 y.a.t :: .slice A1 y.a.ks.length c1 :: .slice A2 y.a.cs.length c2 :: .bool y.a.h :: []).toArray, .bool D]) (results_cell_tmp rfl rfl rfl hl) rfl ?_
          exact ⟨y.a, _, _, HYA.out.trans HRE.out, by rw [HDE.out], HON10.out.keep hk6.size (fun k hk hlt => ⟨hk6.same k hlt (by have := HS0.out; have := HS9.out; omega), by have := HS0.out; have := HS9.out; omega⟩), hb6⟩
      · rw [if_pos (by kernel_rfl)]
        go_simp
        have hq := Lies.new (W2.drew) 68 [.int .i64 0, .int .i64 0, .slice none 0 0, .slice none 0 0, .bool false, .int .u64 0, .slice none 0 0]
        have HGW := Lib.hid (show W2.heap.size ≤ (W2.drew).heap.size from hS.size)
        replace hS := below_join hS (below_new (W2.drew) (Obj.cells #[.int .i64 0, .int .i64 0, .slice none 0 0, .slice none 0 0, .bool false, .int .u64 0, .slice none 0 0] 68))
        refine hK.out _ _ hS (fun _ => ?_)
        clear hK K
        try simp only [Act.put, List.setIfInBounds_toArray, List.set_cons_zero, List.set_cons_succ]
        refine wpAnyH_ready (rs := [2]) (by kernel_rfl) (by simp) ?_
        refine AllReadyH.cons rfl (fun K hK => ?_) AllReadyH.nil
        rw [if_pos (by kernel_rfl)]
        go_simp
        refine (CM.out _ (below_join HB2.out hS)).mono ?_
        rintro E wM ⟨xA, xN, xC, rfl, htM, hbM⟩
        try dsimp only
        have HTM := Lib.hid htM
        have hW2M : W2.heap.size ≤ ((W2.drew.alloc (Obj.cells #[.int .i64 0, .int .i64 0, .slice none 0 0, .slice none 0 0, .bool false, .int .u64 0, .slice none 0 0] 68))).heap.size := hS.size
        have HWM := Lib.hid (show W2.heap.size ≤ ((W2.drew.alloc (Obj.cells #[.int .i64 0, .int .i64 0, .slice none 0 0, .slice none 0 0, .bool false, .int .u64 0, .slice none 0 0] 68))).heap.size ∧ ((W2.drew.alloc (Obj.cells #[.int .i64 0, .int .i64 0, .slice none 0 0, .slice none 0 0, .bool false, .int .u64 0, .slice none 0 0] 68))).heap.size ≤ wM.heap.size from ⟨hS.size, hbM.size⟩)
        replace hS := below_join hS hbM
        clear htM hW2M
        refine hK.out _ _ hS (fun _ => ?_)
        clear hK K
        try simp only [Act.put, List.setIfInBounds_toArray, List.set_cons_zero, List.set_cons_succ]
        have hq := hq.below hbM (by rw [World.size_alloc]; exact Nat.lt_succ_self _)
        refine wpAnyH_ready (rs := [3]) (by kernel_rfl) (by simp) ?_
        refine AllReadyH.cons rfl (fun K hK => ?_) AllReadyH.nil
        rw [if_pos (by kernel_rfl)]
        go_simp
        refine (CD.out ⟨a, uA, uN, uC, pA, pN, pC, Tr.tables a, xA, xN, xC⟩ (fun k => (k < w.heap.size ∨ W2.heap.size + 1 ≤ k) ∧ k < wM.heap.size) _ (below_join HB2.out hS) rfl (HTM.out.mono fun k hk hlt => ⟨hk.imp id (fun h => by rw [World.size_alloc] at h; exact h), hlt⟩) (fun k h => h.2)).mono ?_
        rintro E wD ⟨y, rfl, hya, hyt, hbD⟩
        try dsimp only
        have HBD := Lib.hid hbD
        replace hS := below_join hS hbD
        have HYA := Lib.hid hya
        have HYT := Lib.hid hyt
        clear hya hyt hbD
        replace hq := hq.below HBD.out (Nat.lt_of_lt_of_le (Nat.lt_succ_self _) (by have := HWM.out.2; rw [World.size_alloc] at this; exact this))
        refine hK.out _ _ hS (fun _ => ?_)
        clear hK K
        try simp only [Act.put, List.setIfInBounds_toArray, List.set_cons_zero, List.set_cons_succ]
        refine take_any (i := 4) (v := ?v11) rfl (by kernel_rfl) (by kernel_rfl) (by kernel_rfl) (fun _ _ _ h => h) (Or.inl ⟨by rfl, ?hy11⟩) hS ?rest11
        case hy11 => (intro w hSw; go_simp; try with_reducible rfl)
        try simp only [Act.put, List.setIfInBounds_toArray, List.set_cons_zero, List.set_cons_succ]
        refine take_any (i := 5) (v := ?v12) rfl (by kernel_rfl) (by kernel_rfl) (by kernel_rfl) (fun _ _ _ h => h) (Or.inl ⟨by rfl, ?hy12⟩) hS ?rest12
        case hy12 => (intro w hSw; go_simp; try with_reducible rfl)
        try simp only [Act.put, List.setIfInBounds_toArray, List.set_cons_zero, List.set_cons_succ]
        refine take_any (i := 6) (v := ?v13) rfl (by kernel_rfl) (by kernel_rfl) (by kernel_rfl) (fun _ _ _ h => h) (Or.inl ⟨by rfl, ?hy13⟩) hS ?rest13
        case hy13 => (intro w hSw; go_simp; try with_reducible rfl)
        try simp only [Act.put, List.setIfInBounds_toArray, List.set_cons_zero, List.set_cons_succ]
        refine wpAnyH_ready (rs := [8]) (by kernel_rfl) (by simp) ?_
        refine AllReadyH.cons rfl (fun K hK => ?_) AllReadyH.nil
        rw [if_pos (by kernel_rfl)]
        refine wp_store_mid 68 _ _ rfl W2.heap.size 0 (.int .i64 y.a.k :: .int .i64 y.a.t :: .slice y.uA y.uN y.uC :: .slice y.pA y.pN y.pC :: .bool y.a.h :: .int .u64 (y.n : Int) :: .slice y.xA y.xN y.xC :: []).toArray rfl rfl (Lies.there hq rfl) (by kernel_rfl) (by rw [← Array.all_toList]; rfl) ?_
        obtain ⟨W9, hW9⟩ : ∃ W9, W9 = setCells (wD) (W2.heap.size) 0 (.int .i64 y.a.k :: .int .i64 y.a.t :: .slice y.uA y.uN y.uC :: .slice y.pA y.pN y.pC :: .bool y.a.h :: .int .u64 (y.n : Int) :: .slice y.xA y.xN y.xC :: []) := ⟨_, rfl⟩
        rw [setCells_kit]
        rw [← hW9]
        have hk9 : Keeps (fun k => k ≠ W2.heap.size) (wD) W9 := ⟨by rw [hW9]; exact setCells_os _ _ _ _, by rw [hW9]; exact setCells_tape _ _ _ _, by rw [hW9]; exact setCells_output _ _ _ _, by rw [hW9, setCells_size]; exact Nat.le_refl _, fun k _ hne => by rw [hW9]; exact setCells_other _ _ hne _ _ _⟩
        have hq9 : Lies W9 (W2.heap.size) 68 (.int .i64 y.a.k :: .int .i64 y.a.t :: .slice y.uA y.uN y.uC :: .slice y.pA y.pN y.pC :: .bool y.a.h :: .int .u64 (y.n : Int) :: .slice y.xA y.xN y.xC :: []) := by rw [hW9]; exact hq.put_all rfl
        clear hW9
        have hlow : W2.heap.size ≤ W2.heap.size := Nat.le_refl _
        have hyt9 : TrHang W9 (y.a, y.u, y.p) := (HYT.out.keep (T' := fun _ => True) hk9.size (fun k hk hlt => ⟨(hk9.same k hlt (by have := HB2.out.size; have := HS0.out; have := HWM.out; rw [World.size_alloc] at this; rcases hk with hk | hk; rcases hk.1 with h | h; omega; omega; have h5 : (W2.drew).heap.size = W2.heap.size := rfl; omega)), trivial⟩)).hang
        replace hS : Below W2.heap.size W2 W9 := ⟨hk9.os.trans hS.os, hk9.tape.trans hS.tape, hk9.output.trans hS.output, Nat.le_trans hS.size hk9.size, fun k hk => (hk9.same k (Nat.lt_of_lt_of_le hk hS.size) (by omega)).trans (hS.block k hk)⟩
        clear hk9 hq
        refine hK.out _ _ hS (fun _ => ?_)
        clear hK K
        try simp only [Act.put, List.setIfInBounds_toArray]
        refine take_any (i := 9) (v := ?v14) rfl (by kernel_rfl) (by kernel_rfl) (by kernel_rfl) (fun _ _ _ h => h) (Or.inl ⟨by rfl, ?hy14⟩) hS ?rest14
        case hy14 => (intro w hSw; go_simp; try with_reducible rfl)
        try simp only [Act.put]
        refine wpAnyH_done (by kernel_rfl) ?_ _
        have HL9 := Lib.hid hq9
        have HG9 := Lib.hid (show W2.heap.size ≤ W2.heap.size from hlow)
        obtain ⟨g, hg⟩ : ∃ g, g = W2.heap.size := ⟨_, rfl⟩
        rw [← hg] at HL9 HG9 ⊢
        clear hg hq9 hlow
        have HB9 := Lib.hid (below_join HB2.out hS)
        clear hS
        have cp := tcopy_any y.a (.slice y.uA y.uN y.uC) (.slice y.pA y.pN y.pC) W9 hyt9.1 hyt9.2 (by rw [HYA.out]; exact HSZ.out)
        have g0 := HL9.out.cell (i := 0) rfl
        have g1 := HL9.out.cell (i := 1) rfl
        have g2 := HL9.out.cell (i := 2) rfl
        have g3 := HL9.out.cell (i := 3) rfl
        have g4 := HL9.out.cell (i := 4) rfl
        clear hyt9
        go_wp2_with fail
        refine cp.mono ?_
        rintro E w10 ⟨u', v', rfl, hon, hb10⟩
        obtain ⟨A1, c1, hA1, _⟩ := hon.1.elim fun d h => h.at_.form
        obtain ⟨A2, c2, hA2, _⟩ := hon.2.elim fun d h => h.at_.form
        change u' = .slice A1 y.a.ks.length c1 at hA1
        change v' = .slice A2 y.a.cs.length c2 at hA2
        subst hA1 hA2
        have HON10 := Lib.hid hon
        have HB10 := Lib.hid (below_join HB9.out hb10)
        have HDD := Lib.hid (HD.out w10 HB10.out)
        have HS9 := Lib.hid (show W0.heap.size ≤ W9.heap.size from HB9.out.size)
        have m0 := HDD.out.cell (i := 0) rfl
        have r0 := HDD.out.free 0
        have m1 := HDD.out.cell (i := 1) rfl
        have r1 := HDD.out.free 1
        have m2 := HDD.out.cell (i := 2) rfl
        have r2 := HDD.out.free 2
        have m3 := HDD.out.cell (i := 3) rfl
        have r3 := HDD.out.free 3
        have m4 := HDD.out.cell (i := 4) rfl
        have r4 := HDD.out.free 4
        clear cp g0 g1 g2 g3 g4 hon hb10
        go_wp2_with fail
        obtain ⟨W6, hW6⟩ : ∃ W6, W6 = setCells w10 (w.heap.size + 1) 0 (.int .i64 y.a.k :: .int .i64 y.a.t :: .slice A1 y.a.ks.length c1 :: .slice A2 y.a.cs.length c2 :: .bool y.a.h :: []) := ⟨_, rfl⟩
        obtain ⟨hl, hb6, hk6, _, _⟩ := stored_many (P := Tryz.prog) (L := (.int .i64 y.a.k :: .int .i64 y.a.t :: .slice A1 y.a.ks.length c1 :: .slice A2 y.a.cs.length c2 :: .bool y.a.h :: [])) (w := w) HDD.out rfl Tryz.underlying26 rfl (by kernel_rfl) (below_join HB0.out HB10.out) (Nat.le_succ _) hW6
        simp only [setCells] at hW6
        rw [← hW6]
        clear hW6
        refine bodyPost_ret (v := .tuple #[.agg (.int .i64 y.a.k :: .int .i64 y.a.t :: .slice A1 y.a.ks.length c1 :: .slice A2 y.a.cs.length c2 :: .bool y.a.h :: []).toArray, .bool D]) (results_cell_tmp rfl rfl rfl hl) rfl ?_
        exact ⟨y.a, _, _, HYA.out.trans HRE.out, by rw [HDE.out], HON10.out.keep hk6.size (fun k hk hlt => ⟨hk6.same k hlt (by have := HS0.out; have := HS9.out; omega), by have := HS0.out; have := HS9.out; omega⟩), hb6⟩
    · have hnb : (m == H) = false := by rw [hm, HH.out]; simp; omega
      have HM := Lib.hid (show m = (q : Int) + 1 from by rw [hm]; simp)
      clear hm
      go_wp2_with fail
      rw [← HW2.out]
      go_roundw
      case rel => exact ⟨q + 1, by omega, by rw [show (q : Int) + 1 = ((q + 1 : Nat) : Int) by simp], HB12.out⟩
      case measure => simp [intOf]; omega
end Go.Proofs.YtbddhkgbpjhhaaaGreatDoor
