/-
  LAID TOGETHER, BY PROGRAM, of: Predq, Predr, Preds, Predt, Predu, Ckn, Cko.
-/
import Derived.Test.YtbddhkgbpjhhaaaGreatDoorGOwn
import Derived.Test.YtbddhkgbpjhhaaaGreatDoorGPl2
import Derived.Test.YtbddhkgbpjhhaaaGreatDoorGTreeA
import Derived.Test.YtbddhkgbpjhhaaaGreatDoorGBase
import Derived.Test.YtbddhkgbpjhhaaaGreatDoorGPred
import Derived.Deep.Cut
import Derived.Deep.RegionHeld3
namespace Go.Proofs.YtbddhkgbpjhhaaaGreatDoor
open Go.RowKit Go.Sort
set_option maxHeartbeats 3200000
end Go.Proofs.YtbddhkgbpjhhaaaGreatDoor
namespace Go.Proofs.YtbddhkgbpjhhaaaGreatDoor
open Go.RowKit Go.Sort
set_option maxHeartbeats 3200000
namespace Pr
end Pr
end Go.Proofs.YtbddhkgbpjhhaaaGreatDoor
namespace Go.Proofs.YtbddhkgbpjhhaaaGreatDoor
open Go.RowKit Go.Sort
set_option maxHeartbeats 3200000
end Go.Proofs.YtbddhkgbpjhhaaaGreatDoor
namespace Go.Proofs.YtbddhkgbpjhhaaaGreatDoor
open Go.RowKit Go.Sort
set_option maxHeartbeats 3200000
theorem ptab1_any (s : Nat) (k t c : Int) (z : Bool) (n : Int) (w : World) (hs : s < 18446744073709551616) :
    Calls Tryz.prog 125 #[.int .u64 (s : Int), .agg #[.int .i64 k, .int .i64 t, .int .i64 c, .bool z, .int .i64 n]] w fun e w' => e = .returned (.int .u64 ((s ||| Te.tables ⟨k, t, c, z, n⟩ : Nat) : Int)) ∧ Below w.heap.size w w' := by
  obtain ⟨W0, hW0⟩ : ∃ W0, W0 = w.alloc (Obj.cells #[.int .i64 k, .int .i64 t, .int .i64 c, .bool z, .int .i64 n] 55) := ⟨_, rfl⟩
  obtain ⟨l0, hb0⟩ := box_one (cs := [.int .i64 k, .int .i64 t, .int .i64 c, .bool z, .int .i64 n]) hW0
  have cs := ttables_any k t c z n W0
  have ho := u64_or_nat s (Te.tables ⟨k, t, c, z, n⟩) hs (te_tables_lt _)
  generalize Te.tables ⟨k, t, c, z, n⟩ = m at cs ho ⊢
  have HO := Lib.hid ho
  have HW := Lib.hid hW0
  have z0 := l0.cell (i := 0) rfl
  have z1 := l0.cell (i := 1) rfl
  have z2 := l0.cell (i := 2) rfl
  have z3 := l0.cell (i := 3) rfl
  have z4 := l0.cell (i := 4) rfl
  clear hW0 l0 ho hs
  go_enter Tryz.func125, Tryz.ntmps125
  go_upto_region 1 with (fail)
  rw [← HW.out]
  go_wp2_with fail
  refine cs.mono ?_
  rintro e w2 ⟨rfl, hb2⟩
  clear cs z0 z1 z2 z3 z4
  go_wp2_with fail
  go_ret
  exact ⟨ret_int HO.out, below_join hb0 hb2⟩
set_option maxRecDepth 100000 in
theorem pgtab_any (d : Nat) : ∀ (f : Pf) (u : Value) (ps : List Pd) (s0 : Nat) (w : World), PsAt d w u ps → s0 < 18446744073709551616 →
    Calls Tryz.prog 124 #[.agg #[.int .i64 f.k, .int .i64 f.u, .int .i64 f.o, .int .i64 f.a.k, .int .i64 f.a.t, .int .i64 f.a.c, .bool f.a.z, .int .i64 f.a.n, .int .i64 f.b.k, .int .i64 f.b.t, .int .i64 f.b.c, .bool f.b.z, .int .i64 f.b.n, u], .int .u64 (s0 : Int), .func (.func 125) #[] #[]] w
      fun e w' => e = .returned (.int .u64 ((s0 ||| Pr.tables (.mk f ps) : Nat) : Int)) ∧ Below w.heap.size w w' := by
  induction d using Nat.strongRecOn with
  | ind d ih =>
  intro f u ps s0 w hu hs0
  obtain ⟨A, c, rfl, hl⟩ := hu.form
  obtain ⟨W0, hW0⟩ : ∃ W0, W0 = w.alloc (Obj.cells #[.int .i64 f.k, .int .i64 f.u, .int .i64 f.o, .int .i64 f.a.k, .int .i64 f.a.t, .int .i64 f.a.c, .bool f.a.z, .int .i64 f.a.n, .int .i64 f.b.k, .int .i64 f.b.t, .int .i64 f.b.c, .bool f.b.z, .int .i64 f.b.n, .slice A ps.length c] 57) := ⟨_, rfl⟩
  obtain ⟨l0, p0, hb0⟩ := pd_box hW0
  have HU := Lib.hid (hu.below hb0 (Nat.le_refl _))
  have HW := Lib.hid hW0
  have IH := Lib.hid ih
  have HP := Lib.hid p0
  have HL := Lib.hid l0.lt
  obtain ⟨ta, hta⟩ : ∃ ta, ta = s0 ||| Te.tables f.a := ⟨_, rfl⟩
  obtain ⟨tb, htb⟩ : ∃ tb, tb = ta ||| Te.tables f.b := ⟨_, rfl⟩
  have hta1 : ta < 18446744073709551616 := by rw [hta]; exact or_lt hs0 (te_tables_lt _)
  have htb1 : tb < 18446744073709551616 := by rw [htb]; exact or_lt hta1 (te_tables_lt _)
  have c1 := in_class (W0 := W0) fun W _ => ptab1_any s0 f.a.k f.a.t f.a.c f.a.z f.a.n W hs0
  have c2 := in_class (W0 := W0) fun W _ => ptab1_any ta f.b.k f.b.t f.b.c f.b.z f.b.n W hta1
  have e1 : Te.tables ⟨f.a.k, f.a.t, f.a.c, f.a.z, f.a.n⟩ = Te.tables f.a := rfl
  have e2 : Te.tables ⟨f.b.k, f.b.t, f.b.c, f.b.z, f.b.n⟩ = Te.tables f.b := rfl
  rw [e1, ← hta] at c1
  rw [e2, ← htb] at c2
  have hTB : tb = s0 ||| (Te.tables f.a ||| Te.tables f.b) := by rw [htb, hta, Nat.or_assoc]
  have HT := Lib.hid hTB
  have HT1 := Lib.hid htb1
  have hT : Pr.tables (.mk f ps) = (Te.tables f.a ||| Te.tables f.b) ||| Pr.tabless ps := Pr.tables_at (.mk f ps)
  have HR := Lib.hid (show s0 ||| Pr.tables (.mk f ps) = tb ||| Pr.tabless ps by rw [hT, hTB]; simp only [Nat.or_assoc])
  have d3 := cell_regrown p0.c3
  have d4 := cell_regrown p0.c4
  have d5 := cell_regrown p0.c5
  have d6 := cell_regrown p0.c6
  have d7 := cell_regrown p0.c7
  have d8 := cell_regrown p0.c8
  have d9 := cell_regrown p0.c9
  have d10 := cell_regrown p0.c10
  have d11 := cell_regrown p0.c11
  have d12 := cell_regrown p0.c12
  clear hW0 ih hu l0 p0 hta htb e1 e2 hTB hta1 htb1 hT hs0
  go_enter Tryz.func124, Tryz.ntmps124
  go_wp2_with fail
  rw [← HW.out]
  refine wp_region_quiet_below (by kernel_rfl) (by kernel_rfl) ?_
  repeat (go_big_quiet_step (with_reducible first | exact c1 _ _ | exact c2 _ _))
  refine wpQuiet_nil ?_
  intro _ hw'
  obtain ⟨⟨dq, osq⟩, hw''⟩ := hw'
  subst hw''
  have hb1 : Below W0.heap.size W0 (grow (redrawn W0 dq) osq) := below_regrown _ _ _
  clear d3 d4 d5 d6 d7 d8 d9 d10 d11 d12 c1 c2
  generalize grow (redrawn W0 dq) osq = w1 at hb1 ⊢
  have k13 := (HP.out.below hb1 (show w.heap.size < W0.heap.size from HL.out)).c13
  obtain ⟨n, hn⟩ : ∃ n, n = ps.length := ⟨_, rfl⟩
  rw [← hn] at hl HU k13 ⊢
  have HN := Lib.hid hn
  clear hn
  go_wp2_with fail
  clear k13
  go_loopw [1, 21] (fun s i wr => ∃ q sv : Nat, q ≤ n ∧ i = .int .i64 q ∧ s = .int .u64 sv ∧ Hid (sv = tb ||| Pr.tabless (ps.take q)) ∧ Below W0.heap.size W0 wr) (fun _ i _ => n - (intOf i).toNat)
  case atStart => exact ⟨0, tb, Nat.zero_le _, rfl, rfl, Lib.hid (by rw [List.take_zero, Pr.tabless, Nat.or_zero]), hb1⟩
  case round =>
    obtain ⟨q, sv, hq, rfl, rfl, hsv, hb⟩ := hrel
    by_cases hlt : q < n
    · obtain ⟨p, gp⟩ : ∃ p, ps[q]? = some p := ⟨ps[q]'(by have := HN.out; omega), List.getElem?_eq_getElem _⟩
      have hu := HU.out
      rw [HN.out] at hu
      obtain ⟨e, b, o, s, v, he, rfl, _, hx⟩ := hu.at_ gp
      obtain ⟨hcell, hps⟩ := hx wr hb
      obtain ⟨A2, c2, rfl, _⟩ := hps.form
      have hb3 : Below W0.heap.size W0 (wr.alloc (Obj.cells #[.int .i64 p.f.k, .int .i64 p.f.u, .int .i64 p.f.o, .int .i64 p.f.a.k, .int .i64 p.f.a.t, .int .i64 p.f.a.c, .bool p.f.a.z, .int .i64 p.f.a.n, .int .i64 p.f.b.k, .int .i64 p.f.b.t, .int .i64 p.f.b.c, .bool p.f.b.z, .int .i64 p.f.b.n, .slice A2 p.ps.length c2] 57)) := below_join hb (below_new _ _)
      have hsl : sv < 18446744073709551616 := by rw [hsv.out]; exact or_lt HT1.out (tabless_lt _)
      have cs := IH.out e he p.f _ p.ps sv _ ((hx _ hb3).2) hsl
      have ht : ps.take (q + 1) = ps.take q ++ [p] := by rw [List.take_add_one, gp]; rfl
      have hpe : Pd.mk p.f p.ps = p := by cases p; rfl
      rw [hpe] at cs
      have H3 := Lib.hid (show sv ||| Pr.tables p = tb ||| Pr.tabless (ps.take (q + 1)) by rw [ht, Pr.tabless_snoc, hsv.out, Nat.or_assoc])
      obtain ⟨x0, x1, x2, x3, x4, x5, x6, x7, x8, x9, x10, x11, x12, x13⟩ := hcell
      clear gp hx hps ht hpe hsl hu
      go_wp2_with fail
      refine cs.mono ?_
      rintro e w2 ⟨rfl, hb2⟩
      have hb' := below_join hb3 hb2
      clear cs x0 x1 x2 x3 x4 x5 x6 x7 x8 x9 x10 x11 x12 x13 hb3 hb2
      go_wp2_with fail
      go_roundw
      case rel => exact ⟨q + 1, _, by omega, by go_num, rfl, H3, hb'⟩
      case measure => simp [intOf]; omega
    · have he : Hid (sv = s0 ||| Pr.tables (.mk f ps)) := Lib.hid (by rw [HR.out, hsv.out, List.take_of_length_le (by have := HN.out; omega)])
      go_wp2_with fail
      go_ret
      exact ⟨ret_int (by rw [he.out]), below_join hb0 hb⟩
theorem ptables_any (d : Nat) (f : Pf) (u : Value) (ps : List Pd) (w : World) (hu : PsAt d w u ps) :
    Calls Tryz.prog 103 #[.agg #[.int .i64 f.k, .int .i64 f.u, .int .i64 f.o, .int .i64 f.a.k, .int .i64 f.a.t, .int .i64 f.a.c, .bool f.a.z, .int .i64 f.a.n, .int .i64 f.b.k, .int .i64 f.b.t, .int .i64 f.b.c, .bool f.b.z, .int .i64 f.b.n, u]] w fun e w' => e = .returned (.int .u64 (Pr.tables (.mk f ps) : Nat)) ∧ Below w.heap.size w w' := by
  obtain ⟨A, c, rfl, hl⟩ := hu.form
  obtain ⟨W0, hW0⟩ : ∃ W0, W0 = w.alloc (Obj.cells #[.int .i64 f.k, .int .i64 f.u, .int .i64 f.o, .int .i64 f.a.k, .int .i64 f.a.t, .int .i64 f.a.c, .bool f.a.z, .int .i64 f.a.n, .int .i64 f.b.k, .int .i64 f.b.t, .int .i64 f.b.c, .bool f.b.z, .int .i64 f.b.n, .slice A ps.length c] 57) := ⟨_, rfl⟩
  obtain ⟨l0, p0, hb0⟩ := pd_box hW0
  have cs := pgtab_any d f _ ps 0 W0 (hu.below hb0 (Nat.le_refl _)) (by decide)
  rw [Nat.zero_or] at cs
  have HW := Lib.hid hW0
  obtain ⟨x0, x1, x2, x3, x4, x5, x6, x7, x8, x9, x10, x11, x12, x13⟩ := p0
  clear hu hW0 l0
  go_enter Tryz.func103, Tryz.ntmps103
  go_upto_region 1 with (fail)
  rw [← HW.out]
  go_wp2_with fail
  refine cs.mono ?_
  rintro e w2 ⟨rfl, hb2⟩
  clear cs x0 x1 x2 x3 x4 x5 x6 x7 x8 x9 x10 x11 x12 x13
  go_wp2_with fail
  go_ret
  exact ⟨rfl, below_join hb0 hb2⟩
end Go.Proofs.YtbddhkgbpjhhaaaGreatDoor
namespace Go.Proofs.YtbddhkgbpjhhaaaGreatDoor
open Go.RowKit Go.Sort
set_option maxHeartbeats 3200000
theorem own_some {w w' : World} {l : List (Int × Int)} {e : Ending} (h : OwnPairs w l e w') (hl : l.length ≤ 1000000) : SomePairs w l e w' := by
  obtain ⟨v, rfl, hown, hb⟩ := h
  refine ⟨v, rfl, ?_, hb⟩
  rcases hown.2 with ⟨rfl, hn⟩ | ⟨g, cap, cur, rfl, _, hg, _⟩
  · refine ⟨none, 0, by rw [hn], hl, fun j x hj => ?_⟩
    rw [List.eq_nil_of_length_eq_zero hn] at hj
    simp at hj
  · refine ⟨some ⟨g, 0, none⟩, cap, rfl, hl, fun j x hj => ⟨g, 0, none, rfl, (Array.getElem?_eq_some_iff.1 hg).1, ?_⟩⟩
    have hc := hown.cells (g := g) rfl
    have key : ∀ (l : List (Int × Int)) (j : Nat) (x : Int × Int), l[j]? = some x → (pairCells l)[j * 2]? = some (.int .i64 x.1) ∧ (pairCells l)[j * 2 + 1]? = some (.int .i64 x.2) := by
      intro l
      induction l with
      | nil => intro j x h; simp at h
      | cons y r ih =>
        intro j x h
        cases j with
        | zero => simp at h; subst h; exact ⟨rfl, rfl⟩
        | succ j =>
          obtain ⟨h1, h2⟩ := ih j x (by simpa using h)
          have e : pairCells (y :: r) = .int .i64 y.1 :: .int .i64 y.2 :: pairCells r := rfl
          rw [e, show (j + 1) * 2 = j * 2 + 2 by omega, show j * 2 + 2 + 1 = j * 2 + 1 + 2 by omega]
          exact ⟨by simpa using h1, by simpa using h2⟩
    obtain ⟨h1, h2⟩ := key l j x hj
    refine ⟨hc _ _ h1, ?_⟩
    rw [add_next]
    exact hc _ _ h2
end Go.Proofs.YtbddhkgbpjhhaaaGreatDoor
namespace Go.Proofs.YtbddhkgbpjhhaaaGreatDoor
open Go.RowKit Go.Sort
set_option maxHeartbeats 1600000
end Go.Proofs.YtbddhkgbpjhhaaaGreatDoor
namespace Go.Proofs.YtbddhkgbpjhhaaaGreatDoor
open Go.RowKit Go.Sort
set_option maxHeartbeats 1600000
end Go.Proofs.YtbddhkgbpjhhaaaGreatDoor
