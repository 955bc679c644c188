/-
  THE CONTRACTS OF THE DOCUMENT's ANSWERS OF LAYER 6: Tables, Size, Same.
-/
import Derived.Test.YthfoagglncimnaaDoorRows
import Derived.Test.YthfoagglncimnaaDoorPds
import Derived.Test.YthfoagglncimnaaDoorTerma
import Derived.Test.YthfoagglncimnaaDoorTurn
namespace Go.Proofs.YthfoagglncimnaaDoor
open Go.RowKit Go.Sort
set_option maxHeartbeats 800000

/-- a predicate's box -/
theorem pd_box {w W0 : World} {T : TypeId} {f : Pf} {u : Value} (h : W0 = w.alloc (Obj.cells (f.cells u).toArray T)) : Lies W0 w.heap.size T (f.cells u) ∧ PdCell W0 ⟨w.heap.size, 0, none⟩ f u ∧ Below w.heap.size w W0 := by
  have l : Lies W0 w.heap.size T (f.cells u) := by rw [h]; exact Lies.new _ _ _
  exact ⟨l, l.pd, by rw [h]; exact below_new _ _⟩
theorem te_tables_lt (x : Tm) : Te.tables x < 18446744073709551616 := by
  unfold Te.tables
  split
  · exact St.ofN_lt _
  · decide
theorem or_lt {x y : Nat} (hx : x < 18446744073709551616) (hy : y < 18446744073709551616) : x ||| y < 18446744073709551616 := Nat.or_lt_two_pow (n := 64) hx hy
mutual
theorem tables_lt : ∀ p : Pd, Pr.tables p < 18446744073709551616
  | .mk f ps => by rw [Pr.tables]; exact or_lt (or_lt (te_tables_lt _) (te_tables_lt _)) (tabless_lt ps)
theorem tabless_lt : ∀ l : List Pd, Pr.tabless l < 18446744073709551616
  | [] => by rw [Pr.tabless]; decide
  | p :: r => by rw [Pr.tabless]; exact or_lt (tables_lt p) (tabless_lt r)
end
set_option maxRecDepth 100000 in
theorem r6tables_any (d : Nat) : ∀ (f : Pf) (u : Value) (ps : List Pd) (w : World), PsAt d w u ps →
    Calls Tryd.prog 16 #[.agg #[.int .i64 f.k, .int .i64 f.u, .int .i64 f.o, .int .i64 f.a.k, .int .i64 f.a.t, .int .i64 f.a.c, .bool f.a.z, .int .i64 f.a.n, .int .i64 f.b.k, .int .i64 f.b.t, .int .i64 f.b.c, .bool f.b.z, .int .i64 f.b.n, u]] w
      fun e w' => e = .returned (.int .u64 (Pr.tables (.mk f ps) : Nat)) ∧ Below w.heap.size w w' := by
  induction d using Nat.strongRecOn with
  | ind d ih =>
  intro f u ps w hu
  obtain ⟨W0, hW0⟩ : ∃ W0, W0 = w.alloc (Obj.cells #[.int .i64 f.k, .int .i64 f.u, .int .i64 f.o, .int .i64 f.a.k, .int .i64 f.a.t, .int .i64 f.a.c, .bool f.a.z, .int .i64 f.a.n, .int .i64 f.b.k, .int .i64 f.b.t, .int .i64 f.b.c, .bool f.b.z, .int .i64 f.b.n, u] 28) := ⟨_, rfl⟩
  obtain ⟨l0, p0, hb0⟩ := pd_box hW0
  have HU := Lib.hid (hu.below hb0 (Nat.le_refl _))
  obtain ⟨A, c, rfl, hl⟩ := hu.form
  have HW := Lib.hid hW0
  have IH := Lib.hid ih
  have HP := Lib.hid p0
  have HL := Lib.hid l0.lt
  have d3 := cell_regrown p0.c3
  have d4 := cell_regrown p0.c4
  have d5 := cell_regrown p0.c5
  have d6 := cell_regrown p0.c6
  have d7 := cell_regrown p0.c7
  have d8 := cell_regrown p0.c8
  have d9 := cell_regrown p0.c9
  have d10 := cell_regrown p0.c10
  have d11 := cell_regrown p0.c11
  have d12 := cell_regrown p0.c12
  have c1 := in_class (W0 := W0) fun W _ => r5tables_any f.a.k f.a.t f.a.c f.a.z f.a.n W
  have c2 := in_class (W0 := W0) fun W _ => r5tables_any f.b.k f.b.t f.b.c f.b.z f.b.n W
  clear hW0 ih hu l0 p0
  go_enter Tryd.func16, Tryd.ntmps16
  go_wp2_with fail
  rw [← HW.out]
  refine wp_region_quiet_below (by kernel_rfl) (by kernel_rfl) ?_
  repeat (go_big_quiet_step (with_reducible first | exact c1 _ _ | exact c2 _ _))
  refine wpQuiet_nil ?_
  intro _ hw'
  obtain ⟨⟨dq, osq⟩, hw''⟩ := hw'
  subst hw''
  have hb1 : Below W0.heap.size W0 (grow (redrawn W0 dq) osq) := below_regrown _ _ _
  clear d3 d4 d5 d6 d7 d8 d9 d10 d11 d12 c1 c2
  generalize grow (redrawn W0 dq) osq = w1 at hb1 ⊢
  go_wp2_with fail
  have ho := u64_or_nat (Te.tables f.a) (Te.tables f.b) (te_tables_lt _) (te_tables_lt _)
  obtain ⟨n, hn⟩ : ∃ n, n = ps.length := ⟨_, rfl⟩
  rw [← hn] at hl HU ⊢
  have HN := Lib.hid hn
  have HO := Lib.hid ho
  clear hn ho
  go_loopw [3, 4] (fun s i wr => ∃ q sv : Nat, q ≤ n ∧ i = .int .i64 q ∧ s = .int .u64 sv ∧ Hid (sv = (Te.tables f.a ||| Te.tables f.b) ||| Pr.tabless (ps.take q)) ∧ Below W0.heap.size W0 wr) (fun _ i _ => n - (intOf i).toNat)
  case atStart => exact ⟨0, _, Nat.zero_le _, rfl, by rw [HO.out], Lib.hid (by rw [List.take_zero, Pr.tabless, Nat.or_zero]), hb1⟩
  case round =>
    obtain ⟨q, sv, hq, rfl, rfl, hsv, hb⟩ := hrel
    have pr := HP.out.below hb (show w.heap.size < W0.heap.size from HL.out)
    have k13 := pr.c13
    rw [← HN.out] at k13
    by_cases hlt : q < n
    · obtain ⟨p, gp⟩ : ∃ p, ps[q]? = some p := ⟨ps[q]'(by have := HN.out; omega), List.getElem?_eq_getElem _⟩
      have hu := HU.out
      rw [HN.out] at hu
      obtain ⟨e, b, o, s, v, he, rfl, _, hx⟩ := hu.at_ gp
      obtain ⟨hcell, hps⟩ := hx wr hb
      have cs := IH.out e he p.f v p.ps wr hps
      have ht : ps.take (q + 1) = ps.take q ++ [p] := by rw [List.take_add_one, gp]; rfl
      have hpe : Pd.mk p.f p.ps = p := by cases p; rfl
      rw [hpe] at cs
      have hsl : sv < 18446744073709551616 := by rw [hsv.out]; exact or_lt (or_lt (te_tables_lt _) (te_tables_lt _)) (tabless_lt _)
      have H2 := Lib.hid (u64_or_nat sv (Pr.tables p) hsl (tables_lt p))
      have H3 := Lib.hid (show sv ||| Pr.tables p = (Te.tables f.a ||| Te.tables f.b) ||| Pr.tabless (ps.take (q + 1)) by rw [ht, Pr.tabless_snoc, hsv.out, Nat.or_assoc])
      obtain ⟨q0, q1, q2, q3, q4, q5, q6, q7, q8, q9, q10, q11, q12, q13⟩ := hcell
      clear gp hx hps ht hpe hsl hu pr
      go_wp2_with fail
      refine cs.mono ?_
      rintro e w2 ⟨rfl, hb2⟩
      have hb' := below_join hb hb2
      clear cs q0 q1 q2 q3 q4 q5 q6 q7 q8 q9 q10 q11 q12 q13 k13
      go_wp2_with fail
      go_roundw
      case rel => exact ⟨q + 1, _, by omega, by go_num, by rw [H2.out], H3, hb'⟩
      case measure => simp [intOf]; omega
    · have he : Hid (sv = Pr.tables (.mk f ps)) := Lib.hid (by rw [hsv.out, List.take_of_length_le (by have := HN.out; omega), Pr.tables_at]; rfl)
      clear pr
      go_wp2_with fail
      go_ret
      exact ⟨ret_int (by rw [he.out]), below_join hb0 hb⟩
set_option maxRecDepth 100000 in
theorem r6size_any (d : Nat) : ∀ (f : Pf) (u : Value) (ps : List Pd) (M : Int) (w : World), PsAt d w u ps → 1 ≤ M → M ≤ 1000000 →
    Calls Tryd.prog 23 #[.agg #[.int .i64 f.k, .int .i64 f.u, .int .i64 f.o, .int .i64 f.a.k, .int .i64 f.a.t, .int .i64 f.a.c, .bool f.a.z, .int .i64 f.a.n, .int .i64 f.b.k, .int .i64 f.b.t, .int .i64 f.b.c, .bool f.b.z, .int .i64 f.b.n, u], .int .i64 M] w
      fun e w' => e = .returned (.int .i64 (min (Pr.size (.mk f ps) : Int) M)) ∧ Below w.heap.size w w' := by
  induction d using Nat.strongRecOn with
  | ind d ih =>
  intro f u ps M w hu hM1 hM2
  obtain ⟨W0, hW0⟩ : ∃ W0, W0 = w.alloc (Obj.cells #[.int .i64 f.k, .int .i64 f.u, .int .i64 f.o, .int .i64 f.a.k, .int .i64 f.a.t, .int .i64 f.a.c, .bool f.a.z, .int .i64 f.a.n, .int .i64 f.b.k, .int .i64 f.b.t, .int .i64 f.b.c, .bool f.b.z, .int .i64 f.b.n, u] 28) := ⟨_, rfl⟩
  obtain ⟨l0, p0, hb0⟩ := pd_box hW0
  have HU := Lib.hid (hu.below hb0 (Nat.le_refl _))
  obtain ⟨A, c, rfl, hl⟩ := hu.form
  have HW := Lib.hid hW0
  have IH := Lib.hid ih
  have HP := Lib.hid p0
  have HL := Lib.hid l0.lt
  obtain ⟨n, hn⟩ : ∃ n, n = ps.length := ⟨_, rfl⟩
  rw [← hn] at hl HU HP HW ⊢
  have HN := Lib.hid hn
  clear hW0 ih hu l0 p0 hn
  go_enter Tryd.func23, Tryd.ntmps23
  go_wp2_with fail
  rw [← HW.out]
  go_loopw [5, 6] (fun s i wr => ∃ (q : Nat) (sv : Int), q ≤ n ∧ i = .int .i64 q ∧ s = .int .i64 sv ∧ 1 ≤ sv ∧ sv ≤ M ∧ Hid (sv = min (1 + (Pr.sizes (ps.take q) : Int)) M) ∧ Below W0.heap.size W0 wr) (fun _ i _ => n - (intOf i).toNat)
  case atStart => exact ⟨0, 1, Nat.zero_le _, rfl, rfl, by omega, by omega, Lib.hid (by rw [List.take_zero, Pr.sizes]; omega), Below.refl _ _⟩
  case round =>
    obtain ⟨q, sv, hq, rfl, rfl, hs1, hs2, hsv, hb⟩ := hrel
    have k13 := (HP.out.below hb (show w.heap.size < W0.heap.size from HL.out)).c13
    by_cases hlt : q < n
    · by_cases hsm : sv < M
      · obtain ⟨p, gp⟩ : ∃ p, ps[q]? = some p := ⟨ps[q]'(by have := HN.out; omega), List.getElem?_eq_getElem _⟩
        have hu := HU.out
        rw [HN.out] at hu
        obtain ⟨e, b, o, s, v, he, rfl, _, hx⟩ := hu.at_ gp
        obtain ⟨hcell, hps⟩ := hx wr hb
        have cs := IH.out e he p.f v p.ps (M - sv) wr hps (by omega) (by omega)
        have ht : ps.take (q + 1) = ps.take q ++ [p] := by rw [List.take_add_one, gp]; rfl
        have hpe : Pd.mk p.f p.ps = p := by cases p; rfl
        rw [hpe] at cs
        have hp1 := Pr.size_pos p
        have hS : Pr.sizes (ps.take (q + 1)) = Pr.sizes (ps.take q) + Pr.size p := by rw [ht, Pr.sizes_snoc]
        obtain ⟨x, hx1⟩ : ∃ x, x = min (Pr.size p : Int) (M - sv) := ⟨_, rfl⟩
        have hx2 : 1 ≤ x := by omega
        have hx3 : x ≤ M - sv := by omega
        have H3 : Hid (sv + x = min (1 + (Pr.sizes (ps.take (q + 1)) : Int)) M) := Lib.hid (by have := hsv.out; omega)
        rw [← hx1] at cs
        obtain ⟨q0, q1, q2, q3, q4, q5, q6, q7, q8, q9, q10, q11, q12, q13⟩ := hcell
        clear gp hx hps ht hpe hu hp1 hS hx1
        go_wp2_with fail
        refine cs.mono ?_
        rintro e w2 ⟨rfl, hb2⟩
        have hb' := below_join hb hb2
        clear cs q0 q1 q2 q3 q4 q5 q6 q7 q8 q9 q10 q11 q12 q13 k13
        go_wp2_with fail
        go_roundw
        case rel => exact ⟨q + 1, sv + x, by omega, by go_num, rfl, by omega, by omega, H3, hb'⟩
        case measure => simp [intOf]; omega
      · have hx : (ps.take q).length ≤ ps.length := by rw [List.length_take]; omega
        have hle : Pr.sizes (ps.take q) ≤ Pr.sizes ps := Pr.sizes_take q ps
        have he : Hid (sv = min (Pr.size (.mk f ps) : Int) M) := Lib.hid (by rw [Pr.size_at]; have := hsv.out; show sv = min ((1 + Pr.sizes ps : Nat) : Int) M; omega)
        clear hx hle
        go_wp2_with fail
        go_ret
        exact ⟨ret_int he.out, below_join hb0 hb⟩
    · have he : Hid (sv = min (Pr.size (.mk f ps) : Int) M) := Lib.hid (by
        rw [Pr.size_at]
        have h := hsv.out
        rw [List.take_of_length_le (by have := HN.out; omega)] at h
        show sv = min ((1 + Pr.sizes ps : Nat) : Int) M
        omega)
      go_wp2_with fail
      go_ret
      exact ⟨ret_int he.out, below_join hb0 hb⟩
end Go.Proofs.YthfoagglncimnaaDoor
