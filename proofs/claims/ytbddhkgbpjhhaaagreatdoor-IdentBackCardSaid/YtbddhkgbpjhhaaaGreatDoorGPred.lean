/-
  LAID TOGETHER, BY PROGRAM, of: Pds, Preda, Predb, Predc, Predd, Prede, Teq, Predf, Predg, Predh.
-/
import Derived.Test.YtbddhkgbpjhhaaaGreatDoorGPlain
import Derived.Test.YtbddhkgbpjhhaaaGreatDoorGBase
import Derived.Test.YtbddhkgbpjhhaaaGreatDoorRows
import Derived.Test.YtbddhkgbpjhhaaaGreatDoorGTerms
import Derived.Test.YtbddhkgbpjhhaaaGreatDoorGLogs
import Derived.OwnWalk
import Derived.Laws.AppendOwnNone
import Derived.Deep.Cut
import Derived.Deep.Onto
import Derived.WalkKit
import Derived.WalkSpells
namespace Go.Proofs.YtbddhkgbpjhhaaaGreatDoor
open Go.RowKit
def Pf.cells (f : Pf) (u : Value) : List Value := [.int .i64 f.k, .int .i64 f.u, .int .i64 f.o, .int .i64 f.a.k, .int .i64 f.a.t, .int .i64 f.a.c, .bool f.a.z, .int .i64 f.a.n, .int .i64 f.b.k, .int .i64 f.b.t, .int .i64 f.b.c, .bool f.b.z, .int .i64 f.b.n, u]
structure PdCell (w : World) (X : Addr) (f : Pf) (u : Value) : Prop where
  c0 : w.cell? X = some (.int .i64 f.k)
  c1 : w.cell? ⟨X.block, X.off + 1, none⟩ = some (.int .i64 f.u)
  c2 : w.cell? ⟨X.block, X.off + 2, none⟩ = some (.int .i64 f.o)
  c3 : w.cell? ⟨X.block, X.off + 3, none⟩ = some (.int .i64 f.a.k)
  c4 : w.cell? ⟨X.block, X.off + 4, none⟩ = some (.int .i64 f.a.t)
  c5 : w.cell? ⟨X.block, X.off + 5, none⟩ = some (.int .i64 f.a.c)
  c6 : w.cell? ⟨X.block, X.off + 6, none⟩ = some (.bool f.a.z)
  c7 : w.cell? ⟨X.block, X.off + 7, none⟩ = some (.int .i64 f.a.n)
  c8 : w.cell? ⟨X.block, X.off + 8, none⟩ = some (.int .i64 f.b.k)
  c9 : w.cell? ⟨X.block, X.off + 9, none⟩ = some (.int .i64 f.b.t)
  c10 : w.cell? ⟨X.block, X.off + 10, none⟩ = some (.int .i64 f.b.c)
  c11 : w.cell? ⟨X.block, X.off + 11, none⟩ = some (.bool f.b.z)
  c12 : w.cell? ⟨X.block, X.off + 12, none⟩ = some (.int .i64 f.b.n)
  c13 : w.cell? ⟨X.block, X.off + 13, none⟩ = some u
theorem PdCell.below {w w' : World} {B : Nat} {X : Addr} {f : Pf} {u : Value} (h : PdCell w X f u) (hb : Below B w w') (hX : X.block < B) : PdCell w' X f u :=
  have k : ∀ n, w'.cell? ⟨X.block, n, none⟩ = w.cell? ⟨X.block, n, none⟩ := fun n => hb.cell (p := ⟨X.block, n, none⟩) hX
  ⟨(hb.cell hX).trans h.c0, (k _).trans h.c1, (k _).trans h.c2, (k _).trans h.c3, (k _).trans h.c4, (k _).trans h.c5, (k _).trans h.c6, (k _).trans h.c7, (k _).trans h.c8, (k _).trans h.c9, (k _).trans h.c10, (k _).trans h.c11, (k _).trans h.c12, (k _).trans h.c13⟩
theorem Lies.pd {w : World} {g : Nat} {T : TypeId} {f : Pf} {u : Value} (h : Lies w g T (f.cells u)) : PdCell w ⟨g, 0, none⟩ f u :=
  ⟨h.cell (i := 0) rfl, h.cell (i := 1) rfl, h.cell (i := 2) rfl, h.cell (i := 3) rfl, h.cell (i := 4) rfl, h.cell (i := 5) rfl, h.cell (i := 6) rfl, h.cell (i := 7) rfl, h.cell (i := 8) rfl, h.cell (i := 9) rfl, h.cell (i := 10) rfl, h.cell (i := 11) rfl, h.cell (i := 12) rfl, h.cell (i := 13) rfl⟩
def PsAt : Nat → World → Value → List Pd → Prop
  | 0, _, v, l => l = [] ∧ ∃ A c, v = .slice A 0 c
  | d + 1, w, v, l => ∃ A c, v = .slice A l.length c ∧ l.length ≤ 9223372036854775807 ∧ ∀ (j : Nat) (p : Pd), l[j]? = some p → ∃ b o s u, A = some ⟨b, o, s⟩ ∧ b < w.heap.size ∧ PdCell w ((⟨b, o, s⟩ : Addr).add (j * 14)) p.f u ∧ PsAt d w u p.ps
theorem PsAt.form {d : Nat} {w : World} {v : Value} {l : List Pd} (h : PsAt d w v l) : ∃ A c, v = .slice A l.length c ∧ l.length ≤ 9223372036854775807 := by
  cases d with
  | zero => obtain ⟨rfl, A, c, rfl⟩ := h; exact ⟨A, c, rfl, by simp⟩
  | succ d => obtain ⟨A, c, rfl, hl, _⟩ := h; exact ⟨A, c, rfl, hl⟩
theorem PsAt.below {d : Nat} : ∀ {w w' : World} {B : Nat} {v : Value} {l : List Pd}, PsAt d w v l → Below B w w' → w.heap.size ≤ B → PsAt d w' v l := by
  induction d with
  | zero => intro w w' B v l h _ _; exact h
  | succ d ih =>
    intro w w' B v l h hb hB
    obtain ⟨A, c, hv, hc, hx⟩ := h
    refine ⟨A, c, hv, hc, fun j p hj => ?_⟩
    obtain ⟨b, o, s, u, hA, hlt, hcell, hp⟩ := hx j p hj
    exact ⟨b, o, s, u, hA, Nat.lt_of_lt_of_le hlt hb.size, hcell.below hb (by rw [add_block]; show b < B; omega), ih hp hb hB⟩
theorem PsAt.more {d : Nat} : ∀ {w : World} {v : Value} {l : List Pd}, PsAt d w v l → PsAt (d + 1) w v l := by
  induction d with
  | zero =>
    intro w v l h
    obtain ⟨rfl, A, c, rfl⟩ := h
    exact ⟨A, c, rfl, by simp, fun j p hj => by simp at hj⟩
  | succ d ih =>
    intro w v l h
    obtain ⟨A, c, hv, hc, hx⟩ := h
    refine ⟨A, c, hv, hc, fun j p hj => ?_⟩
    obtain ⟨b, o, s, u, hA, hlt, hcell, hp⟩ := hx j p hj
    exact ⟨b, o, s, u, hA, hlt, hcell, ih hp⟩
theorem PsAt.mono {d e : Nat} {w : World} {v : Value} {l : List Pd} (h : PsAt d w v l) (hd : d ≤ e) : PsAt e w v l := by
  induction hd with
  | refl => exact h
  | step _ ih => exact ih.more
theorem PsAt.at_ {d : Nat} {w : World} {A : Option Addr} {c : Nat} {l : List Pd} {j : Nat} {p : Pd} (h : PsAt d w (.slice A l.length c) l) (hj : l[j]? = some p) :
    ∃ e b o s u, e < d ∧ A = some ⟨b, o, s⟩ ∧ b < w.heap.size ∧ ∀ W, Below w.heap.size w W → PdCell W ((⟨b, o, s⟩ : Addr).add (j * 14)) p.f u ∧ PsAt e W u p.ps := by
  cases d with
  | zero => obtain ⟨rfl, _⟩ := h; simp at hj
  | succ d =>
    obtain ⟨A', c', hv, _, hx⟩ := h
    cases hv
    obtain ⟨b, o, s, u, hA, hlt, hcell, hp⟩ := hx j p hj
    exact ⟨d, b, o, s, u, Nat.lt_succ_self d, hA, hlt, fun W hb => ⟨hcell.below hb (by rw [add_block]; exact hlt), hp.below hb (Nat.le_refl _)⟩⟩
end Go.Proofs.YtbddhkgbpjhhaaaGreatDoor
namespace Go.Proofs.YtbddhkgbpjhhaaaGreatDoor
open Go.RowKit Go.Sort
set_option maxHeartbeats 800000
theorem pd_box {w W0 : World} {T : TypeId} {f : Pf} {u : Value} (h : W0 = w.alloc (Obj.cells (f.cells u).toArray T)) : Lies W0 w.heap.size T (f.cells u) ∧ PdCell W0 ⟨w.heap.size, 0, none⟩ f u ∧ Below w.heap.size w W0 := by
  have l : Lies W0 w.heap.size T (f.cells u) := by rw [h]; exact Lies.new _ _ _
  exact ⟨l, l.pd, by rw [h]; exact below_new _ _⟩
theorem te_tables_lt (x : Tm) : Te.tables x < 18446744073709551616 := by
  unfold Te.tables
  split
  · exact St.ofN_lt _
  · decide
theorem or_lt {x y : Nat} (hx : x < 18446744073709551616) (hy : y < 18446744073709551616) : x ||| y < 18446744073709551616 := Nat.or_lt_two_pow (n := 64) hx hy
mutual
theorem tables_lt : ∀ p : Pd, Pr.tables p < 18446744073709551616
  | .mk f ps => by rw [Pr.tables]; exact or_lt (or_lt (te_tables_lt _) (te_tables_lt _)) (tabless_lt ps)
theorem tabless_lt : ∀ l : List Pd, Pr.tabless l < 18446744073709551616
  | [] => by rw [Pr.tabless]; decide
  | p :: r => by rw [Pr.tabless]; exact or_lt (tables_lt p) (tabless_lt r)
end
set_option maxRecDepth 100000 in
theorem r6tables_any (d : Nat) : ∀ (f : Pf) (u : Value) (ps : List Pd) (w : World), PsAt d w u ps →
    Calls Tryz.prog 132 #[.agg #[.int .i64 f.k, .int .i64 f.u, .int .i64 f.o, .int .i64 f.a.k, .int .i64 f.a.t, .int .i64 f.a.c, .bool f.a.z, .int .i64 f.a.n, .int .i64 f.b.k, .int .i64 f.b.t, .int .i64 f.b.c, .bool f.b.z, .int .i64 f.b.n, u]] w
      fun e w' => e = .returned (.int .u64 (Pr.tables (.mk f ps) : Nat)) ∧ Below w.heap.size w w' := by
  induction d using Nat.strongRecOn with
  | ind d ih =>
  intro f u ps w hu
  obtain ⟨W0, hW0⟩ : ∃ W0, W0 = w.alloc (Obj.cells #[.int .i64 f.k, .int .i64 f.u, .int .i64 f.o, .int .i64 f.a.k, .int .i64 f.a.t, .int .i64 f.a.c, .bool f.a.z, .int .i64 f.a.n, .int .i64 f.b.k, .int .i64 f.b.t, .int .i64 f.b.c, .bool f.b.z, .int .i64 f.b.n, u] 57) := ⟨_, rfl⟩
  obtain ⟨l0, p0, hb0⟩ := pd_box hW0
  have HU := Lib.hid (hu.below hb0 (Nat.le_refl _))
  obtain ⟨A, c, rfl, hl⟩ := hu.form
  have HW := Lib.hid hW0
  have IH := Lib.hid ih
  have HP := Lib.hid p0
  have HL := Lib.hid l0.lt
  have d3 := cell_regrown p0.c3
  have d4 := cell_regrown p0.c4
  have d5 := cell_regrown p0.c5
  have d6 := cell_regrown p0.c6
  have d7 := cell_regrown p0.c7
  have d8 := cell_regrown p0.c8
  have d9 := cell_regrown p0.c9
  have d10 := cell_regrown p0.c10
  have d11 := cell_regrown p0.c11
  have d12 := cell_regrown p0.c12
  have c1 := in_class (W0 := W0) fun W _ => r5tables_any f.a.k f.a.t f.a.c f.a.z f.a.n W
  have c2 := in_class (W0 := W0) fun W _ => r5tables_any f.b.k f.b.t f.b.c f.b.z f.b.n W
  clear hW0 ih hu l0 p0
  go_enter Tryz.func132, Tryz.ntmps132
  go_wp2_with fail
  rw [← HW.out]
  refine wp_region_quiet_below (by kernel_rfl) (by kernel_rfl) ?_
  repeat (go_big_quiet_step (with_reducible first | exact c1 _ _ | exact c2 _ _))
  refine wpQuiet_nil ?_
  intro _ hw'
  obtain ⟨⟨dq, osq⟩, hw''⟩ := hw'
  subst hw''
  have hb1 : Below W0.heap.size W0 (grow (redrawn W0 dq) osq) := below_regrown _ _ _
  clear d3 d4 d5 d6 d7 d8 d9 d10 d11 d12 c1 c2
  generalize grow (redrawn W0 dq) osq = w1 at hb1 ⊢
  go_wp2_with fail
  have ho := u64_or_nat (Te.tables f.a) (Te.tables f.b) (te_tables_lt _) (te_tables_lt _)
  obtain ⟨n, hn⟩ : ∃ n, n = ps.length := ⟨_, rfl⟩
  rw [← hn] at hl HU ⊢
  have HN := Lib.hid hn
  have HO := Lib.hid ho
  clear hn ho
  go_loopw [3, 4] (fun s i wr => ∃ q sv : Nat, q ≤ n ∧ i = .int .i64 q ∧ s = .int .u64 sv ∧ Hid (sv = (Te.tables f.a ||| Te.tables f.b) ||| Pr.tabless (ps.take q)) ∧ Below W0.heap.size W0 wr) (fun _ i _ => n - (intOf i).toNat)
  case atStart => exact ⟨0, _, Nat.zero_le _, rfl, by rw [HO.out], Lib.hid (by rw [List.take_zero, Pr.tabless, Nat.or_zero]), hb1⟩
  case round =>
    obtain ⟨q, sv, hq, rfl, rfl, hsv, hb⟩ := hrel
    have pr := HP.out.below hb (show w.heap.size < W0.heap.size from HL.out)
    have k13 := pr.c13
    rw [← HN.out] at k13
    by_cases hlt : q < n
    · obtain ⟨p, gp⟩ : ∃ p, ps[q]? = some p := ⟨ps[q]'(by have := HN.out; omega), List.getElem?_eq_getElem _⟩
      have hu := HU.out
      rw [HN.out] at hu
      obtain ⟨e, b, o, s, v, he, rfl, _, hx⟩ := hu.at_ gp
      obtain ⟨hcell, hps⟩ := hx wr hb
      have cs := IH.out e he p.f v p.ps wr hps
      have ht : ps.take (q + 1) = ps.take q ++ [p] := by rw [List.take_add_one, gp]; rfl
      have hpe : Pd.mk p.f p.ps = p := by cases p; rfl
      rw [hpe] at cs
      have hsl : sv < 18446744073709551616 := by rw [hsv.out]; exact or_lt (or_lt (te_tables_lt _) (te_tables_lt _)) (tabless_lt _)
      have H2 := Lib.hid (u64_or_nat sv (Pr.tables p) hsl (tables_lt p))
      have H3 := Lib.hid (show sv ||| Pr.tables p = (Te.tables f.a ||| Te.tables f.b) ||| Pr.tabless (ps.take (q + 1)) by rw [ht, Pr.tabless_snoc, hsv.out, Nat.or_assoc])
      obtain ⟨q0, q1, q2, q3, q4, q5, q6, q7, q8, q9, q10, q11, q12, q13⟩ := hcell
      clear gp hx hps ht hpe hsl hu pr
      go_wp2_with fail
      refine cs.mono ?_
      rintro e w2 ⟨rfl, hb2⟩
      have hb' := below_join hb hb2
      clear cs q0 q1 q2 q3 q4 q5 q6 q7 q8 q9 q10 q11 q12 q13 k13
      go_wp2_with fail
      go_roundw
      case rel => exact ⟨q + 1, _, by omega, by go_num, by rw [H2.out], H3, hb'⟩
      case measure => simp [intOf]; omega
    · have he : Hid (sv = Pr.tables (.mk f ps)) := Lib.hid (by rw [hsv.out, List.take_of_length_le (by have := HN.out; omega), Pr.tables_at]; rfl)
      clear pr
      go_wp2_with fail
      go_ret
      exact ⟨ret_int (by rw [he.out]), below_join hb0 hb⟩
set_option maxRecDepth 100000 in
theorem r6size_any (d : Nat) : ∀ (f : Pf) (u : Value) (ps : List Pd) (M : Int) (w : World), PsAt d w u ps → 1 ≤ M → M ≤ 1000000 →
    Calls Tryz.prog 66 #[.agg #[.int .i64 f.k, .int .i64 f.u, .int .i64 f.o, .int .i64 f.a.k, .int .i64 f.a.t, .int .i64 f.a.c, .bool f.a.z, .int .i64 f.a.n, .int .i64 f.b.k, .int .i64 f.b.t, .int .i64 f.b.c, .bool f.b.z, .int .i64 f.b.n, u], .int .i64 M] w
      fun e w' => e = .returned (.int .i64 (min (Pr.size (.mk f ps) : Int) M)) ∧ Below w.heap.size w w' := by
  induction d using Nat.strongRecOn with
  | ind d ih =>
  intro f u ps M w hu hM1 hM2
  obtain ⟨W0, hW0⟩ : ∃ W0, W0 = w.alloc (Obj.cells #[.int .i64 f.k, .int .i64 f.u, .int .i64 f.o, .int .i64 f.a.k, .int .i64 f.a.t, .int .i64 f.a.c, .bool f.a.z, .int .i64 f.a.n, .int .i64 f.b.k, .int .i64 f.b.t, .int .i64 f.b.c, .bool f.b.z, .int .i64 f.b.n, u] 57) := ⟨_, rfl⟩
  obtain ⟨l0, p0, hb0⟩ := pd_box hW0
  have HU := Lib.hid (hu.below hb0 (Nat.le_refl _))
  obtain ⟨A, c, rfl, hl⟩ := hu.form
  have HW := Lib.hid hW0
  have IH := Lib.hid ih
  have HP := Lib.hid p0
  have HL := Lib.hid l0.lt
  obtain ⟨n, hn⟩ : ∃ n, n = ps.length := ⟨_, rfl⟩
  rw [← hn] at hl HU HP HW ⊢
  have HN := Lib.hid hn
  clear hW0 ih hu l0 p0 hn
  go_enter Tryz.func66, Tryz.ntmps66
  go_wp2_with fail
  rw [← HW.out]
  go_loopw [5, 6] (fun s i wr => ∃ (q : Nat) (sv : Int), q ≤ n ∧ i = .int .i64 q ∧ s = .int .i64 sv ∧ 1 ≤ sv ∧ sv ≤ M ∧ Hid (sv = min (1 + (Pr.sizes (ps.take q) : Int)) M) ∧ Below W0.heap.size W0 wr) (fun _ i _ => n - (intOf i).toNat)
  case atStart => exact ⟨0, 1, Nat.zero_le _, rfl, rfl, by omega, by omega, Lib.hid (by rw [List.take_zero, Pr.sizes]; omega), Below.refl _ _⟩
  case round =>
    obtain ⟨q, sv, hq, rfl, rfl, hs1, hs2, hsv, hb⟩ := hrel
    have k13 := (HP.out.below hb (show w.heap.size < W0.heap.size from HL.out)).c13
    by_cases hlt : q < n
    · by_cases hsm : sv < M
      · obtain ⟨p, gp⟩ : ∃ p, ps[q]? = some p := ⟨ps[q]'(by have := HN.out; omega), List.getElem?_eq_getElem _⟩
        have hu := HU.out
        rw [HN.out] at hu
        obtain ⟨e, b, o, s, v, he, rfl, _, hx⟩ := hu.at_ gp
        obtain ⟨hcell, hps⟩ := hx wr hb
        have cs := IH.out e he p.f v p.ps (M - sv) wr hps (by omega) (by omega)
        have ht : ps.take (q + 1) = ps.take q ++ [p] := by rw [List.take_add_one, gp]; rfl
        have hpe : Pd.mk p.f p.ps = p := by cases p; rfl
        rw [hpe] at cs
        have hp1 := Pr.size_pos p
        have hS : Pr.sizes (ps.take (q + 1)) = Pr.sizes (ps.take q) + Pr.size p := by rw [ht, Pr.sizes_snoc]
        obtain ⟨x, hx1⟩ : ∃ x, x = min (Pr.size p : Int) (M - sv) := ⟨_, rfl⟩
        have hx2 : 1 ≤ x := by omega
        have hx3 : x ≤ M - sv := by omega
        have H3 : Hid (sv + x = min (1 + (Pr.sizes (ps.take (q + 1)) : Int)) M) := Lib.hid (by have := hsv.out; omega)
        rw [← hx1] at cs
        obtain ⟨q0, q1, q2, q3, q4, q5, q6, q7, q8, q9, q10, q11, q12, q13⟩ := hcell
        clear gp hx hps ht hpe hu hp1 hS hx1
        go_wp2_with fail
        refine cs.mono ?_
        rintro e w2 ⟨rfl, hb2⟩
        have hb' := below_join hb hb2
        clear cs q0 q1 q2 q3 q4 q5 q6 q7 q8 q9 q10 q11 q12 q13 k13
        go_wp2_with fail
        go_roundw
        case rel => exact ⟨q + 1, sv + x, by omega, by go_num, rfl, by omega, by omega, H3, hb'⟩
        case measure => simp [intOf]; omega
      · have hx : (ps.take q).length ≤ ps.length := by rw [List.length_take]; omega
        have hle : Pr.sizes (ps.take q) ≤ Pr.sizes ps := Pr.sizes_take q ps
        have he : Hid (sv = min (Pr.size (.mk f ps) : Int) M) := Lib.hid (by rw [Pr.size_at]; have := hsv.out; show sv = min ((1 + Pr.sizes ps : Nat) : Int) M; omega)
        clear hx hle
        go_wp2_with fail
        go_ret
        exact ⟨ret_int he.out, below_join hb0 hb⟩
    · have he : Hid (sv = min (Pr.size (.mk f ps) : Int) M) := Lib.hid (by
        rw [Pr.size_at]
        have h := hsv.out
        rw [List.take_of_length_le (by have := HN.out; omega)] at h
        show sv = min ((1 + Pr.sizes ps : Nat) : Int) M
        omega)
      go_wp2_with fail
      go_ret
      exact ⟨ret_int he.out, below_join hb0 hb⟩
end Go.Proofs.YtbddhkgbpjhhaaaGreatDoor
namespace Go.Proofs.YtbddhkgbpjhhaaaGreatDoor
open Go.RowKit Go.Sort
set_option maxHeartbeats 3200000
theorem fsame_eq {f g : Pf} (h : Pr.fsame f g = true) : f = g := by
  obtain ⟨k, u, o, ⟨a1, a2, a3, a4, a5⟩, ⟨b1, b2, b3, b4, b5⟩⟩ := f
  obtain ⟨k', u', o', ⟨c1, c2, c3, c4, c5⟩, ⟨d1, d2, d3, d4, d5⟩⟩ := g
  simp [Pr.fsame, Te.same] at h
  obtain ⟨⟨⟨⟨rfl, rfl⟩, rfl⟩, ⟨⟨⟨rfl, rfl⟩, rfl⟩, rfl⟩, rfl⟩, ⟨⟨⟨rfl, rfl⟩, rfl⟩, rfl⟩, rfl⟩ := h
  rfl
theorem pd_boxes {w W0 : World} {T : TypeId} {f g : Pf} {u v : Value} (h : W0 = (w.alloc (Obj.cells (f.cells u).toArray T)).alloc (Obj.cells (g.cells v).toArray T)) :
    PdCell W0 ⟨w.heap.size, 0, none⟩ f u ∧ PdCell W0 ⟨w.heap.size + 1, 0, none⟩ g v ∧ Below w.heap.size w W0 ∧ w.heap.size + 1 < W0.heap.size := by
  obtain ⟨l1, l2, hb⟩ := box_two (cs := f.cells u) (ds := g.cells v) h
  exact ⟨l1.pd, l2.pd, hb, l2.lt⟩
theorem r6same_field (f g : Pf) (A B : Option Addr) (n m c e : Nat) (w : World) (h : Pr.fsame f g = false) :
    Calls Tryz.prog 84 #[.agg #[.int .i64 f.k, .int .i64 f.u, .int .i64 f.o, .int .i64 f.a.k, .int .i64 f.a.t, .int .i64 f.a.c, .bool f.a.z, .int .i64 f.a.n, .int .i64 f.b.k, .int .i64 f.b.t, .int .i64 f.b.c, .bool f.b.z, .int .i64 f.b.n, .slice A n c], .agg #[.int .i64 g.k, .int .i64 g.u, .int .i64 g.o, .int .i64 g.a.k, .int .i64 g.a.t, .int .i64 g.a.c, .bool g.a.z, .int .i64 g.a.n, .int .i64 g.b.k, .int .i64 g.b.t, .int .i64 g.b.c, .bool g.b.z, .int .i64 g.b.n, .slice B m e]] w fun e w' => e = .returned (.bool false) ∧ Below w.heap.size w w' := by
  obtain ⟨fk, fu, fo, ⟨fak, fat, fac, faz, fan⟩, ⟨fbk, fbt, fbc, fbz, fbn⟩⟩ := f
  obtain ⟨gk, gu, go, ⟨gak, gat, gac, gaz, gan⟩, ⟨gbk, gbt, gbc, gbz, gbn⟩⟩ := g
  dsimp only
  have hd : (¬ fk = gk) ∨ (fk = gk ∧ ¬ fu = gu) ∨ (fk = gk ∧ fu = gu ∧ ¬ fo = go) ∨ (fk = gk ∧ fu = gu ∧ fo = go ∧ ¬ fak = gak) ∨ (fk = gk ∧ fu = gu ∧ fo = go ∧ fak = gak ∧ ¬ fat = gat) ∨ (fk = gk ∧ fu = gu ∧ fo = go ∧ fak = gak ∧ fat = gat ∧ ¬ fac = gac) ∨ (fk = gk ∧ fu = gu ∧ fo = go ∧ fak = gak ∧ fat = gat ∧ fac = gac ∧ ¬ faz = gaz) ∨ (fk = gk ∧ fu = gu ∧ fo = go ∧ fak = gak ∧ fat = gat ∧ fac = gac ∧ faz = gaz ∧ ¬ fan = gan) ∨ (fk = gk ∧ fu = gu ∧ fo = go ∧ fak = gak ∧ fat = gat ∧ fac = gac ∧ faz = gaz ∧ fan = gan ∧ ¬ fbk = gbk) ∨ (fk = gk ∧ fu = gu ∧ fo = go ∧ fak = gak ∧ fat = gat ∧ fac = gac ∧ faz = gaz ∧ fan = gan ∧ fbk = gbk ∧ ¬ fbt = gbt) ∨ (fk = gk ∧ fu = gu ∧ fo = go ∧ fak = gak ∧ fat = gat ∧ fac = gac ∧ faz = gaz ∧ fan = gan ∧ fbk = gbk ∧ fbt = gbt ∧ ¬ fbc = gbc) ∨ (fk = gk ∧ fu = gu ∧ fo = go ∧ fak = gak ∧ fat = gat ∧ fac = gac ∧ faz = gaz ∧ fan = gan ∧ fbk = gbk ∧ fbt = gbt ∧ fbc = gbc ∧ ¬ fbz = gbz) ∨ (fk = gk ∧ fu = gu ∧ fo = go ∧ fak = gak ∧ fat = gat ∧ fac = gac ∧ faz = gaz ∧ fan = gan ∧ fbk = gbk ∧ fbt = gbt ∧ fbc = gbc ∧ fbz = gbz ∧ ¬ fbn = gbn) := by
    simp only [Pr.fsame, Te.same] at h
    by_cases e0 : fk = gk
    rotate_left
    · left; exact e0
    by_cases e1 : fu = gu
    rotate_left
    · right; left; exact ⟨e0, e1⟩
    by_cases e2 : fo = go
    rotate_left
    · right; right; left; exact ⟨e0, e1, e2⟩
    by_cases e3 : fak = gak
    rotate_left
    · right; right; right; left; exact ⟨e0, e1, e2, e3⟩
    by_cases e4 : fat = gat
    rotate_left
    · right; right; right; right; left; exact ⟨e0, e1, e2, e3, e4⟩
    by_cases e5 : fac = gac
    rotate_left
    · right; right; right; right; right; left; exact ⟨e0, e1, e2, e3, e4, e5⟩
    by_cases e6 : faz = gaz
    rotate_left
    · right; right; right; right; right; right; left; exact ⟨e0, e1, e2, e3, e4, e5, e6⟩
    by_cases e7 : fan = gan
    rotate_left
    · right; right; right; right; right; right; right; left; exact ⟨e0, e1, e2, e3, e4, e5, e6, e7⟩
    by_cases e8 : fbk = gbk
    rotate_left
    · right; right; right; right; right; right; right; right; left; exact ⟨e0, e1, e2, e3, e4, e5, e6, e7, e8⟩
    by_cases e9 : fbt = gbt
    rotate_left
    · right; right; right; right; right; right; right; right; right; left; exact ⟨e0, e1, e2, e3, e4, e5, e6, e7, e8, e9⟩
    by_cases e10 : fbc = gbc
    rotate_left
    · right; right; right; right; right; right; right; right; right; right; left; exact ⟨e0, e1, e2, e3, e4, e5, e6, e7, e8, e9, e10⟩
    by_cases e11 : fbz = gbz
    rotate_left
    · right; right; right; right; right; right; right; right; right; right; right; left; exact ⟨e0, e1, e2, e3, e4, e5, e6, e7, e8, e9, e10, e11⟩
    by_cases e12 : fbn = gbn
    rotate_left
    · right; right; right; right; right; right; right; right; right; right; right; right; exact ⟨e0, e1, e2, e3, e4, e5, e6, e7, e8, e9, e10, e11, e12⟩
    subst e0 e1 e2 e3 e4 e5 e6 e7 e8 e9 e10 e11 e12
    simp at h
  clear h
  rcases hd with hne | ⟨rfl, hne⟩ | ⟨rfl, rfl, hne⟩ | ⟨rfl, rfl, rfl, hne⟩ | ⟨rfl, rfl, rfl, rfl, hne⟩ | ⟨rfl, rfl, rfl, rfl, rfl, hne⟩ | ⟨rfl, rfl, rfl, rfl, rfl, rfl, hne⟩ | ⟨rfl, rfl, rfl, rfl, rfl, rfl, rfl, hne⟩ | ⟨rfl, rfl, rfl, rfl, rfl, rfl, rfl, rfl, hne⟩ | ⟨rfl, rfl, rfl, rfl, rfl, rfl, rfl, rfl, rfl, hne⟩ | ⟨rfl, rfl, rfl, rfl, rfl, rfl, rfl, rfl, rfl, rfl, hne⟩ | ⟨rfl, rfl, rfl, rfl, rfl, rfl, rfl, rfl, rfl, rfl, rfl, hne⟩ | ⟨rfl, rfl, rfl, rfl, rfl, rfl, rfl, rfl, rfl, rfl, rfl, rfl, hne⟩
  all_goals
    go_enter Tryz.func84, Tryz.ntmps84
    go_wp2_with fail
    go_ret
    exact ⟨rfl, below_new2 _ _ _⟩
end Go.Proofs.YtbddhkgbpjhhaaaGreatDoor
namespace Go.Proofs.YtbddhkgbpjhhaaaGreatDoor
open Go.RowKit Go.Sort
set_option maxHeartbeats 1600000
theorem r6same_len (f : Pf) (A B : Option Addr) (n m c e : Nat) (w : World) (h : n ≠ m) :
    Calls Tryz.prog 84 #[.agg #[.int .i64 f.k, .int .i64 f.u, .int .i64 f.o, .int .i64 f.a.k, .int .i64 f.a.t, .int .i64 f.a.c, .bool f.a.z, .int .i64 f.a.n, .int .i64 f.b.k, .int .i64 f.b.t, .int .i64 f.b.c, .bool f.b.z, .int .i64 f.b.n, .slice A n c], .agg #[.int .i64 f.k, .int .i64 f.u, .int .i64 f.o, .int .i64 f.a.k, .int .i64 f.a.t, .int .i64 f.a.c, .bool f.a.z, .int .i64 f.a.n, .int .i64 f.b.k, .int .i64 f.b.t, .int .i64 f.b.c, .bool f.b.z, .int .i64 f.b.n, .slice B m e]] w fun e w' => e = .returned (.bool false) ∧ Below w.heap.size w w' := by
  have d1 : ((n : Int) != (m : Int)) = true := by simp; omega
  have d2 : (n != m) = true := by simpa using h
  clear h
  go_enter Tryz.func84, Tryz.ntmps84
  go_wp2_with fail
  go_ret
  exact ⟨rfl, below_new2 _ _ _⟩
set_option maxRecDepth 100000 in
theorem r6same_any (d : Nat) : ∀ (f g : Pf) (u v : Value) (ps qs : List Pd) (w : World), PsAt d w u ps → PsAt d w v qs →
    Calls Tryz.prog 84 #[.agg #[.int .i64 f.k, .int .i64 f.u, .int .i64 f.o, .int .i64 f.a.k, .int .i64 f.a.t, .int .i64 f.a.c, .bool f.a.z, .int .i64 f.a.n, .int .i64 f.b.k, .int .i64 f.b.t, .int .i64 f.b.c, .bool f.b.z, .int .i64 f.b.n, u], .agg #[.int .i64 g.k, .int .i64 g.u, .int .i64 g.o, .int .i64 g.a.k, .int .i64 g.a.t, .int .i64 g.a.c, .bool g.a.z, .int .i64 g.a.n, .int .i64 g.b.k, .int .i64 g.b.t, .int .i64 g.b.c, .bool g.b.z, .int .i64 g.b.n, v]] w fun e w' => e = .returned (.bool (Pr.same (.mk f ps) (.mk g qs))) ∧ Below w.heap.size w w' := by
  induction d using Nat.strongRecOn with
  | ind d ih =>
  intro f g u v ps qs w hu hv
  have hR : Pr.same (.mk f ps) (.mk g qs) = (Pr.fsame f g && Pr.sames ps qs) := by rw [Pr.same]
  rw [hR]
  obtain ⟨A, c, rfl, hl⟩ := hu.form
  obtain ⟨B, c', rfl, hl'⟩ := hv.form
  by_cases hf : Pr.fsame f g = true
  · obtain rfl := fsame_eq hf
    rw [hf, Bool.true_and]
    by_cases hn : ps.length = qs.length
    · obtain ⟨W0, hW0⟩ : ∃ W0, W0 = (w.alloc (Obj.cells #[.int .i64 f.k, .int .i64 f.u, .int .i64 f.o, .int .i64 f.a.k, .int .i64 f.a.t, .int .i64 f.a.c, .bool f.a.z, .int .i64 f.a.n, .int .i64 f.b.k, .int .i64 f.b.t, .int .i64 f.b.c, .bool f.b.z, .int .i64 f.b.n, .slice A ps.length c] 57)).alloc (Obj.cells #[.int .i64 f.k, .int .i64 f.u, .int .i64 f.o, .int .i64 f.a.k, .int .i64 f.a.t, .int .i64 f.a.c, .bool f.a.z, .int .i64 f.a.n, .int .i64 f.b.k, .int .i64 f.b.t, .int .i64 f.b.c, .bool f.b.z, .int .i64 f.b.n, (.slice B qs.length c')] 57) := ⟨_, rfl⟩
      obtain ⟨p0, p1, hb0, hlt0⟩ := pd_boxes hW0
      have HU := Lib.hid (hu.below hb0 (Nat.le_refl _))
      have HV := Lib.hid (hv.below hb0 (Nat.le_refl _))
      have HW := Lib.hid hW0
      have IH := Lib.hid ih
      have HP := Lib.hid p0
      have HQ := Lib.hid p1
      have HL := Lib.hid hlt0
      have HS := Lib.hid (Pr.sames_iff hn)
      obtain ⟨n, hn1⟩ : ∃ n, n = ps.length := ⟨_, rfl⟩
      rw [← hn1] at hl HU HP HW hn ⊢
      rw [← hn] at HV HQ HW ⊢
      have HN := Lib.hid hn1
      have HM := Lib.hid hn
      clear hW0 ih hu hv p0 p1 hn hn1 hl' hlt0 hf hR
      go_enter Tryz.func84, Tryz.ntmps84
      go_wp2_with fail
      rw [← HW.out]
      go_loopw [5] (fun i wr => ∃ (q : Nat), q ≤ n ∧ i = .int .i64 q ∧ Hid (∀ (j : Nat) (p p' : Pd), j < q → ps[j]? = some p → qs[j]? = some p' → Pr.same p p' = true) ∧ Below W0.heap.size W0 wr) (fun i _ => n - (intOf i).toNat)
      case atStart => exact ⟨0, Nat.zero_le _, rfl, Lib.hid (fun j p p' h => by omega), Below.refl _ _⟩
      case round =>
        obtain ⟨q, hq, rfl, hsv, hb⟩ := hrel
        by_cases hlt : q < n
        · obtain ⟨p, gp⟩ : ∃ p, ps[q]? = some p := ⟨ps[q]'(by have := HN.out; omega), List.getElem?_eq_getElem _⟩
          obtain ⟨p', gp'⟩ : ∃ p, qs[q]? = some p := ⟨qs[q]'(by have := HM.out; omega), List.getElem?_eq_getElem _⟩
          have hu := HU.out
          rw [HN.out] at hu
          have hv := HV.out
          rw [HM.out] at hv
          obtain ⟨e, b, o, s, v, he, rfl, _, hx⟩ := hu.at_ gp
          obtain ⟨e', b', o', s', v', he', rfl, _, hx'⟩ := hv.at_ gp'
          have k13 := (HP.out.below hb (show w.heap.size < W0.heap.size by have := HL.out; omega)).c13
          have m13 := (HQ.out.below hb (show w.heap.size + 1 < W0.heap.size from HL.out)).c13
          obtain ⟨ha, _⟩ := hx wr hb
          obtain ⟨hb2, _⟩ := hx' wr hb
          have cs := in_draw (fun W h => IH.out (max e e') (by omega) p.f p'.f v v' p.ps p'.ps W ((hx W h).2.mono (by omega)) ((hx' W h).2.mono (by omega))) hb
          have hpe : Pr.same (.mk p.f p.ps) (.mk p'.f p'.ps) = Pr.same p p' := by cases p; cases p'; rfl
          rw [hpe] at cs
          obtain ⟨r, hr⟩ : ∃ r, r = Pr.same p p' := ⟨_, rfl⟩
          rw [← hr] at cs
          have HR := Lib.hid hr
          have GP := Lib.hid gp
          have GP' := Lib.hid gp'
          have i1 : (0 : Int) ≤ (q : Int) := by omega
          have i2 : (q : Int) < (n : Int) := by omega
          clear gp gp' hu hv hx hx' hpe hr
          go_wp2_with fail
          have d0 := cell_regrown k13
          have d1 := cell_regrown m13
          have a0 := cell_regrown ha.c0
          have a1 := cell_regrown ha.c1
          have a2 := cell_regrown ha.c2
          have a3 := cell_regrown ha.c3
          have a4 := cell_regrown ha.c4
          have a5 := cell_regrown ha.c5
          have a6 := cell_regrown ha.c6
          have a7 := cell_regrown ha.c7
          have a8 := cell_regrown ha.c8
          have a9 := cell_regrown ha.c9
          have a10 := cell_regrown ha.c10
          have a11 := cell_regrown ha.c11
          have a12 := cell_regrown ha.c12
          have a13 := cell_regrown ha.c13
          have b0 := cell_regrown hb2.c0
          have b1 := cell_regrown hb2.c1
          have b2 := cell_regrown hb2.c2
          have b3 := cell_regrown hb2.c3
          have b4 := cell_regrown hb2.c4
          have b5 := cell_regrown hb2.c5
          have b6 := cell_regrown hb2.c6
          have b7 := cell_regrown hb2.c7
          have b8 := cell_regrown hb2.c8
          have b9 := cell_regrown hb2.c9
          have b10 := cell_regrown hb2.c10
          have b11 := cell_regrown hb2.c11
          have b12 := cell_regrown hb2.c12
          have b13 := cell_regrown hb2.c13
          clear ha hb2 k13 m13
          refine wp_region_quiet_below (by kernel_rfl) (by kernel_rfl) ?_
          repeat (go_big_quiet_step (with_reducible exact cs _ _))
          refine wpQuiet_nil ?_
          intro _ hw'
          obtain ⟨⟨dq, osq⟩, hw''⟩ := hw'
          subst hw''
          have hb3 : Below W0.heap.size W0 (grow (redrawn wr dq) osq) := below_join hb (below_regrown _ _ _)
          clear d0 d1 a0 a1 a2 a3 a4 a5 a6 a7 a8 a9 a10 a11 a12 a13 b0 b1 b2 b3 b4 b5 b6 b7 b8 b9 b10 b11 b12 b13 cs i1 i2
          generalize grow (redrawn wr dq) osq = w2 at hb3 ⊢
          cases r
          · have he : Hid (Pr.sames ps qs = false) := Lib.hid (by
              cases h : Pr.sames ps qs with
              | false => rfl
              | true => rw [HS.out] at h; rw [h q p p' GP.out GP'.out] at HR; exact absurd HR.out (by decide))
            go_wp2_with fail
            go_ret
            exact ⟨ret_bool he.out.symm, below_join hb0 hb3⟩
          · have hs2 : Hid (∀ (j : Nat) (x x' : Pd), j < q + 1 → ps[j]? = some x → qs[j]? = some x' → Pr.same x x' = true) := Lib.hid (fun j x x' hj h1 h2 => by
              by_cases e : j = q
              · subst e; rw [GP.out] at h1; rw [GP'.out] at h2; cases h1; cases h2; exact HR.out.symm
              · exact hsv.out j x x' (by omega) h1 h2)
            go_wp2_with fail
            go_roundw
            case rel => exact ⟨q + 1, by omega, by go_num, hs2, hb3⟩
            case measure => simp [intOf]; omega
        · have he : Hid (Pr.sames ps qs = true) := Lib.hid (HS.out.2 fun j p p' hj hj' => hsv.out j p p' (by
            by_cases h : j < ps.length
            · have := HN.out; omega
            · rw [List.getElem?_eq_none (by omega)] at hj; cases hj) hj hj')
          have k13 := (HP.out.below hb (show w.heap.size < W0.heap.size by have := HL.out; omega)).c13
          go_wp2_with fail
          go_ret
          exact ⟨ret_bool he.out.symm, below_join hb0 hb⟩
    · rw [Pr.sames_length hn]
      exact r6same_len f A B _ _ c c' w hn
  · have hf' : Pr.fsame f g = false := by simpa using hf
    rw [hf', Bool.false_and]
    exact r6same_field f g A B _ _ c c' w hf'
end Go.Proofs.YtbddhkgbpjhhaaaGreatDoor
namespace Go.Proofs.YtbddhkgbpjhhaaaGreatDoor
open Go.RowKit Go.Sort
set_option maxHeartbeats 3200000
theorem own_empty (w : World) (e : TypeId) (s base : Nat) (hb : base ≤ w.heap.size) (g : Nat) (hg : w.heap.size = g) : (w.alloc (.cells #[] e)).ownsRow base e s (.slice (some ⟨g, 0, none⟩) 0 0) 0 [] := by
  subst hg; exact World.ownsRow_made w #[] 0 hb (by decide) (by simp)
theorem own_kept {w w' : World} {base : Nat} {e : TypeId} {s : Nat} {v : Value} {n : Nat} {xs : List Value} (h : w.ownsRow base e s v n xs) (hb : Below w.heap.size w w') : w'.ownsRow base e s v n xs := by
  refine ⟨h.1, ?_⟩
  rcases h.2 with hn | ⟨g, cap, cur, rfl, h1, hg, rest⟩
  · exact .inl hn
  · exact .inr ⟨g, cap, cur, rfl, h1, (hb.block g (Array.getElem?_eq_some_iff.1 hg).1).trans hg, rest⟩
end Go.Proofs.YtbddhkgbpjhhaaaGreatDoor
namespace Go.Proofs.YtbddhkgbpjhhaaaGreatDoor
open Go.RowKit Go.Sort
set_option maxHeartbeats 1600000
def CameN (w : World) (size : Nat) (u : Value) (m : Nat) (news : List Value) : Prop :=
  (u = .slice none 0 0 ∧ m = 0 ∧ news = []) ∨ ∃ b c, u = .slice (some b) m c ∧ news.length = m * size ∧ ∀ (j : Nat) (x : Value), news[j]? = some x → w.cell? (b.add j) = some x
theorem CameN.own {w : World} {base : Nat} {e : TypeId} {size : Nat} {v : Value} {n : Nat} {xs : List Value} (h : w.ownsRow base e size v n xs) : CameN w size v n xs := by
  rcases h.2 with ⟨hv, hn⟩ | ⟨g, cap, cur, rfl, _⟩
  · exact .inl ⟨hv, hn, List.eq_nil_of_length_eq_zero (by rw [h.1, hn, Nat.zero_mul])⟩
  · exact .inr ⟨_, cap, rfl, h.1, fun j x hx => h.cells (g := g) rfl j x hx⟩
theorem CameN.new (w : World) (t : TypeId) (size m : Nat) (xs : List Value) (g : Nat) (hg : w.heap.size = g) (hl : xs.length = m * size) : CameN (w.alloc (.cells xs.toArray t)) size (.slice (some ⟨g, 0, none⟩) m m) m xs := by
  subst hg
  refine .inr ⟨_, _, rfl, hl, fun j x hx => ?_⟩
  obtain ⟨A, c, hv, _, h⟩ := Sl.new w t xs
  cases hv
  obtain ⟨b, o, p, hA, _, hc⟩ := h j x hx
  cases hA
  exact hc
theorem wpList_append_n {P : Program} (w : World) {ops : Array Oper} {rest : List Oper} {o : Oper} {a : Act} {Q : Exit → Act → World → Prop} (hgd : o.guard = none) (s x : Operand) (t : TypeId)
    (ho : o.op = .call { callee := .builtin .append, args := #[s, x], argTypes := #[t, t] })
    (base : Nat) (e : TypeId) (i : TypeInfo) (z : Value) (size bytes : Nat) (ht : P.underlying t = some (.slice e)) (hi : P.info? e = some i) (hz : i.zero = some z)
    (hsize : i.size = size) (hby : i.bytes = bytes) (hzs : z.cells.size = size) (hs0 : 0 < size)
    (v : Value) (n : Nat) (xs : List Value) (hs : a.eval s = v) (hown : w.ownsRow base e size v n xs)
    (u : Value) (m : Nat) (news : List Value) (hx : a.eval x = u) (hu : CameN w size u m news) (h1 : ∀ u ∈ news, u.oneCell' = true)
    (h63 : n + m ≤ maxLen) (hbytes : (n + m) * bytes ≤ 140737488355328) (hbase : base ≤ w.heap.size)
    (h : ∀ v' w', w'.ownsRow base e size v' (n + m) (xs ++ news) → w.grownBy w' v.ownBlock → wpList P ops Q rest (a.put o.dst v') w') : wpList P ops Q (o :: rest) a w := by
  rcases hu with ⟨rfl, rfl, rfl⟩ | ⟨b, c, rfl, hl, hc⟩
  · refine wpList_append_own_none hgd s x t ho base e i size ht hi v n xs hs hown hx ?_
    exact h v w (by simpa using hown) ⟨rfl, rfl, rfl, Nat.le_refl _, fun _ _ _ => rfl⟩
  · exact wpList_append_own w hgd s x t ho base e i z size bytes ht hi hz hsize hby hzs hs0 v n xs hs hown b m c news hx hl hc h1 h63 hbytes hbase fun v' w' h2 h3 _ => h v' w' h2 h3
def pairCells (l : List (Int × Int)) : List Value := l.flatMap fun x => [.int .i64 x.1, .int .i64 x.2]
theorem pairCells_app (l m : List (Int × Int)) : pairCells (l ++ m) = pairCells l ++ pairCells m := by simp [pairCells]
theorem pairCells_one (l : List (Int × Int)) : ∀ u ∈ pairCells l, u.oneCell' = true := by
  intro u hu
  simp only [pairCells, List.mem_flatMap] at hu
  obtain ⟨x, _, hx⟩ := hu
  simp at hx
  rcases hx with rfl | rfl <;> rfl
def OwnPairs (w : World) (l : List (Int × Int)) (e : Ending) (w' : World) : Prop :=
  ∃ v, e = .returned v ∧ w'.ownsRow w.heap.size 140 2 v l.length (pairCells l) ∧ Below w.heap.size w w'
theorem Tryz.infoPair : (Tryz.prog.info? 140).map (fun i => (i.zero, i.size, i.bytes)) = some (some (.agg #[.int .i64 0, .int .i64 0]), 2, 16) := by kernel_rfl
set_option maxRecDepth 100000 in
theorem r6cols_any (d : Nat) : ∀ (f : Pf) (u : Value) (ps : List Pd) (w : World), PsAt d w u ps → Pr.sizes ps ≤ 1000 →
    Calls Tryz.prog 130 #[.agg #[.int .i64 f.k, .int .i64 f.u, .int .i64 f.o, .int .i64 f.a.k, .int .i64 f.a.t, .int .i64 f.a.c, .bool f.a.z, .int .i64 f.a.n, .int .i64 f.b.k, .int .i64 f.b.t, .int .i64 f.b.c, .bool f.b.z, .int .i64 f.b.n, u]] w (OwnPairs w (Pr.cols (.mk f ps))) := by
  induction d using Nat.strongRecOn with
  | ind d ih =>
  intro f u ps w hu hsz
  obtain ⟨i0, hi, hz0, hz1, hz2⟩ := info_parts Tryz.infoPair
  obtain ⟨W0, hW0⟩ : ∃ W0, W0 = w.alloc (Obj.cells #[.int .i64 f.k, .int .i64 f.u, .int .i64 f.o, .int .i64 f.a.k, .int .i64 f.a.t, .int .i64 f.a.c, .bool f.a.z, .int .i64 f.a.n, .int .i64 f.b.k, .int .i64 f.b.t, .int .i64 f.b.c, .bool f.b.z, .int .i64 f.b.n, u] 57) := ⟨_, rfl⟩
  obtain ⟨l0, p0, hb0⟩ := pd_box hW0
  have HU := Lib.hid (hu.below hb0 (Nat.le_refl _))
  obtain ⟨A, c, rfl, hl⟩ := hu.form
  have hn1 := Pr.sizes_length ps
  have HW := Lib.hid hW0
  have IH := Lib.hid ih
  have HP := Lib.hid p0
  have HL := Lib.hid l0.lt
  have HZ := Lib.hid hsz
  obtain ⟨n, hn⟩ : ∃ n, n = ps.length := ⟨_, rfl⟩
  rw [← hn] at hl HU HP HW hn1 ⊢
  have hn2 : n ≤ 1000 := by omega
  have HN := Lib.hid hn
  have how := own_empty W0 140 2 W0.heap.size (Nat.le_refl _) (w.heap.size + 1) (by rw [hW0, World.size_alloc])
  have hb : Below W0.heap.size W0 (W0.alloc (Obj.cells #[] 140)) := below_new _ _
  have HB0 := Lib.hid hb0
  have hcl := Pr.cols_at (.mk f ps)
  have HC := Lib.hid (show Pr.cols (.mk f ps) = (Te.cols f.a ++ Te.cols f.b) ++ Pr.colss ps from hcl)
  have HSZ := Lib.hid (show W0.heap.size = w.heap.size + 1 by rw [hW0, World.size_alloc])
  clear hW0 ih hu l0 p0 hn hsz hn1 hcl hb0
  go_enter Tryz.func130, Tryz.ntmps130
  have hown : (W0.alloc (Obj.cells #[] 140)).ownsRow W0.heap.size 140 2 (.slice (some ⟨w.heap.size + 1, 0, none⟩) 0 0) 0 (pairCells []) := how
  have hlen : (0 : Nat) ≤ 1 := by omega
  have z3 := (HP.out.below hb (show w.heap.size < W0.heap.size from HL.out)).c3
  rw [HW.out] at z3
  go_upto_if 9 with (fail)
  rw [← HW.out]
  clear z3
  go_cut [3] from 5 (fun s wr => wr.ownsRow W0.heap.size 140 2 s (Te.cols f.a).length (pairCells (Te.cols f.a)) ∧ Below W0.heap.size W0 wr)
  case first =>
    obtain ⟨k0, k1, k2, k3, k4, k5, k6, k7, k8, k9, k10, k11, k12, k13⟩ := HP.out.below hb (show w.heap.size < W0.heap.size from HL.out)
    by_cases h : f.a.k = 1
    · have e1 : (f.a.k == 1) = true := by simpa using h
      have hL := Lib.hid (show Te.cols f.a = [] ++ [(f.a.t, f.a.c)] by simp [Te.cols, h])
      have hcm := Lib.hid (show CameN ((W0.alloc (Obj.cells #[] 140)).alloc (Obj.cells #[.int .i64 f.a.t, .int .i64 f.a.c] 140)) 2 (.slice (some ⟨W0.heap.size + 1, 0, none⟩) 1 1) 1 [.int .i64 f.a.t, .int .i64 f.a.c] from CameN.new (W0.alloc (Obj.cells #[] 140)) 140 2 1 [.int .i64 f.a.t, .int .i64 f.a.c] _ (by rw [World.size_alloc]) rfl)
      have hone := Lib.hid (show ∀ u ∈ ([.int .i64 f.a.t, .int .i64 f.a.c] : List Value), u.oneCell' = true from pairCells_one [(f.a.t, f.a.c)])
      have h63 := Lib.hid (show 0 + 1 ≤ maxLen by unfold maxLen; omega)
      have hby := Lib.hid (show (0 + 1) * 16 ≤ 140737488355328 by omega)
      have hbs := Lib.hid (show W0.heap.size ≤ ((W0.alloc (Obj.cells #[] 140)).alloc (Obj.cells #[.int .i64 f.a.t, .int .i64 f.a.c] 140)).heap.size by have := hb.size; rw [World.size_alloc]; omega)
      have hoa := Lib.hid (hown.alloc (Obj.cells #[.int .i64 f.a.t, .int .i64 f.a.c] 140))
      clear h
      go_wp2_with (first
        | (at_builtin; refine wpList_append_n _ rfl _ _ 138 rfl W0.heap.size 140 i0 (.agg #[.int .i64 0, .int .i64 0]) 2 16 Tryz.underlying138 hi hz0 hz1 hz2 rfl (by decide) _ 0 _ rfl hoa.out _ 1 [.int .i64 f.a.t, .int .i64 f.a.c] rfl hcm.out hone.out h63.out hby.out hbs.out ?_))
      intro v1 w1 hown1 hgrow
      have hb1 : Below W0.heap.size W0 w1 := (hb.alloc hb.size _).grown hgrow hbs.out (fun k hk => (hown.lt k hk).1)
      have hown2 : w1.ownsRow W0.heap.size 140 2 v1 (Te.cols f.a).length (pairCells (Te.cols f.a)) := by rw [hL.out, List.length_append, pairCells_app]; exact hown1
      clear hown1 hgrow k0 k1 k2 k3 k4 k5 k6 k7 k8 k9 k10 k11 k12 k13
      go_wp2_with fail
      go_meet
      case rel => exact ⟨hown2, hb1⟩
    · have e1 : (f.a.k == 1) = false := by simpa using h
      have hL := Lib.hid (show Te.cols f.a = [] by simp [Te.cols, h])
      clear h
      go_wp2_with fail
      go_meet
      case rel => exact ⟨by rw [hL.out]; exact hown, hb⟩
  clear hown hb hlen
  obtain ⟨hown, hb⟩ := hcut
  have hlen : (Te.cols f.a).length ≤ 1 := Pr.te_cols_len _
  have z8 := (HP.out.below hb (show w.heap.size < W0.heap.size from HL.out)).c8
  go_upto_if 23 with (fail)
  clear z8
  go_cut [3] from 5 (fun s wr => wr.ownsRow W0.heap.size 140 2 s (Te.cols f.a ++ Te.cols f.b).length (pairCells (Te.cols f.a ++ Te.cols f.b)) ∧ Below W0.heap.size W0 wr)
  case first =>
    obtain ⟨k0, k1, k2, k3, k4, k5, k6, k7, k8, k9, k10, k11, k12, k13⟩ := HP.out.below hb (show w.heap.size < W0.heap.size from HL.out)
    by_cases h : f.b.k = 1
    · have e1 : (f.b.k == 1) = true := by simpa using h
      have hL := Lib.hid (show Te.cols f.a ++ Te.cols f.b = Te.cols f.a ++ [(f.b.t, f.b.c)] by simp [Te.cols, h])
      have hcm := Lib.hid (show CameN (wc.alloc (Obj.cells #[.int .i64 f.b.t, .int .i64 f.b.c] 140)) 2 (.slice (some ⟨wc.heap.size, 0, none⟩) 1 1) 1 [.int .i64 f.b.t, .int .i64 f.b.c] from CameN.new wc 140 2 1 [.int .i64 f.b.t, .int .i64 f.b.c] _ rfl rfl)
      have hone := Lib.hid (show ∀ u ∈ ([.int .i64 f.b.t, .int .i64 f.b.c] : List Value), u.oneCell' = true from pairCells_one [(f.b.t, f.b.c)])
      have h63 := Lib.hid (show (Te.cols f.a).length + 1 ≤ maxLen by unfold maxLen; omega)
      have hby := Lib.hid (show ((Te.cols f.a).length + 1) * 16 ≤ 140737488355328 by omega)
      have hbs := Lib.hid (show W0.heap.size ≤ (wc.alloc (Obj.cells #[.int .i64 f.b.t, .int .i64 f.b.c] 140)).heap.size by have := hb.size; rw [World.size_alloc]; omega)
      have hoa := Lib.hid (hown.alloc (Obj.cells #[.int .i64 f.b.t, .int .i64 f.b.c] 140))
      clear h
      go_wp2_with (first
        | (at_builtin; refine wpList_append_n _ rfl _ _ 138 rfl W0.heap.size 140 i0 (.agg #[.int .i64 0, .int .i64 0]) 2 16 Tryz.underlying138 hi hz0 hz1 hz2 rfl (by decide) _ (Te.cols f.a).length _ rfl hoa.out _ 1 [.int .i64 f.b.t, .int .i64 f.b.c] rfl hcm.out hone.out h63.out hby.out hbs.out ?_))
      intro v1 w1 hown1 hgrow
      have hb1 : Below W0.heap.size W0 w1 := (hb.alloc hb.size _).grown hgrow hbs.out (fun k hk => (hown.lt k hk).1)
      have hown2 : w1.ownsRow W0.heap.size 140 2 v1 (Te.cols f.a ++ Te.cols f.b).length (pairCells (Te.cols f.a ++ Te.cols f.b)) := by rw [hL.out, List.length_append, pairCells_app]; exact hown1
      clear hown1 hgrow k0 k1 k2 k3 k4 k5 k6 k7 k8 k9 k10 k11 k12 k13
      go_wp2_with fail
      go_meet
      case rel => exact ⟨hown2, hb1⟩
    · have e1 : (f.b.k == 1) = false := by simpa using h
      have hL := Lib.hid (show Te.cols f.a ++ Te.cols f.b = Te.cols f.a by simp [Te.cols, h])
      clear h
      go_wp2_with fail
      go_meet
      case rel => exact ⟨by rw [hL.out]; exact hown, hb⟩
  clear hown hb hlen
  obtain ⟨hown, hb⟩ := hcut
  have HS := Lib.hid hown
  go_wp2_with fail
  go_loopw [3, 4] (fun s i wr => ∃ (q : Nat), q ≤ n ∧ i = .int .i64 q ∧ wr.ownsRow W0.heap.size 140 2 s ((Te.cols f.a ++ Te.cols f.b) ++ Pr.colss (ps.take q)).length (pairCells ((Te.cols f.a ++ Te.cols f.b) ++ Pr.colss (ps.take q))) ∧ Below W0.heap.size W0 wr) (fun _ i _ => n - (intOf i).toNat)
  case atStart => exact ⟨0, Nat.zero_le _, rfl, by rw [List.take_zero, Pr.colss, List.append_nil]; exact HS.out, hb⟩
  case round =>
    obtain ⟨q, hq, rfl, hown, hb⟩ := hrel
    have k13 := (HP.out.below hb (show w.heap.size < W0.heap.size from HL.out)).c13
    by_cases hlt : q < n
    · obtain ⟨p, gp⟩ : ∃ p, ps[q]? = some p := ⟨ps[q]'(by have := HN.out; omega), List.getElem?_eq_getElem _⟩
      have hu := HU.out
      rw [HN.out] at hu
      obtain ⟨e, b, o, s, v', he, rfl, _, hx⟩ := hu.at_ gp
      obtain ⟨hcell, hps⟩ := hx wr hb
      have cs := IH.out e he p.f v' p.ps wr hps (by have := Pr.sizes_down gp; have := HZ.out; omega)
      rw [Pr.cols_mk] at cs
      have HT := Lib.hid (Pr.colss_take gp)
      have hl1 : ((Te.cols f.a ++ Te.cols f.b) ++ Pr.colss (ps.take q)).length ≤ 3000 := by
        have h1 := Pr.te_cols_len f.a
        have h2 := Pr.te_cols_len f.b
        have h3 := Pr.colss_len (ps.take q)
        have h4 := Pr.sizes_take q ps
        have h5 := HZ.out
        rw [List.length_append, List.length_append]
        omega
      have hl2 : (Pr.cols p).length ≤ 3000 := by
        have h1 := Pr.cols_len p
        have h2 := Pr.sizes_at gp
        have h3 := HZ.out
        omega
      obtain ⟨L1, hL1⟩ : ∃ L, L = (Te.cols f.a ++ Te.cols f.b) ++ Pr.colss (ps.take q) := ⟨_, rfl⟩
      obtain ⟨L2, hL2⟩ : ∃ L, L = Pr.cols p := ⟨_, rfl⟩
      have HT2 := Lib.hid (show (Te.cols f.a ++ Te.cols f.b) ++ Pr.colss (ps.take (q + 1)) = L1 ++ L2 by rw [HT.out, hL1, hL2, List.append_assoc, List.append_assoc, List.append_assoc])
      rw [← hL1] at hown hl1
      rw [← hL2] at cs hl2
      obtain ⟨q0, q1, q2, q3, q4, q5, q6, q7, q8, q9, q10, q11, q12, q13⟩ := hcell
      clear gp hx hps hu hL1 hL2 HT
      go_wp2_with fail
      refine cs.mono ?_
      rintro e w2 ⟨v2, rfl, hown2, hb2⟩
      have hb' := below_join hb hb2
      have hown3 := own_kept hown hb2
      have hcame := CameN.own hown2
      clear cs q0 q1 q2 q3 q4 q5 q6 q7 q8 q9 q10 q11 q12 q13 k13 hb2 hb hown hown2
      go_wp2_with (first
        | (at_builtin; refine wpList_append_n _ rfl _ _ 138 rfl W0.heap.size 140 i0 (.agg #[.int .i64 0, .int .i64 0]) 2 16 Tryz.underlying138 hi hz0 hz1 hz2 rfl (by decide) _ _ _ rfl hown3 _ _ _ rfl hcame (pairCells_one _) ?l1 ?l2 ?l3 ?_))
      case l1 => unfold maxLen; omega
      case l2 => omega
      case l3 => exact hb'.size
      intro v1 w3 hown4 hgrow
      have hb3 : Below W0.heap.size W0 w3 := hb'.grown hgrow hb'.size (fun k hk => (hown3.lt k hk).1)
      have hown5 : w3.ownsRow W0.heap.size 140 2 v1 ((Te.cols f.a ++ Te.cols f.b) ++ Pr.colss (ps.take (q + 1))).length (pairCells ((Te.cols f.a ++ Te.cols f.b) ++ Pr.colss (ps.take (q + 1)))) := by rw [HT2.out, List.length_append, pairCells_app]; exact hown4
      clear hown4 hgrow hown3 hcame hb'
      go_wp2_with fail
      go_roundw
      case rel => exact ⟨q + 1, by omega, by go_num, hown5, hb3⟩
      case measure => simp [intOf]; omega
    · have hL : (Te.cols f.a ++ Te.cols f.b) ++ Pr.colss (ps.take q) = Pr.cols (.mk f ps) := by rw [List.take_of_length_le (by have := HN.out; omega), HC.out]
      rw [hL] at hown
      have HO := Lib.hid hown
      clear hL hown
      go_wp2_with fail
      go_ret
      exact ⟨_, rfl, HO.out.mono HB0.out.size, below_join HB0.out hb⟩
end Go.Proofs.YtbddhkgbpjhhaaaGreatDoor
namespace Go.Proofs.YtbddhkgbpjhhaaaGreatDoor
open Go.RowKit
section
variable (k t c : Int) (z : Bool) (n : Int) (k' t' c' : Int) (z' : Bool) (n' : Int) (w : World)
theorem term_ne :
    (binOp .neq 55 (.agg #[.int .i64 k, .int .i64 t, .int .i64 c, .bool z, .int .i64 n]) (.agg #[.int .i64 k', .int .i64 t', .int .i64 c', .bool z', .int .i64 n'])).run Tryz.prog w = .ok (.bool (!Te.same ⟨k, t, c, z, n⟩ ⟨k', t', c', z', n'⟩)) w := by
  go_simp
  by_cases e1 : k = k' <;> by_cases e2 : t = t' <;> by_cases e3 : c = c' <;> by_cases e4 : z = z' <;> by_cases e5 : n = n' <;> simp [Te.same, e1, e2, e3, e4, e5]
end
end Go.Proofs.YtbddhkgbpjhhaaaGreatDoor
namespace Go.Proofs.YtbddhkgbpjhhaaaGreatDoor
open Go.RowKit Go.Sort
set_option maxHeartbeats 6400000
theorem head_no {f : Pf} {dp : Nat} (h : Pr.head f dp = false) : (4 < dp) ∨ (dp ≤ 4 ∧ f.k < 1) ∨ (dp ≤ 4 ∧ 6 < f.k) ∨ (dp ≤ 4 ∧ 1 ≤ f.k ∧ f.k ≤ 6 ∧ (f.k != 1) = false ∧ (f.k != 2) = true ∧ (f.k != 3) = true ∧ (f.o != 0) = true) ∨ (dp ≤ 4 ∧ 1 ≤ f.k ∧ f.k ≤ 6 ∧ (f.k != 1) = false ∧ (f.k != 2) = true ∧ (f.k != 3) = true ∧ (f.o != 0) = false ∧ Te.zero f.b = false) ∨ (dp ≤ 4 ∧ 1 ≤ f.k ∧ f.k ≤ 6 ∧ (f.k != 1) = false ∧ (f.k != 2) = true ∧ (f.k != 3) = true ∧ (f.o != 0) = false ∧ Te.zero f.b = true ∧ Te.zero f.a = false) ∨ (dp ≤ 4 ∧ 1 ≤ f.k ∧ f.k ≤ 6 ∧ (f.k != 1) = true ∧ (f.k != 2) = false ∧ (f.k != 3) = true ∧ (f.u != 0) = true) ∨ (dp ≤ 4 ∧ 1 ≤ f.k ∧ f.k ≤ 6 ∧ (f.k != 1) = true ∧ (f.k != 2) = true ∧ (f.k != 3) = false ∧ (f.u != 0) = true) ∨ (dp ≤ 4 ∧ 1 ≤ f.k ∧ f.k ≤ 6 ∧ (f.k != 1) = true ∧ (f.k != 2) = true ∧ (f.k != 3) = false ∧ (f.u != 0) = false ∧ (f.o != 0) = true) ∨ (dp ≤ 4 ∧ 1 ≤ f.k ∧ f.k ≤ 6 ∧ (f.k != 1) = true ∧ (f.k != 2) = true ∧ (f.k != 3) = false ∧ (f.u != 0) = false ∧ (f.o != 0) = false ∧ Te.zero f.b = false) ∨ (dp ≤ 4 ∧ 1 ≤ f.k ∧ f.k ≤ 6 ∧ (f.k != 1) = true ∧ (f.k != 2) = true ∧ (f.k != 3) = true ∧ (f.u != 0) = true) ∨ (dp ≤ 4 ∧ 1 ≤ f.k ∧ f.k ≤ 6 ∧ (f.k != 1) = true ∧ (f.k != 2) = true ∧ (f.k != 3) = true ∧ (f.u != 0) = false ∧ (f.o != 0) = true) ∨ (dp ≤ 4 ∧ 1 ≤ f.k ∧ f.k ≤ 6 ∧ (f.k != 1) = true ∧ (f.k != 2) = true ∧ (f.k != 3) = true ∧ (f.u != 0) = false ∧ (f.o != 0) = false ∧ Te.zero f.b = false) ∨ (dp ≤ 4 ∧ 1 ≤ f.k ∧ f.k ≤ 6 ∧ (f.k != 1) = true ∧ (f.k != 2) = true ∧ (f.k != 3) = true ∧ (f.u != 0) = false ∧ (f.o != 0) = false ∧ Te.zero f.b = true ∧ Te.zero f.a = false) := by
  by_cases a1 : 4 < dp
  · exact .inl a1
  by_cases a2 : f.k < 1
  · exact .inr (.inl ⟨by omega, a2⟩)
  by_cases a3 : 6 < f.k
  · exact .inr (.inr (.inl ⟨by omega, a3⟩))
  have b1 : dp ≤ 4 := by omega
  have b2 : 1 ≤ f.k := by omega
  have b3 : f.k ≤ 6 := by omega
  have c1 : decide (dp ≤ 4) = true := decide_eq_true b1
  have c2 : decide (1 ≤ f.k) = true := decide_eq_true b2
  have c3 : decide (f.k ≤ 6) = true := decide_eq_true b3
  unfold Pr.head at h
  rw [c1, c2, c3] at h
  simp only [Bool.true_and] at h
  have e : ∀ m : Int, (f.k != m) = !(f.k == m) := fun m => rfl
  have eu : (f.u != 0) = !(f.u == 0) := rfl
  have eo : (f.o != 0) = !(f.o == 0) := rfl
  have x12 : (f.k == 1) = true → (f.k == 2) = false ∧ (f.k == 3) = false := by simp; omega
  have x21 : (f.k == 2) = true → (f.k == 1) = false ∧ (f.k == 3) = false := by simp; omega
  have x31 : (f.k == 3) = true → (f.k == 1) = false ∧ (f.k == 2) = false := by simp; omega
  simp only [e, eu, eo, b1, b2, b3, true_and]
  refine .inr (.inr (.inr ?_))
  generalize (f.k == 1) = p1 at *
  generalize (f.k == 2) = p2 at *
  generalize (f.k == 3) = p3 at *
  generalize (f.u == 0) = u0 at *
  generalize (f.o == 0) = o0 at *
  generalize Te.zero f.a = za at *
  generalize Te.zero f.b = zb at *
  clear e eu eo a1 a2 a3 b1 b2 b3 c1 c2 c3
  cases p1 <;> cases p2 <;> cases p3 <;> cases u0 <;> cases o0 <;> cases za <;> cases zb <;> simp_all
set_option maxRecDepth 100000 in
theorem r6at_bad (f : Pf) (u : Value) (dp : Nat) (w : World) (h : Pr.head f dp = false) (hdp : dp ≤ 1000) :
    Calls Tryz.prog 146 #[.agg #[.int .i64 f.k, .int .i64 f.u, .int .i64 f.o, .int .i64 f.a.k, .int .i64 f.a.t, .int .i64 f.a.c, .bool f.a.z, .int .i64 f.a.n, .int .i64 f.b.k, .int .i64 f.b.t, .int .i64 f.b.c, .bool f.b.z, .int .i64 f.b.n, u], .int .i64 (dp : Int)] w fun e w' => e = .returned (.bool false) ∧ Below w.heap.size w w' := by
  have hd := head_no h
  have qa := fun w => term_ne f.a.k f.a.t f.a.c f.a.z f.a.n 0 0 0 false 0 w
  have qb := fun w => term_ne f.b.k f.b.t f.b.c f.b.z f.b.n 0 0 0 false 0 w
  have ha : Te.same ⟨f.a.k, f.a.t, f.a.c, f.a.z, f.a.n⟩ ⟨0, 0, 0, false, 0⟩ = Te.zero f.a := rfl
  have hb : Te.same ⟨f.b.k, f.b.t, f.b.c, f.b.z, f.b.n⟩ ⟨0, 0, 0, false, 0⟩ = Te.zero f.b := rfl
  rw [ha] at qa
  rw [hb] at qb
  generalize Te.zero f.a = za at *
  generalize Te.zero f.b = zb at *
  clear h ha hb
  rcases hd with h1 | ⟨h1, h2⟩ | ⟨h1, h2⟩ | ⟨h1, h2, h3, e0, e1, e2, e3⟩ | ⟨h1, h2, h3, e0, e1, e2, e3, rfl⟩ | ⟨h1, h2, h3, e0, e1, e2, e3, rfl, rfl⟩ | ⟨h1, h2, h3, e0, e1, e2, e3⟩ | ⟨h1, h2, h3, e0, e1, e2, e3⟩ | ⟨h1, h2, h3, e0, e1, e2, e3, e4⟩ | ⟨h1, h2, h3, e0, e1, e2, e3, e4, rfl⟩ | ⟨h1, h2, h3, e0, e1, e2, e3⟩ | ⟨h1, h2, h3, e0, e1, e2, e3, e4⟩ | ⟨h1, h2, h3, e0, e1, e2, e3, e4, rfl⟩ | ⟨h1, h2, h3, e0, e1, e2, e3, e4, rfl, rfl⟩
  all_goals
    go_enter Tryz.func146, Tryz.ntmps146
    go_wp2_with fail
    go_ret
    exact ⟨rfl, below_new2 _ _ _⟩
end Go.Proofs.YtbddhkgbpjhhaaaGreatDoor
namespace Go.Proofs.YtbddhkgbpjhhaaaGreatDoor
open Go.RowKit Go.Sort
set_option maxHeartbeats 6400000
theorem head_yes {f : Pf} {dp : Nat} (h : Pr.head f dp = true) : dp ≤ 4 ∧ 1 ≤ f.k ∧ f.k ≤ 6 ∧
    ((f.k != 1) = false ∧ (f.k != 2) = true ∧ (f.k != 3) = true ∧ (f.o != 0) = false ∧ Te.zero f.b = true ∧ Te.zero f.a = true ∨
     (f.k != 1) = true ∧ (f.k != 2) = false ∧ (f.k != 3) = true ∧ (f.u != 0) = false ∨
     (f.k != 1) = true ∧ (f.k != 2) = true ∧ (f.k != 3) = false ∧ (f.u != 0) = false ∧ (f.o != 0) = false ∧ Te.zero f.b = true ∨
     (f.k != 1) = true ∧ (f.k != 2) = true ∧ (f.k != 3) = true ∧ (f.u != 0) = false ∧ (f.o != 0) = false ∧ Te.zero f.b = true ∧ Te.zero f.a = true) := by
  unfold Pr.head at h
  simp only [Bool.and_eq_true, decide_eq_true_eq] at h
  obtain ⟨⟨⟨⟨⟨⟨h1, h2⟩, h3⟩, h4⟩, h5⟩, h6⟩, h7⟩ := h
  refine ⟨h1, h2, h3, ?_⟩
  have e : ∀ m : Int, (f.k != m) = !(f.k == m) := fun m => rfl
  have eu : (f.u != 0) = !(f.u == 0) := rfl
  have eo : (f.o != 0) = !(f.o == 0) := rfl
  have x12 : (f.k == 1) = true → (f.k == 2) = false ∧ (f.k == 3) = false := by simp; omega
  have x21 : (f.k == 2) = true → (f.k == 1) = false ∧ (f.k == 3) = false := by simp; omega
  have x31 : (f.k == 3) = true → (f.k == 1) = false ∧ (f.k == 2) = false := by simp; omega
  simp only [e, eu, eo]
  generalize (f.k == 1) = p1 at *
  generalize (f.k == 2) = p2 at *
  generalize (f.k == 3) = p3 at *
  generalize (f.u == 0) = u0 at *
  generalize (f.o == 0) = o0 at *
  generalize Te.zero f.a = za at *
  generalize Te.zero f.b = zb at *
  clear e eu eo h1 h2 h3
  cases p1 <;> cases p2 <;> cases p3 <;> cases u0 <;> cases o0 <;> cases za <;> cases zb <;> simp_all
set_option maxRecDepth 100000 in
theorem r6at_any (d : Nat) : ∀ (f : Pf) (u : Value) (ps : List Pd) (dp : Nat) (w : World), PsAt d w u ps → dp ≤ 1000 →
    Calls Tryz.prog 146 #[.agg #[.int .i64 f.k, .int .i64 f.u, .int .i64 f.o, .int .i64 f.a.k, .int .i64 f.a.t, .int .i64 f.a.c, .bool f.a.z, .int .i64 f.a.n, .int .i64 f.b.k, .int .i64 f.b.t, .int .i64 f.b.c, .bool f.b.z, .int .i64 f.b.n, u], .int .i64 (dp : Int)] w fun e w' => e = .returned (.bool (Pr.rightAt (.mk f ps) dp)) ∧ Below w.heap.size w w' := by
  induction d using Nat.strongRecOn with
  | ind d ih =>
  intro f u ps dp w hu hdp
  have hR : Pr.rightAt (.mk f ps) dp = (Pr.head f dp && Pr.rightAts ps (dp + 1) && Pr.tail f ps.length) := by rw [Pr.rightAt]
  by_cases hh : Pr.head f dp = true
  · rw [hh, Bool.true_and] at hR
    obtain ⟨hd4, hk1, hk6, hways⟩ := head_yes hh
    have qa := fun w => term_ne f.a.k f.a.t f.a.c f.a.z f.a.n 0 0 0 false 0 w
    have qb := fun w => term_ne f.b.k f.b.t f.b.c f.b.z f.b.n 0 0 0 false 0 w
    have ha : Te.same ⟨f.a.k, f.a.t, f.a.c, f.a.z, f.a.n⟩ ⟨0, 0, 0, false, 0⟩ = Te.zero f.a := rfl
    have hb : Te.same ⟨f.b.k, f.b.t, f.b.c, f.b.z, f.b.n⟩ ⟨0, 0, 0, false, 0⟩ = Te.zero f.b := rfl
    rw [ha] at qa
    rw [hb] at qb
    generalize Te.zero f.a = za at qa hways
    generalize Te.zero f.b = zb at qb hways
    obtain ⟨W0, hW0⟩ : ∃ W0, W0 = (w.alloc (Obj.cells #[.int .i64 f.k, .int .i64 f.u, .int .i64 f.o, .int .i64 f.a.k, .int .i64 f.a.t, .int .i64 f.a.c, .bool f.a.z, .int .i64 f.a.n, .int .i64 f.b.k, .int .i64 f.b.t, .int .i64 f.b.c, .bool f.b.z, .int .i64 f.b.n, u] 57)).alloc (Obj.cells #[.int .i64 0, .int .i64 0, .int .i64 0, .bool false, .int .i64 0] 55) := ⟨_, rfl⟩
    obtain ⟨l0, l1, hb0⟩ := box_two (cs := f.cells u) (ds := [.int .i64 0, .int .i64 0, .int .i64 0, .bool false, .int .i64 0]) hW0
    have HU := Lib.hid (hu.below hb0 (Nat.le_refl _))
    obtain ⟨A, c, rfl, hl⟩ := hu.form
    have HW := Lib.hid hW0
    have IH := Lib.hid ih
    have HP := Lib.hid l0.pd
    have L1 := Lib.hid l1
    have HL := Lib.hid l0.lt
    have hres := hR
    obtain ⟨res, hr⟩ : ∃ res, res = Pr.rightAt (.mk f ps) dp := ⟨_, rfl⟩
    rw [← hr] at hres ⊢
    have HE := Lib.hid hres
    have HS := Lib.hid (Pr.rightAts_iff ps (dp + 1))
    obtain ⟨n, hn⟩ : ∃ n, n = ps.length := ⟨_, rfl⟩
    rw [← hn] at hl HU HP HW HE ⊢
    have HN := Lib.hid hn
    have HYS := Lib.hid hways
    have HQ := Lib.hid (And.intro qa qb)
    have k0 := (l0.below (Below.refl W0.heap.size W0) l0.lt).cell (i := 0) rfl
    clear hW0 ih hu l0 l1 hn hres hr hR hh ha hb hways qa qb k0
    have k0 := HP.out.c0
    rw [HW.out] at k0
    go_enter Tryz.func146, Tryz.ntmps146
    go_upto_region 4 with (fail)
    rw [← HW.out]
    clear k0
    go_cut [65] from 8 (fun s wr => s = .bool false ∧ W0 = wr)
    case first =>
      obtain ⟨k0, k1, k2, k3, k4, k5, k6, k7, k8, k9, k10, k11, k12, k13⟩ := HP.out
      have z0 := L1.out.cell (i := 0) rfl
      have z1 := L1.out.cell (i := 1) rfl
      have z2 := L1.out.cell (i := 2) rfl
      have z3 := L1.out.cell (i := 3) rfl
      have z4 := L1.out.cell (i := 4) rfl
      obtain ⟨qa, qb⟩ := HQ.out
      rcases HYS.out with ⟨e0, e1, e2, e3, rfl, rfl⟩ | ⟨e0, e1, e2, e3⟩ | ⟨e0, e1, e2, e3, e4, rfl⟩ | ⟨e0, e1, e2, e3, e4, rfl, rfl⟩
      all_goals
        go_wp2_with fail
        go_meet
        case rel => exact ⟨rfl, rfl⟩
    obtain ⟨rfl, rfl⟩ := hcut
    go_wp2_with fail
    go_loopw [6] (fun i wr => ∃ (q : Nat), q ≤ n ∧ i = .int .i64 q ∧ Hid (∀ (j : Nat) (p : Pd), j < q → ps[j]? = some p → Pr.rightAt p (dp + 1) = true) ∧ Below W0.heap.size W0 wr) (fun i _ => n - (intOf i).toNat)
    case atStart => exact ⟨0, Nat.zero_le _, rfl, Lib.hid (fun j p h => by omega), Below.refl _ _⟩
    case round =>
      obtain ⟨q, hq, rfl, hsv, hb⟩ := hrel
      obtain ⟨k0, k1, k2, k3, k4, k5, k6, k7, k8, k9, k10, k11, k12, k13⟩ := HP.out.below hb (show w.heap.size < W0.heap.size from HL.out)
      by_cases hlt : q < n
      · obtain ⟨p, gp⟩ : ∃ p, ps[q]? = some p := ⟨ps[q]'(by have := HN.out; omega), List.getElem?_eq_getElem _⟩
        have hu := HU.out
        rw [HN.out] at hu
        obtain ⟨e, b, o, s, v, he, rfl, _, hx⟩ := hu.at_ gp
        obtain ⟨hcell, hps⟩ := hx wr hb
        have cs := IH.out e he p.f v p.ps (dp + 1) wr hps (by omega)
        have hpe : Pd.mk p.f p.ps = p := by cases p; rfl
        rw [hpe, show (((dp + 1 : Nat)) : Int) = (dp : Int) + 1 by omega] at cs
        obtain ⟨r, hr⟩ : ∃ r, r = Pr.rightAt p (dp + 1) := ⟨_, rfl⟩
        rw [← hr] at cs
        have HR := Lib.hid hr
        have GP := Lib.hid gp
        obtain ⟨q0, q1, q2, q3, q4, q5, q6, q7, q8, q9, q10, q11, q12, q13⟩ := hcell
        clear gp hx hps hu hpe hr k0 k1 k2 k3 k4 k5 k6 k7 k8 k9 k10 k11 k12
        go_wp2_with fail
        refine cs.mono ?_
        rintro e w2 ⟨rfl, hb2⟩
        have hb3 := below_join hb hb2
        clear cs q0 q1 q2 q3 q4 q5 q6 q7 q8 q9 q10 q11 q12 q13 k13 hb hb2
        cases r
        · have hm : Hid (res = false) := Lib.hid (by
            rw [HE.out]
            cases h : Pr.rightAts ps (dp + 1) with
            | false => rfl
            | true => rw [HS.out] at h; rw [h p (List.mem_of_getElem? GP.out)] at HR; exact absurd HR.out (by decide))
          go_wp2_with fail
          go_ret
          exact ⟨ret_bool hm.out.symm, below_join hb0 hb3⟩
        · have hs2 : Hid (∀ (j : Nat) (x : Pd), j < q + 1 → ps[j]? = some x → Pr.rightAt x (dp + 1) = true) := Lib.hid (fun j x hj h1 => by
            by_cases e : j = q
            · subst e; rw [GP.out] at h1; cases h1; exact HR.out.symm
            · exact hsv.out j x (by omega) h1)
          go_wp2_with fail
          go_roundw
          case rel => exact ⟨q + 1, by omega, by go_num, hs2, hb3⟩
          case measure => simp [intOf]; omega
      · have hall : Pr.rightAts ps (dp + 1) = true := HS.out.2 fun p hp => by
          obtain ⟨j, hj, e⟩ := List.mem_iff_getElem.1 hp
          exact hsv.out j p (by have := HN.out; omega) (by rw [List.getElem?_eq_getElem hj, e])
        have ht : res = Pr.tail f n := by rw [HE.out, hall, Bool.true_and]
        have HT := Lib.hid ht
        clear hall ht hsv
        by_cases h1 : f.k = 1
        · have e1 : (f.k == 1) = true := by simpa using h1
          have ht : res = (n == 0 && decide (0 ≤ f.u) && decide (f.u ≤ 2)) := by rw [HT.out]; exact if_pos h1
          have HT2 := Lib.hid ht
          clear h1 ht
          by_cases hn : n = 0
          · have z1 : ((n : Int) == 0) = true := by simpa using hn
            have z2 : (n == 0) = true := by simpa using hn
            have Z2 := Lib.hid z2
            clear hn
            by_cases u1 : 0 ≤ f.u
            · by_cases u2 : f.u ≤ 2
              · have hm := Lib.hid (show res = true by rw [HT2.out, Z2.out]; simp [u1, u2])
                go_wp2_with fail
                go_ret
                exact ⟨ret_bool hm.out.symm, below_join hb0 hb⟩
              · have hm := Lib.hid (show res = false by rw [HT2.out]; simp [u2])
                go_wp2_with fail
                go_ret
                exact ⟨ret_bool hm.out.symm, below_join hb0 hb⟩
            · have hm := Lib.hid (show res = false by rw [HT2.out]; simp [u1])
              go_wp2_with fail
              go_ret
              exact ⟨ret_bool hm.out.symm, below_join hb0 hb⟩
          · have z1 : ((n : Int) == 0) = false := by simpa using hn
            have z2 : (n == 0) = false := by simpa using hn
            have hm := Lib.hid (show res = false by rw [HT2.out, z2]; rfl)
            clear hn
            go_wp2_with fail
            go_ret
            exact ⟨ret_bool hm.out.symm, below_join hb0 hb⟩
        by_cases h2 : f.k = 2
        · have e1 : (f.k == 1) = false := by simp; omega
          have e2 : (f.k == 2) = true := by simpa using h2
          have ht : res = (n == 0 && decide (1 ≤ f.o) && decide (f.o ≤ 6) && Te.right f.a && Te.right f.b) := by rw [HT.out]; unfold Pr.tail; rw [if_neg h1, if_pos h2]
          have HT2 := Lib.hid ht
          clear h1 h2 ht
          by_cases hn : n = 0
          · have z1 : ((n : Int) == 0) = true := by simpa using hn
            have z2 : (n == 0) = true := by simpa using hn
            have Z2 := Lib.hid z2
            clear hn
            by_cases u1 : 1 ≤ f.o
            · by_cases u2 : f.o ≤ 6
              · have ca := r5right_any f.a.k f.a.t f.a.c f.a.z f.a.n wr
                have hra : Te.right ⟨f.a.k, f.a.t, f.a.c, f.a.z, f.a.n⟩ = Te.right f.a := rfl
                rw [hra] at ca
                obtain ⟨ra, hr1⟩ : ∃ ra, ra = Te.right f.a := ⟨_, rfl⟩
                rw [← hr1] at ca
                have HR1 := Lib.hid hr1
                clear hr1 hra
                go_wp2_with fail
                refine ca.mono ?_
                rintro e w2 ⟨rfl, hb2⟩
                have hb3 := below_join hb hb2
                clear ca k0 k1 k2 k3 k4 k5 k6 k7 k8 k9 k10 k11 k12 k13
                obtain ⟨k0, k1, k2, k3, k4, k5, k6, k7, k8, k9, k10, k11, k12, k13⟩ := HP.out.below hb3 (show w.heap.size < W0.heap.size from HL.out)
                cases ra
                · have hm := Lib.hid (show res = false by rw [HT2.out, ← HR1.out]; simp)
                  go_wp2_with fail
                  go_ret
                  exact ⟨ret_bool hm.out.symm, below_join hb0 hb3⟩
                · have cb := r5right_any f.b.k f.b.t f.b.c f.b.z f.b.n w2
                  have hrb : Te.right ⟨f.b.k, f.b.t, f.b.c, f.b.z, f.b.n⟩ = Te.right f.b := rfl
                  rw [hrb] at cb
                  obtain ⟨rb, hr1⟩ : ∃ rb, rb = Te.right f.b := ⟨_, rfl⟩
                  rw [← hr1] at cb
                  have hm := Lib.hid (show res = rb by rw [HT2.out, ← HR1.out, ← hr1, Z2.out]; simp [u1, u2])
                  clear hr1 hrb
                  go_wp2_with fail
                  refine cb.mono ?_
                  rintro e w3 ⟨rfl, hb4⟩
                  have hb5 := below_join hb3 hb4
                  clear cb k0 k1 k2 k3 k4 k5 k6 k7 k8 k9 k10 k11 k12 k13
                  go_wp2_with fail
                  go_ret
                  exact ⟨ret_bool hm.out.symm, below_join hb0 hb5⟩
              · have hm := Lib.hid (show res = false by rw [HT2.out]; simp [u2])
                go_wp2_with fail
                go_ret
                exact ⟨ret_bool hm.out.symm, below_join hb0 hb⟩
            · have hm := Lib.hid (show res = false by rw [HT2.out]; simp [u1])
              go_wp2_with fail
              go_ret
              exact ⟨ret_bool hm.out.symm, below_join hb0 hb⟩
          · have z1 : ((n : Int) == 0) = false := by simpa using hn
            have z2 : (n == 0) = false := by simpa using hn
            have hm := Lib.hid (show res = false by rw [HT2.out, z2]; rfl)
            clear hn
            go_wp2_with fail
            go_ret
            exact ⟨ret_bool hm.out.symm, below_join hb0 hb⟩
        by_cases h3 : f.k = 3
        · have e1 : (f.k == 1) = false := by simp; omega
          have e2 : (f.k == 2) = false := by simp; omega
          have e3 : (f.k == 3) = true := by simpa using h3
          have ht : res = (n == 0 && Te.right f.a) := by rw [HT.out]; unfold Pr.tail; rw [if_neg h1, if_neg h2, if_pos h3]
          have HT2 := Lib.hid ht
          clear h1 h2 h3 ht
          by_cases hn : n = 0
          · have z1 : ((n : Int) == 0) = true := by simpa using hn
            have z2 : (n == 0) = true := by simpa using hn
            have Z2 := Lib.hid z2
            clear hn
            have ca := r5right_any f.a.k f.a.t f.a.c f.a.z f.a.n wr
            have hra : Te.right ⟨f.a.k, f.a.t, f.a.c, f.a.z, f.a.n⟩ = Te.right f.a := rfl
            rw [hra] at ca
            obtain ⟨ra, hr1⟩ : ∃ ra, ra = Te.right f.a := ⟨_, rfl⟩
            rw [← hr1] at ca
            have hm := Lib.hid (show res = ra by rw [HT2.out, ← hr1, Z2.out]; rfl)
            clear hr1 hra
            go_wp2_with fail
            refine ca.mono ?_
            rintro e w2 ⟨rfl, hb2⟩
            have hb3 := below_join hb hb2
            clear ca k0 k1 k2 k3 k4 k5 k6 k7 k8 k9 k10 k11 k12 k13
            go_wp2_with fail
            go_ret
            exact ⟨ret_bool hm.out.symm, below_join hb0 hb3⟩
          · have z1 : ((n : Int) == 0) = false := by simpa using hn
            have z2 : (n == 0) = false := by simpa using hn
            have hm := Lib.hid (show res = false by rw [HT2.out, z2]; rfl)
            clear hn
            go_wp2_with fail
            go_ret
            exact ⟨ret_bool hm.out.symm, below_join hb0 hb⟩
        have e1 : (f.k == 1) = false := by simp; omega
        have e2 : (f.k == 2) = false := by simp; omega
        have e3 : (f.k == 3) = false := by simp; omega
        by_cases h6 : f.k = 6
        · have e6 : (f.k == 6) = true := by simpa using h6
          have hm := Lib.hid (show res = (n == 1) by rw [HT.out]; unfold Pr.tail; rw [if_neg h1, if_neg h2, if_neg h3, if_pos h6])
          clear h1 h2 h3 h6
          go_wp2_with fail
          go_ret
          exact ⟨ret_bool (by rw [hm.out, Bool.eq_iff_iff]; simp; try omega), below_join hb0 hb⟩
        · have e6 : (f.k == 6) = false := by simpa using h6
          have hm := Lib.hid (show res = decide (n ≤ 4) by rw [HT.out]; unfold Pr.tail; rw [if_neg h1, if_neg h2, if_neg h3, if_neg h6])
          clear h1 h2 h3 h6
          go_wp2_with fail
          go_ret
          exact ⟨ret_bool (by rw [hm.out, Bool.eq_iff_iff]; simp; try omega), below_join hb0 hb⟩
  · have hh' : Pr.head f dp = false := by simpa using hh
    rw [hR, hh', Bool.false_and, Bool.false_and]
    exact r6at_bad f u dp w hh' hdp
end Go.Proofs.YtbddhkgbpjhhaaaGreatDoor
namespace Go.Proofs.YtbddhkgbpjhhaaaGreatDoor
open Go.RowKit Go.Sort
set_option maxHeartbeats 1600000
theorem r6right_any (d : Nat) (f : Pf) (u : Value) (ps : List Pd) (w : World) (hu : PsAt d w u ps) :
    Calls Tryz.prog 129 #[.agg #[.int .i64 f.k, .int .i64 f.u, .int .i64 f.o, .int .i64 f.a.k, .int .i64 f.a.t, .int .i64 f.a.c, .bool f.a.z, .int .i64 f.a.n, .int .i64 f.b.k, .int .i64 f.b.t, .int .i64 f.b.c, .bool f.b.z, .int .i64 f.b.n, u]] w fun e w' => e = .returned (.bool (Pr.rightAt (.mk f ps) 1)) ∧ Below w.heap.size w w' := by
  have cs := fun W (h : Below w.heap.size w W) => r6at_any d f u ps 1 W (hu.below h (Nat.le_refl _)) (by omega)
  rw [show (((1 : Nat)) : Int) = 1 from rfl] at cs
  have CS := Lib.hid cs
  clear cs hu
  generalize Pr.rightAt (.mk f ps) 1 = r at CS ⊢
  obtain ⟨W0, hW0⟩ : ∃ W0, W0 = w.alloc (Obj.cells #[.int .i64 f.k, .int .i64 f.u, .int .i64 f.o, .int .i64 f.a.k, .int .i64 f.a.t, .int .i64 f.a.c, .bool f.a.z, .int .i64 f.a.n, .int .i64 f.b.k, .int .i64 f.b.t, .int .i64 f.b.c, .bool f.b.z, .int .i64 f.b.n, u] 57) := ⟨_, rfl⟩
  obtain ⟨_, hp, hb0⟩ := pd_box hW0
  obtain ⟨k0, k1, k2, k3, k4, k5, k6, k7, k8, k9, k10, k11, k12, k13⟩ := hp
  have cs := CS.out W0 hb0
  rw [hW0] at k0 k1 k2 k3 k4 k5 k6 k7 k8 k9 k10 k11 k12 k13 cs hb0
  clear hW0
  go_enter Tryz.func129, Tryz.ntmps129
  go_wp2_with fail
  refine cs.mono ?_
  rintro e w2 ⟨rfl, hb2⟩
  have hbz := below_join hb0 hb2
  clear cs k0 k1 k2 k3 k4 k5 k6 k7 k8 k9 k10 k11 k12 k13 hb0 hb2
  go_wp2_with fail
  go_ret
  exact ⟨rfl, hbz⟩
theorem equal6_any (a b : Int) (w : World) :
    Calls Tryz.prog 23 #[.int .i64 a, .int .i64 b] w fun e w' => e = .returned (.agg #[.int .i64 2, .int .i64 0, .int .i64 1, .int .i64 1, .int .i64 a, .int .i64 0, .bool false, .int .i64 0, .int .i64 1, .int .i64 b, .int .i64 0, .bool false, .int .i64 0, .slice none 0 0]) ∧ Below w.heap.size w w' := by
  go_enter Tryz.func23, Tryz.ntmps23
  go_wp2_with fail
  exact bodyPost_ret (v := .agg #[.int .i64 2, .int .i64 0, .int .i64 1, .int .i64 1, .int .i64 a, .int .i64 0, .bool false, .int .i64 0, .int .i64 1, .int .i64 b, .int .i64 0, .bool false, .int .i64 0, .slice none 0 0]) (by simp [results, Tryz.results23, go_sem]) rfl ⟨rfl, below_new _ _⟩
end Go.Proofs.YtbddhkgbpjhhaaaGreatDoor
