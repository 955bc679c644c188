/-
  LAID TOGETHER, BY PROGRAM, of: Pds, Preda, Predb, Predc, Predd, Prede, Teq, Predf, Predg, Predh.
-/
import Derived.Test.YtghonbnmakggnaaDoorGPlain
import Derived.Test.YtghonbnmakggnaaDoorGBase
import Derived.Test.YtghonbnmakggnaaDoorRows
import Derived.Test.YtghonbnmakggnaaDoorGTerms
import Derived.Test.YtghonbnmakggnaaDoorGLogs
import Derived.OwnWalk
import Derived.Laws.AppendOwnNone
import Derived.Deep.Cut
import Derived.Deep.Onto
import Derived.WalkKit
import Derived.WalkSpells
/-
  WORDS FOR PREDICATES IN MEMORY: fourteen cells each, the last one the slice of the parts; a list of predicates, as deep as it is.
-/
namespace Go.Proofs.YtghonbnmakggnaaDoor
open Go.RowKit

/-- the cells of a predicate -/
def Pf.cells (f : Pf) (u : Value) : List Value := [.int .i64 f.k, .int .i64 f.u, .int .i64 f.o, .int .i64 f.a.k, .int .i64 f.a.t, .int .i64 f.a.c, .bool f.a.z, .int .i64 f.a.n, .int .i64 f.b.k, .int .i64 f.b.t, .int .i64 f.b.c, .bool f.b.z, .int .i64 f.b.n, u]
/-- the predicate's cells lie at X, as a walk spells them -/
structure PdCell (w : World) (X : Addr) (f : Pf) (u : Value) : Prop where
  c0 : w.cell? X = some (.int .i64 f.k)
  c1 : w.cell? ⟨X.block, X.off + 1, none⟩ = some (.int .i64 f.u)
  c2 : w.cell? ⟨X.block, X.off + 2, none⟩ = some (.int .i64 f.o)
  c3 : w.cell? ⟨X.block, X.off + 3, none⟩ = some (.int .i64 f.a.k)
  c4 : w.cell? ⟨X.block, X.off + 4, none⟩ = some (.int .i64 f.a.t)
  c5 : w.cell? ⟨X.block, X.off + 5, none⟩ = some (.int .i64 f.a.c)
  c6 : w.cell? ⟨X.block, X.off + 6, none⟩ = some (.bool f.a.z)
  c7 : w.cell? ⟨X.block, X.off + 7, none⟩ = some (.int .i64 f.a.n)
  c8 : w.cell? ⟨X.block, X.off + 8, none⟩ = some (.int .i64 f.b.k)
  c9 : w.cell? ⟨X.block, X.off + 9, none⟩ = some (.int .i64 f.b.t)
  c10 : w.cell? ⟨X.block, X.off + 10, none⟩ = some (.int .i64 f.b.c)
  c11 : w.cell? ⟨X.block, X.off + 11, none⟩ = some (.bool f.b.z)
  c12 : w.cell? ⟨X.block, X.off + 12, none⟩ = some (.int .i64 f.b.n)
  c13 : w.cell? ⟨X.block, X.off + 13, none⟩ = some u
theorem PdCell.below {w w' : World} {B : Nat} {X : Addr} {f : Pf} {u : Value} (h : PdCell w X f u) (hb : Below B w w') (hX : X.block < B) : PdCell w' X f u :=
  have k : ∀ n, w'.cell? ⟨X.block, n, none⟩ = w.cell? ⟨X.block, n, none⟩ := fun n => hb.cell (p := ⟨X.block, n, none⟩) hX
  ⟨(hb.cell hX).trans h.c0, (k _).trans h.c1, (k _).trans h.c2, (k _).trans h.c3, (k _).trans h.c4, (k _).trans h.c5, (k _).trans h.c6, (k _).trans h.c7, (k _).trans h.c8, (k _).trans h.c9, (k _).trans h.c10, (k _).trans h.c11, (k _).trans h.c12, (k _).trans h.c13⟩
theorem Lies.pd {w : World} {g : Nat} {T : TypeId} {f : Pf} {u : Value} (h : Lies w g T (f.cells u)) : PdCell w ⟨g, 0, none⟩ f u :=
  ⟨h.cell (i := 0) rfl, h.cell (i := 1) rfl, h.cell (i := 2) rfl, h.cell (i := 3) rfl, h.cell (i := 4) rfl, h.cell (i := 5) rfl, h.cell (i := 6) rfl, h.cell (i := 7) rfl, h.cell (i := 8) rfl, h.cell (i := 9) rfl, h.cell (i := 10) rfl, h.cell (i := 11) rfl, h.cell (i := 12) rfl, h.cell (i := 13) rfl⟩

/-- the slice value v reads, in w, as the predicates l, at most d deep -/
def PsAt : Nat → World → Value → List Pd → Prop
  | 0, _, v, l => l = [] ∧ ∃ A c, v = .slice A 0 c
  | d + 1, w, v, l => ∃ A c, v = .slice A l.length c ∧ l.length ≤ 9223372036854775807 ∧ ∀ (j : Nat) (p : Pd), l[j]? = some p → ∃ b o s u, A = some ⟨b, o, s⟩ ∧ b < w.heap.size ∧ PdCell w ((⟨b, o, s⟩ : Addr).add (j * 14)) p.f u ∧ PsAt d w u p.ps
theorem PsAt.form {d : Nat} {w : World} {v : Value} {l : List Pd} (h : PsAt d w v l) : ∃ A c, v = .slice A l.length c ∧ l.length ≤ 9223372036854775807 := by
  cases d with
  | zero => obtain ⟨rfl, A, c, rfl⟩ := h; exact ⟨A, c, rfl, by simp⟩
  | succ d => obtain ⟨A, c, rfl, hl, _⟩ := h; exact ⟨A, c, rfl, hl⟩
theorem PsAt.below {d : Nat} : ∀ {w w' : World} {B : Nat} {v : Value} {l : List Pd}, PsAt d w v l → Below B w w' → w.heap.size ≤ B → PsAt d w' v l := by
  induction d with
  | zero => intro w w' B v l h _ _; exact h
  | succ d ih =>
    intro w w' B v l h hb hB
    obtain ⟨A, c, hv, hc, hx⟩ := h
    refine ⟨A, c, hv, hc, fun j p hj => ?_⟩
    obtain ⟨b, o, s, u, hA, hlt, hcell, hp⟩ := hx j p hj
    exact ⟨b, o, s, u, hA, Nat.lt_of_lt_of_le hlt hb.size, hcell.below hb (by rw [add_block]; show b < B; omega), ih hp hb hB⟩
theorem PsAt.more {d : Nat} : ∀ {w : World} {v : Value} {l : List Pd}, PsAt d w v l → PsAt (d + 1) w v l := by
  induction d with
  | zero =>
    intro w v l h
    obtain ⟨rfl, A, c, rfl⟩ := h
    exact ⟨A, c, rfl, by simp, fun j p hj => by simp at hj⟩
  | succ d ih =>
    intro w v l h
    obtain ⟨A, c, hv, hc, hx⟩ := h
    refine ⟨A, c, hv, hc, fun j p hj => ?_⟩
    obtain ⟨b, o, s, u, hA, hlt, hcell, hp⟩ := hx j p hj
    exact ⟨b, o, s, u, hA, hlt, hcell, ih hp⟩
theorem PsAt.mono {d e : Nat} {w : World} {v : Value} {l : List Pd} (h : PsAt d w v l) (hd : d ≤ e) : PsAt e w v l := by
  induction hd with
  | refl => exact h
  | step _ ih => exact ih.more
/-- one of them, in a world that has grown -/
theorem PsAt.at_ {d : Nat} {w : World} {A : Option Addr} {c : Nat} {l : List Pd} {j : Nat} {p : Pd} (h : PsAt d w (.slice A l.length c) l) (hj : l[j]? = some p) :
    ∃ e b o s u, e < d ∧ A = some ⟨b, o, s⟩ ∧ b < w.heap.size ∧ ∀ W, Below w.heap.size w W → PdCell W ((⟨b, o, s⟩ : Addr).add (j * 14)) p.f u ∧ PsAt e W u p.ps := by
  cases d with
  | zero => obtain ⟨rfl, _⟩ := h; simp at hj
  | succ d =>
    obtain ⟨A', c', hv, _, hx⟩ := h
    cases hv
    obtain ⟨b, o, s, u, hA, hlt, hcell, hp⟩ := hx j p hj
    exact ⟨d, b, o, s, u, Nat.lt_succ_self d, hA, hlt, fun W hb => ⟨hcell.below hb (by rw [add_block]; exact hlt), hp.below hb (Nat.le_refl _)⟩⟩
end Go.Proofs.YtghonbnmakggnaaDoor

/-
  THE CONTRACTS OF THE DOCUMENT's ANSWERS OF LAYER 6: Tables, Size, Same.
-/
namespace Go.Proofs.YtghonbnmakggnaaDoor
open Go.RowKit Go.Sort
set_option maxHeartbeats 800000

/-- a predicate's box -/
theorem pd_box {w W0 : World} {T : TypeId} {f : Pf} {u : Value} (h : W0 = w.alloc (Obj.cells (f.cells u).toArray T)) : Lies W0 w.heap.size T (f.cells u) ∧ PdCell W0 ⟨w.heap.size, 0, none⟩ f u ∧ Below w.heap.size w W0 := by
  have l : Lies W0 w.heap.size T (f.cells u) := by rw [h]; exact Lies.new _ _ _
  exact ⟨l, l.pd, by rw [h]; exact below_new _ _⟩
set_option maxRecDepth 100000 in
theorem r6size_any (d : Nat) : ∀ (f : Pf) (u : Value) (ps : List Pd) (M : Int) (w : World), PsAt d w u ps → 1 ≤ M → M ≤ 1000000 →
    Calls Tryd.prog 15 #[.agg #[.int .i64 f.k, .int .i64 f.u, .int .i64 f.o, .int .i64 f.a.k, .int .i64 f.a.t, .int .i64 f.a.c, .bool f.a.z, .int .i64 f.a.n, .int .i64 f.b.k, .int .i64 f.b.t, .int .i64 f.b.c, .bool f.b.z, .int .i64 f.b.n, u], .int .i64 M] w
      fun e w' => e = .returned (.int .i64 (min (Pr.size (.mk f ps) : Int) M)) ∧ Below w.heap.size w w' := by
  induction d using Nat.strongRecOn with
  | ind d ih =>
  intro f u ps M w hu hM1 hM2
  obtain ⟨W0, hW0⟩ : ∃ W0, W0 = w.alloc (Obj.cells #[.int .i64 f.k, .int .i64 f.u, .int .i64 f.o, .int .i64 f.a.k, .int .i64 f.a.t, .int .i64 f.a.c, .bool f.a.z, .int .i64 f.a.n, .int .i64 f.b.k, .int .i64 f.b.t, .int .i64 f.b.c, .bool f.b.z, .int .i64 f.b.n, u] 46) := ⟨_, rfl⟩
  obtain ⟨l0, p0, hb0⟩ := pd_box hW0
  have HU := Lib.hid (hu.below hb0 (Nat.le_refl _))
  obtain ⟨A, c, rfl, hl⟩ := hu.form
  have HW := Lib.hid hW0
  have IH := Lib.hid ih
  have HP := Lib.hid p0
  have HL := Lib.hid l0.lt
  obtain ⟨n, hn⟩ : ∃ n, n = ps.length := ⟨_, rfl⟩
  rw [← hn] at hl HU HP HW ⊢
  have HN := Lib.hid hn
  clear hW0 ih hu l0 p0 hn
  go_enter Tryd.func15, Tryd.ntmps15
  go_wp2_with fail
  rw [← HW.out]
  go_loopw [5, 6] (fun s i wr => ∃ (q : Nat) (sv : Int), q ≤ n ∧ i = .int .i64 q ∧ s = .int .i64 sv ∧ 1 ≤ sv ∧ sv ≤ M ∧ Hid (sv = min (1 + (Pr.sizes (ps.take q) : Int)) M) ∧ Below W0.heap.size W0 wr) (fun _ i _ => n - (intOf i).toNat)
  case atStart => exact ⟨0, 1, Nat.zero_le _, rfl, rfl, by omega, by omega, Lib.hid (by rw [List.take_zero, Pr.sizes]; omega), Below.refl _ _⟩
  case round =>
    obtain ⟨q, sv, hq, rfl, rfl, hs1, hs2, hsv, hb⟩ := hrel
    have k13 := (HP.out.below hb (show w.heap.size < W0.heap.size from HL.out)).c13
    by_cases hlt : q < n
    · by_cases hsm : sv < M
      · obtain ⟨p, gp⟩ : ∃ p, ps[q]? = some p := ⟨ps[q]'(by have := HN.out; omega), List.getElem?_eq_getElem _⟩
        have hu := HU.out
        rw [HN.out] at hu
        obtain ⟨e, b, o, s, v, he, rfl, _, hx⟩ := hu.at_ gp
        obtain ⟨hcell, hps⟩ := hx wr hb
        have cs := IH.out e he p.f v p.ps (M - sv) wr hps (by omega) (by omega)
        have ht : ps.take (q + 1) = ps.take q ++ [p] := by rw [List.take_add_one, gp]; rfl
        have hpe : Pd.mk p.f p.ps = p := by cases p; rfl
        rw [hpe] at cs
        have hp1 := Pr.size_pos p
        have hS : Pr.sizes (ps.take (q + 1)) = Pr.sizes (ps.take q) + Pr.size p := by rw [ht, Pr.sizes_snoc]
        obtain ⟨x, hx1⟩ : ∃ x, x = min (Pr.size p : Int) (M - sv) := ⟨_, rfl⟩
        have hx2 : 1 ≤ x := by omega
        have hx3 : x ≤ M - sv := by omega
        have H3 : Hid (sv + x = min (1 + (Pr.sizes (ps.take (q + 1)) : Int)) M) := Lib.hid (by have := hsv.out; omega)
        rw [← hx1] at cs
        obtain ⟨q0, q1, q2, q3, q4, q5, q6, q7, q8, q9, q10, q11, q12, q13⟩ := hcell
        clear gp hx hps ht hpe hu hp1 hS hx1
        go_wp2_with fail
        refine cs.mono ?_
        rintro e w2 ⟨rfl, hb2⟩
        have hb' := below_join hb hb2
        clear cs q0 q1 q2 q3 q4 q5 q6 q7 q8 q9 q10 q11 q12 q13 k13
        go_wp2_with fail
        go_roundw
        case rel => exact ⟨q + 1, sv + x, by omega, by go_num, rfl, by omega, by omega, H3, hb'⟩
        case measure => simp [intOf]; omega
      · have hx : (ps.take q).length ≤ ps.length := by rw [List.length_take]; omega
        have hle : Pr.sizes (ps.take q) ≤ Pr.sizes ps := Pr.sizes_take q ps
        have he : Hid (sv = min (Pr.size (.mk f ps) : Int) M) := Lib.hid (by rw [Pr.size_at]; have := hsv.out; show sv = min ((1 + Pr.sizes ps : Nat) : Int) M; omega)
        clear hx hle
        go_wp2_with fail
        go_ret
        exact ⟨ret_int he.out, below_join hb0 hb⟩
    · have he : Hid (sv = min (Pr.size (.mk f ps) : Int) M) := Lib.hid (by
        rw [Pr.size_at]
        have h := hsv.out
        rw [List.take_of_length_le (by have := HN.out; omega)] at h
        show sv = min ((1 + Pr.sizes ps : Nat) : Int) M
        omega)
      go_wp2_with fail
      go_ret
      exact ⟨ret_int he.out, below_join hb0 hb⟩
end Go.Proofs.YtghonbnmakggnaaDoor

/-
  THE CONTRACT OF THE DOCUMENT's Same OF LAYER 6.
-/
namespace Go.Proofs.YtghonbnmakggnaaDoor
open Go.RowKit Go.Sort
set_option maxHeartbeats 3200000

theorem fsame_eq {f g : Pf} (h : Pr.fsame f g = true) : f = g := by
  obtain ⟨k, u, o, ⟨a1, a2, a3, a4, a5⟩, ⟨b1, b2, b3, b4, b5⟩⟩ := f
  obtain ⟨k', u', o', ⟨c1, c2, c3, c4, c5⟩, ⟨d1, d2, d3, d4, d5⟩⟩ := g
  simp [Pr.fsame, Te.same] at h
  obtain ⟨⟨⟨⟨rfl, rfl⟩, rfl⟩, ⟨⟨⟨rfl, rfl⟩, rfl⟩, rfl⟩, rfl⟩, ⟨⟨⟨rfl, rfl⟩, rfl⟩, rfl⟩, rfl⟩ := h
  rfl
theorem fsame_self (f : Pf) : Pr.fsame f f = true := by simp [Pr.fsame, Te.same]
/-- two boxes of predicates -/
theorem pd_boxes {w W0 : World} {T : TypeId} {f g : Pf} {u v : Value} (h : W0 = (w.alloc (Obj.cells (f.cells u).toArray T)).alloc (Obj.cells (g.cells v).toArray T)) :
    PdCell W0 ⟨w.heap.size, 0, none⟩ f u ∧ PdCell W0 ⟨w.heap.size + 1, 0, none⟩ g v ∧ Below w.heap.size w W0 ∧ w.heap.size + 1 < W0.heap.size := by
  obtain ⟨l1, l2, hb⟩ := box_two (cs := f.cells u) (ds := g.cells v) h
  exact ⟨l1.pd, l2.pd, hb, l2.lt⟩
end Go.Proofs.YtghonbnmakggnaaDoor

/-
  THE CONTRACT OF THE DOCUMENT's Same OF LAYER 6, whole.
-/
namespace Go.Proofs.YtghonbnmakggnaaDoor
open Go.RowKit Go.Sort
set_option maxHeartbeats 1600000

end Go.Proofs.YtghonbnmakggnaaDoor

/-
  THE CONTRACTS OF THE DOCUMENT's Of AND All OF LAYER 6.
-/
namespace Go.Proofs.YtghonbnmakggnaaDoor
open Go.RowKit Go.Sort
set_option maxHeartbeats 3200000

theorem own_empty (w : World) (e : TypeId) (s base : Nat) (hb : base ≤ w.heap.size) (g : Nat) (hg : w.heap.size = g) : (w.alloc (.cells #[] e)).ownsRow base e s (.slice (some ⟨g, 0, none⟩) 0 0) 0 [] := by
  subst hg; exact World.ownsRow_made w #[] 0 hb (by decide) (by simp)
/-- an own row, kept where only new blocks are laid -/
theorem own_kept {w w' : World} {base : Nat} {e : TypeId} {s : Nat} {v : Value} {n : Nat} {xs : List Value} (h : w.ownsRow base e s v n xs) (hb : Below w.heap.size w w') : w'.ownsRow base e s v n xs := by
  refine ⟨h.1, ?_⟩
  rcases h.2 with hn | ⟨g, cap, cur, rfl, h1, hg, rest⟩
  · exact .inl hn
  · exact .inr ⟨g, cap, cur, rfl, h1, (hb.block g (Array.getElem?_eq_some_iff.1 hg).1).trans hg, rest⟩
end Go.Proofs.YtghonbnmakggnaaDoor

/-
  THE CONTRACT OF THE DOCUMENT's Columns OF LAYER 6; append of a row of any number of cells each.
-/
namespace Go.Proofs.YtghonbnmakggnaaDoor
open Go.RowKit Go.Sort
set_option maxHeartbeats 1600000

/-- a slice whose cells are known: nil, or at an address -/
def CameN (w : World) (size : Nat) (u : Value) (m : Nat) (news : List Value) : Prop :=
  (u = .slice none 0 0 ∧ m = 0 ∧ news = []) ∨ ∃ b c, u = .slice (some b) m c ∧ news.length = m * size ∧ ∀ (j : Nat) (x : Value), news[j]? = some x → w.cell? (b.add j) = some x
theorem CameN.own {w : World} {base : Nat} {e : TypeId} {size : Nat} {v : Value} {n : Nat} {xs : List Value} (h : w.ownsRow base e size v n xs) : CameN w size v n xs := by
  rcases h.2 with ⟨hv, hn⟩ | ⟨g, cap, cur, rfl, _⟩
  · exact .inl ⟨hv, hn, List.eq_nil_of_length_eq_zero (by rw [h.1, hn, Nat.zero_mul])⟩
  · exact .inr ⟨_, cap, rfl, h.1, fun j x hx => h.cells (g := g) rfl j x hx⟩
theorem CameN.new (w : World) (t : TypeId) (size m : Nat) (xs : List Value) (g : Nat) (hg : w.heap.size = g) (hl : xs.length = m * size) : CameN (w.alloc (.cells xs.toArray t)) size (.slice (some ⟨g, 0, none⟩) m m) m xs := by
  subst hg
  refine .inr ⟨_, _, rfl, hl, fun j x hx => ?_⟩
  obtain ⟨A, c, hv, _, h⟩ := Sl.new w t xs
  cases hv
  obtain ⟨b, o, p, hA, _, hc⟩ := h j x hx
  cases hA
  exact hc
theorem wpList_append_n {P : Program} (w : World) {ops : Array Oper} {rest : List Oper} {o : Oper} {a : Act} {Q : Exit → Act → World → Prop} (hgd : o.guard = none) (s x : Operand) (t : TypeId)
    (ho : o.op = .call { callee := .builtin .append, args := #[s, x], argTypes := #[t, t] })
    (base : Nat) (e : TypeId) (i : TypeInfo) (z : Value) (size bytes : Nat) (ht : P.underlying t = some (.slice e)) (hi : P.info? e = some i) (hz : i.zero = some z)
    (hsize : i.size = size) (hby : i.bytes = bytes) (hzs : z.cells.size = size) (hs0 : 0 < size)
    (v : Value) (n : Nat) (xs : List Value) (hs : a.eval s = v) (hown : w.ownsRow base e size v n xs)
    (u : Value) (m : Nat) (news : List Value) (hx : a.eval x = u) (hu : CameN w size u m news) (h1 : ∀ u ∈ news, u.oneCell' = true)
    (h63 : n + m ≤ maxLen) (hbytes : (n + m) * bytes ≤ 140737488355328) (hbase : base ≤ w.heap.size)
    (h : ∀ v' w', w'.ownsRow base e size v' (n + m) (xs ++ news) → w.grownBy w' v.ownBlock → wpList P ops Q rest (a.put o.dst v') w') : wpList P ops Q (o :: rest) a w := by
  rcases hu with ⟨rfl, rfl, rfl⟩ | ⟨b, c, rfl, hl, hc⟩
  · refine wpList_append_own_none hgd s x t ho base e i size ht hi v n xs hs hown hx ?_
    exact h v w (by simpa using hown) ⟨rfl, rfl, rfl, Nat.le_refl _, fun _ _ _ => rfl⟩
  · exact wpList_append_own w hgd s x t ho base e i z size bytes ht hi hz hsize hby hzs hs0 v n xs hs hown b m c news hx hl hc h1 h63 hbytes hbase fun v' w' h2 h3 _ => h v' w' h2 h3
/-- the cells of pairs of numbers -/
def pairCells (l : List (Int × Int)) : List Value := l.flatMap fun x => [.int .i64 x.1, .int .i64 x.2]
theorem pairCells_app (l m : List (Int × Int)) : pairCells (l ++ m) = pairCells l ++ pairCells m := by simp [pairCells]
theorem pairCells_one (l : List (Int × Int)) : ∀ u ∈ pairCells l, u.oneCell' = true := by
  intro u hu
  simp only [pairCells, List.mem_flatMap] at hu
  obtain ⟨x, _, hx⟩ := hu
  simp at hx
  rcases hx with rfl | rfl <;> rfl
end Go.Proofs.YtghonbnmakggnaaDoor

/-
  '==' AND '!=' OF TWO TERMS, in one piece.
-/
namespace Go.Proofs.YtghonbnmakggnaaDoor
open Go.RowKit
section
variable (k t c : Int) (z : Bool) (n : Int) (k' t' c' : Int) (z' : Bool) (n' : Int) (w : World)
theorem term_eq :
    (binOp .eql 35 (.agg #[.int .i64 k, .int .i64 t, .int .i64 c, .bool z, .int .i64 n]) (.agg #[.int .i64 k', .int .i64 t', .int .i64 c', .bool z', .int .i64 n'])).run Tryd.prog w = .ok (.bool (Te.same ⟨k, t, c, z, n⟩ ⟨k', t', c', z', n'⟩)) w := by
  go_simp
  by_cases e1 : k = k' <;> by_cases e2 : t = t' <;> by_cases e3 : c = c' <;> by_cases e4 : z = z' <;> by_cases e5 : n = n' <;> simp [Te.same, e1, e2, e3, e4, e5]
theorem term_ne :
    (binOp .neq 35 (.agg #[.int .i64 k, .int .i64 t, .int .i64 c, .bool z, .int .i64 n]) (.agg #[.int .i64 k', .int .i64 t', .int .i64 c', .bool z', .int .i64 n'])).run Tryd.prog w = .ok (.bool (!Te.same ⟨k, t, c, z, n⟩ ⟨k', t', c', z', n'⟩)) w := by
  go_simp
  by_cases e1 : k = k' <;> by_cases e2 : t = t' <;> by_cases e3 : c = c' <;> by_cases e4 : z = z' <;> by_cases e5 : n = n' <;> simp [Te.same, e1, e2, e3, e4, e5]
end
end Go.Proofs.YtghonbnmakggnaaDoor

/-
  THE CONTRACT OF THE DOCUMENT's Right OF LAYER 6: where a predicate's own fields bar it.
-/
namespace Go.Proofs.YtghonbnmakggnaaDoor
open Go.RowKit Go.Sort
set_option maxHeartbeats 6400000

end Go.Proofs.YtghonbnmakggnaaDoor

/-
  THE CONTRACT OF THE DOCUMENT's Right OF LAYER 6, whole.
-/
namespace Go.Proofs.YtghonbnmakggnaaDoor
open Go.RowKit Go.Sort
set_option maxHeartbeats 6400000

end Go.Proofs.YtghonbnmakggnaaDoor

/-
  THE DOCUMENT's Right OF LAYER 6; THE LAWS' OWN Few AND Equal.
-/
namespace Go.Proofs.YtghonbnmakggnaaDoor
open Go.RowKit Go.Sort
set_option maxHeartbeats 1600000

def Pr.few (p : Pd) (rs : List (List Vl)) : Bool := decide ((rs.length ≤ 70 ∧ ∀ r ∈ rs, r.length ≤ 20) ∧ Pr.size p ≤ 200)
theorem Pr.few_yes {p : Pd} {rs : List (List Vl)} (h : Pr.few p rs = true) : (rs.length ≤ 70 ∧ ∀ r ∈ rs, r.length ≤ 20) ∧ Pr.size p ≤ 200 := of_decide_eq_true h
theorem equal6_any (a b : Int) (w : World) :
    Calls Tryd.prog 16 #[.int .i64 a, .int .i64 b] w fun e w' => e = .returned (.agg #[.int .i64 2, .int .i64 0, .int .i64 1, .int .i64 1, .int .i64 a, .int .i64 0, .bool false, .int .i64 0, .int .i64 1, .int .i64 b, .int .i64 0, .bool false, .int .i64 0, .slice none 0 0]) ∧ Below w.heap.size w w' := by
  go_enter Tryd.func16, Tryd.ntmps16
  go_wp2_with fail
  exact bodyPost_ret (v := .agg #[.int .i64 2, .int .i64 0, .int .i64 1, .int .i64 1, .int .i64 a, .int .i64 0, .bool false, .int .i64 0, .int .i64 1, .int .i64 b, .int .i64 0, .bool false, .int .i64 0, .slice none 0 0]) (by simp [results, Tryd.results16, go_sem]) rfl ⟨rfl, below_new _ _⟩
end Go.Proofs.YtghonbnmakggnaaDoor
