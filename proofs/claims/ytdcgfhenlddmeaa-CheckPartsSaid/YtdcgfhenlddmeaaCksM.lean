/-
  package check: tour.
-/
import Derived.Test.YtdcgfhenlddmeaaCknM
import Derived.Test.YtdcgfhenlddmeaaCkpM
import Derived.Test.YtdcgfhenlddmeaaCktM
import Derived.Test.YtdcgfhenlddmeaaCkrM
import Derived.Test.YtdcgfhenlddmeaaTrjM
import Derived.Test.YtdcgfhenlddmeaaTrwlM
import Derived.Test.YtdcgfhenlddmeaaTrwkM
import Derived.Maps.OwnIn
import Derived.Maps.Views
import Derived.WalkMore
import Derived.WalkArith
namespace Go.Proofs.Ytdcgfhenlddmeaa
open Go.RowKit Go.Shelf Go.Maps
attribute [local go_sem] Oper.semAt_some
set_option maxHeartbeats 12800000

/-- what a map holds: how often each came -/
def Tally (D : DataW Unit) (came : List Int) : Prop := ∀ t : Int, D.atKey (.int .i64 t) (.lit (.int .i64 0)) = .lit (.int .i64 ((came.count t : Nat) : Int))
theorem Tally.nil : Tally (.map []) [] := fun t => by simp [DataW.atKey]
theorem Tally.put {D : DataW Unit} {came : List Int} (h : Tally D came) (hD : IsMap D) (t : Int) : Tally (D.put (.int .i64 t) (.lit (.int .i64 ((came.count t : Nat) + 1)))) (came ++ [t]) := by
  intro z
  by_cases hz : z = t
  · subst hz
    rw [atKey_put_same hD (show WideAt.IsKeyLit (.int .i64 z) from trivial)]
    simp
  · rw [atKey_put_other (fun e => hz (by cases e; rfl)), h z]
    rw [List.count_append, List.count_singleton]
    have : (t == z) = false := by simp; exact fun e => hz e.symm
    rw [this]; simp
theorem five_new11 {w W5 : World} {tq te ti tm : TypeId} {cq ce ci cm : List Value} {P : Program} {K : TypeId} {R : Value → Option (DataW Unit × List MemPlace)} (h : W5 = ((((w.alloc (.cells cq.toArray tq)).alloc (.map #[] 0)).alloc (.cells ce.toArray te)).alloc (.cells ci.toArray ti)).alloc (.cells cm.toArray tm)) :
    Lies W5 w.heap.size tq cq ∧ W5.ownsMap P K R (w.heap.size + 1) 0 (.map []) ∧ Lies W5 (w.heap.size + 1 + 1) te ce ∧ Lies W5 (w.heap.size + 1 + 1 + 1) ti ci ∧ Lies W5 (w.heap.size + 1 + 1 + 1 + 1) tm cm ∧ Below w.heap.size w W5 ∧ W5.heap.size = w.heap.size + 5 := by
  have l2 := Lies.new ((w.alloc (.cells cq.toArray tq)).alloc (.map #[] 0)) te ce
  have l3 := Lies.new (((w.alloc (.cells cq.toArray tq)).alloc (.map #[] 0)).alloc (.cells ce.toArray te)) ti ci
  have l4 := Lies.new ((((w.alloc (.cells cq.toArray tq)).alloc (.map #[] 0)).alloc (.cells ce.toArray te)).alloc (.cells ci.toArray ti)) tm cm
  have hm := World.ownsMap_made (w.alloc (.cells cq.toArray tq)) P K R
  simp only [World.size_alloc] at l2 l3 l4 hm
  rw [h]
  exact ⟨((((Lies.new w tq cq).alloc _).alloc _).alloc _).alloc _, ((hm.alloc _).alloc _).alloc _, (l2.alloc _).alloc _, l3.alloc _, l4, ((((below_new w _).alloc (by simp) _).alloc (by simp; omega) _).alloc (by simp; omega) _).alloc (by simp; omega) _, by simp⟩
/-- between two rounds: the query's box; the error, the count of conjuncts, the map, in their boxes -/
structure TkF (w : World) (N : Nat) (qc : List Value) (e cj : Int) (came : List Int) (O : Nat → Prop) (W : World) : Prop where
  box : Lies W w.heap.size 28 qc
  er : Lies W (w.heap.size + 1 + 1) 34 [.int .i64 e]
  co : Lies W (w.heap.size + 1 + 1 + 1) 3 [.int .i64 cj]
  mp : Lies W (w.heap.size + 1 + 1 + 1 + 1) 64 [.map (some (w.heap.size + 1))]
  own : ∃ D, W.ownsMap Try.prog 3 (plainElem (H := Unit) Try.prog 3) (w.heap.size + 1) came.length D ∧ Tally D came
  oo : ∀ k, O k ↔ (k = w.heap.size + 1 ∨ k = w.heap.size + 1 + 1 ∨ k = w.heap.size + 1 + 1 + 1)
  size : N ≤ W.heap.size
  below : Below w.heap.size w W
theorem owns_block {H : Type} {w w' : World} {P : Program} {k : TypeId} {R : Value → Option (DataW H × List MemPlace)} {b n : Nat} {D : DataW H} (h : w.ownsMap P k R b n D) (hb : w'.heap[b]? = w.heap[b]?) : w'.ownsMap P k R b n D := by
  obtain ⟨es, clock, h1, h2⟩ := h
  exact ⟨es, clock, hb.trans h1, h2⟩
theorem TkF.keep {w : World} {N : Nat} {qc : List Value} {e cj : Int} {came : List Int} {O : Nat → Prop} {A C : World} (hN : w.heap.size + 5 < N) (h : TkF w N qc e cj came O A) (hk : Keeps (fun k => O k ∨ WalkT (N + 2) k) A C) : TkF w N qc e cj came O C := by
  have hs := h.size
  have hl : ∀ k, k < N → C.heap[k]? = A.heap[k]? := fun k hlt => hk.same k (by omega) (.inr (.inl (by omega)))
  obtain ⟨D, h1, h2⟩ := h.own
  exact ⟨(hl _ (by omega)).trans h.box, (hl _ (by omega)).trans h.er, (hl _ (by omega)).trans h.co, (hl _ (by omega)).trans h.mp, ⟨D, owns_block h1 (hl _ (by omega)), h2⟩, h.oo, Nat.le_trans hs hk.size, h.below.trans ⟨hk.os, hk.tape, hk.output, hk.size, fun k hlt => hl k (by omega)⟩⟩
theorem TkF.turn {w : World} {N : Nat} {qc : List Value} {e cj : Int} {came : List Int} {O : Nat → Prop} {A C : World} (hN : w.heap.size + 5 < N) (h : TkF w N qc e cj came O A) (hk : Below A.heap.size A C) : TkF w N qc e cj came O C := h.keep hN (keeps_new hk)
theorem TkF.sete {w : World} {N : Nat} {qc : List Value} {e cj : Int} {came : List Int} {O : Nat → Prop} {A : World} (h : TkF w N qc e cj came O A) (z : Int) : TkF w N qc z cj came O (A.setCell ⟨w.heap.size + 1 + 1, 0, none⟩ (.int .i64 z)) := by
  obtain ⟨D, h1, h2⟩ := h.own
  refine ⟨h.box.far (by show _ ≠ w.heap.size + 1 + 1; omega) _, h.er.set 0 _, h.co.far (by show _ ≠ w.heap.size + 1 + 1; omega) _, h.mp.far (by show _ ≠ w.heap.size + 1 + 1; omega) _, ⟨D, owns_block h1 (Below.heap_setCell _ _ _ _ (by show _ ≠ w.heap.size + 1 + 1; omega)), h2⟩, h.oo, by simpa [World.setCell] using h.size, ?_⟩
  exact h.below.setCell (by show w.heap.size ≤ w.heap.size + 1 + 1; omega) _
theorem TkF.setc {w : World} {N : Nat} {qc : List Value} {e cj : Int} {came : List Int} {O : Nat → Prop} {A : World} (h : TkF w N qc e cj came O A) (z : Int) : TkF w N qc e z came O (A.setCell ⟨w.heap.size + 1 + 1 + 1, 0, none⟩ (.int .i64 z)) := by
  obtain ⟨D, h1, h2⟩ := h.own
  refine ⟨h.box.far (by show _ ≠ w.heap.size + 1 + 1 + 1; omega) _, h.er.far (by show _ ≠ w.heap.size + 1 + 1 + 1; omega) _, h.co.set 0 _, h.mp.far (by show _ ≠ w.heap.size + 1 + 1 + 1; omega) _, ⟨D, owns_block h1 (Below.heap_setCell _ _ _ _ (by show _ ≠ w.heap.size + 1 + 1 + 1; omega)), h2⟩, h.oo, by simpa [World.setCell] using h.size, ?_⟩
  exact h.below.setCell (by show w.heap.size ≤ w.heap.size + 1 + 1 + 1; omega) _
/-- behind 'm[t]++' -/
theorem TkF.putm {w : World} {N : Nat} {qc : List Value} {e cj : Int} {came : List Int} {O : Nat → Prop} {A C : World} {D : DataW Unit} {t : Int} (hN : w.heap.size + 5 < N) (h : TkF w N qc e cj came O A) (ho : C.ownsMap Try.prog 3 (plainElem (H := Unit) Try.prog 3) (w.heap.size + 1) (came.length + 1) D) (ht : Tally D (came ++ [t]))
    (hg : A.grownBy C (some (w.heap.size + 1))) : TkF w N qc e cj (came ++ [t]) O C := by
  have hs := h.size
  have hl : ∀ k, k < N → k ≠ w.heap.size + 1 → C.heap[k]? = A.heap[k]? := fun k hlt hne => hg.block k (by omega) (fun e => hne (Option.some.inj e))
  exact ⟨(hl _ (by omega) (by omega)).trans h.box, (hl _ (by omega) (by omega)).trans h.er, (hl _ (by omega) (by omega)).trans h.co, (hl _ (by omega) (by omega)).trans h.mp, ⟨D, by rw [List.length_append, List.length_singleton]; exact ho, ht⟩, h.oo, Nat.le_trans hs hg.size, h.below.trans ⟨hg.os, hg.tape, hg.output, hg.size, fun k hlt => hl k (by omega) (by omega)⟩⟩
theorem keeps_set11 {O : Nat → Prop} {A B : World} {b : Nat} (h : Keeps (fun k => ¬ O k) A B) (hb : O b) (v : Value) : Keeps (fun k => ¬ O k) A (B.setCell ⟨b, 0, none⟩ v) := h.setCell v (.inl (fun e => e hb))
theorem keeps_new11 {O : Nat → Prop} {A B C : World} (h : Keeps (fun k => ¬ O k) A B) (hb : Below B.heap.size B C) : Keeps (fun k => ¬ O k) A C := h.trans (keeps_new hb)
theorem keeps_grown11 {O : Nat → Prop} {A B C : World} {b : Nat} (h : Keeps (fun k => ¬ O k) A B) (hb : O b) (hg : B.grownBy C (some b)) : Keeps (fun k => ¬ O k) A C := h.trans ⟨hg.os, hg.tape, hg.output, hg.size, fun k hlt hs => hg.block k hlt (fun e => hs ((Option.some.inj e) ▸ hb))⟩
theorem Ck.what_bad {cols : List Int} {t : Tr} {c : Nat} (h : Ck.alone cols.length t (c + t.cs.length) ≠ 0) : Ck.what cols t c = Ck.alone cols.length t (c + t.cs.length) := by unfold Ck.what; rw [if_pos h]
theorem Ck.what_leaf {cols : List Int} {t : Tr} {c : Nat} (h : Ck.alone cols.length t (c + t.cs.length) = 0) (hk : t.k = 0) : Ck.what cols t c = 0 := by unfold Ck.what; rw [if_neg (not_not_intro h), if_pos hk]
theorem Ck.what_op {cols : List Int} {t : Tr} {c : Nat} (h : Ck.alone cols.length t (c + t.cs.length) = 0) (hk : t.k ≠ 0) : Ck.what cols t c = Ck.conjs cols (Ck.ksn t 0) (Ck.ksn t 1) t.cs := by unfold Ck.what; rw [if_neg (not_not_intro h), if_neg hk]
theorem Ck.run_len (cols : List Int) (l : List Tr) : ∀ came c, (Ck.run cols l came c).2.length ≤ came.length + l.length := by
  induction l with
  | nil => intro came c; simp [Ck.run]
  | cons t r ih =>
    intro came c
    rw [Ck.run]
    split
    · simp
    · have := ih (Ck.comes t came) (c + t.cs.length)
      have h2 : (Ck.comes t came).length ≤ came.length + 1 := by unfold Ck.comes; split <;> simp
      rw [List.length_cons]
      omega
theorem sep_normal11 {α : Type} {B : Nat} {I : List α → (Nat → Prop) → World → Prop} {Ix : Code → List α → (Nat → Prop) → World → Prop} {xs : List α} {O : Nat → Prop} {W W' : World} {a : Act} (h : ∃ O', I xs O' W' ∧ ChgFrom B O W O' W') : sepFrom B I Ix xs O W .normal a W' := h
theorem law11 : Keyed Try.prog 3 := int_keyed Try.underlying3
theorem zero11 (w : World) : (zeroValue 3).run Try.prog w = .ok (.int .i64 0) w := by kernel_rfl
set_option maxRecDepth 100000 in
theorem tour11_any (a : Tr) (cols : List Int) (C : Option Addr) (n cc : Nat) (u v : Value) (w : World) (hc : Sl w (.slice C n cc) (cols.map (Value.int .i64))) (hn : cols.length ≤ 64) (hu : ∃ d, TsAt d w u a.ks) (hv : PsSome w v a.cs) (hsz : Tr.size a ≤ 1000) :
    Calls Try.prog 22 #[.agg #[.slice C n cc, .int .i64 a.k, .int .i64 a.t, u, v, .bool a.h]] w
      fun e w' => e = .returned (.int .i64 (Ck.tour cols a)) ∧ Below w.heap.size w w' := by
  refine (callsIn_wide (n := 9)).1 ?_
  obtain ⟨A, c, hA, hl⟩ := hu.elim fun d h => h.form
  obtain ⟨A', c', hA', hl'⟩ := hv.elim fun d h => h.form
  subst hA hA'
  have hmm := @run_makeMap Try.prog
  obtain ⟨W5, hW5⟩ : ∃ W5, W5 = ((((w.alloc (Obj.cells #[.slice C n cc, .int .i64 a.k, .int .i64 a.t, .slice A a.ks.length c, .slice A' a.cs.length c', .bool a.h] 28)).alloc (.map #[] 0)).alloc (.cells #[.int .i64 0] 34)).alloc (.cells #[.int .i64 0] 3)).alloc (.cells #[.map (some (w.heap.size + 1))] 64) := ⟨_, rfl⟩
  obtain ⟨lq, hom, le, lc, lm, hb5, hs5⟩ := five_new11 (cq := [.slice C n cc, .int .i64 a.k, .int .i64 a.t, .slice A a.ks.length c, .slice A' a.cs.length c', .bool a.h]) (ce := [.int .i64 0]) (ci := [.int .i64 0]) (cm := [.map (some (w.heap.size + 1))]) (P := Try.prog) (K := 3) (R := plainElem (H := Unit) Try.prog 3) hW5
  have cw := walk_any a _ _ W5 (hu.elim fun d h => ⟨d, h.below hb5 (Nat.le_refl _)⟩) (hv.below hb5 (Nat.le_refl _)) hsz
  have x0 := lq.cell (i := 0) rfl
  have x1 := lq.cell (i := 1) rfl
  have x2 := lq.cell (i := 2) rfl
  have x3 := lq.cell (i := 3) rfl
  have x4 := lq.cell (i := 4) rfl
  have x5 := lq.cell (i := 5) rfl
  have HW := Lib.hid hW5
  clear hu hv hW5
  refine callsIn_of_wp_marks Try.func22 rfl trivial ?_ rfl
  simp only [Try.ntmps22, List.size_toArray, List.length_cons, List.length_nil, Nat.reduceAdd, Nat.reduceSub, Array.replicate_succ, Array.replicate_zero, List.push_toArray, List.append_toArray, List.nil_append, List.cons_append]
  gi_wp2_with fail
  refine wpIn_wide.2 (wp_scope_straight ((wpIn_wide (n := 9)).1 ?_))
  gi_wp2_with fail
  refine wpIn_label ?_
  rw [← HW.out]
  clear hmm
  gi_wp2_with fail
  refine ⟨trivial, (callsIn_wide.2 cw).mono ?_⟩
  rintro e w6 ⟨u6, v6, rfl, hcell, hon, hb6⟩
  clear cw x0 x1 x2 x3 x4 x5
  gi_wp2_with fail
  obtain ⟨N, hNN⟩ : ∃ N, N = w6.heap.size := ⟨_, rfl⟩
  rw [hs5] at hcell hon
  have hN : w.heap.size + 5 < N := by have := block_lt_of_cell hcell.c0; simp at this; omega
  have hb06 : Below w.heap.size w w6 := below_join hb5 hb6
  obtain ⟨Bb, cb, rfl, _⟩ : ∃ B c, u6 = .slice B a.ks.length c ∧ True := by
    obtain ⟨B, c, h, _⟩ := hon.1.elim fun d h => h.at_.form
    exact ⟨B, c, h, trivial⟩
  obtain ⟨Bc, cq, rfl, _⟩ : ∃ B c, v6 = .slice B a.cs.length c ∧ True := by
    obtain ⟨B, c, h, _⟩ := hon.2.elim fun d h => h.at_.form
    exact ⟨B, c, h, trivial⟩
  have hon5 : TrOn (fun k => w.heap.size + 5 < k ∧ k < N) w6 (a, .slice Bb a.ks.length cb, .slice Bc a.cs.length cq) := hon.keep (Nat.le_refl _) fun k hk hlt => ⟨rfl, by omega, by omega⟩
  obtain ⟨qc, hqc⟩ : ∃ qc : List Value, qc = [.slice C n cc, .int .i64 a.k, .int .i64 a.t, .slice A a.ks.length c, .slice A' a.cs.length c', .bool a.h] := ⟨_, rfl⟩
  have hI0 : TkF w N qc 0 0 [] (fun k => k = w.heap.size + 1 ∨ k = w.heap.size + 1 + 1 ∨ k = w.heap.size + 1 + 1 + 1) w6 := by
    refine ⟨by rw [hqc]; exact lq.below hb6 lq.lt, le.below hb6 le.lt, lc.below hb6 lc.lt, lm.below hb6 lm.lt, ⟨_, owns_block hom (hb6.block _ (by omega)), Tally.nil⟩, fun _ => Iff.rfl, by omega, hb06⟩
  have HN := Lib.hid hN
  have HQC := Lib.hid hqc
  have HCW := Lib.hid hc
  have HCN := Lib.hid hn
  have HSZ := Lib.hid hsz
  clear lq le lc lm hom hb5 hb6 hon hqc hc
  refine wpIn_range_from rfl (by omega) (gf := 44) (lb := #[.pointer (some ⟨w.heap.size + 5, 0, none⟩)]) rfl trivial (enters_of Try.func44 (by kernel_rfl) rfl)
    (walk_iter 4 (fun k => w.heap.size + 5 < k ∧ k < N) w6 (fun k h => by omega) (w.heap.size + 5) a (.slice Bb a.ks.length cb) (.slice Bc a.cs.length cq) hon5 hsz) ?hpre ?hC ?hps ?hR
    (fun pre O W => (Ck.run cols pre [] 0).1 = 0 ∧ TkF w N qc 0 (Ck.many pre) (Ck.run cols pre [] 0).2 O W)
    (fun ec pre O W => ec = .exit 0 ∧ (Ck.run cols pre [] 0).1 ≠ 0 ∧ ∃ cj, TkF w N qc (Ck.run cols pre [] 0).1 cj (Ck.run cols pre [] 0).2 O W) ?hI ?hIx ?hSD ?hIO (fun k => k = w.heap.size + 1 ∨ k = w.heap.size + 1 + 1 ∨ k = w.heap.size + 1 + 1 + 1) ?hO ⟨rfl, hI0⟩
    (fun B0 O1 W3 x vs a' => ∃ q B1 e1 B2 e2, B0 ≤ q ∧ vs = #[trV (x, .slice B1 x.ks.length e1, .slice B2 x.cs.length e2)] ∧ Lies W3 q 26 [.int .i64 x.k, .int .i64 x.t, .slice B1 x.ks.length e1, .slice B2 x.cs.length e2, .bool x.h] ∧ N + 2 ≤ q ∧ a' = { tmps := #[.agg #[.slice C n cc, .int .i64 a.k, .int .i64 a.t, .slice A a.ks.length c, .slice A' a.cs.length c', .bool a.h], .pointer (some ⟨w.heap.size, 0, none⟩), .int .i64 0, .pointer (some ⟨w.heap.size + 1 + 1, 0, none⟩), .pointer (some ⟨w.heap.size + 1 + 1 + 1, 0, none⟩), .pointer (some ⟨w.heap.size + 1 + 1 + 1 + 1, 0, none⟩), .pointer (some ⟨q, 0, none⟩), undef, undef, undef, undef, undef, undef, .map (some (w.heap.size + 1)), .pointer (some ⟨w.heap.size, 1, none⟩), .agg #[.int .i64 a.k, .int .i64 a.t, .slice A a.ks.length c, .slice A' a.cs.length c', .bool a.h], .func (.func 44) #[] #[.pointer (some ⟨w.heap.size + 5, 0, none⟩)], trV (x, .slice B1 x.ks.length e1, .slice B2 x.cs.length e2), undef, undef, undef, undef, undef, undef, undef, undef, undef, undef, undef, undef, undef, undef, undef, undef, undef, undef, undef, undef, undef, undef, undef, undef, undef, undef, undef, undef, undef, undef, undef, undef, undef, undef, undef, undef, undef, undef, undef, undef, undef, undef, undef, undef, undef, undef, undef, undef, undef, undef, undef, undef, undef, undef, undef, undef], defers := [] })
    ?hAx ?assign ?body ?done ?stop
  case hpre => exact fun W3 hb h2 => ⟨hcell.below hb (by show w.heap.size + 5 < w6.heap.size; omega), h2, fun k hk hlt => hb.block k hlt⟩
  case hC =>
    intro k hk
    rcases hk with hk | hk <;> omega
  case hps => rintro B O W x vs ⟨u, v, rfl, _⟩; rfl
  case hR =>
    rintro O O' W W' x vs hOL hOO hk ⟨u, v, rfl, hx⟩
    exact ⟨u, v, rfl, hx.keep hk.size fun k h1 h2 => ⟨hk.same k h2 (fun e => h1.1 (e ▸ hOL)), fun h => h1.1 (hOO k h), h1.2⟩⟩
  case hI =>
    rintro pre O1 A B ⟨h0, h⟩ hk
    exact ⟨h0, h.keep HN.out (hk.mono fun k hh => hh.imp id fun hh => ⟨by rcases hh with hh | hh; exact .inl (by omega); exact .inr (by omega), by rcases hh with hh | hh <;> omega, by rcases hh with hh | hh <;> omega⟩)⟩
  case hIx =>
    rintro ec pre O1 A B ⟨hc, h0, cj, h⟩ hk
    exact ⟨hc, h0, cj, h.keep HN.out (hk.mono fun k hh => hh.imp id fun hh => ⟨by rcases hh with hh | hh; exact .inl (by omega); exact .inr (by omega), by rcases hh with hh | hh <;> omega, by rcases hh with hh | hh <;> omega⟩)⟩
  case hSD => intro k hk; exact .inl (by omega)
  case hIO =>
    rintro pre O1 A ⟨_, h⟩ k hk
    have := h.size
    rcases (h.oo k).1 hk with e | e | e
    · exact ⟨by omega, by omega⟩
    · exact ⟨by omega, by omega⟩
    · exact ⟨by omega, by omega⟩
  case hO => intro k hk; omega
  case hAx =>
    rintro B0 O1 A B x vs a' hk ⟨q, B1, e1, B2, e2, h1, h2, h3, h4, h5⟩
    exact ⟨q, B1, e1, B2, e2, h1, h2, (hk.same q h3.lt (by omega)).trans h3, h4, h5⟩
  case assign =>
    rintro l2 x vs O3 W3 K hs hOl ⟨xu, xv, rfl, hx⟩ hK
    obtain ⟨⟨d1, hx1⟩, d2, hx2⟩ := hx
    obtain ⟨B1, e1, hB1, _⟩ := hx1.at_.form
    obtain ⟨B2, e2, hB2, _⟩ := hx2.at_.form
    change xu = .slice B1 x.ks.length e1 at hB1
    change xv = .slice B2 x.cs.length e2 at hB2
    subst hB1 hB2
    rw [show (#[17] : Array Tmp).zip #[trV (x, .slice B1 x.ks.length e1, .slice B2 x.cs.length e2)] = #[(17, trV (x, .slice B1 x.ks.length e1, .slice B2 x.cs.length e2))] from by simp [List.zip_toArray]]
    have htb := Lies.new W3 26 [.int .i64 x.k, .int .i64 x.t, .slice B1 x.ks.length e1, .slice B2 x.cs.length e2, .bool x.h]
    have HK := Lib.hid hK
    have HTB := Lib.hid htb
    have hs6 : N + 2 ≤ W3.heap.size := by omega
    clear hx1 hx2 hK htb
    gi_wp2
    exact HK.out _ _ (Keeps.alloc _ _ _) ⟨W3.heap.size, B1, e1, B2, e2, Nat.le_refl _, rfl, HTB.out, hs6, rfl⟩
  case body =>
    rintro Wy l2 pre x vs O1 Wb a' hl2 hiy ⟨hrun, h⟩ hpx ⟨xu, xv, hvs, hxh⟩ hOy hsy hkn ⟨q, B1, e1, B2, e2, hqy, rfl, lq, hq6, rfl⟩
    obtain ⟨rfl, rfl⟩ : .slice B1 x.ks.length e1 = xu ∧ .slice B2 x.cs.length e2 = xv := by
      simp only [trV, Array.mk.injEq, List.cons.injEq, Value.agg.injEq, and_true, true_and] at hvs
      exact hvs
    rw [← hNN] at hxh
    have hnc : n = cols.length := by
      obtain ⟨C', c', hC, _⟩ := HCW.out
      rw [List.length_map] at hC
      cases hC
      rfl
    have hrf := Ck.run_fine hrun
    have hkf := fun i => Ck.ksn_fine hpx hrf i
    have hm64 := Ck.run_many hrun (by omega)
    rw [Nat.zero_add] at hm64
    have hsn := Ck.run_snoc (t := x) hrun
    rw [Nat.zero_add] at hsn
    have hsx : Tr.size x ≤ 1000 := Nat.le_trans (Tr.all_size (hpx.subset (List.mem_append_right _ (List.mem_singleton.2 rfl)))) HSZ.out
    have hsx2 := Tr.size_at x
    have hkl := Tr.sizes_length x.ks
    have hcl := Pr.sizes_length x.cs
    have hcl2 : x.cs.length ≤ 1000 := by omega
    have hkl2 : x.ks.length ≤ 1000 := by omega
    have hps2 : Pr.sizes x.cs ≤ 1000 := by omega
    have hcame : (Ck.run cols pre [] 0).2.length ≤ 1000 := by
      have h1 := Ck.run_len cols pre [] 0
      have h2 := hpx.length_le
      have h3 := Tr.all_length_le a
      have h4 := HSZ.out
      simp at h1 h2
      omega
    have HCAME := Lib.hid hcame
    clear hcame
    have HHX := Lib.hid hxh
    have HRUN := Lib.hid hrun
    have HKF := Lib.hid hkf
    have HSN := Lib.hid hsn
    have HH := Lib.hid h
    have HLQ := Lib.hid lq
    have HNC := Lib.hid hnc
    have HPS2 := Lib.hid hps2
    have HOY := Lib.hid hOy
    have HSY := Lib.hid hkn.size
    have HQY := Lib.hid hqy
    obtain ⟨mp, hmp⟩ : ∃ mp, mp = Ck.many pre := ⟨_, rfl⟩
    obtain ⟨cl, hcl3⟩ : ∃ cl, cl = x.cs.length := ⟨_, rfl⟩
    obtain ⟨kl, hkl3⟩ : ∃ kl, kl = x.ks.length := ⟨_, rfl⟩
    rw [← hmp] at h hm64
    rw [← hcl3] at hcl2 lq ⊢
    rw [← hkl3] at hkl2 lq ⊢
    have HMP := Lib.hid hmp
    have HCL := Lib.hid hcl3
    have HKL := Lib.hid hkl3
    have k0 := h.co.cell (i := 0) rfl
    have kf := h.co.free 0
    have r0 := h.er.cell (i := 0) rfl
    have rf := h.er.free 0
    have b0 := h.box.cell (i := 0) (by rw [HQC.out]; rfl)
    have q0 := lq.cell (i := 0) rfl
    have q1 := lq.cell (i := 1) rfl
    have q2 := lq.cell (i := 2) rfl
    have q3 := lq.cell (i := 3) rfl
    have q4 := lq.cell (i := 4) rfl
    have hq7 : q ≠ w.heap.size + 1 + 1 + 1 := by omega
    have hq8 : q ≠ w.heap.size + 1 + 1 := by omega
    have hq9 : q ≠ w.heap.size + 1 := by omega
    clear h lq hrun hrf hkf hsn hsx hsx2 hkl hcl hps2 hxh hvs hOy hkn hqy hsy hiy hpx hmp hcl3 hkl3 hI0 hon5 hcell hsz hb06 hnc
    have ho1 : O1 (w.heap.size + 1) := (HH.out.oo _).2 (.inl rfl)
    have ho2 : O1 (w.heap.size + 1 + 1) := (HH.out.oo _).2 (.inr (.inl rfl))
    have ho3 : O1 (w.heap.size + 1 + 1 + 1) := (HH.out.oo _).2 (.inr (.inr rfl))
    have hqO : ¬ O1 q := fun e => by have := HOY.out q e; have := HQY.out; omega
    have HO := Lib.hid (And.intro ho1 (And.intro ho2 (And.intro ho3 hqO)))
    obtain ⟨al, hal⟩ : ∃ al, al = Ck.alone n x (mp + cl) := ⟨_, rfl⟩
    obtain ⟨W7, hW7⟩ : ∃ W7, W7 = Wb.setCell ⟨w.heap.size + 1 + 1 + 1, 0, none⟩ (.int .i64 ((mp : Int) + (cl : Int))) := ⟨_, rfl⟩
    have h7 := HH.out.setc ((mp : Int) + (cl : Int))
    rw [← hW7] at h7
    have k7 : Keeps (fun k => ¬ O1 k) Wb W7 := by rw [hW7]; exact keeps_set11 (Keeps.refl _ _) ho3 _
    have ca := alone_any x B1 kl e1 B2 cl e2 (mp + cl) n W7 HKL.out HCL.out (by omega) (by omega) (by omega) (by have := HCN.out; have := HNC.out; omega)
    rw [← hal, Int.natCast_add] at ca
    have HAL := Lib.hid hal
    have HW7 := Lib.hid hW7
    have H7 := Lib.hid h7
    have K7 := Lib.hid k7
    clear hal hW7 h7 k7 ho1 ho2 ho3 hqO
    gi_wp2_with fail
    rw [← HW7.out]
    refine ⟨trivial, CallsIn.mono (F := Fence.wide.inRound l2) (callsIn_wide.2 ca) ?_⟩
    rintro e w8 ⟨rfl, hb8⟩
    clear ca k0 kf r0 rf b0 q0 q1 q2 q3 q4
    have h8 := H7.out.turn HN.out hb8
    have k8 := keeps_new11 K7.out hb8
    have r0 := h8.er.cell (i := 0) rfl
    have rf := h8.er.free 0
    have H8 := Lib.hid h8
    have K8 := Lib.hid k8
    clear h8 k8 hb8
    by_cases hz : al = 0
    · subst hz
      obtain ⟨W9, hW9⟩ : ∃ W9, W9 = w8.setCell ⟨w.heap.size + 1 + 1, 0, none⟩ (.int .i64 0) := ⟨_, rfl⟩
      have h9 := H8.out.sete 0
      rw [← hW9] at h9
      have k9 : Keeps (fun k => ¬ O1 k) Wb W9 := by rw [hW9]; exact keeps_set11 K8.out HO.out.2.1 _
      have l8 := (K8.out.same q HLQ.out.lt HO.out.2.2.2).trans HLQ.out
      rw [← HKL.out, ← HCL.out] at l8
      have H9 := Lib.hid h9
      have K9 := Lib.hid k9
      have HW9 := Lib.hid hW9
      clear h9 k9 hW9
      by_cases hk : x.k = 0
      · have q0 := Lies.cell l8 (i := 0) rfl
        have q1 := Lies.cell l8 (i := 1) rfl
        rw [hk] at q0
        have hal0 : Ck.alone cols.length x (Ck.many pre + x.cs.length) = 0 := by rw [← HNC.out, ← HMP.out, ← HCL.out, ← HAL.out]
        have hfx := Ck.alone_fine hal0 hk
        have hcn := HCN.out
        have hwf : (Lit.int .i64 x.t).wf = true := WalkArith.wf_i64 (by omega)
        have m0 := H8.out.mp.cell (i := 0) rfl
        obtain ⟨D, hown, htal⟩ := H9.out.own
        have htx := htal x.t
        obtain ⟨cm, hcm⟩ : ∃ cm, cm = (Ck.run cols pre [] 0).2 := ⟨_, rfl⟩
        have hcml := HCAME.out
        rw [← hcm] at hown htal htx hcml
        have hct := List.count_le_length (a := x.t) (l := cm)
        obtain ⟨ct, hctt⟩ : ∃ ct, ct = cm.count x.t := ⟨_, rfl⟩
        rw [← hctt] at htx hct
        have hct2 : ct ≤ 1000 := by omega
        have hwf2 : (Lit.int .i64 ((ct : Int) + 1)).wf = true := WalkArith.wf_i64 (by omega)
        have hput := htal.put (hown.tidy law11).isMap x.t
        rw [← hctt] at hput
        have HPUT := Lib.hid hput
        have HTX := Lib.hid htx
        have HCM := Lib.hid hcm
        have hlen : cm.length < maxLen := by unfold maxLen; omega
        have hW := Lib.hid (show Ck.run cols (pre ++ [x]) [] 0 = (0, cm ++ [x.t]) by
          have hr := HSN.out
          rw [Ck.what_leaf hal0 hk, if_neg (by simp)] at hr
          rw [hr, hcm]
          unfold Ck.comes
          rw [if_pos hk])
        have hmany := Lib.hid (show ((Ck.many (pre ++ [x]) : Nat) : Int) = (mp : Int) + (cl : Int) by
          rw [Ck.many_snoc, ← HMP.out, ← HCL.out]; push_cast; rfl)
        have HK := Lib.hid hk
        have HL8 := Lib.hid l8
        have HLEN := Lib.hid hlen
        have HWF := Lib.hid hwf
        have HWF2 := Lib.hid hwf2
        have HOWN := Lib.hid hown
        clear hcm hctt hput htx htal hal0 hk l8 hlen hwf hwf2 hown hct
        gi_wp2_with (first
          | (gi_at_lookup; rw [← HW9.out]; refine wpListIn_lookup_own_int _ rfl _ _ 64 rfl 3 3 .i64 law11 Try.underlying64 Try.underlying3 (zero11 _) (w.heap.size + 1) _ D rfl HOWN.out _ _ rfl (keyOf_int_mk Try.underlying3 HWF.out) ?_; intro cv hat hwc; obtain rfl : cv = (ct : Int) := (by have e := hat.symm.trans HTX.out; simp only [DataW.lit.injEq, Lit.int.injEq, true_and] at e; exact e))
          | (gi_at_mapUpdate; refine wpListIn_mapUpdate_own _ rfl _ _ _ 64 rfl 3 3 law11 Try.underlying64 _ (w.heap.size + 1) _ D rfl HOWN.out HLEN.out _ _ _ rfl rfl (keyOf_int_mk Try.underlying3 HWF.out) _ [] (plainElem_int Try.underlying3 HWF2.out) ?_; intro w10 hown1 hgrow1))
        have h9 := H9.out
        rw [← HCM.out] at h9
        exact sep_normal11 ⟨O1, ⟨by rw [hW.out], by
          show TkF w N qc 0 ((Ck.many (pre ++ [x]) : Nat) : Int) (Ck.run cols (pre ++ [x]) [] 0).2 O1 w10
          rw [hW.out, hmany.out]
          exact h9.putm HN.out hown1 HPUT.out hgrow1⟩, ⟨(keeps_grown11 K9.out HO.out.1 hgrow1).mono fun k hk => hk.1, fun _ _ h => h⟩⟩
      · have hk' : (x.k == 0) = false := by simpa using hk
        have hal0 : Ck.alone cols.length x (Ck.many pre + x.cs.length) = 0 := by rw [← HNC.out, ← HMP.out, ← HCL.out, ← HAL.out]
        obtain ⟨hk2, _, _, _, _⟩ := Ck.alone_kids hal0 hk
        obtain ⟨ya, yb, hks⟩ : ∃ ya yb, x.ks = [ya, yb] := by
          match hkk : x.ks with
          | [] => rw [hkk] at hk2; simp at hk2
          | [_] => rw [hkk] at hk2; simp at hk2
          | [ya, yb] => exact ⟨ya, yb, rfl⟩
          | _ :: _ :: _ :: _ => rw [hkk] at hk2; simp at hk2
        have hT9 := (HHX.out.keep K9.out.size (fun k h hlt => ⟨K9.out.same k hlt h.1, h⟩)).hang
        obtain ⟨dt, hts⟩ := hT9.1
        change TsAt dt W9 (.slice B1 x.ks.length e1) x.ks at hts
        obtain ⟨e6, b6, o6, s6, u6, v6, _, hA6, hb6l, hX⟩ := hts.at_ (j := 0) (a := ya) (by rw [hks]; rfl)
        obtain ⟨e8, b8, o8, s8, u8, v8, _, hA8, _, hY⟩ := hts.at_ (j := 1) (a := yb) (by rw [hks]; rfl)
        subst hA6
        obtain ⟨rfl, rfl, rfl⟩ : b6 = b8 ∧ o6 = o8 ∧ s6 = s8 := by
          simp only [Option.some.injEq, Addr.mk.injEq] at hA8
          exact hA8
        have hadd : (⟨b6, o6, s6⟩ : Addr).add (1 * 5) = ⟨b6, o6 + 5, none⟩ := by unfold Addr.add; simp
        simp only [Nat.zero_mul, add_zero9] at hX
        simp only [hadd] at hY
        have hkl2' : kl = 2 := by rw [HKL.out]; exact hk2
        subst hkl2'
        have l9 : Lies W9 q 26 [.int .i64 x.k, .int .i64 x.t, .slice (some ⟨b6, o6, s6⟩) 2 e1, .slice B2 cl e2, .bool x.h] := (K9.out.same q HLQ.out.lt HO.out.2.2.2).trans (by have := HLQ.out; rw [← HKL.out, ← HCL.out] at this; exact this)
        have CA := Lib.hid (fun W (h : Below W9.heap.size W9 W) => (tseen_any _ ya _ _ W (hX W h).2.2 (hX W h).2.1).mono fun e w' ⟨he, hb⟩ => (⟨he, below_join h hb⟩ : e = Ending.returned (.int .u64 (Tr.seen ya : Nat)) ∧ Below W9.heap.size W9 w'))
        have CB := Lib.hid (fun W (h : Below W9.heap.size W9 W) => (tseen_any _ yb _ _ W (hY W h).2.2 (hY W h).2.1).mono fun e w' ⟨he, hb⟩ => (⟨he, below_join h hb⟩ : e = Ending.returned (.int .u64 (Tr.seen yb : Nat)) ∧ Below W9.heap.size W9 w'))
        have HX := Lib.hid (fun W h => (hX W h).1)
        have HY := Lib.hid (fun W h => (hY W h).1)
        have HL9 := Lib.hid l9
        have e0 : Ck.ksn x 0 = Tr.seen ya := by unfold Ck.ksn; rw [hks]; rfl
        have e1' : Ck.ksn x 1 = Tr.seen yb := by unfold Ck.ksn; rw [hks]; rfl
        have hlr : ∀ j, (Tr.seen ya ||| Tr.seen yb).testBit j = true → j < cols.length := fun j hj => by
          rw [Nat.testBit_or, Bool.or_eq_true] at hj
          rcases hj with hj | hj
          · exact HKF.out 0 j (by rw [e0]; exact hj)
          · exact HKF.out 1 j (by rw [e1']; exact hj)
        have hwh := Ck.what_op hal0 hk
        rw [e0, e1'] at hwh
        have HWH := Lib.hid hwh
        have HLR := Lib.hid hlr
        have HKN := Lib.hid hk
        have q0 := Lies.cell l8 (i := 0) rfl
        clear hk hal0 hk2 hks hT9 hts hb6l hX hY hA8 hadd l9 e0 e1' hlr hwh l8
        gi_wp2_with fail
        rw [← HW9.out]
        clear r0 rf q0
        refine seen_region rfl rfl rfl rfl rfl rfl rfl rfl rfl rfl rfl rfl rfl rfl rfl rfl rfl rfl rfl rfl rfl rfl rfl rfl rfl rfl rfl rfl rfl rfl rfl rfl rfl rfl rfl rfl rfl rfl rfl rfl rfl rfl rfl rfl rfl rfl rfl rfl rfl (by decide +kernel) (by decide +kernel) _ q rfl (by simp) W9 ya yb b6 o6 e1 s6 u6 v6 u8 v8
          (fun W h => (HL9.out.below h HL9.out.lt).cell (i := 2) rfl) HX.out HY.out CA.out CB.out ?_
        intro W10 hb10
        simp only [puts, seenA, seenB, List.foldl_cons, List.foldl_nil, List.setIfInBounds_toArray, List.set_cons_zero, List.set_cons_succ]
        have h10 := H9.out.turn HN.out hb10
        have k10 := keeps_new11 K9.out hb10
        have q3 := (HL9.out.below hb10 HL9.out.lt).cell (i := 3) rfl
        have K10 := Lib.hid k10
        have H10 := Lib.hid h10
        have HMANY := Lib.hid (show ((Ck.many (pre ++ [x]) : Nat) : Int) = (mp : Int) + (cl : Int) by
          rw [Ck.many_snoc, ← HMP.out, ← HCL.out]; push_cast; rfl)
        clear h10 k10 hb10
        gi_wp2_with fail
        clear q3
        gi_loopw [52] (fun i wr => ∃ z : Nat, z ≤ cl ∧ i = .int .i64 z ∧ Hid (Ck.conjs cols (Tr.seen ya) (Tr.seen yb) (x.cs.take z) = 0) ∧ Hid (TkF w N qc 0 ((mp : Int) + (cl : Int)) (Ck.run cols pre [] 0).2 O1 wr) ∧ Keeps (fun k => ¬ O1 k) Wb wr) (fun i _ => cl - (intOf i).toNat)
        case atStart => exact ⟨0, Nat.zero_le _, rfl, Lib.hid (by simp [Ck.conjs]), H10, K10.out⟩
        case round =>
          obtain ⟨z, hz, rfl, hno, htk, hkr⟩ := hrel
          by_cases hlt : z < cl
          · obtain ⟨p, gp⟩ : ∃ p, x.cs[z]? = some p := ⟨x.cs[z]'(by have := HCL.out; omega), List.getElem?_eq_getElem _⟩
            have hTr := (HHX.out.keep hkr.size (fun k h hlt => ⟨hkr.same k hlt h.1, h⟩)).hang
            obtain ⟨dv, hvv⟩ := hTr.2
            change PsAt dv wr (.slice B2 x.cs.length e2) x.cs at hvv
            obtain ⟨e5, b5, o5, s5, u5, _, hA5, _, hP5⟩ := hvv.at_ gp
            subst hA5
            obtain ⟨⟨y0, y1, y2, y3, y4, y5, y6, y7, y8, y9, y10, y11, y12, y13⟩, hps5⟩ := hP5 wr (Below.refl _ _)
            obtain ⟨B5, d5, rfl, _⟩ := hps5.form
            have hbn := below_new wr (Obj.cells #[.int .i64 p.f.k, .int .i64 p.f.u, .int .i64 p.f.o, .int .i64 p.f.a.k, .int .i64 p.f.a.t, .int .i64 p.f.a.c, .bool p.f.a.z, .int .i64 p.f.a.n, .int .i64 p.f.b.k, .int .i64 p.f.b.t, .int .i64 p.f.b.c, .bool p.f.b.z, .int .i64 p.f.b.n, .slice B5 p.ps.length d5] 49)
            obtain ⟨r, hr⟩ : ∃ r, r = Ck.conj cols (Tr.seen ya) (Tr.seen yb) (.mk p.f p.ps) := ⟨_, rfl⟩
            have ccj := conjunct_any e5 p.f (.slice B5 p.ps.length d5) p.ps (.slice C n cc) cols (Tr.seen ya) (Tr.seen yb) (wr.alloc (Obj.cells #[.int .i64 p.f.k, .int .i64 p.f.u, .int .i64 p.f.o, .int .i64 p.f.a.k, .int .i64 p.f.a.t, .int .i64 p.f.a.c, .bool p.f.a.z, .int .i64 p.f.a.n, .int .i64 p.f.b.k, .int .i64 p.f.b.t, .int .i64 p.f.b.c, .bool p.f.b.z, .int .i64 p.f.b.n, .slice B5 p.ps.length d5] 49)) (hps5.below hbn (Nat.le_refl _)) (HCW.out.below (htk.out.below.trans (below_low hbn htk.out.below.size)) (Nat.le_refl _)) (Tr.seen_lt ya) (Tr.seen_lt yb) HLR.out (by have := Pr.sizes_down gp; have := HPS2.out; omega)
            rw [← hr] at ccj
            have hpm : Pd.mk p.f p.ps = p := by cases p; rfl
            rw [hpm] at hr
            obtain ⟨hgo, hstop⟩ := Ck.conjs_take hno.out gp
            rw [← hr] at hgo hstop
            have HGO := Lib.hid hgo
            have HST := Lib.hid hstop
            have HBN := Lib.hid hbn
            have HKR := Lib.hid hkr
            have HGP := Lib.hid gp
            have b0 := (htk.out.box.below hbn htk.out.box.lt).cell (i := 0) (by rw [HQC.out]; rfl)
            clear hTr hvv hP5 hps5 hbn hpm hgo hstop gp hr hno hkr
            gi_wp2_with fail
            refine ⟨trivial, CallsIn.mono (F := Fence.wide.inRound l2) (callsIn_wide.2 ccj) ?_⟩
            rintro e w14 ⟨rfl, hb14⟩
            clear ccj y0 y1 y2 y3 y4 y5 y6 y7 y8 y9 y10 y11 y12 y13 b0
            have h14 := htk.out.turn HN.out (below_join HBN.out hb14)
            have k14 := keeps_new11 HKR.out (below_join HBN.out hb14)
            have r0 := h14.er.cell (i := 0) rfl
            have rf := h14.er.free 0
            by_cases hr0 : r = 0
            · subst hr0
              have h15 := Lib.hid (h14.sete 0)
              have k15 := Lib.hid (keeps_set11 k14 HO.out.2.1 (.int .i64 0))
              have hno2 := Lib.hid (HGO.out rfl)
              clear h14 k14 hb14
              gi_wp2_with fail
              go_roundw
              case rel => exact ⟨z + 1, by omega, by go_num, hno2, h15, k15.out⟩
              case measure => simp [intOf]; omega
            · have hr1 : (r != 0) = true := by simpa using hr0
              have hfin : (fun (pre : List Tr) (O : Nat → Prop) (W : World) => (Ck.run cols pre [] 0).1 ≠ 0 ∧ ∃ cj, TkF w N qc (Ck.run cols pre [] 0).1 cj (Ck.run cols pre [] 0).2 O W) (pre ++ [x]) O1 (w14.setCell ⟨w.heap.size + 1 + 1, 0, none⟩ (.int .i64 r)) := by
                have hr := HSN.out
                rw [HWH.out, HST.out hr0, if_pos hr0] at hr
                refine ⟨?_, (mp : Int) + (cl : Int), ?_⟩
                · show (Ck.run cols (pre ++ [x]) [] 0).1 ≠ 0
                  rw [hr]; exact hr0
                · show TkF w N qc (Ck.run cols (pre ++ [x]) [] 0).1 _ (Ck.run cols (pre ++ [x]) [] 0).2 _ _
                  rw [hr]
                  exact h14.sete r
              have hkk := keeps_set11 k14 HO.out.2.1 (.int .i64 r)
              have HFIN := Lib.hid hfin
              have HKK := Lib.hid hkk
              clear hfin hkk h14 k14 hb14
              gi_wp2_with fail
              exact ⟨O1, ⟨rfl, HFIN.out⟩, ⟨HKK.out.mono fun k hk => hk.1, fun _ _ h => h⟩⟩
          · have hend : Ck.conjs cols (Tr.seen ya) (Tr.seen yb) x.cs = 0 := by
              rw [← hno.out, List.take_of_length_le (by have := HCL.out; omega)]
            have hW := Lib.hid (show Ck.run cols (pre ++ [x]) [] 0 = (0, (Ck.run cols pre [] 0).2) by
              have hr := HSN.out
              rw [HWH.out, hend, if_neg (by simp)] at hr
              rw [hr]
              unfold Ck.comes
              rw [if_neg HKN.out])
            have HKR := Lib.hid hkr
            clear hend hno hkr
            gi_wp2_with fail
            exact sep_normal11 ⟨O1, ⟨by rw [hW.out], by
              show TkF w N qc 0 ((Ck.many (pre ++ [x]) : Nat) : Int) (Ck.run cols (pre ++ [x]) [] 0).2 O1 wr
              rw [hW.out, HMANY.out]
              exact htk.out⟩, ⟨HKR.out.mono fun k hk => hk.1, fun _ _ h => h⟩⟩
    · have hz' : (al != 0) = true := by simpa using hz
      have hfin : (fun (pre : List Tr) (O : Nat → Prop) (W : World) => (Ck.run cols pre [] 0).1 ≠ 0 ∧ ∃ cj, TkF w N qc (Ck.run cols pre [] 0).1 cj (Ck.run cols pre [] 0).2 O W) (pre ++ [x]) O1 (w8.setCell ⟨w.heap.size + 1 + 1, 0, none⟩ (.int .i64 al)) := by
        have hw : Ck.what cols x (Ck.many pre) = al := by
          rw [Ck.what_bad (by rw [← HNC.out, ← HMP.out, ← HCL.out, ← HAL.out]; exact hz), ← HNC.out, ← HMP.out, ← HCL.out, ← HAL.out]
        have hr := HSN.out
        rw [hw, if_pos hz] at hr
        refine ⟨?_, (mp : Int) + (cl : Int), ?_⟩
        · show (Ck.run cols (pre ++ [x]) [] 0).1 ≠ 0
          rw [hr]; exact hz
        · show TkF w N qc (Ck.run cols (pre ++ [x]) [] 0).1 _ (Ck.run cols (pre ++ [x]) [] 0).2 _ _
          rw [hr]
          exact H8.out.sete al
      have hkk := keeps_set11 K8.out HO.out.2.1 (.int .i64 al)
      have HFIN := Lib.hid hfin
      have HKK := Lib.hid hkk
      clear hfin hkk
      gi_wp2_with fail
      exact ⟨O1, ⟨rfl, HFIN.out⟩, ⟨HKK.out.mono fun k hk => hk.1, fun _ _ h => h⟩⟩
  case done =>
    rintro D O1 W rfl ⟨hrun, h⟩ hOD hK
    rw [← hNN] at hOD hK ⊢
    have HRUN := Lib.hid (show Ck.run cols (Tr.all a) [] 0 = (0, (Ck.run cols (Tr.all a) [] 0).2) by rw [← hrun])
    obtain ⟨came, hcame⟩ : ∃ came, came = (Ck.run cols (Tr.all a) [] 0).2 := ⟨_, rfl⟩
    rw [← hcame] at h HRUN
    obtain ⟨er, her⟩ : ∃ er : Int, er = 0 := ⟨_, rfl⟩
    rw [← her] at h HRUN
    clear hrun hcame her
    have hdl : N < W.heap.size := (Array.getElem?_eq_some_iff.1 hK).1
    obtain ⟨Dm, hown, htal⟩ := h.own
    have m0 := h.mp.cell (i := 0) rfl
    have hle := h.er
    have hbel := h.below
    have hbw : w.heap.size + 1 < W.heap.size := by have := h.size; have := HN.out; omega
    have hND : w.heap.size ≤ N := by have := HN.out; omega
    have HDL := Lib.hid hdl
    have HTAL := Lib.hid htal
    have HOWN := Lib.hid hown
    have HLE := Lib.hid hle
    have HBEL := Lib.hid hbel
    have HBW := Lib.hid hbw
    have HND := Lib.hid hND
    have HKD := Lib.hid hK
    have HOD := Lib.hid hOD
    clear h hown htal hle hbel hbw hND hNN hI0 hcell hon5 hdl hK hOD hsz hb06
    gi_wp2_with (first
      | (gi_at_range; refine wpListIn_range_own _ rfl _ 64 rfl 3 3 law11 Try.underlying64 _ (w.heap.size + 1) _ Dm rfl HOWN.out ?_; intro w1 hrg hg1 hs1))
    go_frame
    gi_loopw [12] (fun _ wr => ∃ (left : Lit → Bool) (cnt : Nat), wr.ranges Try.prog 3 (plainElem (H := Unit) Try.prog 3) (w.heap.size + 1) W.heap.size came.length Dm left cnt ∧ Hid (∀ t ∈ came, left (.int .i64 t) = false → came.count t ≤ 1) ∧ Hid (Lies wr (w.heap.size + 1 + 1) 34 [.int .i64 er]) ∧ Hid (wr.heap[N]? = some (.deferred (some []))) ∧ Below w.heap.size w wr) (fun _ wr => wr.rangeLeft (w.heap.size + 1) W.heap.size)
    case atStart =>
      refine ⟨_, _, hrg, Lib.hid fun t ht hno => ?_, Lib.hid ((hg1.block _ (HLE.out.lt) (by simp)).trans HLE.out), Lib.hid ((hg1.block _ HDL.out (by simp)).trans HKD.out), HBEL.out.trans ⟨hg1.os, hg1.tape, hg1.output, hg1.size, fun k hk => hg1.block k (by have := HBW.out; omega) (by simp)⟩⟩
      exfalso
      have h1 := atKey_of_not_has hno (.lit (.int .i64 0))
      rw [HTAL.out t] at h1
      have h2 := List.count_pos_iff.2 ht
      simp only [DataW.lit.injEq, Lit.int.injEq, true_and] at h1
      omega
    case round =>
      obtain ⟨left, cnt, hrg, hcn, hle, hdf, hb⟩ := hrel
      gi_wp2_with (first
        | (gi_at_next; refine wpListIn_next_ranges_ii _ rfl _ rfl 3 3 .i64 .i64 law11 Try.underlying3 Try.underlying3 (w.heap.size + 1) W.heap.size _ Dm left cnt rfl hrg ?_ ?_))
      · intro hc0 hl0
        have hnd : came.Nodup := List.nodup_iff_count.2 fun t => by
          by_cases ht : t ∈ came
          · exact hcn.out t ht (hl0 _)
          · rw [List.count_eq_zero.2 ht]; omega
        have hres : Ck.tour cols a = er := by unfold Ck.tour; rw [HRUN.out, if_pos hnd]
        have r0 := hle.out.cell (i := 0) rfl
        have HRES := Lib.hid hres
        have HB := Lib.hid (hb.trans (below_putObj wr N (.deferred none) HND.out))
        clear hnd hres hc0 hl0 hrg hb
        gi_wp2_with fail
        refine ⟨by simp, .inl ⟨_, _, rfl, run_takeDeferred hdf.out, ?_⟩⟩
        exact ⟨_, results_tmp (t := 2) rfl _ _ _, by rw [HRES.out]; rfl, HB.out⟩
      · intro xk ck w2 cnt2 hwx hwc hlx hat hrg2 hlt hg2 hs2 hen
        have hcx : ck = ((came.count xk : Nat) : Int) := by
          have e := (hat (.lit (.int .i64 0))).symm.trans (HTAL.out xk)
          simp only [DataW.lit.injEq, Lit.int.injEq, true_and] at e
          exact e
        have hdr : N < wr.heap.size := (Array.getElem?_eq_some_iff.1 hdf.out).1
        have hdf2 : w2.heap[N]? = some (.deferred (some [])) := (hg2.block N hdr (fun e => by have := HDL.out; have := Option.some.inj e; omega)).trans hdf.out
        have hle2 : Lies w2 (w.heap.size + 1 + 1) 34 [.int .i64 er] := (hg2.block _ hle.out.lt (fun e => by have := HLE.out.lt; have := Option.some.inj e; omega)).trans hle.out
        have hb2 : Below w.heap.size w w2 := hb.trans ⟨hg2.os, hg2.tape, hg2.output, hg2.size, fun k hk => hg2.block k (by have := hb.size; omega) (fun e => by have := HBW.out; have := Option.some.inj e; omega)⟩
        have HDF2 := Lib.hid hdf2
        have HLE2 := Lib.hid hle2
        have HB2 := Lib.hid hb2
        have HLT := Lib.hid hlt
        clear hs2 hdf2 hle2 hb2 hat hwx hlx hg2 hb hdr hlt
        by_cases h1 : 1 < ck
        · have hnd : ¬ came.Nodup := fun h => by have := List.nodup_iff_count.1 h xk; omega
          have hres : Ck.tour cols a = 6 := by unfold Ck.tour; rw [HRUN.out, if_neg hnd]
          have HRES := Lib.hid hres
          have HB := Lib.hid (HB2.out.trans (below_putObj w2 N (.deferred none) HND.out))
          clear hnd hres hcx hrg hrg2
          gi_wp2_with fail
          refine ⟨by simp, .inl ⟨_, _, rfl, run_takeDeferred HDF2.out, ?_⟩⟩
          exact ⟨_, results_tmp (t := 2) rfl _ _ _, by rw [HRES.out]; rfl, HB.out⟩
        · have hcn2 : Hid (∀ t ∈ came, (left (.int .i64 t) && !(Lit.int .i64 t).sameKey (.int .i64 xk)) = false → came.count t ≤ 1) := Lib.hid fun t ht hno => by
            rw [Bool.and_eq_false_iff] at hno
            rcases hno with hno | hno
            · exact hcn.out t ht hno
            · have e := WideAt.sameKey_eq (by simpa using hno)
              simp only [Lit.int.injEq, true_and] at e
              subst e
              omega
          have HRG2 := Lib.hid hrg2
          have HRG := Lib.hid hrg
          clear hcx hrg2 hrg
          gi_wp2_with fail
          go_roundw
          case rel => exact ⟨fun z => left z && !z.sameKey (.int .i64 xk), cnt2, HRG2.out, hcn2, HLE2, HDF2, HB2.out⟩
          case measure => rw [HRG2.out.left_eq, HRG.out.left_eq]; exact HLT.out
  case stop =>
    rintro D c9 pre O1 W rfl hpx ⟨rfl, hrun, cj9, h⟩ hOD hK
    rw [← hNN] at hOD hK ⊢
    have HRUN := Lib.hid (show Ck.run cols (Tr.all a) [] 0 = ((Ck.run cols pre [] 0).1, (Ck.run cols pre [] 0).2) by
      obtain ⟨r, hr⟩ := hpx
      rw [← hr, Ck.run_stop hrun])
    obtain ⟨came, hcame⟩ : ∃ came, came = (Ck.run cols pre [] 0).2 := ⟨_, rfl⟩
    obtain ⟨er, her⟩ : ∃ er, er = (Ck.run cols pre [] 0).1 := ⟨_, rfl⟩
    rw [← hcame] at h HRUN
    rw [← her] at h HRUN
    clear hrun hcame her hpx
    have hdl : N < W.heap.size := (Array.getElem?_eq_some_iff.1 hK).1
    obtain ⟨Dm, hown, htal⟩ := h.own
    have m0 := h.mp.cell (i := 0) rfl
    have hle := h.er
    have hbel := h.below
    have hbw : w.heap.size + 1 < W.heap.size := by have := h.size; have := HN.out; omega
    have hND : w.heap.size ≤ N := by have := HN.out; omega
    have HDL := Lib.hid hdl
    have HTAL := Lib.hid htal
    have HOWN := Lib.hid hown
    have HLE := Lib.hid hle
    have HBEL := Lib.hid hbel
    have HBW := Lib.hid hbw
    have HND := Lib.hid hND
    have HKD := Lib.hid hK
    have HOD := Lib.hid hOD
    clear h hown htal hle hbel hbw hND hNN hI0 hcell hon5 hdl hK hOD hsz hb06
    gi_wp2_with (first
      | (gi_at_range; refine wpListIn_range_own _ rfl _ 64 rfl 3 3 law11 Try.underlying64 _ (w.heap.size + 1) _ Dm rfl HOWN.out ?_; intro w1 hrg hg1 hs1))
    go_frame
    gi_loopw [12] (fun _ wr => ∃ (left : Lit → Bool) (cnt : Nat), wr.ranges Try.prog 3 (plainElem (H := Unit) Try.prog 3) (w.heap.size + 1) W.heap.size came.length Dm left cnt ∧ Hid (∀ t ∈ came, left (.int .i64 t) = false → came.count t ≤ 1) ∧ Hid (Lies wr (w.heap.size + 1 + 1) 34 [.int .i64 er]) ∧ Hid (wr.heap[N]? = some (.deferred (some []))) ∧ Below w.heap.size w wr) (fun _ wr => wr.rangeLeft (w.heap.size + 1) W.heap.size)
    case atStart =>
      refine ⟨_, _, hrg, Lib.hid fun t ht hno => ?_, Lib.hid ((hg1.block _ (HLE.out.lt) (by simp)).trans HLE.out), Lib.hid ((hg1.block _ HDL.out (by simp)).trans HKD.out), HBEL.out.trans ⟨hg1.os, hg1.tape, hg1.output, hg1.size, fun k hk => hg1.block k (by have := HBW.out; omega) (by simp)⟩⟩
      exfalso
      have h1 := atKey_of_not_has hno (.lit (.int .i64 0))
      rw [HTAL.out t] at h1
      have h2 := List.count_pos_iff.2 ht
      simp only [DataW.lit.injEq, Lit.int.injEq, true_and] at h1
      omega
    case round =>
      obtain ⟨left, cnt, hrg, hcn, hle, hdf, hb⟩ := hrel
      gi_wp2_with (first
        | (gi_at_next; refine wpListIn_next_ranges_ii _ rfl _ rfl 3 3 .i64 .i64 law11 Try.underlying3 Try.underlying3 (w.heap.size + 1) W.heap.size _ Dm left cnt rfl hrg ?_ ?_))
      · intro hc0 hl0
        have hnd : came.Nodup := List.nodup_iff_count.2 fun t => by
          by_cases ht : t ∈ came
          · exact hcn.out t ht (hl0 _)
          · rw [List.count_eq_zero.2 ht]; omega
        have hres : Ck.tour cols a = er := by unfold Ck.tour; rw [HRUN.out, if_pos hnd]
        have r0 := hle.out.cell (i := 0) rfl
        have HRES := Lib.hid hres
        have HB := Lib.hid (hb.trans (below_putObj wr N (.deferred none) HND.out))
        clear hnd hres hc0 hl0 hrg hb
        gi_wp2_with fail
        refine ⟨by simp, .inl ⟨_, _, rfl, run_takeDeferred hdf.out, ?_⟩⟩
        exact ⟨_, results_tmp (t := 2) rfl _ _ _, by rw [HRES.out]; rfl, HB.out⟩
      · intro xk ck w2 cnt2 hwx hwc hlx hat hrg2 hlt hg2 hs2 hen
        have hcx : ck = ((came.count xk : Nat) : Int) := by
          have e := (hat (.lit (.int .i64 0))).symm.trans (HTAL.out xk)
          simp only [DataW.lit.injEq, Lit.int.injEq, true_and] at e
          exact e
        have hdr : N < wr.heap.size := (Array.getElem?_eq_some_iff.1 hdf.out).1
        have hdf2 : w2.heap[N]? = some (.deferred (some [])) := (hg2.block N hdr (fun e => by have := HDL.out; have := Option.some.inj e; omega)).trans hdf.out
        have hle2 : Lies w2 (w.heap.size + 1 + 1) 34 [.int .i64 er] := (hg2.block _ hle.out.lt (fun e => by have := HLE.out.lt; have := Option.some.inj e; omega)).trans hle.out
        have hb2 : Below w.heap.size w w2 := hb.trans ⟨hg2.os, hg2.tape, hg2.output, hg2.size, fun k hk => hg2.block k (by have := hb.size; omega) (fun e => by have := HBW.out; have := Option.some.inj e; omega)⟩
        have HDF2 := Lib.hid hdf2
        have HLE2 := Lib.hid hle2
        have HB2 := Lib.hid hb2
        have HLT := Lib.hid hlt
        clear hs2 hdf2 hle2 hb2 hat hwx hlx hg2 hb hdr hlt
        by_cases h1 : 1 < ck
        · have hnd : ¬ came.Nodup := fun h => by have := List.nodup_iff_count.1 h xk; omega
          have hres : Ck.tour cols a = 6 := by unfold Ck.tour; rw [HRUN.out, if_neg hnd]
          have HRES := Lib.hid hres
          have HB := Lib.hid (HB2.out.trans (below_putObj w2 N (.deferred none) HND.out))
          clear hnd hres hcx hrg hrg2
          gi_wp2_with fail
          refine ⟨by simp, .inl ⟨_, _, rfl, run_takeDeferred HDF2.out, ?_⟩⟩
          exact ⟨_, results_tmp (t := 2) rfl _ _ _, by rw [HRES.out]; rfl, HB.out⟩
        · have hcn2 : Hid (∀ t ∈ came, (left (.int .i64 t) && !(Lit.int .i64 t).sameKey (.int .i64 xk)) = false → came.count t ≤ 1) := Lib.hid fun t ht hno => by
            rw [Bool.and_eq_false_iff] at hno
            rcases hno with hno | hno
            · exact hcn.out t ht hno
            · have e := WideAt.sameKey_eq (by simpa using hno)
              simp only [Lit.int.injEq, true_and] at e
              subst e
              omega
          have HRG2 := Lib.hid hrg2
          have HRG := Lib.hid hrg
          clear hcx hrg2 hrg
          gi_wp2_with fail
          go_roundw
          case rel => exact ⟨fun z => left z && !z.sameKey (.int .i64 xk), cnt2, HRG2.out, hcn2, HLE2, HDF2, HB2.out⟩
          case measure => rw [HRG2.out.left_eq, HRG.out.left_eq]; exact HLT.out
end Go.Proofs.Ytdcgfhenlddmeaa
