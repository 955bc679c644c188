/-
  PACKAGE nest: Join, by a range over the tour.
-/
import Derived.Test.YtghonbnmakggnaaDoorNsiM
namespace Go.Proofs.YtghonbnmakggnaaDoor
open Go.RowKit Go.Shelf
attribute [local go_sem] Oper.semAt_some
set_option maxHeartbeats 1600000

theorem below_putObj14 (W : World) (D : Nat) (o : Obj) {B : Nat} (h : B ≤ D) : Below B W (W.putObj D o) :=
  ⟨rfl, rfl, rfl, by simp, fun k hk => World.putObj_heap_other (by omega)⟩
/-- append of a slice of no element, inside a fence: the list as it was -/
theorem wpListIn_append_zero {F : Fence} {n : Nat} {P : Program} (w : World) {ops : Array Oper} {rest : List Oper} {o : Oper} {a : Act} {Q : Exit → Act → World → Prop} (hgd : o.guard = none) (s x : Operand) (t : TypeId)
    (ho : o.op = .call { callee := .builtin .append, args := #[s, x], argTypes := #[t, t] }) (e : TypeId) (i : TypeInfo) (ht : P.underlying t = some (.slice e)) (hi : P.info? e = some i)
    (A B : Option Addr) (k cap c : Nat) (hs : a.eval s = .slice A k cap) (hx : a.eval x = .slice B 0 c) (hn : k ≤ cap) (h : wpListIn F n P ops Q rest (a.put o.dst (.slice A k cap)) w) : wpListIn F n P ops Q (o :: rest) a w := by
  refine wpListIn_plain hgd fun K hK => ?_
  have hf : (Builtin.firstCells i.size 0 (.slice B 0 c)).run P w = .ok #[] w := by
    cases B with
    | none => exact run_firstCells_none w i.size 0 0 c
    | some ad => exact run_firstCells_some (P := P) w i.size 0 ad 0 c [] (by simp) (by simp)
  have hrun : (Builtin.append_ #[t, t] o.type #[.slice A k cap, .slice B 0 c]).run P w = .ok (.slice A k cap) w := by
    cases A <;> simp [Builtin.append_, run_underlying ht, sizeOf, typeInfo, hi, Builtin.lenOf, hn, hf, storeCells]
  unfold Oper.wpIn
  refine ⟨?_, ?_⟩
  · simp [Oper.about, ho, resolve, Target.leads, Sem.run_pure]
  · rw [Oper.semAt_plain F _ _ (by rw [ho]; intro c hc'; cases hc')]
    simp [execOp, ho, resolve, invoke, builtin, hs, hx, hrun, Result.andThen]
    exact hK _ _ h
/-- between two rounds: the tuples so far, in a list whose slice lies in a box -/
structure JnI (w : World) (k : Int) (ps : List Pd) (R : List (List (List Vl))) (pre : List (List (List Vl))) (O : Nat → Prop) (W : World) (A : Option Addr) (m a : Nat) (us : List Value) : Prop where
  own : ∀ j, O j ↔ j = w.heap.size ∨ (Value.slice A m a).ownBlock = some j
  box : Boxed W w.heap.size 27 (.slice A m a)
  row : TuRow (fun j => w.heap.size + 7 ≤ j) (w.heap.size + 5) W (.slice A m a) m us (Ns.join k ps pre R)
  cap : m ≤ a
  len : m ≤ pre.length * 101
  below : Below w.heap.size w W
  size : w.heap.size + 5 ≤ W.heap.size
def JnS (w : World) (k : Int) (ps : List Pd) (R : List (List (List Vl))) (pre : List (List (List Vl))) (O : Nat → Prop) (W : World) : Prop := ∃ A m a us, JnI w k ps R pre O W A m a us
theorem JnI.keep {w : World} {k : Int} {ps : List Pd} {R pre : List (List (List Vl))} {O S : Nat → Prop} {W W' : World} {A : Option Addr} {m a : Nat} {us : List Value} (h : JnI w k ps R pre O W A m a us) (hk : Keeps (fun j => O j ∨ S j) W W') (hS : ∀ j, j < w.heap.size ∨ w.heap.size + 7 ≤ j → S j) : JnI w k ps R pre O W' A m a us :=
  ⟨h.own, (hk.same _ h.box.lt (.inl ((h.own _).2 (.inl rfl)))).trans h.box, h.row.keep hk (fun j hj => .inl ((h.own j).2 (.inr hj))) (fun j _ _ hj => .inr (hS j (.inr hj))), h.cap, h.len, h.below.trans (hk.below (h.below.size) fun j hj => .inr (hS j (.inl hj))), Nat.le_trans h.size hk.size⟩
/-- the list in its box anew -/
theorem JnI.step {w : World} {k : Int} {ps : List Pd} {R pre : List (List (List Vl))} {t : List (List Vl)} {O : Nat → Prop} {W W1 : World} {A A' : Option Addr} {m a m' a' : Nat} {us us' : List Value} (h : JnI w k ps R pre O W A m a us) (hg : W.grownBy W1 (Value.slice A m a).ownBlock)
    (hw : (Value.slice A' m' a').ownBlock = (Value.slice A m a).ownBlock ∨ ∃ g, (Value.slice A' m' a').ownBlock = some g ∧ W.heap.size ≤ g)
    (hrow : TuRow (fun j => w.heap.size + 7 ≤ j) (w.heap.size + 5) W1 (.slice A' m' a') m' us' (Ns.join k ps (pre ++ [t]) R)) (hc : m' ≤ a') (hl : m' ≤ (pre ++ [t]).length * 101) :
    (∃ O', JnS w k ps R (pre ++ [t]) O' (W1.setCell ⟨w.heap.size, 0, none⟩ (.slice A' m' a')) ∧ Chg O W O' (W1.setCell ⟨w.heap.size, 0, none⟩ (.slice A' m' a'))) := by
  have hlt := h.box.lt
  have hne : (Value.slice A m a).ownBlock ≠ some w.heap.size := fun e => by have := (h.row.own.lt _ e).1; omega
  have hbx : Boxed W1 w.heap.size 27 (.slice A m a) := (hg.block _ hlt (fun e => hne e.symm)).trans h.box
  have hset : ∀ j, j ≠ w.heap.size → (W1.setCell ⟨w.heap.size, 0, none⟩ (.slice A' m' a')).heap[j]? = W1.heap[j]? := fun j hj => Below.heap_setCell _ _ _ _ hj
  have hk1 : Keeps (fun j => j ≠ w.heap.size) W1 (W1.setCell ⟨w.heap.size, 0, none⟩ (.slice A' m' a')) := ⟨rfl, rfl, rfl, by simp, fun j _ hj => hset j hj⟩
  refine ⟨fun j => j = w.heap.size ∨ (Value.slice A' m' a').ownBlock = some j, ⟨A', m', a', us', fun _ => Iff.rfl, hbx.set _, hrow.keep hk1 (fun j hj e => by have := (hrow.own.lt j hj).1; omega) (fun j _ _ hj => by omega), hc, hl, ?_, Nat.le_trans h.size (by simpa using hg.size)⟩, ⟨⟨hg.os, hg.tape, hg.output, by simpa using hg.size, fun j hj hn => ?_⟩, fun j hj hO => ?_⟩⟩
  · refine (h.below.trans ⟨hg.os, hg.tape, hg.output, hg.size, fun j hj => hg.block j (by have := h.below.size; omega) (fun e => by have := (h.row.own.lt _ e.symm).1; omega)⟩).setCell (Nat.le_refl _) _
  · have h1 : j ≠ w.heap.size := fun e => hn ((h.own j).2 (.inl e))
    have h2 : (Value.slice A m a).ownBlock ≠ some j := fun e => hn ((h.own j).2 (.inr e))
    exact (hset j h1).trans (hg.block j hj (fun e => h2 e.symm))
  · rcases hO with hO | hO
    · exact (h.own j).2 (.inl hO)
    · rcases hw with e | ⟨g, e, hge⟩
      · exact (h.own j).2 (.inr (e ▸ hO))
      · rw [e] at hO; cases hO; omega
/-- what Join hands back: a list of the call's own -/
def OwnTus (w : World) (ts : List (List (List Vl))) (E : Ending) (w' : World) : Prop :=
  ∃ A a us, E = .returned (.slice A ts.length a) ∧ TuRow (fun j => w.heap.size ≤ j) w.heap.size w' (.slice A ts.length a) ts.length us ts ∧ ts.length ≤ a ∧ Below w.heap.size w w'
theorem OwnTus.tuples {w w' : World} {ts : List (List (List Vl))} {E : Ending} (h : OwnTus w ts E w') : Tuples w ts E w' := by
  obtain ⟨A, a, us, h1, h2, _, h3⟩ := h
  exact ⟨A, a, h1, h2.tus, h3⟩
set_option maxRecDepth 100000 in
theorem njoin_own (k : Int) (d : Nat) (cv lv rv : Value) (ps : List Pd) (L R : List (List (List Vl))) (w : World) (hp : PsAt d w cv ps) (hsz : Pr.sizes ps ≤ 1000) (hW : Want w) (hl : TusOn Al w lv L) (hr : TusOn Al w rv R)
    (hfl : Ns.Few 100 100 L) (hfr : Ns.Few 100 100 R) :
    Calls Tryd.prog 14 #[.int .i64 k, cv, lv, rv] w (OwnTus w (Ns.join k ps L R)) := by
  obtain ⟨i0, hi, hz0, hz1, hz2⟩ := info_parts Tryd.infoTup13
  obtain ⟨P0, p0, rfl, _⟩ := hp.form
  obtain ⟨L0, c0, rfl, _⟩ := hl.form
  obtain ⟨R0, c1, rfl, _⟩ := hr.form
  have ce := fun W => neach_any k (.slice P0 ps.length p0) (.slice L0 L.length c0) (.slice R0 R.length c1) W ⟨_, _, _, rfl⟩ ⟨_, _, _, rfl⟩ ⟨_, _, _, rfl⟩
  have HP := Lib.hid (And.intro hp (And.intro hl hr))
  have HF := Lib.hid (And.intro hsz (And.intro hW (And.intro hfl hfr)))
  clear hp hl hr hsz hW hfl hfr
  obtain ⟨n, hn⟩ : ∃ n, n = L.length := ⟨_, rfl⟩
  obtain ⟨rl, hrl⟩ : ∃ n, n = R.length := ⟨_, rfl⟩
  obtain ⟨pl, hpl⟩ : ∃ n, n = ps.length := ⟨_, rfl⟩
  rw [← hn, ← hpl, ← hrl] at ce HP ⊢
  have HN := Lib.hid (And.intro hn (And.intro hrl hpl))
  clear hn hrl hpl
  refine (callsIn_wide (n := 9)).1 ?_
  refine callsIn_of_wp_marks Tryd.func14 rfl trivial ?_ rfl
  simp only [Tryd.ntmps14, List.size_toArray, List.length_cons, List.length_nil, Nat.reduceAdd, Nat.reduceSub, Array.replicate_succ, Array.replicate_zero, List.push_toArray, List.append_toArray, List.nil_append, List.cons_append]
  gi_wp2_with fail
  refine ⟨trivial, (callsIn_wide.2 (ce _)).mono ?_⟩
  rintro e w' ⟨rfl, rfl⟩
  clear ce
  gi_wp2_with fail
  obtain ⟨w5, hw5⟩ : ∃ w5, (((((w.alloc (Obj.cells #[.slice none 0 0] 27)).alloc (Obj.cells #[.int .i64 k] 3)).alloc (Obj.cells #[.slice P0 pl p0] 22)).alloc (Obj.cells #[.slice L0 n c0] 27)).alloc (Obj.cells #[.slice R0 rl c1] 27)) = w5 := ⟨_, rfl⟩
  have hcells := ns_cells (w.alloc (Obj.cells #[.slice none 0 0] 27)) k (.slice P0 pl p0) (.slice L0 n c0) (.slice R0 rl c1)
  have hbox0 := (((((Boxed.new w 27 (.slice none 0 0)).alloc (Obj.cells #[.int .i64 k] 3)).alloc (Obj.cells #[.slice P0 pl p0] 22)).alloc (Obj.cells #[.slice L0 n c0] 27)).alloc (Obj.cells #[.slice R0 rl c1] 27))
  have hb5 : Below w.heap.size w w5 := by rw [← hw5]; exact (((((Below.refl _ w).alloc (Nat.le_refl _) _).alloc (by simp) _).alloc (by simp; omega) _).alloc (by simp; omega) _).alloc (by simp; omega) _
  have hs5 : w5.heap.size = w.heap.size + 5 := by rw [← hw5]; simp
  rw [hw5] at hcells hbox0
  rw [World.size_alloc] at hcells
  rw [hw5]
  obtain ⟨T, hT⟩ : ∃ T : Nat → Prop, T = fun j => j < w5.heap.size ∧ j ≠ w.heap.size := ⟨_, rfl⟩
  have hTl : ∀ j, j < w.heap.size → T j := fun j hj => by rw [hT]; exact ⟨by omega, by omega⟩
  have hI0 : JnI w k ps R [] (fun j => j = w.heap.size) w5 none 0 0 [] := ⟨fun j => ⟨fun h => .inl h, fun h => h.elim id fun h => by cases h⟩, hbox0, ⟨World.ownsRow_nil _ _ _ _, rfl, fun i t h => by simp [Ns.join] at h⟩, Nat.le_refl _, Nat.zero_le _, hb5, by omega⟩
  have hsz := HF.out.1
  have hW := HF.out.2.1
  have hfl := HF.out.2.2.1
  have hfr := HF.out.2.2.2
  have hit := neach_iter 7 T w5 (fun j hj => by rw [hT] at hj; exact hj.1) (w.heap.size + 1) (w.heap.size + 1 + 1) (w.heap.size + 1 + 1 + 1) (w.heap.size + 1 + 1 + 1 + 1) k d _ _ _ ps L R hcells (by rw [hT]; exact ⟨by omega, by omega⟩) (by rw [hT]; exact ⟨by omega, by omega⟩) (by rw [hT]; exact ⟨by omega, by omega⟩) (by rw [hT]; exact ⟨by omega, by omega⟩)
    ((HP.out.1.on (T := fun j => j < w.heap.size) (fun _ h => h)).keep hb5.size fun j hj hlt => ⟨hb5.block j hlt, hTl j hj⟩) (((HP.out.2.1.mono (S := fun j => j < w.heap.size) fun _ h _ => h).below hb5 (Nat.le_refl _)).mono fun j _ hj => hTl j hj) (((HP.out.2.2.mono (S := fun j => j < w.heap.size) fun _ h _ => h).below hb5 (Nat.le_refl _)).mono fun j _ hj => hTl j hj)
    (fun W hk => hW.below (hb5.trans (hk.below (by omega) hTl)) (Nat.le_refl _)) hsz hfl hfr
  clear hcells hbox0 hw5
  refine wpIn_range_rel rfl (by omega) (gf := 39) (lb := #[.pointer (some ⟨w.heap.size + 1 + 1 + 1, 0, none⟩), .pointer (some ⟨w.heap.size + 1, 0, none⟩), .pointer (some ⟨w.heap.size + 1 + 1, 0, none⟩), .pointer (some ⟨w.heap.size + 1 + 1 + 1 + 1, 0, none⟩)]) rfl trivial (enters_of Tryd.func39 (by kernel_rfl) rfl)
    hit ?hpre ?hC ?hps ?hR (JnS w k ps R) (fun _ _ _ _ => False) ?hI ?hIx ?hSD ?hIO (fun j => j = w.heap.size) ?hO ⟨none, 0, 0, [], hI0⟩
    (fun _ _ _ v a' => ∃ A c n', v = #[.slice A n' c] ∧ a' = { tmps := #[.int .i64 k, .slice P0 pl p0, .slice L0 n c0, .slice R0 rl c1, undef, undef, undef, undef, .slice none 0 0, .pointer (some ⟨w.heap.size, 0, none⟩), .slice A n' c, .int .i64 k, .slice P0 pl p0, .slice L0 n c0, .slice R0 rl c1, .func (.func 39) #[] #[.pointer (some ⟨w.heap.size + 1 + 1 + 1, 0, none⟩), .pointer (some ⟨w.heap.size + 1, 0, none⟩), .pointer (some ⟨w.heap.size + 1 + 1, 0, none⟩), .pointer (some ⟨w.heap.size + 1 + 1 + 1 + 1, 0, none⟩)], .slice A n' c, undef, undef, undef, undef], defers := [] })
    (fun _ _ _ _ _ _ _ h => h) ?assign ?body ?done ?stop
  case hpre => exact fun W3 hb => keeps_all hb
  case hC => intro j hj; rw [hT] at hj; exact hj.1
  case hps => rintro B O W x vs ⟨A, c, rfl, _⟩; rfl
  case hR =>
    rintro O O' W W' x vs hOL hOO hk ⟨A, c, rfl, hx⟩
    refine ⟨A, c, rfl, (hx.keep hk fun j _ hj e => ?_).mono fun j _ hj => ⟨fun h => hj.1 (hOO j h), hj.2⟩⟩
    exact hj.1 (e ▸ hOL)
  case hI =>
    rintro pre O A B ⟨A', m, a, us, h⟩ hk
    exact ⟨A', m, a, us, h.keep hk fun j hj => ⟨trivial, by omega, by omega⟩⟩
  case hIx => intro c pre O A B h _; exact h
  case hSD => intro j _; trivial
  case hIO =>
    rintro pre O W ⟨A', m, a, us, h⟩ j hj
    rcases (h.own j).1 hj with e | e
    · exact ⟨by rw [e]; exact h.box.lt, fun hc => by rw [hT] at hc; exact hc.2 e⟩
    · exact ⟨(h.row.own.lt j e).2, fun hc => by rw [hT] at hc; have := hc.1; have := (h.row.own.lt j e).1; omega⟩
  case hO => intro j hj; omega
  case assign =>
    rintro l2 x vs O W3 K _ _ ⟨A, c, rfl, _⟩ hK
    rw [show (#[16] : Array Tmp).zip #[Value.slice A (Mt.extend k ps x R).length c] = #[(16, Value.slice A (Mt.extend k ps x R).length c)] from by simp [List.zip_toArray]]
    generalize (Mt.extend k ps x R).length = ml at *
    gi_wp2
    exact hK _ _ (Keeps.refl _ _) ⟨A, c, ml, rfl, rfl⟩
  case body =>
    rintro l2 pre x vs O W3 a' hl2 ⟨A', m, a, us, h⟩ hpx ⟨MA, mc, hvs, hMO⟩ ⟨A2, c2, n2, hv2, rfl⟩
    rw [hvs] at hv2
    obtain ⟨rfl, rfl, rfl⟩ : MA = A2 ∧ (Mt.extend k ps x R).length = n2 ∧ mc = c2 := by simpa using hv2
    have hlen := hpx.length_le
    rw [List.length_append, List.length_singleton] at hlen
    have hl100 := HF.out.2.2.1.len
    have hr100 := HF.out.2.2.2.len
    have hel := Ns.extend_le k ps x R
    have hjn : Ns.join k ps (pre ++ [x]) R = Ns.join k ps pre R ++ Mt.extend k ps x R := by rw [Ns.join_append, Ns.join_one]
    have hll : (pre ++ [x]).length = pre.length + 1 := by simp
    obtain ⟨M, hM⟩ : ∃ M, M = Mt.extend k ps x R := ⟨_, rfl⟩
    rw [← hM] at hMO hel hjn ⊢
    obtain ⟨news, hn1, hn2, hn3, hn4, hn5⟩ := h.row.more hMO (fun j _ hj => ⟨fun e => hj.1 ((h.own j).2 (.inr e)), by omega⟩)
    obtain ⟨ml, hml⟩ : ∃ ml, ml = M.length := ⟨_, rfl⟩
    rw [← hml] at hn1 hn2 hn4 hn5 hel ⊢
    have hc1 := h.box.cell
    have hc2 := h.box.frozen
    have HH := Lib.hid h
    have HS3 := Lib.hid h.size
    have HN5 := Lib.hid hn5
    have HJN := Lib.hid hjn
    have hmm := h.len
    have hcap := h.cap
    have hm10 : m ≤ 10100 := by omega
    have hml1 : ml ≤ 101 := by omega
    have hfit : m + ml ≤ (pre ++ [x]).length * 101 := by omega
    have HFIT := Lib.hid hfit
    clear hn5 hjn hll hvs hv2 hM hpx hlen hl100 hr100 hel hmm hfit h hml hMO hn2 hI0 hit hTl
    by_cases hz : ml = 0
    · subst hz
      obtain rfl : news = [] := List.eq_nil_of_length_eq_zero hn1
      have hst := HH.out.step (t := x) (A' := A') (m' := m) (a' := a) (us' := us) (W1 := W3) ⟨rfl, rfl, rfl, Nat.le_refl _, fun _ _ _ => rfl⟩ (.inl rfl) (by
        have h5 := HN5.out _ W3 (by simpa using HH.out.row.own) ⟨rfl, rfl, rfl, Nat.le_refl _, fun _ _ _ => rfl⟩ (.inl rfl)
        rw [← HJN.out, List.append_nil] at h5
        exact h5) hcap HFIT.out
      have HST := Lib.hid hst
      clear hst hn1 hn3 hn4
      gi_wp2_with (gi_at_builtin; refine wpListIn_append_zero _ rfl _ _ 27 rfl 25 i0 Tryd.underlying27 hi A' MA m a mc rfl rfl hcap ?_)
      exact HST.out
    · obtain ⟨ad, rfl, hn6⟩ := hn4 (by omega)
      have HN6 := Lib.hid hn6
      have HN3 := Lib.hid hn3
      have HN1 := Lib.hid (show news.length = ml * 1 by omega)
      clear hn1 hn3 hn4 hn6 hz
      gi_wp2_with (gi_at_builtin; refine wpListIn_append_sep _ rfl _ _ 27 rfl (w.heap.size + 5) 25 i0 (.slice none 0 0) 1 24 Tryd.underlying27 hi hz0 hz1 hz2 rfl (by decide) _ m us rfl HH.out.row.own ad ml mc news rfl HN1.out ?c1 ?c2 ?c3 ?c4 ?c5 ?_)
      case c1 => exact HN6.out
      case c2 => exact HN3.out
      case c3 => unfold maxLen; omega
      case c4 => omega
      case c5 => have := HS3.out; omega
      intro v1 w6 hown6 hgrow hwhere
      obtain ⟨A6, a6, rfl, ha6⟩ : ∃ A6 a6, v1 = .slice A6 (m + ml) a6 ∧ m + ml ≤ a6 := by
        rcases hown6.2 with ⟨rfl, h0⟩ | ⟨g, cap, cur, rfl, _, _, hnc, _⟩
        · rw [h0]; exact ⟨none, 0, rfl, Nat.le_refl _⟩
        · exact ⟨_, cap, rfl, hnc⟩
      have hst := HH.out.step (t := x) hgrow hwhere (by rw [HJN.out]; exact HN5.out _ w6 hown6 hgrow hwhere) ha6 HFIT.out
      have hbx : Boxed w6 w.heap.size 27 (.slice A' m a) := (hgrow.block _ HH.out.box.lt (fun e => by have := (HH.out.row.own.lt _ e.symm).1; omega)).trans HH.out.box
      have hd1 := hbx.cell
      have hd2 := hbx.frozen
      have HST := Lib.hid hst
      clear hst hown6 hgrow hwhere hbx hc1 hc2
      gi_wp2_with fail
      exact HST.out
  case done =>
    rintro D O W3 hD ⟨A', m, a, us, h⟩ hOD hK
    have hc1 := h.box.cell
    have hlen := h.row.len
    have hcap := h.cap
    have hfin := Lib.hid (show OwnTus w (Ns.join k ps L R) (.returned (.slice A' m a)) (W3.putObj D (.deferred none)) from by
      have h2 := h.row.keep (S := fun j => j ≠ D) (Keeps.putObj W3 D (.deferred none) fun h => h rfl) (fun j hj e => hOD ((h.own D).2 (.inr (e ▸ hj)))) (fun j _ _ hj e => by omega)
      have h3 : TuRow (fun j => w.heap.size ≤ j) w.heap.size (W3.putObj D (.deferred none)) (.slice A' m a) m us (Ns.join k ps L R) := ⟨h2.own.mono (by omega), h2.len, fun i t hi => by
        obtain ⟨u, h4, h5⟩ := h2.tup i t hi
        exact ⟨u, h4, h5.mono fun j _ hj => ⟨hj.1, by omega⟩⟩⟩
      exact ⟨A', a, us, by rw [hlen], by rw [hlen]; exact h3, by rw [hlen]; exact hcap, h.below.trans (below_putObj14 W3 D (.deferred none) (show w.heap.size ≤ D by omega))⟩)
    clear h
    gi_wp2
    refine ⟨by simp, .inl ⟨_, _, rfl, run_takeDeferred hK, ?_⟩⟩
    exact ⟨_, results_tmp (t := 8) rfl _ _ _, hfin.out⟩
  case stop => rintro D c pre O W3 hD hpx h; exact h.elim
theorem njoin_any (k : Int) (d : Nat) (cv lv rv : Value) (ps : List Pd) (L R : List (List (List Vl))) (w : World) (hp : PsAt d w cv ps) (hsz : Pr.sizes ps ≤ 1000) (hW : Want w) (hl : TusOn Al w lv L) (hr : TusOn Al w rv R)
    (hfl : Ns.Few 100 100 L) (hfr : Ns.Few 100 100 R) :
    Calls Tryd.prog 14 #[.int .i64 k, cv, lv, rv] w (Tuples w (Ns.join k ps L R)) := (njoin_own k d cv lv rv ps L R w hp hsz hW hl hr hfl hfr).mono fun _ _ h => h.tuples
end Go.Proofs.YtghonbnmakggnaaDoor
