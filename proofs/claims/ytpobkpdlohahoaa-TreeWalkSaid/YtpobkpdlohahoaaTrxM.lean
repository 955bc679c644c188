/-
  package tree: Size and Tables, by a range over the tour.
-/
import Derived.Test.YtpobkpdlohahoaaTrwM
import Derived.Test.YtpobkpdlohahoaaTrgM
namespace Go.Proofs.Ytpobkpdlohahoaa
open Go.RowKit Go.Shelf
attribute [local go_sem] Oper.semAt_some
set_option maxHeartbeats 800000

theorem form_trs {w : World} {u : Value} {l : List Tr} (h : ∃ d, TsAt d w u l) : ∃ A n c, u = .slice A n c := by
  obtain ⟨d, h⟩ := h
  obtain ⟨A, c, h, _⟩ := h.form
  exact ⟨A, _, c, h⟩
theorem form_pds {w : World} {u : Value} {l : List Pd} (h : PsSome w u l) : ∃ A n c, u = .slice A n c := by
  obtain ⟨d, h⟩ := h
  obtain ⟨A, c, h, _⟩ := h.form
  exact ⟨A, _, c, h⟩
theorem below_putObj (W : World) (D : Nat) (o : Obj) {B : Nat} (h : B ≤ D) : Below B W (W.putObj D o) :=
  ⟨rfl, rfl, rfl, by simp, fun k hk => World.putObj_heap_other (by omega)⟩
/-- between two rounds: the count in its box -/
structure CountI (w : World) (T : TypeId) (val : List TrV → Value) (pre : List TrV) (O : Nat → Prop) (W : World) : Prop where
  own : ∀ k, O k ↔ k = w.heap.size + 1
  box : Boxed W (w.heap.size + 1) T (val pre)
  below : Below w.heap.size w W
theorem CountI.keep {w : World} {T : TypeId} {val : List TrV → Value} {pre : List TrV} {O : Nat → Prop} {W W' : World} {S : Nat → Prop} (h : CountI w T val pre O W) (hk : Keeps (fun k => O k ∨ S k) W W') (hS : ∀ k, k < w.heap.size → S k) : CountI w T val pre O W' :=
  ⟨h.own, (hk.same _ h.box.lt (.inl ((h.own _).2 rfl))).trans h.box, h.below.trans (hk.below (Nat.le_trans h.below.size (Nat.le_refl _)) fun k hk => .inr (hS k hk))⟩
theorem CountI.step {w : World} {T : TypeId} {val : List TrV → Value} {pre : List TrV} {x : TrV} {O : Nat → Prop} {W W1 : World} (h : CountI w T val pre O W) (hb : Below W.heap.size W W1) :
    CountI w T val (pre ++ [x]) O (W1.setCell ⟨w.heap.size + 1, 0, none⟩ (val (pre ++ [x]))) ∧ Chg O W O (W1.setCell ⟨w.heap.size + 1, 0, none⟩ (val (pre ++ [x]))) := by
  have hlt := h.box.lt
  have hbx : Boxed W1 (w.heap.size + 1) T (val pre) := (hb.block _ hlt).trans h.box
  refine ⟨⟨h.own, hbx.set _, (h.below.trans ⟨hb.os, hb.tape, hb.output, hb.size, fun k hk => hb.block k (by have := h.below.size; omega)⟩).setCell (by show w.heap.size ≤ w.heap.size + 1; omega) _⟩, ⟨hb.os, hb.tape, hb.output, by simpa using hb.size, fun k hk hn => ?_⟩, fun _ _ h => h⟩
  have hne : k ≠ w.heap.size + 1 := fun e => hn ((h.own k).2 e)
  exact (Below.heap_setCell W1 _ _ k hne).trans (hb.block k hk)
set_option maxRecDepth 100000 in
theorem tsize_any (a : Tr) (u v : Value) (w : World) (hu : ∃ d, TsAt d w u a.ks) (hv : PsSome w v a.cs) (hsz : Tr.size a ≤ 1000) :
    Calls Try.prog 15 #[.agg #[.int .i64 a.k, .int .i64 a.t, u, v, .bool a.h]] w fun e w' => e = .returned (.int .i64 ((Tr.all a).length : Nat)) ∧ Below w.heap.size w w' := by
  have hon : TrOn (fun k => k < w.heap.size) w (a, u, v) := TrHang.on ⟨hu, hv⟩ (fun k h => h)
  obtain ⟨A, n, c, rfl⟩ := form_trs hu
  obtain ⟨A', n', c', rfl⟩ := form_pds hv
  have cw := fun W => within_any a (.slice A n c) (.slice A' n' c') W ⟨_, _, _, rfl⟩ ⟨_, _, _, rfl⟩
  have hlen : (Tr.flat w a (.slice A n c) (.slice A' n' c')).length = (Tr.all a).length := by rw [← Tr.flat_fst w a (.slice A n c) (.slice A' n' c'), List.length_map]
  have hle := Tr.all_length_le a
  have HS := Lib.hid hlen
  have HON := Lib.hid hon
  have HL := Lib.hid (show (Tr.all a).length ≤ 1000 by omega)
  clear hu hv hsz hle hlen hon
  refine (callsIn_wide (n := 9)).1 ?_
  refine callsIn_of_wp_marks Try.func15 rfl trivial ?_ rfl
  simp only [Try.ntmps15, List.size_toArray, List.length_cons, List.length_nil, Nat.reduceAdd, Nat.reduceSub, Array.replicate_succ, Array.replicate_zero, List.push_toArray, List.append_toArray, List.nil_append, List.cons_append]
  gi_wp2_with fail
  refine ⟨trivial, (callsIn_wide.2 (cw _)).mono ?_⟩
  rintro e w' ⟨rfl, rfl⟩
  clear cw
  gi_wp2_with fail
  obtain ⟨w4, hw4⟩ : ∃ w4, ((w.alloc (Obj.cells #[.int .i64 a.k, .int .i64 a.t, .slice A n c, .slice A' n' c', .bool a.h] 25)).alloc (Obj.cells #[.int .i64 0] 3)).alloc (Obj.cells #[.int .i64 a.k, .int .i64 a.t, .slice A n c, .slice A' n' c', .bool a.h] 25) = w4 := ⟨_, rfl⟩
  have hz : w4.heap.size = w.heap.size + 3 := by rw [← hw4]; simp
  have hb4 : Below w.heap.size w w4 := by rw [← hw4]; exact (((Below.refl _ w).alloc (Nat.le_refl _) _).alloc (by simp) _).alloc (by simp; omega) _
  have hbox : Boxed w4 (w.heap.size + 1) 3 (.int .i64 ((([] : List TrV).length : Nat) : Int)) := by
    rw [← hw4]
    have := (Boxed.new (w.alloc (Obj.cells #[.int .i64 a.k, .int .i64 a.t, .slice A n c, .slice A' n' c', .bool a.h] 25)) 3 (.int .i64 0)).alloc (Obj.cells #[.int .i64 a.k, .int .i64 a.t, .slice A n c, .slice A' n' c', .bool a.h] 25)
    rwa [World.size_alloc] at this
  have htc : TrCell w4 ⟨w.heap.size + 2, 0, none⟩ a (.slice A n c) (.slice A' n' c') := by
    have := (tr_box (w := (w.alloc (Obj.cells #[.int .i64 a.k, .int .i64 a.t, .slice A n c, .slice A' n' c', .bool a.h] 25)).alloc (Obj.cells #[.int .i64 0] 3)) (T := 25) (a := a) (u := .slice A n c) (v := .slice A' n' c') rfl).2.1
    rw [World.size_alloc, World.size_alloc] at this
    rw [← hw4]
    exact this
  have hI0 : CountI w 3 (fun pre => .int .i64 (pre.length : Nat)) [] (fun k => k = w.heap.size + 1) w4 := ⟨fun _ => Iff.rfl, hbox, hb4⟩
  rw [hw4]
  clear hw4 hbox
  refine wpIn_range_rel rfl (by omega) (gf := 34) (lb := #[.pointer (some ⟨w.heap.size + 2, 0, none⟩)]) rfl trivial (enters_of Try.func34 (by kernel_rfl) rfl)
    (within_iter 7 (fun k => k < w.heap.size) w (fun k h => h) (w.heap.size + 2) a (.slice A n c) (.slice A' n' c') HON.out) ?hpre ?hC ?hps ?hR (CountI w 3 (fun pre => .int .i64 (pre.length : Nat))) (fun _ _ _ _ => False) ?hI ?hIx ?hSD ?hIO (fun k => k = w.heap.size + 1) ?hO hI0
    (fun _ _ x _ a' => a' = { tmps := #[.agg #[.int .i64 a.k, .int .i64 a.t, .slice A n c, .slice A' n' c', .bool a.h], .pointer (some ⟨w.heap.size, 0, none⟩), .int .i64 0, .pointer (some ⟨w.heap.size + 1, 0, none⟩), .agg #[.int .i64 a.k, .int .i64 a.t, .slice A n c, .slice A' n' c', .bool a.h], .func (.func 34) #[] #[.pointer (some ⟨w.heap.size + 2, 0, none⟩)], trV x, undef, undef, undef], defers := [] })
    (fun _ _ _ _ _ _ _ h => h) ?assign ?body ?done ?stop
  case hpre => exact fun W3 hb => ⟨htc.below hb (by show w.heap.size + 2 < w4.heap.size; omega), Nat.le_trans hb4.size hb.size, fun k _ hk => (hb.block k (by omega)).trans (hb4.block k hk)⟩
  case hC =>
    intro k hk
    rcases hk with hk | hk
    · change k < w.heap.size at hk; omega
    · omega
  case hps => rintro B O W x vs ⟨rfl, _⟩; rfl
  case hR => intro O O' W W' x vs _ _ _ h; exact h
  case hI => intro pre O A B h hk; exact h.keep hk fun k hlt => ⟨trivial, by omega, by omega⟩
  case hIx => intro c pre O A B h _; exact h
  case hSD => intro k _; trivial
  case hIO =>
    intro pre O W h k hk
    have e := (h.own k).1 hk
    refine ⟨by rw [e]; exact h.box.lt, fun hc => ?_⟩
    rcases hc with hc | hc
    · change k < w.heap.size at hc; omega
    · omega
  case hO => intro k hk; omega
  case assign =>
    rintro l2 x vs O W3 K _ _ ⟨rfl, _⟩ hK
    rw [show (#[6] : Array Tmp).zip #[trV x] = #[(6, trV x)] from by simp [List.zip_toArray]]
    gi_wp2
    exact hK _ _ (Keeps.refl _ _) rfl
  case body =>
    rintro l2 pre x vs O W3 a' hl2 h hpx _ rfl
    have hst := h.step (x := x) (Below.refl _ _)
    have hc1 := h.box.cell
    have hc2 := h.box.frozen
    have hpl : pre.length < 1000 := by
      have h1 := hpx.length_le
      rw [List.length_append, List.length_singleton, HS.out] at h1
      have := HL.out
      omega
    have hwr : wrap64 ((pre.length : Int) + 1) = ((pre ++ [x]).length : Nat) := by rw [List.length_append, List.length_singleton]; unfold wrap64; omega
    have HST := Lib.hid hst
    have HWR := Lib.hid hwr
    clear hst h hpx hpl hwr
    gi_wp2
    rw [HWR.out]
    exact ⟨O, HST.out.1, HST.out.2⟩
  case done =>
    intro D O W3 hD h hOD hK
    have hc1 := h.box.cell
    rw [HS.out] at hc1
    have hfin := Lib.hid (h.below.trans (below_putObj W3 D (.deferred none) (show w.heap.size ≤ D by omega)))
    clear h
    gi_wp2
    refine ⟨by simp, .inl ⟨_, _, rfl, run_takeDeferred hK, ?_⟩⟩
    exact ⟨_, results_tmp (t := 2) rfl _ _ _, rfl, hfin.out⟩
  case stop => rintro D c pre O W3 hD hpx h; exact h.elim
end Go.Proofs.Ytpobkpdlohahoaa
