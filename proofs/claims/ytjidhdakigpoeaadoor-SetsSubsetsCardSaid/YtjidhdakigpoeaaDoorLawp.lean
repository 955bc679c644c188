/-
  THE LAW's OWN parts: of a set, at most so many.
-/
import Derived.Test.YtjidhdakigpoeaaDoorTour
import Derived.Test.YtjidhdakigpoeaaDoorApp
namespace Go.Proofs.YtjidhdakigpoeaaDoor
open Go.RowKit Go.Shelf
attribute [local go_sem] Oper.semAt_some
set_option maxHeartbeats 400000

theorem run_eql_func_nil {P : Program} (w : World) {t : TypeId} {x y z} (f : Fn) (a c : Array Value) (h : P.underlying t = some (.func x y z)) : (binOp .eql t (.func f a c) .nilFunc).run P w = .ok (.bool false) w := by
  have h1 : ∀ d : Nat, (Op.equalIn (d + 1) t (.func f a c) .nilFunc).run P w = .ok false w := fun d => by
    simp [Op.equalIn, run_underlying h]
  simp only [binOp]
  simp [Op.equal, Op.maxDepth, h1 9999]

/-- what holds of the law's own cells between two rounds: the row so far, in its box; the bound, in its box -/
structure PartsI (w : World) (mx : Nat) (pre : List Nat) (O : Nat → Prop) (W : World) : Prop where
  row : ∃ v, Boxed W (w.heap.size + 2) 34 v ∧ W.ownsRow w.heap.size 22 1 v (ints pre).length ((ints pre).map (Value.int .u64)) ∧ (∀ k, O k ↔ (k = w.heap.size + 2 ∨ v.ownBlock = some k)) ∧ v.ownBlock ≠ some (w.heap.size + 3) ∧ v.ownBlock ≠ some w.heap.size
  most : W.cell? ⟨w.heap.size, 0, none⟩ = some (.int .i64 mx)
  size : w.heap.size + 4 ≤ W.heap.size
  below : Below w.heap.size w W
  len : pre.length ≤ mx
theorem PartsI.stable {w : World} {mx B : Nat} (hB : w.heap.size + 4 = B) : Stable B (PartsI w mx) := by
  rintro pre O A C ⟨⟨v, hb, ho, hO, hn, hn2⟩, hm, hs, hbel, hl⟩ hk
  have hin : ∀ (k : Nat), O k → C.heap[k]? = A.heap[k]? := fun k hOk => by
    by_cases h : k < A.heap.size
    · exact hk.same k h (.inl hOk)
    · exfalso
      rcases (hO k).1 hOk with e | e
      · omega
      · exact h (ho.lt k e).2
  refine ⟨⟨v, ?_, ?_, hO, hn, hn2⟩, ?_, Nat.le_trans hs hk.size, hbel.trans ⟨hk.os, hk.tape, hk.output, hk.size, fun k h => hk.same k (by omega) (.inr (by omega))⟩, hl⟩
  · exact (hin _ ((hO _).2 (.inl rfl))).trans hb
  · refine ⟨ho.1, ?_⟩
    rcases ho.2 with h | ⟨g, cap, cur, hv, hbg, hgc, rest⟩
    · exact .inl h
    · exact .inr ⟨g, cap, cur, hv, hbg, (hin g ((hO g).2 (.inr (by rw [hv]; rfl)))).trans hgc, rest⟩
  · unfold World.cell? at hm ⊢
    rw [hk.same w.heap.size (by omega) (.inr (by omega))]
    exact hm

/-- behind 'out = append(out, x)' -/
theorem PartsI.step {w W w1 : World} {most x : Nat} {pre : List Nat} {O : Nat → Prop} {v v' : Value} {tmp : Obj} (h : PartsI w most pre O W) (hlt : pre.length < most)
    (hb : Boxed W (w.heap.size + 2) 34 v) (ho : W.ownsRow w.heap.size 22 1 v (ints pre).length ((ints pre).map (Value.int .u64))) (hO : ∀ k, O k ↔ (k = w.heap.size + 2 ∨ v.ownBlock = some k))
    (hn : v.ownBlock ≠ some (w.heap.size + 3)) (hn2 : v.ownBlock ≠ some w.heap.size)
    (hown : w1.ownsRow w.heap.size 22 1 v' ((ints pre).length + 1) ((ints pre).map (Value.int .u64) ++ [.int .u64 x])) (hg : (W.alloc tmp).grownBy w1 v.ownBlock)
    (hw : v'.ownBlock = v.ownBlock ∨ ∃ g, v'.ownBlock = some g ∧ W.heap.size + 1 ≤ g) :
    Boxed w1 (w.heap.size + 2) 34 v ∧ ∃ O', PartsI w most (pre ++ [x]) O' (w1.setCell ⟨w.heap.size + 2, 0, none⟩ v') ∧ Chg O W O' (w1.setCell ⟨w.heap.size + 2, 0, none⟩ v') := by
  have hsz := h.size
  obtain ⟨b1, b2, b3, _, b5⟩ := hb.appended (by decide) ho (n₀ := w.heap.size) (by omega) (by omega) hown hg
  have g1 : (W.alloc tmp).heap.size = W.heap.size + 1 := by simp
  have s1 : W.heap.size ≤ w1.heap.size := by have := hg.size; omega
  have s2 : (w1.setCell ⟨w.heap.size + 2, 0, none⟩ v').heap.size = w1.heap.size := by simp
  have same : ∀ k, k < W.heap.size → k ≠ w.heap.size + 2 → v.ownBlock ≠ some k → (w1.setCell ⟨w.heap.size + 2, 0, none⟩ v').heap[k]? = W.heap[k]? := fun k hk h1 h2 =>
    (Below.heap_setCell w1 _ _ k h1).trans ((hg.block k (by omega) (fun e => h2 e.symm)).trans (Below.heap_alloc W tmp k hk))
  refine ⟨b1, fun k => k = w.heap.size + 2 ∨ v'.ownBlock = some k, ⟨⟨v', b2, ?_, fun _ => Iff.rfl, ?_, ?_⟩, ?_, ?_, h.below.trans b5, ?_⟩, ⟨⟨b5.os, b5.tape, b5.output, by omega, ?_⟩, ?_⟩⟩
  · rw [ints_snoc]
    simpa using b3
  · rcases hw with e | ⟨g, e, hge⟩
    · rw [e]; exact hn
    · rw [e]; intro e'; have := Option.some.inj e'; omega
  · rcases hw with e | ⟨g, e, hge⟩
    · rw [e]; exact hn2
    · rw [e]; intro e'; have := Option.some.inj e'; omega
  · have := h.most
    unfold World.cell? at this ⊢
    rw [same w.heap.size (by omega) (by omega) hn2]
    exact this
  · omega
  · simp; omega
  · intro k hk hnO
    exact same k hk (fun e => hnO ((hO k).2 (.inl e))) (fun e => hnO ((hO k).2 (.inr e)))
  · rintro k hk (e | e)
    · exact (hO k).2 (.inl e)
    · rcases hw with e2 | ⟨g, e2, hge⟩
      · exact (hO k).2 (.inr (e2 ▸ e))
      · rw [e2] at e; have := Option.some.inj e; omega

/-- what the row is worth behind the loop, the block of the rounds' deferred calls shut -/
theorem lparts_end {w W : World} {most D : Nat} {pre : List Nat} {O : Nat → Prop} (h : PartsI w most pre O W) (hO : ¬ O D) (hD : w.heap.size + 4 ≤ D) (v : Value) (hv : Boxed W (w.heap.size + 2) 34 v) :
    OwnNums 22 .u64 w (ints pre) (.returned v) (W.putObj D (.deferred none)) := by
  have hk : Keeps (fun k => O k ∨ k < w.heap.size + 4) W (W.putObj D (.deferred none)) := Keeps.putObj W D _ (by
    rintro (e | e)
    · exact hO e
    · omega)
  have h2 := PartsI.stable (mx := most) rfl _ _ _ _ h hk
  obtain ⟨u, hb, ho, _⟩ := h.row
  obtain ⟨u2, hb2, ho2, hO2, _⟩ := h2.row
  have e1 : u = v := by
    have := (show W.heap[w.heap.size + 2]? = _ from hb).symm.trans hv
    simpa using this
  have e2 : u2 = u := by
    have hh : (W.putObj D (.deferred none)).heap[w.heap.size + 2]? = W.heap[w.heap.size + 2]? := World.putObj_heap_other (by omega)
    have := (show _ = _ from hb2).symm.trans (hh.trans hb)
    simpa using this
  subst e1 e2
  exact ⟨_, rfl, ho2, h2.below⟩

theorem lparts_any (s most : Nat) (w : World) (hs : s < 18446744073709551616) (hm : most ≤ 2000) :
    Calls Tryd.prog 22 #[.int .u64 s, .int .i64 most] w (OwnNums 22 .u64 w (ints ((partsOf s).take most))) := by
  refine (callsIn_wide (n := 9)).1 ?_
  have HS := Lib.hid hs
  clear hs
  obtain ⟨i0, hi, hz0, hz1, hz2⟩ := info_parts Tryd.rowU64
  refine callsIn_of_wp_marks Tryd.func22 rfl trivial ?_ rfl
  simp only [Tryd.ntmps22, List.size_toArray, List.length_cons, List.length_nil, Nat.reduceAdd, Nat.reduceSub, Array.replicate_succ, Array.replicate_zero, List.push_toArray, List.append_toArray, List.nil_append, List.cons_append]
  gi_wp2_with fail
  refine ⟨trivial, (callsIn_wide.2 (sParts_any s _)).mono ?_⟩
  rintro e w' ⟨rfl, rfl⟩
  have heq := fun (W : World) (c : Array Value) => run_eql_func_nil (P := Tryd.prog) W (.func 30) #[] c Tryd.underlying41
  gi_wp2_with fail
  clear heq
  obtain ⟨w4, hw4⟩ : ∃ w4, (((w.alloc (.cells #[.int .i64 most] 3)).alloc (.cells #[] 22)).alloc (.cells #[.slice (some ⟨w.heap.size + 1, 0, none⟩) 0 0] 34)).alloc (.cells #[.int .u64 s] 22) = w4 := ⟨_, rfl⟩
  have hz : w4.heap.size = w.heap.size + 4 := by rw [← hw4]; simp
  have hI0 : PartsI w most [] (fun k => k = w.heap.size + 2 ∨ k = w.heap.size + 1) w4 := by
    rw [← hw4]
    refine ⟨⟨.slice (some ⟨w.heap.size + 1, 0, none⟩) 0 0, ?_, ?_, ?_, by simp [Value.ownBlock], by simp [Value.ownBlock]⟩, ?_, by simp, ?_, by simp⟩
    · have := Boxed.new ((w.alloc (.cells #[.int .i64 most] 3)).alloc (.cells #[] 22)) 34 (.slice (some ⟨w.heap.size + 1, 0, none⟩) 0 0)
      rw [World.size_alloc, World.size_alloc] at this
      exact this.alloc _
    · have := World.ownsRow_made (w.alloc (.cells #[.int .i64 most] 3)) (base := w.heap.size) (e := 22) (size := 1) #[] 0 (by simp) (by decide) rfl
      rw [World.size_alloc] at this
      exact (this.alloc _).alloc _
    · intro k
      simp only [Value.ownBlock, Option.some.injEq]
      exact ⟨fun h => h.imp id Eq.symm, fun h => h.imp id Eq.symm⟩
    · have := ((Boxed.new w 3 (.int .i64 most)).alloc (.cells #[] 22)).alloc (.cells #[.slice (some ⟨w.heap.size + 1, 0, none⟩) 0 0] 34)
      exact (this.alloc _).cell
    · exact ((((Below.refl _ w).alloc (Nat.le_refl _) _).alloc (by simp) _).alloc (by simp; omega) _).alloc (by simp; omega) _
  have hBs : w4.cell? ⟨w.heap.size + 3, 0, none⟩ = some (.int .u64 s) := by
    rw [← hw4]
    have := (Boxed.new (((w.alloc (.cells #[.int .i64 most] 3)).alloc (.cells #[] 22)).alloc (.cells #[.slice (some ⟨w.heap.size + 1, 0, none⟩) 0 0] 34)) 22 (.int .u64 s)).cell
    simpa using this
  rw [hw4]
  clear hw4
  refine wpIn_range_sep rfl (by omega) (gf := 30) (lb := #[.pointer (some ⟨w.heap.size + 3, 0, none⟩)]) rfl trivial (enters_of Tryd.func30 (by kernel_rfl) rfl)
    (parts_iter 6 (w.heap.size + 3) s HS.out) ?hpre ?hC (fun _ => rfl) (PartsI w most) (fun c _ O W => c = .exit 0 ∧ PartsI w most ((partsOf s).take most) O W) (PartsI.stable hz.symm) ?hIx ?hIO (fun k => k = w.heap.size + 2 ∨ k = w.heap.size + 1) ?hO hI0
    (fun x => { tmps := #[.int .u64 s, .int .i64 most, undef, .pointer (some ⟨w.heap.size, 0, none⟩), .slice none 0 0, .pointer (some ⟨w.heap.size + 2, 0, none⟩), .func (.func 30) #[] #[.pointer (some ⟨w.heap.size + 3, 0, none⟩)], .int .u64 x, .slice (some ⟨w.heap.size + 1, 0, none⟩) 0 0, .int .u64 s, .func (.func 30) #[] #[.pointer (some ⟨w.heap.size + 3, 0, none⟩)], .func (.func 30) #[] #[.pointer (some ⟨w.heap.size + 3, 0, none⟩)], .bool false, undef, .func (.func 30) #[] #[.pointer (some ⟨w.heap.size + 3, 0, none⟩)], .int .u64 x, undef, undef, undef, undef, undef, undef, undef, undef, undef], defers := [] })
    ?assign ?body ?done ?stop
  case hpre => exact fun W3 hb => (hb.cell (p := ⟨w.heap.size + 3, 0, none⟩) (by simp; omega)).trans hBs
  case hC => intro k hk; omega
  case hIx => rintro c pre O A B ⟨h1, h2⟩ hk; exact ⟨h1, PartsI.stable hz.symm _ _ _ _ h2 hk⟩
  case hIO =>
    rintro pre O A h k hk
    obtain ⟨v, hb, ho, hO, hn, _⟩ := h.row
    rcases (hO k).1 hk with e | e
    · exact ⟨by have := h.size; omega, by omega⟩
    · exact ⟨(ho.lt k e).2, fun e' => hn (by rw [e, e'])⟩
  case hO => intro k hk; omega
  case assign =>
    intro l2 x W3 K hK
    gi_wp2
    exact hK
  case body =>
    intro l2 pre x O W3 hl2 h hpx
    obtain ⟨v, hb, ho, hO, hn, hn2⟩ := h.row
    obtain ⟨A, c, hv, _⟩ := Sl.own ho
    rw [List.length_map, ints_length] at hv
    have hc0 := h.most
    have hc1 := hb.cell
    have hc2 := hb.frozen
    have hlen := h.len
    rw [hv] at hc1
    by_cases he : pre.length = most
    · have hbt : ((pre.length : Int) == (most : Int)) = true := by simp [he]
      have hI2 : PartsI w most ((partsOf s).take most) O W3 := by
        have : (partsOf s).take most = pre := by
          obtain ⟨r, hr⟩ := hpx
          rw [← hr, ← he, List.append_assoc, List.take_left]
        rw [this]; exact h
      have HI2 := Lib.hid hI2
      clear hI2 he hpx h hO hn hn2 hv ho hb hlen
      gi_wp2
      exact ⟨O, ⟨rfl, HI2.out⟩, Chg.refl _ _⟩
    · have hbt : ((pre.length : Int) == (most : Int)) = false := by simp; omega
      have hlt : pre.length < most := by omega
      have hsz := h.size
      have H := Lib.hid h
      have HO := Lib.hid hO
      have Hn := Lib.hid hn
      have Hn2 := Lib.hid hn2
      have Hb := Lib.hid hb
      have Ho := Lib.hid ho
      have Hv := Lib.hid hv
      rw [ints_length] at ho
      have hown1 : W3.ownsRow w.heap.size 22 1 (.slice A pre.length c) pre.length ((ints pre).map (Value.int .u64)) := by rw [← hv]; exact ho
      clear he hpx h hO hn hn2 hv hb ho
      gi_wp2_with (gi_at_builtin; refine wpListIn_append_sep _ rfl _ _ 34 rfl w.heap.size 22 i0 (.int .u64 0) 1 8 Tryd.underlying34 hi hz0 hz1 hz2 rfl (by decide) _ _ _ rfl (hown1.alloc _) ⟨W3.heap.size, 0, none⟩ 1 1 [.int .u64 x] rfl rfl ?c1 ?c2 ?c3 ?c4 ?c5 ?_)
      case c1 => exact cell_one_new _ _ _
      case c2 => simp [Value.oneCell']
      case c3 => unfold maxLen; omega
      case c4 => omega
      case c5 => simp; omega
      intro v' w1 hown' hgrow hwhere
      rw [← Hv.out] at hgrow hwhere
      obtain ⟨hbox, O', hI', hc'⟩ := PartsI.step (x := x) H.out hlt Hb.out Ho.out HO.out Hn.out Hn2.out (by rw [ints_length]; exact hown') hgrow hwhere
      obtain ⟨g', cap', rfl⟩ := ownsRow_succ hown'
      have hc3 := hbox.cell
      have hc4 := hbox.frozen
      have HI' := Lib.hid hI'
      have Hc' := Lib.hid hc'
      clear hI' hc' hgrow hwhere hown' hbox
      gi_wp2
      exact ⟨O', HI'.out, Hc'.out⟩
  case done =>
    intro D O W3 hD h hOD hK
    have hT : (partsOf s).take most = partsOf s := List.take_of_length_le h.len
    have hfin := lparts_end (D := D) h hOD (by omega)
    rw [← hT] at hfin
    obtain ⟨v, hb, _⟩ := h.row
    have hc1 := hb.cell
    have Hf := Lib.hid (hfin v hb)
    clear hb h hT hfin
    gi_wp2
    refine ⟨by simp, .inl ⟨_, _, rfl, run_takeDeferred hK, ?_⟩⟩
    exact ⟨_, results_tmp (t := 4) rfl _ _ _, Hf.out⟩
  case stop =>
    rintro D c pre O W3 hD hpx ⟨rfl, h⟩ hOD hK
    have hfin := lparts_end (D := D) h hOD (by omega)
    obtain ⟨v, hb, _⟩ := h.row
    have hc1 := hb.cell
    have Hf := Lib.hid (hfin v hb)
    clear hb h hfin
    gi_wp2
    refine ⟨by simp, .inl ⟨_, _, rfl, run_takeDeferred hK, ?_⟩⟩
    exact ⟨_, results_tmp (t := 4) rfl _ _ _, Hf.out⟩
end Go.Proofs.YtjidhdakigpoeaaDoor
