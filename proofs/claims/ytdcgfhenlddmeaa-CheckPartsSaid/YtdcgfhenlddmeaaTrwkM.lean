/-
  package tree: Walk, as an iterator.
-/
import Derived.Test.YtdcgfhenlddmeaaTrapM
import Derived.Test.YtdcgfhenlddmeaaTrxM
import Derived.Test.YtdcgfhenlddmeaaItqM
namespace Go.Proofs.Ytdcgfhenlddmeaa
open Go.RowKit Go.Shelf
attribute [local go_sem] Oper.semAt_some
set_option maxHeartbeats 1600000

theorem Tr.all_size {a x : Tr} (h : x ∈ Tr.all a) : Tr.size x ≤ Tr.size a := by
  revert x
  refine Tr.ind (P := fun a => ∀ {x : Tr}, x ∈ Tr.all a → Tr.size x ≤ Tr.size a) (fun a ih => ?_) a
  intro x h
  rw [Tr.all_at, List.mem_append, List.mem_singleton] at h
  rcases h with h | rfl
  · have key : ∀ l : List Tr, (∀ b ∈ l, ∀ {x : Tr}, x ∈ Tr.all b → Tr.size x ≤ Tr.size b) → x ∈ Tr.alls l → Tr.size x ≤ Tr.sizes l := by
      intro l
      induction l with
      | nil => intro _ h; rw [Tr.alls] at h; simp at h
      | cons b r ih2 =>
        intro hl h
        rw [Tr.alls, List.mem_append] at h
        rw [Tr.sizes]
        rcases h with h | h
        · have := hl b List.mem_cons_self h; omega
        · have := ih2 (fun c hc => hl c (List.mem_cons_of_mem _ hc)) h; omega
    have := key a.ks ih h
    have h2 := Tr.size_at a; omega
  · exact Nat.le_refl _
theorem four_new {W w4 : World} {t0 t1 t2 t3 : TypeId} {c0 c1 c2 c3 : List Value} (h : w4 = (((W.alloc (.cells c0.toArray t0)).alloc (.cells c1.toArray t1)).alloc (.cells c2.toArray t2)).alloc (.cells c3.toArray t3)) :
    Lies w4 W.heap.size t0 c0 ∧ Lies w4 (W.heap.size + 1) t1 c1 ∧ Lies w4 (W.heap.size + 1 + 1) t2 c2 ∧ Lies w4 (W.heap.size + 1 + 1 + 1) t3 c3 ∧ Below W.heap.size W w4 ∧ w4.heap.size = W.heap.size + 4 := by
  have l1 := Lies.new (W.alloc (.cells c0.toArray t0)) t1 c1
  have l2 := Lies.new ((W.alloc (.cells c0.toArray t0)).alloc (.cells c1.toArray t1)) t2 c2
  have l3 := Lies.new (((W.alloc (.cells c0.toArray t0)).alloc (.cells c1.toArray t1)).alloc (.cells c2.toArray t2)) t3 c3
  simp only [World.size_alloc] at l1 l2 l3
  rw [h]
  exact ⟨((((Lies.new W t0 c0).alloc _).alloc _).alloc _), ((l1.alloc _).alloc _), l2.alloc _, l3, (((below_new W _).alloc (by simp) _).alloc (by simp; omega) _).alloc (by simp; omega) _, by simp⟩
/-- the blocks that a tour of Walk never turns -/
def WalkS (B k : Nat) : Prop := k < B ∨ B + 6 ≤ k
/-- the blocks that what comes may hang from: not those of the book-keeping of the range that calls it -/
def WalkT (B k : Nat) : Prop := k + 2 < B ∨ B + 6 ≤ k
/-- what comes: a tree, its kids in blocks of its own -/
def WalkR (B : Nat) (O : Nat → Prop) (W : World) (x : Tr) (vs : Array Value) : Prop := ∃ u v, vs = #[trV (x, u, v)] ∧ TrOn (fun k => ¬ O k ∧ WalkT B k) W (x, u, v)
set_option maxRecDepth 100000 in
theorem walk_iter (m : Nat) (T : Nat → Prop) (W0 : World) (hT : ∀ k, T k → k < W0.heap.size) (bx : Nat) (a : Tr) (u v : Value) (hon : TrOn T W0 (a, u, v)) (hsz : Tr.size a ≤ 1000) :
    IterR Fence.wide (m + 4) Try.prog 44 #[.pointer (some ⟨bx, 0, none⟩)] WalkR (fun k => T k ∨ k = bx) WalkS
      (fun W => TrCell W ⟨bx, 0, none⟩ a u v ∧ W0.heap.size + 2 ≤ W.heap.size ∧ ∀ k, T k → k < W0.heap.size → W.heap[k]? = W0.heap[k]?) (Tr.all a) := by
  rintro l J Jx W O ⟨hcell, hsw, hsame⟩ hJ hJx hO hY h0
  have hbx := block_lt_of_cell hcell.c0
  have hu := hon.1
  have hv := hon.2
  obtain ⟨A, c, hA, hl⟩ := hu.elim fun d h => h.at_.form
  obtain ⟨A', c', hA', hl'⟩ := hv.elim fun d h => h.at_.form
  change u = .slice A a.ks.length c at hA
  change v = .slice A' a.cs.length c' at hA'
  subst hA hA'
  obtain ⟨n, hn⟩ : ∃ n, n = a.ks.length := ⟨_, rfl⟩
  obtain ⟨n', hn'⟩ : ∃ n, n = a.cs.length := ⟨_, rfl⟩
  rw [← hn, ← hn'] at hcell hon
  have cw := fun W => within_any a (.slice A n c) (.slice A' n' c') W ⟨_, _, _, rfl⟩ ⟨_, _, _, rfl⟩
  have HY := Lib.hid hY
  have HO := Lib.hid hO
  have HJ := Lib.hid hJ
  have HJx := Lib.hid hJx
  have HON := Lib.hid hon
  have HT := Lib.hid hT
  have HSZ := Lib.hid hsz
  have HSW2 := Lib.hid hsw
  have HSW := Lib.hid (show W0.heap.size ≤ W.heap.size by omega)
  have HSAME := Lib.hid hsame
  have H0 := Lib.hid h0
  have HBX := Lib.hid hbx
  clear hY hO hJ hJx hT hsz hon hu hv hsw hsame h0 hl hl'
  have p := fun W2 (h : Below W.heap.size W W2) => hcell.below h hbx
  have P := Lib.hid p
  clear p hbx hcell hn hn'
  refine callsIn_of_wp_marks Try.func44 rfl trivial ?_ rfl
  simp only [Try.ntmps44, List.size_toArray, List.length_cons, List.length_nil, Nat.reduceAdd, Nat.reduceSub, Array.replicate_succ, Array.replicate_zero, List.push_toArray, List.append_toArray, List.nil_append, List.cons_append]
  obtain ⟨x0, x1, x2, x3, x4⟩ := P.out _ ((((Below.refl _ W).alloc (Nat.le_refl _) (.cells #[.func (.yield l) #[] #[]] 77)).alloc (by simp) (.cells #[.int .i64 0] 3)).alloc (by simp; omega) (.cells #[.func (.func 45) #[] #[.pointer (some ⟨W.heap.size + 1, 0, none⟩), .pointer (some ⟨W.heap.size + 1 + 1, 0, none⟩)]] 78))
  simp only [Nat.zero_add] at x0 x1 x2 x3 x4
  gi_wp2_with fail
  refine ⟨trivial, (callsIn_wide.2 (cw _)).mono ?_⟩
  rintro e w' ⟨rfl, rfl⟩
  clear cw x0 x1 x2 x3 x4
  gi_wp2_with fail
  obtain ⟨w4, hw4⟩ : ∃ w4, w4 = (((W.alloc (Obj.cells #[.func (.yield l) #[] #[]] 77)).alloc (Obj.cells #[.int .i64 0] 3)).alloc (Obj.cells #[.func (.func 45) #[] #[.pointer (some ⟨W.heap.size + 1, 0, none⟩), .pointer (some ⟨W.heap.size + 1 + 1, 0, none⟩)]] 78)).alloc (Obj.cells #[.int .i64 a.k, .int .i64 a.t, .slice A n c, .slice A' n' c', .bool a.h] 26) := ⟨_, rfl⟩
  obtain ⟨ly, lm, la, lt, hb4, hs4⟩ := four_new (c0 := [.func (.yield l) #[] #[]]) (c1 := [.int .i64 0]) (c2 := [.func (.func 45) #[] #[.pointer (some ⟨W.heap.size + 1, 0, none⟩), .pointer (some ⟨W.heap.size + 1 + 1, 0, none⟩)]]) (c3 := [.int .i64 a.k, .int .i64 a.t, .slice A n c, .slice A' n' c', .bool a.h]) hw4
  rw [← hw4]
  have htc : TrCell w4 ⟨W.heap.size + 1 + 1 + 1, 0, none⟩ a (.slice A n c) (.slice A' n' c') := lt.tr
  have henv4 : ApEnv (W.heap.size + 1) (W.heap.size + 1 + 1) w4 := ⟨⟨_, _, lm⟩, la.cell (i := 0) rfl, by omega⟩
  have hy4 : w4.cell? ⟨W.heap.size, 0, none⟩ = some (.func (.yield l) #[] #[]) := ly.cell (i := 0) rfl
  clear hw4 ly lm la
  have hkw4 : ∀ S, Keeps S W w4 := fun S => keeps_new hb4
  have hno : ∀ {pre O' W'}, J pre O' W' → ∀ k, O' k → k < W'.heap.size ∧ ¬ (T k ∨ k = bx) := fun h => HO.out _ _ _ h
  have hnewO : ∀ k, W.heap.size ≤ k → ¬ O k := fun k hk h => by have := (hno H0.out k h).1; omega
  -- what holds between two rounds
  let Fx : (Nat → Prop) → World → Prop := fun O0 W' => (∀ k, T k → W'.heap[k]? = W0.heap[k]?) ∧ W'.cell? ⟨W.heap.size, 0, none⟩ = some (.func (.yield l) #[] #[]) ∧ ApEnv (W.heap.size + 1) (W.heap.size + 1 + 1) W' ∧ W.heap.size + 4 ≤ W'.heap.size ∧ ∀ k, (T k ∨ (W.heap.size ≤ k ∧ k < W.heap.size + 6)) → ¬ O0 k
  let I : List TrV → (Nat → Prop) → World → Prop := fun pre O' W' => ∃ O0, (∀ k, O' k ↔ (O0 k ∨ k = W.heap.size + 1)) ∧ J (pre.map (·.1)) O0 W' ∧ Fx O0 W'
  let Ix : Code → List TrV → (Nat → Prop) → World → Prop := fun c pre O' W' => c = .ret ∧ ∃ O0, (∀ k, O' k ↔ (O0 k ∨ k = W.heap.size + 1)) ∧ (∃ p, p <+: Tr.all a ∧ Jx p O0 W')
  have hTlt : ∀ k, T k → k < W.heap.size := fun k h => Nat.lt_of_lt_of_le (HT.out k h) HSW.out
  have hTlt2 : ∀ k, T k → k + 2 < W.heap.size := fun k h => by have := HT.out k h; have := HSW2.out; omega
  have hFlow : ∀ {O0 O3 : Nat → Prop} {A B : World}, Fx O0 A → A.heap.size ≤ B.heap.size → (∀ k, T k ∨ (W.heap.size ≤ k ∧ k < W.heap.size + 4) → k < A.heap.size → B.heap[k]? = A.heap[k]?) → (∀ k, k < W.heap.size + 6 → O3 k → O0 k) → Fx O3 B := fun ⟨f1, f2, f3, f4, f5⟩ hs hk ho =>
    ⟨fun k h => (hk k (.inl h) (by have := hTlt k h; omega)).trans (f1 k h), (World.cell?_of_block (a := ⟨W.heap.size, 0, none⟩) (hk W.heap.size (.inr ⟨Nat.le_refl _, by omega⟩) (by omega))).trans f2, f3.keep (hk _ (.inr ⟨by omega, by omega⟩) (by omega)) (hk _ (.inr ⟨by omega, by omega⟩) (by omega)), by omega,
      fun k h h2 => f5 k h (ho k (by rcases h with h | h; have := hTlt k h; omega; omega) h2)⟩
  have hFk : ∀ {O0 : Nat → Prop} {A B : World}, Fx O0 A → Keeps (fun k => True ∧ k ≠ w4.heap.size ∧ k ≠ w4.heap.size + 1) A B → Fx O0 B := fun hF hk =>
    hFlow hF hk.size (fun k h hlt => hk.same k hlt ⟨trivial, by rcases h with h | h; have := hTlt k h; omega; omega, by rcases h with h | h; have := hTlt k h; omega; omega⟩) fun _ _ h => h
  have hF0 : Fx O w4 := ⟨fun k h => (hb4.block k (hTlt k h)).trans (HSAME.out k h (HT.out k h)), hy4, henv4, by omega, fun k h h2 => by
    rcases h with h | h
    · exact (hno H0.out k h2).2 (.inl h)
    · exact hnewO k h.1 h2⟩
  refine wpIn_range_from rfl (by omega) (gf := 60) (lb := #[.pointer (some ⟨W.heap.size + 1 + 1 + 1, 0, none⟩)]) rfl trivial (enters_of Try.func60 (by kernel_rfl) rfl)
    (within_iter (m + 2) T W0 HT.out (W.heap.size + 1 + 1 + 1) a (.slice A n c) (.slice A' n' c') HON.out) ?hpre ?hC ?hps ?hR I Ix ?hI ?hIx ?hSD ?hIO (fun k => O k ∨ k = W.heap.size + 1) ?hO ?h0
    (fun B0 O1 W3 x _ a' => ∃ q, W.heap.size + 6 ≤ q ∧ B0 ≤ q ∧ Lies W3 q 26 [.int .i64 x.1.k, .int .i64 x.1.t, x.2.1, x.2.2, .bool x.1.h] ∧ a' = { tmps := #[.func (.yield l) #[] #[], .pointer (some ⟨bx, 0, none⟩), .pointer (some ⟨W.heap.size, 0, none⟩), .pointer (some ⟨W.heap.size + 1, 0, none⟩), .pointer (some ⟨W.heap.size + 1 + 1, 0, none⟩), .pointer (some ⟨q, 0, none⟩), .func (.func 45) #[] #[.pointer (some ⟨W.heap.size + 1, 0, none⟩), .pointer (some ⟨W.heap.size + 1 + 1, 0, none⟩)], .agg #[.int .i64 a.k, .int .i64 a.t, .slice A n c, .slice A' n' c', .bool a.h], .func (.func 60) #[] #[.pointer (some ⟨W.heap.size + 1 + 1 + 1, 0, none⟩)], trV x, undef, undef, undef, undef, undef, undef, undef, undef, undef, undef, undef], defers := [] })
    ?hAx ?assign ?body ?done ?stop
  case hpre => exact fun W3 hb _ => ⟨htc.below hb (by show W.heap.size + 1 + 1 + 1 < w4.heap.size; omega), Nat.le_trans HSW.out (Nat.le_trans hb4.size hb.size), fun k hk hlt => (hb.block k (by have := hTlt k hk; omega)).trans ((hb4.block k (hTlt k hk)).trans (HSAME.out k hk hlt))⟩
  case hC =>
    intro k hk
    rcases hk with hk | hk
    · have := hTlt k hk; omega
    · omega
  case hps => rintro B O W x vs ⟨rfl, _⟩; rfl
  case hR => intro O O' W W' x vs _ _ _ h; exact h
  case hI =>
    rintro pre O1 A B ⟨O0, he, hj, hF⟩ hk
    refine ⟨O0, he, HJ.out _ _ _ _ hj (hk.mono fun k hh => ?_), hFk hF (hk.mono fun k hh => .inr hh)⟩
    rcases hh with hh | hh
    · exact .inl ((he k).2 (.inl hh))
    · exact .inr ⟨trivial, by rcases hh with hh | hh <;> omega, by rcases hh with hh | hh <;> omega⟩
  case hIx =>
    rintro c pre O1 A B ⟨hc, O0, he, p, hp, hj⟩ hk
    refine ⟨hc, O0, he, p, hp, HJx.out _ _ _ _ hj (hk.mono fun k hh => ?_)⟩
    rcases hh with hh | hh
    · exact .inl ((he k).2 (.inl hh))
    · exact .inr ⟨trivial, by rcases hh with hh | hh <;> omega, by rcases hh with hh | hh <;> omega⟩
  case hSD => intro k _; trivial
  case hIO =>
    rintro pre O1 A ⟨O0, he, hj, hF⟩ k hk
    rcases (he k).1 hk with h | h
    · exact ⟨(hno hj k h).1, fun hc => by
        rcases hc with hc | hc
        · exact hF.2.2.2.2 k (.inl hc) h
        · exact hF.2.2.2.2 k (.inr ⟨by omega, by omega⟩) h⟩
    · exact ⟨by have := hF.2.2.2.1; omega, fun hc => by
        rcases hc with hc | hc
        · have := hTlt k hc; omega
        · omega⟩
  case hO =>
    intro k hk
    rcases hk with h | h
    · have := (hno H0.out k h).1; omega
    · omega
  case h0 => exact ⟨O, fun _ => Iff.rfl, HJ.out _ _ _ _ H0.out (hkw4 _), hF0⟩
  case hAx =>
    rintro B0 O1 A B x vs a' hk ⟨q, h1, h2, h3, h4⟩
    exact ⟨q, h1, h2, (hk.same q h3.lt (by omega)).trans h3, h4⟩
  case assign =>
    rintro l2 ⟨x, xu, xv⟩ vs O3 W3 K hs hOl ⟨rfl, hx⟩ hK
    obtain ⟨⟨d1, hx1⟩, d2, hx2⟩ := hx
    obtain ⟨B1, e1, hB1, _⟩ := hx1.at_.form
    obtain ⟨B2, e2, hB2, _⟩ := hx2.at_.form
    change xu = .slice B1 x.ks.length e1 at hB1
    change xv = .slice B2 x.cs.length e2 at hB2
    subst hB1 hB2
    rw [show (#[9] : Array Tmp).zip #[trV (x, .slice B1 x.ks.length e1, .slice B2 x.cs.length e2)] = #[(9, trV (x, .slice B1 x.ks.length e1, .slice B2 x.cs.length e2))] from by simp [List.zip_toArray]]
    have htb := Lies.new W3 26 [.int .i64 x.k, .int .i64 x.t, .slice B1 x.ks.length e1, .slice B2 x.cs.length e2, .bool x.h]
    have HK := Lib.hid hK
    have HTB := Lib.hid htb
    have hs6 : W.heap.size + 6 ≤ W3.heap.size := by omega
    clear hx1 hx2 hK htb
    gi_wp2
    exact HK.out _ _ (Keeps.alloc _ _ _) ⟨W3.heap.size, hs6, Nat.le_refl _, HTB.out, rfl⟩
  case body =>
    rintro Wy l2 pre ⟨x, xu, xv⟩ vs O1 Wb a' hl2 hiy hib hpx ⟨rfl, hrx⟩ hOy hsy hkn ⟨q, hq6, hqy, lq, rfl⟩
    obtain ⟨O0, he, hjy, hFy⟩ := hiy
    obtain ⟨O0', he', hjb, hFb⟩ := hib
    have hM : ∀ {O2 : Nat → Prop} {A : World}, Fx O2 A → ¬ O2 (W.heap.size + 1) := fun hF => hF.2.2.2.2 _ (.inr ⟨by omega, by omega⟩)
    obtain rfl : O0 = O0' := funext fun k => propext ⟨fun h => ((he' k).1 ((he k).2 (.inl h))).resolve_right (fun e => hM hFy (e ▸ h)), fun h => ((he k).1 ((he' k).2 (.inl h))).resolve_right (fun e => hM hFb (e ▸ h))⟩
    have hsb := hkn.size
    have hx0 := hrx.keep (T' := T) (w' := Wb) (by have := hFb.2.2.2.1; have := HSW.out; omega) (fun k hk _ => ⟨hFb.1 k hk, hk⟩)
    obtain ⟨⟨d1, hx1⟩, d2, hx2⟩ := hx0
    obtain ⟨B1, e1, hB1, _⟩ := hx1.at_.form
    obtain ⟨B2, e2, hB2, _⟩ := hx2.at_.form
    change xu = .slice B1 x.ks.length e1 at hB1
    change xv = .slice B2 x.cs.length e2 at hB2
    subst hB1 hB2
    have hpm : pre.map (·.1) ++ [x] <+: Tr.all a := by
      have := hpx.map (·.1)
      rwa [List.map_append, Tr.flat_fst] at this
    have hxs : Tr.size x ≤ 1000 := Nat.le_trans (Tr.all_size (a := a) (hpm.subset (by simp))) HSZ.out
    have hqb := lq.lt
    obtain ⟨tm, im, lm⟩ := hFb.2.2.1.m
    have m0 := lm.cell (i := 0) rfl
    -- what the yield gives, in a world that differs from the body's by what the closure counts, and by the tree's own box
    have hyld : ∀ (W8 : World) (r : Value), Keeps (fun k => k ≠ W.heap.size + 1 ∧ k ≠ q) Wb W8 → ApEnv (W.heap.size + 1) (W.heap.size + 1 + 1) W8 → TsOn (fun k => T k ∨ Wb.heap.size ≤ k) d1 W8 r x.ks →
        YieldAt Fence.wide (m + 4 - 1) Try.prog l #[trV (x, r, .slice B2 x.cs.length e2)] W8 (fun e W' => (e = .returned (.bool true) ∧ ∃ O', I (pre ++ [(x, .slice B1 x.ks.length e1, .slice B2 x.cs.length e2)]) O' W' ∧ ChgFrom Wy.heap.size O1 Wb O' W') ∨ (e = .returned (.bool false) ∧ ∃ O', Ix .ret (pre ++ [(x, .slice B1 x.ks.length e1, .slice B2 x.cs.length e2)]) O' W' ∧ ChgFrom Wy.heap.size O1 Wb O' W')) := by
      intro W8 r hk8 he8 hr8
      have hs8 := hk8.size
      have hTq : ∀ k, T k → k ≠ W.heap.size + 1 ∧ k ≠ q := fun k h => by have := hTlt k h; exact ⟨by omega, by omega⟩
      have hT8 : ∀ k, T k → W8.heap[k]? = Wb.heap[k]? := fun k h => hk8.same k (by have := hTlt k h; have := hFb.2.2.2.1; omega) (hTq k h)
      have hF8 : Fx O0 W8 := ⟨fun k h => (hT8 k h).trans (hFb.1 k h), (World.cell?_of_block (a := ⟨W.heap.size, 0, none⟩) (hk8.same W.heap.size (by have := hFb.2.2.2.1; omega) ⟨by omega, by omega⟩)).trans hFb.2.1, he8, by have := hFb.2.2.2.1; omega, hFb.2.2.2.2⟩
      have hO6 : ∀ k, O0 k → ¬ (W.heap.size ≤ k ∧ k < W.heap.size + 6) := fun k h h2 => hFy.2.2.2.2 k (.inr h2) h
      have hj8 : J (pre.map (·.1)) O0 W8 := HJ.out _ _ _ _ hjy ⟨hk8.os.trans hkn.os, hk8.tape.trans hkn.tape, hk8.output.trans hkn.output, Nat.le_trans hsb hs8, fun k hk hs => by
        have hne : k ≠ W.heap.size + 1 ∧ k ≠ w4.heap.size + 1 := by
          rcases hs with h | h
          · have := hO6 k h; exact ⟨by omega, by omega⟩
          · rcases h with h | h
            · exact ⟨by omega, by omega⟩
            · exact ⟨by omega, by omega⟩
        exact (hk8.same k (by omega) ⟨hne.1, by omega⟩).trans (hkn.same k hk hne.2)⟩
      have hR8 : WalkR W.heap.size O0 W8 x #[trV (x, r, .slice B2 x.cs.length e2)] := by
        refine ⟨r, _, rfl, ⟨d1, hr8.keep (Nat.le_refl _) fun k hk _ => ⟨rfl, ?_⟩⟩, d2, hx2.keep hs8 fun k hk _ => ⟨hT8 k hk, fun h => hFy.2.2.2.2 k (.inl hk) h, .inl (hTlt2 k hk)⟩⟩
        rcases hk with h | h
        · exact ⟨fun h2 => hFy.2.2.2.2 k (.inl h) h2, .inl (hTlt2 k h)⟩
        · exact ⟨fun h2 => by have := (hno hjy k h2).1; omega, .inr (by omega)⟩
      obtain ⟨fn, tmps, assign, body, hy, hR⟩ := HY.out _ _ _ _ _ hj8 hpm hR8
      refine ⟨fn, tmps, assign, body, hy, hR.mono ?_⟩
      have hfin : ∀ {O3 : Nat → Prop} {W9 : World}, Chg O0 W8 O3 W9 → ChgFrom Wy.heap.size O1 Wb (fun k => O3 k ∨ k = W.heap.size + 1) W9 := fun {O3 W9} hc =>
        ⟨⟨hc.keeps.os.trans hk8.os, hc.keeps.tape.trans hk8.tape, hc.keeps.output.trans hk8.output, Nat.le_trans hs8 hc.keeps.size, fun k hk hn =>
          (hc.keeps.same k (by omega) (fun h => hn.1 ((he k).2 (.inl h)))).trans (hk8.same k hk ⟨fun e => hn.1 ((he k).2 (.inr e)), by have := hn.2; omega⟩)⟩, fun k hk h => by
          rcases h with h | h
          · exact (he k).2 (.inl (hc.own k (by omega) h))
          · exact (he k).2 (.inr h)⟩
      rintro e W9 (⟨rfl, O3, hj3, hc⟩ | ⟨rfl, O3, hj3, hc⟩)
      · refine .inl ⟨rfl, _, ⟨O3, fun _ => Iff.rfl, by rw [List.map_append]; exact hj3, hFlow hF8 hc.keeps.size (fun k h hlt => hc.keeps.same k hlt (hF8.2.2.2.2 k (h.imp id fun h => ⟨h.1, by omega⟩))) (fun k hk h3 => hc.own k (by omega) h3)⟩, hfin hc⟩
      · exact .inr ⟨rfl, _, ⟨rfl, O3, fun _ => Iff.rfl, _, hpm, hj3⟩, hfin hc⟩
    have HYL := Lib.hid hyld
    have henvb := hFb.2.2.1
    have hpc := henvb.p
    have hyb := hFb.2.1
    have hTb : ∀ k, T k → k < Wb.heap.size := fun k h => by have := hTlt k h; have := hFb.2.2.2.1; omega
    have hTM : ¬ T (W.heap.size + 1) := fun h => by have := hTlt _ h; omega
    have hTP : ¬ T (W.heap.size + 1 + 1) := fun h => by have := hTlt _ h; omega
    have hks : Tr.sizes x.ks ≤ 1000 := (Pr.sizes_of_size hxs).2
    have q0 := lq.cell (i := 0) rfl
    have q1 := lq.cell (i := 1) rfl
    have q2 := lq.cell (i := 2) rfl
    have q3 := lq.cell (i := 3) rfl
    have q4 := lq.cell (i := 4) rfl
    have HLQ := Lib.hid lq
    have HX1 := Lib.hid hx1
    have HE := Lib.hid henvb
    have HYB := Lib.hid hyb
    have hq6' : W.heap.size ≠ q ∧ W.heap.size + 1 ≠ q ∧ W.heap.size + 1 + 1 ≠ q := ⟨by omega, by omega, by omega⟩
    have hqM : q ≠ W.heap.size + 1 := by omega
    have hBl : W.heap.size < Wb.heap.size := by omega
    clear hyld hFb hFy hjy hjb he he' hM hrx hx1 hx2 hpx hpm hxs hsb hOy hsy hkn hqy hF0 lm lq
    by_cases hm : im < 33554432
    · have cs := apart_at (W.heap.size + 1) (W.heap.size + 1 + 1) T d1 x.ks (.slice B1 x.ks.length e1) Wb henvb hTb hTM hTP HX1.out hks
      have CS := Lib.hid cs
      clear cs henvb hTb hTM hTP hks
      gi_wp2
      refine ⟨trivial, (CallsIn.inRound l2 (callsIn_wide.2 CS.out)).mono ?_⟩
      rintro e W7 ⟨r, rfl, hr, hk7, he7⟩
      obtain ⟨B7, c7, hB7, _⟩ := hr.at_.form
      subst hB7
      have lq7 : Lies W7 q 26 [.int .i64 x.k, .int .i64 x.t, .slice B1 x.ks.length e1, .slice B2 x.cs.length e2, .bool x.h] := (hk7.same q hqb hqM).trans HLQ.out
      have z2 := lq7.cell (i := 2) rfl
      have f2 := lq7.free 2
      obtain ⟨W8, hW8⟩ : ∃ W8, W8 = W7.setCell ⟨q, 2, none⟩ (.slice B7 x.ks.length c7) := ⟨_, rfl⟩
      have lq8 : Lies W8 q 26 [.int .i64 x.k, .int .i64 x.t, .slice B7 x.ks.length c7, .slice B2 x.cs.length e2, .bool x.h] := by rw [hW8]; exact lq7.set 2 _
      have ho8 : ∀ k, k ≠ q → W8.heap[k]? = W7.heap[k]? := fun k hk => by rw [hW8]; exact Below.heap_setCell _ _ _ _ hk
      have he8 : ApEnv (W.heap.size + 1) (W.heap.size + 1 + 1) W8 := he7.keep (ho8 _ hq6'.2.1) (ho8 _ hq6'.2.2)
      have hk8 : Keeps (fun k => k ≠ W.heap.size + 1 ∧ k ≠ q) Wb W8 := by rw [hW8]; exact (hk7.mono fun k h => h.1).setCell _ (.inl fun h => h.2 rfl)
      have hr8 : TsOn (fun k => T k ∨ Wb.heap.size ≤ k) d1 W8 (.slice B7 x.ks.length c7) x.ks := hr.keep (by rw [hW8]; simp [World.setCell]) fun k hk _ => ⟨ho8 k (by
        rcases hk with h | h
        · have := hTlt k h; omega
        · omega), hk⟩
      have y8 : W8.cell? ⟨W.heap.size, 0, none⟩ = some (.func (.yield l) #[] #[]) := (World.cell?_of_block (a := ⟨W.heap.size, 0, none⟩) ((ho8 W.heap.size hq6'.1).trans (hk7.same W.heap.size hBl (by omega)))).trans HYB.out
      obtain ⟨fn, tmps, assign, body, hy, hR⟩ := HYL.out W8 _ hk8 he8 hr8
      have HR := Lib.hid (fun b => roundIn_depthR (b := b) (l2 := l2) hR)
      have w0 := lq8.cell (i := 0) rfl
      have w1 := lq8.cell (i := 1) rfl
      have w2 := lq8.cell (i := 2) rfl
      have w3 := lq8.cell (i := 3) rfl
      have w5 := lq8.cell (i := 4) rfl
      clear hR hr hr8 hk8 he8 lq8 lq7 hk7 he7 ho8 q0 q1 q2 q3 q4 m0 hpc hyb
      subst hW8
      gi_wp2
      refine (HR.out _).mono ?_
      clear y8 w0 w1 w2 w3 w5 z2 f2 HR hy
      rintro e W9 (⟨rfl, O3, hi3, hc3⟩ | ⟨rfl, O3, hi3, hc3⟩)
      · have HC := Lib.hid hc3
        have HI := Lib.hid hi3
        clear hc3 hi3
        gi_wp2
        exact ⟨O3, HI.out, HC.out⟩
      · have HC := Lib.hid hc3
        have HI := Lib.hid hi3
        clear hc3 hi3
        gi_wp2
        exact ⟨O3, HI.out, HC.out⟩
    · have hr8 : TsOn (fun k => T k ∨ Wb.heap.size ≤ k) d1 Wb (.slice B1 x.ks.length e1) x.ks := HX1.out.keep (Nat.le_refl _) fun k hk _ => ⟨rfl, .inl hk⟩
      obtain ⟨fn, tmps, assign, body, hy, hR⟩ := HYL.out Wb _ (Keeps.refl _ _) henvb hr8
      have HR := Lib.hid (fun b => roundIn_depthR (b := b) (l2 := l2) hR)
      clear hR hr8 henvb hTb hTM hTP hks hpc
      gi_wp2
      refine (HR.out _).mono ?_
      clear q0 q1 q2 q3 q4 m0 hyb HR hy
      rintro e W9 (⟨rfl, O3, hi3, hc3⟩ | ⟨rfl, O3, hi3, hc3⟩)
      · have HC := Lib.hid hc3
        have HI := Lib.hid hi3
        clear hc3 hi3
        gi_wp2
        exact ⟨O3, HI.out, HC.out⟩
      · have HC := Lib.hid hc3
        have HI := Lib.hid hi3
        clear hc3 hi3
        gi_wp2
        exact ⟨O3, HI.out, HC.out⟩
  case done =>
    rintro D O1 W3 rfl ⟨O0, he, hj, hF⟩ hOD hK
    have hk : Keeps (fun k => O0 k ∨ WalkS W.heap.size k) W3 (W3.putObj w4.heap.size (.deferred none)) := Keeps.putObj W3 _ _ (by
      rintro (h | h)
      · exact hOD ((he _).2 (.inl h))
      · rcases h with h | h <;> omega)
    have hj3 := HJ.out _ _ _ _ hj hk
    rw [Tr.flat_fst] at hj3
    have Hj3 := Lib.hid hj3
    clear hj hj3 hk hF hF0
    gi_wp2
    refine ⟨by simp, .inl ⟨_, _, rfl, run_takeDeferred hK, ?_⟩⟩
    exact ⟨_, results_none rfl _ _ _, ⟨_, rfl⟩, .inl ⟨O0, Hj3.out⟩⟩
  case stop =>
    rintro D c pre O1 W3 rfl hpx ⟨rfl, O0, he, p, hp, hjx⟩ hOD hK
    have hk : Keeps (fun k => O0 k ∨ WalkS W.heap.size k) W3 (W3.putObj w4.heap.size (.deferred none)) := Keeps.putObj W3 _ _ (by
      rintro (h | h)
      · exact hOD ((he _).2 (.inl h))
      · rcases h with h | h <;> omega)
    have hj3 := HJx.out _ _ _ _ hjx hk
    have Hj3 := Lib.hid hj3
    clear hjx hj3 hk hF0
    gi_wp2
    refine ⟨by simp, .inl ⟨_, _, rfl, run_takeDeferred hK, ?_⟩⟩
    exact ⟨_, results_none rfl _ _ _, ⟨_, rfl⟩, .inr ⟨p, O0, hp, Hj3.out⟩⟩
end Go.Proofs.Ytdcgfhenlddmeaa
