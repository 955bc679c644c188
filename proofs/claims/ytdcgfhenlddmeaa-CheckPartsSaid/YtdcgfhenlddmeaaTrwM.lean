/-
  THE TOUR OF package tree, in the memory that the tree is in: within, what it hands back, and the closure that calls itself.
-/
import Derived.Test.YtdcgfhenlddmeaaTrnM
import Derived.Test.YtdcgfhenlddmeaaItrM
import Derived.Laws.EntriesVeiled
namespace Go.Proofs.Ytdcgfhenlddmeaa
open Go.RowKit Go.Shelf
attribute [local go_sem] Oper.semAt_some
set_option maxHeartbeats 800000

/-- the fence that lets all in asks no depth -/
theorem roundIn_depthR {a b l l2 : Nat} {P : Program} {f : FuncId} {tmps : Array Value} {assign body : Code} {w : World} {R : Ending → World → Prop} (h : RoundIn Fence.wide a P l f tmps assign body w R) :
    RoundIn (Fence.wide.inRound l2) b P l f tmps assign body w R := ⟨trivial, fun c cs _ => h.2 c cs (room_wide _)⟩
theorem roundIn_any {a b l : Nat} {P : Program} {f : FuncId} {tmps : Array Value} {assign body : Code} {w : World} {R : Ending → World → Prop} (h : RoundIn Fence.wide a P l f tmps assign body w R) :
    RoundIn Fence.wide b P l f tmps assign body w R := ⟨trivial, fun c cs _ => h.2 c cs (room_wide _)⟩
/-- what the tour leans on lies as it lay -/
structure TourEnv (T : Nat → Prop) (W0 : World) (l G Y : Nat) (O : Nat → Prop) (W : World) : Prop where
  size : W0.heap.size ≤ W.heap.size
  same : ∀ k, T k → k < W0.heap.size → W.heap[k]? = W0.heap[k]?
  no : ∀ k, T k → ¬ O k
  g : W.cell? ⟨G, 0, none⟩ = some (.func (.func 61) #[] #[.pointer (some ⟨G, 0, none⟩), .pointer (some ⟨Y, 0, none⟩)])
  y : W.cell? ⟨Y, 0, none⟩ = some (.func (.yield l) #[] #[])
  ng : ¬ O G
  ny : ¬ O Y
theorem Keeps.cell {S : Nat → Prop} {W W' : World} {b o : Nat} {v : Value} (h : Keeps S W W') (hs : S b) (hc : W.cell? ⟨b, o, none⟩ = some v) : W'.cell? ⟨b, o, none⟩ = some v := by
  have hlt := block_lt_of_cell hc
  rw [World.cell?_of_block (a := ⟨b, o, none⟩) (h.same b hlt hs)]
  exact hc
theorem TourEnv.chg {T : Nat → Prop} {W0 W W' : World} {l G Y : Nat} {O O' : Nat → Prop} (h : TourEnv T W0 l G Y O W) (hT : ∀ k, T k → k < W0.heap.size) (hc : Chg O W O' W') : TourEnv T W0 l G Y O' W' := by
  have hG := block_lt_of_cell h.g
  have hY := block_lt_of_cell h.y
  refine ⟨Nat.le_trans h.size hc.keeps.size, fun k hk hlt => ?_, fun k hk ho => ?_, hc.keeps.cell h.ng h.g, hc.keeps.cell h.ny h.y, fun ho => h.ng (hc.own _ hG ho), fun ho => h.ny (hc.own _ hY ho)⟩
  · exact (hc.keeps.same k (Nat.lt_of_lt_of_le hlt h.size) (h.no k hk)).trans (h.same k hk hlt)
  · exact h.no k hk (hc.own k (Nat.lt_of_lt_of_le (hT k hk) h.size) ho)
theorem Chg.alloc (O : Nat → Prop) (W : World) (o : Obj) : Chg O W O (W.alloc o) := ⟨Keeps.alloc _ W o, fun _ _ h => h⟩
/-- a store into a block that was not there at the beginning -/
theorem Chg.setNew {O O' : Nat → Prop} {W W' : World} (h : Chg O W O' W') {a : Addr} (v : Value) (ha : W.heap.size ≤ a.block) : Chg O W O' (W'.setCell a v) :=
  ⟨⟨h.keeps.os, h.keeps.tape, h.keeps.output, by simpa using h.keeps.size, fun k hk hs => (Below.heap_setCell _ _ _ _ (by omega)).trans (h.keeps.same k hk hs)⟩, h.own⟩
set_option maxRecDepth 100000 in
theorem tour_any (T : Nat → Prop) (W0 : World) (hT : ∀ k, T k → k < W0.heap.size) (m l G Y : Nat) (J Jx : List TrV → (Nat → Prop) → World → Prop) (xs : List TrV)
    (hJ : StableS (fun _ => True) J) (hO : ∀ pre O' W', J pre O' W' → ∀ k, O' k → k < W'.heap.size ∧ ¬ T k)
    (hY : ∀ pre x O1 W1, J pre O1 W1 → pre ++ [x] <+: xs → YieldAt Fence.wide m Try.prog l #[trV x] W1 fun e W' =>
      (e = .returned (.bool true) ∧ ∃ O', J (pre ++ [x]) O' W' ∧ Chg O1 W1 O' W') ∨ (e = .returned (.bool false) ∧ ∃ O', Jx (pre ++ [x]) O' W' ∧ Chg O1 W1 O' W'))
    (d : Nat) : ∀ (a : Tr) (u v : Value) (W : World) (O : Nat → Prop) (pre : List TrV), TsOn T d W0 u a.ks → (∃ e, PsOn T e W0 v a.cs) → TourEnv T W0 l G Y O W → J pre O W → pre ++ Tr.flat W0 a u v <+: xs →
    Calls Try.prog 61 #[.agg #[.int .i64 a.k, .int .i64 a.t, u, v, .bool a.h], .pointer (some ⟨G, 0, none⟩), .pointer (some ⟨Y, 0, none⟩)] W fun e W' =>
      (e = .returned (.bool true) ∧ ∃ O', J (pre ++ Tr.flat W0 a u v) O' W' ∧ Chg O W O' W') ∨ (e = .returned (.bool false) ∧ ∃ p O', p <+: xs ∧ Jx p O' W' ∧ Chg O W O' W') := by
  induction d using Nat.strongRecOn with
  | ind d ih =>
  intro a u v W O pre hu hv henv hj hpx
  obtain ⟨W1, hW1⟩ : ∃ W1, W1 = W.alloc (Obj.cells #[.int .i64 a.k, .int .i64 a.t, u, v, .bool a.h] 26) := ⟨_, rfl⟩
  obtain ⟨l0, p0, hb0⟩ := tr_box (a := a) (u := u) (v := v) hW1
  have hc0 : Chg O W O W1 := by rw [hW1]; exact Chg.alloc _ _ _
  have hob : ¬ O W.heap.size := fun h => Nat.lt_irrefl _ (hO _ _ _ hj _ h).1
  have hj1 : J pre O W1 := hJ _ _ _ _ hj (by rw [hW1]; exact Keeps.alloc _ _ _)
  have henv1 := henv.chg hT hc0
  obtain ⟨A, c, rfl, hl⟩ := hu.at_.form
  obtain ⟨A', c', rfl, hl'⟩ := hv.elim fun D h => h.at_.form
  have hsp := fun (q : Nat) (b : Tr) (h : a.ks[q]? = some b) => Tr.flats_split W0 h (.slice A a.ks.length c)
  have HFL := Lib.hid (Tr.flat_at W0 a (.slice A a.ks.length c) (.slice A' a.cs.length c'))
  have hsz1 : W1.heap.size = W.heap.size + 1 := by rw [hW1]; simp
  obtain ⟨n, hn⟩ : ∃ n, n = a.ks.length := ⟨_, rfl⟩
  have HN := Lib.hid hn
  have HU := Lib.hid hu
  have HV := Lib.hid hv
  have HSP := Lib.hid hsp
  have IH := Lib.hid ih
  have HJ := Lib.hid hJ
  have HO := Lib.hid hO
  have HY := Lib.hid hY
  have HT := Lib.hid hT
  have HPX := Lib.hid hpx
  have HE := Lib.hid henv1
  have HJ1 := Lib.hid hj1
  have HC0 := Lib.hid hc0
  have HW := Lib.hid hW1
  have HP0 := Lib.hid p0
  have HOB := Lib.hid hob
  have HSZ := Lib.hid hsz1
  rw [← hn] at hl
  have h2 := p0.c2
  have hlN := Lib.hid hl
  clear hsp hu hv ih hJ hO hY hT hpx henv hj hW1 l0 hb0 hc0 hob hj1 henv1 p0 hsz1 hn
  refine (callsIn_wide (n := 9)).1 ?_
  refine callsIn_of_wp Try.func61 rfl trivial ?_ rfl
  simp only [Try.ntmps61, List.size_toArray, List.length_cons, List.length_nil, Nat.reduceAdd, Nat.reduceSub, Array.replicate_succ, Array.replicate_zero, List.push_toArray, List.append_toArray, List.nil_append, List.cons_append]
  gi_wp2_with fail
  rw [← HW.out]
  rw [← HN.out] at HFL HU HSP HPX h2 ⊢
  gi_loopw [10] (fun i wr => ∃ (q : Nat) (O' : Nat → Prop), q ≤ n ∧ i = .int .i64 q ∧ J (pre ++ Tr.flats W0 (a.ks.take q) (.slice A n c) 0) O' wr ∧ Chg O W1 O' wr) (fun i _ => n - (intOf i).toNat)
  case atStart => exact ⟨0, O, Nat.zero_le _, rfl, by rw [List.take_zero, Tr.flats, List.append_nil]; exact HJ1.out, ⟨Keeps.refl _ _, fun _ _ h => h⟩⟩
  case round =>
    obtain ⟨q, O1, hq, rfl, hj, hc⟩ := hrel
    have hcw : Chg O W O1 wr := HC0.out.trans hc
    have henv := HE.out.chg HT.out hc
    by_cases hlt : q < n
    · obtain ⟨b, gb⟩ : ∃ b, a.ks[q]? = some b := ⟨a.ks[q]'(by have := HN.out; omega), List.getElem?_eq_getElem _⟩
      have hu := HU.out
      rw [HN.out] at hu
      obtain ⟨e, bb, o, s, x, y, he, rfl, hTb, hlt0, hx, hy, hcell, hp, hk⟩ := hu.one gb
      have q1 := hcell.at_block (w' := wr) (by rw [add_block]; exact henv.same bb hTb hlt0)
      obtain ⟨r, hr⟩ := HSP.out q b gb
      rw [← HN.out] at hx hy
      have Hx := Lib.hid hx
      have Hy := Lib.hid hy
      obtain ⟨B1, d1, rfl, _⟩ := hk.at_.form
      obtain ⟨B2, d2, rfl, _⟩ := hp.elim fun D h => h.at_.form
      obtain ⟨x0, x1, x2, x3, x4⟩ := q1
      have hca := Chg.alloc O1 wr (Obj.cells #[.int .i64 b.k, .int .i64 b.t, .slice B1 b.ks.length d1, .slice B2 b.cs.length d2, .bool b.h] 26)
      have henv2 := henv.chg HT.out hca
      have hj2 := HJ.out _ _ _ _ hj (Keeps.alloc _ wr (Obj.cells #[.int .i64 b.k, .int .i64 b.t, .slice B1 b.ks.length d1, .slice B2 b.cs.length d2, .bool b.h] 26))
      have hpx2 : (pre ++ Tr.flats W0 (a.ks.take q) (.slice (some ⟨bb, o, s⟩) n c) 0) ++ Tr.flat W0 b (.slice B1 b.ks.length d1) (.slice B2 b.cs.length d2) <+: xs := by
        refine List.IsPrefix.trans ?_ HPX.out
        rw [HFL.out, hr, Hx.out, Hy.out]
        exact ⟨r ++ [(a, .slice (some ⟨bb, o, s⟩) n c, .slice A' a.cs.length c')], by simp [List.append_assoc]⟩
      have cs := IH.out e he b _ _ _ O1 _ hk hp henv2 hj2 hpx2
      have hft := Tr.flats_take W0 gb (.slice (some ⟨bb, o, s⟩) n c)
      rw [← Hx.out, ← Hy.out] at hft
      have HFT := Lib.hid hft
      have HCW := Lib.hid (hc.trans hca)
      have hg := henv2.g
      have CS := Lib.hid cs
      clear hx hy hu hj henv hcw henv2 hj2 hpx2 hcell hp hk hr hTb hlt0 gb he hft hc hca cs
      gi_wp2_with fail
      refine ⟨trivial, (callsIn_wide.2 CS.out).mono ?_⟩
      rintro e w3 (⟨rfl, O3, hj3, hc3⟩ | ⟨rfl, p, O3, hp3, hj3, hc3⟩)
      · have hc4 := HCW.out.trans hc3
        rw [List.append_assoc, ← HFT.out] at hj3
        clear hc3 hg x0 x1 x2 x3 x4
        gi_wp2_with fail
        go_roundw
        case rel => exact ⟨q + 1, O3, by omega, by go_num, hj3, hc4⟩
        case measure => simp [intOf]; omega
      · have hc4 := Lib.hid (HCW.out.trans hc3)
        clear hc3 hg x0 x1 x2 x3 x4
        gi_wp2_with fail
        go_ret
        exact .inr ⟨rfl, p, O3, hp3, hj3, HC0.out.trans hc4.out⟩
    · obtain rfl : q = n := by omega
      have ht : a.ks.take q = a.ks := List.take_of_length_le (by have := HN.out; omega)
      rw [ht] at hj
      have p1 : TrCell wr ⟨W.heap.size, 0, none⟩ a _ _ := HP0.out.at_block (hc.keeps.same _ (by rw [HSZ.out]; exact Nat.lt_succ_self _) HOB.out)
      have hpx2 : (pre ++ Tr.flats W0 a.ks (.slice A q c) 0) ++ [(a, .slice A q c, .slice A' a.cs.length c')] <+: xs := by
        have := HPX.out
        rwa [HFL.out, ← List.append_assoc] at this
      have hend : (pre ++ Tr.flats W0 a.ks (.slice A q c) 0) ++ [(a, .slice A q c, .slice A' a.cs.length c')] = pre ++ Tr.flat W0 a (.slice A q c) (.slice A' a.cs.length c') := by rw [HFL.out, List.append_assoc]
      have HEND := Lib.hid hend
      have HPX2 := Lib.hid hpx2
      have HCW := Lib.hid hcw
      obtain ⟨fn, tmps, assign, body, hy, hR⟩ := HY.out _ _ _ _ hj hpx2
      have HR := Lib.hid hR
      obtain ⟨x0, x1, x2, x3, x4⟩ := p1
      simp only [Nat.zero_add] at x0 x1 x2 x3 x4
      rw [← HN.out] at x2
      have hyy := henv.y
      clear hR hj hc hcw henv hpx2 hend ht
      gi_wp2_with fail
      refine (roundIn_any HR.out).mono ?_
      rintro e w3 (⟨rfl, O3, hj3, hc3⟩ | ⟨rfl, O3, hj3, hc3⟩)
      · have HC := Lib.hid (HCW.out.trans hc3)
        rw [HEND.out, HN.out] at hj3
        clear hc3 hy hyy x0 x1 x2 x3 x4
        gi_wp2_with fail
        go_ret
        exact .inl ⟨rfl, O3, hj3, HC.out⟩
      · have HC := Lib.hid (HCW.out.trans hc3)
        clear hc3 hy hyy x0 x1 x2 x3 x4
        gi_wp2_with fail
        go_ret
        exact .inr ⟨rfl, _, O3, HPX2.out, hj3, HC.out⟩
theorem within_any (a : Tr) (u v : Value) (w : World) (hu : ∃ A n c, u = .slice A n c) (hv : ∃ A n c, v = .slice A n c) :
    Calls Try.prog 47 #[.agg #[.int .i64 a.k, .int .i64 a.t, u, v, .bool a.h]] w fun e w' => e = .returned (.func (.func 60) #[] #[.pointer (some ⟨w.heap.size, 0, none⟩)]) ∧ w' = w.alloc (.cells #[.int .i64 a.k, .int .i64 a.t, u, v, .bool a.h] 26) := by
  obtain ⟨A, n, c, rfl⟩ := hu
  obtain ⟨A', n', c', rfl⟩ := hv
  go_enter Try.func47, Try.ntmps47
  go_wp2
  go_ret
  exact ⟨rfl, rfl⟩
theorem within_iter (m : Nat) (T : Nat → Prop) (W0 : World) (hT : ∀ k, T k → k < W0.heap.size) (bx : Nat) (a : Tr) (u v : Value) (hon : TrOn T W0 (a, u, v)) :
    IterR Fence.wide (m + 1) Try.prog 60 #[.pointer (some ⟨bx, 0, none⟩)] (fun _ _ _ (x : TrV) vs => vs = #[trV x] ∧ TrOn T W0 x) (fun k => T k ∨ k = bx) (fun _ _ => True)
      (fun W => TrCell W ⟨bx, 0, none⟩ a u v ∧ W0.heap.size ≤ W.heap.size ∧ ∀ k, T k → k < W0.heap.size → W.heap[k]? = W0.heap[k]?) (Tr.flat W0 a u v) := by
  rintro l J Jx W O ⟨hcell, hsz, hsame⟩ hJ hJx hO hY h0
  have hbx := block_lt_of_cell hcell.c0
  have hon' := Tr.flat_on W0 a u v hon
  obtain ⟨⟨d, hu⟩, hv⟩ := hon
  obtain ⟨A, c, hA, hl⟩ := hu.at_.form
  obtain ⟨A', c', hA', hl'⟩ := hv.elim fun D h => h.at_.form
  change u = .slice A a.ks.length c at hA
  change v = .slice A' a.cs.length c' at hA'
  subst hA hA'
  obtain ⟨w2, hw2⟩ : ∃ w2, (W.alloc (.cells #[.func (.yield l) #[] #[]] 77)).alloc (.cells #[.func (.func 61) #[] #[.pointer (some ⟨W.heap.size + 1, 0, none⟩), .pointer (some ⟨W.heap.size, 0, none⟩)]] 77) = w2 := ⟨_, rfl⟩
  have hk2 : ∀ S, Keeps S W w2 := fun S => by rw [← hw2]; exact (Keeps.alloc S W _).trans (Keeps.alloc S _ _)
  have hsz2 : w2.heap.size = W.heap.size + 2 := by rw [← hw2]; simp
  have hnew : ∀ k, W.heap.size ≤ k → ¬ O k := fun k hk h => by have := (hO _ _ _ h0 k h).1; omega
  have henv : TourEnv T W0 l (W.heap.size + 1) W.heap.size O w2 := by
    refine ⟨by omega, fun k hk hlt => ((hk2 (fun _ => True)).same k (by omega) trivial).trans (hsame k hk hlt), fun k hk ho => (hO _ _ _ h0 k ho).2 (.inl hk), ?_, ?_, hnew _ (by omega), hnew _ (Nat.le_refl _)⟩
    · rw [← hw2]
      have := (Boxed.new (W.alloc (.cells #[.func (.yield l) #[] #[]] 77)) 77 (.func (.func 61) #[] #[.pointer (some ⟨W.heap.size + 1, 0, none⟩), .pointer (some ⟨W.heap.size, 0, none⟩)])).cell
      rwa [World.size_alloc] at this
    · rw [← hw2]
      exact (World.cell?_alloc_lt _ _ _ (by simp)).trans (Boxed.new W 77 (.func (.yield l) #[] #[])).cell
  have cs := tour_any T W0 hT m l (W.heap.size + 1) W.heap.size J Jx (Tr.flat W0 a (.slice A a.ks.length c) (.slice A' a.cs.length c')) hJ (fun pre O' W' h k hk => ⟨(hO pre O' W' h k hk).1, fun ht => (hO pre O' W' h k hk).2 (.inl ht)⟩)
    (fun pre x O1 W1 h hp => hY pre x #[trV x] O1 W1 h hp ⟨rfl, hon' x (hp.subset (by simp))⟩) d a _ _ w2 O [] hu hv henv (hJ _ _ _ _ h0 (hk2 _)) (by rw [List.nil_append]; exact ⟨[], by simp⟩)
  have hcell2 : TrCell w2 ⟨bx, 0, none⟩ a (.slice A a.ks.length c) (.slice A' a.cs.length c') := hcell.at_block ((hk2 (fun _ => True)).same bx hbx trivial)
  obtain ⟨x0, x1, x2, x3, x4⟩ := hcell2
  simp only [Nat.zero_add] at x0 x1 x2 x3 x4
  have hg := henv.g
  have CS := Lib.hid cs
  have HW2 := Lib.hid hw2
  clear hcell hsz hsame hJ hJx hO hY h0 hbx hu hv hl hl' hon' hk2 hsz2 hnew henv cs hT
  refine callsIn_of_wp Try.func60 rfl trivial ?_ rfl
  simp only [Try.ntmps60, List.size_toArray, List.length_cons, List.length_nil, Nat.reduceAdd, Nat.reduceSub, Array.replicate_succ, Array.replicate_zero, List.push_toArray, List.append_toArray, List.nil_append, List.cons_append]
  subst hw2
  gi_wp2_with fail
  refine ⟨trivial, (callsIn_wide.2 CS.out).mono ?_⟩
  rintro e w3 (⟨rfl, O3, hj3, hc3⟩ | ⟨rfl, p, O3, hp3, hj3, hc3⟩)
  · clear hg x0 x1 x2 x3 x4
    gi_wp2_with fail
    go_end0
    exact ⟨⟨_, rfl⟩, .inl ⟨O3, by simpa using hj3⟩⟩
  · clear hg x0 x1 x2 x3 x4
    gi_wp2_with fail
    go_end0
    exact ⟨⟨_, rfl⟩, .inr ⟨p, O3, hp3, hj3⟩⟩
end Go.Proofs.Ytdcgfhenlddmeaa
