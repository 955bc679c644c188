/-
  package tree: Tables, by a range over the tour.
-/
import Derived.Test.YtpobkpdlohahoaaTrxM
import Derived.Test.YtpobkpdlohahoaaGBase
namespace Go.Proofs.Ytpobkpdlohahoaa
open Go.RowKit Go.Shelf
attribute [local go_sem] Oper.semAt_some
set_option maxHeartbeats 800000

theorem CountI.drew {w : World} {T : TypeId} {val : List TrV → Value} {pre : List TrV} {O : Nat → Prop} {W : World} (h : CountI w T val pre O W) : CountI w T val pre O W.drew := ⟨h.own, h.box, h.below.drew⟩
theorem Chg.drew {O O' : Nat → Prop} {A B : World} (h : Chg O A O' B) : Chg O A O' B.drew := ⟨⟨h.keeps.os, h.keeps.tape, h.keeps.output, h.keeps.size, h.keeps.same⟩, h.own⟩
theorem St.ofN_app (l : List Int) (i : Int) : St.ofN (l ++ [i]) = St.ofN l ||| St.ofN [i] := by
  by_cases h : 0 ≤ i ∧ i ≤ 63
  · have h1 := St.ofN_snoc_in [] i h.1 h.2
    rw [List.nil_append, St.ofN_nil, Nat.zero_or] at h1
    rw [St.ofN_snoc_in l i h.1 h.2, h1]
  · have h1 := St.ofN_snoc_out [] i h
    rw [List.nil_append, St.ofN_nil] at h1
    rw [St.ofN_snoc_out l i h, h1, Nat.or_zero]
/-- the set of the tables of the leaves that have come -/
def tabV (pre : List TrV) : Value := .int .u64 (St.ofN (leafTs (pre.map (·.1))) : Nat)
set_option maxRecDepth 100000 in
theorem ttables_any (a : Tr) (u v : Value) (w : World) (hu : ∃ d, TsAt d w u a.ks) (hv : PsSome w v a.cs) (hsz : Tr.size a ≤ 1000) :
    Calls Try.prog 8 #[.agg #[.int .i64 a.k, .int .i64 a.t, u, v, .bool a.h]] w fun e w' => e = .returned (.int .u64 (Tr.tables a : Nat)) ∧ Below w.heap.size w w' := by
  have hon : TrOn (fun k => k < w.heap.size) w (a, u, v) := TrHang.on ⟨hu, hv⟩ (fun k h => h)
  obtain ⟨A, n, c, rfl⟩ := form_trs hu
  obtain ⟨A', n', c', rfl⟩ := form_pds hv
  have cw := fun W => within_any a (.slice A n c) (.slice A' n' c') W ⟨_, _, _, rfl⟩ ⟨_, _, _, rfl⟩
  have hlen : (Tr.flat w a (.slice A n c) (.slice A' n' c')).length = (Tr.all a).length := by rw [← Tr.flat_fst w a (.slice A n c) (.slice A' n' c'), List.length_map]
  have hle := Tr.all_length_le a
  have HS := Lib.hid hlen
  have HON := Lib.hid hon
  have HL := Lib.hid (show (Tr.all a).length ≤ 1000 by omega)
  clear hu hv hsz hle hlen hon
  refine (callsIn_wide (n := 9)).1 ?_
  refine callsIn_of_wp_marks Try.func8 rfl trivial ?_ rfl
  simp only [Try.ntmps8, List.size_toArray, List.length_cons, List.length_nil, Nat.reduceAdd, Nat.reduceSub, Array.replicate_succ, Array.replicate_zero, List.push_toArray, List.append_toArray, List.nil_append, List.cons_append]
  gi_wp2_with fail
  refine ⟨trivial, (callsIn_wide.2 (cw _)).mono ?_⟩
  rintro e w' ⟨rfl, rfl⟩
  clear cw
  gi_wp2_with fail
  obtain ⟨w4, hw4⟩ : ∃ w4, ((w.alloc (Obj.cells #[.int .i64 a.k, .int .i64 a.t, .slice A n c, .slice A' n' c', .bool a.h] 25)).alloc (Obj.cells #[.int .u64 0] 28)).alloc (Obj.cells #[.int .i64 a.k, .int .i64 a.t, .slice A n c, .slice A' n' c', .bool a.h] 25) = w4 := ⟨_, rfl⟩
  have hz : w4.heap.size = w.heap.size + 3 := by rw [← hw4]; simp
  have hb4 : Below w.heap.size w w4 := by rw [← hw4]; exact (((Below.refl _ w).alloc (Nat.le_refl _) _).alloc (by simp) _).alloc (by simp; omega) _
  have hbox : Boxed w4 (w.heap.size + 1) 28 (tabV []) := by
    rw [← hw4]
    have := (Boxed.new (w.alloc (Obj.cells #[.int .i64 a.k, .int .i64 a.t, .slice A n c, .slice A' n' c', .bool a.h] 25)) 28 (.int .u64 0)).alloc (Obj.cells #[.int .i64 a.k, .int .i64 a.t, .slice A n c, .slice A' n' c', .bool a.h] 25)
    rwa [World.size_alloc] at this
  have htc : TrCell w4 ⟨w.heap.size + 2, 0, none⟩ a (.slice A n c) (.slice A' n' c') := by
    have := (tr_box (w := (w.alloc (Obj.cells #[.int .i64 a.k, .int .i64 a.t, .slice A n c, .slice A' n' c', .bool a.h] 25)).alloc (Obj.cells #[.int .u64 0] 28)) (T := 25) (a := a) (u := .slice A n c) (v := .slice A' n' c') rfl).2.1
    rw [World.size_alloc, World.size_alloc] at this
    rw [← hw4]
    exact this
  have hI0 : CountI w 28 tabV [] (fun k => k = w.heap.size + 1) w4 := ⟨fun _ => Iff.rfl, hbox, hb4⟩
  rw [hw4]
  clear hw4 hbox
  refine wpIn_range_rel rfl (by omega) (gf := 34) (lb := #[.pointer (some ⟨w.heap.size + 2, 0, none⟩)]) rfl trivial (enters_of Try.func34 (by kernel_rfl) rfl)
    (within_iter 7 (fun k => k < w.heap.size) w (fun k h => h) (w.heap.size + 2) a (.slice A n c) (.slice A' n' c') HON.out) ?hpre ?hC ?hps ?hR (CountI w 28 tabV) (fun _ _ _ _ => False) ?hI ?hIx ?hSD ?hIO (fun k => k = w.heap.size + 1) ?hO hI0
    (fun O W x _ a' => ∃ Bx, w4.heap.size + 2 ≤ Bx ∧ Bx < W.heap.size ∧ ¬ O Bx ∧ TrCell W ⟨Bx, 0, none⟩ x.1 x.2.1 x.2.2 ∧ a' = { tmps := #[.agg #[.int .i64 a.k, .int .i64 a.t, .slice A n c, .slice A' n' c', .bool a.h], .pointer (some ⟨w.heap.size, 0, none⟩), .int .u64 0, .pointer (some ⟨w.heap.size + 1, 0, none⟩), .pointer (some ⟨Bx, 0, none⟩), .agg #[.int .i64 a.k, .int .i64 a.t, .slice A n c, .slice A' n' c', .bool a.h], .func (.func 34) #[] #[.pointer (some ⟨w.heap.size + 2, 0, none⟩)], trV x, undef, undef, undef, undef, undef, undef, undef, undef, undef, undef], defers := [] })
    (fun O W W' x _ a' hk ⟨Bx, h1, h2, h3, h4, h5⟩ => ⟨Bx, h1, Nat.lt_of_lt_of_le h2 hk.size, h3, h4.at_block (hk.same Bx h2 (by omega)), h5⟩) ?assign ?body ?done ?stop
  case hpre => exact fun W3 hb => ⟨htc.below hb (by show w.heap.size + 2 < w4.heap.size; omega), Nat.le_trans hb4.size hb.size, fun k _ hk => (hb.block k (by omega)).trans (hb4.block k hk)⟩
  case hC =>
    intro k hk
    rcases hk with hk | hk
    · change k < w.heap.size at hk; omega
    · omega
  case hps => rintro B O W x vs ⟨rfl, _⟩; rfl
  case hR => intro O O' W W' x vs _ _ _ h; exact h
  case hI => intro pre O A B h hk; exact h.keep hk fun k hlt => ⟨trivial, by omega, by omega⟩
  case hIx => intro c pre O A B h _; exact h
  case hSD => intro k _; trivial
  case hIO =>
    intro pre O W h k hk
    have e := (h.own k).1 hk
    refine ⟨by rw [e]; exact h.box.lt, fun hc => ?_⟩
    rcases hc with hc | hc
    · change k < w.heap.size at hc; omega
    · omega
  case hO => intro k hk; omega
  case assign =>
    rintro l2 ⟨x, xu, xv⟩ vs O W3 K hs hOl ⟨rfl, hx⟩ hK
    obtain ⟨⟨d1, hx1⟩, d2, hx2⟩ := hx
    obtain ⟨B1, e1, hB1, _⟩ := hx1.at_.form
    obtain ⟨B2, e2, hB2, _⟩ := hx2.at_.form
    change xu = .slice B1 x.ks.length e1 at hB1
    change xv = .slice B2 x.cs.length e2 at hB2
    subst hB1 hB2
    rw [show (#[7] : Array Tmp).zip #[trV (x, .slice B1 x.ks.length e1, .slice B2 x.cs.length e2)] = #[(7, trV (x, .slice B1 x.ks.length e1, .slice B2 x.cs.length e2))] from by simp [List.zip_toArray]]
    have htb := (tr_box (w := W3) (T := 25) (a := x) (u := .slice B1 x.ks.length e1) (v := .slice B2 x.cs.length e2) rfl).2.1
    have hnb : ¬ O W3.heap.size := fun h => Nat.lt_irrefl _ (hOl _ h)
    have HK := Lib.hid hK
    clear hx1 hx2 hK
    gi_wp2
    exact HK.out _ _ (Keeps.alloc _ _ _) ⟨W3.heap.size, hs, by simp, hnb, htb, rfl⟩
  case body =>
    rintro l2 pre x vs O W3 a' hl2 h hpx hrx ⟨Bx, hB1, hB2, hB3, htr, rfl⟩
    obtain ⟨sv, hsv⟩ : ∃ sv, sv = St.ofN (leafTs (pre.map (·.1))) := ⟨_, rfl⟩
    have hc1 : W3.cell? ⟨w.heap.size + 1, 0, none⟩ = some (.int .u64 (sv : Nat)) := by rw [hsv]; exact h.box.cell
    have hc2 := h.box.frozen
    obtain ⟨y0, y1, _, _, _⟩ := htr
    simp only [Nat.zero_add] at y0 y1
    have hpx2 : leafTs ((pre ++ [x]).map (·.1)) = leafTs (pre.map (·.1)) ++ (if x.1.k = 0 then [x.1.t] else []) := by
      rw [List.map_append]
      by_cases hk : x.1.k = 0 <;> simp [leafTs, hk]
    by_cases hk0 : x.1.k = 0
    · have hb0 : (x.1.k == 0) = true := by simpa using hk0
      rw [if_pos hk0] at hpx2
      have hor : bits BinOp.or IntKind.u64 (sv : Int) ((St.ofN [x.1.t] : Nat) : Int) = ((sv ||| St.ofN [x.1.t] : Nat) : Int) := u64_or_nat _ _ (by rw [hsv]; exact St.ofN_lt _) (St.ofN_lt _)
      have hval : tabV (pre ++ [x]) = .int .u64 (bits BinOp.or IntKind.u64 (sv : Int) ((St.ofN [x.1.t] : Nat) : Int)) := by rw [hor, tabV, hpx2, hsv, St.ofN_app]
      have hst := h.step (x := x) ((Below.refl _ W3).alloc (Nat.le_refl _) (Obj.cells #[.int .i64 x.1.t] 3))
      rw [hval] at hst
      have HST := Lib.hid hst
      have cs := sof_any _ [x.1.t] _ (Sl.new W3 3 [.int .i64 x.1.t]) (by simp)
      have hc3 : ∀ o, (W3.alloc o).cell? ⟨w.heap.size + 1, 0, none⟩ = some (.int .u64 (sv : Nat)) := fun o => (World.cell?_alloc_lt W3 _ _ h.box.lt).trans hc1
      have hc4 : ∀ o, (W3.drew.alloc o).cell? ⟨w.heap.size + 1, 0, none⟩ = some (.int .u64 (sv : Nat)) := fun o => hc3 o
      have hf3 : ∀ o, (W3.alloc o).frozen? ⟨w.heap.size + 1, 0, none⟩ = false := fun o => (h.box.alloc o).frozen
      have hf4 : ∀ o, (W3.drew.alloc o).frozen? ⟨w.heap.size + 1, 0, none⟩ = false := fun o => hf3 o
      have CS := Lib.hid cs
      have csd := sof_any _ [x.1.t] _ (Sl.new W3.drew 3 [.int .i64 x.1.t]) (by simp)
      have CSD := Lib.hid csd
      clear cs csd h hpx hrx hpx2 hk0 hval hor hst hsv
      have hmx : Try.prog.follows .mixedOrders = true := by kernel_rfl
      gi_wp2
      gi_region_with_o (refine ⟨trivial, ?_⟩; gi_at_call 21; (first | refine (CallsIn.inRound l2 (callsIn_wide.2 CS.out)).mono ?_ | refine (CallsIn.inRound l2 (callsIn_wide.2 CSD.out)).mono ?_); rintro e w' ⟨rfl, rfl⟩)
      all_goals gi_wp2
      all_goals (first | exact ⟨O, HST.out.1.drew, HST.out.2.drew⟩ | exact ⟨O, HST.out.1, HST.out.2⟩)
    · have hb0 : (x.1.k == 0) = false := by simpa using hk0
      rw [if_neg hk0, List.append_nil] at hpx2
      have hst : CountI w 28 tabV (pre ++ [x]) O W3 := ⟨h.own, by rw [tabV, hpx2]; exact h.box, h.below⟩
      have HST := Lib.hid hst
      clear h hpx hrx hpx2 hk0 hst hsv
      gi_wp2
      exact ⟨O, HST.out, ⟨Keeps.refl _ _, fun _ _ h => h⟩⟩
  case done =>
    intro D O W3 hD h hOD hK
    have hc1 : W3.cell? ⟨w.heap.size + 1, 0, none⟩ = some (.int .u64 (Tr.tables a : Nat)) := by
      have := h.box.cell
      rwa [tabV, Tr.flat_fst] at this
    have hfin := Lib.hid (h.below.trans (below_putObj W3 D (.deferred none) (show w.heap.size ≤ D by omega)))
    clear h
    gi_wp2
    refine ⟨by simp, .inl ⟨_, _, rfl, run_takeDeferred hK, ?_⟩⟩
    exact ⟨_, results_tmp (t := 2) rfl _ _ _, rfl, hfin.out⟩
  case stop => rintro D c pre O W3 hD hpx h; exact h.elim
end Go.Proofs.Ytpobkpdlohahoaa
