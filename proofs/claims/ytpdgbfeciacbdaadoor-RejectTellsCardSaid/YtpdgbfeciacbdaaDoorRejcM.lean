/-
  LAYER 7's OWN few AND isNull; two arrays of three truths; a list of one predicate that the call has just built.
-/
import Derived.Test.YtpdgbfeciacbdaaDoorGPlain
import Derived.Test.YtpdgbfeciacbdaaDoorGPred
import Derived.Deep.Cut
namespace Go.Proofs.YtpdgbfeciacbdaaDoor
open Go.RowKit Go.Sort
set_option maxHeartbeats 3200000

namespace Rj
def cap (ps : List Pd) : Nat := (ps.map fun p => min (Pr.size p) 200).sum
def few (ps : List Pd) : Bool := decide (ps.length ≤ 20) && decide (cap (ps.take 50) ≤ 100)
theorem cap_snoc {ps : List Pd} {q : Nat} {p : Pd} (h : ps[q]? = some p) : cap (ps.take (q + 1)) = cap (ps.take q) + min (Pr.size p) 200 := by
  unfold cap
  rw [List.take_add_one, h]; simp
theorem cap_small : ∀ ps : List Pd, cap ps ≤ 100 → Pr.sizes ps ≤ 100
  | [], _ => by rw [Pr.sizes]; omega
  | p :: r, h => by
    have e : cap (p :: r) = min (Pr.size p) 200 + cap r := rfl
    rw [e] at h
    have := cap_small r (by omega)
    have h2 : cap r = Pr.sizes r := cap_eq r (by omega)
    rw [Pr.sizes]; omega
where
  cap_eq : ∀ ps : List Pd, cap ps ≤ 100 → cap ps = Pr.sizes ps
  | [], _ => by rw [Pr.sizes]; rfl
  | p :: r, h => by
    have e : cap (p :: r) = min (Pr.size p) 200 + cap r := rfl
    rw [e] at h ⊢
    have := cap_eq r (by omega)
    rw [Pr.sizes]; omega
theorem few_yes {ps : List Pd} (h : few ps = true) : ps.length ≤ 20 ∧ Pr.sizes ps ≤ 100 := by
  unfold few at h
  simp only [Bool.and_eq_true, decide_eq_true_eq] at h
  rw [List.take_of_length_le (by omega)] at h
  exact ⟨h.1, cap_small ps h.2⟩
end Rj
set_option maxRecDepth 100000 in
theorem few7_any (d : Nat) (u : Value) (ps : List Pd) (w : World) (hu : PsAt d w u ps) :
    Calls Tryd.prog 6 #[u] w fun e w' => e = .returned (.bool (Rj.few ps)) ∧ Below w.heap.size w w' := by
  obtain ⟨A, c, rfl, hl⟩ := hu.form
  have HU := Lib.hid hu
  have HF : Hid (Rj.few ps = (decide (ps.length ≤ 20) && decide (Rj.cap (ps.take 50) ≤ 100))) := Lib.hid rfl
  obtain ⟨res, hres⟩ : ∃ res, res = Rj.few ps := ⟨_, rfl⟩
  rw [← hres] at HF ⊢
  obtain ⟨n, hn⟩ : ∃ n, n = ps.length := ⟨_, rfl⟩
  rw [← hn] at hl HU HF ⊢
  have HN := Lib.hid hn
  clear hn hu hres
  go_enter Tryd.func6, Tryd.ntmps6
  go_wp2_with fail
  go_loopw [3, 4] (fun s i wr => ∃ q sv : Nat, q ≤ n ∧ q ≤ 50 ∧ i = .int .i64 q ∧ s = .int .i64 sv ∧ sv ≤ 200 * q ∧ Hid (sv = Rj.cap (ps.take q)) ∧ Below w.heap.size w wr) (fun _ i _ => n - (intOf i).toNat)
  case atStart => exact ⟨0, 0, Nat.zero_le _, Nat.zero_le _, rfl, rfl, by omega, Lib.hid (by rw [List.take_zero]; rfl), Below.refl _ _⟩
  case round =>
    obtain ⟨q, sv, hq, hq5, rfl, rfl, hsv2, hsv, hb⟩ := hrel
    have fin : ∀ m : Nat, m = q → (q = n ∨ q = 50) → Hid (res = (decide (n ≤ 20) && decide (sv ≤ 100))) := fun m _ h => Lib.hid (by
      rw [HF.out]
      rcases h with h | h
      · rw [List.take_of_length_le (l := ps) (i := 50) (by have := HN.out; omega)]
        have h2 := hsv.out
        rw [List.take_of_length_le (by have := HN.out; omega)] at h2
        rw [h2]
      · rw [hsv.out, h])
    by_cases hlt : q < n
    · by_cases hlt5 : q < 50
      · obtain ⟨p, gp⟩ : ∃ p, ps[q]? = some p := ⟨ps[q]'(by have := HN.out; omega), List.getElem?_eq_getElem _⟩
        have hu := HU.out
        rw [HN.out] at hu
        obtain ⟨e, b, o, s, v, he, rfl, _, hx⟩ := hu.at_ gp
        obtain ⟨hcell, hps⟩ := hx wr hb
        have cs := r6size_any e p.f v p.ps 200 wr hps (by omega) (by omega)
        have hpe : Pd.mk p.f p.ps = p := by cases p; rfl
        rw [hpe] at cs
        have hc2 := Rj.cap_snoc gp
        obtain ⟨m, hm⟩ : ∃ m : Nat, m = min (Pr.size p) 200 := ⟨_, rfl⟩
        rw [← hm] at hc2
        rw [show min (Pr.size p : Int) 200 = (m : Int) by omega] at cs
        have hm2 : m ≤ 200 := by omega
        have H3 := Lib.hid (show sv + m = Rj.cap (ps.take (q + 1)) by rw [hc2, hsv.out])
        obtain ⟨x0, x1, x2, x3, x4, x5, x6, x7, x8, x9, x10, x11, x12, x13⟩ := hcell
        clear gp hx hps hpe hu hc2 hm fin
        go_wp2_with fail
        refine cs.mono ?_
        rintro e w2 ⟨rfl, hb2⟩
        have hb' := below_join hb hb2
        clear cs x0 x1 x2 x3 x4 x5 x6 x7 x8 x9 x10 x11 x12 x13
        go_wp2_with fail
        go_roundw
        case rel => exact ⟨q + 1, sv + m, by omega, by omega, by go_num, by go_num, by omega, H3, hb'⟩
        case measure => simp [intOf]; omega
      · obtain rfl : q = 50 := by omega
        have hm := fin _ rfl (.inr rfl)
        have d1 : decide ((n : Int) ≤ 20) = false := by simp; omega
        have d2 : decide (n ≤ 20) = false := by simp; omega
        clear fin
        go_wp2_with fail
        go_ret
        exact ⟨ret_bool (by rw [hm.out, d2]; rfl), hb⟩
    · obtain rfl : q = n := by omega
      have hm := fin _ rfl (.inl rfl)
      clear fin
      by_cases h2 : q ≤ 20
      · have d1 : decide ((q : Int) ≤ 20) = true := by simp; omega
        have d2 : decide (q ≤ 20) = true := by simpa using h2
        have d3 : decide ((sv : Int) ≤ 100) = decide (sv ≤ 100) := by rw [decide_eq_decide]; omega
        go_wp2_with fail
        go_ret
        exact ⟨ret_bool (by rw [hm.out, d2]; simp), hb⟩
      · have d1 : decide ((q : Int) ≤ 20) = false := by simp; omega
        have d2 : decide (q ≤ 20) = false := by simpa using h2
        go_wp2_with fail
        go_ret
        exact ⟨ret_bool (by rw [hm.out, d2]; rfl), hb⟩
theorem isnull7_any (t : Int) (w : World) :
    Calls Tryd.prog 17 #[.int .i64 t] w fun e w' => e = .returned (.agg #[.int .i64 3, .int .i64 0, .int .i64 0, .int .i64 1, .int .i64 t, .int .i64 0, .bool false, .int .i64 0, .int .i64 0, .int .i64 0, .int .i64 0, .bool false, .int .i64 0, .slice none 0 0]) ∧ Below w.heap.size w w' := by
  go_enter Tryd.func17, Tryd.ntmps17
  go_wp2_with fail
  exact bodyPost_ret (v := .agg #[.int .i64 3, .int .i64 0, .int .i64 0, .int .i64 1, .int .i64 t, .int .i64 0, .bool false, .int .i64 0, .int .i64 0, .int .i64 0, .int .i64 0, .bool false, .int .i64 0, .slice none 0 0]) (by simp [results, Tryd.results17, go_sem]) rfl ⟨rfl, below_new _ _⟩
theorem arr_eq (a b c a' b' c' : Bool) (w : World) : (binOp .eql 26 (.agg #[.bool a, .bool b, .bool c]) (.agg #[.bool a', .bool b', .bool c'])).run Tryd.prog w = .ok (.bool (a == a' && b == b' && c == c')) w := by
  cases a <;> cases b <;> cases c <;> cases a' <;> cases b' <;> cases c' <;> kernel_rfl
theorem arr_ne (a b c a' b' c' : Bool) (w : World) : (binOp .neq 26 (.agg #[.bool a, .bool b, .bool c]) (.agg #[.bool a', .bool b', .bool c'])).run Tryd.prog w = .ok (.bool (!(a == a' && b == b' && c == c'))) w := by
  cases a <;> cases b <;> cases c <;> cases a' <;> cases b' <;> cases c' <;> kernel_rfl
theorem pred_built (W : World) (d : Nat) (f : Pf) (u : Value) (ps : List Pd) (G : Nat) (hG : W.heap.size = G) (hu : PsAt d W u ps) :
    PsAt (d + 1) (W.alloc (Obj.cells #[.int .i64 f.k, .int .i64 f.u, .int .i64 f.o, .int .i64 f.a.k, .int .i64 f.a.t, .int .i64 f.a.c, .bool f.a.z, .int .i64 f.a.n, .int .i64 f.b.k, .int .i64 f.b.t, .int .i64 f.b.c, .bool f.b.z, .int .i64 f.b.n, u] 33)) (.slice (some ⟨G, 0, none⟩) 1 1) [.mk f ps] := by
  subst hG
  obtain ⟨W1, hW1⟩ : ∃ W1, W1 = W.alloc (Obj.cells #[.int .i64 f.k, .int .i64 f.u, .int .i64 f.o, .int .i64 f.a.k, .int .i64 f.a.t, .int .i64 f.a.c, .bool f.a.z, .int .i64 f.a.n, .int .i64 f.b.k, .int .i64 f.b.t, .int .i64 f.b.c, .bool f.b.z, .int .i64 f.b.n, u] 33) := ⟨_, rfl⟩
  obtain ⟨l, hb⟩ := box_one (cs := f.cells u) hW1
  rw [← hW1]
  refine ⟨some ⟨W.heap.size, 0, none⟩, 1, rfl, by simp, fun j p hj => ?_⟩
  match j, hj with
  | 0, hj =>
    cases hj
    exact ⟨_, _, _, u, rfl, l.lt, l.pd, hu.below hb (Nat.le_refl _)⟩
end Go.Proofs.YtpdgbfeciacbdaaDoor
