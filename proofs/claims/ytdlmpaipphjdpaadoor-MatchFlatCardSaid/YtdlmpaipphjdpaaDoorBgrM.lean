/-
  THE DOCUMENT's ANSWERS OF LAYER 9 (but Sorted), bag's Times, and which lists are few.
-/
import Derived.Test.YtdlmpaipphjdpaaDoorBgaM
namespace Go.Proofs.YtdlmpaipphjdpaaDoor
open Go.RowKit Go.Sort
set_option maxHeartbeats 1600000

theorem Bg.cv_zero (x y : Vl) : decide (Bg.cv x y = 0) = Va.same x.1 x.2 y.1 y.2 := by
  unfold Bg.cv
  cases Va.same x.1 x.2 y.1 y.2 <;> cases Va.less x.1 x.2 y.1 y.2 <;> simp
theorem Bg.cv_less (x y : Vl) (h : Va.same x.1 x.2 y.1 y.2 = false) : decide (Bg.cv x y < 0) = Va.less x.1 x.2 y.1 y.2 := by
  unfold Bg.cv
  rw [h]
  cases Va.less x.1 x.2 y.1 y.2 <;> simp
theorem Bg.lex_no {α : Type} {f : α → α → Int} {a b : List α} (h : a.length ≠ b.length) : Bg.lex f a b ≠ 0 := fun e => h (Bg.lex_zero.1 e).1
set_option maxRecDepth 100000 in
theorem r9same_any (u v : Value) (r s : List Vl) (w : World) (hu : RowAt w u r) (hv : RowAt w v s) (hr : r.length ≤ 4611686018427387904) (hs : s.length ≤ 4611686018427387904) :
    Calls Tryd.prog 18 #[u, v] w fun e w' => e = .returned (.bool (decide (Bg.cr r s = 0))) ∧ Below w.heap.size w w' := by
  obtain ⟨A, c, rfl, _, _⟩ := id hu
  obtain ⟨A', c', rfl, _, _⟩ := id hv
  have hpu := fun (j : Nat) (x : Vl) (hj : r[j]? = some x) => hu.pair hj
  have hpv := fun (j : Nat) (x : Vl) (hj : s[j]? = some x) => hv.pair hj
  have HU := Lib.hid hpu
  have HV := Lib.hid hpv
  obtain ⟨n, hn⟩ : ∃ n, n = r.length := ⟨_, rfl⟩
  obtain ⟨m, hm⟩ : ∃ m, m = s.length := ⟨_, rfl⟩
  rw [← hn] at hr ⊢
  rw [← hm] at hs ⊢
  have HN := Lib.hid (And.intro hn hm)
  clear hpu hpv hu hv hn hm
  by_cases hnm : n = m
  · subst hnm
    have hS := Below.refl w.heap.size w
    go_enter Tryd.func18, Tryd.ntmps18
    go_wp2_with (fail)
    go_loopw [5] (fun i wr => ∃ (k : Nat), k ≤ n ∧ i = .int .i64 k ∧ Hid (∀ j x y, j < k → r[j]? = some x → s[j]? = some y → Bg.cv x y = 0) ∧ Below w.heap.size w wr) (fun i _ => n - (intOf i).toNat)
    case atStart => exact ⟨0, Nat.zero_le _, rfl, Lib.hid fun j x y h => by omega, hS⟩
    case round =>
     obtain ⟨k, hk, rfl, hz, hb⟩ := hrel
     by_cases hlt : k < n
     · obtain ⟨x, gx⟩ : ∃ x, r[k]? = some x := ⟨r[k]'(by have := HN.out; omega), List.getElem?_eq_getElem _⟩
       obtain ⟨y, gy⟩ : ∃ y, s[k]? = some y := ⟨s[k]'(by have := HN.out; omega), List.getElem?_eq_getElem _⟩
       obtain ⟨b1, o1, p1, rfl, hl1, h1⟩ := HU.out k x gx
       obtain ⟨b2, o2, p2, rfl, hl2, h2⟩ := HV.out k y gy
       have i1 : (0 : Int) ≤ (k : Int) := by omega
       have i2 : (k : Int) < (n : Int) := by omega
       have y1 := cell_regrown (h1 wr hb).1
       have y2 := cell_regrown (h1 wr hb).2
       have y3 := cell_regrown (h2 wr hb).1
       have y4 := cell_regrown (h2 wr hb).2
       obtain ⟨d, hd⟩ : ∃ d : Bool, d = decide (Bg.cv x y = 0) := ⟨_, rfl⟩
       have cc := in_class (W0 := wr) fun W _ => rsame_any x.1 y.1 x.2 y.2 W
       rw [← Bg.cv_zero, ← hd] at cc
       have HD := Lib.hid hd
       have GX := Lib.hid gx
       have GY := Lib.hid gy
       clear h1 h2 gx gy hd
       go_wp2_with (fail)
       refine wp_region_quiet_below (by kernel_rfl) (by kernel_rfl) ?_
       repeat (go_big_quiet_step (with_reducible exact cc _ _))
       refine wpQuiet_nil ?_
       intro _ hw'
       obtain ⟨⟨dq, osq⟩, hw''⟩ := hw'
       subst hw''
       have hb2 := below_join hb (below_regrown wr dq osq)
       clear y1 y2 y3 y4 i1 i2 hb cc
       generalize grow (redrawn wr dq) osq = w7 at hb2 ⊢
       cases d
       · have hres : Hid (false = decide (Bg.cr r s = 0)) := Lib.hid (by
           symm
           rw [decide_eq_false_iff_not]
           intro e
           have h := HD.out
           rw [(Bg.lex_zero.1 e).2 k x y GX.out GY.out] at h
           simp at h)
         go_wp2_with (fail)
         go_ret
         exact ⟨ret_bool hres.out, hb2⟩
       · have hz2 : Hid (∀ j x y, j < k + 1 → r[j]? = some x → s[j]? = some y → Bg.cv x y = 0) := Lib.hid fun j x' y' hj hx hy => by
           rcases Nat.lt_or_eq_of_le (Nat.le_of_lt_succ hj) with g | g
           · exact hz.out j x' y' g hx hy
           · subst g
             rw [GX.out] at hx; rw [GY.out] at hy
             cases hx; cases hy
             simpa using HD.out.symm
         go_wp2_with (fail)
         go_roundw
         case rel => exact ⟨k + 1, by omega, by go_num, hz2, hb2⟩
         case measure => simp [intOf]; omega
     · have hres : Hid (true = decide (Bg.cr r s = 0)) := Lib.hid (by
         symm
         rw [decide_eq_true_iff]
         obtain ⟨h1, h2⟩ := HN.out
         exact Bg.lex_zero.2 ⟨by omega, fun j x y hx hy => hz.out j x y (by have := (List.getElem?_eq_some_iff.1 hx).1; omega) hx hy⟩)
       go_wp2_with (fail)
       go_ret
       exact ⟨ret_bool hres.out, hb⟩
  · have hnm2 : ((n : Int) != (m : Int)) = true := by simpa using fun h => hnm (by omega)
    have hnm3 : ¬ ((n : Int) = (m : Int)) := fun h => hnm (by omega)
    have hres : Hid (false = decide (Bg.cr r s = 0)) := Lib.hid (by
      symm
      rw [decide_eq_false_iff_not]
      obtain ⟨h1, h2⟩ := HN.out
      exact Bg.lex_no (by omega))
    clear hnm
    go_enter Tryd.func18, Tryd.ntmps18
    go_wp2_with (fail)
    go_ret
    exact ⟨ret_bool hres.out, Below.refl _ _⟩
/-- what few tells -/
def Few9 (w : World) (l : List (List Vl)) (E : Ending) (w' : World) : Prop := ∃ b : Bool, E = .returned (.bool b) ∧ (b = true → l.length ≤ 60 ∧ ∀ x ∈ l, x.length ≤ 20) ∧ Below w.heap.size w w'
end Go.Proofs.YtdlmpaipphjdpaaDoor
