/-
  THE LAW's awake: the chapter's examples hold.
-/
import Derived.Test.YtjidhdakigpoeaaDoorRefd
import Derived.Test.YtjidhdakigpoeaaDoorRefa
namespace Go.Proofs.YtjidhdakigpoeaaDoor
open Go.RowKit
set_option maxHeartbeats 400000

theorem Sl.new (w : World) (t : TypeId) (xs : List Value) : Sl (w.alloc (.cells xs.toArray t)) (.slice (some ⟨w.heap.size, 0, none⟩) xs.length xs.length) xs := by
  refine ⟨_, _, rfl, Nat.le_refl _, fun j u hu => ⟨w.heap.size, 0, none, rfl, by simp, ?_⟩⟩
  have h := Below.heap_alloc w (.cells xs.toArray t)
  have hb : (w.alloc (.cells xs.toArray t)).heap[w.heap.size]? = some (.cells xs.toArray t) := World.alloc_heap_new w _
  have hl : j < xs.length := by
    by_cases hj : j < xs.length
    · exact hj
    · rw [List.getElem?_eq_none (by omega)] at hu; cases hu
  have e : ((⟨w.heap.size, 0, none⟩ : Addr).add j) = ⟨w.heap.size, j, none⟩ := by
    unfold Addr.add
    split <;> simp_all
  rw [e]
  unfold World.cell?
  simp only [hb]
  simpa using hu

theorem awake_of (w : World) : Calls Tryd.prog 11 #[.slice (some ⟨w.heap.size, 0, none⟩) 2 2] (w.alloc (.cells #[.int .i64 0, .int .i64 3] 3)) fun e w' => e = .returned (.int .u64 9) ∧ w.alloc (.cells #[.int .i64 0, .int .i64 3] 3) = w' :=
  (sof_any _ [0, 3] _ (Sl.new w 3 [.int .i64 0, .int .i64 3]) (by decide)).mono fun e w' ⟨he, hw⟩ => ⟨by rw [he, show St.ofN [0, 3] = 9 by decide +kernel]; rfl, hw⟩
theorem awake_below (w : World) : Calls Tryd.prog 9 #[.int .i64 2] w fun e w' => e = .returned (.int .u64 7) ∧ w = w' :=
  (below_any 2 w).mono fun e w' ⟨he, hw⟩ => ⟨by rw [he, show St.belowN 2 = 7 by decide +kernel]; rfl, hw⟩
theorem awake_parts (w : World) : Calls Tryd.prog 22 #[.int .u64 9, .int .i64 9] w (OwnNums 22 .u64 w [1, 8, 9]) := by
  have := lparts_any 9 9 w (by decide) (by decide)
  rwa [show ints ((partsOf 9).take 9) = [1, 8, 9] by decide +kernel] at this
theorem awake_words (v : Value) (w w1 : World) (h : Sl w1 v ([1, 8, 9].map (Value.int .u64))) (hw : w = w1.alloc (.cells #[.int .u64 1, .int .u64 8, .int .u64 9] 22)) :
    Calls Tryd.prog 24 #[v, .slice (some ⟨w1.heap.size, 0, none⟩) 3 3] w fun e w' => e = .returned (.bool true) ∧ Same w w' := by
  subst hw
  refine (words_any _ _ [1, 8, 9] [1, 8, 9] _ (h.below ((Below.refl _ w1).alloc (Nat.le_refl _) _) (Nat.le_refl _)) (Sl.new w1 22 [.int .u64 1, .int .u64 8, .int .u64 9]) (by decide) (by decide)).mono fun e w' ⟨he, hs⟩ => ⟨by rw [he]; rfl, hs⟩
theorem awake_min (w : World) (hT : Tab w) : Calls Tryd.prog 20 #[.int .u64 8] w fun e w' => e = .returned (.int .i64 3) ∧ w = w' :=
  (min_any 8 w ⟨by decide, by decide⟩ hT).mono fun e w' ⟨he, hw⟩ => ⟨by rw [he, show St.minI (8 : Int).toNat = 3 by decide +kernel], hw⟩
theorem awake_has (w : World) : Calls Tryd.prog 7 #[.int .u64 9, .int .i64 3] w fun e w' => e = .returned (.bool true) ∧ w = w' :=
  (has_any 9 3 w ⟨by decide, by decide⟩).mono fun e w' ⟨he, hw⟩ => ⟨by rw [he, show St.hasB (9 : Int).toNat 3 = true by decide +kernel], hw⟩
theorem awake_count (w : World) : Calls Tryd.prog 18 #[.int .u64 9] w fun e w' => e = .returned (.int .i64 2) ∧ w = w' :=
  (count_any 9 w ⟨by decide, by decide⟩).mono fun e w' ⟨he, hw⟩ => ⟨by rw [he, show St.pop 64 (9 : Int).toNat = 2 by decide +kernel]; rfl, hw⟩
theorem awake_in (w : World) : Calls Tryd.prog 16 #[.int .u64 1, .int .u64 9] w fun e w' => e = .returned (.bool true) ∧ w = w' :=
  (in_any 1 9 w ⟨by decide, by decide⟩ ⟨by decide, by decide⟩).mono fun e w' ⟨he, hw⟩ => ⟨by rw [he, show St.inB (1 : Int).toNat (9 : Int).toNat = true by decide +kernel], hw⟩

theorem awake_any (w : World) (hT : Tab w) : Calls Tryd.prog 6 #[] w fun e w' => e = .returned (.bool true) ∧ Below w.heap.size w w' := by
  have HT := Lib.hid hT
  clear hT
  go_enter Tryd.func6, Tryd.ntmps6
  go_wp2_with fail
  refine (awake_of w).mono ?_
  rintro e w' ⟨rfl, rfl⟩
  go_wp2_with fail
  refine (awake_below _).mono ?_
  rintro e w' ⟨rfl, rfl⟩
  go_wp2_with fail
  refine (awake_parts _).mono ?_
  intro e w1 h
  obtain ⟨A, c, rfl, _, _, hsl, hb⟩ := h.form
  clear h
  have hb1 : Below w.heap.size w w1 := ((Below.refl _ w).alloc (Nat.le_refl _) _).trans (hb.mono (by simp))
  clear hb
  simp only [List.length_cons, List.length_nil, Nat.zero_add, Nat.reduceAdd] at hsl ⊢
  go_wp2_with fail
  refine (awake_words _ _ w1 hsl rfl).mono ?_
  rintro e w2 ⟨rfl, hs⟩
  have hb2 : Below w.heap.size w w2 := (hb1.alloc hb1.size _).trans (hs.below _)
  clear hs hsl hb1
  go_wp2_with fail
  refine (awake_min _ (HT.out.below hb2)).mono ?_
  rintro e w' ⟨rfl, rfl⟩
  go_wp2_with fail
  refine (awake_has _).mono ?_
  rintro e w' ⟨rfl, rfl⟩
  go_wp2_with fail
  refine (awake_count _).mono ?_
  rintro e w' ⟨rfl, rfl⟩
  go_wp2_with fail
  refine (awake_in _).mono ?_
  rintro e w' ⟨rfl, rfl⟩
  go_wp2_with fail
  go_ret
  exact ⟨rfl, hb2⟩
end Go.Proofs.YtjidhdakigpoeaaDoor
