/-
  THE DOCUMENT's ANSWERS OF LAYER 4 (three, Not, And, Or); AND awake: the chapter's examples hold.
-/
import Derived.Test.YthfoagglncimnaaDoorLogb
import Derived.Test.YthfoagglncimnaaDoorLies
import Derived.BigQuiet
import Derived.Deep.QuietTactic
import Derived.Lib.QuietBelow
namespace Go.Proofs.YthfoagglncimnaaDoor
open Go.RowKit
set_option maxHeartbeats 400000

theorem r4three_any (t : Int) (w : World) :
    Calls Tryd.prog 49 #[.int .i64 t] w fun e w' => e = .returned (.int .i64 (Lo.three t)) ∧ w = w' := by
  by_cases h : t = 0
  · subst h
    go_enter Tryd.func49, Tryd.ntmps49
    go_wp2
    go_ret
    exact ⟨rfl, rfl⟩
  · have hb : (t == 0) = false := by simp [h]
    by_cases h2 : t = 2
    · subst h2
      clear h hb
      go_enter Tryd.func49, Tryd.ntmps49
      go_wp2
      go_ret
      exact ⟨rfl, rfl⟩
    · have hb2 : (t == 2) = false := by simp [h2]
      have H : Hid (Lo.three t = 1) := Lib.hid (by simp [Lo.three, h, h2])
      clear h h2
      go_enter Tryd.func49, Tryd.ntmps49
      go_wp2
      go_ret
      exact ⟨ret_int H.out.symm, rfl⟩
theorem r4not_any (t : Int) (w : World) :
    Calls Tryd.prog 22 #[.int .i64 t] w fun e w' => e = .returned (.int .i64 (Lo.notI t)) ∧ w = w' := by
  have hs := r4three_any t w
  have hc := Lo.three_cases t
  have H := Lib.hid (Lo.not_three t)
  obtain ⟨r, hr⟩ : ∃ r, r = Lo.three t := ⟨_, rfl⟩
  rw [← hr] at hs hc H
  have hw : IntKind.i64.wrap (2 - r) = 2 - r := by rcases hc with rfl | rfl | rfl <;> rfl
  clear hr hc
  go_enter Tryd.func22, Tryd.ntmps22
  go_wp2_with (first | (with_reducible refine hs.mono ?_; rintro e w' ⟨rfl, rfl⟩))
  go_ret
  exact ⟨ret_int (by rw [← H.out]), rfl⟩
theorem r4and_any (v : Value) (l : List Int) (w : World) (hv : Sl w v (l.map (Value.int .i64))) (hl : l.length ≤ 9223372036854775807) :
    Calls Tryd.prog 44 #[v] w fun e w' => e = .returned (.int .i64 (Lo.andI l)) ∧ w = w' := by
  obtain ⟨A, c, rfl, _, hx⟩ := hv
  rw [List.length_map]
  obtain ⟨n, hn⟩ : ∃ n, n = l.length := ⟨_, rfl⟩
  rw [← hn] at hl ⊢
  have Hn := Lib.hid hn
  have HX := Lib.hid hx
  clear hn hx
  go_enter Tryd.func44, Tryd.ntmps44
  go_wp2
  go_loop [3, 4] (fun s i => ∃ (k : Nat) (r : Int), k ≤ n ∧ i = .int .i64 k ∧ s = .int .i64 r ∧ Hid (r = Lo.andI (l.take k))) (fun _ i => n - (intOf i).toNat)
  case atStart => exact ⟨0, 2, Nat.zero_le _, rfl, rfl, Lib.hid (by rw [List.take_zero, Lo.andI_nil])⟩
  case round =>
    obtain ⟨k, r, hk, rfl, rfl, hr⟩ := hrel
    by_cases hlt : k < n
    · obtain ⟨x, gx⟩ : ∃ x, l[k]? = some x := ⟨l[k]'(by have := Hn.out; omega), List.getElem?_eq_getElem _⟩
      obtain ⟨b1, o1, p1, rfl, _, hcell⟩ := HX.out k (.int .i64 x) (by simp [gx])
      have ht : l.take (k + 1) = l.take k ++ [x] := by rw [List.take_add_one, gx]; rfl
      clear gx
      obtain ⟨y, hy⟩ : ∃ y, y = Lo.three x := ⟨_, rfl⟩
      have hs : Calls Tryd.prog 49 #[.int .i64 x] w fun e w' => e = .returned (.int .i64 y) ∧ w = w' := by rw [hy]; exact r4three_any x w
      have H2 : Hid ((if y < r then y else r) = Lo.andI (l.take (k + 1))) := Lib.hid (by rw [ht, Lo.and_snoc, ← hr.out, ← hy]; split <;> omega)
      clear ht hy
      go_wp2_with (first | (with_reducible refine hs.mono ?_; rintro e w' ⟨rfl, rfl⟩))
      go_round
      case rel => exact ⟨k + 1, _, by omega, by go_num, rfl, H2⟩
      case measure => simp [intOf]; omega
    · have hend : Hid (r = Lo.andI l) := Lib.hid (by rw [hr.out, List.take_of_length_le (by have := Hn.out; omega)])
      go_wp2
      go_ret
      exact ⟨ret_int hend.out, rfl⟩
theorem r4or_any (v : Value) (l : List Int) (w : World) (hv : Sl w v (l.map (Value.int .i64))) (hl : l.length ≤ 9223372036854775807) :
    Calls Tryd.prog 46 #[v] w fun e w' => e = .returned (.int .i64 (Lo.orI l)) ∧ w = w' := by
  obtain ⟨A, c, rfl, _, hx⟩ := hv
  rw [List.length_map]
  obtain ⟨n, hn⟩ : ∃ n, n = l.length := ⟨_, rfl⟩
  rw [← hn] at hl ⊢
  have Hn := Lib.hid hn
  have HX := Lib.hid hx
  clear hn hx
  go_enter Tryd.func46, Tryd.ntmps46
  go_wp2
  go_loop [3, 4] (fun s i => ∃ (k : Nat) (r : Int), k ≤ n ∧ i = .int .i64 k ∧ s = .int .i64 r ∧ Hid (r = Lo.orI (l.take k))) (fun _ i => n - (intOf i).toNat)
  case atStart => exact ⟨0, 0, Nat.zero_le _, rfl, rfl, Lib.hid (by rw [List.take_zero, Lo.orI_nil])⟩
  case round =>
    obtain ⟨k, r, hk, rfl, rfl, hr⟩ := hrel
    by_cases hlt : k < n
    · obtain ⟨x, gx⟩ : ∃ x, l[k]? = some x := ⟨l[k]'(by have := Hn.out; omega), List.getElem?_eq_getElem _⟩
      obtain ⟨b1, o1, p1, rfl, _, hcell⟩ := HX.out k (.int .i64 x) (by simp [gx])
      have ht : l.take (k + 1) = l.take k ++ [x] := by rw [List.take_add_one, gx]; rfl
      clear gx
      obtain ⟨y, hy⟩ : ∃ y, y = Lo.three x := ⟨_, rfl⟩
      have hs : Calls Tryd.prog 49 #[.int .i64 x] w fun e w' => e = .returned (.int .i64 y) ∧ w = w' := by rw [hy]; exact r4three_any x w
      have H2 : Hid ((if r < y then y else r) = Lo.orI (l.take (k + 1))) := Lib.hid (by rw [ht, Lo.or_snoc, ← hr.out, ← hy]; split <;> omega)
      clear ht hy
      go_wp2_with (first | (with_reducible refine hs.mono ?_; rintro e w' ⟨rfl, rfl⟩))
      go_round
      case rel => exact ⟨k + 1, _, by omega, by go_num, rfl, H2⟩
      case measure => simp [intOf]; omega
    · have hend : Hid (r = Lo.orI l) := Lib.hid (by rw [hr.out, List.take_of_length_le (by have := Hn.out; omega)])
      go_wp2
      go_ret
      exact ⟨ret_int hend.out, rfl⟩

theorem below_join4 {w a b : World} (h : Below w.heap.size w a) (k : Below a.heap.size a b) : Below w.heap.size w b :=
  ⟨k.os.trans h.os, k.tape.trans h.tape, k.output.trans h.output, Nat.le_trans h.size k.size, fun i hi => (k.block i (Nat.lt_of_lt_of_le hi h.size)).trans (h.block i hi)⟩
/-- a slice of numbers that the call has just built -/
theorem sl_built (w : World) (l : List Int) : Sl (w.alloc (.cells (l.map (Value.int .i64)).toArray 3)) (.slice (some ⟨w.heap.size, 0, none⟩) l.length l.length) (l.map (Value.int .i64)) := by
  have := Sl.new w 3 (l.map (Value.int .i64))
  rwa [List.length_map] at this
theorem and_built (l : List Int) (hl : l.length ≤ 9223372036854775807) {w W : World} (h : Below w.heap.size w W) :
    Calls Tryd.prog 47 #[.slice (some ⟨W.heap.size, 0, none⟩) l.length l.length] (W.alloc (.cells (l.map (Value.int .i64)).toArray 3)) fun e w' => e = .returned (.int .i64 (Lo.andI l)) ∧ Below w.heap.size w w' :=
  (land_any _ l _ (sl_built W l) hl).mono fun _ _ ⟨he, hb⟩ => ⟨he, below_join4 h (below_join4 ((Below.refl _ W).alloc (Nat.le_refl _) _) hb)⟩
theorem or_built (l : List Int) (hl : l.length ≤ 9223372036854775807) {w W : World} (h : Below w.heap.size w W) :
    Calls Tryd.prog 40 #[.slice (some ⟨W.heap.size, 0, none⟩) l.length l.length] (W.alloc (.cells (l.map (Value.int .i64)).toArray 3)) fun e w' => e = .returned (.int .i64 (Lo.orI l)) ∧ Below w.heap.size w w' :=
  (lor_any _ l _ (sl_built W l) hl).mono fun _ _ ⟨he, hb⟩ => ⟨he, below_join4 h (below_join4 ((Below.refl _ W).alloc (Nat.le_refl _) _) hb)⟩
theorem sl_none (w : World) : Sl w (.slice none 0 0) (([] : List Int).map (Value.int .i64)) := ⟨none, 0, rfl, by simp, fun j u hu => by simp at hu⟩
end Go.Proofs.YthfoagglncimnaaDoor
