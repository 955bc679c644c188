/-
  LAID TOGETHER, BY PROGRAM, of: Loga, Logb, Logc, Seq.
-/
import Derived.Test.YtbddhkgbpjhhaaaGreatDoorRows
import Derived.Test.YtbddhkgbpjhhaaaGreatDoorGBase
import Derived.Test.YtbddhkgbpjhhaaaGreatDoorGPlain
import Derived.BigQuiet
import Derived.Deep.QuietTactic
import Derived.Lib.QuietBelow
import Derived.Laws.AppendOwnNone
import Derived.OwnWalk
namespace Go.Proofs.YtbddhkgbpjhhaaaGreatDoor
open Go.RowKit
set_option maxHeartbeats 400000
theorem sure_any (t : Int) (w : World) :
    Calls Tryz.prog 162 #[.int .i64 t] w fun e w' => e = .returned (.bool (Lo.known t)) ∧ w = w' := by
  by_cases h : t = 0
  · subst h
    go_enter Tryz.func162, Tryz.ntmps162
    go_wp2
    go_ret
    exact ⟨rfl, rfl⟩
  · have hb : (t == 0) = false := by simp [h]
    have H := Lib.hid h
    clear h
    go_enter Tryz.func162, Tryz.ntmps162
    go_wp2
    go_ret
    exact ⟨ret_bool (by simp [Lo.known, hb]), rfl⟩
theorem lof_any (b : Bool) (w : World) :
    Calls Tryz.prog 192 #[.bool b] w fun e w' => e = .returned (.int .i64 (if b then 2 else 0)) ∧ w = w' := by
  cases b
  all_goals
    go_enter Tryz.func192, Tryz.ntmps192
    go_wp2
    go_ret
    exact ⟨rfl, rfl⟩
theorem lnot_any (t : Int) (w : World) :
    Calls Tryz.prog 176 #[.int .i64 t] w fun e w' => e = .returned (.int .i64 (Lo.notI t)) ∧ w = w' := by
  by_cases h : t = 0
  · subst h
    have hs : ∀ w, Calls Tryz.prog 162 #[.int .i64 0] w fun e w' => e = .returned (.bool true) ∧ w = w' := sure_any 0
    go_enter Tryz.func176, Tryz.ntmps176
    go_wp2_with (first | (go_at_call 162; refine (hs _).mono ?_; rintro e w' ⟨rfl, rfl⟩) | (go_at_call 192; refine (lof_any true _).mono ?_; rintro e w' ⟨rfl, rfl⟩))
    go_ret
    exact ⟨rfl, rfl⟩
  · by_cases h2 : t = 2
    · subst h2
      have hs : ∀ w, Calls Tryz.prog 162 #[.int .i64 2] w fun e w' => e = .returned (.bool true) ∧ w = w' := sure_any 2
      clear h
      go_enter Tryz.func176, Tryz.ntmps176
      go_wp2_with (first | (go_at_call 162; refine (hs _).mono ?_; rintro e w' ⟨rfl, rfl⟩) | (go_at_call 192; refine (lof_any false _).mono ?_; rintro e w' ⟨rfl, rfl⟩))
      go_ret
      exact ⟨rfl, rfl⟩
    · have hs : ∀ w, Calls Tryz.prog 162 #[.int .i64 t] w fun e w' => e = .returned (.bool false) ∧ w = w' := by
        have e : Lo.known t = false := by simp [Lo.known, h, h2]
        rw [← e]; exact sure_any t
      have H : Hid (Lo.notI t = 1) := Lib.hid (by simp [Lo.notI, h, h2])
      clear h h2
      go_enter Tryz.func176, Tryz.ntmps176
      go_wp2_with (first | (go_at_call 162; refine (hs _).mono ?_; rintro e w' ⟨rfl, rfl⟩))
      go_ret
      exact ⟨ret_int H.out.symm, rfl⟩
theorem lright_any (t : Int) (w : World) :
    Calls Tryz.prog 141 #[.int .i64 t] w fun e w' => e = .returned (.bool (t == 0 || t == 1 || t == 2)) ∧ w = w' := by
  by_cases h : t = 1
  · subst h
    go_enter Tryz.func141, Tryz.ntmps141
    go_wp2
    go_ret
    exact ⟨rfl, rfl⟩
  · have hb : (t == 1) = false := by simp [h]
    have H : Hid (Lo.known t = (t == 0 || t == 1 || t == 2)) := Lib.hid (by simp [Lo.known, hb])
    have hs := sure_any t
    clear h
    go_enter Tryz.func141, Tryz.ntmps141
    go_wp2_with (first | (go_at_call 162; refine (hs _).mono ?_; rintro e w' ⟨rfl, rfl⟩))
    go_ret
    exact ⟨ret_bool H.out, rfl⟩
theorem settle1_any (t s : Int) (b : Nat) (w : World) (hc : w.cell? ⟨b, 0, none⟩ = some (.int .i64 s)) :
    Calls Tryz.prog 174 #[.int .i64 t, .pointer (some ⟨b, 0, none⟩)] w fun e w' => e = .returned (.bool (t == s)) ∧ w = w' := by
  go_enter Tryz.func174, Tryz.ntmps174
  go_wp2
  go_ret
  exact ⟨rfl, rfl⟩
theorem settle2_any (t : Int) (w : World) :
    Calls Tryz.prog 175 #[.int .i64 t] w fun e w' => e = .returned (.bool (!Lo.known t)) ∧ w = w' := by
  have hs := sure_any t
  go_enter Tryz.func175, Tryz.ntmps175
  go_wp2_with (first | (go_at_call 162; refine (hs _).mono ?_; rintro e w' ⟨rfl, rfl⟩))
  go_ret
  exact ⟨rfl, rfl⟩
end Go.Proofs.YtbddhkgbpjhhaaaGreatDoor
namespace Go.Proofs.YtbddhkgbpjhhaaaGreatDoor
open Go.RowKit
set_option maxHeartbeats 400000
theorem index1_any (v : Value) (l : List Int) (s : Int) (b : Nat) (w : World) (hv : Sl w v (l.map (Value.int .i64))) (hl : l.length ≤ 9223372036854775807) (hc : w.cell? ⟨b, 0, none⟩ = some (.int .i64 s)) :
    Calls Tryz.prog 195 #[v, .func (.func 174) #[] #[.pointer (some ⟨b, 0, none⟩)]] w fun e w' => (∃ r : Int, e = .returned (.int .i64 r) ∧ decide (0 ≤ r) = l.any (fun t => t == s)) ∧ w = w' := by
  obtain ⟨A, c, rfl, _, hx⟩ := hv
  rw [List.length_map]
  obtain ⟨n, hn⟩ : ∃ n, n = l.length := ⟨_, rfl⟩
  rw [← hn] at hl ⊢
  have Hn := Lib.hid hn
  have HX := Lib.hid hx
  clear hn hx
  go_enter Tryz.func195, Tryz.ntmps195
  go_wp2
  go_loop [8] (fun i => ∃ k : Nat, k ≤ n ∧ i = .int .i64 k ∧ Hid ((l.take k).any (fun t => t == s) = false)) (fun i => n - (intOf i).toNat)
  case atStart => exact ⟨0, Nat.zero_le _, rfl, Lib.hid (by simp)⟩
  case round =>
    obtain ⟨k, hk, rfl, hno⟩ := hrel
    by_cases hlt : k < n
    · obtain ⟨x, gx⟩ : ∃ x, l[k]? = some x := ⟨l[k]'(by have := Hn.out; omega), List.getElem?_eq_getElem _⟩
      obtain ⟨b1, o1, p1, rfl, _, hcell⟩ := HX.out k (.int .i64 x) (by simp [gx])
      have ht : l.take (k + 1) = l.take k ++ [x] := by rw [List.take_add_one, gx]; rfl
      have Gx := Lib.hid gx
      clear gx
      obtain ⟨r, hr⟩ : ∃ r, r = (x == s) := ⟨_, rfl⟩
      have hs : ∀ w : World, w.cell? ⟨b, 0, none⟩ = some (.int .i64 s) → Calls Tryz.prog 174 #[.int .i64 x, .pointer (some ⟨b, 0, none⟩)] w fun e w' => e = .returned (.bool r) ∧ w = w' := by
        rw [hr]; exact fun w hc => settle1_any x s b w hc
      have Hr := Lib.hid hr
      have Ht := Lib.hid ht
      clear hr ht
      cases r with
      | true =>
        have hyes : Hid (l.any (fun t => t == s) = true) := Lib.hid (List.any_eq_true.2 ⟨x, List.mem_of_getElem? Gx.out, Hr.out.symm⟩)
        go_wp2_with (first | (go_at_call 174; refine (hs _ (by assumption)).mono ?_; rintro e w' ⟨rfl, rfl⟩))
        go_ret
        exact ⟨⟨k, rfl, by rw [hyes.out]; simp⟩, rfl⟩
      | false =>
        have hno2 : Hid ((l.take (k + 1)).any (fun t => t == s) = false) := Lib.hid (by rw [Ht.out, List.any_append, hno.out]; simp [← Hr.out])
        go_wp2_with (first | (go_at_call 174; refine (hs _ (by assumption)).mono ?_; rintro e w' ⟨rfl, rfl⟩))
        go_round
        case rel => exact ⟨k + 1, by omega, by go_num, hno2⟩
        case measure => simp [intOf]; omega
    · have hend : Hid (l.any (fun t => t == s) = false) := Lib.hid (by rw [← hno.out, List.take_of_length_le (by have := Hn.out; omega)])
      go_wp2
      go_ret
      exact ⟨⟨-1, rfl, by rw [hend.out]; rfl⟩, rfl⟩
theorem contains1_any (v : Value) (l : List Int) (s : Int) (b : Nat) (w : World) (hv : Sl w v (l.map (Value.int .i64))) (hl : l.length ≤ 9223372036854775807) (hc : w.cell? ⟨b, 0, none⟩ = some (.int .i64 s)) :
    Calls Tryz.prog 173 #[v, .func (.func 174) #[] #[.pointer (some ⟨b, 0, none⟩)]] w fun e w' => e = .returned (.bool (l.any (fun t => t == s))) ∧ w = w' := by
  have hi := index1_any v l s b w hv hl hc
  go_enter Tryz.func173, Tryz.ntmps173
  go_wp2_with (first | (go_at_call 195; refine hi.mono ?_; rintro e w' ⟨⟨r, rfl, hr⟩, rfl⟩))
  go_ret
  exact ⟨ret_bool (by simp), rfl⟩
theorem index2_any (v : Value) (l : List Int) (w : World) (hv : Sl w v (l.map (Value.int .i64))) (hl : l.length ≤ 9223372036854775807) :
    Calls Tryz.prog 195 #[v, .func (.func 175) #[] #[]] w fun e w' => (∃ r : Int, e = .returned (.int .i64 r) ∧ decide (0 ≤ r) = l.any (fun t => !Lo.known t)) ∧ w = w' := by
  obtain ⟨A, c, rfl, _, hx⟩ := hv
  rw [List.length_map]
  obtain ⟨n, hn⟩ : ∃ n, n = l.length := ⟨_, rfl⟩
  rw [← hn] at hl ⊢
  have Hn := Lib.hid hn
  have HX := Lib.hid hx
  clear hn hx
  go_enter Tryz.func195, Tryz.ntmps195
  go_wp2
  go_loop [8] (fun i => ∃ k : Nat, k ≤ n ∧ i = .int .i64 k ∧ Hid ((l.take k).any (fun t => !Lo.known t) = false)) (fun i => n - (intOf i).toNat)
  case atStart => exact ⟨0, Nat.zero_le _, rfl, Lib.hid (by simp)⟩
  case round =>
    obtain ⟨k, hk, rfl, hno⟩ := hrel
    by_cases hlt : k < n
    · obtain ⟨x, gx⟩ : ∃ x, l[k]? = some x := ⟨l[k]'(by have := Hn.out; omega), List.getElem?_eq_getElem _⟩
      obtain ⟨b1, o1, p1, rfl, _, hcell⟩ := HX.out k (.int .i64 x) (by simp [gx])
      have ht : l.take (k + 1) = l.take k ++ [x] := by rw [List.take_add_one, gx]; rfl
      have Gx := Lib.hid gx
      clear gx
      obtain ⟨r, hr⟩ : ∃ r, r = (!Lo.known x) := ⟨_, rfl⟩
      have hs : ∀ w : World, Calls Tryz.prog 175 #[.int .i64 x] w fun e w' => e = .returned (.bool r) ∧ w = w' := by
        rw [hr]; exact fun w => settle2_any x w
      have Hr := Lib.hid hr
      have Ht := Lib.hid ht
      clear hr ht
      cases r with
      | true =>
        have hyes : Hid (l.any (fun t => !Lo.known t) = true) := Lib.hid (List.any_eq_true.2 ⟨x, List.mem_of_getElem? Gx.out, Hr.out.symm⟩)
        go_wp2_with (first | (go_at_call 175; refine (hs _).mono ?_; rintro e w' ⟨rfl, rfl⟩))
        go_ret
        exact ⟨⟨k, rfl, by rw [hyes.out]; simp⟩, rfl⟩
      | false =>
        have hno2 : Hid ((l.take (k + 1)).any (fun t => !Lo.known t) = false) := Lib.hid (by rw [Ht.out, List.any_append, hno.out]; simp [← Hr.out])
        go_wp2_with (first | (go_at_call 175; refine (hs _).mono ?_; rintro e w' ⟨rfl, rfl⟩))
        go_round
        case rel => exact ⟨k + 1, by omega, by go_num, hno2⟩
        case measure => simp [intOf]; omega
    · have hend : Hid (l.any (fun t => !Lo.known t) = false) := Lib.hid (by rw [← hno.out, List.take_of_length_le (by have := Hn.out; omega)])
      go_wp2
      go_ret
      exact ⟨⟨-1, rfl, by rw [hend.out]; rfl⟩, rfl⟩
theorem contains2_any (v : Value) (l : List Int) (w : World) (hv : Sl w v (l.map (Value.int .i64))) (hl : l.length ≤ 9223372036854775807) :
    Calls Tryz.prog 173 #[v, .func (.func 175) #[] #[]] w fun e w' => e = .returned (.bool (l.any (fun t => !Lo.known t))) ∧ w = w' := by
  have hi := index2_any v l w hv hl
  go_enter Tryz.func173, Tryz.ntmps173
  go_wp2_with (first | (go_at_call 195; refine hi.mono ?_; rintro e w' ⟨⟨r, rfl, hr⟩, rfl⟩))
  go_ret
  exact ⟨ret_bool (by simp), rfl⟩
theorem settle_any (v : Value) (l : List Int) (s : Int) (w : World) (hv : Sl w v (l.map (Value.int .i64))) (hl : l.length ≤ 9223372036854775807) :
    Calls Tryz.prog 151 #[v, .int .i64 s] w fun e w' => e = .returned (.int .i64 (Lo.settleI l s)) ∧ Below w.heap.size w w' := by
  obtain ⟨W0, hW⟩ : ∃ W0, W0 = w.alloc (Obj.cells #[Value.int IntKind.i64 s] 3) := ⟨_, rfl⟩
  have hb : Below w.heap.size w W0 := by rw [hW]; exact (Below.refl _ w).alloc (Nat.le_refl _) _
  have hc : W0.cell? ⟨w.heap.size, 0, none⟩ = some (.int .i64 s) := by rw [hW]; simp
  have hv0 : Sl W0 v (l.map (Value.int .i64)) := hv.below hb (Nat.le_refl _)
  obtain ⟨r1, h1⟩ : ∃ r, r = l.any (fun t => t == s) := ⟨_, rfl⟩
  obtain ⟨r2, h2⟩ : ∃ r, r = l.any (fun t => !Lo.known t) := ⟨_, rfl⟩
  have c1 : Calls Tryz.prog 173 #[v, .func (.func 174) #[] #[.pointer (some ⟨w.heap.size, 0, none⟩)]] W0 fun e w' => e = .returned (.bool r1) ∧ W0 = w' := by
    rw [h1]; exact contains1_any v l s w.heap.size W0 hv0 hl hc
  have c2 : Calls Tryz.prog 173 #[v, .func (.func 175) #[] #[]] W0 fun e w' => e = .returned (.bool r2) ∧ W0 = w' := by
    rw [h2]; exact contains2_any v l W0 hv0 hl
  have c3 := lnot_any s W0
  have H : Hid (Lo.settleI l s = if r1 then s else if r2 then 1 else Lo.notI s) := Lib.hid (by rw [h1, h2]; rfl)
  have HW := Lib.hid hW
  clear h1 h2 hv hv0 hW
  go_enter Tryz.func151, Tryz.ntmps151
  go_wp2_with fail
  rw [← HW.out]
  cases r1 with
  | true =>
    go_wp2_with (first | (with_reducible refine c1.mono ?_; rintro e w' ⟨rfl, rfl⟩))
    go_ret
    exact ⟨ret_int H.out.symm, hb⟩
  | false =>
    cases r2 with
    | true =>
      go_wp2_with (first | (with_reducible refine c1.mono ?_; rintro e w' ⟨rfl, rfl⟩) | (with_reducible refine c2.mono ?_; rintro e w' ⟨rfl, rfl⟩))
      go_ret
      exact ⟨ret_int H.out.symm, hb⟩
    | false =>
      go_wp2_with (first | (with_reducible refine c1.mono ?_; rintro e w' ⟨rfl, rfl⟩) | (with_reducible refine c2.mono ?_; rintro e w' ⟨rfl, rfl⟩) | (with_reducible refine c3.mono ?_; rintro e w' ⟨rfl, rfl⟩))
      go_ret
      exact ⟨ret_int H.out.symm, hb⟩
theorem land_any (v : Value) (l : List Int) (w : World) (hv : Sl w v (l.map (Value.int .i64))) (hl : l.length ≤ 9223372036854775807) :
    Calls Tryz.prog 134 #[v] w fun e w' => e = .returned (.int .i64 (Lo.andI l)) ∧ Below w.heap.size w w' := by
  have hs := settle_any v l 0 w hv hl
  rw [Lo.settle_and] at hs
  clear hv
  go_enter Tryz.func134, Tryz.ntmps134
  go_wp2_with (first | (with_reducible refine hs.mono ?_; rintro e w' ⟨rfl, hb⟩))
  go_ret
  exact ⟨rfl, hb⟩
theorem lor_any (v : Value) (l : List Int) (w : World) (hv : Sl w v (l.map (Value.int .i64))) (hl : l.length ≤ 9223372036854775807) :
    Calls Tryz.prog 170 #[v] w fun e w' => e = .returned (.int .i64 (Lo.orI l)) ∧ Below w.heap.size w w' := by
  have hs := settle_any v l 2 w hv hl
  rw [Lo.settle_or] at hs
  clear hv
  go_enter Tryz.func170, Tryz.ntmps170
  go_wp2_with (first | (with_reducible refine hs.mono ?_; rintro e w' ⟨rfl, hb⟩))
  go_ret
  exact ⟨rfl, hb⟩
end Go.Proofs.YtbddhkgbpjhhaaaGreatDoor
namespace Go.Proofs.YtbddhkgbpjhhaaaGreatDoor
open Go.RowKit
set_option maxHeartbeats 400000
theorem sl_built (w : World) (l : List Int) : Sl (w.alloc (.cells (l.map (Value.int .i64)).toArray 3)) (.slice (some ⟨w.heap.size, 0, none⟩) l.length l.length) (l.map (Value.int .i64)) := by
  have := Sl.new w 3 (l.map (Value.int .i64))
  rwa [List.length_map] at this
theorem sl_none (w : World) : Sl w (.slice none 0 0) (([] : List Int).map (Value.int .i64)) := ⟨none, 0, rfl, by simp, fun j u hu => by simp at hu⟩
end Go.Proofs.YtbddhkgbpjhhaaaGreatDoor
namespace Go.Proofs.YtbddhkgbpjhhaaaGreatDoor
open Go Go.RowKit
variable {P : Program}
end Go.Proofs.YtbddhkgbpjhhaaaGreatDoor
