/-
  THE CONTRACTS OF package logic: Right, Not, Of, And, Or; of its parts; and of the library's IndexFunc, ContainsFunc at its two closures.
-/
import Derived.Test.YthfoagglncimnaaDoorRows
import Derived.Test.YthfoagglncimnaaDoorWord
import Derived.Test.YthfoagglncimnaaDoorLog
namespace Go.Proofs.YthfoagglncimnaaDoor
open Go.RowKit
set_option maxHeartbeats 400000

theorem sure_any (t : Int) (w : World) :
    Calls Tryd.prog 58 #[.int .i64 t] w fun e w' => e = .returned (.bool (Lo.known t)) ∧ w = w' := by
  by_cases h : t = 0
  · subst h
    go_enter Tryd.func58, Tryd.ntmps58
    go_wp2
    go_ret
    exact ⟨rfl, rfl⟩
  · have hb : (t == 0) = false := by simp [h]
    have H := Lib.hid h
    clear h
    go_enter Tryd.func58, Tryd.ntmps58
    go_wp2
    go_ret
    exact ⟨ret_bool (by simp [Lo.known, hb]), rfl⟩
theorem lof_any (b : Bool) (w : World) :
    Calls Tryd.prog 39 #[.bool b] w fun e w' => e = .returned (.int .i64 (if b then 2 else 0)) ∧ w = w' := by
  cases b
  all_goals
    go_enter Tryd.func39, Tryd.ntmps39
    go_wp2
    go_ret
    exact ⟨rfl, rfl⟩
theorem lnot_any (t : Int) (w : World) :
    Calls Tryd.prog 42 #[.int .i64 t] w fun e w' => e = .returned (.int .i64 (Lo.notI t)) ∧ w = w' := by
  by_cases h : t = 0
  · subst h
    have hs : ∀ w, Calls Tryd.prog 58 #[.int .i64 0] w fun e w' => e = .returned (.bool true) ∧ w = w' := sure_any 0
    go_enter Tryd.func42, Tryd.ntmps42
    go_wp2_with (first | (go_at_call 58; refine (hs _).mono ?_; rintro e w' ⟨rfl, rfl⟩) | (go_at_call 39; refine (lof_any true _).mono ?_; rintro e w' ⟨rfl, rfl⟩))
    go_ret
    exact ⟨rfl, rfl⟩
  · by_cases h2 : t = 2
    · subst h2
      have hs : ∀ w, Calls Tryd.prog 58 #[.int .i64 2] w fun e w' => e = .returned (.bool true) ∧ w = w' := sure_any 2
      clear h
      go_enter Tryd.func42, Tryd.ntmps42
      go_wp2_with (first | (go_at_call 58; refine (hs _).mono ?_; rintro e w' ⟨rfl, rfl⟩) | (go_at_call 39; refine (lof_any false _).mono ?_; rintro e w' ⟨rfl, rfl⟩))
      go_ret
      exact ⟨rfl, rfl⟩
    · have hs : ∀ w, Calls Tryd.prog 58 #[.int .i64 t] w fun e w' => e = .returned (.bool false) ∧ w = w' := by
        have e : Lo.known t = false := by simp [Lo.known, h, h2]
        rw [← e]; exact sure_any t
      have H : Hid (Lo.notI t = 1) := Lib.hid (by simp [Lo.notI, h, h2])
      clear h h2
      go_enter Tryd.func42, Tryd.ntmps42
      go_wp2_with (first | (go_at_call 58; refine (hs _).mono ?_; rintro e w' ⟨rfl, rfl⟩))
      go_ret
      exact ⟨ret_int H.out.symm, rfl⟩
theorem lright_any (t : Int) (w : World) :
    Calls Tryd.prog 36 #[.int .i64 t] w fun e w' => e = .returned (.bool (t == 0 || t == 1 || t == 2)) ∧ w = w' := by
  by_cases h : t = 1
  · subst h
    go_enter Tryd.func36, Tryd.ntmps36
    go_wp2
    go_ret
    exact ⟨rfl, rfl⟩
  · have hb : (t == 1) = false := by simp [h]
    have H : Hid (Lo.known t = (t == 0 || t == 1 || t == 2)) := Lib.hid (by simp [Lo.known, hb])
    have hs := sure_any t
    clear h
    go_enter Tryd.func36, Tryd.ntmps36
    go_wp2_with (first | (go_at_call 58; refine (hs _).mono ?_; rintro e w' ⟨rfl, rfl⟩))
    go_ret
    exact ⟨ret_bool H.out, rfl⟩

theorem settle1_any (t s : Int) (b : Nat) (w : World) (hc : w.cell? ⟨b, 0, none⟩ = some (.int .i64 s)) :
    Calls Tryd.prog 75 #[.int .i64 t, .pointer (some ⟨b, 0, none⟩)] w fun e w' => e = .returned (.bool (t == s)) ∧ w = w' := by
  go_enter Tryd.func75, Tryd.ntmps75
  go_wp2
  go_ret
  exact ⟨rfl, rfl⟩
theorem settle2_any (t : Int) (w : World) :
    Calls Tryd.prog 76 #[.int .i64 t] w fun e w' => e = .returned (.bool (!Lo.known t)) ∧ w = w' := by
  have hs := sure_any t
  go_enter Tryd.func76, Tryd.ntmps76
  go_wp2_with (first | (go_at_call 58; refine (hs _).mono ?_; rintro e w' ⟨rfl, rfl⟩))
  go_ret
  exact ⟨rfl, rfl⟩
end Go.Proofs.YthfoagglncimnaaDoor
