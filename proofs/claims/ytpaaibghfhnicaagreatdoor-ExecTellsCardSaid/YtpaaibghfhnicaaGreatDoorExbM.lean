/-
  PACKAGE exec: an operator, with the way in which it joins, as a method value.
-/
import Derived.Test.YtpaaibghfhnicaaGreatDoorExmM
import Derived.Test.YtpaaibghfhnicaaGreatDoorGHsB
import Derived.Test.YtpaaibghfhnicaaGreatDoorGTreeA
namespace Go.Proofs.YtpaaibghfhnicaaGreatDoor
open Go.RowKit Go.Sort
set_option maxHeartbeats 3200000

theorem OwnTus.up {w w1 w' : World} {ts : List (List (List Vl))} {E : Ending} (h : OwnTus w1 ts E w') (hb : Below w.heap.size w w1) : OwnTus w ts E w' := by
  obtain ⟨A, a, us, h1, h2, h3, h4⟩ := h
  exact ⟨A, a, us, h1, ⟨h2.own.mono hb.size, h2.len, fun i t hi => by
    obtain ⟨u, h5, h6⟩ := h2.tup i t hi
    exact ⟨u, h5, h6.mono fun j _ hj => ⟨hj.1, Nat.le_trans hb.size hj.2⟩⟩⟩, h3, below_join hb h4⟩
theorem operaten_any (k t : Int) (A B : Option Addr) (n c m e : Nat) (w : World) :
    Calls Tryz.prog 35 #[.agg #[.int .i64 k, .int .i64 t, .slice A n c, .slice B m e, .bool false]] w
      fun E w' => E = .returned (.agg #[.int .i64 k, .int .i64 t, .slice A n c, .slice B m e, .bool false, .func (.func 52) #[.agg #[.int .i64 k, .int .i64 t, .slice A n c, .slice B m e, .bool false, .nilFunc]] #[]]) ∧ Below w.heap.size w w' := by
  go_enter Tryz.func35, Tryz.ntmps35
  go_wp2_with fail
  exact bodyPost_ret (v := .agg #[.int .i64 k, .int .i64 t, .slice A n c, .slice B m e, .bool false, .func (.func 52) #[.agg #[.int .i64 k, .int .i64 t, .slice A n c, .slice B m e, .bool false, .nilFunc]] #[]]) (by simp [results, Tryz.results35, go_sem]) rfl ⟨rfl, (((Below.refl _ _).alloc (Nat.le_refl _) _).alloc (by simp) _).alloc (by simp; omega) _⟩
theorem operateh_any (k t : Int) (A B : Option Addr) (n c m e : Nat) (w : World) :
    Calls Tryz.prog 35 #[.agg #[.int .i64 k, .int .i64 t, .slice A n c, .slice B m e, .bool true]] w
      fun E w' => E = .returned (.agg #[.int .i64 k, .int .i64 t, .slice A n c, .slice B m e, .bool true, .func (.func 53) #[.agg #[.int .i64 k, .int .i64 t, .slice A n c, .slice B m e, .bool true, .func (.func 52) #[.agg #[.int .i64 k, .int .i64 t, .slice A n c, .slice B m e, .bool true, .nilFunc]] #[]]] #[]]) ∧ Below w.heap.size w w' := by
  go_enter Tryz.func35, Tryz.ntmps35
  go_wp2_with fail
  exact bodyPost_ret (v := .agg #[.int .i64 k, .int .i64 t, .slice A n c, .slice B m e, .bool true, .func (.func 53) #[.agg #[.int .i64 k, .int .i64 t, .slice A n c, .slice B m e, .bool true, .func (.func 52) #[.agg #[.int .i64 k, .int .i64 t, .slice A n c, .slice B m e, .bool true, .nilFunc]] #[]]] #[]]) (by simp [results, Tryz.results35, go_sem]) rfl ⟨rfl, (((Below.refl _ _).alloc (Nat.le_refl _) _).alloc (by simp) _).alloc (by simp; omega) _⟩
set_option maxRecDepth 100000 in
theorem nested16_own (k t : Int) (A : Option Addr) (n c d : Nat) (cv lv rv : Value) (ps : List Pd) (L R : List (List (List Vl))) (w : World) (hp : PsAt d w cv ps) (hsz : Pr.sizes ps ≤ 1000) (hW : Want w) (hl : TusOn Al w lv L) (hr : TusOn Al w rv R) (hfl : Ns.Few 10000 100 L) (hfr : Ns.Few 10000 100 R) :
    Calls Tryz.prog 52 #[.agg #[.int .i64 k, .int .i64 t, .slice A n c, cv, .bool false, .nilFunc], lv, rv] w (OwnTus w (Ns.join k ps L R)) := by
  obtain ⟨P0, p0, rfl, _⟩ := hp.form
  obtain ⟨L0, c0, rfl, _⟩ := hl.form
  obtain ⟨R0, c1, rfl, _⟩ := hr.form
  obtain ⟨W0, hW0⟩ : ∃ W0, W0 = w.alloc (Obj.cells #[.int .i64 k, .int .i64 t, .slice A n c, .slice P0 ps.length p0, .bool false, .nilFunc] 68) := ⟨_, rfl⟩
  obtain ⟨l0, hb0⟩ := box_one (cs := [.int .i64 k, .int .i64 t, .slice A n c, .slice P0 ps.length p0, .bool false, .nilFunc]) hW0
  have cj := njoin_own k d _ _ _ ps L R W0 (hp.below hb0 (Nat.le_refl _)) hsz (hW.below hb0 (Nat.le_refl _)) (hl.below hb0 (Nat.le_refl _)) (hr.below hb0 (Nat.le_refl _)) hfl hfr
  have x0 := l0.cell (i := 0) rfl
  have x3 := l0.cell (i := 3) rfl
  have HW := Lib.hid hW0
  have HB := Lib.hid hb0
  generalize ps.length = pl at *
  generalize L.length = ll at *
  generalize R.length = rl at *
  obtain ⟨J, hJ⟩ : ∃ J, J = Ns.join k ps L R := ⟨_, rfl⟩
  rw [← hJ] at cj ⊢
  clear hp hsz hW hl hr hfl hfr hW0 l0 hJ
  go_enter Tryz.func52, Tryz.ntmps52
  go_upto_region 1 with (fail)
  rw [← HW.out]
  go_wp2_with fail
  refine cj.mono ?_
  rintro E w2 ho
  have HO := Lib.hid (ho.up HB.out)
  obtain ⟨A2, a2, _, rfl, _, _, _⟩ := ho
  clear cj x0 x3
  go_wp2_with fail
  go_ret
  exact HO.out
end Go.Proofs.YtpaaibghfhnicaaGreatDoor
