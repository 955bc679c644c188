/-
  THE DOCUMENT's Right OF LAYER 6; THE LAWS' OWN Few AND Equal.
-/
import Derived.Test.YthfoagglncimnaaDoorPredg
import Derived.Test.YthfoagglncimnaaDoorRws
namespace Go.Proofs.YthfoagglncimnaaDoor
open Go.RowKit Go.Sort
set_option maxHeartbeats 1600000

theorem r6right_any (d : Nat) (f : Pf) (u : Value) (ps : List Pd) (w : World) (hu : PsAt d w u ps) :
    Calls Tryd.prog 11 #[.agg #[.int .i64 f.k, .int .i64 f.u, .int .i64 f.o, .int .i64 f.a.k, .int .i64 f.a.t, .int .i64 f.a.c, .bool f.a.z, .int .i64 f.a.n, .int .i64 f.b.k, .int .i64 f.b.t, .int .i64 f.b.c, .bool f.b.z, .int .i64 f.b.n, u]] w fun e w' => e = .returned (.bool (Pr.rightAt (.mk f ps) 1)) ∧ Below w.heap.size w w' := by
  have cs := fun W (h : Below w.heap.size w W) => r6at_any d f u ps 1 W (hu.below h (Nat.le_refl _)) (by omega)
  rw [show (((1 : Nat)) : Int) = 1 from rfl] at cs
  have CS := Lib.hid cs
  clear cs hu
  generalize Pr.rightAt (.mk f ps) 1 = r at CS ⊢
  obtain ⟨W0, hW0⟩ : ∃ W0, W0 = w.alloc (Obj.cells #[.int .i64 f.k, .int .i64 f.u, .int .i64 f.o, .int .i64 f.a.k, .int .i64 f.a.t, .int .i64 f.a.c, .bool f.a.z, .int .i64 f.a.n, .int .i64 f.b.k, .int .i64 f.b.t, .int .i64 f.b.c, .bool f.b.z, .int .i64 f.b.n, u] 28) := ⟨_, rfl⟩
  obtain ⟨_, hp, hb0⟩ := pd_box hW0
  obtain ⟨k0, k1, k2, k3, k4, k5, k6, k7, k8, k9, k10, k11, k12, k13⟩ := hp
  have cs := CS.out W0 hb0
  rw [hW0] at k0 k1 k2 k3 k4 k5 k6 k7 k8 k9 k10 k11 k12 k13 cs hb0
  clear hW0
  go_enter Tryd.func11, Tryd.ntmps11
  go_wp2_with fail
  refine cs.mono ?_
  rintro e w2 ⟨rfl, hb2⟩
  have hbz := below_join hb0 hb2
  clear cs k0 k1 k2 k3 k4 k5 k6 k7 k8 k9 k10 k11 k12 k13 hb0 hb2
  go_wp2_with fail
  go_ret
  exact ⟨rfl, hbz⟩
def Pr.few (p : Pd) (rs : List (List Vl)) : Bool := decide ((rs.length ≤ 70 ∧ ∀ r ∈ rs, r.length ≤ 20) ∧ Pr.size p ≤ 200)
theorem Pr.few_yes {p : Pd} {rs : List (List Vl)} (h : Pr.few p rs = true) : (rs.length ≤ 70 ∧ ∀ r ∈ rs, r.length ≤ 20) ∧ Pr.size p ≤ 200 := of_decide_eq_true h
set_option maxRecDepth 100000 in
theorem few6_any (d : Nat) (f : Pf) (u : Value) (ps : List Pd) (v : Value) (rs : List (List Vl)) (w : World) (hu : PsAt d w u ps) (hv : Rws w v rs) :
    Calls Tryd.prog 6 #[.agg #[.int .i64 f.k, .int .i64 f.u, .int .i64 f.o, .int .i64 f.a.k, .int .i64 f.a.t, .int .i64 f.a.c, .bool f.a.z, .int .i64 f.a.n, .int .i64 f.b.k, .int .i64 f.b.t, .int .i64 f.b.c, .bool f.b.z, .int .i64 f.b.n, u], v] w fun e w' => e = .returned (.bool (Pr.few (.mk f ps) rs)) ∧ Below w.heap.size w w' := by
  obtain ⟨W0, hW0⟩ : ∃ W0, W0 = w.alloc (Obj.cells #[.int .i64 f.k, .int .i64 f.u, .int .i64 f.o, .int .i64 f.a.k, .int .i64 f.a.t, .int .i64 f.a.c, .bool f.a.z, .int .i64 f.a.n, .int .i64 f.b.k, .int .i64 f.b.t, .int .i64 f.b.c, .bool f.b.z, .int .i64 f.b.n, u] 28) := ⟨_, rfl⟩
  obtain ⟨l0, p0, hb0⟩ := pd_box hW0
  obtain ⟨A, cp, rfl, _, hx⟩ := (hv.below hb0 (Nat.le_refl _)).at_
  have cs := r6size_any d f u ps 201 W0 (hu.below hb0 (Nat.le_refl _)) (by omega) (by omega)
  have HW := Lib.hid hW0
  have HP := Lib.hid p0
  obtain ⟨q, hq⟩ : ∃ q, q = rs.length := ⟨_, rfl⟩
  rw [← hq]
  have HQ := Lib.hid hq
  have HX := Lib.hid hx
  have HF : Hid (Pr.few (.mk f ps) rs = decide ((rs.length ≤ 70 ∧ ∀ r ∈ rs, r.length ≤ 20) ∧ Pr.size (.mk f ps) ≤ 200)) := Lib.hid rfl
  obtain ⟨sz, hsz⟩ : ∃ sz, sz = Pr.size (.mk f ps) := ⟨_, rfl⟩
  rw [← hsz] at cs HF
  obtain ⟨res, hres⟩ : ∃ res, res = Pr.few (.mk f ps) rs := ⟨_, rfl⟩
  rw [← hres] at HF ⊢
  obtain ⟨m0, hm0⟩ : ∃ m0, m0 = min (sz : Int) 201 := ⟨_, rfl⟩
  rw [← hm0] at cs
  have HM0 := Lib.hid hm0
  have CS := Lib.hid cs
  clear hq hx hv hu hW0 l0 p0 hres hsz cs hm0
  go_enter Tryd.func6, Tryd.ntmps6
  go_wp2_with fail
  rw [← HW.out]
  go_loop [5] (fun i => ∃ a : Nat, a ≤ q ∧ a ≤ 100 ∧ i = .int .i64 a ∧ Hid (∀ (j : Nat) (r : List Vl), j < a → rs[j]? = some r → r.length ≤ 20)) (fun i => 100 - (intOf i).toNat)
  case atStart => exact ⟨0, Nat.zero_le _, Nat.zero_le _, rfl, Lib.hid (fun j r h => by omega)⟩
  case round =>
    obtain ⟨a, ha, ha2, rfl, hs⟩ := hrel
    by_cases hlt : a < q
    · by_cases hlt2 : a < 100
      · obtain ⟨r, gr⟩ : ∃ r, rs[a]? = some r := ⟨rs[a]'(by have := HQ.out; omega), List.getElem?_eq_getElem _⟩
        obtain ⟨b, o, p, B, d', rfl, hcell, _, _⟩ := HX.out a r gr
        obtain ⟨m, hmr⟩ : ∃ m, m = r.length := ⟨_, rfl⟩
        rw [← hmr] at hcell
        have HM := Lib.hid hmr
        have GR := Lib.hid gr
        clear hmr gr
        by_cases hm : 20 < m
        · have HF2 : Hid (res = false) := Lib.hid (by rw [HF.out]; exact decide_eq_false (fun h => by have := h.1.2 r (List.mem_of_getElem? GR.out); have := HM.out; omega))
          have d1 : decide (20 < m) = true := by simpa using hm
          go_wp2_with fail
          go_ret
          exact ⟨ret_bool HF2.out.symm, hb0⟩
        · have hs2 : Hid (∀ (j : Nat) (r : List Vl), j < a + 1 → rs[j]? = some r → r.length ≤ 20) := Lib.hid (fun j r' hj hr' => by
            by_cases e : j = a
            · subst e; rw [GR.out] at hr'; cases hr'; have := HM.out; omega
            · exact hs.out j r' (by omega) hr')
          have d1 : decide (20 < m) = false := by simpa using hm
          go_wp2_with fail
          go_round
          case rel => exact ⟨a + 1, by omega, by omega, by go_num, hs2⟩
          case measure => simp [intOf]; omega
      · obtain rfl : a = 100 := by omega
        have HF2 : Hid (res = false) := Lib.hid (by rw [HF.out]; exact decide_eq_false (fun h => by have := h.1.1; have := HQ.out; omega))
        have d1 : decide ((q : Int) ≤ 70) = false := by simp; omega
        have d2 : decide (q ≤ 70) = false := by simp; omega
        go_wp2_with fail
        go_ret
        exact ⟨ret_bool HF2.out.symm, hb0⟩
    · obtain rfl : a = q := by omega
      have hall : ∀ r ∈ rs, r.length ≤ 20 := fun r hr => by
        obtain ⟨j, hj, e⟩ := List.mem_iff_getElem.1 hr
        exact hs.out j r (by have := HQ.out; omega) (by rw [List.getElem?_eq_getElem hj, e])
      have HALL := Lib.hid hall
      clear hlt hall
      by_cases h7 : a ≤ 70
      · have HF2 : Hid (res = decide (m0 ≤ 200)) := Lib.hid (by
          rw [HF.out, decide_eq_decide]
          have := HM0.out
          have := HQ.out
          exact ⟨fun h => by omega, fun h => ⟨⟨by omega, HALL.out⟩, by omega⟩⟩)
        obtain ⟨k0, k1, k2, k3, k4, k5, k6, k7, k8, k9, k10, k11, k12, k13⟩ := HP.out
        have d1 : decide ((a : Int) ≤ 70) = true := by simp; omega
        have d2 : decide (a ≤ 70) = true := by simp; omega
        go_wp2_with fail
        refine CS.out.mono ?_
        rintro e w2 ⟨rfl, hb2⟩
        clear k0 k1 k2 k3 k4 k5 k6 k7 k8 k9 k10 k11 k12 k13
        go_wp2_with fail
        go_ret
        exact ⟨ret_bool HF2.out.symm, below_join hb0 hb2⟩
      · have HF2 : Hid (res = false) := Lib.hid (by rw [HF.out]; exact decide_eq_false (fun h => by have := h.1.1; have := HQ.out; omega))
        have d1 : decide ((a : Int) ≤ 70) = false := by simp; omega
        have d2 : decide (a ≤ 70) = false := by simp; omega
        go_wp2_with fail
        go_ret
        exact ⟨ret_bool HF2.out.symm, hb0⟩
theorem equal6_any (a b : Int) (w : World) :
    Calls Tryd.prog 24 #[.int .i64 a, .int .i64 b] w fun e w' => e = .returned (.agg #[.int .i64 2, .int .i64 0, .int .i64 1, .int .i64 1, .int .i64 a, .int .i64 0, .bool false, .int .i64 0, .int .i64 1, .int .i64 b, .int .i64 0, .bool false, .int .i64 0, .slice none 0 0]) ∧ Below w.heap.size w w' := by
  go_enter Tryd.func24, Tryd.ntmps24
  go_wp2_with fail
  exact bodyPost_ret (v := .agg #[.int .i64 2, .int .i64 0, .int .i64 1, .int .i64 1, .int .i64 a, .int .i64 0, .bool false, .int .i64 0, .int .i64 1, .int .i64 b, .int .i64 0, .bool false, .int .i64 0, .slice none 0 0]) (by simp [results, Tryd.results24, go_sem]) rfl ⟨rfl, below_new _ _⟩
end Go.Proofs.YthfoagglncimnaaDoor
