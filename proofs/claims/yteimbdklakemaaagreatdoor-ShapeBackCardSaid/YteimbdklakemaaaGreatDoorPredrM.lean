/-
  THE CONTRACT OF package pred's Right: what it says, case by case; the closure over the parts; whole.
-/
import Derived.Test.YteimbdklakemaaaGreatDoorPredqM
import Derived.Deep.Cut
namespace Go.Proofs.YteimbdklakemaaaGreatDoor
open Go.RowKit Go.Sort
set_option maxHeartbeats 3200000

theorem cell_lt {w : World} {b : Nat} {v : Value} (h : w.cell? ⟨b, 0, none⟩ = some v) : b < w.heap.size := by
  by_cases hb : b < w.heap.size
  · exact hb
  · have : w.heap[b]? = none := Array.getElem?_eq_none (by omega)
    simp [World.cell?, this] at h
def Te.nil : Tm := ⟨0, 0, 0, false, 0⟩
namespace Pr
theorem same_bare (f g : Pf) (ps : List Pd) : same (.mk f ps) (.mk g []) = (fsame f g && ps.length == 0) := by
  rw [same]
  cases ps with
  | nil => rw [sames]; rfl
  | cons p r => rw [sames_length (by simp)]; simp
theorem rightAts_nil {ps : List Pd} (d : Nat) (h : (ps.length == 0) = true) : rightAts ps d = true := by
  obtain rfl : ps = [] := List.eq_nil_of_length_eq_zero (by simpa using h)
  rfl
theorem zero_nil (x : Tm) : Te.same x Te.nil = Te.zero x := rfl
theorem tm_self (x : Tm) : Te.same x x = true := by simp [Te.same]
theorem right_1 {f : Pf} {ps : List Pd} {d : Nat} (h : f.k = 1) (hd : d ≤ 4) : rightAt (.mk f ps) d = (same (.mk f ps) (.mk ⟨f.k, f.u, 0, Te.nil, Te.nil⟩ []) && (f.u == 0 || f.u == 1 || f.u == 2)) := by
  rw [same_bare, rightAt, head, tail]
  simp only [fsame, zero_nil]
  rw [if_pos h]
  have e1 : (f.k == 1) = true := by simpa using h
  have e2 : (f.k == 2) = false := by simp; omega
  have e3 : (f.k == 3) = false := by simp; omega
  have hu : (decide (0 ≤ f.u) && decide (f.u ≤ 2)) = (f.u == 0 || f.u == 1 || f.u == 2) := by
    rw [Bool.eq_iff_iff]; simp; omega
  have h1 : decide (1 ≤ f.k) = true := by simp; omega
  have h6 : decide (f.k ≤ 6) = true := by simp; omega
  have hd' : decide (d ≤ 4) = true := by simpa using hd
  rw [e1, e2, e3, h1, h6, hd', ← hu]
  by_cases hn : (ps.length == 0) = true
  · rw [rightAts_nil _ hn, hn]
    cases f.o == 0 <;> cases Te.zero f.a <;> cases Te.zero f.b <;> simp
  · have hn' : (ps.length == 0) = false := by simpa using hn
    rw [hn']; simp
theorem right_2 {f : Pf} {ps : List Pd} {d : Nat} (h : f.k = 2) (hd : d ≤ 4) : rightAt (.mk f ps) d = (same (.mk f ps) (.mk ⟨f.k, 0, f.o, f.a, f.b⟩ []) && (decide (1 ≤ f.o) && decide (f.o ≤ 6)) && Te.right f.a && Te.right f.b) := by
  rw [same_bare, rightAt, head, tail]
  simp only [fsame, tm_self]
  rw [if_neg (by omega), if_pos h]
  have e1 : (f.k == 1) = false := by simp; omega
  have e2 : (f.k == 2) = true := by simpa using h
  have e3 : (f.k == 3) = false := by simp; omega
  have h1 : decide (1 ≤ f.k) = true := by simp; omega
  have h6 : decide (f.k ≤ 6) = true := by simp; omega
  have hd' : decide (d ≤ 4) = true := by simpa using hd
  rw [e1, e2, e3, h1, h6, hd']
  by_cases hn : (ps.length == 0) = true
  · rw [rightAts_nil _ hn, hn]
    cases f.u == 0 <;> simp
  · have hn' : (ps.length == 0) = false := by simpa using hn
    rw [hn']; simp
theorem right_3 {f : Pf} {ps : List Pd} {d : Nat} (h : f.k = 3) (hd : d ≤ 4) : rightAt (.mk f ps) d = (same (.mk f ps) (.mk ⟨f.k, 0, 0, f.a, Te.nil⟩ []) && Te.right f.a) := by
  rw [same_bare, rightAt, head, tail]
  simp only [fsame, tm_self, zero_nil]
  rw [if_neg (by omega), if_neg (by omega), if_pos h]
  have e1 : (f.k == 1) = false := by simp; omega
  have e2 : (f.k == 2) = false := by simp; omega
  have e3 : (f.k == 3) = true := by simpa using h
  have h1 : decide (1 ≤ f.k) = true := by simp; omega
  have h6 : decide (f.k ≤ 6) = true := by simp; omega
  have hd' : decide (d ≤ 4) = true := by simpa using hd
  rw [e1, e2, e3, h1, h6, hd']
  by_cases hn : (ps.length == 0) = true
  · rw [rightAts_nil _ hn, hn]
    cases f.u == 0 <;> cases f.o == 0 <;> cases Te.zero f.b <;> simp
  · have hn' : (ps.length == 0) = false := by simpa using hn
    rw [hn']; simp
theorem right_more {f : Pf} {ps : List Pd} {d : Nat} (h1 : f.k = 4 ∨ f.k = 5 ∨ f.k = 6) (hd : d ≤ 4) (b : Bool) (hb : tail f ps.length = b) : rightAt (.mk f ps) d = (b && (fsame f ⟨f.k, 0, 0, Te.nil, Te.nil⟩ && rightAts ps (d + 1))) := by
  rw [rightAt, head, hb]
  simp only [fsame, zero_nil]
  have e1 : (f.k == 1) = false := by simp; omega
  have e2 : (f.k == 2) = false := by simp; omega
  have e3 : (f.k == 3) = false := by simp; omega
  have h1 : decide (1 ≤ f.k) = true := by simp; omega
  have h6 : decide (f.k ≤ 6) = true := by simp; omega
  have hd' : decide (d ≤ 4) = true := by simpa using hd
  rw [e1, e2, e3, h1, h6, hd']
  cases b <;> cases f.u == 0 <;> cases f.o == 0 <;> cases Te.zero f.a <;> cases Te.zero f.b <;> simp
theorem right_45 {f : Pf} {ps : List Pd} {d : Nat} (h : f.k = 4 ∨ f.k = 5) (hd : d ≤ 4) : rightAt (.mk f ps) d = (decide (ps.length ≤ 4) && (fsame f ⟨f.k, 0, 0, Te.nil, Te.nil⟩ && rightAts ps (d + 1))) :=
  right_more (by omega) hd _ (by unfold tail; rw [if_neg (by omega), if_neg (by omega), if_neg (by omega), if_neg (by omega)])
theorem right_6 {f : Pf} {ps : List Pd} {d : Nat} (h : f.k = 6) (hd : d ≤ 4) : rightAt (.mk f ps) d = ((ps.length == 1) && (fsame f ⟨f.k, 0, 0, Te.nil, Te.nil⟩ && rightAts ps (d + 1))) :=
  right_more (by omega) hd _ (by unfold tail; rw [if_neg (by omega), if_neg (by omega), if_neg (by omega), if_pos h])
theorem right_deep {f : Pf} {ps : List Pd} {d : Nat} (hd : ¬ d ≤ 4) : rightAt (.mk f ps) d = false := by
  have hd' : decide (d ≤ 4) = false := by simpa using hd
  rw [rightAt, head, hd']; simp
theorem right_no {f : Pf} {ps : List Pd} {d : Nat} (h : f.k < 1 ∨ 6 < f.k) : rightAt (.mk f ps) d = false := by
  rw [rightAt, head]
  rcases h with h | h
  · have h1 : decide (1 ≤ f.k) = false := by simp; omega
    rw [h1]; simp
  · have h1 : decide (f.k ≤ 6) = false := by simp; omega
    rw [h1]; simp
theorem rightAts_any (l : List Pd) (d : Nat) : (!l.any fun p => !rightAt p d) = rightAts l d := by
  rw [Bool.eq_iff_iff, rightAts_iff]; simp
end Pr
theorem pcomp_any (o : Int) (w : World) :
    Calls Tryz.prog 67 #[.int .i64 o] w fun e w' => e = .returned (.bool (decide (1 ≤ o) && decide (o ≤ 6))) ∧ w = w' := by
  by_cases h1 : 1 ≤ o
  · have e1 : decide (1 ≤ o) = true := by simpa using h1
    rw [e1, Bool.true_and]
    go_enter Tryz.func67, Tryz.ntmps67
    go_wp2_with fail
    go_ret
    exact ⟨rfl, rfl⟩
  · have e1 : decide (1 ≤ o) = false := by simpa using h1
    rw [e1, Bool.false_and]
    go_enter Tryz.func67, Tryz.ntmps67
    go_wp2_with fail
    go_ret
    exact ⟨rfl, rfl⟩
/-- the closure over one part -/
theorem pjoin1_of (dp : Nat) (b : Nat) (f : Pf) (A : Option Addr) (n c : Nat) (r : Bool) (w : World) (hdp : dp ≤ 1000) (hc : w.cell? ⟨b, 0, none⟩ = some (.int .i64 (dp : Int)))
    (hs : ∀ W, Below w.heap.size w W → Calls Tryz.prog 54 #[.agg #[.int .i64 f.k, .int .i64 f.u, .int .i64 f.o, .int .i64 f.a.k, .int .i64 f.a.t, .int .i64 f.a.c, .bool f.a.z, .int .i64 f.a.n, .int .i64 f.b.k, .int .i64 f.b.t, .int .i64 f.b.c, .bool f.b.z, .int .i64 f.b.n, .slice A n c], .int .i64 ((dp : Int) + 1)] W fun e w' => e = .returned (.bool r) ∧ Below W.heap.size W w') :
    Calls Tryz.prog 80 #[.agg #[.int .i64 f.k, .int .i64 f.u, .int .i64 f.o, .int .i64 f.a.k, .int .i64 f.a.t, .int .i64 f.a.c, .bool f.a.z, .int .i64 f.a.n, .int .i64 f.b.k, .int .i64 f.b.t, .int .i64 f.b.c, .bool f.b.z, .int .i64 f.b.n, .slice A n c], .pointer (some ⟨b, 0, none⟩)] w fun e w' => e = .returned (.bool (!r)) ∧ Below w.heap.size w w' := by
  obtain ⟨W0, hW0⟩ : ∃ W0, W0 = w.alloc (Obj.cells #[.int .i64 f.k, .int .i64 f.u, .int .i64 f.o, .int .i64 f.a.k, .int .i64 f.a.t, .int .i64 f.a.c, .bool f.a.z, .int .i64 f.a.n, .int .i64 f.b.k, .int .i64 f.b.t, .int .i64 f.b.c, .bool f.b.z, .int .i64 f.b.n, .slice A n c] 43) := ⟨_, rfl⟩
  obtain ⟨l0, p0, hb0⟩ := pd_box hW0
  have hbb : b < w.heap.size := cell_lt hc
  have hc0 : W0.cell? ⟨b, 0, none⟩ = some (.int .i64 (dp : Int)) := (hb0.cell (p := ⟨b, 0, none⟩) hbb).trans hc
  have cs := hs W0 hb0
  have HW := Lib.hid hW0
  obtain ⟨k0, k1, k2, k3, k4, k5, k6, k7, k8, k9, k10, k11, k12, k13⟩ := p0
  clear hW0 l0 hc hs hbb
  go_enter Tryz.func80, Tryz.ntmps80
  go_upto_region 1 with (fail)
  rw [← HW.out]
  go_wp2_with fail
  refine cs.mono ?_
  rintro e w2 ⟨rfl, hb2⟩
  clear cs k0 k1 k2 k3 k4 k5 k6 k7 k8 k9 k10 k11 k12 k13
  go_wp2_with fail
  go_ret
  exact ⟨rfl, below_join hb0 hb2⟩
theorem pindex_of (d dp : Nat) (ih : ∀ e, e < d → ∀ (f : Pf) (u : Value) (ps : List Pd) (dp : Nat) (w : World), PsAt e w u ps → dp ≤ 1000 → Calls Tryz.prog 54 #[.agg #[.int .i64 f.k, .int .i64 f.u, .int .i64 f.o, .int .i64 f.a.k, .int .i64 f.a.t, .int .i64 f.a.c, .bool f.a.z, .int .i64 f.a.n, .int .i64 f.b.k, .int .i64 f.b.t, .int .i64 f.b.c, .bool f.b.z, .int .i64 f.b.n, u], .int .i64 (dp : Int)] w fun e w' => e = .returned (.bool (Pr.rightAt (.mk f ps) dp)) ∧ Below w.heap.size w w') (b : Nat) (u : Value) (ps : List Pd) (w : World) (hu : PsAt d w u ps) (hdp : dp ≤ 999) (hc : w.cell? ⟨b, 0, none⟩ = some (.int .i64 (dp : Int))) :
    Calls Tryz.prog 59 #[u, .func (.func 80) #[] #[.pointer (some ⟨b, 0, none⟩)]] w fun e w' => (∃ r : Int, e = .returned (.int .i64 r) ∧ decide (0 ≤ r) = ps.any fun p => !Pr.rightAt p (dp + 1)) ∧ Below w.heap.size w w' := by
  obtain ⟨A, c, rfl, hl⟩ := hu.form
  have HU := Lib.hid hu
  have IH := Lib.hid ih
  have HC := Lib.hid hc
  obtain ⟨n, hn⟩ : ∃ n, n = ps.length := ⟨_, rfl⟩
  rw [← hn] at hl HU ⊢
  have HN := Lib.hid hn
  clear hn hu ih hc
  go_enter Tryz.func59, Tryz.ntmps59
  go_wp2_with fail
  go_loopw [8] (fun i wr => ∃ q : Nat, q ≤ n ∧ i = .int .i64 q ∧ Hid (((ps.take q).any fun p => !Pr.rightAt p (dp + 1)) = false) ∧ Below w.heap.size w wr) (fun i _ => n - (intOf i).toNat)
  case atStart => exact ⟨0, Nat.zero_le _, rfl, Lib.hid (by simp), Below.refl _ _⟩
  case round =>
    obtain ⟨q, hq, rfl, hno, hb⟩ := hrel
    by_cases hlt : q < n
    · obtain ⟨p, gp⟩ : ∃ p, ps[q]? = some p := ⟨ps[q]'(by have := HN.out; omega), List.getElem?_eq_getElem _⟩
      have hu := HU.out
      rw [HN.out] at hu
      obtain ⟨e, b', o, s, v, he, rfl, hblt, hx⟩ := hu.at_ gp
      obtain ⟨ha, hf1⟩ := hx wr hb
      obtain ⟨A2, c2, rfl, _⟩ := hf1.form
      have hpe : Pd.mk p.f p.ps = p := by cases p; rfl
      obtain ⟨r, hr⟩ : ∃ r, r = Pr.rightAt p (dp + 1) := ⟨_, rfl⟩
      have hcr : wr.cell? ⟨b, 0, none⟩ = some (.int .i64 (dp : Int)) := (hb.cell (p := ⟨b, 0, none⟩) (cell_lt HC.out)).trans HC.out
      have cs := pjoin1_of dp b p.f A2 p.ps.length c2 r wr (by omega) hcr (fun W h => by
        have k := IH.out e he p.f _ p.ps (dp + 1) W ((hx W (below_join hb h)).2) (by omega)
        rw [hpe, ← hr] at k
        exact k)
      have HR := Lib.hid hr
      have GP := Lib.hid gp
      obtain ⟨a0, a1, a2, a3, a4, a5, a6, a7, a8, a9, a10, a11, a12, a13⟩ := ha
      clear gp hu hx hpe hr hf1 hblt hcr
      go_wp2_with fail
      refine cs.mono ?_
      rintro e w2 ⟨rfl, hb2⟩
      have hb3 := below_join hb hb2
      clear cs hb2 hb a0 a1 a2 a3 a4 a5 a6 a7 a8 a9 a10 a11 a12 a13
      cases r
      · have he : Hid ((ps.any fun p => !Pr.rightAt p (dp + 1)) = true) := Lib.hid (List.any_eq_true.2 ⟨p, List.mem_of_getElem? GP.out, by rw [← HR.out]; rfl⟩)
        go_wp2_with fail
        go_ret
        exact ⟨⟨q, rfl, by rw [he.out]; simp⟩, hb3⟩
      · have hs2 : Hid (((ps.take (q + 1)).any fun p => !Pr.rightAt p (dp + 1)) = false) := Lib.hid (by
          rw [List.take_add_one, GP.out, List.any_append, hno.out]; simp [← HR.out])
        go_wp2_with fail
        go_roundw
        case rel => exact ⟨q + 1, by omega, by go_num, hs2, hb3⟩
        case measure => simp [intOf]; omega
    · have he : Hid ((ps.any fun p => !Pr.rightAt p (dp + 1)) = false) := Lib.hid (by rw [← hno.out, List.take_of_length_le (by have := HN.out; omega)])
      go_wp2_with fail
      go_ret
      exact ⟨⟨-1, rfl, by rw [he.out]; rfl⟩, hb⟩
theorem pcontains_of (d dp : Nat) (ih : ∀ e, e < d → ∀ (f : Pf) (u : Value) (ps : List Pd) (dp : Nat) (w : World), PsAt e w u ps → dp ≤ 1000 → Calls Tryz.prog 54 #[.agg #[.int .i64 f.k, .int .i64 f.u, .int .i64 f.o, .int .i64 f.a.k, .int .i64 f.a.t, .int .i64 f.a.c, .bool f.a.z, .int .i64 f.a.n, .int .i64 f.b.k, .int .i64 f.b.t, .int .i64 f.b.c, .bool f.b.z, .int .i64 f.b.n, u], .int .i64 (dp : Int)] w fun e w' => e = .returned (.bool (Pr.rightAt (.mk f ps) dp)) ∧ Below w.heap.size w w') (b : Nat) (u : Value) (ps : List Pd) (w : World) (hu : PsAt d w u ps) (hdp : dp ≤ 999) (hc : w.cell? ⟨b, 0, none⟩ = some (.int .i64 (dp : Int))) :
    Calls Tryz.prog 48 #[u, .func (.func 80) #[] #[.pointer (some ⟨b, 0, none⟩)]] w fun e w' => e = .returned (.bool (ps.any fun p => !Pr.rightAt p (dp + 1))) ∧ Below w.heap.size w w' := by
  have cs := pindex_of d dp ih b u ps w hu hdp hc
  obtain ⟨r, hr⟩ : ∃ r, r = (ps.any fun p => !Pr.rightAt p (dp + 1)) := ⟨_, rfl⟩
  rw [← hr] at cs ⊢
  obtain ⟨A, c, rfl, hl⟩ := hu.form
  clear ih hu hc hr hl
  go_enter Tryz.func48, Tryz.ntmps48
  go_wp2_with fail
  refine cs.mono ?_
  rintro e w2 ⟨⟨i, rfl, hi⟩, hb2⟩
  clear cs
  go_wp2_with fail
  go_ret
  exact ⟨rfl, hb2⟩
theorem pjoins_of (d dp : Nat) (ih : ∀ e, e < d → ∀ (f : Pf) (u : Value) (ps : List Pd) (dp : Nat) (w : World), PsAt e w u ps → dp ≤ 1000 → Calls Tryz.prog 54 #[.agg #[.int .i64 f.k, .int .i64 f.u, .int .i64 f.o, .int .i64 f.a.k, .int .i64 f.a.t, .int .i64 f.a.c, .bool f.a.z, .int .i64 f.a.n, .int .i64 f.b.k, .int .i64 f.b.t, .int .i64 f.b.c, .bool f.b.z, .int .i64 f.b.n, u], .int .i64 (dp : Int)] w fun e w' => e = .returned (.bool (Pr.rightAt (.mk f ps) dp)) ∧ Below w.heap.size w w') (f : Pf) (u : Value) (ps : List Pd) (w : World) (hu : PsAt d w u ps) (hdp : dp ≤ 999) :
    Calls Tryz.prog 69 #[.agg #[.int .i64 f.k, .int .i64 f.u, .int .i64 f.o, .int .i64 f.a.k, .int .i64 f.a.t, .int .i64 f.a.c, .bool f.a.z, .int .i64 f.a.n, .int .i64 f.b.k, .int .i64 f.b.t, .int .i64 f.b.c, .bool f.b.z, .int .i64 f.b.n, u], .int .i64 (dp : Int)] w fun e w' => e = .returned (.bool (Pr.fsame f ⟨f.k, 0, 0, Te.nil, Te.nil⟩ && Pr.rightAts ps (dp + 1))) ∧ Below w.heap.size w w' := by
  rw [← Pr.rightAts_any]
  obtain ⟨A, c, rfl, hl⟩ := hu.form
  obtain ⟨W0, hW0⟩ : ∃ W0, W0 = (w.alloc (Obj.cells #[.int .i64 f.k, .int .i64 f.u, .int .i64 f.o, .int .i64 f.a.k, .int .i64 f.a.t, .int .i64 f.a.c, .bool f.a.z, .int .i64 f.a.n, .int .i64 f.b.k, .int .i64 f.b.t, .int .i64 f.b.c, .bool f.b.z, .int .i64 f.b.n, .slice A ps.length c] 43)).alloc (Obj.cells #[.int .i64 (dp : Int)] 3) := ⟨_, rfl⟩
  obtain ⟨l0, l1, hb0⟩ := box_two (cs := f.cells (.slice A ps.length c)) (ds := [.int .i64 (dp : Int)]) hW0
  have cq : ∀ W, Below W0.heap.size W0 W → Calls Tryz.prog 48 #[.slice A ps.length c, .func (.func 80) #[] #[.pointer (some ⟨w.heap.size + 1, 0, none⟩)]] W fun e w' => e = .returned (.bool (ps.any fun p => !Pr.rightAt p (dp + 1))) ∧ Below W.heap.size W w' :=
    fun W h => pcontains_of d dp ih (w.heap.size + 1) _ ps W ((hu.below hb0 (Nat.le_refl _)).below h (Nat.le_refl _)) hdp ((l1.below h l1.lt).cell (i := 0) rfl)
  have ca := palone_any f ⟨f.k, 0, 0, Te.nil, Te.nil⟩ A none ps.length 0 c 0
  obtain ⟨r1, hr1⟩ : ∃ r, r = Pr.fsame f ⟨f.k, 0, 0, Te.nil, Te.nil⟩ := ⟨_, rfl⟩
  obtain ⟨r2, hr2⟩ : ∃ r, r = (ps.any fun p => !Pr.rightAt p (dp + 1)) := ⟨_, rfl⟩
  rw [← hr1] at ca ⊢
  rw [← hr2] at cq ⊢
  have HW := Lib.hid hW0
  have HP := Lib.hid l0.pd
  have HL := Lib.hid l0.lt
  obtain ⟨k0, k1, k2, k3, k4, k5, k6, k7, k8, k9, k10, k11, k12, k13⟩ := l0.pd
  clear hW0 l0 l1 ih hu hl hr1 hr2
  go_enter Tryz.func69, Tryz.ntmps69
  go_upto_region 1 with (fail)
  rw [← HW.out]
  go_wp2_with fail
  refine (ca _).mono ?_
  rintro e w2 ⟨rfl, hb2⟩
  clear ca k0 k1 k2 k3 k4 k5 k6 k7 k8 k9 k10 k11 k12 k13
  have k13 := (HP.out.below hb2 (show w.heap.size < W0.heap.size from HL.out)).c13
  cases r1
  · go_wp2_with fail
    go_ret
    exact ⟨rfl, below_join hb0 hb2⟩
  · go_wp2_with fail
    refine (cq _ hb2).mono ?_
    rintro e w3 ⟨rfl, hb3⟩
    clear k13
    go_wp2_with fail
    go_ret
    exact ⟨ret_bool (by simp), below_join hb0 (below_join hb2 hb3)⟩
end Go.Proofs.YteimbdklakemaaaGreatDoor
