/-
  THE READER OF PREDICATES: who reads which; a predicate at a depth.
-/
import Derived.Test.YteimbdklakemaaaGreatDoorTxoM
import Derived.Test.YteimbdklakemaaaGreatDoorTxeM
import Derived.Laws.EntriesVeiled
namespace Go.Proofs.YteimbdklakemaaaGreatDoor
open Go.RowKit Go.Sort
set_option maxHeartbeats 3200000

namespace Tx
theorem place_at {l : List Int} {c : Int} {j : Nat} (h : place l c = some j) : j < l.length ∧ l.getD j (-1) = c := place_some h
theorem take_0 {l : List Int} {k i j : Nat} (h0 : place truths (at_ l i) = some j) : take l (k + 1) i = ⟨.mk (bare 1 j 0 zt zt) [], i + 1, 0⟩ := by rw [take_on, h0]
theorem take_1 {l : List Int} {k i j : Nat} (h0 : place truths (at_ l i) = none) (h1 : place signs (at_ l i) = some j) : take l (k + 1) i = cmpG l (i + 1) j := by rw [take_on, h0, h1]
theorem none_one {c d : Int} (h : place [c] d = none) : d ≠ c := by
  intro e; subst e; simp [place] at h
theorem none_two {c d x : Int} (h : place [c, d] x = none) : x ≠ c ∧ x ≠ d := by
  constructor
  · intro e; subst e; simp [place] at h
  · intro e; subst e
    unfold place at h
    rw [List.findIdx?_eq_none_iff] at h
    exact absurd (h x (by simp)) (by simp)
theorem some_one {c d : Int} {j : Nat} (h : place [c] d = some j) : d = c := by
  obtain ⟨h1, h2⟩ := place_at h
  have : j = 0 := by simpa using h1
  subst this
  exact h2.symm
theorem some_two {c d x : Int} {j : Nat} (h : place [c, d] x = some j) : j ≤ 1 ∧ (j = 0 ∧ x = c ∨ j = 1 ∧ x = d) := by
  obtain ⟨h1, h2⟩ := place_at h
  have h1' : j < 2 := h1
  have : j = 0 ∨ j = 1 := by omega
  rcases this with rfl | rfl
  · exact ⟨by decide, .inl ⟨rfl, h2.symm⟩⟩
  · exact ⟨by decide, .inr ⟨rfl, h2.symm⟩⟩
theorem take_2 {l : List Int} {k i j : Nat} (h0 : place truths (at_ l i) = none) (h1 : place signs (at_ l i) = none) (h2 : place [8709] (at_ l i) = some j) : take l (k + 1) i = nullG l (i + 1) := by
  rw [take_on, h0, h1]
  exact if_pos (some_one h2)
theorem take_3 {l : List Int} {k i j : Nat} (h0 : place truths (at_ l i) = none) (h1 : place signs (at_ l i) = none) (h2 : place [8709] (at_ l i) = none) (h3 : place [8743, 8744] (at_ l i) = some j) : take l (k + 1) i = listG (take l k) l (i + 1) (4 + (j : Int)) := by
  rw [take_on, h0, h1]
  simp only
  rw [if_neg (none_one h2)]
  rcases (some_two h3).2 with ⟨rfl, h⟩ | ⟨rfl, h⟩
  · rw [if_pos (.inl h), if_pos h]; rfl
  · rw [if_pos (.inr h), if_neg (by rw [h]; decide)]; rfl
theorem take_4 {l : List Int} {k i j : Nat} (h0 : place truths (at_ l i) = none) (h1 : place signs (at_ l i) = none) (h2 : place [8709] (at_ l i) = none) (h3 : place [8743, 8744] (at_ l i) = none) (h4 : place [172] (at_ l i) = some j) : take l (k + 1) i = notG (take l k) (i + 1) := by
  rw [take_on, h0, h1]
  simp only
  rw [if_neg (none_one h2), if_neg (fun g => g.elim (none_two h3).1 (none_two h3).2), if_pos (some_one h4)]
theorem take_5 {l : List Int} {k i : Nat} (h0 : place truths (at_ l i) = none) (h1 : place signs (at_ l i) = none) (h2 : place [8709] (at_ l i) = none) (h3 : place [8743, 8744] (at_ l i) = none) (h4 : place [172] (at_ l i) = none) : take l (k + 1) i = ⟨zp, i, 1⟩ := by
  rw [take_on, h0, h1]
  simp only
  rw [if_neg (none_one h2), if_neg (fun g => g.elim (none_two h3).1 (none_two h3).2), if_neg (none_one h4)]
theorem Step.down {α : Type} {g : Got α} {i j i' : Nat} {e' : Int} {x : α} (h : Step g j 0 x i' e') : Step g i 0 x i' e' := ⟨fun h => absurd rfl h, h.2⟩
end Tx
theorem rways_any (R : Nat) (w : World) :
    Calls Tryz.prog 85 #[.pointer (some ⟨R, 0, none⟩)] w fun E w' => E = .returned (.agg #[.string ⟨[226, 138, 165, 63, 226, 138, 164].toArray⟩, .func (.func 90) #[.pointer (some ⟨R, 0, none⟩)] #[], .string ⟨[61, 226, 137, 160, 60, 226, 137, 164, 62, 226, 137, 165].toArray⟩, .func (.func 91) #[.pointer (some ⟨R, 0, none⟩)] #[], .string ⟨[226, 136, 133].toArray⟩, .func (.func 92) #[.pointer (some ⟨R, 0, none⟩)] #[], .string ⟨[226, 136, 167, 226, 136, 168].toArray⟩, .func (.func 93) #[.pointer (some ⟨R, 0, none⟩)] #[], .string ⟨[194, 172].toArray⟩, .func (.func 94) #[.pointer (some ⟨R, 0, none⟩)] #[]]) ∧ Below w.heap.size w w' := by
  go_enter Tryz.func85, Tryz.ntmps85
  go_wp2
  exact bodyPost_ret (v := .agg #[.string ⟨[226, 138, 165, 63, 226, 138, 164].toArray⟩, .func (.func 90) #[.pointer (some ⟨R, 0, none⟩)] #[], .string ⟨[61, 226, 137, 160, 60, 226, 137, 164, 62, 226, 137, 165].toArray⟩, .func (.func 91) #[.pointer (some ⟨R, 0, none⟩)] #[], .string ⟨[226, 136, 133].toArray⟩, .func (.func 92) #[.pointer (some ⟨R, 0, none⟩)] #[], .string ⟨[226, 136, 167, 226, 136, 168].toArray⟩, .func (.func 93) #[.pointer (some ⟨R, 0, none⟩)] #[], .string ⟨[194, 172].toArray⟩, .func (.func 94) #[.pointer (some ⟨R, 0, none⟩)] #[]]) (by simp [results, Tryz.results85, go_sem]) rfl ⟨rfl, below_new _ _⟩
theorem way_at0 (R : Nat) (w : World) : (Instr.index 121 (.agg #[.string ⟨[226, 138, 165, 63, 226, 138, 164].toArray⟩, .func (.func 90) #[.pointer (some ⟨R, 0, none⟩)] #[], .string ⟨[61, 226, 137, 160, 60, 226, 137, 164, 62, 226, 137, 165].toArray⟩, .func (.func 91) #[.pointer (some ⟨R, 0, none⟩)] #[], .string ⟨[226, 136, 133].toArray⟩, .func (.func 92) #[.pointer (some ⟨R, 0, none⟩)] #[], .string ⟨[226, 136, 167, 226, 136, 168].toArray⟩, .func (.func 93) #[.pointer (some ⟨R, 0, none⟩)] #[], .string ⟨[194, 172].toArray⟩, .func (.func 94) #[.pointer (some ⟨R, 0, none⟩)] #[]]) (.int .i64 0)).run Tryz.prog w = .ok (.agg #[.string ⟨[226, 138, 165, 63, 226, 138, 164].toArray⟩, .func (.func 90) #[.pointer (some ⟨R, 0, none⟩)] #[]]) w := by kernel_rfl
theorem way_at1 (R : Nat) (w : World) : (Instr.index 121 (.agg #[.string ⟨[226, 138, 165, 63, 226, 138, 164].toArray⟩, .func (.func 90) #[.pointer (some ⟨R, 0, none⟩)] #[], .string ⟨[61, 226, 137, 160, 60, 226, 137, 164, 62, 226, 137, 165].toArray⟩, .func (.func 91) #[.pointer (some ⟨R, 0, none⟩)] #[], .string ⟨[226, 136, 133].toArray⟩, .func (.func 92) #[.pointer (some ⟨R, 0, none⟩)] #[], .string ⟨[226, 136, 167, 226, 136, 168].toArray⟩, .func (.func 93) #[.pointer (some ⟨R, 0, none⟩)] #[], .string ⟨[194, 172].toArray⟩, .func (.func 94) #[.pointer (some ⟨R, 0, none⟩)] #[]]) (.int .i64 1)).run Tryz.prog w = .ok (.agg #[.string ⟨[61, 226, 137, 160, 60, 226, 137, 164, 62, 226, 137, 165].toArray⟩, .func (.func 91) #[.pointer (some ⟨R, 0, none⟩)] #[]]) w := by kernel_rfl
theorem way_at2 (R : Nat) (w : World) : (Instr.index 121 (.agg #[.string ⟨[226, 138, 165, 63, 226, 138, 164].toArray⟩, .func (.func 90) #[.pointer (some ⟨R, 0, none⟩)] #[], .string ⟨[61, 226, 137, 160, 60, 226, 137, 164, 62, 226, 137, 165].toArray⟩, .func (.func 91) #[.pointer (some ⟨R, 0, none⟩)] #[], .string ⟨[226, 136, 133].toArray⟩, .func (.func 92) #[.pointer (some ⟨R, 0, none⟩)] #[], .string ⟨[226, 136, 167, 226, 136, 168].toArray⟩, .func (.func 93) #[.pointer (some ⟨R, 0, none⟩)] #[], .string ⟨[194, 172].toArray⟩, .func (.func 94) #[.pointer (some ⟨R, 0, none⟩)] #[]]) (.int .i64 2)).run Tryz.prog w = .ok (.agg #[.string ⟨[226, 136, 133].toArray⟩, .func (.func 92) #[.pointer (some ⟨R, 0, none⟩)] #[]]) w := by kernel_rfl
theorem way_at3 (R : Nat) (w : World) : (Instr.index 121 (.agg #[.string ⟨[226, 138, 165, 63, 226, 138, 164].toArray⟩, .func (.func 90) #[.pointer (some ⟨R, 0, none⟩)] #[], .string ⟨[61, 226, 137, 160, 60, 226, 137, 164, 62, 226, 137, 165].toArray⟩, .func (.func 91) #[.pointer (some ⟨R, 0, none⟩)] #[], .string ⟨[226, 136, 133].toArray⟩, .func (.func 92) #[.pointer (some ⟨R, 0, none⟩)] #[], .string ⟨[226, 136, 167, 226, 136, 168].toArray⟩, .func (.func 93) #[.pointer (some ⟨R, 0, none⟩)] #[], .string ⟨[194, 172].toArray⟩, .func (.func 94) #[.pointer (some ⟨R, 0, none⟩)] #[]]) (.int .i64 3)).run Tryz.prog w = .ok (.agg #[.string ⟨[226, 136, 167, 226, 136, 168].toArray⟩, .func (.func 93) #[.pointer (some ⟨R, 0, none⟩)] #[]]) w := by kernel_rfl
theorem way_at4 (R : Nat) (w : World) : (Instr.index 121 (.agg #[.string ⟨[226, 138, 165, 63, 226, 138, 164].toArray⟩, .func (.func 90) #[.pointer (some ⟨R, 0, none⟩)] #[], .string ⟨[61, 226, 137, 160, 60, 226, 137, 164, 62, 226, 137, 165].toArray⟩, .func (.func 91) #[.pointer (some ⟨R, 0, none⟩)] #[], .string ⟨[226, 136, 133].toArray⟩, .func (.func 92) #[.pointer (some ⟨R, 0, none⟩)] #[], .string ⟨[226, 136, 167, 226, 136, 168].toArray⟩, .func (.func 93) #[.pointer (some ⟨R, 0, none⟩)] #[], .string ⟨[194, 172].toArray⟩, .func (.func 94) #[.pointer (some ⟨R, 0, none⟩)] #[]]) (.int .i64 4)).run Tryz.prog w = .ok (.agg #[.string ⟨[194, 172].toArray⟩, .func (.func 94) #[.pointer (some ⟨R, 0, none⟩)] #[]]) w := by kernel_rfl
theorem dead_none {c : Int} {L : List Int} (h : ∀ x ∈ L, x ≠ c) : Tx.place L c = none := by
  unfold Tx.place
  rw [List.findIdx?_eq_none_iff]
  intro x hx
  simpa using h x hx
set_option maxRecDepth 100000 in
theorem rpred_0 (w0 : World) (R b c : Nat) (l : List Int) : PredAt w0 R b c l 0 := by
  intro i e w h hi
  obtain ⟨i', e', hf⟩ : ∃ i' e', (i', e') = failS i e i 2 := ⟨_, _, rfl⟩
  obtain ⟨o0, ho0⟩ : ∃ o0, o0 = Obj.cells #[.int .i64 0, .int .i64 0, .int .i64 0, .int .i64 0, .int .i64 0, .int .i64 0, .bool false, .int .i64 0, .int .i64 0, .int .i64 0, .int .i64 0, .bool false, .int .i64 0, .slice none 0 0] 43 := ⟨_, rfl⟩
  have h0 := h.alloc o0
  have cf := rfail_any i e i 2 _ h0 i' e' hf
  have x1 := h0.lies.cell (i := 1) rfl
  have l0 : Lies (w.alloc o0) w.heap.size 43 zeroPred := by rw [ho0]; exact Lies.new _ _ _
  have hgR : w.heap.size ≠ R := by have := h.lt; omega
  have hgt : R < w.heap.size := h.lt
  have hg0 : Gw R w (w.alloc o0) := Gw.of (below_new _ _)
  have HO := Lib.hid ho0
  clear ho0 h h0
  have HS : Hid (Tx.Step (Tx.take l 0 i) i e (Pd.mk ⟨0, 0, 0, Tx.zt, Tx.zt⟩ []) i' e') := Lib.hid (by
    rw [Tx.take]
    unfold failS at hf
    by_cases he : e = 0
    · rw [if_pos he] at hf
      obtain ⟨rfl, rfl⟩ := pair_eq hf
      exact ⟨fun h => absurd he h, fun _ => ⟨rfl, rfl, fun _ => rfl⟩⟩
    · rw [if_neg he] at hf
      obtain ⟨rfl, rfl⟩ := pair_eq hf
      exact ⟨fun _ => ⟨rfl, rfl⟩, fun h => absurd h he⟩)
  clear hf
  show Calls Tryz.prog 72 #[.pointer (some ⟨R, 0, none⟩), .int .i64 5] w _
  go_enter Tryz.func72, Tryz.ntmps72
  go_upto_region 1 with (fail)
  rw [← HO.out]
  go_wp2_with (fail)
  refine cf.mono ?_
  rintro E w1 ⟨rfl, h1, hg1⟩
  have l1 := hg1.lies l0 hgR
  have hgw1 := hg0.trans hg1
  clear cf x1 l0 hg0 hg1
  have y0 := l1.cell (i := 0) rfl
  have f0 := l1.free 0
  have y1 := l1.cell (i := 1) rfl
  have f1 := l1.free 1
  have y2 := l1.cell (i := 2) rfl
  have f2 := l1.free 2
  have y3 := l1.cell (i := 3) rfl
  have f3 := l1.free 3
  have y4 := l1.cell (i := 4) rfl
  have f4 := l1.free 4
  have y5 := l1.cell (i := 5) rfl
  have f5 := l1.free 5
  have y6 := l1.cell (i := 6) rfl
  have f6 := l1.free 6
  have y7 := l1.cell (i := 7) rfl
  have f7 := l1.free 7
  have y8 := l1.cell (i := 8) rfl
  have f8 := l1.free 8
  have y9 := l1.cell (i := 9) rfl
  have f9 := l1.free 9
  have y10 := l1.cell (i := 10) rfl
  have f10 := l1.free 10
  have y11 := l1.cell (i := 11) rfl
  have f11 := l1.free 11
  have y12 := l1.cell (i := 12) rfl
  have f12 := l1.free 12
  have y13 := l1.cell (i := 13) rfl
  have f13 := l1.free 13
  have LF : Lies _ w.heap.size _ [.int .i64 0, .int .i64 0, .int .i64 0, .int .i64 0, .int .i64 0, .int .i64 0, .bool false, .int .i64 0, .int .i64 0, .int .i64 0, .int .i64 0, .bool false, .int .i64 0, .slice none 0 0] := ((((((((((((((l1.set 0 (.int .i64 0)).set 1 (.int .i64 0)).set 2 (.int .i64 0)).set 3 (.int .i64 0)).set 4 (.int .i64 0)).set 5 (.int .i64 0)).set 6 (.bool false)).set 7 (.int .i64 0)).set 8 (.int .i64 0)).set 9 (.int .i64 0)).set 10 (.int .i64 0)).set 11 (.bool false)).set 12 (.int .i64 0)).set 13 (.slice none 0 0))
  have k0 := LF.cell (i := 0) rfl
  have k1 := LF.cell (i := 1) rfl
  have k2 := LF.cell (i := 2) rfl
  have k3 := LF.cell (i := 3) rfl
  have k4 := LF.cell (i := 4) rfl
  have k5 := LF.cell (i := 5) rfl
  have k6 := LF.cell (i := 6) rfl
  have k7 := LF.cell (i := 7) rfl
  have k8 := LF.cell (i := 8) rfl
  have k9 := LF.cell (i := 9) rfl
  have k10 := LF.cell (i := 10) rfl
  have k11 := LF.cell (i := 11) rfl
  have k12 := LF.cell (i := 12) rfl
  have k13 := LF.cell (i := 13) rfl
  have HF := Lib.hid ((((((((((((((h1.other hgt 0 (.int .i64 0)).other hgt 1 (.int .i64 0)).other hgt 2 (.int .i64 0)).other hgt 3 (.int .i64 0)).other hgt 4 (.int .i64 0)).other hgt 5 (.int .i64 0)).other hgt 6 (.bool false)).other hgt 7 (.int .i64 0)).other hgt 8 (.int .i64 0)).other hgt 9 (.int .i64 0)).other hgt 10 (.int .i64 0)).other hgt 11 (.bool false)).other hgt 12 (.int .i64 0)).other hgt 13 (.slice none 0 0))
  have HGF := Lib.hid ((((((((((((((hgw1.other (g := w.heap.size) (Nat.le_refl _) 0 (.int .i64 0)).other (g := w.heap.size) (Nat.le_refl _) 1 (.int .i64 0)).other (g := w.heap.size) (Nat.le_refl _) 2 (.int .i64 0)).other (g := w.heap.size) (Nat.le_refl _) 3 (.int .i64 0)).other (g := w.heap.size) (Nat.le_refl _) 4 (.int .i64 0)).other (g := w.heap.size) (Nat.le_refl _) 5 (.int .i64 0)).other (g := w.heap.size) (Nat.le_refl _) 6 (.bool false)).other (g := w.heap.size) (Nat.le_refl _) 7 (.int .i64 0)).other (g := w.heap.size) (Nat.le_refl _) 8 (.int .i64 0)).other (g := w.heap.size) (Nat.le_refl _) 9 (.int .i64 0)).other (g := w.heap.size) (Nat.le_refl _) 10 (.int .i64 0)).other (g := w.heap.size) (Nat.le_refl _) 11 (.bool false)).other (g := w.heap.size) (Nat.le_refl _) 12 (.int .i64 0)).other (g := w.heap.size) (Nat.le_refl _) 13 (.slice none 0 0))
  clear l1 h1 hgw1 LF
  go_wp2_with (fail)
  exact bodyPost_ret (v := .agg #[.int .i64 0, .int .i64 0, .int .i64 0, .int .i64 0, .int .i64 0, .int .i64 0, .bool false, .int .i64 0, .int .i64 0, .int .i64 0, .int .i64 0, .bool false, .int .i64 0, .slice none 0 0]) (by simp [results, Tryz.results72, go_sem, k0, k1, k2, k3, k4, k5, k6, k7, k8, k9, k10, k11, k12, k13]) rfl ⟨⟨0, 0, 0, Tx.zt, Tx.zt⟩, none, 0, 0, [], i', e', rfl, HS, Lib.hid (fun _ => PsIn.nil _ _ _), HF.out, HGF.out⟩
set_option maxRecDepth 100000 in
set_option maxHeartbeats 40000000 in
theorem rpred_succ {w0 : World} {R b c : Nat} {l : List Int} (hs : Src w0 R b c l) (k : Nat) (hk : k ≤ 3) (ih : PredAt w0 R b c l k) : PredAt w0 R b c l (k + 1) := by
  intro i e w h hi
  obtain ⟨dp, hdp⟩ : ∃ dp : Int, dp = 4 - (k : Int) := ⟨_, rfl⟩
  have hdp5 : (5 - ((k + 1 : Nat) : Int)) = dp := by omega
  rw [hdp5]
  have e4 : decide (4 < dp) = false := by simp; omega
  have hlen := hs.len
  have IH := Lib.hid ih
  have Hs := Lib.hid hs
  obtain ⟨o0, ho0⟩ : ∃ o0, o0 = Obj.cells #[.int .i64 0, .int .i64 0, .int .i64 0, .int .i64 0, .int .i64 0, .int .i64 0, .bool false, .int .i64 0, .int .i64 0, .int .i64 0, .int .i64 0, .bool false, .int .i64 0, .slice none 0 0] 43 := ⟨_, rfl⟩
  have h0 := h.alloc o0
  obtain ⟨V, hV⟩ : ∃ V, V = nextS l i e := ⟨_, rfl⟩
  have cn := rnext_any hs i e _ h0 hi V hV
  have l0 : Lies (w.alloc o0) w.heap.size 43 zeroPred := by rw [ho0]; exact Lies.new _ _ _
  have hgR : w.heap.size ≠ R := by have := h.lt; omega
  have hgt : R < w.heap.size := h.lt
  have hg0 : Gw R w (w.alloc o0) := Gw.of (below_new _ _)
  have HO := Lib.hid ho0
  clear ho0 hs h ih
  obtain ⟨P0, hP0⟩ : ∃ P, P = Tx.place Tx.truths V := ⟨_, rfl⟩
  have cP0 := fun w => tplace_any [226, 138, 165, 63, 226, 138, 164] V w (by decide) P0 (by rw [runes_truths]; exact hP0)
  obtain ⟨P1, hP1⟩ : ∃ P, P = Tx.place Tx.signs V := ⟨_, rfl⟩
  have cP1 := fun w => tplace_any [61, 226, 137, 160, 60, 226, 137, 164, 62, 226, 137, 165] V w (by decide) P1 (by rw [runes_signs]; exact hP1)
  obtain ⟨P2, hP2⟩ : ∃ P, P = Tx.place [8709] V := ⟨_, rfl⟩
  have cP2 := fun w => tplace_any [226, 136, 133] V w (by decide) P2 (by rw [runes_null]; exact hP2)
  obtain ⟨P3, hP3⟩ : ∃ P, P = Tx.place [8743, 8744] V := ⟨_, rfl⟩
  have cP3 := fun w => tplace_any [226, 136, 167, 226, 136, 168] V w (by decide) P3 (by rw [runes_lists]; exact hP3)
  obtain ⟨P4, hP4⟩ : ∃ P, P = Tx.place [172] V := ⟨_, rfl⟩
  have cP4 := fun w => tplace_any [194, 172] V w (by decide) P4 (by rw [runes_not]; exact hP4)
  have HV := Lib.hid hV
  have HP := Lib.hid (And.intro hP0 (And.intro hP1 (And.intro hP2 (And.intro hP3 hP4))))
  have live : ∀ (L : List Int) (j : Nat), Tx.place L V = some j → (∀ x ∈ L, x ≠ -1) → e = 0 ∧ V = Tx.at_ l i ∧ i < l.length := by
    intro L j hj hL
    have hne : V ≠ -1 := by
      obtain ⟨h1, h2⟩ := Tx.place_at hj
      rw [List.getD_eq_getElem?_getD, List.getElem?_eq_getElem h1] at h2
      exact h2 ▸ hL _ (List.getElem_mem h1)
    have h1 := HV.out
    unfold nextS at h1
    by_cases he : e = 0
    · rw [if_pos he] at h1
      exact ⟨he, h1, Tx.at_lt h1.symm hne⟩
    · rw [if_neg he] at h1; exact absurd h1 hne
  have HLive := Lib.hid live
  clear hP0 hP1 hP2 hP3 hP4 hV live
  have HD := Lib.hid hdp
  clear hdp hdp5
  go_enter Tryz.func72, Tryz.ntmps72
  go_upto_region 1 with (fail)
  rw [← HO.out]
  go_wp2_with (fail)
  refine cn.mono ?_
  rintro E w1 ⟨rfl, hb1⟩
  have h1 := h0.below hb1 h0.lt
  have l1 := l0.below hb1 l0.lt
  have hgw1 := hg0.trans (Gw.of (R := R) hb1)
  clear cn hb1 h0 l0 hg0
  go_wp2_with (fail)
  refine (rways_any R w1).mono ?_
  rintro E w2 ⟨rfl, hb2⟩
  have h2 := h1.below hb2 h1.lt
  have l2 := l1.below hb2 l1.lt
  have hgw2 := hgw1.trans (Gw.of (R := R) hb2)
  clear hb2 h1 l1 hgw1
  go_wp2_with (fail)
  have H2 := Lib.hid h2
  have L2 := Lib.hid l2
  have G2 := Lib.hid hgw2
  clear h2 l2 hgw2
  go_loopw [23] (fun v wr => ∃ q : Nat, q ≤ 5 ∧ v = .int .i64 q ∧ Rd w0 wr R b c l.length i e ∧ Lies wr w.heap.size 43 zeroPred ∧ Gw R w wr ∧ Hid ((0 < q → P0 = none) ∧ (1 < q → P1 = none) ∧ (2 < q → P2 = none) ∧ (3 < q → P3 = none) ∧ (4 < q → P4 = none))) (fun v _ => 5 - (intOf v).toNat)
  case atStart => exact ⟨0, by omega, rfl, H2.out, L2.out, G2.out, Lib.hid (by refine ⟨?_, ?_, ?_, ?_, ?_⟩ <;> (intro h; omega))⟩
  case round =>
    obtain ⟨q, hq, rfl, hr, hl, hg, hc⟩ := hrel
    clear H2 L2 G2
    have hq6 : q = 0 ∨ q = 1 ∨ q = 2 ∨ q = 3 ∨ q = 4 ∨ q = 5 := by omega
    rcases hq6 with rfl | rfl | rfl | rfl | rfl | rfl
    · have eq5 : decide (((0 : Nat) : Int) < 5) = true := by decide
      have wi := way_at0 R
      cases hPq : P0
      · have cp := cP0
        rw [hPq] at cp
        clear cP0 cP1 cP2 cP3 cP4
        go_wp2_with (fail)
        refine (cp _).mono ?_
        rintro E w4 ⟨rfl, hb4⟩
        have hr4 := (hr.alloc (Obj.cells #[.string ⟨[226, 138, 165, 63, 226, 138, 164].toArray⟩, .func (.func 90) #[.pointer (some ⟨R, 0, none⟩)] #[]] 120)).below hb4 (by have := hr.lt; simp; omega)
        have hl4 := (hl.alloc (Obj.cells #[.string ⟨[226, 138, 165, 63, 226, 138, 164].toArray⟩, .func (.func 90) #[.pointer (some ⟨R, 0, none⟩)] #[]] 120)).below hb4 (by have := hl.lt; simp; omega)
        have hg4 := (hg.trans (Gw.of (R := R) (below_new wr (Obj.cells #[.string ⟨[226, 138, 165, 63, 226, 138, 164].toArray⟩, .func (.func 90) #[.pointer (some ⟨R, 0, none⟩)] #[]] 120)))).trans (Gw.of (R := R) hb4)
        clear cp hb4 hr hl hg
        go_wp2_with (fail)
        go_roundw
        case rel => exact ⟨1, by omega, rfl, hr4, hl4, hg4, Lib.hid (by have := hc.out; refine ⟨?_, ?_, ?_, ?_, ?_⟩ <;> (intro h; first | exact hPq | trivial | omega | exact this.1 (by omega) | exact this.2.1 (by omega) | exact this.2.2.1 (by omega) | exact this.2.2.2.1 (by omega) | exact this.2.2.2.2 (by omega)))⟩
        case measure => simp [intOf]
      · rename_i j
        have hPj : Tx.place Tx.truths V = some j := by rw [← HP.out.1]; exact hPq
        obtain ⟨rfl, hVa, hlt⟩ := HLive.out Tx.truths j hPj (by decide)
        rw [hVa] at hPj
        have HS0 := Lib.hid (Tx.take_0 (k := k) hPj)
        have HJ := Lib.hid hPj
        have cp := cP0
        rw [hPq] at cp
        obtain ⟨ow, how⟩ : ∃ ow, ow = Obj.cells #[.string ⟨[226, 138, 165, 63, 226, 138, 164].toArray⟩, .func (.func 90) #[.pointer (some ⟨R, 0, none⟩)] #[]] 120 := ⟨_, rfl⟩
        have ra := hr.alloc ow
        have la := hl.alloc ow
        have ga := hg.trans (Gw.of (R := R) (below_new wr ow))
        have lw : Lies (wr.alloc ow) wr.heap.size 120 [.string ⟨[226, 138, 165, 63, 226, 138, 164].toArray⟩, .func (.func 90) #[.pointer (some ⟨R, 0, none⟩)] #[]] := by rw [how]; exact Lies.new _ _ _
        have hwR : wr.heap.size ≠ R := by have := hr.lt; omega
        have hw := wrap_small (n := i) (by omega)
        have HOW := Lib.hid how
        clear cP0 cP1 cP2 cP3 cP4 hr hl hg how hPq hPj hVa
        go_wp2_with (fail)
        rw [← HOW.out]
        refine (cp _).mono ?_
        rintro E w4 ⟨rfl, hb4⟩
        have hr4 := ra.below hb4 ra.lt
        have hl4 := la.below hb4 la.lt
        have hg4 := ga.trans (Gw.of (R := R) hb4)
        have lw4 := lw.below hb4 lw.lt
        have x1 := hr4.lies.cell (i := 1) rfl
        have f1 := hr4.lies.free 1
        have h5 := hr4.at_ (i + 1)
        have hl5 := hl4.far (p := ⟨R, 1, none⟩) hgR (.int .i64 ((i + 1 : Nat) : Int))
        have hg5 := hg4.trans (Gw.set (R := R) w4 1 (.int .i64 ((i + 1 : Nat) : Int)))
        have lw5 := lw4.far (p := ⟨R, 1, none⟩) hwR (.int .i64 ((i + 1 : Nat) : Int))
        have ec : ((i + 1 : Nat) : Int) = (i : Int) + 1 := by omega
        rw [ec] at h5 hl5 hg5 lw5
        obtain ⟨w5, hw5⟩ : ∃ w5, w5 = w4.setCell ⟨R, 1, none⟩ (.int .i64 ((i : Int) + 1)) := ⟨_, rfl⟩
        rw [← hw5] at h5 hl5 hg5 lw5
        have z1 := lw5.cell (i := 1) rfl
        have hi1 : i + 1 ≤ l.length := hlt
        have cw := rtruth_any (k + 1) (i + 1) j dp w5 h5 (by have := (Tx.place_at HJ.out).1; have e3 : Tx.truths.length = 3 := rfl; omega)
        have HW5 := Lib.hid hw5
        rw [hw5] at z1
        clear cp hb4 ra la ga lw lw4 lw5 hr4 hl4 hg4 h5 hw5 HOW
        go_wp2_with (fail)
        rw [← HW5.out]
        refine cw.mono ?_
        rintro E w6 ⟨f, A, m, kk, ps, i', e', rfl, hst, hps, h6, hg6⟩
        have l6 := hg6.lies hl5 hgR
        have hgw6 := hg5.trans hg6
        have hsz6 : w.heap.size + 1 ≤ w6.heap.size := l6.lt
        have hsz5 : w.heap.size + 1 ≤ w5.heap.size := hl5.lt
        have HS := Lib.hid (show Tx.Step (Tx.take l (k + 1) i) i 0 (.mk f ps) i' e' by rw [HS0.out]; exact hst.out.down)
        have hin : Hid (e' = 0 → PsIn (w.heap.size + 1) (k + 1) w6 (.slice A m kk) ps) := Lib.hid fun h0 => (hps.out h0).low hsz5
        clear cw x1 f1 z1 hl5 hg5 hg6 hst hps HS0
        have y0 := l6.cell (i := 0) rfl
        have f0 := l6.free 0
        have y1 := l6.cell (i := 1) rfl
        have f1 := l6.free 1
        have y2 := l6.cell (i := 2) rfl
        have f2 := l6.free 2
        have y3 := l6.cell (i := 3) rfl
        have f3 := l6.free 3
        have y4 := l6.cell (i := 4) rfl
        have f4 := l6.free 4
        have y5 := l6.cell (i := 5) rfl
        have f5 := l6.free 5
        have y6 := l6.cell (i := 6) rfl
        have f6 := l6.free 6
        have y7 := l6.cell (i := 7) rfl
        have f7 := l6.free 7
        have y8 := l6.cell (i := 8) rfl
        have f8 := l6.free 8
        have y9 := l6.cell (i := 9) rfl
        have f9 := l6.free 9
        have y10 := l6.cell (i := 10) rfl
        have f10 := l6.free 10
        have y11 := l6.cell (i := 11) rfl
        have f11 := l6.free 11
        have y12 := l6.cell (i := 12) rfl
        have f12 := l6.free 12
        have y13 := l6.cell (i := 13) rfl
        have f13 := l6.free 13
        have LF : Lies _ w.heap.size _ [.int .i64 f.k, .int .i64 f.u, .int .i64 f.o, .int .i64 f.a.k, .int .i64 f.a.t, .int .i64 f.a.c, .bool f.a.z, .int .i64 f.a.n, .int .i64 f.b.k, .int .i64 f.b.t, .int .i64 f.b.c, .bool f.b.z, .int .i64 f.b.n, .slice A m kk] := ((((((((((((((l6.set 0 (.int .i64 f.k)).set 1 (.int .i64 f.u)).set 2 (.int .i64 f.o)).set 3 (.int .i64 f.a.k)).set 4 (.int .i64 f.a.t)).set 5 (.int .i64 f.a.c)).set 6 (.bool f.a.z)).set 7 (.int .i64 f.a.n)).set 8 (.int .i64 f.b.k)).set 9 (.int .i64 f.b.t)).set 10 (.int .i64 f.b.c)).set 11 (.bool f.b.z)).set 12 (.int .i64 f.b.n)).set 13 (.slice A m kk))
        have k0 := LF.cell (i := 0) rfl
        have k1 := LF.cell (i := 1) rfl
        have k2 := LF.cell (i := 2) rfl
        have k3 := LF.cell (i := 3) rfl
        have k4 := LF.cell (i := 4) rfl
        have k5 := LF.cell (i := 5) rfl
        have k6 := LF.cell (i := 6) rfl
        have k7 := LF.cell (i := 7) rfl
        have k8 := LF.cell (i := 8) rfl
        have k9 := LF.cell (i := 9) rfl
        have k10 := LF.cell (i := 10) rfl
        have k11 := LF.cell (i := 11) rfl
        have k12 := LF.cell (i := 12) rfl
        have k13 := LF.cell (i := 13) rfl
        have HF := Lib.hid ((((((((((((((h6.other hgt 0 (.int .i64 f.k)).other hgt 1 (.int .i64 f.u)).other hgt 2 (.int .i64 f.o)).other hgt 3 (.int .i64 f.a.k)).other hgt 4 (.int .i64 f.a.t)).other hgt 5 (.int .i64 f.a.c)).other hgt 6 (.bool f.a.z)).other hgt 7 (.int .i64 f.a.n)).other hgt 8 (.int .i64 f.b.k)).other hgt 9 (.int .i64 f.b.t)).other hgt 10 (.int .i64 f.b.c)).other hgt 11 (.bool f.b.z)).other hgt 12 (.int .i64 f.b.n)).other hgt 13 (.slice A m kk))
        have HGF := Lib.hid ((((((((((((((hgw6.other (g := w.heap.size) (Nat.le_refl _) 0 (.int .i64 f.k)).other (g := w.heap.size) (Nat.le_refl _) 1 (.int .i64 f.u)).other (g := w.heap.size) (Nat.le_refl _) 2 (.int .i64 f.o)).other (g := w.heap.size) (Nat.le_refl _) 3 (.int .i64 f.a.k)).other (g := w.heap.size) (Nat.le_refl _) 4 (.int .i64 f.a.t)).other (g := w.heap.size) (Nat.le_refl _) 5 (.int .i64 f.a.c)).other (g := w.heap.size) (Nat.le_refl _) 6 (.bool f.a.z)).other (g := w.heap.size) (Nat.le_refl _) 7 (.int .i64 f.a.n)).other (g := w.heap.size) (Nat.le_refl _) 8 (.int .i64 f.b.k)).other (g := w.heap.size) (Nat.le_refl _) 9 (.int .i64 f.b.t)).other (g := w.heap.size) (Nat.le_refl _) 10 (.int .i64 f.b.c)).other (g := w.heap.size) (Nat.le_refl _) 11 (.bool f.b.z)).other (g := w.heap.size) (Nat.le_refl _) 12 (.int .i64 f.b.n)).other (g := w.heap.size) (Nat.le_refl _) 13 (.slice A m kk))
        have HIF := Lib.hid (fun h0 => (((((((((((((((hin.out h0).setCell (a := ⟨w.heap.size, 0, none⟩) (Nat.lt_succ_self _) (.int .i64 f.k)).setCell (a := ⟨w.heap.size, 1, none⟩) (Nat.lt_succ_self _) (.int .i64 f.u)).setCell (a := ⟨w.heap.size, 2, none⟩) (Nat.lt_succ_self _) (.int .i64 f.o)).setCell (a := ⟨w.heap.size, 3, none⟩) (Nat.lt_succ_self _) (.int .i64 f.a.k)).setCell (a := ⟨w.heap.size, 4, none⟩) (Nat.lt_succ_self _) (.int .i64 f.a.t)).setCell (a := ⟨w.heap.size, 5, none⟩) (Nat.lt_succ_self _) (.int .i64 f.a.c)).setCell (a := ⟨w.heap.size, 6, none⟩) (Nat.lt_succ_self _) (.bool f.a.z)).setCell (a := ⟨w.heap.size, 7, none⟩) (Nat.lt_succ_self _) (.int .i64 f.a.n)).setCell (a := ⟨w.heap.size, 8, none⟩) (Nat.lt_succ_self _) (.int .i64 f.b.k)).setCell (a := ⟨w.heap.size, 9, none⟩) (Nat.lt_succ_self _) (.int .i64 f.b.t)).setCell (a := ⟨w.heap.size, 10, none⟩) (Nat.lt_succ_self _) (.int .i64 f.b.c)).setCell (a := ⟨w.heap.size, 11, none⟩) (Nat.lt_succ_self _) (.bool f.b.z)).setCell (a := ⟨w.heap.size, 12, none⟩) (Nat.lt_succ_self _) (.int .i64 f.b.n)).setCell (a := ⟨w.heap.size, 13, none⟩) (Nat.lt_succ_self _) (.slice A m kk)))
        clear l6 h6 hgw6 LF hin
        go_wp2_with (fail)
        exact bodyPost_ret (v := .agg #[.int .i64 f.k, .int .i64 f.u, .int .i64 f.o, .int .i64 f.a.k, .int .i64 f.a.t, .int .i64 f.a.c, .bool f.a.z, .int .i64 f.a.n, .int .i64 f.b.k, .int .i64 f.b.t, .int .i64 f.b.c, .bool f.b.z, .int .i64 f.b.n, .slice A m kk]) (by simp [results, Tryz.results72, go_sem, k0, k1, k2, k3, k4, k5, k6, k7, k8, k9, k10, k11, k12, k13]) rfl ⟨f, A, m, kk, ps, i', e', rfl, HS, Lib.hid (fun h0 => (HIF.out h0).low (Nat.le_succ _)), HF.out, HGF.out⟩
    · have eq5 : decide (((1 : Nat) : Int) < 5) = true := by decide
      have wi := way_at1 R
      cases hPq : P1
      · have cp := cP1
        rw [hPq] at cp
        clear cP0 cP1 cP2 cP3 cP4
        go_wp2_with (fail)
        refine (cp _).mono ?_
        rintro E w4 ⟨rfl, hb4⟩
        have hr4 := (hr.alloc (Obj.cells #[.string ⟨[61, 226, 137, 160, 60, 226, 137, 164, 62, 226, 137, 165].toArray⟩, .func (.func 91) #[.pointer (some ⟨R, 0, none⟩)] #[]] 120)).below hb4 (by have := hr.lt; simp; omega)
        have hl4 := (hl.alloc (Obj.cells #[.string ⟨[61, 226, 137, 160, 60, 226, 137, 164, 62, 226, 137, 165].toArray⟩, .func (.func 91) #[.pointer (some ⟨R, 0, none⟩)] #[]] 120)).below hb4 (by have := hl.lt; simp; omega)
        have hg4 := (hg.trans (Gw.of (R := R) (below_new wr (Obj.cells #[.string ⟨[61, 226, 137, 160, 60, 226, 137, 164, 62, 226, 137, 165].toArray⟩, .func (.func 91) #[.pointer (some ⟨R, 0, none⟩)] #[]] 120)))).trans (Gw.of (R := R) hb4)
        clear cp hb4 hr hl hg
        go_wp2_with (fail)
        go_roundw
        case rel => exact ⟨2, by omega, rfl, hr4, hl4, hg4, Lib.hid (by have := hc.out; refine ⟨?_, ?_, ?_, ?_, ?_⟩ <;> (intro h; first | exact hPq | trivial | omega | exact this.1 (by omega) | exact this.2.1 (by omega) | exact this.2.2.1 (by omega) | exact this.2.2.2.1 (by omega) | exact this.2.2.2.2 (by omega)))⟩
        case measure => simp [intOf]
      · rename_i j
        have hPj : Tx.place Tx.signs V = some j := by rw [← HP.out.2.1]; exact hPq
        obtain ⟨rfl, hVa, hlt⟩ := HLive.out Tx.signs j hPj (by decide)
        have hN0 : Tx.place Tx.truths (Tx.at_ l i) = none := by rw [← hVa, ← HP.out.1]; exact hc.out.1 (by omega)
        rw [hVa] at hPj
        have HS0 := Lib.hid (Tx.take_1 (k := k) hN0 hPj)
        have HJ := Lib.hid hPj
        have cp := cP1
        rw [hPq] at cp
        obtain ⟨ow, how⟩ : ∃ ow, ow = Obj.cells #[.string ⟨[61, 226, 137, 160, 60, 226, 137, 164, 62, 226, 137, 165].toArray⟩, .func (.func 91) #[.pointer (some ⟨R, 0, none⟩)] #[]] 120 := ⟨_, rfl⟩
        have ra := hr.alloc ow
        have la := hl.alloc ow
        have ga := hg.trans (Gw.of (R := R) (below_new wr ow))
        have lw : Lies (wr.alloc ow) wr.heap.size 120 [.string ⟨[61, 226, 137, 160, 60, 226, 137, 164, 62, 226, 137, 165].toArray⟩, .func (.func 91) #[.pointer (some ⟨R, 0, none⟩)] #[]] := by rw [how]; exact Lies.new _ _ _
        have hwR : wr.heap.size ≠ R := by have := hr.lt; omega
        have hw := wrap_small (n := i) (by omega)
        have HOW := Lib.hid how
        clear cP0 cP1 cP2 cP3 cP4 hr hl hg how hPq hPj hVa hN0
        go_wp2_with (fail)
        rw [← HOW.out]
        refine (cp _).mono ?_
        rintro E w4 ⟨rfl, hb4⟩
        have hr4 := ra.below hb4 ra.lt
        have hl4 := la.below hb4 la.lt
        have hg4 := ga.trans (Gw.of (R := R) hb4)
        have lw4 := lw.below hb4 lw.lt
        have x1 := hr4.lies.cell (i := 1) rfl
        have f1 := hr4.lies.free 1
        have h5 := hr4.at_ (i + 1)
        have hl5 := hl4.far (p := ⟨R, 1, none⟩) hgR (.int .i64 ((i + 1 : Nat) : Int))
        have hg5 := hg4.trans (Gw.set (R := R) w4 1 (.int .i64 ((i + 1 : Nat) : Int)))
        have lw5 := lw4.far (p := ⟨R, 1, none⟩) hwR (.int .i64 ((i + 1 : Nat) : Int))
        have ec : ((i + 1 : Nat) : Int) = (i : Int) + 1 := by omega
        rw [ec] at h5 hl5 hg5 lw5
        obtain ⟨w5, hw5⟩ : ∃ w5, w5 = w4.setCell ⟨R, 1, none⟩ (.int .i64 ((i : Int) + 1)) := ⟨_, rfl⟩
        rw [← hw5] at h5 hl5 hg5 lw5
        have z1 := lw5.cell (i := 1) rfl
        have hi1 : i + 1 ≤ l.length := hlt
        have cw := rcomp_any Hs.out (k + 1) (i + 1) j dp w5 h5 hi1 (by have := (Tx.place_at HJ.out).1; have e3 : Tx.signs.length = 6 := rfl; omega)
        have HW5 := Lib.hid hw5
        rw [hw5] at z1
        clear cp hb4 ra la ga lw lw4 lw5 hr4 hl4 hg4 h5 hw5 HOW
        go_wp2_with (fail)
        rw [← HW5.out]
        refine cw.mono ?_
        rintro E w6 ⟨f, A, m, kk, ps, i', e', rfl, hst, hps, h6, hg6⟩
        have l6 := hg6.lies hl5 hgR
        have hgw6 := hg5.trans hg6
        have hsz6 : w.heap.size + 1 ≤ w6.heap.size := l6.lt
        have hsz5 : w.heap.size + 1 ≤ w5.heap.size := hl5.lt
        have HS := Lib.hid (show Tx.Step (Tx.take l (k + 1) i) i 0 (.mk f ps) i' e' by rw [HS0.out]; exact hst.out.down)
        have hin : Hid (e' = 0 → PsIn (w.heap.size + 1) (k + 1) w6 (.slice A m kk) ps) := Lib.hid fun h0 => (hps.out h0).low hsz5
        clear cw x1 f1 z1 hl5 hg5 hg6 hst hps HS0
        have y0 := l6.cell (i := 0) rfl
        have f0 := l6.free 0
        have y1 := l6.cell (i := 1) rfl
        have f1 := l6.free 1
        have y2 := l6.cell (i := 2) rfl
        have f2 := l6.free 2
        have y3 := l6.cell (i := 3) rfl
        have f3 := l6.free 3
        have y4 := l6.cell (i := 4) rfl
        have f4 := l6.free 4
        have y5 := l6.cell (i := 5) rfl
        have f5 := l6.free 5
        have y6 := l6.cell (i := 6) rfl
        have f6 := l6.free 6
        have y7 := l6.cell (i := 7) rfl
        have f7 := l6.free 7
        have y8 := l6.cell (i := 8) rfl
        have f8 := l6.free 8
        have y9 := l6.cell (i := 9) rfl
        have f9 := l6.free 9
        have y10 := l6.cell (i := 10) rfl
        have f10 := l6.free 10
        have y11 := l6.cell (i := 11) rfl
        have f11 := l6.free 11
        have y12 := l6.cell (i := 12) rfl
        have f12 := l6.free 12
        have y13 := l6.cell (i := 13) rfl
        have f13 := l6.free 13
        have LF : Lies _ w.heap.size _ [.int .i64 f.k, .int .i64 f.u, .int .i64 f.o, .int .i64 f.a.k, .int .i64 f.a.t, .int .i64 f.a.c, .bool f.a.z, .int .i64 f.a.n, .int .i64 f.b.k, .int .i64 f.b.t, .int .i64 f.b.c, .bool f.b.z, .int .i64 f.b.n, .slice A m kk] := ((((((((((((((l6.set 0 (.int .i64 f.k)).set 1 (.int .i64 f.u)).set 2 (.int .i64 f.o)).set 3 (.int .i64 f.a.k)).set 4 (.int .i64 f.a.t)).set 5 (.int .i64 f.a.c)).set 6 (.bool f.a.z)).set 7 (.int .i64 f.a.n)).set 8 (.int .i64 f.b.k)).set 9 (.int .i64 f.b.t)).set 10 (.int .i64 f.b.c)).set 11 (.bool f.b.z)).set 12 (.int .i64 f.b.n)).set 13 (.slice A m kk))
        have k0 := LF.cell (i := 0) rfl
        have k1 := LF.cell (i := 1) rfl
        have k2 := LF.cell (i := 2) rfl
        have k3 := LF.cell (i := 3) rfl
        have k4 := LF.cell (i := 4) rfl
        have k5 := LF.cell (i := 5) rfl
        have k6 := LF.cell (i := 6) rfl
        have k7 := LF.cell (i := 7) rfl
        have k8 := LF.cell (i := 8) rfl
        have k9 := LF.cell (i := 9) rfl
        have k10 := LF.cell (i := 10) rfl
        have k11 := LF.cell (i := 11) rfl
        have k12 := LF.cell (i := 12) rfl
        have k13 := LF.cell (i := 13) rfl
        have HF := Lib.hid ((((((((((((((h6.other hgt 0 (.int .i64 f.k)).other hgt 1 (.int .i64 f.u)).other hgt 2 (.int .i64 f.o)).other hgt 3 (.int .i64 f.a.k)).other hgt 4 (.int .i64 f.a.t)).other hgt 5 (.int .i64 f.a.c)).other hgt 6 (.bool f.a.z)).other hgt 7 (.int .i64 f.a.n)).other hgt 8 (.int .i64 f.b.k)).other hgt 9 (.int .i64 f.b.t)).other hgt 10 (.int .i64 f.b.c)).other hgt 11 (.bool f.b.z)).other hgt 12 (.int .i64 f.b.n)).other hgt 13 (.slice A m kk))
        have HGF := Lib.hid ((((((((((((((hgw6.other (g := w.heap.size) (Nat.le_refl _) 0 (.int .i64 f.k)).other (g := w.heap.size) (Nat.le_refl _) 1 (.int .i64 f.u)).other (g := w.heap.size) (Nat.le_refl _) 2 (.int .i64 f.o)).other (g := w.heap.size) (Nat.le_refl _) 3 (.int .i64 f.a.k)).other (g := w.heap.size) (Nat.le_refl _) 4 (.int .i64 f.a.t)).other (g := w.heap.size) (Nat.le_refl _) 5 (.int .i64 f.a.c)).other (g := w.heap.size) (Nat.le_refl _) 6 (.bool f.a.z)).other (g := w.heap.size) (Nat.le_refl _) 7 (.int .i64 f.a.n)).other (g := w.heap.size) (Nat.le_refl _) 8 (.int .i64 f.b.k)).other (g := w.heap.size) (Nat.le_refl _) 9 (.int .i64 f.b.t)).other (g := w.heap.size) (Nat.le_refl _) 10 (.int .i64 f.b.c)).other (g := w.heap.size) (Nat.le_refl _) 11 (.bool f.b.z)).other (g := w.heap.size) (Nat.le_refl _) 12 (.int .i64 f.b.n)).other (g := w.heap.size) (Nat.le_refl _) 13 (.slice A m kk))
        have HIF := Lib.hid (fun h0 => (((((((((((((((hin.out h0).setCell (a := ⟨w.heap.size, 0, none⟩) (Nat.lt_succ_self _) (.int .i64 f.k)).setCell (a := ⟨w.heap.size, 1, none⟩) (Nat.lt_succ_self _) (.int .i64 f.u)).setCell (a := ⟨w.heap.size, 2, none⟩) (Nat.lt_succ_self _) (.int .i64 f.o)).setCell (a := ⟨w.heap.size, 3, none⟩) (Nat.lt_succ_self _) (.int .i64 f.a.k)).setCell (a := ⟨w.heap.size, 4, none⟩) (Nat.lt_succ_self _) (.int .i64 f.a.t)).setCell (a := ⟨w.heap.size, 5, none⟩) (Nat.lt_succ_self _) (.int .i64 f.a.c)).setCell (a := ⟨w.heap.size, 6, none⟩) (Nat.lt_succ_self _) (.bool f.a.z)).setCell (a := ⟨w.heap.size, 7, none⟩) (Nat.lt_succ_self _) (.int .i64 f.a.n)).setCell (a := ⟨w.heap.size, 8, none⟩) (Nat.lt_succ_self _) (.int .i64 f.b.k)).setCell (a := ⟨w.heap.size, 9, none⟩) (Nat.lt_succ_self _) (.int .i64 f.b.t)).setCell (a := ⟨w.heap.size, 10, none⟩) (Nat.lt_succ_self _) (.int .i64 f.b.c)).setCell (a := ⟨w.heap.size, 11, none⟩) (Nat.lt_succ_self _) (.bool f.b.z)).setCell (a := ⟨w.heap.size, 12, none⟩) (Nat.lt_succ_self _) (.int .i64 f.b.n)).setCell (a := ⟨w.heap.size, 13, none⟩) (Nat.lt_succ_self _) (.slice A m kk)))
        clear l6 h6 hgw6 LF hin
        go_wp2_with (fail)
        exact bodyPost_ret (v := .agg #[.int .i64 f.k, .int .i64 f.u, .int .i64 f.o, .int .i64 f.a.k, .int .i64 f.a.t, .int .i64 f.a.c, .bool f.a.z, .int .i64 f.a.n, .int .i64 f.b.k, .int .i64 f.b.t, .int .i64 f.b.c, .bool f.b.z, .int .i64 f.b.n, .slice A m kk]) (by simp [results, Tryz.results72, go_sem, k0, k1, k2, k3, k4, k5, k6, k7, k8, k9, k10, k11, k12, k13]) rfl ⟨f, A, m, kk, ps, i', e', rfl, HS, Lib.hid (fun h0 => (HIF.out h0).low (Nat.le_succ _)), HF.out, HGF.out⟩
    · have eq5 : decide (((2 : Nat) : Int) < 5) = true := by decide
      have wi := way_at2 R
      cases hPq : P2
      · have cp := cP2
        rw [hPq] at cp
        clear cP0 cP1 cP2 cP3 cP4
        go_wp2_with (fail)
        refine (cp _).mono ?_
        rintro E w4 ⟨rfl, hb4⟩
        have hr4 := (hr.alloc (Obj.cells #[.string ⟨[226, 136, 133].toArray⟩, .func (.func 92) #[.pointer (some ⟨R, 0, none⟩)] #[]] 120)).below hb4 (by have := hr.lt; simp; omega)
        have hl4 := (hl.alloc (Obj.cells #[.string ⟨[226, 136, 133].toArray⟩, .func (.func 92) #[.pointer (some ⟨R, 0, none⟩)] #[]] 120)).below hb4 (by have := hl.lt; simp; omega)
        have hg4 := (hg.trans (Gw.of (R := R) (below_new wr (Obj.cells #[.string ⟨[226, 136, 133].toArray⟩, .func (.func 92) #[.pointer (some ⟨R, 0, none⟩)] #[]] 120)))).trans (Gw.of (R := R) hb4)
        clear cp hb4 hr hl hg
        go_wp2_with (fail)
        go_roundw
        case rel => exact ⟨3, by omega, rfl, hr4, hl4, hg4, Lib.hid (by have := hc.out; refine ⟨?_, ?_, ?_, ?_, ?_⟩ <;> (intro h; first | exact hPq | trivial | omega | exact this.1 (by omega) | exact this.2.1 (by omega) | exact this.2.2.1 (by omega) | exact this.2.2.2.1 (by omega) | exact this.2.2.2.2 (by omega)))⟩
        case measure => simp [intOf]
      · rename_i j
        have hPj : Tx.place [8709] V = some j := by rw [← HP.out.2.2.1]; exact hPq
        obtain ⟨rfl, hVa, hlt⟩ := HLive.out [8709] j hPj (by decide)
        have hN0 : Tx.place Tx.truths (Tx.at_ l i) = none := by rw [← hVa, ← HP.out.1]; exact hc.out.1 (by omega)
        have hN1 : Tx.place Tx.signs (Tx.at_ l i) = none := by rw [← hVa, ← HP.out.2.1]; exact hc.out.2.1 (by omega)
        rw [hVa] at hPj
        have HS0 := Lib.hid (Tx.take_2 (k := k) hN0 hN1 hPj)
        have HJ := Lib.hid hPj
        have cp := cP2
        rw [hPq] at cp
        obtain ⟨ow, how⟩ : ∃ ow, ow = Obj.cells #[.string ⟨[226, 136, 133].toArray⟩, .func (.func 92) #[.pointer (some ⟨R, 0, none⟩)] #[]] 120 := ⟨_, rfl⟩
        have ra := hr.alloc ow
        have la := hl.alloc ow
        have ga := hg.trans (Gw.of (R := R) (below_new wr ow))
        have lw : Lies (wr.alloc ow) wr.heap.size 120 [.string ⟨[226, 136, 133].toArray⟩, .func (.func 92) #[.pointer (some ⟨R, 0, none⟩)] #[]] := by rw [how]; exact Lies.new _ _ _
        have hwR : wr.heap.size ≠ R := by have := hr.lt; omega
        have hw := wrap_small (n := i) (by omega)
        have HOW := Lib.hid how
        clear cP0 cP1 cP2 cP3 cP4 hr hl hg how hPq hPj hVa hN0 hN1
        go_wp2_with (fail)
        rw [← HOW.out]
        refine (cp _).mono ?_
        rintro E w4 ⟨rfl, hb4⟩
        have hr4 := ra.below hb4 ra.lt
        have hl4 := la.below hb4 la.lt
        have hg4 := ga.trans (Gw.of (R := R) hb4)
        have lw4 := lw.below hb4 lw.lt
        have x1 := hr4.lies.cell (i := 1) rfl
        have f1 := hr4.lies.free 1
        have h5 := hr4.at_ (i + 1)
        have hl5 := hl4.far (p := ⟨R, 1, none⟩) hgR (.int .i64 ((i + 1 : Nat) : Int))
        have hg5 := hg4.trans (Gw.set (R := R) w4 1 (.int .i64 ((i + 1 : Nat) : Int)))
        have lw5 := lw4.far (p := ⟨R, 1, none⟩) hwR (.int .i64 ((i + 1 : Nat) : Int))
        have ec : ((i + 1 : Nat) : Int) = (i : Int) + 1 := by omega
        rw [ec] at h5 hl5 hg5 lw5
        obtain ⟨w5, hw5⟩ : ∃ w5, w5 = w4.setCell ⟨R, 1, none⟩ (.int .i64 ((i : Int) + 1)) := ⟨_, rfl⟩
        rw [← hw5] at h5 hl5 hg5 lw5
        have z1 := lw5.cell (i := 1) rfl
        have hi1 : i + 1 ≤ l.length := hlt
        have cw := rnull_p_any Hs.out (k + 1) (i + 1) j dp w5 h5 hi1
        have HW5 := Lib.hid hw5
        rw [hw5] at z1
        clear cp hb4 ra la ga lw lw4 lw5 hr4 hl4 hg4 h5 hw5 HOW
        go_wp2_with (fail)
        rw [← HW5.out]
        refine cw.mono ?_
        rintro E w6 ⟨f, A, m, kk, ps, i', e', rfl, hst, hps, h6, hg6⟩
        have l6 := hg6.lies hl5 hgR
        have hgw6 := hg5.trans hg6
        have hsz6 : w.heap.size + 1 ≤ w6.heap.size := l6.lt
        have hsz5 : w.heap.size + 1 ≤ w5.heap.size := hl5.lt
        have HS := Lib.hid (show Tx.Step (Tx.take l (k + 1) i) i 0 (.mk f ps) i' e' by rw [HS0.out]; exact hst.out.down)
        have hin : Hid (e' = 0 → PsIn (w.heap.size + 1) (k + 1) w6 (.slice A m kk) ps) := Lib.hid fun h0 => (hps.out h0).low hsz5
        clear cw x1 f1 z1 hl5 hg5 hg6 hst hps HS0
        have y0 := l6.cell (i := 0) rfl
        have f0 := l6.free 0
        have y1 := l6.cell (i := 1) rfl
        have f1 := l6.free 1
        have y2 := l6.cell (i := 2) rfl
        have f2 := l6.free 2
        have y3 := l6.cell (i := 3) rfl
        have f3 := l6.free 3
        have y4 := l6.cell (i := 4) rfl
        have f4 := l6.free 4
        have y5 := l6.cell (i := 5) rfl
        have f5 := l6.free 5
        have y6 := l6.cell (i := 6) rfl
        have f6 := l6.free 6
        have y7 := l6.cell (i := 7) rfl
        have f7 := l6.free 7
        have y8 := l6.cell (i := 8) rfl
        have f8 := l6.free 8
        have y9 := l6.cell (i := 9) rfl
        have f9 := l6.free 9
        have y10 := l6.cell (i := 10) rfl
        have f10 := l6.free 10
        have y11 := l6.cell (i := 11) rfl
        have f11 := l6.free 11
        have y12 := l6.cell (i := 12) rfl
        have f12 := l6.free 12
        have y13 := l6.cell (i := 13) rfl
        have f13 := l6.free 13
        have LF : Lies _ w.heap.size _ [.int .i64 f.k, .int .i64 f.u, .int .i64 f.o, .int .i64 f.a.k, .int .i64 f.a.t, .int .i64 f.a.c, .bool f.a.z, .int .i64 f.a.n, .int .i64 f.b.k, .int .i64 f.b.t, .int .i64 f.b.c, .bool f.b.z, .int .i64 f.b.n, .slice A m kk] := ((((((((((((((l6.set 0 (.int .i64 f.k)).set 1 (.int .i64 f.u)).set 2 (.int .i64 f.o)).set 3 (.int .i64 f.a.k)).set 4 (.int .i64 f.a.t)).set 5 (.int .i64 f.a.c)).set 6 (.bool f.a.z)).set 7 (.int .i64 f.a.n)).set 8 (.int .i64 f.b.k)).set 9 (.int .i64 f.b.t)).set 10 (.int .i64 f.b.c)).set 11 (.bool f.b.z)).set 12 (.int .i64 f.b.n)).set 13 (.slice A m kk))
        have k0 := LF.cell (i := 0) rfl
        have k1 := LF.cell (i := 1) rfl
        have k2 := LF.cell (i := 2) rfl
        have k3 := LF.cell (i := 3) rfl
        have k4 := LF.cell (i := 4) rfl
        have k5 := LF.cell (i := 5) rfl
        have k6 := LF.cell (i := 6) rfl
        have k7 := LF.cell (i := 7) rfl
        have k8 := LF.cell (i := 8) rfl
        have k9 := LF.cell (i := 9) rfl
        have k10 := LF.cell (i := 10) rfl
        have k11 := LF.cell (i := 11) rfl
        have k12 := LF.cell (i := 12) rfl
        have k13 := LF.cell (i := 13) rfl
        have HF := Lib.hid ((((((((((((((h6.other hgt 0 (.int .i64 f.k)).other hgt 1 (.int .i64 f.u)).other hgt 2 (.int .i64 f.o)).other hgt 3 (.int .i64 f.a.k)).other hgt 4 (.int .i64 f.a.t)).other hgt 5 (.int .i64 f.a.c)).other hgt 6 (.bool f.a.z)).other hgt 7 (.int .i64 f.a.n)).other hgt 8 (.int .i64 f.b.k)).other hgt 9 (.int .i64 f.b.t)).other hgt 10 (.int .i64 f.b.c)).other hgt 11 (.bool f.b.z)).other hgt 12 (.int .i64 f.b.n)).other hgt 13 (.slice A m kk))
        have HGF := Lib.hid ((((((((((((((hgw6.other (g := w.heap.size) (Nat.le_refl _) 0 (.int .i64 f.k)).other (g := w.heap.size) (Nat.le_refl _) 1 (.int .i64 f.u)).other (g := w.heap.size) (Nat.le_refl _) 2 (.int .i64 f.o)).other (g := w.heap.size) (Nat.le_refl _) 3 (.int .i64 f.a.k)).other (g := w.heap.size) (Nat.le_refl _) 4 (.int .i64 f.a.t)).other (g := w.heap.size) (Nat.le_refl _) 5 (.int .i64 f.a.c)).other (g := w.heap.size) (Nat.le_refl _) 6 (.bool f.a.z)).other (g := w.heap.size) (Nat.le_refl _) 7 (.int .i64 f.a.n)).other (g := w.heap.size) (Nat.le_refl _) 8 (.int .i64 f.b.k)).other (g := w.heap.size) (Nat.le_refl _) 9 (.int .i64 f.b.t)).other (g := w.heap.size) (Nat.le_refl _) 10 (.int .i64 f.b.c)).other (g := w.heap.size) (Nat.le_refl _) 11 (.bool f.b.z)).other (g := w.heap.size) (Nat.le_refl _) 12 (.int .i64 f.b.n)).other (g := w.heap.size) (Nat.le_refl _) 13 (.slice A m kk))
        have HIF := Lib.hid (fun h0 => (((((((((((((((hin.out h0).setCell (a := ⟨w.heap.size, 0, none⟩) (Nat.lt_succ_self _) (.int .i64 f.k)).setCell (a := ⟨w.heap.size, 1, none⟩) (Nat.lt_succ_self _) (.int .i64 f.u)).setCell (a := ⟨w.heap.size, 2, none⟩) (Nat.lt_succ_self _) (.int .i64 f.o)).setCell (a := ⟨w.heap.size, 3, none⟩) (Nat.lt_succ_self _) (.int .i64 f.a.k)).setCell (a := ⟨w.heap.size, 4, none⟩) (Nat.lt_succ_self _) (.int .i64 f.a.t)).setCell (a := ⟨w.heap.size, 5, none⟩) (Nat.lt_succ_self _) (.int .i64 f.a.c)).setCell (a := ⟨w.heap.size, 6, none⟩) (Nat.lt_succ_self _) (.bool f.a.z)).setCell (a := ⟨w.heap.size, 7, none⟩) (Nat.lt_succ_self _) (.int .i64 f.a.n)).setCell (a := ⟨w.heap.size, 8, none⟩) (Nat.lt_succ_self _) (.int .i64 f.b.k)).setCell (a := ⟨w.heap.size, 9, none⟩) (Nat.lt_succ_self _) (.int .i64 f.b.t)).setCell (a := ⟨w.heap.size, 10, none⟩) (Nat.lt_succ_self _) (.int .i64 f.b.c)).setCell (a := ⟨w.heap.size, 11, none⟩) (Nat.lt_succ_self _) (.bool f.b.z)).setCell (a := ⟨w.heap.size, 12, none⟩) (Nat.lt_succ_self _) (.int .i64 f.b.n)).setCell (a := ⟨w.heap.size, 13, none⟩) (Nat.lt_succ_self _) (.slice A m kk)))
        clear l6 h6 hgw6 LF hin
        go_wp2_with (fail)
        exact bodyPost_ret (v := .agg #[.int .i64 f.k, .int .i64 f.u, .int .i64 f.o, .int .i64 f.a.k, .int .i64 f.a.t, .int .i64 f.a.c, .bool f.a.z, .int .i64 f.a.n, .int .i64 f.b.k, .int .i64 f.b.t, .int .i64 f.b.c, .bool f.b.z, .int .i64 f.b.n, .slice A m kk]) (by simp [results, Tryz.results72, go_sem, k0, k1, k2, k3, k4, k5, k6, k7, k8, k9, k10, k11, k12, k13]) rfl ⟨f, A, m, kk, ps, i', e', rfl, HS, Lib.hid (fun h0 => (HIF.out h0).low (Nat.le_succ _)), HF.out, HGF.out⟩
    · have eq5 : decide (((3 : Nat) : Int) < 5) = true := by decide
      have wi := way_at3 R
      cases hPq : P3
      · have cp := cP3
        rw [hPq] at cp
        clear cP0 cP1 cP2 cP3 cP4
        go_wp2_with (fail)
        refine (cp _).mono ?_
        rintro E w4 ⟨rfl, hb4⟩
        have hr4 := (hr.alloc (Obj.cells #[.string ⟨[226, 136, 167, 226, 136, 168].toArray⟩, .func (.func 93) #[.pointer (some ⟨R, 0, none⟩)] #[]] 120)).below hb4 (by have := hr.lt; simp; omega)
        have hl4 := (hl.alloc (Obj.cells #[.string ⟨[226, 136, 167, 226, 136, 168].toArray⟩, .func (.func 93) #[.pointer (some ⟨R, 0, none⟩)] #[]] 120)).below hb4 (by have := hl.lt; simp; omega)
        have hg4 := (hg.trans (Gw.of (R := R) (below_new wr (Obj.cells #[.string ⟨[226, 136, 167, 226, 136, 168].toArray⟩, .func (.func 93) #[.pointer (some ⟨R, 0, none⟩)] #[]] 120)))).trans (Gw.of (R := R) hb4)
        clear cp hb4 hr hl hg
        go_wp2_with (fail)
        go_roundw
        case rel => exact ⟨4, by omega, rfl, hr4, hl4, hg4, Lib.hid (by have := hc.out; refine ⟨?_, ?_, ?_, ?_, ?_⟩ <;> (intro h; first | exact hPq | trivial | omega | exact this.1 (by omega) | exact this.2.1 (by omega) | exact this.2.2.1 (by omega) | exact this.2.2.2.1 (by omega) | exact this.2.2.2.2 (by omega)))⟩
        case measure => simp [intOf]
      · rename_i j
        have hPj : Tx.place [8743, 8744] V = some j := by rw [← HP.out.2.2.2.1]; exact hPq
        obtain ⟨rfl, hVa, hlt⟩ := HLive.out [8743, 8744] j hPj (by decide)
        have hN0 : Tx.place Tx.truths (Tx.at_ l i) = none := by rw [← hVa, ← HP.out.1]; exact hc.out.1 (by omega)
        have hN1 : Tx.place Tx.signs (Tx.at_ l i) = none := by rw [← hVa, ← HP.out.2.1]; exact hc.out.2.1 (by omega)
        have hN2 : Tx.place [8709] (Tx.at_ l i) = none := by rw [← hVa, ← HP.out.2.2.1]; exact hc.out.2.2.1 (by omega)
        rw [hVa] at hPj
        have HS0 := Lib.hid (Tx.take_3 (k := k) hN0 hN1 hN2 hPj)
        have HJ := Lib.hid hPj
        have cp := cP3
        rw [hPq] at cp
        obtain ⟨ow, how⟩ : ∃ ow, ow = Obj.cells #[.string ⟨[226, 136, 167, 226, 136, 168].toArray⟩, .func (.func 93) #[.pointer (some ⟨R, 0, none⟩)] #[]] 120 := ⟨_, rfl⟩
        have ra := hr.alloc ow
        have la := hl.alloc ow
        have ga := hg.trans (Gw.of (R := R) (below_new wr ow))
        have lw : Lies (wr.alloc ow) wr.heap.size 120 [.string ⟨[226, 136, 167, 226, 136, 168].toArray⟩, .func (.func 93) #[.pointer (some ⟨R, 0, none⟩)] #[]] := by rw [how]; exact Lies.new _ _ _
        have hwR : wr.heap.size ≠ R := by have := hr.lt; omega
        have hw := wrap_small (n := i) (by omega)
        have HOW := Lib.hid how
        clear cP0 cP1 cP2 cP3 cP4 hr hl hg how hPq hPj hVa hN0 hN1 hN2
        go_wp2_with (fail)
        rw [← HOW.out]
        refine (cp _).mono ?_
        rintro E w4 ⟨rfl, hb4⟩
        have hr4 := ra.below hb4 ra.lt
        have hl4 := la.below hb4 la.lt
        have hg4 := ga.trans (Gw.of (R := R) hb4)
        have lw4 := lw.below hb4 lw.lt
        have x1 := hr4.lies.cell (i := 1) rfl
        have f1 := hr4.lies.free 1
        have h5 := hr4.at_ (i + 1)
        have hl5 := hl4.far (p := ⟨R, 1, none⟩) hgR (.int .i64 ((i + 1 : Nat) : Int))
        have hg5 := hg4.trans (Gw.set (R := R) w4 1 (.int .i64 ((i + 1 : Nat) : Int)))
        have lw5 := lw4.far (p := ⟨R, 1, none⟩) hwR (.int .i64 ((i + 1 : Nat) : Int))
        have ec : ((i + 1 : Nat) : Int) = (i : Int) + 1 := by omega
        rw [ec] at h5 hl5 hg5 lw5
        obtain ⟨w5, hw5⟩ : ∃ w5, w5 = w4.setCell ⟨R, 1, none⟩ (.int .i64 ((i : Int) + 1)) := ⟨_, rfl⟩
        rw [← hw5] at h5 hl5 hg5 lw5
        have z1 := lw5.cell (i := 1) rfl
        have hi1 : i + 1 ≤ l.length := hlt
        have cw := rlist_p_any Hs.out k hk IH.out (i + 1) j (Tx.some_two HJ.out).1 dp HD.out w5 h5 hi1
        have HW5 := Lib.hid hw5
        rw [hw5] at z1
        clear cp hb4 ra la ga lw lw4 lw5 hr4 hl4 hg4 h5 hw5 HOW
        go_wp2_with (fail)
        rw [← HW5.out]
        refine cw.mono ?_
        rintro E w6 ⟨f, A, m, kk, ps, i', e', rfl, hst, hps, h6, hg6⟩
        have l6 := hg6.lies hl5 hgR
        have hgw6 := hg5.trans hg6
        have hsz6 : w.heap.size + 1 ≤ w6.heap.size := l6.lt
        have hsz5 : w.heap.size + 1 ≤ w5.heap.size := hl5.lt
        have HS := Lib.hid (show Tx.Step (Tx.take l (k + 1) i) i 0 (.mk f ps) i' e' by rw [HS0.out]; exact hst.out.down)
        have hin : Hid (e' = 0 → PsIn (w.heap.size + 1) (k + 1) w6 (.slice A m kk) ps) := Lib.hid fun h0 => (hps.out h0).low hsz5
        clear cw x1 f1 z1 hl5 hg5 hg6 hst hps HS0
        have y0 := l6.cell (i := 0) rfl
        have f0 := l6.free 0
        have y1 := l6.cell (i := 1) rfl
        have f1 := l6.free 1
        have y2 := l6.cell (i := 2) rfl
        have f2 := l6.free 2
        have y3 := l6.cell (i := 3) rfl
        have f3 := l6.free 3
        have y4 := l6.cell (i := 4) rfl
        have f4 := l6.free 4
        have y5 := l6.cell (i := 5) rfl
        have f5 := l6.free 5
        have y6 := l6.cell (i := 6) rfl
        have f6 := l6.free 6
        have y7 := l6.cell (i := 7) rfl
        have f7 := l6.free 7
        have y8 := l6.cell (i := 8) rfl
        have f8 := l6.free 8
        have y9 := l6.cell (i := 9) rfl
        have f9 := l6.free 9
        have y10 := l6.cell (i := 10) rfl
        have f10 := l6.free 10
        have y11 := l6.cell (i := 11) rfl
        have f11 := l6.free 11
        have y12 := l6.cell (i := 12) rfl
        have f12 := l6.free 12
        have y13 := l6.cell (i := 13) rfl
        have f13 := l6.free 13
        have LF : Lies _ w.heap.size _ [.int .i64 f.k, .int .i64 f.u, .int .i64 f.o, .int .i64 f.a.k, .int .i64 f.a.t, .int .i64 f.a.c, .bool f.a.z, .int .i64 f.a.n, .int .i64 f.b.k, .int .i64 f.b.t, .int .i64 f.b.c, .bool f.b.z, .int .i64 f.b.n, .slice A m kk] := ((((((((((((((l6.set 0 (.int .i64 f.k)).set 1 (.int .i64 f.u)).set 2 (.int .i64 f.o)).set 3 (.int .i64 f.a.k)).set 4 (.int .i64 f.a.t)).set 5 (.int .i64 f.a.c)).set 6 (.bool f.a.z)).set 7 (.int .i64 f.a.n)).set 8 (.int .i64 f.b.k)).set 9 (.int .i64 f.b.t)).set 10 (.int .i64 f.b.c)).set 11 (.bool f.b.z)).set 12 (.int .i64 f.b.n)).set 13 (.slice A m kk))
        have k0 := LF.cell (i := 0) rfl
        have k1 := LF.cell (i := 1) rfl
        have k2 := LF.cell (i := 2) rfl
        have k3 := LF.cell (i := 3) rfl
        have k4 := LF.cell (i := 4) rfl
        have k5 := LF.cell (i := 5) rfl
        have k6 := LF.cell (i := 6) rfl
        have k7 := LF.cell (i := 7) rfl
        have k8 := LF.cell (i := 8) rfl
        have k9 := LF.cell (i := 9) rfl
        have k10 := LF.cell (i := 10) rfl
        have k11 := LF.cell (i := 11) rfl
        have k12 := LF.cell (i := 12) rfl
        have k13 := LF.cell (i := 13) rfl
        have HF := Lib.hid ((((((((((((((h6.other hgt 0 (.int .i64 f.k)).other hgt 1 (.int .i64 f.u)).other hgt 2 (.int .i64 f.o)).other hgt 3 (.int .i64 f.a.k)).other hgt 4 (.int .i64 f.a.t)).other hgt 5 (.int .i64 f.a.c)).other hgt 6 (.bool f.a.z)).other hgt 7 (.int .i64 f.a.n)).other hgt 8 (.int .i64 f.b.k)).other hgt 9 (.int .i64 f.b.t)).other hgt 10 (.int .i64 f.b.c)).other hgt 11 (.bool f.b.z)).other hgt 12 (.int .i64 f.b.n)).other hgt 13 (.slice A m kk))
        have HGF := Lib.hid ((((((((((((((hgw6.other (g := w.heap.size) (Nat.le_refl _) 0 (.int .i64 f.k)).other (g := w.heap.size) (Nat.le_refl _) 1 (.int .i64 f.u)).other (g := w.heap.size) (Nat.le_refl _) 2 (.int .i64 f.o)).other (g := w.heap.size) (Nat.le_refl _) 3 (.int .i64 f.a.k)).other (g := w.heap.size) (Nat.le_refl _) 4 (.int .i64 f.a.t)).other (g := w.heap.size) (Nat.le_refl _) 5 (.int .i64 f.a.c)).other (g := w.heap.size) (Nat.le_refl _) 6 (.bool f.a.z)).other (g := w.heap.size) (Nat.le_refl _) 7 (.int .i64 f.a.n)).other (g := w.heap.size) (Nat.le_refl _) 8 (.int .i64 f.b.k)).other (g := w.heap.size) (Nat.le_refl _) 9 (.int .i64 f.b.t)).other (g := w.heap.size) (Nat.le_refl _) 10 (.int .i64 f.b.c)).other (g := w.heap.size) (Nat.le_refl _) 11 (.bool f.b.z)).other (g := w.heap.size) (Nat.le_refl _) 12 (.int .i64 f.b.n)).other (g := w.heap.size) (Nat.le_refl _) 13 (.slice A m kk))
        have HIF := Lib.hid (fun h0 => (((((((((((((((hin.out h0).setCell (a := ⟨w.heap.size, 0, none⟩) (Nat.lt_succ_self _) (.int .i64 f.k)).setCell (a := ⟨w.heap.size, 1, none⟩) (Nat.lt_succ_self _) (.int .i64 f.u)).setCell (a := ⟨w.heap.size, 2, none⟩) (Nat.lt_succ_self _) (.int .i64 f.o)).setCell (a := ⟨w.heap.size, 3, none⟩) (Nat.lt_succ_self _) (.int .i64 f.a.k)).setCell (a := ⟨w.heap.size, 4, none⟩) (Nat.lt_succ_self _) (.int .i64 f.a.t)).setCell (a := ⟨w.heap.size, 5, none⟩) (Nat.lt_succ_self _) (.int .i64 f.a.c)).setCell (a := ⟨w.heap.size, 6, none⟩) (Nat.lt_succ_self _) (.bool f.a.z)).setCell (a := ⟨w.heap.size, 7, none⟩) (Nat.lt_succ_self _) (.int .i64 f.a.n)).setCell (a := ⟨w.heap.size, 8, none⟩) (Nat.lt_succ_self _) (.int .i64 f.b.k)).setCell (a := ⟨w.heap.size, 9, none⟩) (Nat.lt_succ_self _) (.int .i64 f.b.t)).setCell (a := ⟨w.heap.size, 10, none⟩) (Nat.lt_succ_self _) (.int .i64 f.b.c)).setCell (a := ⟨w.heap.size, 11, none⟩) (Nat.lt_succ_self _) (.bool f.b.z)).setCell (a := ⟨w.heap.size, 12, none⟩) (Nat.lt_succ_self _) (.int .i64 f.b.n)).setCell (a := ⟨w.heap.size, 13, none⟩) (Nat.lt_succ_self _) (.slice A m kk)))
        clear l6 h6 hgw6 LF hin
        go_wp2_with (fail)
        exact bodyPost_ret (v := .agg #[.int .i64 f.k, .int .i64 f.u, .int .i64 f.o, .int .i64 f.a.k, .int .i64 f.a.t, .int .i64 f.a.c, .bool f.a.z, .int .i64 f.a.n, .int .i64 f.b.k, .int .i64 f.b.t, .int .i64 f.b.c, .bool f.b.z, .int .i64 f.b.n, .slice A m kk]) (by simp [results, Tryz.results72, go_sem, k0, k1, k2, k3, k4, k5, k6, k7, k8, k9, k10, k11, k12, k13]) rfl ⟨f, A, m, kk, ps, i', e', rfl, HS, Lib.hid (fun h0 => (HIF.out h0).low (Nat.le_succ _)), HF.out, HGF.out⟩
    · have eq5 : decide (((4 : Nat) : Int) < 5) = true := by decide
      have wi := way_at4 R
      cases hPq : P4
      · have cp := cP4
        rw [hPq] at cp
        clear cP0 cP1 cP2 cP3 cP4
        go_wp2_with (fail)
        refine (cp _).mono ?_
        rintro E w4 ⟨rfl, hb4⟩
        have hr4 := (hr.alloc (Obj.cells #[.string ⟨[194, 172].toArray⟩, .func (.func 94) #[.pointer (some ⟨R, 0, none⟩)] #[]] 120)).below hb4 (by have := hr.lt; simp; omega)
        have hl4 := (hl.alloc (Obj.cells #[.string ⟨[194, 172].toArray⟩, .func (.func 94) #[.pointer (some ⟨R, 0, none⟩)] #[]] 120)).below hb4 (by have := hl.lt; simp; omega)
        have hg4 := (hg.trans (Gw.of (R := R) (below_new wr (Obj.cells #[.string ⟨[194, 172].toArray⟩, .func (.func 94) #[.pointer (some ⟨R, 0, none⟩)] #[]] 120)))).trans (Gw.of (R := R) hb4)
        clear cp hb4 hr hl hg
        go_wp2_with (fail)
        go_roundw
        case rel => exact ⟨5, by omega, rfl, hr4, hl4, hg4, Lib.hid (by have := hc.out; refine ⟨?_, ?_, ?_, ?_, ?_⟩ <;> (intro h; first | exact hPq | trivial | omega | exact this.1 (by omega) | exact this.2.1 (by omega) | exact this.2.2.1 (by omega) | exact this.2.2.2.1 (by omega) | exact this.2.2.2.2 (by omega)))⟩
        case measure => simp [intOf]
      · rename_i j
        have hPj : Tx.place [172] V = some j := by rw [← HP.out.2.2.2.2]; exact hPq
        obtain ⟨rfl, hVa, hlt⟩ := HLive.out [172] j hPj (by decide)
        have hN0 : Tx.place Tx.truths (Tx.at_ l i) = none := by rw [← hVa, ← HP.out.1]; exact hc.out.1 (by omega)
        have hN1 : Tx.place Tx.signs (Tx.at_ l i) = none := by rw [← hVa, ← HP.out.2.1]; exact hc.out.2.1 (by omega)
        have hN2 : Tx.place [8709] (Tx.at_ l i) = none := by rw [← hVa, ← HP.out.2.2.1]; exact hc.out.2.2.1 (by omega)
        have hN3 : Tx.place [8743, 8744] (Tx.at_ l i) = none := by rw [← hVa, ← HP.out.2.2.2.1]; exact hc.out.2.2.2.1 (by omega)
        rw [hVa] at hPj
        have HS0 := Lib.hid (Tx.take_4 (k := k) hN0 hN1 hN2 hN3 hPj)
        have HJ := Lib.hid hPj
        have cp := cP4
        rw [hPq] at cp
        obtain ⟨ow, how⟩ : ∃ ow, ow = Obj.cells #[.string ⟨[194, 172].toArray⟩, .func (.func 94) #[.pointer (some ⟨R, 0, none⟩)] #[]] 120 := ⟨_, rfl⟩
        have ra := hr.alloc ow
        have la := hl.alloc ow
        have ga := hg.trans (Gw.of (R := R) (below_new wr ow))
        have lw : Lies (wr.alloc ow) wr.heap.size 120 [.string ⟨[194, 172].toArray⟩, .func (.func 94) #[.pointer (some ⟨R, 0, none⟩)] #[]] := by rw [how]; exact Lies.new _ _ _
        have hwR : wr.heap.size ≠ R := by have := hr.lt; omega
        have hw := wrap_small (n := i) (by omega)
        have HOW := Lib.hid how
        clear cP0 cP1 cP2 cP3 cP4 hr hl hg how hPq hPj hVa hN0 hN1 hN2 hN3
        go_wp2_with (fail)
        rw [← HOW.out]
        refine (cp _).mono ?_
        rintro E w4 ⟨rfl, hb4⟩
        have hr4 := ra.below hb4 ra.lt
        have hl4 := la.below hb4 la.lt
        have hg4 := ga.trans (Gw.of (R := R) hb4)
        have lw4 := lw.below hb4 lw.lt
        have x1 := hr4.lies.cell (i := 1) rfl
        have f1 := hr4.lies.free 1
        have h5 := hr4.at_ (i + 1)
        have hl5 := hl4.far (p := ⟨R, 1, none⟩) hgR (.int .i64 ((i + 1 : Nat) : Int))
        have hg5 := hg4.trans (Gw.set (R := R) w4 1 (.int .i64 ((i + 1 : Nat) : Int)))
        have lw5 := lw4.far (p := ⟨R, 1, none⟩) hwR (.int .i64 ((i + 1 : Nat) : Int))
        have ec : ((i + 1 : Nat) : Int) = (i : Int) + 1 := by omega
        rw [ec] at h5 hl5 hg5 lw5
        obtain ⟨w5, hw5⟩ : ∃ w5, w5 = w4.setCell ⟨R, 1, none⟩ (.int .i64 ((i : Int) + 1)) := ⟨_, rfl⟩
        rw [← hw5] at h5 hl5 hg5 lw5
        have z1 := lw5.cell (i := 1) rfl
        have hi1 : i + 1 ≤ l.length := hlt
        have cw := rnot_any k hk IH.out (i + 1) j dp HD.out w5 h5 hi1
        have HW5 := Lib.hid hw5
        rw [hw5] at z1
        clear cp hb4 ra la ga lw lw4 lw5 hr4 hl4 hg4 h5 hw5 HOW
        go_wp2_with (fail)
        rw [← HW5.out]
        refine cw.mono ?_
        rintro E w6 ⟨f, A, m, kk, ps, i', e', rfl, hst, hps, h6, hg6⟩
        have l6 := hg6.lies hl5 hgR
        have hgw6 := hg5.trans hg6
        have hsz6 : w.heap.size + 1 ≤ w6.heap.size := l6.lt
        have hsz5 : w.heap.size + 1 ≤ w5.heap.size := hl5.lt
        have HS := Lib.hid (show Tx.Step (Tx.take l (k + 1) i) i 0 (.mk f ps) i' e' by rw [HS0.out]; exact hst.out.down)
        have hin : Hid (e' = 0 → PsIn (w.heap.size + 1) (k + 1) w6 (.slice A m kk) ps) := Lib.hid fun h0 => (hps.out h0).low hsz5
        clear cw x1 f1 z1 hl5 hg5 hg6 hst hps HS0
        have y0 := l6.cell (i := 0) rfl
        have f0 := l6.free 0
        have y1 := l6.cell (i := 1) rfl
        have f1 := l6.free 1
        have y2 := l6.cell (i := 2) rfl
        have f2 := l6.free 2
        have y3 := l6.cell (i := 3) rfl
        have f3 := l6.free 3
        have y4 := l6.cell (i := 4) rfl
        have f4 := l6.free 4
        have y5 := l6.cell (i := 5) rfl
        have f5 := l6.free 5
        have y6 := l6.cell (i := 6) rfl
        have f6 := l6.free 6
        have y7 := l6.cell (i := 7) rfl
        have f7 := l6.free 7
        have y8 := l6.cell (i := 8) rfl
        have f8 := l6.free 8
        have y9 := l6.cell (i := 9) rfl
        have f9 := l6.free 9
        have y10 := l6.cell (i := 10) rfl
        have f10 := l6.free 10
        have y11 := l6.cell (i := 11) rfl
        have f11 := l6.free 11
        have y12 := l6.cell (i := 12) rfl
        have f12 := l6.free 12
        have y13 := l6.cell (i := 13) rfl
        have f13 := l6.free 13
        have LF : Lies _ w.heap.size _ [.int .i64 f.k, .int .i64 f.u, .int .i64 f.o, .int .i64 f.a.k, .int .i64 f.a.t, .int .i64 f.a.c, .bool f.a.z, .int .i64 f.a.n, .int .i64 f.b.k, .int .i64 f.b.t, .int .i64 f.b.c, .bool f.b.z, .int .i64 f.b.n, .slice A m kk] := ((((((((((((((l6.set 0 (.int .i64 f.k)).set 1 (.int .i64 f.u)).set 2 (.int .i64 f.o)).set 3 (.int .i64 f.a.k)).set 4 (.int .i64 f.a.t)).set 5 (.int .i64 f.a.c)).set 6 (.bool f.a.z)).set 7 (.int .i64 f.a.n)).set 8 (.int .i64 f.b.k)).set 9 (.int .i64 f.b.t)).set 10 (.int .i64 f.b.c)).set 11 (.bool f.b.z)).set 12 (.int .i64 f.b.n)).set 13 (.slice A m kk))
        have k0 := LF.cell (i := 0) rfl
        have k1 := LF.cell (i := 1) rfl
        have k2 := LF.cell (i := 2) rfl
        have k3 := LF.cell (i := 3) rfl
        have k4 := LF.cell (i := 4) rfl
        have k5 := LF.cell (i := 5) rfl
        have k6 := LF.cell (i := 6) rfl
        have k7 := LF.cell (i := 7) rfl
        have k8 := LF.cell (i := 8) rfl
        have k9 := LF.cell (i := 9) rfl
        have k10 := LF.cell (i := 10) rfl
        have k11 := LF.cell (i := 11) rfl
        have k12 := LF.cell (i := 12) rfl
        have k13 := LF.cell (i := 13) rfl
        have HF := Lib.hid ((((((((((((((h6.other hgt 0 (.int .i64 f.k)).other hgt 1 (.int .i64 f.u)).other hgt 2 (.int .i64 f.o)).other hgt 3 (.int .i64 f.a.k)).other hgt 4 (.int .i64 f.a.t)).other hgt 5 (.int .i64 f.a.c)).other hgt 6 (.bool f.a.z)).other hgt 7 (.int .i64 f.a.n)).other hgt 8 (.int .i64 f.b.k)).other hgt 9 (.int .i64 f.b.t)).other hgt 10 (.int .i64 f.b.c)).other hgt 11 (.bool f.b.z)).other hgt 12 (.int .i64 f.b.n)).other hgt 13 (.slice A m kk))
        have HGF := Lib.hid ((((((((((((((hgw6.other (g := w.heap.size) (Nat.le_refl _) 0 (.int .i64 f.k)).other (g := w.heap.size) (Nat.le_refl _) 1 (.int .i64 f.u)).other (g := w.heap.size) (Nat.le_refl _) 2 (.int .i64 f.o)).other (g := w.heap.size) (Nat.le_refl _) 3 (.int .i64 f.a.k)).other (g := w.heap.size) (Nat.le_refl _) 4 (.int .i64 f.a.t)).other (g := w.heap.size) (Nat.le_refl _) 5 (.int .i64 f.a.c)).other (g := w.heap.size) (Nat.le_refl _) 6 (.bool f.a.z)).other (g := w.heap.size) (Nat.le_refl _) 7 (.int .i64 f.a.n)).other (g := w.heap.size) (Nat.le_refl _) 8 (.int .i64 f.b.k)).other (g := w.heap.size) (Nat.le_refl _) 9 (.int .i64 f.b.t)).other (g := w.heap.size) (Nat.le_refl _) 10 (.int .i64 f.b.c)).other (g := w.heap.size) (Nat.le_refl _) 11 (.bool f.b.z)).other (g := w.heap.size) (Nat.le_refl _) 12 (.int .i64 f.b.n)).other (g := w.heap.size) (Nat.le_refl _) 13 (.slice A m kk))
        have HIF := Lib.hid (fun h0 => (((((((((((((((hin.out h0).setCell (a := ⟨w.heap.size, 0, none⟩) (Nat.lt_succ_self _) (.int .i64 f.k)).setCell (a := ⟨w.heap.size, 1, none⟩) (Nat.lt_succ_self _) (.int .i64 f.u)).setCell (a := ⟨w.heap.size, 2, none⟩) (Nat.lt_succ_self _) (.int .i64 f.o)).setCell (a := ⟨w.heap.size, 3, none⟩) (Nat.lt_succ_self _) (.int .i64 f.a.k)).setCell (a := ⟨w.heap.size, 4, none⟩) (Nat.lt_succ_self _) (.int .i64 f.a.t)).setCell (a := ⟨w.heap.size, 5, none⟩) (Nat.lt_succ_self _) (.int .i64 f.a.c)).setCell (a := ⟨w.heap.size, 6, none⟩) (Nat.lt_succ_self _) (.bool f.a.z)).setCell (a := ⟨w.heap.size, 7, none⟩) (Nat.lt_succ_self _) (.int .i64 f.a.n)).setCell (a := ⟨w.heap.size, 8, none⟩) (Nat.lt_succ_self _) (.int .i64 f.b.k)).setCell (a := ⟨w.heap.size, 9, none⟩) (Nat.lt_succ_self _) (.int .i64 f.b.t)).setCell (a := ⟨w.heap.size, 10, none⟩) (Nat.lt_succ_self _) (.int .i64 f.b.c)).setCell (a := ⟨w.heap.size, 11, none⟩) (Nat.lt_succ_self _) (.bool f.b.z)).setCell (a := ⟨w.heap.size, 12, none⟩) (Nat.lt_succ_self _) (.int .i64 f.b.n)).setCell (a := ⟨w.heap.size, 13, none⟩) (Nat.lt_succ_self _) (.slice A m kk)))
        clear l6 h6 hgw6 LF hin
        go_wp2_with (fail)
        exact bodyPost_ret (v := .agg #[.int .i64 f.k, .int .i64 f.u, .int .i64 f.o, .int .i64 f.a.k, .int .i64 f.a.t, .int .i64 f.a.c, .bool f.a.z, .int .i64 f.a.n, .int .i64 f.b.k, .int .i64 f.b.t, .int .i64 f.b.c, .bool f.b.z, .int .i64 f.b.n, .slice A m kk]) (by simp [results, Tryz.results72, go_sem, k0, k1, k2, k3, k4, k5, k6, k7, k8, k9, k10, k11, k12, k13]) rfl ⟨f, A, m, kk, ps, i', e', rfl, HS, Lib.hid (fun h0 => (HIF.out h0).low (Nat.le_succ _)), HF.out, HGF.out⟩
    · have eq5 : decide (((5 : Nat) : Int) < 5) = false := by decide
      obtain ⟨i', e', hf⟩ : ∃ i' e', (i', e') = failS i e i 1 := ⟨_, _, rfl⟩
      have HS : Hid (Tx.Step (Tx.take l (k + 1) i) i e (Pd.mk ⟨0, 0, 0, Tx.zt, Tx.zt⟩ []) i' e') := Lib.hid (by
        unfold failS at hf
        by_cases he : e = 0
        · rw [if_pos he] at hf
          obtain ⟨rfl, rfl⟩ := pair_eq hf
          have hVa : V = Tx.at_ l i' := by rw [HV.out, nextS, if_pos he]
          obtain ⟨p0, p1, p2, p3, p4⟩ := HP.out
          obtain ⟨c0, c1, c2, c3, c4⟩ := hc.out
          rw [hVa] at p0 p1 p2 p3 p4
          have ht := Tx.take_5 (k := k) (p0.symm.trans (c0 (by omega))) (p1.symm.trans (c1 (by omega))) (p2.symm.trans (c2 (by omega))) (p3.symm.trans (c3 (by omega))) (p4.symm.trans (c4 (by omega)))
          rw [ht]
          exact ⟨fun h => absurd he h, fun _ => ⟨rfl, rfl, fun _ => rfl⟩⟩
        · rw [if_neg he] at hf
          obtain ⟨rfl, rfl⟩ := pair_eq hf
          exact ⟨fun _ => ⟨rfl, rfl⟩, fun h => absurd h he⟩)
      have cf := rfail_any i e i 1 wr hr i' e' hf
      have x1 := hr.lies.cell (i := 1) rfl
      have HL := Lib.hid hl
      have HG := Lib.hid hg
      clear cP0 cP1 cP2 cP3 cP4 hf hr hl hg
      go_wp2_with (fail)
      refine cf.mono ?_
      rintro E w6 ⟨rfl, h6, hg6⟩
      have l6 := hg6.lies HL.out hgR
      have hgw6 := HG.out.trans hg6
      clear cf x1 hg6
      have y0 := l6.cell (i := 0) rfl
      have f0 := l6.free 0
      have y1 := l6.cell (i := 1) rfl
      have f1 := l6.free 1
      have y2 := l6.cell (i := 2) rfl
      have f2 := l6.free 2
      have y3 := l6.cell (i := 3) rfl
      have f3 := l6.free 3
      have y4 := l6.cell (i := 4) rfl
      have f4 := l6.free 4
      have y5 := l6.cell (i := 5) rfl
      have f5 := l6.free 5
      have y6 := l6.cell (i := 6) rfl
      have f6 := l6.free 6
      have y7 := l6.cell (i := 7) rfl
      have f7 := l6.free 7
      have y8 := l6.cell (i := 8) rfl
      have f8 := l6.free 8
      have y9 := l6.cell (i := 9) rfl
      have f9 := l6.free 9
      have y10 := l6.cell (i := 10) rfl
      have f10 := l6.free 10
      have y11 := l6.cell (i := 11) rfl
      have f11 := l6.free 11
      have y12 := l6.cell (i := 12) rfl
      have f12 := l6.free 12
      have y13 := l6.cell (i := 13) rfl
      have f13 := l6.free 13
      have LF : Lies _ w.heap.size _ [.int .i64 0, .int .i64 0, .int .i64 0, .int .i64 0, .int .i64 0, .int .i64 0, .bool false, .int .i64 0, .int .i64 0, .int .i64 0, .int .i64 0, .bool false, .int .i64 0, .slice none 0 0] := ((((((((((((((l6.set 0 (.int .i64 0)).set 1 (.int .i64 0)).set 2 (.int .i64 0)).set 3 (.int .i64 0)).set 4 (.int .i64 0)).set 5 (.int .i64 0)).set 6 (.bool false)).set 7 (.int .i64 0)).set 8 (.int .i64 0)).set 9 (.int .i64 0)).set 10 (.int .i64 0)).set 11 (.bool false)).set 12 (.int .i64 0)).set 13 (.slice none 0 0))
      have k0 := LF.cell (i := 0) rfl
      have k1 := LF.cell (i := 1) rfl
      have k2 := LF.cell (i := 2) rfl
      have k3 := LF.cell (i := 3) rfl
      have k4 := LF.cell (i := 4) rfl
      have k5 := LF.cell (i := 5) rfl
      have k6 := LF.cell (i := 6) rfl
      have k7 := LF.cell (i := 7) rfl
      have k8 := LF.cell (i := 8) rfl
      have k9 := LF.cell (i := 9) rfl
      have k10 := LF.cell (i := 10) rfl
      have k11 := LF.cell (i := 11) rfl
      have k12 := LF.cell (i := 12) rfl
      have k13 := LF.cell (i := 13) rfl
      have HF := Lib.hid ((((((((((((((h6.other hgt 0 (.int .i64 0)).other hgt 1 (.int .i64 0)).other hgt 2 (.int .i64 0)).other hgt 3 (.int .i64 0)).other hgt 4 (.int .i64 0)).other hgt 5 (.int .i64 0)).other hgt 6 (.bool false)).other hgt 7 (.int .i64 0)).other hgt 8 (.int .i64 0)).other hgt 9 (.int .i64 0)).other hgt 10 (.int .i64 0)).other hgt 11 (.bool false)).other hgt 12 (.int .i64 0)).other hgt 13 (.slice none 0 0))
      have HGF := Lib.hid ((((((((((((((hgw6.other (g := w.heap.size) (Nat.le_refl _) 0 (.int .i64 0)).other (g := w.heap.size) (Nat.le_refl _) 1 (.int .i64 0)).other (g := w.heap.size) (Nat.le_refl _) 2 (.int .i64 0)).other (g := w.heap.size) (Nat.le_refl _) 3 (.int .i64 0)).other (g := w.heap.size) (Nat.le_refl _) 4 (.int .i64 0)).other (g := w.heap.size) (Nat.le_refl _) 5 (.int .i64 0)).other (g := w.heap.size) (Nat.le_refl _) 6 (.bool false)).other (g := w.heap.size) (Nat.le_refl _) 7 (.int .i64 0)).other (g := w.heap.size) (Nat.le_refl _) 8 (.int .i64 0)).other (g := w.heap.size) (Nat.le_refl _) 9 (.int .i64 0)).other (g := w.heap.size) (Nat.le_refl _) 10 (.int .i64 0)).other (g := w.heap.size) (Nat.le_refl _) 11 (.bool false)).other (g := w.heap.size) (Nat.le_refl _) 12 (.int .i64 0)).other (g := w.heap.size) (Nat.le_refl _) 13 (.slice none 0 0))
      clear l6 h6 hgw6 LF
      go_wp2_with (fail)
      exact bodyPost_ret (v := .agg #[.int .i64 0, .int .i64 0, .int .i64 0, .int .i64 0, .int .i64 0, .int .i64 0, .bool false, .int .i64 0, .int .i64 0, .int .i64 0, .int .i64 0, .bool false, .int .i64 0, .slice none 0 0]) (by simp [results, Tryz.results72, go_sem, k0, k1, k2, k3, k4, k5, k6, k7, k8, k9, k10, k11, k12, k13]) rfl ⟨⟨0, 0, 0, Tx.zt, Tx.zt⟩, none, 0, 0, [], i', e', rfl, HS, Lib.hid (fun _ => PsIn.nil _ _ _), HF.out, HGF.out⟩
end Go.Proofs.YteimbdklakemaaaGreatDoor
