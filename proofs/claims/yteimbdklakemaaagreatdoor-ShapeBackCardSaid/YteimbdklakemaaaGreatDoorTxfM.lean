/-
  THE READER: its three fields in one block; who asks for the next rune, goes over one, over one that must be there, tells what is wrong.
-/
import Derived.Test.YteimbdklakemaaaGreatDoorTxaM
import Derived.Test.YteimbdklakemaaaGreatDoorValbM
import Derived.Test.YteimbdklakemaaaGreatDoorGOwn
import Derived.BigQuiet
namespace Go.Proofs.YteimbdklakemaaaGreatDoor
open Go.RowKit Go.Sort
set_option maxHeartbeats 800000

/-- the runes that are read: in a block of their own, in the world w0 ahead of the reader's block R -/
structure Src (w0 : World) (R b c : Nat) (l : List Int) : Prop where
  lt : w0.heap.size ≤ R
  blk : b < w0.heap.size
  cap : l.length ≤ c
  capM : c ≤ 9223372036854775807
  cell : ∀ (j : Nat) (u : Int), l[j]? = some u → w0.cell? ⟨b, j, none⟩ = some (.int .i32 u)
  len : l.length ≤ 1000000
  err : ErrR w0
/-- the reader, at the place i, the error e told -/
structure Rd (w0 w : World) (R b c n i : Nat) (e : Int) : Prop where
  lies : Lies w R 112 [.slice (some ⟨b, 0, none⟩) n c, .int .i64 i, .int .i64 e]
  base : Below R w0 w
section
variable {w0 w w' : World} {R b c n i : Nat} {e : Int} {l : List Int}
theorem Rd.lt (h : Rd w0 w R b c n i e) : R < w.heap.size := h.lies.lt
theorem Rd.drewN (h : Rd w0 w R b c n i e) (k : Nat) : Rd w0 (w.drewN k) R b c n i e := ⟨h.lies.drewN k, below_drewN h.base k⟩
theorem Rd.same (h : Rd w0 w R b c n i e) (hs : Same w w') : Rd w0 w' R b c n i e := by obtain ⟨k, rfl⟩ := hs; exact h.drewN k
theorem Rd.below {B : Nat} (h : Rd w0 w R b c n i e) (hb : Below B w w') (hB : R < B) : Rd w0 w' R b c n i e := ⟨h.lies.below hb hB, h.base.trans (below_low hb (Nat.le_of_lt hB))⟩
theorem Rd.alloc (h : Rd w0 w R b c n i e) (o : Obj) : Rd w0 (w.alloc o) R b c n i e := h.below (below_new w o) h.lt
theorem Rd.at_ (h : Rd w0 w R b c n i e) (j : Nat) : Rd w0 (w.setCell ⟨R, 1, none⟩ (.int .i64 j)) R b c n j e := ⟨h.lies.set 1 _, h.base.setCell (Nat.le_refl _) _⟩
theorem Rd.err (h : Rd w0 w R b c n i e) (x : Int) : Rd w0 (w.setCell ⟨R, 2, none⟩ (.int .i64 x)) R b c n i x := ⟨h.lies.set 2 _, h.base.setCell (Nat.le_refl _) _⟩
theorem Rd.rune (h : Rd w0 w R b c n i e) (hs : Src w0 R b c l) {j : Nat} {u : Int} (hj : l[j]? = some u) : w.cell? ⟨b, j, none⟩ = some (.int .i32 u) :=
  (h.base.cell (p := ⟨b, j, none⟩) (Nat.lt_of_lt_of_le hs.blk hs.lt)).trans (hs.cell j u hj)
theorem Rd.errR (h : Rd w0 w R b c n i e) (hs : Src w0 R b c l) : ErrR w := hs.err.below h.base hs.lt
end
/-- only the reader's block is written, of those that were there -/
abbrev Gw (R : Nat) (w w' : World) : Prop := w.grownBy w' (some R)
section
variable {w w' w'' : World} {R : Nat}
theorem Gw.refl (w : World) : Gw R w w := World.grownBy.refl w _
theorem Gw.trans (h : Gw R w w') (k : Gw R w' w'') : Gw R w w'' := World.grownBy.trans h k
theorem Gw.of (h : Below w.heap.size w w') : Gw R w w' := ⟨h.os, h.tape, h.output, h.size, fun k hk _ => h.block k hk⟩
theorem Gw.same (h : Same w w') : Gw R w w' := Gw.of (h.below _)
theorem Gw.set (w : World) (i : Nat) (v : Value) : Gw R w (w.setCell ⟨R, i, none⟩ v) := ⟨rfl, rfl, rfl, by simp [World.setCell], fun k _ hne => Below.heap_setCell _ _ _ _ (by rintro rfl; exact hne rfl)⟩
theorem Gw.below {B : Nat} (h : Gw R w w') (hB : B ≤ R) (hw : B ≤ w.heap.size) : Below B w w' := ⟨h.os, h.tape, h.output, h.size, fun k hk => h.block k (by omega) (by intro e; cases e; omega)⟩
theorem Gw.lies {g : Nat} {t : TypeId} {cs : List Value} (h : Gw R w w') (hl : Lies w g t cs) (hg : g ≠ R) : Lies w' g t cs := (h.block g hl.lt (by intro e; cases e; exact hg rfl)).trans hl
end

/-- the next rune; none is -1, also where an error is told -/
def nextS (l : List Int) (i : Nat) (e : Int) : Int := if e = 0 then Tx.at_ l i else -1
theorem at_some {l : List Int} {i : Nat} (h : i < l.length) : l[i]? = some (Tx.at_ l i) := by
  unfold Tx.at_
  rw [List.getElem?_eq_getElem h, List.getD_eq_getElem?_getD, List.getElem?_eq_getElem h]; rfl
theorem at_none {l : List Int} {i : Nat} (h : l.length ≤ i) : Tx.at_ l i = -1 := by
  unfold Tx.at_
  rw [List.getD_eq_getElem?_getD, List.getElem?_eq_none h]; rfl
set_option maxRecDepth 100000 in
theorem rnext_any {w0 : World} {R b c : Nat} {l : List Int} (hs : Src w0 R b c l) (i : Nat) (e : Int) (w : World) (h : Rd w0 w R b c l.length i e) (hi : i ≤ l.length) (V : Int) (hV : V = nextS l i e) :
    Calls Tryz.prog 84 #[.pointer (some ⟨R, 0, none⟩)] w fun E w' => E = .returned (.int .i32 V) ∧ Below w.heap.size w w' := by
  have x0 := h.lies.cell (i := 0) rfl
  have x1 := h.lies.cell (i := 1) rfl
  have x2 := h.lies.cell (i := 2) rfl
  have HV := Lib.hid hV
  have Hrn := Lib.hid (fun u hj => h.rune (l := l) hs (j := i) (u := u) hj)
  have hlen := hs.len
  clear hV h hs
  by_cases he : e = 0
  · subst he
    by_cases hl : i = l.length
    · have HE := Lib.hid (show V = -1 by rw [HV.out, nextS, if_pos rfl, at_none (by omega)])
      have e1 : decide ((i : Int) = (l.length : Int)) = true := by simp [hl]
      have e2 : ((i : Int) == (l.length : Int)) = true := by simp [hl]
      clear hl
      go_enter Tryz.func84, Tryz.ntmps84
      go_wp2_with (fail)
      go_quiet (fail)
      go_wp2
      go_ret
      exact ⟨by rw [HE.out]; rfl, (Same.drewN (Same.refl w) _).below _⟩
    · have hlt : i < l.length := by omega
      have hc := Hrn.out _ (at_some hlt)
      obtain ⟨z, hz⟩ : ∃ z, z = Tx.at_ l i := ⟨_, rfl⟩
      rw [← hz] at hc
      have HE := Lib.hid (show V = z by rw [HV.out, nextS, if_pos rfl, hz])
      have e1 : decide ((i : Int) = (l.length : Int)) = false := by simp; omega
      have e2 : ((i : Int) == (l.length : Int)) = false := by simp; omega
      have e3 : ¬ (l.length : Int) ≤ (i : Int) := by omega
      clear hl Hrn hz
      go_enter Tryz.func84, Tryz.ntmps84
      go_wp2_with (fail)
      go_quiet (fail)
      go_wp2_with (fail)
      go_quiet (fail)
      go_wp2
      go_ret
      exact ⟨by rw [HE.out]; rfl, ((Same.drewN (Same.refl w) _).drewN _).below _⟩
  · have HE := Lib.hid (show V = -1 by rw [HV.out, nextS, if_neg he])
    have e1 : decide (e = 0) = false := by simpa using he
    have e2 : (e == 0) = false := by simpa using he
    have e3 : (e != 0) = true := by simpa using he
    clear Hrn he
    go_enter Tryz.func84, Tryz.ntmps84
    go_wp2_with (fail)
    go_quiet (fail)
    go_wp2
    go_ret
    exact ⟨by rw [HE.out]; rfl, (Same.drewN (Same.refl w) _).below _⟩
/-- what is told behind fail -/
def failS (i : Nat) (e : Int) (j : Nat) (x : Int) : Nat × Int := if e = 0 then (j, x) else (i, e)
theorem rfail_any {w0 : World} {R b c n : Nat} (i : Nat) (e : Int) (j : Nat) (x : Int) (w : World) (h : Rd w0 w R b c n i e) (i' : Nat) (e' : Int) (hS : (i', e') = failS i e j x) :
    Calls Tryz.prog 83 #[.pointer (some ⟨R, 0, none⟩), .int .i64 j, .int .i64 x] w fun E w' => E = .returned (.tuple #[]) ∧ Rd w0 w' R b c n i' e' ∧ Gw R w w' := by
  have x1 := h.lies.cell (i := 1) rfl
  have x2 := h.lies.cell (i := 2) rfl
  have f1 := h.lies.free 1
  have f2 := h.lies.free 2
  have y1 := (h.lies.set 1 (.int .i64 j)).cell (i := 2) rfl
  have g1 := (h.lies.set 1 (.int .i64 j)).free 2
  have Hr := Lib.hid h
  have HS := Lib.hid hS
  clear h hS
  by_cases he : e = 0
  · subst he
    obtain ⟨rfl, rfl⟩ : i' = j ∧ e' = x := by have := HS.out; rw [failS, if_pos rfl] at this; cases this; exact ⟨rfl, rfl⟩
    go_enter Tryz.func83, Tryz.ntmps83
    go_wp2
    go_end0
    exact ⟨rfl, (Hr.out.at_ _).err _, (Gw.set _ _ _).trans (Gw.set _ _ _)⟩
  · obtain ⟨rfl, rfl⟩ : i' = i ∧ e' = e := by have := HS.out; rw [failS, if_neg he] at this; cases this; exact ⟨rfl, rfl⟩
    have e1 : decide (e' = 0) = false := by simpa using he
    have e2 : (e' == 0) = false := by simpa using he
    clear he
    go_enter Tryz.func83, Tryz.ntmps83
    go_wp2
    go_end0
    exact ⟨rfl, Hr.out, Gw.refl _⟩
theorem at_lt' {l : List Int} {i : Nat} {c : Int} (h : Tx.at_ l i = c) (hc : c ≠ -1) : i < l.length := Tx.at_lt h hc
theorem wrap_small {n : Nat} (h : n ≤ 1000000) : wrap64 ((n : Int) + 1) = ((n + 1 : Nat) : Int) := by unfold wrap64; omega
set_option maxRecDepth 100000 in
theorem rskip_any {w0 : World} {R b c : Nat} {l : List Int} (hs : Src w0 R b c l) (i : Nat) (e c0 : Int) (w : World) (h : Rd w0 w R b c l.length i e) (hi : i ≤ l.length) (B : Bool) (hB : B = (nextS l i e == c0)) (i' : Nat) (hi' : i' = if B then i + 1 else i) :
    Calls Tryz.prog 99 #[.pointer (some ⟨R, 0, none⟩), .int .i32 c0] w fun E w' => E = .returned (.bool B) ∧ Rd w0 w' R b c l.length i' e ∧ Gw R w w' := by
  obtain ⟨V, hV⟩ : ∃ V, V = nextS l i e := ⟨_, rfl⟩
  have cn := rnext_any hs i e w h hi V hV
  have hlen := hs.len
  rw [← hV] at hB
  have Hr := Lib.hid h
  clear h hV hs
  cases B
  · have hne : (V != c0) = true := by simp at hB; simp [hB]
    have hne2 : (V == c0) = false := hB.symm
    obtain rfl : i' = i := by simpa using hi'
    clear hB hi'
    go_enter Tryz.func99, Tryz.ntmps99
    go_wp2_with (fail)
    refine cn.mono ?_
    rintro E w1 ⟨rfl, hb1⟩
    clear cn
    go_wp2_with (fail)
    go_ret
    exact ⟨rfl, Hr.out.below hb1 Hr.out.lt, Gw.of hb1⟩
  · have hne : (V != c0) = false := by simp at hB; simp [hB]
    have hne2 : (V == c0) = true := hB.symm
    obtain rfl : i' = i + 1 := by simpa using hi'
    have hw := wrap_small (n := i) (by omega)
    clear hB hi'
    go_enter Tryz.func99, Tryz.ntmps99
    go_wp2_with (fail)
    refine cn.mono ?_
    rintro E w1 ⟨rfl, hb1⟩
    have h1 := Hr.out.below hb1 Hr.out.lt
    have x1 := h1.lies.cell (i := 1) rfl
    have f1 := h1.lies.free 1
    have H1 := Lib.hid h1
    clear cn h1
    go_wp2_with (fail)
    go_ret
    exact ⟨rfl, H1.out.at_ _, (Gw.of hb1).trans (Gw.set _ _ _)⟩
/-- what is told behind pass -/
def passS (l : List Int) (c0 : Int) (i : Nat) (e : Int) : Nat × Int := if e ≠ 0 then (i, e) else if Tx.at_ l i = c0 then (i + 1, 0) else (i, 1)
set_option maxRecDepth 100000 in
theorem rpass_any {w0 : World} {R b c : Nat} {l : List Int} (hs : Src w0 R b c l) (i : Nat) (e c0 : Int) (w : World) (h : Rd w0 w R b c l.length i e) (hi : i ≤ l.length) (hc : c0 ≠ -1) (i' : Nat) (e' : Int) (hS : (i', e') = passS l c0 i e) :
    Calls Tryz.prog 97 #[.pointer (some ⟨R, 0, none⟩), .int .i32 c0] w fun E w' => E = .returned (.tuple #[]) ∧ Rd w0 w' R b c l.length i' e' ∧ Gw R w w' := by
  obtain ⟨B, hB⟩ : ∃ B, B = (nextS l i e == c0) := ⟨_, rfl⟩
  obtain ⟨j, hj⟩ : ∃ j, j = if B then i + 1 else i := ⟨_, rfl⟩
  have cs := rskip_any hs i e c0 w h hi B hB j hj
  have hfin : (B = true → i' = j ∧ e' = e) ∧ (B = false → (i', e') = failS j e j 1) := by
    unfold passS at hS
    unfold nextS at hB
    by_cases he : e = 0
    · subst he
      rw [if_pos rfl] at hB
      rw [if_neg (by simp)] at hS
      by_cases ha : Tx.at_ l i = c0
      · rw [if_pos ha] at hS
        have : B = true := by rw [hB]; simpa using ha
        rw [this] at hj ⊢
        cases hS
        exact ⟨fun _ => ⟨by rw [hj]; rfl, rfl⟩, by simp⟩
      · rw [if_neg ha] at hS
        have : B = false := by rw [hB]; simpa using ha
        rw [this] at hj ⊢
        cases hS
        exact ⟨by simp, fun _ => by rw [failS, if_pos rfl, hj]; rfl⟩
    · rw [if_neg he] at hB
      rw [if_pos he] at hS
      have : B = false := by rw [hB]; simp; omega
      rw [this] at hj ⊢
      cases hS
      exact ⟨by simp, fun _ => by rw [failS, if_neg he, hj]; rfl⟩
  have HF := Lib.hid hfin
  clear hfin hB hj hS h hs
  cases B
  · have hS2 := Lib.hid (HF.out.2 rfl)
    go_enter Tryz.func97, Tryz.ntmps97
    go_wp2_with (fail)
    refine cs.mono ?_
    rintro E w1 ⟨rfl, h1, hg1⟩
    have x1 := h1.lies.cell (i := 1) rfl
    have cf := rfail_any j e j 1 w1 h1 i' e' hS2.out
    clear cs h1
    go_wp2_with (fail)
    refine cf.mono ?_
    rintro E w2 ⟨rfl, h2, hg2⟩
    clear cf x1
    go_wp2_with (fail)
    go_end0
    exact ⟨rfl, h2, hg1.trans hg2⟩
  · obtain ⟨rfl, rfl⟩ := HF.out.1 rfl
    go_enter Tryz.func97, Tryz.ntmps97
    go_wp2_with (fail)
    refine cs.mono ?_
    rintro E w1 ⟨rfl, h1, hg1⟩
    clear cs
    go_wp2_with (fail)
    go_end0
    exact ⟨rfl, h1, hg1⟩
theorem tdigit_any (V : Int) (w : World) :
    Calls Tryz.prog 104 #[.int .i32 V] w fun E w' => E = .returned (.bool (Tx.isDig V)) ∧ w = w' := by
  have hd : Tx.isDig V = (decide (48 ≤ V) && decide (V ≤ 57)) := rfl
  rw [hd]
  go_enter Tryz.func104, Tryz.ntmps104
  by_cases h1 : 48 ≤ V
  · have e1 : decide (48 ≤ V) = true := decide_eq_true h1
    go_wp2_with (fail)
    go_ret
    exact ⟨ret_bool (by rw [e1]; simp), rfl⟩
  · have e1 : decide (48 ≤ V) = false := decide_eq_false h1
    go_wp2_with (fail)
    go_ret
    exact ⟨ret_bool (by simp), rfl⟩
end Go.Proofs.YteimbdklakemaaaGreatDoor
