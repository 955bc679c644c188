/-
  THE LIBRARY's Repeat, of a row of one value; its product of one and a small number. PACKAGE match: width.
-/
import Derived.Test.YtdlmpaipphjdpaaDoorMtlM
import Derived.Test.YtdlmpaipphjdpaaDoorClrM
import Derived.Test.YtdlmpaipphjdpaaDoorGBase
import Derived.OwnWalk
import Derived.WalkKit
import Derived.WalkSpells
namespace Go.Proofs.YtdlmpaipphjdpaaDoor
open Go.RowKit Go.Sort
set_option maxHeartbeats 3200000

theorem mask13 (n : Nat) (h : n ≤ 1000000) : bits BinOp.and .u64 (n : Int) 4294967295 = (n : Int) := by
  have e : ((4294967295 : Int)) = ((4294967295 : Nat) : Int) := rfl
  rw [e, bits_and_u64_nat n 4294967295 (by omega) (by decide), show (4294967295 : Nat) = 2 ^ 32 - 1 from rfl, Nat.and_two_pow_sub_one_eq_mod, Nat.mod_eq_of_lt (by omega)]
set_option maxRecDepth 100000 in
theorem mul64_one (n : Nat) (w : World) (h : n ≤ 1000000) :
    Calls Tryd.prog 54 #[.int .u64 1, .int .u64 (n : Int)] w fun e w' => e = .returned (.tuple #[.int .u64 0, .int .u64 (n : Int)]) ∧ w = w' := by
  have h1 := mask13 n h
  have h2 : (n : Int) / 4294967296 = 0 := by omega
  have h3 : bits BinOp.and .u64 (1 : Int) 4294967295 = 1 := by decide +kernel
  have h4 : bits BinOp.and .u64 (0 : Int) 4294967295 = 0 := by decide +kernel
  go_enter Tryd.func54, Tryd.ntmps54
  go_wp2_with fail
  go_ret2
  exact ⟨rfl, rfl⟩
set_option maxRecDepth 100000 in
theorem mul_one13 (n : Nat) (w : World) (h : n ≤ 1000000) :
    Calls Tryd.prog 43 #[.int .u64 1, .int .u64 (n : Int)] w fun e w' => e = .returned (.tuple #[.int .u64 0, .int .u64 (n : Int)]) ∧ w = w' := by
  have c := mul64_one n w h
  go_enter Tryd.func43, Tryd.ntmps43
  go_wp2_with (first | (go_at_call 54; refine c.mono ?_; rintro e w' ⟨rfl, rfl⟩))
  go_ret2
  exact ⟨rfl, rfl⟩
theorem Tryd.infoVal13 : (Tryd.prog.info? 42).map (fun i => (i.zero, i.size, i.bytes)) = some (some (.agg #[.bool false, .int .i64 0]), 2, 16) := by kernel_rfl
theorem splice_take {α : Type} {L cs : List α} {off : Nat} (h : off ≤ L.length) : (splice L off cs).take (off + cs.length) = L.take off ++ cs := by
  unfold splice
  rw [← List.append_assoc, List.take_left' (by rw [List.length_append, List.length_take]; omega)]
theorem rowCells_rep (p k : Nat) (x : Vl) : rowCells (List.replicate p x) ++ rowCells (List.replicate k x) = rowCells (List.replicate (p + k) x) := by
  unfold rowCells
  rw [← List.flatMap_append, List.replicate_append_replicate]
theorem add_here13 (g k : Nat) : (⟨g, 0, none⟩ : Addr).add k = ⟨g, k, none⟩ := by
  unfold Addr.add
  split
  · next h => subst h; rfl
  · simp
/-- the first p values of n are x -/
structure Rep13 (w : World) (g n p : Nat) (x : Vl) (wr : World) (cl : List Value) : Prop where
  lies : Lies wr g 42 cl
  len : cl.length = n * 2
  are : cl.take (p * 2) = rowCells (List.replicate p x)
  kept : Below w.heap.size w wr
theorem rep_step {w wr w' : World} {g n p k : Nat} {x : Vl} {cl : List Value} (h : Rep13 w g n p x wr cl) (hp : p ≤ n) (hk : k ≤ p) (hpk : p + k ≤ n) (hg : w.heap.size ≤ g) (h' : Hid (w'.heap[g]? = some (.cells (splice cl (p * 2) (cl.take (k * 2))).toArray 42 (0, 0)) ∧ Keeps (fun k => k ≠ g) wr w' ∧ w'.heap.size = wr.heap.size)) :
    ∃ cl', Rep13 w g n (p + k) x w' cl' := by
  obtain ⟨h1, h2, _⟩ := h'.out
  have hl := h.len
  have hs := h.kept.size
  have htl : (cl.take (k * 2)).length = k * 2 := by rw [List.length_take]; omega
  refine ⟨_, h1, by rw [length_splice _ _ _ (by rw [htl]; omega)]; exact hl, ?_, h.kept.trans (h2.below hs fun b hb e => by omega)⟩
  have e1 := splice_take (L := cl) (cs := cl.take (k * 2)) (off := p * 2) (by omega)
  rw [htl, ← Nat.add_mul] at e1
  rw [e1, h.are, show cl.take (k * 2) = (cl.take (p * 2)).take (k * 2) by rw [List.take_take]; congr 1; omega, h.are, ← rowCells_rep]
  congr 1
  have e2 := rowCells_rep k (p - k) x
  rw [show k + (p - k) = p by omega] at e2
  rw [← e2, List.take_left' (by rw [rowCells_length, List.length_replicate])]
/-- what Repeat tells: a row of the call's own -/
def Repeated (w : World) (r : List Vl) (E : Ending) (w' : World) : Prop :=
  ∃ g, E = .returned (.slice (some ⟨g, 0, none⟩) r.length r.length) ∧ w.heap.size ≤ g ∧ Lies w' g 42 (rowCells r) ∧ Below w.heap.size w w'
set_option maxRecDepth 100000 in
theorem repeat_any (n c : Nat) (A : Option Addr) (x : Vl) (w : World) (hn : n ≤ 10000) (hx : RowAt w (.slice A 1 c) [x]) :
    Calls Tryd.prog 33 #[.slice A 1 c, .int .i64 (n : Int)] w (Repeated w (List.replicate n x)) := by
  obtain ⟨i0, hi, hz0, hz1, hz2⟩ := info_parts Tryd.infoVal13
  have cm := mul_one13 n w (by omega)
  have h1 : ¬ ((n : Int) < 0) := by omega
  obtain ⟨b, o, p, hA, hbs, hc0⟩ := (show RowAt w (.slice A [x].length c) [x] from hx).pair (j := 0) (x := x) rfl
  subst hA
  have hxb := Lib.hid hx
  clear hx
  go_enter Tryd.func33, Tryd.ntmps33
  go_wp2_with (first
    | (go_at_call 43; refine cm.mono ?_; rintro e w' ⟨rfl, rfl⟩)
    | (at_make; refine wpList_make_full _ rfl _ _ 36 rfl w.heap.size 42 i0 (.agg #[.bool false, .int .i64 0]) 2 Tryd.underlying36 hi hz0 hz1 .i64 .i64 (n : Int) (n : Int) n rfl rfl rfl rfl (by rw [hz2]; omega) (by unfold maxLen; omega) (Nat.le_refl _) ?_))
  intro w1 hown hgrow
  obtain ⟨g, hg⟩ : ∃ g, g = w.heap.size := ⟨_, rfl⟩
  rw [← hg] at hown ⊢
  have hb1 : Below w.heap.size w w1 := ⟨hgrow.os, hgrow.tape, hgrow.output, hgrow.size, fun k hk => hgrow.block k hk (by simp)⟩
  obtain ⟨cl, hl1, hl2⟩ : ∃ cl, Lies w1 g 42 cl ∧ cl.length = n * 2 := by
    rcases hown.2 with ⟨hv, _⟩ | ⟨g', cap, cur, hv, _, hh, _, _, hs, _⟩
    · cases hv
    · cases hv
      exact ⟨cur.toList, by simpa [Lies] using hh, by simpa using hs⟩
  have HL := Lib.hid (And.intro hl1 (And.intro hl2 hb1))
  have HX := Lib.hid (hxb.out.below hb1 (Nat.le_refl _))
  have HG := Lib.hid hg
  have hlt : g < w1.heap.size := hl1.lt
  clear hown hgrow hb1 hl1 hl2 hc0 hbs cm hg
  obtain ⟨k1, hk1⟩ : ∃ k, k = min 1 n := ⟨_, rfl⟩
  have HK1 := Lib.hid hk1
  have hcs : ∀ (j : Nat) (v : Value), (rowCells (List.replicate k1 x))[j]? = some v → w1.cell? ((⟨b, o, p⟩ : Addr).add j) = some v := fun j v hj => by
    have hc := RowAt.cells (r := [x]) HX.out
    by_cases h0 : k1 = 0
    · rw [h0] at hj; simp [rowCells] at hj
    · rw [show k1 = 1 by omega] at hj
      exact hc j v hj
  have HCS := Lib.hid hcs
  have hrl : (rowCells (List.replicate k1 x)).length = k1 * 2 := by rw [rowCells_length, List.length_replicate]
  have HRL := Lib.hid hrl
  have hk1n : k1 ≤ n := by omega
  clear hcs hrl hk1
  go_wp2_with (first
    | (refine wpList_copy_any _ rfl _ _ _ _ rfl 42 2 Tryd.underlying36 (by rw [hi]; exact congrArg some hz1) (some ⟨g, 0, none⟩) (some ⟨b, o, p⟩) n n 1 c rfl rfl g 0 cl 42 HL.out.1 k1 HK1.out (rowCells (List.replicate k1 x)) HRL.out (fun _ => ⟨rfl, _, rfl, HCS.out⟩) (by decide) (by have := HL.out.2.1; have := HRL.out; omega) (rowCells_one _) ?_))
  intro w2 hh2 hk2 _
  have hst : ∃ cl', Rep13 w g n k1 x w2 cl' := by
    refine ⟨_, hh2, by rw [length_splice _ _ _ (by have := HL.out.2.1; have := HRL.out; omega)]; exact HL.out.2.1, ?_, HL.out.2.2.trans (hk2.below HL.out.2.2.size fun b hb e => by have := HG.out; omega)⟩
    have e1 := splice_take (L := cl) (cs := rowCells (List.replicate k1 x)) (off := 0) (by omega)
    rw [HRL.out] at e1
    simpa using e1
  obtain ⟨c0, hst⟩ := hst
  have HST := Lib.hid hst
  clear hst hh2 hk2
  go_wp2_with fail
  go_loopw [8] (fun i wr => ∃ (q : Nat) (cl : List Value), q ≤ n ∧ (q = 0 → n = 0) ∧ i = .int .i64 q ∧ Hid (Rep13 w g n q x wr cl)) (fun i _ => n - (intOf i).toNat)
  case atStart => exact ⟨k1, c0, hk1n, by have := HK1.out; omega, rfl, HST⟩
  case round =>
    obtain ⟨q, cl', hq, hq0, rfl, HR⟩ := hrel
    by_cases hqn : q < n
    · have i1 : (0 : Int) ≤ (q : Int) := by omega
      have i2 : (q : Int) < (n : Int) := by omega
      have i3 : (q : Int) ≤ (n : Int) := by omega
      have hq1 : 1 ≤ q := by omega
      have hnq : ¬ n = q := by omega
      obtain ⟨k, hk⟩ : ∃ k, k = min q (n - q) := ⟨_, rfl⟩
      have HK := Lib.hid hk
      have hsub := fun (j : Nat) (v : Value) (hj : (cl'.take (k * 2))[j]? = some v) => (show wr.cell? ((⟨g, 0, none⟩ : Addr).add j) = some v by
        have hj2 : j < k * 2 := by have := (List.getElem?_eq_some_iff.1 hj).1; rw [List.length_take] at this; omega
        rw [List.getElem?_take_of_lt hj2] at hj
        rw [add_here13]
        exact HR.out.lies.cell hj)
      have HSUB := Lib.hid hsub
      have hwr : IntKind.i64.wrap ((q : Int) + (k : Int)) = (q : Int) + (k : Int) := by rw [IntKind.wrap_i64]; omega
      have hone : ∀ v ∈ cl'.take (k * 2), v.oneCell' = true := by
        rw [show cl'.take (k * 2) = (cl'.take (q * 2)).take (k * 2) by rw [List.take_take]; congr 1; omega, HR.out.are]
        exact fun v hv => rowCells_one _ v (List.mem_of_mem_take hv)
      have HONE := Lib.hid hone
      clear hsub hone hk
      go_wp2_with fail
      go_region_law (refine step_copy_any rfl (.tmp 41) (.tmp 44) _ _ rfl 42 2 Tryd.underlying36 (by rw [hi]; exact congrArg some hz1) (some ⟨g, q * 2, none⟩) (some ⟨g, 0, none⟩) (n - q) (n - q) q n (by simp [Act.eval, Act.put]) (by simp [Act.eval, Act.put]) g (q * 2) cl' 42 HR.out.lies k HK.out (cl'.take (k * 2)) (by have := HK.out; have := HR.out.len; rw [List.length_take]; omega) (fun _ => ⟨rfl, _, rfl, HSUB.out⟩) (by decide) (by have := HK.out; have := HR.out.len; rw [List.length_take]; omega) HONE.out ?_; intro w4 hg4)
      obtain ⟨cl4, h4⟩ := rep_step (k := k) (show Rep13 w g n q x wr.drew cl' from ⟨HR.out.lies, HR.out.len, HR.out.are, HR.out.kept.drew⟩) hq (by have := HK.out; omega) (by have := HK.out; omega) (by have := HG.out; omega) hg4
      have H4 := Lib.hid h4
      have hk1 : 1 ≤ k := by have := HK.out; omega
      have hk2 : q + k ≤ n := by have := HK.out; omega
      clear h4 hg4 i1 i2 i3 hq1 hnq
      go_simp
      go_wp2_with fail
      go_roundw
      case rel => exact ⟨q + k, cl4, hk2, by omega, by go_num, H4⟩
      case measure => simp [intOf]; omega
    · have hqe : q = n := by omega
      have i2 : ¬ ((q : Int) < (n : Int)) := by omega
      have hres := Lib.hid (show Repeated w (List.replicate n x) (.returned (.slice (some ⟨g, 0, none⟩) n n)) wr from by
        have h := HR.out
        refine ⟨g, by rw [List.length_replicate], by rw [HG.out]; exact Nat.le_refl _, ?_, h.kept⟩
        have e := h.are
        rw [hqe, List.take_of_length_le (by rw [h.len]; exact Nat.le_refl _)] at e
        rw [← e]
        exact h.lies)
      clear hqe hqn
      go_wp2_with fail
      go_ret
      exact hres.out
end Go.Proofs.YtdlmpaipphjdpaaDoor
