/-
  PACKAGE bag's COMPARISONS: of two values, of two lengths, of two rows; and the document's.
-/
import Derived.Test.YtdlmpaipphjdpaaDoorBgmM
import Derived.Test.YtdlmpaipphjdpaaDoorGBase
import Derived.Lib.QuietBelow
import Derived.BigQuiet
import Derived.Deep.Cut
namespace Go.Proofs.YtdlmpaipphjdpaaDoor
open Go.RowKit Go.Sort
set_option maxHeartbeats 1600000

theorem cmp_len (a b : Nat) : (if (a : Int) < (b : Int) then (-1 : Int) else if (a : Int) > (b : Int) then 1 else 0) = if a < b then -1 else if a > b then 1 else 0 := by
  by_cases h : a < b
  · rw [if_pos (by omega), if_pos h]
  · rw [if_neg (by omega), if_neg h]
    by_cases g : a > b
    · rw [if_pos (by omega), if_pos g]
    · rw [if_neg (by omega), if_neg g]
/-- a row of rows, in a world that has grown -/
theorem RwsOf.pick {w : World} {A : Option Addr} {c n : Nat} {vs : List Value} {r : List (List Vl)} {j : Nat} {x : List Vl} (h : RwsOf w (.slice A n c) vs r) (hj : r[j]? = some x) :
    ∃ b o p, ∃ e : Value, A = some ⟨b, o, p⟩ ∧ ∀ W, Below w.heap.size w W → W.cell? ((⟨b, o, p⟩ : Addr).add j) = some e ∧ RowAt W e x := by
  obtain ⟨u, hu, hrow⟩ := h.row j x hj
  obtain ⟨A', c', hv, _, hx⟩ := h.sl
  cases hv
  obtain ⟨b, o, p, hA, hlt, hc⟩ := hx j u hu
  exact ⟨b, o, p, u, hA, fun W hb => ⟨(hb.cell (by rw [add_block]; exact hlt)).trans hc, hrow.below hb (Nat.le_refl _)⟩⟩
end Go.Proofs.YtdlmpaipphjdpaaDoor
