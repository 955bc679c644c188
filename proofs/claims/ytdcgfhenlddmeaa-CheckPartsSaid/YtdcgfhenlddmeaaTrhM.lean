/-
  THE DOCUMENT's ANSWERS OF LAYER 10: LeafOf, On.
-/
import Derived.Test.YtdcgfhenlddmeaaTrfM
import Derived.Test.YtdcgfhenlddmeaaGPred
namespace Go.Proofs.Ytdcgfhenlddmeaa
open Go.RowKit Go.Sort
set_option maxHeartbeats 1600000

theorem leaf10_any (i : Int) (w : World) :
    Calls Try.prog 41 #[.int .i64 i] w fun e w' => e = .returned (.agg #[.int .i64 0, .int .i64 i, .slice none 0 0, .slice none 0 0, .bool false]) ∧ Below w.heap.size w w' := by
  go_enter Try.func41, Try.ntmps41
  go_wp2
  exact bodyPost_ret (v := .agg #[.int .i64 0, .int .i64 i, .slice none 0 0, .slice none 0 0, .bool false]) (by simp [results, Try.results41, go_sem]) rfl ⟨rfl, below_new _ _⟩
theorem two_trs (W : World) (G : Nat) (hG : W.heap.size = G) (T : TypeId) (x y : TrV) :
    TrCell (W.alloc (Obj.cells #[.int .i64 x.1.k, .int .i64 x.1.t, x.2.1, x.2.2, .bool x.1.h, .int .i64 y.1.k, .int .i64 y.1.t, y.2.1, y.2.2, .bool y.1.h] T)) ⟨G, 0, none⟩ x.1 x.2.1 x.2.2 ∧
    TrCell (W.alloc (Obj.cells #[.int .i64 x.1.k, .int .i64 x.1.t, x.2.1, x.2.2, .bool x.1.h, .int .i64 y.1.k, .int .i64 y.1.t, y.2.1, y.2.2, .bool y.1.h] T)) ⟨G, 5, none⟩ y.1 y.2.1 y.2.2 := by
  subst hG
  have l := Lies.new W T [.int .i64 x.1.k, .int .i64 x.1.t, x.2.1, x.2.2, .bool x.1.h, .int .i64 y.1.k, .int .i64 y.1.t, y.2.1, y.2.2, .bool y.1.h]
  exact ⟨⟨l.cell (i := 0) rfl, l.cell (i := 1) rfl, l.cell (i := 2) rfl, l.cell (i := 3) rfl, l.cell (i := 4) rfl⟩, ⟨l.cell (i := 5) rfl, l.cell (i := 6) rfl, l.cell (i := 7) rfl, l.cell (i := 8) rfl, l.cell (i := 9) rfl⟩⟩
/-- two trees side by side, as an operator on them hands them back -/
def TwoTrs (w : World) (k : Int) (x y : TrV) (vc : Value) (e : Ending) (w' : World) : Prop :=
  ∃ g, e = .returned (.agg #[.int .i64 k, .int .i64 0, .slice (some ⟨g, 0, none⟩) 2 2, vc, .bool false]) ∧ w.heap.size ≤ g ∧ g < w'.heap.size ∧ TrCell w' ⟨g, 0, none⟩ x.1 x.2.1 x.2.2 ∧ TrCell w' ⟨g, 5, none⟩ y.1 y.2.1 y.2.2 ∧ Below w.heap.size w w'
set_option maxRecDepth 100000 in
theorem on10_any (k : Int) (x y : TrV) (A : Option Addr) (n c : Nat) (w : World) :
    Calls Try.prog 40 #[.int .i64 k, .agg #[.int .i64 x.1.k, .int .i64 x.1.t, x.2.1, x.2.2, .bool x.1.h], .agg #[.int .i64 y.1.k, .int .i64 y.1.t, y.2.1, y.2.2, .bool y.1.h], .slice A n c] w (TwoTrs w k x y (.slice A n c)) := by
  go_enter Try.func40, Try.ntmps40
  go_wp2
  refine bodyPost_ret (v := .agg #[.int .i64 k, .int .i64 0, .slice (some ⟨w.heap.size + 1 + 1 + 1, 0, none⟩) 2 2, .slice A n c, .bool false]) (by simp [results, Try.results40, go_sem]) rfl ⟨w.heap.size + 1 + 1 + 1, rfl, by omega, by simp, ?_, ?_, ?_⟩
  · exact (two_trs _ _ (by simp) _ x y).1
  · exact (two_trs _ _ (by simp) _ x y).2
  · exact ((((Below.refl _ _).alloc (Nat.le_refl _) _).alloc (by simp) _).alloc (by simp; omega) _).alloc (by simp; omega) _
end Go.Proofs.Ytdcgfhenlddmeaa
