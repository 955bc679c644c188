/-
  THE STATEMENTS' OWN EXAMPLE (awake).
-/
import Derived.Test.YtokjhlmpegogcaaDoorNsoM
import Derived.Test.YtokjhlmpegogcaaDoorMtvM
import Derived.Test.YtokjhlmpegogcaaDoorGPred
namespace Go.Proofs.YtokjhlmpegogcaaDoor
open Go.RowKit Go.Sort
set_option maxHeartbeats 3200000

def aw14Ps : List Pd := [.mk ⟨2, 0, 1, ⟨1, 0, 0, false, 0⟩, ⟨1, 1, 0, false, 0⟩⟩ []]
def aw14L : List (List (List Vl)) := [[[(false, 1)]], [[(false, 2)]]]
def aw14R : List (List (List Vl)) := [[[], [(false, 2)]], [[], [(false, 2)]]]
theorem aw14_one : (Ns.join 1 aw14Ps aw14L aw14R).length = 2 := by decide +kernel
theorem aw14_two : (Ns.join 2 aw14Ps aw14L aw14R).length = 3 := by decide +kernel
theorem aw14_three : (Ns.join 3 aw14Ps aw14L aw14R).length = 1 := by decide +kernel
theorem aw14_four : (Ns.join 4 aw14Ps aw14L aw14R).length = 1 := by decide +kernel
theorem aw14_size : Pr.sizes aw14Ps ≤ 1000 := by decide +kernel
theorem aw14_few0 : Ns.Few 100 100 [] := ⟨by decide, by simp⟩
theorem aw14_few1 : Ns.Few 100 100 aw14L := ⟨by decide, by decide⟩
theorem aw14_few2 : Ns.Few 100 100 aw14R := ⟨by decide, by decide⟩
/-- all that the example builds -/
theorem aw14_built (w1 : World) : ∃ WZ, WZ = (((((((((((w1.alloc (Obj.cells #[.int .i64 2, .int .i64 0, .int .i64 1, .int .i64 1, .int .i64 0, .int .i64 0, .bool false, .int .i64 0, .int .i64 1, .int .i64 1, .int .i64 0, .bool false, .int .i64 0, .slice none 0 0] 40)).alloc (Obj.cells #[.bool false, .int .i64 1] 36)).alloc (Obj.cells #[.slice (some ⟨w1.heap.size + 1, 0, none⟩) 1 1] 42)).alloc (Obj.cells #[.bool false, .int .i64 2] 36)).alloc (Obj.cells #[.slice (some ⟨w1.heap.size + 1 + 1 + 1, 0, none⟩) 1 1] 42)).alloc (Obj.cells #[.slice (some ⟨w1.heap.size + 1 + 1, 0, none⟩) 1 1, .slice (some ⟨w1.heap.size + 1 + 1 + 1 + 1, 0, none⟩) 1 1] 32)).alloc (Obj.cells #[.bool false, .int .i64 2] 36)).alloc (Obj.cells #[.slice none 0 0, .slice (some ⟨w1.heap.size + 1 + 1 + 1 + 1 + 1 + 1, 0, none⟩) 1 1] 42)).alloc (Obj.cells #[.bool false, .int .i64 2] 36)).alloc (Obj.cells #[.slice none 0 0, .slice (some ⟨w1.heap.size + 1 + 1 + 1 + 1 + 1 + 1 + 1 + 1, 0, none⟩) 1 1] 42)).alloc (Obj.cells #[.slice (some ⟨w1.heap.size + 1 + 1 + 1 + 1 + 1 + 1 + 1, 0, none⟩) 2 2, .slice (some ⟨w1.heap.size + 1 + 1 + 1 + 1 + 1 + 1 + 1 + 1 + 1, 0, none⟩) 2 2] 32)) ∧ PsAt 1 WZ (.slice (some ⟨w1.heap.size, 0, none⟩) 1 1) aw14Ps ∧ TusOn Al WZ (.slice (some ⟨w1.heap.size + 1 + 1 + 1 + 1 + 1, 0, none⟩) 2 2) aw14L ∧ TusOn Al WZ (.slice (some ⟨w1.heap.size + 1 + 1 + 1 + 1 + 1 + 1 + 1 + 1 + 1 + 1, 0, none⟩) 2 2) aw14R ∧ Below w1.heap.size w1 WZ := by
  refine ⟨_, rfl, ?_⟩
  obtain ⟨W1, h1⟩ : ∃ W, W = w1.alloc (Obj.cells #[.int .i64 2, .int .i64 0, .int .i64 1, .int .i64 1, .int .i64 0, .int .i64 0, .bool false, .int .i64 0, .int .i64 1, .int .i64 1, .int .i64 0, .bool false, .int .i64 0, .slice none 0 0] 40) := ⟨_, rfl⟩
  have a1 : PsAt 1 W1 (.slice (some ⟨w1.heap.size, 0, none⟩) 1 1) aw14Ps := by rw [h1]; exact pred_built13 w1 ⟨2, 0, 1, ⟨1, 0, 0, false, 0⟩, ⟨1, 1, 0, false, 0⟩⟩ [] 0 (.slice none 0 0) ⟨rfl, none, 0, rfl⟩
  have s1 : W1.heap.size = w1.heap.size + 1 := by rw [h1]; simp
  have b1 : Below w1.heap.size w1 W1 := by rw [h1]; exact below_new _ _
  rw [← h1]
  obtain ⟨W2, h2⟩ : ∃ W, W = W1.alloc (Obj.cells #[.bool false, .int .i64 1] 36) := ⟨_, rfl⟩
  have a2 : RowOn Al W2 (.slice (some ⟨w1.heap.size + 1, 0, none⟩) 1 1) [(false, 1)] := by rw [h2, ← s1]; exact row_built13 W1 [(false, 1)]
  have s2 : W2.heap.size = w1.heap.size + 1 + 1 := by rw [h2]; simp [s1]
  have b2 : Below W1.heap.size W1 W2 := by rw [h2]; exact below_new _ _
  rw [← h2]
  replace a1 : PsAt 1 W2 (.slice (some ⟨w1.heap.size, 0, none⟩) 1 1) aw14Ps := a1.below b2 (Nat.le_refl _)
  replace b1 : Below w1.heap.size w1 W2 := below_join b1 b2
  obtain ⟨W3, h3⟩ : ∃ W, W = W2.alloc (Obj.cells #[.slice (some ⟨w1.heap.size + 1, 0, none⟩) 1 1] 42) := ⟨_, rfl⟩
  have a3 : RwsOn Al W3 (.slice (some ⟨w1.heap.size + 1 + 1, 0, none⟩) 1 1) [[(false, 1)]] := by rw [h3, ← s2]; exact rws_built13 W2 42 [.slice (some ⟨w1.heap.size + 1, 0, none⟩) 1 1] _ rfl (one_of (P := fun u r => RowOn Al W2 u r) a2)
  have s3 : W3.heap.size = w1.heap.size + 1 + 1 + 1 := by rw [h3]; simp [s2]
  have b3 : Below W2.heap.size W2 W3 := by rw [h3]; exact below_new _ _
  rw [← h3]
  replace a1 : PsAt 1 W3 (.slice (some ⟨w1.heap.size, 0, none⟩) 1 1) aw14Ps := a1.below b3 (Nat.le_refl _)
  replace a2 : RowOn Al W3 (.slice (some ⟨w1.heap.size + 1, 0, none⟩) 1 1) [(false, 1)] := a2.below b3 (Nat.le_refl _)
  replace b1 : Below w1.heap.size w1 W3 := below_join b1 b3
  obtain ⟨W4, h4⟩ : ∃ W, W = W3.alloc (Obj.cells #[.bool false, .int .i64 2] 36) := ⟨_, rfl⟩
  have a4 : RowOn Al W4 (.slice (some ⟨w1.heap.size + 1 + 1 + 1, 0, none⟩) 1 1) [(false, 2)] := by rw [h4, ← s3]; exact row_built13 W3 [(false, 2)]
  have s4 : W4.heap.size = w1.heap.size + 1 + 1 + 1 + 1 := by rw [h4]; simp [s3]
  have b4 : Below W3.heap.size W3 W4 := by rw [h4]; exact below_new _ _
  rw [← h4]
  replace a1 : PsAt 1 W4 (.slice (some ⟨w1.heap.size, 0, none⟩) 1 1) aw14Ps := a1.below b4 (Nat.le_refl _)
  replace a3 : RwsOn Al W4 (.slice (some ⟨w1.heap.size + 1 + 1, 0, none⟩) 1 1) [[(false, 1)]] := a3.below b4 (Nat.le_refl _)
  replace b1 : Below w1.heap.size w1 W4 := below_join b1 b4
  obtain ⟨W5, h5⟩ : ∃ W, W = W4.alloc (Obj.cells #[.slice (some ⟨w1.heap.size + 1 + 1 + 1, 0, none⟩) 1 1] 42) := ⟨_, rfl⟩
  have a5 : RwsOn Al W5 (.slice (some ⟨w1.heap.size + 1 + 1 + 1 + 1, 0, none⟩) 1 1) [[(false, 2)]] := by rw [h5, ← s4]; exact rws_built13 W4 42 [.slice (some ⟨w1.heap.size + 1 + 1 + 1, 0, none⟩) 1 1] _ rfl (one_of (P := fun u r => RowOn Al W4 u r) a4)
  have s5 : W5.heap.size = w1.heap.size + 1 + 1 + 1 + 1 + 1 := by rw [h5]; simp [s4]
  have b5 : Below W4.heap.size W4 W5 := by rw [h5]; exact below_new _ _
  rw [← h5]
  replace a1 : PsAt 1 W5 (.slice (some ⟨w1.heap.size, 0, none⟩) 1 1) aw14Ps := a1.below b5 (Nat.le_refl _)
  replace a3 : RwsOn Al W5 (.slice (some ⟨w1.heap.size + 1 + 1, 0, none⟩) 1 1) [[(false, 1)]] := a3.below b5 (Nat.le_refl _)
  replace a4 : RowOn Al W5 (.slice (some ⟨w1.heap.size + 1 + 1 + 1, 0, none⟩) 1 1) [(false, 2)] := a4.below b5 (Nat.le_refl _)
  replace b1 : Below w1.heap.size w1 W5 := below_join b1 b5
  obtain ⟨W6, h6⟩ : ∃ W, W = W5.alloc (Obj.cells #[.slice (some ⟨w1.heap.size + 1 + 1, 0, none⟩) 1 1, .slice (some ⟨w1.heap.size + 1 + 1 + 1 + 1, 0, none⟩) 1 1] 32) := ⟨_, rfl⟩
  have a6 : TusOn Al W6 (.slice (some ⟨w1.heap.size + 1 + 1 + 1 + 1 + 1, 0, none⟩) 2 2) aw14L := by rw [h6, ← s5]; exact tus_built13 W5 32 [.slice (some ⟨w1.heap.size + 1 + 1, 0, none⟩) 1 1, .slice (some ⟨w1.heap.size + 1 + 1 + 1 + 1, 0, none⟩) 1 1] _ rfl (two_of (P := fun u r => RwsOn Al W5 u r) a3 a5)
  have s6 : W6.heap.size = w1.heap.size + 1 + 1 + 1 + 1 + 1 + 1 := by rw [h6]; simp [s5]
  have b6 : Below W5.heap.size W5 W6 := by rw [h6]; exact below_new _ _
  rw [← h6]
  replace a1 : PsAt 1 W6 (.slice (some ⟨w1.heap.size, 0, none⟩) 1 1) aw14Ps := a1.below b6 (Nat.le_refl _)
  replace a3 : RwsOn Al W6 (.slice (some ⟨w1.heap.size + 1 + 1, 0, none⟩) 1 1) [[(false, 1)]] := a3.below b6 (Nat.le_refl _)
  replace a5 : RwsOn Al W6 (.slice (some ⟨w1.heap.size + 1 + 1 + 1 + 1, 0, none⟩) 1 1) [[(false, 2)]] := a5.below b6 (Nat.le_refl _)
  replace b1 : Below w1.heap.size w1 W6 := below_join b1 b6
  obtain ⟨W7, h7⟩ : ∃ W, W = W6.alloc (Obj.cells #[.bool false, .int .i64 2] 36) := ⟨_, rfl⟩
  have a7 : RowOn Al W7 (.slice (some ⟨w1.heap.size + 1 + 1 + 1 + 1 + 1 + 1, 0, none⟩) 1 1) [(false, 2)] := by rw [h7, ← s6]; exact row_built13 W6 [(false, 2)]
  have s7 : W7.heap.size = w1.heap.size + 1 + 1 + 1 + 1 + 1 + 1 + 1 := by rw [h7]; simp [s6]
  have b7 : Below W6.heap.size W6 W7 := by rw [h7]; exact below_new _ _
  rw [← h7]
  replace a1 : PsAt 1 W7 (.slice (some ⟨w1.heap.size, 0, none⟩) 1 1) aw14Ps := a1.below b7 (Nat.le_refl _)
  replace a6 : TusOn Al W7 (.slice (some ⟨w1.heap.size + 1 + 1 + 1 + 1 + 1, 0, none⟩) 2 2) aw14L := a6.below b7 (Nat.le_refl _)
  replace b1 : Below w1.heap.size w1 W7 := below_join b1 b7
  obtain ⟨W8, h8⟩ : ∃ W, W = W7.alloc (Obj.cells #[.slice none 0 0, .slice (some ⟨w1.heap.size + 1 + 1 + 1 + 1 + 1 + 1, 0, none⟩) 1 1] 42) := ⟨_, rfl⟩
  have a8 : RwsOn Al W8 (.slice (some ⟨w1.heap.size + 1 + 1 + 1 + 1 + 1 + 1 + 1, 0, none⟩) 2 2) [[], [(false, 2)]] := by rw [h8, ← s7]; exact rws_built13 W7 42 [.slice none 0 0, .slice (some ⟨w1.heap.size + 1 + 1 + 1 + 1 + 1 + 1, 0, none⟩) 1 1] _ rfl (two_of (P := fun u r => RowOn Al W7 u r) (RowOn.nil _ _) a7)
  have s8 : W8.heap.size = w1.heap.size + 1 + 1 + 1 + 1 + 1 + 1 + 1 + 1 := by rw [h8]; simp [s7]
  have b8 : Below W7.heap.size W7 W8 := by rw [h8]; exact below_new _ _
  rw [← h8]
  replace a1 : PsAt 1 W8 (.slice (some ⟨w1.heap.size, 0, none⟩) 1 1) aw14Ps := a1.below b8 (Nat.le_refl _)
  replace a6 : TusOn Al W8 (.slice (some ⟨w1.heap.size + 1 + 1 + 1 + 1 + 1, 0, none⟩) 2 2) aw14L := a6.below b8 (Nat.le_refl _)
  replace a7 : RowOn Al W8 (.slice (some ⟨w1.heap.size + 1 + 1 + 1 + 1 + 1 + 1, 0, none⟩) 1 1) [(false, 2)] := a7.below b8 (Nat.le_refl _)
  replace b1 : Below w1.heap.size w1 W8 := below_join b1 b8
  obtain ⟨W9, h9⟩ : ∃ W, W = W8.alloc (Obj.cells #[.bool false, .int .i64 2] 36) := ⟨_, rfl⟩
  have a9 : RowOn Al W9 (.slice (some ⟨w1.heap.size + 1 + 1 + 1 + 1 + 1 + 1 + 1 + 1, 0, none⟩) 1 1) [(false, 2)] := by rw [h9, ← s8]; exact row_built13 W8 [(false, 2)]
  have s9 : W9.heap.size = w1.heap.size + 1 + 1 + 1 + 1 + 1 + 1 + 1 + 1 + 1 := by rw [h9]; simp [s8]
  have b9 : Below W8.heap.size W8 W9 := by rw [h9]; exact below_new _ _
  rw [← h9]
  replace a1 : PsAt 1 W9 (.slice (some ⟨w1.heap.size, 0, none⟩) 1 1) aw14Ps := a1.below b9 (Nat.le_refl _)
  replace a6 : TusOn Al W9 (.slice (some ⟨w1.heap.size + 1 + 1 + 1 + 1 + 1, 0, none⟩) 2 2) aw14L := a6.below b9 (Nat.le_refl _)
  replace a8 : RwsOn Al W9 (.slice (some ⟨w1.heap.size + 1 + 1 + 1 + 1 + 1 + 1 + 1, 0, none⟩) 2 2) [[], [(false, 2)]] := a8.below b9 (Nat.le_refl _)
  replace b1 : Below w1.heap.size w1 W9 := below_join b1 b9
  obtain ⟨W10, h10⟩ : ∃ W, W = W9.alloc (Obj.cells #[.slice none 0 0, .slice (some ⟨w1.heap.size + 1 + 1 + 1 + 1 + 1 + 1 + 1 + 1, 0, none⟩) 1 1] 42) := ⟨_, rfl⟩
  have a10 : RwsOn Al W10 (.slice (some ⟨w1.heap.size + 1 + 1 + 1 + 1 + 1 + 1 + 1 + 1 + 1, 0, none⟩) 2 2) [[], [(false, 2)]] := by rw [h10, ← s9]; exact rws_built13 W9 42 [.slice none 0 0, .slice (some ⟨w1.heap.size + 1 + 1 + 1 + 1 + 1 + 1 + 1 + 1, 0, none⟩) 1 1] _ rfl (two_of (P := fun u r => RowOn Al W9 u r) (RowOn.nil _ _) a9)
  have s10 : W10.heap.size = w1.heap.size + 1 + 1 + 1 + 1 + 1 + 1 + 1 + 1 + 1 + 1 := by rw [h10]; simp [s9]
  have b10 : Below W9.heap.size W9 W10 := by rw [h10]; exact below_new _ _
  rw [← h10]
  replace a1 : PsAt 1 W10 (.slice (some ⟨w1.heap.size, 0, none⟩) 1 1) aw14Ps := a1.below b10 (Nat.le_refl _)
  replace a6 : TusOn Al W10 (.slice (some ⟨w1.heap.size + 1 + 1 + 1 + 1 + 1, 0, none⟩) 2 2) aw14L := a6.below b10 (Nat.le_refl _)
  replace a8 : RwsOn Al W10 (.slice (some ⟨w1.heap.size + 1 + 1 + 1 + 1 + 1 + 1 + 1, 0, none⟩) 2 2) [[], [(false, 2)]] := a8.below b10 (Nat.le_refl _)
  replace a9 : RowOn Al W10 (.slice (some ⟨w1.heap.size + 1 + 1 + 1 + 1 + 1 + 1 + 1 + 1, 0, none⟩) 1 1) [(false, 2)] := a9.below b10 (Nat.le_refl _)
  replace b1 : Below w1.heap.size w1 W10 := below_join b1 b10
  obtain ⟨W11, h11⟩ : ∃ W, W = W10.alloc (Obj.cells #[.slice (some ⟨w1.heap.size + 1 + 1 + 1 + 1 + 1 + 1 + 1, 0, none⟩) 2 2, .slice (some ⟨w1.heap.size + 1 + 1 + 1 + 1 + 1 + 1 + 1 + 1 + 1, 0, none⟩) 2 2] 32) := ⟨_, rfl⟩
  have a11 : TusOn Al W11 (.slice (some ⟨w1.heap.size + 1 + 1 + 1 + 1 + 1 + 1 + 1 + 1 + 1 + 1, 0, none⟩) 2 2) aw14R := by rw [h11, ← s10]; exact tus_built13 W10 32 [.slice (some ⟨w1.heap.size + 1 + 1 + 1 + 1 + 1 + 1 + 1, 0, none⟩) 2 2, .slice (some ⟨w1.heap.size + 1 + 1 + 1 + 1 + 1 + 1 + 1 + 1 + 1, 0, none⟩) 2 2] _ rfl (two_of (P := fun u r => RwsOn Al W10 u r) a8 a10)
  have s11 : W11.heap.size = w1.heap.size + 1 + 1 + 1 + 1 + 1 + 1 + 1 + 1 + 1 + 1 + 1 := by rw [h11]; simp [s10]
  have b11 : Below W10.heap.size W10 W11 := by rw [h11]; exact below_new _ _
  rw [← h11]
  replace a1 : PsAt 1 W11 (.slice (some ⟨w1.heap.size, 0, none⟩) 1 1) aw14Ps := a1.below b11 (Nat.le_refl _)
  replace a6 : TusOn Al W11 (.slice (some ⟨w1.heap.size + 1 + 1 + 1 + 1 + 1, 0, none⟩) 2 2) aw14L := a6.below b11 (Nat.le_refl _)
  replace a8 : RwsOn Al W11 (.slice (some ⟨w1.heap.size + 1 + 1 + 1 + 1 + 1 + 1 + 1, 0, none⟩) 2 2) [[], [(false, 2)]] := a8.below b11 (Nat.le_refl _)
  replace a10 : RwsOn Al W11 (.slice (some ⟨w1.heap.size + 1 + 1 + 1 + 1 + 1 + 1 + 1 + 1 + 1, 0, none⟩) 2 2) [[], [(false, 2)]] := a10.below b11 (Nat.le_refl _)
  replace b1 : Below w1.heap.size w1 W11 := below_join b1 b11
  exact ⟨a1, a6, a11, b1⟩
set_option maxRecDepth 100000 in
theorem awake14_any (w : World) (hW : Want w) :
    Calls Tryd.prog 6 #[] w fun E w' => E = .returned (.bool true) ∧ Below w.heap.size w w' := by
  have ce := equal6_any 0 1 w
  have HW := Lib.hid hW
  clear hW
  go_enter Tryd.func6, Tryd.ntmps6
  go_wp2_with fail
  refine ce.mono ?_
  rintro E w1 ⟨rfl, hb1⟩
  clear ce
  obtain ⟨W8, h8, hp8, hl8, hr8, hb8⟩ := aw14_built w1
  have H8 := Lib.hid h8
  have hb08 := below_join hb1 hb8
  have HW8 := Lib.hid (HW.out.below hb08 (Nat.le_refl _))
  have HP8 := Lib.hid (And.intro hp8 (And.intro hl8 hr8))
  have HB8 := Lib.hid hb08
  have c1 := njoin_any 1 1 _ (.slice none 0 0) _ aw14Ps [] aw14R W8 hp8 aw14_size HW8.out (TusOn.nil _ _) hr8 aw14_few0 aw14_few2
  rw [show (Ns.join 1 aw14Ps [] aw14R) = [] from rfl] at c1
  clear hp8 hl8 hr8 hb8 hb08 h8 hb1
  go_wp2_with fail
  rw [← H8.out]
  clear H8
  refine c1.mono ?_
  rintro E w2 ⟨A2, a2, rfl, _, hb2⟩
  clear c1
  generalize hG : w1.heap.size = G at *
  clear hG
  have CE := Lib.hid (show ∀ (k : Int) (W : World), Below W8.heap.size W8 W → Calls Tryd.prog 8 #[.int .i64 k, .slice (some ⟨G, 0, none⟩) 1 1, .slice (some ⟨G + 1 + 1 + 1 + 1 + 1, 0, none⟩) 2 2, .slice (some ⟨G + 1 + 1 + 1 + 1 + 1 + 1 + 1 + 1 + 1 + 1, 0, none⟩) 2 2] W (Tuples W (Ns.join k aw14Ps aw14L aw14R)) from fun k W h =>
    njoin_any k 1 _ _ _ aw14Ps aw14L aw14R W (HP8.out.1.below h (Nat.le_refl _)) aw14_size (HW8.out.below h (Nat.le_refl _)) (HP8.out.2.1.below h (Nat.le_refl _)) (HP8.out.2.2.below h (Nat.le_refl _)) aw14_few1 aw14_few2)
  have CL := Lib.hid (show ∀ (k : Int) (m : Nat), (Ns.join k aw14Ps aw14L aw14R).length = m → ∀ (W : World), Below W8.heap.size W8 W → Calls Tryd.prog 8 #[.int .i64 k, .slice (some ⟨G, 0, none⟩) 1 1, .slice (some ⟨G + 1 + 1 + 1 + 1 + 1, 0, none⟩) 2 2, .slice (some ⟨G + 1 + 1 + 1 + 1 + 1 + 1 + 1 + 1 + 1 + 1, 0, none⟩) 2 2] W (fun E w' => ∃ A c, E = .returned (.slice A m c) ∧ Below W8.heap.size W8 w') from fun k m hm W h => (CE.out k W h).mono fun E w' ⟨A, c, h1, _, h3⟩ => ⟨A, c, by rw [← hm]; exact h1, below_join h h3⟩)
  have c2 := CL.out 1 2 aw14_one w2 hb2
  clear CE HP8 hb2
  go_wp2_with fail
  refine c2.mono ?_
  rintro E w3 ⟨A3, a3, rfl, hb3⟩
  have c3 := CL.out 2 3 aw14_two w3 hb3
  clear c2 hb3
  go_wp2_with fail
  refine c3.mono ?_
  rintro E w4 ⟨A4, a4, rfl, hb4⟩
  have c4 := CL.out 3 1 aw14_three w4 hb4
  clear c3 hb4
  go_wp2_with fail
  refine c4.mono ?_
  rintro E w5 ⟨A5, a5, rfl, hb5⟩
  have c5 := CL.out 4 1 aw14_four w5 hb5
  clear c4 hb5
  go_wp2_with fail
  refine c5.mono ?_
  rintro E w6 ⟨A6, a6, rfl, hb6⟩
  have HB9 := Lib.hid (below_join HB8.out hb6)
  clear c5 hb6
  go_wp2_with fail
  go_ret
  exact ⟨rfl, HB9.out⟩
end Go.Proofs.YtokjhlmpegogcaaDoor
