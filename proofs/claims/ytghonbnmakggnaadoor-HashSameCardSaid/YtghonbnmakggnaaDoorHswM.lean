/-
  THE STATEMENTS' OWN EXAMPLE (awake).
-/
import Derived.Test.YtghonbnmakggnaaDoorHsjM
import Derived.Test.YtghonbnmakggnaaDoorMtvM
import Derived.Test.YtghonbnmakggnaaDoorGPred
namespace Go.Proofs.YtghonbnmakggnaaDoor
open Go.RowKit Go.Sort
set_option maxHeartbeats 3200000

def aw15Ps : List Pd := [.mk ⟨2, 0, 1, ⟨1, 1, 0, false, 0⟩, ⟨1, 0, 0, false, 0⟩⟩ []]
def aw15L : List (List (List Vl)) := [[[(false, 1)]], [[(true, 0)]]]
def aw15R : List (List (List Vl)) := [[[], [(true, 0)]], [[], [(false, 1)]]]
theorem aw15_keys : Hs.keys aw15Ps 1 2 = [(⟨1, 0, 0, false, 0⟩, ⟨1, 1, 0, false, 0⟩)] := by rfl
theorem aw15_apart1 : Hs.apart aw15L 2 = true := by decide +kernel
theorem aw15_apart2 : Hs.apart aw15R 1 = true := by decide +kernel
theorem aw15_one : (Hs.join 1 aw15Ps 1 2 aw15L aw15R).length = 1 := by rw [Hs.join_same aw15_apart1 aw15_apart2]; decide +kernel
theorem aw15_two : (Hs.join 2 aw15Ps 1 2 aw15L aw15R).length = 2 := by rw [Hs.join_same aw15_apart1 aw15_apart2]; decide +kernel
theorem aw15_size : Pr.sizes aw15Ps ≤ 1000 := by decide +kernel
theorem aw15_few1 : Ns.Few 100 100 aw15L := ⟨by decide, by decide⟩
theorem aw15_few2 : Ns.Few 100 100 aw15R := ⟨by decide, by decide⟩
theorem aw15_wf1 : Hs.Wf aw15L := by
  intro t ht x hx v hv
  simp only [aw15L, List.mem_cons, List.not_mem_nil, or_false] at ht
  rcases ht with rfl | rfl <;> simp only [List.mem_cons, List.not_mem_nil, or_false] at hx <;> subst hx <;> simp only [List.mem_cons, List.not_mem_nil, or_false] at hv <;> subst hv <;> exact ⟨by decide, by decide⟩
theorem aw15_wf2 : Hs.Wf aw15R := by
  intro t ht x hx v hv
  simp only [aw15R, List.mem_cons, List.not_mem_nil, or_false] at ht
  rcases ht with rfl | rfl <;> simp only [List.mem_cons, List.not_mem_nil, or_false] at hx <;> rcases hx with rfl | rfl <;> simp only [List.mem_cons, List.not_mem_nil, or_false] at hv <;> subst hv <;> exact ⟨by decide, by decide⟩
theorem aw15_key : Hs.key [⟨1, 0, 0, false, 0⟩, ⟨1, 0, 0, false, 0⟩] [[(false, 1)]] = some [49, 44, 49, 44] := by
  rw [Hs.key_some (by rfl)]
  have h : Hs.prt (Te.val ⟨1, 0, 0, false, 0⟩ [[(false, 1)]]) = [49] := by
    show Lib.itoa 1 = _
    unfold Lib.itoa
    simp
    rw [Va.digits_small (by decide)]
    rfl
  unfold Hs.text
  simp [h]
theorem own_key15 {w : World} {base : Nat} {v : Value} {c : Tm × Tm} (h : w.ownsRow base 36 10 v 1 (kyCells [c])) : ∃ g a, v = .slice (some ⟨g, 0, none⟩) 1 a ∧ 1 ≤ a ∧ ∀ (k : Nat) (u : Value), (kyCells [c])[k]? = some u → w.cell? ⟨g, k, none⟩ = some u := by
  rcases id h.2 with ⟨_, h0⟩ | ⟨g, cap, cur, rfl, _, _, hn, _⟩
  · omega
  · refine ⟨g, cap, rfl, hn, fun k u hu => ?_⟩
    have := h.cells (g := g) rfl k u hu
    rwa [add_here13] at this
theorem tms_built15 (w : World) (t : TypeId) (xs : List Tm) (cs : List Value) (hc : cs = tmCells xs) (hl : xs.length = 2) : TmsAt (w.alloc (Obj.cells cs.toArray t)) (.slice (some ⟨w.heap.size, 0, none⟩) 2 2) xs := by
  subst hc
  have l := Lies.new w t (tmCells xs)
  refine ⟨_, 2, by rw [hl], by omega, fun j x hj => ⟨w.heap.size, 0, none, rfl, l.lt, ?_⟩⟩
  have hx := fun k (hk : k < 5) => flat_at15 Tm.cells 5 (fun _ => rfl) xs j x hj k hk
  have hr := fun k u (hu : (tmCells xs)[k]? = some u) => l.cell (i := k) hu
  simp only [add_here13]
  exact ⟨hr _ _ (hx 0 (by decide)), hr _ _ (hx 1 (by decide)), hr _ _ (hx 2 (by decide)), hr _ _ (hx 3 (by decide)), hr _ _ (hx 4 (by decide))⟩
/-- all that the example builds -/
theorem aw15_built (w1 : World) : ∃ WZ, WZ = ((((((((((w1.alloc (Obj.cells #[.bool false, .int .i64 1] 33)).alloc (Obj.cells #[.slice (some ⟨w1.heap.size, 0, none⟩) 1 1] 48)).alloc (Obj.cells #[.bool true, .int .i64 0] 33)).alloc (Obj.cells #[.slice (some ⟨w1.heap.size + 1 + 1, 0, none⟩) 1 1] 48)).alloc (Obj.cells #[.slice (some ⟨w1.heap.size + 1, 0, none⟩) 1 1, .slice (some ⟨w1.heap.size + 1 + 1 + 1, 0, none⟩) 1 1] 25)).alloc (Obj.cells #[.bool true, .int .i64 0] 33)).alloc (Obj.cells #[.slice none 0 0, .slice (some ⟨w1.heap.size + 1 + 1 + 1 + 1 + 1, 0, none⟩) 1 1] 48)).alloc (Obj.cells #[.bool false, .int .i64 1] 33)).alloc (Obj.cells #[.slice none 0 0, .slice (some ⟨w1.heap.size + 1 + 1 + 1 + 1 + 1 + 1 + 1, 0, none⟩) 1 1] 48)).alloc (Obj.cells #[.slice (some ⟨w1.heap.size + 1 + 1 + 1 + 1 + 1 + 1, 0, none⟩) 2 2, .slice (some ⟨w1.heap.size + 1 + 1 + 1 + 1 + 1 + 1 + 1 + 1, 0, none⟩) 2 2] 25)) ∧ TusOn Al WZ (.slice (some ⟨w1.heap.size + 1 + 1 + 1 + 1, 0, none⟩) 2 2) aw15L ∧ TusOn Al WZ (.slice (some ⟨w1.heap.size + 1 + 1 + 1 + 1 + 1 + 1 + 1 + 1 + 1, 0, none⟩) 2 2) aw15R ∧ Below w1.heap.size w1 WZ ∧ WZ.heap.size = w1.heap.size + 1 + 1 + 1 + 1 + 1 + 1 + 1 + 1 + 1 + 1 := by
  refine ⟨_, rfl, ?_⟩
  obtain ⟨W1, h1⟩ : ∃ W, W = w1.alloc (Obj.cells #[.bool false, .int .i64 1] 33) := ⟨_, rfl⟩
  have a1 : RowOn Al W1 (.slice (some ⟨w1.heap.size, 0, none⟩) 1 1) [(false, 1)] := by rw [h1]; exact row_built13 w1 [(false, 1)]
  have s1 : W1.heap.size = w1.heap.size + 1 := by rw [h1]; simp
  have b1 : Below w1.heap.size w1 W1 := by rw [h1]; exact below_new _ _
  rw [← h1]
  obtain ⟨W2, h2⟩ : ∃ W, W = W1.alloc (Obj.cells #[.slice (some ⟨w1.heap.size, 0, none⟩) 1 1] 48) := ⟨_, rfl⟩
  have a2 : RwsOn Al W2 (.slice (some ⟨w1.heap.size + 1, 0, none⟩) 1 1) [[(false, 1)]] := by rw [h2, ← s1]; exact rws_built13 W1 48 [.slice (some ⟨w1.heap.size, 0, none⟩) 1 1] _ rfl (one_of (P := fun u r => RowOn Al W1 u r) a1)
  have s2 : W2.heap.size = w1.heap.size + 1 + 1 := by rw [h2]; simp [s1]
  have b2 : Below W1.heap.size W1 W2 := by rw [h2]; exact below_new _ _
  rw [← h2]
  replace a1 : RowOn Al W2 (.slice (some ⟨w1.heap.size, 0, none⟩) 1 1) [(false, 1)] := a1.below b2 (Nat.le_refl _)
  replace b1 : Below w1.heap.size w1 W2 := below_join b1 b2
  obtain ⟨W3, h3⟩ : ∃ W, W = W2.alloc (Obj.cells #[.bool true, .int .i64 0] 33) := ⟨_, rfl⟩
  have a3 : RowOn Al W3 (.slice (some ⟨w1.heap.size + 1 + 1, 0, none⟩) 1 1) [(true, 0)] := by rw [h3, ← s2]; exact row_built13 W2 [(true, 0)]
  have s3 : W3.heap.size = w1.heap.size + 1 + 1 + 1 := by rw [h3]; simp [s2]
  have b3 : Below W2.heap.size W2 W3 := by rw [h3]; exact below_new _ _
  rw [← h3]
  replace a2 : RwsOn Al W3 (.slice (some ⟨w1.heap.size + 1, 0, none⟩) 1 1) [[(false, 1)]] := a2.below b3 (Nat.le_refl _)
  replace b1 : Below w1.heap.size w1 W3 := below_join b1 b3
  obtain ⟨W4, h4⟩ : ∃ W, W = W3.alloc (Obj.cells #[.slice (some ⟨w1.heap.size + 1 + 1, 0, none⟩) 1 1] 48) := ⟨_, rfl⟩
  have a4 : RwsOn Al W4 (.slice (some ⟨w1.heap.size + 1 + 1 + 1, 0, none⟩) 1 1) [[(true, 0)]] := by rw [h4, ← s3]; exact rws_built13 W3 48 [.slice (some ⟨w1.heap.size + 1 + 1, 0, none⟩) 1 1] _ rfl (one_of (P := fun u r => RowOn Al W3 u r) a3)
  have s4 : W4.heap.size = w1.heap.size + 1 + 1 + 1 + 1 := by rw [h4]; simp [s3]
  have b4 : Below W3.heap.size W3 W4 := by rw [h4]; exact below_new _ _
  rw [← h4]
  replace a2 : RwsOn Al W4 (.slice (some ⟨w1.heap.size + 1, 0, none⟩) 1 1) [[(false, 1)]] := a2.below b4 (Nat.le_refl _)
  replace a3 : RowOn Al W4 (.slice (some ⟨w1.heap.size + 1 + 1, 0, none⟩) 1 1) [(true, 0)] := a3.below b4 (Nat.le_refl _)
  replace b1 : Below w1.heap.size w1 W4 := below_join b1 b4
  obtain ⟨W5, h5⟩ : ∃ W, W = W4.alloc (Obj.cells #[.slice (some ⟨w1.heap.size + 1, 0, none⟩) 1 1, .slice (some ⟨w1.heap.size + 1 + 1 + 1, 0, none⟩) 1 1] 25) := ⟨_, rfl⟩
  have a5 : TusOn Al W5 (.slice (some ⟨w1.heap.size + 1 + 1 + 1 + 1, 0, none⟩) 2 2) aw15L := by rw [h5, ← s4]; exact tus_built13 W4 25 [.slice (some ⟨w1.heap.size + 1, 0, none⟩) 1 1, .slice (some ⟨w1.heap.size + 1 + 1 + 1, 0, none⟩) 1 1] _ rfl (two_of (P := fun u r => RwsOn Al W4 u r) a2 a4)
  have s5 : W5.heap.size = w1.heap.size + 1 + 1 + 1 + 1 + 1 := by rw [h5]; simp [s4]
  have b5 : Below W4.heap.size W4 W5 := by rw [h5]; exact below_new _ _
  rw [← h5]
  replace a2 : RwsOn Al W5 (.slice (some ⟨w1.heap.size + 1, 0, none⟩) 1 1) [[(false, 1)]] := a2.below b5 (Nat.le_refl _)
  replace a4 : RwsOn Al W5 (.slice (some ⟨w1.heap.size + 1 + 1 + 1, 0, none⟩) 1 1) [[(true, 0)]] := a4.below b5 (Nat.le_refl _)
  replace b1 : Below w1.heap.size w1 W5 := below_join b1 b5
  obtain ⟨W6, h6⟩ : ∃ W, W = W5.alloc (Obj.cells #[.bool true, .int .i64 0] 33) := ⟨_, rfl⟩
  have a6 : RowOn Al W6 (.slice (some ⟨w1.heap.size + 1 + 1 + 1 + 1 + 1, 0, none⟩) 1 1) [(true, 0)] := by rw [h6, ← s5]; exact row_built13 W5 [(true, 0)]
  have s6 : W6.heap.size = w1.heap.size + 1 + 1 + 1 + 1 + 1 + 1 := by rw [h6]; simp [s5]
  have b6 : Below W5.heap.size W5 W6 := by rw [h6]; exact below_new _ _
  rw [← h6]
  replace a5 : TusOn Al W6 (.slice (some ⟨w1.heap.size + 1 + 1 + 1 + 1, 0, none⟩) 2 2) aw15L := a5.below b6 (Nat.le_refl _)
  replace b1 : Below w1.heap.size w1 W6 := below_join b1 b6
  obtain ⟨W7, h7⟩ : ∃ W, W = W6.alloc (Obj.cells #[.slice none 0 0, .slice (some ⟨w1.heap.size + 1 + 1 + 1 + 1 + 1, 0, none⟩) 1 1] 48) := ⟨_, rfl⟩
  have a7 : RwsOn Al W7 (.slice (some ⟨w1.heap.size + 1 + 1 + 1 + 1 + 1 + 1, 0, none⟩) 2 2) [[], [(true, 0)]] := by rw [h7, ← s6]; exact rws_built13 W6 48 [.slice none 0 0, .slice (some ⟨w1.heap.size + 1 + 1 + 1 + 1 + 1, 0, none⟩) 1 1] _ rfl (two_of (P := fun u r => RowOn Al W6 u r) (RowOn.nil _ _) a6)
  have s7 : W7.heap.size = w1.heap.size + 1 + 1 + 1 + 1 + 1 + 1 + 1 := by rw [h7]; simp [s6]
  have b7 : Below W6.heap.size W6 W7 := by rw [h7]; exact below_new _ _
  rw [← h7]
  replace a5 : TusOn Al W7 (.slice (some ⟨w1.heap.size + 1 + 1 + 1 + 1, 0, none⟩) 2 2) aw15L := a5.below b7 (Nat.le_refl _)
  replace a6 : RowOn Al W7 (.slice (some ⟨w1.heap.size + 1 + 1 + 1 + 1 + 1, 0, none⟩) 1 1) [(true, 0)] := a6.below b7 (Nat.le_refl _)
  replace b1 : Below w1.heap.size w1 W7 := below_join b1 b7
  obtain ⟨W8, h8⟩ : ∃ W, W = W7.alloc (Obj.cells #[.bool false, .int .i64 1] 33) := ⟨_, rfl⟩
  have a8 : RowOn Al W8 (.slice (some ⟨w1.heap.size + 1 + 1 + 1 + 1 + 1 + 1 + 1, 0, none⟩) 1 1) [(false, 1)] := by rw [h8, ← s7]; exact row_built13 W7 [(false, 1)]
  have s8 : W8.heap.size = w1.heap.size + 1 + 1 + 1 + 1 + 1 + 1 + 1 + 1 := by rw [h8]; simp [s7]
  have b8 : Below W7.heap.size W7 W8 := by rw [h8]; exact below_new _ _
  rw [← h8]
  replace a5 : TusOn Al W8 (.slice (some ⟨w1.heap.size + 1 + 1 + 1 + 1, 0, none⟩) 2 2) aw15L := a5.below b8 (Nat.le_refl _)
  replace a7 : RwsOn Al W8 (.slice (some ⟨w1.heap.size + 1 + 1 + 1 + 1 + 1 + 1, 0, none⟩) 2 2) [[], [(true, 0)]] := a7.below b8 (Nat.le_refl _)
  replace b1 : Below w1.heap.size w1 W8 := below_join b1 b8
  obtain ⟨W9, h9⟩ : ∃ W, W = W8.alloc (Obj.cells #[.slice none 0 0, .slice (some ⟨w1.heap.size + 1 + 1 + 1 + 1 + 1 + 1 + 1, 0, none⟩) 1 1] 48) := ⟨_, rfl⟩
  have a9 : RwsOn Al W9 (.slice (some ⟨w1.heap.size + 1 + 1 + 1 + 1 + 1 + 1 + 1 + 1, 0, none⟩) 2 2) [[], [(false, 1)]] := by rw [h9, ← s8]; exact rws_built13 W8 48 [.slice none 0 0, .slice (some ⟨w1.heap.size + 1 + 1 + 1 + 1 + 1 + 1 + 1, 0, none⟩) 1 1] _ rfl (two_of (P := fun u r => RowOn Al W8 u r) (RowOn.nil _ _) a8)
  have s9 : W9.heap.size = w1.heap.size + 1 + 1 + 1 + 1 + 1 + 1 + 1 + 1 + 1 := by rw [h9]; simp [s8]
  have b9 : Below W8.heap.size W8 W9 := by rw [h9]; exact below_new _ _
  rw [← h9]
  replace a5 : TusOn Al W9 (.slice (some ⟨w1.heap.size + 1 + 1 + 1 + 1, 0, none⟩) 2 2) aw15L := a5.below b9 (Nat.le_refl _)
  replace a7 : RwsOn Al W9 (.slice (some ⟨w1.heap.size + 1 + 1 + 1 + 1 + 1 + 1, 0, none⟩) 2 2) [[], [(true, 0)]] := a7.below b9 (Nat.le_refl _)
  replace a8 : RowOn Al W9 (.slice (some ⟨w1.heap.size + 1 + 1 + 1 + 1 + 1 + 1 + 1, 0, none⟩) 1 1) [(false, 1)] := a8.below b9 (Nat.le_refl _)
  replace b1 : Below w1.heap.size w1 W9 := below_join b1 b9
  obtain ⟨W10, h10⟩ : ∃ W, W = W9.alloc (Obj.cells #[.slice (some ⟨w1.heap.size + 1 + 1 + 1 + 1 + 1 + 1, 0, none⟩) 2 2, .slice (some ⟨w1.heap.size + 1 + 1 + 1 + 1 + 1 + 1 + 1 + 1, 0, none⟩) 2 2] 25) := ⟨_, rfl⟩
  have a10 : TusOn Al W10 (.slice (some ⟨w1.heap.size + 1 + 1 + 1 + 1 + 1 + 1 + 1 + 1 + 1, 0, none⟩) 2 2) aw15R := by rw [h10, ← s9]; exact tus_built13 W9 25 [.slice (some ⟨w1.heap.size + 1 + 1 + 1 + 1 + 1 + 1, 0, none⟩) 2 2, .slice (some ⟨w1.heap.size + 1 + 1 + 1 + 1 + 1 + 1 + 1 + 1, 0, none⟩) 2 2] _ rfl (two_of (P := fun u r => RwsOn Al W9 u r) a7 a9)
  have s10 : W10.heap.size = w1.heap.size + 1 + 1 + 1 + 1 + 1 + 1 + 1 + 1 + 1 + 1 := by rw [h10]; simp [s9]
  have b10 : Below W9.heap.size W9 W10 := by rw [h10]; exact below_new _ _
  rw [← h10]
  replace a5 : TusOn Al W10 (.slice (some ⟨w1.heap.size + 1 + 1 + 1 + 1, 0, none⟩) 2 2) aw15L := a5.below b10 (Nat.le_refl _)
  replace a7 : RwsOn Al W10 (.slice (some ⟨w1.heap.size + 1 + 1 + 1 + 1 + 1 + 1, 0, none⟩) 2 2) [[], [(true, 0)]] := a7.below b10 (Nat.le_refl _)
  replace a9 : RwsOn Al W10 (.slice (some ⟨w1.heap.size + 1 + 1 + 1 + 1 + 1 + 1 + 1 + 1, 0, none⟩) 2 2) [[], [(false, 1)]] := a9.below b10 (Nat.le_refl _)
  replace b1 : Below w1.heap.size w1 W10 := below_join b1 b10
  exact ⟨a5, a10, b1, s10⟩
set_option maxRecDepth 100000 in
theorem awake15_any (w : World) (hW : Want w) (hP : Pows w) :
    Calls Tryd.prog 6 #[] w fun E w' => E = .returned (.bool true) ∧ Below w.heap.size w w' := by
  have ce := fun W => equal6_any 1 0 W
  have HW := Lib.hid hW
  have HP := Lib.hid hP
  have CJ := Lib.hid (show ∀ (k : Int) (m : Nat) (cv lv rv : Value) (W : World), (Hs.join k aw15Ps 1 2 aw15L aw15R).length = m → Below w.heap.size w W → PsAt 1 W cv aw15Ps → TusOn Al W lv aw15L → TusOn Al W rv aw15R → Calls Tryd.prog 13 #[.int .i64 k, cv, lv, rv, .int .u64 1, .int .u64 2] W (fun E w' => ∃ A c, E = .returned (.slice A m c) ∧ Below W.heap.size W w') from fun k m cv lv rv W hm h h1 h2 h3 =>
    (hjoin_own k 1 cv lv rv aw15Ps aw15L aw15R 1 2 W h1 aw15_size (hW.below h (Nat.le_refl _)) (hP.below h (Nat.le_refl _)) h2 h3 aw15_few1 aw15_few2 aw15_wf1 aw15_wf2 (by decide) (by decide)).mono fun E w' hE => by
      obtain ⟨A, a, us, h4, _, _, h5⟩ := hE
      exact ⟨A, a, by rw [← hm]; exact h4, h5⟩)
  clear hW hP
  go_enter Tryd.func6, Tryd.ntmps6
  go_wp2_with fail
  refine (ce _).mono ?_
  rintro E w0 ⟨rfl, hb0⟩
  obtain ⟨W0, hW0⟩ : ∃ W, W = w0.alloc (Obj.cells #[.int .i64 2, .int .i64 0, .int .i64 1, .int .i64 1, .int .i64 1, .int .i64 0, .bool false, .int .i64 0, .int .i64 1, .int .i64 0, .int .i64 0, .bool false, .int .i64 0, .slice none 0 0] 46) := ⟨_, rfl⟩
  have hp0 : PsAt 1 W0 (.slice (some ⟨w0.heap.size, 0, none⟩) 1 1) aw15Ps := by rw [hW0]; exact pred_built13 w0 ⟨2, 0, 1, ⟨1, 1, 0, false, 0⟩, ⟨1, 0, 0, false, 0⟩⟩ [] 0 (.slice none 0 0) ⟨rfl, none, 0, rfl⟩
  have hbW0 : Below w0.heap.size w0 W0 := by rw [hW0]; exact below_new _ _
  have ck : Calls Tryd.prog 7 #[.slice (some ⟨w0.heap.size, 0, none⟩) 1 1, .int .u64 1, .int .u64 2] W0 (OwnKys W0 (Hs.keys aw15Ps 1 2)) := hkeys_any 1 _ aw15Ps 1 2 W0 hp0 (by decide) (by decide) (by decide)
  rw [aw15_keys] at ck
  have HB0 := Lib.hid (below_join hb0 hbW0)
  have HW0 := Lib.hid hW0
  clear hp0 hbW0 hb0 hW0
  go_wp2_with fail
  rw [← HW0.out]
  refine ck.mono ?_
  rintro E w1 ⟨v1, rfl, ho1, hb1⟩
  obtain ⟨g, a1, rfl, ha1, hc1⟩ := own_key15 ho1
  obtain ⟨WZ, hZ, hl, hr, hbZ, hsZ⟩ := aw15_built w1
  have HB1 := Lib.hid (below_join HB0.out hb1)
  have hg : g < w1.heap.size := block_lt_of_cell (hc1 0 _ rfl)
  have HC1 := Lib.hid (show ∀ W, Below w1.heap.size w1 W → W.cell? ⟨g, 1, none⟩ = some (.int .i64 0) ∧ W.cell? ⟨g, 6, none⟩ = some (.int .i64 1) from fun W h => ⟨(h.cell hg).trans (hc1 1 _ rfl), (h.cell hg).trans (hc1 6 _ rfl)⟩)
  obtain ⟨W1, hW1⟩ : ∃ W, W = WZ.alloc (Obj.cells #[.int .i64 1, .int .i64 0, .int .i64 0, .bool false, .int .i64 0, .int .i64 1, .int .i64 0, .int .i64 0, .bool false, .int .i64 0] 35) := ⟨_, rfl⟩
  have hb11 : Below WZ.heap.size WZ W1 := by rw [hW1]; exact below_new _ _
  have ht1 : TmsAt W1 (.slice (some ⟨WZ.heap.size, 0, none⟩) 2 2) [⟨1, 0, 0, false, 0⟩, ⟨1, 0, 0, false, 0⟩] := by rw [hW1]; exact tms_built15 WZ _ _ (tmCells [⟨1, 0, 0, false, 0⟩, ⟨1, 0, 0, false, 0⟩]) rfl rfl
  have hl1 := hl.below hb11 (Nat.le_refl _)
  have hr1 := hr.below hb11 (Nat.le_refl _)
  obtain ⟨b2, o2, p2, B2, d2, hA2, _, hx2⟩ := hl1.pick (i := 0) (t := [[(false, 1)]]) rfl
  obtain ⟨rfl, rfl, rfl⟩ : w1.heap.size + 1 + 1 + 1 + 1 = b2 ∧ 0 = o2 ∧ none = p2 := by cases hA2; exact ⟨rfl, rfl, rfl⟩
  obtain ⟨y2, hu2⟩ := hx2 W1 (Below.refl _ _)
  rw [add_here13] at y2
  have hbw1 : Below w.heap.size w W1 := HB1.out.trans (below_low (hbZ.trans (below_low hb11 hbZ.size)) HB1.out.size)
  have cy := hkey_any _ _ _ _ W1 ht1 hu2.rws (HP.out.below hbw1 (Nat.le_refl _)) (by intro x hx; simp at hx; subst hx; exact ⟨by decide, by decide⟩) (by decide)
  rw [aw15_key] at cy
  have hy2 : WZ.cell? ⟨w1.heap.size + 1 + 1 + 1 + 1, 0, none⟩ = some (.slice B2 1 d2) := by
    have h3 := hb11.cell (p := ⟨w1.heap.size + 1 + 1 + 1 + 1, 0, none⟩) (by rw [hsZ]; show w1.heap.size + 1 + 1 + 1 + 1 < _; omega)
    exact h3.symm.trans y2
  rw [hsZ] at cy
  rw [hW1] at y2
  have HZ := Lib.hid hZ
  have HW1 := Lib.hid hW1
  have HLR := Lib.hid (And.intro hl1 hr1)
  have HBW1 := Lib.hid hbw1
  have HB11 := Lib.hid (hbZ.trans (below_low hb11 hbZ.size))
  have HSZ := Lib.hid hsZ
  clear ck ho1 hb1 hc1 hg hl hr hbZ hb11 ht1 hl1 hr1 hA2 hx2 hu2 hbw1 hW1 hZ hsZ ha1
  rw [HZ.out] at y2
  go_wp2_with fail
  rw [← HZ.out, ← HW1.out]
  refine cy.mono ?_
  rintro E w2 ⟨rfl, hb2⟩
  obtain ⟨z1, z2⟩ := HC1.out w2 (HB11.out.trans (below_low hb2 HB11.out.size))
  have HB2 := Lib.hid (below_join HBW1.out hb2)
  have HL2 := Lib.hid (And.intro (HLR.out.1.below hb2 (Nat.le_refl _)) (HLR.out.2.below hb2 (Nat.le_refl _)))
  clear cy hb2 y2 hy2
  go_wp2_with fail
  refine (ce _).mono ?_
  rintro E w3 ⟨rfl, hb3⟩
  obtain ⟨W3, hW3⟩ : ∃ W, W = w3.alloc (Obj.cells #[.int .i64 2, .int .i64 0, .int .i64 1, .int .i64 1, .int .i64 1, .int .i64 0, .bool false, .int .i64 0, .int .i64 1, .int .i64 0, .int .i64 0, .bool false, .int .i64 0, .slice none 0 0] 46) := ⟨_, rfl⟩
  have hp3 : PsAt 1 W3 (.slice (some ⟨w3.heap.size, 0, none⟩) 1 1) aw15Ps := by rw [hW3]; exact pred_built13 w3 ⟨2, 0, 1, ⟨1, 1, 0, false, 0⟩, ⟨1, 0, 0, false, 0⟩⟩ [] 0 (.slice none 0 0) ⟨rfl, none, 0, rfl⟩
  have hb33 : Below w2.heap.size w2 W3 := below_join hb3 (by rw [hW3]; exact below_new _ _)
  have cj := CJ.out 1 1 _ _ _ W3 aw15_one (below_join HB2.out hb33) hp3 (HL2.out.1.below hb33 (Nat.le_refl _)) (HL2.out.2.below hb33 (Nat.le_refl _))
  have HW3 := Lib.hid hW3
  have HB3 := Lib.hid hb33
  clear hp3 hW3 hb33 hb3 z1 z2
  go_wp2_with fail
  rw [← HW3.out]
  refine cj.mono ?_
  rintro E w4 ⟨A4, a4, rfl, hb4⟩
  have HB4 := Lib.hid (below_join HB3.out hb4)
  clear cj hb4
  go_wp2_with fail
  refine (ce _).mono ?_
  rintro E w5 ⟨rfl, hb5⟩
  obtain ⟨W5, hW5⟩ : ∃ W, W = w5.alloc (Obj.cells #[.int .i64 2, .int .i64 0, .int .i64 1, .int .i64 1, .int .i64 1, .int .i64 0, .bool false, .int .i64 0, .int .i64 1, .int .i64 0, .int .i64 0, .bool false, .int .i64 0, .slice none 0 0] 46) := ⟨_, rfl⟩
  have hp5 : PsAt 1 W5 (.slice (some ⟨w5.heap.size, 0, none⟩) 1 1) aw15Ps := by rw [hW5]; exact pred_built13 w5 ⟨2, 0, 1, ⟨1, 1, 0, false, 0⟩, ⟨1, 0, 0, false, 0⟩⟩ [] 0 (.slice none 0 0) ⟨rfl, none, 0, rfl⟩
  have hb55 : Below w2.heap.size w2 W5 := below_join (below_join HB4.out hb5) (by rw [hW5]; exact below_new _ _)
  have cj := CJ.out 2 2 _ _ _ W5 aw15_two (below_join HB2.out hb55) hp5 (HL2.out.1.below hb55 (Nat.le_refl _)) (HL2.out.2.below hb55 (Nat.le_refl _))
  have HW5 := Lib.hid hW5
  have HB5 := Lib.hid (below_join HB2.out hb55)
  clear hp5 hW5 hb55 hb5
  go_wp2_with fail
  rw [← HW5.out]
  refine cj.mono ?_
  rintro E w6 ⟨A6, a6, rfl, hb6⟩
  have HB6 := Lib.hid (below_join HB5.out hb6)
  clear cj hb6
  go_wp2_with fail
  go_ret
  exact ⟨rfl, HB6.out⟩
end Go.Proofs.YtghonbnmakggnaaDoor
