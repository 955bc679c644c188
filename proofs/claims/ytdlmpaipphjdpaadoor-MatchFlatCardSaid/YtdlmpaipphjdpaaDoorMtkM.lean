/-
  THE STATEMENTS' OWN EXAMPLE (awake).
-/
import Derived.Test.YtdlmpaipphjdpaaDoorMtfM
import Derived.Test.YtdlmpaipphjdpaaDoorMthM
import Derived.Test.YtdlmpaipphjdpaaDoorBgrM
import Derived.Test.YtdlmpaipphjdpaaDoorGPred
namespace Go.Proofs.YtdlmpaipphjdpaaDoor
open Go.RowKit Go.Sort
set_option maxHeartbeats 3200000

def awPs : List Pd := [.mk ⟨2, 0, 1, ⟨1, 0, 0, false, 0⟩, ⟨1, 1, 0, false, 0⟩⟩ []]
def awL : List (List Vl) := [[(false, 1)]]
def awR : List (List (List Vl)) := [[[], [(false, 2)]], [[], [(false, 1)]]]
theorem aw_found : Mt.found awPs awL awR = [[[(false, 1)], [(false, 1)]]] := by decide +kernel
theorem aw_two : Mt.extend 2 awPs awL (awR.take 1) = [awL] := by decide +kernel
theorem aw_three : Mt.extend 3 awPs awL awR = [awL] := by decide +kernel
theorem aw_four : Mt.extend 4 awPs awL awR = [] := by decide +kernel
theorem aw_flat : Mt.flat awL 3 [1, 2] = [(false, 1), (true, 0), (true, 0)] := by decide +kernel
theorem aw_size : Pr.sizes awPs ≤ 1000 := by decide +kernel
theorem pred_built13 (W : World) (f : Pf) (ps : List Pd) (d : Nat) (u : Value) (hu : PsAt d W u ps) :
    PsAt (d + 1) (W.alloc (Obj.cells (f.cells u).toArray 46)) (.slice (some ⟨W.heap.size, 0, none⟩) 1 1) [.mk f ps] := by
  obtain ⟨W1, hW1⟩ : ∃ W1, W1 = W.alloc (Obj.cells (f.cells u).toArray 46) := ⟨_, rfl⟩
  obtain ⟨l, hb⟩ := box_one (cs := f.cells u) hW1
  rw [← hW1]
  refine ⟨some ⟨W.heap.size, 0, none⟩, 1, rfl, by simp, fun j p hj => ?_⟩
  match j, hj with
  | 0, hj =>
    cases hj
    exact ⟨_, _, _, u, rfl, l.lt, l.pd, hu.below hb (Nat.le_refl _)⟩
/-- a row, a tuple, a list of tuples just built -/
theorem row_built13 (W : World) (r : List Vl) : RowOn Al (W.alloc (Obj.cells (rowCells r).toArray 42)) (.slice (some ⟨W.heap.size, 0, none⟩) r.length r.length) r :=
  (flat_row (Lies.new W 42 (rowCells r))).on.mono fun _ _ _ => trivial
theorem rws_built13 (W : World) (e : TypeId) (us : List Value) (rs : List (List Vl)) (hl : us.length = rs.length) (h : ∀ (i : Nat) (r : List Vl), rs[i]? = some r → ∃ u, us[i]? = some u ∧ RowOn Al W u r) :
    RwsOn Al (W.alloc (Obj.cells us.toArray e)) (.slice (some ⟨W.heap.size, 0, none⟩) us.length us.length) rs :=
  ⟨us, (Sl.new W e us).on.mono fun _ _ _ => trivial, hl, fun i r hi => by
    obtain ⟨u, h1, h2⟩ := h i r hi
    exact ⟨u, h1, h2.below (below_new W _) (Nat.le_refl _)⟩⟩
theorem tus_built13 (W : World) (e : TypeId) (us : List Value) (ts : List (List (List Vl))) (hl : us.length = ts.length) (h : ∀ (i : Nat) (r : List (List Vl)), ts[i]? = some r → ∃ u, us[i]? = some u ∧ RwsOn Al W u r) :
    TusOn Al (W.alloc (Obj.cells us.toArray e)) (.slice (some ⟨W.heap.size, 0, none⟩) us.length us.length) ts :=
  ⟨us, (Sl.new W e us).on.mono fun _ _ _ => trivial, hl, fun i r hi => by
    obtain ⟨u, h1, h2⟩ := h i r hi
    exact ⟨u, h1, h2.below (below_new W _) (Nat.le_refl _)⟩⟩
theorem two_of {α β : Type} {P : α → β → Prop} {u v : α} {x y : β} (h1 : P u x) (h2 : P v y) : ∀ (i : Nat) (r : β), [x, y][i]? = some r → ∃ w, [u, v][i]? = some w ∧ P w r := by
  intro i r hi
  match i, hi with
  | 0, hi => cases hi; exact ⟨u, rfl, h1⟩
  | 1, hi => cases hi; exact ⟨v, rfl, h2⟩
theorem one_of {α β : Type} {P : α → β → Prop} {u : α} {x : β} (h1 : P u x) : ∀ (i : Nat) (r : β), [x][i]? = some r → ∃ w, [u][i]? = some w ∧ P w r := by
  intro i r hi
  match i, hi with
  | 0, hi => cases hi; exact ⟨u, rfl, h1⟩
theorem tus_cut {T : Nat → Prop} {w : World} {A : Option Addr} {n c : Nat} {ts : List (List (List Vl))} (h : TusOn T w (.slice A n c) ts) (k : Nat) (hk : k ≤ n) : TusOn T w (.slice A k c) (ts.take k) := by
  obtain ⟨us, ⟨A', c', hv, hc, hx⟩, hl, ht⟩ := h
  injection hv with e1 e2 e3
  subst e1 e3
  refine ⟨us.take k, ⟨A, c, by rw [List.length_take]; congr 1; omega, by rw [List.length_take]; omega, fun j u hj => ?_⟩, by rw [List.length_take, List.length_take, hl], fun i t hi => ?_⟩
  · have := (List.getElem?_eq_some_iff.1 hj).1
    rw [List.length_take] at this
    rw [List.getElem?_take_of_lt (by omega)] at hj
    exact hx j u hj
  · have := (List.getElem?_eq_some_iff.1 hi).1
    rw [List.length_take] at this
    rw [List.getElem?_take_of_lt (by omega)] at hi
    obtain ⟨u, h1, h2⟩ := ht i t hi
    exact ⟨u, by rw [List.getElem?_take_of_lt (by omega)]; exact h1, h2⟩
/-- all that the example builds -/
theorem aw_built (w1 : World) : ∃ W8, W8 = ((((((((w1.alloc (Obj.cells #[.int .i64 2, .int .i64 0, .int .i64 1, .int .i64 1, .int .i64 0, .int .i64 0, .bool false, .int .i64 0, .int .i64 1, .int .i64 1, .int .i64 0, .bool false, .int .i64 0, .slice none 0 0] 46)).alloc (Obj.cells #[.bool false, .int .i64 1] 42)).alloc (Obj.cells #[.slice (some ⟨w1.heap.size + 1, 0, none⟩) 1 1] 36)).alloc (Obj.cells #[.bool false, .int .i64 2] 42)).alloc (Obj.cells #[.slice none 0 0, .slice (some ⟨w1.heap.size + 1 + 1 + 1, 0, none⟩) 1 1] 36)).alloc (Obj.cells #[.bool false, .int .i64 1] 42)).alloc (Obj.cells #[.slice none 0 0, .slice (some ⟨w1.heap.size + 1 + 1 + 1 + 1 + 1, 0, none⟩) 1 1] 36)).alloc (Obj.cells #[.slice (some ⟨w1.heap.size + 1 + 1 + 1 + 1, 0, none⟩) 2 2, .slice (some ⟨w1.heap.size + 1 + 1 + 1 + 1 + 1 + 1, 0, none⟩) 2 2] 23)) ∧ PsAt 1 W8 (.slice (some ⟨w1.heap.size, 0, none⟩) 1 1) awPs ∧ RwsOn Al W8 (.slice (some ⟨w1.heap.size + 1 + 1, 0, none⟩) 1 1) awL ∧ TusOn Al W8 (.slice (some ⟨w1.heap.size + 1 + 1 + 1 + 1 + 1 + 1 + 1, 0, none⟩) 2 2) awR ∧ Below w1.heap.size w1 W8 := by
  refine ⟨_, rfl, ?_⟩
  obtain ⟨W1, h1⟩ : ∃ W, W = w1.alloc (Obj.cells #[.int .i64 2, .int .i64 0, .int .i64 1, .int .i64 1, .int .i64 0, .int .i64 0, .bool false, .int .i64 0, .int .i64 1, .int .i64 1, .int .i64 0, .bool false, .int .i64 0, .slice none 0 0] 46) := ⟨_, rfl⟩
  have a1 : PsAt 1 W1 (.slice (some ⟨w1.heap.size, 0, none⟩) 1 1) awPs := by rw [h1]; exact pred_built13 w1 ⟨2, 0, 1, ⟨1, 0, 0, false, 0⟩, ⟨1, 1, 0, false, 0⟩⟩ [] 0 (.slice none 0 0) ⟨rfl, none, 0, rfl⟩
  have s1 : W1.heap.size = w1.heap.size + 1 := by rw [h1]; simp
  have b1 : Below w1.heap.size w1 W1 := by rw [h1]; exact below_new _ _
  rw [← h1]
  obtain ⟨W2, h2⟩ : ∃ W, W = W1.alloc (Obj.cells #[.bool false, .int .i64 1] 42) := ⟨_, rfl⟩
  have a2 : RowOn Al W2 (.slice (some ⟨w1.heap.size + 1, 0, none⟩) 1 1) [(false, 1)] := by rw [h2, ← s1]; exact row_built13 W1 [(false, 1)]
  have s2 : W2.heap.size = w1.heap.size + 1 + 1 := by rw [h2]; simp [s1]
  have b2 : Below W1.heap.size W1 W2 := by rw [h2]; exact below_new _ _
  rw [← h2]
  obtain ⟨W3, h3⟩ : ∃ W, W = W2.alloc (Obj.cells #[.slice (some ⟨w1.heap.size + 1, 0, none⟩) 1 1] 36) := ⟨_, rfl⟩
  have a3 : RwsOn Al W3 (.slice (some ⟨w1.heap.size + 1 + 1, 0, none⟩) 1 1) awL := by rw [h3, ← s2]; exact rws_built13 W2 36 [.slice (some ⟨w1.heap.size + 1, 0, none⟩) 1 1] awL rfl (one_of (P := fun u r => RowOn Al W2 u r) a2)
  have s3 : W3.heap.size = w1.heap.size + 1 + 1 + 1 := by rw [h3]; simp [s2]
  have b3 : Below W2.heap.size W2 W3 := by rw [h3]; exact below_new _ _
  rw [← h3]
  obtain ⟨W4, h4⟩ : ∃ W, W = W3.alloc (Obj.cells #[.bool false, .int .i64 2] 42) := ⟨_, rfl⟩
  have a4 : RowOn Al W4 (.slice (some ⟨w1.heap.size + 1 + 1 + 1, 0, none⟩) 1 1) [(false, 2)] := by rw [h4, ← s3]; exact row_built13 W3 [(false, 2)]
  have s4 : W4.heap.size = w1.heap.size + 1 + 1 + 1 + 1 := by rw [h4]; simp [s3]
  have b4 : Below W3.heap.size W3 W4 := by rw [h4]; exact below_new _ _
  rw [← h4]
  obtain ⟨W5, h5⟩ : ∃ W, W = W4.alloc (Obj.cells #[.slice none 0 0, .slice (some ⟨w1.heap.size + 1 + 1 + 1, 0, none⟩) 1 1] 36) := ⟨_, rfl⟩
  have a5 : RwsOn Al W5 (.slice (some ⟨w1.heap.size + 1 + 1 + 1 + 1, 0, none⟩) 2 2) [[], [(false, 2)]] := by rw [h5, ← s4]; exact rws_built13 W4 36 [.slice none 0 0, .slice (some ⟨w1.heap.size + 1 + 1 + 1, 0, none⟩) 1 1] _ rfl (two_of (P := fun u r => RowOn Al W4 u r) (RowOn.nil _ _) a4)
  have s5 : W5.heap.size = w1.heap.size + 1 + 1 + 1 + 1 + 1 := by rw [h5]; simp [s4]
  have b5 : Below W4.heap.size W4 W5 := by rw [h5]; exact below_new _ _
  rw [← h5]
  obtain ⟨W6, h6⟩ : ∃ W, W = W5.alloc (Obj.cells #[.bool false, .int .i64 1] 42) := ⟨_, rfl⟩
  have a6 : RowOn Al W6 (.slice (some ⟨w1.heap.size + 1 + 1 + 1 + 1 + 1, 0, none⟩) 1 1) [(false, 1)] := by rw [h6, ← s5]; exact row_built13 W5 [(false, 1)]
  have s6 : W6.heap.size = w1.heap.size + 1 + 1 + 1 + 1 + 1 + 1 := by rw [h6]; simp [s5]
  have b6 : Below W5.heap.size W5 W6 := by rw [h6]; exact below_new _ _
  rw [← h6]
  obtain ⟨W7, h7⟩ : ∃ W, W = W6.alloc (Obj.cells #[.slice none 0 0, .slice (some ⟨w1.heap.size + 1 + 1 + 1 + 1 + 1, 0, none⟩) 1 1] 36) := ⟨_, rfl⟩
  have a7 : RwsOn Al W7 (.slice (some ⟨w1.heap.size + 1 + 1 + 1 + 1 + 1 + 1, 0, none⟩) 2 2) [[], [(false, 1)]] := by rw [h7, ← s6]; exact rws_built13 W6 36 [.slice none 0 0, .slice (some ⟨w1.heap.size + 1 + 1 + 1 + 1 + 1, 0, none⟩) 1 1] _ rfl (two_of (P := fun u r => RowOn Al W6 u r) (RowOn.nil _ _) a6)
  have s7 : W7.heap.size = w1.heap.size + 1 + 1 + 1 + 1 + 1 + 1 + 1 := by rw [h7]; simp [s6]
  have b7 : Below W6.heap.size W6 W7 := by rw [h7]; exact below_new _ _
  rw [← h7]
  have b57 := below_join b6 b7
  have b8 := below_new W7 (Obj.cells #[.slice (some ⟨w1.heap.size + 1 + 1 + 1 + 1, 0, none⟩) 2 2, .slice (some ⟨w1.heap.size + 1 + 1 + 1 + 1 + 1 + 1, 0, none⟩) 2 2] 23)
  have b38 := below_join b4 (below_join b5 (below_join b57 b8))
  refine ⟨a1.below (below_join b2 (below_join b3 b38)) (Nat.le_refl _), a3.below b38 (Nat.le_refl _), ?_, below_join b1 (below_join b2 (below_join b3 b38))⟩
  rw [← s7]
  exact tus_built13 W7 23 [.slice (some ⟨w1.heap.size + 1 + 1 + 1 + 1, 0, none⟩) 2 2, .slice (some ⟨w1.heap.size + 1 + 1 + 1 + 1 + 1 + 1, 0, none⟩) 2 2] awR rfl (two_of (P := fun u r => RwsOn Al W7 u r) (a5.below b57 (Nat.le_refl _)) a7)
theorem aw_tuple (w : World) : ∃ V, V = ((w.alloc (Obj.cells #[.bool false, .int .i64 1] 42)).alloc (Obj.cells #[.bool false, .int .i64 1] 42)).alloc (Obj.cells #[.slice (some ⟨w.heap.size, 0, none⟩) 1 1, .slice (some ⟨w.heap.size + 1, 0, none⟩) 1 1] 36) ∧ RwsOn Al V (.slice (some ⟨w.heap.size + 1 + 1, 0, none⟩) 2 2) [[(false, 1)], [(false, 1)]] ∧ Below w.heap.size w V := by
  refine ⟨_, rfl, ?_⟩
  obtain ⟨W1, h1⟩ : ∃ W, W = w.alloc (Obj.cells #[.bool false, .int .i64 1] 42) := ⟨_, rfl⟩
  have a1 : RowOn Al W1 (.slice (some ⟨w.heap.size, 0, none⟩) 1 1) [(false, 1)] := by rw [h1]; exact row_built13 w [(false, 1)]
  have s1 : W1.heap.size = w.heap.size + 1 := by rw [h1]; simp
  have b1 : Below w.heap.size w W1 := by rw [h1]; exact below_new _ _
  rw [← h1]
  obtain ⟨W2, h2⟩ : ∃ W, W = W1.alloc (Obj.cells #[.bool false, .int .i64 1] 42) := ⟨_, rfl⟩
  have a2 : RowOn Al W2 (.slice (some ⟨w.heap.size + 1, 0, none⟩) 1 1) [(false, 1)] := by rw [h2, ← s1]; exact row_built13 W1 [(false, 1)]
  have s2 : W2.heap.size = w.heap.size + 1 + 1 := by rw [h2]; simp [s1]
  have b2 : Below W1.heap.size W1 W2 := by rw [h2]; exact below_new _ _
  rw [← h2]
  refine ⟨?_, below_join b1 (below_join b2 (below_new W2 _))⟩
  rw [← s2]
  exact rws_built13 W2 36 [.slice (some ⟨w.heap.size, 0, none⟩) 1 1, .slice (some ⟨w.heap.size + 1, 0, none⟩) 1 1] _ rfl (two_of (P := fun u r => RowOn Al W2 u r) (a1.below b2 (Nat.le_refl _)) a2)
theorem aw_row : decide (Bg.cr [(false, 1), (true, 0), (true, 0)] [(false, 1), (true, 0), (true, 0)] = 0) = true := by decide +kernel
set_option maxRecDepth 100000 in
theorem awake13_any (w : World) (hW : Want w) (hT : Tab w) :
    Calls Tryd.prog 7 #[] w fun E w' => E = .returned (.bool true) ∧ Below w.heap.size w w' := by
  have ce := equal6_any 0 1 w
  have HW := Lib.hid (And.intro hW hT)
  clear hW hT
  go_enter Tryd.func7, Tryd.ntmps7
  go_wp2_with fail
  refine ce.mono ?_
  rintro E w1 ⟨rfl, hb1⟩
  clear ce
  obtain ⟨W8, h8, hp8, hl8, hr8, hb8⟩ := aw_built w1
  have H8 := Lib.hid h8
  have hb08 := below_join hb1 hb8
  have HW8 := Lib.hid (And.intro (HW.out.1.below hb08 (Nat.le_refl _)) (HW.out.2.below hb08))
  have HP8 := Lib.hid (And.intro hp8 (And.intro hl8 hr8))
  have HB8 := Lib.hid hb08
  have cm := matches_any 1 _ _ _ awPs awL awR W8 hp8 aw_size HW8.out.1 hl8 hr8 (by decide) (by decide) (by decide) (by decide) (by decide)
  rw [aw_found] at cm
  clear hp8 hl8 hr8 hb8 hb08 h8 hb1
  go_wp2_with fail
  rw [← H8.out]
  clear H8
  refine cm.mono ?_
  rintro E w2 ⟨MA, mc, rfl, hm, hb2⟩
  clear cm
  generalize hG : w1.heap.size = G at *
  clear hG
  have CE := Lib.hid (show ∀ (k : Int) (W : World), Below W8.heap.size W8 W → Calls Tryd.prog 12 #[.int .i64 k, .slice (some ⟨G, 0, none⟩) 1 1, .slice (some ⟨G + 1 + 1, 0, none⟩) 1 1, .slice (some ⟨G + 1 + 1 + 1 + 1 + 1 + 1 + 1, 0, none⟩) 2 2] W (Tuples W (Mt.extend k awPs awL awR)) from fun k W h =>
    extend_any k 1 _ _ _ awPs awL awR W (HP8.out.1.below h (Nat.le_refl _)) aw_size (HW8.out.1.below h (Nat.le_refl _)) (HP8.out.2.1.below h (Nat.le_refl _)) (HP8.out.2.2.below h (Nat.le_refl _)) (by decide) (by decide) (by decide) (by decide) (by decide))
  have ce := extend_any 2 1 _ _ _ awPs awL (awR.take 1) w2 (HP8.out.1.below hb2 (Nat.le_refl _)) aw_size (HW8.out.1.below hb2 (Nat.le_refl _)) (HP8.out.2.1.below hb2 (Nat.le_refl _)) ((tus_cut HP8.out.2.2 1 (by omega)).below hb2 (Nat.le_refl _)) (by decide) (by decide) (by decide) (by decide) (by decide)
  rw [aw_two] at ce
  have hm : TusOn Al w2 (.slice MA 1 mc) [[[(false, 1)], [(false, 1)]]] := hm
  have HM := Lib.hid hm
  have HB2 := Lib.hid hb2
  clear hm hb2
  go_wp2_with fail
  refine ce.mono ?_
  rintro E w3 ⟨EA, ec, rfl, he, hb3⟩
  have he : TusOn Al w3 (.slice EA 1 ec) [awL] := he
  have hb23 := below_join HB2.out hb3
  obtain ⟨b1, o1, p1, B1, d1, rfl, _, h1⟩ := he.pick (i := 0) (t := awL) rfl
  have y1 := (h1 _ (Below.refl _ _)).1
  have y1 : w3.cell? ⟨b1, o1, p1⟩ = some (.slice B1 1 d1) := y1
  have ht := (h1 _ (below_new w3 (Obj.cells #[.int .i64 1, .int .i64 2] 3))).2
  have cf := flat_any _ (.slice (some ⟨w3.heap.size, 0, none⟩) 2 2) awL 3 [1, 2] (w3.alloc (Obj.cells #[.int .i64 1, .int .i64 2] 3)) ht (by decide) (Sl.new w3 3 [.int .i64 1, .int .i64 2]) (by decide) (by decide) (by decide) (by decide) (HW8.out.2.below (below_join hb23 (below_new w3 _)))
  rw [aw_flat] at cf
  have HB3 := Lib.hid hb23
  clear ce he h1 ht hb23
  go_wp2_with fail
  refine cf.mono ?_
  rintro E w4 ⟨FA, fc, rfl, hf, hb4⟩
  have hf : RowAt w4 (.slice FA 3 fc) [(false, 1), (true, 0), (true, 0)] := hf
  have hb24 := below_join hb3 (below_join (below_new w3 _) hb4)
  obtain ⟨b2, o2, p2, B2, d2, rfl, _, h2⟩ := HM.out.pick (i := 0) (t := [[(false, 1)], [(false, 1)]]) rfl
  have y2 := (h2 _ hb24).1
  have y2 : w4.cell? ⟨b2, o2, p2⟩ = some (.slice B2 2 d2) := y2
  have hmt : RwsOn Al w4 (.slice B2 2 d2) [[(false, 1)], [(false, 1)]] := (h2 _ hb24).2
  have HF := Lib.hid hf
  have HB4 := Lib.hid (below_join HB2.out hb24)
  have HMT := Lib.hid hmt
  clear cf y1 h2 hf hmt hb4 hb3 hb24
  obtain ⟨V, hV, hvt, hvb⟩ := aw_tuple w4
  have cs := r13same_any Al _ _ [[(false, 1)], [(false, 1)]] [[(false, 1)], [(false, 1)]] V (HMT.out.below hvb (Nat.le_refl _)) hvt (by decide) (by decide) (by decide) (by decide)
  rw [Mt.same_refl] at cs
  have HV := Lib.hid hV
  have HVB := Lib.hid hvb
  clear hV hvt hvb
  go_wp2_with fail
  rw [← HV.out]
  clear HV
  refine cs.mono ?_
  rintro E w5 ⟨rfl, hb5⟩
  have hb45 := below_join HVB.out hb5
  have hrow : RowAt (w5.alloc (Obj.cells #[.bool false, .int .i64 1, .bool true, .int .i64 0, .bool true, .int .i64 0] 42)) (.slice (some ⟨w5.heap.size, 0, none⟩) 3 3) [(false, 1), (true, 0), (true, 0)] := (row_built13 w5 [(false, 1), (true, 0), (true, 0)]).at_
  have cr := r9same_any _ _ _ _ _ (HF.out.below (below_join hb45 (below_new w5 _)) (Nat.le_refl _)) hrow (by decide) (by decide)
  rw [aw_row] at cr
  have HB5 := Lib.hid (below_join hb45 (below_new w5 (Obj.cells #[.bool false, .int .i64 1, .bool true, .int .i64 0, .bool true, .int .i64 0] 42)))
  clear cs y2 hb5 hb45 hrow
  go_wp2_with fail
  refine cr.mono ?_
  rintro E w6 ⟨rfl, hb6⟩
  have hb86 := below_join HB4.out (below_join HB5.out hb6)
  have c3 := CE.out 3 w6 hb86
  rw [aw_three] at c3
  have HB6 := Lib.hid hb86
  clear cr hb6 hb86
  go_wp2_with fail
  refine c3.mono ?_
  rintro E w7 ⟨A7, a7, rfl, _, hb7⟩
  have hb87 := below_join HB6.out hb7
  have c4 := CE.out 4 w7 hb87
  rw [aw_four] at c4
  have HB7 := Lib.hid hb87
  clear c3 hb7 hb87
  go_wp2_with fail
  refine c4.mono ?_
  rintro E w9 ⟨A8, a8, rfl, _, hb8⟩
  have HB9 := Lib.hid (below_join HB8.out (below_join HB7.out hb8))
  clear c4 hb8
  go_wp2_with fail
  go_ret
  exact ⟨rfl, HB9.out⟩
end Go.Proofs.YtdlmpaipphjdpaaDoor
