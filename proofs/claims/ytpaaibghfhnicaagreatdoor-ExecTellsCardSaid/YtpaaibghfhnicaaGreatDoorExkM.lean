/-
  THE LAW's Rows; Bears.
-/
import Derived.Test.YtpaaibghfhnicaaGreatDoorExgM
import Derived.Test.YtpaaibghfhnicaaGreatDoorGCkC
import Derived.Test.YtpaaibghfhnicaaGreatDoorGMtC
namespace Go.Proofs.YtpaaibghfhnicaaGreatDoor
open Go.RowKit Go.Sort
set_option maxHeartbeats 3200000

theorem Lies.alloc_ {w W : World} {g : Nat} {T : TypeId} {cs : List Value} {o : Obj} (h : Lies w g T cs) (e : W = w.alloc o) : Lies W g T cs := by rw [e]; exact h.alloc o
theorem lies_sl16 {w : World} {g : Nat} {T : TypeId} {xs : List Value} (h : Lies w g T xs) : Sl w (.slice (some ⟨g, 0, none⟩) xs.length xs.length) xs := by
  refine ⟨some ⟨g, 0, none⟩, xs.length, rfl, Nat.le_refl _, fun j u hj => ⟨g, 0, none, rfl, h.lt, ?_⟩⟩
  rw [add_here13]
  exact h.cell hj
theorem rws_lies {w : World} {g : Nat} {T : TypeId} {us : List Value} {rs : List (List Vl)} (h : Lies w g T us) (hl : us.length = rs.length) (hr : ∀ (i : Nat) (r : List Vl), rs[i]? = some r → ∃ u, us[i]? = some u ∧ RowAt w u r) : Rws w (.slice (some ⟨g, 0, none⟩) rs.length rs.length) rs :=
  ⟨us, by rw [← hl]; exact lies_sl16 h, hl, hr⟩
theorem dts_cut {w : World} {A : Option Addr} {n c : Nat} {d : List (List (List Vl))} (h : Dts w (.slice A n c) d) (k : Nat) (hk : k ≤ n) : Dts w (.slice A k c) (d.take k) := by
  obtain ⟨A', c', hv, hc, hx⟩ := h
  cases hv
  refine ⟨A, c, by rw [List.length_take, Nat.min_eq_left hk], by rw [List.length_take]; omega, fun j rs hj => ?_⟩
  by_cases hjk : j < k
  · rw [List.getElem?_take_of_lt hjk] at hj
    exact hx j rs hj
  · rw [List.getElem?_eq_none (by rw [List.length_take]; omega)] at hj
    cases hj
def aw16A : List (List Vl) := [[(false, 1), (false, 5)], [(true, 0), (false, 6)]]
def aw16B : List (List Vl) := [[(false, 1), (false, 7)], [(false, 1), (true, 0)], [(true, 0), (false, 8)]]
def aw16D : List (List (List Vl)) := [aw16A, aw16B]
theorem rows16_built (w : World) : ∃ WZ, WZ = (((((((w.alloc (Obj.cells #[.bool false, .int .i64 1, .bool false, .int .i64 5] 60)).alloc (Obj.cells #[.bool true, .int .i64 0, .bool false, .int .i64 6] 60)).alloc (Obj.cells #[.slice (some ⟨w.heap.size, 0, none⟩) 2 2, .slice (some ⟨w.heap.size + 1, 0, none⟩) 2 2] 53)).alloc (Obj.cells #[.bool false, .int .i64 1, .bool false, .int .i64 7] 60)).alloc (Obj.cells #[.bool false, .int .i64 1, .bool true, .int .i64 0] 60)).alloc (Obj.cells #[.bool true, .int .i64 0, .bool false, .int .i64 8] 60)).alloc (Obj.cells #[.slice (some ⟨w.heap.size + 1 + 1 + 1, 0, none⟩) 2 2, .slice (some ⟨w.heap.size + 1 + 1 + 1 + 1, 0, none⟩) 2 2, .slice (some ⟨w.heap.size + 1 + 1 + 1 + 1 + 1, 0, none⟩) 2 2] 53)).alloc (Obj.cells #[.slice (some ⟨w.heap.size + 1 + 1, 0, none⟩) 2 2, .slice (some ⟨w.heap.size + 1 + 1 + 1 + 1 + 1 + 1, 0, none⟩) 3 3] 36) ∧
    Dts WZ (.slice (some ⟨w.heap.size + 1 + 1 + 1 + 1 + 1 + 1 + 1, 0, none⟩) 2 2) aw16D ∧ Below w.heap.size w WZ := by
  refine ⟨_, rfl, ?_⟩
  obtain ⟨W1, h1⟩ : ∃ W, W = w.alloc (Obj.cells #[.bool false, .int .i64 1, .bool false, .int .i64 5] 60) := ⟨_, rfl⟩
  have l1 : Lies W1 w.heap.size 60 (rowCells [(false, 1), (false, 5)]) := by rw [h1]; exact Lies.new _ _ _
  have s1 : W1.heap.size = w.heap.size + 1 := by rw [h1]; simp
  have b1 : Below w.heap.size w W1 := by rw [h1]; exact below_new _ _
  rw [← h1]
  obtain ⟨W2, h2⟩ : ∃ W, W = W1.alloc (Obj.cells #[.bool true, .int .i64 0, .bool false, .int .i64 6] 60) := ⟨_, rfl⟩
  have l2 : Lies W2 (w.heap.size + 1) 60 (rowCells [(true, 0), (false, 6)]) := by rw [h2, ← s1]; exact Lies.new _ _ _
  have l1 := l1.alloc_ h2
  have s2 : W2.heap.size = w.heap.size + 1 + 1 := by rw [h2]; simp [s1]
  have b2 : Below w.heap.size w W2 := by rw [h2]; exact b1.alloc (by omega) _
  rw [← h2]
  obtain ⟨W3, h3⟩ : ∃ W, W = W2.alloc (Obj.cells #[.slice (some ⟨w.heap.size, 0, none⟩) 2 2, .slice (some ⟨w.heap.size + 1, 0, none⟩) 2 2] 53) := ⟨_, rfl⟩
  have l3 : Lies W3 (w.heap.size + 1 + 1) 53 [.slice (some ⟨w.heap.size, 0, none⟩) 2 2, .slice (some ⟨w.heap.size + 1, 0, none⟩) 2 2] := by rw [h3, ← s2]; exact Lies.new _ _ _
  have l1 := l1.alloc_ h3
  have l2 := l2.alloc_ h3
  have s3 : W3.heap.size = w.heap.size + 1 + 1 + 1 := by rw [h3]; simp [s2]
  have b3 : Below w.heap.size w W3 := by rw [h3]; exact b2.alloc (by omega) _
  rw [← h3]
  have hA : Rws W3 (.slice (some ⟨w.heap.size + 1 + 1, 0, none⟩) 2 2) aw16A := rws_lies (rs := aw16A) l3 rfl (two_of (flat_row l1) (flat_row l2))
  clear l1 l2
  obtain ⟨W4, h4⟩ : ∃ W, W = W3.alloc (Obj.cells #[.bool false, .int .i64 1, .bool false, .int .i64 7] 60) := ⟨_, rfl⟩
  have l4 : Lies W4 (w.heap.size + 1 + 1 + 1) 60 (rowCells [(false, 1), (false, 7)]) := by rw [h4, ← s3]; exact Lies.new _ _ _
  have e4 : Below W3.heap.size W3 W4 := by rw [h4]; exact below_new _ _
  have s4 : W4.heap.size = w.heap.size + 1 + 1 + 1 + 1 := by rw [h4]; simp [s3]
  rw [← h4]
  obtain ⟨W5, h5⟩ : ∃ W, W = W4.alloc (Obj.cells #[.bool false, .int .i64 1, .bool true, .int .i64 0] 60) := ⟨_, rfl⟩
  have l5 : Lies W5 (w.heap.size + 1 + 1 + 1 + 1) 60 (rowCells [(false, 1), (true, 0)]) := by rw [h5, ← s4]; exact Lies.new _ _ _
  have l4 := l4.alloc_ h5
  have e5 : Below W3.heap.size W3 W5 := by rw [h5]; exact e4.alloc e4.size _
  have s5 : W5.heap.size = w.heap.size + 1 + 1 + 1 + 1 + 1 := by rw [h5]; simp [s4]
  rw [← h5]
  obtain ⟨W6, h6⟩ : ∃ W, W = W5.alloc (Obj.cells #[.bool true, .int .i64 0, .bool false, .int .i64 8] 60) := ⟨_, rfl⟩
  have l6 : Lies W6 (w.heap.size + 1 + 1 + 1 + 1 + 1) 60 (rowCells [(true, 0), (false, 8)]) := by rw [h6, ← s5]; exact Lies.new _ _ _
  have l4 := l4.alloc_ h6
  have l5 := l5.alloc_ h6
  have e6 : Below W3.heap.size W3 W6 := by rw [h6]; exact e5.alloc e5.size _
  have s6 : W6.heap.size = w.heap.size + 1 + 1 + 1 + 1 + 1 + 1 := by rw [h6]; simp [s5]
  rw [← h6]
  obtain ⟨W7, h7⟩ : ∃ W, W = W6.alloc (Obj.cells #[.slice (some ⟨w.heap.size + 1 + 1 + 1, 0, none⟩) 2 2, .slice (some ⟨w.heap.size + 1 + 1 + 1 + 1, 0, none⟩) 2 2, .slice (some ⟨w.heap.size + 1 + 1 + 1 + 1 + 1, 0, none⟩) 2 2] 53) := ⟨_, rfl⟩
  have l7 : Lies W7 (w.heap.size + 1 + 1 + 1 + 1 + 1 + 1) 53 [.slice (some ⟨w.heap.size + 1 + 1 + 1, 0, none⟩) 2 2, .slice (some ⟨w.heap.size + 1 + 1 + 1 + 1, 0, none⟩) 2 2, .slice (some ⟨w.heap.size + 1 + 1 + 1 + 1 + 1, 0, none⟩) 2 2] := by rw [h7, ← s6]; exact Lies.new _ _ _
  have l4 := l4.alloc_ h7
  have l5 := l5.alloc_ h7
  have l6 := l6.alloc_ h7
  have e7 : Below W3.heap.size W3 W7 := by rw [h7]; exact e6.alloc e6.size _
  have s7 : W7.heap.size = w.heap.size + 1 + 1 + 1 + 1 + 1 + 1 + 1 := by rw [h7]; simp [s6]
  rw [← h7]
  have hB : Rws W7 (.slice (some ⟨w.heap.size + 1 + 1 + 1 + 1 + 1 + 1, 0, none⟩) 3 3) aw16B := rws_lies (rs := aw16B) l7 rfl fun i r hi => by
    match i, hi with
    | 0, hi => cases hi; exact ⟨_, rfl, flat_row l4⟩
    | 1, hi => cases hi; exact ⟨_, rfl, flat_row l5⟩
    | 2, hi => cases hi; exact ⟨_, rfl, flat_row l6⟩
  obtain ⟨W8, h8⟩ : ∃ W, W = W7.alloc (Obj.cells #[.slice (some ⟨w.heap.size + 1 + 1, 0, none⟩) 2 2, .slice (some ⟨w.heap.size + 1 + 1 + 1 + 1 + 1 + 1, 0, none⟩) 3 3] 36) := ⟨_, rfl⟩
  have l8 : Lies W8 (w.heap.size + 1 + 1 + 1 + 1 + 1 + 1 + 1) 36 [.slice (some ⟨w.heap.size + 1 + 1, 0, none⟩) 2 2, .slice (some ⟨w.heap.size + 1 + 1 + 1 + 1 + 1 + 1, 0, none⟩) 3 3] := by rw [h8, ← s7]; exact Lies.new _ _ _
  have e8 : Below W7.heap.size W7 W8 := by rw [h8]; exact below_new _ _
  rw [← h8]
  have hA8 := (hA.below e7 (Nat.le_refl _)).below e8 (Nat.le_refl _)
  have hB8 := hB.below e8 (Nat.le_refl _)
  refine ⟨⟨some ⟨_, 0, none⟩, 2, rfl, Nat.le_refl _, fun j rs hj => ?_⟩, below_join b3 (below_join e7 e8)⟩
  match j, hj with
  | 0, hj => cases hj; exact ⟨_, 0, none, _, _, rfl, l8.lt, by rw [add_here13]; exact l8.cell (i := 0) rfl, hA8⟩
  | 1, hj => cases hj; exact ⟨_, 0, none, _, _, rfl, l8.lt, by rw [add_here13]; exact l8.cell (i := 1) rfl, hB8⟩
theorem rows16_any (w : World) : Calls Tryz.prog 24 #[] w fun E w' => ∃ g, E = .returned (.slice (some ⟨g, 0, none⟩) 2 2) ∧ Dts w' (.slice (some ⟨g, 0, none⟩) 2 2) aw16D ∧ Below w.heap.size w w' := by
  obtain ⟨WZ, hZ, hD, hb⟩ := rows16_built w
  have HD := Lib.hid hD
  have HB := Lib.hid hb
  have HZ := Lib.hid hZ
  clear hZ hD hb
  go_enter Tryz.func24, Tryz.ntmps24
  go_wp2_with fail
  rw [← HZ.out]
  go_ret
  exact ⟨_, rfl, HD.out, HB.out⟩
set_option maxRecDepth 100000 in
theorem bears16_any (a : Tr) (cols : List Int) (cv u v dv : Value) (D : List (List (List Vl))) (M : Nat) (w : World) (hc : Sl w cv (cols.map (Value.int .i64))) (hu : ∃ d, TsAt d w u a.ks) (hv : PsSome w v a.cs) (hd : Dts w dv D) (hM : M ≤ 10000) :
    Calls Tryz.prog 17 #[.agg #[cv, .int .i64 a.k, .int .i64 a.t, u, v, .bool a.h], dv, .int .i64 (M : Int)] w
      fun e w' => ∃ b : Bool, e = .returned (.bool b) ∧ (b = true → Tr.size a ≤ 600 ∧ Ck.data cols a D = 0 ∧ Ex.prod D (Tr.all a) ≤ M) ∧ Below w.heap.size w w' := by
  obtain ⟨A, c, rfl, _⟩ := hu.elim fun d h => h.form
  obtain ⟨A', c', rfl, _⟩ := hv.elim fun d h => h.form
  obtain ⟨W0, hW0⟩ : ∃ W0, W0 = w.alloc (Obj.cells #[cv, .int .i64 a.k, .int .i64 a.t, .slice A a.ks.length c, .slice A' a.cs.length c', .bool a.h] 28) := ⟨_, rfl⟩
  obtain ⟨l0, hb0⟩ := box_one (cs := [cv, .int .i64 a.k, .int .i64 a.t, .slice A a.ks.length c, .slice A' a.cs.length c', .bool a.h]) hW0
  have cf := few11_any a cv (.slice A a.ks.length c) (.slice A' a.cs.length c') W0 (hu.elim fun d h => ⟨d, h.below hb0 (Nat.le_refl _)⟩) (hv.below hb0 (Nat.le_refl _))
  have CL := Lib.hid (fun W (h : Below W0.heap.size W0 W) => light11_any dv D W (hd.below (below_join hb0 h) (Nat.le_refl _)))
  have CD := Lib.hid (fun W (h : Below W0.heap.size W0 W) (hs : Tr.size a ≤ 1000) => have hbw := below_join hb0 h; rdata11_any a cols cv (.slice A a.ks.length c) (.slice A' a.cs.length c') dv D W (hc.below hbw (Nat.le_refl _)) (hu.elim fun d h => ⟨d, h.below hbw (Nat.le_refl _)⟩) (hv.below hbw (Nat.le_refl _)) (hd.below hbw (Nat.le_refl _)) hs)
  have CB := Lib.hid (fun W (h : Below W0.heap.size W0 W) (hs : Tr.size a ≤ 1000) (hz : Ck.data cols a D = 0) => have hbw := below_join hb0 h; have hso := Ex.sound_of hz; hu.elim fun d hu => r16bears_any d a (.slice A a.ks.length c) (.slice A' a.cs.length c') dv D M W (hu.below hbw (Nat.le_refl _)) (hv.below hbw (Nat.le_refl _)) (hd.below hbw (Nat.le_refl _)) hs hM (fun rs hrs => by
      obtain ⟨j, hj, rfl⟩ := List.mem_iff_getElem.1 hrs
      have hjc : j < cols.length := by have := hso.len; omega
      have := (hso.rows j _ _ (List.getElem?_eq_getElem hj) (List.getElem?_eq_getElem hjc)).1
      omega) (by have := hso.len; have := hso.wide; omega))
  obtain ⟨cA, cn, cc, rfl⟩ : ∃ cA cn cc, cv = .slice cA cn cc := by obtain ⟨A, c, h, _⟩ := hc; exact ⟨A, _, c, h⟩
  obtain ⟨DA, dc, rfl, _⟩ := id hd
  have HX := Lib.hid (fun W (h : Below W0.heap.size W0 W) => l0.below h l0.lt)
  have x0 := l0.cell (i := 0) rfl
  have x1 := l0.cell (i := 1) rfl
  have x2 := l0.cell (i := 2) rfl
  have x3 := l0.cell (i := 3) rfl
  have x4 := l0.cell (i := 4) rfl
  have x5 := l0.cell (i := 5) rfl
  have HW := Lib.hid hW0
  have HB0 := Lib.hid hb0
  clear hW0 l0 hb0 hc hu hv hd
  by_cases hs : Tr.size a ≤ 600
  · rw [decide_eq_true hs] at cf
    have HS := Lib.hid hs
    clear hs
    go_enter Tryz.func17, Tryz.ntmps17
    go_upto_region 1 with (fail)
    rw [← HW.out]
    go_wp2_with fail
    refine cf.mono ?_
    rintro e w1 ⟨rfl, hb1⟩
    have cl := CL.out w1 hb1
    clear cf
    go_wp2_with fail
    refine cl.mono ?_
    rintro e w2 ⟨b, rfl, rfl⟩
    have HB1 := Lib.hid hb1
    cases b
    · clear cl hb1
      go_wp2_with fail
      go_ret
      exact ⟨false, rfl, (fun h => nomatch h), below_join HB0.out HB1.out⟩
    · have cd := CD.out w1 hb1 (by have := HS.out; omega)
      obtain ⟨z, hz⟩ : ∃ z, z = Ck.data cols a D := ⟨_, rfl⟩
      rw [← hz] at cd
      have HZ := Lib.hid hz
      have l := HX.out w1 hb1
      have x0 := l.cell (i := 0) rfl
      have x1 := l.cell (i := 1) rfl
      have x2 := l.cell (i := 2) rfl
      have x3 := l.cell (i := 3) rfl
      have x4 := l.cell (i := 4) rfl
      have x5 := l.cell (i := 5) rfl
      clear cl hb1 l hz
      go_wp2_with fail
      refine cd.mono ?_
      rintro e w3 ⟨rfl, hb3⟩
      have hb13 := below_join HB1.out hb3
      have l := HX.out w3 hb13
      have x0 := l.cell (i := 0) rfl
      have x1 := l.cell (i := 1) rfl
      have x2 := l.cell (i := 2) rfl
      have x3 := l.cell (i := 3) rfl
      have x4 := l.cell (i := 4) rfl
      have x5 := l.cell (i := 5) rfl
      have HB3 := Lib.hid hb13
      clear cd l hb3
      by_cases hz0 : z = 0
      · have cb := CB.out w3 hb13 (by have := HS.out; omega) (HZ.out.symm.trans hz0)
        have HZ0 := Lib.hid (HZ.out.symm.trans hz0)
        subst hz0
        obtain ⟨pb, hpb⟩ : ∃ pb, pb = decide (Ex.prod D (Tr.all a) ≤ M) := ⟨_, rfl⟩
        rw [← hpb] at cb
        have HPB := Lib.hid hpb
        clear hb13 hpb
        go_wp2_with fail
        refine cb.mono ?_
        rintro e w4 ⟨rfl, hb4⟩
        have HB4 := Lib.hid (below_join HB3.out hb4)
        clear cb hb4 x0 x1 x2 x3 x4 x5
        go_wp2_with fail
        go_ret
        exact ⟨pb, rfl, fun h => ⟨HS.out, HZ0.out, of_decide_eq_true (HPB.out.symm.trans h)⟩, below_join HB0.out HB4.out⟩
      · have hz1 : (z == 0) = false := by simpa using hz0
        clear hb13
        go_wp2_with fail
        go_ret
        exact ⟨false, rfl, (fun h => nomatch h), below_join HB0.out HB3.out⟩
  · rw [decide_eq_false hs] at cf
    clear hs
    go_enter Tryz.func17, Tryz.ntmps17
    go_upto_region 1 with (fail)
    rw [← HW.out]
    go_wp2_with fail
    refine cf.mono ?_
    rintro e w1 ⟨rfl, hb1⟩
    have HB1 := Lib.hid hb1
    clear cf hb1
    go_wp2_with fail
    go_ret
    exact ⟨false, rfl, (fun h => nomatch h), below_join HB0.out HB1.out⟩
end Go.Proofs.YtpaaibghfhnicaaGreatDoor
