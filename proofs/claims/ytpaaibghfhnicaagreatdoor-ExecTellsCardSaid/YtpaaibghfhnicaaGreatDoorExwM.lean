/-
  THE LAW's awake of layer 16.
-/
import Derived.Test.YtpaaibghfhnicaaGreatDoorExfM
import Derived.Test.YtpaaibghfhnicaaGreatDoorExkM
import Derived.Test.YtpaaibghfhnicaaGreatDoorGMtA
namespace Go.Proofs.YtpaaibghfhnicaaGreatDoor
open Go.RowKit Go.Sort
set_option maxHeartbeats 6400000

def aw16W : List Int := [0, 2, 3, 1, 1]
theorem aw16_data : ∀ q : Nat, 0 < q → q < 5 → Ck.data [2, 2] (twoTrI (q : Int) 1) aw16D = 0 := fun q h0 h5 => by
  rcases (show q = 1 ∨ q = 2 ∨ q = 3 ∨ q = 4 by omega) with rfl | rfl | rfl | rfl <;> decide +kernel
theorem aw16_bad : Ck.data [2, 2] (twoTrI 0 1) aw16D = 7 := by decide +kernel
theorem aw16_len : ∀ q : Nat, 0 < q → q < 5 → aw16W[q]? = some (((Ex.run [2, 2] (twoTrI (q : Int) 1) aw16D).length : Nat) : Int) := fun q h0 h5 => by
  rcases (show q = 1 ∨ q = 2 ∨ q = 3 ∨ q = 4 by omega) with rfl | rfl | rfl | rfl <;> decide +kernel
theorem aw16_prod : ∀ q : Nat, q < 5 → Ex.prod aw16D (Tr.all (twoTrI (q : Int) 1)) ≤ 10000 := fun q h5 => by
  rcases (show q = 0 ∨ q = 1 ∨ q = 2 ∨ q = 3 ∨ q = 4 by omega) with rfl | rfl | rfl | rfl | rfl <;> decide +kernel
theorem aw16_wf : ∀ rs ∈ aw16D, ∀ x ∈ rs, ∀ v ∈ x, -9223372036854775808 ≤ v.2 ∧ v.2 ≤ 9223372036854775807 := by decide +kernel
theorem aw16_ok (q : Nat) (h5 : q < 5) (h : Ck.data [2, 2] (twoTrI (q : Int) 1) aw16D = 0) : Ex.Ok 10000 [2, 2] aw16D (twoTrI (q : Int) 1) :=
  (Ex.sound_of h).ok aw16_wf (aw16_prod q h5) (twoI_size _ _)
theorem aw16_one : Ck.data [2] (leafTr 0) [aw16A] = 0 := by decide +kernel
theorem aw16_rows : Ex.run [2] (leafTr 0) [aw16A] = aw16A := by decide +kernel
theorem aw16_ok1 (h : Ck.data [2] (leafTr 0) [aw16A] = 0) : Ex.Ok 10000 [2] [aw16A] (leafTr 0) :=
  (Ex.sound_of h).ok (by decide +kernel) (by decide +kernel) (by decide +kernel)
theorem aw16_none : Ck.data [] (leafTr 0) [] = 5 := by decide +kernel
theorem aw16_list : decide (Bg.lex Bg.cr aw16A aw16A = 0) = true := decide_eq_true ((Bg.lex_cmp Bg.cr_cmp).self _)
theorem aw16_nil (W : World) : Dts W (.slice none 0 0) [] := ⟨none, 0, rfl, by simp, fun j u hj => by simp at hj⟩
theorem aw16_ts (W : World) : ∃ d, TsAt d W (.slice none 0 0) (leafTr 0).ks := ⟨0, rfl, none, 0, rfl⟩
theorem aw16_ps (W : World) : PsSome W (.slice none 0 0) (leafTr 0).cs := ⟨0, rfl, none, 0, rfl⟩
set_option maxRecDepth 100000 in
theorem run16_two (q : Nat) (h5 : q < 5) (C g h G : Nat) (W : World) (lC : Lies W C 3 [.int .i64 2, .int .i64 2]) (lg : Lies W g 26 (twoCells 1)) (lh : Lies W h 77 eqCells) (hD : Dts W (.slice (some ⟨G, 0, none⟩) 2 2) aw16D) (hW : Want W) (hP : Pows W) (hT : Tab W) :
    Calls Tryz.prog 11 #[.agg #[.slice (some ⟨C, 0, none⟩) 2 2, .int .i64 (q : Int), .int .i64 0, .slice (some ⟨g, 0, none⟩) 2 2, .slice (some ⟨h, 0, none⟩) 1 1, .bool false], .slice (some ⟨G, 0, none⟩) 2 2] W
      fun E w' => ∃ (A : Option Addr) (n c : Nat) (z : Int), E = .returned (.tuple #[.slice A n c, .int .i64 z]) ∧ (0 < q → aw16W[q]? = some (n : Int) ∧ z = 0) ∧ Below W.heap.size W w' :=
  (xrun_any (twoTrI (q : Int) 1) [2, 2] (.slice (some ⟨C, 0, none⟩) 2 2) (.slice (some ⟨g, 0, none⟩) 2 2) (.slice (some ⟨h, 0, none⟩) 1 1) (.slice (some ⟨G, 0, none⟩) 2 2) aw16D W (lies_sl16 lC) (lies_two (k := (q : Int)) lg lh).1 (lies_two (k := (q : Int)) lg lh).2 hD (twoI_size _ _) hW hP hT (aw16_ok q h5)).mono fun E w' hr => by
    obtain ⟨A, c, rfl, _, hb⟩ := hr
    exact ⟨A, _, c, _, rfl, fun h0 => ⟨aw16_len q h0 h5, aw16_data q h0 h5⟩, hb⟩
theorem run16_one (C G c : Nat) (W : World) (lC : Lies W C 3 [.int .i64 2]) (hD : Dts W (.slice (some ⟨G, 0, none⟩) 1 c) [aw16A]) (hW : Want W) (hP : Pows W) (hT : Tab W) :
    Calls Tryz.prog 11 #[.agg #[.slice (some ⟨C, 0, none⟩) 1 1, .int .i64 0, .int .i64 0, .slice none 0 0, .slice none 0 0, .bool false], .slice (some ⟨G, 0, none⟩) 1 c] W
      fun E w' => ∃ (A : Option Addr) (c : Nat), E = .returned (.tuple #[.slice A 2 c, .int .i64 0]) ∧ Rws w' (.slice A 2 c) aw16A ∧ Below W.heap.size W w' :=
  (xrun_any (leafTr 0) [2] (.slice (some ⟨C, 0, none⟩) 1 1) (.slice none 0 0) (.slice none 0 0) (.slice (some ⟨G, 0, none⟩) 1 c) [aw16A] W (lies_sl16 lC) (aw16_ts W) (aw16_ps W) hD (by decide +kernel) hW hP hT aw16_ok1).mono fun E w' hr => by
    obtain ⟨A, c, h1, h2, hb⟩ := hr
    rw [aw16_rows, aw16_one] at h1
    rw [aw16_rows] at h2
    exact ⟨A, c, h1, h2, hb⟩
theorem run16_none (W : World) (hW : Want W) (hP : Pows W) (hT : Tab W) :
    Calls Tryz.prog 11 #[.agg #[.slice none 0 0, .int .i64 0, .int .i64 0, .slice none 0 0, .slice none 0 0, .bool false], .slice none 0 0] W
      fun E w' => ∃ (A : Option Addr) (n c : Nat), E = .returned (.tuple #[.slice A n c, .int .i64 5]) ∧ Below W.heap.size W w' :=
  (xrun_any (leafTr 0) [] (.slice none 0 0) (.slice none 0 0) (.slice none 0 0) (.slice none 0 0) [] W ⟨none, 0, rfl, by simp, fun j u hj => by simp at hj⟩ (aw16_ts W) (aw16_ps W) (aw16_nil W) (by decide +kernel) hW hP hT (fun h => by rw [aw16_none] at h; simp at h)).mono fun E w' hr => by
    obtain ⟨A, c, h1, h2, hb⟩ := hr
    rw [aw16_none] at h1
    exact ⟨A, _, c, h1, hb⟩
set_option maxRecDepth 100000 in
theorem awake16_any (w : World) (hW : Want w) (hP : Pows w) (hT : Tab w) : Calls Tryz.prog 8 #[] w fun E w' => E = .returned (.bool true) ∧ Below w.heap.size w w' := by
  obtain ⟨W1, hW1⟩ : ∃ W1, W1 = w.alloc (Obj.cells #[.int .i64 0, .int .i64 2, .int .i64 3, .int .i64 1, .int .i64 1] 3) := ⟨_, rfl⟩
  have l1 : Lies W1 w.heap.size 3 (aw16W.map (Value.int .i64)) := by rw [hW1]; exact Lies.new _ _ _
  have hb1 : Below w.heap.size w W1 := by rw [hW1]; exact below_new _ _
  have HL1 := Lib.hid l1
  have HB1 := Lib.hid hb1
  have HW1 := Lib.hid hW1
  have HG := Lib.hid (And.intro hW (And.intro hP hT))
  clear hW1 l1 hb1 hW hP hT
  go_enter Tryz.func8, Tryz.ntmps8
  go_wp2_with fail
  rw [← HW1.out]
  go_loopw [11] (fun i wr => ∃ q : Nat, q ≤ 5 ∧ i = .int .i64 q ∧ Below W1.heap.size W1 wr) (fun i _ => 5 - (intOf i).toNat)
  case atStart => exact ⟨0, by omega, rfl, Below.refl _ _⟩
  case round =>
    obtain ⟨q, hq, rfl, hb⟩ := hrel
    by_cases hlt : q < 5
    · have i1 : (0 : Int) ≤ (q : Int) := by omega
      have i2 : (q : Int) < 5 := by omega
      obtain ⟨wt, hwt⟩ : ∃ wt, aw16W[q]? = some wt := ⟨aw16W[q]'hlt, List.getElem?_eq_getElem _⟩
      have l1 := HL1.out.below hb HL1.out.lt
      have c1 := l1.cell (i := q) (u := .int .i64 wt) (by rw [List.getElem?_map, hwt]; rfl)
      have ct := twos11_any (q : Int) wr
      have HWT := Lib.hid hwt
      have HB := Lib.hid hb
      clear l1 hb hwt
      go_wp2_with fail
      refine ct.mono ?_
      rintro e w2 ⟨C, g, h, rfl, hlC, hlg, hlh, _, hb2⟩
      have cr := rows16_any w2
      have HL := Lib.hid (And.intro hlC (And.intro hlg hlh))
      have HB2 := Lib.hid (below_join HB.out hb2)
      clear ct hlC hlg hlh hb2 c1
      go_wp2_with fail
      refine cr.mono ?_
      rintro e w3 ⟨G, rfl, hD, hb3⟩
      have HB3 := Lib.hid (below_join HB2.out hb3)
      have hbw := below_join HB1.out HB3.out
      have cx := run16_two q hlt C g h G w3 (HL.out.1.below hb3 HL.out.1.lt) (HL.out.2.1.below hb3 HL.out.2.1.lt) (HL.out.2.2.below hb3 HL.out.2.2.lt) hD (HG.out.1.below hbw (Nat.le_refl _)) (HG.out.2.1.below hbw (Nat.le_refl _)) (HG.out.2.2.below hbw)
      clear cr hD hb3 hbw
      go_wp2_with fail
      refine cx.mono ?_
      rintro e w4 ⟨A, n, c, z, rfl, hnz, hb4⟩
      have HB4 := Lib.hid (below_join HB3.out hb4)
      clear cx hb4
      by_cases h0 : q = 0
      · subst h0
        have k0 : ¬ ((0 : Nat) : Int) > 0 := by omega
        clear hnz
        go_wp2_with fail
        go_roundw
        case rel => exact ⟨1, by omega, by go_num, HB4.out⟩
        case measure => simp [intOf]
      · obtain ⟨h1, rfl⟩ := hnz (by omega)
        have hnw : (n : Int) = wt := Option.some.inj (h1.symm.trans HWT.out)
        subst hnw
        have k0 : (q : Int) > 0 := by omega
        have k1 : (0 : Int) < (q : Int) := by omega
        clear h1
        go_wp2_with fail
        go_roundw
        case rel => exact ⟨q + 1, by omega, by go_num, HB4.out⟩
        case measure => simp [intOf]; omega
    · have i2 : ¬ ((q : Int) < 5) := by omega
      obtain ⟨W5, hW5⟩ : ∃ W5, W5 = wr.alloc (Obj.cells #[.int .i64 2] 3) := ⟨_, rfl⟩
      have l5 : Lies W5 wr.heap.size 3 [.int .i64 2] := by rw [hW5]; exact Lies.new _ _ _
      have hb5 : Below wr.heap.size wr W5 := by rw [hW5]; exact below_new _ _
      have cr := rows16_any W5
      have HL5 := Lib.hid l5
      have HB5 := Lib.hid (below_join hb hb5)
      have HW5 := Lib.hid hW5
      clear hb l5 hb5 hW5 hlt
      go_wp2_with fail
      rw [← HW5.out]
      refine cr.mono ?_
      rintro e w6 ⟨G, rfl, hD, hb6⟩
      have HB6 := Lib.hid (below_join HB5.out hb6)
      have hbw := below_join HB1.out HB6.out
      have cx := run16_one wr.heap.size G 2 w6 (HL5.out.below hb6 HL5.out.lt) (dts_cut hD 1 (by decide)) (HG.out.1.below hbw (Nat.le_refl _)) (HG.out.2.1.below hbw (Nat.le_refl _)) (HG.out.2.2.below hbw)
      clear cr hD hb6 hbw
      go_wp2_with fail
      refine cx.mono ?_
      rintro e w7 ⟨A7, c7, rfl, hR7, hb7⟩
      have HB7 := Lib.hid (below_join HB6.out hb7)
      have HR7 := Lib.hid hR7
      have hbw := below_join HB1.out HB7.out
      have cn := run16_none w7 (HG.out.1.below hbw (Nat.le_refl _)) (HG.out.2.1.below hbw (Nat.le_refl _)) (HG.out.2.2.below hbw)
      clear cx hR7 hb7 hbw
      go_wp2_with fail
      refine cn.mono ?_
      rintro e w8 ⟨A8, n8, c8, rfl, hb8⟩
      have HB8 := Lib.hid (below_join HB7.out hb8)
      have HR8 := Lib.hid (HR7.out.below hb8 (Nat.le_refl _))
      have cr := rows16_any w8
      clear cn hb8
      go_wp2_with fail
      refine cr.mono ?_
      rintro e w9 ⟨G9, rfl, hD9, hb9⟩
      have HB9 := Lib.hid (below_join HB8.out hb9)
      obtain ⟨b9, o9, p9, B9, e9, hG9, _, hc9, hr9⟩ := hD9.at_ (j := 0) (rs := aw16A) rfl
      cases hG9
      rw [show (⟨G9, 0, none⟩ : Addr).add 0 = ⟨G9, 0, none⟩ from add_here13 _ _] at hc9
      obtain ⟨vs, hvs⟩ := HR8.out.below hb9 (Nat.le_refl _)
      obtain ⟨us, hus⟩ := hr9
      have cl := r9list_any (.slice A7 2 c7) (.slice B9 2 e9) vs us aw16A aw16A w9 hvs hus (by decide) (by decide) (by decide) (by decide)
      rw [aw16_list] at cl
      change w9.cell? ⟨G9, 0, none⟩ = some (.slice B9 2 e9) at hc9
      clear cr hD9 hb9 hvs hus
      go_wp2_with fail
      refine cl.mono ?_
      rintro e w10 ⟨rfl, hb10⟩
      have HB10 := Lib.hid (below_join HB1.out (below_join HB9.out hb10))
      clear cl hc9 hb10
      go_wp2_with fail
      go_ret
      exact ⟨rfl, HB10.out⟩
end Go.Proofs.YtpaaibghfhnicaaGreatDoor
