/-
  THE DOCUMENT's Tuples of layer 16.
-/
import Derived.Test.YtpaaibghfhnicaaGreatDoorExdM
import Derived.Test.YtpaaibghfhnicaaGreatDoorGNs
namespace Go.Proofs.YtpaaibghfhnicaaGreatDoor
open Go.RowKit Go.Sort
set_option maxHeartbeats 6400000

/-- a leaf's tuple in a list of one's own -/
theorem leaf_own {T : Nat → Prop} {w : World} {t : Nat} {v u : Value} {r : List Vl} (hl : SlOn T w v (List.replicate t (.slice none 0 0) ++ [u])) (hu : RowOn T w u r) : RwsOn T w v (List.replicate t [] ++ [r]) := by
  refine ⟨List.replicate t (.slice none 0 0) ++ [u], hl, by simp, fun i x hi => ?_⟩
  rcases Nat.lt_trichotomy i t with h | h | h
  · rw [List.getElem?_append_left (by simpa using h), List.getElem?_replicate, if_pos h] at hi
    cases hi
    exact ⟨.slice none 0 0, by rw [List.getElem?_append_left (by simpa using h), List.getElem?_replicate, if_pos h], RowOn.nil _ _⟩
  · subst h
    rw [List.getElem?_append_right (by simp)] at hi
    simp at hi
    subst hi
    exact ⟨u, by rw [List.getElem?_append_right (by simp)]; simp, hu⟩
  · rw [List.getElem?_eq_none (by simp; omega)] at hi
    cases hi
set_option maxRecDepth 100000 in
theorem r16leaf_any (t : Nat) (u v dv : Value) (h : Bool) (D : List (List (List Vl))) (rs : List (List Vl)) (w : World) (hu : ∃ A n c, u = .slice A n c) (hv : ∃ A n c, v = .slice A n c) (hd : Dts w dv D) (hg : D[t]? = some rs) (ht : t < 64) (hrs : rs.length ≤ 10000) :
    Calls Tryz.prog 16 #[.agg #[.int .i64 0, .int .i64 (t : Int), u, v, .bool h], dv] w (Tuples w (Ex.leaf (t : Int) D)) := by
  obtain ⟨i0, hi, hz0, hz1, hz2⟩ := info_parts Tryz.infoTup13
  obtain ⟨ir, gi, gz0, gz1, gz2⟩ := info_parts Tryz.infoRow13
  obtain ⟨A, m, c, rfl⟩ := hu
  obtain ⟨A', m', c', rfl⟩ := hv
  obtain ⟨W0, hW0⟩ : ∃ W0, W0 = w.alloc (Obj.cells #[.int .i64 0, .int .i64 (t : Int), .slice A m c, .slice A' m' c', .bool h] 26) := ⟨_, rfl⟩
  obtain ⟨l0, hb0⟩ := box_one (cs := [.int .i64 0, .int .i64 (t : Int), .slice A m c, .slice A' m' c', .bool h]) hW0
  have htl : t < D.length := (List.getElem?_eq_some_iff.1 hg).1
  have he : Ex.leaf (t : Int) D = rs.map fun r => List.replicate t [] ++ [r] := by unfold Ex.leaf; rw [Int.toNat_natCast, hg]; rfl
  rw [he]
  obtain ⟨DA, dc, rfl, hdc, hat⟩ := hd
  obtain ⟨b, o, p, B, e, rfl, hlt, hcell, hrws⟩ := hat t rs hg
  have hro := hrws.on.below hb0 (Nat.le_refl _)
  obtain ⟨f, hf⟩ : ∃ f : List Vl → List (List Vl), f = fun r => List.replicate t [] ++ [r] := ⟨_, rfl⟩
  rw [← hf]
  have HF := Lib.hid hf
  obtain ⟨dl, hdl⟩ : ∃ n, n = D.length := ⟨_, rfl⟩
  rw [← hdl] at htl hdc ⊢
  obtain ⟨n, hn⟩ : ∃ n, n = rs.length := ⟨_, rfl⟩
  rw [← hn] at hrs hcell hro
  have HRO := Lib.hid hro
  have HN := Lib.hid hn
  have HX := Lib.hid (fun W (h : Below W0.heap.size W0 W) => (And.intro (l0.below h l0.lt) (h.cell (by rw [add_block]; have := hb0.size; exact Nat.lt_of_lt_of_le hlt this) |>.trans ((hb0.cell (by rw [add_block]; exact hlt)).trans hcell)) : _ ∧ W.cell? ((⟨b, o, p⟩ : Addr).add t) = some (.slice B n e)))
  have HB0 := Lib.hid hb0
  have HW := Lib.hid hW0
  have j3 : (0 : Int) ≤ (t : Int) := by omega
  have j4 : (t : Int) < (dl : Int) := by omega
  have x0 := l0.cell (i := 0) rfl
  have x1 := l0.cell (i := 1) rfl
  have HOW := Lib.hid (own_empty W0 36 1 W0.heap.size (Nat.le_refl _) W0.heap.size rfl)
  have hb1 := below_new W0 (Obj.cells #[] 36)
  clear hat hrws hro hdl hn hg he hf hlt hcell hW0 l0 hb0
  go_enter Tryz.func16, Tryz.ntmps16
  go_upto_region 1 with (fail)
  rw [← HW.out]
  go_wp2_with fail
  clear x0 x1
  go_loopw [5, 6] (fun s i wr => ∃ (q a : Nat) (us : List Value) (A : Option Addr), q ≤ n ∧ i = .int .i64 q ∧ s = .slice A q a ∧ q ≤ a ∧ Hid (TuRow Al W0.heap.size wr (.slice A q a) q us ((rs.take q).map f)) ∧ Below W0.heap.size W0 wr) (fun _ i _ => n - (intOf i).toNat)
  case atStart => exact ⟨0, 0, [], _, Nat.zero_le _, rfl, rfl, Nat.le_refl _, Lib.hid ⟨HOW.out, by simp, fun i t h => by simp at h⟩, hb1⟩
  case round =>
    obtain ⟨q, a, us, A, hq, rfl, rfl, hqa, HT, hb⟩ := hrel
    have x1 := (HX.out wr hb).1.cell (i := 1) rfl
    have x9 := (HX.out wr hb).2
    by_cases hlt : q < n
    · obtain ⟨r, gr⟩ : ∃ r, rs[q]? = some r := ⟨rs[q]'(by have := HN.out; omega), List.getElem?_eq_getElem _⟩
      obtain ⟨b1, o1, p1, B1, d1, hB0, hd1, h1⟩ := HRO.out.pick gr
      subst hB0
      have HMAP := Lib.hid (show (rs.take (q + 1)).map f = (rs.take q).map f ++ [f r] by rw [List.take_add_one, gr]; simp)
      have H1 := Lib.hid h1
      obtain ⟨rl, hrl⟩ : ∃ n, n = r.length := ⟨_, rfl⟩
      have HRL := Lib.hid hrl
      rw [← hrl] at H1
      have i1 : (0 : Int) ≤ (q : Int) := by omega
      have i2 : (q : Int) < (n : Int) := by omega
      have HOX := Lib.hid (own_empty wr 53 1 wr.heap.size (Nat.le_refl _) wr.heap.size rfl)
      have hbx := below_new wr (Obj.cells #[] 53)
      have HB := Lib.hid hb
      clear h1 gr hd1 hrl hb
      go_wp2_with fail
      clear x1 x9
      obtain ⟨wo, hwo⟩ : ∃ wo, wo = wr := ⟨_, rfl⟩
      subst hwo
      go_loopw [7, 8] (fun s i wr => ∃ (j a : Nat) (A : Option Addr), j ≤ t ∧ i = .int .i64 j ∧ s = .slice A j a ∧ Hid (wr.ownsRow wo.heap.size 53 1 (.slice A j a) j (List.replicate j (.slice none 0 0))) ∧ Below wo.heap.size wo wr) (fun _ i _ => t - (intOf i).toNat)
      case atStart => exact ⟨0, 0, _, Nat.zero_le _, rfl, rfl, HOX, hbx⟩
      case round =>
        obtain ⟨j, xa, XA, hj, rfl, rfl, HO, hbx⟩ := hrel
        have hbw := below_join HB.out hbx
        have x1 := (HX.out wr hbw).1.cell (i := 1) rfl
        by_cases hjt : j < t
        · have k2 : (j : Int) < (t : Int) := by omega
          have HBX := Lib.hid hbx
          have hown := HO.out.alloc (Obj.cells #[.slice none 0 0] 53)
          have HOA := Lib.hid hown
          have HCN := Lib.hid (cell_one_new wr (.slice none 0 0) 53)
          clear hbx hbw hown
          go_wp2_with (first
            | (at_builtin; refine wpList_append_at _ rfl _ _ 36 rfl wo.heap.size 53 ir (.slice none 0 0) 1 24 Tryz.underlying36 gi gz0 gz1 gz2 rfl (by decide) _ j _ rfl HOA.out ⟨wr.heap.size, 0, none⟩ 1 1 [.slice none 0 0] rfl rfl ?c1 ?c2 ?c3 ?c4 ?c5 ?_))
          case c1 => exact HCN.out
          case c2 => intro u hu; simp at hu; subst hu; rfl
          case c3 => unfold maxLen; omega
          case c4 => omega
          case c5 => have := HBX.out.size; simp; omega
          intro v1 w6 hown3 hgrow hwhere
          have hb6 : Below wo.heap.size wo w6 := (HBX.out.alloc HBX.out.size _).grown hgrow (by have := HBX.out.size; simp; omega) (fun k hk => (HO.out.lt k hk).1)
          obtain ⟨A5, a5, rfl⟩ := ownsForm hown3
          have HO6 := Lib.hid (show w6.ownsRow wo.heap.size 53 1 (.slice A5 (j + 1) a5) (j + 1) (List.replicate (j + 1) (.slice none 0 0)) by rw [List.replicate_succ']; exact hown3)
          clear hown3 hgrow hwhere x1
          go_wp2_with fail
          go_roundw
          case rel => exact ⟨j + 1, a5, A5, by omega, by go_num, rfl, HO6, hb6⟩
          case measure => simp [intOf]; omega
        · obtain rfl : j = t := by omega
          have k2 : ¬ ((j : Int) < (j : Int)) := by omega
          have x9 := (HX.out wr hbw).2
          have x5 := (H1.out wr hbw).1
          have HBX := Lib.hid hbx
          have HBW := Lib.hid hbw
          have HUR := Lib.hid (H1.out wr hbw).2
          have hown := HO.out.alloc (Obj.cells #[.slice B1 rl d1] 53)
          have HOA := Lib.hid hown
          have HCN := Lib.hid (cell_one_new wr (.slice B1 rl d1) 53)
          clear hbx hbw hown hjt
          go_wp2_with (first
            | (at_builtin; refine wpList_append_at _ rfl _ _ 36 rfl wo.heap.size 53 ir (.slice none 0 0) 1 24 Tryz.underlying36 gi gz0 gz1 gz2 rfl (by decide) _ j _ rfl HOA.out ⟨wr.heap.size, 0, none⟩ 1 1 [.slice B1 rl d1] rfl rfl ?d1 ?d2 ?d3 ?d4 ?d5 ?_))
          case d2 => first | rfl | (intro u hu; simp at hu; subst hu; rfl)
          case d3 => unfold maxLen; omega
          case d4 => omega
          case d5 => have := HBX.out.size; simp; omega
          intro v1 w6 hown3 hgrow hwhere
          have hb6 : Below wo.heap.size wo w6 := (HBX.out.alloc HBX.out.size _).grown hgrow (by have := HBX.out.size; simp; omega) (fun k hk => (HO.out.lt k hk).1)
          obtain ⟨A5, a5, rfl⟩ := ownsForm hown3
          have hbw6 := below_join HB.out hb6
          have hu6 : RowOn (fun k => k < w.heap.size) w6 (.slice B1 rl d1) r := by
            have h5 := (H1.out w6 hbw6).2
            exact h5
          have ht6 : RwsOn (fun k => wo.heap.size ≤ k ∨ k < w.heap.size) w6 (.slice A5 (j + 1) a5) (List.replicate j [] ++ [r]) :=
            leaf_own ((SlOn.own hown3).mono fun k _ hk => .inl (hown3.lt k hk).1) (hu6.mono fun k _ hk => .inr hk)
          have hT6 := HT.out.below hb6
          have hb7 := below_new w6 (Obj.cells #[.slice A5 (j + 1) a5] 36)
          have hT7 := hT6.below hb7
          have ht7 := ht6.below hb7 (Nat.le_refl _)
          have hbw7 := below_join hbw6 hb7
          have HT7 := Lib.hid hT7
          have HCN7 := Lib.hid (cell_one_new w6 (.slice A5 (j + 1) a5) 36)
          have HBB := Lib.hid hbw7
          have HPUSH := Lib.hid (fun v1 w8 (hown : w8.ownsRow W0.heap.size 36 1 v1 (q + 1) (us ++ [.slice A5 (j + 1) a5])) (hg : (w6.alloc (Obj.cells #[.slice A5 (j + 1) a5] 36)).grownBy w8 (Value.slice A q a).ownBlock) (hw : v1.ownBlock = (Value.slice A q a).ownBlock ∨ ∃ g, v1.ownBlock = some g ∧ (w6.alloc (Obj.cells #[.slice A5 (j + 1) a5] 36)).heap.size ≤ g) =>
            hT7.push (ht7.mono fun k _ hk => ⟨fun e => by have h8 := HT.out.own.lt k e; have := HB0.out.size; rcases hk with hk | hk <;> omega, trivial⟩) hown hg hw)
          clear hown3 hgrow hwhere hb6 hbw6 hu6 ht6 hT6 hb7 hT7 ht7 hbw7 x1 x9 x5
          go_wp2_with (first
            | (at_builtin; refine wpList_append_at _ rfl _ _ 29 rfl W0.heap.size 36 i0 (.slice none 0 0) 1 24 Tryz.underlying29 hi hz0 hz1 hz2 rfl (by decide) _ q us rfl HT7.out.own ⟨w6.heap.size, 0, none⟩ 1 1 [.slice A5 (j + 1) a5] rfl rfl ?e1 ?e2 ?e3 ?e4 ?e5 ?_))
          case e1 => exact HCN7.out
          case e2 => intro u hu; simp at hu; subst hu; rfl
          case e3 => unfold maxLen; omega
          case e4 => omega
          case e5 => exact HBB.out.size
          intro v8 w8 hown8 hgrow8 hwhere8
          have hT8 := HPUSH.out v8 w8 hown8 hgrow8 (by simpa only [World.size_alloc] using hwhere8)
          have hb8 : Below W0.heap.size W0 w8 := HBB.out.grown hgrow8 HBB.out.size (fun k hk => (HT7.out.own.lt k hk).1)
          obtain ⟨A9, a9, rfl, ha9⟩ : ∃ A5 a5, v8 = .slice A5 (q + 1) a5 ∧ q + 1 ≤ a5 := by
            rcases hown8.2 with ⟨rfl, h0⟩ | ⟨g, cap, cur, rfl, _, _, hnc, _⟩
            · omega
            · exact ⟨_, cap, rfl, hnc⟩
          have hfr : f r = List.replicate j [] ++ [r] := by rw [HF.out]
          rw [← hfr, ← HMAP.out] at hT8
          have HT8 := Lib.hid hT8
          clear hT8 hown8 hgrow8 hwhere8 hfr
          go_wp2_with fail
          go_roundw
          case rel => exact ⟨q + 1, a9, _, A9, by omega, by go_num, rfl, ha9, HT8, hb8⟩
          case measure => simp [intOf]; omega
    · have hres := Lib.hid (show Tuples w (rs.map f) (.returned (.slice A q a)) wr from by
        have h1 := HT.out
        rw [List.take_of_length_le (by have := HN.out; omega)] at h1
        have h2 := h1.len
        exact ⟨A, a, by rw [h2], by rw [h2]; exact h1.tus, below_join HB0.out hb⟩)
      have i2 : ¬ ((q : Int) < (n : Int)) := by omega
      clear hb hlt HT
      go_wp2_with fail
      go_ret
      exact hres.out
set_option maxRecDepth 100000 in
theorem r16tuples_any (cols : List Int) (D : List (List (List Vl))) (dv : Value) (dd : Nat) : ∀ (a : Tr) (u v : Value) (w : World), TsAt dd w u a.ks → PsSome w v a.cs → Ex.Ok 10000 cols D a → Dts w dv D →
    Calls Tryz.prog 16 #[.agg #[.int .i64 a.k, .int .i64 a.t, u, v, .bool a.h], dv] w (Tuples w (Ex.tuples D a)) := by
  induction dd using Nat.strongRecOn with
  | _ dd ih =>
  intro a u v w hu hv hok hd
  by_cases hk : a.k = 0
  · obtain ⟨tn, rs, htn, hg, h64, hrs, hx⟩ := hok.leaf hk
    rw [Ex.tuples_leaf hk, htn, hk]
    exact r16leaf_any tn u v dv a.h D rs w (by obtain ⟨A, c, rfl, _⟩ := hu.form; exact ⟨_, _, _, rfl⟩) (by obtain ⟨A, c, rfl, _⟩ := hv.elim fun d h => h.form; exact ⟨_, _, _, rfl⟩) hd hg h64 hrs
  · obtain ⟨W0, hW0⟩ : ∃ W0, W0 = w.alloc (Obj.cells #[.int .i64 a.k, .int .i64 a.t, u, v, .bool a.h] 26) := ⟨_, rfl⟩
    obtain ⟨l0, pc, hb0⟩ := tr_box (a := a) (u := u) (v := v) hW0
    have hd0 := hd.below hb0 (Nat.le_refl _)
    obtain ⟨d', hv⟩ := hv
    have hv' := hv.below hb0 (Nat.le_refl _)
    obtain ⟨P0, p0, rfl, _⟩ := hv.form
    obtain ⟨x, y, hks, _⟩ := hok.good.op hk
    obtain ⟨hokx, hoky⟩ := hok.kids hk hks
    have HJN := Lib.hid (Ex.tuples_op (d := D) hk hks).symm
    have HSZ := Lib.hid (show Pr.sizes a.cs ≤ 1000 by have h1 := Tr.size_at a; have := hok.size; omega)
    have HFEW := Lib.hid (And.intro (hokx.few (Nat.le_refl _)) (hoky.few (Nat.le_refl _)))
    rw [hks] at hu
    obtain ⟨A, c, hu0, _⟩ := hu.form
    change u = .slice A 2 c at hu0
    subst hu0
    have hts : TsAt dd W0 (.slice A ([x, y] : List Tr).length c) [x, y] := hu.below hb0 (Nat.le_refl _)
    obtain ⟨e6, b0, o0, s0, u6, v6, hlt6, rfl, hb0l, hX⟩ := hts.at_ (j := 0) (a := x) rfl
    obtain ⟨e8, b0', o0', s0', u8, v8, hlt8, hA8, _, hY⟩ := hts.at_ (j := 1) (a := y) rfl
    obtain ⟨rfl, rfl, rfl⟩ : b0 = b0' ∧ o0 = o0' ∧ s0 = s0' := by
      simp only [Option.some.injEq, Addr.mk.injEq] at hA8
      exact hA8
    obtain ⟨B6, d6, rfl, _⟩ := (hX W0 (Below.refl _ _)).2.2.form
    obtain ⟨B7, d7, rfl, _⟩ := (hX W0 (Below.refl _ _)).2.1.elim fun d h => h.form
    obtain ⟨B8, d8, rfl, _⟩ := (hY W0 (Below.refl _ _)).2.2.form
    obtain ⟨B9, d9, rfl, _⟩ := (hY W0 (Below.refl _ _)).2.1.elim fun d h => h.form
    simp only [Nat.zero_mul, add_zero9] at hX
    have hadd : (⟨b0, o0, s0⟩ : Addr).add (1 * 5) = ⟨b0, o0 + 5, none⟩ := by unfold Addr.add; simp
    simp only [hadd] at hY
    obtain ⟨n1, hn1⟩ : ∃ n, n = (Ex.tuples D x).length := ⟨_, rfl⟩
    obtain ⟨n2, hn2⟩ : ∃ n, n = (Ex.tuples D y).length := ⟨_, rfl⟩
    obtain ⟨JL, hJL⟩ : ∃ n, n = (Ex.tuples D a).length := ⟨_, rfl⟩
    have HNN := Lib.hid (And.intro hn1 (And.intro hn2 hJL))
    have CX := Lib.hid (fun W (h : Below W0.heap.size W0 W) => (ih e6 hlt6 x _ (.slice B7 x.cs.length d7) W (hX W h).2.2 (hX W h).2.1 hokx (hd0.below h (Nat.le_refl _))).mono fun e w' ho =>
      (show ∃ A3 a3, e = Ending.returned (.slice A3 n1 a3) ∧ Hid (TusOn Al w' (.slice A3 n1 a3) (Ex.tuples D x)) ∧ Below W0.heap.size W0 w' from by
        obtain ⟨A3, a3, rfl, h4, h6⟩ := ho
        rw [HNN.out.1]
        exact ⟨A3, a3, rfl, Lib.hid h4, below_join h h6⟩))
    have CY := Lib.hid (fun W (h : Below W0.heap.size W0 W) => (ih e8 hlt8 y _ (.slice B9 y.cs.length d9) W (hY W h).2.2 (hY W h).2.1 hoky (hd0.below h (Nat.le_refl _))).mono fun e w' ho =>
      (show ∃ A3 a3, e = Ending.returned (.slice A3 n2 a3) ∧ Hid (TusOn Al w' (.slice A3 n2 a3) (Ex.tuples D y)) ∧ Hid (Below W.heap.size W w') ∧ Below W0.heap.size W0 w' from by
        obtain ⟨A3, a3, rfl, h4, h6⟩ := ho
        rw [HNN.out.2.1]
        exact ⟨A3, a3, rfl, Lib.hid h4, Lib.hid h6, below_join h h6⟩))
    have CJ := Lib.hid (fun W (lv rv : Value) (h : Below W0.heap.size W0 W) (hl : TusOn Al W lv (Ex.tuples D x)) (hr : TusOn Al W rv (Ex.tuples D y)) =>
      have hbw := below_join hb0 h
      (r14join_any a.k d' (.slice P0 a.cs.length p0) lv rv a.cs (Ex.tuples D x) (Ex.tuples D y) W (hv.below hbw (Nat.le_refl _)) HSZ.out hl hr HFEW.out.1 HFEW.out.2).mono fun e w' ho =>
        (show ∃ A2 a2, e = Ending.returned (.slice A2 JL a2) ∧ Hid (Tuples w (Ex.tuples D a) (.returned (.slice A2 JL a2)) w') ∧ Below W0.heap.size W0 w' from by
          rw [HJN.out] at ho
          obtain ⟨A2, a2, rfl, h5, h6⟩ := ho
          rw [HNN.out.2.2]
          exact ⟨A2, a2, rfl, Lib.hid ⟨A2, a2, rfl, h5, below_join hbw h6⟩, below_join h h6⟩))
    have HY := Lib.hid hY
    have HX := Lib.hid hX
    have HPC := Lib.hid pc
    have HLT := Lib.hid l0.lt
    obtain ⟨x0, _, _, _, _⟩ := id pc
    obtain ⟨DA, dc, rfl, _⟩ := id hd
    obtain ⟨ak, hak⟩ : ∃ z, z = a.k := ⟨_, rfl⟩
    obtain ⟨at_, hat⟩ : ∃ z, z = a.t := ⟨_, rfl⟩
    obtain ⟨ah, hah⟩ : ∃ z, z = a.h := ⟨_, rfl⟩
    have HK := Lib.hid hak
    have hak0 : (ak != 0) = true := by rw [hak]; simpa using hk
    rw [← hak] at hW0 x0 CJ ⊢
    rw [← hat] at hW0 ⊢
    rw [← hah] at hW0 ⊢
    obtain ⟨pl, hpl⟩ : ∃ z, z = a.cs.length := ⟨_, rfl⟩
    have HPL := Lib.hid hpl
    rw [← hpl] at hW0 CJ ⊢
    have HW := Lib.hid hW0
    have KK := Lib.hid (fun W (h : Below W0.heap.size W0 W) => (show (W.cell? ⟨w.heap.size, 0, none⟩ = some (.int .i64 ak) ∧ W.cell? ⟨w.heap.size, 2, none⟩ = some (.slice (some ⟨b0, o0, s0⟩) 2 c) ∧ W.cell? ⟨w.heap.size, 3, none⟩ = some (.slice P0 pl p0) ∧ W.cell? (⟨b0, o0, s0⟩ : Addr) = some (.int .i64 x.k) ∧ W.cell? ⟨(⟨b0, o0, s0⟩ : Addr).block, (⟨b0, o0, s0⟩ : Addr).off + 1, none⟩ = some (.int .i64 x.t) ∧ W.cell? ⟨(⟨b0, o0, s0⟩ : Addr).block, (⟨b0, o0, s0⟩ : Addr).off + 2, none⟩ = some (.slice B6 x.ks.length d6) ∧ W.cell? ⟨(⟨b0, o0, s0⟩ : Addr).block, (⟨b0, o0, s0⟩ : Addr).off + 3, none⟩ = some (.slice B7 x.cs.length d7) ∧ W.cell? ⟨(⟨b0, o0, s0⟩ : Addr).block, (⟨b0, o0, s0⟩ : Addr).off + 4, none⟩ = some (.bool x.h) ∧ W.cell? ⟨b0, o0 + 5, none⟩ = some (.int .i64 y.k) ∧ W.cell? ⟨b0, o0 + 5 + 1, none⟩ = some (.int .i64 y.t) ∧ W.cell? ⟨b0, o0 + 5 + 2, none⟩ = some (.slice B8 y.ks.length d8) ∧ W.cell? ⟨b0, o0 + 5 + 3, none⟩ = some (.slice B9 y.cs.length d9) ∧ W.cell? ⟨b0, o0 + 5 + 4, none⟩ = some (.bool y.h)) ∧ Below W0.heap.size W0 W from
      have px := (HX.out W h).1
      have py := (HY.out W h).1
      have p := HPC.out.below h HLT.out
      ⟨⟨by rw [HK.out]; exact p.c0, p.c2, by rw [HPL.out]; exact p.c3, px.c0, px.c1, px.c2, px.c3, px.c4, py.c0, py.c1, py.c2, py.c3, py.c4⟩, h⟩))
    have hS := Below.refl W0.heap.size W0
    have i0 : (0 : Int) ≤ 0 := by omega
    clear hu hv hok hd hW0 l0 hb0 hd0 hX hY ih hk hak hat hah hks hn1 hn2 hJL hpl hokx hoky pc hA8 hadd hb0l hts hv'
    go_enter Tryz.func16, Tryz.ntmps16
    go_upto_region 1 with (fail)
    rw [← HW.out]
    go_upto_region 2 with (fail)
    go_region_held3 (fun W => (W.cell? ⟨w.heap.size, 0, none⟩ = some (.int .i64 ak) ∧ W.cell? ⟨w.heap.size, 2, none⟩ = some (.slice (some ⟨b0, o0, s0⟩) 2 c) ∧ W.cell? ⟨w.heap.size, 3, none⟩ = some (.slice P0 pl p0) ∧ W.cell? (⟨b0, o0, s0⟩ : Addr) = some (.int .i64 x.k) ∧ W.cell? ⟨(⟨b0, o0, s0⟩ : Addr).block, (⟨b0, o0, s0⟩ : Addr).off + 1, none⟩ = some (.int .i64 x.t) ∧ W.cell? ⟨(⟨b0, o0, s0⟩ : Addr).block, (⟨b0, o0, s0⟩ : Addr).off + 2, none⟩ = some (.slice B6 x.ks.length d6) ∧ W.cell? ⟨(⟨b0, o0, s0⟩ : Addr).block, (⟨b0, o0, s0⟩ : Addr).off + 3, none⟩ = some (.slice B7 x.cs.length d7) ∧ W.cell? ⟨(⟨b0, o0, s0⟩ : Addr).block, (⟨b0, o0, s0⟩ : Addr).off + 4, none⟩ = some (.bool x.h) ∧ W.cell? ⟨b0, o0 + 5, none⟩ = some (.int .i64 y.k) ∧ W.cell? ⟨b0, o0 + 5 + 1, none⟩ = some (.int .i64 y.t) ∧ W.cell? ⟨b0, o0 + 5 + 2, none⟩ = some (.slice B8 y.ks.length d8) ∧ W.cell? ⟨b0, o0 + 5 + 3, none⟩ = some (.slice B9 y.cs.length d9) ∧ W.cell? ⟨b0, o0 + 5 + 4, none⟩ = some (.bool y.h)) ∧ Below W0.heap.size W0 W) (first | (exact KK.out _ (by repeat first | assumption | refine Below.drew ?_)))
      (first
        | (go_at_call 16; (with_reducible refine (CX.out _ (by repeat first | assumption | refine Below.drew ?_)).mono ?_); rintro e w' ⟨A3, a3, rfl, hTL, hS'⟩)
        | (go_at_call 16; (with_reducible refine (CY.out _ (by repeat first | assumption | refine Below.drew ?_)).mono ?_); rintro e w' ⟨A4, a4, rfl, hTR, hBR, hS'⟩)
        | (go_at_call 36; (with_reducible refine (CJ.out _ _ _ (by repeat first | assumption | refine Below.drew ?_) (hTL.out.below hBR.out (Nat.le_refl _)) hTR.out).mono ?_); rintro e w' ⟨A2, a2, rfl, hO, hS'⟩)
        | (fail "no arm"))
    all_goals
      go_wp2_with fail
      go_ret
      exact hO.out
end Go.Proofs.YtpaaibghfhnicaaGreatDoor
