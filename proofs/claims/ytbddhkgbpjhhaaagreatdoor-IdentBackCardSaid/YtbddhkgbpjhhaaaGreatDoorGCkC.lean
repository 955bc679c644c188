/-
  LAID TOGETHER, BY PROGRAM, of: Cks, Cku, Ckv, Ckw, Ckx, Cky, QvCame.
-/
import Derived.Test.YtbddhkgbpjhhaaaGreatDoorGCkA
import Derived.Test.YtbddhkgbpjhhaaaGreatDoorGCkB
import Derived.Test.YtbddhkgbpjhhaaaGreatDoorGTreeA
import Derived.Test.YtbddhkgbpjhhaaaGreatDoorGTreeB
import Derived.Test.YtbddhkgbpjhhaaaGreatDoorGCame
import Derived.Maps.OwnIn
import Derived.Maps.Views
import Derived.WalkMore
import Derived.WalkArith
import Derived.Deep.RegionHeld3
namespace Go.Proofs.YtbddhkgbpjhhaaaGreatDoor
open Go.RowKit Go.Shelf Go.Maps
attribute [local go_sem] Oper.semAt_some
set_option maxHeartbeats 12800000
end Go.Proofs.YtbddhkgbpjhhaaaGreatDoor
namespace Go.Proofs.YtbddhkgbpjhhaaaGreatDoor
open Go.RowKit Go.Sort
set_option maxHeartbeats 6400000
theorem Ck.query_long {cols : List Int} {a : Tr} (h : 64 < cols.length) : Ck.query cols a = 2 := by unfold Ck.query; rw [if_pos h]
theorem Ck.query_cols {cols : List Int} {a : Tr} {x : Int} (h : ¬ 64 < cols.length) (hx : x ∈ cols) (hb : x < 1 ∨ 4 < x) : Ck.query cols a = 12 := by
  unfold Ck.query
  rw [if_neg h, if_pos]
  refine List.any_eq_true.2 ⟨x, hx, ?_⟩
  rcases hb with hb | hb <;> simp [hb]
theorem Ck.query_tour {cols : List Int} {a : Tr} (h : ¬ 64 < cols.length) (hx : ∀ x ∈ cols, 1 ≤ x ∧ x ≤ 4) : Ck.query cols a = Ck.tour cols a := by
  unfold Ck.query
  rw [if_neg h, if_neg]
  intro hh
  obtain ⟨x, h1, h2⟩ := List.any_eq_true.1 hh
  have := hx x h1
  simp at h2
  omega
end Go.Proofs.YtbddhkgbpjhhaaaGreatDoor
namespace Go.Proofs.YtbddhkgbpjhhaaaGreatDoor
open Go.RowKit Go.Sort
set_option maxHeartbeats 12800000
theorem Ck.oneR_fine {cols came : List Int} {t : Tr} {c : Nat} (h : Ck.oneR cols came t c = 0) : Ck.what cols t c = 0 := by
  unfold Ck.oneR at h
  split at h
  · rename_i hh; exact absurd h hh
  · rename_i hh; exact Decidable.not_not.1 hh
theorem take_prefix11 {α : Type} {l : List α} {q : Nat} {x : α} (h : l[q]? = some x) : l.take q ++ [x] <+: l := by
  have e : l.take (q + 1) = l.take q ++ [x] := by rw [List.take_add_one, h]; rfl
  rw [← e]; exact List.take_prefix _ _
theorem drop_get11 {α : Type} {l : List α} {q : Nat} {x : α} (h : l[q]? = some x) : l.drop q = x :: l.drop (q + 1) := by
  obtain ⟨hl, rfl⟩ := List.getElem?_eq_some_iff.1 h
  exact List.drop_eq_getElem_cons hl
set_option maxRecDepth 100000 in
theorem rquery11_any (a : Tr) (cols : List Int) (cv : Value) (u v : Value) (w : World) (hc : Sl w cv (cols.map (Value.int .i64))) (hu : ∃ d, TsAt d w u a.ks) (hv : PsSome w v a.cs) (hsz : Tr.size a ≤ 1000) :
    Calls Tryz.prog 38 #[.agg #[cv, .int .i64 a.k, .int .i64 a.t, u, v, .bool a.h]] w
      fun e w' => e = .returned (.int .i64 (Ck.query cols a)) ∧ Below w.heap.size w w' := by
  obtain ⟨i0, hi, hz0, hz1, hz2⟩ := info_parts Tryz.infoInt
  obtain ⟨A, c, rfl, hl⟩ := hu.elim fun d h => h.form
  obtain ⟨A', c', rfl, hl'⟩ := hv.elim fun d h => h.form
  obtain ⟨C, cc, hcv, _⟩ := id hc
  subst hcv
  rw [List.length_map] at hc ⊢
  obtain ⟨nc, hnc⟩ : ∃ n, n = cols.length := ⟨_, rfl⟩
  rw [← hnc] at hc ⊢
  obtain ⟨W0, hW0⟩ : ∃ W0, W0 = w.alloc (Obj.cells #[.slice C nc cc, .int .i64 a.k, .int .i64 a.t, .slice A a.ks.length c, .slice A' a.cs.length c', .bool a.h] 28) := ⟨_, rfl⟩
  obtain ⟨l0, hb0⟩ := box_one (cs := [.slice C nc cc, .int .i64 a.k, .int .i64 a.t, .slice A a.ks.length c, .slice A' a.cs.length c', .bool a.h]) hW0
  have x0 := l0.cell (i := 0) rfl
  have x1 := l0.cell (i := 1) rfl
  have x2 := l0.cell (i := 2) rfl
  have x3 := l0.cell (i := 3) rfl
  have x4 := l0.cell (i := 4) rfl
  have x5 := l0.cell (i := 5) rfl
  have HC := Lib.hid (hc.below hb0 (Nat.le_refl _))
  have ca := hu.elim fun d h => r10all_any W0 d a _ _ W0 (Below.refl _ _) (h.below hb0 (Nat.le_refl _)) (hv.below hb0 (Nat.le_refl _)) hsz
  have HW := Lib.hid hW0
  have HB := Lib.hid hb0
  have HL0 := Lib.hid l0
  have HNC := Lib.hid hnc
  have hal := Tr.all_length_le a
  obtain ⟨R, hR⟩ : ∃ R, R = Ck.query cols a := ⟨_, rfl⟩
  rw [← hR]
  have HR := Lib.hid hR
  have HSZ := Lib.hid hsz
  clear hc hu hv l0 hb0 hW0 hnc hR
  by_cases hbig : 64 < nc
  · have hr : R = 2 := by rw [HR.out]; exact Ck.query_long (by have := HNC.out; omega)
    subst hr
    go_enter Tryz.func38, Tryz.ntmps38
    go_upto_region 1 with (fail)
    rw [← HW.out]
    go_wp2_with fail
    go_ret
    exact ⟨rfl, HB.out⟩
  · go_enter Tryz.func38, Tryz.ntmps38
    go_upto_region 1 with (fail)
    rw [← HW.out]
    go_wp2_with fail
    go_loopw [3] (fun i wr => ∃ q : Nat, q ≤ nc ∧ i = .int .i64 q ∧ Hid (∀ x ∈ cols.take q, 1 ≤ x ∧ x ≤ 4) ∧ W0 = wr) (fun i _ => nc - (intOf i).toNat)
    case atStart => exact ⟨0, Nat.zero_le _, rfl, Lib.hid (by simp), rfl⟩
    case round =>
      obtain ⟨q, hq, rfl, hok, rfl⟩ := hrel
      by_cases hlt : q < nc
      · obtain ⟨x, gx⟩ : ∃ x, cols[q]? = some x := ⟨cols[q]'(by have := HNC.out; omega), List.getElem?_eq_getElem _⟩
        obtain ⟨b1, o1, p1, rfl, _, hcell⟩ := HC.out.ints_at gx
        have hm := List.mem_of_getElem? gx
        have ht : cols.take (q + 1) = cols.take q ++ [x] := by rw [List.take_add_one, gx]; rfl
        have HT := Lib.hid ht
        have HM := Lib.hid hm
        clear gx hm ht
        by_cases h1 : x < 1
        · have hr : R = 12 := by rw [HR.out]; exact Ck.query_cols (by have := HNC.out; omega) HM.out (.inl h1)
          subst hr
          go_wp2_with fail
          go_ret
          exact ⟨rfl, HB.out⟩
        · by_cases h4 : 4 < x
          · have hr : R = 12 := by rw [HR.out]; exact Ck.query_cols (by have := HNC.out; omega) HM.out (.inr h4)
            subst hr
            go_wp2_with fail
            go_ret
            exact ⟨rfl, HB.out⟩
          · have hok2 := Lib.hid (show ∀ y ∈ cols.take (q + 1), 1 ≤ y ∧ y ≤ 4 by
              rw [HT.out]
              intro y hy
              rcases List.mem_append.1 hy with hy | hy
              · exact hok.out y hy
              · rw [List.mem_singleton.1 hy]; omega)
            go_wp2_with fail
            go_roundw
            case rel => exact ⟨q + 1, by omega, by go_num, hok2, trivial⟩
            case measure => simp [intOf]; omega
      · have hr : R = Ck.doc cols (Tr.all a) [] 0 := by
          rw [HR.out, Ck.doc_tour]
          refine Ck.query_tour (by have := HNC.out; omega) fun x hx => hok.out x ?_
          rw [List.take_of_length_le (by have := HNC.out; omega)]; exact hx
        have HR2 := Lib.hid hr
        clear hr hok
        go_wp2_with fail
        refine ca.mono ?_
        rintro e w2 ⟨v2, L, rfl, hm, hang, hown2, hb2⟩
        obtain ⟨n, hn⟩ : ∃ n, n = L.length := ⟨_, rfl⟩
        have hln : n = (Tr.all a).length := by rw [hn, ← hm, List.length_map]
        have hnl : n ≤ 1000 := by have := HSZ.out; omega
        obtain ⟨B, c2, rfl, _⟩ := own_tr hown2
        rw [← hn] at hown2 ⊢
        have HN := Lib.hid hn
        have HM := Lib.hid hm
        have HLN := Lib.hid hln
        have HANG := Lib.hid hang
        have hbe : Below w2.heap.size w2 (w2.alloc (Obj.cells #[] 3)) := below_new _ _
        have how := own_empty w2 3 1 w2.heap.size (Nat.le_refl _) w2.heap.size rfl
        have HO := Lib.hid (hown2.alloc (Obj.cells #[] 3))
        have HOL := Lib.hid how
        have HB3 := Lib.hid (below_join hb2 hbe)
        have HS0 := Lib.hid hb2.size
        have HS2 := Lib.hid (show w2.heap.size < (w2.alloc (Obj.cells #[] 3)).heap.size by simp)
        clear ca x0 x1 x2 x3 x4 x5 hn hm hang hown2 hb2 hbe how hln hal
        go_wp2_with fail
        go_loopw [5, 6, 7] (fun s j i wr => ∃ (q cj : Nat) (came : List Int), q ≤ n ∧ i = .int .i64 q ∧ j = .int .i64 cj ∧ cj ≤ 64 ∧ came.length ≤ q ∧ Hid (wr.ownsRow w2.heap.size 3 1 s came.length (came.map (Value.int .i64))) ∧ Hid (wr.ownsRow W0.heap.size 26 5 (.slice B n c2) n (trCells L)) ∧ Hid (R = Ck.doc cols ((Tr.all a).drop q) came cj) ∧ Hid (∀ y ∈ (Tr.all a).take q, Ck.Fine cols.length y) ∧ w2.heap.size < wr.heap.size ∧ Below W0.heap.size W0 wr) (fun _ _ i _ => n - (intOf i).toNat)
        case atStart => exact ⟨0, 0, [], Nat.zero_le _, rfl, rfl, by omega, Nat.le_refl _, HOL, HO, HR2, Lib.hid (by simp), HS2.out, HB3.out⟩
        case round =>
          obtain ⟨q, cj, came, hq, rfl, rfl, hcj, hcl, hown, hrow, hdoc, hfn, hwr, hb⟩ := hrel
          by_cases hlt : q < n
          · obtain ⟨x, gx⟩ : ∃ x, L[q]? = some x := ⟨L[q]'(by have := HN.out; omega), List.getElem?_eq_getElem _⟩
            have gb : (Tr.all a)[q]? = some x.1 := by rw [← HM.out, List.getElem?_map, gx]; rfl
            have hrow' := hrow.out
            rw [HN.out] at hrow'
            obtain ⟨A1, c1, hv1, hx⟩ := own_tr hrow'
            cases hv1
            obtain ⟨g, rfl, hg1, hg2, hcell⟩ := hx q x gx
            rw [add_from5] at hcell
            have hxm := List.mem_of_getElem? gx
            have hh := HANG.out x hxm
            obtain ⟨t, ux, vx⟩ := x
            have hh1 : ∃ d, TsAt d W0 ux t.ks := hh.1
            have hh2 : PsSome W0 vx t.cs := hh.2
            change TrCell wr ⟨g, q * 5, none⟩ t ux vx at hcell
            change (Tr.all a)[q]? = some t at gb
            clear hh hxm
            obtain ⟨B5, e5, rfl, _⟩ := hh1.elim fun d h => h.form
            obtain ⟨B6, e6, rfl, _⟩ := hh2.elim fun d h => h.form
            have hgw : g < wr.heap.size := hg2
            have hpx := take_prefix11 gb
            have hmem := List.mem_of_getElem? gb
            have hts := Nat.le_trans (Tr.all_size hmem) HSZ.out
            have hsl := Sl.own hown.out
            obtain ⟨M, mc, hsv, _⟩ := id hsl
            subst hsv
            rw [List.length_map] at hsl
            have hownx := hown.out
            rw [List.length_map] at hownx
            replace hown := Lib.hid hownx
            clear hownx
            have hwl : ∀ W, Below wr.heap.size wr W → Below W0.heap.size W0 W := fun W h => below_join hb h
            obtain ⟨z, hz⟩ : ∃ z, z = Ck.oneR cols came t cj := ⟨_, rfl⟩
            have CO := Lib.hid (fun W (h : Below wr.heap.size wr W) => (rone_any t (.slice B5 t.ks.length e5) (.slice B6 t.cs.length e6) (.slice C nc cc) (.slice M came.length mc) cols came cj W (hh1.elim fun d h1 => ⟨d, h1.below (hwl W h) (Nat.le_refl _)⟩) (hh2.below (hwl W h) (Nat.le_refl _)) (HC.out.below (hwl W h) (Nat.le_refl _)) (hsl.below h (Nat.le_refl _)) (by omega) hcj
              (fun i => Ck.ksn_fine hpx hfn.out i) hts).mono fun e w' ⟨he, hbb⟩ => (⟨by rw [he, ← hz], below_join h hbb⟩ : e = Ending.returned (.int .i64 z) ∧ Below wr.heap.size wr w'))
            have KK := Lib.hid (fun W (h : Below wr.heap.size wr W) => (show (W.cell? ⟨w.heap.size, 0, none⟩ = some (.slice C nc cc) ∧ W.cell? ⟨g, q * 5, none⟩ = some (.int .i64 t.k) ∧ W.cell? ⟨g, q * 5 + 1, none⟩ = some (.int .i64 t.t) ∧ W.cell? ⟨g, q * 5 + 2, none⟩ = some (.slice B5 t.ks.length e5) ∧ W.cell? ⟨g, q * 5 + 3, none⟩ = some (.slice B6 t.cs.length e6) ∧ W.cell? ⟨g, q * 5 + 4, none⟩ = some (.bool t.h)) ∧ Below wr.heap.size wr W from
              have ct := hcell.below h hgw
              ⟨⟨(HL0.out.below (hwl W h) HL0.out.lt).cell (i := 0) rfl, ct.c0, ct.c1, ct.c2, ct.c3, ct.c4⟩, h⟩))
            have HZ := Lib.hid hz
            have HGB := Lib.hid gb
            have HPX := Lib.hid hpx
            have hS := Below.refl wr.heap.size wr
            have hcs : t.cs.length ≤ 1000 := by
              have h1 := Tr.size_at t
              have h2 := Pr.sizes_length t.cs
              omega
            clear hh1 hh2 hcell hpx hmem hts hsl hwl hz gb gx hrow' hx
            go_upto_region 14 with (fail)
            go_region_held3 (fun W => (W.cell? ⟨w.heap.size, 0, none⟩ = some (.slice C nc cc) ∧ W.cell? ⟨g, q * 5, none⟩ = some (.int .i64 t.k) ∧ W.cell? ⟨g, q * 5 + 1, none⟩ = some (.int .i64 t.t) ∧ W.cell? ⟨g, q * 5 + 2, none⟩ = some (.slice B5 t.ks.length e5) ∧ W.cell? ⟨g, q * 5 + 3, none⟩ = some (.slice B6 t.cs.length e6) ∧ W.cell? ⟨g, q * 5 + 4, none⟩ = some (.bool t.h)) ∧ Below wr.heap.size wr W) (first | (exact KK.out _ (by repeat first | assumption | refine Below.drew ?_)))
              (first
                | (go_at_call 67; (with_reducible refine (CO.out _ (by repeat first | assumption | refine Below.drew ?_)).mono ?_); rintro e w5 ⟨rfl, hS5⟩)
                | (fail "no arm"))
            have hS5 : Below wr.heap.size wr w5 := hS5
            have hown5 := own_kept hown.out hS5
            have hrow5 := own_kept hrow.out hS5
            have hb5 := below_join hb hS5
            obtain ⟨q0, q1, q2, q3, q4⟩ := (show TrCell w5 ⟨g, q * 5, none⟩ t (.slice B5 t.ks.length e5) (.slice B6 t.cs.length e6) from
              have kk := (KK.out w5 hS5).1.2
              ⟨kk.1, kk.2.1, kk.2.2.1, kk.2.2.2.1, kk.2.2.2.2⟩)
            clear KK CO
            by_cases hzz : z = 0
            · have hw0 : Ck.what cols t cj = 0 := Ck.oneR_fine (by rw [← HZ.out]; exact hzz)
              have hle64 := Ck.what_le hw0
              have hdoc2 : R = Ck.doc cols ((Tr.all a).drop (q + 1)) (Ck.comes t came) (cj + t.cs.length) := by
                rw [hdoc.out, drop_get11 HGB.out, Ck.doc_at, ← HZ.out, if_neg (not_not_intro hzz)]
              have hfn2 : ∀ y ∈ (Tr.all a).take (q + 1), Ck.Fine cols.length y := fun y hy => by
                rw [List.take_add_one, HGB.out] at hy
                rcases List.mem_append.1 hy with hy | hy
                · exact hfn.out y hy
                · obtain rfl : y = t := by simpa using hy
                  exact Ck.alone_fine (Ck.what_alone hw0)
              have HFN2 := Lib.hid hfn2
              have HROW5 := Lib.hid hrow5
              have HOWN5 := Lib.hid hown5
              subst hzz
              have hw5 : w2.heap.size < w5.heap.size := by have := hS5.size; omega
              clear hw0 hfn2 hrow5 hown5 hown hrow hdoc hfn HZ
              by_cases hk : t.k = 0
              · unfold Ck.comes at hdoc2
                rw [if_pos hk] at hdoc2
                have HDOC2 := Lib.hid hdoc2
                clear hdoc2
                go_wp2_with (first
                  | (at_builtin; refine wpList_append_n _ rfl _ _ 22 rfl w2.heap.size 3 i0 (.int .i64 0) 1 8 Tryz.underlying22 hi hz0 hz1 hz2 rfl (by decide) _ _ _ rfl (HOWN5.out.alloc _) _ 1 [.int .i64 t.t] rfl (CameN.new w5 3 1 1 [.int .i64 t.t] _ rfl rfl) ?l0 ?l1 ?l2 ?l3 ?_))
                case l0 => simp [Value.oneCell']
                case l1 => unfold maxLen; omega
                case l2 => omega
                case l3 => first | omega | (simp; omega)
                intro v1 w6 hown6 hgrow
                have hlow : ∀ k, (Value.slice M came.length mc).ownBlock = some k → W0.heap.size ≤ k := fun k hk => Nat.le_trans HS0.out (HOWN5.out.lt k hk).1
                have hb6 : Below W0.heap.size W0 w6 := (hb5.alloc hb5.size _).grown hgrow (by have := hb5.size; simp; omega) hlow
                have hrow6 := Lib.hid ((HROW5.out.alloc (Obj.cells #[.int .i64 t.t] 3)).kept hgrow (own_types (HROW5.out.alloc (Obj.cells #[.int .i64 t.t] 3)) (HOWN5.out.alloc (Obj.cells #[.int .i64 t.t] 3)) (by decide)))
                have hown7 : w6.ownsRow w2.heap.size 3 1 v1 (came ++ [t.t]).length ((came ++ [t.t]).map (Value.int .i64)) := by simpa using hown6
                have HOWN7 := Lib.hid hown7
                have hw6 : w2.heap.size < w6.heap.size := by have h1 := hgrow.size; rw [World.size_alloc] at h1; omega
                have hlen2 : (came ++ [t.t]).length ≤ q + 1 := by simp; omega
                clear hown6 hgrow hown7 hlow q0 q1 q2 q3 q4 hb5
                go_wp2_with fail
                go_roundw
                case rel => exact ⟨q + 1, cj + t.cs.length, came ++ [t.t], by omega, by go_num, by push_cast; rfl, hle64, hlen2, HOWN7, hrow6, HDOC2, HFN2, hw6, hb6⟩
                case measure => simp [intOf]; omega
              · have hk2 : (t.k == 0) = false := by simpa using hk
                unfold Ck.comes at hdoc2
                rw [if_neg hk] at hdoc2
                have HDOC2 := Lib.hid hdoc2
                clear hk hdoc2
                go_wp2_with fail
                go_roundw
                case rel => exact ⟨q + 1, cj + t.cs.length, came, by omega, by go_num, by push_cast; rfl, hle64, by omega, HOWN5, HROW5, HDOC2, HFN2, hw5, hb5⟩
                case measure => simp [intOf]; omega
            · have hz1 : (z != 0) = true := by simpa using hzz
              have hrz : R = z := by
                rw [hdoc.out, drop_get11 HGB.out, Ck.doc_at, ← HZ.out, if_pos hzz]
              go_wp2_with fail
              go_ret
              exact ⟨by first | rfl | (rw [hrz]; rfl), below_join HB.out hb5⟩
          · have hr0 : R = 0 := by
              rw [hdoc.out, List.drop_eq_nil_of_le (by have := HLN.out; omega), Ck.doc]
            clear hdoc
            go_wp2_with fail
            go_ret
            exact ⟨by first | rfl | (rw [hr0]; rfl), below_join HB.out hb⟩
set_option maxRecDepth 100000 in
theorem rright11_any (a : Tr) (cols : List Int) (cv : Value) (u v : Value) (w : World) (hc : Sl w cv (cols.map (Value.int .i64))) (hu : ∃ d, TsAt d w u a.ks) (hv : PsSome w v a.cs) (hsz : Tr.size a ≤ 1000) :
    Calls Tryz.prog 12 #[.agg #[cv, .int .i64 a.k, .int .i64 a.t, u, v, .bool a.h]] w
      fun e w' => e = .returned (.bool (Ck.query cols a == 0)) ∧ Below w.heap.size w w' := by
  obtain ⟨A, c, rfl, hl⟩ := hu.elim fun d h => h.form
  obtain ⟨A', c', rfl, hl'⟩ := hv.elim fun d h => h.form
  obtain ⟨C, cc, hcv, _⟩ := id hc
  subst hcv
  obtain ⟨W0, hW0⟩ : ∃ W0, W0 = w.alloc (Obj.cells #[.slice C (cols.map (Value.int .i64)).length cc, .int .i64 a.k, .int .i64 a.t, .slice A a.ks.length c, .slice A' a.cs.length c', .bool a.h] 28) := ⟨_, rfl⟩
  obtain ⟨l0, hb0⟩ := box_one (cs := [.slice C (cols.map (Value.int .i64)).length cc, .int .i64 a.k, .int .i64 a.t, .slice A a.ks.length c, .slice A' a.cs.length c', .bool a.h]) hW0
  have x0 := l0.cell (i := 0) rfl
  have x1 := l0.cell (i := 1) rfl
  have x2 := l0.cell (i := 2) rfl
  have x3 := l0.cell (i := 3) rfl
  have x4 := l0.cell (i := 4) rfl
  have x5 := l0.cell (i := 5) rfl
  have ct := rquery11_any a cols _ _ _ W0 (hc.below hb0 (Nat.le_refl _)) (hu.elim fun d h => ⟨d, h.below hb0 (Nat.le_refl _)⟩) (hv.below hb0 (Nat.le_refl _)) hsz
  have HW := Lib.hid hW0
  have HB := Lib.hid hb0
  obtain ⟨n, hn⟩ : ∃ n, n = (cols.map (Value.int .i64)).length := ⟨_, rfl⟩
  rw [← hn] at x0 ct HW ⊢
  obtain ⟨R, hR⟩ : ∃ R, R = Ck.query cols a := ⟨_, rfl⟩
  rw [← hR] at ct ⊢
  clear hc hu hv hsz l0 hb0 hW0 hn hR
  go_enter Tryz.func12, Tryz.ntmps12
  go_upto_region 1 with (fail)
  rw [← HW.out]
  go_wp2_with fail
  refine ct.mono ?_
  rintro e w1 ⟨rfl, hb1⟩
  clear ct x0 x1 x2 x3 x4 x5
  go_wp2_with fail
  go_ret
  exact ⟨rfl, below_join HB.out hb1⟩
end Go.Proofs.YtbddhkgbpjhhaaaGreatDoor
namespace Go.Proofs.YtbddhkgbpjhhaaaGreatDoor
open Go.RowKit Go.Sort
set_option maxHeartbeats 6400000
end Go.Proofs.YtbddhkgbpjhhaaaGreatDoor
namespace Go.Proofs.YtbddhkgbpjhhaaaGreatDoor
open Go.RowKit Go.Sort
set_option maxHeartbeats 25600000
end Go.Proofs.YtbddhkgbpjhhaaaGreatDoor
namespace Go.Proofs.YtbddhkgbpjhhaaaGreatDoor
open Go.RowKit Go.Sort
set_option maxHeartbeats 6400000
set_option maxRecDepth 100000 in
theorem few11_any (a : Tr) (cv : Value) (u v : Value) (w : World) (hu : ∃ d, TsAt d w u a.ks) (hv : PsSome w v a.cs) :
    Calls Tryz.prog 11 #[.agg #[cv, .int .i64 a.k, .int .i64 a.t, u, v, .bool a.h]] w fun e w' => e = .returned (.bool (decide (Tr.size a ≤ 600))) ∧ Below w.heap.size w w' := by
  obtain ⟨A, c, rfl, hl⟩ := hu.elim fun d h => h.form
  obtain ⟨A', c', rfl, hl'⟩ := hv.elim fun d h => h.form
  obtain ⟨W0, hW0⟩ : ∃ W0, W0 = w.alloc (Obj.cells #[cv, .int .i64 a.k, .int .i64 a.t, .slice A a.ks.length c, .slice A' a.cs.length c', .bool a.h] 28) := ⟨_, rfl⟩
  obtain ⟨l0, hb0⟩ := box_one (cs := [cv, .int .i64 a.k, .int .i64 a.t, .slice A a.ks.length c, .slice A' a.cs.length c', .bool a.h]) hW0
  have x1 := l0.cell (i := 1) rfl
  have x2 := l0.cell (i := 2) rfl
  have x3 := l0.cell (i := 3) rfl
  have x4 := l0.cell (i := 4) rfl
  have x5 := l0.cell (i := 5) rfl
  have ct := hu.elim fun d h => r10size_any d a _ _ 601 W0 (h.below hb0 (Nat.le_refl _)) (hv.below hb0 (Nat.le_refl _)) (by decide) (by decide)
  have HW := Lib.hid hW0
  have hd : decide (Tr.size a ≤ 600) = decide (min (Tr.size a : Int) 601 ≤ 600) := by
    by_cases h : Tr.size a ≤ 600
    · rw [decide_eq_true h, decide_eq_true (by omega)]
    · rw [decide_eq_false h, decide_eq_false (by omega)]
  rw [hd]
  obtain ⟨m, hm⟩ : ∃ m, m = min (Tr.size a : Int) 601 := ⟨_, rfl⟩
  rw [← hm] at ct ⊢
  clear hW0 l0 hu hv hd hm
  go_enter Tryz.func11, Tryz.ntmps11
  go_upto_region 1 with (fail)
  rw [← HW.out]
  go_wp2_with fail
  refine ct.mono ?_
  rintro e w1 ⟨rfl, hb1⟩
  clear ct x1 x2 x3 x4 x5
  go_wp2_with fail
  go_ret
  exact ⟨rfl, below_join hb0 hb1⟩
end Go.Proofs.YtbddhkgbpjhhaaaGreatDoor
namespace Go.Proofs.YtbddhkgbpjhhaaaGreatDoor
set_option maxRecDepth 100000
open Go.RowKit Go.WideShapes Go.ChangeShapes Go.Deep
section
variable {H : Type} {enc : TypeId × Value → H} {W : World}
theorem ints_came (n : Nat) (v : Value) (y : DataW H × List MemPlace) (h : DataW.trod enc Tryz.prog W 0 (fun _ => true) true n 22 [v] = some y) : ∃ l : List Int, Sl W v (l.map (Value.int .i64)) := by
  rcases DataW.trod_slice Tryz.underlying22 h with ⟨hv, _⟩ | ⟨a, len, cap, elems, rest, m, hm, hv, _, _, hl, hcap, hlen, hel, _, _⟩
  · obtain rfl : v = .slice none 0 0 := by simpa using hv
    exact ⟨[], none, 0, rfl, by simp, fun j u hu => by simp at hu⟩
  · obtain rfl : v = .slice (some a) len cap := by simpa using hv
    rw [show Tryz.prog.cellsOf 3 = 1 by kernel_rfl] at hel
    have each : ∀ i, i < len → ∃ k : Int, W.cell? (a.add i) = some (.int .i64 k) := by
      intro i hi
      have h1 := hel i hi
      rw [List.getElem?_eq_getElem (by omega)] at h1
      obtain ⟨cs', h2, h3⟩ := Option.bind_eq_some_iff.1 h1
      obtain ⟨k, hk, _, _⟩ := DataW.trod_int Tryz.underlying3 h3
      obtain ⟨_, _, hc⟩ := World.cells?_some h2
      have h0 := hc 0 (by decide)
      rw [hk] at h0
      have e0 : (a.add (i * 1)).add 0 = a.add i := by unfold Addr.add; simp
      rw [e0] at h0
      exact ⟨k, h0⟩
    obtain ⟨f, hf⟩ := choose_lt each
    refine ⟨(List.range len).map f, some a, cap, by simp, by simpa using (by omega), fun j u hu => ?_⟩
    have hj : j < len := by
      by_cases h : j < len
      · exact h
      · rw [List.getElem?_eq_none (by simp; omega)] at hu; cases hu
    obtain rfl : Value.int .i64 (f j) = u := by simpa [hj] using hu
    obtain ⟨b, o, p⟩ := a
    refine ⟨b, o, p, rfl, ?_, hf j hj⟩
    have := block_lt_of_cell (hf j hj)
    rwa [add_block] at this
theorem query_came {r : Reach} {b0 : Nat} {v : Value} {d : DataW H} {p : List MemPlace} (hv : Value.okWide Tryz.prog W r b0 28 v) (h : DataW.Trod enc Tryz.prog W 0 (fun _ => true) true 28 v d p) :
    ∃ (cols : List Int) (a : Tr) (cv x y : Value), v = .agg #[cv, .int .i64 a.k, .int .i64 a.t, x, y, .bool a.h] ∧ Sl W cv (cols.map (Value.int .i64)) ∧ (∃ D, TsAt D W x a.ks) ∧ PsSome W y a.cs := by
  obtain ⟨⟨cs⟩, rfl, _⟩ := okWide_struct Tryz.underlying28 hv
  obtain ⟨fuel, hf⟩ := h
  obtain ⟨xs, m, hm, _, hl, hlen, hg⟩ := DataW.trod_struct Tryz.underlying28 hf
  have hcs : cs.length = 6 := by
    have := hl.trans (show Tryz.prog.cellsOf 28 = 6 by kernel_rfl)
    exact this
  match cs, hcs with
  | [c0, c1, c2, c3, c4, c5], _ =>
    obtain ⟨_, _, g0⟩ := fld_came hg 0 22 0 1 rfl (by kernel_rfl) hlen
    obtain ⟨_, _, g1⟩ := fld_came hg 1 26 1 5 rfl (by kernel_rfl) hlen
    obtain ⟨l, hsl⟩ := ints_came _ _ _ g0
    obtain ⟨k, t, b, u, v, m', z, z', hcs', _, h4, h5⟩ := tree_cells g1
    obtain ⟨D, ts, hts⟩ := trees_came m' u z h4
    obtain ⟨D', ps, hps⟩ := preds_came m' v z' h5
    have hcs2 : [c1, c2, c3, c4, c5] = [.int .i64 k, .int .i64 t, u, v, .bool b] := hcs'
    simp only [List.cons.injEq, and_true] at hcs2
    obtain ⟨rfl, rfl, rfl, rfl, rfl⟩ := hcs2
    exact ⟨l, .mk k t b ps ts, c0, _, _, rfl, hsl, ⟨D, hts⟩, D', hps⟩
end
end Go.Proofs.YtbddhkgbpjhhaaaGreatDoor
