/-
  package check: Query, Right.
-/
import Derived.Test.YtdcgfhenlddmeaaCksM
namespace Go.Proofs.Ytdcgfhenlddmeaa
open Go.RowKit Go.Sort
set_option maxHeartbeats 6400000

theorem Ck.query_long {cols : List Int} {a : Tr} (h : 64 < cols.length) : Ck.query cols a = 2 := by unfold Ck.query; rw [if_pos h]
theorem Ck.query_cols {cols : List Int} {a : Tr} {x : Int} (h : ¬ 64 < cols.length) (hx : x ∈ cols) (hb : x < 1 ∨ 4 < x) : Ck.query cols a = 12 := by
  unfold Ck.query
  rw [if_neg h, if_pos]
  refine List.any_eq_true.2 ⟨x, hx, ?_⟩
  rcases hb with hb | hb <;> simp [hb]
theorem Ck.query_tour {cols : List Int} {a : Tr} (h : ¬ 64 < cols.length) (hx : ∀ x ∈ cols, 1 ≤ x ∧ x ≤ 4) : Ck.query cols a = Ck.tour cols a := by
  unfold Ck.query
  rw [if_neg h, if_neg]
  intro hh
  obtain ⟨x, h1, h2⟩ := List.any_eq_true.1 hh
  have := hx x h1
  simp at h2
  omega
set_option maxRecDepth 100000 in
theorem query11_any (a : Tr) (cols : List Int) (cv : Value) (u v : Value) (w : World) (hc : Sl w cv (cols.map (Value.int .i64))) (hu : ∃ d, TsAt d w u a.ks) (hv : PsSome w v a.cs) (hsz : Tr.size a ≤ 1000) :
    Calls Try.prog 9 #[.agg #[cv, .int .i64 a.k, .int .i64 a.t, u, v, .bool a.h]] w
      fun e w' => e = .returned (.int .i64 (Ck.query cols a)) ∧ Below w.heap.size w w' := by
  obtain ⟨A, c, rfl, hl⟩ := hu.elim fun d h => h.form
  obtain ⟨A', c', rfl, hl'⟩ := hv.elim fun d h => h.form
  obtain ⟨C, cc, hcv, _⟩ := id hc
  subst hcv
  rw [List.length_map] at hc ⊢
  obtain ⟨n, hn⟩ : ∃ n, n = cols.length := ⟨_, rfl⟩
  rw [← hn] at hc ⊢
  obtain ⟨W0, hW0⟩ : ∃ W0, W0 = w.alloc (Obj.cells #[.slice C n cc, .int .i64 a.k, .int .i64 a.t, .slice A a.ks.length c, .slice A' a.cs.length c', .bool a.h] 28) := ⟨_, rfl⟩
  obtain ⟨l0, hb0⟩ := box_one (cs := [.slice C n cc, .int .i64 a.k, .int .i64 a.t, .slice A a.ks.length c, .slice A' a.cs.length c', .bool a.h]) hW0
  have x0 := l0.cell (i := 0) rfl
  have x1 := l0.cell (i := 1) rfl
  have x2 := l0.cell (i := 2) rfl
  have x3 := l0.cell (i := 3) rfl
  have x4 := l0.cell (i := 4) rfl
  have x5 := l0.cell (i := 5) rfl
  have HC := Lib.hid (hc.below hb0 (Nat.le_refl _))
  have ct := fun hn64 => tour11_any a cols C n cc _ _ W0 (hc.below hb0 (Nat.le_refl _)) hn64 (hu.elim fun d h => ⟨d, h.below hb0 (Nat.le_refl _)⟩) (hv.below hb0 (Nat.le_refl _)) hsz
  have CT := Lib.hid ct
  have HW := Lib.hid hW0
  have HB := Lib.hid hb0
  have HN := Lib.hid hn
  obtain ⟨R, hR⟩ : ∃ R, R = Ck.query cols a := ⟨_, rfl⟩
  rw [← hR]
  have HR := Lib.hid hR
  clear hc hu hv hsz l0 hb0 hW0 hn ct hR
  by_cases hbig : 64 < n
  · have hr : R = 2 := by rw [HR.out]; exact Ck.query_long (by have := HN.out; omega)
    subst hr
    go_enter Try.func9, Try.ntmps9
    go_upto_region 1 with (fail)
    rw [← HW.out]
    go_wp2_with fail
    go_ret
    exact ⟨rfl, HB.out⟩
  · go_enter Try.func9, Try.ntmps9
    go_upto_region 1 with (fail)
    rw [← HW.out]
    go_wp2_with fail
    go_loopw [12] (fun i wr => ∃ q : Nat, q ≤ n ∧ i = .int .i64 q ∧ Hid (∀ x ∈ cols.take q, 1 ≤ x ∧ x ≤ 4) ∧ wr = W0) (fun i _ => n - (intOf i).toNat)
    case atStart => exact ⟨0, Nat.zero_le _, rfl, Lib.hid (by simp), rfl⟩
    case round =>
      obtain ⟨q, hq, rfl, hok, rfl⟩ := hrel
      by_cases hlt : q < n
      · obtain ⟨x, gx⟩ : ∃ x, cols[q]? = some x := ⟨cols[q]'(by have := HN.out; omega), List.getElem?_eq_getElem _⟩
        obtain ⟨b1, o1, p1, rfl, _, hcell⟩ := HC.out.ints_at gx
        have hm := List.mem_of_getElem? gx
        have ht : cols.take (q + 1) = cols.take q ++ [x] := by rw [List.take_add_one, gx]; rfl
        have HT := Lib.hid ht
        have HM := Lib.hid hm
        clear gx hm ht
        by_cases h1 : x < 1
        · have hr : R = 12 := by rw [HR.out]; exact Ck.query_cols (by have := HN.out; omega) HM.out (.inl h1)
          subst hr
          go_wp2_with fail
          go_ret
          exact ⟨rfl, HB.out⟩
        · by_cases h4 : 4 < x
          · have hr : R = 12 := by rw [HR.out]; exact Ck.query_cols (by have := HN.out; omega) HM.out (.inr h4)
            subst hr
            go_wp2_with fail
            go_ret
            exact ⟨rfl, HB.out⟩
          · have hok2 := Lib.hid (show ∀ y ∈ cols.take (q + 1), 1 ≤ y ∧ y ≤ 4 by
              rw [HT.out]
              intro y hy
              rcases List.mem_append.1 hy with hy | hy
              · exact hok.out y hy
              · rw [List.mem_singleton.1 hy]; omega)
            go_wp2_with fail
            go_roundw
            case rel => exact ⟨q + 1, by omega, by go_num, hok2, trivial⟩
            case measure => simp [intOf]; omega
      · have hr : R = Ck.tour cols a := by
          rw [HR.out]
          refine Ck.query_tour (by have := HN.out; omega) fun x hx => hok.out x ?_
          rw [List.take_of_length_le (by have := HN.out; omega)]; exact hx
        have ct := CT.out (by have := HN.out; omega)
        rw [← hr] at ct
        clear hr hok
        go_wp2_with fail
        refine ct.mono ?_
        rintro e w1 ⟨rfl, hb1⟩
        clear ct x0 x1 x2 x3 x4 x5
        go_wp2_with fail
        go_ret
        exact ⟨rfl, below_join HB.out hb1⟩
set_option maxRecDepth 100000 in
theorem right11_any (a : Tr) (cols : List Int) (cv : Value) (u v : Value) (w : World) (hc : Sl w cv (cols.map (Value.int .i64))) (hu : ∃ d, TsAt d w u a.ks) (hv : PsSome w v a.cs) (hsz : Tr.size a ≤ 1000) :
    Calls Try.prog 11 #[.agg #[cv, .int .i64 a.k, .int .i64 a.t, u, v, .bool a.h]] w
      fun e w' => e = .returned (.bool (Ck.query cols a == 0)) ∧ Below w.heap.size w w' := by
  obtain ⟨A, c, rfl, hl⟩ := hu.elim fun d h => h.form
  obtain ⟨A', c', rfl, hl'⟩ := hv.elim fun d h => h.form
  obtain ⟨C, cc, hcv, _⟩ := id hc
  subst hcv
  obtain ⟨W0, hW0⟩ : ∃ W0, W0 = w.alloc (Obj.cells #[.slice C (cols.map (Value.int .i64)).length cc, .int .i64 a.k, .int .i64 a.t, .slice A a.ks.length c, .slice A' a.cs.length c', .bool a.h] 28) := ⟨_, rfl⟩
  obtain ⟨l0, hb0⟩ := box_one (cs := [.slice C (cols.map (Value.int .i64)).length cc, .int .i64 a.k, .int .i64 a.t, .slice A a.ks.length c, .slice A' a.cs.length c', .bool a.h]) hW0
  have x0 := l0.cell (i := 0) rfl
  have x1 := l0.cell (i := 1) rfl
  have x2 := l0.cell (i := 2) rfl
  have x3 := l0.cell (i := 3) rfl
  have x4 := l0.cell (i := 4) rfl
  have x5 := l0.cell (i := 5) rfl
  have ct := query11_any a cols _ _ _ W0 (hc.below hb0 (Nat.le_refl _)) (hu.elim fun d h => ⟨d, h.below hb0 (Nat.le_refl _)⟩) (hv.below hb0 (Nat.le_refl _)) hsz
  have HW := Lib.hid hW0
  have HB := Lib.hid hb0
  obtain ⟨n, hn⟩ : ∃ n, n = (cols.map (Value.int .i64)).length := ⟨_, rfl⟩
  rw [← hn] at x0 ct HW ⊢
  obtain ⟨R, hR⟩ : ∃ R, R = Ck.query cols a := ⟨_, rfl⟩
  rw [← hR] at ct ⊢
  clear hc hu hv hsz l0 hb0 hW0 hn hR
  go_enter Try.func11, Try.ntmps11
  go_upto_region 1 with (fail)
  rw [← HW.out]
  go_wp2_with fail
  refine ct.mono ?_
  rintro e w1 ⟨rfl, hb1⟩
  clear ct x0 x1 x2 x3 x4 x5
  go_wp2_with fail
  go_ret
  exact ⟨rfl, below_join HB.out hb1⟩
end Go.Proofs.Ytdcgfhenlddmeaa
