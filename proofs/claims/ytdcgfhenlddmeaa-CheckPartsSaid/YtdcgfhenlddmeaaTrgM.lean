/-
  THE DOCUMENT's ANSWERS OF LAYER 10: Tables; a row of trees of one's own, cell by cell.
-/
import Derived.Test.YtdcgfhenlddmeaaTrfM
import Derived.Test.YtdcgfhenlddmeaaGBase
namespace Go.Proofs.Ytdcgfhenlddmeaa
open Go.RowKit Go.Sort
set_option maxHeartbeats 1600000

theorem trCells_get {L : List TrV} {j i : Nat} {x : TrV} (h : L[j]? = some x) (hi : i < 5) : (trCells L)[j * 5 + i]? = (x.1.cells x.2.1 x.2.2)[i]? := by
  induction L generalizing j with
  | nil => simp at h
  | cons y r ih =>
    have e : trCells (y :: r) = y.1.cells y.2.1 y.2.2 ++ trCells r := by simp [trCells]
    have e5 : (y.1.cells y.2.1 y.2.2).length = 5 := rfl
    rw [e]
    cases j with
    | zero =>
      simp at h
      subst h
      rw [List.getElem?_append_left (by omega), Nat.zero_mul, Nat.zero_add]
    | succ j =>
      rw [List.getElem?_append_right (by omega), e5, show (j + 1) * 5 + i - 5 = j * 5 + i by omega]
      exact ih (by simpa using h)
theorem add_from5 (g j : Nat) : (⟨g, 0, none⟩ : Addr).add j = ⟨g, j, none⟩ := by
  unfold Addr.add
  split
  · next h => subst h; rfl
  · simp
/-- a row of trees of one's own, tree by tree -/
theorem own_tr {w : World} {base : Nat} {T : TypeId} {v : Value} {L : List TrV} (h : w.ownsRow base T 5 v L.length (trCells L)) :
    ∃ A c, v = .slice A L.length c ∧ ∀ (j : Nat) (x : TrV), L[j]? = some x → ∃ g, A = some ⟨g, 0, none⟩ ∧ base ≤ g ∧ g < w.heap.size ∧ TrCell w ((⟨g, 0, none⟩ : Addr).add (j * 5)) x.1 x.2.1 x.2.2 := by
  rcases h.2 with ⟨hv, hn⟩ | ⟨g, cap, cur, hv, _⟩
  · exact ⟨none, 0, by rw [hn]; exact hv, fun j x hx => by rw [List.eq_nil_of_length_eq_zero hn] at hx; simp at hx⟩
  · subst hv
    refine ⟨_, cap, rfl, fun j x hx => ⟨g, rfl, (h.lt g rfl).1, (h.lt g rfl).2, ?_⟩⟩
    have k : ∀ i u, i < 5 → (x.1.cells x.2.1 x.2.2)[i]? = some u → w.cell? ⟨g, j * 5 + i, none⟩ = some u := fun i u hi hu => by
      have := h.cells (g := g) rfl (j * 5 + i) u (by rw [trCells_get hx hi, hu])
      rwa [add_from5] at this
    rw [add_from5]
    exact ⟨k 0 _ (by omega) rfl, k 1 _ (by omega) rfl, k 2 _ (by omega) rfl, k 3 _ (by omega) rfl, k 4 _ (by omega) rfl⟩
/-- rows of two types lie apart -/
theorem own_types {w : World} {b b' n n' s s' : Nat} {e e' : TypeId} {v v' : Value} {xs xs' : List Value} (h : w.ownsRow b e s v n xs) (h' : w.ownsRow b' e' s' v' n' xs') (he : e ≠ e') : v.ownBlock = none ∨ v.ownBlock ≠ v'.ownBlock := by
  rcases h.2 with ⟨rfl, _⟩ | ⟨g, cap, cur, rfl, _, hg, _⟩
  · exact .inl rfl
  · refine .inr fun hh => ?_
    rcases h'.2 with ⟨rfl, _⟩ | ⟨g', cap', cur', rfl, _, hg', _⟩
    · cases hh
    · have h4 := Option.some.inj hh
      simp at h4
      subst h4
      rw [hg] at hg'
      have h5 := Option.some.inj hg'
      injection h5 with _ h6 _
      exact he h6
/-- the tables of the leaves among the first q -/
def leafTs (l : List Tr) : List Int := (l.filter fun x => x.k == 0).map Tr.t
theorem leafTs_take {l : List Tr} {q : Nat} {b : Tr} (h : l[q]? = some b) : leafTs (l.take (q + 1)) = leafTs (l.take q) ++ (if b.k = 0 then [b.t] else []) := by
  rw [List.take_add_one, h]
  by_cases hk : b.k = 0 <;> simp [leafTs, hk]
theorem leafTs_len (l : List Tr) : (leafTs l).length ≤ l.length := by
  unfold leafTs
  rw [List.length_map]
  exact List.length_filter_le _ _
set_option maxRecDepth 100000 in
theorem r10tables_any (d : Nat) (a : Tr) (u v : Value) (w : World) (hu : TsAt d w u a.ks) (hv : PsSome w v a.cs) (hsz : Tr.size a ≤ 1000) :
    Calls Try.prog 19 #[.agg #[.int .i64 a.k, .int .i64 a.t, u, v, .bool a.h]] w
      fun e w' => e = .returned (.int .u64 (Tr.tables a : Nat)) ∧ Below w.heap.size w w' := by
  obtain ⟨i0, hi, hz0, hz1, hz2⟩ := info_parts Try.infoInt
  obtain ⟨W0, hW0⟩ : ∃ W0, W0 = w.alloc (Obj.cells #[.int .i64 a.k, .int .i64 a.t, u, v, .bool a.h] 26) := ⟨_, rfl⟩
  obtain ⟨l0, p0, hb0⟩ := tr_box (a := a) (u := u) (v := v) hW0
  obtain ⟨A, c, rfl, hl⟩ := hu.form
  obtain ⟨A', c', rfl, hl'⟩ := hv.elim fun D h => h.form
  obtain ⟨W1, hW1⟩ : ∃ W1, W1 = W0.alloc (Obj.cells #[] 3) := ⟨_, rfl⟩
  have hb1 : Below W0.heap.size W0 W1 := by rw [hW1]; exact below_new _ _
  have hb01 := below_join hb0 hb1
  have how : W1.ownsRow W0.heap.size 3 1 (.slice (some ⟨W0.heap.size, 0, none⟩) 0 0) 0 [] := by rw [hW1]; exact own_empty W0 3 1 W0.heap.size (Nat.le_refl _) W0.heap.size rfl
  have cs := r10all_any W1 d a _ _ W1 (Below.refl _ _) (hu.below hb01 (Nat.le_refl _)) (hv.below hb01 (Nat.le_refl _)) hsz
  have hal := Tr.all_length_le a
  have p1 := p0.below hb1 l0.lt
  obtain ⟨q0, q1, q2, q3, q4⟩ := p1
  have HT := Lib.hid (show Tr.tables a = St.ofN (leafTs (Tr.all a)) from rfl)
  have HW := Lib.hid hW0
  have HW1 := Lib.hid hW1
  have HB0 := Lib.hid hb0
  clear hW0 hW1 hu hv l0 p0 hb0 hb01
  go_enter Try.func19, Try.ntmps19
  go_upto_region 1 with (fail)
  rw [← HW.out]
  go_upto_region 2 with (fail)
  rw [← HW1.out]
  go_wp2_with fail
  refine cs.mono ?_
  rintro e w2 ⟨v2, L, rfl, hm, _, hown2, hb2⟩
  have hownl := own_kept how hb2
  have hb12 := below_join hb1 hb2
  obtain ⟨n, hn⟩ : ∃ n, n = L.length := ⟨_, rfl⟩
  have hnl : n ≤ 1000 := by
    have h1 := congrArg List.length hm
    rw [List.length_map] at h1
    omega
  obtain ⟨B, c2, rfl, _⟩ := own_tr hown2
  rw [← hn] at hown2 ⊢
  have HN := Lib.hid hn
  have HM := Lib.hid hm
  have HO := Lib.hid hown2
  have HOL := Lib.hid hownl
  clear cs q0 q1 q2 q3 q4 hn hm hown2 hb2 hal how hownl
  go_wp2_with fail
  go_loopw [3, 5] (fun s i wr => ∃ q : Nat, q ≤ n ∧ i = .int .i64 q ∧ wr.ownsRow W0.heap.size 3 1 s (leafTs ((Tr.all a).take q)).length ((leafTs ((Tr.all a).take q)).map (Value.int .i64)) ∧ Hid (wr.ownsRow W1.heap.size 26 5 (.slice B n c2) n (trCells L)) ∧ Below W0.heap.size W0 wr) (fun _ i _ => n - (intOf i).toNat)
  case atStart => exact ⟨0, Nat.zero_le _, rfl, HOL.out, HO, hb12⟩
  case round =>
    obtain ⟨q, hq, rfl, hown, hrow, hb⟩ := hrel
    by_cases hlt : q < n
    · obtain ⟨x, gx⟩ : ∃ x, L[q]? = some x := ⟨L[q]'(by have := HN.out; omega), List.getElem?_eq_getElem _⟩
      have gb : (Tr.all a)[q]? = some x.1 := by rw [← HM.out, List.getElem?_map, gx]; rfl
      have HT2 := Lib.hid (leafTs_take gb)
      have hrow' := hrow.out
      rw [HN.out] at hrow'
      obtain ⟨A1, c1, hv1, hx⟩ := own_tr hrow'
      cases hv1
      obtain ⟨g, rfl, hg1, hg2, q0, q1, _, _, _⟩ := hx q x gx
      have hlen : (leafTs ((Tr.all a).take q)).length ≤ 1000 := by
        have h1 := leafTs_len ((Tr.all a).take q)
        rw [List.length_take] at h1
        omega
      rw [add_from5] at q0 q1
      dsimp only at q0 q1
      clear hrow' hx gx gb
      by_cases hk : x.1.k = 0
      · have HT3 := Lib.hid (show leafTs ((Tr.all a).take (q + 1)) = leafTs ((Tr.all a).take q) ++ [x.1.t] by rw [HT2.out, if_pos hk])
        rw [hk] at q0
        clear hk HT2
        go_wp2_with (first
          | (at_builtin; refine wpList_append_n _ rfl _ _ 22 rfl W0.heap.size 3 i0 (.int .i64 0) 1 8 Try.underlying22 hi hz0 hz1 hz2 rfl (by decide) _ _ _ rfl (hown.alloc _) _ 1 [.int .i64 x.1.t] rfl (CameN.new wr 3 1 1 [.int .i64 x.1.t] _ rfl rfl) ?l0 ?l1 ?l2 ?l3 ?_))
        case l0 => simp [Value.oneCell']
        case l1 => unfold maxLen; omega
        case l2 => omega
        case l3 => have := hb.size; simp; omega
        intro v1 w3 hown4 hgrow
        have hb3 : Below W0.heap.size W0 w3 := (hb.alloc hb.size _).grown hgrow (by have := hb.size; simp; omega) (fun k hk => (hown.lt k hk).1)
        have hrow3 := Lib.hid ((hrow.out.alloc (Obj.cells #[.int .i64 x.1.t] 3)).kept hgrow (own_types (hrow.out.alloc (Obj.cells #[.int .i64 x.1.t] 3)) (hown.alloc (Obj.cells #[.int .i64 x.1.t] 3)) (by decide)))
        have hown5 : w3.ownsRow W0.heap.size 3 1 v1 (leafTs ((Tr.all a).take (q + 1))).length ((leafTs ((Tr.all a).take (q + 1))).map (Value.int .i64)) := by rw [HT3.out]; simpa using hown4
        clear hown4 hgrow hown q0 q1
        go_wp2_with fail
        go_roundw
        case rel => exact ⟨q + 1, by omega, by go_num, hown5, hrow3, hb3⟩
        case measure => simp [intOf]; omega
      · have HT3 := Lib.hid (show leafTs ((Tr.all a).take (q + 1)) = leafTs ((Tr.all a).take q) by rw [HT2.out, if_neg hk, List.append_nil])
        have hk2 : (x.1.k == 0) = false := by simpa using hk
        clear hk HT2
        go_wp2_with fail
        go_roundw
        case rel => exact ⟨q + 1, by omega, by go_num, by rw [HT3.out]; exact hown, hrow, hb⟩
        case measure => simp [intOf]; omega
    · have hL : leafTs ((Tr.all a).take q) = leafTs (Tr.all a) := by
        rw [List.take_of_length_le]
        have h1 := congrArg List.length HM.out
        rw [List.length_map] at h1
        have := HN.out
        omega
      rw [hL] at hown
      have hlen : (leafTs (Tr.all a)).length ≤ 9223372036854775807 := by
        have h1 := leafTs_len (Tr.all a)
        have h2 := congrArg List.length HM.out
        rw [List.length_map] at h2
        have := HN.out
        omega
      have hs := Sl.own hown
      have HS := Lib.hid hs
      have HLE := Lib.hid hlen
      clear hown hL hs hlen
      go_wp2_with fail
      refine (rof_any _ _ _ HS.out HLE.out).mono ?_
      rintro e w3 ⟨rfl, rfl⟩
      go_wp2_with fail
      go_ret
      exact ⟨by rw [HT.out]; rfl, below_join HB0.out hb⟩
end Go.Proofs.Ytdcgfhenlddmeaa
