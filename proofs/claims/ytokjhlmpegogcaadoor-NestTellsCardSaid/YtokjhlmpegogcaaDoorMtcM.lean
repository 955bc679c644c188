/-
  THE DOCUMENT's ANSWERS OF LAYER 13: Merge, Matches, Extend.
-/
import Derived.Test.YtokjhlmpegogcaaDoorMtbM
import Derived.Test.YtokjhlmpegogcaaDoorGPred
import Derived.OwnWalk
import Derived.Laws.OwnMore
namespace Go.Proofs.YtokjhlmpegogcaaDoor
open Go.RowKit Go.Sort
set_option maxHeartbeats 1600000

/-- what the document's Merge tells: a tuple in a block of its own, its rows where they lay -/
def Merged (T : Nat → Prop) (w : World) (t : List (List Vl)) (E : Ending) (w' : World) : Prop :=
  ∃ A c, E = .returned (.slice A t.length c) ∧ RwsOn (fun k => w.heap.size ≤ k ∨ T k) w' (.slice A t.length c) t ∧ Below w.heap.size w w'
set_option maxRecDepth 100000 in
theorem r13merge_any (T : Nat → Prop) (u v : Value) (a b : List (List Vl)) (w : World) (hu : RwsOn T w u a) (hv : RwsOn T w v b) (ha : a.length ≤ 1000) (hb : b.length ≤ 1000) :
    Calls Tryd.prog 27 #[u, v] w (Merged T w (Mt.merge a b)) := by
  obtain ⟨i0, hi, hz0, hz1, hz2⟩ := info_parts Tryd.infoRow13
  obtain ⟨A, c, rfl, _⟩ := hu.form
  obtain ⟨A', c', rfl, _⟩ := hv.form
  have hu2 : RwsOn (fun k => T k ∧ k < w.heap.size) w _ a := hu.mono fun k h1 h2 => ⟨h2, h1⟩
  have hv2 : RwsOn (fun k => T k ∧ k < w.heap.size) w _ b := hv.mono fun k h1 h2 => ⟨h2, h1⟩
  have cu := fun (k : Nat) (wr : World) (h : Below w.heap.size w wr) (hk : k ≤ 1000) => r13row_any _ _ a k wr (hu2.below h (Nat.le_refl _)) hk
  have cv := fun (k : Nat) (wr : World) (h : Below w.heap.size w wr) (hk : k ≤ 1000) => r13row_any _ _ b k wr (hv2.below h (Nat.le_refl _)) hk
  have CU := Lib.hid cu
  have CV := Lib.hid cv
  have ML := Mt.merge_length a b
  obtain ⟨n, hn⟩ : ∃ n, n = a.length := ⟨_, rfl⟩
  obtain ⟨m, hm⟩ : ∃ m, m = b.length := ⟨_, rfl⟩
  rw [← hn] at CU ha ML ⊢
  rw [← hm] at CV hb ML ⊢
  have HN := Lib.hid (And.intro hn (And.intro hm ML))
  have HOW := Lib.hid (own_empty w 42 1 w.heap.size (Nat.le_refl _) w.heap.size rfl)
  have hb1 := (Below.refl w.heap.size w).alloc (Nat.le_refl _) (Obj.cells #[] 42)
  clear hu hv hu2 hv2 cu cv hn hm ML
  go_enter Tryd.func27, Tryd.ntmps27
  go_wp2_with fail
  go_loopw [5, 6] (fun s i wr => ∃ (k : Nat) (us : List Value) (sv : Value), k ≤ 1000 ∧ i = .int .i64 k ∧ sv = s ∧ wr.ownsRow w.heap.size 42 1 sv k us ∧ Hid (k ≤ max n m ∧ ∀ j, j < k → ∃ u, us[j]? = some u ∧ RowOn (fun k => T k ∧ k < w.heap.size) wr u (Mt.pick a b j)) ∧ Below w.heap.size w wr) (fun _ i _ => 1000 - (intOf i).toNat)
  case atStart => exact ⟨0, [], _, by omega, rfl, rfl, HOW.out, Lib.hid ⟨by omega, fun j h => by omega⟩, hb1⟩
  case round =>
    obtain ⟨k, us, sv, hk, rfl, rfl, hown, hz, hb⟩ := hrel
    by_cases hlt : k < n ∨ k < m
    · have hcase : decide ((k : Int) < (n : Int)) = true ∨ (decide ((k : Int) < (n : Int)) = false ∧ decide ((k : Int) < (m : Int)) = true) := by
        by_cases g2 : k < n
        · exact .inl (decide_eq_true (by omega))
        · exact .inr ⟨decide_eq_false (by omega), decide_eq_true (by omega)⟩
      have hk1 : k < 1000 := by omega
      have hlx := Lib.hid (show k + 1 ≤ max n m by omega)
      obtain ⟨x, hx⟩ : ∃ x, x = Mt.row a k := ⟨_, rfl⟩
      obtain ⟨y, hy⟩ : ∃ y, y = Mt.row b k := ⟨_, rfl⟩
      have c1 := CU.out k wr hb hk
      have c2 := CV.out k wr hb hk
      rw [← hx] at c1
      rw [← hy] at c2
      have hp : Mt.pick a b k = if x.length = 0 then y else x := by rw [hx, hy]; rfl
      obtain ⟨xl, hxl⟩ : ∃ n, n = x.length := ⟨_, rfl⟩
      rw [← hxl] at c1 hp
      obtain ⟨yl, hyl⟩ : ∃ n, n = y.length := ⟨_, rfl⟩
      rw [← hyl] at c2
      have HP := Lib.hid hp
      have hul : us.length = k := by have := hown.1; omega
      have HUL := Lib.hid hul
      have next : ∀ (u v' : Value) (w3 : World), RowOn (fun k => T k ∧ k < w.heap.size) wr u (Mt.pick a b k) → Below w.heap.size w w3 → wr.heap.size ≤ w3.heap.size → (∀ j, j < k + 1 → ∃ u', (us ++ [u])[j]? = some u' ∧ RowOn (fun k => T k ∧ k < w.heap.size) w3 u' (Mt.pick a b j)) := fun u v' w3 hu hb3 hsz j hj => by
        have kp := keeps_two hb hb3 hsz
        rcases Nat.lt_or_eq_of_le (Nat.le_of_lt_succ hj) with g | g
        · obtain ⟨u', h1, h2⟩ := hz.out.2 j g
          exact ⟨u', by rw [List.getElem?_append_left (by omega)]; exact h1, h2.keep kp fun k _ h => h.2⟩
        · subst g
          refine ⟨u, ?_, hu.keep kp fun k _ h => h.2⟩
          rw [List.getElem?_append_right (by omega), hul, Nat.sub_self]
          rfl
      have NEXT := Lib.hid next
      clear hx hy hlt hp hxl hyl next hul
      rcases hcase with t1 | ⟨t1, t2⟩
      all_goals
        try have t1' := of_decide_eq_true t1
        try have t1' := of_decide_eq_false t1
        try have t2' := of_decide_eq_true t2
        go_wp2_with fail
        refine c1.mono ?_
        rintro e w1 ⟨A1, d1, rfl, hr1, rfl⟩
        try clear t2 t2'
        clear t1 t1'
        have HR1 := Lib.hid hr1
        clear hr1
        by_cases h0 : xl = 0
        · have i0' : ¬ ((xl : Int) > 0) := by omega
          have HP2 := Lib.hid (HP.out.trans (if_pos h0))
          clear h0 c1
          go_wp2_with fail
          refine c2.mono ?_
          rintro e w1 ⟨A2, d2, rfl, hr2, rfl⟩
          clear c2
          have HR2 := Lib.hid hr2
          clear hr2
          have hu2 := by have h := HR2.out; rw [← HP2.out] at h; exact h
          have HU2 := Lib.hid hu2
          clear hu2
          go_wp2_with (first
            | (at_builtin; refine wpList_append_own _ rfl _ _ 32 rfl w.heap.size 42 i0 (.slice none 0 0) 1 24 Tryd.underlying32 hi hz0 hz1 hz2 rfl (by decide) _ k us rfl (hown.alloc _) ⟨wr.heap.size, 0, none⟩ 1 1 [.slice A2 yl d2] rfl rfl ?c1 ?c2 ?c3 ?c4 ?c5 ?_))
          case c1 => exact cell_one_new _ _ _
          case c2 => simp [Value.oneCell']
          case c3 => unfold maxLen; omega
          case c4 => omega
          case c5 => have := hb.size; simp; omega
          intro v1 w3 hown3 hgrow _
          have hb3 : Below w.heap.size w w3 := (hb.alloc hb.size _).grown hgrow (by have := hb.size; simp; omega) (fun k hk => (hown.lt k hk).1)
          have hsz : wr.heap.size ≤ w3.heap.size := by have := hgrow.size; simp at this; omega
          have hn2 := Lib.hid (And.intro (show k + 1 ≤ max n m from hlx.out) (NEXT.out _ v1 w3 HU2.out hb3 hsz))
          clear hgrow hown hb hsz
          go_wp2_with fail
          go_roundw
          case rel => exact ⟨k + 1, _, _, by omega, by go_num, rfl, hown3, hn2, hb3⟩
          case measure => simp [intOf]; omega
        · have i0' : (xl : Int) > 0 := by omega
          have HP2 := Lib.hid (HP.out.trans (if_neg h0))
          clear h0 c2
          go_wp2_with fail
          refine c1.mono ?_
          rintro e w1 ⟨A2, d2, rfl, hr2, rfl⟩
          clear c1
          have HR2 := Lib.hid hr2
          clear hr2
          have hu2 := by have h := HR2.out; rw [← HP2.out] at h; exact h
          have HU2 := Lib.hid hu2
          clear hu2
          go_wp2_with (first
            | (at_builtin; refine wpList_append_own _ rfl _ _ 32 rfl w.heap.size 42 i0 (.slice none 0 0) 1 24 Tryd.underlying32 hi hz0 hz1 hz2 rfl (by decide) _ k us rfl (hown.alloc _) ⟨wr.heap.size, 0, none⟩ 1 1 [.slice A2 xl d2] rfl rfl ?c1 ?c2 ?c3 ?c4 ?c5 ?_))
          case c1 => exact cell_one_new _ _ _
          case c2 => simp [Value.oneCell']
          case c3 => unfold maxLen; omega
          case c4 => omega
          case c5 => have := hb.size; simp; omega
          intro v1 w3 hown3 hgrow _
          have hb3 : Below w.heap.size w w3 := (hb.alloc hb.size _).grown hgrow (by have := hb.size; simp; omega) (fun k hk => (hown.lt k hk).1)
          have hsz : wr.heap.size ≤ w3.heap.size := by have := hgrow.size; simp at this; omega
          have hn2 := Lib.hid (And.intro (show k + 1 ≤ max n m from hlx.out) (NEXT.out _ v1 w3 HU2.out hb3 hsz))
          clear hgrow hown hb hsz
          go_wp2_with fail
          go_roundw
          case rel => exact ⟨k + 1, _, _, by omega, by go_num, rfl, hown3, hn2, hb3⟩
          case measure => simp [intOf]; omega
    · have hn1 : ¬ ((k : Int) < (n : Int)) := by omega
      have hm1 : ¬ ((k : Int) < (m : Int)) := by omega
      have hkm : k = max n m := by have := hz.out.1; omega
      have H := hz.out.2
      obtain ⟨c0, A0, rfl⟩ : ∃ c0 A0, sv = .slice A0 k c0 := by
        rcases hown.2 with ⟨rfl, rfl⟩ | ⟨g, cap, cur, rfl, _⟩
        · exact ⟨0, none, rfl⟩
        · exact ⟨cap, _, rfl⟩
      have hres := Lib.hid (show Merged T w (Mt.merge a b) (.returned (.slice A0 k c0)) wr from by
        have hlen : (Mt.merge a b).length = k := by rw [HN.out.2.2, hkm]
        refine ⟨A0, c0, by rw [hlen], ?_, hb⟩
        rw [hlen]
        have hul : us.length = k := by have := hown.1; omega
        refine ⟨us, (SlOn.own hown).mono fun j _ hj => .inl (hown.lt j hj).1, by rw [hul, hlen], fun j r hj => ?_⟩
        have hj2 : j < k := by rw [← hlen]; exact (List.getElem?_eq_some_iff.1 hj).1
        obtain ⟨u', h1, h2⟩ := H j hj2
        rw [Mt.merge_at a b (by obtain ⟨h1, h2, _⟩ := HN.out; omega)] at hj
        cases hj
        exact ⟨u', h1, h2.mono fun _ _ h => .inr h.1⟩)
      clear hlt H hz hown hkm
      go_wp2_with fail
      go_ret
      exact hres.out
/-- what tells a list of tuples -/
def Tuples (w : World) (ts : List (List (List Vl))) (E : Ending) (w' : World) : Prop :=
  ∃ A c, E = .returned (.slice A ts.length c) ∧ TusOn Al w' (.slice A ts.length c) ts ∧ Below w.heap.size w w'
/-- .. in the blocks S -/
def TuplesOn (S : Nat → Prop) (w : World) (ts : List (List (List Vl))) (E : Ending) (w' : World) : Prop :=
  ∃ A c, E = .returned (.slice A ts.length c) ∧ TusOn S w' (.slice A ts.length c) ts ∧ Below w.heap.size w w'
theorem TuplesOn.tuples {S : Nat → Prop} {w w' : World} {ts : List (List (List Vl))} {E : Ending} (h : TuplesOn S w ts E w') : Tuples w ts E w' := by
  obtain ⟨A, c, h1, h2, h3⟩ := h
  exact ⟨A, c, h1, h2.al, h3⟩
theorem ownsForm {w : World} {base n : Nat} {e : TypeId} {s : Nat} {v : Value} {us : List Value} (h : w.ownsRow base e s v n us) : ∃ A c, v = .slice A n c := by
  rcases h.2 with ⟨rfl, rfl⟩ | ⟨g, cap, cur, rfl, _⟩
  · exact ⟨none, 0, rfl⟩
  · exact ⟨_, cap, rfl⟩
theorem cell_one13 (w : World) (t : TypeId) (u : Value) : ∀ j x, [u][j]? = some x → (w.alloc (Obj.cells #[u] t)).cell? ((⟨w.heap.size, 0, none⟩ : Addr).add j) = some x := cell_one_new _ _ _
set_option maxRecDepth 100000 in
theorem r13matches_on (T : Nat → Prop) (d : Nat) (cv lv rv : Value) (ps : List Pd) (l : List (List Vl)) (r : List (List (List Vl))) (w : World) (hp : PsAt d w cv ps) (hsz : Pr.sizes ps ≤ 1000) (hl : RwsOn T w lv l) (hr : TusOn T w rv r)
    (hl1 : l.length ≤ 100) (hl2 : ∀ x ∈ l, x.length ≤ 100) (hr1 : r.length ≤ 1000) (hr2 : ∀ x ∈ r, x.length ≤ 100) (hr3 : ∀ x ∈ r, ∀ y ∈ x, y.length ≤ 100) :
    Calls Tryd.prog 20 #[cv, lv, rv] w (TuplesOn (fun k => w.heap.size ≤ k ∨ T k) w (Mt.found ps l r)) := by
  obtain ⟨i0, hi, hz0, hz1, hz2⟩ := info_parts Tryd.infoTup13
  have hl' : RwsOn (fun k => T k ∧ k < w.heap.size) w lv l := hl.mono fun k h1 h2 => ⟨h2, h1⟩
  have hr' : TusOn (fun k => T k ∧ k < w.heap.size) w rv r := hr.mono fun k h1 h2 => ⟨h2, h1⟩
  obtain ⟨P0, p0, rfl, _⟩ := hp.form
  obtain ⟨L0, c0, rfl, _⟩ := hl'.form
  obtain ⟨R0, c1, rfl, _⟩ := hr'.form
  have HP := Lib.hid (And.intro hp hsz)
  have HL := Lib.hid (And.intro hl' (And.intro hl1 hl2))
  have HR := Lib.hid (And.intro hr' (And.intro hr2 hr3))
  have hfl := fun q => Mt.found_le ps l (r.take q)
  have HFL := Lib.hid hfl
  obtain ⟨n, hn⟩ : ∃ n, n = r.length := ⟨_, rfl⟩
  rw [← hn] at hr1 HR ⊢
  have HN := Lib.hid hn
  obtain ⟨ll, hll⟩ : ∃ n, n = l.length := ⟨_, rfl⟩
  rw [← hll] at HL ⊢
  have HLL := Lib.hid hll
  obtain ⟨pl, hpl⟩ : ∃ n, n = ps.length := ⟨_, rfl⟩
  rw [← hpl] at HP ⊢
  have HOW := Lib.hid (own_empty w 32 1 w.heap.size (Nat.le_refl _) w.heap.size rfl)
  have hb1 := (Below.refl w.heap.size w).alloc (Nat.le_refl _) (Obj.cells #[] 32)
  clear hp hsz hl hr hl' hr' hl1 hl2 hr2 hr3 hn hll hpl hfl
  go_enter Tryd.func20, Tryd.ntmps20
  go_wp2_with fail
  go_loopw [7, 8] (fun s i wr => ∃ (q m : Nat) (us : List Value) (sv : Value), q ≤ n ∧ i = .int .i64 q ∧ sv = s ∧ m ≤ q ∧ Hid (m = (Mt.found ps l (r.take q)).length) ∧ Hid (TuRow (fun k => w.heap.size ≤ k ∨ T k) w.heap.size wr sv m us (Mt.found ps l (r.take q))) ∧ Below w.heap.size w wr) (fun _ i _ => n - (intOf i).toNat)
  case atStart => exact ⟨0, 0, [], _, by omega, rfl, rfl, by omega, Lib.hid (by simp [Mt.found_nil]), Lib.hid ⟨HOW.out, by simp [Mt.found_nil], fun i t h => by simp [Mt.found_nil] at h⟩, hb1⟩
  case round =>
    obtain ⟨q, m, us, sv, hq, rfl, rfl, hmq, HM, HT, hb⟩ := hrel
    by_cases hlt : q < n
    · obtain ⟨t, gt⟩ : ∃ t, r[q]? = some t := ⟨r[q]'(by have := HN.out; omega), List.getElem?_eq_getElem _⟩
      obtain ⟨b1, o1, p1, B1, d1, hR0, _, h1⟩ := HR.out.1.pick gt
      subst hR0
      have i1 : (0 : Int) ≤ (q : Int) := by omega
      have i2 : (q : Int) < (n : Int) := by omega
      obtain ⟨hcell, ht⟩ := h1 wr hb
      have htl := HR.out.2.1 t (List.mem_of_getElem? gt)
      have htl2 := HR.out.2.2 t (List.mem_of_getElem? gt)
      have hll := HLL.out
      have cm := r13merge_any (fun k => T k ∧ k < w.heap.size) _ _ l t wr (HL.out.1.below hb (Nat.le_refl _)) ht (by have := HL.out.2.1; omega) (by omega)
      have hml := Mt.merge_length l t
      obtain ⟨M, hM⟩ : ∃ M, M = Mt.merge l t := ⟨_, rfl⟩
      have hM2 : ∀ x ∈ M, x.length ≤ 1000 := by rw [hM]; exact fun x hx => Nat.le_trans (Mt.merge_mem HL.out.2.2 htl2 x hx) (by decide)
      rw [← hM] at cm hml
      have hM1 : M.length ≤ 1000 := by have := HL.out.2.1; omega
      have HMM := Lib.hid (And.intro hM (And.intro hM1 hM2))
      have HGT := Lib.hid (Mt.found_take (ps := ps) (l := l) gt)
      obtain ⟨tl, htl'⟩ : ∃ n, n = t.length := ⟨_, rfl⟩
      rw [← htl'] at cm hcell
      clear h1 gt ht htl htl2 hM hM1 hM2 hml hll htl'
      go_wp2_with fail
      refine cm.mono ?_
      rintro E w2 ⟨MA, mc, rfl, hMO, hb2⟩
      clear cm hcell
      have HMO := Lib.hid hMO
      have cs := r6all_any d _ ps _ M w2 (HP.out.1.below (below_join hb hb2) (Nat.le_refl _)) HP.out.2 hMO.rws HMM.out.2.1 HMM.out.2.2
      obtain ⟨z, hz⟩ : ∃ z, z = Lo.andI (ps.map (Pr.of M)) := ⟨_, rfl⟩
      rw [← hz] at cs
      have HZ := Lib.hid (show Mt.fits ps l t = decide (z = 2) by unfold Mt.fits; rw [← HMM.out.1, ← hz])
      obtain ⟨ml, hml⟩ : ∃ n, n = M.length := ⟨_, rfl⟩
      rw [← hml] at cs HMO ⊢
      clear hMO hz hml
      go_wp2_with fail
      refine cs.mono ?_
      rintro E w3 ⟨rfl, hb3⟩
      clear cs
      have hb4 := below_join hb (below_join hb2 hb3)
      have hsz := hb.size
      have hsz2 := hb2.size
      have hsz3 := hb3.size
      have HMO3 := Lib.hid (show RwsOn (fun k => sv.ownBlock ≠ some k ∧ (w.heap.size ≤ k ∨ T k)) (w3.alloc (Obj.cells #[.slice MA ml mc] 32)) (.slice MA ml mc) M from by
        have h1 := HMO.out.below hb3 (Nat.le_refl _)
        have h2 := h1.below (below_new w3 (Obj.cells #[.slice MA ml mc] 32)) (Nat.le_refl _)
        refine h2.mono fun k _ hk => ⟨fun e => ?_, ?_⟩
        · have := HT.out.own.lt k e
          rcases hk with hk | hk
          · omega
          · have := hk.2; omega
        · rcases hk with hk | hk
          · exact .inl (by omega)
          · exact .inr hk.1)
      have HT3 := Lib.hid ((HT.out.below (below_join hb2 hb3)).below (below_new w3 (Obj.cells #[.slice MA ml mc] 32)))
      have HTQ := Lib.hid (HT.out.below (below_join hb2 hb3))
      clear hb hb2 hb3 hsz2 hsz3
      by_cases hz2 : z = 2
      · have HG2 := Lib.hid (show Mt.found ps l (r.take (q + 1)) = Mt.found ps l (r.take q) ++ [M] by rw [HGT.out, HZ.out, HMM.out.1, hz2]; rfl)
        subst hz2
        go_wp2_with (first
          | (at_builtin; refine wpList_append_at _ rfl _ _ 23 rfl w.heap.size 32 i0 (.slice none 0 0) 1 24 Tryd.underlying23 hi hz0 hz1 hz2 rfl (by decide) _ m us rfl HT3.out.own ⟨w3.heap.size, 0, none⟩ 1 1 [.slice MA ml mc] rfl rfl ?c1 ?c2 ?c3 ?c4 ?c5 ?_))
        case c1 => exact cell_one_new _ _ _
        case c2 => simp [Value.oneCell']
        case c3 => unfold maxLen; omega
        case c4 => omega
        case c5 => have := hb4.size; simp; omega
        intro v1 w5 hown3 hgrow hwhere
        have hb5 : Below w.heap.size w w5 := (hb4.alloc hb4.size _).grown hgrow (by have := hb4.size; simp; omega) (fun k hk => (HTQ.out.own.lt k hk).1)
        have HT5 := Lib.hid (show TuRow (fun k => w.heap.size ≤ k ∨ T k) w.heap.size w5 v1 (m + 1) (us ++ [.slice MA ml mc]) (Mt.found ps l (r.take (q + 1))) from by rw [HG2.out]; exact HT3.out.push HMO3.out hown3 hgrow (by simpa using hwhere))
        have HM5 := Lib.hid (show m + 1 = (Mt.found ps l (r.take (q + 1))).length by rw [HG2.out, List.length_append, ← HM.out]; rfl)
        clear hown3 hgrow hwhere hb4
        go_wp2_with fail
        go_roundw
        case rel => exact ⟨q + 1, m + 1, _, _, by omega, by go_num, rfl, by omega, HM5, HT5, hb5⟩
        case measure => simp [intOf]; omega
      · have HG2 := (show Mt.found ps l (r.take (q + 1)) = Mt.found ps l (r.take q) by rw [HGT.out, HZ.out, decide_eq_false hz2]; simp)
        have HM5 := Lib.hid (show m = (Mt.found ps l (r.take (q + 1))).length by rw [HG2, ← HM.out])
        have HT5 := Lib.hid (show TuRow (fun k => w.heap.size ≤ k ∨ T k) w.heap.size w3 sv m us (Mt.found ps l (r.take (q + 1))) from by rw [HG2]; exact HTQ.out)
        clear HG2
        go_wp2_with fail
        go_roundw
        case rel => exact ⟨q + 1, m, _, _, by omega, by go_num, rfl, by omega, HM5, HT5, hb4⟩
        case measure => simp [intOf]; omega
    · obtain ⟨A0, a0, rfl⟩ := ownsForm HT.out.own
      have hres := Lib.hid (show TuplesOn (fun k => w.heap.size ≤ k ∨ T k) w (Mt.found ps l r) (.returned (.slice A0 m a0)) wr from by
        have h1 := HT.out
        have h2 := HM.out
        rw [List.take_of_length_le (by have := HN.out; omega)] at h1 h2
        exact ⟨A0, a0, by rw [← h2], by rw [← h2]; exact h1.tusOn (fun _ h => .inl h) (fun _ h => h), hb⟩)
      clear hb
      go_wp2_with fail
      go_ret
      exact hres.out
theorem r13matches_any (T : Nat → Prop) (d : Nat) (cv lv rv : Value) (ps : List Pd) (l : List (List Vl)) (r : List (List (List Vl))) (w : World) (hp : PsAt d w cv ps) (hsz : Pr.sizes ps ≤ 1000) (hl : RwsOn T w lv l) (hr : TusOn T w rv r)
    (hl1 : l.length ≤ 100) (hl2 : ∀ x ∈ l, x.length ≤ 100) (hr1 : r.length ≤ 1000) (hr2 : ∀ x ∈ r, x.length ≤ 100) (hr3 : ∀ x ∈ r, ∀ y ∈ x, y.length ≤ 100) :
    Calls Tryd.prog 20 #[cv, lv, rv] w (Tuples w (Mt.found ps l r)) :=
  (r13matches_on T d cv lv rv ps l r w hp hsz hl hr hl1 hl2 hr1 hr2 hr3).mono fun _ _ h => h.tuples
/-- one tuple alone, in a list just built -/
theorem tus_one {T : Nat → Prop} {w : World} {A : Option Addr} {c n : Nat} {t : List (List Vl)} (h : RwsOn T w (.slice A n c) t) (e : TypeId) : TusOn Al (w.alloc (Obj.cells #[.slice A n c] e)) (.slice (some ⟨w.heap.size, 0, none⟩) 1 1) [t] := by
  have hb := below_new w (Obj.cells #[.slice A n c] e)
  refine ⟨[.slice A n c], ⟨_, 1, rfl, Nat.le_refl _, fun j u hu => ⟨w.heap.size, 0, none, rfl, trivial, by simp, cell_one_new _ _ _ j u hu⟩⟩, rfl, fun i x hi => ?_⟩
  cases i with
  | zero => cases hi; exact ⟨_, rfl, (h.below hb (Nat.le_refl _)).al⟩
  | succ i => simp at hi
/-- .. in the blocks S -/
theorem tus_oneOn {T S : Nat → Prop} {w : World} {A : Option Addr} {c n : Nat} {t : List (List Vl)} (h : RwsOn T w (.slice A n c) t) (e : TypeId) (hT : ∀ k, T k → S k) (hs : S w.heap.size) : TusOn S (w.alloc (Obj.cells #[.slice A n c] e)) (.slice (some ⟨w.heap.size, 0, none⟩) 1 1) [t] := by
  have hb := below_new w (Obj.cells #[.slice A n c] e)
  refine ⟨[.slice A n c], ⟨_, 1, rfl, Nat.le_refl _, fun j u hu => ⟨w.heap.size, 0, none, rfl, hs, by simp, cell_one_new _ _ _ j u hu⟩⟩, rfl, fun i x hi => ?_⟩
  cases i with
  | zero => cases hi; exact ⟨_, rfl, (h.below hb (Nat.le_refl _)).mono fun k _ hk => hT k hk⟩
  | succ i => simp at hi
set_option maxRecDepth 100000 in
theorem r13extend_on (T : Nat → Prop) (k : Int) (d : Nat) (cv lv rv : Value) (ps : List Pd) (l : List (List Vl)) (r : List (List (List Vl))) (w : World) (hp : PsAt d w cv ps) (hsz : Pr.sizes ps ≤ 1000) (hl : RwsOn T w lv l) (hr : TusOn T w rv r)
    (hl1 : l.length ≤ 100) (hl2 : ∀ x ∈ l, x.length ≤ 100) (hr1 : r.length ≤ 1000) (hr2 : ∀ x ∈ r, x.length ≤ 100) (hr3 : ∀ x ∈ r, ∀ y ∈ x, y.length ≤ 100) :
    Calls Tryd.prog 11 #[.int .i64 k, cv, lv, rv] w (TuplesOn (fun j => w.heap.size ≤ j ∨ T j) w (Mt.extend k ps l r)) := by
  have cm := r13matches_on T d cv lv rv ps l r w hp hsz hl hr hl1 hl2 hr1 hr2 hr3
  obtain ⟨m, hm⟩ : ∃ m, m = Mt.found ps l r := ⟨_, rfl⟩
  obtain ⟨P0, p0, rfl, _⟩ := hp.form
  obtain ⟨L0, c0, rfl, _⟩ := hl.form
  obtain ⟨R0, c1, rfl, _⟩ := hr.form
  have HL := Lib.hid hl
  unfold Mt.extend
  rw [← hm] at cm ⊢
  have hml : m.length ≤ 1000 := by rw [hm]; exact Nat.le_trans (Mt.found_le _ _ _) hr1
  clear hp hsz hl hr hl1 hl2 hr1 hr2 hr3 hm
  generalize ps.length = pl at *
  generalize r.length = rl at *
  obtain ⟨ll, hll⟩ : ∃ n, n = l.length := ⟨_, rfl⟩
  rw [← hll] at HL cm ⊢
  have HLL := Lib.hid hll
  clear hll
  obtain ⟨ml, hml'⟩ : ∃ n, n = m.length := ⟨_, rfl⟩
  have HML := Lib.hid hml'
  have fin1 : (k = 1 ∨ (k = 2 ∧ 0 < ml)) → Mt.of k l m = m := fun h => by unfold Mt.of; rw [if_pos (by rw [← hml']; exact h)]
  have fin2 : ¬ (k = 1 ∨ (k = 2 ∧ 0 < ml)) → (k = 2 ∨ (k = 3 ∧ 0 < ml) ∨ (k = 4 ∧ ¬ 0 < ml)) → Mt.of k l m = [l] := fun h h2 => by
    unfold Mt.of; rw [if_neg (by rw [← hml']; exact h), if_pos (by rw [← hml']; exact h2)]
  have fin3 : ¬ (k = 1 ∨ (k = 2 ∧ 0 < ml)) → ¬ (k = 2 ∨ (k = 3 ∧ 0 < ml) ∨ (k = 4 ∧ ¬ 0 < ml)) → Mt.of k l m = [] := fun h h2 => by
    unfold Mt.of; rw [if_neg (by rw [← hml']; exact h), if_neg (by rw [← hml']; exact h2)]
  have F1 := Lib.hid fin1
  have F2 := Lib.hid fin2
  have F3 := Lib.hid fin3
  clear fin1 fin2 fin3
  go_enter Tryd.func11, Tryd.ntmps11
  go_wp2_with fail
  refine cm.mono ?_
  rintro E w1 ⟨MA, mc, rfl, hMO, hb⟩
  have HL1 := Lib.hid (HL.out.below hb (Nat.le_refl _))
  have R1 := Lib.hid (show (k = 1 ∨ (k = 2 ∧ 0 < ml)) → TuplesOn (fun j => w.heap.size ≤ j ∨ T j) w (Mt.of k l m) (.returned (.slice MA ml mc)) w1 from fun h => by
    rw [F1.out h, HML.out]; exact ⟨MA, mc, rfl, hMO, hb⟩)
  have R2 := Lib.hid (show ¬ (k = 1 ∨ (k = 2 ∧ 0 < ml)) → (k = 2 ∨ (k = 3 ∧ 0 < ml) ∨ (k = 4 ∧ ¬ 0 < ml)) → TuplesOn (fun j => w.heap.size ≤ j ∨ T j) w (Mt.of k l m) (.returned (.slice (some ⟨w1.heap.size, 0, none⟩) 1 1)) (w1.alloc (Obj.cells #[.slice L0 ll c0] 32)) from fun h h2 => by
    rw [F2.out h h2]; exact ⟨_, 1, rfl, tus_oneOn HL1.out _ (fun _ h => .inr h) (.inl hb.size), below_join hb (below_new _ _)⟩)
  have R3 := Lib.hid (show ¬ (k = 1 ∨ (k = 2 ∧ 0 < ml)) → ¬ (k = 2 ∨ (k = 3 ∧ 0 < ml) ∨ (k = 4 ∧ ¬ 0 < ml)) → TuplesOn (fun j => w.heap.size ≤ j ∨ T j) w (Mt.of k l m) (.returned (.slice none 0 0)) w1 from fun h h2 => by
    rw [F3.out h h2]; exact ⟨none, 0, rfl, TusOn.nil _ _, hb⟩)
  rw [← hml'] at hml ⊢
  clear cm hMO hml' hb F1 F2 F3 HL HL1 HML HLL
  by_cases hs : 0 < ml
  · have hs1 : (0 : Int) < (ml : Int) := by omega
    have hs2 : (ml : Int) > 0 := by omega
    have hs3 : decide (0 < ml) = true := decide_eq_true hs
    by_cases k1 : k = 1
    · have R := Lib.hid (R1.out (by omega))
      clear R1 R2 R3
      subst k1
      go_wp2_with fail
      go_ret
      exact R.out
    · by_cases k2 : k = 2
      · have R := Lib.hid (R1.out (by omega))
        clear R1 R2 R3 k1
        subst k2
        go_wp2_with fail
        go_ret
        exact R.out
      · by_cases k3 : k = 3
        · have R := Lib.hid (R2.out (by omega) (by omega))
          clear R1 R2 R3 k1 k2
          subst k3
          go_wp2_with fail
          go_ret
          exact R.out
        · have R := Lib.hid (R3.out (by omega) (by omega))
          clear R1 R2 R3
          by_cases k4 : k = 4
          · clear k1 k2 k3
            subst k4
            go_wp2_with fail
            go_ret
            exact R.out
          · go_wp2_with fail
            go_ret
            exact R.out
  · have hs1 : ¬ ((0 : Int) < (ml : Int)) := by omega
    have hs2 : ¬ ((ml : Int) > 0) := by omega
    have hs3 : decide (0 < ml) = false := decide_eq_false hs
    by_cases k1 : k = 1
    · have R := Lib.hid (R1.out (by omega))
      clear R1 R2 R3
      subst k1
      go_wp2_with fail
      go_ret
      exact R.out
    · by_cases k2 : k = 2
      · have R := Lib.hid (R2.out (by omega) (by omega))
        clear R1 R2 R3 k1
        subst k2
        go_wp2_with fail
        go_ret
        exact R.out
      · by_cases k4 : k = 4
        · have R := Lib.hid (R2.out (by omega) (by omega))
          clear R1 R2 R3 k1 k2
          subst k4
          go_wp2_with fail
          go_ret
          exact R.out
        · have R := Lib.hid (R3.out (by omega) (by omega))
          clear R1 R2 R3
          by_cases k3 : k = 3
          · clear k1 k2 k4
            subst k3
            go_wp2_with fail
            go_ret
            exact R.out
          · go_wp2_with fail
            go_ret
            exact R.out
theorem r13extend_any (T : Nat → Prop) (k : Int) (d : Nat) (cv lv rv : Value) (ps : List Pd) (l : List (List Vl)) (r : List (List (List Vl))) (w : World) (hp : PsAt d w cv ps) (hsz : Pr.sizes ps ≤ 1000) (hl : RwsOn T w lv l) (hr : TusOn T w rv r)
    (hl1 : l.length ≤ 100) (hl2 : ∀ x ∈ l, x.length ≤ 100) (hr1 : r.length ≤ 1000) (hr2 : ∀ x ∈ r, x.length ≤ 100) (hr3 : ∀ x ∈ r, ∀ y ∈ x, y.length ≤ 100) :
    Calls Tryd.prog 11 #[.int .i64 k, cv, lv, rv] w (Tuples w (Mt.extend k ps l r)) :=
  (r13extend_on T k d cv lv rv ps l r w hp hsz hl hr hl1 hl2 hr1 hr2 hr3).mono fun _ _ h => h.tuples
end Go.Proofs.YtokjhlmpegogcaaDoor
