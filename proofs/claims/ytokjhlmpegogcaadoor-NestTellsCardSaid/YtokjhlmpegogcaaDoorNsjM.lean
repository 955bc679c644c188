/-
  THE DOCUMENT's Join; tuples put behind others in a list of one's own.
-/
import Derived.Test.YtokjhlmpegogcaaDoorNsmM
import Derived.Test.YtokjhlmpegogcaaDoorMtfM
import Derived.Test.YtokjhlmpegogcaaDoorMtjM
import Derived.Test.YtokjhlmpegogcaaDoorMtvM
namespace Go.Proofs.YtokjhlmpegogcaaDoor
open Go.RowKit Go.Sort
set_option maxHeartbeats 3200000

variable {w w' : World} {v : Value}
theorem TuRow.pushes {R : Nat → Prop} {base n m : Nat} {us news : List Value} {ts xs : List (List (List Vl))} {v' : Value} (h : TuRow R base w v n us ts) (hl : xs.length = m) (hu : ∀ (i : Nat) (t : List (List Vl)), xs[i]? = some t → ∃ u, news[i]? = some u ∧ RwsOn (fun k => v.ownBlock ≠ some k ∧ R k) w u t)
    (hown : w'.ownsRow base 32 1 v' (n + m) (us ++ news)) (hg : w.grownBy w' v.ownBlock) (hw : v'.ownBlock = v.ownBlock ∨ ∃ g, v'.ownBlock = some g ∧ w.heap.size ≤ g) : TuRow R base w' v' (n + m) (us ++ news) (ts ++ xs) := by
  have hkp : ∀ {x : Value} {y : List (List Vl)}, RwsOn (fun k => v.ownBlock ≠ some k ∧ R k) w x y → RwsOn (fun k => v'.ownBlock ≠ some k ∧ R k) w' x y := fun {x y} hx => by
    have h1 : RwsOn (fun k => (v.ownBlock ≠ some k ∧ R k) ∧ k < w.heap.size) w x y := hx.mono fun k hk1 hk2 => ⟨hk2, hk1⟩
    refine (h1.keep (keeps_grown hg) fun _ _ hk2 => hk2.1.1).mono fun _ _ hk2 => ⟨?_, hk2.1.2⟩
    rcases hw with e | ⟨g, e, hge⟩
    · rw [e]; exact hk2.1.1
    · rw [e]; intro e2; cases e2; have := hk2.2; omega
  have hul : us.length = n := by have := h.own.1; omega
  have htl : ts.length = n := h.len
  refine ⟨hown, by rw [List.length_append, htl, hl], fun i x hi => ?_⟩
  by_cases e : i < ts.length
  · rw [List.getElem?_append_left e] at hi
    obtain ⟨y, hy, hr⟩ := h.tup i x hi
    exact ⟨y, by rw [List.getElem?_append_left (by omega)]; exact hy, hkp hr⟩
  · rw [List.getElem?_append_right (by omega)] at hi
    obtain ⟨y, hy, hr⟩ := hu _ x hi
    exact ⟨y, by rw [List.getElem?_append_right (by omega), hul, ← htl]; exact hy, hkp hr⟩
/-- what a call made, put behind a list of the caller's own -/
theorem TuRow.more {R S : Nat → Prop} {base n m c : Nat} {us : List Value} {ts xs : List (List (List Vl))} {A : Option Addr} (h : TuRow R base w v n us ts) (hx : TusOn S w (.slice A m c) xs) (hS : ∀ k, k < w.heap.size → S k → v.ownBlock ≠ some k ∧ R k) :
    ∃ news, news.length = m ∧ xs.length = m ∧ (∀ u ∈ news, u.oneCell' = true) ∧ (0 < m → ∃ ad, A = some ad ∧ ∀ (j : Nat) (u : Value), news[j]? = some u → w.cell? (ad.add j) = some u) ∧
      ∀ v' w', w'.ownsRow base 32 1 v' (n + m) (us ++ news) → w.grownBy w' v.ownBlock → (v'.ownBlock = v.ownBlock ∨ ∃ g, v'.ownBlock = some g ∧ w.heap.size ≤ g) → TuRow R base w' v' (n + m) (us ++ news) (ts ++ xs) := by
  obtain ⟨us2, hx⟩ := hx
  have hl : us2.length = m := by obtain ⟨A', c', hv, _⟩ := hx.sl; cases hv; rfl
  have hl2 : xs.length = m := by rw [← hx.len]; exact hl
  refine ⟨us2, hl, hl2, tus_ones hx, fun h0 => ?_, fun v' w' h1 h2 h3 => h.pushes hl2 (fun i t hi => ?_) h1 h2 h3⟩
  · obtain ⟨⟨A', c', hv, hc, hy⟩, _, _⟩ := hx
    subst hl
    exact SlOn.src (T := S) (n := us2.length) (c := c) ⟨A', c', hv, hc, hy⟩ h0
  · obtain ⟨u, h1, h2⟩ := hx.tup i t hi
    exact ⟨u, h1, h2.mono hS⟩
set_option maxRecDepth 100000 in
theorem r14join_any (k : Int) (d : Nat) (cv lv rv : Value) (ps : List Pd) (L R : List (List (List Vl))) (w : World) (hp : PsAt d w cv ps) (hsz : Pr.sizes ps ≤ 1000) (hl : TusOn Al w lv L) (hr : TusOn Al w rv R)
    (hfl : Ns.Few 100 100 L) (hfr : Ns.Few 100 100 R) :
    Calls Tryd.prog 9 #[.int .i64 k, cv, lv, rv] w (Tuples w (Ns.join k ps L R)) := by
  obtain ⟨i0, hi, hz0, hz1, hz2⟩ := info_parts Tryd.infoTup13
  have hl' : TusOn (fun k => k < w.heap.size) w lv L := hl.mono fun k h1 _ => h1
  have hr' : TusOn (fun k => k < w.heap.size) w rv R := hr.mono fun k h1 _ => h1
  obtain ⟨P0, p0, rfl, _⟩ := hp.form
  obtain ⟨L0, c0, rfl, _⟩ := hl'.form
  obtain ⟨R0, c1, rfl, _⟩ := hr'.form
  have CE := Lib.hid (show ∀ (lv : Value) (t : List (List Vl)) (W : World), Below w.heap.size w W → RwsOn (fun k => k < w.heap.size) W lv t → t ∈ L → _ from fun lv t W hb ht hm =>
    r13extend_on (fun k => k < w.heap.size) k d _ lv _ ps t R W (hp.below hb (Nat.le_refl _)) hsz ht (hr'.below hb (Nat.le_refl _)) (hfl.tup t hm).1 (hfl.tup t hm).2 (Nat.le_trans hfr.len (by decide)) (fun x hx => (hfr.tup x hx).1) (fun x hx => (hfr.tup x hx).2))
  have HL := Lib.hid hl'
  have hle := fun q => Ns.join_le k ps (L.take q) R
  have hee := fun t => Ns.extend_le k ps t R
  have HEE := Lib.hid hee
  have hr1 := hfr.len
  have hl1 := hfl.len
  obtain ⟨n, hn⟩ : ∃ n, n = L.length := ⟨_, rfl⟩
  obtain ⟨rl, hrl⟩ : ∃ n, n = R.length := ⟨_, rfl⟩
  obtain ⟨pl, hpl⟩ : ∃ n, n = ps.length := ⟨_, rfl⟩
  rw [← hn] at HL hl1 ⊢
  rw [← hpl, ← hrl] at CE
  rw [← hrl] at hr1 ⊢
  rw [← hpl]
  have HN := Lib.hid (And.intro hn hrl)
  have HOW := Lib.hid (own_empty w 32 1 w.heap.size (Nat.le_refl _) w.heap.size rfl)
  have hb1 := (Below.refl w.heap.size w).alloc (Nat.le_refl _) (Obj.cells #[] 32)
  clear hp hsz hl hr hl' hr' hfl hfr hn hrl hpl hle hee
  go_enter Tryd.func9, Tryd.ntmps9
  go_wp2_with fail
  go_loopw [9, 10] (fun s i wr => ∃ (q m a : Nat) (us : List Value) (A : Option Addr), q ≤ n ∧ i = .int .i64 q ∧ s = .slice A m a ∧ m ≤ q * 101 ∧ m ≤ a ∧ Hid (TuRow Al w.heap.size wr (.slice A m a) m us (Ns.join k ps (L.take q) R)) ∧ Below w.heap.size w wr) (fun _ i _ => n - (intOf i).toNat)
  case atStart => exact ⟨0, 0, 0, [], _, by omega, rfl, rfl, by omega, by omega, Lib.hid ⟨HOW.out, by simp [Ns.join], fun i t h => by simp [Ns.join] at h⟩, hb1⟩
  case round =>
    obtain ⟨q, m, a, us, A, hq, rfl, rfl, hmq, hma, HT, hb⟩ := hrel
    by_cases hlt : q < n
    · obtain ⟨t, gt⟩ : ∃ t, L[q]? = some t := ⟨L[q]'(by have := HN.out.1; omega), List.getElem?_eq_getElem _⟩
      obtain ⟨b1, o1, p1, B1, d1, hL0, _, h1⟩ := HL.out.pick gt
      subst hL0
      have i1 : (0 : Int) ≤ (q : Int) := by omega
      have i2 : (q : Int) < (n : Int) := by omega
      obtain ⟨hcell, ht⟩ := h1 wr hb
      have cm := CE.out _ t wr hb ht (List.mem_of_getElem? gt)
      have HGT := Lib.hid (Ns.join_take (k := k) (ps := ps) (R := R) gt)
      have hml := HEE.out t
      obtain ⟨M, hM⟩ : ∃ M, M = Mt.extend k ps t R := ⟨_, rfl⟩
      rw [← hM] at cm hml HGT
      obtain ⟨tl, htl'⟩ : ∃ n, n = t.length := ⟨_, rfl⟩
      rw [← htl'] at cm hcell
      have hrl := HN.out.2
      rw [← hrl] at hml
      clear h1 gt ht hM htl' hlt hrl
      go_wp2_with fail
      refine cm.mono ?_
      rintro E w2 ⟨MA, mc, rfl, hMO, hb2⟩
      have hb3 := below_join hb hb2
      have hT2 := HT.out.below hb2
      have hsz := hb.size
      obtain ⟨news, hn1, hn2, hn3, hn4, hn5⟩ := hT2.more hMO (fun j _ hj => ⟨fun e => by have := HT.out.own.lt j e; rcases hj with hj | hj <;> omega, trivial⟩)
      obtain ⟨ml, hml'⟩ : ∃ n, n = M.length := ⟨_, rfl⟩
      rw [← hml'] at hn1 hn2 hn4 hn5 hml ⊢
      have HN5 := Lib.hid hn5
      have HT2 := Lib.hid hT2
      have HB3 := Lib.hid hb3
      clear cm hcell hMO hb hb2 hn5 hT2 HT hsz hn2 hb3 hml'
      by_cases hz : ml = 0
      · subst hz
        obtain rfl : news = [] := List.eq_nil_of_length_eq_zero hn1
        clear hn1 hn3 hn4
        go_wp2_with (first
          | (at_builtin; refine wpList_append_zero _ rfl _ _ 23 rfl 32 i0 Tryd.underlying23 hi A MA m a mc rfl rfl hma ?_))
        have hT5 := HN5.out _ w2 (by simpa using HT2.out.own) ⟨rfl, rfl, rfl, Nat.le_refl _, fun _ _ _ => rfl⟩ (.inl rfl)
        rw [← HGT.out, List.append_nil] at hT5
        have HT5 := Lib.hid hT5
        clear hT5
        go_wp2_with fail
        go_roundw
        case rel => exact ⟨q + 1, m, a, us, A, by omega, by go_num, rfl, by omega, hma, HT5, HB3.out⟩
        case measure => simp [intOf]; omega
      · obtain ⟨ad, rfl, hn6⟩ := hn4 (by omega)
        have HN6 := Lib.hid hn6
        have HN3 := Lib.hid hn3
        have hn1' : news.length = ml * 1 := by omega
        have HN1 := Lib.hid hn1'
        clear hn1 hn1' hn3 hn4 hn6 hz
        go_wp2_with (first
          | (at_builtin; refine wpList_append_at _ rfl _ _ 23 rfl w.heap.size 32 i0 (.slice none 0 0) 1 24 Tryd.underlying23 hi hz0 hz1 hz2 rfl (by decide) _ m us rfl HT2.out.own ad ml mc news rfl HN1.out ?c1 ?c2 ?c3 ?c4 ?c5 ?_))
        case c1 => exact HN6.out
        case c2 => exact HN3.out
        case c3 => unfold maxLen; omega
        case c4 => omega
        case c5 => exact HB3.out.size
        intro v1 w5 hown3 hgrow hwhere
        have hT5 := HN5.out v1 w5 hown3 hgrow hwhere
        rw [← HGT.out] at hT5
        have hb5 : Below w.heap.size w w5 := HB3.out.grown hgrow HB3.out.size (fun k hk => (HT2.out.own.lt k hk).1)
        obtain ⟨A5, a5, rfl, ha5⟩ : ∃ A5 a5, v1 = .slice A5 (m + ml) a5 ∧ m + ml ≤ a5 := by
          rcases hown3.2 with ⟨rfl, h0⟩ | ⟨g, cap, cur, rfl, _, _, hnc, _⟩
          · rw [h0]; exact ⟨none, 0, rfl, Nat.le_refl _⟩
          · exact ⟨_, cap, rfl, hnc⟩
        have HT5 := Lib.hid hT5
        clear hT5 hown3 hgrow hwhere
        go_wp2_with fail
        go_roundw
        case rel => exact ⟨q + 1, m + ml, a5, _, A5, by omega, by go_num, rfl, by omega, ha5, HT5, hb5⟩
        case measure => simp [intOf]; omega
    · have hres := Lib.hid (show Tuples w (Ns.join k ps L R) (.returned (.slice A m a)) wr from by
        have h1 := HT.out
        rw [List.take_of_length_le (by have := HN.out.1; omega)] at h1
        have h2 := h1.len
        exact ⟨A, a, by rw [h2], by rw [h2]; exact h1.tus, hb⟩)
      clear hb
      go_wp2_with fail
      go_ret
      exact hres.out
end Go.Proofs.YtokjhlmpegogcaaDoor
