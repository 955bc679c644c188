/-
  PACKAGE hash: Join.
-/
import Derived.Test.YtghonbnmakggnaaDoorHsiM
import Derived.Test.YtghonbnmakggnaaDoorHsqM
import Derived.Test.YtghonbnmakggnaaDoorNsoM
namespace Go.Proofs.YtghonbnmakggnaaDoor
open Go.RowKit Go.Sort Go.Maps
set_option maxHeartbeats 6400000

namespace Hs
/-- the numbers of tuples are int64 -/
def Wf (L : List (List (List Vl))) : Prop := ∀ t ∈ L, ∀ x ∈ t, ∀ v ∈ x, I64 v.2
theorem wf_val {x : Tm} (hk : x.k = 1) {t : List (List Vl)} (ht : ∀ r ∈ t, ∀ v ∈ r, I64 v.2) : I64 (Te.val x t).2 := by
  rw [Te.val_col hk]
  by_cases h1 : 0 ≤ x.t ∧ x.t < t.length
  · obtain ⟨j, r, _, _, hj, hr⟩ := Te.at_in t h1.1 h1.2
    rw [Te.col_some hr]
    by_cases h2 : 0 ≤ x.c ∧ x.c < r.length
    · obtain ⟨i, v, _, _, hi, hv⟩ := Te.at_in r h2.1 h2.2
      rw [hv]
      exact ht r (List.mem_of_getElem? hj) v (List.mem_of_getElem? hi)
    · rw [Te.at_out r h2]; exact ⟨by decide, by decide⟩
  · rw [Te.col_out h1]; exact ⟨by decide, by decide⟩
theorem inn_col {s : Nat} {x : Tm} (h : inn s x = true) : x.k = 1 := by
  rw [inn_eq] at h
  simp only [Bool.and_eq_true, decide_eq_true_iff] at h
  exact h.1
theorem keys_col {ps : List Pd} {l r : Nat} {c : Tm × Tm} (h : c ∈ keys ps l r) : c.1.k = 1 ∧ c.2.k = 1 := by
  obtain ⟨p, _, hk⟩ := List.mem_filterMap.1 h
  unfold key1 at hk
  split at hk
  · split at hk
    · rename_i h1
      simp only [Bool.and_eq_true] at h1
      cases hk
      exact ⟨inn_col h1.1, inn_col h1.2⟩
    · split at hk
      · rename_i h1
        simp only [Bool.and_eq_true] at h1
        cases hk
        exact ⟨inn_col h1.1, inn_col h1.2⟩
      · cases hk
  · cases hk
theorem wf_fst {ps : List Pd} {l r : Nat} {L : List (List (List Vl))} (hL : Wf L) : ∀ t ∈ L, ∀ x ∈ (keys ps l r).map Prod.fst, I64 (Te.val x t).2 := fun t ht x hx => by
  obtain ⟨c, hc, rfl⟩ := List.mem_map.1 hx
  exact wf_val (keys_col hc).1 (hL t ht)
theorem wf_snd {ps : List Pd} {l r : Nat} {L : List (List (List Vl))} (hL : Wf L) : ∀ t ∈ L, ∀ x ∈ (keys ps l r).map Prod.snd, I64 (Te.val x t).2 := fun t ht x hx => by
  obtain ⟨c, hc, rfl⟩ := List.mem_map.1 hx
  exact wf_val (keys_col hc).2 (hL t ht)
end Hs
theorem add_addh (a : Addr) (m n : Nat) : (a.add m).add n = a.add (m + n) := by
  unfold Addr.add
  by_cases h1 : n = 0 <;> by_cases h2 : m = 0 <;> simp [h1, h2] <;> omega
/-- one tuple of a list, as a list -/
theorem tus_one15 {T : Nat → Prop} {w : World} {a : Addr} {n c q : Nat} {ts : List (List (List Vl))} (h : TusOn T w (.slice (some a) n c) ts) {t : List (List Vl)} (hq : ts[q]? = some t) (hn : q < n) : TusOn T w (.slice (some (a.add q)) 1 (c - q)) [t] := by
  obtain ⟨us, ⟨A', c', hv, hc, hx⟩, hl, ht⟩ := h
  injection hv with e1 e2 e3
  subst e1 e3
  obtain ⟨u, hu, hr⟩ := ht q t hq
  refine ⟨[u], ⟨_, c - q, rfl, by simp; omega, fun j y hj => ?_⟩, rfl, fun i x hi => ?_⟩
  · match j, hj with
    | 0, hj =>
      cases hj
      obtain ⟨b, o, p, h1, h2, h3, h4⟩ := hx q u hu
      cases h1
      refine ⟨_, _, _, rfl, ?_, ?_, ?_⟩
      · show T ((⟨b, o, p⟩ : Addr).add q).block
        rw [add_block]; exact h2
      · show ((⟨b, o, p⟩ : Addr).add q).block < _
        rw [add_block]; exact h3
      · show w.cell? (((⟨b, o, p⟩ : Addr).add q).add 0) = _
        rw [add_addh]; exact h4
  · match i, hi with
    | 0, hi => cases hi; exact ⟨u, rfl, hr⟩
set_option maxRecDepth 100000 in
theorem hjoin_own (k : Int) (d : Nat) (cv lv rv : Value) (ps : List Pd) (L R : List (List (List Vl))) (l r : Nat) (w : World) (hp : PsAt d w cv ps) (hsz : Pr.sizes ps ≤ 1000) (hW : Want w) (hP : Pows w) (hl : TusOn Al w lv L) (hr : TusOn Al w rv R)
    (hfl : Ns.Few 100 100 L) (hfr : Ns.Few 100 100 R) (hwl : Hs.Wf L) (hwr : Hs.Wf R) (hl64 : l < 18446744073709551616) (hr64 : r < 18446744073709551616) :
    Calls Tryd.prog 13 #[.int .i64 k, cv, lv, rv, .int .u64 (l : Int), .int .u64 (r : Int)] w (OwnTus w (Hs.join k ps l r L R)) := by
  obtain ⟨i0, hi, hz0, hz1, hz2⟩ := info_parts Tryd.infoTup13
  have hpl := Pr.sizes_length ps
  have c1 := hkeys_any d cv ps l r w hp hl64 hr64 (by omega)
  have hkl := Hs.keys_le ps l r
  obtain ⟨P0, p0, rfl, _⟩ := hp.form
  obtain ⟨L0, c0, rfl, hnc⟩ := hl.form
  obtain ⟨R0, cr, rfl, _⟩ := hr.form
  have CJ := Lib.hid (show ∀ (u va : Value) (t : List (List Vl)) (RA : List (List (List Vl))) (W : World), Below w.heap.size w W → TusOn Al W u [t] → TusOn Al W va RA → t ∈ L → Ns.Few 100 100 RA → _ from fun u va t RA W hb hu hv ht hRA =>
    njoin_own k d (.slice P0 ps.length p0) u va ps [t] RA W (hp.below hb (Nat.le_refl _)) hsz (hW.below hb (Nat.le_refl _)) hu hv (hfl.one ht) hRA)
  obtain ⟨KS, hKS⟩ : ∃ K, K = Hs.keys ps l r := ⟨_, rfl⟩
  have hwf := Hs.wf_fst (ps := ps) (l := l) (r := r) hwl
  have hws := Hs.wf_snd (ps := ps) (l := l) (r := r) hwr
  have hjt := fun q t (h : L[q]? = some t) => Hs.join_take (k := k) (ps := ps) (l := l) (r := r) (R := R) h
  have HJ0 : Hid (Hs.join k ps l r (L.take 0) R = []) := Lib.hid (by rw [List.take_zero]; rfl)
  rw [← hKS] at hwf hws hjt hkl c1
  have hks : KS.length ≤ 1000 := by omega
  have HL := Lib.hid hl
  have HR := Lib.hid hr
  have HP := Lib.hid hP
  have HFR := Lib.hid hfr
  have HWF := Lib.hid (And.intro hwf hws)
  have HJT := Lib.hid hjt
  have HFL := Lib.hid (And.intro hfl.len hfr.len)
  obtain ⟨n, hn⟩ : ∃ n, n = L.length := ⟨_, rfl⟩
  obtain ⟨rl, hrl⟩ : ∃ n, n = R.length := ⟨_, rfl⟩
  obtain ⟨pl, hpl2⟩ : ∃ n, n = ps.length := ⟨_, rfl⟩
  rw [← hn] at HL hnc
  rw [← hrl] at HR
  rw [← hpl2] at CJ c1
  rw [← hn, ← hrl, ← hpl2]
  have HN := Lib.hid (And.intro hn hrl)
  have hn100 : n ≤ 100 := by rw [hn]; exact hfl.len
  clear hp hsz hW hP hl hr hfl hfr hwl hwr hl64 hr64 hpl hkl hwf hws hjt hn hrl hpl2
  go_enter Tryd.func13, Tryd.ntmps13
  go_wp2_with fail
  refine c1.mono ?_
  rintro E w1 ⟨v1, rfl, ho1, hb1⟩
  have hk1 := KysAt.own ho1 rfl
  have c2 := hside0_any v1 KS w1 hk1 hks
  clear c1 ho1
  go_wp2_with fail
  refine c2.mono ?_
  rintro E w2 ⟨v2, rfl, ho2, hb2⟩
  have ht2 := TmsAt.own ho2 rfl
  have c3 := hside1_any v1 KS w2 (hk1.below hb2 (Nat.le_refl _)) hks
  have hb02 := below_join hb1 hb2
  clear c2 ho2
  go_wp2_with fail
  refine c3.mono ?_
  rintro E w3 ⟨v3, rfl, ho3, hb3⟩
  have ht3 := TmsAt.own ho3 rfl
  have hb03 := below_join hb02 hb3
  have c4 := hshelve_any v3 (.slice R0 rl cr) (KS.map Prod.snd) R w3 ht3 (HR.out.below hb03 (Nat.le_refl _)) (HP.out.below hb03 (Nat.le_refl _)) HWF.out.2 (by rw [List.length_map]; exact hks) (by have := HFL.out.2; omega)
  have HT2 := Lib.hid (ht2.below hb3 (Nat.le_refl _))
  clear c3 ho3 ht3 ht2 hk1
  go_wp2_with fail
  refine c4.mono ?_
  rintro E w4 ⟨b, base, nn, g, U, rfl, hsh, _, hb4⟩
  have hb04 := below_join hb03 hb4
  have HT4 := Lib.hid (HT2.out.below hb4 (Nat.le_refl _))
  have HSH := Lib.hid hsh
  have HB4 := Lib.hid hb04
  clear c4 hb1 hb2 hb3 hb02 hb03 hb4 hb04 hsh HT2
  go_wp2_with fail
  go_loopw [16, 33] (fun s i wr => ∃ (q m a : Nat) (us : List Value) (A : Option Addr), q ≤ n ∧ i = .int .i64 q ∧ s = .slice A m a ∧ m ≤ q * 101 ∧ m ≤ a ∧ Hid (TuRow (fun j => w.heap.size ≤ j) w4.heap.size wr (.slice A m a) m us (Hs.join k ps l r (L.take q) R)) ∧ Below w4.heap.size w4 wr) (fun _ i _ => n - (intOf i).toNat)
  case atStart => exact ⟨0, 0, 0, [], none, Nat.zero_le _, rfl, rfl, Nat.zero_le _, Nat.le_refl _, Lib.hid ⟨World.ownsRow_nil _ _ _ _, by rw [HJ0.out]; rfl, fun i t h => by rw [HJ0.out] at h; simp at h⟩, Below.refl _ _⟩
  case round =>
    obtain ⟨q, m, a, us, A, hq, rfl, rfl, hmq, hma, HT, hb⟩ := hrel
    have hbr := HB4.out.trans (below_low hb HB4.out.size)
    by_cases hlt : q < n
    · obtain ⟨t, gt⟩ : ∃ t, L[q]? = some t := ⟨L[q]'(by have := HN.out.1; omega), List.getElem?_eq_getElem _⟩
      have hL := HL.out.below hbr (Nat.le_refl _)
      obtain ⟨b1, o1, p1, B1, d1, hL0, hd1, h1⟩ := hL.pick gt
      subst hL0
      obtain ⟨lb, hlb⟩ : ∃ lb, lb = (⟨b1, o1, p1⟩ : Addr) := ⟨_, rfl⟩
      rw [← hlb] at h1 HL hL ⊢
      have htm := List.mem_of_getElem? gt
      obtain ⟨hcell, hu⟩ := h1 wr (Below.refl _ _)
      have ck := hkey_any v2 (.slice B1 t.length d1) (KS.map Prod.fst) t wr (HT4.out.below hb (Nat.le_refl _)) hu.rws (HP.out.below hbr (Nat.le_refl _)) (HWF.out.1 t htm) (by rw [List.length_map]; exact hks)
      have HJ := Lib.hid (HJT.out q t gt)
      have hone := fun W (h : Below wr.heap.size wr W) => tus_one15 (hL.below h (Nat.le_refl _)) gt hlt
      have HONE := Lib.hid hone
      have HTM := Lib.hid htm
      obtain ⟨tl, htl⟩ : ∃ n, n = t.length := ⟨_, rfl⟩
      rw [← htl] at ck hcell
      have HBR := Lib.hid hbr
      have HB := Lib.hid hb
      have HLT := Lib.hid hlt
      have i1 : (0 : Int) ≤ (q : Int) := by omega
      have i2 : (q : Int) < (n : Int) := by omega
      have e1 : ((q : Int) + 1) ≤ (n : Int) := by omega
      have e2 : (q : Int) ≤ (q : Int) + 1 := by omega
      have e5 : (q : Int) + 1 ≤ (c0 : Int) := by omega
      have e6 : ¬ (c0 = q) := by omega
      have e7 : ¬ (c0 - q = 0) := by omega
      have e8 : (0 : Int) ≤ (q : Int) + 1 := by omega
      have e9 : ((q : Int) + 1).toNat = q + 1 := by omega
      have e10 : (q : Int) ≤ (c0 : Int) := by omega
      clear hL h1 gt hu hone htm htl hbr hb hlt hlb hd1
      rcases hk : Hs.key (KS.map Prod.fst) t with _ | k0
      case' none =>
        rw [hk] at ck HJ
        clear hk
        go_wp2_with fail
        refine ck.mono ?_
        rintro E w5 ⟨rfl, hb5⟩
        have hbr5 := below_join HBR.out hb5
        have hbw5 := below_join HB.out hb5
        have hRA : Ns.Few 100 100 (Hs.alike (KS.map Prod.snd) none R) := Hs.few_alike HFR.out
        have cj := CJ.out (.slice (some (lb.add q)) 1 (c0 - q)) (.slice none 0 0) t (Hs.alike (KS.map Prod.snd) none R) w5 hbr5 (HONE.out w5 hb5) (TusOn.nil _ _) HTM.out hRA
        rw [Ns.join_one] at cj
        obtain ⟨M, hM⟩ : ∃ M, M = Mt.extend k ps t (Hs.alike (KS.map Prod.snd) none R) := ⟨_, rfl⟩
        have hml : M.length ≤ 101 := by rw [hM]; have := Ns.extend_le k ps t (Hs.alike (KS.map Prod.snd) none R); have := hRA.len; omega
        rw [← hM] at cj HJ
        have HB5 := Lib.hid (And.intro hbr5 hbw5)
        have HT5 := HT.out.keep (S := fun _ => True) (keeps_all hb5) (fun _ _ => trivial) (fun _ _ _ _ => trivial)
        have HT5 := Lib.hid HT5
        have HCJ := Lib.hid cj
        clear ck hb5 hbr5 hbw5 hRA hM cj
      case' some =>
        have hkl := Hs.key_le hk (HWF.out.1 t HTM.out)
        rw [List.length_map] at hkl
        rw [hk] at ck HJ
        clear hk
        go_wp2_with fail
        refine ck.mono ?_
        rintro E w5 ⟨rfl, hb5⟩
        have hbr5 := below_join HBR.out hb5
        have hbw5 := below_join HB.out hb5
        have hs5 := HSH.out.below hbw5
        have hlook := hs5.look (k := k0) (by unfold maxLen; omega)
        have hRA : Ns.Few 100 100 (Hs.alike (KS.map Prod.snd) (some k0) R) := Hs.few_alike HFR.out
        have htu := (hs5.row k0).tus
        obtain ⟨va, hva⟩ : ∃ va, va = g k0 := ⟨_, rfl⟩
        rw [← hva] at hlook htu
        have cj := CJ.out (.slice (some (lb.add q)) 1 (c0 - q)) va t (Hs.alike (KS.map Prod.snd) (some k0) R) w5 hbr5 (HONE.out w5 hb5) htu HTM.out hRA
        rw [Ns.join_one] at cj
        obtain ⟨M, hM⟩ : ∃ M, M = Mt.extend k ps t (Hs.alike (KS.map Prod.snd) (some k0) R) := ⟨_, rfl⟩
        have hml : M.length ≤ 101 := by rw [hM]; have := Ns.extend_le k ps t (Hs.alike (KS.map Prod.snd) (some k0) R); have := hRA.len; omega
        rw [← hM] at cj HJ
        have HB5 := Lib.hid (And.intro hbr5 hbw5)
        have HT5 := HT.out.keep (S := fun _ => True) (keeps_all hb5) (fun _ _ => trivial) (fun _ _ _ _ => trivial)
        have HT5 := Lib.hid HT5
        have HCJ := Lib.hid cj
        clear ck hb5 hbr5 hbw5 hRA hM cj hs5 htu hva hkl
      all_goals
        clear hcell
        go_wp2_with fail
        refine HCJ.out.mono ?_
        rintro E w6 ⟨MA, mc, us6, rfl, hMO, _, hb6⟩
        have hMT := hMO.tusOn (S := fun j => w5.heap.size ≤ j) (fun _ h => h) (fun _ h => h)
        have hT6 := HT5.out.keep (S := fun _ => True) (keeps_all hb6) (fun _ _ => trivial) (fun _ _ _ _ => trivial)
        obtain ⟨news, hn1, hn2, hn3, hn4, hn5⟩ := hT6.more hMT (fun j hj1 hj => ⟨fun e => by have := (HT5.out.own.lt j e).2; omega, by have := HB5.out.1.size; omega⟩)
        obtain ⟨ml, hml'⟩ : ∃ n, n = M.length := ⟨_, rfl⟩
        rw [← hml'] at hn1 hn2 hn4 hn5 hml ⊢
        have HN5 := Lib.hid hn5
        have HT6 := Lib.hid hT6
        have HB6 := Lib.hid (below_join HB5.out.2 hb6)
        clear HCJ hMO hMT hb6 hn5 hT6 hn2 hml'
        have hlt := HLT.out
        by_cases hz : ml = 0
        · subst hz
          obtain rfl : news = [] := List.eq_nil_of_length_eq_zero hn1
          clear hn1 hn3 hn4
          go_wp2_with (first
            | (at_builtin; refine wpList_append_zero _ rfl _ _ 27 rfl 25 i0 Tryd.underlying27 hi A MA m a mc rfl rfl hma ?_))
          have hT7 := HN5.out _ w6 (by simpa using HT6.out.own) ⟨rfl, rfl, rfl, Nat.le_refl _, fun _ _ _ => rfl⟩ (.inl rfl)
          rw [← HJ.out, List.append_nil] at hT7
          have HT7 := Lib.hid hT7
          clear hT7
          go_wp2_with fail
          go_roundw
          case rel => exact ⟨q + 1, m, a, us, A, by omega, by go_num, rfl, by omega, hma, HT7, HB6.out⟩
          case measure => simp [intOf]; omega
        · obtain ⟨ad, rfl, hn6⟩ := hn4 (by omega)
          have HN6 := Lib.hid hn6
          have HN3 := Lib.hid hn3
          have hn1' : news.length = ml * 1 := by omega
          have HN1 := Lib.hid hn1'
          clear hn1 hn1' hn3 hn4 hn6 hz
          go_wp2_with (first
            | (at_builtin; refine wpList_append_at _ rfl _ _ 27 rfl w4.heap.size 25 i0 (.slice none 0 0) 1 24 Tryd.underlying27 hi hz0 hz1 hz2 rfl (by decide) _ m us rfl HT6.out.own ad ml mc news rfl HN1.out ?c1 ?c2 ?c3 ?c4 ?c5 ?_))
          case c1 => exact HN6.out
          case c2 => exact HN3.out
          case c3 => unfold maxLen; omega
          case c4 => omega
          case c5 => exact HB6.out.size
          intro v1 w7 hown3 hgrow hwhere
          have hT7 := HN5.out v1 w7 hown3 hgrow hwhere
          rw [← HJ.out] at hT7
          have hb7 : Below w4.heap.size w4 w7 := HB6.out.grown hgrow HB6.out.size (fun k hk => (HT6.out.own.lt k hk).1)
          obtain ⟨A5, a5, rfl, ha5⟩ : ∃ A5 a5, v1 = .slice A5 (m + ml) a5 ∧ m + ml ≤ a5 := by
            rcases hown3.2 with ⟨rfl, h0⟩ | ⟨g, cap, cur, rfl, _, _, hnc, _⟩
            · rw [h0]; exact ⟨none, 0, rfl, Nat.le_refl _⟩
            · exact ⟨_, cap, rfl, hnc⟩
          have HT7 := Lib.hid hT7
          clear hT7 hown3 hgrow hwhere
          go_wp2_with fail
          go_roundw
          case rel => exact ⟨q + 1, m + ml, a5, _, A5, by omega, by go_num, rfl, by omega, ha5, HT7, hb7⟩
          case measure => simp [intOf]; omega
    · have hres := Lib.hid (show OwnTus w (Hs.join k ps l r L R) (.returned (.slice A m a)) wr from by
        have h1 := HT.out
        rw [List.take_of_length_le (by have := HN.out.1; omega)] at h1
        have h2 := h1.len
        have h3 : TuRow (fun j => w.heap.size ≤ j) w.heap.size wr (.slice A m a) m us (Hs.join k ps l r L R) := ⟨h1.own.mono HB4.out.size, h1.len, h1.tup⟩
        exact ⟨A, a, us, by rw [h2], by rw [h2]; exact h3, by rw [h2]; exact hma, hbr⟩)
      have i2 : ¬ ((q : Int) < (n : Int)) := by omega
      clear hb hbr hlt HT
      go_wp2_with fail
      go_ret
      exact hres.out
end Go.Proofs.YtghonbnmakggnaaDoor
