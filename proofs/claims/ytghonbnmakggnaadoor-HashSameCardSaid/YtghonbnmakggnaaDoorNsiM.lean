/-
  PACKAGE nest: each, and what it hands back, as an iterator.
-/
import Derived.Test.YtghonbnmakggnaaDoorNsjM
import Derived.Test.YtghonbnmakggnaaDoorItrM
import Derived.Test.YtghonbnmakggnaaDoorPsnM
import Derived.Laws.EntriesVeiled
namespace Go.Proofs.YtghonbnmakggnaaDoor
open Go.RowKit Go.Shelf
attribute [local go_sem] Oper.semAt_some
set_option maxHeartbeats 1600000

theorem neach_any (k : Int) (cv lv rv : Value) (w : World) (hc : ∃ A n c, cv = .slice A n c) (hl : ∃ A n c, lv = .slice A n c) (hr : ∃ A n c, rv = .slice A n c) :
    Calls Tryd.prog 29 #[.int .i64 k, cv, lv, rv] w fun e w' => e = .returned (.func (.func 39) #[] #[.pointer (some ⟨w.heap.size + 1 + 1, 0, none⟩), .pointer (some ⟨w.heap.size, 0, none⟩), .pointer (some ⟨w.heap.size + 1, 0, none⟩), .pointer (some ⟨w.heap.size + 1 + 1 + 1, 0, none⟩)]) ∧
      w' = (((w.alloc (.cells #[.int .i64 k] 3)).alloc (.cells #[cv] 22)).alloc (.cells #[lv] 27)).alloc (.cells #[rv] 27) := by
  obtain ⟨A, n, c, rfl⟩ := hc
  obtain ⟨A', n', c', rfl⟩ := hl
  obtain ⟨A2, n2, c2, rfl⟩ := hr
  go_enter Tryd.func29, Tryd.ntmps29
  go_wp2
  go_ret
  exact ⟨rfl, rfl⟩
/-- the four cells that the tour has captured -/
structure NsCells (W : World) (gk gc gl gr : Nat) (k : Int) (cv lv rv : Value) : Prop where
  k : W.cell? ⟨gk, 0, none⟩ = some (.int .i64 k)
  c : W.cell? ⟨gc, 0, none⟩ = some cv
  l : W.cell? ⟨gl, 0, none⟩ = some lv
  r : W.cell? ⟨gr, 0, none⟩ = some rv
theorem NsCells.keep {T : Nat → Prop} {W W' : World} {gk gc gl gr : Nat} {k : Int} {cv lv rv : Value} (h : NsCells W gk gc gl gr k cv lv rv) (hk : Keeps T W W') (h1 : T gk) (h2 : T gc) (h3 : T gl) (h4 : T gr) : NsCells W' gk gc gl gr k cv lv rv :=
  ⟨hk.cell h1 h.k, hk.cell h2 h.c, hk.cell h3 h.l, hk.cell h4 h.r⟩
theorem ns_cells (w : World) (k : Int) (cv lv rv : Value) : NsCells ((((w.alloc (.cells #[.int .i64 k] 3)).alloc (.cells #[cv] 22)).alloc (.cells #[lv] 27)).alloc (.cells #[rv] 27)) w.heap.size (w.heap.size + 1) (w.heap.size + 1 + 1) (w.heap.size + 1 + 1 + 1) k cv lv rv := by
  have l0 := Lies.new w 3 [.int .i64 k]
  have l1 := Lies.new (w.alloc (.cells #[.int .i64 k] 3)) 22 [cv]
  have l2 := Lies.new ((w.alloc (.cells #[.int .i64 k] 3)).alloc (.cells #[cv] 22)) 27 [lv]
  have l3 := Lies.new (((w.alloc (.cells #[.int .i64 k] 3)).alloc (.cells #[cv] 22)).alloc (.cells #[lv] 27)) 27 [rv]
  simp only [World.size_alloc] at l1 l2 l3
  exact ⟨(((l0.alloc _).alloc _).alloc _).cell (i := 0) rfl, ((l1.alloc _).alloc _).cell (i := 0) rfl, (l2.alloc _).cell (i := 0) rfl, l3.cell (i := 0) rfl⟩
/-- what comes: what is made of a tuple, in blocks that are not the caller's -/
def NestR (k : Int) (ps : List Pd) (R : List (List (List Vl))) (B : Nat) (O : Nat → Prop) (W : World) (t : List (List Vl)) (vs : Array Value) : Prop :=
  ∃ A c, vs = #[.slice A (Mt.extend k ps t R).length c] ∧ TusOn (fun j => ¬ O j ∧ B ≤ j) W (.slice A (Mt.extend k ps t R).length c) (Mt.extend k ps t R)
set_option maxRecDepth 100000 in
theorem neach_iter (m : Nat) (T : Nat → Prop) (W0 : World) (hT : ∀ j, T j → j < W0.heap.size) (gk gc gl gr : Nat) (k : Int) (d : Nat) (cv lv rv : Value) (ps : List Pd) (L R : List (List (List Vl)))
    (hcells : NsCells W0 gk gc gl gr k cv lv rv) (h1 : T gk) (h2 : T gc) (h3 : T gl) (h4 : T gr) (hp : PsOn T d W0 cv ps) (hl : TusOn T W0 lv L) (hr : TusOn T W0 rv R) (hW : ∀ W, Keeps T W0 W → Want W)
    (hsz : Pr.sizes ps ≤ 1000) (hfl : Ns.Few 100 100 L) (hfr : Ns.Few 100 100 R) :
    IterR Fence.wide (m + 1) Tryd.prog 39 #[.pointer (some ⟨gl, 0, none⟩), .pointer (some ⟨gk, 0, none⟩), .pointer (some ⟨gc, 0, none⟩), .pointer (some ⟨gr, 0, none⟩)] (NestR k ps R) T (fun _ _ => True) (fun W => Keeps T W0 W) L := by
  rintro l J Jx W O hpre hJ hJx hO hY h0
  obtain ⟨P0, p0, rfl, _⟩ := hp.at_.form
  obtain ⟨L0, c0, rfl, _⟩ := hl.form
  obtain ⟨R0, c1, rfl, _⟩ := hr.form
  have CE := Lib.hid (show ∀ (lv : Value) (t : List (List Vl)) (W : World), Keeps T W0 W → RwsOn T W lv t → t ∈ L → _ from fun lv t W hb ht hm =>
    extend_on k d _ lv _ ps t R W (hp.keep hb.size (fun j hj hlt => ⟨hb.same j hlt hj, hj⟩)).at_ hsz (hW W hb) ht.al (hr.keep hb fun _ _ h => h).al (hfl.tup t hm).1 (hfl.tup t hm).2 (Nat.le_trans hfr.len (by decide)) (fun x hx => (hfr.tup x hx).1) (fun x hx => (hfr.tup x hx).2))
  have HC := Lib.hid (show ∀ W, Keeps T W0 W → NsCells W gk gc gl gr k _ _ _ from fun W hb => hcells.keep hb h1 h2 h3 h4)
  have HL := Lib.hid hl
  obtain ⟨n, hn⟩ : ∃ n, n = L.length := ⟨_, rfl⟩
  obtain ⟨rl, hrl⟩ : ∃ n, n = R.length := ⟨_, rfl⟩
  obtain ⟨pl, hpl⟩ : ∃ n, n = ps.length := ⟨_, rfl⟩
  have hn100 : n ≤ 100 := by rw [hn]; exact hfl.len
  rw [← hn] at HL HC
  rw [← hpl, ← hrl] at CE HC
  have HN := Lib.hid hn
  have HJ := Lib.hid hJ
  have HO := Lib.hid hO
  have HY := Lib.hid hY
  have HT := Lib.hid hT
  have x1 := (HC.out W hpre).l
  have HPRE := Lib.hid hpre
  have H0 := Lib.hid h0
  clear hpre hJ hJx hO hY h0 hp hl hr hW hsz hfl hfr hcells h1 h2 h3 h4 hn hrl hpl hT
  refine callsIn_of_wp Tryd.func39 rfl trivial ?_ rfl
  simp only [Tryd.ntmps39, List.size_toArray, List.length_cons, List.length_nil, Nat.reduceAdd, Nat.reduceSub, Array.replicate_succ, Array.replicate_zero, List.push_toArray, List.append_toArray, List.nil_append, List.cons_append]
  gi_wp2_with fail
  clear x1
  gi_loopw [10] (fun i wr => ∃ (q : Nat) (O' : Nat → Prop), q ≤ n ∧ i = .int .i64 q ∧ J (L.take q) O' wr ∧ Hid (Keeps T W0 wr ∧ W.heap.size ≤ wr.heap.size)) (fun i _ => n - (intOf i).toNat)
  case atStart => exact ⟨0, O, Nat.zero_le _, rfl, H0.out, Lib.hid ⟨HPRE.out, Nat.le_refl _⟩⟩
  case round =>
    obtain ⟨q, O1, hq, rfl, hj, hkk⟩ := hrel
    have hk := Lib.hid hkk.out.1
    have hws := Lib.hid hkk.out.2
    clear hkk
    by_cases hlt : q < n
    · obtain ⟨t, gt⟩ : ∃ t, L[q]? = some t := ⟨L[q]'(by have := HN.out; omega), List.getElem?_eq_getElem _⟩
      obtain ⟨b1, o1, p1, B1, d1, hL0, _, hcell, ht⟩ := TusOn.at_keep HL.out hk.out (fun _ h => h) gt
      subst hL0
      have i1 : (0 : Int) ≤ (q : Int) := by omega
      have i2 : (q : Int) < (n : Int) := by omega
      obtain ⟨y1, y2, y3, y4⟩ := HC.out wr hk.out
      have cm := CE.out _ t wr hk.out (ht.keep hk.out fun _ _ h => h) (List.mem_of_getElem? gt)
      have htk : L.take (q + 1) = L.take q ++ [t] := by rw [List.take_add_one, gt]; rfl
      have hpx : L.take q ++ [t] <+: L := by rw [← htk]; exact List.take_prefix _ _
      have HTK := Lib.hid htk
      obtain ⟨M, hM⟩ : ∃ M, M = Mt.extend k ps t R := ⟨_, rfl⟩
      rw [← hM] at cm
      have HM := Lib.hid hM
      obtain ⟨tl, htl'⟩ : ∃ n, n = t.length := ⟨_, rfl⟩
      rw [← htl'] at cm hcell
      have HPX := Lib.hid hpx
      have HLT := Lib.hid hlt
      clear gt ht hM htl' hlt hpx htk
      have HJQ := Lib.hid hj
      clear hj
      gi_wp2_with fail
      refine ⟨trivial, (callsIn_wide.2 cm).mono ?_⟩
      rintro e w2 ⟨MA, mc, rfl, hMO, hb2⟩
      have hk2 := hk.out.trans (keeps_all (S := T) hb2)
      have hj2 := HJ.out _ _ _ _ HJQ.out (keeps_all (S := fun j => O1 j ∨ True) hb2)
      have hR2 : NestR k ps R W.heap.size O1 w2 t #[.slice MA M.length mc] := ⟨MA, mc, by rw [← HM.out], by
        rw [← HM.out]
        exact hMO.mono fun j _ hj => ⟨fun hj2 => by have := (HO.out _ _ _ HJQ.out j hj2).1; omega, Nat.le_trans hws.out hj⟩⟩
      obtain ⟨fn, tmps, assign, body, hy, hR⟩ := HY.out _ _ _ _ _ hj2 HPX.out hR2
      have HR := Lib.hid hR
      have HK2 := Lib.hid (And.intro hk2 (Nat.le_trans hws.out hb2.size))
      obtain ⟨ml, hml'⟩ : ∃ n, n = M.length := ⟨_, rfl⟩
      rw [← hml'] at hy ⊢
      clear cm hcell hMO hb2 hk2 hj2 hR2 hR y1 y2 y3 y4 hml'
      gi_wp2_with fail
      refine (roundIn_any HR.out).mono ?_
      rintro e w3 (⟨rfl, O3, hj3, hc3⟩ | ⟨rfl, O3, hj3, hc3⟩)
      · have hk3 : Hid (Keeps T W0 w3 ∧ W.heap.size ≤ w3.heap.size) := Lib.hid ⟨HK2.out.1.trans (hc3.keeps.mono fun j hj hj2 => (HO.out _ _ _ HJQ.out j hj2).2 hj), Nat.le_trans HK2.out.2 hc3.keeps.size⟩
        rw [← HTK.out] at hj3
        clear hc3 hy
        have hlt := HLT.out
        gi_wp2_with fail
        go_roundw
        case rel => exact ⟨q + 1, O3, by omega, by go_num, hj3, hk3⟩
        case measure => simp [intOf]; omega
      · clear hc3 hy
        gi_wp2_with fail
        refine bodyPost_ret (results_none rfl _ _ _) rfl ?_
        exact ⟨⟨_, rfl⟩, .inr ⟨_, O3, HPX.out, hj3⟩⟩
    · have i2 : ¬ ((q : Int) < (n : Int)) := by omega
      have ht : L.take q = L := List.take_of_length_le (by have := HN.out; omega)
      rw [ht] at hj
      clear hlt ht
      gi_wp2_with fail
      go_end0
      exact ⟨⟨_, rfl⟩, .inl ⟨O1, hj⟩⟩
end Go.Proofs.YtghonbnmakggnaaDoor
