/-
  THE STATEMENT HashSame.
-/
import Derived.Test.YtghonbnmakggnaaDoorHswM
import Derived.Test.YtghonbnmakggnaaDoorHsaM
import Derived.Test.YtghonbnmakggnaaDoorNslM
import Derived.Deep.RegionHeld3
namespace Go.Proofs.YtghonbnmakggnaaDoor
open Go.RowKit Go.Sort
set_option maxHeartbeats 6400000

theorem below_alloc15 {w W : World} {B : Nat} (h : Below B w W) (hB : B ≤ w.heap.size) (o : Obj) : Below B w (W.alloc o) := h.alloc (Nat.le_trans hB h.size) o
theorem key_one15 {x : Tm} {t : List (List Vl)} (h : Hs.key [x] t = none) : (Te.val x t).1 = true := by
  unfold Hs.key at h
  split at h
  · rename_i h2; simpa [Hs.nulls] using h2
  · cases h
theorem own_keys15 {w : World} {base n : Nat} {v : Value} {ks : List (Tm × Tm)} (h : w.ownsRow base 36 10 v n (kyCells ks)) (h0 : 0 < n) : ∃ g a, v = .slice (some ⟨g, 0, none⟩) n a ∧ g < w.heap.size ∧ ∀ (k : Nat) (u : Value), (kyCells ks)[k]? = some u → w.cell? ⟨g, k, none⟩ = some u := by
  rcases id h.2 with ⟨_, h1⟩ | ⟨g, cap, cur, rfl, _, hg, hn, _⟩
  · omega
  · refine ⟨g, cap, rfl, (Array.getElem?_eq_some_iff.1 hg).1, fun k u hu => ?_⟩
    have := h.cells (g := g) rfl k u hu
    rwa [add_here13] at this
theorem tms_one15 (w : World) (t : TypeId) (x : Tm) (X : Nat) (hX : w.heap.size = X) : TmsAt (w.alloc (Obj.cells #[.int .i64 x.k, .int .i64 x.t, .int .i64 x.c, .bool x.z, .int .i64 x.n] t)) (.slice (some ⟨X, 0, none⟩) 1 1) [x] := by
  subst hX
  have l := Lies.new w t x.cells
  refine ⟨_, 1, rfl, by simp, fun j y hj => ⟨w.heap.size, 0, none, rfl, l.lt, ?_⟩⟩
  match j, hj with
  | 0, hj =>
    cases hj
    exact ⟨l.cell (i := 0) rfl, l.cell (i := 1) rfl, l.cell (i := 2) rfl, l.cell (i := 3) rfl, l.cell (i := 4) rfl⟩
set_option maxRecDepth 100000 in
theorem hashsame_any (d : Nat) (cv lv rv : Value) (ps : List Pd) (L R : List (List (List Vl))) (w : World) (hp : PsAt d w cv ps) (hl : TusOn Al w lv L) (hr : TusOn Al w rv R) (hfl : Formed lv) (hf : Formed rv) (hW : Want w) (hP : Pows w) (hwl : Hs.Wf L) (hwr : Hs.Wf R) :
    Calls Tryd.prog 4 #[cv, lv, rv] w fun E w' => E = .returned (.bool true) ∧ Below w.heap.size w w' := by
  have cl := nlight_any d cv lv rv ps L R w hp hl hr hf hfl
  have CA := Lib.hid (show ∀ W, Below w.heap.size w W → _ from fun W (h : Below w.heap.size w W) => awake15_any W (hW.below h (Nat.le_refl _)) (hP.below h (Nat.le_refl _)))
  have CH := Lib.hid (show Ns.light ps L R → ∀ (k : Int) (lv : Value) (M : List (List (List Vl))) (W : World), Below w.heap.size w W → TusOn Al W lv M → Ns.Few 100 100 M → Hs.Wf M → Calls Tryd.prog 13 #[.int .i64 k, cv, lv, rv, .int .u64 3, .int .u64 12] W (OwnTus W (Hs.join k ps 3 12 M R)) from fun hL k lv M W h hm hf hwm =>
    hjoin_own k d cv lv rv ps M R 3 12 W (hp.below h (Nat.le_refl _)) (Mt.light_sizes hL.1) (hW.below h (Nat.le_refl _)) (hP.below h (Nat.le_refl _)) hm (hr.below h (Nat.le_refl _)) hf ((Ns.light_right hL).more (by decide) (by decide)) hwm hwr (by decide) (by decide))
  have CN := Lib.hid (show Ns.light ps L R → ∀ (k : Int) (W : World), Below w.heap.size w W → Calls Tryd.prog 14 #[.int .i64 k, cv, lv, rv] W (OwnTus W (Ns.join k ps L R)) from fun hL k W h =>
    njoin_own k d cv lv rv ps L R W (hp.below h (Nat.le_refl _)) (Mt.light_sizes hL.1) (hW.below h (Nat.le_refl _)) (hl.below h (Nat.le_refl _)) (hr.below h (Nat.le_refl _)) ((Ns.light_left hL).more (by decide) (by decide)) ((Ns.light_right hL).more (by decide) (by decide)))
  have CAL := Lib.hid (show Ns.light ps L R → ∀ W, Below w.heap.size w W → Calls Tryd.prog 11 #[lv, .int .u64 12] W _ from fun hL W h => r15apart_any lv L 12 W (hl.below h (Nat.le_refl _)) (by decide) (by have := (Ns.light_left hL).len; omega) (fun t ht => by have := ((Ns.light_left hL).tup t ht).1; omega))
  have CAR := Lib.hid (show Ns.light ps L R → ∀ W, Below w.heap.size w W → Calls Tryd.prog 11 #[rv, .int .u64 3] W _ from fun hL W h => r15apart_any rv R 3 W (hr.below h (Nat.le_refl _)) (by decide) (by have := (Ns.light_right hL).len; omega) (fun t ht => by have := ((Ns.light_right hL).tup t ht).1; omega))
  have CK := Lib.hid (show Ns.light ps L R → ∀ W, Below w.heap.size w W → Calls Tryd.prog 7 #[cv, .int .u64 3, .int .u64 12] W (OwnKys W (Hs.keys ps 3 12)) from fun hL W h => hkeys_any d cv ps 3 12 W (hp.below h (Nat.le_refl _)) (by decide) (by decide) (by have := hL.1.1; omega))
  have HP := Lib.hid hP
  obtain ⟨P0, p0, rfl, _⟩ := hp.form
  obtain ⟨R0, c1, rfl, _⟩ := hr.form
  obtain ⟨L0, c0, rfl, hn0⟩ := hl.form
  obtain ⟨n, hn⟩ : ∃ n, n = L.length := ⟨_, rfl⟩
  obtain ⟨rl, hrl⟩ : ∃ n, n = R.length := ⟨_, rfl⟩
  obtain ⟨pl, hpl⟩ : ∃ n, n = ps.length := ⟨_, rfl⟩
  rw [← hn] at hl hn0
  rw [← hpl, ← hrl, ← hn] at cl CN
  rw [← hpl, ← hrl] at CH ⊢
  rw [← hn] at CAL ⊢
  rw [← hrl] at CAR
  rw [← hpl] at CK
  have HL := Lib.hid hl
  have HN := Lib.hid (And.intro hn (And.intro hrl hpl))
  have HWL := Lib.hid hwl
  clear hp hl hr hf hfl hW hP hn hrl hpl hwl hwr
  go_enter Tryd.func4, Tryd.ntmps4
  go_wp2_with fail
  refine cl.mono ?_
  rintro E w1 ⟨b, rfl, hlight, hb1⟩
  have HLI := Lib.hid hlight
  have HB1 := Lib.hid hb1
  clear cl hlight
  cases b with
  | false =>
    have ca := CA.out w1 hb1
    clear hb1
    go_wp2_with fail
    refine ca.mono ?_
    rintro E w2 ⟨rfl, hb2⟩
    have hb12 := below_join HB1.out hb2
    clear ca hb2
    go_wp2_with fail
    go_ret
    exact ⟨rfl, hb12⟩
  | true =>
    have hL := HLI.out rfl
    have HLL := Lib.hid hL
    have cal := CAL.out hL w1 hb1
    obtain ⟨xa, hxa⟩ : ∃ x, x = Hs.apart L 12 := ⟨_, rfl⟩
    rw [← hxa] at cal
    have HXA := Lib.hid hxa
    clear hxa hL hb1
    cases xa with
    | false =>
      go_wp2_with fail
      refine cal.mono ?_
      rintro E w' ⟨rfl, rfl⟩
      have ca := CA.out w1 HB1.out
      clear cal
      go_wp2_with fail
      refine ca.mono ?_
      rintro E w2 ⟨rfl, hb2⟩
      have hb12 := below_join HB1.out hb2
      clear ca hb2
      go_wp2_with fail
      go_ret
      exact ⟨rfl, hb12⟩
    | true =>
      have car := CAR.out HLL.out w1 HB1.out
      obtain ⟨xb, hxb⟩ : ∃ x, x = Hs.apart R 3 := ⟨_, rfl⟩
      rw [← hxb] at car
      have HXB := Lib.hid hxb
      clear hxb
      go_wp2_with fail
      refine cal.mono ?_
      rintro E w' ⟨rfl, rfl⟩
      clear cal
      cases xb with
      | false =>
        go_wp2_with fail
        refine car.mono ?_
        rintro E w' ⟨rfl, rfl⟩
        have ca := CA.out w1 HB1.out
        clear car
        go_wp2_with fail
        refine ca.mono ?_
        rintro E w2 ⟨rfl, hb2⟩
        have hb12 := below_join HB1.out hb2
        clear ca hb2
        go_wp2_with fail
        go_ret
        exact ⟨rfl, hb12⟩
      | true =>
        go_wp2_with fail
        refine car.mono ?_
        rintro E w' ⟨rfl, rfl⟩
        clear car
        have HSAME := Lib.hid (show ∀ k : Int, Hs.join k ps 3 12 L R = Ns.join k ps L R from fun k => Hs.join_same HXA.out.symm HXB.out.symm)
        have HF := Lib.hid ((Ns.light_left HLL.out).more (n' := 100) (m' := 100) (by decide) (by decide))
        have HFR := Lib.hid ((Ns.light_right HLL.out).more (n' := 100) (m' := 100) (by decide) (by decide))
        have HCH := Lib.hid (CH.out HLL.out)
        have HCN := Lib.hid (CN.out HLL.out)
        have hn40 : n ≤ 40 := by have := HLL.out.2.2.1; have := HN.out.1; omega
        clear CH CN CAL CAR
        go_wp2_with fail
        go_loopw [7] (fun i wr => ∃ q : Nat, 1 ≤ q ∧ q ≤ 5 ∧ i = .int .i64 q ∧ Below w1.heap.size w1 wr) (fun i _ => 5 - (intOf i).toNat)
        case atStart => exact ⟨1, by omega, by omega, rfl, Below.refl _ _⟩
        case round =>
          obtain ⟨q, hq1, hq, rfl, hb⟩ := hrel
          by_cases hlt : q < 5
          · have i1 : (q : Int) ≤ 4 := by omega
            have hbr := below_join HB1.out hb
            have c5 := HCH.out (q : Int) (.slice L0 n c0) L wr hbr (HL.out.below hbr (Nat.le_refl _)) HF.out HWL.out
            rw [HSAME.out] at c5
            have hfj := Ns.join_few (k := (q : Int)) (ps := ps) HF.out HFR.out
            obtain ⟨M, hM⟩ : ∃ M, M = Ns.join (q : Int) ps L R := ⟨_, rfl⟩
            have c6 := fun W h => HCN.out (q : Int) W h
            rw [← hM] at c5 c6 hfj
            have HFJ := Lib.hid hfj
            have HC6 := Lib.hid c6
            have HBR := Lib.hid hbr
            have HBB := Lib.hid hb
            clear hM hfj c6 hb hlt
            go_wp2_with fail
            refine c5.mono ?_
            rintro E w5 ⟨A5, a5, us5, rfl, hr5, _, hb5⟩
            have hbr5 := below_join HBR.out hb5
            have c6 := HC6.out w5 hbr5
            have HR5 := Lib.hid hr5.tus
            have HB5 := Lib.hid (below_join HBB.out hb5)
            clear c5 hr5 hb5 hbr hbr5
            go_wp2_with fail
            refine c6.mono ?_
            rintro E w6 ⟨A6, a6, us6, rfl, hr6, _, hb6⟩
            have ct := r13list_any Al _ _ M M w6 (HR5.out.below hb6 (Nat.le_refl _)) hr6.tus (fun x hx => Nat.le_trans (HFJ.out.tup x hx).1 (by decide)) (fun x hx => Nat.le_trans (HFJ.out.tup x hx).1 (by decide)) (fun x hx y hy => Nat.le_trans ((HFJ.out.tup x hx).2 y hy) (by decide)) (fun x hx y hy => Nat.le_trans ((HFJ.out.tup x hx).2 y hy) (by decide)) (by have := HFJ.out.len; omega) (by have := HFJ.out.len; omega)
            rw [Mt.list_refl] at ct
            have HB6 := Lib.hid (below_join HB5.out hb6)
            clear c6 hr6 hb6
            go_wp2_with fail
            with_reducible refine ct.mono ?_
            rintro E w7 ⟨rfl, hb7⟩
            have hb17 := below_join HB6.out hb7
            clear ct hb7
            go_wp2_with fail
            go_roundw
            case rel => exact ⟨q + 1, by omega, by omega, by go_num, hb17⟩
            case measure => simp [intOf]; omega
          · have i1 : ¬ (q : Int) ≤ 4 := by omega
            have hbr := below_join HB1.out hb
            have c5 := CK.out HLL.out wr hbr
            have HBR := Lib.hid hbr
            have hnul := fun (t : List (List Vl)) (ht : t ∈ L) (c : Tm × Tm) (hc : c ∈ Hs.keys ps 3 12) (hz : (Te.val c.1 t).1 = true) => Hs.null_alone (ps := ps) (l := 3) (r := 12) (R := R) (Hs.apart_one HXA.out.symm ht) HXB.out.symm hc hz
            have hcol := fun (c : Tm × Tm) (hc : c ∈ Hs.keys ps 3 12) => (Hs.keys_col hc).1
            obtain ⟨KS, hKS⟩ : ∃ K, K = Hs.keys ps 3 12 := ⟨_, rfl⟩
            rw [← hKS] at c5 hnul hcol
            have HNUL := Lib.hid (And.intro hnul hcol)
            clear hlt hb hKS hnul hcol hbr
            go_wp2_with fail
            refine c5.mono ?_
            rintro E w3 ⟨v3, rfl, ho3, hb3⟩
            have hb13 := below_join HBR.out hb3
            have HB13 := Lib.hid hb13
            obtain ⟨kl, hkl⟩ : ∃ k, k = KS.length := ⟨_, rfl⟩
            rw [← hkl] at ho3
            by_cases hk0 : 0 < kl
            · obtain ⟨g, a3, rfl, hg, hcc⟩ := own_keys15 ho3 hk0
              obtain ⟨c, hc⟩ : ∃ c, KS[0]? = some c := ⟨KS[0]'(by omega), List.getElem?_eq_getElem _⟩
              have hcf := fun k (hk : k < 10) => flat_at15 (fun c : Tm × Tm => c.1.cells ++ c.2.cells) 10 (fun _ => rfl) KS 0 c hc k hk
              simp only [Nat.zero_mul, Nat.zero_add] at hcf
              have HCC := Lib.hid (show ∀ W, Below w3.heap.size w3 W → W.cell? ⟨g, 0, none⟩ = some (.int .i64 c.1.k) ∧ W.cell? ⟨g, 1, none⟩ = some (.int .i64 c.1.t) ∧ W.cell? ⟨g, 2, none⟩ = some (.int .i64 c.1.c) ∧ W.cell? ⟨g, 3, none⟩ = some (.bool c.1.z) ∧ W.cell? ⟨g, 4, none⟩ = some (.int .i64 c.1.n) from fun W h =>
                ⟨(h.cell hg).trans (hcc _ _ (hcf 0 (by decide))), (h.cell hg).trans (hcc _ _ (hcf 1 (by decide))), (h.cell hg).trans (hcc _ _ (hcf 2 (by decide))), (h.cell hg).trans (hcc _ _ (hcf 3 (by decide))), (h.cell hg).trans (hcc _ _ (hcf 4 (by decide)))⟩)
              have HC := Lib.hid (List.mem_of_getElem? hc)
              have i5 : (0 : Int) < (kl : Int) := by omega
              clear c5 ho3 hb3 hg hcc hc hcf hb13 hkl hk0
              go_wp2_with fail
              go_loopw [9] (fun i wr => ∃ q : Nat, q ≤ n ∧ i = .int .i64 q ∧ Below w3.heap.size w3 wr) (fun i _ => n - (intOf i).toNat)
              case atStart => exact ⟨0, Nat.zero_le _, rfl, Below.refl _ _⟩
              case round =>
                obtain ⟨q, hq, rfl, hb⟩ := hrel
                have hbr := below_join HB13.out hb
                by_cases hlt : q < n
                · obtain ⟨t, gt⟩ : ∃ t, L[q]? = some t := ⟨L[q]'(by have := HN.out.1; omega), List.getElem?_eq_getElem _⟩
                  have hL4 := HL.out.below hbr (Nat.le_refl _)
                  obtain ⟨b1, o1, p1, B1, d1, hL0, _, h1⟩ := hL4.pick gt
                  subst hL0
                  obtain ⟨lb, hlb⟩ : ∃ lb, lb = (⟨b1, o1, p1⟩ : Addr) := ⟨_, rfl⟩
                  rw [← hlb] at h1 HL hL4 ⊢
                  have htm := List.mem_of_getElem? gt
                  have hone := fun W (h : Below wr.heap.size wr W) => tus_one15 (hL4.below h (Nat.le_refl _)) gt hlt
                  have HONE := Lib.hid hone
                  have HTM := Lib.hid htm
                  have HVAL := Lib.hid (show Hs.I64 (Te.val c.1 t).2 from Hs.wf_val (HNUL.out.2 c HC.out) (HWL.out t htm))
                  have HK1 := Lib.hid (show ∀ (W : World) (X : Nat), TmsAt W (.slice (some ⟨X, 0, none⟩) 1 1) [c.1] → Below wr.heap.size wr W → Calls Tryd.prog 9 #[.slice (some ⟨X, 0, none⟩) 1 1, .slice B1 t.length d1] W (fun E w' => E = .returned (.tuple #[.string ⟨((Hs.key [c.1] t).getD []).toArray⟩, .bool (Hs.key [c.1] t).isSome]) ∧ Below wr.heap.size wr w') from fun W X ht h =>
                    (hkey_any (.slice (some ⟨X, 0, none⟩) 1 1) _ [c.1] t W ht (h1 W h).2.rws (HP.out.below (below_join hbr h) (Nat.le_refl _)) (by intro x hx; simp at hx; subst hx; exact HVAL.out) (by simp)).mono fun E w' ⟨hE, hb'⟩ => ⟨hE, below_join h hb'⟩)
                  have hY := fun W (h : Below wr.heap.size wr W) => (h1 W h).1
                  obtain ⟨tl, htl⟩ : ∃ n, n = t.length := ⟨_, rfl⟩
                  rw [← htl] at HK1 hY
                  obtain ⟨S0, hS0⟩ : ∃ s, s = (Hs.key [c.1] t).getD [] := ⟨_, rfl⟩
                  obtain ⟨bb, hbb⟩ : ∃ b, b = (Hs.key [c.1] t).isSome := ⟨_, rfl⟩
                  rw [← hS0, ← hbb] at HK1
                  have HBB := Lib.hid hbb
                  have HY := Lib.hid (show ∀ W, Below wr.heap.size wr W → W.cell? ⟨g, 0, none⟩ = some (.int .i64 c.1.k) ∧ W.cell? ⟨g, 1, none⟩ = some (.int .i64 c.1.t) ∧ W.cell? ⟨g, 2, none⟩ = some (.int .i64 c.1.c) ∧ W.cell? ⟨g, 3, none⟩ = some (.bool c.1.z) ∧ W.cell? ⟨g, 4, none⟩ = some (.int .i64 c.1.n) ∧ W.cell? (lb.add q) = some (.slice B1 tl d1) ∧ Below wr.heap.size wr W from fun W h =>
                    let h2 := HCC.out W (below_join hb h); ⟨h2.1, h2.2.1, h2.2.2.1, h2.2.2.2.1, h2.2.2.2.2, hY W h, h⟩)
                  obtain ⟨y0, y1, y2, y3, y4, y5, hS⟩ := HY.out wr (Below.refl _ _)
                  have HBR2 := Lib.hid hbr
                  have HBQ := Lib.hid hb
                  have HLT := Lib.hid hlt
                  have i1 : (0 : Int) ≤ (q : Int) := by omega
                  have i2 : (q : Int) < (n : Int) := by omega
                  clear hL4 h1 gt hone htm hlb hY htl hS0 hbb hb hbr hlt
                  go_wp2_with fail
                  go_region_held3 (fun W => W.cell? ⟨g, 0, none⟩ = some (.int .i64 c.1.k) ∧ W.cell? ⟨g, 1, none⟩ = some (.int .i64 c.1.t) ∧ W.cell? ⟨g, 2, none⟩ = some (.int .i64 c.1.c) ∧ W.cell? ⟨g, 3, none⟩ = some (.bool c.1.z) ∧ W.cell? ⟨g, 4, none⟩ = some (.int .i64 c.1.n) ∧ W.cell? (lb.add q) = some (.slice B1 tl d1) ∧ Below wr.heap.size wr W) (first | (exact HY.out _ (by repeat first | assumption | refine Below.drew ?_ | refine below_alloc15 ?_ (Nat.le_refl _) _)))
                    (first
                      | (go_at_call 9; (with_reducible refine (HK1.out _ _ (tms_one15 _ _ _ _ (by simp)) (by repeat first | assumption | refine Below.drew ?_ | refine below_alloc15 ?_ (Nat.le_refl _) _)).mono ?_); rintro e wA ⟨rfl, hSA⟩)
                      | (go_at_call 9; (with_reducible refine (HK1.out _ _ ((tms_one15 _ _ _ _ (by simp)).below (Below.drew (Below.refl _ _)) (Nat.le_refl _)) (by repeat first | assumption | refine Below.drew ?_ | refine below_alloc15 ?_ (Nat.le_refl _) _)).mono ?_); rintro e wA ⟨rfl, hSA⟩)
                      | (fail "no arm"))
                  all_goals
                    clear y0 y1 y2 y3 y4 y5
                    have HSA := Lib.hid hSA
                    have hlt := HLT.out
                    cases bb with
                    | true =>
                      have hb7 := Lib.hid (below_join HBQ.out hSA)
                      clear hSA hS
                      go_wp2_with fail
                      go_roundw
                      case rel => exact ⟨q + 1, by omega, by go_num, hb7.out⟩
                      case measure => simp [intOf]; omega
                    | false =>
                      have hnone : Hs.key [c.1] t = none := by
                        have h3 := HBB.out
                        cases h4 : Hs.key [c.1] t with
                        | none => rfl
                        | some _ => rw [h4] at h3; cases h3
                      have hlen := HNUL.out.1 t HTM.out c HC.out (key_one15 hnone)
                      have cj := HCH.out 4 (.slice (some (lb.add q)) 1 (c0 - q)) [t] wA (below_join HBR2.out hSA) (HONE.out wA hSA) (HF.out.one HTM.out) (by intro t' ht'; simp at ht'; subst ht'; exact HWL.out t' HTM.out)
                      have cj2 : Calls Tryd.prog 13 #[.int .i64 4, .slice P0 pl p0, .slice (some (lb.add q)) 1 (c0 - q), .slice R0 rl c1, .int .u64 3, .int .u64 12] wA (fun E w' => ∃ A a, E = .returned (.slice A 1 a) ∧ Below wA.heap.size wA w') := cj.mono fun E w' hE => by
                        obtain ⟨A, a, us, h3, _, _, h5⟩ := hE
                        rw [hlen] at h3
                        exact ⟨A, a, h3, h5⟩
                      have e1 : ((q : Int) + 1) ≤ (n : Int) := by omega
                      have e2 : (q : Int) ≤ (q : Int) + 1 := by omega
                      have e5 : (q : Int) + 1 ≤ (c0 : Int) := by omega
                      have e6 : ¬ (c0 = q) := by omega
                      have e7 : ¬ (c0 - q = 0) := by omega
                      have e8 : (0 : Int) ≤ (q : Int) + 1 := by omega
                      have e9 : ((q : Int) + 1).toNat = q + 1 := by omega
                      have e10 : (q : Int) ≤ (c0 : Int) := by omega
                      clear hnone hlen cj hSA hS
                      go_wp2_with fail
                      refine cj2.mono ?_
                      rintro E w8 ⟨A8, a8, rfl, hb8⟩
                      have hb7 := Lib.hid (below_join HBQ.out (below_join HSA.out hb8))
                      clear cj2 hb8 e1 e2 e5 e6 e7 e8 e9 e10
                      go_wp2_with fail
                      go_roundw
                      case rel => exact ⟨q + 1, by omega, by go_num, hb7.out⟩
                      case measure => simp [intOf]; omega
                · have i2 : ¬ ((q : Int) < (n : Int)) := by omega
                  have ca := CA.out wr hbr
                  have HBR2 := Lib.hid hbr
                  clear hb hbr hlt
                  go_wp2_with fail
                  refine ca.mono ?_
                  rintro E w6 ⟨rfl, hb6⟩
                  have HB6 := Lib.hid (below_join HBR2.out hb6)
                  clear ca hb6
                  go_wp2_with fail
                  go_ret
                  exact ⟨rfl, HB6.out⟩
            · obtain ⟨A3, a3, rfl, _⟩ := (KysAt.own ho3 hkl.symm).form
              obtain rfl : kl = 0 := by omega
              have HKL := Lib.hid hkl
              clear c5 ho3 hb3 hk0
              rw [← hkl]
              clear hkl
              go_wp2_with fail
              go_loopw [9] (fun i wr => i = .int .i64 0 ∧ w3 = wr) (fun _ _ => 0)
              case atStart => exact ⟨rfl, rfl⟩
              case round =>
                obtain ⟨rfl, rfl⟩ := hrel
                have ca := CA.out w3 hb13
                clear hb13
                have hcase : (0 : Int) < (n : Int) ∨ ¬ (0 : Int) < (n : Int) := by omega
                rcases hcase with z1 | z1
                all_goals
                  go_wp2_with fail
                  refine ca.mono ?_
                  rintro E w6 ⟨rfl, hb6⟩
                  have HB6 := Lib.hid (below_join HB13.out hb6)
                  clear ca hb6
                  go_wp2_with fail
                  go_ret
                  exact ⟨rfl, HB6.out⟩
end Go.Proofs.YtghonbnmakggnaaDoor
