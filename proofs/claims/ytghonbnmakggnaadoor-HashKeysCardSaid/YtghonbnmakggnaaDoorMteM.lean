/-
  PACKAGE match: matcher and what it tells; whether one of a list matches (the library's ContainsFunc); alone; Matches; Extend.
-/
import Derived.Test.YtghonbnmakggnaaDoorMtdM
import Derived.Test.YtghonbnmakggnaaDoorMtcM
import Derived.Test.YtghonbnmakggnaaDoorGOwn
namespace Go.Proofs.YtghonbnmakggnaaDoor
open Go.RowKit Go.Sort
set_option maxHeartbeats 3200000

/-- a matcher's blocks: the predicates, the tuple, the room -/
structure Mat (w0 w : World) (gc gl gr : Nat) (cv lv rv : Value) : Prop where
  cj : Lies w gc 22 [cv]
  ll : Lies w gl 25 [lv]
  rm : Lies w gr 25 [rv]
  own : ∃ n xs, w.ownsRow w0.heap.size 48 1 rv n xs
  base : Below w0.heap.size w0 w
  new : w0.heap.size ≤ gc ∧ w0.heap.size ≤ gl ∧ w0.heap.size ≤ gr
  ne : gc ≠ gr ∧ gl ≠ gr
theorem own_lies_ne {w : World} {base n s : Nat} {e t : TypeId} {v : Value} {xs cs : List Value} {g : Nat} (h : w.ownsRow base e s v n xs) (hl : Lies w g t cs) (hne : e ≠ t) : v.ownBlock ≠ some g := by
  rcases h.2 with ⟨rfl, _⟩ | ⟨g', cap, cur, rfl, _, hg, _⟩
  · simp [Value.ownBlock]
  · intro e2
    have e3 : g' = g := by simpa [Value.ownBlock] using e2
    rw [e3] at hg
    have h1 : w.heap[g]? = some (Obj.cells cur e (0, 0)) := hg
    unfold Lies at hl
    rw [hl] at h1
    injection h1 with h1
    injection h1 with _ h2
    exact hne h2.symm
theorem Lies.keeps {w w' : World} {g : Nat} {t : TypeId} {cs : List Value} {S : Nat → Prop} (h : Lies w g t cs) (hk : Keeps S w w') (hs : S g) : Lies w' g t cs := (hk.same g h.lt hs).trans h
theorem Keeps.below0 {S : Nat → Prop} {w0 w w' : World} (h : Keeps S w w') (hb : Below w0.heap.size w0 w) (hs : ∀ k, k < w0.heap.size → S k) : Below w0.heap.size w0 w' := hb.trans (h.below hb.size hs)
/-- what it tells of a tuple -/
def Fitted (w0 : World) (gc gl gr : Nat) (cv lv rv : Value) (b : Bool) (w : World) (E : Ending) (w' : World) : Prop :=
  ∃ rv', E = .returned (.bool b) ∧ Mat w0 w' gc gl gr cv lv rv' ∧ Keeps (fun k => k ≠ gr ∧ rv.ownBlock ≠ some k) w w' ∧ (rv'.ownBlock = rv.ownBlock ∨ ∃ g, rv'.ownBlock = some g ∧ w.heap.size ≤ g)
theorem fit_rws {T : Nat → Prop} {w w2 : World} {base : Nat} {A : Option Addr} {n c : Nat} {us : List Value} {m : List (List Vl)} (hn : n = m.length) (hown : w2.ownsRow base 48 1 (.slice A n c) n us) (hus : ∀ (i : Nat) (r : List Vl), m[i]? = some r → ∃ u, us[i]? = some u ∧ RowOn T w u r) {S : Nat → Prop} (hk : Keeps S w w2) (hs : ∀ k, T k → S k) : Rws w2 (.slice A n c) m :=
  RwsOn.rws (T := Al) ⟨us, (SlOn.own hown).mono fun _ _ _ => trivial, by have := hown.1; omega, fun i r hi => by
    obtain ⟨u, h1, h2⟩ := hus i r hi
    exact ⟨u, h1, (h2.keep hk fun k _ h => hs k h).mono fun _ _ _ => trivial⟩⟩
set_option maxRecDepth 100000 in
theorem fit_any (d : Nat) (w0 w : World) (gc gl gr : Nat) (cv lv rv tv : Value) (ps : List Pd) (l t : List (List Vl)) (hM : Mat w0 w gc gl gr cv lv rv) (hp : PsAt d w0 cv ps) (hsz : Pr.sizes ps ≤ 1000) (hW : Want w0)
    (hl : RwsOn (fun k => k < w0.heap.size) w0 lv l) (ht : RwsOn (fun k => k < w0.heap.size) w0 tv t) (hll : l.length ≤ 1000) (htl : t.length ≤ 1000) :
    Calls Tryd.prog 57 #[tv, .pointer (some ⟨gr, 0, none⟩), .pointer (some ⟨gl, 0, none⟩), .pointer (some ⟨gc, 0, none⟩)] w (Fitted w0 gc gl gr cv lv rv (Mt.fits ps l t) w) := by
  obtain ⟨n0, xs, hown⟩ := hM.own
  have cl := lay_any (fun k => k < w0.heap.size) w0.heap.size n0 rv lv tv xs l t w hown hM.base.size (hl.below hM.base (Nat.le_refl _)) (ht.below hM.base (Nat.le_refl _)) (fun k h h2 => by have := (hown.lt k h).1; omega) hll htl
  obtain ⟨m, hm⟩ : ∃ m, m = Mt.merge l t := ⟨_, rfl⟩
  rw [← hm] at cl
  have hfit : Mt.fits ps l t = decide (Lo.andI (ps.map (Pr.of m)) = 2) := by rw [hm]; rfl
  rw [hfit]
  obtain ⟨z, hz⟩ : ∃ z, z = Lo.andI (ps.map (Pr.of m)) := ⟨_, rfl⟩
  rw [← hz]
  have x0 := hM.rm.cell (i := 0) rfl
  have x1 := hM.ll.cell (i := 0) rfl
  have n1 := own_lies_ne hown hM.rm (by decide)
  have n2 := own_lies_ne hown hM.ll (by decide)
  have n3 := own_lies_ne hown hM.cj (by decide)
  have HM := Lib.hid hM
  have HP := Lib.hid (And.intro hp (And.intro hsz hW))
  have HZ := Lib.hid hz
  obtain ⟨T1, t1, rfl, _⟩ := ht.form
  obtain ⟨L1, l1, rfl, _⟩ := hl.form
  obtain ⟨P1, p1, rfl, _⟩ := hp.form
  obtain ⟨R1, r1, rfl⟩ := ownsForm hown
  clear hm hfit hz hM hp hsz hW hl ht hll htl hown
  generalize t.length = tl at *
  generalize l.length = ll at *
  obtain ⟨pl, hpl⟩ : ∃ n, n = ps.length := ⟨_, rfl⟩
  rw [← hpl] at HP HM ⊢
  clear hpl
  have HN := Lib.hid (And.intro n1 (And.intro n2 n3))
  clear n1 n2 n3
  go_enter Tryd.func57, Tryd.ntmps57
  go_wp2_with fail
  refine cl.mono ?_
  rintro E w1 ⟨A, c, us, rfl, hown1, hus, hk1, hwh⟩
  clear cl x0 x1
  obtain ⟨n1, n2, n3⟩ := HN.out
  obtain ⟨W2, hW2⟩ : ∃ W2, W2 = w1.setCell ⟨gr, 0, none⟩ (.slice A m.length c) := ⟨_, rfl⟩
  have hgr : Lies w1 gr 25 [.slice R1 n0 r1] := HM.out.rm.keeps hk1 n1
  have hgc : Lies w1 gc 22 [.slice P1 pl p1] := HM.out.cj.keeps hk1 n3
  have hgl : Lies w1 gl 25 [.slice L1 ll l1] := HM.out.ll.keeps hk1 n2
  have kp : Keeps (fun k => k ≠ gr) w1 W2 := by rw [hW2]; exact keeps_setCell w1 ⟨gr, 0, none⟩ _
  have hor1 := own_lies_ne hown1 hgr (by decide)
  have hown2 : W2.ownsRow w0.heap.size 48 1 (.slice A m.length c) m.length us := own_keeps hown1 kp fun k h e => hor1 (by rw [h, e])
  have hk2 : Keeps (fun k => k ≠ gr ∧ (Value.slice R1 n0 r1).ownBlock ≠ some k) w W2 := (hk1.mono fun _ h => h.2).trans (kp.mono fun _ h => h.1)
  have hMat : Mat w0 W2 gc gl gr (.slice P1 pl p1) (.slice L1 ll l1) (.slice A m.length c) := by
    refine ⟨hgc.keeps kp HM.out.ne.1, hgl.keeps kp HM.out.ne.2, by rw [hW2]; exact hgr.set 0 _, ⟨_, _, hown2⟩, HM.out.base.trans (hk2.below HM.out.base.size fun k hk => ⟨by have := HM.out.new.2.2; omega, fun e => ?_⟩), HM.out.new, HM.out.ne⟩
    obtain ⟨_, _, ho⟩ := HM.out.own
    have := (ho.lt k e).1
    omega
  have hrws := fit_rws rfl hown2 hus hk2 fun k hk => ⟨by have := HM.out.new.2.2; omega, fun e => by
    obtain ⟨_, _, ho⟩ := HM.out.own
    have := (ho.lt k e).1
    omega⟩
  have ca := pall_any d _ ps _ m W2 (HP.out.1.below hMat.base (Nat.le_refl _)) HP.out.2.1 hrws (HP.out.2.2.below hMat.base (Nat.le_refl _))
  rw [← HZ.out] at ca
  have y0 := hgr.cell (i := 0) rfl
  have y1 := hgr.free 0
  have y2 := hgc.cell (i := 0) rfl
  have y3 : ¬ gc = gr := HM.out.ne.1
  have y4 : ¬ gr = gc := fun e => y3 e.symm
  have HMat := Lib.hid hMat
  have HK2 := Lib.hid hk2
  have HWH := Lib.hid hwh
  have HW2 := Lib.hid hW2
  generalize m.length = ml at *
  clear hgr hgc hgl kp hor1 hown1 hown2 hk2 hMat hrws hus hk1 hwh hW2 n1 n2 n3 HN
  go_wp2_with (rw [← HW2.out]; refine ca.mono ?_)
  rintro E w3 ⟨rfl, hb3⟩
  have HR := Lib.hid (show ∀ b, b = decide (z = 2) → Fitted w0 gc gl gr (.slice P1 pl p1) (.slice L1 ll l1) (.slice R1 n0 r1) (decide (z = 2)) w (.returned (.bool b)) w3 from fun b hb => by
    subst hb
    have hM := HMat.out
    obtain ⟨_, _, ho⟩ := hM.own
    have hk := HK2.out.trans (keeps_all hb3 (S := fun k => k ≠ gr ∧ (Value.slice R1 n0 r1).ownBlock ≠ some k))
    refine ⟨_, rfl, ⟨hM.cj.below hb3 hM.cj.lt, hM.ll.below hb3 hM.ll.lt, hM.rm.below hb3 hM.rm.lt, ⟨_, _, own_below ho hb3⟩, hM.base.trans (below_low hb3 hM.base.size), hM.new, hM.ne⟩, hk, HWH.out⟩)
  clear ca y0 y1 y2 y3 y4 hb3
  go_wp2_with fail
  go_ret
  exact HR.out _ (by rfl)
/-- what matcher tells -/
def Matcher13 (w : World) (cv lv : Value) (E : Ending) (w' : World) : Prop :=
  ∃ gc gl gr, E = .returned (.func (.func 57) #[] #[.pointer (some ⟨gr, 0, none⟩), .pointer (some ⟨gl, 0, none⟩), .pointer (some ⟨gc, 0, none⟩)]) ∧ Mat w w' gc gl gr cv lv (.slice none 0 0)
theorem matcher_any (w : World) (A B : Option Addr) (n c m d : Nat) :
    Calls Tryd.prog 49 #[.slice A n c, .slice B m d] w (Matcher13 w (.slice A n c) (.slice B m d)) := by
  have l1 := Lies.new w 22 [.slice A n c]
  have l2 := Lies.new (w.alloc (Obj.cells #[.slice A n c] 22)) 25 [.slice B m d]
  have l3 := Lies.new ((w.alloc (Obj.cells #[.slice A n c] 22)).alloc (Obj.cells #[.slice B m d] 25)) 25 [.slice none 0 0]
  have hres := Lib.hid (show Matcher13 w (.slice A n c) (.slice B m d) (.returned (.func (.func 57) #[] #[.pointer (some ⟨w.heap.size + 1 + 1, 0, none⟩), .pointer (some ⟨w.heap.size + 1, 0, none⟩), .pointer (some ⟨w.heap.size, 0, none⟩)])) (((w.alloc (Obj.cells #[.slice A n c] 22)).alloc (Obj.cells #[.slice B m d] 25)).alloc (Obj.cells #[.slice none 0 0] 25)) from by
    refine ⟨w.heap.size, w.heap.size + 1, w.heap.size + 1 + 1, rfl, ?_, ?_, ?_, ⟨0, [], World.ownsRow_nil _ _ _ _⟩, ?_, ⟨by omega, by omega, by omega⟩, ⟨by omega, by omega⟩⟩
    · exact (l1.alloc _).alloc _
    · have := l2.alloc (Obj.cells #[.slice none 0 0] 25)
      simpa using this
    · simpa using l3
    · exact (((Below.refl _ w).alloc (Nat.le_refl _) _).alloc (by simp) _).alloc (by simp; omega) _)
  clear l1 l2 l3
  go_enter Tryd.func49, Tryd.ntmps49
  go_wp2_with fail
  go_ret
  exact hres.out
/-- what IndexFunc and ContainsFunc tell of a list of tuples -/
def Some13 (w0 : World) (b : Bool) (E : Ending) (w' : World) : Prop := (∃ x : Int, E = .returned (.int .i64 x) ∧ decide (0 ≤ x) = b) ∧ Below w0.heap.size w0 w'
set_option maxRecDepth 100000 in
theorem index13_any (d : Nat) (w0 w : World) (gc gl gr : Nat) (cv lv rv tv : Value) (ps : List Pd) (l : List (List Vl)) (r : List (List (List Vl))) (hM : Mat w0 w gc gl gr cv lv rv) (hp : PsAt d w0 cv ps) (hsz : Pr.sizes ps ≤ 1000) (hW : Want w0)
    (hl : RwsOn (fun k => k < w0.heap.size) w0 lv l) (ht : TusOn (fun k => k < w0.heap.size) w0 tv r) (hll : l.length ≤ 1000) (htl : ∀ x ∈ r, x.length ≤ 1000) (hrl : r.length ≤ 1000000) :
    Calls Tryd.prog 56 #[tv, .func (.func 57) #[] #[.pointer (some ⟨gr, 0, none⟩), .pointer (some ⟨gl, 0, none⟩), .pointer (some ⟨gc, 0, none⟩)]] w (Some13 w0 (r.any (Mt.fits ps l))) := by
  obtain ⟨R0, c0, rfl, _⟩ := ht.form
  have HT := Lib.hid ht
  have HP := Lib.hid (And.intro hp (And.intro hsz (And.intro hW (And.intro hl (And.intro hll htl)))))
  have HM := Lib.hid hM
  obtain ⟨n, hn⟩ : ∃ n, n = r.length := ⟨_, rfl⟩
  rw [← hn] at hrl HT ⊢
  have HN := Lib.hid hn
  clear ht hp hsz hW hl hll htl hM hn
  go_enter Tryd.func56, Tryd.ntmps56
  go_wp2_with fail
  go_loopw [8] (fun i wr => ∃ (k : Nat) (rv : Value), k ≤ n ∧ i = .int .i64 k ∧ Hid ((r.take k).any (Mt.fits ps l) = false) ∧ Hid (Mat w0 wr gc gl gr cv lv rv)) (fun i _ => n - (intOf i).toNat)
  case atStart => exact ⟨0, rv, Nat.zero_le _, rfl, Lib.hid (by simp), HM⟩
  case round =>
    obtain ⟨k, rv2, hk, rfl, hno, HMk⟩ := hrel
    by_cases hlt : k < n
    · obtain ⟨t, gt⟩ : ∃ t, r[k]? = some t := ⟨r[k]'(by have := HN.out; omega), List.getElem?_eq_getElem _⟩
      obtain ⟨b1, o1, p1, B1, d1, rfl, _, h1⟩ := HT.out.pick gt
      have y0 := (h1 _ HMk.out.base).1
      have ht0 := (h1 _ (Below.refl _ _)).2
      have i1 : (0 : Int) ≤ (k : Int) := by omega
      have i2 : (k : Int) < (n : Int) := by omega
      have cf := fit_any d w0 wr gc gl gr cv lv rv2 _ ps l t HMk.out HP.out.1 HP.out.2.1 HP.out.2.2.1 HP.out.2.2.2.1 ht0 HP.out.2.2.2.2.1 (HP.out.2.2.2.2.2 t (List.mem_of_getElem? gt))
      obtain ⟨b, hb⟩ : ∃ b, b = Mt.fits ps l t := ⟨_, rfl⟩
      rw [← hb] at cf
      have Hr := Lib.hid hb
      have Gx := Lib.hid gt
      have Ht := Lib.hid (show r.take (k + 1) = r.take k ++ [t] by rw [List.take_add_one, gt]; rfl)
      generalize t.length = tl at *
      clear h1 ht0 gt hb
      go_wp2_with fail
      refine cf.mono ?_
      rintro E w2 ⟨rv3, rfl, hM3, _, _⟩
      have HM3 := Lib.hid hM3
      clear cf y0 hM3
      cases b with
      | true =>
        have hyes := Lib.hid (show Some13 w0 (r.any (Mt.fits ps l)) (.returned (.int .i64 (k : Int))) w2 from ⟨⟨k, rfl, by rw [List.any_eq_true.2 ⟨t, List.mem_of_getElem? Gx.out, Hr.out.symm⟩]; simp⟩, HM3.out.base⟩)
        go_wp2_with fail
        go_ret
        exact hyes.out
      | false =>
        have hno2 : Hid ((r.take (k + 1)).any (Mt.fits ps l) = false) := Lib.hid (by rw [Ht.out, List.any_append, hno.out]; simp [← Hr.out])
        go_wp2_with fail
        go_roundw
        case rel => exact ⟨k + 1, rv3, by omega, by go_num, hno2, HM3⟩
        case measure => simp [intOf]; omega
    · have hend := Lib.hid (show Some13 w0 (r.any (Mt.fits ps l)) (.returned (.int .i64 (-1))) wr from ⟨⟨-1, rfl, by rw [← List.take_of_length_le (l := r) (i := k) (by have := HN.out; omega), hno.out]; rfl⟩, HMk.out.base⟩)
      go_wp2_with fail
      go_ret
      exact hend.out
theorem contains13_any (d : Nat) (w0 w : World) (gc gl gr : Nat) (cv lv rv tv : Value) (ps : List Pd) (l : List (List Vl)) (r : List (List (List Vl))) (hM : Mat w0 w gc gl gr cv lv rv) (hp : PsAt d w0 cv ps) (hsz : Pr.sizes ps ≤ 1000) (hW : Want w0)
    (hl : RwsOn (fun k => k < w0.heap.size) w0 lv l) (ht : TusOn (fun k => k < w0.heap.size) w0 tv r) (hll : l.length ≤ 1000) (htl : ∀ x ∈ r, x.length ≤ 1000) (hrl : r.length ≤ 1000000) :
    Calls Tryd.prog 48 #[tv, .func (.func 57) #[] #[.pointer (some ⟨gr, 0, none⟩), .pointer (some ⟨gl, 0, none⟩), .pointer (some ⟨gc, 0, none⟩)]] w fun E w' => E = .returned (.bool (r.any (Mt.fits ps l))) ∧ Below w0.heap.size w0 w' := by
  have ci := index13_any d w0 w gc gl gr cv lv rv tv ps l r hM hp hsz hW hl ht hll htl hrl
  obtain ⟨R0, c0, rfl, _⟩ := ht.form
  generalize r.any (Mt.fits ps l) = b at *
  generalize r.length = n at *
  clear hM hp hsz hW hl ht hll htl
  go_enter Tryd.func48, Tryd.ntmps48
  go_wp2_with fail
  refine ci.mono ?_
  rintro E w2 ⟨⟨x, rfl, hx⟩, hb⟩
  clear ci
  have HX := Lib.hid hx
  clear hx
  go_wp2_with fail
  go_ret
  exact ⟨ret_bool (by rw [← HX.out]), hb⟩
theorem alone_on (av : Value) (a : List (List Vl)) (w : World) (ha : RwsOn Al w av a) (hla : a.length ≤ 1000) (ha2 : ∀ x ∈ a, x.length ≤ 1000000) :
    Calls Tryd.prog 47 #[av] w (TuplesOn (fun k => w.heap.size ≤ k) w [a]) := by
  have cm := merge_any Al av (.slice none 0 0) a [] w ha (RwsOn.nil _ _) hla (by simp) ha2 (by simp)
  rw [Mt.merge_nil] at cm
  obtain ⟨A1, c1, rfl, _⟩ := ha.form
  clear ha ha2
  obtain ⟨n, hn⟩ : ∃ n, n = a.length := ⟨_, rfl⟩
  rw [← hn] at cm ⊢
  have HN := Lib.hid hn
  clear hn
  go_enter Tryd.func47, Tryd.ntmps47
  go_wp2_with fail
  refine cm.mono ?_
  rintro E w2 ⟨B, d, rfl, hr, hb⟩
  rw [← HN.out] at hr ⊢
  have hres := Lib.hid (show TuplesOn (fun k => w.heap.size ≤ k) w [a] (.returned (.slice (some ⟨w2.heap.size, 0, none⟩) 1 1)) (w2.alloc (Obj.cells #[.slice B n d] 25)) from ⟨_, 1, rfl, tus_oneOn hr _ (fun _ h => h) hb.size, below_join hb (below_new _ _)⟩)
  clear cm hr hb
  go_wp2_with fail
  go_ret
  exact hres.out
theorem alone_any (av : Value) (a : List (List Vl)) (w : World) (ha : RwsOn Al w av a) (hla : a.length ≤ 1000) (ha2 : ∀ x ∈ a, x.length ≤ 1000000) :
    Calls Tryd.prog 47 #[av] w (Tuples w [a]) := (alone_on av a w ha hla ha2).mono fun _ _ h => h.tuples
theorem Mat.keep {w0 w w' : World} {gc gl gr : Nat} {cv lv rv : Value} {S : Nat → Prop} (h : Mat w0 w gc gl gr cv lv rv) (hk : Keeps S w w') (h1 : S gc) (h2 : S gl) (h3 : S gr) (h4 : ∀ k, rv.ownBlock = some k → S k) (h5 : ∀ k, k < w0.heap.size → S k) : Mat w0 w' gc gl gr cv lv rv := by
  obtain ⟨n, xs, ho⟩ := h.own
  exact ⟨h.cj.keeps hk h1, h.ll.keeps hk h2, h.rm.keeps hk h3, ⟨n, xs, own_keeps ho hk h4⟩, hk.below0 h.base h5, h.new, h.ne⟩
theorem own_own_ne {w : World} {b1 n1 s1 b2 n2 s2 : Nat} {e1 e2 : TypeId} {v1 v2 : Value} {x1 x2 : List Value} (h1 : w.ownsRow b1 e1 s1 v1 n1 x1) (h2 : w.ownsRow b2 e2 s2 v2 n2 x2) (hne : e1 ≠ e2) : ∀ k, v1.ownBlock = some k → v2.ownBlock ≠ some k := by
  intro k hk
  rcases h1.2 with ⟨rfl, _⟩ | ⟨g, cap, cur, rfl, _, hg, _⟩
  · cases hk
  · have e3 : g = k := by simpa [Value.ownBlock] using hk
    subst e3
    exact own_lies_ne h2 (cs := cur.toList) (by unfold Lies; simpa using hg) hne.symm
/-- the list's block is none of the matcher's -/
def Apart13 (sv : Value) (gc gl gr : Nat) : Prop := ∀ k, sv.ownBlock = some k → k ≠ gc ∧ k ≠ gl ∧ k ≠ gr
/-- the blocks that a tuple found must not lie in -/
def Off13 (lo gr : Nat) (rv : Value) : Nat → Prop := fun k => lo ≤ k ∧ k ≠ gr ∧ rv.ownBlock ≠ some k
theorem step_fit {w0 wr w2 : World} {gc gl gr m : Nat} {cv lv rv rv' sv : Value} {us : List Value} {ts : List (List (List Vl))} (hT : TuRow (Off13 w0.heap.size gr rv) w0.heap.size wr sv m us ts) (hM : Mat w0 wr gc gl gr cv lv rv) (hA : Apart13 sv gc gl gr)
    (hk : Keeps (fun k => k ≠ gr ∧ rv.ownBlock ≠ some k) wr w2) (hw : rv'.ownBlock = rv.ownBlock ∨ ∃ g, rv'.ownBlock = some g ∧ wr.heap.size ≤ g) : TuRow (Off13 w0.heap.size gr rv') w0.heap.size w2 sv m us ts := by
  obtain ⟨n, xs, ho⟩ := hM.own
  have h1 : TuRow (fun k => Off13 w0.heap.size gr rv k ∧ k < wr.heap.size) w0.heap.size wr sv m us ts := hT.mono fun k hk1 hk2 => ⟨hk2, hk1⟩
  refine (h1.keep hk (fun k hk1 => ⟨(hA k hk1).2.2, own_own_ne hT.own ho (by decide) k hk1⟩) fun k _ _ hk2 => hk2.1.2).mono fun k _ hk2 => ⟨hk2.1.1, hk2.1.2.1, ?_⟩
  rcases hw with e | ⟨g, e, hge⟩
  · rw [e]; exact hk2.1.2.2
  · rw [e]; intro e2; cases e2; have := hk2.2; omega
theorem step_push {w0 w2 w3 w4 w5 : World} {gc gl gr m : Nat} {cv lv rv sv sv' u : Value} {us : List Value} {ts : List (List (List Vl))} {t : List (List Vl)} (hT : TuRow (Off13 w0.heap.size gr rv) w0.heap.size w2 sv m us ts) (hM : Mat w0 w2 gc gl gr cv lv rv) (hA : Apart13 sv gc gl gr)
    (hb : Below w2.heap.size w2 w3) (hu : RwsOn (fun k => w2.heap.size ≤ k) w3 u t) (hb4 : Below w3.heap.size w3 w4) (hown : w5.ownsRow w0.heap.size 25 1 sv' (m + 1) (us ++ [u])) (hg : w4.grownBy w5 sv.ownBlock) (hw : sv'.ownBlock = sv.ownBlock ∨ ∃ g, sv'.ownBlock = some g ∧ w4.heap.size ≤ g) :
    TuRow (Off13 w0.heap.size gr rv) w0.heap.size w5 sv' (m + 1) (us ++ [u]) (ts ++ [t]) ∧ Mat w0 w5 gc gl gr cv lv rv ∧ Apart13 sv' gc gl gr := by
  obtain ⟨n, xs, ho⟩ := hM.own
  have hs2 := hb.size
  have hs3 := hb4.size
  have hsv := hT.own.lt
  have hT4 := (hT.below hb).below hb4
  have hu4 : RwsOn (fun k => sv.ownBlock ≠ some k ∧ Off13 w0.heap.size gr rv k) w4 u t := (hu.below hb4 (Nat.le_refl _)).mono fun k _ hk => ⟨fun e => by have := (hsv k e).2; omega, by have := hM.base.size; omega, fun e => by have := hM.rm.lt; omega, fun e => by have := (ho.lt k e).2; omega⟩
  have hM4 : Mat w0 w4 gc gl gr cv lv rv := (hM.keep (keeps_all (S := Al) hb) trivial trivial trivial (fun _ _ => trivial) fun _ _ => trivial).keep (keeps_all (S := Al) hb4) trivial trivial trivial (fun _ _ => trivial) fun _ _ => trivial
  refine ⟨hT4.push hu4 hown hg hw, hM4.keep (keeps_grown hg) (fun e => (hA _ e).1 rfl) (fun e => (hA _ e).2.1 rfl) (fun e => (hA _ e).2.2 rfl) (fun k hk e => own_own_ne hT.own ho (by decide) k e hk) (fun k hk e => by have := (hsv k e).1; omega), fun k hk => ?_⟩
  rcases hw with e | ⟨g, e, hge⟩
  · exact hA k (by rw [← e]; exact hk)
  · rw [e] at hk; cases hk
    have := hM.cj.lt; have := hM.ll.lt; have := hM.rm.lt
    exact ⟨by omega, by omega, by omega⟩
set_option maxRecDepth 100000 in
theorem matches_on (d : Nat) (cv lv rv : Value) (ps : List Pd) (l : List (List Vl)) (r : List (List (List Vl))) (w : World) (hp : PsAt d w cv ps) (hsz : Pr.sizes ps ≤ 1000) (hW : Want w) (hl : RwsOn Al w lv l) (hr : TusOn Al w rv r)
    (hl1 : l.length ≤ 100) (hl2 : ∀ x ∈ l, x.length ≤ 100) (hr1 : r.length ≤ 1000) (hr2 : ∀ x ∈ r, x.length ≤ 100) (hr3 : ∀ x ∈ r, ∀ y ∈ x, y.length ≤ 100) :
    Calls Tryd.prog 46 #[cv, lv, rv] w (TuplesOn (fun k => w.heap.size ≤ k) w (Mt.found ps l r)) := by
  obtain ⟨i0, hi, hz0, hz1, hz2⟩ := info_parts Tryd.infoTup13
  have hl' : RwsOn (fun k => k < w.heap.size) w lv l := hl.mono fun k h1 _ => h1
  have hr' : TusOn (fun k => k < w.heap.size) w rv r := hr.mono fun k h1 _ => h1
  obtain ⟨P0, p0, rfl, _⟩ := hp.form
  obtain ⟨L0, c0, rfl, _⟩ := hl'.form
  obtain ⟨R0, c1, rfl, _⟩ := hr'.form
  have HP := Lib.hid (And.intro hp (And.intro hsz hW))
  have HL := Lib.hid (And.intro hl' (And.intro hl1 hl2))
  have HR := Lib.hid (And.intro hr' (And.intro hr2 hr3))
  obtain ⟨n, hn⟩ : ∃ n, n = r.length := ⟨_, rfl⟩
  rw [← hn] at hr1 HR ⊢
  have HN := Lib.hid hn
  obtain ⟨ll, hll⟩ : ∃ n, n = l.length := ⟨_, rfl⟩
  rw [← hll] at HL ⊢
  have HLL := Lib.hid hll
  obtain ⟨pl, hpl⟩ : ∃ n, n = ps.length := ⟨_, rfl⟩
  rw [← hpl] at HP ⊢
  have cm := matcher_any w P0 L0 pl p0 ll c0
  clear hp hsz hW hl hr hl' hr' hl1 hl2 hr2 hr3 hn hll hpl
  go_enter Tryd.func46, Tryd.ntmps46
  go_wp2_with fail
  refine cm.mono ?_
  rintro E w1 ⟨gc, gl, gr, rfl, hM1⟩
  have HM1 := Lib.hid hM1
  clear cm hM1
  go_wp2_with fail
  go_loopw [7, 16] (fun s i wr => ∃ (q m : Nat) (us : List Value) (sv rv : Value), q ≤ n ∧ i = .int .i64 q ∧ sv = s ∧ m ≤ q ∧ Hid (m = (Mt.found ps l (r.take q)).length) ∧ Hid (TuRow (Off13 w.heap.size gr rv) w.heap.size wr sv m us (Mt.found ps l (r.take q))) ∧ Hid (Mat w wr gc gl gr (.slice P0 pl p0) (.slice L0 ll c0) rv) ∧ Hid (Apart13 sv gc gl gr)) (fun _ i _ => n - (intOf i).toNat)
  case atStart => exact ⟨0, 0, [], _, _, by omega, rfl, rfl, by omega, Lib.hid (by simp [Mt.found_nil]), Lib.hid ⟨World.ownsRow_nil _ _ _ _, by simp [Mt.found_nil], fun i t h => by simp [Mt.found_nil] at h⟩, HM1, Lib.hid fun k hk => by cases hk⟩
  case round =>
    obtain ⟨q, m, us, sv, rv2, hq, rfl, rfl, hmq, HM, HT, HMk, HA⟩ := hrel
    by_cases hlt : q < n
    · obtain ⟨t, gt⟩ : ∃ t, r[q]? = some t := ⟨r[q]'(by have := HN.out; omega), List.getElem?_eq_getElem _⟩
      obtain ⟨b1, o1, p1, B1, d1, hR0, _, h1⟩ := HR.out.1.pick gt
      subst hR0
      have i1 : (0 : Int) ≤ (q : Int) := by omega
      have i2 : (q : Int) < (n : Int) := by omega
      have hcell := (h1 wr HMk.out.base).1
      have ht0 := (h1 w (Below.refl _ _)).2
      have htl := HR.out.2.1 t (List.mem_of_getElem? gt)
      have htl2 := HR.out.2.2 t (List.mem_of_getElem? gt)
      have cf := fit_any d w wr gc gl gr _ _ rv2 _ ps l t HMk.out HP.out.1 HP.out.2.1 HP.out.2.2 HL.out.1 ht0 (by have := HL.out.2.1; have := HLL.out; omega) (by omega)
      have HGT := Lib.hid (Mt.found_take (ps := ps) (l := l) gt)
      have HTL := Lib.hid (And.intro ht0 (And.intro htl htl2))
      obtain ⟨b, hb⟩ : ∃ b, b = Mt.fits ps l t := ⟨_, rfl⟩
      rw [← hb] at cf
      have HB := Lib.hid hb
      obtain ⟨tl, htl'⟩ : ∃ n, n = t.length := ⟨_, rfl⟩
      rw [← htl'] at cf hcell HTL
      have HTl := Lib.hid htl'
      clear h1 gt ht0 htl htl2 hb htl'
      go_wp2_with fail
      refine cf.mono ?_
      rintro E w2 ⟨rv3, rfl, hM2, hk2, hw2⟩
      have HT2 := Lib.hid (step_fit HT.out HMk.out HA.out hk2 hw2)
      have HM2 := Lib.hid hM2
      clear cf hcell hM2 hk2 hw2
      cases b with
      | true =>
        have HG2 := Lib.hid (show Mt.found ps l (r.take (q + 1)) = Mt.found ps l (r.take q) ++ [Mt.merge l t] by rw [HGT.out, ← HB.out]; rfl)
        have cg := merge_any (fun k => k < w.heap.size) _ _ l t w2 (HL.out.1.below HM2.out.base (Nat.le_refl _)) (HTL.out.1.below HM2.out.base (Nat.le_refl _)) (by have := HL.out.2.1; have := HLL.out; omega) (by have := HTL.out.2.1; have := HTl.out; omega) (fun x hx => Nat.le_trans (HL.out.2.2 x hx) (by decide)) (fun x hx => Nat.le_trans (HTL.out.2.2 x hx) (by decide))
        obtain ⟨M, hM⟩ : ∃ M, M = Mt.merge l t := ⟨_, rfl⟩
        rw [← hM] at cg HG2
        clear hM
        go_wp2_with fail
        refine cg.mono ?_
        rintro E w3 ⟨MA, mc, rfl, hMO, hb3⟩
        have hmm : m ≤ 1000 := by omega
        have hsz3 : w.heap.size ≤ w3.heap.size := Nat.le_trans HM2.out.base.size hb3.size
        have HMO := Lib.hid hMO
        obtain ⟨ml, hml⟩ : ∃ n, n = M.length := ⟨_, rfl⟩
        rw [← hml] at HMO ⊢
        have HO3 := Lib.hid (own_below (own_below HT2.out.own hb3) (below_new w3 (Obj.cells #[.slice MA ml mc] 25)))
        have HB3 := Lib.hid hb3
        clear cg hMO hml hb3
        go_wp2_with (first
          | (at_builtin; refine wpList_append_at _ rfl _ _ 27 rfl w.heap.size 25 i0 (.slice none 0 0) 1 24 Tryd.underlying27 hi hz0 hz1 hz2 rfl (by decide) _ m us rfl HO3.out ⟨w3.heap.size, 0, none⟩ 1 1 [.slice MA ml mc] rfl rfl ?c1 ?c2 ?c3 ?c4 ?c5 ?_))
        case c1 => exact cell_one_new _ _ _
        case c2 => simp [Value.oneCell']
        case c3 => unfold maxLen; omega
        case c4 => omega
        case c5 => simp; omega
        intro v1 w5 hown3 hgrow hwhere
        have hst := step_push HT2.out HM2.out HA.out HB3.out HMO.out (below_new w3 (Obj.cells #[.slice MA ml mc] 25)) hown3 hgrow (by simpa using hwhere)
        rw [← HG2.out] at hst
        have HS := Lib.hid hst
        have HM5 := Lib.hid (show m + 1 = (Mt.found ps l (r.take (q + 1))).length by rw [HG2.out, List.length_append, ← HM.out]; rfl)
        clear hown3 hgrow hwhere hst
        go_wp2_with fail
        go_roundw
        case rel => exact ⟨q + 1, m + 1, _, _, _, by omega, by go_num, rfl, by omega, HM5, Lib.hid HS.out.1, Lib.hid HS.out.2.1, Lib.hid HS.out.2.2⟩
        case measure => simp [intOf]; omega
      | false =>
        have HG2 := (show Mt.found ps l (r.take (q + 1)) = Mt.found ps l (r.take q) by rw [HGT.out, ← HB.out]; simp)
        have HM5 := Lib.hid (show m = (Mt.found ps l (r.take (q + 1))).length by rw [HG2, ← HM.out])
        have HT5 := Lib.hid (show TuRow (Off13 w.heap.size gr rv3) w.heap.size w2 sv m us (Mt.found ps l (r.take (q + 1))) from by rw [HG2]; exact HT2.out)
        clear HG2
        go_wp2_with fail
        go_roundw
        case rel => exact ⟨q + 1, m, _, _, _, by omega, by go_num, rfl, by omega, HM5, HT5, HM2, HA⟩
        case measure => simp [intOf]; omega
    · obtain ⟨A0, a0, rfl⟩ := ownsForm HT.out.own
      have hres := Lib.hid (show TuplesOn (fun k => w.heap.size ≤ k) w (Mt.found ps l r) (.returned (.slice A0 m a0)) wr from by
        have h1 := HT.out
        have h2 := HM.out
        rw [List.take_of_length_le (by have := HN.out; omega)] at h1 h2
        exact ⟨A0, a0, by rw [← h2], by rw [← h2]; exact h1.tusOn (fun _ h => h) (fun _ h => h.1), HMk.out.base⟩)
      go_wp2_with fail
      go_ret
      exact hres.out
theorem matches_any (d : Nat) (cv lv rv : Value) (ps : List Pd) (l : List (List Vl)) (r : List (List (List Vl))) (w : World) (hp : PsAt d w cv ps) (hsz : Pr.sizes ps ≤ 1000) (hW : Want w) (hl : RwsOn Al w lv l) (hr : TusOn Al w rv r)
    (hl1 : l.length ≤ 100) (hl2 : ∀ x ∈ l, x.length ≤ 100) (hr1 : r.length ≤ 1000) (hr2 : ∀ x ∈ r, x.length ≤ 100) (hr3 : ∀ x ∈ r, ∀ y ∈ x, y.length ≤ 100) :
    Calls Tryd.prog 46 #[cv, lv, rv] w (Tuples w (Mt.found ps l r)) :=
  (matches_on d cv lv rv ps l r w hp hsz hW hl hr hl1 hl2 hr1 hr2 hr3).mono fun _ _ h => h.tuples
end Go.Proofs.YtghonbnmakggnaaDoor
