/-
  THE READER OF TREES: an operator behind the first of its kids; a tree.
-/
import Derived.Test.YteimbdklakemaaaGreatDoorShuM
import Derived.Test.YteimbdklakemaaaGreatDoorTrnM
namespace Go.Proofs.YteimbdklakemaaaGreatDoor
open Go.RowKit Go.Sort
set_option maxHeartbeats 6400000

theorem PsIn.on {lo d : Nat} {w : World} : ∀ {v : Value} {l : List Pd}, PsIn lo d w v l → PsOn (fun q => lo ≤ q) d w v l := by
  induction d with
  | zero => intro v l h; exact h
  | succ d ih =>
    intro v l h
    obtain ⟨A, c, hv, hc, hx⟩ := h
    refine ⟨A, c, hv, hc, fun j p hj => ?_⟩
    obtain ⟨b, o, s, u, hA, hS, hlt, hcell, hp⟩ := hx j p hj
    exact ⟨b, o, s, u, hA, hS, hlt, hcell, ih hp⟩
/-- what hangs from a tree's cells lies from lo on -/
abbrev TrFrom (lo : Nat) (w : World) (x : Tr) (U V : Value) : Prop := TrOn (fun q => lo ≤ q) w (x, U, V)
theorem TrFrom.gw {lo R : Nat} {w w' : World} {x : Tr} {U V : Value} (h : TrFrom lo w x U V) (hg : Gw R w w') (hR : R < lo) : TrFrom lo w' x U V :=
  h.keep hg.size fun k hk hlt => ⟨hg.block k hlt (by intro e; cases e; omega), hk⟩
theorem TrFrom.below {lo : Nat} {w w' : World} {x : Tr} {U V : Value} (h : TrFrom lo w x U V) (hb : Below w.heap.size w w') : TrFrom lo w' x U V :=
  h.keep hb.size fun q hk hlt => ⟨hb.block q hlt, hk⟩
theorem TrFrom.low {lo lo' : Nat} {w : World} {x : Tr} {U V : Value} (h : TrFrom lo w x U V) (hl : lo' ≤ lo) : TrFrom lo' w x U V :=
  h.keep (Nat.le_refl _) fun _ hk _ => ⟨rfl, Nat.le_trans hl hk⟩
theorem TrFrom.put {lo B : Nat} {w : World} {x : Tr} {U V : Value} (h : TrFrom lo w x U V) (hB : B < lo) (i : Nat) (v : Value) : TrFrom lo (w.setCell ⟨B, i, none⟩ v) x U V :=
  h.keep (by simp [World.setCell]) fun k hk _ => ⟨Below.heap_setCell _ _ _ _ (by rintro rfl; exact absurd hB (Nat.not_lt.2 hk)), hk⟩
/-- the first of the kids, where it lay ahead of the call -/
abbrev TrTo (lo hi : Nat) (w : World) (x : Tr) (U V : Value) : Prop := TrOn (fun q => lo ≤ q ∧ q < hi) w (x, U, V)
theorem TrFrom.to {lo : Nat} {w : World} {x : Tr} {U V : Value} (h : TrFrom lo w x U V) : TrTo lo w.heap.size w x U V := h.keep (Nat.le_refl _) fun _ hk hlt => ⟨rfl, hk, hlt⟩
theorem TrTo.gw {lo hi R : Nat} {w w' : World} {x : Tr} {U V : Value} (h : TrTo lo hi w x U V) (hg : Gw R w w') (hR : R < lo) : TrTo lo hi w' x U V :=
  h.keep hg.size fun q hk hlt => ⟨hg.block q hlt (by intro e; cases e; omega), hk⟩
theorem TrFrom.leaf (lo : Nat) (w : World) (n : Nat) : TrFrom lo w (Sh.leafT n) (.slice none 0 0) (.slice none 0 0) :=
  ⟨⟨0, rfl, none, 0, rfl⟩, 0, rfl, none, 0, rfl⟩
/-- two trees in a block of their own, under an operator -/
theorem TrFrom.two {lo g : Nat} {w : World} {x y : Tr} {U V U2 V2 S : Value} {kd : Int} {hh : Bool} {cs : List Pd} (hx : TrFrom lo w x U V) (hy : TrFrom lo w y U2 V2) (hg : lo ≤ g) (hS : ∃ d, PsOn (fun q => lo ≤ q) d w S cs)
    (hL : Lies w g 25 [.int .i64 x.k, .int .i64 x.t, U, V, .bool x.h, .int .i64 y.k, .int .i64 y.t, U2, V2, .bool y.h]) : TrFrom lo w (.mk kd 0 hh cs [x, y]) (.slice (some ⟨g, 0, none⟩) 2 2) S := by
  obtain ⟨⟨d1, a1⟩, b1⟩ := hx
  obtain ⟨⟨d2, a2⟩, b2⟩ := hy
  refine ⟨⟨max d1 d2 + 1, some ⟨g, 0, none⟩, 2, rfl, ⟨by simp [Tr.ks], by simp [Tr.ks]⟩, fun j a hj => ?_⟩, hS⟩
  match j, hj with
  | 0, hj =>
    cases hj
    refine ⟨g, 0, none, U, V, rfl, hg, hL.lt, ?_, b1, a1.mono (Nat.le_max_left _ _)⟩
    exact ⟨by simpa [Addr.add] using hL.cell (i := 0) rfl, by simpa [Addr.add] using hL.cell (i := 1) rfl, by simpa [Addr.add] using hL.cell (i := 2) rfl, by simpa [Addr.add] using hL.cell (i := 3) rfl, by simpa [Addr.add] using hL.cell (i := 4) rfl⟩
  | 1, hj =>
    cases hj
    refine ⟨g, 0, none, U2, V2, rfl, hg, hL.lt, ?_, b2, a2.mono (Nat.le_max_right _ _)⟩
    exact ⟨by simpa [Addr.add] using hL.cell (i := 5) rfl, by simpa [Addr.add] using hL.cell (i := 6) rfl, by simpa [Addr.add] using hL.cell (i := 7) rfl, by simpa [Addr.add] using hL.cell (i := 8) rfl, by simpa [Addr.add] using hL.cell (i := 9) rfl⟩
/-- all together, behind the store of the result and the last bracket -/
theorem TrFrom.fin {lo hi R g m3 m4 : Nat} {w5 w9 : World} {x y : Tr} {U V U2 V2 S : Value} {kd : Int} {hh : Bool} {cs : List Pd} (hR : R < lo) (hlo : lo ≤ hi) (h3 : hi + 1 < m3) (h4 : hi + 1 < m4) (hsz : w5.heap.size ≤ w9.heap.size) (hkeep : ∀ q, q < w5.heap.size → q ≠ R → q ≠ hi + 1 → w9.heap[q]? = w5.heap[q]?) (hg : lo ≤ g)
    (hx : TrTo lo hi w5 x U V) (hy : TrFrom m4 w5 y U2 V2) (hS : PsOn (fun q => m3 ≤ q) 5 w5 S cs)
    (hL : Lies w9 g 25 [.int .i64 x.k, .int .i64 x.t, U, V, .bool x.h, .int .i64 y.k, .int .i64 y.t, U2, V2, .bool y.h]) : TrFrom lo w9 (.mk kd 0 hh cs [x, y]) (.slice (some ⟨g, 0, none⟩) 2 2) S :=
  TrFrom.two (hx.keep hsz fun q hq hlt => ⟨hkeep q hlt (by omega) (by omega), hq.1⟩) (TrOn.keep hy hsz fun q hq hlt => ⟨hkeep q hlt (by omega) (by omega), by omega⟩) hg ⟨5, hS.keep hsz fun q hq hlt => ⟨hkeep q hlt (by omega) (by omega), by omega⟩⟩ hL
theorem oper_all {l : List Int} {tr : Sh.St → Tr × Sh.St} (htr : ∀ s, (tr s).2.e = 0 → s.e = 0) {s s1 s2 s3 s4 s9 : Sh.St} (h1 : s1 = (Sh.kind l s).2) (h2 : s2 = Sh.skip l 35 s1) (h3 : s3 = (Sh.conj l s2).2) (h4 : s4 = (tr s3).2) (h9 : s9 = Sh.pass l 41 s4) (h : s9.e = 0) : s4.e = 0 ∧ s3.e = 0 ∧ s2.e = 0 ∧ s1.e = 0 ∧ s.e = 0 := by
  rw [h9] at h
  have a4 := (Sh.pass_took (by decide) h).1
  have a3 := htr s3 (by rw [← h4]; exact a4)
  have a2 := (Sh.conj_took (l := l) (s := s2) (by rw [← h3]; exact a3)).1
  have a1 := (Sh.skip_took (l := l) (c := 35) (s := s1) (by decide) (by rw [← h2]; exact a2)).1
  have a0 := (Sh.kind_took (l := l) (s := s) (by rw [← h1]; exact a1)).1
  exact ⟨a4, a3, a2, a1, a0⟩
/-- behind a reader of a tree: what it tells, in memory from lo on -/
def GotT (lo : Nat) (w0 : World) (R b c : Nat) (l : List Int) (w : World) (g : Tr × Sh.St) (E : Ending) (w' : World) : Prop :=
  ∃ (x : Tr) (A : Option Addr) (m kk : Nat) (A2 : Option Addr) (m2 k2 : Nat) (s' : Sh.St),
    E = .returned (.agg #[.int .i64 x.k, .int .i64 x.t, .slice A m kk, .slice A2 m2 k2, .bool x.h]) ∧ Hid (s' = g.2) ∧ Hid (s'.e = 0 → g.1 = x) ∧ Hid (s'.e = 0 → TrFrom lo w' x (.slice A m kk) (.slice A2 m2 k2)) ∧ SRd w0 w' R b c l.length s' ∧ Gw R w w'
theorem oper_room {l : List Int} {s s3 : Sh.St} (h : s3 = (Sh.conj l (Sh.skip l 35 (Sh.kind l s).2)).2) {k : Nat} (hr : s.e = 0 → l.length < s.i + (k + 1)) : s3.e = 0 → l.length < s3.i + k := by
  intro h0
  rw [h] at h0 ⊢
  obtain ⟨c1, _, _, _, _, _, c7⟩ := Sh.conj_took h0
  obtain ⟨d1, _, d3⟩ := Sh.skip_took (by decide) c1
  obtain ⟨e1, e2, _⟩ := Sh.kind_took d1
  have q1 := Sh.Stands.le c7
  have q2 := Sh.Stands.le d3
  rw [show (Sh.kind l s).2.i = (Sh.on s).i by rw [e2]] at q2
  have q3 : (Sh.on s).i = s.i + 1 := rfl
  have := hr e1
  clear c7 d3 e2
  have q4 : (Sh.skip l 35 (Sh.kind l s).2).i ≥ s.i + 1 := by rw [q3] at q2; exact q2
  omega
/-- who reads a tree, with fuel k -/
def TreeAt (w0 : World) (R b c : Nat) (l : List Int) (k : Nat) : Prop := ∀ (s : Sh.St) (w : World), SRd w0 w R b c l.length s → Sh.Ok l s → (s.e = 0 → l.length < s.i + k) →
  Calls Tryz.prog 15 #[.pointer (some ⟨R, 0, none⟩)] w (GotT w.heap.size w0 R b c l w (Sh.tree l k s))
set_option maxRecDepth 100000 in
theorem soper_of {w0 : World} {R b c : Nat} {l : List Int} (hs : Src w0 R b c l) (hg : Sgn w0) (k lo : Nat) (IH : TreeAt w0 R b c l k) (x : Tr) (AU : Option Addr) (mU kU : Nat) (AV : Option Addr) (mV kV : Nat) (s : Sh.St) (w : World) (h : SRd w0 w R b c l.length s) (hk : Sh.Ok l s) (hroom : s.e = 0 → l.length < s.i + (k + 1))
    (hlo : R < lo) (hlw : lo ≤ w.heap.size) (hx : s.e = 0 → TrFrom lo w x (.slice AU mU kU) (.slice AV mV kV)) :
    Calls Tryz.prog 29 #[.pointer (some ⟨R, 0, none⟩), .agg #[.int .i64 x.k, .int .i64 x.t, .slice AU mU kU, .slice AV mV kV, .bool x.h]] w (GotT lo w0 R b c l w (Sh.oper l (Sh.tree l k) x s)) := by
  obtain ⟨U, hU⟩ : ∃ U, U = Value.slice AU mU kU := ⟨_, rfl⟩
  obtain ⟨V, hV⟩ : ∃ V, V = Value.slice AV mV kV := ⟨_, rfl⟩
  obtain ⟨o0, ho0⟩ : ∃ o0, o0 = Obj.cells #[.int .i64 x.k, .int .i64 x.t, .slice AU mU kU, .slice AV mV kV, .bool x.h] 25 := ⟨_, rfl⟩
  obtain ⟨o1, ho1⟩ : ∃ o1, o1 = Obj.cells #[.int .i64 0, .int .i64 0, .slice none 0 0, .slice none 0 0, .bool false] 25 := ⟨_, rfl⟩
  have hRw : R < w.heap.size := h.lt
  have l0 : Lies ((w.alloc o0).alloc o1) w.heap.size 25 [.int .i64 x.k, .int .i64 x.t, .slice AU mU kU, .slice AV mV kV, .bool x.h] := by rw [ho0]; exact (Lies.new _ _ _).alloc _
  have l1 : Lies ((w.alloc o0).alloc o1) (w.heap.size + 1) 25 [.int .i64 0, .int .i64 0, .slice none 0 0, .slice none 0 0, .bool false] := by
    have := Lies.new (w.alloc o0) 25 [.int .i64 0, .int .i64 0, .slice none 0 0, .slice none 0 0, .bool false]
    rw [World.size_alloc] at this
    rw [ho1]; exact this
  have h0 := (h.alloc o0).alloc o1
  have g0 : Gw R w ((w.alloc o0).alloc o1) := (Gw.of (below_new _ _)).trans (Gw.of (below_new _ _))
  have hx0 : s.e = 0 → TrTo lo w.heap.size ((w.alloc o0).alloc o1) x (.slice AU mU kU) (.slice AV mV kV) := fun he => (hx he).to.gw g0 hlo
  obtain ⟨w1, hw1⟩ : ∃ w1, w1 = (w.alloc o0).alloc o1 := ⟨_, rfl⟩
  rw [← hw1] at l0 l1 h0 g0 hx0
  obtain ⟨s1, hs1⟩ : ∃ s1, s1 = (Sh.kind l s).2 := ⟨_, rfl⟩
  obtain ⟨K, hK⟩ : ∃ K, K = (Sh.kind l s).1 := ⟨_, rfl⟩
  obtain ⟨B, hB⟩ : ∃ B, B = decide (Sh.nx l s1 = 35) := ⟨_, rfl⟩
  obtain ⟨s2, hs2⟩ : ∃ s2, s2 = Sh.skip l 35 s1 := ⟨_, rfl⟩
  have k1 : Sh.Ok l s1 := by rw [hs1]; exact hk.kind
  have k2 : Sh.Ok l s2 := by rw [hs2]; exact k1.skip (by decide)
  have ck := skind_any hs hg s w1 h0 hk.1 K s1 (by rw [hK, hs1])
  have hrm := fun s3 h => oper_room (l := l) (s := s) (s3 := s3) (k := k) h hroom
  have HM := Lib.hid (And.intro hs1 (And.intro hK (And.intro hB (And.intro hs2 hrm))))
  have Hs := Lib.hid hs
  have IH2 := Lib.hid IH
  have HO0 := Lib.hid ho0
  have HO1 := Lib.hid ho1
  have HW1 := Lib.hid hw1
  have HX := Lib.hid hx0
  have L0 := Lib.hid l0
  have L1 := Lib.hid l1
  have G0 := Lib.hid g0
  have HKS := Lib.hid (And.intro k1 k2)
  have HUV := Lib.hid (And.intro hU hV)
  have HLO := Lib.hid (And.intro hlo hlw)
  clear hs hg IH ho0 ho1 hw1 hx hx0 l0 l1 g0 h0 h hk hroom hs1 hK hB hs2 hrm k1 k2 hU hV hlo hlw
  go_enter_defers Tryz.func29, Tryz.ntmps29
  go_wp2_with (fail)
  rw [← HO0.out, ← HO1.out, ← HW1.out]
  refine ck.mono ?_
  rintro E w2 ⟨rfl, h2, g2⟩
  have cs := sskip_any Hs.out s1 35 w2 h2 HKS.out.1.1 B HM.out.2.2.1 s2 HM.out.2.2.2.1
  have G2 := Lib.hid (G0.out.trans g2)
  have L02 := Lib.hid (g2.lies L0.out (by omega))
  have L12 := Lib.hid (g2.lies L1.out (by omega))
  have HX2 := Lib.hid (fun he => TrTo.gw (HX.out he) g2 HLO.out.1)
  have HZ2 := Lib.hid g2.size
  clear ck h2 g2 G0 L0 L1 HX
  go_wp2_with (fail)
  refine cs.mono ?_
  rintro E w3 ⟨rfl, h3, g3⟩
  have cc := sconj_any Hs.out s2 w3 h3 HKS.out.2
  have G3 := Lib.hid (G2.out.trans g3)
  have L03 := Lib.hid (g3.lies L02.out (by omega))
  have L13 := Lib.hid (g3.lies L12.out (by omega))
  have HX3 := Lib.hid (fun he => TrTo.gw (HX2.out he) g3 HLO.out.1)
  have HZ3 := Lib.hid g3.size
  clear cs h3 g3 G2 L02 L12 HX2
  go_wp2_with (fail)
  refine cc.mono ?_
  rintro E w4 ⟨AS, mS, kS, cs, s3, rfl, hs3, hcs, hin, h4, g4⟩
  have k3 : Sh.Ok l s3 := by rw [hs3.out]; exact HKS.out.2.conj
  have ct := IH2.out s3 w4 h4 k3 (HM.out.2.2.2.2 s3 (by rw [hs3.out, HM.out.2.2.2.1, HM.out.1]))
  have G4 := Lib.hid (G3.out.trans g4)
  have L04 := Lib.hid (g4.lies L03.out (by omega))
  have L14 := Lib.hid (g4.lies L13.out (by omega))
  have HX4 := Lib.hid (fun he => TrTo.gw (HX3.out he) g4 HLO.out.1)
  have HIN4 := Lib.hid (show PsOn (fun q => w3.heap.size ≤ q) 5 w4 (.slice AS mS kS) cs from hin.out.on)
  have HK3 := Lib.hid k3
  have HZ4 := Lib.hid g4.size
  clear cc h4 g4 L03 L13 HX3 hin k3
  obtain ⟨gt, hgt⟩ : ∃ gt, gt = Sh.tree l k s3 := ⟨_, rfl⟩
  rw [← hgt] at ct
  have HGT := Lib.hid hgt
  clear hgt
  go_wp2_with (fail)
  refine ct.mono ?_
  rintro E w5 ⟨y, A2, m2, c2, A3, m3, c3, s4, rfl, hs4, hy, hyt, h5, g5⟩
  have HSZ := Lib.hid (And.intro (show w1.heap.size ≤ w3.heap.size from Nat.le_trans HZ2.out HZ3.out) (show w1.heap.size ≤ w4.heap.size from Nat.le_trans (Nat.le_trans HZ2.out HZ3.out) HZ4.out))
  have G5 := Lib.hid (G4.out.trans g5)
  have l05 := g5.lies L04.out (by omega)
  have l15 := g5.lies L14.out (by omega)
  have HX5 := Lib.hid (fun he => TrTo.gw (HX4.out he) g5 HLO.out.1)
  have HY5 := hyt
  have HIN5 := Lib.hid (show PsOn (fun q => w3.heap.size ≤ q) 5 w5 (.slice AS mS kS) cs from HIN4.out.keep g5.size fun q hq hlt => ⟨g5.block q hlt (by have := HLO.out; have := G3.out.size; intro e; cases e; omega), hq⟩)
  have hk4 : Sh.Ok l s4 := by rw [hs4.out, HGT.out]; exact HK3.out.tree k
  have HK4 := Lib.hid hk4
  have H5 := Lib.hid h5
  have HZ45 := Lib.hid g5.size
  clear ct g5 G4 G3 L04 L14 HX4 hyt HIN4 hk4 h5 HZ2 HZ3 HZ4
  -- the box of the second, the two in a row, the operator
  obtain ⟨o2, ho2⟩ : ∃ o2, o2 = Obj.cells #[.int .i64 y.k, .int .i64 y.t, .slice A2 m2 c2, .slice A3 m3 c3, .bool y.h] 25 := ⟨_, rfl⟩
  obtain ⟨w6, hw6⟩ : ∃ w6, w6 = w5.alloc o2 := ⟨_, rfl⟩
  have l06 : Lies w6 w.heap.size 25 [.int .i64 x.k, .int .i64 x.t, .slice AU mU kU, .slice AV mV kV, .bool x.h] := by rw [hw6]; exact l05.alloc o2
  have l16 : Lies w6 (w.heap.size + 1) 25 [.int .i64 0, .int .i64 0, .slice none 0 0, .slice none 0 0, .bool false] := by rw [hw6]; exact l15.alloc o2
  have l26 : Lies w6 w5.heap.size 25 [.int .i64 y.k, .int .i64 y.t, .slice A2 m2 c2, .slice A3 m3 c3, .bool y.h] := by rw [hw6, ho2]; exact Lies.new _ _ _
  have h6 : SRd w0 w6 R b c l.length s4 := by rw [hw6]; exact H5.out.alloc o2
  have g6 : Below w5.heap.size w5 w6 := by rw [hw6]; exact below_new _ _
  have HO2 := Lib.hid ho2
  have HW6 := Lib.hid hw6
  clear ho2 hw6 l05 l15 H5
  go_upto_region 6 with (fail)
  rw [← HO2.out, ← HW6.out]
  have a0 := l06.cell (i := 0) rfl
  have b0 := l26.cell (i := 0) rfl
  have a1 := l06.cell (i := 1) rfl
  have b1 := l26.cell (i := 1) rfl
  have a2 := l06.cell (i := 2) rfl
  have b2 := l26.cell (i := 2) rfl
  have a3 := l06.cell (i := 3) rfl
  have b3 := l26.cell (i := 3) rfl
  have a4 := l06.cell (i := 4) rfl
  have b4 := l26.cell (i := 4) rfl
  obtain ⟨o3, ho3⟩ : ∃ o3, o3 = Obj.cells #[.int .i64 x.k, .int .i64 x.t, .slice AU mU kU, .slice AV mV kV, .bool x.h, .int .i64 y.k, .int .i64 y.t, .slice A2 m2 c2, .slice A3 m3 c3, .bool y.h] 25 := ⟨_, rfl⟩
  have HO3 := Lib.hid ho3
  have l17 := l16.alloc o3
  have l37 : Lies (w6.alloc o3) w6.heap.size 25 [.int .i64 x.k, .int .i64 x.t, .slice AU mU kU, .slice AV mV kV, .bool x.h, .int .i64 y.k, .int .i64 y.t, .slice A2 m2 c2, .slice A3 m3 c3, .bool y.h] := by rw [ho3]; exact Lies.new _ _ _
  have h7 := h6.alloc o3
  have g7 : Below w6.heap.size w6 (w6.alloc o3) := below_new _ _
  rw [ho3] at l17 l37 h7 g7
  have hR1 : R < w.heap.size + 1 := Nat.lt_succ_of_lt hRw
  have y0 := l17.cell (i := 0) rfl
  have f0 := l17.free 0
  have y1 := l17.cell (i := 1) rfl
  have f1 := l17.free 1
  have y2 := l17.cell (i := 2) rfl
  have f2 := l17.free 2
  have y3 := l17.cell (i := 3) rfl
  have f3 := l17.free 3
  have y4 := l17.cell (i := 4) rfl
  have f4 := l17.free 4
  have LF := Lib.hid (show Lies (World.setCell (World.setCell (World.setCell (World.setCell (World.setCell (w6.alloc (Obj.cells #[.int .i64 x.k, .int .i64 x.t, .slice AU mU kU, .slice AV mV kV, .bool x.h, .int .i64 y.k, .int .i64 y.t, .slice A2 m2 c2, .slice A3 m3 c3, .bool y.h] 25)) ⟨w.heap.size + 1, 0, none⟩ (.int .i64 K)) ⟨w.heap.size + 1, 1, none⟩ (.int .i64 0)) ⟨w.heap.size + 1, 2, none⟩ (.slice (some ⟨w6.heap.size, 0, none⟩) 2 2)) ⟨w.heap.size + 1, 3, none⟩ (.slice AS mS kS)) ⟨w.heap.size + 1, 4, none⟩ (.bool B)) (w.heap.size + 1) 25 [.int .i64 K, .int .i64 0, .slice (some ⟨w6.heap.size, 0, none⟩) 2 2, .slice AS mS kS, .bool B] from (((((l17.set 0 (.int .i64 K)).set 1 (.int .i64 0)).set 2 (.slice (some ⟨w6.heap.size, 0, none⟩) 2 2)).set 3 (.slice AS mS kS)).set 4 (.bool B)))
  have HF := Lib.hid (show SRd w0 (World.setCell (World.setCell (World.setCell (World.setCell (World.setCell (w6.alloc (Obj.cells #[.int .i64 x.k, .int .i64 x.t, .slice AU mU kU, .slice AV mV kV, .bool x.h, .int .i64 y.k, .int .i64 y.t, .slice A2 m2 c2, .slice A3 m3 c3, .bool y.h] 25)) ⟨w.heap.size + 1, 0, none⟩ (.int .i64 K)) ⟨w.heap.size + 1, 1, none⟩ (.int .i64 0)) ⟨w.heap.size + 1, 2, none⟩ (.slice (some ⟨w6.heap.size, 0, none⟩) 2 2)) ⟨w.heap.size + 1, 3, none⟩ (.slice AS mS kS)) ⟨w.heap.size + 1, 4, none⟩ (.bool B)) R b c l.length s4 from (((((h7.put hR1 0 (.int .i64 K)).put hR1 1 (.int .i64 0)).put hR1 2 (.slice (some ⟨w6.heap.size, 0, none⟩) 2 2)).put hR1 3 (.slice AS mS kS)).put hR1 4 (.bool B)))
  have GS := Lib.hid (Gw.trans (Gw.trans (Gw.trans (Gw.trans (Gw.set (R := w.heap.size + 1) (w6.alloc (Obj.cells #[.int .i64 x.k, .int .i64 x.t, .slice AU mU kU, .slice AV mV kV, .bool x.h, .int .i64 y.k, .int .i64 y.t, .slice A2 m2 c2, .slice A3 m3 c3, .bool y.h] 25)) 0 (.int .i64 K)) (Gw.set (R := w.heap.size + 1) (World.setCell (w6.alloc (Obj.cells #[.int .i64 x.k, .int .i64 x.t, .slice AU mU kU, .slice AV mV kV, .bool x.h, .int .i64 y.k, .int .i64 y.t, .slice A2 m2 c2, .slice A3 m3 c3, .bool y.h] 25)) ⟨w.heap.size + 1, 0, none⟩ (.int .i64 K)) 1 (.int .i64 0))) (Gw.set (R := w.heap.size + 1) (World.setCell (World.setCell (w6.alloc (Obj.cells #[.int .i64 x.k, .int .i64 x.t, .slice AU mU kU, .slice AV mV kV, .bool x.h, .int .i64 y.k, .int .i64 y.t, .slice A2 m2 c2, .slice A3 m3 c3, .bool y.h] 25)) ⟨w.heap.size + 1, 0, none⟩ (.int .i64 K)) ⟨w.heap.size + 1, 1, none⟩ (.int .i64 0)) 2 (.slice (some ⟨w6.heap.size, 0, none⟩) 2 2))) (Gw.set (R := w.heap.size + 1) (World.setCell (World.setCell (World.setCell (w6.alloc (Obj.cells #[.int .i64 x.k, .int .i64 x.t, .slice AU mU kU, .slice AV mV kV, .bool x.h, .int .i64 y.k, .int .i64 y.t, .slice A2 m2 c2, .slice A3 m3 c3, .bool y.h] 25)) ⟨w.heap.size + 1, 0, none⟩ (.int .i64 K)) ⟨w.heap.size + 1, 1, none⟩ (.int .i64 0)) ⟨w.heap.size + 1, 2, none⟩ (.slice (some ⟨w6.heap.size, 0, none⟩) 2 2)) 3 (.slice AS mS kS))) (Gw.set (R := w.heap.size + 1) (World.setCell (World.setCell (World.setCell (World.setCell (w6.alloc (Obj.cells #[.int .i64 x.k, .int .i64 x.t, .slice AU mU kU, .slice AV mV kV, .bool x.h, .int .i64 y.k, .int .i64 y.t, .slice A2 m2 c2, .slice A3 m3 c3, .bool y.h] 25)) ⟨w.heap.size + 1, 0, none⟩ (.int .i64 K)) ⟨w.heap.size + 1, 1, none⟩ (.int .i64 0)) ⟨w.heap.size + 1, 2, none⟩ (.slice (some ⟨w6.heap.size, 0, none⟩) 2 2)) ⟨w.heap.size + 1, 3, none⟩ (.slice AS mS kS)) 4 (.bool B)))
  have G67 := Lib.hid (And.intro g6 g7)
  have L37 := Lib.hid l37
  obtain ⟨s9, hs9⟩ : ∃ s9, s9 = Sh.pass l 41 s4 := ⟨_, rfl⟩
  have HS9 := Lib.hid hs9
  have HRW := Lib.hid hRw
  have HGF := Lib.hid ((((((G5.out.trans ((Gw.of g6).trans (Gw.of g7))).put (Nat.le_succ _) 0 (.int .i64 K)).put (Nat.le_succ _) 1 (.int .i64 0)).put (Nat.le_succ _) 2 (.slice (some ⟨w6.heap.size, 0, none⟩) 2 2)).put (Nat.le_succ _) 3 (.slice AS mS kS)).put (Nat.le_succ _) 4 (.bool B))
  clear hs9 l06 l16 l26 l17 l37 h6 h7 g6 g7 ho3 hR1 hRw
  go_wp2_with (fail)
  refine leaves_cons (f := 38) (args := #[.pointer (some ⟨R, 0, none⟩), .int .i32 41]) (by simp) (by simp [go_sem]) ?_
  refine (spass_def Hs.out s4 41 _ HF.out HK4.out.1 s9 .returning HS9.out).mono ?_
  rintro E u' w9 ⟨rfl, rfl, h9, g9⟩
  have hRne : w.heap.size + 1 ≠ R := by have := HRW.out; omega
  have LF9 := g9.lies LF.out hRne
  have k0 := LF9.cell (i := 0) rfl
  have k1 := LF9.cell (i := 1) rfl
  have k2 := LF9.cell (i := 2) rfl
  have k3 := LF9.cell (i := 3) rfl
  have k4 := LF9.cell (i := 4) rfl
  have hz1 : w1.heap.size = w.heap.size + 2 := by rw [HW1.out, World.size_alloc, World.size_alloc]
  have hz6 : w5.heap.size ≤ w6.heap.size := G67.out.1.size
  have hz := HSZ.out
  have hRw := HRW.out
  have hlo := HLO.out
  have hz45 := HZ45.out
  have L9 := g9.lies (GS.out.lies L37.out (by omega)) (by omega)
  obtain ⟨m1, m2', m3', m4', m5'⟩ := HM.out
  refine ⟨.agg #[.int .i64 K, .int .i64 0, .slice (some ⟨w6.heap.size, 0, none⟩) 2 2, .slice AS mS kS, .bool B], by simp [results, Tryz.results29, go_sem, k0, k1, k2, k3, k4], .mk K 0 B cs [x, y], some ⟨w6.heap.size, 0, none⟩, 2, 2, AS, mS, kS, s9, rfl, Lib.hid ?_, Lib.hid fun h0 => ?_, Lib.hid fun h0 => ?_, h9, HGF.out.trans g9⟩
  · rw [HS9.out, hs4.out, HGT.out, hs3.out, m4', m1]; rfl
  · obtain ⟨e4, e3, _, _, _⟩ := oper_all (l := l) (tr := Sh.tree l k) (fun s h => (Sh.tree_took l k s h).1) m1 m4' hs3.out (by rw [hs4.out, HGT.out]) HS9.out h0
    show Tr.mk (Sh.kind l s).1 0 (decide (Sh.nx l (Sh.kind l s).2 = 35)) (Sh.conj l (Sh.skip l 35 (Sh.kind l s).2)).1 [x, (Sh.tree l k (Sh.conj l (Sh.skip l 35 (Sh.kind l s).2)).2).1] = _
    rw [← m2', ← m1, ← m3', ← m4', hcs.out e3, ← hs3.out, ← HGT.out, hy.out e4]
  · obtain ⟨e4, e3, _, _, e0⟩ := oper_all (l := l) (tr := Sh.tree l k) (fun s h => (Sh.tree_took l k s h).1) m1 m4' hs3.out (by rw [hs4.out, HGT.out]) HS9.out h0
    refine TrFrom.fin (hi := w.heap.size) (m3 := w3.heap.size) (m4 := w4.heap.size) hlo.1 hlo.2 (by omega) (by omega) ?_ ?_ (by omega) (HX5.out e0) (HY5.out e4) HIN5.out L9
    · exact Nat.le_trans hz6 (Nat.le_trans G67.out.2.size (Nat.le_trans GS.out.size g9.size))
    · intro q hq h1 h2
      have q6 : q < w6.heap.size := Nat.lt_of_lt_of_le hq hz6
      have q7 := Nat.lt_of_lt_of_le q6 G67.out.2.size
      have qE := Nat.lt_of_lt_of_le q7 GS.out.size
      exact (g9.block q qE (by intro e; cases e; exact h1 rfl)).trans ((GS.out.block q q7 (by intro e; cases e; exact h2 rfl)).trans ((G67.out.2.block q q6).trans (G67.out.1.block q hq)))
end Go.Proofs.YteimbdklakemaaaGreatDoor
