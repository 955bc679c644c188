/-
  LAID TOGETHER, BY PROGRAM, of: Shz, Sia, Sib, Shx, Shy, Sic.
-/
import Derived.Test.YteimbdklakemaaaGreatDoorShdM
import Derived.Test.YteimbdklakemaaaGreatDoorShoM
import Derived.Test.YteimbdklakemaaaGreatDoorTxeM
import Derived.Test.YteimbdklakemaaaGreatDoorTrsM
import Derived.Test.YteimbdklakemaaaGreatDoorShrM
import Derived.Test.YteimbdklakemaaaGreatDoorShmM
import Derived.Test.YteimbdklakemaaaGreatDoorPredsM
import Derived.Deep.DeepCutAuto
/-
  A TREE's TEXT, WRITTEN: what a call that writes into the builder leaves; conjuncts.
-/
namespace Go.Proofs.YteimbdklakemaaaGreatDoor
open Go.RowKit Go.Sort Go.Lib
set_option maxHeartbeats 6400000

theorem rcells_enc {r : Int} (h : (0 ≤ r ∧ r ≤ 127) ∨ (2048 ≤ r ∧ r < 55296)) : rcells r = byteCells (Rn.enc r) := by
  unfold rcells byteCells
  rcases h with ⟨h0, h1⟩ | ⟨h0, h1⟩
  · obtain ⟨n, rfl⟩ : ∃ n : Nat, r = n := ⟨r.toNat, by omega⟩
    rw [if_pos h1, Rn.enc_one (by omega)]
    simp [Rn.of_nat (show n < 256 by omega)]
  · obtain ⟨n, rfl⟩ : ∃ n : Nat, r = n := ⟨r.toNat, by omega⟩
    rw [if_neg (by omega), Rn.enc_three (by omega) (by omega) (Tx.Low.valid ⟨by omega, by omega⟩)]
    simp only [List.map_cons, List.map_nil]
    rw [Rn.of_nat (show 224 + n / 4096 < 256 by omega), Rn.of_nat (show 128 + n / 64 % 64 < 256 by omega), Rn.of_nat (show 128 + n % 64 < 256 by omega)]
    simp
/-- behind a call that has written: the builder holds bs; what lay below B, and whatever is no row of bytes, is as it was -/
structure Wr (B b : Nat) (bs : List UInt8) (w w' : World) : Prop where
  bld : Bld B b (byteCells bs) w'
  low : Below B w w'
  okp : Okp b w w'
theorem Wr.trans {B b : Nat} {bs bs' : List UInt8} {w w' w'' : World} (h : Wr B b bs w w') (k : Wr B b bs' w' w'') : Wr B b bs' w w'' := ⟨k.bld, h.low.trans k.low, OthersKept.trans h.okp k.okp⟩
theorem Wr.lies {B b g : Nat} {bs : List UInt8} {w w' : World} {T : TypeId} {cs : List Value} (h : Wr B b bs w w') (hl : Lies w g T cs) (hg : g ≠ b) (hT : T ≠ 5) : Lies w' g T cs :=
  h.okp g _ hl (by intro e; exact hg (Option.some.inj e)) (by intro c fz e; cases e; exact hT rfl)
theorem Bld.grown {B b : Nat} {bs : List Value} {w w' : World} (h : Bld B b bs w) (hb : Below w.heap.size w w') : Bld B b bs w' := by
  have key : ∀ p, Lib.BuilderAtF 49 5 B b p bs w → Lib.BuilderAtF 49 5 B b p bs w' := by
    intro p h
    have hlt := h.lt
    obtain ⟨hB, v, hk, hown, hne⟩ := h
    exact ⟨hB, v, (hb.block b hlt).trans hk, hown.kept (row := none) ⟨hb.os, hb.tape, hb.output, hb.size, fun k hk _ => hb.block k hk⟩ (by cases hv : v.ownBlock <;> simp), hne⟩
  exact h.imp (key _) (key _)
theorem Okp.of {b : Nat} {w w' : World} (hb : Below w.heap.size w w') : Okp b w w' := fun k _ ho _ _ => (hb.block k (Array.getElem?_eq_some_iff.1 ho).1).trans ho
theorem Wr.grown {B b : Nat} {bs : List UInt8} {w w' w'' : World} (h : Wr B b bs w w') (hB : B ≤ w'.heap.size) (hb : Below w'.heap.size w' w'') : Wr B b bs w w'' :=
  ⟨h.bld.grown hb, h.low.trans (below_low hb hB), OthersKept.trans h.okp (Okp.of hb)⟩
theorem Wr.refl {B b : Nat} {bs : List UInt8} {w : World} (h : Bld B b (byteCells bs) w) : Wr B b bs w w := ⟨h, Below.refl _ _, OthersKept.refl _ _ _⟩
/-- WriteRune, WriteString: in bytes -/
theorem wrune_any (B b : Nat) (bs : List UInt8) (r : Int) (hr : (0 ≤ r ∧ r ≤ 127) ∨ (2048 ≤ r ∧ r < 55296)) (w : World) (h : Bld B b (byteCells bs) w) (hlen : bs.length ≤ 1000000000) (hBw : B ≤ w.heap.size) :
    Calls Tryz.prog 25 #[.pointer (some ⟨b, 0, none⟩), .int .i32 r] w fun e w' => (∃ n : Nat, e = .returned (.tuple #[.int .i64 n, .nilIface])) ∧ Wr B b (bs ++ Rn.enc r) w w' := by
  refine (brune_any B b (byteCells bs) r hr w h (by rw [byteCells_length]; omega) hBw).mono ?_
  rintro e w' ⟨rfl, h1, h2, h3⟩
  exact ⟨⟨_, rfl⟩, .inr (by rw [byteCells_append, ← rcells_enc hr]; exact h1), h2, h3⟩
theorem wrune_def (B b : Nat) (bs : List UInt8) (r : Int) (hr : (0 ≤ r ∧ r ≤ 127) ∨ (2048 ≤ r ∧ r < 55296)) (w : World) (u : FrameMode) (h : Bld B b (byteCells bs) w) (hlen : bs.length ≤ 1000000000) (hBw : B ≤ w.heap.size) :
    CallsD Tryz.prog 25 #[.pointer (some ⟨b, 0, none⟩), .int .i32 r] u w fun e u' w' => u' = u ∧ (∃ n : Nat, e = .returned (.tuple #[.int .i64 n, .nilIface])) ∧ Wr B b (bs ++ Rn.enc r) w w' := by
  refine (brune_def B b (byteCells bs) r hr w u h (by rw [byteCells_length]; omega) hBw).mono ?_
  rintro e u' w' ⟨rfl, rfl, h1, h2, h3⟩
  exact ⟨rfl, ⟨_, rfl⟩, .inr (by rw [byteCells_append, ← rcells_enc hr]; exact h1), h2, h3⟩
theorem wstring_any (B b : Nat) (bs s : List UInt8) (w : World) (h : Bld B b (byteCells bs) w) (hlen : bs.length + s.length ≤ 1000000000) (hBw : B ≤ w.heap.size) :
    Calls Tryz.prog 23 #[.pointer (some ⟨b, 0, none⟩), .string ⟨s.toArray⟩] w fun e w' => (∃ n : Nat, e = .returned (.tuple #[.int .i64 n, .nilIface])) ∧ Wr B b (bs ++ s) w w' := by
  refine (bstring_any B b (byteCells bs) ⟨s.toArray⟩ w h (by rw [byteCells_length]; show bs.length + s.length ≤ _; omega) hBw).mono ?_
  rintro e w' ⟨rfl, h1, h2, h3⟩
  exact ⟨⟨_, rfl⟩, .inr (by rw [byteCells_append]; exact h1), h2, h3⟩
theorem joined_more : ∀ (m l : List Pd), ∃ r, Tx.joined (l ++ m) = Tx.joined l ++ r := by
  intro m
  induction m with
  | nil => intro l; exact ⟨[], by simp⟩
  | cons p m ih =>
    intro l
    obtain ⟨r, hr⟩ := ih (l ++ [p])
    refine ⟨(if l = [] then [] else [59]) ++ Tx.bytes p ++ r, ?_⟩
    rw [show l ++ p :: m = (l ++ [p]) ++ m by simp, hr, Tx.joined_snoc]
    simp [List.append_assoc]
theorem joined_take_le (q : Nat) (l : List Pd) : (Tx.joined (l.take q)).length ≤ (Tx.joined l).length := by
  obtain ⟨r, hr⟩ := joined_more (l.drop q) (l.take q)
  rw [List.take_append_drop] at hr
  rw [hr, List.length_append]
  omega
end Go.Proofs.YteimbdklakemaaaGreatDoor

/-
  A TREE's TEXT, WRITTEN: the conjuncts.
-/
namespace Go.Proofs.YteimbdklakemaaaGreatDoor
open Go.RowKit Go.Sort
set_option maxHeartbeats 6400000

theorem enc59 : Rn.enc 59 = [59] := by have := Rn.enc_one (r := 59) (by decide); exact this
theorem told_bytes {p : Pd} (h : Pr.rightAt p 1 = true) : Tx.told p = Tx.bytes p := by unfold Tx.told; rw [if_pos h]
theorem sizes_one (k : Nat) : ∀ (p : Pd) (d : Nat), 5 ≤ d + k → Pr.rightAt p d = true → Pr.size p ≤ 5 ^ k := by
  induction k with
  | zero =>
    intro p d hd h
    obtain ⟨f, ps⟩ := p
    have := (Tx.kinds h).1
    omega
  | succ k ih =>
    intro p d hd h
    obtain ⟨f, ps⟩ := p
    obtain ⟨_, hk⟩ := Tx.kinds h
    have h5 : 1 ≤ 5 ^ k := Nat.pos_of_ne_zero (by simp)
    have sl : ∀ l : List Pd, (∀ p ∈ l, Pr.size p ≤ 5 ^ k) → Pr.sizes l ≤ l.length * 5 ^ k := by
      intro l
      induction l with
      | nil => intro _; rw [Pr.sizes]; exact Nat.zero_le _
      | cons p r ihl =>
        intro h
        rw [Pr.sizes, List.length_cons, Nat.succ_mul]
        have h1 := h p List.mem_cons_self
        have h2 := ihl fun q hq => h q (List.mem_cons_of_mem _ hq)
        omega
    rw [Pr.size, Nat.pow_succ]
    have hs : Pr.sizes ps ≤ 4 * 5 ^ k := by
      have key : ps.length ≤ 4 → Pr.rightAts ps (d + 1) = true → Pr.sizes ps ≤ 4 * 5 ^ k := fun hl hr =>
        Nat.le_trans (sl ps fun q hq => ih q (d + 1) (by omega) ((Pr.rightAts_iff _ _).1 hr q hq)) (Nat.mul_le_mul_right _ hl)
      have z0 : ps = [] → Pr.sizes ps ≤ 4 * 5 ^ k := fun h => by rw [h, Pr.sizes]; exact Nat.zero_le _
      rcases hk with ⟨_, _, _, _, h0⟩ | ⟨_, _, _, _, _, _, _, _, h0⟩ | ⟨_, _, _, h0⟩ | ⟨_, hl, hr⟩ | ⟨_, hl, hr⟩
      · exact z0 h0
      · exact z0 h0
      · exact z0 h0
      · exact key hl hr
      · exact key (by omega) hr
    omega
theorem size_small {p : Pd} (h : Pr.rightAt p 1 = true) : Pr.size p ≤ 1000000 := Nat.le_trans (sizes_one 4 p 1 (by decide) h) (by decide)
set_option maxRecDepth 100000 in
theorem wconj_any (d B b : Nat) (bs : List UInt8) (A : Option Addr) (c : Nat) (cs : List Pd) (w0 w : World) (hu : PsAt d w0 (.slice A cs.length c) cs) (h0 : Below w0.heap.size w0 w) (hB0 : w0.heap.size ≤ B) (hP : Pows w0) (hr : ∀ p ∈ cs, Pr.rightAt p 1 = true) (hw : Tx.wfs cs) (h : Bld B b (Lib.byteCells bs) w) (hBw : B ≤ w.heap.size)
    (hlen : bs.length + (Tx.joined cs).length ≤ 100000000) (hnb : cs.length ≤ 1000000) :
    Calls Tryz.prog 26 #[.pointer (some ⟨b, 0, none⟩), .slice A cs.length c] w fun e w' => e = .returned (.tuple #[]) ∧ Wr B b (bs ++ ([91] ++ (Tx.joined cs ++ [93]))) w w' := by
  obtain ⟨_, _, _, hl⟩ := hu.form
  obtain ⟨n, hn⟩ : ∃ n, n = cs.length := ⟨_, rfl⟩
  have c1 := wrune_any B b bs 91 (by decide) w h (by omega) hBw
  have HU := Lib.hid hu
  have HP := Lib.hid hP
  have H0 := Lib.hid h0
  have HB := Lib.hid (And.intro hB0 hBw)
  have HR := Lib.hid hr
  have HWF := Lib.hid hw
  have HLEN := Lib.hid hlen
  have HNB := Lib.hid hnb
  rw [← hn] at hl HU HNB ⊢
  have HN := Lib.hid hn
  clear hu hP h0 hB0 hBw hr hw h hlen hn hnb
  go_enter_defers Tryz.func26, Tryz.ntmps26
  go_wp2_with (fail)
  refine c1.mono ?_
  rintro e w1 ⟨⟨n1, rfl⟩, h1⟩
  have H1 := Lib.hid h1
  clear c1 h1
  go_wp2_with (fail)
  go_loopw [13] (fun v wr => ∃ q : Nat, v = .int .i64 q ∧ q ≤ n ∧ Wr B b (bs ++ ([91] ++ Tx.joined (cs.take q))) w wr) (fun v _ => n - (intOf v).toNat)
  case atStart => exact ⟨0, rfl, Nat.zero_le _, by rw [List.take_zero, Tx.joined_nil, List.append_nil]; exact H1.out⟩
  case round =>
    obtain ⟨q, rfl, hq, hwr⟩ := hrel
    clear H1
    have hBr : B ≤ wr.heap.size := Nat.le_trans HB.out.2 hwr.low.size
    by_cases hlt : q < n
    · obtain ⟨p, gp⟩ : ∃ p, cs[q]? = some p := ⟨cs[q]'(by have := HN.out; omega), List.getElem?_eq_getElem _⟩
      have hu := HU.out
      rw [HN.out] at hu
      obtain ⟨e, b', o, s, v, he, rfl, hblt, hx⟩ := hu.at_ gp
      have hb0r : Below w0.heap.size w0 wr := H0.out.trans (below_low hwr.low HB.out.1)
      obtain ⟨ha, hf1⟩ := hx wr hb0r
      obtain ⟨A2, c2, rfl, _⟩ := hf1.form
      have hpm := List.mem_of_getElem? gp
      have hpr := HR.out p hpm
      have hpe : Pd.mk p.f p.ps = p := by cases p; rfl
      have hpw : Tx.wf p := Tx.wfs_at HWF.out p hpm
      have hjl := joined_take_le (q + 1) cs
      have htake : cs.take (q + 1) = cs.take q ++ [p] := by rw [List.take_add_one, gp]; rfl
      rw [htake, Tx.joined_snoc] at hjl
      have htn : cs.take q = [] ↔ q = 0 := by
        rw [List.take_eq_nil_iff]
        constructor
        · rintro (h | h)
          · exact h
          · rw [h] at gp; simp at gp
        · exact fun h => .inl h
      obtain ⟨o1, ho1⟩ : ∃ o1, o1 = Obj.cells #[.int .i64 p.f.k, .int .i64 p.f.u, .int .i64 p.f.o, .int .i64 p.f.a.k, .int .i64 p.f.a.t, .int .i64 p.f.a.c, .bool p.f.a.z, .int .i64 p.f.a.n, .int .i64 p.f.b.k, .int .i64 p.f.b.t, .int .i64 p.f.b.c, .bool p.f.b.z, .int .i64 p.f.b.n, .slice A2 p.ps.length c2] 43 := ⟨_, rfl⟩
      have hb1 : Below wr.heap.size wr (wr.alloc o1) := below_new _ _
      have l1 : Lies (wr.alloc o1) wr.heap.size 43 [.int .i64 p.f.k, .int .i64 p.f.u, .int .i64 p.f.o, .int .i64 p.f.a.k, .int .i64 p.f.a.t, .int .i64 p.f.a.c, .bool p.f.a.z, .int .i64 p.f.a.n, .int .i64 p.f.b.k, .int .i64 p.f.b.t, .int .i64 p.f.b.c, .bool p.f.b.z, .int .i64 p.f.b.n, .slice A2 p.ps.length c2] := by rw [ho1]; exact Lies.new _ _ _
      have hW1 := hwr.grown hBr hb1
      have hbne : wr.heap.size ≠ b := by
        have := hwr.bld
        rcases this with h | h
        · have := h.lt; omega
        · have := h.lt; omega
      have ct : ∀ W, Below w0.heap.size w0 W → Calls Tryz.prog 35 #[.agg #[.int .i64 p.f.k, .int .i64 p.f.u, .int .i64 p.f.o, .int .i64 p.f.a.k, .int .i64 p.f.a.t, .int .i64 p.f.a.c, .bool p.f.a.z, .int .i64 p.f.a.n, .int .i64 p.f.b.k, .int .i64 p.f.b.t, .int .i64 p.f.b.c, .bool p.f.b.z, .int .i64 p.f.b.n, .slice A2 p.ps.length c2]] W fun e w' => e = .returned (.tuple #[.string ⟨(Tx.bytes p).toArray⟩, .int .i64 0]) ∧ Below W.heap.size W w' := by
        intro W hW
        have := tpred_any e p.f (.slice A2 p.ps.length c2) p.ps W (hx W hW).2 (by rw [hpe]; exact hpw) (by rw [hpe]; exact size_small hpr) (HP.out.below hW (Nat.le_refl _))
        rw [hpe, told_bytes hpr, if_pos hpr] at this
        exact this
      obtain ⟨X, hX⟩ : ∃ X, X = Tx.bytes p := ⟨_, rfl⟩
      rw [← hX] at ct hjl
      have HCT := Lib.hid ct
      have HTK := Lib.hid (show Tx.joined (cs.take (q + 1)) = Tx.joined (cs.take q) ++ (if cs.take q = [] then [] else [59]) ++ X by rw [htake, Tx.joined_snoc, hX])
      have HHB := Lib.hid hb0r
      have HGP := Lib.hid gp
      have HO1 := Lib.hid ho1
      have hlen1 : (bs ++ ([91] ++ Tx.joined (cs.take q))).length ≤ 100000001 := by
        have := joined_take_le q cs
        have := HLEN.out
        simp only [List.length_append, List.length_cons, List.length_nil]
        omega
      have hlen2 : (bs ++ ([91] ++ Tx.joined (cs.take q)) ++ (if cs.take q = [] then [] else [59])).length + X.length ≤ 100000001 := by
        have := HLEN.out
        simp only [List.length_append, List.length_cons, List.length_nil] at hjl ⊢
        omega
      obtain ⟨ww, hww⟩ : ∃ ww, ww = wr.alloc o1 := ⟨_, rfl⟩
      have hbw : B ≤ ww.heap.size := by rw [hww]; exact Nat.le_trans hBr hb1.size
      rw [← hww] at l1 hW1 hb1
      have HWW := Lib.hid hww
      have HLN := Lib.hid (And.intro hlen1 hlen2)
      have HTN := Lib.hid htn
      have HLT := Lib.hid hlt
      have HWR := Lib.hid hwr
      obtain ⟨a0, a1, a2, a3, a4, a5, a6, a7, a8, a9, a10, a11, a12, a13⟩ := ha
      clear gp hu hx hf1 hblt hpm hpr hpe hpw hjl htake ho1 hww hX htn hwr hb0r ct
      go_upto_region 5 with (fail)
      rw [← HO1.out, ← HWW.out]
      by_cases hq0 : q = 0
      · have e1 : decide (0 < (q : Int)) = false := by simp; omega
        have e1n : decide (0 < q) = false := by simp; omega
        have hnil := (HTN.out).2 hq0
        have HNIL := Lib.hid hnil
        have cp := HCT.out ww (HHB.out.trans (below_low hb1 (by have := HHB.out.size; omega)))
        have cw := fun W (hW : Below ww.heap.size ww W) => wstring_any B b (bs ++ ([91] ++ Tx.joined (cs.take q))) X W (hW1.bld.grown hW) (by have := HLN.out.2; rw [hnil, if_pos rfl, List.append_nil] at this; omega) (Nat.le_trans hbw hW.size)
        have HW1 := Lib.hid hW1
        have HHW := Lib.hid hbw
        have y0 := l1.cell (i := 0) rfl
        have y1 := l1.cell (i := 1) rfl
        have y2 := l1.cell (i := 2) rfl
        have y3 := l1.cell (i := 3) rfl
        have y4 := l1.cell (i := 4) rfl
        have y5 := l1.cell (i := 5) rfl
        have y6 := l1.cell (i := 6) rfl
        have y7 := l1.cell (i := 7) rfl
        have y8 := l1.cell (i := 8) rfl
        have y9 := l1.cell (i := 9) rfl
        have y10 := l1.cell (i := 10) rfl
        have y11 := l1.cell (i := 11) rfl
        have y12 := l1.cell (i := 12) rfl
        have y13 := l1.cell (i := 13) rfl
        clear hq0 hnil hlen1 hlen2 hW1 l1 hb1 a0 a1 a2 a3 a4 a5 a6 a7 a8 a9 a10 a11 a12 a13
        go_wp2_with (fail)
        refine cp.mono ?_
        rintro e w3 ⟨rfl, hb3⟩
        have cw3 := cw w3 hb3
        clear cw cp y0 y1 y2 y3 y4 y5 y6 y7 y8 y9 y10 y11 y12 y13
        go_wp2_with (fail)
        refine cw3.mono ?_
        rintro e w4 ⟨⟨n4, rfl⟩, h4⟩
        have hfin := (HW1.out.grown HHW.out hb3).trans h4
        have HF := Lib.hid (show Wr B b (bs ++ ([91] ++ Tx.joined (cs.take (q + 1)))) w w4 by
          rw [HTK.out, HNIL.out, if_pos rfl, List.append_nil]
          rw [show bs ++ ([91] ++ (Tx.joined [] ++ X)) = bs ++ ([91] ++ Tx.joined []) ++ X by simp]
          rw [HNIL.out] at hfin
          exact hfin)
        clear cw3 hfin h4 hb3 hbw hbne
        have hqb : q ≤ 1000000 := by have := HNB.out; omega
        clear hq
        go_wp2_with (fail)
        go_roundw
        case rel => exact ⟨q + 1, by first | rfl | simp, HLT.out, HF.out⟩
        case measure => have hz := HLT.out; simp [intOf]; omega
      · have e1 : decide (0 < (q : Int)) = true := by simp; omega
        have e1n : decide (0 < q) = true := by simp; omega
        have hnil : cs.take q ≠ [] := fun h => hq0 ((HTN.out).1 h)
        have HNIL := Lib.hid hnil
        have cr := wrune_any B b (bs ++ ([91] ++ Tx.joined (cs.take q))) 59 (by decide) ww hW1.bld (by omega) hbw
        have HW1 := Lib.hid hW1
        have HHW := Lib.hid hbw
        have L1 := Lib.hid l1
        have HH1 := Lib.hid hb1
        clear hq0 hnil hlen1 hlen2 hW1 l1 a0 a1 a2 a3 a4 a5 a6 a7 a8 a9 a10 a11 a12 a13 hb1
        go_wp2_with (fail)
        refine cr.mono ?_
        rintro e w2 ⟨⟨n2, rfl⟩, h2⟩
        have l2 := h2.lies L1.out hbne (by decide)
        have hb02 : Below w0.heap.size w0 w2 := (HHB.out.trans (below_low HH1.out (by have := HHB.out.size; omega))).trans (below_low h2.low HB.out.1)
        have cp := HCT.out w2 hb02
        have hB2 : B ≤ w2.heap.size := Nat.le_trans HHW.out h2.low.size
        have cw := fun W (hW : Below w2.heap.size w2 W) => wstring_any B b (bs ++ ([91] ++ Tx.joined (cs.take q)) ++ Rn.enc 59) X W (h2.bld.grown hW) (by
          have := HLN.out.2
          rw [if_neg HNIL.out] at this
          have e59 : (Rn.enc 59).length = 1 := by rw [enc59]; rfl
          simp only [List.length_append, List.length_cons, List.length_nil] at this ⊢
          rw [e59]
          omega) (Nat.le_trans hB2 hW.size)
        have H2 := Lib.hid h2
        have HB2 := Lib.hid hB2
        have y0 := l2.cell (i := 0) rfl
        have y1 := l2.cell (i := 1) rfl
        have y2 := l2.cell (i := 2) rfl
        have y3 := l2.cell (i := 3) rfl
        have y4 := l2.cell (i := 4) rfl
        have y5 := l2.cell (i := 5) rfl
        have y6 := l2.cell (i := 6) rfl
        have y7 := l2.cell (i := 7) rfl
        have y8 := l2.cell (i := 8) rfl
        have y9 := l2.cell (i := 9) rfl
        have y10 := l2.cell (i := 10) rfl
        have y11 := l2.cell (i := 11) rfl
        have y12 := l2.cell (i := 12) rfl
        have y13 := l2.cell (i := 13) rfl
        clear cr l2 h2 hb02 hB2
        go_wp2_with (fail)
        refine cp.mono ?_
        rintro e w3 ⟨rfl, hb3⟩
        have cw3 := cw w3 hb3
        clear cw cp y0 y1 y2 y3 y4 y5 y6 y7 y8 y9 y10 y11 y12 y13
        go_wp2_with (fail)
        refine cw3.mono ?_
        rintro e w4 ⟨⟨n4, rfl⟩, h4⟩
        have hfin := HW1.out.trans ((H2.out.grown HB2.out hb3).trans h4)
        have HF := Lib.hid (show Wr B b (bs ++ ([91] ++ Tx.joined (cs.take (q + 1)))) w w4 by
          rw [HTK.out, if_neg HNIL.out]
          have e59 : Rn.enc 59 = [59] := by have := Rn.enc_one (r := 59) (by decide); exact this
          rw [e59] at hfin
          rw [show bs ++ ([91] ++ (Tx.joined (cs.take q) ++ [59] ++ X)) = bs ++ ([91] ++ Tx.joined (cs.take q)) ++ [59] ++ X by simp]
          exact hfin)
        clear cw3 hfin h4 hb3 hbw hbne
        have hqb : q ≤ 1000000 := by have := HNB.out; omega
        clear hq
        go_wp2_with (fail)
        go_roundw
        case rel => exact ⟨q + 1, by first | rfl | simp, HLT.out, HF.out⟩
        case measure => have hz := HLT.out; simp [intOf]; omega
    · obtain rfl : q = n := by omega
      have hfull : cs.take q = cs := by rw [HN.out]; exact List.take_length
      rw [hfull] at hwr
      have cd := wrune_def B b (bs ++ ([91] ++ Tx.joined cs)) 93 (by decide) wr .returning hwr.bld (by have := HLEN.out; simp only [List.length_append, List.length_cons, List.length_nil]; omega) hBr
      have HWR := Lib.hid hwr
      clear hfull hwr hBr
      go_wp2_with (fail)
      refine leaves_cons (f := 25) (args := #[.pointer (some ⟨b, 0, none⟩), .int .i32 93]) (by simp) (by simp [go_sem]) ?_
      refine cd.mono ?_
      rintro E u' w3 ⟨rfl, ⟨n3, rfl⟩, h3⟩
      have e93 : Rn.enc 93 = [93] := by have := Rn.enc_one (r := 93) (by decide); exact this
      rw [e93] at h3
      refine ⟨_, results_none rfl _ _ _, rfl, ?_⟩
      show Wr B b (bs ++ ([91] ++ (Tx.joined cs ++ [93]))) w w3
      rw [show bs ++ ([91] ++ (Tx.joined cs ++ [93])) = bs ++ ([91] ++ Tx.joined cs) ++ [93] by simp]
      exact HWR.out.trans h3
end Go.Proofs.YteimbdklakemaaaGreatDoor

/-
  A TREE's TEXT, WRITTEN: a tree.
-/
namespace Go.Proofs.YteimbdklakemaaaGreatDoor
open Go.RowKit Go.Sort
set_option maxHeartbeats 6400000

theorem enc40 : Rn.enc 40 = [40] := by have := Rn.enc_one (r := 40) (by decide); exact this
theorem enc41 : Rn.enc 41 = [41] := by have := Rn.enc_one (r := 41) (by decide); exact this
theorem enc35 : Rn.enc 35 = [35] := by have := Rn.enc_one (r := 35) (by decide); exact this
theorem encs_c (r : Int) (l : List Int) : Rn.encs (r :: l) = Rn.enc r ++ Rn.encs l := by unfold Rn.encs; rw [List.flatMap_cons]
theorem bytesT_leaf (t : Int) (h : Bool) (cs : List Pd) (ks : List Tr) : Sh.bytesT (.mk 0 t h cs ks) = Lib.itoa t := by
  unfold Sh.bytesT; rw [Sh.txt_leaf, Tx.encs_whole]
theorem bytesT_op {k t : Int} (h : Bool) (cs : List Pd) (x y : Tr) (hk : k ≠ 0) : Sh.bytesT (.mk k t h cs [x, y]) = [40] ++ (Sh.bytesT x ++ (Rn.enc (Sh.sgn k) ++ ((if h then [35] else []) ++ ([91] ++ (Tx.joined cs ++ ([93] ++ (Sh.bytesT y ++ [41]))))))) := by
  unfold Sh.bytesT Tx.joined
  rw [Sh.txt_op _ _ _ _ hk]
  have e91 : Rn.enc 91 = [91] := by have := Rn.enc_one (r := 91) (by decide); exact this
  have e93 : Rn.enc 93 = [93] := by have := Rn.enc_one (r := 93) (by decide); exact this
  have eh : Rn.encs (if h then [35] else []) = if h then [35] else [] := by
    cases h
    · rfl
    · show Rn.encs [35] = [35]; rw [encs_c, enc35]; rfl
  simp only [Rn.encs_app, Tx.encs_one, enc40, enc41, e91, e93, eh]
theorem Pows.up {w w' : World} (h : Pows w) (hb : Below w.heap.size w w') : Pows w' := h.below hb (Nat.le_refl _)
theorem sgn_range {k : Int} (h1 : 1 ≤ k) (h4 : k ≤ 4) : (0 ≤ Sh.sgn k ∧ Sh.sgn k ≤ 127) ∨ (2048 ≤ Sh.sgn k ∧ Sh.sgn k < 55296) := by
  rcases (show k = 1 ∨ k = 2 ∨ k = 3 ∨ k = 4 by omega) with rfl | rfl | rfl | rfl <;> decide
set_option maxRecDepth 100000 in
theorem write_at (d : Nat) : ∀ (a : Tr) (n : Nat) (AU : Option Addr) (kU : Nat) (AV : Option Addr) (kV B b : Nat) (bs : List UInt8) (w0 w : World), Sh.Form a n → Sh.wfT a → TsAt d w0 (.slice AU a.ks.length kU) a.ks → PsSome w0 (.slice AV a.cs.length kV) a.cs →
    Below w0.heap.size w0 w → w0.heap.size ≤ B → Pows w0 → Sgn w0 → Bld B b (Lib.byteCells bs) w → B ≤ w.heap.size → bs.length + (Sh.bytesT a).length ≤ 100000000 →
    Calls Tryz.prog 13 #[.pointer (some ⟨b, 0, none⟩), .agg #[.int .i64 a.k, .int .i64 a.t, .slice AU a.ks.length kU, .slice AV a.cs.length kV, .bool a.h]] w fun e w' => e = .returned (.tuple #[]) ∧ Wr B b (bs ++ Sh.bytesT a) w w' := by
  induction d using Nat.strongRecOn with
  | ind d ih =>
  intro a n AU kU AV kV B b bs w0 w hf hwf hu hv h0 hB0 hP hS h hBw hlen
  obtain ⟨o0, ho0⟩ : ∃ o0, o0 = Obj.cells #[.int .i64 a.k, .int .i64 a.t, .slice AU a.ks.length kU, .slice AV a.cs.length kV, .bool a.h] 25 := ⟨_, rfl⟩
  have hb1 : Below w.heap.size w (w.alloc o0) := below_new _ _
  have l1 : Lies (w.alloc o0) w.heap.size 25 [.int .i64 a.k, .int .i64 a.t, .slice AU a.ks.length kU, .slice AV a.cs.length kV, .bool a.h] := by rw [ho0]; exact Lies.new _ _ _
  have hbne : w.heap.size ≠ b := by
    rcases h with h | h
    · have := h.lt; omega
    · have := h.lt; omega
  have hW1 : Wr B b bs w (w.alloc o0) := (Wr.refl h).grown hBw hb1
  have h01 : Below w0.heap.size w0 (w.alloc o0) := h0.trans (below_low hb1 (by have := h0.size; omega))
  obtain ⟨w1, hw1⟩ : ∃ w1, w1 = w.alloc o0 := ⟨_, rfl⟩
  rw [← hw1] at hb1 l1 hW1 h01
  have hB1 : B ≤ w1.heap.size := Nat.le_trans hBw hb1.size
  have HO := Lib.hid ho0
  have HW := Lib.hid hw1
  cases hf with
  | leaf t ht0 ht1 =>
    rw [bytesT_leaf] at hlen ⊢
    have ci := itoa_any t w1 ⟨by omega, by omega⟩ (hP.up h01)
    have cw := fun W (hb : Below w1.heap.size w1 W) => wstring_any B b bs (Lib.itoa t) W (hW1.bld.grown hb) (by omega) (Nat.le_trans hB1 hb.size)
    obtain ⟨I, hI⟩ : ∃ I, I = Lib.itoa t := ⟨_, rfl⟩
    rw [← hI] at ci cw ⊢
    have HW1 := Lib.hid hW1
    have HB1 := Lib.hid hB1
    dsimp only [Tr.k, Tr.t, Tr.h, Tr.cs, Tr.ks] at HO l1 ⊢
    rw [show ([] : List Tr).length = 0 from rfl, show ([] : List Pd).length = 0 from rfl] at HO l1 ⊢
    have x0 := l1.cell (i := 0) rfl
    have x1 := l1.cell (i := 1) rfl
    clear hlen hI hW1 hB1 h h0 hB0 hP hS hBw hwf hu hv l1 hb1 h01 ho0 hw1 hbne ih
    go_enter_defers Tryz.func13, Tryz.ntmps13
    go_upto_region 1 with (fail)
    rw [← HO.out, ← HW.out]
    go_wp2_with (fail)
    refine ci.mono ?_
    rintro e w2 ⟨rfl, hb2⟩
    have cw2 := cw w2 hb2
    clear ci cw x0 x1
    go_wp2_with (fail)
    refine cw2.mono ?_
    rintro e w3 ⟨⟨n3, rfl⟩, h3⟩
    clear cw2
    go_wp2_with (fail)
    refine ⟨_, results_none rfl _ _ _, rfl, ?_⟩
    exact (HW1.out.grown HB1.out hb2).trans h3
  | op k hh cs x y m n' hk1 hk4 hc1 hc2 hr ha hb =>
    rw [bytesT_op _ _ _ _ (by omega)] at hlen ⊢
    rw [Sh.wfT, Sh.wfTs, Sh.wfTs, Sh.wfTs] at hwf
    obtain ⟨wc, wx, wy, _⟩ := hwf
    obtain ⟨kn, rfl⟩ : ∃ kn : Nat, k = kn := ⟨k.toNat, by omega⟩
    dsimp only [Tr.k, Tr.t, Tr.h, Tr.cs, Tr.ks] at HO l1 hu hv hlen ⊢
    have hn2 : [x, y].length = 2 := rfl
    rw [hn2] at HO l1 ⊢
    have hl8 : bs.length + (Sh.bytesT x).length + (Sh.bytesT y).length + (Tx.joined cs).length + (Rn.enc (Sh.sgn kn)).length + 4 ≤ 100000000 := by
      simp only [List.length_append, List.length_cons, List.length_nil] at hlen
      omega
    have hl9 : hh = true → bs.length + (Sh.bytesT x).length + (Sh.bytesT y).length + (Tx.joined cs).length + (Rn.enc (Sh.sgn kn)).length + 5 ≤ 100000000 := by
      rintro rfl
      simp only [List.length_append, List.length_cons, List.length_nil, if_true] at hlen
      omega
    have HL9 := Lib.hid hl9
    clear hl9
    obtain ⟨ex, b0, p0, s0, xu, xv, hex, hA0, hlt0, hx⟩ := hu.at_ (j := 0) (a := x) rfl
    obtain ⟨ey, b2, p2, s2, yu, yv, hey, hA2, hlt2, hy⟩ := hu.at_ (j := 1) (a := y) rfl
    obtain ⟨rfl⟩ := hA0
    obtain ⟨rfl, rfl, rfl⟩ : b0 = b2 ∧ p0 = p2 ∧ s0 = s2 := by cases hA2; exact ⟨rfl, rfl, rfl⟩
    obtain ⟨dv, hv1⟩ := hv
    obtain ⟨hx00, hpx0, htx0⟩ := hx w0 (Below.refl _ _)
    obtain ⟨AX, cX, rfl, _⟩ := htx0.form
    obtain ⟨dx2, hpx1⟩ := hpx0
    obtain ⟨AX2, cX2, rfl, _⟩ := hpx1.form
    obtain ⟨hy00, hpy0, hty0⟩ := hy w0 (Below.refl _ _)
    obtain ⟨AY, cY, rfl, _⟩ := hty0.form
    obtain ⟨dy2, hpy1⟩ := hpy0
    obtain ⟨AY2, cY2, rfl, _⟩ := hpy1.form
    have HTX := Lib.hid (And.intro htx0 (And.intro hpx1 (And.intro hty0 hpy1)))
    clear hx00 hy00 htx0 hpx1 hty0 hpy1
    have c1 := wrune_any B b bs 40 (by decide) w1 hW1.bld (by omega) hB1
    rw [enc40] at c1
    have HX := Lib.hid hx
    have HY := Lib.hid hy
    have HE := Lib.hid (And.intro hex hey)
    have HV := Lib.hid hv1
    have HF := Lib.hid (And.intro ha (And.intro hb (And.intro wx (And.intro wy wc))))
    have HC := Lib.hid (And.intro hc1 (And.intro hc2 hr))
    have HP := Lib.hid (And.intro hP hS)
    have HB := Lib.hid (And.intro hB0 hB1)
    have H01 := Lib.hid h01
    have HW1 := Lib.hid hW1
    have HL8 := Lib.hid hl8
    have L1 := Lib.hid l1
    have IH := Lib.hid ih
    have HNE := Lib.hid hbne
    have HBW := Lib.hid hBw
    have HB0 := Lib.hid h0
    have HK := Lib.hid (And.intro hk1 hk4)
    have dk : decide ((kn : Int) = 0) = false := by simp; omega
    have dk2 : ((kn : Int) == 0) = false := by simp; omega
    have dk3 : ¬ kn = 0 := by omega
    have dk6 : decide (kn = 0) = false := by simp; omega
    have dk5 : kn ≤ 4 := by omega
    have hsr := sgn_range hk1 hk4
    have HSR := Lib.hid hsr
    clear hsr
    have x0 := l1.cell (i := 0) rfl
    clear hlen hW1 h h0 hB0 hP hS hBw hu hv1 l1 hb1 h01 ho0 hw1 hbne ih hx hy hex hey ha hb wx wy wc hc1 hc2 hr hB1 hl8 hA2 hk1 hk4
    go_enter_defers Tryz.func13, Tryz.ntmps13
    go_upto_region 1 with (fail)
    rw [← HO.out, ← HW.out]
    go_wp2_with (fail)
    refine c1.mono ?_
    rintro e w2 ⟨⟨n2, rfl⟩, h2⟩
    have l2 := h2.lies L1.out HNE.out (by decide)
    have h02 : Below w0.heap.size w0 w2 := H01.out.trans (below_low h2.low HB.out.1)
    have hB2 : B ≤ w2.heap.size := Nat.le_trans HB.out.2 h2.low.size
    have cx := IH.out ex HE.out.1 x m AX cX AX2 cX2 B b (bs ++ [40]) w0 w2 HF.out.1 HF.out.2.2.1 HTX.out.1 ⟨dx2, HTX.out.2.1⟩ h02 HB.out.1 HP.out.1 HP.out.2 h2.bld hB2 (by have := HL8.out; simp only [List.length_append, List.length_cons, List.length_nil]; omega)
    obtain ⟨hc, _, _⟩ := HX.out w2 h02
    rw [show ((⟨b0, p0, s0⟩ : Addr).add (0 * 5)) = ⟨b0, p0, s0⟩ from rfl] at hc
    obtain ⟨z0, z1, z2, z3, z4⟩ := hc
    dsimp only at z1 z2 z3 z4
    have y2 := l2.cell (i := 2) rfl
    have H2 := Lib.hid (HW1.out.trans h2)
    have L2 := Lib.hid l2
    clear c1 x0 h2 l2 h02 hB2
    go_wp2_with (fail)
    refine cx.mono ?_
    rintro e w3 ⟨rfl, h3⟩
    have l3 := h3.lies L2.out HNE.out (by decide)
    have t3 := H2.out.trans h3
    have hB3 : B ≤ w3.heap.size := Nat.le_trans HBW.out t3.low.size
    have h03 : Below w0.heap.size w0 w3 := HB0.out.trans (below_low t3.low HB.out.1)
    have hsg := (HP.out.2.below h03 (Nat.le_refl _)) kn dk5
    have y0 := l3.cell (i := 0) rfl
    have y4 := l3.cell (i := 4) rfl
    have cr := wrune_any B b (bs ++ [40] ++ Sh.bytesT x) (Sh.sgn kn) HSR.out w3 t3.bld (by have := HL8.out; simp only [List.length_append, List.length_cons, List.length_nil]; omega) hB3
    have T3 := Lib.hid t3
    have L3 := Lib.hid l3
    clear cx z0 z1 z2 z3 z4 y2 h3 l3 t3 hB3 h03 H2 L2
    go_wp2_with (fail)
    refine cr.mono ?_
    rintro e w4 ⟨⟨n4, rfl⟩, h4⟩
    have l4 := h4.lies L3.out HNE.out (by decide)
    have T4 := Lib.hid (T3.out.trans h4)
    have esz : (Rn.enc (Sh.sgn kn)).length ≤ 4 := by have := (Rn.enc_size (r := (Sh.sgn kn).toNat) (by rw [show (((Sh.sgn kn).toNat : Nat) : Int) = Sh.sgn kn by have := HSR.out; omega]; exact Tx.Low.valid ⟨by have := HSR.out; omega, by have := HSR.out; omega⟩)).2; rw [show (((Sh.sgn kn).toNat : Nat) : Int) = Sh.sgn kn by have := HSR.out; omega] at this; exact this
    have ESZ2 := Lib.hid esz
    clear cr hsg y0 y4 h4 esz
    cases hh
    · have HL7 := HL8
      have y4 := l4.cell (i := 4) rfl
      have y3 := l4.cell (i := 3) rfl
      have hB4 : B ≤ w4.heap.size := Nat.le_trans HBW.out T4.out.low.size
      have h04 : Below w0.heap.size w0 w4 := HB0.out.trans (below_low T4.out.low HB.out.1)
      have cc := wconj_any dv B b (bs ++ [40] ++ Sh.bytesT x ++ Rn.enc (Sh.sgn kn)) AV kV cs w0 w4 HV.out h04 HB.out.1 HP.out.1 HC.out.2.2 HF.out.2.2.2.2 T4.out.bld hB4 (by have := HL8.out; have := HL7.out; simp only [List.length_append, List.length_cons, List.length_nil]; omega) (by have := HC.out.2.1; omega)
      have L4 := Lib.hid l4
      clear l4 hB4 h04
      go_wp2_with (fail)
      refine cc.mono ?_
      rintro e w6 ⟨rfl, h6⟩
      have l6 := h6.lies L4.out HNE.out (by decide)
      have T6 := Lib.hid (T4.out.trans h6)
      have y2 := l6.cell (i := 2) rfl
      have hB6 : B ≤ w6.heap.size := Nat.le_trans HBW.out T6.out.low.size
      have h06 : Below w0.heap.size w0 w6 := HB0.out.trans (below_low T6.out.low HB.out.1)
      have cy := IH.out ey HE.out.2 y n' AY cY AY2 cY2 B b ((bs ++ [40] ++ Sh.bytesT x ++ Rn.enc (Sh.sgn kn)) ++ ([91] ++ (Tx.joined cs ++ [93]))) w0 w6 HF.out.2.1 HF.out.2.2.2.1 HTX.out.2.2.1 ⟨dy2, HTX.out.2.2.2⟩ h06 HB.out.1 HP.out.1 HP.out.2 T6.out.bld hB6 (by have := HL8.out; have := HL7.out; simp only [List.length_append, List.length_cons, List.length_nil]; omega)
      obtain ⟨hc, _, _⟩ := HY.out w6 h06
      rw [show ((⟨b0, p0, s0⟩ : Addr).add (1 * 5)) = ⟨b0, p0 + 5, none⟩ from rfl] at hc
      obtain ⟨z0, z1, z2, z3, z4⟩ := hc
      dsimp only at z1 z2 z3 z4
      clear cc h6 y3 l6 hB6 h06
      go_wp2_with (fail)
      refine cy.mono ?_
      rintro e w7 ⟨rfl, h7⟩
      have T7 := Lib.hid (T6.out.trans h7)
      have hB7 : B ≤ w7.heap.size := Nat.le_trans HBW.out T7.out.low.size
      have cd := wrune_def B b ((bs ++ [40] ++ Sh.bytesT x ++ Rn.enc (Sh.sgn kn)) ++ ([91] ++ (Tx.joined cs ++ [93])) ++ Sh.bytesT y) 41 (by decide) w7 .returning T7.out.bld (by have := HL8.out; have := HL7.out; simp only [List.length_append, List.length_cons, List.length_nil]; omega) hB7
      clear cy z0 z1 z2 z3 z4 y2 h7 hB7
      go_wp2_with (fail)
      refine leaves_cons (f := 25) (args := #[.pointer (some ⟨b, 0, none⟩), .int .i32 41]) (by simp) (by simp [go_sem]) ?_
      refine cd.mono ?_
      rintro E u' w8 ⟨rfl, ⟨n8, rfl⟩, h8⟩
      rw [enc41] at h8
      refine ⟨_, results_none rfl _ _ _, rfl, ?_⟩
      have hfin := T7.out.trans h8
      have e : bs ++ ([40] ++ (Sh.bytesT x ++ (Rn.enc (Sh.sgn kn) ++ (([] : List UInt8) ++ ([91] ++ (Tx.joined cs ++ ([93] ++ (Sh.bytesT y ++ [41])))))))) = (bs ++ [40] ++ Sh.bytesT x ++ Rn.enc (Sh.sgn kn)) ++ ([91] ++ (Tx.joined cs ++ [93])) ++ Sh.bytesT y ++ [41] := by simp
      show Wr B b (bs ++ ([40] ++ (Sh.bytesT x ++ (Rn.enc (Sh.sgn kn) ++ (([] : List UInt8) ++ ([91] ++ (Tx.joined cs ++ ([93] ++ (Sh.bytesT y ++ [41]))))))))) w w8
      rw [e]
      exact hfin
    · have HL7 := Lib.hid (HL9.out rfl)
      have cr := wrune_any B b (bs ++ [40] ++ Sh.bytesT x ++ Rn.enc (Sh.sgn kn)) 35 (by decide) w4 T4.out.bld (by have := HL8.out; have := HL7.out; simp only [List.length_append, List.length_cons, List.length_nil]; omega) (Nat.le_trans HBW.out T4.out.low.size)
      have y4 := l4.cell (i := 4) rfl
      have L4 := Lib.hid l4
      clear l4
      go_wp2_with (fail)
      refine cr.mono ?_
      rintro e w5 ⟨⟨n5, rfl⟩, h5⟩
      rw [enc35] at h5
      have l5 := h5.lies L4.out HNE.out (by decide)
      have T5 := Lib.hid (T4.out.trans h5)
      clear cr y4 h5
      have y3 := l5.cell (i := 3) rfl
      have hB5 : B ≤ w5.heap.size := Nat.le_trans HBW.out T5.out.low.size
      have h05 : Below w0.heap.size w0 w5 := HB0.out.trans (below_low T5.out.low HB.out.1)
      have cc := wconj_any dv B b (bs ++ [40] ++ Sh.bytesT x ++ Rn.enc (Sh.sgn kn) ++ [35]) AV kV cs w0 w5 HV.out h05 HB.out.1 HP.out.1 HC.out.2.2 HF.out.2.2.2.2 T5.out.bld hB5 (by have := HL8.out; have := HL7.out; simp only [List.length_append, List.length_cons, List.length_nil]; omega) (by have := HC.out.2.1; omega)
      have L5 := Lib.hid l5
      clear l5 hB5 h05
      go_wp2_with (fail)
      refine cc.mono ?_
      rintro e w6 ⟨rfl, h6⟩
      have l6 := h6.lies L5.out HNE.out (by decide)
      have T6 := Lib.hid (T5.out.trans h6)
      have y2 := l6.cell (i := 2) rfl
      have hB6 : B ≤ w6.heap.size := Nat.le_trans HBW.out T6.out.low.size
      have h06 : Below w0.heap.size w0 w6 := HB0.out.trans (below_low T6.out.low HB.out.1)
      have cy := IH.out ey HE.out.2 y n' AY cY AY2 cY2 B b ((bs ++ [40] ++ Sh.bytesT x ++ Rn.enc (Sh.sgn kn) ++ [35]) ++ ([91] ++ (Tx.joined cs ++ [93]))) w0 w6 HF.out.2.1 HF.out.2.2.2.1 HTX.out.2.2.1 ⟨dy2, HTX.out.2.2.2⟩ h06 HB.out.1 HP.out.1 HP.out.2 T6.out.bld hB6 (by have := HL8.out; have := HL7.out; simp only [List.length_append, List.length_cons, List.length_nil]; omega)
      obtain ⟨hc, _, _⟩ := HY.out w6 h06
      rw [show ((⟨b0, p0, s0⟩ : Addr).add (1 * 5)) = ⟨b0, p0 + 5, none⟩ from rfl] at hc
      obtain ⟨z0, z1, z2, z3, z4⟩ := hc
      dsimp only at z1 z2 z3 z4
      clear cc h6 y3 l6 hB6 h06
      go_wp2_with (fail)
      refine cy.mono ?_
      rintro e w7 ⟨rfl, h7⟩
      have T7 := Lib.hid (T6.out.trans h7)
      have hB7 : B ≤ w7.heap.size := Nat.le_trans HBW.out T7.out.low.size
      have cd := wrune_def B b ((bs ++ [40] ++ Sh.bytesT x ++ Rn.enc (Sh.sgn kn) ++ [35]) ++ ([91] ++ (Tx.joined cs ++ [93])) ++ Sh.bytesT y) 41 (by decide) w7 .returning T7.out.bld (by have := HL8.out; have := HL7.out; simp only [List.length_append, List.length_cons, List.length_nil]; omega) hB7
      clear cy z0 z1 z2 z3 z4 y2 h7 hB7
      go_wp2_with (fail)
      refine leaves_cons (f := 25) (args := #[.pointer (some ⟨b, 0, none⟩), .int .i32 41]) (by simp) (by simp [go_sem]) ?_
      refine cd.mono ?_
      rintro E u' w8 ⟨rfl, ⟨n8, rfl⟩, h8⟩
      rw [enc41] at h8
      refine ⟨_, results_none rfl _ _ _, rfl, ?_⟩
      have hfin := T7.out.trans h8
      have e : bs ++ ([40] ++ (Sh.bytesT x ++ (Rn.enc (Sh.sgn kn) ++ ([35] ++ ([91] ++ (Tx.joined cs ++ ([93] ++ (Sh.bytesT y ++ [41])))))))) = (bs ++ [40] ++ Sh.bytesT x ++ Rn.enc (Sh.sgn kn) ++ [35]) ++ ([91] ++ (Tx.joined cs ++ [93])) ++ Sh.bytesT y ++ [41] := by simp
      show Wr B b (bs ++ ([40] ++ (Sh.bytesT x ++ (Rn.enc (Sh.sgn kn) ++ ([35] ++ ([91] ++ (Tx.joined cs ++ ([93] ++ (Sh.bytesT y ++ [41]))))))))) w w8
      rw [e]
      exact hfin
end Go.Proofs.YteimbdklakemaaaGreatDoor

/-
  WHETHER A TREE HAS A FORM: its conjuncts, the tree alone.
-/
namespace Go.Proofs.YteimbdklakemaaaGreatDoor
open Go.RowKit Go.Sort
set_option maxHeartbeats 3200000

set_option maxRecDepth 100000 in
theorem xwrong_any (d : Nat) (f : Pf) (A : Option Addr) (n c : Nat) (ps : List Pd) (r : Bool) (w : World) (hu : PsAt d w (.slice A n c) ps) (hr : r = Pr.rightAt (.mk f ps) 1) :
    Calls Tryz.prog 49 #[.agg #[.int .i64 f.k, .int .i64 f.u, .int .i64 f.o, .int .i64 f.a.k, .int .i64 f.a.t, .int .i64 f.a.c, .bool f.a.z, .int .i64 f.a.n, .int .i64 f.b.k, .int .i64 f.b.t, .int .i64 f.b.c, .bool f.b.z, .int .i64 f.b.n, .slice A n c]] w fun e w' => e = .returned (.bool (!r)) ∧ Below w.heap.size w w' := by
  obtain ⟨W0, hW0⟩ : ∃ W0, W0 = w.alloc (Obj.cells #[.int .i64 f.k, .int .i64 f.u, .int .i64 f.o, .int .i64 f.a.k, .int .i64 f.a.t, .int .i64 f.a.c, .bool f.a.z, .int .i64 f.a.n, .int .i64 f.b.k, .int .i64 f.b.t, .int .i64 f.b.c, .bool f.b.z, .int .i64 f.b.n, .slice A n c] 43) := ⟨_, rfl⟩
  obtain ⟨l0, p0, hb0⟩ := pd_box (f := f) (u := .slice A n c) hW0
  have cr := pright_any d f (.slice A n c) ps W0 (hu.below hb0 (Nat.le_refl _))
  rw [← hr] at cr
  obtain ⟨x0, x1, x2, x3, x4, x5, x6, x7, x8, x9, x10, x11, x12, x13⟩ := p0
  rw [hW0] at x0 x1 x2 x3 x4 x5 x6 x7 x8 x9 x10 x11 x12 x13 cr
  have HW := Lib.hid hW0
  have HB := Lib.hid hb0
  clear hu hr l0 hb0 hW0
  go_enter Tryz.func49, Tryz.ntmps49
  go_wp2_with (fail)
  refine cr.mono ?_
  rw [← HW.out]
  rintro e w2 ⟨rfl, hb2⟩
  clear cr x0 x1 x2 x3 x4 x5 x6 x7 x8 x9 x10 x11 x12 x13
  go_wp2_with (fail)
  go_ret
  exact ⟨rfl, below_join HB.out hb2⟩
theorem xindex_any (d : Nat) (A : Option Addr) (c : Nat) (ps : List Pd) (w : World) (hu : PsAt d w (.slice A ps.length c) ps) (hl : ps.length ≤ 9223372036854775807) :
    Calls Tryz.prog 59 #[.slice A ps.length c, .func (.func 49) #[] #[]] w fun e w' => (∃ r : Int, e = .returned (.int .i64 r) ∧ decide (0 ≤ r) = ps.any fun p => !Pr.rightAt p 1) ∧ Below w.heap.size w w' := by
  have HU := Lib.hid hu
  obtain ⟨n, hn⟩ : ∃ n, n = ps.length := ⟨_, rfl⟩
  rw [← hn] at hl HU ⊢
  have HN := Lib.hid hn
  clear hn hu
  go_enter Tryz.func59, Tryz.ntmps59
  go_wp2_with fail
  go_loopw [8] (fun i wr => ∃ q : Nat, q ≤ n ∧ i = .int .i64 q ∧ Hid (((ps.take q).any fun p => !Pr.rightAt p 1) = false) ∧ Below w.heap.size w wr) (fun i _ => n - (intOf i).toNat)
  case atStart => exact ⟨0, Nat.zero_le _, rfl, Lib.hid (by simp), Below.refl _ _⟩
  case round =>
    obtain ⟨q, hq, rfl, hno, hb⟩ := hrel
    by_cases hlt : q < n
    · obtain ⟨p, gp⟩ : ∃ p, ps[q]? = some p := ⟨ps[q]'(by have := HN.out; omega), List.getElem?_eq_getElem _⟩
      have hu := HU.out
      rw [HN.out] at hu
      obtain ⟨e, b', o, s, v, he, rfl, hblt, hx⟩ := hu.at_ gp
      obtain ⟨ha, hf1⟩ := hx wr hb
      obtain ⟨A2, c2, rfl, _⟩ := hf1.form
      have hpe : Pd.mk p.f p.ps = p := by cases p; rfl
      obtain ⟨r, hr⟩ : ∃ r, r = Pr.rightAt p 1 := ⟨_, rfl⟩
      have cs := xwrong_any e p.f A2 p.ps.length c2 p.ps r wr hf1 (by rw [hpe]; exact hr)
      have HR := Lib.hid hr
      have GP := Lib.hid gp
      obtain ⟨a0, a1, a2, a3, a4, a5, a6, a7, a8, a9, a10, a11, a12, a13⟩ := ha
      clear gp hu hx hpe hr hf1 hblt
      go_wp2_with fail
      refine cs.mono ?_
      rintro e w2 ⟨rfl, hb2⟩
      have hb3 := below_join hb hb2
      clear cs hb2 hb a0 a1 a2 a3 a4 a5 a6 a7 a8 a9 a10 a11 a12 a13
      cases r
      · have he : Hid ((ps.any fun p => !Pr.rightAt p 1) = true) := Lib.hid (List.any_eq_true.2 ⟨p, List.mem_of_getElem? GP.out, by rw [← HR.out]; rfl⟩)
        go_wp2_with fail
        go_ret
        exact ⟨⟨q, rfl, by rw [he.out]; simp⟩, hb3⟩
      · have hs2 : Hid (((ps.take (q + 1)).any fun p => !Pr.rightAt p 1) = false) := Lib.hid (by
          rw [List.take_add_one, GP.out, List.any_append, hno.out]; simp [← HR.out])
        go_wp2_with fail
        go_roundw
        case rel => exact ⟨q + 1, by omega, by go_num, hs2, hb3⟩
        case measure => simp [intOf]; omega
    · have he : Hid ((ps.any fun p => !Pr.rightAt p 1) = false) := Lib.hid (by rw [← hno.out, List.take_of_length_le (by have := HN.out; omega)])
      go_wp2_with fail
      go_ret
      exact ⟨⟨-1, rfl, by rw [he.out]; rfl⟩, hb⟩
theorem xcontains_any (d : Nat) (A : Option Addr) (c : Nat) (ps : List Pd) (r : Bool) (w : World) (hu : PsAt d w (.slice A ps.length c) ps) (hl : ps.length ≤ 9223372036854775807) (hr : r = ps.any fun p => !Pr.rightAt p 1) :
    Calls Tryz.prog 48 #[.slice A ps.length c, .func (.func 49) #[] #[]] w fun e w' => e = .returned (.bool r) ∧ Below w.heap.size w w' := by
  have cs := xindex_any d A c ps w hu hl
  rw [← hr] at cs
  clear hu hr hl
  go_enter Tryz.func48, Tryz.ntmps48
  go_wp2_with fail
  refine cs.mono ?_
  rintro e w2 ⟨⟨i, rfl, hi⟩, hb2⟩
  clear cs
  go_wp2_with fail
  go_ret
  exact ⟨rfl, hb2⟩
theorem conjoins_at (ps : List Pd) : Sh.conjoins ps = (decide (1 ≤ ps.length) && (decide (ps.length ≤ 64) && !(ps.any fun p => !Pr.rightAt p 1))) := by
  unfold Sh.conjoins
  congr 2
  induction ps with
  | nil => rfl
  | cons p r ih => simp only [List.all_cons, List.any_cons, Bool.not_or, Bool.not_not, ih]
theorem xconjoins_any (d : Nat) (A : Option Addr) (c : Nat) (ps : List Pd) (r : Bool) (w : World) (hu : PsAt d w (.slice A ps.length c) ps) (hl : ps.length ≤ 9223372036854775807) (hr : r = Sh.conjoins ps) :
    Calls Tryz.prog 41 #[.slice A ps.length c] w fun e w' => e = .returned (.bool r) ∧ Below w.heap.size w w' := by
  obtain ⟨q, hq⟩ : ∃ q, q = ps.any fun p => !Pr.rightAt p 1 := ⟨_, rfl⟩
  have cc := xcontains_any d A c ps q w hu hl hq
  rw [conjoins_at, ← hq] at hr
  obtain ⟨n, hn⟩ : ∃ n, n = ps.length := ⟨_, rfl⟩
  rw [← hn] at cc hr ⊢
  clear hu hl hq hn
  by_cases h1 : 1 ≤ n
  · have e1 : decide (1 ≤ (n : Int)) = true := by simp; omega
    have e1n : decide (1 ≤ n) = true := decide_eq_true h1
    by_cases h2 : n ≤ 64
    · have e2 : decide ((n : Int) ≤ 64) = true := by simp; omega
      have e2n : decide (n ≤ 64) = true := decide_eq_true h2
      rw [e1n, e2n] at hr
      have HR := Lib.hid (show r = !q by simpa using hr)
      clear hr
      go_enter Tryz.func41, Tryz.ntmps41
      go_wp2_with (fail)
      refine cc.mono ?_
      rintro e w2 ⟨rfl, hb2⟩
      clear cc
      go_wp2_with (fail)
      go_ret
      exact ⟨by rw [HR.out]; rfl, hb2⟩
    · have e2 : decide ((n : Int) ≤ 64) = false := by simp; omega
      have e2n : decide (n ≤ 64) = false := decide_eq_false h2
      rw [e1n, e2n] at hr
      have HR := Lib.hid (show r = false by simpa using hr)
      clear hr cc
      go_enter Tryz.func41, Tryz.ntmps41
      go_wp2_with (fail)
      go_ret
      exact ⟨by rw [HR.out]; rfl, Below.refl _ _⟩
  · have e1 : decide (1 ≤ (n : Int)) = false := by simp; omega
    have e1n : decide (1 ≤ n) = false := decide_eq_false h1
    rw [e1n] at hr
    have HR := Lib.hid (show r = false by simpa using hr)
    clear hr cc
    go_enter Tryz.func41, Tryz.ntmps41
    go_wp2_with (fail)
    go_ret
    exact ⟨by rw [HR.out]; rfl, Below.refl _ _⟩
set_option maxRecDepth 100000 in
theorem xalone_any (d : Nat) (a : Tr) (AU : Option Addr) (kU : Nat) (AV : Option Addr) (kV : Nat) (r : Bool) (w : World) (hv : PsAt d w (.slice AV a.cs.length kV) a.cs) (hl : a.cs.length ≤ 9223372036854775807) (hr : r = Sh.alone a) :
    Calls Tryz.prog 31 #[.agg #[.int .i64 a.k, .int .i64 a.t, .slice AU a.ks.length kU, .slice AV a.cs.length kV, .bool a.h]] w fun e w' => e = .returned (.bool r) ∧ Below w.heap.size w w' := by
  obtain ⟨W0, hW0⟩ : ∃ W0, W0 = w.alloc (Obj.cells #[.int .i64 a.k, .int .i64 a.t, .slice AU a.ks.length kU, .slice AV a.cs.length kV, .bool a.h] 25) := ⟨_, rfl⟩
  obtain ⟨l0, t0, hb0⟩ := tr_box (a := a) (u := .slice AU a.ks.length kU) (v := .slice AV a.cs.length kV) hW0
  obtain ⟨q, hq⟩ : ∃ q, q = Sh.conjoins a.cs := ⟨_, rfl⟩
  have cc := xconjoins_any d AV kV a.cs q W0 (hv.below hb0 (Nat.le_refl _)) hl hq
  unfold Sh.alone at hr
  rw [← hq] at hr
  obtain ⟨x0, x1, x2, x3, x4⟩ := t0
  obtain ⟨k, hk⟩ : ∃ k, k = a.k := ⟨_, rfl⟩
  obtain ⟨t, ht⟩ : ∃ t, t = a.t := ⟨_, rfl⟩
  obtain ⟨h, hh⟩ : ∃ h, h = a.h := ⟨_, rfl⟩
  obtain ⟨n, hn⟩ : ∃ n, n = a.ks.length := ⟨_, rfl⟩
  obtain ⟨m, hm⟩ : ∃ m, m = a.cs.length := ⟨_, rfl⟩
  rw [← hk, ← ht, ← hh, ← hn, ← hm] at hr hW0 ⊢
  rw [← hk] at x0
  rw [← ht] at x1
  rw [← hn] at x2
  rw [← hm] at x3 cc
  rw [← hh] at x4
  have HW := Lib.hid hW0
  have HB := Lib.hid hb0
  rw [hW0] at x0 x1 x2 x3 x4 cc
  clear hk ht hh hn hm hq hv hl l0 hb0 hW0
  by_cases hk0 : k = 0
  · subst hk0
    have dk : decide ((0 : Int) = 0) = true := by decide
    by_cases c0 : 0 ≤ t
    rotate_left
    · have d00 : decide (0 ≤ t) = false := by simp; omega
      have HR := Lib.hid (show r = false by rw [hr]; simp [c0])
      clear hr cc
      go_enter Tryz.func31, Tryz.ntmps31
      go_wp2_with (fail)
      go_ret
      exact ⟨by rw [HR.out]; rfl, by rw [← HW.out]; exact HB.out⟩
    have d00 : decide (0 ≤ t) = true := by simp; omega
    by_cases c1 : t < 64
    rotate_left
    · have d10 : decide (t < 64) = false := by simp; omega
      have HR := Lib.hid (show r = false by rw [hr]; simp [c0, c1])
      clear hr cc
      go_enter Tryz.func31, Tryz.ntmps31
      go_wp2_with (fail)
      go_ret
      exact ⟨by rw [HR.out]; rfl, by rw [← HW.out]; exact HB.out⟩
    have d10 : decide (t < 64) = true := by simp; omega
    by_cases c2 : n = 0
    rotate_left
    · have d20 : decide (n = 0) = false := by simp; omega
      have d21 : decide ((n : Int) = 0) = false := by simp; omega
      have d22 : ((n : Int) == 0) = false := by simp; omega
      have HR := Lib.hid (show r = false by rw [hr]; simp [c0, c1, c2])
      clear hr cc
      go_enter Tryz.func31, Tryz.ntmps31
      go_wp2_with (fail)
      go_ret
      exact ⟨by rw [HR.out]; rfl, by rw [← HW.out]; exact HB.out⟩
    subst c2
    by_cases c3 : m = 0
    rotate_left
    · have d30 : decide (m = 0) = false := by simp; omega
      have d31 : decide ((m : Int) = 0) = false := by simp; omega
      have d32 : ((m : Int) == 0) = false := by simp; omega
      have HR := Lib.hid (show r = false by rw [hr]; simp [c0, c1, c3])
      clear hr cc
      go_enter Tryz.func31, Tryz.ntmps31
      go_wp2_with (fail)
      go_ret
      exact ⟨by rw [HR.out]; rfl, by rw [← HW.out]; exact HB.out⟩
    subst c3
    cases h
    · have HR := Lib.hid (show r = true by rw [hr]; simp [c0, c1])
      clear hr cc
      go_enter Tryz.func31, Tryz.ntmps31
      go_wp2_with (fail)
      go_ret
      exact ⟨by rw [HR.out]; rfl, by rw [← HW.out]; exact HB.out⟩
    · have HR := Lib.hid (show r = false by rw [hr]; simp [c0, c1])
      clear hr cc
      go_enter Tryz.func31, Tryz.ntmps31
      go_wp2_with (fail)
      go_ret
      exact ⟨by rw [HR.out]; rfl, by rw [← HW.out]; exact HB.out⟩
  · have dk : decide (k = 0) = false := decide_eq_false hk0
    have dk2 : (k == 0) = false := by simpa using hk0
    by_cases c0 : 1 ≤ k
    rotate_left
    · have d00 : decide (1 ≤ k) = false := by simp; omega
      have HR := Lib.hid (show r = false by rw [hr]; simp [hk0, c0])
      clear hr cc
      go_enter Tryz.func31, Tryz.ntmps31
      go_wp2_with (fail)
      go_ret
      exact ⟨by rw [HR.out]; rfl, by rw [← HW.out]; exact HB.out⟩
    have d00 : decide (1 ≤ k) = true := by simp; omega
    by_cases c1 : k ≤ 4
    rotate_left
    · have d10 : decide (k ≤ 4) = false := by simp; omega
      have HR := Lib.hid (show r = false by rw [hr]; simp [hk0, c0, c1])
      clear hr cc
      go_enter Tryz.func31, Tryz.ntmps31
      go_wp2_with (fail)
      go_ret
      exact ⟨by rw [HR.out]; rfl, by rw [← HW.out]; exact HB.out⟩
    have d10 : decide (k ≤ 4) = true := by simp; omega
    by_cases c2 : t = 0
    rotate_left
    · have d20 : decide (t = 0) = false := by simp; omega
      have d21 : (t == 0) = false := by simp; omega
      have HR := Lib.hid (show r = false by rw [hr]; simp [hk0, c0, c1, c2])
      clear hr cc
      go_enter Tryz.func31, Tryz.ntmps31
      go_wp2_with (fail)
      go_ret
      exact ⟨by rw [HR.out]; rfl, by rw [← HW.out]; exact HB.out⟩
    subst c2
    by_cases c3 : n = 2
    rotate_left
    · have d30 : decide (n = 2) = false := by simp; omega
      have d31 : decide ((n : Int) = 2) = false := by simp; omega
      have d32 : ((n : Int) == 2) = false := by simp; omega
      have HR := Lib.hid (show r = false by rw [hr]; simp [hk0, c0, c1, c3])
      clear hr cc
      go_enter Tryz.func31, Tryz.ntmps31
      go_wp2_with (fail)
      go_ret
      exact ⟨by rw [HR.out]; rfl, by rw [← HW.out]; exact HB.out⟩
    subst c3
    have HR := Lib.hid (show r = q by rw [hr]; simp [hk0, c0, c1])
    clear hr
    go_enter Tryz.func31, Tryz.ntmps31
    go_wp2_with (fail)
    refine cc.mono ?_
    rw [← HW.out]
    rintro e w2 ⟨rfl, hb2⟩
    clear cc x0 x1 x2 x3 x4
    go_wp2_with (fail)
    go_ret
    exact ⟨by rw [HR.out]; rfl, below_join HB.out hb2⟩
end Go.Proofs.YteimbdklakemaaaGreatDoor

/-
  WHETHER A TREE HAS A FORM: how many leaves.
-/
namespace Go.Proofs.YteimbdklakemaaaGreatDoor
open Go.RowKit Go.Sort
set_option maxHeartbeats 6400000

theorem wrap64_id12 {n : Int} (h0 : -9223372036854775808 ≤ n) (h1 : n ≤ 9223372036854775807) : wrap64 n = n := by unfold wrap64; omega
theorem alone_kids {a : Tr} (h : Sh.alone a = true) (hk : a.k ≠ 0) : ∃ x y, a.ks = [x, y] := by
  unfold Sh.alone at h
  rw [if_neg hk] at h
  simp only [Bool.and_eq_true, decide_eq_true_eq] at h
  match hks : a.ks, h.2.2.2.1 with
  | [x, y], _ => exact ⟨x, y, rfl⟩
theorem lv_no {a : Tr} {m : Nat} (h : m = 0 ∨ Sh.alone a = false) : Sh.lv a m = 0 := by rw [Sh.lv_at, if_pos h]
theorem lv_leaf {a : Tr} {m : Nat} (h0 : m ≠ 0) (h1 : Sh.alone a = true) (hk : a.k = 0) : Sh.lv a m = 1 := by rw [Sh.lv_at, if_neg (by rw [h1]; simp [h0]), if_pos hk]
theorem lv_two {a x y : Tr} {m : Nat} (h0 : m ≠ 0) (h1 : Sh.alone a = true) (hk : a.k ≠ 0) (hks : a.ks = [x, y]) : Sh.lv a m = if Sh.lv x (m - 1) = 0 then 0 else if Sh.lv y (m - Sh.lv x (m - 1)) = 0 then 0 else Sh.lv x (m - 1) + Sh.lv y (m - Sh.lv x (m - 1)) := by
  rw [Sh.lv_at, if_neg (by rw [h1]; simp [h0]), if_neg hk, hks, (Sh.lvs_two x y).1, (Sh.lvs_two x y).2]
  rfl
set_option maxRecDepth 100000 in
theorem xleaves_at (d : Nat) : ∀ (a : Tr) (AU : Option Addr) (kU : Nat) (AV : Option Addr) (kV : Nat) (most : Nat) (w : World), TsAt d w (.slice AU a.ks.length kU) a.ks → PsSome w (.slice AV a.cs.length kV) a.cs → most ≤ 64 →
    Calls Tryz.prog 22 #[.agg #[.int .i64 a.k, .int .i64 a.t, .slice AU a.ks.length kU, .slice AV a.cs.length kV, .bool a.h], .int .i64 most] w fun e w' => e = .returned (.int .i64 (Sh.lv a most)) ∧ Below w.heap.size w w' := by
  induction d using Nat.strongRecOn with
  | ind d ih =>
  intro a AU kU AV kV most w hu hv hm
  obtain ⟨W0, hW0⟩ : ∃ W0, W0 = w.alloc (Obj.cells #[.int .i64 a.k, .int .i64 a.t, .slice AU a.ks.length kU, .slice AV a.cs.length kV, .bool a.h] 25) := ⟨_, rfl⟩
  obtain ⟨l0, t0, hb0⟩ := tr_box (a := a) (u := .slice AU a.ks.length kU) (v := .slice AV a.cs.length kV) hW0
  obtain ⟨r, hr⟩ : ∃ r, r = Sh.alone a := ⟨_, rfl⟩
  have hv0 := hv.below hb0 (Nat.le_refl _)
  have hu0 := hu.below hb0 (Nat.le_refl _)
  obtain ⟨dv, hv1⟩ := hv0
  obtain ⟨_, _, hvf, hvl⟩ := hv1.form
  have ca := xalone_any dv a AU kU AV kV r W0 hv1 hvl hr
  have HU := Lib.hid hu0
  have HR := Lib.hid hr
  have HW := Lib.hid hW0
  have HB := Lib.hid hb0
  have HT := Lib.hid t0
  have HL := Lib.hid l0.lt
  have IH := Lib.hid ih
  obtain ⟨x0, x1, x2, x3, x4⟩ := t0
  rw [hW0] at x0 x1 x2 x3 x4 ca
  clear hu hv hu0 hv1 hvf hvl hr hW0 hb0 l0 ih
  by_cases hm0 : most = 0
  · subst hm0
    have HV := Lib.hid (lv_no (a := a) (m := 0) (.inl rfl))
    clear hm ca
    go_enter Tryz.func22, Tryz.ntmps22
    go_wp2_with (fail)
    go_ret
    exact ⟨by rw [HV.out]; rfl, by rw [← HW.out]; exact HB.out⟩
  have e1 : decide ((most : Int) < 1) = false := by simp; omega
  have e1n : decide (most < 1) = false := by simp; omega
  have e1p : ¬ (most : Int) < 1 := by omega
  cases r
  · have HV := Lib.hid (lv_no (a := a) (m := most) (.inr HR.out.symm))
    clear hm hm0
    go_enter Tryz.func22, Tryz.ntmps22
    go_wp2_with (fail)
    refine ca.mono ?_
    rw [← HW.out]
    rintro e w1 ⟨rfl, hb1⟩
    clear ca x0 x1 x2 x3 x4
    go_wp2_with (fail)
    go_ret
    exact ⟨by rw [HV.out]; rfl, below_join HB.out hb1⟩
  by_cases hk : a.k = 0
  · have HV := Lib.hid (lv_leaf (a := a) (m := most) hm0 HR.out.symm hk)
    have dk : decide (a.k = 0) = true := decide_eq_true hk
    have HK := Lib.hid hk
    clear hm hm0 hk
    go_enter Tryz.func22, Tryz.ntmps22
    go_wp2_with (fail)
    refine ca.mono ?_
    rw [← HW.out]
    rintro e w1 ⟨rfl, hb1⟩
    have y0 := (HT.out.below hb1 HL.out).c0
    rw [HK.out] at y0
    clear ca x0 x1 x2 x3 x4
    go_wp2_with (fail)
    go_ret
    exact ⟨by rw [HV.out]; rfl, below_join HB.out hb1⟩
  obtain ⟨x, y, hks⟩ := alone_kids HR.out.symm hk
  have HV := Lib.hid (lv_two (a := a) (m := most) hm0 HR.out.symm hk hks)
  have dk : decide (a.k = 0) = false := decide_eq_false hk
  have dk2 : (a.k == 0) = false := by simpa using hk
  have hu := HU.out
  have hj0 : a.ks[0]? = some x := by rw [hks]; rfl
  have hj1 : a.ks[1]? = some y := by rw [hks]; rfl
  obtain ⟨e0, b0, p0, s0, xu, xv, he0, hA0, hlt0, hx⟩ := hu.at_ hj0
  obtain ⟨e2, b2, p2, s2, yu, yv, he2, hA2, hlt2, hy⟩ := hu.at_ hj1
  obtain ⟨rfl⟩ := hA0
  obtain ⟨rfl, rfl, rfl⟩ : b0 = b2 ∧ p0 = p2 ∧ s0 = s2 := by cases hA2; exact ⟨rfl, rfl, rfl⟩
  have hn2 : a.ks.length = 2 := by rw [hks]; rfl
  rw [hn2] at x2 ca HU HT HW ⊢
  have HX := Lib.hid hx
  have HY := Lib.hid hy
  have HE := Lib.hid (And.intro he0 he2)
  clear hu hj0 hj1 hA2 hx hy he0 he2 hk hm0 hks
  go_enter Tryz.func22, Tryz.ntmps22
  go_wp2_with (fail)
  refine ca.mono ?_
  rw [← HW.out]
  rintro e w1 ⟨rfl, hb1⟩
  obtain ⟨y0, y1, y2, y3, y4⟩ := HT.out.below hb1 HL.out
  obtain ⟨hc0, hp0, ht0⟩ := HX.out w1 hb1
  obtain ⟨AX, cX, rfl, hlX⟩ := ht0.form
  obtain ⟨dv2, hp0'⟩ := hp0
  obtain ⟨AX2, cX2, rfl, hlX2⟩ := hp0'.form
  have cl := IH.out e0 HE.out.1 x AX cX AX2 cX2 (most - 1) w1 ht0 ⟨dv2, hp0'⟩ (by omega)
  have em : ((most - 1 : Nat) : Int) = (most : Int) - 1 := by omega
  rw [em] at cl
  have hw1 : wrap64 ((most : Int) - 1) = (most : Int) - 1 := wrap64_id12 (by omega) (by omega)
  rw [show ((⟨b0, p0, s0⟩ : Addr).add (0 * 5)) = ⟨b0, p0, s0⟩ from rfl] at hc0
  obtain ⟨z0, z1, z2, z3, z4⟩ := hc0
  dsimp only at z1 z2 z3 z4
  obtain ⟨n1, hn1⟩ : ∃ n1, n1 = Sh.lv x (most - 1) := ⟨_, rfl⟩
  have hn1le : n1 ≤ most - 1 := by rw [hn1]; exact Sh.lv_le x _
  rw [← hn1] at cl HV
  have HN1 := Lib.hid hn1
  have HB1 := Lib.hid (below_join HB.out hb1)
  have Hb1 := Lib.hid hb1
  clear ca x0 x1 x2 x3 x4 hn1 hp0' ht0 hb1 em hlX hlX2
  go_wp2_with (fail)
  refine cl.mono ?_
  rintro e w2 ⟨rfl, hb2⟩
  have hb12 := below_join Hb1.out hb2
  have HB2 := Lib.hid (below_join HB1.out hb2)
  obtain ⟨y0, y1, y2, y3, y4⟩ := HT.out.below hb12 HL.out
  clear cl z0 z1 z2 z3 z4 hw1
  by_cases h0 : n1 = 0
  · have HV0 := Lib.hid (show Sh.lv a most = 0 by rw [HV.out, if_pos h0])
    have d0 : decide ((n1 : Int) = 0) = true := by simp; omega
    have d0n : decide (n1 = 0) = true := decide_eq_true h0
    have d0b : ((n1 : Int) == 0) = true := by simp; omega
    clear h0
    go_wp2_with (fail)
    go_ret
    exact ⟨by rw [HV0.out]; rfl, HB2.out⟩
  have d0 : decide ((n1 : Int) = 0) = false := by simp; omega
  have d0n : decide (n1 = 0) = false := decide_eq_false h0
  have d0b : ((n1 : Int) == 0) = false := by simp; omega
  obtain ⟨hc1, hp1, ht1⟩ := HY.out w2 hb12
  obtain ⟨AY, cY, rfl, hlY⟩ := ht1.form
  obtain ⟨dv3, hp1'⟩ := hp1
  obtain ⟨AY2, cY2, rfl, hlY2⟩ := hp1'.form
  have cl := IH.out e2 HE.out.2 y AY cY AY2 cY2 (most - n1) w2 ht1 ⟨dv3, hp1'⟩ (by omega)
  have em : ((most - n1 : Nat) : Int) = (most : Int) - (n1 : Int) := by omega
  rw [em] at cl
  have hw2 : wrap64 ((most : Int) - (n1 : Int)) = (most : Int) - (n1 : Int) := wrap64_id12 (by omega) (by omega)
  rw [show ((⟨b0, p0, s0⟩ : Addr).add (1 * 5)) = ⟨b0, p0 + 5, none⟩ from rfl] at hc1
  obtain ⟨z0, z1, z2, z3, z4⟩ := hc1
  dsimp only at z1 z2 z3 z4
  obtain ⟨n2, hn2⟩ : ∃ n2, n2 = Sh.lv y (most - n1) := ⟨_, rfl⟩
  have hn2le : n2 ≤ most - n1 := by rw [hn2]; exact Sh.lv_le y _
  rw [← hn2] at cl HV
  have HV1 := Lib.hid (show Sh.lv a most = if n2 = 0 then 0 else n1 + n2 by rw [HV.out, if_neg h0])
  have Hb12 := Lib.hid hb12
  clear hn2 hp1' ht1 hb2 hb12 em hlY hlY2 h0 HV
  go_wp2_with (fail)
  refine cl.mono ?_
  rintro e w3 ⟨rfl, hb3⟩
  have HB3 := Lib.hid (below_join HB2.out hb3)
  clear cl z0 z1 z2 z3 z4 y0 y1 y2 y3 y4 hb3 hw2
  by_cases h1 : n2 = 0
  · have HV0 := Lib.hid (show Sh.lv a most = 0 by rw [HV1.out, if_pos h1])
    have f0 : decide ((n2 : Int) = 0) = true := by simp; omega
    have f0n : decide (n2 = 0) = true := decide_eq_true h1
    have f0b : ((n2 : Int) == 0) = true := by simp; omega
    clear h1
    go_wp2_with (fail)
    go_ret
    exact ⟨by rw [HV0.out]; rfl, HB3.out⟩
  · have HV0 := Lib.hid (show Sh.lv a most = n1 + n2 by rw [HV1.out, if_neg h1])
    have f0 : decide ((n2 : Int) = 0) = false := by simp; omega
    have f0n : decide (n2 = 0) = false := decide_eq_false h1
    have f0b : ((n2 : Int) == 0) = false := by simp; omega
    have hw3 : wrap64 ((n1 : Int) + (n2 : Int)) = (n1 : Int) + (n2 : Int) := wrap64_id12 (by omega) (by omega)
    clear h1
    go_wp2_with (fail)
    go_ret
    exact ⟨by rw [HV0.out]; simp <;> exact hw3, HB3.out⟩
theorem xright_any (d : Nat) (a : Tr) (AU : Option Addr) (kU : Nat) (AV : Option Addr) (kV : Nat) (r : Bool) (w : World) (hu : TsAt d w (.slice AU a.ks.length kU) a.ks) (hv : PsSome w (.slice AV a.cs.length kV) a.cs) (hr : r = decide (0 < Sh.lv a 64)) :
    Calls Tryz.prog 12 #[.agg #[.int .i64 a.k, .int .i64 a.t, .slice AU a.ks.length kU, .slice AV a.cs.length kV, .bool a.h]] w fun e w' => e = .returned (.bool r) ∧ Below w.heap.size w w' := by
  obtain ⟨W0, hW0⟩ : ∃ W0, W0 = w.alloc (Obj.cells #[.int .i64 a.k, .int .i64 a.t, .slice AU a.ks.length kU, .slice AV a.cs.length kV, .bool a.h] 25) := ⟨_, rfl⟩
  obtain ⟨l0, t0, hb0⟩ := tr_box (a := a) (u := .slice AU a.ks.length kU) (v := .slice AV a.cs.length kV) hW0
  have cl := xleaves_at d a AU kU AV kV 64 W0 (hu.below hb0 (Nat.le_refl _)) (hv.below hb0 (Nat.le_refl _)) (Nat.le_refl _)
  obtain ⟨n, hn⟩ : ∃ n, n = Sh.lv a 64 := ⟨_, rfl⟩
  rw [← hn] at cl hr
  have HW := Lib.hid hW0
  have HB := Lib.hid hb0
  obtain ⟨x0, x1, x2, x3, x4⟩ := t0
  rw [hW0] at x0 x1 x2 x3 x4 cl
  have e1 : decide (0 < (n : Int)) = r := by rw [hr]; simp
  clear hu hv hn hW0 hb0 l0
  go_enter Tryz.func12, Tryz.ntmps12
  go_wp2_with (fail)
  refine cl.mono ?_
  rw [← HW.out]
  rintro e w1 ⟨rfl, hb1⟩
  clear cl x0 x1 x2 x3 x4
  go_wp2_with (fail)
  go_ret
  exact ⟨by rw [hr]; simp, below_join HB.out hb1⟩
end Go.Proofs.YteimbdklakemaaaGreatDoor

/-
  A TREE's TEXT: Print.
-/
namespace Go.Proofs.YteimbdklakemaaaGreatDoor
open Go.RowKit Go.Sort
set_option maxHeartbeats 6400000

theorem lv_pos {a : Tr} (h : 0 < Sh.lv a 64) : ∃ n, Sh.Form a n ∧ n ≤ 64 := ⟨_, Sh.lv_form a 64 (by omega), Sh.lv_le a 64⟩
theorem form_pos {a : Tr} {n : Nat} (h : Sh.Form a n) (hn : n ≤ 64) : 0 < Sh.lv a 64 := by rw [Sh.form_lv h 64 hn]; exact h.pos
theorem fresh_bld (w : World) : Bld w.heap.size w.heap.size (Lib.byteCells []) (w.alloc (.cells #[.pointer none, .slice none 0 0] 49)) :=
  .inl (Lib.BuilderAtF.of ⟨Nat.le_refl _, .slice none 0 0, heap_alloc_new w _, World.ownsRow_nil _ _ _ _, by simp [Value.ownBlock]⟩)
set_option maxRecDepth 100000 in
theorem sprint_any (d : Nat) (a : Tr) (AU : Option Addr) (kU : Nat) (AV : Option Addr) (kV : Nat) (w : World) (hwf : Sh.wfT a) (hu : TsAt d w (.slice AU a.ks.length kU) a.ks) (hv : PsSome w (.slice AV a.cs.length kV) a.cs) (hP : Pows w) (hS : Sgn w) (hlen : 0 < Sh.lv a 64 → (Sh.bytesT a).length ≤ 100000000) :
    Calls Tryz.prog 6 #[.agg #[.int .i64 a.k, .int .i64 a.t, .slice AU a.ks.length kU, .slice AV a.cs.length kV, .bool a.h]] w fun e w' => e = .returned (.tuple #[.string ⟨(if 0 < Sh.lv a 64 then Sh.bytesT a else []).toArray⟩, .int .i64 (if 0 < Sh.lv a 64 then 0 else 4)]) ∧ Below w.heap.size w w' := by
  obtain ⟨W0, hW0⟩ : ∃ W0, W0 = w.alloc (Obj.cells #[.int .i64 a.k, .int .i64 a.t, .slice AU a.ks.length kU, .slice AV a.cs.length kV, .bool a.h] 25) := ⟨_, rfl⟩
  obtain ⟨l0, t0, hb0⟩ := tr_box (a := a) (u := .slice AU a.ks.length kU) (v := .slice AV a.cs.length kV) hW0
  obtain ⟨r, hr⟩ : ∃ r, r = decide (0 < Sh.lv a 64) := ⟨_, rfl⟩
  have hu0 := hu.below hb0 (Nat.le_refl _)
  have hv0 := hv.below hb0 (Nat.le_refl _)
  have cr := xright_any d a AU kU AV kV r W0 hu0 hv0 hr
  have HU := Lib.hid hu0
  have HV := Lib.hid hv0
  have HW := Lib.hid hW0
  have HB := Lib.hid hb0
  have HT := Lib.hid t0
  have HL := Lib.hid l0.lt
  have HP := Lib.hid (And.intro (hP.below hb0 (Nat.le_refl _)) (hS.below hb0 (Nat.le_refl _)))
  obtain ⟨x0, x1, x2, x3, x4⟩ := t0
  rw [hW0] at x0 x1 x2 x3 x4 cr
  cases r
  · have hno : ¬ 0 < Sh.lv a 64 := by simpa using hr.symm
    rw [if_neg hno, if_neg hno]
    clear hu hv hu0 hv0 hP hS hlen hr hno hW0 hb0 l0 hwf
    go_enter Tryz.func6, Tryz.ntmps6
    go_wp2_with (fail)
    refine cr.mono ?_
    rw [← HW.out]
    rintro e w1 ⟨rfl, hb1⟩
    clear cr x0 x1 x2 x3 x4
    go_wp2_with (fail)
    go_ret2
    exact ⟨rfl, below_join HB.out hb1⟩
  · have hyes : 0 < Sh.lv a 64 := by simpa using hr.symm
    rw [if_pos hyes, if_pos hyes]
    obtain ⟨n, hf, _⟩ := lv_pos hyes
    have HLN := Lib.hid (hlen hyes)
    have HF := Lib.hid (And.intro hf hwf)
    clear hu hv hu0 hv0 hP hS hlen hr hyes hW0 hb0 l0 hf hwf
    go_enter Tryz.func6, Tryz.ntmps6
    go_wp2_with (fail)
    refine cr.mono ?_
    rw [← HW.out]
    rintro e w1 ⟨rfl, hb1⟩
    obtain ⟨y0, y1, y2, y3, y4⟩ := (HT.out.below hb1 HL.out).below (below_new w1 (.cells #[.pointer none, .slice none 0 0] 49)) (by have := HL.out; have := hb1.size; show w.heap.size < _; omega)
    have hb2 := below_new w1 (.cells #[.pointer none, .slice none 0 0] 49)
    have hb02 := below_join hb1 hb2
    have cw := write_at d a n AU kU AV kV w1.heap.size w1.heap.size [] W0 (w1.alloc (.cells #[.pointer none, .slice none 0 0] 49)) HF.out.1 HF.out.2 HU.out HV.out hb02 hb1.size HP.out.1 HP.out.2 (fresh_bld w1) hb2.size (by have := HLN.out; simpa using this)
    rw [List.nil_append] at cw
    have HH := Lib.hid (And.intro hb02 hb2)
    have HS1 := Lib.hid hb1.size
    clear cr x0 x1 x2 x3 x4 hb1 hb2 hb02
    go_wp2_with (fail)
    refine cw.mono ?_
    rintro e w3 ⟨rfl, h3⟩
    have cs := Tryz.Builder_String_any_k w1.heap.size w1.heap.size (Sh.bytesT a) w3 h3.bld (Nat.le_trans HH.out.2.size h3.low.size)
    have H3 := Lib.hid h3
    clear cw y0 y1 y2 y3 y4 h3
    go_wp2_with (fail)
    refine cs.mono ?_
    rintro e w4 ⟨rfl, _, h4, _⟩
    clear cs
    go_wp2_with (fail)
    go_ret2
    refine ⟨rfl, below_join HB.out ?_⟩
    have hlow : Below W0.heap.size W0 w4 := HH.out.1.trans ((below_low H3.out.low HS1.out).trans (below_low h4 HS1.out))
    exact hlow
end Go.Proofs.YteimbdklakemaaaGreatDoor
