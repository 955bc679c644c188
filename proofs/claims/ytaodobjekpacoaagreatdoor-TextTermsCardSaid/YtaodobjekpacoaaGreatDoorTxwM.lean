/-
  THE CHAPTER's EXAMPLE, and a text that is none.
-/
import Derived.Test.YtaodobjekpacoaaGreatDoorTxsM
import Derived.Test.YtaodobjekpacoaaGreatDoorGPred
namespace Go.Proofs.YtaodobjekpacoaaGreatDoor
open Go.RowKit Go.Sort
set_option maxHeartbeats 6400000

def exA : List UInt8 := [226, 136, 167, 40, 61, 48, 46, 48, 44, 49, 46, 48, 59, 194, 172, 226, 136, 133, 50, 46, 49, 41]
def exB : List UInt8 := [61, 48, 46, 48, 32, 49, 46, 48]
theorem exA_e : (Tx.parse (Rn.runes exA)).e = 0 := by decide +kernel
theorem exA_i : (Tx.parse (Rn.runes exA)).i = 17 := by decide +kernel
theorem exA_k : (Tx.parse (Rn.runes exA)).x.f.k = 4 := by decide +kernel
theorem exA_n : (Tx.parse (Rn.runes exA)).x.ps.length = 2 := by decide +kernel
theorem exA_6 : ((Tx.parse (Rn.runes exA)).x.ps[1]?).map (fun p => p.f.k) = some 6 := by decide +kernel
theorem exB_e : (Tx.parse (Rn.runes exB)).e = 1 := by decide +kernel
theorem exB_i : (Tx.parse (Rn.runes exB)).i = 4 := by decide +kernel
theorem exC_r : Pr.rightAt (.mk ⟨2, 0, 1, ⟨1, 0, 0, false, 0⟩, ⟨1, 1, 0, false, 0⟩⟩ []) 1 = true := by decide +kernel
theorem exC_t : Tx.told (.mk ⟨2, 0, 1, ⟨1, 0, 0, false, 0⟩, ⟨1, 1, 0, false, 0⟩⟩ []) = [61, 48, 46, 48, 44, 49, 46, 48] := by
  unfold Tx.told
  rw [if_pos exC_r, Tx.bytes_cmp _ _ rfl, Tx.termBytes_col rfl, Tx.termBytes_col rfl]
  decide +kernel
set_option maxRecDepth 100000 in
theorem awake8_of (hpred : ∀ {w0 : World} {R b c : Nat} {l : List Int}, Src w0 R b c l → PredAt w0 R b c l 4) (w : World) (hE : ErrR w) (hP : Pows w) :
    Calls Tryz.prog 7 #[] w fun e w' => e = .returned (.bool true) ∧ Below w.heap.size w w' := by
  have ca := tparse_of hpred exA w (by decide) hE
  have cb := fun W hb => tparse_of hpred exB W (by decide) (hE.below (w' := W) hb (Nat.le_refl _))
  have ha1 := exA_e
  have ha2 := exA_i
  have ha3 := exA_k
  have ha4 := exA_n
  have ha5 := exA_6
  have hb1 := exB_e
  have hb2 := exB_i
  generalize Tx.parse (Rn.runes exA) = ga at ca ha1 ha2 ha3 ha4 ha5
  generalize Tx.parse (Rn.runes exB) = gb at cb hb1 hb2
  obtain ⟨xa, ia, ea⟩ := ga
  obtain ⟨xb, ib, eb⟩ := gb
  simp only at ha1 ha2 ha3 ha4 ha5 hb1 hb2
  subst ha1 ha2 hb1 hb2
  have CB := Lib.hid cb
  have HP := Lib.hid hP
  clear hE cb hP
  go_enter Tryz.func7, Tryz.ntmps7
  go_wp2_with (fail)
  refine ca.mono ?_
  rintro E w1 ⟨f, A, m, kk, ps, rfl, hx, hin, hb1⟩
  obtain ⟨o1, ho1⟩ : ∃ o1, o1 = Obj.cells #[.int .i64 f.k, .int .i64 f.u, .int .i64 f.o, .int .i64 f.a.k, .int .i64 f.a.t, .int .i64 f.a.c, .bool f.a.z, .int .i64 f.a.n, .int .i64 f.b.k, .int .i64 f.b.t, .int .i64 f.b.c, .bool f.b.z, .int .i64 f.b.n, .slice A m kk] 35 := ⟨_, rfl⟩
  have l1 : Lies (w1.alloc o1) w1.heap.size 35 [.int .i64 f.k, .int .i64 f.u, .int .i64 f.o, .int .i64 f.a.k, .int .i64 f.a.t, .int .i64 f.a.c, .bool f.a.z, .int .i64 f.a.n, .int .i64 f.b.k, .int .i64 f.b.t, .int .i64 f.b.c, .bool f.b.z, .int .i64 f.b.n, .slice A m kk] := by rw [ho1]; exact Lies.new _ _ _
  have hx0 : xa = .mk f ps := hx.out
  rw [hx0] at ha3 ha4 ha5
  have k4 : f.k = 4 := ha3
  have n2 : ps.length = 2 := ha4
  have hat := (hin.out.at_).below (below_new w1 o1) (Nat.le_refl _)
  obtain ⟨A', c', hv, _⟩ := hat.form
  injection hv with hv1 hv2 hv3
  subst hv1 hv3
  rw [n2] at hv2
  subst hv2
  have hbw := below_join hb1 (below_new w1 o1)
  obtain ⟨p6, hp6, hk6⟩ : ∃ p, ps[1]? = some p ∧ p.f.k = 6 := by
    cases h : ps[1]? with
    | none => rw [show (Pd.mk f ps).ps = ps from rfl, h] at ha5; cases ha5
    | some p => rw [show (Pd.mk f ps).ps = ps from rfl, h] at ha5; exact ⟨p, rfl, by simpa using ha5⟩
  have hat2 : PsAt 4 (w1.alloc o1) (.slice A ps.length kk) ps := by rw [n2]; exact hat
  obtain ⟨e6, b6, o6, s6, u6, _, rfl, hb6, hx6⟩ := hat2.at_ hp6
  have HX6 := Lib.hid hx6
  have HB6 := Lib.hid hb6
  have HO1 := Lib.hid ho1
  have L1 := Lib.hid l1
  have K4 := Lib.hid k4
  have K6 := Lib.hid hk6
  have N2 := Lib.hid n2
  clear ca hx hin hb1 hx0 ha3 ha4 ha5 hat hat2 hp6 hx6 hb6 ho1 l1 k4 hk6 n2
  go_upto_region 2 with (fail)
  rw [← HO1.out]
  obtain ⟨w2, hw2⟩ : ∃ w2, w2 = w1.alloc o1 := ⟨_, rfl⟩
  have HW2 := Lib.hid hw2
  rw [← hw2] at hbw HX6 HB6 L1 ⊢
  have HBW := Lib.hid hbw
  clear hw2 hbw
  go_wp2_with (fail)
  refine (equal6_any 0 1 _).mono ?_
  rintro E w3 ⟨rfl, hb3⟩
  have cp := tpred_any 0 ⟨2, 0, 1, ⟨1, 0, 0, false, 0⟩, ⟨1, 1, 0, false, 0⟩⟩ (.slice none 0 0) [] w3 ⟨rfl, none, 0, rfl⟩ ⟨⟨by decide, by decide⟩, ⟨by decide, by decide⟩, trivial⟩ (by rw [Pr.size, Pr.sizes]; decide) (HP.out.below (below_join HBW.out hb3) (Nat.le_refl _))
  rw [exC_t, if_pos exC_r] at cp
  go_wp2_with (fail)
  refine cp.mono ?_
  rintro E w4 ⟨rfl, hb4⟩
  have hb24 := below_join hb3 hb4
  clear cp hb3 hb4
  have cb := CB.out w4 (below_join HBW.out hb24)
  go_wp2_with (fail)
  refine cb.mono ?_
  rintro E w5 ⟨f2, A2, m2, k2, ps2, rfl, _, _, hb5⟩
  have hb25 := below_join hb24 hb5
  obtain ⟨o2, ho2⟩ : ∃ o2, o2 = Obj.cells #[.int .i64 f2.k, .int .i64 f2.u, .int .i64 f2.o, .int .i64 f2.a.k, .int .i64 f2.a.t, .int .i64 f2.a.c, .bool f2.a.z, .int .i64 f2.a.n, .int .i64 f2.b.k, .int .i64 f2.b.t, .int .i64 f2.b.c, .bool f2.b.z, .int .i64 f2.b.n, .slice A2 m2 k2] 35 := ⟨_, rfl⟩
  have hb26 := below_join hb25 (below_new w5 o2)
  have HO2 := Lib.hid ho2
  clear cb hb24 hb5 hb25 ho2
  go_upto_region 4 with (fail)
  rw [← HO2.out]
  obtain ⟨w6, hw6⟩ : ∃ w6, w6 = w5.alloc o2 := ⟨_, rfl⟩
  rw [← hw6] at hb26 ⊢
  have L6 := L1.out.below hb26 L1.out.lt
  have y0 := L6.cell (i := 0) rfl
  have y13 := L6.cell (i := 13) rfl
  have c0 := (HX6.out w6 hb26).1.c0
  rw [K4.out] at y0
  rw [K6.out] at c0
  have c0' : w6.cell? ⟨b6, o6 + 14, none⟩ = some (.int .i64 6) := c0
  have HBF := Lib.hid (below_join HBW.out hb26)
  clear hw6 hb26 L6
  go_wp2_with (fail)
  go_ret
  exact ⟨rfl, HBF.out⟩
end Go.Proofs.YtaodobjekpacoaaGreatDoor
