/-
  THE LAW ExecHash.
-/
import Derived.Test.YtpaaibghfhnicaaGreatDoorExlM
import Derived.Test.YtpaaibghfhnicaaGreatDoorExwM
namespace Go.Proofs.YtpaaibghfhnicaaGreatDoor
open Go.RowKit Go.Sort
set_option maxHeartbeats 6400000

theorem flat_le16h {t : List (List Vl)} {s : Nat} {cols : List Int} (hc : cols.length ≤ 64) (hx : ∀ x ∈ cols, x ≤ 100) : (Mt.flat t s cols).length ≤ 6400 := by
  rw [← Mt.flat_memb t s cols hc, Mt.flatOf_length]
  refine Nat.le_trans (Mt.wide_le hx _) ?_
  have : (St.memb (s &&& St.belowN ((cols.length : Int) - 1))).length ≤ 64 := by
    unfold St.memb St.membTo
    exact Nat.le_trans (List.length_filter_le _ _) (by simp)
  omega
theorem run_le16h {cols : List Int} {a : Tr} {D : List (List (List Vl))} (hz : Ck.data cols a D = 0) (hok : Ex.Ok 10000 cols D a) : (Ex.run cols a D).length ≤ 10000 ∧ ∀ x ∈ Ex.run cols a D, x.length ≤ 6400 := by
  unfold Ex.run
  rw [if_pos hz]
  have hs := Ex.sound_of hz
  refine ⟨by unfold Ex.rows; rw [List.length_map]; exact (hok.few (Nat.le_refl _)).len, fun x hx => ?_⟩
  obtain ⟨t, _, rfl⟩ := List.mem_map.1 hx
  exact flat_le16h hs.wide fun x hx => by have := hs.col x hx; omega
theorem r9same16h {r : List (List Vl)} {u v : Value} {w : World} (hu : Rws w u r) (hv : Rws w v r) (hr : r.length ≤ 10000) (hx : ∀ x ∈ r, x.length ≤ 6400) :
    Calls Tryz.prog 13 #[u, v] w fun e w' => e = .returned (.bool true) ∧ Below w.heap.size w w' := by
  obtain ⟨vs, hvs⟩ := hu
  obtain ⟨us, hus⟩ := hv
  have h := r9list_any u v vs us r r w hvs hus (fun x h => Nat.le_trans (hx x h) (by decide)) (fun x h => Nat.le_trans (hx x h) (by decide)) (Nat.le_trans hr (by decide)) (Nat.le_trans hr (by decide))
  rw [show decide (Bg.lex Bg.cr r r = 0) = true from decide_eq_true ((Bg.lex_cmp Bg.cr_cmp).self _)] at h
  exact h
/-- Run of the tree with Hash in some operators tells the same -/
theorem xrun_hashed (b : Nat) (a : Tr) (cols : List Int) (cv u v dv : Value) (D : List (List (List Vl))) (w : World) (hc : Sl w cv (cols.map (Value.int .i64))) (hu : ∃ d, TsAt d w u (Ex.hashed b a).ks) (hv : PsSome w v a.cs) (hd : Dts w dv D) (hsz : Tr.size a ≤ 1000) (hW : Want w) (hP : Pows w) (hT : Tab w)
    (hwf : ∀ rs ∈ D, ∀ x ∈ rs, ∀ v ∈ x, -9223372036854775808 ≤ v.2 ∧ v.2 ≤ 9223372036854775807) (hz : Ck.data cols a D = 0) (hm : Ex.prod D (Tr.all a) ≤ 10000) (RL : Nat) (hRL : RL = (Ex.run cols a D).length) :
    Calls Tryz.prog 11 #[.agg #[cv, .int .i64 a.k, .int .i64 a.t, u, v, .bool (Ex.hashed b a).h], dv] w fun e w' => ∃ A c, e = .returned (.tuple #[.slice A RL c, .int .i64 0]) ∧ Hid (Rws w' (.slice A RL c) (Ex.run cols a D)) ∧ Hid (Below w.heap.size w w') := by
  have hg := (Ex.sound_of hz).good
  have hz2 : Ck.data cols (Ex.hashed b a) D = 0 := by rw [Ex.data_hashed hg]; exact hz
  obtain ⟨h1, h2, h3⟩ := Ex.hashed_same hg b
  have hr : Ex.run cols (Ex.hashed b a) D = Ex.run cols a D := by
    unfold Ex.run
    rw [if_pos hz2, if_pos hz, Ex.rows_hashed hg]
  have hok : Ex.Ok 10000 cols D (Ex.hashed b a) := (Ex.sound_of hz2).ok hwf (by rw [Ex.prod_hashed D a hg]; exact hm) (by rw [Ex.size_hashed a hg]; exact hsz)
  have h := xrun_any (Ex.hashed b a) cols cv u v dv D w hc hu (by rw [h3]; exact hv) hd (by rw [Ex.size_hashed a hg]; exact hsz) hW hP hT (fun _ => hok)
  rw [h1, h2] at h
  refine h.mono ?_
  rintro e w' ⟨A, c, rfl, h5, h6⟩
  rw [hz2, hr, ← hRL]
  rw [hr, ← hRL] at h5
  exact ⟨A, c, rfl, Lib.hid h5, Lib.hid h6⟩
set_option maxRecDepth 100000 in
theorem exechash_any (a : Tr) (cols : List Int) (cv u v dv : Value) (D : List (List (List Vl))) (b : Nat) (w : World) (hc : Sl w cv (cols.map (Value.int .i64))) (hu : ∃ d, TsAt d w u a.ks) (hv : PsSome w v a.cs) (hd : Dts w dv D) (hb64 : b < 18446744073709551616)
    (hwf : ∀ rs ∈ D, ∀ x ∈ rs, ∀ v ∈ x, -9223372036854775808 ≤ v.2 ∧ v.2 ≤ 9223372036854775807) (hW : Want w) (hP : Pows w) (hT : Tab w) :
    Calls Tryz.prog 4 #[.agg #[cv, .int .i64 a.k, .int .i64 a.t, u, v, .bool a.h], dv, .int .u64 (b : Int)] w fun e w' => e = .returned (.bool true) ∧ Below w.heap.size w w' := by
  obtain ⟨A, c, rfl, _⟩ := hu.elim fun d h => h.form
  obtain ⟨A', c', rfl, _⟩ := hv.elim fun d h => h.form
  obtain ⟨W0, hW0⟩ : ∃ W0, W0 = w.alloc (Obj.cells #[cv, .int .i64 a.k, .int .i64 a.t, .slice A a.ks.length c, .slice A' a.cs.length c', .bool a.h] 28) := ⟨_, rfl⟩
  obtain ⟨l0, hb0⟩ := box_one (cs := [cv, .int .i64 a.k, .int .i64 a.t, .slice A a.ks.length c, .slice A' a.cs.length c', .bool a.h]) hW0
  have cb := bears16_any a cols cv (.slice A a.ks.length c) (.slice A' a.cs.length c') dv D 4000 W0 (hc.below hb0 (Nat.le_refl _)) (hu.elim fun d h => ⟨d, h.below hb0 (Nat.le_refl _)⟩) (hv.below hb0 (Nat.le_refl _)) (hd.below hb0 (Nat.le_refl _)) (by decide)
  have CA := Lib.hid (fun W (h : Below W0.heap.size W0 W) => have hbw := below_join hb0 h; awake16_any W (hW.below hbw (Nat.le_refl _)) (hP.below hbw (Nat.le_refl _)) (hT.below hbw))
  have CR := Lib.hid (fun W (h : Below W0.heap.size W0 W) (hs : Tr.size a ≤ 1000) (hok : Ck.data cols a D = 0 → Ex.Ok 10000 cols D a) => have hbw := below_join hb0 h; xrun_any a cols cv (.slice A a.ks.length c) (.slice A' a.cs.length c') dv D W (hc.below hbw (Nat.le_refl _)) (hu.elim fun d h => ⟨d, h.below hbw (Nat.le_refl _)⟩) (hv.below hbw (Nat.le_refl _)) (hd.below hbw (Nat.le_refl _)) hs (hW.below hbw (Nat.le_refl _)) (hP.below hbw (Nat.le_refl _)) (hT.below hbw) hok)
  have CH := Lib.hid (fun (b : Nat) (hb : b < 18446744073709551616) (hg : Ck.Good cols a) W (h : Below W0.heap.size W0 W) => have hbw := below_join hb0 h; hu.elim fun d hu =>
    (hashed16_any (fun k => k < w.heap.size) cols d a (.slice A a.ks.length c) (.slice A' a.cs.length c') b W ((hu.on (T := fun k => k < w.heap.size) fun _ h => h).keep hbw.size fun k hk _ => ⟨hbw.block k hk, hk⟩) ⟨_, _, rfl⟩ hg hb (fun k hk => Nat.lt_of_lt_of_le hk hbw.size)).mono fun e w' ho =>
      (show ∃ A3 n3 c3, e = Ending.returned (.agg #[.int .i64 a.k, .int .i64 a.t, .slice A3 n3 c3, .slice A' a.cs.length c', .bool (Ex.hashed b a).h]) ∧ Hid (∃ d, TsAt d w' (.slice A3 n3 c3) (Ex.hashed b a).ks) ∧ Hid (Below W.heap.size W w') ∧ Below W0.heap.size W0 w' from by
        obtain ⟨A3, n3, c3, rfl, ⟨d, h4⟩, h6⟩ := ho
        exact ⟨A3, n3, c3, rfl, Lib.hid ⟨d, h4.at_⟩, Lib.hid h6, below_join h h6⟩))
  have CX := Lib.hid (fun (b : Nat) (hs : Tr.size a ≤ 1000) (hz : Ck.data cols a D = 0) (hm : Ex.prod D (Tr.all a) ≤ 10000) (RL : Nat) (hRL : RL = (Ex.run cols a D).length) (W : World) (A3 : Option Addr) (n3 c3 : Nat) (h : Below W0.heap.size W0 W) (ht : ∃ d, TsAt d W (.slice A3 n3 c3) (Ex.hashed b a).ks) =>
    have hbw := below_join hb0 h; (xrun_hashed b a cols cv (.slice A3 n3 c3) (.slice A' a.cs.length c') dv D W (hc.below hbw (Nat.le_refl _)) ht (hv.below hbw (Nat.le_refl _)) (hd.below hbw (Nat.le_refl _)) hs (hW.below hbw (Nat.le_refl _)) (hP.below hbw (Nat.le_refl _)) (hT.below hbw) hwf hz hm RL hRL).mono fun e w' ho => (show ∃ A c, e = Ending.returned (.tuple #[.slice A RL c, .int .i64 0]) ∧ Hid (Rws w' (.slice A RL c) (Ex.run cols a D)) ∧ Hid (Below W.heap.size W w') ∧ Below W0.heap.size W0 w' from by
      obtain ⟨A, c, h1, h2, h3⟩ := ho
      exact ⟨A, c, h1, h2, h3, below_join h h3.out⟩))
  obtain ⟨cA, cn, cc, rfl⟩ : ∃ cA cn cc, cv = .slice cA cn cc := by obtain ⟨A, c, h, _⟩ := hc; exact ⟨A, _, c, h⟩
  obtain ⟨DA, dc, rfl, _⟩ := id hd
  have HX := Lib.hid (fun W (h : Below W0.heap.size W0 W) => l0.below h l0.lt)
  have x0 := l0.cell (i := 0) rfl
  have x1 := l0.cell (i := 1) rfl
  have x2 := l0.cell (i := 2) rfl
  have x3 := l0.cell (i := 3) rfl
  have x4 := l0.cell (i := 4) rfl
  have x5 := l0.cell (i := 5) rfl
  have HW := Lib.hid hW0
  have HB0 := Lib.hid hb0
  have HWF := Lib.hid hwf
  have HB64 := Lib.hid hb64
  clear hW0 l0 hb0 hc hu hv hd hwf hW hP hT hb64
  go_enter Tryz.func4, Tryz.ntmps4
  go_upto_region 1 with (fail)
  rw [← HW.out]
  go_wp2_with fail
  refine cb.mono ?_
  rintro e w1 ⟨bb, rfl, hbb, hb1⟩
  cases bb
  · have ca := CA.out w1 hb1
    have HB1 := Lib.hid hb1
    clear cb hb1 hbb x0 x1 x2 x3 x4 x5
    go_wp2_with fail
    refine ca.mono ?_
    rintro e w2 ⟨rfl, hb2⟩
    have HB2 := Lib.hid (below_join HB0.out (below_join HB1.out hb2))
    clear ca hb2
    go_wp2_with fail
    go_ret
    exact ⟨rfl, HB2.out⟩
  obtain ⟨hs, hz, hm⟩ := hbb rfl
  have hs1 : Tr.size a ≤ 1000 := by omega
  have hm1 : Ex.prod D (Tr.all a) ≤ 10000 := by omega
  have hok := (Ex.sound_of hz).ok (M := 10000) HWF.out hm1 hs1
  have HLE := Lib.hid (run_le16h hz hok)
  obtain ⟨RL, hRL⟩ : ∃ n, n = (Ex.run cols a D).length := ⟨_, rfl⟩
  have cr := CR.out w1 hb1 hs1 (fun _ => hok)
  have HZ := Lib.hid hz
  have HRL := Lib.hid hRL
  have CH1 := Lib.hid (CH.out b HB64.out (Ex.sound_of hz).good)
  have CH0 := Lib.hid (CH.out 0 (by decide) (Ex.sound_of hz).good)
  rw [show ((0 : Nat) : Int) = 0 from rfl] at CH0
  have CX1 := Lib.hid (CX.out b hs1 hz hm1 RL hRL)
  have CX0 := Lib.hid (CX.out 0 hs1 hz hm1 RL hRL)
  have l := HX.out w1 hb1
  have x0 := l.cell (i := 0) rfl
  have x1 := l.cell (i := 1) rfl
  have x2 := l.cell (i := 2) rfl
  have x3 := l.cell (i := 3) rfl
  have x4 := l.cell (i := 4) rfl
  have x5 := l.cell (i := 5) rfl
  have HB1 := Lib.hid hb1
  clear cb hb1 l hs hz hm hs1 hm1 hok CH CX CR
  go_wp2_with fail
  refine cr.mono ?_
  rintro e w2 ⟨A2, c2, rfl, hR2, hb2⟩
  rw [HZ.out, ← hRL]
  rw [← hRL] at hR2
  have hb02 := below_join HB1.out hb2
  have HR2 := Lib.hid hR2
  have HB2 := Lib.hid hb02
  obtain ⟨ak, hak⟩ : ∃ z, z = a.k := ⟨_, rfl⟩
  obtain ⟨at_, hat⟩ : ∃ z, z = a.t := ⟨_, rfl⟩
  obtain ⟨ah, hah⟩ : ∃ z, z = a.h := ⟨_, rfl⟩
  obtain ⟨kl, hkl⟩ : ∃ z, z = a.ks.length := ⟨_, rfl⟩
  obtain ⟨cl, hcl⟩ : ∃ z, z = a.cs.length := ⟨_, rfl⟩
  rw [← hak, ← hat, ← hah, ← hkl, ← hcl] at CH1 CH0 HX
  rw [← hak, ← hat, ← hcl] at CX1 CX0
  have KK := Lib.hid (fun W (h : Below W0.heap.size W0 W) => (show (W.cell? ⟨w.heap.size, 0, none⟩ = some (.slice cA cn cc) ∧ W.cell? ⟨w.heap.size, 1, none⟩ = some (.int .i64 ak) ∧ W.cell? ⟨w.heap.size, 2, none⟩ = some (.int .i64 at_) ∧ W.cell? ⟨w.heap.size, 3, none⟩ = some (.slice A kl c) ∧ W.cell? ⟨w.heap.size, 4, none⟩ = some (.slice A' cl c') ∧ W.cell? ⟨w.heap.size, 5, none⟩ = some (.bool ah)) ∧ Below W0.heap.size W0 W from
    have l := HX.out W h
    ⟨⟨l.cell (i := 0) rfl, l.cell (i := 1) rfl, l.cell (i := 2) rfl, l.cell (i := 3) rfl, l.cell (i := 4) rfl, l.cell (i := 5) rfl⟩, h⟩))
  have hS := hb02
  clear cr hb2 hb02 hR2 hRL hak hat hah hkl hcl x0 x1 x2 x3 x4 x5
  go_upto_region 4 with (fail)
  go_region_held3 (fun W => (W.cell? ⟨w.heap.size, 0, none⟩ = some (.slice cA cn cc) ∧ W.cell? ⟨w.heap.size, 1, none⟩ = some (.int .i64 ak) ∧ W.cell? ⟨w.heap.size, 2, none⟩ = some (.int .i64 at_) ∧ W.cell? ⟨w.heap.size, 3, none⟩ = some (.slice A kl c) ∧ W.cell? ⟨w.heap.size, 4, none⟩ = some (.slice A' cl c') ∧ W.cell? ⟨w.heap.size, 5, none⟩ = some (.bool ah)) ∧ Below W0.heap.size W0 W) (first | (exact KK.out _ (by repeat first | assumption | refine Below.drew ?_)))
    (first
      | (go_at_call 18; (with_reducible refine (CH1.out _ (by repeat first | assumption | refine Below.drew ?_)).mono ?_); rintro e wA ⟨A3, n3, c3, rfl, hTA, hBA, hSA⟩)
      | (go_at_call 11; (with_reducible refine (CX1.out _ _ _ _ (by assumption) hTA.out).mono ?_); rintro e wB ⟨A4, c4, rfl, hR4, hBB, hSB⟩)
      | (fail "no arm"))
  all_goals
    have hkB := below_join (below_join (Below.drew (Below.refl w2.heap.size w2)) hBA.out) hBB.out
    have HR2B := Lib.hid (HR2.out.below hkB (Nat.le_refl _))
    have HSB := Lib.hid hSB
    clear hkB hTA hBA hSA hBB
    go_upto_region 5 with (fail)
    go_region_held3 (fun W => (W.cell? ⟨w.heap.size, 0, none⟩ = some (.slice cA cn cc) ∧ W.cell? ⟨w.heap.size, 1, none⟩ = some (.int .i64 ak) ∧ W.cell? ⟨w.heap.size, 2, none⟩ = some (.int .i64 at_) ∧ W.cell? ⟨w.heap.size, 3, none⟩ = some (.slice A kl c) ∧ W.cell? ⟨w.heap.size, 4, none⟩ = some (.slice A' cl c') ∧ W.cell? ⟨w.heap.size, 5, none⟩ = some (.bool ah)) ∧ Below W0.heap.size W0 W) (first | (exact KK.out _ (by repeat first | assumption | refine Below.drew ?_)))
      (first
        | (go_at_call 18; (with_reducible refine (CH0.out _ (by repeat first | assumption | refine Below.drew ?_)).mono ?_); rintro e wC ⟨A5, n5, c5, rfl, hTC, hBC, hSC⟩)
        | (go_at_call 11; (with_reducible refine (CX0.out _ _ _ _ (by assumption) hTC.out).mono ?_); rintro e wD ⟨A6, c6, rfl, hR6, hBD, hSD⟩)
        | (fail "no arm"))
    all_goals
      have hkD := below_join (below_join (Below.drew (Below.refl wB.heap.size wB)) hBC.out) hBD.out
      have c1 := r9same16h (HR2B.out.below hkD (Nat.le_refl _)) (hR4.out.below hkD (Nat.le_refl _)) HLE.out.1 HLE.out.2
      have HA2 := Lib.hid (HR2B.out.below hkD (Nat.le_refl _))
      have HSD := Lib.hid hSD
      clear hkD hTC hBC hSC hBD hSB hS hSD
      go_wp2_with fail
      refine c1.mono ?_
      rintro e w7 ⟨rfl, hb7⟩
      have c2' := r9same16h (HA2.out.below hb7 (Nat.le_refl _)) (hR6.out.below hb7 (Nat.le_refl _)) HLE.out.1 HLE.out.2
      have HB7 := Lib.hid (below_join HSD.out hb7)
      clear c1 hb7
      go_wp2_with fail
      refine c2'.mono ?_
      rintro e w8 ⟨rfl, hb8⟩
      have hb08 := below_join HB7.out hb8
      have ca := CA.out w8 hb08
      have HB8 := Lib.hid hb08
      clear c2' hb8 hb08
      go_wp2_with fail
      refine ca.mono ?_
      rintro e w9 ⟨rfl, hb9⟩
      have HB9 := Lib.hid (below_join HB0.out (below_join HB8.out hb9))
      clear ca hb9
      go_wp2_with fail
      go_ret
      exact ⟨rfl, HB9.out⟩
end Go.Proofs.YtpaaibghfhnicaaGreatDoor
