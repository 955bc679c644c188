/-
  PACKAGE exec: Run. Rows in a list of the call's own.
-/
import Derived.Test.YtpaaibghfhnicaaGreatDoorExdM
import Derived.Test.YtpaaibghfhnicaaGreatDoorGMtC
namespace Go.Proofs.YtpaaibghfhnicaaGreatDoor
open Go.RowKit Go.Sort
set_option maxHeartbeats 6400000

/-- rows in a list of the call's own; of each, what it lies in is not the list's block, and is of R -/
structure RwRow (R : Nat → Prop) (base : Nat) (w : World) (v : Value) (n : Nat) (us : List Value) (rs : List (List Vl)) : Prop where
  own : w.ownsRow base 53 1 v n us
  len : rs.length = n
  row : ∀ (i : Nat) (r : List Vl), rs[i]? = some r → ∃ u, us[i]? = some u ∧ RowOn (fun k => v.ownBlock ≠ some k ∧ R k) w u r
theorem RwRow.below {R : Nat → Prop} {base n : Nat} {w w' : World} {v : Value} {us : List Value} {rs : List (List Vl)} (h : RwRow R base w v n us rs) (hb : Below w.heap.size w w') : RwRow R base w' v n us rs :=
  ⟨own_keeps h.own (keeps_below hb) (fun k hk => (h.own.lt k hk).2), h.len, fun i t hi => by obtain ⟨u, hu, hr⟩ := h.row i t hi; exact ⟨u, hu, hr.below hb (Nat.le_refl _)⟩⟩
theorem RwRow.push {R : Nat → Prop} {base n : Nat} {w w' : World} {v : Value} {us : List Value} {rs : List (List Vl)} {v' u : Value} {r : List Vl} (h : RwRow R base w v n us rs) (hu : RowOn (fun k => v.ownBlock ≠ some k ∧ R k) w u r)
    (hown : w'.ownsRow base 53 1 v' (n + 1) (us ++ [u])) (hg : w.grownBy w' v.ownBlock) (hw : v'.ownBlock = v.ownBlock ∨ ∃ g, v'.ownBlock = some g ∧ w.heap.size ≤ g) : RwRow R base w' v' (n + 1) (us ++ [u]) (rs ++ [r]) := by
  have hkp : ∀ {x : Value} {y : List Vl}, RowOn (fun k => v.ownBlock ≠ some k ∧ R k) w x y → RowOn (fun k => v'.ownBlock ≠ some k ∧ R k) w' x y := fun {x y} hx => by
    have h1 : RowOn (fun k => (v.ownBlock ≠ some k ∧ R k) ∧ k < w.heap.size) w x y := hx.mono fun k hk1 hk2 => ⟨hk2, hk1⟩
    refine (h1.keep (keeps_grown hg) fun _ _ hk2 => hk2.1.1).mono fun _ _ hk2 => ⟨?_, hk2.1.2⟩
    rcases hw with e | ⟨g, e, hge⟩
    · rw [e]; exact hk2.1.1
    · rw [e]; intro e2; cases e2; have := hk2.2; omega
  have hul : us.length = n := by have := h.own.1; omega
  refine ⟨hown, by rw [List.length_append, h.len]; rfl, fun i x hi => ?_⟩
  by_cases e : i < rs.length
  · rw [List.getElem?_append_left e] at hi
    obtain ⟨y, hy, hr⟩ := h.row i x hi
    exact ⟨y, by rw [List.getElem?_append_left (by rw [hul, ← h.len]; exact e)]; exact hy, hkp hr⟩
  · have hi2 : i = rs.length := by
      by_cases e2 : i = rs.length
      · exact e2
      · rw [List.getElem?_eq_none (by simp; omega)] at hi; cases hi
    subst hi2
    rw [List.getElem?_append_right (Nat.le_refl _), Nat.sub_self] at hi
    cases hi
    refine ⟨u, ?_, hkp hu⟩
    rw [List.getElem?_append_right (by rw [hul, h.len]; exact Nat.le_refl _), hul, h.len, Nat.sub_self]
    rfl
theorem RwRow.rws {R : Nat → Prop} {base n : Nat} {w : World} {v : Value} {us : List Value} {rs : List (List Vl)} (h : RwRow R base w v n us rs) : Rws w v rs :=
  ⟨us, (SlOn.own h.own).sl, by have := h.own.1; have := h.len; omega, fun i r hi => by obtain ⟨u, hu, hr⟩ := h.row i r hi; exact ⟨u, hu, hr.at_⟩⟩
theorem RwRow.form {R : Nat → Prop} {base n : Nat} {w : World} {v : Value} {us : List Value} {rs : List (List Vl)} (h : RwRow R base w v n us rs) : ∃ A c, v = .slice A n c := ownsForm h.own
/-- what Run tells -/
def Ex.run (cols : List Int) (a : Tr) (d : List (List (List Vl))) : List (List Vl) := if Ck.data cols a d = 0 then Ex.rows cols a d else []
def RunIs (w : World) (cols : List Int) (a : Tr) (d : List (List (List Vl))) (E : Ending) (w' : World) : Prop :=
  ∃ A c, E = .returned (.tuple #[.slice A (Ex.run cols a d).length c, .int .i64 (Ck.data cols a d)]) ∧ Rws w' (.slice A (Ex.run cols a d).length c) (Ex.run cols a d) ∧ Below w.heap.size w w'
theorem Ex.rows_take {cols : List Int} {a : Tr} {d : List (List (List Vl))} {q : Nat} {t : List (List Vl)} (h : (Ex.tuples d a)[q]? = some t) :
    ((Ex.tuples d a).take (q + 1)).map (fun t => Mt.flat t (Tr.seen a) cols) = ((Ex.tuples d a).take q).map (fun t => Mt.flat t (Tr.seen a) cols) ++ [Mt.flat t (Tr.seen a) cols] := by
  rw [List.take_add_one, h]; simp
set_option maxRecDepth 100000 in
theorem xrun_any (a : Tr) (cols : List Int) (cv u v dv : Value) (D : List (List (List Vl))) (w : World) (hc : Sl w cv (cols.map (Value.int .i64))) (hu : ∃ d, TsAt d w u a.ks) (hv : PsSome w v a.cs) (hd : Dts w dv D) (hsz : Tr.size a ≤ 1000) (hW : Want w) (hP : Pows w) (hT : Tab w)
    (hok : Ck.data cols a D = 0 → Ex.Ok 10000 cols D a) :
    Calls Tryz.prog 11 #[.agg #[cv, .int .i64 a.k, .int .i64 a.t, u, v, .bool a.h], dv] w (RunIs w cols a D) := by
  obtain ⟨i0, hi, hz0, hz1, hz2⟩ := info_parts Tryz.infoRow13
  obtain ⟨A, c, rfl, _⟩ := hu.elim fun d h => h.form
  obtain ⟨A', c', rfl, _⟩ := hv.elim fun d h => h.form
  obtain ⟨W0, hW0⟩ : ∃ W0, W0 = w.alloc (Obj.cells #[cv, .int .i64 a.k, .int .i64 a.t, .slice A a.ks.length c, .slice A' a.cs.length c', .bool a.h] 28) := ⟨_, rfl⟩
  obtain ⟨l0, hb0⟩ := box_one (cs := [cv, .int .i64 a.k, .int .i64 a.t, .slice A a.ks.length c, .slice A' a.cs.length c', .bool a.h]) hW0
  have cd := data11_any a cols cv _ _ dv D W0 (hc.below hb0 (Nat.le_refl _)) (hu.elim fun d h => ⟨d, h.below hb0 (Nat.le_refl _)⟩) (hv.below hb0 (Nat.le_refl _)) (hd.below hb0 (Nat.le_refl _)) hsz
  obtain ⟨cA, cn, cc, rfl⟩ : ∃ cA cn cc, cv = .slice cA cn cc := by obtain ⟨A, c, h, _⟩ := hc; exact ⟨A, _, c, h⟩
  obtain ⟨DA, dc, rfl, _⟩ := id hd
  obtain ⟨z, hz⟩ : ∃ z, z = Ck.data cols a D := ⟨_, rfl⟩
  have x := fun (W : World) (h : Below W0.heap.size W0 W) => l0.below h l0.lt
  have x0 := l0.cell (i := 0) rfl
  have x1 := l0.cell (i := 1) rfl
  have x2 := l0.cell (i := 2) rfl
  have x3 := l0.cell (i := 3) rfl
  have x4 := l0.cell (i := 4) rfl
  have x5 := l0.cell (i := 5) rfl
  have HX := Lib.hid x
  have HB0 := Lib.hid hb0
  have HW := Lib.hid hW0
  have HZ := Lib.hid hz
  rw [← hz] at cd
  by_cases hz0 : z = 0
  · have hok := hok (HZ.out.symm.trans hz0)
    have hrun : Ex.run cols a D = Ex.rows cols a D := if_pos (HZ.out.symm.trans hz0)
    have CS := Lib.hid (fun W (h : Below W0.heap.size W0 W) => have hbw := below_join hb0 h; hu.elim fun d hd => tseen_any d a _ (.slice A' a.cs.length c') W (hd.below hbw (Nat.le_refl _)) (hv.below hbw (Nat.le_refl _)))
    have CT := Lib.hid (fun W (h : Below W0.heap.size W0 W) => have hbw := below_join hb0 h; hu.elim fun d hu => xtuples_own cols D (.slice DA D.length dc) d a _ (.slice A' a.cs.length c') W (hu.below hbw (Nat.le_refl _)) (hv.below hbw (Nat.le_refl _)) hok (hd.below hbw (Nat.le_refl _)) (hW.below hbw (Nat.le_refl _)) (hP.below hbw (Nat.le_refl _)))
    have CF := Lib.hid (fun W (h : Below W0.heap.size W0 W) (tv : Value) (t : List (List Vl)) (ht : RwsOn Al W tv t) (hm : t ∈ Ex.tuples D a) =>
      have hbw := below_join hb0 h
      have hf := Ex.tuples_fit hok.fine hok.len a hok.good t hm
      flat_any tv (.slice cA cn cc) t (Tr.seen a) cols W ht (Tr.seen_lt a) (hc.below hbw (Nat.le_refl _)) (by have := hf.len; omega) (fun r hr => by have := hf.row r hr; omega) (by have := hok.len; have := hok.fine.1; omega) (fun x hx => by
        have := (Ck.query_zero (show Ck.query cols a = 0 from by
          have h0 := HZ.out.symm.trans hz0
          unfold Ck.data at h0
          split at h0
          · rename_i hq; exact absurd h0 hq
          · rename_i hq; exact Decidable.not_not.1 hq)).2 x hx
        omega) (hT.below hbw))
    have HLEN := Lib.hid ((hok.few (Nat.le_refl _)).len)
    have HRUN := Lib.hid hrun
    have HTK := Lib.hid (fun q t (h : (Ex.tuples D a)[q]? = some t) => Ex.rows_take (cols := cols) h)
    subst hz0
    clear hc hu hv hd hsz hW hP hT hok hW0 l0 hb0 hz hrun x
    generalize a.ks.length = kl at *
    generalize a.cs.length = cl at *
    generalize D.length = dl at *
    obtain ⟨ak, hak⟩ : ∃ z, z = a.k := ⟨_, rfl⟩
    obtain ⟨at_, hat⟩ : ∃ z, z = a.t := ⟨_, rfl⟩
    obtain ⟨ah, hah⟩ : ∃ z, z = a.h := ⟨_, rfl⟩
    rw [← hak, ← hat, ← hah] at cd CS CT HW HX ⊢
    rw [← hak] at x1
    rw [← hat] at x2
    rw [← hah] at x5
    clear hak hat hah
    go_enter Tryz.func11, Tryz.ntmps11
    go_upto_region 1 with (fail)
    rw [← HW.out]
    go_wp2_with fail
    refine cd.mono ?_
    rintro E w1 ⟨rfl, hb1⟩
    have cs := CS.out w1 hb1
    have l1 := HX.out w1 hb1
    have x1 := l1.cell (i := 1) rfl
    have x2 := l1.cell (i := 2) rfl
    have x3 := l1.cell (i := 3) rfl
    have x4 := l1.cell (i := 4) rfl
    have x5 := l1.cell (i := 5) rfl
    clear cd l1
    go_wp2_with fail
    refine cs.mono ?_
    rintro E w2 ⟨rfl, hb2⟩
    have hb02 := below_join hb1 hb2
    have ct := CT.out w2 hb02
    have l1 := HX.out w2 hb02
    have x1 := l1.cell (i := 1) rfl
    have x2 := l1.cell (i := 2) rfl
    have x3 := l1.cell (i := 3) rfl
    have x4 := l1.cell (i := 4) rfl
    have x5 := l1.cell (i := 5) rfl
    clear cs l1 hb1 hb2
    go_wp2_with fail
    refine ct.mono ?_
    rintro E w3 ⟨A1, a1, us1, rfl, hT1, ha1, hb3⟩
    have HT1 := Lib.hid hT1.tus
    have hb03 := below_join hb02 hb3
    obtain ⟨n, hn⟩ : ∃ n, n = (Ex.tuples D a).length := ⟨_, rfl⟩
    rw [← hn] at HT1 HLEN ⊢
    have HN := Lib.hid hn
    have hn10 := HLEN.out
    have HB3 := Lib.hid hb03
    clear ct hT1 ha1 hb3 hb02 hb03 hn x0 x1 x2 x3 x4 x5
    go_wp2_with fail
    obtain ⟨F, hF⟩ : ∃ F : List (List Vl) → List Vl, F = fun t => Mt.flat t (Tr.seen a) cols := ⟨_, rfl⟩
    have HF := Lib.hid hF
    obtain ⟨TS, hTS⟩ : ∃ TS, TS = Ex.tuples D a := ⟨_, rfl⟩
    have HTS := Lib.hid hTS
    rw [← hTS] at HT1 HN CF HTK
    rw [← hF] at HTK
    clear hF hTS
    go_loopw [8, 25] (fun s i wr => ∃ (q b : Nat) (us : List Value) (B : Option Addr), q ≤ n ∧ i = .int .i64 q ∧ s = .slice B q b ∧ q ≤ b ∧ Hid (RwRow (fun j => w3.heap.size ≤ j) w3.heap.size wr (.slice B q b) q us ((TS.take q).map F)) ∧ Below w3.heap.size w3 wr) (fun _ i _ => n - (intOf i).toNat)
    case atStart => exact ⟨0, 0, [], none, Nat.zero_le _, rfl, rfl, Nat.le_refl _, Lib.hid ⟨World.ownsRow_nil _ _ _ _, by simp, fun i t h => by simp at h⟩, Below.refl _ _⟩
    case round =>
      obtain ⟨q, b, us, B, hq, rfl, rfl, hqb, HR, hb⟩ := hrel
      by_cases hlt : q < n
      · obtain ⟨t, gt⟩ : ∃ t, TS[q]? = some t := ⟨TS[q]'(by have := HN.out; omega), List.getElem?_eq_getElem _⟩
        obtain ⟨b1, o1, p1, B1, d1, hA1, _, h1⟩ := HT1.out.pick gt
        subst hA1
        obtain ⟨hcell, hu⟩ := h1 wr hb
        have hbw := below_join HB3.out hb
        have cf := CF.out wr hbw _ t hu (List.mem_of_getElem? gt)
        have hmap := HTK.out q t gt
        obtain ⟨r, hr⟩ : ∃ r, r = Mt.flat t (Tr.seen a) cols := ⟨_, rfl⟩
        rw [← hr] at cf hmap
        have HMAP := Lib.hid hmap
        have x0 := (HX.out wr hbw).cell (i := 0) rfl
        have i1 : (0 : Int) ≤ (q : Int) := by omega
        have i2 : (q : Int) < (n : Int) := by omega
        obtain ⟨tl, htl⟩ : ∃ n, n = t.length := ⟨_, rfl⟩
        rw [← htl] at cf hcell
        clear h1 hu gt hr hmap htl hbw
        go_wp2_with fail
        refine cf.mono ?_
        rintro E w4 ⟨A2, c2, rfl, hR4, hb4⟩
        obtain ⟨rl, hrl⟩ : ∃ n, n = r.length := ⟨_, rfl⟩
        rw [← hrl] at hR4 ⊢
        obtain ⟨W5, hW5⟩ : ∃ W5, W5 = w4.alloc (Obj.cells #[.slice A2 rl c2] 53) := ⟨_, rfl⟩
        have hb5 := below_new w4 (Obj.cells #[.slice A2 rl c2] 53)
        rw [← hW5] at hb5
        have hr5 := hR4.below hb5 (Nat.le_refl _)
        have hb45 := below_join hb4 hb5
        have hT5 := HR.out.below hb45
        have HCN := Lib.hid (show ∀ (j : Nat) (x : Value), [Value.slice A2 rl c2][j]? = some x → W5.cell? ((⟨w4.heap.size, 0, none⟩ : Addr).add j) = some x by
          rw [hW5]
          exact cell_one_new w4 (.slice A2 rl c2) 53)
        have HW5 := Lib.hid hW5
        have HT5 := Lib.hid hT5
        have HBB := Lib.hid (below_join hb hb45)
        have HPUSH := Lib.hid (fun v1 w6 (hown : w6.ownsRow w3.heap.size 53 1 v1 (q + 1) (us ++ [.slice A2 rl c2])) (hg : W5.grownBy w6 (Value.slice B q b).ownBlock) (hw : v1.ownBlock = (Value.slice B q b).ownBlock ∨ ∃ g, v1.ownBlock = some g ∧ W5.heap.size ≤ g) =>
          hT5.push (r := r) (by rw [hrl] at hr5 ⊢; exact hr5.mono fun k _ hk => ⟨fun e => by have := (HR.out.own.lt k e).2; omega, by have := hb.size; omega⟩) hown hg hw)
        clear cf hcell hR4 hb4 hrl hW5 hb5 hr5 hb45 hT5 hb x0
        go_wp2_with (first
          | (at_builtin; rw [← HW5.out]; refine wpList_append_at _ rfl _ _ 36 rfl w3.heap.size 53 i0 (.slice none 0 0) 1 24 Tryz.underlying36 hi hz0 hz1 hz2 rfl (by decide) _ q us rfl HT5.out.own ⟨w4.heap.size, 0, none⟩ 1 1 [.slice A2 rl c2] rfl rfl ?c1 ?c2 ?c3 ?c4 ?c5 ?_))
        case c1 => exact HCN.out
        case c2 => intro u hu; simp at hu; subst hu; rfl
        case c3 => unfold maxLen; omega
        case c4 => omega
        case c5 => exact HBB.out.size
        intro v1 w6 hown3 hgrow hwhere
        have hT6 := HPUSH.out v1 w6 hown3 hgrow hwhere
        have hb6 : Below w3.heap.size w3 w6 := HBB.out.grown hgrow HBB.out.size (fun k hk => (HT5.out.own.lt k hk).1)
        obtain ⟨A5, a5, rfl, ha5⟩ : ∃ A5 a5, v1 = .slice A5 (q + 1) a5 ∧ q + 1 ≤ a5 := by
          rcases hown3.2 with ⟨rfl, h0⟩ | ⟨g, cap, cur, rfl, _, _, hnc, _⟩
          · omega
          · exact ⟨_, cap, rfl, hnc⟩
        rw [← HMAP.out] at hT6
        have HT6 := Lib.hid hT6
        clear hT6 hown3 hgrow hwhere
        go_wp2_with fail
        go_roundw
        case rel => exact ⟨q + 1, a5, _, A5, by omega, by go_num, rfl, ha5, HT6, hb6⟩
        case measure => simp [intOf]; omega
      · have HRES := Lib.hid (show RunIs w cols a D (.returned (.tuple #[.slice B q b, .int .i64 0])) wr from by
          have h1 := HR.out
          rw [List.take_of_length_le (by have := HN.out; omega)] at h1
          have h2 := h1.len
          have h3 := h1.rws
          have h4 : Ex.run cols a D = TS.map F := by rw [HRUN.out, HF.out, HTS.out]; rfl
          exact ⟨B, b, by rw [h4, h2, ← HZ.out], by rw [h4, h2]; exact h3, below_join HB0.out (below_join HB3.out hb)⟩)
        have i2 : ¬ ((q : Int) < (n : Int)) := by omega
        clear hb hlt HR
        go_wp2_with fail
        go_ret2
        exact HRES.out
  · have hrun : Ex.run cols a D = [] := if_neg (fun e => hz0 (HZ.out.trans e))
    have HRUN := Lib.hid hrun
    have hz1 : (z != 0) = true := by simpa using hz0
    clear hc hu hv hd hsz hW hP hT hok hW0 l0 hb0 hz hrun x
    go_enter Tryz.func11, Tryz.ntmps11
    go_upto_region 1 with (fail)
    rw [← HW.out]
    go_wp2_with fail
    refine cd.mono ?_
    rintro E w1 ⟨rfl, hb1⟩
    have HRES := Lib.hid (show RunIs w cols a D (.returned (.tuple #[.slice none 0 0, .int .i64 z])) w1 from
      ⟨none, 0, by rw [HRUN.out, ← HZ.out]; rfl, by rw [HRUN.out]; exact ⟨[], (SlOn.nil Al _).sl, rfl, fun i r h => by simp at h⟩, below_join HB0.out hb1⟩)
    clear cd hb1 x0 x1 x2 x3 x4 x5
    go_wp2_with fail
    go_ret2
    exact HRES.out
end Go.Proofs.YtpaaibghfhnicaaGreatDoor
