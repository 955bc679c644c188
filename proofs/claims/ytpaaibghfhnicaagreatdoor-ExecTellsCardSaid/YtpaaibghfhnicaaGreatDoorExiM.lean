/-
  THE DOCUMENT's Run of layer 16.
-/
import Derived.Test.YtpaaibghfhnicaaGreatDoorExeM
import Derived.Test.YtpaaibghfhnicaaGreatDoorExfM
import Derived.Test.YtpaaibghfhnicaaGreatDoorGMtC
import Derived.Test.YtpaaibghfhnicaaGreatDoorGCkC
import Derived.Test.YtpaaibghfhnicaaGreatDoorGHsB
namespace Go.Proofs.YtpaaibghfhnicaaGreatDoor
open Go.RowKit Go.Sort
set_option maxHeartbeats 6400000

theorem below_alloc16 {w W : World} {B : Nat} (h : Below B w W) (hB : B ≤ w.heap.size) (o : Obj) : Below B w (W.alloc o) := h.alloc (Nat.le_trans hB h.size) o
set_option maxRecDepth 100000 in
theorem r16run_any (a : Tr) (cols : List Int) (cv u v dv : Value) (D : List (List (List Vl))) (w : World) (hc : Sl w cv (cols.map (Value.int .i64))) (hu : ∃ d, TsAt d w u a.ks) (hv : PsSome w v a.cs) (hd : Dts w dv D) (hsz : Tr.size a ≤ 1000)
    (hok : Ck.data cols a D = 0 → Ex.Ok 10000 cols D a) :
    Calls Tryz.prog 12 #[.agg #[cv, .int .i64 a.k, .int .i64 a.t, u, v, .bool a.h], dv] w (RunIs w cols a D) := by
  obtain ⟨i0, hi, hz0, hz1, hz2⟩ := info_parts Tryz.infoRow13
  obtain ⟨A, c, rfl, _⟩ := hu.elim fun d h => h.form
  obtain ⟨A', c', rfl, _⟩ := hv.elim fun d h => h.form
  obtain ⟨W0, hW0⟩ : ∃ W0, W0 = w.alloc (Obj.cells #[cv, .int .i64 a.k, .int .i64 a.t, .slice A a.ks.length c, .slice A' a.cs.length c', .bool a.h] 28) := ⟨_, rfl⟩
  obtain ⟨l0, hb0⟩ := box_one (cs := [cv, .int .i64 a.k, .int .i64 a.t, .slice A a.ks.length c, .slice A' a.cs.length c', .bool a.h]) hW0
  have cd := rdata11_any a cols cv _ _ dv D W0 (hc.below hb0 (Nat.le_refl _)) (hu.elim fun d h => ⟨d, h.below hb0 (Nat.le_refl _)⟩) (hv.below hb0 (Nat.le_refl _)) (hd.below hb0 (Nat.le_refl _)) hsz
  obtain ⟨cA, cn, cc, rfl⟩ : ∃ cA cn cc, cv = .slice cA cn cc := by obtain ⟨A, c, h, _⟩ := hc; exact ⟨A, _, c, h⟩
  obtain ⟨DA, dc, rfl, _⟩ := id hd
  obtain ⟨z, hz⟩ : ∃ z, z = Ck.data cols a D := ⟨_, rfl⟩
  have x := fun (W : World) (h : Below W0.heap.size W0 W) => l0.below h l0.lt
  have x0 := l0.cell (i := 0) rfl
  have x1 := l0.cell (i := 1) rfl
  have x2 := l0.cell (i := 2) rfl
  have x3 := l0.cell (i := 3) rfl
  have x4 := l0.cell (i := 4) rfl
  have x5 := l0.cell (i := 5) rfl
  have HX := Lib.hid x
  have HB0 := Lib.hid hb0
  have HW := Lib.hid hW0
  have HZ := Lib.hid hz
  rw [← hz] at cd
  by_cases hz0 : z = 0
  · have hok := hok (HZ.out.symm.trans hz0)
    have hrun : Ex.run cols a D = Ex.rows cols a D := if_pos (HZ.out.symm.trans hz0)
    have CS := Lib.hid (fun W (h : Below W0.heap.size W0 W) => have hbw := below_join hb0 h; hu.elim fun d hd => r10seen_any d a _ (.slice A' a.cs.length c') W (hd.below hbw (Nat.le_refl _)))
    have CT := Lib.hid (fun W (h : Below W0.heap.size W0 W) => have hbw := below_join hb0 h; hu.elim fun d hu => r16tuples_any cols D (.slice DA D.length dc) d a _ (.slice A' a.cs.length c') W (hu.below hbw (Nat.le_refl _)) (hv.below hbw (Nat.le_refl _)) hok (hd.below hbw (Nat.le_refl _)))
    have CF := Lib.hid (fun W (h : Below W0.heap.size W0 W) (tv : Value) (t : List (List Vl)) (ht : RwsOn Al W tv t) (hm : t ∈ Ex.tuples D a) =>
      have hbw := below_join hb0 h
      have hf := Ex.tuples_fit hok.fine hok.len a hok.good t hm
      r13flat_any tv (.slice cA cn cc) t (Tr.seen a) cols W ht (Tr.seen_lt a) (hc.below hbw (Nat.le_refl _)) (by have := hf.len; omega) (fun r hr => by have := hf.row r hr; omega) (by have := hok.len; have := hok.fine.1; omega) (fun x hx => by
        have := (Ck.query_zero (show Ck.query cols a = 0 from by
          have h0 := HZ.out.symm.trans hz0
          unfold Ck.data at h0
          split at h0
          · rename_i hq; exact absurd h0 hq
          · rename_i hq; exact Decidable.not_not.1 hq)).2 x hx
        omega))
    have HLEN := Lib.hid ((hok.few (Nat.le_refl _)).len)
    have HRUN := Lib.hid hrun
    have HTK := Lib.hid (fun q t (h : (Ex.tuples D a)[q]? = some t) => Ex.rows_take (cols := cols) h)
    subst hz0
    clear hc hu hv hd hsz hok hW0 l0 hb0 hz hrun x
    generalize a.ks.length = kl at *
    generalize a.cs.length = cl at *
    generalize D.length = dl at *
    obtain ⟨ak, hak⟩ : ∃ z, z = a.k := ⟨_, rfl⟩
    obtain ⟨at_, hat⟩ : ∃ z, z = a.t := ⟨_, rfl⟩
    obtain ⟨ah, hah⟩ : ∃ z, z = a.h := ⟨_, rfl⟩
    rw [← hak, ← hat, ← hah] at cd CS CT HW HX ⊢
    rw [← hak] at x1
    rw [← hat] at x2
    rw [← hah] at x5
    clear hak hat hah
    obtain ⟨s, hs⟩ : ∃ s, s = Tr.seen a := ⟨_, rfl⟩
    rw [← hs] at CS CF HTK
    have HSS := Lib.hid hs
    clear hs
    go_enter Tryz.func12, Tryz.ntmps12
    go_upto_region 1 with (fail)
    rw [← HW.out]
    go_wp2_with fail
    refine cd.mono ?_
    rintro E w1 ⟨rfl, hb1⟩
    have ct := CT.out w1 hb1
    have l1 := HX.out w1 hb1
    have x1 := l1.cell (i := 1) rfl
    have x2 := l1.cell (i := 2) rfl
    have x3 := l1.cell (i := 3) rfl
    have x4 := l1.cell (i := 4) rfl
    have x5 := l1.cell (i := 5) rfl
    clear cd l1
    go_wp2_with fail
    refine ct.mono ?_
    rintro E w3 ⟨A1, a1, rfl, hT1, hb3⟩
    have HT1 := Lib.hid hT1
    have hb03 := below_join hb1 hb3
    obtain ⟨n, hn⟩ : ∃ n, n = (Ex.tuples D a).length := ⟨_, rfl⟩
    rw [← hn] at HT1 HLEN ⊢
    have HN := Lib.hid hn
    have hn10 := HLEN.out
    have HB3 := Lib.hid hb03
    have HOW := Lib.hid (own_empty w3 53 1 w3.heap.size (Nat.le_refl _) w3.heap.size rfl)
    have hb4 := below_new w3 (Obj.cells #[] 53)
    clear ct hT1 hb3 hb1 hb03 hn x0 x1 x2 x3 x4 x5
    go_wp2_with fail
    obtain ⟨F, hF⟩ : ∃ F : List (List Vl) → List Vl, F = fun t => Mt.flat t s cols := ⟨_, rfl⟩
    have HF := Lib.hid hF
    obtain ⟨TS, hTS⟩ : ∃ TS, TS = Ex.tuples D a := ⟨_, rfl⟩
    have HTS := Lib.hid hTS
    rw [← hTS] at HT1 HN CF HTK
    rw [← hF] at HTK
    clear hF hTS
    go_loopw [8, 9] (fun s i wr => ∃ (q b : Nat) (us : List Value) (B : Option Addr), q ≤ n ∧ i = .int .i64 q ∧ s = .slice B q b ∧ q ≤ b ∧ Hid (RwRow (fun j => w3.heap.size ≤ j) w3.heap.size wr (.slice B q b) q us ((TS.take q).map F)) ∧ Below w3.heap.size w3 wr) (fun _ i _ => n - (intOf i).toNat)
    case atStart => exact ⟨0, 0, [], _, Nat.zero_le _, rfl, rfl, Nat.le_refl _, Lib.hid ⟨HOW.out, by simp, fun i t h => by simp at h⟩, hb4⟩
    case round =>
      obtain ⟨q, b, us, B, hq, rfl, rfl, hqb, HR, hb⟩ := hrel
      by_cases hlt : q < n
      · obtain ⟨t, gt⟩ : ∃ t, TS[q]? = some t := ⟨TS[q]'(by have := HN.out; omega), List.getElem?_eq_getElem _⟩
        obtain ⟨b1, o1, p1, B1, d1, hA1, _, h1⟩ := HT1.out.pick gt
        subst hA1
        obtain ⟨r, hr⟩ : ∃ r, r = Mt.flat t s cols := ⟨_, rfl⟩
        obtain ⟨rl, hrl⟩ : ∃ n, n = r.length := ⟨_, rfl⟩
        obtain ⟨tl, htl⟩ : ∃ n, n = t.length := ⟨_, rfl⟩
        have H1 := Lib.hid h1
        have hmem := List.mem_of_getElem? gt
        have CSW := Lib.hid (fun W (h : Below w3.heap.size w3 W) => (CS.out W (below_join HB3.out h)).mono fun e w' ⟨he, hb⟩ => (⟨he, Lib.hid hb, below_join h hb⟩ : e = _ ∧ Hid (Below W.heap.size W w') ∧ Below w3.heap.size w3 w'))
        have CFW := Lib.hid (fun W (h : Below w3.heap.size w3 W) => (CF.out W (below_join HB3.out h) (.slice B1 t.length d1) t (H1.out W h).2 hmem).mono fun e w' hf =>
          (show ∃ A2 c2, e = Ending.returned (.slice A2 rl c2) ∧ Hid (RowOn (fun k => W.heap.size ≤ k) w' (.slice A2 rl c2) r) ∧ Hid (Below W.heap.size W w') ∧ Below w3.heap.size w3 w' from by
            rw [← hr] at hf
            obtain ⟨A2, c2, rfl, h5, h6⟩ := hf
            rw [hrl]
            exact ⟨A2, c2, rfl, Lib.hid h5, Lib.hid h6, below_join h h6⟩))
        rw [← htl] at CFW H1
        have hmap := HTK.out q t gt
        have hFt : F t = r := by rw [HF.out, hr]
        rw [← hr] at hmap
        have HMAP := Lib.hid hmap
        have HA := Lib.hid (fun W (h : Below wr.heap.size wr W) => (HR.out.below h).own)
        have HS6 := Lib.hid (fun (W w6 : World) (h : Below w3.heap.size w3 W) (hg : W.grownBy w6 (Value.slice B q b).ownBlock) => h.grown hg h.size (fun k hk => (HR.out.own.lt k hk).1))
        have HPUSH := Lib.hid (fun (wA wB w6 : World) (A2 : Option Addr) (c2 : Nat) (v6 : Value) (hA : Hid (Below wr.drew.heap.size wr.drew wA)) (h4 : Hid (RowOn (fun k => wA.heap.size ≤ k) wB (.slice A2 rl c2) r)) (hB : Hid (Below wA.heap.size wA wB))
            (h6 : Hid (w6.ownsRow w3.heap.size 53 1 v6 (q + 1) (us ++ [.slice A2 rl c2]) ∧ (wB.alloc (Obj.cells #[.slice A2 rl c2] 53)).grownBy w6 (Value.slice B q b).ownBlock ∧ (v6.ownBlock = (Value.slice B q b).ownBlock ∨ ∃ g, v6.ownBlock = some g ∧ (wB.alloc (Obj.cells #[.slice A2 rl c2] 53)).heap.size ≤ g))) =>
          have hbA : Below wr.heap.size wr wA := below_join (Below.drew (Below.refl _ _)) hA.out
          have hbB := below_join hbA hB.out
          have hb5 := below_new wB (Obj.cells #[.slice A2 rl c2] 53)
          have hT5 := HR.out.below (below_join hbB hb5)
          have hr5 := h4.out.below hb5 (Nat.le_refl _)
          hT5.push (r := r) (hr5.mono fun k _ hk => ⟨fun e => by have := (HR.out.own.lt k e).2; have := hbA.size; omega, by have := hbA.size; have := hb.size; omega⟩) h6.out.1 h6.out.2.1 h6.out.2.2)
        have KK := Lib.hid (fun W (h : Below w3.heap.size w3 W) => (show (W.cell? ((⟨b1, o1, p1⟩ : Addr).add q) = some (.slice B1 tl d1) ∧ W.cell? ⟨w.heap.size, 0, none⟩ = some (.slice cA cn cc) ∧ W.cell? ⟨w.heap.size, 1, none⟩ = some (.int .i64 ak) ∧ W.cell? ⟨w.heap.size, 2, none⟩ = some (.int .i64 at_) ∧ W.cell? ⟨w.heap.size, 3, none⟩ = some (.slice A kl c) ∧ W.cell? ⟨w.heap.size, 4, none⟩ = some (.slice A' cl c') ∧ W.cell? ⟨w.heap.size, 5, none⟩ = some (.bool ah)) ∧ Below w3.heap.size w3 W from
          have l := HX.out W (below_join HB3.out h)
          ⟨⟨(H1.out W h).1, l.cell (i := 0) rfl, l.cell (i := 1) rfl, l.cell (i := 2) rfl, l.cell (i := 3) rfl, l.cell (i := 4) rfl, l.cell (i := 5) rfl⟩, h⟩))
        have i1 : (0 : Int) ≤ (q : Int) := by omega
        have i2 : (q : Int) < (n : Int) := by omega
        have hS := hb
        clear h1 gt hr hrl htl hmem hmap hFt hb
        go_upto_region 9 with (fail)
        go_region_held3 (fun W => (W.cell? ((⟨b1, o1, p1⟩ : Addr).add q) = some (.slice B1 tl d1) ∧ W.cell? ⟨w.heap.size, 0, none⟩ = some (.slice cA cn cc) ∧ W.cell? ⟨w.heap.size, 1, none⟩ = some (.int .i64 ak) ∧ W.cell? ⟨w.heap.size, 2, none⟩ = some (.int .i64 at_) ∧ W.cell? ⟨w.heap.size, 3, none⟩ = some (.slice A kl c) ∧ W.cell? ⟨w.heap.size, 4, none⟩ = some (.slice A' cl c') ∧ W.cell? ⟨w.heap.size, 5, none⟩ = some (.bool ah)) ∧ Below w3.heap.size w3 W) (first | (exact KK.out _ (by repeat first | assumption | refine Below.drew ?_ | refine below_alloc16 ?_ (Nat.le_refl _) _)))
          (first
            | (go_at_call 20; (with_reducible refine (CSW.out _ (by repeat first | assumption | refine Below.drew ?_)).mono ?_); rintro e wA ⟨rfl, hBA, hSA⟩)
            | (go_at_call 31; (with_reducible refine (CFW.out _ (by repeat first | assumption | refine Below.drew ?_)).mono ?_); rintro e wB ⟨A2, c2, rfl, hR4, hBB, hSB⟩)
            | (refine step_append_at15 rfl (.tmp 27) (.tmp 38) 36 rfl w3.heap.size 53 i0 (.slice none 0 0) 1 24 Tryz.underlying36 hi hz0 hz1 hz2 rfl (by decide) (.slice B q b) q us (by simp [Act.eval]) (HA.out _ (below_alloc16 (below_join (below_join (Below.drew (Below.refl _ _)) hBA.out) hBB.out) (Nat.le_refl _) _)) ⟨wB.heap.size, 0, none⟩ 1 1 [.slice A2 rl c2] (by simp [Act.eval]) rfl (cell_one_new wB (.slice A2 rl c2) 53) (by intro u hu; simp at hu; subst hu; rfl) (by unfold maxLen; omega) (by omega) (below_alloc16 hSB (Nat.le_refl _) _).size ?_; intro v6 w6 hg6; have hS6 := HS6.out _ w6 (below_alloc16 hSB (Nat.le_refl _) _) hg6.out.2.1)
            | (fail "no arm"))
        all_goals
          have hT6 := HPUSH.out wA wB w6 A2 c2 v6 hBA hR4 hBB hg6
          obtain ⟨A5, a5, rfl, ha5⟩ : ∃ A5 a5, v6 = .slice A5 (q + 1) a5 ∧ q + 1 ≤ a5 := by
            rcases hg6.out.1.2 with ⟨rfl, h0⟩ | ⟨g, cap, cur, rfl, _, _, hnc, _⟩
            · omega
            · exact ⟨_, cap, rfl, hnc⟩
          rw [← HMAP.out] at hT6
          have HT6 := Lib.hid hT6
          clear hT6
          go_wp2_with fail
          go_roundw
          case rel => exact ⟨q + 1, a5, _, A5, by omega, by go_num, rfl, ha5, HT6, hS6⟩
          case measure => simp [intOf]; omega
      · have HRES := Lib.hid (show RunIs w cols a D (.returned (.tuple #[.slice B q b, .int .i64 0])) wr from by
          have h1 := HR.out
          rw [List.take_of_length_le (by have := HN.out; omega)] at h1
          have h2 := h1.len
          have h3 := h1.rws
          have h4 : Ex.run cols a D = TS.map F := by rw [HRUN.out, HF.out, HTS.out, HSS.out]; rfl
          exact ⟨B, b, by rw [h4, h2, ← HZ.out], by rw [h4, h2]; exact h3, below_join HB0.out (below_join HB3.out hb)⟩)
        have i2 : ¬ ((q : Int) < (n : Int)) := by omega
        clear hb hlt HR
        go_wp2_with fail
        go_ret2
        exact HRES.out
  · have hrun : Ex.run cols a D = [] := if_neg (fun e => hz0 (HZ.out.trans e))
    have HRUN := Lib.hid hrun
    have hz1 : (z != 0) = true := by simpa using hz0
    clear hc hu hv hd hsz hok hW0 l0 hb0 hz hrun x
    go_enter Tryz.func12, Tryz.ntmps12
    go_upto_region 1 with (fail)
    rw [← HW.out]
    go_wp2_with fail
    refine cd.mono ?_
    rintro E w1 ⟨rfl, hb1⟩
    have HRES := Lib.hid (show RunIs w cols a D (.returned (.tuple #[.slice none 0 0, .int .i64 z])) w1 from
      ⟨none, 0, by rw [HRUN.out, ← HZ.out]; rfl, by rw [HRUN.out]; exact ⟨[], (SlOn.nil Al _).sl, rfl, fun i r h => by simp at h⟩, below_join HB0.out hb1⟩)
    clear cd hb1 x0 x1 x2 x3 x4 x5
    go_wp2_with fail
    go_ret2
    exact HRES.out
end Go.Proofs.YtpaaibghfhnicaaGreatDoor
