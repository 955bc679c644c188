/-
  LAID TOGETHER, BY PROGRAM, of: Sid, Sie, Sif, Sih.
-/
import Derived.Test.YteimbdklakemaaaGreatDoorShwM
import Derived.Test.YteimbdklakemaaaGreatDoorShoM
import Derived.Test.YteimbdklakemaaaGreatDoorTxdM
import Derived.Test.YteimbdklakemaaaGreatDoorGCam2
import Derived.Test.YteimbdklakemaaaGreatDoorGSi
import Derived.Test.YteimbdklakemaaaGreatDoorTraM
import Derived.Laws.IdiomStrings
import Derived.BigRegion
import Derived.Deep.RegionHeld3
/-
  A TREE OUT OF A TEXT: Parse.
-/
namespace Go.Proofs.YteimbdklakemaaaGreatDoor
open Go.RowKit Go.Sort
set_option maxHeartbeats 6400000

theorem TrFrom.drew12 {lo : Nat} {w : World} {x : Tr} {U V : Value} (h : TrFrom lo w x U V) : TrFrom lo w.drew x U V := TrOn.keep (w := w) (w' := w.drew) h (Nat.le_refl _) fun _ hk _ => ⟨rfl, hk⟩
theorem leaf_err {l : List Int} {s : Sh.St} (h : s.e ≠ 0) : Sh.leaf l s = (Sh.leafT 0, s) := by
  have hn : Sh.nx l s = -1 := by unfold Sh.nx; rw [if_neg h]
  have hb : Sh.begin_ l s = s := by unfold Sh.begin_; rw [hn]; rfl
  have hd : Sh.digs l s = [] := by unfold Sh.digs; rw [if_neg h]
  unfold Sh.leaf
  simp only
  rw [hb, hd]
  simp only [List.length_nil, Nat.add_zero, if_true]
  unfold Sh.fail
  rw [if_neg h]
  rfl
theorem tree_err {l : List Int} {s : Sh.St} (h : s.e ≠ 0) (f : Tr → Sh.St → Tr × Sh.St) : Sh.ops f (Sh.opens l s) (Sh.leaf l ⟨s.i + Sh.opens l s, s.v, s.e⟩).1 (Sh.leaf l ⟨s.i + Sh.opens l s, s.v, s.e⟩).2 = Sh.tree l 0 s := by
  have ho : Sh.opens l s = 0 := by unfold Sh.opens; rw [if_neg h]
  rw [ho, leaf_err (s := ⟨s.i + 0, s.v, s.e⟩) h, Sh.tree, if_neg h]
  rfl
theorem stree_at {w0 : World} {R b c : Nat} {l : List Int} (hs : Src w0 R b c l) (hg : Sgn w0) : ∀ k, TreeAt w0 R b c l k := by
  intro k
  induction k with
  | zero =>
    intro s w h hk hr
    have he : s.e ≠ 0 := fun e => by have := hr e; have := hk.1; omega
    have := stree_of hs 0 (Sh.tree l 0) (fun s h => h.tree 0) (Sh.tree_took l 0) s w h hk (fun e => absurd e he) (fun e => absurd e he)
    rw [tree_err he] at this
    exact this
  | succ k ih =>
    intro s w h hk hr
    exact stree_of hs k (Sh.tree l k) (fun s h => h.tree k) (Sh.tree_took l k) s w h hk hr (fun _ lo x AU mU kU AV mV kV s w h hk hr hlo hlw hx => soper_of hs hg k lo ih x AU mU kU AV mV kV s w h hk hr hlo hlw hx)
theorem runes_from (bs : List UInt8) : ∀ (k i : Nat) (acc : Array Value), (Conv.runesFrom ⟨bs.toArray⟩ k i acc).toList = acc.toList ++ (Rn.runesAt bs k i).map (fun r => Value.int .i32 r) := by
  intro k
  induction k with
  | zero => intro i acc; simp [Conv.runesFrom, Rn.runesAt]
  | succ k ih =>
    intro i acc
    unfold Conv.runesFrom Rn.runesAt
    by_cases h : i < bs.length
    · rw [if_pos h, if_pos (show i < (⟨bs.toArray⟩ : ByteArray).size from h)]
      show (Conv.runesFrom ⟨bs.toArray⟩ k (i + (Rn.dec bs i).2) (acc.push (.int .i32 (Int.ofNat (Rn.dec bs i).1)))).toList = _
      rw [ih]
      simp
    · rw [if_neg h, if_neg (show ¬ i < (⟨bs.toArray⟩ : ByteArray).size from h)]
      simp
theorem runes_all (bs : List UInt8) : Conv.runesFrom ⟨bs.toArray⟩ (⟨bs.toArray⟩ : ByteArray).size 0 #[] = ((Rn.runes bs).map (fun r => Value.int .i32 r)).toArray := by
  apply Array.ext'
  show (Conv.runesFrom ⟨bs.toArray⟩ bs.length 0 #[]).toList = _
  rw [runes_from bs bs.length 0 #[]]
  simp [Rn.runes]
/-- a tree, a place, an error -/
def GotR (w : World) (l : List Int) (E : Ending) (w' : World) : Prop :=
  ∃ (x : Tr) (A : Option Addr) (m kk : Nat) (A2 : Option Addr) (m2 kc : Nat),
    E = .returned (.tuple #[.agg #[.int .i64 x.k, .int .i64 x.t, .slice A m kk, .slice A2 m2 kc, .bool x.h], .int .i64 (Sh.parse l).i, .int .i64 (Sh.parse l).e]) ∧ Hid ((Sh.parse l).x = x) ∧ Hid (TrHang w' (x, .slice A m kk, .slice A2 m2 kc)) ∧ Below w.heap.size w w'
set_option maxRecDepth 100000 in
theorem sparse_any (bs : List UInt8) (w : World) (hlen : bs.length ≤ 1000000) (hE : ErrR w) (hS : Sgn w) :
    Calls Tryz.prog 7 #[.string ⟨bs.toArray⟩] w (GotR w (Rn.runes bs)) := by
  obtain ⟨l, hl⟩ : ∃ l, l = Rn.runes bs := ⟨_, rfl⟩
  have hll : l.length ≤ 1000000 := by rw [hl]; exact Nat.le_trans (Rn.runes_le bs bs.length 0) hlen
  obtain ⟨o0, ho0⟩ : ∃ o0, o0 = Obj.cells #[.int .i64 0, .int .i64 0, .slice none 0 0, .slice none 0 0, .bool false] 25 := ⟨_, rfl⟩
  have hcv := run_runes_of_string (P := Tryz.prog) (w.alloc o0) 9 34 21 ⟨bs.toArray⟩ Tryz.underlying9 Tryz.underlying34 Tryz.underlying21 (by rw [runes_all, ← hl]; simp; omega)
  rw [runes_all, ← hl] at hcv
  have esz : (l.map (fun r => Value.int .i32 r)).toArray.size = l.length := by simp
  rw [esz] at hcv
  obtain ⟨cp, hcp⟩ : ∃ cp, cp = grownCap (w.alloc o0) l.length 0 21 := ⟨_, rfl⟩
  have hcp1 : l.length ≤ cp := by rw [hcp]; exact grownCap_ge _ _ _ _
  have hcp2 : cp ≤ 9223372036854775807 := by
    have := grownCap_le_maxLen (w.alloc o0) l.length 0 21 (by unfold maxLen; omega)
    rw [← hcp] at this
    unfold maxLen at this
    omega
  rw [← hcp] at hcv
  obtain ⟨o1, ho1⟩ : ∃ o1, o1 = Obj.cells ((l.map (fun r => Value.int .i32 r)).toArray ++ Array.replicate (cp - l.length) (.int .i32 0)) 21 := ⟨_, rfl⟩
  rw [← ho1, World.size_alloc] at hcv
  obtain ⟨w2, hw2⟩ : ∃ w2, w2 = (w.alloc o0).alloc o1 := ⟨_, rfl⟩
  have hz2 : w2.heap.size = w.heap.size + 1 + 1 := by rw [hw2, World.size_alloc, World.size_alloc]
  have hb2 : Below w.heap.size w w2 := by
    rw [hw2]
    exact (below_new w o0).trans (below_low (below_new _ _) (by rw [World.size_alloc]; omega))
  have hl0 : Lies w2 w.heap.size 25 [.int .i64 0, .int .i64 0, .slice none 0 0, .slice none 0 0, .bool false] := by
    rw [hw2, ho0]
    exact (Lies.new w 25 [.int .i64 0, .int .i64 0, .slice none 0 0, .slice none 0 0, .bool false]).alloc _
  have hcell : ∀ (j : Nat) (u : Int), l[j]? = some u → w2.cell? ⟨w.heap.size + 1, j, none⟩ = some (.int .i32 u) := by
    intro j u hj
    have hnew := heap_alloc_new (w.alloc o0) o1
    rw [← hw2] at hnew
    have hsz : (w.alloc o0).heap.size = w.heap.size + 1 := World.size_alloc _ _
    rw [hsz, ho1] at hnew
    rw [Lib.cell_of_heap hnew]
    have hlt : j < l.length := (List.getElem?_eq_some_iff.1 hj).1
    rw [Array.getElem?_append_left (by simpa using hlt)]
    simp [hj]
  obtain ⟨o2, ho2⟩ : ∃ o2, o2 = Obj.cells #[.slice (some ⟨w.heap.size + 1, 0, none⟩) l.length cp, .int .i64 0, .int .i64 0, .int .i64 0] 53 := ⟨_, rfl⟩
  obtain ⟨w3, hw3⟩ : ∃ w3, w3 = (w2.alloc o2).drew := ⟨_, rfl⟩
  have hs : Src w2 (w.heap.size + 1 + 1) (w.heap.size + 1) cp l := ⟨by omega, by omega, hcp1, hcp2, hcell, hll, hE.below hb2 (Nat.le_refl _)⟩
  have hS2 : Sgn w2 := hS.below hb2 (Nat.le_refl _)
  have h3 : SRd w2 w3 (w.heap.size + 1 + 1) (w.heap.size + 1) cp l.length ⟨0, 0, 0⟩ := by
    refine ⟨?_, ?_⟩
    · have := Lies.new w2 53 [.slice (some ⟨w.heap.size + 1, 0, none⟩) l.length cp, .int .i64 ((0 : Nat) : Int), .int .i64 ((0 : Nat) : Int), .int .i64 0]
      rw [hz2] at this
      rw [hw3, ho2]; exact Lies.drew this
    · have := below_new w2 o2
      rw [hz2] at this
      rw [hw3]; exact Below.drew this
  have hb3 : Below w.heap.size w w3 := by rw [hw3]; exact (hb2.trans (below_low (below_new _ _) (by omega))).drew
  have hl03 : Lies w3 w.heap.size 25 [.int .i64 0, .int .i64 0, .slice none 0 0, .slice none 0 0, .bool false] := by rw [hw3]; exact (hl0.alloc _).drew
  have hz3 : w3.heap.size = w.heap.size + 3 := by rw [hw3]; show (w2.alloc o2).heap.size = _; rw [World.size_alloc, hz2]
  have ct := stree_at hs hS2 (l.length + 1) ⟨0, 0, 0⟩ w3 h3 (Sh.ok0 l) (fun _ => by show l.length < 0 + (l.length + 1); omega)
  obtain ⟨gt, hgt⟩ : ∃ gt, gt = Sh.tree l (l.length + 1) ⟨0, 0, 0⟩ := ⟨_, rfl⟩
  rw [← hgt] at ct
  have hkt : Sh.Ok l gt.2 := by rw [hgt]; exact (Sh.ok0 l).tree _
  have HGT := Lib.hid hgt
  have HPA := Lib.hid (show Sh.parse l = if (if Sh.nx l gt.2 = -1 then gt.2 else Sh.fail gt.2.i 1 gt.2).e = 0 then ⟨gt.1, (if Sh.nx l gt.2 = -1 then gt.2 else Sh.fail gt.2.i 1 gt.2).i, 0⟩ else ⟨Sh.zeroT, (if Sh.nx l gt.2 = -1 then gt.2 else Sh.fail gt.2.i 1 gt.2).i, (if Sh.nx l gt.2 = -1 then gt.2 else Sh.fail gt.2.i 1 gt.2).e⟩ by rw [hgt]; rfl)
  rw [← hl]
  have HO0 := Lib.hid ho0
  have HO1 := Lib.hid ho1
  have HO2 := Lib.hid ho2
  have HW2 := Lib.hid hw2
  have HW3 := Lib.hid hw3
  have HS := Lib.hid hs
  have HKT := Lib.hid hkt
  have HB3 := Lib.hid hb3
  have HL03 := Lib.hid hl03
  have HZ3 := Lib.hid hz3
  rw [ho0, ho1] at hcv
  clear hl hlen hE hS ho0 ho1 ho2 esz hcp hcp1 hcp2 hw2 hw3 hz2 hb2 hl0 hcell hs hS2 h3 hb3 hl03 hz3 hgt hkt hll
  go_enter Tryz.func7, Tryz.ntmps7
  go_wp2_with (fail)
  rw [← HO0.out, ← HO1.out, ← HO2.out, ← HW2.out, ← HW3.out]
  refine ct.mono ?_
  rintro E w4 ⟨x, A, m, kk, A2, m2, kc, sa, rfl, hsa, hx, htr, h4, g4⟩
  obtain ⟨o3, ho3⟩ : ∃ o3, o3 = Obj.cells #[.int .i64 x.k, .int .i64 x.t, .slice A m kk, .slice A2 m2 kc, .bool x.h] 25 := ⟨_, rfl⟩
  obtain ⟨w5, hw5⟩ : ∃ w5, w5 = w4.alloc o3 := ⟨_, rfl⟩
  have h5 : SRd w2 w5 (w.heap.size + 1 + 1) (w.heap.size + 1) cp l.length sa := by rw [hw5]; exact h4.alloc _
  have l5 : Lies w5 w4.heap.size 25 [.int .i64 x.k, .int .i64 x.t, .slice A m kk, .slice A2 m2 kc, .bool x.h] := by rw [hw5, ho3]; exact Lies.new _ _ _
  have g5 : Gw (w.heap.size + 1 + 1) w3 w5 := by rw [hw5]; exact g4.trans (Gw.of (below_new _ _))
  have l05 : Lies w5 w.heap.size 25 [.int .i64 0, .int .i64 0, .slice none 0 0, .slice none 0 0, .bool false] := g5.lies HL03.out (by omega)
  have htr5 : sa.e = 0 → TrFrom w3.heap.size w5 x (.slice A m kk) (.slice A2 m2 kc) := fun h0 => by rw [hw5]; exact (htr.out h0).below (below_new _ _)
  have hz5 : w3.heap.size ≤ w4.heap.size := g4.size
  obtain ⟨V, hV⟩ : ∃ V, V = Sh.nx l sa := ⟨_, rfl⟩
  have hka : Sh.Ok l sa := by rw [hsa.out]; exact HKT.out
  have cn := snext_any HS.out sa w5 h5 hka.1 V hV
  have HO3 := Lib.hid ho3
  have HW5 := Lib.hid hw5
  have H5 := Lib.hid h5
  have L5 := Lib.hid l5
  have L05 := Lib.hid l05
  have G5 := Lib.hid g5
  have HTR := Lib.hid htr5
  have HZE := Lib.hid hz5
  have HV := Lib.hid hV
  clear ct htr h4 g4 ho3 hw5 h5 l5 g5 l05 htr5 hz5 hV hka hcv
  go_upto_region 3 with (fail)
  rw [← HO3.out, ← HW5.out]
  go_wp2_with (fail)
  refine cn.mono ?_
  rintro E w6 ⟨rfl, hb6⟩
  have h6 := H5.out.below hb6 H5.out.lt
  have l6 := L5.out.below hb6 L5.out.lt
  have l06 := L05.out.below hb6 L05.out.lt
  have G6 := Lib.hid (G5.out.trans (Gw.of hb6))
  have HTR6 := Lib.hid (fun h0 => TrFrom.below (HTR.out h0) hb6)
  clear cn hb6
  by_cases hv : V = -1
  · have e1 : (V != -1) = false := by simp [hv]
    have e1b : decide (V = -1) = true := by simp [hv]
    have HP2 := Lib.hid (show Sh.parse l = if sa.e = 0 then ⟨gt.1, sa.i, 0⟩ else ⟨Sh.zeroT, sa.i, sa.e⟩ by
      have hc : (if Sh.nx l gt.2 = -1 then gt.2 else Sh.fail gt.2.i 1 gt.2) = sa := by rw [← hsa.out, ← HV.out, if_pos hv]
      rw [HPA.out, hc])
    have G7 := G6
    have HTR7 := HTR6
    have h7 := h6
    have l7 := l6
    have l07 := l06
    obtain ⟨sb, hsb⟩ : ∃ sb, sb = sa := ⟨_, rfl⟩
    have HSB := Lib.hid (show sb.e = 0 → sb = sa from fun _ => hsb)
    rw [← hsb] at h7 HP2
    clear h6 l6 l06 hv hsb
    have x1 := h7.lies.cell (i := 1) rfl
    have x3 := h7.lies.cell (i := 3) rfl
    by_cases he : sb.e = 0
    · have HP3 := Lib.hid (show Sh.parse l = ⟨gt.1, sb.i, 0⟩ by rw [HP2.out, if_pos he])
      have HQQ := Lib.hid (show gt.1 = x from hx.out (by rw [← HSB.out he]; exact he))
      rw [he] at x3
      have y0 := l07.cell (i := 0) rfl
      have f0 := l07.free 0
      have y1 := l07.cell (i := 1) rfl
      have f1 := l07.free 1
      have y2 := l07.cell (i := 2) rfl
      have f2 := l07.free 2
      have y3 := l07.cell (i := 3) rfl
      have f3 := l07.free 3
      have y4 := l07.cell (i := 4) rfl
      have f4 := l07.free 4
      have LF : Lies _ w.heap.size _ [.int .i64 x.k, .int .i64 x.t, .slice A m kk, .slice A2 m2 kc, .bool x.h] := (((((l07.set 0 (.int .i64 x.k)).set 1 (.int .i64 x.t)).set 2 (.slice A m kk)).set 3 (.slice A2 m2 kc)).set 4 (.bool x.h))
      have k0 := LF.cell (i := 0) rfl
      have k1 := LF.cell (i := 1) rfl
      have k2 := LF.cell (i := 2) rfl
      have k3 := LF.cell (i := 3) rfl
      have k4 := LF.cell (i := 4) rfl
      have hzz : w.heap.size < w3.heap.size := by have := HZ3.out; omega
      have HBF := Lib.hid (((((((HB3.out.trans (Gw.below G7.out (B := w.heap.size) (by omega) (by omega))).setCell (p := ⟨w.heap.size, 0, none⟩) (Nat.le_refl _) (.int .i64 x.k)).setCell (p := ⟨w.heap.size, 1, none⟩) (Nat.le_refl _) (.int .i64 x.t)).setCell (p := ⟨w.heap.size, 2, none⟩) (Nat.le_refl _) (.slice A m kk)).setCell (p := ⟨w.heap.size, 3, none⟩) (Nat.le_refl _) (.slice A2 m2 kc)).setCell (p := ⟨w.heap.size, 4, none⟩) (Nat.le_refl _) (.bool x.h))).drew
      have q0 := l7.cell (i := 0) rfl
      have q1 := l7.cell (i := 1) rfl
      have q2 := l7.cell (i := 2) rfl
      have q3 := l7.cell (i := 3) rfl
      have q4 := l7.cell (i := 4) rfl
      have HTF := Lib.hid (TrFrom.drew12 (TrFrom.put (TrFrom.put (TrFrom.put (TrFrom.put (TrFrom.put (HTR7.out (by rw [← HSB.out he]; exact he)) hzz 0 (.int .i64 x.k)) hzz 1 (.int .i64 x.t)) hzz 2 (.slice A m kk)) hzz 3 (.slice A2 m2 kc)) hzz 4 (.bool x.h)))
      clear LF hzz h7 l7 l07 G7 HTR7 he
      go_wp2_with (fail)
      go_region
      all_goals
        go_wp2_with (fail)
        exact bodyPost_ret (v := .tuple #[.agg #[.int .i64 x.k, .int .i64 x.t, .slice A m kk, .slice A2 m2 kc, .bool x.h], .int .i64 sb.i, .int .i64 0]) (by simp [results, Tryz.results7, go_sem, k0, k1, k2, k3, k4]) rfl ⟨x, A, m, kk, A2, m2, kc, by rw [HP3.out], Lib.hid (by rw [HP3.out]; exact HQQ.out), Lib.hid (TrOn.hang HTF.out), HBF.out⟩
    · have HP3 := Lib.hid (show Sh.parse l = ⟨Sh.zeroT, sb.i, sb.e⟩ by rw [HP2.out, if_neg he])
      have e2 : (sb.e != 0) = true := by simp [he]
      have e2b : decide (sb.e = 0) = false := by simp [he]
      have y0 := l07.cell (i := 0) rfl
      have f0 := l07.free 0
      have y1 := l07.cell (i := 1) rfl
      have f1 := l07.free 1
      have y2 := l07.cell (i := 2) rfl
      have f2 := l07.free 2
      have y3 := l07.cell (i := 3) rfl
      have f3 := l07.free 3
      have y4 := l07.cell (i := 4) rfl
      have f4 := l07.free 4
      have LF : Lies _ w.heap.size _ [.int .i64 0, .int .i64 0, .slice none 0 0, .slice none 0 0, .bool false] := (((((l07.set 0 (.int .i64 0)).set 1 (.int .i64 0)).set 2 (.slice none 0 0)).set 3 (.slice none 0 0)).set 4 (.bool false))
      have k0 := LF.cell (i := 0) rfl
      have k1 := LF.cell (i := 1) rfl
      have k2 := LF.cell (i := 2) rfl
      have k3 := LF.cell (i := 3) rfl
      have k4 := LF.cell (i := 4) rfl
      have hzz : w.heap.size < w3.heap.size := by have := HZ3.out; omega
      have HBF := Lib.hid (((((((HB3.out.trans (Gw.below G7.out (B := w.heap.size) (by omega) (by omega))).setCell (p := ⟨w.heap.size, 0, none⟩) (Nat.le_refl _) (.int .i64 0)).setCell (p := ⟨w.heap.size, 1, none⟩) (Nat.le_refl _) (.int .i64 0)).setCell (p := ⟨w.heap.size, 2, none⟩) (Nat.le_refl _) (.slice none 0 0)).setCell (p := ⟨w.heap.size, 3, none⟩) (Nat.le_refl _) (.slice none 0 0)).setCell (p := ⟨w.heap.size, 4, none⟩) (Nat.le_refl _) (.bool false))).drew
      clear LF hzz h7 l7 l07 G7 HTR7 he
      go_wp2_with (fail)
      go_region
      all_goals
        go_wp2_with (fail)
        exact bodyPost_ret (v := .tuple #[.agg #[.int .i64 0, .int .i64 0, .slice none 0 0, .slice none 0 0, .bool false], .int .i64 sb.i, .int .i64 sb.e]) (by simp [results, Tryz.results7, go_sem, k0, k1, k2, k3, k4]) rfl ⟨Sh.zeroT, none, 0, 0, none, 0, 0, by rw [HP3.out]; rfl, Lib.hid (by rw [HP3.out]), Lib.hid ⟨⟨0, rfl, none, 0, rfl⟩, 0, rfl, none, 0, rfl⟩, HBF.out⟩
  · have e1 : (V != -1) = true := by simp [hv]
    have e1b : decide (V = -1) = false := by simp [hv]
    obtain ⟨sb, hsb⟩ : ∃ sb, sb = Sh.fail sa.i 1 sa := ⟨_, rfl⟩
    have HP2 := Lib.hid (show Sh.parse l = if sb.e = 0 then ⟨gt.1, sb.i, 0⟩ else ⟨Sh.zeroT, sb.i, sb.e⟩ by
      have hc : (if Sh.nx l gt.2 = -1 then gt.2 else Sh.fail gt.2.i 1 gt.2) = sb := by rw [← hsa.out, ← HV.out, if_neg hv, hsb]
      rw [HPA.out, hc])
    have HSB := Lib.hid (show sb.e = 0 → sb = sa from fun h0 => absurd h0 (by rw [hsb]; exact Sh.fail_ne (by decide)))
    have x1 := h6.lies.cell (i := 1) rfl
    have cf := sfail_any sa sa.i 1 w6 h6 sb hsb
    have H6 := Lib.hid (And.intro h6 (And.intro l6 l06))
    clear h6 l6 l06 hv hsb
    go_wp2_with (fail)
    refine cf.mono ?_
    rintro E w7 ⟨rfl, h7, g7⟩
    have G7 := Lib.hid (G6.out.trans g7)
    have l7 := g7.lies H6.out.2.1 (by have := HZE.out; have := HZ3.out; omega)
    have l07 := g7.lies H6.out.2.2 (by omega)
    have HTR7 := Lib.hid (fun h0 => TrFrom.gw (HTR6.out h0) g7 (by have := HZ3.out; omega))
    clear cf x1 H6 g7 G6 HTR6
    have x1 := h7.lies.cell (i := 1) rfl
    have x3 := h7.lies.cell (i := 3) rfl
    by_cases he : sb.e = 0
    · have HP3 := Lib.hid (show Sh.parse l = ⟨gt.1, sb.i, 0⟩ by rw [HP2.out, if_pos he])
      have HQQ := Lib.hid (show gt.1 = x from hx.out (by rw [← HSB.out he]; exact he))
      rw [he] at x3
      have y0 := l07.cell (i := 0) rfl
      have f0 := l07.free 0
      have y1 := l07.cell (i := 1) rfl
      have f1 := l07.free 1
      have y2 := l07.cell (i := 2) rfl
      have f2 := l07.free 2
      have y3 := l07.cell (i := 3) rfl
      have f3 := l07.free 3
      have y4 := l07.cell (i := 4) rfl
      have f4 := l07.free 4
      have LF : Lies _ w.heap.size _ [.int .i64 x.k, .int .i64 x.t, .slice A m kk, .slice A2 m2 kc, .bool x.h] := (((((l07.set 0 (.int .i64 x.k)).set 1 (.int .i64 x.t)).set 2 (.slice A m kk)).set 3 (.slice A2 m2 kc)).set 4 (.bool x.h))
      have k0 := LF.cell (i := 0) rfl
      have k1 := LF.cell (i := 1) rfl
      have k2 := LF.cell (i := 2) rfl
      have k3 := LF.cell (i := 3) rfl
      have k4 := LF.cell (i := 4) rfl
      have hzz : w.heap.size < w3.heap.size := by have := HZ3.out; omega
      have HBF := Lib.hid (((((((HB3.out.trans (Gw.below G7.out (B := w.heap.size) (by omega) (by omega))).setCell (p := ⟨w.heap.size, 0, none⟩) (Nat.le_refl _) (.int .i64 x.k)).setCell (p := ⟨w.heap.size, 1, none⟩) (Nat.le_refl _) (.int .i64 x.t)).setCell (p := ⟨w.heap.size, 2, none⟩) (Nat.le_refl _) (.slice A m kk)).setCell (p := ⟨w.heap.size, 3, none⟩) (Nat.le_refl _) (.slice A2 m2 kc)).setCell (p := ⟨w.heap.size, 4, none⟩) (Nat.le_refl _) (.bool x.h))).drew
      have q0 := l7.cell (i := 0) rfl
      have q1 := l7.cell (i := 1) rfl
      have q2 := l7.cell (i := 2) rfl
      have q3 := l7.cell (i := 3) rfl
      have q4 := l7.cell (i := 4) rfl
      have HTF := Lib.hid (TrFrom.drew12 (TrFrom.put (TrFrom.put (TrFrom.put (TrFrom.put (TrFrom.put (HTR7.out (by rw [← HSB.out he]; exact he)) hzz 0 (.int .i64 x.k)) hzz 1 (.int .i64 x.t)) hzz 2 (.slice A m kk)) hzz 3 (.slice A2 m2 kc)) hzz 4 (.bool x.h)))
      clear LF hzz h7 l7 l07 G7 HTR7 he
      go_wp2_with (fail)
      go_region
      all_goals
        go_wp2_with (fail)
        exact bodyPost_ret (v := .tuple #[.agg #[.int .i64 x.k, .int .i64 x.t, .slice A m kk, .slice A2 m2 kc, .bool x.h], .int .i64 sb.i, .int .i64 0]) (by simp [results, Tryz.results7, go_sem, k0, k1, k2, k3, k4]) rfl ⟨x, A, m, kk, A2, m2, kc, by rw [HP3.out], Lib.hid (by rw [HP3.out]; exact HQQ.out), Lib.hid (TrOn.hang HTF.out), HBF.out⟩
    · have HP3 := Lib.hid (show Sh.parse l = ⟨Sh.zeroT, sb.i, sb.e⟩ by rw [HP2.out, if_neg he])
      have e2 : (sb.e != 0) = true := by simp [he]
      have e2b : decide (sb.e = 0) = false := by simp [he]
      have y0 := l07.cell (i := 0) rfl
      have f0 := l07.free 0
      have y1 := l07.cell (i := 1) rfl
      have f1 := l07.free 1
      have y2 := l07.cell (i := 2) rfl
      have f2 := l07.free 2
      have y3 := l07.cell (i := 3) rfl
      have f3 := l07.free 3
      have y4 := l07.cell (i := 4) rfl
      have f4 := l07.free 4
      have LF : Lies _ w.heap.size _ [.int .i64 0, .int .i64 0, .slice none 0 0, .slice none 0 0, .bool false] := (((((l07.set 0 (.int .i64 0)).set 1 (.int .i64 0)).set 2 (.slice none 0 0)).set 3 (.slice none 0 0)).set 4 (.bool false))
      have k0 := LF.cell (i := 0) rfl
      have k1 := LF.cell (i := 1) rfl
      have k2 := LF.cell (i := 2) rfl
      have k3 := LF.cell (i := 3) rfl
      have k4 := LF.cell (i := 4) rfl
      have hzz : w.heap.size < w3.heap.size := by have := HZ3.out; omega
      have HBF := Lib.hid (((((((HB3.out.trans (Gw.below G7.out (B := w.heap.size) (by omega) (by omega))).setCell (p := ⟨w.heap.size, 0, none⟩) (Nat.le_refl _) (.int .i64 0)).setCell (p := ⟨w.heap.size, 1, none⟩) (Nat.le_refl _) (.int .i64 0)).setCell (p := ⟨w.heap.size, 2, none⟩) (Nat.le_refl _) (.slice none 0 0)).setCell (p := ⟨w.heap.size, 3, none⟩) (Nat.le_refl _) (.slice none 0 0)).setCell (p := ⟨w.heap.size, 4, none⟩) (Nat.le_refl _) (.bool false))).drew
      clear LF hzz h7 l7 l07 G7 HTR7 he
      go_wp2_with (fail)
      go_region
      all_goals
        go_wp2_with (fail)
        exact bodyPost_ret (v := .tuple #[.agg #[.int .i64 0, .int .i64 0, .slice none 0 0, .slice none 0 0, .bool false], .int .i64 sb.i, .int .i64 sb.e]) (by simp [results, Tryz.results7, go_sem, k0, k1, k2, k3, k4]) rfl ⟨Sh.zeroT, none, 0, 0, none, 0, 0, by rw [HP3.out]; rfl, Lib.hid (by rw [HP3.out]), Lib.hid ⟨⟨0, rfl, none, 0, rfl⟩, 0, rfl, none, 0, rfl⟩, HBF.out⟩
end Go.Proofs.YteimbdklakemaaaGreatDoor

/-
  THE CHAPTER's EXAMPLE, AND A TEXT THAT IS NONE: facts; a tree is the same as itself; sizes.
-/
namespace Go.Proofs.YteimbdklakemaaaGreatDoor
open Go.RowKit
theorem fsame_itself12 (f : Pf) : Pr.fsame f f = true := by
  unfold Pr.fsame Te.same; simp
theorem psame_itself : ∀ p : Pd, Pr.same p p = true := by
  intro p
  have key : ∀ n, ∀ p : Pd, Pr.size p ≤ n → Pr.same p p = true := by
    intro n
    induction n with
    | zero => intro p h; have := Pr.size_pos p; omega
    | succ n ih =>
      intro p h
      rw [Pr.same_at, fsame_itself12, Bool.true_and, Pr.sames_iff rfl]
      intro j a b ha hb
      rw [ha] at hb
      cases hb
      exact ih a (by have h1 := Pr.sizes_at ha; have h2 := Pr.size_at p; omega)
  exact key _ p (Nat.le_refl _)
theorem tsame_itself (a : Tr) : Tr.same a a = true := by
  refine Tr.ind (P := fun a => Tr.same a a = true) (fun a ih => ?_) a
  rw [Tr.same_at]
  have h1 : Pr.sames a.cs a.cs = true := by
    rw [Pr.sames_iff rfl]
    intro j x y hx hy
    rw [hx] at hy
    cases hy
    exact psame_itself x
  have h2 : Tr.sames a.ks a.ks = true := by
    rw [Tr.sames_iff rfl]
    intro j x y hx hy
    rw [hx] at hy
    cases hy
    exact ih x (List.mem_of_getElem? hx)
  rw [h1, h2]
  simp
/-- a tree's text is no longer than so much of what is in it -/
theorem joined_le : ∀ cs : List Pd, (∀ c ∈ cs, Pr.rightAt c 1 = true) → Tx.wfs cs → (Tx.joined cs).length ≤ 500 * Pr.sizes cs := by
  intro cs
  have key : ∀ m l : List Pd, (∀ c ∈ m, Pr.rightAt c 1 = true) → Tx.wfs m → (Tx.joined (l ++ m)).length ≤ (Tx.joined l).length + 500 * Pr.sizes m := by
    intro m
    induction m with
    | nil => intro l _ _; simp
    | cons p r ih =>
      intro l hr hw
      rw [show l ++ p :: r = (l ++ [p]) ++ r by simp]
      have h1 := ih (l ++ [p]) (fun c hc => hr c (List.mem_cons_of_mem _ hc)) hw.2
      have h2 := Tx.bytes_le _ p 1 (Nat.le_refl _) (hr p List.mem_cons_self) hw.1
      rw [Tx.joined_snoc] at h1
      rw [Pr.sizes]
      simp only [List.length_append] at h1
      have h3 : (if l = [] then ([] : List UInt8) else [59]).length ≤ 1 := by split <;> simp
      omega
  intro hr hw
  have := key cs [] hr hw
  rw [List.nil_append, Tx.joined_nil] at this
  simpa using this
theorem bytesT_le {a : Tr} {n : Nat} (h : Sh.Form a n) : Sh.wfT a → (Sh.bytesT a).length ≤ 500 * Tr.size a := by
  induction h with
  | leaf t h0 h1 =>
    intro _
    unfold Sh.bytesT
    rw [Sh.txt_leaf, Tx.encs_whole, Tr.size_at]
    have : (Lib.itoa t).length ≤ 21 := Lib.itoa_length_le t (by omega) (by omega)
    omega
  | op k h cs a b m n hk1 hk4 hc1 hc2 hr ha hb i1 i2 =>
    intro hw
    rw [Sh.wfT, Sh.wfTs, Sh.wfTs, Sh.wfTs] at hw
    obtain ⟨wc, wa, wb, _⟩ := hw
    have j1 := i1 wa
    have j2 := i2 wb
    have j3 := joined_le cs hr wc
    unfold Sh.bytesT Tx.joined at *
    rw [Sh.txt_op _ _ _ _ (by omega), Tr.size_at]
    have hs : (Rn.enc (Sh.sgn k)).length ≤ 4 := by
      rcases (show k = 1 ∨ k = 2 ∨ k = 3 ∨ k = 4 by omega) with rfl | rfl | rfl | rfl
      · exact (Rn.enc_size (r := 8904) (by decide)).2
      · exact (Rn.enc_size (r := 10197) (by decide)).2
      · exact (Rn.enc_size (r := 8905) (by decide)).2
      · exact (Rn.enc_size (r := 9655) (by decide)).2
    have e1 : ∀ r : Nat, r < 128 → (Rn.encs [(r : Int)]).length = 1 := fun r hr => by rw [Tx.low_bytes hr]; rfl
    have e40 := e1 40 (by decide)
    have e91 := e1 91 (by decide)
    have e93 := e1 93 (by decide)
    have e41 := e1 41 (by decide)
    have eh : (Rn.encs (if h then [35] else [])).length ≤ 1 := by
      cases h
      · exact Nat.zero_le _
      · exact Nat.le_of_eq (e1 35 (by decide))
    simp only [Rn.encs_app, List.length_append, Tx.encs_one (Sh.sgn k)]
    have e40' : (Rn.encs [40]).length = 1 := e40
    have e91' : (Rn.encs [91]).length = 1 := e91
    have e93' : (Rn.encs [93]).length = 1 := e93
    have e41' : (Rn.encs [41]).length = 1 := e41
    rw [e40', e91', e93', e41']
    show _ ≤ 500 * (1 + Pr.sizes cs + Tr.sizes [a, b])
    rw [Tr.sizes, Tr.sizes, Tr.sizes]
    omega
/-! ### The example -/
def exT : List UInt8 := [40, 48, 226, 159, 149, 91, 61, 48, 46, 48, 44, 49, 46, 48, 93, 49, 41]
def exF : List UInt8 := [40, 48, 32, 49, 41]
theorem ex_right : Pr.rightAt eq01 1 = true := by decide +kernel
theorem ex_wf : Sh.wfT (twoTr 2) := by
  rw [Sh.wfT, Sh.wfTs, Sh.wfTs, Sh.wfTs, Sh.wfT, Sh.wfT, Sh.wfTs, Tx.wfs, Tx.wfs, Tx.wf, Tx.wfs]
  exact ⟨⟨⟨⟨by decide, by decide⟩, ⟨by decide, by decide⟩, trivial⟩, trivial⟩, ⟨trivial, trivial⟩, ⟨trivial, trivial⟩, trivial⟩
theorem ex_form : Sh.Form (twoTr 2) 2 :=
  Sh.Form.op 2 false [eq01] (leafTr 0) (leafTr 1) 1 1 (by decide) (by decide) (by decide) (by decide) (by intro c hc; rw [List.mem_singleton.1 hc]; exact ex_right) (.leaf 0 (by decide) (by decide)) (.leaf 1 (by decide) (by decide))
theorem ex_eq : Tx.bytes eq01 = [61, 48, 46, 48, 44, 49, 46, 48] := by
  rw [Tx.bytes_cmp _ _ rfl, Tx.termBytes_col rfl, Tx.termBytes_col rfl]
  decide +kernel
theorem ex_text : Sh.bytesT (twoTr 2) = exT := by
  unfold Sh.bytesT
  rw [Sh.txt_op _ _ _ _ (by decide), Sh.txt_leaf, Sh.txt_leaf]
  simp only [Rn.encs_app, Tx.encs_whole]
  have e : Rn.encs (Tx.texts [eq01]) = [61, 48, 46, 48, 44, 49, 46, 48] := by
    rw [show Tx.texts [eq01] = Tx.text eq01 by rw [Tx.texts]]
    exact ex_eq
  have es : Rn.encs [Sh.sgn 2] = [226, 159, 149] := by
    rw [Tx.encs_one]
    exact Rn.enc_three (r := 10197) (by decide) (by decide) (by decide)
  have e1 : ∀ r : Nat, r < 128 → Rn.encs [(r : Int)] = [UInt8.ofNat r] := fun r hr => Tx.low_bytes hr
  have e40 : Rn.encs [40] = [40] := e1 40 (by decide)
  have e91 : Rn.encs [91] = [91] := e1 91 (by decide)
  have e93 : Rn.encs [93] = [93] := e1 93 (by decide)
  have e41 : Rn.encs [41] = [41] := e1 41 (by decide)
  rw [e, es, e40, e91, e93, e41]
  decide +kernel
theorem ex_parse : Sh.parse (Rn.runes exT) = ⟨twoTr 2, 15, 0⟩ := by
  have h := Sh.bytesT_back ex_form (by decide) ex_wf
  rw [ex_text] at h
  rw [h]
  have : (Rn.runes exT).length = 15 := by decide +kernel
  rw [this]
theorem exF_i : (Sh.parse (Rn.runes exF)).i = 2 := by decide +kernel
theorem exF_e : (Sh.parse (Rn.runes exF)).e = 1 := by decide +kernel
end Go.Proofs.YteimbdklakemaaaGreatDoor

/-
  THE CHAPTER's EXAMPLE, WALKED.
-/
namespace Go.Proofs.YteimbdklakemaaaGreatDoor
open Go.RowKit Go.Sort
set_option maxHeartbeats 6400000

theorem TrHang.below12 {w w' : World} {x : TrV} (h : TrHang w x) (hb : Below w.heap.size w w') : TrHang w' x := by
  obtain ⟨⟨d, h1⟩, h2⟩ := h
  exact ⟨⟨d, h1.below hb (Nat.le_refl _)⟩, h2.below hb (Nat.le_refl _)⟩
theorem below_alloc12 {W0 W : World} (h : Below W0.heap.size W0 W) (o : Obj) : Below W0.heap.size W0 (W.alloc o) := h.alloc h.size _
theorem hang_alloc12 {W : World} {x : TrV} (h : TrHang W x) (o : Obj) : TrHang (W.alloc o) x := h.below12 (below_new _ _)
theorem hang_drew12 {W : World} {x : TrV} (h : TrHang W x) : TrHang W.drew x := h.below12 ((Below.refl _ _).drew)
/-- Print, of a tree that hangs -/
theorem print12 (a : Tr) (U V : Value) (w : World) (hwf : Sh.wfT a) (h : TrHang w (a, U, V)) (hP : Pows w) (hS : Sgn w) (hlen : 0 < Sh.lv a 64 → (Sh.bytesT a).length ≤ 100000000) :
    Calls Tryz.prog 6 #[.agg #[.int .i64 a.k, .int .i64 a.t, U, V, .bool a.h]] w fun e w' => e = .returned (.tuple #[.string ⟨(if 0 < Sh.lv a 64 then Sh.bytesT a else []).toArray⟩, .int .i64 (if 0 < Sh.lv a 64 then 0 else 4)]) ∧ Below w.heap.size w w' := by
  obtain ⟨⟨d, h1⟩, h2⟩ := h
  dsimp only at h1 h2
  obtain ⟨A, c, rfl, _⟩ := h1.form
  obtain ⟨e, h3⟩ := h2
  obtain ⟨A2, c2, rfl, _⟩ := h3.form
  exact sprint_any d a A c A2 c2 w hwf h1 ⟨e, h3⟩ hP hS hlen
theorem right12 (a : Tr) (U V : Value) (r : Bool) (w : World) (h : TrHang w (a, U, V)) (hr : r = decide (0 < Sh.lv a 64)) :
    Calls Tryz.prog 12 #[.agg #[.int .i64 a.k, .int .i64 a.t, U, V, .bool a.h]] w fun e w' => e = .returned (.bool r) ∧ Below w.heap.size w w' := by
  obtain ⟨⟨d, h1⟩, h2⟩ := h
  dsimp only at h1 h2
  obtain ⟨A, c, rfl, _⟩ := h1.form
  obtain ⟨e, h3⟩ := h2
  obtain ⟨A2, c2, rfl, _⟩ := h3.form
  exact xright_any d a A c A2 c2 r w h1 ⟨e, h3⟩ hr
theorem same12 (a b : Tr) (U V U2 V2 : Value) (r : Bool) (w : World) (h : TrHang w (a, U, V)) (k : TrHang w (b, U2, V2)) (hr : r = Tr.same a b) :
    Calls Tryz.prog 8 #[.agg #[.int .i64 a.k, .int .i64 a.t, U, V, .bool a.h], .agg #[.int .i64 b.k, .int .i64 b.t, U2, V2, .bool b.h]] w fun e w' => e = .returned (.bool r) ∧ Below w.heap.size w w' := by
  obtain ⟨⟨d, h1⟩, h2⟩ := h
  obtain ⟨⟨e, k1⟩, k2⟩ := k
  rw [hr]
  exact r10same_any (max d e) a b U V U2 V2 w (h1.mono (Nat.le_max_left _ _)) h2 (k1.mono (Nat.le_max_right _ _)) k2
theorem ex_lv : 0 < Sh.lv (twoTr 2) 64 := form_pos ex_form (by decide)
set_option maxRecDepth 100000 in
theorem awake12_any (w : World) (hE : ErrR w) (hP : Pows w) (hS : Sgn w) :
    Calls Tryz.prog 5 #[] w fun e w' => e = .returned (.bool true) ∧ Below w.heap.size w w' := by
  have HE := Lib.hid hE
  have HP := Lib.hid hP
  have HS := Lib.hid hS
  have ct := two10_any 2 w
  clear hE hP hS
  go_enter Tryz.func5, Tryz.ntmps5
  go_wp2_with (fail)
  refine ct.mono ?_
  rintro E w1 ⟨U, V, rfl, hh, hb1⟩
  have cp := print12 (twoTr 2) U V w1 ex_wf hh (HP.out.below hb1 (Nat.le_refl _)) (HS.out.below hb1 (Nat.le_refl _)) (fun _ => by rw [ex_text]; decide)
  rw [if_pos ex_lv, if_pos ex_lv, ex_text] at cp
  have cp' : Calls Tryz.prog 6 #[.agg #[.int .i64 2, .int .i64 0, U, V, .bool false]] w1 fun e w' => e = .returned (.tuple #[.string ⟨#[40, 48, 226, 159, 149, 91, 61, 48, 46, 48, 44, 49, 46, 48, 93, 49, 41]⟩, .int .i64 0]) ∧ Below w1.heap.size w1 w' := cp
  have HB1 := Lib.hid hb1
  clear ct cp hh hb1
  go_wp2_with (fail)
  refine cp'.mono ?_
  rintro E w2 ⟨rfl, hb2⟩
  have hbw2 := below_join HB1.out hb2
  have c1 := sparse_any exT w2 (by decide) (HE.out.below hbw2 (Nat.le_refl _)) (HS.out.below hbw2 (Nat.le_refl _))
  rw [show (⟨exT.toArray⟩ : ByteArray) = ⟨#[40, 48, 226, 159, 149, 91, 61, 48, 46, 48, 44, 49, 46, 48, 93, 49, 41]⟩ from rfl] at c1
  have HB2 := Lib.hid hbw2
  clear cp' hb2 hbw2
  go_wp2_with (fail)
  refine c1.mono ?_
  rintro E w3 ⟨x, A, m, kk, A2, m2, kc, rfl, hx, hh3, hb3⟩
  obtain rfl : x = twoTr 2 := by have := hx.out; rw [ex_parse] at this; exact this.symm
  rw [ex_parse]
  dsimp only [twoTr, leafTr, Tr.k, Tr.t, Tr.h]
  obtain ⟨o1, ho1⟩ : ∃ o1, o1 = Obj.cells #[.int .i64 2, .int .i64 0, .slice A m kk, .slice A2 m2 kc, .bool false] 25 := ⟨_, rfl⟩
  obtain ⟨w4, hw4⟩ : ∃ w4, w4 = w3.alloc o1 := ⟨_, rfl⟩
  have l4 : Lies w4 w3.heap.size 25 [.int .i64 2, .int .i64 0, .slice A m kk, .slice A2 m2 kc, .bool false] := by rw [hw4, ho1]; exact Lies.new _ _ _
  have hb34 : Below w3.heap.size w3 w4 := by rw [hw4]; exact below_new _ _
  have hh4 := hh3.out.below12 hb34
  have hbw4 := below_join HB2.out (below_join hb3 hb34)
  have c2 := sparse_any exF w4 (by decide) (HE.out.below hbw4 (Nat.le_refl _)) (HS.out.below hbw4 (Nat.le_refl _))
  rw [show (⟨exF.toArray⟩ : ByteArray) = ⟨#[40, 48, 32, 49, 41]⟩ from rfl] at c2
  have HO1 := Lib.hid ho1
  have HW4 := Lib.hid hw4
  have HB4 := Lib.hid hbw4
  have L4 := Lib.hid l4
  have HH4 := Lib.hid hh4
  obtain ⟨g3, hg3⟩ : ∃ g3, g3 = w3.heap.size := ⟨_, rfl⟩
  rw [← hg3] at L4
  have HG3 := Lib.hid hg3
  clear c1 hx hh3 hb3 hb34 ho1 hw4 hbw4 l4 hh4 hg3
  go_upto_region 3 with (fail)
  rw [← HO1.out, ← HW4.out, ← HG3.out]
  go_wp2_with (fail)
  refine c2.mono ?_
  rintro E w5 ⟨y, B1, n1, k1, B2, n2, k2, rfl, hy, hh5, hb5⟩
  rw [exF_i, exF_e]
  obtain ⟨o2, ho2⟩ : ∃ o2, o2 = Obj.cells #[.int .i64 y.k, .int .i64 y.t, .slice B1 n1 k1, .slice B2 n2 k2, .bool y.h] 25 := ⟨_, rfl⟩
  obtain ⟨w6, hw6⟩ : ∃ w6, w6 = w5.alloc o2 := ⟨_, rfl⟩
  have hb56 : Below w5.heap.size w5 w6 := by rw [hw6]; exact below_new _ _
  have hb46 := below_join hb5 hb56
  have l6 := L4.out.below hb46 L4.out.lt
  have hh6 := HH4.out.below12 hb46
  have hbw6 := below_join HB4.out hb46
  have HO2 := Lib.hid ho2
  have HW6 := Lib.hid hw6
  have HB6 := Lib.hid hbw6
  have L6 := Lib.hid l6
  have HH6 := Lib.hid hh6
  have c4 := Lib.hid (fun (W : World) (h : Below w6.heap.size w6 W) => (two10_any 2 W).mono fun e w' ⟨u, v, he, ht, hb⟩ => (show ∃ B b B' b', e = Ending.returned (.agg #[.int .i64 2, .int .i64 0, .slice B 2 b, .slice B' 1 b', .bool false]) ∧ TrHang w' (twoTr 2, .slice B 2 b, .slice B' 1 b') ∧ Below w6.heap.size w6 w' from by
    obtain ⟨A, c, hA, _⟩ := ht.1.elim fun d h => h.form
    obtain ⟨A', c', hA', _⟩ := ht.2.elim fun D h => h.form
    change u = .slice A 2 c at hA
    change v = .slice A' 1 c' at hA'
    subst hA hA'
    exact ⟨A, c, A', c', he, ht, below_join h hb⟩))
  have c7 := fun (B : Option Addr) (b : Nat) (B' : Option Addr) (b' : Nat) (W : World) (ht : TrHang W (twoTr 2, .slice B 2 b, .slice B' 1 b')) (h : Below w6.heap.size w6 W) => (same12 (twoTr 2) (twoTr 2) (.slice A m kk) (.slice A2 m2 kc) _ _ true W (hh6.below12 h) ht (tsame_itself _).symm).mono fun e w' ⟨he, hb⟩ => (⟨he, below_join h hb⟩ : e = _ ∧ Below w6.heap.size w6 w')
  have c8 := fun (W : World) (h : Below w6.heap.size w6 W) => (right12 (twoTr 2) (.slice A m kk) (.slice A2 m2 kc) true W (hh6.below12 h) (decide_eq_true ex_lv).symm).mono fun e w' ⟨he, hb⟩ => (⟨he, below_join h hb⟩ : e = _ ∧ Below w6.heap.size w6 w')
  dsimp only [twoTr, leafTr, Tr.k, Tr.t, Tr.h] at c4 c7 c8
  replace c7 := Lib.hid c7
  replace c8 := Lib.hid c8
  have KK := Lib.hid (fun W (h : Below w6.heap.size w6 W) => (show (W.cell? ⟨g3, 0, none⟩ = some (.int .i64 2) ∧ W.cell? ⟨g3, 1, none⟩ = some (.int .i64 0) ∧ W.cell? ⟨g3, 2, none⟩ = some (.slice A m kk) ∧ W.cell? ⟨g3, 3, none⟩ = some (.slice A2 m2 kc) ∧ W.cell? ⟨g3, 4, none⟩ = some (.bool false)) ∧ Below w6.heap.size w6 W from
    have l := l6.below h l6.lt
    ⟨⟨l.cell (i := 0) rfl, l.cell (i := 1) rfl, l.cell (i := 2) rfl, l.cell (i := 3) rfl, l.cell (i := 4) rfl⟩, h⟩))
  have hS := Below.refl w6.heap.size w6
  clear c2 hy hh5 hb5 hb56 hb46 l6 hh6 ho2 hw6 hbw6
  go_upto_region 4 with (fail)
  rw [← HO2.out, ← HW6.out]
  go_region_held3 (fun W => (W.cell? ⟨g3, 0, none⟩ = some (.int .i64 2) ∧ W.cell? ⟨g3, 1, none⟩ = some (.int .i64 0) ∧ W.cell? ⟨g3, 2, none⟩ = some (.slice A m kk) ∧ W.cell? ⟨g3, 3, none⟩ = some (.slice A2 m2 kc) ∧ W.cell? ⟨g3, 4, none⟩ = some (.bool false)) ∧ Below w6.heap.size w6 W) (first | (exact KK.out _ (by repeat first | assumption | refine Below.drew ?_ | refine below_alloc12 ?_ _)))
    (first
      | (go_at_call 11; (with_reducible refine (c4.out _ (by repeat first | assumption | refine Below.drew ?_ | refine below_alloc12 ?_ _)).mono ?_); rintro e w' ⟨B1, b1, B2, b2, rfl, hht, hS'⟩)
      | (go_at_call 8; (with_reducible refine (c7.out _ _ _ _ _ (by repeat first | assumption | refine hang_drew12 ?_ | refine hang_alloc12 ?_ _) (by repeat first | assumption | refine Below.drew ?_ | refine below_alloc12 ?_ _)).mono ?_); rintro e w' ⟨rfl, hS'⟩)
      | (go_at_call 12; (with_reducible refine (c8.out _ (by repeat first | assumption | refine Below.drew ?_ | refine below_alloc12 ?_ _)).mono ?_); rintro e w' ⟨rfl, hS'⟩)
      | (fail "no arm"))
  all_goals
    go_wp2_with (fail)
    go_ret
    exact ⟨rfl, below_join HB6.out (by repeat first | assumption | refine Below.drew ?_ | refine below_alloc12 ?_ _)⟩
end Go.Proofs.YteimbdklakemaaaGreatDoor

/-
  THE LAW ShapeBack, walked.
-/
namespace Go.Proofs.YteimbdklakemaaaGreatDoor
open Go.RowKit Go.Sort
set_option maxHeartbeats 12800000

theorem formed12 {E : TypeId} {K : IntKind} {w w' : World} {l : List Int} {e : Ending} (h : OwnNums E K w l e w') : ∃ A c, e = .returned (.slice A l.length c) ∧ Below w.heap.size w w' := by
  obtain ⟨v, rfl, ho, hb⟩ := h
  obtain ⟨A, c, hv, _, _⟩ := Sl.own ho
  rw [List.length_map] at hv
  exact ⟨A, c, by rw [hv], hb⟩
theorem runes_nat (bs : List UInt8) : ∀ r ∈ Rn.runes bs, r ≠ -1 := by
  have key : ∀ (k i : Nat), ∀ r ∈ Rn.runesAt bs k i, r ≠ -1 := by
    intro k
    induction k with
    | zero => intro i r h; simp [Rn.runesAt] at h
    | succ k ih =>
      intro i r h
      rw [Rn.runesAt] at h
      split at h
      · rcases List.mem_cons.1 h with rfl | h
        · omega
        · exact ih _ r h
      · simp at h
  exact key _ _
set_option maxRecDepth 100000 in
theorem shapeback_any (a : Tr) (U V : Value) (bs : List UInt8) (w : World) (hh : TrHang w (a, U, V)) (hwf : Sh.wfT a) (hE : ErrR w) (hP : Pows w) (hS : Sgn w) :
    Calls Tryz.prog 3 #[.agg #[.int .i64 a.k, .int .i64 a.t, U, V, .bool a.h], .string ⟨bs.toArray⟩] w fun e w' => e = .returned (.bool true) ∧ Below w.heap.size w w' := by
  obtain ⟨W0, hW0⟩ : ∃ W0, W0 = w.alloc (Obj.cells #[.int .i64 a.k, .int .i64 a.t, U, V, .bool a.h] 25) := ⟨_, rfl⟩
  obtain ⟨l0, t0, hb0⟩ := tr_box (a := a) (u := U) (v := V) hW0
  have hh0 := hh.below12 hb0
  obtain ⟨d, hu0⟩ := hh0.1
  have cs := r10size_any d a U V 501 W0 hu0 hh0.2 (by decide) (by decide)
  have HU := Lib.hid hh0
  have HE := Lib.hid hE
  have HP := Lib.hid hP
  have HSG := Lib.hid hS
  have HW := Lib.hid hW0
  have HP0 := Lib.hid t0
  have HL0 := Lib.hid l0.lt
  have HWF := Lib.hid hwf
  obtain ⟨x0, x1, x2, x3, x4⟩ := t0
  clear hh hh0 hu0 hE hP hS l0 hwf
  rw [hW0] at x0 x1 x2 x3 x4 cs
  clear hW0
  obtain ⟨z, hz⟩ : ∃ z, z = Tr.size a := ⟨_, rfl⟩
  rw [← hz] at cs
  have HZ := Lib.hid hz
  clear hz
  go_enter Tryz.func3, Tryz.ntmps3
  go_wp2_with (fail)
  rw [← HW.out] at cs ⊢
  refine cs.mono ?_
  rintro E w1 ⟨rfl, hb1⟩
  have hbw1 := below_join hb0 hb1
  clear cs x0 x1 x2 x3 x4
  by_cases hz : 500 < z
  · have hm : min (z : Int) 501 = 501 := by omega
    rw [hm]
    have ca := awake12_any w1 (HE.out.below hbw1 (Nat.le_refl _)) (HP.out.below hbw1 (Nat.le_refl _)) (HSG.out.below hbw1 (Nat.le_refl _))
    go_wp2_with (fail)
    refine ca.mono ?_
    rintro E wz ⟨rfl, hbz⟩
    go_wp2_with (fail)
    go_ret
    exact ⟨rfl, below_join hbw1 hbz⟩
  have hm : ¬ (500 < min (z : Int) 501) := by omega
  obtain ⟨m1, hm1⟩ : ∃ m1, m1 = min (z : Int) 501 := ⟨_, rfl⟩
  rw [← hm1] at hm ⊢
  clear hm1
  by_cases hs : 6000 < bs.length
  · have hs2 : (6000 : Int) < (bs.length : Int) := by omega
    have ca := awake12_any w1 (HE.out.below hbw1 (Nat.le_refl _)) (HP.out.below hbw1 (Nat.le_refl _)) (HSG.out.below hbw1 (Nat.le_refl _))
    go_wp2_with (fail)
    refine ca.mono ?_
    rintro E wz ⟨rfl, hbz⟩
    go_wp2_with (fail)
    go_ret
    exact ⟨rfl, below_join hbw1 hbz⟩
  have hs2 : ¬ ((6000 : Int) < (bs.length : Int)) := by omega
  have HSL := Lib.hid (show bs.length ≤ 6000 by omega)
  have HSZ := Lib.hid (show Tr.size a ≤ 500 by have := HZ.out; omega)
  have cp := print12 a U V w1 HWF.out (HU.out.below12 hb1) (HP.out.below hbw1 (Nat.le_refl _)) (HSG.out.below hbw1 (Nat.le_refl _)) (fun hl => by
    obtain ⟨n, hf, _⟩ := lv_pos hl
    have := bytesT_le hf HWF.out
    have := HSZ.out
    omega)
  obtain ⟨x0, x1, x2, x3, x4⟩ := HP0.out.below hb1 HL0.out
  clear hz hs
  by_cases hyes : 0 < Sh.lv a 64
  rotate_left
  · rw [if_neg hyes, if_neg hyes] at cp
    clear hyes
    go_wp2_with (fail)
    refine cp.mono ?_
    rintro E wm ⟨rfl, hb2⟩
    have hbm := below_join hbw1 hb2
    clear cp x0 x1 x2 x3 x4 hb1 hb2 hm hs2
    have cb := sparse_any bs wm (by have := HSL.out; omega) (HE.out.below hbm (Nat.le_refl _)) (HSG.out.below hbm (Nat.le_refl _))
    have hple := Sh.parse_le (Rn.runes bs)
    obtain ⟨P, hP2⟩ : ∃ P, P = Sh.parse (Rn.runes bs) := ⟨_, rfl⟩
    have cb' : Calls Tryz.prog 7 #[.string ⟨bs.toArray⟩] wm fun E w' => ∃ (x : Tr) (A2 : Option Addr) (m2 k2 : Nat) (A3 : Option Addr) (m3 k3 : Nat), E = .returned (.tuple #[.agg #[.int .i64 x.k, .int .i64 x.t, .slice A2 m2 k2, .slice A3 m3 k3, .bool x.h], .int .i64 P.i, .int .i64 P.e]) ∧ Hid (P.x = x) ∧ Hid (TrHang w' (x, .slice A2 m2 k2, .slice A3 m3 k3)) ∧ Below wm.heap.size wm w' := by
      rw [hP2]; exact cb
    rw [← hP2] at hple
    obtain ⟨px, pi, pe⟩ := P
    have HPE := Lib.hid hP2
    have HPL := Lib.hid hple
    have HBM := Lib.hid hbm
    clear hP2 cb hple hbm
    dsimp only at cb'
    go_wp2_with (fail)
    refine cb'.mono ?_
    rintro E w5 ⟨x, A2, m2, k2, A3, m3, k3, rfl, hx, hin, hb5⟩
    obtain ⟨o2, ho2⟩ : ∃ o2, o2 = Obj.cells #[.int .i64 x.k, .int .i64 x.t, .slice A2 m2 k2, .slice A3 m3 k3, .bool x.h] 25 := ⟨_, rfl⟩
    obtain ⟨w6, hw6⟩ : ∃ w6, w6 = w5.alloc o2 := ⟨_, rfl⟩
    have l6 : Lies w6 w5.heap.size 25 [.int .i64 x.k, .int .i64 x.t, .slice A2 m2 k2, .slice A3 m3 k3, .bool x.h] := by rw [hw6, ho2]; exact Lies.new _ _ _
    have hb56 : Below w5.heap.size w5 w6 := by rw [hw6]; exact below_new _ _
    have hat := hin.out.below12 hb56
    have hbw6 := below_join HBM.out (below_join hb5 hb56)
    have HAT := Lib.hid hat
    have HO2 := Lib.hid ho2
    have HW6 := Lib.hid hw6
    have HBW6 := Lib.hid hbw6
    have HX := Lib.hid hx.out
    have y0 := l6.cell (i := 0) rfl
    have y1 := l6.cell (i := 1) rfl
    have y2 := l6.cell (i := 2) rfl
    have y3 := l6.cell (i := 3) rfl
    have y4 := l6.cell (i := 4) rfl
    clear cb' hat ho2 hw6 hbw6 hx hin hb5 hb56 l6
    go_upto_region 9 with (fail)
    rw [← HO2.out, ← HW6.out]
    by_cases he : pe = 0
    · subst he
      have hxx : px = x := HX.out
      obtain ⟨n, hf, hn, hwx, hbx, hix⟩ := Sh.bytesT_took (s := bs) (runes_nat bs) (a := px) (i := pi) HPE.out.symm
      rw [hxx] at hf hwx hbx
      have hly := form_pos hf hn
      have cp := print12 x _ _ w6 hwx HAT.out (HP.out.below HBW6.out (Nat.le_refl _)) (HSG.out.below HBW6.out (Nat.le_refl _)) (fun _ => by rw [hbx]; have := HSL.out; omega)
      rw [if_pos hly, if_pos hly, hbx] at cp
      clear hf hn hwx hbx hix hly hxx
      go_wp2_with (fail)
      refine cp.mono ?_
      rintro E w7 ⟨rfl, hb7⟩
      have hbw7 := below_join HBW6.out hb7
      have ca := awake12_any w7 (HE.out.below hbw7 (Nat.le_refl _)) (HP.out.below hbw7 (Nat.le_refl _)) (HSG.out.below hbw7 (Nat.le_refl _))
      clear cp y0 y1 y2 y3 y4
      go_wp2_with (fail)
      refine ca.mono ?_
      rintro E wz ⟨rfl, hbz⟩
      go_wp2_with (fail)
      go_ret
      exact ⟨rfl, below_join hbw7 hbz⟩
    · have hz := Sh.parse_zero (l := Rn.runes bs) (by rw [← HPE.out]; exact he)
      rw [← HPE.out] at hz
      have hzz : x = Sh.zeroT := HX.out.symm.trans hz
      have cs2 := fun W (hb : Below w6.heap.size w6 W) => same12 x Sh.zeroT _ _ (.slice none 0 0) (.slice none 0 0) true W (HAT.out.below12 hb) ⟨⟨0, rfl, none, 0, rfl⟩, 0, rfl, none, 0, rfl⟩ (by rw [hzz]; exact (tsame_itself _).symm)
      dsimp only [Sh.zeroT, Tr.k, Tr.t, Tr.h] at cs2
      have hpi : (pi : Int) ≤ ((Rn.runes bs).length : Int) := by exact_mod_cast HPL.out
      have hpn : pi ≤ (Rn.runes bs).length := HPL.out
      obtain ⟨L, hL⟩ : ∃ L, L = Rn.runes bs := ⟨_, rfl⟩
      rw [← hL] at hpi hpn
      have HLL := Lib.hid hL
      have hne : ¬ (pe = 0) := he
      have hneb : (pe != 0) = true := by simp [he]
      clear hz hzz he hL
      go_wp2_with (fail)
      refine (cs2 _ (Below.refl _ _)).mono ?_
      rintro E w7 ⟨rfl, hb7⟩
      have hbw7 := below_join HBW6.out hb7
      have cr2 := rrunes_any bs w7 (by have := HSL.out; omega)
      rw [← HLL.out] at cr2
      clear cs2 y0 y1 y2 y3 y4
      go_wp2_with (fail)
      refine cr2.mono ?_
      intro E w8 hE8
      obtain ⟨b8, c8, hE8a, hb8⟩ := formed12 hE8
      subst hE8a
      have hbw8 := below_join hbw7 hb8
      clear cr2
      have ca := awake12_any w8 (HE.out.below hbw8 (Nat.le_refl _)) (HP.out.below hbw8 (Nat.le_refl _)) (HSG.out.below hbw8 (Nat.le_refl _))
      go_wp2_with (fail)
      refine ca.mono ?_
      rintro E wz ⟨rfl, hbz⟩
      go_wp2_with (fail)
      go_ret
      exact ⟨rfl, below_join hbw8 hbz⟩
  · rw [if_pos hyes, if_pos hyes] at cp
    obtain ⟨n0, hf, hn⟩ := lv_pos hyes
    have hbl := bytesT_le hf HWF.out
    have hbk := Sh.bytesT_back hf hn HWF.out
    obtain ⟨bs1, hbs1⟩ : ∃ bs1, bs1 = Sh.bytesT a := ⟨_, rfl⟩
    rw [← hbs1] at cp hbl hbk
    have hl1 : bs1.length ≤ 1000000 := by have := HSZ.out; omega
    have HBK := Lib.hid hbk
    have HL1 := Lib.hid hl1
    clear hbs1 hbl hbk hl1 hyes hf hn
    go_wp2_with (fail)
    refine cp.mono ?_
    rintro E w2 ⟨rfl, hb2⟩
    have hb12 := below_join hb1 hb2
    have hbw2 := below_join hb0 hb12
    have ct := sparse_any bs1 w2 HL1.out (HE.out.below hbw2 (Nat.le_refl _)) (HSG.out.below hbw2 (Nat.le_refl _))
    have ct' : Calls Tryz.prog 7 #[.string ⟨bs1.toArray⟩] w2 fun E w' => ∃ (A2 : Option Addr) (m2 k2 : Nat) (A3 : Option Addr) (m3 k3 : Nat), E = .returned (.tuple #[.agg #[.int .i64 a.k, .int .i64 a.t, .slice A2 m2 k2, .slice A3 m3 k3, .bool a.h], .int .i64 ((Rn.runes bs1).length : Nat), .int .i64 0]) ∧ Hid (TrHang w' (a, .slice A2 m2 k2, .slice A3 m3 k3)) ∧ Below w2.heap.size w2 w' := by
      refine ct.mono ?_
      rintro E w' ⟨x, A2, m2, k2, A3, m3, k3, rfl, hx, hin, hb⟩
      have hx' := hx.out
      rw [HBK.out] at hx' ⊢
      dsimp only at hx'
      subst hx'
      exact ⟨A2, m2, k2, A3, m3, k3, rfl, hin, hb⟩
    obtain ⟨L1, hL1⟩ : ∃ L1, L1 = Rn.runes bs1 := ⟨_, rfl⟩
    have cr4 := fun W => rrunes_any bs1 W HL1.out
    rw [← hL1] at ct' cr4
    have HLL1 := Lib.hid hL1
    clear cp ct x0 x1 x2 x3 x4 hL1
    go_wp2_with (fail)
    refine ct'.mono ?_
    rintro E w3 ⟨A2, m2, k2, A3, m3, k3, rfl, hin, hb3⟩
    obtain ⟨o1, ho1⟩ : ∃ o1, o1 = Obj.cells #[.int .i64 a.k, .int .i64 a.t, .slice A2 m2 k2, .slice A3 m3 k3, .bool a.h] 25 := ⟨_, rfl⟩
    obtain ⟨w4, hw4⟩ : ∃ w4, w4 = w3.alloc o1 := ⟨_, rfl⟩
    have l4 : Lies w4 w3.heap.size 25 [.int .i64 a.k, .int .i64 a.t, .slice A2 m2 k2, .slice A3 m3 k3, .bool a.h] := by rw [hw4, ho1]; exact Lies.new _ _ _
    have hb34 : Below w3.heap.size w3 w4 := by rw [hw4]; exact below_new _ _
    have hat := hin.out.below12 hb34
    have hb14 := below_join hb12 (below_join hb3 hb34)
    have hu4 := HU.out.below12 hb14
    have hs4 := same12 a a _ _ U V true w4 hat hu4 (tsame_itself _).symm
    have hbw4 := below_join hb0 hb14
    obtain ⟨x0, x1, x2, x3, x4⟩ := HP0.out.below hb14 HL0.out
    have y0 := l4.cell (i := 0) rfl
    have y1 := l4.cell (i := 1) rfl
    have y2 := l4.cell (i := 2) rfl
    have y3 := l4.cell (i := 3) rfl
    have y4 := l4.cell (i := 4) rfl
    have HO1 := Lib.hid ho1
    have HW4 := Lib.hid hw4
    have HBW4 := Lib.hid hbw4
    clear ct' hin ho1 hw4 hat hu4 l4 hb3 hb34 hb12 hb14 hb1 hb2 hbw2 hbw4
    go_upto_region 6 with (fail)
    rw [← HO1.out, ← HW4.out]
    go_wp2_with (fail)
    refine hs4.mono ?_
    rintro E w5 ⟨rfl, hb5⟩
    clear hs4 x0 x1 x2 x3 x4 y0 y1 y2 y3 y4
    go_wp2_with (fail)
    refine (cr4 w5).mono ?_
    intro E wm hE8
    obtain ⟨b8, c8, hE8a, hb8⟩ := formed12 hE8
    subst hE8a
    have hbm := below_join HBW4.out (below_join hb5 hb8)
    clear cr4 hb5 hb8 hE8 hm hs2
    have cb := sparse_any bs wm (by have := HSL.out; omega) (HE.out.below hbm (Nat.le_refl _)) (HSG.out.below hbm (Nat.le_refl _))
    have hple := Sh.parse_le (Rn.runes bs)
    obtain ⟨P, hP2⟩ : ∃ P, P = Sh.parse (Rn.runes bs) := ⟨_, rfl⟩
    have cb' : Calls Tryz.prog 7 #[.string ⟨bs.toArray⟩] wm fun E w' => ∃ (x : Tr) (A2 : Option Addr) (m2 k2 : Nat) (A3 : Option Addr) (m3 k3 : Nat), E = .returned (.tuple #[.agg #[.int .i64 x.k, .int .i64 x.t, .slice A2 m2 k2, .slice A3 m3 k3, .bool x.h], .int .i64 P.i, .int .i64 P.e]) ∧ Hid (P.x = x) ∧ Hid (TrHang w' (x, .slice A2 m2 k2, .slice A3 m3 k3)) ∧ Below wm.heap.size wm w' := by
      rw [hP2]; exact cb
    rw [← hP2] at hple
    obtain ⟨px, pi, pe⟩ := P
    have HPE := Lib.hid hP2
    have HPL := Lib.hid hple
    have HBM := Lib.hid hbm
    clear hP2 cb hple hbm
    dsimp only at cb'
    go_wp2_with (fail)
    refine cb'.mono ?_
    rintro E w5 ⟨x, A2, m2, k2, A3, m3, k3, rfl, hx, hin, hb5⟩
    obtain ⟨o2, ho2⟩ : ∃ o2, o2 = Obj.cells #[.int .i64 x.k, .int .i64 x.t, .slice A2 m2 k2, .slice A3 m3 k3, .bool x.h] 25 := ⟨_, rfl⟩
    obtain ⟨w6, hw6⟩ : ∃ w6, w6 = w5.alloc o2 := ⟨_, rfl⟩
    have l6 : Lies w6 w5.heap.size 25 [.int .i64 x.k, .int .i64 x.t, .slice A2 m2 k2, .slice A3 m3 k3, .bool x.h] := by rw [hw6, ho2]; exact Lies.new _ _ _
    have hb56 : Below w5.heap.size w5 w6 := by rw [hw6]; exact below_new _ _
    have hat := hin.out.below12 hb56
    have hbw6 := below_join HBM.out (below_join hb5 hb56)
    have HAT := Lib.hid hat
    have HO2 := Lib.hid ho2
    have HW6 := Lib.hid hw6
    have HBW6 := Lib.hid hbw6
    have HX := Lib.hid hx.out
    have y0 := l6.cell (i := 0) rfl
    have y1 := l6.cell (i := 1) rfl
    have y2 := l6.cell (i := 2) rfl
    have y3 := l6.cell (i := 3) rfl
    have y4 := l6.cell (i := 4) rfl
    clear cb' hat ho2 hw6 hbw6 hx hin hb5 hb56 l6
    go_upto_region 9 with (fail)
    rw [← HO2.out, ← HW6.out]
    by_cases he : pe = 0
    · subst he
      have hxx : px = x := HX.out
      obtain ⟨n, hf, hn, hwx, hbx, hix⟩ := Sh.bytesT_took (s := bs) (runes_nat bs) (a := px) (i := pi) HPE.out.symm
      rw [hxx] at hf hwx hbx
      have hly := form_pos hf hn
      have cp := print12 x _ _ w6 hwx HAT.out (HP.out.below HBW6.out (Nat.le_refl _)) (HSG.out.below HBW6.out (Nat.le_refl _)) (fun _ => by rw [hbx]; have := HSL.out; omega)
      rw [if_pos hly, if_pos hly, hbx] at cp
      clear hf hn hwx hbx hix hly hxx
      go_wp2_with (fail)
      refine cp.mono ?_
      rintro E w7 ⟨rfl, hb7⟩
      have hbw7 := below_join HBW6.out hb7
      have ca := awake12_any w7 (HE.out.below hbw7 (Nat.le_refl _)) (HP.out.below hbw7 (Nat.le_refl _)) (HSG.out.below hbw7 (Nat.le_refl _))
      clear cp y0 y1 y2 y3 y4
      go_wp2_with (fail)
      refine ca.mono ?_
      rintro E wz ⟨rfl, hbz⟩
      go_wp2_with (fail)
      go_ret
      exact ⟨rfl, below_join hbw7 hbz⟩
    · have hz := Sh.parse_zero (l := Rn.runes bs) (by rw [← HPE.out]; exact he)
      rw [← HPE.out] at hz
      have hzz : x = Sh.zeroT := HX.out.symm.trans hz
      have cs2 := fun W (hb : Below w6.heap.size w6 W) => same12 x Sh.zeroT _ _ (.slice none 0 0) (.slice none 0 0) true W (HAT.out.below12 hb) ⟨⟨0, rfl, none, 0, rfl⟩, 0, rfl, none, 0, rfl⟩ (by rw [hzz]; exact (tsame_itself _).symm)
      dsimp only [Sh.zeroT, Tr.k, Tr.t, Tr.h] at cs2
      have hpi : (pi : Int) ≤ ((Rn.runes bs).length : Int) := by exact_mod_cast HPL.out
      have hpn : pi ≤ (Rn.runes bs).length := HPL.out
      obtain ⟨L, hL⟩ : ∃ L, L = Rn.runes bs := ⟨_, rfl⟩
      rw [← hL] at hpi hpn
      have HLL := Lib.hid hL
      have hne : ¬ (pe = 0) := he
      have hneb : (pe != 0) = true := by simp [he]
      clear hz hzz he hL
      go_wp2_with (fail)
      refine (cs2 _ (Below.refl _ _)).mono ?_
      rintro E w7 ⟨rfl, hb7⟩
      have hbw7 := below_join HBW6.out hb7
      have cr2 := rrunes_any bs w7 (by have := HSL.out; omega)
      rw [← HLL.out] at cr2
      clear cs2 y0 y1 y2 y3 y4
      go_wp2_with (fail)
      refine cr2.mono ?_
      intro E w8 hE8
      obtain ⟨b8, c8, hE8a, hb8⟩ := formed12 hE8
      subst hE8a
      have hbw8 := below_join hbw7 hb8
      clear cr2
      have ca := awake12_any w8 (HE.out.below hbw8 (Nat.le_refl _)) (HP.out.below hbw8 (Nat.le_refl _)) (HSG.out.below hbw8 (Nat.le_refl _))
      go_wp2_with (fail)
      refine ca.mono ?_
      rintro E wz ⟨rfl, hbz⟩
      go_wp2_with (fail)
      go_ret
      exact ⟨rfl, below_join hbw8 hbz⟩
end Go.Proofs.YteimbdklakemaaaGreatDoor
