/-
  THE READER OF TREES: its four fields in one block; who asks for the next rune, goes over one, over one that must be there, tells what is wrong, counts a leaf.
-/
import Derived.Test.YteimbdklakemaaaGreatDoorTxfM
import Derived.Test.YteimbdklakemaaaGreatDoorShoM
namespace Go.Proofs.YteimbdklakemaaaGreatDoor
open Go.RowKit Go.Sort
set_option maxHeartbeats 800000

/-- the operators' signs, as the package's variable holds them -/
def Sgn (w : World) : Prop := ∀ k : Nat, k ≤ 4 → w.cell? ⟨0, k, none⟩ = some (.int .i32 (Sh.sgn k))
theorem Sgn.below {w w' : World} {B : Nat} (h : Sgn w) (hb : Below B w w') (hB : w.heap.size ≤ B) : Sgn w' := fun k hk => by
  have hc := h k hk
  have hlt : 0 < w.heap.size := block_lt_of_cell hc
  exact (hb.cell (p := ⟨0, k, none⟩) (Nat.lt_of_lt_of_le hlt hB)).trans hc
/-- the reader in the state s -/
structure SRd (w0 w : World) (R b c n : Nat) (s : Sh.St) : Prop where
  lies : Lies w R 53 [.slice (some ⟨b, 0, none⟩) n c, .int .i64 s.i, .int .i64 s.v, .int .i64 s.e]
  base : Below R w0 w
section
variable {w0 w w' : World} {R b c n : Nat} {s : Sh.St} {l : List Int}
theorem SRd.lt (h : SRd w0 w R b c n s) : R < w.heap.size := h.lies.lt
theorem SRd.below {B : Nat} (h : SRd w0 w R b c n s) (hb : Below B w w') (hB : R < B) : SRd w0 w' R b c n s := ⟨h.lies.below hb hB, h.base.trans (below_low hb (Nat.le_of_lt hB))⟩
theorem SRd.alloc (h : SRd w0 w R b c n s) (o : Obj) : SRd w0 (w.alloc o) R b c n s := h.below (below_new w o) h.lt
theorem SRd.at_ (h : SRd w0 w R b c n s) (j : Nat) : SRd w0 (w.setCell ⟨R, 1, none⟩ (.int .i64 j)) R b c n ⟨j, s.v, s.e⟩ := ⟨h.lies.set 1 _, h.base.setCell (Nat.le_refl _) _⟩
theorem SRd.lv (h : SRd w0 w R b c n s) (j : Nat) : SRd w0 (w.setCell ⟨R, 2, none⟩ (.int .i64 j)) R b c n ⟨s.i, j, s.e⟩ := ⟨h.lies.set 2 _, h.base.setCell (Nat.le_refl _) _⟩
theorem SRd.err (h : SRd w0 w R b c n s) (x : Int) : SRd w0 (w.setCell ⟨R, 3, none⟩ (.int .i64 x)) R b c n ⟨s.i, s.v, x⟩ := ⟨h.lies.set 3 _, h.base.setCell (Nat.le_refl _) _⟩
theorem SRd.rune (h : SRd w0 w R b c n s) (hs : Src w0 R b c l) {j : Nat} {u : Int} (hj : l[j]? = some u) : w.cell? ⟨b, j, none⟩ = some (.int .i32 u) :=
  (h.base.cell (p := ⟨b, j, none⟩) (Nat.lt_of_lt_of_le hs.blk hs.lt)).trans (hs.cell j u hj)
theorem SRd.errR (h : SRd w0 w R b c n s) (hs : Src w0 R b c l) : ErrR w := hs.err.below h.base hs.lt
theorem SRd.sgn (h : SRd w0 w R b c n s) (hs : Src w0 R b c l) (hg : Sgn w0) : Sgn w := hg.below h.base hs.lt
end
theorem shat_some {l : List Int} {i : Nat} (h : i < l.length) : l[i]? = some (Tx.at_ l i) := by
  unfold Tx.at_
  rw [List.getElem?_eq_getElem h, List.getD_eq_getElem?_getD, List.getElem?_eq_getElem h]; rfl
theorem shat_none {l : List Int} {i : Nat} (h : l.length ≤ i) : Tx.at_ l i = -1 := by
  unfold Tx.at_
  rw [List.getD_eq_getElem?_getD, List.getElem?_eq_none h]; rfl
set_option maxRecDepth 100000 in
theorem snext_any {w0 : World} {R b c : Nat} {l : List Int} (hs : Src w0 R b c l) (s : Sh.St) (w : World) (h : SRd w0 w R b c l.length s) (hi : s.i ≤ l.length) (V : Int) (hV : V = Sh.nx l s) :
    Calls Tryz.prog 16 #[.pointer (some ⟨R, 0, none⟩)] w fun E w' => E = .returned (.int .i32 V) ∧ Below w.heap.size w w' := by
  have x0 := h.lies.cell (i := 0) rfl
  have x1 := h.lies.cell (i := 1) rfl
  have x2 := h.lies.cell (i := 2) rfl
  have x3 := h.lies.cell (i := 3) rfl
  have Hrn := Lib.hid (fun u hj => h.rune (l := l) hs (j := s.i) (u := u) hj)
  have hlen := hs.len
  have hV2 : V = if s.e = 0 then Tx.at_ l s.i else -1 := hV
  obtain ⟨i, v, e⟩ := s
  dsimp only at *
  have HV := Lib.hid hV2
  clear hV hV2 h hs
  by_cases he : e = 0
  · subst he
    by_cases hl : i = l.length
    · have HE := Lib.hid (show V = -1 by rw [HV.out, if_pos rfl, shat_none (by omega)])
      have e1 : decide ((i : Int) = (l.length : Int)) = true := by simp [hl]
      have e2 : ((i : Int) == (l.length : Int)) = true := by simp [hl]
      clear hl
      go_enter Tryz.func16, Tryz.ntmps16
      go_wp2_with (fail)
      go_quiet (fail)
      go_wp2
      go_ret
      exact ⟨by rw [HE.out]; rfl, (Same.drewN (Same.refl w) _).below _⟩
    · have hlt : i < l.length := by omega
      have hc := Hrn.out _ (shat_some hlt)
      obtain ⟨z, hz⟩ : ∃ z, z = Tx.at_ l i := ⟨_, rfl⟩
      rw [← hz] at hc
      have HE := Lib.hid (show V = z by rw [HV.out, if_pos rfl, hz])
      have e1 : decide ((i : Int) = (l.length : Int)) = false := by simp; omega
      have e2 : ((i : Int) == (l.length : Int)) = false := by simp; omega
      have e3 : ¬ (l.length : Int) ≤ (i : Int) := by omega
      clear hl Hrn hz
      go_enter Tryz.func16, Tryz.ntmps16
      go_wp2_with (fail)
      go_quiet (fail)
      go_wp2_with (fail)
      go_quiet (fail)
      go_wp2
      go_ret
      exact ⟨by rw [HE.out]; rfl, ((Same.drewN (Same.refl w) _).drewN _).below _⟩
  · have HE := Lib.hid (show V = -1 by rw [HV.out, if_neg he])
    have e1 : decide (e = 0) = false := by simpa using he
    have e2 : (e == 0) = false := by simpa using he
    have e3 : (e != 0) = true := by simpa using he
    clear Hrn he
    go_enter Tryz.func16, Tryz.ntmps16
    go_wp2_with (fail)
    go_quiet (fail)
    go_wp2
    go_ret
    exact ⟨by rw [HE.out]; rfl, (Same.drewN (Same.refl w) _).below _⟩
theorem sfail_any {w0 : World} {R b c n : Nat} (s : Sh.St) (j : Nat) (x : Int) (w : World) (h : SRd w0 w R b c n s) (s' : Sh.St) (hS : s' = Sh.fail j x s) :
    Calls Tryz.prog 17 #[.pointer (some ⟨R, 0, none⟩), .int .i64 j, .int .i64 x] w fun E w' => E = .returned (.tuple #[]) ∧ SRd w0 w' R b c n s' ∧ Gw R w w' := by
  have x1 := h.lies.cell (i := 1) rfl
  have x3 := h.lies.cell (i := 3) rfl
  have f1 := h.lies.free 1
  have f3 := h.lies.free 3
  have y3 := (h.lies.set 1 (.int .i64 j)).cell (i := 3) rfl
  have g3 := (h.lies.set 1 (.int .i64 j)).free 3
  have Hr := Lib.hid h
  have HS := Lib.hid hS
  obtain ⟨i, v, e⟩ := s
  dsimp only at *
  clear h hS
  by_cases he : e = 0
  · subst he
    have hs2 : s' = ⟨j, v, x⟩ := by rw [HS.out, Sh.fail, if_pos rfl]
    subst hs2
    go_enter Tryz.func17, Tryz.ntmps17
    go_wp2
    go_end0
    exact ⟨rfl, (Hr.out.at_ _).err _, (Gw.set _ _ _).trans (Gw.set _ _ _)⟩
  · have hs2 : s' = ⟨i, v, e⟩ := by rw [HS.out, Sh.fail, if_neg he]
    subst hs2
    have e1 : decide (e = 0) = false := by simpa using he
    have e2 : (e == 0) = false := by simpa using he
    clear he
    go_enter Tryz.func17, Tryz.ntmps17
    go_wp2
    go_end0
    exact ⟨rfl, Hr.out, Gw.refl _⟩
theorem wrap_small12 {n : Nat} (h : n ≤ 1000000) : wrap64 ((n : Int) + 1) = ((n + 1 : Nat) : Int) := by unfold wrap64; omega
set_option maxRecDepth 100000 in
theorem sskip_any {w0 : World} {R b c : Nat} {l : List Int} (hs : Src w0 R b c l) (s : Sh.St) (c0 : Int) (w : World) (h : SRd w0 w R b c l.length s) (hi : s.i ≤ l.length) (B : Bool) (hB : B = decide (Sh.nx l s = c0)) (s' : Sh.St) (hS : s' = Sh.skip l c0 s) :
    Calls Tryz.prog 27 #[.pointer (some ⟨R, 0, none⟩), .int .i32 c0] w fun E w' => E = .returned (.bool B) ∧ SRd w0 w' R b c l.length s' ∧ Gw R w w' := by
  obtain ⟨V, hV⟩ : ∃ V, V = Sh.nx l s := ⟨_, rfl⟩
  have cn := snext_any hs s w h hi V hV
  have hlen := hs.len
  rw [← hV] at hB
  have hS2 : s' = if V = c0 then Sh.on s else s := by rw [hS, Sh.skip, ← hV]
  have Hr := Lib.hid h
  clear h hV hs hS
  cases B
  · have hne : (V != c0) = true := by simpa using hB.symm
    have hne2 : (V == c0) = false := by simpa using hB.symm
    have hne3 : ¬ V = c0 := by simpa using hB.symm
    obtain rfl : s' = s := by rw [hS2, if_neg hne3]
    clear hB hS2 hne3
    go_enter Tryz.func27, Tryz.ntmps27
    go_wp2_with (fail)
    refine cn.mono ?_
    rintro E w1 ⟨rfl, hb1⟩
    clear cn
    go_wp2_with (fail)
    go_ret
    exact ⟨rfl, Hr.out.below hb1 Hr.out.lt, Gw.of hb1⟩
  · have hne : (V != c0) = false := by simpa using hB.symm
    have hne2 : (V == c0) = true := by simpa using hB.symm
    have hne3 : V = c0 := by simpa using hB.symm
    have hs3 := Lib.hid (show s' = Sh.on s by rw [hS2, if_pos hne3])
    obtain ⟨i, hii⟩ : ∃ i, i = s.i := ⟨_, rfl⟩
    have hw := wrap_small12 (n := i) (by omega)
    rw [← hii] at hi
    have HI := Lib.hid hii
    clear hB hS2 hne3 hii
    go_enter Tryz.func27, Tryz.ntmps27
    go_wp2_with (fail)
    refine cn.mono ?_
    rintro E w1 ⟨rfl, hb1⟩
    have h1 := Hr.out.below hb1 Hr.out.lt
    have x1 := h1.lies.cell (i := 1) rfl
    have f1 := h1.lies.free 1
    rw [← HI.out] at x1
    have H1 := Lib.hid h1
    clear cn h1
    go_wp2_with (fail)
    go_ret
    refine ⟨rfl, ?_, (Gw.of hb1).trans (Gw.set _ _ _)⟩
    rw [hs3.out, Sh.on, ← HI.out]
    exact H1.out.at_ _
set_option maxRecDepth 100000 in
theorem spass_any {w0 : World} {R b c : Nat} {l : List Int} (hs : Src w0 R b c l) (s : Sh.St) (c0 : Int) (w : World) (h : SRd w0 w R b c l.length s) (hi : s.i ≤ l.length) (s' : Sh.St) (hS : s' = Sh.pass l c0 s) :
    Calls Tryz.prog 38 #[.pointer (some ⟨R, 0, none⟩), .int .i32 c0] w fun E w' => E = .returned (.tuple #[]) ∧ SRd w0 w' R b c l.length s' ∧ Gw R w w' := by
  obtain ⟨B, hB⟩ : ∃ B, B = decide (Sh.nx l s = c0) := ⟨_, rfl⟩
  obtain ⟨s1, hs1⟩ : ∃ s1, s1 = Sh.skip l c0 s := ⟨_, rfl⟩
  have cs := sskip_any hs s c0 w h hi B hB s1 hs1
  have hfin : (B = true → s' = s1) ∧ (B = false → s1 = s ∧ s' = Sh.fail s.i 1 s) := by
    unfold Sh.pass at hS
    unfold Sh.skip at hs1
    by_cases hx : Sh.nx l s = c0
    · rw [if_pos hx] at hS hs1
      have : B = true := by rw [hB]; simpa using hx
      exact ⟨fun _ => by rw [hS, hs1], fun h => by rw [this] at h; cases h⟩
    · rw [if_neg hx] at hS hs1
      have : B = false := by rw [hB]; simpa using hx
      exact ⟨fun h => absurd (this.symm.trans h) (by decide), fun _ => ⟨hs1, hS⟩⟩
  have HF := Lib.hid hfin
  clear hfin hB hs1 hS h hs
  cases B
  · obtain ⟨rfl, hS2⟩ := HF.out.2 rfl
    have HS2 := Lib.hid hS2
    clear hS2
    go_enter Tryz.func38, Tryz.ntmps38
    go_wp2_with (fail)
    refine cs.mono ?_
    rintro E w1 ⟨rfl, h1, hg1⟩
    have x1 := h1.lies.cell (i := 1) rfl
    have cf := sfail_any s1 s1.i 1 w1 h1 s' HS2.out
    clear cs h1
    go_wp2_with (fail)
    refine cf.mono ?_
    rintro E w2 ⟨rfl, h2, hg2⟩
    clear cf x1
    go_wp2_with (fail)
    go_end0
    exact ⟨rfl, h2, hg1.trans hg2⟩
  · obtain rfl := HF.out.1 rfl
    go_enter Tryz.func38, Tryz.ntmps38
    go_wp2_with (fail)
    refine cs.mono ?_
    rintro E w1 ⟨rfl, h1, hg1⟩
    clear cs
    go_wp2_with (fail)
    go_end0
    exact ⟨rfl, h1, hg1⟩
theorem sdigit_any (V : Int) (w : World) :
    Calls Tryz.prog 37 #[.int .i32 V] w fun E w' => E = .returned (.bool (Tx.isDig V)) ∧ w = w' := by
  have hd : Tx.isDig V = (decide (48 ≤ V) && decide (V ≤ 57)) := rfl
  rw [hd]
  go_enter Tryz.func37, Tryz.ntmps37
  by_cases h1 : 48 ≤ V
  · have e1 : decide (48 ≤ V) = true := decide_eq_true h1
    go_wp2_with (fail)
    go_ret
    exact ⟨ret_bool (by rw [e1]; simp), rfl⟩
  · have e1 : decide (48 ≤ V) = false := decide_eq_false h1
    go_wp2_with (fail)
    go_ret
    exact ⟨ret_bool (by simp), rfl⟩
set_option maxRecDepth 100000 in
theorem sbegin_any {w0 : World} {R b c : Nat} {l : List Int} (hs : Src w0 R b c l) (s : Sh.St) (w : World) (h : SRd w0 w R b c l.length s) (hk : Sh.Ok l s) (s' : Sh.St) (hS : s' = Sh.begin_ l s) :
    Calls Tryz.prog 36 #[.pointer (some ⟨R, 0, none⟩)] w fun E w' => E = .returned (.tuple #[]) ∧ SRd w0 w' R b c l.length s' ∧ Gw R w w' := by
  obtain ⟨V, hV⟩ : ∃ V, V = Sh.nx l s := ⟨_, rfl⟩
  have cn := snext_any hs s w h hk.1 V hV
  have cd := fun w => sdigit_any V w
  have hlen := hs.len
  have hv64 : Tx.isDig V = true → s.v ≤ 64 := fun hd => hk.2 (Sh.nx_eq hV.symm (by rintro rfl; exact absurd hd (by decide))).1
  have hS2 : s' = if Tx.isDig V then (if 64 < s.v + 1 then Sh.fail s.i 2 ⟨s.i, s.v + 1, s.e⟩ else ⟨s.i, s.v + 1, s.e⟩) else s := by rw [hS, Sh.begin_, ← hV]
  obtain ⟨D, hD⟩ : ∃ D, D = Tx.isDig V := ⟨_, rfl⟩
  rw [← hD] at cd hv64 hS2
  have Hr := Lib.hid h
  have HS := Lib.hid hS2
  clear h hV hs hS hS2 hD hk
  cases D
  · obtain rfl : s' = s := by rw [HS.out]; rfl
    clear hv64
    go_enter Tryz.func36, Tryz.ntmps36
    go_wp2_with (fail)
    refine cn.mono ?_
    rintro E w1 ⟨rfl, hb1⟩
    clear cn
    go_wp2_with (fail)
    refine (cd _).mono ?_
    rintro E w2 ⟨rfl, rfl⟩
    go_wp2_with (fail)
    first | go_end0 | (refine bodyPost_ret (results_none rfl _ _ _) rfl ?_)
    exact ⟨rfl, Hr.out.below hb1 Hr.out.lt, Gw.of hb1⟩
  · have hv := hv64 rfl
    obtain ⟨v, hvv⟩ : ∃ v, v = s.v := ⟨_, rfl⟩
    rw [← hvv] at hv
    have hw := wrap_small12 (n := v) (by omega)
    have HVV := Lib.hid hvv
    clear hv64 hvv
    go_enter Tryz.func36, Tryz.ntmps36
    go_wp2_with (fail)
    refine cn.mono ?_
    rintro E w1 ⟨rfl, hb1⟩
    have h1 := Hr.out.below hb1 Hr.out.lt
    have x2 := h1.lies.cell (i := 2) rfl
    have f2 := h1.lies.free 2
    rw [← HVV.out] at x2
    have h2 := h1.lv (v + 1)
    have ec : ((v + 1 : Nat) : Int) = (v : Int) + 1 := by omega
    rw [ec] at h2 hw
    have H2 := Lib.hid h2
    have G2 := Lib.hid ((Gw.of (R := R) hb1).trans (Gw.set w1 2 (.int .i64 ((v : Int) + 1))))
    have y1 := h2.lies.cell (i := 1) rfl
    have y2 := h2.lies.cell (i := 2) rfl
    dsimp only at y1 y2
    rw [ec] at y2
    clear cn h1 h2
    by_cases h64 : 64 < v + 1
    · have cf := sfail_any ⟨s.i, v + 1, s.e⟩ s.i 2 _ H2.out s' (by rw [HS.out, ← HVV.out, if_pos h64]; rfl)
      have h64' : (64 : Int) < (v : Int) + 1 := by omega
      go_wp2_with (fail)
      refine (cd _).mono ?_
      rintro E w2 ⟨rfl, rfl⟩
      go_wp2_with (fail)
      refine cf.mono ?_
      rintro E w3 ⟨rfl, h3, hg3⟩
      go_wp2_with (fail)
      first | go_end0 | (refine bodyPost_ret (results_none rfl _ _ _) rfl ?_)
      exact ⟨rfl, h3, G2.out.trans hg3⟩
    · have h64' : ¬ (64 : Int) < (v : Int) + 1 := by omega
      have hs3 : s' = ⟨s.i, v + 1, s.e⟩ := by rw [HS.out, ← HVV.out, if_neg h64]; rfl
      subst hs3
      go_wp2_with (fail)
      refine (cd _).mono ?_
      rintro E w2 ⟨rfl, rfl⟩
      go_wp2_with (fail)
      first | go_end0 | (refine bodyPost_ret (results_none rfl _ _ _) rfl ?_)
      exact ⟨rfl, H2.out, G2.out⟩
end Go.Proofs.YteimbdklakemaaaGreatDoor
