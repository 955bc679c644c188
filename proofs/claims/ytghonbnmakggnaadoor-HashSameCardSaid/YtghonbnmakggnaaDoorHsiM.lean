/-
  PACKAGE hash: shelve.
-/
import Derived.Test.YtghonbnmakggnaaDoorHshM
import Derived.Deep.RegionLaw
namespace Go.Proofs.YtghonbnmakggnaaDoor
open Go.RowKit Go.Sort Go.Maps
set_option maxHeartbeats 6400000

/-- append onto a row of one's own as one step of a region that draws its order -/
theorem step_append_at15 {P : Program} {ops : Array Oper} {o : Oper} {a : Act} {w : World} {K : Act → World → Prop} {Q : Exit → Act → World → Prop} {E : Prop} (hgd : o.guard = none) (s x : Operand) (t : TypeId)
    (ho : o.op = .call { callee := .builtin .append, args := #[s, x], argTypes := #[t, t] })
    (base : Nat) (e : TypeId) (i : TypeInfo) (z : Value) (size bytes : Nat) (ht : P.underlying t = some (.slice e)) (hi : P.info? e = some i) (hz : i.zero = some z)
    (hsize : i.size = size) (hby : i.bytes = bytes) (hzs : z.cells.size = size) (hs0 : 0 < size)
    (v : Value) (n : Nat) (xs : List Value) (hs : a.eval s = v) (hown : w.ownsRow base e size v n xs)
    (ad : Addr) (m c : Nat) (news : List Value) (hx : a.eval x = .slice (some ad) m c) (hl : news.length = m * size) (hc : ∀ j u, news[j]? = some u → w.cell? (ad.add j) = some u) (h1 : ∀ u ∈ news, u.oneCell' = true)
    (h63 : n + m ≤ maxLen) (hbytes : (n + m) * bytes ≤ 140737488355328) (hbase : base ≤ w.heap.size)
    (h : ∀ v' w', Hid (w'.ownsRow base e size v' (n + m) (xs ++ news) ∧ w.grownBy w' v.ownBlock ∧ (v'.ownBlock = v.ownBlock ∨ ∃ g, v'.ownBlock = some g ∧ w.heap.size ≤ g)) → K (a.put o.dst v') w') :
    if Region.wanted o (yielded ops a.tmps) = true then Oper.wp P o a w K Q else E := by
  have hw : Region.wanted o (yielded ops a.tmps) = true := by simp [Region.wanted, hgd]
  rw [if_pos hw]
  obtain ⟨v', w', hrun, r1, r2, r3⟩ := run_append_sep (P := P) w base t o.type e i z size bytes ht hi hz hsize hby hzs hs0 v n xs hown ad m c news hl hc h1 h63 hbytes hbase
  unfold Oper.wp
  simp [execOp, ho, resolve, invoke, builtin, hs, hx, hrun, Result.andThen]
  exact h v' w' (Lib.hid ⟨r1, r2, r3⟩)
/-- what shelve hands back: a map of its own -/
def OwnShelf (w : World) (xs : List Tm) (L : List (List (List Vl))) (E : Ending) (w' : World) : Prop :=
  ∃ b base n g U, E = .returned (.map (some b)) ∧ Shelf (fun j => j < w.heap.size) base w' b n g U (fun s => Hs.alike xs (some s) L) ∧ w.heap.size ≤ b ∧ Below w.heap.size w w'
theorem alike_none15 {xs : List Tm} {R : List (List (List Vl))} {q : Nat} {t : List (List Vl)} (h : R[q]? = some t) (hk : Hs.key xs t = none) : (fun s => Hs.alike xs (some s) (R.take (q + 1))) = fun s => Hs.alike xs (some s) (R.take q) := by
  funext s
  rw [Hs.alike_take h, hk]
  simp
theorem alike_some15 {xs : List Tm} {R : List (List (List Vl))} {q : Nat} {t : List (List Vl)} {k : List UInt8} (h : R[q]? = some t) (hk : Hs.key xs t = some k) : (fun s => Hs.alike xs (some s) (R.take (q + 1))) = upd (fun s => Hs.alike xs (some s) (R.take q)) k (Hs.alike xs (some k) (R.take q) ++ [t]) := by
  funext s
  rw [Hs.alike_take h, hk]
  unfold upd
  by_cases e : s = k
  · subst e; simp
  · rw [if_neg e, if_neg (fun e2 => e (Option.some.inj e2).symm), List.append_nil]
set_option maxRecDepth 100000 in
theorem hshelve_any (tv lv : Value) (xs : List Tm) (L : List (List (List Vl))) (w : World) (ht : TmsAt w tv xs) (hl : TusOn Al w lv L) (hP : Pows w) (hi : ∀ t ∈ L, ∀ x ∈ xs, Hs.I64 (Te.val x t).2) (hn : xs.length ≤ 1000) (hL : L.length ≤ 1000) :
    Calls Tryd.prog 28 #[tv, lv] w (OwnShelf w xs L) := by
  obtain ⟨i0, hi0, hz0, hz1, hz2⟩ := info_parts Tryd.infoTup13
  have hl' : TusOn (fun k => k < w.heap.size) w lv L := hl.mono fun k h1 _ => h1
  obtain ⟨T0, c0, rfl, _⟩ := ht.form
  obtain ⟨L0, c1, rfl, _⟩ := hl'.form
  have CK := Lib.hid (show ∀ (u : Value) (t : List (List Vl)) (W : World), Below w.heap.size w W → RwsOn (fun k => k < w.heap.size) W u t → t ∈ L → _ from fun u t W hb hu hm =>
    hkey_any (.slice T0 xs.length c0) u xs t W (ht.below hb (Nat.le_refl _)) hu.rws (hP.below hb (Nat.le_refl _)) (hi t hm) hn)
  obtain ⟨n, hnn⟩ : ∃ n, n = L.length := ⟨_, rfl⟩
  obtain ⟨xl, hxl⟩ : ∃ n, n = xs.length := ⟨_, rfl⟩
  rw [← hnn] at hl' hL ⊢
  rw [← hxl] at CK ⊢
  have HL := Lib.hid hl'
  have HN := Lib.hid hnn
  have hmm := @run_makeMap Tryd.prog
  have HI := Lib.hid hi
  have HXN := Lib.hid (show xs.length ≤ 1000 from hn)
  obtain ⟨W0, hW0⟩ : ∃ W0, W0 = w.alloc (.map #[] 0) := ⟨_, rfl⟩
  have hs0 := Shelf.made (R := fun j => j < w.heap.size) w (fun _ h => h)
  have hb0 := below_new w (.map #[] 0)
  rw [← hW0] at hs0 hb0
  have HS0 := Lib.hid hs0
  have HB0 := Lib.hid hb0
  have HW0 := Lib.hid hW0
  clear ht hl hl' hP hi hn hnn hxl hs0 hb0 hW0
  go_enter Tryd.func28, Tryd.ntmps28
  go_wp2_with fail
  rw [← HW0.out]
  clear hmm
  go_loopw [12] (fun i wr => ∃ (q : Nat) (g : List UInt8 → Value) (U : List UInt8 → List Value), q ≤ n ∧ i = .int .i64 q ∧ Hid (Shelf (fun j => j < w.heap.size) (w.heap.size + 1) wr w.heap.size q g U (fun s => Hs.alike xs (some s) (L.take q))) ∧ Below w.heap.size w wr) (fun i _ => n - (intOf i).toNat)
  case atStart => exact ⟨0, _, _, Nat.zero_le _, rfl, Lib.hid (by simpa [Hs.alike] using HS0.out), HB0.out⟩
  case round =>
    obtain ⟨q, g, U, hq, rfl, HS, hb⟩ := hrel
    by_cases hlt : q < n
    · obtain ⟨t, gt⟩ : ∃ t, L[q]? = some t := ⟨L[q]'(by have := HN.out; omega), List.getElem?_eq_getElem _⟩
      obtain ⟨b1, o1, p1, B1, d1, hL0, hd1, h1⟩ := HL.out.pick gt
      subst hL0
      have i1 : (0 : Int) ≤ (q : Int) := by omega
      have i2 : (q : Int) < (n : Int) := by omega
      obtain ⟨hcell, hu⟩ := h1 wr hb
      have ck := CK.out _ t wr hb hu (List.mem_of_getElem? gt)
      obtain ⟨tl, htl⟩ : ∃ n, n = t.length := ⟨_, rfl⟩
      rw [← htl] at ck hcell hd1
      have H1 := Lib.hid h1
      have HLT := Lib.hid hlt
      have HTL := Lib.hid htl
      cases hk : Hs.key xs t with
      | none =>
        have HF := Lib.hid (alike_none15 gt hk)
        rw [hk] at ck
        clear gt hu h1 hk htl hlt hd1
        go_wp2_with fail
        refine ck.mono ?_
        rintro E w2 ⟨rfl, hb2⟩
        have HB2 := Lib.hid (below_join hb hb2)
        have HS2 := Lib.hid ((HS.out.below hb2).mono (Nat.le_succ q))
        have hlt := HLT.out
        clear ck hb hb2 hcell
        go_wp2_with fail
        go_roundw
        case rel => exact ⟨q + 1, g, U, by omega, by go_num, Lib.hid (by rw [HF.out]; exact HS2.out), HB2.out⟩
        case measure => simp [intOf]; omega
      | some k0 =>
        have HF := Lib.hid (alike_some15 gt hk)
        have hk0 : k0.length ≤ 22000 := by have h3 := Hs.key_le hk (HI.out t (List.mem_of_getElem? gt)); have := HXN.out; omega
        rw [hk] at ck
        clear gt hu h1 hk htl hlt
        go_wp2_with fail
        refine ck.mono ?_
        rintro E w2 ⟨rfl, hb2⟩
        have HB2 := Lib.hid (below_join hb hb2)
        have hs2 := HS.out.below hb2
        have hcell2 := (H1.out w2 (below_join hb hb2)).1
        rw [← HTL.out] at hcell2
        have HS2 := Lib.hid hs2
        clear ck hb hb2 hcell
        go_wp2_with fail
        obtain ⟨v0, hv0⟩ : ∃ v0, v0 = g k0 := ⟨_, rfl⟩
        obtain ⟨wa, hwa⟩ : ∃ wa, wa = (w2.alloc (Obj.cells #[.slice B1 tl d1] 25)).drew := ⟨_, rfl⟩
        have hba : Below w2.heap.size w2 wa := by rw [hwa]; exact Below.drew (below_new w2 _)
        have hsa := hs2.below hba
        have hrow := hsa.row k0
        have hua := (H1.out wa (below_join HB2.out hba)).2
        rw [← HTL.out] at hua
        obtain ⟨m, hm⟩ : ∃ m, m = (Hs.alike xs (some k0) (L.take q)).length := ⟨_, rfl⟩
        have hmq : m ≤ q := by have h3 := (Hs.alike_sub (xs := xs) (k := some k0) (R := L.take q)).length_le; rw [List.length_take] at h3; omega
        rw [← hm, ← hv0] at hrow
        have HOA := Lib.hid hrow.own
        have HCN := Lib.hid (show ∀ (j : Nat) (x : Value), [Value.slice B1 tl d1][j]? = some x → wa.cell? ((⟨w2.heap.size, 0, none⟩ : Addr).add j) = some x by rw [hwa]; exact cell_one_new w2 (.slice B1 tl d1) 25)
        have HSTO := Lib.hid (show ∀ (v5 : Value) (w5 : World), w5.ownsRow (w.heap.size + 1) 25 1 v5 (m + 1) (U k0 ++ [.slice B1 tl d1]) → wa.grownBy w5 v0.ownBlock → (v5.ownBlock = v0.ownBlock ∨ ∃ g, v5.ownBlock = some g ∧ wa.heap.size ≤ g) →
            ∃ w6, (Instr.mapUpdate 67 (.map (some w.heap.size)) (.string ⟨k0.toArray⟩) v5).run Tryd.prog w5 = .ok () w6 ∧ Hid (∃ g' U', Shelf (fun j => j < w.heap.size) (w.heap.size + 1) w6 w.heap.size (q + 1) g' U' (fun s => Hs.alike xs (some s) (L.take (q + 1))) ∧ Below w.heap.size w w6) from fun v5 w5 h1 h2 h3 => by
          have hp := hrow.push (hua.mono fun k _ hk => ⟨fun e => by have := (hrow.own.lt k e).1; omega, hk⟩) h1 h2 h3
          obtain ⟨w6, hr, h6, h7⟩ := hsa.store (k0 := k0) (ts' := Hs.alike xs (some k0) (L.take q) ++ [t]) (by unfold maxLen; omega) (by rw [← hv0]; exact h2) (by rw [List.length_append, ← hm]; exact hp) (by rw [← hv0]; exact h3) (by unfold maxLen; omega)
          refine ⟨w6, hr, Lib.hid ⟨_, _, by rw [HF.out]; exact h6, ?_⟩⟩
          have h8 : Below w.heap.size w w5 := (below_join HB2.out hba).grown h2 (below_join HB2.out hba).size (fun k hk => by have := (hrow.own.lt k hk).1; omega)
          exact h8.grown h7 h8.size (fun k hk => by cases hk; exact Nat.le_refl _))
        have HWA := Lib.hid hwa
        have HBA := Lib.hid (Nat.le_trans (Nat.succ_le_of_lt hsa.blt) (Nat.le_refl _))
        have l1 : (Instr.lookup 67 (.map (some w.heap.size)) (.string ⟨k0.toArray⟩) false).run Tryd.prog w2.drew = .ok v0 w2.drew := by rw [hv0]; exact (hs2.below (w' := w2.drew) (Below.drew (Below.refl _ _))).look (by unfold maxLen; omega)
        have l2 : (Instr.lookup 67 (.map (some w.heap.size)) (.string ⟨k0.toArray⟩) false).run Tryd.prog ((w2.alloc (Obj.cells #[.slice B1 tl d1] 25)).drew) = .ok v0 ((w2.alloc (Obj.cells #[.slice B1 tl d1] 25)).drew) := by
          rw [hv0]
          have h2 := hs2.below (w' := (w2.alloc (Obj.cells #[.slice B1 tl d1] 25)).drew) (Below.drew (below_new w2 _))
          exact h2.look (by unfold maxLen; omega)
        have c1 : w2.drew.cell? ((⟨b1, o1, p1⟩ : Addr).add q) = some (.slice B1 tl d1) := hcell2
        have HMQ := Lib.hid hmq
        clear hcell2 hs2 hsa hrow hua hba hv0 hm hmq
        rw [hwa] at HOA HCN HSTO HBA
        clear hwa
        go_region_law (refine step_append_at15 rfl (.tmp 29) (.tmp 34) 27 rfl (w.heap.size + 1) 25 i0 (.slice none 0 0) 1 24 Tryd.underlying27 hi0 hz0 hz1 hz2 rfl (by decide) v0 m (U k0) (by simp [Act.eval]) HOA.out ⟨w2.heap.size, 0, none⟩ 1 1 [.slice B1 tl d1] (by simp [Act.eval]) rfl HCN.out (by intro u hu; simp at hu; subst hu; rfl) (by have := HMQ.out; unfold maxLen; omega) (by have := HMQ.out; omega) HBA.out ?_; intro v5 w5 hg5; obtain ⟨w6, hr6, hh6⟩ := HSTO.out v5 w5 hg5.out.1 hg5.out.2.1 hg5.out.2.2)
        all_goals
          have hlt := HLT.out
          clear hr6 l1 l2 c1 hg5
          obtain ⟨g', U', hs6, hb6⟩ := hh6.out
          have HS6 := Lib.hid hs6
          have HB6 := Lib.hid hb6
          clear hs6 hb6 hh6
          go_wp2_with fail
          go_roundw
          case rel => exact ⟨q + 1, g', U', by omega, by go_num, HS6, HB6.out⟩
          case measure => simp [intOf]; omega
    · have hres := Lib.hid (show OwnShelf w xs L (.returned (.map (some w.heap.size))) wr from ⟨_, _, _, g, U, rfl, by
        have h3 := HS.out
        rw [List.take_of_length_le (by have := HN.out; omega)] at h3
        exact h3, Nat.le_refl _, hb⟩)
      have i2 : ¬ ((q : Int) < (n : Int)) := by omega
      clear hb hlt HS
      go_wp2_with fail
      go_ret
      exact hres.out
end Go.Proofs.YtghonbnmakggnaaDoor
