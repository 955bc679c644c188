/-
  THE DOCUMENT's ANSWERS OF LAYER 10: All, a row of trees of one's own; what hangs from the trees lies where it lay.
-/
import Derived.Test.YtdcgfhenlddmeaaTraM
import Derived.Test.YtdcgfhenlddmeaaGPred
namespace Go.Proofs.Ytdcgfhenlddmeaa
open Go.RowKit Go.Sort
set_option maxHeartbeats 1600000

/-- a tree with the two slices of its cells -/
abbrev TrV := Tr × Value × Value
/-- the cells of a row of trees -/
def trCells (l : List TrV) : List Value := l.flatMap fun x => x.1.cells x.2.1 x.2.2
theorem trCells_app (l m : List TrV) : trCells (l ++ m) = trCells l ++ trCells m := by simp [trCells]
/-- what hangs from a tree's cells, as it lies in w -/
def TrHang (w : World) (x : TrV) : Prop := (∃ d, TsAt d w x.2.1 x.1.ks) ∧ PsSome w x.2.2 x.1.cs
theorem trCells_one {w : World} {l : List TrV} (h : ∀ x ∈ l, TrHang w x) : ∀ u ∈ trCells l, u.oneCell' = true := by
  intro u hu
  simp only [trCells, List.mem_flatMap] at hu
  obtain ⟨x, hx, hu⟩ := hu
  obtain ⟨⟨d, h1⟩, D, h2⟩ := h x hx
  obtain ⟨A, c, h1, _⟩ := h1.form
  obtain ⟨B, c', h2, _⟩ := h2.form
  rw [h1, h2] at hu
  simp [Tr.cells] at hu
  rcases hu with rfl | rfl | rfl | rfl | rfl <;> rfl
theorem Tr.alls_take {l : List Tr} {q : Nat} {b : Tr} (h : l[q]? = some b) : Tr.alls (l.take (q + 1)) = Tr.alls (l.take q) ++ Tr.all b := by
  rw [List.take_add_one, h]; exact Tr.alls_snoc _ _
theorem Tr.alls_len (l : List Tr) : (Tr.alls l).length ≤ Tr.sizes l := by
  induction l with
  | nil => rw [Tr.alls, Tr.sizes]; simp
  | cons b r ih => rw [Tr.alls, Tr.sizes, List.length_append]; have := Tr.all_length_le b; omega
/-- what a call hands back: a slice of its own that holds the trees l, hanging as in w0 -/
def OwnTrs (w0 w : World) (l : List Tr) (e : Ending) (w' : World) : Prop :=
  ∃ v L, e = .returned v ∧ L.map (·.1) = l ∧ (∀ x ∈ L, TrHang w0 x) ∧ w'.ownsRow w.heap.size 26 5 v L.length (trCells L) ∧ Below w.heap.size w w'
theorem Try.infoTree : (Try.prog.info? 26).map (fun i => (i.zero, i.size, i.bytes)) = some (some (.agg #[.int .i64 0, .int .i64 0, .slice none 0 0, .slice none 0 0, .bool false]), 5, 72) := by kernel_rfl
set_option maxRecDepth 100000 in
theorem r10all_any (w0 : World) (d : Nat) : ∀ (a : Tr) (u v : Value) (w : World), Below w0.heap.size w0 w → TsAt d w0 u a.ks → PsSome w0 v a.cs → Tr.size a ≤ 1000 →
    Calls Try.prog 15 #[.agg #[.int .i64 a.k, .int .i64 a.t, u, v, .bool a.h]] w (OwnTrs w0 w (Tr.all a)) := by
  induction d using Nat.strongRecOn with
  | ind d ih =>
  intro a u v w hw hu hv hsz
  obtain ⟨i0, hi, hz0, hz1, hz2⟩ := info_parts Try.infoTree
  obtain ⟨W0, hW0⟩ : ∃ W0, W0 = w.alloc (Obj.cells #[.int .i64 a.k, .int .i64 a.t, u, v, .bool a.h] 26) := ⟨_, rfl⟩
  obtain ⟨l0, p0, hb0⟩ := tr_box (a := a) (u := u) (v := v) hW0
  have HU := Lib.hid hu
  have HHG := Lib.hid (show TrHang w0 (a, u, v) from ⟨⟨d, hu⟩, hv⟩)
  obtain ⟨A, c, rfl, hl⟩ := hu.form
  obtain ⟨A', c', rfl, hl'⟩ := hv.elim fun D h => h.form
  have hn1 := Tr.sizes_length a.ks
  have hsa := Tr.size_at a
  have hn2 : a.ks.length ≤ 1000 := by omega
  have HS := Lib.hid (show Tr.sizes a.ks ≤ 999 by omega)
  have HW := Lib.hid hW0
  have IH := Lib.hid ih
  have HP := Lib.hid p0
  have HL := Lib.hid l0.lt
  have HWW := Lib.hid hw
  have HALL := Lib.hid (Tr.all_at a)
  obtain ⟨n, hn⟩ : ∃ n, n = a.ks.length := ⟨_, rfl⟩
  rw [← hn] at hl HU HHG HP HW hn2 ⊢
  have HN := Lib.hid hn
  have how := own_empty W0 26 5 W0.heap.size (Nat.le_refl _) W0.heap.size rfl
  have hb : Below W0.heap.size W0 (W0.alloc (Obj.cells #[] 26)) := below_new _ _
  have HB0 := Lib.hid hb0
  have HSZ := Lib.hid (show W0.heap.size = w.heap.size + 1 by rw [hW0, World.size_alloc])
  have HHO := Lib.hid (show (W0.alloc (Obj.cells #[] 26)).ownsRow W0.heap.size 26 5 (.slice (some ⟨W0.heap.size, 0, none⟩) 0 0) 0 (trCells []) from how)
  clear hW0 ih hu hv l0 p0 hn hsz hsa hn1 hb0 how hw hl'
  go_enter Try.func15, Try.ntmps15
  go_upto_region 1 with (fail)
  rw [← HW.out]
  go_wp2_with fail
  go_loopw [3, 4] (fun s i wr => ∃ (q : Nat) (L : List TrV), q ≤ n ∧ i = .int .i64 q ∧ L.map (·.1) = Tr.alls (a.ks.take q) ∧ Hid (∀ x ∈ L, TrHang w0 x) ∧ wr.ownsRow W0.heap.size 26 5 s L.length (trCells L) ∧ Below W0.heap.size W0 wr) (fun _ i _ => n - (intOf i).toNat)
  case atStart => exact ⟨0, [], Nat.zero_le _, rfl, by rw [List.take_zero, Tr.alls]; rfl, Lib.hid (fun x hx => by simp at hx), HHO.out, hb⟩
  case round =>
    obtain ⟨q, L, hq, rfl, hLm, hLh, hown, hb⟩ := hrel
    have hLl : L.length ≤ 999 := by
      have h1 := congrArg List.length hLm
      rw [List.length_map] at h1
      have h2 := Tr.alls_len (a.ks.take q)
      have h3 := Tr.sizes_take q a.ks
      have h4 := HS.out
      omega
    have pr := HP.out.below hb (show w.heap.size < W0.heap.size from HL.out)
    have hbw := Lib.hid (below_join HB0.out hb)
    by_cases hlt : q < n
    · obtain ⟨b, gb⟩ : ∃ b, a.ks[q]? = some b := ⟨a.ks[q]'(by have := HN.out; omega), List.getElem?_eq_getElem _⟩
      have hu := HU.out
      rw [HN.out] at hu
      obtain ⟨e, bb, oo, ss, xx, yy, he, rfl, _, hx⟩ := hu.at_ gb
      have hwr : Below w0.heap.size w0 wr := below_join HWW.out hbw.out
      obtain ⟨hcell, _, _⟩ := hx wr hwr
      obtain ⟨_, hps, hks⟩ := hx w0 (Below.refl _ _)
      have hbs := Tr.sizes_at gb
      have cs := IH.out e he b xx yy wr hwr hks hps (by have := HS.out; omega)
      have HT := Lib.hid (Tr.alls_take gb)
      have k2 := pr.c2
      obtain ⟨A2, c2, rfl, _⟩ := hks.form
      obtain ⟨D2, hps2⟩ := hps
      obtain ⟨A3, c3, rfl, _⟩ := hps2.form
      have hal := Tr.all_length_le b
      have hbs' : Tr.size b ≤ 999 := by have := HS.out; omega
      obtain ⟨q0, q1, q2, q3, q4⟩ := hcell
      clear gb hx hps2 hks hu hwr pr hbs
      go_wp2_with fail
      refine cs.mono ?_
      rintro e w2 ⟨v2, L2, rfl, hm2, hh2, hown2, hb2⟩
      have hL2 : L2.length ≤ 999 := by
        have h1 := congrArg List.length hm2
        rw [List.length_map] at h1
        omega
      have hb' := below_join hb hb2
      have hown3 := own_kept hown hb2
      have hcame := CameN.own hown2
      have HH2 := Lib.hid hh2
      have HM2 := Lib.hid hm2
      have HLM := Lib.hid hLm
      clear cs q0 q1 q2 q3 q4 k2 hb2 hb hown hown2 hh2 hm2 hLm hal
      go_wp2_with (first
        | (at_builtin; refine wpList_append_n _ rfl _ _ 23 rfl W0.heap.size 26 i0 _ 5 72 Try.underlying23 hi hz0 hz1 hz2 rfl (by decide) _ _ _ rfl hown3 _ _ _ rfl hcame (trCells_one HH2.out) ?l1 ?l2 ?l3 ?_))
      case l1 => unfold maxLen; omega
      case l2 => omega
      case l3 => exact hb'.size
      intro v1 w3 hown4 hgrow
      have hb3 : Below W0.heap.size W0 w3 := hb'.grown hgrow hb'.size (fun k hk => (hown3.lt k hk).1)
      have hown5 : w3.ownsRow W0.heap.size 26 5 v1 (L ++ L2).length (trCells (L ++ L2)) := by rw [List.length_append, trCells_app]; exact hown4
      clear hown4 hgrow hown3 hcame hb'
      go_wp2_with fail
      go_roundw
      case rel => exact ⟨q + 1, L ++ L2, by omega, by go_num, by rw [List.map_append, HLM.out, HM2.out, HT.out], Lib.hid (fun x hx => (List.mem_append.1 hx).elim (hLh.out x) (HH2.out x)), hown5, hb3⟩
      case measure => simp [intOf]; omega
    · have hm : (L ++ [((a, Value.slice A n c, Value.slice A' a.cs.length c') : TrV)]).map (·.1) = Tr.all a := by
        rw [List.map_append, hLm, List.take_of_length_le (by have := HN.out; omega), HALL.out]; rfl
      have HM := Lib.hid hm
      have hh : ∀ x ∈ L ++ [((a, Value.slice A n c, Value.slice A' a.cs.length c') : TrV)], TrHang w0 x := fun x hx => (List.mem_append.1 hx).elim (hLh.out x) fun h => by rw [List.mem_singleton.1 h]; exact HHG.out
      have HH := Lib.hid hh
      have hcm := Lib.hid (show CameN (wr.alloc (Obj.cells #[.int .i64 a.k, .int .i64 a.t, .slice A n c, .slice A' a.cs.length c', .bool a.h] 26)) 5 (.slice (some ⟨wr.heap.size, 0, none⟩) 1 1) 1 (trCells [((a, Value.slice A n c, Value.slice A' a.cs.length c') : TrV)]) from CameN.new wr 26 5 1 _ _ rfl rfl)
      have hone := Lib.hid (trCells_one (l := [((a, Value.slice A n c, Value.slice A' a.cs.length c') : TrV)]) (w := w0) fun x hx => by rw [List.mem_singleton.1 hx]; exact HHG.out)
      have h63 := Lib.hid (show L.length + 1 ≤ maxLen by unfold maxLen; omega)
      have hby := Lib.hid (show (L.length + 1) * 72 ≤ 140737488355328 by omega)
      have hbs := Lib.hid (show W0.heap.size ≤ (wr.alloc (Obj.cells #[.int .i64 a.k, .int .i64 a.t, .slice A n c, .slice A' a.cs.length c', .bool a.h] 26)).heap.size by have := hb.size; rw [World.size_alloc]; omega)
      have hoa := Lib.hid (hown.alloc (Obj.cells #[.int .i64 a.k, .int .i64 a.t, .slice A n c, .slice A' a.cs.length c', .bool a.h] 26))
      obtain ⟨q0, q1, q2, q3, q4⟩ := pr
      clear hm hh hLm
      go_wp2_with (first
        | (at_builtin; refine wpList_append_n _ rfl _ _ 23 rfl W0.heap.size 26 i0 _ 5 72 Try.underlying23 hi hz0 hz1 hz2 rfl (by decide) _ L.length _ rfl hoa.out _ 1 (trCells [((a, Value.slice A n c, Value.slice A' a.cs.length c') : TrV)]) rfl hcm.out hone.out h63.out hby.out hbs.out ?_))
      intro v1 w1 hown1 hgrow
      have hb1 : Below W0.heap.size W0 w1 := (hb.alloc hb.size _).grown hgrow hbs.out (fun k hk => (hown.lt k hk).1)
      have HO := Lib.hid (show w1.ownsRow W0.heap.size 26 5 v1 (L ++ [((a, Value.slice A n c, Value.slice A' a.cs.length c') : TrV)]).length (trCells (L ++ [((a, Value.slice A n c, Value.slice A' a.cs.length c') : TrV)])) by rw [List.length_append, trCells_app]; exact hown1)
      clear hown1 hgrow q0 q1 q2 q3 q4 hown
      go_wp2_with fail
      go_ret
      exact ⟨_, _, rfl, HM.out, HH.out, HO.out.mono HB0.out.size, below_join HB0.out hb1⟩
end Go.Proofs.Ytdcgfhenlddmeaa
