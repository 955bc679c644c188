/-
  PACKAGE exec: a leaf's tuples.
-/
import Derived.Test.YtpaaibghfhnicaaGreatDoorExmM
import Derived.Test.YtpaaibghfhnicaaGreatDoorGNs
import Derived.Test.YtpaaibghfhnicaaGreatDoorGCkC
import Derived.Deep.OwnRows
namespace Go.Proofs.YtpaaibghfhnicaaGreatDoor
open Go.RowKit Go.Sort
set_option maxHeartbeats 3200000

theorem made_nil (n : Nat) : madeCells #[Value.slice none 0 0] n = Array.replicate n (Value.slice none 0 0) := by
  refine Array.ext (by simp [madeCells]) fun i h1 h2 => ?_
  simp [madeCells, Nat.mod_one]
theorem set_last {α : Type} (t : Nat) (z u : α) : (List.replicate (t + 1) z).set t u = List.replicate t z ++ [u] := by
  rw [List.replicate_succ', List.set_append]
  simp
/-- a leaf's tuple -/
theorem leaf_tuple {T : Nat → Prop} {w : World} {g t : Nat} {u : Value} {r : List Vl} {E : TypeId} (hl : Lies w g E (List.replicate t (.slice none 0 0) ++ [u])) (hu : RowOn T w u r) (hg : T g) :
    RwsOn T w (.slice (some ⟨g, 0, none⟩) (t + 1) (t + 1)) (List.replicate t [] ++ [r]) := by
  refine ⟨List.replicate t (.slice none 0 0) ++ [u], ⟨some ⟨g, 0, none⟩, t + 1, by simp, by simp, fun j x hj => ⟨g, 0, none, rfl, hg, hl.lt, by rw [add_here13]; exact hl.cell hj⟩⟩, by simp, fun i x hi => ?_⟩
  rcases Nat.lt_trichotomy i t with h | h | h
  · rw [List.getElem?_append_left (by simpa using h), List.getElem?_replicate, if_pos h] at hi
    cases hi
    exact ⟨.slice none 0 0, by rw [List.getElem?_append_left (by simpa using h), List.getElem?_replicate, if_pos h], RowOn.nil _ _⟩
  · subst h
    rw [List.getElem?_append_right (by simp)] at hi
    simp at hi
    subst hi
    exact ⟨u, by rw [List.getElem?_append_right (by simp)]; simp, hu⟩
  · rw [List.getElem?_eq_none (by simp; omega)] at hi
    cases hi
set_option maxRecDepth 100000 in
theorem xleaf_own (t : Nat) (dv : Value) (d : List (List (List Vl))) (rs : List (List Vl)) (w : World) (hd : Dts w dv d) (hg : d[t]? = some rs) (ht : t < 64) (hrs : rs.length ≤ 10000) (hx : ∀ x ∈ rs, x.length ≤ 1000) :
    Calls Tryz.prog 34 #[.int .i64 (t : Int), dv] w (OwnTus w (Ex.leaf (t : Int) d)) := by
  obtain ⟨i0, hi, hz0, hz1, hz2⟩ := info_parts Tryz.infoTup13
  have htl : t < d.length := (List.getElem?_eq_some_iff.1 hg).1
  have he : Ex.leaf (t : Int) d = rs.map fun r => List.replicate t [] ++ [r] := by unfold Ex.leaf; rw [Int.toNat_natCast, hg]; rfl
  rw [he]
  obtain ⟨D, dc, rfl, hdc, hat⟩ := hd
  obtain ⟨b, o, p, B, e, rfl, hlt, hcell, hrws⟩ := hat t rs hg
  have hro := hrws.on
  have hmk : ∀ W : World, (Instr.makeSlice 36 (.int .i64 ((t : Int) + 1)) (.int .i64 ((t : Int) + 1))).run Tryz.prog W = .ok (.slice (some ⟨W.heap.size, 0, none⟩) (t + 1) (t + 1)) (W.alloc (.cells (Array.replicate (t + 1) (Value.slice none 0 0)) 53)) := fun W => by
    rw [← made_nil]
    exact run_make_row' 36 53 (.slice none 0 0) 24 Tryz.underlying36 Tryz.infoRow13 rfl .i64 .i64 (t + 1) (by omega) (by omega) W
  obtain ⟨f, hf⟩ : ∃ f : List Vl → List (List Vl), f = fun r => List.replicate t [] ++ [r] := ⟨_, rfl⟩
  rw [← hf]
  have HF := Lib.hid hf
  have HX := Lib.hid hx
  obtain ⟨dl, hdl⟩ : ∃ n, n = d.length := ⟨_, rfl⟩
  rw [← hdl] at htl hdc ⊢
  obtain ⟨n, hn⟩ : ∃ n, n = rs.length := ⟨_, rfl⟩
  rw [← hn] at hrs hcell hro
  have HRO := Lib.hid hro
  have HN := Lib.hid hn
  have j1 : ¬ ((t : Int) < 0) := by omega
  have j2 : ¬ ((t : Int) ≥ (dl : Int)) := by omega
  have j3 : (0 : Int) ≤ (t : Int) := by omega
  have j4 : (t : Int) < (dl : Int) := by omega
  have j5 : (t : Int) < ((t + 1 : Nat) : Int) := by omega
  have j6 : (t : Int) + 1 ≤ 9223372036854775807 := by omega
  clear hat hrws hro hdl hn hg he hf hx
  go_enter Tryz.func34, Tryz.ntmps34
  go_wp2_with fail
  clear hcell
  go_loopw [5, 22] (fun s i wr => ∃ (q a : Nat) (us : List Value) (A : Option Addr), q ≤ n ∧ i = .int .i64 q ∧ s = .slice A q a ∧ q ≤ a ∧ Hid (TuRow (fun j => w.heap.size ≤ j) w.heap.size wr (.slice A q a) q us ((rs.take q).map f)) ∧ Below w.heap.size w wr) (fun _ i _ => n - (intOf i).toNat)
  case atStart => exact ⟨0, 0, [], none, Nat.zero_le _, rfl, rfl, Nat.le_refl _, Lib.hid ⟨World.ownsRow_nil _ _ _ _, by simp, fun i t h => by simp at h⟩, Below.refl _ _⟩
  case round =>
    obtain ⟨q, a, us, A, hq, rfl, rfl, hqa, HT, hb⟩ := hrel
    by_cases hlt : q < n
    · obtain ⟨r, gr⟩ : ∃ r, rs[q]? = some r := ⟨rs[q]'(by have := HN.out; omega), List.getElem?_eq_getElem _⟩
      obtain ⟨b1, o1, p1, B1, d1, hB0, hd1, h1⟩ := HRO.out.pick gr
      subst hB0
      have hHR := HX.out r (List.mem_of_getElem? gr)
      have i1 : (0 : Int) ≤ (q : Int) := by omega
      have i2 : (q : Int) < (n : Int) := by omega
      obtain ⟨hcell, hrow⟩ := h1 wr hb
      obtain ⟨W1, hW1⟩ : ∃ W1, W1 = wr.alloc (.cells (Array.replicate (t + 1) (Value.slice none 0 0)) 53) := ⟨_, rfl⟩
      have hl1 : Lies W1 wr.heap.size 53 (List.replicate (t + 1) (Value.slice none 0 0)) := by rw [hW1, ← List.toArray_replicate]; exact Lies.new _ _ _
      have hb1 : Below wr.heap.size wr W1 := by rw [hW1]; exact below_new _ _
      have hs1 : W1.heap.size = wr.heap.size + 1 := by rw [hW1]; simp
      have cc := clone_any (.slice B1 r.length d1) r W1 (hrow.below hb1 (Nat.le_refl _)).at_ (by omega)
      have HMAP := Lib.hid (show (rs.take (q + 1)).map f = (rs.take q).map f ++ [f r] by rw [List.take_add_one, gr]; simp)
      have HW1 := Lib.hid hW1
      have HL1 := Lib.hid hl1
      have HB1 := Lib.hid hb1
      have HS1 := Lib.hid hs1
      obtain ⟨rl, hrl⟩ : ∃ n, n = r.length := ⟨_, rfl⟩
      rw [← hrl] at cc hcell
      have HRL := Lib.hid hrl
      clear h1 gr hrow hW1 hl1 hb1 hs1 hd1 hrl hHR
      go_wp2_with fail
      rw [← HW1.out]
      refine cc.mono ?_
      rintro E w2 ⟨A2, c2, rfl, hR2, hb2⟩
      rw [← HRL.out] at hR2 ⊢
      have hl2 := HL1.out.below hb2 HL1.out.lt
      have k1 := hl2.cell (i := t) (u := .slice none 0 0) (by rw [List.getElem?_replicate, if_pos (by omega)])
      have k2 := hl2.free t
      have HL2 := Lib.hid hl2
      have HR2 := Lib.hid hR2
      have HB2 := Lib.hid hb2
      obtain ⟨W3, hW3⟩ : ∃ W3, W3 = w2.setCell ⟨wr.heap.size, t, none⟩ (.slice A2 rl c2) := ⟨_, rfl⟩
      have hl3 : Lies W3 wr.heap.size 53 (List.replicate t (.slice none 0 0) ++ [.slice A2 rl c2]) := by
        have h5 := hl2.set t (.slice A2 rl c2)
        rw [set_last] at h5
        rw [hW3]
        exact h5
      have hr3 : RowOn (fun k => wr.heap.size ≤ k) W3 (.slice A2 rl c2) r := by
        have h5 := hR2.keep (S := fun k => k ≠ wr.heap.size) (w' := W3) (by rw [hW3]; exact keeps_setCell w2 ⟨wr.heap.size, t, none⟩ _) (fun k _ hk => by have := HS1.out; omega)
        exact h5.mono fun k _ hk => by have := HS1.out; omega
      have hb3 : Below wr.heap.size wr W3 := by rw [hW3]; exact (below_join HB1.out hb2).setCell (Nat.le_refl _) _
      have ht3 := leaf_tuple (T := fun k => wr.heap.size ≤ k) hl3 hr3 (Nat.le_refl _)
      obtain ⟨W4, hW4⟩ : ∃ W4, W4 = W3.alloc (Obj.cells #[.slice (some ⟨wr.heap.size, 0, none⟩) (t + 1) (t + 1)] 36) := ⟨_, rfl⟩
      have hb4' := below_new W3 (Obj.cells #[.slice (some ⟨wr.heap.size, 0, none⟩) (t + 1) (t + 1)] 36)
      rw [← hW4] at hb4'
      have ht4 := ht3.below hb4' (Nat.le_refl _)
      have hb4 := below_join hb3 hb4'
      have hT4 := HT.out.below hb4
      have HCN := Lib.hid (show ∀ (j : Nat) (x : Value), [Value.slice (some ⟨wr.heap.size, 0, none⟩) (t + 1) (t + 1)][j]? = some x → W4.cell? ((⟨w2.heap.size, 0, none⟩ : Addr).add j) = some x by
        have hsz : w2.heap.size = W3.heap.size := by rw [hW3]; simp
        rw [hW4, hsz]
        exact cell_one_new W3 (.slice (some ⟨wr.heap.size, 0, none⟩) (t + 1) (t + 1)) 36)
      have HWW := Lib.hid (And.intro hW3 hW4)
      have HT4 := Lib.hid hT4
      have HBB := Lib.hid (And.intro (below_join hb hb4) hb)
      have HPUSH := Lib.hid (fun v1 w5 (hown : w5.ownsRow w.heap.size 36 1 v1 (q + 1) (us ++ [.slice (some ⟨wr.heap.size, 0, none⟩) (t + 1) (t + 1)])) (hg : W4.grownBy w5 (Value.slice A q a).ownBlock) (hw : v1.ownBlock = (Value.slice A q a).ownBlock ∨ ∃ g, v1.ownBlock = some g ∧ W4.heap.size ≤ g) =>
        hT4.push (ht4.mono fun k _ hk => ⟨fun e => by have := (HT.out.own.lt k e).2; omega, by have := hb.size; omega⟩) hown hg hw)
      clear cc hcell hl2 hR2 hb2 hW3 hl3 hr3 hb3 ht3 hW4 hb4' ht4 hb4 hT4
      go_wp2_with (first
        | (at_builtin; rw [← HWW.out.1, ← HWW.out.2]; refine wpList_append_at _ rfl _ _ 29 rfl w.heap.size 36 i0 (.slice none 0 0) 1 24 Tryz.underlying29 hi hz0 hz1 hz2 rfl (by decide) _ q us rfl HT4.out.own ⟨w2.heap.size, 0, none⟩ 1 1 [.slice (some ⟨wr.heap.size, 0, none⟩) (t + 1) (t + 1)] rfl rfl ?c1 ?c2 ?c3 ?c4 ?c5 ?_))
      case c1 => exact HCN.out
      case c2 => intro u hu; simp at hu; subst hu; rfl
      case c3 => unfold maxLen; omega
      case c4 => omega
      case c5 => exact HBB.out.1.size
      intro v1 w5 hown3 hgrow hwhere
      have hT5 := HPUSH.out v1 w5 hown3 hgrow hwhere
      have hb5 : Below w.heap.size w w5 := HBB.out.1.grown hgrow HBB.out.1.size (fun k hk => (HT4.out.own.lt k hk).1)
      obtain ⟨A5, a5, rfl, ha5⟩ : ∃ A5 a5, v1 = .slice A5 (q + 1) a5 ∧ q + 1 ≤ a5 := by
        rcases hown3.2 with ⟨rfl, h0⟩ | ⟨g, cap, cur, rfl, _, _, hnc, _⟩
        · omega
        · exact ⟨_, cap, rfl, hnc⟩
      have hfr : f r = List.replicate t [] ++ [r] := by rw [HF.out]
      rw [← hfr, ← HMAP.out] at hT5
      have HT5 := Lib.hid hT5
      clear hT5 hown3 hgrow hwhere hfr hb k1 k2
      go_wp2_with fail
      go_roundw
      case rel => exact ⟨q + 1, a5, _, A5, by omega, by go_num, rfl, ha5, HT5, hb5⟩
      case measure => simp [intOf]; omega
    · have hres := Lib.hid (show OwnTus w (rs.map f) (.returned (.slice A q a)) wr from by
        have h1 := HT.out
        rw [List.take_of_length_le (by have := HN.out; omega)] at h1
        have h2 := h1.len
        exact ⟨A, a, us, by rw [h2], by rw [h2]; exact h1, by rw [h2]; exact hqa, hb⟩)
      have i2 : ¬ ((q : Int) < (n : Int)) := by omega
      clear hb hlt HT
      go_wp2_with fail
      go_ret
      exact hres.out
end Go.Proofs.YtpaaibghfhnicaaGreatDoor
