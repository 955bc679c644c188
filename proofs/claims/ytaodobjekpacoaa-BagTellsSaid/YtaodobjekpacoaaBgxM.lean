/-
  PACKAGE bag: rows put in order; the same bag.
-/
import Derived.Test.YtaodobjekpacoaaBgwM
import Derived.Test.YtaodobjekpacoaaGBase
import Derived.OwnWalk
import Derived.Laws.OwnMore
namespace Go.Proofs.Ytaodobjekpacoaa
open Go.RowKit Go.Sort
set_option maxHeartbeats 1600000

theorem add_here9 (g k : Nat) : (⟨g, 0, none⟩ : Addr).add k = ⟨g, k, none⟩ := by
  unfold Addr.add
  split
  · next h => subst h; rfl
  · simp
theorem Srt.rws {w0 w : World} {g c : Nat} {D : List Itm} (h : Srt w0 g w D) (hc : D.length ≤ c) : RwsOf w (.slice (some ⟨g, 0, none⟩) D.length c) (vals D) (D.map Prod.snd) := by
  refine ⟨⟨some ⟨g, 0, none⟩, c, by simp [vals], by simpa [vals] using hc, fun j u hu => ⟨g, 0, none, rfl, h.lies.lt, by rw [add_here9]; exact h.lies.cell hu⟩⟩, by simp [vals], fun i r hr => ?_⟩
  rw [List.getElem?_map] at hr
  cases hx : D[i]? with
  | none => rw [hx] at hr; cases hr
  | some x =>
    rw [hx] at hr
    cases hr
    exact ⟨x.1, by unfold vals; rw [List.getElem?_map, hx]; rfl, (h.rd x (List.mem_of_getElem? hx)).1.below h.base (Nat.le_refl _)⟩
theorem ord_snd {D : List Itm} (h : So.Ord icm D) : So.Ord Bg.cr (D.map Prod.snd) := List.pairwise_map.2 h
theorem Try.infoRow9 : (Try.prog.info? 34).map (fun i => (i.zero, i.size, i.bytes)) = some (some (.slice none 0 0), 1, 24) := by kernel_rfl
/-- what inOrder tells: rows in order, in a list of its own -/
def Inord (w : World) (vs : List Value) (rs : List (List Vl)) (E : Ending) (w' : World) : Prop :=
  ∃ (G : Nat) (D : List Itm), E = .returned (.slice (some ⟨G, 0, none⟩) D.length D.length) ∧ D.Perm (vs.zip rs) ∧ So.Ord icm D ∧ Srt w G w' D
theorem zip_snd {vs : List Value} {rs : List (List Vl)} {D : List Itm} (h : D.Perm (vs.zip rs)) (hl : vs.length = rs.length) : (D.map Prod.snd).Perm rs := by
  have := h.map Prod.snd
  rwa [List.map_snd_zip (by rw [hl]; exact Nat.le_refl _)] at this
set_option maxRecDepth 100000 in
theorem inord_any (v : Value) (vs : List Value) (rs : List (List Vl)) (w : World) (hl : RwsOf w v vs rs) (hn6 : rs.length ≤ 1000000) (hr6 : ∀ r ∈ rs, r.length ≤ 1000000) :
    Calls Try.prog 22 #[v] w (Inord w vs rs) := by
  obtain ⟨A, c, rfl, _, _⟩ := Rws.at_ ⟨vs, hl⟩
  have hpu := fun (j : Nat) (x : List Vl) (hj : rs[j]? = some x) => hl.pick hj
  have HU := Lib.hid hpu
  have HL := Lib.hid hl
  have HR6 := Lib.hid hr6
  obtain ⟨n, hn⟩ : ∃ n, n = rs.length := ⟨_, rfl⟩
  rw [← hn] at hn6 ⊢
  have HN := Lib.hid hn
  clear hpu hl hn hr6
  obtain ⟨i0, hi, hz0, hz1, hz2⟩ := info_parts Try.infoRow9
  have hS := Below.refl w.heap.size w
  go_enter Try.func22, Try.ntmps22
  go_wp2_with (first
    | (at_make; refine wpList_make_own _ rfl _ _ 37 rfl w.heap.size 34 i0 (.slice none 0 0) 1 Try.underlying37 hi hz0 hz1 .i64 .i64 (n : Int) n rfl rfl rfl (by rw [hz2]; omega) (by unfold maxLen; omega) hS.size ?_))
  intro w1 hown0 hgrow0
  have hb1 : Below w.heap.size w w1 := hS.grown hgrow0 hS.size (fun k hk => by cases hk)
  obtain ⟨G, hG⟩ : ∃ G, G = w.heap.size := ⟨_, rfl⟩
  rw [← hG] at hown0 ⊢
  have H0 : w1.ownsRow w.heap.size 34 1 (.slice (some ⟨G, 0, none⟩) 0 n) 0 (vs.take 0) := by rw [hG]; simpa [hG] using hown0
  have HG := Lib.hid hG
  clear hown0 hgrow0 hG
  go_wp2_with (fail)
  go_loopw [3, 11] (fun s i wr => ∃ (k : Nat), k ≤ n ∧ i = .int .i64 k ∧ s = .slice (some ⟨G, 0, none⟩) k n ∧ Hid (wr.ownsRow w.heap.size 34 1 (.slice (some ⟨G, 0, none⟩) k n) k (vs.take k)) ∧ Below w.heap.size w wr) (fun _ i _ => n - (intOf i).toNat)
  case atStart => exact ⟨0, Nat.zero_le _, rfl, rfl, Lib.hid H0, hb1⟩
  case round =>
    obtain ⟨k, hk, rfl, rfl, hown, hb⟩ := hrel
    by_cases hlt : k < n
    · obtain ⟨x, gx⟩ : ∃ x, rs[k]? = some x := ⟨rs[k]'(by have := HN.out; omega), List.getElem?_eq_getElem _⟩
      obtain ⟨b1, o1, p1, e1, rfl, h1⟩ := HU.out k x gx
      obtain ⟨hc, hrow⟩ := h1 wr hb
      have gv : vs[k]? = some e1 := by
        obtain ⟨u, hu, _⟩ := HL.out.row k x gx
        obtain ⟨A', c', hv, _, hx⟩ := HL.out.sl
        injection hv with f1 f2 f3
        obtain ⟨b, o, p, hA, hlt, hcell⟩ := hx k u hu
        rw [← f1] at hA
        cases hA
        have := (h1 w (Below.refl _ _)).1
        rw [hcell] at this
        cases this
        exact hu
      obtain ⟨B, d, rfl, _, _⟩ := id hrow
      have ht : vs.take (k + 1) = vs.take k ++ [.slice B x.length d] := by rw [List.take_add_one, gv]; rfl
      have HT := Lib.hid ht
      have i1 : (0 : Int) ≤ (k : Int) := by omega
      have i2 : (k : Int) < (n : Int) := by omega
      have hoa := Lib.hid (hown.out.alloc (Obj.cells #[.slice B x.length d] 34))
      clear h1 hrow gx gv ht
      go_wp2_with (first
        | (at_builtin; refine wpList_append_fits _ rfl _ _ 37 rfl w.heap.size 34 i0 1 Try.underlying37 hi hz1 G k n _ rfl hoa.out ⟨wr.heap.size, 0, none⟩ 1 1 [.slice B x.length d] rfl rfl (cell_one_new _ _ _) (by simp [Value.oneCell']) (by omega) ?_))
      intro w9 hown' hgrow
      have hb2 : Below w.heap.size w w9 := (hb.alloc hb.size _).grown hgrow (by have := hb.size; simp; omega) (fun q hq => by cases hq; rw [HG.out]; exact Nat.le_refl _)
      have hown2 := Lib.hid (HT.out ▸ hown')
      clear hown' hgrow hoa hc hb
      go_wp2_with (fail)
      go_roundw
      case rel => exact ⟨k + 1, by omega, by go_num, by go_num, hown2, hb2⟩
      case measure => simp [intOf]; omega
    · obtain rfl : k = n := by omega
      have hvl : vs.length = k := by rw [HL.out.len, ← HN.out]
      have hsrt : Srt w G wr (vs.zip rs) := by
        have ho := hown.out
        rw [List.take_of_length_le (by omega)] at ho
        refine ⟨?_, hb, by rw [HG.out]; exact Nat.le_refl _, fun x hx => ?_⟩
        · rcases ho.2 with ⟨hv, _⟩ | ⟨g', cap, cur, hv, _, hheap, _, _, hsz, htk⟩
          · cases hv
          · cases hv
            have e : vals (vs.zip rs) = vs := List.map_fst_zip (by rw [HL.out.len]; exact Nat.le_refl _)
            rw [e]
            unfold Lies
            rw [hheap]
            rw [List.take_of_length_le (by simp; omega)] at htk
            rw [← htk]
        · obtain ⟨j, hj, rfl⟩ := List.mem_iff_getElem.1 hx
          rw [List.length_zip] at hj
          have hjr : j < rs.length := by omega
          obtain ⟨u, hu, hr⟩ := HL.out.row j rs[j] (List.getElem?_eq_getElem hjr)
          have hju : vs[j]'(by omega) = u := by rw [List.getElem?_eq_getElem (by omega)] at hu; exact Option.some.inj hu
          rw [List.getElem_zip]
          exact ⟨by rw [hju]; exact hr, HR6.out _ (List.getElem_mem hjr)⟩
      have hzl : k = (vs.zip rs).length := by rw [List.length_zip, hvl, ← HN.out]; omega
      have cs := sortst_any w G (vs.zip rs) k k wr hzl hn6 hsrt
      have HZ := Lib.hid hzl
      clear hsrt hzl hvl hown hb
      go_wp2_with (fail)
      refine cs.mono ?_
      rintro E w2 ⟨rfl, R, pR, oR, hsr⟩
      have hres := Lib.hid (show Inord w vs rs (.returned (.slice (some ⟨G, 0, none⟩) k k)) w2 from ⟨G, R, by rw [pR.length_eq, ← HZ.out], pR, oR, hsr⟩)
      clear cs pR oR hsr
      go_wp2_with (fail)
      go_ret
      exact hres.out
set_option maxRecDepth 100000 in
theorem bsameb_any (u v : Value) (vs us : List Value) (r s : List (List Vl)) (w : World) (hu : RwsOf w u vs r) (hv : RwsOf w v us s) (hr : r.length ≤ 1000000) (hs : s.length ≤ 1000000) (hr2 : ∀ x ∈ r, x.length ≤ 1000000) (hs2 : ∀ x ∈ s, x.length ≤ 1000000) :
    Calls Try.prog 15 #[u, v] w fun e w' => e = .returned (.bool (Bg.same Bg.cr r s)) ∧ Below w.heap.size w w' := by
  have c1 := inord_any u vs r w hu hr hr2
  have c2 := fun (W : World) (h : Below w.heap.size w W) => inord_any v us s W (hv.below h (Nat.le_refl _)) hs hs2
  have HS := Lib.hid (And.intro hr (And.intro hs (And.intro hr2 hs2)))
  have HLN := Lib.hid (And.intro hu.len hv.len)
  clear hu hv hr hs hr2 hs2
  go_enter Try.func15, Try.ntmps15
  go_wp2_with (fail)
  refine c1.mono ?_
  rintro E w1 ⟨G1, D1, rfl, q1, o1, s1⟩
  have p1 := zip_snd q1 HLN.out.1
  have hb1 := s1.base
  have H1 := Lib.hid (And.intro p1 (And.intro o1 s1))
  have c3 := c2 w1 hb1
  clear c1 c2 p1 o1 s1 q1
  go_wp2_with (fail)
  refine c3.mono ?_
  rintro E w2 ⟨G2, D2, rfl, q2, o2, s2⟩
  have p2 := zip_snd q2 HLN.out.2
  obtain ⟨p1, o1, s1⟩ := H1.out
  have hb2 := below_join hb1 s2.base
  have sm : ∀ {D : List Itm} {rs : List (List Vl)}, (D.map Prod.snd).Perm rs → (∀ x ∈ rs, x.length ≤ 1000000) → ∀ x ∈ D.map Prod.snd, x.length ≤ 4611686018427387904 := fun p h x hx => by have := h x (p.mem_iff.1 hx); omega
  have l1 := p1.length_eq
  have l2 := p2.length_eq
  have cc := crows_any _ _ _ _ _ _ w2 ((s1.below s2.base).rws (Nat.le_refl _)) (s2.rws (Nat.le_refl _)) (by rw [l1]; have := HS.out.1; omega) (by rw [l2]; have := HS.out.2.1; omega) (sm p1 HS.out.2.2.1) (sm p2 HS.out.2.2.2)
  have he := Bg.same_ord Bg.cr_cmp p1 p2 (ord_snd o1) (ord_snd o2)
  generalize Bg.lex Bg.cr (D1.map Prod.snd) (D2.map Prod.snd) = d at cc he
  have HE := Lib.hid he
  clear c3 p1 o1 s1 p2 o2 s2 q2 H1 he l1 l2 sm hb1
  go_wp2_with (fail)
  refine cc.mono ?_
  rintro E w3 ⟨rfl, hb3⟩
  clear cc
  go_wp2_with (fail)
  go_ret
  refine ⟨?_, below_join hb2 hb3⟩
  rw [← HE.out]
  exact ret_bool (by by_cases h : d = 0 <;> simp [h])
end Go.Proofs.Ytaodobjekpacoaa
