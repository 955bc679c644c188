/-
  PACKAGE bag: Sorted.
-/
import Derived.Test.YtaodobjekpacoaaBgyM
namespace Go.Proofs.Ytaodobjekpacoaa
open Go.RowKit Go.Sort
set_option maxHeartbeats 1600000

theorem Try.infoRowA : (Try.prog.info? 24).map (fun i => (i.zero, i.size, i.bytes)) = some (some (.slice none 0 0), 1, 24) := by kernel_rfl
/-- rows put in order: what is told -/
def SortedR (w : World) (rs : List (List Vl)) (E : Ending) (w' : World) : Prop :=
  ∃ (v : Value) (us : List Value) (S : List (List Vl)), E = .returned v ∧ S.Perm rs ∧ So.Ord Bg.cr S ∧ RwsOf w' v us S ∧ Below w.heap.size w w'
/-- the rows so far -/
structure Ups (w : World) (G n : Nat) (rs : List (List Vl)) (wr : World) (k : Nat) (us : List Value) : Prop where
  own : wr.ownsRow w.heap.size 24 1 (.slice (some ⟨G, 0, none⟩) k n) k us
  up : ∀ (j : Nat) (u : Value) (r : List Vl), us[j]? = some u → rs[j]? = some r → RowUp (G + 1) wr u r
set_option maxRecDepth 100000 in
theorem bsorted_any (v : Value) (vs : List Value) (rs : List (List Vl)) (w : World) (hl : RwsOf w v vs rs) (hn6 : rs.length ≤ 1000000) (hr6 : ∀ r ∈ rs, r.length ≤ 1000000) :
    Calls Try.prog 13 #[v] w (SortedR w rs) := by
  obtain ⟨A, c, rfl, _, _⟩ := Rws.at_ ⟨vs, hl⟩
  have HL := Lib.hid hl
  have HR6 := Lib.hid hr6
  obtain ⟨n, hn⟩ : ∃ n, n = rs.length := ⟨_, rfl⟩
  have ci := fun (W : World) (h : Below w.heap.size w W) => inord_any _ vs rs W (hl.below h (Nat.le_refl _)) hn6 hr6
  simp only [← hn] at ci
  rw [← hn] at hn6 ⊢
  have HN := Lib.hid hn
  clear hl hn hr6
  obtain ⟨i0, hi, hz0, hz1, hz2⟩ := info_parts Try.infoRowA
  have hS := Below.refl w.heap.size w
  go_enter Try.func13, Try.ntmps13
  go_wp2_with (first
    | (at_make; refine wpList_make_own _ rfl _ _ 22 rfl w.heap.size 24 i0 (.slice none 0 0) 1 Try.underlying22 hi hz0 hz1 .i64 .i64 (n : Int) n rfl rfl rfl (by rw [hz2]; omega) (by unfold maxLen; omega) hS.size ?_))
  intro w1 hown0 hgrow0
  have hb1 : Below w.heap.size w w1 := hS.grown hgrow0 hS.size (fun k hk => by cases hk)
  obtain ⟨G, hG⟩ : ∃ G, G = w.heap.size := ⟨_, rfl⟩
  rw [← hG] at hown0 ⊢
  have H0 : Hid (w1.ownsRow w.heap.size 24 1 (.slice (some ⟨G, 0, none⟩) 0 n) 0 []) := Lib.hid (by rw [hG]; simpa [hG] using hown0)
  have HG := Lib.hid hG
  have c1 := ci w1 hb1
  clear hown0 hgrow0 hG ci
  go_wp2_with (fail)
  refine c1.mono ?_
  rintro E w2 ⟨G1, D, rfl, pD, oD, sD⟩
  have hb2 := below_join hb1 sD.base
  have hDl : D.length = n := by rw [pD.length_eq, List.length_zip, HL.out.len, ← HN.out]; omega
  have hGlt : G < w1.heap.size := (H0.out.lt G rfl).2
  have H1 : Hid (w2.ownsRow w.heap.size 24 1 (.slice (some ⟨G, 0, none⟩) 0 n) 0 []) := Lib.hid (by
    obtain ⟨h1, h2⟩ := H0.out
    refine ⟨h1, ?_⟩
    rcases h2 with h2 | ⟨g', cap, cur, hv, hb, hg, rest⟩
    · exact .inl h2
    · cases hv
      exact .inr ⟨_, _, cur, rfl, hb, (sD.base.block _ hGlt).trans hg, rest⟩)
  have hrd : ∀ x ∈ D, RowAt w x.1 x.2 ∧ x.2.length ≤ 1000000 := fun x hx => by
    have hz := pD.mem_iff.1 hx
    obtain ⟨j, hj, rfl⟩ := List.mem_iff_getElem.1 hz
    rw [List.length_zip] at hj
    have hjr : j < rs.length := by omega
    obtain ⟨u, hu, hr⟩ := HL.out.row j rs[j] (List.getElem?_eq_getElem hjr)
    have hju : vs[j]'(by omega) = u := by rw [List.getElem?_eq_getElem (by omega)] at hu; exact Option.some.inj hu
    rw [List.getElem_zip]
    exact ⟨by rw [hju]; exact hr, HR6.out _ (List.getElem_mem hjr)⟩
  have HD := Lib.hid (And.intro pD (And.intro oD hrd))
  have HLI := Lib.hid (And.intro sD.lies (And.intro hGlt sD.at_))
  clear c1 pD oD sD hrd hGlt
  rw [hDl]
  have HDL := Lib.hid hDl
  have HU0 : Hid (Ups w G n (D.map Prod.snd) w2 0 []) := Lib.hid ⟨H1.out, fun j u r hu => by simp at hu⟩
  clear hDl
  go_wp2_with (fail)
  go_loopw [3, 12] (fun s i wr => ∃ (k : Nat), k ≤ n ∧ i = .int .i64 k ∧ s = .slice (some ⟨G, 0, none⟩) k n ∧ Hid (∃ us, Ups w G n (D.map Prod.snd) wr k us) ∧ Hid (Lies wr G1 34 (vals D)) ∧ Below w.heap.size w wr) (fun _ i _ => n - (intOf i).toNat)
  case atStart => exact ⟨0, Nat.zero_le _, rfl, rfl, Lib.hid ⟨[], HU0.out⟩, Lib.hid HLI.out.1, hb2⟩
  case round =>
    obtain ⟨k, hk, rfl, rfl, hups, hli, hb⟩ := hrel
    by_cases hlt : k < n
    · obtain ⟨x, gx⟩ : ∃ x, D[k]? = some x := ⟨D[k]'(by have := HDL.out; omega), List.getElem?_eq_getElem _⟩
      obtain ⟨us, ⟨hown, hup⟩⟩ := hups.out
      have hc : wr.cell? ⟨G1, k, none⟩ = some x.1 := hli.out.cell (by unfold vals; rw [List.getElem?_map, gx]; rfl)
      have i1 : (0 : Int) ≤ (k : Int) := by omega
      have i2 : (k : Int) < (n : Int) := by omega
      obtain ⟨hr1, hr2⟩ := HD.out.2.2 x (List.mem_of_getElem? gx)
      have cc := clone_any x.1 x.2 wr (hr1.below hb (Nat.le_refl _)) hr2
      have HOW := Lib.hid (And.intro hown hup)
      have GX := Lib.hid gx
      clear hown hup hr1 hr2 gx
      go_wp2_with (fail)
      refine cc.mono ?_
      rintro E w5 ⟨B, d, rfl, hrow, hb5⟩
      have hGw : G < wr.heap.size := by have := (HOW.out.1.lt G rfl).2; exact this
      have hown5 : w5.ownsRow w.heap.size 24 1 (.slice (some ⟨G, 0, none⟩) k n) k us := by
        obtain ⟨h1, h2⟩ := HOW.out.1
        refine ⟨h1, ?_⟩
        rcases h2 with h2 | ⟨g', cap, cur, hv, hb', hg, rest⟩
        · exact .inl h2
        · cases hv
          exact .inr ⟨_, _, cur, rfl, hb', (hb5.block _ hGw).trans hg, rest⟩
      have hoa := Lib.hid (hown5.alloc (Obj.cells #[.slice B x.2.length d] 24))
      have hb6 := below_join hb hb5
      have HR5 := Lib.hid (And.intro hrow (And.intro hb5 hGw))
      have hbs : w.heap.size ≤ (w5.alloc (Obj.cells #[.slice B x.2.length d] 24)).heap.size := by have := hb6.size; rw [World.size_alloc]; omega
      clear cc hrow hown5 hc hb5 hGw
      go_wp2_with (first
        | (at_builtin; refine wpList_append_fits _ rfl _ _ 22 rfl w.heap.size 24 i0 1 Try.underlying22 hi hz1 G k n us rfl hoa.out ⟨w5.heap.size, 0, none⟩ 1 1 [.slice B x.2.length d] rfl rfl (cell_one_new _ _ _) (by simp [Value.oneCell']) (by omega) ?_))
      intro w9 hown' hgrow
      have hb9 : Below w.heap.size w w9 := (hb6.alloc hb6.size _).grown hgrow hbs (fun q hq => by cases hq; rw [HG.out]; exact Nat.le_refl _)
      have hblk : ∀ q, q ≠ G → q < w5.heap.size → w9.heap[q]? = w5.heap[q]? := fun q hq hlt => (hgrow.block q (by rw [World.size_alloc]; omega) (fun e => hq (Option.some.inj e))).trans (Below.heap_alloc _ _ _ hlt)
      have hsz : w5.heap.size ≤ w9.heap.size := by have := hgrow.size; rw [World.size_alloc] at this; omega
      have hups2 : Hid (∃ us, Ups w G n (D.map Prod.snd) w9 (k + 1) us) := Lib.hid (by
        obtain ⟨hrow, hb5, hGw⟩ := HR5.out
        obtain ⟨hown, hup⟩ := HOW.out
        refine ⟨us ++ [.slice B x.2.length d], hown', fun j u r hu hr => ?_⟩
        have hul : us.length = k := by have := hown.1; omega
        rcases Nat.lt_or_ge j k with hj | hj
        · rw [List.getElem?_append_left (by omega)] at hu
          have h1 := hup j u r hu hr
          have h2 := h1.keep hb5.size (fun q h1 h2 => hb5.block q h2)
          exact h2.keep hsz (fun q h1 h2 => hblk q (by omega) h2)
        · rw [List.getElem?_append_right (by omega)] at hu
          have hjk : j = k := by
            have := (List.getElem?_eq_some_iff.1 hu).1
            simp at this
            omega
          subst hjk
          rw [hul, Nat.sub_self] at hu
          cases hu
          rw [List.getElem?_map, GX.out] at hr
          cases hr
          exact (hrow.low (by omega)).keep hsz (fun q h1 h2 => hblk q (by omega) h2))
      have hli2 : Hid (Lies w9 G1 34 (vals D)) := Lib.hid (by
        obtain ⟨hrow, hb5, hGw⟩ := HR5.out
        obtain ⟨_, h1, h2⟩ := HLI.out
        have hl := hli.out
        have h3 : w5.heap[G1]? = wr.heap[G1]? := hb5.block _ hl.lt
        have h4 : w9.heap[G1]? = w5.heap[G1]? := hblk G1 (by omega) (Nat.lt_of_lt_of_le hl.lt hb5.size)
        unfold Lies at hl ⊢
        rw [h4, h3]; exact hl)
      clear hown' hgrow hblk hsz hoa hups hli
      go_wp2_with (fail)
      go_roundw
      case rel => exact ⟨k + 1, by omega, by go_num, by go_num, hups2, hli2, hb9⟩
      case measure => simp [intOf]; omega
    · obtain rfl : k = n := by omega
      have hres := Lib.hid (show SortedR w rs (.returned (.slice (some ⟨G, 0, none⟩) k k)) wr by
        obtain ⟨us, hown, hup⟩ := hups.out
        obtain ⟨pD, oD, _⟩ := HD.out
        have hul : us.length = k := by have := hown.1; omega
        have hml : (D.map Prod.snd).length = k := by rw [List.length_map]; exact HDL.out
        refine ⟨_, us, D.map Prod.snd, rfl, zip_snd pD HL.out.len, ord_snd oD, ⟨Sl.own hown, by omega, fun i r hr => ?_⟩, hb⟩
        have hi := (List.getElem?_eq_some_iff.1 hr).1
        exact ⟨_, List.getElem?_eq_getElem (by omega), (hup i _ r (List.getElem?_eq_getElem (by omega)) hr).at_⟩)
      clear hups hli
      go_wp2_with (fail)
      go_ret
      exact hres.out
end Go.Proofs.Ytaodobjekpacoaa
