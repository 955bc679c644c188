/-
  THE DOCUMENT's ANSWER OF LAYER 13: Flat.
-/
import Derived.Test.YtdlmpaipphjdpaaDoorMthM
import Derived.Test.YtdlmpaipphjdpaaDoorGBase
namespace Go.Proofs.YtdlmpaipphjdpaaDoor
open Go.RowKit Go.Sort
set_option maxHeartbeats 3200000

theorem Mt.flat_to (t : List (List Vl)) (s : Nat) (cols : List Int) : Mt.flatTo t s cols cols.length = Mt.flat t s cols := rfl
/-- the document's row so far -/
def Far13 (w wr : World) (v : Value) (N : Nat) (L : List Vl) : Prop := N = L.length ∧ wr.ownsRow w.heap.size 42 2 v N (rowCells L) ∧ Below w.heap.size w wr
theorem far_push {w wr w3 : World} {v v1 : Value} {N : Nat} {L : List Vl} {x : Vl} (h : Far13 w wr v N L) (hown : w3.ownsRow w.heap.size 42 2 v1 (N + 1) (rowCells L ++ [.bool x.1, .int .i64 x.2])) (hg : (wr.alloc (Obj.cells #[.bool x.1, .int .i64 x.2] 42)).grownBy w3 v.ownBlock) :
    Far13 w w3 v1 (N + 1) (L ++ [x]) := by
  obtain ⟨h1, h2, h3⟩ := h
  refine ⟨by rw [h1]; simp, ?_, (h3.alloc h3.size _).grown hg (by have := h3.size; simp; omega) fun k hk => (h2.lt k hk).1⟩
  rw [rowCells_append]
  exact hown
set_option maxRecDepth 100000 in
theorem r13flat_any (tv cv : Value) (t : List (List Vl)) (s : Nat) (cols : List Int) (w : World) (ht : RwsOn Al w tv t) (hs : s < 18446744073709551616) (hc : Sl w cv (cols.map (Value.int .i64))) (htl : t.length ≤ 1000) (ht2 : ∀ r ∈ t, r.length ≤ 1000) (hcl : cols.length ≤ 64) (hb : ∀ x ∈ cols, x ≤ 100) :
    Calls Tryd.prog 19 #[tv, .int .u64 (s : Int), cv] w (Flat13 w (Mt.flat t s cols)) := by
  obtain ⟨i0, hi, hz0, hz1, hz2⟩ := info_parts Tryd.infoVal13
  obtain ⟨T0, t0, rfl, _⟩ := ht.form
  obtain ⟨B, d, hcv, _⟩ := id hc
  subst hcv
  rw [List.length_map] at hc ⊢
  rw [← Mt.flat_to]
  have cu := fun (k : Nat) (wr : World) (h : Below w.heap.size w wr) (hk : k ≤ 1000) => r13row_any Al _ t k wr (ht.below h (Nat.le_refl _)) hk
  obtain ⟨m, hm⟩ : ∃ m, m = cols.length := ⟨_, rfl⟩
  rw [← hm] at hc hcl ⊢
  obtain ⟨tl, htl'⟩ : ∃ n, n = t.length := ⟨_, rfl⟩
  rw [← htl'] at cu ht htl ⊢
  have CU := Lib.hid cu
  have HC := Lib.hid (And.intro hc (And.intro hm (And.intro hb hs)))
  have HT := Lib.hid (And.intro ht (And.intro htl ht2))
  have HTL := Lib.hid htl'
  have HOW := Lib.hid (own_empty w 42 2 w.heap.size (Nat.le_refl _) w.heap.size rfl)
  have hb1 := (Below.refl w.heap.size w).alloc (Nat.le_refl _) (Obj.cells #[] 42)
  clear hc hm hb ht htl ht2 htl' cu hs
  go_enter Tryd.func19, Tryd.ntmps19
  go_wp2_with fail
  go_loopw [7, 8] (fun s' i wr => ∃ (q N : Nat) (v : Value), q ≤ m ∧ i = .int .i64 q ∧ v = s' ∧ N ≤ 100 * q ∧ Hid (Far13 w wr v N (Mt.flatTo t s cols q))) (fun _ i _ => m - (intOf i).toNat)
  case atStart => exact ⟨0, 0, _, by omega, rfl, rfl, by omega, Lib.hid ⟨rfl, HOW.out, hb1⟩⟩
  case round =>
    obtain ⟨q, N, v, hq, rfl, rfl, hN, HF⟩ := hrel
    by_cases hlt : q < m
    · obtain ⟨x, gx⟩ : ∃ x, cols[q]? = some x := ⟨cols[q]'(by have := HC.out.2.1; omega), List.getElem?_eq_getElem _⟩
      have hx := HC.out.2.2.1 x (List.mem_of_getElem? gx)
      have hnum := Mt.num_at gx
      have i1 : (0 : Int) ≤ (q : Int) := by omega
      have i2 : (q : Int) < (m : Int) := by omega
      have GX := Lib.hid gx
      obtain ⟨bt, hbt⟩ : ∃ b, b = s.testBit q := ⟨_, rfl⟩
      have ch := fun W => rhas_nat s q bt W HC.out.2.2.2 (by omega) hbt.symm
      have hsucc := Mt.flatTo_succ t s cols q
      rw [← hbt, hnum] at hsucc
      have HSU := Lib.hid hsucc
      obtain ⟨y, hy⟩ : ∃ y, y = x.toNat := ⟨_, rfl⟩
      rw [← hy] at HSU
      have hy100 : y ≤ 100 := by omega
      clear gx hnum hsucc hbt hlt
      go_wp2_with fail
      go_loopw [7, 9] (fun s' i wr => ∃ (k N : Nat) (v : Value), (k = 0 ∨ (k ≤ y ∧ bt = true)) ∧ k ≤ 100 ∧ i = .int .i64 k ∧ v = s' ∧ N ≤ 100 * q + k ∧ Hid (Far13 w wr v N (Mt.flatTo t s cols q ++ Mt.cut k (Mt.row t q)))) (fun _ i _ => 100 - (intOf i).toNat)
      case atStart => exact ⟨0, N, _, .inl rfl, by omega, rfl, rfl, by omega, by rw [Mt.cut_zero, List.append_nil]; exact HF⟩
      case round =>
        obtain ⟨k, N2, v2, hky, hk1, rfl, rfl, hN2, HF2⟩ := hrel
        obtain ⟨b1, o1, p1, rfl, _, y0⟩ := ints_cell (HC.out.1.below HF2.out.2.2 (Nat.le_refl _)) GX.out
        have out : (k = y ∨ bt = false) → Far13 w wr v2 N2 (Mt.flatTo t s cols (q + 1)) := fun h => by
          have hf := HF2.out
          rw [HSU.out]
          cases bt with
          | true =>
            have e : k = y := h.elim id (fun h => by cases h)
            rw [e] at hf
            exact hf
          | false =>
            have e : k = 0 := hky.elim id (fun h => by cases h.2)
            rw [e, Mt.cut_zero] at hf
            exact hf
        have OUT := Lib.hid out
        clear out
        by_cases hkx : (k : Int) < x
        · cases bt with
          | false =>
            have HO := Lib.hid (OUT.out (.inr rfl))
            have hk0 : k = 0 := hky.elim id (fun h => by cases h.2)
            clear OUT
            go_wp2_with (first | (go_at_call 16; refine (ch _).mono ?_; rintro e w' ⟨rfl, rfl⟩))
            go_roundw
            case rel => exact ⟨q + 1, N2, _, by omega, by go_num, rfl, by omega, HO⟩
            case measure => simp [intOf]; omega
          | true =>
            have c1 := CU.out q wr HF2.out.2.2 (by omega)
            have hrr : RowOn Al w (.slice none 0 0) [] := RowOn.nil _ _
            obtain ⟨r, hr⟩ : ∃ r, r = Mt.row t q := ⟨_, rfl⟩
            have HRJ := Lib.hid hr
            rw [← hr] at c1
            obtain ⟨rl, hrl⟩ : ∃ n, n = r.length := ⟨_, rfl⟩
            rw [← hrl] at c1
            clear OUT hky hrr
            have hky : k < y := by omega
            by_cases hkr : k < rl
            · have hqt : q < t.length := by
                by_cases h : q < t.length
                · exact h
                · rw [Mt.row_out (by omega)] at hr; rw [hr] at hrl; simp at hrl; omega
              obtain ⟨b2, o2, p2, B2, d2, hA2, _, _, y1, _, hrow⟩ := (HT.out.1.below HF2.out.2.2 (Nat.le_refl _)).at_ (Mt.row_mem hqt)
              subst hA2
              rw [← hr] at y1 hrow
              obtain ⟨z, gz⟩ : ∃ z, r[k]? = some z := ⟨r[k]'(by omega), List.getElem?_eq_getElem _⟩
              obtain ⟨b3, o3, p3, hA3, _, hp⟩ := hrow.at_.pair gz
              subst hA3
              rw [← hrl] at y1
              have y2 := (hp wr (Below.refl _ _)).1
              have y3 := (hp wr (Below.refl _ _)).2
              obtain ⟨z1, z2⟩ := z
              have HV := Lib.hid (show (((Mt.row t q)[k]?).getD (true, 0) : Vl) = (z1, z2) by rw [← HRJ.out, gz]; rfl)
              have i3 : (0 : Int) ≤ (k : Int) := by omega
              have i4 : (k : Int) < (rl : Int) := by omega
              have i5 : (q : Int) < (tl : Int) := by have := HTL.out; omega
              clear hr hrl hrow hp gz hqt hkr
              go_wp2_with (first
                | (go_at_call 16; refine (ch _).mono ?_; rintro e w' ⟨rfl, rfl⟩)
                | (go_at_call 22; refine c1.mono ?_))
              rintro E w2 ⟨A5, d5, rfl, _, rfl⟩
              clear c1
              go_wp2_with (first
                | (at_builtin; refine wpList_append_own _ rfl _ _ 36 rfl w.heap.size 42 i0 (.agg #[.bool false, .int .i64 0]) 2 16 Tryd.underlying36 hi hz0 hz1 hz2 rfl (by decide) _ N2 _ rfl (HF2.out.2.1.alloc _) ⟨wr.heap.size, 0, none⟩ 1 1 [.bool z1, .int .i64 z2] rfl rfl ?c1 ?c2 ?c3 ?c4 ?c5 ?_))
              case c1 => exact fun j u hj => ((Lies.new wr 42 [.bool z1, .int .i64 z2]).cell (i := j) hj) |> fun h => by rw [add_here13]; exact h
              case c2 => simp [Value.oneCell']
              case c3 => unfold maxLen; omega
              case c4 => omega
              case c5 => have := HF2.out.2.2.size; simp; omega
              intro v1 w3 hown3 hgrow _
              have HF3 := Lib.hid (show Far13 w w3 v1 (N2 + 1) (Mt.flatTo t s cols q ++ Mt.cut (k + 1) (Mt.row t q)) from by
                have h := far_push (x := (z1, z2)) HF2.out hown3 hgrow
                rw [Mt.cut_succ, ← List.append_assoc, HV.out]
                exact h)
              clear hown3 hgrow
              go_wp2_with fail
              go_roundw
              case rel => exact ⟨k + 1, N2 + 1, _, .inr ⟨by omega, by first | rfl | trivial⟩, by omega, by go_num, rfl, by omega, HF3⟩
              case measure => simp [intOf]; omega
            · have HV := Lib.hid (show (((Mt.row t q)[k]?).getD (true, 0) : Vl) = (true, 0) by rw [← HRJ.out, List.getElem?_eq_none (by omega)]; rfl)
              have i4 : ¬ ((k : Int) < (rl : Int)) := by omega
              clear hr hrl hkr
              go_wp2_with (first
                | (go_at_call 16; refine (ch _).mono ?_; rintro e w' ⟨rfl, rfl⟩)
                | (go_at_call 22; refine c1.mono ?_))
              rintro E w2 ⟨A5, d5, rfl, _, rfl⟩
              clear c1
              go_wp2_with (first
                | (at_builtin; refine wpList_append_own _ rfl _ _ 36 rfl w.heap.size 42 i0 (.agg #[.bool false, .int .i64 0]) 2 16 Tryd.underlying36 hi hz0 hz1 hz2 rfl (by decide) _ N2 _ rfl (HF2.out.2.1.alloc _) ⟨wr.heap.size, 0, none⟩ 1 1 [.bool true, .int .i64 0] rfl rfl ?c1 ?c2 ?c3 ?c4 ?c5 ?_))
              case c1 => exact fun j u hj => ((Lies.new wr 42 [.bool true, .int .i64 0]).cell (i := j) hj) |> fun h => by rw [add_here13]; exact h
              case c2 => simp [Value.oneCell']
              case c3 => unfold maxLen; omega
              case c4 => omega
              case c5 => have := HF2.out.2.2.size; simp; omega
              intro v1 w3 hown3 hgrow _
              have HF3 := Lib.hid (show Far13 w w3 v1 (N2 + 1) (Mt.flatTo t s cols q ++ Mt.cut (k + 1) (Mt.row t q)) from by
                have h := far_push (x := (true, 0)) HF2.out hown3 hgrow
                rw [Mt.cut_succ, ← List.append_assoc, HV.out]
                exact h)
              clear hown3 hgrow
              go_wp2_with fail
              go_roundw
              case rel => exact ⟨k + 1, N2 + 1, _, .inr ⟨by omega, by first | rfl | trivial⟩, by omega, by go_num, rfl, by omega, HF3⟩
              case measure => simp [intOf]; omega
        · have HO := Lib.hid (OUT.out (by
            rcases hky with h | h
            · left; omega
            · left; omega))
          clear OUT
          go_wp2_with fail
          go_roundw
          case rel => exact ⟨q + 1, N2, _, by omega, by go_num, rfl, by omega, HO⟩
          case measure => simp [intOf]; omega
    · have hqm : q = m := by omega
      obtain ⟨A0, a0, rfl⟩ := ownsForm HF.out.2.1
      have i2 : ¬ ((q : Int) < (m : Int)) := by omega
      have hres := Lib.hid (show Flat13 w (Mt.flatTo t s cols m) (.returned (.slice A0 N a0)) wr from by
        obtain ⟨h1, h2, h3⟩ := HF.out
        rw [hqm] at h1 h2
        refine ⟨A0, a0, by rw [← h1], ?_, h3⟩
        have := rowUp_own (r := Mt.flatTo t s cols m) (by rw [← h1]; exact h2)
        rw [← h1]
        exact this.at_)
      clear hqm hlt
      go_wp2_with fail
      go_ret
      exact hres.out
end Go.Proofs.YtdlmpaipphjdpaaDoor
