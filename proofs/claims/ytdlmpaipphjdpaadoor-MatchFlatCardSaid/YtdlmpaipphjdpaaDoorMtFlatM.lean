/-
  THE STATEMENT MatchFlat.
-/
import Derived.Test.YtdlmpaipphjdpaaDoorMtiM
import Derived.Test.YtdlmpaipphjdpaaDoorMtjM
import Derived.Test.YtdlmpaipphjdpaaDoorMtkM
namespace Go.Proofs.YtdlmpaipphjdpaaDoor
open Go.RowKit Go.Sort
set_option maxHeartbeats 3200000

def flatLen (s : Nat) (cols : List Int) (k : Nat) : Nat := ((List.range k).map fun i => if s.testBit i then Mt.num cols i else 0).sum
theorem flatLen_succ (s : Nat) (cols : List Int) (k : Nat) : flatLen s cols (k + 1) = flatLen s cols k + if s.testBit k then Mt.num cols k else 0 := by
  unfold flatLen
  rw [List.range_succ, List.map_append, List.sum_append]
  simp
theorem flatTo_length (t : List (List Vl)) (s : Nat) (cols : List Int) : ∀ k, (Mt.flatTo t s cols k).length = flatLen s cols k
  | 0 => rfl
  | k + 1 => by
    rw [Mt.flatTo_succ, List.length_append, flatTo_length t s cols k, flatLen_succ]
    split
    · rw [Mt.cut_length]
    · rfl
theorem flat_length (t : List (List Vl)) (s : Nat) (cols : List Int) : (Mt.flat t s cols).length = flatLen s cols cols.length := flatTo_length t s cols cols.length
theorem Bg.cr_refl (r : List Vl) : decide (Bg.cr r r = 0) = true := by
  refine decide_eq_true ?_
  refine Bg.lex_zero.2 ⟨rfl, fun j x y hx hy => ?_⟩
  rw [hx] at hy
  cases hy
  have := Bg.cv_zero x x
  have h2 : Va.same x.1 x.2 x.1 x.2 = true := by unfold Va.same; cases x.1 <;> simp
  rw [h2] at this
  exact of_decide_eq_true this
set_option maxRecDepth 100000 in
theorem matchflat_any (tv cv : Value) (t : List (List Vl)) (s : Nat) (cols : List Int) (w : World) (ht : RwsOn Al w tv t) (hs : s < 18446744073709551616) (hc : Sl w cv (cols.map (Value.int .i64))) (hW : Want w) (hT : Tab w) :
    Calls Tryd.prog 5 #[tv, .int .u64 (s : Int), cv] w fun E w' => E = .returned (.bool true) ∧ Below w.heap.size w w' := by
  have cl := light_any 0 (.slice none 0 0) tv (.slice none 0 0) [] t [] w ⟨rfl, none, 0, rfl⟩ ht (TusOn.nil _ _) (.inl rfl)
  have CA := Lib.hid (show ∀ W, Below w.heap.size w W → _ from fun W (h : Below w.heap.size w W) => awake13_any W (hW.below h (Nat.le_refl _)) (hT.below h))
  obtain ⟨T0, t0, rfl, _⟩ := ht.form
  obtain ⟨B, d, hcv, _⟩ := id hc
  subst hcv
  rw [List.length_map] at hc ⊢
  obtain ⟨m, hm⟩ : ∃ m, m = cols.length := ⟨_, rfl⟩
  rw [← hm] at hc ⊢
  have HC := Lib.hid (And.intro hc (And.intro hm (And.intro hs hT)))
  have HT := Lib.hid ht
  obtain ⟨tl, htl'⟩ : ∃ n, n = t.length := ⟨_, rfl⟩
  rw [← htl'] at HT cl ⊢
  clear hc hm hs hT hW ht htl'
  go_enter Tryd.func5, Tryd.ntmps5
  go_wp2_with fail
  refine cl.mono ?_
  rintro E w1 ⟨b, rfl, hlight, hb1⟩
  have HL := Lib.hid hlight
  have HB1 := Lib.hid hb1
  have ca := CA.out w1 hb1
  clear cl hlight hb1
  cases b with
  | false =>
    go_wp2_with fail
    refine ca.mono ?_
    rintro E w2 ⟨rfl, hb2⟩
    have hb12 := below_join HB1.out hb2
    clear ca hb2
    go_wp2_with fail
    go_ret
    exact ⟨rfl, hb12⟩
  | true =>
    have HLI := Lib.hid (HL.out rfl)
    by_cases h64 : 64 < m
    · have i1 : (64 : Int) < (m : Int) := by omega
      clear h64
      go_wp2_with fail
      refine ca.mono ?_
      rintro E w2 ⟨rfl, hb2⟩
      have hb12 := below_join HB1.out hb2
      clear ca hb2
      go_wp2_with fail
      go_ret
      exact ⟨rfl, hb12⟩
    · have i1 : ¬ ((64 : Int) < (m : Int)) := by omega
      have hm64 : m ≤ 64 := by omega
      clear h64 ca
      go_wp2_with fail
      go_loopw [7, 8] (fun s' i wr => ∃ (q N : Nat), q ≤ m ∧ i = .int .i64 q ∧ s' = .int .i64 N ∧ N ≤ 100 * q ∧ Hid (N = flatLen s cols q ∧ ∀ (j : Nat) (x : Int), j < q → cols[j]? = some x → x ≤ 100) ∧ w1 = wr) (fun _ i _ => m - (intOf i).toNat)
      case atStart => exact ⟨0, 0, by omega, rfl, rfl, by omega, Lib.hid ⟨rfl, fun j x h => by omega⟩, rfl⟩
      case round =>
        obtain ⟨q, N, hq, rfl, rfl, hN, HZ, rfl⟩ := hrel
        by_cases hlt : q < m
        · obtain ⟨x, gx⟩ : ∃ x, cols[q]? = some x := ⟨cols[q]'(by have := HC.out.2.1; omega), List.getElem?_eq_getElem _⟩
          obtain ⟨b1, o1, p1, rfl, _, y0⟩ := ints_cell (HC.out.1.below HB1.out (Nat.le_refl _)) gx
          have i2 : (0 : Int) ≤ (q : Int) := by omega
          have i3 : (q : Int) < (m : Int) := by omega
          by_cases h100 : 100 < x
          · have ca := CA.out w1 HB1.out
            clear hlt gx
            go_wp2_with fail
            refine ca.mono ?_
            rintro E w2 ⟨rfl, hb2⟩
            have hb12 := below_join HB1.out hb2
            clear ca hb2
            go_wp2_with fail
            go_ret
            exact ⟨rfl, hb12⟩
          · have hnum := Mt.num_at gx
            obtain ⟨bt, hbt⟩ : ∃ b, b = s.testBit q := ⟨_, rfl⟩
            have ch := fun W => rhas_nat s q bt W HC.out.2.2.1 (by omega) hbt.symm
            have hsu := flatLen_succ s cols q
            rw [← hbt, hnum, ← HZ.out.1] at hsu
            have HSU := Lib.hid hsu
            have HX := Lib.hid (show ∀ (j : Nat) (z : Int), j < q + 1 → cols[j]? = some z → z ≤ 100 from fun j z hj hz => by
              rcases Nat.lt_or_eq_of_le (Nat.le_of_lt_succ hj) with g | g
              · exact HZ.out.2 j z g hz
              · subst g
                rw [gx] at hz
                cases hz
                omega)
            clear gx hnum hbt hsu
            rcases (show (x > 0 ∧ x = (x.toNat : Int)) ∨ (¬ x > 0 ∧ x.toNat = 0) by omega) with ⟨hx0, hxe⟩ | ⟨hx0, hxe⟩
            · obtain ⟨y, hy⟩ : ∃ y, y = x.toNat := ⟨_, rfl⟩
              rw [← hy] at hxe HSU
              clear hy
              subst hxe
              have hy100 : y ≤ 100 := by omega
              have hx0' : (0 : Int) < (y : Int) := hx0
              have hx0'' : 0 < y := by omega
              cases bt with
              | true =>
                go_wp2_with (first | (go_at_call 16; refine (ch _).mono ?_; rintro e w' ⟨rfl, rfl⟩))
                go_roundw
                case rel => exact ⟨q + 1, N + y, by omega, by go_num, by go_num, by omega, Lib.hid ⟨HSU.out.symm, HX.out⟩, by first | rfl | trivial⟩
                case measure => simp [intOf]; omega
              | false =>
                go_wp2_with (first | (go_at_call 16; refine (ch _).mono ?_; rintro e w' ⟨rfl, rfl⟩))
                go_roundw
                case rel => exact ⟨q + 1, N, by omega, by go_num, by go_num, by omega, Lib.hid ⟨HSU.out.symm, HX.out⟩, by first | rfl | trivial⟩
                case measure => simp [intOf]; omega
            · have hx0' : ¬ ((0 : Int) < x) := hx0
              have HZ2 := Lib.hid (show N = flatLen s cols (q + 1) by rw [HSU.out, hxe]; split <;> rfl)
              clear hxe
              cases bt with
              | true =>
                go_wp2_with (first | (go_at_call 16; refine (ch _).mono ?_; rintro e w' ⟨rfl, rfl⟩))
                go_roundw
                case rel => exact ⟨q + 1, N, by omega, by go_num, by go_num, by omega, Lib.hid ⟨HZ2.out, HX.out⟩, by first | rfl | trivial⟩
                case measure => simp [intOf]; omega
              | false =>
                go_wp2_with (first | (go_at_call 16; refine (ch _).mono ?_; rintro e w' ⟨rfl, rfl⟩))
                go_roundw
                case rel => exact ⟨q + 1, N, by omega, by go_num, by go_num, by omega, Lib.hid ⟨HZ2.out, HX.out⟩, by first | rfl | trivial⟩
                case measure => simp [intOf]; omega
        · have hqm : q = m := by omega
          have i3 : ¬ ((q : Int) < (m : Int)) := by omega
          have hcb : ∀ x ∈ cols, x ≤ 100 := fun x hx => by
            obtain ⟨j, hj, rfl⟩ := List.mem_iff_getElem.1 hx
            exact HZ.out.2 j _ (by have := HC.out.2.1; omega) (List.getElem?_eq_getElem hj)
          have hlt1 := HLI.out.2.2 t (by simp)
          have hc1 := HC.out.1.below HB1.out (Nat.le_refl _)
          have hlen : (Mt.flat t s cols).length = N := by rw [flat_length, ← HC.out.2.1, ← hqm, HZ.out.1]
          have cf := flat_any _ _ t s cols w1 (HT.out.below HB1.out (Nat.le_refl _)) HC.out.2.2.1 hc1 (by omega) (fun r hr => Nat.le_trans (hlt1.2 r hr) (by decide)) (by have := HC.out.2.1; omega) hcb (HC.out.2.2.2.below HB1.out)
          have cg := fun W (h : Below w.heap.size w W) => r13flat_any _ _ t s cols W (HT.out.below h (Nat.le_refl _)) HC.out.2.2.1 (HC.out.1.below h (Nat.le_refl _)) (by omega) (fun r hr => Nat.le_trans (hlt1.2 r hr) (by decide)) (by have := HC.out.2.1; omega) hcb
          have CG := Lib.hid cg
          obtain ⟨F, hF⟩ : ∃ F, F = Mt.flat t s cols := ⟨_, rfl⟩
          rw [← hF] at cf CG hlen
          have HLEN := Lib.hid hlen
          have hN64 : N ≤ 6400 := by omega
          clear hcb hlt1 hc1 hF cg hqm hlt hlen
          go_wp2_with fail
          refine cf.mono ?_
          rintro E w2 ⟨FA, fc, rfl, hf, hb2⟩
          rw [HLEN.out] at hf ⊢
          have hb12 := below_join HB1.out hb2
          have cg := CG.out w2 hb12
          have HF := Lib.hid hf
          have HB2 := Lib.hid hb12
          clear cf hf hb2 hb12
          go_wp2_with fail
          refine cg.mono ?_
          rintro E w3 ⟨GA, gc, rfl, hg, hb3⟩
          have cs := r9same_any _ _ F F w3 (show RowAt w3 (.slice FA N fc) F from HF.out.below hb3 (Nat.le_refl _)) hg (by rw [HLEN.out]; omega) (by rw [HLEN.out]; omega)
          rw [Bg.cr_refl] at cs
          have HB3 := Lib.hid (below_join HB2.out hb3)
          clear cg hg hb3
          go_wp2_with fail
          refine cs.mono ?_
          rintro E w4 ⟨rfl, hb4⟩
          have hb14 := below_join HB3.out hb4
          have ca := CA.out w4 hb14
          have HB4 := Lib.hid hb14
          clear cs hb4 hb14
          go_wp2_with fail
          refine ca.mono ?_
          rintro E w5 ⟨rfl, hb5⟩
          have HB5 := Lib.hid (below_join HB4.out hb5)
          clear ca hb5
          go_wp2_with fail
          go_ret
          exact ⟨rfl, HB5.out⟩
end Go.Proofs.YtdlmpaipphjdpaaDoor
