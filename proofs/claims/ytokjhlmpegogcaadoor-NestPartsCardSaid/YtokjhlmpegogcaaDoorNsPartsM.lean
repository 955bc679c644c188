/-
  THE STATEMENT NestParts.
-/
import Derived.Test.YtokjhlmpegogcaaDoorNskM
import Derived.Test.YtokjhlmpegogcaaDoorNslM
import Derived.Deep.RegionHeld3
import Derived.BigQuiet
namespace Go.Proofs.YtokjhlmpegogcaaDoor
open Go.RowKit Go.Sort
set_option maxHeartbeats 6400000

theorem add_add14 (a : Addr) (m n : Nat) : (a.add m).add n = a.add (m + n) := by
  unfold Addr.add
  by_cases h1 : n = 0 <;> by_cases h2 : m = 0 <;> simp [h1, h2] <;> omega
theorem tus_drop {T : Nat → Prop} {w : World} {a : Addr} {n c : Nat} {ts : List (List (List Vl))} (h : TusOn T w (.slice (some a) n c) ts) (k : Nat) (hk : k ≤ n) : TusOn T w (.slice (some (a.add k)) (n - k) (c - k)) (ts.drop k) := by
  obtain ⟨us, ⟨A', c', hv, hc, hx⟩, hl, ht⟩ := h
  injection hv with e1 e2 e3
  subst e1 e3
  refine ⟨us.drop k, ⟨_, c - k, by rw [List.length_drop]; congr 1; omega, by rw [List.length_drop]; omega, fun j u hj => ?_⟩, by rw [List.length_drop, List.length_drop, hl], fun i t hi => ?_⟩
  · rw [List.getElem?_drop] at hj
    obtain ⟨b, o, p, h1, h2, h3, h4⟩ := hx _ u hj
    cases h1
    refine ⟨_, _, _, rfl, ?_, ?_, ?_⟩
    · show T ((⟨b, o, p⟩ : Addr).add k).block
      rw [add_block]; exact h2
    · show ((⟨b, o, p⟩ : Addr).add k).block < _
      rw [add_block]; exact h3
    · show w.cell? (((⟨b, o, p⟩ : Addr).add k).add j) = _
      rw [add_add14]; exact h4
  · rw [List.getElem?_drop] at hi
    obtain ⟨u, h1, h2⟩ := ht _ t hi
    exact ⟨u, by rw [List.getElem?_drop]; exact h1, h2⟩
theorem TusOn.zero (T : Nat → Prop) (w : World) (A : Option Addr) (c : Nat) : TusOn T w (.slice A 0 c) [] := ⟨[], ⟨A, c, rfl, Nat.zero_le _, fun j u h => by simp at h⟩, rfl, fun i t h => by simp at h⟩
/-- two calls of Join, the first one's list to be grown: what the second made is not in its block -/
theorem rows_ab {WA wA wB : World} {va vb : Value} {ma mb : Nat} {us us' : List Value} {JA JB : List (List (List Vl))} (hs : Below WA.heap.size WA wA) (ha : TuRow (fun j => WA.heap.size ≤ j) WA.heap.size wA va ma us JA) (hb : TuRow (fun j => wA.heap.size ≤ j) wA.heap.size wB vb mb us' JB) (hbb : Below wA.heap.size wA wB) :
    ∃ base, WA.heap.size ≤ base ∧ base ≤ wB.heap.size ∧ TuRow Al base wB va ma us JA ∧ TusOn (fun j => va.ownBlock ≠ some j ∧ Al j) wB vb JB :=
  ⟨WA.heap.size, Nat.le_refl _, Nat.le_trans hs.size hbb.size, (ha.below hbb).mono fun _ _ _ => trivial, hb.tusOn (fun j hj => ⟨fun e => by have := (ha.own.lt j e).2; omega, trivial⟩) (fun j hj => ⟨fun e => by have := (ha.own.lt j e).2; omega, trivial⟩)⟩
theorem rows_ba {WB wA wB : World} {va vb : Value} {ma mb : Nat} {us us' : List Value} {JA JB : List (List (List Vl))} (hs : Below WB.heap.size WB wB) (hb : TuRow (fun j => WB.heap.size ≤ j) WB.heap.size wB vb mb us' JB) (ha : TuRow (fun j => wB.heap.size ≤ j) wB.heap.size wA va ma us JA) (hbb : Below wB.heap.size wB wA) :
    ∃ base, WB.heap.size ≤ base ∧ base ≤ wA.heap.size ∧ TuRow Al base wA va ma us JA ∧ TusOn (fun j => va.ownBlock ≠ some j ∧ Al j) wA vb JB :=
  ⟨wB.heap.size, hs.size, hbb.size, ha.mono fun _ _ _ => trivial, (((hb.tusOn (S := Al) (fun _ _ => trivial) (fun _ _ => trivial)).mono (S := fun j => j < wB.heap.size) fun j hj _ => hj).below hbb (Nat.le_refl _)).mono fun j _ hj => ⟨fun e => by have := (ha.own.lt j e).1; omega, trivial⟩⟩
set_option maxRecDepth 100000 in
theorem nestparts_any (d : Nat) (cv lv rv : Value) (ps : List Pd) (L R : List (List (List Vl))) (w : World) (hp : PsAt d w cv ps) (hl : TusOn Al w lv L) (hr : TusOn Al w rv R) (hfl : Formed lv) (hf : Formed rv) (hW : Want w) :
    Calls Tryd.prog 4 #[cv, lv, rv] w fun E w' => E = .returned (.bool true) ∧ Below w.heap.size w w' := by
  obtain ⟨i0, hi, hz0, hz1, hz2⟩ := info_parts Tryd.infoTup13
  have cl := nlight_any d cv lv rv ps L R w hp hl hr hf hfl
  have CA := Lib.hid (show ∀ W, Below w.heap.size w W → _ from fun W (h : Below w.heap.size w W) => awake14_any W (hW.below h (Nat.le_refl _)))
  have CJ := Lib.hid (show Ns.light ps L R → ∀ (k : Int) (lv : Value) (M : List (List (List Vl))) (W : World), Below w.heap.size w W → TusOn Al W lv M → Ns.Few 100 100 M → Calls Tryd.prog 8 #[.int .i64 k, cv, lv, rv] W (OwnTus W (Ns.join k ps M R)) from fun hL k lv M W h hm hf =>
    njoin_own k d cv lv rv ps M R W (hp.below h (Nat.le_refl _)) (Mt.light_sizes hL.1) (hW.below h (Nat.le_refl _)) hm (hr.below h (Nat.le_refl _)) hf ((Ns.light_right hL).more (by decide) (by decide)))
  obtain ⟨P0, p0, rfl, _⟩ := hp.form
  obtain ⟨R0, c1, rfl, _⟩ := hr.form
  obtain ⟨L0, c0, rfl, hn0⟩ := hl.form
  obtain ⟨n, hn⟩ : ∃ n, n = L.length := ⟨_, rfl⟩
  obtain ⟨rl, hrl⟩ : ∃ n, n = R.length := ⟨_, rfl⟩
  obtain ⟨pl, hpl⟩ : ∃ n, n = ps.length := ⟨_, rfl⟩
  obtain ⟨k, hk⟩ : ∃ k, k = n / 2 := ⟨_, rfl⟩
  rw [← hn] at hl hfl hn0
  rw [← hpl, ← hrl, ← hn] at cl
  rw [← hpl, ← hrl] at CJ ⊢
  rw [← hn]
  have HL := Lib.hid hl
  have HN := Lib.hid (And.intro hn (And.intro hrl hpl))
  have hform : (L0 = none ∧ n = 0 ∧ c0 = 0) ∨ (∃ b, L0 = some b ∧ n = 0 ∧ c0 = 0) ∨ (∃ b, L0 = some b ∧ k < c0) := by
    rcases hfl with h | ⟨b, m, c, h⟩
    · injection h with h1 h2 h3; exact .inl ⟨h1, h2, h3⟩
    · injection h with h1 h2 h3
      by_cases h0 : c0 = 0
      · exact .inr (.inl ⟨b, h1, by omega, h0⟩)
      · exact .inr (.inr ⟨b, h1, by omega⟩)
  clear hp hl hr hf hfl hW hn hrl hpl
  go_enter Tryd.func4, Tryd.ntmps4
  go_wp2_with fail
  refine cl.mono ?_
  rintro E w1 ⟨b, rfl, hlight, hb1⟩
  have HLI := Lib.hid hlight
  have HB1 := Lib.hid hb1
  clear cl hlight
  cases b with
  | false =>
    have ca := CA.out w1 hb1
    clear hb1
    go_wp2_with fail
    refine ca.mono ?_
    rintro E w2 ⟨rfl, hb2⟩
    have hb12 := below_join HB1.out hb2
    clear ca hb2
    go_wp2_with fail
    go_ret
    exact ⟨rfl, hb12⟩
  | true =>
    have hL := HLI.out rfl
    have HJ := Lib.hid (CJ.out hL)
    have HF := Lib.hid ((Ns.light_left hL).more (n' := 100) (m' := 100) (by decide) (by decide))
    have HFR := Lib.hid ((Ns.light_right hL).more (n' := 100) (m' := 100) (by decide) (by decide))
    have hn40 : n ≤ 40 := by have := hL.2.2.1; have := HN.out.1; omega
    have hquo : ((n : Int)).tdiv 2 = (k : Int) := by rw [hk]; exact (Int.ofNat_tdiv n 2).symm
    have hk2 : k ≤ n := by omega
    have hL0 : n = 0 → L = [] := fun h => List.eq_nil_of_length_eq_zero (by have := HN.out.1; omega)
    clear hb1 CJ hL hk
    rcases hform with ⟨rfl, rfl, rfl⟩ | ⟨b, rfl, rfl, rfl⟩ | ⟨b, rfl, hkc⟩
    · have HL0 := Lib.hid (hL0 rfl)
      clear hL0
      go_wp2_with fail
      go_loopw [8] (fun i wr => ∃ q : Nat, 1 ≤ q ∧ q ≤ 5 ∧ i = .int .i64 q ∧ Below w1.heap.size w1 wr) (fun i _ => 5 - (intOf i).toNat)
      case atStart => exact ⟨1, by omega, by omega, rfl, Below.refl _ _⟩
      case round =>
        obtain ⟨q, hq1, hq, rfl, hb⟩ := hrel
        by_cases hlt : q < 5
        · have i1 : (q : Int) ≤ 4 := by omega
          have HB := Lib.hid (below_join HB1.out hb)
          have CCA := Lib.hid (show ∀ W, Below wr.heap.size wr W → Calls Tryd.prog 8 #[.int .i64 (q : Int), .slice P0 pl p0, (.slice none 0 0), .slice R0 rl c1] W (fun E w' => ∃ A a, E = .returned (.slice A 0 a) ∧ Below wr.heap.size wr w') from fun W h =>
            (HJ.out (q : Int) (.slice none 0 0) L W (below_join HB.out h) (HL.out.below (below_join HB.out h) (Nat.le_refl _)) HF.out).mono fun E w' hE => by
              obtain ⟨A, a, us, h1, _, _, h4⟩ := hE
              rw [HL0.out] at h1
              exact ⟨A, a, h1, below_join h h4⟩)
          have hS := Below.refl wr.heap.size wr
          have HBW := Lib.hid hb
          clear hb hlt
          go_wp2_with fail
          go_region_held3 (fun W => Below wr.heap.size wr W) (first | assumption | exact Below.drew (by assumption))
            (first
              | (go_at_call 8; (with_reducible refine (CCA.out _ (by repeat first | assumption | refine Below.drew ?_)).mono ?_); rintro e wA ⟨A5, a5, rfl, hSA⟩)
              | (fail "no arm"))
          all_goals
            have c8 := CCA.out _ hSA
            go_wp2_with fail
            refine c8.mono ?_
            rintro E w8 ⟨A8, a8, rfl, hS8⟩
            have ct := fun A a A' a' => r13list_any Al (.slice A 0 a) (.slice A' 0 a') [] [] w8 (TusOn.zero _ _ _ _) (TusOn.zero _ _ _ _) (by simp) (by simp) (by simp) (by simp) (by simp) (by simp)
            rw [Mt.list_refl] at ct
            have HS8 := Lib.hid hS8
            clear c8 hS8 hSA
            go_wp2_with (first
              | (at_builtin; refine wpList_append_zero _ rfl _ _ 23 rfl 32 i0 Tryd.underlying23 hi _ _ 0 _ _ rfl rfl (Nat.zero_le _) ?_))
            refine (ct _ _ _ _).mono ?_
            rintro E w9 ⟨rfl, hb9⟩
            have hb19 := below_join HBW.out (below_join HS8.out hb9)
            clear ct hb9
            go_wp2_with fail
            go_roundw
            case rel => exact ⟨q + 1, by omega, by omega, by go_num, hb19⟩
            case measure => simp [intOf]; omega
        · have i1 : ¬ (q : Int) ≤ 4 := by omega
          clear hlt
          have HB := Lib.hid (below_join HB1.out hb)
          have CCA := Lib.hid (show ∀ (q : Int) W, Below w.heap.size w W → Calls Tryd.prog 8 #[.int .i64 q, .slice P0 pl p0, (.slice none 0 0), .slice R0 rl c1] W (fun E w' => ∃ A a, E = .returned (.slice A 0 a) ∧ Below w.heap.size w w') from fun q W h =>
            (HJ.out q (.slice none 0 0) L W h (HL.out.below h (Nat.le_refl _)) HF.out).mono fun E w' hE => by
              obtain ⟨A, a, us, h1, _, _, h4⟩ := hE
              rw [HL0.out] at h1
              exact ⟨A, a, h1, below_join h h4⟩)
          have c3 := CCA.out 3 wr HB.out
          clear hb
          go_wp2_with fail
          refine c3.mono ?_
          rintro E w3 ⟨A3, a3, rfl, hb3⟩
          have c4 := CCA.out 4 w3 hb3
          clear c3 hb3
          go_wp2_with fail
          refine c4.mono ?_
          rintro E w4 ⟨A4, a4, rfl, hb4⟩
          have ca := CA.out w4 hb4
          have HB4 := Lib.hid hb4
          clear c4 hb4
          go_wp2_with fail
          go_loopw [13, 14, 15] (fun a b i wr => a = .int .i64 0 ∧ b = .int .i64 0 ∧ i = .int .i64 0 ∧ w4 = wr) (fun _ _ i _ => 0)
          case atStart => exact ⟨rfl, rfl, rfl, rfl⟩
          case round =>
            obtain ⟨rfl, rfl, rfl, rfl⟩ := hrel
            go_wp2_with fail
            refine ca.mono ?_
            rintro E w5 ⟨rfl, hb5⟩
            have HB5 := Lib.hid (below_join HB4.out hb5)
            clear ca hb5
            go_wp2_with fail
            go_ret
            exact ⟨rfl, HB5.out⟩
    · have HL0 := Lib.hid (hL0 rfl)
      clear hL0
      go_wp2_with fail
      go_loopw [8] (fun i wr => ∃ q : Nat, 1 ≤ q ∧ q ≤ 5 ∧ i = .int .i64 q ∧ Below w1.heap.size w1 wr) (fun i _ => 5 - (intOf i).toNat)
      case atStart => exact ⟨1, by omega, by omega, rfl, Below.refl _ _⟩
      case round =>
        obtain ⟨q, hq1, hq, rfl, hb⟩ := hrel
        by_cases hlt : q < 5
        · have i1 : (q : Int) ≤ 4 := by omega
          have HB := Lib.hid (below_join HB1.out hb)
          have CCA := Lib.hid (show ∀ W, Below wr.heap.size wr W → Calls Tryd.prog 8 #[.int .i64 (q : Int), .slice P0 pl p0, (.slice (some b) 0 0), .slice R0 rl c1] W (fun E w' => ∃ A a, E = .returned (.slice A 0 a) ∧ Below wr.heap.size wr w') from fun W h =>
            (HJ.out (q : Int) (.slice (some b) 0 0) L W (below_join HB.out h) (HL.out.below (below_join HB.out h) (Nat.le_refl _)) HF.out).mono fun E w' hE => by
              obtain ⟨A, a, us, h1, _, _, h4⟩ := hE
              rw [HL0.out] at h1
              exact ⟨A, a, h1, below_join h h4⟩)
          have hS := Below.refl wr.heap.size wr
          have HBW := Lib.hid hb
          clear hb hlt
          go_wp2_with fail
          go_region_held3 (fun W => Below wr.heap.size wr W) (first | assumption | exact Below.drew (by assumption))
            (first
              | (go_at_call 8; (with_reducible refine (CCA.out _ (by repeat first | assumption | refine Below.drew ?_)).mono ?_); rintro e wA ⟨A5, a5, rfl, hSA⟩)
              | (fail "no arm"))
          all_goals
            have c8 := CCA.out _ hSA
            go_wp2_with fail
            refine c8.mono ?_
            rintro E w8 ⟨A8, a8, rfl, hS8⟩
            have ct := fun A a A' a' => r13list_any Al (.slice A 0 a) (.slice A' 0 a') [] [] w8 (TusOn.zero _ _ _ _) (TusOn.zero _ _ _ _) (by simp) (by simp) (by simp) (by simp) (by simp) (by simp)
            rw [Mt.list_refl] at ct
            have HS8 := Lib.hid hS8
            clear c8 hS8 hSA
            go_wp2_with (first
              | (at_builtin; refine wpList_append_zero _ rfl _ _ 23 rfl 32 i0 Tryd.underlying23 hi _ _ 0 _ _ rfl rfl (Nat.zero_le _) ?_))
            refine (ct _ _ _ _).mono ?_
            rintro E w9 ⟨rfl, hb9⟩
            have hb19 := below_join HBW.out (below_join HS8.out hb9)
            clear ct hb9
            go_wp2_with fail
            go_roundw
            case rel => exact ⟨q + 1, by omega, by omega, by go_num, hb19⟩
            case measure => simp [intOf]; omega
        · have i1 : ¬ (q : Int) ≤ 4 := by omega
          clear hlt
          have HB := Lib.hid (below_join HB1.out hb)
          have CCA := Lib.hid (show ∀ (q : Int) W, Below w.heap.size w W → Calls Tryd.prog 8 #[.int .i64 q, .slice P0 pl p0, (.slice (some b) 0 0), .slice R0 rl c1] W (fun E w' => ∃ A a, E = .returned (.slice A 0 a) ∧ Below w.heap.size w w') from fun q W h =>
            (HJ.out q (.slice (some b) 0 0) L W h (HL.out.below h (Nat.le_refl _)) HF.out).mono fun E w' hE => by
              obtain ⟨A, a, us, h1, _, _, h4⟩ := hE
              rw [HL0.out] at h1
              exact ⟨A, a, h1, below_join h h4⟩)
          have c3 := CCA.out 3 wr HB.out
          clear hb
          go_wp2_with fail
          refine c3.mono ?_
          rintro E w3 ⟨A3, a3, rfl, hb3⟩
          have c4 := CCA.out 4 w3 hb3
          clear c3 hb3
          go_wp2_with fail
          refine c4.mono ?_
          rintro E w4 ⟨A4, a4, rfl, hb4⟩
          have ca := CA.out w4 hb4
          have HB4 := Lib.hid hb4
          clear c4 hb4
          go_wp2_with fail
          go_loopw [13, 14, 15] (fun a b i wr => a = .int .i64 0 ∧ b = .int .i64 0 ∧ i = .int .i64 0 ∧ w4 = wr) (fun _ _ i _ => 0)
          case atStart => exact ⟨rfl, rfl, rfl, rfl⟩
          case round =>
            obtain ⟨rfl, rfl, rfl, rfl⟩ := hrel
            go_wp2_with fail
            refine ca.mono ?_
            rintro E w5 ⟨rfl, hb5⟩
            have HB5 := Lib.hid (below_join HB4.out hb5)
            clear ca hb5
            go_wp2_with fail
            go_ret
            exact ⟨rfl, HB5.out⟩
    · have HVA := Lib.hid (show ∀ W, Below w.heap.size w W → TusOn Al W (.slice (some b) k c0) (L.take k) from fun W h => tus_cut (HL.out.below h (Nat.le_refl _)) k hk2)
      have HVB := Lib.hid (show ∀ W, Below w.heap.size w W → TusOn Al W (.slice (some (b.add k)) (n - k) (c0 - k)) (L.drop k) from fun W h => tus_drop (HL.out.below h (Nat.le_refl _)) k hk2)
      have j1 : (0 : Int) ≤ (k : Int) := by omega
      have j2 : (k : Int) ≤ (n : Int) := by omega
      have j3 : (k : Int) ≤ (c0 : Int) := by omega
      have j4 : ¬ (c0 = k) := by omega
      have j5 : ¬ (c0 - k = 0) := by omega
      go_wp2_with fail
      go_loopw [8] (fun i wr => ∃ q : Nat, 1 ≤ q ∧ q ≤ 5 ∧ i = .int .i64 q ∧ Below w1.heap.size w1 wr) (fun i _ => 5 - (intOf i).toNat)
      case atStart => exact ⟨1, by omega, by omega, rfl, Below.refl _ _⟩
      case round =>
        obtain ⟨q, hq1, hq, rfl, hb⟩ := hrel
        by_cases hlt : q < 5
        · have i1 : (q : Int) ≤ 4 := by omega
          have HB := Lib.hid (below_join HB1.out hb)
          have hfj := Ns.join_few (k := (q : Int)) (ps := ps) HF.out HFR.out
          obtain ⟨JW, hJW⟩ : ∃ JW, JW = Ns.join (q : Int) ps L R := ⟨_, rfl⟩
          obtain ⟨JA, hJA⟩ : ∃ JA, JA = Ns.join (q : Int) ps (L.take k) R := ⟨_, rfl⟩
          obtain ⟨JB, hJB⟩ : ∃ JB, JB = Ns.join (q : Int) ps (L.drop k) R := ⟨_, rfl⟩
          have hjp : JA ++ JB = JW := by rw [hJA, hJB, hJW]; exact Ns.join_parts _ _ _ _ _
          rw [← hJW] at hfj
          have hjl : JW.length ≤ 10100 := hfj.len
          have hjs : JW.length = JA.length + JB.length := by rw [← hjp, List.length_append]
          have cA : ∀ W, Below wr.heap.size wr W → Calls Tryd.prog 8 #[.int .i64 (q : Int), .slice P0 pl p0, (.slice (some b) k c0), .slice R0 rl c1] W fun E w' => ∃ A a us, E = .returned (.slice A JA.length a) ∧ Hid (TuRow (fun j => W.heap.size ≤ j) W.heap.size w' (.slice A JA.length a) JA.length us JA) ∧ Hid (JA.length ≤ a) ∧ Below W.heap.size W w' ∧ Below wr.heap.size wr w' := fun W h =>
            (HJ.out (q : Int) (.slice (some b) k c0) (L.take k) W (below_join HB.out h) (HVA.out W (below_join HB.out h)) (HF.out.take k)).mono fun E w' hE => by
              obtain ⟨A, a, us, h1, h2, h3, h4⟩ := hE
              rw [← hJA] at h1 h2 h3
              exact ⟨A, a, us, h1, Lib.hid h2, Lib.hid h3, h4, below_join h h4⟩
          have cB : ∀ W, Below wr.heap.size wr W → Calls Tryd.prog 8 #[.int .i64 (q : Int), .slice P0 pl p0, (.slice (some (b.add k)) (n - k) (c0 - k)), .slice R0 rl c1] W fun E w' => ∃ A a us, E = .returned (.slice A JB.length a) ∧ Hid (TuRow (fun j => W.heap.size ≤ j) W.heap.size w' (.slice A JB.length a) JB.length us JB) ∧ Below W.heap.size W w' ∧ Below wr.heap.size wr w' := fun W h =>
            (HJ.out (q : Int) (.slice (some (b.add k)) (n - k) (c0 - k)) (L.drop k) W (below_join HB.out h) (HVB.out W (below_join HB.out h)) (HF.out.drop k)).mono fun E w' hE => by
              obtain ⟨A, a, us, h1, h2, _, h4⟩ := hE
              rw [← hJB] at h1 h2
              exact ⟨A, a, us, h1, Lib.hid h2, h4, below_join h h4⟩
          have CW := Lib.hid (show ∀ W, Below wr.heap.size wr W → _ from fun W h => by
            have := HJ.out (q : Int) (.slice (some b) n c0) L W (below_join HB.out h) (HL.out.below (below_join HB.out h) (Nat.le_refl _)) HF.out
            rw [← hJW] at this
            exact this)
          obtain ⟨ma, hma⟩ : ∃ m, m = JA.length := ⟨_, rfl⟩
          obtain ⟨mb, hmb⟩ : ∃ m, m = JB.length := ⟨_, rfl⟩
          rw [← hma] at cA hjs
          rw [← hmb] at cB hjs
          have CCA := Lib.hid cA
          have CCB := Lib.hid cB
          have HFJ := Lib.hid hfj
          have HJP := Lib.hid hjp
          have hS := Below.refl wr.heap.size wr
          have i2 : ma ≤ 10100 := by omega
          have i3 : mb ≤ 10100 := by omega
          have HI4 := Lib.hid (show JW.length = ma + mb from hjs)
          have HBW := Lib.hid hb
          clear hb hJW hJA hJB hjp hjl hjs cA cB hma hmb hfj hlt
          go_wp2_with fail
          go_region_held3 (fun W => Below wr.heap.size wr W) (first | assumption | exact Below.drew (by assumption))
            (first
              | (go_at_call 8; (with_reducible refine (CCA.out _ (by repeat first | assumption | refine Below.drew ?_)).mono ?_); rintro e wA ⟨A5, a5, us5, rfl, hrA, hcA, hbA, hSA⟩)
              | (go_at_call 8; (with_reducible refine (CCB.out _ (by repeat first | assumption | refine Below.drew ?_)).mono ?_); rintro e wB ⟨A6, a6, us6, rfl, hrB, hbB, hSB⟩)
              | (fail "no arm"))
          all_goals
            have hab := rows_ab hbA hrA.out hrB.out hbB
            have hS7 := hSB
            clear hrA hrB hbA hbB hSA hS
            obtain ⟨base, hbase1, hbase2, hA7, hB7⟩ := hab
            have hbase1 : wr.heap.size ≤ base := Nat.le_trans (by first | exact Nat.le_refl _ | simp) hbase1
            have c8 := CW.out wB hS7
            have HA7 := Lib.hid hA7
            have HB7 := Lib.hid hB7
            have HS7 := Lib.hid (And.intro hS7 (And.intro hbase1 hbase2))
            clear hA7 hB7 hS7 hbase1 hbase2 hSB
            go_wp2_with fail
            refine c8.mono ?_
            rintro E w8 ⟨A8, a8, us8, rfl, hr8, _, hb8⟩
            have hA8 := HA7.out.below hb8
            have hB8 := HB7.out.below hb8 (Nat.le_refl _)
            have hW8 : TusOn (fun j => wB.heap.size ≤ j) w8 (.slice A8 JW.length a8) JW := hr8.tusOn (fun _ h => h) (fun _ h => h)
            obtain ⟨news, hn1, hn2, hn3, hn4, hn5⟩ := hA8.more hB8 (fun j _ hj => hj)
            have HA8 := Lib.hid hA8
            have HW8 := Lib.hid hW8
            have HB8 := Lib.hid (below_join HS7.out.1 hb8)
            have HB78 := Lib.hid hb8
            have HN5 := Lib.hid hn5
            clear c8 hr8 hb8 hA8 hB8 hW8 hn2 hn5
            have hcap := hcA.out
            by_cases hz : mb = 0
            · subst hz
              obtain rfl : news = [] := List.eq_nil_of_length_eq_zero hn1
              have hT := HN5.out _ w8 (by simpa using HA8.out.own) ⟨rfl, rfl, rfl, Nat.le_refl _, fun _ _ _ => rfl⟩ (.inl rfl)
              rw [HJP.out] at hT
              have ct := r13list_any Al _ _ JW JW w8 HW8.out.al hT.tus (fun x hx => Nat.le_trans (HFJ.out.tup x hx).1 (by decide)) (fun x hx => Nat.le_trans (HFJ.out.tup x hx).1 (by decide)) (fun x hx y hy => Nat.le_trans ((HFJ.out.tup x hx).2 y hy) (by decide)) (fun x hx y hy => Nat.le_trans ((HFJ.out.tup x hx).2 y hy) (by decide)) (by have := HI4.out; omega) (by have := HI4.out; omega)
              rw [Mt.list_refl] at ct
              clear hn1 hn3 hn4 hT
              go_wp2_with (first
                | (at_builtin; refine wpList_append_zero _ rfl _ _ 23 rfl 32 i0 Tryd.underlying23 hi A5 A6 ma a5 a6 rfl rfl hcap ?_))
              with_reducible refine ct.mono ?_
              rintro E w9 ⟨rfl, hb9⟩
              have hb19 := below_join HBW.out (below_join HB8.out hb9)
              clear ct hb9
              go_wp2_with fail
              go_roundw
              case rel => exact ⟨q + 1, by omega, by omega, by go_num, hb19⟩
              case measure => simp [intOf]; omega
            · obtain ⟨ad, hA6, hn6⟩ := hn4 (by omega)
              subst hA6
              have HN6 := Lib.hid hn6
              have HN3 := Lib.hid hn3
              have HN1 := Lib.hid (show news.length = mb * 1 by omega)
              clear hn1 hn3 hn4 hn6 hz hcap
              go_wp2_with (first
                | (at_builtin; refine wpList_append_at _ rfl _ _ 23 rfl base 32 i0 (.slice none 0 0) 1 24 Tryd.underlying23 hi hz0 hz1 hz2 rfl (by decide) _ ma us5 rfl HA8.out.own ad mb a6 news rfl HN1.out ?c1 ?c2 ?c3 ?c4 ?c5 ?_))
              case c1 => exact HN6.out
              case c2 => exact HN3.out
              case c3 => unfold maxLen; omega
              case c4 => omega
              case c5 => exact Nat.le_trans HS7.out.2.2 HB78.out.size
              intro v9 w9 hown9 hg9 hwh9
              have hT := HN5.out v9 w9 hown9 hg9 hwh9
              rw [HJP.out] at hT
              have hW9 := HW8.out.keep (keeps_grown hg9) (fun j _ hj e => by have := (HA7.out.own.lt j e).2; omega)
              have hb9 : Below wr.heap.size wr w9 := HB8.out.grown hg9 HB8.out.size (fun j hj => Nat.le_trans HS7.out.2.1 (HA8.out.own.lt j hj).1)
              obtain ⟨A9, a9, rfl⟩ := ownsForm hown9
              have ct := r13list_any Al _ _ JW JW w9 hW9.al hT.tus (fun x hx => Nat.le_trans (HFJ.out.tup x hx).1 (by decide)) (fun x hx => Nat.le_trans (HFJ.out.tup x hx).1 (by decide)) (fun x hx y hy => Nat.le_trans ((HFJ.out.tup x hx).2 y hy) (by decide)) (fun x hx y hy => Nat.le_trans ((HFJ.out.tup x hx).2 y hy) (by decide)) (by have := HI4.out; omega) (by have := HI4.out; omega)
              rw [Mt.list_refl] at ct
              have HB9 := Lib.hid hb9
              clear hown9 hg9 hwh9 hT hW9 hb9
              go_wp2_with fail
              with_reducible refine ct.mono ?_
              rintro E w10 ⟨rfl, hb10⟩
              have hb19 := below_join HBW.out (below_join HB9.out hb10)
              clear ct hb10
              go_wp2_with fail
              go_roundw
              case rel => exact ⟨q + 1, by omega, by omega, by go_num, hb19⟩
              case measure => simp [intOf]; omega
        · have i1 : ¬ (q : Int) ≤ 4 := by omega
          clear hlt
          have HB := Lib.hid (below_join HB1.out hb)
          have hsl := Ns.join_few (k := 3) (ps := ps) HF.out HFR.out
          have hal := Ns.anti_length ps L R
          have hst := fun (q : Nat) (t : List (List Vl)) (h : L[q]? = some t) => Ns.semi_step (ps := ps) (R := R) h
          have hsa := fun (q : Nat) (t : List (List Vl)) (h : L[q]? = some t) (g : Ns.has ps R t = true) => Ns.semi_at (ps := ps) (R := R) h g
          obtain ⟨SE, hSE⟩ : ∃ S, S = Ns.join 3 ps L R := ⟨_, rfl⟩
          obtain ⟨AN, hAN⟩ : ∃ S, S = Ns.join 4 ps L R := ⟨_, rfl⟩
          obtain ⟨ms, hms⟩ : ∃ m, m = SE.length := ⟨_, rfl⟩
          obtain ⟨mn, hmn⟩ : ∃ m, m = AN.length := ⟨_, rfl⟩
          rw [← hSE] at hsl hal hsa
          rw [← hAN] at hal
          rw [← hms] at hsa hal
          rw [← hmn, ← HN.out.1] at hal
          have c3 := HJ.out 3 (.slice (some b) n c0) L wr HB.out (HL.out.below HB.out (Nat.le_refl _)) HF.out
          rw [← hSE] at c3
          have c4 := fun W (h : Below w.heap.size w W) => HJ.out 4 (.slice (some b) n c0) L W h (HL.out.below h (Nat.le_refl _)) HF.out
          rw [← hAN] at c4
          have C4 := Lib.hid c4
          have HST := Lib.hid hst
          have HSA := Lib.hid hsa
          have HSL := Lib.hid hsl
          have HSE := Lib.hid (And.intro hSE (And.intro hms hmn))
          clear hSE hAN hms hmn hst hsa hsl hb c4
          go_wp2_with fail
          refine c3.mono ?_
          rintro E w3 ⟨A3, a3, us3, rfl, hr3, _, hb3⟩
          rw [← HSE.out.2.1] at hr3 ⊢
          have hb03 := below_join HB.out hb3
          have c4 := C4.out w3 hb03
          have HR3 := Lib.hid hr3.tus
          clear c3 hr3 hb3
          go_wp2_with fail
          refine c4.mono ?_
          rintro E w4 ⟨A4, a4, us4, rfl, _, _, hb4⟩
          rw [← HSE.out.2.2]
          have HS4 := Lib.hid (HR3.out.below hb4 (Nat.le_refl _))
          have HB4 := Lib.hid (below_join hb03 hb4)
          have HL4 := Lib.hid (HL.out.below (below_join hb03 hb4) (Nat.le_refl _))
          have hms40 : ms ≤ n := by omega
          clear c4 hb03 hb4
          go_wp2_with fail
          go_loopw [13, 14, 15] (fun a b' i wr => ∃ q m p : Nat, q ≤ n ∧ m + p = q ∧ a = .int .i64 m ∧ b' = .int .i64 p ∧ i = .int .i64 q ∧ Hid (m = (Ns.join 3 ps (L.take q) R).length) ∧ Below w4.heap.size w4 wr) (fun _ _ i _ => n - (intOf i).toNat)
          case atStart => exact ⟨0, 0, 0, Nat.zero_le _, rfl, rfl, rfl, rfl, Lib.hid rfl, Below.refl _ _⟩
          case round =>
            obtain ⟨q, m, p, hq, hmp, rfl, rfl, rfl, HM, hb5⟩ := hrel
            by_cases hlt : q < n
            · obtain ⟨t, gt⟩ : ∃ t, L[q]? = some t := ⟨L[q]'(by have := HN.out.1; omega), List.getElem?_eq_getElem _⟩
              have hstep := HST.out q t gt
              rw [← HM.out] at hstep
              have hat := HSA.out q t gt
              rw [← HM.out] at hat
              have k1 : (0 : Int) ≤ (q : Int) := by omega
              have k2 : (q : Int) < (n : Int) := by omega
              have k3 : (0 : Int) ≤ (m : Int) := by omega
              have HB5 := Lib.hid (below_join HB4.out hb5)
              have HB45 := Lib.hid hb5
              have hnext : ∀ W, Below wr.heap.size wr W → Below w4.heap.size w4 W := fun W h => below_join hb5 h
              have HNX := Lib.hid hnext
              have HLT := Lib.hid hlt
              clear hb5 hnext hlt HM
              by_cases hm : m < ms
              · obtain ⟨u, gu⟩ : ∃ u, SE[m]? = some u := ⟨SE[m]'(by have := HSE.out.2.1; omega), List.getElem?_eq_getElem _⟩
                obtain ⟨bs, os, qs, B1, d1, hA3, _, h1⟩ := HS4.out.pick gu
                subst hA3
                obtain ⟨bl, ol, ql, B2, d2, hbl, _, h2⟩ := HL4.out.pick gt
                have hbe : b = ⟨bl, ol, ql⟩ := Option.some.inj hbl
                rw [← hbe] at h2
                clear hbl hbe
                have hut := HSL.out.tup u (List.mem_of_getElem? gu)
                have htt := HF.out.tup t (List.mem_of_getElem? gt)
                have y1 := (h1 wr HB45.out).1
                have y2 := (h2 wr HB45.out).1
                have m1 : (m : Int) < (ms : Int) := by omega
                have m2 : decide ((m : Int) < (ms : Int)) = true := decide_eq_true m1
                have cS : ∀ W, Below wr.heap.size wr W → Calls Tryd.prog 12 #[.slice B1 u.length d1, .slice B2 t.length d2] W fun E w' => E = .returned (.bool (Mt.same u t)) ∧ Below W.heap.size W w' := fun W h =>
                  r13same_any Al _ _ u t W (h1 W (HNX.out W h)).2 (h2 W (HNX.out W h)).2 (by have := hut.1; omega) (by have := htt.1; omega) (fun x hx => Nat.le_trans (hut.2 x hx) (by decide)) (fun x hx => Nat.le_trans (htt.2 x hx) (by decide))
                have hsame : Ns.has ps R t = true → Mt.same u t = true := fun h => by
                  have := (hat h).1
                  rw [gu] at this
                  cases this
                  exact Mt.same_refl _
                obtain ⟨bb, hbb⟩ : ∃ bb, bb = Mt.same u t := ⟨_, rfl⟩
                rw [← hbb] at cS hsame
                obtain ⟨ul, hul⟩ : ∃ m, m = u.length := ⟨_, rfl⟩
                obtain ⟨tl, htl⟩ : ∃ m, m = t.length := ⟨_, rfl⟩
                rw [← hul, ← htl] at cS
                rw [← hul] at y1
                rw [← htl] at y2
                have HY := Lib.hid (show ∀ W, Below wr.heap.size wr W → W.cell? ((⟨bs, os, qs⟩ : Addr).add m) = some (.slice B1 ul d1) ∧ W.cell? (b.add q) = some (.slice B2 tl d2) ∧ Below wr.heap.size wr W from fun W h => by
                  rw [hul, htl]; exact ⟨(h1 W (HNX.out W h)).1, (h2 W (HNX.out W h)).1, h⟩)
                clear hbb hul htl h1 h2 gu hut htt
                cases bb with
                | false =>
                  have hno : Ns.has ps R t = false := by
                    cases h : Ns.has ps R t with
                    | false => rfl
                    | true => cases hsame h
                  rw [hno] at hstep
                  have HSP := Lib.hid hstep
                  have cc := in_class cS
                  have z1 := cell_regrown y1
                  have z2 := cell_regrown y2
                  clear hstep hat hsame hno cS y1 y2
                  go_wp2_with fail
                  refine wp_region_quiet_below (by kernel_rfl) (by kernel_rfl) ?_
                  repeat (go_big_quiet_step (with_reducible exact cc _ _))
                  refine wpQuiet_nil ?_
                  intro _ hw'
                  obtain ⟨⟨dq, osq⟩, hw''⟩ := hw'
                  subst hw''
                  have hb7 := HNX.out _ (below_regrown wr dq osq)
                  clear z1 z2 cc
                  generalize grow (redrawn wr dq) osq = w7 at hb7 ⊢
                  have hlt := HLT.out
                  go_wp2_with fail
                  go_roundw
                  case rel => exact ⟨q + 1, m, p + 1, by omega, by omega, rfl, by go_num, by go_num, Lib.hid HSP.out.symm, hb7⟩
                  case measure => simp [intOf]; omega
                | true =>
                  have e1 : ((q : Int) + 1) ≤ (n : Int) := by omega
                  have e2 : (q : Int) ≤ (q : Int) + 1 := by omega
                  have e3 := Lib.hid (show wrap64 ((q : Int) + 1) = (q : Int) + 1 by unfold wrap64; omega)
                  have e5 : (q : Int) + 1 ≤ (c0 : Int) := by omega
                  have e6 : ¬ (c0 = q) := by have := HLT.out; omega
                  have e7 : ¬ (c0 - q = 0) := by have := HLT.out; omega
                  have hone : (L.drop q).take 1 = [t] := by
                    rw [List.take_one, List.head?_drop, gt]; rfl
                  have cJ : ∀ W, Below wr.heap.size wr W → Calls Tryd.prog 8 #[.int .i64 3, .slice P0 pl p0, .slice (some (b.add q)) 1 (c0 - q), .slice R0 rl c1] W fun E w' => ∃ A a, E = .returned (.slice A (if Ns.has ps R t then 1 else 0) a) ∧ Below wr.heap.size wr w' := fun W h =>
                    (HJ.out 3 (.slice (some (b.add q)) 1 (c0 - q)) [t] W (below_join HB5.out h) (by
                      have hd := tus_cut (tus_drop (HL4.out.below (HNX.out W h) (Nat.le_refl _)) q hq) 1 (by have := HLT.out; omega)
                      rw [hone] at hd
                      exact hd) (HF.out.one (List.mem_of_getElem? gt))).mono fun E w' hE => by
                      obtain ⟨A, a, us, h1, _, _, h4⟩ := hE
                      rw [Ns.join_one, Ns.extend_semi] at h1
                      refine ⟨A, a, ?_, below_join h h4⟩
                      rw [h1]
                      cases Ns.has ps R t <;> rfl
                  obtain ⟨z, hz⟩ : ∃ z, z = (if Ns.has ps R t then 1 else 0) := ⟨_, rfl⟩
                  have hz2 : z ≤ 1 := by rw [hz]; cases Ns.has ps R t <;> decide
                  rw [← hz] at hstep cJ
                  have CCS := Lib.hid (in_turn cS)
                  have CCJ := Lib.hid cJ
                  have HSP := Lib.hid hstep
                  have hS := Below.refl wr.heap.size wr
                  have e8 : (0 : Int) ≤ (q : Int) + 1 := by omega
                  have e9 : ((q : Int) + 1).toNat = q + 1 := by omega
                  have e10 : (q : Int) ≤ (c0 : Int) := by omega
                  clear hstep hat cS cJ hz hsame hone
                  go_wp2_with fail
                  have e4 := e3.out
                  have e11 : IntKind.i64.wrap ((q : Int) + 1) = (q : Int) + 1 := (IntWalk.i64_left _).trans e3.out
                  go_region_held3 (fun W => W.cell? ((⟨bs, os, qs⟩ : Addr).add m) = some (.slice B1 ul d1) ∧ W.cell? (b.add q) = some (.slice B2 tl d2) ∧ Below wr.heap.size wr W) (first | (exact HY.out _ (by repeat first | assumption | refine Below.drew ?_)))
                    (first
                      | (go_at_call 12; (with_reducible refine (CCS.out _ (by repeat first | assumption | refine Below.drew ?_)).mono ?_); rintro e wA ⟨rfl, hSA⟩)
                      | (go_at_call 8; (with_reducible refine (CCJ.out _ (by repeat first | assumption | refine Below.drew ?_)).mono ?_); rintro e wB ⟨A6, a6, rfl, hSB⟩)
                      | (fail "no arm"))
                  all_goals
                    have hb7 := HNX.out _ hSB
                    have hlt := HLT.out
                    clear e1 e2 e4 e5 e6 e7 e8 e9 e10 e11 y1 y2 hSA hSB hS
                    by_cases hz1 : z = 1
                    · subst hz1
                      go_wp2_with fail
                      go_roundw
                      case rel => exact ⟨q + 1, m + 1, p, by omega, by omega, by go_num, rfl, by go_num, Lib.hid HSP.out.symm, hb7⟩
                      case measure => simp [intOf]; omega
                    · obtain rfl : z = 0 := by omega
                      go_wp2_with fail
                      go_roundw
                      case rel => exact ⟨q + 1, m, p + 1, by omega, by omega, rfl, by go_num, by go_num, Lib.hid HSP.out.symm, hb7⟩
                      case measure => simp [intOf]; omega
              · have hno : Ns.has ps R t = false := by
                  cases h : Ns.has ps R t with
                  | false => rfl
                  | true => exact absurd (hat h).2 hm
                rw [hno] at hstep
                have HSP := Lib.hid hstep
                have m2 : decide ((m : Int) < (ms : Int)) = false := decide_eq_false (by omega)
                have m3 : decide (m < ms) = false := decide_eq_false hm
                clear hstep hat hno hm
                go_wp2_with fail
                refine wp_region_quiet_below (by kernel_rfl) (by kernel_rfl) ?_
                repeat (go_big_quiet_step (fail))
                refine wpQuiet_nil ?_
                intro _ hw'
                obtain ⟨⟨dq, osq⟩, hw''⟩ := hw'
                subst hw''
                have hb7 := HNX.out _ (below_regrown wr dq osq)
                generalize grow (redrawn wr dq) osq = w7 at hb7 ⊢
                have hlt := HLT.out
                go_wp2_with fail
                go_roundw
                case rel => exact ⟨q + 1, m, p + 1, by omega, by omega, rfl, by go_num, by go_num, Lib.hid HSP.out.symm, hb7⟩
                case measure => simp [intOf]; omega
            · obtain rfl : q = n := by omega
              have hmm : m = ms := by
                have h := HM.out
                rw [List.take_of_length_le (by have := HN.out.1; omega), ← HSE.out.1] at h
                rw [h]; exact HSE.out.2.1.symm
              obtain rfl : p = mn := by omega
              subst hmm
              have ca := CA.out wr (below_join HB4.out hb5)
              have HB5 := Lib.hid (below_join HB4.out hb5)
              clear hb5 HM hlt
              go_wp2_with fail
              refine ca.mono ?_
              rintro E w6 ⟨rfl, hb6⟩
              have HB6 := Lib.hid (below_join HB5.out hb6)
              clear ca hb6
              go_wp2_with fail
              go_ret
              exact ⟨rfl, HB6.out⟩

end Go.Proofs.YtokjhlmpegogcaaDoor
