/-
  PACKAGE match: lay; Merge. And the library's Grow of a list of rows.
-/
import Derived.Test.YtghonbnmakggnaaDoorMtlM
import Derived.Test.YtghonbnmakggnaaDoorClrM
import Derived.Lib.AppendZeros
import Derived.WalkKit
import Derived.WalkSpells
namespace Go.Proofs.YtghonbnmakggnaaDoor
open Go.RowKit Go.Sort
set_option maxHeartbeats 3200000

/-- a list of rows cut to none, of the call's own or nil -/
def Bare (base : Nat) (w : World) (v : Value) : Prop := w.ownsRow base 48 1 v 0 []
/-- what Grow tells -/
def Grown13 (base n : Nat) (v : Value) (w : World) (E : Ending) (w' : World) : Prop :=
  ∃ A c, E = .returned (.slice A 0 c) ∧ w'.ownsRow base 48 1 (.slice A 0 c) 0 [] ∧ n ≤ c ∧ Below w.heap.size w w' ∧ ((Value.slice A 0 c).ownBlock = v.ownBlock ∨ ∃ g, (Value.slice A 0 c).ownBlock = some g ∧ w.heap.size ≤ g)
theorem bare_grow {w : World} {A : Option Addr} {c base : Nat} (h : w.ownsRow base 48 1 (.slice A 0 c) 0 []) :
    ∃ olds : List Value, olds.length = c ∧ (Builtin.firstCells 1 c (.slice A c c)).run Tryd.prog w.drew = .ok olds.toArray w.drew := by
  rcases h.2 with ⟨hv, _⟩ | ⟨g, cap, cur, hv, hb, hg, _, hm, hs, _⟩
  · cases hv
    exact ⟨[], rfl, run_firstCells_none w.drew 1 0 0 0⟩
  · cases hv
    refine ⟨cur.toList, by simpa using hs, run_firstCells_some (P := Tryd.prog) w.drew 1 c ⟨g, 0, none⟩ c c cur.toList (by simpa using hs) fun j u hj => ?_⟩
    have e : ((⟨g, 0, none⟩ : Addr).add j) = ⟨g, j, none⟩ := by
      unfold Addr.add
      split <;> simp_all
    rw [e]
    show w.cell? _ = _
    unfold World.cell?
    simp only [hg]
    simpa using hj
set_option maxRecDepth 100000 in
theorem growr_any (base n c : Nat) (A : Option Addr) (w : World) (hn : n ≤ 1000) (hown : w.ownsRow base 48 1 (.slice A 0 c) 0 []) (hbase : base ≤ w.heap.size) :
    Calls Tryd.prog 66 #[.slice A 0 c, .int .i64 (n : Int)] w (Grown13 base n (.slice A 0 c) w) := by
  obtain ⟨i0, hi, hz0, hz1, hz2⟩ := info_parts Tryd.infoRow13
  have hcm : c ≤ maxLen := by
    rcases hown.2 with ⟨hv, _⟩ | ⟨g, cap, cur, hv, hb, hg, _, hm, hs, _⟩
    · cases hv; unfold maxLen; omega
    · cases hv; exact hm
  have hc63 : c ≤ 9223372036854775807 := by unfold maxLen at hcm; omega
  have h1 : ¬ ((n : Int) < 0) := by omega
  have h2 : wrap64 ((c : Int) - (0 : Int)) = (c : Int) := by unfold wrap64; omega
  have h3 : wrap64 ((n : Int) - (c : Int)) = (n : Int) - (c : Int) := by unfold wrap64; omega
  by_cases hroom : n ≤ c
  · have h4 : ¬ ((n : Int) - (c : Int) > 0) := by omega
    have HO := Lib.hid hown
    clear hown
    go_enter Tryd.func66, Tryd.ntmps66
    go_wp2_with fail
    go_ret
    exact ⟨A, c, rfl, HO.out, hroom, Below.refl _ _, .inl rfl⟩
  · have h4 : ((n : Int) - (c : Int) > 0) := by omega
    obtain ⟨olds, hol, hold⟩ := bare_grow hown
    have hck : c + (n - c) = n := by omega
    have hr : ∀ ty, (Builtin.append_ #[25, 3] ty #[.slice A c c, .int .i64 ((n : Int) - (c : Int))]).run Tryd.prog w =
        .ok (.slice (some ⟨w.heap.size, 0, none⟩) n (grownCap w n c 48)) (w.drew.alloc (.cells (olds.toArray ++ Builtin.zeroCells (.slice none 0 0 : Value).cells (n - c) ++ Builtin.zeroCells (.slice none 0 0 : Value).cells (grownCap w n c 48 - n)) 48)) := fun ty => by
      have h := Lib.run_append_grow_zeros (P := Tryd.prog) w 25 3 ty 48 i0 (.slice none 0 0) .i64 .i64 Tryd.underlying25 Tryd.underlying3 hi hz0 A c c olds (by rw [hz1]; exact hold) (n - c) (by omega) (by rw [hz1]; decide) (by omega) (by omega) (by rw [hz2]; omega)
        (by rw [hck]; exact growslice_fits (by omega) (by rw [hz2]; omega))
      rw [hck] at h
      rw [show (n : Int) - (c : Int) = ((n - c : Nat) : Int) by omega]
      exact h
    obtain ⟨G, hG⟩ : ∃ G, G = grownCap w n c 48 := ⟨_, rfl⟩
    have hG1 : G ≤ maxLen := by rw [hG]; exact grownCap_le_maxLen w n c _ (by unfold maxLen; omega)
    have hG2 : n ≤ G := by rw [hG]; exact grownCap_ge w _ _ _
    have hG3 : G ≤ 9223372036854775807 := by unfold maxLen at hG1; omega
    rw [← hG] at hr
    obtain ⟨cur, hcur⟩ : ∃ cur, cur = olds.toArray ++ Builtin.zeroCells (.slice none 0 0 : Value).cells (n - c) ++ Builtin.zeroCells (.slice none 0 0 : Value).cells (G - n) := ⟨_, rfl⟩
    have hcs : cur.size = G * 1 := by
      rw [hcur, Array.size_append, Array.size_append, size_zeroCells, size_zeroCells, show (.slice none 0 0 : Value).cells.size = 1 from rfl, List.size_toArray, hol]; omega
    rw [← hcur] at hr
    clear hcur hG hold hck
    have how := Lib.hid (World.ownsRow_made (base := base) (size := 1) (e := 48) w.drew cur G hbase hG1 hcs)
    have hbw := Lib.hid (show Below w.heap.size w (w.drew.alloc (.cells cur 48)) from ((Below.refl _ w).drew).alloc (Nat.le_refl _) _)
    have HO := Lib.hid hown
    clear hown hroom
    go_enter Tryd.func66, Tryd.ntmps66
    go_wp2_with (first | (at_builtin; refine Lib.wpList_append_run _ rfl _ _ _ _ rfl _ _ rfl rfl _ _ (hr _) ?_))
    all_goals (go_ret; exact ⟨_, G, rfl, how.out, hG2, hbw.out, .inr ⟨w.heap.size, rfl, Nat.le_refl _⟩⟩)
theorem bare_of {w : World} {base n : Nat} {v : Value} {xs : List Value} (h : w.ownsRow base 48 1 v n xs) :
    ∃ A c, v = .slice A n c ∧ n ≤ c ∧ c ≤ maxLen ∧ w.ownsRow base 48 1 (.slice A 0 c) 0 [] ∧ (A = none → n = 0 ∧ c = 0) := by
  rcases h.2 with ⟨rfl, rfl⟩ | ⟨g, cap, cur, rfl, hb, hg, hn, hm, hs, _⟩
  · exact ⟨none, 0, rfl, Nat.le_refl _, by unfold maxLen; omega, World.ownsRow_nil _ _ _ _, fun _ => ⟨rfl, rfl⟩⟩
  · exact ⟨_, cap, rfl, hn, hm, ⟨by simp, .inr ⟨g, cap, cur, rfl, hb, hg, Nat.zero_le _, hm, hs, by simp⟩⟩, fun h => by cases h⟩
theorem zero13 (i0 : TypeInfo) (hi : Tryd.prog.info? 48 = some i0) (hz : i0.zero = some (.slice none 0 0)) : ∀ w, (zeroValue 48).run Tryd.prog w = .ok (.slice none 0 0) w := fun w => by
  simp [zeroValue, typeInfo, hi, hz]
/-- what lay tells: a tuple in the room that there was, or in a new one; its rows where they lay -/
def Laid13 (T : Nat → Prop) (base : Nat) (tv : Value) (w : World) (m : List (List Vl)) (E : Ending) (w' : World) : Prop :=
  ∃ A c us, E = .returned (.slice A m.length c) ∧ w'.ownsRow base 48 1 (.slice A m.length c) m.length us ∧ (∀ (i : Nat) (r : List Vl), m[i]? = some r → ∃ u, us[i]? = some u ∧ RowOn T w u r) ∧ Keeps (fun k => tv.ownBlock ≠ some k) w w' ∧
    ((Value.slice A m.length c).ownBlock = tv.ownBlock ∨ ∃ g, (Value.slice A m.length c).ownBlock = some g ∧ w.heap.size ≤ g)
theorem bare_form {w : World} {base c : Nat} {G : Option Addr} (h : w.ownsRow base 48 1 (.slice G 0 c) 0 []) :
    (G = none ∧ c = 0) ∨ ∃ g cl, G = some ⟨g, 0, none⟩ ∧ base ≤ g ∧ c ≤ maxLen ∧ Lies w g 48 cl ∧ cl.length = c := by
  rcases h.2 with ⟨hv, _⟩ | ⟨g, cap, cur, hv, hb, hg, _, hm, hs, _⟩
  · cases hv; exact .inl ⟨rfl, rfl⟩
  · cases hv; exact .inr ⟨g, cur.toList, rfl, hb, hm, by simpa [Lies] using hg, by simpa using hs⟩
/-- the room's cells, k rows of a laid over those of b -/
def Part13 (T : Nat → Prop) (w : World) (a b : List (List Vl)) (L k : Nat) (cl : List Value) : Prop :=
  ∀ j, j < L → ∃ u, cl[j]? = some u ∧ RowOn T w u (if j < k then Mt.pick a b j else Mt.row b j)
theorem part_start {T : Nat → Prop} {w : World} {a b : List (List Vl)} {L : Nat} {cl vb : List Value} {bv : Value} (h : RwsIn T w bv vb b) :
    Part13 T w a b L 0 (splice (List.replicate L (.slice none 0 0) ++ cl.drop L) 0 vb) := by
  intro j hj
  rw [if_neg (by omega)]
  have hl := h.len
  by_cases hb : j < b.length
  · obtain ⟨u, hu, hr⟩ := h.row j _ (Mt.row_mem hb)
    refine ⟨u, ?_, hr⟩
    unfold splice
    rw [List.take_zero, List.nil_append, List.getElem?_append_left (by omega)]
    exact hu
  · refine ⟨.slice none 0 0, ?_, by rw [Mt.row_out (by omega)]; exact RowOn.nil T w⟩
    unfold splice
    rw [List.take_zero, List.nil_append, List.getElem?_append_right (by omega), List.getElem?_drop, List.getElem?_append_left (by simp; omega), List.getElem?_replicate, if_pos (by omega)]
theorem part_set {T : Nat → Prop} {w : World} {a b : List (List Vl)} {L k : Nat} {cl : List Value} {u : Value} (h : Part13 T w a b L k cl) (hl : L ≤ cl.length) (hr : RowOn T w u (Mt.row a k)) (hne : ¬ (Mt.row a k).length = 0) :
    Part13 T w a b L (k + 1) (cl.set k u) := by
  intro j hj
  by_cases e : j = k
  · subst e
    refine ⟨u, by rw [List.getElem?_set_self (by omega)], ?_⟩
    rw [if_pos (by omega)]
    unfold Mt.pick
    rw [if_neg hne]
    exact hr
  · obtain ⟨u', h1, h2⟩ := h j hj
    refine ⟨u', by rw [List.getElem?_set_ne (by omega)]; exact h1, ?_⟩
    by_cases g : j < k
    · rw [if_pos (by omega)]; rw [if_pos g] at h2; exact h2
    · rw [if_neg (by omega)]; rw [if_neg g] at h2; exact h2
theorem part_skip {T : Nat → Prop} {w : World} {a b : List (List Vl)} {L k : Nat} {cl : List Value} (h : Part13 T w a b L k cl) (he : (Mt.row a k).length = 0) : Part13 T w a b L (k + 1) cl := by
  intro j hj
  obtain ⟨u', h1, h2⟩ := h j hj
  refine ⟨u', h1, ?_⟩
  by_cases e : j = k
  · subst e
    rw [if_neg (by omega)] at h2
    rw [if_pos (by omega)]
    unfold Mt.pick
    rw [if_pos he]
    exact h2
  · by_cases g : j < k
    · rw [if_pos (by omega)]; rw [if_pos g] at h2; exact h2
    · rw [if_neg (by omega)]; rw [if_neg g] at h2; exact h2
theorem keeps_into {S : Nat → Prop} {w w1 w2 : World} {g : Nat} (h : Keeps S w w1) (k : Keeps (fun k => k ≠ g) w1 w2) (hg : ∀ k, k < w.heap.size → S k → k ≠ g) : Keeps S w w2 :=
  ⟨k.os.trans h.os, k.tape.trans h.tape, k.output.trans h.output, Nat.le_trans h.size k.size, fun j hj hs => (k.same j (Nat.lt_of_lt_of_le hj h.size) (hg j hj hs)).trans (h.same j hj hs)⟩
theorem laid_end {T : Nat → Prop} {base g c L : Nat} {tv : Value} {w wr : World} {a b : List (List Vl)} {cl : List Value} (hl : Lies wr g 48 cl) (hc : cl.length = c) (hcm : c ≤ maxLen) (hb : base ≤ g) (hL : L ≤ c) (hp : Part13 T w a b L a.length cl) (hk : Keeps (fun k => tv.ownBlock ≠ some k) w wr)
    (hm : (Mt.merge a b).length = L) (hw : tv.ownBlock = some g ∨ w.heap.size ≤ g) :
    Laid13 T base tv w (Mt.merge a b) (.returned (.slice (some ⟨g, 0, none⟩) L c)) wr := by
  refine ⟨_, c, cl.take L, by rw [hm], ⟨?_, .inr ⟨g, c, cl.toArray, rfl, hb, hl, by rw [hm]; exact hL, hcm, by simpa using hc, by rw [hm, Nat.mul_one]⟩⟩, fun i r hi => ?_, hk, hw.imp (fun h => h.symm) fun h => ⟨g, rfl, h⟩⟩
  · rw [hm, List.length_take]; omega
  · have hi2 : i < L := by rw [← hm]; exact (List.getElem?_eq_some_iff.1 hi).1
    obtain ⟨u, h1, h2⟩ := hp i hi2
    rw [Mt.merge_at a b (by rw [← Mt.merge_length, hm]; exact hi2)] at hi
    cases hi
    refine ⟨u, by rw [List.getElem?_take_of_lt hi2]; exact h1, ?_⟩
    by_cases e : i < a.length
    · rw [if_pos e] at h2; exact h2
    · rw [if_neg e] at h2
      unfold Mt.pick
      rw [Mt.row_out (show a.length ≤ i by omega)]
      exact h2
set_option maxRecDepth 100000 in
theorem lay_any (T : Nat → Prop) (base n0 : Nat) (tv av bv : Value) (xs : List Value) (a b : List (List Vl)) (w : World) (hown : w.ownsRow base 48 1 tv n0 xs) (hbase : base ≤ w.heap.size)
    (ha : RwsOn T w av a) (hb : RwsOn T w bv b) (hT : ∀ k, tv.ownBlock = some k → ¬ T k) (hla : a.length ≤ 1000) (hlb : b.length ≤ 1000) :
    Calls Tryd.prog 58 #[tv, av, bv] w (Laid13 T base tv w (Mt.merge a b)) := by
  obtain ⟨i0, hi, hz0, hz1, hz2⟩ := info_parts Tryd.infoRow13
  obtain ⟨A, c, rfl, hn0, hcm, hbare, hA⟩ := bare_of hown
  obtain ⟨A1, c1, rfl, _⟩ := ha.form
  obtain ⟨A2, c2, rfl, _⟩ := hb.form
  have ML := Mt.merge_length a b
  obtain ⟨n, hn⟩ : ∃ n, n = a.length := ⟨_, rfl⟩
  obtain ⟨m, hm⟩ : ∃ m, m = b.length := ⟨_, rfl⟩
  rw [← hn] at ha hla ML ⊢
  rw [← hm] at hb hlb ML ⊢
  have hc63 : c ≤ 9223372036854775807 := by unfold maxLen at hcm; omega
  have cg := growr_any base (max n m) c A w (by omega) hbare hbase
  have HA := Lib.hid ha
  have HB := Lib.hid hb
  have HT := Lib.hid hT
  have HN := Lib.hid (And.intro hn (And.intro hm ML))
  clear hn hm ML ha hb hT hown hbare hcm
  have hmx : max n m ≤ 1000 := by omega
  obtain ⟨L, hL⟩ : ∃ L, L = max n m := ⟨_, rfl⟩
  rw [← hL] at cg hmx
  rw [← hL] at HN
  have hnL : n ≤ L := by omega
  have hmL : m ≤ L := by omega
  have HA0 := Lib.hid hA
  have HAF := Lib.hid (And.intro hnL hmL)
  rcases (show (n < m ∧ L = m) ∨ (¬ n < m ∧ L = n) by omega) with ⟨hnm, hLe⟩ | ⟨hnm, hLe⟩
  all_goals
    first | subst m | subst n
    clear hL hnL hmL hA
    go_enter Tryd.func58, Tryd.ntmps58
    go_wp2_with fail
    refine cg.mono ?_
    rintro E w1 ⟨G, c3, rfl, hown1, hc3, hb1, hwh⟩
    clear cg
    rcases bare_form hown1 with ⟨rfl, rfl⟩ | ⟨g, cl, rfl, hbg, hcm1, hg, hcl⟩
    · have hL0 : L = 0 := by omega
      first
        | (exfalso; omega)
        | (obtain rfl : m = 0 := by have := HAF.out; omega
           have hres := Lib.hid (show Laid13 T base (.slice A n0 c) w (Mt.merge a b) (.returned (.slice none 0 0)) w1 from by
             have hml : (Mt.merge a b).length = 0 := by rw [HN.out.2.2, hL0]
             refine ⟨none, 0, [], by rw [hml], by rw [hml]; exact World.ownsRow_nil _ _ _ _, fun i r hi => ?_, keeps_all hb1, ?_⟩
             · rw [List.eq_nil_of_length_eq_zero hml] at hi; simp at hi
             · rcases hwh with h | ⟨g', h, hge⟩
               · exact .inl (by cases A <;> exact h)
               · cases h)
           have hcl := fun (ty : TypeId) (W : World) => (show (Builtin.clear_ #[25] ty #[.slice none 0 0]).run Tryd.prog W = .ok (.tuple #[]) W by simp [Builtin.clear_, run_underlying Tryd.underlying25])
           have hcp := fun (ty : TypeId) (W : World) => run_copy_none (P := Tryd.prog) W 25 25 ty 48 none A2 0 0 0 c2 Tryd.underlying25 (by rw [hi]; exact congrArg some hz1) rfl
           clear hwh hown1 HAF HN
           subst hL0
           go_wp2_with fail
           go_loopw [26] (fun i wr => i = .int .i64 0 ∧ w1 = wr) (fun _ _ => 0)
           case atStart => exact ⟨rfl, rfl⟩
           case round =>
             obtain ⟨rfl, rfl⟩ := hrel
             go_wp2_with fail
             go_ret
             exact hres.out)
    · have hc363 : c3 ≤ 9223372036854775807 := by unfold maxLen at hcm1; omega
      obtain ⟨vb, hvb⟩ := HB.out
      have HVB := Lib.hid hvb
      have HG := Lib.hid (And.intro hg hcl)
      have hwh2 : (Value.slice A n0 c).ownBlock = some g ∨ w.heap.size ≤ g := by
        rcases hwh with h | ⟨g', h, hge⟩
        · exact .inl (by cases A <;> exact h.symm)
        · change some g = some g' at h; cases h; exact .inr hge
      have HOWN := Lib.hid (And.intro hbg (And.intro hcm1 hwh2))
      have HB1 := Lib.hid hb1
      have hL3 : (L : Int) ≤ (c3 : Int) := by omega
      have hL3' : ¬ ((c3 : Int) < (L : Int)) := by omega
      clear hown1 hbg hg hcm1 hcl hvb hb1 hwh hwh2
      go_wp2_with (first
        | (refine wpList_clear_row _ rfl _ _ rfl 48 (.slice none 0 0) Tryd.underlying25 (zero13 i0 hi hz0) rfl rfl g L c3 rfl cl 48 HG.out.1 (by have := HG.out.2; omega) ?_))
      intro w2 hg2 hk2 _
      have hne : ∀ k, k < w.heap.size → (Value.slice A n0 c).ownBlock ≠ some k → k ≠ g := fun k hk hs e => by
        subst e
        rcases HOWN.out.2.2 with h | h
        · exact hs h
        · omega
      have HNE := Lib.hid hne
      have HK2 := Lib.hid (keeps_into (keeps_all (S := fun k => (Value.slice A n0 c).ownBlock ≠ some k) HB1.out) hk2 hne)
      have hvb2 := HVB.out.keep HK2.out fun k _ h e => HT.out k e h
      have HVB2 := Lib.hid hvb2
      have HG2 := Lib.hid hg2
      clear hg2 hk2 hvb2 hne
      have hlen2 : (List.replicate L (Value.slice none 0 0) ++ cl.drop L).length = c3 := by
        rw [List.length_append, List.length_replicate, List.length_drop]; have := HG.out.2; omega
      have HL2 := Lib.hid hlen2
      clear hlen2
      go_wp2_with (first
        | (refine wpList_copy_any _ rfl _ _ _ _ rfl 48 1 Tryd.underlying25 (by rw [hi]; exact congrArg some hz1) (some ⟨g, 0, none⟩) A2 L c3 L c2 rfl rfl g 0 _ 48 HG2.out b.length (by have := HAF.out; have := HN.out.2.1; show _ = min _ _; omega) vb (by have := HVB.out.len; have := HN.out.2.1; omega) (fun h0 => ⟨rfl, HVB2.out.sl.src h0⟩) (by decide) (by have := HL2.out; have := HAF.out; have := HVB.out.len; have := HN.out.2.1; omega) HVB.out.ones ?_)
        | (refine wpList_copy_any _ rfl _ _ _ _ rfl 48 1 Tryd.underlying25 (by rw [hi]; exact congrArg some hz1) (some ⟨g, 0, none⟩) A2 L c3 m c2 rfl rfl g 0 _ 48 HG2.out b.length (by have := HAF.out; have := HN.out.2.1; show _ = min _ _; omega) vb (by have := HVB.out.len; have := HN.out.2.1; omega) (fun h0 => ⟨rfl, HVB2.out.sl.src h0⟩) (by decide) (by have := HL2.out; have := HAF.out; have := HVB.out.len; have := HN.out.2.1; omega) HVB.out.ones ?_))
      intro w3 hg3 hk3 _
      have HK3 := Lib.hid (keeps_into HK2.out hk3 HNE.out)
      have hlen3 := length_splice _ 0 vb (show 0 + vb.length ≤ (List.replicate L (Value.slice none 0 0) ++ cl.drop L).length by have := HL2.out; have := HAF.out; have := HVB.out.len; have := HN.out.2.1; omega)
      have hp3 := part_start (a := a) (cl := cl) (L := L) HVB.out
      obtain ⟨c0, hc0⟩ : ∃ l, l = splice (List.replicate L (Value.slice none 0 0) ++ cl.drop L) 0 vb := ⟨_, rfl⟩
      rw [← hc0] at hg3 hlen3 hp3
      have HS := Lib.hid (show Lies w3 g 48 c0 ∧ c0.length = c3 ∧ Part13 T w a b L 0 c0 from ⟨hg3, by rw [hlen3]; exact HL2.out, hp3⟩)
      clear hg3 hk3 hlen3 hp3 hc0 HL2 HG2 HVB2 HK2 HG
      go_wp2_with fail
      go_loopw [26] (fun i wr => ∃ (k : Nat) (cl : List Value), k ≤ a.length ∧ k ≤ 1000 ∧ i = .int .i64 k ∧ Hid (Lies wr g 48 cl ∧ cl.length = c3 ∧ Part13 T w a b L k cl) ∧ Hid (Keeps (fun k => (Value.slice A n0 c).ownBlock ≠ some k) w wr)) (fun i _ => 1000 - (intOf i).toNat)
      case atStart => exact ⟨0, c0, by omega, by omega, rfl, HS, HK3⟩
      case round =>
        obtain ⟨k, cl', hkl, hk1, rfl, HC, HK⟩ := hrel
        by_cases hlt : k < a.length
        · have hk2 : k < 1000 := by have := HN.out.1; omega
          obtain ⟨b1, o1, p1, B1, d1, rfl, _, y0, hrow⟩ := HA.out.at_keep HK.out (fun k h e => HT.out k e h) (Mt.row_mem hlt)
          have i1 : (0 : Int) ≤ (k : Int) := by omega
          try have i2 : (k : Int) < (n : Int) := by have := HN.out.1; omega
          have i3 : (k : Int) < (L : Int) := by have := HN.out.1; have := HAF.out; omega
          have hkc : k < c3 := by omega
          obtain ⟨z1, y1⟩ : ∃ z, wr.cell? ⟨g, k, none⟩ = some z := ⟨_, HC.out.1.cell (i := k) (List.getElem?_eq_getElem (show k < cl'.length by rw [HC.out.2.1]; exact hkc))⟩
          have hk3 := Lib.hid (show k + 1 ≤ a.length by omega)
          have y2 := HC.out.1.free k
          obtain ⟨rl, hrl⟩ : ∃ n, n = (Mt.row a k).length := ⟨_, rfl⟩
          rw [← hrl] at y0 hrow
          have hset := HC.out.1.set k (.slice B1 rl d1)
          by_cases h0 : rl = 0
          · have hp2 := part_skip HC.out.2.2 (hrl.symm.trans h0)
            have HC2 := Lib.hid (And.intro HC.out.1 (And.intro HC.out.2.1 hp2))
            have i4 : ¬ ((rl : Int) > 0) := by omega
            clear hset hp2 hrow hrl h0 y1 y2 hlt hkc
            go_wp2_with fail
            go_roundw
            case rel => exact ⟨k + 1, _, hk3.out, by omega, by go_num, HC2, HK⟩
            case measure => simp [intOf]; omega
          · have hp2 := part_set HC.out.2.2 (by rw [HC.out.2.1]; exact hc3) hrow (by rw [← hrl]; exact h0)
            have HC2 := Lib.hid (show Lies (wr.setCell ⟨g, k, none⟩ (.slice B1 rl d1)) g 48 (cl'.set k (.slice B1 rl d1)) ∧ (cl'.set k (.slice B1 rl d1)).length = c3 ∧ _ from And.intro hset (And.intro (by rw [List.length_set]; exact HC.out.2.1) hp2))
            have HK2 := Lib.hid (keeps_into HK.out (keeps_setCell wr ⟨g, k, none⟩ (.slice B1 rl d1)) HNE.out)
            have i4 : (rl : Int) > 0 := by omega
            clear hset hp2 hrow hrl h0 hlt hkc
            go_wp2_with fail
            go_roundw
            case rel => exact ⟨k + 1, _, hk3.out, by omega, by go_num, HC2, HK2⟩
            case measure => simp [intOf]; omega
        · have hke : k = a.length := by omega
          have hres := Lib.hid (laid_end HC.out.1 HC.out.2.1 HOWN.out.2.1 HOWN.out.1 hc3 (by have h := HC.out.2.2; rw [hke] at h; exact h) HK.out HN.out.2.2 HOWN.out.2.2)
          first
            | have i2 : ¬ ((k : Int) < (n : Int)) := by have := HN.out.1; omega
            | have i2 : ¬ ((k : Int) < (L : Int)) := by have := HN.out.1; omega
          clear hke hlt
          go_wp2_with fail
          go_ret
          exact hres.out
/-- what Merge tells: a tuple in memory of its own -/
def MergedN (w : World) (t : List (List Vl)) (E : Ending) (w' : World) : Prop :=
  ∃ A c, E = .returned (.slice A t.length c) ∧ RwsOn (fun k => w.heap.size ≤ k) w' (.slice A t.length c) t ∧ Below w.heap.size w w'
/-- the first k rows cloned -/
structure Clo13 (T : Nat → Prop) (w w1 wr : World) (g c : Nat) (m : List (List Vl)) (k : Nat) (cl : List Value) : Prop where
  lies : Lies wr g 48 cl
  len : cl.length = c
  new : ∀ j, j < k → ∃ u, cl[j]? = some u ∧ RowOn (fun b => w1.heap.size ≤ b) wr u (Mt.row m j)
  old : ∀ j, k ≤ j → j < m.length → ∃ u, cl[j]? = some u ∧ RowOn T w u (Mt.row m j)
  kept : Keeps (fun b => b ≠ g) w1 wr
theorem clo_step {T : Nat → Prop} {w w1 wr w2 : World} {g c k : Nat} {m : List (List Vl)} {cl : List Value} {u : Value} (h : Clo13 T w w1 wr g c m k cl) (hg : g < w1.heap.size) (hk : k < m.length) (hm : m.length ≤ c) (hb : Below wr.heap.size wr w2) (hu : RowOn (fun b => wr.heap.size ≤ b) w2 u (Mt.row m k)) :
    Clo13 T w w1 (w2.setCell ⟨g, k, none⟩ u) g c m (k + 1) (cl.set k u) := by
  have hs := h.kept.size
  have hl2 : Lies w2 g 48 cl := h.lies.below hb h.lies.lt
  have kp2 : Keeps (fun b => b ≠ g) w2 (w2.setCell ⟨g, k, none⟩ u) := keeps_setCell w2 ⟨g, k, none⟩ u
  refine ⟨hl2.set k u, by rw [List.length_set]; exact h.len, fun j hj => ?_, fun j hj hj2 => ?_, ?_⟩
  · by_cases e : j = k
    · subst e
      exact ⟨u, List.getElem?_set_self (by rw [h.len]; omega), (hu.keep kp2 fun b _ hb2 e2 => by omega).mono fun b _ hb2 => by omega⟩
    · obtain ⟨u', h1, h2⟩ := h.new j (by omega)
      exact ⟨u', by rw [List.getElem?_set_ne (by omega)]; exact h1, (h2.below hb (Nat.le_refl _)).keep kp2 fun b _ hb2 e2 => by omega⟩
  · obtain ⟨u', h1, h2⟩ := h.old j (by omega) hj2
    exact ⟨u', by rw [List.getElem?_set_ne (by omega)]; exact h1, h2⟩
  · exact (h.kept.trans (keeps_all hb)).trans kp2
set_option maxRecDepth 100000 in
theorem merge_any (T : Nat → Prop) (av bv : Value) (a b : List (List Vl)) (w : World) (ha : RwsOn T w av a) (hb : RwsOn T w bv b) (hla : a.length ≤ 1000) (hlb : b.length ≤ 1000) (ha2 : ∀ x ∈ a, x.length ≤ 1000000) (hb2 : ∀ x ∈ b, x.length ≤ 1000000) :
    Calls Tryd.prog 55 #[av, bv] w (MergedN w (Mt.merge a b)) := by
  have cl := lay_any T w.heap.size 0 (.slice none 0 0) av bv [] a b w (World.ownsRow_nil _ _ _ _) (Nat.le_refl _) ha hb (fun k h => by cases h) hla hlb
  have hml := Mt.merge_length a b
  have hmm := Mt.merge_mem ha2 hb2
  obtain ⟨A1, c1, rfl, _⟩ := ha.form
  obtain ⟨A2, c2, rfl, _⟩ := hb.form
  obtain ⟨m, hm⟩ : ∃ m, m = Mt.merge a b := ⟨_, rfl⟩
  rw [← hm] at cl hml hmm ⊢
  have hm1 : m.length ≤ 1000 := by omega
  clear hm hml ha hb ha2 hb2
  generalize a.length = la at *
  generalize b.length = lb at *
  go_enter Tryd.func55, Tryd.ntmps55
  go_wp2_with fail
  refine cl.mono ?_
  rintro E w1 ⟨G, c, us, rfl, hown, hus, hk1, _⟩
  clear cl
  have hb1 : Below w.heap.size w w1 := ⟨hk1.os, hk1.tape, hk1.output, hk1.size, fun k hk => hk1.same k hk (by simp [Value.ownBlock])⟩
  have hul := hown.1
  rcases hown.2 with ⟨hv, h0⟩ | ⟨g, cap, cur, hv, hbg, hg, hn1, hcm, hcs, htk⟩
  · obtain ⟨rfl, rfl⟩ : G = none ∧ c = 0 := by injection hv with e1 _ e3; exact ⟨e1, e3⟩
    have hm0 := List.eq_nil_of_length_eq_zero h0
    subst hm0
    have hres := Lib.hid (show MergedN w [] (.returned (.slice none 0 0)) w1 from ⟨none, 0, rfl, RwsOn.nil _ _, hb1⟩)
    clear hown hus hk1 hb1 hul hv h0 hmm
    go_wp2_with fail
    go_loopw [13] (fun i wr => i = .int .i64 0 ∧ w1 = wr) (fun _ _ => 0)
    case atStart => exact ⟨rfl, rfl⟩
    case round =>
      obtain ⟨rfl, rfl⟩ := hrel
      go_wp2_with fail
      go_ret
      exact hres.out
  · obtain ⟨rfl, rfl⟩ : G = some ⟨g, 0, none⟩ ∧ c = cap := by cases hv; exact ⟨rfl, rfl⟩
    have hcur : ∀ j, j < m.length → cur.toList[j]? = us[j]? := fun j hj => by rw [← htk, List.getElem?_take_of_lt (by omega)]
    have hst : Clo13 T w w1 w1 g c m 0 cur.toList := ⟨by simpa [Lies] using hg, by simpa using hcs, fun j hj => by omega, fun j _ hj => by
      obtain ⟨u, h1, h2⟩ := hus j _ (Mt.row_mem hj)
      exact ⟨u, by rw [hcur j hj]; exact h1, h2⟩, Keeps.refl _ _⟩
    obtain ⟨c0, hc0⟩ : ∃ c0, c0 = cur.toList := ⟨_, rfl⟩
    rw [← hc0] at hst
    have hglt : g < w1.heap.size := (Array.getElem?_eq_some_iff.1 hg).1
    have HST := Lib.hid hst
    have HM := Lib.hid hmm
    have HB1 := Lib.hid hb1
    have hlc : m.length ≤ c := hn1
    have hc63 : c ≤ 9223372036854775807 := by unfold maxLen at hcm; omega
    obtain ⟨L, hL⟩ : ∃ n, n = m.length := ⟨_, rfl⟩
    rw [← hL] at hm1 hlc ⊢
    have HL := Lib.hid hL
    have HBG := Lib.hid hbg
    clear hbg hst hg hv hown hus hcur htk hcs hn1 hcm hk1 hb1 hmm hul hc0 hL cur
    go_wp2_with fail
    go_loopw [13] (fun i wr => ∃ (k : Nat) (cl : List Value), k ≤ L ∧ i = .int .i64 k ∧ Hid (Clo13 T w w1 wr g c m k cl)) (fun i _ => L - (intOf i).toNat)
    case atStart => exact ⟨0, c0, by omega, rfl, HST⟩
    case round =>
      obtain ⟨k, cl', hk, rfl, HC⟩ := hrel
      by_cases hlt : k < L
      · obtain ⟨u, hcu, hru⟩ := HC.out.old k (Nat.le_refl _) (by rw [← HL.out]; exact hlt)
        obtain ⟨B, d, rfl, hd⟩ := hru.form
        have hru2 := (((hru.mono (S := fun k => k < w.heap.size) fun _ h _ => h).below HB1.out (Nat.le_refl _)).keep HC.out.kept fun b _ h e => by have := HBG.out; omega).at_
        have hrl : (Mt.row m k).length ≤ 1000000 := HM.out _ (List.mem_of_getElem? (Mt.row_mem (by rw [← HL.out]; exact hlt)))
        have cc := clone_any _ (Mt.row m k) wr hru2 hrl
        have i1 : (0 : Int) ≤ (k : Int) := by omega
        have i2 : (k : Int) < (L : Int) := by omega
        have hkc : k < c := by omega
        have y1 := HC.out.lies.cell (i := k) hcu
        have HKL := Lib.hid (show k < m.length by rw [← HL.out]; exact hlt)
        have hglr := HC.out.lies.lt
        obtain ⟨rl, hrl'⟩ : ∃ n, n = (Mt.row m k).length := ⟨_, rfl⟩
        rw [← hrl'] at y1 cc
        clear hcu hru hru2 hrl hrl'
        go_wp2_with fail
        refine cc.mono ?_
        rintro E w2 ⟨A3, d3, rfl, hr3, hb3⟩
        have HN3 := Lib.hid (clo_step HC.out hglt HKL.out (by rw [← HL.out]; exact hlc) hb3 hr3)
        have y2 := (HC.out.lies.below hb3 hglr).cell (i := k) (List.getElem?_eq_getElem (show k < cl'.length by rw [HC.out.len]; exact hkc))
        obtain ⟨z2, y2⟩ : ∃ z, w2.cell? ⟨g, k, none⟩ = some z := ⟨_, y2⟩
        have y3 := (HC.out.lies.below hb3 hglr).free k
        obtain ⟨rl2, hrl2⟩ : ∃ n, n = (Mt.row m k).length := ⟨_, rfl⟩
        rw [← hrl2] at HN3 ⊢
        clear cc y1 hb3 hr3 hrl2 hglr
        go_wp2_with fail
        go_roundw
        case rel => exact ⟨k + 1, _, by omega, by go_num, HN3⟩
        case measure => simp [intOf]; omega
      · have hkL : k = L := by omega
        have hres := Lib.hid (show MergedN w m (.returned (.slice (some ⟨g, 0, none⟩) L c)) wr from by
          have HCo := HC.out
          have hs := HCo.kept.size
          have hs1 := HB1.out.size
          refine ⟨_, c, by rw [← HL.out], ?_, ?_⟩
          · rw [← HL.out]
            refine ⟨cl'.take L, ⟨_, c, by rw [List.length_take, HCo.len]; congr 1; omega, by rw [List.length_take, HCo.len]; omega, fun j u hj => ?_⟩, by rw [List.length_take, HCo.len, ← HL.out]; omega, fun j r hj => ?_⟩
            · have hj2 : j < L := by have := (List.getElem?_eq_some_iff.1 hj).1; rw [List.length_take] at this; omega
              rw [List.getElem?_take_of_lt hj2] at hj
              refine ⟨g, 0, none, rfl, HBG.out, HCo.lies.lt, ?_⟩
              have e : ((⟨g, 0, none⟩ : Addr).add j) = ⟨g, j, none⟩ := by
                unfold Addr.add
                split <;> simp_all
              rw [e]
              exact HCo.lies.cell hj
            · have hj2 : j < L := by rw [HL.out]; exact (List.getElem?_eq_some_iff.1 hj).1
              obtain ⟨u, h1, h2⟩ := HCo.new j (by omega)
              rw [Mt.row_at hj] at h2
              exact ⟨u, by rw [List.getElem?_take_of_lt hj2]; exact h1, h2.mono fun b _ h => by omega⟩
          · exact HB1.out.trans (HCo.kept.below hs1 fun b hb e => by have := HBG.out; omega))
        have i2 : ¬ ((k : Int) < (L : Int)) := by omega
        clear hkL hlt
        go_wp2_with fail
        go_ret
        exact hres.out
end Go.Proofs.YtghonbnmakggnaaDoor
