/-
  THE READER OF PREDICATES: several of them, one behind the other.
-/
import Derived.Test.YteimbdklakemaaaGreatDoorTxmM
namespace Go.Proofs.YteimbdklakemaaaGreatDoor
open Go.RowKit Go.Sort
set_option maxHeartbeats 3200000

namespace Tx
/-- what is told behind out, at j -/
def after (tk : Nat → Got Pd) (l : List Int) (r : Nat) (out : List Pd) (j : Nat) : Got (List Pd) :=
  if at_ l j = 41 then ⟨out, j + 1, 0⟩ else if at_ l j ≠ 59 then ⟨[], j, 1⟩ else parts tk l r out (j + 1)
theorem parts_succ (tk : Nat → Got Pd) (l : List Int) (r : Nat) (out : List Pd) (i : Nat) : parts tk l (r + 1) out i = if (tk i).e ≠ 0 then ⟨[], (tk i).i, (tk i).e⟩ else after tk l r (out ++ [(tk i).x]) (tk i).i := by
  rw [parts]; rfl
/-- in the loop: out is read, m predicates, and the place is j -/
def LPost (tk : Nat → Got Pd) (l : List Int) (i : Nat) (e : Int) (out : List Pd) (m j : Nat) (e' : Int) : Prop :=
  (e ≠ 0 → j = i ∧ e' = e) ∧ (e = 0 → (e' ≠ 0 → (parts tk l 4 [] i).i = j ∧ (parts tk l 4 [] i).e = e') ∧ (e' = 0 → m ≤ 4 ∧ parts tk l 4 [] i = after tk l (4 - m) out j))
def PartsPost (tk : Nat → Got Pd) (l : List Int) (i : Nat) (e : Int) (ps : List Pd) (j : Nat) (e' : Int) : Prop :=
  (e ≠ 0 → j = i ∧ e' = e) ∧ (e = 0 → ∃ i2 e2, (i2, e2) = passS l 41 j e' ∧ i2 = (parts tk l 4 [] i).i ∧ e2 = (parts tk l 4 [] i).e ∧ (e2 = 0 → ps = (parts tk l 4 [] i).x))
theorem lpost_first {tk : Nat → Got Pd} {l : List Int} {i j : Nat} {e e' : Int} {p : Pd} (h : Step (tk i) i e p j e') : LPost tk l i e [p] 1 j e' := by
  refine ⟨h.1, fun he => ?_⟩
  obtain ⟨rfl, rfl, hx⟩ := h.2 he
  rw [parts_succ tk l 3 [] i]
  constructor
  · intro hne
    rw [if_pos hne]
    exact ⟨rfl, rfl⟩
  · intro h0
    rw [if_neg (fun g => g h0), hx h0]
    exact ⟨by decide, rfl⟩
theorem lpost_full {tk : Nat → Got Pd} {l : List Int} {i j j1 j2 : Nat} {e e1 e2 : Int} {out : List Pd} {p : Pd} (h : LPost tk l i e out 4 j 0) (h59 : at_ l j = 59) (h1 : (j1, e1) = failS (j + 1) 0 (j + 1) 2) (h2 : Step (tk j1) j1 e1 p j2 e2) : LPost tk l i e (out ++ [p]) 5 j2 e2 := by
  rw [failS, if_pos rfl] at h1
  obtain ⟨rfl, rfl⟩ := pair_eq h1
  obtain ⟨rfl, rfl⟩ := h2.1 (by decide)
  have he : e = 0 := by
    by_cases he : e = 0
    · exact he
    · exact absurd (h.1 he).2.symm he
  refine ⟨fun g => absurd he g, fun _ => ⟨fun _ => ?_, fun g => absurd g (by decide)⟩⟩
  obtain ⟨_, hG⟩ := (h.2 he).2 rfl
  rw [hG, after, if_neg (by rw [h59]; decide), if_neg (by rw [h59]; decide)]
  exact ⟨rfl, rfl⟩
theorem lpost_on {tk : Nat → Got Pd} {l : List Int} {i j j2 m : Nat} {e e2 : Int} {out : List Pd} {p : Pd} (h : LPost tk l i e out m j 0) (hm : m < 4) (h59 : at_ l j = 59) (h2 : Step (tk (j + 1)) (j + 1) 0 p j2 e2) : LPost tk l i e (out ++ [p]) (m + 1) j2 e2 := by
  have he : e = 0 := by
    by_cases he : e = 0
    · exact he
    · exact absurd (h.1 he).2.symm he
  refine ⟨fun g => absurd he g, fun _ => ?_⟩
  obtain ⟨_, hG⟩ := (h.2 he).2 rfl
  obtain ⟨r, hr⟩ : ∃ r, 4 - m = r + 1 := ⟨3 - m, by omega⟩
  rw [hG, after, if_neg (by rw [h59]; decide), if_neg (by rw [h59]; decide), hr, parts_succ]
  obtain ⟨rfl, rfl, hx⟩ := h2.2 rfl
  constructor
  · intro hne
    rw [if_pos hne]
    exact ⟨rfl, rfl⟩
  · intro h0
    rw [if_neg (fun g => g h0), hx h0]
    have : 4 - (m + 1) = r := by omega
    rw [this]
    exact ⟨by omega, rfl⟩
theorem lpost_end {tk : Nat → Got Pd} {l : List Int} {i j m : Nat} {e e' : Int} {out : List Pd} (h : LPost tk l i e out m j e') (hB : false = (nextS l j e' == 59)) : PartsPost tk l i e out j e' := by
  refine ⟨h.1, fun he => ?_⟩
  by_cases h0 : e' = 0
  · subst h0
    obtain ⟨_, hG⟩ := (h.2 he).2 rfl
    rw [nextS, if_pos rfl] at hB
    have h59 : at_ l j ≠ 59 := by simpa using hB.symm
    rw [hG, after]
    by_cases h41 : at_ l j = 41
    · rw [if_pos h41]
      exact ⟨j + 1, 0, by rw [passS, if_neg (by simp), if_pos h41], rfl, rfl, fun _ => rfl⟩
    · rw [if_neg h41, if_pos h59]
      exact ⟨j, 1, by rw [passS, if_neg (by simp), if_neg h41], rfl, rfl, fun g => absurd g (by decide)⟩
  · obtain ⟨g1, g2⟩ := (h.2 he).1 h0
    exact ⟨j, e', by rw [passS, if_pos h0], g1.symm, g2.symm, fun g => absurd g h0⟩
end Tx
def lenV : Value → Nat | .slice _ n _ => n | _ => 0
theorem own_len {w : World} {base s n : Nat} {e : TypeId} {v : Value} {xs : List Value} (h : w.ownsRow base e s v n xs) : lenV v = n := by
  rcases h.2 with ⟨rfl, rfl⟩ | ⟨g, cap, cur, rfl, _⟩
  · rfl
  · rfl
theorem own_form {w : World} {base s n : Nat} {e : TypeId} {v : Value} {xs : List Value} (h : w.ownsRow base e s v n xs) (hn : 1 ≤ n) : ∃ g cap, v = .slice (some ⟨g, 0, none⟩) n cap ∧ base ≤ g := by
  rcases h.2 with ⟨_, rfl⟩ | ⟨g, cap, cur, rfl, hb, _⟩
  · omega
  · exact ⟨g, cap, rfl, hb⟩
theorem own_gw {w w' : World} {base s n R : Nat} {e : TypeId} {v : Value} {xs : List Value} (h : w.ownsRow base e s v n xs) (hg : Gw R w w') (hR : R < base) : w'.ownsRow base e s v n xs := by
  refine ⟨h.1, ?_⟩
  rcases h.2 with h1 | ⟨g, cap, cur, hv, hb, hg2, h1⟩
  · exact .inl h1
  · exact .inr ⟨g, cap, cur, hv, hb, (hg.block g (Array.getElem?_eq_some_iff.1 hg2).1 (by intro e; cases e; omega)).trans hg2, h1⟩
theorem Rd.grown {w0 w w' : World} {R b c n i : Nat} {e : Int} {row : Option Nat} (h : Rd w0 w R b c n i e) (hg : w.grownBy w' row) (hr : ∀ g, row = some g → R < g) : Rd w0 w' R b c n i e := by
  have key : ∀ k, k ≤ R → w'.heap[k]? = w.heap[k]? := fun k hk => hg.block k (by have := h.lt; omega) (by intro e; have := hr k e.symm; omega)
  exact ⟨(key R (Nat.le_refl _)).trans h.lies, h.base.trans ⟨hg.os, hg.tape, hg.output, hg.size, fun k hk => key k (Nat.le_of_lt hk)⟩⟩
theorem Gw.grown {w w' w'' : World} {R : Nat} {row : Option Nat} (h : Gw R w w') (hg : w'.grownBy w'' row) (hr : ∀ g, row = some g → w.heap.size ≤ g) : Gw R w w'' :=
  ⟨hg.os.trans h.os, hg.tape.trans h.tape, hg.output.trans h.output, Nat.le_trans h.size hg.size, fun k hk hne => (hg.block k (Nat.lt_of_lt_of_le hk h.size) (by intro e; have := hr k e.symm; omega)).trans (h.block k hk hne)⟩
theorem own_block {w : World} {base s n : Nat} {e : TypeId} {v : Value} {xs : List Value} (h : w.ownsRow base e s v n xs) : ∀ g, v.ownBlock = some g → base ≤ g ∧ g < w.heap.size := h.lt
/-- the blocks of what is kept beside a row -/
abbrev Aside (lo : Nat) (v : Value) : Nat → Prop := fun q => lo ≤ q ∧ some q ≠ v.ownBlock

/-- what pred tells, k deep at most -/
abbrev PredAt (w0 : World) (R b c : Nat) (l : List Int) (k : Nat) : Prop := ∀ (i : Nat) (e : Int) (w : World), Rd w0 w R b c l.length i e → i ≤ l.length →
  Calls Tryz.prog 72 #[.pointer (some ⟨R, 0, none⟩), .int .i64 (5 - (k : Int))] w (Got1 w0 R b c l k w (Tx.take l k i) i e)
theorem take_step_le {l : List Int} {k i i' : Nat} {e e' : Int} {x : Pd} (h : Tx.Step (Tx.take l k i) i e x i' e') (hi : i ≤ l.length) : i' ≤ l.length := step_le h hi (Tx.take_le l k i hi)
set_option maxRecDepth 100000 in
theorem rparts_at {w0 : World} {R b c : Nat} {l : List Int} (hs : Src w0 R b c l) (k : Nat) (dp : Int) (IH2 : ∀ (i : Nat) (e : Int) (w : World), Rd w0 w R b c l.length i e → i ≤ l.length → Calls Tryz.prog 72 #[.pointer (some ⟨R, 0, none⟩), .int .i64 dp] w (Got1 w0 R b c l k w (Tx.take l k i) i e)) (i : Nat) (e : Int) (w : World) (h : Rd w0 w R b c l.length i e) (hi : i ≤ l.length) :
    Calls Tryz.prog 98 #[.pointer (some ⟨R, 0, none⟩), .int .i64 dp] w fun E w' => ∃ (A : Option Addr) (m kk : Nat) (ps : List Pd) (j : Nat) (e' : Int),
      E = .returned (.slice A m kk) ∧ Hid (Tx.PartsPost (Tx.take l k) l i e ps j e') ∧ Hid (e' = 0 → PsIn w.heap.size (k + 1) w' (.slice A m kk) ps) ∧ j ≤ l.length ∧ Rd w0 w' R b c l.length j e' ∧ Gw R w w' := by
  obtain ⟨i0, hi0, hz0, hz1, hz2⟩ := info_parts Tryz.infoPred
  have hRw : R < w.heap.size := h.lt
  have cp := IH2 i e w h hi
  have Hs := Lib.hid hs
  replace IH2 := Lib.hid IH2
  clear h hs
  go_enter Tryz.func98, Tryz.ntmps98
  go_wp2_with (fail)
  refine cp.mono ?_
  rintro E w1 ⟨f, A, m, kk, ps, i1, e1, rfl, hst, hps, h1, hg1⟩
  have hi1 : i1 ≤ l.length := take_step_le hst.out hi
  obtain ⟨o1, ho1⟩ : ∃ o1, o1 = Obj.cells #[.int .i64 f.k, .int .i64 f.u, .int .i64 f.o, .int .i64 f.a.k, .int .i64 f.a.t, .int .i64 f.a.c, .bool f.a.z, .int .i64 f.a.n, .int .i64 f.b.k, .int .i64 f.b.t, .int .i64 f.b.c, .bool f.b.z, .int .i64 f.b.n, .slice A m kk] 43 := ⟨_, rfl⟩
  have hown1 : (w1.alloc o1).ownsRow w.heap.size 43 14 (.slice (some ⟨w1.heap.size, 0, none⟩) 1 1) 1 (pdCells [(Pd.mk f ps, .slice A m kk)]) := by
    rw [ho1]
    have := World.ownsRow_lit (base := w.heap.size) (e := 43) (size := 14) w1 (f.cells (.slice A m kk)).toArray 1 hg1.size (by unfold maxLen; omega) rfl
    have e2 : pdCells [(Pd.mk f ps, Value.slice A m kk)] = f.cells (.slice A m kk) := by simp [pdCells, Pd.f]
    rw [e2]
    exact this
  have h1a := h1.alloc o1
  have hg1a := hg1.trans (Gw.of (R := R) (below_new w1 o1))
  have hby : Hid (e1 = 0 → ∀ x ∈ [(Pd.mk f ps, Value.slice A m kk)], PsBy (Aside w.heap.size (.slice (some ⟨w1.heap.size, 0, none⟩) 1 1)) k (w1.alloc o1) x.2 x.1.ps) := Lib.hid (by
    intro h0 x hx
    obtain rfl := List.mem_singleton.1 hx
    refine PsBy.imp (by simp) ?_ (PsBy.of_in (hps.out h0))
    intro q hq hlt
    exact ⟨⟨hq, by intro e; have e : q = w1.heap.size := Option.some.inj e; omega⟩, (Below.heap_alloc w1 o1 q hlt)⟩)
  have hLP := Lib.hid (Tx.lpost_first (l := l) hst.out)
  have HO1 := Lib.hid ho1
  have H1a := Lib.hid h1a
  have G1a := Lib.hid hg1a
  have HOW := Lib.hid hown1
  clear cp hst hps h1 hg1 ho1 hown1 h1a hg1a
  go_upto_region 2 with (fail)
  rw [← HO1.out]
  go_loopw [5] (fun v wr => ∃ (L : List (Pd × Value)) (m j : Nat) (e' : Int), 1 ≤ m ∧ m ≤ 5 ∧ j ≤ l.length ∧ wr.ownsRow w.heap.size 43 14 v m (pdCells L) ∧ L.length = m ∧ Rd w0 wr R b c l.length j e' ∧ Gw R w wr ∧ Hid (e' = 0 → ∀ x ∈ L, PsBy (Aside w.heap.size v) k wr x.2 x.1.ps) ∧ Hid (Tx.LPost (Tx.take l k) l i e (L.map Prod.fst) m j e')) (fun v _ => 6 - lenV v)
  case atStart => exact ⟨[(Pd.mk f ps, .slice A m kk)], 1, i1, e1, by omega, by omega, hi1, HOW.out, rfl, H1a.out, G1a.out, hby, hLP⟩
  case round =>
    obtain ⟨L, m5, j, e', hm1, hm5, hj, hown, hLm, hr, hg, hby2, hLP2⟩ := hrel
    clear H1a G1a HOW hby hLP HO1
    obtain ⟨g5, cap5, hv5, hg5⟩ := own_form hown hm1
    subst hv5
    have hlt5 := (hown.lt g5 rfl).2
    obtain ⟨B, hB⟩ : ∃ B, B = (nextS l j e' == 59) := ⟨_, rfl⟩
    have cs := rskip_any Hs.out j e' 59 wr hr hj B hB _ rfl
    have Hown := Lib.hid hown
    have Hg := Lib.hid hg
    clear hr hown hg
    cases B
    · have HPost := Lib.hid (Tx.lpost_end hLP2.out hB)
      have hb0 : (if false = true then j + 1 else j) = j := rfl
      rw [hb0] at cs
      clear hb0 hB
      go_wp2_with (fail)
      refine cs.mono ?_
      rintro E w2 ⟨rfl, h2, hg2⟩
      have hown2 := own_gw Hown.out hg2 hRw
      have HIn : Hid (e' = 0 → PsIn w.heap.size (k + 1) w2 (.slice (some ⟨g5, 0, none⟩) m5 cap5) (L.map Prod.fst)) := Lib.hid (by
        intro h0
        refine PsIn.row (lo := w.heap.size) hown2 hLm (by omega) hg5 fun x hx => ?_
        refine PsBy.to_in (PsBy.imp hg2.size ?_ (hby2.out h0 x hx))
        intro q hq hlt
        exact ⟨hq.1, hg2.block q hlt (by intro e; have e : q = R := Option.some.inj e; have := hq.1; omega)⟩)
      have HG := Lib.hid (Hg.out.trans hg2)
      clear cs hown2 hg2
      go_wp2_with (fail)
      go_ret
      exact ⟨some ⟨g5, 0, none⟩, m5, cap5, L.map Prod.fst, j, e', rfl, HPost, HIn, hj, h2, HG.out⟩
    · obtain ⟨rfl, h59⟩ : e' = 0 ∧ Tx.at_ l j = 59 := by
        unfold nextS at hB
        by_cases he : e' = 0
        · rw [if_pos he] at hB
          exact ⟨he, by simpa using hB.symm⟩
        · rw [if_neg he] at hB; exact absurd hB (by decide)
      have hb0 : (if true = true then j + 1 else j) = j + 1 := rfl
      rw [hb0] at cs
      have hj1 : j + 1 ≤ l.length := Tx.at_lt h59 (by decide)
      have HBY := Lib.hid (hby2.out rfl)
      have hLP3 := hLP2.out
      have hm4 : m5 ≤ 4 := by
        by_cases he : e = 0
        · exact ((hLP3.2 he).2 rfl).1
        · exact absurd (hLP3.1 he).2.symm he
      clear hb0 hB hby2
      -- behind the ';', one more: at (j1, e1), whatever was told
      have more : ∀ (j1 : Nat) (e1 : Int) (w2 : World), Rd w0 w2 R b c l.length j1 e1 → Gw R wr w2 → j1 ≤ l.length → (∀ (p : Pd) (j2 : Nat) (e2 : Int), Tx.Step (Tx.take l k j1) j1 e1 p j2 e2 → Tx.LPost (Tx.take l k) l i e (L.map Prod.fst ++ [p]) (m5 + 1) j2 e2) → ∀ (E : Ending) (w3 : World), Got1 w0 R b c l k w2 (Tx.take l k j1) j1 e1 E w3 →
          ∃ (f2 : Pf) (A2 : Option Addr) (n2 c2 : Nat), E = .returned (.agg #[.int .i64 f2.k, .int .i64 f2.u, .int .i64 f2.o, .int .i64 f2.a.k, .int .i64 f2.a.t, .int .i64 f2.a.c, .bool f2.a.z, .int .i64 f2.a.n, .int .i64 f2.b.k, .int .i64 f2.b.t, .int .i64 f2.b.c, .bool f2.b.z, .int .i64 f2.b.n, .slice A2 n2 c2]) ∧ w3.ownsRow w.heap.size 43 14 (.slice (some ⟨g5, 0, none⟩) m5 cap5) m5 (pdCells L) ∧ w.heap.size ≤ w3.heap.size ∧
            ∀ (v' : Value) (w9 : World), w9.ownsRow w.heap.size 43 14 v' (m5 + 1) (pdCells L ++ f2.cells (.slice A2 n2 c2)) → (w3.alloc (.cells (f2.cells (.slice A2 n2 c2)).toArray 43)).grownBy w9 (some g5) → (v'.ownBlock = some g5 ∨ ∃ g, v'.ownBlock = some g ∧ w3.heap.size + 1 ≤ g) →
              ∃ (L' : List (Pd × Value)) (m' j' : Nat) (e'' : Int), 1 ≤ m' ∧ m' ≤ 5 ∧ j' ≤ l.length ∧ w9.ownsRow w.heap.size 43 14 v' m' (pdCells L') ∧ L'.length = m' ∧ Rd w0 w9 R b c l.length j' e'' ∧ Gw R w w9 ∧ Hid (e'' = 0 → ∀ x ∈ L', PsBy (Aside w.heap.size v') k w9 x.2 x.1.ps) ∧ Hid (Tx.LPost (Tx.take l k) l i e (L'.map Prod.fst) m' j' e'') := by
        intro j1 e1 w2 hr2 hg2 hj1 hnext E w3 hgot
        obtain ⟨f2, A2, n2, c2, ps2, j2, e2, rfl, hst2, hps2, hr3, hg3⟩ := hgot
        have hsz2 : w.heap.size ≤ w2.heap.size := Nat.le_trans Hg.out.size hg2.size
        have hsz3 : w.heap.size ≤ w3.heap.size := Nat.le_trans hsz2 hg3.size
        have hgw3 : Gw R wr w3 := hg2.trans hg3
        refine ⟨f2, A2, n2, c2, rfl, own_gw Hown.out hgw3 hRw, hsz3, ?_⟩
        intro v' w9 ho9 hgr9 hwh
        refine ⟨L ++ [(.mk f2 ps2, .slice A2 n2 c2)], m5 + 1, j2, e2, by omega, by omega, take_step_le hst2.out hj1, ?_, by simp [hLm], ?_, ?_, ?_, ?_⟩
        · have e3 : pdCells (L ++ [(Pd.mk f2 ps2, Value.slice A2 n2 c2)]) = pdCells L ++ f2.cells (.slice A2 n2 c2) := by simp [pdCells, Pd.f]
          rw [e3]; exact ho9
        · exact (hr3.alloc _).grown hgr9 (by intro g hg; cases hg; omega)
        · exact ((Hg.out.trans hgw3).trans (Gw.of (below_new _ _))).grown hgr9 (by intro g hg; cases hg; exact hg5)
        · refine Lib.hid fun h0 x hx => ?_
          have keep9 : ∀ q, q < w3.heap.size → q ≠ g5 → w9.heap[q]? = w3.heap[q]? := fun q hq hne => (hgr9.block q (by rw [World.size_alloc]; omega) (by intro e; exact hne (Option.some.inj e))).trans (Below.heap_alloc w3 _ q hq)
          have away : ∀ q, q < w3.heap.size → q ≠ g5 → some q ≠ v'.ownBlock := by
            intro q hq hne e3
            rcases hwh with h | ⟨g, h, hge⟩
            · rw [h] at e3; exact hne (Option.some.inj e3)
            · rw [h] at e3
              have e4 : q = g := Option.some.inj e3
              omega
          have hsz9 : w3.heap.size ≤ w9.heap.size := Nat.le_trans (by rw [World.size_alloc]; omega) hgr9.size
          rcases List.mem_append.1 hx with hx | hx
          · refine PsBy.imp (Nat.le_trans hgw3.size hsz9) ?_ (HBY.out x hx)
            intro q hq hlt
            have hne : q ≠ g5 := fun e3 => hq.2 (by rw [e3]; rfl)
            have hqR : q ≠ R := by have := hq.1; omega
            have hlt3 : q < w3.heap.size := Nat.lt_of_lt_of_le hlt hgw3.size
            exact ⟨⟨hq.1, away q hlt3 hne⟩, (keep9 q hlt3 hne).trans (hgw3.block q hlt (by intro e; exact hqR (Option.some.inj e)))⟩
          · obtain rfl := List.mem_singleton.1 hx
            refine PsBy.imp hsz9 ?_ (PsBy.of_in (hps2.out h0))
            intro q hq hlt
            have hne : q ≠ g5 := by have := hg2.size; omega
            exact ⟨⟨by omega, away q hlt hne⟩, keep9 q hlt hne⟩
        · refine Lib.hid ?_
          rw [List.map_append]
          exact hnext _ _ _ hst2.out
      have HMore := Lib.hid more
      clear more
      by_cases h4 : m5 = 4
      · subst h4
        obtain ⟨j1, e1, hf⟩ : ∃ j1 e1, (j1, e1) = failS (j + 1) 0 (j + 1) 2 := ⟨_, _, rfl⟩
        have hj1' : j1 ≤ l.length := by
          rw [failS, if_pos rfl] at hf
          obtain ⟨rfl, _⟩ := pair_eq hf
          exact hj1
        have HN := Lib.hid (fun (p : Pd) (j2 : Nat) (e2 : Int) h => Tx.lpost_full (p := p) (j2 := j2) (e2 := e2) hLP3 h59 hf h)
        have HFL := Lib.hid hf
        clear hLP3 hLP2 hf h59
        go_wp2_with (fail)
        refine cs.mono ?_
        rintro E w2 ⟨rfl, h2, hg2⟩
        have x1 := h2.lies.cell (i := 1) rfl
        have cf := rfail_any (j + 1) 0 (j + 1) 2 w2 h2 j1 e1 HFL.out
        have ec : ((j + 1 : Nat) : Int) = (j : Int) + 1 := by omega
        clear cs h2
        rw [ec] at cf
        go_wp2_with (fail)
        refine cf.mono ?_
        rintro E w3 ⟨rfl, h3, hg3⟩
        have cp3 := IH2.out j1 e1 w3 h3 hj1'
        have HM3 := Lib.hid (HMore.out j1 e1 w3 h3 (hg2.trans hg3) hj1' HN.out)
        clear cf x1 h3 hg2 hg3 HN HFL ec
        go_wp2_with (fail)
        refine cp3.mono ?_
        intro E w4 hgot
        have hm := HM3.out E w4 hgot
        clear hgot cp3 HM3
        obtain ⟨f2, A2, n2, c2, rfl, hown3, hsz3, hfin⟩ := hm
        have HF := Lib.hid hfin
        obtain ⟨o3, ho3⟩ : ∃ o3, o3 = Obj.cells (f2.cells (.slice A2 n2 c2)).toArray 43 := ⟨_, rfl⟩
        have hoa := Lib.hid (hown3.alloc (Obj.cells #[.int .i64 f2.k, .int .i64 f2.u, .int .i64 f2.o, .int .i64 f2.a.k, .int .i64 f2.a.t, .int .i64 f2.a.c, .bool f2.a.z, .int .i64 f2.a.n, .int .i64 f2.b.k, .int .i64 f2.b.t, .int .i64 f2.b.c, .bool f2.b.z, .int .i64 f2.b.n, .slice A2 n2 c2] 43))
        have hca := Lib.hid (show ∀ q u, (f2.cells (.slice A2 n2 c2))[q]? = some u → (w4.alloc (Obj.cells #[.int .i64 f2.k, .int .i64 f2.u, .int .i64 f2.o, .int .i64 f2.a.k, .int .i64 f2.a.t, .int .i64 f2.a.c, .bool f2.a.z, .int .i64 f2.a.n, .int .i64 f2.b.k, .int .i64 f2.b.t, .int .i64 f2.b.c, .bool f2.b.z, .int .i64 f2.b.n, .slice A2 n2 c2] 43)).cell? ((⟨w4.heap.size, 0, none⟩ : Addr).add q) = some u from fun q u hqu => by rw [add_here]; exact (Lies.new w4 _ (f2.cells (.slice A2 n2 c2))).cell hqu)
        have hsa := Lib.hid (show w.heap.size ≤ (w4.alloc (Obj.cells #[.int .i64 f2.k, .int .i64 f2.u, .int .i64 f2.o, .int .i64 f2.a.k, .int .i64 f2.a.t, .int .i64 f2.a.c, .bool f2.a.z, .int .i64 f2.a.n, .int .i64 f2.b.k, .int .i64 f2.b.t, .int .i64 f2.b.c, .bool f2.b.z, .int .i64 f2.b.n, .slice A2 n2 c2] 43)).heap.size by rw [World.size_alloc]; omega)
        clear hown3 hfin ho3 HMore
        go_wp2_with (first
          | (at_builtin; refine wpList_append_where _ rfl _ _ 23 rfl w.heap.size 43 i0 _ 14 128 Tryz.underlying23 hi0 hz0 hz1 hz2 rfl (by decide) _ 4 (pdCells L) rfl hoa.out ⟨w4.heap.size, 0, none⟩ 1 1 (f2.cells (.slice A2 n2 c2)) rfl rfl hca.out (cells_one _ _ _ _) (by unfold maxLen; omega) (by omega) hsa.out ?_))
        intro v' w9 hown9 hgrow hwh
        have hfin := HF.out v' w9 hown9 hgrow hwh
        have hlen := own_len hown9
        clear hown9 hgrow hwh hoa hca hsa HF
        go_wp2_with (fail)
        go_roundw
        case rel => exact hfin
        case measure =>
          show 6 - lenV v' < 6 - 4
          rw [hlen]
          omega
      · have HN := Lib.hid (fun (p : Pd) (j2 : Nat) (e2 : Int) h => Tx.lpost_on (p := p) (j2 := j2) (e2 := e2) hLP3 (by omega) h59 h)
        have e4 : decide ((m5 : Int) = 4) = false := by simp; omega
        have e5 : ((m5 : Int) == 4) = false := by simp; omega
        clear hLP3 hLP2 h59
        go_wp2_with (fail)
        refine cs.mono ?_
        rintro E w2 ⟨rfl, h2, hg2⟩
        have cp3 := IH2.out (j + 1) 0 w2 h2 hj1
        have HM3 := Lib.hid (HMore.out (j + 1) 0 w2 h2 hg2 hj1 HN.out)
        clear cs h2 hg2 HN
        go_wp2_with (fail)
        refine cp3.mono ?_
        intro E w4 hgot
        have hm := HM3.out E w4 hgot
        clear hgot cp3 HM3
        obtain ⟨f2, A2, n2, c2, rfl, hown3, hsz3, hfin⟩ := hm
        have HF := Lib.hid hfin
        obtain ⟨o3, ho3⟩ : ∃ o3, o3 = Obj.cells (f2.cells (.slice A2 n2 c2)).toArray 43 := ⟨_, rfl⟩
        have hoa := Lib.hid (hown3.alloc (Obj.cells #[.int .i64 f2.k, .int .i64 f2.u, .int .i64 f2.o, .int .i64 f2.a.k, .int .i64 f2.a.t, .int .i64 f2.a.c, .bool f2.a.z, .int .i64 f2.a.n, .int .i64 f2.b.k, .int .i64 f2.b.t, .int .i64 f2.b.c, .bool f2.b.z, .int .i64 f2.b.n, .slice A2 n2 c2] 43))
        have hca := Lib.hid (show ∀ q u, (f2.cells (.slice A2 n2 c2))[q]? = some u → (w4.alloc (Obj.cells #[.int .i64 f2.k, .int .i64 f2.u, .int .i64 f2.o, .int .i64 f2.a.k, .int .i64 f2.a.t, .int .i64 f2.a.c, .bool f2.a.z, .int .i64 f2.a.n, .int .i64 f2.b.k, .int .i64 f2.b.t, .int .i64 f2.b.c, .bool f2.b.z, .int .i64 f2.b.n, .slice A2 n2 c2] 43)).cell? ((⟨w4.heap.size, 0, none⟩ : Addr).add q) = some u from fun q u hqu => by rw [add_here]; exact (Lies.new w4 _ (f2.cells (.slice A2 n2 c2))).cell hqu)
        have hsa := Lib.hid (show w.heap.size ≤ (w4.alloc (Obj.cells #[.int .i64 f2.k, .int .i64 f2.u, .int .i64 f2.o, .int .i64 f2.a.k, .int .i64 f2.a.t, .int .i64 f2.a.c, .bool f2.a.z, .int .i64 f2.a.n, .int .i64 f2.b.k, .int .i64 f2.b.t, .int .i64 f2.b.c, .bool f2.b.z, .int .i64 f2.b.n, .slice A2 n2 c2] 43)).heap.size by rw [World.size_alloc]; omega)
        clear hown3 hfin ho3 HMore
        go_wp2_with (first
          | (at_builtin; refine wpList_append_where _ rfl _ _ 23 rfl w.heap.size 43 i0 _ 14 128 Tryz.underlying23 hi0 hz0 hz1 hz2 rfl (by decide) _ m5 (pdCells L) rfl hoa.out ⟨w4.heap.size, 0, none⟩ 1 1 (f2.cells (.slice A2 n2 c2)) rfl rfl hca.out (cells_one _ _ _ _) (by unfold maxLen; omega) (by omega) hsa.out ?_))
        intro v' w9 hown9 hgrow hwh
        have hfin := HF.out v' w9 hown9 hgrow hwh
        have hlen := own_len hown9
        clear hown9 hgrow hwh hoa hca hsa HF
        go_wp2_with (fail)
        go_roundw
        case rel => exact hfin
        case measure =>
          show 6 - lenV v' < 6 - m5
          rw [hlen]
          omega
end Go.Proofs.YteimbdklakemaaaGreatDoor
