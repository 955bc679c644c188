/-
  THE DOCUMENT's Sorted: the least row, again and again.
-/
import Derived.Test.YtaodobjekpacoaaBgzM
import Derived.Test.YtaodobjekpacoaaBgrM
import Derived.Test.YtaodobjekpacoaaGRows
namespace Go.Proofs.Ytaodobjekpacoaa
open Go.RowKit Go.Sort
set_option maxHeartbeats 6400000

/-- blocks of values lie as they lay -/
structure Spare (w w' : World) : Prop where
  size : w.heap.size ≤ w'.heap.size
  block : ∀ (k : Nat) (cs : Array Value) (f : Nat × Nat), w.heap[k]? = some (Obj.cells cs 33 f) → w'.heap[k]? = w.heap[k]?
theorem Spare.trans {a b c : World} (h : Spare a b) (k : Spare b c) : Spare a c :=
  ⟨Nat.le_trans h.size k.size, fun q cs f hq => (k.block q cs f ((h.block q cs f hq).trans hq)).trans (h.block q cs f hq)⟩
theorem Spare.of_below {w w' : World} (h : Below w.heap.size w w') : Spare w w' := ⟨h.size, fun k _ _ hk => h.block k (Array.getElem?_eq_some_iff.1 hk).1⟩
theorem Spare.of_grown {w w' : World} {base n : Nat} {v : Value} {xs : List Value} (h : w.ownsRow base 24 1 v n xs) (hg : w.grownBy w' v.ownBlock) : Spare w w' :=
  ⟨hg.size, fun k cs f hk => hg.block k (Array.getElem?_eq_some_iff.1 hk).1 (fun e => by
    rcases h.2 with ⟨rfl, _⟩ | ⟨g, cap, cur, rfl, _, hh, _⟩
    · cases e
    · cases e
      rw [hk] at hh
      injection hh with hh
      injection hh with _ ht
      exact absurd ht (by decide))⟩
/-- as RowAt, in a block of values -/
def RowV (w : World) (v : Value) (r : List Vl) : Prop :=
  ∃ A c, v = .slice A r.length c ∧ r.length ≤ c ∧ ∀ j x, r[j]? = some x → ∃ b o p cs f, A = some ⟨b, o, p⟩ ∧ w.heap[b]? = some (Obj.cells cs 33 f) ∧ w.cell? ((⟨b, o, p⟩ : Addr).add (j * 2)) = some (.bool x.1) ∧ w.cell? ((⟨b, o, p⟩ : Addr).add (j * 2 + 1)) = some (.int .i64 x.2)
theorem RowV.at_ {w : World} {v : Value} {r : List Vl} (h : RowV w v r) : RowAt w v r := by
  obtain ⟨A, c, hv, hc, hx⟩ := h
  exact ⟨A, c, hv, hc, fun j x hj => by obtain ⟨b, o, p, cs, f, h1, h3, h4, h5⟩ := hx j x hj; exact ⟨b, o, p, h1, (Array.getElem?_eq_some_iff.1 h3).1, h4, h5⟩⟩
theorem RowV.keep {w w' : World} {v : Value} {r : List Vl} (h : RowV w v r) (hs : Spare w w') : RowV w' v r := by
  obtain ⟨A, c, hv, hc, hx⟩ := h
  refine ⟨A, c, hv, hc, fun j x hj => ?_⟩
  obtain ⟨b, o, p, cs, f, h1, h3, h4, h5⟩ := hx j x hj
  have hb := hs.block b cs f h3
  have k : ∀ n, w'.cell? ((⟨b, o, p⟩ : Addr).add n) = w.cell? ((⟨b, o, p⟩ : Addr).add n) := fun n => World.cell?_of_block (by rw [add_block]; exact hb)
  exact ⟨b, o, p, cs, f, h1, hb.trans h3, (k _).trans h4, (k _).trans h5⟩
theorem rowV_own {w : World} {base : Nat} {v : Value} {r : List Vl} (h : w.ownsRow base 33 2 v r.length (rowCells r)) : RowV w v r := by
  rcases h.2 with ⟨hv, hn⟩ | ⟨g, cap, cur, rfl, hb, hg, hnc, _⟩
  · have : r = [] := List.eq_nil_of_length_eq_zero hn
    subst this
    exact ⟨none, 0, hv, Nat.le_refl _, fun j x hj => by simp at hj⟩
  · refine ⟨_, cap, rfl, hnc, fun j x hj => ⟨g, 0, none, _, _, rfl, hg, ?_, ?_⟩⟩
    · exact h.cells (g := g) rfl _ _ (rowCells_at r hj).1
    · exact h.cells (g := g) rfl _ _ (rowCells_at r hj).2
/-- a slice value is nil, or at an address -/
def Fm (u : Value) : Prop := u = .slice none 0 0 ∨ ∃ b n c, u = .slice (some b) n c
/-- a slice whose cells are known: nil, or at an address -/
def CameN9 (w : World) (size : Nat) (u : Value) (m : Nat) (news : List Value) : Prop :=
  (u = .slice none 0 0 ∧ m = 0 ∧ news = []) ∨ ∃ b c, u = .slice (some b) m c ∧ news.length = m * size ∧ ∀ (j : Nat) (x : Value), news[j]? = some x → w.cell? (b.add j) = some x
theorem RowAt.came {w : World} {u : Value} {r : List Vl} (h : RowAt w u r) (hf : Fm u) : CameN9 w 2 u r.length (rowCells r) := by
  obtain ⟨A, c, rfl, _, _⟩ := id h
  rcases hf with hf | ⟨b, n, c', hf⟩
  · injection hf with f1 f2 f3
    have : r = [] := List.eq_nil_of_length_eq_zero f2
    subst this
    subst f1 f3
    exact .inl ⟨rfl, rfl, rfl⟩
  · injection hf with f1 f2 f3
    subst f1
    exact .inr ⟨b, c, rfl, rowCells_length r, h.cells⟩
theorem wpList_append_n9 {P : Program} (w : World) {ops : Array Oper} {rest : List Oper} {o : Oper} {a : Act} {Q : Exit → Act → World → Prop} (hgd : o.guard = none) (s x : Operand) (t : TypeId)
    (ho : o.op = .call { callee := .builtin .append, args := #[s, x], argTypes := #[t, t] })
    (base : Nat) (e : TypeId) (i : TypeInfo) (z : Value) (size bytes : Nat) (ht : P.underlying t = some (.slice e)) (hi : P.info? e = some i) (hz : i.zero = some z)
    (hsize : i.size = size) (hby : i.bytes = bytes) (hzs : z.cells.size = size) (hs0 : 0 < size)
    (v : Value) (n : Nat) (xs : List Value) (hs : a.eval s = v) (hown : w.ownsRow base e size v n xs)
    (u : Value) (m : Nat) (news : List Value) (hx : a.eval x = u) (hu : CameN9 w size u m news) (h1 : ∀ u ∈ news, u.oneCell' = true)
    (h63 : n + m ≤ maxLen) (hbytes : (n + m) * bytes ≤ 140737488355328) (hbase : base ≤ w.heap.size)
    (h : ∀ v' w', w'.ownsRow base e size v' (n + m) (xs ++ news) → w.grownBy w' v.ownBlock → wpList P ops Q rest (a.put o.dst v') w') : wpList P ops Q (o :: rest) a w := by
  rcases hu with ⟨rfl, rfl, rfl⟩ | ⟨b, c, rfl, hl, hc⟩
  · refine wpList_append_own_none hgd s x t ho base e i size ht hi v n xs hs hown hx ?_
    exact h v w (by simpa using hown) ⟨rfl, rfl, rfl, Nat.le_refl _, fun _ _ _ => rfl⟩
  · exact wpList_append_own w hgd s x t ho base e i z size bytes ht hi hz hsize hby hzs hs0 v n xs hs hown b m c news hx hl hc h1 h63 hbytes hbase fun v' w' h2 h3 _ => h v' w' h2 h3
theorem below_alloc_q {w W : World} (h : Below w.heap.size w W) (o : Obj) : Below w.heap.size w (W.alloc o) := h.alloc h.size _
def lenV : Value → Nat
  | .slice _ n _ => n
  | _ => 0
theorem own_low {w : World} {base base' n s : Nat} {e : TypeId} {v : Value} {xs : List Value} (h : w.ownsRow base e s v n xs) (hb : base' ≤ base) : w.ownsRow base' e s v n xs := by
  refine ⟨h.1, ?_⟩
  rcases h.2 with h | ⟨g, cap, cur, hv, h1, rest⟩
  · exact .inl h
  · exact .inr ⟨g, cap, cur, hv, by omega, rest⟩
theorem own_apart {w : World} {base n s : Nat} {e : TypeId} {v : Value} {xs : List Value} {o : Option Nat} (h : w.ownsRow base e s v n xs) (ho : ∀ g, o = some g → g < base) : v.ownBlock = none ∨ v.ownBlock ≠ o := by
  rcases h.2 with ⟨rfl, _⟩ | ⟨g, cap, cur, rfl, hb, _⟩
  · exact .inl rfl
  · refine .inr fun e => ?_
    have := ho g e.symm
    omega
theorem own_apart2 {w w2 : World} {b B n n2 s : Nat} {e : TypeId} {v v2 : Value} {xs xs2 : List Value} (h : w.ownsRow b e s v n xs) (hlt : ∀ g, v.ownBlock = some g → g < B) (h2 : w2.ownsRow B e s v2 n2 xs2) : v.ownBlock = none ∨ v.ownBlock ≠ v2.ownBlock := by
  rcases h.2 with ⟨rfl, _⟩ | ⟨g, cap, cur, rfl, _⟩
  · exact .inl rfl
  · refine .inr fun e => ?_
    rcases h2.2 with ⟨rfl, _⟩ | ⟨g2, cap2, cur2, rfl, hb, _⟩
    · cases e
    · have h3 := hlt g rfl
      have h4 := Option.some.inj e
      simp at h4
      omega
theorem add_from9 (g k j : Nat) : (⟨g, k, none⟩ : Addr).add j = ⟨g, k + j, none⟩ := by
  unfold Addr.add
  split
  · next h => subst h; rfl
  · rfl
/-- the rows that are left, those that are out -/
structure Sel (w : World) (rs : List (List Vl)) (wr : World) (s t : Value) (D O : List Itm) : Prop where
  r : wr.ownsRow w.heap.size 24 1 s D.length (vals D)
  o : wr.ownsRow w.heap.size 24 1 t O.length (vals O)
  apart : s.ownBlock = none ∨ s.ownBlock ≠ t.ownBlock
  rd : ∀ x ∈ D, RowAt w x.1 x.2 ∧ Fm x.1 ∧ x.2.length ≤ 1000000
  up : ∀ x ∈ O, RowV wr x.1 x.2
  perm : (O.map Prod.snd ++ D.map Prod.snd).Perm rs
  ord : So.Ord icm O
  le : ∀ x ∈ O, ∀ y ∈ D, So.Le icm x y
theorem vals_length (D : List Itm) : (vals D).length = D.length := by unfold vals; rw [List.length_map]
theorem vals_one {D : List Itm} (h : ∀ x ∈ D, ∃ A n c, x.1 = .slice A n c) : ∀ u ∈ vals D, u.oneCell' = true := by
  intro u hu
  obtain ⟨x, hx, rfl⟩ := List.mem_map.1 hu
  obtain ⟨A, n, c, e⟩ := h x hx
  rw [e]; rfl
theorem Try.infoRowD : (Try.prog.info? 24).map (fun i => (i.zero, i.size, i.bytes)) = some (some (.slice none 0 0), 1, 24) := by kernel_rfl
set_option maxRecDepth 100000 in
theorem r9sorted_any (u : Value) (vs : List Value) (rs : List (List Vl)) (w : World) (hl : RwsOf w u vs rs) (hfm : ∀ x ∈ vs, Fm x) (hfu : Fm u) (hn6 : rs.length ≤ 1000) (hr6 : ∀ r ∈ rs, r.length ≤ 1000) :
    Calls Try.prog 14 #[u] w (SortedR w rs) := by
  obtain ⟨i0, hi, hz0, hz1, hz2⟩ := info_parts Try.infoRowD
  obtain ⟨j0, hj, hy0, hy1, hy2⟩ := info_parts Try.infoVal9
  have hvl : vs.length ≤ 1000 := by rw [hl.len]; exact hn6
  obtain ⟨W0, hW0⟩ : ∃ W0, W0 = w.alloc (Obj.cells #[] 24) := ⟨_, rfl⟩
  have hb0 : Below w.heap.size w W0 := by rw [hW0]; exact below_new _ _
  have hown0 : W0.ownsRow w.heap.size 24 1 (.slice (some ⟨w.heap.size, 0, none⟩) 0 0) 0 [] := by rw [hW0]; exact World.ownsRow_made w #[] 0 (Nat.le_refl _) (by decide) rfl
  have hcu : CameN9 W0 1 u vs.length vs := by
    obtain ⟨A, c, rfl, _, hx⟩ := (hl.below hb0 (Nat.le_refl _)).sl
    rcases hfu with hf | ⟨b, n, c', hf⟩
    · injection hf with f1 f2 f3
      subst f1 f3
      have : vs = [] := List.eq_nil_of_length_eq_zero f2
      subst this
      exact .inl ⟨rfl, rfl, rfl⟩
    · injection hf with f1 f2 f3
      subst f1
      refine .inr ⟨b, c, rfl, by omega, fun j x hj => ?_⟩
      obtain ⟨b', o, p, hA, _, hc⟩ := hx j x hj
      cases hA
      exact hc
  have hone : ∀ x ∈ vs, x.oneCell' = true := fun x hx => by
    rcases hfm x hx with h | ⟨b, n, c, h⟩ <;> rw [h] <;> rfl
  have hrd : ∀ x ∈ vs.zip rs, RowAt w x.1 x.2 ∧ Fm x.1 ∧ x.2.length ≤ 1000000 := fun x hx => by
    obtain ⟨j, hj, rfl⟩ := List.mem_iff_getElem.1 hx
    rw [List.length_zip] at hj
    have hjr : j < rs.length := by omega
    obtain ⟨u, hu, hr⟩ := hl.row j rs[j] (List.getElem?_eq_getElem hjr)
    have hju : vs[j]'(by omega) = u := by rw [List.getElem?_eq_getElem (by omega)] at hu; exact Option.some.inj hu
    rw [List.getElem_zip]
    exact ⟨by rw [hju]; exact hr, hfm _ (List.getElem_mem _), by have := hr6 _ (List.getElem_mem hjr); simp only; omega⟩
  have HRD := Lib.hid hrd
  have HLEN := Lib.hid hl.len
  have HN6 := Lib.hid hn6
  have HOWN := Lib.hid hown0
  have HCU := Lib.hid hcu
  have HONE := Lib.hid hone
  have HW := Lib.hid hW0
  have HVL := Lib.hid hvl
  clear hl hfm hfu hn6 hr6 hown0 hcu hone hrd hW0 hvl
  go_enter Try.func14, Try.ntmps14
  go_wp2_with (first
    | (at_builtin; rw [← HW.out]; refine wpList_append_n9 _ rfl _ _ 22 rfl w.heap.size 24 i0 (.slice none 0 0) 1 24 Try.underlying22 hi hz0 hz1 hz2 rfl (by decide) _ 0 [] rfl HOWN.out u vs.length vs rfl HCU.out HONE.out (by have := HVL.out; unfold maxLen; omega) (by have := HVL.out; omega) hb0.size ?_))
  intro s1 w1 hown1 hgrow1
  have hb1 : Below w.heap.size w w1 := hb0.grown hgrow1 hb0.size (fun q hq => (HOWN.out.lt q hq).1)
  have hS0 : Hid (∃ D O, Sel w rs (w1.alloc (Obj.cells #[] 24)) s1 (.slice (some ⟨w1.heap.size, 0, none⟩) 0 0) D O) := Lib.hid (by
    have e1 : vals (vs.zip rs) = vs := List.map_fst_zip (by rw [HLEN.out]; exact Nat.le_refl _)
    have e2 : (vs.zip rs).length = vs.length := by rw [List.length_zip, HLEN.out]; omega
    have ho : w1.ownsRow w.heap.size 24 1 s1 (vs.zip rs).length (vals (vs.zip rs)) := by rw [e1, e2]; simpa using hown1
    refine ⟨vs.zip rs, [], ho.alloc _, World.ownsRow_made w1 #[] 0 hb1.size (by decide) rfl, ?_, HRD.out, by simp, ?_, So.Ord.nil, by simp⟩
    · rcases ho.2 with ⟨rfl, _⟩ | ⟨g, cap, cur, rfl, _, hh, _⟩
      · exact .inl rfl
      · refine .inr fun e => ?_
        have := (Array.getElem?_eq_some_iff.1 hh).1
        have e2 := Option.some.inj e
        simp at e2
        omega
    · rw [List.map_nil, List.nil_append, List.map_snd_zip (by rw [HLEN.out]; exact Nat.le_refl _)])
  have hbA : Below w.heap.size w (w1.alloc (Obj.cells #[] 24)) := below_alloc_q hb1 _
  have hf1 : ∃ A n c, s1 = .slice A n c := by
    obtain ⟨A, c, hv, _⟩ := Sl.own hown1
    exact ⟨A, _, c, hv⟩
  have HF1 := Lib.hid hf1
  clear hown1 hgrow1 hf1
  go_wp2_with (fail)
  go_loopw [3, 4] (fun s t wr => (∃ A n c, s = .slice A n c) ∧ Hid (∃ D O, Sel w rs wr s t D O) ∧ Below w.heap.size w wr) (fun s _ _ => lenV s)
  case atStart => exact ⟨HF1.out, hS0, hbA⟩
  case round =>
    obtain ⟨⟨A, n, c, rfl⟩, hz, hb⟩ := hrel
    obtain ⟨D, O, hsel⟩ := hz.out
    have hDn : D.length = n := by
      obtain ⟨A', c', hv, _⟩ := Sl.own hsel.r
      rw [vals_length] at hv
      injection hv with f1 f2 f3
      exact f2.symm
    have hpl := hsel.perm.length_eq
    rw [List.length_append, List.length_map, List.length_map] at hpl
    have hnb : n ≤ 1000 := by have := HN6.out; omega
    have hob : O.length + n ≤ 1000 := by have := HN6.out; omega
    by_cases hpos : 0 < n
    · obtain ⟨w4, hw4⟩ : ∃ w4, w4 = wr := ⟨_, rfl⟩
      subst hw4
      obtain ⟨g, rfl⟩ : ∃ g, A = some ⟨g, 0, none⟩ := by
        rcases hsel.r.2 with ⟨hv, hn⟩ | ⟨g, cap, cur, hv, _⟩
        · omega
        · injection hv with f1 f2 f3
          exact ⟨g, f1⟩
      have HSEL := Lib.hid hsel
      have HDN := Lib.hid hDn
      have hS := Below.refl w4.heap.size w4
      clear hsel hDn hz hpl
      go_wp2_with (fail)
      go_loopw [5, 6] (fun s5 s6 wr => ∃ (k i : Nat), s5 = .int .i64 k ∧ s6 = .int .i64 i ∧ k < n ∧ i ≤ n ∧ Hid (∀ (j : Nat) (x y : Itm), j < i → D[j]? = some x → D[k]? = some y → So.Le icm y x) ∧ Below w4.heap.size w4 wr) (fun _ s6 _ => n - (intOf s6).toNat)
      case atStart => exact ⟨0, 1, rfl, rfl, hpos, by omega, Lib.hid fun j x y hj hx hy => by
        obtain rfl : j = 0 := by omega
        rw [hx] at hy
        cases hy
        exact icm_pre.refl x, hS⟩
      case round =>
        obtain ⟨k, i, rfl, rfl, hk, hin, hmin, hb4⟩ := hrel
        by_cases hlt : i < n
        · as_aux_lemma =>
          have hDn := HDN.out
          obtain ⟨x, gx⟩ : ∃ x, D[i]? = some x := ⟨D[i]'(by omega), List.getElem?_eq_getElem _⟩
          obtain ⟨y, gy⟩ : ∃ y, D[k]? = some y := ⟨D[k]'(by omega), List.getElem?_eq_getElem _⟩
          have ho := own_below HSEL.out.r hb4
          have hbw := below_join hb hb4
          have cx : wr.cell? ⟨g, i, none⟩ = some x.1 := by
            have := ho.cells (g := g) rfl i x.1 (by unfold vals; rw [List.getElem?_map, gx]; rfl)
            rwa [add_here9] at this
          have cy : wr.cell? ⟨g, k, none⟩ = some y.1 := by
            have := ho.cells (g := g) rfl k y.1 (by unfold vals; rw [List.getElem?_map, gy]; rfl)
            rwa [add_here9] at this
          have y1 := cell_regrown cx
          have y2 := cell_regrown cy
          have i1 : (0 : Int) ≤ (i : Int) := by omega
          have i2 : (i : Int) < (n : Int) := by omega
          have i3 : (0 : Int) ≤ (k : Int) := by omega
          have i4 : (k : Int) < (n : Int) := by omega
          obtain ⟨rx, _, lx⟩ := HSEL.out.rd x (List.mem_of_getElem? gx)
          obtain ⟨ry, _, ly⟩ := HSEL.out.rd y (List.mem_of_getElem? gy)
          have cc := in_class (W0 := wr) fun W h => r9less_any x.1 y.1 x.2 y.2 W (rx.below (below_join hbw h) (Nat.le_refl _)) (ry.below (below_join hbw h) (Nat.le_refl _)) (by omega) (by omega)
          obtain ⟨d, hd⟩ : ∃ d : Bool, d = decide (Bg.cr x.2 y.2 < 0) := ⟨_, rfl⟩
          rw [← hd] at cc
          have HD := Lib.hid (And.intro hd (And.intro gx gy))
          clear ho cx cy hd gx gy rx lx ry ly hbw hDn
          go_wp2_with (fail)
          refine wp_region_quiet_below (by kernel_rfl) (by kernel_rfl) ?_
          repeat (go_big_quiet_step (with_reducible exact cc _ _))
          refine wpQuiet_nil ?_
          intro _ hw'
          obtain ⟨⟨dq, osq⟩, hw''⟩ := hw'
          subst hw''
          have hb5 := below_join hb4 (below_regrown wr dq osq)
          clear y1 y2 i1 i2 i3 i4 hb4 cc
          generalize grow (redrawn wr dq) osq = w7 at hb5 ⊢
          cases d
          · go_wp2_with (fail)
            go_roundw
            case rel =>
              refine ⟨k, i + 1, rfl, by go_num, hk, by omega, Lib.hid fun j a b hj ha hb => ?_, hb5⟩
              obtain ⟨hd, gx, gy⟩ := HD.out
              rcases Nat.lt_or_eq_of_le (Nat.le_of_lt_succ hj) with h | h
              · exact hmin.out j a b h ha hb
              · subst h
                rw [gx] at ha
                rw [gy] at hb
                cases ha
                cases hb
                have := hd.symm
                rw [decide_eq_false_iff_not] at this
                exact this
            case measure => simp [intOf]; omega
          · go_wp2_with (fail)
            go_roundw
            case rel =>
              refine ⟨i, i + 1, rfl, by go_num, hlt, by omega, Lib.hid fun j a b hj ha hb => ?_, hb5⟩
              obtain ⟨hd, gx, gy⟩ := HD.out
              rw [gx] at hb
              cases hb
              rcases Nat.lt_or_eq_of_le (Nat.le_of_lt_succ hj) with h | h
              · exact So.Le.trans icm_pre (So.Le.of_lt icm_pre (of_decide_eq_true hd.symm)) (hmin.out j a y h ha gy)
              · subst h
                rw [gx] at ha
                cases ha
                exact icm_pre.refl x
            case measure => simp [intOf]; omega
        · have hin2 : i = n := by omega
          subst hin2
          have hge : ¬ ((i : Int) < (i : Int)) := by omega
          obtain ⟨x, gx⟩ : ∃ x, D[k]? = some x := ⟨D[k]'(by have := HDN.out; omega), List.getElem?_eq_getElem _⟩
          clear hlt
          obtain ⟨w5, hw5⟩ : ∃ w5, w5 = wr := ⟨_, rfl⟩
          subst hw5
          obtain ⟨rx, fx, lx⟩ := HSEL.out.rd x (List.mem_of_getElem? gx)
          have hbw := below_join hb hb4
          obtain ⟨W6, hW6⟩ : ∃ W6, W6 = w5.alloc (Obj.cells #[] 33) := ⟨_, rfl⟩
          have hb6 : Below w5.heap.size w5 W6 := by rw [hW6]; exact below_new _ _
          have hor := own_below (own_below HSEL.out.r hb4) hb6
          have hoo := own_below (own_below HSEL.out.o hb4) hb6
          have hc6 : W6.cell? ⟨g, k, none⟩ = some x.1 := by
            have := hor.cells (g := g) rfl k x.1 (by unfold vals; rw [List.getElem?_map, gx]; rfl)
            rwa [add_here9] at this
          have hco := Lib.hid ((rx.below (below_join hbw hb6) (Nat.le_refl _)).came fx)
          have hown6 : Hid (W6.ownsRow w5.heap.size 33 2 (.slice (some ⟨w5.heap.size, 0, none⟩) 0 0) 0 []) := Lib.hid (by rw [hW6]; exact World.ownsRow_made w5 #[] 0 (Nat.le_refl _) (by decide) rfl)
          have i3 : (0 : Int) ≤ (k : Int) := by omega
          have i4 : (k : Int) < (i : Int) := by omega
          have HO6 := Lib.hid (And.intro hor (And.intro hoo (And.intro gx (And.intro rx (And.intro fx lx)))))
          have HW6 := Lib.hid hW6
          have hxl : x.2.length ≤ 1000000 := lx
          clear hor hoo gx rx fx lx hW6
          rw [HW6.out] at hc6
          have hkc : i ≤ c := by
            rcases HSEL.out.r.2 with ⟨hv, _⟩ | ⟨g', cap, cur, hv, _, _, hnc, _⟩
            · cases hv
            · injection hv with f1 f2 f3
              have := HDN.out
              omega
          have i5 : (k : Int) ≤ (c : Int) := by omega
          have i6 : (i : Int) ≤ (c : Int) := by omega
          go_wp2_with (first
            | (at_builtin; rw [← HW6.out]; refine wpList_append_n9 _ rfl _ _ 24 rfl w5.heap.size 33 j0 (.agg #[.bool false, .int .i64 0]) 2 16 Try.underlying24 hj hy0 hy1 hy2 rfl (by decide) _ 0 [] rfl hown6.out x.1 x.2.length (rowCells x.2) rfl hco.out (rowCells_one x.2) (by unfold maxLen; omega) (by omega) hb6.size ?_))
          intro v7 w7 hown7 hgrow7
          have hb7 : Below w5.heap.size w5 w7 := hb6.grown hgrow7 hb6.size (fun q hq => (hown6.out.lt q hq).1)
          have hrv7 : RowV w7 v7 x.2 := rowV_own (by simpa using hown7)
          obtain ⟨B, d, rfl, _, _⟩ := id hrv7
          have hb47 := below_join hb4 hb7
          have hoa := Lib.hid ((own_below HSEL.out.o hb47).alloc (Obj.cells #[.slice B x.2.length d] 24))
          have hbs7 : w.heap.size ≤ (w7.alloc (Obj.cells #[.slice B x.2.length d] 24)).heap.size := by have h1 := hb.size; have h2 := hb47.size; rw [World.size_alloc]; omega
          have HRV := Lib.hid hrv7
          clear hown7 hgrow7 hc6 hrv7 hb6 hco hown6 HW6
          go_wp2_with (first
            | (at_builtin; refine wpList_append_n9 _ rfl _ _ 22 rfl w.heap.size 24 i0 (.slice none 0 0) 1 24 Try.underlying22 hi hz0 hz1 hz2 rfl (by decide) _ O.length (vals O) rfl hoa.out (.slice (some ⟨w7.heap.size, 0, none⟩) 1 1) 1 [.slice B x.2.length d] rfl (.inr ⟨⟨w7.heap.size, 0, none⟩, 1, rfl, rfl, cell_one_new _ _ _⟩) (by simp [Value.oneCell']) (by unfold maxLen; omega) (by omega) hbs7 ?_))
          intro t8 w8 hown8 hgrow8
          have hor8 : w8.ownsRow w.heap.size 24 1 (.slice (some ⟨g, 0, none⟩) i c) D.length (vals D) := ((own_below HSEL.out.r hb47).alloc _).kept hgrow8 HSEL.out.apart
          have hsp8 : Spare w4 w8 := ((Spare.of_below hb47).trans (Spare.of_below (below_new w7 _))).trans (Spare.of_grown hoa.out hgrow8)
          have hrv8 : RowV w8 (.slice B x.2.length d) x.2 := (HRV.out.keep (Spare.of_below (below_new w7 _))).keep (Spare.of_grown hoa.out hgrow8)
          have hb8 : Below w.heap.size w w8 := ((below_join hb hb47).alloc (below_join hb hb47).size _).grown hgrow8 hbs7 (fun q hq => (hoa.out.lt q hq).1)
          have H8 := Lib.hid (And.intro hown8 (And.intro hor8 (And.intro hsp8 hrv8)))
          obtain ⟨W9, hW9⟩ : ∃ W9, W9 = w8.alloc (Obj.cells #[] 24) := ⟨_, rfl⟩
          have hb9 : Below w8.heap.size w8 W9 := by rw [hW9]; exact below_new _ _
          have hown9 : Hid (W9.ownsRow w8.heap.size 24 1 (.slice (some ⟨w8.heap.size, 0, none⟩) 0 0) 0 []) := Lib.hid (by rw [hW9]; exact World.ownsRow_made w8 #[] 0 (Nat.le_refl _) (by decide) rfl)
          have hDn := HDN.out
          have hc9 : Hid (CameN9 W9 1 (.slice (some ⟨g, 0, none⟩) k c) k ((vals D).take k)) := Lib.hid (.inr ⟨⟨g, 0, none⟩, c, rfl, by rw [List.length_take, vals_length]; omega, fun j z hj => (own_below hor8 hb9).cells (g := g) rfl j z (by
            rw [List.getElem?_take] at hj
            split at hj
            · exact hj
            · cases hj)⟩)
          have honeD : Hid (∀ u ∈ vals D, u.oneCell' = true) := Lib.hid (vals_one fun x hx => by
            obtain ⟨A, c, h, _⟩ := (HSEL.out.rd x hx).1
            exact ⟨A, _, c, h⟩)
          have hone9 : Hid (∀ u ∈ (vals D).take k, u.oneCell' = true) := Lib.hid fun u hu => honeD.out u (List.mem_of_mem_take hu)
          have HW9 := Lib.hid hW9
          clear hown8 hgrow8 hor8 hsp8 hrv8 hoa hbs7 hW9 hDn
          go_wp2_with (first
            | (at_builtin; rw [← HW9.out]; refine wpList_append_n9 _ rfl _ _ 22 rfl w8.heap.size 24 i0 (.slice none 0 0) 1 24 Try.underlying22 hi hz0 hz1 hz2 rfl (by decide) _ 0 [] rfl hown9.out (.slice (some ⟨g, 0, none⟩) k c) k ((vals D).take k) rfl hc9.out hone9.out (by unfold maxLen; omega) (by omega) hb9.size ?_))
          intro t10 w10 hown10 hgrow10
          have hb10 : Below w8.heap.size w8 w10 := hb9.grown hgrow10 hb9.size (fun q hq => (hown9.out.lt q hq).1)
          have ho10 : w10.ownsRow w8.heap.size 24 1 t10 k ((vals D).take k) := by simpa using hown10
          have H10 := Lib.hid ho10
          clear hown10 hgrow10 ho10 hc9 hone9 hown9 HW9 hb9
          obtain ⟨k2, hk2⟩ : ∃ k2, k2 = k + 1 := ⟨_, rfl⟩
          have e2 : (k : Int) + 1 = (k2 : Int) := by omega
          have i7 : (k2 : Int) ≤ (i : Int) := by omega
          have i8 : (k2 : Int) ≤ (c : Int) := by omega
          have HK2 := Lib.hid hk2
          clear hk2
          have FIN := Lib.hid (show ∀ (v11 : Value) (w11 : World), w11.ownsRow w8.heap.size 24 1 v11 (k + (i - k2)) ((vals D).take k ++ (vals D).drop k2) → w10.grownBy w11 t10.ownBlock → ((∃ A n c, v11 = .slice A n c ∧ n + 1 = i) ∧ Hid (∃ D O, Sel w rs w11 v11 t8 D O) ∧ Below w.heap.size w w11) from by
            intro v11 w11 hown hg
            obtain ⟨ho8, hor8, hsp8, hrv8⟩ := H8.out
            obtain ⟨_, _, gx, _, _, _⟩ := HO6.out
            have hDn := HDN.out
            have hk2 := HK2.out
            have hxm := List.mem_of_getElem? gx
            have hlt8 : ∀ q, t8.ownBlock = some q → q < w8.heap.size := fun q hq => (ho8.lt q hq).2
            have hD : D = D.take k ++ x :: D.drop k2 := by
              have h1 := List.take_append_drop k D
              rw [drop_cons gx, ← hk2] at h1
              exact h1.symm
            have hsub : ∀ y ∈ D.take k ++ D.drop k2, y ∈ D := fun y hy => by
              rcases List.mem_append.1 hy with h | h
              · exact List.mem_of_mem_take h
              · exact List.mem_of_mem_drop h
            have hsp11 := (hsp8.trans (Spare.of_below hb10)).trans (Spare.of_grown H10.out hg)
            have hb11 : Below w.heap.size w w11 := (below_join hb8 hb10).grown hg (below_join hb8 hb10).size (fun q hq => by have h1 := (H10.out.lt q hq).1; have h2 := hb8.size; omega)
            have hvd : vals (D.take k ++ D.drop k2) = (vals D).take k ++ (vals D).drop k2 := by unfold vals; rw [List.map_append, List.map_take, List.map_drop]
            have hld : (D.take k ++ D.drop k2).length = k + (i - k2) := by rw [List.length_append, List.length_take, List.length_drop]; omega
            refine ⟨?_, Lib.hid ⟨D.take k ++ D.drop k2, O ++ [(.slice B x.2.length d, x.2)], ?_, ?_, ?_, ?_, ?_, ?_, ?_, ?_⟩, hb11⟩
            · obtain ⟨A, c', hv, _⟩ := Sl.own hown
              exact ⟨A, _, c', hv, by rw [List.length_append, List.length_take, List.length_drop, vals_length]; omega⟩
            · rw [hvd, hld]; exact own_low hown (by have := hb8.size; omega)
            · have h1 := (own_below ho8 hb10).kept hg (own_apart2 ho8 hlt8 H10.out)
              unfold vals
              rw [List.length_append, List.map_append]
              exact h1
            · exact own_apart hown hlt8
            · exact fun y hy => HSEL.out.rd y (hsub y hy)
            · intro y hy
              rcases List.mem_append.1 hy with h | h
              · exact (HSEL.out.up y h).keep hsp11
              · rw [List.mem_singleton.1 h]
                exact (hrv8.keep (Spare.of_below hb10)).keep (Spare.of_grown H10.out hg)
            · refine List.Perm.trans ?_ HSEL.out.perm
              conv => rhs; rw [hD]
              rw [List.map_append, List.map_append, List.map_append, List.append_assoc]
              refine List.Perm.append_left _ ?_
              simp only [List.map_cons, List.map_nil, List.cons_append, List.nil_append]
              exact List.perm_middle.symm
            · refine So.Ord.append.2 ⟨HSEL.out.ord, So.Ord.one _, fun a ha b hb => ?_⟩
              rw [List.mem_singleton.1 hb]
              exact HSEL.out.le a ha x hxm
            · intro a ha b hb
              rcases List.mem_append.1 ha with h | h
              · exact HSEL.out.le a h b (hsub b hb)
              · rw [List.mem_singleton.1 h]
                obtain ⟨j, hj, rfl⟩ := List.mem_iff_getElem.1 (hsub b hb)
                exact hmin.out j _ x (by omega) (List.getElem?_eq_getElem hj) gx)
          have honeR : Hid (∀ u ∈ (vals D).drop k2, u.oneCell' = true) := Lib.hid fun u hu => honeD.out u (List.mem_of_mem_drop hu)
          have hdl : ((vals D).drop k2).length = i - k2 := by rw [List.length_drop, vals_length]; have := HDN.out; omega
          obtain ⟨A10, c10, ht10, _⟩ := Sl.own H10.out
          have hcr : Hid (CameN9 w10 1 (if c = k2 then .slice (some ⟨g, 0, none⟩) 0 0 else .slice (some ⟨g, k2, none⟩) (i - k2) (c - k2)) (i - k2) ((vals D).drop k2)) := Lib.hid (by
            by_cases hck : c = k2
            · rw [if_pos hck]
              have e0 : i - k2 = 0 := by omega
              have e1 : (vals D).drop k2 = [] := List.eq_nil_of_length_eq_zero (by omega)
              rw [e0, e1]
              exact .inr ⟨⟨g, 0, none⟩, 0, rfl, rfl, fun j z hz => by simp at hz⟩
            · rw [if_neg hck]
              refine .inr ⟨⟨g, k2, none⟩, _, rfl, by omega, fun j z hz => ?_⟩
              rw [List.getElem?_drop] at hz
              have := (own_below H8.out.2.1 hb10).cells (g := g) rfl (k2 + j) z hz
              rw [add_here9] at this
              rw [add_from9]
              exact this)
          have hbs10 : w8.heap.size ≤ w10.heap.size := hb10.size
          clear hmin honeD hdl HO6 HRV
          subst ht10
          by_cases hck : c = k2
          · have hcr2 := hcr
            rw [if_pos hck] at hcr2
            have e0 : i - k2 = 0 := by omega
            have HE0 := Lib.hid e0
            clear hcr
            go_wp2_with (first
              | (at_builtin; refine wpList_append_n9 _ rfl _ _ 22 rfl w8.heap.size 24 i0 (.slice none 0 0) 1 24 Try.underlying22 hi hz0 hz1 hz2 rfl (by decide) _ k ((vals D).take k) rfl H10.out _ (i - k2) ((vals D).drop k2) rfl hcr2.out honeR.out (by unfold maxLen; omega) (by omega) hbs10 ?_))
            intro v11 w11 hown11 hgrow11
            obtain ⟨⟨A11, n11, c11, rfl, hn11⟩, hs11, hb11⟩ := FIN.out v11 w11 (by rw [HE0.out]; exact hown11) (by first | exact hgrow11 | (rw [List.length_take]; exact hgrow11))
            clear hown11 hgrow11 FIN
            go_wp2_with (fail)
            go_roundw
            case rel => exact ⟨⟨_, _, _, rfl⟩, hs11, hb11⟩
            case measure => simp [lenV]; omega
          · have hcr2 := hcr
            rw [if_neg hck] at hcr2
            clear hcr
            go_wp2_with (first
              | (at_builtin; refine wpList_append_n9 _ rfl _ _ 22 rfl w8.heap.size 24 i0 (.slice none 0 0) 1 24 Try.underlying22 hi hz0 hz1 hz2 rfl (by decide) _ k ((vals D).take k) rfl H10.out _ (i - k2) ((vals D).drop k2) rfl hcr2.out honeR.out (by unfold maxLen; omega) (by omega) hbs10 ?_))
            intro v11 w11 hown11 hgrow11
            obtain ⟨⟨A11, n11, c11, rfl, hn11⟩, hs11, hb11⟩ := FIN.out v11 w11 hown11 (by first | exact hgrow11 | (rw [List.length_take]; exact hgrow11))
            clear hown11 hgrow11 FIN
            go_wp2_with (fail)
            go_roundw
            case rel => exact ⟨⟨_, _, _, rfl⟩, hs11, hb11⟩
            case measure => simp [lenV]; omega
    · have hn0 : n = 0 := by omega
      subst hn0
      have hres := fun (t : Value) (h : Sel w rs wr (.slice A 0 c) t D O) => (show SortedR w rs (.returned t) wr from by
        have hD0 : D = [] := List.eq_nil_of_length_eq_zero hDn
        subst hD0
        refine ⟨t, vals O, O.map Prod.snd, rfl, by have := h.perm; simpa using this, ord_snd h.ord, ⟨Sl.own h.o, by rw [vals_length, List.length_map], fun i r hr => ?_⟩, hb⟩
        rw [List.getElem?_map] at hr
        cases hx : O[i]? with
        | none => rw [hx] at hr; cases hr
        | some x =>
          rw [hx] at hr
          cases hr
          exact ⟨x.1, by unfold vals; rw [List.getElem?_map, hx]; rfl, (h.up x (List.mem_of_getElem? hx)).at_⟩)
      have HRES := Lib.hid (hres _ hsel)
      clear hres hsel hz hDn hpl
      go_wp2_with (fail)
      go_ret
      exact HRES.out
end Go.Proofs.Ytaodobjekpacoaa
