/-
  THE TOURS OF package sets: next, withEmpty and what it hands back, Parts and what it hands back; the law's own parts.
-/
import Derived.Test.YtjidhdakigpoeaaDoorSeto
import Derived.Test.YtjidhdakigpoeaaDoorPart
import Derived.Test.YtjidhdakigpoeaaDoorIter
namespace Go.Proofs.YtjidhdakigpoeaaDoor
open Go.RowKit Go.Shelf
attribute [local go_sem] Oper.semAt_some
set_option maxHeartbeats 400000

theorem next_any (s p : Nat) (w : World) (hs : s < 18446744073709551616) (hp : p < 18446744073709551616) :
    Calls Tryd.prog 33 #[.int .u64 s, .int .u64 p] w fun e w' => e = .returned (.int .u64 (St.nextK 64 s p : Nat)) ∧ w = w' := by
  have hx : bits BinOp.xor IntKind.u64 IntKind.u64.max (s : Int) = ((18446744073709551615 - s : Nat) : Int) := by
    show bits BinOp.xor IntKind.u64 ((18446744073709551615 : Nat) : Int) (s : Int) = _
    rw [u64_xor_nat _ _ (by decide) hs]
    congr 1
    apply St.word_ext (Nat.xor_lt_two_pow (n := 64) (by decide) hs) (by omega)
    intro j hj
    rw [Nat.testBit_xor, St.testBit_not _ _ hs, St.ones_bit]
    simp [hj]
  have hlt : p ||| (18446744073709551615 - s) < 18446744073709551616 := Nat.or_lt_two_pow (n := 64) hp (by omega)
  have ho : bits BinOp.or IntKind.u64 (p : Int) ((18446744073709551615 - s : Nat) : Int) = ((p ||| (18446744073709551615 - s) : Nat) : Int) := u64_or_nat _ _ hp (by omega)
  have hw : IntKind.u64.wrap (((p ||| (18446744073709551615 - s) : Nat) : Int) + 1) = (((p ||| (18446744073709551615 - s)) + 1) % 18446744073709551616 : Nat) := by
    rw [IntKind.wrap_u64]
    generalize (p ||| (18446744073709551615 - s)) = m
    omega
  have ha : bits BinOp.and IntKind.u64 ((((p ||| (18446744073709551615 - s)) + 1) % 18446744073709551616 : Nat) : Int) (s : Int) = (St.nextK 64 s p : Nat) := by
    rw [u64_and_nat _ _ (Nat.mod_lt _ (by decide)) hs]; rfl
  have hsg : IntKind.u64.signed = false := rfl
  have H : Hid (bits BinOp.and IntKind.u64 (IntKind.u64.wrap (bits BinOp.or IntKind.u64 (p : Int) (bits BinOp.xor IntKind.u64 IntKind.u64.max (s : Int)) + 1)) (s : Int) = (St.nextK 64 s p : Nat)) := Lib.hid (by rw [hx, ho, hw, ha])
  clear hx ho hw ha hlt
  go_enter Tryd.func33, Tryd.ntmps33
  go_wp2
  go_ret
  exact ⟨ret_int H.out, rfl⟩

/-- the parts of s, the empty one first -/
def partsAll (s : Nat) : List Nat := (List.range (2 ^ St.pop 64 s)).map (St.pd 64 s)
theorem partsAll_take (s m : Nat) (h : m < 2 ^ St.pop 64 s) : (List.range m).map (St.pd 64 s) ++ [St.pd 64 s m] <+: partsAll s := by
  refine ⟨((List.range (2 ^ St.pop 64 s)).drop (m + 1)).map (St.pd 64 s), ?_⟩
  have : (List.range m).map (St.pd 64 s) ++ [St.pd 64 s m] = ((List.range (2 ^ St.pop 64 s)).take (m + 1)).map (St.pd 64 s) := by
    rw [List.take_range, Nat.min_eq_left h, List.range_succ, List.map_append]; rfl
  rw [this, ← List.map_append, List.take_append_drop]; rfl
def upTo (s m : Nat) : List Nat := (List.range m).map (St.pd 64 s)
theorem upTo_snoc (s m : Nat) : upTo s m ++ [St.pd 64 s m] = upTo s (m + 1) := by unfold upTo; rw [List.range_succ, List.map_append]; rfl

/-- withEmpty's tour -/
theorem empty_iter (m : Nat) (Bs s : Nat) (hs : s < 18446744073709551616) : IterC Fence.wide (m + 1) Tryd.prog 32 #[.pointer (some ⟨Bs, 0, none⟩)] (fun x : Nat => #[.int .u64 x]) (fun k => k = Bs)
    (fun W => W.cell? ⟨Bs, 0, none⟩ = some (.int .u64 s)) (partsAll s) := by
  intro l J Jx W O hpre hJ hJx hO hY h0
  have hbs : Bs < W.heap.size := by
    by_cases h : Bs < W.heap.size
    · exact h
    · unfold World.cell? at hpre; simp [Array.getElem?_eq_none (Nat.le_of_not_lt h)] at hpre
  have HY := Lib.hid hY
  have HO := Lib.hid hO
  have HS := Lib.hid hs
  clear hY hO hJ hJx hs
  refine callsIn_of_wp Tryd.func32 rfl trivial ?_ rfl
  simp only [Tryd.ntmps32, List.size_toArray, List.length_cons, List.length_nil, Nat.reduceAdd, Nat.reduceSub, Array.replicate_succ, Array.replicate_zero, List.push_toArray, List.append_toArray, List.nil_append, List.cons_append]
  gi_wp2
  gi_loopw [3] (fun p wr => ∃ (q : Nat) (O1 : Nat → Prop), q < 2 ^ St.pop 64 s ∧ p = .int .u64 (St.pd 64 s q : Nat) ∧ J (upTo s q) O1 wr ∧ wr.cell? ⟨Bs, 0, none⟩ = some (.int .u64 s) ∧ Bs < wr.heap.size) (fun p _ => s - (intOf p).toNat)
  case atStart =>
    exact ⟨0, O, Nat.two_pow_pos _, by rw [St.pd_zero]; rfl, h0, hpre, hbs⟩
  case round =>
    obtain ⟨q, O1, hq, rfl, hj, hcell, hlt⟩ := hrel
    have hpx := partsAll_take s q hq
    have hy1 := HY.out (upTo s q) _ O1 wr hj hpx
    have Hsn := Lib.hid (upTo_snoc s q)
    have Hlt := Lib.hid (St.pd_lt 64 s q)
    have Hnx := Lib.hid (St.next_pd 64 s q HS.out)
    have Hle := Lib.hid (St.pd_le 64 s q)
    have Hself := Lib.hid (St.pd_eq_self (k := 64) HS.out hq)
    have Hnb := Lib.hid (fun h => (HO.out _ _ _ hj Bs h).2 rfl)
    clear hj
    obtain ⟨pv, hpv⟩ : ∃ pv, pv = St.pd 64 s q := ⟨_, rfl⟩
    rw [← hpv] at hy1 hpx Hsn Hlt Hnx Hle Hself ⊢
    have Hpv := Lib.hid hpv
    have Hpx := Lib.hid hpx
    clear hpv hpx
    obtain ⟨fn, tmps, assign, body, hy, hR⟩ := hy1
    have HR := Lib.hid hR
    clear hR
    gi_wp2
    refine HR.out.mono ?_
    rintro e W' (⟨rfl, O', hj', hc⟩ | ⟨rfl, O', hjx', hc⟩)
    · have hcell' : W'.cell? ⟨Bs, 0, none⟩ = some (.int .u64 s) := by
        unfold World.cell? at hcell ⊢
        rw [hc.keeps.same Bs hlt Hnb.out]
        exact hcell
      have hlt' : Bs < W'.heap.size := Nat.lt_of_lt_of_le hlt hc.keeps.size
      clear hy HR hc
      by_cases he : pv = s
      · have hb : ((pv : Int) != (s : Int)) = false := by simp [he]
        have hall : upTo s q ++ [pv] = partsAll s := by
          rw [Hsn.out, upTo, partsAll, Hself.out.1 he]
        rw [hall] at hj'
        clear he hall
        gi_wp2
        go_end0
        exact ⟨⟨_, rfl⟩, .inl ⟨_, hj'⟩⟩
      · have hb : ((pv : Int) != (s : Int)) = true := by simp; omega
        have hq2 : q + 1 < 2 ^ St.pop 64 s := by
          have : q + 1 ≠ 2 ^ St.pop 64 s := fun h => he (Hself.out.2 h)
          omega
        have hlt2 : pv < s := by have := Hle.out; omega
        have hgt : Hid (pv < St.pd 64 s (q + 1)) := Lib.hid (by rw [Hpv.out]; exact St.pd_succ_lt 64 s q hq2)
        rw [Hsn.out] at hj'
        clear he
        gi_wp2_with fail
        refine ⟨trivial, (callsIn_wide.2 (next_any s pv _ HS.out Hlt.out)).mono ?_⟩
        rintro e w' ⟨rfl, rfl⟩
        rw [Hnx.out]
        gi_wp2
        go_roundw
        case rel => exact ⟨q + 1, O', hq2, rfl, hj', hcell', hlt'⟩
        case measure => have := hgt.out; simp [intOf]; omega
    · clear hy HR
      gi_wp2
      go_end0
      exact ⟨⟨_, rfl⟩, .inr ⟨_, _, Hpx.out, hjx'⟩⟩

theorem Tryd.rowU64 : (Tryd.prog.info? 22).map (fun i => (i.zero, i.size, i.bytes)) = some (some (.int .u64 0), 1, 8) := by kernel_rfl

theorem withEmpty_any (s : Nat) (w : World) :
    Calls Tryd.prog 31 #[.int .u64 s] w fun e w' => e = .returned (.func (.func 32) #[] #[.pointer (some ⟨w.heap.size, 0, none⟩)]) ∧ w' = w.alloc (.cells #[.int .u64 s] 22) := by
  go_enter Tryd.func31, Tryd.ntmps31
  go_wp2
  go_ret
  exact ⟨rfl, rfl⟩
theorem sParts_any (s : Nat) (w : World) :
    Calls Tryd.prog 29 #[.int .u64 s] w fun e w' => e = .returned (.func (.func 30) #[] #[.pointer (some ⟨w.heap.size, 0, none⟩)]) ∧ w' = w.alloc (.cells #[.int .u64 s] 22) := by
  go_enter Tryd.func29, Tryd.ntmps29
  go_wp2
  go_ret
  exact ⟨rfl, rfl⟩

/-- the fence that lets all in asks no depth -/
theorem roundIn_depth {a b l l2 : Nat} {P : Program} {f : FuncId} {tmps : Array Value} {assign body : Code} {w : World} {R : Ending → World → Prop} (h : RoundIn Fence.wide a P l f tmps assign body w R) :
    RoundIn (Fence.wide.inRound l2) b P l f tmps assign body w R := ⟨trivial, fun c cs _ => h.2 c cs (room_wide _)⟩

/-- the parts of s but the empty one -/
def partsOf (s : Nat) : List Nat := (partsAll s).tail
theorem partsAll_eq (s : Nat) : partsAll s = 0 :: partsOf s := by
  have : 0 < 2 ^ St.pop 64 s := Nat.two_pow_pos _
  unfold partsOf partsAll
  obtain ⟨k, hk⟩ : ∃ k, 2 ^ St.pop 64 s = k + 1 := ⟨2 ^ St.pop 64 s - 1, by omega⟩
  rw [hk, List.range_succ_eq_map, List.map_cons, St.pd_zero]
  rfl
theorem partsOf_pos (s x : Nat) (h : x ∈ partsOf s) : 0 < x := by
  unfold partsOf partsAll at h
  rw [← List.map_tail, List.mem_map] at h
  obtain ⟨n, hn, rfl⟩ := h
  have hn2 := List.mem_of_mem_tail hn
  rw [List.mem_range] at hn2
  refine St.pd_pos ?_ hn2
  rcases Nat.eq_zero_or_pos n with h0 | h0
  · subst h0
    exfalso
    cases hk : 2 ^ St.pop 64 s with
    | zero => rw [hk] at hn; simp at hn
    | succ k =>
      rw [hk, List.range_succ_eq_map] at hn
      simp at hn
  · exact h0
/-- what has come of the tour with the empty part, and what of the one without -/
theorem tail_first {s x : Nat} (h : ([] : List Nat) ++ [x] <+: partsAll s) : x = 0 := by
  rw [partsAll_eq] at h
  obtain ⟨r, hr⟩ := h
  simp at hr
  exact hr.1
theorem tail_later {s x : Nat} {pre : List Nat} (h0 : pre ≠ []) (h : pre ++ [x] <+: partsAll s) : pre.tail ++ [x] <+: partsOf s ∧ 0 < x ∧ (pre ++ [x]).tail = pre.tail ++ [x] := by
  cases pre with
  | nil => exact absurd rfl h0
  | cons y t =>
    rw [partsAll_eq] at h
    obtain ⟨r, hr⟩ := h
    simp only [List.cons_append, List.cons.injEq] at hr
    have hp : t ++ [x] <+: partsOf s := ⟨r, hr.2⟩
    exact ⟨hp, partsOf_pos s x (hp.subset (by simp)), rfl⟩

theorem parts_iter (m : Nat) (Bs s : Nat) (hs : s < 18446744073709551616) : IterC Fence.wide (m + 2) Tryd.prog 30 #[.pointer (some ⟨Bs, 0, none⟩)] (fun x : Nat => #[.int .u64 x]) (fun k => k = Bs)
    (fun W => W.cell? ⟨Bs, 0, none⟩ = some (.int .u64 s)) (partsOf s) := by
  intro l J Jx W O hpre hJ hJx hO hY h0
  have hbs : Bs < W.heap.size := by
    by_cases h : Bs < W.heap.size
    · exact h
    · unfold World.cell? at hpre; simp [Array.getElem?_eq_none (Nat.le_of_not_lt h)] at hpre
  have HY := Lib.hid hY
  have HO := Lib.hid hO
  have HS := Lib.hid hs
  have HJ := Lib.hid hJ
  have HJx := Lib.hid hJx
  clear hY hO hJ hJx hs
  refine callsIn_of_wp_marks Tryd.func30 rfl trivial ?_ rfl
  simp only [Tryd.ntmps30, List.size_toArray, List.length_cons, List.length_nil, Nat.reduceAdd, Nat.reduceSub, Array.replicate_succ, Array.replicate_zero, List.push_toArray, List.append_toArray, List.nil_append, List.cons_append]
  have hpre2 : (W.alloc (.cells #[.func (.yield l) #[] #[]] 45)).cell? ⟨Bs, 0, none⟩ = some (.int .u64 s) := (World.cell?_alloc_lt W _ _ hbs).trans hpre
  gi_wp2_with fail
  refine ⟨trivial, (callsIn_wide.2 (withEmpty_any s _)).mono ?_⟩
  rintro e w' ⟨rfl, rfl⟩
  gi_wp2_with fail
  have hBy : ∀ o, ((W.alloc (.cells #[.func (.yield l) #[] #[]] 45)).alloc o).cell? ⟨W.heap.size, 0, none⟩ = some (.func (.yield l) #[] #[]) := fun o =>
    (World.cell?_alloc_lt _ _ _ (by simp)).trans (Boxed.new W 45 (.func (.yield l) #[] #[])).cell
  have hBs2 : ((W.alloc (.cells #[.func (.yield l) #[] #[]] 45)).alloc (.cells #[.int .u64 s] 22)).cell? ⟨W.heap.size + 1, 0, none⟩ = some (.int .u64 s) := by
    have := (Boxed.new (W.alloc (.cells #[.func (.yield l) #[] #[]] 45)) 22 (.int .u64 s)).cell
    rwa [World.size_alloc] at this
  have hBy1 := hBy (.cells #[.int .u64 s] 22)
  clear hBy
  obtain ⟨w2, hw2⟩ : ∃ w2, (W.alloc (.cells #[.func (.yield l) #[] #[]] 45)).alloc (.cells #[.int .u64 s] 22) = w2 := ⟨_, rfl⟩
  have hk2 : ∀ S, Keeps S W w2 := fun S => by rw [← hw2]; exact (Keeps.alloc S W _).trans (Keeps.alloc S _ _)
  have hsz2 : w2.heap.size = W.heap.size + 2 := by rw [← hw2]; simp
  rw [hw2] at hBy1 hBs2 ⊢
  clear hw2 hpre2
  -- what holds between two rounds
  let I : List Nat → (Nat → Prop) → World → Prop := fun pre O W' => J pre.tail O W' ∧ W'.cell? ⟨W.heap.size, 0, none⟩ = some (.func (.yield l) #[] #[]) ∧ W.heap.size + 1 < W'.heap.size ∧ ¬ O W.heap.size ∧ ¬ O (W.heap.size + 1)
  let Ix : Code → List Nat → (Nat → Prop) → World → Prop := fun c pre O W' => c = .ret ∧ (∃ p, p <+: partsOf s ∧ Jx p O W') ∧ W.heap.size + 1 < W'.heap.size ∧ ¬ O W.heap.size ∧ ¬ O (W.heap.size + 1)
  refine wpIn_range_sep rfl (by omega) (gf := 32) (lb := #[.pointer (some ⟨W.heap.size + 1, 0, none⟩)]) rfl trivial (enters_of Tryd.func32 (by kernel_rfl) rfl)
    (empty_iter m (W.heap.size + 1) s HS.out) ?hpre ?hC (fun _ => rfl) I Ix ?hI ?hIx ?hIO O ?hO ?h0
    (fun x => { tmps := #[.func (.yield l) #[] #[], .pointer (some ⟨Bs, 0, none⟩), .pointer (some ⟨W.heap.size, 0, none⟩), .int .u64 x, .int .u64 s, .func (.func 32) #[] #[.pointer (some ⟨W.heap.size + 1, 0, none⟩)], .int .u64 x, undef, undef, undef, undef, undef, undef, undef, undef], defers := [] })
    ?assign ?body ?done ?stop
  case hpre => exact fun W3 hb => (hb.cell (p := ⟨W.heap.size + 1, 0, none⟩) (by simp; omega)).trans hBs2
  case hC => intro k hk; omega
  case hI =>
    rintro pre O1 A B ⟨h1, h2, h3, h4, h5⟩ hk
    refine ⟨HJ.out _ _ _ _ h1 (hk.mono (fun k hh => hh.elim .inl (fun h => .inr (by omega)))), ?_, Nat.lt_of_lt_of_le h3 hk.size, h4, h5⟩
    unfold World.cell? at h2 ⊢
    rw [hk.same W.heap.size (by omega) (.inr (by omega))]
    exact h2
  case hIx =>
    rintro c pre O1 A B ⟨h1, ⟨p, h2, h2'⟩, h3, h4, h5⟩ hk
    exact ⟨h1, ⟨p, h2, HJx.out _ _ _ _ h2' (hk.mono (fun k hh => hh.elim .inl (fun h => .inr (by omega))))⟩, Nat.lt_of_lt_of_le h3 hk.size, h4, h5⟩
  case hIO =>
    rintro pre O1 A ⟨h1, h2, h3, h4, h5⟩ k hk
    exact ⟨(HO.out _ _ _ h1 k hk).1, fun e => h5 (e ▸ hk)⟩
  case hO => intro k hk; have := (HO.out _ _ _ h0 k hk).1; omega
  case h0 =>
    exact ⟨HJ.out _ _ _ _ h0 (hk2 _), hBy1, by omega, fun h => by have := (HO.out _ _ _ h0 _ h).1; omega, fun h => by have := (HO.out _ _ _ h0 _ h).1; omega⟩
  case assign =>
    intro l2 x W3 K hK
    gi_wp2
    exact hK
  case body =>
    intro l2 pre x O1 W3 hl2 hi hpx
    by_cases hne : pre = []
    · subst hne
      obtain rfl := tail_first hpx
      have hb : (((0 : Nat) : Int) != 0) = false := rfl
      gi_wp2
      refine ⟨fun _ h => (by cases h), ?_⟩
      gi_wp2
      exact ⟨O1, hi, Chg.refl _ _⟩
    · obtain ⟨hp, hpos, htl⟩ := tail_later hne hpx
      obtain ⟨hj, hcell, hsz, hn1, hn2⟩ := hi
      have hb : ((x : Int) != 0) = true := by simp; omega
      obtain ⟨fn, tmps, assign, body, hy, hR⟩ := HY.out _ _ _ _ hj hp
      have HR := Lib.hid (fun b => roundIn_depth (b := b) (l2 := l2) hR)
      have Htl := Lib.hid htl
      have Hp := Lib.hid hp
      have Hn1 := Lib.hid hn1
      have Hn2 := Lib.hid hn2
      clear hR htl hp hj hpx hpos hne hn1 hn2
      gi_wp2
      refine ⟨fun h => (by cases h), (HR.out _).mono ?_⟩
      have own' : ∀ (O' : Nat → Prop) (W' : World), Chg O1 W3 O' W' → W'.cell? ⟨W.heap.size, 0, none⟩ = some (.func (.yield l) #[] #[]) ∧ W.heap.size + 1 < W'.heap.size ∧ ¬ O' W.heap.size ∧ ¬ O' (W.heap.size + 1) := fun _ _ hc =>
        ⟨by unfold World.cell? at hcell ⊢; rw [hc.keeps.same W.heap.size (by omega) Hn1.out]; exact hcell, Nat.lt_of_lt_of_le hsz hc.keeps.size, fun h => Hn1.out (hc.own _ (by omega) h), fun h => Hn2.out (hc.own _ (by omega) h)⟩
      have Own := Lib.hid own'
      clear own'
      rintro e W' (⟨rfl, O', hj', hc⟩ | ⟨rfl, O', hjx', hc⟩)
      · have Hc := Lib.hid hc
        clear hc hy HR
        gi_wp2
        exact ⟨O', ⟨by rw [Htl.out]; exact hj', Own.out _ _ Hc.out⟩, Hc.out⟩
      · have Hc := Lib.hid hc
        clear hc hy HR
        gi_wp2
        exact ⟨O', ⟨rfl, ⟨_, Hp.out, hjx'⟩, (Own.out _ _ Hc.out).2⟩, Hc.out⟩
  case done =>
    rintro D O1 W3 hD ⟨hj, _⟩ hOD hK
    have hj2 : J (partsOf s) O1 W3 := hj
    have hk : Keeps (fun k => O1 k ∨ k < W.heap.size) W3 (W3.putObj D (.deferred none)) := Keeps.putObj W3 D _ (by
      rintro (h | h)
      · exact hOD h
      · omega)
    have hj3 : J (partsOf s) O1 (W3.putObj D (.deferred none)) := HJ.out _ _ _ _ hj2 hk
    have Hj3 := Lib.hid hj3
    clear hj hj2 hj3 hk
    gi_wp2
    refine ⟨by simp, .inl ⟨_, _, rfl, run_takeDeferred hK, ?_⟩⟩
    exact ⟨_, results_none rfl _ _ _, ⟨_, rfl⟩, .inl ⟨O1, Hj3.out⟩⟩
  case stop =>
    rintro D c pre O1 W3 hD hpx ⟨rfl, ⟨p, hp, hjx⟩, _⟩ hOD hK
    have hk : Keeps (fun k => O1 k ∨ k < W.heap.size) W3 (W3.putObj D (.deferred none)) := Keeps.putObj W3 D _ (by
      rintro (h | h)
      · exact hOD h
      · omega)
    have hj3 : Jx p O1 (W3.putObj D (.deferred none)) := HJx.out _ _ _ _ hjx hk
    have Hj3 := Lib.hid hj3
    clear hjx hj3 hk
    gi_wp2
    refine ⟨by simp, .inl ⟨_, _, rfl, run_takeDeferred hK, ?_⟩⟩
    exact ⟨_, results_none rfl _ _ _, ⟨_, rfl⟩, .inr ⟨p, O1, hp, Hj3.out⟩⟩
end Go.Proofs.YtjidhdakigpoeaaDoor
