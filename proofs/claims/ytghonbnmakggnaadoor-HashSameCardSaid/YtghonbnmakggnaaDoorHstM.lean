/-
  TERMS AND PAIRS OF TERMS IN MEMORY; package hash: within, side.
-/
import Derived.Test.YtghonbnmakggnaaDoorHsmM
import Derived.Test.YtghonbnmakggnaaDoorMtaM
import Derived.Test.YtghonbnmakggnaaDoorGPred
import Derived.Test.YtghonbnmakggnaaDoorGBase
import Derived.Test.YtghonbnmakggnaaDoorGTerms
import Derived.Lib.Hide
namespace Go.Proofs.YtghonbnmakggnaaDoor
open Go.RowKit Go.Sort
set_option maxHeartbeats 3200000

def Tm.cells (x : Tm) : List Value := [.int .i64 x.k, .int .i64 x.t, .int .i64 x.c, .bool x.z, .int .i64 x.n]
def tmCells (xs : List Tm) : List Value := xs.flatMap Tm.cells
def kyCells (ks : List (Tm × Tm)) : List Value := ks.flatMap fun c => c.1.cells ++ c.2.cells
theorem tmCells_length (xs : List Tm) : (tmCells xs).length = xs.length * 5 := by
  unfold tmCells
  induction xs with
  | nil => rfl
  | cons x xs ih => rw [List.flatMap_cons, List.length_append, ih, List.length_cons]; show 5 + _ = _; omega
theorem kyCells_length (ks : List (Tm × Tm)) : (kyCells ks).length = ks.length * 10 := by
  unfold kyCells
  induction ks with
  | nil => rfl
  | cons x xs ih => rw [List.flatMap_cons, List.length_append, ih, List.length_cons]; show 10 + _ = _; omega
theorem tm_ones (x : Tm) : ∀ u ∈ x.cells, u.oneCell' = true := by
  intro u hu
  simp only [Tm.cells, List.mem_cons, List.not_mem_nil, or_false] at hu
  rcases hu with rfl | rfl | rfl | rfl | rfl <;> rfl
theorem ky_ones (c : Tm × Tm) : ∀ u ∈ c.1.cells ++ c.2.cells, u.oneCell' = true := fun u hu => (List.mem_append.1 hu).elim (tm_ones _ u) (tm_ones _ u)
theorem tmCells_snoc (xs : List Tm) (x : Tm) : tmCells (xs ++ [x]) = tmCells xs ++ x.cells := by simp [tmCells]
theorem kyCells_snoc (xs : List (Tm × Tm)) (x : Tm × Tm) : kyCells (xs ++ [x]) = kyCells xs ++ (x.1.cells ++ x.2.cells) := by simp [kyCells]
theorem flat_at15 {α : Type} (f : α → List Value) (s : Nat) (hs : ∀ x, (f x).length = s) : ∀ (l : List α) (j : Nat) (x : α), l[j]? = some x → ∀ k, k < s → (l.flatMap f)[j * s + k]? = (f x)[k]?
  | [], j, x, h, k, _ => by simp at h
  | y :: l, 0, x, h, k, hk => by
    cases h
    rw [List.flatMap_cons, Nat.zero_mul, Nat.zero_add, List.getElem?_append_left (by rw [hs]; exact hk)]
  | y :: l, j + 1, x, h, k, hk => by
    rw [List.flatMap_cons, List.getElem?_append_right (by rw [hs, Nat.succ_mul]; omega), hs]
    rw [show (j + 1) * s + k - s = j * s + k by rw [Nat.succ_mul]; omega]
    exact flat_at15 f s hs l j x (by simpa using h) k hk
structure TmCell (w : World) (X : Addr) (x : Tm) : Prop where
  c0 : w.cell? X = some (.int .i64 x.k)
  c1 : w.cell? ⟨X.block, X.off + 1, none⟩ = some (.int .i64 x.t)
  c2 : w.cell? ⟨X.block, X.off + 2, none⟩ = some (.int .i64 x.c)
  c3 : w.cell? ⟨X.block, X.off + 3, none⟩ = some (.bool x.z)
  c4 : w.cell? ⟨X.block, X.off + 4, none⟩ = some (.int .i64 x.n)
structure KyCell (w : World) (X : Addr) (x y : Tm) : Prop where
  c0 : w.cell? X = some (.int .i64 x.k)
  c1 : w.cell? ⟨X.block, X.off + 1, none⟩ = some (.int .i64 x.t)
  c2 : w.cell? ⟨X.block, X.off + 2, none⟩ = some (.int .i64 x.c)
  c3 : w.cell? ⟨X.block, X.off + 3, none⟩ = some (.bool x.z)
  c4 : w.cell? ⟨X.block, X.off + 4, none⟩ = some (.int .i64 x.n)
  c5 : w.cell? ⟨X.block, X.off + 5, none⟩ = some (.int .i64 y.k)
  c6 : w.cell? ⟨X.block, X.off + 6, none⟩ = some (.int .i64 y.t)
  c7 : w.cell? ⟨X.block, X.off + 7, none⟩ = some (.int .i64 y.c)
  c8 : w.cell? ⟨X.block, X.off + 8, none⟩ = some (.bool y.z)
  c9 : w.cell? ⟨X.block, X.off + 9, none⟩ = some (.int .i64 y.n)
/-- the slice value v reads as the terms xs; as the pairs ks -/
def TmsAt (w : World) (v : Value) (xs : List Tm) : Prop :=
  ∃ A c, v = .slice A xs.length c ∧ xs.length ≤ c ∧ ∀ j x, xs[j]? = some x → ∃ b o p, A = some ⟨b, o, p⟩ ∧ b < w.heap.size ∧ TmCell w ((⟨b, o, p⟩ : Addr).add (j * 5)) x
def KysAt (w : World) (v : Value) (ks : List (Tm × Tm)) : Prop :=
  ∃ A c, v = .slice A ks.length c ∧ ks.length ≤ c ∧ ∀ j x, ks[j]? = some x → ∃ b o p, A = some ⟨b, o, p⟩ ∧ b < w.heap.size ∧ KyCell w ((⟨b, o, p⟩ : Addr).add (j * 10)) x.1 x.2
theorem TmCell.below {w w' : World} {B : Nat} {X : Addr} {x : Tm} (h : TmCell w X x) (hb : Below B w w') (hX : X.block < B) : TmCell w' X x :=
  have k := fun (o : Nat) => hb.cell (p := ⟨X.block, o, none⟩) hX
  ⟨(hb.cell hX).trans h.c0, (k _).trans h.c1, (k _).trans h.c2, (k _).trans h.c3, (k _).trans h.c4⟩
theorem KyCell.below {w w' : World} {B : Nat} {X : Addr} {x y : Tm} (h : KyCell w X x y) (hb : Below B w w') (hX : X.block < B) : KyCell w' X x y :=
  have k := fun (o : Nat) => hb.cell (p := ⟨X.block, o, none⟩) hX
  ⟨(hb.cell hX).trans h.c0, (k _).trans h.c1, (k _).trans h.c2, (k _).trans h.c3, (k _).trans h.c4, (k _).trans h.c5, (k _).trans h.c6, (k _).trans h.c7, (k _).trans h.c8, (k _).trans h.c9⟩
variable {w w' : World} {v : Value} {B : Nat}
theorem TmsAt.below {xs : List Tm} (h : TmsAt w v xs) (hb : Below B w w') (hB : w.heap.size ≤ B) : TmsAt w' v xs := by
  obtain ⟨A, c, hv, hc, hx⟩ := h
  exact ⟨A, c, hv, hc, fun j x hj => by obtain ⟨b, o, p, h1, h2, h3⟩ := hx j x hj; exact ⟨b, o, p, h1, Nat.lt_of_lt_of_le h2 hb.size, h3.below hb (by rw [add_block]; show b < B; omega)⟩⟩
theorem KysAt.below {xs : List (Tm × Tm)} (h : KysAt w v xs) (hb : Below B w w') (hB : w.heap.size ≤ B) : KysAt w' v xs := by
  obtain ⟨A, c, hv, hc, hx⟩ := h
  exact ⟨A, c, hv, hc, fun j x hj => by obtain ⟨b, o, p, h1, h2, h3⟩ := hx j x hj; exact ⟨b, o, p, h1, Nat.lt_of_lt_of_le h2 hb.size, h3.below hb (by rw [add_block]; show b < B; omega)⟩⟩
theorem TmsAt.form {xs : List Tm} (h : TmsAt w v xs) : ∃ A c, v = .slice A xs.length c ∧ xs.length ≤ c := by obtain ⟨A, c, hv, hc, _⟩ := h; exact ⟨A, c, hv, hc⟩
theorem KysAt.form {xs : List (Tm × Tm)} (h : KysAt w v xs) : ∃ A c, v = .slice A xs.length c ∧ xs.length ≤ c := by obtain ⟨A, c, hv, hc, _⟩ := h; exact ⟨A, c, hv, hc⟩
theorem TmsAt.at_ {A : Option Addr} {n c : Nat} {xs : List Tm} (h : TmsAt w (.slice A n c) xs) {j : Nat} {x : Tm} (hj : xs[j]? = some x) :
    ∃ b o p, A = some ⟨b, o, p⟩ ∧ ∀ W, Below w.heap.size w W → TmCell W ((⟨b, o, p⟩ : Addr).add (j * 5)) x := by
  obtain ⟨A', c', hv, _, hx⟩ := h
  cases hv
  obtain ⟨b, o, p, h1, h2, h3⟩ := hx j x hj
  exact ⟨b, o, p, h1, fun W hb => h3.below hb (by rw [add_block]; exact h2)⟩
theorem KysAt.at_ {A : Option Addr} {n c : Nat} {xs : List (Tm × Tm)} (h : KysAt w (.slice A n c) xs) {j : Nat} {x : Tm × Tm} (hj : xs[j]? = some x) :
    ∃ b o p, A = some ⟨b, o, p⟩ ∧ ∀ W, Below w.heap.size w W → KyCell W ((⟨b, o, p⟩ : Addr).add (j * 10)) x.1 x.2 := by
  obtain ⟨A', c', hv, _, hx⟩ := h
  cases hv
  obtain ⟨b, o, p, h1, h2, h3⟩ := hx j x hj
  exact ⟨b, o, p, h1, fun W hb => h3.below hb (by rw [add_block]; exact h2)⟩
theorem TmsAt.cut {A : Option Addr} {n c : Nat} {xs : List Tm} (h : TmsAt w (.slice A n c) xs) {k : Nat} (hk : k ≤ n) : TmsAt w (.slice A k c) (xs.take k) := by
  obtain ⟨A', c', hv, hc, hx⟩ := h
  cases hv
  refine ⟨A, c, by rw [List.length_take]; congr 1; omega, by rw [List.length_take]; omega, fun j x hj => ?_⟩
  rw [List.getElem?_take] at hj
  split at hj
  · exact hx j x hj
  · cases hj
theorem TmsAt.own {base : Nat} {e : TypeId} {n : Nat} {xs : List Tm} (h : w.ownsRow base e 5 v n (tmCells xs)) (hn : xs.length = n) : TmsAt w v xs := by
  rcases id h.2 with ⟨hv, h0⟩ | ⟨g, cap, cur, hv, hb, hg, hnc, _⟩
  · refine ⟨none, 0, by rw [hv, hn, h0], by omega, fun j x hj => ?_⟩
    obtain rfl : xs = [] := List.eq_nil_of_length_eq_zero (by omega)
    simp at hj
  · refine ⟨some ⟨g, 0, none⟩, cap, by rw [hv, hn], by omega, fun j x hj => ⟨g, 0, none, rfl, (Array.getElem?_eq_some_iff.1 hg).1, ?_⟩⟩
    have hc := fun k (hk : k < 5) => flat_at15 Tm.cells 5 (fun _ => rfl) xs j x hj k hk
    have hr := fun k u (hu : (tmCells xs)[k]? = some u) => h.cells (g := g) (by rw [hv]; rfl) k u hu
    simp only [add_here13] at hr ⊢
    exact ⟨hr _ _ (hc 0 (by decide)), hr _ _ (hc 1 (by decide)), hr _ _ (hc 2 (by decide)), hr _ _ (hc 3 (by decide)), hr _ _ (hc 4 (by decide))⟩
theorem KysAt.own {base : Nat} {e : TypeId} {n : Nat} {xs : List (Tm × Tm)} (h : w.ownsRow base e 10 v n (kyCells xs)) (hn : xs.length = n) : KysAt w v xs := by
  rcases id h.2 with ⟨hv, h0⟩ | ⟨g, cap, cur, hv, hb, hg, hnc, _⟩
  · refine ⟨none, 0, by rw [hv, hn, h0], by omega, fun j x hj => ?_⟩
    obtain rfl : xs = [] := List.eq_nil_of_length_eq_zero (by omega)
    simp at hj
  · refine ⟨some ⟨g, 0, none⟩, cap, by rw [hv, hn], by omega, fun j x hj => ⟨g, 0, none, rfl, (Array.getElem?_eq_some_iff.1 hg).1, ?_⟩⟩
    have hc := fun k (hk : k < 10) => flat_at15 (fun c : Tm × Tm => c.1.cells ++ c.2.cells) 10 (fun _ => rfl) xs j x hj k hk
    have hr := fun k u (hu : (kyCells xs)[k]? = some u) => h.cells (g := g) (by rw [hv]; rfl) k u hu
    simp only [add_here13] at hr ⊢
    exact ⟨hr _ _ (hc 0 (by decide)), hr _ _ (hc 1 (by decide)), hr _ _ (hc 2 (by decide)), hr _ _ (hc 3 (by decide)), hr _ _ (hc 4 (by decide)), hr _ _ (hc 5 (by decide)), hr _ _ (hc 6 (by decide)), hr _ _ (hc 7 (by decide)), hr _ _ (hc 8 (by decide)), hr _ _ (hc 9 (by decide))⟩
/-- what a call hands back: a slice of its own -/
def OwnTms (w : World) (xs : List Tm) (E : Ending) (w' : World) : Prop := ∃ v, E = .returned v ∧ w'.ownsRow w.heap.size 35 5 v xs.length (tmCells xs) ∧ Below w.heap.size w w'
def OwnKys (w : World) (ks : List (Tm × Tm)) (E : Ending) (w' : World) : Prop := ∃ v, E = .returned v ∧ w'.ownsRow w.heap.size 36 10 v ks.length (kyCells ks) ∧ Below w.heap.size w w'
theorem Tryd.infoTerm15 : (Tryd.prog.info? 35).map (fun i => (i.zero, i.size, i.bytes)) = some (some (.agg #[.int .i64 0, .int .i64 0, .int .i64 0, .bool false, .int .i64 0]), 5, 40) := by kernel_rfl
theorem Tryd.infoKey15 : (Tryd.prog.info? 36).map (fun i => (i.zero, i.size, i.bytes)) = some (some (.agg #[.int .i64 0, .int .i64 0, .int .i64 0, .bool false, .int .i64 0, .int .i64 0, .int .i64 0, .int .i64 0, .bool false, .int .i64 0]), 10, 80) := by kernel_rfl
theorem inn_lt (x : Tm) : Te.tables x < 18446744073709551616 := by
  unfold Te.tables
  split
  · exact St.ofN_lt _
  · decide
theorem hwithin_any (x : Tm) (s : Nat) (w : World) (hs : s < 18446744073709551616) :
    Calls Tryd.prog 17 #[.agg #[.int .i64 x.k, .int .i64 x.t, .int .i64 x.c, .bool x.z, .int .i64 x.n], .int .u64 (s : Int)] w fun e w' => e = .returned (.bool (Hs.inn s x)) ∧ Below w.heap.size w w' := by
  have ct := fun W => ttables_any x.k x.t x.c x.z x.n W
  have hl := inn_lt x
  have HI : Hid (Hs.inn s x = decide (Te.tables x &&& s ≠ 0)) := Lib.hid rfl
  obtain ⟨tb, htb⟩ : ∃ tb, tb = Te.tables x := ⟨_, rfl⟩
  rw [← htb] at hl HI
  have ct2 : ∀ W, Calls Tryd.prog 30 #[.agg #[.int .i64 x.k, .int .i64 x.t, .int .i64 x.c, .bool x.z, .int .i64 x.n]] W fun e w' => e = .returned (.int .u64 (tb : Int)) ∧ Below W.heap.size W w' := by rw [htb]; exact ct
  have hand := bits_and_u64_nat tb s hl hs
  generalize hz : tb &&& s = z at hand HI
  have hb0 := below_new w (Obj.cells #[.int .i64 x.k, .int .i64 x.t, .int .i64 x.c, .bool x.z, .int .i64 x.n] 35)
  have HB := Lib.hid hb0
  clear ct htb hl hs hz hb0
  go_enter Tryd.func17, Tryd.ntmps17
  go_wp2_with fail
  refine (ct2 _).mono ?_
  rintro e w1 ⟨rfl, hb1⟩
  have hb2 := below_join HB.out hb1
  clear ct2 hb1
  go_wp2_with fail
  go_ret
  exact ⟨ret_bool (by rw [HI.out, Bool.eq_iff_iff]; simp), hb2⟩
set_option maxRecDepth 100000 in
theorem hside0_any (kv : Value) (ks : List (Tm × Tm)) (w : World) (hk : KysAt w kv ks) (hn100 : ks.length ≤ 1000) :
    Calls Tryd.prog 27 #[kv, .int .i64 0] w (OwnTms w (ks.map Prod.fst)) := by
  obtain ⟨i0, hi, hz0, hz1, hz2⟩ := info_parts Tryd.infoTerm15
  obtain ⟨K0, c0, rfl, _⟩ := hk.form
  obtain ⟨n, hn⟩ : ∃ n, n = ks.length := ⟨_, rfl⟩
  rw [← hn] at hk hn100 ⊢
  have HK := Lib.hid hk
  have HN := Lib.hid hn
  clear hk hn
  go_enter Tryd.func27, Tryd.ntmps27
  go_wp2_with fail
  go_loopw [5, 10] (fun s i wr => ∃ (q : Nat) (u : Value), q ≤ n ∧ i = .int .i64 q ∧ u = s ∧ wr.ownsRow w.heap.size 35 5 u q (tmCells ((ks.map Prod.fst).take q)) ∧ Below w.heap.size w wr) (fun _ i _ => n - (intOf i).toNat)
  case atStart => exact ⟨0, _, Nat.zero_le _, rfl, rfl, World.ownsRow_nil _ _ _ _, Below.refl _ _⟩
  case round =>
    obtain ⟨q, u, hq, rfl, rfl, hown, hb⟩ := hrel
    by_cases hlt : q < n
    · obtain ⟨⟨x, y⟩, gx⟩ : ∃ x, ks[q]? = some x := ⟨ks[q]'(by have := HN.out; omega), List.getElem?_eq_getElem _⟩
      obtain ⟨b, o, p, rfl, hx⟩ := HK.out.at_ gx
      obtain ⟨y0, y1, y2, y3, y4, y5, y6, y7, y8, y9⟩ := hx wr hb
      have HT := Lib.hid (show tmCells ((ks.map Prod.fst).take (q + 1)) = tmCells ((ks.map Prod.fst).take q) ++ x.cells by rw [List.take_add_one, List.getElem?_map, gx]; exact tmCells_snoc _ _)
      have i1 : (0 : Int) ≤ (q : Int) := by omega
      have i2 : (q : Int) < (n : Int) := by omega
      have hnw := (below_new wr (Obj.cells #[.int .i64 x.k, .int .i64 x.t, .int .i64 x.c, .bool x.z, .int .i64 x.n, .int .i64 y.k, .int .i64 y.t, .int .i64 y.c, .bool y.z, .int .i64 y.n] 36))
      have hcm := Lib.hid (CameN.new (wr.alloc (Obj.cells #[.int .i64 x.k, .int .i64 x.t, .int .i64 x.c, .bool x.z, .int .i64 x.n, .int .i64 y.k, .int .i64 y.t, .int .i64 y.c, .bool y.z, .int .i64 y.n] 36)) 35 5 1 [.int .i64 x.k, .int .i64 x.t, .int .i64 x.c, .bool x.z, .int .i64 x.n] (wr.heap.size + 1) (by rw [World.size_alloc]) rfl)
      have HO := Lib.hid ((hown.alloc (Obj.cells #[.int .i64 x.k, .int .i64 x.t, .int .i64 x.c, .bool x.z, .int .i64 x.n, .int .i64 y.k, .int .i64 y.t, .int .i64 y.c, .bool y.z, .int .i64 y.n] 36)).alloc (Obj.cells [.int .i64 x.k, .int .i64 x.t, .int .i64 x.c, .bool x.z, .int .i64 x.n].toArray 35))
      have HB := Lib.hid (hb.trans (below_low (below_join hnw (below_new (wr.alloc (Obj.cells #[.int .i64 x.k, .int .i64 x.t, .int .i64 x.c, .bool x.z, .int .i64 x.n, .int .i64 y.k, .int .i64 y.t, .int .i64 y.c, .bool y.z, .int .i64 y.n] 36)) (Obj.cells [.int .i64 x.k, .int .i64 x.t, .int .i64 x.c, .bool x.z, .int .i64 x.n].toArray 35))) hb.size))
      have HL := Lib.hid (fun k hk => (hown.lt k hk).1)
      clear gx hx hown hb hnw hlt
      go_wp2_with (first
        | (at_builtin; refine wpList_append_n _ rfl _ _ 31 rfl w.heap.size 35 i0 (.agg #[.int .i64 0, .int .i64 0, .int .i64 0, .bool false, .int .i64 0]) 5 40 Tryd.underlying31 hi hz0 hz1 hz2 rfl (by decide) _ q _ rfl HO.out _ 1 [.int .i64 x.k, .int .i64 x.t, .int .i64 x.c, .bool x.z, .int .i64 x.n] rfl hcm.out (tm_ones x) ?c3 ?c4 ?c5 ?_))
      case c3 => unfold maxLen; omega
      case c4 => omega
      case c5 => simpa using HB.out.size
      intro v1 w5 hown1 hgrow
      have hb5 : Below w.heap.size w w5 := HB.out.grown hgrow HB.out.size HL.out
      have hown5 : w5.ownsRow w.heap.size 35 5 v1 (q + 1) (tmCells ((ks.map Prod.fst).take (q + 1))) := by rw [HT.out]; exact hown1
      clear hown1 hgrow y0 y1 y2 y3 y4 y5 y6 y7 y8 y9
      go_wp2_with fail
      go_roundw
      case rel => exact ⟨q + 1, v1, by omega, by go_num, rfl, hown5, hb5⟩
      case measure => simp [intOf]; omega
    · have hres := Lib.hid (show OwnTms w (ks.map Prod.fst) (.returned u) wr from ⟨u, rfl, by
        rw [List.take_of_length_le (by rw [List.length_map]; have := HN.out; omega)] at hown
        rw [List.length_map, ← HN.out]
        obtain rfl : q = n := by omega
        exact hown, hb⟩)
      have i2 : ¬ ((q : Int) < (n : Int)) := by omega
      clear hown hb hlt
      go_wp2_with fail
      go_ret
      exact hres.out
set_option maxRecDepth 100000 in
theorem hside1_any (kv : Value) (ks : List (Tm × Tm)) (w : World) (hk : KysAt w kv ks) (hn100 : ks.length ≤ 1000) :
    Calls Tryd.prog 27 #[kv, .int .i64 1] w (OwnTms w (ks.map Prod.snd)) := by
  obtain ⟨i0, hi, hz0, hz1, hz2⟩ := info_parts Tryd.infoTerm15
  obtain ⟨K0, c0, rfl, _⟩ := hk.form
  obtain ⟨n, hn⟩ : ∃ n, n = ks.length := ⟨_, rfl⟩
  rw [← hn] at hk hn100 ⊢
  have HK := Lib.hid hk
  have HN := Lib.hid hn
  clear hk hn
  go_enter Tryd.func27, Tryd.ntmps27
  go_wp2_with fail
  go_loopw [5, 10] (fun s i wr => ∃ (q : Nat) (u : Value), q ≤ n ∧ i = .int .i64 q ∧ u = s ∧ wr.ownsRow w.heap.size 35 5 u q (tmCells ((ks.map Prod.snd).take q)) ∧ Below w.heap.size w wr) (fun _ i _ => n - (intOf i).toNat)
  case atStart => exact ⟨0, _, Nat.zero_le _, rfl, rfl, World.ownsRow_nil _ _ _ _, Below.refl _ _⟩
  case round =>
    obtain ⟨q, u, hq, rfl, rfl, hown, hb⟩ := hrel
    by_cases hlt : q < n
    · obtain ⟨⟨x, y⟩, gx⟩ : ∃ x, ks[q]? = some x := ⟨ks[q]'(by have := HN.out; omega), List.getElem?_eq_getElem _⟩
      obtain ⟨b, o, p, rfl, hx⟩ := HK.out.at_ gx
      obtain ⟨y0, y1, y2, y3, y4, y5, y6, y7, y8, y9⟩ := hx wr hb
      have HT := Lib.hid (show tmCells ((ks.map Prod.snd).take (q + 1)) = tmCells ((ks.map Prod.snd).take q) ++ y.cells by rw [List.take_add_one, List.getElem?_map, gx]; exact tmCells_snoc _ _)
      have i1 : (0 : Int) ≤ (q : Int) := by omega
      have i2 : (q : Int) < (n : Int) := by omega
      have hnw := (below_new wr (Obj.cells #[.int .i64 x.k, .int .i64 x.t, .int .i64 x.c, .bool x.z, .int .i64 x.n, .int .i64 y.k, .int .i64 y.t, .int .i64 y.c, .bool y.z, .int .i64 y.n] 36))
      have hcm := Lib.hid (CameN.new (wr.alloc (Obj.cells #[.int .i64 x.k, .int .i64 x.t, .int .i64 x.c, .bool x.z, .int .i64 x.n, .int .i64 y.k, .int .i64 y.t, .int .i64 y.c, .bool y.z, .int .i64 y.n] 36)) 35 5 1 [.int .i64 y.k, .int .i64 y.t, .int .i64 y.c, .bool y.z, .int .i64 y.n] (wr.heap.size + 1) (by rw [World.size_alloc]) rfl)
      have HO := Lib.hid ((hown.alloc (Obj.cells #[.int .i64 x.k, .int .i64 x.t, .int .i64 x.c, .bool x.z, .int .i64 x.n, .int .i64 y.k, .int .i64 y.t, .int .i64 y.c, .bool y.z, .int .i64 y.n] 36)).alloc (Obj.cells [.int .i64 y.k, .int .i64 y.t, .int .i64 y.c, .bool y.z, .int .i64 y.n].toArray 35))
      have HB := Lib.hid (hb.trans (below_low (below_join hnw (below_new (wr.alloc (Obj.cells #[.int .i64 x.k, .int .i64 x.t, .int .i64 x.c, .bool x.z, .int .i64 x.n, .int .i64 y.k, .int .i64 y.t, .int .i64 y.c, .bool y.z, .int .i64 y.n] 36)) (Obj.cells [.int .i64 y.k, .int .i64 y.t, .int .i64 y.c, .bool y.z, .int .i64 y.n].toArray 35))) hb.size))
      have HL := Lib.hid (fun k hk => (hown.lt k hk).1)
      clear gx hx hown hb hnw hlt
      go_wp2_with (first
        | (at_builtin; refine wpList_append_n _ rfl _ _ 31 rfl w.heap.size 35 i0 (.agg #[.int .i64 0, .int .i64 0, .int .i64 0, .bool false, .int .i64 0]) 5 40 Tryd.underlying31 hi hz0 hz1 hz2 rfl (by decide) _ q _ rfl HO.out _ 1 [.int .i64 y.k, .int .i64 y.t, .int .i64 y.c, .bool y.z, .int .i64 y.n] rfl hcm.out (tm_ones y) ?c3 ?c4 ?c5 ?_))
      case c3 => unfold maxLen; omega
      case c4 => omega
      case c5 => simpa using HB.out.size
      intro v1 w5 hown1 hgrow
      have hb5 : Below w.heap.size w w5 := HB.out.grown hgrow HB.out.size HL.out
      have hown5 : w5.ownsRow w.heap.size 35 5 v1 (q + 1) (tmCells ((ks.map Prod.snd).take (q + 1))) := by rw [HT.out]; exact hown1
      clear hown1 hgrow y0 y1 y2 y3 y4 y5 y6 y7 y8 y9
      go_wp2_with fail
      go_roundw
      case rel => exact ⟨q + 1, v1, by omega, by go_num, rfl, hown5, hb5⟩
      case measure => simp [intOf]; omega
    · have hres := Lib.hid (show OwnTms w (ks.map Prod.snd) (.returned u) wr from ⟨u, rfl, by
        rw [List.take_of_length_le (by rw [List.length_map]; have := HN.out; omega)] at hown
        rw [List.length_map, ← HN.out]
        obtain rfl : q = n := by omega
        exact hown, hb⟩)
      have i2 : ¬ ((q : Int) < (n : Int)) := by omega
      clear hown hb hlt
      go_wp2_with fail
      go_ret
      exact hres.out
end Go.Proofs.YtghonbnmakggnaaDoor
