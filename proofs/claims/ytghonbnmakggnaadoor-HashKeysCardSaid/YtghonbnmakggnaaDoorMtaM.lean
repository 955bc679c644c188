/-
  ROWS, TUPLES, LISTS OF TUPLES IN MEMORY, with the blocks that they lie in as a set.
-/
import Derived.Test.YtghonbnmakggnaaDoorMtmM
import Derived.Test.YtghonbnmakggnaaDoorGBase
import Derived.Test.YtghonbnmakggnaaDoorAppM
namespace Go.Proofs.YtghonbnmakggnaaDoor
open Go.RowKit

/-- the slice value v reads, in w, as xs: one cell each, in the blocks T -/
def SlOn (T : Nat → Prop) (w : World) (v : Value) (xs : List Value) : Prop :=
  ∃ A c, v = .slice A xs.length c ∧ xs.length ≤ c ∧ ∀ j u, xs[j]? = some u → ∃ b o p, A = some ⟨b, o, p⟩ ∧ T b ∧ b < w.heap.size ∧ w.cell? ((⟨b, o, p⟩ : Addr).add j) = some u
def RowOn (T : Nat → Prop) (w : World) (v : Value) (r : List Vl) : Prop :=
  ∃ A c, v = .slice A r.length c ∧ r.length ≤ c ∧ ∀ j x, r[j]? = some x → ∃ b o p, A = some ⟨b, o, p⟩ ∧ T b ∧ b < w.heap.size ∧ w.cell? ((⟨b, o, p⟩ : Addr).add (j * 2)) = some (.bool x.1) ∧ w.cell? ((⟨b, o, p⟩ : Addr).add (j * 2 + 1)) = some (.int .i64 x.2)
structure RwsIn (T : Nat → Prop) (w : World) (v : Value) (vs : List Value) (rs : List (List Vl)) : Prop where
  sl : SlOn T w v vs
  len : vs.length = rs.length
  row : ∀ (i : Nat) (r : List Vl), rs[i]? = some r → ∃ u, vs[i]? = some u ∧ RowOn T w u r
def RwsOn (T : Nat → Prop) (w : World) (v : Value) (rs : List (List Vl)) : Prop := ∃ vs, RwsIn T w v vs rs
structure TusIn (T : Nat → Prop) (w : World) (v : Value) (us : List Value) (ts : List (List (List Vl))) : Prop where
  sl : SlOn T w v us
  len : us.length = ts.length
  tup : ∀ (i : Nat) (t : List (List Vl)), ts[i]? = some t → ∃ u, us[i]? = some u ∧ RwsOn T w u t
def TusOn (T : Nat → Prop) (w : World) (v : Value) (ts : List (List (List Vl))) : Prop := ∃ us, TusIn T w v us ts

variable {T S : Nat → Prop} {w w' : World} {v : Value}
theorem SlOn.keep {xs : List Value} (h : SlOn T w v xs) (hk : Keeps S w w') (hs : ∀ k, k < w.heap.size → T k → S k) : SlOn T w' v xs := by
  obtain ⟨A, c, hv, hc, hx⟩ := h
  refine ⟨A, c, hv, hc, fun j u hj => ?_⟩
  obtain ⟨b, o, p, hA, hT, hlt, h0⟩ := hx j u hj
  exact ⟨b, o, p, hA, hT, Nat.lt_of_lt_of_le hlt hk.size, (World.cell?_of_block (by rw [add_block]; exact hk.same b hlt (hs b hlt hT))).trans h0⟩
theorem SlOn.mono {xs : List Value} (h : SlOn T w v xs) (hs : ∀ k, k < w.heap.size → T k → S k) : SlOn S w v xs := by
  obtain ⟨A, c, hv, hc, hx⟩ := h
  refine ⟨A, c, hv, hc, fun j u hj => ?_⟩
  obtain ⟨b, o, p, hA, hT, hlt, h0⟩ := hx j u hj
  exact ⟨b, o, p, hA, hs b hlt hT, hlt, h0⟩
theorem RowOn.keep {r : List Vl} (h : RowOn T w v r) (hk : Keeps S w w') (hs : ∀ k, k < w.heap.size → T k → S k) : RowOn T w' v r := by
  obtain ⟨A, c, hv, hc, hx⟩ := h
  refine ⟨A, c, hv, hc, fun j u hj => ?_⟩
  obtain ⟨b, o, p, hA, hT, hlt, h0, h1⟩ := hx j u hj
  have k : ∀ n, w'.cell? ((⟨b, o, p⟩ : Addr).add n) = w.cell? ((⟨b, o, p⟩ : Addr).add n) := fun n => World.cell?_of_block (by rw [add_block]; exact hk.same b hlt (hs b hlt hT))
  exact ⟨b, o, p, hA, hT, Nat.lt_of_lt_of_le hlt hk.size, (k _).trans h0, (k _).trans h1⟩
theorem RowOn.mono {r : List Vl} (h : RowOn T w v r) (hs : ∀ k, k < w.heap.size → T k → S k) : RowOn S w v r := by
  obtain ⟨A, c, hv, hc, hx⟩ := h
  refine ⟨A, c, hv, hc, fun j u hj => ?_⟩
  obtain ⟨b, o, p, hA, hT, hlt, h0⟩ := hx j u hj
  exact ⟨b, o, p, hA, hs b hlt hT, hlt, h0⟩
theorem RwsIn.keep {vs : List Value} {rs : List (List Vl)} (h : RwsIn T w v vs rs) (hk : Keeps S w w') (hs : ∀ k, k < w.heap.size → T k → S k) : RwsIn T w' v vs rs :=
  ⟨h.sl.keep hk hs, h.len, fun i r hi => by obtain ⟨u, hu, hr⟩ := h.row i r hi; exact ⟨u, hu, hr.keep hk hs⟩⟩
theorem RwsIn.mono {vs : List Value} {rs : List (List Vl)} (h : RwsIn T w v vs rs) (hs : ∀ k, k < w.heap.size → T k → S k) : RwsIn S w v vs rs :=
  ⟨h.sl.mono hs, h.len, fun i r hi => by obtain ⟨u, hu, hr⟩ := h.row i r hi; exact ⟨u, hu, hr.mono hs⟩⟩
theorem RwsOn.keep {rs : List (List Vl)} (h : RwsOn T w v rs) (hk : Keeps S w w') (hs : ∀ k, k < w.heap.size → T k → S k) : RwsOn T w' v rs := by
  obtain ⟨vs, h⟩ := h; exact ⟨vs, h.keep hk hs⟩
theorem RwsOn.mono {rs : List (List Vl)} (h : RwsOn T w v rs) (hs : ∀ k, k < w.heap.size → T k → S k) : RwsOn S w v rs := by
  obtain ⟨vs, h⟩ := h; exact ⟨vs, h.mono hs⟩
theorem TusIn.keep {us : List Value} {ts : List (List (List Vl))} (h : TusIn T w v us ts) (hk : Keeps S w w') (hs : ∀ k, k < w.heap.size → T k → S k) : TusIn T w' v us ts :=
  ⟨h.sl.keep hk hs, h.len, fun i r hi => by obtain ⟨u, hu, hr⟩ := h.tup i r hi; exact ⟨u, hu, hr.keep hk hs⟩⟩
theorem TusIn.mono {us : List Value} {ts : List (List (List Vl))} (h : TusIn T w v us ts) (hs : ∀ k, k < w.heap.size → T k → S k) : TusIn S w v us ts :=
  ⟨h.sl.mono hs, h.len, fun i r hi => by obtain ⟨u, hu, hr⟩ := h.tup i r hi; exact ⟨u, hu, hr.mono hs⟩⟩
theorem TusOn.keep {ts : List (List (List Vl))} (h : TusOn T w v ts) (hk : Keeps S w w') (hs : ∀ k, k < w.heap.size → T k → S k) : TusOn T w' v ts := by
  obtain ⟨vs, h⟩ := h; exact ⟨vs, h.keep hk hs⟩
theorem TusOn.mono {ts : List (List (List Vl))} (h : TusOn T w v ts) (hs : ∀ k, k < w.heap.size → T k → S k) : TusOn S w v ts := by
  obtain ⟨vs, h⟩ := h; exact ⟨vs, h.mono hs⟩
/-- what lies below B is kept -/
theorem keeps_below {B : Nat} (h : Below B w w') : Keeps (fun k => k < B) w w' := ⟨h.os, h.tape, h.output, h.size, fun k _ hk => h.block k hk⟩
theorem RowOn.below {r : List Vl} {B : Nat} (h : RowOn T w v r) (hb : Below B w w') (hB : w.heap.size ≤ B) : RowOn T w' v r := h.keep (keeps_below hb) fun _ hk _ => Nat.lt_of_lt_of_le hk hB
theorem RwsIn.below {vs : List Value} {r : List (List Vl)} {B : Nat} (h : RwsIn T w v vs r) (hb : Below B w w') (hB : w.heap.size ≤ B) : RwsIn T w' v vs r := h.keep (keeps_below hb) fun _ hk _ => Nat.lt_of_lt_of_le hk hB
theorem RwsOn.below {r : List (List Vl)} {B : Nat} (h : RwsOn T w v r) (hb : Below B w w') (hB : w.heap.size ≤ B) : RwsOn T w' v r := h.keep (keeps_below hb) fun _ hk _ => Nat.lt_of_lt_of_le hk hB
theorem TusOn.below {r : List (List (List Vl))} {B : Nat} (h : TusOn T w v r) (hb : Below B w w') (hB : w.heap.size ≤ B) : TusOn T w' v r := h.keep (keeps_below hb) fun _ hk _ => Nat.lt_of_lt_of_le hk hB
/-- blocks that are grown by a row of one's own -/
theorem keeps_grown {row : Option Nat} (h : w.grownBy w' row) : Keeps (fun k => row ≠ some k) w w' := ⟨h.os, h.tape, h.output, h.size, fun k hk hne => h.block k hk (fun e => hne e.symm)⟩
theorem RowOn.at_ {r : List Vl} (h : RowOn T w v r) : RowAt w v r := by
  obtain ⟨A, c, hv, hc, hx⟩ := h
  exact ⟨A, c, hv, hc, fun j x hj => by obtain ⟨b, o, p, h1, _, h3⟩ := hx j x hj; exact ⟨b, o, p, h1, h3⟩⟩
theorem RowAt.on {r : List Vl} (h : RowAt w v r) : RowOn (fun k => k < w.heap.size) w v r := by
  obtain ⟨A, c, hv, hc, hx⟩ := h
  exact ⟨A, c, hv, hc, fun j x hj => by obtain ⟨b, o, p, h1, h2, h3⟩ := hx j x hj; exact ⟨b, o, p, h1, h2, h2, h3⟩⟩
theorem SlOn.sl {xs : List Value} (h : SlOn T w v xs) : Sl w v xs := by
  obtain ⟨A, c, hv, hc, hx⟩ := h
  exact ⟨A, c, hv, hc, fun j x hj => by obtain ⟨b, o, p, h1, _, h3⟩ := hx j x hj; exact ⟨b, o, p, h1, h3⟩⟩
theorem Sl.on {xs : List Value} (h : Sl w v xs) : SlOn (fun k => k < w.heap.size) w v xs := by
  obtain ⟨A, c, hv, hc, hx⟩ := h
  exact ⟨A, c, hv, hc, fun j x hj => by obtain ⟨b, o, p, h1, h2, h3⟩ := hx j x hj; exact ⟨b, o, p, h1, h2, h2, h3⟩⟩
theorem RwsIn.of {vs : List Value} {rs : List (List Vl)} (h : RwsIn T w v vs rs) : RwsOf w v vs rs := ⟨h.sl.sl, h.len, fun i r hi => by obtain ⟨u, hu, hr⟩ := h.row i r hi; exact ⟨u, hu, hr.at_⟩⟩
theorem RwsOn.rws {rs : List (List Vl)} (h : RwsOn T w v rs) : Rws w v rs := by obtain ⟨vs, h⟩ := h; exact ⟨vs, h.of⟩
theorem Rws.on {rs : List (List Vl)} (h : Rws w v rs) : RwsOn (fun k => k < w.heap.size) w v rs := by
  obtain ⟨vs, h⟩ := h
  exact ⟨vs, h.sl.on, h.len, fun i r hi => by obtain ⟨u, hu, hr⟩ := h.row i r hi; exact ⟨u, hu, hr.on⟩⟩
theorem RowOn.nil (T : Nat → Prop) (w : World) : RowOn T w (.slice none 0 0) [] := ⟨none, 0, rfl, Nat.le_refl _, fun j x h => by simp at h⟩
theorem SlOn.nil (T : Nat → Prop) (w : World) : SlOn T w (.slice none 0 0) [] := ⟨none, 0, rfl, Nat.le_refl _, fun j x h => by simp at h⟩
theorem RwsOn.nil (T : Nat → Prop) (w : World) : RwsOn T w (.slice none 0 0) [] := ⟨[], SlOn.nil _ _, rfl, fun i r h => by simp at h⟩
theorem TusOn.nil (T : Nat → Prop) (w : World) : TusOn T w (.slice none 0 0) [] := ⟨[], SlOn.nil _ _, rfl, fun i r h => by simp at h⟩
theorem RowOn.one {r : List Vl} (h : RowOn T w v r) : v.oneCell' = true := by obtain ⟨A, c, rfl, _⟩ := h; rfl
theorem SlOn.one {xs : List Value} (h : SlOn T w v xs) : v.oneCell' = true := by obtain ⟨A, c, rfl, _⟩ := h; rfl
theorem RwsOn.one {rs : List (List Vl)} (h : RwsOn T w v rs) : v.oneCell' = true := by obtain ⟨vs, h⟩ := h; exact h.sl.one
theorem RwsOn.form {rs : List (List Vl)} (h : RwsOn T w v rs) : ∃ A c, v = .slice A rs.length c ∧ rs.length ≤ c := by
  obtain ⟨vs, ⟨A, c, hv, hc, _⟩, hl, _⟩ := h; exact ⟨A, c, by rw [← hl]; exact hv, by omega⟩
theorem TusOn.form {ts : List (List (List Vl))} (h : TusOn T w v ts) : ∃ A c, v = .slice A ts.length c ∧ ts.length ≤ c := by
  obtain ⟨vs, ⟨A, c, hv, hc, _⟩, hl, _⟩ := h; exact ⟨A, c, by rw [← hl]; exact hv, by omega⟩
theorem RowOn.form {r : List Vl} (h : RowOn T w v r) : ∃ A c, v = .slice A r.length c ∧ r.length ≤ c := by obtain ⟨A, c, hv, hc, _⟩ := h; exact ⟨A, c, hv, hc⟩
/-- a row's cell -/
theorem RwsOn.at_ {A : Option Addr} {n c : Nat} {rs : List (List Vl)} (h : RwsOn T w (.slice A n c) rs) {i : Nat} {r : List Vl} (hi : rs[i]? = some r) :
    ∃ b o p B d, A = some ⟨b, o, p⟩ ∧ T b ∧ b < w.heap.size ∧ w.cell? ((⟨b, o, p⟩ : Addr).add i) = some (.slice B r.length d) ∧ r.length ≤ d ∧ RowOn T w (.slice B r.length d) r := by
  obtain ⟨vs, ⟨A', c', hv, _, hx⟩, _, hr⟩ := h
  cases hv
  obtain ⟨u, hu, hru⟩ := hr i r hi
  obtain ⟨b, o, p, hA, hT, hlt, hc⟩ := hx i u hu
  obtain ⟨B, d, rfl, hd⟩ := hru.form
  exact ⟨b, o, p, B, d, hA, hT, hlt, hc, hd, hru⟩
theorem TusOn.at_ {A : Option Addr} {n c : Nat} {ts : List (List (List Vl))} (h : TusOn T w (.slice A n c) ts) {i : Nat} {t : List (List Vl)} (hi : ts[i]? = some t) :
    ∃ b o p B d, A = some ⟨b, o, p⟩ ∧ T b ∧ b < w.heap.size ∧ w.cell? ((⟨b, o, p⟩ : Addr).add i) = some (.slice B t.length d) ∧ t.length ≤ d ∧ RwsOn T w (.slice B t.length d) t := by
  obtain ⟨vs, ⟨A', c', hv, _, hx⟩, _, hr⟩ := h
  cases hv
  obtain ⟨u, hu, hru⟩ := hr i t hi
  obtain ⟨b, o, p, hA, hT, hlt, hc⟩ := hx i u hu
  obtain ⟨B, d, rfl, hd⟩ := hru.form
  exact ⟨b, o, p, B, d, hA, hT, hlt, hc, hd, hru⟩
theorem RwsIn.cell {A : Option Addr} {n c : Nat} {vs : List Value} {rs : List (List Vl)} (h : RwsIn T w (.slice A n c) vs rs) {i : Nat} {r : List Vl} (hi : rs[i]? = some r) :
    ∃ b o p B d, A = some ⟨b, o, p⟩ ∧ T b ∧ b < w.heap.size ∧ vs[i]? = some (.slice B r.length d) ∧ w.cell? ((⟨b, o, p⟩ : Addr).add i) = some (.slice B r.length d) ∧ r.length ≤ d ∧ RowOn T w (.slice B r.length d) r := by
  obtain ⟨⟨A', c', hv, _, hx⟩, _, hr⟩ := h
  cases hv
  obtain ⟨u, hu, hru⟩ := hr i r hi
  obtain ⟨b, o, p, hA, hT, hlt, hc⟩ := hx i u hu
  obtain ⟨B, d, rfl, hd⟩ := hru.form
  exact ⟨b, o, p, B, d, hA, hT, hlt, hu, hc, hd, hru⟩
/-- a row of one's own, as such a slice -/
theorem SlOn.own {base : Nat} {e : TypeId} {n : Nat} {xs : List Value} (h : w.ownsRow base e 1 v n xs) : SlOn (fun k => v.ownBlock = some k) w v xs := by
  have hl : xs.length = n := by have := h.1; omega
  rcases h.2 with ⟨hv, hn⟩ | ⟨g, cap, cur, hv, hb, hg, hnc, hcm, hs, ht⟩
  · refine ⟨none, 0, by rw [hv, hl, hn], by omega, fun j u hu => ?_⟩
    have : xs = [] := List.eq_nil_of_length_eq_zero (by omega)
    subst this; simp at hu
  · refine ⟨some ⟨g, 0, none⟩, cap, by rw [hv, hl], by omega, fun j u hu => ⟨g, 0, none, rfl, by rw [hv]; rfl, ?_, ?_⟩⟩
    · exact (Array.getElem?_eq_some_iff.1 hg).1
    · exact h.cells (g := g) (by rw [hv]; rfl) j u hu
/-- an element, for all grown worlds -/
theorem RwsOn.pick {A : Option Addr} {n c : Nat} {rs : List (List Vl)} (h : RwsOn T w (.slice A n c) rs) {i : Nat} {r : List Vl} (hi : rs[i]? = some r) :
    ∃ b o p B d, A = some ⟨b, o, p⟩ ∧ r.length ≤ d ∧ ∀ W, Below w.heap.size w W → W.cell? ((⟨b, o, p⟩ : Addr).add i) = some (.slice B r.length d) ∧ RowOn T W (.slice B r.length d) r := by
  obtain ⟨b, o, p, B, d, hA, _, hlt, hc, hd, hr⟩ := h.at_ hi
  exact ⟨b, o, p, B, d, hA, hd, fun W hb => ⟨(hb.cell (by rw [add_block]; exact hlt)).trans hc, hr.below hb (Nat.le_refl _)⟩⟩
theorem TusOn.pick {A : Option Addr} {n c : Nat} {ts : List (List (List Vl))} (h : TusOn T w (.slice A n c) ts) {i : Nat} {t : List (List Vl)} (hi : ts[i]? = some t) :
    ∃ b o p B d, A = some ⟨b, o, p⟩ ∧ t.length ≤ d ∧ ∀ W, Below w.heap.size w W → W.cell? ((⟨b, o, p⟩ : Addr).add i) = some (.slice B t.length d) ∧ RwsOn T W (.slice B t.length d) t := by
  obtain ⟨b, o, p, B, d, hA, _, hlt, hc, hd, hr⟩ := h.at_ hi
  exact ⟨b, o, p, B, d, hA, hd, fun W hb => ⟨(hb.cell (by rw [add_block]; exact hlt)).trans hc, hr.below hb (Nat.le_refl _)⟩⟩
/-- any block -/
def Al : Nat → Prop := fun _ => True
theorem RwsOn.al {rs : List (List Vl)} (h : RwsOn T w v rs) : RwsOn Al w v rs := h.mono fun _ _ _ => trivial
theorem TusOn.al {rs : List (List (List Vl))} (h : TusOn T w v rs) : TusOn Al w v rs := h.mono fun _ _ _ => trivial
theorem own_keeps {base : Nat} {e : TypeId} {s n : Nat} {xs : List Value} (h : w.ownsRow base e s v n xs) (hk : Keeps S w w') (hs : ∀ k, v.ownBlock = some k → S k) : w'.ownsRow base e s v n xs := by
  refine ⟨h.1, ?_⟩
  rcases h.2 with hn | ⟨g, cap, cur, rfl, h1, hg, rest⟩
  · exact .inl hn
  · exact .inr ⟨g, cap, cur, rfl, h1, (hk.same g (Array.getElem?_eq_some_iff.1 hg).1 (hs g rfl)).trans hg, rest⟩
/-- tuples in a list of the call's own; of each, what it lies in is not the list's block, and is of R -/
structure TuRow (R : Nat → Prop) (base : Nat) (w : World) (v : Value) (n : Nat) (us : List Value) (ts : List (List (List Vl))) : Prop where
  own : w.ownsRow base 25 1 v n us
  len : ts.length = n
  tup : ∀ (i : Nat) (t : List (List Vl)), ts[i]? = some t → ∃ u, us[i]? = some u ∧ RwsOn (fun k => v.ownBlock ≠ some k ∧ R k) w u t
theorem TuRow.keep {R : Nat → Prop} {base n : Nat} {us : List Value} {ts : List (List (List Vl))} (h : TuRow R base w v n us ts) (hk : Keeps S w w') (hs : ∀ k, v.ownBlock = some k → S k) (hs2 : ∀ k, k < w.heap.size → v.ownBlock ≠ some k → R k → S k) : TuRow R base w' v n us ts :=
  ⟨own_keeps h.own hk hs, h.len, fun i t hi => by obtain ⟨u, hu, hr⟩ := h.tup i t hi; exact ⟨u, hu, hr.keep hk fun k hk1 hk2 => hs2 k hk1 hk2.1 hk2.2⟩⟩
theorem TuRow.mono {R R' : Nat → Prop} {base n : Nat} {us : List Value} {ts : List (List (List Vl))} (h : TuRow R base w v n us ts) (hs : ∀ k, k < w.heap.size → R k → R' k) : TuRow R' base w v n us ts :=
  ⟨h.own, h.len, fun i t hi => by obtain ⟨u, hu, hr⟩ := h.tup i t hi; exact ⟨u, hu, hr.mono fun k hk1 hk2 => ⟨hk2.1, hs k hk1 hk2.2⟩⟩⟩
theorem keeps_two {B : Nat} {w0 : World} (h1 : Below B w0 w) (h2 : Below B w0 w') (hs : w.heap.size ≤ w'.heap.size) : Keeps (fun k => k < B) w w' :=
  ⟨h2.os.trans h1.os.symm, h2.tape.trans h1.tape.symm, h2.output.trans h1.output.symm, hs, fun k _ hk => (h2.block k hk).trans (h1.block k hk).symm⟩
theorem TuRow.below {R : Nat → Prop} {base n : Nat} {us : List Value} {ts : List (List (List Vl))} (h : TuRow R base w v n us ts) (hb : Below w.heap.size w w') : TuRow R base w' v n us ts :=
  h.keep (keeps_below hb) (fun k hk => (h.own.lt k hk).2) fun _ hk _ _ => hk
theorem TuRow.push {R : Nat → Prop} {base n : Nat} {us : List Value} {ts : List (List (List Vl))} {v' u : Value} {t : List (List Vl)} (h : TuRow R base w v n us ts) (hu : RwsOn (fun k => v.ownBlock ≠ some k ∧ R k) w u t)
    (hown : w'.ownsRow base 25 1 v' (n + 1) (us ++ [u])) (hg : w.grownBy w' v.ownBlock) (hw : v'.ownBlock = v.ownBlock ∨ ∃ g, v'.ownBlock = some g ∧ w.heap.size ≤ g) : TuRow R base w' v' (n + 1) (us ++ [u]) (ts ++ [t]) := by
  have hkp : ∀ {x : Value} {y : List (List Vl)}, RwsOn (fun k => v.ownBlock ≠ some k ∧ R k) w x y → RwsOn (fun k => v'.ownBlock ≠ some k ∧ R k) w' x y := fun {x y} hx => by
    have h1 : RwsOn (fun k => (v.ownBlock ≠ some k ∧ R k) ∧ k < w.heap.size) w x y := hx.mono fun k hk1 hk2 => ⟨hk2, hk1⟩
    refine (h1.keep (keeps_grown hg) fun _ _ hk2 => hk2.1.1).mono fun _ _ hk2 => ⟨?_, hk2.1.2⟩
    rcases hw with e | ⟨g, e, hge⟩
    · rw [e]; exact hk2.1.1
    · rw [e]; intro e2; cases e2; have := hk2.2; omega
  have hul : us.length = n := by have := h.own.1; omega
  refine ⟨hown, by rw [List.length_append, h.len]; rfl, fun i x hi => ?_⟩
  by_cases e : i < ts.length
  · rw [List.getElem?_append_left e] at hi
    obtain ⟨y, hy, hr⟩ := h.tup i x hi
    exact ⟨y, by rw [List.getElem?_append_left (by rw [hul, ← h.len]; exact e)]; exact hy, hkp hr⟩
  · have hi2 : i = ts.length := by
      by_cases e2 : i = ts.length
      · exact e2
      · rw [List.getElem?_eq_none (by simp; omega)] at hi; cases hi
    subst hi2
    rw [List.getElem?_append_right (Nat.le_refl _), Nat.sub_self] at hi
    cases hi
    refine ⟨u, ?_, hkp hu⟩
    rw [List.getElem?_append_right (by rw [hul, h.len]; exact Nat.le_refl _), hul, h.len, Nat.sub_self]
    rfl
theorem TuRow.tus {R : Nat → Prop} {base n : Nat} {us : List Value} {ts : List (List (List Vl))} (h : TuRow R base w v n us ts) : TusOn Al w v ts :=
  ⟨us, (SlOn.own h.own).mono fun _ _ _ => trivial, by have := h.own.1; have := h.len; omega, fun i t hi => by obtain ⟨u, hu, hr⟩ := h.tup i t hi; exact ⟨u, hu, hr.al⟩⟩
/-- such a list, with the blocks that it lies in -/
theorem TuRow.tusOn {R S : Nat → Prop} {base n : Nat} {us : List Value} {ts : List (List (List Vl))} (h : TuRow R base w v n us ts) (hb : ∀ k, base ≤ k → S k) (hR : ∀ k, R k → S k) : TusOn S w v ts :=
  ⟨us, (SlOn.own h.own).mono fun k _ hk => hb k (h.own.lt k hk).1, by have := h.own.1; have := h.len; omega, fun i t hi => by obtain ⟨u, hu, hr⟩ := h.tup i t hi; exact ⟨u, hu, hr.mono fun k _ hk => hR k hk.2⟩⟩
theorem add_here13 (g k : Nat) : (⟨g, 0, none⟩ : Addr).add k = ⟨g, k, none⟩ := by
  unfold Addr.add
  split
  · next h => subst h; rfl
  · simp
theorem wpList_append_at {P : Program} (w : World) {ops : Array Oper} {rest : List Oper} {o : Oper} {a : Act} {Q : Exit → Act → World → Prop} (hgd : o.guard = none) (s x : Operand) (t : TypeId)
    (ho : o.op = .call { callee := .builtin .append, args := #[s, x], argTypes := #[t, t] })
    (base : Nat) (e : TypeId) (i : TypeInfo) (z : Value) (size bytes : Nat) (ht : P.underlying t = some (.slice e)) (hi : P.info? e = some i) (hz : i.zero = some z)
    (hsize : i.size = size) (hby : i.bytes = bytes) (hzs : z.cells.size = size) (hs0 : 0 < size)
    (v : Value) (n : Nat) (xs : List Value) (hs : a.eval s = v) (hown : w.ownsRow base e size v n xs)
    (ad : Addr) (m c : Nat) (news : List Value) (hx : a.eval x = .slice (some ad) m c) (hl : news.length = m * size) (hc : ∀ j u, news[j]? = some u → w.cell? (ad.add j) = some u) (h1 : ∀ u ∈ news, u.oneCell' = true)
    (h63 : n + m ≤ maxLen) (hbytes : (n + m) * bytes ≤ 140737488355328) (hbase : base ≤ w.heap.size)
    (h : ∀ v' w', w'.ownsRow base e size v' (n + m) (xs ++ news) → w.grownBy w' v.ownBlock → (v'.ownBlock = v.ownBlock ∨ ∃ g, v'.ownBlock = some g ∧ w.heap.size ≤ g) → wpList P ops Q rest (a.put o.dst v') w') : wpList P ops Q (o :: rest) a w := by
  refine wpList_plain hgd fun K hK => ?_
  obtain ⟨v', w', hrun, r1, r2, r3⟩ := run_append_sep (P := P) w base t o.type e i z size bytes ht hi hz hsize hby hzs hs0 v n xs hown ad m c news hl hc h1 h63 hbytes hbase
  unfold Oper.wp
  simp [execOp, ho, resolve, invoke, builtin, hs, hx, hrun, Result.andThen]
  exact hK _ _ (h v' w' r1 r2 r3)
theorem Tryd.infoRow13 : (Tryd.prog.info? 48).map (fun i => (i.zero, i.size, i.bytes)) = some (some (.slice none 0 0), 1, 24) := by kernel_rfl
theorem Tryd.infoTup13 : (Tryd.prog.info? 25).map (fun i => (i.zero, i.size, i.bytes)) = some (some (.slice none 0 0), 1, 24) := by kernel_rfl
theorem SlOn.src {A : Option Addr} {n c : Nat} {xs : List Value} (h : SlOn T w (.slice A n c) xs) (h0 : 0 < xs.length) : ∃ ad, A = some ad ∧ ∀ (j : Nat) (u : Value), xs[j]? = some u → w.cell? (ad.add j) = some u := by
  obtain ⟨A', c', hv, _, hx⟩ := h
  cases hv
  obtain ⟨b, o, p, rfl, _⟩ := hx 0 _ (List.getElem?_eq_getElem h0)
  refine ⟨_, rfl, fun j u hj => ?_⟩
  obtain ⟨b', o', p', hA, _, _, hc⟩ := hx j u hj
  cases hA
  exact hc
theorem RwsIn.ones {vs : List Value} {rs : List (List Vl)} (h : RwsIn T w v vs rs) : ∀ u ∈ vs, u.oneCell' = true := fun u hu => by
  obtain ⟨i, hi, rfl⟩ := List.mem_iff_getElem.1 hu
  obtain ⟨u, h1, h2⟩ := h.row i _ (List.getElem?_eq_getElem (show i < rs.length by have := h.len; omega))
  rw [List.getElem?_eq_getElem hi] at h1
  cases h1
  exact h2.one
theorem keeps_all (h : Below w.heap.size w w') : Keeps S w w' := ⟨h.os, h.tape, h.output, h.size, fun k hk _ => h.block k hk⟩
/-- an element, its cell in a later world -/
theorem RwsOn.at_keep {A : Option Addr} {n c : Nat} {rs : List (List Vl)} (h : RwsOn T w (.slice A n c) rs) (hk : Keeps S w w') (hs : ∀ k, T k → S k) {i : Nat} {r : List Vl} (hi : rs[i]? = some r) :
    ∃ b o p B d, A = some ⟨b, o, p⟩ ∧ r.length ≤ d ∧ w'.cell? ((⟨b, o, p⟩ : Addr).add i) = some (.slice B r.length d) ∧ RowOn T w (.slice B r.length d) r := by
  obtain ⟨b, o, p, B, d, hA, hT, hlt, hc, hd, hr⟩ := h.at_ hi
  exact ⟨b, o, p, B, d, hA, hd, (World.cell?_of_block (by rw [add_block]; exact hk.same b hlt (hs b hT))).trans hc, hr⟩
theorem TusOn.at_keep {A : Option Addr} {n c : Nat} {ts : List (List (List Vl))} (h : TusOn T w (.slice A n c) ts) (hk : Keeps S w w') (hs : ∀ k, T k → S k) {i : Nat} {t : List (List Vl)} (hi : ts[i]? = some t) :
    ∃ b o p B d, A = some ⟨b, o, p⟩ ∧ t.length ≤ d ∧ w'.cell? ((⟨b, o, p⟩ : Addr).add i) = some (.slice B t.length d) ∧ RwsOn T w (.slice B t.length d) t := by
  obtain ⟨b, o, p, B, d, hA, hT, hlt, hc, hd, hr⟩ := h.at_ hi
  exact ⟨b, o, p, B, d, hA, hd, (World.cell?_of_block (by rw [add_block]; exact hk.same b hlt (hs b hT))).trans hc, hr⟩
end Go.Proofs.YtghonbnmakggnaaDoor
