/-
  THE READER OF PREDICATES: words for what it leaves; the ways that read no predicates within.
-/
import Derived.Test.YteimbdklakemaaaGreatDoorTxkM
import Derived.Deep.Onto
import Derived.ArgAppend
import Derived.Maps.RangeWalk
namespace Go.Proofs.YteimbdklakemaaaGreatDoor
open Go.RowKit Go.Sort
set_option maxHeartbeats 3200000

section
variable {P : Program}
theorem run_append_where (w : World) (base : Nat) (t ty e : TypeId) (i : TypeInfo) (z : Value) (size bytes : Nat) (ht : P.underlying t = some (.slice e)) (hi : P.info? e = some i) (hz : i.zero = some z)
    (hsize : i.size = size) (hby : i.bytes = bytes) (hzs : z.cells.size = size) (hsz : 0 < size)
    (v : Value) (k : Nat) (xs : List Value) (hown : w.ownsRow base e size v k xs)
    (ad : Addr) (m c : Nat) (news : List Value) (hl : news.length = m * size) (hnews : ∀ j u, news[j]? = some u → w.cell? (ad.add j) = some u) (h1 : ∀ u ∈ news, u.oneCell' = true)
    (h63 : k + m ≤ maxLen) (hbytes : (k + m) * bytes ≤ 140737488355328) (hbase : base ≤ w.heap.size) :
    ∃ v' w', (Builtin.append_ #[t, t] ty #[v, .slice (some ad) m c]).run P w = .ok v' w' ∧ w'.ownsRow base e size v' (k + m) (xs ++ news) ∧ w.grownBy w' v.ownBlock ∧
      (v'.ownBlock = v.ownBlock ∨ ∃ g, v'.ownBlock = some g ∧ w.heap.size ≤ g) := by
  have far : ∀ {v' : Value} {w' : World}, w'.ownsRow w.heap.size e size v' (k + m) (xs ++ news) → v'.ownBlock = none ∨ ∃ g, v'.ownBlock = some g ∧ w.heap.size ≤ g := fun {v'} {w'} h => by
    cases ho : v'.ownBlock with
    | none => exact .inl rfl
    | some g => exact .inr ⟨g, rfl, (h.lt g ho).1⟩
  rcases hown.2 with ⟨rfl, rfl⟩ | ⟨g, cap, cur, rfl, hbg, hg, hnc, hcm, hcs, htake⟩
  · have hx : xs = [] := List.eq_nil_of_length_eq_zero (by simpa using hown.1)
    subst hx
    obtain ⟨v', w', hr, h2, h3, _⟩ := run_append_own (P := P) w w.heap.size t ty e i z size bytes ht hi hz hsize hby hzs hsz (.slice none 0 0) 0 [] (World.ownsRow_nil _ _ _ _) ad m c news hl hnews h1 h63 hbytes (Nat.le_refl _)
    exact ⟨v', w', hr, h2.mono hbase, h3, (far h2).imp (fun h => h) id⟩
  · by_cases hroom : k + m ≤ cap
    · obtain ⟨w', hr, h2, h3⟩ := run_append_fits (P := P) w base t ty e i size ht hi hsize g k cap xs hown ad m c news hl hnews h1 hroom
      exact ⟨_, w', hr, h2, h3, .inl rfl⟩
    · obtain ⟨v', w', hr, h2, h3⟩ := run_append_arg_grows (P := P) w t ty e i z size bytes ht hi hz hsize hby hzs hsz ⟨g, 0, none⟩ k cap xs hown.1 (hown.cells (g := g) rfl) ad m c news hl hnews (by omega) h63 hbytes
      refine ⟨v', w', hr, h2.mono hbase, h3.but _, ?_⟩
      rcases far h2 with h | h
      · -- a row that is not empty lies in a block
        rcases h2.2 with ⟨rfl, h0⟩ | ⟨g', cap', cur', rfl, _⟩
        · omega
        · cases h
      · exact .inr h

/-- append on a row of one's own, with where the row lies behind it -/
theorem wpList_append_where (w : World) {ops : Array Oper} {rest : List Oper} {o : Oper} {a : Act} {Q : Exit → Act → World → Prop}
    (hg : o.guard = none) (s x : Operand) (t : TypeId) (hop : o.op = Op.call { callee := Callee.builtin Builtin.append, args := #[s, x], argTypes := #[t, t] })
    (base : Nat) (e : TypeId) (i : TypeInfo) (z : Value) (size bytes : Nat) (h1 : P.underlying t = some (.slice e)) (h2 : P.info? e = some i) (h3 : i.zero = some z) (h4 : i.size = size) (h5 : i.bytes = bytes) (h6 : z.cells.size = size) (h7 : 0 < size)
    (v : Value) (k : Nat) (xs : List Value) (hs : a.eval s = v) (hown : w.ownsRow base e size v k xs) (ad : Addr) (m c : Nat) (news : List Value) (hx : a.eval x = .slice (some ad) m c) (hn : news.length = m * size)
    (hc : ∀ j u, news[j]? = some u → w.cell? (ad.add j) = some u) (h1c : ∀ u ∈ news, u.oneCell' = true) (b1 : k + m ≤ maxLen) (b2 : (k + m) * bytes ≤ 140737488355328) (b3 : base ≤ w.heap.size)
    (hK : ∀ v' w', w'.ownsRow base e size v' (k + m) (xs ++ news) → w.grownBy w' v.ownBlock → (v'.ownBlock = v.ownBlock ∨ ∃ g, v'.ownBlock = some g ∧ w.heap.size ≤ g) → wpList P ops Q rest (a.put o.dst v') w') :
    wpList P ops Q (o :: rest) a w := by
  refine wpList_plain hg fun K hK' => ?_
  obtain ⟨v', w', hrun, r1, r2, r3⟩ := run_append_where (P := P) w base t o.type e i z size bytes h1 h2 h3 h4 h5 h6 h7 v k xs hown ad m c news hn hc h1c b1 b2 b3
  unfold Oper.wp
  simp [execOp, hop, resolve, invoke, builtin, hs, hx, hrun, Result.andThen]
  exact hK' _ _ (hK v' w' r1 r2 r3)
end
/-- as PsAt, in blocks of S -/
def PsBy (S : Nat → Prop) : Nat → World → Value → List Pd → Prop
  | 0, _, v, l => l = [] ∧ ∃ A c, v = .slice A 0 c
  | d + 1, w, v, l => ∃ A c, v = .slice A l.length c ∧ l.length ≤ 9223372036854775807 ∧ ∀ (j : Nat) (p : Pd), l[j]? = some p → ∃ b o s u, A = some ⟨b, o, s⟩ ∧ S b ∧ b < w.heap.size ∧ PdCell w ((⟨b, o, s⟩ : Addr).add (j * 14)) p.f u ∧ PsBy S d w u p.ps
theorem PsBy.imp {S T : Nat → Prop} {d : Nat} {w w' : World} (hs : w.heap.size ≤ w'.heap.size) (hb : ∀ k, S k → k < w.heap.size → T k ∧ w'.heap[k]? = w.heap[k]?) : ∀ {v : Value} {l : List Pd}, PsBy S d w v l → PsBy T d w' v l := by
  induction d with
  | zero => intro v l h; exact h
  | succ d ih =>
    intro v l h
    obtain ⟨A, c, hv, hc, hx⟩ := h
    refine ⟨A, c, hv, hc, fun j p hj => ?_⟩
    obtain ⟨b, o, s, u, hA, hS, hlt, hcell, hp⟩ := hx j p hj
    obtain ⟨h1, h2⟩ := hb b hS hlt
    exact ⟨b, o, s, u, hA, h1, Nat.lt_of_lt_of_le hlt hs, hcell.block (by rw [add_block]; exact h2), ih hp⟩
theorem PsBy.to_in {lo d : Nat} {w : World} : ∀ {v : Value} {l : List Pd}, PsBy (fun k => lo ≤ k) d w v l → PsIn lo d w v l := by
  induction d with
  | zero => intro v l h; exact h
  | succ d ih =>
    intro v l h
    obtain ⟨A, c, hv, hc, hx⟩ := h
    refine ⟨A, c, hv, hc, fun j p hj => ?_⟩
    obtain ⟨b, o, s, u, hA, hS, hlt, hcell, hp⟩ := hx j p hj
    exact ⟨b, o, s, u, hA, hS, hlt, hcell, ih hp⟩
theorem PsBy.of_in {lo d : Nat} {w : World} : ∀ {v : Value} {l : List Pd}, PsIn lo d w v l → PsBy (fun k => lo ≤ k) d w v l := by
  induction d with
  | zero => intro v l h; exact h
  | succ d ih =>
    intro v l h
    obtain ⟨A, c, hv, hc, hx⟩ := h
    refine ⟨A, c, hv, hc, fun j p hj => ?_⟩
    obtain ⟨b, o, s, u, hA, hS, hlt, hcell, hp⟩ := hx j p hj
    exact ⟨b, o, s, u, hA, hS, hlt, hcell, ih hp⟩
theorem PsIn.nil (lo d : Nat) (w : World) : PsIn lo d w (.slice none 0 0) [] := PsIn.mono (d := 0) ⟨rfl, none, 0, rfl⟩ (Nat.zero_le _)
theorem PsIn.gw {lo d R : Nat} {w w' : World} {v : Value} {l : List Pd} (h : PsIn lo d w v l) (hg : Gw R w w') (hR : R < lo) : PsIn lo d w' v l :=
  h.keep hg.size fun k hk hlt => hg.block k hlt (by intro e; cases e; omega)

/-- behind a reader of a predicate: what g tells, in memory that was not there -/
def Got1 (w0 : World) (R b c : Nat) (l : List Int) (d : Nat) (w : World) (g : Tx.Got Pd) (i : Nat) (e : Int) (E : Ending) (w' : World) : Prop :=
  ∃ (f : Pf) (A : Option Addr) (m k : Nat) (ps : List Pd) (i' : Nat) (e' : Int),
    E = .returned (.agg #[.int .i64 f.k, .int .i64 f.u, .int .i64 f.o, .int .i64 f.a.k, .int .i64 f.a.t, .int .i64 f.a.c, .bool f.a.z, .int .i64 f.a.n, .int .i64 f.b.k, .int .i64 f.b.t, .int .i64 f.b.c, .bool f.b.z, .int .i64 f.b.n, .slice A m k]) ∧
    Hid (Tx.Step g i e (.mk f ps) i' e') ∧ Hid (e' = 0 → PsIn w.heap.size d w' (.slice A m k) ps) ∧ Rd w0 w' R b c l.length i' e' ∧ Gw R w w'

namespace Tx
def cmpG (l : List Int) (i : Nat) (j : Nat) : Got Pd :=
  let a := term l i
  if a.e ≠ 0 then ⟨zp, a.i, a.e⟩
  else if at_ l a.i ≠ 44 then ⟨zp, a.i, 1⟩
  else
    let b := term l (a.i + 1)
    ⟨.mk (bare 2 0 (j + 1) a.x b.x) [], b.i, b.e⟩
def nullG (l : List Int) (i : Nat) : Got Pd :=
  let a := term l i
  ⟨.mk (bare 3 0 0 a.x zt) [], a.i, a.e⟩
def listG (tk : Nat → Got Pd) (l : List Int) (i : Nat) (kd : Int) : Got Pd :=
  let p := list tk l i
  ⟨.mk (bare kd 0 0 zt zt) p.x, p.i, p.e⟩
def notG (tk : Nat → Got Pd) (i : Nat) : Got Pd :=
  let p := tk i
  ⟨.mk (bare 6 0 0 zt zt) [p.x], p.i, p.e⟩
theorem take_on (l : List Int) (k i : Nat) : take l (k + 1) i =
    match place truths (at_ l i) with
    | some j => ⟨.mk (bare 1 j 0 zt zt) [], i + 1, 0⟩
    | none => match place signs (at_ l i) with
      | some j => cmpG l (i + 1) j
      | none => if at_ l i = 0x2205 then nullG l (i + 1) else if at_ l i = 0x2227 ∨ at_ l i = 0x2228 then listG (take l k) l (i + 1) (if at_ l i = 0x2227 then 4 else 5) else if at_ l i = 0xAC then notG (take l k) (i + 1) else ⟨zp, i, 1⟩ := by
  rw [take]
  rfl
theorem cmp_math {l : List Int} {i i1 i2 i3 j : Nat} {e1 e2 e3 : Int} {a b : Tm} (h1 : Step (term l i) i 0 a i1 e1) (h2 : (i2, e2) = passS l 44 i1 e1) (h3 : Step (term l i2) i2 e2 b i3 e3) :
    Step (cmpG l i j) i 0 (.mk (bare 2 0 (j + 1) a b) []) i3 e3 := by
  refine ⟨fun h => absurd rfl h, fun _ => ?_⟩
  obtain ⟨rfl, rfl, hx1⟩ := h1.2 rfl
  unfold cmpG
  simp only
  unfold passS at h2
  by_cases ht : (term l i).e = 0
  rotate_left
  · rw [if_pos ht] at h2 ⊢
    obtain ⟨rfl, rfl⟩ := pair_eq h2
    obtain ⟨rfl, rfl⟩ := h3.1 ht
    exact ⟨rfl, rfl, fun h => absurd h ht⟩
  rw [if_neg (fun g => g ht)] at h2 ⊢
  by_cases h46 : at_ l (term l i).i = 44
  rotate_left
  · rw [if_neg h46] at h2
    rw [if_pos h46]
    obtain ⟨rfl, rfl⟩ := pair_eq h2
    obtain ⟨rfl, rfl⟩ := h3.1 (by decide)
    exact ⟨rfl, rfl, fun h => absurd h (by decide)⟩
  rw [if_pos h46] at h2
  rw [if_neg (fun g => g h46)]
  obtain ⟨rfl, rfl⟩ := pair_eq h2
  obtain ⟨rfl, rfl, hx3⟩ := h3.2 rfl
  refine ⟨rfl, rfl, fun h0 => ?_⟩
  rw [hx1 ht, hx3 h0]
theorem null_math {l : List Int} {i i1 : Nat} {e1 : Int} {a : Tm} (h1 : Step (term l i) i 0 a i1 e1) : Step (nullG l i) i 0 (.mk (bare 3 0 0 a zt) []) i1 e1 := by
  refine ⟨fun h => absurd rfl h, fun _ => ?_⟩
  obtain ⟨rfl, rfl, hx1⟩ := h1.2 rfl
  refine ⟨rfl, rfl, fun h0 => ?_⟩
  rw [hx1 h0]
  rfl
end Tx
end Go.Proofs.YteimbdklakemaaaGreatDoor
