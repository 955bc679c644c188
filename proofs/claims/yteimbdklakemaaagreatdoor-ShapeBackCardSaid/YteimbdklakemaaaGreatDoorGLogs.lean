/-
  LAID TOGETHER, BY PROGRAM, of: Loga, Logb, Logc, Seq.
-/
import Derived.Test.YteimbdklakemaaaGreatDoorRows
import Derived.Test.YteimbdklakemaaaGreatDoorGBase
import Derived.Test.YteimbdklakemaaaGreatDoorGPlain
import Derived.BigQuiet
import Derived.Deep.QuietTactic
import Derived.Lib.QuietBelow
import Derived.Laws.AppendOwnNone
import Derived.OwnWalk
/-
  THE CONTRACTS OF package logic: Right, Not, Of, And, Or; of its parts; and of the library's IndexFunc, ContainsFunc at its two closures.
-/
namespace Go.Proofs.YteimbdklakemaaaGreatDoor
open Go.RowKit
set_option maxHeartbeats 400000

theorem sure_any (t : Int) (w : World) :
    Calls Tryz.prog 77 #[.int .i64 t] w fun e w' => e = .returned (.bool (Lo.known t)) ∧ w = w' := by
  by_cases h : t = 0
  · subst h
    go_enter Tryz.func77, Tryz.ntmps77
    go_wp2
    go_ret
    exact ⟨rfl, rfl⟩
  · have hb : (t == 0) = false := by simp [h]
    have H := Lib.hid h
    clear h
    go_enter Tryz.func77, Tryz.ntmps77
    go_wp2
    go_ret
    exact ⟨ret_bool (by simp [Lo.known, hb]), rfl⟩
theorem lright_any (t : Int) (w : World) :
    Calls Tryz.prog 66 #[.int .i64 t] w fun e w' => e = .returned (.bool (t == 0 || t == 1 || t == 2)) ∧ w = w' := by
  by_cases h : t = 1
  · subst h
    go_enter Tryz.func66, Tryz.ntmps66
    go_wp2
    go_ret
    exact ⟨rfl, rfl⟩
  · have hb : (t == 1) = false := by simp [h]
    have H : Hid (Lo.known t = (t == 0 || t == 1 || t == 2)) := Lib.hid (by simp [Lo.known, hb])
    have hs := sure_any t
    clear h
    go_enter Tryz.func66, Tryz.ntmps66
    go_wp2_with (first | (go_at_call 77; refine (hs _).mono ?_; rintro e w' ⟨rfl, rfl⟩))
    go_ret
    exact ⟨ret_bool H.out, rfl⟩

end Go.Proofs.YteimbdklakemaaaGreatDoor

/-
  THE CONTRACTS OF package logic's And, Or, by its settle; and of the library's IndexFunc, ContainsFunc at its two closures.
-/
namespace Go.Proofs.YteimbdklakemaaaGreatDoor
open Go.RowKit
set_option maxHeartbeats 400000



end Go.Proofs.YteimbdklakemaaaGreatDoor

/-
  THE DOCUMENT's ANSWERS OF LAYER 4 (three, Not, And, Or); AND awake: the chapter's examples hold.
-/
namespace Go.Proofs.YteimbdklakemaaaGreatDoor
open Go.RowKit
set_option maxHeartbeats 400000


theorem below_join4 {w a b : World} (h : Below w.heap.size w a) (k : Below a.heap.size a b) : Below w.heap.size w b :=
  ⟨k.os.trans h.os, k.tape.trans h.tape, k.output.trans h.output, Nat.le_trans h.size k.size, fun i hi => (k.block i (Nat.lt_of_lt_of_le hi h.size)).trans (h.block i hi)⟩
/-- a slice of numbers that the call has just built -/
theorem sl_built (w : World) (l : List Int) : Sl (w.alloc (.cells (l.map (Value.int .i64)).toArray 3)) (.slice (some ⟨w.heap.size, 0, none⟩) l.length l.length) (l.map (Value.int .i64)) := by
  have := Sl.new w 3 (l.map (Value.int .i64))
  rwa [List.length_map] at this
theorem sl_none (w : World) : Sl w (.slice none 0 0) (([] : List Int).map (Value.int .i64)) := ⟨none, 0, rfl, by simp, fun j u hu => by simp at hu⟩
end Go.Proofs.YteimbdklakemaaaGreatDoor

/-
  append OF A SLICE THAT CAME IN (nil, or not) ONTO A ROW OF THE CALL's OWN; and what is kept of a row of one's own where only new blocks are laid.
-/
namespace Go.Proofs.YteimbdklakemaaaGreatDoor
open Go Go.RowKit
variable {P : Program}

/-- a slice that reads as xs: it is nil, or it has an address -/
structure Came1 (w : World) (v : Value) (xs : List Value) : Prop where
  sl : Sl w v xs
  form : (v = .slice none 0 0 ∧ xs = []) ∨ ∃ b c, v = .slice (some b) xs.length c
theorem Came1.below {w w' : World} {B : Nat} {v : Value} {xs : List Value} (h : Came1 w v xs) (hb : Below B w w') (hB : w.heap.size ≤ B) : Came1 w' v xs := ⟨h.sl.below hb hB, h.form⟩
theorem Came1.own {w : World} {base : Nat} {e : TypeId} {v : Value} {n : Nat} {xs : List Value} (h : w.ownsRow base e 1 v n xs) : Came1 w v xs := by
  refine ⟨Sl.own h, ?_⟩
  have hl : xs.length = n := by have := h.1; omega
  rcases h.2 with ⟨hv, hn⟩ | ⟨g, cap, cur, hv, _⟩
  · exact .inl ⟨hv, List.eq_nil_of_length_eq_zero (by omega)⟩
  · exact .inr ⟨_, cap, by rw [hv, hl]⟩
theorem own_below {w w' : World} {base : Nat} {e : TypeId} {s : Nat} {v : Value} {n : Nat} {xs : List Value} (h : w.ownsRow base e s v n xs) (hb : Below w.heap.size w w') : w'.ownsRow base e s v n xs := by
  refine ⟨h.1, ?_⟩
  rcases h.2 with hn | ⟨g, cap, cur, rfl, h1, hg, rest⟩
  · exact .inl hn
  · exact .inr ⟨g, cap, cur, rfl, h1, (hb.block g (Array.getElem?_eq_some_iff.1 hg).1).trans hg, rest⟩
/-- append on a row of the call's own: whatever lay ahead of the row's base lies as it lay -/
theorem grown_below {w w' w0 : World} {base : Nat} {e : TypeId} {s : Nat} {v : Value} {n : Nat} {xs : List Value} (h : w.ownsRow base e s v n xs) (hg : w.grownBy w' v.ownBlock) (hb : Below base w0 w) (hB : base ≤ w.heap.size) : Below base w0 w' :=
  hb.grown hg hB fun k hk => (h.lt k hk).1

theorem wpList_append_came (w : World) {ops : Array Oper} {rest : List Oper} {o : Oper} {a : Act} {Q : Exit → Act → World → Prop} (hgd : o.guard = none) (s x : Operand) (t : TypeId)
    (ho : o.op = .call { callee := .builtin .append, args := #[s, x], argTypes := #[t, t] })
    (base : Nat) (e : TypeId) (i : TypeInfo) (z : Value) (bytes : Nat) (ht : P.underlying t = some (.slice e)) (hi : P.info? e = some i) (hz : i.zero = some z)
    (hsize : i.size = 1) (hby : i.bytes = bytes) (hzs : z.cells.size = 1)
    (v : Value) (n : Nat) (xs : List Value) (hs : a.eval s = v) (hown : w.ownsRow base e 1 v n xs)
    (u : Value) (news : List Value) (hx : a.eval x = u) (hu : Came1 w u news) (h1 : ∀ u ∈ news, u.oneCell' = true)
    (h63 : n + news.length ≤ maxLen) (hbytes : (n + news.length) * bytes ≤ 140737488355328) (hbase : base ≤ w.heap.size)
    (h : ∀ v' w', w'.ownsRow base e 1 v' (n + news.length) (xs ++ news) → w.grownBy w' v.ownBlock → wpList P ops Q rest (a.put o.dst v') w') : wpList P ops Q (o :: rest) a w := by
  rcases hu.form with ⟨rfl, rfl⟩ | ⟨b, c, rfl⟩
  · refine wpList_append_own_none hgd s x t ho base e i 1 ht hi v n xs hs hown hx ?_
    exact h v w (by simpa using hown) ⟨rfl, rfl, rfl, Nat.le_refl _, fun _ _ _ => rfl⟩
  · refine wpList_append_own w hgd s x t ho base e i z 1 bytes ht hi hz hsize hby hzs (by decide) v n xs hs hown b news.length c news hx (by omega) ?_ h1 h63 hbytes hbase fun v' w' h2 h3 _ => h v' w' h2 h3
    intro j y hy
    obtain ⟨A, c', hv, _, hcell⟩ := hu.sl
    cases hv
    obtain ⟨b', o', p', hA, _, hc⟩ := hcell j y hy
    cases hA
    exact hc
theorem ints_one (l : List Int) (k : IntKind) : ∀ u ∈ l.map (Value.int k), u.oneCell' = true := by
  intro u hu
  obtain ⟨x, _, rfl⟩ := List.mem_map.1 hu
  rfl
end Go.Proofs.YteimbdklakemaaaGreatDoor
