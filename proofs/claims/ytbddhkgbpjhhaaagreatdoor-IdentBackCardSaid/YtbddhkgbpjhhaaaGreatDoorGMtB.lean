/-
  LAID TOGETHER, BY PROGRAM, of: Mta, Clr, Mtb, Mtc, Mtl, Mtd.
-/
import Derived.Test.YtbddhkgbpjhhaaaGreatDoorGPl2
import Derived.Test.YtbddhkgbpjhhaaaGreatDoorGBase
import Derived.Test.YtbddhkgbpjhhaaaGreatDoorGIter
import Derived.Test.YtbddhkgbpjhhaaaGreatDoorGPred
import Derived.Laws.AppendOwnNone
import Derived.Lib.BufferMore
import Derived.WalkKit
import Derived.WalkSpells
import Derived.OwnWalk
import Derived.Laws.OwnMore
import Derived.Laws.CopyOwn
import Derived.Lib.Hide
import Derived.Lib.AppendZerosOnto
import Derived.Lib.AppendZeros
namespace Go.Proofs.YtbddhkgbpjhhaaaGreatDoor
open Go.RowKit
variable {T S : Nat → Prop} {w w' : World} {v : Value}
theorem keeps_below {B : Nat} (h : Below B w w') : Keeps (fun k => k < B) w w' := ⟨h.os, h.tape, h.output, h.size, fun k _ hk => h.block k hk⟩
theorem own_keeps {base : Nat} {e : TypeId} {s n : Nat} {xs : List Value} (h : w.ownsRow base e s v n xs) (hk : Keeps S w w') (hs : ∀ k, v.ownBlock = some k → S k) : w'.ownsRow base e s v n xs := by
  refine ⟨h.1, ?_⟩
  rcases h.2 with hn | ⟨g, cap, cur, rfl, h1, hg, rest⟩
  · exact .inl hn
  · exact .inr ⟨g, cap, cur, rfl, h1, (hk.same g (Array.getElem?_eq_some_iff.1 hg).1 (hs g rfl)).trans hg, rest⟩
theorem add_here13 (g k : Nat) : (⟨g, 0, none⟩ : Addr).add k = ⟨g, k, none⟩ := by
  unfold Addr.add
  split
  · next h => subst h; rfl
  · simp
theorem wpList_append_at {P : Program} (w : World) {ops : Array Oper} {rest : List Oper} {o : Oper} {a : Act} {Q : Exit → Act → World → Prop} (hgd : o.guard = none) (s x : Operand) (t : TypeId)
    (ho : o.op = .call { callee := .builtin .append, args := #[s, x], argTypes := #[t, t] })
    (base : Nat) (e : TypeId) (i : TypeInfo) (z : Value) (size bytes : Nat) (ht : P.underlying t = some (.slice e)) (hi : P.info? e = some i) (hz : i.zero = some z)
    (hsize : i.size = size) (hby : i.bytes = bytes) (hzs : z.cells.size = size) (hs0 : 0 < size)
    (v : Value) (n : Nat) (xs : List Value) (hs : a.eval s = v) (hown : w.ownsRow base e size v n xs)
    (ad : Addr) (m c : Nat) (news : List Value) (hx : a.eval x = .slice (some ad) m c) (hl : news.length = m * size) (hc : ∀ j u, news[j]? = some u → w.cell? (ad.add j) = some u) (h1 : ∀ u ∈ news, u.oneCell' = true)
    (h63 : n + m ≤ maxLen) (hbytes : (n + m) * bytes ≤ 140737488355328) (hbase : base ≤ w.heap.size)
    (h : ∀ v' w', w'.ownsRow base e size v' (n + m) (xs ++ news) → w.grownBy w' v.ownBlock → (v'.ownBlock = v.ownBlock ∨ ∃ g, v'.ownBlock = some g ∧ w.heap.size ≤ g) → wpList P ops Q rest (a.put o.dst v') w') : wpList P ops Q (o :: rest) a w := by
  refine wpList_plain hgd fun K hK => ?_
  obtain ⟨v', w', hrun, r1, r2, r3⟩ := run_append_sep (P := P) w base t o.type e i z size bytes ht hi hz hsize hby hzs hs0 v n xs hown ad m c news hl hc h1 h63 hbytes hbase
  unfold Oper.wp
  simp [execOp, ho, resolve, invoke, builtin, hs, hx, hrun, Result.andThen]
  exact hK _ _ (h v' w' r1 r2 r3)
end Go.Proofs.YtbddhkgbpjhhaaaGreatDoor
namespace Go.Proofs.YtbddhkgbpjhhaaaGreatDoor
open Go.RowKit Go.Sort
set_option maxHeartbeats 1600000
end Go.Proofs.YtbddhkgbpjhhaaaGreatDoor
namespace Go.Proofs.YtbddhkgbpjhhaaaGreatDoor
open Go.RowKit Go.Sort
set_option maxHeartbeats 1600000
section
variable (z : Bool) (n : Int) (z' : Bool) (n' : Int) (w : World)
end
end Go.Proofs.YtbddhkgbpjhhaaaGreatDoor
namespace Go.Proofs.YtbddhkgbpjhhaaaGreatDoor
open Go.RowKit Go.Sort
set_option maxHeartbeats 1600000
end Go.Proofs.YtbddhkgbpjhhaaaGreatDoor
namespace Go.Proofs.YtbddhkgbpjhhaaaGreatDoor
open Go Go.RowKit
variable {P : Program}
end Go.Proofs.YtbddhkgbpjhhaaaGreatDoor
namespace Go.Proofs.YtbddhkgbpjhhaaaGreatDoor
open Go.RowKit Go.Sort
set_option maxHeartbeats 3200000
end Go.Proofs.YtbddhkgbpjhhaaaGreatDoor
