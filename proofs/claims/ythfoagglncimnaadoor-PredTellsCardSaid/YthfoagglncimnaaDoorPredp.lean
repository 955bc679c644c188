/-
  WHAT THE CONTRACTS OF package pred SPEAK OF. THE CONTRACTS THEMSELVES (wip/pred-contracts.txt) COME HERE, proved of what lands.
-/
import Derived.Test.YthfoagglncimnaaDoorPredh
import Derived.Test.YthfoagglncimnaaDoorPrede
import Derived.Test.YthfoagglncimnaaDoorPredc
namespace Go.Proofs.YthfoagglncimnaaDoor
open Go.RowKit Go.Sort
/-- pairs of numbers in memory -/
def Pairs (w : World) (v : Value) (l : List (Int × Int)) : Prop :=
  ∃ A c, v = .slice A l.length c ∧ l.length ≤ 1000000 ∧ ∀ (j : Nat) (x : Int × Int), l[j]? = some x → ∃ b o p, A = some ⟨b, o, p⟩ ∧ b < w.heap.size ∧ w.cell? ((⟨b, o, p⟩ : Addr).add (j * 2)) = some (.int .i64 x.1) ∧ w.cell? ⟨((⟨b, o, p⟩ : Addr).add (j * 2)).block, ((⟨b, o, p⟩ : Addr).add (j * 2)).off + 1, none⟩ = some (.int .i64 x.2)
def SomePairs (w : World) (l : List (Int × Int)) (e : Ending) (w' : World) : Prop := ∃ v, e = .returned v ∧ Pairs w' v l ∧ Below w.heap.size w w'
/-- a predicate in memory of its own -/
def SomePred (w : World) (f : Pf) (ps : List Pd) (e : Ending) (w' : World) : Prop := ∃ u d, e = .returned (.agg #[.int .i64 f.k, .int .i64 f.u, .int .i64 f.o, .int .i64 f.a.k, .int .i64 f.a.t, .int .i64 f.a.c, .bool f.a.z, .int .i64 f.a.n, .int .i64 f.b.k, .int .i64 f.b.t, .int .i64 f.b.c, .bool f.b.z, .int .i64 f.b.n, u]) ∧ PsAt d w' u ps ∧ Below w.heap.size w w'
end Go.Proofs.YthfoagglncimnaaDoor
