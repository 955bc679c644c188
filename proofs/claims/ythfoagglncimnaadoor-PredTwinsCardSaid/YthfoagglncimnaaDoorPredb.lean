/-
  THE CONTRACT OF THE DOCUMENT's Same OF LAYER 6.
-/
import Derived.Test.YthfoagglncimnaaDoorPreda
namespace Go.Proofs.YthfoagglncimnaaDoor
open Go.RowKit Go.Sort
set_option maxHeartbeats 3200000

theorem fsame_eq {f g : Pf} (h : Pr.fsame f g = true) : f = g := by
  obtain ⟨k, u, o, ⟨a1, a2, a3, a4, a5⟩, ⟨b1, b2, b3, b4, b5⟩⟩ := f
  obtain ⟨k', u', o', ⟨c1, c2, c3, c4, c5⟩, ⟨d1, d2, d3, d4, d5⟩⟩ := g
  simp [Pr.fsame, Te.same] at h
  obtain ⟨⟨⟨⟨rfl, rfl⟩, rfl⟩, ⟨⟨⟨rfl, rfl⟩, rfl⟩, rfl⟩, rfl⟩, ⟨⟨⟨rfl, rfl⟩, rfl⟩, rfl⟩, rfl⟩ := h
  rfl
theorem fsame_self (f : Pf) : Pr.fsame f f = true := by simp [Pr.fsame, Te.same]
/-- two boxes of predicates -/
theorem pd_boxes {w W0 : World} {T : TypeId} {f g : Pf} {u v : Value} (h : W0 = (w.alloc (Obj.cells (f.cells u).toArray T)).alloc (Obj.cells (g.cells v).toArray T)) :
    PdCell W0 ⟨w.heap.size, 0, none⟩ f u ∧ PdCell W0 ⟨w.heap.size + 1, 0, none⟩ g v ∧ Below w.heap.size w W0 ∧ w.heap.size + 1 < W0.heap.size := by
  obtain ⟨l1, l2, hb⟩ := box_two (cs := f.cells u) (ds := g.cells v) h
  exact ⟨l1.pd, l2.pd, hb, l2.lt⟩
/-- where a field parts them -/
theorem r6same_field (f g : Pf) (A B : Option Addr) (n m c e : Nat) (w : World) (h : Pr.fsame f g = false) :
    Calls Tryd.prog 13 #[.agg #[.int .i64 f.k, .int .i64 f.u, .int .i64 f.o, .int .i64 f.a.k, .int .i64 f.a.t, .int .i64 f.a.c, .bool f.a.z, .int .i64 f.a.n, .int .i64 f.b.k, .int .i64 f.b.t, .int .i64 f.b.c, .bool f.b.z, .int .i64 f.b.n, .slice A n c], .agg #[.int .i64 g.k, .int .i64 g.u, .int .i64 g.o, .int .i64 g.a.k, .int .i64 g.a.t, .int .i64 g.a.c, .bool g.a.z, .int .i64 g.a.n, .int .i64 g.b.k, .int .i64 g.b.t, .int .i64 g.b.c, .bool g.b.z, .int .i64 g.b.n, .slice B m e]] w fun e w' => e = .returned (.bool false) ∧ Below w.heap.size w w' := by
  obtain ⟨fk, fu, fo, ⟨fak, fat, fac, faz, fan⟩, ⟨fbk, fbt, fbc, fbz, fbn⟩⟩ := f
  obtain ⟨gk, gu, go, ⟨gak, gat, gac, gaz, gan⟩, ⟨gbk, gbt, gbc, gbz, gbn⟩⟩ := g
  dsimp only
  have hd : (¬ fk = gk) ∨ (fk = gk ∧ ¬ fu = gu) ∨ (fk = gk ∧ fu = gu ∧ ¬ fo = go) ∨ (fk = gk ∧ fu = gu ∧ fo = go ∧ ¬ fak = gak) ∨ (fk = gk ∧ fu = gu ∧ fo = go ∧ fak = gak ∧ ¬ fat = gat) ∨ (fk = gk ∧ fu = gu ∧ fo = go ∧ fak = gak ∧ fat = gat ∧ ¬ fac = gac) ∨ (fk = gk ∧ fu = gu ∧ fo = go ∧ fak = gak ∧ fat = gat ∧ fac = gac ∧ ¬ faz = gaz) ∨ (fk = gk ∧ fu = gu ∧ fo = go ∧ fak = gak ∧ fat = gat ∧ fac = gac ∧ faz = gaz ∧ ¬ fan = gan) ∨ (fk = gk ∧ fu = gu ∧ fo = go ∧ fak = gak ∧ fat = gat ∧ fac = gac ∧ faz = gaz ∧ fan = gan ∧ ¬ fbk = gbk) ∨ (fk = gk ∧ fu = gu ∧ fo = go ∧ fak = gak ∧ fat = gat ∧ fac = gac ∧ faz = gaz ∧ fan = gan ∧ fbk = gbk ∧ ¬ fbt = gbt) ∨ (fk = gk ∧ fu = gu ∧ fo = go ∧ fak = gak ∧ fat = gat ∧ fac = gac ∧ faz = gaz ∧ fan = gan ∧ fbk = gbk ∧ fbt = gbt ∧ ¬ fbc = gbc) ∨ (fk = gk ∧ fu = gu ∧ fo = go ∧ fak = gak ∧ fat = gat ∧ fac = gac ∧ faz = gaz ∧ fan = gan ∧ fbk = gbk ∧ fbt = gbt ∧ fbc = gbc ∧ ¬ fbz = gbz) ∨ (fk = gk ∧ fu = gu ∧ fo = go ∧ fak = gak ∧ fat = gat ∧ fac = gac ∧ faz = gaz ∧ fan = gan ∧ fbk = gbk ∧ fbt = gbt ∧ fbc = gbc ∧ fbz = gbz ∧ ¬ fbn = gbn) := by
    simp only [Pr.fsame, Te.same] at h
    by_cases e0 : fk = gk
    rotate_left
    · left; exact e0
    by_cases e1 : fu = gu
    rotate_left
    · right; left; exact ⟨e0, e1⟩
    by_cases e2 : fo = go
    rotate_left
    · right; right; left; exact ⟨e0, e1, e2⟩
    by_cases e3 : fak = gak
    rotate_left
    · right; right; right; left; exact ⟨e0, e1, e2, e3⟩
    by_cases e4 : fat = gat
    rotate_left
    · right; right; right; right; left; exact ⟨e0, e1, e2, e3, e4⟩
    by_cases e5 : fac = gac
    rotate_left
    · right; right; right; right; right; left; exact ⟨e0, e1, e2, e3, e4, e5⟩
    by_cases e6 : faz = gaz
    rotate_left
    · right; right; right; right; right; right; left; exact ⟨e0, e1, e2, e3, e4, e5, e6⟩
    by_cases e7 : fan = gan
    rotate_left
    · right; right; right; right; right; right; right; left; exact ⟨e0, e1, e2, e3, e4, e5, e6, e7⟩
    by_cases e8 : fbk = gbk
    rotate_left
    · right; right; right; right; right; right; right; right; left; exact ⟨e0, e1, e2, e3, e4, e5, e6, e7, e8⟩
    by_cases e9 : fbt = gbt
    rotate_left
    · right; right; right; right; right; right; right; right; right; left; exact ⟨e0, e1, e2, e3, e4, e5, e6, e7, e8, e9⟩
    by_cases e10 : fbc = gbc
    rotate_left
    · right; right; right; right; right; right; right; right; right; right; left; exact ⟨e0, e1, e2, e3, e4, e5, e6, e7, e8, e9, e10⟩
    by_cases e11 : fbz = gbz
    rotate_left
    · right; right; right; right; right; right; right; right; right; right; right; left; exact ⟨e0, e1, e2, e3, e4, e5, e6, e7, e8, e9, e10, e11⟩
    by_cases e12 : fbn = gbn
    rotate_left
    · right; right; right; right; right; right; right; right; right; right; right; right; exact ⟨e0, e1, e2, e3, e4, e5, e6, e7, e8, e9, e10, e11, e12⟩
    subst e0 e1 e2 e3 e4 e5 e6 e7 e8 e9 e10 e11 e12
    simp at h
  clear h
  rcases hd with hne | ⟨rfl, hne⟩ | ⟨rfl, rfl, hne⟩ | ⟨rfl, rfl, rfl, hne⟩ | ⟨rfl, rfl, rfl, rfl, hne⟩ | ⟨rfl, rfl, rfl, rfl, rfl, hne⟩ | ⟨rfl, rfl, rfl, rfl, rfl, rfl, hne⟩ | ⟨rfl, rfl, rfl, rfl, rfl, rfl, rfl, hne⟩ | ⟨rfl, rfl, rfl, rfl, rfl, rfl, rfl, rfl, hne⟩ | ⟨rfl, rfl, rfl, rfl, rfl, rfl, rfl, rfl, rfl, hne⟩ | ⟨rfl, rfl, rfl, rfl, rfl, rfl, rfl, rfl, rfl, rfl, hne⟩ | ⟨rfl, rfl, rfl, rfl, rfl, rfl, rfl, rfl, rfl, rfl, rfl, hne⟩ | ⟨rfl, rfl, rfl, rfl, rfl, rfl, rfl, rfl, rfl, rfl, rfl, rfl, hne⟩
  all_goals
    go_enter Tryd.func13, Tryd.ntmps13
    go_wp2_with fail
    go_ret
    exact ⟨rfl, below_new2 _ _ _⟩
end Go.Proofs.YthfoagglncimnaaDoor
