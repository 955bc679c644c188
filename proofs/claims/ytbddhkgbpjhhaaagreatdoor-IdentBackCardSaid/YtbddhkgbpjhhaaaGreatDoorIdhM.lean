/-
  PACKAGE ident: a tree is the same as itself (plain mathematics).
-/
import Derived.Test.YtbddhkgbpjhhaaaGreatDoorGPl2
namespace Go.Proofs.YtbddhkgbpjhhaaaGreatDoor
namespace Pr
theorem fsame_self17 (f : Pf) : fsame f f = true := by simp [fsame, Te.same]
mutual
theorem same_self17 : ∀ p : Pd, same p p = true
  | .mk f ps => by rw [same, fsame_self17, sames_self17 ps]; rfl
theorem sames_self17 : ∀ l : List Pd, sames l l = true
  | [] => by rw [sames]
  | p :: r => by rw [sames, same_self17 p, sames_self17 r]; rfl
end
end Pr
namespace Tr
mutual
theorem same_self17 : ∀ a : Tr, same a a = true
  | .mk k t h cs ks => by rw [same, Pr.sames_self17 cs, sames_self17 ks]; simp
theorem sames_self17 : ∀ l : List Tr, sames l l = true
  | [] => by rw [sames]
  | a :: r => by rw [sames, same_self17 a, sames_self17 r]; rfl
end
end Tr
theorem Id.back_all {cols : List Int} {t x : Tr} {how : Nat} (hq : Ck.query cols t = 0) (h0 : 1 ≤ how) (h5 : how ≤ 5) (h : Id.doo how t = some x) :
    Id.doo (Id.undo how) x = some t ∧ Tr.tables x = Tr.tables t ∧ Tr.seen x = Tr.seen t ∧ Tr.size x = Tr.size t := by
  obtain ⟨_, _, h3⟩ := Ck.query_right hq
  obtain ⟨e, hb⟩ := Id.doo_eqv h0 h5 (Ck.good_of h3) (Ck.tour_lv h3) h
  exact ⟨hb, Id.tables_perm e.lv, e.seen, e.size⟩
end Go.Proofs.YtbddhkgbpjhhaaaGreatDoor
