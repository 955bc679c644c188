/-
  A PREDICATE'S TEXT AS BYTES: there and back.
-/
import Derived.Test.YteimbdklakemaaaGreatDoorTxtM
import Derived.Test.YteimbdklakemaaaGreatDoorRnsM
namespace Go.Proofs.YteimbdklakemaaaGreatDoor
open Go.Lib
namespace Tx
theorem Low.valid {r : Int} (h : Low r) : Utf8.valid r = true := by
  unfold Utf8.valid
  have := h.1
  have := h.2
  simp
  omega
/-- a predicate's text, a term's -/
def bytes (p : Pd) : List UInt8 := Rn.encs (text p)
def termBytes (x : Tm) : List UInt8 := Rn.encs (termText x)
theorem encs_digits (n : Nat) : Rn.encs (digits n) = decDigits n := by
  unfold digits
  have h := (Va.digits_facts n).1
  generalize decDigits n = l at h
  induction l with
  | nil => rfl
  | cons c s ih =>
    rw [List.all_cons, Bool.and_eq_true] at h
    have hc := Va.isD_iff.1 h.1
    have e : Rn.enc ((c.toNat : Nat) : Int) = [c] := by
      rw [Rn.enc_one (by omega), Rn.byte_eq rfl]
    show Rn.enc ((c.toNat : Nat) : Int) ++ Rn.encs (s.map fun c => (c.toNat : Int)) = c :: s
    rw [e, ih h.2]
    rfl
theorem encs_whole (n : Int) : Rn.encs (whole n) = itoa n := by
  unfold whole itoa
  split
  · show Rn.enc ((45 : Nat) : Int) ++ Rn.encs (digits n.natAbs) = _
    rw [Rn.enc_one (by decide), encs_digits]
    rfl
  · have e : n.natAbs = n.toNat := by omega
    rw [e]
    exact encs_digits _
/-- a term's text in bytes: as the document joins it -/
theorem termBytes_col {x : Tm} (h : x.k = 1) : termBytes x = itoa x.t ++ [46] ++ itoa x.c := by
  unfold termBytes termText
  rw [if_pos h, Rn.encs_app, Rn.encs_app, encs_whole, encs_whole]
  rfl
theorem termBytes_value {x : Tm} (h : x.k ≠ 1) : termBytes x = 39 :: (if x.z then Va.nul else itoa x.n) := by
  unfold termBytes termText
  rw [if_neg h]
  cases x.z
  · show Rn.enc ((39 : Nat) : Int) ++ Rn.encs (whole x.n) = _
    rw [encs_whole, Rn.enc_one (by decide)]
    rfl
  · show Rn.enc ((39 : Nat) : Int) ++ (Rn.enc ((8709 : Nat) : Int) ++ []) = _
    rw [Rn.enc_one (by decide), Rn.enc_three (by decide) (by decide) (by decide)]
    rfl
theorem bytes_runes {p : Pd} {d : Nat} (h : Pr.rightAt p d = true) : Rn.runes (bytes p) = text p :=
  Rn.runes_encs fun r hr => (text_low _ p d (Nat.le_refl _) h r hr).valid
/-- a predicate that may be comes back of its text -/
theorem bytes_back {p : Pd} (h : Pr.rightAt p 1 = true) (hw : wf p) : parse (Rn.runes (bytes p)) = ⟨p, (Rn.runes (bytes p)).length, 0⟩ := by
  rw [bytes_runes h]
  exact parse_back h hw
/-- a text that is taken is the one that is written -/
theorem bytes_took {s : List UInt8} {p : Pd} {e : Nat} (h : parse (Rn.runes s) = ⟨p, e, 0⟩) : Pr.rightAt p 1 = true ∧ wf p ∧ bytes p = s ∧ e = (Rn.runes s).length := by
  obtain ⟨a1, a2, a3, a4⟩ := parse_took h
  refine ⟨a1, a2, ?_, a4⟩
  unfold bytes
  rw [a3]
  refine Rn.encs_runes fun r hr => ?_
  rw [← a3] at hr
  have := (text_low _ p 1 (Nat.le_refl _) a1 r hr).2
  omega
/-! ### As the document joins it -/
theorem texts_snoc (p : Pd) : ∀ l : List Pd, texts (l ++ [p]) = texts l ++ (if l = [] then [] else [59]) ++ text p
  | [] => by rw [List.nil_append, texts, texts]; rfl
  | [q] => by
    show texts (q :: p :: []) = _
    rw [texts, texts, texts, if_neg (by simp)]
  | q :: r :: s => by
    have ih := texts_snoc p (r :: s)
    rw [if_neg (by simp)] at ih ⊢
    show texts (q :: r :: (s ++ [p])) = _
    rw [texts, texts]
    rw [List.cons_append] at ih
    rw [ih]
    simp only [List.append_assoc]
def joined (ps : List Pd) : List UInt8 := Rn.encs (texts ps)
theorem joined_nil : joined [] = [] := by unfold joined; rw [texts]; rfl
theorem joined_snoc (p : Pd) (l : List Pd) : joined (l ++ [p]) = joined l ++ (if l = [] then [] else [59]) ++ bytes p := by
  unfold joined bytes
  rw [texts_snoc, Rn.encs_app, Rn.encs_app]
  split
  · rfl
  · have e : Rn.encs [59] = [59] := by
      show Rn.enc ((59 : Nat) : Int) ++ [] = [59]
      rw [Rn.enc_one (by decide)]; rfl
    rw [e]
theorem encs_one (r : Int) : Rn.encs [r] = Rn.enc r := by
  unfold Rn.encs
  rw [List.flatMap_cons, List.flatMap_nil, List.append_nil]
theorem low_bytes {r : Nat} (h : r < 128) : Rn.encs [(r : Int)] = [UInt8.ofNat r] := by
  rw [encs_one, Rn.enc_one h]
theorem bytes_truth (f : Pf) (ps : List Pd) (h : f.k = 1) : bytes (.mk f ps) = Rn.enc (truths.getD f.u.toNat (-1)) := by
  unfold bytes
  rw [text, if_pos h, encs_one]
theorem bytes_cmp (f : Pf) (ps : List Pd) (h : f.k = 2) : bytes (.mk f ps) = Rn.enc (signs.getD (f.o - 1).toNat (-1)) ++ termBytes f.a ++ [44] ++ termBytes f.b := by
  unfold bytes termBytes
  have e : text (.mk f ps) = [signs.getD (f.o - 1).toNat (-1)] ++ termText f.a ++ [44] ++ termText f.b := by
    rw [text, if_neg (by omega), if_pos h]; rfl
  rw [e, Rn.encs_app, Rn.encs_app, Rn.encs_app, encs_one]
  have e3 : Rn.encs [44] = [44] := low_bytes (r := 44) (by decide)
  rw [e3]
theorem bytes_null (f : Pf) (ps : List Pd) (h : f.k = 3) : bytes (.mk f ps) = Rn.enc 8709 ++ termBytes f.a := by
  unfold bytes
  have e : text (.mk f ps) = [8709] ++ termText f.a := by
    rw [text, if_neg (by omega), if_neg (by omega), if_pos h]; rfl
  rw [e, Rn.encs_app, encs_one]
  rfl
theorem bytes_many (f : Pf) (ps : List Pd) (h : f.k = 4 ∨ f.k = 5) : bytes (.mk f ps) = Rn.enc (if f.k = 4 then 8743 else 8744) ++ [40] ++ joined ps ++ [41] := by
  unfold bytes joined
  have e : text (.mk f ps) = [if f.k = 4 then 8743 else 8744] ++ [40] ++ texts ps ++ [41] := by
    rw [text, if_neg (by omega), if_neg (by omega), if_neg (by omega)]
    rcases h with h | h
    · rw [if_pos h, if_pos h]; rfl
    · rw [if_neg (by omega), if_pos h, if_neg (by omega)]; rfl
  rw [e, Rn.encs_app, Rn.encs_app, Rn.encs_app, encs_one]
  have e1 := low_bytes (r := 40) (by decide)
  have e2 := low_bytes (r := 41) (by decide)
  have e3 : Rn.encs [40] = [40] := e1
  have e4 : Rn.encs [41] = [41] := e2
  rw [e3, e4]
theorem bytes_not (f : Pf) (ps : List Pd) (h : f.k ≠ 1 ∧ f.k ≠ 2 ∧ f.k ≠ 3 ∧ f.k ≠ 4 ∧ f.k ≠ 5) : bytes (.mk f ps) = Rn.enc 172 ++ joined ps := by
  unfold bytes joined
  have e : text (.mk f ps) = [172] ++ texts ps := by
    rw [text, if_neg h.1, if_neg h.2.1, if_neg h.2.2.1, if_neg h.2.2.2.1, if_neg h.2.2.2.2]; rfl
  rw [e, Rn.encs_app, encs_one]
end Tx
end Go.Proofs.YteimbdklakemaaaGreatDoor
