/-
  NUMBERS AS THE READER READS THEM: digits gone over, then package value's Parse of what stands there; that is what the document's number is.
-/
import Derived.Test.YteimbdklakemaaaGreatDoorTxgM
import Derived.Test.YteimbdklakemaaaGreatDoorTxbM
import Derived.Test.YteimbdklakemaaaGreatDoorValcM
import Derived.Laws.Cover4
namespace Go.Proofs.YteimbdklakemaaaGreatDoor
open Go.RowKit Go.Sort
set_option maxHeartbeats 800000

namespace Tx
/-- behind a step: nothing turns where an error was told; else it is what g tells -/
def Step {α : Type} (g : Got α) (i : Nat) (e : Int) (x : α) (i' : Nat) (e' : Int) : Prop := (e ≠ 0 → i' = i ∧ e' = e) ∧ (e = 0 → i' = g.i ∧ e' = g.e ∧ (e' = 0 → x = g.x))
def db (ds : List Int) : List UInt8 := ds.map fun c => UInt8.ofNat c.toNat
theorem encs_db : ∀ {ds : List Int}, ds.all isDig = true → Rn.encs ds = db ds ∧ (db ds).all Va.isD = true ∧ ds = (db ds).map (fun c => (c.toNat : Int))
  | [], _ => ⟨rfl, rfl, rfl⟩
  | c :: r, h => by
    rw [List.all_cons, Bool.and_eq_true] at h
    obtain ⟨h1, h2, h3⟩ := encs_db h.2
    have hc := h.1
    unfold isDig at hc
    simp at hc
    obtain ⟨n, rfl⟩ : ∃ n : Nat, c = n := ⟨c.toNat, by omega⟩
    have hn : n < 256 := by omega
    have hb : (UInt8.ofNat n).toNat = n := Rn.of_nat hn
    have e : db ((n : Int) :: r) = UInt8.ofNat n :: db r := rfl
    rw [e]
    refine ⟨?_, ?_, ?_⟩
    · show Rn.enc (n : Int) ++ Rn.encs r = _
      rw [Rn.enc_one (by omega), h1]; rfl
    · rw [List.all_cons, h2, Bool.and_true, Va.isD_iff, hb]; omega
    · rw [List.map_cons, hb, ← h3]
theorem db_num {ds : List Int} (h : ds.all isDig = true) : Va.num 0 (db ds) = val ds := by
  obtain ⟨_, h2, h3⟩ := encs_db h
  rw [← val_digits _ 0 h2, ← h3]
  rfl
theorem db_can {ds : List Int} (h : ds.all isDig = true) (hne : ds ≠ []) (h48 : ds.head? = some 48 → ds.length = 1) : Va.can (db ds) = true ∧ (db ds = [48] ↔ ds = [48]) := by
  obtain ⟨_, h2, h3⟩ := encs_db h
  have hone : db ds = [48] ↔ ds = [48] := by
    constructor
    · intro g; rw [h3, g]; rfl
    · intro g; rw [g]; rfl
  refine ⟨?_, hone⟩
  unfold Va.can
  rw [h2, Bool.true_and, Bool.or_eq_true]
  by_cases hh : ds.head? = some 48
  · refine .inl (decide_eq_true (hone.2 ?_))
    cases ds with
    | nil => exact absurd rfl hne
    | cons c r =>
      have := h48 hh
      simp at hh this
      rw [hh, this]
  · refine .inr ?_
    rw [Bool.and_eq_true]
    refine ⟨decide_eq_true (fun g => hne (by rw [h3, g]; rfl)), decide_eq_true fun g => hh ?_⟩
    rw [h3, List.head?_map, g]; rfl
theorem seg_run {l : List Int} {s : Nat} (hn : run l s ≠ 0) (h48 : ¬ (at_ l s = 48 ∧ 1 < run l s)) : ((l.drop s).take (run l s)).all isDig = true ∧ (l.drop s).take (run l s) ≠ [] ∧ (((l.drop s).take (run l s)).head? = some 48 → ((l.drop s).take (run l s)).length = 1) ∧ ((l.drop s).take (run l s) = [48] ↔ at_ l s = 48) := by
  obtain ⟨h1, h2⟩ := run_all l s
  have hh : ((l.drop s).take (run l s)).head? = (l.drop s).head? := by
    cases hd : l.drop s with
    | nil => simp
    | cons c r =>
      obtain ⟨k, hk⟩ : ∃ k, run l s = k + 1 := ⟨run l s - 1, by omega⟩
      rw [hk]; rfl
  have key : ((l.drop s).take (run l s)).head? = some 48 ↔ at_ l s = 48 := by
    rw [hh, at_head]
    cases hd : (l.drop s).head? with
    | none =>
      rw [hd] at hh
      have : (l.drop s).take (run l s) = [] := List.head?_eq_none_iff.1 hh
      rw [this] at h2
      exact absurd h2.symm hn
    | some c => simp
  refine ⟨h1, ?_, ?_, ?_⟩
  · intro g; rw [g] at h2; exact hn h2.symm
  · intro g
    rw [h2]
    have h3 := key.1 g
    have : ¬ 1 < run l s := fun h => h48 ⟨h3, h⟩
    omega
  · constructor
    · intro g; exact key.1 (by rw [g]; rfl)
    · intro g
      have h3 : ¬ 1 < run l s := fun h => h48 ⟨g, h⟩
      have h4 := key.2 g
      generalize (l.drop s).take (run l s) = ds at h2 h4
      cases ds with
      | nil => simp at h4
      | cons c r =>
        simp at h2 h4
        have : r = [] := List.eq_nil_of_length_eq_zero (by omega)
        rw [h4, this]
end Tx
theorem pair_eq {a c : Nat} {b d : Int} (h : (a, b) = (c, d)) : a = c ∧ b = d := by cases h; exact ⟨rfl, rfl⟩
/-- what below tells is the document's number -/
theorem below_math {l : List Int} {i j i' : Nat} {e ej e' n : Int} (hd : (j, ej) = digitsS l i e) (q : Va.PR) (hq : q = Va.par (Rn.encs ((l.drop i).take (j - i)))) (hS : (i', e') = if q.e ≠ 0 ∨ n ≤ q.v then failS j ej i 3 else (j, ej)) :
    Tx.Step (Tx.number l i false (n - 1)) i e q.v i' e' := by
  unfold digitsS at hd
  by_cases he : e = 0
  rotate_left
  · rw [if_pos he] at hd
    obtain ⟨rfl, rfl⟩ := pair_eq hd
    have : (i', e') = (j, ej) := by
      rw [hS]; split
      · rw [failS, if_neg he]
      · rfl
    obtain ⟨rfl, rfl⟩ := pair_eq this
    exact ⟨fun _ => ⟨rfl, rfl⟩, fun h => absurd h he⟩
  subst he
  refine ⟨fun h => absurd rfl h, fun _ => ?_⟩
  rw [if_neg (by simp)] at hd
  have dead : ej ≠ 0 → i' = j ∧ e' = ej := by
    intro hne
    have : (i', e') = (j, ej) := by
      rw [hS]; split
      · rw [failS, if_neg hne]
      · rfl
    exact pair_eq this
  unfold Tx.number
  simp only [Bool.false_and, Bool.false_eq_true, if_false, and_false]
  by_cases h0 : Tx.run l i = 0
  · rw [if_pos h0] at hd ⊢
    obtain ⟨rfl, rfl⟩ := pair_eq hd
    obtain ⟨rfl, rfl⟩ := dead (by decide)
    exact ⟨rfl, rfl, fun h => absurd h (by decide)⟩
  rw [if_neg h0] at hd ⊢
  by_cases h1 : Tx.at_ l i = 48 ∧ 1 < Tx.run l i
  · rw [if_pos h1] at hd ⊢
    obtain ⟨rfl, rfl⟩ := pair_eq hd
    obtain ⟨rfl, rfl⟩ := dead (by decide)
    exact ⟨rfl, rfl, fun h => absurd h (by decide)⟩
  rw [if_neg h1] at hd ⊢
  obtain ⟨rfl, rfl⟩ := pair_eq hd
  obtain ⟨s1, s2, s3, _⟩ := Tx.seg_run h0 h1
  rw [Nat.add_sub_cancel_left] at hq
  have hl := (Tx.run_all l i).2
  generalize (l.drop i).take (Tx.run l i) = ds at s1 s2 s3 hq hl ⊢
  rw [(Tx.encs_db s1).1, Va.par_plain (Tx.db_can s1 s2 s3).1, Tx.db_num s1] at hq
  by_cases hv : Tx.val ds < 9223372036854775808
  · rw [if_pos hv] at hq
    subst hq
    by_cases hm : n ≤ (Tx.val ds : Int)
    · rw [if_pos (.inr hm), failS, if_pos rfl] at hS
      obtain ⟨rfl, rfl⟩ := pair_eq hS
      rw [if_pos (by omega)]
      exact ⟨rfl, rfl, fun h => absurd h (by decide)⟩
    · rw [if_neg (fun g => g.elim (fun g => g rfl) hm)] at hS
      obtain ⟨rfl, rfl⟩ := pair_eq hS
      rw [if_neg (by omega)]
      exact ⟨rfl, rfl, fun _ => rfl⟩
  · rw [if_neg hv] at hq
    subst hq
    rw [if_pos (.inl (show (3 : Int) ≠ 0 by decide)), failS, if_pos rfl] at hS
    obtain ⟨rfl, rfl⟩ := pair_eq hS
    rw [if_pos (by omega)]
    exact ⟨rfl, rfl, fun h => absurd h (by decide)⟩
/-- what value tells, no error told before -/
def ValPost (l : List Int) (i : Nat) (z : Bool) (v : Int) (i' : Nat) (e' : Int) : Prop :=
  if Tx.at_ l i = 8709 then z = true ∧ v = 0 ∧ i' = i + 1 ∧ e' = 0 else i' = (Tx.number l i true 9223372036854775807).i ∧ e' = (Tx.number l i true 9223372036854775807).e ∧ (e' = 0 → z = false ∧ v = (Tx.number l i true 9223372036854775807).x)
theorem value_math {l : List Int} {i s j i' : Nat} {ej e' : Int} (hn : Tx.at_ l i ≠ 8709) (hs : s = if Tx.at_ l i = 45 then i + 1 else i) (hd : (j, ej) = digitsS l s 0) (q : Va.PR) (hq : q = Va.par (Rn.encs ((l.drop i).take (j - i)))) (hS : (i', e') = if q.e = 1 then failS j ej (j - 1) 1 else if q.e = 3 then failS j ej i 3 else (j, ej)) :
    ValPost l i q.z q.v i' e' := by
  unfold ValPost
  rw [if_neg hn]
  unfold digitsS at hd
  rw [if_neg (by simp)] at hd
  have dead : ej ≠ 0 → i' = j ∧ e' = ej := by
    intro hne
    have : (i', e') = (j, ej) := by
      rw [hS]; split
      · rw [failS, if_neg hne]
      split
      · rw [failS, if_neg hne]
      · rfl
    exact pair_eq this
  by_cases h45 : Tx.at_ l i = 45
  · rw [if_pos h45] at hs
    subst hs
    have hneg : (true && Tx.at_ l i == 45) = true := by simp [h45]
    have hdrop := Tx.at_cons h45 (by decide)
    unfold Tx.number
    simp only [hneg, if_true, and_true]
    by_cases h0 : Tx.run l (i + 1) = 0
    · rw [if_pos h0] at hd ⊢
      obtain ⟨rfl, rfl⟩ := pair_eq hd
      obtain ⟨rfl, rfl⟩ := dead (by decide)
      exact ⟨rfl, rfl, fun h => absurd h (by decide)⟩
    rw [if_neg h0] at hd ⊢
    by_cases h1 : Tx.at_ l (i + 1) = 48 ∧ 1 < Tx.run l (i + 1)
    · rw [if_pos h1] at hd ⊢
      obtain ⟨rfl, rfl⟩ := pair_eq hd
      obtain ⟨rfl, rfl⟩ := dead (by decide)
      exact ⟨rfl, rfl, fun h => absurd h (by decide)⟩
    rw [if_neg h1] at hd ⊢
    obtain ⟨rfl, rfl⟩ := pair_eq hd
    obtain ⟨s1, s2, s3, s4⟩ := Tx.seg_run h0 h1
    have e1 : i + 1 + Tx.run l (i + 1) - i = Tx.run l (i + 1) + 1 := by omega
    have hl := (Tx.run_all l (i + 1)).2
    have e2 : (l.drop i).take (Tx.run l (i + 1) + 1) = 45 :: (l.drop (i + 1)).take (Tx.run l (i + 1)) := by rw [hdrop, List.take_succ_cons]
    rw [e1, e2] at hq
    generalize (l.drop (i + 1)).take (Tx.run l (i + 1)) = ds at s1 s2 s3 s4 hq hl ⊢
    have e3 : Rn.encs (45 :: ds) = 45 :: Tx.db ds := by
      show Rn.enc ((45 : Nat) : Int) ++ Rn.encs ds = _
      rw [Rn.enc_one (by decide), (Tx.encs_db s1).1]; rfl
    rw [e3] at hq
    obtain ⟨c1, c2⟩ := Tx.db_can s1 s2 s3
    by_cases h48 : Tx.at_ l (i + 1) = 48
    · rw [if_pos h48]
      have hds := s4.2 h48
      have hdb := c2.2 hds
      rw [hdb] at hq
      have hp : Va.par [45, 48] = ⟨false, 0, 1⟩ := by decide +kernel
      rw [hp] at hq
      subst hq
      rw [if_pos rfl, failS, if_pos rfl] at hS
      obtain ⟨rfl, rfl⟩ := pair_eq hS
      rw [hds] at hl
      simp at hl
      exact ⟨by show i + 1 + Tx.run l (i + 1) - 1 = i + 1; omega, rfl, fun h => absurd h (by decide)⟩
    · rw [if_neg h48]
      rw [Va.par_minus c1 (fun g => h48 (s4.1 (c2.1 g))), Tx.db_num s1] at hq
      by_cases hv : Tx.val ds ≤ 9223372036854775808
      · rw [if_pos hv] at hq
        subst hq
        rw [if_neg (show ¬ (0 : Int) = 1 by decide), if_neg (show ¬ (0 : Int) = 3 by decide)] at hS
        obtain ⟨rfl, rfl⟩ := pair_eq hS
        rw [if_neg (by omega)]
        exact ⟨rfl, rfl, fun _ => ⟨rfl, rfl⟩⟩
      · rw [if_neg hv] at hq
        subst hq
        rw [if_neg (show ¬ (3 : Int) = 1 by decide), if_pos rfl, failS, if_pos rfl] at hS
        obtain ⟨rfl, rfl⟩ := pair_eq hS
        rw [if_pos (by omega)]
        exact ⟨rfl, rfl, fun h => absurd h (by decide)⟩
  · rw [if_neg h45] at hs
    subst hs
    have hneg : (true && Tx.at_ l s == 45) = false := by simp [h45]
    unfold Tx.number
    simp only [hneg, Bool.false_eq_true, if_false, and_false]
    by_cases h0 : Tx.run l s = 0
    · rw [if_pos h0] at hd ⊢
      obtain ⟨rfl, rfl⟩ := pair_eq hd
      obtain ⟨rfl, rfl⟩ := dead (by decide)
      exact ⟨rfl, rfl, fun h => absurd h (by decide)⟩
    rw [if_neg h0] at hd ⊢
    by_cases h1 : Tx.at_ l s = 48 ∧ 1 < Tx.run l s
    · rw [if_pos h1] at hd ⊢
      obtain ⟨rfl, rfl⟩ := pair_eq hd
      obtain ⟨rfl, rfl⟩ := dead (by decide)
      exact ⟨rfl, rfl, fun h => absurd h (by decide)⟩
    rw [if_neg h1] at hd ⊢
    obtain ⟨rfl, rfl⟩ := pair_eq hd
    obtain ⟨s1, s2, s3, _⟩ := Tx.seg_run h0 h1
    rw [Nat.add_sub_cancel_left] at hq
    generalize (l.drop s).take (Tx.run l s) = ds at s1 s2 s3 hq ⊢
    rw [(Tx.encs_db s1).1, Va.par_plain (Tx.db_can s1 s2 s3).1, Tx.db_num s1] at hq
    by_cases hv : Tx.val ds < 9223372036854775808
    · rw [if_pos hv] at hq
      subst hq
      rw [if_neg (show ¬ (0 : Int) = 1 by decide), if_neg (show ¬ (0 : Int) = 3 by decide)] at hS
      obtain ⟨rfl, rfl⟩ := pair_eq hS
      rw [if_neg (by omega)]
      exact ⟨rfl, rfl, fun _ => ⟨rfl, rfl⟩⟩
    · rw [if_neg hv] at hq
      subst hq
      rw [if_neg (show ¬ (3 : Int) = 1 by decide), if_pos rfl, failS, if_pos rfl] at hS
      obtain ⟨rfl, rfl⟩ := pair_eq hS
      rw [if_pos (by omega)]
      exact ⟨rfl, rfl, fun h => absurd h (by decide)⟩
/-! ### A piece of the runes as a text -/
theorem runesBytes_on (ns : List Int) : ∀ s : List UInt8, ns.foldl (fun r n => r ++ Utf8.encode n) (⟨s.toArray⟩ : ByteArray) = ⟨(s ++ Rn.encs ns).toArray⟩ := by
  induction ns with
  | nil => intro s; rw [List.foldl_nil]; simp [Rn.encs]
  | cons n r ih =>
    intro s
    rw [List.foldl_cons, str_enc, app_l, ih, List.append_assoc]
    rfl
theorem runesBytes_eq (ns : List Int) : runesBytes ns = ⟨(Rn.encs ns).toArray⟩ := runesBytes_on ns []
theorem seg_text {w0 : World} {R b c : Nat} {l : List Int} (hs : Src w0 R b c l) {f t : Nat} (hft : f ≤ t) (ht : t ≤ l.length) :
    ∃ A : Addr, (∀ W, (Instr.slice 34 (.slice (some ⟨b, 0, none⟩) l.length c) (some (.int .i64 (f : Int))) (some (.int .i64 (t : Int))) none).run Tryz.prog W = .ok (.slice (some A) (t - f) (c - f)) W) ∧
      ∀ W, Below R w0 W → (convert 34 9 (.slice (some A) (t - f) (c - f))).run Tryz.prog W = .ok (.string ⟨(Rn.encs ((l.drop f).take (t - f))).toArray⟩) W := by
  have hc := hs.cap
  refine ⟨if c = f then ⟨b, 0, none⟩ else (⟨b, 0, none⟩ : Addr).add (f * 1), fun W => ?_, fun W hb => ?_⟩
  · have := run_slice_lh (P := Tryz.prog) (w := W) 34 (some ⟨b, 0, none⟩) l.length c (by kernel_rfl) .i64 .i64 (f : Int) (t : Int) (by omega) (by omega) (by omega)
    rw [this]
    have hsz : (sizeOf (Tryz.prog.elem 34)).run Tryz.prog W = .ok 1 W := by
      obtain ⟨i0, hi, _, hz1, _⟩ := info_parts Tryz.infoRune
      have he : Tryz.prog.elem 34 = 21 := by kernel_rfl
      rw [he]
      simp [sizeOf, typeInfo, hi, hz1]
    rw [hsz]
    simp only [Result.andThen, sliced, Int.toNat_natCast]
    split <;> rfl
  · have hlen : ((l.drop f).take (t - f)).length = t - f := by simp; omega
    have := run_convert_runes (P := Tryz.prog) W 34 9 21 (if c = f then ⟨b, 0, none⟩ else (⟨b, 0, none⟩ : Addr).add (f * 1)) (t - f) (c - f) ((l.drop f).take (t - f)) (by omega) Tryz.underlying34 Tryz.underlying21 Tryz.underlying9 (by
      intro j hj
      rw [hlen] at hj
      rw [if_neg (by omega), add_here, Nat.mul_one]
      have e : ((⟨b, f, none⟩ : Addr).add j) = ⟨b, f + j, none⟩ := by
        unfold Addr.add
        split
        · next h => subst h; rfl
        · rfl
      rw [e]
      have hlt : f + j < l.length := by omega
      refine (hb.cell (p := ⟨b, f + j, none⟩) (Nat.lt_of_lt_of_le hs.blk hs.lt)).trans (hs.cell (f + j) _ ?_)
      rw [List.getElem?_eq_getElem hlt, List.getD_eq_getElem?_getD, List.getElem?_take, if_pos hj, List.getElem?_drop, List.getElem?_eq_getElem hlt]
      rfl)
    rw [this, runesBytes_eq, List.take_of_length_le (by omega)]
end Go.Proofs.YteimbdklakemaaaGreatDoor
