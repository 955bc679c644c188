/-
  LAID TOGETHER, BY PROGRAM, of: Tre, Trs, Tra, Trb, Trf, Trg, Trh, Tri, Trj.
-/
import Derived.Test.YtpaaibghfhnicaaGreatDoorGPlain
import Derived.Test.YtpaaibghfhnicaaGreatDoorGPred
import Derived.Test.YtpaaibghfhnicaaGreatDoorGBase
/-
  TREES, and what the document says of them. Plain mathematics.
-/
namespace Go.Proofs.YtpaaibghfhnicaaGreatDoor

inductive Tr where
  | mk (k t : Int) (h : Bool) (cs : List Pd) (ks : List Tr) : Tr
namespace Tr
def k : Tr → Int | .mk k _ _ _ _ => k
def t : Tr → Int | .mk _ t _ _ _ => t
def h : Tr → Bool | .mk _ _ h _ _ => h
def cs : Tr → List Pd | .mk _ _ _ cs _ => cs
def ks : Tr → List Tr | .mk _ _ _ _ ks => ks
mutual
def all : Tr → List Tr
  | .mk k t h cs ks => alls ks ++ [.mk k t h cs ks]
def alls : List Tr → List Tr
  | [] => []
  | a :: r => all a ++ alls r
end
mutual
def size : Tr → Nat
  | .mk _ _ _ cs ks => 1 + Pr.sizes cs + sizes ks
def sizes : List Tr → Nat
  | [] => 0
  | a :: r => size a + sizes r
end
mutual
def same : Tr → Tr → Bool
  | .mk k t h cs ks, .mk k' t' h' cs' ks' => k == k' && t == t' && h == h' && Pr.sames cs cs' && sames ks ks'
def sames : List Tr → List Tr → Bool
  | [], [] => true
  | a :: r, b :: s => same a b && sames r s
  | _, _ => false
end
mutual
def seen : Tr → Nat
  | .mk k t _ _ ks => if k = 0 then St.ofN [t] else if k = 3 ∨ k = 4 then seen1 ks else seens ks
def seen1 : List Tr → Nat
  | [] => 0
  | a :: _ => seen a
def seens : List Tr → Nat
  | [] => 0
  | a :: r => seen a ||| seens r
end
def tables (a : Tr) : Nat := St.ofN (((all a).filter fun x => x.k == 0).map t)
theorem all_at (a : Tr) : all a = alls a.ks ++ [a] := by cases a; rw [all]; rfl
theorem size_at (a : Tr) : size a = 1 + Pr.sizes a.cs + sizes a.ks := by cases a; rw [size]; rfl
theorem seen_at (a : Tr) : seen a = if a.k = 0 then St.ofN [a.t] else if a.k = 3 ∨ a.k = 4 then seen1 a.ks else seens a.ks := by cases a; rw [seen]; rfl
theorem same_at (a b : Tr) : same a b = (a.k == b.k && a.t == b.t && a.h == b.h && Pr.sames a.cs b.cs && sames a.ks b.ks) := by cases a; cases b; rw [same]; rfl
theorem size_pos (a : Tr) : 1 ≤ size a := by rw [size_at]; omega
theorem sizes_snoc (l : List Tr) (a : Tr) : sizes (l ++ [a]) = sizes l + size a := by
  induction l with
  | nil => rw [List.nil_append, sizes, sizes, sizes]; omega
  | cons b r ih => rw [List.cons_append, sizes, sizes, ih]; omega
theorem alls_snoc (l : List Tr) (a : Tr) : alls (l ++ [a]) = alls l ++ all a := by
  induction l with
  | nil => rw [List.nil_append, alls, alls, alls, List.append_nil, List.nil_append]
  | cons b r ih => rw [List.cons_append, alls, alls, ih, List.append_assoc]
theorem seens_snoc (l : List Tr) (a : Tr) : seens (l ++ [a]) = seens l ||| seen a := by
  induction l with
  | nil => rw [List.nil_append, seens, seens, seens, Nat.or_zero, Nat.zero_or]
  | cons b r ih => rw [List.cons_append, seens, seens, ih, Nat.or_assoc]
theorem sizes_take (q : Nat) (l : List Tr) : sizes (l.take q) ≤ sizes l := by
  induction l generalizing q with
  | nil => simp
  | cons a r ih =>
    cases q with
    | zero => rw [List.take_zero, sizes]; omega
    | succ q => rw [List.take_succ_cons, sizes, sizes]; have := ih q; omega
theorem sizes_at {l : List Tr} {j : Nat} {a : Tr} (h : l[j]? = some a) : size a ≤ sizes l := by
  induction l generalizing j with
  | nil => simp at h
  | cons b r ih =>
    rw [sizes]
    cases j with
    | zero => simp at h; subst h; omega
    | succ j => have := ih (by simpa using h); omega
theorem sizes_length (l : List Tr) : l.length ≤ sizes l := by
  induction l with
  | nil => simp
  | cons a r ih => rw [sizes, List.length_cons]; have := size_pos a; omega
theorem sames_length {l m : List Tr} (h : l.length ≠ m.length) : sames l m = false := by
  induction l generalizing m with
  | nil => cases m with
    | nil => simp at h
    | cons b s => rw [sames]; all_goals simp
  | cons a r ih => cases m with
    | nil => rw [sames]; all_goals simp
    | cons b s => rw [sames, ih (by simpa using h), Bool.and_false]
theorem sames_iff {l m : List Tr} (h : l.length = m.length) : sames l m = true ↔ ∀ (j : Nat) (a b : Tr), l[j]? = some a → m[j]? = some b → same a b = true := by
  induction l generalizing m with
  | nil => cases m with
    | nil => simp [sames]
    | cons b s => simp at h
  | cons a r ih => cases m with
    | nil => simp at h
    | cons b s =>
      rw [sames, Bool.and_eq_true, ih (by simpa using h)]
      constructor
      · rintro ⟨h1, h2⟩ j x y hx hy
        cases j with
        | zero => simp at hx hy; subst hx; subst hy; exact h1
        | succ j => exact h2 j x y (by simpa using hx) (by simpa using hy)
      · intro g
        exact ⟨g 0 a b rfl rfl, fun j x y hx hy => g (j + 1) x y (by simpa using hx) (by simpa using hy)⟩
theorem ind {P : Tr → Prop} (h : ∀ a, (∀ b ∈ a.ks, P b) → P a) (a : Tr) : P a := by
  have key : ∀ n a, size a ≤ n → P a := by
    intro n
    induction n with
    | zero => intro a ha; have := size_pos a; omega
    | succ n ih =>
      intro a ha
      refine h a fun b hb => ih b ?_
      obtain ⟨j, hj, rfl⟩ := List.mem_iff_getElem.1 hb
      have h1 := sizes_at (List.getElem?_eq_getElem hj)
      rw [size_at] at ha
      omega
  exact key _ a (Nat.le_refl _)
theorem all_length_le (a : Tr) : (all a).length ≤ size a := by
  refine ind (P := fun a => (all a).length ≤ size a) (fun a ih => ?_) a
  rw [all_at, size_at, List.length_append, List.length_singleton]
  have key : ∀ l : List Tr, (∀ b ∈ l, (all b).length ≤ size b) → (alls l).length ≤ sizes l := by
    intro l
    induction l with
    | nil => intro _; rw [alls, sizes]; simp
    | cons b r ih2 =>
      intro hl
      rw [alls, sizes, List.length_append]
      have h1 := hl b List.mem_cons_self
      have h2 := ih2 fun c hc => hl c (List.mem_cons_of_mem _ hc)
      omega
  have := key a.ks ih
  omega
end Tr
end Go.Proofs.YtpaaibghfhnicaaGreatDoor

/-
  WORDS FOR TREES IN MEMORY: five cells each (kind, table, the slices of kids and of conjuncts, hash); a list of trees, as deep as it is.
-/
namespace Go.Proofs.YtpaaibghfhnicaaGreatDoor
open Go.RowKit

def Tr.cells (a : Tr) (u v : Value) : List Value := [.int .i64 a.k, .int .i64 a.t, u, v, .bool a.h]
structure TrCell (w : World) (X : Addr) (a : Tr) (u v : Value) : Prop where
  c0 : w.cell? X = some (.int .i64 a.k)
  c1 : w.cell? ⟨X.block, X.off + 1, none⟩ = some (.int .i64 a.t)
  c2 : w.cell? ⟨X.block, X.off + 2, none⟩ = some u
  c3 : w.cell? ⟨X.block, X.off + 3, none⟩ = some v
  c4 : w.cell? ⟨X.block, X.off + 4, none⟩ = some (.bool a.h)
theorem TrCell.below {w w' : World} {B : Nat} {X : Addr} {a : Tr} {u v : Value} (h : TrCell w X a u v) (hb : Below B w w') (hX : X.block < B) : TrCell w' X a u v :=
  have k : ∀ n, w'.cell? ⟨X.block, n, none⟩ = w.cell? ⟨X.block, n, none⟩ := fun n => hb.cell (p := ⟨X.block, n, none⟩) hX
  ⟨(hb.cell hX).trans h.c0, (k _).trans h.c1, (k _).trans h.c2, (k _).trans h.c3, (k _).trans h.c4⟩
theorem Lies.tr {w : World} {g : Nat} {T : TypeId} {a : Tr} {u v : Value} (h : Lies w g T (a.cells u v)) : TrCell w ⟨g, 0, none⟩ a u v :=
  ⟨h.cell (i := 0) rfl, h.cell (i := 1) rfl, h.cell (i := 2) rfl, h.cell (i := 3) rfl, h.cell (i := 4) rfl⟩
def PsSome (w : World) (v : Value) (l : List Pd) : Prop := ∃ d, PsAt d w v l
theorem PsSome.below {w w' : World} {B : Nat} {v : Value} {l : List Pd} (h : PsSome w v l) (hb : Below B w w') (hB : w.heap.size ≤ B) : PsSome w' v l := by
  obtain ⟨d, h⟩ := h
  exact ⟨d, h.below hb hB⟩
def TsAt : Nat → World → Value → List Tr → Prop
  | 0, _, v, l => l = [] ∧ ∃ A c, v = .slice A 0 c
  | d + 1, w, v, l => ∃ A c, v = .slice A l.length c ∧ (l.length ≤ 9223372036854775807 ∧ l.length ≤ c) ∧ ∀ (j : Nat) (a : Tr), l[j]? = some a → ∃ b o s x y, A = some ⟨b, o, s⟩ ∧ b < w.heap.size ∧ TrCell w ((⟨b, o, s⟩ : Addr).add (j * 5)) a x y ∧ PsSome w y a.cs ∧ TsAt d w x a.ks
theorem TsAt.form {d : Nat} {w : World} {v : Value} {l : List Tr} (h : TsAt d w v l) : ∃ A c, v = .slice A l.length c ∧ l.length ≤ 9223372036854775807 := by
  cases d with
  | zero => obtain ⟨rfl, A, c, rfl⟩ := h; exact ⟨A, c, rfl, by simp⟩
  | succ d => obtain ⟨A, c, rfl, hl, _⟩ := h; exact ⟨A, c, rfl, hl.1⟩
theorem TsAt.cap {d : Nat} {w : World} {A : Option Addr} {n c : Nat} {l : List Tr} (h : TsAt d w (.slice A n c) l) : l.length ≤ c := by
  cases d with
  | zero => obtain ⟨rfl, _⟩ := h; simp
  | succ d => obtain ⟨A', c', hv, hl, _⟩ := h; cases hv; exact hl.2
theorem TsAt.below {d : Nat} : ∀ {w w' : World} {B : Nat} {v : Value} {l : List Tr}, TsAt d w v l → Below B w w' → w.heap.size ≤ B → TsAt d w' v l := by
  induction d with
  | zero => intro w w' B v l h _ _; exact h
  | succ d ih =>
    intro w w' B v l h hb hB
    obtain ⟨A, c, hv, hc, hx⟩ := h
    refine ⟨A, c, hv, hc, fun j a hj => ?_⟩
    obtain ⟨b, o, s, x, y, hA, hlt, hcell, hp, hk⟩ := hx j a hj
    exact ⟨b, o, s, x, y, hA, Nat.lt_of_lt_of_le hlt hb.size, hcell.below hb (by rw [add_block]; show b < B; omega), hp.below hb hB, ih hk hb hB⟩
theorem TsAt.more {d : Nat} : ∀ {w : World} {v : Value} {l : List Tr}, TsAt d w v l → TsAt (d + 1) w v l := by
  induction d with
  | zero =>
    intro w v l h
    obtain ⟨rfl, A, c, rfl⟩ := h
    exact ⟨A, c, rfl, by simp, fun j a hj => by simp at hj⟩
  | succ d ih =>
    intro w v l h
    obtain ⟨A, c, hv, hc, hx⟩ := h
    refine ⟨A, c, hv, hc, fun j a hj => ?_⟩
    obtain ⟨b, o, s, x, y, hA, hlt, hcell, hp, hk⟩ := hx j a hj
    exact ⟨b, o, s, x, y, hA, hlt, hcell, hp, ih hk⟩
theorem TsAt.mono {d e : Nat} {w : World} {v : Value} {l : List Tr} (h : TsAt d w v l) (hd : d ≤ e) : TsAt e w v l := by
  induction hd with
  | refl => exact h
  | step _ ih => exact ih.more
theorem TsAt.at_ {d : Nat} {w : World} {A : Option Addr} {c : Nat} {l : List Tr} {j : Nat} {a : Tr} (h : TsAt d w (.slice A l.length c) l) (hj : l[j]? = some a) :
    ∃ e b o s x y, e < d ∧ A = some ⟨b, o, s⟩ ∧ b < w.heap.size ∧ ∀ W, Below w.heap.size w W → TrCell W ((⟨b, o, s⟩ : Addr).add (j * 5)) a x y ∧ PsSome W y a.cs ∧ TsAt e W x a.ks := by
  cases d with
  | zero => obtain ⟨rfl, _⟩ := h; simp at hj
  | succ d =>
    obtain ⟨A', c', hv, _, hx⟩ := h
    cases hv
    obtain ⟨b, o, s, x, y, hA, hlt, hcell, hp, hk⟩ := hx j a hj
    exact ⟨d, b, o, s, x, y, Nat.lt_succ_self d, hA, hlt, fun W hb => ⟨hcell.below hb (by rw [add_block]; exact hlt), hp.below hb (Nat.le_refl _), hk.below hb (Nat.le_refl _)⟩⟩
theorem tr_box {w W0 : World} {T : TypeId} {a : Tr} {u v : Value} (h : W0 = w.alloc (Obj.cells (a.cells u v).toArray T)) : Lies W0 w.heap.size T (a.cells u v) ∧ TrCell W0 ⟨w.heap.size, 0, none⟩ a u v ∧ Below w.heap.size w W0 := by
  have l : Lies W0 w.heap.size T (a.cells u v) := by rw [h]; exact Lies.new _ _ _
  exact ⟨l, l.tr, by rw [h]; exact (Below.refl _ _).alloc (Nat.le_refl _) _⟩
end Go.Proofs.YtpaaibghfhnicaaGreatDoor

/-
  THE DOCUMENT's ANSWERS OF LAYER 10: Size; LeafOf, On.
-/
namespace Go.Proofs.YtpaaibghfhnicaaGreatDoor
open Go.RowKit Go.Sort
set_option maxHeartbeats 1600000

set_option maxRecDepth 100000 in
theorem r10size_any (d : Nat) : ∀ (a : Tr) (u v : Value) (M : Int) (w : World), TsAt d w u a.ks → PsSome w v a.cs → 1 ≤ M → M ≤ 1000000 →
    Calls Tryz.prog 22 #[.agg #[.int .i64 a.k, .int .i64 a.t, u, v, .bool a.h], .int .i64 M] w
      fun e w' => e = .returned (.int .i64 (min (Tr.size a : Int) M)) ∧ Below w.heap.size w w' := by
  induction d using Nat.strongRecOn with
  | ind d ih =>
  intro a u v M w hu hv hM1 hM2
  obtain ⟨W0, hW0⟩ : ∃ W0, W0 = w.alloc (Obj.cells #[.int .i64 a.k, .int .i64 a.t, u, v, .bool a.h] 26) := ⟨_, rfl⟩
  obtain ⟨l0, p0, hb0⟩ := tr_box (a := a) (u := u) (v := v) hW0
  have HU := Lib.hid (hu.below hb0 (Nat.le_refl _))
  obtain ⟨D, hps⟩ := hv.below hb0 (Nat.le_refl _)
  obtain ⟨A, c, rfl, hl⟩ := hu.form
  obtain ⟨A', c', rfl, hl'⟩ := hps.form
  have HW := Lib.hid hW0
  have IH := Lib.hid ih
  have HP := Lib.hid p0
  have HL := Lib.hid l0.lt
  have HPS := Lib.hid hps
  have hsz := Tr.size_at a
  obtain ⟨n, hn⟩ : ∃ n, n = a.ks.length := ⟨_, rfl⟩
  obtain ⟨m, hm⟩ : ∃ m, m = a.cs.length := ⟨_, rfl⟩
  rw [← hn] at hl HU HP HW ⊢
  rw [← hm] at hl' HPS HP HW ⊢
  have HN := Lib.hid (And.intro hn hm)
  have HSZ := Lib.hid hsz
  clear hW0 ih hu hv hps l0 p0 hn hm hsz
  go_enter Tryz.func22, Tryz.ntmps22
  go_wp2_with fail
  rw [← HW.out]
  go_loopw [5, 6] (fun s i wr => ∃ (q : Nat) (sv : Int), q ≤ m ∧ i = .int .i64 q ∧ s = .int .i64 sv ∧ 1 ≤ sv ∧ sv ≤ M ∧ Hid (sv = min (1 + (Pr.sizes (a.cs.take q) : Int)) M) ∧ Below W0.heap.size W0 wr) (fun _ i _ => m - (intOf i).toNat)
  case atStart => exact ⟨0, 1, Nat.zero_le _, rfl, rfl, by omega, by omega, Lib.hid (by rw [List.take_zero, Pr.sizes]; omega), Below.refl _ _⟩
  case round =>
    obtain ⟨q, sv, hq, rfl, rfl, hs1, hs2, hsv, hb⟩ := hrel
    have k3 := (HP.out.below hb (show w.heap.size < W0.heap.size from HL.out)).c3
    have k2 := (HP.out.below hb (show w.heap.size < W0.heap.size from HL.out)).c2
    have done : ¬ (q < m ∧ sv < M) → Hid (sv = min (1 + (Pr.sizes a.cs : Int)) M) := fun hnot => Lib.hid (by
      have h := hsv.out
      have hm := HN.out.2
      by_cases hlt : q < m
      · have hle : Pr.sizes (a.cs.take q) ≤ Pr.sizes a.cs := Pr.sizes_take q a.cs
        omega
      · rw [List.take_of_length_le (by omega)] at h
        exact h)
    have DONE := Lib.hid done
    clear done
    by_cases hin : q < m ∧ sv < M
    · as_aux_lemma =>
      obtain ⟨hlt, hsm⟩ := hin
      obtain ⟨p, gp⟩ : ∃ p, a.cs[q]? = some p := ⟨a.cs[q]'(by have := HN.out; omega), List.getElem?_eq_getElem _⟩
      have hu := HPS.out
      rw [HN.out.2] at hu
      obtain ⟨e, b, o, s, v, he, rfl, _, hx⟩ := hu.at_ gp
      obtain ⟨hcell, hps⟩ := hx wr hb
      have cs := r6size_any e p.f v p.ps (M - sv) wr hps (by omega) (by omega)
      have ht : a.cs.take (q + 1) = a.cs.take q ++ [p] := by rw [List.take_add_one, gp]; rfl
      have hpe : Pd.mk p.f p.ps = p := by cases p; rfl
      rw [hpe] at cs
      have hp1 := Pr.size_pos p
      have hS : Pr.sizes (a.cs.take (q + 1)) = Pr.sizes (a.cs.take q) + Pr.size p := by rw [ht, Pr.sizes_snoc]
      obtain ⟨x, hx1⟩ : ∃ x, x = min (Pr.size p : Int) (M - sv) := ⟨_, rfl⟩
      have hx2 : 1 ≤ x := by omega
      have hx3 : x ≤ M - sv := by omega
      have H3 : Hid (sv + x = min (1 + (Pr.sizes (a.cs.take (q + 1)) : Int)) M) := Lib.hid (by have := hsv.out; omega)
      rw [← hx1] at cs
      obtain ⟨q0, q1, q2, q3, q4, q5, q6, q7, q8, q9, q10, q11, q12, q13⟩ := hcell
      clear gp hx hps ht hpe hu hp1 hS hx1
      go_wp2_with fail
      refine cs.mono ?_
      rintro e w2 ⟨rfl, hb2⟩
      have hb' := below_join hb hb2
      clear cs q0 q1 q2 q3 q4 q5 q6 q7 q8 q9 q10 q11 q12 q13 k3 k2
      go_wp2_with fail
      go_roundw
      case rel => exact ⟨q + 1, sv + x, by omega, by go_num, rfl, by omega, by omega, H3, hb'⟩
      case measure => simp [intOf]; omega
    · as_aux_lemma =>
      have hsv2 := DONE.out hin
      have hguard : ¬ ((q : Int) < (m : Int)) ∨ ((q : Int) < (m : Int) ∧ ¬ (sv < M)) := by omega
      have hb1 := hb
      have H0 : Hid (∃ (q : Nat) (s2 : Int), q = 0 ∧ s2 = sv ∧ s2 = min (1 + (Pr.sizes a.cs : Int) + (Tr.sizes (a.ks.take q) : Int)) M) := Lib.hid ⟨0, sv, rfl, rfl, by rw [List.take_zero, Tr.sizes]; have := hsv2.out; omega⟩
      clear hin hsv DONE
      rcases hguard with g1 | ⟨g1, g2⟩
      all_goals
        go_wp2_with fail
        go_loopw [5, 7] (fun s i wr => ∃ (q : Nat) (sv : Int), q ≤ n ∧ i = .int .i64 q ∧ s = .int .i64 sv ∧ 1 ≤ sv ∧ sv ≤ M ∧ Hid (sv = min (1 + (Pr.sizes a.cs : Int) + (Tr.sizes (a.ks.take q) : Int)) M) ∧ Below W0.heap.size W0 wr) (fun _ i _ => n - (intOf i).toNat)
        case atStart => exact ⟨0, sv, Nat.zero_le _, rfl, rfl, hs1, hs2, Lib.hid (by obtain ⟨_, _, rfl, rfl, h⟩ := H0.out; exact h), hb1⟩
        case round =>
          obtain ⟨r, tv, hr, rfl, rfl, ht1, ht2, htv, hbr⟩ := hrel
          have k2 := (HP.out.below hbr (show w.heap.size < W0.heap.size from HL.out)).c2
          have done : ¬ (r < n ∧ tv < M) → Hid (tv = min (Tr.size a : Int) M) := fun hnot => Lib.hid (by
            have h := htv.out
            have hn := HN.out.1
            have hz := HSZ.out
            by_cases hlt : r < n
            · have hle : Tr.sizes (a.ks.take r) ≤ Tr.sizes a.ks := Tr.sizes_take r a.ks
              omega
            · rw [List.take_of_length_le (by omega)] at h
              omega)
          have DONE := Lib.hid done
          clear done
          by_cases hin : r < n ∧ tv < M
          · obtain ⟨hlt, hsm⟩ := hin
            obtain ⟨b, gb⟩ : ∃ b, a.ks[r]? = some b := ⟨a.ks[r]'(by have := HN.out; omega), List.getElem?_eq_getElem _⟩
            have hu := HU.out
            rw [HN.out.1] at hu
            obtain ⟨e, bb, oo, ss, xx, yy, he, rfl, _, hx⟩ := hu.at_ gb
            obtain ⟨hcell, hps, hks⟩ := hx wr hbr
            have cs := IH.out e he b xx yy (M - tv) wr hks hps (by omega) (by omega)
            have ht : a.ks.take (r + 1) = a.ks.take r ++ [b] := by rw [List.take_add_one, gb]; rfl
            have hp1 := Tr.size_pos b
            have hS : Tr.sizes (a.ks.take (r + 1)) = Tr.sizes (a.ks.take r) + Tr.size b := by rw [ht, Tr.sizes_snoc]
            obtain ⟨z, hz1⟩ : ∃ z, z = min (Tr.size b : Int) (M - tv) := ⟨_, rfl⟩
            have hz2 : 1 ≤ z := by omega
            have hz3 : z ≤ M - tv := by omega
            have H3 : Hid (tv + z = min (1 + (Pr.sizes a.cs : Int) + (Tr.sizes (a.ks.take (r + 1)) : Int)) M) := Lib.hid (by have := htv.out; omega)
            rw [← hz1] at cs
            obtain ⟨A2, c2, rfl, _⟩ := hks.form
            obtain ⟨D2, hps2⟩ := hps
            obtain ⟨A3, c3, rfl, _⟩ := hps2.form
            obtain ⟨q0, q1, q2, q3, q4⟩ := hcell
            clear gb hx hps2 hks ht hu hp1 hS hz1
            go_wp2_with fail
            refine cs.mono ?_
            rintro e w2 ⟨rfl, hb2⟩
            have hb' := below_join hbr hb2
            clear cs q0 q1 q2 q3 q4 k2
            go_wp2_with fail
            go_roundw
            case rel => exact ⟨r + 1, tv + z, by omega, by go_num, rfl, by omega, by omega, H3, hb'⟩
            case measure => simp [intOf]; omega
          · have he := DONE.out hin
            have hguard : ¬ ((r : Int) < (n : Int)) ∨ ((r : Int) < (n : Int) ∧ ¬ (tv < M)) := by omega
            clear hin DONE htv
            rcases hguard with g3 | ⟨g3, g4⟩
            all_goals
              go_wp2_with fail
              go_ret
              exact ⟨ret_int he.out, below_join hb0 hbr⟩
end Go.Proofs.YtpaaibghfhnicaaGreatDoor

/-
  THE DOCUMENT's ANSWERS OF LAYER 10: Seen.
-/
namespace Go.Proofs.YtpaaibghfhnicaaGreatDoor
open Go.RowKit Go.Sort
set_option maxHeartbeats 1600000

theorem add_zero9 (a : Addr) : a.add 0 = a := by unfold Addr.add; simp
theorem or_lt9 {x y : Nat} (hx : x < 18446744073709551616) (hy : y < 18446744073709551616) : x ||| y < 18446744073709551616 := Nat.or_lt_two_pow (n := 64) hx hy
namespace Tr
mutual
theorem seen_lt : ∀ a : Tr, seen a < 18446744073709551616
  | .mk k t h cs ks => by
    rw [seen]
    split
    · exact St.ofN_lt _
    · split
      · exact seen1_lt ks
      · exact seens_lt ks
theorem seen1_lt : ∀ l : List Tr, seen1 l < 18446744073709551616
  | [] => by rw [seen1]; decide
  | a :: _ => by rw [seen1]; exact seen_lt a
theorem seens_lt : ∀ l : List Tr, seens l < 18446744073709551616
  | [] => by rw [seens]; decide
  | a :: r => by rw [seens]; exact or_lt9 (seen_lt a) (seens_lt r)
end
theorem seens_one (l : List Tr) : seens (l.take 1) = seen1 l := by
  cases l with
  | nil => rfl
  | cons a r => rw [List.take_succ_cons, List.take_zero, seens, seens, seen1, Nat.or_zero]
end Tr
set_option maxRecDepth 100000 in
theorem r10seen_any (d : Nat) : ∀ (a : Tr) (u v : Value) (w : World), TsAt d w u a.ks →
    Calls Tryz.prog 20 #[.agg #[.int .i64 a.k, .int .i64 a.t, u, v, .bool a.h]] w
      fun e w' => e = .returned (.int .u64 (Tr.seen a : Nat)) ∧ Below w.heap.size w w' := by
  induction d using Nat.strongRecOn with
  | ind d ih =>
  intro a u v w hu
  obtain ⟨W0, hW0⟩ : ∃ W0, W0 = w.alloc (Obj.cells #[.int .i64 a.k, .int .i64 a.t, u, v, .bool a.h] 26) := ⟨_, rfl⟩
  obtain ⟨l0, p0, hb0⟩ := tr_box (a := a) (u := u) (v := v) hW0
  have HU := Lib.hid (hu.below hb0 (Nat.le_refl _))
  obtain ⟨A, c, rfl, hl⟩ := hu.form
  have HW := Lib.hid hW0
  have IH := Lib.hid ih
  have HP := Lib.hid p0
  have HL := Lib.hid l0.lt
  have hse := Tr.seen_at a
  obtain ⟨n, hn⟩ : ∃ n, n = a.ks.length := ⟨_, rfl⟩
  rw [← hn] at hl HU HP HW ⊢
  have HN := Lib.hid hn
  have HSE := Lib.hid hse
  obtain ⟨q0, q1, q2, q3, q4⟩ := p0
  rw [← hn] at q2
  obtain ⟨kd, hkd⟩ : ∃ kd, kd = a.k := ⟨_, rfl⟩
  obtain ⟨tb, htb⟩ : ∃ tb, tb = a.t := ⟨_, rfl⟩
  rw [← hkd] at q0 HW ⊢
  rw [← htb] at q1 HW ⊢
  have HK := Lib.hid (And.intro hkd htb)
  clear hW0 ih hu l0 hn hse hkd htb
  by_cases hk : kd = 0
  · subst hk
    have hres := Lib.hid (show St.ofN [tb] = Tr.seen a by rw [HSE.out, if_pos HK.out.1.symm, HK.out.2])
    have cs := rof_any _ [tb] _ (Sl.new W0 3 [.int .i64 tb]) (by simp)
    rw [hres.out] at cs
    have hb1 := below_join hb0 (below_new W0 (Obj.cells #[.int .i64 tb] 3))
    clear q2 q3 q4
    go_enter Tryz.func20, Tryz.ntmps20
    go_upto_region 1 with (fail)
    rw [← HW.out]
    go_wp2_with fail
    refine cs.mono ?_
    rintro e w1 ⟨rfl, rfl⟩
    clear cs
    go_wp2_with fail
    go_ret
    exact ⟨rfl, hb1⟩
  · have hk2 : (kd == 0) = false := by simpa using hk
    obtain ⟨L, hL⟩ : ∃ L : List Tr, L = if kd = 3 ∨ kd = 4 then a.ks.take 1 else a.ks := ⟨_, rfl⟩
    have HLL := Lib.hid hL
    clear hL
    go_enter Tryz.func20, Tryz.ntmps20
    go_upto_region 1 with (fail)
    rw [← HW.out]
    go_wp2_with fail
    clear q0 q1 q2 q3 q4
    go_loopw [3, 4] (fun s i wr => ∃ (q sv : Nat), q ≤ n ∧ i = .int .i64 q ∧ s = .int .u64 sv ∧ Hid (sv = Tr.seens (L.take q)) ∧ Below W0.heap.size W0 wr) (fun _ i _ => n - (intOf i).toNat)
    case atStart => exact ⟨0, 0, Nat.zero_le _, rfl, rfl, Lib.hid (by rw [List.take_zero, Tr.seens]), Below.refl _ _⟩
    case round =>
      obtain ⟨q, sv, hq, rfl, rfl, hsv, hb⟩ := hrel
      have pr := HP.out.below hb (show w.heap.size < W0.heap.size from HL.out)
      have k2 := pr.c2
      have k0 := pr.c0
      rw [← HK.out.1] at k0
      clear pr
      by_cases hlt : q < n
      · obtain ⟨b, gb⟩ : ∃ b, a.ks[q]? = some b := ⟨a.ks[q]'(by have := HN.out; omega), List.getElem?_eq_getElem _⟩
        by_cases hinc : q = 0 ∨ (kd ≠ 3 ∧ kd ≠ 4)
        · have hu := HU.out
          rw [HN.out] at hu
          obtain ⟨e, bb, oo, ss, xx, yy, he, rfl, _, hx⟩ := hu.at_ gb
          obtain ⟨hcell, hps, hks⟩ := hx wr hb
          have cs := IH.out e he b xx yy wr hks
          have ht : L.take (q + 1) = L.take q ++ [b] := by
            rw [HLL.out]
            split
            · next h34 =>
              obtain rfl : q = 0 := hinc.resolve_right fun h => by rcases h34 with h | h <;> omega
              rw [List.take_take]
              cases hks' : a.ks with
              | nil => rw [hks'] at gb; simp at gb
              | cons z r => rw [hks'] at gb; simp at gb; subst gb; rfl
            · rw [List.take_add_one, gb]; rfl
          have hsl : sv < 18446744073709551616 := by rw [hsv.out]; exact Tr.seens_lt _
          have H2 := Lib.hid (u64_or_nat sv (Tr.seen b) hsl (Tr.seen_lt b))
          have H3 := Lib.hid (show sv ||| Tr.seen b = Tr.seens (L.take (q + 1)) by rw [ht, Tr.seens_snoc, hsv.out])
          obtain ⟨A2, c2, rfl, _⟩ := hks.form
          obtain ⟨D2, hps2⟩ := hps
          obtain ⟨A3, c3, rfl, _⟩ := hps2.form
          obtain ⟨q0, q1, q2, q3, q4⟩ := hcell
          clear gb hx hps2 hks ht hsl hu
          rcases Nat.eq_zero_or_pos q with h0 | h0
          · subst h0
            simp only [Nat.zero_mul, add_zero9] at q0 q1 q2 q3 q4
            clear hinc
            go_wp2_with fail
            refine cs.mono ?_
            rintro e w2 ⟨rfl, hb2⟩
            have hb' := below_join hb hb2
            clear cs q0 q1 q2 q3 q4 k2 k0
            go_wp2_with fail
            go_roundw
            case rel => exact ⟨0 + 1, _, by omega, by go_num, by rw [H2.out], H3, hb'⟩
            case measure => simp [intOf]; omega
          · have h1 : ¬ ((q : Int) = 0) := by omega
            have h3 : kd ≠ 3 := (hinc.resolve_left (by omega)).1
            have h4 : kd ≠ 4 := (hinc.resolve_left (by omega)).2
            have h1' : ((q : Int) == 0) = false := by simpa using h1
            have h3' : (kd != 3) = true := by simpa using h3
            have h4' : (kd != 4) = true := by simpa using h4
            clear h1 h3 h4
            clear hinc
            go_wp2_with fail
            refine cs.mono ?_
            rintro e w2 ⟨rfl, hb2⟩
            have hb' := below_join hb hb2
            clear cs q0 q1 q2 q3 q4 k2 k0
            go_wp2_with fail
            go_roundw
            case rel => exact ⟨q + 1, _, by omega, by go_num, by rw [H2.out], H3, hb'⟩
            case measure => simp [intOf]; omega
        · have h1 : ¬ ((q : Int) = 0) := by omega
          have h34 : kd = 3 ∨ kd = 4 := by omega
          have H3 := Lib.hid (show sv = Tr.seens (L.take (q + 1)) by
            rw [hsv.out, HLL.out, if_pos h34, List.take_take, List.take_take, show min q 1 = 1 by omega, show min (q + 1) 1 = 1 by omega])
          clear gb hinc
          rcases h34 with h3 | h3
          all_goals
            have HK3 := Lib.hid h3
            rw [h3] at k0
            clear h3
            go_wp2_with fail
            go_roundw
            case rel => exact ⟨q + 1, sv, by omega, by go_num, rfl, H3, hb⟩
            case measure => simp [intOf]; omega
      · have he : Hid (sv = Tr.seen a) := Lib.hid (by
          rw [hsv.out, HSE.out, if_neg (by rw [← HK.out.1]; exact hk), HLL.out, ← HK.out.1]
          have hn := HN.out
          by_cases h34 : kd = 3 ∨ kd = 4
          · rw [if_pos h34, if_pos h34, List.take_of_length_le (by rw [List.length_take]; omega), Tr.seens_one]
          · rw [if_neg h34, if_neg h34, List.take_of_length_le (by omega)])
        go_wp2_with fail
        go_ret
        exact ⟨by rw [he.out]; rfl, below_join hb0 hb⟩
end Go.Proofs.YtpaaibghfhnicaaGreatDoor

/-
  THE DOCUMENT's ANSWERS OF LAYER 10: All, a row of trees of one's own; what hangs from the trees lies where it lay.
-/
namespace Go.Proofs.YtpaaibghfhnicaaGreatDoor
open Go.RowKit Go.Sort
set_option maxHeartbeats 1600000

abbrev TrV := Tr × Value × Value
def trCells (l : List TrV) : List Value := l.flatMap fun x => x.1.cells x.2.1 x.2.2
theorem trCells_app (l m : List TrV) : trCells (l ++ m) = trCells l ++ trCells m := by simp [trCells]
def TrHang (w : World) (x : TrV) : Prop := (∃ d, TsAt d w x.2.1 x.1.ks) ∧ PsSome w x.2.2 x.1.cs
theorem trCells_one {w : World} {l : List TrV} (h : ∀ x ∈ l, TrHang w x) : ∀ u ∈ trCells l, u.oneCell' = true := by
  intro u hu
  simp only [trCells, List.mem_flatMap] at hu
  obtain ⟨x, hx, hu⟩ := hu
  obtain ⟨⟨d, h1⟩, D, h2⟩ := h x hx
  obtain ⟨A, c, h1, _⟩ := h1.form
  obtain ⟨B, c', h2, _⟩ := h2.form
  rw [h1, h2] at hu
  simp [Tr.cells] at hu
  rcases hu with rfl | rfl | rfl | rfl | rfl <;> rfl
theorem Tr.alls_take {l : List Tr} {q : Nat} {b : Tr} (h : l[q]? = some b) : Tr.alls (l.take (q + 1)) = Tr.alls (l.take q) ++ Tr.all b := by
  rw [List.take_add_one, h]; exact Tr.alls_snoc _ _
theorem Tr.alls_len (l : List Tr) : (Tr.alls l).length ≤ Tr.sizes l := by
  induction l with
  | nil => rw [Tr.alls, Tr.sizes]; simp
  | cons b r ih => rw [Tr.alls, Tr.sizes, List.length_append]; have := Tr.all_length_le b; omega
def OwnTrs (w0 w : World) (l : List Tr) (e : Ending) (w' : World) : Prop :=
  ∃ v L, e = .returned v ∧ L.map (·.1) = l ∧ (∀ x ∈ L, TrHang w0 x) ∧ w'.ownsRow w.heap.size 26 5 v L.length (trCells L) ∧ Below w.heap.size w w'
theorem Tryz.infoTree : (Tryz.prog.info? 26).map (fun i => (i.zero, i.size, i.bytes)) = some (some (.agg #[.int .i64 0, .int .i64 0, .slice none 0 0, .slice none 0 0, .bool false]), 5, 72) := by kernel_rfl
set_option maxRecDepth 100000 in
theorem r10all_any (w0 : World) (d : Nat) : ∀ (a : Tr) (u v : Value) (w : World), Below w0.heap.size w0 w → TsAt d w0 u a.ks → PsSome w0 v a.cs → Tr.size a ≤ 1000 →
    Calls Tryz.prog 27 #[.agg #[.int .i64 a.k, .int .i64 a.t, u, v, .bool a.h]] w (OwnTrs w0 w (Tr.all a)) := by
  induction d using Nat.strongRecOn with
  | ind d ih =>
  intro a u v w hw hu hv hsz
  obtain ⟨i0, hi, hz0, hz1, hz2⟩ := info_parts Tryz.infoTree
  obtain ⟨W0, hW0⟩ : ∃ W0, W0 = w.alloc (Obj.cells #[.int .i64 a.k, .int .i64 a.t, u, v, .bool a.h] 26) := ⟨_, rfl⟩
  obtain ⟨l0, p0, hb0⟩ := tr_box (a := a) (u := u) (v := v) hW0
  have HU := Lib.hid hu
  have HHG := Lib.hid (show TrHang w0 (a, u, v) from ⟨⟨d, hu⟩, hv⟩)
  obtain ⟨A, c, rfl, hl⟩ := hu.form
  obtain ⟨A', c', rfl, hl'⟩ := hv.elim fun D h => h.form
  have hn1 := Tr.sizes_length a.ks
  have hsa := Tr.size_at a
  have hn2 : a.ks.length ≤ 1000 := by omega
  have HS := Lib.hid (show Tr.sizes a.ks ≤ 999 by omega)
  have HW := Lib.hid hW0
  have IH := Lib.hid ih
  have HP := Lib.hid p0
  have HL := Lib.hid l0.lt
  have HWW := Lib.hid hw
  have HALL := Lib.hid (Tr.all_at a)
  obtain ⟨n, hn⟩ : ∃ n, n = a.ks.length := ⟨_, rfl⟩
  rw [← hn] at hl HU HHG HP HW hn2 ⊢
  have HN := Lib.hid hn
  have how := own_empty W0 26 5 W0.heap.size (Nat.le_refl _) W0.heap.size rfl
  have hb : Below W0.heap.size W0 (W0.alloc (Obj.cells #[] 26)) := below_new _ _
  have HB0 := Lib.hid hb0
  have HSZ := Lib.hid (show W0.heap.size = w.heap.size + 1 by rw [hW0, World.size_alloc])
  have HHO := Lib.hid (show (W0.alloc (Obj.cells #[] 26)).ownsRow W0.heap.size 26 5 (.slice (some ⟨W0.heap.size, 0, none⟩) 0 0) 0 (trCells []) from how)
  clear hW0 ih hu hv l0 p0 hn hsz hsa hn1 hb0 how hw hl'
  go_enter Tryz.func27, Tryz.ntmps27
  go_upto_region 1 with (fail)
  rw [← HW.out]
  go_wp2_with fail
  go_loopw [3, 4] (fun s i wr => ∃ (q : Nat) (L : List TrV), q ≤ n ∧ i = .int .i64 q ∧ L.map (·.1) = Tr.alls (a.ks.take q) ∧ Hid (∀ x ∈ L, TrHang w0 x) ∧ wr.ownsRow W0.heap.size 26 5 s L.length (trCells L) ∧ Below W0.heap.size W0 wr) (fun _ i _ => n - (intOf i).toNat)
  case atStart => exact ⟨0, [], Nat.zero_le _, rfl, by rw [List.take_zero, Tr.alls]; rfl, Lib.hid (fun x hx => by simp at hx), HHO.out, hb⟩
  case round =>
    obtain ⟨q, L, hq, rfl, hLm, hLh, hown, hb⟩ := hrel
    have hLl : L.length ≤ 999 := by
      have h1 := congrArg List.length hLm
      rw [List.length_map] at h1
      have h2 := Tr.alls_len (a.ks.take q)
      have h3 := Tr.sizes_take q a.ks
      have h4 := HS.out
      omega
    have pr := HP.out.below hb (show w.heap.size < W0.heap.size from HL.out)
    have hbw := Lib.hid (below_join HB0.out hb)
    by_cases hlt : q < n
    · obtain ⟨b, gb⟩ : ∃ b, a.ks[q]? = some b := ⟨a.ks[q]'(by have := HN.out; omega), List.getElem?_eq_getElem _⟩
      have hu := HU.out
      rw [HN.out] at hu
      obtain ⟨e, bb, oo, ss, xx, yy, he, rfl, _, hx⟩ := hu.at_ gb
      have hwr : Below w0.heap.size w0 wr := below_join HWW.out hbw.out
      obtain ⟨hcell, _, _⟩ := hx wr hwr
      obtain ⟨_, hps, hks⟩ := hx w0 (Below.refl _ _)
      have hbs := Tr.sizes_at gb
      have cs := IH.out e he b xx yy wr hwr hks hps (by have := HS.out; omega)
      have HT := Lib.hid (Tr.alls_take gb)
      have k2 := pr.c2
      obtain ⟨A2, c2, rfl, _⟩ := hks.form
      obtain ⟨D2, hps2⟩ := hps
      obtain ⟨A3, c3, rfl, _⟩ := hps2.form
      have hal := Tr.all_length_le b
      have hbs' : Tr.size b ≤ 999 := by have := HS.out; omega
      obtain ⟨q0, q1, q2, q3, q4⟩ := hcell
      clear gb hx hps2 hks hu hwr pr hbs
      go_wp2_with fail
      refine cs.mono ?_
      rintro e w2 ⟨v2, L2, rfl, hm2, hh2, hown2, hb2⟩
      have hL2 : L2.length ≤ 999 := by
        have h1 := congrArg List.length hm2
        rw [List.length_map] at h1
        omega
      have hb' := below_join hb hb2
      have hown3 := own_kept hown hb2
      have hcame := CameN.own hown2
      have HH2 := Lib.hid hh2
      have HM2 := Lib.hid hm2
      have HLM := Lib.hid hLm
      clear cs q0 q1 q2 q3 q4 k2 hb2 hb hown hown2 hh2 hm2 hLm hal
      go_wp2_with (first
        | (at_builtin; refine wpList_append_n _ rfl _ _ 23 rfl W0.heap.size 26 i0 _ 5 72 Tryz.underlying23 hi hz0 hz1 hz2 rfl (by decide) _ _ _ rfl hown3 _ _ _ rfl hcame (trCells_one HH2.out) ?l1 ?l2 ?l3 ?_))
      case l1 => unfold maxLen; omega
      case l2 => omega
      case l3 => exact hb'.size
      intro v1 w3 hown4 hgrow
      have hb3 : Below W0.heap.size W0 w3 := hb'.grown hgrow hb'.size (fun k hk => (hown3.lt k hk).1)
      have hown5 : w3.ownsRow W0.heap.size 26 5 v1 (L ++ L2).length (trCells (L ++ L2)) := by rw [List.length_append, trCells_app]; exact hown4
      clear hown4 hgrow hown3 hcame hb'
      go_wp2_with fail
      go_roundw
      case rel => exact ⟨q + 1, L ++ L2, by omega, by go_num, by rw [List.map_append, HLM.out, HM2.out, HT.out], Lib.hid (fun x hx => (List.mem_append.1 hx).elim (hLh.out x) (HH2.out x)), hown5, hb3⟩
      case measure => simp [intOf]; omega
    · have hm : (L ++ [((a, Value.slice A n c, Value.slice A' a.cs.length c') : TrV)]).map (·.1) = Tr.all a := by
        rw [List.map_append, hLm, List.take_of_length_le (by have := HN.out; omega), HALL.out]; rfl
      have HM := Lib.hid hm
      have hh : ∀ x ∈ L ++ [((a, Value.slice A n c, Value.slice A' a.cs.length c') : TrV)], TrHang w0 x := fun x hx => (List.mem_append.1 hx).elim (hLh.out x) fun h => by rw [List.mem_singleton.1 h]; exact HHG.out
      have HH := Lib.hid hh
      have hcm := Lib.hid (show CameN (wr.alloc (Obj.cells #[.int .i64 a.k, .int .i64 a.t, .slice A n c, .slice A' a.cs.length c', .bool a.h] 26)) 5 (.slice (some ⟨wr.heap.size, 0, none⟩) 1 1) 1 (trCells [((a, Value.slice A n c, Value.slice A' a.cs.length c') : TrV)]) from CameN.new wr 26 5 1 _ _ rfl rfl)
      have hone := Lib.hid (trCells_one (l := [((a, Value.slice A n c, Value.slice A' a.cs.length c') : TrV)]) (w := w0) fun x hx => by rw [List.mem_singleton.1 hx]; exact HHG.out)
      have h63 := Lib.hid (show L.length + 1 ≤ maxLen by unfold maxLen; omega)
      have hby := Lib.hid (show (L.length + 1) * 72 ≤ 140737488355328 by omega)
      have hbs := Lib.hid (show W0.heap.size ≤ (wr.alloc (Obj.cells #[.int .i64 a.k, .int .i64 a.t, .slice A n c, .slice A' a.cs.length c', .bool a.h] 26)).heap.size by have := hb.size; rw [World.size_alloc]; omega)
      have hoa := Lib.hid (hown.alloc (Obj.cells #[.int .i64 a.k, .int .i64 a.t, .slice A n c, .slice A' a.cs.length c', .bool a.h] 26))
      obtain ⟨q0, q1, q2, q3, q4⟩ := pr
      clear hm hh hLm
      go_wp2_with (first
        | (at_builtin; refine wpList_append_n _ rfl _ _ 23 rfl W0.heap.size 26 i0 _ 5 72 Tryz.underlying23 hi hz0 hz1 hz2 rfl (by decide) _ L.length _ rfl hoa.out _ 1 (trCells [((a, Value.slice A n c, Value.slice A' a.cs.length c') : TrV)]) rfl hcm.out hone.out h63.out hby.out hbs.out ?_))
      intro v1 w1 hown1 hgrow
      have hb1 : Below W0.heap.size W0 w1 := (hb.alloc hb.size _).grown hgrow hbs.out (fun k hk => (hown.lt k hk).1)
      have HO := Lib.hid (show w1.ownsRow W0.heap.size 26 5 v1 (L ++ [((a, Value.slice A n c, Value.slice A' a.cs.length c') : TrV)]).length (trCells (L ++ [((a, Value.slice A n c, Value.slice A' a.cs.length c') : TrV)])) by rw [List.length_append, trCells_app]; exact hown1)
      clear hown1 hgrow q0 q1 q2 q3 q4 hown
      go_wp2_with fail
      go_ret
      exact ⟨_, _, rfl, HM.out, HH.out, HO.out.mono HB0.out.size, below_join HB0.out hb1⟩
end Go.Proofs.YtpaaibghfhnicaaGreatDoor

/-
  THE DOCUMENT's ANSWERS OF LAYER 10: Tables; a row of trees of one's own, cell by cell.
-/
namespace Go.Proofs.YtpaaibghfhnicaaGreatDoor
open Go.RowKit Go.Sort
set_option maxHeartbeats 1600000

theorem trCells_get {L : List TrV} {j i : Nat} {x : TrV} (h : L[j]? = some x) (hi : i < 5) : (trCells L)[j * 5 + i]? = (x.1.cells x.2.1 x.2.2)[i]? := by
  induction L generalizing j with
  | nil => simp at h
  | cons y r ih =>
    have e : trCells (y :: r) = y.1.cells y.2.1 y.2.2 ++ trCells r := by simp [trCells]
    have e5 : (y.1.cells y.2.1 y.2.2).length = 5 := rfl
    rw [e]
    cases j with
    | zero =>
      simp at h
      subst h
      rw [List.getElem?_append_left (by omega), Nat.zero_mul, Nat.zero_add]
    | succ j =>
      rw [List.getElem?_append_right (by omega), e5, show (j + 1) * 5 + i - 5 = j * 5 + i by omega]
      exact ih (by simpa using h)
theorem add_from5 (g j : Nat) : (⟨g, 0, none⟩ : Addr).add j = ⟨g, j, none⟩ := by
  unfold Addr.add
  split
  · next h => subst h; rfl
  · simp
theorem own_tr {w : World} {base : Nat} {T : TypeId} {v : Value} {L : List TrV} (h : w.ownsRow base T 5 v L.length (trCells L)) :
    ∃ A c, v = .slice A L.length c ∧ ∀ (j : Nat) (x : TrV), L[j]? = some x → ∃ g, A = some ⟨g, 0, none⟩ ∧ base ≤ g ∧ g < w.heap.size ∧ TrCell w ((⟨g, 0, none⟩ : Addr).add (j * 5)) x.1 x.2.1 x.2.2 := by
  rcases h.2 with ⟨hv, hn⟩ | ⟨g, cap, cur, hv, _⟩
  · exact ⟨none, 0, by rw [hn]; exact hv, fun j x hx => by rw [List.eq_nil_of_length_eq_zero hn] at hx; simp at hx⟩
  · subst hv
    refine ⟨_, cap, rfl, fun j x hx => ⟨g, rfl, (h.lt g rfl).1, (h.lt g rfl).2, ?_⟩⟩
    have k : ∀ i u, i < 5 → (x.1.cells x.2.1 x.2.2)[i]? = some u → w.cell? ⟨g, j * 5 + i, none⟩ = some u := fun i u hi hu => by
      have := h.cells (g := g) rfl (j * 5 + i) u (by rw [trCells_get hx hi, hu])
      rwa [add_from5] at this
    rw [add_from5]
    exact ⟨k 0 _ (by omega) rfl, k 1 _ (by omega) rfl, k 2 _ (by omega) rfl, k 3 _ (by omega) rfl, k 4 _ (by omega) rfl⟩
theorem own_types {w : World} {b b' n n' s s' : Nat} {e e' : TypeId} {v v' : Value} {xs xs' : List Value} (h : w.ownsRow b e s v n xs) (h' : w.ownsRow b' e' s' v' n' xs') (he : e ≠ e') : v.ownBlock = none ∨ v.ownBlock ≠ v'.ownBlock := by
  rcases h.2 with ⟨rfl, _⟩ | ⟨g, cap, cur, rfl, _, hg, _⟩
  · exact .inl rfl
  · refine .inr fun hh => ?_
    rcases h'.2 with ⟨rfl, _⟩ | ⟨g', cap', cur', rfl, _, hg', _⟩
    · cases hh
    · have h4 := Option.some.inj hh
      simp at h4
      subst h4
      rw [hg] at hg'
      have h5 := Option.some.inj hg'
      injection h5 with _ h6 _
      exact he h6
def leafTs (l : List Tr) : List Int := (l.filter fun x => x.k == 0).map Tr.t
theorem leafTs_take {l : List Tr} {q : Nat} {b : Tr} (h : l[q]? = some b) : leafTs (l.take (q + 1)) = leafTs (l.take q) ++ (if b.k = 0 then [b.t] else []) := by
  rw [List.take_add_one, h]
  by_cases hk : b.k = 0 <;> simp [leafTs, hk]
theorem leafTs_len (l : List Tr) : (leafTs l).length ≤ l.length := by
  unfold leafTs
  rw [List.length_map]
  exact List.length_filter_le _ _
set_option maxRecDepth 100000 in
theorem r10tables_any (d : Nat) (a : Tr) (u v : Value) (w : World) (hu : TsAt d w u a.ks) (hv : PsSome w v a.cs) (hsz : Tr.size a ≤ 1000) :
    Calls Tryz.prog 19 #[.agg #[.int .i64 a.k, .int .i64 a.t, u, v, .bool a.h]] w
      fun e w' => e = .returned (.int .u64 (Tr.tables a : Nat)) ∧ Below w.heap.size w w' := by
  obtain ⟨i0, hi, hz0, hz1, hz2⟩ := info_parts Tryz.infoInt
  obtain ⟨W0, hW0⟩ : ∃ W0, W0 = w.alloc (Obj.cells #[.int .i64 a.k, .int .i64 a.t, u, v, .bool a.h] 26) := ⟨_, rfl⟩
  obtain ⟨l0, p0, hb0⟩ := tr_box (a := a) (u := u) (v := v) hW0
  obtain ⟨A, c, rfl, hl⟩ := hu.form
  obtain ⟨A', c', rfl, hl'⟩ := hv.elim fun D h => h.form
  obtain ⟨W1, hW1⟩ : ∃ W1, W1 = W0.alloc (Obj.cells #[] 3) := ⟨_, rfl⟩
  have hb1 : Below W0.heap.size W0 W1 := by rw [hW1]; exact below_new _ _
  have hb01 := below_join hb0 hb1
  have how : W1.ownsRow W0.heap.size 3 1 (.slice (some ⟨W0.heap.size, 0, none⟩) 0 0) 0 [] := by rw [hW1]; exact own_empty W0 3 1 W0.heap.size (Nat.le_refl _) W0.heap.size rfl
  have cs := r10all_any W1 d a _ _ W1 (Below.refl _ _) (hu.below hb01 (Nat.le_refl _)) (hv.below hb01 (Nat.le_refl _)) hsz
  have hal := Tr.all_length_le a
  have p1 := p0.below hb1 l0.lt
  obtain ⟨q0, q1, q2, q3, q4⟩ := p1
  have HT := Lib.hid (show Tr.tables a = St.ofN (leafTs (Tr.all a)) from rfl)
  have HW := Lib.hid hW0
  have HW1 := Lib.hid hW1
  have HB0 := Lib.hid hb0
  clear hW0 hW1 hu hv l0 p0 hb0 hb01
  go_enter Tryz.func19, Tryz.ntmps19
  go_upto_region 1 with (fail)
  rw [← HW.out]
  go_upto_region 2 with (fail)
  rw [← HW1.out]
  go_wp2_with fail
  refine cs.mono ?_
  rintro e w2 ⟨v2, L, rfl, hm, _, hown2, hb2⟩
  have hownl := own_kept how hb2
  have hb12 := below_join hb1 hb2
  obtain ⟨n, hn⟩ : ∃ n, n = L.length := ⟨_, rfl⟩
  have hnl : n ≤ 1000 := by
    have h1 := congrArg List.length hm
    rw [List.length_map] at h1
    omega
  obtain ⟨B, c2, rfl, _⟩ := own_tr hown2
  rw [← hn] at hown2 ⊢
  have HN := Lib.hid hn
  have HM := Lib.hid hm
  have HO := Lib.hid hown2
  have HOL := Lib.hid hownl
  clear cs q0 q1 q2 q3 q4 hn hm hown2 hb2 hal how hownl
  go_wp2_with fail
  go_loopw [3, 5] (fun s i wr => ∃ q : Nat, q ≤ n ∧ i = .int .i64 q ∧ wr.ownsRow W0.heap.size 3 1 s (leafTs ((Tr.all a).take q)).length ((leafTs ((Tr.all a).take q)).map (Value.int .i64)) ∧ Hid (wr.ownsRow W1.heap.size 26 5 (.slice B n c2) n (trCells L)) ∧ Below W0.heap.size W0 wr) (fun _ i _ => n - (intOf i).toNat)
  case atStart => exact ⟨0, Nat.zero_le _, rfl, HOL.out, HO, hb12⟩
  case round =>
    obtain ⟨q, hq, rfl, hown, hrow, hb⟩ := hrel
    by_cases hlt : q < n
    · obtain ⟨x, gx⟩ : ∃ x, L[q]? = some x := ⟨L[q]'(by have := HN.out; omega), List.getElem?_eq_getElem _⟩
      have gb : (Tr.all a)[q]? = some x.1 := by rw [← HM.out, List.getElem?_map, gx]; rfl
      have HT2 := Lib.hid (leafTs_take gb)
      have hrow' := hrow.out
      rw [HN.out] at hrow'
      obtain ⟨A1, c1, hv1, hx⟩ := own_tr hrow'
      cases hv1
      obtain ⟨g, rfl, hg1, hg2, q0, q1, _, _, _⟩ := hx q x gx
      have hlen : (leafTs ((Tr.all a).take q)).length ≤ 1000 := by
        have h1 := leafTs_len ((Tr.all a).take q)
        rw [List.length_take] at h1
        omega
      rw [add_from5] at q0 q1
      dsimp only at q0 q1
      clear hrow' hx gx gb
      by_cases hk : x.1.k = 0
      · have HT3 := Lib.hid (show leafTs ((Tr.all a).take (q + 1)) = leafTs ((Tr.all a).take q) ++ [x.1.t] by rw [HT2.out, if_pos hk])
        rw [hk] at q0
        clear hk HT2
        go_wp2_with (first
          | (at_builtin; refine wpList_append_n _ rfl _ _ 22 rfl W0.heap.size 3 i0 (.int .i64 0) 1 8 Tryz.underlying22 hi hz0 hz1 hz2 rfl (by decide) _ _ _ rfl (hown.alloc _) _ 1 [.int .i64 x.1.t] rfl (CameN.new wr 3 1 1 [.int .i64 x.1.t] _ rfl rfl) ?l0 ?l1 ?l2 ?l3 ?_))
        case l0 => simp [Value.oneCell']
        case l1 => unfold maxLen; omega
        case l2 => omega
        case l3 => have := hb.size; simp; omega
        intro v1 w3 hown4 hgrow
        have hb3 : Below W0.heap.size W0 w3 := (hb.alloc hb.size _).grown hgrow (by have := hb.size; simp; omega) (fun k hk => (hown.lt k hk).1)
        have hrow3 := Lib.hid ((hrow.out.alloc (Obj.cells #[.int .i64 x.1.t] 3)).kept hgrow (own_types (hrow.out.alloc (Obj.cells #[.int .i64 x.1.t] 3)) (hown.alloc (Obj.cells #[.int .i64 x.1.t] 3)) (by decide)))
        have hown5 : w3.ownsRow W0.heap.size 3 1 v1 (leafTs ((Tr.all a).take (q + 1))).length ((leafTs ((Tr.all a).take (q + 1))).map (Value.int .i64)) := by rw [HT3.out]; simpa using hown4
        clear hown4 hgrow hown q0 q1
        go_wp2_with fail
        go_roundw
        case rel => exact ⟨q + 1, by omega, by go_num, hown5, hrow3, hb3⟩
        case measure => simp [intOf]; omega
      · have HT3 := Lib.hid (show leafTs ((Tr.all a).take (q + 1)) = leafTs ((Tr.all a).take q) by rw [HT2.out, if_neg hk, List.append_nil])
        have hk2 : (x.1.k == 0) = false := by simpa using hk
        clear hk HT2
        go_wp2_with fail
        go_roundw
        case rel => exact ⟨q + 1, by omega, by go_num, by rw [HT3.out]; exact hown, hrow, hb⟩
        case measure => simp [intOf]; omega
    · have hL : leafTs ((Tr.all a).take q) = leafTs (Tr.all a) := by
        rw [List.take_of_length_le]
        have h1 := congrArg List.length HM.out
        rw [List.length_map] at h1
        have := HN.out
        omega
      rw [hL] at hown
      have hlen : (leafTs (Tr.all a)).length ≤ 9223372036854775807 := by
        have h1 := leafTs_len (Tr.all a)
        have h2 := congrArg List.length HM.out
        rw [List.length_map] at h2
        have := HN.out
        omega
      have hs := Sl.own hown
      have HS := Lib.hid hs
      have HLE := Lib.hid hlen
      clear hown hL hs hlen
      go_wp2_with fail
      refine (rof_any _ _ _ HS.out HLE.out).mono ?_
      rintro e w3 ⟨rfl, rfl⟩
      go_wp2_with fail
      go_ret
      exact ⟨by rw [HT.out]; rfl, below_join HB0.out hb⟩
end Go.Proofs.YtpaaibghfhnicaaGreatDoor

/-
  THE DOCUMENT's ANSWERS OF LAYER 10: LeafOf, On.
-/
namespace Go.Proofs.YtpaaibghfhnicaaGreatDoor
open Go.RowKit Go.Sort
set_option maxHeartbeats 1600000

theorem leaf10_any (i : Int) (w : World) :
    Calls Tryz.prog 56 #[.int .i64 i] w fun e w' => e = .returned (.agg #[.int .i64 0, .int .i64 i, .slice none 0 0, .slice none 0 0, .bool false]) ∧ Below w.heap.size w w' := by
  go_enter Tryz.func56, Tryz.ntmps56
  go_wp2
  exact bodyPost_ret (v := .agg #[.int .i64 0, .int .i64 i, .slice none 0 0, .slice none 0 0, .bool false]) (by simp [results, Tryz.results56, go_sem]) rfl ⟨rfl, below_new _ _⟩
end Go.Proofs.YtpaaibghfhnicaaGreatDoor

/-
  TOWARDS THE LAW's Two OF LAYER 10: two leaves under an operator, an equality between them, as they lie.
-/
namespace Go.Proofs.YtpaaibghfhnicaaGreatDoor
open Go.RowKit Go.Sort
set_option maxHeartbeats 1600000

abbrev eq01 : Pd := .mk ⟨2, 0, 1, ⟨1, 0, 0, false, 0⟩, ⟨1, 1, 0, false, 0⟩⟩ []
abbrev leafTr (i : Int) : Tr := .mk 0 i false [] []
end Go.Proofs.YtpaaibghfhnicaaGreatDoor

/-
  package tree: Seen.
-/
namespace Go.Proofs.YtpaaibghfhnicaaGreatDoor
open Go.RowKit Go.Sort
set_option maxHeartbeats 1600000

set_option maxRecDepth 100000 in
theorem tseen_any (d : Nat) : ∀ (a : Tr) (u v : Value) (w : World), TsAt d w u a.ks → PsSome w v a.cs →
    Calls Tryz.prog 29 #[.agg #[.int .i64 a.k, .int .i64 a.t, u, v, .bool a.h]] w fun e w' => e = .returned (.int .u64 (Tr.seen a : Nat)) ∧ Below w.heap.size w w' := by
  induction d using Nat.strongRecOn with
  | ind d ih =>
  intro a u v w hu hv
  obtain ⟨W0, hW0⟩ : ∃ W0, W0 = w.alloc (Obj.cells #[.int .i64 a.k, .int .i64 a.t, u, v, .bool a.h] 26) := ⟨_, rfl⟩
  obtain ⟨l0, p0, hb0⟩ := tr_box (a := a) (u := u) (v := v) hW0
  obtain ⟨A, c, rfl, hl⟩ := hu.form
  obtain ⟨A', c', rfl, hl'⟩ := hv.elim fun D h => h.form
  have hcap := hu.cap
  have HU := Lib.hid (hu.below hb0 (Nat.le_refl _))
  have HSE := Lib.hid (Tr.seen_at a)
  have IH := Lib.hid ih
  obtain ⟨q0, q1, q2, q3, q4⟩ := p0
  obtain ⟨n, hn⟩ : ∃ n, n = a.ks.length := ⟨_, rfl⟩
  rw [← hn] at hl HU q2 hcap hW0 ⊢
  have HN := Lib.hid hn
  have HW := Lib.hid hW0
  obtain ⟨kd, hkd⟩ : ∃ kd, kd = a.k := ⟨_, rfl⟩
  rw [← hkd] at q0 HW ⊢
  have HK := Lib.hid hkd
  clear hW0 ih hu hv l0 hn hkd hl'
  by_cases hk : kd = 0
  · subst hk
    have cs := sof_any _ [a.t] _ (Sl.new W0 3 [.int .i64 a.t]) (by simp)
    have hb1 := below_join hb0 (below_new W0 (Obj.cells #[.int .i64 a.t] 3))
    have HE := Lib.hid (show St.ofN [a.t] = Tr.seen a by rw [HSE.out, if_pos HK.out.symm])
    clear q3 q4
    go_enter Tryz.func29, Tryz.ntmps29
    go_upto_region 1 with (fail)
    rw [← HW.out]
    go_wp2_with fail
    refine cs.mono ?_
    rintro e w1 ⟨rfl, rfl⟩
    clear cs
    go_wp2_with fail
    go_ret
    exact ⟨by rw [HE.out]; rfl, hb1⟩
  · have hk0 : (kd == 0) = false := by simpa using hk
    obtain ⟨L, hL⟩ : ∃ L : List Tr, L = if kd = 3 ∨ kd = 4 then a.ks.take 1 else a.ks := ⟨_, rfl⟩
    obtain ⟨m, hm⟩ : ∃ m, m = L.length := ⟨_, rfl⟩
    have hmn : m ≤ n := by
      rw [hm, hL, HN.out]
      split
      · rw [List.length_take]; omega
      · exact Nat.le_refl _
    have HLA := Lib.hid (show ∀ (q : Nat) (b : Tr), L[q]? = some b → a.ks[q]? = some b from fun q b h => by
      rw [hL] at h
      split at h
      · rw [List.getElem?_take] at h
        split at h
        · exact h
        · cases h
      · exact h)
    have HEND := Lib.hid (show Tr.seens L = Tr.seen a by
      rw [HSE.out, if_neg (by rw [← HK.out]; exact hk), hL, ← HK.out]
      by_cases h34 : kd = 3 ∨ kd = 4
      · rw [if_pos h34, if_pos h34, Tr.seens_one]
      · rw [if_neg h34, if_neg h34])
    have HM := Lib.hid hm
    by_cases h34 : kd = 3 ∨ kd = 4
    · have hm1 : m = min n 1 := by
        rw [hm, hL, if_pos h34, List.length_take, HN.out]; omega
      have HM1 := Lib.hid hm1
      clear hL hm hm1
      by_cases hn1 : n ≤ 1
      · obtain rfl : m = n := by have := HM1.out; omega
        go_enter Tryz.func29, Tryz.ntmps29
        go_upto_region 1 with (fail)
        rw [← HW.out]
        have hn2 : ¬ ((1 : Int) < (m : Int)) := by omega
        have hn3 : (m : Int) ≤ 1 := by omega
        rcases h34 with h3 | h3
        all_goals subst h3
        all_goals clear hk
        all_goals go_wp2_with fail
        all_goals clear hn2 hn3
        all_goals (
          go_loopw [4, 27] (fun s i wr => ∃ (q sv : Nat), q ≤ m ∧ i = .int .i64 q ∧ s = .int .u64 sv ∧ Hid (sv = Tr.seens (L.take q)) ∧ Below W0.heap.size W0 wr) (fun _ i _ => m - (intOf i).toNat)
          case atStart => exact ⟨0, 0, Nat.zero_le _, rfl, rfl, Lib.hid (by rw [List.take_zero, Tr.seens]), Below.refl _ _⟩
          case round =>
            obtain ⟨q, sv, hq, rfl, rfl, hsv, hb⟩ := hrel
            by_cases hlt : q < m
            · obtain ⟨b, gL⟩ : ∃ b, L[q]? = some b := ⟨L[q]'(by have := HM.out; omega), List.getElem?_eq_getElem _⟩
              have gb := HLA.out q b gL
              have hu := HU.out
              rw [HN.out] at hu
              obtain ⟨e, bb, oo, ss, xx, yy, he, rfl, _, hx⟩ := hu.at_ gb
              obtain ⟨hcell, hps, hks⟩ := hx wr hb
              obtain ⟨A2, c2, rfl, _⟩ := hks.form
              obtain ⟨D2, hps2⟩ := hps
              obtain ⟨A3, c3, rfl, _⟩ := hps2.form
              have hba := below_join hb (below_new wr (Obj.cells #[.int .i64 b.k, .int .i64 b.t, .slice A2 b.ks.length c2, .slice A3 b.cs.length c3, .bool b.h] 26))
              obtain ⟨_, hps3, hks3⟩ := hx _ hba
              have cs := IH.out e he b _ _ _ hks3 hps3
              have hqn : q < m := Nat.lt_of_lt_of_le hlt hmn
              have ht : L.take (q + 1) = L.take q ++ [b] := by rw [List.take_add_one, gL]; rfl
              have hsl : sv < 18446744073709551616 := by rw [hsv.out]; exact Tr.seens_lt _
              have H2 := Lib.hid (u64_or_nat sv (Tr.seen b) hsl (Tr.seen_lt b))
              have H3 := Lib.hid (show sv ||| Tr.seen b = Tr.seens (L.take (q + 1)) by rw [ht, Tr.seens_snoc, hsv.out])
              have HBA := Lib.hid hba
              obtain ⟨x0, x1, x2, x3, x4⟩ := hcell
              have hlt1 : (q : Int) < (m : Int) := by omega
              clear gL gb hx hps2 hks hps3 hks3 ht hsl hu hb hba he q0 q1 q2 q3 q4
              go_wp2_with fail
              refine cs.mono ?_
              rintro e w2 ⟨rfl, hb2⟩
              have hb' := below_join HBA.out hb2
              clear cs x0 x1 x2 x3 x4 hb2
              go_wp2_with fail
              go_roundw
              case rel => exact ⟨q + 1, _, by omega, by go_num, by rw [H2.out], H3, hb'⟩
              case measure => simp [intOf]; omega
            · have hlt1 : ¬ ((q : Int) < (m : Int)) := by omega
              have he : Hid (sv = Tr.seen a) := Lib.hid (by
                rw [hsv.out, List.take_of_length_le (by have := HM.out; omega)]
                exact HEND.out)
              go_wp2_with fail
              go_ret
              exact ⟨by rw [he.out]; rfl, below_join hb0 hb⟩)
      · obtain rfl : m = 1 := by have := HM1.out; omega
        go_enter Tryz.func29, Tryz.ntmps29
        go_upto_region 1 with (fail)
        rw [← HW.out]
        have hn2 : (1 : Int) < (n : Int) := by omega
        have hn3 : ¬ (n : Int) ≤ 1 := by omega
        have hn4 : 1 ≤ c := by omega
        rcases h34 with h3 | h3
        all_goals subst h3
        all_goals clear hk
        all_goals go_wp2_with fail
        all_goals clear hn2 hn3
        all_goals (
          go_loopw [4, 27] (fun s i wr => ∃ (q sv : Nat), q ≤ 1 ∧ i = .int .i64 q ∧ s = .int .u64 sv ∧ Hid (sv = Tr.seens (L.take q)) ∧ Below W0.heap.size W0 wr) (fun _ i _ => 1 - (intOf i).toNat)
          case atStart => exact ⟨0, 0, Nat.zero_le _, rfl, rfl, Lib.hid (by rw [List.take_zero, Tr.seens]), Below.refl _ _⟩
          case round =>
            obtain ⟨q, sv, hq, rfl, rfl, hsv, hb⟩ := hrel
            by_cases hlt : q < 1
            · obtain ⟨b, gL⟩ : ∃ b, L[q]? = some b := ⟨L[q]'(by have := HM.out; omega), List.getElem?_eq_getElem _⟩
              have gb := HLA.out q b gL
              have hu := HU.out
              rw [HN.out] at hu
              obtain ⟨e, bb, oo, ss, xx, yy, he, rfl, _, hx⟩ := hu.at_ gb
              obtain ⟨hcell, hps, hks⟩ := hx wr hb
              obtain ⟨A2, c2, rfl, _⟩ := hks.form
              obtain ⟨D2, hps2⟩ := hps
              obtain ⟨A3, c3, rfl, _⟩ := hps2.form
              have hba := below_join hb (below_new wr (Obj.cells #[.int .i64 b.k, .int .i64 b.t, .slice A2 b.ks.length c2, .slice A3 b.cs.length c3, .bool b.h] 26))
              obtain ⟨_, hps3, hks3⟩ := hx _ hba
              have cs := IH.out e he b _ _ _ hks3 hps3
              have hqn : q < n := Nat.lt_of_lt_of_le hlt hmn
              have ht : L.take (q + 1) = L.take q ++ [b] := by rw [List.take_add_one, gL]; rfl
              have hsl : sv < 18446744073709551616 := by rw [hsv.out]; exact Tr.seens_lt _
              have H2 := Lib.hid (u64_or_nat sv (Tr.seen b) hsl (Tr.seen_lt b))
              have H3 := Lib.hid (show sv ||| Tr.seen b = Tr.seens (L.take (q + 1)) by rw [ht, Tr.seens_snoc, hsv.out])
              have HBA := Lib.hid hba
              obtain ⟨x0, x1, x2, x3, x4⟩ := hcell
              have hlt1 : (q : Int) < 1 := by omega
              clear gL gb hx hps2 hks hps3 hks3 ht hsl hu hb hba he q0 q1 q2 q3 q4
              go_wp2_with fail
              refine cs.mono ?_
              rintro e w2 ⟨rfl, hb2⟩
              have hb' := below_join HBA.out hb2
              clear cs x0 x1 x2 x3 x4 hb2
              go_wp2_with fail
              go_roundw
              case rel => exact ⟨q + 1, _, by omega, by go_num, by rw [H2.out], H3, hb'⟩
              case measure => simp [intOf]; omega
            · have hlt1 : ¬ ((q : Int) < 1) := by omega
              have he : Hid (sv = Tr.seen a) := Lib.hid (by
                rw [hsv.out, List.take_of_length_le (by have := HM.out; omega)]
                exact HEND.out)
              go_wp2_with fail
              go_ret
              exact ⟨by rw [he.out]; rfl, below_join hb0 hb⟩)
    · have hmn2 : m = n := by rw [hm, hL, if_neg h34, HN.out]
      obtain rfl := hmn2
      have h3 : (kd == 3) = false := by simp; omega
      have h4 : (kd == 4) = false := by simp; omega
      clear hL hm h34 hk
      go_enter Tryz.func29, Tryz.ntmps29
      go_upto_region 1 with (fail)
      rw [← HW.out]
      go_wp2_with fail
      go_loopw [4, 27] (fun s i wr => ∃ (q sv : Nat), q ≤ m ∧ i = .int .i64 q ∧ s = .int .u64 sv ∧ Hid (sv = Tr.seens (L.take q)) ∧ Below W0.heap.size W0 wr) (fun _ i _ => m - (intOf i).toNat)
      case atStart => exact ⟨0, 0, Nat.zero_le _, rfl, rfl, Lib.hid (by rw [List.take_zero, Tr.seens]), Below.refl _ _⟩
      case round =>
        obtain ⟨q, sv, hq, rfl, rfl, hsv, hb⟩ := hrel
        by_cases hlt : q < m
        · obtain ⟨b, gL⟩ : ∃ b, L[q]? = some b := ⟨L[q]'(by have := HM.out; omega), List.getElem?_eq_getElem _⟩
          have gb := HLA.out q b gL
          have hu := HU.out
          rw [HN.out] at hu
          obtain ⟨e, bb, oo, ss, xx, yy, he, rfl, _, hx⟩ := hu.at_ gb
          obtain ⟨hcell, hps, hks⟩ := hx wr hb
          obtain ⟨A2, c2, rfl, _⟩ := hks.form
          obtain ⟨D2, hps2⟩ := hps
          obtain ⟨A3, c3, rfl, _⟩ := hps2.form
          have hba := below_join hb (below_new wr (Obj.cells #[.int .i64 b.k, .int .i64 b.t, .slice A2 b.ks.length c2, .slice A3 b.cs.length c3, .bool b.h] 26))
          obtain ⟨_, hps3, hks3⟩ := hx _ hba
          have cs := IH.out e he b _ _ _ hks3 hps3
          have hqn : q < m := Nat.lt_of_lt_of_le hlt hmn
          have ht : L.take (q + 1) = L.take q ++ [b] := by rw [List.take_add_one, gL]; rfl
          have hsl : sv < 18446744073709551616 := by rw [hsv.out]; exact Tr.seens_lt _
          have H2 := Lib.hid (u64_or_nat sv (Tr.seen b) hsl (Tr.seen_lt b))
          have H3 := Lib.hid (show sv ||| Tr.seen b = Tr.seens (L.take (q + 1)) by rw [ht, Tr.seens_snoc, hsv.out])
          have HBA := Lib.hid hba
          obtain ⟨x0, x1, x2, x3, x4⟩ := hcell
          have hlt1 : (q : Int) < (m : Int) := by omega
          clear gL gb hx hps2 hks hps3 hks3 ht hsl hu hb hba he q0 q1 q2 q3 q4
          go_wp2_with fail
          refine cs.mono ?_
          rintro e w2 ⟨rfl, hb2⟩
          have hb' := below_join HBA.out hb2
          clear cs x0 x1 x2 x3 x4 hb2
          go_wp2_with fail
          go_roundw
          case rel => exact ⟨q + 1, _, by omega, by go_num, by rw [H2.out], H3, hb'⟩
          case measure => simp [intOf]; omega
        · have hlt1 : ¬ ((q : Int) < (m : Int)) := by omega
          have he : Hid (sv = Tr.seen a) := Lib.hid (by
            rw [hsv.out, List.take_of_length_le (by have := HM.out; omega)]
            exact HEND.out)
          go_wp2_with fail
          go_ret
          exact ⟨by rw [he.out]; rfl, below_join hb0 hb⟩
end Go.Proofs.YtpaaibghfhnicaaGreatDoor
