/-
  LAID TOGETHER, BY PROGRAM, of: Trs, Tra, Trb, Trc, Trd, Trf, Trg, Trh, Tri, Trj.
-/
import Derived.Test.YtbddhkgbpjhhaaaGreatDoorGPl2
import Derived.Test.YtbddhkgbpjhhaaaGreatDoorGPred
import Derived.Test.YtbddhkgbpjhhaaaGreatDoorGBase
import Derived.Lib.QuietBelow
import Derived.BigQuiet
namespace Go.Proofs.YtbddhkgbpjhhaaaGreatDoor
open Go.RowKit
def Tr.cells (a : Tr) (u v : Value) : List Value := [.int .i64 a.k, .int .i64 a.t, u, v, .bool a.h]
structure TrCell (w : World) (X : Addr) (a : Tr) (u v : Value) : Prop where
  c0 : w.cell? X = some (.int .i64 a.k)
  c1 : w.cell? ⟨X.block, X.off + 1, none⟩ = some (.int .i64 a.t)
  c2 : w.cell? ⟨X.block, X.off + 2, none⟩ = some u
  c3 : w.cell? ⟨X.block, X.off + 3, none⟩ = some v
  c4 : w.cell? ⟨X.block, X.off + 4, none⟩ = some (.bool a.h)
theorem TrCell.below {w w' : World} {B : Nat} {X : Addr} {a : Tr} {u v : Value} (h : TrCell w X a u v) (hb : Below B w w') (hX : X.block < B) : TrCell w' X a u v :=
  have k : ∀ n, w'.cell? ⟨X.block, n, none⟩ = w.cell? ⟨X.block, n, none⟩ := fun n => hb.cell (p := ⟨X.block, n, none⟩) hX
  ⟨(hb.cell hX).trans h.c0, (k _).trans h.c1, (k _).trans h.c2, (k _).trans h.c3, (k _).trans h.c4⟩
theorem Lies.tr {w : World} {g : Nat} {T : TypeId} {a : Tr} {u v : Value} (h : Lies w g T (a.cells u v)) : TrCell w ⟨g, 0, none⟩ a u v :=
  ⟨h.cell (i := 0) rfl, h.cell (i := 1) rfl, h.cell (i := 2) rfl, h.cell (i := 3) rfl, h.cell (i := 4) rfl⟩
def PsSome (w : World) (v : Value) (l : List Pd) : Prop := ∃ d, PsAt d w v l
theorem PsSome.below {w w' : World} {B : Nat} {v : Value} {l : List Pd} (h : PsSome w v l) (hb : Below B w w') (hB : w.heap.size ≤ B) : PsSome w' v l := by
  obtain ⟨d, h⟩ := h
  exact ⟨d, h.below hb hB⟩
def TsAt : Nat → World → Value → List Tr → Prop
  | 0, _, v, l => l = [] ∧ ∃ A c, v = .slice A 0 c
  | d + 1, w, v, l => ∃ A c, v = .slice A l.length c ∧ (l.length ≤ 9223372036854775807 ∧ l.length ≤ c) ∧ ∀ (j : Nat) (a : Tr), l[j]? = some a → ∃ b o s x y, A = some ⟨b, o, s⟩ ∧ b < w.heap.size ∧ TrCell w ((⟨b, o, s⟩ : Addr).add (j * 5)) a x y ∧ PsSome w y a.cs ∧ TsAt d w x a.ks
theorem TsAt.form {d : Nat} {w : World} {v : Value} {l : List Tr} (h : TsAt d w v l) : ∃ A c, v = .slice A l.length c ∧ l.length ≤ 9223372036854775807 := by
  cases d with
  | zero => obtain ⟨rfl, A, c, rfl⟩ := h; exact ⟨A, c, rfl, by simp⟩
  | succ d => obtain ⟨A, c, rfl, hl, _⟩ := h; exact ⟨A, c, rfl, hl.1⟩
theorem TsAt.below {d : Nat} : ∀ {w w' : World} {B : Nat} {v : Value} {l : List Tr}, TsAt d w v l → Below B w w' → w.heap.size ≤ B → TsAt d w' v l := by
  induction d with
  | zero => intro w w' B v l h _ _; exact h
  | succ d ih =>
    intro w w' B v l h hb hB
    obtain ⟨A, c, hv, hc, hx⟩ := h
    refine ⟨A, c, hv, hc, fun j a hj => ?_⟩
    obtain ⟨b, o, s, x, y, hA, hlt, hcell, hp, hk⟩ := hx j a hj
    exact ⟨b, o, s, x, y, hA, Nat.lt_of_lt_of_le hlt hb.size, hcell.below hb (by rw [add_block]; show b < B; omega), hp.below hb hB, ih hk hb hB⟩
theorem TsAt.more {d : Nat} : ∀ {w : World} {v : Value} {l : List Tr}, TsAt d w v l → TsAt (d + 1) w v l := by
  induction d with
  | zero =>
    intro w v l h
    obtain ⟨rfl, A, c, rfl⟩ := h
    exact ⟨A, c, rfl, by simp, fun j a hj => by simp at hj⟩
  | succ d ih =>
    intro w v l h
    obtain ⟨A, c, hv, hc, hx⟩ := h
    refine ⟨A, c, hv, hc, fun j a hj => ?_⟩
    obtain ⟨b, o, s, x, y, hA, hlt, hcell, hp, hk⟩ := hx j a hj
    exact ⟨b, o, s, x, y, hA, hlt, hcell, hp, ih hk⟩
theorem TsAt.mono {d e : Nat} {w : World} {v : Value} {l : List Tr} (h : TsAt d w v l) (hd : d ≤ e) : TsAt e w v l := by
  induction hd with
  | refl => exact h
  | step _ ih => exact ih.more
theorem TsAt.at_ {d : Nat} {w : World} {A : Option Addr} {c : Nat} {l : List Tr} {j : Nat} {a : Tr} (h : TsAt d w (.slice A l.length c) l) (hj : l[j]? = some a) :
    ∃ e b o s x y, e < d ∧ A = some ⟨b, o, s⟩ ∧ b < w.heap.size ∧ ∀ W, Below w.heap.size w W → TrCell W ((⟨b, o, s⟩ : Addr).add (j * 5)) a x y ∧ PsSome W y a.cs ∧ TsAt e W x a.ks := by
  cases d with
  | zero => obtain ⟨rfl, _⟩ := h; simp at hj
  | succ d =>
    obtain ⟨A', c', hv, _, hx⟩ := h
    cases hv
    obtain ⟨b, o, s, x, y, hA, hlt, hcell, hp, hk⟩ := hx j a hj
    exact ⟨d, b, o, s, x, y, Nat.lt_succ_self d, hA, hlt, fun W hb => ⟨hcell.below hb (by rw [add_block]; exact hlt), hp.below hb (Nat.le_refl _), hk.below hb (Nat.le_refl _)⟩⟩
theorem tr_box {w W0 : World} {T : TypeId} {a : Tr} {u v : Value} (h : W0 = w.alloc (Obj.cells (a.cells u v).toArray T)) : Lies W0 w.heap.size T (a.cells u v) ∧ TrCell W0 ⟨w.heap.size, 0, none⟩ a u v ∧ Below w.heap.size w W0 := by
  have l : Lies W0 w.heap.size T (a.cells u v) := by rw [h]; exact Lies.new _ _ _
  exact ⟨l, l.tr, by rw [h]; exact (Below.refl _ _).alloc (Nat.le_refl _) _⟩
end Go.Proofs.YtbddhkgbpjhhaaaGreatDoor
namespace Go.Proofs.YtbddhkgbpjhhaaaGreatDoor
open Go.RowKit Go.Sort
set_option maxHeartbeats 1600000
set_option maxRecDepth 100000 in
theorem r10size_any (d : Nat) : ∀ (a : Tr) (u v : Value) (M : Int) (w : World), TsAt d w u a.ks → PsSome w v a.cs → 1 ≤ M → M ≤ 1000000 →
    Calls Tryz.prog 37 #[.agg #[.int .i64 a.k, .int .i64 a.t, u, v, .bool a.h], .int .i64 M] w
      fun e w' => e = .returned (.int .i64 (min (Tr.size a : Int) M)) ∧ Below w.heap.size w w' := by
  induction d using Nat.strongRecOn with
  | ind d ih =>
  intro a u v M w hu hv hM1 hM2
  obtain ⟨W0, hW0⟩ : ∃ W0, W0 = w.alloc (Obj.cells #[.int .i64 a.k, .int .i64 a.t, u, v, .bool a.h] 26) := ⟨_, rfl⟩
  obtain ⟨l0, p0, hb0⟩ := tr_box (a := a) (u := u) (v := v) hW0
  have HU := Lib.hid (hu.below hb0 (Nat.le_refl _))
  obtain ⟨D, hps⟩ := hv.below hb0 (Nat.le_refl _)
  obtain ⟨A, c, rfl, hl⟩ := hu.form
  obtain ⟨A', c', rfl, hl'⟩ := hps.form
  have HW := Lib.hid hW0
  have IH := Lib.hid ih
  have HP := Lib.hid p0
  have HL := Lib.hid l0.lt
  have HPS := Lib.hid hps
  have hsz := Tr.size_at a
  obtain ⟨n, hn⟩ : ∃ n, n = a.ks.length := ⟨_, rfl⟩
  obtain ⟨m, hm⟩ : ∃ m, m = a.cs.length := ⟨_, rfl⟩
  rw [← hn] at hl HU HP HW ⊢
  rw [← hm] at hl' HPS HP HW ⊢
  have HN := Lib.hid (And.intro hn hm)
  have HSZ := Lib.hid hsz
  clear hW0 ih hu hv hps l0 p0 hn hm hsz
  go_enter Tryz.func37, Tryz.ntmps37
  go_wp2_with fail
  rw [← HW.out]
  go_loopw [5, 6] (fun s i wr => ∃ (q : Nat) (sv : Int), q ≤ m ∧ i = .int .i64 q ∧ s = .int .i64 sv ∧ 1 ≤ sv ∧ sv ≤ M ∧ Hid (sv = min (1 + (Pr.sizes (a.cs.take q) : Int)) M) ∧ Below W0.heap.size W0 wr) (fun _ i _ => m - (intOf i).toNat)
  case atStart => exact ⟨0, 1, Nat.zero_le _, rfl, rfl, by omega, by omega, Lib.hid (by rw [List.take_zero, Pr.sizes]; omega), Below.refl _ _⟩
  case round =>
    obtain ⟨q, sv, hq, rfl, rfl, hs1, hs2, hsv, hb⟩ := hrel
    have k3 := (HP.out.below hb (show w.heap.size < W0.heap.size from HL.out)).c3
    have k2 := (HP.out.below hb (show w.heap.size < W0.heap.size from HL.out)).c2
    have done : ¬ (q < m ∧ sv < M) → Hid (sv = min (1 + (Pr.sizes a.cs : Int)) M) := fun hnot => Lib.hid (by
      have h := hsv.out
      have hm := HN.out.2
      by_cases hlt : q < m
      · have hle : Pr.sizes (a.cs.take q) ≤ Pr.sizes a.cs := Pr.sizes_take q a.cs
        omega
      · rw [List.take_of_length_le (by omega)] at h
        exact h)
    have DONE := Lib.hid done
    clear done
    by_cases hin : q < m ∧ sv < M
    · as_aux_lemma =>
      obtain ⟨hlt, hsm⟩ := hin
      obtain ⟨p, gp⟩ : ∃ p, a.cs[q]? = some p := ⟨a.cs[q]'(by have := HN.out; omega), List.getElem?_eq_getElem _⟩
      have hu := HPS.out
      rw [HN.out.2] at hu
      obtain ⟨e, b, o, s, v, he, rfl, _, hx⟩ := hu.at_ gp
      obtain ⟨hcell, hps⟩ := hx wr hb
      have cs := r6size_any e p.f v p.ps (M - sv) wr hps (by omega) (by omega)
      have ht : a.cs.take (q + 1) = a.cs.take q ++ [p] := by rw [List.take_add_one, gp]; rfl
      have hpe : Pd.mk p.f p.ps = p := by cases p; rfl
      rw [hpe] at cs
      have hp1 := Pr.size_pos p
      have hS : Pr.sizes (a.cs.take (q + 1)) = Pr.sizes (a.cs.take q) + Pr.size p := by rw [ht, Pr.sizes_snoc]
      obtain ⟨x, hx1⟩ : ∃ x, x = min (Pr.size p : Int) (M - sv) := ⟨_, rfl⟩
      have hx2 : 1 ≤ x := by omega
      have hx3 : x ≤ M - sv := by omega
      have H3 : Hid (sv + x = min (1 + (Pr.sizes (a.cs.take (q + 1)) : Int)) M) := Lib.hid (by have := hsv.out; omega)
      rw [← hx1] at cs
      obtain ⟨q0, q1, q2, q3, q4, q5, q6, q7, q8, q9, q10, q11, q12, q13⟩ := hcell
      clear gp hx hps ht hpe hu hp1 hS hx1
      go_wp2_with fail
      refine cs.mono ?_
      rintro e w2 ⟨rfl, hb2⟩
      have hb' := below_join hb hb2
      clear cs q0 q1 q2 q3 q4 q5 q6 q7 q8 q9 q10 q11 q12 q13 k3 k2
      go_wp2_with fail
      go_roundw
      case rel => exact ⟨q + 1, sv + x, by omega, by go_num, rfl, by omega, by omega, H3, hb'⟩
      case measure => simp [intOf]; omega
    · as_aux_lemma =>
      have hsv2 := DONE.out hin
      have hguard : ¬ ((q : Int) < (m : Int)) ∨ ((q : Int) < (m : Int) ∧ ¬ (sv < M)) := by omega
      have hb1 := hb
      have H0 : Hid (∃ (q : Nat) (s2 : Int), q = 0 ∧ s2 = sv ∧ s2 = min (1 + (Pr.sizes a.cs : Int) + (Tr.sizes (a.ks.take q) : Int)) M) := Lib.hid ⟨0, sv, rfl, rfl, by rw [List.take_zero, Tr.sizes]; have := hsv2.out; omega⟩
      clear hin hsv DONE
      rcases hguard with g1 | ⟨g1, g2⟩
      all_goals
        go_wp2_with fail
        go_loopw [5, 7] (fun s i wr => ∃ (q : Nat) (sv : Int), q ≤ n ∧ i = .int .i64 q ∧ s = .int .i64 sv ∧ 1 ≤ sv ∧ sv ≤ M ∧ Hid (sv = min (1 + (Pr.sizes a.cs : Int) + (Tr.sizes (a.ks.take q) : Int)) M) ∧ Below W0.heap.size W0 wr) (fun _ i _ => n - (intOf i).toNat)
        case atStart => exact ⟨0, sv, Nat.zero_le _, rfl, rfl, hs1, hs2, Lib.hid (by obtain ⟨_, _, rfl, rfl, h⟩ := H0.out; exact h), hb1⟩
        case round =>
          obtain ⟨r, tv, hr, rfl, rfl, ht1, ht2, htv, hbr⟩ := hrel
          have k2 := (HP.out.below hbr (show w.heap.size < W0.heap.size from HL.out)).c2
          have done : ¬ (r < n ∧ tv < M) → Hid (tv = min (Tr.size a : Int) M) := fun hnot => Lib.hid (by
            have h := htv.out
            have hn := HN.out.1
            have hz := HSZ.out
            by_cases hlt : r < n
            · have hle : Tr.sizes (a.ks.take r) ≤ Tr.sizes a.ks := Tr.sizes_take r a.ks
              omega
            · rw [List.take_of_length_le (by omega)] at h
              omega)
          have DONE := Lib.hid done
          clear done
          by_cases hin : r < n ∧ tv < M
          · obtain ⟨hlt, hsm⟩ := hin
            obtain ⟨b, gb⟩ : ∃ b, a.ks[r]? = some b := ⟨a.ks[r]'(by have := HN.out; omega), List.getElem?_eq_getElem _⟩
            have hu := HU.out
            rw [HN.out.1] at hu
            obtain ⟨e, bb, oo, ss, xx, yy, he, rfl, _, hx⟩ := hu.at_ gb
            obtain ⟨hcell, hps, hks⟩ := hx wr hbr
            have cs := IH.out e he b xx yy (M - tv) wr hks hps (by omega) (by omega)
            have ht : a.ks.take (r + 1) = a.ks.take r ++ [b] := by rw [List.take_add_one, gb]; rfl
            have hp1 := Tr.size_pos b
            have hS : Tr.sizes (a.ks.take (r + 1)) = Tr.sizes (a.ks.take r) + Tr.size b := by rw [ht, Tr.sizes_snoc]
            obtain ⟨z, hz1⟩ : ∃ z, z = min (Tr.size b : Int) (M - tv) := ⟨_, rfl⟩
            have hz2 : 1 ≤ z := by omega
            have hz3 : z ≤ M - tv := by omega
            have H3 : Hid (tv + z = min (1 + (Pr.sizes a.cs : Int) + (Tr.sizes (a.ks.take (r + 1)) : Int)) M) := Lib.hid (by have := htv.out; omega)
            rw [← hz1] at cs
            obtain ⟨A2, c2, rfl, _⟩ := hks.form
            obtain ⟨D2, hps2⟩ := hps
            obtain ⟨A3, c3, rfl, _⟩ := hps2.form
            obtain ⟨q0, q1, q2, q3, q4⟩ := hcell
            clear gb hx hps2 hks ht hu hp1 hS hz1
            go_wp2_with fail
            refine cs.mono ?_
            rintro e w2 ⟨rfl, hb2⟩
            have hb' := below_join hbr hb2
            clear cs q0 q1 q2 q3 q4 k2
            go_wp2_with fail
            go_roundw
            case rel => exact ⟨r + 1, tv + z, by omega, by go_num, rfl, by omega, by omega, H3, hb'⟩
            case measure => simp [intOf]; omega
          · have he := DONE.out hin
            have hguard : ¬ ((r : Int) < (n : Int)) ∨ ((r : Int) < (n : Int) ∧ ¬ (tv < M)) := by omega
            clear hin DONE htv
            rcases hguard with g3 | ⟨g3, g4⟩
            all_goals
              go_wp2_with fail
              go_ret
              exact ⟨ret_int he.out, below_join hb0 hbr⟩
end Go.Proofs.YtbddhkgbpjhhaaaGreatDoor
namespace Go.Proofs.YtbddhkgbpjhhaaaGreatDoor
open Go.RowKit Go.Sort
set_option maxHeartbeats 1600000
theorem add_zero9 (a : Addr) : a.add 0 = a := by unfold Addr.add; simp
theorem or_lt9 {x y : Nat} (hx : x < 18446744073709551616) (hy : y < 18446744073709551616) : x ||| y < 18446744073709551616 := Nat.or_lt_two_pow (n := 64) hx hy
namespace Tr
mutual
theorem seen_lt : ∀ a : Tr, seen a < 18446744073709551616
  | .mk k t h cs ks => by
    rw [seen]
    split
    · exact St.ofN_lt _
    · split
      · exact seen1_lt ks
      · exact seens_lt ks
theorem seen1_lt : ∀ l : List Tr, seen1 l < 18446744073709551616
  | [] => by rw [seen1]; decide
  | a :: _ => by rw [seen1]; exact seen_lt a
theorem seens_lt : ∀ l : List Tr, seens l < 18446744073709551616
  | [] => by rw [seens]; decide
  | a :: r => by rw [seens]; exact or_lt9 (seen_lt a) (seens_lt r)
end
theorem seens_one (l : List Tr) : seens (l.take 1) = seen1 l := by
  cases l with
  | nil => rfl
  | cons a r => rw [List.take_succ_cons, List.take_zero, seens, seens, seen1, Nat.or_zero]
end Tr
set_option maxRecDepth 100000 in
theorem r10seen_any (d : Nat) : ∀ (a : Tr) (u v : Value) (w : World), TsAt d w u a.ks →
    Calls Tryz.prog 16 #[.agg #[.int .i64 a.k, .int .i64 a.t, u, v, .bool a.h]] w
      fun e w' => e = .returned (.int .u64 (Tr.seen a : Nat)) ∧ Below w.heap.size w w' := by
  induction d using Nat.strongRecOn with
  | ind d ih =>
  intro a u v w hu
  obtain ⟨W0, hW0⟩ : ∃ W0, W0 = w.alloc (Obj.cells #[.int .i64 a.k, .int .i64 a.t, u, v, .bool a.h] 26) := ⟨_, rfl⟩
  obtain ⟨l0, p0, hb0⟩ := tr_box (a := a) (u := u) (v := v) hW0
  have HU := Lib.hid (hu.below hb0 (Nat.le_refl _))
  obtain ⟨A, c, rfl, hl⟩ := hu.form
  have HW := Lib.hid hW0
  have IH := Lib.hid ih
  have HP := Lib.hid p0
  have HL := Lib.hid l0.lt
  have hse := Tr.seen_at a
  obtain ⟨n, hn⟩ : ∃ n, n = a.ks.length := ⟨_, rfl⟩
  rw [← hn] at hl HU HP HW ⊢
  have HN := Lib.hid hn
  have HSE := Lib.hid hse
  obtain ⟨q0, q1, q2, q3, q4⟩ := p0
  rw [← hn] at q2
  obtain ⟨kd, hkd⟩ : ∃ kd, kd = a.k := ⟨_, rfl⟩
  obtain ⟨tb, htb⟩ : ∃ tb, tb = a.t := ⟨_, rfl⟩
  rw [← hkd] at q0 HW ⊢
  rw [← htb] at q1 HW ⊢
  have HK := Lib.hid (And.intro hkd htb)
  clear hW0 ih hu l0 hn hse hkd htb
  by_cases hk : kd = 0
  · subst hk
    have hres := Lib.hid (show St.ofN [tb] = Tr.seen a by rw [HSE.out, if_pos HK.out.1.symm, HK.out.2])
    have cs := rof_any _ [tb] _ (Sl.new W0 3 [.int .i64 tb]) (by simp)
    rw [hres.out] at cs
    have hb1 := below_join hb0 (below_new W0 (Obj.cells #[.int .i64 tb] 3))
    clear q2 q3 q4
    go_enter Tryz.func16, Tryz.ntmps16
    go_upto_region 1 with (fail)
    rw [← HW.out]
    go_wp2_with fail
    refine cs.mono ?_
    rintro e w1 ⟨rfl, rfl⟩
    clear cs
    go_wp2_with fail
    go_ret
    exact ⟨rfl, hb1⟩
  · have hk2 : (kd == 0) = false := by simpa using hk
    obtain ⟨L, hL⟩ : ∃ L : List Tr, L = if kd = 3 ∨ kd = 4 then a.ks.take 1 else a.ks := ⟨_, rfl⟩
    have HLL := Lib.hid hL
    clear hL
    go_enter Tryz.func16, Tryz.ntmps16
    go_upto_region 1 with (fail)
    rw [← HW.out]
    go_wp2_with fail
    clear q0 q1 q2 q3 q4
    go_loopw [3, 4] (fun s i wr => ∃ (q sv : Nat), q ≤ n ∧ i = .int .i64 q ∧ s = .int .u64 sv ∧ Hid (sv = Tr.seens (L.take q)) ∧ Below W0.heap.size W0 wr) (fun _ i _ => n - (intOf i).toNat)
    case atStart => exact ⟨0, 0, Nat.zero_le _, rfl, rfl, Lib.hid (by rw [List.take_zero, Tr.seens]), Below.refl _ _⟩
    case round =>
      obtain ⟨q, sv, hq, rfl, rfl, hsv, hb⟩ := hrel
      have pr := HP.out.below hb (show w.heap.size < W0.heap.size from HL.out)
      have k2 := pr.c2
      have k0 := pr.c0
      rw [← HK.out.1] at k0
      clear pr
      by_cases hlt : q < n
      · obtain ⟨b, gb⟩ : ∃ b, a.ks[q]? = some b := ⟨a.ks[q]'(by have := HN.out; omega), List.getElem?_eq_getElem _⟩
        by_cases hinc : q = 0 ∨ (kd ≠ 3 ∧ kd ≠ 4)
        · have hu := HU.out
          rw [HN.out] at hu
          obtain ⟨e, bb, oo, ss, xx, yy, he, rfl, _, hx⟩ := hu.at_ gb
          obtain ⟨hcell, hps, hks⟩ := hx wr hb
          have cs := IH.out e he b xx yy wr hks
          have ht : L.take (q + 1) = L.take q ++ [b] := by
            rw [HLL.out]
            split
            · next h34 =>
              obtain rfl : q = 0 := hinc.resolve_right fun h => by rcases h34 with h | h <;> omega
              rw [List.take_take]
              cases hks' : a.ks with
              | nil => rw [hks'] at gb; simp at gb
              | cons z r => rw [hks'] at gb; simp at gb; subst gb; rfl
            · rw [List.take_add_one, gb]; rfl
          have hsl : sv < 18446744073709551616 := by rw [hsv.out]; exact Tr.seens_lt _
          have H2 := Lib.hid (u64_or_nat sv (Tr.seen b) hsl (Tr.seen_lt b))
          have H3 := Lib.hid (show sv ||| Tr.seen b = Tr.seens (L.take (q + 1)) by rw [ht, Tr.seens_snoc, hsv.out])
          obtain ⟨A2, c2, rfl, _⟩ := hks.form
          obtain ⟨D2, hps2⟩ := hps
          obtain ⟨A3, c3, rfl, _⟩ := hps2.form
          obtain ⟨q0, q1, q2, q3, q4⟩ := hcell
          clear gb hx hps2 hks ht hsl hu
          rcases Nat.eq_zero_or_pos q with h0 | h0
          · subst h0
            simp only [Nat.zero_mul, add_zero9] at q0 q1 q2 q3 q4
            clear hinc
            go_wp2_with fail
            refine cs.mono ?_
            rintro e w2 ⟨rfl, hb2⟩
            have hb' := below_join hb hb2
            clear cs q0 q1 q2 q3 q4 k2 k0
            go_wp2_with fail
            go_roundw
            case rel => exact ⟨0 + 1, _, by omega, by go_num, by rw [H2.out], H3, hb'⟩
            case measure => simp [intOf]; omega
          · have h1 : ¬ ((q : Int) = 0) := by omega
            have h3 : kd ≠ 3 := (hinc.resolve_left (by omega)).1
            have h4 : kd ≠ 4 := (hinc.resolve_left (by omega)).2
            have h1' : ((q : Int) == 0) = false := by simpa using h1
            have h3' : (kd != 3) = true := by simpa using h3
            have h4' : (kd != 4) = true := by simpa using h4
            clear h1 h3 h4
            clear hinc
            go_wp2_with fail
            refine cs.mono ?_
            rintro e w2 ⟨rfl, hb2⟩
            have hb' := below_join hb hb2
            clear cs q0 q1 q2 q3 q4 k2 k0
            go_wp2_with fail
            go_roundw
            case rel => exact ⟨q + 1, _, by omega, by go_num, by rw [H2.out], H3, hb'⟩
            case measure => simp [intOf]; omega
        · have h1 : ¬ ((q : Int) = 0) := by omega
          have h34 : kd = 3 ∨ kd = 4 := by omega
          have H3 := Lib.hid (show sv = Tr.seens (L.take (q + 1)) by
            rw [hsv.out, HLL.out, if_pos h34, List.take_take, List.take_take, show min q 1 = 1 by omega, show min (q + 1) 1 = 1 by omega])
          clear gb hinc
          rcases h34 with h3 | h3
          all_goals
            have HK3 := Lib.hid h3
            rw [h3] at k0
            clear h3
            go_wp2_with fail
            go_roundw
            case rel => exact ⟨q + 1, sv, by omega, by go_num, rfl, H3, hb⟩
            case measure => simp [intOf]; omega
      · have he : Hid (sv = Tr.seen a) := Lib.hid (by
          rw [hsv.out, HSE.out, if_neg (by rw [← HK.out.1]; exact hk), HLL.out, ← HK.out.1]
          have hn := HN.out
          by_cases h34 : kd = 3 ∨ kd = 4
          · rw [if_pos h34, if_pos h34, List.take_of_length_le (by rw [List.length_take]; omega), Tr.seens_one]
          · rw [if_neg h34, if_neg h34, List.take_of_length_le (by omega)])
        go_wp2_with fail
        go_ret
        exact ⟨by rw [he.out]; rfl, below_join hb0 hb⟩
end Go.Proofs.YtbddhkgbpjhhaaaGreatDoor
namespace Go.Proofs.YtbddhkgbpjhhaaaGreatDoor
open Go.RowKit Go.Sort
set_option maxHeartbeats 3200000
set_option maxRecDepth 100000 in
theorem r6list_any (d : Nat) (u v : Value) (r s : List Pd) (w : World) (hu : PsAt d w u r) (hv : PsAt d w v s) :
    Calls Tryz.prog 41 #[u, v] w fun e w' => e = .returned (.bool (Pr.sames r s)) ∧ Below w.heap.size w w' := by
  obtain ⟨A, c, rfl, hr⟩ := hu.form
  obtain ⟨A', c', rfl, hs⟩ := hv.form
  have hpu := fun (j : Nat) (x : Pd) (hj : r[j]? = some x) => hu.at_ hj
  have hpv := fun (j : Nat) (x : Pd) (hj : s[j]? = some x) => hv.at_ hj
  have HU := Lib.hid hpu
  have HV := Lib.hid hpv
  obtain ⟨n, hn⟩ : ∃ n, n = r.length := ⟨_, rfl⟩
  obtain ⟨m, hm⟩ : ∃ m, m = s.length := ⟨_, rfl⟩
  rw [← hn] at hr ⊢
  rw [← hm] at hs ⊢
  have HN := Lib.hid (And.intro hn hm)
  clear hpu hpv hu hv hn hm
  by_cases hnm : n = m
  · subst hnm
    have HI := Lib.hid (Pr.sames_iff (l := r) (m := s) (by obtain ⟨h1, h2⟩ := HN.out; omega))
    have hS := Below.refl w.heap.size w
    go_enter Tryz.func41, Tryz.ntmps41
    go_wp2_with (fail)
    go_loopw [5] (fun i wr => ∃ (k : Nat), k ≤ n ∧ i = .int .i64 k ∧ Hid (∀ (j : Nat) (x y : Pd), j < k → r[j]? = some x → s[j]? = some y → Pr.same x y = true) ∧ Below w.heap.size w wr) (fun i _ => n - (intOf i).toNat)
    case atStart => exact ⟨0, Nat.zero_le _, rfl, Lib.hid fun j x y h => by omega, hS⟩
    case round =>
     obtain ⟨k, hk, rfl, hz, hb⟩ := hrel
     by_cases hlt : k < n
     · obtain ⟨x, gx⟩ : ∃ x, r[k]? = some x := ⟨r[k]'(by have := HN.out; omega), List.getElem?_eq_getElem _⟩
       obtain ⟨y, gy⟩ : ∃ y, s[k]? = some y := ⟨s[k]'(by have := HN.out; omega), List.getElem?_eq_getElem _⟩
       obtain ⟨e1, b1, o1, p1, u1, _, rfl, hl1, h1⟩ := HU.out k x gx
       obtain ⟨e2, b2, o2, p2, u2, _, rfl, hl2, h2⟩ := HV.out k y gy
       obtain ⟨hx, kx⟩ := h1 wr hb
       obtain ⟨hy, ky⟩ := h2 wr hb
       have i1 : (0 : Int) ≤ (k : Int) := by omega
       have i2 : (k : Int) < (n : Int) := by omega
       have yx0 := cell_regrown hx.c0
       have yx1 := cell_regrown hx.c1
       have yx2 := cell_regrown hx.c2
       have yx3 := cell_regrown hx.c3
       have yx4 := cell_regrown hx.c4
       have yx5 := cell_regrown hx.c5
       have yx6 := cell_regrown hx.c6
       have yx7 := cell_regrown hx.c7
       have yx8 := cell_regrown hx.c8
       have yx9 := cell_regrown hx.c9
       have yx10 := cell_regrown hx.c10
       have yx11 := cell_regrown hx.c11
       have yx12 := cell_regrown hx.c12
       have yx13 := cell_regrown hx.c13
       have yy0 := cell_regrown hy.c0
       have yy1 := cell_regrown hy.c1
       have yy2 := cell_regrown hy.c2
       have yy3 := cell_regrown hy.c3
       have yy4 := cell_regrown hy.c4
       have yy5 := cell_regrown hy.c5
       have yy6 := cell_regrown hy.c6
       have yy7 := cell_regrown hy.c7
       have yy8 := cell_regrown hy.c8
       have yy9 := cell_regrown hy.c9
       have yy10 := cell_regrown hy.c10
       have yy11 := cell_regrown hy.c11
       have yy12 := cell_regrown hy.c12
       have yy13 := cell_regrown hy.c13
       have cc := in_class (W0 := wr) fun W h => r6same_any (max e1 e2) x.f y.f u1 u2 x.ps y.ps W ((kx.below h (Nat.le_refl _)).mono (Nat.le_max_left _ _)) ((ky.below h (Nat.le_refl _)).mono (Nat.le_max_right _ _))
       have hpx : Pd.mk x.f x.ps = x := by cases x; rfl
       have hpy : Pd.mk y.f y.ps = y := by cases y; rfl
       rw [hpx, hpy] at cc
       obtain ⟨d, hd⟩ : ∃ d : Bool, d = Pr.same x y := ⟨_, rfl⟩
       rw [← hd] at cc
       have HD := Lib.hid hd
       have GX := Lib.hid gx
       have GY := Lib.hid gy
       clear h1 h2 gx gy hd hx hy kx ky hpx hpy
       go_wp2_with (fail)
       refine wp_region_quiet_below (by kernel_rfl) (by kernel_rfl) ?_
       repeat (go_big_quiet_step (with_reducible exact cc _ _))
       refine wpQuiet_nil ?_
       intro _ hw'
       obtain ⟨⟨dq, osq⟩, hw''⟩ := hw'
       subst hw''
       have hb2 := below_join hb (below_regrown wr dq osq)
       clear yx0 yy0 yx1 yy1 yx2 yy2 yx3 yy3 yx4 yy4 yx5 yy5 yx6 yy6 yx7 yy7 yx8 yy8 yx9 yy9 yx10 yy10 yx11 yy11 yx12 yy12 yx13 yy13 i1 i2 hb cc
       generalize grow (redrawn wr dq) osq = w7 at hb2 ⊢
       cases d
       · have hres : Hid (false = Pr.sames r s) := Lib.hid (by
           cases he : Pr.sames r s with
           | false => rfl
           | true => exact HD.out.trans (HI.out.1 he k x y GX.out GY.out))
         go_wp2_with (fail)
         go_ret
         exact ⟨ret_bool hres.out, hb2⟩
       · have hz2 : Hid (∀ (j : Nat) (x y : Pd), j < k + 1 → r[j]? = some x → s[j]? = some y → Pr.same x y = true) := Lib.hid fun j x' y' hj hx hy => by
           rcases Nat.lt_or_eq_of_le (Nat.le_of_lt_succ hj) with g | g
           · exact hz.out j x' y' g hx hy
           · subst g
             rw [GX.out] at hx; rw [GY.out] at hy
             cases hx; cases hy
             exact HD.out.symm
         go_wp2_with (fail)
         go_roundw
         case rel => exact ⟨k + 1, by omega, by go_num, hz2, hb2⟩
         case measure => simp [intOf]; omega
     · have hres : Hid (true = Pr.sames r s) := Lib.hid (HI.out.2 fun j x y hx hy => hz.out j x y (by have := (List.getElem?_eq_some_iff.1 hx).1; have := HN.out; omega) hx hy).symm
       go_wp2_with (fail)
       go_ret
       exact ⟨ret_bool hres.out, hb⟩
  · have hnm2 : ((n : Int) != (m : Int)) = true := by simpa using fun h => hnm (by omega)
    have hnm3 : ¬ ((n : Int) = (m : Int)) := fun h => hnm (by omega)
    have hres : Hid (false = Pr.sames r s) := Lib.hid (Pr.sames_length (by obtain ⟨h1, h2⟩ := HN.out; omega)).symm
    clear hnm
    go_enter Tryz.func41, Tryz.ntmps41
    go_wp2_with (fail)
    go_ret
    exact ⟨ret_bool hres.out, Below.refl _ _⟩
end Go.Proofs.YtbddhkgbpjhhaaaGreatDoor
namespace Go.Proofs.YtbddhkgbpjhhaaaGreatDoor
open Go.RowKit Go.Sort
set_option maxHeartbeats 3200000
theorem tr_boxes {w W0 : World} {T : TypeId} {a b : Tr} {u v u' v' : Value} (h : W0 = (w.alloc (Obj.cells (a.cells u v).toArray T)).alloc (Obj.cells (b.cells u' v').toArray T)) :
    TrCell W0 ⟨w.heap.size, 0, none⟩ a u v ∧ TrCell W0 ⟨w.heap.size + 1, 0, none⟩ b u' v' ∧ Below w.heap.size w W0 ∧ w.heap.size + 1 < W0.heap.size := by
  obtain ⟨l1, l2, hb⟩ := box_two h
  exact ⟨l1.tr, l2.tr, hb, l2.lt⟩
set_option maxRecDepth 100000 in
theorem r10same_any (d : Nat) : ∀ (a b : Tr) (u v u' v' : Value) (w : World), TsAt d w u a.ks → PsSome w v a.cs → TsAt d w u' b.ks → PsSome w v' b.cs →
    Calls Tryz.prog 14 #[.agg #[.int .i64 a.k, .int .i64 a.t, u, v, .bool a.h], .agg #[.int .i64 b.k, .int .i64 b.t, u', v', .bool b.h]] w fun e w' => e = .returned (.bool (Tr.same a b)) ∧ Below w.heap.size w w' := by
  induction d using Nat.strongRecOn with
  | ind d ih =>
  intro a b u v u' v' w hu hv hu' hv'
  obtain ⟨W0, hW0⟩ : ∃ W0, W0 = (w.alloc (Obj.cells #[.int .i64 a.k, .int .i64 a.t, u, v, .bool a.h] 26)).alloc (Obj.cells #[.int .i64 b.k, .int .i64 b.t, u', v', .bool b.h] 26) := ⟨_, rfl⟩
  obtain ⟨p0, p1, hb0, hlt0⟩ := tr_boxes (a := a) (b := b) (u := u) (v := v) (u' := u') (v' := v') hW0
  have HU := Lib.hid (hu.below hb0 (Nat.le_refl _))
  have HU' := Lib.hid (hu'.below hb0 (Nat.le_refl _))
  obtain ⟨D, hps⟩ := hv.below hb0 (Nat.le_refl _)
  obtain ⟨D', hps'⟩ := hv'.below hb0 (Nat.le_refl _)
  obtain ⟨A, c, rfl, hl⟩ := hu.form
  obtain ⟨B, e, rfl, hm⟩ := hu'.form
  obtain ⟨A2, c2, rfl, _⟩ := hps.form
  obtain ⟨B2, e2, rfl, _⟩ := hps'.form
  have cl := r6list_any (max D D') _ _ a.cs b.cs W0 (hps.mono (Nat.le_max_left _ _)) (hps'.mono (Nat.le_max_right _ _))
  have hsame := Tr.same_at a b
  obtain ⟨n, hn⟩ : ∃ n, n = a.ks.length := ⟨_, rfl⟩
  obtain ⟨m, hmm⟩ : ∃ m, m = b.ks.length := ⟨_, rfl⟩
  rw [← hn] at hl HU p0 hW0 ⊢
  rw [← hmm] at hm HU' p1 hW0 ⊢
  have HN := Lib.hid (And.intro hn hmm)
  have HS := Lib.hid hsame
  have HP := Lib.hid p0
  have HQ := Lib.hid p1
  have HL := Lib.hid hlt0
  have IH := Lib.hid ih
  obtain ⟨x0, x1, x2, x3, x4⟩ := p0
  obtain ⟨y0, y1, y2, y3, y4⟩ := p1
  generalize Pr.sames a.cs b.cs = X at cl hsame HS
  obtain ⟨ka, hka⟩ : ∃ k, k = a.k := ⟨_, rfl⟩
  obtain ⟨kb, hkb⟩ : ∃ k, k = b.k := ⟨_, rfl⟩
  obtain ⟨ta, hta⟩ : ∃ t, t = a.t := ⟨_, rfl⟩
  obtain ⟨tb, htb⟩ : ∃ t, t = b.t := ⟨_, rfl⟩
  obtain ⟨ha, hha⟩ : ∃ h, h = a.h := ⟨_, rfl⟩
  obtain ⟨hb, hhb⟩ : ∃ h, h = b.h := ⟨_, rfl⟩
  rw [← hka, ← hkb, ← hta, ← htb, ← hha, ← hhb] at hsame HS
  rw [← hka] at x0
  rw [← hta] at x1
  rw [← hha] at x4
  rw [← hkb] at y0
  rw [← htb] at y1
  rw [← hhb] at y4
  rw [← hka, ← hkb, ← hta, ← htb, ← hha, ← hhb] at hW0 ⊢
  have HW := Lib.hid hW0
  clear hW0 ih hu hv hu' hv' hps hps' hn hmm hka hkb hta htb hha hhb hlt0
  by_cases e1 : ka = kb
  · subst e1
    by_cases e2 : ta = tb
    · subst e2
      by_cases e3 : ha = hb
      · subst e3
        by_cases e4 : n = m
        · subst e4
          have hsm : Tr.same a b = (X && Tr.sames a.ks b.ks) := by rw [hsame]; simp
          have HSM := Lib.hid hsm
          clear hsame hsm HS
          go_enter Tryz.func14, Tryz.ntmps14
          go_upto_region 1 with (fail)
          rw [← HW.out]
          go_wp2_with fail
          refine cl.mono ?_
          rintro E w1 ⟨rfl, hb1⟩
          clear cl x0 x1 x2 x3 x4 y0 y1 y2 y3 y4
          cases X
          · have hres := Lib.hid (show false = Tr.same a b by rw [HSM.out]; rfl)
            go_wp2_with fail
            go_ret
            exact ⟨ret_bool hres.out, below_join hb0 hb1⟩
          · have HI := Lib.hid (Tr.sames_iff (l := a.ks) (m := b.ks) (by obtain ⟨h1, h2⟩ := HN.out; omega))
            have hS := Below.refl w1.heap.size w1
            go_wp2_with fail
            go_loopw [5] (fun i wr => ∃ (k : Nat), k ≤ n ∧ i = .int .i64 k ∧ Hid (∀ (j : Nat) (x y : Tr), j < k → a.ks[j]? = some x → b.ks[j]? = some y → Tr.same x y = true) ∧ Below W0.heap.size W0 wr) (fun i _ => n - (intOf i).toNat)
            case atStart => exact ⟨0, Nat.zero_le _, rfl, Lib.hid fun j x y h => by omega, hb1⟩
            case round =>
             obtain ⟨k, hk, rfl, hz, hb⟩ := hrel
             have pr := HP.out.below hb (show w.heap.size < W0.heap.size by have := HL.out; omega)
             have qr := HQ.out.below hb (show w.heap.size + 1 < W0.heap.size from HL.out)
             have z2 := pr.c2
             by_cases hlt : k < n
             · as_aux_lemma =>
               obtain ⟨x, gx⟩ : ∃ x, a.ks[k]? = some x := ⟨a.ks[k]'(by have := HN.out; omega), List.getElem?_eq_getElem _⟩
               obtain ⟨y, gy⟩ : ∃ y, b.ks[k]? = some y := ⟨b.ks[k]'(by have := HN.out; omega), List.getElem?_eq_getElem _⟩
               have hu := HU.out
               have hu' := HU'.out
               rw [HN.out.1] at hu
               rw [HN.out.2] at hu'
               obtain ⟨f1, b1, o1, p1, u1, v1, hf1, rfl, hl1, h1⟩ := hu.at_ gx
               obtain ⟨f2, b2, o2, p2, u2, v2, hf2, rfl, hl2, h2⟩ := hu'.at_ gy
               obtain ⟨hx, kx1, kx2⟩ := h1 wr hb
               obtain ⟨hy, ky1, ky2⟩ := h2 wr hb
               have i1 : (0 : Int) ≤ (k : Int) := by omega
               have i2 : (k : Int) < (n : Int) := by omega
               have yx0 := cell_regrown hx.c0
               have yy0 := cell_regrown hy.c0
               have yx1 := cell_regrown hx.c1
               have yy1 := cell_regrown hy.c1
               have yx2 := cell_regrown hx.c2
               have yy2 := cell_regrown hy.c2
               have yx3 := cell_regrown hx.c3
               have yy3 := cell_regrown hy.c3
               have yx4 := cell_regrown hx.c4
               have yy4 := cell_regrown hy.c4
               have t1 := cell_regrown pr.c2
               have t2 := cell_regrown qr.c2
               have cc := in_class (W0 := wr) fun W h => IH.out (max f1 f2) (Nat.max_lt.2 ⟨hf1, hf2⟩) x y u1 v1 u2 v2 W ((kx2.below h (Nat.le_refl _)).mono (Nat.le_max_left _ _)) (kx1.below h (Nat.le_refl _)) ((ky2.below h (Nat.le_refl _)).mono (Nat.le_max_right _ _)) (ky1.below h (Nat.le_refl _))
               obtain ⟨d, hd⟩ : ∃ d : Bool, d = Tr.same x y := ⟨_, rfl⟩
               rw [← hd] at cc
               have HD := Lib.hid hd
               have GX := Lib.hid gx
               have GY := Lib.hid gy
               clear h1 h2 gx gy hd hx hy kx1 kx2 ky1 ky2 hu hu' pr qr
               go_wp2_with (fail)
               refine wp_region_quiet_below (by kernel_rfl) (by kernel_rfl) ?_
               repeat (go_big_quiet_step (with_reducible exact cc _ _))
               refine wpQuiet_nil ?_
               intro _ hw'
               obtain ⟨⟨dq, osq⟩, hw''⟩ := hw'
               subst hw''
               have hb2 := below_join hb (below_regrown wr dq osq)
               clear yx0 yy0 yx1 yy1 yx2 yy2 yx3 yy3 yx4 yy4 t1 t2 i1 i2 hb cc z2
               generalize grow (redrawn wr dq) osq = w7 at hb2 ⊢
               cases d
               · have hres : Hid (false = Tr.same a b) := Lib.hid (by
                   rw [HSM.out, Bool.true_and]
                   cases he : Tr.sames a.ks b.ks with
                   | false => rfl
                   | true => exact HD.out.trans (HI.out.1 he k x y GX.out GY.out))
                 go_wp2_with (fail)
                 go_ret
                 exact ⟨ret_bool hres.out, below_join hb0 hb2⟩
               · have hz2 : Hid (∀ (j : Nat) (x y : Tr), j < k + 1 → a.ks[j]? = some x → b.ks[j]? = some y → Tr.same x y = true) := Lib.hid fun j x' y' hj hx hy => by
                   rcases Nat.lt_or_eq_of_le (Nat.le_of_lt_succ hj) with g | g
                   · exact hz.out j x' y' g hx hy
                   · subst g
                     rw [GX.out] at hx; rw [GY.out] at hy
                     cases hx; cases hy
                     exact HD.out.symm
                 go_wp2_with (fail)
                 go_roundw
                 case rel => exact ⟨k + 1, by omega, by go_num, hz2, hb2⟩
                 case measure => simp [intOf]; omega
             · have hres : Hid (true = Tr.same a b) := Lib.hid (by
                 rw [HSM.out, Bool.true_and]
                 exact (HI.out.2 fun j x y hx hy => hz.out j x y (by have := (List.getElem?_eq_some_iff.1 hx).1; have := HN.out; omega) hx hy).symm)
               clear pr qr
               go_wp2_with (fail)
               go_ret
               exact ⟨ret_bool hres.out, below_join hb0 hb⟩
        · have hres := Lib.hid (show false = Tr.same a b by
            rw [hsame, Tr.sames_length (by obtain ⟨h1, h2⟩ := HN.out; omega)]; simp)
          have hne : ((n : Int) != (m : Int)) = true := by simpa using fun h => e4 (by omega)
          have hne2 : ¬ ((n : Int) = (m : Int)) := fun h => e4 (by omega)
          clear hsame cl e4
          go_enter Tryz.func14, Tryz.ntmps14
          go_upto_region 1 with (fail)
          rw [← HW.out]
          go_wp2_with fail
          go_ret
          exact ⟨ret_bool hres.out, hb0⟩
      · have hres := Lib.hid (show false = Tr.same a b by
          rw [hsame]
          have : (ha == hb) = false := by simpa using e3
          rw [this]; simp)
        have hne : (ha != hb) = true := by simpa using e3
        clear hsame cl
        go_enter Tryz.func14, Tryz.ntmps14
        go_upto_region 1 with (fail)
        rw [← HW.out]
        go_wp2_with fail
        go_ret
        exact ⟨ret_bool hres.out, hb0⟩
    · have hres := Lib.hid (show false = Tr.same a b by
        rw [hsame]
        have : (ta == tb) = false := by simpa using e2
        rw [this]; simp)
      have hne : (ta != tb) = true := by simpa using e2
      clear hsame cl
      go_enter Tryz.func14, Tryz.ntmps14
      go_upto_region 1 with (fail)
      rw [← HW.out]
      go_wp2_with fail
      go_ret
      exact ⟨ret_bool hres.out, hb0⟩
  · have hres := Lib.hid (show false = Tr.same a b by
      rw [hsame]
      have : (ka == kb) = false := by simpa using e1
      rw [this]; simp)
    have hne : (ka != kb) = true := by simpa using e1
    clear hsame cl
    go_enter Tryz.func14, Tryz.ntmps14
    go_upto_region 1 with (fail)
    rw [← HW.out]
    go_wp2_with fail
    go_ret
    exact ⟨ret_bool hres.out, hb0⟩
end Go.Proofs.YtbddhkgbpjhhaaaGreatDoor
namespace Go.Proofs.YtbddhkgbpjhhaaaGreatDoor
open Go.RowKit Go.Sort
set_option maxHeartbeats 1600000
abbrev TrV := Tr × Value × Value
def trCells (l : List TrV) : List Value := l.flatMap fun x => x.1.cells x.2.1 x.2.2
theorem trCells_app (l m : List TrV) : trCells (l ++ m) = trCells l ++ trCells m := by simp [trCells]
def TrHang (w : World) (x : TrV) : Prop := (∃ d, TsAt d w x.2.1 x.1.ks) ∧ PsSome w x.2.2 x.1.cs
theorem trCells_one {w : World} {l : List TrV} (h : ∀ x ∈ l, TrHang w x) : ∀ u ∈ trCells l, u.oneCell' = true := by
  intro u hu
  simp only [trCells, List.mem_flatMap] at hu
  obtain ⟨x, hx, hu⟩ := hu
  obtain ⟨⟨d, h1⟩, D, h2⟩ := h x hx
  obtain ⟨A, c, h1, _⟩ := h1.form
  obtain ⟨B, c', h2, _⟩ := h2.form
  rw [h1, h2] at hu
  simp [Tr.cells] at hu
  rcases hu with rfl | rfl | rfl | rfl | rfl <;> rfl
theorem Tr.alls_take {l : List Tr} {q : Nat} {b : Tr} (h : l[q]? = some b) : Tr.alls (l.take (q + 1)) = Tr.alls (l.take q) ++ Tr.all b := by
  rw [List.take_add_one, h]; exact Tr.alls_snoc _ _
theorem Tr.alls_len (l : List Tr) : (Tr.alls l).length ≤ Tr.sizes l := by
  induction l with
  | nil => rw [Tr.alls, Tr.sizes]; simp
  | cons b r ih => rw [Tr.alls, Tr.sizes, List.length_append]; have := Tr.all_length_le b; omega
def OwnTrs (w0 w : World) (l : List Tr) (e : Ending) (w' : World) : Prop :=
  ∃ v L, e = .returned v ∧ L.map (·.1) = l ∧ (∀ x ∈ L, TrHang w0 x) ∧ w'.ownsRow w.heap.size 26 5 v L.length (trCells L) ∧ Below w.heap.size w w'
theorem Tryz.infoTree : (Tryz.prog.info? 26).map (fun i => (i.zero, i.size, i.bytes)) = some (some (.agg #[.int .i64 0, .int .i64 0, .slice none 0 0, .slice none 0 0, .bool false]), 5, 72) := by kernel_rfl
set_option maxRecDepth 100000 in
theorem r10all_any (w0 : World) (d : Nat) : ∀ (a : Tr) (u v : Value) (w : World), Below w0.heap.size w0 w → TsAt d w0 u a.ks → PsSome w0 v a.cs → Tr.size a ≤ 1000 →
    Calls Tryz.prog 42 #[.agg #[.int .i64 a.k, .int .i64 a.t, u, v, .bool a.h]] w (OwnTrs w0 w (Tr.all a)) := by
  induction d using Nat.strongRecOn with
  | ind d ih =>
  intro a u v w hw hu hv hsz
  obtain ⟨i0, hi, hz0, hz1, hz2⟩ := info_parts Tryz.infoTree
  obtain ⟨W0, hW0⟩ : ∃ W0, W0 = w.alloc (Obj.cells #[.int .i64 a.k, .int .i64 a.t, u, v, .bool a.h] 26) := ⟨_, rfl⟩
  obtain ⟨l0, p0, hb0⟩ := tr_box (a := a) (u := u) (v := v) hW0
  have HU := Lib.hid hu
  have HHG := Lib.hid (show TrHang w0 (a, u, v) from ⟨⟨d, hu⟩, hv⟩)
  obtain ⟨A, c, rfl, hl⟩ := hu.form
  obtain ⟨A', c', rfl, hl'⟩ := hv.elim fun D h => h.form
  have hn1 := Tr.sizes_length a.ks
  have hsa := Tr.size_at a
  have hn2 : a.ks.length ≤ 1000 := by omega
  have HS := Lib.hid (show Tr.sizes a.ks ≤ 999 by omega)
  have HW := Lib.hid hW0
  have IH := Lib.hid ih
  have HP := Lib.hid p0
  have HL := Lib.hid l0.lt
  have HWW := Lib.hid hw
  have HALL := Lib.hid (Tr.all_at a)
  obtain ⟨n, hn⟩ : ∃ n, n = a.ks.length := ⟨_, rfl⟩
  rw [← hn] at hl HU HHG HP HW hn2 ⊢
  have HN := Lib.hid hn
  have how := own_empty W0 26 5 W0.heap.size (Nat.le_refl _) W0.heap.size rfl
  have hb : Below W0.heap.size W0 (W0.alloc (Obj.cells #[] 26)) := below_new _ _
  have HB0 := Lib.hid hb0
  have HSZ := Lib.hid (show W0.heap.size = w.heap.size + 1 by rw [hW0, World.size_alloc])
  have HHO := Lib.hid (show (W0.alloc (Obj.cells #[] 26)).ownsRow W0.heap.size 26 5 (.slice (some ⟨W0.heap.size, 0, none⟩) 0 0) 0 (trCells []) from how)
  clear hW0 ih hu hv l0 p0 hn hsz hsa hn1 hb0 how hw hl'
  go_enter Tryz.func42, Tryz.ntmps42
  go_upto_region 1 with (fail)
  rw [← HW.out]
  go_wp2_with fail
  go_loopw [3, 4] (fun s i wr => ∃ (q : Nat) (L : List TrV), q ≤ n ∧ i = .int .i64 q ∧ L.map (·.1) = Tr.alls (a.ks.take q) ∧ Hid (∀ x ∈ L, TrHang w0 x) ∧ wr.ownsRow W0.heap.size 26 5 s L.length (trCells L) ∧ Below W0.heap.size W0 wr) (fun _ i _ => n - (intOf i).toNat)
  case atStart => exact ⟨0, [], Nat.zero_le _, rfl, by rw [List.take_zero, Tr.alls]; rfl, Lib.hid (fun x hx => by simp at hx), HHO.out, hb⟩
  case round =>
    obtain ⟨q, L, hq, rfl, hLm, hLh, hown, hb⟩ := hrel
    have hLl : L.length ≤ 999 := by
      have h1 := congrArg List.length hLm
      rw [List.length_map] at h1
      have h2 := Tr.alls_len (a.ks.take q)
      have h3 := Tr.sizes_take q a.ks
      have h4 := HS.out
      omega
    have pr := HP.out.below hb (show w.heap.size < W0.heap.size from HL.out)
    have hbw := Lib.hid (below_join HB0.out hb)
    by_cases hlt : q < n
    · obtain ⟨b, gb⟩ : ∃ b, a.ks[q]? = some b := ⟨a.ks[q]'(by have := HN.out; omega), List.getElem?_eq_getElem _⟩
      have hu := HU.out
      rw [HN.out] at hu
      obtain ⟨e, bb, oo, ss, xx, yy, he, rfl, _, hx⟩ := hu.at_ gb
      have hwr : Below w0.heap.size w0 wr := below_join HWW.out hbw.out
      obtain ⟨hcell, _, _⟩ := hx wr hwr
      obtain ⟨_, hps, hks⟩ := hx w0 (Below.refl _ _)
      have hbs := Tr.sizes_at gb
      have cs := IH.out e he b xx yy wr hwr hks hps (by have := HS.out; omega)
      have HT := Lib.hid (Tr.alls_take gb)
      have k2 := pr.c2
      obtain ⟨A2, c2, rfl, _⟩ := hks.form
      obtain ⟨D2, hps2⟩ := hps
      obtain ⟨A3, c3, rfl, _⟩ := hps2.form
      have hal := Tr.all_length_le b
      have hbs' : Tr.size b ≤ 999 := by have := HS.out; omega
      obtain ⟨q0, q1, q2, q3, q4⟩ := hcell
      clear gb hx hps2 hks hu hwr pr hbs
      go_wp2_with fail
      refine cs.mono ?_
      rintro e w2 ⟨v2, L2, rfl, hm2, hh2, hown2, hb2⟩
      have hL2 : L2.length ≤ 999 := by
        have h1 := congrArg List.length hm2
        rw [List.length_map] at h1
        omega
      have hb' := below_join hb hb2
      have hown3 := own_kept hown hb2
      have hcame := CameN.own hown2
      have HH2 := Lib.hid hh2
      have HM2 := Lib.hid hm2
      have HLM := Lib.hid hLm
      clear cs q0 q1 q2 q3 q4 k2 hb2 hb hown hown2 hh2 hm2 hLm hal
      go_wp2_with (first
        | (at_builtin; refine wpList_append_n _ rfl _ _ 23 rfl W0.heap.size 26 i0 _ 5 72 Tryz.underlying23 hi hz0 hz1 hz2 rfl (by decide) _ _ _ rfl hown3 _ _ _ rfl hcame (trCells_one HH2.out) ?l1 ?l2 ?l3 ?_))
      case l1 => unfold maxLen; omega
      case l2 => omega
      case l3 => exact hb'.size
      intro v1 w3 hown4 hgrow
      have hb3 : Below W0.heap.size W0 w3 := hb'.grown hgrow hb'.size (fun k hk => (hown3.lt k hk).1)
      have hown5 : w3.ownsRow W0.heap.size 26 5 v1 (L ++ L2).length (trCells (L ++ L2)) := by rw [List.length_append, trCells_app]; exact hown4
      clear hown4 hgrow hown3 hcame hb'
      go_wp2_with fail
      go_roundw
      case rel => exact ⟨q + 1, L ++ L2, by omega, by go_num, by rw [List.map_append, HLM.out, HM2.out, HT.out], Lib.hid (fun x hx => (List.mem_append.1 hx).elim (hLh.out x) (HH2.out x)), hown5, hb3⟩
      case measure => simp [intOf]; omega
    · have hm : (L ++ [((a, Value.slice A n c, Value.slice A' a.cs.length c') : TrV)]).map (·.1) = Tr.all a := by
        rw [List.map_append, hLm, List.take_of_length_le (by have := HN.out; omega), HALL.out]; rfl
      have HM := Lib.hid hm
      have hh : ∀ x ∈ L ++ [((a, Value.slice A n c, Value.slice A' a.cs.length c') : TrV)], TrHang w0 x := fun x hx => (List.mem_append.1 hx).elim (hLh.out x) fun h => by rw [List.mem_singleton.1 h]; exact HHG.out
      have HH := Lib.hid hh
      have hcm := Lib.hid (show CameN (wr.alloc (Obj.cells #[.int .i64 a.k, .int .i64 a.t, .slice A n c, .slice A' a.cs.length c', .bool a.h] 26)) 5 (.slice (some ⟨wr.heap.size, 0, none⟩) 1 1) 1 (trCells [((a, Value.slice A n c, Value.slice A' a.cs.length c') : TrV)]) from CameN.new wr 26 5 1 _ _ rfl rfl)
      have hone := Lib.hid (trCells_one (l := [((a, Value.slice A n c, Value.slice A' a.cs.length c') : TrV)]) (w := w0) fun x hx => by rw [List.mem_singleton.1 hx]; exact HHG.out)
      have h63 := Lib.hid (show L.length + 1 ≤ maxLen by unfold maxLen; omega)
      have hby := Lib.hid (show (L.length + 1) * 72 ≤ 140737488355328 by omega)
      have hbs := Lib.hid (show W0.heap.size ≤ (wr.alloc (Obj.cells #[.int .i64 a.k, .int .i64 a.t, .slice A n c, .slice A' a.cs.length c', .bool a.h] 26)).heap.size by have := hb.size; rw [World.size_alloc]; omega)
      have hoa := Lib.hid (hown.alloc (Obj.cells #[.int .i64 a.k, .int .i64 a.t, .slice A n c, .slice A' a.cs.length c', .bool a.h] 26))
      obtain ⟨q0, q1, q2, q3, q4⟩ := pr
      clear hm hh hLm
      go_wp2_with (first
        | (at_builtin; refine wpList_append_n _ rfl _ _ 23 rfl W0.heap.size 26 i0 _ 5 72 Tryz.underlying23 hi hz0 hz1 hz2 rfl (by decide) _ L.length _ rfl hoa.out _ 1 (trCells [((a, Value.slice A n c, Value.slice A' a.cs.length c') : TrV)]) rfl hcm.out hone.out h63.out hby.out hbs.out ?_))
      intro v1 w1 hown1 hgrow
      have hb1 : Below W0.heap.size W0 w1 := (hb.alloc hb.size _).grown hgrow hbs.out (fun k hk => (hown.lt k hk).1)
      have HO := Lib.hid (show w1.ownsRow W0.heap.size 26 5 v1 (L ++ [((a, Value.slice A n c, Value.slice A' a.cs.length c') : TrV)]).length (trCells (L ++ [((a, Value.slice A n c, Value.slice A' a.cs.length c') : TrV)])) by rw [List.length_append, trCells_app]; exact hown1)
      clear hown1 hgrow q0 q1 q2 q3 q4 hown
      go_wp2_with fail
      go_ret
      exact ⟨_, _, rfl, HM.out, HH.out, HO.out.mono HB0.out.size, below_join HB0.out hb1⟩
end Go.Proofs.YtbddhkgbpjhhaaaGreatDoor
namespace Go.Proofs.YtbddhkgbpjhhaaaGreatDoor
open Go.RowKit Go.Sort
set_option maxHeartbeats 1600000
theorem trCells_get {L : List TrV} {j i : Nat} {x : TrV} (h : L[j]? = some x) (hi : i < 5) : (trCells L)[j * 5 + i]? = (x.1.cells x.2.1 x.2.2)[i]? := by
  induction L generalizing j with
  | nil => simp at h
  | cons y r ih =>
    have e : trCells (y :: r) = y.1.cells y.2.1 y.2.2 ++ trCells r := by simp [trCells]
    have e5 : (y.1.cells y.2.1 y.2.2).length = 5 := rfl
    rw [e]
    cases j with
    | zero =>
      simp at h
      subst h
      rw [List.getElem?_append_left (by omega), Nat.zero_mul, Nat.zero_add]
    | succ j =>
      rw [List.getElem?_append_right (by omega), e5, show (j + 1) * 5 + i - 5 = j * 5 + i by omega]
      exact ih (by simpa using h)
theorem add_from5 (g j : Nat) : (⟨g, 0, none⟩ : Addr).add j = ⟨g, j, none⟩ := by
  unfold Addr.add
  split
  · next h => subst h; rfl
  · simp
theorem own_tr {w : World} {base : Nat} {T : TypeId} {v : Value} {L : List TrV} (h : w.ownsRow base T 5 v L.length (trCells L)) :
    ∃ A c, v = .slice A L.length c ∧ ∀ (j : Nat) (x : TrV), L[j]? = some x → ∃ g, A = some ⟨g, 0, none⟩ ∧ base ≤ g ∧ g < w.heap.size ∧ TrCell w ((⟨g, 0, none⟩ : Addr).add (j * 5)) x.1 x.2.1 x.2.2 := by
  rcases h.2 with ⟨hv, hn⟩ | ⟨g, cap, cur, hv, _⟩
  · exact ⟨none, 0, by rw [hn]; exact hv, fun j x hx => by rw [List.eq_nil_of_length_eq_zero hn] at hx; simp at hx⟩
  · subst hv
    refine ⟨_, cap, rfl, fun j x hx => ⟨g, rfl, (h.lt g rfl).1, (h.lt g rfl).2, ?_⟩⟩
    have k : ∀ i u, i < 5 → (x.1.cells x.2.1 x.2.2)[i]? = some u → w.cell? ⟨g, j * 5 + i, none⟩ = some u := fun i u hi hu => by
      have := h.cells (g := g) rfl (j * 5 + i) u (by rw [trCells_get hx hi, hu])
      rwa [add_from5] at this
    rw [add_from5]
    exact ⟨k 0 _ (by omega) rfl, k 1 _ (by omega) rfl, k 2 _ (by omega) rfl, k 3 _ (by omega) rfl, k 4 _ (by omega) rfl⟩
theorem own_types {w : World} {b b' n n' s s' : Nat} {e e' : TypeId} {v v' : Value} {xs xs' : List Value} (h : w.ownsRow b e s v n xs) (h' : w.ownsRow b' e' s' v' n' xs') (he : e ≠ e') : v.ownBlock = none ∨ v.ownBlock ≠ v'.ownBlock := by
  rcases h.2 with ⟨rfl, _⟩ | ⟨g, cap, cur, rfl, _, hg, _⟩
  · exact .inl rfl
  · refine .inr fun hh => ?_
    rcases h'.2 with ⟨rfl, _⟩ | ⟨g', cap', cur', rfl, _, hg', _⟩
    · cases hh
    · have h4 := Option.some.inj hh
      simp at h4
      subst h4
      rw [hg] at hg'
      have h5 := Option.some.inj hg'
      injection h5 with _ h6 _
      exact he h6
def leafTs (l : List Tr) : List Int := (l.filter fun x => x.k == 0).map Tr.t
theorem leafTs_take {l : List Tr} {q : Nat} {b : Tr} (h : l[q]? = some b) : leafTs (l.take (q + 1)) = leafTs (l.take q) ++ (if b.k = 0 then [b.t] else []) := by
  rw [List.take_add_one, h]
  by_cases hk : b.k = 0 <;> simp [leafTs, hk]
theorem leafTs_len (l : List Tr) : (leafTs l).length ≤ l.length := by
  unfold leafTs
  rw [List.length_map]
  exact List.length_filter_le _ _
set_option maxRecDepth 100000 in
theorem r10tables_any (d : Nat) (a : Tr) (u v : Value) (w : World) (hu : TsAt d w u a.ks) (hv : PsSome w v a.cs) (hsz : Tr.size a ≤ 1000) :
    Calls Tryz.prog 15 #[.agg #[.int .i64 a.k, .int .i64 a.t, u, v, .bool a.h]] w
      fun e w' => e = .returned (.int .u64 (Tr.tables a : Nat)) ∧ Below w.heap.size w w' := by
  obtain ⟨i0, hi, hz0, hz1, hz2⟩ := info_parts Tryz.infoInt
  obtain ⟨W0, hW0⟩ : ∃ W0, W0 = w.alloc (Obj.cells #[.int .i64 a.k, .int .i64 a.t, u, v, .bool a.h] 26) := ⟨_, rfl⟩
  obtain ⟨l0, p0, hb0⟩ := tr_box (a := a) (u := u) (v := v) hW0
  obtain ⟨A, c, rfl, hl⟩ := hu.form
  obtain ⟨A', c', rfl, hl'⟩ := hv.elim fun D h => h.form
  obtain ⟨W1, hW1⟩ : ∃ W1, W1 = W0.alloc (Obj.cells #[] 3) := ⟨_, rfl⟩
  have hb1 : Below W0.heap.size W0 W1 := by rw [hW1]; exact below_new _ _
  have hb01 := below_join hb0 hb1
  have how : W1.ownsRow W0.heap.size 3 1 (.slice (some ⟨W0.heap.size, 0, none⟩) 0 0) 0 [] := by rw [hW1]; exact own_empty W0 3 1 W0.heap.size (Nat.le_refl _) W0.heap.size rfl
  have cs := r10all_any W1 d a _ _ W1 (Below.refl _ _) (hu.below hb01 (Nat.le_refl _)) (hv.below hb01 (Nat.le_refl _)) hsz
  have hal := Tr.all_length_le a
  have p1 := p0.below hb1 l0.lt
  obtain ⟨q0, q1, q2, q3, q4⟩ := p1
  have HT := Lib.hid (show Tr.tables a = St.ofN (leafTs (Tr.all a)) from rfl)
  have HW := Lib.hid hW0
  have HW1 := Lib.hid hW1
  have HB0 := Lib.hid hb0
  clear hW0 hW1 hu hv l0 p0 hb0 hb01
  go_enter Tryz.func15, Tryz.ntmps15
  go_upto_region 1 with (fail)
  rw [← HW.out]
  go_upto_region 2 with (fail)
  rw [← HW1.out]
  go_wp2_with fail
  refine cs.mono ?_
  rintro e w2 ⟨v2, L, rfl, hm, _, hown2, hb2⟩
  have hownl := own_kept how hb2
  have hb12 := below_join hb1 hb2
  obtain ⟨n, hn⟩ : ∃ n, n = L.length := ⟨_, rfl⟩
  have hnl : n ≤ 1000 := by
    have h1 := congrArg List.length hm
    rw [List.length_map] at h1
    omega
  obtain ⟨B, c2, rfl, _⟩ := own_tr hown2
  rw [← hn] at hown2 ⊢
  have HN := Lib.hid hn
  have HM := Lib.hid hm
  have HO := Lib.hid hown2
  have HOL := Lib.hid hownl
  clear cs q0 q1 q2 q3 q4 hn hm hown2 hb2 hal how hownl
  go_wp2_with fail
  go_loopw [3, 5] (fun s i wr => ∃ q : Nat, q ≤ n ∧ i = .int .i64 q ∧ wr.ownsRow W0.heap.size 3 1 s (leafTs ((Tr.all a).take q)).length ((leafTs ((Tr.all a).take q)).map (Value.int .i64)) ∧ Hid (wr.ownsRow W1.heap.size 26 5 (.slice B n c2) n (trCells L)) ∧ Below W0.heap.size W0 wr) (fun _ i _ => n - (intOf i).toNat)
  case atStart => exact ⟨0, Nat.zero_le _, rfl, HOL.out, HO, hb12⟩
  case round =>
    obtain ⟨q, hq, rfl, hown, hrow, hb⟩ := hrel
    by_cases hlt : q < n
    · obtain ⟨x, gx⟩ : ∃ x, L[q]? = some x := ⟨L[q]'(by have := HN.out; omega), List.getElem?_eq_getElem _⟩
      have gb : (Tr.all a)[q]? = some x.1 := by rw [← HM.out, List.getElem?_map, gx]; rfl
      have HT2 := Lib.hid (leafTs_take gb)
      have hrow' := hrow.out
      rw [HN.out] at hrow'
      obtain ⟨A1, c1, hv1, hx⟩ := own_tr hrow'
      cases hv1
      obtain ⟨g, rfl, hg1, hg2, q0, q1, _, _, _⟩ := hx q x gx
      have hlen : (leafTs ((Tr.all a).take q)).length ≤ 1000 := by
        have h1 := leafTs_len ((Tr.all a).take q)
        rw [List.length_take] at h1
        omega
      rw [add_from5] at q0 q1
      dsimp only at q0 q1
      clear hrow' hx gx gb
      by_cases hk : x.1.k = 0
      · have HT3 := Lib.hid (show leafTs ((Tr.all a).take (q + 1)) = leafTs ((Tr.all a).take q) ++ [x.1.t] by rw [HT2.out, if_pos hk])
        rw [hk] at q0
        clear hk HT2
        go_wp2_with (first
          | (at_builtin; refine wpList_append_n _ rfl _ _ 22 rfl W0.heap.size 3 i0 (.int .i64 0) 1 8 Tryz.underlying22 hi hz0 hz1 hz2 rfl (by decide) _ _ _ rfl (hown.alloc _) _ 1 [.int .i64 x.1.t] rfl (CameN.new wr 3 1 1 [.int .i64 x.1.t] _ rfl rfl) ?l0 ?l1 ?l2 ?l3 ?_))
        case l0 => simp [Value.oneCell']
        case l1 => unfold maxLen; omega
        case l2 => omega
        case l3 => have := hb.size; simp; omega
        intro v1 w3 hown4 hgrow
        have hb3 : Below W0.heap.size W0 w3 := (hb.alloc hb.size _).grown hgrow (by have := hb.size; simp; omega) (fun k hk => (hown.lt k hk).1)
        have hrow3 := Lib.hid ((hrow.out.alloc (Obj.cells #[.int .i64 x.1.t] 3)).kept hgrow (own_types (hrow.out.alloc (Obj.cells #[.int .i64 x.1.t] 3)) (hown.alloc (Obj.cells #[.int .i64 x.1.t] 3)) (by decide)))
        have hown5 : w3.ownsRow W0.heap.size 3 1 v1 (leafTs ((Tr.all a).take (q + 1))).length ((leafTs ((Tr.all a).take (q + 1))).map (Value.int .i64)) := by rw [HT3.out]; simpa using hown4
        clear hown4 hgrow hown q0 q1
        go_wp2_with fail
        go_roundw
        case rel => exact ⟨q + 1, by omega, by go_num, hown5, hrow3, hb3⟩
        case measure => simp [intOf]; omega
      · have HT3 := Lib.hid (show leafTs ((Tr.all a).take (q + 1)) = leafTs ((Tr.all a).take q) by rw [HT2.out, if_neg hk, List.append_nil])
        have hk2 : (x.1.k == 0) = false := by simpa using hk
        clear hk HT2
        go_wp2_with fail
        go_roundw
        case rel => exact ⟨q + 1, by omega, by go_num, by rw [HT3.out]; exact hown, hrow, hb⟩
        case measure => simp [intOf]; omega
    · have hL : leafTs ((Tr.all a).take q) = leafTs (Tr.all a) := by
        rw [List.take_of_length_le]
        have h1 := congrArg List.length HM.out
        rw [List.length_map] at h1
        have := HN.out
        omega
      rw [hL] at hown
      have hlen : (leafTs (Tr.all a)).length ≤ 9223372036854775807 := by
        have h1 := leafTs_len (Tr.all a)
        have h2 := congrArg List.length HM.out
        rw [List.length_map] at h2
        have := HN.out
        omega
      have hs := Sl.own hown
      have HS := Lib.hid hs
      have HLE := Lib.hid hlen
      clear hown hL hs hlen
      go_wp2_with fail
      refine (rof_any _ _ _ HS.out HLE.out).mono ?_
      rintro e w3 ⟨rfl, rfl⟩
      go_wp2_with fail
      go_ret
      exact ⟨by rw [HT.out]; rfl, below_join HB0.out hb⟩
end Go.Proofs.YtbddhkgbpjhhaaaGreatDoor
namespace Go.Proofs.YtbddhkgbpjhhaaaGreatDoor
open Go.RowKit Go.Sort
set_option maxHeartbeats 1600000
theorem leaf10_any (i : Int) (w : World) :
    Calls Tryz.prog 22 #[.int .i64 i] w fun e w' => e = .returned (.agg #[.int .i64 0, .int .i64 i, .slice none 0 0, .slice none 0 0, .bool false]) ∧ Below w.heap.size w w' := by
  go_enter Tryz.func22, Tryz.ntmps22
  go_wp2
  exact bodyPost_ret (v := .agg #[.int .i64 0, .int .i64 i, .slice none 0 0, .slice none 0 0, .bool false]) (by simp [results, Tryz.results22, go_sem]) rfl ⟨rfl, below_new _ _⟩
theorem two_trs (W : World) (G : Nat) (hG : W.heap.size = G) (T : TypeId) (x y : TrV) :
    TrCell (W.alloc (Obj.cells #[.int .i64 x.1.k, .int .i64 x.1.t, x.2.1, x.2.2, .bool x.1.h, .int .i64 y.1.k, .int .i64 y.1.t, y.2.1, y.2.2, .bool y.1.h] T)) ⟨G, 0, none⟩ x.1 x.2.1 x.2.2 ∧
    TrCell (W.alloc (Obj.cells #[.int .i64 x.1.k, .int .i64 x.1.t, x.2.1, x.2.2, .bool x.1.h, .int .i64 y.1.k, .int .i64 y.1.t, y.2.1, y.2.2, .bool y.1.h] T)) ⟨G, 5, none⟩ y.1 y.2.1 y.2.2 := by
  subst hG
  have l := Lies.new W T [.int .i64 x.1.k, .int .i64 x.1.t, x.2.1, x.2.2, .bool x.1.h, .int .i64 y.1.k, .int .i64 y.1.t, y.2.1, y.2.2, .bool y.1.h]
  exact ⟨⟨l.cell (i := 0) rfl, l.cell (i := 1) rfl, l.cell (i := 2) rfl, l.cell (i := 3) rfl, l.cell (i := 4) rfl⟩, ⟨l.cell (i := 5) rfl, l.cell (i := 6) rfl, l.cell (i := 7) rfl, l.cell (i := 8) rfl, l.cell (i := 9) rfl⟩⟩
def TwoTrs (w : World) (k : Int) (x y : TrV) (vc : Value) (e : Ending) (w' : World) : Prop :=
  ∃ g, e = .returned (.agg #[.int .i64 k, .int .i64 0, .slice (some ⟨g, 0, none⟩) 2 2, vc, .bool false]) ∧ w.heap.size ≤ g ∧ g < w'.heap.size ∧ TrCell w' ⟨g, 0, none⟩ x.1 x.2.1 x.2.2 ∧ TrCell w' ⟨g, 5, none⟩ y.1 y.2.1 y.2.2 ∧ Below w.heap.size w w'
set_option maxRecDepth 100000 in
theorem on10_any (k : Int) (x y : TrV) (A : Option Addr) (n c : Nat) (w : World) :
    Calls Tryz.prog 21 #[.int .i64 k, .agg #[.int .i64 x.1.k, .int .i64 x.1.t, x.2.1, x.2.2, .bool x.1.h], .agg #[.int .i64 y.1.k, .int .i64 y.1.t, y.2.1, y.2.2, .bool y.1.h], .slice A n c] w (TwoTrs w k x y (.slice A n c)) := by
  go_enter Tryz.func21, Tryz.ntmps21
  go_wp2
  refine bodyPost_ret (v := .agg #[.int .i64 k, .int .i64 0, .slice (some ⟨w.heap.size + 1 + 1 + 1, 0, none⟩) 2 2, .slice A n c, .bool false]) (by simp [results, Tryz.results21, go_sem]) rfl ⟨w.heap.size + 1 + 1 + 1, rfl, by omega, by simp, ?_, ?_, ?_⟩
  · exact (two_trs _ _ (by simp) _ x y).1
  · exact (two_trs _ _ (by simp) _ x y).2
  · exact ((((Below.refl _ _).alloc (Nat.le_refl _) _).alloc (by simp) _).alloc (by simp; omega) _).alloc (by simp; omega) _
end Go.Proofs.YtbddhkgbpjhhaaaGreatDoor
namespace Go.Proofs.YtbddhkgbpjhhaaaGreatDoor
open Go.RowKit Go.Sort
set_option maxHeartbeats 1600000
abbrev eq01 : Pd := .mk ⟨2, 0, 1, ⟨1, 0, 0, false, 0⟩, ⟨1, 1, 0, false, 0⟩⟩ []
abbrev leafTr (i : Int) : Tr := .mk 0 i false [] []
abbrev twoTr (k : Int) : Tr := .mk k 0 false [eq01] [leafTr 0, leafTr 1]
end Go.Proofs.YtbddhkgbpjhhaaaGreatDoor
namespace Go.Proofs.YtbddhkgbpjhhaaaGreatDoor
open Go.RowKit Go.Sort
set_option maxHeartbeats 1600000
end Go.Proofs.YtbddhkgbpjhhaaaGreatDoor
