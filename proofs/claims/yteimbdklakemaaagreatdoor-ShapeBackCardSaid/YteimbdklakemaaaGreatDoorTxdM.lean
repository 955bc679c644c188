/-
  A PREDICATE's TEXT: how long it is at most; the parts' texts, joined.
-/
import Derived.Test.YteimbdklakemaaaGreatDoorTxcM
import Derived.Test.YteimbdklakemaaaGreatDoorGOwn
import Derived.Lib.Join
namespace Go.Proofs.YteimbdklakemaaaGreatDoor
open Go.RowKit Go.Sort
set_option maxHeartbeats 800000

namespace Tx
theorem enc_le {r : Int} (h : Low r) : (Rn.enc r).length ≤ 4 := by
  obtain ⟨n, rfl⟩ : ∃ n : Nat, r = n := ⟨r.toNat, by have := h.1; omega⟩
  exact (Rn.enc_size (h.valid)).2
theorem joined_cons (p q : Pd) (r : List Pd) : joined (p :: q :: r) = bytes p ++ [59] ++ joined (q :: r) := by
  unfold joined bytes
  have e : Rn.encs [59] = [59] := low_bytes (r := 59) (by decide)
  rw [texts, Rn.encs_app, Rn.encs_app, e]
theorem joined_one (p : Pd) : joined [p] = bytes p := by
  unfold joined bytes
  rw [texts]
theorem joined_eq : ∀ ps : List Pd, Lib.join (ps.map bytes) [59] = joined ps
  | [] => by rw [joined_nil]; rfl
  | [p] => by rw [joined_one]; exact Lib.join_one _ _
  | p :: q :: r => by
    have ih := joined_eq (q :: r)
    rw [joined_cons, ← ih]
    simp only [List.map_cons]
    rw [Lib.join_cons, Lib.join_cons]
    simp [Lib.joinTail]
theorem joined_le : ∀ ps : List Pd, (∀ p ∈ ps, (bytes p).length + 1 ≤ 500 * Pr.size p) → (joined ps).length ≤ 500 * Pr.sizes ps
  | [], _ => by rw [joined_nil]; simp
  | [p], h => by
    have := h p List.mem_cons_self
    rw [joined_one, Pr.sizes, Pr.sizes]
    omega
  | p :: q :: r, h => by
    have ih := joined_le (q :: r) fun x hx => h x (List.mem_cons_of_mem _ hx)
    have := h p List.mem_cons_self
    rw [joined_cons, Pr.sizes]
    simp only [List.length_append, List.length_cons, List.length_nil]
    omega
theorem signs_low {o : Int} (h1 : 1 ≤ o) (h6 : o ≤ 6) : Low (signs.getD (o - 1).toNat (-1)) := by
  have ho : o = 1 ∨ o = 2 ∨ o = 3 ∨ o = 4 ∨ o = 5 ∨ o = 6 := by omega
  rcases ho with rfl | rfl | rfl | rfl | rfl | rfl <;> exact ⟨by decide, by decide⟩
theorem truths_low {u : Int} (h1 : 0 ≤ u) (h6 : u ≤ 2) : Low (truths.getD u.toNat (-1)) := by
  have hu : u = 0 ∨ u = 1 ∨ u = 2 := by omega
  rcases hu with rfl | rfl | rfl <;> exact ⟨by decide, by decide⟩
theorem bytes_le : ∀ (n : Nat) (p : Pd) (d : Nat), Pr.size p ≤ n → Pr.rightAt p d = true → wf p → (bytes p).length + 1 ≤ 500 * Pr.size p := by
  intro n
  induction n with
  | zero => intro p d h; have := Pr.size_pos p; omega
  | succ n ih =>
    intro p d hs hr hw
    obtain ⟨f, ps⟩ := p
    rw [Pr.size] at hs ⊢
    obtain ⟨hd, hk⟩ := kinds hr
    obtain ⟨wa, wb, wps⟩ := hw
    have hparts : Pr.rightAts ps (d + 1) = true → (joined ps).length ≤ 500 * Pr.sizes ps := by
      intro hra
      refine joined_le ps fun x hx => ?_
      obtain ⟨j, hj, hjx⟩ := List.mem_iff_getElem.1 hx
      have h1 := Pr.sizes_at (l := ps) (j := j) (p := x) (by rw [List.getElem?_eq_getElem hj, hjx])
      exact ih x (d + 1) (by omega) ((Pr.rightAts_iff ps (d + 1)).1 hra x hx) (wfs_at wps x hx)
    rcases hk with ⟨u, h0, h2, rfl, rfl⟩ | ⟨o, a, b, h1, h6, rfl, ha, hb, rfl⟩ | ⟨a, rfl, ha, rfl⟩ | ⟨hf, hl, hra⟩ | ⟨rfl, hl, hra⟩
    · rw [bytes_truth _ _ rfl]
      have := enc_le (truths_low h0 h2)
      show (Rn.enc (truths.getD u.toNat (-1))).length + 1 ≤ _
      omega
    · rw [bytes_cmp _ _ rfl]
      have h1 := enc_le (signs_low h1 h6)
      have h2 := term_bytes_le ha wa
      have h3 := term_bytes_le hb wb
      simp only [List.length_append, List.length_cons, List.length_nil]
      show (Rn.enc (signs.getD (o - 1).toNat (-1))).length + (termBytes a).length + (0 + 1) + (termBytes b).length + 1 ≤ _
      omega
    · rw [bytes_null _ _ rfl]
      have h1 := enc_le (r := 8709) ⟨by decide, by decide⟩
      have h2 := term_bytes_le ha wa
      simp only [List.length_append]
      show _ + (termBytes a).length + 1 ≤ _
      omega
    · have hp := hparts hra
      have : ∀ c : Int, Low c → (Rn.enc c ++ [40] ++ joined ps ++ [41]).length + 1 ≤ 500 * (1 + Pr.sizes ps) := by
        intro c hc
        have := enc_le hc
        simp only [List.length_append, List.length_cons, List.length_nil]
        omega
      rcases hf with rfl | rfl
      · rw [bytes_many _ _ (.inl rfl)]
        exact this _ ⟨by decide, by decide⟩
      · rw [bytes_many _ _ (.inr rfl)]
        exact this _ ⟨by decide, by decide⟩
    · have hp := hparts hra
      rw [bytes_not _ _ ⟨by decide, by decide, by decide, by decide, by decide⟩]
      have := enc_le (r := 172) ⟨by decide, by decide⟩
      simp only [List.length_append]
      omega
end Tx
theorem Tryz.infoStr : (Tryz.prog.info? 9).map (fun i => (i.zero, i.size, i.bytes)) = some (some (.string .empty), 1, 16) := by kernel_rfl
def strV (l : List UInt8) : Value := .string ⟨l.toArray⟩

/-- what predText tells of predicates less deep than d -/
abbrev TextsBelow (d : Nat) : Prop := ∀ e, e < d → ∀ (f : Pf) (u : Value) (ps : List Pd) (dp : Nat) (w : World), PsAt e w u ps → Pr.rightAt (.mk f ps) dp = true → Tx.wf (.mk f ps) → Pr.size (.mk f ps) ≤ 1000000 → Pows w →
  Calls Tryz.prog 46 #[.agg #[.int .i64 f.k, .int .i64 f.u, .int .i64 f.o, .int .i64 f.a.k, .int .i64 f.a.t, .int .i64 f.a.c, .bool f.a.z, .int .i64 f.a.n, .int .i64 f.b.k, .int .i64 f.b.t, .int .i64 f.b.c, .bool f.b.z, .int .i64 f.b.n, u]] w fun e w' => e = .returned (strV (Tx.bytes (.mk f ps))) ∧ Below w.heap.size w w'
set_option maxRecDepth 100000 in
theorem ptexts_of (d : Nat) (ih : TextsBelow d) (u : Value) (ps : List Pd) (dp : Nat) (w : World) (hu : PsAt d w u ps) (hr : Pr.rightAts ps dp = true) (hw : Tx.wfs ps) (hsz : Pr.sizes ps ≤ 1000000) (hP : Pows w) :
    Calls Tryz.prog 57 #[u] w fun e w' => e = .returned (strV (Tx.joined ps)) ∧ Below w.heap.size w w' := by
  obtain ⟨A, c, rfl, hl⟩ := hu.form
  obtain ⟨i0, hi, hz0, hz1, hz2⟩ := info_parts Tryz.infoStr
  have HU := Lib.hid hu
  have IH := Lib.hid ih
  have HZ := Lib.hid hsz
  have HRT := Lib.hid ((Pr.rightAts_iff ps dp).1 hr)
  have HWF := Lib.hid (Tx.wfs_at hw)
  have HPW := Lib.hid hP
  have hn1 := Pr.sizes_length ps
  have HJ := Lib.hid (Tx.joined_le ps fun x hx => Tx.bytes_le _ x dp (Nat.le_refl _) (HRT.out x hx) (HWF.out x hx))
  obtain ⟨n, hn⟩ : ∃ n, n = ps.length := ⟨_, rfl⟩
  rw [← hn] at hl HU hn1 ⊢
  have hn2 : n ≤ 1000000 := by omega
  have HN := Lib.hid hn
  clear hu ih hsz hn1 hn hr hw hP
  go_enter Tryz.func57, Tryz.ntmps57
  go_wp2_with fail
  go_loopw [3, 8] (fun v i wr => ∃ q : Nat, q ≤ n ∧ i = .int .i64 q ∧ wr.ownsRow w.heap.size 9 1 v q ((ps.take q).map fun p => strV (Tx.bytes p)) ∧ Below w.heap.size w wr) (fun _ i _ => n - (intOf i).toNat)
  case atStart => exact ⟨0, Nat.zero_le _, rfl, World.ownsRow_nil _ _ _ _, Below.refl _ _⟩
  case round =>
    obtain ⟨q, hq, rfl, hown, hb⟩ := hrel
    by_cases hlt : q < n
    · obtain ⟨p, gp⟩ : ∃ p, ps[q]? = some p := ⟨ps[q]'(by have := HN.out; omega), List.getElem?_eq_getElem _⟩
      have hu := HU.out
      rw [HN.out] at hu
      obtain ⟨e, b, o, s, v, he, rfl, _, hx⟩ := hu.at_ gp
      obtain ⟨hcell, hps⟩ := hx wr hb
      obtain ⟨A2, c2, rfl, _⟩ := hps.form
      obtain ⟨o1, ho1⟩ : ∃ o1, o1 = Obj.cells #[.int .i64 p.f.k, .int .i64 p.f.u, .int .i64 p.f.o, .int .i64 p.f.a.k, .int .i64 p.f.a.t, .int .i64 p.f.a.c, .bool p.f.a.z, .int .i64 p.f.a.n, .int .i64 p.f.b.k, .int .i64 p.f.b.t, .int .i64 p.f.b.c, .bool p.f.b.z, .int .i64 p.f.b.n, .slice A2 p.ps.length c2] 43 := ⟨_, rfl⟩
      have hb3 : Below w.heap.size w (wr.alloc o1) := below_join hb (below_new _ _)
      have hown2 : (wr.alloc o1).ownsRow _ _ _ _ _ _ := hown.alloc _
      have hmem := List.mem_of_getElem? gp
      have hpe : Pd.mk p.f p.ps = p := by cases p; rfl
      have cs := IH.out e he p.f _ p.ps dp _ ((hx _ hb3).2) (by rw [hpe]; exact HRT.out p hmem) (by rw [hpe]; exact HWF.out p hmem) (by rw [hpe]; have := Pr.sizes_at gp; have := HZ.out; omega) (HPW.out.below hb3 (Nat.le_refl _))
      rw [hpe] at cs
      have HT := Lib.hid (show (ps.take (q + 1)).map (fun p => strV (Tx.bytes p)) = (ps.take q).map (fun p => strV (Tx.bytes p)) ++ [strV (Tx.bytes p)] by rw [List.take_add_one, gp, List.map_append]; rfl)
      obtain ⟨X, hX⟩ : ∃ X, X = Tx.bytes p := ⟨_, rfl⟩
      rw [← hX] at cs HT
      obtain ⟨x0, x1, x2, x3, x4, x5, x6, x7, x8, x9, x10, x11, x12, x13⟩ := hcell
      have HO1 := Lib.hid ho1
      clear gp hx hps hpe hmem hu hX hown ho1
      go_wp2_with fail
      rw [← HO1.out]
      refine cs.mono ?_
      rintro e2 w2 ⟨rfl, hb2⟩
      have hb' := below_join hb3 hb2
      have hown3 := own_kept hown2 hb2
      clear cs x0 x1 x2 x3 x4 x5 x6 x7 x8 x9 x10 x11 x12 x13 hb3 hb2 hown2
      unfold strV
      go_wp2_with (first
        | (at_builtin; refine wpList_append_own _ rfl _ _ 109 rfl w.heap.size 9 i0 (.string .empty) 1 16 Tryz.underlying109 hi hz0 hz1 hz2 rfl (by decide) _ _ _ rfl (hown3.alloc _) ⟨w2.heap.size, 0, none⟩ 1 1 [strV X] rfl rfl ?c1 ?c2 ?c3 ?c4 ?c5 ?_))
      case c1 => exact cell_one_new _ _ _
      case c2 => simp [strV, Value.oneCell']
      case c3 => unfold maxLen; omega
      case c4 => omega
      case c5 => have := hb'.size; simp; omega
      intro v' w9 hown' hgrow _
      have hown4 : w9.ownsRow w.heap.size 9 1 v' (q + 1) ((ps.take (q + 1)).map fun p => strV (Tx.bytes p)) := by rw [HT.out, List.map_take]; exact hown'
      have hb9 := own_grown hb' hown3 hgrow
      clear hown' hgrow hown3
      go_wp2
      go_roundw
      case rel => exact ⟨q + 1, by omega, by go_num, hown4, hb9⟩
      case measure => simp [intOf]; omega
    · obtain rfl : n = q := by omega
      have hown2 := hown
      rw [List.take_of_length_le (by have := HN.out; omega)] at hown2
      have hj := Tx.joined_eq ps
      rcases hown2.2 with ⟨rfl, h0⟩ | ⟨g, cap, cur, rfl, hbg, hg, hnc, hcm, hcs, htake⟩
      · have hps : ps = [] := List.eq_nil_of_length_eq_zero (by rw [← HN.out]; exact h0)
        have HE := Lib.hid (show strV (Tx.joined ps) = .string ⟨#[]⟩ by rw [hps, Tx.joined_nil]; rfl)
        clear hown hown2 hj
        go_wp2_with fail
        refine (Tryz.strings_Join_none _ _ _ _).mono ?_
        rintro e w2 ⟨rfl, rfl⟩
        go_wp2_with fail
        go_ret
        exact ⟨by rw [HE.out]; rfl, hb⟩
      · have hlen : (ps.map fun p => (⟨(Tx.bytes p).toArray⟩ : ByteArray)).length = n := by rw [List.length_map]; exact HN.out.symm
        have hlist : (ps.map fun p => (⟨(Tx.bytes p).toArray⟩ : ByteArray)).map (·.data.toList) = ps.map Tx.bytes := by rw [List.map_map]; rfl
        have hsep : (⟨#[59]⟩ : ByteArray).data.toList = [59] := rfl
        have cj := Tryz.strings_Join g 0 cap (ps.map fun p => (⟨(Tx.bytes p).toArray⟩ : ByteArray)) ⟨#[59]⟩ wr (by
          intro j x hx
          have hc := hown2.cells (g := g) rfl j (.string x) (by
            rw [List.getElem?_map] at hx ⊢
            cases hp : ps[j]? with
            | none => rw [hp] at hx; cases hx
            | some p => rw [hp] at hx; cases hx; rfl)
          rw [add_here] at hc
          simpa using hc) (hown2.lt g rfl).2 (by rw [hlen]; omega) (by rw [hlen]; exact hnc) (by
          rw [hlist, hsep, hj]
          have := HJ.out
          have := HZ.out
          omega)
        rw [hlen, hlist, hsep, hj] at cj
        clear hown hown2 hj hlen hlist hsep hg htake hcs
        go_wp2_with fail
        refine cj.mono ?_
        rintro e w2 ⟨rfl, hb2⟩
        go_wp2_with fail
        go_ret
        exact ⟨rfl, below_join hb hb2⟩
end Go.Proofs.YteimbdklakemaaaGreatDoor
