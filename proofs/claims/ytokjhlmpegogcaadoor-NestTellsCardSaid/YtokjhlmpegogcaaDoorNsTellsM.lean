/-
  THE STATEMENT NestTells.
-/
import Derived.Test.YtokjhlmpegogcaaDoorNskM
import Derived.Test.YtokjhlmpegogcaaDoorNslM
import Derived.Test.YtokjhlmpegogcaaDoorNsqM
import Derived.Test.YtokjhlmpegogcaaDoorNsrM
import Derived.Test.YtokjhlmpegogcaaDoorNsxM
import Derived.Test.YtokjhlmpegogcaaDoorNsyM
import Derived.Test.YtokjhlmpegogcaaDoorItqM
import Derived.Deep.RegionHeld3
import Derived.BigQuiet
namespace Go.Proofs.YtokjhlmpegogcaaDoor
open Go.RowKit Go.Shelf
attribute [local go_sem] Oper.semAt_some
set_option maxHeartbeats 6400000

/-- marks of tours that have ended -/
def marks14 (Ds : List Nat) : List Deferred := Ds.map fun D => { target := .collected D, args := #[] }
theorem leaves_marks {P : Program} {fn : Func} {tmps : Array Value} {R : Ending → World → Prop} (Ds : List Nat) : ∀ (W : World), Ds.Nodup → (∀ D ∈ Ds, W.heap[D]? = some (.deferred (some []))) →
    (∀ W', Keeps (fun k => k ∉ Ds) W W' → LeavesIn Fence.wide 9 P fn tmps R [] .returning W') → LeavesInM Fence.wide 9 P fn tmps R (marks14 Ds) .returning W := by
  induction Ds with
  | nil => intro W _ _ h; exact h W (Keeps.refl _ _)
  | cons D Ds ih =>
    intro W hn hD h
    obtain ⟨hn1, hn2⟩ := List.nodup_cons.1 hn
    refine ⟨by simp, .inl ⟨D, _, rfl, run_takeDeferred (hD D List.mem_cons_self), ih _ hn2 (fun E hE => ?_) fun W' hk => h W' ?_⟩⟩
    · exact (World.putObj_heap_other (by intro e; subst e; exact hn1 hE)).trans (hD E (List.mem_cons_of_mem _ hE))
    · exact (Keeps.putObj W D _ (fun hh => hh List.mem_cons_self)).trans (hk.mono fun k hk hk2 => hk (List.mem_cons_of_mem _ hk2))
/-- a loop of a known number of rounds -/
theorem rounds_inv {F : Fence} {n : Nat} {P : Program} {c : Code} {Q : Exit → Act → World → Prop} {a : Act} {w : World} (N : Nat) (Inv : Nat → Act → World → Prop) (h0 : Inv 0 a w)
    (hstep : ∀ (q : Nat) (a : Act) (w : World) (K : Act → World → Prop), q ≤ N → Inv q a w → (∀ a' w', q < N → Inv (q + 1) a' w' → K a' w') → c.wpIn F n P (Exit.then K Q) a w) : (Code.loop c).wpIn F n P Q a w := by
  have key : ∀ m q a w, q + m = N → Inv q a w → Code.roundsIn F n P c Q (m + 1) a w := by
    intro m
    induction m with
    | zero => intro q a w hq h; exact hstep q a w _ (by omega) h fun a' w' hlt _ => by omega
    | succ m ih => intro q a w hq h; exact hstep q a w _ (by omega) h fun a' w' hlt h' => ih (q + 1) a' w' (by omega) h'
  exact wpIn_loop_rounds (N + 1) (key N 0 a w (by omega) h0)
theorem run_eql_func14 {P : Program} (w : World) {t : TypeId} {x y z} (f : Fn) (a c : Array Value) (h : P.underlying t = some (.func x y z)) : (binOp .eql t (.func f a c) .nilFunc).run P w = .ok (.bool false) w := by
  have h1 : ∀ d : Nat, (Op.equalIn (d + 1) t (.func f a c) .nilFunc).run P w = .ok false w := fun d => by
    simp [Op.equalIn, run_underlying h]
  simp only [binOp]
  simp [Op.equal, Op.maxDepth, h1 9999]
/-- the arguments in their boxes, and the answer's -/
structure TlBase (w W : World) (cv lv rv : Value) : Prop where
  c : W.cell? ⟨w.heap.size, 0, none⟩ = some cv
  l : W.cell? ⟨w.heap.size + 1, 0, none⟩ = some lv
  r : W.cell? ⟨w.heap.size + 1 + 1, 0, none⟩ = some rv
  b : Boxed W (w.heap.size + 1 + 1 + 1) 4 (.bool false)
  below : Below w.heap.size w W
  size : w.heap.size + 4 ≤ W.heap.size
theorem TlBase.below_ {w W W' : World} {cv lv rv : Value} (h : TlBase w W cv lv rv) (hb : Below (w.heap.size + 4) W W') : TlBase w W' cv lv rv :=
  ⟨(hb.cell (by show w.heap.size < _; omega)).trans h.c, (hb.cell (by show w.heap.size + 1 < _; omega)).trans h.l, (hb.cell (by show w.heap.size + 1 + 1 < _; omega)).trans h.r, (hb.block _ (by omega)).trans h.b, h.below.trans (below_low hb (by omega)), Nat.le_trans h.size hb.size⟩
theorem TlBase.keeps {w W W' : World} {cv lv rv : Value} {S : Nat → Prop} (h : TlBase w W cv lv rv) (hk : Keeps S W W') (hS : ∀ j, j < w.heap.size + 4 → S j) : TlBase w W' cv lv rv :=
  ⟨hk.cell (hS _ (by omega)) h.c, hk.cell (hS _ (by omega)) h.l, hk.cell (hS _ (by omega)) h.r, (hk.same _ h.b.lt (hS _ (by omega))).trans h.b, h.below.trans (hk.below h.below.size fun j hj => hS j (by omega)), Nat.le_trans h.size hk.size⟩
/-- between two rounds of the tour: the count in its box; what lay keeps -/
structure TlI (w9 : World) (B : Nat) (m : Nat) (O : Nat → Prop) (W : World) : Prop where
  own : ∀ j, O j ↔ j = B
  box : Boxed W B 3 (.int .i64 (m : Int))
  keeps : Keeps (fun j => j ≠ B ∧ j < w9.heap.size) w9 W
theorem TlI.keep {w9 : World} {B m : Nat} {O S : Nat → Prop} {W W' : World} (h : TlI w9 B m O W) (hk : Keeps (fun j => O j ∨ S j) W W') (hS : ∀ j, j < w9.heap.size → S j) : TlI w9 B m O W' :=
  ⟨h.own, (hk.same _ h.box.lt (.inl ((h.own _).2 rfl))).trans h.box, h.keeps.trans (hk.mono fun j hj => .inr (hS j hj.2))⟩
/-- the count one more, behind what only makes memory -/
theorem TlI.step {w9 : World} {B m : Nat} {O : Nat → Prop} {W W1 : World} (h : TlI w9 B m O W) (hb : Below W.heap.size W W1) :
    TlI w9 B (m + 1) O (W1.setCell ⟨B, 0, none⟩ (.int .i64 ((m : Int) + 1))) ∧ Chg O W O (W1.setCell ⟨B, 0, none⟩ (.int .i64 ((m : Int) + 1))) := by
  have hlt := h.box.lt
  have hbx : Boxed W1 B 3 (.int .i64 (m : Int)) := (hb.block _ hlt).trans h.box
  have hset : ∀ j, j ≠ B → (W1.setCell ⟨B, 0, none⟩ (.int .i64 ((m : Int) + 1))).heap[j]? = W1.heap[j]? := fun j hj => Below.heap_setCell _ _ _ _ hj
  have hk : Keeps (fun j => j ≠ B) W (W1.setCell ⟨B, 0, none⟩ (.int .i64 ((m : Int) + 1))) := ⟨hb.os, hb.tape, hb.output, by simpa using hb.size, fun j hj hne => (hset j hne).trans (hb.block j hj)⟩
  exact ⟨⟨h.own, hbx.set _, h.keeps.trans (hk.mono fun j hj => hj.1)⟩, ⟨hk.mono fun j hj e => hj ((h.own j).2 e), fun _ _ h => h⟩⟩
/-- ahead of each kind -/
def TlInv (w : World) (P0 L0 R0 : Option Addr) (pl p0 n c0 rl c1 : Nat) (q : Nat) (a : Act) (W : World) : Prop :=
  ∃ (K : Nat) (Ds : List Nat) (u8 u9 u10 u17 u18 u19 u20 u21 u22 u23 u24 u25 u26 u27 u28 u29 u30 u31 u32 u33 u34 u35 u36 u37 u38 u39 u40 u41 u42 u43 u44 u45 u46 u47 u48 u49 u50 u51 u52 u53 u54 u55 u56 u57 u58 u59 u60 u61 u62 u63 u64 u65 u66 u67 u68 u69 : Value), a = { tmps := ((.slice P0 pl p0 : Value) :: (.slice L0 n c0 : Value) :: (.slice R0 rl c1 : Value) :: (.pointer (some ⟨w.heap.size, 0, none⟩) : Value) :: (.pointer (some ⟨w.heap.size + 1, 0, none⟩) : Value) :: (.pointer (some ⟨w.heap.size + 1 + 1, 0, none⟩) : Value) :: (.pointer (some ⟨w.heap.size + 1 + 1 + 1, 0, none⟩) : Value) :: (.pointer (some ⟨K, 0, none⟩) : Value) :: u8 :: u9 :: u10 :: (.slice P0 pl p0 : Value) :: (.slice L0 n c0 : Value) :: (.slice R0 rl c1 : Value) :: (.bool true : Value) :: (.bool false : Value) :: undef :: u17 :: u18 :: u19 :: u20 :: u21 :: u22 :: u23 :: u24 :: u25 :: u26 :: u27 :: u28 :: u29 :: u30 :: u31 :: u32 :: u33 :: u34 :: u35 :: u36 :: u37 :: u38 :: u39 :: u40 :: u41 :: u42 :: u43 :: u44 :: u45 :: u46 :: u47 :: u48 :: u49 :: u50 :: u51 :: u52 :: u53 :: u54 :: u55 :: u56 :: u57 :: u58 :: u59 :: u60 :: u61 :: u62 :: u63 :: u64 :: u65 :: u66 :: u67 :: u68 :: u69 :: []).toArray, defers := marks14 Ds } ∧ Boxed W K 3 (.int .i64 q) ∧ w.heap.size + 4 ≤ K ∧ TlBase w W (.slice P0 pl p0) (.slice L0 n c0) (.slice R0 rl c1) ∧ Ds.Nodup ∧ ∀ D ∈ Ds, W.heap[D]? = some (.deferred (some [])) ∧ w.heap.size + 4 ≤ D
set_option maxRecDepth 100000 in
theorem nesttells_any (d : Nat) (cv lv rv : Value) (ps : List Pd) (L R : List (List (List Vl))) (w : World) (hp : PsAt d w cv ps) (hl : TusOn Al w lv L) (hr : TusOn Al w rv R) (hfl : Formed lv) (hf : Formed rv) (hW : Want w) :
    Calls Tryd.prog 3 #[cv, lv, rv] w fun E w' => E = .returned (.bool true) ∧ Below w.heap.size w w' := by
  refine (callsIn_wide (n := 9)).1 ?_
  have CLI := Lib.hid (show ∀ W, Below w.heap.size w W → _ from fun W h => nlight_any d cv lv rv ps L R W (hp.below h (Nat.le_refl _)) (hl.below h (Nat.le_refl _)) (hr.below h (Nat.le_refl _)) hf hfl)
  have CA := Lib.hid (show ∀ W, Below w.heap.size w W → _ from fun W (h : Below w.heap.size w W) => awake14_any W (hW.below h (Nat.le_refl _)))
  have CJ := Lib.hid (show Ns.light ps L R → ∀ (k : Int) (W : World), Below w.heap.size w W → _ from fun hL k W h =>
    njoin_any k d cv lv rv ps L R W (hp.below h (Nat.le_refl _)) (Mt.light_sizes hL.1) (hW.below h (Nat.le_refl _)) (hl.below h (Nat.le_refl _)) (hr.below h (Nat.le_refl _)) ((Ns.light_left hL).more (by decide) (by decide)) ((Ns.light_right hL).more (by decide) (by decide)))
  have CR := Lib.hid (show Ns.light ps L R → ∀ (k : Int) (W : World), Below w.heap.size w W → _ from fun hL k W h =>
    r14join_any k d cv lv rv ps L R W (hp.below h (Nat.le_refl _)) (Mt.light_sizes hL.1) (hl.below h (Nat.le_refl _)) (hr.below h (Nat.le_refl _)) ((Ns.light_left hL).more (by decide) (by decide)) ((Ns.light_right hL).more (by decide) (by decide)))
  have CE := Lib.hid (show Ns.light ps L R → ∀ (k : Int) (W : World), Below w.heap.size w W → _ from fun hL k W h =>
    nEach_any k d cv lv rv ps L R W (hp.below h (Nat.le_refl _)) (Mt.light_sizes hL.1) (hl.below h (Nat.le_refl _)) (hr.below h (Nat.le_refl _)) ((Ns.light_left hL).more (by decide) (by decide)) ((Ns.light_right hL).more (by decide) (by decide)))
  have HP := Lib.hid (And.intro hp (And.intro hl hr))
  have HW := Lib.hid hW
  obtain ⟨P0, p0, rfl, _⟩ := hp.form
  obtain ⟨L0, c0, rfl, _⟩ := hl.form
  obtain ⟨R0, c1, rfl, _⟩ := hr.form
  obtain ⟨n, hn⟩ : ∃ n, n = L.length := ⟨_, rfl⟩
  obtain ⟨rl, hrl⟩ : ∃ n, n = R.length := ⟨_, rfl⟩
  obtain ⟨pl, hpl⟩ : ∃ n, n = ps.length := ⟨_, rfl⟩
  rw [← hn, ← hrl, ← hpl] at CLI CJ CR CE HP ⊢
  have HN := Lib.hid (And.intro hn (And.intro hrl hpl))
  clear hp hl hr hfl hf hW hn hrl hpl
  refine callsIn_of_wp_marks Tryd.func3 rfl trivial ?_ rfl
  simp only [Tryd.ntmps3, List.size_toArray, List.length_cons, List.length_nil, Nat.reduceAdd, Nat.reduceSub, Array.replicate_succ, Array.replicate_zero, List.push_toArray, List.append_toArray, List.nil_append, List.cons_append]
  obtain ⟨W4, hW4⟩ : ∃ W4, W4 = (((w.alloc (Obj.cells #[.slice P0 pl p0] 22)).alloc (Obj.cells #[.slice L0 n c0] 23)).alloc (Obj.cells #[.slice R0 rl c1] 23)).alloc (Obj.cells #[.bool false] 4) := ⟨_, rfl⟩
  have hB4 : TlBase w W4 (.slice P0 pl p0) (.slice L0 n c0) (.slice R0 rl c1) := by
    have l0 := Lies.new w 22 [.slice P0 pl p0]
    have l1 := Lies.new (w.alloc (Obj.cells #[.slice P0 pl p0] 22)) 23 [.slice L0 n c0]
    have l2 := Lies.new ((w.alloc (Obj.cells #[.slice P0 pl p0] 22)).alloc (Obj.cells #[.slice L0 n c0] 23)) 23 [.slice R0 rl c1]
    have l3 := Boxed.new (((w.alloc (Obj.cells #[.slice P0 pl p0] 22)).alloc (Obj.cells #[.slice L0 n c0] 23)).alloc (Obj.cells #[.slice R0 rl c1] 23)) 4 (.bool false)
    simp only [World.size_alloc] at l1 l2 l3
    rw [hW4]
    exact ⟨(((l0.alloc _).alloc _).alloc _).cell (i := 0) rfl, ((l1.alloc _).alloc _).cell (i := 0) rfl, (l2.alloc _).cell (i := 0) rfl, l3, (((below_new w _).alloc (by simp) _).alloc (by simp; omega) _).alloc (by simp; omega) _, by simp⟩
  have HW4 := Lib.hid hW4
  have hc := hB4.c
  have hl := hB4.l
  have hr := hB4.r
  rw [hW4] at hc hl hr
  have HB4 := Lib.hid hB4
  clear hW4 hB4
  gi_wp2_with fail
  rw [← HW4.out]
  clear hc hl hr
  refine ⟨trivial, (callsIn_wide.2 (CLI.out W4 HB4.out.below)).mono ?_⟩
  rintro e w5 ⟨b, rfl, hlight, hb5⟩
  have HLI := Lib.hid hlight
  have HB5 := Lib.hid (HB4.out.below_ (below_low hb5 HB4.out.size))
  clear hlight hb5
  cases b with
  | false =>
    gi_wp2_with fail
    refine ⟨trivial, (callsIn_wide.2 (CA.out w5 HB5.out.below)).mono ?_⟩
    rintro e w6 ⟨rfl, hb6⟩
    have hB6 := HB5.out.below_ (below_low hb6 HB5.out.size)
    have hbc := hB6.b.cell
    have hbf := hB6.b.frozen
    have hbx := hB6.b
    have HB6 := Lib.hid hB6
    clear hB6 hb6
    gi_wp2_with fail
    have hb7 := (hbx.set (Value.bool true)).cell
    have hres := Lib.hid (show Below w.heap.size w (w6.setCell ⟨w.heap.size + 1 + 1 + 1, 0, none⟩ (.bool true)) from HB6.out.below.setCell (by show w.heap.size ≤ w.heap.size + 1 + 1 + 1; omega) _)
    exact ⟨_, by simp [results, Tryd.results3, go_sem, hb7], rfl, hres.out⟩
  | true =>
    have hL := HLI.out rfl
    have HJ := Lib.hid (CJ.out hL)
    have HR := Lib.hid (CR.out hL)
    have HE := Lib.hid (CE.out hL)
    have HFL := Lib.hid ((Ns.light_left hL).more (n' := 100) (m' := 100) (by decide) (by decide))
    have HFR := Lib.hid ((Ns.light_right hL).more (n' := 100) (m' := 100) (by decide) (by decide))
    have HSZ := Lib.hid (Mt.light_sizes hL.1)
    have hn40 : n ≤ 40 := by have := hL.2.2.1; have := HN.out.1; omega
    clear hL CJ CR CE
    gi_wp2_with fail
    refine rounds_inv 6 (TlInv w P0 L0 R0 pl p0 n c0 rl c1) ?start ?round
    case start => exact ⟨w5.heap.size, [], _, _, _, _, _, _, _, _, _, _, _, _, _, _, _, _, _, _, _, _, _, _, _, _, _, _, _, _, _, _, _, _, _, _, _, _, _, _, _, _, _, _, _, _, _, _, _, _, _, _, _, _, _, _, _, _, rfl, Boxed.new _ _ _, by have := HB5.out.size; omega, HB5.out.below_ (below_low (below_new w5 _) HB5.out.size), List.nodup_nil, fun D h => by simp at h⟩
    case round =>
      rintro q a' wr K' hq ⟨K, Ds, u8, u9, u10, u17, u18, u19, u20, u21, u22, u23, u24, u25, u26, u27, u28, u29, u30, u31, u32, u33, u34, u35, u36, u37, u38, u39, u40, u41, u42, u43, u44, u45, u46, u47, u48, u49, u50, u51, u52, u53, u54, u55, u56, u57, u58, u59, u60, u61, u62, u63, u64, u65, u66, u67, u68, u69, rfl, hbK, hK, hB, hnd, hDs⟩ hnext
      have hcc := hB.c
      have hcl := hB.l
      have hcr := hB.r
      have hcK := hbK.cell
      have HB := Lib.hid hB
      have HK := Lib.hid (And.intro hbK hK)
      have HD := Lib.hid (And.intro hnd hDs)
      have HNX := Lib.hid hnext
      clear hB hbK hK hnd hDs hnext
      by_cases hlt : q < 6
      · have i1 : (q : Int) ≤ 5 := by omega
        have cJ := fun W (h : Below wr.heap.size wr W) => HJ.out (q : Int) W (below_join HB.out.below h)
        have cR := fun W (h : Below wr.heap.size wr W) => HR.out (q : Int) W (below_join HB.out.below h)
        have hfj := Ns.join_few (k := (q : Int)) (ps := ps) HFL.out HFR.out
        obtain ⟨J, hJ⟩ : ∃ J, J = Ns.join (q : Int) ps L R := ⟨_, rfl⟩
        rw [← hJ] at cJ cR hfj
        obtain ⟨jl, hjl⟩ : ∃ m, m = J.length := ⟨_, rfl⟩
        have CCJ := Lib.hid (show ∀ W, Below wr.heap.size wr W → Calls Tryd.prog 8 #[.int .i64 (q : Int), .slice P0 pl p0, .slice L0 n c0, .slice R0 rl c1] W fun E w' => ∃ A c, E = .returned (.slice A jl c) ∧ TusOn Al w' (.slice A jl c) J ∧ Below W.heap.size W w' ∧ Below wr.heap.size wr w' from fun W h => (cJ W h).mono fun E w' hE => by
          obtain ⟨A, c, he, h2, h3⟩ := hE
          exact ⟨A, c, by rw [he, hjl], by rw [hjl]; exact h2, h3, below_join h h3⟩)
        have CCR := Lib.hid (show ∀ W, Below wr.heap.size wr W → Calls Tryd.prog 9 #[.int .i64 (q : Int), .slice P0 pl p0, .slice L0 n c0, .slice R0 rl c1] W fun E w' => ∃ A c, E = .returned (.slice A jl c) ∧ TusOn Al w' (.slice A jl c) J ∧ Below W.heap.size W w' ∧ Below wr.heap.size wr w' from fun W h => (cR W h).mono fun E w' hE => by
          obtain ⟨A, c, he, h2, h3⟩ := hE
          exact ⟨A, c, by rw [he, hjl], by rw [hjl]; exact h2, h3, below_join h h3⟩)
        have CCC := Lib.hid (show ∀ (A B : Option Addr) (c d : Nat) (W : World), TusOn Al W (.slice A jl c) J → TusOn Al W (.slice B jl d) J → Below wr.heap.size wr W → Calls Tryd.prog 7 #[.slice A jl c, .slice B jl d] W fun E w' => E = .returned (.bool true) ∧ Below wr.heap.size wr w' from fun A B c d W hA hB h => by
          have := r13list_any Al _ _ J J W hA hB (fun x hx => Nat.le_trans (hfj.tup x hx).1 (by decide)) (fun x hx => Nat.le_trans (hfj.tup x hx).1 (by decide)) (fun x hx y hy => Nat.le_trans ((hfj.tup x hx).2 y hy) (by decide)) (fun x hx y hy => Nat.le_trans ((hfj.tup x hx).2 y hy) (by decide)) (Nat.le_trans hfj.len (by decide)) (Nat.le_trans hfj.len (by decide))
          rw [Mt.list_refl] at this
          exact this.mono fun E w' hE => ⟨hE.1, below_join h hE.2⟩)
        have KK := Lib.hid (fun W (h : Below wr.heap.size wr W) => (show W.cell? ⟨K, 0, none⟩ = some (.int .i64 (q : Int)) ∧ W.cell? ⟨w.heap.size, 0, none⟩ = some (.slice P0 pl p0) ∧ W.cell? ⟨w.heap.size + 1, 0, none⟩ = some (.slice L0 n c0) ∧ W.cell? ⟨w.heap.size + 1 + 1, 0, none⟩ = some (.slice R0 rl c1) ∧ Below wr.heap.size wr W from
          ⟨(h.cell (show K < wr.heap.size from HK.out.1.lt)).trans HK.out.1.cell, (h.cell (show w.heap.size < wr.heap.size by have := HB.out.size; omega)).trans HB.out.c, (h.cell (show w.heap.size + 1 < wr.heap.size by have := HB.out.size; omega)).trans HB.out.l, (h.cell (show w.heap.size + 1 + 1 < wr.heap.size by have := HB.out.size; omega)).trans HB.out.r, h⟩))
        have hS := Below.refl wr.heap.size wr
        clear cJ cR hfj hJ hjl
        gi_wp2_with fail
        refine wpIn_wide.2 ?_
        go_region_held3 (fun W => W.cell? ⟨K, 0, none⟩ = some (.int .i64 (q : Int)) ∧ W.cell? ⟨w.heap.size, 0, none⟩ = some (.slice P0 pl p0) ∧ W.cell? ⟨w.heap.size + 1, 0, none⟩ = some (.slice L0 n c0) ∧ W.cell? ⟨w.heap.size + 1 + 1, 0, none⟩ = some (.slice R0 rl c1) ∧ Below wr.heap.size wr W) (first | (exact KK.out _ (by repeat first | assumption | refine Below.drew ?_)))
          (first
            | (go_at_call 8; (with_reducible refine (CCJ.out _ (by repeat first | assumption | refine Below.drew ?_)).mono ?_); rintro e wA ⟨A5, a5, rfl, hTA, hBA, hSA⟩)
            | (go_at_call 9; (with_reducible refine (CCR.out _ (by repeat first | assumption | refine Below.drew ?_)).mono ?_); rintro e wB ⟨A6, a6, rfl, hTB, hBB, hSB⟩)
            | (go_at_call 7; (with_reducible refine (CCC.out _ _ _ _ _ (by first | assumption | exact TusOn.below (by assumption) (by assumption) (Nat.le_refl _)) (by first | assumption | exact TusOn.below (by assumption) (by assumption) (Nat.le_refl _)) (by repeat first | assumption | refine Below.drew ?_)).mono ?_); rintro e wC ⟨rfl, hSC⟩)
            | (fail "no arm"))
        all_goals
          have hBC := HB.out.below_ (below_low hSC HB.out.size)
          have hKC : Boxed wC K 3 (.int .i64 (q : Int)) := (hSC.block _ HK.out.1.lt).trans HK.out.1
          have hDC : ∀ D ∈ Ds, wC.heap[D]? = some (.deferred (some [])) ∧ w.heap.size + 4 ≤ D ∧ D < wr.heap.size := fun D hD => by
            have h1 := HD.out.2 D hD
            have h2 := (Array.getElem?_eq_some_iff.1 h1.1).1
            exact ⟨(hSC.block D h2).trans h1.1, h1.2, h2⟩
          obtain ⟨W8, hW8⟩ : ∃ W8, W8 = wC.alloc (Obj.cells #[.int .i64 0] 3) := ⟨_, rfl⟩
          have hb8 : Below wC.heap.size wC W8 := by rw [hW8]; exact below_new _ _
          have hs8 : W8.heap.size = wC.heap.size + 1 := by rw [hW8]; simp
          have hx8 : Boxed W8 wC.heap.size 3 (.int .i64 0) := by rw [hW8]; exact Boxed.new _ _ _
          have hB8 := hBC.below_ (below_low hb8 hBC.size)
          have hK8 : Boxed W8 K 3 (.int .i64 (q : Int)) := (hb8.block _ hKC.lt).trans hKC
          have hws := hSC.size
          have hcc := hB8.c
          have hcl := hB8.l
          have hcr := hB8.r
          have hcK := hK8.cell
          have ce := HE.out (q : Int) W8 hB8.below
          rw [hW8] at hcc hcl hcr hcK
          have HW8 := Lib.hid hW8
          have H8 := Lib.hid (And.intro hB8 (And.intro hK8 (And.intro hx8 (And.intro hs8 (And.intro hb8 (And.intro hDC hws))))))
          clear hBC hKC hDC hW8 hb8 hs8 hx8 hB8 hK8 hws hTA hBA hSA hTB hBB hSB hSC hS i1
          gi_wp2_with fail
          rw [← HW8.out]
          clear hcc hcl hcr hcK
          refine ⟨trivial, (callsIn_wide.2 ce).mono ?_⟩
          rintro e w9 ⟨s, cv', lv', rv', rfl, hcells, hs1, hs2, hp', hl', hr', hb9⟩
          clear ce
          have heq := fun (W : World) (c : Array Value) => run_eql_func14 (P := Tryd.prog) W (.func 22) #[] c Tryd.underlying29
          gi_wp2_with fail
          clear heq
          obtain ⟨N, hN⟩ : ∃ N, N = w9.heap.size := ⟨_, rfl⟩
          have hNs : s + 4 = N := by omega
          have hB9 := H8.out.1.below_ (below_low hb9 H8.out.1.size)
          obtain ⟨T, hT⟩ : ∃ T : Nat → Prop, T = fun j => j < w.heap.size ∨ (W8.heap.size ≤ j ∧ j < N) := ⟨_, rfl⟩
          have hTn : ¬ T wC.heap.size := fun h => by
            rw [hT] at h
            have := H8.out.2.2.2.1
            have := H8.out.1.size
            have := H8.out.2.2.2.2.2.2
            have := HB.out.size
            omega
          have hT1 : ∀ j, W8.heap.size ≤ j → j < w9.heap.size → T j := fun j h1 h2 => by rw [hT]; exact .inr ⟨h1, by omega⟩
          have hit := neach_iter 7 T w9 (fun j hj => by rw [hT] at hj; have := hB9.size; omega) s (s + 1) (s + 1 + 1) (s + 1 + 1 + 1) (q : Int) d cv' lv' rv' ps L R hcells (hT1 _ (by omega) (by omega)) (hT1 _ (by omega) (by omega)) (hT1 _ (by omega) (by omega)) (hT1 _ (by omega) (by omega))
            (hp'.keep (Nat.le_refl _) fun j hj hlt => ⟨rfl, hT1 j hj hlt⟩) (hl'.mono fun j hlt hj => hT1 j hj hlt) (hr'.mono fun j hlt hj => hT1 j hj hlt)
            (fun W hk => HW.out.below (hB9.below.trans (hk.below (by have := hB9.size; omega) fun j hj => by rw [hT]; exact .inl hj)) (Nat.le_refl _)) HSZ.out HFL.out HFR.out
          have hI0 : TlI w9 wC.heap.size 0 (fun j => j = wC.heap.size) w9 := ⟨fun _ => Iff.rfl, (hb9.block _ (by have := H8.out.2.2.2.1; omega)).trans H8.out.2.2.1, Keeps.refl _ _⟩
          have HB9 := Lib.hid hB9
          have HN9 := Lib.hid (And.intro hN (And.intro hNs hs1))
          have HTN := Lib.hid (And.intro hT hTn)
          have HB89 := Lib.hid hb9
          -- behind the tour
          have hfin : ∀ (m D : Nat) (O : Nat → Prop) (W : World), D = w9.heap.size → TlI w9 wC.heap.size m O W → W.heap[D]? = some (.deferred (some [])) → Boxed W K 3 (.int .i64 (q : Int)) ∧ K < w9.heap.size ∧ TlBase w W (.slice P0 pl p0) (.slice L0 n c0) (.slice R0 rl c1) ∧ (D :: Ds).Nodup ∧ ∀ E ∈ D :: Ds, W.heap[E]? = some (.deferred (some [])) ∧ w.heap.size + 4 ≤ E := fun m D O W hD h hW => by
            have e1 := H8.out.2.2.2.1
            have e2 := H8.out.1.size
            have e3 := H8.out.2.2.2.2.2.2
            have e4 := HB.out.size
            have e5 := HK.out.1.lt
            have hlt : ∀ E ∈ Ds, E < wr.heap.size := fun E hE => (H8.out.2.2.2.2.2.1 E hE).2.2
            refine ⟨(h.keeps.same K (by have := HB89.out.size; omega) ⟨by omega, by have := HB89.out.size; omega⟩).trans ((HB89.out.block K (by omega)).trans H8.out.2.1), by have := HB89.out.size; omega, HB9.out.keeps h.keeps (fun j hj => ⟨by omega, by have := HB89.out.size; omega⟩), List.nodup_cons.2 ⟨fun hm => by have := hlt D hm; have := HB89.out.size; omega, HD.out.1⟩, fun E hE => ?_⟩
            rcases List.mem_cons.1 hE with rfl | hE
            · exact ⟨hW, by have := HB89.out.size; omega⟩
            · obtain ⟨f1, f2, f3⟩ := H8.out.2.2.2.2.2.1 E hE
              have hs := HB89.out.size
              refine ⟨(h.keeps.same E (by omega) ⟨by omega, by omega⟩).trans ((HB89.out.block E (by omega)).trans ((H8.out.2.2.2.2.1.block E (by omega)).trans f1)), f2⟩
          have HBASE := Lib.hid (show ∀ (m : Nat) (O : Nat → Prop) (W : World), TlI w9 wC.heap.size m O W → Boxed W K 3 (.int .i64 (q : Int)) ∧ TlBase w W (.slice P0 pl p0) (.slice L0 n c0) (.slice R0 rl c1) from fun m O W h => by
            have e1 := H8.out.2.2.2.1
            have e2 := H8.out.1.size
            have e3 := H8.out.2.2.2.2.2.2
            have e4 := HB.out.size
            have e5 := HK.out.1.lt
            exact ⟨(h.keeps.same K (by have := HB89.out.size; omega) ⟨by omega, by have := HB89.out.size; omega⟩).trans ((HB89.out.block K (by omega)).trans H8.out.2.1), HB9.out.keeps h.keeps (fun j hj => ⟨by omega, by have := HB89.out.size; omega⟩)⟩)
          have HFIN := Lib.hid hfin
          clear hfin hcells hp' hl' hr' hb9 hB9 hTn hT1 hT hN hNs hs1 hs2
          refine wpIn_range_rel rfl (by omega) (gf := 22) (lb := #[.pointer (some ⟨s + 1 + 1, 0, none⟩), .pointer (some ⟨s, 0, none⟩), .pointer (some ⟨s + 1, 0, none⟩), .pointer (some ⟨s + 1 + 1 + 1, 0, none⟩)]) rfl trivial (enters_of Tryd.func22 (by kernel_rfl) rfl)
            hit ?hpre ?hC ?hps ?hR (fun pre O W => pre.length ≤ 2 ∧ TlI w9 wC.heap.size pre.length O W) (fun c pre O W => c = .exit 2 ∧ pre.length = 3 ∧ TlI w9 wC.heap.size 3 O W) ?hI ?hIx ?hSD ?hIO (fun j => j = wC.heap.size) ?hO ⟨Nat.zero_le _, hI0⟩
            (fun _ _ _ v a' => ∃ A c n', v = #[.slice A n' c] ∧ a' = { tmps := ((.slice P0 pl p0 : Value) :: (.slice L0 n c0 : Value) :: (.slice R0 rl c1 : Value) :: (.pointer (some ⟨w.heap.size, 0, none⟩) : Value) :: (.pointer (some ⟨w.heap.size + 1, 0, none⟩) : Value) :: (.pointer (some ⟨w.heap.size + 1 + 1, 0, none⟩) : Value) :: (.pointer (some ⟨w.heap.size + 1 + 1 + 1, 0, none⟩) : Value) :: (.pointer (some ⟨K, 0, none⟩) : Value) :: (.pointer (some ⟨wC.heap.size, 0, none⟩) : Value) :: (.func (.func 22) #[] #[.pointer (some ⟨s + 1 + 1, 0, none⟩), .pointer (some ⟨s, 0, none⟩), .pointer (some ⟨s + 1, 0, none⟩), .pointer (some ⟨s + 1 + 1 + 1, 0, none⟩)] : Value) :: (.slice A n' c : Value) :: (.slice P0 pl p0 : Value) :: (.slice L0 n c0 : Value) :: (.slice R0 rl c1 : Value) :: (.bool true : Value) :: (.bool false : Value) :: undef :: (.int .i64 (q : Int) : Value) :: (.bool true : Value) :: u19 :: u20 :: (.int .i64 (q : Int) : Value) :: (.slice P0 pl p0 : Value) :: (.slice L0 n c0 : Value) :: (.slice R0 rl c1 : Value) :: (.slice A5 jl a5 : Value) :: (.int .i64 (q : Int) : Value) :: (.slice P0 pl p0 : Value) :: (.slice L0 n c0 : Value) :: (.slice R0 rl c1 : Value) :: (.slice A6 jl a6 : Value) :: (.bool true : Value) :: (.bool false : Value) :: (.int .i64 (q : Int) : Value) :: (.slice P0 pl p0 : Value) :: (.slice L0 n c0 : Value) :: (.slice R0 rl c1 : Value) :: (.func (.func 22) #[] #[.pointer (some ⟨s + 1 + 1, 0, none⟩), .pointer (some ⟨s, 0, none⟩), .pointer (some ⟨s + 1, 0, none⟩), .pointer (some ⟨s + 1 + 1 + 1, 0, none⟩)] : Value) :: (.func (.func 22) #[] #[.pointer (some ⟨s + 1 + 1, 0, none⟩), .pointer (some ⟨s, 0, none⟩), .pointer (some ⟨s + 1, 0, none⟩), .pointer (some ⟨s + 1 + 1 + 1, 0, none⟩)] : Value) :: (.bool false : Value) :: (.func (.func 22) #[] #[.pointer (some ⟨s + 1 + 1, 0, none⟩), .pointer (some ⟨s, 0, none⟩), .pointer (some ⟨s + 1, 0, none⟩), .pointer (some ⟨s + 1 + 1 + 1, 0, none⟩)] : Value) :: (.slice A n' c : Value) :: u42 :: u43 :: u44 :: u45 :: u46 :: u47 :: u48 :: u49 :: u50 :: u51 :: u52 :: u53 :: u54 :: u55 :: u56 :: u57 :: u58 :: u59 :: u60 :: u61 :: u62 :: u63 :: u64 :: u65 :: u66 :: u67 :: u68 :: u69 :: []).toArray, defers := [] })
            (fun _ _ _ _ _ _ _ h => h) ?assign ?body ?done ?stop
          case hpre => exact fun W3 hb => keeps_all hb
          case hC => intro j hj; rw [HTN.out.1] at hj; have := HN9.out.1; have := HB9.out.size; omega
          case hps => rintro B O W x vs ⟨A, c, rfl, _⟩; rfl
          case hR =>
            rintro O O' W W' x vs hOL hOO hk ⟨A, c, rfl, hx⟩
            refine ⟨A, c, rfl, (hx.keep hk fun j _ hj e => ?_).mono fun j _ hj => ⟨fun h => hj.1 (hOO j h), hj.2⟩⟩
            exact hj.1 (e ▸ hOL)
          case hI =>
            rintro pre O A B ⟨h1, h⟩ hk
            exact ⟨h1, h.keep hk fun j hj => ⟨trivial, by omega, by omega⟩⟩
          case hIx =>
            rintro c pre O A B ⟨h1, h2, h⟩ hk
            exact ⟨h1, h2, h.keep hk fun j hj => ⟨trivial, by omega, by omega⟩⟩
          case hSD => intro j _; trivial
          case hIO =>
            rintro pre O W ⟨h1, h⟩ j hj
            have e := (h.own j).1 hj
            subst e
            exact ⟨h.box.lt, HTN.out.2⟩
          case hO => intro j hj; have := H8.out.2.2.2.1; have := HB89.out.size; omega
          case assign =>
            rintro l2 x vs O W3 K2 _ _ ⟨A, c, rfl, _⟩ hK2
            rw [show (#[41] : Array Tmp).zip #[Value.slice A (Mt.extend (q : Int) ps x R).length c] = #[(41, Value.slice A (Mt.extend (q : Int) ps x R).length c)] from by simp [List.zip_toArray]]
            generalize (Mt.extend (q : Int) ps x R).length = ml at *
            clear hit hI0
            gi_wp2
            exact hK2 _ _ (Keeps.refl _ _) ⟨A, c, ml, rfl, rfl⟩
          case body =>
            rintro l2 pre x vs O W3 a' hl2 ⟨h2, h⟩ hpx ⟨MA, mc, hvs, hMO⟩ ⟨A2, c2, n2, hv2, rfl⟩
            rw [hvs] at hv2
            obtain ⟨rfl, rfl, rfl⟩ : MA = A2 ∧ (Mt.extend (q : Int) ps x R).length = n2 ∧ mc = c2 := by simpa using hv2
            obtain ⟨m, hm⟩ : ∃ m, m = pre.length := ⟨_, rfl⟩
            have hgx : L[m]? = some x := by
              obtain ⟨r, hr⟩ := hpx
              rw [← hr, List.append_assoc, List.getElem?_append_right (by omega), hm, Nat.sub_self]
              rfl
            have hll : (pre ++ [x]).length = m + 1 := by rw [hm]; simp
            rw [← hm] at h2 h
            have hmn : m < n := by have := (List.getElem?_eq_some_iff.1 hgx).1; have := HN.out.1; omega
            have HM3 := Lib.hid (show ((m : Int) + 1 = 3 ∧ (pre ++ [x]).length = 3) ∨ (¬ ((m : Int) + 1 = 3) ∧ (pre ++ [x]).length ≤ 2) by rw [hll]; omega)
            obtain ⟨hbK, hB3⟩ := HBASE.out m O W3 h
            have hst := h.step (Below.refl _ W3)
            -- the arguments and the tuple, in whatever world comes
            have hb03 := hB3.below
            obtain ⟨b, o, p, B2, d2, hL0, _, htup⟩ := (HP.out.2.1.below hb03 (Nat.le_refl _)).pick hgx
            obtain ⟨lb, hlb⟩ : ∃ lb : Addr, lb = ⟨b, o, p⟩ := ⟨_, rfl⟩
            rw [← hlb] at hL0 htup
            subst hL0
            have hY := Lib.hid (show ∀ W, Below W3.heap.size W3 W → W.cell? ⟨K, 0, none⟩ = some (.int .i64 (q : Int)) ∧ W.cell? ⟨w.heap.size, 0, none⟩ = some (.slice P0 pl p0) ∧ W.cell? ⟨w.heap.size + 1, 0, none⟩ = some (.slice (some lb) n c0) ∧ W.cell? ⟨w.heap.size + 1 + 1, 0, none⟩ = some (.slice R0 rl c1) ∧ W.cell? ⟨wC.heap.size, 0, none⟩ = some (.int .i64 (m : Int)) ∧ W.cell? (lb.add m) = some (.slice B2 x.length d2) from fun W hb =>
              ⟨(hb.cell (show K < W3.heap.size from hbK.lt)).trans hbK.cell, (hb.cell (show w.heap.size < W3.heap.size by have := hB3.size; omega)).trans hB3.c, (hb.cell (show w.heap.size + 1 < W3.heap.size by have := hB3.size; omega)).trans hB3.l, (hb.cell (show w.heap.size + 1 + 1 < W3.heap.size by have := hB3.size; omega)).trans hB3.r, (hb.cell (show wC.heap.size < W3.heap.size from h.box.lt)).trans h.box.cell, (htup W hb).1⟩)
            have hxm := HFL.out.tup x (List.mem_of_getElem? hgx)
            have hxf := Ns.extend_few (k := (q : Int)) (ps := ps) hxm HFR.out
            obtain ⟨M, hM⟩ : ∃ M, M = Mt.extend (q : Int) ps x R := ⟨_, rfl⟩
            rw [← hM] at hMO hxf ⊢
            have CX := Lib.hid (show ∀ W, Below W3.heap.size W3 W → Calls Tryd.prog 11 #[.int .i64 (q : Int), .slice P0 pl p0, .slice B2 x.length d2, .slice R0 rl c1] W fun E w' => ∃ A c, E = .returned (.slice A M.length c) ∧ TusOn Al w' (.slice A M.length c) M ∧ Below W3.heap.size W3 w' from fun W hb => by
              have hbw := hb03.trans (below_low hb (by have := hB3.size; omega))
              have := r13extend_any Al (q : Int) d _ _ _ ps x R W (HP.out.1.below hbw (Nat.le_refl _)) HSZ.out (htup W hb).2 (HP.out.2.2.below hbw (Nat.le_refl _)) hxm.1 hxm.2 (Nat.le_trans HFR.out.len (by decide)) (fun y hy => (HFR.out.tup y hy).1) (fun y hy => (HFR.out.tup y hy).2)
              rw [← hM] at this
              exact this.mono fun E w' ⟨A, c, h1, h2, h3⟩ => ⟨A, c, h1, h2, below_join hb h3⟩)
            have CY := Lib.hid (show ∀ (A : Option Addr) (c : Nat) W, Below W3.heap.size W3 W → TusOn Al W (.slice A M.length c) M → Calls Tryd.prog 7 #[.slice MA M.length mc, .slice A M.length c] W fun E w' => E = .returned (.bool true) ∧ Below W3.heap.size W3 w' from fun A c W hb hA => by
              have := r13list_any Al _ _ M M W (hMO.al.below hb (Nat.le_refl _)) hA (fun y hy => Nat.le_trans (hxf.tup y hy).1 (by decide)) (fun y hy => Nat.le_trans (hxf.tup y hy).1 (by decide)) (fun y hy z hz => Nat.le_trans ((hxf.tup y hy).2 z hz) (by decide)) (fun y hy z hz => Nat.le_trans ((hxf.tup y hy).2 z hz) (by decide)) (Nat.le_trans hxf.len (by decide)) (Nat.le_trans hxf.len (by decide))
              rw [Mt.list_refl] at this
              exact this.mono fun E w' ⟨h1, h2⟩ => ⟨h1, below_join hb h2⟩)
            obtain ⟨ml, hml⟩ : ∃ k, k = M.length := ⟨_, rfl⟩
            obtain ⟨xl, hxl⟩ : ∃ k, k = x.length := ⟨_, rfl⟩
            rw [← hml] at CX CY ⊢
            rw [← hxl] at hY CX
            have HST := Lib.hid (fun W (hb : Below W3.heap.size W3 W) => h.step hb)
            have HLL := Lib.hid hll
            have HBX := Lib.hid h.box
            have hwr := Lib.hid (show (m : Int) + 1 ≤ 9223372036854775807 by omega)
            clear hvs hv2 hbK hB3 hst hb03 htup hxm hxf hM hMO hml hxl hll hpx hit hI0 h hlb hgx
            gi_wp2_with fail
            refine tells_region rfl rfl rfl rfl rfl rfl rfl rfl rfl rfl rfl rfl rfl rfl rfl rfl rfl rfl rfl rfl rfl rfl rfl rfl rfl rfl rfl rfl rfl rfl rfl rfl rfl rfl rfl rfl rfl rfl rfl rfl rfl rfl rfl rfl rfl rfl rfl rfl rfl rfl rfl rfl rfl rfl rfl rfl rfl rfl rfl rfl rfl rfl rfl rfl rfl rfl rfl rfl (by kernel_rfl) (by kernel_rfl) (by kernel_rfl) (by kernel_rfl) (by kernel_rfl) (by kernel_rfl) (by kernel_rfl) (by kernel_rfl) (by kernel_rfl) (by kernel_rfl) (by kernel_rfl) (by kernel_rfl) (by kernel_rfl) (by kernel_rfl) (by kernel_rfl) (by kernel_rfl) (by kernel_rfl) (by kernel_rfl) (by kernel_rfl) (by kernel_rfl) (by kernel_rfl) (by kernel_rfl) (by kernel_rfl) (by kernel_rfl) (by kernel_rfl) (by kernel_rfl) (by kernel_rfl) rfl (by kernel_rfl) _ W3 (q : Int) m n c0 c1 rl pl p0 xl d2 ml mc P0 R0 B2 MA lb M ⟨K, 0, none⟩ ⟨w.heap.size, 0, none⟩ ⟨w.heap.size + 1, 0, none⟩ ⟨w.heap.size + 1 + 1, 0, none⟩ ⟨wC.heap.size, 0, none⟩ rfl rfl rfl rfl rfl rfl rfl hmn hY.out CX.out CY.out fun A c W hb => ?_
            simp only [tlVs, List.map_cons, List.map_nil, puts, List.foldl_cons, List.foldl_nil, List.setIfInBounds_toArray, List.set_cons_zero, List.set_cons_succ]
            have hbx : Boxed W wC.heap.size 3 (.int .i64 (m : Int)) := (hb.block _ HBX.out.lt).trans HBX.out
            have hc1 := hbx.cell
            have hc2 := hbx.frozen
            have hst := Lib.hid (HST.out W hb)
            have hbs := hbx.set (Value.int .i64 ((m : Int) + 1))
            have hc3 := hbs.cell
            have HM := Lib.hid hm
            clear hb hbs hY CX CY hm
            have hwr1 := hwr.out
            rcases HM3.out with ⟨i3, hml3⟩ | ⟨i3, hml3⟩
            · have HM4 := Lib.hid hml3
              have HI3 := Lib.hid i3
              clear hml3
              gi_wp2_with fail
              have h1 := hst.out
              rw [HI3.out, show m + 1 = 3 by have := HI3.out; omega] at h1
              exact ⟨O, ⟨rfl, HM4.out, h1.1⟩, h1.2⟩
            · have HM4 := Lib.hid hml3
              have hbt : (((m : Int) + 1) == 3) = false := beq_eq_false_iff_ne.2 i3
              have HI3 := Lib.hid i3
              clear hml3 i3
              gi_wp2_with fail
              exact ⟨O, ⟨HM4.out, by rw [HLL.out]; exact hst.out.1⟩, hst.out.2⟩
          case done =>
            rintro D O W3 hD ⟨h2, h⟩ hOD hW
            rw [← HN.out.1] at h2 h
            have i1 : min (3 : Int) (n : Int) = (n : Int) := by omega
            obtain ⟨hbK, hKl, hB3, hnd, hDs⟩ := HFIN.out _ D O W3 hD h hW
            have y8 := h.box.cell
            have y4 := hB3.l
            have y7 := hbK.cell
            have i2 : (q : Int) + 1 ≤ 9223372036854775807 := by omega
            have hwr := Lib.hid (show wrap64 ((q : Int) + 1) = ((q + 1 : Nat) : Int) by unfold wrap64; omega)
            have H3 := Lib.hid (And.intro hB3 (And.intro hnd hDs))
            have hlt := hlt
            clear hbK hB3 hnd hDs h hit hI0 hOD hW hKl
            gi_wp2_with fail
            clear y8 y4 y7
            have hW3 := H3.out.1.size
            refine HNX.out _ _ hlt ⟨W3.heap.size, D :: Ds, _, _, _, _, _, _, _, _, _, _, _, _, _, _, _, _, _, _, _, _, _, _, _, _, _, _, _, _, _, _, _, _, _, _, _, _, _, _, _, _, _, _, _, _, _, _, _, _, _, _, _, _, _, _, _, _, rfl, by rw [show ((q + 1 : Nat) : Int) = (q : Int) + 1 by omega]; exact Boxed.new _ _ _, by omega, H3.out.1.below_ (below_low (below_new W3 _) H3.out.1.size), H3.out.2.1, fun E hE => ⟨(Below.heap_alloc _ _ _ (Array.getElem?_eq_some_iff.1 (H3.out.2.2 E hE).1).1).trans (H3.out.2.2 E hE).1, (H3.out.2.2 E hE).2⟩⟩
          case stop =>
            rintro D c pre O W3 hD hpx ⟨rfl, h3, h⟩ hOD hW
            have hpl := hpx.length_le
            rw [h3, ← HN.out.1] at hpl
            have i1 : min (3 : Int) (n : Int) = 3 := by omega
            clear h3 hpx
            obtain ⟨hbK, hKl, hB3, hnd, hDs⟩ := HFIN.out _ D O W3 hD h hW
            have y8 := h.box.cell
            have y4 := hB3.l
            have y7 := hbK.cell
            have i2 : (q : Int) + 1 ≤ 9223372036854775807 := by omega
            have hwr := Lib.hid (show wrap64 ((q : Int) + 1) = ((q + 1 : Nat) : Int) by unfold wrap64; omega)
            have H3 := Lib.hid (And.intro hB3 (And.intro hnd hDs))
            have hlt := hlt
            clear hbK hB3 hnd hDs h hit hI0 hOD hW hKl
            gi_wp2_with fail
            clear y8 y4 y7
            have hW3 := H3.out.1.size
            refine HNX.out _ _ hlt ⟨W3.heap.size, D :: Ds, _, _, _, _, _, _, _, _, _, _, _, _, _, _, _, _, _, _, _, _, _, _, _, _, _, _, _, _, _, _, _, _, _, _, _, _, _, _, _, _, _, _, _, _, _, _, _, _, _, _, _, _, _, _, _, _, rfl, by rw [show ((q + 1 : Nat) : Int) = (q : Int) + 1 by omega]; exact Boxed.new _ _ _, by omega, H3.out.1.below_ (below_low (below_new W3 _) H3.out.1.size), H3.out.2.1, fun E hE => ⟨(Below.heap_alloc _ _ _ (Array.getElem?_eq_some_iff.1 (H3.out.2.2 E hE).1).1).trans (H3.out.2.2 E hE).1, (H3.out.2.2 E hE).2⟩⟩
      · have i1 : ¬ (q : Int) ≤ 5 := by omega
        clear hlt hcc hcl hcr
        gi_wp2_with fail
        refine ⟨trivial, (callsIn_wide.2 (CA.out wr HB.out.below)).mono ?_⟩
        rintro e w6 ⟨rfl, hb6⟩
        have hB6 := HB.out.below_ (below_low hb6 HB.out.size)
        have hbc := hB6.b.cell
        have hbf := hB6.b.frozen
        have HB6 := Lib.hid hB6
        have HB66 := Lib.hid hb6
        clear hB6 hb6 hcK
        gi_wp2_with fail
        have hb7 := HB6.out.b.set (Value.bool true)
        have hres : Below w.heap.size w (w6.setCell ⟨w.heap.size + 1 + 1 + 1, 0, none⟩ (.bool true)) := HB6.out.below.setCell (by show w.heap.size ≤ w.heap.size + 1 + 1 + 1; omega) _
        refine leaves_marks Ds _ HD.out.1 (fun D hD => ?_) fun W' hk => ?_
        · obtain ⟨h1, h2⟩ := HD.out.2 D hD
          exact (Below.heap_setCell _ _ _ _ (by show D ≠ w.heap.size + 1 + 1 + 1; omega)).trans ((HB66.out.block D (Array.getElem?_eq_some_iff.1 h1).1).trans h1)
        · have hb8 := (show Boxed W' (w.heap.size + 1 + 1 + 1) 4 (.bool true) from (hk.same _ hb7.lt (fun hm => by have := (HD.out.2 _ hm).2; omega)).trans hb7).cell
          have hb9 : Below w.heap.size w W' := hres.trans (hk.below hres.size fun j hj hm => by have := (HD.out.2 _ hm).2; omega)
          exact ⟨_, by simp [results, Tryd.results3, go_sem, hb8], rfl, hb9⟩
end Go.Proofs.YtokjhlmpegogcaaDoor
