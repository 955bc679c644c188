/-
  THE LAW's OWN walked: what a tour tells, at most so many.
-/
import Derived.Test.YtpobkpdlohahoaaTrwlM
import Derived.Test.YtpobkpdlohahoaaTrwkM
import Derived.Test.YtpobkpdlohahoaaAppM
namespace Go.Proofs.Ytpobkpdlohahoaa
open Go.RowKit Go.Shelf
attribute [local go_sem] Oper.semAt_some
set_option maxHeartbeats 12800000

theorem run_eql_func10 {P : Program} (w : World) {t : TypeId} {x y z} (f : Fn) (a c : Array Value) (h : P.underlying t = some (.func x y z)) : (binOp .eql t (.func f a c) .nilFunc).run P w = .ok (.bool false) w := by
  have h1 : ∀ d : Nat, (Op.equalIn (d + 1) t (.func f a c) .nilFunc).run P w = .ok false w := fun d => by
    simp [Op.equalIn, run_underlying h]
  simp only [binOp]
  simp [Op.equal, Op.maxDepth, h1 9999]
theorem sepFrom_normal {α : Type} {B : Nat} {I : List α → (Nat → Prop) → World → Prop} {Ix : Code → List α → (Nat → Prop) → World → Prop} {xs : List α} {O : Nat → Prop} {W W' : World} {a : Act} (h : ∃ O', I xs O' W' ∧ ChgFrom B O W O' W') : sepFrom B I Ix xs O W .normal a W' := h
theorem step_wanted {c : Bool} {A B : Prop} (hc : c = true) (h : A) : if c = true then A else B := by rw [if_pos hc]; exact h
theorem wpIn_append_step {F : Fence} {n : Nat} {P : Program} {o : Oper} {a : Act} {w w' : World} {K : Act → World → Prop} {Q : Exit → Act → World → Prop} {v v2 v' : Value}
    (s x : Operand) (t : TypeId) (hop : o.op = Op.call { callee := Callee.builtin Builtin.append, args := #[s, x], argTypes := #[t, t] })
    (hs : a.eval s = v) (hx : a.eval x = v2) (hrun : (Builtin.append_ #[t, t] o.type #[v, v2]).run P w = .ok v' w') (hK : K (a.put o.dst v') w') : o.wpIn F n P a w K Q := by
  unfold Oper.wpIn
  refine ⟨?_, ?_⟩
  · simp [Oper.about, hop, resolve, Target.leads, Sem.run_pure]
  · rw [Oper.semAt_plain F _ _ (by rw [hop]; intro c hc'; cases hc')]
    simp [execOp, hop, resolve, invoke, builtin, hs, hx, hrun, Result.andThen]
    exact hK
theorem setMany_tail (A Z ys : List Value) (h : Z.length = ys.length) : setMany (A ++ Z) A.length ys = A ++ ys := by
  refine List.ext_getElem? fun k => ?_
  by_cases hk : k < A.length
  · rw [setMany_out _ _ _ _ (.inl hk), List.getElem?_append_left hk, List.getElem?_append_left hk]
  · obtain ⟨i, rfl⟩ : ∃ i, k = A.length + i := ⟨k - A.length, by omega⟩
    by_cases hi : i < ys.length
    · rw [setMany_in _ _ _ _ hi (by rw [List.length_append, h]; omega), List.getElem?_append_right (by omega), Nat.add_sub_cancel_left]
    · rw [List.getElem?_eq_none (by rw [setMany_length, List.length_append, h]; omega), List.getElem?_eq_none (by rw [List.length_append]; omega)]
theorem own_sets {base size g n cap : Nat} {e : TypeId} (ys : List Value) : ∀ {w : World} {xs : List Value} (o : Nat), w.ownsRow base e size (.slice (some ⟨g, 0, none⟩) n cap) n xs → (setCells w g o ys).ownsRow base e size (.slice (some ⟨g, 0, none⟩) n cap) n (setMany xs o ys) := by
  induction ys with
  | nil => intro w xs o h; exact h
  | cons y r ih => intro w xs o h; exact ih (o + 1) (h.stored o y).1
theorem own_block {w w' : World} {base size g n cap : Nat} {e : TypeId} {xs : List Value} (h : w.ownsRow base e size (.slice (some ⟨g, 0, none⟩) n cap) n xs) (hb : w'.heap[g]? = w.heap[g]?) : w'.ownsRow base e size (.slice (some ⟨g, 0, none⟩) n cap) n xs := by
  refine ⟨h.1, ?_⟩
  rcases h.2 with h | ⟨g', cap', cur, hv, hbg, hgc, rest⟩
  · exact .inl h
  · cases hv
    exact .inr ⟨g, cap, cur, rfl, hbg, hb.trans hgc, rest⟩
/-- a row of trees of one's own, as it reads -/
theorem own_trs {w : World} {base : Nat} {T : TypeId} {v : Value} {L : List TrV} (ho : w.ownsRow base T 5 v L.length (trCells L)) (hx : ∀ x ∈ L, TrHang w x) (hl : L.length ≤ 2000) : ∃ d, TsAt d w v (L.map (·.1)) := by
  have hD : ∀ M : List TrV, (∀ x ∈ M, TrHang w x) → ∃ D, ∀ x ∈ M, TsAt D w x.2.1 x.1.ks := by
    intro M
    induction M with
    | nil => intro _; exact ⟨0, fun x h => by simp at h⟩
    | cons y r ih =>
      intro h
      obtain ⟨D, hD⟩ := ih fun x hx => h x (List.mem_cons_of_mem _ hx)
      obtain ⟨d, hd⟩ := (h y List.mem_cons_self).1
      exact ⟨max d D, fun x hx => by
        rcases List.mem_cons.1 hx with rfl | hx
        · exact hd.mono (by omega)
        · exact (hD x hx).mono (by omega)⟩
  obtain ⟨D, hD⟩ := hD L hx
  obtain ⟨A, c, rfl, hc⟩ := own_tr ho
  have hcap : L.length ≤ c := by
    rcases ho.2 with ⟨hv, hn⟩ | ⟨g, cap, cur, hv, _, _, hnc, _⟩
    · rw [hn]; exact Nat.zero_le _
    · cases hv; exact hnc
  refine ⟨D + 1, A, c, by rw [List.length_map], ⟨by rw [List.length_map]; omega, by rw [List.length_map]; exact hcap⟩, fun j a hj => ?_⟩
  rw [List.getElem?_map] at hj
  obtain ⟨x, hxj, rfl⟩ := Option.map_eq_some_iff.1 hj
  obtain ⟨g, rfl, _, hlt, hcell⟩ := hc j x hxj
  have hm := List.mem_of_getElem? hxj
  exact ⟨g, 0, none, _, _, rfl, hlt, hcell, (hx x hm).2, hD x hm⟩
/-- between two rounds: the row so far, in its box; the bound, in its box; what hangs from the row lies where the tour turns nothing -/
structure WkI (w : World) (N mx : Nat) (pre : List Tr) (O : Nat → Prop) (W : World) : Prop where
  row : ∃ v L, L.map (·.1) = pre ∧ Boxed W (w.heap.size + 3) 22 v ∧ W.ownsRow w.heap.size 25 5 v L.length (trCells L) ∧ (∀ k, O k ↔ (k = w.heap.size + 3 ∨ v.ownBlock = some k)) ∧ (∀ k, v.ownBlock = some k → k = w.heap.size + 2 ∨ N + 2 ≤ k) ∧ ∀ x ∈ L, TrOn (fun k => ¬ O k ∧ WalkT (N + 2) k) W x
  most : W.cell? ⟨w.heap.size + 1, 0, none⟩ = some (.int .i64 mx)
  size : N ≤ W.heap.size
  below : Below w.heap.size w W
  len : pre.length ≤ mx
theorem WkI.keep {w : World} {N mx : Nat} (hN : w.heap.size + 5 ≤ N) {pre : List Tr} {O : Nat → Prop} {A C : World} (h : WkI w N mx pre O A) (hk : Keeps (fun k => O k ∨ WalkT (N + 2) k) A C) : WkI w N mx pre O C := by
  obtain ⟨⟨v, L, hL, hb, ho, hO, hn, hx⟩, hm, hs, hbel, hl⟩ := h
  have hlow : ∀ k, k < N → k < A.heap.size → C.heap[k]? = A.heap[k]? := fun k h h2 => hk.same k h2 (.inr (.inl (by omega)))
  refine ⟨⟨v, L, hL, (hlow _ (by omega) hb.lt).trans hb, ?_, hO, hn, fun x hm => (hx x hm).keep hk.size fun k h1 h2 => ⟨hk.same k h2 (.inr h1.2), h1⟩⟩, (World.cell?_of_block (a := ⟨w.heap.size + 1, 0, none⟩) (hlow (w.heap.size + 1) (by omega) (by omega))).trans hm, Nat.le_trans hs hk.size, hbel.trans ⟨hk.os, hk.tape, hk.output, hk.size, fun k h => hlow k (by omega) (by omega)⟩, hl⟩
  refine ⟨ho.1, ?_⟩
  rcases ho.2 with h | ⟨g, cap, cur, hv, hbg, hgc, rest⟩
  · exact .inl h
  · have hg : O g := (hO g).2 (.inr (by rw [hv]; rfl))
    exact .inr ⟨g, cap, cur, hv, hbg, (hk.same g (ho.lt g (by rw [hv]; rfl)).2 (.inl hg)).trans hgc, rest⟩
/-- behind 'out = append(out, x)' -/
theorem WkI.step {w W w1 W' : World} {N mx B0 n cv g1 cap1 : Nat} {pre : List Tr} {O : Nat → Prop} {L : List TrV} {x : TrV} {Av : Option Addr} {tmp : Obj} (hN : w.heap.size + 5 ≤ N) (hL : L.map (·.1) = pre) (hlt : pre.length < mx)
    (hO : ∀ k, O k ↔ (k = w.heap.size + 3 ∨ (Value.slice Av n cv).ownBlock = some k)) (hn : ∀ k, (Value.slice Av n cv).ownBlock = some k → k = w.heap.size + 2 ∨ N + 2 ≤ k) (hxs : ∀ x ∈ L, TrOn (fun k => ¬ O k ∧ WalkT (N + 2) k) W x)
    (hm : W.cell? ⟨w.heap.size + 1, 0, none⟩ = some (.int .i64 mx)) (_ : N ≤ W.heap.size) (hbel : Below w.heap.size w W)
    (hgr : (W.drew.alloc tmp).grownBy w1 (Value.slice Av n cv).ownBlock) (hwh : (Value.slice (some ⟨g1, 0, none⟩) (n + 1) cap1).ownBlock = (Value.slice Av n cv).ownBlock ∨ ∃ g, (Value.slice (some ⟨g1, 0, none⟩) (n + 1) cap1).ownBlock = some g ∧ (W.drew.alloc tmp).heap.size ≤ g)
    (hln : L.length = n) (hrow : W'.ownsRow w.heap.size 25 5 (.slice (some ⟨g1, 0, none⟩) (n + 1) cap1) (n + 1) (trCells L ++ trCells [x])) (hbox : Boxed W' (w.heap.size + 3) 22 (.slice (some ⟨g1, 0, none⟩) (n + 1) cap1))
    (hoth : ∀ k, k ≠ g1 → k ≠ w.heap.size + 3 → W'.heap[k]? = w1.heap[k]?) (hsz : W'.heap.size = w1.heap.size) (hos : W'.os = w1.os) (htp : W'.tape = w1.tape) (hout : W'.output = w1.output)
    (hx : TrOn (fun k => ¬ O k ∧ WalkT (N + 2) k) W x) (_ : ∀ k, O k → k < B0) (hB0 : B0 ≤ W.heap.size) (hNB : N + 2 ≤ B0) : ∃ O', WkI w N mx (pre ++ [x.1]) O' W' ∧ ChgFrom B0 O W O' W' := by
  have hg : O g1 ∨ W.heap.size < g1 := by
    rcases hwh with e | ⟨g, e, hg⟩
    · exact .inl ((hO g1).2 (.inr e.symm))
    · simp only [Value.ownBlock, Option.some.injEq] at e
      rw [World.size_alloc] at hg
      change W.heap.size + 1 ≤ g at hg
      exact .inr (by omega)
  have hg2 : g1 = w.heap.size + 2 ∨ N + 2 ≤ g1 := by
    rcases hwh with e | ⟨g, e, hg⟩
    · exact hn g1 e.symm
    · simp only [Value.ownBlock, Option.some.injEq] at e
      rw [World.size_alloc] at hg
      change W.heap.size + 1 ≤ g at hg
      exact .inr (by omega)
  have hsm : ∀ k, k < W.heap.size → ¬ O k → W'.heap[k]? = W.heap[k]? := fun k hk hno => by
    have h1 : k ≠ g1 := fun e => by rcases hg with h | h; exact hno (e ▸ h); omega
    have h2 : k ≠ w.heap.size + 3 := fun e => hno ((hO k).2 (.inl e))
    have h3 : (Value.slice Av n cv).ownBlock ≠ some k := fun e => hno ((hO k).2 (.inr e))
    exact (hoth k h1 h2).trans ((hgr.block k (by rw [World.size_alloc]; show k < W.heap.size + 1; omega) (fun e => h3 e.symm)).trans (Below.heap_alloc W.drew tmp k hk))
  have hsz2 : W.heap.size ≤ W'.heap.size := by
    have h1 := hgr.size
    rw [World.size_alloc] at h1
    change W.heap.size + 1 ≤ _ at h1
    omega
  have hlow : ∀ k, k < w.heap.size + 2 → W'.heap[k]? = W.heap[k]? := fun k hk => hsm k (by omega) fun h => by
    rcases (hO k).1 h with e | e
    · omega
    · have := hn k e; omega
  have ht : ∀ k, (¬ O k ∧ WalkT (N + 2) k) → k < W.heap.size → W'.heap[k]? = W.heap[k]? ∧ (¬ (k = w.heap.size + 3 ∨ (Value.slice (some ⟨g1, 0, none⟩) (n + 1) cap1).ownBlock = some k) ∧ WalkT (N + 2) k) := fun k h hk => ⟨hsm k hk h.1, fun h2 => by
    rcases h2 with e | e
    · exact h.1 ((hO k).2 (.inl e))
    · simp only [Value.ownBlock, Option.some.injEq] at e
      rcases hg with h3 | h3
      · exact h.1 (e ▸ h3)
      · omega, h.2⟩
  refine ⟨fun k => k = w.heap.size + 3 ∨ (Value.slice (some ⟨g1, 0, none⟩) (n + 1) cap1).ownBlock = some k, ⟨⟨_, L ++ [x], by rw [List.map_append, hL]; rfl, hbox, ?_, fun _ => Iff.rfl, fun k hk => ?_, fun y hy => ?_⟩, (World.cell?_of_block (a := ⟨w.heap.size + 1, 0, none⟩) (hlow (w.heap.size + 1) (by omega))).trans hm, by omega, ?_, by rw [List.length_append, List.length_singleton]; omega⟩, ⟨⟨?_, ?_, ?_, hsz2, fun k hk h => hsm k hk h.1⟩, fun k hk h => ?_⟩⟩
  · rw [List.length_append, List.length_singleton, hln, trCells_app]; exact hrow
  · simp only [Value.ownBlock, Option.some.injEq] at hk
    omega
  · rcases List.mem_append.1 hy with h | h
    · exact (hxs y h).keep hsz2 ht
    · rw [List.mem_singleton.1 h]; exact hx.keep hsz2 ht
  · exact hbel.trans ⟨hos.trans hgr.os, htp.trans hgr.tape, hout.trans hgr.output, hsz2, fun k hk => hlow k (by omega)⟩
  · exact hos.trans hgr.os
  · exact htp.trans hgr.tape
  · exact hout.trans hgr.output
  · rcases h with e | e
    · exact (hO k).2 (.inl e)
    · simp only [Value.ownBlock, Option.some.injEq] at e
      rcases hg with h3 | h3
      · exact e ▸ h3
      · omega
/-- the two orders of the two stores -/
theorem WkI.ends {w W w1 : World} {N mx B0 n cv g1 cap1 : Nat} {pre : List Tr} {O : Nat → Prop} {L : List TrV} {x : TrV} {Av : Option Addr} {tmp : Obj} (hN : w.heap.size + 5 ≤ N) (h : WkI w N mx pre O W) (hL : L.map (·.1) = pre) (hlt : pre.length < mx)
    (hO : ∀ k, O k ↔ (k = w.heap.size + 3 ∨ (Value.slice Av n cv).ownBlock = some k)) (hn : ∀ k, (Value.slice Av n cv).ownBlock = some k → k = w.heap.size + 2 ∨ N + 2 ≤ k) (hxs : ∀ x ∈ L, TrOn (fun k => ¬ O k ∧ WalkT (N + 2) k) W x)
    (hgr : (W.drew.alloc tmp).grownBy w1 (Value.slice Av n cv).ownBlock) (hwh : (Value.slice (some ⟨g1, 0, none⟩) (n + 1) cap1).ownBlock = (Value.slice Av n cv).ownBlock ∨ ∃ g, (Value.slice (some ⟨g1, 0, none⟩) (n + 1) cap1).ownBlock = some g ∧ (W.drew.alloc tmp).heap.size ≤ g)
    (hln : L.length = n) (hrow : w1.ownsRow w.heap.size 25 5 (.slice (some ⟨g1, 0, none⟩) (n + 1) cap1) (n + 1) (trCells L ++ [.int .i64 0, .int .i64 0, .slice none 0 0, .slice none 0 0, .bool false])) (hbox : Boxed w1 (w.heap.size + 3) 22 (.slice Av n cv)) (hgb : w.heap.size + 3 ≠ g1)
    (hx : TrOn (fun k => ¬ O k ∧ WalkT (N + 2) k) W x) (hOy : ∀ k, O k → k < B0) (hB0 : B0 ≤ W.heap.size) (hNB : N + 2 ≤ B0) :
    (∃ O', WkI w N mx (pre ++ [x.1]) O' ((((((w1.setCell ⟨g1, n * 5, none⟩ (.int .i64 x.1.k)).setCell ⟨g1, n * 5 + 1, none⟩ (.int .i64 x.1.t)).setCell ⟨g1, n * 5 + 2, none⟩ x.2.1).setCell ⟨g1, n * 5 + 3, none⟩ x.2.2).setCell ⟨g1, n * 5 + 4, none⟩ (.bool x.1.h)).setCell ⟨w.heap.size + 3, 0, none⟩ (.slice (some ⟨g1, 0, none⟩) (n + 1) cap1)) ∧
      ChgFrom B0 O W O' ((((((w1.setCell ⟨g1, n * 5, none⟩ (.int .i64 x.1.k)).setCell ⟨g1, n * 5 + 1, none⟩ (.int .i64 x.1.t)).setCell ⟨g1, n * 5 + 2, none⟩ x.2.1).setCell ⟨g1, n * 5 + 3, none⟩ x.2.2).setCell ⟨g1, n * 5 + 4, none⟩ (.bool x.1.h)).setCell ⟨w.heap.size + 3, 0, none⟩ (.slice (some ⟨g1, 0, none⟩) (n + 1) cap1))) ∧
    (∃ O', WkI w N mx (pre ++ [x.1]) O' ((((((w1.setCell ⟨w.heap.size + 3, 0, none⟩ (.slice (some ⟨g1, 0, none⟩) (n + 1) cap1)).setCell ⟨g1, n * 5, none⟩ (.int .i64 x.1.k)).setCell ⟨g1, n * 5 + 1, none⟩ (.int .i64 x.1.t)).setCell ⟨g1, n * 5 + 2, none⟩ x.2.1).setCell ⟨g1, n * 5 + 3, none⟩ x.2.2).setCell ⟨g1, n * 5 + 4, none⟩ (.bool x.1.h)) ∧
      ChgFrom B0 O W O' ((((((w1.setCell ⟨w.heap.size + 3, 0, none⟩ (.slice (some ⟨g1, 0, none⟩) (n + 1) cap1)).setCell ⟨g1, n * 5, none⟩ (.int .i64 x.1.k)).setCell ⟨g1, n * 5 + 1, none⟩ (.int .i64 x.1.t)).setCell ⟨g1, n * 5 + 2, none⟩ x.2.1).setCell ⟨g1, n * 5 + 3, none⟩ x.2.2).setCell ⟨g1, n * 5 + 4, none⟩ (.bool x.1.h))) := by
  have e : ∀ Z : World, ((((Z.setCell ⟨g1, n * 5, none⟩ (.int .i64 x.1.k)).setCell ⟨g1, n * 5 + 1, none⟩ (.int .i64 x.1.t)).setCell ⟨g1, n * 5 + 2, none⟩ x.2.1).setCell ⟨g1, n * 5 + 3, none⟩ x.2.2).setCell ⟨g1, n * 5 + 4, none⟩ (.bool x.1.h) = setCells Z g1 (n * 5) [.int .i64 x.1.k, .int .i64 x.1.t, x.2.1, x.2.2, .bool x.1.h] := fun _ => rfl
  have eos : ∀ (ys : List Value) (Z : World) (o : Nat), (setCells Z g1 o ys).os = Z.os ∧ (setCells Z g1 o ys).tape = Z.tape ∧ (setCells Z g1 o ys).output = Z.output := by
    intro ys
    induction ys with
    | nil => intro Z o; exact ⟨rfl, rfl, rfl⟩
    | cons y r ih => intro Z o; exact ih (Z.setCell ⟨g1, o, none⟩ y) (o + 1)
  rw [e w1, e (w1.setCell ⟨w.heap.size + 3, 0, none⟩ (.slice (some ⟨g1, 0, none⟩) (n + 1) cap1))]
  obtain ⟨ys, hys⟩ : ∃ ys : List Value, ys = [.int .i64 x.1.k, .int .i64 x.1.t, x.2.1, x.2.2, .bool x.1.h] := ⟨_, rfl⟩
  have hmany : setMany (trCells L ++ [.int .i64 0, .int .i64 0, .slice none 0 0, .slice none 0 0, .bool false]) (n * 5) ys = trCells L ++ trCells [x] := by
    have := setMany_tail (trCells L) [.int .i64 0, .int .i64 0, .slice none 0 0, .slice none 0 0, .bool false] ys (by rw [hys]; rfl)
    rw [trCells_length, hln] at this
    rw [this, hys]
    rfl
  rw [← hys]
  have hbx : ∀ k, k ≠ w.heap.size + 3 → ∀ (Z : World), (Z.setCell ⟨w.heap.size + 3, 0, none⟩ (.slice (some ⟨g1, 0, none⟩) (n + 1) cap1)).heap[k]? = Z.heap[k]? := fun k hk Z => Below.heap_setCell _ _ _ _ hk
  have hss : ∀ (Z : World) (u : Value), (Z.setCell ⟨w.heap.size + 3, 0, none⟩ u).heap.size = Z.heap.size := fun Z u => by simp [World.setCell]
  refine ⟨WkI.step hN hL hlt hO hn hxs h.most h.size h.below hgr hwh hln ?_ ?_ ?_ ?_ ?_ ?_ ?_ hx hOy hB0 hNB, WkI.step hN hL hlt hO hn hxs h.most h.size h.below hgr hwh hln ?_ ?_ ?_ ?_ ?_ ?_ ?_ hx hOy hB0 hNB⟩
  · have h2 := own_sets ys (n * 5) hrow
    rw [hmany] at h2
    exact own_block h2 (hbx g1 (fun e => hgb e.symm) _)
  · have h2 : Boxed (setCells w1 g1 (n * 5) ys) (w.heap.size + 3) 22 (.slice Av n cv) := by
      show (setCells w1 g1 _ _).heap[w.heap.size + 3]? = _
      rw [setCells_other _ _ hgb]
      exact hbox
    exact h2.set _
  · exact fun k h1 h2 => (hbx k h2 _).trans (setCells_other _ _ h1 _ _ _)
  · rw [hss, setCells_size]
  · exact (eos ys w1 _).1
  · exact (eos ys w1 _).2.1
  · exact (eos ys w1 _).2.2
  · have h2 := own_sets ys (n * 5) (own_block hrow (hbx g1 (fun e => hgb e.symm) w1))
    rw [hmany] at h2
    exact h2
  · show (setCells _ g1 _ _).heap[w.heap.size + 3]? = _
    rw [setCells_other _ _ hgb]
    exact hbox.set _
  · exact fun k h1 h2 => (setCells_other _ _ h1 _ _ _).trans (hbx k h2 _)
  · rw [setCells_size, hss]
  · exact (eos ys _ _).1
  · exact (eos ys _ _).2.1
  · exact (eos ys _ _).2.2
/-- what the row is worth behind the loop, the block of the rounds' deferred calls shut -/
theorem WkI.result {w : World} {N mx : Nat} (hN : w.heap.size + 5 ≤ N) (hmx : mx ≤ 2000) {pre : List Tr} {O : Nat → Prop} {W : World} (h : WkI w N mx pre O W) (hO : ¬ O N) : ∃ v, Boxed W (w.heap.size + 3) 22 v ∧ (∃ d, TsAt d (W.putObj N (.deferred none)) v pre) ∧ Below w.heap.size w (W.putObj N (.deferred none)) := by
  have h2 : WkI w N mx pre O (W.putObj N (.deferred none)) := h.keep hN (Keeps.putObj W N _ (by
    rintro (e | e)
    · exact hO e
    · rcases e with e | e <;> omega))
  obtain ⟨v, L, hL, hb, ho, _, _, hx⟩ := h2.row
  have hbW : Boxed W (w.heap.size + 3) 22 v := (World.putObj_heap_other (show w.heap.size + 3 ≠ N by omega)).symm.trans hb
  refine ⟨v, hbW, ?_, h2.below⟩
  rw [← hL]
  exact own_trs ho (fun x hm => (hx x hm).hang) (by have := h2.len; rw [← hL, List.length_map] at this; omega)
set_option maxRecDepth 100000 in
theorem walked_any (a : Tr) (u v : Value) (mx : Nat) (w : World) (hu : ∃ d, TsAt d w u a.ks) (hv : PsSome w v a.cs) (hsz : Tr.size a ≤ 1000) (hmx : mx ≤ 2000) :
    Calls Try.prog 17 #[.agg #[.int .i64 a.k, .int .i64 a.t, u, v, .bool a.h], .int .i64 mx] w
      fun e w' => ∃ r, e = .returned r ∧ (∃ d, TsAt d w' r ((Tr.all a).take mx)) ∧ Below w.heap.size w w' := by
  refine (callsIn_wide (n := 9)).1 ?_
  obtain ⟨i0, hi, hz0, hz1, hz2⟩ := info_parts Try.infoTree
  obtain ⟨A, c, hA, hl⟩ := hu.elim fun d h => h.form
  obtain ⟨A', c', hA', hl'⟩ := hv.elim fun d h => h.form
  subst hA hA'
  obtain ⟨W3, hW3⟩ : ∃ W3, W3 = (((w.alloc (Obj.cells #[.int .i64 a.k, .int .i64 a.t, .slice A a.ks.length c, .slice A' a.cs.length c', .bool a.h] 25)).alloc (.cells #[.int .i64 mx] 3)).alloc (.cells #[] 25)).alloc (.cells #[.slice (some ⟨w.heap.size + 1 + 1, 0, none⟩) 0 0] 22) := ⟨_, rfl⟩
  obtain ⟨lt, lm, lr, lb, hb3, hs3⟩ := four_new (c0 := a.cells (.slice A a.ks.length c) (.slice A' a.cs.length c')) (c1 := [.int .i64 mx]) (c2 := []) (c3 := [.slice (some ⟨w.heap.size + 1 + 1, 0, none⟩) 0 0]) hW3
  have cw := walk_any a _ _ W3 (hu.elim fun d h => ⟨d, h.below hb3 (Nat.le_refl _)⟩) (hv.below hb3 (Nat.le_refl _)) hsz
  have HW := Lib.hid hW3
  obtain ⟨x0, x1, x2, x3, x4⟩ := lt.tr
  simp only [Nat.zero_add] at x0 x1 x2 x3 x4
  rw [HW.out] at x0 x1 x2 x3 x4
  clear hu hv hW3
  refine callsIn_of_wp_marks Try.func17 rfl trivial ?_ rfl
  simp only [Try.ntmps17, List.size_toArray, List.length_cons, List.length_nil, Nat.reduceAdd, Nat.reduceSub, Array.replicate_succ, Array.replicate_zero, List.push_toArray, List.append_toArray, List.nil_append, List.cons_append]
  gi_wp2_with fail
  rw [← HW.out]
  refine ⟨trivial, (callsIn_wide.2 cw).mono ?_⟩
  rintro e w5 ⟨u5, v5, rfl, hcell, hon, hb5⟩
  clear cw x0 x1 x2 x3 x4
  have heq := fun (W : World) (c : Array Value) => run_eql_func10 (P := Try.prog) W (.func 43) #[] c Try.underlying47
  gi_wp2_with fail
  clear heq
  rw [hs3] at hcell
  obtain ⟨N, hNN⟩ : ∃ N, N = w5.heap.size := ⟨_, rfl⟩
  have hN : w.heap.size + 5 ≤ N := by have := block_lt_of_cell hcell.c0; simp at this; omega
  have hb05 : Below w.heap.size w w5 := below_join hb3 hb5
  obtain ⟨Bb, cb, rfl, _⟩ : ∃ B c, u5 = .slice B a.ks.length c ∧ True := by
    obtain ⟨B, c, h, _⟩ := hon.1.elim fun d h => h.at_.form
    exact ⟨B, c, h, trivial⟩
  obtain ⟨Bc, cc, rfl, _⟩ : ∃ B c, v5 = .slice B a.cs.length c ∧ True := by
    obtain ⟨B, c, h, _⟩ := hon.2.elim fun d h => h.at_.form
    exact ⟨B, c, h, trivial⟩
  have hon5 : TrOn (fun k => w.heap.size + 4 < k ∧ k < N) w5 (a, .slice Bb a.ks.length cb, .slice Bc a.cs.length cc) := hon.keep (Nat.le_refl _) fun k hk hlt => ⟨rfl, by omega, by omega⟩
  have hI0 : WkI w N mx [] (fun k => k = w.heap.size + 3 ∨ k = w.heap.size + 2) w5 := by
    have lr5 := lr.below hb5 lr.lt
    have lb5 := lb.below hb5 lb.lt
    have lm5 := lm.below hb5 lm.lt
    refine ⟨⟨.slice (some ⟨w.heap.size + 1 + 1, 0, none⟩) 0 0, [], rfl, lb5, ?_, ?_, ?_, by simp⟩, lm5.cell (i := 0) rfl, by omega, hb05, by simp⟩
    · have := World.ownsRow_made ((w.alloc (Obj.cells #[.int .i64 a.k, .int .i64 a.t, .slice A a.ks.length c, .slice A' a.cs.length c', .bool a.h] 25)).alloc (.cells #[.int .i64 mx] 3)) (base := w.heap.size) (e := 25) (size := 5) #[] 0 (by simp; omega) (by decide) rfl
      rw [World.size_alloc, World.size_alloc] at this
      have h2 := this.alloc (.cells #[.slice (some ⟨w.heap.size + 1 + 1, 0, none⟩) 0 0] 22)
      rw [← HW.out] at h2
      exact own_kept h2 hb5
    · intro k
      simp only [Value.ownBlock, Option.some.injEq]
      exact ⟨fun h => h.imp id (fun h => by omega), fun h => h.imp id (fun h => by omega)⟩
    · intro k hk
      simp only [Value.ownBlock, Option.some.injEq] at hk
      exact .inl hk.symm
  have HN := Lib.hid hN
  clear lt lm lr lb hb3 hs3 hb5 hon
  refine wpIn_range_from rfl (by omega) (gf := 43) (lb := #[.pointer (some ⟨w.heap.size + 4, 0, none⟩)]) rfl trivial (enters_of Try.func43 (by kernel_rfl) rfl)
    (walk_iter 4 (fun k => w.heap.size + 4 < k ∧ k < N) w5 (fun k h => by omega) (w.heap.size + 4) a (.slice Bb a.ks.length cb) (.slice Bc a.cs.length cc) hon5 hsz) ?hpre ?hC ?hps ?hR (WkI w N mx) (fun c _ O W => c = .exit 0 ∧ WkI w N mx ((Tr.all a).take mx) O W) ?hI ?hIx ?hSD ?hIO (fun k => k = w.heap.size + 3 ∨ k = w.heap.size + 2) ?hO hI0
    (fun B0 O1 W3 x vs a' => ∃ q B1 e1 B2 e2, B0 ≤ q ∧ vs = #[trV (x, .slice B1 x.ks.length e1, .slice B2 x.cs.length e2)] ∧ Lies W3 q 25 [.int .i64 x.k, .int .i64 x.t, .slice B1 x.ks.length e1, .slice B2 x.cs.length e2, .bool x.h] ∧ N + 2 ≤ q ∧ a' = { tmps := #[.agg #[.int .i64 a.k, .int .i64 a.t, .slice A a.ks.length c, .slice A' a.cs.length c', .bool a.h], .int .i64 mx, .pointer (some ⟨w.heap.size, 0, none⟩), .pointer (some ⟨w.heap.size + 1, 0, none⟩), .slice none 0 0, .pointer (some ⟨w.heap.size + 3, 0, none⟩), .func (.func 43) #[] #[.pointer (some ⟨w.heap.size + 4, 0, none⟩)], .pointer (some ⟨q, 0, none⟩), .slice (some ⟨w.heap.size + 1 + 1, 0, none⟩) 0 0, .agg #[.int .i64 a.k, .int .i64 a.t, .slice A a.ks.length c, .slice A' a.cs.length c', .bool a.h], .func (.func 43) #[] #[.pointer (some ⟨w.heap.size + 4, 0, none⟩)], .func (.func 43) #[] #[.pointer (some ⟨w.heap.size + 4, 0, none⟩)], .bool false, undef, .func (.func 43) #[] #[.pointer (some ⟨w.heap.size + 4, 0, none⟩)], trV (x, .slice B1 x.ks.length e1, .slice B2 x.cs.length e2), undef, undef, undef, undef, undef, undef, undef, undef, undef, undef, undef], defers := [] })
    ?hAx ?assign ?body ?done ?stop
  case hpre => exact fun W3 hb h2 => ⟨hcell.below hb (by show w.heap.size + 4 < w5.heap.size; omega), h2, fun k hk hlt => hb.block k hlt⟩
  case hC =>
    intro k hk
    rcases hk with hk | hk <;> omega
  case hps => rintro B O W x vs ⟨u, v, rfl, _⟩; rfl
  case hR =>
    rintro O O' W W' x vs hOL hOO hk ⟨u, v, rfl, hx⟩
    exact ⟨u, v, rfl, hx.keep hk.size fun k h1 h2 => ⟨hk.same k h2 (fun e => h1.1 (e ▸ hOL)), fun h => h1.1 (hOO k h), h1.2⟩⟩
  case hI =>
    rintro pre O1 A B h hk
    exact h.keep HN.out (hk.mono fun k hh => hh.imp id fun hh => ⟨by rcases hh with hh | hh; exact .inl (by omega); exact .inr (by omega), by rcases hh with hh | hh <;> omega, by rcases hh with hh | hh <;> omega⟩)
  case hIx =>
    rintro c pre O1 A B ⟨hc, h⟩ hk
    exact ⟨hc, h.keep HN.out (hk.mono fun k hh => hh.imp id fun hh => ⟨by rcases hh with hh | hh; exact .inl (by omega); exact .inr (by omega), by rcases hh with hh | hh <;> omega, by rcases hh with hh | hh <;> omega⟩)⟩
  case hSD => intro k hk; exact .inl (by omega)
  case hIO =>
    rintro pre O1 A h k hk
    obtain ⟨v, L, hL, hb, ho, hO, hn, hx⟩ := h.row
    rcases (hO k).1 hk with e | e
    · exact ⟨by have := hb.lt; omega, by omega⟩
    · exact ⟨(ho.lt k e).2, by rcases hn k e with h | h <;> omega⟩
  case hO => intro k hk; omega
  case hAx =>
    rintro B0 O1 A B x vs a' hk ⟨q, B1, e1, B2, e2, h1, h2, h3, h4, h5⟩
    exact ⟨q, B1, e1, B2, e2, h1, h2, (hk.same q h3.lt (by omega)).trans h3, h4, h5⟩
  case assign =>
    rintro l2 x vs O3 W3 K hs hOl ⟨xu, xv, rfl, hx⟩ hK
    obtain ⟨⟨d1, hx1⟩, d2, hx2⟩ := hx
    obtain ⟨B1, e1, hB1, _⟩ := hx1.at_.form
    obtain ⟨B2, e2, hB2, _⟩ := hx2.at_.form
    change xu = .slice B1 x.ks.length e1 at hB1
    change xv = .slice B2 x.cs.length e2 at hB2
    subst hB1 hB2
    rw [show (#[15] : Array Tmp).zip #[trV (x, .slice B1 x.ks.length e1, .slice B2 x.cs.length e2)] = #[(15, trV (x, .slice B1 x.ks.length e1, .slice B2 x.cs.length e2))] from by simp [List.zip_toArray]]
    have htb := Lies.new W3 25 [.int .i64 x.k, .int .i64 x.t, .slice B1 x.ks.length e1, .slice B2 x.cs.length e2, .bool x.h]
    have HK := Lib.hid hK
    have HTB := Lib.hid htb
    have hs6 : N + 2 ≤ W3.heap.size := by omega
    clear hx1 hx2 hK htb
    gi_wp2
    exact HK.out _ _ (Keeps.alloc _ _ _) ⟨W3.heap.size, B1, e1, B2, e2, Nat.le_refl _, rfl, HTB.out, hs6, rfl⟩
  case body =>
    rintro Wy l2 pre x vs O1 Wb a' hl2 hiy h hpx ⟨xu, xv, hvs, hxh⟩ hOy hsy hkn ⟨q, B1, e1, B2, e2, hqy, rfl, lq, hq6, rfl⟩
    obtain ⟨rfl, rfl⟩ : .slice B1 x.ks.length e1 = xu ∧ .slice B2 x.cs.length e2 = xv := by
      simp only [trV, Array.mk.injEq, List.cons.injEq, Value.agg.injEq, and_true, true_and] at hvs
      exact hvs
    have HNS := Lib.hid (show N + 2 ≤ Wy.heap.size by omega)
    rw [← hNN] at hxh
    clear hNN
    obtain ⟨v, L, hL, hb, ho, hO, hn, hxs⟩ := h.row
    have hLp : L.length = pre.length := by rw [← hL, List.length_map]
    obtain ⟨Av, cv, hv, _⟩ := own_tr ho
    subst hv
    rw [hLp] at ho hb hO hn
    have HLP := Lib.hid hLp
    have hc0 := h.most
    have hc1 := hb.cell
    have hc2 := hb.frozen
    have hlen := h.len
    by_cases he : pre.length = mx
    · have hbt : ((pre.length : Int) == (mx : Int)) = true := by simp [he]
      have hI2 : WkI w N mx ((Tr.all a).take mx) O1 Wb := by
        have : (Tr.all a).take mx = pre := by
          obtain ⟨r, hr⟩ := hpx
          rw [← hr, ← he, List.append_assoc, List.take_left]
        rw [this]; exact h
      have HI2 := Lib.hid hI2
      clear hI2 he hpx h hO hn hxs ho hb hlen hiy hxh lq hLp
      gi_wp2
      exact ⟨O1, ⟨rfl, HI2.out⟩, ⟨Keeps.refl _ _, fun _ _ h => h⟩⟩
    · have hbt : ((pre.length : Int) == (mx : Int)) = false := by simp; omega
      have hlt : pre.length < mx := by omega
      gi_wp2
      have hmo : Try.prog.follows .mixedOrders = true := by kernel_rfl
      have hoa : (Wb.drew.alloc (Obj.cells #[.int .i64 0, .int .i64 0, .slice none 0 0, .slice none 0 0, .bool false] 25)).ownsRow w.heap.size 25 5 (.slice Av pre.length cv) pre.length (trCells L) := World.ownsRow.alloc (World.ownsRow.drew ho) _
      have hnews : ∀ (j : Nat) (u : Value), ([.int .i64 0, .int .i64 0, .slice none 0 0, .slice none 0 0, .bool false] : List Value)[j]? = some u → (Wb.drew.alloc (Obj.cells #[.int .i64 0, .int .i64 0, .slice none 0 0, .slice none 0 0, .bool false] 25)).cell? ((⟨Wb.heap.size, 0, none⟩ : Addr).add j) = some u := fun j u hj => by
        rw [add_from5]
        exact (Lies.new Wb.drew 25 [.int .i64 0, .int .i64 0, .slice none 0 0, .slice none 0 0, .bool false]).cell hj
      obtain ⟨v1, w1, hap, hown1, hgr1, hwh1⟩ := run_append_sep (P := Try.prog) _ w.heap.size 22 22 25 i0 (.agg #[.int .i64 0, .int .i64 0, .slice none 0 0, .slice none 0 0, .bool false]) 5 72 Try.underlying22 hi hz0 hz1 hz2 rfl (by decide) _ _ _ hoa ⟨Wb.heap.size, 0, none⟩ 1 1 [.int .i64 0, .int .i64 0, .slice none 0 0, .slice none 0 0, .bool false] rfl hnews (by simp [Value.oneCell']) (by unfold maxLen; omega) (by omega) (by rw [World.size_alloc]; show w.heap.size ≤ Wb.heap.size + 1; have := h.size; omega)
      obtain ⟨g1, cap1, rfl⟩ := ownsRow_succ hown1
      have HH := Lib.hid h
      have HO := Lib.hid hO
      have HNB := Lib.hid hn
      have HXS := Lib.hid hxs
      have HB := Lib.hid hb
      have HOW := Lib.hid ho
      have HOA := Lib.hid hoa
      have HIY := Lib.hid hiy
      have HXH := Lib.hid hxh
      have HKN := Lib.hid hkn
      have HOY := Lib.hid hOy
      have HPX := Lib.hid hpx
      have q0 := lq.cell (i := 0) rfl
      have q1 := lq.cell (i := 1) rfl
      have q2 := lq.cell (i := 2) rfl
      have q3 := lq.cell (i := 3) rfl
      have q4 := lq.cell (i := 4) rfl
      have HLQ := Lib.hid lq
      have HHN := Lib.hid hI0
      clear h hO hn hxs hb ho hoa hiy hxh hkn hOy hpx lq hI0 hnews he hLp hvs hlen
      have HG := Lib.hid hgr1
      have HW1 := Lib.hid hwh1
      have HOW1 := Lib.hid hown1
      have hsb : w.heap.size + 3 < Wb.heap.size := by have := HH.out.size; omega
      have hqb := HLQ.out.lt
      have hgne : g1 ≠ w.heap.size + 3 ∧ g1 ≠ q := by
        have hvo : ∀ k, (Value.slice Av pre.length cv).ownBlock = some k → k ≠ w.heap.size + 3 ∧ k ≠ q := fun k hk => by
          have h1 := HNB.out k hk
          have h2 := HOY.out k ((HO.out k).2 (.inr hk))
          exact ⟨by omega, by omega⟩
        rcases HW1.out with e | ⟨g, e, hg⟩
        · exact hvo g1 e.symm
        · simp only [Value.ownBlock, Option.some.injEq] at e
          rw [World.size_alloc] at hg
          change Wb.heap.size + 1 ≤ g at hg
          exact ⟨by omega, by omega⟩
      have hsame1 : ∀ k, k < Wb.heap.size → (Value.slice Av pre.length cv).ownBlock ≠ some k → w1.heap[k]? = Wb.heap[k]? := fun k hk hne => (HG.out.block k (by rw [World.size_alloc]; show k < Wb.heap.size + 1; omega) (fun e => hne e.symm)).trans (Below.heap_alloc Wb.drew _ k hk)
      have hvq : (Value.slice Av pre.length cv).ownBlock ≠ some q := fun e => by have := HOY.out q ((HO.out q).2 (.inr e)); omega
      have hvb : (Value.slice Av pre.length cv).ownBlock ≠ some (w.heap.size + 3) := fun e => by have := HNB.out _ e; omega
      have lq1 : Lies w1 q 25 [.int .i64 x.k, .int .i64 x.t, .slice B1 x.ks.length e1, .slice B2 x.cs.length e2, .bool x.h] := (hsame1 q hqb hvq).trans HLQ.out
      have lb1 : Boxed w1 (w.heap.size + 3) 22 (.slice Av pre.length cv) := (hsame1 _ hsb hvb).trans HB.out
      have r0 := lq1.cell (i := 0) rfl
      have r1 := lq1.cell (i := 1) rfl
      have r2 := lq1.cell (i := 2) rfl
      have r3 := lq1.cell (i := 3) rfl
      have r4 := lq1.cell (i := 4) rfl
      have b0 := lb1.cell
      have b1 := lb1.frozen
      have hrl : RowLies w1 g1 25 (trCells L ++ [.int .i64 0, .int .i64 0, .slice none 0 0, .slice none 0 0, .bool false]) := (RowLies.own HOW1.out (by rw [List.length_append, trCells_length, HLP.out]; simp; omega)).1
      have hz := fun i u (h : ([.int .i64 0, .int .i64 0, .slice none 0 0, .slice none 0 0, .bool false] : List Value)[i]? = some u) => hrl.cell (k := pre.length * 5 + i) (u := u) (by rw [List.getElem?_append_right (by rw [trCells_length, HLP.out]; omega), trCells_length, HLP.out, Nat.add_sub_cancel_left]; exact h)
      have z0 := hz 0 _ rfl
      have z1 := hz 1 _ rfl
      have z2 := hz 2 _ rfl
      have z3 := hz 3 _ rfl
      have z4 := hz 4 _ rfl
      have f0 := hrl.free (pre.length * 5)
      have f1 := hrl.free (pre.length * 5 + 1)
      have f2 := hrl.free (pre.length * 5 + 2)
      have f3 := hrl.free (pre.length * 5 + 3)
      have f4 := hrl.free (pre.length * 5 + 4)
      simp only [Nat.add_zero] at z0
      have hgb1 : g1 ≠ w.heap.size + 3 := hgne.1
      have hgb2 : w.heap.size + 3 ≠ g1 := fun e => hgne.1 e.symm
      have HRL := Lib.hid hrl
      have HLB1 := Lib.hid lb1
      have HHL := Lib.hid hL
      have HGN := Lib.hid hgne
      have HS1 := Lib.hid hsame1
      clear hz hrl hsame1 hgne hvq hvb lq1 lb1 hgr1 hwh1 hown1 hbt hL
      obtain ⟨hfa, hfb⟩ := WkI.ends (x := (x, .slice B1 x.ks.length e1, .slice B2 x.cs.length e2)) HN.out HH.out HHL.out hlt HO.out HNB.out HXS.out HG.out HW1.out HLP.out HOW1.out HLB1.out hgb2 HXH.out HOY.out HKN.out.size HNS.out
      have HFA := Lib.hid hfa
      have HFB := Lib.hid hfb
      clear hfa hfb
      have hidx : (pre.length : Int) < (pre.length : Int) + 1 := by omega
      refine wpIn_region_any hmo ?_
      try (change wpAnyIn _ _ _ _ _ _ _ _ _ (World.drew _))
      all_goals
        first
          | refine wpAnyIn_ready (rs := [0,1,3]) (by decide +kernel) (by simp) (AllReadyIn.cons rfl (fun K hK => ?_) (AllReadyIn.cons rfl (fun K hK => ?_) (AllReadyIn.cons rfl (fun K hK => ?_) AllReadyIn.nil)))
      all_goals
        go_simp
        refine hK _ _ ?_
        clear hK K
      all_goals
        first
          | refine wpAnyIn_ready (rs := [1,2,3]) (by decide +kernel) (by simp) (AllReadyIn.cons rfl (fun K hK => ?_) (AllReadyIn.cons rfl (fun K hK => ?_) (AllReadyIn.cons rfl (fun K hK => ?_) AllReadyIn.nil)))
          | refine wpAnyIn_ready (rs := [0,3]) (by decide +kernel) (by simp) (AllReadyIn.cons rfl (fun K hK => ?_) (AllReadyIn.cons rfl (fun K hK => ?_) AllReadyIn.nil))
          | refine wpAnyIn_ready (rs := [0,1]) (by decide +kernel) (by simp) (AllReadyIn.cons rfl (fun K hK => ?_) (AllReadyIn.cons rfl (fun K hK => ?_) AllReadyIn.nil))
      all_goals
        go_simp
        refine hK _ _ ?_
        clear hK K
      all_goals
        first
          | refine wpAnyIn_ready (rs := [2,3]) (by decide +kernel) (by simp) (AllReadyIn.cons rfl (fun K hK => ?_) (AllReadyIn.cons rfl (fun K hK => ?_) AllReadyIn.nil))
          | refine wpAnyIn_ready (rs := [1,2]) (by decide +kernel) (by simp) (AllReadyIn.cons rfl (fun K hK => ?_) (AllReadyIn.cons rfl (fun K hK => ?_) AllReadyIn.nil))
          | refine wpAnyIn_ready (rs := [0]) (by decide +kernel) (by simp) (AllReadyIn.cons rfl (fun K hK => ?_) AllReadyIn.nil)
          | refine wpAnyIn_ready (rs := [1,3]) (by decide +kernel) (by simp) (AllReadyIn.cons rfl (fun K hK => ?_) (AllReadyIn.cons rfl (fun K hK => ?_) AllReadyIn.nil))
      all_goals
        go_simp
        refine hK _ _ ?_
        clear hK K
      all_goals
        first
          | refine wpAnyIn_ready (rs := [2]) (by decide +kernel) (by simp) (AllReadyIn.cons rfl (fun K hK => ?_) AllReadyIn.nil)
          | refine wpAnyIn_ready (rs := [3]) (by decide +kernel) (by simp) (AllReadyIn.cons rfl (fun K hK => ?_) AllReadyIn.nil)
          | refine wpAnyIn_ready (rs := [1]) (by decide +kernel) (by simp) (AllReadyIn.cons rfl (fun K hK => ?_) AllReadyIn.nil)
      all_goals
        go_simp
        refine hK _ _ ?_
        clear hK K
      all_goals
        refine wpAnyIn_ready (rs := [4]) (by decide +kernel) (by simp) (AllReadyIn.cons rfl (fun K hK => ?_) AllReadyIn.nil)
        refine step_wanted rfl (wpIn_append_step _ _ 22 rfl rfl rfl hap ?_)
        refine hK _ _ ?_
        clear hK K
      all_goals
        first
          | refine wpAnyIn_ready (rs := [5,7]) (by decide +kernel) (by simp) (AllReadyIn.cons rfl (fun K hK => ?_) (AllReadyIn.cons rfl (fun K hK => ?_) AllReadyIn.nil))
          | refine wpAnyIn_ready (rs := [5]) (by decide +kernel) (by simp) (AllReadyIn.cons rfl (fun K hK => ?_) AllReadyIn.nil)
          | refine wpAnyIn_ready (rs := [7]) (by decide +kernel) (by simp) (AllReadyIn.cons rfl (fun K hK => ?_) AllReadyIn.nil)
      all_goals
        go_simp
        refine hK _ _ ?_
        clear hK K
      all_goals
        first
          | refine wpAnyIn_ready (rs := [6,7]) (by decide +kernel) (by simp) (AllReadyIn.cons rfl (fun K hK => ?_) (AllReadyIn.cons rfl (fun K hK => ?_) AllReadyIn.nil))
          | refine wpAnyIn_ready (rs := [5]) (by decide +kernel) (by simp) (AllReadyIn.cons rfl (fun K hK => ?_) AllReadyIn.nil)
          | refine wpAnyIn_ready (rs := [6]) (by decide +kernel) (by simp) (AllReadyIn.cons rfl (fun K hK => ?_) AllReadyIn.nil)
          | refine wpAnyIn_ready (rs := [7]) (by decide +kernel) (by simp) (AllReadyIn.cons rfl (fun K hK => ?_) AllReadyIn.nil)
      all_goals
        go_simp
        refine hK _ _ ?_
        clear hK K
      all_goals
        first
          | refine wpAnyIn_ready (rs := [6]) (by decide +kernel) (by simp) (AllReadyIn.cons rfl (fun K hK => ?_) AllReadyIn.nil)
          | refine wpAnyIn_ready (rs := [7]) (by decide +kernel) (by simp) (AllReadyIn.cons rfl (fun K hK => ?_) AllReadyIn.nil)
      all_goals
        go_simp
        refine hK _ _ ?_
        clear hK K
      all_goals refine wpAnyIn_done (by decide +kernel) ?_ _
      all_goals
        clear q0 q1 q2 q3 q4 r0 r1 r2 r3 r4 z0 z1 z2 z3 z4 f0 f1 f2 f3 f4 b0 b1 hap hc0 hc1 hc2 hidx hsb hqb hgb1 hgb2
        gi_wp2
        with_reducible first | exact sepFrom_normal HFA.out | exact sepFrom_normal HFB.out
  case done =>
    rintro D O1 W3 rfl h hOD hK
    rw [← hNN] at hOD hK ⊢
    have hT : (Tr.all a).take mx = Tr.all a := List.take_of_length_le h.len
    obtain ⟨v, hb, hts, hbl⟩ := h.result HN.out hmx hOD
    have hc1 := hb.cell
    have HTS := Lib.hid hts
    have HBL := Lib.hid hbl
    have HTT := Lib.hid hT
    clear hb h hT hts hbl hNN hI0 hcell hon5
    gi_wp2
    refine ⟨by simp, .inl ⟨_, _, rfl, run_takeDeferred hK, ?_⟩⟩
    exact ⟨_, results_tmp (t := 4) rfl _ _ _, _, rfl, by rw [HTT.out]; exact HTS.out, HBL.out⟩
  case stop =>
    rintro D c pre O1 W3 rfl hpx ⟨rfl, h⟩ hOD hK
    rw [← hNN] at hOD hK ⊢
    obtain ⟨v, hb, hts, hbl⟩ := h.result HN.out hmx hOD
    have hc1 := hb.cell
    have HTS := Lib.hid hts
    have HBL := Lib.hid hbl
    clear hb h hts hbl hNN hI0 hcell hon5
    gi_wp2
    refine ⟨by simp, .inl ⟨_, _, rfl, run_takeDeferred hK, ?_⟩⟩
    exact ⟨_, results_tmp (t := 4) rfl _ _ _, _, rfl, HTS.out, HBL.out⟩
end Go.Proofs.Ytpobkpdlohahoaa
