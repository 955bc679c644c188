/-
  THE TEST OF ONE ROUND OF NestTells: two calls in a region that draws its order, inside a round.
-/
import Derived.Test.YtokjhlmpegogcaaDoorNsxM
namespace Go.Proofs.YtokjhlmpegogcaaDoor
open Go.RowKit Go.Shelf
set_option maxHeartbeats 3200000

/-- (operation, slot, value), where the document's answer comes as the slice (A, c) -/
def tlVs (k : Int) (m n c0 c1 rl pl p0 tl d2 ml mc : Nat) (P0 R0 B2 MA : Option Addr) (lb : Addr) (A : Option Addr) (c : Nat) : List (Nat × Nat × Value) := [(0, 42, .int .i64 (m : Int)), (1, 43, .slice (some lb) n c0), (2, 44, .int .i64 (n : Int)), (3, 45, .bool false), (4, 46, .bool false), (5, 47, .slice MA ml mc), (6, 48, .int .i64 k), (7, 49, .slice P0 pl p0), (8, 50, .slice (some lb) n c0), (9, 51, .int .i64 (m : Int)), (10, 52, .pointer (some (lb.add m))), (11, 53, .slice B2 tl d2), (12, 54, .slice R0 rl c1), (13, 55, .slice A ml c), (14, 56, .bool true), (15, 57, .bool false), (16, 58, .bool false)]
theorem tlVs_apart (k : Int) (m n c0 c1 rl pl p0 tl d2 ml mc : Nat) (P0 R0 B2 MA : Option Addr) (lb : Addr) (A : Option Addr) (c : Nat) : (tlVs k m n c0 c1 rl pl p0 tl d2 ml mc P0 R0 B2 MA lb A c).Pairwise fun x y => x.1 ≠ y.1 ∧ x.2.1 ≠ y.2.1 := by
  unfold tlVs
  simp
theorem tlVs_out (k : Int) (m n c0 c1 rl pl p0 tl d2 ml mc : Nat) (P0 R0 B2 MA : Option Addr) (lb : Addr) (A : Option Addr) (c s : Nat) (h : s < 42) : ∀ x ∈ tlVs k m n c0 c1 rl pl p0 tl d2 ml mc P0 R0 B2 MA lb A c, x.2.1 ≠ s := by
  intro x hx
  simp only [tlVs, List.mem_cons, List.not_mem_nil, or_false] at hx
  rcases hx with rfl | rfl | rfl | rfl | rfl | rfl | rfl | rfl | rfl | rfl | rfl | rfl | rfl | rfl | rfl | rfl | rfl <;> dsimp only <;> omega
set_option maxRecDepth 100000 in
theorem tells_region {l N id : Nat} {Q : Exit → Act → World → Prop} {ops : Array Oper} {x0 x1 x2 x3 x4 x5 x6 x7 x8 x9 x10 x11 x12 x13 x14 x15 x16 : Oper}
    (h0 : ops[0]? = some x0) (dd0 : x0.dst = some 42) (pp0 : x0.op = .load 3 (.tmp 8)) (g0 : x0.guard = none)
    (h1 : ops[1]? = some x1) (dd1 : x1.dst = some 43) (pp1 : x1.op = .load 23 (.tmp 4)) (g1 : x1.guard = none)
    (h2 : ops[2]? = some x2) (dd2 : x2.dst = some 44) (pp2 : x2.op = .call { callee := .builtin .len, args := #[.tmp 43], argTypes := #[23] }) (g2 : x2.guard = none)
    (h3 : ops[3]? = some x3) (dd3 : x3.dst = some 45) (pp3 : x3.op = .binOp .geq 3 (.tmp 42) (.tmp 44) 3) (g3 : x3.guard = none)
    (h4 : ops[4]? = some x4) (dd4 : x4.dst = some 46) (pp4 : x4.op = .move (.tmp 45)) (g4 : x4.guard = none)
    (h5 : ops[5]? = some x5) (dd5 : x5.dst = some 47) (pp5 : x5.op = .move (.tmp 10)) (g5 : x5.guard = some (4, false))
    (h6 : ops[6]? = some x6) (dd6 : x6.dst = some 48) (pp6 : x6.op = .load 3 (.tmp 7)) (g6 : x6.guard = some (4, false))
    (h7 : ops[7]? = some x7) (dd7 : x7.dst = some 49) (pp7 : x7.op = .load 22 (.tmp 3)) (g7 : x7.guard = some (4, false))
    (h8 : ops[8]? = some x8) (dd8 : x8.dst = some 50) (pp8 : x8.op = .load 23 (.tmp 4)) (g8 : x8.guard = some (4, false))
    (h9 : ops[9]? = some x9) (dd9 : x9.dst = some 51) (pp9 : x9.op = .load 3 (.tmp 8)) (g9 : x9.guard = some (4, false))
    (h10 : ops[10]? = some x10) (dd10 : x10.dst = some 52) (pp10 : x10.op = .indexAddr 23 (.tmp 50) (.tmp 51)) (g10 : x10.guard = some (4, false))
    (h11 : ops[11]? = some x11) (dd11 : x11.dst = some 53) (pp11 : x11.op = .load 32 (.tmp 52)) (g11 : x11.guard = some (4, false))
    (h12 : ops[12]? = some x12) (dd12 : x12.dst = some 54) (pp12 : x12.op = .load 23 (.tmp 5)) (g12 : x12.guard = some (4, false))
    (h13 : ops[13]? = some x13) (dd13 : x13.dst = some 55) (pp13 : x13.op = .call { callee := .value (.func 11), args := #[.tmp 48, .tmp 49, .tmp 53, .tmp 54], argTypes := #[3, 22, 32, 23] }) (g13 : x13.guard = some (4, false))
    (h14 : ops[14]? = some x14) (dd14 : x14.dst = some 56) (pp14 : x14.op = .call { callee := .value (.func 7), args := #[.tmp 47, .tmp 55], argTypes := #[23, 23] }) (g14 : x14.guard = some (4, false))
    (h15 : ops[15]? = some x15) (dd15 : x15.dst = some 57) (pp15 : x15.op = .unOp .not 4 (.tmp 56)) (g15 : x15.guard = some (4, false))
    (h16 : ops[16]? = some x16) (dd16 : x16.dst = some 58) (pp16 : x16.op = .pick (.tmp 46) (.const (.bool true)) (.tmp 57)) (g16 : x16.guard = none)
    (e2_1 : (x2.after.any fun e => e.on == 1 && Region.binds .any e) = true)
    (e3_0 : (x3.after.any fun e => e.on == 0 && Region.binds .any e) = true)
    (e3_2 : (x3.after.any fun e => e.on == 2 && Region.binds .any e) = true)
    (e4_3 : (x4.after.any fun e => e.on == 3 && Region.binds .any e) = true)
    (e5_4 : (x5.after.any fun e => e.on == 4 && Region.binds .any e) = true)
    (e6_4 : (x6.after.any fun e => e.on == 4 && Region.binds .any e) = true)
    (e7_4 : (x7.after.any fun e => e.on == 4 && Region.binds .any e) = true)
    (e8_4 : (x8.after.any fun e => e.on == 4 && Region.binds .any e) = true)
    (e9_4 : (x9.after.any fun e => e.on == 4 && Region.binds .any e) = true)
    (e10_8 : (x10.after.any fun e => e.on == 8 && Region.binds .any e) = true)
    (e10_9 : (x10.after.any fun e => e.on == 9 && Region.binds .any e) = true)
    (e10_4 : (x10.after.any fun e => e.on == 4 && Region.binds .any e) = true)
    (e11_10 : (x11.after.any fun e => e.on == 10 && Region.binds .any e) = true)
    (e11_4 : (x11.after.any fun e => e.on == 4 && Region.binds .any e) = true)
    (e12_4 : (x12.after.any fun e => e.on == 4 && Region.binds .any e) = true)
    (e13_6 : (x13.after.any fun e => e.on == 6 && Region.binds .any e) = true)
    (e13_7 : (x13.after.any fun e => e.on == 7 && Region.binds .any e) = true)
    (e13_11 : (x13.after.any fun e => e.on == 11 && Region.binds .any e) = true)
    (e13_12 : (x13.after.any fun e => e.on == 12 && Region.binds .any e) = true)
    (e13_4 : (x13.after.any fun e => e.on == 4 && Region.binds .any e) = true)
    (e14_5 : (x14.after.any fun e => e.on == 5 && Region.binds .any e) = true)
    (e14_13 : (x14.after.any fun e => e.on == 13 && Region.binds .any e) = true)
    (e14_4 : (x14.after.any fun e => e.on == 4 && Region.binds .any e) = true)
    (e15_14 : (x15.after.any fun e => e.on == 14 && Region.binds .any e) = true)
    (e15_4 : (x15.after.any fun e => e.on == 4 && Region.binds .any e) = true)
    (e16_4 : (x16.after.any fun e => e.on == 4 && Region.binds .any e) = true)
    (e16_15 : (x16.after.any fun e => e.on == 15 && Region.binds .any e) = true)
    (hsize : ops.size = 17) (hdeps : depsB14 ops = true) (base : Array Value) (W3 : World) (k : Int) (m n c0 c1 rl pl p0 tl d2 ml mc : Nat) (P0 R0 B2 MA : Option Addr) (lb : Addr) (M : List (List (List Vl))) (XK Xc Xl Xr Xn : Addr) (hbs : base.size = 70)
    (b8 : base.getD 8 undef = .pointer (some Xn)) (b4 : base.getD 4 undef = .pointer (some Xl)) (b10 : base.getD 10 undef = .slice MA ml mc) (b7 : base.getD 7 undef = .pointer (some XK)) (b3 : base.getD 3 undef = .pointer (some Xc)) (b5 : base.getD 5 undef = .pointer (some Xr)) (hm : m < n)
    (hYY : ∀ W, Below W3.heap.size W3 W → W.cell? XK = some (.int .i64 k) ∧ W.cell? Xc = some (.slice P0 pl p0) ∧ W.cell? Xl = some (.slice (some lb) n c0) ∧ W.cell? Xr = some (.slice R0 rl c1) ∧ W.cell? Xn = some (.int .i64 (m : Int)) ∧ W.cell? (lb.add m) = some (.slice B2 tl d2))
    (CX : ∀ W, Below W3.heap.size W3 W → Calls Tryd.prog 11 #[.int .i64 k, .slice P0 pl p0, .slice B2 tl d2, .slice R0 rl c1] W fun E w' => ∃ A c, E = .returned (.slice A ml c) ∧ TusOn Al w' (.slice A ml c) M ∧ Below W3.heap.size W3 w')
    (CY : ∀ (A : Option Addr) (c : Nat) W, Below W3.heap.size W3 W → TusOn Al W (.slice A ml c) M → Calls Tryd.prog 7 #[.slice MA ml mc, .slice A ml c] W fun E w' => E = .returned (.bool true) ∧ Below W3.heap.size W3 w')
    (hQ : ∀ (A : Option Addr) (c : Nat) W, Below W3.heap.size W3 W → Q .normal { tmps := puts ((tlVs k m n c0 c1 rl pl p0 tl d2 ml mc P0 R0 B2 MA lb A c).map (·.2)) base, defers := [] } W) :
    (Code.region id ops true).wpIn (Fence.wide.inRound l) N Tryd.prog Q { tmps := base, defers := [] } W3 := by
  refine wpIn_region_set (by kernel_rfl) (fun Ld a W => ∃ A c, a = { tmps := gFr Ld (tlVs k m n c0 c1 rl pl p0 tl d2 ml mc P0 R0 B2 MA lb A c) base, defers := [] } ∧ Below W3.heap.size W3 W ∧ (Ld 13 = true → Ld 14 = false → TusOn Al W (.slice A ml c) M)) (depsB14_spec hdeps) ?hs0 ?hstep ?hend
  case hs0 => exact ⟨none, 0, rfl, (Below.refl _ _).drew, fun h => by cases h⟩
  case hend =>
    rintro Ld a W hall ⟨A, c, rfl, hb, _⟩
    have e : gFr Ld (tlVs k m n c0 c1 rl pl p0 tl d2 ml mc P0 R0 B2 MA lb A c) base = puts ((tlVs k m n c0 c1 rl pl p0 tl d2 ml mc P0 R0 B2 MA lb A c).map (·.2)) base := by
      unfold gFr
      rw [List.filter_eq_self.2]
      intro x hx
      refine hall _ ?_
      rw [hsize]
      simp only [tlVs, List.mem_cons, List.not_mem_nil, or_false] at hx
      rcases hx with rfl | rfl | rfl | rfl | rfl | rfl | rfl | rfl | rfl | rfl | rfl | rfl | rfl | rfl | rfl | rfl | rfl <;> dsimp only <;> omega
    rw [e]
    exact hQ A c W hb
  case hstep =>
    rintro Ld i o a W ho hL hdn ⟨A, c, rfl, hb, hT⟩ K hK
    have hi : i < 17 := by rw [← hsize]; exact (Array.getElem?_eq_some_iff.1 ho).1
    have hd := tlVs_apart k m n c0 c1 rl pl p0 tl d2 ml mc P0 R0 B2 MA lb A c
    have hn := fun s h => tlVs_out k m n c0 c1 rl pl p0 tl d2 ml mc P0 R0 B2 MA lb A c s h
    have hY := hYY W hb
    rcases (show i = 0 ∨ i = 1 ∨ i = 2 ∨ i = 3 ∨ i = 4 ∨ i = 5 ∨ i = 6 ∨ i = 7 ∨ i = 8 ∨ i = 9 ∨ i = 10 ∨ i = 11 ∨ i = 12 ∨ i = 13 ∨ i = 14 ∨ i = 15 ∨ i = 16 by omega) with rfl | rfl | rfl | rfl | rfl | rfl | rfl | rfl | rfl | rfl | rfl | rfl | rfl | rfl | rfl | rfl | rfl
    · obtain rfl : o = x0 := Option.some.inj (ho.symm.trans h0)
      exact opIn_valw ho (wanted_none14 g0) (by rw [pp0]; intro c h; cases h) (run14_int pp0 (fr_base14 (hn 8 (by decide)) b8) hY.2.2.2.2.1) (hK _ _ ⟨A, c, fr_put14 hd dd0 (show (0, 42, (.int .i64 (m : Int) : Value)) ∈ tlVs k m n c0 c1 rl pl p0 tl d2 ml mc P0 R0 B2 MA lb A c by simp [tlVs]) hL, hb, fun h h2 => hT (by simpa using h) (by simpa using h2)⟩)
    · obtain rfl : o = x1 := Option.some.inj (ho.symm.trans h1)
      exact opIn_valw ho (wanted_none14 g1) (by rw [pp1]; intro c h; cases h) (run14_tus pp1 (fr_base14 (hn 4 (by decide)) b4) hY.2.2.1) (hK _ _ ⟨A, c, fr_put14 hd dd1 (show (1, 43, (.slice (some lb) n c0 : Value)) ∈ tlVs k m n c0 c1 rl pl p0 tl d2 ml mc P0 R0 B2 MA lb A c by simp [tlVs]) hL, hb, fun h h2 => hT (by simpa using h) (by simpa using h2)⟩)
    · obtain rfl : o = x2 := Option.some.inj (ho.symm.trans h2)
      have q1 := dep14 hdn 1 e2_1
      exact opIn_valw ho (wanted_none14 g2) (by rw [pp2]; intro c h; cases h) (run14_len pp2 (fr_eval14 hd (show (1, 43, (.slice (some lb) n c0 : Value)) ∈ tlVs k m n c0 c1 rl pl p0 tl d2 ml mc P0 R0 B2 MA lb A c by simp [tlVs]) q1 (by omega))) (hK _ _ ⟨A, c, fr_put14 hd dd2 (show (2, 44, (.int .i64 (n : Int) : Value)) ∈ tlVs k m n c0 c1 rl pl p0 tl d2 ml mc P0 R0 B2 MA lb A c by simp [tlVs]) hL, hb, fun h h2 => hT (by simpa using h) (by simpa using h2)⟩)
    · obtain rfl : o = x3 := Option.some.inj (ho.symm.trans h3)
      have q0 := dep14 hdn 0 e3_0
      have q2 := dep14 hdn 2 e3_2
      exact opIn_valw ho (wanted_none14 g3) (by rw [pp3]; intro c h; cases h) (run14_geq pp3 (fr_eval14 hd (show (0, 42, (.int .i64 (m : Int) : Value)) ∈ tlVs k m n c0 c1 rl pl p0 tl d2 ml mc P0 R0 B2 MA lb A c by simp [tlVs]) q0 (by omega)) (fr_eval14 hd (show (2, 44, (.int .i64 (n : Int) : Value)) ∈ tlVs k m n c0 c1 rl pl p0 tl d2 ml mc P0 R0 B2 MA lb A c by simp [tlVs]) q2 (by omega)) (by omega)) (hK _ _ ⟨A, c, fr_put14 hd dd3 (show (3, 45, (.bool false : Value)) ∈ tlVs k m n c0 c1 rl pl p0 tl d2 ml mc P0 R0 B2 MA lb A c by simp [tlVs]) hL, hb, fun h h2 => hT (by simpa using h) (by simpa using h2)⟩)
    · obtain rfl : o = x4 := Option.some.inj (ho.symm.trans h4)
      have q3 := dep14 hdn 3 e4_3
      exact opIn_valw ho (wanted_none14 g4) (by rw [pp4]; intro c h; cases h) (run14_move pp4 (fr_eval14 hd (show (3, 45, (.bool false : Value)) ∈ tlVs k m n c0 c1 rl pl p0 tl d2 ml mc P0 R0 B2 MA lb A c by simp [tlVs]) q3 (by omega))) (hK _ _ ⟨A, c, fr_put14 hd dd4 (show (4, 46, (.bool false : Value)) ∈ tlVs k m n c0 c1 rl pl p0 tl d2 ml mc P0 R0 B2 MA lb A c by simp [tlVs]) hL, hb, fun h h2 => hT (by simpa using h) (by simpa using h2)⟩)
    · obtain rfl : o = x5 := Option.some.inj (ho.symm.trans h5)
      have q4 := dep14 hdn 4 e5_4
      have v4 := fr_eval14 (base := base) (L := Ld) hd (show (4, 46, Value.bool false) ∈ tlVs k m n c0 c1 rl pl p0 tl d2 ml mc P0 R0 B2 MA lb A c by simp [tlVs]) q4 (by omega)
      exact opIn_valw ho (wanted_some14 g5 h4 dd4 v4) (by rw [pp5]; intro c h; cases h) (run14_move pp5 (fr_base14 (hn 10 (by decide)) b10)) (hK _ _ ⟨A, c, fr_put14 hd dd5 (show (5, 47, (.slice MA ml mc : Value)) ∈ tlVs k m n c0 c1 rl pl p0 tl d2 ml mc P0 R0 B2 MA lb A c by simp [tlVs]) hL, hb, fun h h2 => hT (by simpa using h) (by simpa using h2)⟩)
    · obtain rfl : o = x6 := Option.some.inj (ho.symm.trans h6)
      have q4 := dep14 hdn 4 e6_4
      have v4 := fr_eval14 (base := base) (L := Ld) hd (show (4, 46, Value.bool false) ∈ tlVs k m n c0 c1 rl pl p0 tl d2 ml mc P0 R0 B2 MA lb A c by simp [tlVs]) q4 (by omega)
      exact opIn_valw ho (wanted_some14 g6 h4 dd4 v4) (by rw [pp6]; intro c h; cases h) (run14_int pp6 (fr_base14 (hn 7 (by decide)) b7) hY.1) (hK _ _ ⟨A, c, fr_put14 hd dd6 (show (6, 48, (.int .i64 k : Value)) ∈ tlVs k m n c0 c1 rl pl p0 tl d2 ml mc P0 R0 B2 MA lb A c by simp [tlVs]) hL, hb, fun h h2 => hT (by simpa using h) (by simpa using h2)⟩)
    · obtain rfl : o = x7 := Option.some.inj (ho.symm.trans h7)
      have q4 := dep14 hdn 4 e7_4
      have v4 := fr_eval14 (base := base) (L := Ld) hd (show (4, 46, Value.bool false) ∈ tlVs k m n c0 c1 rl pl p0 tl d2 ml mc P0 R0 B2 MA lb A c by simp [tlVs]) q4 (by omega)
      exact opIn_valw ho (wanted_some14 g7 h4 dd4 v4) (by rw [pp7]; intro c h; cases h) (run14_pds pp7 (fr_base14 (hn 3 (by decide)) b3) hY.2.1) (hK _ _ ⟨A, c, fr_put14 hd dd7 (show (7, 49, (.slice P0 pl p0 : Value)) ∈ tlVs k m n c0 c1 rl pl p0 tl d2 ml mc P0 R0 B2 MA lb A c by simp [tlVs]) hL, hb, fun h h2 => hT (by simpa using h) (by simpa using h2)⟩)
    · obtain rfl : o = x8 := Option.some.inj (ho.symm.trans h8)
      have q4 := dep14 hdn 4 e8_4
      have v4 := fr_eval14 (base := base) (L := Ld) hd (show (4, 46, Value.bool false) ∈ tlVs k m n c0 c1 rl pl p0 tl d2 ml mc P0 R0 B2 MA lb A c by simp [tlVs]) q4 (by omega)
      exact opIn_valw ho (wanted_some14 g8 h4 dd4 v4) (by rw [pp8]; intro c h; cases h) (run14_tus pp8 (fr_base14 (hn 4 (by decide)) b4) hY.2.2.1) (hK _ _ ⟨A, c, fr_put14 hd dd8 (show (8, 50, (.slice (some lb) n c0 : Value)) ∈ tlVs k m n c0 c1 rl pl p0 tl d2 ml mc P0 R0 B2 MA lb A c by simp [tlVs]) hL, hb, fun h h2 => hT (by simpa using h) (by simpa using h2)⟩)
    · obtain rfl : o = x9 := Option.some.inj (ho.symm.trans h9)
      have q4 := dep14 hdn 4 e9_4
      have v4 := fr_eval14 (base := base) (L := Ld) hd (show (4, 46, Value.bool false) ∈ tlVs k m n c0 c1 rl pl p0 tl d2 ml mc P0 R0 B2 MA lb A c by simp [tlVs]) q4 (by omega)
      exact opIn_valw ho (wanted_some14 g9 h4 dd4 v4) (by rw [pp9]; intro c h; cases h) (run14_int pp9 (fr_base14 (hn 8 (by decide)) b8) hY.2.2.2.2.1) (hK _ _ ⟨A, c, fr_put14 hd dd9 (show (9, 51, (.int .i64 (m : Int) : Value)) ∈ tlVs k m n c0 c1 rl pl p0 tl d2 ml mc P0 R0 B2 MA lb A c by simp [tlVs]) hL, hb, fun h h2 => hT (by simpa using h) (by simpa using h2)⟩)
    · obtain rfl : o = x10 := Option.some.inj (ho.symm.trans h10)
      have q8 := dep14 hdn 8 e10_8
      have q9 := dep14 hdn 9 e10_9
      have q4 := dep14 hdn 4 e10_4
      have v4 := fr_eval14 (base := base) (L := Ld) hd (show (4, 46, Value.bool false) ∈ tlVs k m n c0 c1 rl pl p0 tl d2 ml mc P0 R0 B2 MA lb A c by simp [tlVs]) q4 (by omega)
      exact opIn_valw ho (wanted_some14 g10 h4 dd4 v4) (by rw [pp10]; intro c h; cases h) (run14_idx pp10 (fr_eval14 hd (show (8, 50, (.slice (some lb) n c0 : Value)) ∈ tlVs k m n c0 c1 rl pl p0 tl d2 ml mc P0 R0 B2 MA lb A c by simp [tlVs]) q8 (by omega)) (fr_eval14 hd (show (9, 51, (.int .i64 (m : Int) : Value)) ∈ tlVs k m n c0 c1 rl pl p0 tl d2 ml mc P0 R0 B2 MA lb A c by simp [tlVs]) q9 (by omega)) hm) (hK _ _ ⟨A, c, fr_put14 hd dd10 (show (10, 52, (.pointer (some (lb.add m)) : Value)) ∈ tlVs k m n c0 c1 rl pl p0 tl d2 ml mc P0 R0 B2 MA lb A c by simp [tlVs]) hL, hb, fun h h2 => hT (by simpa using h) (by simpa using h2)⟩)
    · obtain rfl : o = x11 := Option.some.inj (ho.symm.trans h11)
      have q10 := dep14 hdn 10 e11_10
      have q4 := dep14 hdn 4 e11_4
      have v4 := fr_eval14 (base := base) (L := Ld) hd (show (4, 46, Value.bool false) ∈ tlVs k m n c0 c1 rl pl p0 tl d2 ml mc P0 R0 B2 MA lb A c by simp [tlVs]) q4 (by omega)
      exact opIn_valw ho (wanted_some14 g11 h4 dd4 v4) (by rw [pp11]; intro c h; cases h) (run14_rws pp11 (fr_eval14 hd (show (10, 52, (.pointer (some (lb.add m)) : Value)) ∈ tlVs k m n c0 c1 rl pl p0 tl d2 ml mc P0 R0 B2 MA lb A c by simp [tlVs]) q10 (by omega)) hY.2.2.2.2.2) (hK _ _ ⟨A, c, fr_put14 hd dd11 (show (11, 53, (.slice B2 tl d2 : Value)) ∈ tlVs k m n c0 c1 rl pl p0 tl d2 ml mc P0 R0 B2 MA lb A c by simp [tlVs]) hL, hb, fun h h2 => hT (by simpa using h) (by simpa using h2)⟩)
    · obtain rfl : o = x12 := Option.some.inj (ho.symm.trans h12)
      have q4 := dep14 hdn 4 e12_4
      have v4 := fr_eval14 (base := base) (L := Ld) hd (show (4, 46, Value.bool false) ∈ tlVs k m n c0 c1 rl pl p0 tl d2 ml mc P0 R0 B2 MA lb A c by simp [tlVs]) q4 (by omega)
      exact opIn_valw ho (wanted_some14 g12 h4 dd4 v4) (by rw [pp12]; intro c h; cases h) (run14_tus pp12 (fr_base14 (hn 5 (by decide)) b5) hY.2.2.2.1) (hK _ _ ⟨A, c, fr_put14 hd dd12 (show (12, 54, (.slice R0 rl c1 : Value)) ∈ tlVs k m n c0 c1 rl pl p0 tl d2 ml mc P0 R0 B2 MA lb A c by simp [tlVs]) hL, hb, fun h h2 => hT (by simpa using h) (by simpa using h2)⟩)
    · obtain rfl : o = x13 := Option.some.inj (ho.symm.trans h13)
      have q6 := dep14 hdn 6 e13_6
      have q7 := dep14 hdn 7 e13_7
      have q11 := dep14 hdn 11 e13_11
      have q12 := dep14 hdn 12 e13_12
      have q4 := dep14 hdn 4 e13_4
      have v4 := fr_eval14 (base := base) (L := Ld) hd (show (4, 46, Value.bool false) ∈ tlVs k m n c0 c1 rl pl p0 tl d2 ml mc P0 R0 B2 MA lb A c by simp [tlVs]) q4 (by omega)
      refine opIn_callw ho (wanted_some14 g13 h4 dd4 v4) (by rw [pp13]; intro c h; cases h) (run14_ext pp13 rfl (fr_eval14 hd (show (6, 48, (.int .i64 k : Value)) ∈ tlVs k m n c0 c1 rl pl p0 tl d2 ml mc P0 R0 B2 MA lb A c by simp [tlVs]) q6 (by omega)) (fr_eval14 hd (show (7, 49, (.slice P0 pl p0 : Value)) ∈ tlVs k m n c0 c1 rl pl p0 tl d2 ml mc P0 R0 B2 MA lb A c by simp [tlVs]) q7 (by omega)) (fr_eval14 hd (show (11, 53, (.slice B2 tl d2 : Value)) ∈ tlVs k m n c0 c1 rl pl p0 tl d2 ml mc P0 R0 B2 MA lb A c by simp [tlVs]) q11 (by omega)) (fr_eval14 hd (show (12, 54, (.slice R0 rl c1 : Value)) ∈ tlVs k m n c0 c1 rl pl p0 tl d2 ml mc P0 R0 B2 MA lb A c by simp [tlVs]) q12 (by omega))) ((CX W hb).mono ?_)
      rintro e w' ⟨A', c', rfl, hT', hb'⟩
      refine ⟨_, rfl, hK _ _ ⟨A', c', ?_, hb', fun _ _ => hT'⟩⟩
      rw [gFr_ext (vs' := tlVs k m n c0 c1 rl pl p0 tl d2 ml mc P0 R0 B2 MA lb A' c') (by simp only [tlVs, List.filter_cons, hL, Bool.false_eq_true, if_false])]
      exact fr_put14 (tlVs_apart k m n c0 c1 rl pl p0 tl d2 ml mc P0 R0 B2 MA lb A' c') dd13 (by simp [tlVs]) hL
    · obtain rfl : o = x14 := Option.some.inj (ho.symm.trans h14)
      have q5 := dep14 hdn 5 e14_5
      have q13 := dep14 hdn 13 e14_13
      have q4 := dep14 hdn 4 e14_4
      have v4 := fr_eval14 (base := base) (L := Ld) hd (show (4, 46, Value.bool false) ∈ tlVs k m n c0 c1 rl pl p0 tl d2 ml mc P0 R0 B2 MA lb A c by simp [tlVs]) q4 (by omega)
      by_cases h14 : Ld 14 = false
      · refine opIn_callw ho (wanted_some14 g14 h4 dd4 v4) (by rw [pp14]; intro c h; cases h) (run14_lst pp14 rfl (fr_eval14 hd (show (5, 47, (.slice MA ml mc : Value)) ∈ tlVs k m n c0 c1 rl pl p0 tl d2 ml mc P0 R0 B2 MA lb A c by simp [tlVs]) q5 (by omega)) (fr_eval14 hd (show (13, 55, (.slice A ml c : Value)) ∈ tlVs k m n c0 c1 rl pl p0 tl d2 ml mc P0 R0 B2 MA lb A c by simp [tlVs]) q13 (by omega))) ((CY A c W hb (hT q13 h14)).mono ?_)
        rintro e w' ⟨rfl, hb'⟩
        exact ⟨_, rfl, hK _ _ ⟨A, c, fr_put14 hd dd14 (show (14, 56, (.bool true : Value)) ∈ tlVs k m n c0 c1 rl pl p0 tl d2 ml mc P0 R0 B2 MA lb A c by simp [tlVs]) hL, hb', fun _ h2 => by simp at h2⟩⟩
      · exact absurd hL h14
    · obtain rfl : o = x15 := Option.some.inj (ho.symm.trans h15)
      have q14 := dep14 hdn 14 e15_14
      have q4 := dep14 hdn 4 e15_4
      have v4 := fr_eval14 (base := base) (L := Ld) hd (show (4, 46, Value.bool false) ∈ tlVs k m n c0 c1 rl pl p0 tl d2 ml mc P0 R0 B2 MA lb A c by simp [tlVs]) q4 (by omega)
      exact opIn_valw ho (wanted_some14 g15 h4 dd4 v4) (by rw [pp15]; intro c h; cases h) (run14_not pp15 (fr_eval14 hd (show (14, 56, (.bool true : Value)) ∈ tlVs k m n c0 c1 rl pl p0 tl d2 ml mc P0 R0 B2 MA lb A c by simp [tlVs]) q14 (by omega))) (hK _ _ ⟨A, c, fr_put14 hd dd15 (show (15, 57, (.bool false : Value)) ∈ tlVs k m n c0 c1 rl pl p0 tl d2 ml mc P0 R0 B2 MA lb A c by simp [tlVs]) hL, hb, fun h h2 => hT (by simpa using h) (by simpa using h2)⟩)
    · obtain rfl : o = x16 := Option.some.inj (ho.symm.trans h16)
      have q4 := dep14 hdn 4 e16_4
      have q15 := dep14 hdn 15 e16_15
      exact opIn_valw ho (wanted_none14 g16) (by rw [pp16]; intro c h; cases h) (run14_pick pp16 (fr_eval14 hd (show (4, 46, (.bool false : Value)) ∈ tlVs k m n c0 c1 rl pl p0 tl d2 ml mc P0 R0 B2 MA lb A c by simp [tlVs]) q4 (by omega)) (fr_eval14 hd (show (15, 57, (.bool false : Value)) ∈ tlVs k m n c0 c1 rl pl p0 tl d2 ml mc P0 R0 B2 MA lb A c by simp [tlVs]) q15 (by omega))) (hK _ _ ⟨A, c, fr_put14 hd dd16 (show (16, 58, (.bool false : Value)) ∈ tlVs k m n c0 c1 rl pl p0 tl d2 ml mc P0 R0 B2 MA lb A c by simp [tlVs]) hL, hb, fun h h2 => hT (by simpa using h) (by simpa using h2)⟩)
end Go.Proofs.YtokjhlmpegogcaaDoor
