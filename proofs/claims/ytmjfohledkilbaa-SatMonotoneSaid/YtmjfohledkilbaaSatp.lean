/-
  THE CONTRACT OF package sat's product: two words, digit by digit.
-/
import Derived.Test.YtmjfohledkilbaaSat
import Derived.Test.YtmjfohledkilbaaLies
namespace Go.Proofs.Ytmjfohledkilbaa
open Go.RowKit
set_option maxHeartbeats 400000

/-- four digits in the block G, the words' own digits in X and Y -/
structure Dig (w wr : World) (X Y G x0 x1 y0 y1 p0 p1 p2 p3 : Nat) : Prop where
  x : Lies wr X 32 [.int .u64 x0, .int .u64 x1]
  y : Lies wr Y 32 [.int .u64 y0, .int .u64 y1]
  p : Lies wr G 34 [.int .u64 p0, .int .u64 p1, .int .u64 p2, .int .u64 p3]
  b : Below w.heap.size w wr
theorem Dig.drewN {w wr : World} {X Y G x0 x1 y0 y1 p0 p1 p2 p3 : Nat} (h : Dig w wr X Y G x0 x1 y0 y1 p0 p1 p2 p3) (n : Nat) : Dig w (wr.drewN n) X Y G x0 x1 y0 y1 p0 p1 p2 p3 := ⟨h.x.drewN n, h.y.drewN n, h.p.drewN n, below_drewN h.b n⟩
theorem Dig.xy {w wr : World} {X Y G x0 x1 y0 y1 p0 p1 p2 p3 : Nat} (h : Dig w wr X Y G x0 x1 y0 y1 p0 p1 p2 p3) : G ≠ X ∧ G ≠ Y := ⟨h.p.ne_ h.x (by decide), h.p.ne_ h.y (by decide)⟩
theorem Dig.set0 {w wr : World} {X Y G x0 x1 y0 y1 p0 p1 p2 p3 : Nat} (h : Dig w wr X Y G x0 x1 y0 y1 p0 p1 p2 p3) (hG : w.heap.size ≤ G) (q : Nat) : Dig w (wr.setCell ⟨G, 0, none⟩ (.int .u64 q)) X Y G x0 x1 y0 y1 q p1 p2 p3 :=
  ⟨h.x.far h.xy.1.symm _, h.y.far h.xy.2.symm _, h.p.set 0 _, h.b.setCell hG _⟩
theorem Dig.set1 {w wr : World} {X Y G x0 x1 y0 y1 p0 p1 p2 p3 : Nat} (h : Dig w wr X Y G x0 x1 y0 y1 p0 p1 p2 p3) (hG : w.heap.size ≤ G) (q : Nat) : Dig w (wr.setCell ⟨G, 1, none⟩ (.int .u64 q)) X Y G x0 x1 y0 y1 p0 q p2 p3 :=
  ⟨h.x.far h.xy.1.symm _, h.y.far h.xy.2.symm _, h.p.set 1 _, h.b.setCell hG _⟩
theorem Dig.set2 {w wr : World} {X Y G x0 x1 y0 y1 p0 p1 p2 p3 : Nat} (h : Dig w wr X Y G x0 x1 y0 y1 p0 p1 p2 p3) (hG : w.heap.size ≤ G) (q : Nat) : Dig w (wr.setCell ⟨G, 2, none⟩ (.int .u64 q)) X Y G x0 x1 y0 y1 p0 p1 q p3 :=
  ⟨h.x.far h.xy.1.symm _, h.y.far h.xy.2.symm _, h.p.set 2 _, h.b.setCell hG _⟩
theorem Dig.set3 {w wr : World} {X Y G x0 x1 y0 y1 p0 p1 p2 p3 : Nat} (h : Dig w wr X Y G x0 x1 y0 y1 p0 p1 p2 p3) (hG : w.heap.size ≤ G) (q : Nat) : Dig w (wr.setCell ⟨G, 3, none⟩ (.int .u64 q)) X Y G x0 x1 y0 y1 p0 p1 p2 q :=
  ⟨h.x.far h.xy.1.symm _, h.y.far h.xy.2.symm _, h.p.set 3 _, h.b.setCell hG _⟩

theorem step_wrap {x y p c : Nat} (hx : x < Sa.B) (hy : y < Sa.B) (hp : p < Sa.B) (hc : c < Sa.B) :
    ∃ m n s : Nat, IntKind.u64.wrap ((x : Int) * (y : Int)) = (m : Int) ∧ IntKind.u64.wrap ((m : Int) + (p : Int)) = (n : Int) ∧ IntKind.u64.wrap ((n : Int) + (c : Int)) = (s : Int) ∧ s = x * y + p + c ∧ s < 18446744073709551616 := by
  have h := Sa.step_lt hx hy hp hc
  refine ⟨x * y, x * y + p, x * y + p + c, ?_, ?_, ?_, rfl, h⟩
  · rw [← Int.natCast_mul]; exact wrap_nat (by omega)
  · rw [← Int.natCast_add]; exact wrap_nat (by omega)
  · rw [← Int.natCast_add]; exact wrap_nat h

theorem split_named (a x0 x1 : Nat) (w : World) (ha : Hid (a < 18446744073709551616)) (h0 : Hid (x0 = a % 4294967296)) (h1 : Hid (x1 = a / 4294967296)) :
    Calls Try.prog 15 #[.int .u64 a] w fun e w' => e = .returned (.agg #[.int .u64 x0, .int .u64 x1]) ∧ Below w.heap.size w w' := by
  rw [h0.out, h1.out]; exact split_any a w ha
theorem product_any (a b : Nat) (w : World) (ha : Hid (a < 18446744073709551616)) (hb : Hid (b < 18446744073709551616)) :
    Calls Try.prog 14 #[.int .u64 a, .int .u64 b] w fun e w' => e = .returned (.tuple #[.int .u64 (Sa.hiN a b : Nat), .int .u64 (Sa.loN a b : Nat)]) ∧ Below w.heap.size w w' := by
  obtain ⟨x0, hx0⟩ : ∃ x : Nat, x = a % 4294967296 := ⟨_, rfl⟩
  obtain ⟨x1, hx1⟩ : ∃ x : Nat, x = a / 4294967296 := ⟨_, rfl⟩
  obtain ⟨y0, hy0⟩ : ∃ x : Nat, x = b % 4294967296 := ⟨_, rfl⟩
  obtain ⟨y1, hy1⟩ : ∃ x : Nat, x = b / 4294967296 := ⟨_, rfl⟩
  have Hx0 := Lib.hid hx0
  have Hx1 := Lib.hid hx1
  have Hy0 := Lib.hid hy0
  have Hy1 := Lib.hid hy1
  have lx0 : Hid (x0 < Sa.B) := Lib.hid (by rw [hx0]; exact Sa.mod_B a)
  have lx1 : Hid (x1 < Sa.B) := Lib.hid (by rw [hx1]; exact Sa.div_B ha.out)
  have ly0 : Hid (y0 < Sa.B) := Lib.hid (by rw [hy0]; exact Sa.mod_B b)
  have ly1 : Hid (y1 < Sa.B) := Lib.hid (by rw [hy1]; exact Sa.div_B hb.out)
  clear hx0 hx1 hy0 hy1
  go_enter Try.func14, Try.ntmps14
  go_wp2_with fail
  refine (split_named a x0 x1 _ ha Hx0 Hx1).mono ?_
  rintro e w1 ⟨rfl, hb1⟩
  go_wp2_with fail
  refine (split_named b y0 y1 _ hb Hy0 Hy1).mono ?_
  rintro e w2 ⟨rfl, hb2⟩
  have hb3 : Below w.heap.size w w2 := hb1.trans (hb2.mono hb1.size)
  have Hb3 := Lib.hid hb3
  clear hb1 hb2 hb3
  go_wp2_with fail
  obtain ⟨X, hX⟩ : ∃ X, X = w2.heap.size := ⟨_, rfl⟩
  rw [← hX]
  have hD : Dig w (((w2.alloc (Obj.cells #[Value.int IntKind.u64 x0, Value.int IntKind.u64 x1] 32)).alloc (Obj.cells #[Value.int IntKind.u64 y0, Value.int IntKind.u64 y1] 32)).alloc (Obj.cells #[Value.int IntKind.u64 0, Value.int IntKind.u64 0, Value.int IntKind.u64 0, Value.int IntKind.u64 0] 34)) X (X + 1) (X + 1 + 1) x0 x1 y0 y1 0 0 0 0 := by
    have l1 := Lies.new w2 32 [.int .u64 x0, .int .u64 x1]
    have l2 := Lies.new (w2.alloc (.cells #[.int .u64 x0, .int .u64 x1] 32)) 32 [.int .u64 y0, .int .u64 y1]
    have l3 := Lies.new ((w2.alloc (.cells #[.int .u64 x0, .int .u64 x1] 32)).alloc (.cells #[.int .u64 y0, .int .u64 y1] 32)) 34 [.int .u64 0, .int .u64 0, .int .u64 0, .int .u64 0]
    have hs := Hb3.out.size
    simp at l2 l3
    rw [hX]
    exact ⟨(l1.alloc _).alloc _, l2.alloc _, l3, ((Hb3.out.alloc hs _).alloc (by simp; omega) _).alloc (by simp; omega) _⟩
  have hG : w.heap.size ≤ X + 1 + 1 := by have := Hb3.out.size; omega
  generalize X + 1 + 1 = G at *
  generalize X + 1 = Y at *
  have HD := Lib.hid hD
  clear hD hX Hb3
  go_loopw [17] (fun i wr => ∃ k p0 p1 p2 p3 : Nat, Hid (Sa.St a b k 0 p0 p1 p2 p3 0) ∧ Hid (Dig w wr X Y G x0 x1 y0 y1 p0 p1 p2 p3) ∧ ((k = 0 ∧ i = .int .i64 0) ∨ (k = 1 ∧ i = .int .i64 1) ∨ (k = 2 ∧ i = .int .i64 2))) (fun i _ => 2 - (intOf i).toNat)
  case atStart => exact ⟨0, 0, 0, 0, 0, Lib.hid (Sa.st_zero a b), HD, .inl ⟨rfl, rfl⟩⟩
  case round =>
    obtain ⟨k, p0, p1, p2, p3, HS, HR, (⟨rfl, rfl⟩ | ⟨rfl, rfl⟩ | ⟨rfl, rfl⟩)⟩ := hrel
    · go_wp2
      go_loopw [10, 20] (fun cv i wr2 => ∃ j p0 p1 p2 p3 c : Nat, cv = .int .u64 c ∧ Hid (Sa.St a b 0 j p0 p1 p2 p3 c) ∧ Hid (Dig w wr2 X Y G x0 x1 y0 y1 p0 p1 p2 p3) ∧ ((j = 0 ∧ i = .int .i64 0) ∨ (j = 1 ∧ i = .int .i64 1) ∨ (j = 2 ∧ i = .int .i64 2))) (fun _ i _ => 2 - (intOf i).toNat)
      case atStart => exact ⟨0, p0, p1, p2, p3, 0, rfl, HS, HR, .inl ⟨rfl, rfl⟩⟩
      case round =>
        clear HS HR
        obtain ⟨j, p0, p1, p2, p3, c, rfl, HS, HR, (⟨rfl, rfl⟩ | ⟨rfl, rfl⟩ | ⟨rfl, rfl⟩)⟩ := hrel
        · have sm := Sa.st_small ha.out hb.out HS.out
          obtain ⟨m, n, s, e1, e2, e3, hs, hs64⟩ := step_wrap lx0.out ly0.out sm.1 sm.2.2.2.2
          have H2 : Hid (Sa.St a b 0 1 (s % 4294967296) p1 p2 p3 (s / 4294967296)) := Lib.hid (by
            have := Sa.st_00 HS.out
            rw [hs, Hx0.out, Hy0.out]
            exact this)
          have e4 : IntKind.u64.wrap ((s : Int) / 4294967296) = ((s / 4294967296 : Nat) : Int) := by rw [IntKind.wrap_u64]; omega
          have Hs64 := Lib.hid hs64
          have cx : wr.cell? ⟨X, 0, none⟩ = some (.int .u64 x0) := HR.out.x.cell rfl
          have cy : wr.cell? ⟨Y, 0, none⟩ = some (.int .u64 y0) := HR.out.y.cell rfl
          have cp : wr.cell? ⟨G, 0, none⟩ = some (.int .u64 p0) := HR.out.p.cell rfl
          have fp : wr.frozen? ⟨G, 0, none⟩ = false := HR.out.p.free 0
          clear sm hs hs64
          go_wp2
          go_quiet (fail)
          go_wp2
          go_roundw
          case rel => exact ⟨1, (s % 4294967296), p1, p2, p3, s / 4294967296, rfl, H2, Lib.hid ((HR.out.drewN _).set0 hG (s % 4294967296)), .inr (.inl ⟨rfl, rfl⟩)⟩
          case measure => simp [intOf]
        · have sm := Sa.st_small ha.out hb.out HS.out
          obtain ⟨m, n, s, e1, e2, e3, hs, hs64⟩ := step_wrap lx0.out ly1.out sm.2.1 sm.2.2.2.2
          have H2 : Hid (Sa.St a b 0 2 p0 (s % 4294967296) p2 p3 (s / 4294967296)) := Lib.hid (by
            have := Sa.st_01 HS.out
            rw [hs, Hx0.out, Hy1.out]
            exact this)
          have e4 : IntKind.u64.wrap ((s : Int) / 4294967296) = ((s / 4294967296 : Nat) : Int) := by rw [IntKind.wrap_u64]; omega
          have Hs64 := Lib.hid hs64
          have cx : wr.cell? ⟨X, 0, none⟩ = some (.int .u64 x0) := HR.out.x.cell rfl
          have cy : wr.cell? ⟨Y, 1, none⟩ = some (.int .u64 y1) := HR.out.y.cell rfl
          have cp : wr.cell? ⟨G, 1, none⟩ = some (.int .u64 p1) := HR.out.p.cell rfl
          have fp : wr.frozen? ⟨G, 1, none⟩ = false := HR.out.p.free 1
          clear sm hs hs64
          go_wp2
          go_quiet (fail)
          go_wp2
          go_roundw
          case rel => exact ⟨2, p0, (s % 4294967296), p2, p3, s / 4294967296, rfl, H2, Lib.hid ((HR.out.drewN _).set1 hG (s % 4294967296)), .inr (.inr ⟨rfl, rfl⟩)⟩
          case measure => simp [intOf]
        · have fp : wr.frozen? ⟨G, 2, none⟩ = false := HR.out.p.free 2
          have cp : wr.cell? ⟨G, 2, none⟩ = some (.int .u64 p2) := HR.out.p.cell rfl
          go_wp2
          go_roundw
          case rel => exact ⟨1, p0, p1, c, p3, Lib.hid (Sa.st_02 HS.out), Lib.hid (HR.out.set2 hG c), .inr (.inl ⟨rfl, rfl⟩)⟩
          case measure => simp [intOf]
    · go_wp2
      go_loopw [10, 20] (fun cv i wr2 => ∃ j p0 p1 p2 p3 c : Nat, cv = .int .u64 c ∧ Hid (Sa.St a b 1 j p0 p1 p2 p3 c) ∧ Hid (Dig w wr2 X Y G x0 x1 y0 y1 p0 p1 p2 p3) ∧ ((j = 0 ∧ i = .int .i64 0) ∨ (j = 1 ∧ i = .int .i64 1) ∨ (j = 2 ∧ i = .int .i64 2))) (fun _ i _ => 2 - (intOf i).toNat)
      case atStart => exact ⟨0, p0, p1, p2, p3, 0, rfl, HS, HR, .inl ⟨rfl, rfl⟩⟩
      case round =>
        clear HS HR
        obtain ⟨j, p0, p1, p2, p3, c, rfl, HS, HR, (⟨rfl, rfl⟩ | ⟨rfl, rfl⟩ | ⟨rfl, rfl⟩)⟩ := hrel
        · have sm := Sa.st_small ha.out hb.out HS.out
          obtain ⟨m, n, s, e1, e2, e3, hs, hs64⟩ := step_wrap lx1.out ly0.out sm.2.1 sm.2.2.2.2
          have H2 : Hid (Sa.St a b 1 1 p0 (s % 4294967296) p2 p3 (s / 4294967296)) := Lib.hid (by
            have := Sa.st_10 HS.out
            rw [hs, Hx1.out, Hy0.out]
            exact this)
          have e4 : IntKind.u64.wrap ((s : Int) / 4294967296) = ((s / 4294967296 : Nat) : Int) := by rw [IntKind.wrap_u64]; omega
          have Hs64 := Lib.hid hs64
          have cx : wr.cell? ⟨X, 1, none⟩ = some (.int .u64 x1) := HR.out.x.cell rfl
          have cy : wr.cell? ⟨Y, 0, none⟩ = some (.int .u64 y0) := HR.out.y.cell rfl
          have cp : wr.cell? ⟨G, 1, none⟩ = some (.int .u64 p1) := HR.out.p.cell rfl
          have fp : wr.frozen? ⟨G, 1, none⟩ = false := HR.out.p.free 1
          clear sm hs hs64
          go_wp2
          go_quiet (fail)
          go_wp2
          go_roundw
          case rel => exact ⟨1, p0, (s % 4294967296), p2, p3, s / 4294967296, rfl, H2, Lib.hid ((HR.out.drewN _).set1 hG (s % 4294967296)), .inr (.inl ⟨rfl, rfl⟩)⟩
          case measure => simp [intOf]
        · have sm := Sa.st_small ha.out hb.out HS.out
          obtain ⟨m, n, s, e1, e2, e3, hs, hs64⟩ := step_wrap lx1.out ly1.out sm.2.2.1 sm.2.2.2.2
          have H2 : Hid (Sa.St a b 1 2 p0 p1 (s % 4294967296) p3 (s / 4294967296)) := Lib.hid (by
            have := Sa.st_11 HS.out
            rw [hs, Hx1.out, Hy1.out]
            exact this)
          have e4 : IntKind.u64.wrap ((s : Int) / 4294967296) = ((s / 4294967296 : Nat) : Int) := by rw [IntKind.wrap_u64]; omega
          have Hs64 := Lib.hid hs64
          have cx : wr.cell? ⟨X, 1, none⟩ = some (.int .u64 x1) := HR.out.x.cell rfl
          have cy : wr.cell? ⟨Y, 1, none⟩ = some (.int .u64 y1) := HR.out.y.cell rfl
          have cp : wr.cell? ⟨G, 2, none⟩ = some (.int .u64 p2) := HR.out.p.cell rfl
          have fp : wr.frozen? ⟨G, 2, none⟩ = false := HR.out.p.free 2
          clear sm hs hs64
          go_wp2
          go_quiet (fail)
          go_wp2
          go_roundw
          case rel => exact ⟨2, p0, p1, (s % 4294967296), p3, s / 4294967296, rfl, H2, Lib.hid ((HR.out.drewN _).set2 hG (s % 4294967296)), .inr (.inr ⟨rfl, rfl⟩)⟩
          case measure => simp [intOf]
        · have fp : wr.frozen? ⟨G, 3, none⟩ = false := HR.out.p.free 3
          have cp : wr.cell? ⟨G, 3, none⟩ = some (.int .u64 p3) := HR.out.p.cell rfl
          go_wp2
          go_roundw
          case rel => exact ⟨2, p0, p1, p2, c, Lib.hid (Sa.st_12 HS.out), Lib.hid (HR.out.set3 hG c), .inr (.inr ⟨rfl, rfl⟩)⟩
          case measure => simp [intOf]
    · have c0 : wr.cell? ⟨G, 0, none⟩ = some (.int .u64 p0) := HR.out.p.cell rfl
      have c1 : wr.cell? ⟨G, 1, none⟩ = some (.int .u64 p1) := HR.out.p.cell rfl
      have c2 : wr.cell? ⟨G, 2, none⟩ = some (.int .u64 p2) := HR.out.p.cell rfl
      have c3 : wr.cell? ⟨G, 3, none⟩ = some (.int .u64 p3) := HR.out.p.cell rfl
      obtain ⟨hh, hl⟩ := Sa.st_end HS.out
      have sm := Sa.st_small ha.out hb.out HS.out
      have q2 : p2 < 4294967296 := sm.2.2.1
      have q0 : p0 < 4294967296 := sm.1
      have q1 : p1 < 4294967296 := sm.2.1
      have q3 : p3 < 4294967296 := sm.2.2.2.1
      have e1 : IntKind.u64.wrap ((p3 : Int) * 4294967296) = ((p3 * 4294967296 : Nat) : Int) := by rw [IntKind.wrap_u64]; omega
      have e2 : IntKind.u64.wrap (((p3 * 4294967296 : Nat) : Int) + (p2 : Int)) = ((Sa.hiN a b : Nat) : Int) := by rw [← hh, IntKind.wrap_u64]; unfold Sa.B; omega
      have e3 : IntKind.u64.wrap ((p1 : Int) * 4294967296) = ((p1 * 4294967296 : Nat) : Int) := by rw [IntKind.wrap_u64]; omega
      have e4 : IntKind.u64.wrap (((p1 * 4294967296 : Nat) : Int) + (p0 : Int)) = ((Sa.loN a b : Nat) : Int) := by rw [← hl, IntKind.wrap_u64]; unfold Sa.B; omega
      generalize p3 * 4294967296 = z3 at e1 e2
      generalize p1 * 4294967296 = z1 at e3 e4
      obtain ⟨rh, hrh⟩ : ∃ r, r = Sa.hiN a b := ⟨_, rfl⟩
      obtain ⟨rl, hrl⟩ : ∃ r, r = Sa.loN a b := ⟨_, rfl⟩
      rw [← hrh] at e2
      rw [← hrl] at e4
      have Hrh := Lib.hid hrh
      have Hrl := Lib.hid hrl
      clear hrh hrl hh hl sm q0 q1 q2 q3
      go_wp2
      go_quiet (fail)
      go_wp2
      go_ret2
      rw [← Hrh.out, ← Hrl.out]
      exact ⟨rfl, below_drewN HR.out.b _⟩
end Go.Proofs.Ytmjfohledkilbaa
