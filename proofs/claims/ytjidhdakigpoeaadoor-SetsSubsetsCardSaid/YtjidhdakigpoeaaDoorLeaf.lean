/-
  THE CONTRACTS OF package sets' FUNCTIONS THAT MAKE NOTHING: member, Has, In, Below, Count, Min; and of the library's OnesCount64, TrailingZeros64.
-/
import Derived.Test.YtjidhdakigpoeaaDoorRows
import Derived.Test.YtjidhdakigpoeaaDoorSet
import Derived.WalkKit
import Derived.WalkSpells
import Derived.WalkLawsBesides
import Derived.Shelf.Spec.TrailingZeros
import Derived.Lib.Hide
namespace Go.Proofs.YtjidhdakigpoeaaDoor
open Go.RowKit
set_option maxHeartbeats 400000

/-- a number that a word of 64 digits holds -/
def U64 (a : Int) : Prop := 0 ≤ a ∧ a < 18446744073709551616
theorem U64.nat {a : Int} (h : U64 a) : ∃ n : Nat, a = n ∧ n < 18446744073709551616 := by
  obtain ⟨n, rfl⟩ := Int.eq_ofNat_of_zero_le h.1
  exact ⟨n, rfl, by have := h.2; omega⟩
theorem U64.of {n : Nat} (h : n < 18446744073709551616) : U64 (n : Int) := ⟨by omega, by omega⟩

theorem ret_bool {a b : Bool} (h : a = b) : Ending.returned (.bool a) = .returned (.bool b) := by rw [h]
theorem ret_int {k : IntKind} {a b : Int} (h : a = b) : Ending.returned (.int k a) = .returned (.int k b) := by rw [h]

theorem member_yes (i : Int) (w : World) (h0 : 0 ≤ i) (h1 : i ≤ 63) :
    Calls Tryd.prog 25 #[.int .i64 i] w fun e w' => e = .returned (.bool true) ∧ w = w' := by
  go_enter Tryd.func25, Tryd.ntmps25
  go_wp2
  go_ret
  exact ⟨ret_bool (by simp; try omega), rfl⟩
theorem member_no (i : Int) (w : World) (h : i < 0 ∨ 63 < i) :
    Calls Tryd.prog 25 #[.int .i64 i] w fun e w' => e = .returned (.bool false) ∧ w = w' := by
  rcases h with h | h
  · go_enter Tryd.func25, Tryd.ntmps25
    go_wp2
    go_ret
    exact ⟨rfl, rfl⟩
  · have h0 : 0 ≤ i := by omega
    go_enter Tryd.func25, Tryd.ntmps25
    go_wp2
    go_ret
    exact ⟨ret_bool (by simp; try omega), rfl⟩

theorem toNat_div_pow (a : Nat) (k : Nat) : ((a : Int) / 2 ^ k) = ((a / 2 ^ k : Nat) : Int) := by simp
theorem and_one (a : Nat) (ha : a < 18446744073709551616) (k : Nat) : (bits BinOp.and IntKind.u64 ((a : Int) / 2 ^ k) 1 == 1) = a.testBit k := by
  rw [toNat_div_pow, show (1 : Int) = ((1 : Nat) : Int) from rfl, u64_and_nat _ _ (Nat.lt_of_le_of_lt (Nat.div_le_self _ _) ha) (by decide), Nat.and_one_is_mod, Nat.testBit_eq_decide_div_mod_eq]
  rcases Nat.mod_two_eq_zero_or_one (a / 2 ^ k) with h | h <;> rw [h] <;> rfl

theorem has_any (a i : Int) (w : World) (ha : U64 a) :
    Calls Tryd.prog 7 #[.int .u64 a, .int .i64 i] w fun e w' => e = .returned (.bool (St.hasB a.toNat i)) ∧ w = w' := by
  by_cases h : 0 ≤ i ∧ i ≤ 63
  · obtain ⟨h0, h1⟩ := h
    go_enter Tryd.func7, Tryd.ntmps7
    go_wp2_with (go_at_call 25; refine (member_yes _ _ h0 h1).mono ?_; rintro e w' ⟨rfl, rfl⟩)
    go_ret
    obtain ⟨n, rfl, hn⟩ := ha.nat
    exact ⟨ret_bool (by rw [and_one n hn, Int.toNat_natCast]; simp [St.hasB, h0, h1]), rfl⟩
  · have h' : i < 0 ∨ 63 < i := by omega
    go_enter Tryd.func7, Tryd.ntmps7
    go_wp2_with (go_at_call 25; refine (member_no _ _ h').mono ?_; rintro e w' ⟨rfl, rfl⟩)
    go_ret
    exact ⟨ret_bool (by unfold St.hasB; rcases h' with h' | h'; · simp; omega
                        · have : ¬ i ≤ 63 := by omega
                          simp [this]), rfl⟩

theorem in_any (a b : Int) (w : World) (ha : U64 a) (hb : U64 b) :
    Calls Tryd.prog 16 #[.int .u64 a, .int .u64 b] w fun e w' => e = .returned (.bool (St.inB a.toNat b.toNat)) ∧ w = w' := by
  go_enter Tryd.func16, Tryd.ntmps16
  go_wp2
  go_ret
  refine ⟨ret_bool ?_, rfl⟩
  rw [u64_andNot a b ha.1 ha.2 hb.1 hb.2]
  unfold St.inB
  rw [Bool.eq_iff_iff]
  simp

theorem below_any (i : Int) (w : World) :
    Calls Tryd.prog 9 #[.int .i64 i] w fun e w' => e = .returned (.int .u64 (St.belowN i : Nat)) ∧ w = w' := by
  by_cases h0 : i < 0
  · go_enter Tryd.func9, Tryd.ntmps9
    go_wp2
    go_ret
    exact ⟨ret_int (by rw [St.belowN_neg i h0]; rfl), rfl⟩
  · have h0' : 0 ≤ i := by omega
    clear h0
    by_cases h1 : 63 < i
    · go_enter Tryd.func9, Tryd.ntmps9
      go_wp2
      go_ret
      exact ⟨ret_int (by rw [St.belowN_high i (by omega)]; rfl), rfl⟩
    · have h1' : i ≤ 63 := by omega
      clear h1
      go_enter Tryd.func9, Tryd.ntmps9
      go_wp2
      go_ret
      exact ⟨ret_int (by rw [St.belowN_mid i h0' h1']; simp), rfl⟩

theorem ones_core (x y1 y2 y3 y4 y5 y6 : Nat) (w : World)
    (e1 : IntKind.u64.wrap (bits BinOp.and IntKind.u64 ((x : Int) / 2) 6148914691236517205 + bits BinOp.and IntKind.u64 (x : Int) 6148914691236517205) = (y1 : Int))
    (e2 : IntKind.u64.wrap (bits BinOp.and IntKind.u64 ((y1 : Int) / 4) 3689348814741910323 + bits BinOp.and IntKind.u64 (y1 : Int) 3689348814741910323) = (y2 : Int))
    (e3 : bits BinOp.and IntKind.u64 (IntKind.u64.wrap ((y2 : Int) / 16 + (y2 : Int))) 1085102592571150095 = (y3 : Int))
    (e4 : IntKind.u64.wrap ((y3 : Int) + (y3 : Int) / 256) = (y4 : Int))
    (e5 : IntKind.u64.wrap ((y4 : Int) + (y4 : Int) / 65536) = (y5 : Int))
    (e6 : IntKind.u64.wrap ((y5 : Int) + (y5 : Int) / 4294967296) = (y6 : Int)) :
    Calls Tryd.prog 27 #[.int .u64 x] w fun e w' => e = .returned (.int .i64 (bits BinOp.and IntKind.i64 (wrap64 y6) 127)) ∧ w = w' := by
  go_enter Tryd.func27, Tryd.ntmps27
  go_wp2
  go_ret
  exact ⟨rfl, rfl⟩
theorem i64_and127 (a : Nat) (ha : a < 9223372036854775808) : bits .and .i64 (a : Int) 127 = ((a % 128 : Nat) : Int) := by
  show IntKind.i64.wrap ((BitVec.ofInt 64 (a : Int) &&& BitVec.ofInt 64 127).toNat : Int) = _
  have h : (BitVec.ofInt 64 127).toNat = 2 ^ 7 - 1 := by decide
  rw [BitVec.toNat_and, ofInt_u64 a (by omega), h, Nat.and_two_pow_sub_one_eq_mod]
  simp [IntKind.wrap, IntKind.bits, IntKind.signed]
  omega
theorem ones_eqs (x : Nat) (hx : x < 18446744073709551616) :
    IntKind.u64.wrap (bits BinOp.and IntKind.u64 ((x : Int) / 2) 6148914691236517205 + bits BinOp.and IntKind.u64 (x : Int) 6148914691236517205) = ((St.s1 8 x : Nat) : Int) ∧ St.s1 8 x < 18446744073709551616 := by
  have l1 : (x / 2) &&& 6148914691236517205 ≤ 6148914691236517205 := Nat.and_le_right
  have l2 : x &&& 6148914691236517205 ≤ 6148914691236517205 := Nat.and_le_right
  unfold St.s1
  rw [St.rep85]
  have h1 : bits BinOp.and IntKind.u64 ((x : Int) / 2) 6148914691236517205 = (((x / 2) &&& 6148914691236517205 : Nat) : Int) := u64_and_nat (x / 2) 6148914691236517205 (by omega) (by decide)
  have h2 : bits BinOp.and IntKind.u64 (x : Int) 6148914691236517205 = ((x &&& 6148914691236517205 : Nat) : Int) := u64_and_nat x 6148914691236517205 hx (by decide)
  rw [h1, h2, IntKind.wrap_u64]
  omega
theorem ones_eqs2 (x : Nat) (hx : x < 18446744073709551616) :
    IntKind.u64.wrap (bits BinOp.and IntKind.u64 ((x : Int) / 4) 3689348814741910323 + bits BinOp.and IntKind.u64 (x : Int) 3689348814741910323) = ((St.s2 8 x : Nat) : Int) ∧ St.s2 8 x ≤ 7378697629483820646 := by
  have l1 : (x / 4) &&& 3689348814741910323 ≤ 3689348814741910323 := Nat.and_le_right
  have l2 : x &&& 3689348814741910323 ≤ 3689348814741910323 := Nat.and_le_right
  unfold St.s2
  rw [St.rep51]
  have h1 : bits BinOp.and IntKind.u64 ((x : Int) / 4) 3689348814741910323 = (((x / 4) &&& 3689348814741910323 : Nat) : Int) := u64_and_nat (x / 4) 3689348814741910323 (by omega) (by decide)
  have h2 : bits BinOp.and IntKind.u64 (x : Int) 3689348814741910323 = ((x &&& 3689348814741910323 : Nat) : Int) := u64_and_nat x 3689348814741910323 hx (by decide)
  rw [h1, h2, IntKind.wrap_u64]
  omega
theorem ones_eqs3 (x : Nat) (hx : x ≤ 7378697629483820646) :
    bits BinOp.and IntKind.u64 (IntKind.u64.wrap ((x : Int) / 16 + (x : Int))) 1085102592571150095 = ((St.s3 8 x : Nat) : Int) := by
  have e : IntKind.u64.wrap ((x : Int) / 16 + (x : Int)) = ((x / 16 + x : Nat) : Int) := by rw [IntKind.wrap_u64]; omega
  unfold St.s3
  rw [St.rep15, e]
  exact u64_and_nat (x / 16 + x) 1085102592571150095 (by omega) (by decide)
theorem ones_any (a : Int) (w : World) (ha : U64 a) :
    Calls Tryd.prog 27 #[.int .u64 a] w fun e w' => e = .returned (.int .i64 (St.pop 64 a.toNat : Nat)) ∧ w = w' := by
  obtain ⟨x, rfl, hx⟩ := ha.nat
  have k1 := ones_eqs x hx
  have k2 := ones_eqs2 _ k1.2
  have k3 := ones_eqs3 _ k2.2
  have hm := St.ones_math x
  have hf : St.s3 8 (St.s2 8 (St.s1 8 x)) = St.fb 8 x := rfl
  rw [hf] at k3
  have g4 : St.oc4 (St.fb 8 x) = St.fb 8 x + St.fb 8 x / 256 := rfl
  have g5 : St.oc5 (St.oc4 (St.fb 8 x)) = St.oc4 (St.fb 8 x) + St.oc4 (St.fb 8 x) / 65536 := rfl
  have g6 : St.oc6 (St.oc5 (St.oc4 (St.fb 8 x))) = St.oc5 (St.oc4 (St.fb 8 x)) + St.oc5 (St.oc4 (St.fb 8 x)) / 4294967296 := rfl
  refine (ones_core x _ _ _ (St.oc4 (St.fb 8 x)) (St.oc5 (St.oc4 (St.fb 8 x))) (St.oc6 (St.oc5 (St.oc4 (St.fb 8 x)))) w k1.1 k2.1 k3 ?_ ?_ ?_).mono fun e w' ⟨he, hw⟩ => ⟨?_, hw⟩
  · rw [IntKind.wrap_u64, g4]; omega
  · rw [IntKind.wrap_u64, g5]; omega
  · rw [IntKind.wrap_u64, g6]; omega
  · rw [he, Int.toNat_natCast, IntWalk.wrap64_in _ ⟨by omega, by omega⟩, i64_and127 _ (by omega), hm.2.2.2.2]

theorem count_any (a : Int) (w : World) (ha : U64 a) :
    Calls Tryd.prog 18 #[.int .u64 a] w fun e w' => e = .returned (.int .i64 (St.pop 64 a.toNat : Nat)) ∧ w = w' := by
  go_enter Tryd.func18, Tryd.ntmps18
  go_wp2_with (go_at_call 27; refine (ones_any _ _ ha).mono ?_; rintro e w' ⟨rfl, rfl⟩)
  go_ret
  exact ⟨rfl, rfl⟩

/-- the library's table, as its initialiser lays it -/
def Tab (w : World) : Prop := TabAt 0 Lib.deBruijn64tab w
theorem Tab.size {w : World} (h : Tab w) : 0 < w.heap.size := by
  have := h 0 (by decide)
  unfold World.cell? at this
  by_cases hs : 0 < w.heap.size
  · exact hs
  · simp [Array.getElem?_eq_none (Nat.le_of_not_lt hs)] at this
theorem Tab.below {w w' : World} (h : Tab w) (hb : Below w.heap.size w w') : Tab w' := fun j hj => (hb.cell (p := ⟨_, j, none⟩) h.size).trans (h j hj)

theorem tz_core (x k idx : Nat) (w : World) (hx0 : ((x : Int) == 0) = false)
    (key : IntKind.u64.wrap (bits BinOp.and IntKind.u64 (x : Int) (IntKind.u64.wrap (-(x : Int))) * 285870213051353865) / 288230376151711744 = (idx : Int))
    (hi : idx < 64) (hk : k < 64) (hcell : w.cell? ⟨0, idx, none⟩ = some (.int .u8 k)) :
    Calls Tryd.prog 28 #[.int .u64 x] w fun e w' => e = .returned (.int .i64 k) ∧ w = w' := by
  go_enter Tryd.func28, Tryd.ntmps28
  go_wp2_with (simp only [key])
  go_ret
  exact ⟨rfl, rfl⟩
theorem tz_any (x : Nat) (hx : x < 18446744073709551616) (hx0 : x ≠ 0) (w : World) (hT : Tab w) :
    Calls Tryd.prog 28 #[.int .u64 x] w fun e w' => e = .returned (.int .i64 (Lib.ctz 64 x : Nat)) ∧ w = w' := by
  obtain ⟨hlow, hk⟩ := Lib.lowest_bit 64 x hx0 hx
  obtain ⟨hi, htab⟩ := Lib.deBruijn64_at _ hk
  have hcell := hT _ hi
  rw [htab] at hcell
  exact tz_core x _ _ w (by simp; omega) (tz64_key x _ hx hx0 hlow) hi hk hcell
theorem min_any (a : Int) (w : World) (ha : U64 a) (hT : Tab w) :
    Calls Tryd.prog 20 #[.int .u64 a] w fun e w' => e = .returned (.int .i64 (St.minI a.toNat)) ∧ w = w' := by
  obtain ⟨x, rfl, hx⟩ := ha.nat
  rw [Int.toNat_natCast]
  by_cases h0 : x = 0
  · subst h0
    go_enter Tryd.func20, Tryd.ntmps20
    go_wp2
    go_ret
    exact ⟨rfl, rfl⟩
  · have hz : ((x : Int) == 0) = false := by simp; omega
    have HT := Lib.hid hT
    clear hT
    go_enter Tryd.func20, Tryd.ntmps20
    go_wp2_with (go_at_call 28; refine (tz_any _ hx h0 _ HT.out).mono ?_; rintro e w' ⟨rfl, rfl⟩)
    go_ret
    exact ⟨ret_int (by unfold St.minI; rw [if_neg h0]), rfl⟩
end Go.Proofs.YtjidhdakigpoeaaDoor
