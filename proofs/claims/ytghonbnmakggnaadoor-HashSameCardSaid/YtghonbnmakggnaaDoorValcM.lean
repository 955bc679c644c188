/-
  THE CONTRACTS OF package value's FUNCTIONS, LAST PART: Print; of the document's own: digits.
-/
import Derived.Test.YtghonbnmakggnaaDoorValbM
import Derived.Lib.ItoaLen
import Derived.Deep.DeepCutAuto
import Derived.Deep.CutBlock
import Derived.Laws.IdiomStrings
namespace Go.Proofs.YtghonbnmakggnaaDoor
open Go.RowKit Go.Sort
set_option maxHeartbeats 400000

theorem below_grown (w : World) (k : Nat) (os : Array Obj) : Below w.heap.size w (grow (w.drewN k) os) :=
  ⟨rfl, rfl, rfl, by simp [grow], fun j hj => by simp [grow, Array.getElem?_append, hj]⟩
theorem app_l (s t : List UInt8) : (⟨s.toArray⟩ : ByteArray) ++ ⟨t.toArray⟩ = ⟨(s ++ t).toArray⟩ := by
  apply ByteArray.ext
  rw [ByteArray.data_append]
  simp
/-- what Print tells -/
def prt (b : Bool) (n : Int) : List UInt8 := if b then Va.nul else Lib.itoa n

theorem print_any (b : Bool) (n : Int) (w : World) (h0 : -9223372036854775808 ≤ n) (h1 : n ≤ 9223372036854775807) (hP : Pows w) :
    Calls Tryd.prog 21 #[.agg #[.bool b, .int .i64 n]] w fun e w' => e = .returned (.string ⟨(prt b n).toArray⟩) ∧ Below w.heap.size w w' := by
  cases b
  · have hP1 : Pows (w.alloc (Obj.cells #[Value.bool false, Value.int IntKind.i64 n] 33)) := hP.below (below_new w _) (Nat.le_refl _)
    have hf := Tryd.strconv_FormatInt_10 n h0 h1 _ hP1
    clear hP hP1 h0 h1
    go_enter Tryd.func21, Tryd.ntmps21
    go_wp2_with fail
    refine hf.mono ?_
    rintro e w1 ⟨rfl, k, os, rfl⟩
    have hb := below_join (below_new w (Obj.cells #[Value.bool false, Value.int IntKind.i64 n] 33)) (below_grown _ k os)
    clear hf
    generalize grow ((w.alloc (Obj.cells #[Value.bool false, Value.int IntKind.i64 n] 33)).drewN k) os = w1 at hb ⊢
    go_wp2
    go_ret
    exact ⟨rfl, hb⟩
  · clear hP h0 h1
    go_enter Tryd.func21, Tryd.ntmps21
    go_wp2
    go_ret
    exact ⟨rfl, below_new _ _⟩
theorem digits_on {u m : Nat} {s : List UInt8} (h : Lib.decDigits u = Lib.decDigits m ++ s) (hm : ¬ m < 10) : Lib.decDigits u = Lib.decDigits (m / 10) ++ (UInt8.ofNat (48 + m % 10) :: s) := by
  rw [h, Va.digits_big hm, List.append_assoc]; rfl
theorem conv_one (W : World) (x : Int) (k : Nat) (hk : k < 10) (hx : x = 48 + (k : Int)) :
    (convert 53 9 (.slice (some ⟨W.heap.size, 0, none⟩) 1 1)).run Tryd.prog (W.alloc (.cells #[.int .u8 x] 5)) = .ok (.string ⟨[UInt8.ofNat (48 + k)].toArray⟩) (W.alloc (.cells #[.int .u8 x] 5)) := by
  refine run_convert_bytes_back (W.alloc (.cells #[.int .u8 x] 5)) 53 9 5 ⟨W.heap.size, 0, none⟩ 1 [UInt8.ofNat (48 + k)] Tryd.underlying53 Tryd.underlying5 Tryd.underlying9 ?_
  intro j hj
  have hj0 : j = 0 := by simp at hj; omega
  subst hj0
  have e : ((⟨W.heap.size, 0, none⟩ : Addr).add 0) = ⟨W.heap.size, 0, none⟩ := rfl
  rw [e, World.cell?_alloc_new, hx]
  have := Va.toNat_dig hk
  simp only [List.getElem_cons_zero, this]
  simp
theorem rnatural_any (u : Nat) (w : World) (hu : u < 18446744073709551616) :
    Calls Tryd.prog 45 #[.int .u64 (u : Int)] w fun e w' => e = .returned (.string ⟨(Lib.decDigits u).toArray⟩) ∧ Below w.heap.size w w' := by
  have hlen : (Lib.decDigits u).length ≤ 20 := by rw [Lib.decDigits_length]; exact Lib.nDigits_le20 u hu
  obtain ⟨r, hr⟩ : ∃ r, r = Lib.decDigits u := ⟨_, rfl⟩
  rw [← hr] at hlen ⊢
  have HR := Lib.hid hr
  have HU := Lib.hid hu
  clear hr hu
  go_enter Tryd.func45, Tryd.ntmps45
  go_wp2
  go_loopw [0, 3] (fun v s wr => ∃ (m : Nat) (t : List UInt8), v = .int .u64 (m : Int) ∧ s = .string ⟨t.toArray⟩ ∧ Hid (r = Lib.decDigits m ++ t) ∧ Hid (m < 18446744073709551616) ∧ Below w.heap.size w wr) (fun v _ _ => (intOf v).toNat)
  case atStart => exact ⟨u, [], rfl, rfl, Lib.hid (by rw [HR.out, List.append_nil]), HU, Below.refl _ _⟩
  case round =>
    obtain ⟨m, t, rfl, rfl, hrt, hm, hb⟩ := hrel
    have htl : t.length ≤ 20 := by
      have := congrArg List.length hrt.out
      rw [List.length_append] at this
      omega
    have hn : ¬ 9223372036854775807 < 1 + t.length := by omega
    by_cases h10 : m < 10
    · have d1 : decide ((10 : Int) ≤ (m : Int)) = false := by simp; omega
      have hcv := conv_one wr (48 + (m : Int)) m h10 rfl
      have hr2 : r = UInt8.ofNat (48 + m) :: t := by rw [hrt.out, Va.digits_small h10]; rfl
      obtain ⟨c, hc⟩ : ∃ c, c = UInt8.ofNat (48 + m) := ⟨_, rfl⟩
      rw [← hc] at hcv hr2
      have Hr2 := Lib.hid hr2
      clear hlen htl hc hr2
      go_wp2
      go_ret
      refine ⟨?_, hb.alloc hb.size _⟩
      rw [Hr2.out, show (⟨#[c]⟩ : ByteArray) = ⟨[c].toArray⟩ from rfl, app_l]
      rfl
    · have d1 : decide ((10 : Int) ≤ (m : Int)) = true := by simp; omega
      have hcv := conv_one wr (48 + (m : Int) % 10) (m % 10) (Nat.mod_lt _ (by omega)) (by omega)
      have hr2 := digits_on (HR.out.symm.trans hrt.out) h10
      rw [← HR.out] at hr2
      obtain ⟨c, hc⟩ : ∃ c, c = UInt8.ofNat (48 + m % 10) := ⟨_, rfl⟩
      rw [← hc] at hcv hr2
      have Hr2 := Lib.hid hr2
      have H64 : Hid (m / 10 < 18446744073709551616) := Lib.hid (by have := hm.out; omega)
      have hw : IntKind.u64.wrap ((m : Int) / 10) = (m : Int) / 10 := by
        have := hm.out
        rw [IntKind.wrap_u64]; omega
      clear hlen htl hc hr2
      go_wp2
      go_roundw
      case rel => exact ⟨m / 10, c :: t, by simp, by rw [show (⟨#[c]⟩ : ByteArray) = ⟨[c].toArray⟩ from rfl, app_l]; rfl, Hr2, H64, hb.alloc hb.size _⟩
      case measure => simp [intOf]; omega
theorem rwhole_any (n : Int) (w : World) (h0 : -9223372036854775808 ≤ n) (h1 : n ≤ 9223372036854775807) :
    Calls Tryd.prog 37 #[.int .i64 n] w fun e w' => e = .returned (.string ⟨(Lib.itoa n).toArray⟩) ∧ Below w.heap.size w w' := by
  by_cases hn : n < 0
  · obtain ⟨u, hu⟩ : ∃ u : Nat, n = -(u : Int) := ⟨n.natAbs, by omega⟩
    have hu1 : 1 ≤ u := by omega
    have hu2 : u < 18446744073709551616 := by omega
    have hi : Lib.itoa n = 45 :: Lib.decDigits u := by rw [hu]; exact Lib.itoa_neg u hu1
    have hlen : (Lib.decDigits u).length ≤ 20 := by rw [Lib.decDigits_length]; exact Lib.nDigits_le20 u hu2
    rw [hi]
    obtain ⟨D, hD⟩ : ∃ D, D = Lib.decDigits u := ⟨_, rfl⟩
    have hnat := fun w' => rnatural_any u w' hu2
    rw [← hD] at hnat hlen ⊢
    have d1 : decide (n < 0) = true := by simp; omega
    have e1 : IntKind.i64.wrap (n + 1) = n + 1 := by rw [IntKind.wrap_i64]; omega
    have e2 : IntKind.i64.wrap (-(n + 1)) = ((u - 1 : Nat) : Int) := by rw [IntKind.wrap_i64]; omega
    have e3 : IntKind.u64.wrap (((u - 1 : Nat) : Int)) = ((u - 1 : Nat) : Int) := by rw [IntKind.wrap_u64]; omega
    have e4 : IntKind.u64.wrap (((u - 1 : Nat) : Int) + 1) = (u : Int) := by rw [IntKind.wrap_u64]; omega
    have hl : ¬ 9223372036854775807 < 1 + D.length := by omega
    clear hD hlen hi hu hn h0 h1 hu2
    go_enter Tryd.func37, Tryd.ntmps37
    go_wp2_with fail
    refine (hnat _).mono ?_
    rintro e w1 ⟨rfl, hb⟩
    go_wp2
    go_ret
    refine ⟨?_, hb⟩
    rw [show (⟨#[45]⟩ : ByteArray) = ⟨[45].toArray⟩ from rfl, app_l]
    rfl
  · obtain ⟨u, hu⟩ : ∃ u : Nat, n = (u : Int) := ⟨n.toNat, by omega⟩
    subst hu
    have hu2 : u < 18446744073709551616 := by omega
    have hi : Lib.itoa (u : Int) = Lib.decDigits u := Lib.itoa_nonneg u
    rw [hi]
    have hnat := fun w' => rnatural_any u w' hu2
    have d1 : decide ((u : Int) < 0) = false := by simp
    have e3 : IntKind.u64.wrap (u : Int) = (u : Int) := by rw [IntKind.wrap_u64]; omega
    clear hi hn h0 h1 hu2
    go_enter Tryd.func37, Tryd.ntmps37
    go_wp2_with fail
    refine (hnat _).mono ?_
    rintro e w1 ⟨rfl, hb⟩
    go_wp2
    go_ret
    exact ⟨rfl, hb⟩
theorem rnull_any (w : World) :
    Calls Tryd.prog 36 #[] w fun e w' => e = .returned (.string ⟨#[226, 136, 133]⟩) ∧ w = w' := by
  go_enter Tryd.func36, Tryd.ntmps36
  go_wp2
  go_ret
  exact ⟨rfl, rfl⟩
theorem rprint_any (b : Bool) (n : Int) (w : World) (h0 : -9223372036854775808 ≤ n) (h1 : n ≤ 9223372036854775807) :
    Calls Tryd.prog 25 #[.agg #[.bool b, .int .i64 n]] w fun e w' => e = .returned (.string ⟨(prt b n).toArray⟩) ∧ Below w.heap.size w w' := by
  cases b
  · have hf := fun w' => rwhole_any n w' h0 h1
    clear h0 h1
    go_enter Tryd.func25, Tryd.ntmps25
    go_wp2_with fail
    refine (hf _).mono ?_
    rintro e w1 ⟨rfl, hb⟩
    have hb := below_join (below_new w (Obj.cells #[Value.bool false, Value.int IntKind.i64 n] 33)) hb
    clear hf
    go_wp2
    go_ret
    exact ⟨rfl, hb⟩
  · clear h0 h1
    go_enter Tryd.func25, Tryd.ntmps25
    go_wp2_with fail
    refine (rnull_any _).mono ?_
    rintro e w1 ⟨rfl, rfl⟩
    go_wp2
    go_ret
    exact ⟨rfl, below_new _ _⟩
/-- the result's block, written anew -/
theorem store_val {w W0 : World} {t : TypeId} (hW : W0 = w.alloc (Obj.cells #[Value.bool false, Value.int IntKind.i64 0] t)) (x : Int) :
    Below w.heap.size w ((W0.setCell ⟨w.heap.size, 0, none⟩ (.bool false)).setCell ⟨w.heap.size, 1, none⟩ (.int .i64 x)) ∧
    ((W0.setCell ⟨w.heap.size, 0, none⟩ (.bool false)).setCell ⟨w.heap.size, 1, none⟩ (.int .i64 x)).cell? ⟨w.heap.size, 0, none⟩ = some (.bool false) ∧
    ((W0.setCell ⟨w.heap.size, 0, none⟩ (.bool false)).setCell ⟨w.heap.size, 1, none⟩ (.int .i64 x)).cell? ⟨w.heap.size, 1, none⟩ = some (.int .i64 x) := by
  have hL : Lies W0 w.heap.size t [Value.bool false, Value.int IntKind.i64 0] := by rw [hW]; exact Lies.new w _ _
  have hb : Below w.heap.size w W0 := by rw [hW]; exact below_new w _
  have hL2 := (hL.set 0 (.bool false)).set 1 (.int .i64 x)
  exact ⟨(hb.setCell (Nat.le_refl _) _).setCell (Nat.le_refl _) _, hL2.cell (i := 0) rfl, hL2.cell (i := 1) rfl⟩
theorem get_of {s : ByteArray} {i : Nat} {c : UInt8} (h : s.data.toList[i]? = some c) {hi : i < s.size} : s[i]'hi = c := by
  obtain ⟨h1, h2⟩ := List.getElem?_eq_some_iff.1 h
  rw [← h2]; rfl
end Go.Proofs.YtghonbnmakggnaaDoor
