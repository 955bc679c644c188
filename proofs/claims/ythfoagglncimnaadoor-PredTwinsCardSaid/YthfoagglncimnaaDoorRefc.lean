/-
  THE CONTRACTS OF watersmeetref01's List, Count, Min, Of, Below.
-/
import Derived.Test.YthfoagglncimnaaDoorRefb
import Derived.OwnWalk
namespace Go.Proofs.YthfoagglncimnaaDoor
open Go.RowKit
set_option maxHeartbeats 400000

/-- what a call hands back: a slice of its own that holds l, each element of kind K; whatever lay before lies as it lay -/
def OwnNums (E : TypeId) (K : IntKind) (w : World) (l : List Int) (e : Ending) (w' : World) : Prop :=
  ∃ v, e = .returned v ∧ w'.ownsRow w.heap.size E 1 v l.length (l.map (Value.int K)) ∧ Below w.heap.size w w'

theorem own_grown {w wr w1 : World} {v : Value} {E : TypeId} {n : Nat} {xs : List Value} {o : Obj} (hb : Below w.heap.size w wr) (hown : wr.ownsRow w.heap.size E 1 v n xs) (hg : (wr.alloc o).grownBy w1 v.ownBlock) : Below w.heap.size w w1 :=
  (hb.alloc hb.size o).grown hg (by have := hb.size; simp; omega) (fun k hk => (hown.lt k hk).1)
theorem own_snoc {w w1 : World} {v : Value} {E : TypeId} {K : IntKind} {l : List Int} {k : Int} (h : w1.ownsRow w.heap.size E 1 v (l.length + 1) (l.map (Value.int K) ++ [Value.int K k])) :
    w1.ownsRow w.heap.size E 1 v (l ++ [k]).length ((l ++ [k]).map (Value.int K)) := by
  simpa using h
theorem Tryd.infoInt : (Tryd.prog.info? 3).map (fun i => (i.zero, i.size, i.bytes)) = some (some (.int .i64 0), 1, 8) := by kernel_rfl

def ints (l : List Nat) : List Int := l.map Int.ofNat
theorem ints_snoc (l : List Nat) (k : Nat) : ints (l ++ [k]) = ints l ++ [(k : Int)] := by simp [ints]
theorem ints_length (l : List Nat) : (ints l).length = l.length := by simp [ints]
theorem membTo_no (k s : Nat) (h : s.testBit k = false) : St.membTo (k + 1) s = St.membTo k s := by
  unfold St.membTo
  rw [List.range_succ, List.filter_append, List.filter_cons, h]
  simp
theorem membTo_yes (k s : Nat) (h : s.testBit k = true) : St.membTo (k + 1) s = St.membTo k s ++ [k] := by
  unfold St.membTo
  rw [List.range_succ, List.filter_append, List.filter_cons, h]
  simp
theorem membTo_le (k s : Nat) : (St.membTo k s).length ≤ k := by
  have := List.length_filter_le (fun i => s.testBit i) (List.range k)
  simpa [St.membTo] using this



theorem setTo_yes (p : Nat → Bool) (k : Nat) (h : p k = true) : St.setTo p (k + 1) = St.setTo p k + 2 ^ k := by rw [St.setTo, if_pos h]
theorem setTo_no (p : Nat → Bool) (k : Nat) (h : p k = false) : St.setTo p (k + 1) = St.setTo p k := by rw [St.setTo, if_neg (by simp [h])]
theorem rof_any (v : Value) (l : List Int) (w : World) (hv : Sl w v (l.map (Value.int .i64))) (hl : l.length ≤ 9223372036854775807) :
    Calls Tryd.prog 57 #[v] w fun e w' => e = .returned (.int .u64 (St.ofN l : Nat)) ∧ w = w' := by
  obtain ⟨A, c, rfl, _, hx⟩ := hv
  rw [List.length_map]
  obtain ⟨n, hn⟩ : ∃ n, n = l.length := ⟨_, rfl⟩
  rw [← hn] at hl ⊢
  have Hn := Lib.hid hn
  have HX := Lib.hid hx
  clear hn hx
  go_enter Tryd.func57, Tryd.ntmps57
  go_wp2
  go_loop [3, 4] (fun s i => ∃ q sv : Nat, q ≤ 64 ∧ i = .int .i64 q ∧ s = .int .u64 sv ∧ Hid (sv = St.setTo (fun j => decide ((j : Int) ∈ l)) q)) (fun _ i => 64 - (intOf i).toNat)
  case atStart => exact ⟨0, 0, by omega, rfl, rfl, Lib.hid rfl⟩
  case round =>
    obtain ⟨q, sv, hq, rfl, rfl, hsv⟩ := hrel
    by_cases hlt : q < 64
    · have hsl : sv + 2 ^ q < 18446744073709551616 := by
        have h1 := St.setTo_lt (fun j => decide ((j : Int) ∈ l)) q
        have h2 : 2 ^ q ≤ 2 ^ 63 := Nat.pow_le_pow_right (by decide) (by omega)
        rw [hsv.out]
        omega
      obtain ⟨pw, hpw⟩ : ∃ pw, pw = 2 ^ q := ⟨_, rfl⟩
      rw [← hpw] at hsl
      have Hpw := Lib.hid hpw
      clear hpw
      have HP : Hid (Calls Tryd.prog 48 #[.int .i64 q] w fun e w' => e = .returned (.int .u64 pw) ∧ w = w') := Lib.hid (by
        have := power_any q w (by omega) (by omega)
        rw [Hpw.out]; simpa using this)
      go_wp2
      go_loop [3, 5] (fun s k => ∃ j : Nat, j ≤ n ∧ k = .int .i64 j ∧ s = .int .u64 sv ∧ Hid (∀ i, i < j → l[i]? ≠ some (q : Int))) (fun _ k => n - (intOf k).toNat)
      case atStart => exact ⟨0, by omega, rfl, rfl, Lib.hid (fun i hi => by omega)⟩
      case round =>
        obtain ⟨j, hj, rfl, rfl, hno⟩ := hrel
        by_cases hjl : j < n
        · obtain ⟨x, gx⟩ : ∃ x, l[j]? = some x := ⟨l[j]'(by have := Hn.out; omega), List.getElem?_eq_getElem _⟩
          obtain ⟨b, o, p, rfl, _, hcell⟩ := HX.out j (.int .i64 x) (by simp [gx])
          have Gx := Lib.hid gx
          clear gx
          by_cases hxq : x = q
          · subst hxq
            have hb : (((q : Int)) == (q : Int)) = true := by simp
            have Hyes : Hid (sv + pw = St.setTo (fun j => decide ((j : Int) ∈ l)) (q + 1)) := Lib.hid (by
              rw [setTo_yes _ _ (by simp; exact List.mem_of_getElem? Gx.out), hsv.out, Hpw.out])
            go_wp2_with (go_at_call 48; refine HP.out.mono ?_; rintro e w' ⟨rfl, rfl⟩)
            go_round
            case rel => exact ⟨q + 1, sv + pw, by omega, by go_num, by go_num, Hyes⟩
            case measure => simp [intOf]; omega
          · have hb : (x == (q : Int)) = false := by simp [hxq]
            have hno2 : Hid (∀ i, i < j + 1 → l[i]? ≠ some (q : Int)) := Lib.hid (fun i hi e => by
              by_cases h : i = j
              · subst h; rw [Gx.out] at e; exact hxq (Option.some.inj e)
              · exact hno.out i (by omega) e)
            clear hxq
            go_wp2
            go_round
            case rel => exact ⟨j + 1, by omega, by go_num, rfl, hno2⟩
            case measure => simp [intOf]; omega
        · have Hno : Hid (sv = St.setTo (fun j => decide ((j : Int) ∈ l)) (q + 1)) := Lib.hid (by
            rw [setTo_no _ _ ?_, hsv.out]
            simp only [decide_eq_false_iff_not]
            intro hm
            obtain ⟨i, hi, e⟩ := List.mem_iff_getElem.1 hm
            exact hno.out i (by have := Hn.out; omega) (by rw [List.getElem?_eq_getElem hi, e]))
          go_wp2
          go_round
          case rel => exact ⟨q + 1, sv, by omega, by go_num, rfl, Hno⟩
          case measure => simp [intOf]; omega
    · obtain rfl : q = 64 := by omega
      go_wp2
      go_ret
      exact ⟨ret_int (by rw [hsv.out]; rfl), rfl⟩

end Go.Proofs.YthfoagglncimnaaDoor
