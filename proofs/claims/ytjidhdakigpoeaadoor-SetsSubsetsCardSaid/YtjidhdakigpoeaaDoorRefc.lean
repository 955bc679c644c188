/-
  THE CONTRACTS OF watersmeetref01's List, Count, Min, Of, Below.
-/
import Derived.Test.YtjidhdakigpoeaaDoorRefb
import Derived.OwnWalk
namespace Go.Proofs.YtjidhdakigpoeaaDoor
open Go.RowKit
set_option maxHeartbeats 400000

/-- what a call hands back: a slice of its own that holds l, each element of kind K; whatever lay before lies as it lay -/
def OwnNums (E : TypeId) (K : IntKind) (w : World) (l : List Int) (e : Ending) (w' : World) : Prop :=
  ∃ v, e = .returned v ∧ w'.ownsRow w.heap.size E 1 v l.length (l.map (Value.int K)) ∧ Below w.heap.size w w'

theorem own_grown {w wr w1 : World} {v : Value} {E : TypeId} {n : Nat} {xs : List Value} {o : Obj} (hb : Below w.heap.size w wr) (hown : wr.ownsRow w.heap.size E 1 v n xs) (hg : (wr.alloc o).grownBy w1 v.ownBlock) : Below w.heap.size w w1 :=
  (hb.alloc hb.size o).grown hg (by have := hb.size; simp; omega) (fun k hk => (hown.lt k hk).1)
theorem own_snoc {w w1 : World} {v : Value} {E : TypeId} {K : IntKind} {l : List Int} {k : Int} (h : w1.ownsRow w.heap.size E 1 v (l.length + 1) (l.map (Value.int K) ++ [Value.int K k])) :
    w1.ownsRow w.heap.size E 1 v (l ++ [k]).length ((l ++ [k]).map (Value.int K)) := by
  simpa using h
theorem Tryd.infoInt : (Tryd.prog.info? 3).map (fun i => (i.zero, i.size, i.bytes)) = some (some (.int .i64 0), 1, 8) := by kernel_rfl

def ints (l : List Nat) : List Int := l.map Int.ofNat
theorem ints_snoc (l : List Nat) (k : Nat) : ints (l ++ [k]) = ints l ++ [(k : Int)] := by simp [ints]
theorem ints_length (l : List Nat) : (ints l).length = l.length := by simp [ints]
theorem membTo_no (k s : Nat) (h : s.testBit k = false) : St.membTo (k + 1) s = St.membTo k s := by
  unfold St.membTo
  rw [List.range_succ, List.filter_append, List.filter_cons, h]
  simp
theorem membTo_yes (k s : Nat) (h : s.testBit k = true) : St.membTo (k + 1) s = St.membTo k s ++ [k] := by
  unfold St.membTo
  rw [List.range_succ, List.filter_append, List.filter_cons, h]
  simp
theorem membTo_le (k s : Nat) : (St.membTo k s).length ≤ k := by
  have := List.length_filter_le (fun i => s.testBit i) (List.range k)
  simpa [St.membTo] using this

theorem rlist_any (a : Int) (w : World) (ha : U64 a) :
    Calls Tryd.prog 15 #[.int .u64 a] w (OwnNums 3 .i64 w (ints (St.memb a.toNat))) := by
  obtain ⟨x, rfl, hx⟩ := ha.nat
  rw [Int.toNat_natCast]
  obtain ⟨i0, hi, hz0, hz1, hz2⟩ := info_parts Tryd.infoInt
  go_enter Tryd.func15, Tryd.ntmps15
  go_wp2
  go_loopw [3, 4] (fun v i wr => ∃ k : Nat, k ≤ 64 ∧ i = .int .i64 k ∧ wr.ownsRow w.heap.size 3 1 v (ints (St.membTo k x)).length ((ints (St.membTo k x)).map (Value.int .i64)) ∧ Below w.heap.size w wr) (fun _ i _ => 64 - (intOf i).toNat)
  case atStart =>
    refine ⟨0, by omega, rfl, ?_, (Below.refl _ w).alloc (Nat.le_refl _) _⟩
    exact World.ownsRow_made w #[] 0 (Nat.le_refl _) (by decide) rfl
  case round =>
    obtain ⟨k, hk, rfl, hown, hb⟩ := hrel
    by_cases hlt : k < 64
    · cases hxb : x.testBit k
      · have HX := Lib.hid hxb
        have Hm := Lib.hid (membTo_no k x hxb)
        clear hxb
        go_wp2_with (go_at_call 8; refine (rhas_nat x k _ _ hx hlt HX.out).mono ?_; rintro e w' ⟨rfl, rfl⟩)
        go_roundw
        case rel => exact ⟨k + 1, by omega, by go_num, by rw [Hm.out]; exact hown, hb⟩
        case measure => simp [intOf]; omega
      · have HX := Lib.hid hxb
        have Hm := Lib.hid (membTo_yes k x hxb)
        have hlen := membTo_le k x
        clear hxb
        go_wp2_with (first
          | (go_at_call 8; refine (rhas_nat x k _ _ hx hlt HX.out).mono ?_; rintro e w' ⟨rfl, rfl⟩)
          | (at_builtin; refine wpList_append_own _ rfl _ _ 23 rfl w.heap.size 3 i0 (.int .i64 0) 1 8 Tryd.underlying23 hi hz0 hz1 hz2 rfl (by decide) _ _ _ rfl (hown.alloc _) ⟨wr.heap.size, 0, none⟩ 1 1 [.int .i64 k] rfl rfl ?c1 ?c2 ?c3 ?c4 ?c5 ?_))
        case c1 => exact cell_one_new _ _ _
        case c2 => simp [Value.oneCell']
        case c3 => unfold maxLen; rw [ints_length]; omega
        case c4 => rw [ints_length]; omega
        case c5 => have := hb.size; simp; omega
        intro v' w1 hown' hgrow _
        have hown2 := own_snoc hown'
        have hb2 := own_grown hb hown hgrow
        clear hown' hgrow
        go_wp2
        go_roundw
        case rel => exact ⟨k + 1, by omega, by go_num, by rw [Hm.out, ints_snoc]; exact hown2, hb2⟩
        case measure => simp [intOf]; omega
    · obtain rfl : k = 64 := by omega
      go_wp2
      go_ret
      exact ⟨_, rfl, hown, hb⟩

theorem OwnNums.form {E : TypeId} {K : IntKind} {w w' : World} {l : List Int} {e : Ending} (h : OwnNums E K w l e w') :
    ∃ A c, e = .returned (.slice A l.length c) ∧ l.length ≤ c ∧ (∀ (j : Nat) (u : Int), l[j]? = some u → ∃ b o p, A = some ⟨b, o, p⟩ ∧ w'.cell? ((⟨b, o, p⟩ : Addr).add j) = some (.int K u)) ∧
      Sl w' (.slice A l.length c) (l.map (Value.int K)) ∧ Below w.heap.size w w' := by
  obtain ⟨v, rfl, hown, hb⟩ := h
  have hs := Sl.own hown
  obtain ⟨A, c, hv, hc, hx⟩ := id hs
  rw [List.length_map] at hv hc
  subst hv
  refine ⟨A, c, rfl, hc, fun j u hu => ?_, hs, hb⟩
  obtain ⟨b, o, p, hA, _, hcell⟩ := hx j (.int K u) (by simp [hu])
  exact ⟨b, o, p, hA, hcell⟩

theorem rcount_any (a : Int) (w : World) (ha : U64 a) :
    Calls Tryd.prog 19 #[.int .u64 a] w fun e w' => e = .returned (.int .i64 (St.pop 64 a.toNat : Nat)) ∧ Below w.heap.size w w' := by
  have HL := Lib.hid (St.memb_length a.toNat)
  go_enter Tryd.func19, Tryd.ntmps19
  go_wp2_with fail
  refine (rlist_any a _ ha).mono ?_
  intro e w' h
  obtain ⟨A, c, rfl, _, _, _, hb⟩ := h.form
  rw [ints_length, HL.out]
  go_wp2_with fail
  go_ret
  exact ⟨rfl, hb⟩

theorem rmin_any (a : Int) (w : World) (ha : U64 a) :
    Calls Tryd.prog 21 #[.int .u64 a] w fun e w' => e = .returned (.int .i64 (St.minI a.toNat)) ∧ Below w.heap.size w w' := by
  have HM := Lib.hid (St.minI_list (s := a.toNat) (by have := ha.2; have := ha.1; omega))
  go_enter Tryd.func21, Tryd.ntmps21
  go_wp2_with fail
  refine (rlist_any a _ ha).mono ?_
  intro e w' h
  cases hm : St.memb a.toNat with
  | nil =>
    have HM2 : Hid (St.minI a.toNat = -1) := Lib.hid (by rw [HM.out, hm])
    rw [hm] at h
    clear hm HM
    obtain ⟨A, c, rfl, _, _, _, hb⟩ := h.form
    clear h
    obtain ⟨n, hn⟩ : ∃ n, n = (ints []).length := ⟨_, rfl⟩
    rw [← hn]
    have hz : ((n : Int) == 0) = true := by rw [hn]; rfl
    clear hn
    go_wp2_with fail
    go_ret
    exact ⟨ret_int HM2.out.symm, hb⟩
  | cons x l =>
    have HM2 : Hid (St.minI a.toNat = (x : Int)) := Lib.hid (by rw [HM.out, hm])
    rw [hm] at h
    clear hm HM
    obtain ⟨A, c, rfl, _, hc, _, hb⟩ := h.form
    obtain ⟨b, o, p, rfl, hcell⟩ := hc 0 x (by simp [ints])
    clear h hc
    obtain ⟨n, hn⟩ : ∃ n, n = (ints (x :: l)).length := ⟨_, rfl⟩
    rw [← hn]
    have hz : ((n : Int) == 0) = false := by rw [hn, ints_length]; simp; omega
    have hn1 : 0 < n := by rw [hn, ints_length]; simp
    clear hn
    have hcell0 : w'.cell? ⟨b, o, p⟩ = some (.int .i64 x) := hcell
    go_wp2_with fail
    go_ret
    exact ⟨ret_int HM2.out.symm, hb⟩

theorem setTo_yes (p : Nat → Bool) (k : Nat) (h : p k = true) : St.setTo p (k + 1) = St.setTo p k + 2 ^ k := by rw [St.setTo, if_pos h]
theorem setTo_no (p : Nat → Bool) (k : Nat) (h : p k = false) : St.setTo p (k + 1) = St.setTo p k := by rw [St.setTo, if_neg (by simp [h])]
theorem rof_any (v : Value) (l : List Int) (w : World) (hv : Sl w v (l.map (Value.int .i64))) (hl : l.length ≤ 9223372036854775807) :
    Calls Tryd.prog 12 #[v] w fun e w' => e = .returned (.int .u64 (St.ofN l : Nat)) ∧ w = w' := by
  obtain ⟨A, c, rfl, _, hx⟩ := hv
  rw [List.length_map]
  obtain ⟨n, hn⟩ : ∃ n, n = l.length := ⟨_, rfl⟩
  rw [← hn] at hl ⊢
  have Hn := Lib.hid hn
  have HX := Lib.hid hx
  clear hn hx
  go_enter Tryd.func12, Tryd.ntmps12
  go_wp2
  go_loop [3, 4] (fun s i => ∃ q sv : Nat, q ≤ 64 ∧ i = .int .i64 q ∧ s = .int .u64 sv ∧ Hid (sv = St.setTo (fun j => decide ((j : Int) ∈ l)) q)) (fun _ i => 64 - (intOf i).toNat)
  case atStart => exact ⟨0, 0, by omega, rfl, rfl, Lib.hid rfl⟩
  case round =>
    obtain ⟨q, sv, hq, rfl, rfl, hsv⟩ := hrel
    by_cases hlt : q < 64
    · have hsl : sv + 2 ^ q < 18446744073709551616 := by
        have h1 := St.setTo_lt (fun j => decide ((j : Int) ∈ l)) q
        have h2 : 2 ^ q ≤ 2 ^ 63 := Nat.pow_le_pow_right (by decide) (by omega)
        rw [hsv.out]
        omega
      obtain ⟨pw, hpw⟩ : ∃ pw, pw = 2 ^ q := ⟨_, rfl⟩
      rw [← hpw] at hsl
      have Hpw := Lib.hid hpw
      clear hpw
      have HP : Hid (Calls Tryd.prog 26 #[.int .i64 q] w fun e w' => e = .returned (.int .u64 pw) ∧ w = w') := Lib.hid (by
        have := power_any q w (by omega) (by omega)
        rw [Hpw.out]; simpa using this)
      go_wp2
      go_loop [3, 5] (fun s k => ∃ j : Nat, j ≤ n ∧ k = .int .i64 j ∧ s = .int .u64 sv ∧ Hid (∀ i, i < j → l[i]? ≠ some (q : Int))) (fun _ k => n - (intOf k).toNat)
      case atStart => exact ⟨0, by omega, rfl, rfl, Lib.hid (fun i hi => by omega)⟩
      case round =>
        obtain ⟨j, hj, rfl, rfl, hno⟩ := hrel
        by_cases hjl : j < n
        · obtain ⟨x, gx⟩ : ∃ x, l[j]? = some x := ⟨l[j]'(by have := Hn.out; omega), List.getElem?_eq_getElem _⟩
          obtain ⟨b, o, p, rfl, _, hcell⟩ := HX.out j (.int .i64 x) (by simp [gx])
          have Gx := Lib.hid gx
          clear gx
          by_cases hxq : x = q
          · subst hxq
            have hb : (((q : Int)) == (q : Int)) = true := by simp
            have Hyes : Hid (sv + pw = St.setTo (fun j => decide ((j : Int) ∈ l)) (q + 1)) := Lib.hid (by
              rw [setTo_yes _ _ (by simp; exact List.mem_of_getElem? Gx.out), hsv.out, Hpw.out])
            go_wp2_with (go_at_call 26; refine HP.out.mono ?_; rintro e w' ⟨rfl, rfl⟩)
            go_round
            case rel => exact ⟨q + 1, sv + pw, by omega, by go_num, by go_num, Hyes⟩
            case measure => simp [intOf]; omega
          · have hb : (x == (q : Int)) = false := by simp [hxq]
            have hno2 : Hid (∀ i, i < j + 1 → l[i]? ≠ some (q : Int)) := Lib.hid (fun i hi e => by
              by_cases h : i = j
              · subst h; rw [Gx.out] at e; exact hxq (Option.some.inj e)
              · exact hno.out i (by omega) e)
            clear hxq
            go_wp2
            go_round
            case rel => exact ⟨j + 1, by omega, by go_num, rfl, hno2⟩
            case measure => simp [intOf]; omega
        · have Hno : Hid (sv = St.setTo (fun j => decide ((j : Int) ∈ l)) (q + 1)) := Lib.hid (by
            rw [setTo_no _ _ ?_, hsv.out]
            simp only [decide_eq_false_iff_not]
            intro hm
            obtain ⟨i, hi, e⟩ := List.mem_iff_getElem.1 hm
            exact hno.out i (by have := Hn.out; omega) (by rw [List.getElem?_eq_getElem hi, e]))
          go_wp2
          go_round
          case rel => exact ⟨q + 1, sv, by omega, by go_num, rfl, Hno⟩
          case measure => simp [intOf]; omega
    · obtain rfl : q = 64 := by omega
      go_wp2
      go_ret
      exact ⟨ret_int (by rw [hsv.out]; rfl), rfl⟩

theorem ofN_upto (i : Int) (k : Nat) (h2 : ∀ j : Nat, j < k → (j : Int) ≤ i) (h3 : k = 64 ∨ i < k) : St.ofN (ints (List.range k)) = St.belowN i := by
  apply St.word_ext (St.ofN_lt _) (St.belowN_lt _)
  intro j hj
  rw [St.testBit_ofN, St.testBit_belowN]
  congr 1
  rw [decide_eq_decide]
  simp only [ints, List.mem_map, List.mem_range]
  constructor
  · rintro ⟨a, ha, e⟩
    have : a = j := by have : (a : Int) = j := e; omega
    subst this
    exact h2 a ha
  · intro h
    exact ⟨j, by omega, rfl⟩
theorem rbelow_any (i : Int) (w : World) :
    Calls Tryd.prog 10 #[.int .i64 i] w fun e w' => e = .returned (.int .u64 (St.belowN i : Nat)) ∧ Below w.heap.size w w' := by
  obtain ⟨i0, hi, hz0, hz1, hz2⟩ := info_parts Tryd.infoInt
  go_enter Tryd.func10, Tryd.ntmps10
  go_wp2
  go_loopw [3, 4] (fun v q wr => ∃ k : Nat, k ≤ 64 ∧ q = .int .i64 k ∧ Hid (∀ j : Nat, j < k → (j : Int) ≤ i) ∧ wr.ownsRow w.heap.size 3 1 v (ints (List.range k)).length ((ints (List.range k)).map (Value.int .i64)) ∧ Below w.heap.size w wr) (fun _ q _ => 64 - (intOf q).toNat)
  case atStart =>
    refine ⟨0, by omega, rfl, Lib.hid (fun j hj => by omega), ?_, (Below.refl _ w).alloc (Nat.le_refl _) _⟩
    exact World.ownsRow_made w #[] 0 (Nat.le_refl _) (by decide) rfl
  case round =>
    obtain ⟨k, hk, rfl, hall, hown, hb⟩ := hrel
    by_cases hlt : (k : Int) ≤ i ∧ k < 64
    · obtain ⟨g1, g2⟩ := hlt
      have hall2 : Hid (∀ j : Nat, j < k + 1 → (j : Int) ≤ i) := Lib.hid (fun j hj => by
        by_cases e : j = k
        · subst e; exact g1
        · exact hall.out j (by omega))
      have Hr := Lib.hid (List.range_succ (n := k))
      have hlen : (ints (List.range k)).length ≤ 64 := by rw [ints_length, List.length_range]; exact hk
      go_wp2_with (at_builtin; refine wpList_append_own _ rfl _ _ 23 rfl w.heap.size 3 i0 (.int .i64 0) 1 8 Tryd.underlying23 hi hz0 hz1 hz2 rfl (by decide) _ _ _ rfl (hown.alloc _) ⟨wr.heap.size, 0, none⟩ 1 1 [.int .i64 k] rfl rfl ?c1 ?c2 ?c3 ?c4 ?c5 ?_)
      case c1 => exact cell_one_new _ _ _
      case c2 => simp [Value.oneCell']
      case c3 => unfold maxLen; omega
      case c4 => omega
      case c5 => have := hb.size; simp; omega
      intro v' w1 hown' hgrow _
      have hown2 := own_snoc hown'
      have hb2 := own_grown hb hown hgrow
      clear hown' hgrow
      go_wp2
      go_roundw
      case rel => exact ⟨k + 1, by omega, by go_num, hall2, by rw [Hr.out, ints_snoc]; exact hown2, hb2⟩
      case measure => simp [intOf]; omega
    · have hend : Hid (St.ofN (ints (List.range k)) = St.belowN i) := Lib.hid (ofN_upto i k hall.out (by omega))
      have hsl := Sl.own hown
      have hlen : (ints (List.range k)).length ≤ 9223372036854775807 := by rw [ints_length, List.length_range]; omega
      by_cases h1 : (k : Int) ≤ i
      · have h2 : ¬ k < 64 := by omega
        clear hlt
        go_wp2_with (go_at_call 12; refine (rof_any _ _ _ hsl hlen).mono ?_; rintro e w' ⟨rfl, rfl⟩)
        go_ret
        exact ⟨ret_int (by rw [hend.out]), hb⟩
      · clear hlt
        go_wp2_with (go_at_call 12; refine (rof_any _ _ _ hsl hlen).mono ?_; rintro e w' ⟨rfl, rfl⟩)
        go_ret
        exact ⟨ret_int (by rw [hend.out]), hb⟩
end Go.Proofs.YtjidhdakigpoeaaDoor
