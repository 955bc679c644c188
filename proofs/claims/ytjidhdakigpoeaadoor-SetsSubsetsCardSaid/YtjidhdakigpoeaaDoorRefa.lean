/-
  THE CONTRACTS OF watersmeetref01's Ints AND Words: are two rows of numbers the same?
-/
import Derived.Test.YtjidhdakigpoeaaDoorRows
import Derived.Test.YtjidhdakigpoeaaDoorWord
import Derived.Test.YtjidhdakigpoeaaDoorLeaf
import Derived.BigQuiet
import Derived.Deep.QuietTactic
namespace Go.Proofs.YtjidhdakigpoeaaDoor
open Go.RowKit
set_option maxHeartbeats 400000

theorem Sl.at_ {w : World} {v : Value} {xs : List Value} (h : Sl w v xs) : ∃ A c, v = .slice A xs.length c ∧ xs.length ≤ c ∧ ∀ j u, xs[j]? = some u → ∃ b o p, A = some ⟨b, o, p⟩ ∧ w.cell? ((⟨b, o, p⟩ : Addr).add j) = some u := by
  obtain ⟨A, c, hv, hc, hx⟩ := h
  exact ⟨A, c, hv, hc, fun j u hu => by obtain ⟨b, o, p, hA, _, hcell⟩ := hx j u hu; exact ⟨b, o, p, hA, hcell⟩⟩
theorem take_same {xs ys : List Int} {k : Nat} {x y : Int} (h : xs.take k = ys.take k) (hx : xs[k]? = some x) (hy : ys[k]? = some y) (hxy : x = y) : xs.take (k + 1) = ys.take (k + 1) := by
  rw [List.take_add_one, List.take_add_one, h, hx, hy, hxy]
theorem some_at {xs : List Int} {k : Nat} (h : k < xs.length) : ∃ x, xs[k]? = some x := ⟨xs[k], List.getElem?_eq_getElem h⟩
theorem map_at {xs : List Int} {k : Nat} {x : Int} {K : IntKind} (h : xs[k]? = some x) : (xs.map (Value.int K))[k]? = some (.int K x) := by simp [h]

theorem ints_any (va vb : Value) (xs ys : List Int) (w : World) (ha : Sl w va (xs.map (Value.int .i64))) (hb : Sl w vb (ys.map (Value.int .i64))) (hx : xs.length ≤ 9223372036854775807) (hy : ys.length ≤ 9223372036854775807) :
    Calls Tryd.prog 13 #[va, vb] w fun e w' => e = .returned (.bool (decide (xs = ys))) ∧ Same w w' := by
  obtain ⟨A, c, rfl, _, hA⟩ := ha.at_
  obtain ⟨B, d, rfl, _, hB⟩ := hb.at_
  rw [List.length_map, List.length_map]
  clear ha hb
  obtain ⟨n, hn⟩ : ∃ n, n = xs.length := ⟨_, rfl⟩
  obtain ⟨m, hm⟩ : ∃ m, m = ys.length := ⟨_, rfl⟩
  rw [← hn] at hx ⊢
  rw [← hm] at hy ⊢
  have Hn := Lib.hid hn
  have Hm := Lib.hid hm
  have HA := Lib.hid hA
  have HB := Lib.hid hB
  clear hn hm hA hB
  by_cases hnm : n = m
  · subst hnm
    go_enter Tryd.func13, Tryd.ntmps13
    go_wp2
    go_loopw [5] (fun i wr => ∃ k : Nat, k ≤ n ∧ i = .int .i64 k ∧ Hid (xs.take k = ys.take k) ∧ Same w wr) (fun i _ => n - (intOf i).toNat)
    case atStart => exact ⟨0, Nat.zero_le _, rfl, Lib.hid (by simp), Same.refl _⟩
    case round =>
      obtain ⟨k, hk, rfl, ht, hs⟩ := hrel
      by_cases hlt : k < n
      · obtain ⟨x, gx⟩ := some_at (xs := xs) (k := k) (by have := Hn.out; omega)
        obtain ⟨y, gy⟩ := some_at (xs := ys) (k := k) (by have := Hm.out; omega)
        obtain ⟨b1, o1, p1, rfl, hca⟩ := HA.out k _ (map_at gx)
        obtain ⟨b2, o2, p2, rfl, hcb⟩ := HB.out k _ (map_at gy)
        replace hca : wr.cell? ((⟨b1, o1, p1⟩ : Addr).add k) = some (.int .i64 x) := hs.cell hca
        replace hcb : wr.cell? ((⟨b2, o2, p2⟩ : Addr).add k) = some (.int .i64 y) := hs.cell hcb
        have Gx := Lib.hid gx
        have Gy := Lib.hid gy
        clear gx gy
        by_cases hxy : x = y
        · have hb1 : (x != y) = false := by simp [hxy]
          have ht2 : Hid (xs.take (k + 1) = ys.take (k + 1)) := Lib.hid (take_same ht.out Gx.out Gy.out hxy)
          clear hxy
          go_wp2
          go_quiet (fail)
          go_wp2
          go_roundw
          case rel => exact ⟨k + 1, by omega, by go_num, ht2, hs.drewN _⟩
          case measure => simp [intOf]; omega
        · have hb1 : (x != y) = true := by simp [hxy]
          have hne : Hid (xs ≠ ys) := Lib.hid (fun e => hxy (by have := Gx.out; rw [e, Gy.out] at this; exact (Option.some.inj this).symm))
          clear hxy
          go_wp2
          go_quiet (fail)
          go_wp2
          go_ret
          exact ⟨ret_bool (by simp [hne.out]), hs.drewN _⟩
      · have e : Hid (xs = ys) := Lib.hid (by
          have h1 : xs.length ≤ k := by have := Hn.out; omega
          have h2 : ys.length ≤ k := by have := Hm.out; omega
          have := ht.out
          rwa [List.take_of_length_le h1, List.take_of_length_le h2] at this)
        go_wp2
        go_ret
        exact ⟨ret_bool (by simp [e.out]), hs⟩
  · have hb : ((n : Int) != (m : Int)) = true := by simp; omega
    have hne : Hid (xs ≠ ys) := Lib.hid (fun e => hnm (by rw [Hn.out, Hm.out, e]))
    clear hnm
    go_enter Tryd.func13, Tryd.ntmps13
    go_wp2
    go_ret
    exact ⟨ret_bool (by simp [hne.out]), Same.refl _⟩

theorem words_any (va vb : Value) (xs ys : List Int) (w : World) (ha : Sl w va (xs.map (Value.int .u64))) (hb : Sl w vb (ys.map (Value.int .u64))) (hx : xs.length ≤ 9223372036854775807) (hy : ys.length ≤ 9223372036854775807) :
    Calls Tryd.prog 24 #[va, vb] w fun e w' => e = .returned (.bool (decide (xs = ys))) ∧ Same w w' := by
  obtain ⟨A, c, rfl, _, hA⟩ := ha.at_
  obtain ⟨B, d, rfl, _, hB⟩ := hb.at_
  rw [List.length_map, List.length_map]
  clear ha hb
  obtain ⟨n, hn⟩ : ∃ n, n = xs.length := ⟨_, rfl⟩
  obtain ⟨m, hm⟩ : ∃ m, m = ys.length := ⟨_, rfl⟩
  rw [← hn] at hx ⊢
  rw [← hm] at hy ⊢
  have Hn := Lib.hid hn
  have Hm := Lib.hid hm
  have HA := Lib.hid hA
  have HB := Lib.hid hB
  clear hn hm hA hB
  by_cases hnm : n = m
  · subst hnm
    go_enter Tryd.func24, Tryd.ntmps24
    go_wp2
    go_loopw [5] (fun i wr => ∃ k : Nat, k ≤ n ∧ i = .int .i64 k ∧ Hid (xs.take k = ys.take k) ∧ Same w wr) (fun i _ => n - (intOf i).toNat)
    case atStart => exact ⟨0, Nat.zero_le _, rfl, Lib.hid (by simp), Same.refl _⟩
    case round =>
      obtain ⟨k, hk, rfl, ht, hs⟩ := hrel
      by_cases hlt : k < n
      · obtain ⟨x, gx⟩ := some_at (xs := xs) (k := k) (by have := Hn.out; omega)
        obtain ⟨y, gy⟩ := some_at (xs := ys) (k := k) (by have := Hm.out; omega)
        obtain ⟨b1, o1, p1, rfl, hca⟩ := HA.out k _ (map_at gx)
        obtain ⟨b2, o2, p2, rfl, hcb⟩ := HB.out k _ (map_at gy)
        replace hca : wr.cell? ((⟨b1, o1, p1⟩ : Addr).add k) = some (.int .u64 x) := hs.cell hca
        replace hcb : wr.cell? ((⟨b2, o2, p2⟩ : Addr).add k) = some (.int .u64 y) := hs.cell hcb
        have Gx := Lib.hid gx
        have Gy := Lib.hid gy
        clear gx gy
        by_cases hxy : x = y
        · have hb1 : (x != y) = false := by simp [hxy]
          have ht2 : Hid (xs.take (k + 1) = ys.take (k + 1)) := Lib.hid (take_same ht.out Gx.out Gy.out hxy)
          clear hxy
          go_wp2
          go_quiet (fail)
          go_wp2
          go_roundw
          case rel => exact ⟨k + 1, by omega, by go_num, ht2, hs.drewN _⟩
          case measure => simp [intOf]; omega
        · have hb1 : (x != y) = true := by simp [hxy]
          have hne : Hid (xs ≠ ys) := Lib.hid (fun e => hxy (by have := Gx.out; rw [e, Gy.out] at this; exact (Option.some.inj this).symm))
          clear hxy
          go_wp2
          go_quiet (fail)
          go_wp2
          go_ret
          exact ⟨ret_bool (by simp [hne.out]), hs.drewN _⟩
      · have e : Hid (xs = ys) := Lib.hid (by
          have h1 : xs.length ≤ k := by have := Hn.out; omega
          have h2 : ys.length ≤ k := by have := Hm.out; omega
          have := ht.out
          rwa [List.take_of_length_le h1, List.take_of_length_le h2] at this)
        go_wp2
        go_ret
        exact ⟨ret_bool (by simp [e.out]), hs⟩
  · have hb : ((n : Int) != (m : Int)) = true := by simp; omega
    have hne : Hid (xs ≠ ys) := Lib.hid (fun e => hnm (by rw [Hn.out, Hm.out, e]))
    clear hnm
    go_enter Tryd.func24, Tryd.ntmps24
    go_wp2
    go_ret
    exact ⟨ret_bool (by simp [hne.out]), Same.refl _⟩
end Go.Proofs.YtjidhdakigpoeaaDoor
