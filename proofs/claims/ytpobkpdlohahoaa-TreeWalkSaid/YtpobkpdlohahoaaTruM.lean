/-
  THE CHAPTER's EXAMPLE of layer 10.
-/
import Derived.Test.YtpobkpdlohahoaaTrtM
import Derived.Test.YtpobkpdlohahoaaTrjM
import Derived.Test.YtpobkpdlohahoaaTrkM
import Derived.Test.YtpobkpdlohahoaaTryM
import Derived.Test.YtpobkpdlohahoaaTrlcM
import Derived.Deep.RegionHeld3
namespace Go.Proofs.Ytpobkpdlohahoaa
open Go.RowKit Go.Sort
set_option maxHeartbeats 6400000

theorem TrHang.below {w W : World} {x : TrV} (h : TrHang w x) (hb : Below w.heap.size w W) : TrHang W x := by
  obtain ⟨⟨d, h1⟩, h2⟩ := h
  exact ⟨⟨d, h1.below hb (Nat.le_refl _)⟩, h2.below hb (Nat.le_refl _)⟩
theorem below_alloc10 {W0 W : World} (h : Below W0.heap.size W0 W) (o : Obj) : Below W0.heap.size W0 (W.alloc o) := h.alloc h.size _
theorem hang_alloc {W : World} {x : TrV} (h : TrHang W x) (o : Obj) : TrHang (W.alloc o) x := h.below (below_new _ _)
theorem hang_drew {W : World} {x : TrV} (h : TrHang W x) : TrHang W.drew x := h.below ((Below.refl _ _).drew)
theorem two_seen (k : Int) (hk : k ≠ 0) : Tr.seen (twoTr k) = if k = 3 ∨ k = 4 then 1 else 3 := by
  rw [Tr.seen_at, if_neg (by exact hk)]
  show (if k = 3 ∨ k = 4 then Tr.seen1 [leafTr 0, leafTr 1] else Tr.seens [leafTr 0, leafTr 1]) = _
  split
  · decide +kernel
  · decide +kernel
set_option maxRecDepth 100000 in
theorem awake10_any (w : World) : Calls Try.prog 7 #[] w fun e w' => e = .returned (.bool true) ∧ Below w.heap.size w w' := by
  have ct := two10_any 3 w
  go_enter Try.func7, Try.ntmps7
  go_wp2_with fail
  refine ct.mono ?_
  rintro e w1 ⟨u, v, rfl, hh, hb1⟩
  clear ct
  obtain ⟨A, c, hA, _⟩ := hh.1.elim fun d h => h.form
  obtain ⟨A', c', hA', _⟩ := hh.2.elim fun D h => h.form
  change u = .slice A 2 c at hA
  change v = .slice A' 1 c' at hA'
  subst hA hA'
  obtain ⟨W1, hW1⟩ : ∃ W1, W1 = w1.alloc (Obj.cells #[.int .i64 3, .int .i64 0, .slice A 2 c, .slice A' 1 c', .bool false] 25) := ⟨_, rfl⟩
  obtain ⟨l1, hb2⟩ := box_one (cs := [.int .i64 3, .int .i64 0, .slice A 2 c, .slice A' 1 c', .bool false]) hW1
  have hh1 := hh.below hb2
  have c1 := in_turn (W0 := W1) fun W h => (hh1.below h).1.elim fun d hd => tseen_any d (twoTr 3) _ _ W hd (hh1.below h).2
  have c2 := in_turn (W0 := W1) fun W h => ttables_any (twoTr 3) _ _ W (hh1.below h).1 (hh1.below h).2 (two_size 3)
  have c3 := in_turn (W0 := W1) fun W h => tsize_any (twoTr 3) _ _ W (hh1.below h).1 (hh1.below h).2 (two_size 3)
  have c4 := fun (k : Int) (W : World) (h : Below W1.heap.size W1 W) => (two10_any k W).mono fun e w' ⟨u, v, he, ht, hb⟩ => (show ∃ B b B' b', e = Ending.returned (.agg #[.int .i64 k, .int .i64 0, .slice B 2 b, .slice B' 1 b', .bool false]) ∧ TrHang w' (twoTr k, .slice B 2 b, .slice B' 1 b') ∧ Below W1.heap.size W1 w' from by
    obtain ⟨A, c, hA, _⟩ := ht.1.elim fun d h => h.form
    obtain ⟨A', c', hA', _⟩ := ht.2.elim fun D h => h.form
    change u = .slice A 2 c at hA
    change v = .slice A' 1 c' at hA'
    subst hA hA'
    exact ⟨A, c, A', c', he, ht, below_join h hb⟩)
  have c5 := fun (B : Option Addr) (b : Nat) (B' : Option Addr) (b' : Nat) (W : World) (ht : TrHang W (twoTr 1, .slice B 2 b, .slice B' 1 b')) (h : Below W1.heap.size W1 W) => (ht.1.elim fun d hd => tseen_any d (twoTr 1) _ _ W hd ht.2).mono fun e w' ⟨he, hb⟩ => (⟨he, below_join h hb⟩ : e = _ ∧ Below W1.heap.size W1 w')
  have c6 := fun (W : World) (h : Below W1.heap.size W1 W) => (tcopy_any (twoTr 3) _ _ W (hh1.below h).1 (hh1.below h).2 (two_size 3)).mono fun e w' ⟨u, v, he, ht, hb⟩ => (show ∃ B b B' b', e = Ending.returned (.agg #[.int .i64 3, .int .i64 0, .slice B 2 b, .slice B' 1 b', .bool false]) ∧ TrHang w' (twoTr 3, .slice B 2 b, .slice B' 1 b') ∧ Below W1.heap.size W1 w' from by
    replace ht := ht.hang
    obtain ⟨A, c, hA, _⟩ := ht.1.elim fun d h => h.form
    obtain ⟨A', c', hA', _⟩ := ht.2.elim fun D h => h.form
    change u = .slice A 2 c at hA
    change v = .slice A' 1 c' at hA'
    subst hA hA'
    exact ⟨A, c, A', c', he, ht, below_join h hb⟩)
  have c7 := fun (k : Int) (B : Option Addr) (b : Nat) (B' : Option Addr) (b' : Nat) (W : World) (ht : TrHang W (twoTr k, .slice B 2 b, .slice B' 1 b')) (h : Below W1.heap.size W1 W) => (trsame_any (a := twoTr 3) (b := twoTr k) (hh1.below h).1 (hh1.below h).2 ht.1 ht.2).mono fun e w' ⟨he, hb⟩ => (⟨he, below_join h hb⟩ : e = _ ∧ Below W1.heap.size W1 w')
  have c73 := c7 3
  have c74 := c7 4
  have s3 : Tr.same (twoTr 3) (twoTr 3) = true := by decide +kernel
  have s4 : Tr.same (twoTr 3) (twoTr 4) = false := by decide +kernel
  have t3 : Tr.tables (twoTr 3) = 3 := by decide +kernel
  have n3 : (Tr.all (twoTr 3)).length = 3 := by decide +kernel
  rw [s3] at c73
  rw [s4] at c74
  rw [two_seen 3 (by decide), if_pos (.inl rfl)] at c1
  rw [t3] at c2
  rw [n3] at c3
  simp only [two_seen 1 (by decide)] at c5
  dsimp only [twoTr, leafTr, Tr.k, Tr.t, Tr.h] at c1 c2 c3 c5 c6 c73 c74
  have KK := Lib.hid (fun W (h : Below W1.heap.size W1 W) => (show (W.cell? ⟨w1.heap.size, 0, none⟩ = some (.int .i64 3) ∧ W.cell? ⟨w1.heap.size, 1, none⟩ = some (.int .i64 0) ∧ W.cell? ⟨w1.heap.size, 2, none⟩ = some (.slice A 2 c) ∧ W.cell? ⟨w1.heap.size, 3, none⟩ = some (.slice A' 1 c') ∧ W.cell? ⟨w1.heap.size, 4, none⟩ = some (.bool false)) ∧ Below W1.heap.size W1 W from
    have l := l1.below h l1.lt
    ⟨⟨l.cell (i := 0) rfl, l.cell (i := 1) rfl, l.cell (i := 2) rfl, l.cell (i := 3) rfl, l.cell (i := 4) rfl⟩, h⟩))
  replace c1 := Lib.hid c1
  replace c2 := Lib.hid c2
  replace c3 := Lib.hid c3
  have c4a := Lib.hid (c4 1)
  have c4b := Lib.hid (c4 4)
  replace c5 := Lib.hid c5
  replace c6 := Lib.hid c6
  replace c73 := Lib.hid c73
  replace c74 := Lib.hid c74
  have HW1 := Lib.hid hW1
  have HB1 := Lib.hid (below_join hb1 hb2)
  have hS := Below.refl W1.heap.size W1
  clear hW1 l1 hb1 hb2 hh hh1 c7 c4 s3 s4 t3 n3
  go_upto_region 2 with (fail)
  rw [← HW1.out]
  go_region_held3 (fun W => (W.cell? ⟨w1.heap.size, 0, none⟩ = some (.int .i64 3) ∧ W.cell? ⟨w1.heap.size, 1, none⟩ = some (.int .i64 0) ∧ W.cell? ⟨w1.heap.size, 2, none⟩ = some (.slice A 2 c) ∧ W.cell? ⟨w1.heap.size, 3, none⟩ = some (.slice A' 1 c') ∧ W.cell? ⟨w1.heap.size, 4, none⟩ = some (.bool false)) ∧ Below W1.heap.size W1 W) (first | (exact KK.out _ (by repeat first | assumption | refine Below.drew ?_ | refine below_alloc10 ?_ _)))
    (first
      | (go_at_call 10; (with_reducible refine (c1.out _ (by repeat first | assumption | refine Below.drew ?_ | refine below_alloc10 ?_ _)).mono ?_); rintro e w' ⟨rfl, hS'⟩)
      | (go_at_call 10; (with_reducible refine (c5.out _ _ _ _ _ (by repeat first | assumption | refine hang_drew ?_ | refine hang_alloc ?_ _) (by repeat first | assumption | refine Below.drew ?_ | refine below_alloc10 ?_ _)).mono ?_); rintro e w' ⟨rfl, hS'⟩)
      | (go_at_call 8; (with_reducible refine (c2.out _ (by repeat first | assumption | refine Below.drew ?_ | refine below_alloc10 ?_ _)).mono ?_); rintro e w' ⟨rfl, hS'⟩)
      | (go_at_call 15; (with_reducible refine (c3.out _ (by repeat first | assumption | refine Below.drew ?_ | refine below_alloc10 ?_ _)).mono ?_); rintro e w' ⟨rfl, hS'⟩)
      | (go_at_call 19; (with_reducible refine (c4a.out _ (by repeat first | assumption | refine Below.drew ?_ | refine below_alloc10 ?_ _)).mono ?_); rintro e w' ⟨B1, b1, B2, b2, rfl, hht, hS'⟩)
      | (go_at_call 19; (with_reducible refine (c4b.out _ (by repeat first | assumption | refine Below.drew ?_ | refine below_alloc10 ?_ _)).mono ?_); rintro e w' ⟨B1, b1, B2, b2, rfl, hht, hS'⟩)
      | (go_at_call 14; (with_reducible refine (c6.out _ (by repeat first | assumption | refine Below.drew ?_ | refine below_alloc10 ?_ _)).mono ?_); rintro e w' ⟨B1, b1, B2, b2, rfl, hht, hS'⟩)
      | (go_at_call 12; (with_reducible refine (c73.out _ _ _ _ _ (by repeat first | assumption | refine hang_drew ?_ | refine hang_alloc ?_ _) (by repeat first | assumption | refine Below.drew ?_ | refine below_alloc10 ?_ _)).mono ?_); rintro e w' ⟨rfl, hS'⟩)
      | (go_at_call 12; (with_reducible refine (c74.out _ _ _ _ _ (by repeat first | assumption | refine hang_drew ?_ | refine hang_alloc ?_ _) (by repeat first | assumption | refine Below.drew ?_ | refine below_alloc10 ?_ _)).mono ?_); rintro e w' ⟨rfl, hS'⟩)
      | (fail "no arm"))
  all_goals
    go_wp2_with (fail)
    go_ret
    exact ⟨rfl, below_join HB1.out (by repeat first | assumption | refine Below.drew ?_ | refine below_alloc10 ?_ _)⟩
end Go.Proofs.Ytpobkpdlohahoaa
