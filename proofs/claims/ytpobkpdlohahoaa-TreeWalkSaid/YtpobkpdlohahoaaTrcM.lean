/-
  THE DOCUMENT's ANSWERS: two rows of predicates (layer 6), two trees (layer 10), the same.
-/
import Derived.Test.YtpobkpdlohahoaaTrbM
import Derived.Test.YtpobkpdlohahoaaGPred
import Derived.Lib.QuietBelow
import Derived.BigQuiet
namespace Go.Proofs.Ytpobkpdlohahoaa
open Go.RowKit Go.Sort
set_option maxHeartbeats 3200000

set_option maxRecDepth 100000 in
theorem r6list_any (d : Nat) (u v : Value) (r s : List Pd) (w : World) (hu : PsAt d w u r) (hv : PsAt d w v s) :
    Calls Try.prog 26 #[u, v] w fun e w' => e = .returned (.bool (Pr.sames r s)) ∧ Below w.heap.size w w' := by
  obtain ⟨A, c, rfl, hr⟩ := hu.form
  obtain ⟨A', c', rfl, hs⟩ := hv.form
  have hpu := fun (j : Nat) (x : Pd) (hj : r[j]? = some x) => hu.at_ hj
  have hpv := fun (j : Nat) (x : Pd) (hj : s[j]? = some x) => hv.at_ hj
  have HU := Lib.hid hpu
  have HV := Lib.hid hpv
  obtain ⟨n, hn⟩ : ∃ n, n = r.length := ⟨_, rfl⟩
  obtain ⟨m, hm⟩ : ∃ m, m = s.length := ⟨_, rfl⟩
  rw [← hn] at hr ⊢
  rw [← hm] at hs ⊢
  have HN := Lib.hid (And.intro hn hm)
  clear hpu hpv hu hv hn hm
  by_cases hnm : n = m
  · subst hnm
    have HI := Lib.hid (Pr.sames_iff (l := r) (m := s) (by obtain ⟨h1, h2⟩ := HN.out; omega))
    have hS := Below.refl w.heap.size w
    go_enter Try.func26, Try.ntmps26
    go_wp2_with (fail)
    go_loopw [5] (fun i wr => ∃ (k : Nat), k ≤ n ∧ i = .int .i64 k ∧ Hid (∀ (j : Nat) (x y : Pd), j < k → r[j]? = some x → s[j]? = some y → Pr.same x y = true) ∧ Below w.heap.size w wr) (fun i _ => n - (intOf i).toNat)
    case atStart => exact ⟨0, Nat.zero_le _, rfl, Lib.hid fun j x y h => by omega, hS⟩
    case round =>
     obtain ⟨k, hk, rfl, hz, hb⟩ := hrel
     by_cases hlt : k < n
     · obtain ⟨x, gx⟩ : ∃ x, r[k]? = some x := ⟨r[k]'(by have := HN.out; omega), List.getElem?_eq_getElem _⟩
       obtain ⟨y, gy⟩ : ∃ y, s[k]? = some y := ⟨s[k]'(by have := HN.out; omega), List.getElem?_eq_getElem _⟩
       obtain ⟨e1, b1, o1, p1, u1, _, rfl, hl1, h1⟩ := HU.out k x gx
       obtain ⟨e2, b2, o2, p2, u2, _, rfl, hl2, h2⟩ := HV.out k y gy
       obtain ⟨hx, kx⟩ := h1 wr hb
       obtain ⟨hy, ky⟩ := h2 wr hb
       have i1 : (0 : Int) ≤ (k : Int) := by omega
       have i2 : (k : Int) < (n : Int) := by omega
       have yx0 := cell_regrown hx.c0
       have yx1 := cell_regrown hx.c1
       have yx2 := cell_regrown hx.c2
       have yx3 := cell_regrown hx.c3
       have yx4 := cell_regrown hx.c4
       have yx5 := cell_regrown hx.c5
       have yx6 := cell_regrown hx.c6
       have yx7 := cell_regrown hx.c7
       have yx8 := cell_regrown hx.c8
       have yx9 := cell_regrown hx.c9
       have yx10 := cell_regrown hx.c10
       have yx11 := cell_regrown hx.c11
       have yx12 := cell_regrown hx.c12
       have yx13 := cell_regrown hx.c13
       have yy0 := cell_regrown hy.c0
       have yy1 := cell_regrown hy.c1
       have yy2 := cell_regrown hy.c2
       have yy3 := cell_regrown hy.c3
       have yy4 := cell_regrown hy.c4
       have yy5 := cell_regrown hy.c5
       have yy6 := cell_regrown hy.c6
       have yy7 := cell_regrown hy.c7
       have yy8 := cell_regrown hy.c8
       have yy9 := cell_regrown hy.c9
       have yy10 := cell_regrown hy.c10
       have yy11 := cell_regrown hy.c11
       have yy12 := cell_regrown hy.c12
       have yy13 := cell_regrown hy.c13
       have cc := in_class (W0 := wr) fun W h => r6same_any (max e1 e2) x.f y.f u1 u2 x.ps y.ps W ((kx.below h (Nat.le_refl _)).mono (Nat.le_max_left _ _)) ((ky.below h (Nat.le_refl _)).mono (Nat.le_max_right _ _))
       have hpx : Pd.mk x.f x.ps = x := by cases x; rfl
       have hpy : Pd.mk y.f y.ps = y := by cases y; rfl
       rw [hpx, hpy] at cc
       obtain ⟨d, hd⟩ : ∃ d : Bool, d = Pr.same x y := ⟨_, rfl⟩
       rw [← hd] at cc
       have HD := Lib.hid hd
       have GX := Lib.hid gx
       have GY := Lib.hid gy
       clear h1 h2 gx gy hd hx hy kx ky hpx hpy
       go_wp2_with (fail)
       refine wp_region_quiet_below (by kernel_rfl) (by kernel_rfl) ?_
       repeat (go_big_quiet_step (with_reducible exact cc _ _))
       refine wpQuiet_nil ?_
       intro _ hw'
       obtain ⟨⟨dq, osq⟩, hw''⟩ := hw'
       subst hw''
       have hb2 := below_join hb (below_regrown wr dq osq)
       clear yx0 yy0 yx1 yy1 yx2 yy2 yx3 yy3 yx4 yy4 yx5 yy5 yx6 yy6 yx7 yy7 yx8 yy8 yx9 yy9 yx10 yy10 yx11 yy11 yx12 yy12 yx13 yy13 i1 i2 hb cc
       generalize grow (redrawn wr dq) osq = w7 at hb2 ⊢
       cases d
       · have hres : Hid (false = Pr.sames r s) := Lib.hid (by
           cases he : Pr.sames r s with
           | false => rfl
           | true => exact HD.out.trans (HI.out.1 he k x y GX.out GY.out))
         go_wp2_with (fail)
         go_ret
         exact ⟨ret_bool hres.out, hb2⟩
       · have hz2 : Hid (∀ (j : Nat) (x y : Pd), j < k + 1 → r[j]? = some x → s[j]? = some y → Pr.same x y = true) := Lib.hid fun j x' y' hj hx hy => by
           rcases Nat.lt_or_eq_of_le (Nat.le_of_lt_succ hj) with g | g
           · exact hz.out j x' y' g hx hy
           · subst g
             rw [GX.out] at hx; rw [GY.out] at hy
             cases hx; cases hy
             exact HD.out.symm
         go_wp2_with (fail)
         go_roundw
         case rel => exact ⟨k + 1, by omega, by go_num, hz2, hb2⟩
         case measure => simp [intOf]; omega
     · have hres : Hid (true = Pr.sames r s) := Lib.hid (HI.out.2 fun j x y hx hy => hz.out j x y (by have := (List.getElem?_eq_some_iff.1 hx).1; have := HN.out; omega) hx hy).symm
       go_wp2_with (fail)
       go_ret
       exact ⟨ret_bool hres.out, hb⟩
  · have hnm2 : ((n : Int) != (m : Int)) = true := by simpa using fun h => hnm (by omega)
    have hnm3 : ¬ ((n : Int) = (m : Int)) := fun h => hnm (by omega)
    have hres : Hid (false = Pr.sames r s) := Lib.hid (Pr.sames_length (by obtain ⟨h1, h2⟩ := HN.out; omega)).symm
    clear hnm
    go_enter Try.func26, Try.ntmps26
    go_wp2_with (fail)
    go_ret
    exact ⟨ret_bool hres.out, Below.refl _ _⟩
end Go.Proofs.Ytpobkpdlohahoaa
