/-
  THE STATEMENT HashKeys.
-/
import Derived.Test.YtghonbnmakggnaaDoorHswM
import Derived.Test.YtghonbnmakggnaaDoorNslM
import Derived.Test.YtghonbnmakggnaaDoorHsiM
import Derived.Deep.RegionHeld3
import Derived.Deep.RegionLaw
import Derived.BigQuiet
import Derived.ChangeKeysEq
namespace Go.Proofs.YtghonbnmakggnaaDoor
open Go.RowKit Go.Sort
set_option maxHeartbeats 6400000

theorem below_allock {w W : World} {B : Nat} (h : Below B w W) (hB : B ≤ w.heap.size) (o : Obj) : Below B w (W.alloc o) := h.alloc (Nat.le_trans hB h.size) o
/-- the two terms of each key, one behind the other -/
def both15 (KS : List (Tm × Tm)) : List Tm := KS.flatMap fun c => [c.1, c.2]
theorem both15_length (KS : List (Tm × Tm)) : (both15 KS).length = KS.length * 2 := by
  unfold both15
  induction KS with
  | nil => rfl
  | cons c KS ih => rw [List.flatMap_cons, List.length_append, ih]; show 2 + _ = (KS.length + 1) * 2; omega
theorem both15_take {KS : List (Tm × Tm)} {q : Nat} {c : Tm × Tm} (h : KS[q]? = some c) : tmCells (both15 (KS.take (q + 1))) = tmCells (both15 (KS.take q)) ++ (c.1.cells ++ c.2.cells) := by
  unfold both15 tmCells
  rw [List.take_add_one, h, List.flatMap_append, List.flatMap_append]
  simp
theorem both15_col {ps : List Pd} {l r : Nat} {x : Tm} (h : x ∈ both15 (Hs.keys ps l r)) : x.k = 1 := by
  obtain ⟨c, hc, hx⟩ := List.mem_flatMap.1 h
  simp at hx
  rcases hx with rfl | rfl
  · exact (Hs.keys_col hc).1
  · exact (Hs.keys_col hc).2
theorem cells_two15 (w : World) (xs : List Value) (t : TypeId) (j : Nat) (u : Value) (h : xs[j]? = some u) : (w.alloc (.cells xs.toArray t)).cell? ((⟨w.heap.size, 0, none⟩ : Addr).add j) = some u := by
  rw [add_here13]
  exact (Lies.new w t xs).cell h
theorem arr_same15 (c : Tm × Tm) (w : World) : (binOp .neq 36 (.agg #[.int .i64 c.1.k, .int .i64 c.1.t, .int .i64 c.1.c, .bool c.1.z, .int .i64 c.1.n, .int .i64 c.2.k, .int .i64 c.2.t, .int .i64 c.2.c, .bool c.2.z, .int .i64 c.2.n]) (.agg #[.int .i64 c.1.k, .int .i64 c.1.t, .int .i64 c.1.c, .bool c.1.z, .int .i64 c.1.n, .int .i64 c.2.k, .int .i64 c.2.t, .int .i64 c.2.c, .bool c.2.z, .int .i64 c.2.n])).run Tryd.prog w = .ok (.bool false) w := by
  obtain ⟨i0, hi, _⟩ := info_parts Tryd.infoTerm15
  have h := run_equalIn_array (P := Tryd.prog) w 9999 #[.int .i64 c.1.k, .int .i64 c.1.t, .int .i64 c.1.c, .bool c.1.z, .int .i64 c.1.n, .int .i64 c.2.k, .int .i64 c.2.t, .int .i64 c.2.c, .bool c.2.z, .int .i64 c.2.n] #[.int .i64 c.1.k, .int .i64 c.1.t, .int .i64 c.1.c, .bool c.1.z, .int .i64 c.1.n, .int .i64 c.2.k, .int .i64 c.2.t, .int .i64 c.2.c, .bool c.2.z, .int .i64 c.2.n] Tryd.underlying36 hi
  rw [show Tryd.prog.cellsOf 35 = 5 by kernel_rfl, show List.range 2 = [0, 1] from rfl] at h
  go_simp
  clear h
  simp only [Op.eqItems]
  go_simp
set_option maxRecDepth 100000 in
theorem hashkeys_any (d : Nat) (cv : Value) (ps : List Pd) (x y : Nat) (tv : Value) (T : List (List Vl)) (w : World) (hp : PsAt d w cv ps) (hx : x < 18446744073709551616) (hy : y < 18446744073709551616) (ht : RwsOn Al w tv T) (hwt : ∀ r ∈ T, ∀ v ∈ r, Hs.I64 v.2) (hW : Want w) (hP : Pows w) :
    Calls Tryd.prog 3 #[cv, .agg #[.int .u64 (x : Int), .int .u64 (y : Int)], tv] w fun E w' => E = .returned (.bool true) ∧ Below w.heap.size w w' := by
  obtain ⟨i0, hi0, hz0, hz1, hz2⟩ := info_parts Tryd.infoTerm15
  obtain ⟨W1, hW1⟩ : ∃ W, W = w.alloc (Obj.cells #[.int .u64 (x : Int), .int .u64 (y : Int)] 24) := ⟨_, rfl⟩
  obtain ⟨l1, hb1⟩ := box_one (cs := [.int .u64 (x : Int), .int .u64 (y : Int)]) hW1
  obtain ⟨W2, hW2⟩ : ∃ W, W = W1.alloc (Obj.cells #[tv] 25) := ⟨_, rfl⟩
  have hb2 : Below W1.heap.size W1 W2 := by rw [hW2]; exact below_new _ _
  have hb12 := below_join hb1 hb2
  have hs1 : W1.heap.size = w.heap.size + 1 := by rw [hW1, World.size_alloc]
  have htl : TusOn Al W2 (.slice (some ⟨w.heap.size + 1, 0, none⟩) 1 1) [T] := by rw [hW2, ← hs1]; exact tus_built13 W1 25 [tv] [T] rfl (one_of (P := fun u r => RwsOn Al W1 u r) (ht.below hb1 (Nat.le_refl _)))
  have cl := nlight_any d cv (.slice (some ⟨w.heap.size + 1, 0, none⟩) 1 1) (.slice none 0 0) ps [T] [] W2 (hp.below hb12 (Nat.le_refl _)) htl (TusOn.nil _ _) (.inl rfl) (.inr ⟨_, _, _, rfl⟩)
  have l2 := l1.below hb2 l1.lt
  have HB12 := Lib.hid hb12
  have HW := Lib.hid (And.intro hW1 hW2)
  have HL2 := Lib.hid l2
  have CA := Lib.hid (show ∀ W, Below w.heap.size w W → _ from fun W (h : Below w.heap.size w W) => awake15_any W (hW.below h (Nat.le_refl _)) (hP.below h (Nat.le_refl _)))
  have HP := Lib.hid hp
  have HPW := Lib.hid hP
  have HT := Lib.hid ht
  have HWT := Lib.hid hwt
  have HXY := Lib.hid (And.intro hx hy)
  obtain ⟨P0, p0, rfl, _⟩ := hp.form
  obtain ⟨T0, t0, rfl, _⟩ := ht.form
  obtain ⟨pl, hpl⟩ : ∃ n, n = ps.length := ⟨_, rfl⟩
  obtain ⟨tl, htl2⟩ : ∃ n, n = T.length := ⟨_, rfl⟩
  rw [← hpl] at cl HP ⊢
  rw [← htl2] at HT HW ⊢
  have HN := Lib.hid (And.intro hpl htl2)
  clear hp hx hy ht hwt hW hP l1 hb1 hb2 hb12 hs1 htl l2 hW1 hW2 hpl htl2
  go_enter Tryd.func3, Tryd.ntmps3
  go_wp2_with fail
  rw [← HW.out.1, ← HW.out.2]
  refine cl.mono ?_
  rintro E w3 ⟨b, rfl, hlight, hb3⟩
  have HLI := Lib.hid hlight
  have HB3 := Lib.hid (below_join HB12.out hb3)
  have HL3 := Lib.hid (HL2.out.below hb3 HL2.out.lt)
  clear cl hlight hb3
  cases b with
  | false =>
    have ca := CA.out w3 HB3.out
    go_wp2_with fail
    refine ca.mono ?_
    rintro E w4 ⟨rfl, hb4⟩
    have HB4 := Lib.hid (below_join HB3.out hb4)
    clear ca hb4
    go_wp2_with fail
    go_ret
    exact ⟨rfl, HB4.out⟩
  | true =>
    have hL := HLI.out rfl
    have hpn : ps.length ≤ 10 := hL.1.1
    have hT66 := (hL.2.2.2 T (by simp)).1
    have hT10 := (hL.2.2.2 T (by simp)).2
    have hb3 := HB3.out
    have C7 := Lib.hid (show ∀ W, Below w3.heap.size w3 W → Calls Tryd.prog 7 #[.slice P0 pl p0, .int .u64 (x : Int), .int .u64 (y : Int)] W _ from fun W h => hkeys_any d _ ps x y W (HP.out.below (below_join hb3 h) (Nat.le_refl _)) HXY.out.1 HXY.out.2 (by omega))
    have C8 := Lib.hid (show ∀ W, Below w3.heap.size w3 W → Calls Tryd.prog 8 #[.slice P0 pl p0, .int .u64 (x : Int), .int .u64 (y : Int)] W _ from fun W h => r15keys_any d _ ps x y W (HP.out.below (below_join hb3 h) (Nat.le_refl _)) HXY.out.1 HXY.out.2 (by omega))
    have hkn := Hs.keys_le ps x y
    have hcol := fun z (h : z ∈ both15 (Hs.keys ps x y)) => both15_col h
    obtain ⟨KS, hKS⟩ : ∃ K, K = Hs.keys ps x y := ⟨_, rfl⟩
    rw [← hKS] at C7 C8 hkn hcol
    have HCOL := Lib.hid hcol
    have HTB := Lib.hid (And.intro hT66 hT10)
    obtain ⟨kl, hkl⟩ : ∃ n, n = KS.length := ⟨_, rfl⟩
    have hkl10 : kl ≤ 10 := by omega
    have HKL := Lib.hid hkl
    have HY := Lib.hid (show ∀ W, Below w3.heap.size w3 W → W.cell? ⟨w.heap.size, 0, none⟩ = some (.int .u64 (x : Int)) ∧ W.cell? ⟨w.heap.size, 1, none⟩ = some (.int .u64 (y : Int)) ∧ Below w3.heap.size w3 W from fun W h =>
      ⟨(HL3.out.below h HL3.out.lt).cell (i := 0) rfl, (HL3.out.below h HL3.out.lt).cell (i := 1) rfl, h⟩)
    obtain ⟨y0, y1, hS⟩ := HY.out w3 (Below.refl _ _)
    clear hL hpn hT66 hT10 hb3 hkn hcol hKS hkl
    go_wp2_with fail
    go_region_held3 (fun W => W.cell? ⟨w.heap.size, 0, none⟩ = some (.int .u64 (x : Int)) ∧ W.cell? ⟨w.heap.size, 1, none⟩ = some (.int .u64 (y : Int)) ∧ Below w3.heap.size w3 W) (first | (exact HY.out _ (by repeat first | assumption | refine Below.drew ?_)))
      (first
        | (go_at_call 7; (with_reducible refine (C7.out _ (by repeat first | assumption | refine Below.drew ?_)).mono ?_); rintro e wA ⟨vA, rfl, hoA, hbA⟩; have hSA := below_join (by repeat first | assumption | refine Below.drew ?_ : Below w3.heap.size w3 _) hbA)
        | (go_at_call 8; (with_reducible refine (C8.out _ (by repeat first | assumption | refine Below.drew ?_)).mono ?_); rintro e wB ⟨vB, rfl, hoB, hbB⟩; have hSB := below_join (by repeat first | assumption | refine Below.drew ?_ : Below w3.heap.size w3 _) hbB)
        | (fail "no arm"))
    clear y0 y1 hS
    have hkA := (KysAt.own hoA rfl).below hbB (Nat.le_refl _)
    have hkB := KysAt.own hoB rfl
    obtain ⟨A7, a7, rfl, _⟩ := hkA.form
    obtain ⟨A8, a8, rfl, _⟩ := hkB.form
    rw [← HKL.out] at hkA hkB ⊢
    have HKA := Lib.hid hkA
    have HKB := Lib.hid hkB
    have HSB := Lib.hid (below_join HB3.out hSB)
    have HOW := Lib.hid (own_empty wB 35 5 wB.heap.size (Nat.le_refl _) wB.heap.size rfl)
    have HB0 := Lib.hid ((Below.refl wB.heap.size wB).alloc (Nat.le_refl _) (Obj.cells #[] 35))
    clear hoA hbA hSA hoB hbB hSB hkA hkB C7 C8 HY
    go_wp2_with fail
    go_loopw [9, 10] (fun s i wr => ∃ (q a : Nat) (A : Option Addr), q ≤ kl ∧ i = .int .i64 q ∧ s = .slice A (q * 2) a ∧ q * 2 ≤ a ∧ Hid (wr.ownsRow wB.heap.size 35 5 (.slice A (q * 2) a) (q * 2) (tmCells (both15 (KS.take q)))) ∧ Below wB.heap.size wB wr) (fun _ i _ => kl - (intOf i).toNat)
    case atStart => exact ⟨0, 0, _, Nat.zero_le _, rfl, rfl, Nat.le_refl _, Lib.hid HOW.out, HB0.out⟩
    case round =>
      obtain ⟨q, a, A, hq, rfl, rfl, hqa, HO, hb⟩ := hrel
      by_cases hlt : q < kl
      · obtain ⟨c, gc⟩ : ∃ c, KS[q]? = some c := ⟨KS[q]'(by have := HKL.out; omega), List.getElem?_eq_getElem _⟩
        obtain ⟨b1, o1, p1, hA7, hx1⟩ := HKA.out.at_ gc
        obtain ⟨b2, o2, p2, hA8, hx2⟩ := HKB.out.at_ gc
        subst hA7 hA8
        obtain ⟨Z1, hZ1⟩ : ∃ Z, Z = (⟨b1, o1, p1⟩ : Addr).add (q * 10) := ⟨_, rfl⟩
        obtain ⟨Z2, hZ2⟩ : ∃ Z, Z = (⟨b2, o2, p2⟩ : Addr).add (q * 10) := ⟨_, rfl⟩
        obtain ⟨y0, y1, y2, y3, y4, y5, y6, y7, y8, y9⟩ := hx1 wr hb
        obtain ⟨z0, z1, z2, z3, z4, z5, z6, z7, z8, z9⟩ := hx2 wr hb
        have HTK := Lib.hid (both15_take gc)
        have HX1 := Lib.hid hx1
        have HB := Lib.hid hb
        have HLT := Lib.hid hlt
        have i1 : (0 : Int) ≤ (q : Int) := by omega
        have i2 : (q : Int) < (kl : Int) := by omega
        clear gc hx1 hx2 hb hlt hZ1 hZ2
        have hne := arr_same15 c
        go_wp2_with fail
        go_quiet (fail)
        have hbq : Below wr.heap.size wr (wr.drewN nq) := ⟨rfl, rfl, rfl, Nat.le_refl _, fun _ _ => rfl⟩
        clear y0 y1 y2 y3 y4 y5 y6 y7 y8 y9 z0 z1 z2 z3 z4 z5 z6 z7 z8 z9 hne
        generalize wr.drewN nq = w4 at hbq ⊢
        have hb4 := below_join HB.out hbq
        obtain ⟨y0, y1, y2, y3, y4, y5, y6, y7, y8, y9⟩ := HX1.out w4.drew (Below.drew hb4)
        obtain ⟨wa, hwa⟩ : ∃ wa, wa = (w4.alloc (Obj.cells #[.int .i64 c.1.k, .int .i64 c.1.t, .int .i64 c.1.c, .bool c.1.z, .int .i64 c.1.n, .int .i64 c.2.k, .int .i64 c.2.t, .int .i64 c.2.c, .bool c.2.z, .int .i64 c.2.n] 35)).drew := ⟨_, rfl⟩
        have hba : Below w4.heap.size w4 wa := by rw [hwa]; exact Below.drew (below_new w4 _)
        have HOA := Lib.hid (own_keeps (S := fun _ => True) (own_keeps (S := fun _ => True) HO.out (keeps_all hbq) fun _ _ => trivial) (keeps_all hba) fun _ _ => trivial)
        have HCN := Lib.hid (show ∀ (j : Nat) (u : Value), (c.1.cells ++ c.2.cells)[j]? = some u → wa.cell? ((⟨w4.heap.size, 0, none⟩ : Addr).add j) = some u by rw [hwa]; exact fun j u h => cells_two15 w4 (c.1.cells ++ c.2.cells) 35 j u h)
        have HBA := Lib.hid (hb4.trans (below_low hba hb4.size))
        rw [hwa] at HOA HCN HBA
        clear hbq hb4 hwa hba
        go_wp2_with fail
        go_region_law (refine step_append_at15 rfl (.tmp 55) (.tmp 66) 31 rfl wB.heap.size 35 i0 (.agg #[.int .i64 0, .int .i64 0, .int .i64 0, .bool false, .int .i64 0]) 5 40 Tryd.underlying31 hi0 hz0 hz1 hz2 rfl (by decide) (.slice A (q * 2) a) (q * 2) _ (by simp [Act.eval]) HOA.out ⟨w4.heap.size, 0, none⟩ 2 2 (c.1.cells ++ c.2.cells) (by simp [Act.eval]) rfl HCN.out (ky_ones c) (by unfold maxLen; omega) (by omega) HBA.out.size ?_; intro v5 w5 hg5)
        all_goals
          have hlt := HLT.out
          clear y0 y1 y2 y3 y4 y5 y6 y7 y8 y9
          obtain ⟨hown5, hgr, _⟩ := hg5.out
          obtain ⟨A5, a5, rfl, ha5⟩ : ∃ A5 a5, v5 = .slice A5 (q * 2 + 2) a5 ∧ q * 2 + 2 ≤ a5 := by
            rcases hown5.2 with ⟨_, h0⟩ | ⟨g, cap, cur, rfl, _, _, hnc, _⟩
            · omega
            · exact ⟨_, cap, rfl, hnc⟩
          have HO5 := Lib.hid (show w5.ownsRow wB.heap.size 35 5 (.slice A5 ((q + 1) * 2) a5) ((q + 1) * 2) (tmCells (both15 (KS.take (q + 1)))) by rw [HTK.out, show (q + 1) * 2 = q * 2 + 2 by omega]; exact hown5)
          have HB5 := Lib.hid (HBA.out.grown hgr HBA.out.size (fun k hk => (HOA.out.lt k hk).1))
          clear hown5 hgr hg5
          go_wp2_with fail
          go_roundw
          case rel => exact ⟨q + 1, a5, A5, by omega, by go_num, by rw [show (q + 1) * 2 = q * 2 + 2 by omega], by omega, HO5, HB5.out⟩
          case measure => simp [intOf]; omega
      · obtain rfl : q = kl := by omega
        obtain ⟨wo, hwo⟩ : ∃ wo, wo = wr := ⟨_, rfl⟩
        subst hwo
        have hms : TmsAt wo (.slice A (q * 2) a) (both15 KS) := by
          have h3 := HO.out
          rw [List.take_of_length_le (by have := HKL.out; omega)] at h3
          exact TmsAt.own h3 (by rw [both15_length, ← HKL.out])
        have i2 : ¬ ((q : Int) < (q : Int)) := by omega
        have hbw := below_join HSB.out hb
        have HM := Lib.hid hms
        have HBW := Lib.hid hbw
        have HX := Lib.hid (show ∀ (i : Nat), ∀ z ∈ (both15 KS).take i, Hs.I64 (Te.val z T).2 from fun i z hz => Hs.wf_val (HCOL.out z (List.mem_of_mem_take hz)) HWT.out)
        have CK := Lib.hid (show ∀ (i : Nat) W, i ≤ q * 2 → Below wo.heap.size wo W → Calls Tryd.prog 9 #[.slice A i a, .slice T0 tl t0] W (KeyIs W (Hs.key ((both15 KS).take i) T)) from fun i W hi h =>
          hkey_any _ _ _ T W ((hms.below h (Nat.le_refl _)).cut hi) (HT.out.below (below_join hbw h) (Nat.le_refl _)).rws (HPW.out.below (below_join hbw h) (Nat.le_refl _)) (HX.out i) (by rw [List.length_take]; omega))
        have CR := Lib.hid (show ∀ (i : Nat) W, i ≤ q * 2 → Below wo.heap.size wo W → Calls Tryd.prog 10 #[.slice A i a, .slice T0 tl t0] W (KeyIs W (Hs.key ((both15 KS).take i) T)) from fun i W hi h =>
          r15key_any _ _ _ T W ((hms.below h (Nat.le_refl _)).cut hi) (HT.out.below (below_join hbw h) (Nat.le_refl _)).rws (by have := HTB.out.1; omega) (fun r hr => by have := HTB.out.2 r hr; omega) (HX.out i) (by rw [List.length_take]; omega))
        clear hms hbw hb hlt HO
        go_wp2_with fail
        go_loopw [11] (fun i w8 => ∃ z : Nat, z ≤ q * 2 + 1 ∧ i = .int .i64 z ∧ Below wo.heap.size wo w8) (fun i _ => q * 2 + 1 - (intOf i).toNat)
        case atStart => exact ⟨0, Nat.zero_le _, rfl, Below.refl _ _⟩
        case round =>
          obtain ⟨z, hz, rfl, hb8⟩ := hrel
          by_cases hlt : z ≤ q * 2
          · have ck := CK.out z wr hlt hb8
            have HZ := Lib.hid hz
            have HLT := Lib.hid hlt
            have HB8 := Lib.hid hb8
            obtain ⟨S0, hS0⟩ : ∃ s, s = (Hs.key ((both15 KS).take z) T).getD [] := ⟨_, rfl⟩
            obtain ⟨bb, hbb⟩ : ∃ b, b = (Hs.key ((both15 KS).take z) T).isSome := ⟨_, rfl⟩
            have hck : Calls Tryd.prog 9 #[.slice A z a, .slice T0 tl t0] wr (fun E w' => E = .returned (.tuple #[.string ⟨S0.toArray⟩, .bool bb]) ∧ Below wr.heap.size wr w') := by rw [hS0, hbb]; exact ck
            have HCR := Lib.hid (show ∀ W, Below wo.heap.size wo W → Calls Tryd.prog 10 #[.slice A z a, .slice T0 tl t0] W (fun E w' => E = .returned (.tuple #[.string ⟨S0.toArray⟩, .bool bb]) ∧ Below W.heap.size W w') from fun W h => by rw [hS0, hbb]; exact CR.out z W HLT.out h)
            have e1 : (z : Int) ≤ ((q * 2 : Nat) : Int) := by omega
            have e1' : (z : Int) ≤ (q : Int) * 2 := by omega
            have e2 : (z : Int) ≤ (a : Int) := by omega
            have e3 : (0 : Int) ≤ (z : Int) := by omega
            clear ck hS0 hbb hb8
            go_wp2_with fail
            refine hck.mono ?_
            rintro E w6 ⟨rfl, hb6⟩
            have hbo6 := below_join HB8.out hb6
            have cr := HCR.out w6 hbo6
            have HB6 := Lib.hid hbo6
            clear hck hb6 hbo6
            go_wp2_with fail
            refine cr.mono ?_
            rintro E w7 ⟨rfl, hb7⟩
            have HB7 := Lib.hid (below_join HB6.out hb7)
            clear cr hb7 e1 e1' e2
            go_wp2_with fail
            go_roundw
            case rel => exact ⟨z + 1, by omega, by go_num, HB7.out⟩
            case measure => simp [intOf]; omega
          · have e1 : ¬ (z : Int) ≤ ((q * 2 : Nat) : Int) := by omega
            have e1' : ¬ (z : Int) ≤ (q : Int) * 2 := by omega
            have ca := CA.out wr (below_join HBW.out hb8)
            have HB8 := Lib.hid (below_join HBW.out hb8)
            clear hb8 hlt
            go_wp2_with fail
            refine ca.mono ?_
            rintro E w6 ⟨rfl, hb6⟩
            have HB6 := Lib.hid (below_join HB8.out hb6)
            clear ca hb6
            go_wp2_with fail
            go_ret
            exact ⟨rfl, HB6.out⟩
end Go.Proofs.YtghonbnmakggnaaDoor
