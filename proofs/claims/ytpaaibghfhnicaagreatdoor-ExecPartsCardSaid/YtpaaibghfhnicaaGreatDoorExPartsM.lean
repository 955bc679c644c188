/-
  THE LAW ExecParts.
-/
import Derived.Test.YtpaaibghfhnicaaGreatDoorExjM
import Derived.Test.YtpaaibghfhnicaaGreatDoorExwM
import Derived.Test.YtpaaibghfhnicaaGreatDoorGBase
import Derived.Test.YtpaaibghfhnicaaGreatDoorGTreeA
namespace Go.Proofs.YtpaaibghfhnicaaGreatDoor
open Go.RowKit Go.Sort
set_option maxHeartbeats 6400000

theorem flat_le16p {t : List (List Vl)} {s : Nat} {cols : List Int} (hc : cols.length ≤ 64) (hx : ∀ x ∈ cols, x ≤ 100) : (Mt.flat t s cols).length ≤ 6400 := by
  rw [← Mt.flat_memb t s cols hc, Mt.flatOf_length]
  refine Nat.le_trans (Mt.wide_le hx _) ?_
  have : (St.memb (s &&& St.belowN ((cols.length : Int) - 1))).length ≤ 64 := by
    unfold St.memb St.membTo
    exact Nat.le_trans (List.length_filter_le _ _) (by simp)
  omega
theorem run_le16p {cols : List Int} {a : Tr} {D : List (List (List Vl))} (hz : Ck.data cols a D = 0) (hok : Ex.Ok 10000 cols D a) : (Ex.run cols a D).length ≤ 10000 ∧ ∀ x ∈ Ex.run cols a D, x.length ≤ 6400 := by
  unfold Ex.run
  rw [if_pos hz]
  have hs := Ex.sound_of hz
  refine ⟨by unfold Ex.rows; rw [List.length_map]; exact (hok.few (Nat.le_refl _)).len, fun x hx => ?_⟩
  obtain ⟨t, _, rfl⟩ := List.mem_map.1 hx
  exact flat_le16p hs.wide fun x hx => by have := hs.col x hx; omega
theorem r9same16p {r : List (List Vl)} {u v : Value} {w : World} (hu : Rws w u r) (hv : Rws w v r) (hr : r.length ≤ 10000) (hx : ∀ x ∈ r, x.length ≤ 6400) :
    Calls Tryz.prog 13 #[u, v] w fun e w' => e = .returned (.bool true) ∧ Below w.heap.size w w' := by
  obtain ⟨vs, hvs⟩ := hu
  obtain ⟨us, hus⟩ := hv
  have h := r9list_any u v vs us r r w hvs hus (fun x h => Nat.le_trans (hx x h) (by decide)) (fun x h => Nat.le_trans (hx x h) (by decide)) (Nat.le_trans hr (by decide)) (Nat.le_trans hr (by decide))
  rw [show decide (Bg.lex Bg.cr r r = 0) = true from decide_eq_true ((Bg.lex_cmp Bg.cr_cmp).self _)] at h
  exact h
theorem hasB_lt16 (s q : Nat) (h : q < 64) : St.hasB s (q : Int) = s.testBit q := by
  unfold St.hasB
  rw [decide_eq_true (show (0 : Int) ≤ (q : Int) by omega), decide_eq_true (show (q : Int) ≤ 63 by omega), Int.toNat_natCast, Bool.true_and, Bool.true_and]
theorem below_alloc16p {w W : World} {B : Nat} (h : Below B w W) (hB : B ≤ w.heap.size) (o : Obj) : Below B w (W.alloc o) := h.alloc (Nat.le_trans hB h.size) o
/-- lists of rows in a list of the call's own; the rows lie where they lay -/
structure LsRow (w0 : World) (base : Nat) (w : World) (v : Value) (n : Nat) (us : List Value) (D : List (List (List Vl))) : Prop where
  own : w.ownsRow base 36 1 v n us
  row : ∀ (j : Nat) (rs : List (List Vl)), j < n → D[j]? = some rs → ∃ B e, us[j]? = some (.slice B rs.length e) ∧ Rws w0 (.slice B rs.length e) rs
theorem LsRow.below {w0 w w' : World} {base n : Nat} {v : Value} {us : List Value} {D : List (List (List Vl))} (h : LsRow w0 base w v n us D) (hb : Below w.heap.size w w') : LsRow w0 base w' v n us D :=
  ⟨own_keeps h.own (keeps_below hb) (fun k hk => (h.own.lt k hk).2), h.row⟩
theorem LsRow.push {w0 w w' : World} {base n : Nat} {v v' : Value} {us : List Value} {D : List (List (List Vl))} {B : Option Addr} {e m : Nat} (h : LsRow w0 base w v n us D) (ho : w'.ownsRow base 36 1 v' (n + 1) (us ++ [.slice B m e])) (hr : ∀ rs, D[n]? = some rs → m = rs.length ∧ Rws w0 (.slice B rs.length e) rs) :
    LsRow w0 base w' v' (n + 1) (us ++ [.slice B m e]) D := by
  have hul : us.length = n := by have := h.own.1; omega
  refine ⟨ho, fun j rs hj hD => ?_⟩
  by_cases g : j < n
  · obtain ⟨B', e', h1, h2⟩ := h.row j rs g hD
    exact ⟨B', e', by rw [List.getElem?_append_left (by omega)]; exact h1, h2⟩
  · obtain rfl : j = n := by omega
    obtain ⟨rfl, h2⟩ := hr rs hD
    exact ⟨B, e, by rw [List.getElem?_append_right (by omega), hul, Nat.sub_self]; rfl, h2⟩
theorem LsRow.dts {w0 w : World} {base n : Nat} {v : Value} {us : List Value} {D : List (List (List Vl))} (h : LsRow w0 base w v n us D) (hn : n = D.length) (hb : Below w0.heap.size w0 w) : Dts w v D := by
  have hul : us.length = n := by have := h.own.1; omega
  obtain ⟨A, c, hv, hc, hx⟩ := SlOn.own h.own
  refine ⟨A, c, by rw [hv, hul, hn], by omega, fun j rs hj => ?_⟩
  obtain ⟨B, e, h1, h2⟩ := h.row j rs (by rw [hn]; exact (List.getElem?_eq_some_iff.1 hj).1) hj
  obtain ⟨b, o, p, hA, _, hlt, hcell⟩ := hx j _ h1
  exact ⟨b, o, p, B, e, hA, hlt, hcell, h2.below hb (Nat.le_refl _)⟩
set_option maxRecDepth 100000 in
theorem execparts_any (a : Tr) (cols : List Int) (cv u v dv : Value) (D : List (List (List Vl))) (w : World) (hc : Sl w cv (cols.map (Value.int .i64))) (hu : ∃ d, TsAt d w u a.ks) (hv : PsSome w v a.cs) (hd : Dts w dv D)
    (hwf : ∀ rs ∈ D, ∀ x ∈ rs, ∀ v ∈ x, -9223372036854775808 ≤ v.2 ∧ v.2 ≤ 9223372036854775807) (hW : Want w) (hP : Pows w) (hT : Tab w) :
    Calls Tryz.prog 5 #[.agg #[cv, .int .i64 a.k, .int .i64 a.t, u, v, .bool a.h], dv] w fun e w' => e = .returned (.bool true) ∧ Below w.heap.size w w' := by
  obtain ⟨i0, hi, iz0, iz1, iz2⟩ := info_parts Tryz.infoTup13
  obtain ⟨A, c, rfl, _⟩ := hu.elim fun d h => h.form
  obtain ⟨A', c', rfl, _⟩ := hv.elim fun d h => h.form
  obtain ⟨W0, hW0⟩ : ∃ W0, W0 = w.alloc (Obj.cells #[cv, .int .i64 a.k, .int .i64 a.t, .slice A a.ks.length c, .slice A' a.cs.length c', .bool a.h] 28) := ⟨_, rfl⟩
  obtain ⟨l0, hb0⟩ := box_one (cs := [cv, .int .i64 a.k, .int .i64 a.t, .slice A a.ks.length c, .slice A' a.cs.length c', .bool a.h]) hW0
  have cb := bears16_any a cols cv (.slice A a.ks.length c) (.slice A' a.cs.length c') dv D 4000 W0 (hc.below hb0 (Nat.le_refl _)) (hu.elim fun d h => ⟨d, h.below hb0 (Nat.le_refl _)⟩) (hv.below hb0 (Nat.le_refl _)) (hd.below hb0 (Nat.le_refl _)) (by decide)
  have CA := Lib.hid (fun W (h : Below W0.heap.size W0 W) => have hbw := below_join hb0 h; awake16_any W (hW.below hbw (Nat.le_refl _)) (hP.below hbw (Nat.le_refl _)) (hT.below hbw))
  have CR := Lib.hid (fun W (D : List (List (List Vl))) (dv : Value) (h : Below W0.heap.size W0 W) (hd : Dts W dv D) (hs : Tr.size a ≤ 1000) (hok : Ck.data cols a D = 0 → Ex.Ok 10000 cols D a) => have hbw := below_join hb0 h; xrun_any a cols cv (.slice A a.ks.length c) (.slice A' a.cs.length c') dv D W (hc.below hbw (Nat.le_refl _)) (hu.elim fun d h => ⟨d, h.below hbw (Nat.le_refl _)⟩) (hv.below hbw (Nat.le_refl _)) hd hs (hW.below hbw (Nat.le_refl _)) (hP.below hbw (Nat.le_refl _)) (hT.below hbw) hok)
  have CT : Hid (∀ W, Below W0.heap.size W0 W → Tr.size a ≤ 1000 → Calls Tryz.prog 19 #[.agg #[.int .i64 a.k, .int .i64 a.t, .slice A a.ks.length c, .slice A' a.cs.length c', .bool a.h]] W fun e w' => e = Ending.returned (.int .u64 (Tr.tables a : Nat)) ∧ Hid (Below W.heap.size W w') ∧ Below W0.heap.size W0 w') := Lib.hid fun W h hs => by
    have hbw := below_join hb0 h
    obtain ⟨d, hu⟩ := hu
    exact (r10tables_any d a (.slice A a.ks.length c) (.slice A' a.cs.length c') W (hu.below hbw (Nat.le_refl _)) (hv.below hbw (Nat.le_refl _)) hs).mono fun e w' ⟨he, hb⟩ => ⟨he, Lib.hid hb, below_join h hb⟩
  have CS : Hid (∀ W, Below W0.heap.size W0 W → Calls Tryz.prog 20 #[.agg #[.int .i64 a.k, .int .i64 a.t, .slice A a.ks.length c, .slice A' a.cs.length c', .bool a.h]] W fun e w' => e = Ending.returned (.int .u64 (Tr.seen a : Nat)) ∧ Hid (Below W.heap.size W w') ∧ Below W0.heap.size W0 w') := Lib.hid fun W h => by
    have hbw := below_join hb0 h
    obtain ⟨d, hu⟩ := hu
    exact (r10seen_any d a (.slice A a.ks.length c) (.slice A' a.cs.length c') W (hu.below hbw (Nat.le_refl _))).mono fun e w' ⟨he, hb⟩ => ⟨he, Lib.hid hb, below_join h hb⟩
  have hd0 := hd.below hb0 (Nat.le_refl _)
  have hc0 := hc.below hb0 (Nat.le_refl _)
  obtain ⟨cA, cn, cc, rfl⟩ : ∃ cA cn cc, cv = .slice cA cn cc := by obtain ⟨A, c, h, _⟩ := hc; exact ⟨A, _, c, h⟩
  have hcn : cn = cols.length := by
    obtain ⟨_, _, h, _⟩ := hc
    injection h with _ h _
    rw [h, List.length_map]
  obtain ⟨DA, dc, rfl, _⟩ := id hd
  have HX := Lib.hid (fun W (h : Below W0.heap.size W0 W) => l0.below h l0.lt)
  have HD0 := Lib.hid hd0
  have HC0 := Lib.hid hc0
  have x0 := l0.cell (i := 0) rfl
  have x1 := l0.cell (i := 1) rfl
  have x2 := l0.cell (i := 2) rfl
  have x3 := l0.cell (i := 3) rfl
  have x4 := l0.cell (i := 4) rfl
  have x5 := l0.cell (i := 5) rfl
  have HW := Lib.hid hW0
  have HB0 := Lib.hid hb0
  have HWF := Lib.hid hwf
  have HCN := Lib.hid hcn
  clear hW0 l0 hb0 hc hu hv hd hwf hW hP hT hd0 hc0 hcn
  go_enter Tryz.func5, Tryz.ntmps5
  go_upto_region 1 with (fail)
  rw [← HW.out]
  go_wp2_with fail
  refine cb.mono ?_
  rintro e w1 ⟨bb, rfl, hbb, hb1⟩
  cases bb
  · have ca := CA.out w1 hb1
    have HB1 := Lib.hid hb1
    clear cb hb1 hbb x0 x1 x2 x3 x4 x5
    go_wp2_with fail
    refine ca.mono ?_
    rintro e w2 ⟨rfl, hb2⟩
    have HB2 := Lib.hid (below_join HB0.out (below_join HB1.out hb2))
    clear ca hb2
    go_wp2_with fail
    go_ret
    exact ⟨rfl, HB2.out⟩
  obtain ⟨hs, hz, hm⟩ := hbb rfl
  have hs1 : Tr.size a ≤ 1000 := by omega
  have hm1 : Ex.prod D (Tr.all a) ≤ 10000 := by omega
  have hso := Ex.sound_of hz
  have hok := hso.ok (M := 10000) HWF.out hm1 hs1
  have HLE := Lib.hid (run_le16p hz hok)
  obtain ⟨RL, hRL⟩ : ∃ n, n = (Ex.run cols a D).length := ⟨_, rfl⟩
  obtain ⟨n, hn⟩ : ∃ n, n = D.length := ⟨_, rfl⟩
  have hn64 : n ≤ 64 := by have := hso.len; have := hso.wide; omega
  have hnc : cn = n := by have := hso.len; have := HCN.out; omega
  subst hnc
  have cr := CR.out w1 D (.slice DA D.length dc) hb1 (HD0.out.below hb1 (Nat.le_refl _)) hs1 (fun _ => hok)
  have CQ := Lib.hid (fun W (dv : Value) (h : Below W0.heap.size W0 W) (hd : Dts W dv (Ex.less (Tr.tables a) D)) => (CR.out W _ dv h hd hs1 (fun _ => Ex.less_ok hz hok HWF.out)).mono fun e w' ho =>
    (show ∃ A2 c2, e = Ending.returned (.tuple #[.slice A2 RL c2, .int .i64 0]) ∧ Rws w' (.slice A2 RL c2) (Ex.run cols a D) ∧ Below W.heap.size W w' from by
      obtain ⟨A2, c2, rfl, h5, h6⟩ := ho
      rw [Ex.less_run hz, Ex.less_data _ hz, ← hRL]
      rw [Ex.less_run hz, ← hRL] at h5
      exact ⟨A2, c2, rfl, h5, h6⟩))
  have HZ := Lib.hid hz
  have HSO := Lib.hid hso
  have HN := Lib.hid hn
  have HRL := Lib.hid hRL
  have CT1 := Lib.hid (fun W h => CT.out W h hs1)
  have l := HX.out w1 hb1
  have x0 := l.cell (i := 0) rfl
  have x1 := l.cell (i := 1) rfl
  have x2 := l.cell (i := 2) rfl
  have x3 := l.cell (i := 3) rfl
  have x4 := l.cell (i := 4) rfl
  have x5 := l.cell (i := 5) rfl
  have HB1 := Lib.hid hb1
  clear cb hb1 l hs hz hm hs1 hm1 hok hso CR CT hn hRL
  go_wp2_with fail
  refine cr.mono ?_
  rintro e w2 ⟨A2, c2, rfl, hR2, hb2⟩
  rw [HZ.out, ← HRL.out]
  rw [← HRL.out] at hR2
  rw [← HN.out] at HD0 ⊢
  have hb02 := below_join HB1.out hb2
  have HR2 := Lib.hid hR2
  obtain ⟨ak, hak⟩ : ∃ z, z = a.k := ⟨_, rfl⟩
  obtain ⟨at_, hat⟩ : ∃ z, z = a.t := ⟨_, rfl⟩
  obtain ⟨ah, hah⟩ : ∃ z, z = a.h := ⟨_, rfl⟩
  obtain ⟨kl, hkl⟩ : ∃ z, z = a.ks.length := ⟨_, rfl⟩
  obtain ⟨cl, hcl⟩ : ∃ z, z = a.cs.length := ⟨_, rfl⟩
  obtain ⟨ts, hts⟩ : ∃ z, z = Tr.tables a := ⟨_, rfl⟩
  obtain ⟨ss, hss⟩ : ∃ z, z = Tr.seen a := ⟨_, rfl⟩
  have HTS := Lib.hid (And.intro hts hss)
  have HAK := Lib.hid (And.intro hak hat)
  rw [← hak, ← hat, ← hah, ← hkl, ← hcl] at CT1 CS HX CQ
  rw [← hts] at CT1 CQ
  rw [← hss] at CS
  have KK := Lib.hid (fun W (h : Below W0.heap.size W0 W) => (show (W.cell? ⟨w.heap.size, 1, none⟩ = some (.int .i64 ak) ∧ W.cell? ⟨w.heap.size, 2, none⟩ = some (.int .i64 at_) ∧ W.cell? ⟨w.heap.size, 3, none⟩ = some (.slice A kl c) ∧ W.cell? ⟨w.heap.size, 4, none⟩ = some (.slice A' cl c') ∧ W.cell? ⟨w.heap.size, 5, none⟩ = some (.bool ah)) ∧ Below W0.heap.size W0 W from
    have l := HX.out W h
    ⟨⟨l.cell (i := 1) rfl, l.cell (i := 2) rfl, l.cell (i := 3) rfl, l.cell (i := 4) rfl, l.cell (i := 5) rfl⟩, h⟩))
  have hS := hb02
  have HRLE := Lib.hid (show RL ≤ 10000 by rw [HRL.out]; exact HLE.out.1)
  clear cr hb2 hb02 hR2 hak hat hah hkl hcl hts hss x0 x1 x2 x3 x4 x5
  go_upto_region 4 with (fail)
  go_region_held3 (fun W => (W.cell? ⟨w.heap.size, 1, none⟩ = some (.int .i64 ak) ∧ W.cell? ⟨w.heap.size, 2, none⟩ = some (.int .i64 at_) ∧ W.cell? ⟨w.heap.size, 3, none⟩ = some (.slice A kl c) ∧ W.cell? ⟨w.heap.size, 4, none⟩ = some (.slice A' cl c') ∧ W.cell? ⟨w.heap.size, 5, none⟩ = some (.bool ah)) ∧ Below W0.heap.size W0 W) (first | (exact KK.out _ (by repeat first | assumption | refine Below.drew ?_)))
    (first
      | (go_at_call 19; (with_reducible refine (CT1.out _ (by repeat first | assumption | refine Below.drew ?_)).mono ?_); rintro e wA ⟨rfl, hBA, hSA⟩)
      | (go_at_call 20; (with_reducible refine (CS.out _ (by repeat first | assumption | refine Below.drew ?_)).mono ?_); rintro e wB ⟨rfl, hBB, hSB⟩)
      | (fail "no arm"))
  all_goals
    have hkB := below_join (below_join (Below.drew (Below.refl w2.heap.size w2)) hBA.out) hBB.out
    have HRB := Lib.hid (HR2.out.below hkB (Nat.le_refl _))
    have HSB := Lib.hid hSB
    have HOW := Lib.hid (own_empty wB 36 1 wB.heap.size (Nat.le_refl _) wB.heap.size rfl)
    have hb5 := below_new wB (Obj.cells #[] 36)
    clear hkB hBA hBB hSA hSB hS
    go_wp2_with fail
    go_loopw [9, 10, 11] (fun s x i wr => ∃ (q wd b : Nat) (us : List Value) (B : Option Addr), q ≤ cn ∧ i = .int .i64 q ∧ s = .slice B q b ∧ q ≤ b ∧ x = .int .i64 wd ∧ Hid (wd = Ex.wide cols ss q) ∧ Hid (LsRow W0 wB.heap.size wr (.slice B q b) q us (Ex.less ts D)) ∧ Below wB.heap.size wB wr) (fun _ _ i _ => cn - (intOf i).toNat)
    case atStart => exact ⟨0, 0, 0, [], _, Nat.zero_le _, rfl, rfl, Nat.le_refl _, rfl, Lib.hid rfl, Lib.hid ⟨HOW.out, fun j rs hj => by omega⟩, hb5⟩
    case round =>
      obtain ⟨q, wd, b, us, B, hq, rfl, rfl, hqb, rfl, HWD, HR, hb⟩ := hrel
      by_cases hlt : q < cn
      · have hq64 : q < 64 := by omega
        obtain ⟨rs, gr⟩ : ∃ rs, D[q]? = some rs := ⟨D[q]'(by have := HN.out; omega), List.getElem?_eq_getElem _⟩
        obtain ⟨x, gx⟩ : ∃ x, cols[q]? = some x := ⟨cols[q]'(by have := HCN.out; omega), List.getElem?_eq_getElem _⟩
        have hx := HSO.out.col x (List.mem_of_getElem? gx)
        obtain ⟨k, rfl⟩ : ∃ k : Nat, x = (k : Int) := ⟨x.toNat, by omega⟩
        obtain ⟨b1, o1, p1, B1, e1, hA1, hlt1, hc1, hr1⟩ := HD0.out.at_ gr
        subst hA1
        obtain ⟨b2, o2, p2, hA2, hlt2, hc2⟩ := ints_cell HC0.out gx
        subst hA2
        have hbW := below_join HSB.out hb
        have c1 := (hbW.cell (p := (⟨b1, o1, p1⟩ : Addr).add q) (by rw [add_block]; exact hlt1)).trans hc1
        have hwl := Ex.wide_le HSO.out.col ss q
        have hwd := HWD.out
        have hwd256 : wd ≤ 256 := by omega
        have hk4 : k ≤ 4 := by omega
        have hnum : Mt.num cols q = k := by unfold Mt.num; rw [gx]; rfl
        have hcase2 : (ss.testBit q = true ∧ wd + k = Ex.wide cols ss (q + 1)) ∨ (ss.testBit q = false ∧ wd = Ex.wide cols ss (q + 1)) := by
          have h1 := Ex.wide_succ cols ss q
          cases h2 : ss.testBit q
          · rw [h2, if_neg Bool.false_ne_true] at h1
            exact .inr ⟨rfl, by omega⟩
          · rw [h2, if_pos rfl, hnum] at h1
            exact .inl ⟨rfl, by omega⟩
        have HLESS := Lib.hid (Ex.less_at ts D (i := q) (by have := HN.out; omega))
        have HC2 := Lib.hid hc2
        have HLT2 := Lib.hid hlt2
        have CHS := Lib.hid (show ∀ W, Calls Tryz.prog 21 #[.int .u64 (ss : Int), .int .i64 (q : Int)] W fun e w' => e = .returned (.bool (ss.testBit q)) ∧ W = w' from fun W => by
          have h := rhas_any (ss : Int) (q : Int) W ⟨by omega, by rw [HTS.out.2]; have := Tr.seen_lt a; omega⟩
          rw [Int.toNat_natCast, hasB_lt16 _ _ hq64] at h
          exact h)
        have ch1 : Calls Tryz.prog 21 #[.int .u64 (ts : Int), .int .i64 (q : Int)] wr fun e w' => e = .returned (.bool (St.hasB ts (q : Int))) ∧ wr = w' := by
          have h := rhas_any (ts : Int) (q : Int) wr ⟨by omega, by rw [HTS.out.1]; have := St.ofN_lt (((Tr.all a).filter fun x => x.k == 0).map Tr.t); show ((Tr.tables a : Nat) : Int) < _; unfold Tr.tables; omega⟩
          rw [Int.toNat_natCast] at h
          exact h
        have i1 : (0 : Int) ≤ (q : Int) := by omega
        have i2 : (q : Int) < (cn : Int) := by omega
        obtain ⟨rl, hrl⟩ : ∃ n, n = rs.length := ⟨_, rfl⟩
        rw [← hrl] at c1
        have hcase1 : St.hasB ts (q : Int) = true ∨ St.hasB ts (q : Int) = false := by cases St.hasB ts (q : Int) <;> simp
        clear hwl hwd gx hx hc1 hlt1 hc2 hlt2 hnum hbW hq64
        rcases hcase1 with hz1 | hz1
        all_goals rw [hz1] at ch1
        · have HZ1 := Lib.hid hz1
          have HROW := Lib.hid (show ∀ rs', (Ex.less ts D)[q]? = some rs' → (rl) = rs'.length ∧ Rws W0 (.slice B1 rs'.length e1) rs' from fun rs' hrs' => by
              rw [HLESS.out, if_pos HZ1.out, gr] at hrs'
              cases hrs'
              exact ⟨hrl, hr1⟩)
          have HTU := Lib.hid (HR.out.below (below_new wr (Obj.cells #[.slice B1 rl e1] 36)))
          have HCN1 := Lib.hid (cell_one_new wr (.slice B1 rl e1) 36)
          have HBA := Lib.hid (below_alloc16p hb (Nat.le_refl _) (Obj.cells #[.slice B1 rl e1] 36))
          clear hz1 gr hr1 hrl hb
          go_wp2_with fail
          refine ch1.mono ?_
          rintro e w' ⟨rfl, rfl⟩
          clear ch1
          go_wp2_with (first
            | (at_builtin; refine wpList_append_at _ rfl _ _ 30 rfl wB.heap.size 36 i0 (.slice none 0 0) 1 24 Tryz.underlying30 hi iz0 iz1 iz2 rfl (by decide) _ q us rfl HTU.out.own ⟨wr.heap.size, 0, none⟩ 1 1 [.slice B1 rl e1] rfl rfl ?c1 ?c2 ?c3 ?c4 ?c5 ?_))
          case c1 => exact HCN1.out
          case c2 => intro u hu; simp at hu; subst hu; rfl
          case c3 => unfold maxLen; omega
          case c4 => omega
          case c5 => exact HBA.out.size
          intro v1 w6 hown3 hgrow hwhere
          have hT6 := HTU.out.push hown3 HROW.out
          have hb6 : Below wB.heap.size wB w6 := HBA.out.grown hgrow HBA.out.size (fun k hk => (HTU.out.own.lt k hk).1)
          obtain ⟨A5, a5, rfl, ha5⟩ : ∃ A5 a5, v1 = .slice A5 (q + 1) a5 ∧ q + 1 ≤ a5 := by
            rcases hown3.2 with ⟨rfl, h0⟩ | ⟨g, cap, cur, rfl, _, _, hnc, _⟩
            · omega
            · exact ⟨_, cap, rfl, hnc⟩
          have HT6 := Lib.hid hT6
          have hbW6 := below_join HSB.out hb6
          have y0 := (HX.out w6 hbW6).cell (i := 0) rfl
          have y2 := (hbW6.cell (p := (⟨b2, o2, p2⟩ : Addr).add q) (by rw [add_block]; exact HLT2.out)).trans HC2.out
          have ch2 := CHS.out w6
          clear hT6 hown3 hgrow hwhere hbW6
          rcases hcase2 with ⟨t2, hw2⟩ | ⟨t2, hw2⟩
          · rw [t2] at ch2
            have HW2 := Lib.hid hw2
            clear t2 hw2
            go_wp2_with fail
            refine ch2.mono ?_
            rintro e w' ⟨rfl, rfl⟩
            clear ch2
            have hw3 : (wd : Int) + (k : Int) ≤ 9223372036854775807 := by omega
            go_wp2_with fail
            go_roundw
            case rel => exact ⟨q + 1, wd + k, a5, _, A5, by omega, by go_num, rfl, ha5, by go_num, HW2.out, HT6, hb6⟩
            case measure => simp [intOf]; omega
          · rw [t2] at ch2
            have HW2 := Lib.hid hw2
            clear t2 hw2
            go_wp2_with fail
            refine ch2.mono ?_
            rintro e w' ⟨rfl, rfl⟩
            clear ch2
            go_wp2_with fail
            go_roundw
            case rel => exact ⟨q + 1, wd, a5, _, A5, by omega, by go_num, rfl, ha5, rfl, HW2.out, HT6, hb6⟩
            case measure => simp [intOf]; omega
        · have HZ1 := Lib.hid hz1
          have HROW := Lib.hid (show ∀ rs', (Ex.less ts D)[q]? = some rs' → (0) = rs'.length ∧ Rws W0 (.slice none rs'.length 0) rs' from fun rs' hrs' => by
              rw [HLESS.out, if_neg (by rw [HZ1.out]; exact Bool.false_ne_true)] at hrs'
              cases hrs'
              exact ⟨rfl, ⟨[], (SlOn.nil Al _).sl, rfl, fun i r h => by simp at h⟩⟩)
          have HTU := Lib.hid (HR.out.below (below_new wr (Obj.cells #[.slice none 0 0] 36)))
          have HCN1 := Lib.hid (cell_one_new wr (.slice none 0 0) 36)
          have HBA := Lib.hid (below_alloc16p hb (Nat.le_refl _) (Obj.cells #[.slice none 0 0] 36))
          clear hz1 gr hr1 hrl hb
          go_wp2_with fail
          refine ch1.mono ?_
          rintro e w' ⟨rfl, rfl⟩
          clear ch1
          go_wp2_with (first
            | (at_builtin; refine wpList_append_at _ rfl _ _ 30 rfl wB.heap.size 36 i0 (.slice none 0 0) 1 24 Tryz.underlying30 hi iz0 iz1 iz2 rfl (by decide) _ q us rfl HTU.out.own ⟨wr.heap.size, 0, none⟩ 1 1 [.slice none 0 0] rfl rfl ?f1 ?f2 ?f3 ?f4 ?f5 ?_))
          case f1 => exact HCN1.out
          case f2 => intro u hu; simp at hu; subst hu; rfl
          case f3 => unfold maxLen; omega
          case f4 => omega
          case f5 => exact HBA.out.size
          intro v1 w6 hown3 hgrow hwhere
          have hT6 := HTU.out.push hown3 HROW.out
          have hb6 : Below wB.heap.size wB w6 := HBA.out.grown hgrow HBA.out.size (fun k hk => (HTU.out.own.lt k hk).1)
          obtain ⟨A5, a5, rfl, ha5⟩ : ∃ A5 a5, v1 = .slice A5 (q + 1) a5 ∧ q + 1 ≤ a5 := by
            rcases hown3.2 with ⟨rfl, h0⟩ | ⟨g, cap, cur, rfl, _, _, hnc, _⟩
            · omega
            · exact ⟨_, cap, rfl, hnc⟩
          have HT6 := Lib.hid hT6
          have hbW6 := below_join HSB.out hb6
          have y0 := (HX.out w6 hbW6).cell (i := 0) rfl
          have y2 := (hbW6.cell (p := (⟨b2, o2, p2⟩ : Addr).add q) (by rw [add_block]; exact HLT2.out)).trans HC2.out
          have ch2 := CHS.out w6
          clear hT6 hown3 hgrow hwhere hbW6
          rcases hcase2 with ⟨t2, hw2⟩ | ⟨t2, hw2⟩
          · rw [t2] at ch2
            have HW2 := Lib.hid hw2
            clear t2 hw2
            go_wp2_with fail
            refine ch2.mono ?_
            rintro e w' ⟨rfl, rfl⟩
            clear ch2
            have hw3 : (wd : Int) + (k : Int) ≤ 9223372036854775807 := by omega
            go_wp2_with fail
            go_roundw
            case rel => exact ⟨q + 1, wd + k, a5, _, A5, by omega, by go_num, rfl, ha5, by go_num, HW2.out, HT6, hb6⟩
            case measure => simp [intOf]; omega
          · rw [t2] at ch2
            have HW2 := Lib.hid hw2
            clear t2 hw2
            go_wp2_with fail
            refine ch2.mono ?_
            rintro e w' ⟨rfl, rfl⟩
            clear ch2
            go_wp2_with fail
            go_roundw
            case rel => exact ⟨q + 1, wd, a5, _, A5, by omega, by go_num, rfl, ha5, rfl, HW2.out, HT6, hb6⟩
            case measure => simp [intOf]; omega
      · have hqn : q = cn := by omega
        have i2 : ¬ ((q : Int) < (cn : Int)) := by omega
        have hbW := below_join HSB.out hb
        have cx := CQ.out wr (.slice B q b) hbW (HR.out.dts (by rw [Ex.less_length, ← HN.out]; exact hqn) hbW)
        have l := HX.out wr hbW
        have x0 := l.cell (i := 0) rfl
        have x1 := l.cell (i := 1) rfl
        have x2 := l.cell (i := 2) rfl
        have x3 := l.cell (i := 3) rfl
        have x4 := l.cell (i := 4) rfl
        have x5 := l.cell (i := 5) rfl
        have HWR := Lib.hid hb
        have HWW := Lib.hid hbW
        have HWID := Lib.hid (show wd = Ex.wide cols ss cols.length by rw [HWD.out, hqn, HCN.out])
        clear hb hbW l hlt hqn
        go_wp2_with fail
        refine cx.mono ?_
        rintro e w8 ⟨A8, c8, rfl, hR8, hb8⟩
        have hB8 := below_join HWR.out hb8
        have HRA := Lib.hid (HRB.out.below hB8 (Nat.le_refl _))
        have HR8 := Lib.hid hR8
        have hb08 := below_join HWW.out hb8
        have HB8 := Lib.hid hb08
        have HRO := Lib.hid HRA.out.on
        clear cx hR8 hb8 hB8 hb08 x0 x1 x2 x3 x4 x5
        go_wp2_with fail
        obtain ⟨wo, hwo⟩ : ∃ wo, wo = wr := ⟨_, rfl⟩
        subst hwo
        go_loopw [14] (fun i wr => ∃ p : Nat, p ≤ RL ∧ i = .int .i64 p ∧ w8 = wr) (fun i _ => RL - (intOf i).toNat)
        case atStart => exact ⟨0, Nat.zero_le _, rfl, rfl⟩
        case round =>
          obtain ⟨p, hp, rfl, rfl⟩ := hrel
          by_cases hpt : p < RL
          · obtain ⟨r, gr⟩ : ∃ r, (Ex.run cols a D)[p]? = some r := ⟨(Ex.run cols a D)[p]'(by have := HRL.out; omega), List.getElem?_eq_getElem _⟩
            obtain ⟨b3, o3, p3, B3, d3, hA3, _, h3⟩ := HRO.out.pick gr
            subst hA3
            have c3 := (h3 w8 (Below.refl _ _)).1
            have hrw : r.length = wd := by rw [HWID.out, HTS.out.2]; exact Ex.run_wide r (List.mem_of_getElem? gr)
            rw [hrw] at c3
            have hRL10 := HRLE.out
            have i3 : (0 : Int) ≤ (p : Int) := by omega
            have i4 : (p : Int) < (RL : Int) := by omega
            clear h3 gr hrw
            go_wp2_with fail
            go_roundw
            case rel => exact ⟨p + 1, by omega, by go_num, by first | rfl | trivial⟩
            case measure => simp [intOf]; omega
          · have i4 : ¬ ((p : Int) < (RL : Int)) := by omega
            have l := HX.out w8 HB8.out
            have x1 := l.cell (i := 1) rfl
            have x2 := l.cell (i := 2) rfl
            clear l hpt
            by_cases hk : ak = 0
            · obtain ⟨_, _, h2, h3⟩ := HSO.out.good.leaf (HAK.out.1.symm.trans hk)
              obtain ⟨tn, htn⟩ : ∃ tn : Nat, at_ = (tn : Int) := ⟨at_.toNat, by rw [HAK.out.2]; exact (Int.toNat_of_nonneg h2).symm⟩
              have htn2 : a.t = (tn : Int) := HAK.out.2.symm.trans htn
              have htl : tn < D.length := by have := HSO.out.len; omega
              obtain ⟨rs, hg⟩ : ∃ rs, D[tn]? = some rs := ⟨D[tn]'htl, List.getElem?_eq_getElem _⟩
              have hrs := Ex.run_leaf HZ.out (HAK.out.1.symm.trans hk) htn2 hg
              obtain ⟨b4, o4, p4, B4, e4, hA4, hlt4, hc4, hr4⟩ := HD0.out.at_ hg
              subst hA4
              have c4 := (HB8.out.cell (p := (⟨b4, o4, p4⟩ : Addr).add tn) (by rw [add_block]; exact hlt4)).trans hc4
              have hr48 := hr4.below HB8.out (Nat.le_refl _)
              rw [← hrs] at c4 hr48
              have cl := r9same16p HRA.out hr48 HLE.out.1 HLE.out.2
              rw [← HRL.out] at cl c4
              rw [htn] at x2
              rw [hk] at x1
              have i5 : (0 : Int) ≤ (tn : Int) := by omega
              have i6 : (tn : Int) < (cn : Int) := by have := HN.out; omega
              clear h2 h3 htn htn2 htl hg hrs hc4 hr4 hr48 hlt4
              go_wp2_with fail
              refine cl.mono ?_
              rintro e w9 ⟨rfl, hb9⟩
              have HB9 := Lib.hid (below_join HB8.out hb9)
              clear cl c4
              have cf := r9same16p (HRA.out.below hb9 (Nat.le_refl _)) (HR8.out.below hb9 (Nat.le_refl _)) HLE.out.1 HLE.out.2
              go_wp2_with fail
              refine cf.mono ?_
              rintro e w11 ⟨rfl, hb11⟩
              have hb011 := below_join HB9.out hb11
              have ca := CA.out w11 hb011
              have HB11 := Lib.hid hb011
              clear cf hb11 hb011
              go_wp2_with fail
              refine ca.mono ?_
              rintro e w12 ⟨rfl, hb12⟩
              have HB12 := Lib.hid (below_join HB0.out (below_join HB11.out hb12))
              clear ca hb12
              go_wp2_with fail
              go_ret
              exact ⟨rfl, HB12.out⟩
            · have hk1 : (ak == 0) = false := by simpa using hk
              have HB9 := HB8
              have hb9 := Below.refl w8.heap.size w8
              have cf := r9same16p (HRA.out.below hb9 (Nat.le_refl _)) (HR8.out.below hb9 (Nat.le_refl _)) HLE.out.1 HLE.out.2
              go_wp2_with fail
              refine cf.mono ?_
              rintro e w11 ⟨rfl, hb11⟩
              have hb011 := below_join HB9.out hb11
              have ca := CA.out w11 hb011
              have HB11 := Lib.hid hb011
              clear cf hb11 hb011
              go_wp2_with fail
              refine ca.mono ?_
              rintro e w12 ⟨rfl, hb12⟩
              have HB12 := Lib.hid (below_join HB0.out (below_join HB11.out hb12))
              clear ca hb12
              go_wp2_with fail
              go_ret
              exact ⟨rfl, HB12.out⟩
end Go.Proofs.YtpaaibghfhnicaaGreatDoor
