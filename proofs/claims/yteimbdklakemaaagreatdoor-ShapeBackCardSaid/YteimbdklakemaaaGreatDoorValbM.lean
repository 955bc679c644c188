/-
  THE CONTRACTS OF package value's FUNCTIONS: texts.
-/
import Derived.Test.YteimbdklakemaaaGreatDoorGBase
import Derived.Test.YteimbdklakemaaaGreatDoorShelf
import Derived.Laws.RangeAny
import Derived.Lib.OthersKept
import Derived.Sort.Grow
namespace Go.Proofs.YteimbdklakemaaaGreatDoor
open Go.RowKit Go.Sort
set_option maxHeartbeats 400000

theorem digit_any (r : Nat) (w : World) :
    Calls Tryz.prog 108 #[.int .i32 (r : Int)] w fun e w' => e = .returned (.bool (decide (48 ≤ r) && decide (r ≤ 57))) ∧ w = w' := by
  go_enter Tryz.func108, Tryz.ntmps108
  by_cases h : 48 ≤ r
  · have d1 : decide ((48 : Int) ≤ (r : Int)) = true := by simp; omega
    go_wp2
    go_ret
    exact ⟨ret_bool (by simp [h]; omega), rfl⟩
  · have d1 : decide ((48 : Int) ≤ (r : Int)) = false := by simp; omega
    go_wp2
    go_ret
    exact ⟨ret_bool (by simp [h]), rfl⟩
theorem size_l (l : List UInt8) : (⟨l.toArray⟩ : ByteArray).size = l.length := rfl
theorem eq_dec (l m : List UInt8) : (l == m) = (true && if true = true then decide (l = m) else false) := by
  rw [if_pos rfl, Bool.true_and, Bool.eq_iff_iff, beq_iff_eq, decide_eq_true_eq]
/-- the loop's word: the digits before a place -/
theorem dec_no {D : List UInt8} {i : Nat} {c : UInt8} (h : D[i]? = some c) (hc : Va.isD c = false) : D.all Va.isD = false := by
  rw [Bool.eq_false_iff]
  intro H
  rw [List.all_eq_true] at H
  rw [H c (List.mem_of_getElem? h)] at hc
  cases hc
theorem dec_on {D : List UInt8} {i : Nat} {c : UInt8} (h : D[i]? = some c) (hc : Va.isD c = true) (ht : (D.take i).all Va.isD = true) : (D.take (i + 1)).all Va.isD = true := by
  rw [List.take_add_one, h, List.all_append, ht]
  simpa using hc
theorem decimal_any (s : ByteArray) (w : World) (hs : s.size ≤ 9223372036854775807) :
    Calls Tryz.prog 105 #[.string s] w fun e w' => e = .returned (.bool (Va.dec s.data.toList)) ∧ Below w.heap.size w w' := by
  obtain ⟨D, hD⟩ : ∃ D, D = Lib.trimPrefix s.data.toList [45] := ⟨_, rfl⟩
  have hdec : Va.dec s.data.toList = (D.all Va.isD && (if Lib.hasPrefix D [48] then decide (s.data.toList = [48]) else decide (D ≠ []))) := by rw [hD]; rfl
  have hDl : D.length ≤ 9223372036854775807 := by
    have := Lib.trimPrefix_le s.data.toList [45]
    rw [hD]
    exact Nat.le_trans this hs
  obtain ⟨r, hr⟩ : ∃ r, r = Va.dec s.data.toList := ⟨_, rfl⟩
  rw [← hr]
  rw [← hr] at hdec
  have HD := Lib.hid hD
  have HR := Lib.hid hdec
  have HL := Lib.hid hDl
  obtain ⟨d, hd⟩ : ∃ d : ByteArray, d = ⟨D.toArray⟩ := ⟨_, rfl⟩
  have hds : d.size = D.length := by rw [hd]; rfl
  have Hd := Lib.hid hd
  have Hds := Lib.hid hds
  clear hr hdec hD hDl hs hd hds
  go_enter Tryz.func105, Tryz.ntmps105
  go_wp2_with fail
  refine (Tryz.strings_TrimPrefix _ _ _).mono ?_
  rintro e w' ⟨rfl, rfl⟩
  rw [show (⟨(Lib.trimPrefix s.data.toList (ByteArray.mk #[45]).data.toList).toArray⟩ : ByteArray) = d by rw [Hd.out, HD.out]]
  have hk0 : (w'.iter d 0).heap[w'.heap.size]? = some (.stringIter d 0) := World.iter_heap w' d 0
  have hb0 : Below w'.heap.size w' (w'.iter d 0) := (Below.refl _ _).alloc (Nat.le_refl _) _
  go_wp2
  go_loopw [5] (fun _ wr => ∃ pos : Nat, pos ≤ d.size ∧ wr.heap[w'.heap.size]? = some (.stringIter d pos) ∧ Hid ((D.take pos).all Va.isD = true) ∧ Below w'.heap.size w' wr) (fun _ wr => d.size - wr.iterPos w'.heap.size)
  case atStart => exact ⟨0, Nat.zero_le _, hk0, Lib.hid (by simp), hb0⟩
  case round =>
    obtain ⟨pos, hps, hk, hall, hnx⟩ := hrel
    clear hk0 hb0
    by_cases hp : pos < d.size
    · obtain ⟨c, hc⟩ : ∃ c, c = d[pos]'hp := ⟨_, rfl⟩
      have hget : D[pos]? = some c := by
        have e1 := Hd.out
        subst e1
        rw [hc]
        exact List.getElem?_eq_getElem _
      have hmu : wr.iterPos w'.heap.size = pos := by simp [World.iterPos, hk]
      by_cases hdig : Va.isD c = true
      · have hd2 := Va.isD_iff.1 hdig
        have hnext : ∀ ty, (Instr.next (.pointer (some ⟨w'.heap.size, 0, none⟩)) true ty).run Tryz.prog wr = _ := fun ty => Lib.run_next_ascii_at wr w'.heap.size d pos ty hk hp (by rw [← hc]; omega)
        rw [← hc] at hnext
        have hk1 := Lib.iterAt_heap wr w'.heap.size d pos (pos + 1) hk
        have hnx1 : Below w'.heap.size w' (wr.iterAt w'.heap.size d (pos + 1)) := Lib.below_iterAt hnx (Nat.le_refl _) d (pos + 1)
        generalize wr.iterAt w'.heap.size d (pos + 1) = W1 at hnext hk1 hnx1
        have Hall2 := Lib.hid (dec_on hget hdig hall.out)
        have Hdg : (decide (48 ≤ c.toNat) && decide (c.toNat ≤ 57)) = true := hdig
        clear hc hget hdig hd2 hall
        go_wp2_with (refine (digit_any _ _).mono ?_; rw [Hdg]; rintro e w2 ⟨rfl, rfl⟩)
        go_roundw
        case rel => exact ⟨pos + 1, by omega, hk1, Hall2, hnx1⟩
        case measure =>
          have hmu2 : W1.iterPos w'.heap.size = pos + 1 := by simp [World.iterPos, hk1]
          rw [hmu, hmu2]
          omega
      · have hno : Hid (r = false) := Lib.hid (by rw [HR.out, dec_no hget (by simpa using hdig)]; rfl)
        have hdf : (decide (48 ≤ c.toNat) && decide (c.toNat ≤ 57)) = false := by simpa [Va.isD] using hdig
        have hnext : ∃ k p2 : Nat, (decide (48 ≤ k) && decide (k ≤ 57)) = false ∧ ∀ ty, (Instr.next (.pointer (some ⟨w'.heap.size, 0, none⟩)) true ty).run Tryz.prog wr = .ok (.tuple #[.bool true, .int .i64 pos, .int .i32 (k : Nat)]) (wr.iterAt w'.heap.size d p2) := by
          by_cases h7 : (d[pos]'hp).toNat < 128
          · exact ⟨(d[pos]'hp).toNat, pos + 1, by rw [← hc]; exact hdf, fun ty => Lib.run_next_ascii_at wr w'.heap.size d pos ty hk hp h7⟩
          · refine ⟨(Utf8.decode d pos).1, pos + (Utf8.decode d pos).2, ?_, fun ty => Lib.run_next_any_at wr w'.heap.size d pos ty hk hp⟩
            have := (decode_high d pos hp (by omega)).1
            simp; omega
        obtain ⟨k, p2, hkf, hnext⟩ := hnext
        have hnx1 : Below w'.heap.size w' (wr.iterAt w'.heap.size d p2) := Lib.below_iterAt hnx (Nat.le_refl _) d p2
        generalize wr.iterAt w'.heap.size d p2 = W1 at hnext hnx1
        clear hc hget hdig hall hdf hmu
        go_wp2_with (refine (digit_any _ _).mono ?_; rw [hkf]; rintro e w2 ⟨rfl, rfl⟩)
        go_ret
        exact ⟨ret_bool (by rw [hno.out]), hnx1⟩
    · have hnext : ∀ ty, (Instr.next (.pointer (some ⟨w'.heap.size, 0, none⟩)) true ty).run Tryz.prog wr = _ := fun ty => Lib.run_next_end_at wr w'.heap.size d pos ty hk hp
      have hall' : Hid (D.all Va.isD = true) := Lib.hid (by
        have := hall.out
        rw [List.take_of_length_le (by have := Hds.out; omega)] at this
        exact this)
      clear hall hk
      go_wp2_with fail
      refine (Tryz.strings_HasPrefix _ _ _).mono ?_
      rw [show Lib.hasPrefix d.data.toList (ByteArray.mk #[48]).data.toList = Lib.hasPrefix D [48] by rw [Hd.out]]
      obtain ⟨z, hz⟩ : ∃ z, z = Lib.hasPrefix D [48] := ⟨_, rfl⟩
      have Hz := Lib.hid hz
      rw [← hz]
      clear hz
      rintro e w2 ⟨rfl, rfl⟩
      cases z
      · go_wp2
        go_ret
        refine ⟨ret_bool ?_, hnx⟩
        rw [HR.out, hall'.out, ← Hz.out]
        rw [Lib.toList_data, Hd.out]
        cases D <;> simp
      · go_wp2
        go_ret
        refine ⟨ret_bool ?_, hnx⟩
        rw [HR.out, hall'.out, ← Hz.out]
        rw [Lib.toList_data]
        exact eq_dec _ _
theorem var_below {P : Program} {w w' : World} {B : Nat} {name : String} {cs : Array Value} (h : w.var? P name = some cs) (hb : Below B w w') (hB : w.heap.size ≤ B) : w'.var? P name = some cs := by
  unfold World.var? at *
  cases hg : P.globalNamed name with
  | none => simp [hg] at h
  | some g =>
    simp only [hg, Option.bind_some] at h ⊢
    have hlt : g < w.heap.size := by
      rcases Nat.lt_or_ge g w.heap.size with h' | h'
      · exact h'
      · rw [Array.getElem?_eq_none h'] at h; simp at h
    rw [hb.block g (Nat.lt_of_lt_of_le hlt hB)]
    exact h
/-- strconv's two variables that are read -/
def ErrR (w : World) : Prop := ∃ tp p, w.var? Tryz.prog "strconv.ErrRange" = some #[.iface tp p]
def Pows (w : World) : Prop := Lib.TabIs Tryz.prog w "internal/strconv.uint64pow10" .u64 Lib.pow10Tab
theorem ErrR.below {w w' : World} {B : Nat} (h : ErrR w) (hb : Below B w w') (hB : w.heap.size ≤ B) : ErrR w' := by
  obtain ⟨tp, p, h⟩ := h
  exact ⟨tp, p, var_below h hb hB⟩
theorem Pows.below {w w' : World} {B : Nat} (h : Pows w) (hb : Below B w w') (hB : w.heap.size ≤ B) : Pows w' := var_below h hb hB

theorem pint_ok (s : ByteArray) (v : Int) (hmax : s.size ≤ 9223372036854775806) (h : Lib.parseIntB 64 s.data.toList = .ok v) (w : World) :
    Calls Tryz.prog 106 #[.string s, .int .i64 10, .int .i64 64] w fun e w' => e = .returned (.tuple #[.int .i64 v, .nilIface]) ∧ Below w.heap.size w w' := by
  refine (Tryz.strconv_ParseInt_10_at64_ok s hmax v h w).mono ?_
  rintro e w' ⟨he, rfl | ⟨t, rfl⟩⟩
  · exact ⟨he, Below.refl _ _⟩
  · exact ⟨he, Lib.bytesWorld_below _ _ _⟩
theorem pint_range (s : ByteArray) (hlim : s.size ≤ 281474976710656) (h : Lib.parseIntB 64 s.data.toList = .range) (w : World) (hE : ErrR w) :
    Calls Tryz.prog 106 #[.string s, .int .i64 10, .int .i64 64] w fun e w' => ∃ z tp p, e = .returned (.tuple #[.int .i64 z, .iface tp (.pointer p)]) ∧ Below w.heap.size w w' := by
  obtain ⟨tp, p, hv⟩ := hE
  refine (Tryz.strconv_ParseInt_10_at64_range_var s hlim h tp p w hv).mono ?_
  rintro e w' ⟨N, he, _, _, hb⟩
  exact ⟨_, _, _, he, hb⟩
theorem parse_any (s : ByteArray) (w : World) (hs : s.size ≤ 281474976710656) (hE : ErrR w) :
    Calls Tryz.prog 103 #[.string s] w fun e w' => e = .returned (.tuple #[.agg #[.bool (Va.par s.data.toList).z, .int .i64 (Va.par s.data.toList).v], .int .i64 (Va.par s.data.toList).e]) ∧ Below w.heap.size w w' := by
  obtain ⟨l, hl⟩ : ∃ l, l = s.data.toList := ⟨_, rfl⟩
  by_cases h1 : l = Va.nul
  · rw [← hl, h1, Va.par_nul]
    have he : s = ⟨#[226, 136, 133]⟩ := by
      obtain ⟨⟨d⟩⟩ := s
      rw [hl] at h1
      have h1 : d = Va.nul := h1
      rw [h1]; rfl
    subst he
    clear h1 hl hs
    go_enter Tryz.func103, Tryz.ntmps103
    go_wp2
    exact bodyPost_ret (v := .tuple #[.agg #[.bool true, .int .i64 0], .int .i64 0]) (by simp [results, Tryz.results103, go_sem]) rfl ⟨rfl, below_new _ _⟩
  · have d0 : (s.toList == [226, 136, 133]) = false := by
      rw [Lib.toList_data, ← hl, beq_eq_false_iff_ne]; exact h1
    have hdec := decimal_any s (w.alloc (Obj.cells #[Value.bool false, Value.int IntKind.i64 0] 39)) (by omega)
    rw [← hl] at hdec
    cases h2 : Va.dec l with
    | false =>
      rw [h2] at hdec
      rw [← hl, Va.par_form h1 h2]
      clear h1 hl hs h2 hE
      go_enter Tryz.func103, Tryz.ntmps103
      go_wp2_with fail
      refine hdec.mono ?_
      rintro e w1 ⟨rfl, hb1⟩
      have hL : Lies w1 w.heap.size 39 [Value.bool false, Value.int IntKind.i64 0] := (Lies.new w _ _).below hb1 (by simp)
      have hb : Below w.heap.size w w1 := below_join (below_new w _) hb1
      have c0 : w1.cell? ⟨w.heap.size, 0, none⟩ = some (.bool false) := hL.cell rfl
      have c1 : w1.cell? ⟨w.heap.size, 1, none⟩ = some (.int .i64 0) := hL.cell rfl
      have f0 : w1.frozen? ⟨w.heap.size, 0, none⟩ = false := hL.free 0
      have f1 : w1.frozen? ⟨w.heap.size, 1, none⟩ = false := hL.free 1
      have hb2 : Below w.heap.size w ((w1.setCell ⟨w.heap.size, 0, none⟩ (.bool false)).setCell ⟨w.heap.size, 1, none⟩ (.int .i64 0)) := (hb.setCell (Nat.le_refl _) _).setCell (Nat.le_refl _) _
      have hL2 := (hL.set 0 (.bool false)).set 1 (.int .i64 0)
      have g0 := hL2.cell (i := 0) rfl
      have g1 := hL2.cell (i := 1) rfl
      go_wp2
      clear c0 c1 f0 f1 hL hL2 hb hb1 hdec
      generalize (w1.setCell ⟨w.heap.size, 0, none⟩ (.bool false)).setCell ⟨w.heap.size, 1, none⟩ (.int .i64 0) = w2 at *
      exact bodyPost_ret (v := .tuple #[.agg #[.bool false, .int .i64 0], .int .i64 1]) (by simp [results, Tryz.results103, go_sem, g0, g1]) rfl ⟨rfl, hb2⟩
    | true =>
      rw [h2] at hdec
      rw [← hl, Va.par_end h1 h2]
      rcases Va.dec_end h2 with ⟨v, hv⟩ | hv
      · rw [hv]
        have hpi := fun w' => pint_ok s v (by omega) (hl ▸ hv) w'
        clear h1 hl hs h2 hE hv
        go_enter Tryz.func103, Tryz.ntmps103
        go_wp2_with fail
        refine hdec.mono ?_
        rintro e w1 ⟨rfl, hb1⟩
        have hL : Lies w1 w.heap.size 39 [Value.bool false, Value.int IntKind.i64 0] := (Lies.new w _ _).below hb1 (by simp)
        have hb : Below w.heap.size w w1 := below_join (below_new w _) hb1
        go_wp2_with fail
        refine (hpi _).mono ?_
        rintro e w2 ⟨rfl, hb2⟩
        replace hL := hL.below hb2 hL.lt
        replace hb := below_join hb hb2
        clear hpi hdec hb1 hb2
        have c0 : w2.cell? ⟨w.heap.size, 0, none⟩ = some (.bool false) := hL.cell rfl
        have c1 : w2.cell? ⟨w.heap.size, 1, none⟩ = some (.int .i64 0) := hL.cell rfl
        have f0 : w2.frozen? ⟨w.heap.size, 0, none⟩ = false := hL.free 0
        have f1 : w2.frozen? ⟨w.heap.size, 1, none⟩ = false := hL.free 1
        have hb2 : Below w.heap.size w ((w2.setCell ⟨w.heap.size, 0, none⟩ (.bool false)).setCell ⟨w.heap.size, 1, none⟩ (.int .i64 v)) := (hb.setCell (Nat.le_refl _) _).setCell (Nat.le_refl _) _
        have hL2 := (hL.set 0 (.bool false)).set 1 (.int .i64 v)
        have g0 := hL2.cell (i := 0) rfl
        have g1 := hL2.cell (i := 1) rfl
        go_wp2
        clear c0 c1 f0 f1 hL hL2 hb
        generalize (w2.setCell ⟨w.heap.size, 0, none⟩ (.bool false)).setCell ⟨w.heap.size, 1, none⟩ (.int .i64 v) = w3 at *
        exact bodyPost_ret (v := .tuple #[.agg #[.bool false, .int .i64 v], .int .i64 0]) (by simp [results, Tryz.results103, go_sem, g0, g1]) rfl ⟨rfl, hb2⟩
      · rw [hv]
        have hpi := fun w' hE' => pint_range s hs (hl ▸ hv) w' hE'
        clear h1 hl hs h2 hv
        go_enter Tryz.func103, Tryz.ntmps103
        go_wp2_with fail
        refine hdec.mono ?_
        rintro e w1 ⟨rfl, hb1⟩
        have hL : Lies w1 w.heap.size 39 [Value.bool false, Value.int IntKind.i64 0] := (Lies.new w _ _).below hb1 (by simp)
        have hb : Below w.heap.size w w1 := below_join (below_new w _) hb1
        have hE1 : ErrR w1 := hE.below hb (Nat.le_refl _)
        go_wp2_with fail
        refine (hpi _ hE1).mono ?_
        rintro e w2 ⟨z, tp, p, rfl, hb2⟩
        replace hL := hL.below hb2 hL.lt
        replace hb := below_join hb hb2
        clear hpi hdec hb1 hb2 hE hE1
        have c0 : w2.cell? ⟨w.heap.size, 0, none⟩ = some (.bool false) := hL.cell rfl
        have c1 : w2.cell? ⟨w.heap.size, 1, none⟩ = some (.int .i64 0) := hL.cell rfl
        have f0 : w2.frozen? ⟨w.heap.size, 0, none⟩ = false := hL.free 0
        have f1 : w2.frozen? ⟨w.heap.size, 1, none⟩ = false := hL.free 1
        have hb2 : Below w.heap.size w ((w2.setCell ⟨w.heap.size, 0, none⟩ (.bool false)).setCell ⟨w.heap.size, 1, none⟩ (.int .i64 0)) := (hb.setCell (Nat.le_refl _) _).setCell (Nat.le_refl _) _
        have hL2 := (hL.set 0 (.bool false)).set 1 (.int .i64 0)
        have g0 := hL2.cell (i := 0) rfl
        have g1 := hL2.cell (i := 1) rfl
        go_wp2
        clear c0 c1 f0 f1 hL hL2 hb
        generalize (w2.setCell ⟨w.heap.size, 0, none⟩ (.bool false)).setCell ⟨w.heap.size, 1, none⟩ (.int .i64 0) = w3 at *
        exact bodyPost_ret (v := .tuple #[.agg #[.bool false, .int .i64 0], .int .i64 3]) (by simp [results, Tryz.results103, go_sem, g0, g1]) rfl ⟨rfl, hb2⟩
end Go.Proofs.YteimbdklakemaaaGreatDoor
