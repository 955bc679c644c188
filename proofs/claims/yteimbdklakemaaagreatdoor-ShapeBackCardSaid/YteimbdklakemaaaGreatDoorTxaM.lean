/-
  TEXTS RUNE BY RUNE: the runes of a text, the program's and the document's; a sign of a text of signs, and its place there.
-/
import Derived.Test.YteimbdklakemaaaGreatDoorRows
import Derived.Test.YteimbdklakemaaaGreatDoorTxrM
import Derived.Test.YteimbdklakemaaaGreatDoorGBase
import Derived.Test.YteimbdklakemaaaGreatDoorShelf
import Derived.Laws.RangeAny
import Derived.Lib.OthersKept
import Derived.Laws.Runes
namespace Go.Proofs.YteimbdklakemaaaGreatDoor
open Go.RowKit Go.Sort
set_option maxHeartbeats 400000

/-- what may be told of the next rune of bs, at a place of it -/
theorem next_rune {P : Program} {bs : List UInt8} {wr : World} {K pos : Nat} (hk : wr.heap[K]? = some (.stringIter ⟨bs.toArray⟩ pos)) (hp : pos < bs.length) :
    ∀ ty, (Instr.next (.pointer (some ⟨K, 0, none⟩)) true ty).run P wr = .ok (.tuple #[.bool true, .int .i64 pos, .int .i32 ((Rn.dec bs pos).1 : Nat)]) (wr.iterAt K ⟨bs.toArray⟩ (pos + (Rn.dec bs pos).2)) :=
  fun ty => Lib.run_next_any_at wr K ⟨bs.toArray⟩ pos ty hk (by simpa [ByteArray.size] using hp)
theorem next_done {P : Program} {bs : List UInt8} {wr : World} {K pos : Nat} (hk : wr.heap[K]? = some (.stringIter ⟨bs.toArray⟩ pos)) (hp : ¬ pos < bs.length) :
    ∀ ty, (Instr.next (.pointer (some ⟨K, 0, none⟩)) true ty).run P wr = .ok (.tuple #[.bool false]) wr :=
  fun ty => Lib.run_next_end_at wr K ⟨bs.toArray⟩ pos ty hk (by simpa [ByteArray.size] using hp)
theorem iter_kept {w w1 : World} {base n k pos : Nat} {e : TypeId} {v : Value} {xs : List Value} {s : ByteArray} (hown : w.ownsRow base e 1 v n xs) (hg : w.grownBy w1 v.ownBlock) (hk : w.heap[k]? = some (.stringIter s pos)) :
    w1.heap[k]? = some (.stringIter s pos) := by
  refine (hg.block k (Array.getElem?_eq_some_iff.1 hk).1 ?_).trans hk
  intro e0
  rcases hown.2 with ⟨rfl, _⟩ | ⟨g, cap, cur, rfl, _, hg2, _⟩
  · cases e0
  · cases e0
    rw [hk] at hg2
    cases hg2
theorem own_iterAt {w : World} {base n k pos p2 : Nat} {e : TypeId} {v : Value} {xs : List Value} {s : ByteArray} (hown : w.ownsRow base e 1 v n xs) (hk : w.heap[k]? = some (.stringIter s pos)) :
    (w.iterAt k s p2).ownsRow base e 1 v n xs := by
  refine ⟨hown.1, ?_⟩
  rcases hown.2 with h | ⟨g, cap, cur, hv, hb, hg2, h⟩
  · exact .inl h
  · refine .inr ⟨g, cap, cur, hv, hb, ?_, h⟩
    refine (Lib.iterAt_other w k g s p2 ?_).trans hg2
    rintro rfl
    rw [hk] at hg2
    cases hg2
theorem runesAt_on {bs : List UInt8} {f pos : Nat} (hp : pos < bs.length) : Rn.runesAt bs (f + 1) pos = ((Rn.dec bs pos).1 : Int) :: Rn.runesAt bs f (pos + (Rn.dec bs pos).2) := by
  rw [Rn.runesAt, if_pos hp]
theorem Tryz.infoRune : (Tryz.prog.info? 21).map (fun i => (i.zero, i.size, i.bytes)) = some (some (.int .i32 0), 1, 4) := by kernel_rfl

/-- runes of one's own -/
abbrev OwnRunes (w : World) (l : List Int) (e : Ending) (w' : World) : Prop := OwnNums 21 .i32 w l e w'

set_option maxRecDepth 100000 in
theorem rrunes_any (bs : List UInt8) (w : World) (hs : bs.length ≤ 1000000) :
    Calls Tryz.prog 9 #[.string ⟨bs.toArray⟩] w (OwnRunes w (Rn.runes bs)) := by
  obtain ⟨i0, hi, hz0, hz1, hz2⟩ := info_parts Tryz.infoRune
  go_enter Tryz.func9, Tryz.ntmps9
  go_wp2
  go_loopw [3, 5] (fun v _ wr => ∃ (pos fuel : Nat) (acc : List Int), wr.heap[w.heap.size + 1]? = some (.stringIter ⟨bs.toArray⟩ pos) ∧ wr.ownsRow w.heap.size 21 1 v acc.length (acc.map (.int .i32)) ∧ Hid (acc ++ Rn.runesAt bs fuel pos = Rn.runes bs) ∧ bs.length ≤ pos + fuel ∧ acc.length ≤ pos ∧ Below w.heap.size w wr) (fun _ _ wr => bs.length - wr.iterPos (w.heap.size + 1))
  case atStart => 
    refine ⟨0, bs.length, [], ?_, ?_, Lib.hid rfl, by omega, by simp, ?_⟩
    · have := World.iter_heap (w.alloc (.cells #[] 21)) ⟨bs.toArray⟩ 0
      simpa using this
    · exact (World.ownsRow_made w #[] 0 (Nat.le_refl _) (by decide) rfl).alloc _
    · exact ((Below.refl _ w).alloc (Nat.le_refl _) _).alloc (by simp) _
  case round =>
    obtain ⟨pos, fuel, acc, hk, hown, hacc, hf, hal, hb⟩ := hrel
    have hmu : wr.iterPos (w.heap.size + 1) = pos := by simp [World.iterPos, hk]
    have hKlt : w.heap.size + 1 < wr.heap.size := (Array.getElem?_eq_some_iff.1 hk).1
    by_cases hp : pos < bs.length
    · obtain ⟨f, rfl⟩ : ∃ f, fuel = f + 1 := ⟨fuel - 1, by omega⟩
      have hnx := next_rune (P := Tryz.prog) hk hp
      have hwd := Rn.dec_pos hp
      have hacc2 := hacc.out
      rw [runesAt_on hp] at hacc2
      obtain ⟨r, hr⟩ : ∃ r : Int, r = ((Rn.dec bs pos).1 : Int) := ⟨_, rfl⟩
      obtain ⟨p2, hp2⟩ : ∃ p2, p2 = pos + (Rn.dec bs pos).2 := ⟨_, rfl⟩
      rw [← hr, ← hp2] at hnx hacc2
      have hk1 := Lib.iterAt_heap wr (w.heap.size + 1) ⟨bs.toArray⟩ pos p2 hk
      have ho1 := own_iterAt (p2 := p2) hown hk
      have hb1 : Below w.heap.size w (wr.iterAt (w.heap.size + 1) ⟨bs.toArray⟩ p2) := Lib.below_iterAt hb (by omega) ⟨bs.toArray⟩ p2
      have hlt2 : p2 > pos := by omega
      have hsz1 : (wr.iterAt (w.heap.size + 1) ⟨bs.toArray⟩ p2).heap.size = wr.heap.size := Lib.iterAt_size _ _ _ _
      have Ha := Lib.hid hacc2
      have Hsz := Lib.hid hsz1
      clear hacc2 hacc hr hp2 hwd hk hown hsz1
      generalize wr.iterAt (w.heap.size + 1) ⟨bs.toArray⟩ p2 = W1 at hnx hk1 ho1 hb1 Hsz
      go_wp2_with (first
        | (at_builtin; refine wpList_append_own _ rfl _ _ 34 rfl w.heap.size 21 i0 (.int .i32 0) 1 4 Tryz.underlying34 hi hz0 hz1 hz2 rfl (by decide) _ _ _ rfl (ho1.alloc _) ⟨W1.heap.size, 0, none⟩ 1 1 [.int .i32 r] rfl rfl ?c1 ?c2 ?c3 ?c4 ?c5 ?_))
      case c1 => exact cell_one_new _ _ _
      case c2 => simp [Value.oneCell']
      case c3 => unfold maxLen; omega
      case c4 => omega
      case c5 => have := hb1.size; simp; omega
      intro v' w1 hown' hgrow _
      have hk2 := iter_kept (ho1.alloc _) hgrow ((Below.heap_alloc W1 _ _ (by have := Hsz.out; omega)).trans hk1)
      have hown2 := own_snoc hown'
      have hb2 := own_grown hb1 ho1 hgrow
      clear hown' hgrow hk1 ho1
      go_wp2
      go_roundw
      case rel => exact ⟨p2, f, acc ++ [r], hk2, hown2, Lib.hid (by rw [← Ha.out]; simp), by omega, by simp; omega, hb2⟩
      case measure =>
        have hmu2 : w1.iterPos (w.heap.size + 1) = p2 := by simp [World.iterPos, hk2]
        rw [hmu, hmu2]
        omega
    · have hnx := next_done (P := Tryz.prog) hk hp
      have hacc2 := hacc.out
      rw [Rn.runesAt_end bs fuel hp, List.append_nil] at hacc2
      subst hacc2
      clear hk hmu
      go_wp2
      go_ret
      exact ⟨_, rfl, hown, hb⟩
end Go.Proofs.YteimbdklakemaaaGreatDoor
