/-
  A SIGN OUT OF A TEXT OF SIGNS; A SIGN's PLACE THERE.
-/
import Derived.Test.YteimbdklakemaaaGreatDoorTxaM
namespace Go.Proofs.YteimbdklakemaaaGreatDoor
open Go.RowKit Go.Sort
set_option maxHeartbeats 400000

theorem str_encWith (f : Int → ByteArray) (r : Int) : (⟨(Rn.encWith f r).toArray⟩ : ByteArray) = f r := by
  unfold Rn.encWith
  apply ByteArray.ext
  simp
theorem str_enc (r : Int) : Utf8.encode r = ⟨(Rn.enc r).toArray⟩ := (str_encWith Utf8.encode r).symm

set_option maxRecDepth 100000 in
theorem tsign_any (bs : List UInt8) (i : Nat) (r : Int) (w : World) (hi : i ≤ 1000) (hr : (Rn.runes bs)[i]? = some r) :
    Calls Tryz.prog 55 #[.string ⟨bs.toArray⟩, .int .i64 i] w fun e w' => e = .returned (.string ⟨(Rn.enc r).toArray⟩) ∧ Below w.heap.size w w' := by
  have hk0 : (w.iter ⟨bs.toArray⟩ 0).heap[w.heap.size]? = some (.stringIter ⟨bs.toArray⟩ 0) := World.iter_heap w ⟨bs.toArray⟩ 0
  have hb0 : Below w.heap.size w (w.iter ⟨bs.toArray⟩ 0) := (Below.refl _ w).alloc (Nat.le_refl _) _
  obtain ⟨S, hS⟩ : ∃ S : Value, S = .string ⟨(Rn.enc r).toArray⟩ := ⟨_, rfl⟩
  rw [← hS]
  have HS := Lib.hid hS
  have Hr := Lib.hid hr
  clear hS hr
  go_enter Tryz.func55, Tryz.ntmps55
  go_wp2
  go_loopw [1, 6] (fun v _ wr => ∃ (pos fuel m : Nat), v = .int .i64 m ∧ m ≤ 1000 ∧ wr.heap[w.heap.size]? = some (.stringIter ⟨bs.toArray⟩ pos) ∧ Hid ((Rn.runesAt bs fuel pos)[m]? = some r) ∧ bs.length ≤ pos + fuel ∧ Below w.heap.size w wr) (fun _ _ wr => bs.length - wr.iterPos w.heap.size)
  case atStart => exact ⟨0, bs.length, i, rfl, hi, hk0, Hr, by omega, hb0⟩
  case round =>
    obtain ⟨pos, fuel, m, rfl, hm, hk, hat, hf, hb⟩ := hrel
    clear hk0 hb0
    have hmu : wr.iterPos w.heap.size = pos := by simp [World.iterPos, hk]
    have hp : pos < bs.length := by
      by_cases hp : pos < bs.length
      · exact hp
      · have := hat.out
        rw [Rn.runesAt_end bs fuel hp] at this
        simp at this
    obtain ⟨f, rfl⟩ : ∃ f, fuel = f + 1 := ⟨fuel - 1, by omega⟩
    have hnx := next_rune (P := Tryz.prog) hk hp
    have hwd := Rn.dec_pos hp
    have hat2 := hat.out
    rw [runesAt_on hp] at hat2
    obtain ⟨q, hq⟩ : ∃ q : Int, q = ((Rn.dec bs pos).1 : Int) := ⟨_, rfl⟩
    obtain ⟨p2, hp2⟩ : ∃ p2, p2 = pos + (Rn.dec bs pos).2 := ⟨_, rfl⟩
    rw [← hq, ← hp2] at hnx hat2
    have hk1 := Lib.iterAt_heap wr w.heap.size ⟨bs.toArray⟩ pos p2 hk
    have hb1 : Below w.heap.size w (wr.iterAt w.heap.size ⟨bs.toArray⟩ p2) := Lib.below_iterAt hb (Nat.le_refl _) ⟨bs.toArray⟩ p2
    have hlt2 : p2 > pos := by omega
    clear hat hq hp2 hwd hk
    generalize wr.iterAt w.heap.size ⟨bs.toArray⟩ p2 = W1 at hnx hk1 hb1
    by_cases h0 : m = 0
    · subst h0
      obtain rfl : q = r := by simpa using hat2
      clear hat2
      go_wp2
      go_ret
      exact ⟨by rw [HS.out, str_enc]; rfl, hb1⟩
    · obtain ⟨m', rfl⟩ : ∃ m', m = m' + 1 := ⟨m - 1, by omega⟩
      have Hat := Lib.hid hat2
      have hne : decide (((m' + 1 : Nat) : Int) = 0) = false := by simp; omega
      clear hat2 h0
      go_wp2
      go_roundw
      case rel => exact ⟨p2, f, m', by go_num, by omega, hk1, Lib.hid (by have := Hat.out; simpa using this), by omega, hb1⟩
      case measure =>
        have hmu2 : W1.iterPos w.heap.size = p2 := by simp [World.iterPos, hk1]
        rw [hmu, hmu2]
        omega
theorem place_cons (q c : Int) (l : List Int) : Tx.place (q :: l) c = if q = c then some 0 else (Tx.place l c).map (· + 1) := by
  unfold Tx.place
  rw [List.findIdx?_cons]
  by_cases h : q = c
  · subst h; simp
  · simp [h]
set_option maxRecDepth 100000 in
theorem tplace_any (bs : List UInt8) (c : Int) (w : World) (hs : bs.length ≤ 1000) (R : Option Nat) (hR : R = Tx.place (Rn.runes bs) c) :
    Calls Tryz.prog 86 #[.string ⟨bs.toArray⟩, .int .i32 c] w fun e w' => e = .returned (.tuple #[.int .i64 (R.getD 0 : Nat), .bool R.isSome]) ∧ Below w.heap.size w w' := by
  have hk0 : (w.iter ⟨bs.toArray⟩ 0).heap[w.heap.size]? = some (.stringIter ⟨bs.toArray⟩ 0) := World.iter_heap w ⟨bs.toArray⟩ 0
  have hb0 : Below w.heap.size w (w.iter ⟨bs.toArray⟩ 0) := (Below.refl _ w).alloc (Nat.le_refl _) _
  have HR := Lib.hid hR
  clear hR
  go_enter Tryz.func86, Tryz.ntmps86
  go_wp2
  go_loopw [6, 8] (fun v _ wr => ∃ (pos fuel j : Nat), v = .int .i64 j ∧ j ≤ pos ∧ wr.heap[w.heap.size]? = some (.stringIter ⟨bs.toArray⟩ pos) ∧ Hid (R = (Tx.place (Rn.runesAt bs fuel pos) c).map (· + j)) ∧ bs.length ≤ pos + fuel ∧ Below w.heap.size w wr) (fun _ _ wr => bs.length - wr.iterPos w.heap.size)
  case atStart => exact ⟨0, bs.length, 0, rfl, Nat.le_refl _, hk0, Lib.hid (by rw [HR.out]; simp [Rn.runes]), by omega, hb0⟩
  case round =>
    obtain ⟨pos, fuel, j, rfl, hj, hk, hat, hf, hb⟩ := hrel
    clear hk0 hb0
    have hmu : wr.iterPos w.heap.size = pos := by simp [World.iterPos, hk]
    by_cases hp : pos < bs.length
    · obtain ⟨f, rfl⟩ : ∃ f, fuel = f + 1 := ⟨fuel - 1, by omega⟩
      have hnx := next_rune (P := Tryz.prog) hk hp
      have hwd := Rn.dec_pos hp
      have hat2 := hat.out
      rw [runesAt_on hp, place_cons] at hat2
      obtain ⟨q, hq⟩ : ∃ q : Int, q = ((Rn.dec bs pos).1 : Int) := ⟨_, rfl⟩
      obtain ⟨p2, hp2⟩ : ∃ p2, p2 = pos + (Rn.dec bs pos).2 := ⟨_, rfl⟩
      rw [← hq, ← hp2] at hnx hat2
      have hk1 := Lib.iterAt_heap wr w.heap.size ⟨bs.toArray⟩ pos p2 hk
      have hb1 : Below w.heap.size w (wr.iterAt w.heap.size ⟨bs.toArray⟩ p2) := Lib.below_iterAt hb (Nat.le_refl _) ⟨bs.toArray⟩ p2
      have hlt2 : p2 > pos := by omega
      clear hq hp2 hwd hk
      generalize wr.iterAt w.heap.size ⟨bs.toArray⟩ p2 = W1 at hnx hk1 hb1
      by_cases hc : q = c
      · rw [if_pos hc] at hat2
        have HR2 := Lib.hid hat2
        have hd : (q == c) = true := by simpa using hc
        have Hj := Lib.hid (show R = some j by rw [hat2]; simp)
        clear hat2 hc HR2 hat
        go_wp2
        exact bodyPost_ret (v := .tuple #[.int .i64 j, .bool true]) (by simp [results, Tryz.results86, go_sem]) rfl ⟨by rw [Hj.out]; rfl, hb1⟩
      · rw [if_neg hc] at hat2
        have HR2 := Lib.hid hat2
        have hd : (q == c) = false := by simpa using hc
        clear hat2 hc hat
        go_wp2
        go_roundw
        case rel => exact ⟨p2, f, j + 1, by go_num, by omega, hk1, Lib.hid (by rw [HR2.out]; cases Tx.place (Rn.runesAt bs f p2) c <;> simp; omega), by omega, hb1⟩
        case measure =>
          have hmu2 : W1.iterPos w.heap.size = p2 := by simp [World.iterPos, hk1]
          rw [hmu, hmu2]
          omega
    · have hnx := next_done (P := Tryz.prog) hk hp
      have hat2 := hat.out
      rw [Rn.runesAt_end bs fuel hp] at hat2
      have Hn := Lib.hid (show R = none from hat2)
      clear hk hmu hat hat2
      go_wp2
      exact bodyPost_ret (v := .tuple #[.int .i64 0, .bool false]) (by simp [results, Tryz.results86, go_sem]) rfl ⟨by rw [Hn.out]; rfl, hb⟩
end Go.Proofs.YteimbdklakemaaaGreatDoor
