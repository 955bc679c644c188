/-
  LAID TOGETHER, BY PROGRAM, of: Valb, Valc.
-/
import Derived.Test.YtbddhkgbpjhhaaaGreatDoorGBase
import Derived.Test.YtbddhkgbpjhhaaaGreatDoorShelf
import Derived.Laws.RangeAny
import Derived.Lib.OthersKept
import Derived.Sort.Grow
import Derived.Lib.ItoaLen
import Derived.Deep.DeepCutAuto
import Derived.Deep.CutBlock
import Derived.Laws.IdiomStrings
set_option maxHeartbeats 400000
namespace Go.Proofs.YtbddhkgbpjhhaaaGreatDoor
open Go.RowKit Go.Sort
theorem A57 {P:Program} {w w':World} {B:Nat} {name:String} {cs:Array Value} (h:w.var? P name=some cs) (hb:Below B w w') (hB:w.heap.size≤B):w'.var? P name=some cs:=by
 unfold World.var? at *
 cases hg:P.globalNamed name with
 | none=>simp[hg]at h
 | some g =>
  simp only[hg,Option.bind_some]at h ⊢
  have hlt:g<w.heap.size:=by
   rcases Nat.lt_or_ge g w.heap.size with h' | h'
   ·exact h'
   ·rw[Array.getElem?_eq_none h']at h;simp at h
  rw[hb.block g (C9 hlt hB)];exact h
def Pows (w:World):Prop:=Lib.TabIs Tryz.prog w "internal/strconv.uint64pow10" .u64 Lib.pow10Tab
theorem Pows.below {w w':World} {B:Nat} (h:Pows w) (hb:Below B w w') (hB:w.heap.size≤B):Pows w':=A57 h hb hB
theorem A4r (w:World) (k:Nat) (os:Array Obj):Below w w (grow (w.drewN k) os) :=
 ⟨rfl,rfl,rfl,by simp[grow],fun j hj=>by simp[grow,Array.getElem?_append,hj]⟩
def prt (b:Bool) (n:Int):List UInt8:=if b then Va.nul else Lib.itoa n
theorem A6u (b:Bool) (n:Int) (w:World) (h0:-9223372036854775808≤n) (h1:n≤9223372036854775807) (hP:Pows w) :
  Calls Tryz.prog 157 #[.agg #[b,n]] w fun e w'=>e=.returned (.string ⟨(prt b n).toArray⟩)∧Below w w w':=by
 cases b
 ·have hP1:Pows (w.alloc (Obj.cells #[Value.bool false,Value.int IntKind.i64 n] 53)):=hP.below (J6 w _) (C3 _);have hf:=Tryz.strconv_FormatInt_10 n h0 h1 _ hP1;clear hP hP1 h0 h1;go_enter Tryz.func157,Tryz.ntmps157;go_wp2_with fail;refine hf.mono ?_;rintro e w1 ⟨rfl,k,os,rfl⟩;have hb:=J5 (J6 w (Obj.cells #[Value.bool false,Value.int IntKind.i64 n] 53)) (A4r _ k os);clear hf;generalize grow ((w.alloc (Obj.cells #[Value.bool false,Value.int IntKind.i64 n] 53)).drewN k) os=w1 at hb ⊢
  go_wp2
  go_ret;exact⟨rfl,hb⟩
 ·clear hP h0 h1;go_enter Tryz.func157,Tryz.ntmps157
  go_wp2
  go_ret;exact⟨rfl,J6 _ _⟩
end Go.Proofs.YtbddhkgbpjhhaaaGreatDoor
