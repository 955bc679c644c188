/-
  LAID TOGETHER, BY PROGRAM, of: Shb, Bwr.
-/
import Derived.Test.YtbddhkgbpjhhaaaGreatDoorGBase
import Derived.Shelf.Strings.BuilderRune
import Derived.Sort.Grow
set_option maxHeartbeats 6400000
set_option maxRecDepth 100000
namespace Go.Proofs.YtbddhkgbpjhhaaaGreatDoor
open Go.RowKit
set_option linter.unusedVariables false
theorem Tryz.infoByte12:(Tryz.prog.info? 5).map (fun i=>(i.zero,i.size,i.bytes))=some (some (.int .u8 0),1,1):=by kernel_rfl
theorem Tryz.sizeBuilder12:(Tryz.prog.info? 192).map (·.size)=some 2:=by kernel_rfl
theorem Tryz.liesBuilder12:liesAt Tryz.prog Tryz.prog.depth 192 (2 / Tryz.prog.cellsOf 192) 0 192 1=true:=by kernel_rfl
abbrev Bld (B b:Nat) (bs:List Value) (w:World):Prop:=Lib.IsBuilderF 192 5 B b bs w
abbrev BldAt (B b:Nat) (p:Value) (bs:List Value) (w:World):Prop:=Lib.BuilderAtF 192 5 B b p bs w
abbrev Okp (b:Nat) (w w':World):Prop:=Lib.OthersKept 5 (some b) w w'
theorem A4t (b:Nat) (w:World) (h0:w.cell? ⟨b,0,none⟩=some (.pointer (some ⟨b,0,none⟩))) :
  Calls Tryz.prog 183 #[.pointer (some ⟨b,0,none⟩)] w fun e w'=>e=.returned (.tuple #[])∧w'=w:=by
 obtain⟨j,hj,_⟩:=Option.map_eq_some_iff.1 Tryz.sizeBuilder12;go_enter Tryz.func183,Tryz.ntmps183
 go_wp2
 rw[Lib.run_neq_ptr_same w _ Tryz.underlying189 hj]
 go_wp2
 go_end0
 exact⟨rfl,rfl⟩
theorem A3H (b:Nat) (w:World) (h0:w.cell? ⟨b,0,none⟩=some (.pointer none)) (hsh:w.shape? b=some (192,2)) (hfz:w.frozen? ⟨b,0,none⟩=false) :
  Calls Tryz.prog 183 #[.pointer (some ⟨b,0,none⟩)] w fun e w'=>e=.returned (.tuple #[])∧w'=w.setCell ⟨b,0,none⟩ (.pointer (some ⟨b,0,none⟩)):=by
 obtain⟨j,hj,hjs⟩:=Option.map_eq_some_iff.1 Tryz.sizeBuilder12;go_enter Tryz.func183,Tryz.ntmps183
 go_wp2
 rw[Lib.run_to_unsafe w ⟨b,0,none⟩ Tryz.underlying189 Tryz.underlying230 hj (by rw[hjs];decide) hsh (Nat.zero_lt_succ 1)]
 simp only[Result.andThen];rw[Oper.upon_value]
 go_wp2
 rw[run_callFunc_extern Tryz.func200 (by kernel_rfl) (by kernel_rfl) (by kernel_rfl) (e:=Extern.AbiNoEscape.same) (by kernel_rfl)]
 rw[Lib.run_noEscape];simp only[Result.andThen];rw[Oper.upon_value]
 go_wp2
 rw[Lib.run_from_unsafe w ⟨b,0,none⟩ Tryz.underlying230 Tryz.underlying189 hj hsh Tryz.liesBuilder12];simp only[Result.andThen];rw[Oper.upon_value]
 go_wp2
 go_end0
 exact⟨rfl,rfl⟩
theorem A2p (B b:Nat) (bs:List Value) (w:World) (h:Bld B b bs w) :
  Calls Tryz.prog 183 #[.pointer (some ⟨b,0,none⟩)] w fun e w'=>e=.returned (.tuple #[])∧(BldAt B b (.pointer (some ⟨b,0,none⟩)) bs w'∧Below B w w'∧Okp b w w'):=by
 rcases h with h | h
 ·refine(A3H b w h.cell0 h.shape h.frozen0).mono ?_;rintro e w' ⟨rfl,rfl⟩;exact⟨rfl,h.used _,(Below.refl B w).setCell (p:=⟨b,0,none⟩) h.1 _,(Lib.OthersKept.refl _ _ w).setCell ⟨b,0,none⟩ rfl _⟩
 ·refine(A4t b w h.cell0).mono ?_;rintro e w' ⟨rfl,rfl⟩;exact⟨rfl,h,Below.refl B _,Lib.OthersKept.refl _ _ _⟩
theorem A4q (B b:Nat) (bs:List Value) (s:ByteArray) (w:World) (h:Bld B b bs w) (hlen:bs.length+s.size≤140737488355328) (hBw:B≤w.heap.size) :
  Calls Tryz.prog 156 #[.pointer (some ⟨b,0,none⟩),.string s] w fun e w'=>e=.returned (.tuple #[s.size,.nilIface])∧(BldAt B b (.pointer (some ⟨b,0,none⟩)) (bs++Lib.strCells s) w'∧Below B w w'∧Okp b w w'):=by
 obtain⟨i0,hi,hz0,hz1,hz2⟩:=info_parts Tryz.infoByte12;have ck:=fun w h=>A2p B b bs w h;go_enter Tryz.func156,Tryz.ntmps156
 go_wp2_with (refine(ck _ h).mono ?_)
 rintro e w1 ⟨rfl,h1,hb1,hk1⟩;obtain⟨hB,v,hbk,hown,hne⟩:=h1
 have c0:w1.cell? ⟨b,0,none⟩=some (.pointer (some ⟨b,0,none⟩)):=by rw[Lib.cell_of_heap hbk];rfl
 have c1:w1.cell? ⟨b,1,none⟩=some v:=by rw[Lib.cell_of_heap hbk];rfl
 go_wp2_with (at_builtin;refine Lib.wpList_append_own_stringF _ rfl _ _ 190 9 rfl B 5 i0 Tryz.underlying190 Tryz.underlying9 hi hz0 hz1 hz2 _ _ _ rfl hown s rfl ?c3 ?c4 ?c5 ?_)
 case c3=>unfold maxLen;omega
 case c4=>omega
 case c5=>have:=hb1.size;omega
 intro v' w2 hown' hgrow _
 have hlt:b<w1.heap.size:=by
  rcases Nat.lt_or_ge b w1.heap.size with h' | h'
  ·exact h'
  ·simp[Array.getElem?_eq_none h']at hbk
 have hb2:w2.heap[b]?=some (.cells #[.pointer (some ⟨b,0,none⟩),v] 192 (0,0)):=by
  rw[hgrow.block b hlt (fun e=>hne e.symm)];exact hbk
 have d0:w2.cell? ⟨b,0,none⟩=some (.pointer (some ⟨b,0,none⟩)):=by rw[Lib.cell_of_heap hb2];rfl
 have d1:w2.cell? ⟨b,1,none⟩=some v:=by rw[Lib.cell_of_heap hb2];rfl
 have f1:w2.frozen? ⟨b,1,none⟩=false:=Lib.frozen_of_heap hb2 1
 obtain⟨ao,n',cap,rfl⟩:∃ao n' cap,v'=.slice ao n' cap:=by
  rcases hown'.2 with⟨hv,_⟩ | ⟨g,cap,cur,fz,hv,_⟩
  ·exact⟨_,_,_,hv⟩
  ·exact⟨_,_,_,hv⟩
 go_wp2
 go_ret2
 refine⟨rfl,?_,?_,(hk1.grown hgrow (Lib.ownsRowF_kind hown)).setCell ⟨b,1,none⟩ rfl _⟩
 ·exact Lib.BuilderAtF.put (T:=192) (e:=5) hB hb2 (bs':=bs++Lib.strCells s) (by simpa[Lib.strCells_length]using hown') (by decide)
 ·exact(hb1.grown hgrow (by have:=hb1.size;omega) (fun k hk=>(hown.lt k hk).1)).setCell (p:=⟨b,1,none⟩) hB _
open Go.RowKit Go.Sort Go.Lib
structure Wr (B b:Nat) (bs:List UInt8) (w w':World):Prop where
 bld:Bld B b (byteCells bs) w'
 low:Below B w w'
 okp:Okp b w w'
theorem Wr.trans {B b:Nat} {bs bs':List UInt8} {w w' w'':World} (h:Wr B b bs w w') (k:Wr B b bs' w' w''):Wr B b bs' w w'':=⟨k.bld,h.low.trans k.low,OthersKept.trans h.okp k.okp⟩
theorem Bld.grown {B b:Nat} {bs:List Value} {w w':World} (h:Bld B b bs w) (hb:Below w w w'):Bld B b bs w':=by
 have key:∀p,Lib.BuilderAtF 192 5 B b p bs w→Lib.BuilderAtF 192 5 B b p bs w':=by
  intro p h;have hlt:=h.lt;obtain⟨hB,v,hk,hown,hne⟩:=h
  exact⟨hB,v,(hb.block b hlt).trans hk,hown.kept (row:=none) ⟨hb.os,hb.tape,hb.output,hb.size,fun k hk _=>hb.block k hk⟩ (by cases hv:v.ownBlock <;> simp),hne⟩
 exact h.imp (key _) (key _)
theorem Okp.of {b:Nat} {w w':World} (hb:Below w w w'):Okp b w w':=fun k _ ho _ _=>(hb.block k (D9.1 ho).1).trans ho
theorem Wr.grown {B b:Nat} {bs:List UInt8} {w w' w'':World} (h:Wr B b bs w w') (hB:B≤w'.heap.size) (hb:Below w' w' w''):Wr B b bs w w'' :=
 ⟨h.bld.grown hb,h.low.trans (M9 hb hB),OthersKept.trans h.okp (Okp.of hb)⟩
theorem Wr.refl {B b:Nat} {bs:List UInt8} {w:World} (h:Bld B b (byteCells bs) w):Wr B b bs w w:=⟨h,Below.refl _ _,OthersKept.refl _ _ _⟩
theorem A3O (B b:Nat) (bs s:List UInt8) (w:World) (h:Bld B b (byteCells bs) w) (hlen:bs.length+s.length≤1000000000) (hBw:B≤w.heap.size) :
  Calls Tryz.prog 156 #[.pointer (some ⟨b,0,none⟩),.string ⟨s.toArray⟩] w fun e w'=>(∃n:Nat,e=.returned (.tuple #[n,.nilIface]))∧Wr B b (bs++s) w w':=by
 refine(A4q B b (byteCells bs) ⟨s.toArray⟩ w h (by rw[byteCells_length];show bs.length+s.length≤_;omega) hBw).mono ?_
 rintro e w' ⟨rfl,h1,h2,h3⟩
 exact⟨⟨_,rfl⟩,.inr (by rw[byteCells_append];exact h1),h2,h3⟩
theorem A7x (B b:Nat) (bs:List Value) (c:Int) (w:World) (h:Bld B b bs w) (hlen:bs.length+1≤140737488355328) (hBw:B≤w.heap.size) :
  Calls Tryz.prog 158 #[.pointer (some ⟨b,0,none⟩),.int .u8 c] w fun e w'=>e=.returned .nilIface∧(BldAt B b (.pointer (some ⟨b,0,none⟩)) (bs++[.int .u8 c]) w'∧Below B w w'∧Okp b w w'):=by
 obtain⟨i0,hi,hz0,hz1,hz2⟩:=info_parts Tryz.infoByte12;have ck:=fun w h=>A2p B b bs w h;go_enter Tryz.func158,Tryz.ntmps158
 go_wp2_with (refine(ck _ h).mono ?_)
 rintro e w1 ⟨rfl,h1,hb1,hk1⟩;obtain⟨hB,v,hbk,hown,hne⟩:=h1
 have c0:w1.cell? ⟨b,0,none⟩=some (.pointer (some ⟨b,0,none⟩)):=by rw[Lib.cell_of_heap hbk];rfl
 have c1:w1.cell? ⟨b,1,none⟩=some v:=by rw[Lib.cell_of_heap hbk];rfl
 go_wp2_with (at_builtin;refine wpList_append_ownF _ rfl _ _ 190 rfl B 5 i0 (.int .u8 0) 1 1 Tryz.underlying190 hi hz0 hz1 hz2 rfl (by decide) _ _ _ rfl (hown.alloc _) ⟨w1.heap.size,0,none⟩ 1 1 [.int .u8 c] rfl rfl ?c1 ?c2 ?c3 ?c4 ?c5 ?_)
 case c1 =>
  intro j u hj
  match j,hj with
  | 0,hj=>simp at hj;subst hj;simp[Addr.add]
  | (j+1),hj=>simp at hj
 case c2=>intro u hu;simp at hu;subst hu;rfl
 case c3=>unfold maxLen;omega
 case c4=>omega
 case c5=>have:=hb1.size;simp;omega
 intro v' w2 hown' hgrow _
 have hlt:b<w1.heap.size:=by
  rcases Nat.lt_or_ge b w1.heap.size with h' | h'
  ·exact h'
  ·simp[Array.getElem?_eq_none h']at hbk
 have hb2:w2.heap[b]?=some (.cells #[.pointer (some ⟨b,0,none⟩),v] 192 (0,0)):=by
  rw[hgrow.block b (by simp;omega) (fun e=>hne e.symm),Lib.alloc_old w1 _ b hlt]
  exact hbk
 have d0:w2.cell? ⟨b,0,none⟩=some (.pointer (some ⟨b,0,none⟩)):=by rw[Lib.cell_of_heap hb2];rfl
 have d1:w2.cell? ⟨b,1,none⟩=some v:=by rw[Lib.cell_of_heap hb2];rfl
 have f1:w2.frozen? ⟨b,1,none⟩=false:=Lib.frozen_of_heap hb2 1
 obtain⟨ao,n',cap,rfl⟩:∃ao n' cap,v'=.slice ao n' cap:=by
  rcases hown'.2 with⟨hv,_⟩ | ⟨g,cap,cur,fz,hv,_⟩
  ·exact⟨_,_,_,hv⟩
  ·exact⟨_,_,_,hv⟩
 go_wp2
 go_ret;refine⟨rfl,?_,?_,((hk1.alloc _).grown hgrow (Lib.ownsRowF_kind (hown.alloc _))).setCell ⟨b,1,none⟩ rfl _⟩
 ·exact Lib.BuilderAtF.put (T:=192) (e:=5) hB hb2 (bs':=bs++[.int .u8 c]) (by simpa using hown') (by decide)
 ·exact((hb1.alloc (by have:=hb1.size;omega) _).grown hgrow (by have:=hb1.size;simp;omega) (fun k hk=>(hown.lt k hk).1)).setCell (p:=⟨b,1,none⟩) hB _
theorem A55 (B b:Nat) (bs:List UInt8) (c:UInt8) (w:World) (h:Bld B b (byteCells bs) w) (hlen:bs.length≤1000000000) (hBw:B≤w.heap.size) :
  Calls Tryz.prog 158 #[.pointer (some ⟨b,0,none⟩),.int .u8 (c.toNat:Int)] w fun e w'=>e=.returned .nilIface∧Wr B b (bs++[c]) w w':=by
 refine(A7x B b (byteCells bs) c.toNat w h (by rw[byteCells_length];omega) hBw).mono ?_
 rintro e w' ⟨rfl,h1,h2,h3⟩
 exact⟨rfl,.inr (by rw[byteCells_append];exact h1),h2,h3⟩
theorem A7e (w:World):Bld w.heap.size w.heap.size (Lib.byteCells []) (w.alloc (.cells #[.pointer none,()] 192)) :=
 .inl (Lib.BuilderAtF.of ⟨C3 _,(),heap_alloc_new w _,World.ownsRow_nil _ _ _ _,by simp[Value.ownBlock]⟩)
end Go.Proofs.YtbddhkgbpjhhaaaGreatDoor
