/-
  LAID TOGETHER, BY PROGRAM, of: Loga, Logb, Logc, Seq.
-/
import Derived.Test.YtbddhkgbpjhhaaaGreatDoorRows
import Derived.Test.YtbddhkgbpjhhaaaGreatDoorGBase
import Derived.Test.YtbddhkgbpjhhaaaGreatDoorGPlain
import Derived.BigQuiet
import Derived.Deep.QuietTactic
import Derived.Lib.QuietBelow
import Derived.Laws.AppendOwnNone
import Derived.OwnWalk
set_option maxHeartbeats 400000
namespace Go.Proofs.YtbddhkgbpjhhaaaGreatDoor
open Go.RowKit
theorem A0B (t:Int) (w:World) :
  Calls Tryz.prog 162 #[t] w fun e w'=>e=.returned (.bool (Lo.known t))∧w=w':=by
 by_cases h:t=0
 ·subst h;go_enter Tryz.func162,Tryz.ntmps162
  go_wp2
  go_ret;exact⟨rfl,rfl⟩
 ·have hb:(t == 0)=false:=by simp[h]
  have H:=J1 h;clear h;go_enter Tryz.func162,Tryz.ntmps162
  go_wp2
  go_ret
  exact⟨J8 (by simp[Lo.known,hb]),rfl⟩
theorem A35 (b:Bool) (w:World) :
  Calls Tryz.prog 192 #[b] w fun e w'=>e=.returned (.int .i64 (if b then 2 else 0))∧w=w':=by
 cases b
 all_goals
  go_enter Tryz.func192,Tryz.ntmps192
  go_wp2
  go_ret;exact⟨rfl,rfl⟩
theorem A2J (t:Int) (w:World) :
  Calls Tryz.prog 176 #[t] w fun e w'=>e=.returned (.int .i64 (Lo.notI t))∧w=w':=by
 by_cases h:t=0
 ·subst h;have hs:∀w,Calls Tryz.prog 162 #[z9] w fun e w'=>e=.returned (.bool true)∧w=w':=A0B 0;go_enter Tryz.func176,Tryz.ntmps176
  go_wp2_with (first | (go_at_call 162;refine(hs _).mono ?_;rintro e w' ⟨rfl,rfl⟩) | (go_at_call 192;refine(A35 true _).mono ?_;rintro e w' ⟨rfl,rfl⟩))
  go_ret;exact⟨rfl,rfl⟩
 ·by_cases h2:t=2
  ·subst h2;have hs:∀w,Calls Tryz.prog 162 #[.int .i64 2] w fun e w'=>e=.returned (.bool true)∧w=w':=A0B 2;clear h;go_enter Tryz.func176,Tryz.ntmps176
   go_wp2_with (first | (go_at_call 162;refine(hs _).mono ?_;rintro e w' ⟨rfl,rfl⟩) | (go_at_call 192;refine(A35 false _).mono ?_;rintro e w' ⟨rfl,rfl⟩))
   go_ret;exact⟨rfl,rfl⟩
  ·have hs:∀w,Calls Tryz.prog 162 #[t] w fun e w'=>e=.returned (.bool false)∧w=w':=by
    have e:Lo.known t=false:=by simp[Lo.known,h,h2]
    rw[←e];exact A0B t
   have H:Hid (Lo.notI t=1):=J1 (by simp[Lo.notI,h,h2])
   clear h h2;go_enter Tryz.func176,Tryz.ntmps176
   go_wp2_with (first | (go_at_call 162;refine(hs _).mono ?_;rintro e w' ⟨rfl,rfl⟩))
   go_ret;exact⟨M1 H.out.symm,rfl⟩
theorem A2i (t:Int) (w:World) :
  Calls Tryz.prog 141 #[t] w fun e w'=>e=.returned (.bool (t == 0||t == 1||t == 2))∧w=w':=by
 by_cases h:t=1
 ·subst h;go_enter Tryz.func141,Tryz.ntmps141
  go_wp2
  go_ret;exact⟨rfl,rfl⟩
 ·have hb:(t == 1)=false:=by simp[h]
  have H:Hid (Lo.known t=(t == 0||t == 1||t == 2)):=J1 (by simp[Lo.known,hb])
  have hs:=A0B t;clear h;go_enter Tryz.func141,Tryz.ntmps141
  go_wp2_with (first | (go_at_call 162;refine(hs _).mono ?_;rintro e w' ⟨rfl,rfl⟩))
  go_ret;exact⟨J8 H.out,rfl⟩
theorem A3S (t s:Int) (b:Nat) (w:World) (hc:w.cell? ⟨b,0,none⟩=some (.int .i64 s)) :
  Calls Tryz.prog 174 #[t,.pointer (some ⟨b,0,none⟩)] w fun e w'=>e=.returned (.bool (t == s))∧w=w':=by
 go_enter Tryz.func174,Tryz.ntmps174
 go_wp2
 go_ret;exact⟨rfl,rfl⟩
theorem A3R (t:Int) (w:World) :
  Calls Tryz.prog 175 #[t] w fun e w'=>e=.returned (.bool (!Lo.known t))∧w=w':=by
 have hs:=A0B t;go_enter Tryz.func175,Tryz.ntmps175
 go_wp2_with (first | (go_at_call 162;refine(hs _).mono ?_;rintro e w' ⟨rfl,rfl⟩))
 go_ret;exact⟨rfl,rfl⟩
theorem A5E (v:Value) (l:List Int) (s:Int) (b:Nat) (w:World) (hv:Sl w v (l.map (Value.int .i64))) (hl:l.length≤9223372036854775807) (hc:w.cell? ⟨b,0,none⟩=some (.int .i64 s)) :
  Calls Tryz.prog 195 #[v,.func (.func 174) #[] #[.pointer (some ⟨b,0,none⟩)]] w fun e w'=>(∃r:Int,e=.returned (.int .i64 r)∧decide (0≤r)=l.any (fun t=>t == s))∧w=w':=by
 obtain⟨A,c,rfl,_,hx⟩:=hv;rw[E0];obtain⟨n,hn⟩:∃n,n=l.length:=⟨_,rfl⟩;rw[←hn]at hl ⊢;have Hn:=J1 hn;have HX:=J1 hx;clear hn hx;go_enter Tryz.func195,Tryz.ntmps195
 go_wp2
 go_loop [8] (fun i=>∃k:Nat,k≤n∧i=.int .i64 k∧Hid ((l.take k).any (fun t=>t == s)=false)) (fun i=>n-(intOf i).toNat)
 case atStart=>exact⟨0,E3 _,rfl,J1 (by simp)⟩
 case round =>
  obtain⟨k,hk,rfl,hno⟩:=hrel
  by_cases hlt:k<n
  ·obtain⟨x,gx⟩:∃x,l[k]?=some x:=⟨l[k]'(by have:=Hn.out;omega),A8 _⟩
   obtain⟨b1,o1,p1,rfl,_,hcell⟩:=HX.out k (.int .i64 x) (by simp[gx])
   have ht:l.take (k+1)=l.take k++[x]:=by rw[D7,gx];rfl
   have Gx:=J1 gx;clear gx;obtain⟨r,hr⟩:∃r,r=(x == s):=⟨_,rfl⟩
   have hs:∀w:World,w.cell? ⟨b,0,none⟩=some (.int .i64 s)→Calls Tryz.prog 174 #[x,.pointer (some ⟨b,0,none⟩)] w fun e w'=>e=.returned (.bool r)∧w=w':=by
    rw[hr];exact fun w hc=>A3S x s b w hc
   have Hr:=J1 hr;have Ht:=J1 ht;clear hr ht
   cases r with
   | true =>
    have hyes:Hid (l.any (fun t=>t == s)=true):=J1 (F4.2 ⟨x,C8 Gx.out,Hr.out.symm⟩)
    go_wp2_with (first | (go_at_call 174;refine(hs _ (by assumption)).mono ?_;rintro e w' ⟨rfl,rfl⟩))
    go_ret
    exact⟨⟨k,rfl,by rw[hyes.out];simp⟩,rfl⟩
   | false =>
    have hno2:Hid ((l.take (k+1)).any (fun t=>t == s)=false):=J1 (by rw[Ht.out,List.any_append,hno.out];simp[←Hr.out])
    go_wp2_with (first | (go_at_call 174;refine(hs _ (by assumption)).mono ?_;rintro e w' ⟨rfl,rfl⟩))
    go_round
    case rel=>exact⟨k+1,by omega,by go_num,hno2⟩
    case measure=>simp[intOf];omega
  ·have hend:Hid (l.any (fun t=>t == s)=false):=J1 (by rw[←hno.out,C7 (by have:=Hn.out;omega)])
   go_wp2
   go_ret
   exact⟨⟨-1,rfl,by rw[hend.out];rfl⟩,rfl⟩
theorem A2W (v:Value) (l:List Int) (s:Int) (b:Nat) (w:World) (hv:Sl w v (l.map (Value.int .i64))) (hl:l.length≤9223372036854775807) (hc:w.cell? ⟨b,0,none⟩=some (.int .i64 s)) :
  Calls Tryz.prog 173 #[v,.func (.func 174) #[] #[.pointer (some ⟨b,0,none⟩)]] w fun e w'=>e=.returned (.bool (l.any (fun t=>t == s)))∧w=w':=by
 have hi:=A5E v l s b w hv hl hc;go_enter Tryz.func173,Tryz.ntmps173
 go_wp2_with (first | (go_at_call 195;refine hi.mono ?_;rintro e w' ⟨⟨r,rfl,hr⟩,rfl⟩))
 go_ret
 exact⟨J8 (by simp),rfl⟩
theorem A5D (v:Value) (l:List Int) (w:World) (hv:Sl w v (l.map (Value.int .i64))) (hl:l.length≤9223372036854775807) :
  Calls Tryz.prog 195 #[v,.func (.func 175) #[] #[]] w fun e w'=>(∃r:Int,e=.returned (.int .i64 r)∧decide (0≤r)=l.any (fun t=>!Lo.known t))∧w=w':=by
 obtain⟨A,c,rfl,_,hx⟩:=hv;rw[E0];obtain⟨n,hn⟩:∃n,n=l.length:=⟨_,rfl⟩;rw[←hn]at hl ⊢;have Hn:=J1 hn;have HX:=J1 hx;clear hn hx;go_enter Tryz.func195,Tryz.ntmps195
 go_wp2
 go_loop [8] (fun i=>∃k:Nat,k≤n∧i=.int .i64 k∧Hid ((l.take k).any (fun t=>!Lo.known t)=false)) (fun i=>n-(intOf i).toNat)
 case atStart=>exact⟨0,E3 _,rfl,J1 (by simp)⟩
 case round =>
  obtain⟨k,hk,rfl,hno⟩:=hrel
  by_cases hlt:k<n
  ·obtain⟨x,gx⟩:∃x,l[k]?=some x:=⟨l[k]'(by have:=Hn.out;omega),A8 _⟩
   obtain⟨b1,o1,p1,rfl,_,hcell⟩:=HX.out k (.int .i64 x) (by simp[gx])
   have ht:l.take (k+1)=l.take k++[x]:=by rw[D7,gx];rfl
   have Gx:=J1 gx;clear gx;obtain⟨r,hr⟩:∃r,r=(!Lo.known x):=⟨_,rfl⟩
   have hs:∀w:World,Calls Tryz.prog 175 #[x] w fun e w'=>e=.returned (.bool r)∧w=w':=by
    rw[hr];exact fun w=>A3R x w
   have Hr:=J1 hr;have Ht:=J1 ht;clear hr ht
   cases r with
   | true =>
    have hyes:Hid (l.any (fun t=>!Lo.known t)=true):=J1 (F4.2 ⟨x,C8 Gx.out,Hr.out.symm⟩)
    go_wp2_with (first | (go_at_call 175;refine(hs _).mono ?_;rintro e w' ⟨rfl,rfl⟩))
    go_ret
    exact⟨⟨k,rfl,by rw[hyes.out];simp⟩,rfl⟩
   | false =>
    have hno2:Hid ((l.take (k+1)).any (fun t=>!Lo.known t)=false):=J1 (by rw[Ht.out,List.any_append,hno.out];simp[←Hr.out])
    go_wp2_with (first | (go_at_call 175;refine(hs _).mono ?_;rintro e w' ⟨rfl,rfl⟩))
    go_round
    case rel=>exact⟨k+1,by omega,by go_num,hno2⟩
    case measure=>simp[intOf];omega
  ·have hend:Hid (l.any (fun t=>!Lo.known t)=false):=J1 (by rw[←hno.out,C7 (by have:=Hn.out;omega)])
   go_wp2
   go_ret
   exact⟨⟨-1,rfl,by rw[hend.out];rfl⟩,rfl⟩
theorem A2V (v:Value) (l:List Int) (w:World) (hv:Sl w v (l.map (Value.int .i64))) (hl:l.length≤9223372036854775807) :
  Calls Tryz.prog 173 #[v,.func (.func 175) #[] #[]] w fun e w'=>e=.returned (.bool (l.any (fun t=>!Lo.known t)))∧w=w':=by
 have hi:=A5D v l w hv hl;go_enter Tryz.func173,Tryz.ntmps173
 go_wp2_with (first | (go_at_call 195;refine hi.mono ?_;rintro e w' ⟨⟨r,rfl,hr⟩,rfl⟩))
 go_ret
 exact⟨J8 (by simp),rfl⟩
theorem A12 (v:Value) (l:List Int) (s:Int) (w:World) (hv:Sl w v (l.map (Value.int .i64))) (hl:l.length≤9223372036854775807) :
  Calls Tryz.prog 151 #[v,s] w fun e w'=>e=.returned (.int .i64 (Lo.settleI l s))∧Below w w w':=by
 obtain⟨W0,hW⟩:∃W0,W0=w.alloc (Obj.cells #[Value.int IntKind.i64 s] 3):=⟨_,rfl⟩
 have hb:Below w w W0:=by rw[hW];exact(Below.refl _ w).alloc (C3 _) _
 have hc:W0.cell? ⟨w.heap.size,0,none⟩=some (.int .i64 s):=by rw[hW];simp
 have hv0:Sl W0 v (l.map (Value.int .i64)):=hv.below hb (C3 _);obtain⟨r1,h1⟩:∃r,r=l.any (fun t=>t == s):=⟨_,rfl⟩;obtain⟨r2,h2⟩:∃r,r=l.any (fun t=>!Lo.known t):=⟨_,rfl⟩
 have c1:Calls Tryz.prog 173 #[v,.func (.func 174) #[] #[.pointer (some ⟨w.heap.size,0,none⟩)]] W0 fun e w'=>e=.returned (.bool r1)∧W0=w':=by
  rw[h1];exact A2W v l s w.heap.size W0 hv0 hl hc
 have c2:Calls Tryz.prog 173 #[v,.func (.func 175) #[] #[]] W0 fun e w'=>e=.returned (.bool r2)∧W0=w':=by
  rw[h2];exact A2V v l W0 hv0 hl
 have c3:=A2J s W0
 have H:Hid (Lo.settleI l s=if r1 then s else if r2 then 1 else Lo.notI s):=J1 (by rw[h1,h2];rfl)
 have HW:=J1 hW;clear h1 h2 hv hv0 hW;go_enter Tryz.func151,Tryz.ntmps151;go_wp2_with fail;rw[←HW.out]
 cases r1 with
 | true =>
  go_wp2_with (first | (with_reducible refine c1.mono ?_;rintro e w' ⟨rfl,rfl⟩))
  go_ret;exact⟨M1 H.out.symm,hb⟩
 | false =>
  cases r2 with
  | true =>
   go_wp2_with (first | (with_reducible refine c1.mono ?_;rintro e w' ⟨rfl,rfl⟩) | (with_reducible refine c2.mono ?_;rintro e w' ⟨rfl,rfl⟩))
   go_ret;exact⟨M1 H.out.symm,hb⟩
  | false =>
   go_wp2_with (first | (with_reducible refine c1.mono ?_;rintro e w' ⟨rfl,rfl⟩) | (with_reducible refine c2.mono ?_;rintro e w' ⟨rfl,rfl⟩) | (with_reducible refine c3.mono ?_;rintro e w' ⟨rfl,rfl⟩))
   go_ret;exact⟨M1 H.out.symm,hb⟩
theorem A2L (v:Value) (l:List Int) (w:World) (hv:Sl w v (l.map (Value.int .i64))) (hl:l.length≤9223372036854775807) :
  Calls Tryz.prog 134 #[v] w fun e w'=>e=.returned (.int .i64 (Lo.andI l))∧Below w w w':=by
 have hs:=A12 v l 0 w hv hl;rw[Lo.settle_and]at hs;clear hv;go_enter Tryz.func134,Tryz.ntmps134
 go_wp2_with (first | (with_reducible refine hs.mono ?_;rintro e w' ⟨rfl,hb⟩))
 go_ret;exact⟨rfl,hb⟩
theorem A34 (v:Value) (l:List Int) (w:World) (hv:Sl w v (l.map (Value.int .i64))) (hl:l.length≤9223372036854775807) :
  Calls Tryz.prog 170 #[v] w fun e w'=>e=.returned (.int .i64 (Lo.orI l))∧Below w w w':=by
 have hs:=A12 v l 2 w hv hl;rw[Lo.settle_or]at hs;clear hv;go_enter Tryz.func170,Tryz.ntmps170
 go_wp2_with (first | (with_reducible refine hs.mono ?_;rintro e w' ⟨rfl,hb⟩))
 go_ret;exact⟨rfl,hb⟩
theorem A4B (w:World) (l:List Int):Sl (w.alloc (.cells (l.map (Value.int .i64)).toArray 3)) (.slice (some ⟨w.heap.size,0,none⟩) l.length l.length) (l.map (Value.int .i64)):=by
 have:=Sl.new w 3 (l.map (Value.int .i64))
 rwa[E0]at this
theorem A6j (w:World):Sl w (.slice none 0 0) (([]:List Int).map (Value.int .i64)):=⟨none,0,rfl,by simp,fun j u hu=>by simp at hu⟩
open Go Go.RowKit
variable {P:Program}
theorem A1H {w w':World} {base:Nat} {e:TypeId} {s:Nat} {v:Value} {n:Nat} {xs:List Value} (h:w.ownsRow base e s v n xs) (hb:Below w w w'):w'.ownsRow base e s v n xs:=by
 refine⟨h.1,?_⟩
 rcases h.2 with hn | ⟨g,cap,cur,rfl,h1,hg,rest⟩
 ·exact .inl hn
 ·exact .inr ⟨g,cap,cur,rfl,h1,(hb.block g (D9.1 hg).1).trans hg,rest⟩
end Go.Proofs.YtbddhkgbpjhhaaaGreatDoor
