/-
  LAID TOGETHER, BY PROGRAM, of: Terma, Termb.
-/
import Derived.Test.YtbddhkgbpjhhaaaGreatDoorRows
import Derived.Test.YtbddhkgbpjhhaaaGreatDoorGPlain
import Derived.Test.YtbddhkgbpjhhaaaGreatDoorGBase
set_option maxHeartbeats 400000
namespace Go.Proofs.YtbddhkgbpjhhaaaGreatDoor
open Go.RowKit
theorem X3 (i n:Int) (w:World) :
  Calls Tryz.prog 186 #[i,n] w fun e w'=>e=.returned (.bool (Te.below i n))∧w=w':=by
 by_cases h:0≤i
 ·have H:=J1 (show Te.below i n=decide (i<n) by unfold Te.below;simp[h])
  go_enter Tryz.func186,Tryz.ntmps186
  go_wp2
  go_ret
  exact⟨J8 (by rw[H.out]),rfl⟩
 ·have H:=J1 (show Te.below i n=false by unfold Te.below;simp[h])
  go_enter Tryz.func186,Tryz.ntmps186
  go_wp2
  go_ret
  exact⟨J8 (by rw[H.out]),rfl⟩
theorem A3Q (k t c:Int) (z:Bool) (n:Int) (w:World) :
  Calls Tryz.prog 163 #[.agg #[k,t,c,z,n]] w fun e w'=>e=.returned (.bool (Te.below t 64&&Te.below c 4))∧Below w w w':=by
 obtain⟨r1,h1⟩:∃r,r=Te.below t 64:=⟨_,rfl⟩;obtain⟨r2,h2⟩:∃r,r=Te.below c 4:=⟨_,rfl⟩;have c1:=fun W=>X3 t 64 W;have c2:=fun W=>X3 c 4 W;rw[←h1]at c1 ⊢;rw[←h2]at c2 ⊢;clear h1 h2;go_enter Tryz.func163,Tryz.ntmps163;cases r1
 ·go_wp2_with (first | (with_reducible refine(c1 _).mono ?_;rintro e w' ⟨rfl,rfl⟩))
  go_ret;exact⟨rfl,J6 _ _⟩
 ·go_wp2_with (first | (with_reducible refine(c1 _).mono ?_;rintro e w' ⟨rfl,rfl⟩) | (with_reducible refine(c2 _).mono ?_;rintro e w' ⟨rfl,rfl⟩))
  go_ret
  exact⟨J8 (by simp),J6 _ _⟩
theorem A0M (k t c:Int) (z:Bool) (n:Int) (w:World) :
  Calls Tryz.prog 143 #[.agg #[k,t,c,z,n]] w fun e w'=>e=.returned (.bool (Te.right ⟨k,t,c,z,n⟩))∧Below w w w':=by
 by_cases h1:k=1
 ·subst h1;obtain⟨W0,hW0⟩:∃W0,W0=w.alloc (Obj.cells #[.int .i64 1,t,c,z,n] 55):=⟨_,rfl⟩
  have l0:Lies W0 w.heap.size 55 [.int .i64 1,t,c,z,n]:=by rw[hW0];exact Lies.new _ _ _
  have hb0:Below w w W0:=by rw[hW0];exact J6 _ _
  have cp:=A3Q 1 t c z n W0;have hr:Te.right ⟨1,t,c,z,n⟩=(Te.below t 64&&Te.below c 4&&!z&&n == 0):=rfl;obtain⟨r,hr1⟩:∃r,r=(Te.below t 64&&Te.below c 4):=⟨_,rfl⟩;rw[←hr1]at cp hr;have HR:=J1 hr;have HW:=J1 hW0;clear hr1 hr hW0;go_enter Tryz.func143,Tryz.ntmps143;go_wp2_with fail;rw[←HW.out];refine cp.mono ?_;rintro e w1 ⟨rfl,hb1⟩;have l1:=l0.below hb1 l0.lt;have hb:Below w w w1:=J5 hb0 hb1;have k0:=l1.c 0 rfl;have k1:=l1.c 1 rfl;have k2:=l1.c 2 rfl;have k3:=l1.c 3 rfl;have k4:=l1.c 4 rfl;have f1:=l1.free 1;have f2:=l1.free 2;clear cp l0 hb0 hb1;cases r
  ·go_wp2_with fail;go_ret
   exact⟨J8 (by rw[HR.out];rfl),hb⟩
  ·cases z
   ·by_cases hn:n=0
    ·subst hn;have cv:=fun W=>A1A false 0 W;go_wp2_with fail;refine(cv _).mono ?_;rintro e w2 ⟨rfl,hb2⟩;have hbs:=(hb.setCell (p:=⟨w.heap.size,1,none⟩) (C3 _) (.int .i64 0)).setCell (p:=⟨w.heap.size,2,none⟩) (C3 _) (.int .i64 0);have hb':=J5 hbs hb2;clear cv hb2 hbs k0 k1 k2 k3 k4 f1 f2 l1;go_wp2_with fail;go_ret
     exact⟨J8 (by rw[HR.out];rfl),hb'⟩
    ·go_wp2_with fail;go_ret
     exact⟨J8 (by rw[HR.out];simp[hn]),hb⟩
   ·go_wp2_with fail;go_ret
    exact⟨J8 (by rw[HR.out];rfl),hb⟩
 by_cases h2:k=2
 ·subst h2
  have HR:=J1 (show Te.right ⟨2,t,c,z,n⟩=(t == 0&&c == 0&&Va.right z n) from rfl)
  clear h1
  by_cases ht:t=0
  ·subst ht
   by_cases hc:c=0
   ·subst hc;have cv:=fun W=>A1A z n W;obtain⟨r,hr1⟩:∃r,r=Va.right z n:=⟨_,rfl⟩;rw[←hr1]at cv;have HR1:=J1 hr1;clear hr1;go_enter Tryz.func143,Tryz.ntmps143;go_wp2_with fail;refine(cv _).mono ?_;rintro e w1 ⟨rfl,hb1⟩;have hb:Below w w w1:=J5 (J6 _ _) hb1;clear cv hb1;go_wp2_with fail;go_ret
    exact⟨J8 (by rw[HR.out,←HR1.out];rfl),hb⟩
   ·go_enter Tryz.func143,Tryz.ntmps143;go_wp2_with fail;go_ret
    exact⟨J8 (by rw[HR.out];simp[hc]),J6 _ _⟩
  ·go_enter Tryz.func143,Tryz.ntmps143;go_wp2_with fail;go_ret
   exact⟨J8 (by rw[HR.out];simp[ht]),J6 _ _⟩
 ·have d1:(k == 1)=false:=by simpa using h1
  have d2:(k == 2)=false:=by simpa using h2
  have H:=J1 (show Te.right ⟨k,t,c,z,n⟩=false by unfold Te.right;rw[if_neg h1];simp[h2])
  clear h1 h2;go_enter Tryz.func143,Tryz.ntmps143;go_wp2_with fail;go_ret;exact⟨J8 H.out.symm,J6 _ _⟩
theorem A0v (k t c:Int) (z:Bool) (n:Int) (w:World) :
  Calls Tryz.prog 167 #[.agg #[k,t,c,z,n]] w fun e w'=>e=.returned (.bool (Te.right ⟨k,t,c,z,n⟩))∧Below w w w':=by
 by_cases h1:k=1
 ·subst h1
  have HR:=J1 (show Te.right ⟨1,t,c,z,n⟩=(Te.below t 64&&Te.below c 4&&!z&&n == 0) from rfl)
  by_cases a1:0≤t
  ·by_cases a2:t≤63
   ·by_cases a3:0≤c
    ·by_cases a4:c≤3
     ·cases z
      ·have H2:=J1 (show(Te.below t 64&&Te.below c 4&&!false&&n == 0)=(n == 0) by rw[Te.below_yes a1 (by omega),Te.below_yes a3 (by omega)];rfl)
       go_enter Tryz.func167,Tryz.ntmps167;go_wp2_with fail;go_ret
       exact⟨J8 (by rw[HR.out,H2.out]),J6 _ _⟩
      ·go_enter Tryz.func167,Tryz.ntmps167;go_wp2_with fail;go_ret
       exact⟨J8 (by rw[HR.out];simp),J6 _ _⟩
     ·have H2:=J1 (Te.below_no (i:=c) (n:=4) (by omega))
      go_enter Tryz.func167,Tryz.ntmps167;go_wp2_with fail;go_ret
      exact⟨J8 (by rw[HR.out,H2.out];simp),J6 _ _⟩
    ·have H2:=J1 (Te.below_no (i:=c) (n:=4) (by omega))
     go_enter Tryz.func167,Tryz.ntmps167;go_wp2_with fail;go_ret
     exact⟨J8 (by rw[HR.out,H2.out];simp),J6 _ _⟩
   ·have H2:=J1 (Te.below_no (i:=t) (n:=64) (by omega))
    go_enter Tryz.func167,Tryz.ntmps167;go_wp2_with fail;go_ret
    exact⟨J8 (by rw[HR.out,H2.out];simp),J6 _ _⟩
  ·have H2:=J1 (Te.below_no (i:=t) (n:=64) (by omega))
   go_enter Tryz.func167,Tryz.ntmps167;go_wp2_with fail;go_ret
   exact⟨J8 (by rw[HR.out,H2.out];simp),J6 _ _⟩
 by_cases h2:k=2
 ·subst h2
  have HR:=J1 (show Te.right ⟨2,t,c,z,n⟩=(t == 0&&c == 0&&Va.right z n) from rfl)
  clear h1
  by_cases ht:t=0
  ·subst ht
   by_cases hc:c=0
   ·subst hc;have cv:=fun W=>A16 z n W;obtain⟨r,hr1⟩:∃r,r=Va.right z n:=⟨_,rfl⟩;rw[←hr1]at cv;have HR1:=J1 hr1;clear hr1;go_enter Tryz.func167,Tryz.ntmps167;go_wp2_with fail;refine(cv _).mono ?_;rintro e w1 ⟨rfl,hb1⟩;have hb:Below w w w1:=J5 (J6 _ _) hb1;clear cv hb1;go_wp2_with fail;go_ret
    exact⟨J8 (by rw[HR.out,←HR1.out];rfl),hb⟩
   ·have d1:(c == 0)=false:=by simpa using hc
    have H2:=J1 hc;clear hc;go_enter Tryz.func167,Tryz.ntmps167;go_wp2_with fail;go_ret
    exact⟨J8 (by rw[HR.out];simp[H2.out]),J6 _ _⟩
  ·have d1:(t == 0)=false:=by simpa using ht
   have H2:=J1 ht;clear ht;go_enter Tryz.func167,Tryz.ntmps167;go_wp2_with fail;go_ret
   exact⟨J8 (by rw[HR.out];simp[H2.out]),J6 _ _⟩
 ·have d1:(k == 1)=false:=by simpa using h1
  have d2:(k == 2)=false:=by simpa using h2
  have H:=J1 (show Te.right ⟨k,t,c,z,n⟩=false by unfold Te.right;rw[if_neg h1];simp[h2])
  clear h1 h2;go_enter Tryz.func167,Tryz.ntmps167;go_wp2_with fail;go_ret;exact⟨J8 H.out.symm,J6 _ _⟩
theorem A2Z (k t c:Int) (z:Bool) (n:Int) (k' t' c':Int) (z':Bool) (n':Int) (w:World) :
  Calls Tryz.prog 185 #[.agg #[k,t,c,z,n],.agg #[k',t',c',z',n']] w fun e w'=>e=.returned (.bool (Te.same ⟨k,t,c,z,n⟩ ⟨k',t',c',z',n'⟩))∧Below w w w':=by
 go_enter Tryz.func185,Tryz.ntmps185;go_wp2_with fail
 all_goals go_ret
 all_goals exact⟨J8 (by simp[Te.same, *]),M8 _ _ _⟩
theorem A8W (w:World) (t:Int) (g:Nat) (hg:w.heap.size=g):Sl (w.alloc (.cells #[t] 3)) (.slice (some ⟨g,0,none⟩) 1 1) ([t].map (Value.int .i64)):=by
 subst hg;exact Sl.new w 3 [t]
theorem A1k (k t c:Int) (z:Bool) (n:Int) (w:World) :
  Calls Tryz.prog 126 #[.agg #[k,t,c,z,n]] w fun e w'=>e=.returned (.int .u64 (Te.tables ⟨k,t,c,z,n⟩:Nat))∧Below w w w':=by
 by_cases h1:k=1
 ·subst h1
  have HR:=J1 (show Te.tables ⟨1,t,c,z,n⟩=St.ofN [t] from rfl)
  have cs:=fun W g hg=>A2A _ [t] _ (A8W W t g hg) (by simp)
  obtain⟨r,hr⟩:∃r,r=St.ofN [t]:=⟨_,rfl⟩;rw[←hr]at cs;have HR1:=J1 hr;clear hr;go_enter Tryz.func126,Tryz.ntmps126;go_wp2_with fail
  refine(cs _ _ (by simp)).mono ?_
  rintro e w1 ⟨rfl,rfl⟩;clear cs;go_wp2_with fail;go_ret
  exact⟨M1 (by rw[HR.out,←HR1.out]),M8 _ _ _⟩
 ·have d1:(k != 1)=true:=by simpa using h1
  have H:=J1 (show Te.tables ⟨k,t,c,z,n⟩=0 from if_neg h1)
  clear h1;go_enter Tryz.func126,Tryz.ntmps126;go_wp2_with fail;go_ret
  exact⟨M1 (by rw[H.out];rfl),J6 _ _⟩
theorem A00 (k t c:Int) (z:Bool) (n:Int) (w:World) :
  Calls Tryz.prog 147 #[.agg #[k,t,c,z,n]] w fun e w'=>e=.returned (.int .u64 (Te.tables ⟨k,t,c,z,n⟩:Nat))∧Below w w w':=by
 by_cases h1:k=1
 ·subst h1
  have HR:=J1 (show Te.tables ⟨1,t,c,z,n⟩=St.ofN [t] from rfl)
  have cs:=fun W g hg=>A6p _ [t] _ (A8W W t g hg) (by simp)
  obtain⟨r,hr⟩:∃r,r=St.ofN [t]:=⟨_,rfl⟩;rw[←hr]at cs;have HR1:=J1 hr;clear hr;go_enter Tryz.func147,Tryz.ntmps147;go_wp2_with fail
  refine(cs _ _ (by simp)).mono ?_
  rintro e w1 ⟨rfl,rfl⟩;clear cs;go_wp2_with fail;go_ret
  exact⟨M1 (by rw[HR.out,←HR1.out]),M8 _ _ _⟩
 ·have d1:(k != 1)=true:=by simpa using h1
  have H:=J1 (show Te.tables ⟨k,t,c,z,n⟩=0 from if_neg h1)
  clear h1;go_enter Tryz.func147,Tryz.ntmps147;go_wp2_with fail;go_ret
  exact⟨M1 (by rw[H.out];rfl),J6 _ _⟩
theorem A6g (v:Value) (rs:List (List Vl)) (i:Int) (w:World) (hv:Rws w v rs) (h:¬(0≤i∧i<rs.length)) :
  Calls Tryz.prog 181 #[v,i] w fun e w'=>e=.returned (.tuple #[(),false])∧w=w':=by
 obtain⟨A,c,rfl,_,_⟩:=hv.at_;have cb:=fun W=>X3 i rs.length W;rw[Te.below_no h]at cb;clear h hv;go_enter Tryz.func181,Tryz.ntmps181
 go_wp2_with (first | (with_reducible refine(cb _).mono ?_;rintro e w' ⟨rfl,rfl⟩))
 go_ret2
 exact⟨rfl,rfl⟩
theorem A49 (v:Value) (rs:List (List Vl)) (r:List Vl) (j:Nat) (w:World) (hv:Rws w v rs) (h:rs[j]?=some r) :
  ∃u,RowAt w u r∧Calls Tryz.prog 181 #[v,(j:Int)] w fun e w'=>e=.returned (.tuple #[u,true])∧w=w':=by
 obtain⟨A,c,rfl,_,hx⟩:=hv.at_
 have hj:j<rs.length:=by
  by_cases hj:j<rs.length
  ·exact hj
  ·rw[E6 (by omega)]at h;cases h
 obtain⟨b,o,p,B,d,rfl,hcell,hd,hrow⟩:=hx j r h;have cb:=fun W=>X3 (j:Int) rs.length W
 rw[Te.below_yes (by omega) (by omega)]at cb
 refine⟨_,hrow,?_⟩;clear h hv hx hrow;go_enter Tryz.func181,Tryz.ntmps181
 go_wp2_with (first | (with_reducible refine(cb _).mono ?_;rintro e w' ⟨rfl,rfl⟩))
 go_ret2
 exact⟨rfl,rfl⟩
theorem A6f (v:Value) (r:List Vl) (i:Int) (w:World) (hv:RowAt w v r) (h:¬(0≤i∧i<r.length)) :
  Calls Tryz.prog 182 #[v,i] w fun e w'=>e=.returned (.tuple #[.agg #[false,z9],false])∧Below w w w':=by
 obtain⟨A,c,rfl,_,_⟩:=hv;have cb:=fun W=>X3 i r.length W;rw[Te.below_no h]at cb;clear h;go_enter Tryz.func182,Tryz.ntmps182
 go_wp2_with (first | (with_reducible refine(cb _).mono ?_;rintro e w' ⟨rfl,rfl⟩))
 exact bodyPost_ret (v:=.tuple #[.agg #[false,z9],false]) (by simp[results,Tryz.results182,go_sem]) rfl ⟨rfl,M8 w _ _⟩
theorem A48 (v:Value) (r:List Vl) (x:Vl) (j:Nat) (w:World) (hv:RowAt w v r) (h:r[j]?=some x) :
  Calls Tryz.prog 182 #[v,(j:Int)] w fun e w'=>e=.returned (.tuple #[.agg #[x.1,x.2],true])∧Below w w w':=by
 obtain⟨A,c,rfl,_,_⟩:=id hv
 have hj:j<r.length:=by
  by_cases hj:j<r.length
  ·exact hj
  ·rw[E6 (by omega)]at h;cases h
 obtain⟨b,o,p,rfl,hlt,hx⟩:=hv.pair h;obtain⟨hc0,hc1⟩:=hx _ (J6 w (.cells #[false,z9] 53));have cb:=fun W=>X3 (j:Int) r.length W
 rw[Te.below_yes (by omega) (by omega)]at cb
 obtain⟨z,n⟩:=x;dsimp only at hc0 hc1;clear h hx hv;go_enter Tryz.func182,Tryz.ntmps182
 go_wp2_with (first | (with_reducible refine(cb _).mono ?_;rintro e w' ⟨rfl,rfl⟩))
 exact bodyPost_ret (v:=.tuple #[.agg #[z,n],true]) (by simp[results,Tryz.results182,go_sem]) rfl ⟨rfl,J6 w _⟩
theorem A5a (v:Value) (rs:List (List Vl)) (t:Int) (w:World) (hv:Rws w v rs) :
  ∃u b r,RowAt w u r∧(∀c,Te.col t c rs=(Te.at_ r c).getD Te.nul)∧Calls Tryz.prog 181 #[v,t] w fun e w'=>e=.returned (.tuple #[u,b])∧w=w':=by
 by_cases ht:0≤t∧t<rs.length
 ·obtain⟨j,r,rfl,_,hj,hr⟩:=Te.at_in rs ht.1 ht.2;obtain⟨u,hu,hc⟩:=A49 v rs r j w hv hj;exact⟨u,true,r,hu,fun c=>Te.col_some hr,hc⟩
 ·exact⟨.slice none 0 0,false,[],RowAt.nil w,fun c=>by rw[Te.col_out ht,Te.at_out [] (by simp only[List.length_nil];omega)];rfl,A6g v rs t w hv ht⟩
theorem A2u (k t c:Int) (z:Bool) (n:Int) (v:Value) (rs:List (List Vl)) (w:World) (hv:Rws w v rs) :
  Calls Tryz.prog 155 #[.agg #[k,t,c,z,n],v] w fun e w'=>e=.returned (.agg #[.bool (Te.val ⟨k,t,c,z,n⟩ rs).1,.int .i64 (Te.val ⟨k,t,c,z,n⟩ rs).2])∧Below w w w':=by
 by_cases h1:k=1
 ·subst h1;obtain⟨W0,hW0⟩:∃W0,W0=(w.alloc (Obj.cells #[.int .i64 1,t,c,z,n] 55)).alloc (Obj.cells #[false,z9] 53):=⟨_,rfl⟩
  have l0:Lies W0 w.heap.size 55 [.int .i64 1,t,c,z,n]:=by rw[hW0];exact(Lies.new _ _ _).alloc _
  have l1:Lies W0 (w.heap.size+1) 53 [false,z9]:=by rw[hW0];have:=Lies.new (w.alloc (Obj.cells #[.int .i64 1,t,c,z,n] 55)) 53 [false,z9];rwa[J2]at this
  have hb0:Below w w W0:=by rw[hW0];exact M8 _ _ _
  obtain⟨u,b,r,hu,hcol,ca⟩:=A5a v rs t W0 (hv.below hb0 (C3 _));have hR:Te.val ⟨1,t,c,z,n⟩ rs=(Te.at_ r c).getD Te.nul:=hcol c;have HW:=J1 hW0;have k0:=l0.c 0 rfl;have k1:=l0.c 1 rfl;have k2:=l0.c 2 rfl;have k3:=l0.c 3 rfl;have k4:=l0.c 4 rfl;rw[hR];clear hW0 hv hcol hR l0
  by_cases hc:0≤c∧c<r.length
  ·obtain⟨j,x,rfl,_,hj,hx⟩:=Te.at_in r hc.1 hc.2;rw[hx];have cb:=A48 u r x j W0 hu hj;obtain⟨y,m⟩:=x;dsimp only[Option.getD]at cb ⊢;clear hc hu hj hx;go_enter Tryz.func155,Tryz.ntmps155;go_wp2_with fail;rw[←HW.out];refine ca.mono ?_;rintro e w1 ⟨rfl,rfl⟩;clear ca;go_wp2_with fail;refine cb.mono ?_;rintro e w2 ⟨rfl,hb2⟩;have l2:=(l1.below hb2 l1.lt).alloc (Obj.cells #[y,m] 53);have q0:=l2.c 0 rfl;have q1:=l2.c 1 rfl;have g0:=l2.free 0;have g1:=l2.free 1;have hbz:Below w w (w2.alloc (Obj.cells #[y,m] 53)):=J5 (J5 hb0 hb2) (J6 _ _);have L2:=J1 l2;clear cb l1 l2 k0 k1 k2 k3 k4 hb0 hb2;go_wp2_with fail;have m0:=(L2.out.set 0 (.bool y)).c 0 rfl;have m1:=((L2.out.set 0 (.bool y)).set 1 (.int .i64 m)).c 1 rfl
   exact bodyPost_ret (v:=.agg #[y,m]) (by simp[results,Tryz.results155,go_sem,m0,m1]) rfl ⟨rfl,(hbz.setCell (p:=⟨w.heap.size+1,0,none⟩) (by simp) _).setCell (p:=⟨w.heap.size+1,1,none⟩) (by simp) _⟩
  ·have cb:=A6f u r c W0 hu hc;rw[Te.at_out r hc];clear hc hu;go_enter Tryz.func155,Tryz.ntmps155;go_wp2_with fail;rw[←HW.out];refine ca.mono ?_;rintro e w1 ⟨rfl,rfl⟩;clear ca;go_wp2_with fail;refine cb.mono ?_;rintro e w2 ⟨rfl,hb2⟩;have l2:=(l1.below hb2 l1.lt).alloc (Obj.cells #[false,z9] 53);have q0:=l2.c 0 rfl;have q1:=l2.c 1 rfl;have g0:=l2.free 0;have g1:=l2.free 1;have hbz:Below w w (w2.alloc (Obj.cells #[false,z9] 53)):=J5 (J5 hb0 hb2) (J6 _ _);have L2:=J1 l2;clear cb l1 l2 k0 k1 k2 k3 k4 hb0 hb2;go_wp2_with fail;have m0:=(L2.out.set 0 (.bool true)).c 0 rfl;have m1:=((L2.out.set 0 (.bool true)).set 1 (.int .i64 0)).c 1 rfl
   exact bodyPost_ret (v:=.agg #[true,z9]) (by simp[results,Tryz.results155,go_sem,m0,m1]) rfl ⟨rfl,(hbz.setCell (p:=⟨w.heap.size+1,0,none⟩) (by simp) _).setCell (p:=⟨w.heap.size+1,1,none⟩) (by simp) _⟩
 ·have hR:Te.val ⟨k,t,c,z,n⟩ rs=(z,n):=Te.val_other h1;rw[hR]
  have d1:(k != 1)=true:=by simpa using h1
  clear h1 hR hv;go_enter Tryz.func155,Tryz.ntmps155;go_wp2_with fail
  exact bodyPost_ret (v:=.agg #[z,n]) (by simp[results,Tryz.results155,go_sem]) rfl ⟨rfl,M8 w _ _⟩
end Go.Proofs.YtbddhkgbpjhhaaaGreatDoor
