/-
  PACKAGE ident: May.
-/
import Derived.Test.YtbddhkgbpjhhaaaGreatDoorIdqM
import Derived.Deep.Cut
import Derived.Test.YtbddhkgbpjhhaaaGreatDoorGBase
set_option maxHeartbeats 3200000
set_option maxRecDepth 100000
namespace Go.Proofs.YtbddhkgbpjhhaaaGreatDoor
open Go.RowKit Go.Sort
theorem A2Q (how a b:Int) (w:World) (hC:Chgs w) :
  Calls Tryz.prog 24 #[how,a,b] w fun e w'=>e=.returned (.bool (Id.may how a b))∧Below w w w':=by
 rw[Id.may_tab]
 have key:∀b':Int,b'=(if how=1 then 1 else b)→Calls Tryz.prog 24 #[how,a,b] w fun e w'=>e=.returned (.bool (Id.inTab how a b'))∧Below w w w':=by
  intro b' hb';have HC:=J1 hC;have HI:=J1 A5V;have HE:=J1 A8N;obtain⟨N,hN⟩:∃N:Nat→Prop,N=Id.noTab how a b':=⟨_,rfl⟩;obtain⟨V,hV⟩:∃V:Bool,V=Id.inTab how a b':=⟨_,rfl⟩;obtain⟨F,hF⟩:∃F:Nat→Bool,F=fun j=>((Id.row j).1 == how&&((Id.row j).2.1 == a&&(Id.row j).2.2 == b')):=⟨_,rfl⟩
  have HQ:=J1 (fun(j:Nat) (w:World)=>(HE.out (Id.row j).1 (Id.row j).2.1 (Id.row j).2.2 how a b' w).trans (by rw[hF]:_=Result.ok (.bool (F j)) w))
  have H0:=J1 (show N 0 from by rw[hN];intro i hi;omega)
  have H1:=J1 (show ∀q,N q→F q=false→N (q+1) from fun q h1 h2=>by
   rw[hN]at h1 ⊢;intro i hi
   by_cases e:i=q
   ·subst e;rw[hF]at h2;exact h2
   ·exact h1 i (by omega))
  have H2:=J1 (show ∀q,q<28→F q=true→V=true from fun q h1 h2=>by rw[hV];rw[hF]at h2;exact Id.inTab_at h1 h2)
  have H3:=J1 (show N 28→V=false from fun h=>by rw[hV];rw[hN]at h;exact Id.noTab_end h)
  rw[←hV];clear hC hN hV hF HE
  by_cases h1:how=1
  all_goals
   first | rw[if_pos h1]at hb' | rw[if_neg h1]at hb'
   first | (subst hb';subst h1) | (subst hb';have hf:(how == 1)=false:=by simpa using h1)
   go_enter Tryz.func24,Tryz.ntmps24
   go_upto_region 3 with(fail)
   go_step
   go_step
   refine wp_load_mid 93 _ rfl 0 0 rfl Id.cells _ HC.out Tryz.underlying93 rfl (by kernel_rfl) ?_
   go_wp2_with fail
   go_loopw [12] (fun i wr=>∃q:Nat,q≤28∧i=.int .i64 q∧Hid (N q)∧Below w w wr) (fun i _=>28-(intOf i).toNat)
   case atStart=>exact⟨0,by omega,rfl,H0,Below.refl _ _⟩
   case round =>
    obtain⟨q,hq,rfl,hn,hb⟩:=hrel
    by_cases hlt:q<28
    ·have hi:=HI.out q hlt;have hqe:=HQ.out q
     have i2:(q:Int)<28:=by omega
     have hb2:=J5 hb (J6 wr (Obj.cells #[.int .i64 (Id.row q).1,.int .i64 (Id.row q).2.1,.int .i64 (Id.row q).2.2] 92));have HB:=J1 hb2;have HN:=J1 (H1.out q hn.out);have HY:=J1 (H2.out q hlt);clear hb hb2 hn;generalize F q=t at hqe HN HY;cases t
     ·have hn:=HN.out rfl;have HN1:=J1 hn;clear hn HN HY;go_wp2_with fail
      go_roundw
      case rel=>exact⟨q+1,by omega,by go_num,HN1,HB.out⟩
      case measure=>simp[intOf];omega
     ·have hv:=HY.out rfl;subst hv;clear HN HY;go_wp2_with fail;go_ret;exact⟨rfl,HB.out⟩
    ·obtain rfl:q=28:=by omega
     have hv:=H3.out hn.out;subst hv;have HB:=J1 hb;clear hb hn;go_wp2_with fail;go_ret;exact⟨rfl,HB.out⟩
 exact key _ rfl
end Go.Proofs.YtbddhkgbpjhhaaaGreatDoor
