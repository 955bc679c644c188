/-
  LAID TOGETHER, BY PROGRAM, of: Pop, Set, Val, Log, Trm, Prd, Rej, Rjm.
-/
import Derived.Lib.TrailingZeros
import Derived.Lib.ItoaNum
import Derived.Lib.ParseIntBCases
import Derived.Lib.Strings
namespace Go.Proofs.YtbddhkgbpjhhaaaGreatDoor
abbrev A7:=@List.setIfInBounds_toArray
abbrev A8:=@List.getElem?_eq_getElem
abbrev C3:=@Nat.le_refl
abbrev C4:=@List.set_cons_zero
abbrev C5:=@List.set_cons_succ
abbrev C6:=@List.length_append
abbrev C7:=@List.take_of_length_le
abbrev C8:=@List.mem_of_getElem?
abbrev C9:=@Nat.lt_of_lt_of_le
abbrev D4:=@List.append_assoc
abbrev D5:=@Nat.le_trans
abbrev D6:=@List.eq_nil_of_length_eq_zero
abbrev D7:=@List.take_add_one
abbrev D8:=@List.getElem?_eq_some_iff
abbrev D9:=@Array.getElem?_eq_some_iff
abbrev E0:=@List.length_map
abbrev E3:=@Nat.zero_le
abbrev E4:=@List.length_take
abbrev E5:=@List.flatMap_cons
abbrev E6:=@List.getElem?_eq_none
abbrev E7:=@Bool.and_eq_true
abbrev E8:=@List.getElem?_append_right
abbrev E9:=@List.mem_cons_self
abbrev F0:=@Option.some.inj
abbrev F1:=@List.nil_append
abbrev F2:=@List.getElem?_append_left
abbrev F3:=@List.append_nil
abbrev F4:=@List.any_eq_true
abbrev F5:=@List.getElem?_map
abbrev F6:=@List.all_eq_true
abbrev F7:=@List.mem_cons_of_mem
abbrev F8:=@List.take_zero
abbrev F9:=@List.mem_iff_getElem
abbrev G0:=@Array.all_toList
abbrev G3:=@List.mem_append
abbrev G4:=@List.mem_singleton
abbrev G5:=@List.length_cons
abbrev G6:=@Nat.zero_add
abbrev G7:=@Nat.testBit_or
abbrev G8:=@List.cons_append
abbrev G9:=@Classical.byContradiction
abbrev J0:=@And.intro
end Go.Proofs.YtbddhkgbpjhhaaaGreatDoor
namespace Go.Proofs.YtbddhkgbpjhhaaaGreatDoor.St
def pop:Nat→Nat→Nat
 | 0,_=>0
 | k+1,x=>x % 2+pop k (x / 2)
def rep (c:Nat):Nat→Nat
 | 0=>0
 | n+1=>256*rep c n+c
theorem A0h (y M c:Nat) (hc:c<256):y &&& (256*M+c)=256*((y / 256) &&& M)+((y % 256) &&& c):=by
 have h1:(y &&& (256*M+c)) / 2 ^ 8=(y / 2 ^ 8) &&& ((256*M+c) / 2 ^ 8):=Nat.and_div_two_pow ..;have h2:(y &&& (256*M+c)) % 2 ^ 8=(y % 2 ^ 8) &&& ((256*M+c) % 2 ^ 8):=Nat.and_mod_two_pow ..
 have e1:(256*M+c) / 2 ^ 8=M:=by omega
 have e2:(256*M+c) % 2 ^ 8=c:=by omega
 rw[e1]at h1;rw[e2]at h2;have h3:=Nat.div_add_mod (y &&& (256*M+c)) (2 ^ 8);rw[h1,h2]at h3;exact h3.symm
theorem A2F (c n:Nat):rep c (n+1)=256*rep c n+c:=rfl
def s1 (n x:Nat):Nat:=((x / 2) &&& rep 85 n)+(x &&& rep 85 n)
def s2 (n x:Nat):Nat:=((x / 4) &&& rep 51 n)+(x &&& rep 51 n)
def s3 (n x:Nat):Nat:=(x / 16+x) &&& rep 15 n
def g1 (r:Nat):Nat:=((r / 2) &&& 85)+(r &&& 85)
def g2 (r:Nat):Nat:=((r / 4) &&& 51)+(r &&& 51)
theorem m1:∀b,b<2→∀r,r<256→(128*b+r / 2) &&& 85=(r / 2) &&& 85:=by decide +kernel
theorem m2:∀b,b<4→∀r,r<256→(64*b+r / 4) &&& 51=(r / 4) &&& 51:=by decide +kernel
theorem A93:∀r,r<256→g1 r<256:=by decide +kernel
theorem A92:∀r,r<256→g2 (g1 r)≤68∧g2 (g1 r) % 16≤4:=by decide +kernel
theorem B0c:∀r,r<256→g2 (g1 r) / 16+g2 (g1 r) % 16=pop 8 r:=by decide +kernel
theorem B0l (v:Nat):v &&& 15=v % 16:=Nat.and_two_pow_sub_one_eq_mod v 4
theorem A6m (n x:Nat):s1 (n+1) x=256*s1 n (x / 256)+g1 (x % 256):=by
 have h:=m1 (x / 256 % 2) (by omega) (x % 256) (by omega)
 have e1:x / 2 % 256=128*(x / 256 % 2)+x % 256 / 2:=by omega
 have e2:x / 2 / 256=x / 256 / 2:=by omega
 unfold s1 g1;rw[A2F]
 rw[A0h _ _ _ (by omega),A0h _ _ _ (by omega),e1,e2,h]
 omega
theorem A6l (n x:Nat):s2 (n+1) x=256*s2 n (x / 256)+g2 (x % 256):=by
 have h:=m2 (x / 256 % 4) (by omega) (x % 256) (by omega)
 have e1:x / 4 % 256=64*(x / 256 % 4)+x % 256 / 4:=by omega
 have e2:x / 4 / 256=x / 256 / 4:=by omega
 unfold s2 g2;rw[A2F]
 rw[A0h _ _ _ (by omega),A0h _ _ _ (by omega),e1,e2,h]
 omega
theorem A9a (n q r:Nat) (hq:q % 16≤4) (hr:r≤68) (hr2:r % 16≤4):s3 (n+1) (256*q+r)=256*s3 n q+(r / 16+r % 16):=by
 unfold s3
 rw[A2F,A0h _ _ _ (by omega),B0l]
 have e1:((256*q+r) / 16+(256*q+r)) / 256=q / 16+q:=by omega
 have e2:((256*q+r) / 16+(256*q+r)) % 256 % 16=r / 16+r % 16:=by omega
 rw[e1,e2]
def fb (n x:Nat):Nat:=s3 n (s2 n (s1 n x))
theorem B0o (n x:Nat):s2 n (s1 n x) % 16≤4:=by
 cases n with
 | zero=>simp[s2,s1,rep]
 | succ n =>
  have hl:=A93 (x % 256) (by omega)
  have h2:=A92 (x % 256) (by omega)
  rw[A6m,A6l]
  have e:(256*s1 n (x / 256)+g1 (x % 256)) % 256=g1 (x % 256):=by omega
  rw[e];omega
theorem A0g (n x:Nat):fb (n+1) x=256*fb n (x / 256)+pop 8 (x % 256):=by
 have hl:=A93 (x % 256) (by omega)
 have h2:=A92 (x % 256) (by omega)
 unfold fb;rw[A6m,A6l]
 have e:(256*s1 n (x / 256)+g1 (x % 256)) % 256=g1 (x % 256):=by omega
 have e':(256*s1 n (x / 256)+g1 (x % 256)) / 256=s1 n (x / 256):=by omega
 rw[e,e',A9a _ _ _ (B0o _ _) h2.1 h2.2,B0c _ (by omega)]
theorem pop_le:∀(k x:Nat),pop k x≤k
 | 0,_=>C3 _
 | k+1,x=>by have:=pop_le k (x / 2);simp only[pop];omega
theorem A6y:∀(k j x:Nat),pop (k+j) x=pop k x+pop j (x / 2 ^ k)
 | 0,j,x=>by simp[pop]
 | k+1,j,x=>by
  have h:=A6y k j (x / 2)
  have e:k+1+j=(k+j)+1:=by omega
  rw[e];simp only[pop];rw[h,Nat.div_div_eq_div_mul,←Nat.pow_succ',Nat.add_assoc]
theorem A6x:∀(k x:Nat),pop k (x % 2 ^ k)=pop k x
 | 0,_=>rfl
 | k+1,x=>by
  have h:=A6x k (x / 2);simp only[pop]
  have e1:x % 2 ^ (k+1) % 2=x % 2:=Nat.mod_mod_of_dvd _ ⟨2 ^ k,by rw[Nat.pow_succ']⟩
  have e2:x % 2 ^ (k+1) / 2=x / 2 % 2 ^ k:=by rw[Nat.pow_succ',Nat.mod_mul_right_div_self]
  rw[e1,e2,h]
def oc4 (x:Nat):Nat:=x+x / 256
def oc5 (x:Nat):Nat:=x+x / 65536
def oc6 (x:Nat):Nat:=x+x / 4294967296
theorem B0r (T a:Nat) (h:a<256):(256*T+a) / 256=T:=by omega
theorem B0q (T a b:Nat) (h:a<256) (g:b<256):(256*(256*T+b)+a) / 65536=T:=by omega
theorem B0p (T a b c d:Nat) (h:a<256) (g:b<256) (i:c<256) (j:d<256):(256*(256*(256*(256*T+d)+c)+b)+a) / 4294967296=T:=by omega
theorem B0n (T a:Nat) (h:a<128):(256*T+a) % 128=a:=by omega
theorem A9W (c0 c1 c2 c3 c4 c5 c6 c7:Nat) (h0:c0≤8) :
  oc4 (256*(256*(256*(256*(256*(256*(256*c7+c6)+c5)+c4)+c3)+c2)+c1)+c0) =
   256*(256*(256*(256*(256*(256*(256*c7+(c6+c7))+(c5+c6))+(c4+c5))+(c3+c4))+(c2+c3))+(c1+c2))+(c0+c1):=by
 unfold oc4
 rw[B0r _ _ (by omega)]
 omega
theorem A9V (c0 c1 c2 c3 c4 c5 c6 c7:Nat) (h0:c0≤16) (h1:c1≤16) :
  oc5 (256*(256*(256*(256*(256*(256*(256*c7+c6)+c5)+c4)+c3)+c2)+c1)+c0) =
   256*(256*(256*(256*(256*(256*(256*c7+c6)+(c5+c7))+(c4+c6))+(c3+c5))+(c2+c4))+(c1+c3))+(c0+c2):=by
 unfold oc5
 rw[B0q _ _ _ (by omega) (by omega)]
 omega
theorem A9U (c0 c1 c2 c3 c4 c5 c6 c7:Nat) (h0:c0≤32) (h1:c1≤32) (h2:c2≤32) (h3:c3≤32) :
  oc6 (256*(256*(256*(256*(256*(256*(256*c7+c6)+c5)+c4)+c3)+c2)+c1)+c0) =
   256*(256*(256*(256*(256*(256*(256*c7+c6)+c5)+c4)+(c3+c7))+(c2+c6))+(c1+c5))+(c0+c4):=by
 unfold oc6
 rw[B0p _ _ _ _ _ (by omega) (by omega) (by omega) (by omega)]
 omega
theorem B0m (c0 c1 c2 c3 c4 c5 c6 c7 x:Nat) (h0:c0≤8) (h1:c1≤8) (h2:c2≤8) (h3:c3≤8) (h4:c4≤8) (h5:c5≤8) (h6:c6≤8) (h7:c7≤8)
  (hx:x=256*(256*(256*(256*(256*(256*(256*c7+c6)+c5)+c4)+c3)+c2)+c1)+c0) :
  x≤650000000000000000∧oc4 x≤1300000000000000000∧oc5 (oc4 x)≤2600000000000000000∧oc6 (oc5 (oc4 x))≤5200000000000000000∧oc6 (oc5 (oc4 x)) % 128=c0+c1+c2+c3+c4+c5+c6+c7:=by
 subst hx
 rw[A9W _ _ _ _ _ _ _ _ h0,A9V _ _ _ _ _ _ _ _ (by omega) (by omega),A9U _ _ _ _ _ _ _ _ (by omega) (by omega) (by omega) (by omega),B0n _ _ (by omega)]
 exact⟨by omega,by omega,by omega,by omega,by omega⟩
theorem A9r (x:Nat):fb 0 x=0:=by simp[fb,s3,rep]
theorem ones_math (x:Nat):fb 8 x≤650000000000000000∧oc4 (fb 8 x)≤1300000000000000000∧oc5 (oc4 (fb 8 x))≤2600000000000000000∧oc6 (oc5 (oc4 (fb 8 x)))≤5200000000000000000 ∧
  oc6 (oc5 (oc4 (fb 8 x))) % 128=pop 64 x:=by
 have hp:pop 64 x=pop 8 (x % 256)+pop 8 (x / 256 % 256)+pop 8 (x / 256 / 256 % 256)+pop 8 (x / 256 / 256 / 256 % 256)+pop 8 (x / 256 / 256 / 256 / 256 % 256) +
   pop 8 (x / 256 / 256 / 256 / 256 / 256 % 256)+pop 8 (x / 256 / 256 / 256 / 256 / 256 / 256 % 256)+pop 8 (x / 256 / 256 / 256 / 256 / 256 / 256 / 256 % 256):=by
  have hm:∀y,pop 8 (y % 256)=pop 8 y:=fun y=>A6x 8 y;rw[hm,hm,hm,hm,hm,hm,hm,hm];have ha:∀j y,pop (8+j) y=pop 8 y+pop j (y / 256):=fun j y=>A6y 8 j y
  rw[show 64=8+(8+(8+(8+(8+(8+(8+8)))))) from rfl,ha,ha,ha,ha,ha,ha,ha]
  omega
 rw[hp];refine B0m _ _ _ _ _ _ _ _ _ (pop_le 8 _) (pop_le 8 _) (pop_le 8 _) (pop_le 8 _) (pop_le 8 _) (pop_le 8 _) (pop_le 8 _) (pop_le 8 _) ?_;rw[A0g,A0g,A0g,A0g,A0g,A0g,A0g,A0g,A9r,Nat.mul_zero,G6]
theorem rep85:rep 85 8=6148914691236517205:=by decide
theorem rep51:rep 51 8=3689348814741910323:=by decide
theorem rep15:rep 15 8=1085102592571150095:=by decide
end Go.Proofs.YtbddhkgbpjhhaaaGreatDoor.St
namespace Go.Proofs.YtbddhkgbpjhhaaaGreatDoor.St
open Go
theorem A83 {s i:Nat} (h:s<18446744073709551616) (hi:64≤i):s.testBit i=false :=
 Nat.testBit_lt_two_pow (C9 h (show(18446744073709551616:Nat)≤2 ^ i from Nat.pow_le_pow_right (n:=2) (i:=64) (by decide) hi))
theorem A0i {a b:Nat} (ha:a<18446744073709551616) (hb:b<18446744073709551616) (h:∀j,j<64→a.testBit j=b.testBit j):a=b:=by
 apply Nat.eq_of_testBit_eq
 intro j
 by_cases hj:j<64
 ·exact h j hj
 ·rw[A83 ha (by omega),A83 hb (by omega)]
def membTo (k s:Nat):List Nat:=(List.range k).filter fun i=>s.testBit i
def memb (s:Nat):List Nat:=membTo 64 s
theorem A33 (k s:Nat):membTo (k+1) s=(if s % 2=1 then [0]else [])++(membTo k (s / 2)).map (·+1):=by
 have hm:(List.map Nat.succ (List.range k)).filter (fun i=>s.testBit i)=(membTo k (s / 2)).map (·+1):=by
  unfold membTo;rw[List.filter_map]
  congr 1
  apply List.filter_congr
  intro i _
  simp[Nat.testBit_succ]
 unfold membTo at hm ⊢;rw[List.range_succ_eq_map,List.filter_cons,hm]
 by_cases h:s % 2=1 <;> simp[Nat.testBit_zero,h]
theorem A0G:∀(k s:Nat),(membTo k s).length=pop k s
 | 0,_=>rfl
 | k+1,s=>by
  rw[A33,C6,E0,A0G k (s / 2)]
  have:s % 2=0∨s % 2=1:=by omega
  rcases this with h | h <;> simp[h,pop]
theorem memb_length (s:Nat):(memb s).length=pop 64 s:=A0G 64 s
theorem mem_memb {s j:Nat}:j∈memb s↔j<64∧s.testBit j=true:=by simp[memb,membTo]
def clear (s c:Nat):Nat:=s &&& (18446744073709551615-2 ^ c)
theorem A1m (b j:Nat) (hb:b<18446744073709551616):(18446744073709551615-b).testBit j=(decide (j<64)&&!b.testBit j):=by
 have e:18446744073709551615-b=2 ^ 64-(b+1):=by omega
 rw[e,Nat.testBit_two_pow_sub_succ (by simpa using hb)]
theorem A2x (s c j:Nat) (hc:c<64):(clear s c).testBit j=(s.testBit j&&(decide (j<64)&&!decide (c=j))):=by
 have hlt:2 ^ c<18446744073709551616:=Nat.pow_lt_pow_right (a:=2) (m:=c) (n:=64) (by decide) hc
 unfold clear;rw[Nat.testBit_and,A1m _ _ hlt,Nat.testBit_two_pow]
theorem clear_lt (s c:Nat):clear s c<18446744073709551616:=Nat.and_lt_two_pow (n:=64) _ (Nat.lt_of_le_of_lt (Nat.sub_le _ _) (by decide))
theorem A06 (p q:Nat→Bool) (c:Nat) (hp:p c=true) (hl:∀j,j<c→p j=false) (hq:∀j,q j=(p j&&!decide (c=j))) :
  ∀n,c<n→(List.range n).filter p=c::(List.range n).filter q
 | 0,h=>by omega
 | n+1,h=>by
  rw[List.range_succ,List.filter_append,List.filter_append]
  by_cases hc:c=n
  ·subst hc
   have h1:(List.range c).filter p=[]:=by
    rw[List.filter_eq_nil_iff];intro a ha;simp[hl a (List.mem_range.1 ha)]
   have h2:(List.range c).filter q=[]:=by
    rw[List.filter_eq_nil_iff];intro a ha;simp[hq,hl a (List.mem_range.1 ha)]
   rw[h1,h2]
   simp[hp,hq]
  ·rw[A06 p q c hp hl hq n (by omega)]
   have hn:q n=p n:=by simp[hq,hc]
   simp[List.filter_cons,hn]
theorem ctz_bit {s:Nat} (h0:s≠0) (hs:s<18446744073709551616):Lib.ctz 64 s<64∧s.testBit (Lib.ctz 64 s)=true∧∀j,j<Lib.ctz 64 s→s.testBit j=false:=by
 have he:Lib.ctz 64 s=Lib.ctzFrom 64 s:=by unfold Lib.ctz;rw[if_neg h0]
 obtain⟨m,hm,hk⟩:=Lib.ctzFrom_spec 64 s (by omega) hs
 rw[he];generalize Lib.ctzFrom 64 s=c at *;refine⟨hk,?_,?_⟩
 ·rw[hm,Nat.mul_comm,Nat.testBit_mul_two_pow]
  simp
 ·intro j hj;rw[hm,Nat.mul_comm,Nat.testBit_mul_two_pow]
  simp;omega
theorem memb_cons {s:Nat} (h0:s≠0) (hs:s<18446744073709551616):memb s=Lib.ctz 64 s::memb (clear s (Lib.ctz 64 s)):=by
 obtain⟨h1,h2,h3⟩:=ctz_bit h0 hs
 have hq:∀j,j<64→(clear s (Lib.ctz 64 s)).testBit j=(s.testBit j&&!decide (Lib.ctz 64 s=j)):=by
  intro j hj;rw[A2x _ _ _ h1];simp[hj]
 unfold memb membTo;rw[A06 (fun i=>s.testBit i) (fun i=>s.testBit i&&!decide (Lib.ctz 64 s=i)) _ h2 h3 (fun _=>rfl) 64 h1]
 congr 1
 apply List.filter_congr
 intro i hi;rw[hq i (List.mem_range.1 hi)]
theorem memb_zero:memb 0=[]:=by
 rw[List.eq_nil_iff_forall_not_mem];intro a ha;have:=(mem_memb.1 ha).2
 simp at this
def minI (s:Nat):Int:=if s=0 then -1 else(Lib.ctz 64 s:Nat)
def setTo (p:Nat→Bool):Nat→Nat
 | 0=>0
 | k+1=>if p k then setTo p k+2 ^ k else setTo p k
theorem setTo_lt (p:Nat→Bool):∀k,setTo p k<2 ^ k
 | 0=>by simp[setTo]
 | k+1=>by
  have h:=setTo_lt p k;unfold setTo;rw[Nat.pow_succ]
  split <;> omega
theorem Y8 (p:Nat→Bool) (j:Nat):∀k,(setTo p k).testBit j=(decide (j<k)&&p j)
 | 0=>by simp[setTo]
 | k+1=>by
  have hl:=setTo_lt p k;have ih:=Y8 p j k;unfold setTo
  by_cases hp:p k=true
  ·have ho:=Nat.two_pow_add_eq_or_of_lt hl 1;rw[Nat.mul_one]at ho;rw[if_pos hp,Nat.add_comm,ho,G7,ih,Nat.testBit_two_pow]
   by_cases hjk:k=j
   ·subst hjk;simp[hp]
   ·have:decide (j<k+1)=decide (j<k):=by rw[decide_eq_decide];omega
    simp[hjk,this]
  ·rw[if_neg hp,ih]
   by_cases hjk:k=j
   ·subst hjk;simp at hp;simp[hp]
   ·have:decide (j<k+1)=decide (j<k):=by rw[decide_eq_decide];omega
    rw[this]
def ofN (l:List Int):Nat:=setTo (fun j=>decide ((j:Int)∈l)) 64
theorem ofN_lt (l:List Int):ofN l<18446744073709551616:=setTo_lt _ 64
theorem testBit_ofN (l:List Int) (j:Nat):(ofN l).testBit j=(decide (j<64)&&decide ((j:Int)∈l)):=Y8 _ j 64
theorem ofN_nil:ofN []=0:=by
 apply A0i (ofN_lt _) (by decide);intro j hj;rw[testBit_ofN];simp
theorem ofN_snoc_out (l:List Int) (i:Int) (h:¬(0≤i∧i≤63)):ofN (l++[i])=ofN l:=by
 apply A0i (ofN_lt _) (ofN_lt _);intro j hj
 rw[testBit_ofN,testBit_ofN]
 have:(j:Int)≠i:=by omega
 simp[this]
theorem ofN_snoc_in (l:List Int) (i:Int) (h0:0≤i) (h1:i≤63):ofN (l++[i])=ofN l ||| 2 ^ i.toNat:=by
 have h2:2 ^ i.toNat<2 ^ 64:=Nat.pow_lt_pow_right (by decide) (by omega)
 apply A0i (ofN_lt _) (Nat.or_lt_two_pow (n:=64) (ofN_lt _) h2);intro j hj
 rw[G7,testBit_ofN,testBit_ofN,Nat.testBit_two_pow]
 have e:decide (i.toNat=j)=decide ((j:Int)=i):=by rw[decide_eq_decide];omega
 rw[e];simp[hj]
def belowN (i:Int):Nat:=setTo (fun j=>decide ((j:Int)≤i)) 64
theorem belowN_lt (i:Int):belowN i<18446744073709551616:=setTo_lt _ 64
theorem testBit_belowN (i:Int) (j:Nat):(belowN i).testBit j=(decide (j<64)&&decide ((j:Int)≤i)):=Y8 _ j 64
theorem belowN_neg (i:Int) (h:i<0):belowN i=0:=by
 apply A0i (belowN_lt _) (by decide);intro j hj;rw[testBit_belowN]
 have:¬(j:Int)≤i:=by omega
 simp[this]
theorem A4K (j:Nat):(18446744073709551615:Nat).testBit j=decide (j<64):=by
 have:=A1m 0 j (by decide)
 simpa using this
theorem belowN_high (i:Int) (h:63≤i):belowN i=18446744073709551615:=by
 apply A0i (belowN_lt _) (by decide);intro j hj;rw[testBit_belowN,A4K]
 have:(j:Int)≤i:=by omega
 simp[this]
theorem belowN_mid (i:Int) (h0:0≤i) (h:i≤63):belowN i=18446744073709551615 / 2 ^ (63-i).toNat:=by
 apply A0i (belowN_lt _) (Nat.lt_of_le_of_lt (Nat.div_le_self _ _) (by decide));intro j hj
 rw[testBit_belowN,Nat.testBit_div_two_pow,A4K]
 simp[hj];omega
def hasB (s:Nat) (i:Int):Bool:=decide (0≤i)&&(decide (i≤63)&&s.testBit i.toNat)
end Go.Proofs.YtbddhkgbpjhhaaaGreatDoor.St
namespace Va
open Go.Lib
def nul:List UInt8:=[226,136,133]
def right (b:Bool) (n:Int):Bool:=!b||n == 0
def same (b:Bool) (n:Int) (c:Bool) (m:Int):Bool:=(b&&c)||(!b&&!c&&n == m)
def less (b:Bool) (n:Int) (c:Bool) (m:Int):Bool:=(b&&!c)||(!b&&!c&&decide (n<m))
def place (b:Bool) (n:Int) (c:Bool) (m:Int):Nat:=if less b n c m then 0 else if less c m b n then 2 else 1
def want (q p:Nat):Bool:=match q,p with
 | 1,1=>true | 2,0=>true | 2,2=>true | 3,0=>true | 4,0=>true | 4,1=>true | 5,2=>true | 6,1=>true | 6,2=>true
 | _,_=>false
def truth (b:Bool):Int:=if b then 2 else 0
def comp (o:Int) (b:Bool) (n:Int) (c:Bool) (m:Int):Int :=
 if b||c then 1 else if o=1 then truth (n == m)else if o=2 then truth (n != m)else if o=3 then truth (decide (n<m))else if o=4 then truth (decide (n≤m))
  else if o=5 then truth (decide (m<n))else if o=6 then truth (decide (m≤n))else 1
theorem place_lt (b:Bool) (n:Int) (c:Bool) (m:Int):place b n c m<3:=by
 unfold place
 by_cases h:less b n c m=true
 ·rw[if_pos h];omega
 ·rw[if_neg h];split <;> omega
theorem comp_null {o:Int} {b:Bool} {n:Int} {c:Bool} {m:Int} (h:(b||c)=true):comp o b n c m=1:=by unfold comp;rw[if_pos h]
theorem comp_out {o:Int} {b:Bool} {n:Int} {c:Bool} {m:Int} (h:o<1∨6<o):comp o b n c m=1:=by
 unfold comp
 split
 ·rfl
 ·rw[if_neg (by omega),if_neg (by omega),if_neg (by omega),if_neg (by omega),if_neg (by omega),if_neg (by omega)]
theorem place_num (n m:Int):place false n false m=if n<m then 0 else if m<n then 2 else 1:=by simp[place,less]
theorem comp_want (q:Nat) (h1:1≤q) (h6:q≤6) (n m:Int):comp (q:Int) false n false m=truth (want q (place false n false m)):=by
 rw[place_num]
 have hq:q=1∨q=2∨q=3∨q=4∨q=5∨q=6:=by omega
 by_cases h:n<m
 ·rw[if_pos h]
  have a1:(n == m)=false:=by simp;omega
  have a2:(n != m)=true:=by simp;omega
  have a3:decide (n<m)=true:=by simp;omega
  have a4:decide (n≤m)=true:=by simp;omega
  have a5:decide (m<n)=false:=by simp;omega
  have a6:decide (m≤n)=false:=by simp;omega
  rcases hq with rfl | rfl | rfl | rfl | rfl | rfl <;> simp only[comp,a1,a2,a3,a4,a5,a6] <;> rfl
 ·rw[if_neg h]
  by_cases h':m<n
  ·rw[if_pos h']
   have a1:(n == m)=false:=by simp;omega
   have a2:(n != m)=true:=by simp;omega
   have a3:decide (n<m)=false:=by simp;omega
   have a4:decide (n≤m)=false:=by simp;omega
   have a5:decide (m<n)=true:=by simp;omega
   have a6:decide (m≤n)=true:=by simp;omega
   rcases hq with rfl | rfl | rfl | rfl | rfl | rfl <;> simp only[comp,a1,a2,a3,a4,a5,a6] <;> rfl
  ·rw[if_neg h']
   obtain rfl:n=m:=by omega
   have a1:(n == n)=true:=by simp
   have a2:(n != n)=false:=by simp
   have a3:decide (n<n)=false:=by simp
   have a4:decide (n≤n)=true:=by simp
   rcases hq with rfl | rfl | rfl | rfl | rfl | rfl <;> simp only[comp,a1,a2,a3,a4] <;> rfl
end Va
namespace Go.Proofs.YtbddhkgbpjhhaaaGreatDoor
namespace Lo
def notI (t:Int):Int:=if t=0 then 2 else if t=2 then 0 else 1
def andI (l:List Int):Int:=if 0∈l then 0 else if ∀t∈l,t=2 then 2 else 1
def orI (l:List Int):Int:=if 2∈l then 2 else if ∀t∈l,t=0 then 0 else 1
def known (t:Int):Bool:=t == 0||t == 2
theorem notI_cases (t:Int):notI t=0∨notI t=1∨notI t=2:=by
 unfold notI
 split
 ·omega
 ·split <;> omega
theorem andI_cases (l:List Int):andI l=0∨andI l=1∨andI l=2:=by
 unfold andI
 split
 ·omega
 ·split <;> omega
theorem orI_cases (l:List Int):orI l=0∨orI l=1∨orI l=2:=by
 unfold orI
 split
 ·omega
 ·split <;> omega
theorem andI_nil:andI []=2:=by simp[andI]
theorem orI_nil:orI []=0:=by simp[orI]
theorem andI_zero {l:List Int} (h:0∈l):andI l=0:=by unfold andI;rw[if_pos h]
theorem andI_two {l:List Int} (h:∀t∈l,t=2):andI l=2:=by
 have h0:¬0∈l:=fun hm=>by have:=h 0 hm;omega
 unfold andI;rw[if_neg h0,if_pos h]
theorem andI_one {l:List Int} (h0:¬0∈l) (h:¬∀t∈l,t=2):andI l=1:=by unfold andI;rw[if_neg h0,if_neg h]
theorem orI_two {l:List Int} (h:2∈l):orI l=2:=by unfold orI;rw[if_pos h]
theorem orI_zero {l:List Int} (h:∀t∈l,t=0):orI l=0:=by
 have h0:¬2∈l:=fun hm=>by have:=h 2 hm;omega
 unfold orI;rw[if_neg h0,if_pos h]
theorem A6P {l:List Int} (h0:¬2∈l) (h:¬∀t∈l,t=0):orI l=1:=by unfold orI;rw[if_neg h0,if_neg h]
theorem andI_eq0 {l:List Int}:andI l=0↔0∈l:=by
 unfold andI
 by_cases h:0∈l
 ·simp[h]
 ·rw[if_neg h]
  constructor
  ·intro e;split at e <;> omega
  ·intro e;exact absurd e h
theorem andI_eq2 {l:List Int}:andI l=2↔∀t∈l,t=2:=by
 constructor
 ·intro e
  apply G9
  intro hn
  by_cases h:0∈l
  ·rw[andI_zero h]at e;omega
  ·rw[andI_one h hn]at e;omega
 ·exact andI_two
theorem orI_eq2 {l:List Int}:orI l=2↔2∈l:=by
 unfold orI
 by_cases h:2∈l
 ·simp[h]
 ·rw[if_neg h]
  constructor
  ·intro e;split at e <;> omega
  ·intro e;exact absurd e h
theorem orI_eq0 {l:List Int}:orI l=0↔∀t∈l,t=0:=by
 constructor
 ·intro e
  apply G9
  intro hn
  by_cases h:2∈l
  ·rw[orI_two h]at e;omega
  ·rw[A6P h hn]at e;omega
 ·exact orI_zero
def settleI (l:List Int) (s:Int):Int:=if l.any (fun t=>t == s)then s else if l.any (fun t=>!known t)then 1 else notI s
theorem settle_and (l:List Int):settleI l 0=andI l:=by
 unfold settleI
 by_cases h0:0∈l
 ·rw[andI_zero h0,if_pos (by simp[h0])]
 ·rw[if_neg (by simpa using h0)]
  by_cases h:∀t∈l,t=2
  ·rw[andI_two h,if_neg]
   ·rfl
   ·simp only[Bool.not_eq_true,List.any_eq_false];intro t ht;rw[h t ht];decide
  ·rw[andI_one h0 h,if_pos];simp only[F4]
   apply G9
   intro hn
   apply h
   intro t ht
   apply G9
   intro h2
   apply hn
   exact⟨t,ht,by
    have:t≠0:=fun e=>h0 (e ▸ ht)
    simp[known,this,h2]⟩
theorem settle_or (l:List Int):settleI l 2=orI l:=by
 unfold settleI
 by_cases h0:2∈l
 ·rw[orI_two h0,if_pos (by simp[h0])]
 ·rw[if_neg (by simpa using h0)]
  by_cases h:∀t∈l,t=0
  ·rw[orI_zero h,if_neg]
   ·rfl
   ·simp only[Bool.not_eq_true,List.any_eq_false];intro t ht;rw[h t ht];decide
  ·rw[A6P h0 h,if_pos];simp only[F4]
   apply G9
   intro hn
   apply h
   intro t ht
   apply G9
   intro h2
   apply hn
   exact⟨t,ht,by
    have:t≠2:=fun e=>h0 (e ▸ ht)
    simp[known,this,h2]⟩
end Lo
abbrev Vl:=Bool × Int
structure Tm where
 k:Int
 t:Int
 c:Int
 z:Bool
 n:Int
namespace Te
def below (i n:Int):Bool:=decide (0≤i∧i<n)
theorem below_yes {i n:Int} (h0:0≤i) (h1:i<n):below i n=true:=decide_eq_true ⟨h0,h1⟩
theorem below_no {i n:Int} (h:¬(0≤i∧i<n)):below i n=false:=decide_eq_false h
def right (x:Tm):Bool :=
 if x.k=1 then below x.t 64&&below x.c 4&&!x.z&&x.n == 0
 else x.k == 2&&x.t == 0&&x.c == 0&&Va.right x.z x.n
def same (x y:Tm):Bool:=x.k == y.k&&x.t == y.t&&x.c == y.c&&x.z == y.z&&x.n == y.n
def tables (x:Tm):Nat:=if x.k=1 then St.ofN [x.t]else 0
def at_ {α:Type} (l:List α) (i:Int):Option α:=if 0≤i then l[i.toNat]? else none
theorem at_nat {α:Type} (l:List α) (i:Nat):at_ l (i:Int)=l[i]?:=by unfold at_;rw[if_pos (by omega)];rfl
theorem at_out {α:Type} (l:List α) {i:Int} (h:¬(0≤i∧i<l.length)):at_ l i=none:=by
 unfold at_
 split
 ·exact E6 (by omega)
 ·rfl
theorem at_in {α:Type} (l:List α) {i:Int} (h0:0≤i) (h1:i<l.length):∃(j:Nat) (x:α),i=j∧j<l.length∧l[j]?=some x∧at_ l i=some x:=by
 obtain⟨j,rfl⟩:=Int.eq_ofNat_of_zero_le h0
 have hj:j<l.length:=by omega
 exact⟨j,l[j],rfl,hj,A8 hj,by rw[at_nat,A8 hj]⟩
def nul:Vl:=(true,0)
def col (t c:Int) (rs:List (List Vl)):Vl:=((at_ rs t).bind fun r=>at_ r c).getD nul
def val (x:Tm) (rs:List (List Vl)):Vl:=if x.k=1 then col x.t x.c rs else(x.z,x.n)
theorem val_col {x:Tm} {rs:List (List Vl)} (h:x.k=1):val x rs=col x.t x.c rs:=if_pos h
theorem val_other {x:Tm} {rs:List (List Vl)} (h:x.k≠1):val x rs=(x.z,x.n):=if_neg h
theorem A8H {t c:Int} {rs:List (List Vl)} (h:at_ rs t=none):col t c rs=nul:=by unfold col;rw[h];rfl
theorem col_some {t c:Int} {rs:List (List Vl)} {r:List Vl} (h:at_ rs t=some r):col t c rs=(at_ r c).getD nul:=by unfold col;rw[h];rfl
theorem col_out {rs:List (List Vl)} {t c:Int} (h:¬(0≤t∧t<rs.length)):col t c rs=nul:=A8H (at_out _ h)
end Te
structure Pf where
 k:Int
 u:Int
 o:Int
 a:Tm
 b:Tm
inductive Pd where
 | mk (f:Pf) (ps:List Pd)
namespace Pd
def f:Pd→Pf | .mk f _=>f
def ps:Pd→List Pd | .mk _ ps=>ps
end Pd
def Te.zero (x:Tm):Bool:=Te.same x ⟨0,0,0,false,0⟩
def Te.cols (x:Tm):List (Int × Int):=if x.k=1 then [(x.t,x.c)]else []
namespace Pr
def made (f:Pf) (rs:List (List Vl)) (l:List Int):Int :=
 if f.k=1 then Lo.andI [f.u]
 else if f.k=2 then Va.comp f.o (Te.val f.a rs).1 (Te.val f.a rs).2 (Te.val f.b rs).1 (Te.val f.b rs).2
 else if f.k=3 then(if(Te.val f.a rs).1 then 2 else 0)
 else if f.k=4 then Lo.andI l
 else if f.k=5 then Lo.orI l
 else if f.k=6 then(match l with | []=>1 | x::_=>Lo.notI x)
 else 1
mutual
def of (rs:List (List Vl)):Pd→Int
 | .mk f ps=>made f rs (ofs rs ps)
def ofs (rs:List (List Vl)):List Pd→List Int
 | []=>[]
 | p::r=>of rs p::ofs rs r
end
section
variable {f:Pf} {rs:List (List Vl)} {l:List Int}
theorem made_1 (h:f.k=1):made f rs l=Lo.andI [f.u]:=if_pos h
theorem made_2 (h:f.k=2):made f rs l=Va.comp f.o (Te.val f.a rs).1 (Te.val f.a rs).2 (Te.val f.b rs).1 (Te.val f.b rs).2:=by unfold made;rw[if_neg (by omega),if_pos h]
theorem made_3 (h:f.k=3):made f rs l=(if(Te.val f.a rs).1 then 2 else 0):=by unfold made;rw[if_neg (by omega),if_neg (by omega),if_pos h]
theorem made_4 (h:f.k=4):made f rs l=Lo.andI l:=by unfold made;rw[if_neg (by omega),if_neg (by omega),if_neg (by omega),if_pos h]
theorem made_5 (h:f.k=5):made f rs l=Lo.orI l:=by unfold made;rw[if_neg (by omega),if_neg (by omega),if_neg (by omega),if_neg (by omega),if_pos h]
theorem made_6n (h:f.k=6):made f rs []=1:=by unfold made;rw[if_neg (by omega),if_neg (by omega),if_neg (by omega),if_neg (by omega),if_neg (by omega),if_pos h]
theorem made_6c {x:Int} (h:f.k=6):made f rs (x::l)=Lo.notI x:=by unfold made;rw[if_neg (by omega),if_neg (by omega),if_neg (by omega),if_neg (by omega),if_neg (by omega),if_pos h]
theorem made_no (h1:f.k≠1) (h2:f.k≠2) (h3:f.k≠3) (h4:f.k≠4) (h5:f.k≠5) (h6:f.k≠6):made f rs l=1:=by unfold made;rw[if_neg h1,if_neg h2,if_neg h3,if_neg h4,if_neg h5,if_neg h6]
end
theorem comp_cases (o:Int) (b:Bool) (n:Int) (c:Bool) (m:Int):Va.comp o b n c m=0∨Va.comp o b n c m=1∨Va.comp o b n c m=2:=by
 have t:∀x:Bool,Va.truth x=0∨Va.truth x=1∨Va.truth x=2:=by decide
 unfold Va.comp
 repeat' split
 all_goals first | exact t _ | exact .inr (.inl rfl)
theorem A5x (f:Pf) (rs:List (List Vl)) (l:List Int):made f rs l=0∨made f rs l=1∨made f rs l=2:=by
 unfold made
 split
 ·exact Lo.andI_cases _
 split
 ·exact comp_cases _ _ _ _ _
 split
 ·cases(Te.val f.a rs).1 <;> simp
 split
 ·exact Lo.andI_cases _
 split
 ·exact Lo.orI_cases _
 split
 ·cases l with
  | nil=>exact .inr (.inl rfl)
  | cons x r=>exact Lo.notI_cases _
 ·exact .inr (.inl rfl)
theorem A6T (rs:List (List Vl)):∀l,ofs rs l=l.map (of rs)
 | []=>by rw[ofs];rfl
 | p::r=>by rw[ofs,A6T rs r];rfl
theorem of_eq (rs:List (List Vl)) (f:Pf) (ps:List Pd):of rs (.mk f ps)=made f rs (ps.map (of rs)):=by rw[of,A6T]
theorem of_cases (rs:List (List Vl)) (p:Pd):of rs p=0∨of rs p=1∨of rs p=2:=by cases p;rw[of_eq];exact A5x _ _ _
theorem of_at (rs:List (List Vl)) (p:Pd):of rs p=made p.f rs (p.ps.map (of rs)):=by cases p;exact of_eq rs _ _
def fsame (f g:Pf):Bool:=f.k == g.k&&f.u == g.u&&f.o == g.o&&Te.same f.a g.a&&Te.same f.b g.b
mutual
def same:Pd→Pd→Bool
 | .mk f ps,.mk g qs=>fsame f g&&sames ps qs
def sames:List Pd→List Pd→Bool
 | [],[]=>true
 | p::ps,q::qs=>same p q&&sames ps qs
 | _,_=>false
end
mutual
def tables:Pd→Nat
 | .mk f ps=>(Te.tables f.a ||| Te.tables f.b) ||| tabless ps
def tabless:List Pd→Nat
 | []=>0
 | p::r=>tables p ||| tabless r
end
mutual
def cols:Pd→List (Int × Int)
 | .mk f ps=>(Te.cols f.a++Te.cols f.b)++colss ps
def colss:List Pd→List (Int × Int)
 | []=>[]
 | p::r=>cols p++colss r
end
mutual
def size:Pd→Nat
 | .mk _ ps=>1+sizes ps
def sizes:List Pd→Nat
 | []=>0
 | p::r=>size p+sizes r
end
def head (f:Pf) (d:Nat):Bool :=
 decide (d≤4)&&decide (1≤f.k)&&decide (f.k≤6)&&(f.k == 1||f.u == 0)&&(f.k == 2||f.o == 0)&&(f.k == 2||Te.zero f.b)&&(f.k == 2||f.k == 3||Te.zero f.a)
def tail (f:Pf) (n:Nat):Bool :=
 if f.k=1 then n == 0&&decide (0≤f.u)&&decide (f.u≤2)
 else if f.k=2 then n == 0&&decide (1≤f.o)&&decide (f.o≤6)&&Te.right f.a&&Te.right f.b
 else if f.k=3 then n == 0&&Te.right f.a
 else if f.k=6 then n == 1
 else decide (n≤4)
mutual
def rightAt:Pd→Nat→Bool
 | .mk f ps,d=>head f d&&rightAts ps (d+1)&&tail f ps.length
def rightAts:List Pd→Nat→Bool
 | [],_=>true
 | p::r,d=>rightAt p d&&rightAts r d
end
end Pr
namespace Pr
theorem tabless_snoc (l:List Pd) (p:Pd):tabless (l++[p])=tabless l ||| tables p:=by
 induction l with
 | nil=>simp[tabless]
 | cons q r ih=>rw[G8,tabless,ih,tabless,Nat.or_assoc]
theorem A5T (l:List Pd) (p:Pd):colss (l++[p])=colss l++cols p:=by
 induction l with
 | nil=>simp[colss]
 | cons q r ih=>rw[G8,colss,ih,colss,D4]
theorem sizes_snoc (l:List Pd) (p:Pd):sizes (l++[p])=sizes l+size p:=by
 induction l with
 | nil=>simp[sizes]
 | cons q r ih=>rw[G8,sizes,ih,sizes,Nat.add_assoc]
theorem sizes_take (q:Nat):∀l:List Pd,sizes (l.take q)≤sizes l:=by
 induction q with
 | zero=>intro l;rw[F8,sizes];exact E3 _
 | succ q ih =>
  intro l
  cases l with
  | nil=>simp
  | cons p r=>rw[List.take_succ_cons,sizes,sizes];have:=ih r;omega
theorem size_pos (p:Pd):1≤size p:=by cases p;rw[size];omega
theorem sizes_length (l:List Pd):l.length≤sizes l:=by
 induction l with
 | nil=>simp
 | cons p r ih=>rw[sizes,G5];have:=size_pos p;omega
theorem sizes_at {l:List Pd} {j:Nat} {p:Pd} (h:l[j]?=some p):size p≤sizes l:=by
 induction l generalizing j with
 | nil=>simp at h
 | cons q r ih =>
  rw[sizes]
  cases j with
  | zero=>simp at h;subst h;omega
  | succ j=>have:=ih (j:=j) (by simpa using h);omega
theorem sizes_down {l:List Pd} {j:Nat} {p:Pd} (h:l[j]?=some p):sizes p.ps<sizes l:=by
 have h1:=sizes_at h
 have h2:size p=1+sizes p.ps:=by cases p;rw[size];rfl
 omega
theorem of_mk (rs:List (List Vl)) (p:Pd):of rs (.mk p.f p.ps)=of rs p:=by cases p;rfl
theorem ofs_take {rs:List (List Vl)} {l:List Pd} {q:Nat} {p:Pd} (h:l[q]?=some p):(l.take (q+1)).map (of rs)=(l.take q).map (of rs)++[of rs p]:=by
 rw[D7,h];simp
theorem te_cols_len (x:Tm):(Te.cols x).length≤1:=by unfold Te.cols;split <;> simp
mutual
theorem cols_len:∀p:Pd,(cols p).length≤2*size p
 | .mk f ps=>by
  rw[cols,size,C6,C6];have h1:=te_cols_len f.a;have h2:=te_cols_len f.b;have h3:=colss_len ps;omega
theorem colss_len:∀l:List Pd,(colss l).length≤2*sizes l
 | []=>by rw[colss];simp
 | p::r=>by
  rw[colss,sizes,C6];have h1:=cols_len p;have h2:=colss_len r;omega
end
theorem cols_mk (p:Pd):cols (.mk p.f p.ps)=cols p:=by cases p;rfl
theorem colss_take {l:List Pd} {q:Nat} {p:Pd} (h:l[q]?=some p):colss (l.take (q+1))=colss (l.take q)++cols p:=by
 rw[D7,h];exact A5T _ _
theorem tables_at (p:Pd):tables p=(Te.tables p.f.a ||| Te.tables p.f.b) ||| tabless p.ps:=by cases p;rw[tables];rfl
theorem cols_at (p:Pd):cols p=(Te.cols p.f.a++Te.cols p.f.b)++colss p.ps:=by cases p;rw[cols];rfl
theorem size_at (p:Pd):size p=1+sizes p.ps:=by cases p;rw[size];rfl
theorem rightAts_iff (l:List Pd) (d:Nat):rightAts l d=true↔∀p∈l,rightAt p d=true:=by
 induction l with
 | nil=>simp[rightAts]
 | cons p r ih=>rw[rightAts,E7,ih];simp
theorem sames_length {l m:List Pd} (h:l.length≠m.length):sames l m=false:=by
 induction l generalizing m with
 | nil=>cases m with
  | nil=>simp at h
  | cons q qs=>rw[sames];all_goals simp
 | cons p ps ih=>cases m with
  | nil=>rw[sames];all_goals simp
  | cons q qs=>rw[sames,ih (by simpa using h),Bool.and_false]
theorem sames_iff {l m:List Pd} (h:l.length=m.length):sames l m=true↔∀(j:Nat) (p q:Pd),l[j]?=some p→m[j]?=some q→same p q=true:=by
 induction l generalizing m with
 | nil=>cases m with
  | nil=>simp[sames]
  | cons q qs=>simp at h
 | cons p ps ih=>cases m with
  | nil=>simp at h
  | cons q qs =>
   rw[sames,E7,ih (by simpa using h)]
   constructor
   ·rintro⟨h1,h2⟩ j a b ha hb
    cases j with
    | zero=>simp at ha hb;subst ha;subst hb;exact h1
    | succ j=>exact h2 j a b (by simpa using ha) (by simpa using hb)
   ·intro h
    exact⟨h 0 p q rfl rfl,fun j a b ha hb=>h (j+1) a b (by simpa using ha) (by simpa using hb)⟩
end Pr
abbrev M3:=Bool × Bool × Bool
namespace M3
def get (m:M3) (t:Int):Bool:=if t=0 then m.1 else if t=1 then m.2.1 else if t=2 then m.2.2 else false
theorem get_0 (m:M3):m.get 0=m.1:=rfl
theorem get_1 (m:M3):m.get 1=m.2.1:=rfl
theorem get_2 (m:M3):m.get 2=m.2.2:=rfl
def one (t:Int):M3:=(t == 0,t == 1,t == 2)
def has (m:M3):Bool:=m.1||m.2.1||m.2.2
end M3
namespace Rj
def sure (x:Tm) (N:Nat):Bool:=(x.k == 1&&St.hasB N x.t)||(x.k != 1&&x.z)
def andM (l:List M3):M3:=if l.all M3.has then(l.any (·.1),l.any (·.2.1)&&l.all (fun m=>m.2.1||m.2.2),l.all (·.2.2))else(false,false,false)
def orM (l:List M3):M3:=if l.all M3.has then(l.all (·.1),l.any (·.2.1)&&l.all (fun m=>m.2.1||m.1),l.any (·.2.2))else(false,false,false)
def made (f:Pf) (N:Nat) (l:List M3):M3 :=
 if f.k=1 then(f.u == 0,f.u == 1||(decide (f.u<0)||decide (2<f.u)),f.u == 2)
 else if f.k=2 then(if(decide (f.o<1)||decide (6<f.o))||sure f.a N||sure f.b N then(false,true,false)else if f.a.k == 1||f.b.k == 1 then(true,true,true)else M3.one (Va.comp f.o f.a.z f.a.n f.b.z f.b.n))
 else if f.k=3 then(if sure f.a N then(false,false,true)else(true,false,f.a.k == 1))
 else if f.k=4 then andM l
 else if f.k=5 then orM l
 else if f.k=6 then(match l with | []=>(false,true,false) | m::_=>(m.2.2,m.2.1,m.1))
 else(false,true,false)
mutual
def may (N:Nat):Pd→M3
 | .mk f ps=>made f N (mays N ps)
def mays (N:Nat):List Pd→List M3
 | []=>[]
 | p::r=>may N p::mays N r
end
theorem A4N (N:Nat):∀l,mays N l=l.map (may N)
 | []=>by rw[mays];rfl
 | p::r=>by rw[mays,A4N N r];rfl
theorem may_eq (N:Nat) (f:Pf) (ps:List Pd):may N (.mk f ps)=made f N (ps.map (may N)):=by rw[may,A4N]
theorem may_mk (N:Nat) (p:Pd):may N (.mk p.f p.ps)=may N p:=by cases p;rfl
theorem A9X (N:Nat) (p:Pd):may N p=made p.f N (p.ps.map (may N)):=by cases p;exact may_eq N _ _
def rejects (N:Nat) (ps:List Pd):Bool:=!(andM (ps.map (may N))).2.2
section
variable {f:Pf} {N:Nat} {l:List M3}
theorem made_1 (h:f.k=1):made f N l=(f.u == 0,f.u == 1||(decide (f.u<0)||decide (2<f.u)),f.u == 2):=if_pos h
theorem made_2 (h:f.k=2):made f N l=(if(decide (f.o<1)||decide (6<f.o))||sure f.a N||sure f.b N then(false,true,false)else if f.a.k == 1||f.b.k == 1 then(true,true,true)else M3.one (Va.comp f.o f.a.z f.a.n f.b.z f.b.n)):=by unfold made;rw[if_neg (by omega),if_pos h]
theorem made_3 (h:f.k=3):made f N l=(if sure f.a N then(false,false,true)else(true,false,f.a.k == 1)):=by unfold made;rw[if_neg (by omega),if_neg (by omega),if_pos h]
theorem made_4 (h:f.k=4):made f N l=andM l:=by unfold made;rw[if_neg (by omega),if_neg (by omega),if_neg (by omega),if_pos h]
theorem made_5 (h:f.k=5):made f N l=orM l:=by unfold made;rw[if_neg (by omega),if_neg (by omega),if_neg (by omega),if_neg (by omega),if_pos h]
theorem made_6n (h:f.k=6):made f N []=(false,true,false):=by unfold made;rw[if_neg (by omega),if_neg (by omega),if_neg (by omega),if_neg (by omega),if_neg (by omega),if_pos h]
theorem made_6c {m:M3} (h:f.k=6):made f N (m::l)=(m.2.2,m.2.1,m.1):=by unfold made;rw[if_neg (by omega),if_neg (by omega),if_neg (by omega),if_neg (by omega),if_neg (by omega),if_pos h]
theorem made_no (h1:f.k≠1) (h2:f.k≠2) (h3:f.k≠3) (h4:f.k≠4) (h5:f.k≠5) (h6:f.k≠6):made f N l=(false,true,false):=by unfold made;rw[if_neg h1,if_neg h2,if_neg h3,if_neg h4,if_neg h5,if_neg h6]
end
def Gone (N:Nat) (rs:List (List Vl)):Prop:=∀(t c:Int),St.hasB N t=true→(Te.col t c rs).1=true
theorem A1r {x:Tm} {N:Nat} {rs:List (List Vl)} (hg:Gone N rs) (h:sure x N=true):(Te.val x rs).1=true:=by
 unfold sure at h
 by_cases hk:x.k=1
 ·rw[Te.val_col hk]
  exact hg _ _ (by simpa[hk]using h)
 ·rw[Te.val_other hk]
  simpa[hk]using h
theorem A8i {x:Tm} {N:Nat} (h:sure x N=false) (hk:x.k≠1):x.z=false:=by
 unfold sure at h
 simpa[hk]using h
theorem A7d {m:M3} {t:Int} (h:m.get t=true):m.has=true:=by
 unfold M3.get at h;obtain⟨a,b,c⟩:=m;unfold M3.has
 by_cases h0:t=0
 ·simp[h0]at h;simp[h]
 by_cases h1:t=1
 ·simp[h1]at h;simp[h]
 by_cases h2:t=2
 ·simp[h2]at h;simp[h]
 ·simp[h0,h1,h2]at h
theorem A7C {α:Type} (l:List α) (g:α→Int) (m:α→M3) (h:∀x∈l,(g x=0∨g x=1∨g x=2)∧(m x).get (g x)=true):(andM (l.map m)).get (Lo.andI (l.map g))=true:=by
 have hall:(l.map m).all M3.has=true:=by
  rw[F6];intro y hy;obtain⟨x,hx,rfl⟩:=List.mem_map.1 hy;exact A7d (h x hx).2
 unfold andM;rw[if_pos hall]
 rcases Lo.andI_cases (l.map g)with e | e | e
 ·rw[e];obtain⟨x,hx,hx0⟩:=List.mem_map.1 (Lo.andI_eq0.1 e);have:=(h x hx).2;rw[hx0]at this;simp only[M3.get_0]at this ⊢;exact F4.2 ⟨m x,List.mem_map_of_mem hx,this⟩
 ·rw[e]
  have h0:¬0∈l.map g:=fun hc=>by rw[Lo.andI_zero hc]at e;exact absurd e (by decide)
  have h2:¬∀t∈l.map g,t=2:=fun hc=>by rw[Lo.andI_two hc]at e;exact absurd e (by decide)
  have hex:∃x∈l,g x=1:=by
   apply G9
   intro hc;refine h2 fun t ht=>?_;obtain⟨x,hx,rfl⟩:=List.mem_map.1 ht
   rcases(h x hx).1 with e | e | e
   ·exact absurd (e ▸ ht) h0
   ·exact absurd ⟨x,hx,e⟩ hc
   ·exact e
  simp only[M3.get_1,E7];refine⟨?_,?_⟩
  ·obtain⟨x,hx,e1⟩:=hex;have:=(h x hx).2;rw[e1]at this;exact F4.2 ⟨m x,List.mem_map_of_mem hx,this⟩
  ·rw[F6];intro y hy;obtain⟨x,hx,rfl⟩:=List.mem_map.1 hy;have hm:=(h x hx).2
   rcases(h x hx).1 with e | e | e
   ·exact absurd (e ▸ List.mem_map_of_mem hx) h0
   ·rw[e]at hm;simp[show(m x).2.1=true from hm]
   ·rw[e]at hm;simp[show(m x).2.2=true from hm]
 ·rw[e];have h2:=Lo.andI_eq2.1 e;simp only[M3.get_2];rw[F6];intro y hy;obtain⟨x,hx,rfl⟩:=List.mem_map.1 hy;have hm:=(h x hx).2;rw[h2 (g x) (List.mem_map_of_mem hx)]at hm;exact hm
theorem A9Q {α:Type} (l:List α) (g:α→Int) (m:α→M3) (h:∀x∈l,(g x=0∨g x=1∨g x=2)∧(m x).get (g x)=true):(orM (l.map m)).get (Lo.orI (l.map g))=true:=by
 have hall:(l.map m).all M3.has=true:=by
  rw[F6];intro y hy;obtain⟨x,hx,rfl⟩:=List.mem_map.1 hy;exact A7d (h x hx).2
 unfold orM;rw[if_pos hall]
 rcases Lo.orI_cases (l.map g)with e | e | e
 ·rw[e];have h2:=Lo.orI_eq0.1 e;simp only[M3.get_0];rw[F6];intro y hy;obtain⟨x,hx,rfl⟩:=List.mem_map.1 hy;have hm:=(h x hx).2;rw[h2 (g x) (List.mem_map_of_mem hx)]at hm;exact hm
 ·rw[e]
  have h0:¬2∈l.map g:=fun hc=>by rw[Lo.orI_two hc]at e;exact absurd e (by decide)
  have h2:¬∀t∈l.map g,t=0:=fun hc=>by rw[Lo.orI_zero hc]at e;exact absurd e (by decide)
  have hex:∃x∈l,g x=1:=by
   apply G9
   intro hc;refine h2 fun t ht=>?_;obtain⟨x,hx,rfl⟩:=List.mem_map.1 ht
   rcases(h x hx).1 with e | e | e
   ·exact e
   ·exact absurd ⟨x,hx,e⟩ hc
   ·exact absurd (e ▸ ht) h0
  simp only[M3.get_1,E7];refine⟨?_,?_⟩
  ·obtain⟨x,hx,e1⟩:=hex;have:=(h x hx).2;rw[e1]at this;exact F4.2 ⟨m x,List.mem_map_of_mem hx,this⟩
  ·rw[F6];intro y hy;obtain⟨x,hx,rfl⟩:=List.mem_map.1 hy;have hm:=(h x hx).2
   rcases(h x hx).1 with e | e | e
   ·rw[e]at hm;simp[show(m x).1=true from hm]
   ·rw[e]at hm;simp[show(m x).2.1=true from hm]
   ·exact absurd (e ▸ List.mem_map_of_mem hx) h0
 ·rw[e];obtain⟨x,hx,hx0⟩:=List.mem_map.1 (Lo.orI_eq2.1 e);have:=(h x hx).2;rw[hx0]at this;simp only[M3.get_2]at this ⊢;exact F4.2 ⟨m x,List.mem_map_of_mem hx,this⟩
theorem A9h {t:Int} (h:t=0∨t=1∨t=2):(M3.one t).get t=true:=by rcases h with rfl | rfl | rfl <;> decide
theorem A9B {t:Int} (h:t=0∨t=1∨t=2):M3.get (true,true,true) t=true:=by rcases h with rfl | rfl | rfl <;> decide
theorem comp_null {o:Int} {b c:Bool} {n m:Int} (h:b=true∨c=true):Va.comp o b n c m=1:=by
 unfold Va.comp
 rw[if_pos (by rcases h with rfl | rfl <;> simp)]
theorem comp_out {o:Int} {b c:Bool} {n m:Int} (h:o<1∨6<o):Va.comp o b n c m=1:=by
 unfold Va.comp
 split
 ·rfl
 ·rw[if_neg (by omega),if_neg (by omega),if_neg (by omega),if_neg (by omega),if_neg (by omega),if_neg (by omega)]
theorem holds {N:Nat} {rs:List (List Vl)} (hg:Gone N rs):∀(n:Nat) (p:Pd),Pr.size p≤n→(may N p).get (Pr.of rs p)=true:=by
 intro n
 induction n with
 | zero=>intro p h;have:=Pr.size_pos p;omega
 | succ n ih =>
  intro p h
  have hparts:∀x∈p.ps,(Pr.of rs x=0∨Pr.of rs x=1∨Pr.of rs x=2)∧(may N x).get (Pr.of rs x)=true:=fun x hx=>by
   obtain⟨j,hj,hjx⟩:=F9.1 hx;refine⟨Pr.of_cases rs x,ih x ?_⟩
   have h1:=Pr.sizes_at (l:=p.ps) (j:=j) (p:=x) (by rw[A8 hj,hjx])
   have h2:=Pr.size_at p;omega
  rw[A9X,Pr.of_at];generalize p.f=f
  by_cases h1:f.k=1
  ·rw[made_1 h1,Pr.made_1 h1]
   by_cases e0:f.u=0
   ·rw[e0];decide
   by_cases e1:f.u=1
   ·rw[e1];decide
   by_cases e2:f.u=2
   ·rw[e2];decide
   ·rw[Lo.andI_one (by simp;omega) (by simp;omega),M3.get_1]
    simp;omega
  by_cases h2:f.k=2
  ·rw[made_2 h2,Pr.made_2 h2]
   split
   ·next hc =>
    have:Va.comp f.o (Te.val f.a rs).1 (Te.val f.a rs).2 (Te.val f.b rs).1 (Te.val f.b rs).2=1:=by
     simp only[Bool.or_eq_true,decide_eq_true_eq]at hc
     rcases hc with(hc | hc) | hc
     ·exact comp_out hc
     ·exact comp_null (.inl (A1r hg hc))
     ·exact comp_null (.inr (A1r hg hc))
    rw[this];rfl
   ·next hc =>
    split
    ·exact A9B (Pr.comp_cases _ _ _ _ _)
    ·next hk =>
     have ha:f.a.k≠1:=fun e=>hk (by simp[e])
     have hb:f.b.k≠1:=fun e=>hk (by simp[e])
     rw[Te.val_other ha,Te.val_other hb];exact A9h (Pr.comp_cases _ _ _ _ _)
  by_cases h3:f.k=3
  ·rw[made_3 h3,Pr.made_3 h3]
   split
   ·next hc=>rw[A1r hg hc];rfl
   ·next hc =>
    have hc':sure f.a N=false:=by simpa using hc
    by_cases hk:f.a.k=1
    ·cases(Te.val f.a rs).1
     ·rfl
     ·show(f.a.k == 1)=true;simpa using hk
    ·rw[Te.val_other hk,A8i hc' hk];rfl
  by_cases h4:f.k=4
  ·rw[made_4 h4,Pr.made_4 h4];exact A7C _ _ _ hparts
  by_cases h5:f.k=5
  ·rw[made_5 h5,Pr.made_5 h5];exact A9Q _ _ _ hparts
  by_cases h6:f.k=6
  ·cases hps:p.ps with
   | nil=>rw[List.map_nil,List.map_nil,made_6n h6,Pr.made_6n h6];rfl
   | cons x r =>
    rw[List.map_cons,List.map_cons,made_6c h6,Pr.made_6c h6]
    obtain⟨hx1,hx2⟩:=hparts x (by rw[hps];exact E9)
    rcases hx1 with e | e | e
    ·rw[e]at hx2 ⊢;exact hx2
    ·rw[e]at hx2 ⊢;exact hx2
    ·rw[e]at hx2 ⊢;exact hx2
  rw[made_no h1 h2 h3 h4 h5 h6,Pr.made_no h1 h2 h3 h4 h5 h6];rfl
theorem rejects_holds {N:Nat} {rs:List (List Vl)} (hg:Gone N rs) (ps:List Pd) (h:rejects N ps=true):Lo.andI (ps.map (Pr.of rs))≠2:=by
 intro e;have:=A7C ps (Pr.of rs) (may N) (fun x _=>⟨Pr.of_cases rs x,holds hg _ x (C3 _)⟩);rw[e]at this;unfold rejects at h
 rw[show(andM (ps.map (may N))).2.2=true from this]at h
 exact absurd h (by decide)
end Rj
namespace M3
def no:M3:=(false,false,false)
def put (m:M3) (t:Nat):M3:=(m.1||t == 0,m.2.1||t == 1,m.2.2||t == 2)
def at_ (m:M3) (s:Nat):Bool:=if s=0 then m.1 else if s=1 then m.2.1 else m.2.2
def cells (m:M3):List Value:=[.bool m.1,.bool m.2.1,.bool m.2.2]
theorem cells_at {m:M3} {s:Nat} (h:s<3):m.cells[s]?=some (.bool (m.at_ s)):=by
 match s,h with
 | 0,_=>rfl
 | 1,_=>rfl
 | 2,_=>rfl
theorem cells_set {m:M3} {s:Nat} (h:s<3):m.cells.set s (.bool true)=(m.put s).cells:=by
 match s,h with
 | 0,_=>simp[cells,put]
 | 1,_=>simp[cells,put]
 | 2,_=>simp[cells,put]
def only (l:List Nat):M3:=l.foldl put no
theorem only_snoc (l:List Nat) (t:Nat):only (l++[t])=(only l).put t:=by unfold only;rw[List.foldl_append];rfl
def turn (m:M3) (n:Nat):M3:=((List.range n).filter m.at_).foldl (fun r t=>r.put (2-t)) no
theorem turn_yes {m:M3} {n:Nat} (h:m.at_ n=true):m.turn (n+1)=(m.turn n).put (2-n):=by
 unfold turn;rw[List.range_succ,List.filter_append,List.foldl_append];simp[h]
theorem turn_no {m:M3} {n:Nat} (h:m.at_ n=false):m.turn (n+1)=m.turn n:=by
 unfold turn;rw[List.range_succ,List.filter_append,List.foldl_append];simp[h]
theorem turn_all (m:M3):m.turn 3=(m.2.2,m.2.1,m.1):=by
 obtain⟨a,b,c⟩:=m
 cases a <;> cases b <;> cases c <;> decide
def cross (o:Nat→Nat→Nat) (a b:M3) (n:Nat):M3:=((List.range n).filter fun k=>a.at_ (k / 3)&&b.at_ (k % 3)).foldl (fun r k=>r.put (o (k / 3) (k % 3))) no
theorem cross_yes {o:Nat→Nat→Nat} {a b:M3} {s t:Nat} (ht:t<3) (h1:a.at_ s=true) (h2:b.at_ t=true):cross o a b (3*s+t+1)=(cross o a b (3*s+t)).put (o s t):=by
 have e1:(3*s+t) / 3=s:=by omega
 have e2:(3*s+t) % 3=t:=by omega
 unfold cross;rw[List.range_succ,List.filter_append,List.foldl_append];simp[e1,e2,h1,h2]
theorem cross_no {o:Nat→Nat→Nat} {a b:M3} {s t:Nat} (ht:t<3) (h:(a.at_ s&&b.at_ t)=false):cross o a b (3*s+t+1)=cross o a b (3*s+t):=by
 have e1:(3*s+t) / 3=s:=by omega
 have e2:(3*s+t) % 3=t:=by omega
 unfold cross;rw[List.range_succ,List.filter_append,List.foldl_append];simp[e1,e2,h]
end M3
namespace Rj
def oA (s t:Nat):Nat:=if s<t then s else t
def oO (s t:Nat):Nat:=if s<t then t else s
theorem oA_lt {s t:Nat} (hs:s<3) (ht:t<3):oA s t<3:=by unfold oA;split <;> omega
theorem oO_lt {s t:Nat} (hs:s<3) (ht:t<3):oO s t<3:=by unfold oO;split <;> omega
theorem oA_of {s t:Nat} (hs:s<3) (ht:t<3):Lo.andI [(s:Int),(t:Int)]=(oA s t:Nat):=by
 match s,t,hs,ht with
 | 0,0,_,_=>decide
 | 0,1,_,_=>decide
 | 0,2,_,_=>decide
 | 1,0,_,_=>decide
 | 1,1,_,_=>decide
 | 1,2,_,_=>decide
 | 2,0,_,_=>decide
 | 2,1,_,_=>decide
 | 2,2,_,_=>decide
theorem oO_of {s t:Nat} (hs:s<3) (ht:t<3):Lo.orI [(s:Int),(t:Int)]=(oO s t:Nat):=by
 match s,t,hs,ht with
 | 0,0,_,_=>decide
 | 0,1,_,_=>decide
 | 0,2,_,_=>decide
 | 1,0,_,_=>decide
 | 1,1,_,_=>decide
 | 1,2,_,_=>decide
 | 2,0,_,_=>decide
 | 2,1,_,_=>decide
 | 2,2,_,_=>decide
def cA (a b:M3):M3:=M3.cross oA a b 9
def cO (a b:M3):M3:=M3.cross oO a b 9
theorem B0i (b:M3):cA (false,false,false) b=(false,false,false):=by
 obtain⟨x,y,z⟩:=b
 cases x <;> cases y <;> cases z <;> decide
theorem B0g (b:M3):cO (false,false,false) b=(false,false,false):=by
 obtain⟨x,y,z⟩:=b
 cases x <;> cases y <;> cases z <;> decide
theorem B0j (a b:M3) (ha:a.has=true):cA a b=if b.has then(a.1||b.1,(a.2.1&&(b.2.1||b.2.2))||(b.2.1&&(a.2.1||a.2.2)),a.2.2&&b.2.2)else(false,false,false):=by
 obtain⟨x,y,z⟩:=a;obtain⟨x',y',z'⟩:=b
 revert ha
 cases x <;> cases y <;> cases z <;> cases x' <;> cases y' <;> cases z' <;> decide
theorem B0h (a b:M3) (ha:a.has=true):cO a b=if b.has then(a.1&&b.1,(a.2.1&&(b.2.1||b.1))||(b.2.1&&(a.2.1||a.1)),a.2.2||b.2.2)else(false,false,false):=by
 obtain⟨x,y,z⟩:=a;obtain⟨x',y',z'⟩:=b
 revert ha
 cases x <;> cases y <;> cases z <;> cases x' <;> cases y' <;> cases z' <;> decide
theorem A7E {l:List M3} {p q:M3→Bool} (h:∀m,p m=true→q m=true) (hl:l.all p=true):l.all q=true:=F6.2 fun m hm=>h m (F6.1 hl m hm)
theorem A8P {l:List M3} (h:l.all M3.has=true):(andM l).has=true:=by
 unfold andM;rw[if_pos h];unfold M3.has
 by_cases h1:l.any (·.1)=true
 ·simp[h1]
 ·have h1':∀m∈l,m.1=false:=fun m hm=>by
   cases e:m.1
   ·rfl
   ·exact absurd (F4.2 ⟨m,hm,e⟩) h1
  have h2:l.all (fun m=>m.2.1||m.2.2)=true:=F6.2 fun m hm=>by
   have:=F6.1 h m hm;unfold M3.has at this;rw[h1' m hm]at this
   simpa using this
  by_cases h3:l.any (·.2.1)=true
  ·simp[h2,h3]
  ·have:l.all (·.2.2)=true:=F6.2 fun m hm=>by
    have:=F6.1 h2 m hm
    cases e:m.2.1
    ·rw[e]at this;simpa using this
    ·exact absurd (F4.2 ⟨m,hm,e⟩) h3
   simp[this]
theorem A9g {l:List M3} (h:l.all M3.has=true):(orM l).has=true:=by
 unfold orM;rw[if_pos h];unfold M3.has
 by_cases h1:l.any (·.2.2)=true
 ·simp[h1]
 ·have h1':∀m∈l,m.2.2=false:=fun m hm=>by
   cases e:m.2.2
   ·rfl
   ·exact absurd (F4.2 ⟨m,hm,e⟩) h1
  have h2:l.all (fun m=>m.2.1||m.1)=true:=F6.2 fun m hm=>by
   have:=F6.1 h m hm;unfold M3.has at this;rw[h1' m hm]at this
   simpa[Bool.or_comm]using this
  by_cases h3:l.any (·.2.1)=true
  ·simp[h2,h3]
  ·have:l.all (·.1)=true:=F6.2 fun m hm=>by
    have:=F6.1 h2 m hm
    cases e:m.2.1
    ·rw[e]at this;simpa using this
    ·exact absurd (F4.2 ⟨m,hm,e⟩) h3
   simp[this]
theorem andM_snoc (l:List M3) (m:M3):andM (l++[m])=cA (andM l) m:=by
 by_cases h:l.all M3.has=true
 ·rw[B0j _ _ (A8P h)]
  have hi:andM l=(l.any (·.1),l.any (·.2.1)&&l.all (fun m=>m.2.1||m.2.2),l.all (·.2.2)):=by unfold andM;rw[if_pos h]
  have hsub:l.all (·.2.2)=true→l.all (fun m=>m.2.1||m.2.2)=true:=A7E (fun m hm=>by simp[hm])
  have hsu2:l.all (fun m=>m.2.1||m.2.2)=true→l.any (·.2.1)=false→l.all (·.2.2)=true:=fun h1 h2=>F6.2 fun m hm=>by
   have h3:=F6.1 h1 m hm;have h4:=List.any_eq_false.1 h2 m hm
   simpa[h4]using h3
  rw[hi];unfold andM;rw[List.all_append,h];clear h
  by_cases hm:m.has=true
  ·have h1:List.all [m] M3.has=true:=by simp[hm]
   rw[h1,if_pos (by rfl),if_pos hm]
   simp only[List.any_append,List.all_append,List.any_cons,List.all_cons,List.any_nil,List.all_nil,Bool.or_false,Bool.and_true];clear hi
   revert hsub hsu2
   generalize l.all (·.2.2)=x
   generalize l.all (fun m=>m.2.1||m.2.2)=y
   generalize l.any (·.2.1)=z;generalize l.any (·.1)=u;obtain⟨a,b,c⟩:=m;intro hsub hsu2;dsimp only
   cases x <;> cases y <;> cases z <;> cases u <;> cases a <;> cases b <;> cases c <;> simp_all
  ·have h1:List.all [m] M3.has=false:=by simp[hm]
   rw[h1,if_neg (by decide),if_neg hm]
 ·have hi:andM l=(false,false,false):=by unfold andM;rw[if_neg h]
  rw[hi,B0i];unfold andM;rw[if_neg];rw[List.all_append,E7];exact fun hc=>h hc.1
theorem orM_snoc (l:List M3) (m:M3):orM (l++[m])=cO (orM l) m:=by
 by_cases h:l.all M3.has=true
 ·rw[B0h _ _ (A9g h)]
  have hi:orM l=(l.all (·.1),l.any (·.2.1)&&l.all (fun m=>m.2.1||m.1),l.any (·.2.2)):=by unfold orM;rw[if_pos h]
  have hsub:l.all (·.1)=true→l.all (fun m=>m.2.1||m.1)=true:=A7E (fun m hm=>by simp[hm])
  have hsu2:l.all (fun m=>m.2.1||m.1)=true→l.any (·.2.1)=false→l.all (·.1)=true:=fun h1 h2=>F6.2 fun m hm=>by
   have h3:=F6.1 h1 m hm;have h4:=List.any_eq_false.1 h2 m hm
   simpa[h4]using h3
  rw[hi];unfold orM;rw[List.all_append,h];clear h
  by_cases hm:m.has=true
  ·have h1:List.all [m] M3.has=true:=by simp[hm]
   rw[h1,if_pos (by rfl),if_pos hm]
   simp only[List.any_append,List.all_append,List.any_cons,List.all_cons,List.any_nil,List.all_nil,Bool.or_false,Bool.and_true];clear hi
   revert hsub hsu2
   generalize l.all (·.1)=x
   generalize l.all (fun m=>m.2.1||m.1)=y
   generalize l.any (·.2.1)=z;generalize l.any (·.2.2)=u;obtain⟨a,b,c⟩:=m;intro hsub hsu2;dsimp only
   cases x <;> cases y <;> cases z <;> cases u <;> cases a <;> cases b <;> cases c <;> simp_all
  ·have h1:List.all [m] M3.has=false:=by simp[hm]
   rw[h1,if_neg (by decide),if_neg hm]
 ·have hi:orM l=(false,false,false):=by unfold orM;rw[if_neg h]
  rw[hi,B0g];unfold orM;rw[if_neg];rw[List.all_append,E7];exact fun hc=>h hc.1
theorem only_one {t:Nat} (h:t<3):M3.only [t]=M3.one (t:Int):=by
 match t,h with
 | 0,_=>decide
 | 1,_=>decide
 | 2,_=>decide
end Rj
end Go.Proofs.YtbddhkgbpjhhaaaGreatDoor
