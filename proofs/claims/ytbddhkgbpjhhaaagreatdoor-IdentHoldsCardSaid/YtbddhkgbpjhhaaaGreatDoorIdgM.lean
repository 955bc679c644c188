/-
  PACKAGE ident: a list of trees in a row of one's own; what Ways' function keeps.
-/
import Derived.Test.YtbddhkgbpjhhaaaGreatDoorIdfM
set_option maxHeartbeats 6400000
namespace Go.Proofs.YtbddhkgbpjhhaaaGreatDoor
open Go.RowKit Go.Sort
structure TwRow (R:Nat→Prop) (base:Nat) (w:World) (v:Value) (M:List TrV):Prop where
 own:w.ownsRow base 26 5 v M.length (trCells M)
 tr:∀m∈M,TrOn (fun k=>v.ownBlock≠some k∧R k) w m
theorem TwRow.keep {R S:Nat→Prop} {base:Nat} {w w':World} {v:Value} {M:List TrV} (h:TwRow R base w v M) (hk:Keeps S w w') (hs:∀k,(v.ownBlock=some k∨R k)→S k):TwRow R base w' v M :=
 ⟨Q9 h.own hk fun k hk=>hs k (.inl hk),fun m hm=>(h.tr m hm).keep hk.size fun k h2 hlt=>⟨hk.same k hlt (hs k (.inr h2.2)),h2⟩⟩
theorem TwRow.on {R:Nat→Prop} {base:Nat} {w:World} {v:Value} {M:List TrV} (h:TwRow R base w v M) (hl:M.length≤9223372036854775807):∃d,TsOn (fun k=>v.ownBlock=some k∨R k) d w v (M.map (·.1)):=by
 have hd:∃d,∀m∈M,TsOn (fun k=>v.ownBlock=some k∨R k) d w m.2.1 m.1.ks:=by
  have hnd:=h.tr;clear h hl
  induction M with
  | nil=>exact⟨0,fun z hz=>by simp at hz⟩
  | cons z r ih =>
   obtain⟨d1,h1⟩:=ih fun y hy=>hnd y (F7 _ hy);obtain⟨d2,h2⟩:=((hnd z E9).keep (T':=fun k=>v.ownBlock=some k∨R k) (C3 _) fun k hk _=>⟨rfl,.inr hk.2⟩).1;refine⟨max d1 d2,fun y hy=>?_⟩
   rcases List.mem_cons.1 hy with rfl | hy
   ·exact h2.mono (Nat.le_max_right _ _)
   ·exact(h1 y hy).mono (Nat.le_max_left _ _)
 obtain⟨d,hd⟩:=hd;refine⟨d+1,?_⟩;obtain⟨A,c,hA,hc⟩:=A2e h.own
 have hcap:M.length≤c:=by
  rcases id h.own.2 with⟨e,h0⟩ | ⟨g,cap,cur,e,_,_,hnc,_⟩
  ·omega
  ·rw[hA]at e;cases e;exact hnc
 refine⟨A,c,by rw[E0];exact hA,by rw[E0];exact⟨hl,hcap⟩,fun j a hj=>?_⟩
 rw[F5]at hj;obtain⟨m,hm,rfl⟩:=Option.map_eq_some_iff.1 hj;obtain⟨g,rfl,hge,hlt,hcell⟩:=hc j m hm;have hon:=(h.tr m (C8 hm)).keep (T':=fun k=>v.ownBlock=some k∨R k) (C3 _) fun k hk _=>⟨rfl,.inr hk.2⟩
 exact⟨g,0,none,m.2.1,m.2.2,rfl,.inl (by rw[hA];rfl),hlt,hcell,hon.2,hd m (C8 hm)⟩
structure Kept (base lb:Nat) (L:List Tr) (O:Nat→Prop) (w:World):Prop where
 box:lb<w.heap.size∧base≤lb∧O lb
 low:∀k,O k→base≤k∧k<w.heap.size
 row:∃(v:Value) (M:List TrV),M.map (·.1)=L∧Lies w lb 23 [v]∧TwRow (fun k=>O k∧k≠lb) base w v M∧∀k,v.ownBlock=some k→O k∧k≠lb
theorem Kept.keep {base lb:Nat} {L:List Tr} {O S:Nat→Prop} {w w':World} (h:Kept base lb L O w) (hk:Keeps (fun k=>O k∨S k) w w'):Kept base lb L O w':=by
 obtain⟨v,M,h1,h2,h3,h4⟩:=h.row
 exact⟨⟨C9 h.box.1 hk.size,h.box.2⟩,fun k hO=>⟨(h.low k hO).1,C9 (h.low k hO).2 hk.size⟩,
  v,M,h1,h2.keeps hk (.inl h.box.2.2),h3.keep hk (fun k hk=>hk.elim (fun e=>.inl (h4 k e).1) (fun e=>.inl e.1)),h4⟩
theorem Kept.on {base lb:Nat} {L:List Tr} {O:Nat→Prop} {w:World} (h:Kept base lb L O w) (hl:L.length≤9223372036854775807):∃v d,Lies w lb 23 [v]∧TsOn (fun k=>base≤k) d w v L:=by
 obtain⟨v,M,rfl,h2,h3,h4⟩:=h.row
 obtain⟨d,hd⟩:=h3.on (by rwa[E0]at hl)
 refine⟨v,d,h2,TsOn.keep (C3 _) (fun k hk _=>⟨rfl,?_⟩) hd⟩;exact hk.elim (fun e=>(h.low k (h4 k e).1).1) (fun e=>(h.low k e.1).1)
end Go.Proofs.YtbddhkgbpjhhaaaGreatDoor
