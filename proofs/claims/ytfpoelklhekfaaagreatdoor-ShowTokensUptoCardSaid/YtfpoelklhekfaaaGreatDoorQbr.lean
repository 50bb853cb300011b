import Derived.Test.YtfpoelklhekfaaaGreatDoorQas
namespace Go.Proofs.YtfpoelklhekfaaaGreatDoor.Mu
open Go Go.RowKit
set_option maxRecDepth 100000
theorem QW:∀ (n:Nat) (l acc:List Int) (d:Nat) (t:Tk) (r:List Int),l.length<=n->quoL l acc d=.ok t r->t.x.length<=acc.length+l.length
 | _,[],acc,d,t,r,_,h=>by rw[quoL]at h;cases h
 | 0,c::l,acc,d,t,r,hl,_=>by simp at hl
 | n+1,c::l,acc,d,t,r,hl,h=>by
  have hl':l.length<=n:=by simpa using hl
  rw[quoL]at h;split at h
  ·injection h with h _;rw[<- h];simp
  split at h
  ·cases h
  split at h
  ·split at h
   ·cases h
   ·have:=QW n _ _ _ t r (by rw[List.length_tail];omega) h
    rw[List.length_append,List.length_singleton,List.length_tail]at this;rw[List.length_cons];omega
  ·have:=QW n _ _ _ t r hl' h
   rw[List.length_append,List.length_singleton]at this;rw[List.length_cons];omega
theorem qdc{l:List Int}{t:Tk}{r:List Int}(h:oneL l=.ok t r):t.x.length<=l.length:=by
 have htw:∀ p:Int->Bool,(l.takeWhile p).length<=l.length:=fun p=>by
  have:=congrArg List.length (List.takeWhile_append_dropWhile (p:=p) (l:=l));rw[List.length_append]at this;omega
 unfold oneL at h;split at h
 ·unfold Zt at h
  repeat' split at h
  all_goals first | cases h;done | (injection h with h _;rw[<- h];exact htw _)
 split at h
 ·unfold numL at h
  repeat' split at h
  all_goals first | cases h;done | (injection h with h _;rw[<- h];simp)
 split at h
 ·have:=QW _ _ _ _ t r (Nat.le_refl _) h
  rw[List.length_tail]at this;simp at this;omega
 ·unfold Qs at h
  repeat' split at h
  all_goals first | cases h;done | (injection h with h _;rw[<- h];show (List.take _ _).length<=_;rw[List.length_take];omega)
theorem ZN:∀ (f:Nat) (l:List Int) (o:Nat) (ps:List (Tk × Nat)),(∀ c∈l,cpB c=true)->qx f l o=.ok ps->(∀ p∈ps,p.1.x.length<=l.length)/\ps.length<=f
 | 0,l,o,ps,_,h=>by injection h with h;subst h;exact⟨by simp,by simp⟩
 | f+1,l,o,ps,hc,h=>by
  by_cases hs:qh l=[]
  ·rw[ze hs]at h;injection h with h;subst h;exact⟨by simp,by simp⟩
  ·rw[qO hs]at h
   cases e1:oneL (qh l) with
   | err x y=>rw[e1]at h;cases h
   | ok t r=>
    rw[e1]at h;have h':Rs.cons (t,o+(l.length-(qh l).length)) (qx f r (o+(l.length-r.length)))=.ok ps:=h;obtain⟨_,⟨u,hu⟩,hr⟩:=zS hs e1 (jA hc);have hsl:=zY _ l (Nat.le_refl _);have h1:=qdc e1;cases e2:qx f r (o+(l.length-r.length)) with
    | err x y=>rw[e2]at h';cases h'
    | ok qs=>
     rw[e2]at h';injection h' with h'
     subst h';obtain⟨i1,i2⟩:=ZN f r _ qs (qbb hu (jA hc)) e2;refine⟨fun p hp=>?_,by rw[List.length_cons];omega⟩;rcases List.mem_cons.1 hp with rfl | hp
     ·show t.x.length<=_;omega
     ·have:=i1 p hp;omega
theorem ZI{s:List UInt8}{cs:List Int}{rest:List UInt8}(hc:Cps s cs rest)(he:(tokO s.length cs rest).e=0):(∀ y∈(tokO s.length cs rest).l,y.s.length<=140737488355328/\-9223372036854775808<=y.n/\y.n<=9223372036854775807)/\(tokO s.length cs rest).l.length<=4001:=by
 have hb:=(Ju hc.cp he).1;obtain⟨hn,rfl,ps,h1,h2⟩:=qf0 he;rw[h2]at hb ⊢;obtain⟨i1,i2⟩:=ZN _ _ _ _ hc.cp h1;have hcl:cs.length<=4000:=by
  have h3:=qD hc.cp;have h4:=congrArg List.length hc.eq;rw[List.length_append]at h4;omega
 refine⟨fun y hy=>?_,?_⟩
 ·have hm:=hb y.b (List.mem_map_of_mem hy)
  obtain⟨p,hp,rfl⟩:=List.mem_map.1 hy;have h3:=i1 p hp;have h4:=qae p.1.x;refine⟨?_,?_⟩
  ·show (encs p.1.x).length<=_;omega
  ·rcases hm with ⟨_,_,e⟩ | ⟨_,_,e⟩ | ⟨_,h0,h1,_⟩ | ⟨_,_,e⟩ | ⟨_,_,e⟩ | ⟨_,_,e⟩
   all_goals first | (have e':p.1.n=0:=e;show -9223372036854775808<=p.1.n/\p.1.n<=9223372036854775807;omega) | (have h0':0<=p.1.n:=h0;have h1':p.1.n<=1099511627776:=h1;show -9223372036854775808<=p.1.n/\p.1.n<=9223372036854775807;omega)
 ·show (ps.map (tn cs)).length<=_
  rw[List.length_map];omega
theorem RTn.other{w w':World}{A:Option Addr}{n:Nat}{xs:List Tn}{g:Nat}{a b c d:Int}{t:TypeId}{fr:Nat × Nat}(h:RTn w w.heap.size A n xs)(hg:w.heap[g]?=some (.cells #[.int .i64 a,b,c,d] t fr))(hk:∀ k,k≠g->w'.heap[k]?=w.heap[k]?)(hs:w.heap.size<=w'.heap.size):RTn w' w'.heap.size A n xs:=
 ⟨h.1,fun hn=>by
  obtain⟨bk,off,e,hb,hc⟩:=h.2 hn;have hne:bk≠g:=by
   rintro rfl;obtain⟨x,hx⟩:∃ x,xs[0]?=some x:=⟨_,List.getElem?_eq_getElem (by have:=h.1;omega)⟩
   obtain⟨-,h1,-⟩:=hc 0 x hx;unfold World.cell? at h1;rw[hg]at h1;rcases Nat.lt_or_ge (off+0*6+1) 4 with h4 | h4
   ·rcases (show off+0*6+1=0∨off+0*6+1=1∨off+0*6+1=2∨off+0*6+1=3 by omega) with e | e | e | e <;> simp[e]at h1
   ·simp[Array.getElem?_eq_none (show (#[Value.int .i64 a,Value.int .i64 b,Value.int .i64 c,Value.int .i64 d]:Array Value).size<=off+0*6+1 from h4)]at h1
  have key:∀ o,w'.cell? ⟨bk,o,none⟩=w.cell? ⟨bk,o,none⟩:=fun o=>by unfold World.cell?;rw[hk bk hne]
  refine⟨bk,off,e,Nat.lt_of_lt_of_le hb hs,fun k x hx=>?_⟩;obtain⟨a0,a1,a2,a3,a4,a5⟩:=hc k x hx;exact⟨(key _).trans a0,(key _).trans a1,(key _).trans a2,(key _).trans a3,(key _).trans a4,(key _).trans a5⟩⟩
end Go.Proofs.YtfpoelklhekfaaaGreatDoor.Mu
