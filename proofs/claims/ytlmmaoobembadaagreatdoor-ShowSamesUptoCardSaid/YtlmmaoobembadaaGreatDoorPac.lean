import Derived.KernelRfl
import Derived.Test.YtlmmaoobembadaaGreatDoorRows
import Derived.Lib.SmallJoins
import Derived.ProofKit
import Derived.OpenShut
import Derived.ChangeOld
import Derived.ChangeMaps5
import Derived.Deep.Slices
import Derived.Test.YtlmmaoobembadaaGreatDoorPab
namespace Go.Proofs.YtlmmaoobembadaaGreatDoor.Mu
open Go
def qx(c:Int):Bool:=decide (48<=c/\c<=57)
def isSm(c:Int):Bool:=decide (97<=c/\c<=122)
def isGr(c:Int):Bool:=decide (65<=c/\c<=90)
def isW(c:Int):Bool:=qx c || isSm c || isGr c || decide (c=95) || decide (c=39)
def isBl(c:Int):Bool:=decide (c=32) || decide (c=9) || decide (c=10) || decide (c=13)
structure Tk where
 k:Int
 x:List Int
 n:Int
deriving DecidableEq
def wordsL:List (List Int):=[[108,101,116],[114,101,99],[105,110],[99,97,115,101],[111,102],[100,97,116,97]]
def primsL:List (List Int):=[[111,112,101,110],[114,101,97,100],[119,114,105,116,101],[99,108,111,115,101],[97,114,114,97,121],[103,101,116],[115,101,116],[115,105,122,101],[102,97,105,108],[108,101,110]]
def signsL:List (List Int):=[[92],[45,62],[45,49,62],[45,63,62],[45,42,62],[61],[61,61],[59],[123],[125],[40],[41],[124],[60],[43,43],[43],[45],[42],[47],[37],[95],[63]]
theorem qO{α:Type}(p:α->Bool)(l:List α):(l.dropWhile p).length<=l.length:=by
 induction l with
 | nil=>simp
 | cons a l ih=>
  rw[List.dropWhile_cons];split
  ·exact Nat.le_succ_of_le ih
  ·exact Nat.le_refl _
def qj:List Int->List Int
 | []=>[]
 | c::l=>if isBl c=true then qj l else if c=45/\l.head?=some 45 then qj (l.dropWhile fun x=>decide (x≠10)) else c::l
termination_by l=>l.length
decreasing_by
 ·simp
 ·exact Nat.lt_succ_of_le (qO _ l)
theorem zu:qj []=[]:=by rw[qj]
theorem QG{c:Int}(h:isBl c=true)(l:List Int):qj (c::l)=qj l:=by rw[qj,if_pos h]
theorem JQ(l:List Int):qj (45::45::l)=qj ((45::l).dropWhile fun x=>decide (x≠10)):=by
 rw[qj,if_neg (by decide),if_pos ⟨rfl,rfl⟩]
theorem jm{c:Int}{l:List Int}(h1:isBl c=false)(h2:¬ (c=45/\l.head?=some 45)):qj (c::l)=c::l:=by
 rw[qj,if_neg (by simp[h1]),if_neg h2]
theorem jR:∀ (n:Nat) (l:List Int),l.length<=n->(qj l).length<=l.length
 | _,[],_=>by rw[zu];exact Nat.le_refl _
 | 0,c::l,h=>by simp at h
 | n+1,c::l,h=>by
  have hl:l.length<=n:=by simpa using h
  rw[qj];split
  ·exact Nat.le_succ_of_le (jR n l hl)
  split
  ·have h1:=qO (fun x:Int=>decide (x≠10)) l
   have h2:=jR n (l.dropWhile fun x=>decide (x≠10)) (by omega);simp only[List.length_cons];omega
  ·exact Nat.le_refl _
inductive Blanks:List Int->Prop
 | nil:Blanks []
 | bl {c:Int} {b:List Int} (h:isBl c=true) (hb:Blanks b):Blanks (c::b)
 | rem {u b:List Int} (h:∀ x∈u,x≠10) (hb:Blanks b):Blanks (45::45::(u++10::b))
theorem Blanks.app{a b:List Int}(h:Blanks a)(k:Blanks b):Blanks (a++b):=by
 induction h with
 | nil=>exact k
 | bl h _ ih=>exact .bl h ih
 | rem h _ ih=>
  rename_i u c hc;have:=Blanks.rem h ih;simpa using this
theorem qfg{u:List Int}(h:∀ x∈u,x≠10)(r:List Int):(u++10::r).dropWhile (fun x=>decide (x≠10))=10::r:=by
 induction u with
 | nil=>simp
 | cons a u ih=>
  have ha:a≠10:=h a (by simp);rw[List.cons_append,List.dropWhile_cons,if_pos (by simpa using ha)];exact ih fun x hx=>h x (by simp[hx])
theorem QY{b:List Int}(h:Blanks b)(r:List Int):qj (b++r)=qj r:=by
 induction h with
 | nil=>rfl
 | bl hc _ ih=>rw[List.cons_append,QG hc,ih]
 | rem hu _ ih=>
  rename_i u c hk;rw[List.cons_append,List.cons_append,JQ,List.append_assoc,List.cons_append,List.dropWhile_cons,if_pos (by decide),qfg hu,QG (by decide),ih]
inductive Rd where
 | ok (t:Tk) (r:List Int)
 | err (e:Int) (d:Nat)
def Jl(l:List Int):Rd:=
 if l.takeWhile isW∈wordsL then .ok ⟨5,l.takeWhile isW,0⟩ (l.dropWhile isW)
 else if l.takeWhile isW∈primsL then .ok ⟨6,l.takeWhile isW,0⟩ (l.dropWhile isW)
 else if 24<(l.takeWhile isW).length then .err 3 0
 else if isGr (l.headD 0)=true then .ok ⟨2,l.takeWhile isW,0⟩ (l.dropWhile isW) else .ok ⟨1,l.takeWhile isW,0⟩ (l.dropWhile isW)
def valN(l:List Int):Int:=l.foldl (fun n c=>10*n+(c-48)) 0
def numL(l:List Int):Rd:=
 if l.headD 0=48/\qx (l.tail.headD 0)=true then .err 100 0
 else if 1099511627776<valN (l.takeWhile qx) then .err 101 0
 else .ok ⟨3,[],valN (l.takeWhile qx)⟩ (l.dropWhile qx)
def escV(c:Int):Int:=if c=110 then 10 else if c=116 then 9 else if c=34 then 34 else if c=92 then 92 else 0
def quoL:List Int->List Int->Nat->Rd
 | [],_,_=> .err 102 0
 | c::l,acc,d=>
  if c=34 then .ok ⟨4,acc,0⟩ l
  else if c=10 then .err 102 0
  else if c=92 then (if escV (l.headD 0)=0 then .err 100 d else quoL l.tail (acc++[escV (l.headD 0)]) (d+2))
  else quoL l (acc++[c]) (d+1)
termination_by l=>l.length
decreasing_by
 ·simp only[List.length_tail,List.length_cons];omega
 ·simp
def QX(l:List Int):Rd:=
 if 3<=l.length/\l.take 3∈signsL then .ok ⟨5,l.take 3,0⟩ (l.drop 3)
 else if 2<=l.length/\l.take 2∈signsL then .ok ⟨5,l.take 2,0⟩ (l.drop 2)
 else if 1<=l.length/\l.take 1∈signsL then .ok ⟨5,l.take 1,0⟩ (l.drop 1)
 else .err 100 0
def oneL(l:List Int):Rd:=
 if isSm (l.headD 0)=true∨isGr (l.headD 0)=true then Jl l
 else if qx (l.headD 0)=true then numL l
 else if l.headD 0=34 then quoL l.tail [] 1
 else QX l
def digL(n:Nat):List Int:=if h:n<10 then [48+(n:Int)] else digL (n / 10)++[48+((n % 10:Nat):Int)]
termination_by n
decreasing_by omega
def escC(c:Int):List Int:=if c=10 then [92,110] else if c=9 then [92,116] else if c=34∨c=92 then [92,c] else [c]
def putL(t:Tk):List Int:=if t.k=3 then digL t.n.toNat else if t.k=4 then 34::(t.x.flatMap escC++[34]) else t.x
def qho(x:List Int)(big:Bool):Prop:=x≠[]/\x.length<=24/\(∀ c∈x,isW c=true)/\(if big=true then isGr (x.headD 0)=true else isSm (x.headD 0)=true)/\x ∉ wordsL/\x ∉ primsL
def MayT(t:Tk):Prop:=
 (t.k=1/\qho t.x false/\t.n=0)∨(t.k=2/\qho t.x true/\t.n=0)∨(t.k=3/\0<=t.n/\t.n<=1099511627776/\t.x=[])∨(t.k=4/\(∀ c∈t.x,cpB c=true)/\t.n=0) ∨
  (t.k=5/\(t.x∈wordsL∨t.x∈signsL)/\t.n=0)∨(t.k=6/\t.x∈primsL/\t.n=0)
def Ends(r:List Int):Prop:=r=[] ∨ ∃ c l,r=c::l/\isBl c=true
theorem qgi{c:Int}(h:isSm c=true∨isGr c=true):isW c=true:=by unfold isW;rcases h with h | h <;> simp[h]
theorem qa9{c:Int}(h:isBl c=true):c=32∨c=9∨c=10∨c=13:=by simpa [isBl,or_assoc] using h
theorem J6{c:Int}(h:isBl c=true):isW c=false/\qx c=false:=by rcases qa9 h with rfl | rfl | rfl | rfl <;> decide
theorem qbv{p:Int->Bool}{x r:List Int}(h:∀ c∈x,p c=true)(hr:r=[] ∨ ∃ c l,r=c::l/\p c=false):(x++r).takeWhile p=x/\(x++r).dropWhile p=r:=by
 induction x with
 | nil=>
  rcases hr with rfl | ⟨c,l,rfl,hc⟩
  ·simp
  ·simp[hc]
 | cons a x ih=>
  obtain⟨h1,h2⟩:=ih fun c hc=>h c (by simp[hc]);have ha:=h a (by simp);rw[List.cons_append,List.takeWhile_cons,List.dropWhile_cons,if_pos ha,if_pos ha,h1,h2];exact⟨rfl,rfl⟩
theorem Ends.w{r:List Int}(h:Ends r):r=[] ∨ ∃ c l,r=c::l/\isW c=false:=h.elim .inl fun ⟨c,l,e,k⟩=> .inr ⟨c,l,e,(J6 k).1⟩
theorem Ends.d{r:List Int}(h:Ends r):r=[] ∨ ∃ c l,r=c::l/\qx c=false:=h.elim .inl fun ⟨c,l,e,k⟩=> .inr ⟨c,l,e,(J6 k).2⟩
theorem ji{x r:List Int}(h:x≠[]):(x++r).headD 0=x.headD 0:=by cases x with
 | nil=>exact absurd rfl h
 | cons a x=>rfl
theorem je:∀ x∈wordsL++primsL,x≠[]/\(∀ c∈x,isW c=true)/\isSm (x.headD 0)=true:=by decide +kernel
theorem QC{x r:List Int}(hx:x≠[])(hw:∀ c∈x,isW c=true)(hh:isSm (x.headD 0)=true∨isGr (x.headD 0)=true)(hr:Ends r):oneL (x++r)=(if x∈wordsL then .ok ⟨5,x,0⟩ r else if x∈primsL then .ok ⟨6,x,0⟩ r else if 24<x.length then .err 3 0 else if isGr (x.headD 0)=true then .ok ⟨2,x,0⟩ r else .ok ⟨1,x,0⟩ r):=by
 obtain⟨h1,h2⟩:=qbv hw hr.w;unfold oneL;rw[ji hx,if_pos hh];unfold Jl;rw[h1,h2,ji hx]
theorem j4(n:Nat):digL n≠[]:=by rw[digL];split <;> simp
theorem jF:∀ (n:Nat),∀ c∈digL n,qx c=true:=by
 intro n;induction n using Nat.strongRecOn with
 | _ n ih=>
  intro c hc;rw[digL]at hc;split at hc
  ·obtain rfl:=List.mem_singleton.1 hc
   unfold qx;rw[decide_eq_true_eq];omega
  ·rcases List.mem_append.1 hc with hc | hc
   ·exact ih (n / 10) (by omega) c hc
   ·obtain rfl:=List.mem_singleton.1 hc
    unfold qx;rw[decide_eq_true_eq];omega
theorem JV(l:List Int)(c:Int):valN (l++[c])=10*valN l+(c-48):=by simp[valN]
theorem qf5(n:Nat):valN (digL n)=(n:Int):=by
 induction n using Nat.strongRecOn with
 | _ n ih=>
  rw[digL];split
  ·show 10*(0:Int)+(48+(n:Int)-48)=n
   omega
  ·rw[JV,ih (n / 10) (by omega)];omega
theorem qc7:∀ (n:Nat),(digL n).headD 0=48->n=0:=by
 intro n;induction n using Nat.strongRecOn with
 | _ n ih=>
  intro h;rw[digL]at h;split at h
  ·have:(48:Int)+(n:Int)=48:=h
   omega
  ·rw[ji (j4 _)]at h
   have:=ih (n / 10) (by omega) h;omega
theorem qhs(n:Nat)(hn:n<=1099511627776){r:List Int}(hr:Ends r):oneL (digL n++r)=.ok ⟨3,[],(n:Int)⟩ r:=by
 obtain⟨h1,h2⟩:=qbv (jF n) hr.d;have hd:qx ((digL n).headD 0)=true:=by
  cases e:digL n with
  | nil=>exact absurd e (j4 n)
  | cons a l=>exact jF n a (by rw[e];simp)
 have hb:=of_decide_eq_true (show decide (48<=(digL n).headD 0/\(digL n).headD 0<=57)=true from hd);unfold oneL;rw[ji (j4 n),if_neg (by
  rintro (h | h)
  ·have:=of_decide_eq_true (show decide (97<=(digL n).headD 0/\(digL n).headD 0<=122)=true from h);omega
  ·have:=of_decide_eq_true (show decide (65<=(digL n).headD 0/\(digL n).headD 0<=90)=true from h);omega),if_pos hd]
 unfold numL;rw[h1,h2,qf5,ji (j4 n),if_neg,if_neg (by omega)];rintro⟨h3,h4⟩;have h5:=qc7 n h3;subst h5;have h6:digL 0=[48]:=by rw[digL];rfl
 rw[h6]at h4;rcases hr.d with rfl | ⟨c,l,rfl,hc⟩
 ·revert h4;decide
 ·have:qx c=true:=h4
  rw[hc]at this;cases this
theorem qdI:∀ (x acc r:List Int) (d:Nat),quoL (x.flatMap escC++34::r) acc d=.ok ⟨4,acc++x,0⟩ r
 | [],acc,r,d=>by rw[List.flatMap_nil,List.nil_append,quoL,if_pos rfl,List.append_nil]
 | c::x,acc,r,d=>by
  rw[List.flatMap_cons,List.append_assoc];have ih:=fun d=>qdI x (acc++[c]) r d;have e:acc++[c]++x=acc++c::x:=by simp
  rw[e]at ih;unfold escC;by_cases h10:c=10
  ·subst h10
   rw[if_pos rfl];show quoL (92::110::_) acc d=_
   rw[quoL,if_neg (by decide),if_neg (by decide),if_pos rfl,if_neg (by rw[List.headD_cons];decide)];exact ih _
  rw[if_neg h10];by_cases h9:c=9
  ·subst h9
   rw[if_pos rfl];show quoL (92::116::_) acc d=_
   rw[quoL,if_neg (by decide),if_neg (by decide),if_pos rfl,if_neg (by rw[List.headD_cons];decide)];exact ih _
  rw[if_neg h9];by_cases h34:c=34
  ·subst h34
   rw[if_pos (.inl rfl)];show quoL (92::34::_) acc d=_
   rw[quoL,if_neg (by decide),if_neg (by decide),if_pos rfl,if_neg (by rw[List.headD_cons];decide)];exact ih _
  by_cases h92:c=92
  ·subst h92
   rw[if_pos (.inr rfl)];show quoL (92::92::_) acc d=_
   rw[quoL,if_neg (by decide),if_neg (by decide),if_pos rfl,if_neg (by rw[List.headD_cons];decide)];exact ih _
  rw[if_neg (by rintro (h | h);exact h34 h;exact h92 h)];show quoL (c::_) acc d=_
  rw[quoL,if_neg h34,if_neg h10,if_neg h92];exact ih _
theorem qhJ(x:List Int)(r:List Int):oneL (34::(x.flatMap escC++[34])++r)=.ok ⟨4,x,0⟩ r:=by
 have:=qdI x [] r 1;rw[List.nil_append]at this;unfold oneL;rw[List.cons_append,List.headD_cons,if_neg (by decide),if_neg (by decide),if_pos rfl,List.tail_cons,List.append_assoc];exact this
theorem j9:∀ x∈signsL,x≠[]/\x.length<=3/\isSm (x.headD 0)=false/\isGr (x.headD 0)=false/\qx (x.headD 0)=false/\x.headD 0≠34/\isBl (x.headD 0)=false/\(∀ c∈x,isBl c=false)/\¬ (x.headD 0=45/\x.tail.head?=some 45):=by decide +kernel
theorem qhH{x:List Int}{c:Int}(hc:isBl c=true)(h:c∈x):x ∉ signsL:=fun hx=>by
 have:=(j9 x hx).2.2.2.2.2.2.2.1 c h;rw[hc]at this;cases this
theorem Jh{x r:List Int}(hr:Ends r){k:Nat}(hk:x.length<k)(hl:k<=(x++r).length):(x++r).take k ∉ signsL:=by
 rcases hr with rfl | ⟨c,l,rfl,hc⟩
 ·rw[List.append_nil]at hl;omega
 ·refine qhH hc ?_
  have e:x++c::l=(x++[c])++l:=by simp
  rw[e,List.take_append,List.take_of_length_le (by simp;omega)];simp
theorem qfY{x r:List Int}(hx:x∈signsL)(hr:Ends r):oneL (x++r)=.ok ⟨5,x,0⟩ r:=by
 obtain⟨h1,h2,h3,h4,h5,h6,-⟩:=j9 x hx;have hp:0<x.length:=List.length_pos_iff.2 h1;have hl:(x++r).length=x.length+r.length:=List.length_append;unfold oneL;rw[ji h1,if_neg (by rw[h3,h4];simp),if_neg (by rw[h5];simp),if_neg h6];have ht:(x++r).take x.length=x:=by simp
 have hd:(x++r).drop x.length=r:=by simp
 unfold QX;have hc:x.length=1∨x.length=2∨x.length=3:=by omega
 rcases hc with hc | hc | hc
 ·rw[if_neg (fun h=>Jh hr (by omega) h.1 h.2),if_neg (fun h=>Jh hr (by omega) h.1 h.2)]
  rw[hc]at ht hd;rw[ht,hd,if_pos ⟨by omega,hx⟩]
 ·rw[if_neg (fun h=>Jh hr (by omega) h.1 h.2)]
  rw[hc]at ht hd;rw[ht,hd,if_pos ⟨by omega,hx⟩]
 ·rw[hc]at ht hd
  rw[ht,hd,if_pos ⟨by omega,hx⟩]
theorem qhz{t:Tk}(ht:MayT t){r:List Int}(hr:Ends r):oneL (putL t++r)=.ok t r:=by
 obtain⟨k,x,n⟩:=t;rcases ht with ⟨rfl,⟨h1,h2,h3,h4,h5,h6⟩,rfl⟩ | ⟨rfl,⟨h1,h2,h3,h4,h5,h6⟩,rfl⟩ | ⟨rfl,h1,h2,rfl⟩ | ⟨rfl,h1,rfl⟩ | ⟨rfl,h1,rfl⟩ | ⟨rfl,h1,rfl⟩
 ·show oneL (x++r)=_
  have h4':isSm (x.headD 0)=true:=h4;rw[QC h1 h3 (.inl h4') hr,if_neg h5,if_neg h6,if_neg (by omega),if_neg];have:=of_decide_eq_true (show decide (97<=x.headD 0/\x.headD 0<=122)=true from h4');intro h;have:=of_decide_eq_true (show decide (65<=x.headD 0/\x.headD 0<=90)=true from h);omega
 ·show oneL (x++r)=_
  have h4':isGr (x.headD 0)=true:=h4;rw[QC h1 h3 (.inr h4') hr,if_neg h5,if_neg h6,if_neg (by omega),if_pos h4']
 ·show oneL (digL n.toNat++r)=_
  have h1':0<=n:=h1;have h2':n<=1099511627776:=h2;rw[qhs n.toNat (by omega) hr,Int.toNat_of_nonneg h1']
 ·exact qhJ x r
 ·show oneL (x++r)=_
  rcases h1 with h1 | h1
  ·obtain⟨a1,a2,a3⟩:=je x (List.mem_append.2 (.inl h1))
   rw[QC a1 a2 (.inl a3) hr,if_pos h1]
  ·exact qfY h1 hr
 ·show oneL (x++r)=_
  have h1':x∈primsL:=h1;obtain⟨a1,a2,a3⟩:=je x (List.mem_append.2 (.inr h1'));have hn:x ∉ wordsL:=by
   have:∀ y∈primsL,y ∉ wordsL:=by decide +kernel
   exact this x h1'
  rw[QC a1 a2 (.inl a3) hr,if_neg hn,if_pos h1']
inductive Rs where
 | ok (ps:List (Tk × Nat))
 | err (e:Int) (o:Nat)
def Rs.cons(p:Tk × Nat):Rs->Rs
 | .ok ps=> .ok (p::ps)
 | .err e o=> .err e o
def qD:Nat->List Int->Nat->Rs
 | 0,_,_=> .ok []
 | f+1,l,o=>
  if qj l=[] then .ok []
  else match oneL (qj l) with
   | .err e d=> .err e (o+(l.length-(qj l).length)+d)
   | .ok t r=>(qD f r (o+(l.length-r.length))).cons (t,o+(l.length-(qj l).length))
theorem Jf:∀ (n:Nat) (l:List Int),l.length<=n->∃ u,l=u++qj l
 | _,[],_=>⟨[],by rw[zu];rfl⟩
 | 0,c::l,h=>by simp at h
 | n+1,c::l,h=>by
  have hl:l.length<=n:=by simpa using h
  rw[qj];split
  ·obtain⟨u,hu⟩:=Jf n l hl
   exact⟨c::u,by rw[List.cons_append,<- hu]⟩
  split
  ·have h1:=qO (fun x:Int=>decide (x≠10)) l
   obtain⟨u,hu⟩:=Jf n (l.dropWhile fun x=>decide (x≠10)) (by omega);exact⟨c::(l.takeWhile (fun x=>decide (x≠10))++u),by rw[List.cons_append,List.append_assoc,<- hu,List.takeWhile_append_dropWhile]⟩
  ·exact⟨[],rfl⟩
theorem QV:∀ (n:Nat) (l acc:List Int) (d:Nat) (t:Tk) (r:List Int),l.length<=n->quoL l acc d=.ok t r->(∀ c∈l,cpB c=true)->(∀ c∈acc,cpB c=true)->(t.k=4/\t.n=0/\∀ c∈t.x,cpB c=true)/\(∃ u,l=u++r)/\r.length<l.length
 | _,[],acc,d,t,r,_,h,_,_=>by rw[quoL]at h;cases h
 | 0,c::l,_,_,_,_,h,_,_,_=>by simp at h
 | n+1,c::l,acc,d,t,r,hn,h,hl,ha=>by
  have hn':l.length<=n:=by simpa using hn
  rw[quoL]at h;split at h
  ·injection h with h1 h2
   subst h1 h2;exact⟨⟨rfl,rfl,ha⟩,⟨[c],rfl⟩,by simp⟩
  split at h
  ·cases h
  split at h
  ·split at h
   ·cases h
   ·rename_i hv
    have hlt:l.tail.length<=n:=by rw[List.length_tail];omega
    have hne:l≠[]:=fun e=>hv (by rw[e];decide);have hev:cpB (escV (l.headD 0))=true:=by
     unfold escV at hv ⊢;repeat' split
     all_goals first | decide | simp_all
    obtain⟨h1,⟨u,hu⟩,h3⟩:=QV n l.tail _ _ t r hlt h (fun x hx=>hl x (by simp[List.mem_of_mem_tail hx])) (fun x hx=>by
     rcases List.mem_append.1 hx with hx | hx
     ·exact ha x hx
     ·obtain rfl:=List.mem_singleton.1 hx;exact hev)
    cases l with
    | nil=>exact absurd rfl hne
    | cons e l=>exact⟨h1,⟨c::e::u,by rw[List.cons_append,List.cons_append,<- hu];rfl⟩,by simp only[List.tail_cons]at h3;simp only[List.length_cons];omega⟩
  ·obtain⟨h1,⟨u,hu⟩,h3⟩:=QV n l _ _ t r hn' h (fun x hx=>hl x (by simp[hx])) (fun x hx=>by
    rcases List.mem_append.1 hx with hx | hx
    ·exact ha x hx
    ·obtain rfl:=List.mem_singleton.1 hx;exact hl _ (by simp))
   exact⟨h1,⟨c::u,by rw[List.cons_append,<- hu]⟩,by simp only[List.length_cons];omega⟩
theorem qaY(l:List Int)(h:∀ c∈l,qx c=true):0<=valN l:=by
 have:∀ (l:List Int) (a:Int),0<=a->(∀ c∈l,qx c=true)->0<=l.foldl (fun n c=>10*n+(c-48)) a:=by
  intro l;induction l with
  | nil=>intro a ha _;exact ha
  | cons c l ih=>
   intro a ha hc;have h1:=of_decide_eq_true (show decide (48<=c/\c<=57)=true from hc c (by simp));exact ih _ (by show 0<=10*a+(c-48);omega) fun x hx=>hc x (by simp[hx])
 exact this l 0 (by omega) h
theorem qI(p:Int->Bool):∀ l:List Int,∀ c∈l.takeWhile p,p c=true
 | [],c,h=>by simp at h
 | a::l,c,h=>by
  rw[List.takeWhile_cons]at h;split at h
  ·rcases List.mem_cons.1 h with rfl | h
   ·assumption
   ·exact qI p l c h
  ·simp at h
theorem Q5{p:Int->Bool}{l:List Int}(h:p (l.headD 0)=true)(hne:l≠[]):l.takeWhile p≠[]/\(l.takeWhile p).headD 0=l.headD 0/\(l.dropWhile p).length<l.length:=by
 cases l with
 | nil=>exact absurd rfl hne
 | cons a l=>
  have ha:p a=true:=h;rw[List.takeWhile_cons,if_pos ha,List.dropWhile_cons,if_pos ha];exact⟨by simp,rfl,by have:=qO p l;simp only[List.length_cons];omega⟩
theorem jL{l:List Int}{t:Tk}{r:List Int}(hne:l≠[])(h:oneL l=.ok t r)(hl:∀ c∈l,cpB c=true):MayT t/\(∃ u,l=u++r)/\r.length<l.length:=by
 unfold oneL at h;split at h
 ·rename_i hh
  have hw:isW (l.headD 0)=true:=qgi hh;obtain⟨h1,h2,h3⟩:=Q5 (p:=isW) hw hne;have hsuf:∃ u,l=u++l.dropWhile isW:=⟨l.takeWhile isW,(List.takeWhile_append_dropWhile).symm⟩
  have hall:=qI isW l;unfold Jl at h;split at h
  ·injection h with e1 e2;subst e1 e2
   exact⟨.inr (.inr (.inr (.inr (.inl ⟨rfl,.inl ‹_›,rfl⟩)))),hsuf,h3⟩
  split at h
  ·injection h with e1 e2;subst e1 e2
   exact⟨.inr (.inr (.inr (.inr (.inr ⟨rfl,‹_›,rfl⟩)))),hsuf,h3⟩
  split at h
  ·cases h
  rename_i n1 n2 n3;split at h
  ·rename_i hg
   injection h with e1 e2;subst e1 e2
   exact⟨.inr (.inl ⟨rfl,⟨h1,by show (l.takeWhile isW).length<=24;omega,hall,by show (if true=true then isGr ((l.takeWhile isW).headD 0)=true else _);rw[if_pos rfl,h2];exact hg,n1,n2⟩,rfl⟩),hsuf,h3⟩
  ·rename_i hg
   injection h with e1 e2;subst e1 e2
   exact⟨.inl ⟨rfl,⟨h1,by show (l.takeWhile isW).length<=24;omega,hall,by show (if false=true then _ else isSm ((l.takeWhile isW).headD 0)=true);rw[if_neg (by decide),h2];exact hh.resolve_right hg,n1,n2⟩,rfl⟩,hsuf,h3⟩
 split at h
 ·rename_i hd
  obtain⟨h1,h2,h3⟩:=Q5 (p:=qx) hd hne;unfold numL at h;split at h
  ·cases h
  split at h
  ·cases h
  injection h with e1 e2;subst e1 e2
  exact⟨.inr (.inr (.inl ⟨rfl,qaY _ (qI qx l),by show valN _<=_;omega,rfl⟩)),⟨l.takeWhile qx,(List.takeWhile_append_dropWhile).symm⟩,h3⟩
 split at h
 ·have hlt:l.tail.length<l.length:=by
   cases l with
   | nil=>exact absurd rfl hne
   | cons a l=>simp
  obtain⟨⟨a1,a2,a3⟩,⟨u,hu⟩,h3⟩:=QV _ l.tail [] 1 t r (Nat.le_refl _) h (fun x hx=>hl x (List.mem_of_mem_tail hx)) (fun x hx=>by simp at hx);refine⟨.inr (.inr (.inr (.inl ⟨a1,a3,a2⟩))),?_,by omega⟩;cases l with
  | nil=>exact absurd rfl hne
  | cons a l=>exact⟨a::u,by rw[List.cons_append,<- hu];rfl⟩
 ·unfold QX at h
  split at h
  ·rename_i hc
   injection h with e1 e2;subst e1 e2
   exact⟨.inr (.inr (.inr (.inr (.inl ⟨rfl,.inr hc.2,rfl⟩)))),⟨l.take 3,(List.take_append_drop 3 l).symm⟩,by rw[List.length_drop];omega⟩
  split at h
  ·rename_i hc
   injection h with e1 e2;subst e1 e2
   exact⟨.inr (.inr (.inr (.inr (.inl ⟨rfl,.inr hc.2,rfl⟩)))),⟨l.take 2,(List.take_append_drop 2 l).symm⟩,by rw[List.length_drop];omega⟩
  split at h
  ·rename_i hc
   injection h with e1 e2;subst e1 e2
   exact⟨.inr (.inr (.inr (.inr (.inl ⟨rfl,.inr hc.2,rfl⟩)))),⟨l.take 1,(List.take_append_drop 1 l).symm⟩,by rw[List.length_drop];omega⟩
  ·cases h
theorem qc3{l u r:List Int}(h:l=u++r)(hl:∀ c∈l,cpB c=true):∀ c∈r,cpB c=true:=fun c hc=>hl c (by rw[h];simp[hc])
theorem QZ{l:List Int}(hl:∀ c∈l,cpB c=true):∀ c∈qj l,cpB c=true:=by
 obtain⟨u,hu⟩:=Jf _ l (Nat.le_refl _);exact qc3 hu hl
theorem ze{f:Nat}{l:List Int}{o:Nat}(h:qj l≠[]):qD (f+1) l o=(match oneL (qj l) with
   | .err e d=> .err e (o+(l.length-(qj l).length)+d)
   | .ok t r=>(qD f r (o+(l.length-r.length))).cons (t,o+(l.length-(qj l).length))):=by
 rw[qD,if_neg h]
theorem zF{f:Nat}{l:List Int}{o:Nat}(h:qj l=[]):qD (f+1) l o=.ok []:=by rw[qD,if_pos h]
theorem qeS:∀ (f g:Nat) (l:List Int) (o:Nat),(∀ c∈l,cpB c=true)->l.length<f->l.length<g->qD f l o=qD g l o
 | 0,_,_,_,_,h,_=>by omega
 | _,0,_,_,_,_,h=>by omega
 | f+1,g+1,l,o,hc,hf,hg=>by
  by_cases h:qj l=[]
  ·rw[zF h,zF h]
  ·rw[ze h,ze h]
   have hs:=jR _ l (Nat.le_refl _);cases e:oneL (qj l) with
   | err x d=>rfl
   | ok t r=>
    obtain⟨_,⟨u,hu⟩,hr⟩:=jL h e (QZ hc);show Rs.cons _ (qD f r _)=Rs.cons _ (qD g r _)
    rw[qeS f g r _ (qc3 hu (QZ hc)) (by omega) (by omega)]
inductive Wr:List Tk->List Int->Prop
 | nil {e:List Int} (h:Blanks e):Wr [] e
 | cons {g l:List Int} {t:Tk} {ts:List Tk} (hg:Blanks g) (ht:MayT t) (hw:Wr ts l) (he:Ends l):Wr (t::ts) (g++(putL t++l))
theorem qbr{t:Tk}(ht:MayT t){r:List Int}(hr:Ends r):∃ c l,putL t++r=c::l/\isBl c=false/\¬ (c=45/\l.head?=some 45):=by
 have hW:∀ c,isW c=true->isBl c=false/\c≠45:=fun c h=>by
  have:c=32∨c=9∨c=10∨c=13∨c=45->isW c=false:=by rintro (rfl | rfl | rfl | rfl | rfl) <;> decide
  refine⟨?_,fun e=>?_⟩
  ·cases hb:isBl c
   ·rfl
   ·have:=this (by rcases qa9 hb with e | e | e | e <;> simp[e])
    rw[h]at this;cases this
  ·have:=this (by simp[e])
   rw[h]at this;cases this
 have name:∀ x:List Int,x≠[]->(∀ c∈x,isW c=true)->∃ c l,x++r=c::l/\isBl c=false/\¬ (c=45/\l.head?=some 45):=fun x h1 h2=>by
  cases x with
  | nil=>exact absurd rfl h1
  | cons a x=>
   have:=hW a (h2 a (by simp));exact⟨a,x++r,rfl,this.1,fun h=>this.2 h.1⟩
 obtain⟨k,x,n⟩:=t;rcases ht with ⟨rfl,⟨h1,h2,h3,h4,h5,h6⟩,rfl⟩ | ⟨rfl,⟨h1,h2,h3,h4,h5,h6⟩,rfl⟩ | ⟨rfl,h1,h2,rfl⟩ | ⟨rfl,h1,rfl⟩ | ⟨rfl,h1,rfl⟩ | ⟨rfl,h1,rfl⟩
 ·exact name x h1 h3
 ·exact name x h1 h3
 ·exact name (digL n.toNat) (j4 _) fun c hc=>by have:=jF _ c hc;unfold isW;simp[this]
 ·exact⟨34,_,rfl,by decide,by rintro⟨h,-⟩;cases h⟩
 ·show ∃ c l,x++r=c::l/\_
  rcases h1 with h1 | h1
  ·obtain⟨a1,a2,-⟩:=je x (List.mem_append.2 (.inl h1))
   exact name x a1 a2
  ·obtain⟨a1,-,-,-,-,-,a7,-,a9⟩:=j9 x h1
   cases x with
   | nil=>exact absurd rfl a1
   | cons a x=>
    refine⟨a,x++r,rfl,a7,?_⟩;rintro⟨b1,b2⟩;cases x with
    | nil=>
     rcases hr with rfl | ⟨c,l,rfl,hc⟩
     ·cases b2
     ·injection b2 with b2
      rw[b2]at hc;revert hc;decide
    | cons b x=>exact a9 ⟨b1,b2⟩
 ·have h1':x∈primsL:=h1
  obtain⟨a1,a2,-⟩:=je x (List.mem_append.2 (.inr h1'));exact name x a1 a2
theorem qfR{t:Tk}(ht:MayT t){r:List Int}(hr:Ends r):qj (putL t++r)=putL t++r/\putL t++r≠[]:=by
 obtain⟨c,l,e,h1,h2⟩:=qbr ht hr;rw[e];exact⟨jm h1 h2,by simp⟩
theorem qhS{ts:List Tk}{l:List Int}(h:Wr ts l):∀ (f o:Nat),l.length<f->∃ ps,qD f l o=.ok ps/\ps.map (·.1)=ts:=by
 induction h with
 | nil he=>
  intro f o hf;cases f with
  | zero=>omega
  | succ f=>
   have:=QY he [];rw[List.append_nil,zu]at this;exact⟨[],zF this,rfl⟩
 | cons hg ht hw he ih=>
  rename_i g l t ts;intro f o hf;cases f with
  | zero=>omega
  | succ f=>
   obtain⟨h1,h2⟩:=qfR ht he;have hs:qj (g++(putL t++l))=putL t++l:=by rw[QY hg,h1]
   have hp:0<(putL t).length:=by
    rcases Nat.eq_zero_or_pos (putL t).length with h0 | h0
    ·have h3:=List.eq_nil_of_length_eq_zero h0
     obtain⟨c,q,e,h4,-⟩:=qbr ht (r:=[]) (.inl rfl);rw[h3]at e;cases e
    ·exact h0
   obtain⟨ps,h3,h4⟩:=ih f (o+((g++(putL t++l)).length-l.length)) (by simp only[List.length_append]at hf;omega);refine⟨(t,o+((g++(putL t++l)).length-(putL t++l).length))::ps,?_,by rw[List.map_cons,h4]⟩;rw[ze (by rw[hs];exact h2),hs,qhz ht he];show Rs.cons _ (qD f l _)=_
   rw[h3];rfl
theorem jc:∀ (n:Nat) (l:List Int),l.length<=n->qj (qj l)=qj l
 | _,[],_=>by rw[zu,zu]
 | 0,c::l,h=>by simp at h
 | n+1,c::l,h=>by
  have hl:l.length<=n:=by simpa using h
  by_cases h1:isBl c=true
  ·rw[QG h1];exact jc n l hl
  ·have h1':isBl c=false:=by simpa using h1
   by_cases h2:c=45/\l.head?=some 45
   ·have e:qj (c::l)=qj (l.dropWhile fun x=>decide (x≠10)):=by rw[qj,if_neg h1,if_pos h2]
    have h3:=qO (fun x:Int=>decide (x≠10)) l;rw[e];exact jc n _ (by omega)
   ·rw[jm h1' h2,jm h1' h2]
theorem qby:∀ (f:Nat) (l:List Int) (o:Nat) (ps:List (Tk × Nat)),(∀ c∈l,cpB c=true)->qD f l o=.ok ps->∀ p∈ps,MayT p.1
 | 0,l,o,ps,_,h,p,hp=>by injection h with h;subst h;simp at hp
 | f+1,l,o,ps,hc,h,p,hp=>by
  by_cases hs:qj l=[]
  ·rw[zF hs]at h;injection h with h;subst h;simp at hp
  ·rw[ze hs]at h
   cases e:oneL (qj l) with
   | err x d=>rw[e]at h;cases h
   | ok t r=>
    rw[e]at h;obtain⟨hm,⟨u,hu⟩,hr⟩:=jL hs e (QZ hc);cases e2:qD f r (o+(l.length-r.length)) with
    | err x d=>
     have h':Rs.cons (t,o+(l.length-(qj l).length)) (qD f r (o+(l.length-r.length)))=.ok ps:=h;rw[e2]at h';cases h'
    | ok qs=>
     have h':Rs.cons (t,o+(l.length-(qj l).length)) (qD f r (o+(l.length-r.length)))=.ok ps:=h;rw[e2]at h';injection h' with h'
     subst h';rcases List.mem_cons.1 hp with rfl | hp
     ·exact hm
     ·exact qby f r _ qs (qc3 hu (QZ hc)) e2 p hp
def jW:List Tk->List Int
 | []=>[]
 | [t]=>putL t
 | t::u::ts=>putL t++(32::jW (u::ts))
theorem qbG:∀ (ts:List Tk),(∀ t∈ts,MayT t)->∀ g,Blanks g->Wr ts (g++jW ts)
 | [],_,g,hg=>by rw[show jW []=[] from rfl,List.append_nil];exact .nil hg
 | [t],h,g,hg=>by
  have:=Wr.cons hg (h t (by simp)) (.nil .nil) (.inl rfl);rwa [List.append_nil]at this
 | t::u::ts,h,g,hg=> .cons hg (h t (by simp)) (qbG (u::ts) (fun x hx=>h x (by simp[List.mem_cons.1 hx])) [32] (.bl (by decide) .nil)) (.inr ⟨32,_,rfl,by decide⟩)
end Go.Proofs.YtlmmaoobembadaaGreatDoor.Mu
namespace Go.Proofs.YtlmmaoobembadaaGreatDoor.Mu
open Go
set_option maxRecDepth 100000
def asc(s:List UInt8):List Int:=s.map fun u=>(u.toNat:Int)
def byt(l:List Int):List UInt8:=l.map fun c=>UInt8.ofNat c.toNat
theorem zB:∀ {l:List Int},(∀ c∈l,0<=c/\c<128)->encs l=byt l
 | [],_=>rfl
 | c::l,h=>by
  rw[qq,zB fun x hx=>h x (by simp[hx]),enc1 (h c (by simp)).1 (h c (by simp)).2];rfl
theorem J5:∀ {l:List Int},(∀ c∈l,0<=c/\c<128)->asc (byt l)=l
 | [],_=>rfl
 | c::l,h=>by
  have h1:=h c (by simp);have ih:=J5 (l:=l) fun x hx=>h x (by simp[hx]);show ((UInt8.ofNat c.toNat).toNat:Int)::asc (byt l)=c::l
  rw[ih,UInt8.toNat_ofNat'];congr 1
  rw[Nat.mod_eq_of_lt (by omega)];omega
theorem qc0:∀ (s:List UInt8),byt (asc s)=s
 | []=>rfl
 | u::s=>by
  show UInt8.ofNat ((u.toNat:Int)).toNat::byt (asc s)=u::s
  rw[qc0 s];simp
theorem qcS{s:List UInt8}(h:∀ u∈s,u.toNat<128):∀ c∈asc s,0<=c/\c<128:=fun c hc=>by
 obtain⟨u,hu,rfl⟩:=List.mem_map.1 hc;have:=h u hu;omega
theorem qfk{s:List UInt8}(h:∀ u∈s,u.toNat<128):encs (asc s)=s:=by
 rw[zB (qcS h),qc0]
theorem jE{c:Int}(h:0<=c/\c<128):cpB c=true:=(qJ c).2 (.inl ⟨h.1,by omega⟩)
theorem qgI{s:List UInt8}(h:∀ u∈s,u.toNat<128):Cps s (asc s) []:=by
 have:=Cps.nil (cs:=asc s) fun c hc=>jE (qcS h c hc);rwa [qfk h]at this
theorem qil{c:Int}(hc:cpB c=true)(h:128<=c):∀ u∈enc c,128<=u.toNat:=by
 have hb:=(qJ c).1 hc;intro u hu;by_cases h2:c<2048
 ·rw[enc2 h h2]at hu
  simp only[List.mem_cons,List.mem_nil_iff,or_false]at hu;rcases hu with rfl | rfl <;> rw[UInt8.toNat_ofNat'] <;> omega
 by_cases h3:c<65536
 ·rw[enc3 hc (by omega) h3]at hu
  simp only[List.mem_cons,List.mem_nil_iff,or_false]at hu;rcases hu with rfl | rfl | rfl <;> rw[UInt8.toNat_ofNat'] <;> omega
 ·rw[enc4 hc (by omega)]at hu
  simp only[List.mem_cons,List.mem_nil_iff,or_false]at hu;rcases hu with rfl | rfl | rfl | rfl <;> rw[UInt8.toNat_ofNat'] <;> omega
def escB(u:UInt8):List UInt8:=if u=10 then [92,110] else if u=9 then [92,116] else if u=34∨u=92 then [92,u] else [u]
theorem qg5{u:UInt8}(h:128<=u.toNat):escB u=[u]:=by
 unfold escB;rw[if_neg (by rintro rfl;revert h;decide),if_neg (by rintro rfl;revert h;decide),if_neg (by rintro (rfl | rfl) <;> revert h <;> decide)]
theorem qgf:∀ {l:List UInt8},(∀ u∈l,128<=u.toNat)->l.flatMap escB=l
 | [],_=>rfl
 | u::l,h=>by
  rw[List.flatMap_cons,qg5 (h u (by simp)),qgf fun x hx=>h x (by simp[hx])];rfl
theorem qg8{c:Int}(hc:cpB c=true):encs (escC c)=(enc c).flatMap escB:=by
 by_cases h:c<128
 ·have h0:0<=c:=by have:=(qJ c).1 hc;omega
  have key:∀ n:Fin 128,encs (escC (n.val:Int))=(enc (n.val:Int)).flatMap escB:=by decide +kernel
  have:=key ⟨c.toNat,by omega⟩;rwa [show (((⟨c.toNat,by omega⟩:Fin 128).val:Nat):Int)=c from Int.toNat_of_nonneg h0]at this
 ·rw[qgf (qil hc (by omega))]
  unfold escC;rw[if_neg (by omega),if_neg (by omega),if_neg (by omega)];simp[encs]
theorem Jy:∀ {cs:List Int},AllCp cs->encs (cs.flatMap escC)=(encs cs).flatMap escB
 | [],_=>rfl
 | c::cs,h=>by
  rw[List.flatMap_cons,qY,qg8 h.cons.1,Jy h.cons.2,qq,List.flatMap_append]
theorem qg6{c:Int}(hc:cpB c=true):AllCp (escC c):=by
 unfold escC;repeat' split
 ·intro x hx;simp at hx;rcases hx with rfl | rfl <;> decide
 ·intro x hx;simp at hx;rcases hx with rfl | rfl <;> decide
 ·intro x hx;simp at hx;rcases hx with rfl | rfl
  ·decide
  ·exact hc
 ·intro x hx;simp at hx;subst hx;exact hc
theorem qin{cs:List Int}(h:AllCp cs):AllCp (cs.flatMap escC):=fun x hx=>by
 obtain⟨c,hc,hx⟩:=List.mem_flatMap.1 hx;exact qg6 (h c hc) x hx
def digB(n:Nat):List UInt8:=byt (digL n)
theorem qc8{c:Int}(h:qx c=true):0<=c/\c<128:=by
 have:48<=c/\c<=57:=by simpa [qx] using h
 omega
theorem qfe(n:Nat):encs (digL n)=digB n:=zB fun c hc=>qc8 (jF n c hc)
theorem j0{n:Nat}(h:n<10):digB n=[UInt8.ofNat (48+n)]:=by
 unfold digB;rw[digL,dif_pos h];show [UInt8.ofNat (48+(n:Int)).toNat]=_
 rw[show (48+(n:Int)).toNat=48+n by omega]
theorem Ju{n:Nat}(h:¬ n<10):digB n=digB (n / 10)++[UInt8.ofNat (48+n % 10)]:=by
 unfold digB;conv=>lhs;rw[digL,dif_neg h];rw[show byt (digL (n / 10)++[48+((n % 10:Nat):Int)])=byt (digL (n / 10))++[UInt8.ofNat (48+((n % 10:Nat):Int)).toNat] from List.map_append ..];rw[show (48+((n % 10:Nat):Int)).toNat=48+n % 10 by omega]
theorem qbh:∀ (k n:Nat),n<10 ^ (k+1)->(digB n).length<=k+1
 | 0,n,h=>by rw[j0 (by simpa using h)];simp
 | k+1,n,h=>by
  by_cases h1:n<10
  ·rw[j0 h1];simp
  ·rw[Ju h1,List.length_append]
   have:=qbh k (n / 10) (by rw[Nat.div_lt_iff_lt_mul (by decide)];rw[Nat.pow_succ]at h;exact h);simp only[List.length_singleton];omega
theorem j6{c:Int}(h:isW c=true):0<=c/\c<128:=by
 simp only[isW,qx,isSm,isGr,Bool.or_eq_true,decide_eq_true_eq]at h;omega
def putB(k:Int)(s:List UInt8)(n:Int):List UInt8:=if k=3 then digB n.toNat else if k=4 then 34::(s.flatMap escB++[34]) else s
theorem qdH{t:Tk}(h:AllCp t.x):encs (putL t)=putB t.k (encs t.x) t.n:=by
 unfold putL putB;split
 ·exact qfe _
 split
 ·rw[qq,qY,Jy h];rfl
 ·rfl
theorem qgn{t:Tk}(h:AllCp t.x):AllCp (putL t):=by
 unfold putL;split
 ·exact fun c hc=>jE (qc8 (jF _ c hc))
 split
 ·intro c hc
  rcases List.mem_cons.1 hc with rfl | hc
  ·decide
  rcases List.mem_append.1 hc with hc | hc
  ·exact qin h c hc
  ·simp at hc;subst hc;decide
 ·exact h
def qt:List (Int × List UInt8 × Int)->List UInt8
 | []=>[]
 | [t]=>putB t.1 t.2.1 t.2.2
 | t::u::ts=>putB t.1 t.2.1 t.2.2++(32::qt (u::ts))
def Tk.b(t:Tk):Int × List UInt8 × Int:=(t.k,encs t.x,t.n)
theorem Zn:∀ {ts:List Tk},(∀ t∈ts,AllCp t.x)->encs (jW ts)=qt (ts.map Tk.b)
 | [],_=>rfl
 | [t],h=>qdH (h t (by simp))
 | t::u::ts,h=>by
  show encs (putL t++(32::jW (u::ts)))=putB t.k (encs t.x) t.n++(32::qt ((u::ts).map Tk.b))
  rw[qY,qdH (h t (by simp)),qq,Zn (ts:=u::ts) fun x hx=>h x (by simp[List.mem_cons.1 hx])];rfl
theorem qbF:∀ {ts:List Tk},(∀ t∈ts,AllCp t.x)->AllCp (jW ts)
 | [],_=>fun c hc=>by simp[jW]at hc
 | [t],h=>qgn (h t (by simp))
 | t::u::ts,h=>by
  have h1:=qgn (h t (by simp));have h2:=qbF (ts:=u::ts) fun x hx=>h x (by simp[List.mem_cons.1 hx]);exact h1.app fun c hc=>(List.mem_cons.1 hc).elim (fun e=>by rw[e];decide) (h2 c)
end Go.Proofs.YtlmmaoobembadaaGreatDoor.Mu
namespace Go.Proofs.YtlmmaoobembadaaGreatDoor.Mu
open Go
set_option maxRecDepth 100000
def zw:List (List UInt8):=wordsL.map byt
def zE:List (List UInt8):=primsL.map byt
def jQ:List (List UInt8):=signsL.map byt
theorem jf:∀ x∈wordsL,∀ c∈x,0<=c/\c<128:=by decide +kernel
theorem zZ:∀ x∈primsL,∀ c∈x,0<=c/\c<128:=by decide +kernel
theorem jb:∀ x∈signsL,∀ c∈x,0<=c/\c<128:=by decide +kernel
theorem zO{L:List (List Int)}(hL:∀ x∈L,∀ c∈x,0<=c/\c<128){s:List UInt8}{cs:List Int}{rest:List UInt8}(h:Cps s cs rest):s∈L.map byt↔rest=[]/\cs∈L:=by
 constructor
 ·intro hs
  obtain⟨x,hx,rfl⟩:=List.mem_map.1 hs;have k:Cps (byt x) x []:=by
   have:=Cps.nil (cs:=x) fun c hc=>jE (hL x hx c hc);rwa [zB (hL x hx)]at this
  obtain⟨rfl,rfl⟩:=h.uniq k;exact⟨rfl,hx⟩
 ·rintro⟨rfl,hx⟩
  rw[h.eq,zB (hL cs hx),List.append_nil];exact List.mem_map_of_mem hx
def qb9(s:List UInt8)(big:Bool):Prop:=s≠[]/\s.length<=24/\(∀ u∈s,isW (u.toNat:Int)=true)/\(if big=true then isGr ((asc s).headD 0)=true else isSm ((asc s).headD 0)=true)/\s ∉ zw/\s ∉ zE
theorem ZP(s:List UInt8):(asc s).length=s.length:=by simp[asc]
theorem qfG{s:List UInt8}{cs:List Int}{rest:List UInt8}(h:Cps s cs rest)(big:Bool):qb9 s big↔rest=[]/\qho cs big:=by
 constructor
 ·rintro⟨h1,h2,h3,h4,h5,h6⟩
  have hlow:∀ u∈s,u.toNat<128:=fun u hu=>by have:=j6 (h3 u hu);omega
  obtain⟨rfl,rfl⟩:=h.uniq (qgI hlow);refine⟨rfl,fun e=>h1 (List.eq_nil_of_length_eq_zero (by rw[<- ZP,e];rfl)),by rw[ZP];exact h2,fun c hc=>?_,h4,fun hx=>h5 ((zO jf h).2 ⟨rfl,hx⟩),fun hx=>h6 ((zO zZ h).2 ⟨rfl,hx⟩)⟩;obtain⟨u,hu,rfl⟩:=List.mem_map.1 hc;exact h3 u hu
 ·rintro⟨rfl,h1,h2,h3,h4,h5,h6⟩
  have hl:∀ c∈cs,0<=c/\c<128:=fun c hc=>j6 (h3 c hc);have hs:s=byt cs:=by rw[h.eq,zB hl,List.append_nil]
  have ha:asc s=cs:=by rw[hs,J5 hl]
  refine⟨fun e=>h1 (by rw[<- ha,e];rfl),by rw[<- ZP,ha];exact h2,fun u hu=>?_,by rw[ha];exact h4,fun hx=>h5 ((zO jf h).1 hx).2,fun hx=>h6 ((zO zZ h).1 hx).2⟩;exact h3 _ (by rw[<- ha];exact List.mem_map_of_mem hu)
def qA(t:Int × List UInt8 × Int):Prop:=
 (t.1=1/\qb9 t.2.1 false/\t.2.2=0)∨(t.1=2/\qb9 t.2.1 true/\t.2.2=0)∨(t.1=3/\0<=t.2.2/\t.2.2<=1099511627776/\t.2.1=[])∨(t.1=4/\(∃ ds,Cps t.2.1 ds [])/\t.2.2=0) ∨
  (t.1=5/\(t.2.1∈zw∨t.2.1∈jQ)/\t.2.2=0)∨(t.1=6/\t.2.1∈zE/\t.2.2=0)
theorem qhr{s:List UInt8}{cs:List Int}{rest:List UInt8}(h:Cps s cs rest):s=[]↔rest=[]/\cs=[]:=by
 constructor
 ·intro e
  have e1:=h.eq;rw[e]at e1;obtain⟨e2,e3⟩:=List.append_eq_nil_iff.1 e1.symm;refine⟨e3,?_⟩;cases cs with
  | nil=>rfl
  | cons c cs=>exact absurd (List.append_eq_nil_iff.1 e2).1 (qda h.cp.cons.1)
 ·rintro⟨rfl,rfl⟩;rw[h.eq];rfl
theorem qdt{s:List UInt8}{cs:List Int}{rest:List UInt8}(h:Cps s cs rest)(k n:Int):qA (k,s,n)↔rest=[]/\MayT ⟨k,cs,n⟩:=by
 unfold qA MayT;simp only[qfG h,qhr h,zw,jQ,zE,zO jf h,zO jb h,zO zZ h];have h4:(∃ ds,Cps s ds [])↔rest=[]/\∀ c∈cs,cpB c=true:=by
  constructor
  ·rintro⟨ds,hd⟩
   obtain⟨rfl,rfl⟩:=h.uniq hd;exact⟨rfl,h.cp⟩
  ·rintro⟨rfl,_⟩;exact⟨cs,h⟩
 rw[h4];constructor
 ·rintro (⟨a,⟨b,c⟩,d⟩ | ⟨a,⟨b,c⟩,d⟩ | ⟨a,b,c,d,e⟩ | ⟨a,⟨b,c⟩,d⟩ | ⟨a,(⟨b,c⟩ | ⟨b,c⟩),d⟩ | ⟨a,⟨b,c⟩,d⟩)
  ·exact⟨b,.inl ⟨a,c,d⟩⟩
  ·exact⟨b,.inr (.inl ⟨a,c,d⟩)⟩
  ·exact⟨d,.inr (.inr (.inl ⟨a,b,c,e⟩))⟩
  ·exact⟨b,.inr (.inr (.inr (.inl ⟨a,c,d⟩)))⟩
  ·exact⟨b,.inr (.inr (.inr (.inr (.inl ⟨a,.inl c,d⟩))))⟩
  ·exact⟨b,.inr (.inr (.inr (.inr (.inl ⟨a,.inr c,d⟩))))⟩
  ·exact⟨b,.inr (.inr (.inr (.inr (.inr ⟨a,c,d⟩))))⟩
 ·rintro⟨b,(⟨a,c,d⟩ | ⟨a,c,d⟩ | ⟨a,e,c,d⟩ | ⟨a,c,d⟩ | ⟨a,(c | c),d⟩ | ⟨a,c,d⟩)⟩
  ·exact .inl ⟨a,⟨b,c⟩,d⟩
  ·exact .inr (.inl ⟨a,⟨b,c⟩,d⟩)
  ·exact .inr (.inr (.inl ⟨a,e,c,b,d⟩))
  ·exact .inr (.inr (.inr (.inl ⟨a,⟨b,c⟩,d⟩)))
  ·exact .inr (.inr (.inr (.inr (.inl ⟨a,.inl ⟨b,c⟩,d⟩))))
  ·exact .inr (.inr (.inr (.inr (.inl ⟨a,.inr ⟨b,c⟩,d⟩))))
  ·exact .inr (.inr (.inr (.inr (.inr ⟨a,⟨b,c⟩,d⟩))))
theorem qgl{t:Tk}(h:MayT t):AllCp t.x:=by
 intro c hc;rcases h with ⟨_,h,_⟩ | ⟨_,h,_⟩ | ⟨_,_,_,h⟩ | ⟨_,h,_⟩ | ⟨_,(h | h),_⟩ | ⟨_,h,_⟩
 ·exact jE (j6 (h.2.2.1 c hc))
 ·exact jE (j6 (h.2.2.1 c hc))
 ·rw[h]at hc;simp at hc
 ·exact h c hc
 ·exact jE (jf _ h c hc)
 ·exact jE (jb _ h c hc)
 ·exact jE (zZ _ h c hc)
theorem qi5{t:Tk}(h:MayT t):qA t.b:=(qdt (Cps.nil (qgl h)) t.k t.n).2 ⟨rfl,h⟩
theorem qix{t:Int × List UInt8 × Int}(h:qA t):∃ u:Tk,MayT u/\u.b=t:=by
 obtain⟨cs,rest,hc⟩:=qbe _ t.2.1 (Nat.le_refl _);obtain⟨rfl,hm⟩:=(qdt hc t.1 t.2.2).1 h;refine⟨⟨t.1,cs,t.2.2⟩,hm,?_⟩;have:=hc.eq;rw[List.append_nil]at this;show (t.1,encs cs,t.2.2)=t
 rw[<- this]
theorem qgc:∀ {ts:List (Int × List UInt8 × Int)},(∀ t∈ts,qA t)->∃ us:List Tk,(∀ u∈us,MayT u)/\us.map Tk.b=ts
 | [],_=>⟨[],by simp,rfl⟩
 | t::ts,h=>by
  obtain⟨u,hu,e⟩:=qix (h t (by simp));obtain⟨us,hus,e2⟩:=qgc (ts:=ts) fun x hx=>h x (by simp[hx]);exact⟨u::us,fun x hx=>(List.mem_cons.1 hx).elim (fun e=>e ▸ hu) (hus x),by rw[List.map_cons,e,e2]⟩
open Classical in
noncomputable def wrO (ts:List (Int × List UInt8 × Int)):List UInt8 × Int:=
 if ∀ t∈ts,qA t then (if (qt ts).length<=4000 then (qt ts,0) else ([],3)) else ([],2)
theorem qjd{ts:List (Int × List UInt8 × Int)}(h:(wrO ts).2=0):(∀ t∈ts,qA t)/\(wrO ts).1=qt ts/\(qt ts).length<=4000:=by
 unfold wrO at h ⊢;split at h
 ·rename_i h1
  rw[if_pos h1];split at h
  ·rename_i h2
   rw[if_pos h2];exact⟨h1,rfl,h2⟩
  ·exact absurd h (by decide)
 ·exact absurd h (by decide)
structure Tn where
 k:Int
 s:List UInt8
 n:Int
 p:Pl
def Tn.b(t:Tn):Int × List UInt8 × Int:=(t.k,t.s,t.n)
def tn(cs:List Int)(p:Tk × Nat):Tn:=⟨p.1.k,encs p.1.x,p.1.n,ends p0 (cs.take p.2)⟩
structure To where
 l:List Tn
 e:Int
 q:Pl
def rsO(cs:List Int):Rs->To
 | .ok ps=>⟨ps.map (tn cs),0,z0⟩
 | .err e d=>⟨[],e,ends p0 (cs.take d)⟩
def tokO(n:Nat)(cs:List Int)(rest:List UInt8):To:=
 if (ot n cs rest).e=0 then rsO cs (qD (cs.length+1) cs 0) else ⟨[],(ot n cs rest).e,(ot n cs rest).q⟩
theorem qhu{n:Nat}{cs:List Int}{rest:List UInt8}:(ot n cs rest).e=0↔n<=4000/\rest=[]:=by
 unfold ot;split
 ·rename_i h
  constructor
  ·intro h';exact absurd h' (by decide)
  ·rintro⟨h',_⟩;omega
 split
 ·rename_i h h2;exact⟨fun _=>⟨by omega,h2⟩,fun _=>rfl⟩
 ·rename_i h h2
  constructor
  ·intro h';exact absurd h' (by show ¬ (90:Int)=0;decide)
  ·rintro⟨_,h'⟩;exact absurd h' h2
theorem qah:∀ (n:Nat) (l acc:List Int) (d:Nat) (e:Int) (o:Nat),l.length<=n->quoL l acc d=.err e o->e≠0
 | _,[],acc,d,e,o,_,h=>by rw[quoL]at h;injection h with h _;rw[<- h];decide
 | 0,c::l,acc,d,e,o,hl,_=>by simp at hl
 | n+1,c::l,acc,d,e,o,hl,h=>by
  have hl':l.length<=n:=by simpa using hl
  rw[quoL]at h;split at h
  ·cases h
  split at h
  ·injection h with h _;rw[<- h];decide
  split at h
  ·split at h
   ·injection h with h _;rw[<- h];decide
   ·exact qah n _ _ _ e o (by rw[List.length_tail];omega) h
  ·exact qah n _ _ _ e o hl' h
theorem qdx{l:List Int}{e:Int}{o:Nat}(h:oneL l=.err e o):e≠0:=by
 unfold oneL at h;split at h
 ·unfold Jl at h
  repeat' split at h
  all_goals first | cases h;done | (injection h with h _;rw[<- h];decide)
 split at h
 ·unfold numL at h
  repeat' split at h
  all_goals first | cases h;done | (injection h with h _;rw[<- h];decide)
 split at h
 ·exact qah _ _ _ _ e o (Nat.le_refl _) h
 ·unfold QX at h
  repeat' split at h
  all_goals first | cases h;done | (injection h with h _;rw[<- h];decide)
theorem qbx:∀ (f:Nat) (l:List Int) (o:Nat) (e:Int) (d:Nat),qD f l o=.err e d->e≠0
 | 0,l,o,e,d,h=>by cases h
 | f+1,l,o,e,d,h=>by
  by_cases hs:qj l=[]
  ·rw[zF hs]at h;cases h
  ·rw[ze hs]at h
   cases e1:oneL (qj l) with
   | err x y=>
    rw[e1]at h;injection h with h _
    rw[<- h];exact qdx e1
   | ok t r=>
    rw[e1]at h;have h':Rs.cons (t,o+(l.length-(qj l).length)) (qD f r (o+(l.length-r.length)))=.err e d:=h;cases e2:qD f r (o+(l.length-r.length)) with
    | ok qs=>rw[e2]at h';cases h'
    | err x y=>
     rw[e2]at h';have h2:Rs.err x y=.err e d:=h';injection h2 with h2 _
     rw[<- h2];exact qbx f r _ x y e2
theorem qiG{n:Nat}{cs:List Int}{rest:List UInt8}(h:(tokO n cs rest).e=0):n<=4000/\rest=[]/\∃ ps,qD (cs.length+1) cs 0=.ok ps/\tokO n cs rest=⟨ps.map (tn cs),0,z0⟩:=by
 unfold tokO at h ⊢;split at h
 ·rename_i h1
  rw[if_pos h1];obtain⟨h2,h3⟩:=qhu.1 h1;refine⟨h2,h3,?_⟩;cases e:qD (cs.length+1) cs 0 with
  | ok ps=>exact⟨ps,rfl,rfl⟩
  | err x y=>
   rw[e]at h;exact absurd h (qbx _ _ _ _ _ e)
 ·rename_i h1;exact absurd h h1
theorem qhC{us:List Tk}{cs:List Int}(hw:Wr us cs)(hl:(encs cs).length<=4000):tokO (encs cs).length cs []=⟨(tokO (encs cs).length cs []).l,0,z0⟩/\(tokO (encs cs).length cs []).l.map Tn.b=us.map Tk.b:=by
 obtain⟨ps,h1,h2⟩:=qhS hw (cs.length+1) 0 (by omega);have e:tokO (encs cs).length cs []=⟨ps.map (tn cs),0,z0⟩:=by
  unfold tokO;rw[if_pos (qhu.2 ⟨hl,rfl⟩),h1];rfl
 rw[e];refine⟨rfl,?_⟩;rw[<- h2,List.map_map,List.map_map];rfl
theorem qbS{ts:List (Int × List UInt8 × Int)}(h:(wrO ts).2=0):∃ cs,Cps (wrO ts).1 cs []/\(tokO (wrO ts).1.length cs []).e=0/\(tokO (wrO ts).1.length cs []).q=z0/\(tokO (wrO ts).1.length cs []).l.map Tn.b=ts:=by
 obtain⟨hm,e,hl⟩:=qjd h;obtain⟨us,hu,rfl⟩:=qgc hm;have hx:∀ t∈us,AllCp t.x:=fun t ht=>qgl (hu t ht);have e2:(wrO (us.map Tk.b)).1=encs (jW us):=by rw[e,Zn hx]
 rw[<- Zn hx]at hl;rw[e2];obtain⟨h1,h2⟩:=qhC (by simpa using qbG us hu [] .nil) hl;exact⟨jW us,Cps.nil (qbF hx),by rw[h1],by rw[h1],h2⟩
theorem qcT{n:Nat}{cs:List Int}{rest:List UInt8}(hc:AllCp cs)(h:(tokO n cs rest).e=0):(∀ t∈(tokO n cs rest).l.map Tn.b,qA t)/\((wrO ((tokO n cs rest).l.map Tn.b)).2=0∨(wrO ((tokO n cs rest).l.map Tn.b)).2=3):=by
 obtain⟨_,_,ps,h1,h2⟩:=qiG h;rw[h2];have hm:∀ t∈(ps.map (tn cs)).map Tn.b,qA t:=by
  intro t ht;obtain⟨x,hx,rfl⟩:=List.mem_map.1 ht;obtain⟨p,hp,rfl⟩:=List.mem_map.1 hx;exact qi5 (qby _ _ _ _ hc h1 p hp)
 refine⟨hm,?_⟩;unfold wrO;rw[if_pos hm];split
 ·exact .inl rfl
 ·exact .inr rfl
def Pl.mv(E Q:Pl):Pl:=⟨Q.a+E.a,Q.l+(E.l-1),if Q.l=1 then Q.c+(E.c-1) else Q.c⟩
end Go.Proofs.YtlmmaoobembadaaGreatDoor.Mu
namespace Go.Proofs.YtlmmaoobembadaaGreatDoor.Mu
open Go.RowKit Go.Shelf
set_option maxRecDepth 100000
def RL(w:World)(B:Nat)(A:Option Addr)(n:Nat)(ts:List (List UInt8)):Prop:=
 n=ts.length/\(0<n->∃ b off,A=some ⟨b,off,none⟩/\b<B/\∀ (j:Nat) (s:List UInt8),ts[j]?=some s->w.cell? ⟨b,off+j,none⟩=some (.string ⟨s.toArray⟩))
theorem RL.bel{w w':World}{A:Option Addr}{n:Nat}{ts:List (List UInt8)}(h:RL w w.heap.size A n ts)(hb:Bel w w'):RL w' w'.heap.size A n ts:=
 ⟨h.1,fun hn=>by
  obtain⟨b,off,e,hbb,hc⟩:=h.2 hn;exact⟨b,off,e,Nat.lt_of_lt_of_le hbb hb.size,fun j s hs=>(hb.cell (p:=⟨b,off+j,none⟩) hbb).trans (hc j s hs)⟩⟩
theorem RL.lit(w:World)(ts:List (List UInt8))(L:Array Value)(hL:(ts.map fun s=>Value.string ⟨s.toArray⟩).toArray=L)(n:Nat)(hn:n=ts.length)(t:TypeId):RL (w.alloc (.cells L t)) (w.alloc (.cells L t)).heap.size (some ⟨w.heap.size,0,none⟩) n ts:=by
 have hb:=blk1 w (.cells L t);refine⟨hn,fun _=>⟨w.heap.size,0,rfl,(Array.getElem?_eq_some_iff.1 hb).1,fun j s hs=>?_⟩⟩;unfold World.cell?
 rw[hb,<- hL];simp[hs]
end Go.Proofs.YtlmmaoobembadaaGreatDoor.Mu
namespace Go.Proofs.YtlmmaoobembadaaGreatDoor.Mu
open Go.RowKit Go.Shelf
set_option maxRecDepth 100000
def Tn.cells(t:Tn):List Value:=[.int .u8 t.k,.string ⟨t.s.toArray⟩,.int .i64 t.n,.int .i64 t.p.a,.int .i64 t.p.l,.int .i64 t.p.c]
def zz(xs:List Tn):List Value:=xs.flatMap Tn.cells
theorem JA(xs:List Tn):(zz xs).length=xs.length*6:=by
 induction xs with
 | nil=>rfl
 | cons x xs ih=>rw[zz,List.flatMap_cons,List.length_append];rw[zz]at ih;rw[ih,List.length_cons];show 6+_=_;omega
theorem qb2(xs:List Tn)(x:Tn):zz (xs++[x])=zz xs++x.cells:=by simp[zz]
def TnAt(w:World)(b o:Nat)(x:Tn):Prop:=
 w.cell? ⟨b,o,none⟩=some (.int .u8 x.k)/\w.cell? ⟨b,o+1,none⟩=some (.string ⟨x.s.toArray⟩)/\w.cell? ⟨b,o+2,none⟩=some (.int .i64 x.n)/\w.cell? ⟨b,o+3,none⟩=some (.int .i64 x.p.a)/\w.cell? ⟨b,o+4,none⟩=some (.int .i64 x.p.l)/\w.cell? ⟨b,o+5,none⟩=some (.int .i64 x.p.c)
def RTn(w:World)(B:Nat)(A:Option Addr)(n:Nat)(xs:List Tn):Prop:=
 n=xs.length/\(0<n->∃ b off,A=some ⟨b,off,none⟩/\b<B/\∀ (k:Nat) (x:Tn),xs[k]?=some x->TnAt w b (off+k*6) x)
theorem RTn.nil_{w:World}{B:Nat}{A:Option Addr}:RTn w B A 0 []:=⟨rfl,fun h=>absurd h (by omega)⟩
theorem RTn.bel{w w':World}{A:Option Addr}{n:Nat}{xs:List Tn}(h:RTn w w.heap.size A n xs)(hb:Bel w w'):RTn w' w'.heap.size A n xs:=
 ⟨h.1,fun hn=>by
  obtain⟨b,off,e,hbb,hc⟩:=h.2 hn;have key:∀ o,w'.cell? ⟨b,o,none⟩=w.cell? ⟨b,o,none⟩:=fun o=>hb.cell (p:=⟨b,o,none⟩) hbb;refine⟨b,off,e,Nat.lt_of_lt_of_le hbb hb.size,fun k x hx=>?_⟩;obtain⟨a0,a1,a2,a3,a4,a5⟩:=hc k x hx;exact⟨(key _).trans a0,(key _).trans a1,(key _).trans a2,(key _).trans a3,(key _).trans a4,(key _).trans a5⟩⟩
theorem jH:∀ (xs:List Tn) (k:Nat) (x:Tn),xs[k]?=some x->∀ j v,x.cells[j]?=some v->(zz xs)[k*6+j]?=some v
 | [],k,x,h,_,_,_=>by simp at h
 | y::xs,0,x,h,j,v,hv=>by
  simp at h;subst h;have hl:j<y.cells.length:=(List.getElem?_eq_some_iff.1 hv).1;show (y.cells++zz xs)[0*6+j]?=some v
  rw[show 0*6+j=j by omega,List.getElem?_append_left hl];exact hv
 | y::xs,k+1,x,h,j,v,hv=>by
  have ih:=jH xs k x (by simpa using h) j v hv;have hl:y.cells.length=6:=rfl;show (y.cells++zz xs)[(k+1)*6+j]?=some v
  rw[List.getElem?_append_right (by omega),hl,show (k+1)*6+j-6=k*6+j by omega];exact ih
theorem RTn.of_own{w:World}{base n c:Nat}{A:Option Addr}{xs:List Tn}{e:TypeId}(h:w.ownsRow base e 6 (.slice A n c) n (zz xs)):RTn w w.heap.size A n xs:=by
 have hl:n=xs.length:=by have h1:=h.1;rw[JA]at h1;omega
 refine⟨hl,fun hn=>?_⟩;obtain⟨g,cap,hv,_,hlt⟩:=h.form hn;have hA:A=some ⟨g,0,none⟩:=by injection hv
 subst hA;refine⟨g,0,rfl,hlt,fun k x hx=>?_⟩;have key:∀ j v,x.cells[j]?=some v->w.cell? ⟨g,0+k*6+j,none⟩=some v:=fun j v hv=>by
  have:=h.cells (g:=g) rfl _ _ (jH xs k x hx j v hv);rw[Addr.add_lit]at this;rw[Nat.add_assoc];exact this
 exact⟨key 0 _ rfl,key 1 _ rfl,key 2 _ rfl,key 3 _ rfl,key 4 _ rfl,key 5 _ rfl⟩
def samO(at_:Bool)(x y:Tn):Bool:=decide (x.k=y.k)&&decide (x.s=y.s)&&decide (x.n=y.n)&&(!at_ || decide (x.p=y.p))
end Go.Proofs.YtlmmaoobembadaaGreatDoor.Mu
namespace Go.Proofs.YtlmmaoobembadaaGreatDoor.Mu
open Go Go.RowKit
set_option maxRecDepth 100000
def kx3:List Tn:=[⟨4,[97,10,34],0,⟨0,1,1⟩⟩]
theorem RTn.lit{w:World}(xs:List Tn)(L:Array Value)(hL:(zz xs).toArray=L)(n:Nat)(hn:n=xs.length)(t:TypeId):RTn (w.alloc (.cells L t)) (w.alloc (.cells L t)).heap.size (some ⟨w.heap.size,0,none⟩) n xs:=by
 have hb:=blk1 w (.cells L t);refine⟨hn,fun _=>⟨w.heap.size,0,rfl,(Array.getElem?_eq_some_iff.1 hb).1,fun k x hx=>?_⟩⟩;have key:∀ j v,x.cells[j]?=some v->(w.alloc (.cells L t)).cell? ⟨w.heap.size,0+k*6+j,none⟩=some v:=fun j v hv=>by
  unfold World.cell?
  rw[hb,<- hL];simpa [Nat.add_assoc] using jH xs k x hx j v hv
 exact⟨key 0 _ rfl,key 1 _ rfl,key 2 _ rfl,key 3 _ rfl,key 4 _ rfl,key 5 _ rfl⟩
end Go.Proofs.YtlmmaoobembadaaGreatDoor.Mu
namespace Go.Proofs.YtlmmaoobembadaaGreatDoor.Mu
open Go.ChangeShapes Go.WideShapes Go.ChangeAt Go.RowKit Go.Joins Go.Deep
theorem qo{H:Type}(d:DataW H):1<=Rows.uptoBulk d:=by
 cases d with
 | lit l=>cases l <;> simp[Rows.uptoBulk]
 | nil=>simp[Rows.uptoBulk]
 | ptr d=>simp[Rows.uptoBulk]
 | slice elems spare=>simp[Rows.uptoBulk]
 | agg parts=>simp[Rows.uptoBulk]
 | iface t d=>simp[Rows.uptoBulk]
 | map entries=>simp[Rows.uptoBulk]
 | held h=>simp[Rows.uptoBulk]
theorem qcZ{H:Type}{d:DataW H}{l:List (DataW H)}(h:d∈l):Rows.uptoBulk d<=Rows.uptoBulkAll l:=by
 induction l with
 | nil=>cases h
 | cons x r ih=>
  simp only[Rows.uptoBulkAll];rcases List.mem_cons.1 h with rfl | h
  ·omega
  ·have:=ih h;omega
theorem qcY{H:Type}(l:List (DataW H)):l.length<=Rows.uptoBulkAll l:=by
 induction l with
 | nil=>simp[Rows.uptoBulkAll]
 | cons x r ih=>have:=qo x;simp only[Rows.uptoBulkAll,List.length_cons];omega
section
variable {H : Type} {enc : TypeId × Value -> H} {W : World} {base : Nat}
end
end Go.Proofs.YtlmmaoobembadaaGreatDoor.Mu
namespace Go.Proofs.YtlmmaoobembadaaGreatDoor.Mu
open Go Go.RowKit
set_option maxRecDepth 100000
inductive Tr where
 | nil
 | nod (k:Int) (s:List UInt8) (n:Int) (p:Pl) (kids arms rest:Tr)
 | arm (k:Int) (s:List UInt8) (n:Int) (p:Pl) (kids e rest:Tr)
def Tr.len:Tr->Nat
 | .nil=>0
 | .nod _ _ _ _ _ _ r=>r.len+1
 | .arm _ _ _ _ _ _ r=>r.len+1
def Tr.size:Tr->Nat
 | .nil=>0
 | .nod _ _ _ _ k a r=>1+k.size+a.size+r.size
 | .arm _ _ _ _ k e r=>1+k.size+e.size+r.size
def Tr.nth:Tr->Nat->Tr
 | .nil,_=> .nil
 | .nod k s n p a b _,0=> .nod k s n p a b .nil
 | .arm k s n p a b _,0=> .arm k s n p a b .nil
 | .nod _ _ _ _ _ _ r,i+1=>r.nth i
 | .arm _ _ _ _ _ _ r,i+1=>r.nth i
def Tr.same:Tr->Tr->Bool
 | .nil,.nil=>true
 | .nod k s n _ a b r,.nod k' s' n' _ a' b' r'=>decide (k=k')&&decide (s=s')&&decide (n=n')&&a.same a'&&b.same b'&&r.same r'
 | .arm k s n _ a e r,.arm k' s' n' _ a' e' r'=>decide (k=k')&&decide (s=s')&&decide (n=n')&&a.same a'&&e.same e'&&r.same r'
 | _,_=>false
def Tr.depth:Tr->Nat
 | .nil=>0
 | .nod _ _ _ _ k a r=>max (1+max k.depth a.depth) r.depth
 | .arm _ _ _ _ k e r=>max (max (1+k.depth) e.depth) r.depth
theorem Tr.len_le:∀ f:Tr,f.len<=f.size
 | .nil=>Nat.le_refl _
 | .nod _ _ _ _ k a r=>by have:=Tr.len_le r;simp only[Tr.len,Tr.size];omega
 | .arm _ _ _ _ k e r=>by have:=Tr.len_le r;simp only[Tr.len,Tr.size];omega
theorem Tr.depth_le:∀ f:Tr,f.depth<=f.size
 | .nil=>Nat.le_refl _
 | .nod _ _ _ _ k a r=>by
  have:=Tr.depth_le k;have:=Tr.depth_le a;have:=Tr.depth_le r;simp only[Tr.depth,Tr.size];omega
 | .arm _ _ _ _ k e r=>by
  have:=Tr.depth_le k;have:=Tr.depth_le e;have:=Tr.depth_le r;simp only[Tr.depth,Tr.size];omega
theorem Tr.nth_size:∀ (f:Tr) (i:Nat),(f.nth i).size<=f.size
 | .nil,_=>Nat.le_refl _
 | .nod _ _ _ _ a b r,0=>by simp only[Tr.nth,Tr.size];omega
 | .arm _ _ _ _ a b r,0=>by simp only[Tr.nth,Tr.size];omega
 | .nod _ _ _ _ a b r,i+1=>by have:=Tr.nth_size r i;simp only[Tr.nth,Tr.size];omega
 | .arm _ _ _ _ a b r,i+1=>by have:=Tr.nth_size r i;simp only[Tr.nth,Tr.size];omega
theorem Tr.same_refl:∀ f:Tr,f.same f=true
 | .nil=>rfl
 | .nod _ _ _ _ a b r=>by simp[Tr.same,Tr.same_refl a,Tr.same_refl b,Tr.same_refl r]
 | .arm _ _ _ _ a b r=>by simp[Tr.same,Tr.same_refl a,Tr.same_refl b,Tr.same_refl r]
theorem Tr.same_len:∀ f g:Tr,f.same g=true->f.len=g.len
 | .nil,.nil,_=>rfl
 | .nod _ _ _ _ a b r,.nod _ _ _ _ a' b' r',h=>by
  simp only[Tr.same,Bool.and_eq_true]at h;simp only[Tr.len,Tr.same_len r r' h.2]
 | .arm _ _ _ _ a b r,.arm _ _ _ _ a' b' r',h=>by
  simp only[Tr.same,Bool.and_eq_true]at h;simp only[Tr.len,Tr.same_len r r' h.2]
 | .nil,.nod ..,h=>by cases h
 | .nil,.arm ..,h=>by cases h
 | .nod ..,.nil,h=>by cases h
 | .nod ..,.arm ..,h=>by cases h
 | .arm ..,.nil,h=>by cases h
 | .arm ..,.nod ..,h=>by cases h
inductive Sh where
 | pat | ty | ex | arms
def Sh.sz:Sh->Nat
 | .pat=>7
 | .ty=>7
 | .ex=>8
 | .arms=>15
def Sh.kd:Sh->IntKind
 | .ty=> .u8
 | _=> .i64
def HeadAt(w:World)(kd:IntKind)(b o:Nat)(k:Int)(s:List UInt8)(n:Int)(p:Pl):Prop:=
 w.cell? ⟨b,o,none⟩=some (.int .u8 k)/\w.cell? ⟨b,o+1,none⟩=some (.string ⟨s.toArray⟩)/\w.cell? ⟨b,o+2,none⟩=some (.int kd n)/\w.cell? ⟨b,o+3,none⟩=some (.int .i64 p.a)/\w.cell? ⟨b,o+4,none⟩=some (.int .i64 p.l)/\w.cell? ⟨b,o+5,none⟩=some (.int .i64 p.c)
def TrAt(w:World)(Ok:Nat->Prop):Tr->Sh->Nat->Nat->Prop
 | .nil,_,_,_=>True
 | .nod k s n p kids arms rest,sh,b,o=>HeadAt w sh.kd b o k s n p ∧
   (∃ A cap,w.cell? ⟨b,o+6,none⟩=some (.slice A kids.len cap)/\kids.len<=cap/\(0<kids.len->∃ b' o',A=some ⟨b',o',none⟩/\Ok b'/\TrAt w Ok kids sh b' o')) ∧
   ((sh=.ex/\∃ A cap,w.cell? ⟨b,o+7,none⟩=some (.slice A arms.len cap)/\arms.len<=cap/\(0<arms.len->∃ b' o',A=some ⟨b',o',none⟩/\Ok b'/\TrAt w Ok arms .arms b' o'))∨((sh=.pat∨sh=.ty)/\arms.len=0)) ∧
   TrAt w Ok rest sh b (o+sh.sz)
 | .arm k s n p kids e rest,sh,b,o=>sh=.arms/\HeadAt w .i64 b o k s n p ∧
   (∃ A cap,w.cell? ⟨b,o+6,none⟩=some (.slice A kids.len cap)/\kids.len<=cap/\(0<kids.len->∃ b' o',A=some ⟨b',o',none⟩/\Ok b'/\TrAt w Ok kids .pat b' o')) ∧
   e.len=1/\TrAt w Ok e .ex b (o+7)/\TrAt w Ok rest sh b (o+15)
theorem HeadAt.keep{w w':World}{kd:IntKind}{b o:Nat}{k:Int}{s:List UInt8}{n:Int}{p:Pl}(h:HeadAt w kd b o k s n p)(hk:w'.heap[b]?=w.heap[b]?):HeadAt w' kd b o k s n p:=by
 have hc:∀ o',w'.cell? ⟨b,o',none⟩=w.cell? ⟨b,o',none⟩:=fun o'=>World.cell?_of_block (a:=⟨b,o',none⟩) hk;obtain⟨a0,a1,a2,a3,a4,a5⟩:=h;exact⟨(hc _).trans a0,(hc _).trans a1,(hc _).trans a2,(hc _).trans a3,(hc _).trans a4,(hc _).trans a5⟩
theorem TrAt.keep{w w':World}{Ok:Nat->Prop}(hk:∀ j,Ok j->w'.heap[j]?=w.heap[j]?):∀ (f:Tr) (sh:Sh) (b o:Nat),Ok b->TrAt w Ok f sh b o->TrAt w' Ok f sh b o
 | .nil,_,_,_,_,_=>trivial
 | .nod k s n p kids arms rest,sh,b,o,hb,h=>by
  obtain⟨h1,⟨A,cap,a1,a2,a3⟩,h3,h4⟩:=h;have hc:∀ o',w'.cell? ⟨b,o',none⟩=w.cell? ⟨b,o',none⟩:=fun o'=>World.cell?_of_block (a:=⟨b,o',none⟩) (hk b hb);refine⟨h1.keep (hk b hb),⟨A,cap,(hc _).trans a1,a2,fun h0=>?_⟩,?_,TrAt.keep hk rest sh b _ hb h4⟩
  ·obtain⟨b',o',e,c1,c2⟩:=a3 h0
   exact⟨b',o',e,c1,TrAt.keep hk kids sh b' o' c1 c2⟩
  ·rcases h3 with ⟨e,A2,cap2,c1,c2,c3⟩ | h3
   ·refine .inl ⟨e,A2,cap2,(hc _).trans c1,c2,fun h0=>?_⟩
    obtain⟨b',o',e,d1,d2⟩:=c3 h0;exact⟨b',o',e,d1,TrAt.keep hk arms .arms b' o' d1 d2⟩
   ·exact .inr h3
 | .arm k s n p kids e rest,sh,b,o,hb,h=>by
  obtain⟨h0,h1,⟨A,cap,a1,a2,a3⟩,h3,h4,h5⟩:=h;have hc:∀ o',w'.cell? ⟨b,o',none⟩=w.cell? ⟨b,o',none⟩:=fun o'=>World.cell?_of_block (a:=⟨b,o',none⟩) (hk b hb);refine⟨h0,h1.keep (hk b hb),⟨A,cap,(hc _).trans a1,a2,fun h0=>?_⟩,h3,TrAt.keep hk e .ex b _ hb h4,TrAt.keep hk rest sh b _ hb h5⟩;obtain⟨b',o',e,c1,c2⟩:=a3 h0;exact⟨b',o',e,c1,TrAt.keep hk kids .pat b' o' c1 c2⟩
def TrRow(w:World)(B:Nat)(sh:Sh)(A:Option Addr)(n:Nat)(f:Tr):Prop:=
 n=f.len/\(0<n->∃ b o,A=some ⟨b,o,none⟩/\b<B/\TrAt w (fun j=>j<B) f sh b o)
theorem TrAt.wide{w:World}{Ok Ok':Nat->Prop}(hw:∀ j,Ok j->Ok' j):∀ (f:Tr) (sh:Sh) (b o:Nat),TrAt w Ok f sh b o->TrAt w Ok' f sh b o
 | .nil,_,_,_,_=>trivial
 | .nod k s n p kids arms rest,sh,b,o,h=>by
  obtain⟨h1,⟨A,cap,a1,a2,a3⟩,h3,h4⟩:=h;refine⟨h1,⟨A,cap,a1,a2,fun h0=>?_⟩,?_,TrAt.wide hw rest sh b _ h4⟩
  ·obtain⟨b',o',e,c1,c2⟩:=a3 h0
   exact⟨b',o',e,hw _ c1,TrAt.wide hw kids sh b' o' c2⟩
  ·rcases h3 with ⟨e,A2,cap2,c1,c2,c3⟩ | h3
   ·refine .inl ⟨e,A2,cap2,c1,c2,fun h0=>?_⟩
    obtain⟨b',o',e,d1,d2⟩:=c3 h0;exact⟨b',o',e,hw _ d1,TrAt.wide hw arms .arms b' o' d2⟩
   ·exact .inr h3
 | .arm k s n p kids e rest,sh,b,o,h=>by
  obtain⟨h0,h1,⟨A,cap,a1,a2,a3⟩,h3,h4,h5⟩:=h;refine⟨h0,h1,⟨A,cap,a1,a2,fun h0=>?_⟩,h3,TrAt.wide hw e .ex b _ h4,TrAt.wide hw rest sh b _ h5⟩;obtain⟨b',o',e,c1,c2⟩:=a3 h0;exact⟨b',o',e,hw _ c1,TrAt.wide hw kids .pat b' o' c2⟩
theorem TrRow.bel{w w':World}{sh:Sh}{A:Option Addr}{n:Nat}{f:Tr}(h:TrRow w w.heap.size sh A n f)(hb:Bel w w'):TrRow w' w'.heap.size sh A n f:=
 ⟨h.1,fun hn=>by
  obtain⟨b,o,e,hbb,hc⟩:=h.2 hn;exact⟨b,o,e,Nat.lt_of_lt_of_le hbb hb.size,(TrAt.keep (fun j hj=>hb.block j hj) f sh b o hbb hc).wide (fun j hj=>Nat.lt_of_lt_of_le hj hb.size) f sh b o⟩⟩
theorem TrAt.nod_at{w:World}{Ok:Nat->Prop}{sh:Sh}(hsh:sh ≠ .arms):∀ (f:Tr) (i b o:Nat),TrAt w Ok f sh b o->i<f.len->∃ k s n p kids arms,f.nth i=.nod k s n p kids arms .nil/\TrAt w Ok (.nod k s n p kids arms .nil) sh b (o+i*sh.sz)
 | .nil,i,b,o,_,h=>by simp[Tr.len]at h
 | .arm ..,_,_,_,h,_=>absurd h.1 hsh
 | .nod k s n p kids arms rest,0,b,o,h,_=>⟨k,s,n,p,kids,arms,rfl,by rw[Nat.zero_mul];exact⟨h.1,h.2.1,h.2.2.1,trivial⟩⟩
 | .nod k s n p kids arms rest,i+1,b,o,h,hl=>by
  obtain⟨k',s',n',p',a',b',e,ha⟩:=TrAt.nod_at hsh rest i b (o+sh.sz) h.2.2.2 (by simp only[Tr.len]at hl;omega);refine⟨k',s',n',p',a',b',e,?_⟩;rw[show o+(i+1)*sh.sz=o+sh.sz+i*sh.sz by rw[Nat.add_mul];omega];exact ha
theorem TrAt.arm_at{w:World}{Ok:Nat->Prop}:∀ (f:Tr) (i b o:Nat),TrAt w Ok f .arms b o->i<f.len->∃ k s n p kids e,f.nth i=.arm k s n p kids e .nil/\TrAt w Ok (.arm k s n p kids e .nil) .arms b (o+i*15)
 | .nil,i,b,o,_,h=>by simp[Tr.len]at h
 | .nod ..,_,_,_,h,_=>by
  rcases h.2.2.1 with ⟨e,_⟩ | ⟨e | e,_⟩ <;> cases e
 | .arm k s n p kids ex rest,0,b,o,h,_=>⟨k,s,n,p,kids,ex,rfl,by rw[Nat.zero_mul];exact⟨h.1,h.2.1,h.2.2.1,h.2.2.2.1,h.2.2.2.2.1,trivial⟩⟩
 | .arm k s n p kids ex rest,i+1,b,o,h,hl=>by
  obtain⟨k',s',n',p',a',b',e,ha⟩:=TrAt.arm_at rest i b (o+15) h.2.2.2.2.2 (by simp only[Tr.len]at hl;omega);refine⟨k',s',n',p',a',b',e,?_⟩;rw[show o+(i+1)*15=o+15+i*15 by omega];exact ha
end Go.Proofs.YtlmmaoobembadaaGreatDoor.Mu
