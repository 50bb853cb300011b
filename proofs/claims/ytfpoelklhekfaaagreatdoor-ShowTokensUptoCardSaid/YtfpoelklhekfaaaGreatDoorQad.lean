import Derived.KernelRfl
import Derived.Test.YtfpoelklhekfaaaGreatDoorQac
namespace Go.Proofs.YtfpoelklhekfaaaGreatDoor.Mu
open Go
def qt(c:Int):Bool:=decide (48<=c/\c<=57)
def isSm(c:Int):Bool:=decide (97<=c/\c<=122)
def isGr(c:Int):Bool:=decide (65<=c/\c<=90)
def isW(c:Int):Bool:=qt c || isSm c || isGr c || decide (c=95) || decide (c=39)
def isBl(c:Int):Bool:=decide (c=32) || decide (c=9) || decide (c=10) || decide (c=13)
structure Tk where
 k:Int
 x:List Int
 n:Int
deriving DecidableEq
def wordsL:List (List Int):=[[108,101,116],[114,101,99],[105,110],[99,97,115,101],[111,102],[100,97,116,97]]
def primsL:List (List Int):=[[111,112,101,110],[114,101,97,100],[119,114,105,116,101],[99,108,111,115,101],[97,114,114,97,121],[103,101,116],[115,101,116],[115,105,122,101],[102,97,105,108],[108,101,110]]
def signsL:List (List Int):=[[92],[45,62],[45,49,62],[45,63,62],[45,42,62],[61],[61,61],[59],[123],[125],[40],[41],[124],[60],[43,43],[43],[45],[42],[47],[37],[95],[63]]
theorem qL{α:Type}(p:α->Bool)(l:List α):(l.dropWhile p).length<=l.length:=by
 induction l with
 | nil=>simp
 | cons a l ih=>
  rw[List.dropWhile_cons];split
  ·exact Nat.le_succ_of_le ih
  ·exact Nat.le_refl _
def qh:List Int->List Int
 | []=>[]
 | c::l=>if isBl c=true then qh l else if c=45/\l.head?=some 45 then qh (l.dropWhile fun x=>decide (x≠10)) else c::l
termination_by l=>l.length
decreasing_by
 ·simp
 ·exact Nat.lt_succ_of_le (qL _ l)
theorem zl:qh []=[]:=by rw[qh]
theorem QH{c:Int}(h:isBl c=true)(l:List Int):qh (c::l)=qh l:=by rw[qh,if_pos h]
theorem JV(l:List Int):qh (45::45::l)=qh ((45::l).dropWhile fun x=>decide (x≠10)):=by
 rw[qh,if_neg (by decide),if_pos ⟨rfl,rfl⟩]
theorem jh{c:Int}{l:List Int}(h1:isBl c=false)(h2:¬ (c=45/\l.head?=some 45)):qh (c::l)=c::l:=by
 rw[qh,if_neg (by simp[h1]),if_neg h2]
theorem zY:∀ (n:Nat) (l:List Int),l.length<=n->(qh l).length<=l.length
 | _,[],_=>by rw[zl];exact Nat.le_refl _
 | 0,c::l,h=>by simp at h
 | n+1,c::l,h=>by
  have hl:l.length<=n:=by simpa using h
  rw[qh];split
  ·exact Nat.le_succ_of_le (zY n l hl)
  split
  ·have h1:=qL (fun x:Int=>decide (x≠10)) l
   have h2:=zY n (l.dropWhile fun x=>decide (x≠10)) (by omega);simp only[List.length_cons];omega
  ·exact Nat.le_refl _
inductive Blanks:List Int->Prop
 | nil:Blanks []
 | bl {c:Int} {b:List Int} (h:isBl c=true) (hb:Blanks b):Blanks (c::b)
 | rem {u b:List Int} (h:∀ x∈u,x≠10) (hb:Blanks b):Blanks (45::45::(u++10::b))
theorem Blanks.app{a b:List Int}(h:Blanks a)(k:Blanks b):Blanks (a++b):=by
 induction h with
 | nil=>exact k
 | bl h _ ih=>exact .bl h ih
 | rem h _ ih=>
  rename_i u c hc;have:=Blanks.rem h ih;simpa using this
theorem qeO{u:List Int}(h:∀ x∈u,x≠10)(r:List Int):(u++10::r).dropWhile (fun x=>decide (x≠10))=10::r:=by
 induction u with
 | nil=>simp
 | cons a u ih=>
  have ha:a≠10:=h a (by simp);rw[List.cons_append,List.dropWhile_cons,if_pos (by simpa using ha)];exact ih fun x hx=>h x (by simp[hx])
theorem QY{b:List Int}(h:Blanks b)(r:List Int):qh (b++r)=qh r:=by
 induction h with
 | nil=>rfl
 | bl hc _ ih=>rw[List.cons_append,QH hc,ih]
 | rem hu _ ih=>
  rename_i u c hk;rw[List.cons_append,List.cons_append,JV,List.append_assoc,List.cons_append,List.dropWhile_cons,if_pos (by decide),qeO hu,QH (by decide),ih]
inductive Rd where
 | ok (t:Tk) (r:List Int)
 | err (e:Int) (d:Nat)
def Zt(l:List Int):Rd:=
 if l.takeWhile isW∈wordsL then .ok ⟨5,l.takeWhile isW,0⟩ (l.dropWhile isW)
 else if l.takeWhile isW∈primsL then .ok ⟨6,l.takeWhile isW,0⟩ (l.dropWhile isW)
 else if 24<(l.takeWhile isW).length then .err 3 0
 else if isGr (l.headD 0)=true then .ok ⟨2,l.takeWhile isW,0⟩ (l.dropWhile isW) else .ok ⟨1,l.takeWhile isW,0⟩ (l.dropWhile isW)
def valN(l:List Int):Int:=l.foldl (fun n c=>10*n+(c-48)) 0
def numL(l:List Int):Rd:=
 if l.headD 0=48/\qt (l.tail.headD 0)=true then .err 100 0
 else if 1099511627776<valN (l.takeWhile qt) then .err 101 0
 else .ok ⟨3,[],valN (l.takeWhile qt)⟩ (l.dropWhile qt)
def escV(c:Int):Int:=if c=110 then 10 else if c=116 then 9 else if c=34 then 34 else if c=92 then 92 else 0
def quoL:List Int->List Int->Nat->Rd
 | [],_,_=> .err 102 0
 | c::l,acc,d=>
  if c=34 then .ok ⟨4,acc,0⟩ l
  else if c=10 then .err 102 0
  else if c=92 then (if escV (l.headD 0)=0 then .err 100 d else quoL l.tail (acc++[escV (l.headD 0)]) (d+2))
  else quoL l (acc++[c]) (d+1)
termination_by l=>l.length
decreasing_by
 ·simp only[List.length_tail,List.length_cons];omega
 ·simp
def Qs(l:List Int):Rd:=
 if 3<=l.length/\l.take 3∈signsL then .ok ⟨5,l.take 3,0⟩ (l.drop 3)
 else if 2<=l.length/\l.take 2∈signsL then .ok ⟨5,l.take 2,0⟩ (l.drop 2)
 else if 1<=l.length/\l.take 1∈signsL then .ok ⟨5,l.take 1,0⟩ (l.drop 1)
 else .err 100 0
def oneL(l:List Int):Rd:=
 if isSm (l.headD 0)=true∨isGr (l.headD 0)=true then Zt l
 else if qt (l.headD 0)=true then numL l
 else if l.headD 0=34 then quoL l.tail [] 1
 else Qs l
def digL(n:Nat):List Int:=if h:n<10 then [48+(n:Int)] else digL (n / 10)++[48+((n % 10:Nat):Int)]
termination_by n
decreasing_by omega
def escC(c:Int):List Int:=if c=10 then [92,110] else if c=9 then [92,116] else if c=34∨c=92 then [92,c] else [c]
def putL(t:Tk):List Int:=if t.k=3 then digL t.n.toNat else if t.k=4 then 34::(t.x.flatMap escC++[34]) else t.x
def qgT(x:List Int)(big:Bool):Prop:=x≠[]/\x.length<=24/\(∀ c∈x,isW c=true)/\(if big=true then isGr (x.headD 0)=true else isSm (x.headD 0)=true)/\x ∉ wordsL/\x ∉ primsL
def MayT(t:Tk):Prop:=
 (t.k=1/\qgT t.x false/\t.n=0)∨(t.k=2/\qgT t.x true/\t.n=0)∨(t.k=3/\0<=t.n/\t.n<=1099511627776/\t.x=[])∨(t.k=4/\(∀ c∈t.x,cpB c=true)/\t.n=0) ∨
  (t.k=5/\(t.x∈wordsL∨t.x∈signsL)/\t.n=0)∨(t.k=6/\t.x∈primsL/\t.n=0)
def Ends(r:List Int):Prop:=r=[] ∨ ∃ c l,r=c::l/\isBl c=true
theorem qfR{c:Int}(h:isSm c=true∨isGr c=true):isW c=true:=by unfold isW;rcases h with h | h <;> simp[h]
theorem qa6{c:Int}(h:isBl c=true):c=32∨c=9∨c=10∨c=13:=by simpa [isBl,or_assoc] using h
theorem qaa{c:Int}(h:isBl c=true):isW c=false/\qt c=false:=by rcases qa6 h with rfl | rfl | rfl | rfl <;> decide
theorem qbu{p:Int->Bool}{x r:List Int}(h:∀ c∈x,p c=true)(hr:r=[] ∨ ∃ c l,r=c::l/\p c=false):(x++r).takeWhile p=x/\(x++r).dropWhile p=r:=by
 induction x with
 | nil=>
  rcases hr with rfl | ⟨c,l,rfl,hc⟩
  ·simp
  ·simp[hc]
 | cons a x ih=>
  obtain⟨h1,h2⟩:=ih fun c hc=>h c (by simp[hc]);have ha:=h a (by simp);rw[List.cons_append,List.takeWhile_cons,List.dropWhile_cons,if_pos ha,if_pos ha,h1,h2];exact⟨rfl,rfl⟩
theorem Ends.w{r:List Int}(h:Ends r):r=[] ∨ ∃ c l,r=c::l/\isW c=false:=h.elim .inl fun ⟨c,l,e,k⟩=> .inr ⟨c,l,e,(qaa k).1⟩
theorem Ends.d{r:List Int}(h:Ends r):r=[] ∨ ∃ c l,r=c::l/\qt c=false:=h.elim .inl fun ⟨c,l,e,k⟩=> .inr ⟨c,l,e,(qaa k).2⟩
theorem je{x r:List Int}(h:x≠[]):(x++r).headD 0=x.headD 0:=by cases x with
 | nil=>exact absurd rfl h
 | cons a x=>rfl
theorem ja:∀ x∈wordsL++primsL,x≠[]/\(∀ c∈x,isW c=true)/\isSm (x.headD 0)=true:=by decide +kernel
theorem QD{x r:List Int}(hx:x≠[])(hw:∀ c∈x,isW c=true)(hh:isSm (x.headD 0)=true∨isGr (x.headD 0)=true)(hr:Ends r):oneL (x++r)=(if x∈wordsL then .ok ⟨5,x,0⟩ r else if x∈primsL then .ok ⟨6,x,0⟩ r else if 24<x.length then .err 3 0 else if isGr (x.headD 0)=true then .ok ⟨2,x,0⟩ r else .ok ⟨1,x,0⟩ r):=by
 obtain⟨h1,h2⟩:=qbu hw hr.w;unfold oneL;rw[je hx,if_pos hh];unfold Zt;rw[h1,h2,je hx]
theorem ju(n:Nat):digL n≠[]:=by rw[digL];split <;> simp
theorem jd:∀ (n:Nat),∀ c∈digL n,qt c=true:=by
 intro n;induction n using Nat.strongRecOn with
 | _ n ih=>
  intro c hc;rw[digL]at hc;split at hc
  ·obtain rfl:=List.mem_singleton.1 hc
   unfold qt;rw[decide_eq_true_eq];omega
  ·rcases List.mem_append.1 hc with hc | hc
   ·exact ih (n / 10) (by omega) c hc
   ·obtain rfl:=List.mem_singleton.1 hc
    unfold qt;rw[decide_eq_true_eq];omega
theorem JZ(l:List Int)(c:Int):valN (l++[c])=10*valN l+(c-48):=by simp[valN]
theorem qfE(n:Nat):valN (digL n)=(n:Int):=by
 induction n using Nat.strongRecOn with
 | _ n ih=>
  rw[digL];split
  ·show 10*(0:Int)+(48+(n:Int)-48)=n
   omega
  ·rw[JZ,ih (n / 10) (by omega)];omega
theorem qcL:∀ (n:Nat),(digL n).headD 0=48->n=0:=by
 intro n;induction n using Nat.strongRecOn with
 | _ n ih=>
  intro h;rw[digL]at h;split at h
  ·have:(48:Int)+(n:Int)=48:=h
   omega
  ·rw[je (ju _)]at h
   have:=ih (n / 10) (by omega) h;omega
theorem qgY(n:Nat)(hn:n<=1099511627776){r:List Int}(hr:Ends r):oneL (digL n++r)=.ok ⟨3,[],(n:Int)⟩ r:=by
 obtain⟨h1,h2⟩:=qbu (jd n) hr.d;have hd:qt ((digL n).headD 0)=true:=by
  cases e:digL n with
  | nil=>exact absurd e (ju n)
  | cons a l=>exact jd n a (by rw[e];simp)
 have hb:=of_decide_eq_true (show decide (48<=(digL n).headD 0/\(digL n).headD 0<=57)=true from hd);unfold oneL;rw[je (ju n),if_neg (by
  rintro (h | h)
  ·have:=of_decide_eq_true (show decide (97<=(digL n).headD 0/\(digL n).headD 0<=122)=true from h);omega
  ·have:=of_decide_eq_true (show decide (65<=(digL n).headD 0/\(digL n).headD 0<=90)=true from h);omega),if_pos hd]
 unfold numL;rw[h1,h2,qfE,je (ju n),if_neg,if_neg (by omega)];rintro⟨h3,h4⟩;have h5:=qcL n h3;subst h5;have h6:digL 0=[48]:=by rw[digL];rfl
 rw[h6]at h4;rcases hr.d with rfl | ⟨c,l,rfl,hc⟩
 ·revert h4;decide
 ·have:qt c=true:=h4
  rw[hc]at this;cases this
theorem qdn:∀ (x acc r:List Int) (d:Nat),quoL (x.flatMap escC++34::r) acc d=.ok ⟨4,acc++x,0⟩ r
 | [],acc,r,d=>by rw[List.flatMap_nil,List.nil_append,quoL,if_pos rfl,List.append_nil]
 | c::x,acc,r,d=>by
  rw[List.flatMap_cons,List.append_assoc];have ih:=fun d=>qdn x (acc++[c]) r d;have e:acc++[c]++x=acc++c::x:=by simp
  rw[e]at ih;unfold escC;by_cases h10:c=10
  ·subst h10
   rw[if_pos rfl];show quoL (92::110::_) acc d=_
   rw[quoL,if_neg (by decide),if_neg (by decide),if_pos rfl,if_neg (by rw[List.headD_cons];decide)];exact ih _
  rw[if_neg h10];by_cases h9:c=9
  ·subst h9
   rw[if_pos rfl];show quoL (92::116::_) acc d=_
   rw[quoL,if_neg (by decide),if_neg (by decide),if_pos rfl,if_neg (by rw[List.headD_cons];decide)];exact ih _
  rw[if_neg h9];by_cases h34:c=34
  ·subst h34
   rw[if_pos (.inl rfl)];show quoL (92::34::_) acc d=_
   rw[quoL,if_neg (by decide),if_neg (by decide),if_pos rfl,if_neg (by rw[List.headD_cons];decide)];exact ih _
  by_cases h92:c=92
  ·subst h92
   rw[if_pos (.inr rfl)];show quoL (92::92::_) acc d=_
   rw[quoL,if_neg (by decide),if_neg (by decide),if_pos rfl,if_neg (by rw[List.headD_cons];decide)];exact ih _
  rw[if_neg (by rintro (h | h);exact h34 h;exact h92 h)];show quoL (c::_) acc d=_
  rw[quoL,if_neg h34,if_neg h10,if_neg h92];exact ih _
theorem qhf(x:List Int)(r:List Int):oneL (34::(x.flatMap escC++[34])++r)=.ok ⟨4,x,0⟩ r:=by
 have:=qdn x [] r 1;rw[List.nil_append]at this;unfold oneL;rw[List.cons_append,List.headD_cons,if_neg (by decide),if_neg (by decide),if_pos rfl,List.tail_cons,List.append_assoc];exact this
theorem Qc:∀ x∈signsL,x≠[]/\x.length<=3/\isSm (x.headD 0)=false/\isGr (x.headD 0)=false/\qt (x.headD 0)=false/\x.headD 0≠34/\isBl (x.headD 0)=false/\(∀ c∈x,isBl c=false)/\¬ (x.headD 0=45/\x.tail.head?=some 45):=by decide +kernel
theorem qhc{x:List Int}{c:Int}(hc:isBl c=true)(h:c∈x):x ∉ signsL:=fun hx=>by
 have:=(Qc x hx).2.2.2.2.2.2.2.1 c h;rw[hc]at this;cases this
theorem Jn{x r:List Int}(hr:Ends r){k:Nat}(hk:x.length<k)(hl:k<=(x++r).length):(x++r).take k ∉ signsL:=by
 rcases hr with rfl | ⟨c,l,rfl,hc⟩
 ·rw[List.append_nil]at hl;omega
 ·refine qhc hc ?_
  have e:x++c::l=(x++[c])++l:=by simp
  rw[e,List.take_append,List.take_of_length_le (by simp;omega)];simp
theorem qfu{x r:List Int}(hx:x∈signsL)(hr:Ends r):oneL (x++r)=.ok ⟨5,x,0⟩ r:=by
 obtain⟨h1,h2,h3,h4,h5,h6,-⟩:=Qc x hx;have hp:0<x.length:=List.length_pos_iff.2 h1;have hl:(x++r).length=x.length+r.length:=List.length_append;unfold oneL;rw[je h1,if_neg (by rw[h3,h4];simp),if_neg (by rw[h5];simp),if_neg h6];have ht:(x++r).take x.length=x:=by simp
 have hd:(x++r).drop x.length=r:=by simp
 unfold Qs;have hc:x.length=1∨x.length=2∨x.length=3:=by omega
 rcases hc with hc | hc | hc
 ·rw[if_neg (fun h=>Jn hr (by omega) h.1 h.2),if_neg (fun h=>Jn hr (by omega) h.1 h.2)]
  rw[hc]at ht hd;rw[ht,hd,if_pos ⟨by omega,hx⟩]
 ·rw[if_neg (fun h=>Jn hr (by omega) h.1 h.2)]
  rw[hc]at ht hd;rw[ht,hd,if_pos ⟨by omega,hx⟩]
 ·rw[hc]at ht hd
  rw[ht,hd,if_pos ⟨by omega,hx⟩]
theorem qg4{t:Tk}(ht:MayT t){r:List Int}(hr:Ends r):oneL (putL t++r)=.ok t r:=by
 obtain⟨k,x,n⟩:=t;rcases ht with ⟨rfl,⟨h1,h2,h3,h4,h5,h6⟩,rfl⟩ | ⟨rfl,⟨h1,h2,h3,h4,h5,h6⟩,rfl⟩ | ⟨rfl,h1,h2,rfl⟩ | ⟨rfl,h1,rfl⟩ | ⟨rfl,h1,rfl⟩ | ⟨rfl,h1,rfl⟩
 ·show oneL (x++r)=_
  have h4':isSm (x.headD 0)=true:=h4;rw[QD h1 h3 (.inl h4') hr,if_neg h5,if_neg h6,if_neg (by omega),if_neg];have:=of_decide_eq_true (show decide (97<=x.headD 0/\x.headD 0<=122)=true from h4');intro h;have:=of_decide_eq_true (show decide (65<=x.headD 0/\x.headD 0<=90)=true from h);omega
 ·show oneL (x++r)=_
  have h4':isGr (x.headD 0)=true:=h4;rw[QD h1 h3 (.inr h4') hr,if_neg h5,if_neg h6,if_neg (by omega),if_pos h4']
 ·show oneL (digL n.toNat++r)=_
  have h1':0<=n:=h1;have h2':n<=1099511627776:=h2;rw[qgY n.toNat (by omega) hr,Int.toNat_of_nonneg h1']
 ·exact qhf x r
 ·show oneL (x++r)=_
  rcases h1 with h1 | h1
  ·obtain⟨a1,a2,a3⟩:=ja x (List.mem_append.2 (.inl h1))
   rw[QD a1 a2 (.inl a3) hr,if_pos h1]
  ·exact qfu h1 hr
 ·show oneL (x++r)=_
  have h1':x∈primsL:=h1;obtain⟨a1,a2,a3⟩:=ja x (List.mem_append.2 (.inr h1'));have hn:x ∉ wordsL:=by
   have:∀ y∈primsL,y ∉ wordsL:=by decide +kernel
   exact this x h1'
  rw[QD a1 a2 (.inl a3) hr,if_neg hn,if_pos h1']
inductive Rs where
 | ok (ps:List (Tk × Nat))
 | err (e:Int) (o:Nat)
def Rs.cons(p:Tk × Nat):Rs->Rs
 | .ok ps=> .ok (p::ps)
 | .err e o=> .err e o
def qx:Nat->List Int->Nat->Rs
 | 0,_,_=> .ok []
 | f+1,l,o=>
  if qh l=[] then .ok []
  else match oneL (qh l) with
   | .err e d=> .err e (o+(l.length-(qh l).length)+d)
   | .ok t r=>(qx f r (o+(l.length-r.length))).cons (t,o+(l.length-(qh l).length))
theorem Jl:∀ (n:Nat) (l:List Int),l.length<=n->∃ u,l=u++qh l
 | _,[],_=>⟨[],by rw[zl];rfl⟩
 | 0,c::l,h=>by simp at h
 | n+1,c::l,h=>by
  have hl:l.length<=n:=by simpa using h
  rw[qh];split
  ·obtain⟨u,hu⟩:=Jl n l hl
   exact⟨c::u,by rw[List.cons_append,<- hu]⟩
  split
  ·have h1:=qL (fun x:Int=>decide (x≠10)) l
   obtain⟨u,hu⟩:=Jl n (l.dropWhile fun x=>decide (x≠10)) (by omega);exact⟨c::(l.takeWhile (fun x=>decide (x≠10))++u),by rw[List.cons_append,List.append_assoc,<- hu,List.takeWhile_append_dropWhile]⟩
  ·exact⟨[],rfl⟩
theorem QV:∀ (n:Nat) (l acc:List Int) (d:Nat) (t:Tk) (r:List Int),l.length<=n->quoL l acc d=.ok t r->(∀ c∈l,cpB c=true)->(∀ c∈acc,cpB c=true)->(t.k=4/\t.n=0/\∀ c∈t.x,cpB c=true)/\(∃ u,l=u++r)/\r.length<l.length
 | _,[],acc,d,t,r,_,h,_,_=>by rw[quoL]at h;cases h
 | 0,c::l,_,_,_,_,h,_,_,_=>by simp at h
 | n+1,c::l,acc,d,t,r,hn,h,hl,ha=>by
  have hn':l.length<=n:=by simpa using hn
  rw[quoL]at h;split at h
  ·injection h with h1 h2
   subst h1 h2;exact⟨⟨rfl,rfl,ha⟩,⟨[c],rfl⟩,by simp⟩
  split at h
  ·cases h
  split at h
  ·split at h
   ·cases h
   ·rename_i hv
    have hlt:l.tail.length<=n:=by rw[List.length_tail];omega
    have hne:l≠[]:=fun e=>hv (by rw[e];decide);have hev:cpB (escV (l.headD 0))=true:=by
     unfold escV at hv ⊢;repeat' split
     all_goals first | decide | simp_all
    obtain⟨h1,⟨u,hu⟩,h3⟩:=QV n l.tail _ _ t r hlt h (fun x hx=>hl x (by simp[List.mem_of_mem_tail hx])) (fun x hx=>by
     rcases List.mem_append.1 hx with hx | hx
     ·exact ha x hx
     ·obtain rfl:=List.mem_singleton.1 hx;exact hev)
    cases l with
    | nil=>exact absurd rfl hne
    | cons e l=>exact⟨h1,⟨c::e::u,by rw[List.cons_append,List.cons_append,<- hu];rfl⟩,by simp only[List.tail_cons]at h3;simp only[List.length_cons];omega⟩
  ·obtain⟨h1,⟨u,hu⟩,h3⟩:=QV n l _ _ t r hn' h (fun x hx=>hl x (by simp[hx])) (fun x hx=>by
    rcases List.mem_append.1 hx with hx | hx
    ·exact ha x hx
    ·obtain rfl:=List.mem_singleton.1 hx;exact hl _ (by simp))
   exact⟨h1,⟨c::u,by rw[List.cons_append,<- hu]⟩,by simp only[List.length_cons];omega⟩
theorem qaV(l:List Int)(h:∀ c∈l,qt c=true):0<=valN l:=by
 have:∀ (l:List Int) (a:Int),0<=a->(∀ c∈l,qt c=true)->0<=l.foldl (fun n c=>10*n+(c-48)) a:=by
  intro l;induction l with
  | nil=>intro a ha _;exact ha
  | cons c l ih=>
   intro a ha hc;have h1:=of_decide_eq_true (show decide (48<=c/\c<=57)=true from hc c (by simp));exact ih _ (by show 0<=10*a+(c-48);omega) fun x hx=>hc x (by simp[hx])
 exact this l 0 (by omega) h
theorem qF(p:Int->Bool):∀ l:List Int,∀ c∈l.takeWhile p,p c=true
 | [],c,h=>by simp at h
 | a::l,c,h=>by
  rw[List.takeWhile_cons]at h;split at h
  ·rcases List.mem_cons.1 h with rfl | h
   ·assumption
   ·exact qF p l c h
  ·simp at h
theorem QZ{p:Int->Bool}{l:List Int}(h:p (l.headD 0)=true)(hne:l≠[]):l.takeWhile p≠[]/\(l.takeWhile p).headD 0=l.headD 0/\(l.dropWhile p).length<l.length:=by
 cases l with
 | nil=>exact absurd rfl hne
 | cons a l=>
  have ha:p a=true:=h;rw[List.takeWhile_cons,if_pos ha,List.dropWhile_cons,if_pos ha];exact⟨by simp,rfl,by have:=qL p l;simp only[List.length_cons];omega⟩
theorem zS{l:List Int}{t:Tk}{r:List Int}(hne:l≠[])(h:oneL l=.ok t r)(hl:∀ c∈l,cpB c=true):MayT t/\(∃ u,l=u++r)/\r.length<l.length:=by
 unfold oneL at h;split at h
 ·rename_i hh
  have hw:isW (l.headD 0)=true:=qfR hh;obtain⟨h1,h2,h3⟩:=QZ (p:=isW) hw hne;have hsuf:∃ u,l=u++l.dropWhile isW:=⟨l.takeWhile isW,(List.takeWhile_append_dropWhile).symm⟩
  have hall:=qF isW l;unfold Zt at h;split at h
  ·injection h with e1 e2;subst e1 e2
   exact⟨.inr (.inr (.inr (.inr (.inl ⟨rfl,.inl ‹_›,rfl⟩)))),hsuf,h3⟩
  split at h
  ·injection h with e1 e2;subst e1 e2
   exact⟨.inr (.inr (.inr (.inr (.inr ⟨rfl,‹_›,rfl⟩)))),hsuf,h3⟩
  split at h
  ·cases h
  rename_i n1 n2 n3;split at h
  ·rename_i hg
   injection h with e1 e2;subst e1 e2
   exact⟨.inr (.inl ⟨rfl,⟨h1,by show (l.takeWhile isW).length<=24;omega,hall,by show (if true=true then isGr ((l.takeWhile isW).headD 0)=true else _);rw[if_pos rfl,h2];exact hg,n1,n2⟩,rfl⟩),hsuf,h3⟩
  ·rename_i hg
   injection h with e1 e2;subst e1 e2
   exact⟨.inl ⟨rfl,⟨h1,by show (l.takeWhile isW).length<=24;omega,hall,by show (if false=true then _ else isSm ((l.takeWhile isW).headD 0)=true);rw[if_neg (by decide),h2];exact hh.resolve_right hg,n1,n2⟩,rfl⟩,hsuf,h3⟩
 split at h
 ·rename_i hd
  obtain⟨h1,h2,h3⟩:=QZ (p:=qt) hd hne;unfold numL at h;split at h
  ·cases h
  split at h
  ·cases h
  injection h with e1 e2;subst e1 e2
  exact⟨.inr (.inr (.inl ⟨rfl,qaV _ (qF qt l),by show valN _<=_;omega,rfl⟩)),⟨l.takeWhile qt,(List.takeWhile_append_dropWhile).symm⟩,h3⟩
 split at h
 ·have hlt:l.tail.length<l.length:=by
   cases l with
   | nil=>exact absurd rfl hne
   | cons a l=>simp
  obtain⟨⟨a1,a2,a3⟩,⟨u,hu⟩,h3⟩:=QV _ l.tail [] 1 t r (Nat.le_refl _) h (fun x hx=>hl x (List.mem_of_mem_tail hx)) (fun x hx=>by simp at hx);refine⟨.inr (.inr (.inr (.inl ⟨a1,a3,a2⟩))),?_,by omega⟩;cases l with
  | nil=>exact absurd rfl hne
  | cons a l=>exact⟨a::u,by rw[List.cons_append,<- hu];rfl⟩
 ·unfold Qs at h
  split at h
  ·rename_i hc
   injection h with e1 e2;subst e1 e2
   exact⟨.inr (.inr (.inr (.inr (.inl ⟨rfl,.inr hc.2,rfl⟩)))),⟨l.take 3,(List.take_append_drop 3 l).symm⟩,by rw[List.length_drop];omega⟩
  split at h
  ·rename_i hc
   injection h with e1 e2;subst e1 e2
   exact⟨.inr (.inr (.inr (.inr (.inl ⟨rfl,.inr hc.2,rfl⟩)))),⟨l.take 2,(List.take_append_drop 2 l).symm⟩,by rw[List.length_drop];omega⟩
  split at h
  ·rename_i hc
   injection h with e1 e2;subst e1 e2
   exact⟨.inr (.inr (.inr (.inr (.inl ⟨rfl,.inr hc.2,rfl⟩)))),⟨l.take 1,(List.take_append_drop 1 l).symm⟩,by rw[List.length_drop];omega⟩
  ·cases h
theorem qbb{l u r:List Int}(h:l=u++r)(hl:∀ c∈l,cpB c=true):∀ c∈r,cpB c=true:=fun c hc=>hl c (by rw[h];simp[hc])
theorem jA{l:List Int}(hl:∀ c∈l,cpB c=true):∀ c∈qh l,cpB c=true:=by
 obtain⟨u,hu⟩:=Jl _ l (Nat.le_refl _);exact qbb hu hl
theorem qO{f:Nat}{l:List Int}{o:Nat}(h:qh l≠[]):qx (f+1) l o=(match oneL (qh l) with
   | .err e d=> .err e (o+(l.length-(qh l).length)+d)
   | .ok t r=>(qx f r (o+(l.length-r.length))).cons (t,o+(l.length-(qh l).length))):=by
 rw[qx,if_neg h]
theorem ze{f:Nat}{l:List Int}{o:Nat}(h:qh l=[]):qx (f+1) l o=.ok []:=by rw[qx,if_pos h]
theorem qeo:∀ (f g:Nat) (l:List Int) (o:Nat),(∀ c∈l,cpB c=true)->l.length<f->l.length<g->qx f l o=qx g l o
 | 0,_,_,_,_,h,_=>by omega
 | _,0,_,_,_,_,h=>by omega
 | f+1,g+1,l,o,hc,hf,hg=>by
  by_cases h:qh l=[]
  ·rw[ze h,ze h]
  ·rw[qO h,qO h]
   have hs:=zY _ l (Nat.le_refl _);cases e:oneL (qh l) with
   | err x d=>rfl
   | ok t r=>
    obtain⟨_,⟨u,hu⟩,hr⟩:=zS h e (jA hc);show Rs.cons _ (qx f r _)=Rs.cons _ (qx g r _)
    rw[qeo f g r _ (qbb hu (jA hc)) (by omega) (by omega)]
inductive Wr:List Tk->List Int->Prop
 | nil {e:List Int} (h:Blanks e):Wr [] e
 | cons {g l:List Int} {t:Tk} {ts:List Tk} (hg:Blanks g) (ht:MayT t) (hw:Wr ts l) (he:Ends l):Wr (t::ts) (g++(putL t++l))
theorem qbq{t:Tk}(ht:MayT t){r:List Int}(hr:Ends r):∃ c l,putL t++r=c::l/\isBl c=false/\¬ (c=45/\l.head?=some 45):=by
 have hW:∀ c,isW c=true->isBl c=false/\c≠45:=fun c h=>by
  have:c=32∨c=9∨c=10∨c=13∨c=45->isW c=false:=by rintro (rfl | rfl | rfl | rfl | rfl) <;> decide
  refine⟨?_,fun e=>?_⟩
  ·cases hb:isBl c
   ·rfl
   ·have:=this (by rcases qa6 hb with e | e | e | e <;> simp[e])
    rw[h]at this;cases this
  ·have:=this (by simp[e])
   rw[h]at this;cases this
 have name:∀ x:List Int,x≠[]->(∀ c∈x,isW c=true)->∃ c l,x++r=c::l/\isBl c=false/\¬ (c=45/\l.head?=some 45):=fun x h1 h2=>by
  cases x with
  | nil=>exact absurd rfl h1
  | cons a x=>
   have:=hW a (h2 a (by simp));exact⟨a,x++r,rfl,this.1,fun h=>this.2 h.1⟩
 obtain⟨k,x,n⟩:=t;rcases ht with ⟨rfl,⟨h1,h2,h3,h4,h5,h6⟩,rfl⟩ | ⟨rfl,⟨h1,h2,h3,h4,h5,h6⟩,rfl⟩ | ⟨rfl,h1,h2,rfl⟩ | ⟨rfl,h1,rfl⟩ | ⟨rfl,h1,rfl⟩ | ⟨rfl,h1,rfl⟩
 ·exact name x h1 h3
 ·exact name x h1 h3
 ·exact name (digL n.toNat) (ju _) fun c hc=>by have:=jd _ c hc;unfold isW;simp[this]
 ·exact⟨34,_,rfl,by decide,by rintro⟨h,-⟩;cases h⟩
 ·show ∃ c l,x++r=c::l/\_
  rcases h1 with h1 | h1
  ·obtain⟨a1,a2,-⟩:=ja x (List.mem_append.2 (.inl h1))
   exact name x a1 a2
  ·obtain⟨a1,-,-,-,-,-,a7,-,a9⟩:=Qc x h1
   cases x with
   | nil=>exact absurd rfl a1
   | cons a x=>
    refine⟨a,x++r,rfl,a7,?_⟩;rintro⟨b1,b2⟩;cases x with
    | nil=>
     rcases hr with rfl | ⟨c,l,rfl,hc⟩
     ·cases b2
     ·injection b2 with b2
      rw[b2]at hc;revert hc;decide
    | cons b x=>exact a9 ⟨b1,b2⟩
 ·have h1':x∈primsL:=h1
  obtain⟨a1,a2,-⟩:=ja x (List.mem_append.2 (.inr h1'));exact name x a1 a2
theorem qfm{t:Tk}(ht:MayT t){r:List Int}(hr:Ends r):qh (putL t++r)=putL t++r/\putL t++r≠[]:=by
 obtain⟨c,l,e,h1,h2⟩:=qbq ht hr;rw[e];exact⟨jh h1 h2,by simp⟩
theorem qhq{ts:List Tk}{l:List Int}(h:Wr ts l):∀ (f o:Nat),l.length<f->∃ ps,qx f l o=.ok ps/\ps.map (·.1)=ts:=by
 induction h with
 | nil he=>
  intro f o hf;cases f with
  | zero=>omega
  | succ f=>
   have:=QY he [];rw[List.append_nil,zl]at this;exact⟨[],ze this,rfl⟩
 | cons hg ht hw he ih=>
  rename_i g l t ts;intro f o hf;cases f with
  | zero=>omega
  | succ f=>
   obtain⟨h1,h2⟩:=qfm ht he;have hs:qh (g++(putL t++l))=putL t++l:=by rw[QY hg,h1]
   have hp:0<(putL t).length:=by
    rcases Nat.eq_zero_or_pos (putL t).length with h0 | h0
    ·have h3:=List.eq_nil_of_length_eq_zero h0
     obtain⟨c,q,e,h4,-⟩:=qbq ht (r:=[]) (.inl rfl);rw[h3]at e;cases e
    ·exact h0
   obtain⟨ps,h3,h4⟩:=ih f (o+((g++(putL t++l)).length-l.length)) (by simp only[List.length_append]at hf;omega);refine⟨(t,o+((g++(putL t++l)).length-(putL t++l).length))::ps,?_,by rw[List.map_cons,h4]⟩;rw[qO (by rw[hs];exact h2),hs,qg4 ht he];show Rs.cons _ (qx f l _)=_
   rw[h3];rfl
theorem zZ:∀ (n:Nat) (l:List Int),l.length<=n->qh (qh l)=qh l
 | _,[],_=>by rw[zl,zl]
 | 0,c::l,h=>by simp at h
 | n+1,c::l,h=>by
  have hl:l.length<=n:=by simpa using h
  by_cases h1:isBl c=true
  ·rw[QH h1];exact zZ n l hl
  ·have h1':isBl c=false:=by simpa using h1
   by_cases h2:c=45/\l.head?=some 45
   ·have e:qh (c::l)=qh (l.dropWhile fun x=>decide (x≠10)):=by rw[qh,if_neg h1,if_pos h2]
    have h3:=qL (fun x:Int=>decide (x≠10)) l;rw[e];exact zZ n _ (by omega)
   ·rw[jh h1' h2,jh h1' h2]
theorem qbx:∀ (f:Nat) (l:List Int) (o:Nat) (ps:List (Tk × Nat)),(∀ c∈l,cpB c=true)->qx f l o=.ok ps->∀ p∈ps,MayT p.1
 | 0,l,o,ps,_,h,p,hp=>by injection h with h;subst h;simp at hp
 | f+1,l,o,ps,hc,h,p,hp=>by
  by_cases hs:qh l=[]
  ·rw[ze hs]at h;injection h with h;subst h;simp at hp
  ·rw[qO hs]at h
   cases e:oneL (qh l) with
   | err x d=>rw[e]at h;cases h
   | ok t r=>
    rw[e]at h;obtain⟨hm,⟨u,hu⟩,hr⟩:=zS hs e (jA hc);cases e2:qx f r (o+(l.length-r.length)) with
    | err x d=>
     have h':Rs.cons (t,o+(l.length-(qh l).length)) (qx f r (o+(l.length-r.length)))=.ok ps:=h;rw[e2]at h';cases h'
    | ok qs=>
     have h':Rs.cons (t,o+(l.length-(qh l).length)) (qx f r (o+(l.length-r.length)))=.ok ps:=h;rw[e2]at h';injection h' with h'
     subst h';rcases List.mem_cons.1 hp with rfl | hp
     ·exact hm
     ·exact qbx f r _ qs (qbb hu (jA hc)) e2 p hp
def jX:List Tk->List Int
 | []=>[]
 | [t]=>putL t
 | t::u::ts=>putL t++(32::jX (u::ts))
theorem qbF:∀ (ts:List Tk),(∀ t∈ts,MayT t)->∀ g,Blanks g->Wr ts (g++jX ts)
 | [],_,g,hg=>by rw[show jX []=[] from rfl,List.append_nil];exact .nil hg
 | [t],h,g,hg=>by
  have:=Wr.cons hg (h t (by simp)) (.nil .nil) (.inl rfl);rwa [List.append_nil]at this
 | t::u::ts,h,g,hg=> .cons hg (h t (by simp)) (qbF (u::ts) (fun x hx=>h x (by simp[List.mem_cons.1 hx])) [32] (.bl (by decide) .nil)) (.inr ⟨32,_,rfl,by decide⟩)
end Go.Proofs.YtfpoelklhekfaaaGreatDoor.Mu
namespace Go.Proofs.YtfpoelklhekfaaaGreatDoor.Mu
open Go
set_option maxRecDepth 100000
def asc(s:List UInt8):List Int:=s.map fun u=>(u.toNat:Int)
def byt(l:List Int):List UInt8:=l.map fun c=>UInt8.ofNat c.toNat
theorem zq:∀ {l:List Int},(∀ c∈l,0<=c/\c<128)->encs l=byt l
 | [],_=>rfl
 | c::l,h=>by
  rw[ql,zq fun x hx=>h x (by simp[hx]),enc1 (h c (by simp)).1 (h c (by simp)).2];rfl
theorem J9:∀ {l:List Int},(∀ c∈l,0<=c/\c<128)->asc (byt l)=l
 | [],_=>rfl
 | c::l,h=>by
  have h1:=h c (by simp);have ih:=J9 (l:=l) fun x hx=>h x (by simp[hx]);show ((UInt8.ofNat c.toNat).toNat:Int)::asc (byt l)=c::l
  rw[ih,UInt8.toNat_ofNat'];congr 1
  rw[Nat.mod_eq_of_lt (by omega)];omega
theorem qcG:∀ (s:List UInt8),byt (asc s)=s
 | []=>rfl
 | u::s=>by
  show UInt8.ofNat ((u.toNat:Int)).toNat::byt (asc s)=u::s
  rw[qcG s];simp
theorem qcz{s:List UInt8}(h:∀ u∈s,u.toNat<128):∀ c∈asc s,0<=c/\c<128:=fun c hc=>by
 obtain⟨u,hu,rfl⟩:=List.mem_map.1 hc;have:=h u hu;omega
theorem qeS{s:List UInt8}(h:∀ u∈s,u.toNat<128):encs (asc s)=s:=by
 rw[zq (qcz h),qcG]
theorem jI{c:Int}(h:0<=c/\c<128):cpB c=true:=(qG c).2 (.inl ⟨h.1,by omega⟩)
theorem qgi{s:List UInt8}(h:∀ u∈s,u.toNat<128):Cps s (asc s) []:=by
 have:=Cps.nil (cs:=asc s) fun c hc=>jI (qcz h c hc);rwa [qeS h]at this
theorem qhS{c:Int}(hc:cpB c=true)(h:128<=c):∀ u∈enc c,128<=u.toNat:=by
 have hb:=(qG c).1 hc;intro u hu;by_cases h2:c<2048
 ·rw[enc2 h h2]at hu
  simp only[List.mem_cons,List.mem_nil_iff,or_false]at hu;rcases hu with rfl | rfl <;> rw[UInt8.toNat_ofNat'] <;> omega
 by_cases h3:c<65536
 ·rw[enc3 hc (by omega) h3]at hu
  simp only[List.mem_cons,List.mem_nil_iff,or_false]at hu;rcases hu with rfl | rfl | rfl <;> rw[UInt8.toNat_ofNat'] <;> omega
 ·rw[enc4 hc (by omega)]at hu
  simp only[List.mem_cons,List.mem_nil_iff,or_false]at hu;rcases hu with rfl | rfl | rfl | rfl <;> rw[UInt8.toNat_ofNat'] <;> omega
def escB(u:UInt8):List UInt8:=if u=10 then [92,110] else if u=9 then [92,116] else if u=34∨u=92 then [92,u] else [u]
theorem qgA{u:UInt8}(h:128<=u.toNat):escB u=[u]:=by
 unfold escB;rw[if_neg (by rintro rfl;revert h;decide),if_neg (by rintro rfl;revert h;decide),if_neg (by rintro (rfl | rfl) <;> revert h <;> decide)]
theorem qfO:∀ {l:List UInt8},(∀ u∈l,128<=u.toNat)->l.flatMap escB=l
 | [],_=>rfl
 | u::l,h=>by
  rw[List.flatMap_cons,qgA (h u (by simp)),qfO fun x hx=>h x (by simp[hx])];rfl
theorem qgD{c:Int}(hc:cpB c=true):encs (escC c)=(enc c).flatMap escB:=by
 by_cases h:c<128
 ·have h0:0<=c:=by have:=(qG c).1 hc;omega
  have key:∀ n:Fin 128,encs (escC (n.val:Int))=(enc (n.val:Int)).flatMap escB:=by decide +kernel
  have:=key ⟨c.toNat,by omega⟩;rwa [show (((⟨c.toNat,by omega⟩:Fin 128).val:Nat):Int)=c from Int.toNat_of_nonneg h0]at this
 ·rw[qfO (qhS hc (by omega))]
  unfold escC;rw[if_neg (by omega),if_neg (by omega),if_neg (by omega)];simp[encs]
theorem JH:∀ {cs:List Int},AllCp cs->encs (cs.flatMap escC)=(encs cs).flatMap escB
 | [],_=>rfl
 | c::cs,h=>by
  rw[List.flatMap_cons,qU,qgD h.cons.1,JH h.cons.2,ql,List.flatMap_append]
theorem qgB{c:Int}(hc:cpB c=true):AllCp (escC c):=by
 unfold escC;repeat' split
 ·intro x hx;simp at hx;rcases hx with rfl | rfl <;> decide
 ·intro x hx;simp at hx;rcases hx with rfl | rfl <;> decide
 ·intro x hx;simp at hx;rcases hx with rfl | rfl
  ·decide
  ·exact hc
 ·intro x hx;simp at hx;subst hx;exact hc
theorem qhU{cs:List Int}(h:AllCp cs):AllCp (cs.flatMap escC):=fun x hx=>by
 obtain⟨c,hc,hx⟩:=List.mem_flatMap.1 hx;exact qgB (h c hc) x hx
def digB(n:Nat):List UInt8:=byt (digL n)
theorem qab{c:Int}(h:qt c=true):0<=c/\c<128:=by
 have:48<=c/\c<=57:=by simpa [qt] using h
 omega
theorem qeM(n:Nat):encs (digL n)=digB n:=zq fun c hc=>qab (jd n c hc)
theorem j5{n:Nat}(h:n<10):digB n=[UInt8.ofNat (48+n)]:=by
 unfold digB;rw[digL,dif_pos h];show [UInt8.ofNat (48+(n:Int)).toNat]=_
 rw[show (48+(n:Int)).toNat=48+n by omega]
theorem JD{n:Nat}(h:¬ n<10):digB n=digB (n / 10)++[UInt8.ofNat (48+n % 10)]:=by
 unfold digB;conv=>lhs;rw[digL,dif_neg h];rw[show byt (digL (n / 10)++[48+((n % 10:Nat):Int)])=byt (digL (n / 10))++[UInt8.ofNat (48+((n % 10:Nat):Int)).toNat] from List.map_append ..];rw[show (48+((n % 10:Nat):Int)).toNat=48+n % 10 by omega]
theorem qbe:∀ (k n:Nat),n<10 ^ (k+1)->(digB n).length<=k+1
 | 0,n,h=>by rw[j5 (by simpa using h)];simp
 | k+1,n,h=>by
  by_cases h1:n<10
  ·rw[j5 h1];simp
  ·rw[JD h1,List.length_append]
   have:=qbe k (n / 10) (by rw[Nat.div_lt_iff_lt_mul (by decide)];rw[Nat.pow_succ]at h;exact h);simp only[List.length_singleton];omega
theorem j8{c:Int}(h:isW c=true):0<=c/\c<128:=by
 simp only[isW,qt,isSm,isGr,Bool.or_eq_true,decide_eq_true_eq]at h;omega
def putB(k:Int)(s:List UInt8)(n:Int):List UInt8:=if k=3 then digB n.toNat else if k=4 then 34::(s.flatMap escB++[34]) else s
theorem qdm{t:Tk}(h:AllCp t.x):encs (putL t)=putB t.k (encs t.x) t.n:=by
 unfold putL putB;split
 ·exact qeM _
 split
 ·rw[ql,qU,JH h];rfl
 ·rfl
theorem qfY{t:Tk}(h:AllCp t.x):AllCp (putL t):=by
 unfold putL;split
 ·exact fun c hc=>jI (qab (jd _ c hc))
 split
 ·intro c hc
  rcases List.mem_cons.1 hc with rfl | hc
  ·decide
  rcases List.mem_append.1 hc with hc | hc
  ·exact qhU h c hc
  ·simp at hc;subst hc;decide
 ·exact h
def qg:List (Int × List UInt8 × Int)->List UInt8
 | []=>[]
 | [t]=>putB t.1 t.2.1 t.2.2
 | t::u::ts=>putB t.1 t.2.1 t.2.2++(32::qg (u::ts))
def Tk.b(t:Tk):Int × List UInt8 × Int:=(t.k,encs t.x,t.n)
theorem Zm:∀ {ts:List Tk},(∀ t∈ts,AllCp t.x)->encs (jX ts)=qg (ts.map Tk.b)
 | [],_=>rfl
 | [t],h=>qdm (h t (by simp))
 | t::u::ts,h=>by
  show encs (putL t++(32::jX (u::ts)))=putB t.k (encs t.x) t.n++(32::qg ((u::ts).map Tk.b))
  rw[qU,qdm (h t (by simp)),ql,Zm (ts:=u::ts) fun x hx=>h x (by simp[List.mem_cons.1 hx])];rfl
theorem qbE:∀ {ts:List Tk},(∀ t∈ts,AllCp t.x)->AllCp (jX ts)
 | [],_=>fun c hc=>by simp[jX]at hc
 | [t],h=>qfY (h t (by simp))
 | t::u::ts,h=>by
  have h1:=qfY (h t (by simp));have h2:=qbE (ts:=u::ts) fun x hx=>h x (by simp[List.mem_cons.1 hx]);exact h1.app fun c hc=>(List.mem_cons.1 hc).elim (fun e=>by rw[e];decide) (h2 c)
end Go.Proofs.YtfpoelklhekfaaaGreatDoor.Mu
namespace Go.Proofs.YtfpoelklhekfaaaGreatDoor.Mu
open Go
set_option maxRecDepth 100000
def za:List (List UInt8):=wordsL.map byt
def zk:List (List UInt8):=primsL.map byt
def jp:List (List UInt8):=signsL.map byt
theorem jb:∀ x∈wordsL,∀ c∈x,0<=c/\c<128:=by decide +kernel
theorem zU:∀ x∈primsL,∀ c∈x,0<=c/\c<128:=by decide +kernel
theorem zX:∀ x∈signsL,∀ c∈x,0<=c/\c<128:=by decide +kernel
theorem zG{L:List (List Int)}(hL:∀ x∈L,∀ c∈x,0<=c/\c<128){s:List UInt8}{cs:List Int}{rest:List UInt8}(h:Cps s cs rest):s∈L.map byt↔rest=[]/\cs∈L:=by
 constructor
 ·intro hs
  obtain⟨x,hx,rfl⟩:=List.mem_map.1 hs;have k:Cps (byt x) x []:=by
   have:=Cps.nil (cs:=x) fun c hc=>jI (hL x hx c hc);rwa [zq (hL x hx)]at this
  obtain⟨rfl,rfl⟩:=h.uniq k;exact⟨rfl,hx⟩
 ·rintro⟨rfl,hx⟩
  rw[h.eq,zq (hL cs hx),List.append_nil];exact List.mem_map_of_mem hx
def qb4(s:List UInt8)(big:Bool):Prop:=s≠[]/\s.length<=24/\(∀ u∈s,isW (u.toNat:Int)=true)/\(if big=true then isGr ((asc s).headD 0)=true else isSm ((asc s).headD 0)=true)/\s ∉ za/\s ∉ zk
theorem ZV(s:List UInt8):(asc s).length=s.length:=by simp[asc]
theorem qfc{s:List UInt8}{cs:List Int}{rest:List UInt8}(h:Cps s cs rest)(big:Bool):qb4 s big↔rest=[]/\qgT cs big:=by
 constructor
 ·rintro⟨h1,h2,h3,h4,h5,h6⟩
  have hlow:∀ u∈s,u.toNat<128:=fun u hu=>by have:=j8 (h3 u hu);omega
  obtain⟨rfl,rfl⟩:=h.uniq (qgi hlow);refine⟨rfl,fun e=>h1 (List.eq_nil_of_length_eq_zero (by rw[<- ZV,e];rfl)),by rw[ZV];exact h2,fun c hc=>?_,h4,fun hx=>h5 ((zG jb h).2 ⟨rfl,hx⟩),fun hx=>h6 ((zG zU h).2 ⟨rfl,hx⟩)⟩;obtain⟨u,hu,rfl⟩:=List.mem_map.1 hc;exact h3 u hu
 ·rintro⟨rfl,h1,h2,h3,h4,h5,h6⟩
  have hl:∀ c∈cs,0<=c/\c<128:=fun c hc=>j8 (h3 c hc);have hs:s=byt cs:=by rw[h.eq,zq hl,List.append_nil]
  have ha:asc s=cs:=by rw[hs,J9 hl]
  refine⟨fun e=>h1 (by rw[<- ha,e];rfl),by rw[<- ZV,ha];exact h2,fun u hu=>?_,by rw[ha];exact h4,fun hx=>h5 ((zG jb h).1 hx).2,fun hx=>h6 ((zG zU h).1 hx).2⟩;exact h3 _ (by rw[<- ha];exact List.mem_map_of_mem hu)
def qv(t:Int × List UInt8 × Int):Prop:=
 (t.1=1/\qb4 t.2.1 false/\t.2.2=0)∨(t.1=2/\qb4 t.2.1 true/\t.2.2=0)∨(t.1=3/\0<=t.2.2/\t.2.2<=1099511627776/\t.2.1=[])∨(t.1=4/\(∃ ds,Cps t.2.1 ds [])/\t.2.2=0) ∨
  (t.1=5/\(t.2.1∈za∨t.2.1∈jp)/\t.2.2=0)∨(t.1=6/\t.2.1∈zk/\t.2.2=0)
theorem qgW{s:List UInt8}{cs:List Int}{rest:List UInt8}(h:Cps s cs rest):s=[]↔rest=[]/\cs=[]:=by
 constructor
 ·intro e
  have e1:=h.eq;rw[e]at e1;obtain⟨e2,e3⟩:=List.append_eq_nil_iff.1 e1.symm;refine⟨e3,?_⟩;cases cs with
  | nil=>rfl
  | cons c cs=>exact absurd (List.append_eq_nil_iff.1 e2).1 (qcO h.cp.cons.1)
 ·rintro⟨rfl,rfl⟩;rw[h.eq];rfl
theorem qc7{s:List UInt8}{cs:List Int}{rest:List UInt8}(h:Cps s cs rest)(k n:Int):qv (k,s,n)↔rest=[]/\MayT ⟨k,cs,n⟩:=by
 unfold qv MayT;simp only[qfc h,qgW h,za,jp,zk,zG jb h,zG zX h,zG zU h];have h4:(∃ ds,Cps s ds [])↔rest=[]/\∀ c∈cs,cpB c=true:=by
  constructor
  ·rintro⟨ds,hd⟩
   obtain⟨rfl,rfl⟩:=h.uniq hd;exact⟨rfl,h.cp⟩
  ·rintro⟨rfl,_⟩;exact⟨cs,h⟩
 rw[h4];constructor
 ·rintro (⟨a,⟨b,c⟩,d⟩ | ⟨a,⟨b,c⟩,d⟩ | ⟨a,b,c,d,e⟩ | ⟨a,⟨b,c⟩,d⟩ | ⟨a,(⟨b,c⟩ | ⟨b,c⟩),d⟩ | ⟨a,⟨b,c⟩,d⟩)
  ·exact⟨b,.inl ⟨a,c,d⟩⟩
  ·exact⟨b,.inr (.inl ⟨a,c,d⟩)⟩
  ·exact⟨d,.inr (.inr (.inl ⟨a,b,c,e⟩))⟩
  ·exact⟨b,.inr (.inr (.inr (.inl ⟨a,c,d⟩)))⟩
  ·exact⟨b,.inr (.inr (.inr (.inr (.inl ⟨a,.inl c,d⟩))))⟩
  ·exact⟨b,.inr (.inr (.inr (.inr (.inl ⟨a,.inr c,d⟩))))⟩
  ·exact⟨b,.inr (.inr (.inr (.inr (.inr ⟨a,c,d⟩))))⟩
 ·rintro⟨b,(⟨a,c,d⟩ | ⟨a,c,d⟩ | ⟨a,e,c,d⟩ | ⟨a,c,d⟩ | ⟨a,(c | c),d⟩ | ⟨a,c,d⟩)⟩
  ·exact .inl ⟨a,⟨b,c⟩,d⟩
  ·exact .inr (.inl ⟨a,⟨b,c⟩,d⟩)
  ·exact .inr (.inr (.inl ⟨a,e,c,b,d⟩))
  ·exact .inr (.inr (.inr (.inl ⟨a,⟨b,c⟩,d⟩)))
  ·exact .inr (.inr (.inr (.inr (.inl ⟨a,.inl ⟨b,c⟩,d⟩))))
  ·exact .inr (.inr (.inr (.inr (.inl ⟨a,.inr ⟨b,c⟩,d⟩))))
  ·exact .inr (.inr (.inr (.inr (.inr ⟨a,⟨b,c⟩,d⟩))))
theorem qfU{t:Tk}(h:MayT t):AllCp t.x:=by
 intro c hc;rcases h with ⟨_,h,_⟩ | ⟨_,h,_⟩ | ⟨_,_,_,h⟩ | ⟨_,h,_⟩ | ⟨_,(h | h),_⟩ | ⟨_,h,_⟩
 ·exact jI (j8 (h.2.2.1 c hc))
 ·exact jI (j8 (h.2.2.1 c hc))
 ·rw[h]at hc;simp at hc
 ·exact h c hc
 ·exact jI (jb _ h c hc)
 ·exact jI (zX _ h c hc)
 ·exact jI (zU _ h c hc)
theorem qiG{t:Tk}(h:MayT t):qv t.b:=(qc7 (Cps.nil (qfU h)) t.k t.n).2 ⟨rfl,h⟩
theorem qh5{t:Int × List UInt8 × Int}(h:qv t):∃ u:Tk,MayT u/\u.b=t:=by
 obtain⟨cs,rest,hc⟩:=qbc _ t.2.1 (Nat.le_refl _);obtain⟨rfl,hm⟩:=(qc7 hc t.1 t.2.2).1 h;refine⟨⟨t.1,cs,t.2.2⟩,hm,?_⟩;have:=hc.eq;rw[List.append_nil]at this;show (t.1,encs cs,t.2.2)=t
 rw[<- this]
theorem qfJ:∀ {ts:List (Int × List UInt8 × Int)},(∀ t∈ts,qv t)->∃ us:List Tk,(∀ u∈us,MayT u)/\us.map Tk.b=ts
 | [],_=>⟨[],by simp,rfl⟩
 | t::ts,h=>by
  obtain⟨u,hu,e⟩:=qh5 (h t (by simp));obtain⟨us,hus,e2⟩:=qfJ (ts:=ts) fun x hx=>h x (by simp[hx]);exact⟨u::us,fun x hx=>(List.mem_cons.1 hx).elim (fun e=>e ▸ hu) (hus x),by rw[List.map_cons,e,e2]⟩
open Classical in
noncomputable def wrO (ts:List (Int × List UInt8 × Int)):List UInt8 × Int:=
 if ∀ t∈ts,qv t then (if (qg ts).length<=4000 then (qg ts,0) else ([],3)) else ([],2)
theorem qig{ts:List (Int × List UInt8 × Int)}(h:(wrO ts).2=0):(∀ t∈ts,qv t)/\(wrO ts).1=qg ts/\(qg ts).length<=4000:=by
 unfold wrO at h ⊢;split at h
 ·rename_i h1
  rw[if_pos h1];split at h
  ·rename_i h2
   rw[if_pos h2];exact⟨h1,rfl,h2⟩
  ·exact absurd h (by decide)
 ·exact absurd h (by decide)
structure Tn where
 k:Int
 s:List UInt8
 n:Int
 p:Pl
def Tn.b(t:Tn):Int × List UInt8 × Int:=(t.k,t.s,t.n)
def tn(cs:List Int)(p:Tk × Nat):Tn:=⟨p.1.k,encs p.1.x,p.1.n,ends p0 (cs.take p.2)⟩
structure To where
 l:List Tn
 e:Int
 q:Pl
def rsO(cs:List Int):Rs->To
 | .ok ps=>⟨ps.map (tn cs),0,z0⟩
 | .err e d=>⟨[],e,ends p0 (cs.take d)⟩
def tokO(n:Nat)(cs:List Int)(rest:List UInt8):To:=
 if (ot n cs rest).e=0 then rsO cs (qx (cs.length+1) cs 0) else ⟨[],(ot n cs rest).e,(ot n cs rest).q⟩
theorem qg0{n:Nat}{cs:List Int}{rest:List UInt8}:(ot n cs rest).e=0↔n<=4000/\rest=[]:=by
 unfold ot;split
 ·rename_i h
  constructor
  ·intro h';exact absurd h' (by decide)
  ·rintro⟨h',_⟩;omega
 split
 ·rename_i h h2;exact⟨fun _=>⟨by omega,h2⟩,fun _=>rfl⟩
 ·rename_i h h2
  constructor
  ·intro h';exact absurd h' (by show ¬ (90:Int)=0;decide)
  ·rintro⟨_,h'⟩;exact absurd h' h2
theorem qao:∀ (n:Nat) (l acc:List Int) (d:Nat) (e:Int) (o:Nat),l.length<=n->quoL l acc d=.err e o->e≠0
 | _,[],acc,d,e,o,_,h=>by rw[quoL]at h;injection h with h _;rw[<- h];decide
 | 0,c::l,acc,d,e,o,hl,_=>by simp at hl
 | n+1,c::l,acc,d,e,o,hl,h=>by
  have hl':l.length<=n:=by simpa using hl
  rw[quoL]at h;split at h
  ·cases h
  split at h
  ·injection h with h _;rw[<- h];decide
  split at h
  ·split at h
   ·injection h with h _;rw[<- h];decide
   ·exact qao n _ _ _ e o (by rw[List.length_tail];omega) h
  ·exact qao n _ _ _ e o hl' h
theorem qdb{l:List Int}{e:Int}{o:Nat}(h:oneL l=.err e o):e≠0:=by
 unfold oneL at h;split at h
 ·unfold Zt at h
  repeat' split at h
  all_goals first | cases h;done | (injection h with h _;rw[<- h];decide)
 split at h
 ·unfold numL at h
  repeat' split at h
  all_goals first | cases h;done | (injection h with h _;rw[<- h];decide)
 split at h
 ·exact qao _ _ _ _ e o (Nat.le_refl _) h
 ·unfold Qs at h
  repeat' split at h
  all_goals first | cases h;done | (injection h with h _;rw[<- h];decide)
theorem qbw:∀ (f:Nat) (l:List Int) (o:Nat) (e:Int) (d:Nat),qx f l o=.err e d->e≠0
 | 0,l,o,e,d,h=>by cases h
 | f+1,l,o,e,d,h=>by
  by_cases hs:qh l=[]
  ·rw[ze hs]at h;cases h
  ·rw[qO hs]at h
   cases e1:oneL (qh l) with
   | err x y=>
    rw[e1]at h;injection h with h _
    rw[<- h];exact qdb e1
   | ok t r=>
    rw[e1]at h;have h':Rs.cons (t,o+(l.length-(qh l).length)) (qx f r (o+(l.length-r.length)))=.err e d:=h;cases e2:qx f r (o+(l.length-r.length)) with
    | ok qs=>rw[e2]at h';cases h'
    | err x y=>
     rw[e2]at h';have h2:Rs.err x y=.err e d:=h';injection h2 with h2 _
     rw[<- h2];exact qbw f r _ x y e2
theorem qf0{n:Nat}{cs:List Int}{rest:List UInt8}(h:(tokO n cs rest).e=0):n<=4000/\rest=[]/\∃ ps,qx (cs.length+1) cs 0=.ok ps/\tokO n cs rest=⟨ps.map (tn cs),0,z0⟩:=by
 unfold tokO at h ⊢;split at h
 ·rename_i h1
  rw[if_pos h1];obtain⟨h2,h3⟩:=qg0.1 h1;refine⟨h2,h3,?_⟩;cases e:qx (cs.length+1) cs 0 with
  | ok ps=>exact⟨ps,rfl,rfl⟩
  | err x y=>
   rw[e]at h;exact absurd h (qbw _ _ _ _ _ e)
 ·rename_i h1;exact absurd h h1
theorem qg7{us:List Tk}{cs:List Int}(hw:Wr us cs)(hl:(encs cs).length<=4000):tokO (encs cs).length cs []=⟨(tokO (encs cs).length cs []).l,0,z0⟩/\(tokO (encs cs).length cs []).l.map Tn.b=us.map Tk.b:=by
 obtain⟨ps,h1,h2⟩:=qhq hw (cs.length+1) 0 (by omega);have e:tokO (encs cs).length cs []=⟨ps.map (tn cs),0,z0⟩:=by
  unfold tokO;rw[if_pos (qg0.2 ⟨hl,rfl⟩),h1];rfl
 rw[e];refine⟨rfl,?_⟩;rw[<- h2,List.map_map,List.map_map];rfl
theorem Zy{ts:List (Int × List UInt8 × Int)}(h:(wrO ts).2=0):∃ cs,Cps (wrO ts).1 cs []/\(tokO (wrO ts).1.length cs []).e=0/\(tokO (wrO ts).1.length cs []).q=z0/\(tokO (wrO ts).1.length cs []).l.map Tn.b=ts:=by
 obtain⟨hm,e,hl⟩:=qig h;obtain⟨us,hu,rfl⟩:=qfJ hm;have hx:∀ t∈us,AllCp t.x:=fun t ht=>qfU (hu t ht);have e2:(wrO (us.map Tk.b)).1=encs (jX us):=by rw[e,Zm hx]
 rw[<- Zm hx]at hl;rw[e2];obtain⟨h1,h2⟩:=qg7 (by simpa using qbF us hu [] .nil) hl;exact⟨jX us,Cps.nil (qbE hx),by rw[h1],by rw[h1],h2⟩
theorem Ju{n:Nat}{cs:List Int}{rest:List UInt8}(hc:AllCp cs)(h:(tokO n cs rest).e=0):(∀ t∈(tokO n cs rest).l.map Tn.b,qv t)/\((wrO ((tokO n cs rest).l.map Tn.b)).2=0∨(wrO ((tokO n cs rest).l.map Tn.b)).2=3):=by
 obtain⟨_,_,ps,h1,h2⟩:=qf0 h;rw[h2];have hm:∀ t∈(ps.map (tn cs)).map Tn.b,qv t:=by
  intro t ht;obtain⟨x,hx,rfl⟩:=List.mem_map.1 ht;obtain⟨p,hp,rfl⟩:=List.mem_map.1 hx;exact qiG (qbx _ _ _ _ hc h1 p hp)
 refine⟨hm,?_⟩;unfold wrO;rw[if_pos hm];split
 ·exact .inl rfl
 ·exact .inr rfl
def Pl.mv(E Q:Pl):Pl:=⟨Q.a+E.a,Q.l+(E.l-1),if Q.l=1 then Q.c+(E.c-1) else Q.c⟩
end Go.Proofs.YtfpoelklhekfaaaGreatDoor.Mu
namespace Go.Proofs.YtfpoelklhekfaaaGreatDoor.Mu
open Go.RowKit Go.Shelf
set_option maxRecDepth 100000
def RL(w:World)(B:Nat)(A:Option Addr)(n:Nat)(ts:List (List UInt8)):Prop:=
 n=ts.length/\(0<n->∃ b off,A=some ⟨b,off,none⟩/\b<B/\∀ (j:Nat) (s:List UInt8),ts[j]?=some s->w.cell? ⟨b,off+j,none⟩=some (.string ⟨s.toArray⟩))
theorem RL.bel{w w':World}{A:Option Addr}{n:Nat}{ts:List (List UInt8)}(h:RL w w.heap.size A n ts)(hb:Bel w w'):RL w' w'.heap.size A n ts:=
 ⟨h.1,fun hn=>by
  obtain⟨b,off,e,hbb,hc⟩:=h.2 hn;exact⟨b,off,e,Nat.lt_of_lt_of_le hbb hb.size,fun j s hs=>(hb.cell (p:=⟨b,off+j,none⟩) hbb).trans (hc j s hs)⟩⟩
theorem RL.lit(w:World)(ts:List (List UInt8))(L:Array Value)(hL:(ts.map fun s=>Value.string ⟨s.toArray⟩).toArray=L)(n:Nat)(hn:n=ts.length)(t:TypeId):RL (w.alloc (.cells L t)) (w.alloc (.cells L t)).heap.size (some ⟨w.heap.size,0,none⟩) n ts:=by
 have hb:=blk1 w (.cells L t);refine⟨hn,fun _=>⟨w.heap.size,0,rfl,(Array.getElem?_eq_some_iff.1 hb).1,fun j s hs=>?_⟩⟩;unfold World.cell?
 rw[hb,<- hL];simp[hs]
end Go.Proofs.YtfpoelklhekfaaaGreatDoor.Mu
namespace Go.Proofs.YtfpoelklhekfaaaGreatDoor.Mu
open Go.RowKit Go.Shelf
set_option maxRecDepth 100000
def Tn.cells(t:Tn):List Value:=[.int .u8 t.k,.string ⟨t.s.toArray⟩,.int .i64 t.n,.int .i64 t.p.a,.int .i64 t.p.l,.int .i64 t.p.c]
def zo(xs:List Tn):List Value:=xs.flatMap Tn.cells
theorem JK(xs:List Tn):(zo xs).length=xs.length*6:=by
 induction xs with
 | nil=>rfl
 | cons x xs ih=>rw[zo,List.flatMap_cons,List.length_append];rw[zo]at ih;rw[ih,List.length_cons];show 6+_=_;omega
theorem qbX(xs:List Tn)(x:Tn):zo (xs++[x])=zo xs++x.cells:=by simp[zo]
def TnAt(w:World)(b o:Nat)(x:Tn):Prop:=
 w.cell? ⟨b,o,none⟩=some (.int .u8 x.k)/\w.cell? ⟨b,o+1,none⟩=some (.string ⟨x.s.toArray⟩)/\w.cell? ⟨b,o+2,none⟩=some (.int .i64 x.n)/\w.cell? ⟨b,o+3,none⟩=some (.int .i64 x.p.a)/\w.cell? ⟨b,o+4,none⟩=some (.int .i64 x.p.l)/\w.cell? ⟨b,o+5,none⟩=some (.int .i64 x.p.c)
def RTn(w:World)(B:Nat)(A:Option Addr)(n:Nat)(xs:List Tn):Prop:=
 n=xs.length/\(0<n->∃ b off,A=some ⟨b,off,none⟩/\b<B/\∀ (k:Nat) (x:Tn),xs[k]?=some x->TnAt w b (off+k*6) x)
theorem RTn.nil_{w:World}{B:Nat}{A:Option Addr}:RTn w B A 0 []:=⟨rfl,fun h=>absurd h (by omega)⟩
theorem RTn.bel{w w':World}{A:Option Addr}{n:Nat}{xs:List Tn}(h:RTn w w.heap.size A n xs)(hb:Bel w w'):RTn w' w'.heap.size A n xs:=
 ⟨h.1,fun hn=>by
  obtain⟨b,off,e,hbb,hc⟩:=h.2 hn;have key:∀ o,w'.cell? ⟨b,o,none⟩=w.cell? ⟨b,o,none⟩:=fun o=>hb.cell (p:=⟨b,o,none⟩) hbb;refine⟨b,off,e,Nat.lt_of_lt_of_le hbb hb.size,fun k x hx=>?_⟩;obtain⟨a0,a1,a2,a3,a4,a5⟩:=hc k x hx;exact⟨(key _).trans a0,(key _).trans a1,(key _).trans a2,(key _).trans a3,(key _).trans a4,(key _).trans a5⟩⟩
theorem jL:∀ (xs:List Tn) (k:Nat) (x:Tn),xs[k]?=some x->∀ j v,x.cells[j]?=some v->(zo xs)[k*6+j]?=some v
 | [],k,x,h,_,_,_=>by simp at h
 | y::xs,0,x,h,j,v,hv=>by
  simp at h;subst h;have hl:j<y.cells.length:=(List.getElem?_eq_some_iff.1 hv).1;show (y.cells++zo xs)[0*6+j]?=some v
  rw[show 0*6+j=j by omega,List.getElem?_append_left hl];exact hv
 | y::xs,k+1,x,h,j,v,hv=>by
  have ih:=jL xs k x (by simpa using h) j v hv;have hl:y.cells.length=6:=rfl;show (y.cells++zo xs)[(k+1)*6+j]?=some v
  rw[List.getElem?_append_right (by omega),hl,show (k+1)*6+j-6=k*6+j by omega];exact ih
theorem RTn.of_own{w:World}{base n c:Nat}{A:Option Addr}{xs:List Tn}{e:TypeId}(h:w.ownsRow base e 6 (.slice A n c) n (zo xs)):RTn w w.heap.size A n xs:=by
 have hl:n=xs.length:=by have h1:=h.1;rw[JK]at h1;omega
 refine⟨hl,fun hn=>?_⟩;obtain⟨g,cap,hv,_,hlt⟩:=h.form hn;have hA:A=some ⟨g,0,none⟩:=by injection hv
 subst hA;refine⟨g,0,rfl,hlt,fun k x hx=>?_⟩;have key:∀ j v,x.cells[j]?=some v->w.cell? ⟨g,0+k*6+j,none⟩=some v:=fun j v hv=>by
  have:=h.cells (g:=g) rfl _ _ (jL xs k x hx j v hv);rw[Addr.add_lit]at this;rw[Nat.add_assoc];exact this
 exact⟨key 0 _ rfl,key 1 _ rfl,key 2 _ rfl,key 3 _ rfl,key 4 _ rfl,key 5 _ rfl⟩
def samO(at_:Bool)(x y:Tn):Bool:=decide (x.k=y.k)&&decide (x.s=y.s)&&decide (x.n=y.n)&&(!at_ || decide (x.p=y.p))
end Go.Proofs.YtfpoelklhekfaaaGreatDoor.Mu
namespace Go.Proofs.YtfpoelklhekfaaaGreatDoor.Mu
open Go Go.RowKit
set_option maxRecDepth 100000
theorem RTn.lit{w:World}(xs:List Tn)(L:Array Value)(hL:(zo xs).toArray=L)(n:Nat)(hn:n=xs.length)(t:TypeId):RTn (w.alloc (.cells L t)) (w.alloc (.cells L t)).heap.size (some ⟨w.heap.size,0,none⟩) n xs:=by
 have hb:=blk1 w (.cells L t);refine⟨hn,fun _=>⟨w.heap.size,0,rfl,(Array.getElem?_eq_some_iff.1 hb).1,fun k x hx=>?_⟩⟩;have key:∀ j v,x.cells[j]?=some v->(w.alloc (.cells L t)).cell? ⟨w.heap.size,0+k*6+j,none⟩=some v:=fun j v hv=>by
  unfold World.cell?
  rw[hb,<- hL];simpa [Nat.add_assoc] using jL xs k x hx j v hv
 exact⟨key 0 _ rfl,key 1 _ rfl,key 2 _ rfl,key 3 _ rfl,key 4 _ rfl,key 5 _ rfl⟩
end Go.Proofs.YtfpoelklhekfaaaGreatDoor.Mu
namespace Go.Proofs.YtfpoelklhekfaaaGreatDoor.Mu
open Go
set_option linter.unusedVariables false
def Tr.app:Tr->Tr->Tr
 | .nil,g=>g
 | .nod k s n p a b r,g=> .nod k s n p a b (r.app g)
 | .arm k s n p a b r,g=> .arm k s n p a b (r.app g)
def Tr.exs:Tr->Tr
 | .nil=> .nil
 | .nod _ _ _ _ _ _ r=>r.exs
 | .arm _ _ _ _ _ e r=>e.app r.exs
def Tr.pats:Tr->Tr
 | .nil=> .nil
 | .nod _ _ _ _ _ _ r=>r.pats
 | .arm k s n p a _ r=> .nod k s n p a .nil r.pats
theorem Tr.app_len:∀ f g:Tr,(f.app g).len=f.len+g.len
 | .nil,g=>by simp[Tr.app,Tr.len]
 | .nod _ _ _ _ _ _ r,g=>by simp only[Tr.app,Tr.len,Tr.app_len r g];omega
 | .arm _ _ _ _ _ _ r,g=>by simp only[Tr.app,Tr.len,Tr.app_len r g];omega
theorem Tr.app_size:∀ f g:Tr,(f.app g).size=f.size+g.size
 | .nil,g=>by simp[Tr.app,Tr.size]
 | .nod _ _ _ _ _ _ r,g=>by simp only[Tr.app,Tr.size,Tr.app_size r g];omega
 | .arm _ _ _ _ _ _ r,g=>by simp only[Tr.app,Tr.size,Tr.app_size r g];omega
theorem Tr.app_nil:∀ f:Tr,f.app .nil=f
 | .nil=>rfl
 | .nod _ _ _ _ _ _ r=>by simp only[Tr.app,Tr.app_nil r]
 | .arm _ _ _ _ _ _ r=>by simp only[Tr.app,Tr.app_nil r]
theorem Tr.app_assoc:∀ f g h:Tr,(f.app g).app h=f.app (g.app h)
 | .nil,_,_=>rfl
 | .nod _ _ _ _ _ _ r,g,h=>by simp only[Tr.app,Tr.app_assoc r g h]
 | .arm _ _ _ _ _ _ r,g,h=>by simp only[Tr.app,Tr.app_assoc r g h]
theorem Tr.exs_size:∀ f:Tr,f.exs.size<=f.size
 | .nil=>Nat.le_refl _
 | .nod _ _ _ _ k a r=>by have:=Tr.exs_size r;simp only[Tr.exs,Tr.size];omega
 | .arm _ _ _ _ k e r=>by have:=Tr.exs_size r;simp only[Tr.exs,Tr.size,Tr.app_size];omega
theorem Tr.pats_size:∀ f:Tr,f.pats.size<=f.size
 | .nil=>Nat.le_refl _
 | .nod _ _ _ _ k a r=>by have:=Tr.pats_size r;simp only[Tr.pats,Tr.size];omega
 | .arm _ _ _ _ k e r=>by have:=Tr.pats_size r;simp only[Tr.pats,Tr.size];omega
structure Vis where
 d:Nat
 k:Int
 s:List UInt8
 n:Int
 kids:Tr
 arms:Tr
def Tr.pre:Nat->Tr->List Vis
 | _,.nil=>[]
 | d,.nod k s n _ kids arms rest=>⟨d,k,s,n,kids,arms⟩::(kids.pre (d+1)++arms.pre (d+1)++rest.pre d)
 | d,.arm _ _ _ _ _ e rest=>e.pre d++rest.pre d
theorem Tr.pre_app:∀ (f g:Tr) (d:Nat),(f.app g).pre d=f.pre d++g.pre d
 | .nil,_,_=>rfl
 | .nod _ _ _ _ _ _ r,g,d=>by simp only[Tr.app,Tr.pre,Tr.pre_app r g d,List.cons_append,List.append_assoc]
 | .arm _ _ _ _ _ _ r,g,d=>by simp only[Tr.app,Tr.pre,Tr.pre_app r g d,List.append_assoc]
theorem Tr.pre_size:∀ (f:Tr) (d:Nat) (v:Vis),v∈f.pre d->v.kids.size+v.arms.size<=f.size/\v.d<=d+f.size
 | .nil,_,_,h=>by simp[Tr.pre]at h
 | .nod k s n p kids arms r,d,v,h=>by
  simp only[Tr.pre,List.mem_cons,List.mem_append]at h;simp only[Tr.size];rcases h with rfl | (h | h) | h
  ·simp only;omega
  ·have:=Tr.pre_size kids _ v h;omega
  ·have:=Tr.pre_size arms _ v h;omega
  ·have:=Tr.pre_size r _ v h;omega
 | .arm _ _ _ _ k e r,d,v,h=>by
  simp only[Tr.pre,List.mem_append]at h;simp only[Tr.size];rcases h with h | h
  ·have:=Tr.pre_size e _ v h;omega
  ·have:=Tr.pre_size r _ v h;omega
def Tr.isArms:Tr->Prop
 | .nil=>True
 | .nod ..=>False
 | .arm _ _ _ _ _ e r=>e.len=1/\r.isArms
theorem Tr.exs_pre:∀ (f:Tr) (d:Nat),f.isArms->f.exs.pre d=f.pre d
 | .nil,_,_=>rfl
 | .arm _ _ _ _ _ _ r,d,h=>by simp only[Tr.exs,Tr.pre,Tr.pre_app,Tr.exs_pre r d h.2]
theorem Tr.exs_len:∀ f:Tr,f.isArms->f.exs.len=f.len
 | .nil,_=>rfl
 | .arm _ _ _ _ _ _ r,h=>by simp only[Tr.exs,Tr.app_len,Tr.len,Tr.exs_len r h.2,h.1];omega
theorem Tr.pats_len:∀ f:Tr,f.isArms->f.pats.len=f.len
 | .nil,_=>rfl
 | .arm _ _ _ _ _ _ r,h=>by simp only[Tr.pats,Tr.len,Tr.pats_len r h.2]
theorem TrAt.isArms{w:World}{Ok:Nat->Prop}:∀ (f:Tr) (b o:Nat),TrAt w Ok f .arms b o->f.isArms
 | .nil,_,_,_=>trivial
 | .nod ..,_,_,h=>by
  rcases h.2.2.1 with ⟨e,_⟩ | ⟨e | e,_⟩ <;> cases e
 | .arm k s n p kids e rest,b,o,h=>⟨h.2.2.2.1,TrAt.isArms rest b _ h.2.2.2.2.2⟩
def Tr.isNods:Tr->Prop
 | .nil=>True
 | .nod _ _ _ _ _ _ r=>r.isNods
 | .arm ..=>False
theorem TrAt.isNods{w:World}{Ok:Nat->Prop}{sh:Sh}(hsh:sh ≠ .arms):∀ (f:Tr) (b o:Nat),TrAt w Ok f sh b o->f.isNods
 | .nil,_,_,_=>trivial
 | .nod _ _ _ _ _ _ r,b,o,h=>TrAt.isNods hsh r b _ h.2.2.2
 | .arm ..,b,o,h=>absurd h.1 hsh
def Tr.pdepth:Tr->Nat
 | .nil=>0
 | .nod _ _ _ _ _ _ r=>r.pdepth
 | .arm _ _ _ _ k _ r=>max (1+k.depth) r.pdepth
theorem Tr.pats_depth:∀ f:Tr,f.pats.depth=f.pdepth
 | .nil=>rfl
 | .nod _ _ _ _ _ _ r=>Tr.pats_depth r
 | .arm k s n p a _ r=>by simp only[Tr.pats,Tr.depth,Tr.pdepth,Tr.pats_depth r];omega
def Tr.ok:Tr->Prop
 | .nil=>True
 | .nod _ _ _ _ kids arms rest=>kids.isNods/\kids.ok/\arms.isArms/\arms.ok/\rest.ok
 | .arm _ _ _ _ kids e rest=>kids.isNods/\kids.ok/\e.isNods/\e.ok/\rest.ok
theorem Tr.len_nil:∀ f:Tr,f.len=0->f=.nil
 | .nil,_=>rfl
 | .nod ..,h=>by simp[Tr.len]at h
 | .arm ..,h=>by simp[Tr.len]at h
theorem TrAt.ok{w:World}{Ok:Nat->Prop}:∀ (f:Tr) (sh:Sh) (b o:Nat),TrAt w Ok f sh b o->f.ok
 | .nil,_,_,_,_=>trivial
 | .nod k s n p kids arms rest,sh,b,o,h=>by
  obtain⟨_,⟨A,cap,_,_,a3⟩,h3,h4⟩:=h;have hsh:sh ≠ .arms:=by
   rintro rfl;rcases h3 with ⟨e,_⟩ | ⟨e | e,_⟩ <;> cases e
  refine⟨?_,?_,?_,?_,TrAt.ok rest sh b _ h4⟩
  ·rcases Nat.eq_zero_or_pos kids.len with e | e
   ·rw[Tr.len_nil kids e];trivial
   ·obtain⟨b',o',_,_,h⟩:=a3 e;exact TrAt.isNods hsh kids b' o' h
  ·rcases Nat.eq_zero_or_pos kids.len with e | e
   ·rw[Tr.len_nil kids e];trivial
   ·obtain⟨b',o',_,_,h⟩:=a3 e;exact TrAt.ok kids sh b' o' h
  ·rcases h3 with ⟨_,A2,c2,_,_,a4⟩ | ⟨_,e⟩
   ·rcases Nat.eq_zero_or_pos arms.len with e | e
    ·rw[Tr.len_nil arms e];trivial
    ·obtain⟨b',o',_,_,h⟩:=a4 e;exact TrAt.isArms arms b' o' h
   ·rw[Tr.len_nil arms e];trivial
  ·rcases h3 with ⟨_,A2,c2,_,_,a4⟩ | ⟨_,e⟩
   ·rcases Nat.eq_zero_or_pos arms.len with e | e
    ·rw[Tr.len_nil arms e];trivial
    ·obtain⟨b',o',_,_,h⟩:=a4 e;exact TrAt.ok arms .arms b' o' h
   ·rw[Tr.len_nil arms e];trivial
 | .arm k s n p kids e rest,sh,b,o,h=>by
  obtain⟨_,_,⟨A,cap,_,_,a3⟩,_,h4,h5⟩:=h;refine⟨?_,?_,TrAt.isNods (by intro e;cases e) e b _ h4,TrAt.ok e .ex b _ h4,TrAt.ok rest sh b _ h5⟩
  ·rcases Nat.eq_zero_or_pos kids.len with e | e
   ·rw[Tr.len_nil kids e];trivial
   ·obtain⟨b',o',_,_,h⟩:=a3 e;exact TrAt.isNods (by intro e;cases e) kids b' o' h
  ·rcases Nat.eq_zero_or_pos kids.len with e | e
   ·rw[Tr.len_nil kids e];trivial
   ·obtain⟨b',o',_,_,h⟩:=a3 e;exact TrAt.ok kids .pat b' o' h
def vmax(h:Vis->Nat)(m:Nat)(l:List Vis):Nat:=l.foldl (fun m v=>max m (v.d+h v)) m
theorem qbB(h:Vis->Nat)(m:Nat)(a b:List Vis):vmax h m (a++b)=vmax h (vmax h m a) b:=by simp[vmax]
theorem J2(h:Vis->Nat)(m:Nat)(v:Vis)(b:List Vis):vmax h m (v::b)=vmax h (max m (v.d+h v)) b:=by simp[vmax]
theorem Q9(h:Vis->Nat)(m:Nat)(a:List Vis)(v:Vis):vmax h m (a++[v])=max (vmax h m a) (v.d+h v):=by simp[vmax]
theorem qev(h:Vis->Nat):∀ (l:List Vis) (m:Nat),m<=vmax h m l
 | [],m=>Nat.le_refl _
 | v::l,m=>by rw[J2];exact Nat.le_trans (Nat.le_max_left _ _) (qev h l _)
def dd(d n:Nat):Nat:=if n=0 then 0 else d+n
theorem JC(d a b:Nat):dd d (max a b)=max (dd d a) (dd d b):=by
 unfold dd;by_cases ha:a=0 <;> by_cases hb:b=0
 ·subst ha hb;rfl
 ·subst ha
  rw[if_neg hb,if_pos rfl,Nat.zero_max,if_neg hb,Nat.zero_max]
 ·subst hb
  rw[if_neg ha,if_pos rfl,Nat.max_zero,if_neg ha,Nat.max_zero]
 ·rw[if_neg ha,if_neg hb,if_neg (by omega)];omega
theorem qcJ(d n:Nat):dd d (1+n)=max (d+1) (dd (d+1) n):=by
 unfold dd;rw[if_neg (by omega)];by_cases h:n=0
 ·rw[if_pos h,h];omega
 ·rw[if_neg h];omega
theorem qgs(d n R:Nat):dd d n<=R↔(n=0∨d+n<=R):=by
 unfold dd;by_cases h:n=0
 ·rw[if_pos h];simp[h]
 ·rw[if_neg h];simp[h]
theorem Tr.pdepth_le:∀ f:Tr,f.pdepth<=f.depth
 | .nil=>Nat.le_refl _
 | .nod _ _ _ _ k a r=>by have:=Tr.pdepth_le r;simp only[Tr.pdepth,Tr.depth];omega
 | .arm _ _ _ _ k e r=>by have:=Tr.pdepth_le r;simp only[Tr.pdepth,Tr.depth];omega
def hdE(v:Vis):Nat:=1+v.arms.pdepth
theorem Tr.pre_depth:∀ (f:Tr) (d m:Nat),f.ok->(f.isNods->vmax hdE m (f.pre d)=max m (dd d f.depth))/\(f.isArms->max (vmax hdE m (f.pre d)) (dd d f.pdepth)=max m (dd d f.depth))
 | .nil,d,m,_=>by simp[Tr.pre,vmax,dd,Tr.depth,Tr.pdepth]
 | .nod k s n p kids arms r,d,m,⟨k1,k2,a1,a2,r2⟩=>by
  refine⟨fun hr=>?_,fun h=>h.elim⟩;have h1:=(Tr.pre_depth kids (d+1) (max m (d+(1+arms.pdepth))) k2).1 k1;have h2:=(Tr.pre_depth arms (d+1) (vmax hdE (max m (d+(1+arms.pdepth))) (kids.pre (d+1))) a2).2 a1;have h3:=(Tr.pre_depth r d (vmax hdE (vmax hdE (max m (d+(1+arms.pdepth))) (kids.pre (d+1))) (arms.pre (d+1))) r2).1 hr;have hle:=qev hdE (arms.pre (d+1)) (vmax hdE (max m (d+(1+arms.pdepth))) (kids.pre (d+1)));have ha1:dd (d+1) arms.pdepth<=d+(1+arms.pdepth):=by unfold dd;split <;> omega
  have ha2:d+(1+arms.pdepth)<=max (d+1) (dd (d+1) arms.depth):=by
   have:=Tr.pdepth_le arms;unfold dd;split <;> omega
  simp only[Tr.pre,J2,qbB,Tr.depth,JC,qcJ];rw[show (hdE ⟨d,k,s,n,kids,arms⟩)=1+arms.pdepth from rfl,h3];omega
 | .arm k s n p kids e r,d,m,⟨k1,k2,e1,e2,r2⟩=>by
  refine⟨fun h=>h.elim,fun ⟨hl,hr⟩=>?_⟩;have h1:=(Tr.pre_depth e d m e2).1 e1;have h2:=(Tr.pre_depth r d (vmax hdE m (e.pre d)) r2).2 hr;simp only[Tr.pre,qbB,Tr.depth,Tr.pdepth,JC];omega
theorem Tr.depth_pre(f:Tr)(h1:f.isNods)(h2:f.ok):vmax hdE 0 (f.pre 0)=f.depth:=by
 rw[(Tr.pre_depth f 0 0 h2).1 h1];unfold dd;split <;> omega
def qX(self:Nat->Vis->Bool)(room:Nat)(v:Vis):Bool:=decide (v.d<room)&&self (room-v.d) v
def hdP(hP:Int->List UInt8->Int->Nat->Bool)(_:Nat)(v:Vis):Bool:=hP v.k v.s v.n v.kids.len
def hdX(hE:Int->List UInt8->Int->Nat->Nat->Bool)(hP:Int->List UInt8->Int->Nat->Bool)(room:Nat)(v:Vis):Bool:=
 hE v.k v.s v.n v.kids.len v.arms.len&&(v.arms.pats.pre 0).all (qX (hdP hP) (room-1))
section
variable (hE : Int -> List UInt8 -> Int -> Nat -> Nat -> Bool) (hP : Int -> List UInt8 -> Int -> Nat -> Bool)
def Tr.mayP:Tr->Bool
 | .nil=>true
 | .nod k s n _ kids _ r=>hP k s n kids.len&&kids.mayP&&r.mayP
 | .arm ..=>true
def Tr.mayE:Tr->Bool
 | .nil=>true
 | .nod k s n _ kids arms r=>hE k s n kids.len arms.len&&kids.mayE&&arms.mayE&&r.mayE
 | .arm k s n _ kids e r=>hP k s n kids.len&&kids.mayP hP&&e.mayE&&r.mayE
def Tr.bare:Tr->Prop
 | .nil=>True
 | .nod _ _ _ _ kids arms r=>arms=.nil/\kids.bare/\r.bare
 | .arm ..=>False
def qY(R d:Nat)(b:Bool)(n:Nat):Bool:=b&&decide (dd d n<=R)
theorem Tr.pre_mayP:∀ (f:Tr) (R d:Nat),f.bare->(f.pre d).all (qX (hdP hP) R)=qY R d (f.mayP hP) f.depth
 | .nil,R,d,_=>by simp[Tr.pre,Tr.mayP,qY,dd,Tr.depth]
 | .nod k s n p kids arms r,R,d,⟨ha,hk,hr⟩=>by
  have h1:=Tr.pre_mayP kids R (d+1) hk;have h2:=Tr.pre_mayP r R d hr;rw[ha];simp only[Tr.pre,List.all_cons,List.all_append,List.all_nil,h1,h2,Tr.mayP,qX,hdP,qY,Tr.depth,JC,qcJ];have e:(decide (d<R)&&(decide (dd (d+1) kids.depth<=R)&&decide (dd d r.depth<=R)))=decide (max (max (d+1) (max (dd (d+1) kids.depth) (dd (d+1) 0))) (dd d r.depth)<=R):=by
   rw[<- Bool.decide_and,<- Bool.decide_and];apply decide_eq_decide.2;have:dd (d+1) 0=0:=rfl;omega
  rw[<- e];cases hP k s n kids.len <;> cases kids.mayP hP <;> cases r.mayP hP <;> simp
 | .arm ..,_,_,h=>h.elim
def Tr.barep:Tr->Prop
 | .nil=>True
 | .nod _ _ _ _ kids arms r=>kids.barep/\arms.barep/\r.barep
 | .arm _ _ _ _ kids e r=>kids.bare/\e.barep/\r.barep
theorem Tr.pats_bare:∀ f:Tr,f.isArms->f.barep->f.pats.bare
 | .nil,_,_=>trivial
 | .arm _ _ _ _ kids e r,h,hb=>⟨rfl,hb.1,Tr.pats_bare r h.2 hb.2.2⟩
theorem Tr.pre_mayE:∀ (f:Tr) (R d:Nat),f.ok->f.barep->(f.isNods->(f.pre d).all (qX (hdX hE hP) R)=qY R d (f.mayE hE hP) f.depth) ∧
  (f.isArms->((f.pre d).all (qX (hdX hE hP) R)&&qY R d (f.pats.mayP hP) f.pdepth)=qY R d (f.mayE hE hP) f.depth)
 | .nil,R,d,_,_=>by simp[Tr.pre,Tr.mayE,Tr.pats,Tr.mayP,qY,dd,Tr.depth,Tr.pdepth]
 | .nod k s n p kids arms r,R,d,⟨k1,k2,a1,a2,r2⟩,⟨b1,b2,b3⟩=>by
  refine⟨fun hr=>?_,fun h=>h.elim⟩;have h1:=(Tr.pre_mayE kids R (d+1) k2 b1).1 k1;have h2:=(Tr.pre_mayE arms R (d+1) a2 b2).2 a1;have h3:=(Tr.pre_mayE r R d r2 b3).1 hr;have h4:=Tr.pre_mayP hP arms.pats (R-d-1) 0 (Tr.pats_bare arms a1 b2);rw[Tr.pats_depth]at h4;simp only[Tr.pre,List.all_cons,List.all_append,h1,h3,Tr.mayE,qX,hdX,Tr.depth,h4];have e0:(decide (d<R)&&qY (R-d-1) 0 (arms.pats.mayP hP) arms.pdepth)=(decide (d<R)&&qY R (d+1) (arms.pats.mayP hP) arms.pdepth):=by
   by_cases hd:d<R
   ·simp only[qY,dd,hd,decide_true,Bool.true_and]
    congr 1
    apply decide_eq_decide.2;have h1:=qgs 0 arms.pdepth (R-d-1);have h2:=qgs (d+1) arms.pdepth R;unfold dd at h1 h2;rw[h1,h2];omega
   ·simp[hd]
  have e1:(decide (d<R)&&(hE k s n kids.len arms.len&&qY (R-d-1) 0 (arms.pats.mayP hP) arms.pdepth)&&(qY R (d+1) (kids.mayE hE hP) kids.depth&&(arms.pre (d+1)).all (qX (hdX hE hP) R)&&qY R d (r.mayE hE hP) r.depth)) =
    (decide (d<R)&&hE k s n kids.len arms.len&&qY R (d+1) (kids.mayE hE hP) kids.depth&&qY R (d+1) (arms.mayE hE hP) arms.depth&&qY R d (r.mayE hE hP) r.depth):=by
   rw[<- h2];cases hE k s n kids.len arms.len
   ·simp
   ·have e0':=e0
    revert e0'
    generalize qY (R-d-1) 0 (arms.pats.mayP hP) arms.pdepth=x;generalize qY R (d+1) (arms.pats.mayP hP) arms.pdepth=y;generalize (arms.pre (d+1)).all (qX (hdX hE hP) R)=z;generalize qY R (d+1) (kids.mayE hE hP) kids.depth=u;generalize qY R d (r.mayE hE hP) r.depth=v;generalize decide (d<R)=t;cases x <;> cases y <;> cases z <;> cases u <;> cases v <;> cases t <;> simp
  rw[e1];have e:(decide (d<R)&&(decide (dd (d+1) kids.depth<=R)&&(decide (dd (d+1) arms.depth<=R)&&decide (dd d r.depth<=R))))=decide (dd d (max (1+max kids.depth arms.depth) r.depth)<=R):=by
   rw[<- Bool.decide_and,<- Bool.decide_and,<- Bool.decide_and];apply decide_eq_decide.2;simp only[JC,qcJ];omega
  simp only[qY];rw[<- e];cases hE k s n kids.len arms.len <;> cases kids.mayE hE hP <;> cases arms.mayE hE hP <;> cases r.mayE hE hP <;> simp[Bool.and_assoc]
 | .arm k s n p kids ex r,R,d,⟨k1,k2,e1,e2,r2⟩,⟨b1,b2,b3⟩=>by
  refine⟨fun h=>h.elim,fun ⟨hl,hr⟩=>?_⟩;have h1:=(Tr.pre_mayE ex R d e2 b2).1 e1;have h2:=(Tr.pre_mayE r R d r2 b3).2 hr;simp only[Tr.pre,List.all_append,h1,Tr.mayE,Tr.pats,Tr.mayP,Tr.pdepth,Tr.depth];have e0:∀ a b:Nat,decide (dd d (max a b)<=R)=(decide (dd d a<=R)&&decide (dd d b<=R)):=fun a b=>by
   rw[<- Bool.decide_and];apply decide_eq_decide.2;simp only[JC];omega
  simp only[qY,e0]at h2 ⊢;revert h2
  generalize (r.pre d).all (qX (hdX hE hP) R)=z;generalize hP k s n kids.len=u1;generalize kids.mayP hP=u2;generalize r.pats.mayP hP=u3;generalize r.mayE hE hP=u4;generalize ex.mayE hE hP=u5;generalize decide (dd d (1+kids.depth)<=R)=t1;generalize decide (dd d r.pdepth<=R)=t2;generalize decide (dd d ex.depth<=R)=t3;generalize decide (dd d r.depth<=R)=t4;cases z <;> cases u1 <;> cases u2 <;> cases u3 <;> cases u4 <;> cases u5 <;> cases t1 <;> cases t2 <;> cases t3 <;> cases t4 <;> simp
end
end Go.Proofs.YtfpoelklhekfaaaGreatDoor.Mu
