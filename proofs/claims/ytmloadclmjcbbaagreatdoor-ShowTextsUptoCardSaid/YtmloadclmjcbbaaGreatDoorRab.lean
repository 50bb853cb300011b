import Derived.KernelRfl
import Derived.Deep.Quiet
import Derived.Deep.RegionHeld3
import Derived.StillTail
import Derived.Deep.DeepCutAuto
import Derived.Deep.RegionLaw
import Derived.Lib.SliceRun
import Derived.Test.YtmloadclmjcbbaaGreatDoorRaa
open Go.Lib (hid)
namespace Go.Proofs.YtmloadclmjcbbaaGreatDoor.Mu
open Go Go.RowKit Go.Shelf
attribute [local go_sem] Oper.semAt_some
set_option linter.unusedVariables false
set_option maxRecDepth 100000
def qI(c:Int):Bool:=decide (48<=c/\c<=57)
def isSm(c:Int):Bool:=decide (97<=c/\c<=122)
def isGr(c:Int):Bool:=decide (65<=c/\c<=90)
def isW(c:Int):Bool:=qI c || isSm c || isGr c || decide (c=95) || decide (c=39)
def isBl(c:Int):Bool:=decide (c=32) || decide (c=9) || decide (c=10) || decide (c=13)
structure Tk where
 k:Int
 x:List Int
 n:Int
deriving DecidableEq
def wordsL:List (List Int):=[[108,101,116],[114,101,99],[105,110],[99,97,115,101],[111,102],[100,97,116,97]]
def primsL:List (List Int):=[[111,112,101,110],[114,101,97,100],[119,114,105,116,101],[99,108,111,115,101],[97,114,114,97,121],[103,101,116],[115,101,116],[115,105,122,101],[102,97,105,108],[108,101,110]]
def signsL:List (List Int):=[[92],[45,62],[45,49,62],[45,63,62],[45,42,62],[61],[61,61],[59],[123],[125],[40],[41],[124],[60],[43,43],[43],[45],[42],[47],[37],[95],[63]]
theorem zu{α:Type}(p:α->Bool)(l:List α):(l.dropWhile p).length<=l.length:=by
 induction l with
 | nil=>simp
 | cons a l ih=>
  rw[List.dropWhile_cons];split
  ·exact Nat.le_succ_of_le ih
  ·exact Nat.le_refl _
def qo:List Int->List Int
 | []=>[]
 | c::l=>if isBl c=true then qo l else if c=45/\l.head?=some 45 then qo (l.dropWhile fun x=>decide (x≠10)) else c::l
termination_by l=>l.length
decreasing_by
 ·simp
 ·exact Nat.lt_succ_of_le (zu _ l)
theorem jk:qo []=[]:=by rw[qo]
theorem Jh{c:Int}(h:isBl c=true)(l:List Int):qo (c::l)=qo l:=by rw[qo,if_pos h]
theorem qbH(l:List Int):qo (45::45::l)=qo ((45::l).dropWhile fun x=>decide (x≠10)):=by
 rw[qo,if_neg (by decide),if_pos ⟨rfl,rfl⟩]
theorem Qt{c:Int}{l:List Int}(h1:isBl c=false)(h2:¬ (c=45/\l.head?=some 45)):qo (c::l)=c::l:=by
 rw[qo,if_neg (by simp[h1]),if_neg h2]
theorem Zg:∀ (n:Nat) (l:List Int),l.length<=n->(qo l).length<=l.length
 | _,[],_=>by rw[jk];exact Nat.le_refl _
 | 0,c::l,h=>by simp at h
 | n+1,c::l,h=>by
  have hl:l.length<=n:=by simpa using h
  rw[qo];split
  ·exact Nat.le_succ_of_le (Zg n l hl)
  split
  ·have h1:=zu (fun x:Int=>decide (x≠10)) l
   have h2:=Zg n (l.dropWhile fun x=>decide (x≠10)) (by omega);simp only[List.length_cons];omega
  ·exact Nat.le_refl _
inductive Blanks:List Int->Prop
 | nil:Blanks []
 | bl {c:Int} {b:List Int} (h:isBl c=true) (hb:Blanks b):Blanks (c::b)
 | rem {u b:List Int} (h:∀ x∈u,x≠10) (hb:Blanks b):Blanks (45::45::(u++10::b))
theorem qgC{u:List Int}(h:∀ x∈u,x≠10)(r:List Int):(u++10::r).dropWhile (fun x=>decide (x≠10))=10::r:=by
 induction u with
 | nil=>simp
 | cons a u ih=>
  have ha:a≠10:=h a (by simp);rw[List.cons_append,List.dropWhile_cons,if_pos (by simpa using ha)];exact ih fun x hx=>h x (by simp[hx])
theorem JE{b:List Int}(h:Blanks b)(r:List Int):qo (b++r)=qo r:=by
 induction h with
 | nil=>rfl
 | bl hc _ ih=>rw[List.cons_append,Jh hc,ih]
 | rem hu _ ih=>
  rename_i u c hk;rw[List.cons_append,List.cons_append,qbH,List.append_assoc,List.cons_append,List.dropWhile_cons,if_pos (by decide),qgC hu,Jh (by decide),ih]
inductive Rd where
 | ok (t:Tk) (r:List Int)
 | err (e:Int) (d:Nat)
def qa4(l:List Int):Rd:=
 if l.takeWhile isW∈wordsL then .ok ⟨5,l.takeWhile isW,0⟩ (l.dropWhile isW)
 else if l.takeWhile isW∈primsL then .ok ⟨6,l.takeWhile isW,0⟩ (l.dropWhile isW)
 else if 24<(l.takeWhile isW).length then .err 3 0
 else if isGr (l.headD 0)=true then .ok ⟨2,l.takeWhile isW,0⟩ (l.dropWhile isW) else .ok ⟨1,l.takeWhile isW,0⟩ (l.dropWhile isW)
def valN(l:List Int):Int:=l.foldl (fun n c=>10*n+(c-48)) 0
def numL(l:List Int):Rd:=
 if l.headD 0=48/\qI (l.tail.headD 0)=true then .err 100 0
 else if 1099511627776<valN (l.takeWhile qI) then .err 101 0
 else .ok ⟨3,[],valN (l.takeWhile qI)⟩ (l.dropWhile qI)
def escV(c:Int):Int:=if c=110 then 10 else if c=116 then 9 else if c=34 then 34 else if c=92 then 92 else 0
def quoL:List Int->List Int->Nat->Rd
 | [],_,_=> .err 102 0
 | c::l,acc,d=>
  if c=34 then .ok ⟨4,acc,0⟩ l
  else if c=10 then .err 102 0
  else if c=92 then (if escV (l.headD 0)=0 then .err 100 d else quoL l.tail (acc++[escV (l.headD 0)]) (d+2))
  else quoL l (acc++[c]) (d+1)
termination_by l=>l.length
decreasing_by
 ·simp only[List.length_tail,List.length_cons];omega
 ·simp
def JD(l:List Int):Rd:=
 if 3<=l.length/\l.take 3∈signsL then .ok ⟨5,l.take 3,0⟩ (l.drop 3)
 else if 2<=l.length/\l.take 2∈signsL then .ok ⟨5,l.take 2,0⟩ (l.drop 2)
 else if 1<=l.length/\l.take 1∈signsL then .ok ⟨5,l.take 1,0⟩ (l.drop 1)
 else .err 100 0
def oneL(l:List Int):Rd:=
 if isSm (l.headD 0)=true∨isGr (l.headD 0)=true then qa4 l
 else if qI (l.headD 0)=true then numL l
 else if l.headD 0=34 then quoL l.tail [] 1
 else JD l
def digL(n:Nat):List Int:=if h:n<10 then [48+(n:Int)] else digL (n / 10)++[48+((n % 10:Nat):Int)]
termination_by n
decreasing_by omega
def escC(c:Int):List Int:=if c=10 then [92,110] else if c=9 then [92,116] else if c=34∨c=92 then [92,c] else [c]
def putL(t:Tk):List Int:=if t.k=3 then digL t.n.toNat else if t.k=4 then 34::(t.x.flatMap escC++[34]) else t.x
def qiI(x:List Int)(big:Bool):Prop:=x≠[]/\x.length<=24/\(∀ c∈x,isW c=true)/\(if big=true then isGr (x.headD 0)=true else isSm (x.headD 0)=true)/\x ∉ wordsL/\x ∉ primsL
def MayT(t:Tk):Prop:=
 (t.k=1/\qiI t.x false/\t.n=0)∨(t.k=2/\qiI t.x true/\t.n=0)∨(t.k=3/\0<=t.n/\t.n<=1099511627776/\t.x=[])∨(t.k=4/\(∀ c∈t.x,cpB c=true)/\t.n=0) ∨
  (t.k=5/\(t.x∈wordsL∨t.x∈signsL)/\t.n=0)∨(t.k=6/\t.x∈primsL/\t.n=0)
def Ends(r:List Int):Prop:=r=[] ∨ ∃ c l,r=c::l/\isBl c=true
theorem qhS{c:Int}(h:isSm c=true∨isGr c=true):isW c=true:=by unfold isW;rcases h with h | h <;> simp[h]
theorem qcz{c:Int}(h:isBl c=true):c=32∨c=9∨c=10∨c=13:=by simpa [isBl,or_assoc] using h
theorem qbZ{c:Int}(h:isBl c=true):isW c=false/\qI c=false:=by rcases qcz h with rfl | rfl | rfl | rfl <;> decide
theorem qc9{p:Int->Bool}{x r:List Int}(h:∀ c∈x,p c=true)(hr:r=[] ∨ ∃ c l,r=c::l/\p c=false):(x++r).takeWhile p=x/\(x++r).dropWhile p=r:=by
 induction x with
 | nil=>
  rcases hr with rfl | ⟨c,l,rfl,hc⟩
  ·simp
  ·simp[hc]
 | cons a x ih=>
  obtain⟨h1,h2⟩:=ih fun c hc=>h c (by simp[hc]);have ha:=h a (by simp);rw[List.cons_append,List.takeWhile_cons,List.dropWhile_cons,if_pos ha,if_pos ha,h1,h2];exact⟨rfl,rfl⟩
theorem Ends.w{r:List Int}(h:Ends r):r=[] ∨ ∃ c l,r=c::l/\isW c=false:=h.elim .inl fun ⟨c,l,e,k⟩=> .inr ⟨c,l,e,(qbZ k).1⟩
theorem Ends.d{r:List Int}(h:Ends r):r=[] ∨ ∃ c l,r=c::l/\qI c=false:=h.elim .inl fun ⟨c,l,e,k⟩=> .inr ⟨c,l,e,(qbZ k).2⟩
theorem Qn{x r:List Int}(h:x≠[]):(x++r).headD 0=x.headD 0:=by cases x with
 | nil=>exact absurd rfl h
 | cons a x=>rfl
theorem Qh:∀ x∈wordsL++primsL,x≠[]/\(∀ c∈x,isW c=true)/\isSm (x.headD 0)=true:=by decide +kernel
theorem Jc{x r:List Int}(hx:x≠[])(hw:∀ c∈x,isW c=true)(hh:isSm (x.headD 0)=true∨isGr (x.headD 0)=true)(hr:Ends r):oneL (x++r)=(if x∈wordsL then .ok ⟨5,x,0⟩ r else if x∈primsL then .ok ⟨6,x,0⟩ r else if 24<x.length then .err 3 0 else if isGr (x.headD 0)=true then .ok ⟨2,x,0⟩ r else .ok ⟨1,x,0⟩ r):=by
 obtain⟨h1,h2⟩:=qc9 hw hr.w;unfold oneL;rw[Qn hx,if_pos hh];unfold qa4;rw[h1,h2,Qn hx]
theorem Zo(n:Nat):digL n≠[]:=by rw[digL];split <;> simp
theorem QT:∀ (n:Nat),∀ c∈digL n,qI c=true:=by
 intro n;induction n using Nat.strongRecOn with
 | _ n ih=>
  intro c hc;rw[digL]at hc;split at hc
  ·obtain rfl:=List.mem_singleton.1 hc
   unfold qI;rw[decide_eq_true_eq];omega
  ·rcases List.mem_append.1 hc with hc | hc
   ·exact ih (n / 10) (by omega) c hc
   ·obtain rfl:=List.mem_singleton.1 hc
    unfold qI;rw[decide_eq_true_eq];omega
theorem qbO(l:List Int)(c:Int):valN (l++[c])=10*valN l+(c-48):=by simp[valN]
theorem qhF(n:Nat):valN (digL n)=(n:Int):=by
 induction n using Nat.strongRecOn with
 | _ n ih=>
  rw[digL];split
  ·show 10*(0:Int)+(48+(n:Int)-48)=n
   omega
  ·rw[qbO,ih (n / 10) (by omega)];omega
theorem qeL:∀ (n:Nat),(digL n).headD 0=48->n=0:=by
 intro n;induction n using Nat.strongRecOn with
 | _ n ih=>
  intro h;rw[digL]at h;split at h
  ·have:(48:Int)+(n:Int)=48:=h
   omega
  ·rw[Qn (Zo _)]at h
   have:=ih (n / 10) (by omega) h;omega
theorem qiM(n:Nat)(hn:n<=1099511627776){r:List Int}(hr:Ends r):oneL (digL n++r)=.ok ⟨3,[],(n:Int)⟩ r:=by
 obtain⟨h1,h2⟩:=qc9 (QT n) hr.d;have hd:qI ((digL n).headD 0)=true:=by
  cases e:digL n with
  | nil=>exact absurd e (Zo n)
  | cons a l=>exact QT n a (by rw[e];simp)
 have hb:=of_decide_eq_true (show decide (48<=(digL n).headD 0/\(digL n).headD 0<=57)=true from hd);unfold oneL;rw[Qn (Zo n),if_neg (by
  rintro (h | h)
  ·have:=of_decide_eq_true (show decide (97<=(digL n).headD 0/\(digL n).headD 0<=122)=true from h);omega
  ·have:=of_decide_eq_true (show decide (65<=(digL n).headD 0/\(digL n).headD 0<=90)=true from h);omega),if_pos hd]
 unfold numL;rw[h1,h2,qhF,Qn (Zo n),if_neg,if_neg (by omega)];rintro⟨h3,h4⟩;have h5:=qeL n h3;subst h5;have h6:digL 0=[48]:=by rw[digL];rfl
 rw[h6]at h4;rcases hr.d with rfl | ⟨c,l,rfl,hc⟩
 ·revert h4;decide
 ·have:qI c=true:=h4
  rw[hc]at this;cases this
theorem qfs:∀ (x acc r:List Int) (d:Nat),quoL (x.flatMap escC++34::r) acc d=.ok ⟨4,acc++x,0⟩ r
 | [],acc,r,d=>by rw[List.flatMap_nil,List.nil_append,quoL,if_pos rfl,List.append_nil]
 | c::x,acc,r,d=>by
  rw[List.flatMap_cons,List.append_assoc];have ih:=fun d=>qfs x (acc++[c]) r d;have e:acc++[c]++x=acc++c::x:=by simp
  rw[e]at ih;unfold escC;by_cases h10:c=10
  ·subst h10
   rw[if_pos rfl];show quoL (92::110::_) acc d=_;rw[quoL,if_neg (by decide),if_neg (by decide),if_pos rfl,if_neg (by rw[List.headD_cons];decide)];exact ih _
  rw[if_neg h10];by_cases h9:c=9
  ·subst h9
   rw[if_pos rfl];show quoL (92::116::_) acc d=_;rw[quoL,if_neg (by decide),if_neg (by decide),if_pos rfl,if_neg (by rw[List.headD_cons];decide)];exact ih _
  rw[if_neg h9];by_cases h34:c=34
  ·subst h34
   rw[if_pos (.inl rfl)];show quoL (92::34::_) acc d=_;rw[quoL,if_neg (by decide),if_neg (by decide),if_pos rfl,if_neg (by rw[List.headD_cons];decide)];exact ih _
  by_cases h92:c=92
  ·subst h92
   rw[if_pos (.inr rfl)];show quoL (92::92::_) acc d=_;rw[quoL,if_neg (by decide),if_neg (by decide),if_pos rfl,if_neg (by rw[List.headD_cons];decide)];exact ih _
  rw[if_neg (by rintro (h | h);exact h34 h;exact h92 h)];show quoL (c::_) acc d=_;rw[quoL,if_neg h34,if_neg h10,if_neg h92];exact ih _
theorem qi5(x:List Int)(r:List Int):oneL (34::(x.flatMap escC++[34])++r)=.ok ⟨4,x,0⟩ r:=by
 have:=qfs x [] r 1;rw[List.nil_append]at this;unfold oneL;rw[List.cons_append,List.headD_cons,if_neg (by decide),if_neg (by decide),if_pos rfl,List.tail_cons,List.append_assoc];exact this
theorem Zx:∀ x∈signsL,x≠[]/\x.length<=3/\isSm (x.headD 0)=false/\isGr (x.headD 0)=false/\qI (x.headD 0)=false/\x.headD 0≠34/\isBl (x.headD 0)=false/\(∀ c∈x,isBl c=false)/\¬ (x.headD 0=45/\x.tail.head?=some 45):=by decide +kernel
theorem qi1{x:List Int}{c:Int}(hc:isBl c=true)(h:c∈x):x ∉ signsL:=fun hx=>by
 have:=(Zx x hx).2.2.2.2.2.2.2.1 c h;rw[hc]at this;cases this
theorem qaZ{x r:List Int}(hr:Ends r){k:Nat}(hk:x.length<k)(hl:k<=(x++r).length):(x++r).take k ∉ signsL:=by
 rcases hr with rfl | ⟨c,l,rfl,hc⟩
 ·rw[List.append_nil]at hl;omega
 ·refine qi1 hc ?_
  have e:x++c::l=(x++[c])++l:=by simp
  rw[e,List.take_append,List.take_of_length_le (by simp;omega)];simp
theorem qhs{x r:List Int}(hx:x∈signsL)(hr:Ends r):oneL (x++r)=.ok ⟨5,x,0⟩ r:=by
 obtain⟨h1,h2,h3,h4,h5,h6,-⟩:=Zx x hx;have hp:0<x.length:=List.length_pos_iff.2 h1;have hl:(x++r).length=x.length+r.length:=List.length_append;unfold oneL;rw[Qn h1,if_neg (by rw[h3,h4];simp),if_neg (by rw[h5];simp),if_neg h6];have ht:(x++r).take x.length=x:=by simp
 have hd:(x++r).drop x.length=r:=by simp
 unfold JD;have hc:x.length=1∨x.length=2∨x.length=3:=by omega
 rcases hc with hc | hc | hc
 ·rw[if_neg (fun h=>qaZ hr (by omega) h.1 h.2),if_neg (fun h=>qaZ hr (by omega) h.1 h.2)]
  rw[hc]at ht hd;rw[ht,hd,if_pos ⟨by omega,hx⟩]
 ·rw[if_neg (fun h=>qaZ hr (by omega) h.1 h.2)]
  rw[hc]at ht hd;rw[ht,hd,if_pos ⟨by omega,hx⟩]
 ·rw[hc]at ht hd
  rw[ht,hd,if_pos ⟨by omega,hx⟩]
theorem qiU{t:Tk}(ht:MayT t){r:List Int}(hr:Ends r):oneL (putL t++r)=.ok t r:=by
 obtain⟨k,x,n⟩:=t;rcases ht with ⟨rfl,⟨h1,h2,h3,h4,h5,h6⟩,rfl⟩ | ⟨rfl,⟨h1,h2,h3,h4,h5,h6⟩,rfl⟩ | ⟨rfl,h1,h2,rfl⟩ | ⟨rfl,h1,rfl⟩ | ⟨rfl,h1,rfl⟩ | ⟨rfl,h1,rfl⟩
 ·show oneL (x++r)=_
  have h4':isSm (x.headD 0)=true:=h4;rw[Jc h1 h3 (.inl h4') hr,if_neg h5,if_neg h6,if_neg (by omega),if_neg];have:=of_decide_eq_true (show decide (97<=x.headD 0/\x.headD 0<=122)=true from h4');intro h;have:=of_decide_eq_true (show decide (65<=x.headD 0/\x.headD 0<=90)=true from h);omega
 ·show oneL (x++r)=_
  have h4':isGr (x.headD 0)=true:=h4;rw[Jc h1 h3 (.inr h4') hr,if_neg h5,if_neg h6,if_neg (by omega),if_pos h4']
 ·show oneL (digL n.toNat++r)=_
  have h1':0<=n:=h1;have h2':n<=1099511627776:=h2;rw[qiM n.toNat (by omega) hr,Int.toNat_of_nonneg h1']
 ·exact qi5 x r
 ·show oneL (x++r)=_
  rcases h1 with h1 | h1
  ·obtain⟨a1,a2,a3⟩:=Qh x (List.mem_append.2 (.inl h1))
   rw[Jc a1 a2 (.inl a3) hr,if_pos h1]
  ·exact qhs h1 hr
 ·show oneL (x++r)=_
  have h1':x∈primsL:=h1;obtain⟨a1,a2,a3⟩:=Qh x (List.mem_append.2 (.inr h1'));have hn:x ∉ wordsL:=by
   have:∀ y∈primsL,y ∉ wordsL:=by decide +kernel
   exact this x h1'
  rw[Jc a1 a2 (.inl a3) hr,if_neg hn,if_pos h1']
inductive Rs where
 | ok (ps:List (Tk × Nat))
 | err (e:Int) (o:Nat)
def Rs.cons(p:Tk × Nat):Rs->Rs
 | .ok ps=> .ok (p::ps)
 | .err e o=> .err e o
def qV:Nat->List Int->Nat->Rs
 | 0,_,_=> .ok []
 | f+1,l,o=>
  if qo l=[] then .ok []
  else match oneL (qo l) with
   | .err e d=> .err e (o+(l.length-(qo l).length)+d)
   | .ok t r=>(qV f r (o+(l.length-r.length))).cons (t,o+(l.length-(qo l).length))
theorem qaX:∀ (n:Nat) (l:List Int),l.length<=n->∃ u,l=u++qo l
 | _,[],_=>⟨[],by rw[jk];rfl⟩
 | 0,c::l,h=>by simp at h
 | n+1,c::l,h=>by
  have hl:l.length<=n:=by simpa using h
  rw[qo];split
  ·obtain⟨u,hu⟩:=qaX n l hl
   exact⟨c::u,by rw[List.cons_append,<- hu]⟩
  split
  ·have h1:=zu (fun x:Int=>decide (x≠10)) l
   obtain⟨u,hu⟩:=qaX n (l.dropWhile fun x=>decide (x≠10)) (by omega);exact⟨c::(l.takeWhile (fun x=>decide (x≠10))++u),by rw[List.cons_append,List.append_assoc,<- hu,List.takeWhile_append_dropWhile]⟩
  ·exact⟨[],rfl⟩
theorem JA:∀ (n:Nat) (l acc:List Int) (d:Nat) (t:Tk) (r:List Int),l.length<=n->quoL l acc d=.ok t r->(∀ c∈l,cpB c=true)->(∀ c∈acc,cpB c=true)->(t.k=4/\t.n=0/\∀ c∈t.x,cpB c=true)/\(∃ u,l=u++r)/\r.length<l.length
 | _,[],acc,d,t,r,_,h,_,_=>by rw[quoL]at h;cases h
 | 0,c::l,_,_,_,_,h,_,_,_=>by simp at h
 | n+1,c::l,acc,d,t,r,hn,h,hl,ha=>by
  have hn':l.length<=n:=by simpa using hn
  rw[quoL]at h;split at h
  ·injection h with h1 h2
   subst h1 h2;exact⟨⟨rfl,rfl,ha⟩,⟨[c],rfl⟩,by simp⟩
  split at h
  ·cases h
  split at h
  ·split at h
   ·cases h
   ·rename_i hv
    have hlt:l.tail.length<=n:=by rw[List.length_tail];omega
    have hne:l≠[]:=fun e=>hv (by rw[e];decide);have hev:cpB (escV (l.headD 0))=true:=by
     unfold escV at hv ⊢;repeat' split
     all_goals first | decide | simp_all
    obtain⟨h1,⟨u,hu⟩,h3⟩:=JA n l.tail _ _ t r hlt h (fun x hx=>hl x (by simp[List.mem_of_mem_tail hx])) (fun x hx=>by
     rcases List.mem_append.1 hx with hx | hx
     ·exact ha x hx
     ·obtain rfl:=List.mem_singleton.1 hx;exact hev)
    cases l with
    | nil=>exact absurd rfl hne
    | cons e l=>exact⟨h1,⟨c::e::u,by rw[List.cons_append,List.cons_append,<- hu];rfl⟩,by simp only[List.tail_cons]at h3;simp only[List.length_cons];omega⟩
  ·obtain⟨h1,⟨u,hu⟩,h3⟩:=JA n l _ _ t r hn' h (fun x hx=>hl x (by simp[hx])) (fun x hx=>by
    rcases List.mem_append.1 hx with hx | hx
    ·exact ha x hx
    ·obtain rfl:=List.mem_singleton.1 hx;exact hl _ (by simp))
   exact⟨h1,⟨c::u,by rw[List.cons_append,<- hu]⟩,by simp only[List.length_cons];omega⟩
theorem qco(l:List Int)(h:∀ c∈l,qI c=true):0<=valN l:=by
 have:∀ (l:List Int) (a:Int),0<=a->(∀ c∈l,qI c=true)->0<=l.foldl (fun n c=>10*n+(c-48)) a:=by
  intro l;induction l with
  | nil=>intro a ha _;exact ha
  | cons c l ih=>
   intro a ha hc;have h1:=of_decide_eq_true (show decide (48<=c/\c<=57)=true from hc c (by simp));exact ih _ (by show 0<=10*a+(c-48);omega) fun x hx=>hc x (by simp[hx])
 exact this l 0 (by omega) h
theorem ze(p:Int->Bool):∀ l:List Int,∀ c∈l.takeWhile p,p c=true
 | [],c,h=>by simp at h
 | a::l,c,h=>by
  rw[List.takeWhile_cons]at h;split at h
  ·rcases List.mem_cons.1 h with rfl | h
   ·assumption
   ·exact ze p l c h
  ·simp at h
theorem JG{p:Int->Bool}{l:List Int}(h:p (l.headD 0)=true)(hne:l≠[]):l.takeWhile p≠[]/\(l.takeWhile p).headD 0=l.headD 0/\(l.dropWhile p).length<l.length:=by
 cases l with
 | nil=>exact absurd rfl hne
 | cons a l=>
  have ha:p a=true:=h;rw[List.takeWhile_cons,if_pos ha,List.dropWhile_cons,if_pos ha];exact⟨by simp,rfl,by have:=zu p l;simp only[List.length_cons];omega⟩
theorem Q7{l:List Int}{t:Tk}{r:List Int}(hne:l≠[])(h:oneL l=.ok t r)(hl:∀ c∈l,cpB c=true):MayT t/\(∃ u,l=u++r)/\r.length<l.length:=by
 unfold oneL at h;split at h
 ·rename_i hh
  have hw:isW (l.headD 0)=true:=qhS hh;obtain⟨h1,h2,h3⟩:=JG (p:=isW) hw hne;have hsuf:∃ u,l=u++l.dropWhile isW:=⟨l.takeWhile isW,(List.takeWhile_append_dropWhile).symm⟩
  have hall:=ze isW l;unfold qa4 at h;split at h
  ·injection h with e1 e2;subst e1 e2
   exact⟨.inr (.inr (.inr (.inr (.inl ⟨rfl,.inl ‹_›,rfl⟩)))),hsuf,h3⟩
  split at h
  ·injection h with e1 e2;subst e1 e2
   exact⟨.inr (.inr (.inr (.inr (.inr ⟨rfl,‹_›,rfl⟩)))),hsuf,h3⟩
  split at h
  ·cases h
  rename_i n1 n2 n3;split at h
  ·rename_i hg
   injection h with e1 e2;subst e1 e2
   exact⟨.inr (.inl ⟨rfl,⟨h1,by show (l.takeWhile isW).length<=24;omega,hall,by show (if true=true then isGr ((l.takeWhile isW).headD 0)=true else _);rw[if_pos rfl,h2];exact hg,n1,n2⟩,rfl⟩),hsuf,h3⟩
  ·rename_i hg
   injection h with e1 e2;subst e1 e2
   exact⟨.inl ⟨rfl,⟨h1,by show (l.takeWhile isW).length<=24;omega,hall,by show (if false=true then _ else isSm ((l.takeWhile isW).headD 0)=true);rw[if_neg (by decide),h2];exact hh.resolve_right hg,n1,n2⟩,rfl⟩,hsuf,h3⟩
 split at h
 ·rename_i hd
  obtain⟨h1,h2,h3⟩:=JG (p:=qI) hd hne;unfold numL at h;split at h
  ·cases h
  split at h
  ·cases h
  injection h with e1 e2;subst e1 e2
  exact⟨.inr (.inr (.inl ⟨rfl,qco _ (ze qI l),by show valN _<=_;omega,rfl⟩)),⟨l.takeWhile qI,(List.takeWhile_append_dropWhile).symm⟩,h3⟩
 split at h
 ·have hlt:l.tail.length<l.length:=by
   cases l with
   | nil=>exact absurd rfl hne
   | cons a l=>simp
  obtain⟨⟨a1,a2,a3⟩,⟨u,hu⟩,h3⟩:=JA _ l.tail [] 1 t r (Nat.le_refl _) h (fun x hx=>hl x (List.mem_of_mem_tail hx)) (fun x hx=>by simp at hx);refine⟨.inr (.inr (.inr (.inl ⟨a1,a3,a2⟩))),?_,by omega⟩;cases l with
  | nil=>exact absurd rfl hne
  | cons a l=>exact⟨a::u,by rw[List.cons_append,<- hu];rfl⟩
 ·unfold JD at h
  split at h
  ·rename_i hc
   injection h with e1 e2;subst e1 e2
   exact⟨.inr (.inr (.inr (.inr (.inl ⟨rfl,.inr hc.2,rfl⟩)))),⟨l.take 3,(List.take_append_drop 3 l).symm⟩,by rw[List.length_drop];omega⟩
  split at h
  ·rename_i hc
   injection h with e1 e2;subst e1 e2
   exact⟨.inr (.inr (.inr (.inr (.inl ⟨rfl,.inr hc.2,rfl⟩)))),⟨l.take 2,(List.take_append_drop 2 l).symm⟩,by rw[List.length_drop];omega⟩
  split at h
  ·rename_i hc
   injection h with e1 e2;subst e1 e2
   exact⟨.inr (.inr (.inr (.inr (.inl ⟨rfl,.inr hc.2,rfl⟩)))),⟨l.take 1,(List.take_append_drop 1 l).symm⟩,by rw[List.length_drop];omega⟩
  ·cases h
theorem qeF{l u r:List Int}(h:l=u++r)(hl:∀ c∈l,cpB c=true):∀ c∈r,cpB c=true:=fun c hc=>hl c (by rw[h];simp[hc])
theorem JF{l:List Int}(hl:∀ c∈l,cpB c=true):∀ c∈qo l,cpB c=true:=by
 obtain⟨u,hu⟩:=qaX _ l (Nat.le_refl _);exact qeF hu hl
theorem zS{f:Nat}{l:List Int}{o:Nat}(h:qo l≠[]):qV (f+1) l o=(match oneL (qo l) with
   | .err e d=> .err e (o+(l.length-(qo l).length)+d)
   | .ok t r=>(qV f r (o+(l.length-r.length))).cons (t,o+(l.length-(qo l).length))):=by
 rw[qV,if_neg h]
theorem js{f:Nat}{l:List Int}{o:Nat}(h:qo l=[]):qV (f+1) l o=.ok []:=by rw[qV,if_pos h]
theorem qgc:∀ (f g:Nat) (l:List Int) (o:Nat),(∀ c∈l,cpB c=true)->l.length<f->l.length<g->qV f l o=qV g l o
 | 0,_,_,_,_,h,_=>by omega
 | _,0,_,_,_,_,h=>by omega
 | f+1,g+1,l,o,hc,hf,hg=>by
  by_cases h:qo l=[]
  ·rw[js h,js h]
  ·rw[zS h,zS h]
   have hs:=Zg _ l (Nat.le_refl _);cases e:oneL (qo l) with
   | err x d=>rfl
   | ok t r=>
    obtain⟨_,⟨u,hu⟩,hr⟩:=Q7 h e (JF hc);show Rs.cons _ (qV f r _)=Rs.cons _ (qV g r _);rw[qgc f g r _ (qeF hu (JF hc)) (by omega) (by omega)]
inductive Wr:List Tk->List Int->Prop
 | nil {e:List Int} (h:Blanks e):Wr [] e
 | cons {g l:List Int} {t:Tk} {ts:List Tk} (hg:Blanks g) (ht:MayT t) (hw:Wr ts l) (he:Ends l):Wr (t::ts) (g++(putL t++l))
theorem qc0{t:Tk}(ht:MayT t){r:List Int}(hr:Ends r):∃ c l,putL t++r=c::l/\isBl c=false/\¬ (c=45/\l.head?=some 45):=by
 have hW:∀ c,isW c=true->isBl c=false/\c≠45:=fun c h=>by
  have:c=32∨c=9∨c=10∨c=13∨c=45->isW c=false:=by rintro (rfl | rfl | rfl | rfl | rfl) <;> decide
  refine⟨?_,fun e=>?_⟩
  ·cases hb:isBl c
   ·rfl
   ·have:=this (by rcases qcz hb with e | e | e | e <;> simp[e])
    rw[h]at this;cases this
  ·have:=this (by simp[e])
   rw[h]at this;cases this
 have name:∀ x:List Int,x≠[]->(∀ c∈x,isW c=true)->∃ c l,x++r=c::l/\isBl c=false/\¬ (c=45/\l.head?=some 45):=fun x h1 h2=>by
  cases x with
  | nil=>exact absurd rfl h1
  | cons a x=>
   have:=hW a (h2 a (by simp));exact⟨a,x++r,rfl,this.1,fun h=>this.2 h.1⟩
 obtain⟨k,x,n⟩:=t;rcases ht with ⟨rfl,⟨h1,h2,h3,h4,h5,h6⟩,rfl⟩ | ⟨rfl,⟨h1,h2,h3,h4,h5,h6⟩,rfl⟩ | ⟨rfl,h1,h2,rfl⟩ | ⟨rfl,h1,rfl⟩ | ⟨rfl,h1,rfl⟩ | ⟨rfl,h1,rfl⟩
 ·exact name x h1 h3
 ·exact name x h1 h3
 ·exact name (digL n.toNat) (Zo _) fun c hc=>by have:=QT _ c hc;unfold isW;simp[this]
 ·exact⟨34,_,rfl,by decide,by rintro⟨h,-⟩;cases h⟩
 ·show ∃ c l,x++r=c::l/\_
  rcases h1 with h1 | h1
  ·obtain⟨a1,a2,-⟩:=Qh x (List.mem_append.2 (.inl h1))
   exact name x a1 a2
  ·obtain⟨a1,-,-,-,-,-,a7,-,a9⟩:=Zx x h1
   cases x with
   | nil=>exact absurd rfl a1
   | cons a x=>
    refine⟨a,x++r,rfl,a7,?_⟩;rintro⟨b1,b2⟩;cases x with
    | nil=>
     rcases hr with rfl | ⟨c,l,rfl,hc⟩
     ·cases b2
     ·injection b2 with b2
      rw[b2]at hc;revert hc;decide
    | cons b x=>exact a9 ⟨b1,b2⟩
 ·have h1':x∈primsL:=h1
  obtain⟨a1,a2,-⟩:=Qh x (List.mem_append.2 (.inr h1'));exact name x a1 a2
theorem qhi{t:Tk}(ht:MayT t){r:List Int}(hr:Ends r):qo (putL t++r)=putL t++r/\putL t++r≠[]:=by
 obtain⟨c,l,e,h1,h2⟩:=qc0 ht hr;rw[e];exact⟨Qt h1 h2,by simp⟩
theorem qji{ts:List Tk}{l:List Int}(h:Wr ts l):∀ (f o:Nat),l.length<f->∃ ps,qV f l o=.ok ps/\ps.map (·.1)=ts:=by
 induction h with
 | nil he=>
  intro f o hf;cases f with
  | zero=>omega
  | succ f=>
   have:=JE he [];rw[List.append_nil,jk]at this;exact⟨[],js this,rfl⟩
 | cons hg ht hw he ih=>
  rename_i g l t ts;intro f o hf;cases f with
  | zero=>omega
  | succ f=>
   obtain⟨h1,h2⟩:=qhi ht he;have hs:qo (g++(putL t++l))=putL t++l:=by rw[JE hg,h1]
   have hp:0<(putL t).length:=by
    rcases Nat.eq_zero_or_pos (putL t).length with h0 | h0
    ·have h3:=List.eq_nil_of_length_eq_zero h0
     obtain⟨c,q,e,h4,-⟩:=qc0 ht (r:=[]) (.inl rfl);rw[h3]at e;cases e
    ·exact h0
   obtain⟨ps,h3,h4⟩:=ih f (o+((g++(putL t++l)).length-l.length)) (by simp only[List.length_append]at hf;omega);refine⟨(t,o+((g++(putL t++l)).length-(putL t++l).length))::ps,?_,by rw[List.map_cons,h4]⟩;rw[zS (by rw[hs];exact h2),hs,qiU ht he];show Rs.cons _ (qV f l _)=_;rw[h3];rfl
theorem Qf:∀ (n:Nat) (l:List Int),l.length<=n->qo (qo l)=qo l
 | _,[],_=>by rw[jk,jk]
 | 0,c::l,h=>by simp at h
 | n+1,c::l,h=>by
  have hl:l.length<=n:=by simpa using h
  by_cases h1:isBl c=true
  ·rw[Jh h1];exact Qf n l hl
  ·have h1':isBl c=false:=by simpa using h1
   by_cases h2:c=45/\l.head?=some 45
   ·have e:qo (c::l)=qo (l.dropWhile fun x=>decide (x≠10)):=by rw[qo,if_neg h1,if_pos h2]
    have h3:=zu (fun x:Int=>decide (x≠10)) l;rw[e];exact Qf n _ (by omega)
   ·rw[Qt h1' h2,Qt h1' h2]
theorem qdc:∀ (f:Nat) (l:List Int) (o:Nat) (ps:List (Tk × Nat)),(∀ c∈l,cpB c=true)->qV f l o=.ok ps->∀ p∈ps,MayT p.1
 | 0,l,o,ps,_,h,p,hp=>by injection h with h;subst h;simp at hp
 | f+1,l,o,ps,hc,h,p,hp=>by
  by_cases hs:qo l=[]
  ·rw[js hs]at h;injection h with h;subst h;simp at hp
  ·rw[zS hs]at h
   cases e:oneL (qo l) with
   | err x d=>rw[e]at h;cases h
   | ok t r=>
    rw[e]at h;obtain⟨hm,⟨u,hu⟩,hr⟩:=Q7 hs e (JF hc);cases e2:qV f r (o+(l.length-r.length)) with
    | err x d=>
     have h':Rs.cons (t,o+(l.length-(qo l).length)) (qV f r (o+(l.length-r.length)))=.ok ps:=h;rw[e2]at h';cases h'
    | ok qs=>
     have h':Rs.cons (t,o+(l.length-(qo l).length)) (qV f r (o+(l.length-r.length)))=.ok ps:=h;rw[e2]at h';injection h' with h'
     subst h';rcases List.mem_cons.1 hp with rfl | hp
     ·exact hm
     ·exact qdc f r _ qs (qeF hu (JF hc)) e2 p hp
def Zk:List Tk->List Int
 | []=>[]
 | [t]=>putL t
 | t::u::ts=>putL t++(32::Zk (u::ts))
theorem qdl:∀ (ts:List Tk),(∀ t∈ts,MayT t)->∀ g,Blanks g->Wr ts (g++Zk ts)
 | [],_,g,hg=>by rw[show Zk []=[] from rfl,List.append_nil];exact .nil hg
 | [t],h,g,hg=>by
  have:=Wr.cons hg (h t (by simp)) (.nil .nil) (.inl rfl);rwa [List.append_nil]at this
 | t::u::ts,h,g,hg=> .cons hg (h t (by simp)) (qdl (u::ts) (fun x hx=>h x (by simp[List.mem_cons.1 hx])) [32] (.bl (by decide) .nil)) (.inr ⟨32,_,rfl,by decide⟩)
end Go.Proofs.YtmloadclmjcbbaaGreatDoor.Mu
namespace Go.Proofs.YtmloadclmjcbbaaGreatDoor.Mu
open Go
set_option maxRecDepth 100000
def asc(s:LU):List Int:=s.map fun u=>(u.toNat:Int)
def byt(l:List Int):LU:=l.map fun c=>UInt8.ofNat c.toNat
theorem jo:∀ {l:List Int},(∀ c∈l,0<=c/\c<128)->encs l=byt l
 | [],_=>rfl
 | c::l,h=>by
  rw[qD,jo fun x hx=>h x (by simp[hx]),enc1 (h c (by simp)).1 (h c (by simp)).2];rfl
theorem qbY:∀ {l:List Int},(∀ c∈l,0<=c/\c<128)->asc (byt l)=l
 | [],_=>rfl
 | c::l,h=>by
  have h1:=h c (by simp);have ih:=qbY (l:=l) fun x hx=>h x (by simp[hx]);show ((UInt8.ofNat c.toNat).toNat:Int)::asc (byt l)=c::l;rw[ih,UInt8.toNat_ofNat'];congr 1;rw[Nat.mod_eq_of_lt (by omega)];omega
theorem qeA:∀ (s:LU),byt (asc s)=s
 | []=>rfl
 | u::s=>by
  show UInt8.ofNat ((u.toNat:Int)).toNat::byt (asc s)=u::s;rw[qeA s];simp
theorem qer{s:LU}(h:∀ u∈s,u.toNat<128):∀ c∈asc s,0<=c/\c<128:=fun c hc=>by
 obtain⟨u,hu,rfl⟩:=List.mem_map.1 hc;have:=h u hu;omega
theorem qgH{s:LU}(h:∀ u∈s,u.toNat<128):encs (asc s)=s:=by
 rw[jo (qer h),qeA]
theorem QR{c:Int}(h:0<=c/\c<128):cpB c=true:=(qT c).2 (.inl ⟨h.1,by omega⟩)
theorem qh8{s:LU}(h:∀ u∈s,u.toNat<128):Cps s (asc s) []:=by
 have:=Cps.nil (cs:=asc s) fun c hc=>QR (qer h c hc);rwa [qgH h]at this
theorem qjB{c:Int}(hc:cpB c=true)(h:128<=c):∀ u∈enc c,128<=u.toNat:=by
 have hb:=(qT c).1 hc;intro u hu;by_cases h2:c<2048
 ·rw[enc2 h h2]at hu
  simp only[List.mem_cons,List.mem_nil_iff,or_false]at hu;rcases hu with rfl | rfl <;> rw[UInt8.toNat_ofNat'] <;> omega
 by_cases h3:c<65536
 ·rw[enc3 hc (by omega) h3]at hu
  simp only[List.mem_cons,List.mem_nil_iff,or_false]at hu;rcases hu with rfl | rfl | rfl <;> rw[UInt8.toNat_ofNat'] <;> omega
 ·rw[enc4 hc (by omega)]at hu
  simp only[List.mem_cons,List.mem_nil_iff,or_false]at hu;rcases hu with rfl | rfl | rfl | rfl <;> rw[UInt8.toNat_ofNat'] <;> omega
def escB(u:UInt8):LU:=if u=10 then [92,110] else if u=9 then [92,116] else if u=34∨u=92 then [92,u] else [u]
theorem qip{u:UInt8}(h:128<=u.toNat):escB u=[u]:=by
 unfold escB;rw[if_neg (by rintro rfl;revert h;decide),if_neg (by rintro rfl;revert h;decide),if_neg (by rintro (rfl | rfl) <;> revert h <;> decide)]
theorem qhO:∀ {l:LU},(∀ u∈l,128<=u.toNat)->l.flatMap escB=l
 | [],_=>rfl
 | u::l,h=>by
  rw[List.flatMap_cons,qip (h u (by simp)),qhO fun x hx=>h x (by simp[hx])];rfl
theorem qis{c:Int}(hc:cpB c=true):encs (escC c)=(enc c).flatMap escB:=by
 by_cases h:c<128
 ·have h0:0<=c:=by have:=(qT c).1 hc;omega
  have key:∀ n:Fin 128,encs (escC (n.val:Int))=(enc (n.val:Int)).flatMap escB:=by decide +kernel
  have:=key ⟨c.toNat,by omega⟩;rwa [show (((⟨c.toNat,by omega⟩:Fin 128).val:Nat):Int)=c from Int.toNat_of_nonneg h0]at this
 ·rw[qhO (qjB hc (by omega))]
  unfold escC;rw[if_neg (by omega),if_neg (by omega),if_neg (by omega)];simp[encs]
theorem qbi:∀ {cs:List Int},AllCp cs->encs (cs.flatMap escC)=(encs cs).flatMap escB
 | [],_=>rfl
 | c::cs,h=>by
  rw[List.flatMap_cons,zO,qis h.cons.1,qbi h.cons.2,qD,List.flatMap_append]
theorem qiq{c:Int}(hc:cpB c=true):AllCp (escC c):=by
 unfold escC;repeat' split
 ·intro x hx;simp at hx;rcases hx with rfl | rfl <;> decide
 ·intro x hx;simp at hx;rcases hx with rfl | rfl <;> decide
 ·intro x hx;simp at hx;rcases hx with rfl | rfl
  ·decide
  ·exact hc
 ·intro x hx;simp at hx;subst hx;exact hc
theorem qjD{cs:List Int}(h:AllCp cs):AllCp (cs.flatMap escC):=fun x hx=>by
 obtain⟨c,hc,hx⟩:=List.mem_flatMap.1 hx;exact qiq (h c hc) x hx
def digB(n:Nat):LU:=byt (digL n)
theorem qeM{c:Int}(h:qI c=true):0<=c/\c<128:=by
 have:48<=c/\c<=57:=by simpa [qI] using h
 omega
theorem qgA(n:Nat):encs (digL n)=digB n:=jo fun c hc=>qeM (QT n c hc)
theorem Qm{n:Nat}(h:n<10):digB n=[UInt8.ofNat (48+n)]:=by
 unfold digB;rw[digL,dif_pos h];show [UInt8.ofNat (48+(n:Int)).toNat]=_;rw[show (48+(n:Int)).toNat=48+n by omega]
theorem Jl{n:Nat}(h:¬ n<10):digB n=digB (n / 10)++[UInt8.ofNat (48+n % 10)]:=by
 unfold digB;conv=>lhs;rw[digL,dif_neg h]
 rw[show byt (digL (n / 10)++[48+((n % 10:Nat):Int)])=byt (digL (n / 10))++[UInt8.ofNat (48+((n % 10:Nat):Int)).toNat] from List.map_append ..];rw[show (48+((n % 10:Nat):Int)).toNat=48+n % 10 by omega]
theorem QS:∀ (k n:Nat),n<10 ^ (k+1)->(digB n).length<=k+1
 | 0,n,h=>by rw[Qm (by simpa using h)];simp
 | k+1,n,h=>by
  by_cases h1:n<10
  ·rw[Qm h1];simp
  ·rw[Jl h1,List.length_append]
   have:=QS k (n / 10) (by rw[Nat.div_lt_iff_lt_mul (by decide)];rw[Nat.pow_succ]at h;exact h);simp only[List.length_singleton];omega
theorem Zq{c:Int}(h:isW c=true):0<=c/\c<128:=by
 simp only[isW,qI,isSm,isGr,Bool.or_eq_true,decide_eq_true_eq]at h;omega
def putB(k:Int)(s:LU)(n:Int):LU:=if k=3 then digB n.toNat else if k=4 then 34::(s.flatMap escB++[34]) else s
theorem qfr{t:Tk}(h:AllCp t.x):encs (putL t)=putB t.k (encs t.x) t.n:=by
 unfold putL putB;split
 ·exact qgA _
 split
 ·rw[qD,zO,qbi h];rfl
 ·rfl
theorem qhZ{t:Tk}(h:AllCp t.x):AllCp (putL t):=by
 unfold putL;split
 ·exact fun c hc=>QR (qeM (QT _ c hc))
 split
 ·intro c hc
  rcases List.mem_cons.1 hc with rfl | hc
  ·decide
  rcases List.mem_append.1 hc with hc | hc
  ·exact qjD h c hc
  ·simp at hc;subst hc;decide
 ·exact h
def qt:List (Int × LU × Int)->LU
 | []=>[]
 | [t]=>putB t.1 t.2.1 t.2.2
 | t::u::ts=>putB t.1 t.2.1 t.2.2++(32::qt (u::ts))
def Tk.b(t:Tk):Int × LU × Int:=(t.k,encs t.x,t.n)
theorem JX:∀ {ts:List Tk},(∀ t∈ts,AllCp t.x)->encs (Zk ts)=qt (ts.map Tk.b)
 | [],_=>rfl
 | [t],h=>qfr (h t (by simp))
 | t::u::ts,h=>by
  show encs (putL t++(32::Zk (u::ts)))=putB t.k (encs t.x) t.n++(32::qt ((u::ts).map Tk.b));rw[zO,qfr (h t (by simp)),qD,JX (ts:=u::ts) fun x hx=>h x (by simp[List.mem_cons.1 hx])];rfl
theorem qdk:∀ {ts:List Tk},(∀ t∈ts,AllCp t.x)->AllCp (Zk ts)
 | [],_=>fun c hc=>by simp[Zk]at hc
 | [t],h=>qhZ (h t (by simp))
 | t::u::ts,h=>by
  have h1:=qhZ (h t (by simp));have h2:=qdk (ts:=u::ts) fun x hx=>h x (by simp[List.mem_cons.1 hx]);exact h1.app fun c hc=>(List.mem_cons.1 hc).elim (fun e=>by rw[e];decide) (h2 c)
end Go.Proofs.YtmloadclmjcbbaaGreatDoor.Mu
namespace Go.Proofs.YtmloadclmjcbbaaGreatDoor.Mu
open Go
set_option maxRecDepth 100000
def qK:List LU:=wordsL.map byt
def qS:List LU:=primsL.map byt
def zC:List LU:=signsL.map byt
theorem Qi:∀ x∈wordsL,∀ c∈x,0<=c/\c<128:=by decide +kernel
theorem Qa:∀ x∈primsL,∀ c∈x,0<=c/\c<128:=by decide +kernel
theorem Qe:∀ x∈signsL,∀ c∈x,0<=c/\c<128:=by decide +kernel
theorem jT{L:List (List Int)}(hL:∀ x∈L,∀ c∈x,0<=c/\c<128){s:LU}{cs:List Int}{rest:LU}(h:Cps s cs rest):s∈L.map byt↔rest=[]/\cs∈L:=by
 constructor
 ·intro hs
  obtain⟨x,hx,rfl⟩:=List.mem_map.1 hs;have k:Cps (byt x) x []:=by
   have:=Cps.nil (cs:=x) fun c hc=>QR (hL x hx c hc);rwa [jo (hL x hx)]at this
  obtain⟨rfl,rfl⟩:=h.uniq k;exact⟨rfl,hx⟩
 ·rintro⟨rfl,hx⟩
  rw[h.eq,jo (hL cs hx),List.append_nil];exact List.mem_map_of_mem hx
def Qx(s:LU)(big:Bool):Prop:=s≠[]/\s.length<=24/\(∀ u∈s,isW (u.toNat:Int)=true)/\(if big=true then isGr ((asc s).headD 0)=true else isSm ((asc s).headD 0)=true)/\s ∉ qK/\s ∉ qS
theorem qay(s:LU):(asc s).length=s.length:=by simp[asc]
theorem qg8{s:LU}{cs:List Int}{rest:LU}(h:Cps s cs rest)(big:Bool):Qx s big↔rest=[]/\qiI cs big:=by
 constructor
 ·rintro⟨h1,h2,h3,h4,h5,h6⟩
  have hlow:∀ u∈s,u.toNat<128:=fun u hu=>by have:=Zq (h3 u hu);omega
  obtain⟨rfl,rfl⟩:=h.uniq (qh8 hlow);refine⟨rfl,fun e=>h1 (List.eq_nil_of_length_eq_zero (by rw[<- qay,e];rfl)),by rw[qay];exact h2,fun c hc=>?_,h4,fun hx=>h5 ((jT Qi h).2 ⟨rfl,hx⟩),fun hx=>h6 ((jT Qa h).2 ⟨rfl,hx⟩)⟩;obtain⟨u,hu,rfl⟩:=List.mem_map.1 hc;exact h3 u hu
 ·rintro⟨rfl,h1,h2,h3,h4,h5,h6⟩
  have hl:∀ c∈cs,0<=c/\c<128:=fun c hc=>Zq (h3 c hc);have hs:s=byt cs:=by rw[h.eq,jo hl,List.append_nil]
  have ha:asc s=cs:=by rw[hs,qbY hl]
  refine⟨fun e=>h1 (by rw[<- ha,e];rfl),by rw[<- qay,ha];exact h2,fun u hu=>?_,by rw[ha];exact h4,fun hx=>h5 ((jT Qi h).1 hx).2,fun hx=>h6 ((jT Qa h).1 hx).2⟩;exact h3 _ (by rw[<- ha];exact List.mem_map_of_mem hu)
def qh(t:Int × LU × Int):Prop:=
 (t.1=1/\Qx t.2.1 false/\t.2.2=0)∨(t.1=2/\Qx t.2.1 true/\t.2.2=0)∨(t.1=3/\0<=t.2.2/\t.2.2<=1099511627776/\t.2.1=[])∨(t.1=4/\(∃ ds,Cps t.2.1 ds [])/\t.2.2=0) ∨
  (t.1=5/\(t.2.1∈qK∨t.2.1∈zC)/\t.2.2=0)∨(t.1=6/\t.2.1∈qS/\t.2.2=0)
theorem qiL{s:LU}{cs:List Int}{rest:LU}(h:Cps s cs rest):s=[]↔rest=[]/\cs=[]:=by
 constructor
 ·intro e
  have e1:=h.eq;rw[e]at e1;obtain⟨e2,e3⟩:=List.append_eq_nil_iff.1 e1.symm;refine⟨e3,?_⟩;cases cs with
  | nil=>rfl
  | cons c cs=>exact absurd (List.append_eq_nil_iff.1 e2).1 (qeP h.cp.cons.1)
 ·rintro⟨rfl,rfl⟩;rw[h.eq];rfl
theorem qfc{s:LU}{cs:List Int}{rest:LU}(h:Cps s cs rest)(k n:Int):qh (k,s,n)↔rest=[]/\MayT ⟨k,cs,n⟩:=by
 unfold qh MayT;simp only[qg8 h,qiL h,qK,zC,qS,jT Qi h,jT Qe h,jT Qa h];have h4:(∃ ds,Cps s ds [])↔rest=[]/\∀ c∈cs,cpB c=true:=by
  constructor
  ·rintro⟨ds,hd⟩
   obtain⟨rfl,rfl⟩:=h.uniq hd;exact⟨rfl,h.cp⟩
  ·rintro⟨rfl,_⟩;exact⟨cs,h⟩
 rw[h4];constructor
 ·rintro (⟨a,⟨b,c⟩,d⟩ | ⟨a,⟨b,c⟩,d⟩ | ⟨a,b,c,d,e⟩ | ⟨a,⟨b,c⟩,d⟩ | ⟨a,(⟨b,c⟩ | ⟨b,c⟩),d⟩ | ⟨a,⟨b,c⟩,d⟩)
  ·exact⟨b,.inl ⟨a,c,d⟩⟩
  ·exact⟨b,.inr (.inl ⟨a,c,d⟩)⟩
  ·exact⟨d,.inr (.inr (.inl ⟨a,b,c,e⟩))⟩
  ·exact⟨b,.inr (.inr (.inr (.inl ⟨a,c,d⟩)))⟩
  ·exact⟨b,.inr (.inr (.inr (.inr (.inl ⟨a,.inl c,d⟩))))⟩
  ·exact⟨b,.inr (.inr (.inr (.inr (.inl ⟨a,.inr c,d⟩))))⟩
  ·exact⟨b,.inr (.inr (.inr (.inr (.inr ⟨a,c,d⟩))))⟩
 ·rintro⟨b,(⟨a,c,d⟩ | ⟨a,c,d⟩ | ⟨a,e,c,d⟩ | ⟨a,c,d⟩ | ⟨a,(c | c),d⟩ | ⟨a,c,d⟩)⟩
  ·exact .inl ⟨a,⟨b,c⟩,d⟩
  ·exact .inr (.inl ⟨a,⟨b,c⟩,d⟩)
  ·exact .inr (.inr (.inl ⟨a,e,c,b,d⟩))
  ·exact .inr (.inr (.inr (.inl ⟨a,⟨b,c⟩,d⟩)))
  ·exact .inr (.inr (.inr (.inr (.inl ⟨a,.inl ⟨b,c⟩,d⟩))))
  ·exact .inr (.inr (.inr (.inr (.inl ⟨a,.inr ⟨b,c⟩,d⟩))))
  ·exact .inr (.inr (.inr (.inr (.inr ⟨a,⟨b,c⟩,d⟩))))
theorem qhV{t:Tk}(h:MayT t):AllCp t.x:=by
 intro c hc;rcases h with ⟨_,h,_⟩ | ⟨_,h,_⟩ | ⟨_,_,_,h⟩ | ⟨_,h,_⟩ | ⟨_,(h | h),_⟩ | ⟨_,h,_⟩
 ·exact QR (Zq (h.2.2.1 c hc))
 ·exact QR (Zq (h.2.2.1 c hc))
 ·rw[h]at hc;simp at hc
 ·exact h c hc
 ·exact QR (Qi _ h c hc)
 ·exact QR (Qe _ h c hc)
 ·exact QR (Qa _ h c hc)
theorem qkt{t:Tk}(h:MayT t):qh t.b:=(qfc (Cps.nil (qhV h)) t.k t.n).2 ⟨rfl,h⟩
theorem qjN{t:Int × LU × Int}(h:qh t):∃ u:Tk,MayT u/\u.b=t:=by
 obtain⟨cs,rest,hc⟩:=qbc _ t.2.1 (Nat.le_refl _);obtain⟨rfl,hm⟩:=(qfc hc t.1 t.2.2).1 h;refine⟨⟨t.1,cs,t.2.2⟩,hm,?_⟩;have:=hc.eq;rw[List.append_nil]at this;show (t.1,encs cs,t.2.2)=t;rw[<- this]
theorem qhJ:∀ {ts:List (Int × LU × Int)},(∀ t∈ts,qh t)->∃ us:List Tk,(∀ u∈us,MayT u)/\us.map Tk.b=ts
 | [],_=>⟨[],by simp,rfl⟩
 | t::ts,h=>by
  obtain⟨u,hu,e⟩:=qjN (h t (by simp));obtain⟨us,hus,e2⟩:=qhJ (ts:=ts) fun x hx=>h x (by simp[hx]);exact⟨u::us,fun x hx=>(List.mem_cons.1 hx).elim (fun e=>e ▸ hu) (hus x),by rw[List.map_cons,e,e2]⟩
open Classical in
noncomputable def wrO (ts:List (Int × LU × Int)):LU × Int:=
 if ∀ t∈ts,qh t then (if (qt ts).length<=4000 then (qt ts,0) else ([],3)) else ([],2)
theorem qkC{ts:List (Int × LU × Int)}(h:(wrO ts).2=0):(∀ t∈ts,qh t)/\(wrO ts).1=qt ts/\(qt ts).length<=4000:=by
 unfold wrO at h ⊢;split at h
 ·rename_i h1
  rw[if_pos h1];split at h
  ·rename_i h2
   rw[if_pos h2];exact⟨h1,rfl,h2⟩
  ·exact absurd h (by decide)
 ·exact absurd h (by decide)
structure Tn where
 k:Int
 s:LU
 n:Int
 p:Pl
def Tn.b(t:Tn):Int × LU × Int:=(t.k,t.s,t.n)
def tn(cs:List Int)(p:Tk × Nat):Tn:=⟨p.1.k,encs p.1.x,p.1.n,ends p0 (cs.take p.2)⟩
structure To where
 l:List Tn
 e:Int
 q:Pl
def rsO(cs:List Int):Rs->To
 | .ok ps=>⟨ps.map (tn cs),0,z0⟩
 | .err e d=>⟨[],e,ends p0 (cs.take d)⟩
def tokO(n:Nat)(cs:List Int)(rest:LU):To:=
 if (ot n cs rest).e=0 then rsO cs (qV (cs.length+1) cs 0) else ⟨[],(ot n cs rest).e,(ot n cs rest).q⟩
theorem qiP{n:Nat}{cs:List Int}{rest:LU}:(ot n cs rest).e=0↔n<=4000/\rest=[]:=by
 unfold ot;split
 ·rename_i h
  constructor
  ·intro h';exact absurd h' (by decide)
  ·rintro⟨h',_⟩;omega
 split
 ·rename_i h h2;exact⟨fun _=>⟨by omega,h2⟩,fun _=>rfl⟩
 ·rename_i h h2
  constructor
  ·intro h';exact absurd h' (by show ¬ (90:Int)=0;decide)
  ·rintro⟨_,h'⟩;exact absurd h' h2
theorem qcb:∀ (n:Nat) (l acc:List Int) (d:Nat) (e:Int) (o:Nat),l.length<=n->quoL l acc d=.err e o->e≠0
 | _,[],acc,d,e,o,_,h=>by rw[quoL]at h;injection h with h _;rw[<- h];decide
 | 0,c::l,acc,d,e,o,hl,_=>by simp at hl
 | n+1,c::l,acc,d,e,o,hl,h=>by
  have hl':l.length<=n:=by simpa using hl
  rw[quoL]at h;split at h
  ·cases h
  split at h
  ·injection h with h _;rw[<- h];decide
  split at h
  ·split at h
   ·injection h with h _;rw[<- h];decide
   ·exact qcb n _ _ _ e o (by rw[List.length_tail];omega) h
  ·exact qcb n _ _ _ e o hl' h
theorem qfh{l:List Int}{e:Int}{o:Nat}(h:oneL l=.err e o):e≠0:=by
 unfold oneL at h;split at h
 ·unfold qa4 at h
  repeat' split at h
  all_goals first | cases h;done | (injection h with h _;rw[<- h];decide)
 split at h
 ·unfold numL at h
  repeat' split at h
  all_goals first | cases h;done | (injection h with h _;rw[<- h];decide)
 split at h
 ·exact qcb _ _ _ _ e o (Nat.le_refl _) h
 ·unfold JD at h
  repeat' split at h
  all_goals first | cases h;done | (injection h with h _;rw[<- h];decide)
theorem qdb:∀ (f:Nat) (l:List Int) (o:Nat) (e:Int) (d:Nat),qV f l o=.err e d->e≠0
 | 0,l,o,e,d,h=>by cases h
 | f+1,l,o,e,d,h=>by
  by_cases hs:qo l=[]
  ·rw[js hs]at h;cases h
  ·rw[zS hs]at h
   cases e1:oneL (qo l) with
   | err x y=>
    rw[e1]at h;injection h with h _
    rw[<- h];exact qfh e1
   | ok t r=>
    rw[e1]at h;have h':Rs.cons (t,o+(l.length-(qo l).length)) (qV f r (o+(l.length-r.length)))=.err e d:=h;cases e2:qV f r (o+(l.length-r.length)) with
    | ok qs=>rw[e2]at h';cases h'
    | err x y=>
     rw[e2]at h';have h2:Rs.err x y=.err e d:=h';injection h2 with h2 _
     rw[<- h2];exact qdb f r _ x y e2
theorem qj3{n:Nat}{cs:List Int}{rest:LU}(h:(tokO n cs rest).e=0):n<=4000/\rest=[]/\∃ ps,qV (cs.length+1) cs 0=.ok ps/\tokO n cs rest=⟨ps.map (tn cs),0,z0⟩:=by
 unfold tokO at h ⊢;split at h
 ·rename_i h1
  rw[if_pos h1];obtain⟨h2,h3⟩:=qiP.1 h1;refine⟨h2,h3,?_⟩;cases e:qV (cs.length+1) cs 0 with
  | ok ps=>exact⟨ps,rfl,rfl⟩
  | err x y=>
   rw[e]at h;exact absurd h (qdb _ _ _ _ _ e)
 ·rename_i h1;exact absurd h h1
theorem qiX{us:List Tk}{cs:List Int}(hw:Wr us cs)(hl:(encs cs).length<=4000):tokO (encs cs).length cs []=⟨(tokO (encs cs).length cs []).l,0,z0⟩/\(tokO (encs cs).length cs []).l.map Tn.b=us.map Tk.b:=by
 obtain⟨ps,h1,h2⟩:=qji hw (cs.length+1) 0 (by omega);have e:tokO (encs cs).length cs []=⟨ps.map (tn cs),0,z0⟩:=by
  unfold tokO;rw[if_pos (qiP.2 ⟨hl,rfl⟩),h1];rfl
 rw[e];refine⟨rfl,?_⟩;rw[<- h2,List.map_map,List.map_map];rfl
theorem qdt{ts:List (Int × LU × Int)}(h:(wrO ts).2=0):∃ cs,Cps (wrO ts).1 cs []/\(tokO (wrO ts).1.length cs []).e=0/\(tokO (wrO ts).1.length cs []).q=z0/\(tokO (wrO ts).1.length cs []).l.map Tn.b=ts:=by
 obtain⟨hm,e,hl⟩:=qkC h;obtain⟨us,hu,rfl⟩:=qhJ hm;have hx:∀ t∈us,AllCp t.x:=fun t ht=>qhV (hu t ht);have e2:(wrO (us.map Tk.b)).1=encs (Zk us):=by rw[e,JX hx]
 rw[<- JX hx]at hl;rw[e2];obtain⟨h1,h2⟩:=qiX (by simpa using qdl us hu [] .nil) hl;exact⟨Zk us,Cps.nil (qdk hx),by rw[h1],by rw[h1],h2⟩
theorem qet{n:Nat}{cs:List Int}{rest:LU}(hc:AllCp cs)(h:(tokO n cs rest).e=0):(∀ t∈(tokO n cs rest).l.map Tn.b,qh t)/\((wrO ((tokO n cs rest).l.map Tn.b)).2=0∨(wrO ((tokO n cs rest).l.map Tn.b)).2=3):=by
 obtain⟨_,_,ps,h1,h2⟩:=qj3 h;rw[h2];have hm:∀ t∈(ps.map (tn cs)).map Tn.b,qh t:=by
  intro t ht;obtain⟨x,hx,rfl⟩:=List.mem_map.1 ht;obtain⟨p,hp,rfl⟩:=List.mem_map.1 hx;exact qkt (qdc _ _ _ _ hc h1 p hp)
 refine⟨hm,?_⟩;unfold wrO;rw[if_pos hm];split
 ·exact .inl rfl
 ·exact .inr rfl
end Go.Proofs.YtmloadclmjcbbaaGreatDoor.Mu
namespace Go.Proofs.YtmloadclmjcbbaaGreatDoor.Mu
open Go.RowKit Go.Shelf
set_option maxRecDepth 100000
theorem qdV(c:Int)(w:World):Calls Tryz.prog 154 #[.int .i32 c] w fun e w'=>e=.returned (.bool (qI c))/\w=w':=by
 go_enter Tryz.func154,Tryz.ntmps154;go_wp2;all_goals (go_ret;refine⟨zr ?_,rfl⟩;rw[Bool.eq_iff_iff];simp[qI];try omega)
theorem Zw(c:Int)(w:World):Calls Tryz.prog 129 #[.int .i32 c] w fun e w'=>e=.returned (.bool (isSm c))/\w=w':=by
 go_enter Tryz.func129,Tryz.ntmps129;go_wp2;all_goals (go_ret;refine⟨zr ?_,rfl⟩;rw[Bool.eq_iff_iff];simp[isSm];try omega)
theorem je(c:Int)(w:World):Calls Tryz.prog 128 #[.int .i32 c] w fun e w'=>e=.returned (.bool (isGr c))/\w=w':=by
 go_enter Tryz.func128,Tryz.ntmps128;go_wp2;all_goals (go_ret;refine⟨zr ?_,rfl⟩;rw[Bool.eq_iff_iff];simp[isGr];try omega)
theorem Zf(c:Int)(w:World):Calls Tryz.prog 130 #[.int .i32 c] w fun e w'=>e=.returned (.bool (isW c))/\w=w':=by
 have hI:isW c=(qI c || isSm c || isGr c || decide (c=95) || decide (c=39)):=rfl;have HI:=hid hI;clear hI;obtain⟨d,hd⟩:=nW (qI c);obtain⟨s,hs⟩:=nW (isSm c);obtain⟨g,hg⟩:=nW (isGr c);have H1:=hid hd;have H2:=hid hs;have H3:=hid hg;clear hd hs hg;have hD:∀ w,Calls Tryz.prog 154 #[.int .i32 c] w fun e w'=>e=.returned (.bool d)/\w=w':=fun w=>by rw[H1.out];exact qdV c w
 have hS:∀ w,Calls Tryz.prog 129 #[.int .i32 c] w fun e w'=>e=.returned (.bool s)/\w=w':=fun w=>by rw[H2.out];exact Zw c w
 have hG:∀ w,Calls Tryz.prog 128 #[.int .i32 c] w fun e w'=>e=.returned (.bool g)/\w=w':=fun w=>by rw[H3.out];exact je c w
 have HD:=hid hD;have HS:=hid hS;have HG:=hid hG;clear hD hS hG;go_enter Tryz.func130,Tryz.ntmps130;cases d <;> cases s <;> cases g
 all_goals
  go_wp2_with (first | (go_at_call 154;refine (HD _).mono ?_;rintro e w1 ⟨rfl,rfl⟩) | (go_at_call 129;refine (HS _).mono ?_;rintro e w1 ⟨rfl,rfl⟩) | (go_at_call 128;refine (HG _).mono ?_;rintro e w1 ⟨rfl,rfl⟩));all_goals (go_ret;refine⟨zr ?_,rfl⟩;rw[HI.out,<- H1.out,<- H2.out,<- H3.out];rw[Bool.eq_iff_iff];simp;try omega)
def RL(w:World)(B:Nat)(A:OA)(n:Nat)(ts:List LU):Prop:=
 n=ts.length/\(0<n->∃ b off,A=some ⟨b,off,none⟩/\b<B/\∀ (j:Nat) (s:LU),ts[j]?=some s->w.cell? ⟨b,off+j,none⟩=some (.string ⟨s.toArray⟩))
theorem RL.bel{w w':World}{A:OA}{n:Nat}{ts:List LU}(h:RL w w.heap.size A n ts)(hb:Bel w w'):RL w' w'.heap.size A n ts:=
 ⟨h.1,fun hn=>by
  obtain⟨b,off,e,hbb,hc⟩:=h.2 hn;exact⟨b,off,e,Nat.lt_of_lt_of_le hbb hb.size,fun j s hs=>(hb.cell (p:=⟨b,off+j,none⟩) hbb).trans (hc j s hs)⟩⟩
theorem qc2{A:OA}{n c:Nat}{ts:List LU}(s:LU)(hn:n<=1000000)(w:World)(h:RL w w.heap.size A n ts):Calls Tryz.prog 131 #[.slice A n c,.string ⟨s.toArray⟩] w fun e w'=>e=.returned (.bool (decide (s∈ts)))/\w=w':=by
 have H:=hid h;clear h;go_enter Tryz.func131,Tryz.ntmps131;go_wp2;go_loopw [5] (fun v wr=>∃ j:Nat,j<=n/\v=.int .i64 j/\wr=w/\Hid (∀ x∈ts.take j,x≠s)) (fun v _=>n-(intOf v).toNat)
 case atStart=>exact⟨0,Nat.zero_le _,rfl,rfl,hid (by simp)⟩
 case round=>
  obtain⟨j,hj,rfl,rfl,HT⟩:=hrel;by_cases hlt:j<n
  ·obtain⟨x,hx⟩:∃ x,ts[j]?=some x:=⟨_,List.getElem?_eq_getElem (by have:=H.1;omega)⟩
   obtain⟨b1,o1,rfl,hb1,hc1⟩:=H.2 (by omega);have a0:=hc1 j x hx;have HX:=hid hx;clear hc1 hx;by_cases hxs:x=s
   ·subst hxs
    go_wp2;go_ret;exact⟨zr (by simp[List.mem_of_getElem? HX.out]),rfl⟩
   ·have hq:(x==s)=false:=by simp[hxs]
    have HN:=hid hxs;clear hxs;go_wp2;go_roundw
    case rel=>
     refine⟨j+1,by omega,by go_num,trivial,hid fun y hy=>?_⟩;have hjl:=(List.getElem?_eq_some_iff.1 HX).1;rw[List.take_succ_eq_append_getElem hjl,(List.getElem?_eq_some_iff.1 HX.out).2]at hy;rcases List.mem_append.1 hy with hy | hy
     ·exact HT y hy
     ·simp at hy;rw[hy];exact HN
    case measure=>simp[intOf];omega
  ·have hjn:j=n:=by omega
   subst hjn;have hno:s ∉ ts:=fun hs=>by
    have:=H.1;rw[this,List.take_length]at HT;exact HT s hs rfl
   have HN:=hid hno;clear hno;go_wp2;go_ret;exact⟨zr (by simp[HN.out]),rfl⟩
theorem RL.lit(w:World)(ts:List LU)(L:Array Value)(hL:(ts.map fun s=>Value.string ⟨s.toArray⟩).toArray=L)(n:Nat)(hn:n=ts.length)(t:TypeId):RL (w.alloc (.cells L t)) (w.alloc (.cells L t)).heap.size (some ⟨w.heap.size,0,none⟩) n ts:=by
 have hb:=blk1 w (.cells L t);refine⟨hn,fun _=>⟨w.heap.size,0,rfl,(Array.getElem?_eq_some_iff.1 hb).1,fun j s hs=>?_⟩⟩;unfold World.cell?
 rw[hb,<- hL];simp[hs]
theorem Qs(w:World):Calls Tryz.prog 132 #[] w fun e w'=>(∃ A,e=.returned (.slice A 6 6)/\RL w' w'.heap.size A 6 qK)/\Bel w w':=by
 go_enter Tryz.func132,Tryz.ntmps132;go_wp2;go_ret;refine⟨⟨_,rfl,?_⟩,(Bel.refl _).alloc _⟩;exact RL.lit w qK _ (by kernel_rfl) 6 (by kernel_rfl) _
theorem Zv(w:World):Calls Tryz.prog 133 #[] w fun e w'=>(∃ A,e=.returned (.slice A 10 10)/\RL w' w'.heap.size A 10 qS)/\Bel w w':=by
 go_enter Tryz.func133,Tryz.ntmps133;go_wp2;go_ret;refine⟨⟨_,rfl,?_⟩,(Bel.refl _).alloc _⟩;exact RL.lit w qS _ (by kernel_rfl) 10 (by kernel_rfl) _
theorem qd5(w:World):Calls Tryz.prog 138 #[] w fun e w'=>(∃ A,e=.returned (.slice A 22 22)/\RL w' w'.heap.size A 22 zC)/\Bel w w':=by
 go_enter Tryz.func138,Tryz.ntmps138;go_wp2;go_ret;refine⟨⟨_,rfl,?_⟩,(Bel.refl _).alloc _⟩;exact RL.lit w zC _ (by kernel_rfl) 22 (by kernel_rfl) _
end Go.Proofs.YtmloadclmjcbbaaGreatDoor.Mu
namespace Go.Proofs.YtmloadclmjcbbaaGreatDoor.Mu
open Go.RowKit Go.Shelf
set_option maxRecDepth 100000
def Tn.cells(t:Tn):List Value:=[.int .u8 t.k,.string ⟨t.s.toArray⟩,.int .i64 t.n,.int .i64 t.p.a,.int .i64 t.p.l,.int .i64 t.p.c]
def jm(xs:List Tn):List Value:=xs.flatMap Tn.cells
theorem qbo(xs:List Tn):(jm xs).length=xs.length*6:=by
 induction xs with
 | nil=>rfl
 | cons x xs ih=>rw[jm,List.flatMap_cons,List.length_append];rw[jm]at ih;rw[ih,List.length_cons];show 6+_=_;omega
theorem qdD(xs:List Tn)(x:Tn):jm (xs++[x])=jm xs++x.cells:=by simp[jm]
def TnAt(w:World)(b o:Nat)(x:Tn):Prop:=
 w.cell? ⟨b,o,none⟩=some (.int .u8 x.k)/\w.cell? ⟨b,o+1,none⟩=some (.string ⟨x.s.toArray⟩)/\w.cell? ⟨b,o+2,none⟩=some (.int .i64 x.n)/\w.cell? ⟨b,o+3,none⟩=some (.int .i64 x.p.a)/\w.cell? ⟨b,o+4,none⟩=some (.int .i64 x.p.l)/\w.cell? ⟨b,o+5,none⟩=some (.int .i64 x.p.c)
def RTn(w:World)(B:Nat)(A:OA)(n:Nat)(xs:List Tn):Prop:=
 n=xs.length/\(0<n->∃ b off,A=some ⟨b,off,none⟩/\b<B/\∀ (k:Nat) (x:Tn),xs[k]?=some x->TnAt w b (off+k*6) x)
theorem RTn.nil_{w:World}{B:Nat}{A:OA}:RTn w B A 0 []:=⟨rfl,fun h=>absurd h (by omega)⟩
theorem RTn.bel{w w':World}{A:OA}{n:Nat}{xs:List Tn}(h:RTn w w.heap.size A n xs)(hb:Bel w w'):RTn w' w'.heap.size A n xs:=
 ⟨h.1,fun hn=>by
  obtain⟨b,off,e,hbb,hc⟩:=h.2 hn;have key:∀ o,w'.cell? ⟨b,o,none⟩=w.cell? ⟨b,o,none⟩:=fun o=>hb.cell (p:=⟨b,o,none⟩) hbb;refine⟨b,off,e,Nat.lt_of_lt_of_le hbb hb.size,fun k x hx=>?_⟩;obtain⟨a0,a1,a2,a3,a4,a5⟩:=hc k x hx;exact⟨(key _).trans a0,(key _).trans a1,(key _).trans a2,(key _).trans a3,(key _).trans a4,(key _).trans a5⟩⟩
theorem QX:∀ (xs:List Tn) (k:Nat) (x:Tn),xs[k]?=some x->∀ j v,x.cells[j]?=some v->(jm xs)[k*6+j]?=some v
 | [],k,x,h,_,_,_=>by simp at h
 | y::xs,0,x,h,j,v,hv=>by
  simp at h;subst h;have hl:j<y.cells.length:=(List.getElem?_eq_some_iff.1 hv).1;show (y.cells++jm xs)[0*6+j]?=some v;rw[show 0*6+j=j by omega,List.getElem?_append_left hl];exact hv
 | y::xs,k+1,x,h,j,v,hv=>by
  have ih:=QX xs k x (by simpa using h) j v hv;have hl:y.cells.length=6:=rfl;show (y.cells++jm xs)[(k+1)*6+j]?=some v;rw[List.getElem?_append_right (by omega),hl,show (k+1)*6+j-6=k*6+j by omega];exact ih
theorem RTn.of_own{w:World}{base n c:Nat}{A:OA}{xs:List Tn}{e:TypeId}(h:w.ownsRow base e 6 (.slice A n c) n (jm xs)):RTn w w.heap.size A n xs:=by
 have hl:n=xs.length:=by have h1:=h.1;rw[qbo]at h1;omega
 refine⟨hl,fun hn=>?_⟩;obtain⟨g,cap,hv,_,hlt⟩:=h.form hn;have hA:A=some ⟨g,0,none⟩:=by injection hv
 subst hA;refine⟨g,0,rfl,hlt,fun k x hx=>?_⟩;have key:∀ j v,x.cells[j]?=some v->w.cell? ⟨g,0+k*6+j,none⟩=some v:=fun j v hv=>by
  have:=h.cells (g:=g) rfl _ _ (QX xs k x hx j v hv);rw[Addr.add_lit]at this;rw[Nat.add_assoc];exact this
 exact⟨key 0 _ rfl,key 1 _ rfl,key 2 _ rfl,key 3 _ rfl,key 4 _ rfl,key 5 _ rfl⟩
def samO(at_:Bool)(x y:Tn):Bool:=decide (x.k=y.k)&&decide (x.s=y.s)&&decide (x.n=y.n)&&(!at_ || decide (x.p=y.p))
end Go.Proofs.YtmloadclmjcbbaaGreatDoor.Mu
namespace Go.Proofs.YtmloadclmjcbbaaGreatDoor.Mu
open Go Go.RowKit
set_option maxRecDepth 100000
theorem RTn.lit{w:World}(xs:List Tn)(L:Array Value)(hL:(jm xs).toArray=L)(n:Nat)(hn:n=xs.length)(t:TypeId):RTn (w.alloc (.cells L t)) (w.alloc (.cells L t)).heap.size (some ⟨w.heap.size,0,none⟩) n xs:=by
 have hb:=blk1 w (.cells L t);refine⟨hn,fun _=>⟨w.heap.size,0,rfl,(Array.getElem?_eq_some_iff.1 hb).1,fun k x hx=>?_⟩⟩;have key:∀ j v,x.cells[j]?=some v->(w.alloc (.cells L t)).cell? ⟨w.heap.size,0+k*6+j,none⟩=some v:=fun j v hv=>by
  unfold World.cell?
  rw[hb,<- hL];simpa [Nat.add_assoc] using QX xs k x hx j v hv
 exact⟨key 0 _ rfl,key 1 _ rfl,key 2 _ rfl,key 3 _ rfl,key 4 _ rfl,key 5 _ rfl⟩
end Go.Proofs.YtmloadclmjcbbaaGreatDoor.Mu
namespace Go.Proofs.YtmloadclmjcbbaaGreatDoor.Mu
open Go Go.RowKit Go.Shelf
attribute [local go_sem] Oper.semAt_some
set_option linter.unusedVariables false
set_option maxRecDepth 100000
def Tr.app:Tr->Tr->Tr
 | .nil,g=>g
 | .nod k s n p a b r,g=> .nod k s n p a b (r.app g)
 | .arm k s n p a b r,g=> .arm k s n p a b (r.app g)
def Tr.exs:Tr->Tr
 | .nil=> .nil
 | .nod _ _ _ _ _ _ r=>r.exs
 | .arm _ _ _ _ _ e r=>e.app r.exs
def Tr.pats:Tr->Tr
 | .nil=> .nil
 | .nod _ _ _ _ _ _ r=>r.pats
 | .arm k s n p a _ r=> .nod k s n p a .nil r.pats
theorem Tr.app_len:∀ f g:Tr,(f.app g).len=f.len+g.len
 | .nil,g=>by simp[Tr.app,Tr.len]
 | .nod _ _ _ _ _ _ r,g=>by simp only[Tr.app,Tr.len,Tr.app_len r g];omega
 | .arm _ _ _ _ _ _ r,g=>by simp only[Tr.app,Tr.len,Tr.app_len r g];omega
theorem Tr.app_size:∀ f g:Tr,(f.app g).size=f.size+g.size
 | .nil,g=>by simp[Tr.app,Tr.size]
 | .nod _ _ _ _ _ _ r,g=>by simp only[Tr.app,Tr.size,Tr.app_size r g];omega
 | .arm _ _ _ _ _ _ r,g=>by simp only[Tr.app,Tr.size,Tr.app_size r g];omega
theorem Tr.app_nil:∀ f:Tr,f.app .nil=f
 | .nil=>rfl
 | .nod _ _ _ _ _ _ r=>by simp only[Tr.app,Tr.app_nil r]
 | .arm _ _ _ _ _ _ r=>by simp only[Tr.app,Tr.app_nil r]
theorem Tr.app_assoc:∀ f g h:Tr,(f.app g).app h=f.app (g.app h)
 | .nil,_,_=>rfl
 | .nod _ _ _ _ _ _ r,g,h=>by simp only[Tr.app,Tr.app_assoc r g h]
 | .arm _ _ _ _ _ _ r,g,h=>by simp only[Tr.app,Tr.app_assoc r g h]
theorem Tr.exs_size:∀ f:Tr,f.exs.size<=f.size
 | .nil=>Nat.le_refl _
 | .nod _ _ _ _ k a r=>by have:=Tr.exs_size r;simp only[Tr.exs,Tr.size];omega
 | .arm _ _ _ _ k e r=>by have:=Tr.exs_size r;simp only[Tr.exs,Tr.size,Tr.app_size];omega
theorem Tr.pats_size:∀ f:Tr,f.pats.size<=f.size
 | .nil=>Nat.le_refl _
 | .nod _ _ _ _ k a r=>by have:=Tr.pats_size r;simp only[Tr.pats,Tr.size];omega
 | .arm _ _ _ _ k e r=>by have:=Tr.pats_size r;simp only[Tr.pats,Tr.size];omega
structure Vis where
 d:Nat
 k:Int
 s:LU
 n:Int
 kids:Tr
 arms:Tr
def Tr.pre:Nat->Tr->List Vis
 | _,.nil=>[]
 | d,.nod k s n _ kids arms rest=>⟨d,k,s,n,kids,arms⟩::(kids.pre (d+1)++arms.pre (d+1)++rest.pre d)
 | d,.arm _ _ _ _ _ e rest=>e.pre d++rest.pre d
theorem Tr.pre_app:∀ (f g:Tr) (d:Nat),(f.app g).pre d=f.pre d++g.pre d
 | .nil,_,_=>rfl
 | .nod _ _ _ _ _ _ r,g,d=>by simp only[Tr.app,Tr.pre,Tr.pre_app r g d,List.cons_append,List.append_assoc]
 | .arm _ _ _ _ _ _ r,g,d=>by simp only[Tr.app,Tr.pre,Tr.pre_app r g d,List.append_assoc]
theorem Tr.pre_size:∀ (f:Tr) (d:Nat) (v:Vis),v∈f.pre d->v.kids.size+v.arms.size<=f.size/\v.d<=d+f.size
 | .nil,_,_,h=>by simp[Tr.pre]at h
 | .nod k s n p kids arms r,d,v,h=>by
  simp only[Tr.pre,List.mem_cons,List.mem_append]at h;simp only[Tr.size];rcases h with rfl | (h | h) | h
  ·simp only;omega
  ·have:=Tr.pre_size kids _ v h;omega
  ·have:=Tr.pre_size arms _ v h;omega
  ·have:=Tr.pre_size r _ v h;omega
 | .arm _ _ _ _ k e r,d,v,h=>by
  simp only[Tr.pre,List.mem_append]at h;simp only[Tr.size];rcases h with h | h
  ·have:=Tr.pre_size e _ v h;omega
  ·have:=Tr.pre_size r _ v h;omega
def Tr.isArms:Tr->Prop
 | .nil=>True
 | .nod ..=>False
 | .arm _ _ _ _ _ e r=>e.len=1/\r.isArms
theorem Tr.exs_pre:∀ (f:Tr) (d:Nat),f.isArms->f.exs.pre d=f.pre d
 | .nil,_,_=>rfl
 | .arm _ _ _ _ _ _ r,d,h=>by simp only[Tr.exs,Tr.pre,Tr.pre_app,Tr.exs_pre r d h.2]
theorem Tr.exs_len:∀ f:Tr,f.isArms->f.exs.len=f.len
 | .nil,_=>rfl
 | .arm _ _ _ _ _ _ r,h=>by simp only[Tr.exs,Tr.app_len,Tr.len,Tr.exs_len r h.2,h.1];omega
theorem Tr.pats_len:∀ f:Tr,f.isArms->f.pats.len=f.len
 | .nil,_=>rfl
 | .arm _ _ _ _ _ _ r,h=>by simp only[Tr.pats,Tr.len,Tr.pats_len r h.2]
theorem TrAt.isArms{w:World}{Ok:Nat->Prop}:∀ (f:Tr) (b o:Nat),TrAt w Ok f .arms b o->f.isArms
 | .nil,_,_,_=>trivial
 | .nod ..,_,_,h=>by
  rcases h.2.2.1 with ⟨e,_⟩ | ⟨e | e,_⟩ <;> cases e
 | .arm k s n p kids e rest,b,o,h=>⟨h.2.2.2.1,TrAt.isArms rest b _ h.2.2.2.2.2⟩
def Tr.isNods:Tr->Prop
 | .nil=>True
 | .nod _ _ _ _ _ _ r=>r.isNods
 | .arm ..=>False
theorem TrAt.isNods{w:World}{Ok:Nat->Prop}{sh:Sh}(hsh:sh ≠ .arms):∀ (f:Tr) (b o:Nat),TrAt w Ok f sh b o->f.isNods
 | .nil,_,_,_=>trivial
 | .nod _ _ _ _ _ _ r,b,o,h=>TrAt.isNods hsh r b _ h.2.2.2
 | .arm ..,b,o,h=>absurd h.1 hsh
def Tr.pdepth:Tr->Nat
 | .nil=>0
 | .nod _ _ _ _ _ _ r=>r.pdepth
 | .arm _ _ _ _ k _ r=>max (1+k.depth) r.pdepth
theorem Tr.pats_depth:∀ f:Tr,f.pats.depth=f.pdepth
 | .nil=>rfl
 | .nod _ _ _ _ _ _ r=>Tr.pats_depth r
 | .arm k s n p a _ r=>by simp only[Tr.pats,Tr.depth,Tr.pdepth,Tr.pats_depth r];omega
def Tr.ok:Tr->Prop
 | .nil=>True
 | .nod _ _ _ _ kids arms rest=>kids.isNods/\kids.ok/\arms.isArms/\arms.ok/\rest.ok
 | .arm _ _ _ _ kids e rest=>kids.isNods/\kids.ok/\e.isNods/\e.ok/\rest.ok
theorem Tr.len_nil:∀ f:Tr,f.len=0->f=.nil
 | .nil,_=>rfl
 | .nod ..,h=>by simp[Tr.len]at h
 | .arm ..,h=>by simp[Tr.len]at h
theorem TrAt.ok{w:World}{Ok:Nat->Prop}:∀ (f:Tr) (sh:Sh) (b o:Nat),TrAt w Ok f sh b o->f.ok
 | .nil,_,_,_,_=>trivial
 | .nod k s n p kids arms rest,sh,b,o,h=>by
  obtain⟨_,⟨A,cap,_,_,a3⟩,h3,h4⟩:=h;have hsh:sh ≠ .arms:=by
   rintro rfl;rcases h3 with ⟨e,_⟩ | ⟨e | e,_⟩ <;> cases e
  refine⟨?_,?_,?_,?_,TrAt.ok rest sh b _ h4⟩
  ·rcases Nat.eq_zero_or_pos kids.len with e | e
   ·rw[Tr.len_nil kids e];trivial
   ·obtain⟨b',o',_,_,h⟩:=a3 e;exact TrAt.isNods hsh kids b' o' h
  ·rcases Nat.eq_zero_or_pos kids.len with e | e
   ·rw[Tr.len_nil kids e];trivial
   ·obtain⟨b',o',_,_,h⟩:=a3 e;exact TrAt.ok kids sh b' o' h
  ·rcases h3 with ⟨_,A2,c2,_,_,a4⟩ | ⟨_,e⟩
   ·rcases Nat.eq_zero_or_pos arms.len with e | e
    ·rw[Tr.len_nil arms e];trivial
    ·obtain⟨b',o',_,_,h⟩:=a4 e;exact TrAt.isArms arms b' o' h
   ·rw[Tr.len_nil arms e];trivial
  ·rcases h3 with ⟨_,A2,c2,_,_,a4⟩ | ⟨_,e⟩
   ·rcases Nat.eq_zero_or_pos arms.len with e | e
    ·rw[Tr.len_nil arms e];trivial
    ·obtain⟨b',o',_,_,h⟩:=a4 e;exact TrAt.ok arms .arms b' o' h
   ·rw[Tr.len_nil arms e];trivial
 | .arm k s n p kids e rest,sh,b,o,h=>by
  obtain⟨_,_,⟨A,cap,_,_,a3⟩,_,h4,h5⟩:=h;refine⟨?_,?_,TrAt.isNods (by intro e;cases e) e b _ h4,TrAt.ok e .ex b _ h4,TrAt.ok rest sh b _ h5⟩
  ·rcases Nat.eq_zero_or_pos kids.len with e | e
   ·rw[Tr.len_nil kids e];trivial
   ·obtain⟨b',o',_,_,h⟩:=a3 e;exact TrAt.isNods (by intro e;cases e) kids b' o' h
  ·rcases Nat.eq_zero_or_pos kids.len with e | e
   ·rw[Tr.len_nil kids e];trivial
   ·obtain⟨b',o',_,_,h⟩:=a3 e;exact TrAt.ok kids .pat b' o' h
def vmax(h:Vis->Nat)(m:Nat)(l:List Vis):Nat:=l.foldl (fun m v=>max m (v.d+h v)) m
theorem qdg(h:Vis->Nat)(m:Nat)(a b:List Vis):vmax h m (a++b)=vmax h (vmax h m a) b:=by simp[vmax]
theorem qbR(h:Vis->Nat)(m:Nat)(v:Vis)(b:List Vis):vmax h m (v::b)=vmax h (max m (v.d+h v)) b:=by simp[vmax]
theorem JJ(h:Vis->Nat)(m:Nat)(a:List Vis)(v:Vis):vmax h m (a++[v])=max (vmax h m a) (v.d+h v):=by simp[vmax]
theorem qgj(h:Vis->Nat):∀ (l:List Vis) (m:Nat),m<=vmax h m l
 | [],m=>Nat.le_refl _
 | v::l,m=>by rw[qbR];exact Nat.le_trans (Nat.le_max_left _ _) (qgj h l _)
def dd(d n:Nat):Nat:=if n=0 then 0 else d+n
theorem qbd(d a b:Nat):dd d (max a b)=max (dd d a) (dd d b):=by
 unfold dd;by_cases ha:a=0 <;> by_cases hb:b=0
 ·subst ha hb;rfl
 ·subst ha
  rw[if_neg hb,if_pos rfl,Nat.zero_max,if_neg hb,Nat.zero_max]
 ·subst hb
  rw[if_neg ha,if_pos rfl,Nat.max_zero,if_neg ha,Nat.max_zero]
 ·rw[if_neg ha,if_neg hb,if_neg (by omega)];omega
theorem qeJ(d n:Nat):dd d (1+n)=max (d+1) (dd (d+1) n):=by
 unfold dd;rw[if_neg (by omega)];by_cases h:n=0
 ·rw[if_pos h,h];omega
 ·rw[if_neg h];omega
theorem qeI(d n R:Nat):dd d n<=R↔(n=0∨d+n<=R):=by
 unfold dd;by_cases h:n=0
 ·rw[if_pos h];simp[h]
 ·rw[if_neg h];simp[h]
theorem Tr.pdepth_le:∀ f:Tr,f.pdepth<=f.depth
 | .nil=>Nat.le_refl _
 | .nod _ _ _ _ k a r=>by have:=Tr.pdepth_le r;simp only[Tr.pdepth,Tr.depth];omega
 | .arm _ _ _ _ k e r=>by have:=Tr.pdepth_le r;simp only[Tr.pdepth,Tr.depth];omega
def hdE(v:Vis):Nat:=1+v.arms.pdepth
theorem Tr.pre_depth:∀ (f:Tr) (d m:Nat),f.ok->(f.isNods->vmax hdE m (f.pre d)=max m (dd d f.depth))/\(f.isArms->max (vmax hdE m (f.pre d)) (dd d f.pdepth)=max m (dd d f.depth))
 | .nil,d,m,_=>by simp[Tr.pre,vmax,dd,Tr.depth,Tr.pdepth]
 | .nod k s n p kids arms r,d,m,⟨k1,k2,a1,a2,r2⟩=>by
  refine⟨fun hr=>?_,fun h=>h.elim⟩;have h1:=(Tr.pre_depth kids (d+1) (max m (d+(1+arms.pdepth))) k2).1 k1;have h2:=(Tr.pre_depth arms (d+1) (vmax hdE (max m (d+(1+arms.pdepth))) (kids.pre (d+1))) a2).2 a1;have h3:=(Tr.pre_depth r d (vmax hdE (vmax hdE (max m (d+(1+arms.pdepth))) (kids.pre (d+1))) (arms.pre (d+1))) r2).1 hr;have hle:=qgj hdE (arms.pre (d+1)) (vmax hdE (max m (d+(1+arms.pdepth))) (kids.pre (d+1)));have ha1:dd (d+1) arms.pdepth<=d+(1+arms.pdepth):=by unfold dd;split <;> omega
  have ha2:d+(1+arms.pdepth)<=max (d+1) (dd (d+1) arms.depth):=by
   have:=Tr.pdepth_le arms;unfold dd;split <;> omega
  simp only[Tr.pre,qbR,qdg,Tr.depth,qbd,qeJ];rw[show (hdE ⟨d,k,s,n,kids,arms⟩)=1+arms.pdepth from rfl,h3];omega
 | .arm k s n p kids e r,d,m,⟨k1,k2,e1,e2,r2⟩=>by
  refine⟨fun h=>h.elim,fun ⟨hl,hr⟩=>?_⟩;have h1:=(Tr.pre_depth e d m e2).1 e1;have h2:=(Tr.pre_depth r d (vmax hdE m (e.pre d)) r2).2 hr;simp only[Tr.pre,qdg,Tr.depth,Tr.pdepth,qbd];omega
theorem Tr.depth_pre(f:Tr)(h1:f.isNods)(h2:f.ok):vmax hdE 0 (f.pre 0)=f.depth:=by
 rw[(Tr.pre_depth f 0 0 h2).1 h1];unfold dd;split <;> omega
def zR(self:Nat->Vis->Bool)(room:Nat)(v:Vis):Bool:=decide (v.d<room)&&self (room-v.d) v
def hdP(hP:Int->LU->Int->Nat->Bool)(_:Nat)(v:Vis):Bool:=hP v.k v.s v.n v.kids.len
def hdX(hE:Int->LU->Int->Nat->Nat->Bool)(hP:Int->LU->Int->Nat->Bool)(room:Nat)(v:Vis):Bool:=
 hE v.k v.s v.n v.kids.len v.arms.len&&(v.arms.pats.pre 0).all (zR (hdP hP) (room-1))
section
variable (hE : Int -> LU -> Int -> Nat -> Nat -> Bool) (hP : Int -> LU -> Int -> Nat -> Bool)
def Tr.mayP:Tr->Bool
 | .nil=>true
 | .nod k s n _ kids _ r=>hP k s n kids.len&&kids.mayP&&r.mayP
 | .arm ..=>true
def Tr.mayE:Tr->Bool
 | .nil=>true
 | .nod k s n _ kids arms r=>hE k s n kids.len arms.len&&kids.mayE&&arms.mayE&&r.mayE
 | .arm k s n _ kids e r=>hP k s n kids.len&&kids.mayP hP&&e.mayE&&r.mayE
def Tr.bare:Tr->Prop
 | .nil=>True
 | .nod _ _ _ _ kids arms r=>arms=.nil/\kids.bare/\r.bare
 | .arm ..=>False
def zE(R d:Nat)(b:Bool)(n:Nat):Bool:=b&&decide (dd d n<=R)
theorem Tr.pre_mayP:∀ (f:Tr) (R d:Nat),f.bare->(f.pre d).all (zR (hdP hP) R)=zE R d (f.mayP hP) f.depth
 | .nil,R,d,_=>by simp[Tr.pre,Tr.mayP,zE,dd,Tr.depth]
 | .nod k s n p kids arms r,R,d,⟨ha,hk,hr⟩=>by
  have h1:=Tr.pre_mayP kids R (d+1) hk;have h2:=Tr.pre_mayP r R d hr;rw[ha];simp only[Tr.pre,List.all_cons,List.all_append,List.all_nil,h1,h2,Tr.mayP,zR,hdP,zE,Tr.depth,qbd,qeJ];have e:(decide (d<R)&&(decide (dd (d+1) kids.depth<=R)&&decide (dd d r.depth<=R)))=decide (max (max (d+1) (max (dd (d+1) kids.depth) (dd (d+1) 0))) (dd d r.depth)<=R):=by
   rw[<- Bool.decide_and,<- Bool.decide_and];apply decide_eq_decide.2;have:dd (d+1) 0=0:=rfl;omega
  rw[<- e];cases hP k s n kids.len <;> cases kids.mayP hP <;> cases r.mayP hP <;> simp
 | .arm ..,_,_,h=>h.elim
def Tr.barep:Tr->Prop
 | .nil=>True
 | .nod _ _ _ _ kids arms r=>kids.barep/\arms.barep/\r.barep
 | .arm _ _ _ _ kids e r=>kids.bare/\e.barep/\r.barep
theorem Tr.pats_bare:∀ f:Tr,f.isArms->f.barep->f.pats.bare
 | .nil,_,_=>trivial
 | .arm _ _ _ _ kids e r,h,hb=>⟨rfl,hb.1,Tr.pats_bare r h.2 hb.2.2⟩
theorem Tr.pre_mayE:∀ (f:Tr) (R d:Nat),f.ok->f.barep->(f.isNods->(f.pre d).all (zR (hdX hE hP) R)=zE R d (f.mayE hE hP) f.depth) ∧
  (f.isArms->((f.pre d).all (zR (hdX hE hP) R)&&zE R d (f.pats.mayP hP) f.pdepth)=zE R d (f.mayE hE hP) f.depth)
 | .nil,R,d,_,_=>by simp[Tr.pre,Tr.mayE,Tr.pats,Tr.mayP,zE,dd,Tr.depth,Tr.pdepth]
 | .nod k s n p kids arms r,R,d,⟨k1,k2,a1,a2,r2⟩,⟨b1,b2,b3⟩=>by
  refine⟨fun hr=>?_,fun h=>h.elim⟩;have h1:=(Tr.pre_mayE kids R (d+1) k2 b1).1 k1;have h2:=(Tr.pre_mayE arms R (d+1) a2 b2).2 a1;have h3:=(Tr.pre_mayE r R d r2 b3).1 hr;have h4:=Tr.pre_mayP hP arms.pats (R-d-1) 0 (Tr.pats_bare arms a1 b2);rw[Tr.pats_depth]at h4;simp only[Tr.pre,List.all_cons,List.all_append,h1,h3,Tr.mayE,zR,hdX,Tr.depth,h4];have e0:(decide (d<R)&&zE (R-d-1) 0 (arms.pats.mayP hP) arms.pdepth)=(decide (d<R)&&zE R (d+1) (arms.pats.mayP hP) arms.pdepth):=by
   by_cases hd:d<R
   ·simp only[zE,dd,hd,decide_true,Bool.true_and]
    congr 1;apply decide_eq_decide.2;have h1:=qeI 0 arms.pdepth (R-d-1);have h2:=qeI (d+1) arms.pdepth R;unfold dd at h1 h2;rw[h1,h2];omega
   ·simp[hd]
  have e1:(decide (d<R)&&(hE k s n kids.len arms.len&&zE (R-d-1) 0 (arms.pats.mayP hP) arms.pdepth)&&(zE R (d+1) (kids.mayE hE hP) kids.depth&&(arms.pre (d+1)).all (zR (hdX hE hP) R)&&zE R d (r.mayE hE hP) r.depth)) =
    (decide (d<R)&&hE k s n kids.len arms.len&&zE R (d+1) (kids.mayE hE hP) kids.depth&&zE R (d+1) (arms.mayE hE hP) arms.depth&&zE R d (r.mayE hE hP) r.depth):=by
   rw[<- h2];cases hE k s n kids.len arms.len
   ·simp
   ·have e0':=e0
    revert e0'
    generalize zE (R-d-1) 0 (arms.pats.mayP hP) arms.pdepth=x;generalize zE R (d+1) (arms.pats.mayP hP) arms.pdepth=y;generalize (arms.pre (d+1)).all (zR (hdX hE hP) R)=z;generalize zE R (d+1) (kids.mayE hE hP) kids.depth=u;generalize zE R d (r.mayE hE hP) r.depth=v;generalize decide (d<R)=t;cases x <;> cases y <;> cases z <;> cases u <;> cases v <;> cases t <;> simp
  rw[e1];have e:(decide (d<R)&&(decide (dd (d+1) kids.depth<=R)&&(decide (dd (d+1) arms.depth<=R)&&decide (dd d r.depth<=R))))=decide (dd d (max (1+max kids.depth arms.depth) r.depth)<=R):=by
   rw[<- Bool.decide_and,<- Bool.decide_and,<- Bool.decide_and];apply decide_eq_decide.2;simp only[qbd,qeJ];omega
  simp only[zE];rw[<- e];cases hE k s n kids.len arms.len <;> cases kids.mayE hE hP <;> cases arms.mayE hE hP <;> cases r.mayE hE hP <;> simp[Bool.and_assoc]
 | .arm k s n p kids ex r,R,d,⟨k1,k2,e1,e2,r2⟩,⟨b1,b2,b3⟩=>by
  refine⟨fun h=>h.elim,fun ⟨hl,hr⟩=>?_⟩;have h1:=(Tr.pre_mayE ex R d e2 b2).1 e1;have h2:=(Tr.pre_mayE r R d r2 b3).2 hr;simp only[Tr.pre,List.all_append,h1,Tr.mayE,Tr.pats,Tr.mayP,Tr.pdepth,Tr.depth];have e0:∀ a b:Nat,decide (dd d (max a b)<=R)=(decide (dd d a<=R)&&decide (dd d b<=R)):=fun a b=>by
   rw[<- Bool.decide_and];apply decide_eq_decide.2;simp only[qbd];omega
  simp only[zE,e0]at h2 ⊢;revert h2
  generalize (r.pre d).all (zR (hdX hE hP) R)=z;generalize hP k s n kids.len=u1;generalize kids.mayP hP=u2;generalize r.pats.mayP hP=u3;generalize r.mayE hE hP=u4;generalize ex.mayE hE hP=u5;generalize decide (dd d (1+kids.depth)<=R)=t1;generalize decide (dd d r.pdepth<=R)=t2;generalize decide (dd d ex.depth<=R)=t3;generalize decide (dd d r.depth<=R)=t4;cases z <;> cases u1 <;> cases u2 <;> cases u3 <;> cases u4 <;> cases u5 <;> cases t1 <;> cases t2 <;> cases t3 <;> cases t4 <;> simp
end
section
variable {P : Program} {ops : Array Oper} {md : Region.Mode} {C : World -> Prop}
def qbT(P:Program)(md:Region.Mode)(ops:Array Oper)(C:World->Prop)(n:Nat)(L:Array Bool->Act->Prop):Nat->Array Bool->Act->Prop
 | 0,listed,a=>L listed a
 | f+1,listed,a=>Region.ready md ops listed≠[]/\∀ i∈Region.ready md ops listed,i<n/\qOp P ops C i (qbT P md ops C n L f (listed.setIfInBounds i true)) a
theorem ZD{n g:Nat}{L:Array Bool->Act->Prop}{Q':Exit->Act->World->Prop}(hL:∀ listed a w,C w->L listed a->wpAny P md ops Q' g listed a w) :
  ∀ (f:Nat) (listed:Array Bool) (a:Act) (w:World),C w->qbT P md ops C n L f listed a->wpAny P md ops Q' (f+g) listed a w
 | 0,listed,a,w,hw,h=>by rw[Nat.zero_add];exact hL _ _ _ hw h
 | f+1,listed,a,w,hw,h=>by
  rw[show f+1+g=(f+g)+1 by omega];exact⟨fun h0=>absurd h0 h.1,fun i hi=>wpOp_of_qOp hw (fun a' w' hw' h'=>ZD hL f _ a' w' hw' h') (h.2 i hi).2⟩
theorem qbU{n i:Nat}{oi:Oper}{v:Value}{L:Array Bool->Act->Prop}(hi:ops[i]?=some oi)(hsel:∀ (j:Nat) (o:Oper) cs b,ops[j]?=some o->o.op ≠ .select cs b)
  (hs:Region.sinkB md ops n=true) (hc:Region.chainB md ops n=true) (hn:n<ops.size) (hin:i<n)
  (hdone:∀ listed a,L listed a->∀ j∈Region.ready md ops listed,n<=j) :
  ∀ (f:Nat) (listed:Array Bool) (a:Act),HeadInv md ops n listed →
   (∀ j oj,ops[j]?=some oj->j≠i->listed.getD j true=false->(∀ e∈oj.after,Region.binds md e=true->e.on≠i)->oi.apart ops oj=true) →
   i∈Region.ready md ops listed->YieldsIn P ops C oi v a →
   qbT P md ops C n L f (listed.setIfInBounds i true) (a.put oi.dst v)->qbT P md ops C n L (f+1) listed a:=by
 intro f;induction f with
 | zero=>
  intro listed a inv _ hr hy H;have hun:=(mem_ready.1 hr).1;refine⟨fun h=>(by rw[h]at hr;cases hr),fun j hj=>?_⟩;have hjn:j<n:=by
   rcases Nat.lt_or_ge j n with h | h
   ·exact h
   ·exact absurd hj (tail_waits hs hc hn inv _ i rfl hin hun j h)
  refine⟨hjn,?_⟩;by_cases hji:j=i
  ·subst hji;exact hy.qOp hi H
  ·have:=hdone _ _ H j (ready_mono hj hji)
   omega
 | succ f ih=>
  intro listed a inv hfree hr hy H;have hun:=(mem_ready.1 hr).1;refine⟨fun h=>(by rw[h]at hr;cases hr),fun j hj=>?_⟩;have hjn:j<n:=by
   rcases Nat.lt_or_ge j n with h | h
   ·exact h
   ·exact absurd hj (tail_waits hs hc hn inv _ i rfl hin hun j h)
  refine⟨hjn,?_⟩;by_cases hji:j=i
  ·subst hji;exact hy.qOp hi H
  ·have h1:=(H.2 j (ready_mono hj hji)).2
   obtain⟨hjun,oj,hoj,hall⟩:=mem_ready.1 hj;have hnot:∀ e∈oj.after,Region.binds md e=true->e.on≠i:=fun e he hb heq=>by
    have h1:=hall e he hb;rw[heq,getD_both hun]at h1;cases h1
   have h2:=qOp_put hoj (hfree j oj hoj hji hjun hnot) (fun cs b=>hsel i oi cs b hi) (fun cs b=>hsel j oj cs b hoj) hy h1;have hfree':∀ k ok,ops[k]?=some ok->k≠i->(listed.setIfInBounds j true).getD k true=false →
     (∀ e∈ok.after,Region.binds md e=true->e.on≠i)->oi.apart ops ok=true:=fun k ok hk hki hkun hno=>by
    refine hfree k ok hk hki ?_ hno;by_cases hjk:j=k
    ·subst hjk;exact hjun
    ·rw[getD_set_ne true hjk]at hkun;exact hkun
   refine qOp_mono (fun a' h3=>ih (listed.setIfInBounds j true) a' (inv.set hj hjn) hfree' (ready_mono hr (Ne.symm hji)) h3.1 ?_) h2;rw[Array.setIfInBounds_comm _ _ hji];exact h3.2
theorem ZC{n g:Nat}{Lq:Act->Prop}(hsel:Region.noSelect ops=true)(hs:Region.sinkB md ops n=true)(hc:Region.chainB md ops n=true)(hn:n<ops.size) :
  ∀ (l:List Oper) (k:Nat) (listed:Array Bool) (a:Act),(∀ j,j<l.length->l[j]?=ops[k+j]?)->k+l.length=n->HeadInv md ops n listed →
  Region.lexHead md ops g l.length k listed=true->wpQuiet P ops C Lq l a →
  qbT P md ops C n (fun listed' a'=>Region.seqB md ops g n listed'=true/\Lq a') l.length listed a
 | [],k,listed,a,_,hk,_,hB,h=>by
  have:k=n:=by simpa using hk
  subst this;exact⟨by simpa [Region.lexHead] using hB,h⟩
 | o::l,k,listed,a,hl,hk,inv,hB,h=>by
  have h0:ops[k]?=some o:=by simpa using (hl 0 (by simp)).symm
  simp only[List.length_cons,Region.lexHead,Bool.and_eq_true]at hB;obtain⟨⟨hr,hf⟩,hB'⟩:=hB;have hkn:k<n:=by simp only[List.length_cons]at hk;omega
  have hr':k∈Region.ready md ops listed:=by simpa using hr
  have hst:qOp P ops C k (wpQuiet P ops C Lq l) a:=by unfold qOp;simp only[h0];exact h
  obtain⟨v,hy,hK⟩:=yieldsIn_of_qOp h0 hst;exact qbU h0 (Region.noSelect_spec hsel) hs hc hn hkn (fun listed' a' hL=>seqB_ready hL.1) l.length listed a inv (Region.free_spec h0 hf) hr' hy
   (ZC hsel hs hc hn l (k+1) _ _ (fun j hj=>by have:=hl (j+1) (by simp;omega);simpa [Nat.add_assoc,Nat.add_comm 1 j] using this) (by simp only[List.length_cons]at hk;omega) (inv.set hr' hkn) hB' hK)
theorem Qy{id:Nat}{Q:Exit->Act->World->Prop}{a:Act}{w:World}{l:List Oper}(n:Nat)(hm:P.follows .mixedOrders=true)(hB:Region.lexTailB .any l.toArray n=true)(hC:C w.drew)
  (h:wpQuiet P l.toArray C (fun a'=>∀ w',C w'->wpList P l.toArray Q (l.drop n) a' w') (l.take n) a):(Code.region id l.toArray true).wp P Q a w:=by
 simp only[Region.lexTailB,Bool.and_eq_true,decide_eq_true_eq]at hB;obtain⟨⟨⟨⟨hsel,hn⟩,hs⟩,hc⟩,hlex⟩:=hB;have hn':n<l.length:=by simpa using hn
 have htl:(l.take n).length=n:=by simp;omega
 have hdl:(l.drop n).length=l.toArray.size-n:=by simp
 have inv0:HeadInv .any l.toArray n (Array.replicate l.toArray.size false):=
  ⟨by simp,fun j oj _ hl=>(by rw[getD_replicate_false]at hl;cases hl),fun t _ ht=>getD_in (by simpa using ht) (getD_replicate_false _ _)⟩
 have H:=ZC (md:= .any) (g:=l.toArray.size-n) hsel hs hc hn (l.take n) 0 _ a (fun j hj=>by
  have hj':j<n:=by rw[htl]at hj;exact hj
  simp[hj']) (by simpa using htl) inv0 (by rw[htl];exact hlex) h
 refine wp_region_any hm ?_;have:=ZD (Q':=Q) (g:=l.toArray.size-n) (fun listed a' w' hw' hL=>by
  have:=wpAny_of_seq (md:= .any) (Q':=Q) (l.drop n) n listed a' w' (fun j=>by simp[List.getElem?_drop]) (by rw[hdl];exact hL.1) (hL.2 w' hw');rwa [hdl]at this) _ _ _ w.drew hC H
 rw[htl,show n+(l.toArray.size-n)=l.toArray.size by omega]at this;exact this
end
structure Abw (w:World) where
 wd:World
 bel:Bel w wd
instance (w:World):Nonempty (Abw w):=⟨⟨w,Bel.refl w⟩⟩
theorem zX{P:Program}{id:Nat}{Q:Exit->Act->World->Prop}{a:Act}{w:World}{l:List Oper}(n:Nat)(hm:P.follows .mixedOrders=true)(hB:Region.lexTailB .any l.toArray n=true)
  (h:wpQuiet P l.toArray (fun w'=>∃ n:Abw w,w'=n.wd) (fun a'=>∀ w',(∃ n:Abw w,w'=n.wd)->wpList P l.toArray Q (l.drop n) a' w') (l.take n) a):(Code.region id l.toArray true).wp P Q a w:=
 Qy n hm hB ⟨⟨_,(Bel.refl w).drew⟩,rfl⟩ h
theorem qd{w:World}{b o:Nat}{x:Value}(hb:b<w.heap.size)(h:w.cell? ⟨b,o,none⟩=some x):∀ q:Abw w,q.wd.cell? ⟨b,o,none⟩=some x:=fun q=>(q.bel.cell (p:=⟨b,o,none⟩) hb).trans h
theorem Tr.len0:∀ f:Tr,f.len=0->f=.nil
 | .nil,_=>rfl
 | .nod ..,h=>by simp[Tr.len]at h
 | .arm ..,h=>by simp[Tr.len]at h
theorem qc4{s t:LU}(h:s≠t):(⟨s.toArray⟩:BA).toList≠(⟨t.toArray⟩:BA).toList:=by
 rw[ByteArray.toList_eq,ByteArray.toList_eq];exact h
def KidsTr(w:World)(Ok:Nat->Prop)(sh:Sh)(A:OA)(len cap:Nat)(f:Tr):Prop:=len=f.len/\len<=cap/\(0<len->∃ b o,A=some ⟨b,o,none⟩/\Ok b/\TrAt w Ok f sh b o)
abbrev OldT(w:World)(j:Nat):Prop:=j<w.heap.size
theorem KidsTr.keep{w w':World}{Ok:Nat->Prop}{sh:Sh}{A:OA}{len cap:Nat}{f:Tr}(h:KidsTr w Ok sh A len cap f)(hk:∀ j,Ok j->w'.heap[j]?=w.heap[j]?):KidsTr w' Ok sh A len cap f:=
 ⟨h.1,h.2.1,fun h0=>by
  obtain⟨b,o,e,h1,h2⟩:=h.2.2 h0;exact⟨b,o,e,h1,TrAt.keep hk f sh b o h1 h2⟩⟩
theorem KidsTr.wide{w:World}{Ok Ok':Nat->Prop}{sh:Sh}{A:OA}{len cap:Nat}{f:Tr}(h:KidsTr w Ok sh A len cap f)(hw:∀ j,Ok j->Ok' j):KidsTr w Ok' sh A len cap f:=
 ⟨h.1,h.2.1,fun h0=>by
  obtain⟨b,o,e,h1,h2⟩:=h.2.2 h0;exact⟨b,o,e,hw b h1,TrAt.wide hw f sh b o h2⟩⟩
theorem KidsTr.bel{w w':World}{sh:Sh}{A:OA}{len cap:Nat}{f:Tr}(h:KidsTr w (OldT w) sh A len cap f)(hb:Bel w w'):KidsTr w' (OldT w') sh A len cap f:=
 (h.keep fun _ hj=>hb.block _ hj).wide fun _ hj=>Nat.lt_of_lt_of_le hj hb.size
def qu(r:Bool)(w:World):Ending->World->Prop:=fun e w'=>e=.returned (.bool r)/\Bel w w'
theorem qcC{w:World}{g:Nat}{t:TypeId}{x0 x1 x2 x3 x4 x5 x6:Value}(h:w.heap[g]?=some (.cells #[x0,x1,x2,x3,x4,x5,x6] t (0,0))) :
  w.cell? ⟨g,0,none⟩=some x0/\w.cell? ⟨g,1,none⟩=some x1/\w.cell? ⟨g,2,none⟩=some x2/\w.cell? ⟨g,6,none⟩=some x6:=by
 simp[World.cell?,h]
def Tells(w:World)(Ok:Nat->Prop)(sh:Sh)(f:Tr)(vs:List Value):Prop:=
 vs.length=f.len*sh.sz/\(∀ u∈vs,u.oneCell'=true) ∧
  ∀ (w':World) (b' o':Nat),(∀ j u,vs[j]?=some u->w'.cell? ⟨b',o'+j,none⟩=some u)->(∀ j,Ok j->w'.heap[j]?=w.heap[j]?)->TrAt w' Ok f sh b' o'
theorem Tells.nil{w:World}{Ok:Nat->Prop}{sh:Sh}:Tells w Ok sh .nil []:=⟨by simp[Tr.len],fun u hu=>(by cases hu),fun _ _ _ _ _=>trivial⟩
theorem TrAt.app{w:World}{Ok:Nat->Prop}{sh:Sh}:∀ (f g:Tr) (b o:Nat),TrAt w Ok f sh b o->TrAt w Ok g sh b (o+f.len*sh.sz)->TrAt w Ok (f.app g) sh b o
 | .nil,g,b,o,_,h=>by simpa [Tr.len,Tr.app] using h
 | .nod k s n p a c r,g,b,o,h,hg=>by
  obtain⟨h1,h2,h3,h4⟩:=h;refine⟨h1,h2,h3,TrAt.app r g b _ h4 ?_⟩;rw[show o+sh.sz+r.len*sh.sz=o+(Tr.nod k s n p a c r).len*sh.sz by simp only[Tr.len,Nat.add_mul];omega];exact hg
 | .arm k s n p a c r,g,b,o,h,hg=>by
  obtain⟨h0,h1,h2,h3,h4,h5⟩:=h;subst h0;refine⟨rfl,h1,h2,h3,h4,TrAt.app r g b _ h5 ?_⟩;rw[show o+15+r.len*Sh.arms.sz=o+(Tr.arm k s n p a c r).len*Sh.arms.sz by simp only[Tr.len,Nat.add_mul,Sh.sz];omega];exact hg
theorem Tells.app{w:World}{Ok:Nat->Prop}{sh:Sh}{f g:Tr}{vs ws:List Value}(h:Tells w Ok sh f vs)(k:Tells w Ok sh g ws):Tells w Ok sh (f.app g) (vs++ws):=by
 obtain⟨h1,h2,h3⟩:=h;obtain⟨k1,k2,k3⟩:=k;refine⟨by rw[List.length_append,h1,k1,Tr.app_len,Nat.add_mul],fun u hu=>?_,fun w' b' o' hc hk=>?_⟩
 ·rcases List.mem_append.1 hu with hu | hu
  ·exact h2 u hu
  ·exact k2 u hu
 ·refine TrAt.app f g b' o' (h3 w' b' o' (fun j u hu=>hc j u (by rw[List.getElem?_append_left (by have:=(List.getElem?_eq_some_iff.1 hu).1;exact this)];exact hu)) hk) (k3 w' b' _ (fun j u hu=>?_) hk)
  have:=hc (f.len*sh.sz+j) u (by rw[List.getElem?_append_right (by rw[h1];omega),h1,Nat.add_sub_cancel_left];exact hu);rwa [<- Nat.add_assoc]at this
def J4(kd:IntKind)(k:Int)(s:LU)(n:Int)(p:Pl):List Value:=[.int .u8 k,.string ⟨s.toArray⟩,.int kd n,.int .i64 p.a,.int .i64 p.l,.int .i64 p.c]
def qf7:Sh->OA->Nat->Nat->List Value
 | .ex,B,bl,bc=>[.slice B bl bc]
 | _,_,_,_=>[]
def nodV(sh:Sh)(k:Int)(s:LU)(n:Int)(p:Pl)(A:OA)(l c:Nat)(B:OA)(bl bc:Nat):List Value:=J4 sh.kd k s n p++(.slice A l c::qf7 sh B bl bc)
theorem qaJ{w:World}{kd:IntKind}{b o:Nat}{k:Int}{s:LU}{n:Int}{p:Pl}(h:HeadAt w kd b o k s n p):∀ j u,(J4 kd k s n p)[j]?=some u->w.cell? ⟨b,o+j,none⟩=some u:=by
 obtain⟨a0,a1,a2,a3,a4,a5⟩:=h;intro j u hu
 match j,hu with
 | 0,hu=>cases hu;exact a0
 | 1,hu=>cases hu;exact a1
 | 2,hu=>cases hu;exact a2
 | 3,hu=>cases hu;exact a3
 | 4,hu=>cases hu;exact a4
 | 5,hu=>cases hu;exact a5
theorem Jd(sh:Sh)(hs:sh ≠ .arms)(k:Int)(s:LU)(n:Int)(p:Pl)(A:OA)(l c:Nat)(B:OA)(bl bc:Nat):(nodV sh k s n p A l c B bl bc).length=sh.sz:=by
 cases sh
 ·rfl
 ·rfl
 ·rfl
 ·exact absurd rfl hs
theorem qg9(sh:Sh)(k:Int)(s:LU)(n:Int)(p:Pl)(A:OA)(l c:Nat)(B:OA)(bl bc:Nat):∀ u∈nodV sh k s n p A l c B bl bc,u.oneCell'=true:=by
 intro u hu;unfold nodV J4 qf7 at hu;cases sh <;> simp at hu
 all_goals rcases hu with rfl | rfl | rfl | rfl | rfl | rfl | hu
 all_goals first | rfl | (subst hu;rfl) | (rcases hu with rfl | rfl <;> rfl)
theorem Tells.one{w:World}{Ok:Nat->Prop}{sh:Sh}(hs:sh ≠ .arms){k:Int}{s:LU}{n:Int}{p:Pl}{A:OA}{c:Nat}{B:OA}{bc:Nat}{kids arms:Tr}
  (hk:KidsTr w Ok sh A kids.len c kids) (ha:(sh=.ex/\KidsTr w Ok .arms B arms.len bc arms)∨((sh=.pat∨sh=.ty)/\arms.len=0)):Tells w Ok sh (.nod k s n p kids arms .nil) (nodV sh k s n p A kids.len c B arms.len bc):=by
 refine⟨by rw[Jd sh hs];simp[Tr.len],qg9 _ _ _ _ _ _ _ _ _ _ _,fun w' b' o' hc hkp=>?_⟩;have hh:HeadAt w' sh.kd b' o' k s n p:=⟨hc 0 _ rfl,hc 1 _ rfl,hc 2 _ rfl,hc 3 _ rfl,hc 4 _ rfl,hc 5 _ rfl⟩
 have k':=hk.keep hkp;refine⟨hh,⟨A,c,hc 6 _ rfl,k'.2.1,k'.2.2⟩,?_,trivial⟩;rcases ha with ⟨e,ha⟩ | ha
 ·have a':=ha.keep hkp
  subst e;exact .inl ⟨rfl,B,bc,hc 7 _ rfl,a'.2.1,a'.2.2⟩
 ·exact .inr ha
theorem TrAt.parts{w:World}{Ok:Nat->Prop}{sh:Sh}{k:Int}{s:LU}{n:Int}{p:Pl}{kids arms r:Tr}{b o:Nat}(h:TrAt w Ok (.nod k s n p kids arms r) sh b o) :
  ∃ A c B bc,(∀ j u,(nodV sh k s n p A kids.len c B arms.len bc)[j]?=some u->w.cell? ⟨b,o+j,none⟩=some u)/\KidsTr w Ok sh A kids.len c kids/\((sh=.ex/\KidsTr w Ok .arms B arms.len bc arms)∨((sh=.pat∨sh=.ty)/\arms.len=0))/\TrAt w Ok r sh b (o+sh.sz):=by
 obtain⟨h1,⟨A,c,a1,a2,a3⟩,h3,h4⟩:=h;have hk:KidsTr w Ok sh A kids.len c kids:=⟨rfl,a2,a3⟩
 rcases h3 with ⟨e,B,bc,c1,c2,c3⟩ | ⟨e,e2⟩
 ·subst e
  refine⟨A,c,B,bc,fun j u hu=>?_,hk,.inl ⟨rfl,rfl,c2,c3⟩,h4⟩;rcases Nat.lt_or_ge j 6 with hj | hj
  ·exact qaJ h1 j u (by rw[nodV,List.getElem?_append_left (by simpa [J4] using hj)]at hu;exact hu)
  ·match j,hu with
   | 6,hu=>cases hu;exact a1
   | 7,hu=>cases hu;exact c1
   | j+8,hu=>simp[nodV,J4,qf7]at hu
 ·refine⟨A,c,none,0,fun j u hu=>?_,hk,.inr ⟨e,e2⟩,h4⟩
  have hne:∀ B bl bc,qf7 sh B bl bc=[]:=by rcases e with rfl | rfl <;> exact fun _ _ _=>rfl
  rcases Nat.lt_or_ge j 6 with hj | hj
  ·exact qaJ h1 j u (by rw[nodV,List.getElem?_append_left (by simpa [J4] using hj)]at hu;exact hu)
  ·match j,hu with
   | 6,hu=>
    have:u=.slice A kids.len c:=by simp only[nodV,J4,hne]at hu;cases hu;rfl
    subst this;exact a1
   | j+7,hu=>simp[nodV,J4,hne]at hu
theorem TrAt.tells{w:World}{Ok:Nat->Prop}{sh:Sh}(hs:sh ≠ .arms):∀ (f:Tr) (b o:Nat),TrAt w Ok f sh b o->∃ vs,Tells w Ok sh f vs/\∀ j u,vs[j]?=some u->w.cell? ⟨b,o+j,none⟩=some u
 | .nil,_,_,_=>⟨[],Tells.nil,fun j u h=>(by simp at h)⟩
 | .arm ..,_,_,h=>absurd h.1 hs
 | .nod k s n p kids arms r,b,o,h=>by
  obtain⟨A,c,B,bc,h1,h2,h3,h4⟩:=h.parts;obtain⟨vs,t1,t2⟩:=TrAt.tells hs r b _ h4;refine⟨_,(Tells.one hs h2 h3 (k:=k) (s:=s) (n:=n) (p:=p)).app t1,fun j u hu=>?_⟩;rcases Nat.lt_or_ge j sh.sz with hj | hj
  ·exact h1 j u (by rw[List.getElem?_append_left (by rw[Jd sh hs];exact hj)]at hu;exact hu)
  ·rw[List.getElem?_append_right (by rw[Jd sh hs];exact hj),Jd sh hs]at hu
   have:=t2 _ u hu;rwa [show o+sh.sz+(j-sh.sz)=o+j by omega]at this
def qbW(w:World)(Ok:Nat->Prop)(w':World)(j:Nat):Prop:=Ok j∨(w.heap.size<=j/\j<w'.heap.size)
def Qu(w:World)(Ok:Nat->Prop)(sh:Sh)(f:Tr)(e:Ending)(w':World):Prop:=
 ∃ A c,e=.returned (.slice A f.len c)/\Bel w w'/\KidsTr w' (qbW w Ok w') sh A f.len c f
def Tr.exsN:Tr->Nat->Tr
 | .nil,_=> .nil
 | _,0=> .nil
 | .nod _ _ _ _ _ _ r,i+1=>r.exsN i
 | .arm _ _ _ _ _ e r,i+1=>e.app (r.exsN i)
def Tr.patsN:Tr->Nat->Tr
 | .nil,_=> .nil
 | _,0=> .nil
 | .nod _ _ _ _ _ _ r,i+1=>r.patsN i
 | .arm k s n p a _ r,i+1=> .nod k s n p a .nil (r.patsN i)
theorem Tr.exsN_zero:∀ f:Tr,f.exsN 0=.nil
 | .nil=>rfl
 | .nod ..=>rfl
 | .arm ..=>rfl
theorem Tr.patsN_zero:∀ f:Tr,f.patsN 0=.nil
 | .nil=>rfl
 | .nod ..=>rfl
 | .arm ..=>rfl
theorem Tr.exsN_succ{k:Int}{s:LU}{n:Int}{p:Pl}{a e:Tr}:∀ (f:Tr) (i:Nat),f.isArms->f.nth i=.arm k s n p a e .nil->f.exsN (i+1)=(f.exsN i).app e
 | .nil,i,_,h=>by simp[Tr.nth]at h
 | .arm _ _ _ _ _ e' r,0,h,hn=>by
  simp only[Tr.nth,Tr.arm.injEq]at hn;simp only[Tr.exsN,Tr.exsN_zero,Tr.app,Tr.app_nil,hn.2.2.2.2.2.1]
 | .arm _ _ _ _ _ e' r,i+1,h,hn=>by
  have:=Tr.exsN_succ r i h.2 hn;simp only[Tr.exsN,Tr.app_assoc]at this ⊢;rw[this]
theorem Tr.patsN_succ{k:Int}{s:LU}{n:Int}{p:Pl}{a e:Tr}:∀ (f:Tr) (i:Nat),f.isArms->f.nth i=.arm k s n p a e .nil->f.patsN (i+1)=(f.patsN i).app (.nod k s n p a .nil .nil)
 | .nil,i,_,h=>by simp[Tr.nth]at h
 | .arm _ _ _ _ _ e' r,0,h,hn=>by
  simp only[Tr.nth,Tr.arm.injEq]at hn;obtain⟨h1,h2,h3,h4,h5,h6,h7⟩:=hn;subst h1 h2 h3 h4 h5;simp only[Tr.patsN,Tr.patsN_zero,Tr.app]
 | .arm _ _ _ _ _ e' r,i+1,h,hn=>by
  have:=Tr.patsN_succ r i h.2 hn;simp only[Tr.patsN,Tr.app]at this ⊢;rw[this]
theorem Tr.exsN_all:∀ f:Tr,f.isArms->f.exsN f.len=f.exs
 | .nil,_=>rfl
 | .arm _ _ _ _ _ e r,h=>by simp only[Tr.len,Tr.exsN,Tr.exs,Tr.exsN_all r h.2]
theorem Tr.patsN_all:∀ f:Tr,f.isArms->f.patsN f.len=f.pats
 | .nil,_=>rfl
 | .arm _ _ _ _ _ e r,h=>by simp only[Tr.len,Tr.patsN,Tr.pats,Tr.patsN_all r h.2]
theorem Tr.one_nod:∀ e:Tr,e.len=1->e.isNods->∃ k s n p a b,e=.nod k s n p a b .nil
 | .nil,h,_=>by simp[Tr.len]at h
 | .nod k s n p a b r,h,_=>⟨k,s,n,p,a,b,by rw[Tr.len_nil r (by simpa [Tr.len] using h)]⟩
 | .arm ..,_,h=>h.elim
theorem KidsTr.isArms{w:World}{Ok:Nat->Prop}{A:OA}{l c:Nat}{f:Tr}(h:KidsTr w Ok .arms A l c f):f.isArms:=by
 rcases Nat.eq_zero_or_pos f.len with e | e
 ·rw[Tr.len_nil f e];trivial
 ·obtain⟨b,o,_,_,h⟩:=h.2.2 (by rw[h.1];exact e)
  exact TrAt.isArms f b o h
theorem KidsTr.isNods{w:World}{Ok:Nat->Prop}{sh:Sh}(hs:sh ≠ .arms){A:OA}{l c:Nat}{f:Tr}(h:KidsTr w Ok sh A l c f):f.isNods:=by
 rcases Nat.eq_zero_or_pos f.len with e | e
 ·rw[Tr.len_nil f e];trivial
 ·obtain⟨b,o,_,_,h⟩:=h.2.2 (by rw[h.1];exact e)
  exact TrAt.isNods hs f b o h
theorem KidsTr.ok{w:World}{Ok:Nat->Prop}{sh:Sh}{A:OA}{l c:Nat}{f:Tr}(h:KidsTr w Ok sh A l c f):f.ok:=by
 rcases Nat.eq_zero_or_pos f.len with e | e
 ·rw[Tr.len_nil f e];trivial
 ·obtain⟨b,o,_,_,h⟩:=h.2.2 (by rw[h.1];exact e)
  exact TrAt.ok f sh b o h
theorem jP{w:World}{base e size n:Nat}{v:Value}{xs:List Value}(h:w.ownsRow base e size v (n+1) xs):∃ g c,v=.slice (some ⟨g,0,none⟩) (n+1) c:=by
 obtain⟨g,c,hv,_⟩:=h.form (by omega);exact⟨g,c,hv⟩
theorem Tells.row{w w':World}{Ok:Nat->Prop}{sh:Sh}{f:Tr}{vs:List Value}(h:Tells w Ok sh f vs)(hb:Bel w w')(hOk:∀ j,Ok j->j<w.heap.size){e:TypeId}{A:OA}{c base:Nat}(hbase:w.heap.size<=base)(ho:w'.ownsRow base e sh.sz (.slice A f.len c) f.len vs):KidsTr w' (qbW w Ok w') sh A f.len c f:=by
 refine⟨rfl,?_,fun h0=>?_⟩
 ·rcases ho.2 with ⟨_,h0⟩ | ⟨g,cap,cur,hv,_,_,hnc,_⟩
  ·omega
  ·cases hv;exact hnc
 ·obtain⟨g,cp,hv,hgb,hgl⟩:=ho.form h0
  cases hv;refine⟨g,0,rfl,.inr ⟨Nat.le_trans hbase hgb,hgl⟩,(h.2.2 w' g 0 (fun j u hu=>?_) (fun j hj=>hb.block j (hOk j hj))).wide (fun j hj=> .inl hj) f sh g 0⟩;have:=ho.cells (g:=g) rfl j u hu;rwa [Addr.add_lit]at this
set_option maxHeartbeats 2000000
def Qv(p:Prop):Prop:=p
theorem QJ{p:Prop}(h:Qv p):p:=h
theorem qe1:(Tryz.prog.info? 28).map (fun i=>(i.zero,i.size,i.bytes))=some (some (.agg #[.int .u8 0,.string ⟨#[]⟩,(0:Int),(0:Int),(0:Int),(0:Int),.slice none 0 0,.slice none 0 0]),8,104):=by kernel_rfl
theorem qgZ:(Tryz.prog.info? 59).map (fun i=>(i.zero,i.size,i.bytes))=some (some (.agg #[.int .u8 0,.string ⟨#[]⟩,(0:Int),(0:Int),(0:Int),(0:Int),.slice none 0 0]),7,80):=by kernel_rfl
theorem qiz:(Tryz.prog.info? 43).map (fun i=>(i.zero,i.size,i.bytes))=some (some (.agg #[.int .u8 0,.string ⟨#[]⟩,.int .u8 0,(0:Int),(0:Int),(0:Int),.slice none 0 0]),7,80):=by kernel_rfl
def qjo(w:World)(Ok:Nat->Prop)(f:Tr)(e:Ending)(w':World):Prop:=
 ∃ A' c' vs,e=.returned (.slice A' f.len c')/\w'.ownsRow w.heap.size 28 8 (.slice A' f.len c') f.len vs/\Tells w Ok .ex f vs/\Bel w w'
theorem qdw(A:OA)(n cap:Nat)(kids:Tr)(Ok:Nat->Prop)(w:World)(h:KidsTr w Ok .ex A n cap kids)(hOk:∀ j,Ok j->j<w.heap.size)(hn:n<=2000000) :
  Calls Tryz.prog 59 #[.slice A n cap] w (qjo w Ok kids):=by
 have q22:∀ (w:World) (a:OA) (n c n' c':Nat),(binOp .eql 25 (.slice a n c) (.slice none n' c')).run Tryz.prog w=.ok (.bool a.isNone) w:=fun w a n c n' c'=>Lib.run_eql_slice_nil w _ _ a n c n' c' Tryz.underlying25;have H:=hid h;have HOK:=hid hOk;have HL:Hid (n=kids.len):=hid h.1;clear h hOk;rcases A with _ | a
 ·have hn0:n=0:=by
   rcases Nat.eq_zero_or_pos n with h' | h'
   ·exact h'
   ·obtain⟨_,_,e,_⟩:=H.2.2 h';cases e
  subst hn0;obtain rfl:=Tr.len_nil kids HL.out.symm;go_enter Tryz.func59,Tryz.ntmps59;go_wp2;go_ret;exact⟨none,0,[],rfl,World.ownsRow_nil _ _ _ _,Tells.nil,Bel.refl _⟩
 ·obtain⟨i,hi,hz0,hz1,hz2⟩:=info_parts qe1
  obtain⟨vs,hvl,hvc⟩:∃ vs:List Value,Tells w Ok .ex kids vs/\(∀ j u,vs[j]?=some u->w.cell? (a.add j)=some u):=by
   rcases Nat.eq_zero_or_pos n with h0 | h0
   ·obtain rfl:=Tr.len_nil kids (by rw[<- HL.out];exact h0)
    exact⟨[],Tells.nil,fun j u hu=>(by simp at hu)⟩
   ·obtain⟨b,o,e,q1,q2⟩:=H.2.2 h0
    cases e;obtain⟨vs,h1,h2⟩:=TrAt.tells (by intro e;cases e) kids b o q2;exact⟨vs,h1,fun j u hu=>by rw[Addr.add_lit];exact h2 j u hu⟩
  have HV:=hid (And.intro hvl hvc);have hlv:vs.length=n*8:=by rw[hvl.1,HL.out];rfl
  have HLV:=hid hlv;clear hvl hvc hlv;go_enter Tryz.func59,Tryz.ntmps59;go_wp2_with (at_builtin;refine QJ ?_);unfold Qv;refine wpList_append_own _ rfl _ _ 25 rfl w.heap.size 28 i _ 8 104 Tryz.underlying25 hi hz0 hz1 hz2 rfl (by decide) (.slice (some ⟨w.heap.size,0,none⟩) 0 0) 0 [] rfl (World.ownsRow_made w #[] 0 (Nat.le_refl _) (Nat.zero_le _) (by simp)) a n cap vs rfl HLV (fun j u hu=>?_) HV.1.2.1 (by unfold maxLen;omega) (by omega) (by simp) ?_
  ·have:=HV.2 j u hu
   exact (((Bel.refl w).alloc _).cell (World.block_lt_of_cell? w _ this)).trans this
  ·intro v' w1 hown1 hg1 _
   obtain⟨A',c',rfl⟩:=Qp hown1;have hb1:Bel w w1:=Below.grown ((Bel.refl w).alloc _) hg1 (by simp) (fun x hx=>by simp[Value.ownBlock]at hx;omega);have HB1:=hid hb1;have HO1:=hid hown1;clear hown1 hg1 hb1;go_wp2_with fail;go_ret;have h0:=HO1.out;rw[Nat.zero_add]at h0;have e:=HL.out;subst e;exact⟨A',c',vs,rfl,h0,HV.1,HB1⟩
theorem qeC{w:World}{b o:Nat}{k:Int}{s:LU}{n:Int}{p:Pl}{kids e:Tr}{Ok:Nat->Prop}(h:TrAt w Ok (.arm k s n p kids e .nil) .arms b o) :
  ∃ A c k2 s2 n2 p2 kids2 arms2 A2 c2 B2 bc2,e=.nod k2 s2 n2 p2 kids2 arms2 .nil/\KidsTr w Ok .pat A kids.len c kids/\KidsTr w Ok .ex A2 kids2.len c2 kids2/\KidsTr w Ok .arms B2 arms2.len bc2 arms2 ∧
   w.cell? ⟨b,o,none⟩=some (.int .u8 k)/\w.cell? ⟨b,o+1,none⟩=some (.string ⟨s.toArray⟩)/\w.cell? ⟨b,o+2,none⟩=some (.int .i64 n)/\w.cell? ⟨b,o+3,none⟩=some (.int .i64 p.a)/\w.cell? ⟨b,o+4,none⟩=some (.int .i64 p.l)/\w.cell? ⟨b,o+5,none⟩=some (.int .i64 p.c)/\w.cell? ⟨b,o+6,none⟩=some (.slice A kids.len c) ∧
   w.cell? ⟨b,o+7,none⟩=some (.int .u8 k2)/\w.cell? ⟨b,o+8,none⟩=some (.string ⟨s2.toArray⟩)/\w.cell? ⟨b,o+9,none⟩=some (.int .i64 n2)/\w.cell? ⟨b,o+10,none⟩=some (.int .i64 p2.a)/\w.cell? ⟨b,o+11,none⟩=some (.int .i64 p2.l)/\w.cell? ⟨b,o+12,none⟩=some (.int .i64 p2.c)/\w.cell? ⟨b,o+13,none⟩=some (.slice A2 kids2.len c2)/\w.cell? ⟨b,o+14,none⟩=some (.slice B2 arms2.len bc2):=by
 obtain⟨_,⟨a0,a1,a2,a3,a4,a5⟩,⟨A,c,d1,d2,d3⟩,el,he,_⟩:=h;obtain⟨k2,s2,n2,p2,kids2,arms2,rfl⟩:=Tr.one_nod e el (TrAt.isNods (by intro e;cases e) e b _ he);obtain⟨A2,c2,B2,bc2,hc,hk,ha,_⟩:=he.parts;rcases ha with ⟨_,ha⟩ | ⟨e | e,_⟩
 ·exact⟨A,c,k2,s2,n2,p2,kids2,arms2,A2,c2,B2,bc2,rfl,⟨rfl,d2,d3⟩,hk,ha,a0,a1,a2,a3,a4,a5,d1,hc 0 _ rfl,hc 1 _ rfl,hc 2 _ rfl,hc 3 _ rfl,hc 4 _ rfl,hc 5 _ rfl,hc 6 _ rfl,hc 7 _ rfl⟩
 ·cases e
 ·cases e
theorem box8{w:World}{g:Nat}{t:TypeId}{x0 x1 x2 x3 x4 x5 x6 x7:Value}(h:w.heap[g]?=some (.cells #[x0,x1,x2,x3,x4,x5,x6,x7] t (0,0))) :
  w.cell? ⟨g,0,none⟩=some x0/\w.cell? ⟨g,1,none⟩=some x1/\w.cell? ⟨g,2,none⟩=some x2/\w.cell? ⟨g,3,none⟩=some x3/\w.cell? ⟨g,4,none⟩=some x4/\w.cell? ⟨g,5,none⟩=some x5/\w.cell? ⟨g,6,none⟩=some x6/\w.cell? ⟨g,7,none⟩=some x7:=by
 simp[World.cell?,h]
theorem box7{w:World}{g:Nat}{t:TypeId}{x0 x1 x2 x3 x4 x5 x6:Value}(h:w.heap[g]?=some (.cells #[x0,x1,x2,x3,x4,x5,x6] t (0,0))) :
  w.cell? ⟨g,0,none⟩=some x0/\w.cell? ⟨g,1,none⟩=some x1/\w.cell? ⟨g,2,none⟩=some x2/\w.cell? ⟨g,3,none⟩=some x3/\w.cell? ⟨g,4,none⟩=some x4/\w.cell? ⟨g,5,none⟩=some x5/\w.cell? ⟨g,6,none⟩=some x6:=by
 simp[World.cell?,h]
theorem jS(w:World)(xs:List Value)(t:TypeId):∀ j u,xs[j]?=some u->(w.alloc (.cells xs.toArray t)).cell? ⟨w.heap.size,j,none⟩=some u:=by
 intro j u hu;have h:=blk1 w (.cells xs.toArray t);unfold World.cell?
 simp only[h];simpa using hu
theorem jp(k:Int)(s:LU)(n:Int)(p:Pl)(A:OA)(c:Nat)(B:OA)(bc:Nat)(kids arms:Tr)(Ok:Nat->Prop)(w:World)(hk:KidsTr w Ok .ex A kids.len c kids)(ha:KidsTr w Ok .arms B arms.len bc arms)(hOk:∀ j,Ok j->j<w.heap.size)(hn:kids.len<=1000000)(hm:arms.len<=1000000) :
  Calls Tryz.prog 25 #[.agg #[.int .u8 k,.string ⟨s.toArray⟩,n,p.a,p.l,p.c,.slice A kids.len c,.slice B arms.len bc]] w (Qu w Ok .ex (kids.app arms.exs)):=by
 have HK:=hid hk;have HA:=hid ha;have HOK:=hid hOk;have HIA:=hid ha.isArms;obtain⟨kl,hkl⟩:=nW kids.len;obtain⟨al,hal⟩:=nW arms.len;have HKL:=hid hkl;have HAL:=hid hal;rw[<- hkl]at hn ⊢;rw[<- hal]at hm ⊢;clear hk ha hOk hkl hal;obtain⟨S,hS⟩:=nW (⟨s.toArray⟩:BA);rw[<- hS];clear hS;by_cases ha0:al=0
 ·subst ha0
  go_enter Tryz.func25,Tryz.ntmps25;go_wp2_with fail;go_ret;obtain rfl:=Tr.len_nil arms HAL.out.symm;simp only[Tr.exs,Tr.app_nil];rw[HKL.out];have hb:Bel w (w.alloc (.cells #[.int .u8 k,S,n,p.a,p.l,p.c,.slice A kids.len c,.slice B 0 bc] 28)):=(Bel.refl w).alloc _;exact⟨A,c,rfl,hb,(HK.keep fun j hj=>hb.block j (HOK j hj)).wide fun j hj=> .inl hj⟩
 ·have e0:((al:Int)==0)=false:=by simp;omega
  obtain⟨i0,hi0,hz0,hz1,hz2⟩:=info_parts qe1;go_enter Tryz.func25,Tryz.ntmps25;have hb1:Bel w (w.alloc (.cells #[.int .u8 k,S,n,p.a,p.l,p.c,.slice A kl c,.slice B al bc] 28)):=(Bel.refl w).alloc _;have hq1:=blk1 w (.cells #[.int .u8 k,S,n,p.a,p.l,p.c,.slice A kl c,.slice B al bc] 28);have HCL:Hid (∀ W,Bel w W->Calls Tryz.prog 59 #[.slice A kl c] W (qjo W Ok kids)):=hid fun W hW=>qdw A kl c kids Ok W (by rw[HKL.out];exact HK.keep fun j hj=>hW.block j (HOK j hj)) (fun j hj=>Nat.lt_of_lt_of_le (HOK j hj) hW.size) (by omega);have HB1:=hid hb1;have HQ1:=hid hq1;clear hb1 hq1;go_wp2_with fail;refine (HCL _ HB1).mono ?_;rintro e w2 ⟨A',c',vs,rfl,hown,htell,hb2⟩;rw[<- HKL.out]at hown ⊢;have HQ2:=hid (hb2.blk HQ1);have HB2:=hid (HB1.on hb2);have HT0:=hid htell;have hsz:(w.alloc (.cells #[.int .u8 k,S,n,p.a,p.l,p.c,.slice A kl c,.slice B al bc] 28)).heap.size=w.heap.size+1:=by simp
  rw[hsz]at hown;have HO2:=hid hown;obtain⟨bx,hbx⟩:=nW w.heap.size;rw[<- hbx]at HQ2 HO2 ⊢;have HBX:=hid hbx;obtain⟨w1,hw1⟩:=nW (w.alloc (.cells #[.int .u8 k,S,n,p.a,p.l,p.c,.slice A kl c,.slice B al bc] 28));rw[<- hw1]at hb2 HT0 HB1;have HT1:Hid (Tells w Ok .ex kids vs):=hid ⟨HT0.1,HT0.2.1,fun w' b' o' hc hkk=>HT0.2.2 w' b' o' hc fun j hj=>(hkk j hj).trans (HB1.block j (HOK j hj)).symm⟩;obtain⟨x0,x1,x2,x3,x4,x5,x6,x7⟩:=box8 HQ2;clear hown htell hb2 hsz hbx hw1 HT0 HB1 HCL;go_wp2_with fail;go_loopw [3,18] (fun v i wr=>∃ (j m:Nat) (A3:OA) (c3:Nat) (us:List Value),j<=al/\m=kl+j/\v=.slice A3 m c3/\i=.int .i64 (j:Int)/\Hid (wr.ownsRow (bx+1) 28 8 (.slice A3 m c3) m us)/\Hid (Tells w Ok .ex (kids.app (arms.exsN j)) us)/\Hid (Bel w wr)) (fun _ i _=>al-(intOf i).toNat)
  case atStart=>exact⟨0,kl,A',c',vs,Nat.zero_le _,rfl,rfl,rfl,HO2,(by rw[Tr.exsN_zero,Tr.app_nil];exact HT1),HB2⟩
  case round=>
   clear x0 x1 x2 x3 x4 x5 x6 x7 HT1 HO2;obtain⟨j,m,A3,c3,us,hj,hm3,rfl,rfl,HO,HT,HB⟩:=hrel;by_cases hlt:j<al
   ·obtain⟨ub,uo,eB,hob,hfo⟩:=HA.2.2 (by rw[<- HAL.out];omega)
    subst eB;obtain⟨k',s',n',p',kd,e',en,hd⟩:=TrAt.arm_at arms j ub uo hfo (by rw[<- HAL.out];exact hlt);obtain⟨A4,c4,k2,s2,n2,p2,kids2,arms2,A2,c2,B2,bc2,ee,hkd,hk2,ha2,y0,y1,y2,y3,y4,y5,y6,y7,y8,y9,y10,y11,y12,y13,y14⟩:=qeC hd;subst ee;have HT3:Hid (Tells w Ok .ex (kids.app (arms.exsN (j+1))) (us++nodV .ex k2 s2 n2 p2 A2 kids2.len c2 B2 arms2.len bc2)):=hid (by
     rw[Tr.exsN_succ arms j HIA.out en,<- Tr.app_assoc];exact HT.out.app (Tells.one (by intro e;cases e) hk2 (.inl ⟨rfl,ha2⟩)))
    have hc:=(Bel.cells HB).1;have hob':=HOK.out ub hob;have z0:=(hc ub _ hob').trans y0;have z1:=(hc ub _ hob').trans y1;have z2:=(hc ub _ hob').trans y2;have z3:=(hc ub _ hob').trans y3;have z4:=(hc ub _ hob').trans y4;have z5:=(hc ub _ hob').trans y5;have z6:=(hc ub _ hob').trans y6;have z7:=(hc ub _ hob').trans y7;have z8:=(hc ub _ hob').trans y8;have z9:=(hc ub _ hob').trans y9;have z10:=(hc ub _ hob').trans y10;have z11:=(hc ub _ hob').trans y11;have z12:=(hc ub _ hob').trans y12;have z13:=(hc ub _ hob').trans y13;have z14:=(hc ub _ hob').trans y14;obtain⟨l1,hl1⟩:=nW kids2.len;obtain⟨l2,hl2⟩:=nW arms2.len;obtain⟨l3,hl3⟩:=nW kd.len;rw[<- hl1]at z13 HT3;rw[<- hl2]at z14 HT3;rw[<- hl3]at z6;obtain⟨T,hT⟩:=nW (⟨s'.toArray⟩:BA);obtain⟨T2,hT2⟩:=nW (⟨s2.toArray⟩:BA);rw[<- hT]at z1;rw[<- hT2]at z8;have HT4:Hid (Tells w Ok .ex (kids.app (arms.exsN (j+1))) (us++[.int .u8 k2,.string T2,.int .i64 n2,.int .i64 p2.a,.int .i64 p2.l,.int .i64 p2.c,.slice A2 l1 c2,.slice B2 l2 bc2])):=hid (by rw[hT2];exact HT3);have i1:(0:Int)<=(j:Int):=by omega
    have i2:(j:Int)<(al:Int):=by omega
    have hub:ub<wr.heap.size:=Nat.lt_of_lt_of_le hob' HB.size;clear y0 y1 y2 y3 y4 y5 y6 y7 y8 y9 y10 y11 y12 y13 y14 hc hd hfo en hkd hk2 ha2 HT3 hl1 hl2 hl3 hT hT2 HT hob';go_wp2_with (at_builtin;refine QJ ?_);unfold Qv;refine wpList_append_own_at _ rfl _ _ 25 rfl (bx+1) 28 i0 _ 8 104 Tryz.underlying25 hi0 hz0 hz1 hz2 rfl (by decide) (.slice A3 m c3) m _ rfl ((HO.alloc _).alloc _) ⟨wr.heap.size+1,0,none⟩ 1 1 [.int .u8 k2,T2,n2,p2.a,p2.l,p2.c,.slice A2 l1 c2,.slice B2 l2 bc2] rfl rfl (fun j u hu=>by
     rw[Addr.add_lit,Nat.zero_add];have h:=jS (wr.alloc (.cells #[.int .u8 k',T,n',p'.a,p'.l,p'.c,.slice A4 l3 c4,.int .u8 k2,T2,n2,p2.a,p2.l,p2.c,.slice A2 l1 c2,.slice B2 l2 bc2] 61)) _ 28 j u hu;rw[World.size_alloc]at h;exact h) (by simp[Value.oneCell']) (by unfold maxLen;omega) (by omega) (by simp;have:=HBX.out;have:=HB.size;omega) ?_
    intro v' w5 hown5 hg5 _ hat5;obtain⟨g5,c5,rfl⟩:=jP hown5;have hb5:Bel w w5:=Below.grown ((HB.alloc _).alloc _) hg5 (by simp;have:=HB.size;omega) (fun x hx=>by have h:=(HO.out.lt x hx).1;have:=HBX.out;omega);have HB5:=hid hb5;have HO5:=hid hown5;have HLT:=hid hlt;clear hown5 hg5 hat5 hb5 z0 z1 z2 z3 z4 z5 z6 z7 z8 z9 z10 z11 z12 z13 z14 HO HB;go_wp2_with fail;go_roundw
    case rel=>exact⟨j+1,m+1,_,c5,_,HLT,by omega,(by rw[hm3]),by go_num,HO5,HT4,HB5⟩
    case measure=>exact mS HLT
   ·obtain rfl:j=al:=by omega
    go_wp2_with fail;go_ret;have hl:m=(kids.app arms.exs).len:=by rw[hm3,Tr.app_len,Tr.exs_len arms HIA.out,HKL.out,HAL.out]
    have ht:=HT.out;rw[HAL.out,Tr.exsN_all arms HIA.out]at ht;have ho:=HO.out;rw[hl]at ho ⊢;exact⟨A3,c3,rfl,HB,ht.row HB HOK (by have:=HBX.out;omega) ho⟩
theorem jr(k:Int)(s:LU)(n:Int)(p:Pl)(A:OA)(c:Nat)(B:OA)(bc:Nat)(kids arms:Tr)(Ok:Nat->Prop)(w:World)(hk:KidsTr w Ok .ex A kids.len c kids)(ha:KidsTr w Ok .arms B arms.len bc arms)(hOk:∀ j,Ok j->j<w.heap.size)(hn:kids.len<=1000000)(hm:arms.len<=1000000) :
  Calls Tryz.prog 63 #[.agg #[.int .u8 k,.string ⟨s.toArray⟩,n,p.a,p.l,p.c,.slice A kids.len c,.slice B arms.len bc]] w (Qu w Ok .pat arms.pats):=by
 have HK:=hid hk;have HA:=hid ha;have HOK:=hid hOk;have HIA:=hid ha.isArms;obtain⟨kl,hkl⟩:=nW kids.len;obtain⟨al,hal⟩:=nW arms.len;have HKL:=hid hkl;have HAL:=hid hal;rw[<- hkl]at hn ⊢;rw[<- hal]at hm ⊢;clear hk ha hOk hkl hal;obtain⟨S,hS⟩:=nW (⟨s.toArray⟩:BA);rw[<- hS];clear hS;obtain⟨i0,hi0,hz0,hz1,hz2⟩:=info_parts qgZ;have hb1:Bel w (w.alloc (.cells #[.int .u8 k,S,n,p.a,p.l,p.c,.slice A kl c,.slice B al bc] 28)):=(Bel.refl w).alloc _;have hsz:(w.alloc (.cells #[.int .u8 k,S,n,p.a,p.l,p.c,.slice A kl c,.slice B al bc] 28)).heap.size=w.heap.size+1:=by simp
 have HB1:=hid hb1;have HSZ:=hid hsz;clear hb1 hsz;go_enter Tryz.func63,Tryz.ntmps63;go_wp2_with fail;obtain⟨bx,hbx⟩:=nW w.heap.size;have HBX:=hid hbx;clear hbx;go_loopw [3,9] (fun v i wr=>∃ (j m:Nat) (A3:OA) (c3:Nat) (us:List Value),j<=al/\m=j/\v=.slice A3 m c3/\i=.int .i64 (j:Int)/\Hid (wr.ownsRow (bx+1) 59 7 (.slice A3 m c3) m us)/\Hid (Tells w Ok .pat (arms.patsN j) us)/\Hid (Bel w wr)/\Hid (w.heap.size+1<=wr.heap.size)) (fun _ i _=>al-(intOf i).toNat)
 case atStart=>exact⟨0,0,none,0,[],Nat.zero_le _,rfl,rfl,rfl,hid (World.ownsRow_nil _ _ _ _),hid (by rw[Tr.patsN_zero];exact Tells.nil),HB1,hid (by rw[HSZ.out];exact Nat.le_refl _)⟩
 case round=>
  obtain⟨j,m,A3,c3,us,hj,hm3,rfl,rfl,HO,HT,HB,HSB⟩:=hrel;by_cases hlt:j<al
  ·obtain⟨ub,uo,eB,hob,hfo⟩:=HA.2.2 (by rw[<- HAL.out];omega)
   subst eB;obtain⟨k',s',n',p',kd,e',en,hd⟩:=TrAt.arm_at arms j ub uo hfo (by rw[<- HAL.out];exact hlt);obtain⟨A4,c4,k2,s2,n2,p2,kids2,arms2,A2,c2,B2,bc2,ee,hkd,hk2,ha2,y0,y1,y2,y3,y4,y5,y6,y7,y8,y9,y10,y11,y12,y13,y14⟩:=qeC hd;subst ee;have HT3:Hid (Tells w Ok .pat (arms.patsN (j+1)) (us++nodV .pat k' s' n' p' A4 kd.len c4 none 0 0)):=hid (by
    rw[Tr.patsN_succ arms j HIA.out en];exact HT.out.app (Tells.one (by intro e;cases e) hkd (.inr ⟨.inl rfl,rfl⟩)))
   have hc:=(Bel.cells HB).1;have hob':=HOK.out ub hob;have z0:=(hc ub _ hob').trans y0;have z1:=(hc ub _ hob').trans y1;have z2:=(hc ub _ hob').trans y2;have z3:=(hc ub _ hob').trans y3;have z4:=(hc ub _ hob').trans y4;have z5:=(hc ub _ hob').trans y5;have z6:=(hc ub _ hob').trans y6;have z7:=(hc ub _ hob').trans y7;have z8:=(hc ub _ hob').trans y8;have z9:=(hc ub _ hob').trans y9;have z10:=(hc ub _ hob').trans y10;have z11:=(hc ub _ hob').trans y11;have z12:=(hc ub _ hob').trans y12;have z13:=(hc ub _ hob').trans y13;have z14:=(hc ub _ hob').trans y14;obtain⟨l1,hl1⟩:=nW kids2.len;obtain⟨l2,hl2⟩:=nW arms2.len;obtain⟨l3,hl3⟩:=nW kd.len;rw[<- hl1]at z13;rw[<- hl2]at z14;rw[<- hl3]at z6 HT3;obtain⟨T,hT⟩:=nW (⟨s'.toArray⟩:BA);obtain⟨T2,hT2⟩:=nW (⟨s2.toArray⟩:BA);rw[<- hT]at z1;rw[<- hT2]at z8;have HT4:Hid (Tells w Ok .pat (arms.patsN (j+1)) (us++[.int .u8 k',.string T,.int .i64 n',.int .i64 p'.a,.int .i64 p'.l,.int .i64 p'.c,.slice A4 l3 c4])):=hid (by rw[hT];exact HT3);have i1:(0:Int)<=(j:Int):=by omega
   have i2:(j:Int)<(al:Int):=by omega
   have hub:ub<wr.heap.size:=Nat.lt_of_lt_of_le hob' HB.size;clear y0 y1 y2 y3 y4 y5 y6 y7 y8 y9 y10 y11 y12 y13 y14 hc hd hfo en hkd hk2 ha2 HT3 hl1 hl2 hl3 hT hT2 HT hob';go_wp2_with (at_builtin;refine QJ ?_);unfold Qv;refine wpList_append_own_at _ rfl _ _ 57 rfl (bx+1) 59 i0 _ 7 80 Tryz.underlying57 hi0 hz0 hz1 hz2 rfl (by decide) (.slice A3 m c3) m _ rfl ((HO.alloc _).alloc _) ⟨wr.heap.size+1,0,none⟩ 1 1 [.int .u8 k',T,n',p'.a,p'.l,p'.c,.slice A4 l3 c4] rfl rfl (fun j u hu=>by
    rw[Addr.add_lit,Nat.zero_add];have h:=jS (wr.alloc (.cells #[.int .u8 k',T,n',p'.a,p'.l,p'.c,.slice A4 l3 c4,.int .u8 k2,T2,n2,p2.a,p2.l,p2.c,.slice A2 l1 c2,.slice B2 l2 bc2] 61)) _ 59 j u hu;rw[World.size_alloc]at h;exact h) (by simp[Value.oneCell']) (by unfold maxLen;omega) (by omega) (by simp;have:=HBX.out;have:=HB.size;have:=HSB.out;omega) ?_
   intro v' w5 hown5 hg5 _ hat5;obtain⟨g5,c5,rfl⟩:=jP hown5;have hb5:Bel w w5:=Below.grown ((HB.alloc _).alloc _) hg5 (by simp;have:=HB.size;omega) (fun x hx=>by have h:=(HO.out.lt x hx).1;have:=HBX.out;omega);have HB5:=hid hb5;have HSB5:Hid (w.heap.size+1<=w5.heap.size):=hid (by have h:=hg5.size;simp at h;have:=HSB.out;omega);have HO5:=hid hown5;have HLT:=hid hlt;clear hown5 hg5 hat5 hb5 z0 z1 z2 z3 z4 z5 z6 z7 z8 z9 z10 z11 z12 z13 z14 HO HB;go_wp2_with fail;go_roundw
   case rel=>exact⟨j+1,m+1,_,c5,_,HLT,by omega,(by rw[hm3]),by go_num,HO5,HT4,HB5,HSB5⟩
   case measure=>exact mS HLT
  ·obtain rfl:j=al:=by omega
   go_wp2_with fail;go_ret;have hl:m=arms.pats.len:=by rw[hm3,Tr.pats_len arms HIA.out,HAL.out]
   have ht:=HT.out;rw[HAL.out,Tr.patsN_all arms HIA.out]at ht;have ho:=HO.out;rw[hl]at ho ⊢;exact⟨A3,c3,rfl,HB,ht.row HB HOK (by have:=HBX.out;omega) ho⟩
theorem jW(k:Int)(s:LU)(n:Int)(p:Pl)(A:OA)(l c:Nat)(w:World):Calls Tryz.prog 64 #[.agg #[.int .u8 k,.string ⟨s.toArray⟩,n,p.a,p.l,p.c,.slice A l c]] w fun e w'=>e=.returned (.slice A l c)/\Bel w w':=by
 go_enter Tryz.func64,Tryz.ntmps64;go_wp2;go_ret;exact⟨rfl,(Bel.refl w).alloc _⟩
theorem qat(k:Int)(s:LU)(n:Int)(p:Pl)(A:OA)(l c:Nat)(w:World):Calls Tryz.prog 35 #[.agg #[.int .u8 k,.string ⟨s.toArray⟩,.int .u8 n,p.a,p.l,p.c,.slice A l c]] w fun e w'=>e=.returned (.slice A l c)/\Bel w w':=by
 go_enter Tryz.func35,Tryz.ntmps35;go_wp2;go_ret;exact⟨rfl,(Bel.refl w).alloc _⟩
end Go.Proofs.YtmloadclmjcbbaaGreatDoor.Mu
