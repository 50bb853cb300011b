import Derived.Test.YtfpoelklhekfaaaGreatDoorQau
namespace Go.Proofs.YtfpoelklhekfaaaGreatDoor.Mu
open Go Go.RowKit Go.Shelf
set_option linter.unusedVariables false
set_option maxRecDepth 100000
theorem zi{tok kc:Int}{s:List UInt8}{n:Int}{l:Nat}(h:keepB tok kc s n l=true):(kc = -1∨kc=(l:Int))/\(tok=0->s=[]/\n=0)/\(tok≠0->qv (tok,s,n)):=by
 unfold keepB at h;split at h
 ·cases h
 rename_i h1;refine⟨?_,fun h0=>?_,fun h0=>?_⟩
 ·by_cases e:kc = -1
  ·exact .inl e
  ·exact .inr (Classical.byContradiction fun e2=>h1 ⟨e,e2⟩)
 ·rw[if_pos h0]at h
  simpa using h
 ·rw[if_neg h0]at h
  simpa [mtB] using h
theorem qft{s:List UInt8}(h:s∈za∨s∈jp):qv (tk0 5 s 0).b:= .inr (.inr (.inr (.inr (.inl ⟨rfl,h,rfl⟩))))
theorem Ql:∀ t∈[zj,jw,kwIn,zy,kwOf,kwEq,jl,Jc,kwOpen,kwClose,zQ,tk0 5 [95] 0,tk0 5 [40] 0,tk0 5 [41] 0,tk0 5 [63] 0,tk0 5 [42] 0,tk0 5 [45,49,62] 0,tk0 5 [45,63,62] 0,tk0 5 [45,42,62] 0,tk0 5 [124] 0,tk0 5 [100,97,116,97] 0],qv t.b:=by
 intro t ht;simp only[List.mem_cons,List.not_mem_nil,or_false]at ht;rcases ht with rfl | rfl | rfl | rfl | rfl | rfl | rfl | rfl | rfl | rfl | rfl | rfl | rfl | rfl | rfl | rfl | rfl | rfl | rfl | rfl | rfl
 all_goals exact qft (by decide +kernel)
def AllM(F:List Tn):Prop:=∀ t∈F,qv t.b
theorem AllM.nil:AllM []:=by intro t h;cases h
theorem AllM.cons{t:Tn}{F:List Tn}(h:qv t.b)(k:AllM F):AllM (t::F):=fun u hu=>(List.mem_cons.1 hu).elim (fun e=>e ▸ h) (k u)
theorem AllM.app{F G:List Tn}(h:AllM F)(k:AllM G):AllM (F++G):=fun u hu=>(List.mem_append.1 hu).elim (h u) (k u)
theorem AllM.kw{t:Tn}{F:List Tn}(h:t∈[zj,jw,kwIn,zy,kwOf,kwEq,jl,Jc,kwOpen,kwClose,zQ,tk0 5 [95] 0,tk0 5 [40] 0,tk0 5 [41] 0,tk0 5 [63] 0,tk0 5 [42] 0,tk0 5 [45,49,62] 0,tk0 5 [45,63,62] 0,tk0 5 [45,42,62] 0,tk0 5 [124] 0,tk0 5 [100,97,116,97] 0])(k:AllM F):AllM (t::F):=k.cons (Ql t h)
theorem AllM.brk{b:Bool}{F:List Tn}(h:AllM F):AllM (brkL b F):=by
 unfold brkL;split
 ·exact h
 ·exact AllM.kw (by simp) (h.app (AllM.kw (by simp) AllM.nil))
theorem AllM.brkM{md:Nat}{k:Int}{l:Nat}{F:List Tn}(h:AllM F):AllM (brkM md k l F):=by
 unfold Mu.brkM;split
 ·exact h
 split
 ·exact h.brk
 ·exact h.brk
theorem ZG{k:Int}{s:List UInt8}{n:Int}{l:Nat}{K:List Tn}(h:hPf k s n l=true)(hK:AllM K):AllM (qH k s n K):=by
 unfold qH;split
 ·exact AllM.kw (by simp) AllM.nil
 ·rename_i h2
  unfold hPf at h;rw[Bool.and_eq_true]at h;obtain⟨h1,h3⟩:=h;refine AllM.cons ((zi h3).2.2 fun e=>?_) hK;unfold paR at h1 e;simp only[h2,if_false]at h1 e;by_cases k1:k=1
  ·simp[k1]at e
  by_cases k3:k=3
  ·simp[k3]at e
  by_cases k4:k=4
  ·simp[k4]at e
  by_cases k5:k=5
  ·simp[k5]at e
  simp[k1,k3,k4,k5]at h1
theorem Jj:∀ f:Tr,f.mayP hPf=true->AllM f.patK
 | .nil,_=>AllM.nil
 | .arm ..,_=>AllM.nil
 | .nod k s n p kids arms r,h=>by
  simp only[Tr.mayP,Bool.and_eq_true]at h;exact ((ZG h.1.1 (Jj kids h.1.2)).brk).app (Jj r h.2)
theorem ZP{k:Int}{s:List UInt8}{n:Int}{l:Nat}{K K2:List Tn}(h:hTf k s n l=true)(hK:AllM K)(hK2:AllM K2):AllM (if k=3 then K2 else tk0 (tyR k).1 s 0::K):=by
 split
 ·exact hK2
 ·rename_i h3
  unfold hTf at h;rw[if_neg h3,Bool.and_eq_true,Bool.and_eq_true]at h;obtain⟨h1,h2,h4⟩:=h;refine AllM.cons ((zi h4).2.2 fun e=>?_) hK;unfold tyR at h2 e;simp only[h3,if_false]at h2 e;split at h2
  ·rw[if_pos (by assumption)]at e;cases e
  ·rename_i h5
   rw[if_neg h5]at e;split at h2
   ·rw[if_pos (by assumption)]at e;cases e
   ·cases h2
theorem qbM{n:Int}(h:mltB n=true):qv (qW n).b:=by
 unfold qW;split
 ·exact Ql _ (by simp)
 split
 ·exact Ql _ (by simp)
 ·exact Ql _ (by simp)
theorem qb9{n:Int}:qv (qI n).b:=by
 unfold qI;split
 ·exact .inr (.inr (.inl ⟨rfl,by decide,by decide,rfl⟩))
 split
 ·exact Ql _ (by simp)
 ·exact Ql _ (by simp)
theorem Q7:∀ (f:Tr) (sep:List Tn),f.mayP hTf=true->AllM sep->AllM (f.tyK sep)
 | .nil,_,_,_=>AllM.nil
 | .arm ..,_,_,_=>AllM.nil
 | .nod k s n p kids arms r,sep,h,hs=>by
  simp only[Tr.mayP,Bool.and_eq_true]at h;have h1:=Q7 kids [] h.1.2 AllM.nil;by_cases h3:k=3
  ·have hm:mltB n=true:=by
    have:=h.1.1;unfold hTf at this;rw[if_pos h3,Bool.and_eq_true]at this;exact this.1
   exact (((ZP h.1.1 h1 (Q7 kids [qW n] h.1.2 (AllM.cons (qbM hm) AllM.nil))).brk).app hs).app (Q7 r [] h.2 AllM.nil)
  ·refine ((AllM.brk ?_).app hs).app (Q7 r [] h.2 AllM.nil)
   have h2:=ZP h.1.1 h1 AllM.nil;rw[if_neg h3]at h2 ⊢;exact h2
theorem qbW{k:Int}{s:List UInt8}{n:Int}{l al:Nat}{K0 K1 K2 KI KS KA:List Tn}(h:hEf k s n l al=true)(h0:AllM K0)(h1:AllM K1)(h2:AllM K2)(hI:AllM KI)(hS:(exR k s).1=5->qv (5,s,n)->AllM KS)(hA:AllM KA) :
  AllM (if k=4 then Jc::tk0 1 s 0::jl::K0
    else if k=6 then zj::tk0 1 s 0::kwEq::KI
    else if k=7 then zj::jw::tk0 1 s 0::kwEq::KI
    else if k=8 then zy::K0++[kwOf]++KA++[kwClose]
    else if k=5 then K1
    else if (exR k s).1=5 then KS
    else tk0 (exR k s).1 s n::K2):=by
 unfold hEf at h;rw[Bool.and_eq_true,Bool.and_eq_true]at h;obtain⟨hr,hk,_⟩:=h;have hp:=zi hk;have name:(exR k s).1=1->qv (tk0 1 s 0).b:=fun e=>by
  have:=hp.2.2 (by rw[e];decide);rw[e]at this;have hn:n=0:=by
   rcases this with h | h | h | h | h | h
   ·exact h.2.2
   ·have h1:=h.1;simp at h1
   ·have h1:=h.1;simp at h1
   ·have h1:=h.1;simp at h1
   ·have h1:=h.1;simp at h1
   ·have h1:=h.1;simp at h1
  rw[hn]at this;exact this
 by_cases k4:k=4
 ·rw[if_pos k4]
  exact AllM.kw (by simp) (AllM.cons (name (by rw[k4];rfl)) (AllM.kw (by simp) h0))
 rw[if_neg k4];by_cases k6:k=6
 ·rw[if_pos k6]
  exact AllM.kw (by simp) (AllM.cons (name (by rw[k6];rfl)) (AllM.kw (by simp) hI))
 rw[if_neg k6];by_cases k7:k=7
 ·rw[if_pos k7]
  exact AllM.kw (by simp) (AllM.kw (by simp) (AllM.cons (name (by rw[k7];rfl)) (AllM.kw (by simp) hI)))
 rw[if_neg k7];by_cases k8:k=8
 ·rw[if_pos k8]
  exact (((AllM.kw (by simp) h0).app (AllM.kw (by simp) AllM.nil)).app hA).app (AllM.kw (by simp) AllM.nil)
 rw[if_neg k8];by_cases k5:k=5
 ·rw[if_pos k5]
  exact h1
 rw[if_neg k5];by_cases e5:(exR k s).1=5
 ·rw[if_pos e5]
  exact hS e5 (by have:=hp.2.2 (by rw[e5];decide);rwa [e5]at this)
 rw[if_neg e5];refine AllM.cons (hp.2.2 fun e=>?_) h2;unfold exR at hr e;simp only[k4,k5,k6,k7,k8,if_false]at hr e;by_cases k1:k=1
 ·simp[k1]at e
 by_cases k2:k=2
 ·simp[k2]at e
 by_cases k3:k=3
 ·simp[k3]at e
 by_cases k9:k=9
 ·simp[k9]at e
 by_cases k10:k=10
 ·simp only[k10]at e
  simp at e;split at e <;> simp at e
 ·simp[k1,k2,k3,k9,k10]at hr
theorem qJ:∀ (f:Tr) (md:Nat) (sep:List Tn),f.mayE hEf hPf=true->AllM sep->AllM (f.exK md sep)
 | .nil,_,_,_,_=>AllM.nil
 | .arm k s n p kids e r,md,sep,h,hs=>by
  simp only[Tr.mayE,Bool.and_eq_true]at h;exact (((hs.app (ZG h.1.1.1 (Jj kids h.1.1.2))).app (AllM.kw (by simp) AllM.nil)).app (qJ e 0 [] h.1.2 AllM.nil)).app (qJ r 0 [zQ] h.2 (AllM.kw (by simp) AllM.nil))
 | .nod k s n p kids arms r,md,sep,h,hs=>by
  simp only[Tr.mayE,Bool.and_eq_true]at h;exact (((qbW h.1.1.1 (qJ kids 0 [] h.1.1.2 AllM.nil) (qJ kids 1 [] h.1.1.2 AllM.nil) (qJ kids 2 [] h.1.1.2 AllM.nil) (qJ kids 0 [kwIn] h.1.1.2 (AllM.kw (by simp) AllM.nil)) (fun _ hm=>qJ kids 2 [tk0 5 s n] h.1.1.2 (AllM.cons hm AllM.nil)) (qJ arms 0 [kwOpen] h.1.2 (AllM.kw (by simp) AllM.nil))).brkM).app hs).app (qJ r (nxM md) [] h.2 AllM.nil)
theorem QX:∀ f:Tr,f.mayE hEf hPf=true->f.shp
 | .nil,_=>trivial
 | .arm k s n p kids e r,h=>by
  simp only[Tr.mayE,Bool.and_eq_true]at h;exact⟨QX e h.1.2,QX r h.2⟩
 | .nod k s n p kids arms r,h=>by
  simp only[Tr.mayE,Bool.and_eq_true]at h;have h1:=h.1.1.1;unfold hEf at h1;rw[Bool.and_eq_true,Bool.and_eq_true]at h1;have hp:=(zi h1.2.1).1;refine⟨fun e=>?_,fun e=>?_,fun e=>?_,fun e=>?_,QX kids h.1.1.2,QX arms h.1.2,QX r h.2⟩
  ·rw[e]at hp
   have:(exR 4 s).2.1=1:=rfl;rw[this]at hp;omega
  ·rcases e with e | e | e
   all_goals rw[e]at hp
   ·have:(exR 5 s).2.1=2:=rfl
    rw[this]at hp;omega
   ·have:(exR 6 s).2.1=2:=rfl
    rw[this]at hp;omega
   ·have:(exR 7 s).2.1=2:=rfl
    rw[this]at hp;omega
  ·rw[e]at hp
   have:(exR 8 s).2.1=1:=rfl;rw[this]at hp;omega
  ·have h10:k=10/\btwB s=true:=by
    unfold exR at e;by_cases k10:k=10
    ·refine⟨k10,?_⟩
     subst k10;simp at e;split at e
     ·assumption
     ·simp at e
    ·exfalso
     revert e
     simp only[k10,if_false];repeat' split
     all_goals simp
   have:(exR k s).2.1=2:=by rw[h10.1];simp[exR,h10.2]
   rw[this]at hp;omega
theorem qaG:∀ f:Tr,f.mayP hTf=true->f.shpT
 | .nil,_=>trivial
 | .arm ..,_=>trivial
 | .nod k s n p kids arms r,h=>by
  simp only[Tr.mayP,Bool.and_eq_true]at h;refine⟨fun e=>?_,qaG kids h.1.2,qaG r h.2⟩;have h1:=h.1.1;unfold hTf at h1;rw[Bool.and_eq_true,Bool.and_eq_true]at h1;have hp:=(zi h1.2.2).1;rw[e]at hp;have:(tyR 3).2.1=2:=rfl;rw[this]at hp;omega
theorem qdl{t:Int × List UInt8 × Int}(h:qv t):1<=(putB t.1 t.2.1 t.2.2).length:=by
 obtain⟨k,s,n⟩:=t;have hs:∀ l:List (List UInt8),(∀ x∈l,x≠[])->s∈l->1<=s.length:=fun l hl hm=>List.length_pos_iff.2 (hl s hm);have hw:∀ x∈za,x≠[]:=by decide +kernel
 have hg:∀ x∈jp,x≠[]:=by decide +kernel
 have hp:∀ x∈zk,x≠[]:=by decide +kernel
 unfold putB;rcases h with ⟨e,h,_⟩ | ⟨e,h,_⟩ | ⟨e,h⟩ | ⟨e,h⟩ | ⟨e,h,_⟩ | ⟨e,h,_⟩
 all_goals simp only at e h
 all_goals subst e
 ·exact List.length_pos_iff.2 h.1
 ·exact List.length_pos_iff.2 h.1
 ·show 1<=(digB n.toNat).length
  unfold digB byt;rw[List.length_map];exact List.length_pos_iff.2 (ju _)
 ·simp
 ·rcases h with h | h
  ·exact hs _ hw h
  ·exact hs _ hg h
 ·exact hs _ hp h
theorem Qg:∀ ts:List (Int × List UInt8 × Int),(∀ t∈ts,qv t)->ts.length<=(qg ts).length
 | [],_=>Nat.le_refl _
 | [t],h=>qdl (h t (by simp))
 | t::u::ts,h=>by
  have h1:=Qg (u::ts) fun x hx=>h x (List.mem_cons_of_mem _ hx);have h2:=qdl (h t (by simp));simp only[qg,List.length_append,List.length_cons]at h1 ⊢;omega
theorem qhn{F r:List Tn}(hF:AllM F)(h:WrR [] F r):wrO (r.map Tn.b)=wrO (F.map Tn.b):=by
 obtain⟨h1,h2⟩:=h.from0;rcases h2 with rfl | h2
 ·rfl
 have mF:∀ t∈F.map Tn.b,qv t:=fun t ht=>by
  obtain⟨x,hx,rfl⟩:=List.mem_map.1 ht;exact hF x hx
 have mr:∀ t∈r.map Tn.b,qv t:=fun t ht=>by
  obtain⟨x,hx,rfl⟩:=List.mem_map.1 ht;exact hF x (h1.subset hx)
 have l1:=Qg _ mF;have l2:=Qg _ mr;have l3:=h1.length_le;rw[List.length_map]at l1 l2;unfold wrO;rw[if_pos mF,if_pos mr,if_neg (by omega),if_neg (by omega)]
end Go.Proofs.YtfpoelklhekfaaaGreatDoor.Mu
