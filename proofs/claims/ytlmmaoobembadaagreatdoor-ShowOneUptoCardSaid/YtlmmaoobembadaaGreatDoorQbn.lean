import Derived.Test.YtlmmaoobembadaaGreatDoorQbk
import Derived.Test.YtlmmaoobembadaaGreatDoorQbl
import Derived.Test.YtlmmaoobembadaaGreatDoorQbm
open Go.Lib (hid)
namespace Go.Proofs.YtlmmaoobembadaaGreatDoor.Mu
open Go Go.RowKit Go.Shelf
set_option linter.unusedVariables false
set_option maxRecDepth 100000
def Dc.mok(x:Dc):Prop:=(x.tr.isNods/\x.tr.ok/\x.tr.barep)/\∀ c∈x.cs,∀ f∈c.fs,f.tr.bare
theorem RowOf.mem{α:Type}{sz:Nat}{At:World->(Nat->Prop)->Nat->Nat->α->Prop}{w:World}{Ok:Nat->Prop}{A:Option Addr}{n c:Nat}{xs:List α}(h:RowOf sz At w Ok A n c xs){x:α}(hx:x∈xs):∃ b o,At w Ok b o x:=by
 obtain⟨i,hi⟩:=List.getElem?_of_mem hx;have hn:=h.1;have:=(List.getElem?_eq_some_iff.1 hi).1;obtain⟨b,o,_,_,ha⟩:=h.2.2 (by omega);exact⟨b,_,ha i x hi⟩
theorem DcAt.mok{w:World}{Ok:Nat->Prop}{b o:Nat}{x:Dc}(h:DcAt w Ok b o x):x.mok:=by
 obtain⟨_,_,_,_,_,_,⟨CA,cc,_,hc⟩,_,ht⟩:=h;refine⟨⟨TrAt.isNods (by intro e;cases e) _ _ _ ht,TrAt.ok _ _ _ _ ht,TrAt.barep _ _ _ _ (.inl rfl) ht⟩,fun c hcm f hf=>?_⟩;obtain⟨b2,o2,_,_,_,_,A,c2,_,hfs⟩:=hc.mem hcm;obtain⟨b3,o3,_,ht3⟩:=hfs.mem hf;exact TrAt.bare (.inr rfl) _ _ _ ht3
theorem QW{t:Int × List UInt8 × Int}(h:mtB t=true):qx t:=by simpa [mtB] using h
theorem qde{f:Fd}(h:fdMay f=true)(hb:f.tr.bare):f.tr.mayP hTf=true:=by
 unfold fdMay at h;rw[Bool.and_eq_true,Tr.pre_mayP hTf f.tr 60 0 hb]at h;unfold zg at h;rw[Bool.and_eq_true]at h;exact h.2.1
theorem qbo:∀ fs:List Fd,(∀ f∈fs,fdMay f=true/\f.tr.bare)->AllM (fdsK fs)
 | [],_=>AllM.nil
 | f::fs,h=>by
  obtain⟨h1,h2⟩:=h f (List.mem_cons_self ..);have ht:=Zd f.tr [] (qde h1 h2) AllM.nil;have e:f.tr.tyK []=brkL (alnT f.k f.kids.len) (qI f.k f.s f.n f.kids):=by
   show (Tr.nod f.k f.s f.n f.p f.kids .nil .nil).tyK []=_
   rw[zI];simp[Tr.tyK]
  rw[e]at ht;exact (AllM.cons qck ht).app (qbo fs fun g hg=>h g (List.mem_cons_of_mem _ hg))
theorem JG:∀ (cs:List Cd) (ah:List UInt8),qx (tk0 5 ah 0).b->(∀ c∈cs,cdMay c=true/\∀ f∈c.fs,f.tr.bare)->AllM (zF ah cs)
 | [],_,_,_=>AllM.nil
 | c::cs,ah,hah,h=>by
  obtain⟨h1,h2⟩:=h c (List.mem_cons_self ..);unfold cdMay at h1;rw[Bool.and_eq_true,List.all_eq_true]at h1;exact ((hah |> AllM.cons) ((QW h1.2 |> AllM.cons (t:=tk0 2 c.nm 0)) (qbo c.fs fun f hf=>⟨h1.1 f hf,h2 f hf⟩))).app (JG cs [124] (Qr _ (by simp)) fun d hd=>h d (List.mem_cons_of_mem _ hd))
theorem qdN:∀ ps:List (List UInt8),(∀ s∈ps,mtB (1,s,0)=true)->AllM (psK ps)
 | [],_=>AllM.nil
 | s::ps,h=>AllM.cons (t:=tk0 1 s 0) (QW (h s (List.mem_cons_self ..))) (qdN ps fun t ht=>h t (List.mem_cons_of_mem _ ht))
theorem qdd{x:Dc}(h:(x.tr.pre 0).all (ze (hdX hEf hPf) 60)=true)(hm:x.mok):x.tr.mayE hEf hPf=true:=by
 rw[(Tr.pre_mayE hEf hPf x.tr 60 0 hm.1.2.1 hm.1.2.2).1 hm.1.1]at h;unfold zg at h;rw[Bool.and_eq_true]at h;exact h.1
theorem Z9{x:Dc}(h:daMay x=true):(∀ s∈x.ps,mtB (1,s,0)=true)/\(∀ c∈x.cs,cdMay c=true)/\mtB (2,x.nm,0)=true/\0<x.cs.length/\x.rc=false/\x.tr.same ZB=true:=by
 unfold daMay at h;simp only[Bool.and_eq_true,List.all_eq_true,decide_eq_true_eq,Bool.not_eq_true']at h;exact⟨h.1.1.1.1.1,h.1.1.1.1.2,h.1.1.1.2,h.1.1.2,h.1.2,h.2⟩
theorem Ja{x:Dc}(h:dcMay x=true):(x.kd=1/\daMay x=true)∨(x.kd=2/\mtB (1,x.nm,0)=true/\x.ps=[]/\x.cs=[]/\(x.tr.pre 0).all (ze (hdX hEf hPf) 60)=true):=by
 unfold dcMay at h;by_cases h1:x.kd=1
 ·rw[if_pos h1]at h
  exact .inl ⟨h1,h⟩
 rw[if_neg h1]at h;by_cases h2:x.kd=2
 ·rw[if_pos h2]at h
  simp only[Bool.and_eq_true,decide_eq_true_eq]at h;exact .inr ⟨h2,h.1.1.1,List.length_eq_zero_iff.1 h.1.1.2,List.length_eq_zero_iff.1 h.1.2,h.2⟩
 ·rw[if_neg h2]at h
  cases h
theorem qg0{x:Dc}(h:dcMay x=true)(hm:x.mok):AllM (dcK x):=by
 unfold dcK;rcases Ja h with ⟨e,h⟩ | ⟨e,hn,_,_,h⟩
 ·rw[if_pos e]
  obtain⟨h1,h2,h3,_⟩:=Z9 h;exact (AllM.kw (by simp) (AllM.cons (t:=tk0 2 x.nm 0) (QW h3) (qdN x.ps h1))).app (JG x.cs [61] (Qr kwEq (by simp)) fun c hc=>⟨h2 c hc,hm.2 c hc⟩)
 ·rw[if_neg (by rw[e];decide)]
  have h4:=qP x.tr 0 [] (qdd h hm) AllM.nil;have e4:x.tr.exK 0 []=qg x.k x.s x.n x.kids x.arms:=zG x.k x.s x.n x.ep x.kids x.arms;rw[e4]at h4;refine ((AllM.app (F:=qF::(if x.rc then [zZ] else [])) (AllM.kw (by simp) ?_) (AllM.cons (t:=tk0 1 x.nm 0) (QW hn) (AllM.kw (by simp) AllM.nil)))).app h4;split
  ·exact AllM.kw (by simp) AllM.nil
  ·exact AllM.nil
theorem qiw{x:Dc}(h:dcMay x=true)(hm:x.mok)(hg:x.good):x.shw:=by
 unfold Dc.shw;rcases Ja h with ⟨e,h⟩ | ⟨e,hn,_,_,h⟩
 ·rw[if_pos e]
  obtain⟨_,h2,_⟩:=Z9 h;intro c hc;have hgc:=hg.2.2.2 c hc;refine⟨hgc.1,fun f hf=>⟨by have:=hgc.2 f hf;unfold Fd.good at this;omega,?_⟩⟩;have h3:=h2 c hc;unfold cdMay at h3;rw[Bool.and_eq_true,List.all_eq_true]at h3;exact qaN _ (qde (h3.1 f hf) (hm.2 c hc f hf))
 ·rw[if_neg (by rw[e];decide)]
  exact Q6 _ (qdd h hm)
theorem qbn:∀ fs:List Fd,(∀ f∈fs,f.ints)->FitL (fdsK fs)
 | [],_=>FitL.nil
 | f::fs,h=>by
  have ht:=Jv f.tr [] (h f (List.mem_cons_self ..)) FitL.nil;have e:f.tr.tyK []=brkL (alnT f.k f.kids.len) (qI f.k f.s f.n f.kids):=by
   show (Tr.nod f.k f.s f.n f.p f.kids .nil .nil).tyK []=_
   rw[zI];simp[Tr.tyK]
  rw[e]at ht;exact (FitL.cons (qci _) ht).app (qbn fs fun g hg=>h g (List.mem_cons_of_mem _ hg))
theorem qbp{k:Int}{s:List UInt8}(h:s.length<=140737488355328):fitN (tk0 k s 0).s (tk0 k s 0).n:=⟨h,(by decide:(-9223372036854775808:Int)<=0),(by decide:(0:Int)<=9223372036854775807)⟩
theorem JF:∀ (cs:List Cd) (ah:List UInt8),ah.length<=100->(∀ c∈cs,c.nm.length<=140737488355328/\∀ f∈c.fs,f.ints)->FitL (zF ah cs)
 | [],_,_,_=>FitL.nil
 | c::cs,ah,hah,h=>by
  obtain⟨h1,h2⟩:=h c (List.mem_cons_self ..);exact ((FitL.kw hah) ((FitL.cons (qbp h1)) (qbn c.fs h2))).app (JF cs [124] (by simp) fun d hd=>h d (List.mem_cons_of_mem _ hd))
theorem qdM:∀ ps:List (List UInt8),(∀ s∈ps,s.length<=140737488355328)->FitL (psK ps)
 | [],_=>FitL.nil
 | s::ps,h=>FitL.cons (qbp (h s (List.mem_cons_self ..))) (qdM ps fun t ht=>h t (List.mem_cons_of_mem _ ht))
theorem qgZ{x:Dc}(h:x.ints):FitL (dcK x):=by
 obtain⟨h1,h2,h3,h4⟩:=h;unfold dcK;split
 ·exact (FitL.kw (by simp) (FitL.cons (qbp h1) (qdM x.ps h2))).app (JF x.cs [61] (by simp) h3)
 ·have h5:=zq x.tr 0 [] h4 FitL.nil
  have e5:x.tr.exK 0 []=qg x.k x.s x.n x.kids x.arms:=zG x.k x.s x.n x.ep x.kids x.arms;rw[e5]at h5;refine ((FitL.app (F:=qF::(if x.rc then [zZ] else [])) (FitL.kw (by simp) ?_) (FitL.cons (qbp h1) (FitL.kw (by simp) FitL.nil)))).app h5;split
  ·exact FitL.kw (by simp) FitL.nil
  ·exact FitL.nil
def dsK:List Dc->List Tn
 | []=>[]
 | x::xs=>dcK x++dsK xs
theorem qfk{xs:List Dc}{j:Nat}{x:Dc}(h:xs[j]?=some x):dsK (xs.drop j)=dcK x++dsK (xs.drop (j+1)):=by
 obtain⟨h1,h2⟩:=List.getElem?_eq_some_iff.1 h;rw[List.drop_eq_getElem_cons h1,h2];rfl
theorem qaj:∀ xs:List Dc,(∀ x∈xs,dcMay x=true/\x.mok)->AllM (dsK xs)
 | [],_=>AllM.nil
 | x::xs,h=>(qg0 (h x (List.mem_cons_self ..)).1 (h x (List.mem_cons_self ..)).2).app (qaj xs fun y hy=>h y (List.mem_cons_of_mem _ hy))
theorem qc5:∀ xs:List Dc,(∀ x∈xs,x.ints)->FitL (dsK xs)
 | [],_=>FitL.nil
 | x::xs,h=>(qgZ (h x (List.mem_cons_self ..))).app (qc5 xs fun y hy=>h y (List.mem_cons_of_mem _ hy))
noncomputable def tlO (xs:List Dc):List UInt8 × Int:=if xs.all dcMay then wrO ((dsK xs).map Tn.b) else ([],2)
end Go.Proofs.YtlmmaoobembadaaGreatDoor.Mu
namespace Go.Proofs.YtlmmaoobembadaaGreatDoor.Mu
open Go Go.RowKit Go.Shelf
set_option linter.unusedVariables false
def Fd.wf(x:Fd):Prop:=(x.m=1∨x.m=2∨x.m=3)/\x.tr.wfT
def Cd.wf(x:Cd):Prop:=∀ f∈x.fs,f.wf
def Dc.wf(x:Dc):Prop:=(x.kd=1/\x.rc=false/\x.tr.same ZB=true/\∀ c∈x.cs,c.wf)∨(x.kd=2/\x.ps=[]/\x.cs=[]/\x.tr.wfX)
theorem qcj{m m':Int}(h:m=1∨m=2∨m=3)(h':m'=1∨m'=2∨m'=3)(e:qB m=qB m'):m=m':=by
 rcases h with rfl | rfl | rfl <;> rcases h' with rfl | rfl | rfl <;> first | rfl | (simp[qB,tk0]at e)
def QU:Tn:=tk0 5 [100,97,116,97] 0
def NsD(c:List Tn):Prop:=∀ t l,c=t::l->t=QU∨t=qF
def NsF(c:List Tn):Prop:=∀ t l,c=t::l->∀ m,t≠qB m
theorem NsD.f{c:List Tn}(h:NsD c):NsF c:=fun t l e m e2=>by
 rcases h t l e with h | h <;> rw[h]at e2 <;> unfold qB at e2 <;> revert e2 <;> repeat' split
 all_goals simp[QU,qF,tk0]
theorem NsF.bar(c:List Tn):NsF (tk0 5 [124] 0::c):=fun t l e m e2=>by
 simp only[List.cons.injEq]at e;rw[<- e.1]at e2;unfold qB at e2;revert e2;repeat' split;all_goals simp[tk0]
theorem qdg:∀ (fs gs:List Fd) (c c':List Tn),(∀ f∈fs,f.wf)->(∀ f∈gs,f.wf)->NsF c->NsF c'->fdsK fs++c=fdsK gs++c'->lsame Fd.same fs gs=true/\c=c'
 | [],[],c,c',_,_,_,_,h=>⟨rfl,h⟩
 | [],g::gs,c,c',_,_,hc,_,h=>(hc _ _ h g.m rfl).elim
 | f::fs,[],c,c',_,_,_,hc',h=>(hc' _ _ h.symm f.m rfl).elim
 | f::fs,g::gs,c,c',hf,hg,hc,hc',h=>by
  have wf:=hf f (List.mem_cons_self ..);have wg:=hg g (List.mem_cons_self ..);simp only[fdsK,List.cons_append,List.append_assoc,List.cons.injEq]at h;have em:=qcj wf.1 wg.1 h.1;obtain⟨e1,e2,e3,e4,e5⟩:=Jb (injT f.kids) wf.2 wg.2 h.2;obtain⟨e6,e7⟩:=qdg fs gs c c' (fun x hx=>hf x (List.mem_cons_of_mem _ hx)) (fun x hx=>hg x (List.mem_cons_of_mem _ hx)) hc hc' e5;exact⟨by simp[lsame,Fd.same,Fd.tr,Tr.same,em,e1,e2,e3,e4,e6],e7⟩
theorem qbj(cs:List Cd){c:List Tn}(hc:NsD c):NsF (zF [124] cs++c):=by
 cases cs with
 | nil=>exact hc.f
 | cons x xs=>exact NsF.bar _
theorem qbk:∀ (cs ds:List Cd) (ah:List UInt8) (c c':List Tn),ah=[61]∨ah=[124]->(∀ x∈cs,x.wf)->(∀ x∈ds,x.wf)->NsD c->NsD c'->zF ah cs++c=zF ah ds++c'->lsame Cd.same cs ds=true/\c=c'
 | [],[],_,c,c',_,_,_,_,_,h=>⟨rfl,h⟩
 | [],y::ds,ah,c,c',ha,_,_,hc,_,h=>by
  rcases hc _ _ h with e | e <;> rcases ha with rfl | rfl <;> simp[tk0,QU,qF]at e
 | x::cs,[],ah,c,c',ha,_,_,_,hc',h=>by
  rcases hc' _ _ h.symm with e | e <;> rcases ha with rfl | rfl <;> simp[tk0,QU,qF]at e
 | x::cs,y::ds,ah,c,c',ha,hx,hy,hc,hc',h=>by
  simp only[zF,List.cons_append,List.append_assoc,List.cons.injEq,tk0,Tn.mk.injEq,true_and,and_true]at h;obtain⟨e1,e2⟩:=qdg x.fs y.fs _ _ (hx x (List.mem_cons_self ..)) (hy y (List.mem_cons_self ..)) (qbj cs hc) (qbj ds hc') h.2;obtain⟨e3,e4⟩:=qbk cs ds [124] c c' (.inr rfl) (fun x h=>hx x (List.mem_cons_of_mem _ h)) (fun x h=>hy x (List.mem_cons_of_mem _ h)) hc hc' e2;exact⟨by simp[lsame,Cd.same,h.1,e1,e3],e4⟩
theorem qgx:∀ (ps qs:List (List UInt8)) (c c':List Tn),(∀ t l,c=t::l->t.k≠1)->(∀ t l,c'=t::l->t.k≠1)->psK ps++c=psK qs++c'->ps=qs/\c=c'
 | [],[],c,c',_,_,h=>⟨rfl,h⟩
 | [],y::qs,c,c',hc,_,h=>(hc _ _ h rfl).elim
 | x::ps,[],c,c',_,hc',h=>(hc' _ _ h.symm rfl).elim
 | x::ps,y::qs,c,c',hc,hc',h=>by
  simp only[psK,List.cons_append,List.cons.injEq,tk0,Tn.mk.injEq,true_and,and_true]at h;obtain⟨e1,e2⟩:=qgx ps qs c c' hc hc' h.2;exact⟨by rw[h.1,e1],e2⟩
theorem qcY(cs:List Cd){c:List Tn}(hc:NsD c):∀ t l,zF [61] cs++c=t::l->t.k≠1:=by
 intro t l h;cases cs with
 | nil=>rcases hc t l h with rfl | rfl <;> decide
 | cons x xs=>
  simp only[zF,List.cons_append,List.cons.injEq]at h;rw[<- h.1];decide
theorem NsD.x{c:List Tn}(h:NsD c):NsX c:=fun t l e=>by
 rcases h t l e with rfl | rfl
 ·exact⟨by simp[stA,QU,tk0],fun h=>by revert h;simp only[QU,tk0];decide⟩
 ·exact⟨by simp[stA,qF,tk0],fun h=>by revert h;simp only[qF,tk0];decide⟩
theorem qe8{f g:Tr}(h:f.same ZB=true)(h':g.same ZB=true):f.same g=true:=by
 cases f <;> cases g <;> simp[Tr.same,ZB]at h h' ⊢
 obtain⟨⟨⟨⟨⟨rfl,rfl⟩,rfl⟩,h1⟩,h2⟩,h3⟩:=h;obtain⟨⟨⟨⟨⟨rfl,rfl⟩,rfl⟩,h4⟩,h5⟩,h6⟩:=h';have nn:∀ x:Tr,x.same .nil=true->x=.nil:=fun x hx=>by cases x <;> simp_all [Tr.same]
 rw[nn _ h1,nn _ h2,nn _ h3,nn _ h4,nn _ h5,nn _ h6];simp[Tr.same]
theorem qai(x:Dc):∃ l,dcK x=QU::l∨dcK x=qF::l:=by
 unfold dcK;split
 ·exact⟨_,.inl rfl⟩
 ·exact⟨_,.inr rfl⟩
theorem qgl(xs:List Dc):NsD (dsK xs):=fun t l h=>by
 cases xs with
 | nil=>cases h
 | cons x xs=>
  obtain⟨m,e | e⟩:=qai x <;> rw[dsK,e]at h <;> simp only[List.cons_append,List.cons.injEq]at h
  ·exact .inl h.1.symm
  ·exact .inr h.1.symm
theorem qiv{x y:Dc}(hx:x.wf)(hy:y.wf){c c':List Tn}(hc:NsD c)(hc':NsD c')(h:dcK x++c=dcK y++c'):Dc.same x y=true/\c=c':=by
 rcases hx with ⟨hx,rx,tx,wx⟩ | ⟨hx,px,cx,wx⟩ <;> rcases hy with ⟨hy,ry,ty,wy⟩ | ⟨hy,py,cy,wy⟩
 ·simp only[dcK,if_pos hx,if_pos hy,JH,List.cons_append,List.append_assoc,List.cons.injEq,true_and,tk0,Tn.mk.injEq,and_true]at h
  obtain⟨e1,e2⟩:=qgx _ _ _ _ (qcY x.cs hc) (qcY y.cs hc') h.2;obtain⟨e3,e4⟩:=qbk _ _ _ _ _ (.inl rfl) wx wy hc hc' e2;exact⟨by simp[Dc.same,hx,hy,h.1,e1,e3,rx,ry,qe8 tx ty],e4⟩
 ·simp[dcK,hx,hy,JH,qF,tk0]at h
 ·simp[dcK,hx,hy,JH,qF,tk0]at h
 ·simp only[dcK,if_neg (show ¬ x.kd=1 by omega),if_neg (show ¬ y.kd=1 by omega),List.cons_append,List.append_assoc,List.nil_append,List.cons.injEq,true_and]at h
  have hr:x.rc=y.rc/\x.nm=y.nm/\qg x.k x.s x.n x.kids x.arms++c=qg y.k y.s y.n y.kids y.arms++c':=by
   cases e:x.rc <;> cases e':y.rc <;> simp[e,e',zZ,kwEq,tk0]at h
   ·exact⟨rfl,h.1,h.2⟩
   ·exact⟨rfl,h.1,h.2⟩
  obtain⟨e1,e2,e3,e4,e5,e6⟩:=oxI (allO x.kids) (allO x.arms) _ _ _ x.ep y.ep _ _ c c' wx wy hc.x hc'.x hr.2.2;exact⟨by simp[Dc.same,hx,hy,hr.1,hr.2.1,px,py,cx,cy,lsame,Dc.tr,Tr.same,e1,e2,e3,e4,e5],e6⟩
theorem qgm:∀ xs ys:List Dc,(∀ x∈xs,x.wf)->(∀ y∈ys,y.wf)->dsK xs=dsK ys->lsame Dc.same xs ys=true
 | [],[],_,_,_=>rfl
 | [],y::ys,_,_,h=>by obtain⟨l,e | e⟩:=qai y <;> rw[dsK,dsK,e]at h <;> cases h
 | x::xs,[],_,_,h=>by obtain⟨l,e | e⟩:=qai x <;> rw[dsK,dsK,e]at h <;> cases h
 | x::xs,y::ys,hx,hy,h=>by
  obtain⟨e1,e2⟩:=qiv (hx x (List.mem_cons_self ..)) (hy y (List.mem_cons_self ..)) (qgl xs) (qgl ys) h;have:=qgm xs ys (fun z hz=>hx z (List.mem_cons_of_mem _ hz)) (fun z hz=>hy z (List.mem_cons_of_mem _ hz)) e2;simp[lsame,e1,this]
theorem qh1{ts us:List (Int × List UInt8 × Int)}(h:(wrO ts).2=0)(h':(wrO us).2=0)(e:(wrO ts).1=(wrO us).1):ts=us:=by
 obtain⟨cs,hc,_,_,h1⟩:=Qa h;obtain⟨ds,hd,_,_,h2⟩:=Qa h';rw[e]at hc h1;obtain⟨rfl,_⟩:=hc.uniq hd;exact h1.symm.trans h2
theorem mt_n{k:Int}{s:List UInt8}{n:Int}(h:mtB (k,s,n)=true):(k=3/\s=[])∨(k≠3/\n=0):=by
 have h:=QW h;simp only[qx]at h;rcases h with ⟨e,_,h⟩ | ⟨e,_,h⟩ | ⟨e,_,_,h⟩ | ⟨e,_,h⟩ | ⟨e,_,h⟩ | ⟨e,_,h⟩
 ·exact .inr ⟨by omega,h⟩
 ·exact .inr ⟨by omega,h⟩
 ·exact .inl ⟨e,h⟩
 ·exact .inr ⟨by omega,h⟩
 ·exact .inr ⟨by omega,h⟩
 ·exact .inr ⟨by omega,h⟩
theorem qan{t c:Int}{s:List UInt8}{n:Int}{l:Nat}(h:keepB t c s n l=true):(c = -1∨c=(l:Int))/\((t=0/\s=[]/\n=0)∨(t=3/\s=[])∨(t≠0/\t≠3/\n=0)):=by
 unfold keepB at h;split at h
 ·cases h
 ·rename_i hc
  refine⟨by omega,?_⟩;split at h
  ·rename_i h0
   simp only[Bool.and_eq_true,decide_eq_true_eq]at h;exact .inl ⟨h0,h⟩
  ·rename_i h0
   rcases mt_n h with h | h
   ·exact .inr (.inl h)
   ·exact .inr (.inr ⟨h0,h.1,h.2⟩)
theorem qe2:∀ f:Tr,f.bare->f.mayP hPf=true->f.wfP
 | .nil,_,_=>trivial
 | .arm ..,h,_=>h.elim
 | .nod k s n p kids arms r,hb,h=>by
  simp only[Tr.mayP,Bool.and_eq_true]at h;obtain⟨⟨h1,h2⟩,h3⟩:=h;refine⟨?_,hb.1,qe2 kids hb.2.1 h2,qe2 r hb.2.2 h3⟩;simp only[hPf,Bool.and_eq_true]at h1;obtain⟨h0,h1⟩:=h1;have h4:=qan h1;have hk:k=1∨k=2∨k=3∨k=4∨k=5:=by
   unfold paR at h0;by_cases e1:k=1;exact .inl e1
   by_cases e2:k=2;exact .inr (.inl e2)
   by_cases e3:k=3;exact .inr (.inr (.inl e3))
   by_cases e4:k=4;exact .inr (.inr (.inr (.inl e4)))
   by_cases e5:k=5;exact .inr (.inr (.inr (.inr e5)))
   simp[e1,e2,e3,e4,e5]at h0
  rcases hk with rfl | rfl | rfl | rfl | rfl <;> simp[paR]at h4
  ·exact .inl ⟨rfl,h4.2,Tr.same_nil _ (by omega)⟩
  ·exact .inr (.inl ⟨rfl,h4.2.1,h4.2.2,Tr.same_nil _ (by omega)⟩)
  ·exact .inr (.inr (.inl ⟨rfl,h4.2,Tr.same_nil _ (by omega)⟩))
  ·exact .inr (.inr (.inr (.inl ⟨rfl,h4.2,Tr.same_nil _ (by omega)⟩)))
  ·exact .inr (.inr (.inr (.inr ⟨rfl,h4⟩)))
theorem qe3:∀ f:Tr,f.bare->f.mayP hTf=true->f.wfT
 | .nil,_,_=>trivial
 | .arm ..,h,_=>h.elim
 | .nod k s n p kids arms r,hb,h=>by
  simp only[Tr.mayP,Bool.and_eq_true]at h;obtain⟨⟨h1,h2⟩,h3⟩:=h;refine⟨?_,hb.1,qe3 kids hb.2.1 h2,qe3 r hb.2.2 h3⟩;simp only[hTf,Bool.and_eq_true]at h1;obtain⟨hm,h0,h1⟩:=h1;have h4:=qan h1;have hk:k=1∨k=2∨k=3:=by
   unfold tyR at h0;by_cases e1:k=1;exact .inl e1
   by_cases e2:k=2;exact .inr (.inl e2)
   by_cases e3:k=3;exact .inr (.inr e3)
   simp[e1,e2,e3]at h0
  rcases hk with rfl | rfl | rfl <;> simp[tyR]at h4 <;> simp[mltB]at hm
  ·exact .inl ⟨rfl,hm,Tr.same_nil _ (by omega)⟩
  ·exact .inr (.inl ⟨rfl,hm⟩)
  ·exact .inr (.inr ⟨rfl,h4.2,by omega,by omega⟩)
theorem JR{r:Tr}(h:r.isArms):r.armsOr:=by
 cases r with
 | nil=>exact .inl rfl
 | nod=>exact h.elim
 | arm k s n p a e q=>exact .inr ⟨k,s,n,p,a,e,q,rfl⟩
theorem ZU:∀ f:Tr,f.ok->f.barep->f.mayE hEf hPf=true->(f.isNods∨f.isArms)->f.wfX
 | .nil,_,_,_,_=>trivial
 | .arm k s n p kids e r,hk,hb,h,hs=>by
  have ha:(Tr.arm k s n p kids e r).isArms:=hs.resolve_left (fun h=>h);simp only[Tr.mayE,Bool.and_eq_true]at h;obtain⟨⟨⟨h1,h2⟩,h3⟩,h4⟩:=h;refine⟨?_,ZU e hk.2.2.2.1 hb.2.1 h3 (.inl hk.2.2.1),hk.2.2.1,ha.1,ZU r hk.2.2.2.2 hb.2.2 h4 (.inr ha.2),JR ha.2⟩;exact qe2 _ ⟨rfl,hb.1,trivial⟩ (by simp[Tr.mayP,h1,h2])
 | .nod k s n p kids arms r,hk,hb,h,hs=>by
  have hn:(Tr.nod k s n p kids arms r).isNods:=hs.resolve_right (fun h=>h);simp only[Tr.mayE,Bool.and_eq_true]at h;obtain⟨⟨⟨h1,h2⟩,h3⟩,h4⟩:=h;simp only[hEf,Bool.and_eq_true,beq_iff_eq]at h1;obtain⟨h0,h1,ha⟩:=h1;have h5:=qan h1;have hka:k≠8->arms=.nil:=fun e=>Tr.same_nil _ (by simp[e]at ha;omega);have hkk:k=1∨k=2∨k=3∨k=4∨k=5∨k=6∨k=7∨k=8∨k=9∨k=10:=by
   unfold exR at h0;by_cases e1:k=1;omega
   by_cases e2:k=2;omega
   by_cases e3:k=3;omega
   by_cases e4:k=4;omega
   by_cases e5:k=5;omega
   by_cases e6:k=6;omega
   by_cases e7:k=7;omega
   by_cases e8:k=8;omega
   by_cases e9:k=9;omega
   by_cases e10:k=10;omega
   simp[e1,e2,e3,e4,e5,e6,e7,e8,e9,e10]at h0
  have hz:∀ m:Nat,(((m:Nat):Int)=(kids.len:Int))->kids.len=m:=fun m e=>by omega
  refine⟨?_,?_,hk.1,ZU kids hk.2.1 hb.1 h2 (.inl hk.1),ZU arms hk.2.2.2.1 hb.2.1 h3 (.inr hk.2.2.1),fun _=>JR hk.2.2.1,ZU r hk.2.2.2.2 hb.2.2 h4 (.inl hn),hn⟩
  ·rcases hkk with rfl | rfl | rfl | rfl | rfl | rfl | rfl | rfl | rfl | rfl
   case inr.inr.inr.inr.inr.inr.inr.inr.inr=>
    by_cases e:btwB s=true <;> simp[exR,e]at h5
    ·exact .inr h5.2
    ·exact .inr h5
   all_goals simp[exR]at h5;first | exact .inl rfl | exact .inr h5.2 | exact .inr h5.2.2 | exact .inr h5
  ·rcases hkk with rfl | rfl | rfl | rfl | rfl | rfl | rfl | rfl | rfl | rfl
   case inr.inr.inr.inr.inr.inr.inr.inr.inr=>
    refine .inr (.inr (.inr (.inr (.inr (.inr (.inr (.inr (.inr ⟨rfl,hka (by decide),fun e=>?_⟩))))))));simp[exR,e]at h5;omega
   all_goals simp[exR]at h5
   ·exact .inl ⟨rfl,Tr.same_nil _ (by omega),hka (by decide)⟩
   ·exact .inr (.inl ⟨rfl,h5.2,Tr.same_nil _ (by omega),hka (by decide)⟩)
   ·exact .inr (.inr (.inl ⟨rfl,Tr.same_nil _ (by omega),hka (by decide)⟩))
   ·exact .inr (.inr (.inr (.inl ⟨rfl,by omega,hka (by decide)⟩)))
   ·exact .inr (.inr (.inr (.inr (.inl ⟨rfl,h5.2.1,by omega,hka (by decide)⟩))))
   ·exact .inr (.inr (.inr (.inr (.inr (.inl ⟨rfl,by omega,hka (by decide)⟩)))))
   ·exact .inr (.inr (.inr (.inr (.inr (.inr (.inl ⟨rfl,by omega,hka (by decide)⟩))))))
   ·exact .inr (.inr (.inr (.inr (.inr (.inr (.inr (.inl ⟨rfl,h5.2.1,by omega⟩)))))))
   ·exact .inr (.inr (.inr (.inr (.inr (.inr (.inr (.inr (.inl ⟨rfl,hka (by decide)⟩))))))))
theorem smP:∀ f g:Tr,f.same g=true->f.len=g.len/\f.patK=g.patK/\(∀ hP,f.mayP hP=g.mayP hP)/\f.depth=g.depth
 | .nil,.nil,_=>⟨rfl,rfl,fun _=>rfl,rfl⟩
 | .nod k s n p a b r,.nod k' s' n' p' a' b' r',h=>by
  simp only[Tr.same,Bool.and_eq_true,decide_eq_true_eq]at h;obtain⟨⟨⟨⟨⟨rfl,rfl⟩,rfl⟩,h1⟩,h2⟩,h3⟩:=h;obtain⟨l1,k1,m1,d1⟩:=smP a a' h1;obtain⟨l2,_,_,d2⟩:=smP b b' h2;obtain⟨l3,k3,m3,d3⟩:=smP r r' h3;exact⟨by simp only[Tr.len,l3],by simp only[zV,l1,k1,k3],fun hP=>by simp only[Tr.mayP,l1,m1,m3],by simp only[Tr.depth,d1,d2,d3]⟩
 | .arm k s n p a b r,.arm k' s' n' p' a' b' r',h=>by
  simp only[Tr.same,Bool.and_eq_true,decide_eq_true_eq]at h;obtain⟨⟨⟨⟨⟨rfl,rfl⟩,rfl⟩,h1⟩,h2⟩,h3⟩:=h;obtain⟨l1,k1,m1,d1⟩:=smP a a' h1;obtain⟨l2,_,_,d2⟩:=smP b b' h2;obtain⟨l3,k3,m3,d3⟩:=smP r r' h3;exact⟨by simp only[Tr.len,l3],rfl,fun hP=>rfl,by simp only[Tr.depth,d1,d2,d3]⟩
 | .nil,.nod ..,h=>by simp[Tr.same]at h
 | .nil,.arm ..,h=>by simp[Tr.same]at h
 | .nod ..,.nil,h=>by simp[Tr.same]at h
 | .nod ..,.arm ..,h=>by simp[Tr.same]at h
 | .arm ..,.nil,h=>by simp[Tr.same]at h
 | .arm ..,.nod ..,h=>by simp[Tr.same]at h
theorem smT:∀ f g:Tr,f.same g=true->∀ sep,f.tyK sep=g.tyK sep
 | .nil,.nil,_,_=>rfl
 | .nod k s n p a b r,.nod k' s' n' p' a' b' r',h,sep=>by
  have hl:=(smP _ _ h)
  simp only[Tr.same,Bool.and_eq_true,decide_eq_true_eq]at h;obtain⟨⟨⟨⟨⟨rfl,rfl⟩,rfl⟩,h1⟩,h2⟩,h3⟩:=h;simp only[zI,qI,(smP a a' h1).1,smT a a' h1,smT r r' h3]
 | .arm ..,.arm ..,_,_=>rfl
 | .nil,.nod ..,h,_=>by simp[Tr.same]at h
 | .nil,.arm ..,h,_=>by simp[Tr.same]at h
 | .nod ..,.nil,h,_=>by simp[Tr.same]at h
 | .nod ..,.arm ..,h,_=>by simp[Tr.same]at h
 | .arm ..,.nil,h,_=>by simp[Tr.same]at h
 | .arm ..,.nod ..,h,_=>by simp[Tr.same]at h
theorem smX:∀ f g:Tr,f.same g=true->(∀ md sep,f.exK md sep=g.exK md sep)/\(∀ hE hP,f.mayE hE hP=g.mayE hE hP)
 | .nil,.nil,_=>⟨fun _ _=>rfl,fun _ _=>rfl⟩
 | .nod k s n p a b r,.nod k' s' n' p' a' b' r',h=>by
  simp only[Tr.same,Bool.and_eq_true,decide_eq_true_eq]at h;obtain⟨⟨⟨⟨⟨rfl,rfl⟩,rfl⟩,h1⟩,h2⟩,h3⟩:=h;exact⟨fun md sep=>by simp only[qO,qg,(smP a a' h1).1,(smX a a' h1).1,(smX b b' h2).1,(smX r r' h3).1],fun hE hP=>by simp only[Tr.mayE,(smP a a' h1).1,(smP b b' h2).1,(smX a a' h1).2,(smX b b' h2).2,(smX r r' h3).2]⟩
 | .arm k s n p a b r,.arm k' s' n' p' a' b' r',h=>by
  simp only[Tr.same,Bool.and_eq_true,decide_eq_true_eq]at h;obtain⟨⟨⟨⟨⟨rfl,rfl⟩,rfl⟩,h1⟩,h2⟩,h3⟩:=h;exact⟨fun md sep=>by simp only[exK_arm,(smP a a' h1).2.1,(smX b b' h2).1,(smX r r' h3).1],fun hE hP=>by simp only[Tr.mayE,(smP a a' h1).1,(smP a a' h1).2.2.1,(smX b b' h2).2,(smX r r' h3).2]⟩
 | .nil,.nod ..,h=>by simp[Tr.same]at h
 | .nil,.arm ..,h=>by simp[Tr.same]at h
 | .nod ..,.nil,h=>by simp[Tr.same]at h
 | .nod ..,.arm ..,h=>by simp[Tr.same]at h
 | .arm ..,.nil,h=>by simp[Tr.same]at h
 | .arm ..,.nod ..,h=>by simp[Tr.same]at h
theorem qix{x:Dc}(h:dcMay x=true)(hm:x.mok):x.wf:=by
 rcases Ja h with ⟨e,h⟩ | ⟨e,_,h1,h2,h⟩
 ·obtain⟨_,h2,_,_,h3,h4⟩:=Z9 h
  refine .inl ⟨e,h3,h4,fun c hc f hf=>?_⟩;have h5:=h2 c hc;simp only[cdMay,Bool.and_eq_true,List.all_eq_true]at h5;have h6:=h5.1 f hf;refine⟨?_,qe3 _ (hm.2 c hc f hf) (qde h6 (hm.2 c hc f hf))⟩;simp only[fdMay,Bool.and_eq_true,mltB,Bool.or_eq_true,decide_eq_true_eq]at h6;rcases h6.1 with (h | h) | h
  ·exact .inl h
  ·exact .inr (.inl h)
  ·exact .inr (.inr h)
 ·exact .inr ⟨e,h1,h2,ZU _ hm.1.2.1 hm.1.2.2 (qdd h hm) (.inl hm.1.1)⟩
def P0(F:List Tn):Prop:=∀ t∈F,t.p=⟨0,0,0⟩
theorem P0.nil:P0 []:=fun _ h=>by cases h
theorem P0.cons{t:Tn}{F:List Tn}(ht:t.p=⟨0,0,0⟩)(h:P0 F):P0 (t::F):=fun u hu=>by
 rcases List.mem_cons.1 hu with rfl | hu
 ·exact ht
 ·exact h u hu
theorem P0.app{F G:List Tn}(h:P0 F)(h':P0 G):P0 (F++G):=fun u hu=>by
 rcases List.mem_append.1 hu with hu | hu
 ·exact h u hu
 ·exact h' u hu
theorem P0.brk{a:Bool}{F:List Tn}(h:P0 F):P0 (brkL a F):=by
 unfold brkL;split
 ·exact h
 ·exact .cons rfl (h.app (.cons rfl .nil))
theorem P0.brkM{md:Nat}{k:Int}{l:Nat}{F:List Tn}(h:P0 F):P0 (brkM md k l F):=by
 unfold Mu.brkM;repeat' split
 ·exact h
 ·exact h.brk
 ·exact h.brk
theorem qfc(m:Int):(qr m).p=⟨0,0,0⟩:=by
 unfold qr;repeat' split
 all_goals rfl
theorem qfK(m:Int):(qB m).p=⟨0,0,0⟩:=by
 unfold qB;repeat' split
 all_goals rfl
theorem qbu{k:Int}{s:List UInt8}{n:Int}{K:List Tn}(h:P0 K):P0 (qJ k s n K):=by
 unfold qJ;split
 ·exact .cons rfl .nil
 ·exact .cons rfl h
theorem qdF:∀ f:Tr,P0 f.patK
 | .nil=> .nil
 | .arm ..=> .nil
 | .nod k s n p kids arms r=>by rw[zV];exact (qbu (qdF kids)).brk.app (qdF r)
theorem qf8:∀ (f:Tr) (sep:List Tn),P0 sep->P0 (f.tyK sep)
 | .nil,_,_=> .nil
 | .arm ..,_,_=> .nil
 | .nod k s n p kids arms r,sep,hs=>by
  rw[zI];refine (P0.app (P0.brk ?_) hs).app (qf8 r _ .nil);unfold qI;split
  ·exact qf8 kids _ (.cons (qfc n) .nil)
  ·exact .cons rfl (qf8 kids _ .nil)
theorem Qw:∀ (f:Tr) (md:Nat) (sep:List Tn),P0 sep->P0 (f.exK md sep)
 | .nil,_,_,_=> .nil
 | .arm k s n p kids e r,md,sep,hs=>by
  rw[exK_arm];exact (((hs.app (qbu (qdF kids))).app (.cons rfl .nil)).app (Qw e _ _ .nil)).app (Qw r _ _ (.cons rfl .nil))
 | .nod k s n p kids arms r,md,sep,hs=>by
  rw[qO];refine (P0.app (P0.brkM ?_) hs).app (Qw r _ _ .nil);unfold qg;repeat' split
  ·exact .cons rfl (.cons rfl (.cons rfl (Qw kids _ _ .nil)))
  ·exact .cons rfl (.cons rfl (.cons rfl (Qw kids _ _ (.cons rfl .nil))))
  ·exact .cons rfl (.cons rfl (.cons rfl (.cons rfl (Qw kids _ _ (.cons rfl .nil)))))
  ·exact (((P0.cons rfl (Qw kids _ _ .nil)).app (.cons rfl .nil)).app (Qw arms _ _ (.cons rfl .nil))).app (.cons rfl .nil)
  ·exact Qw kids _ _ .nil
  ·exact Qw kids _ _ (.cons rfl .nil)
  ·exact .cons rfl (Qw kids _ _ .nil)
theorem qhi(k:Int)(s:List UInt8)(n:Int)(kids arms:Tr):P0 (qg k s n kids arms):=by
 have h:=Qw (.nod k s n ⟨0,0,0⟩ kids arms .nil) 0 [] .nil;rw[qO]at h;intro t ht;exact h t (by simp[Mu.brkM,ht])
theorem qgp:∀ fs:List Fd,P0 (fdsK fs)
 | []=> .nil
 | f::fs=>by
  have h:=qf8 (.nod f.k f.s f.n f.p f.kids .nil .nil) [] .nil;rw[zI]at h;refine .cons (qfK _) (P0.app ?_ (qgp fs));intro t ht;exact h t (by simp[ht])
theorem qcZ:∀ (cs:List Cd) (ah:List UInt8),P0 (zF ah cs)
 | [],_=> .nil
 | c::cs,ah=> .cons rfl (.cons rfl ((qgp c.fs).app (qcZ cs _)))
theorem qiT:∀ ps:List (List UInt8),P0 (psK ps)
 | []=> .nil
 | s::ps=> .cons rfl (qiT ps)
theorem qja(x:Dc):P0 (dcK x):=by
 unfold dcK;split
 ·exact .cons rfl (.cons rfl ((qiT x.ps).app (qcZ x.cs _)))
 ·refine (P0.app (F:=qF::(if x.rc then [zZ] else [])) ?_ (.cons rfl (.cons rfl .nil))).app (qhi _ _ _ _ _)
  split
  ·exact .cons rfl (.cons rfl .nil)
  ·exact .cons rfl .nil
theorem qc6:∀ xs:List Dc,P0 (dsK xs)
 | []=> .nil
 | x::xs=>(qja x).app (qc6 xs)
theorem qhU{xs ys:List Dc}(hx:∀ x∈xs,x.mok)(hy:∀ y∈ys,y.mok)(h:(tlO xs).2=0)(h':(tlO ys).2=0)(e:(tlO xs).1=(tlO ys).1):lsame Dc.same xs ys=true:=by
 unfold tlO at h h' e;by_cases hm:xs.all dcMay=true
 ·by_cases hm':ys.all dcMay=true
  ·rw[if_pos hm]at h e
   rw[if_pos hm']at h' e;have h1:=qh1 h h' e;have hb:dsK xs=dsK ys:=by
    have p0:∀ ts:List Tn,(∀ t∈ts,t.p=⟨0,0,0⟩)->∀ us:List Tn,(∀ t∈us,t.p=⟨0,0,0⟩)->ts.map Tn.b=us.map Tn.b->ts=us:=by
     intro ts;induction ts with
     | nil=>intro _ us _ h;cases us with | nil=>rfl | cons=>cases h
     | cons t ts ih=>
      intro ht us hu h;cases us with
      | nil=>cases h
      | cons u us=>
       simp only[List.map_cons,List.cons.injEq,Tn.b,Prod.mk.injEq]at h;rw[ih (fun t h=>ht t (List.mem_cons_of_mem _ h)) us (fun t h=>hu t (List.mem_cons_of_mem _ h)) h.2];have a:=ht t (List.mem_cons_self ..);have b:=hu u (List.mem_cons_self ..);cases t;cases u;simp_all
    exact p0 _ (qc6 xs) _ (qc6 ys) h1
   exact qgm xs ys (fun x h=>qix (List.all_eq_true.1 hm x h) (hx x h)) (fun y h=>qix (List.all_eq_true.1 hm' y h) (hy y h)) hb
  ·rw[if_neg hm']at h';exact absurd h' (by decide)
 ·rw[if_neg hm]at h;exact absurd h (by decide)
theorem smFs:∀ fs gs:List Fd,lsame Fd.same fs gs=true->(∀ f∈fs,f.tr.bare)->(∀ g∈gs,g.tr.bare)->fdsK fs=fdsK gs/\fs.all fdMay=gs.all fdMay
 | [],[],_,_,_=>⟨rfl,rfl⟩
 | [],_::_,h,_,_=>by cases h
 | _::_,[],h,_,_=>by cases h
 | f::fs,g::gs,h,hf,hg=>by
  simp only[lsame,Fd.same,Bool.and_eq_true,decide_eq_true_eq]at h;obtain⟨⟨hm,ht⟩,h⟩:=h;obtain⟨h1,h2⟩:=smFs fs gs h (fun x h=>hf x (List.mem_cons_of_mem _ h)) (fun x h=>hg x (List.mem_cons_of_mem _ h));have hp:=smP _ _ ht;have b1:=hf f (List.mem_cons_self ..);have b2:=hg g (List.mem_cons_self ..);have hk:=smT _ _ ht [];simp only[Fd.tr,zI,Tr.tyK,List.append_nil]at hk;refine⟨by simp only[fdsK,hm,hk,h1],?_⟩;simp only[List.all_cons,h2];unfold fdMay;rw[Tr.pre_mayP hTf f.tr 60 0 b1,Tr.pre_mayP hTf g.tr 60 0 b2,hp.2.2.1,hp.2.2.2,hm]
theorem smCs:∀ cs ds:List Cd,lsame Cd.same cs ds=true->(∀ c∈cs,∀ f∈c.fs,f.tr.bare)->(∀ c∈ds,∀ f∈c.fs,f.tr.bare)->(∀ ah,zF ah cs=zF ah ds)/\cs.all cdMay=ds.all cdMay/\cs.length=ds.length
 | [],[],_,_,_=>⟨fun _=>rfl,rfl,rfl⟩
 | [],_::_,h,_,_=>by cases h
 | _::_,[],h,_,_=>by cases h
 | c::cs,d::ds,h,hc,hd=>by
  simp only[lsame,Cd.same,Bool.and_eq_true,decide_eq_true_eq]at h;obtain⟨⟨hn,hf⟩,h⟩:=h;obtain⟨h1,h2,h3⟩:=smCs cs ds h (fun x h=>hc x (List.mem_cons_of_mem _ h)) (fun x h=>hd x (List.mem_cons_of_mem _ h));obtain⟨h4,h5⟩:=smFs c.fs d.fs hf (hc c (List.mem_cons_self ..)) (hd d (List.mem_cons_self ..));refine⟨fun ah=>by simp only[zF,hn,h4,h1],?_,by simp only[List.length_cons,h3]⟩;simp only[List.all_cons,h2,cdMay,hn,h5]
theorem qhQ{f g h:Tr}:f.same g=true->f.same h=g.same h:=by
 induction f generalizing g h with
 | nil=>intro e;cases g <;> simp[Tr.same]at e <;> rfl
 | nod k s n p a b r ia ib ir=>
  intro e;cases g with
  | nil=>simp[Tr.same]at e
  | arm=>simp[Tr.same]at e
  | nod k' s' n' p' a' b' r'=>
   simp only[Tr.same,Bool.and_eq_true,decide_eq_true_eq]at e;obtain⟨⟨⟨⟨⟨rfl,rfl⟩,rfl⟩,h1⟩,h2⟩,h3⟩:=e;cases h with
   | nil=>rfl
   | arm=>rfl
   | nod=>simp only[Tr.same,ia h1,ib h2,ir h3]
 | arm k s n p a b r ia ib ir=>
  intro e;cases g with
  | nil=>simp[Tr.same]at e
  | nod=>simp[Tr.same]at e
  | arm k' s' n' p' a' b' r'=>
   simp only[Tr.same,Bool.and_eq_true,decide_eq_true_eq]at e;obtain⟨⟨⟨⟨⟨rfl,rfl⟩,rfl⟩,h1⟩,h2⟩,h3⟩:=e;cases h with
   | nil=>rfl
   | nod=>rfl
   | arm=>simp only[Tr.same,ia h1,ib h2,ir h3]
theorem smDc{x y:Dc}(h:Dc.same x y=true)(hx:x.mok)(hy:y.mok):dcK x=dcK y/\dcMay x=dcMay y:=by
 simp only[Dc.same,Bool.and_eq_true,decide_eq_true_eq]at h;obtain⟨⟨⟨⟨⟨h1,h2⟩,h3⟩,h4⟩,h5⟩,h6⟩:=h;obtain⟨c1,c2,c3⟩:=smCs x.cs y.cs h4 hx.2 hy.2;have hp:=smP _ _ h6;have hX:=smX _ _ h6;have hk:=hX.1 0 [];simp only[Dc.tr,qO,Mu.brkM,if_true,zr,List.append_nil]at hk;refine⟨by simp only[dcK,JH,h1,h2,h3,c1,h5,hk],?_⟩;simp only[dcMay,daMay,h1,h2,h3,c2,c3,h5,qhQ (h:=ZB) h6];rw[(Tr.pre_mayE hEf hPf x.tr 60 0 hx.1.2.1 hx.1.2.2).1 hx.1.1,(Tr.pre_mayE hEf hPf y.tr 60 0 hy.1.2.1 hy.1.2.2).1 hy.1.1,hX.2,hp.2.2.2]
theorem smDs:∀ xs ys:List Dc,lsame Dc.same xs ys=true->(∀ x∈xs,x.mok)->(∀ y∈ys,y.mok)->dsK xs=dsK ys/\xs.all dcMay=ys.all dcMay
 | [],[],_,_,_=>⟨rfl,rfl⟩
 | [],_::_,h,_,_=>by cases h
 | _::_,[],h,_,_=>by cases h
 | x::xs,y::ys,h,hx,hy=>by
  simp only[lsame,Bool.and_eq_true]at h;obtain⟨h1,h2⟩:=smDs xs ys h.2 (fun z h=>hx z (List.mem_cons_of_mem _ h)) (fun z h=>hy z (List.mem_cons_of_mem _ h));obtain⟨h3,h4⟩:=smDc h.1 (hx x (List.mem_cons_self ..)) (hy y (List.mem_cons_self ..));exact⟨by simp only[dsK,h1,h3],by simp only[List.all_cons,h2,h4]⟩
theorem qf7{xs ys:List Dc}(h:lsame Dc.same xs ys=true)(hx:∀ x∈xs,x.mok)(hy:∀ y∈ys,y.mok):tlO xs=tlO ys:=by
 obtain⟨h1,h2⟩:=smDs xs ys h hx hy;simp only[tlO,h1,h2]
theorem qeQ(xs:List Dc)(h:(tlO xs).2≠0):(tlO xs).1=[]:=by
 unfold tlO at h ⊢;by_cases hm:xs.all dcMay=true
 ·rw[if_pos hm]at h ⊢
  unfold wrO at h ⊢;by_cases h1:∀ t∈(dsK xs).map Tn.b,qx t
  ·rw[if_pos h1]at h ⊢
   by_cases h2:(qp ((dsK xs).map Tn.b)).length<=4000
   ·rw[if_pos h2]at h;exact absurd rfl h
   ·rw[if_neg h2]
  ·rw[if_neg h1]
 ·rw[if_neg hm]
end Go.Proofs.YtlmmaoobembadaaGreatDoor.Mu
namespace Go.Proofs.YtlmmaoobembadaaGreatDoor.Mu
open Go Go.RowKit Go.Shelf
set_option linter.unusedVariables false
set_option maxRecDepth 100000
def p00:Pl:=⟨0,0,0⟩
def tO(k:Int)(s:List UInt8)(kids r:Tr):Tr:= .nod k s 0 p00 kids .nil r
def tN(s:List UInt8)(r:Tr):Tr:=tO 1 s .nil r
def t1(r:Tr):Tr:= .nod 2 [] 1 p00 .nil .nil r
def kGx:Tr:=tN [103] (tN [120] .nil)
def kFg:Tr:=tN [102] (tO 5 [] kGx .nil)
def kSum:Tr:=tO 5 [] kFg (t1 .nil)
def kCn:Tr:=tN [120] (tO 9 [78,105,108] .nil .nil)
def kLam:Tr:=tO 9 [67,111,110,115] kCn .nil
def kAx:Tr:=tO 9 [65] .nil (tN [120] .nil)
def kX:Tr:=tN [120] .nil
theorem jQ(s:List UInt8)(big:Bool)(h:(decide (s≠[])&&decide (s.length<=24)&&s.all (fun u=>isW (u.toNat:Int))&&(if big then isGr ((asc s).headD 0) else isSm ((asc s).headD 0))&&decide (s ∉ zv)&&decide (s ∉ zB))=true):qcf s big:=by
 simp only[Bool.and_eq_true,decide_eq_true_eq,List.all_eq_true]at h;refine⟨h.1.1.1.1.1,h.1.1.1.1.2,h.1.1.1.2,?_,h.1.2,h.2⟩;cases big
 ·simpa using h.1.1.2
 ·simpa using h.1.1.2
theorem Ji(s:List UInt8)(h:qcf s false):mtB (1,s,0)=true:=by unfold mtB;simp only[decide_eq_true_eq];exact .inl ⟨rfl,h,rfl⟩
theorem JT(s:List UInt8)(h:qcf s true):mtB (2,s,0)=true:=by unfold mtB;simp only[decide_eq_true_eq];exact .inr (.inl ⟨rfl,h,rfl⟩)
theorem qiN:mtB (3,[],1)=true:=by unfold mtB;simp only[decide_eq_true_eq];exact .inr (.inr (.inl ⟨rfl,by decide,by decide,rfl⟩))
theorem qhu:mtB (5,[43],0)=true:=by unfold mtB;simp only[decide_eq_true_eq];exact .inr (.inr (.inr (.inr (.inl ⟨rfl,.inr (by decide +kernel),rfl⟩))))
theorem n_f:mtB (1,[102],0)=true:=Ji _ (jQ _ _ (by decide +kernel))
theorem n_g:mtB (1,[103],0)=true:=Ji _ (jQ _ _ (by decide +kernel))
theorem n_x:mtB (1,[120],0)=true:=Ji _ (jQ _ _ (by decide +kernel))
theorem n_a:mtB (1,[97],0)=true:=Ji _ (jQ _ _ (by decide +kernel))
theorem c_A:mtB (2,[65],0)=true:=JT _ (jQ _ _ (by decide +kernel))
theorem c_T:mtB (2,[84],0)=true:=JT _ (jQ _ _ (by decide +kernel))
theorem qi7:mtB (2,[78,105,108],0)=true:=JT _ (jQ _ _ (by decide +kernel))
theorem qir:mtB (2,[67,111,110,115],0)=true:=JT _ (jQ _ _ (by decide +kernel))
theorem qis:mtB (2,[76,105,115,116],0)=true:=JT _ (jQ _ _ (by decide +kernel))
theorem qjr:mtB (1,[108,101,116],0)=false:=by
 unfold mtB;simp only[decide_eq_false_iff_not];rintro (⟨_,h,_⟩ | ⟨h,_⟩ | ⟨h,_⟩ | ⟨h,_⟩ | ⟨h,_⟩ | ⟨h,_⟩)
 ·exact h.2.2.2.2.1 (by decide +kernel)
 ·exact absurd h (by decide)
 ·exact absurd h (by decide)
 ·exact absurd h (by decide)
 ·exact absurd h (by decide)
 ·exact absurd h (by decide)
theorem kN(s:List UInt8)(r:Tr)(h:mtB (1,s,0)=true):(tN s r).mayE hEf hPf=r.mayE hEf hPf:=by
 have e:hEf 1 s 0 0 0=true:=by simp[hEf,exR,keepB,h]
 simp[tN,tO,Tr.mayE,Tr.len,e]
theorem kA(kids r:Tr)(h:kids.len=2):(tO 5 [] kids r).mayE hEf hPf=(kids.mayE hEf hPf&&r.mayE hEf hPf):=by
 have e:hEf 5 [] 0 2 0=true:=by simp[hEf,exR,keepB]
 simp[tO,Tr.mayE,Tr.len,h,e]
theorem kC(s:List UInt8)(kids r:Tr)(h:mtB (2,s,0)=true):(tO 9 s kids r).mayE hEf hPf=(kids.mayE hEf hPf&&r.mayE hEf hPf):=by
 have e:hEf 9 s 0 kids.len 0=true:=by simp[hEf,exR,keepB,h]
 simp[tO,Tr.mayE,Tr.len,e]
theorem kL(s:List UInt8)(kids r:Tr)(h:mtB (1,s,0)=true)(hl:kids.len=1):(tO 4 s kids r).mayE hEf hPf=(kids.mayE hEf hPf&&r.mayE hEf hPf):=by
 have e:hEf 4 s 0 1 0=true:=by simp[hEf,exR,keepB,h]
 simp[tO,Tr.mayE,Tr.len,hl,e]
theorem kP(kids r:Tr)(hl:kids.len=2):(tO 10 [43] kids r).mayE hEf hPf=(kids.mayE hEf hPf&&r.mayE hEf hPf):=by
 have b:btwB [43]=true:=by decide +kernel
 have e:hEf 10 [43] 0 2 0=true:=by simp[hEf,exR,keepB,b,qhu]
 simp[tO,Tr.mayE,Tr.len,hl,e]
theorem kI(r:Tr):(t1 r).mayE hEf hPf=r.mayE hEf hPf:=by
 have e:hEf 2 [] 1 0 0=true:=by simp[hEf,exR,keepB,qiN]
 simp[t1,Tr.mayE,Tr.len,e]
theorem qiL:(tO 10 [43] kSum .nil).mayE hEf hPf=true:=by
 rw[kP _ _ rfl,kSum,kA _ _ rfl,kFg,kN _ _ n_f,kA _ _ rfl,kGx,kN _ _ n_g,kN _ _ n_x,kI];rfl
theorem qiK:(tO 4 [120] kLam .nil).mayE hEf hPf=true:=by
 rw[kL _ _ _ n_x rfl,kLam,kC _ _ _ qir,kCn,kN _ _ n_x,kC _ _ _ qi7];rfl
theorem m_ax:(tO 5 [] kAx .nil).mayE hEf hPf=true:=by
 rw[kA _ _ rfl,kAx,kC _ _ _ c_A,kN _ _ n_x];rfl
theorem m_a:(tO 9 [65] kX .nil).mayE hEf hPf=true:=by
 rw[kC _ _ _ c_A,kX,kN _ _ n_x];rfl
theorem Zo{F:List Tn}{s:List UInt8}(h:AllM F)(e:qp (F.map Tn.b)=s)(hl:s.length<=4000):wrO (F.map Tn.b)=(s,0):=by
 unfold wrO;rw[if_pos (fun t ht=>by obtain⟨x,hx,rfl⟩:=List.mem_map.1 ht;exact h x hx),e,if_pos hl]
theorem qjw:wrO ((qg 10 [43] 0 kSum .nil).map Tn.b)=([40,32,102,32,40,32,103,32,120,32,41,32,41,32,43,32,49],0):=by
 have h:=qP _ 0 [] qiL AllM.nil;have e:(tO 10 [43] kSum .nil).exK 0 []=qg 10 [43] 0 kSum .nil:=zG 10 [43] 0 p00 kSum .nil;rw[e]at h;exact Zo h (by decide +kernel) (by decide)
theorem qjv:wrO ((qg 4 [120] 0 kLam .nil).map Tn.b)=([92,32,120,32,45,62,32,67,111,110,115,32,120,32,78,105,108],0):=by
 have h:=qP _ 0 [] qiK AllM.nil;have e:(tO 4 [120] kLam .nil).exK 0 []=qg 4 [120] 0 kLam .nil:=zG 4 [120] 0 p00 kLam .nil;rw[e]at h;exact Zo h (by decide +kernel) (by decide)
theorem w_ax:wrO ((qg 5 [] 0 kAx .nil).map Tn.b)=([40,32,65,32,41,32,120],0):=by
 have h:=qP _ 0 [] m_ax AllM.nil;have e:(tO 5 [] kAx .nil).exK 0 []=qg 5 [] 0 kAx .nil:=zG 5 [] 0 p00 kAx .nil;rw[e]at h;exact Zo h (by decide +kernel) (by decide)
theorem w_a:wrO ((qg 9 [65] 0 kX .nil).map Tn.b)=([65,32,120],0):=by
 have h:=qP _ 0 [] m_a AllM.nil;have e:(tO 9 [65] kX .nil).exK 0 []=qg 9 [65] 0 kX .nil:=zG 9 [65] 0 p00 kX .nil;rw[e]at h;exact Zo h (by decide +kernel) (by decide)
theorem qjy:(Tr.nod 5 [] 0 p00 (t1 .nil) .nil .nil).mayE hEf hPf=false:=by
 have e:hEf 5 [] 0 1 0=false:=by simp[hEf,exR,keepB]
 simp[t1,Tr.mayE,Tr.len,e]
theorem qjz:(Tr.nod 1 [108,101,116] 0 p00 .nil .nil .nil).mayE hEf hPf=false:=by
 have e:hEf 1 [108,101,116] 0 0 0=false:=by simp[hEf,exR,keepB,qjr]
 simp[Tr.mayE,Tr.len,e]
theorem qi1:(Tr.nod 8 [] 0 p00 (t1 .nil) .nil .nil).mayE hEf hPf=false:=by
 have e:hEf 8 [] 0 1 0=false:=by simp[hEf,exR,keepB]
 simp[t1,Tr.mayE,Tr.len,e]
def kLa:Tr:= .nod 1 [97] 0 p00 .nil .nil .nil
def kD:Dc:=⟨1,[84],p00,[[97]],[⟨[65],p00,[⟨1,2,[76,105,115,116],0,p00,kLa⟩,⟨2,1,[97],0,p00,.nil⟩]⟩],false,0,[],0,p00,.nil,.nil⟩
theorem qiu:dcMay kD=true:=by
 have h1:hTf 1 [97] 0 0=true:=by simp[hTf,tyR,keepB,n_a]
 have h2:hTf 2 [76,105,115,116] 0 1=true:=by simp[hTf,tyR,keepB,qis]
 have m1:mltB 1=true:=by decide
 have m2:mltB 2=true:=by decide
 have sz:(Dc.tr kD).same ZB=true:=by decide +kernel
 have f1:fdMay ⟨1,2,[76,105,115,116],0,p00,kLa⟩=true:=by
  simp[fdMay,m1,Fd.tr,kLa,Tr.pre,ze,hdP,h1,h2,Tr.len]
 have f2:fdMay ⟨2,1,[97],0,p00,.nil⟩=true:=by
  simp[fdMay,m2,Fd.tr,Tr.pre,ze,hdP,h1,Tr.len]
 have e:dcMay kD=daMay kD:=rfl;rw[e];unfold daMay;rw[sz];simp[kD,n_a,c_T,cdMay,f1,f2,c_A]
theorem qi9:kD.mok:=by
 refine⟨⟨trivial,⟨trivial,trivial,trivial,trivial,trivial⟩,⟨trivial,trivial,trivial⟩⟩,fun c hc f hf=>?_⟩;simp only[kD,List.mem_singleton]at hc;subst hc;simp only[List.mem_cons,List.not_mem_nil,or_false]at hf;rcases hf with rfl | rfl
 ·exact⟨rfl,⟨rfl,trivial,trivial⟩,trivial⟩
 ·exact⟨rfl,trivial,trivial⟩
theorem w_d:tlO [kD]=([100,97,116,97,32,84,32,97,32,61,32,65,32,49,32,40,32,76,105,115,116,32,97,32,41,32,63,32,97],0):=by
 unfold tlO;rw[if_pos (by simp[qiu])];exact Zo (qaj [kD] (fun x hx=>by rw[List.mem_singleton.1 hx];exact⟨qiu,qi9⟩)) (by decide +kernel) (by decide)
end Go.Proofs.YtlmmaoobembadaaGreatDoor.Mu
namespace Go.Proofs.YtlmmaoobembadaaGreatDoor.Mu
open Go Go.RowKit Go.Shelf
attribute [local go_sem] Oper.semAt_some
set_option linter.unusedVariables false
set_option maxRecDepth 100000
theorem qds{w:World}{g:Nat}{x0 x1 x2 x3 x4 x5 x6 x7:Value}(h:w.heap[g]?=some (.cells #[x0,x1,x2,x3,x4,x5,x6,x7] 32 (0,0))):(loadVar 32 ⟨g,0,none⟩).run Tryz.prog w=.ok (.agg #[x0,x1,x2,x3,x4,x5,x6,x7]) w:=by
 have c0:w.cell? ⟨g,0,none⟩=some x0:=by simp[World.cell?,h]
 have c1:w.cell? ⟨g,1,none⟩=some x1:=by simp[World.cell?,h]
 have c2:w.cell? ⟨g,2,none⟩=some x2:=by simp[World.cell?,h]
 have c3:w.cell? ⟨g,3,none⟩=some x3:=by simp[World.cell?,h]
 have c4:w.cell? ⟨g,4,none⟩=some x4:=by simp[World.cell?,h]
 have c5:w.cell? ⟨g,5,none⟩=some x5:=by simp[World.cell?,h]
 have c6:w.cell? ⟨g,6,none⟩=some x6:=by simp[World.cell?,h]
 have c7:w.cell? ⟨g,7,none⟩=some x7:=by simp[World.cell?,h]
 simp[loadVar,go_sem,c0,c1,c2,c3,c4,c5,c6,c7]
theorem qW(S:ByteArray)(w:World):Calls Tryz.prog 24 #[.string S] w fun e w'=>e=.returned (.agg #[.int .u8 1,S,(0:Int),(0:Int),(0:Int),(0:Int),.slice none 0 0,.slice none 0 0])/\Bel w w':=by
 go_enter Tryz.func24,Tryz.ntmps24
 go_wp2_with fail
 have hb:Bel w (w.alloc (.cells #[.int .u8 1,S,(0:Int),(0:Int),(0:Int),(0:Int),.slice none 0 0,.slice none 0 0] 32)):=(Bel.refl w).alloc _;have hq:=qds (blk1 w (.cells #[.int .u8 1,S,(0:Int),(0:Int),(0:Int),(0:Int),.slice none 0 0,.slice none 0 0] 32))
 (try simp only[Exit.inBlock,Exit.then])
 refine bodyPost_ret (qf (v:= .agg #[.int .u8 1,S,(0:Int),(0:Int),(0:Int),(0:Int),.slice none 0 0,.slice none 0 0]) rfl _ _ _ rfl hq) rfl ?_;exact⟨rfl,hb⟩
theorem qS(k:Int)(S:ByteArray)(A:Option Addr)(l c:Nat)(w:World):Calls Tryz.prog 23 #[.int .u8 k,S,.slice A l c] w fun e w'=>e=.returned (.agg #[.int .u8 k,S,(0:Int),(0:Int),(0:Int),(0:Int),.slice A l c,.slice none 0 0])/\Bel w w':=by
 go_enter Tryz.func23,Tryz.ntmps23
 go_wp2_with fail
 have hb:Bel w (w.alloc (.cells #[.int .u8 k,S,(0:Int),(0:Int),(0:Int),(0:Int),.slice A l c,.slice none 0 0] 32)):=(Bel.refl w).alloc _;have hq:=qds (blk1 w (.cells #[.int .u8 k,S,(0:Int),(0:Int),(0:Int),(0:Int),.slice A l c,.slice none 0 0] 32))
 (try simp only[Exit.inBlock,Exit.then])
 refine bodyPost_ret (qf (v:= .agg #[.int .u8 k,S,(0:Int),(0:Int),(0:Int),(0:Int),.slice A l c,.slice none 0 0]) rfl _ _ _ rfl hq) rfl ?_;exact⟨rfl,hb⟩
theorem QJ(k:Int)(s:List UInt8)(n:Int)(A:Option Addr)(l c:Nat)(kids:Tr)(t:List UInt8)(w:World)(hk:KidsTr w (OldT w) .ex A l c kids)(hsz:kids.size<=1000)(hd:(Tr.nod k s n p00 kids .nil .nil).depth<=60)(ht:Tbl w)(hi:(Tr.nod k s n p00 kids .nil .nil).ints)(hm:(Tr.nod k s n p00 kids .nil .nil).mayE hEf hPf=true)(hw:wrO ((qg k s n kids .nil).map Tn.b)=(t,0)) :
  Calls Tryz.prog 25 #[.agg #[.int .u8 k,.string ⟨s.toArray⟩,n,(0:Int),(0:Int),(0:Int),.slice A l c,.slice none 0 0],.string ⟨t.toArray⟩] w (qj true w):=by
 have hl:=hk.1;subst hl;have ha:KidsTr w (OldT w) .arms none 0 0 .nil:=⟨rfl,Nat.le_refl _,fun h=>absurd h (by decide)⟩
 have hem:=Jc (k:=k) (s:=s) (n:=n) (p:=p00) (arms:= .nil) hk ha;rw[hm,decide_eq_true hd]at hem;have hO:txO k s n p00 kids .nil=(t,0):=by unfold txO;rw[hem,<- hw];rfl
 have HT:Hid (∀ W,Bel w W->Calls Tryz.prog 18 #[.agg #[.int .u8 k,.string ⟨s.toArray⟩,n,(0:Int),(0:Int),(0:Int),.slice A kids.len c,.slice none 0 0]] W fun e w'=>e=.returned (.tuple #[.string ⟨t.toArray⟩,(0:Int)])/\Bel W w'):=hid fun W hW=>by
  have h:=Qu k s n p00 A c none 0 kids .nil W (hk.bel hW) (ha.bel hW) (by simp only[Tr.size];omega) (ht.bel hW) hi;rw[hO]at h;exact h
 obtain⟨SS,hSS⟩:∃ S:ByteArray,S=⟨s.toArray⟩:=⟨_,rfl⟩
 obtain⟨ST,hST⟩:∃ S:ByteArray,S=⟨t.toArray⟩:=⟨_,rfl⟩
 obtain⟨kl,hkl⟩:∃ l,l=kids.len:=⟨_,rfl⟩
 rw[<- hSS,<- hST,<- hkl]at HT;rw[<- hSS,<- hST,<- hkl];clear hk hsz hd ht hi hm hw ha hem hO hSS hST hkl;have HB1:Hid (Bel w (w.alloc (.cells #[.int .u8 k,SS,n,(0:Int),(0:Int),(0:Int),.slice A kl c,.slice none 0 0] 32))):=hid ((Bel.refl w).alloc _);go_enter Tryz.func25,Tryz.ntmps25
 go_wp2_with fail
 refine (HT.out _ HB1.out).mono ?_;rintro e w3 ⟨rfl,hb3⟩;have HB3:=hid (HB1.out.on hb3);clear hb3 HT HB1;go_wp2_with fail
 go_ret
 exact⟨by simp,HB3.out⟩
end Go.Proofs.YtlmmaoobembadaaGreatDoor.Mu
namespace Go.Proofs.YtlmmaoobembadaaGreatDoor.Mu
open Go Go.RowKit Go.Shelf
set_option linter.unusedVariables false
set_option maxRecDepth 100000
def Okz(w:World)(j:Nat):Prop:=j<w.heap.size/\w.heap[j]?≠some (.cells #[.int .u8 0,.string ⟨#[]⟩,.int .i64 0,.int .i64 0,.int .i64 0,.int .i64 0,.slice none 0 0,.slice none 0 0] 32 (0,0))
theorem Okz.bel{w w':World}(hb:Bel w w')(j:Nat)(h:Okz w j):Okz w' j:=⟨Nat.lt_of_lt_of_le h.1 hb.size,by rw[hb.block j h.1];exact h.2⟩
theorem KidsZ.bel{w w':World}{A:Option Addr}{l c:Nat}{f:Tr}(h:KidsTr w (Okz w) .ex A l c f)(hb:Bel w w'):KidsTr w' (Okz w') .ex A l c f:=(h.keep (fun j hj=>hb.block j hj.1)).wide (Okz.bel hb)
theorem zK{w:World}{F:Tr}{vs:List Value}(h:Tells w (Okz w) .ex F vs)(hz:vs[0]?≠some (.int .u8 0))(m:Nat)(hm:m=F.len)(h0:0<m) :
  KidsTr (w.alloc (.cells vs.toArray 32)) (Okz (w.alloc (.cells vs.toArray 32))) .ex (some ⟨w.heap.size,0,none⟩) m m F:=by
 have hb:Bel w (w.alloc (.cells vs.toArray 32)):=(Bel.refl w).alloc _;refine⟨hm,Nat.le_refl _,fun _=>⟨w.heap.size,0,rfl,⟨by simp,fun e=>hz ?_⟩,?_⟩⟩
 ·rw[blk1]at e
  injection e with e
  injection e with e _ _
  have:=congrArg (fun a:Array Value=>a[0]?) e;simpa using this
 ·refine (h.2.2 _ w.heap.size 0 (fun j u hu=>?_) (fun j hj=>hb.block j hj.1)).wide (Okz.bel hb) _ _ _ _
  unfold World.cell?
  simp only[blk1];simpa using hu
theorem qw(w:World)(Ok:Nat->Prop)(sh:Sh):KidsTr w Ok sh none 0 0 .nil:=⟨rfl,Nat.le_refl _,fun h=>absurd h (by decide)⟩
theorem Qt{w:World}{Ok:Nat->Prop}(k:Int)(s:List UInt8){A:Option Addr}{l c:Nat}{kids:Tr}(h:KidsTr w Ok .ex A l c kids):Tells w Ok .ex (tO k s kids .nil) [.int .u8 k,.string ⟨s.toArray⟩,(0:Int),(0:Int),(0:Int),(0:Int),.slice A l c,.slice none 0 0]:=by
 have hl:=h.1;subst hl;exact Tells.one (sh:= .ex) (by intro e;cases e) (arms:= .nil) (B:=none) (bc:=0) h (.inl ⟨rfl,qw w Ok .arms⟩)
theorem Zb{w:World}{Ok:Nat->Prop}(s:List UInt8):Tells w Ok .ex (tN s .nil) [.int .u8 1,.string ⟨s.toArray⟩,(0:Int),(0:Int),(0:Int),(0:Int),.slice none 0 0,.slice none 0 0]:=Qt 1 s (qw w Ok .ex)
theorem qeO{w:World}{Ok:Nat->Prop}:Tells w Ok .ex (t1 .nil) [.int .u8 2,.string ⟨#[]⟩,.int .i64 1,(0:Int),(0:Int),(0:Int),.slice none 0 0,.slice none 0 0]:=
 Tells.one (sh:= .ex) (by intro e;cases e) (kids:= .nil) (arms:= .nil) (A:=none) (c:=0) (B:=none) (bc:=0) (qw w Ok .ex) (.inl ⟨rfl,qw w Ok .arms⟩)
theorem qfR{w:World}{g:Nat}{t:TypeId}{x0 x1 x2 x3 x4 x5 x6 x7:Value}(h:w.heap[g]?=some (.cells #[x0,x1,x2,x3,x4,x5,x6,x7] t (0,0)))(y0 y1 y2 y3 y4 y5 y6 y7:Value) :
  ((((((((w.setCell ⟨g,0,none⟩ y0).setCell ⟨g,1,none⟩ y1).setCell ⟨g,2,none⟩ y2).setCell ⟨g,3,none⟩ y3).setCell ⟨g,4,none⟩ y4).setCell ⟨g,5,none⟩ y5).setCell ⟨g,6,none⟩ y6).setCell ⟨g,7,none⟩ y7).heap[g]?=some (.cells #[y0,y1,y2,y3,y4,y5,y6,y7] t (0,0)):=by
 simp[World.setCell,Array.getElem?_modify,h]
theorem qfS{w:World}{g:Nat}(y0 y1 y2 y3 y4 y5 y6 y7:Value)(j:Nat)(hj:j≠g) :
  ((((((((w.setCell ⟨g,0,none⟩ y0).setCell ⟨g,1,none⟩ y1).setCell ⟨g,2,none⟩ y2).setCell ⟨g,3,none⟩ y3).setCell ⟨g,4,none⟩ y4).setCell ⟨g,5,none⟩ y5).setCell ⟨g,6,none⟩ y6).setCell ⟨g,7,none⟩ y7).heap[j]?=w.heap[j]?:=by
 have e:∀ (w:World) (o:Nat) (v:Value),(w.setCell ⟨g,o,none⟩ v).heap[j]?=w.heap[j]?:=fun w o v=>Below.heap_setCell _ _ _ _ hj;simp only[e]
theorem qfl{w:World}{g:Nat}{t:TypeId}{x0 x1 x2 x3 x4 x5 x6 x7:Value}(h:w.heap[g]?=some (.cells #[x0,x1,x2,x3,x4,x5,x6,x7] t (0,0))) :
  w.frozen? ⟨g,0,none⟩=false/\w.frozen? ⟨g,1,none⟩=false/\w.frozen? ⟨g,2,none⟩=false/\w.frozen? ⟨g,3,none⟩=false/\w.frozen? ⟨g,4,none⟩=false/\w.frozen? ⟨g,5,none⟩=false/\w.frozen? ⟨g,6,none⟩=false/\w.frozen? ⟨g,7,none⟩=false:=by
 simp[World.frozen?,h]
end Go.Proofs.YtlmmaoobembadaaGreatDoor.Mu
