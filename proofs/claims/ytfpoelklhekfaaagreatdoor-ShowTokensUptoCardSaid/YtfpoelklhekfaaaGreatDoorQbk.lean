import Derived.Lib.Space
import Derived.Lib.Slices
import Derived.Lib.LaidTab
import Derived.Test.YtfpoelklhekfaaaGreatDoorQbg
import Derived.Test.YtfpoelklhekfaaaGreatDoorQbh
import Derived.Test.YtfpoelklhekfaaaGreatDoorQbi
import Derived.Test.YtfpoelklhekfaaaGreatDoorQbj
open Go.Lib (hid)
namespace Go.Proofs.YtfpoelklhekfaaaGreatDoor.Mu
open Go Go.RowKit Go.Shelf
set_option linter.unusedVariables false
set_option maxRecDepth 100000
theorem TrAt.barep{w:World}{Ok:Nat->Prop}:∀ (f:Tr) (sh:Sh) (b o:Nat),(sh=.ex∨sh=.arms)->TrAt w Ok f sh b o->f.barep
 | .nil,_,_,_,_,_=>trivial
 | .nod k s n p kids arms r,sh,b,o,hs,h=>by
  obtain⟨_,⟨A,cap,_,_,a3⟩,h3,h4⟩:=h;rcases h3 with ⟨e,A2,c2,_,_,a4⟩ | ⟨e | e,_⟩
  ·subst e
   refine⟨?_,?_,TrAt.barep r .ex b _ hs h4⟩
   ·rcases Nat.eq_zero_or_pos kids.len with e | e
    ·rw[Tr.len_nil kids e];trivial
    ·obtain⟨b',o',_,_,h⟩:=a3 e;exact TrAt.barep kids .ex b' o' (.inl rfl) h
   ·rcases Nat.eq_zero_or_pos arms.len with e | e
    ·rw[Tr.len_nil arms e];trivial
    ·obtain⟨b',o',_,_,h⟩:=a4 e;exact TrAt.barep arms .arms b' o' (.inr rfl) h
  ·subst e;rcases hs with e | e <;> cases e
  ·subst e;rcases hs with e | e <;> cases e
 | .arm k s n p kids e r,sh,b,o,hs,h=>by
  obtain⟨h0,_,⟨A,cap,_,_,a3⟩,_,h4,h5⟩:=h;refine⟨?_,TrAt.barep e .ex b _ (.inl rfl) h4,TrAt.barep r sh b _ hs h5⟩;rcases Nat.eq_zero_or_pos kids.len with e | e
  ·rw[Tr.len_nil kids e];trivial
  ·obtain⟨b',o',_,_,h⟩:=a3 e;exact TrAt.bare (.inl rfl) kids b' o' h
theorem KidsTr.barep{w:World}{Ok:Nat->Prop}{sh:Sh}(hs:sh=.ex∨sh=.arms){A:Option Addr}{l c:Nat}{f:Tr}(h:KidsTr w Ok sh A l c f):f.barep:=by
 rcases Nat.eq_zero_or_pos f.len with e | e
 ·rw[Tr.len_nil f e];trivial
 ·obtain⟨b,o,_,_,h⟩:=h.2.2 (by rw[h.1];exact e)
  exact TrAt.barep f sh b o hs h
noncomputable def exMay (x:Tr):Bool:=(x.pre 0).all (qX (hdX hEf hPf) 60)
theorem Z7{w:World}{k:Int}{s:List UInt8}{n:Int}{p:Pl}{A:Option Addr}{c:Nat}{B:Option Addr}{bc:Nat}{kids arms:Tr}(hk:KidsTr w (OldT w) .ex A kids.len c kids)(ha:KidsTr w (OldT w) .arms B arms.len bc arms) :
  exMay (.nod k s n p kids arms .nil)=((Tr.nod k s n p kids arms .nil).mayE hEf hPf&&decide ((Tr.nod k s n p kids arms .nil).depth<=60)):=by
 unfold exMay;rw[(Tr.pre_mayE hEf hPf (.nod k s n p kids arms .nil) 60 0 ⟨hk.isNods (by intro e;cases e),hk.ok,ha.isArms,ha.ok,trivial⟩ ⟨hk.barep (.inl rfl),ha.barep (.inr rfl),trivial⟩).1 trivial];unfold qY;congr 1
 apply decide_eq_decide.2;rw[qgs];simp only[Tr.depth];omega
def FitL(F:List Tn):Prop:=∀ t∈F,fitN t.s t.n
theorem FitL.nil:FitL []:=by intro t h;cases h
theorem FitL.cons{t:Tn}{F:List Tn}(h:fitN t.s t.n)(k:FitL F):FitL (t::F):=fun u hu=>(List.mem_cons.1 hu).elim (fun e=>e ▸ h) (k u)
theorem FitL.app{F G:List Tn}(h:FitL F)(k:FitL G):FitL (F++G):=fun u hu=>(List.mem_append.1 hu).elim (h u) (k u)
theorem qgJ{k:Int}{s:List UInt8}(h:s.length<=100):fitN (tk0 k s 0).s (tk0 k s 0).n:=⟨by show s.length<=_;omega,(by decide:(-9223372036854775808:Int)<=0),(by decide:(0:Int)<=9223372036854775807)⟩
theorem FitL.kw{k:Int}{s:List UInt8}{F:List Tn}(h:s.length<=100)(kk:FitL F):FitL (tk0 k s 0::F):=FitL.cons (qgJ h) kk
theorem FitL.brk{b:Bool}{F:List Tn}(h:FitL F):FitL (brkL b F):=by
 unfold brkL;split
 ·exact h
 ·exact FitL.kw (by simp) (h.app (FitL.kw (by simp) FitL.nil))
theorem FitL.brkM{md:Nat}{k:Int}{l:Nat}{F:List Tn}(h:FitL F):FitL (brkM md k l F):=by
 unfold Mu.brkM;split
 ·exact h
 split
 ·exact h.brk
 ·exact h.brk
theorem qaf{k:Int}{s:List UInt8}{n:Int}(h:fitN s n):fitN (tk0 k s n).s (tk0 k s n).n:=h
theorem Qw{k:Int}{s:List UInt8}{n:Int}(h:fitN s n):fitN (tk0 k s 0).s (tk0 k s 0).n:=⟨h.1,(by decide:(-9223372036854775808:Int)<=0),(by decide:(0:Int)<=9223372036854775807)⟩
theorem ZF{k:Int}{s:List UInt8}{n:Int}{K:List Tn}(h:fitN s n)(hK:FitL K):FitL (qH k s n K):=by
 unfold qH;split
 ·exact FitL.kw (by simp) FitL.nil
 ·exact FitL.cons (qaf h) hK
theorem Ji:∀ f:Tr,f.ints->FitL f.patK
 | .nil,_=>FitL.nil
 | .arm ..,_=>FitL.nil
 | .nod k s n p kids arms r,⟨h0,h1,_,h3⟩=>((ZF h0 (Ji kids h1)).brk).app (Ji r h3)
theorem qb8(n:Int):fitN (qI n).s (qI n).n:=by
 unfold qI;split
 ·exact⟨by decide,by decide,by decide⟩
 split
 ·exact⟨by decide,by decide,by decide⟩
 ·exact⟨by decide,by decide,by decide⟩
theorem qbL(n:Int):fitN (qW n).s (qW n).n:=by
 unfold qW;split
 ·exact⟨by decide,by decide,by decide⟩
 split
 ·exact⟨by decide,by decide,by decide⟩
 ·exact⟨by decide,by decide,by decide⟩
theorem Jp:∀ (f:Tr) (sep:List Tn),f.ints->FitL sep->FitL (f.tyK sep)
 | .nil,_,_,_=>FitL.nil
 | .arm ..,_,_,_=>FitL.nil
 | .nod k s n p kids arms r,sep,⟨h0,h1,_,h3⟩,hs=>by
  rw[Q8];refine ((FitL.brk ?_).app hs).app (Jp r [] h3 FitL.nil);unfold zm;split
  ·exact Jp kids _ h1 (FitL.cons (qbL n) FitL.nil)
  ·exact FitL.cons (Qw h0) (Jp kids [] h1 FitL.nil)
theorem qbV{k:Int}{s:List UInt8}{n:Int}{K0 K1 K2 KI KS KA:List Tn}(hf:fitN s n)(h0:FitL K0)(h1:FitL K1)(h2:FitL K2)(hI:FitL KI)(hS:FitL KS)(hA:FitL KA) :
  FitL (if k=4 then Jc::tk0 1 s 0::jl::K0
    else if k=6 then zj::tk0 1 s 0::kwEq::KI
    else if k=7 then zj::jw::tk0 1 s 0::kwEq::KI
    else if k=8 then zy::K0++[kwOf]++KA++[kwClose]
    else if k=5 then K1
    else if (exR k s).1=5 then KS
    else tk0 (exR k s).1 s n::K2):=by
 split
 ·exact FitL.kw (by simp) (FitL.cons (Qw hf) (FitL.kw (by simp) h0))
 split
 ·exact FitL.kw (by simp) (FitL.cons (Qw hf) (FitL.kw (by simp) hI))
 split
 ·exact FitL.kw (by simp) (FitL.kw (by simp) (FitL.cons (Qw hf) (FitL.kw (by simp) hI)))
 split
 ·exact (((FitL.kw (by simp) h0).app (FitL.kw (by simp) FitL.nil)).app hA).app (FitL.kw (by simp) FitL.nil)
 split
 ·exact h1
 split
 ·exact hS
 ·exact FitL.cons (qaf hf) h2
theorem zh:∀ (f:Tr) (md:Nat) (sep:List Tn),f.ints->FitL sep->FitL (f.exK md sep)
 | .nil,_,_,_,_=>FitL.nil
 | .arm k s n p kids e r,md,sep,⟨h0,h1,h2,h3⟩,hs=>
  (((hs.app (ZF h0 (Ji kids h1))).app (FitL.kw (by simp) FitL.nil)).app (zh e 0 [] h2 FitL.nil)).app (zh r 0 [zQ] h3 (FitL.kw (by simp) FitL.nil))
 | .nod k s n p kids arms r,md,sep,⟨h0,h1,h2,h3⟩,hs=>
  (((qbV h0 (zh kids 0 [] h1 FitL.nil) (zh kids 1 [] h1 FitL.nil) (zh kids 2 [] h1 FitL.nil) (zh kids 0 [kwIn] h1 (FitL.kw (by simp) FitL.nil)) (zh kids 2 [tk0 5 s n] h1 (FitL.cons (qaf h0) FitL.nil)) (zh arms 0 [kwOpen] h2 (FitL.kw (by simp) FitL.nil))).brkM).app hs).app (zh r (nxM md) [] h3 FitL.nil)
theorem JI(k:Int)(s:List UInt8)(n:Int)(p:Pl)(kids arms:Tr):(Tr.nod k s n p kids arms .nil).exK 0 []=qm k s n kids arms:=zu k s n p kids arms
theorem Wri.toks{W:World}{base wp:Nat}{xs:List Tn}(h:Wri W base wp xs):∃ A n c,W.cell? ⟨wp,0,none⟩=some (.slice A n c)/\RTn W W.heap.size A n xs:=by
 obtain⟨_,_,A,n,c,hc,hn,ho⟩:=h;refine⟨A,n,c,by simp[World.cell?,hc],hn,fun h0=>?_⟩;obtain⟨g,cp,hv,_,hgl⟩:=ho.form h0;cases hv
 refine⟨g,0,rfl,hgl,fun k x hx=>?_⟩;have hcs:=ho.cells (g:=g) rfl;have key:∀ j v,x.cells[j]?=some v->W.cell? ⟨g,0+k*6+j,none⟩=some v:=fun j v hv=>by
  have:=hcs (k*6+j) v (jL xs k x hx j v hv);rw[Addr.add_lit]at this;rw[<- this];congr 2
  omega
 exact⟨key 0 _ rfl,key 1 _ rfl,key 2 _ rfl,key 3 _ rfl,key 4 _ rfl,key 5 _ rfl⟩
theorem Wri.new(w:World):Wri (w.alloc (.cells #[.slice none 0 0] 68)) (w.heap.size+1) w.heap.size []:=
 ⟨by omega,by simp,none,0,0,blk1 w _,rfl,World.ownsRow_nil _ _ _ _⟩
theorem J6{w0 W:World}{base wp:Nat}{F r:List Tn}(ht:Tbl W)(hw:Wri W base wp r)(hr:WrR [] F r)(hl:r.length<=5000)(hF:FitL F)(hM:AllM F) :
  ∃ A n c,W.cell? ⟨wp,0,none⟩=some (.slice A n c)/\Calls Tryz.prog 8 #[.slice A n c] W fun e w'=>e=.returned (.tuple #[.string ⟨(wrO (F.map Tn.b)).1.toArray⟩,.int .i64 (wrO (F.map Tn.b)).2])/\Bel W w':=by
 obtain⟨A,n,c,hc,hT⟩:=hw.toks;have hn:=hT.1;refine⟨A,n,c,hc,?_⟩;have h:=jC (cp:=c) W ht hT (by omega) (fun x hx=>hF x (hr.from0.1.subset hx));rw[qhn hM hr]at h;exact h
def Dc.mok(x:Dc):Prop:=(x.tr.isNods/\x.tr.ok/\x.tr.barep)/\∀ c∈x.cs,∀ f∈c.fs,f.tr.bare
theorem RowOf.mem{α:Type}{sz:Nat}{At:World->(Nat->Prop)->Nat->Nat->α->Prop}{w:World}{Ok:Nat->Prop}{A:Option Addr}{n c:Nat}{xs:List α}(h:RowOf sz At w Ok A n c xs){x:α}(hx:x∈xs):∃ b o,At w Ok b o x:=by
 obtain⟨i,hi⟩:=List.getElem?_of_mem hx;have hn:=h.1;have:=(List.getElem?_eq_some_iff.1 hi).1;obtain⟨b,o,_,_,ha⟩:=h.2.2 (by omega);exact⟨b,_,ha i x hi⟩
theorem DcAt.mok{w:World}{Ok:Nat->Prop}{b o:Nat}{x:Dc}(h:DcAt w Ok b o x):x.mok:=by
 obtain⟨_,_,_,_,_,_,⟨CA,cc,_,hc⟩,_,ht⟩:=h;refine⟨⟨TrAt.isNods (by intro e;cases e) _ _ _ ht,TrAt.ok _ _ _ _ ht,TrAt.barep _ _ _ _ (.inl rfl) ht⟩,fun c hcm f hf=>?_⟩;obtain⟨b2,o2,_,_,_,_,A,c2,_,hfs⟩:=hc.mem hcm;obtain⟨b3,o3,_,ht3⟩:=hfs.mem hf;exact TrAt.bare (.inr rfl) _ _ _ ht3
theorem Jd{t:Int × List UInt8 × Int}(h:mtB t=true):qv t:=by simpa [mtB] using h
theorem qfP{f:Fd}(h:fdMay f=true)(hb:f.tr.bare):f.tr.mayP hTf=true:=by
 unfold fdMay at h;rw[Bool.and_eq_true,Tr.pre_mayP hTf f.tr 60 0 hb]at h;unfold qY at h;rw[Bool.and_eq_true]at h;exact h.2.1
theorem qbh:∀ fs:List Fd,(∀ f∈fs,fdMay f=true/\f.tr.bare)->AllM (fdsK fs)
 | [],_=>AllM.nil
 | f::fs,h=>by
  obtain⟨h1,h2⟩:=h f (List.mem_cons_self ..);have ht:=Q7 f.tr [] (qfP h1 h2) AllM.nil;have e:f.tr.tyK []=brkL (alnT f.k f.kids.len) (zm f.k f.s f.n f.kids):=by
   show (Tr.nod f.k f.s f.n f.p f.kids .nil .nil).tyK []=_
   rw[Q8];simp[Tr.tyK]
  rw[e]at ht;exact (AllM.cons qb9 ht).app (qbh fs fun g hg=>h g (List.mem_cons_of_mem _ hg))
theorem JB:∀ (cs:List Cd) (ah:List UInt8),qv (tk0 5 ah 0).b->(∀ c∈cs,cdMay c=true/\∀ f∈c.fs,f.tr.bare)->AllM (Qq ah cs)
 | [],_,_,_=>AllM.nil
 | c::cs,ah,hah,h=>by
  obtain⟨h1,h2⟩:=h c (List.mem_cons_self ..);unfold cdMay at h1;rw[Bool.and_eq_true,List.all_eq_true]at h1;exact ((hah |> AllM.cons) ((Jd h1.2 |> AllM.cons (t:=tk0 2 c.nm 0)) (qbh c.fs fun f hf=>⟨h1.1 f hf,h2 f hf⟩))).app (JB cs [124] (Ql _ (by simp)) fun d hd=>h d (List.mem_cons_of_mem _ hd))
theorem qdk:∀ ps:List (List UInt8),(∀ s∈ps,mtB (1,s,0)=true)->AllM (psK ps)
 | [],_=>AllM.nil
 | s::ps,h=>AllM.cons (t:=tk0 1 s 0) (Jd (h s (List.mem_cons_self ..))) (qdk ps fun t ht=>h t (List.mem_cons_of_mem _ ht))
theorem qcS{x:Dc}(h:(x.tr.pre 0).all (qX (hdX hEf hPf) 60)=true)(hm:x.mok):x.tr.mayE hEf hPf=true:=by
 rw[(Tr.pre_mayE hEf hPf x.tr 60 0 hm.1.2.1 hm.1.2.2).1 hm.1.1]at h;unfold qY at h;rw[Bool.and_eq_true]at h;exact h.1
theorem qbd{x:Dc}(h:daMay x=true):(∀ s∈x.ps,mtB (1,s,0)=true)/\(∀ c∈x.cs,cdMay c=true)/\mtB (2,x.nm,0)=true/\0<x.cs.length/\x.rc=false/\x.tr.same qeD=true:=by
 unfold daMay at h;simp only[Bool.and_eq_true,List.all_eq_true,decide_eq_true_eq,Bool.not_eq_true']at h;exact⟨h.1.1.1.1.1,h.1.1.1.1.2,h.1.1.1.2,h.1.1.2,h.1.2,h.2⟩
theorem ZY{x:Dc}(h:dcMay x=true):(x.kd=1/\daMay x=true)∨(x.kd=2/\mtB (1,x.nm,0)=true/\x.ps=[]/\x.cs=[]/\(x.tr.pre 0).all (qX (hdX hEf hPf) 60)=true):=by
 unfold dcMay at h;by_cases h1:x.kd=1
 ·rw[if_pos h1]at h
  exact .inl ⟨h1,h⟩
 rw[if_neg h1]at h;by_cases h2:x.kd=2
 ·rw[if_pos h2]at h
  simp only[Bool.and_eq_true,decide_eq_true_eq]at h;exact .inr ⟨h2,h.1.1.1,List.length_eq_zero_iff.1 h.1.1.2,List.length_eq_zero_iff.1 h.1.2,h.2⟩
 ·rw[if_neg h2]at h
  cases h
theorem qgr{x:Dc}(h:dcMay x=true)(hm:x.mok):AllM (dcK x):=by
 unfold dcK;rcases ZY h with ⟨e,h⟩ | ⟨e,hn,_,_,h⟩
 ·rw[if_pos e]
  obtain⟨h1,h2,h3,_⟩:=qbd h;exact (AllM.kw (by simp) (AllM.cons (t:=tk0 2 x.nm 0) (Jd h3) (qdk x.ps h1))).app (JB x.cs [61] (Ql kwEq (by simp)) fun c hc=>⟨h2 c hc,hm.2 c hc⟩)
 ·rw[if_neg (by rw[e];decide)]
  have h4:=qJ x.tr 0 [] (qcS h hm) AllM.nil;have e4:x.tr.exK 0 []=qm x.k x.s x.n x.kids x.arms:=zu x.k x.s x.n x.ep x.kids x.arms;rw[e4]at h4;refine ((AllM.app (F:=zj::(if x.rc then [jw] else [])) (AllM.kw (by simp) ?_) (AllM.cons (t:=tk0 1 x.nm 0) (Jd hn) (AllM.kw (by simp) AllM.nil)))).app h4;split
  ·exact AllM.kw (by simp) AllM.nil
  ·exact AllM.nil
theorem qhP{x:Dc}(h:dcMay x=true)(hm:x.mok)(hg:x.good):x.shw:=by
 unfold Dc.shw;rcases ZY h with ⟨e,h⟩ | ⟨e,hn,_,_,h⟩
 ·rw[if_pos e]
  obtain⟨_,h2,_⟩:=qbd h;intro c hc;have hgc:=hg.2.2.2 c hc;refine⟨hgc.1,fun f hf=>⟨by have:=hgc.2 f hf;unfold Fd.good at this;omega,?_⟩⟩;have h3:=h2 c hc;unfold cdMay at h3;rw[Bool.and_eq_true,List.all_eq_true]at h3;exact qaG _ (qfP (h3.1 f hf) (hm.2 c hc f hf))
 ·rw[if_neg (by rw[e];decide)]
  exact QX _ (qcS h hm)
theorem qbg:∀ fs:List Fd,(∀ f∈fs,f.ints)->FitL (fdsK fs)
 | [],_=>FitL.nil
 | f::fs,h=>by
  have ht:=Jp f.tr [] (h f (List.mem_cons_self ..)) FitL.nil;have e:f.tr.tyK []=brkL (alnT f.k f.kids.len) (zm f.k f.s f.n f.kids):=by
   show (Tr.nod f.k f.s f.n f.p f.kids .nil .nil).tyK []=_
   rw[Q8];simp[Tr.tyK]
  rw[e]at ht;exact (FitL.cons (qb8 _) ht).app (qbg fs fun g hg=>h g (List.mem_cons_of_mem _ hg))
theorem qbi{k:Int}{s:List UInt8}(h:s.length<=140737488355328):fitN (tk0 k s 0).s (tk0 k s 0).n:=⟨h,(by decide:(-9223372036854775808:Int)<=0),(by decide:(0:Int)<=9223372036854775807)⟩
theorem JA:∀ (cs:List Cd) (ah:List UInt8),ah.length<=100->(∀ c∈cs,c.nm.length<=140737488355328/\∀ f∈c.fs,f.ints)->FitL (Qq ah cs)
 | [],_,_,_=>FitL.nil
 | c::cs,ah,hah,h=>by
  obtain⟨h1,h2⟩:=h c (List.mem_cons_self ..);exact ((FitL.kw hah) ((FitL.cons (qbi h1)) (qbg c.fs h2))).app (JA cs [124] (by simp) fun d hd=>h d (List.mem_cons_of_mem _ hd))
theorem qdj:∀ ps:List (List UInt8),(∀ s∈ps,s.length<=140737488355328)->FitL (psK ps)
 | [],_=>FitL.nil
 | s::ps,h=>FitL.cons (qbi (h s (List.mem_cons_self ..))) (qdj ps fun t ht=>h t (List.mem_cons_of_mem _ ht))
theorem qgq{x:Dc}(h:x.ints):FitL (dcK x):=by
 obtain⟨h1,h2,h3,h4⟩:=h;unfold dcK;split
 ·exact (FitL.kw (by simp) (FitL.cons (qbi h1) (qdj x.ps h2))).app (JA x.cs [61] (by simp) h3)
 ·have h5:=zh x.tr 0 [] h4 FitL.nil
  have e5:x.tr.exK 0 []=qm x.k x.s x.n x.kids x.arms:=zu x.k x.s x.n x.ep x.kids x.arms;rw[e5]at h5;refine ((FitL.app (F:=zj::(if x.rc then [jw] else [])) (FitL.kw (by simp) ?_) (FitL.cons (qbi h1) (FitL.kw (by simp) FitL.nil)))).app h5;split
  ·exact FitL.kw (by simp) FitL.nil
  ·exact FitL.nil
def dsK:List Dc->List Tn
 | []=>[]
 | x::xs=>dcK x++dsK xs
theorem qeP{xs:List Dc}{j:Nat}{x:Dc}(h:xs[j]?=some x):dsK (xs.drop j)=dcK x++dsK (xs.drop (j+1)):=by
 obtain⟨h1,h2⟩:=List.getElem?_eq_some_iff.1 h;rw[List.drop_eq_getElem_cons h1,h2];rfl
theorem qac:∀ xs:List Dc,(∀ x∈xs,dcMay x=true/\x.mok)->AllM (dsK xs)
 | [],_=>AllM.nil
 | x::xs,h=>(qgr (h x (List.mem_cons_self ..)).1 (h x (List.mem_cons_self ..)).2).app (qac xs fun y hy=>h y (List.mem_cons_of_mem _ hy))
theorem qcN:∀ xs:List Dc,(∀ x∈xs,x.ints)->FitL (dsK xs)
 | [],_=>FitL.nil
 | x::xs,h=>(qgq (h x (List.mem_cons_self ..))).app (qcN xs fun y hy=>h y (List.mem_cons_of_mem _ hy))
noncomputable def tlO (xs:List Dc):List UInt8 × Int:=if xs.all dcMay then wrO ((dsK xs).map Tn.b) else ([],2)
abbrev Tb:=Int × List UInt8 × Int
def bO(t:Tb):Int:=if t.1=5 then (if t.2.1=[40] then 1 else if t.2.1=[41] then -1 else 0) else 0
def bC(t:Tb):Int:=if t.1=5 then (if t.2.1=[123] then 1 else if t.2.1=[125] then -1 else 0) else 0
def runB:Int->Int->List Tb->Option (Int × Int)
 | a,b,[]=>some (a,b)
 | a,b,t::F=>if a+bO t<0∨b+bC t<0 then none else runB (a+bO t) (b+bC t) F
def BalB(F:List Tn):Prop:=∀ a b:Int,0<=a->0<=b->∀ G,runB a b (F.map Tn.b++G)=runB a b G
theorem BalB.nil:BalB []:=fun _ _ _ _ _=>rfl
theorem BalB.app{F G:List Tn}(h:BalB F)(k:BalB G):BalB (F++G):=fun a b ha hb H=>by
 rw[List.map_append,List.append_assoc,h a b ha hb,k a b ha hb]
theorem BalB.cons{t:Tn}{F:List Tn}(h:bO t.b=0)(h':bC t.b=0)(k:BalB F):BalB (t::F):=fun a b ha hb H=>by
 rw[List.map_cons,List.cons_append,runB,h,h',Int.add_zero,Int.add_zero,if_neg (by omega),k a b ha hb]
theorem BalB.brk{al:Bool}{F:List Tn}(h:BalB F):BalB (brkL al F):=by
 unfold brkL;split
 ·exact h
 ·intro a b ha hb H
  have e1:bO (tk0 5 [40] 0).b=1:=by decide
  have e2:bC (tk0 5 [40] 0).b=0:=by decide
  have e3:bO (tk0 5 [41] 0).b = -1:=by decide
  have e4:bC (tk0 5 [41] 0).b=0:=by decide
  rw[List.cons_append,List.map_cons,List.cons_append,runB,e1,e2,if_neg (by omega),List.map_append,List.append_assoc,h (a+1) (b+0) (by omega) (by omega),List.map_cons,List.map_nil,List.cons_append,List.nil_append,runB,e3,e4,if_neg (by omega)];congr 1 <;> omega
theorem BalB.brkM{md:Nat}{k:Int}{l:Nat}{F:List Tn}(h:BalB F):BalB (brkM md k l F):=by
 unfold Mu.brkM;repeat' split
 ·exact h
 ·exact h.brk
 ·exact h.brk
theorem b5{k:Int}{s:List UInt8}{n:Int}(h:k≠5):bO (tk0 k s n).b=0/\bC (tk0 k s n).b=0:=⟨if_neg h,if_neg h⟩
theorem BalB.k{k:Int}{s:List UInt8}{n:Int}{F:List Tn}(h:k≠5)(kk:BalB F):BalB (tk0 k s n::F):= .cons (b5 h).1 (b5 h).2 kk
theorem BalB.kw{t:Tn}{F:List Tn}(h:bO t.b=0/\bC t.b=0)(kk:BalB F):BalB (t::F):= .cons h.1 h.2 kk
theorem paR5(k:Int):(paR k).1≠5:=by
 unfold paR;repeat' split
 all_goals (show (_:Int)≠5;decide)
theorem tyR5(k:Int):(tyR k).1≠5:=by
 unfold tyR;repeat' split
 all_goals (show (_:Int)≠5;decide)
theorem exR5{k:Int}{s:List UInt8}(h:(exR k s).1=5):s∈btwL:=by
 by_cases e:s∈btwL
 ·exact e
 ·exfalso
  have e':btwB s=false:=by simp[btwB,e]
  revert h
  unfold exR;rw[e'];repeat' split
  all_goals (show ¬ ((_:Int)=5);first | decide | (rename_i h;cases h))
theorem qb7(m:Int){F:List Tn}(k:BalB F):BalB (qI m::F):=by
 unfold qI;repeat' split
 ·exact .k (by decide) k
 ·exact .kw (by decide) k
 ·exact .kw (by decide) k
theorem Zw(m:Int):BalB [qW m]:=by
 unfold qW;repeat' split
 all_goals exact .kw (by decide) .nil
theorem ZE{k:Int}{s:List UInt8}{n:Int}{K:List Tn}(h:BalB K):BalB (qH k s n K):=by
 unfold qH;split
 ·exact .kw (by decide) .nil
 ·exact .k (paR5 k) h
theorem Jh:∀ f:Tr,BalB f.patK
 | .nil=> .nil
 | .arm ..=> .nil
 | .nod k s n p kids arms r=>by rw[qbm];exact (ZE (Jh kids)).brk.app (Jh r)
theorem Q6:∀ (f:Tr) (sep:List Tn),BalB sep->BalB (f.tyK sep)
 | .nil,_,_=> .nil
 | .arm ..,_,_=> .nil
 | .nod k s n p kids arms r,sep,hs=>by
  rw[Q8];refine (BalB.app (BalB.brk ?_) hs).app (Q6 r _ .nil);unfold zm;split
  ·exact Q6 kids _ (Zw n)
  ·exact .k (tyR5 k) (Q6 kids _ .nil)
theorem BalB.braces{R:List Tn}(h:BalB R):BalB (kwOpen::R++[kwClose]):=fun a b ha hb H=>by
 have e1:bO kwOpen.b=0:=by decide
 have e2:bC kwOpen.b=1:=by decide
 have e3:bO kwClose.b=0:=by decide
 have e4:bC kwClose.b = -1:=by decide
 rw[List.cons_append,List.map_cons,List.cons_append,runB,e1,e2,if_neg (by omega),List.map_append,List.append_assoc,h (a+0) (b+1) (by omega) (by omega),List.map_cons,List.map_nil,List.cons_append,List.nil_append,runB,e3,e4,if_neg (by omega)];congr 1 <;> omega
theorem j7:∀ (f:Tr) (md:Nat) (sep:List Tn),f.ok->f.mayE hEf hPf=true->BalB sep->BalB (f.exK md sep)
 | .nil,_,_,_,_,_=> .nil
 | .arm k s n p kids e r,md,sep,hk,h,hs=>by
  simp only[Tr.mayE,Bool.and_eq_true]at h;show BalB (sep++qH k s n kids.patK++[jl]++e.exK 0 []++r.exK 0 [zQ])
  exact (((hs.app (ZE (Jh kids))).app (.kw (by decide) .nil)).app (j7 e _ _ hk.2.2.2.1 h.1.2 .nil)).app (j7 r _ _ hk.2.2.2.2 h.2 (.kw (by decide) .nil))
 | .nod k s n p kids arms r,md,sep,hk,h,hs=>by
  simp only[Tr.mayE,Bool.and_eq_true]at h;obtain⟨⟨⟨h1,h2⟩,h3⟩,h4⟩:=h;have hK:=fun md sep hs=>j7 kids md sep hk.2.1 h2 hs;have hA:=j7 arms 0 [] hk.2.2.2.1 h3 .nil;rw[zF];refine (BalB.app (BalB.brkM ?_) hs).app (j7 r _ _ hk.2.2.2.2 h4 .nil);unfold qm;repeat' split
  ·exact .kw (by decide) (.k (by decide) (.kw (by decide) (hK _ _ .nil)))
  ·exact .kw (by decide) (.k (by decide) (.kw (by decide) (hK _ _ (.kw (by decide) .nil))))
  ·exact .kw (by decide) (.kw (by decide) (.k (by decide) (.kw (by decide) (hK _ _ (.kw (by decide) .nil)))))
  ·rename_i e8
   have h0:arms ≠ .nil:=by
    rintro rfl;simp only[hEf,Bool.and_eq_true,beq_iff_eq,Tr.len]at h1;have:=h1.2.2;rw[e8]at this;simp at this
   have hia:=hk.2.2.1;clear h1 h3;cases arms with
   | nil=>exact absurd rfl h0
   | nod=>exact hia.elim
   | arm k' s' n' p' kids' e' r'=>
    have hA':BalB (qH k' s' n' kids'.patK++[jl]++e'.exK 0 []++r'.exK 0 [zQ]):=hA;have e:zy::kids.exK 0 []++[kwOf]++(Tr.arm k' s' n' p' kids' e' r').exK 0 [kwOpen]++[kwClose]=(zy::(kids.exK 0 []++[kwOf]))++(kwOpen::(qH k' s' n' kids'.patK++[jl]++e'.exK 0 []++r'.exK 0 [zQ])++[kwClose]):=by
     show zy::kids.exK 0 []++[kwOf]++([kwOpen]++qH k' s' n' kids'.patK++[jl]++e'.exK 0 []++r'.exK 0 [zQ])++[kwClose]=_
     simp
    rw[e];exact (BalB.kw (by decide) ((hK _ _ .nil).app (.kw (by decide) .nil))).app hA'.braces
  ·exact hK _ _ .nil
  ·rename_i e5
   have hb:=exR5 e5;have key:∀ s∈btwL,bO (5,s,0)=0/\bC (5,s,0)=0:=by decide +kernel
   have k1:bO (tk0 5 s n).b=0:=(key s hb).1;have k2:bC (tk0 5 s n).b=0:=(key s hb).2;exact hK _ _ (.cons k1 k2 .nil)
  ·rename_i e5
   exact .k e5 (hK _ _ .nil)
theorem qbf:∀ fs:List Fd,BalB (fdsK fs)
 | []=> .nil
 | f::fs=>by
  refine qb7 _ (BalB.app (BalB.brk ?_) (qbf fs));unfold zm;split
  ·exact Q6 f.kids _ (Zw _)
  ·exact .k (tyR5 _) (Q6 f.kids _ .nil)
theorem Jz:∀ (cs:List Cd) (ah:List UInt8),ah=[61]∨ah=[124]->BalB (Qq ah cs)
 | [],_,_=> .nil
 | c::cs,ah,ha=>by
  have h:=BalB.k (k:=2) (s:=c.nm) (n:=0) (by decide) ((qbf c.fs).app (Jz cs [124] (.inr rfl)));rcases ha with rfl | rfl
  ·exact .kw (by decide) h
  ·exact .kw (by decide) h
theorem qdi:∀ ps:List (List UInt8),BalB (psK ps)
 | []=> .nil
 | s::ps=> .k (by decide) (qdi ps)
theorem qgp{x:Dc}(h:dcMay x=true)(hm:x.mok):BalB (dcK x):=by
 rcases ZY h with ⟨e,h⟩ | ⟨e,_,_,_,h⟩
 ·unfold dcK
  rw[if_pos e];exact .kw (by decide) (.k (by decide) ((qdi x.ps).app (Jz x.cs _ (.inl rfl))))
 ·unfold dcK
  rw[if_neg (by omega)];have hx:=j7 x.tr 0 [] hm.1.2.1 (qcS h hm) .nil;rw[show x.tr.exK 0 []=qm x.k x.s x.n x.kids x.arms from JI ..]at hx;refine (BalB.app (F:=zj::(if x.rc then [jw] else [])) ?_ (.k (by decide) (.kw (by decide) .nil))).app hx;split
  ·exact .kw (by decide) (.kw (by decide) .nil)
  ·exact .kw (by decide) .nil
theorem qcM:∀ xs:List Dc,(∀ x∈xs,dcMay x=true/\x.mok)->BalB (dsK xs)
 | [],_=> .nil
 | x::xs,h=>(qgp (h x (List.mem_cons_self ..)).1 (h x (List.mem_cons_self ..)).2).app (qcM xs fun y hy=>h y (List.mem_cons_of_mem _ hy))
def nsp(u:UInt8):Bool:=decide (u.toNat<128) && !Lib.isSp u
theorem qgX(u:UInt8)(h:isW (u.toNat:Int)=true):nsp u=true:=by
 have key:∀ n:Fin 256,isW ((UInt8.ofNat n.val).toNat:Int)=true->nsp (UInt8.ofNat n.val)=true:=by decide +kernel
 have h2:=key ⟨u.toNat,UInt8.toNat_lt u⟩;simp only[UInt8.ofNat_toNat]at h2;exact h2 h
def Ends2(L:List UInt8):Prop:=(∃ x m,L=x::m/\nsp x=true)/\∃ m y,L=m++[y]/\nsp y=true
theorem zP{L:List UInt8}(h0:L≠[])(h:∀ u∈L,nsp u=true):Ends2 L:=by
 refine⟨?_,?_⟩
 ·cases L with
  | nil=>exact absurd rfl h0
  | cons x m=>exact⟨x,m,rfl,h x (by simp)⟩
 ·exact⟨L.dropLast,L.getLast h0,(List.dropLast_concat_getLast h0).symm,h _ (List.getLast_mem h0)⟩
theorem Ends2.app{A B:List UInt8}(h:Ends2 A)(k:Ends2 B)(M:List UInt8):Ends2 (A++(M++B)):=by
 obtain⟨⟨x,m,rfl,hx⟩,_⟩:=h;obtain⟨_,m',y,rfl,hy⟩:=k;exact⟨⟨x,_,rfl,hx⟩,⟨(x::m)++(M++m'),y,by simp,hy⟩⟩
theorem JR{t:Tb}(h:qv t):Ends2 (putB t.1 t.2.1 t.2.2):=by
 obtain⟨k,s,n⟩:=t;have hs:∀ x∈za++jp++zk,x≠[]/\∀ u∈x,nsp u=true:=by decide +kernel
 rcases h with ⟨e,⟨h1,_,h3,_⟩,_⟩ | ⟨e,⟨h1,_,h3,_⟩,_⟩ | ⟨e,_⟩ | ⟨e,_⟩ | ⟨e,h,_⟩ | ⟨e,h,_⟩
 all_goals (simp only at e;subst e)
 ·exact zP h1 fun u hu=>qgX u (h3 u hu)
 ·exact zP h1 fun u hu=>qgX u (h3 u hu)
 ·show Ends2 (digB n.toNat)
  refine zP (fun e=>?_) fun u hu=>?_
  ·unfold digB byt at e
   exact ju _ (List.map_eq_nil_iff.1 e)
  ·unfold digB byt at hu
   obtain⟨c,hc,rfl⟩:=List.mem_map.1 hu;have hd:=jd _ c hc;have hl:=qab hd;refine qgX _ ?_;have e:((UInt8.ofNat c.toNat).toNat:Int)=c:=by
    rw[UInt8.toNat_ofNat'];omega
   rw[e];unfold isW;rw[hd];rfl
 ·exact⟨⟨34,_,rfl,by decide⟩,⟨34::s.flatMap escB,34,rfl,by decide⟩⟩
 ·have:=hs s (by simp only[List.mem_append];rcases h with h | h;exact .inl (.inl h);exact .inl (.inr h))
  exact zP this.1 this.2
 ·have:=hs s (by simp only[List.mem_append];exact .inr h)
  exact zP this.1 this.2
theorem zL:∀ ts:List Tb,ts≠[]->(∀ t∈ts,qv t)->Ends2 (qg ts)
 | [],h,_=>absurd rfl h
 | [t],_,h=>JR (h t (by simp))
 | t::u::ts,_,h=>(JR (h t (by simp))).app (zL (u::ts) (by simp) fun x hx=>h x (List.mem_cons_of_mem _ hx)) [32]
theorem ZU:∀ ts us:List Tb,ts≠[]->us≠[]->qg (ts++us)=qg ts++32::qg us
 | [],_,h,_=>absurd rfl h
 | [t],u::us,_,_=>rfl
 | [t],[],_,h=>absurd rfl h
 | t::u::ts,us,_,h=>by
  have ih:=ZU (u::ts) us (by simp) h;show putB t.1 t.2.1 t.2.2++(32::qg (u::ts++us))=(putB t.1 t.2.1 t.2.2++(32::qg (u::ts)))++32::qg us
  rw[ih];simp
theorem qhO(x:Dc):dcK x≠[]:=by
 unfold dcK;split
 ·exact List.cons_ne_nil _ _
 ·exact List.cons_ne_nil _ _
theorem JF:∀ {xs:List Dc},xs≠[]->dsK xs≠[]
 | [],h=>absurd rfl h
 | x::xs,_=>fun e=>qhO x (List.append_eq_nil_iff.1 e).1
theorem ZZ:∀ xs ys:List Dc,dsK (xs++ys)=dsK xs++dsK ys
 | [],_=>rfl
 | x::xs,ys=>by show dcK x++dsK (xs++ys)=dcK x++dsK xs++dsK ys;rw[ZZ xs ys,List.append_assoc]
theorem JX{xs:List Dc}(h:(tlO xs).2=0):xs.all dcMay=true/\(∀ t∈(dsK xs).map Tn.b,qv t)/\tlO xs=(qg ((dsK xs).map Tn.b),0)/\(qg ((dsK xs).map Tn.b)).length<=4000/\tlO xs=wrO ((dsK xs).map Tn.b):=by
 unfold tlO at h ⊢;by_cases hm:xs.all dcMay=true
 ·rw[if_pos hm]at h ⊢
  obtain⟨h1,h2,h3⟩:=qig h;exact⟨hm,h1,Prod.ext h2 h,h3,rfl⟩
 ·rw[if_neg hm]at h
  cases h
def Trm(L M:List UInt8):Prop:=∃ a b:Nat,L=List.replicate a 32++(M++List.replicate b 32)/\(M=[]∨Ends2 M)
theorem qhh{xs ys:List Dc}(h:(tlO xs).2=0)(h':(tlO ys).2=0):∃ M,Trm ((tlO xs).1++32::(tlO ys).1) M ∧
  (xs≠[]->ys≠[]->4000<(tlO xs).1.length+(tlO ys).1.length+1->(tlO (xs++ys)).2=3) ∧
  (¬ (xs≠[]/\ys≠[]/\4000<(tlO xs).1.length+(tlO ys).1.length+1)->tlO (xs++ys)=(M,0)):=by
 obtain⟨a1,a2,a3,a4,_⟩:=JX h;obtain⟨b1,b2,b3,b4,_⟩:=JX h';have hall:(xs++ys).all dcMay=true:=by rw[List.all_append,a1,b1];rfl
 have hmay:∀ t∈(dsK (xs++ys)).map Tn.b,qv t:=fun t ht=>by
  rw[ZZ,List.map_append]at ht;rcases List.mem_append.1 ht with ht | ht
  ·exact a2 t ht
  ·exact b2 t ht
 have e:tlO (xs++ys)=if (qg ((dsK (xs++ys)).map Tn.b)).length<=4000 then (qg ((dsK (xs++ys)).map Tn.b),0) else ([],3):=by
  unfold tlO wrO;rw[if_pos hall,if_pos hmay]
 rw[e,a3,b3];by_cases hx:xs=[]
 ·subst hx
  refine⟨qg ((dsK ys).map Tn.b),⟨1,0,by simp[dsK,qg],?_⟩,fun h=>absurd rfl h,fun _=>by rw[List.nil_append,if_pos b4]⟩;by_cases hy:ys=[]
  ·subst hy;exact .inl rfl
  ·exact .inr (zL _ (fun e=>JF hy (List.map_eq_nil_iff.1 e)) b2)
 by_cases hy:ys=[]
 ·subst hy
  refine⟨qg ((dsK xs).map Tn.b),⟨0,1,by simp[dsK,qg],?_⟩,fun _ h=>absurd rfl h,fun _=>by rw[List.append_nil,if_pos a4]⟩;exact .inr (zL _ (fun e=>JF hx (List.map_eq_nil_iff.1 e)) a2)
 have e2:qg ((dsK (xs++ys)).map Tn.b)=qg ((dsK xs).map Tn.b)++32::qg ((dsK ys).map Tn.b):=by
  rw[ZZ,List.map_append,ZU _ _ (fun e=>JF hx (List.map_eq_nil_iff.1 e)) (fun e=>JF hy (List.map_eq_nil_iff.1 e))]
 have h2:=zL ((dsK (xs++ys)).map Tn.b) (fun e=>by
  rw[ZZ]at e;exact JF hx (List.append_eq_nil_iff.1 (List.map_eq_nil_iff.1 e)).1) hmay
 refine⟨qg ((dsK (xs++ys)).map Tn.b),⟨0,0,by rw[e2];simp,.inr h2⟩,fun _ _ hl=>?_,fun hn=>?_⟩
 ·rw[if_neg]
  rw[e2,List.length_append,List.length_cons];simp only at hl;omega
 ·rw[if_pos]
  rw[e2,List.length_append,List.length_cons];simp only at hn;by_cases hc:4000<(qg ((dsK xs).map Tn.b)).length+(qg ((dsK ys).map Tn.b)).length+1
  ·exact absurd ⟨hx,hy,hc⟩ hn
  ·omega
theorem qhg{xs:List Dc}(h:(tlO xs).2=0)(hm:∀ x∈xs,x.mok):runB 0 0 ((dsK xs).map Tn.b)=some (0,0):=by
 obtain⟨a1,_⟩:=JX h;have:=qcM xs (fun x hx=>⟨List.all_eq_true.1 a1 x hx,hm x hx⟩) 0 0 (Int.le_refl _) (Int.le_refl _) [];rw[List.append_nil]at this;rw[this];rfl
end Go.Proofs.YtfpoelklhekfaaaGreatDoor.Mu
namespace Go.Proofs.YtfpoelklhekfaaaGreatDoor.Mu
set_option maxHeartbeats 4000000
open Go Go.RowKit Go.Shelf
attribute [local go_sem] Oper.semAt_some
set_option linter.unusedVariables false
set_option maxRecDepth 100000
theorem qhV:Lib.isSp 32=true:=by decide
theorem zA{u:UInt8}(h:nsp u=true):u.toNat<128/\Lib.isSp u=false:=by
 simp only[nsp,Bool.and_eq_true,decide_eq_true_eq,Bool.not_eq_true']at h;exact h
theorem qer{L M:List UInt8}(h:Trm L M){k:Nat}{x:UInt8}(hk:∀ (j:Nat) b,j<k->L[j]?=some b->Lib.isSp b=true)(hx:L[k]?=some x):x.toNat<128:=by
 obtain⟨a,b,rfl,hM⟩:=h;have h32:∀ y:UInt8,y=32->y.toNat<128:=by rintro y rfl;decide
 rcases Nat.lt_or_ge k a with ha | ha
 ·rw[List.getElem?_append_left (by simpa using ha),List.getElem?_replicate_of_lt ha]at hx
  injection hx with hx
  exact h32 x hx.symm
 rw[List.getElem?_append_right (by simpa using ha),List.length_replicate]at hx;rcases hM with rfl | ⟨⟨y,m,rfl,hy⟩,_⟩
 ·rw[List.nil_append]at hx
  exact h32 x (List.eq_of_mem_replicate (List.mem_of_getElem? hx))
 rcases Nat.eq_or_lt_of_le ha with e | e
 ·subst e
  rw[Nat.sub_self]at hx;simp only[List.cons_append,List.getElem?_cons_zero,Option.some.injEq]at hx;subst hx;exact (zA hy).1
 ·have:=hk a y e (by rw[List.getElem?_append_right (by simp),List.length_replicate,Nat.sub_self];rfl)
  rw[(zA hy).2]at this;cases this
theorem qfB{L M:List UInt8}(h:Trm L M){k:Nat}{x:UInt8}(hk:∀ (j:Nat) b,k<j->L[j]?=some b->Lib.isSp b=true)(hx:L[k]?=some x):x.toNat<128:=by
 obtain⟨a,b,rfl,hM⟩:=h;have h32:∀ y:UInt8,y=32->y.toNat<128:=by rintro y rfl;decide
 rcases Nat.lt_or_ge k a with ha | ha
 ·rw[List.getElem?_append_left (by simpa using ha),List.getElem?_replicate_of_lt ha]at hx
  injection hx with hx
  exact h32 x hx.symm
 rcases hM with rfl | ⟨_,m,y,rfl,hy⟩
 ·rw[List.getElem?_append_right (by simpa using ha),List.nil_append]at hx
  exact h32 x (List.eq_of_mem_replicate (List.mem_of_getElem? hx))
 have hl:(List.replicate a (32:UInt8)++(m++[y]++List.replicate b 32))[a+m.length]?=some y:=by
  rw[List.getElem?_append_right (by simp),List.length_replicate,show a+m.length-a=m.length by omega,List.getElem?_append_left (by simp),List.getElem?_append_right (Nat.le_refl _),Nat.sub_self];rfl
 rcases Nat.lt_trichotomy k (a+m.length) with e | e | e
 ·have:=hk _ y e hl
  rw[(zA hy).2]at this;cases this
 ·subst e
  rw[hl]at hx;injection hx with hx
  subst hx;exact (zA hy).1
 ·rw[List.getElem?_append_right (by simp;omega),List.length_replicate,List.getElem?_append_right (by simp;omega)]at hx
  exact h32 x (List.eq_of_mem_replicate (List.mem_of_getElem? hx))
theorem qfC{L M:List UInt8}(h:Trm L M):Lib.trimSpace L=M:=by
 obtain⟨a,b,rfl,hM⟩:=h;have hr:∀ (n:Nat) (l:List UInt8),(List.replicate n 32++l).dropWhile Lib.isSp=l.dropWhile Lib.isSp:=by
  intro n;induction n with
  | zero=>intro l;rfl
  | succ n ih=>intro l;rw[List.replicate_succ,List.cons_append,List.dropWhile_cons,if_pos qhV,ih]
 unfold Lib.trimSpace;rw[hr];rcases hM with rfl | ⟨⟨y,m,e,hy⟩,m',z,e',hz⟩
 ·have:=hr b []
  rw[List.append_nil]at this;rw[List.nil_append,this];rfl
 ·rw[e,List.cons_append,List.dropWhile_cons,if_neg (by simp[(zA hy).2]),<- List.cons_append,<- e,List.reverse_append,List.reverse_replicate,hr,e',List.reverse_append,List.reverse_cons,List.reverse_nil,List.nil_append,List.cons_append,List.nil_append,List.dropWhile_cons,if_neg (by simp[(zA hz).2])]
  simp
theorem qim(x:ByteArray)(l:List UInt8)(h:x.data.toList=l):x=⟨l.toArray⟩:=by
 subst h;cases x
 simp
theorem qgH(s:ByteArray)(k:Nat)(hk:k<=s.size):(s.extract k s.size).size=s.size-k:=by
 rw[Lib.size_eq,Lib.extract_data,List.length_take,List.length_drop,<- Lib.size_eq];omega
theorem qgG(s:ByteArray)(k j:Nat):(s.extract k s.size).data.toList[j]?=if j<s.size-k then s.data.toList[k+j]? else none:=by
 rw[Lib.extract_data,List.getElem?_take];split
 ·rw[List.getElem?_drop]
 ·rfl
theorem qcV:Tryz.prog.globalNamed "strings.asciiSpace" = some 0:=by kernel_rfl
theorem qfA(s:ByteArray)(M:List UInt8)(w:World)(hs:s.size<=1000000)(hM:Trm s.data.toList M)(htab:Lib.TabIs Tryz.prog w "strings.asciiSpace" .u8 Lib.asciiSpaceTab) :
  Calls Tryz.prog 9 #[.string s] w fun e w'=>e=.returned (.string ⟨M.toArray⟩)/\Bel w w':=by
 have hw:Bel w (Lib.bytesWorld w 5 s):=⟨rfl,rfl,rfl,by rw[Lib.bytesWorld_size];omega,fun j hj=>Lib.bytesWorld_at_old w 5 s j hj⟩
 have htab':Lib.TabIs Tryz.prog (Lib.bytesWorld w 5 s) "strings.asciiSpace" .u8 Lib.asciiSpaceTab:=Lib.bytesWorld_var w 5 s htab;have HT:Hid (∀ x:UInt8,(Lib.bytesWorld w 5 s).cell? ⟨0,x.toNat,none⟩=some (.int .u8 (if Lib.isSp x then 1 else 0))):=hid fun x=>by
  have h1:=htab'.cell qcV x.toNat (by rw[Lib.asciiSpaceTab_length];exact UInt8.toNat_lt x);rw[h1,Lib.asciiSpaceTab_at _ (UInt8.toNat_lt x)];simp
 have HB:Hid (∀ t,t<s.size->(Lib.bytesWorld w 5 s).cell? ⟨w.heap.size,t,none⟩=some (.int .u8 (s.data.toList.getD t 0).toNat)):=hid fun t ht=>Lib.bytesWorld_cell w 5 s t ht;have HW:=hid hw;have HF:=hid fun k x hk hx=>qer (k:=k) (x:=x) hM hk hx;have HL:=hid fun k x hk hx=>qfB (k:=k) (x:=x) hM hk hx;have HM:=hid (qfC hM);clear hM htab htab' hw;go_enter Tryz.func9,Tryz.ntmps9
 go_wp2
 rw[Lib.run_convert_string_bytes w 9 83 5 s (u:= .string) Tryz.underlying9 Tryz.underlying83 Tryz.underlying5];simp only[Result.andThen];rw[Oper.upon_value];obtain⟨W1,hW1⟩:∃ W1,W1=Lib.bytesWorld w 5 s:=⟨_,rfl⟩
 rw[<- hW1]at HT HB HW ⊢;clear hW1;go_wp2
 go_loop [10,0] (fun i s0=>s0=.string s/\∃ k:Nat,k<=s.size/\i=.int .i64 k/\Hid (∀ (j:Nat) b,j<k->s.data.toList[j]?=some b->Lib.isSp b=true)) (fun i _=>s.size-(intOf i).toNat)
 case atStart=>exact⟨rfl,0,Nat.zero_le _,rfl,fun j b hj=>absurd hj (Nat.not_lt_zero _)⟩
 case round=>
  obtain⟨rfl,k,hk,rfl,HSP⟩:=hrel;by_cases hkn:k<s.size
  ·obtain⟨x,hx⟩:∃ x,x=s.data.toList.getD k 0:=⟨_,rfl⟩
   have hxk:s.data.toList[k]?=some x:=by
    rw[hx,List.getD,List.getElem?_eq_getElem (by rw[<- Lib.size_eq];exact hkn)];rfl
   have hc1:W1.cell? ⟨w.heap.size,k,none⟩=some (.int .u8 x.toNat):=by rw[hx];exact HB.out k hkn
   have h128:¬ (128:Int)<=(x.toNat:Int):=by have:=HF.out k x HSP.out hxk;omega
   have hTx:=HT.out x;have HXK:=hid hxk;clear hx hxk;cases hsx:Lib.isSp x with
   | true=>
    rw[hsx,if_pos rfl]at hTx;go_wp2
    go_round
    case rel=>
     refine⟨rfl,k+1,by omega,by go_num,fun j b hj hb=>?_⟩;rcases Nat.lt_or_ge j k with hjk | hjk
     ·exact HSP.out j b hjk hb
     ·obtain rfl:j=k:=by omega
      rw[HXK.out]at hb;injection hb with hb
      rw[<- hb];exact hsx
    case measure=>simp[intOf];omega
   | false=>
    rw[hsx,if_neg (by simp)]at hTx;have hcut1:∀ w,(Instr.slice 9 (.string s) (some (.int .i64 (k:Int))) none none).run Tryz.prog w=.ok (.string (s.extract k s.size)) w:=fun w=>by
     rw[run_slice_string_from_if w 9 s .i64 _ Tryz.underlying9,if_pos ⟨by omega,by omega⟩];rfl
    have hts:=qgH s k hk;have htd:=qgG s k;have hte:(s.extract k s.size).data.toList=(s.data.toList.drop k).take (s.size-k):=Lib.extract_data s k s.size;generalize s.extract k s.size=t at hts htd hte hcut1;have HTD:=hid htd;have HTE:=hid hte;clear htd hte;go_wp2
    go_loop [5] (fun h=>∃ m:Nat,m<s.size-k/\h=.int .i64 m/\Hid (∀ (j:Nat) b,k+m<j->s.data.toList[j]?=some b->Lib.isSp b=true)) (fun h=>(intOf h).toNat)
    case atStart=>
     refine⟨s.size-k-1,by omega,by go_num,fun j b hj hb=>?_⟩;have:s.data.toList.length<=j:=by rw[<- Lib.size_eq];omega
     simp[List.getElem?_eq_none this]at hb
    case round=>
     obtain⟨m,hm,rfl,HS2⟩:=hrel;have hmt:m<t.size:=by omega
     have hty:t.data.toList[m]?=some (t[m]'hmt):=by
      rw[Array.getElem?_toList];exact Array.getElem?_eq_getElem hmt
     have hsm:s.data.toList[k+m]?=some (t[m]'hmt):=by rw[<- hty,HTD.out m,if_pos hm]
     have hy128:¬ (128:Int)<=((t[m]'hmt).toNat:Int):=by have:=HL.out (k+m) _ HS2.out hsm;omega
     have hTy:=HT.out (t[m]'hmt);have HSM:=hid hsm;clear hty hsm;cases hsy:Lib.isSp (t[m]'hmt) with
     | true=>
      rw[hsy,if_pos rfl]at hTy;have hm0:0<m:=by
       rcases Nat.eq_zero_or_pos m with e | e
       ·subst e
        have h1:=HSM.out;rw[Nat.add_zero,HXK.out]at h1;injection h1 with h1
        rw[<- h1,hsx]at hsy;cases hsy
       ·exact e
      go_wp2
      go_round
      case rel=>
       refine⟨m-1,by omega,by go_num,fun j b hj hb=>?_⟩;rcases Nat.lt_or_ge (k+m) j with hjk | hjk
       ·exact HS2.out j b hjk hb
       ·obtain rfl:j=k+m:=by omega
        rw[HSM.out]at hb;injection hb with hb
        rw[<- hb];exact hsy
      case measure=>simp[intOf];omega
     | false=>
      rw[hsy,if_neg (by simp)]at hTy;have hcut2:∀ w,(Instr.slice 9 (.string t) none (some (.int .i64 ((m:Int)+1))) none).run Tryz.prog w=.ok (.string (t.extract 0 (m+1))) w:=fun w=>by
       rw[run_slice_string_to_if w 9 t .i64 _ Tryz.underlying9,if_pos ⟨by omega,by omega⟩,show ((m:Int)+1).toNat=m+1 by omega]
      go_wp2
      go_ret
      refine⟨?_,HW.out⟩;have hcut:=Lib.trimSpace_cut s.data.toList k (k+m) (by omega) (by rw[<- Lib.size_eq];omega) HSP.out (fun b hb=>by rw[HXK.out]at hb;injection hb with hb;rw[<- hb];exact hsx) (fun b hb=>by rw[HSM.out]at hb;injection hb with hb;rw[<- hb];exact hsy) HS2.out;rw[<- HM.out,hcut];show Ending.returned (Value.string (t.extract 0 (m+1)))=_
      rw[qim (t.extract 0 (m+1)) ((s.data.toList.drop k).take (k+m+1-k)) (by
       rw[Lib.extract_data,HTE.out,List.drop_zero,List.take_take];congr 1
       omega)]
  ·obtain rfl:k=s.size:=by omega
   go_wp2
   go_ret
   refine⟨?_,HW.out⟩;rw[<- HM.out,Lib.trimSpace_all s.data.toList (fun j b hb=>HSP.out j b (by
    rw[Lib.size_eq];exact (List.getElem?_eq_some_iff.1 hb).1) hb)]
   rfl
noncomputable def txO (k:Int) (s:List UInt8) (n:Int) (p:Pl) (kids arms:Tr):List UInt8 × Int:=if exMay (.nod k s n p kids arms .nil) then wrO ((qm k s n kids arms).map Tn.b) else ([],2)
theorem Qo(k:Int)(s:List UInt8)(n:Int)(p:Pl)(A:Option Addr)(c:Nat)(B:Option Addr)(bc:Nat)(kids arms:Tr)(w:World)(hk:KidsTr w (OldT w) .ex A kids.len c kids)(ha:KidsTr w (OldT w) .arms B arms.len bc arms)(hsz:kids.size+arms.size<=900000)(ht:Tbl w)(hi:(Tr.nod k s n p kids arms .nil).ints) :
  Calls Tryz.prog 14 #[.agg #[.int .u8 k,.string ⟨s.toArray⟩,n,p.a,p.l,p.c,.slice A kids.len c,.slice B arms.len bc]] w fun e w'=>e=.returned (.tuple #[.string ⟨(txO k s n p kids arms).1.toArray⟩,.int .i64 (txO k s n p kids arms).2])/\Bel w w':=by
 have HM:Hid (∀ (g:Nat) (t:TypeId) (W:World),Bel w W->W.heap[g]?=some (.cells #[.int .u8 k,.string ⟨s.toArray⟩,n,p.a,p.l,p.c,.slice A kids.len c,.slice B arms.len bc] t (0,0)) →
   Calls Tryz.prog 40 #[.int .i64 60,.slice (some ⟨g,0,none⟩) 1 1,.func (.func 34) #[] #[],.func (.func 41) #[] #[]] W (qz (exMay (.nod k s n p kids arms .nil)) W)):=hid fun g t W hW h1=>by
  have e1:=jx (sh:= .ex) (by intro e;cases e) hk (.inl ⟨rfl,ha⟩) hW h1;exact ZD 60 _ 1 1 _ W e1 (by simp only[Tr.size];omega) (by decide) (ht.bel hW) hi
 have hme:=Z7 (k:=k) (s:=s) (n:=n) (p:=p) hk ha;obtain⟨em,hem⟩:∃ b,b=exMay (.nod k s n p kids arms .nil):=⟨_,rfl⟩
 have HR:Hid (txO k s n p kids arms=if em then wrO ((qm k s n kids arms).map Tn.b) else ([],2)):=hid (by rw[hem];rfl);have HE:Hid (em=true->∀ (w0 W:World) (base wp:Nat),Bel w w0->w0.heap.size<=wp->Bel w0 W->Wri W base wp []->Calls Tryz.prog 42 #[.pointer (some ⟨wp,0,none⟩),.agg #[.int .u8 k,.string ⟨s.toArray⟩,n,p.a,p.l,p.c,.slice A kids.len c,.slice B arms.len bc]] W (WrQ w0 base wp [] (qm k s n kids arms) W)):=hid fun he w0 W base wp h0 hwp hW hw=>by
  have hmy:(Tr.nod k s n p kids arms .nil).mayE hEf hPf=true:=by
   rw[hem,hme,Bool.and_eq_true]at he;exact he.1
  exact J3 base wp w0 hwp 1000000 (Nat.le_refl _) k s n p A c B bc kids arms [] W (hk.bel h0) (ha.bel h0) (by simp only[Tr.size];omega) (QX _ hmy) hW hw (by decide)
 have HF:Hid (em=true->FitL (qm k s n kids arms)/\AllM (qm k s n kids arms)):=hid fun he=>by
  have hmy:(Tr.nod k s n p kids arms .nil).mayE hEf hPf=true:=by
   rw[hem,hme,Bool.and_eq_true]at he;exact he.1
  rw[<- JI k s n p kids arms];exact⟨zh _ 0 [] hi FitL.nil,qJ _ 0 [] hmy AllM.nil⟩
 have HT:=hid ht;obtain⟨R,hR⟩:∃ R,R=txO k s n p kids arms:=⟨_,rfl⟩
 obtain⟨F,hF⟩:∃ F,F=qm k s n kids arms:=⟨_,rfl⟩
 obtain⟨kl,hkl⟩:∃ l,l=kids.len:=⟨_,rfl⟩
 obtain⟨al,hal⟩:∃ l,l=arms.len:=⟨_,rfl⟩
 obtain⟨SS,hSS⟩:∃ S:ByteArray,S=⟨s.toArray⟩:=⟨_,rfl⟩
 rw[<- hR,<- hF]at HR;rw[<- hem,<- hkl,<- hal,<- hSS]at HM;rw[<- hF,<- hkl,<- hal,<- hSS]at HE;rw[<- hF]at HF;rw[<- hR,<- hkl,<- hal,<- hSS];clear hk ha hsz ht hi hme hem hR hF hkl hal hSS;have HB1:Hid (Bel w (w.alloc (.cells #[.int .u8 k,SS,n,p.a,p.l,p.c,.slice A kl c,.slice B al bc] 43))):=hid ((Bel.refl w).alloc _);have HB2:Hid (Bel w ((w.alloc (.cells #[.int .u8 k,SS,n,p.a,p.l,p.c,.slice A kl c,.slice B al bc] 43)).alloc (.cells #[.int .u8 k,SS,n,p.a,p.l,p.c,.slice A kl c,.slice B al bc] 43))):=hid (HB1.out.alloc _);have q2:=blk2 w (.cells #[.int .u8 k,SS,n,p.a,p.l,p.c,.slice A kl c,.slice B al bc] 43) (.cells #[.int .u8 k,SS,n,p.a,p.l,p.c,.slice A kl c,.slice B al bc] 43);have HQ2:=hid q2.1;have HM2:=hid (HM.out (w.heap.size+1) _ _ HB2.out q2.2);clear q2 HM;go_enter Tryz.func14,Tryz.ntmps14
 go_wp2_with fail
 refine HM2.out.mono ?_;rintro e w3 ⟨rfl,hb3⟩;have HB3:=hid (HB2.out.on hb3);have hq3:=hb3.blk HQ2.out;have HQ3:=hid hq3;obtain⟨x0,x1,x2,x3,x4,x5,x6,x7⟩:=box8 hq3;have kb:w.heap.size<w3.heap.size:=(Array.getElem?_eq_some_iff.1 hq3).1;clear hb3 hq3 HM2 HB1 HB2 HQ2;cases em
 ·have hR:R=([],2):=HR.out
  subst hR;clear HE HF HR;go_wp2_with fail
  go_ret2
  exact⟨rfl,HB3.out⟩
 have HF':=hid (HF.out rfl);clear HF;have HW4:Hid (Wri (w3.alloc (.cells #[.slice none 0 0] 68)) (w3.heap.size+1) w3.heap.size []):=hid (Wri.new w3);have HB4:Hid (Bel w3 (w3.alloc (.cells #[.slice none 0 0] 68))):=hid ((Bel.refl w3).alloc _);have HE4:=hid (HE.out rfl w3 _ _ _ HB3.out (Nat.le_refl _) HB4.out HW4.out);have hq4:=HB4.out.blk HQ3.out;clear HE;go_wp2_with fail
 refine HE4.out.mono ?_;rintro e w5 ⟨rfl,hb5,⟨r,hw5,hr5,hl5⟩,hk5⟩;obtain⟨A5,n5,c5,hc5,hcall⟩:=J6 (w0:=w3) (HT.out.bel (HB3.out.on hb5)) hw5 hr5 hl5 HF'.out.1 HF'.out.2;have hR:wrO (F.map Tn.b)=R:=by rw[HR.out];rfl
 rw[hR]at hcall;have HC5:=hid hcall;have HB5:=hid (HB3.out.on hb5);have hl5':w3.heap.size<w5.heap.size:=World.block_lt_of_cell? w5 _ hc5;clear hb5 hw5 hr5 hl5 hk5 hcall hR hq4 x0 x1 x2 x3 x4 x5 x6 x7 kb HE4 HF';go_wp2_with fail
 refine HC5.out.mono ?_;rintro e w6 ⟨rfl,hb6⟩;have HB6:=hid (HB5.out.on hb6);clear hb6 hc5 hl5';go_wp2_with fail
 go_ret2
 exact⟨rfl,HB6.out⟩
end Go.Proofs.YtfpoelklhekfaaaGreatDoor.Mu
namespace Go.Proofs.YtfpoelklhekfaaaGreatDoor.Mu
open Go Go.RowKit Go.Shelf
set_option linter.unusedVariables false
set_option maxRecDepth 100000
def p00:Pl:=⟨0,0,0⟩
def tO(k:Int)(s:List UInt8)(kids r:Tr):Tr:= .nod k s 0 p00 kids .nil r
def tN(s:List UInt8)(r:Tr):Tr:=tO 1 s .nil r
def t1(r:Tr):Tr:= .nod 2 [] 1 p00 .nil .nil r
def kGx:Tr:=tN [103] (tN [120] .nil)
def kFg:Tr:=tN [102] (tO 5 [] kGx .nil)
def kSum:Tr:=tO 5 [] kFg (t1 .nil)
def kCn:Tr:=tN [120] (tO 9 [78,105,108] .nil .nil)
def kLam:Tr:=tO 9 [67,111,110,115] kCn .nil
def kAx:Tr:=tO 9 [65] .nil (tN [120] .nil)
def kX:Tr:=tN [120] .nil
theorem jN(s:List UInt8)(big:Bool)(h:(decide (s≠[])&&decide (s.length<=24)&&s.all (fun u=>isW (u.toNat:Int))&&(if big then isGr ((asc s).headD 0) else isSm ((asc s).headD 0))&&decide (s ∉ za)&&decide (s ∉ zk))=true):qb4 s big:=by
 simp only[Bool.and_eq_true,decide_eq_true_eq,List.all_eq_true]at h;refine⟨h.1.1.1.1.1,h.1.1.1.1.2,h.1.1.1.2,?_,h.1.2,h.2⟩;cases big
 ·simpa using h.1.1.2
 ·simpa using h.1.1.2
theorem Je(s:List UInt8)(h:qb4 s false):mtB (1,s,0)=true:=by unfold mtB;simp only[decide_eq_true_eq];exact .inl ⟨rfl,h,rfl⟩
theorem JN(s:List UInt8)(h:qb4 s true):mtB (2,s,0)=true:=by unfold mtB;simp only[decide_eq_true_eq];exact .inr (.inl ⟨rfl,h,rfl⟩)
theorem qh6:mtB (3,[],1)=true:=by unfold mtB;simp only[decide_eq_true_eq];exact .inr (.inr (.inl ⟨rfl,by decide,by decide,rfl⟩))
theorem qgS:mtB (5,[43],0)=true:=by unfold mtB;simp only[decide_eq_true_eq];exact .inr (.inr (.inr (.inr (.inl ⟨rfl,.inr (by decide +kernel),rfl⟩))))
theorem n_f:mtB (1,[102],0)=true:=Je _ (jN _ _ (by decide +kernel))
theorem n_g:mtB (1,[103],0)=true:=Je _ (jN _ _ (by decide +kernel))
theorem n_x:mtB (1,[120],0)=true:=Je _ (jN _ _ (by decide +kernel))
theorem n_a:mtB (1,[97],0)=true:=Je _ (jN _ _ (by decide +kernel))
theorem c_A:mtB (2,[65],0)=true:=JN _ (jN _ _ (by decide +kernel))
theorem c_T:mtB (2,[84],0)=true:=JN _ (jN _ _ (by decide +kernel))
theorem qio:mtB (2,[78,105,108],0)=true:=JN _ (jN _ _ (by decide +kernel))
theorem qhK:mtB (2,[67,111,110,115],0)=true:=JN _ (jN _ _ (by decide +kernel))
theorem qhL:mtB (2,[76,105,115,116],0)=true:=JN _ (jN _ _ (by decide +kernel))
theorem qiI:mtB (1,[108,101,116],0)=false:=by
 unfold mtB;simp only[decide_eq_false_iff_not];rintro (⟨_,h,_⟩ | ⟨h,_⟩ | ⟨h,_⟩ | ⟨h,_⟩ | ⟨h,_⟩ | ⟨h,_⟩)
 ·exact h.2.2.2.2.1 (by decide +kernel)
 ·exact absurd h (by decide)
 ·exact absurd h (by decide)
 ·exact absurd h (by decide)
 ·exact absurd h (by decide)
 ·exact absurd h (by decide)
theorem kN(s:List UInt8)(r:Tr)(h:mtB (1,s,0)=true):(tN s r).mayE hEf hPf=r.mayE hEf hPf:=by
 have e:hEf 1 s 0 0 0=true:=by simp[hEf,exR,keepB,h]
 simp[tN,tO,Tr.mayE,Tr.len,e]
theorem kA(kids r:Tr)(h:kids.len=2):(tO 5 [] kids r).mayE hEf hPf=(kids.mayE hEf hPf&&r.mayE hEf hPf):=by
 have e:hEf 5 [] 0 2 0=true:=by simp[hEf,exR,keepB]
 simp[tO,Tr.mayE,Tr.len,h,e]
theorem kC(s:List UInt8)(kids r:Tr)(h:mtB (2,s,0)=true):(tO 9 s kids r).mayE hEf hPf=(kids.mayE hEf hPf&&r.mayE hEf hPf):=by
 have e:hEf 9 s 0 kids.len 0=true:=by simp[hEf,exR,keepB,h]
 simp[tO,Tr.mayE,Tr.len,e]
theorem kL(s:List UInt8)(kids r:Tr)(h:mtB (1,s,0)=true)(hl:kids.len=1):(tO 4 s kids r).mayE hEf hPf=(kids.mayE hEf hPf&&r.mayE hEf hPf):=by
 have e:hEf 4 s 0 1 0=true:=by simp[hEf,exR,keepB,h]
 simp[tO,Tr.mayE,Tr.len,hl,e]
theorem kP(kids r:Tr)(hl:kids.len=2):(tO 10 [43] kids r).mayE hEf hPf=(kids.mayE hEf hPf&&r.mayE hEf hPf):=by
 have b:btwB [43]=true:=by decide +kernel
 have e:hEf 10 [43] 0 2 0=true:=by simp[hEf,exR,keepB,b,qgS]
 simp[tO,Tr.mayE,Tr.len,hl,e]
theorem kI(r:Tr):(t1 r).mayE hEf hPf=r.mayE hEf hPf:=by
 have e:hEf 2 [] 1 0 0=true:=by simp[hEf,exR,keepB,qh6]
 simp[t1,Tr.mayE,Tr.len,e]
theorem qh4:(tO 10 [43] kSum .nil).mayE hEf hPf=true:=by
 rw[kP _ _ rfl,kSum,kA _ _ rfl,kFg,kN _ _ n_f,kA _ _ rfl,kGx,kN _ _ n_g,kN _ _ n_x,kI];rfl
theorem qh3:(tO 4 [120] kLam .nil).mayE hEf hPf=true:=by
 rw[kL _ _ _ n_x rfl,kLam,kC _ _ _ qhK,kCn,kN _ _ n_x,kC _ _ _ qio];rfl
theorem m_ax:(tO 5 [] kAx .nil).mayE hEf hPf=true:=by
 rw[kA _ _ rfl,kAx,kC _ _ _ c_A,kN _ _ n_x];rfl
theorem m_a:(tO 9 [65] kX .nil).mayE hEf hPf=true:=by
 rw[kC _ _ _ c_A,kX,kN _ _ n_x];rfl
theorem Zj{F:List Tn}{s:List UInt8}(h:AllM F)(e:qg (F.map Tn.b)=s)(hl:s.length<=4000):wrO (F.map Tn.b)=(s,0):=by
 unfold wrO;rw[if_pos (fun t ht=>by obtain⟨x,hx,rfl⟩:=List.mem_map.1 ht;exact h x hx),e,if_pos hl]
theorem qiN:wrO ((qm 10 [43] 0 kSum .nil).map Tn.b)=([40,32,102,32,40,32,103,32,120,32,41,32,41,32,43,32,49],0):=by
 have h:=qJ _ 0 [] qh4 AllM.nil;have e:(tO 10 [43] kSum .nil).exK 0 []=qm 10 [43] 0 kSum .nil:=zu 10 [43] 0 p00 kSum .nil;rw[e]at h;exact Zj h (by decide +kernel) (by decide)
theorem qiM:wrO ((qm 4 [120] 0 kLam .nil).map Tn.b)=([92,32,120,32,45,62,32,67,111,110,115,32,120,32,78,105,108],0):=by
 have h:=qJ _ 0 [] qh3 AllM.nil;have e:(tO 4 [120] kLam .nil).exK 0 []=qm 4 [120] 0 kLam .nil:=zu 4 [120] 0 p00 kLam .nil;rw[e]at h;exact Zj h (by decide +kernel) (by decide)
theorem w_ax:wrO ((qm 5 [] 0 kAx .nil).map Tn.b)=([40,32,65,32,41,32,120],0):=by
 have h:=qJ _ 0 [] m_ax AllM.nil;have e:(tO 5 [] kAx .nil).exK 0 []=qm 5 [] 0 kAx .nil:=zu 5 [] 0 p00 kAx .nil;rw[e]at h;exact Zj h (by decide +kernel) (by decide)
theorem w_a:wrO ((qm 9 [65] 0 kX .nil).map Tn.b)=([65,32,120],0):=by
 have h:=qJ _ 0 [] m_a AllM.nil;have e:(tO 9 [65] kX .nil).exK 0 []=qm 9 [65] 0 kX .nil:=zu 9 [65] 0 p00 kX .nil;rw[e]at h;exact Zj h (by decide +kernel) (by decide)
theorem qiO:(Tr.nod 5 [] 0 p00 (t1 .nil) .nil .nil).mayE hEf hPf=false:=by
 have e:hEf 5 [] 0 1 0=false:=by simp[hEf,exR,keepB]
 simp[t1,Tr.mayE,Tr.len,e]
theorem qiP:(Tr.nod 1 [108,101,116] 0 p00 .nil .nil .nil).mayE hEf hPf=false:=by
 have e:hEf 1 [108,101,116] 0 0 0=false:=by simp[hEf,exR,keepB,qiI]
 simp[Tr.mayE,Tr.len,e]
theorem qih:(Tr.nod 8 [] 0 p00 (t1 .nil) .nil .nil).mayE hEf hPf=false:=by
 have e:hEf 8 [] 0 1 0=false:=by simp[hEf,exR,keepB]
 simp[t1,Tr.mayE,Tr.len,e]
def kLa:Tr:= .nod 1 [97] 0 p00 .nil .nil .nil
def kD:Dc:=⟨1,[84],p00,[[97]],[⟨[65],p00,[⟨1,2,[76,105,115,116],0,p00,kLa⟩,⟨2,1,[97],0,p00,.nil⟩]⟩],false,0,[],0,p00,.nil,.nil⟩
theorem qhN:dcMay kD=true:=by
 have h1:hTf 1 [97] 0 0=true:=by simp[hTf,tyR,keepB,n_a]
 have h2:hTf 2 [76,105,115,116] 0 1=true:=by simp[hTf,tyR,keepB,qhL]
 have m1:mltB 1=true:=by decide
 have m2:mltB 2=true:=by decide
 have sz:(Dc.tr kD).same qeD=true:=by decide +kernel
 have f1:fdMay ⟨1,2,[76,105,115,116],0,p00,kLa⟩=true:=by
  simp[fdMay,m1,Fd.tr,kLa,Tr.pre,qX,hdP,h1,h2,Tr.len]
 have f2:fdMay ⟨2,1,[97],0,p00,.nil⟩=true:=by
  simp[fdMay,m2,Fd.tr,Tr.pre,qX,hdP,h1,Tr.len]
 have e:dcMay kD=daMay kD:=rfl;rw[e];unfold daMay;rw[sz];simp[kD,n_a,c_T,cdMay,f1,f2,c_A]
theorem qiq:kD.mok:=by
 refine⟨⟨trivial,⟨trivial,trivial,trivial,trivial,trivial⟩,⟨trivial,trivial,trivial⟩⟩,fun c hc f hf=>?_⟩;simp only[kD,List.mem_singleton]at hc;subst hc;simp only[List.mem_cons,List.not_mem_nil,or_false]at hf;rcases hf with rfl | rfl
 ·exact⟨rfl,⟨rfl,trivial,trivial⟩,trivial⟩
 ·exact⟨rfl,trivial,trivial⟩
theorem w_d:tlO [kD]=([100,97,116,97,32,84,32,97,32,61,32,65,32,49,32,40,32,76,105,115,116,32,97,32,41,32,63,32,97],0):=by
 unfold tlO;rw[if_pos (by simp[qhN])];exact Zj (qac [kD] (fun x hx=>by rw[List.mem_singleton.1 hx];exact⟨qhN,qiq⟩)) (by decide +kernel) (by decide)
end Go.Proofs.YtfpoelklhekfaaaGreatDoor.Mu
namespace Go.Proofs.YtfpoelklhekfaaaGreatDoor.Mu
open Go Go.RowKit Go.Shelf
attribute [local go_sem] Oper.semAt_some
set_option linter.unusedVariables false
set_option maxRecDepth 100000
theorem qc5{w:World}{g:Nat}{x0 x1 x2 x3 x4 x5 x6 x7:Value}(h:w.heap[g]?=some (.cells #[x0,x1,x2,x3,x4,x5,x6,x7] 43 (0,0))):(loadVar 43 ⟨g,0,none⟩).run Tryz.prog w=.ok (.agg #[x0,x1,x2,x3,x4,x5,x6,x7]) w:=by
 have c0:w.cell? ⟨g,0,none⟩=some x0:=by simp[World.cell?,h]
 have c1:w.cell? ⟨g,1,none⟩=some x1:=by simp[World.cell?,h]
 have c2:w.cell? ⟨g,2,none⟩=some x2:=by simp[World.cell?,h]
 have c3:w.cell? ⟨g,3,none⟩=some x3:=by simp[World.cell?,h]
 have c4:w.cell? ⟨g,4,none⟩=some x4:=by simp[World.cell?,h]
 have c5:w.cell? ⟨g,5,none⟩=some x5:=by simp[World.cell?,h]
 have c6:w.cell? ⟨g,6,none⟩=some x6:=by simp[World.cell?,h]
 have c7:w.cell? ⟨g,7,none⟩=some x7:=by simp[World.cell?,h]
 simp[loadVar,go_sem,c0,c1,c2,c3,c4,c5,c6,c7]
theorem qQ(S:ByteArray)(w:World):Calls Tryz.prog 11 #[.string S] w fun e w'=>e=.returned (.agg #[.int .u8 1,S,(0:Int),(0:Int),(0:Int),(0:Int),.slice none 0 0,.slice none 0 0])/\Bel w w':=by
 go_enter Tryz.func11,Tryz.ntmps11
 go_wp2_with fail
 have hb:Bel w (w.alloc (.cells #[.int .u8 1,S,(0:Int),(0:Int),(0:Int),(0:Int),.slice none 0 0,.slice none 0 0] 43)):=(Bel.refl w).alloc _;have hq:=qc5 (blk1 w (.cells #[.int .u8 1,S,(0:Int),(0:Int),(0:Int),(0:Int),.slice none 0 0,.slice none 0 0] 43))
 (try simp only[Exit.inBlock,Exit.then])
 refine bodyPost_ret (qf (v:= .agg #[.int .u8 1,S,(0:Int),(0:Int),(0:Int),(0:Int),.slice none 0 0,.slice none 0 0]) rfl _ _ _ rfl hq) rfl ?_;exact⟨rfl,hb⟩
theorem qM(k:Int)(S:ByteArray)(A:Option Addr)(l c:Nat)(w:World):Calls Tryz.prog 10 #[.int .u8 k,S,.slice A l c] w fun e w'=>e=.returned (.agg #[.int .u8 k,S,(0:Int),(0:Int),(0:Int),(0:Int),.slice A l c,.slice none 0 0])/\Bel w w':=by
 go_enter Tryz.func10,Tryz.ntmps10
 go_wp2_with fail
 have hb:Bel w (w.alloc (.cells #[.int .u8 k,S,(0:Int),(0:Int),(0:Int),(0:Int),.slice A l c,.slice none 0 0] 43)):=(Bel.refl w).alloc _;have hq:=qc5 (blk1 w (.cells #[.int .u8 k,S,(0:Int),(0:Int),(0:Int),(0:Int),.slice A l c,.slice none 0 0] 43))
 (try simp only[Exit.inBlock,Exit.then])
 refine bodyPost_ret (qf (v:= .agg #[.int .u8 k,S,(0:Int),(0:Int),(0:Int),(0:Int),.slice A l c,.slice none 0 0]) rfl _ _ _ rfl hq) rfl ?_;exact⟨rfl,hb⟩
theorem QF(k:Int)(s:List UInt8)(n:Int)(A:Option Addr)(l c:Nat)(kids:Tr)(t:List UInt8)(w:World)(hk:KidsTr w (OldT w) .ex A l c kids)(hsz:kids.size<=1000)(hd:(Tr.nod k s n p00 kids .nil .nil).depth<=60)(ht:Tbl w)(hi:(Tr.nod k s n p00 kids .nil .nil).ints)(hm:(Tr.nod k s n p00 kids .nil .nil).mayE hEf hPf=true)(hw:wrO ((qm k s n kids .nil).map Tn.b)=(t,0)) :
  Calls Tryz.prog 12 #[.agg #[.int .u8 k,.string ⟨s.toArray⟩,n,(0:Int),(0:Int),(0:Int),.slice A l c,.slice none 0 0],.string ⟨t.toArray⟩] w (qz true w):=by
 have hl:=hk.1;subst hl;have ha:KidsTr w (OldT w) .arms none 0 0 .nil:=⟨rfl,Nat.le_refl _,fun h=>absurd h (by decide)⟩
 have hem:=Z7 (k:=k) (s:=s) (n:=n) (p:=p00) (arms:= .nil) hk ha;rw[hm,decide_eq_true hd]at hem;have hO:txO k s n p00 kids .nil=(t,0):=by unfold txO;rw[hem,<- hw];rfl
 have HT:Hid (∀ W,Bel w W->Calls Tryz.prog 14 #[.agg #[.int .u8 k,.string ⟨s.toArray⟩,n,(0:Int),(0:Int),(0:Int),.slice A kids.len c,.slice none 0 0]] W fun e w'=>e=.returned (.tuple #[.string ⟨t.toArray⟩,(0:Int)])/\Bel W w'):=hid fun W hW=>by
  have h:=Qo k s n p00 A c none 0 kids .nil W (hk.bel hW) (ha.bel hW) (by simp only[Tr.size];omega) (ht.bel hW) hi;rw[hO]at h;exact h
 obtain⟨SS,hSS⟩:∃ S:ByteArray,S=⟨s.toArray⟩:=⟨_,rfl⟩
 obtain⟨ST,hST⟩:∃ S:ByteArray,S=⟨t.toArray⟩:=⟨_,rfl⟩
 obtain⟨kl,hkl⟩:∃ l,l=kids.len:=⟨_,rfl⟩
 rw[<- hSS,<- hST,<- hkl]at HT;rw[<- hSS,<- hST,<- hkl];clear hk hsz hd ht hi hm hw ha hem hO hSS hST hkl;have HB1:Hid (Bel w (w.alloc (.cells #[.int .u8 k,SS,n,(0:Int),(0:Int),(0:Int),.slice A kl c,.slice none 0 0] 43))):=hid ((Bel.refl w).alloc _);go_enter Tryz.func12,Tryz.ntmps12
 go_wp2_with fail
 refine (HT.out _ HB1.out).mono ?_;rintro e w3 ⟨rfl,hb3⟩;have HB3:=hid (HB1.out.on hb3);clear hb3 HT HB1;go_wp2_with fail
 go_ret
 exact⟨by simp,HB3.out⟩
end Go.Proofs.YtfpoelklhekfaaaGreatDoor.Mu
namespace Go.Proofs.YtfpoelklhekfaaaGreatDoor.Mu
open Go Go.RowKit Go.Shelf
set_option linter.unusedVariables false
set_option maxRecDepth 100000
def Okz(w:World)(j:Nat):Prop:=j<w.heap.size/\w.heap[j]?≠some (.cells #[.int .u8 0,.string ⟨#[]⟩,.int .i64 0,.int .i64 0,.int .i64 0,.int .i64 0,.slice none 0 0,.slice none 0 0] 43 (0,0))
theorem Okz.bel{w w':World}(hb:Bel w w')(j:Nat)(h:Okz w j):Okz w' j:=⟨Nat.lt_of_lt_of_le h.1 hb.size,by rw[hb.block j h.1];exact h.2⟩
theorem KidsZ.bel{w w':World}{A:Option Addr}{l c:Nat}{f:Tr}(h:KidsTr w (Okz w) .ex A l c f)(hb:Bel w w'):KidsTr w' (Okz w') .ex A l c f:=(h.keep (fun j hj=>hb.block j hj.1)).wide (Okz.bel hb)
theorem zw{w:World}{F:Tr}{vs:List Value}(h:Tells w (Okz w) .ex F vs)(hz:vs[0]?≠some (.int .u8 0))(m:Nat)(hm:m=F.len)(h0:0<m) :
  KidsTr (w.alloc (.cells vs.toArray 43)) (Okz (w.alloc (.cells vs.toArray 43))) .ex (some ⟨w.heap.size,0,none⟩) m m F:=by
 have hb:Bel w (w.alloc (.cells vs.toArray 43)):=(Bel.refl w).alloc _;refine⟨hm,Nat.le_refl _,fun _=>⟨w.heap.size,0,rfl,⟨by simp,fun e=>hz ?_⟩,?_⟩⟩
 ·rw[blk1]at e
  injection e with e
  injection e with e _ _
  have:=congrArg (fun a:Array Value=>a[0]?) e;simpa using this
 ·refine (h.2.2 _ w.heap.size 0 (fun j u hu=>?_) (fun j hj=>hb.block j hj.1)).wide (Okz.bel hb) _ _ _ _
  unfold World.cell?
  simp only[blk1];simpa using hu
theorem qu(w:World)(Ok:Nat->Prop)(sh:Sh):KidsTr w Ok sh none 0 0 .nil:=⟨rfl,Nat.le_refl _,fun h=>absurd h (by decide)⟩
theorem Qn{w:World}{Ok:Nat->Prop}(k:Int)(s:List UInt8){A:Option Addr}{l c:Nat}{kids:Tr}(h:KidsTr w Ok .ex A l c kids):Tells w Ok .ex (tO k s kids .nil) [.int .u8 k,.string ⟨s.toArray⟩,(0:Int),(0:Int),(0:Int),(0:Int),.slice A l c,.slice none 0 0]:=by
 have hl:=h.1;subst hl;exact Tells.one (sh:= .ex) (by intro e;cases e) (arms:= .nil) (B:=none) (bc:=0) h (.inl ⟨rfl,qu w Ok .arms⟩)
theorem Q5{w:World}{Ok:Nat->Prop}(s:List UInt8):Tells w Ok .ex (tN s .nil) [.int .u8 1,.string ⟨s.toArray⟩,(0:Int),(0:Int),(0:Int),(0:Int),.slice none 0 0,.slice none 0 0]:=Qn 1 s (qu w Ok .ex)
theorem qel{w:World}{Ok:Nat->Prop}:Tells w Ok .ex (t1 .nil) [.int .u8 2,.string ⟨#[]⟩,.int .i64 1,(0:Int),(0:Int),(0:Int),.slice none 0 0,.slice none 0 0]:=
 Tells.one (sh:= .ex) (by intro e;cases e) (kids:= .nil) (arms:= .nil) (A:=none) (c:=0) (B:=none) (bc:=0) (qu w Ok .ex) (.inl ⟨rfl,qu w Ok .arms⟩)
theorem qfk{w:World}{g:Nat}{t:TypeId}{x0 x1 x2 x3 x4 x5 x6 x7:Value}(h:w.heap[g]?=some (.cells #[x0,x1,x2,x3,x4,x5,x6,x7] t (0,0)))(y0 y1 y2 y3 y4 y5 y6 y7:Value) :
  ((((((((w.setCell ⟨g,0,none⟩ y0).setCell ⟨g,1,none⟩ y1).setCell ⟨g,2,none⟩ y2).setCell ⟨g,3,none⟩ y3).setCell ⟨g,4,none⟩ y4).setCell ⟨g,5,none⟩ y5).setCell ⟨g,6,none⟩ y6).setCell ⟨g,7,none⟩ y7).heap[g]?=some (.cells #[y0,y1,y2,y3,y4,y5,y6,y7] t (0,0)):=by
 simp[World.setCell,Array.getElem?_modify,h]
theorem qfl{w:World}{g:Nat}(y0 y1 y2 y3 y4 y5 y6 y7:Value)(j:Nat)(hj:j≠g) :
  ((((((((w.setCell ⟨g,0,none⟩ y0).setCell ⟨g,1,none⟩ y1).setCell ⟨g,2,none⟩ y2).setCell ⟨g,3,none⟩ y3).setCell ⟨g,4,none⟩ y4).setCell ⟨g,5,none⟩ y5).setCell ⟨g,6,none⟩ y6).setCell ⟨g,7,none⟩ y7).heap[j]?=w.heap[j]?:=by
 have e:∀ (w:World) (o:Nat) (v:Value),(w.setCell ⟨g,o,none⟩ v).heap[j]?=w.heap[j]?:=fun w o v=>Below.heap_setCell _ _ _ _ hj;simp only[e]
theorem qeQ{w:World}{g:Nat}{t:TypeId}{x0 x1 x2 x3 x4 x5 x6 x7:Value}(h:w.heap[g]?=some (.cells #[x0,x1,x2,x3,x4,x5,x6,x7] t (0,0))) :
  w.frozen? ⟨g,0,none⟩=false/\w.frozen? ⟨g,1,none⟩=false/\w.frozen? ⟨g,2,none⟩=false/\w.frozen? ⟨g,3,none⟩=false/\w.frozen? ⟨g,4,none⟩=false/\w.frozen? ⟨g,5,none⟩=false/\w.frozen? ⟨g,6,none⟩=false/\w.frozen? ⟨g,7,none⟩=false:=by
 simp[World.frozen?,h]
end Go.Proofs.YtfpoelklhekfaaaGreatDoor.Mu
