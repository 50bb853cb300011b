import Derived.Test.YtlmmaoobembadaaGreatDoorQam
open Go.Lib (hid)
namespace Go.Proofs.YtlmmaoobembadaaGreatDoor.Mu
open Go Go.RowKit Go.Shelf
set_option linter.unusedVariables false
def WrQ(w0:World)(base wp:Nat)(xs F:List Tn)(W:World):Ending->World->Prop:=fun e w'=>e=.returned (.tuple #[])/\Bel w0 w'/\(∃ r,Wri w' base wp r/\WrR xs F r/\r.length<=5000)/\KpW W w' wp
def qJ(k:Int)(s:List UInt8)(n:Int)(K:List Tn):List Tn:=if k=2 then [tk0 5 [95] 0] else tk0 (paR k).1 s n::K
def Tr.patK:Tr->List Tn
 | .nil=>[]
 | .nod k s n _ kids _ r=>brkL (alnP k kids.len) (qJ k s n kids.patK)++r.patK
 | .arm ..=>[]
def Tr.tyK:Tr->List Tn->List Tn
 | .nil,_=>[]
 | .nod k s n _ kids _ r,sep=>brkL (alnT k kids.len) (if k=3 then kids.tyK [qr n] else tk0 (tyR k).1 s 0::kids.tyK [])++sep++r.tyK []
 | .arm ..,_=>[]
def qI(k:Int)(s:List UInt8)(n:Int)(kids:Tr):List Tn:=if k=3 then kids.tyK [qr n] else tk0 (tyR k).1 s 0::kids.tyK []
def brkM(md:Nat)(k:Int)(l:Nat)(F:List Tn):List Tn:=if md=0 then F else if md=1 then brkL (alnF k l) F else brkL (alnE k l) F
def nxM(md:Nat):Nat:=if md=1 then 2 else md
def qF:Tn:=tk0 5 [108,101,116] 0
def zZ:Tn:=tk0 5 [114,101,99] 0
def kwIn:Tn:=tk0 5 [105,110] 0
def zj:Tn:=tk0 5 [99,97,115,101] 0
def kwOf:Tn:=tk0 5 [111,102] 0
def kwEq:Tn:=tk0 5 [61] 0
def jv:Tn:=tk0 5 [45,62] 0
def jB:Tn:=tk0 5 [92] 0
def zL:Tn:=tk0 5 [123] 0
def qM:Tn:=tk0 5 [125] 0
def jc:Tn:=tk0 5 [59] 0
def Tr.exK:Tr->Nat->List Tn->List Tn
 | .nil,_,_=>[]
 | .nod k s n _ kids arms r,md,sep=>brkM md k kids.len
   (if k=4 then jB::tk0 1 s 0::jv::kids.exK 0 []
    else if k=6 then qF::tk0 1 s 0::kwEq::kids.exK 0 [kwIn]
    else if k=7 then qF::zZ::tk0 1 s 0::kwEq::kids.exK 0 [kwIn]
    else if k=8 then zj::kids.exK 0 []++[kwOf]++arms.exK 0 [zL]++[qM]
    else if k=5 then kids.exK 1 []
    else if (exR k s).1=5 then kids.exK 2 [tk0 5 s n]
    else tk0 (exR k s).1 s n::kids.exK 2 [])++sep++r.exK (nxM md) []
 | .arm k s n _ kids e r,_,sep=>sep++qJ k s n kids.patK++[jv]++e.exK 0 []++r.exK 0 [jc]
def qg(k:Int)(s:List UInt8)(n:Int)(kids arms:Tr):List Tn:=
 if k=4 then jB::tk0 1 s 0::jv::kids.exK 0 []
 else if k=6 then qF::tk0 1 s 0::kwEq::kids.exK 0 [kwIn]
 else if k=7 then qF::zZ::tk0 1 s 0::kwEq::kids.exK 0 [kwIn]
 else if k=8 then zj::kids.exK 0 []++[kwOf]++arms.exK 0 [zL]++[qM]
 else if k=5 then kids.exK 1 []
 else if (exR k s).1=5 then kids.exK 2 [tk0 5 s n]
 else tk0 (exR k s).1 s n::kids.exK 2 []
theorem zV(k:Int)(s:List UInt8)(n:Int)(p:Pl)(kids arms r:Tr):(Tr.nod k s n p kids arms r).patK=brkL (alnP k kids.len) (qJ k s n kids.patK)++r.patK:=rfl
theorem zI(k:Int)(s:List UInt8)(n:Int)(p:Pl)(kids arms r:Tr)(sep:List Tn):(Tr.nod k s n p kids arms r).tyK sep=brkL (alnT k kids.len) (qI k s n kids)++sep++r.tyK []:=rfl
theorem qO(k:Int)(s:List UInt8)(n:Int)(p:Pl)(kids arms r:Tr)(md:Nat)(sep:List Tn):(Tr.nod k s n p kids arms r).exK md sep=brkM md k kids.len (qg k s n kids arms)++sep++r.exK (nxM md) []:=rfl
def Tr.brX(al:Int->Nat->Bool):Tr->List Tn
 | .nil=>[]
 | .nod k s n _ kids arms r=>brkL (al k kids.len) (qg k s n kids arms)++r.brX al
 | .arm ..=>[]
def Tr.brP:Tr->List Tn
 | .nil=>[]
 | .nod k s n _ kids arms r=>brkL (alnP k kids.len) (qJ k s n kids.patK)++r.brP
 | .arm ..=>[]
def Tr.brT:Tr->List Tn
 | .nil=>[]
 | .nod k s n _ kids arms r=>brkL (alnT k kids.len) (qI k s n kids)++r.brT
 | .arm ..=>[]
def Tr.dropN:Tr->Nat->Tr
 | f,0=>f
 | .nil,_+1=> .nil
 | .nod _ _ _ _ _ _ r,i+1=>r.dropN i
 | .arm _ _ _ _ _ _ r,i+1=>r.dropN i
theorem Tr.dropN_nil:∀ i,Tr.nil.dropN i=.nil
 | 0=>rfl
 | _+1=>rfl
theorem Tr.dropN_all:∀ (f:Tr) (i:Nat),f.len<=i->f.dropN i=.nil
 | .nil,i,_=>Tr.dropN_nil i
 | .nod _ _ _ _ _ _ r,0,h=>by simp[Tr.len]at h
 | .arm _ _ _ _ _ _ r,0,h=>by simp[Tr.len]at h
 | .nod _ _ _ _ _ _ r,i+1,h=>Tr.dropN_all r i (by simpa [Tr.len] using h)
 | .arm _ _ _ _ _ _ r,i+1,h=>Tr.dropN_all r i (by simpa [Tr.len] using h)
theorem Tr.dropN_nod{k:Int}{s:List UInt8}{n:Int}{p:Pl}{kids arms:Tr}:∀ (f:Tr) (i:Nat),f.nth i=.nod k s n p kids arms .nil->f.dropN i=.nod k s n p kids arms (f.dropN (i+1))
 | .nil,i,h=>by cases i <;> simp[Tr.nth]at h
 | .nod _ _ _ _ _ _ r,0,h=>by
  simp only[Tr.nth,Tr.nod.injEq]at h;obtain⟨rfl,rfl,rfl,rfl,rfl,rfl,_⟩:=h;cases r <;> rfl
 | .arm _ _ _ _ _ _ r,0,h=>by simp[Tr.nth]at h
 | .nod _ _ _ _ _ _ r,i+1,h=>Tr.dropN_nod r i h
 | .arm _ _ _ _ _ _ r,i+1,h=>Tr.dropN_nod r i h
def Tr.shp:Tr->Prop
 | .nil=>True
 | .nod k s _ _ kids arms r=>(k=4->kids.len=1)/\(k=5∨k=6∨k=7->kids.len=2)/\(k=8->kids.len=1)/\((exR k s).1=5->kids.len=2)/\kids.shp/\arms.shp/\r.shp
 | .arm _ _ _ _ _ e r=>e.shp/\r.shp
def Tr.shpT:Tr->Prop
 | .nil=>True
 | .nod k _ _ _ kids _ r=>(k=3->kids.len=2)/\kids.shpT/\r.shpT
 | .arm ..=>True
theorem Tr.nth_shp:∀ (f:Tr) (i:Nat),f.shp->(f.nth i).shp
 | .nil,_,_=>trivial
 | .nod _ _ _ _ a b r,0,h=>⟨h.1,h.2.1,h.2.2.1,h.2.2.2.1,h.2.2.2.2.1,h.2.2.2.2.2.1,trivial⟩
 | .arm _ _ _ _ a b r,0,h=>⟨h.1,trivial⟩
 | .nod _ _ _ _ a b r,i+1,h=>Tr.nth_shp r i h.2.2.2.2.2.2
 | .arm _ _ _ _ a b r,i+1,h=>Tr.nth_shp r i h.2
theorem Tr.nth_shpT:∀ (f:Tr) (i:Nat),f.isNods->f.shpT->(f.nth i).shpT
 | .nil,_,_,_=>trivial
 | .nod _ _ _ _ a b r,0,_,h=>⟨h.1,h.2.1,trivial⟩
 | .arm ..,_,h,_=>h.elim
 | .nod _ _ _ _ a b r,i+1,hn,h=>Tr.nth_shpT r i hn h.2.2
theorem Tr.brX_exK:∀ f:Tr,f.isNods->f.exK 2 []=f.brX alnE
 | .nil,_=>rfl
 | .arm ..,h=>h.elim
 | .nod k s n p kids arms r,h=>by
  rw[qO,Tr.brX,show nxM 2=2 from rfl,Tr.brX_exK r h];simp[brkM]
theorem Tr.brP_patK:∀ f:Tr,f.patK=f.brP
 | .nil=>rfl
 | .arm ..=>rfl
 | .nod k s n p kids arms r=>by rw[zV,Tr.brP,Tr.brP_patK r]
theorem Tr.brT_tyK:∀ f:Tr,f.tyK []=f.brT
 | .nil=>rfl
 | .arm ..=>rfl
 | .nod k s n p kids arms r=>by rw[zI,Tr.brT,Tr.brT_tyK r,List.append_nil]
theorem Tr.two:∀ f:Tr,f.isNods->f.len=2->∃ k s n p a b k' s' n' p' a' b',f=.nod k s n p a b (.nod k' s' n' p' a' b' .nil)
 | .nil,_,h=>by simp[Tr.len]at h
 | .arm ..,h,_=>h.elim
 | .nod k s n p a b r,h,hl=>by
  obtain⟨k',s',n',p',a',b',e⟩:=Tr.one_nod r (by simpa [Tr.len] using hl) h;exact⟨k,s,n,p,a,b,k',s',n',p',a',b',by rw[e]⟩
def stT(t:Tn):Prop:=t.k=1∨t.k=2∨(t.k=5/\t.s=[40])
def NsT(r:List Tn):Prop:=∀ t l,r=t::l->¬ stT t
def Tr.wfT:Tr->Prop
 | .nil=>True
 | .nod k s n _ kids arms r=>((k=1/\n=0/\kids=.nil)∨(k=2/\n=0)∨(k=3/\s=[]/\kids.len=2/\(n=1∨n=2∨n=3)))/\arms=.nil/\kids.wfT/\r.wfT
 | .arm ..=>False
theorem Tr.same_nil:∀ f:Tr,f.len=0->f=.nil
 | .nil,_=>rfl
 | .nod ..,h=>by simp[Tr.len]at h
 | .arm ..,h=>by simp[Tr.len]at h
theorem qbY{m m':Int}(h:m=1∨m=2∨m=3)(h':m'=1∨m'=2∨m'=3)(e:qr m=qr m'):m=m':=by
 rcases h with rfl | rfl | rfl <;> rcases h' with rfl | rfl | rfl <;> first | rfl | (simp[qr,tk0]at e)
theorem qcK(m:Int):¬ stT (qr m):=by
 unfold qr stT;repeat' split
 all_goals simp[tk0]
theorem qcJ(m:Int):qr m≠tk0 5 [41] 0:=by
 unfold qr;repeat' split
 all_goals simp[tk0]
def InjT(f:Tr):Prop:=
 (∀ g r r',f.wfT->g.wfT->NsT r->NsT r'->f.brT++r=g.brT++r'->f.same g=true/\r=r') ∧
 (∀ g m m' r r',f.wfT->g.wfT->f.len=2->g.len=2->NsT r->NsT r'->f.tyK [qr m]++r=g.tyK [qr m']++r'->f.same g=true/\qr m=qr m'/\r=r')
theorem zU{k:Int}{s:List UInt8}{n:Int}{kids:Tr}(hk:k=1∨k=2):qI k s n kids=tk0 k s 0::kids.brT:=by
 rcases hk with rfl | rfl <;> simp[qI,tyR,Tr.brT_tyK]
theorem ZX:∀ (f:Tr) (t:Tn) (l:List Tn),f.wfT->f.brT=t::l->stT t
 | .nil,t,l,_,h=>by simp[Tr.brT]at h
 | .arm ..,_,_,hw,_=>hw.elim
 | .nod k s n p kids arms r,t,l,hw,h=>by
  simp only[Tr.brT,brkL]at h;by_cases ha:alnT k kids.len=true
  ·have hk:k=1∨k=2:=by simp[alnT]at ha;rcases ha with h | h;exact .inl h;exact .inr h.1
   rw[if_pos ha,zU hk]at h;simp only[List.cons_append,List.cons.injEq]at h;obtain⟨rfl,_⟩:=h;rcases hk with rfl | rfl
   ·exact .inl rfl
   ·exact .inr (.inl rfl)
  ·rw[if_neg ha]at h
   simp only[List.cons_append,List.cons.injEq]at h;obtain⟨rfl,_⟩:=h;exact .inr (.inr ⟨rfl,rfl⟩)
theorem qgg{k:Int}{s:List UInt8}{n:Int}{p:Pl}{kids arms r:Tr}(h:(Tr.nod k s n p kids arms r).brT=[]):False:=by
 simp only[Tr.brT,brkL]at h;by_cases ha:alnT k kids.len=true
 ·have hk:k=1∨k=2:=by simp[alnT]at ha;rcases ha with h | h;exact .inl h;exact .inr h.1
  rw[if_pos ha,zU hk]at h;simp at h
 ·rw[if_neg ha]at h
  simp at h
theorem qip(f:Tr)(hw:f.wfT)(a:Tn)(ha:¬ stT a)(c d:List Tn)(hc:∀ t l,c=t::l->t≠a)(hn:c≠[]):f.brT++c≠a::d:=by
 intro h;cases e:f.brT with
 | nil=>rw[e]at h;exact hc _ _ h rfl
 | cons t l=>rw[e]at h;simp only[List.cons_append,List.cons.injEq]at h;exact ha (h.1 ▸ ZX f t l hw e)
theorem qdA{s:List UInt8}{n:Int}{kids:Tr}(hl:kids.len=2)(hw:kids.wfT):∃ x,(∃ t,stT t/\t.k≠5/\qI 3 s n kids=t::qr n::x)∨qI 3 s n kids=tk0 5 [40] 0::x:=by
 cases kids with
 | nil=>simp[Tr.len]at hl
 | arm=>exact hw.elim
 | nod k1 s1 n1 p1 a b r=>
  rw[show qI 3 s n (.nod k1 s1 n1 p1 a b r)=(Tr.nod k1 s1 n1 p1 a b r).tyK [qr n] by simp[qI],zI];simp only[brkL];by_cases ha:alnT k1 a.len=true
  ·have hk:(k1=1∨k1=2)/\a=.nil:=by
    simp[alnT]at ha;rcases ha with h | h
    ·rcases hw.1 with h' | h' | h'
     ·exact⟨.inl h,h'.2.2⟩
     ·omega
     ·omega
    ·exact⟨.inr h.1,Tr.same_nil _ h.2⟩
   rw[if_pos ha,zU hk.1,hk.2];refine⟨_,.inl ⟨tk0 k1 s1 0,?_,?_,by simp[Tr.brT];rfl⟩⟩
   ·rcases hk.1 with rfl | rfl
    ·exact .inl rfl
    ·exact .inr (.inl rfl)
   ·rcases hk.1 with rfl | rfl <;> simp[tk0]
  ·rw[if_neg ha]
   exact⟨_,.inr (by simp only[List.cons_append,List.append_assoc];rfl)⟩
def clT:Tn:=tk0 5 [41] 0
theorem zn{k:Int}{s s':List UInt8}{n n':Int}{kids kids':Tr}(hk:k=1∨k=2)(hw:kids.wfT)(hl':kids'.len=2)(hw':kids'.wfT)(c c':List Tn):qI k s n kids++clT::c≠qI 3 s' n' kids'++clT::c':=by
 intro h;rw[zU hk]at h;obtain⟨x,⟨t,ht,ht5,e⟩ | e⟩:=qdA (s:=s') (n:=n') hl' hw'
 ·rw[e]at h
  simp only[List.cons_append,List.cons.injEq]at h;exact qip kids hw (qr n') (qcK n') (clT::c) _ (fun t l e=>by simp only[List.cons.injEq]at e;exact e.1 ▸ (qcJ n').symm) (by simp) h.2
 ·rw[e]at h
  simp only[List.cons_append,List.cons.injEq]at h;rcases hk with rfl | rfl <;> simp[tk0]at h
theorem NsT.cl(c:List Tn):NsT (clT::c):=fun t l e=>by
 simp only[List.cons.injEq]at e;rw[<- e.1];simp[stT,clT,tk0]
theorem qhE{k k':Int}{s s':List UInt8}{n n':Int}{p p':Pl}{kids kids' arms arms':Tr}(IH:InjT kids)(hw:(Tr.nod k s n p kids arms .nil).wfT)(hw':(Tr.nod k' s' n' p' kids' arms' .nil).wfT){c c':List Tn}(h:qI k s n kids++clT::c=qI k' s' n' kids'++clT::c'):k=k'/\s=s'/\n=n'/\kids.same kids'=true/\c=c':=by
 obtain⟨h1,ha,hwk,_⟩:=hw;obtain⟨h1',ha',hwk',_⟩:=hw';have flat:∀ {k k':Int},(k=1∨k=2)->(k'=1∨k'=2)->n=0->n'=0->qI k s n kids++clT::c=qI k' s' n' kids'++clT::c'->k=k'/\s=s'/\n=n'/\kids.same kids'=true/\c=c':=by
  intro k k' hk hk' hn hn' h;rw[zU hk,zU hk']at h;simp only[List.cons_append,List.cons.injEq]at h;obtain⟨ht,h⟩:=h;simp only[tk0,Tn.mk.injEq]at ht;obtain⟨hs,hc⟩:=IH.1 kids' _ _ hwk hwk' (NsT.cl c) (NsT.cl c') h;simp only[List.cons.injEq]at hc;exact⟨ht.1,ht.2.1,by rw[hn,hn'],hs,hc.2⟩
 rcases h1 with ⟨rfl,hn,_⟩ | ⟨rfl,hn⟩ | ⟨rfl,hs,hl,hn⟩ <;> rcases h1' with ⟨rfl,hn',_⟩ | ⟨rfl,hn'⟩ | ⟨rfl,hs',hl',hn'⟩
 ·exact flat (.inl rfl) (.inl rfl) hn hn' h
 ·exact flat (.inl rfl) (.inr rfl) hn hn' h
 ·exact absurd h (zn (.inl rfl) hwk hl' hwk' c c')
 ·exact flat (.inr rfl) (.inl rfl) hn hn' h
 ·exact flat (.inr rfl) (.inr rfl) hn hn' h
 ·exact absurd h (zn (.inr rfl) hwk hl' hwk' c c')
 ·exact absurd h.symm (zn (.inl rfl) hwk' hl hwk c' c)
 ·exact absurd h.symm (zn (.inr rfl) hwk' hl hwk c' c)
 ·have h2:kids.tyK [qr n]++clT::c=kids'.tyK [qr n']++clT::c':=by simpa [qI] using h
  obtain⟨e1,e2,e3⟩:=IH.2 kids' n n' _ _ hwk hwk' hl hl' (NsT.cl c) (NsT.cl c') h2;simp only[List.cons.injEq]at e3;exact⟨rfl,by rw[hs,hs'],qbY hn hn' e2,e1,e3.2⟩
theorem Jb{k k':Int}{s s':List UInt8}{n n':Int}{p p':Pl}{kids kids' arms arms':Tr}(IH:InjT kids)(hw:(Tr.nod k s n p kids arms .nil).wfT)(hw':(Tr.nod k' s' n' p' kids' arms' .nil).wfT){c c':List Tn}(h:brkL (alnT k kids.len) (qI k s n kids)++c=brkL (alnT k' kids'.len) (qI k' s' n' kids')++c'):k=k'/\s=s'/\n=n'/\kids.same kids'=true/\c=c':=by
 have one:∀ {k:Int} {s:List UInt8} {n:Int} {p:Pl} {kids arms:Tr},(Tr.nod k s n p kids arms .nil).wfT->alnT k kids.len=true->(k=1∨k=2)/\n=0/\kids=.nil/\qI k s n kids=[tk0 k s 0]:=by
  intro k s n p kids arms hw ha;simp[alnT]at ha;obtain⟨h1,_⟩:=hw;have hk:(k=1∨k=2)/\n=0/\kids=.nil:=by
   rcases ha with ha | ha
   ·rcases h1 with h1 | h1 | h1
    ·exact⟨.inl ha,h1.2.1,h1.2.2⟩
    ·omega
    ·omega
   ·rcases h1 with h1 | h1 | h1
    ·omega
    ·exact⟨.inr ha.1,h1.2,Tr.same_nil _ ha.2⟩
    ·omega
  exact⟨hk.1,hk.2.1,hk.2.2,by rw[zU hk.1,hk.2.2];rfl⟩
 by_cases ha:alnT k kids.len=true <;> by_cases ha':alnT k' kids'.len=true
 ·obtain⟨hk,hn,rfl,e⟩:=one hw ha
  obtain⟨hk',hn',rfl,e'⟩:=one hw' ha';simp only[brkL,ha,ha',if_true,e,e',List.cons_append,List.nil_append,List.cons.injEq,tk0,Tn.mk.injEq]at h;exact⟨h.1.1,h.1.2.1,by rw[hn,hn'],rfl,h.2⟩
 ·obtain⟨hk,hn,rfl,e⟩:=one hw ha
  simp only[brkL,if_pos ha,if_neg ha',e,List.cons_append,List.cons.injEq,tk0,Tn.mk.injEq]at h;rcases hk with rfl | rfl <;> simp at h
 ·obtain⟨hk',hn',rfl,e'⟩:=one hw' ha'
  simp only[brkL,if_neg ha,if_pos ha',e',List.cons_append,List.cons.injEq,tk0,Tn.mk.injEq]at h;rcases hk' with rfl | rfl <;> simp at h
 ·simp only[brkL,if_neg ha,if_neg ha',List.cons_append,List.append_assoc,List.nil_append,List.cons.injEq,true_and]at h
  exact qhE IH hw hw' h
theorem injT:∀ f:Tr,InjT f
 | .nil=>by
  refine⟨fun g r r' _ hg hr hr' h=>?_,fun g m m' r r' _ _ hl _ _ _ _=>by simp[Tr.len]at hl⟩;cases g with
  | nil=>exact⟨rfl,h⟩
  | arm=>exact hg.elim
  | nod k s n p a b q=>
   cases e:(Tr.nod k s n p a b q).brT with
   | nil=>exact (qgg e).elim
   | cons t l=>
    rw[e]at h;simp only[Tr.brT,List.nil_append,List.cons_append]at h;exact absurd (ZX _ t l hg e) (hr t _ h)
 | .arm ..=>⟨fun _ _ _ h=>h.elim,fun _ _ _ _ _ h=>h.elim⟩
 | .nod k s n p kids arms q=>by
  have IH:=injT kids;have IQ:=injT q;have wf1:∀ {k:Int} {s:List UInt8} {n:Int} {p:Pl} {kids arms q:Tr},(Tr.nod k s n p kids arms q).wfT->(Tr.nod k s n p kids arms .nil).wfT:=fun h=>⟨h.1,h.2.1,h.2.2.1,trivial⟩
  refine⟨fun g r r' hf hg hr hr' h=>?_,fun g m m' r r' hf hg hl hl' hr hr' h=>?_⟩
  ·cases g with
   | arm=>exact hg.elim
   | nil=>
    cases e:(Tr.nod k s n p kids arms q).brT with
    | nil=>exact (qgg e).elim
    | cons t l=>
     rw[e]at h;simp only[Tr.brT,List.nil_append,List.cons_append]at h;exact absurd (ZX _ t l hf e) (hr' t _ h.symm)
   | nod k' s' n' p' a' b' q'=>
    simp only[Tr.brT,List.append_assoc]at h;obtain⟨rfl,rfl,rfl,hs,h2⟩:=Jb IH (wf1 hf) (wf1 hg) h;obtain⟨hq,h3⟩:=IQ.1 q' r r' hf.2.2.2 hg.2.2.2 hr hr' h2;exact⟨by simp[Tr.same,hs,hq,hf.2.1,hg.2.1],h3⟩
  ·cases g with
   | arm=>exact hg.elim
   | nil=>simp[Tr.len]at hl'
   | nod k' s' n' p' a' b' q'=>
    simp only[zI,List.append_assoc,List.cons_append,List.nil_append]at h;obtain⟨rfl,rfl,rfl,hs,h2⟩:=Jb IH (wf1 hf) (wf1 hg) h;simp only[List.cons.injEq,Tr.brT_tyK]at h2;obtain⟨hq,h3⟩:=IQ.1 q' r r' hf.2.2.2 hg.2.2.2 hr hr' h2.2;exact⟨by simp[Tr.same,hs,hq,hf.2.1,hg.2.1],h2.1,h3⟩
def stP(t:Tn):Prop:=t.k=1∨t.k=2∨t.k=3∨t.k=4∨(t.k=5/\(t.s=[40]∨t.s=[95]))
def NsP(r:List Tn):Prop:=∀ t l,r=t::l->¬ stP t
def Tr.wfP:Tr->Prop
 | .nil=>True
 | .nod k s n _ kids arms r=>((k=1/\n=0/\kids=.nil)∨(k=2/\s=[]/\n=0/\kids=.nil)∨(k=3/\s=[]/\kids=.nil)∨(k=4/\n=0/\kids=.nil)∨(k=5/\n=0))/\arms=.nil/\kids.wfP/\r.wfP
 | .arm ..=>False
def InjP(f:Tr):Prop:=∀ g r r',f.wfP->g.wfP->NsP r->NsP r'->f.patK++r=g.patK++r'->f.same g=true/\r=r'
def paT(k:Int)(s:List UInt8)(n:Int):Tn:=if k=2 then tk0 5 [95] 0 else tk0 (paR k).1 s n
theorem jd{k:Int}{s:List UInt8}{n:Int}{p:Pl}{kids arms:Tr}(hw:(Tr.nod k s n p kids arms .nil).wfP):qJ k s n kids.patK=paT k s n::kids.patK:=by
 unfold qJ paT;by_cases h:k=2
 ·obtain⟨h1,_⟩:=hw
  have hk:kids=.nil:=by
   rcases h1 with h1 | h1 | h1 | h1 | h1
   ·exact h1.2.2
   ·exact h1.2.2.2
   ·exact h1.2.2
   ·exact h1.2.2
   ·omega
  subst hk;rw[if_pos h,if_pos h];rfl
 ·rw[if_neg h,if_neg h]
theorem qdC{k k':Int}{s s':List UInt8}{n n':Int}{p p':Pl}{kids kids' arms arms':Tr}(hw:(Tr.nod k s n p kids arms .nil).wfP)(hw':(Tr.nod k' s' n' p' kids' arms' .nil).wfP)(h:paT k s n=paT k' s' n'):k=k'/\s=s'/\n=n':=by
 obtain⟨h1,_⟩:=hw;obtain⟨h1',_⟩:=hw';rcases h1 with ⟨rfl,hn,_⟩ | ⟨rfl,hs,hn,_⟩ | ⟨rfl,hs,_⟩ | ⟨rfl,hn,_⟩ | ⟨rfl,hn⟩ <;> rcases h1' with ⟨rfl,hn',_⟩ | ⟨rfl,hs',hn',_⟩ | ⟨rfl,hs',_⟩ | ⟨rfl,hn',_⟩ | ⟨rfl,hn'⟩ <;>
  simp[paT,paR,tk0]at h <;> simp_all
theorem qdD{k:Int}{s:List UInt8}{n:Int}{p:Pl}{kids arms:Tr}(hw:(Tr.nod k s n p kids arms .nil).wfP):stP (paT k s n)/\paT k s n≠tk0 5 [40] 0:=by
 obtain⟨h1,_⟩:=hw;rcases h1 with ⟨rfl,_⟩ | ⟨rfl,_⟩ | ⟨rfl,_⟩ | ⟨rfl,_⟩ | ⟨rfl,_⟩ <;> simp[paT,paR,stP,tk0]
theorem wfP1{k:Int}{s:List UInt8}{n:Int}{p:Pl}{kids arms q:Tr}(h:(Tr.nod k s n p kids arms q).wfP):(Tr.nod k s n p kids arms .nil).wfP:=⟨h.1,h.2.1,h.2.2.1,trivial⟩
theorem JV:∀ (f:Tr) (t:Tn) (l:List Tn),f.wfP->f.patK=t::l->stP t
 | .nil,t,l,_,h=>by simp[Tr.patK]at h
 | .arm ..,_,_,hw,_=>hw.elim
 | .nod k s n p kids arms r,t,l,hw,h=>by
  rw[zV,jd (wfP1 hw)]at h;unfold brkL at h;split at h
  ·simp only[List.cons_append,List.cons.injEq]at h
   exact h.1 ▸ (qdD (wfP1 hw)).1
  ·simp only[List.cons_append,List.cons.injEq]at h
   rw[<- h.1];exact .inr (.inr (.inr (.inr ⟨rfl,.inl rfl⟩)))
theorem qdE{k:Int}{s:List UInt8}{n:Int}{p:Pl}{kids arms r:Tr}(hw:(Tr.nod k s n p kids arms r).wfP)(h:(Tr.nod k s n p kids arms r).patK=[]):False:=by
 rw[zV,jd (wfP1 hw)]at h;unfold brkL at h;split at h <;> simp at h
theorem NsP.cl(c:List Tn):NsP (clT::c):=fun t l e=>by
 simp only[List.cons.injEq]at e;rw[<- e.1];simp[stP,clT,tk0]
theorem qbv{k k':Int}{s s':List UInt8}{n n':Int}{p p':Pl}{kids kids' arms arms':Tr}(IH:InjP kids)(hw:(Tr.nod k s n p kids arms .nil).wfP)(hw':(Tr.nod k' s' n' p' kids' arms' .nil).wfP){c c':List Tn}(hc:NsP c)(hc':NsP c')(h:qJ k s n kids.patK++c=qJ k' s' n' kids'.patK++c'):k=k'/\s=s'/\n=n'/\kids.same kids'=true/\c=c':=by
 rw[jd hw,jd hw']at h;simp only[List.cons_append,List.cons.injEq]at h;obtain⟨e1,e2,e3⟩:=qdC hw hw' h.1;obtain⟨hs,e⟩:=IH kids' c c' hw.2.2.1 hw'.2.2.1 hc hc' h.2;exact⟨e1,e2,e3,hs,e⟩
theorem qdH{k k':Int}{s s':List UInt8}{n n':Int}{p p':Pl}{kids kids' arms arms':Tr}(IH:InjP kids)(hw:(Tr.nod k s n p kids arms .nil).wfP)(hw':(Tr.nod k' s' n' p' kids' arms' .nil).wfP){c c':List Tn}(h:brkL (alnP k kids.len) (qJ k s n kids.patK)++c=brkL (alnP k' kids'.len) (qJ k' s' n' kids'.patK)++c'):k=k'/\s=s'/\n=n'/\kids.same kids'=true/\c=c':=by
 have one:∀ {k:Int} {s:List UInt8} {n:Int} {p:Pl} {kids arms:Tr},(Tr.nod k s n p kids arms .nil).wfP->alnP k kids.len=true->kids=.nil:=by
  intro k s n p kids arms hw ha;obtain⟨h1,_⟩:=hw;simp[alnP]at ha;rcases h1 with h1 | h1 | h1 | h1 | h1
  ·exact h1.2.2
  ·exact h1.2.2.2
  ·exact h1.2.2
  ·exact h1.2.2
  ·exact Tr.same_nil _ (ha.resolve_left (fun h=>h h1.1))
 by_cases ha:alnP k kids.len=true <;> by_cases ha':alnP k' kids'.len=true
 ·have e:=one hw ha
  have e':=one hw' ha';simp only[brkL,if_pos ha,if_pos ha']at h;rw[jd hw,jd hw',e,e']at h;simp only[Tr.patK,List.cons_append,List.nil_append,List.cons.injEq]at h;obtain⟨e1,e2,e3⟩:=qdC hw hw' h.1;exact⟨e1,e2,e3,by rw[e,e'];rfl,h.2⟩
 ·simp only[brkL,if_pos ha,if_neg ha']at h
  rw[jd hw]at h;simp only[List.cons_append,List.cons.injEq]at h;exact ((qdD hw).2 h.1).elim
 ·simp only[brkL,if_neg ha,if_pos ha']at h
  rw[jd hw']at h;simp only[List.cons_append,List.cons.injEq]at h;exact ((qdD hw').2 h.1.symm).elim
 ·simp only[brkL,if_neg ha,if_neg ha',List.cons_append,List.append_assoc,List.nil_append,List.cons.injEq,true_and]at h
  obtain⟨e1,e2,e3,e4,e5⟩:=qbv IH hw hw' (NsP.cl c) (NsP.cl c') h;simp only[List.cons.injEq]at e5;exact⟨e1,e2,e3,e4,e5.2⟩
theorem injP:∀ f:Tr,InjP f
 | .nil=>fun g r r' _ hg hr hr' h=>by
  cases g with
  | nil=>exact⟨rfl,h⟩
  | arm=>exact hg.elim
  | nod k s n p a b q=>
   cases e:(Tr.nod k s n p a b q).patK with
   | nil=>exact (qdE hg e).elim
   | cons t l=>
    rw[e]at h;simp only[Tr.patK,List.nil_append,List.cons_append]at h;exact absurd (JV _ t l hg e) (hr t _ h)
 | .arm ..=>fun _ _ _ h=>h.elim
 | .nod k s n p kids arms q=>fun g r r' hf hg hr hr' h=>by
  have IH:=injP kids;have IQ:=injP q;cases g with
  | arm=>exact hg.elim
  | nil=>
   cases e:(Tr.nod k s n p kids arms q).patK with
   | nil=>exact (qdE hf e).elim
   | cons t l=>
    rw[e]at h;simp only[Tr.patK,List.nil_append,List.cons_append]at h;exact absurd (JV _ t l hf e) (hr' t _ h.symm)
  | nod k' s' n' p' a' b' q'=>
   rw[zV,zV,List.append_assoc,List.append_assoc]at h;obtain⟨rfl,rfl,rfl,hs,h2⟩:=qdH IH (wfP1 hf) (wfP1 hg) h;obtain⟨hq,h3⟩:=IQ q' r r' hf.2.2.2 hg.2.2.2 hr hr' h2;exact⟨by simp[Tr.same,hs,hq,hf.2.1,hg.2.1],h3⟩
def stA(t:Tn):Prop:=t.k=1∨t.k=2∨t.k=3∨t.k=4∨(t.k=5/\t.s=[40])
def NsA(r:List Tn):Prop:=∀ t l,r=t::l->¬ stA t
def NsX(r:List Tn):Prop:=∀ t l,r=t::l->¬ stA t/\¬ (t.k=5/\btwB t.s=true)
theorem NsX.a{r:List Tn}(h:NsX r):NsA r:=fun t l e=>(h t l e).1
def Tr.wfX:Tr->Prop
 | .nil=>True
 | .nod k s n _ kids arms r=>(k=2∨n=0)/\((k=1/\kids=.nil/\arms=.nil)∨(k=2/\s=[]/\kids=.nil/\arms=.nil)∨(k=3/\kids=.nil/\arms=.nil)∨(k=4/\kids.len=1/\arms=.nil)∨(k=5/\s=[]/\kids.len=2/\arms=.nil)∨(k=6/\kids.len=2/\arms=.nil)∨(k=7/\kids.len=2/\arms=.nil)∨(k=8/\s=[]/\kids.len=1)∨(k=9/\arms=.nil)∨(k=10/\arms=.nil/\(btwB s=true->kids.len=2)))/\kids.isNods/\kids.wfX/\arms.wfX/\(k=8->arms=.nil ∨ ∃ k' s' n' p' a' e' q',arms=.arm k' s' n' p' a' e' q')/\r.wfX/\r.isNods
 | .arm k s n p kids e r=>(Tr.nod k s n p kids .nil .nil).wfP/\e.wfX/\e.isNods/\e.len=1/\r.wfX/\(r=.nil ∨ ∃ k' s' n' p' a' e' q',r=.arm k' s' n' p' a' e' q')
theorem wfX1{k:Int}{s:List UInt8}{n:Int}{p:Pl}{kids arms q:Tr}(h:(Tr.nod k s n p kids arms q).wfX):(Tr.nod k s n p kids arms .nil).wfX:=⟨h.1,h.2.1,h.2.2.1,h.2.2.2.1,h.2.2.2.2.1,h.2.2.2.2.2.1,trivial,trivial⟩
def elX(al:Int->Nat->Bool)(k:Int)(s:List UInt8)(n:Int)(kids arms:Tr):List Tn:=brkL (al k kids.len) (qg k s n kids arms)
theorem ZF{al:Int->Nat->Bool}(hal:al=alnE∨al=alnF){k:Int}{s:List UInt8}{n:Int}{p:Pl}{kids arms:Tr}(hw:(Tr.nod k s n p kids arms .nil).wfX)(h:al k kids.len=true):kids=.nil/\arms=.nil/\qg k s n kids arms=[tk0 (exR k s).1 s n]/\(k=1∨k=2∨k=3∨(k=9/\al=alnE)):=by
 obtain⟨hn,h1,_⟩:=hw;have hk:k=1∨k=2∨k=3∨(k=9/\kids.len=0/\al=alnE):=by
  rcases hal with rfl | rfl
  ·simp only[alnE,Bool.or_eq_true,Bool.and_eq_true,decide_eq_true_eq]at h
   rcases h with ((h | h) | h) | h
   ·exact .inl h
   ·exact .inr (.inl h)
   ·exact .inr (.inr (.inl h))
   ·exact .inr (.inr (.inr ⟨h.1,h.2,rfl⟩))
  ·simp only[alnF,alnE,Bool.or_eq_true,Bool.and_eq_true,decide_eq_true_eq,Bool.not_eq_true',decide_eq_false_iff_not]at h
   rcases h with ⟨((h | h) | h) | h,h9⟩
   ·exact .inl h
   ·exact .inr (.inl h)
   ·exact .inr (.inr (.inl h))
   ·exact (h9 h.1).elim
 rcases hk with rfl | rfl | rfl | ⟨rfl,hl,hal⟩
 ·rcases h1 with h1 | h1 | h1 | h1 | h1 | h1 | h1 | h1 | h1 | h1 <;> try omega
  obtain⟨_,rfl,rfl⟩:=h1;exact⟨rfl,rfl,by simp[qg,exR,Tr.exK],.inl rfl⟩
 ·rcases h1 with h1 | h1 | h1 | h1 | h1 | h1 | h1 | h1 | h1 | h1 <;> try omega
  obtain⟨_,_,rfl,rfl⟩:=h1;exact⟨rfl,rfl,by simp[qg,exR,Tr.exK],.inr (.inl rfl)⟩
 ·rcases h1 with h1 | h1 | h1 | h1 | h1 | h1 | h1 | h1 | h1 | h1 <;> try omega
  obtain⟨_,rfl,rfl⟩:=h1;exact⟨rfl,rfl,by simp[qg,exR,Tr.exK],.inr (.inr (.inl rfl))⟩
 ·rcases h1 with h1 | h1 | h1 | h1 | h1 | h1 | h1 | h1 | h1 | h1 <;> try omega
  obtain rfl:=Tr.same_nil _ hl;obtain⟨_,rfl⟩:=h1;exact⟨rfl,rfl,by simp[qg,exR,Tr.exK],.inr (.inr (.inr ⟨rfl,hal⟩))⟩
theorem jM{al:Int->Nat->Bool}(hal:al=alnE∨al=alnF){k:Int}{s:List UInt8}{n:Int}{p:Pl}{kids arms:Tr}(hw:(Tr.nod k s n p kids arms .nil).wfX):∃ t l,elX al k s n kids arms=t::l/\stA t/\(t.k=2->k=9/\kids=.nil/\al=alnE/\l=[]):=by
 unfold elX brkL;by_cases h:al k kids.len=true
 ·obtain⟨h1,h2,h3,h4⟩:=ZF hal hw h
  rw[if_pos h,h3];refine⟨_,_,rfl,?_,fun h2=>?_⟩
  ·rcases h4 with rfl | rfl | rfl | ⟨rfl,_⟩ <;> simp[exR,stA,tk0]
  ·rcases h4 with rfl | rfl | rfl | ⟨rfl,h5⟩
   ·simp[exR,tk0]at h2
   ·simp[exR,tk0]at h2
   ·simp[exR,tk0]at h2
   ·exact⟨rfl,h1,h5,rfl⟩
 ·rw[if_neg h]
  exact⟨_,_,rfl,.inr (.inr (.inr (.inr ⟨rfl,rfl⟩))),fun h2=>by simp[tk0]at h2⟩
def OX(k:Int)(s:List UInt8)(n:Int)(kids arms:Tr):Prop:=∀ (k':Int) (s':List UInt8) (n':Int) (p p':Pl) (kids' arms':Tr) (c c':List Tn),(Tr.nod k s n p kids arms .nil).wfX->(Tr.nod k' s' n' p' kids' arms' .nil).wfX->NsX c->NsX c'->qg k s n kids arms++c=qg k' s' n' kids' arms'++c'->k=k'/\s=s'/\n=n'/\kids.same kids'=true/\arms.same arms'=true/\c=c'
def AllO:Tr->Prop
 | .nil=>True
 | .nod k s n _ kids arms q=>OX k s n kids arms/\AllO q
 | .arm _ _ _ _ _ e r=>AllO e/\AllO r
theorem NsX.cl(c:List Tn):NsX (clT::c):=fun t l e=>by
 simp only[List.cons.injEq]at e;rw[<- e.1];exact⟨by simp[stA,clT,tk0],fun h=>by revert h;simp only[clT,tk0];decide⟩
theorem jm{al:Int->Nat->Bool}(hal:al=alnE∨al=alnF){k k':Int}{s s':List UInt8}{n n':Int}{p p':Pl}{kids kids' arms arms':Tr}(IH:OX k s n kids arms)(hw:(Tr.nod k s n p kids arms .nil).wfX)(hw':(Tr.nod k' s' n' p' kids' arms' .nil).wfX){c c':List Tn}(h:elX al k s n kids arms++c=elX al k' s' n' kids' arms'++c'):k=k'/\s=s'/\n=n'/\kids.same kids'=true/\arms.same arms'=true/\c=c':=by
 unfold elX at h;by_cases ha:al k kids.len=true <;> by_cases ha':al k' kids'.len=true
 ·obtain⟨rfl,rfl,e,hk⟩:=ZF hal hw ha
  obtain⟨rfl,rfl,e',hk'⟩:=ZF hal hw' ha';simp only[brkL,if_pos ha,if_pos ha',e,e',List.cons_append,List.nil_append,List.cons.injEq,tk0,Tn.mk.injEq]at h;refine⟨?_,h.1.2.1,h.1.2.2.1,rfl,rfl,h.2⟩;have h1:=h.1.1;rcases hk with rfl | rfl | rfl | ⟨rfl,_⟩ <;> rcases hk' with rfl | rfl | rfl | ⟨rfl,_⟩ <;> simp[exR]at h1 <;> rfl
 ·obtain⟨rfl,rfl,e,hk⟩:=ZF hal hw ha
  simp only[brkL,if_pos ha,if_neg ha',e,List.cons_append,List.nil_append,List.cons.injEq,tk0,Tn.mk.injEq]at h;have h1:=h.1.1;rcases hk with rfl | rfl | rfl | ⟨rfl,_⟩ <;> simp[exR]at h1
 ·obtain⟨rfl,rfl,e,hk⟩:=ZF hal hw' ha'
  simp only[brkL,if_neg ha,if_pos ha',e,List.cons_append,List.nil_append,List.cons.injEq,tk0,Tn.mk.injEq]at h;have h1:=h.1.1;rcases hk with rfl | rfl | rfl | ⟨rfl,_⟩ <;> simp[exR]at h1
 ·simp only[brkL,if_neg ha,if_neg ha',List.cons_append,List.append_assoc,List.nil_append,List.cons.injEq,true_and]at h
  obtain⟨e1,e2,e3,e4,e5,e6⟩:=IH k' s' n' p p' kids' arms' _ _ hw hw' (NsX.cl c) (NsX.cl c') h;simp only[List.cons.injEq]at e6;exact⟨e1,e2,e3,e4,e5,e6.2⟩
theorem ZZ{k:Int}{s:List UInt8}{n:Int}{p:Pl}{kids arms r:Tr}:(Tr.nod k s n p kids arms r).brX alnE=elX alnE k s n kids arms++r.brX alnE:=rfl
theorem ZY(f:Tr)(hn:f.isNods)(hw:f.wfX)(t:Tn)(l:List Tn)(h:f.brX alnE=t::l):stA t:=by
 cases f with
 | nil=>simp[Tr.brX]at h
 | arm=>exact hn.elim
 | nod k s n p kids arms q=>
  obtain⟨t',l',e,ht,_⟩:=jM (.inl rfl) (wfX1 hw);rw[ZZ,e]at h;simp only[List.cons_append,List.cons.injEq]at h;exact h.1 ▸ ht
theorem qgh{k:Int}{s:List UInt8}{n:Int}{p:Pl}{kids arms r:Tr}(hw:(Tr.nod k s n p kids arms r).wfX)(h:(Tr.nod k s n p kids arms r).brX alnE=[]):False:=by
 obtain⟨t',l',e,_⟩:=jM (.inl rfl) (wfX1 hw);rw[ZZ,e]at h;simp at h
theorem Jp:∀ (f:Tr),AllO f->f.isNods->f.wfX->∀ (g:Tr) (c c':List Tn),g.isNods->g.wfX->NsA c->NsA c'->f.brX alnE++c=g.brX alnE++c'->f.same g=true/\c=c'
 | .nil,_,_,_,g,c,c',gn,gw,hc,hc',h=>by
  cases g with
  | nil=>exact⟨rfl,h⟩
  | arm=>exact gn.elim
  | nod k s n p a b q=>
   cases e:(Tr.nod k s n p a b q).brX alnE with
   | nil=>exact (qgh gw e).elim
   | cons t l=>
    rw[e]at h;simp only[Tr.brX,List.nil_append,List.cons_append]at h;exact absurd (ZY _ gn gw t l e) (hc t _ h)
 | .arm ..,_,hn,_,_,_,_,_,_,_,_,_=>hn.elim
 | .nod k s n p kids arms q,ho,hn,hw,g,c,c',gn,gw,hc,hc',h=>by
  cases g with
  | arm=>exact gn.elim
  | nil=>
   cases e:(Tr.nod k s n p kids arms q).brX alnE with
   | nil=>exact (qgh hw e).elim
   | cons t l=>
    rw[e]at h;simp only[Tr.brX,List.nil_append,List.cons_append]at h;exact absurd (ZY _ hn hw t l e) (hc' t _ h.symm)
  | nod k' s' n' p' a' b' q'=>
   rw[ZZ,ZZ,List.append_assoc,List.append_assoc]at h;obtain⟨rfl,rfl,rfl,h1,h2,h3⟩:=jm (.inl rfl) ho.1 (wfX1 hw) (wfX1 gw) h;obtain⟨h4,h5⟩:=Jp q ho.2 hw.2.2.2.2.2.2.2 hw.2.2.2.2.2.2.1 q' c c' gw.2.2.2.2.2.2.2 gw.2.2.2.2.2.2.1 hc hc' h3;exact⟨by simp[Tr.same,h1,h2,h4],h5⟩
theorem qgv{f:Tr}(hn:f.isNods)(hl:f.len=1)(hw:f.wfX):∃ k s n p a b,f=.nod k s n p a b .nil:=by
 cases f with
 | nil=>simp[Tr.len]at hl
 | arm=>exact hn.elim
 | nod k s n p a b q=>
  obtain rfl:=Tr.same_nil q (by simpa [Tr.len] using hl);exact⟨k,s,n,p,a,b,rfl⟩
theorem zr(md:Nat)(sep:List Tn):Tr.nil.exK md sep=[]:=rfl
theorem qat{f g:Tr}(ho:AllO f)(hn:f.isNods)(hw:f.wfX)(hl:f.len=1)(gn:g.isNods)(gw:g.wfX)(gl:g.len=1){c c':List Tn}(hc:NsX c)(hc':NsX c')(h:f.exK 0 []++c=g.exK 0 []++c'):f.same g=true/\c=c':=by
 obtain⟨k,s,n,p,a,b,rfl⟩:=qgv hn hl hw;obtain⟨k',s',n',p',a',b',rfl⟩:=qgv gn gl gw;simp only[qO,brkM,if_true,zr,List.append_nil]at h;obtain⟨rfl,rfl,rfl,h1,h2,h3⟩:=ho.1 _ _ _ _ _ _ _ _ _ hw gw hc hc' h;exact⟨by simp[Tr.same,h1,h2],h3⟩
theorem NsX.kwIn(c:List Tn):NsX (kwIn::c):=fun t l e=>by
 simp only[List.cons.injEq]at e;rw[<- e.1];exact⟨by simp[stA,Mu.kwIn,tk0],fun h=>by revert h;simp only[Mu.kwIn,tk0];decide⟩
theorem qbt{f g:Tr}(ho:AllO f)(hn:f.isNods)(hw:f.wfX)(hl:f.len=2)(gn:g.isNods)(gw:g.wfX)(gl:g.len=2){c c':List Tn}(hc:NsX c)(hc':NsX c')(h:f.exK 0 [kwIn]++c=g.exK 0 [kwIn]++c'):f.same g=true/\c=c':=by
 obtain⟨k1,s1,n1,p1,a1,b1,k2,s2,n2,p2,a2,b2,rfl⟩:=Tr.two f hn hl;obtain⟨j1,t1,m1,q1,d1,e1,j2,t2,m2,q2,d2,e2,rfl⟩:=Tr.two g gn gl;simp only[qO,brkM,nxM,if_true,show ((0:Nat)=1)=False by simp,if_false,zr,List.append_nil,List.append_assoc,List.cons_append,List.nil_append]at h;obtain⟨rfl,rfl,rfl,h1,h2,h3⟩:=ho.1 _ _ _ _ _ _ _ _ _ (wfX1 hw) (wfX1 gw) (NsX.kwIn _) (NsX.kwIn _) h;simp only[List.cons.injEq,true_and]at h3;obtain⟨rfl,rfl,rfl,h4,h5,h6⟩:=ho.2.1 _ _ _ _ _ _ _ _ _ (wfX1 hw.2.2.2.2.2.2.1) (wfX1 gw.2.2.2.2.2.2.1) hc hc' h3;exact⟨by simp[Tr.same,h1,h2,h4,h5],h6⟩
theorem zE{f:Tr}(hn:f.isNods)(hl:f.len=2):∃ k s n p a b k' s' n' p' a' b',f=.nod k s n p a b (.nod k' s' n' p' a' b' .nil)/\f.exK 1 []=elX alnF k s n a b++elX alnE k' s' n' a' b'/\∀ o,f.exK 2 [o]=elX alnE k s n a b++o::elX alnE k' s' n' a' b':=by
 obtain⟨k,s,n,p,a,b,k',s',n',p',a',b',rfl⟩:=Tr.two f hn hl;exact⟨k,s,n,p,a,b,k',s',n',p',a',b',rfl,by simp[qO,brkM,nxM,zr,elX],fun o=>by simp[qO,brkM,nxM,zr,elX]⟩
theorem qgR{f g:Tr}(ho:AllO f)(hn:f.isNods)(hw:f.wfX)(hl:f.len=2)(gn:g.isNods)(gw:g.wfX)(gl:g.len=2){c c':List Tn}(h:f.exK 1 []++c=g.exK 1 []++c'):f.same g=true/\c=c':=by
 obtain⟨k1,s1,n1,p1,a1,b1,k2,s2,n2,p2,a2,b2,rfl,e,_⟩:=zE hn hl;obtain⟨j1,t1,m1,q1,d1,e1,j2,t2,m2,q2,d2,e2,rfl,e',_⟩:=zE gn gl;rw[e,e',List.append_assoc,List.append_assoc]at h;obtain⟨rfl,rfl,rfl,h1,h2,h3⟩:=jm (.inr rfl) ho.1 (wfX1 hw) (wfX1 gw) h;obtain⟨rfl,rfl,rfl,h4,h5,h6⟩:=jm (.inl rfl) ho.2.1 (wfX1 hw.2.2.2.2.2.2.1) (wfX1 gw.2.2.2.2.2.2.1) h3;exact⟨by simp[Tr.same,h1,h2,h4,h5],h6⟩
theorem qiQ{f g:Tr}(ho:AllO f)(hn:f.isNods)(hw:f.wfX)(hl:f.len=2)(gn:g.isNods)(gw:g.wfX)(gl:g.len=2){o o':Tn}{c c':List Tn}(h:f.exK 2 [o]++c=g.exK 2 [o']++c'):f.same g=true/\o=o'/\c=c':=by
 obtain⟨k1,s1,n1,p1,a1,b1,k2,s2,n2,p2,a2,b2,rfl,_,e⟩:=zE hn hl;obtain⟨j1,t1,m1,q1,d1,e1,j2,t2,m2,q2,d2,e2,rfl,_,e'⟩:=zE gn gl;rw[e,e',List.append_assoc,List.append_assoc]at h;obtain⟨rfl,rfl,rfl,h1,h2,h3⟩:=jm (.inl rfl) ho.1 (wfX1 hw) (wfX1 gw) h;simp only[List.cons_append,List.cons.injEq]at h3;obtain⟨rfl,rfl,rfl,h4,h5,h6⟩:=jm (.inl rfl) ho.2.1 (wfX1 hw.2.2.2.2.2.2.1) (wfX1 gw.2.2.2.2.2.2.1) h3.2;exact⟨by simp[Tr.same,h1,h2,h4,h5],h3.1,h6⟩
theorem NsP.arr(c:List Tn):NsP (jv::c):=fun t l e=>by
 simp only[List.cons.injEq]at e;rw[<- e.1];simp[stP,jv,tk0]
theorem Jl{s:List UInt8}(h:btwB s=false)(h4:s≠[40])(c:List Tn):NsX (tk0 5 s 0::c):=fun t l e=>by
 simp only[List.cons.injEq]at e;rw[<- e.1];exact⟨by simp[stA,tk0,h4],fun h'=>by simp[tk0,h]at h'⟩
theorem exK_arm{k:Int}{s:List UInt8}{n:Int}{p:Pl}{kids e r:Tr}{md:Nat}{sep:List Tn}:(Tr.arm k s n p kids e r).exK md sep=sep++qJ k s n kids.patK++[jv]++e.exK 0 []++r.exK 0 [jc]:=rfl
def Tr.armsOr(f:Tr):Prop:=f=.nil ∨ ∃ k s n p a e q,f=.arm k s n p a e q
theorem qim{r:Tr}(h:r.armsOr)(c:List Tn):NsX (r.exK 0 [jc]++qM::c):=by
 rcases h with rfl | ⟨k,s,n,p,a,e,q,rfl⟩
 ·exact Jl (by decide) (by decide) _
 ·rw[exK_arm];exact Jl (by decide) (by decide) _
theorem qbb:∀ (f:Tr),f.armsOr->AllO f->f.wfX->∀ (g:Tr) (a:Tn) (c c':List Tn),a≠qM->g.armsOr->g.wfX->f.exK 0 [a]++qM::c=g.exK 0 [a]++qM::c'->f.same g=true/\c=c'
 | .nod ..,hn,_,_,_,_,_,_,_,_,_,_=>by rcases hn with h | ⟨_,_,_,_,_,_,_,h⟩ <;> cases h
 | .nil,_,_,_,g,a,c,c',ha,gn,gw,h=>by
  rcases gn with rfl | ⟨k,s,n,p,b,e,q,rfl⟩
  ·simp only[zr,List.nil_append,List.cons.injEq,true_and]at h
   exact⟨rfl,h⟩
  ·simp only[zr,exK_arm,List.nil_append,List.append_assoc,List.cons_append,List.cons.injEq]at h
   exact (ha h.1.symm).elim
 | .arm k s n p kids e r,_,ho,hw,g,a,c,c',ha,gn,gw,h=>by
  rcases gn with rfl | ⟨k',s',n',p',b,e',q,rfl⟩
  ·simp only[zr,exK_arm,List.nil_append,List.append_assoc,List.cons_append,List.cons.injEq]at h
   exact (ha h.1).elim
  ·simp only[exK_arm,List.nil_append,List.append_assoc,List.cons_append,List.cons.injEq,true_and]at h
   obtain⟨rfl,rfl,rfl,h1,h2⟩:=qbv (injP kids) hw.1 gw.1 (NsP.arr _) (NsP.arr _) h;simp only[List.cons.injEq,true_and]at h2;obtain⟨h3,h4⟩:=qat ho.1 hw.2.2.1 hw.2.1 hw.2.2.2.1 gw.2.2.1 gw.2.1 gw.2.2.2.1 (qim hw.2.2.2.2.2 c) (qim gw.2.2.2.2.2 c') h2;obtain⟨h5,h6⟩:=qbb r hw.2.2.2.2.2 ho.2 hw.2.2.2.2.1 q jc c c' (by simp[jc,qM,tk0]) gw.2.2.2.2.2 gw.2.2.2.2.1 h4;exact⟨by simp[Tr.same,h1,h3,h5],h6⟩
theorem jL{al:Int->Nat->Bool}(hal:al=alnE∨al=alnF){k:Int}{s:List UInt8}{n:Int}{p:Pl}{kids arms:Tr}(hw:(Tr.nod k s n p kids arms .nil).wfX):(∃ t,elX al k s n kids arms=[t]/\(t.k=1∨t.k=3∨t.k=4∨(t.k=2/\al=alnE)))∨elX al k s n kids arms=tk0 5 [40] 0::qg k s n kids arms++[clT]:=by
 unfold elX brkL;by_cases h:al k kids.len=true
 ·obtain⟨h1,h2,h3,h4⟩:=ZF hal hw h
  rw[if_pos h,h3];refine .inl ⟨_,rfl,?_⟩;rcases h4 with rfl | rfl | rfl | ⟨rfl,h5⟩
  ·exact .inl rfl
  ·exact .inr (.inl rfl)
  ·exact .inr (.inr (.inl rfl))
  ·exact .inr (.inr (.inr ⟨rfl,h5⟩))
 ·rw[if_neg h];exact .inr rfl
theorem qad{al al':Int->Nat->Bool}(hal:al=alnE∨al=alnF)(hal':al'=alnE∨al'=alnF){k k':Int}{s s':List UInt8}{n n':Int}{p p':Pl}{kids kids' arms arms':Tr}(IH:OX k s n kids arms)(hw:(Tr.nod k s n p kids arms .nil).wfX)(hw':(Tr.nod k' s' n' p' kids' arms' .nil).wfX){c c':List Tn}(h:elX al k s n kids arms++c=elX al' k' s' n' kids' arms'++c'):c=c':=by
 rcases jL hal hw with ⟨t,e,ht⟩ | e <;> rcases jL hal' hw' with ⟨t',e',ht'⟩ | e'
 ·rw[e,e']at h
  simp only[List.cons_append,List.nil_append,List.cons.injEq]at h;exact h.2
 ·rw[e,e']at h
  simp only[List.cons_append,List.nil_append,List.cons.injEq]at h;rw[h.1]at ht;simp[tk0]at ht
 ·rw[e,e']at h
  simp only[List.cons_append,List.nil_append,List.cons.injEq]at h;rw[<- h.1]at ht';simp[tk0]at ht'
 ·rw[e,e']at h
  simp only[List.cons_append,List.append_assoc,List.nil_append,List.cons.injEq,true_and]at h;obtain⟨_,_,_,_,_,h6⟩:=IH k' s' n' p p' kids' arms' _ _ hw hw' (NsX.cl c) (NsX.cl c') h;simp only[List.cons.injEq]at h6;exact h6.2
theorem qdB{k:Int}{s:List UInt8}{n:Int}{p:Pl}{kids arms:Tr}(hw:(Tr.nod k s n p kids arms .nil).wfX) :
  (∃ q,(q=1/\k=1∨q=3/\k=2∨q=4/\k=3)/\qg k s n kids arms=[tk0 q s n]/\kids=.nil/\arms=.nil) ∨
  (k=4/\n=0/\qg k s n kids arms=jB::tk0 1 s 0::jv::kids.exK 0 []/\kids.len=1/\arms=.nil) ∨
  (k=6/\n=0/\qg k s n kids arms=qF::tk0 1 s 0::kwEq::kids.exK 0 [kwIn]/\kids.len=2/\arms=.nil) ∨
  (k=7/\n=0/\qg k s n kids arms=qF::zZ::tk0 1 s 0::kwEq::kids.exK 0 [kwIn]/\kids.len=2/\arms=.nil) ∨
  (k=8/\n=0/\s=[]/\qg k s n kids arms=zj::(kids.exK 0 []++kwOf::(arms.exK 0 [zL]++[qM]))/\kids.len=1/\arms.armsOr) ∨
  (∃ q,(q=2/\k=9∨q=6/\k=10)/\n=0/\qg k s n kids arms=tk0 q s 0::kids.brX alnE/\arms=.nil) ∨
  (k=5/\n=0/\s=[]/\qg k s n kids arms=kids.exK 1 []/\kids.len=2/\arms=.nil) ∨
  (k=10/\n=0/\btwB s=true/\qg k s n kids arms=kids.exK 2 [tk0 5 s 0]/\kids.len=2/\arms=.nil):=by
 obtain⟨hn,h1,hk,_,_,h8,_⟩:=hw;rcases h1 with ⟨rfl,h⟩ | ⟨rfl,h⟩ | ⟨rfl,h⟩ | ⟨rfl,h⟩ | ⟨rfl,h⟩ | ⟨rfl,h⟩ | ⟨rfl,h⟩ | ⟨rfl,h⟩ | ⟨rfl,h⟩ | ⟨rfl,h⟩
 ·obtain⟨rfl,rfl⟩:=h
  exact .inl ⟨1,.inl ⟨rfl,rfl⟩,by simp[qg,exR,zr],rfl,rfl⟩
 ·obtain⟨_,rfl,rfl⟩:=h
  exact .inl ⟨3,.inr (.inl ⟨rfl,rfl⟩),by simp[qg,exR,zr],rfl,rfl⟩
 ·obtain⟨rfl,rfl⟩:=h
  exact .inl ⟨4,.inr (.inr ⟨rfl,rfl⟩),by simp[qg,exR,zr],rfl,rfl⟩
 ·exact .inr (.inl ⟨rfl,by omega,by simp[qg],h.1,h.2⟩)
 ·exact .inr (.inr (.inr (.inr (.inr (.inr (.inl ⟨rfl,by omega,h.1,by simp[qg],h.2.1,h.2.2⟩))))))
 ·exact .inr (.inr (.inl ⟨rfl,by omega,by simp[qg],h.1,h.2⟩))
 ·exact .inr (.inr (.inr (.inl ⟨rfl,by omega,by simp[qg],h.1,h.2⟩)))
 ·exact .inr (.inr (.inr (.inr (.inl ⟨rfl,by omega,h.1,by simp[qg],h.2,h8 rfl⟩))))
 ·obtain rfl:n=0:=by omega
  exact .inr (.inr (.inr (.inr (.inr (.inl ⟨2,.inl ⟨rfl,rfl⟩,rfl,by simp[qg,exR,Tr.brX_exK _ hk],h⟩)))))
 ·obtain rfl:n=0:=by omega
  by_cases hb:btwB s=true
  ·exact .inr (.inr (.inr (.inr (.inr (.inr (.inr ⟨rfl,rfl,hb,by simp[qg,exR,hb],h.2 hb,h.1⟩))))))
  ·exact .inr (.inr (.inr (.inr (.inr (.inl ⟨6,.inr ⟨rfl,rfl⟩,rfl,by simp[qg,exR,hb,Tr.brX_exK _ hk],h.1⟩)))))
theorem qhB{s:List UInt8}(h:btwB s=true):¬ stA (tk0 5 s 0):=by
 intro h';simp only[stA,tk0]at h';have:s=[40]:=by rcases h' with h' | h' | h' | h' | h' <;> first | exact h'.2 | omega
 subst this;revert h;decide
def Fix(k:Int)(s:List UInt8)(n:Int)(kids arms:Tr):Prop:=∃ t l,qg k s n kids arms=t::l/\(((t.k=1∨t.k=3∨t.k=4)/\l=[])∨(t.k=2/\l=kids.brX alnE)∨t.k=6∨(t.k=5/\t.s≠[40]))
theorem qdh{k:Int}{s:List UInt8}{n:Int}{kids arms:Tr}(hF:Fix k s n kids arms){g:Tr}(gn:g.isNods)(gw:g.wfX)(gl:g.len=2){c c':List Tn}(hc:NsX c):qg k s n kids arms++c≠g.exK 1 []++c':=by
 intro h;obtain⟨t,l,e,ht⟩:=hF;obtain⟨j1,t1,m1,q1,d1,e1,j2,t2,m2,q2,d2,e2,rfl,e',_⟩:=zE gn gl;rw[e,e',List.append_assoc]at h;obtain⟨u,v,e3,hu,_⟩:=jM (al:=alnE) (.inl rfl) (wfX1 gw.2.2.2.2.2.2.1);rcases jL (al:=alnF) (.inr rfl) (wfX1 gw) with ⟨x,e4,hx⟩ | e4
 ·rw[e4,e3]at h
  simp only[List.cons_append,List.nil_append,List.cons.injEq]at h;obtain⟨rfl,h⟩:=h;have hx:t.k=1∨t.k=3∨t.k=4:=by
   rcases hx with h | h | h | ⟨_,h⟩
   ·exact .inl h
   ·exact .inr (.inl h)
   ·exact .inr (.inr h)
   ·have:=congrFun (congrFun h 9) 0
    simp[alnF,alnE]at this
  rcases ht with ⟨_,rfl⟩ | ht | ht | ht
  ·exact (hc _ _ h).1 hu
  ·omega
  ·omega
  ·omega
 ·rw[e4]at h
  simp only[List.cons_append,List.cons.injEq]at h;rw[h.1]at ht;simp[tk0]at ht
theorem qgq{k:Int}{s:List UInt8}{n:Int}{kids arms:Tr}(hF:Fix k s n kids arms)(kn:kids.isNods)(kw:kids.wfX){g:Tr}(gn:g.isNods)(gw:g.wfX)(gl:g.len=2){o:List UInt8}(ho:btwB o=true){c c':List Tn}(hc:NsX c):qg k s n kids arms++c≠g.exK 2 [tk0 5 o 0]++c':=by
 intro h;obtain⟨t,l,e,ht⟩:=hF;obtain⟨j1,t1,m1,q1,d1,e1,j2,t2,m2,q2,d2,e2,rfl,_,e'⟩:=zE gn gl;rw[e,e',List.append_assoc]at h;rcases jL (al:=alnE) (.inl rfl) (wfX1 gw) with ⟨x,e4,hx⟩ | e4
 ·rw[e4]at h
  simp only[List.cons_append,List.nil_append,List.cons.injEq]at h;obtain⟨rfl,h⟩:=h;rcases ht with ⟨_,rfl⟩ | ⟨_,rfl⟩ | ht | ht
  ·exact (hc _ _ h).2 ⟨rfl,ho⟩
  ·cases e5:kids.brX alnE with
   | nil=>rw[e5]at h;exact (hc _ _ h).2 ⟨rfl,ho⟩
   | cons u v=>
    rw[e5]at h;simp only[List.cons_append,List.cons.injEq]at h;exact qhB ho (h.1 ▸ ZY kids kn kw u v e5)
  ·omega
  ·omega
 ·rw[e4]at h
  simp only[List.cons_append,List.cons.injEq]at h;rw[h.1]at ht;simp[tk0]at ht
theorem qil{f g:Tr}(ho:AllO f)(hn:f.isNods)(hw:f.wfX)(hl:f.len=2)(gn:g.isNods)(gw:g.wfX)(gl:g.len=2){o:List UInt8}(hb:btwB o=true){c c':List Tn}:f.exK 1 []++c≠g.exK 2 [tk0 5 o 0]++c':=by
 intro h;obtain⟨k1,s1,n1,p1,a1,b1,k2,s2,n2,p2,a2,b2,rfl,e,_⟩:=zE hn hl;obtain⟨j1,t1,m1,q1,d1,e1,j2,t2,m2,q2,d2,e2,rfl,_,e'⟩:=zE gn gl;rw[e,e',List.append_assoc,List.append_assoc]at h;have h3:=qad (.inr rfl) (.inl rfl) ho.1 (wfX1 hw) (wfX1 gw) h;obtain⟨u,v,e3,hu,_⟩:=jM (al:=alnE) (.inl rfl) (wfX1 hw.2.2.2.2.2.2.1);rw[e3]at h3;simp only[List.cons_append,List.cons.injEq]at h3;exact qhB hb (h3.1 ▸ hu)
theorem qiP{f g:Tr}(ho:AllO f)(hn:f.isNods)(hw:f.wfX)(hl:f.len=2)(gn:g.isNods)(gw:g.wfX)(gl:g.len=2){o:List UInt8}(hb:btwB o=true){c c':List Tn}:f.exK 2 [tk0 5 o 0]++c≠g.exK 1 []++c':=by
 intro h;obtain⟨k1,s1,n1,p1,a1,b1,k2,s2,n2,p2,a2,b2,rfl,_,e⟩:=zE hn hl;obtain⟨j1,t1,m1,q1,d1,e1,j2,t2,m2,q2,d2,e2,rfl,e',_⟩:=zE gn gl;rw[e,e',List.append_assoc,List.append_assoc]at h;have h3:=qad (.inl rfl) (.inr rfl) ho.1 (wfX1 hw) (wfX1 gw) h;obtain⟨u,v,e3,hu,_⟩:=jM (al:=alnE) (.inl rfl) (wfX1 gw.2.2.2.2.2.2.1);rw[e3]at h3;simp only[List.cons_append,List.cons.injEq]at h3;exact qhB hb (h3.1 ▸ hu)
theorem NsX.kwOf(c:List Tn):NsX (kwOf::c):=Jl (by decide) (by decide) _
theorem oxI{k:Int}{s:List UInt8}{n:Int}{kids arms:Tr}(hk:AllO kids)(ha:AllO arms):OX k s n kids arms:=by
 intro k' s' n' p p' kids' arms' c c' hw hw' hc hc' h;have kn:=hw.2.2.1;have kw:=hw.2.2.2.1;have aw:=hw.2.2.2.2.1;have kn':=hw'.2.2.1;have kw':=hw'.2.2.2.1;have aw':=hw'.2.2.2.2.1;have fixd:∀ {k:Int} {s:List UInt8} {n:Int} {kids arms:Tr} {t:Tn} {l:List Tn},qg k s n kids arms=t::l->(((t.k=1∨t.k=3∨t.k=4)/\l=[])∨(t.k=2/\l=kids.brX alnE)∨t.k=6∨(t.k=5/\t.s≠[40]))->Fix k s n kids arms:=fun e ht=>⟨_,_,e,ht⟩
 rcases qdB hw with ⟨q,⟨rfl,rfl⟩ | ⟨rfl,rfl⟩ | ⟨rfl,rfl⟩,e,rfl,rfl⟩ | ⟨rfl,hn,e,hl,rfl⟩ | ⟨rfl,hn,e,hl,rfl⟩ | ⟨rfl,hn,e,hl,rfl⟩ | ⟨rfl,hn,hs,e,hl,hr⟩ | ⟨q,⟨rfl,rfl⟩ | ⟨rfl,rfl⟩,hn,e,rfl⟩ | ⟨rfl,hn,hs,e,hl,rfl⟩ | ⟨rfl,hn,hb,e,hl,rfl⟩ <;>
 rcases qdB hw' with ⟨q',⟨rfl,rfl⟩ | ⟨rfl,rfl⟩ | ⟨rfl,rfl⟩,e',rfl,rfl⟩ | ⟨rfl,hn',e',hl',rfl⟩ | ⟨rfl,hn',e',hl',rfl⟩ | ⟨rfl,hn',e',hl',rfl⟩ | ⟨rfl,hn',hs',e',hl',hr'⟩ | ⟨q',⟨rfl,rfl⟩ | ⟨rfl,rfl⟩,hn',e',rfl⟩ | ⟨rfl,hn',hs',e',hl',rfl⟩ | ⟨rfl,hn',hb',e',hl',rfl⟩
 all_goals first
  | (exfalso;rw[e,e']at h;simp[jB,qF,zj,zZ,tk0]at h;done)
  | (exfalso;rw[e']at h;exact qdh (fixd e (by simp[jB,qF,zj,tk0])) kn' kw' hl' hc h)
  | (exfalso;rw[e']at h;exact qgq (fixd e (by simp[jB,qF,zj,tk0])) kn kw kn' kw' hl' hb' hc h)
  | (exfalso;rw[e]at h;exact qdh (fixd e' (by simp[jB,qF,zj,tk0])) kn kw hl hc' h.symm)
  | (exfalso;rw[e]at h;exact qgq (fixd e' (by simp[jB,qF,zj,tk0])) kn' kw' kn kw hl hb hc' h.symm)
  | (exfalso;rw[e,e']at h;exact qil hk kn kw hl kn' kw' hl' hb' h)
  | (exfalso;rw[e,e']at h;exact qiP hk kn kw hl kn' kw' hl' hb h)
  | (rw[e,e']at h;simp only[List.cons_append,List.nil_append,List.cons.injEq,tk0,Tn.mk.injEq]at h;exact⟨rfl,h.1.2.1,h.1.2.2.1,rfl,rfl,h.2⟩)
  | skip
 ·rw[e,e']at h
  simp only[List.cons_append,List.cons.injEq,tk0,Tn.mk.injEq,true_and,and_true]at h;obtain⟨e1,e2⟩:=qat hk kn kw hl kn' kw' hl' hc hc' h.2;exact⟨rfl,h.1,by rw[hn,hn'],e1,rfl,e2⟩
 ·rw[e,e']at h
  simp only[List.cons_append,List.cons.injEq,tk0,Tn.mk.injEq,true_and,and_true]at h;obtain⟨e1,e2⟩:=qbt hk kn kw hl kn' kw' hl' hc hc' h.2;exact⟨rfl,h.1,by rw[hn,hn'],e1,rfl,e2⟩
 ·rw[e,e']at h
  simp only[List.cons_append,List.cons.injEq,tk0,Tn.mk.injEq,true_and,and_true]at h;obtain⟨e1,e2⟩:=qbt hk kn kw hl kn' kw' hl' hc hc' h.2;exact⟨rfl,h.1,by rw[hn,hn'],e1,rfl,e2⟩
 ·rw[e,e']at h
  simp only[List.cons_append,List.append_assoc,List.nil_append,List.cons.injEq,true_and]at h;obtain⟨e1,e2⟩:=qat hk kn kw hl kn' kw' hl' (NsX.kwOf _) (NsX.kwOf _) h;simp only[List.cons.injEq,true_and]at e2;obtain⟨e3,e4⟩:=qbb arms hr ha aw arms' zL c c' (by simp[zL,qM,tk0]) hr' aw' e2;exact⟨rfl,by rw[hs,hs'],by rw[hn,hn'],e1,e3,e4⟩
 ·rw[e,e']at h
  simp only[List.cons_append,List.cons.injEq,tk0,Tn.mk.injEq,true_and,and_true]at h;obtain⟨e1,e2⟩:=Jp kids hk kn kw kids' c c' kn' kw' hc.a hc'.a h.2;exact⟨rfl,h.1,by rw[hn,hn'],e1,rfl,e2⟩
 ·rw[e,e']at h
  simp only[List.cons_append,List.cons.injEq,tk0,Tn.mk.injEq,true_and,and_true]at h;obtain⟨e1,e2⟩:=Jp kids hk kn kw kids' c c' kn' kw' hc.a hc'.a h.2;exact⟨rfl,h.1,by rw[hn,hn'],e1,rfl,e2⟩
 ·rw[e,e']at h
  obtain⟨e1,e2⟩:=qgR hk kn kw hl kn' kw' hl' h;exact⟨rfl,by rw[hs,hs'],by rw[hn,hn'],e1,rfl,e2⟩
 ·rw[e,e']at h
  obtain⟨e1,e2,e3⟩:=qiQ hk kn kw hl kn' kw' hl' h;simp only[tk0,Tn.mk.injEq]at e2;exact⟨rfl,e2.2.1,by rw[hn,hn'],e1,rfl,e3⟩
theorem allO:∀ f:Tr,AllO f
 | .nil=>trivial
 | .nod k s n p kids arms q=>⟨oxI (allO kids) (allO arms),allO q⟩
 | .arm k s n p kids e r=>⟨allO e,allO r⟩
end Go.Proofs.YtlmmaoobembadaaGreatDoor.Mu
namespace Go.Proofs.YtlmmaoobembadaaGreatDoor.Mu
open Go Go.RowKit Go.Shelf
attribute [local go_sem] Oper.semAt_some
set_option linter.unusedVariables false
set_option maxRecDepth 100000
theorem qcE(base wp:Nat)(xs ls:List Tn)(g cp:Nat)(t:TypeId)(w0 W0 W:World)(hW:Bel w0 W0)(hwp:w0.heap.size<=wp)(hw:Wri W0 base wp xs)(hb:Bel W0 W)(hx:xs.length<=5000)(hl:ls.length<=900)(h0:0<ls.length)(hg:W.heap[g]?=some (.cells (zw ls).toArray t (0,0)))(h1:∀ u∈zw ls,u.oneCell'=true) :
  Calls Tryz.prog 85 #[.pointer (some ⟨wp,0,none⟩),.slice (some ⟨g,0,none⟩) ls.length cp] W (WrQ w0 base wp xs ls W0):=by
 have h:=qge base wp xs ls ⟨g,0,none⟩ ls.length cp w0 W (hW.on hb) hwp (hw.bel hb) (by omega) (by omega) rfl h0 (fun j u hu=>by
  rw[Addr.add_lit];unfold World.cell?
  simp only[hg];simpa using hu) h1
 refine h.mono ?_;rintro e w' ⟨rfl,hb',hw',hk'⟩;refine⟨rfl,hb',⟨_,hw',WrR.put xs ls,?_⟩,(KpW.of_bel hw.lt hb).on hk'⟩;unfold qe6;split
 ·rw[List.length_append];omega
 ·exact hx
theorem qZ(ls:List Tn):∀ u∈zw ls,u.oneCell'=true:=by
 intro u hu;obtain⟨x,_,hx⟩:=List.mem_flatMap.1 hu;unfold Tn.cells at hx;simp at hx;rcases hx with rfl | rfl | rfl | rfl | rfl | rfl <;> rfl
theorem qfP(base wp:Nat)(k:Int)(s:List UInt8)(n:Int)(xs:List Tn)(w0 W:World)(hW:Bel w0 W)(hwp:w0.heap.size<=wp)(hw:Wri W base wp xs)(hx:xs.length<=5000)(cp:Nat) :
  Calls Tryz.prog 85 #[.pointer (some ⟨wp,0,none⟩),.slice (some ⟨W.heap.size,0,none⟩) 1 cp] (W.alloc (.cells #[.int .u8 k,.string ⟨s.toArray⟩,n,(0:Int),(0:Int),(0:Int)] 51)) (WrQ w0 base wp xs [tk0 k s n] W):=
 qcE base wp xs [tk0 k s n] W.heap.size cp _ w0 W _ hW hwp hw ((Bel.refl W).alloc _) hx (by simp) (by simp) (blk1 W _) (qZ _)
theorem qfQ(base wp:Nat)(k:Int)(s:List UInt8)(n:Int)(k2:Int)(s2:List UInt8)(n2:Int)(xs:List Tn)(w0 W:World)(hW:Bel w0 W)(hwp:w0.heap.size<=wp)(hw:Wri W base wp xs)(hx:xs.length<=5000)(cp:Nat) :
  Calls Tryz.prog 85 #[.pointer (some ⟨wp,0,none⟩),.slice (some ⟨W.heap.size,0,none⟩) 2 cp] (W.alloc (.cells #[.int .u8 k,.string ⟨s.toArray⟩,n,(0:Int),(0:Int),(0:Int),.int .u8 k2,.string ⟨s2.toArray⟩,n2,(0:Int),(0:Int),(0:Int)] 51)) (WrQ w0 base wp xs [tk0 k s n,tk0 k2 s2 n2] W):=
 qcE base wp xs [tk0 k s n,tk0 k2 s2 n2] W.heap.size cp _ w0 W _ hW hwp hw ((Bel.refl W).alloc _) hx (by simp) (by simp) (blk1 W _) (qZ _)
def RowX(w0 W:World)(wp:Nat)(sh:Sh)(A:Option Addr)(n:Nat)(f:Tr):Prop:=
 n=f.len/\(0<n->∃ b o,A=some ⟨b,o,none⟩/\(∃ ob,Bx W wp b ob)/\TrAt W (OldT w0) f sh b o)
theorem TrAt.keepX{w w':World}{Ok:Nat->Prop}{f:Tr}{sh:Sh}{b o:Nat}(h:TrAt w Ok f sh b o)(hk:∀ j,Ok j->w'.heap[j]?=w.heap[j]?)(hb:w'.heap[b]?=w.heap[b]?):TrAt w' Ok f sh b o:=by
 have hc:∀ o',w'.cell? ⟨b,o',none⟩=w.cell? ⟨b,o',none⟩:=fun o'=>World.cell?_of_block (a:=⟨b,o',none⟩) hb;induction f generalizing o sh with
 | nil=>trivial
 | nod k s n p kids arms r _ _ ih=>
  obtain⟨h1,⟨A,cap,a1,a2,a3⟩,h3,h4⟩:=h;refine⟨h1.keep hb,⟨A,cap,(hc _).trans a1,a2,fun h0=>?_⟩,?_,ih h4⟩
  ·obtain⟨b',o',e,c1,c2⟩:=a3 h0
   exact⟨b',o',e,c1,TrAt.keep hk _ _ _ _ c1 c2⟩
  ·rcases h3 with ⟨e,A2,cap2,c1,c2,c3⟩ | h3
   ·refine .inl ⟨e,A2,cap2,(hc _).trans c1,c2,fun h0=>?_⟩
    obtain⟨b',o',e,d1,d2⟩:=c3 h0;exact⟨b',o',e,d1,TrAt.keep hk _ _ _ _ d1 d2⟩
   ·exact .inr h3
 | arm k s n p kids e r _ ie ih=>
  obtain⟨h0,h1,⟨A,cap,a1,a2,a3⟩,h3,h4,h5⟩:=h;subst h0;refine⟨rfl,h1.keep hb,⟨A,cap,(hc _).trans a1,a2,fun h0=>?_⟩,h3,ie h4,ih h5⟩;obtain⟨b',o',e,c1,c2⟩:=a3 h0;exact⟨b',o',e,c1,TrAt.keep hk _ _ _ _ c1 c2⟩
theorem RowX.step{w0 W W':World}{wp:Nat}{sh:Sh}{A:Option Addr}{n:Nat}{f:Tr}(h:RowX w0 W wp sh A n f)(hb:Bel w0 W)(hb':Bel w0 W')(hk:KpW W W' wp):RowX w0 W' wp sh A n f:=
 ⟨h.1,fun hn=>by
  obtain⟨b,o,e,⟨ob,hx⟩,ht⟩:=h.2 hn;have hx':=hk b ob hx;exact⟨b,o,e,⟨ob,hx'⟩,ht.keepX (fun j hj=>(hb'.block j hj).trans (hb.block j hj).symm) (hx'.1.trans hx.1.symm)⟩⟩
theorem RowX.old{w0 W:World}{base wp:Nat}{xs:List Tn}{sh:Sh}{A:Option Addr}{n c:Nat}{f:Tr}(h:KidsTr w0 (OldT w0) sh A n c f)(hb:Bel w0 W)(hwp:w0.heap.size<=wp)(hw:Wri W base wp xs):RowX w0 W wp sh A n f:=
 ⟨h.1,fun hn=>by
  obtain⟨b,o,e,hbb,ht⟩:=h.2.2 hn;have hbb':b<w0.heap.size:=hbb;refine⟨b,o,e,⟨_,hb.blk (Array.getElem?_eq_getElem hbb'),by omega,fun v hv ev=>?_⟩,ht.keepX (fun j hj=>hb.block j hj) (hb.block b hbb')⟩;obtain⟨h1,h2,A',n',c',hc,_,ho⟩:=hw;have c0:W.cell? ⟨wp,0,none⟩=some (.slice A' n' c'):=by simp[World.cell?,hc]
  rw[c0]at hv;obtain rfl:_=v:=Option.some.inj hv;have:=(ho.lt b ev).1;omega⟩
theorem RowX.one{w0 W:World}{base wp:Nat}{xs:List Tn}{sh:Sh}(hs:sh ≠ .arms){k:Int}{s:List UInt8}{n:Int}{p:Pl}{A:Option Addr}{c:Nat}{B:Option Addr}{bc:Nat}{kids arms:Tr}
  (hk:KidsTr w0 (OldT w0) sh A kids.len c kids) (ha:(sh=.ex/\KidsTr w0 (OldT w0) .arms B arms.len bc arms)∨((sh=.pat∨sh=.ty)/\arms.len=0)) {t:TypeId} (hb:Bel w0 W) (hw:Wri W base wp xs) :
  RowX w0 (W.alloc (.cells (nodV sh k s n p A kids.len c B arms.len bc).toArray t)) wp sh (some ⟨W.heap.size,0,none⟩) 1 (.nod k s n p kids arms .nil):=by
 refine⟨rfl,fun _=>⟨_,0,rfl,⟨_,Bx.new hw _⟩,?_⟩⟩;refine (Tells.one hs hk ha (k:=k) (s:=s) (n:=n) (p:=p)).2.2 _ _ 0 (fun j u hu=>?_) (fun j hj=>(hb.alloc _).block j hj);unfold World.cell?
 simp only[blk1];simpa using hu
theorem RowX.isNods{w0 W:World}{wp:Nat}{sh:Sh}(hs:sh ≠ .arms){A:Option Addr}{m:Nat}{f:Tr}(h:RowX w0 W wp sh A m f):f.isNods:=by
 rcases Nat.eq_zero_or_pos f.len with e | e
 ·rw[Tr.len_nil f e];trivial
 ·obtain⟨b,o,_,_,h⟩:=h.2 (by rw[h.1];exact e)
  exact TrAt.isNods hs f b o h
theorem RowX.nth{w0 W:World}{wp:Nat}{sh:Sh}(hs:sh ≠ .arms){A:Option Addr}{m:Nat}{f:Tr}(h:RowX w0 W wp sh A m f)(hb:Bel w0 W){i:Nat}(hi:i<m) :
  ∃ b o k s n p kids arms A' c B bc,A=some ⟨b,o,none⟩/\(∃ ob,Bx W wp b ob)/\f.nth i=.nod k s n p kids arms .nil/\(∀ j u,(nodV sh k s n p A' kids.len c B arms.len bc)[j]?=some u->W.cell? ⟨b,o+i*sh.sz+j,none⟩=some u) ∧
   KidsTr w0 (OldT w0) sh A' kids.len c kids/\((sh=.ex/\KidsTr w0 (OldT w0) .arms B arms.len bc arms)∨((sh=.pat∨sh=.ty)/\arms.len=0)):=by
 obtain⟨b,o,e,hx,ht⟩:=h.2 (by omega);obtain⟨k,s,n,p,kids,arms,en,ha⟩:=TrAt.nod_at hs f i b o ht (by rw[<- h.1];exact hi);obtain⟨A',c,B,bc,hc,hk,har,_⟩:=ha.parts;have hkk:∀ j,OldT w0 j->w0.heap[j]?=W.heap[j]?:=fun j hj=>(hb.block j hj).symm;refine⟨b,o,k,s,n,p,kids,arms,A',c,B,bc,e,hx,en,hc,hk.keep hkk,?_⟩;rcases har with ⟨e1,e2⟩ | har
 ·exact .inl ⟨e1,e2.keep hkk⟩
 ·exact .inr har
theorem RowX.arm{w0 W:World}{wp:Nat}{A:Option Addr}{m:Nat}{f:Tr}(h:RowX w0 W wp .arms A m f)(hb:Bel w0 W){i:Nat}(hi:i<m) :
  ∃ b o k s n p kids k2 s2 n2 p2 kids2 arms2 A1 c1 A2 c2 B2 bc2,A=some ⟨b,o,none⟩/\(∃ ob,Bx W wp b ob)/\f.nth i=.arm k s n p kids (.nod k2 s2 n2 p2 kids2 arms2 .nil) .nil ∧
   (∀ j u,(nodV .pat k s n p A1 kids.len c1 none 0 0)[j]?=some u->W.cell? ⟨b,o+i*15+j,none⟩=some u)/\(∀ j u,(nodV .ex k2 s2 n2 p2 A2 kids2.len c2 B2 arms2.len bc2)[j]?=some u->W.cell? ⟨b,o+i*15+7+j,none⟩=some u) ∧
   KidsTr w0 (OldT w0) .pat A1 kids.len c1 kids/\KidsTr w0 (OldT w0) .ex A2 kids2.len c2 kids2/\KidsTr w0 (OldT w0) .arms B2 arms2.len bc2 arms2:=by
 obtain⟨b,o,e,hx,ht⟩:=h.2 (by omega);obtain⟨k,s,n,p,kids,ex,en,ha⟩:=TrAt.arm_at f i b o ht (by rw[<- h.1];exact hi);obtain⟨_,h1,⟨A1,c1,a1,a2,a3⟩,h3,h4,_⟩:=ha;have hn:=TrAt.isNods (by intro e;cases e) ex b _ h4;obtain⟨k2,s2,n2,p2,kids2,arms2,rfl⟩:=Tr.one_nod ex h3 hn;obtain⟨A2,c2,B2,bc2,hc,hk,har,_⟩:=h4.parts;have hkk:∀ j,OldT w0 j->w0.heap[j]?=W.heap[j]?:=fun j hj=>(hb.block j hj).symm;refine⟨b,o,k,s,n,p,kids,k2,s2,n2,p2,kids2,arms2,A1,c1,A2,c2,B2,bc2,e,hx,en,fun j u hu=>?_,hc,KidsTr.keep (w:=W) ⟨rfl,a2,a3⟩ hkk,hk.keep hkk,?_⟩
 ·rcases Nat.lt_or_ge j 6 with hj | hj
  ·exact Je h1 j u (by rw[nodV,List.getElem?_append_left (by simpa [Zy] using hj)]at hu;exact hu)
  ·match j,hu with
   | 6,hu=>cases hu;exact a1
   | j+7,hu=>simp[nodV,Zy,qeM]at hu
 ·rcases har with ⟨_,h⟩ | ⟨h | h,_⟩
  ·exact h.keep hkk
  ·cases h
  ·cases h
def Ws(w0:World)(base wp:Nat)(xs:List Tn)(W:World)(pre:List Tn)(w:World):Prop:=Bel w0 w/\(∃ r,Wri w base wp r/\WrR xs pre r/\r.length<=5000)/\KpW W w wp
def WsQ(w0:World)(base wp:Nat)(xs:List Tn)(W:World)(pre:List Tn)(w:World):Ending->World->Prop:=fun e w'=>e=.returned (.tuple #[])/\Ws w0 base wp xs W pre w'/\KpW w w' wp
theorem Ws.start{w0:World}{base wp:Nat}{xs:List Tn}{W:World}(hW:Bel w0 W)(hw:Wri W base wp xs)(hx:xs.length<=5000):Ws w0 base wp xs W [] W:=⟨hW,⟨xs,hw,WrR.nil xs,hx⟩,KpW.refl _ _⟩
theorem Ws.lt{w0:World}{base wp:Nat}{xs:List Tn}{W:World}{pre:List Tn}{w:World}(h:Ws w0 base wp xs W pre w):wp<w.heap.size:=by
 obtain⟨_,⟨r,hr,_⟩,_⟩:=h;exact hr.lt
theorem Ws.bel{w0:World}{base wp:Nat}{xs:List Tn}{W:World}{pre:List Tn}{w w':World}(h:Ws w0 base wp xs W pre w)(hb:Bel w w'):Ws w0 base wp xs W pre w':=by
 have hl:=h.lt;obtain⟨h1,⟨r,h2,h3,h4⟩,h5⟩:=h;exact⟨h1.on hb,⟨r,h2.bel hb,h3,h4⟩,h5.on (KpW.of_bel hl hb)⟩
theorem Ws.kp{w0:World}{base wp:Nat}{xs:List Tn}{W:World}{pre:List Tn}{w w':World}(h:Ws w0 base wp xs W pre w)(hb:Bel w w'):KpW w w' wp:=KpW.of_bel h.lt hb
theorem Ws.box{w0:World}{base wp:Nat}{xs:List Tn}{W:World}{pre:List Tn}{w:World}(h:Ws w0 base wp xs W pre w)(o:Obj):Bx (w.alloc o) wp w.heap.size o:=by
 obtain⟨_,⟨r,hr,_⟩,_⟩:=h;exact Bx.new hr o
theorem Ws.run{w0:World}{base wp:Nat}{xs:List Tn}{W:World}{pre F:List Tn}{w w':World}{f:FuncId}{args:Array Value}(h:Ws w0 base wp xs W pre w)(H:∀ r,Bel w0 w->Wri w base wp r->r.length<=5000->Calls Tryz.prog f args w' (WrQ w0 base wp r F w)) :
  Calls Tryz.prog f args w' (WsQ w0 base wp xs W (pre++F) w):=by
 obtain⟨h1,⟨r,h2,h3,h4⟩,h5⟩:=h;refine (H r h1 h2 h4).mono ?_;rintro e w2 ⟨rfl,q1,⟨r2,q2,q3,q4⟩,q5⟩;exact⟨rfl,⟨q1,⟨r2,q2,h3.on q3,q4⟩,h5.on q5⟩,q5⟩
theorem Ws.put1{w0:World}{base wp:Nat}{xs:List Tn}{W:World}{pre:List Tn}{w:World}(h:Ws w0 base wp xs W pre w)(hwp:w0.heap.size<=wp)(k:Int)(s:List UInt8)(n:Int)(cp:Nat) :
  Calls Tryz.prog 85 #[.pointer (some ⟨wp,0,none⟩),.slice (some ⟨w.heap.size,0,none⟩) 1 cp] (w.alloc (.cells #[.int .u8 k,.string ⟨s.toArray⟩,.int .i64 n,.int .i64 0,.int .i64 0,.int .i64 0] 51)) (WsQ w0 base wp xs W (pre++[tk0 k s n]) w):=
 h.run fun r h1 h2 h3=>qfP base wp k s n r w0 w h1 hwp h2 h3 cp
theorem Ws.put2{w0:World}{base wp:Nat}{xs:List Tn}{W:World}{pre:List Tn}{w:World}(h:Ws w0 base wp xs W pre w)(hwp:w0.heap.size<=wp)(k:Int)(s:List UInt8)(n:Int)(k2:Int)(s2:List UInt8)(n2:Int)(cp:Nat) :
  Calls Tryz.prog 85 #[.pointer (some ⟨wp,0,none⟩),.slice (some ⟨w.heap.size,0,none⟩) 2 cp] (w.alloc (.cells #[.int .u8 k,.string ⟨s.toArray⟩,.int .i64 n,.int .i64 0,.int .i64 0,.int .i64 0,.int .u8 k2,.string ⟨s2.toArray⟩,.int .i64 n2,.int .i64 0,.int .i64 0,.int .i64 0] 51)) (WsQ w0 base wp xs W (pre++[tk0 k s n,tk0 k2 s2 n2]) w):=
 h.run fun r h1 h2 h3=>qfQ base wp k s n k2 s2 n2 r w0 w h1 hwp h2 h3 cp
theorem Ws.fin{w0:World}{base wp:Nat}{xs:List Tn}{W:World}{pre F:List Tn}{w:World}(h:Ws w0 base wp xs W pre w)(e:pre=F):WrQ w0 base wp xs F W (.returned (.tuple #[])) w:=by
 subst e;exact⟨rfl,h.1,h.2.1,h.2.2⟩
theorem Ws.put1g{w0:World}{base wp:Nat}{xs:List Tn}{W:World}{pre:List Tn}{w:World}(h:Ws w0 base wp xs W pre w)(hwp:w0.heap.size<=wp)(k:Int)(s:List UInt8)(n:Int)(cp g:Nat)(hg:g=w.heap.size) :
  Calls Tryz.prog 85 #[.pointer (some ⟨wp,0,none⟩),.slice (some ⟨g,0,none⟩) 1 cp] (w.alloc (.cells #[.int .u8 k,.string ⟨s.toArray⟩,.int .i64 n,.int .i64 0,.int .i64 0,.int .i64 0] 51)) (WsQ w0 base wp xs W (pre++[tk0 k s n]) w):=by
 subst hg;exact h.put1 hwp k s n cp
theorem Ws.runA{w0:World}{base wp:Nat}{xs:List Tn}{W:World}{pre F:List Tn}{w w':World}{f:FuncId}{args:Array Value}(h:Ws w0 base wp xs W pre w)(hb:Bel w w')(H:∀ r,Bel w0 w'->Wri w' base wp r->r.length<=5000->Calls Tryz.prog f args w' (WrQ w0 base wp r F w')) :
  Calls Tryz.prog f args w' (WsQ w0 base wp xs W (pre++F) w):=by
 refine ((h.bel hb).run H).mono ?_;rintro e w2 ⟨rfl,q1,q2⟩;exact⟨rfl,q1,(h.kp hb).on q2⟩
theorem KidsTr.old{w0 w:World}{sh:Sh}{A:Option Addr}{n c:Nat}{f:Tr}{base wp:Nat}{xs:List Tn}{W:World}{pre:List Tn}(h:KidsTr w0 (OldT w0) sh A n c f)(hwp:w0.heap.size<=wp)(hs:Ws w0 base wp xs W pre w):RowX w0 w wp sh A n f:=by
 obtain⟨h1,⟨r,h2,_⟩,_⟩:=hs;exact RowX.old h h1 hwp h2
theorem QE{w0:World}{sh:Sh}(hs:sh ≠ .arms){A:Option Addr}{l c:Nat}{kids:Tr}(h:KidsTr w0 (OldT w0) sh A l c kids)(hl:l=2) :
  ∃ b o ka sa na pa kia ara A1 c1 B1 d1 kb sb nb pb kib arb A2 c2 B2 d2,kids=.nod ka sa na pa kia ara (.nod kb sb nb pb kib arb .nil)/\A=some ⟨b,o,none⟩/\b<w0.heap.size ∧
   (∀ w,Bel w0 w->∀ j u,(nodV sh ka sa na pa A1 kia.len c1 B1 ara.len d1)[j]?=some u->w.cell? ⟨b,o+j,none⟩=some u)/\KidsTr w0 (OldT w0) sh A1 kia.len c1 kia/\((sh=.ex/\KidsTr w0 (OldT w0) .arms B1 ara.len d1 ara)∨((sh=.pat∨sh=.ty)/\ara=.nil)) ∧
   (∀ w,Bel w0 w->∀ j u,(nodV sh kb sb nb pb A2 kib.len c2 B2 arb.len d2)[j]?=some u->w.cell? ⟨b,o+sh.sz+j,none⟩=some u)/\KidsTr w0 (OldT w0) sh A2 kib.len c2 kib/\((sh=.ex/\KidsTr w0 (OldT w0) .arms B2 arb.len d2 arb)∨((sh=.pat∨sh=.ty)/\arb=.nil)):=by
 have hn:=h.isNods hs;obtain⟨e,_,ht⟩:=h;obtain⟨ka,sa,na,pa,kia,ara,kb,sb,nb,pb,kib,arb,rfl⟩:=Tr.two kids hn (by omega);obtain⟨b,o,rfl,hb,ht⟩:=ht (by omega);have hb':b<w0.heap.size:=hb;obtain⟨A1,c1,B1,d1,h1,h2,h3,ht2⟩:=ht.parts;obtain⟨A2,c2,B2,d2,h4,h5,h6,_⟩:=ht2.parts;exact⟨b,o,ka,sa,na,pa,kia,ara,A1,c1,B1,d1,kb,sb,nb,pb,kib,arb,A2,c2,B2,d2,rfl,rfl,hb,fun w hw j u hu=>(hw.cell (p:=⟨b,_,none⟩) hb').trans (h1 j u hu),h2,h3.imp id fun h=>⟨h.1,Tr.len_nil _ h.2⟩,fun w hw j u hu=>(hw.cell (p:=⟨b,_,none⟩) hb').trans (h4 j u hu),h5,h6.imp id fun h=>⟨h.1,Tr.len_nil _ h.2⟩⟩
theorem qbr{w0:World}{sh:Sh}(hs:sh ≠ .arms){A:Option Addr}{l c:Nat}{kids:Tr}(h:KidsTr w0 (OldT w0) sh A l c kids)(hl:l=1) :
  ∃ b o ka sa na pa kia ara A1 c1 B1 d1,kids=.nod ka sa na pa kia ara .nil/\A=some ⟨b,o,none⟩/\b<w0.heap.size ∧
   (∀ w,Bel w0 w->∀ j u,(nodV sh ka sa na pa A1 kia.len c1 B1 ara.len d1)[j]?=some u->w.cell? ⟨b,o+j,none⟩=some u)/\KidsTr w0 (OldT w0) sh A1 kia.len c1 kia/\((sh=.ex/\KidsTr w0 (OldT w0) .arms B1 ara.len d1 ara)∨((sh=.pat∨sh=.ty)/\ara=.nil)):=by
 have hn:=h.isNods hs;obtain⟨e,_,ht⟩:=h;obtain⟨ka,sa,na,pa,kia,ara,rfl⟩:=Tr.one_nod kids (by omega) hn;obtain⟨b,o,rfl,hb,ht⟩:=ht (by omega);have hb':b<w0.heap.size:=hb;obtain⟨A1,c1,B1,d1,h1,h2,h3,ht2⟩:=ht.parts;exact⟨b,o,ka,sa,na,pa,kia,ara,A1,c1,B1,d1,rfl,rfl,hb,fun w hw j u hu=>(hw.cell (p:=⟨b,_,none⟩) hb').trans (h1 j u hu),h2,h3.imp id fun h=>⟨h.1,Tr.len_nil _ h.2⟩⟩
set_option maxHeartbeats 2000000
def TyC(w0:World)(base wp M:Nat):Prop:=∀ (k:Int) (s:List UInt8) (n:Int) (p:Pl) (A:Option Addr) (c:Nat) (kids:Tr) (xs:List Tn) (W:World),
 KidsTr w0 (OldT w0) .ty A kids.len c kids->1+kids.size<=M->(Tr.nod k s n p kids .nil .nil).shpT->Bel w0 W->Wri W base wp xs->xs.length<=5000 →
 Calls Tryz.prog 139 #[.pointer (some ⟨wp,0,none⟩),.agg #[.int .u8 k,.string ⟨s.toArray⟩,.int .u8 n,p.a,p.l,p.c,.slice A kids.len c]] W (WrQ w0 base wp xs (qI k s n kids) W)
theorem Qn(base wp M:Nat)(xs:List Tn)(A:Option Addr)(n c:Nat)(f:Tr)(w0 W:World)
  (hX:TyC w0 base wp M) (hwp:w0.heap.size<=wp) (hf:RowX w0 W wp .ty A n f) (hsz:f.size<=M) (hM:M<=1000000) (hs:f.shpT) (hW:Bel w0 W) (hw:Wri W base wp xs) (hx:xs.length<=5000) :
  Calls Tryz.prog 137 #[.pointer (some ⟨wp,0,none⟩),.func (.func 138) #[] #[],.func (.func 139) #[.pointer (some ⟨wp,0,none⟩)] #[],.slice A n c] W (WrQ w0 base wp xs (f.brT) W):=by
 have HF:=hid hf;have HX:=hid hX;have HSZ:=hid (And.intro hsz hs);have HNN:Hid f.isNods:=hid (hf.isNods (by intro e;cases e));have HW:=hid hW;have HL:Hid (n=f.len):=hid hf.1;have hn:n<=1000000:=by have:=hf.1;have:=f.len_le;omega
 have ega:∀ args w,(callFunc 138 args).run Tryz.prog w=.ok (.enter 138 args) w:=fun args w=>by kernel_rfl
 have egx:∀ args w,(callFunc 139 args).run Tryz.prog w=.ok (.enter 139 args) w:=fun args w=>by kernel_rfl
 have HI:Hid (∃ pre,Ws w0 base wp xs W pre W/\pre++(f.dropN 0).brT=f.brT):=hid ⟨[],Ws.start hW hw hx,by cases f <;> rfl⟩;clear hf hX hsz hs hW hw hx;go_enter Tryz.func137,Tryz.ntmps137
 go_wp2_with fail
 go_loopw [12] (fun i wr=>∃ j:Nat,j<=n/\i=.int .i64 (j:Int)/\Hid (∃ pre,Ws w0 base wp xs W pre wr/\pre++(f.dropN j).brT=f.brT)) (fun i _=>n-(intOf i).toNat)
 case atStart=>exact⟨0,Nat.zero_le _,rfl,HI⟩
 case round=>
  obtain⟨j,hj,rfl,HR⟩:=hrel;obtain⟨pre,hws,hpre⟩:=HR.out;by_cases hlt:j<n
  ·obtain⟨ub,uo,k,s,nn,p,kids,arms,A',c',B',bc',eA,⟨uob,hub⟩,hnth,hcs,hkk,hka⟩:=(HF.out.step HW.out hws.1 hws.2.2).nth (by intro e;cases e) hws.1 hlt
   subst eA;have ha0:arms.len=0:=by
    rcases hka with ⟨h,_⟩ | ⟨_,h⟩
    ·cases h
    ·exact h
   have ha1:=Tr.len_nil arms ha0;subst ha1;have hns:1+kids.size<=M:=by
    have h1:=f.nth_size j;rw[hnth]at h1;simp only[Tr.size]at h1;have:=HSZ.out.1;omega
   have hnp:(Tr.nod k s nn p kids .nil .nil).shpT:=by rw[<- hnth];exact f.nth_shpT j HNN.out HSZ.out.2
   have hdr:(f.dropN j).brT=brkL (alnT k kids.len) (qI k s nn kids)++(f.dropN (j+1)).brT:=by rw[Tr.dropN_nod f j hnth];rfl
   have HC:Hid (∀ (ys:List Tn) (W':World),Bel w0 W'->Wri W' base wp ys->ys.length<=5000->Calls Tryz.prog 139 #[.pointer (some ⟨wp,0,none⟩),.agg #[.int .u8 k,.string ⟨s.toArray⟩,.int .u8 nn,p.a,p.l,p.c,.slice A' kids.len c']] W' (WrQ w0 base wp ys (qI k s nn kids) W')):=hid fun ys W' h1 h2 h3=>HX.out k s nn p A' c' kids ys W' hkk hns hnp h1 h2 h3;have y0:=hcs 0 _ rfl;have y1:=hcs 1 _ rfl;have y2:=hcs 2 _ rfl;have y3:=hcs 3 _ rfl;have y4:=hcs 4 _ rfl;have y5:=hcs 5 _ rfl;have y6:=hcs 6 _ rfl;simp only[Sh.sz,Sh.kd,Nat.add_zero]at y0 y1 y2 y3 y4 y5 y6;rw[hdr]at hpre;obtain⟨Fx,hFx⟩:∃ F,F=qI k s nn kids:=⟨_,rfl⟩
   obtain⟨b,hb⟩:∃ b,b=alnT k kids.len:=⟨_,rfl⟩
   obtain⟨SS,hSS⟩:∃ S:ByteArray,S=⟨s.toArray⟩:=⟨_,rfl⟩
   obtain⟨l1,hl1⟩:∃ l,l=kids.len:=⟨_,rfl⟩
   have HAL:Hid (∀ W',Calls Tryz.prog 138 #[.agg #[.int .u8 k,SS,.int .u8 nn,p.a,p.l,p.c,.slice A' l1 c']] W' (qj b W')):=hid fun W'=>by rw[hb,<- hl1];exact qaf k SS nn p A' l1 c' W'
   rw[<- hFx,<- hb]at hpre;rw[<- hSS,<- hl1,<- hFx]at HC;rw[<- hSS]at y1;rw[<- hl1]at y6;have HS1:=hid (hws.bel ((Bel.refl wr).alloc (.cells #[.int .u8 k,SS,.int .u8 nn,p.a,p.l,p.c,.slice A' l1 c'] 59)));have HBX:=hid (hws.box (.cells #[.int .u8 k,SS,.int .u8 nn,p.a,p.l,p.c,.slice A' l1 c'] 59));have HPRE:=hid hpre;have hob':ub<wr.heap.size:=(Array.getElem?_eq_some_iff.1 hub.1).1;have i1:(0:Int)<=(j:Int):=by omega
   have i2:(j:Int)<(n:Int):=by omega
   have HLT:=hid hlt;clear hcs hkk hka ha0 hns hnp hdr hpre hFx hb hSS hl1 hnth hub hws HR;go_wp2_with fail
   refine (HAL.out _).mono ?_;rintro e w2 ⟨rfl,hb2⟩;have HS2:=hid (HS1.out.bel hb2);have HX2:=hid (HS1.out.kp hb2 _ _ HBX.out);obtain⟨x0,x1,x2,x3,x4,x5,x6⟩:=box7 HX2.out.1;have hl2:wr.heap.size<w2.heap.size:=(Array.getElem?_eq_some_iff.1 HX2.out.1).1;clear hb2 y0 y1 y2 y3 y4 y5 y6 hob' HAL HS1 HBX;cases b
   ·go_wp2_with fail
    refine (qd _ _).mono ?_;rintro e w3 ⟨rfl,hb3⟩;have HS3:=hid (HS2.out.bel hb3);have HX3:=hid (HS2.out.kp hb3 _ _ HX2.out);clear hb3 x0 x1 x2 x3 x4 x5 x6;unfold tokV;go_wp2_with fail
    refine (HS3.out.put1 hwp 5 [40] 0 _).mono ?_;rintro e w4 ⟨rfl,hs4,hk4⟩;have HS4:=hid hs4;have HX4:=hid (hk4 _ _ HX3.out);obtain⟨x0,x1,x2,x3,x4,x5,x6⟩:=box7 HX4.out.1;have hl4:wr.heap.size<w4.heap.size:=(Array.getElem?_eq_some_iff.1 HX4.out.1).1;clear hs4 hk4;go_wp2_with fail
    refine (HS4.out.run fun r h1 h2 h3=>HC.out r w4 h1 h2 h3).mono ?_;rintro e w5 ⟨rfl,hs5,hk5⟩;have HS5:=hid hs5;clear hs5 hk5 x0 x1 x2 x3 x4 x5 x6;go_wp2_with fail
    refine (qd _ _).mono ?_;rintro e w6 ⟨rfl,hb6⟩;have HS6:=hid (HS5.out.bel hb6);clear hb6;unfold tokV;go_wp2_with fail
    refine (HS6.out.put1 hwp 5 [41] 0 _).mono ?_;rintro e w7 ⟨rfl,hs7,hk7⟩;have HS7:=hid hs7;have HR':Hid (∃ pre,Ws w0 base wp xs W pre w7/\pre++(f.dropN (j+1)).brT=f.brT):=hid ⟨_,HS7.out,by rw[<- HPRE.out];simp[brkL]⟩;clear hs7 hk7;go_wp2_with fail
    go_roundw
    case rel=>exact⟨j+1,HLT.out,by go_num,HR'⟩
    case measure=>have:=HLT.out;simp[intOf];omega
   ·go_wp2_with fail
    refine (HS2.out.run fun r h1 h2 h3=>HC.out r w2 h1 h2 h3).mono ?_;rintro e w5 ⟨rfl,hs5,hk5⟩;have HR':Hid (∃ pre,Ws w0 base wp xs W pre w5/\pre++(f.dropN (j+1)).brT=f.brT):=hid ⟨_,hs5,by rw[<- HPRE.out];simp[brkL]⟩;clear hs5 hk5 x0 x1 x2 x3 x4 x5 x6;go_wp2_with fail
    go_roundw
    case rel=>exact⟨j+1,HLT.out,by go_num,HR'⟩
    case measure=>have:=HLT.out;simp[intOf];omega
  ·obtain rfl:j=n:=by omega
   rw[Tr.dropN_all f j (by rw[<- HL.out];exact Nat.le_refl _)]at hpre;have HQ:=hid (hws.fin (F:=f.brT) (by rw[<- hpre];simp[Tr.brT]));clear hws hpre;go_wp2_with fail
   go_end0
   exact HQ.out
end Go.Proofs.YtlmmaoobembadaaGreatDoor.Mu
