import Derived.Test.YtfpoelklhekfaaaGreatDoorQat
open Go.Lib (hid)
namespace Go.Proofs.YtfpoelklhekfaaaGreatDoor.Mu
open Go Go.RowKit Go.Shelf
set_option linter.unusedVariables false
def WrQ(w0:World)(base wp:Nat)(xs F:List Tn)(W:World):Ending->World->Prop:=fun e w'=>e=.returned (.tuple #[])/\Bel w0 w'/\(∃ r,Wri w' base wp r/\WrR xs F r/\r.length<=5000)/\KpW W w' wp
def qH(k:Int)(s:List UInt8)(n:Int)(K:List Tn):List Tn:=if k=2 then [tk0 5 [95] 0] else tk0 (paR k).1 s n::K
def Tr.patK:Tr->List Tn
 | .nil=>[]
 | .nod k s n _ kids _ r=>brkL (alnP k kids.len) (qH k s n kids.patK)++r.patK
 | .arm ..=>[]
def Tr.tyK:Tr->List Tn->List Tn
 | .nil,_=>[]
 | .nod k s n _ kids _ r,sep=>brkL (alnT k kids.len) (if k=3 then kids.tyK [qW n] else tk0 (tyR k).1 s 0::kids.tyK [])++sep++r.tyK []
 | .arm ..,_=>[]
def zm(k:Int)(s:List UInt8)(n:Int)(kids:Tr):List Tn:=if k=3 then kids.tyK [qW n] else tk0 (tyR k).1 s 0::kids.tyK []
def brkM(md:Nat)(k:Int)(l:Nat)(F:List Tn):List Tn:=if md=0 then F else if md=1 then brkL (alnF k l) F else brkL (alnE k l) F
def nxM(md:Nat):Nat:=if md=1 then 2 else md
def zj:Tn:=tk0 5 [108,101,116] 0
def jw:Tn:=tk0 5 [114,101,99] 0
def kwIn:Tn:=tk0 5 [105,110] 0
def zy:Tn:=tk0 5 [99,97,115,101] 0
def kwOf:Tn:=tk0 5 [111,102] 0
def kwEq:Tn:=tk0 5 [61] 0
def jl:Tn:=tk0 5 [45,62] 0
def Jc:Tn:=tk0 5 [92] 0
def kwOpen:Tn:=tk0 5 [123] 0
def kwClose:Tn:=tk0 5 [125] 0
def zQ:Tn:=tk0 5 [59] 0
def Tr.exK:Tr->Nat->List Tn->List Tn
 | .nil,_,_=>[]
 | .nod k s n _ kids arms r,md,sep=>brkM md k kids.len
   (if k=4 then Jc::tk0 1 s 0::jl::kids.exK 0 []
    else if k=6 then zj::tk0 1 s 0::kwEq::kids.exK 0 [kwIn]
    else if k=7 then zj::jw::tk0 1 s 0::kwEq::kids.exK 0 [kwIn]
    else if k=8 then zy::kids.exK 0 []++[kwOf]++arms.exK 0 [kwOpen]++[kwClose]
    else if k=5 then kids.exK 1 []
    else if (exR k s).1=5 then kids.exK 2 [tk0 5 s n]
    else tk0 (exR k s).1 s n::kids.exK 2 [])++sep++r.exK (nxM md) []
 | .arm k s n _ kids e r,_,sep=>sep++qH k s n kids.patK++[jl]++e.exK 0 []++r.exK 0 [zQ]
def qm(k:Int)(s:List UInt8)(n:Int)(kids arms:Tr):List Tn:=
 if k=4 then Jc::tk0 1 s 0::jl::kids.exK 0 []
 else if k=6 then zj::tk0 1 s 0::kwEq::kids.exK 0 [kwIn]
 else if k=7 then zj::jw::tk0 1 s 0::kwEq::kids.exK 0 [kwIn]
 else if k=8 then zy::kids.exK 0 []++[kwOf]++arms.exK 0 [kwOpen]++[kwClose]
 else if k=5 then kids.exK 1 []
 else if (exR k s).1=5 then kids.exK 2 [tk0 5 s n]
 else tk0 (exR k s).1 s n::kids.exK 2 []
theorem qbm(k:Int)(s:List UInt8)(n:Int)(p:Pl)(kids arms r:Tr):(Tr.nod k s n p kids arms r).patK=brkL (alnP k kids.len) (qH k s n kids.patK)++r.patK:=rfl
theorem Q8(k:Int)(s:List UInt8)(n:Int)(p:Pl)(kids arms r:Tr)(sep:List Tn):(Tr.nod k s n p kids arms r).tyK sep=brkL (alnT k kids.len) (zm k s n kids)++sep++r.tyK []:=rfl
theorem zF(k:Int)(s:List UInt8)(n:Int)(p:Pl)(kids arms r:Tr)(md:Nat)(sep:List Tn):(Tr.nod k s n p kids arms r).exK md sep=brkM md k kids.len (qm k s n kids arms)++sep++r.exK (nxM md) []:=rfl
def Tr.brX(al:Int->Nat->Bool):Tr->List Tn
 | .nil=>[]
 | .nod k s n _ kids arms r=>brkL (al k kids.len) (qm k s n kids arms)++r.brX al
 | .arm ..=>[]
def Tr.brP:Tr->List Tn
 | .nil=>[]
 | .nod k s n _ kids arms r=>brkL (alnP k kids.len) (qH k s n kids.patK)++r.brP
 | .arm ..=>[]
def Tr.brT:Tr->List Tn
 | .nil=>[]
 | .nod k s n _ kids arms r=>brkL (alnT k kids.len) (zm k s n kids)++r.brT
 | .arm ..=>[]
def Tr.dropN:Tr->Nat->Tr
 | f,0=>f
 | .nil,_+1=> .nil
 | .nod _ _ _ _ _ _ r,i+1=>r.dropN i
 | .arm _ _ _ _ _ _ r,i+1=>r.dropN i
theorem Tr.dropN_nil:∀ i,Tr.nil.dropN i=.nil
 | 0=>rfl
 | _+1=>rfl
theorem Tr.dropN_all:∀ (f:Tr) (i:Nat),f.len<=i->f.dropN i=.nil
 | .nil,i,_=>Tr.dropN_nil i
 | .nod _ _ _ _ _ _ r,0,h=>by simp[Tr.len]at h
 | .arm _ _ _ _ _ _ r,0,h=>by simp[Tr.len]at h
 | .nod _ _ _ _ _ _ r,i+1,h=>Tr.dropN_all r i (by simpa [Tr.len] using h)
 | .arm _ _ _ _ _ _ r,i+1,h=>Tr.dropN_all r i (by simpa [Tr.len] using h)
theorem Tr.dropN_nod{k:Int}{s:List UInt8}{n:Int}{p:Pl}{kids arms:Tr}:∀ (f:Tr) (i:Nat),f.nth i=.nod k s n p kids arms .nil->f.dropN i=.nod k s n p kids arms (f.dropN (i+1))
 | .nil,i,h=>by cases i <;> simp[Tr.nth]at h
 | .nod _ _ _ _ _ _ r,0,h=>by
  simp only[Tr.nth,Tr.nod.injEq]at h;obtain⟨rfl,rfl,rfl,rfl,rfl,rfl,_⟩:=h;cases r <;> rfl
 | .arm _ _ _ _ _ _ r,0,h=>by simp[Tr.nth]at h
 | .nod _ _ _ _ _ _ r,i+1,h=>Tr.dropN_nod r i h
 | .arm _ _ _ _ _ _ r,i+1,h=>Tr.dropN_nod r i h
def Tr.shp:Tr->Prop
 | .nil=>True
 | .nod k s _ _ kids arms r=>(k=4->kids.len=1)/\(k=5∨k=6∨k=7->kids.len=2)/\(k=8->kids.len=1)/\((exR k s).1=5->kids.len=2)/\kids.shp/\arms.shp/\r.shp
 | .arm _ _ _ _ _ e r=>e.shp/\r.shp
def Tr.shpT:Tr->Prop
 | .nil=>True
 | .nod k _ _ _ kids _ r=>(k=3->kids.len=2)/\kids.shpT/\r.shpT
 | .arm ..=>True
theorem Tr.nth_shp:∀ (f:Tr) (i:Nat),f.shp->(f.nth i).shp
 | .nil,_,_=>trivial
 | .nod _ _ _ _ a b r,0,h=>⟨h.1,h.2.1,h.2.2.1,h.2.2.2.1,h.2.2.2.2.1,h.2.2.2.2.2.1,trivial⟩
 | .arm _ _ _ _ a b r,0,h=>⟨h.1,trivial⟩
 | .nod _ _ _ _ a b r,i+1,h=>Tr.nth_shp r i h.2.2.2.2.2.2
 | .arm _ _ _ _ a b r,i+1,h=>Tr.nth_shp r i h.2
theorem Tr.nth_shpT:∀ (f:Tr) (i:Nat),f.isNods->f.shpT->(f.nth i).shpT
 | .nil,_,_,_=>trivial
 | .nod _ _ _ _ a b r,0,_,h=>⟨h.1,h.2.1,trivial⟩
 | .arm ..,_,h,_=>h.elim
 | .nod _ _ _ _ a b r,i+1,hn,h=>Tr.nth_shpT r i hn h.2.2
theorem Tr.brX_exK:∀ f:Tr,f.isNods->f.exK 2 []=f.brX alnE
 | .nil,_=>rfl
 | .arm ..,h=>h.elim
 | .nod k s n p kids arms r,h=>by
  rw[zF,Tr.brX,show nxM 2=2 from rfl,Tr.brX_exK r h];simp[brkM]
theorem Tr.brP_patK:∀ f:Tr,f.patK=f.brP
 | .nil=>rfl
 | .arm ..=>rfl
 | .nod k s n p kids arms r=>by rw[qbm,Tr.brP,Tr.brP_patK r]
theorem Tr.brT_tyK:∀ f:Tr,f.tyK []=f.brT
 | .nil=>rfl
 | .arm ..=>rfl
 | .nod k s n p kids arms r=>by rw[Q8,Tr.brT,Tr.brT_tyK r,List.append_nil]
theorem Tr.two:∀ f:Tr,f.isNods->f.len=2->∃ k s n p a b k' s' n' p' a' b',f=.nod k s n p a b (.nod k' s' n' p' a' b' .nil)
 | .nil,_,h=>by simp[Tr.len]at h
 | .arm ..,h,_=>h.elim
 | .nod k s n p a b r,h,hl=>by
  obtain⟨k',s',n',p',a',b',e⟩:=Tr.one_nod r (by simpa [Tr.len] using hl) h;exact⟨k,s,n,p,a,b,k',s',n',p',a',b',by rw[e]⟩
end Go.Proofs.YtfpoelklhekfaaaGreatDoor.Mu
namespace Go.Proofs.YtfpoelklhekfaaaGreatDoor.Mu
open Go Go.RowKit Go.Shelf
attribute [local go_sem] Oper.semAt_some
set_option linter.unusedVariables false
set_option maxRecDepth 100000
theorem qcs(base wp:Nat)(xs ls:List Tn)(g cp:Nat)(t:TypeId)(w0 W0 W:World)(hW:Bel w0 W0)(hwp:w0.heap.size<=wp)(hw:Wri W0 base wp xs)(hb:Bel W0 W)(hx:xs.length<=5000)(hl:ls.length<=900)(h0:0<ls.length)(hg:W.heap[g]?=some (.cells (zo ls).toArray t (0,0)))(h1:∀ u∈zo ls,u.oneCell'=true) :
  Calls Tryz.prog 50 #[.pointer (some ⟨wp,0,none⟩),.slice (some ⟨g,0,none⟩) ls.length cp] W (WrQ w0 base wp xs ls W0):=by
 have h:=qfI base wp xs ls ⟨g,0,none⟩ ls.length cp w0 W (hW.on hb) hwp (hw.bel hb) (by omega) (by omega) rfl h0 (fun j u hu=>by
  rw[Addr.add_lit];unfold World.cell?
  simp only[hg];simpa using hu) h1
 refine h.mono ?_;rintro e w' ⟨rfl,hb',hw',hk'⟩;refine⟨rfl,hb',⟨_,hw',WrR.put xs ls,?_⟩,(KpW.of_bel hw.lt hb).on hk'⟩;unfold qeB;split
 ·rw[List.length_append];omega
 ·exact hx
theorem qT(ls:List Tn):∀ u∈zo ls,u.oneCell'=true:=by
 intro u hu;obtain⟨x,_,hx⟩:=List.mem_flatMap.1 hu;unfold Tn.cells at hx;simp at hx;rcases hx with rfl | rfl | rfl | rfl | rfl | rfl <;> rfl
theorem qfi(base wp:Nat)(k:Int)(s:List UInt8)(n:Int)(xs:List Tn)(w0 W:World)(hW:Bel w0 W)(hwp:w0.heap.size<=wp)(hw:Wri W base wp xs)(hx:xs.length<=5000)(cp:Nat) :
  Calls Tryz.prog 50 #[.pointer (some ⟨wp,0,none⟩),.slice (some ⟨W.heap.size,0,none⟩) 1 cp] (W.alloc (.cells #[.int .u8 k,.string ⟨s.toArray⟩,n,(0:Int),(0:Int),(0:Int)] 37)) (WrQ w0 base wp xs [tk0 k s n] W):=
 qcs base wp xs [tk0 k s n] W.heap.size cp _ w0 W _ hW hwp hw ((Bel.refl W).alloc _) hx (by simp) (by simp) (blk1 W _) (qT _)
theorem qfj(base wp:Nat)(k:Int)(s:List UInt8)(n:Int)(k2:Int)(s2:List UInt8)(n2:Int)(xs:List Tn)(w0 W:World)(hW:Bel w0 W)(hwp:w0.heap.size<=wp)(hw:Wri W base wp xs)(hx:xs.length<=5000)(cp:Nat) :
  Calls Tryz.prog 50 #[.pointer (some ⟨wp,0,none⟩),.slice (some ⟨W.heap.size,0,none⟩) 2 cp] (W.alloc (.cells #[.int .u8 k,.string ⟨s.toArray⟩,n,(0:Int),(0:Int),(0:Int),.int .u8 k2,.string ⟨s2.toArray⟩,n2,(0:Int),(0:Int),(0:Int)] 37)) (WrQ w0 base wp xs [tk0 k s n,tk0 k2 s2 n2] W):=
 qcs base wp xs [tk0 k s n,tk0 k2 s2 n2] W.heap.size cp _ w0 W _ hW hwp hw ((Bel.refl W).alloc _) hx (by simp) (by simp) (blk1 W _) (qT _)
def RowX(w0 W:World)(wp:Nat)(sh:Sh)(A:Option Addr)(n:Nat)(f:Tr):Prop:=
 n=f.len/\(0<n->∃ b o,A=some ⟨b,o,none⟩/\(∃ ob,Bx W wp b ob)/\TrAt W (OldT w0) f sh b o)
theorem TrAt.keepX{w w':World}{Ok:Nat->Prop}{f:Tr}{sh:Sh}{b o:Nat}(h:TrAt w Ok f sh b o)(hk:∀ j,Ok j->w'.heap[j]?=w.heap[j]?)(hb:w'.heap[b]?=w.heap[b]?):TrAt w' Ok f sh b o:=by
 have hc:∀ o',w'.cell? ⟨b,o',none⟩=w.cell? ⟨b,o',none⟩:=fun o'=>World.cell?_of_block (a:=⟨b,o',none⟩) hb;induction f generalizing o sh with
 | nil=>trivial
 | nod k s n p kids arms r _ _ ih=>
  obtain⟨h1,⟨A,cap,a1,a2,a3⟩,h3,h4⟩:=h;refine⟨h1.keep hb,⟨A,cap,(hc _).trans a1,a2,fun h0=>?_⟩,?_,ih h4⟩
  ·obtain⟨b',o',e,c1,c2⟩:=a3 h0
   exact⟨b',o',e,c1,TrAt.keep hk _ _ _ _ c1 c2⟩
  ·rcases h3 with ⟨e,A2,cap2,c1,c2,c3⟩ | h3
   ·refine .inl ⟨e,A2,cap2,(hc _).trans c1,c2,fun h0=>?_⟩
    obtain⟨b',o',e,d1,d2⟩:=c3 h0;exact⟨b',o',e,d1,TrAt.keep hk _ _ _ _ d1 d2⟩
   ·exact .inr h3
 | arm k s n p kids e r _ ie ih=>
  obtain⟨h0,h1,⟨A,cap,a1,a2,a3⟩,h3,h4,h5⟩:=h;subst h0;refine⟨rfl,h1.keep hb,⟨A,cap,(hc _).trans a1,a2,fun h0=>?_⟩,h3,ie h4,ih h5⟩;obtain⟨b',o',e,c1,c2⟩:=a3 h0;exact⟨b',o',e,c1,TrAt.keep hk _ _ _ _ c1 c2⟩
theorem RowX.step{w0 W W':World}{wp:Nat}{sh:Sh}{A:Option Addr}{n:Nat}{f:Tr}(h:RowX w0 W wp sh A n f)(hb:Bel w0 W)(hb':Bel w0 W')(hk:KpW W W' wp):RowX w0 W' wp sh A n f:=
 ⟨h.1,fun hn=>by
  obtain⟨b,o,e,⟨ob,hx⟩,ht⟩:=h.2 hn;have hx':=hk b ob hx;exact⟨b,o,e,⟨ob,hx'⟩,ht.keepX (fun j hj=>(hb'.block j hj).trans (hb.block j hj).symm) (hx'.1.trans hx.1.symm)⟩⟩
theorem RowX.old{w0 W:World}{base wp:Nat}{xs:List Tn}{sh:Sh}{A:Option Addr}{n c:Nat}{f:Tr}(h:KidsTr w0 (OldT w0) sh A n c f)(hb:Bel w0 W)(hwp:w0.heap.size<=wp)(hw:Wri W base wp xs):RowX w0 W wp sh A n f:=
 ⟨h.1,fun hn=>by
  obtain⟨b,o,e,hbb,ht⟩:=h.2.2 hn;have hbb':b<w0.heap.size:=hbb;refine⟨b,o,e,⟨_,hb.blk (Array.getElem?_eq_getElem hbb'),by omega,fun v hv ev=>?_⟩,ht.keepX (fun j hj=>hb.block j hj) (hb.block b hbb')⟩;obtain⟨h1,h2,A',n',c',hc,_,ho⟩:=hw;have c0:W.cell? ⟨wp,0,none⟩=some (.slice A' n' c'):=by simp[World.cell?,hc]
  rw[c0]at hv;obtain rfl:_=v:=Option.some.inj hv;have:=(ho.lt b ev).1;omega⟩
theorem RowX.one{w0 W:World}{base wp:Nat}{xs:List Tn}{sh:Sh}(hs:sh ≠ .arms){k:Int}{s:List UInt8}{n:Int}{p:Pl}{A:Option Addr}{c:Nat}{B:Option Addr}{bc:Nat}{kids arms:Tr}
  (hk:KidsTr w0 (OldT w0) sh A kids.len c kids) (ha:(sh=.ex/\KidsTr w0 (OldT w0) .arms B arms.len bc arms)∨((sh=.pat∨sh=.ty)/\arms.len=0)) {t:TypeId} (hb:Bel w0 W) (hw:Wri W base wp xs) :
  RowX w0 (W.alloc (.cells (nodV sh k s n p A kids.len c B arms.len bc).toArray t)) wp sh (some ⟨W.heap.size,0,none⟩) 1 (.nod k s n p kids arms .nil):=by
 refine⟨rfl,fun _=>⟨_,0,rfl,⟨_,Bx.new hw _⟩,?_⟩⟩;refine (Tells.one hs hk ha (k:=k) (s:=s) (n:=n) (p:=p)).2.2 _ _ 0 (fun j u hu=>?_) (fun j hj=>(hb.alloc _).block j hj);unfold World.cell?
 simp only[blk1];simpa using hu
theorem RowX.isNods{w0 W:World}{wp:Nat}{sh:Sh}(hs:sh ≠ .arms){A:Option Addr}{m:Nat}{f:Tr}(h:RowX w0 W wp sh A m f):f.isNods:=by
 rcases Nat.eq_zero_or_pos f.len with e | e
 ·rw[Tr.len_nil f e];trivial
 ·obtain⟨b,o,_,_,h⟩:=h.2 (by rw[h.1];exact e)
  exact TrAt.isNods hs f b o h
theorem RowX.nth{w0 W:World}{wp:Nat}{sh:Sh}(hs:sh ≠ .arms){A:Option Addr}{m:Nat}{f:Tr}(h:RowX w0 W wp sh A m f)(hb:Bel w0 W){i:Nat}(hi:i<m) :
  ∃ b o k s n p kids arms A' c B bc,A=some ⟨b,o,none⟩/\(∃ ob,Bx W wp b ob)/\f.nth i=.nod k s n p kids arms .nil/\(∀ j u,(nodV sh k s n p A' kids.len c B arms.len bc)[j]?=some u->W.cell? ⟨b,o+i*sh.sz+j,none⟩=some u) ∧
   KidsTr w0 (OldT w0) sh A' kids.len c kids/\((sh=.ex/\KidsTr w0 (OldT w0) .arms B arms.len bc arms)∨((sh=.pat∨sh=.ty)/\arms.len=0)):=by
 obtain⟨b,o,e,hx,ht⟩:=h.2 (by omega);obtain⟨k,s,n,p,kids,arms,en,ha⟩:=TrAt.nod_at hs f i b o ht (by rw[<- h.1];exact hi);obtain⟨A',c,B,bc,hc,hk,har,_⟩:=ha.parts;have hkk:∀ j,OldT w0 j->w0.heap[j]?=W.heap[j]?:=fun j hj=>(hb.block j hj).symm;refine⟨b,o,k,s,n,p,kids,arms,A',c,B,bc,e,hx,en,hc,hk.keep hkk,?_⟩;rcases har with ⟨e1,e2⟩ | har
 ·exact .inl ⟨e1,e2.keep hkk⟩
 ·exact .inr har
theorem RowX.arm{w0 W:World}{wp:Nat}{A:Option Addr}{m:Nat}{f:Tr}(h:RowX w0 W wp .arms A m f)(hb:Bel w0 W){i:Nat}(hi:i<m) :
  ∃ b o k s n p kids k2 s2 n2 p2 kids2 arms2 A1 c1 A2 c2 B2 bc2,A=some ⟨b,o,none⟩/\(∃ ob,Bx W wp b ob)/\f.nth i=.arm k s n p kids (.nod k2 s2 n2 p2 kids2 arms2 .nil) .nil ∧
   (∀ j u,(nodV .pat k s n p A1 kids.len c1 none 0 0)[j]?=some u->W.cell? ⟨b,o+i*15+j,none⟩=some u)/\(∀ j u,(nodV .ex k2 s2 n2 p2 A2 kids2.len c2 B2 arms2.len bc2)[j]?=some u->W.cell? ⟨b,o+i*15+7+j,none⟩=some u) ∧
   KidsTr w0 (OldT w0) .pat A1 kids.len c1 kids/\KidsTr w0 (OldT w0) .ex A2 kids2.len c2 kids2/\KidsTr w0 (OldT w0) .arms B2 arms2.len bc2 arms2:=by
 obtain⟨b,o,e,hx,ht⟩:=h.2 (by omega);obtain⟨k,s,n,p,kids,ex,en,ha⟩:=TrAt.arm_at f i b o ht (by rw[<- h.1];exact hi);obtain⟨_,h1,⟨A1,c1,a1,a2,a3⟩,h3,h4,_⟩:=ha;have hn:=TrAt.isNods (by intro e;cases e) ex b _ h4;obtain⟨k2,s2,n2,p2,kids2,arms2,rfl⟩:=Tr.one_nod ex h3 hn;obtain⟨A2,c2,B2,bc2,hc,hk,har,_⟩:=h4.parts;have hkk:∀ j,OldT w0 j->w0.heap[j]?=W.heap[j]?:=fun j hj=>(hb.block j hj).symm;refine⟨b,o,k,s,n,p,kids,k2,s2,n2,p2,kids2,arms2,A1,c1,A2,c2,B2,bc2,e,hx,en,fun j u hu=>?_,hc,KidsTr.keep (w:=W) ⟨rfl,a2,a3⟩ hkk,hk.keep hkk,?_⟩
 ·rcases Nat.lt_or_ge j 6 with hj | hj
  ·exact Z9 h1 j u (by rw[nodV,List.getElem?_append_left (by simpa [Zr] using hj)]at hu;exact hu)
  ·match j,hu with
   | 6,hu=>cases hu;exact a1
   | j+7,hu=>simp[nodV,Zr,qej]at hu
 ·rcases har with ⟨_,h⟩ | ⟨h | h,_⟩
  ·exact h.keep hkk
  ·cases h
  ·cases h
def Ws(w0:World)(base wp:Nat)(xs:List Tn)(W:World)(pre:List Tn)(w:World):Prop:=Bel w0 w/\(∃ r,Wri w base wp r/\WrR xs pre r/\r.length<=5000)/\KpW W w wp
def WsQ(w0:World)(base wp:Nat)(xs:List Tn)(W:World)(pre:List Tn)(w:World):Ending->World->Prop:=fun e w'=>e=.returned (.tuple #[])/\Ws w0 base wp xs W pre w'/\KpW w w' wp
theorem Ws.start{w0:World}{base wp:Nat}{xs:List Tn}{W:World}(hW:Bel w0 W)(hw:Wri W base wp xs)(hx:xs.length<=5000):Ws w0 base wp xs W [] W:=⟨hW,⟨xs,hw,WrR.nil xs,hx⟩,KpW.refl _ _⟩
theorem Ws.lt{w0:World}{base wp:Nat}{xs:List Tn}{W:World}{pre:List Tn}{w:World}(h:Ws w0 base wp xs W pre w):wp<w.heap.size:=by
 obtain⟨_,⟨r,hr,_⟩,_⟩:=h;exact hr.lt
theorem Ws.bel{w0:World}{base wp:Nat}{xs:List Tn}{W:World}{pre:List Tn}{w w':World}(h:Ws w0 base wp xs W pre w)(hb:Bel w w'):Ws w0 base wp xs W pre w':=by
 have hl:=h.lt;obtain⟨h1,⟨r,h2,h3,h4⟩,h5⟩:=h;exact⟨h1.on hb,⟨r,h2.bel hb,h3,h4⟩,h5.on (KpW.of_bel hl hb)⟩
theorem Ws.kp{w0:World}{base wp:Nat}{xs:List Tn}{W:World}{pre:List Tn}{w w':World}(h:Ws w0 base wp xs W pre w)(hb:Bel w w'):KpW w w' wp:=KpW.of_bel h.lt hb
theorem Ws.box{w0:World}{base wp:Nat}{xs:List Tn}{W:World}{pre:List Tn}{w:World}(h:Ws w0 base wp xs W pre w)(o:Obj):Bx (w.alloc o) wp w.heap.size o:=by
 obtain⟨_,⟨r,hr,_⟩,_⟩:=h;exact Bx.new hr o
theorem Ws.run{w0:World}{base wp:Nat}{xs:List Tn}{W:World}{pre F:List Tn}{w w':World}{f:FuncId}{args:Array Value}(h:Ws w0 base wp xs W pre w)(H:∀ r,Bel w0 w->Wri w base wp r->r.length<=5000->Calls Tryz.prog f args w' (WrQ w0 base wp r F w)) :
  Calls Tryz.prog f args w' (WsQ w0 base wp xs W (pre++F) w):=by
 obtain⟨h1,⟨r,h2,h3,h4⟩,h5⟩:=h;refine (H r h1 h2 h4).mono ?_;rintro e w2 ⟨rfl,q1,⟨r2,q2,q3,q4⟩,q5⟩;exact⟨rfl,⟨q1,⟨r2,q2,h3.on q3,q4⟩,h5.on q5⟩,q5⟩
theorem Ws.put1{w0:World}{base wp:Nat}{xs:List Tn}{W:World}{pre:List Tn}{w:World}(h:Ws w0 base wp xs W pre w)(hwp:w0.heap.size<=wp)(k:Int)(s:List UInt8)(n:Int)(cp:Nat) :
  Calls Tryz.prog 50 #[.pointer (some ⟨wp,0,none⟩),.slice (some ⟨w.heap.size,0,none⟩) 1 cp] (w.alloc (.cells #[.int .u8 k,.string ⟨s.toArray⟩,.int .i64 n,.int .i64 0,.int .i64 0,.int .i64 0] 37)) (WsQ w0 base wp xs W (pre++[tk0 k s n]) w):=
 h.run fun r h1 h2 h3=>qfi base wp k s n r w0 w h1 hwp h2 h3 cp
theorem Ws.put2{w0:World}{base wp:Nat}{xs:List Tn}{W:World}{pre:List Tn}{w:World}(h:Ws w0 base wp xs W pre w)(hwp:w0.heap.size<=wp)(k:Int)(s:List UInt8)(n:Int)(k2:Int)(s2:List UInt8)(n2:Int)(cp:Nat) :
  Calls Tryz.prog 50 #[.pointer (some ⟨wp,0,none⟩),.slice (some ⟨w.heap.size,0,none⟩) 2 cp] (w.alloc (.cells #[.int .u8 k,.string ⟨s.toArray⟩,.int .i64 n,.int .i64 0,.int .i64 0,.int .i64 0,.int .u8 k2,.string ⟨s2.toArray⟩,.int .i64 n2,.int .i64 0,.int .i64 0,.int .i64 0] 37)) (WsQ w0 base wp xs W (pre++[tk0 k s n,tk0 k2 s2 n2]) w):=
 h.run fun r h1 h2 h3=>qfj base wp k s n k2 s2 n2 r w0 w h1 hwp h2 h3 cp
theorem Ws.fin{w0:World}{base wp:Nat}{xs:List Tn}{W:World}{pre F:List Tn}{w:World}(h:Ws w0 base wp xs W pre w)(e:pre=F):WrQ w0 base wp xs F W (.returned (.tuple #[])) w:=by
 subst e;exact⟨rfl,h.1,h.2.1,h.2.2⟩
theorem Ws.put1g{w0:World}{base wp:Nat}{xs:List Tn}{W:World}{pre:List Tn}{w:World}(h:Ws w0 base wp xs W pre w)(hwp:w0.heap.size<=wp)(k:Int)(s:List UInt8)(n:Int)(cp g:Nat)(hg:g=w.heap.size) :
  Calls Tryz.prog 50 #[.pointer (some ⟨wp,0,none⟩),.slice (some ⟨g,0,none⟩) 1 cp] (w.alloc (.cells #[.int .u8 k,.string ⟨s.toArray⟩,.int .i64 n,.int .i64 0,.int .i64 0,.int .i64 0] 37)) (WsQ w0 base wp xs W (pre++[tk0 k s n]) w):=by
 subst hg;exact h.put1 hwp k s n cp
theorem Ws.runA{w0:World}{base wp:Nat}{xs:List Tn}{W:World}{pre F:List Tn}{w w':World}{f:FuncId}{args:Array Value}(h:Ws w0 base wp xs W pre w)(hb:Bel w w')(H:∀ r,Bel w0 w'->Wri w' base wp r->r.length<=5000->Calls Tryz.prog f args w' (WrQ w0 base wp r F w')) :
  Calls Tryz.prog f args w' (WsQ w0 base wp xs W (pre++F) w):=by
 refine ((h.bel hb).run H).mono ?_;rintro e w2 ⟨rfl,q1,q2⟩;exact⟨rfl,q1,(h.kp hb).on q2⟩
theorem KidsTr.old{w0 w:World}{sh:Sh}{A:Option Addr}{n c:Nat}{f:Tr}{base wp:Nat}{xs:List Tn}{W:World}{pre:List Tn}(h:KidsTr w0 (OldT w0) sh A n c f)(hwp:w0.heap.size<=wp)(hs:Ws w0 base wp xs W pre w):RowX w0 w wp sh A n f:=by
 obtain⟨h1,⟨r,h2,_⟩,_⟩:=hs;exact RowX.old h h1 hwp h2
theorem Qy{w0:World}{sh:Sh}(hs:sh ≠ .arms){A:Option Addr}{l c:Nat}{kids:Tr}(h:KidsTr w0 (OldT w0) sh A l c kids)(hl:l=2) :
  ∃ b o ka sa na pa kia ara A1 c1 B1 d1 kb sb nb pb kib arb A2 c2 B2 d2,kids=.nod ka sa na pa kia ara (.nod kb sb nb pb kib arb .nil)/\A=some ⟨b,o,none⟩/\b<w0.heap.size ∧
   (∀ w,Bel w0 w->∀ j u,(nodV sh ka sa na pa A1 kia.len c1 B1 ara.len d1)[j]?=some u->w.cell? ⟨b,o+j,none⟩=some u)/\KidsTr w0 (OldT w0) sh A1 kia.len c1 kia/\((sh=.ex/\KidsTr w0 (OldT w0) .arms B1 ara.len d1 ara)∨((sh=.pat∨sh=.ty)/\ara=.nil)) ∧
   (∀ w,Bel w0 w->∀ j u,(nodV sh kb sb nb pb A2 kib.len c2 B2 arb.len d2)[j]?=some u->w.cell? ⟨b,o+sh.sz+j,none⟩=some u)/\KidsTr w0 (OldT w0) sh A2 kib.len c2 kib/\((sh=.ex/\KidsTr w0 (OldT w0) .arms B2 arb.len d2 arb)∨((sh=.pat∨sh=.ty)/\arb=.nil)):=by
 have hn:=h.isNods hs;obtain⟨e,_,ht⟩:=h;obtain⟨ka,sa,na,pa,kia,ara,kb,sb,nb,pb,kib,arb,rfl⟩:=Tr.two kids hn (by omega);obtain⟨b,o,rfl,hb,ht⟩:=ht (by omega);have hb':b<w0.heap.size:=hb;obtain⟨A1,c1,B1,d1,h1,h2,h3,ht2⟩:=ht.parts;obtain⟨A2,c2,B2,d2,h4,h5,h6,_⟩:=ht2.parts;exact⟨b,o,ka,sa,na,pa,kia,ara,A1,c1,B1,d1,kb,sb,nb,pb,kib,arb,A2,c2,B2,d2,rfl,rfl,hb,fun w hw j u hu=>(hw.cell (p:=⟨b,_,none⟩) hb').trans (h1 j u hu),h2,h3.imp id fun h=>⟨h.1,Tr.len_nil _ h.2⟩,fun w hw j u hu=>(hw.cell (p:=⟨b,_,none⟩) hb').trans (h4 j u hu),h5,h6.imp id fun h=>⟨h.1,Tr.len_nil _ h.2⟩⟩
theorem qbk{w0:World}{sh:Sh}(hs:sh ≠ .arms){A:Option Addr}{l c:Nat}{kids:Tr}(h:KidsTr w0 (OldT w0) sh A l c kids)(hl:l=1) :
  ∃ b o ka sa na pa kia ara A1 c1 B1 d1,kids=.nod ka sa na pa kia ara .nil/\A=some ⟨b,o,none⟩/\b<w0.heap.size ∧
   (∀ w,Bel w0 w->∀ j u,(nodV sh ka sa na pa A1 kia.len c1 B1 ara.len d1)[j]?=some u->w.cell? ⟨b,o+j,none⟩=some u)/\KidsTr w0 (OldT w0) sh A1 kia.len c1 kia/\((sh=.ex/\KidsTr w0 (OldT w0) .arms B1 ara.len d1 ara)∨((sh=.pat∨sh=.ty)/\ara=.nil)):=by
 have hn:=h.isNods hs;obtain⟨e,_,ht⟩:=h;obtain⟨ka,sa,na,pa,kia,ara,rfl⟩:=Tr.one_nod kids (by omega) hn;obtain⟨b,o,rfl,hb,ht⟩:=ht (by omega);have hb':b<w0.heap.size:=hb;obtain⟨A1,c1,B1,d1,h1,h2,h3,ht2⟩:=ht.parts;exact⟨b,o,ka,sa,na,pa,kia,ara,A1,c1,B1,d1,rfl,rfl,hb,fun w hw j u hu=>(hw.cell (p:=⟨b,_,none⟩) hb').trans (h1 j u hu),h2,h3.imp id fun h=>⟨h.1,Tr.len_nil _ h.2⟩⟩
set_option maxHeartbeats 2000000
def TyC(w0:World)(base wp M:Nat):Prop:=∀ (k:Int) (s:List UInt8) (n:Int) (p:Pl) (A:Option Addr) (c:Nat) (kids:Tr) (xs:List Tn) (W:World),
 KidsTr w0 (OldT w0) .ty A kids.len c kids->1+kids.size<=M->(Tr.nod k s n p kids .nil .nil).shpT->Bel w0 W->Wri W base wp xs->xs.length<=5000 →
 Calls Tryz.prog 94 #[.pointer (some ⟨wp,0,none⟩),.agg #[.int .u8 k,.string ⟨s.toArray⟩,.int .u8 n,p.a,p.l,p.c,.slice A kids.len c]] W (WrQ w0 base wp xs (zm k s n kids) W)
theorem Qh(base wp M:Nat)(xs:List Tn)(A:Option Addr)(n c:Nat)(f:Tr)(w0 W:World)
  (hX:TyC w0 base wp M) (hwp:w0.heap.size<=wp) (hf:RowX w0 W wp .ty A n f) (hsz:f.size<=M) (hM:M<=1000000) (hs:f.shpT) (hW:Bel w0 W) (hw:Wri W base wp xs) (hx:xs.length<=5000) :
  Calls Tryz.prog 92 #[.pointer (some ⟨wp,0,none⟩),.func (.func 93) #[] #[],.func (.func 94) #[.pointer (some ⟨wp,0,none⟩)] #[],.slice A n c] W (WrQ w0 base wp xs (f.brT) W):=by
 have HF:=hid hf;have HX:=hid hX;have HSZ:=hid (And.intro hsz hs);have HNN:Hid f.isNods:=hid (hf.isNods (by intro e;cases e));have HW:=hid hW;have HL:Hid (n=f.len):=hid hf.1;have hn:n<=1000000:=by have:=hf.1;have:=f.len_le;omega
 have ega:∀ args w,(callFunc 93 args).run Tryz.prog w=.ok (.enter 93 args) w:=fun args w=>by kernel_rfl
 have egx:∀ args w,(callFunc 94 args).run Tryz.prog w=.ok (.enter 94 args) w:=fun args w=>by kernel_rfl
 have HI:Hid (∃ pre,Ws w0 base wp xs W pre W/\pre++(f.dropN 0).brT=f.brT):=hid ⟨[],Ws.start hW hw hx,by cases f <;> rfl⟩;clear hf hX hsz hs hW hw hx;go_enter Tryz.func92,Tryz.ntmps92
 go_wp2_with fail
 go_loopw [12] (fun i wr=>∃ j:Nat,j<=n/\i=.int .i64 (j:Int)/\Hid (∃ pre,Ws w0 base wp xs W pre wr/\pre++(f.dropN j).brT=f.brT)) (fun i _=>n-(intOf i).toNat)
 case atStart=>exact⟨0,Nat.zero_le _,rfl,HI⟩
 case round=>
  obtain⟨j,hj,rfl,HR⟩:=hrel;obtain⟨pre,hws,hpre⟩:=HR.out;by_cases hlt:j<n
  ·obtain⟨ub,uo,k,s,nn,p,kids,arms,A',c',B',bc',eA,⟨uob,hub⟩,hnth,hcs,hkk,hka⟩:=(HF.out.step HW.out hws.1 hws.2.2).nth (by intro e;cases e) hws.1 hlt
   subst eA;have ha0:arms.len=0:=by
    rcases hka with ⟨h,_⟩ | ⟨_,h⟩
    ·cases h
    ·exact h
   have ha1:=Tr.len_nil arms ha0;subst ha1;have hns:1+kids.size<=M:=by
    have h1:=f.nth_size j;rw[hnth]at h1;simp only[Tr.size]at h1;have:=HSZ.out.1;omega
   have hnp:(Tr.nod k s nn p kids .nil .nil).shpT:=by rw[<- hnth];exact f.nth_shpT j HNN.out HSZ.out.2
   have hdr:(f.dropN j).brT=brkL (alnT k kids.len) (zm k s nn kids)++(f.dropN (j+1)).brT:=by rw[Tr.dropN_nod f j hnth];rfl
   have HC:Hid (∀ (ys:List Tn) (W':World),Bel w0 W'->Wri W' base wp ys->ys.length<=5000->Calls Tryz.prog 94 #[.pointer (some ⟨wp,0,none⟩),.agg #[.int .u8 k,.string ⟨s.toArray⟩,.int .u8 nn,p.a,p.l,p.c,.slice A' kids.len c']] W' (WrQ w0 base wp ys (zm k s nn kids) W')):=hid fun ys W' h1 h2 h3=>HX.out k s nn p A' c' kids ys W' hkk hns hnp h1 h2 h3;have y0:=hcs 0 _ rfl;have y1:=hcs 1 _ rfl;have y2:=hcs 2 _ rfl;have y3:=hcs 3 _ rfl;have y4:=hcs 4 _ rfl;have y5:=hcs 5 _ rfl;have y6:=hcs 6 _ rfl;simp only[Sh.sz,Sh.kd,Nat.add_zero]at y0 y1 y2 y3 y4 y5 y6;rw[hdr]at hpre;obtain⟨Fx,hFx⟩:∃ F,F=zm k s nn kids:=⟨_,rfl⟩
   obtain⟨b,hb⟩:∃ b,b=alnT k kids.len:=⟨_,rfl⟩
   obtain⟨SS,hSS⟩:∃ S:ByteArray,S=⟨s.toArray⟩:=⟨_,rfl⟩
   obtain⟨l1,hl1⟩:∃ l,l=kids.len:=⟨_,rfl⟩
   have HAL:Hid (∀ W',Calls Tryz.prog 93 #[.agg #[.int .u8 k,SS,.int .u8 nn,p.a,p.l,p.c,.slice A' l1 c']] W' (qz b W')):=hid fun W'=>by rw[hb,<- hl1];exact J8 k SS nn p A' l1 c' W'
   rw[<- hFx,<- hb]at hpre;rw[<- hSS,<- hl1,<- hFx]at HC;rw[<- hSS]at y1;rw[<- hl1]at y6;have HS1:=hid (hws.bel ((Bel.refl wr).alloc (.cells #[.int .u8 k,SS,.int .u8 nn,p.a,p.l,p.c,.slice A' l1 c'] 50)));have HBX:=hid (hws.box (.cells #[.int .u8 k,SS,.int .u8 nn,p.a,p.l,p.c,.slice A' l1 c'] 50));have HPRE:=hid hpre;have hob':ub<wr.heap.size:=(Array.getElem?_eq_some_iff.1 hub.1).1;have i1:(0:Int)<=(j:Int):=by omega
   have i2:(j:Int)<(n:Int):=by omega
   have HLT:=hid hlt;clear hcs hkk hka ha0 hns hnp hdr hpre hFx hb hSS hl1 hnth hub hws HR;go_wp2_with fail
   refine (HAL.out _).mono ?_;rintro e w2 ⟨rfl,hb2⟩;have HS2:=hid (HS1.out.bel hb2);have HX2:=hid (HS1.out.kp hb2 _ _ HBX.out);obtain⟨x0,x1,x2,x3,x4,x5,x6⟩:=box7 HX2.out.1;have hl2:wr.heap.size<w2.heap.size:=(Array.getElem?_eq_some_iff.1 HX2.out.1).1;clear hb2 y0 y1 y2 y3 y4 y5 y6 hob' HAL HS1 HBX;cases b
   ·go_wp2_with fail
    refine (qd _ _).mono ?_;rintro e w3 ⟨rfl,hb3⟩;have HS3:=hid (HS2.out.bel hb3);have HX3:=hid (HS2.out.kp hb3 _ _ HX2.out);clear hb3 x0 x1 x2 x3 x4 x5 x6;unfold tokV;go_wp2_with fail
    refine (HS3.out.put1 hwp 5 [40] 0 _).mono ?_;rintro e w4 ⟨rfl,hs4,hk4⟩;have HS4:=hid hs4;have HX4:=hid (hk4 _ _ HX3.out);obtain⟨x0,x1,x2,x3,x4,x5,x6⟩:=box7 HX4.out.1;have hl4:wr.heap.size<w4.heap.size:=(Array.getElem?_eq_some_iff.1 HX4.out.1).1;clear hs4 hk4;go_wp2_with fail
    refine (HS4.out.run fun r h1 h2 h3=>HC.out r w4 h1 h2 h3).mono ?_;rintro e w5 ⟨rfl,hs5,hk5⟩;have HS5:=hid hs5;clear hs5 hk5 x0 x1 x2 x3 x4 x5 x6;go_wp2_with fail
    refine (qd _ _).mono ?_;rintro e w6 ⟨rfl,hb6⟩;have HS6:=hid (HS5.out.bel hb6);clear hb6;unfold tokV;go_wp2_with fail
    refine (HS6.out.put1 hwp 5 [41] 0 _).mono ?_;rintro e w7 ⟨rfl,hs7,hk7⟩;have HS7:=hid hs7;have HR':Hid (∃ pre,Ws w0 base wp xs W pre w7/\pre++(f.dropN (j+1)).brT=f.brT):=hid ⟨_,HS7.out,by rw[<- HPRE.out];simp[brkL]⟩;clear hs7 hk7;go_wp2_with fail
    go_roundw
    case rel=>exact⟨j+1,HLT.out,by go_num,HR'⟩
    case measure=>have:=HLT.out;simp[intOf];omega
   ·go_wp2_with fail
    refine (HS2.out.run fun r h1 h2 h3=>HC.out r w2 h1 h2 h3).mono ?_;rintro e w5 ⟨rfl,hs5,hk5⟩;have HR':Hid (∃ pre,Ws w0 base wp xs W pre w5/\pre++(f.dropN (j+1)).brT=f.brT):=hid ⟨_,hs5,by rw[<- HPRE.out];simp[brkL]⟩;clear hs5 hk5 x0 x1 x2 x3 x4 x5 x6;go_wp2_with fail
    go_roundw
    case rel=>exact⟨j+1,HLT.out,by go_num,HR'⟩
    case measure=>have:=HLT.out;simp[intOf];omega
  ·obtain rfl:j=n:=by omega
   rw[Tr.dropN_all f j (by rw[<- HL.out];exact Nat.le_refl _)]at hpre;have HQ:=hid (hws.fin (F:=f.brT) (by rw[<- hpre];simp[Tr.brT]));clear hws hpre;go_wp2_with fail
   go_end0
   exact HQ.out
set_option maxHeartbeats 4000000
theorem qcx(n:Int):qa4 n=.agg #[.int .u8 5,.string ⟨(qW n).s.toArray⟩,(0:Int),(0:Int),(0:Int),(0:Int)]/\qW n=tk0 5 (qW n).s 0:=by
 unfold qa4 qW;split
 ·exact⟨rfl,rfl⟩
 split
 ·exact⟨rfl,rfl⟩
 ·exact⟨rfl,rfl⟩
theorem qcB{base wp M:Nat}{w0:World}{xs:List Tn}{W:World}(hC:TyC w0 base wp M)(hM:M<=1000000)(hwp:w0.heap.size<=wp)(pre:List Tn)(w:World)(g:Nat)(k:Int)(s:List UInt8)(n:Int)(p:Pl)(kids:Tr)(A:Option Addr)(c:Nat)(h:Ws w0 base wp xs W pre w)(hg:g=w.heap.size)(hk:KidsTr w0 (OldT w0) .ty A kids.len c kids)(hs:1+kids.size<=M)(hp:(Tr.nod k s n p kids .nil .nil).shpT) :
  Calls Tryz.prog 92 #[.pointer (some ⟨wp,0,none⟩),.func (.func 93) #[] #[],.func (.func 94) #[.pointer (some ⟨wp,0,none⟩)] #[],.slice (some ⟨g,0,none⟩) 1 1] (w.alloc (.cells #[.int .u8 k,.string ⟨s.toArray⟩,.int .u8 n,p.a,p.l,p.c,.slice A kids.len c] 50))
   (WsQ w0 base wp xs W (pre++brkL (alnT k kids.len) (zm k s n kids)) w):=by
 subst hg;refine h.runA ((Bel.refl w).alloc _) fun r h1 h2 h3=>?_;have hr:RowX w0 (w.alloc (.cells #[.int .u8 k,.string ⟨s.toArray⟩,.int .u8 n,p.a,p.l,p.c,.slice A kids.len c] 50)) wp .ty (some ⟨w.heap.size,0,none⟩) 1 (.nod k s n p kids .nil .nil):=by
  obtain⟨q1,⟨r',q2,_⟩,_⟩:=h;exact RowX.one (sh:= .ty) (B:=none) (bc:=0) (arms:= .nil) (by intro e;cases e) hk (.inr ⟨.inr rfl,rfl⟩) q1 q2
 have hb:=Qh base wp M r _ 1 1 _ w0 _ hC hwp hr (by simp only[Tr.size];omega) hM hp h1 h2 h3;rw[show (Tr.nod k s n p kids .nil .nil).brT=brkL (alnT k kids.len) (zm k s n kids) by simp[Tr.brT]]at hb;exact hb
theorem qht(base wp:Nat)(w0:World)(hwp:w0.heap.size<=wp)(M:Nat):M<=1000000->TyC w0 base wp M:=by
 induction M with
 | zero=>intro _ k s n p A c kids xs W _ h;omega
 | succ M ih=>
  intro hM k s n p A c kids xs W hk hsz hsh hW hw hx;have hC:TyC w0 base wp M:=ih (by omega);clear ih;have HS:=hid (Ws.start hW hw hx);obtain⟨F,hF⟩:∃ F,F=zm k s n kids:=⟨_,rfl⟩
  rw[<- hF];have hWl:W.heap.size<W.heap.size+1:=by omega
  by_cases k3:k=3
  ·subst k3
   have hl2:kids.len=2:=hsh.1 rfl;obtain⟨b,o,ka,sa,na,pa,kia,ara,A1,c1,B1,d1,kb,sb,nb,pb,kib,arb,A2,c2,B2,d2,rfl,rfl,hlt,hc1,hk1,ha1,hc2,hk2,ha2⟩:=Qy (by intro e;cases e) hk hl2;obtain rfl:ara=.nil:=by
    rcases ha1 with ⟨e,_⟩ | ⟨_,e⟩
    ·cases e
    ·exact e
   obtain rfl:arb=.nil:=by
    rcases ha2 with ⟨e,_⟩ | ⟨_,e⟩
    ·cases e
    ·exact e
   have hsh':=hsh.2.1;simp only[Tr.size]at hsz;have hF2:F=brkL (alnT ka kia.len) (zm ka sa na kia)++[qW n]++brkL (alnT kb kib.len) (zm kb sb nb kib):=by
    rw[hF];unfold zm;rw[if_pos rfl];simp[Tr.tyK]
   obtain⟨av1,av2⟩:=qcx n;obtain⟨aw,haw⟩:∃ x,x=(qW n).s:=⟨_,rfl⟩
   rw[<- haw]at av1 av2;have HB1:=hid fun w g h hg=>qcB (xs:=xs) (W:=W) hC (by omega) hwp [] w g ka sa na pa kia A1 c1 h hg hk1 (by omega) ⟨hsh'.1,hsh'.2.1,trivial⟩;have HB2:=hid fun pre w g h hg=>qcB (xs:=xs) (W:=W) hC (by omega) hwp pre w g kb sb nb pb kib A2 c2 h hg hk2 (by omega) ⟨hsh'.2.2.1,hsh'.2.2.2.1,trivial⟩;have HC1:=hid hc1;have HC2:=hid hc2;have HLT:=hid hlt;obtain⟨SA,hSA⟩:∃ S:ByteArray,S=⟨sa.toArray⟩:=⟨_,rfl⟩
   obtain⟨SB,hSB⟩:∃ S:ByteArray,S=⟨sb.toArray⟩:=⟨_,rfl⟩
   obtain⟨SS,hSS⟩:∃ S:ByteArray,S=⟨s.toArray⟩:=⟨_,rfl⟩
   obtain⟨AS,hAS⟩:∃ S:ByteArray,S=⟨aw.toArray⟩:=⟨_,rfl⟩
   obtain⟨l1,hl1⟩:∃ l,l=kia.len:=⟨_,rfl⟩
   obtain⟨l2,hl2'⟩:∃ l,l=kib.len:=⟨_,rfl⟩
   have HAR:Hid (∀ W,Calls Tryz.prog 126 #[.int .u8 n] W fun e w'=>e=.returned (.agg #[.int .u8 5,AS,(0:Int),(0:Int),(0:Int),(0:Int)])/\Bel W w'):=hid fun W=>by rw[hAS,<- av1];exact qcy n W
   have HPU:Hid (∀ (pre:List Tn) (w:World) (g:Nat),Ws w0 base wp xs W pre w->g=w.heap.size->Calls Tryz.prog 50 #[.pointer (some ⟨wp,0,none⟩),.slice (some ⟨g,0,none⟩) 1 1] (w.alloc (.cells #[.int .u8 5,.string AS,.int .i64 0,.int .i64 0,.int .i64 0,.int .i64 0] 37)) (WsQ w0 base wp xs W (pre++[qW n]) w)):=hid fun pre w g h hg=>by rw[hAS,av2];exact h.put1g hwp 5 aw 0 1 g hg
   have HF2:=hid hF2;obtain⟨G1,hG1⟩:∃ G,G=brkL (alnT ka kia.len) (zm ka sa na kia):=⟨_,rfl⟩
   obtain⟨G2,hG2⟩:∃ G,G=brkL (alnT kb kib.len) (zm kb sb nb kib):=⟨_,rfl⟩
   rw[<- hG1,<- hSA,<- hl1]at HB1;rw[<- hG2,<- hSB,<- hl2']at HB2;rw[<- hG1,<- hG2]at HF2;rw[<- hSS,hl2];have HCC1:Hid (∀ w,Bel w0 w->∀ j u,(nodV .ty ka sa na pa A1 l1 c1 B1 0 d1)[j]?=some u->w.cell? ⟨b,o+j,none⟩=some u):=by rw[hl1];exact HC1
   have HCC2:Hid (∀ w,Bel w0 w->∀ j u,(nodV .ty kb sb nb pb A2 l2 c2 B2 0 d2)[j]?=some u->w.cell? ⟨b,o+7+j,none⟩=some u):=by rw[hl2'];exact HC2
   have HSA:=hid hSA;have HSB:=hid hSB;clear hk hsz hsh hsh' hW hw hx hC hc1 hc2 hk1 hk2 ha1 ha2 hlt HC1 HC2 hF hF2 av1 av2 haw hG1 hG2 hl1 hl2' hl2 hSS hAS hSA hSB;have HS1:=hid (HS.out.bel ((Bel.refl W).alloc (.cells #[.int .u8 3,SS,.int .u8 n,p.a,p.l,p.c,.slice (some ⟨b,o,none⟩) 2 c] 50)));have HX1:=hid (HS.out.box (.cells #[.int .u8 3,SS,.int .u8 n,p.a,p.l,p.c,.slice (some ⟨b,o,none⟩) 2 c] 50));have y0:=HCC1.out _ HS1.out.1 0 _ rfl;have y1:=HCC1.out _ HS1.out.1 1 _ rfl;have y2:=HCC1.out _ HS1.out.1 2 _ rfl;have y3:=HCC1.out _ HS1.out.1 3 _ rfl;have y4:=HCC1.out _ HS1.out.1 4 _ rfl;have y5:=HCC1.out _ HS1.out.1 5 _ rfl;have y6:=HCC1.out _ HS1.out.1 6 _ rfl;simp only[Sh.kd,Nat.add_zero]at y0 y1 y2 y3 y4 y5 y6;rw[<- HSA.out]at y1;go_enter Tryz.func94,Tryz.ntmps94
   go_wp2_with fail
   refine (HB1.out _ (W.heap.size+1) HS1.out (by simp)).mono ?_;rintro e w2 ⟨rfl,hs2,hk2⟩;have HS2:=hid hs2;have HX2:=hid (hk2 _ _ HX1.out);obtain⟨x0,x1,x2,x3,x4,x5,x6⟩:=box7 HX2.out.1;have hl2:W.heap.size<w2.heap.size:=(Array.getElem?_eq_some_iff.1 HX2.out.1).1;clear hs2 hk2 y0 y1 y2 y3 y4 y5 y6 HS1 HX1;go_wp2_with fail
   refine (HAR.out _).mono ?_;rintro e w3 ⟨rfl,hb3⟩;have HS3:=hid (HS2.out.bel hb3);have HX3:=hid (HS2.out.kp hb3 _ _ HX2.out);clear hb3 x0 x1 x2 x3 x4 x5 x6 hl2;go_wp2_with fail
   refine (HPU.out _ _ _ HS3.out rfl).mono ?_;rintro e w4 ⟨rfl,hs4,hk4⟩;have HS4:=hid hs4;have HX4:=hid (hk4 _ _ HX3.out);obtain⟨x0,x1,x2,x3,x4,x5,x6⟩:=box7 HX4.out.1;have hl4:W.heap.size<w4.heap.size:=(Array.getElem?_eq_some_iff.1 HX4.out.1).1;have y0:=HCC2.out _ HS4.out.1 0 _ rfl;have y1:=HCC2.out _ HS4.out.1 1 _ rfl;have y2:=HCC2.out _ HS4.out.1 2 _ rfl;have y3:=HCC2.out _ HS4.out.1 3 _ rfl;have y4:=HCC2.out _ HS4.out.1 4 _ rfl;have y5:=HCC2.out _ HS4.out.1 5 _ rfl;have y6:=HCC2.out _ HS4.out.1 6 _ rfl;simp only[Sh.kd,Nat.add_zero]at y0 y1 y2 y3 y4 y5 y6;rw[<- HSB.out]at y1;clear hs4 hk4;go_wp2_with fail
   refine (HB2.out _ _ _ HS4.out rfl).mono ?_;rintro e w5 ⟨rfl,hs5,hk5⟩;have HQ:=hid (hs5.fin (F:=F) (by rw[HF2.out];simp));clear hs5 hk5 y0 y1 y2 y3 y4 y5 y6 x0 x1 x2 x3 x4 x5 x6;go_wp2_with fail
   go_end0
   exact HQ.out
  have HR:Hid (∀ W,Calls Tryz.prog 127 #[.agg #[.int .u8 k,.string ⟨s.toArray⟩,.int .u8 n,p.a,p.l,p.c,.slice A kids.len c]] W fun e w'=>e=.returned (.tuple #[.agg #[.int .u8 (tyR k).1,.int .i64 (tyR k).2.1],.bool (tyR k).2.2])/\Bel W w'):=hid fun W=>ZR k s n p A kids.len c W;have HBR:Hid (∀ (pre:List Tn) (w:World),Ws w0 base wp xs W pre w->Calls Tryz.prog 92 #[.pointer (some ⟨wp,0,none⟩),.func (.func 93) #[] #[],.func (.func 94) #[.pointer (some ⟨wp,0,none⟩)] #[],.slice A kids.len c] w (WsQ w0 base wp xs W (pre++kids.brT) w)):=hid fun pre w h=>
   h.run fun r h1 h2 h3=>Qh base wp M r A kids.len c kids w0 w hC hwp (RowX.old hk h1 hwp h2) (by omega) (by omega) hsh.2.1 h1 h2 h3
  obtain⟨tk,htk⟩:∃ t,t=(tyR k).1:=⟨_,rfl⟩
  obtain⟨kc,hkc⟩:∃ t,t=(tyR k).2.1:=⟨_,rfl⟩
  obtain⟨ok,hok⟩:∃ t,t=(tyR k).2.2:=⟨_,rfl⟩
  have HPU:Hid (∀ (pre:List Tn) (w:World) (g:Nat),Ws w0 base wp xs W pre w->g=w.heap.size->Calls Tryz.prog 50 #[.pointer (some ⟨wp,0,none⟩),.slice (some ⟨g,0,none⟩) 1 1] (w.alloc (.cells #[.int .u8 tk,.string ⟨s.toArray⟩,.int .i64 0,.int .i64 0,.int .i64 0,.int .i64 0] 37)) (WsQ w0 base wp xs W (pre++[tk0 tk s 0]) w)):=hid fun pre w g h hg=>h.put1g hwp tk s 0 1 g hg;have HF2:Hid (F=tk0 tk s 0::kids.brT):=hid (by rw[hF,htk,<- Tr.brT_tyK];unfold zm;rw[if_neg k3]);rw[<- htk,<- hkc,<- hok]at HR;obtain⟨T1,hT1⟩:∃ T,T=tk0 tk s 0:=⟨_,rfl⟩
  obtain⟨SS,hSS⟩:∃ S:ByteArray,S=⟨s.toArray⟩:=⟨_,rfl⟩
  obtain⟨l1,hl1⟩:∃ l,l=kids.len:=⟨_,rfl⟩
  rw[<- hSS,<- hl1]at HR;rw[<- hl1]at HBR;rw[<- hSS,<- hT1]at HPU;rw[<- hT1]at HF2;rw[<- hSS,<- hl1];have d3:(k==3)=false:=by simpa using k3
  clear hk hsz hsh hW hw hx hC htk hkc hok hF hT1 hSS hl1 k3;have HS1:=hid (HS.out.bel ((Bel.refl W).alloc (.cells #[.int .u8 k,SS,.int .u8 n,p.a,p.l,p.c,.slice A l1 c] 50)));have HX1:=hid (HS.out.box (.cells #[.int .u8 k,SS,.int .u8 n,p.a,p.l,p.c,.slice A l1 c] 50));go_enter Tryz.func94,Tryz.ntmps94
  go_wp2_with fail
  refine (HR.out _).mono ?_;rintro e w2 ⟨rfl,hb2⟩;have HS2:=hid (HS1.out.bel hb2);have HX2:=hid (HS1.out.kp hb2 _ _ HX1.out);have HS3:=hid (HS2.out.bel ((Bel.refl w2).alloc (.cells #[.int .u8 tk,kc] 143)));have HX3:=hid (HS2.out.kp ((Bel.refl w2).alloc (.cells #[.int .u8 tk,kc] 143)) _ _ HX2.out);obtain⟨x0,x1,x2,x3,x4,x5,x6⟩:=box7 HX2.out.1;have hl2:W.heap.size<w2.heap.size:=(Array.getElem?_eq_some_iff.1 HX2.out.1).1;clear hb2;go_wp2_with fail
  refine (HPU.out _ _ _ HS3.out (by simp)).mono ?_;rintro e w4 ⟨rfl,hs4,hk4⟩;have HS4:=hid hs4;have HX4:=hid (hk4 _ _ HX3.out);clear x0 x1 x2 x3 x4 x5 x6 hl2;obtain⟨x0,x1,x2,x3,x4,x5,x6⟩:=box7 HX4.out.1;have hl4:W.heap.size<w4.heap.size:=(Array.getElem?_eq_some_iff.1 HX4.out.1).1;clear hs4 hk4;go_wp2_with fail
  refine (HBR.out _ _ HS4.out).mono ?_;rintro e w5 ⟨rfl,hs5,hk5⟩;have HQ:=hid (hs5.fin (F:=F) (by rw[HF2.out];simp));clear hs5 hk5 x0 x1 x2 x3 x4 x5 x6;go_wp2_with fail
  go_end0
  exact HQ.out
set_option maxHeartbeats 4000000
def ExC(w0:World)(base wp M:Nat):Prop:=∀ (k:Int) (s:List UInt8) (n:Int) (p:Pl) (A:Option Addr) (c:Nat) (B:Option Addr) (bc:Nat) (kids arms:Tr) (xs:List Tn) (W:World),
 KidsTr w0 (OldT w0) .ex A kids.len c kids->KidsTr w0 (OldT w0) .arms B arms.len bc arms->(Tr.nod k s n p kids arms .nil).size<=M->(Tr.nod k s n p kids arms .nil).shp->Bel w0 W->Wri W base wp xs->xs.length<=5000 →
 Calls Tryz.prog 42 #[.pointer (some ⟨wp,0,none⟩),.agg #[.int .u8 k,.string ⟨s.toArray⟩,n,p.a,p.l,p.c,.slice A kids.len c,.slice B arms.len bc]] W (WrQ w0 base wp xs (qm k s n kids arms) W)
def qa1(fa:FuncId)(al:Int->Nat->Bool):Prop:=∀ (k:Int) (S:ByteArray) (n:Int) (p:Pl) (A:Option Addr) (l c:Nat) (B:Option Addr) (m d:Nat) (w:World),Calls Tryz.prog fa #[.agg #[.int .u8 k,.string S,.int .i64 n,.int .i64 p.a,.int .i64 p.l,.int .i64 p.c,.slice A l c,.slice B m d]] w (qz (al k l) w)
theorem Qi(fa:FuncId)(al:Int->Nat->Bool)(ega:∀ args w,(callFunc fa args).run Tryz.prog w=.ok (.enter fa args) w)(HA:qa1 fa al)(base wp M:Nat)(xs:List Tn)(A:Option Addr)(n c:Nat)(f:Tr)(w0 W:World)
  (hX:ExC w0 base wp M) (hwp:w0.heap.size<=wp) (hf:RowX w0 W wp .ex A n f) (hsz:f.size<=M) (hM:M<=1000000) (hs:f.shp) (hW:Bel w0 W) (hw:Wri W base wp xs) (hx:xs.length<=5000) :
  Calls Tryz.prog 82 #[.pointer (some ⟨wp,0,none⟩),.func (.func fa) #[] #[],.func (.func 42) #[.pointer (some ⟨wp,0,none⟩)] #[],.slice A n c] W (WrQ w0 base wp xs (f.brX al) W):=by
 have HF:=hid hf;have HX:=hid hX;have HAA:=hid HA;have HSZ:=hid (And.intro hsz hs);have HW:=hid hW;have HL:Hid (n=f.len):=hid hf.1;have hn:n<=1000000:=by have:=hf.1;have:=f.len_le;omega
 have egx:∀ args w,(callFunc 42 args).run Tryz.prog w=.ok (.enter 42 args) w:=fun args w=>by kernel_rfl
 have HI:Hid (∃ pre,Ws w0 base wp xs W pre W/\pre++(f.dropN 0).brX al=f.brX al):=hid ⟨[],Ws.start hW hw hx,by cases f <;> rfl⟩;clear hf hX HA hsz hs hW hw hx;go_enter Tryz.func82,Tryz.ntmps82
 go_wp2_with fail
 go_loopw [12] (fun i wr=>∃ j:Nat,j<=n/\i=.int .i64 (j:Int)/\Hid (∃ pre,Ws w0 base wp xs W pre wr/\pre++(f.dropN j).brX al=f.brX al)) (fun i _=>n-(intOf i).toNat)
 case atStart=>exact⟨0,Nat.zero_le _,rfl,HI⟩
 case round=>
  obtain⟨j,hj,rfl,HR⟩:=hrel;obtain⟨pre,hws,hpre⟩:=HR.out;by_cases hlt:j<n
  ·obtain⟨ub,uo,k,s,nn,p,kids,arms,A',c',B',bc',eA,⟨uob,hub⟩,hnth,hcs,hkk,hka⟩:=(HF.out.step HW.out hws.1 hws.2.2).nth (by intro e;cases e) hws.1 hlt
   subst eA;have hka':KidsTr w0 (OldT w0) .arms B' arms.len bc' arms:=by
    rcases hka with h | ⟨h | h,_⟩
    ·exact h.2
    ·cases h
    ·cases h
   have hns:(Tr.nod k s nn p kids arms .nil).size<=M:=by rw[<- hnth];exact Nat.le_trans (f.nth_size j) HSZ.out.1
   have hnp:(Tr.nod k s nn p kids arms .nil).shp:=by rw[<- hnth];exact f.nth_shp j HSZ.out.2
   have hdr:(f.dropN j).brX al=brkL (al k kids.len) (qm k s nn kids arms)++(f.dropN (j+1)).brX al:=by rw[Tr.dropN_nod f j hnth];rfl
   have HC:Hid (∀ (ys:List Tn) (W':World),Bel w0 W'->Wri W' base wp ys->ys.length<=5000->Calls Tryz.prog 42 #[.pointer (some ⟨wp,0,none⟩),.agg #[.int .u8 k,.string ⟨s.toArray⟩,nn,p.a,p.l,p.c,.slice A' kids.len c',.slice B' arms.len bc']] W' (WrQ w0 base wp ys (qm k s nn kids arms) W')):=hid fun ys W' h1 h2 h3=>HX.out k s nn p A' c' B' bc' kids arms ys W' hkk hka' hns hnp h1 h2 h3;have y0:=hcs 0 _ rfl;have y1:=hcs 1 _ rfl;have y2:=hcs 2 _ rfl;have y3:=hcs 3 _ rfl;have y4:=hcs 4 _ rfl;have y5:=hcs 5 _ rfl;have y6:=hcs 6 _ rfl;have y7:=hcs 7 _ rfl;simp only[Sh.sz,Sh.kd,Nat.add_zero]at y0 y1 y2 y3 y4 y5 y6 y7;rw[hdr]at hpre;obtain⟨Fx,hFx⟩:∃ F,F=qm k s nn kids arms:=⟨_,rfl⟩
   obtain⟨b,hb⟩:∃ b,b=al k kids.len:=⟨_,rfl⟩
   obtain⟨SS,hSS⟩:∃ S:ByteArray,S=⟨s.toArray⟩:=⟨_,rfl⟩
   obtain⟨l1,hl1⟩:∃ l,l=kids.len:=⟨_,rfl⟩
   obtain⟨l2,hl2⟩:∃ l,l=arms.len:=⟨_,rfl⟩
   have HAL:Hid (∀ W',Calls Tryz.prog fa #[.agg #[.int .u8 k,SS,nn,p.a,p.l,p.c,.slice A' l1 c',.slice B' l2 bc']] W' (qz b W')):=hid fun W'=>by rw[hb,<- hl1];exact HAA.out k SS nn p A' l1 c' B' l2 bc' W'
   rw[<- hFx,<- hb]at hpre;rw[<- hSS,<- hl1,<- hl2,<- hFx]at HC;rw[<- hSS]at y1;rw[<- hl1]at y6;rw[<- hl2]at y7;have HS1:=hid (hws.bel ((Bel.refl wr).alloc (.cells #[.int .u8 k,SS,nn,p.a,p.l,p.c,.slice A' l1 c',.slice B' l2 bc'] 43)));have HBX:=hid (hws.box (.cells #[.int .u8 k,SS,nn,p.a,p.l,p.c,.slice A' l1 c',.slice B' l2 bc'] 43));have HPRE:=hid hpre;have hob':ub<wr.heap.size:=(Array.getElem?_eq_some_iff.1 hub.1).1;have i1:(0:Int)<=(j:Int):=by omega
   have i2:(j:Int)<(n:Int):=by omega
   have HLT:=hid hlt;clear hcs hkk hka hka' hns hnp hdr hpre hFx hb hSS hl1 hl2 hnth hub hws HR;go_wp2_with fail
   refine (HAL.out _).mono ?_;rintro e w2 ⟨rfl,hb2⟩;have HS2:=hid (HS1.out.bel hb2);have HX2:=hid (HS1.out.kp hb2 _ _ HBX.out);obtain⟨x0,x1,x2,x3,x4,x5,x6,x7⟩:=box8 HX2.out.1;have hl2:wr.heap.size<w2.heap.size:=(Array.getElem?_eq_some_iff.1 HX2.out.1).1;clear hb2 y0 y1 y2 y3 y4 y5 y6 y7 hob' HAL HS1 HBX;cases b
   ·go_wp2_with fail
    refine (qd _ _).mono ?_;rintro e w3 ⟨rfl,hb3⟩;have HS3:=hid (HS2.out.bel hb3);have HX3:=hid (HS2.out.kp hb3 _ _ HX2.out);clear hb3 x0 x1 x2 x3 x4 x5 x6 x7;unfold tokV;go_wp2_with fail
    refine (HS3.out.put1 hwp 5 [40] 0 _).mono ?_;rintro e w4 ⟨rfl,hs4,hk4⟩;have HS4:=hid hs4;have HX4:=hid (hk4 _ _ HX3.out);obtain⟨x0,x1,x2,x3,x4,x5,x6,x7⟩:=box8 HX4.out.1;have hl4:wr.heap.size<w4.heap.size:=(Array.getElem?_eq_some_iff.1 HX4.out.1).1;clear hs4 hk4;go_wp2_with fail
    refine (HS4.out.run fun r h1 h2 h3=>HC.out r w4 h1 h2 h3).mono ?_;rintro e w5 ⟨rfl,hs5,hk5⟩;have HS5:=hid hs5;clear hs5 hk5 x0 x1 x2 x3 x4 x5 x6 x7;go_wp2_with fail
    refine (qd _ _).mono ?_;rintro e w6 ⟨rfl,hb6⟩;have HS6:=hid (HS5.out.bel hb6);clear hb6;unfold tokV;go_wp2_with fail
    refine (HS6.out.put1 hwp 5 [41] 0 _).mono ?_;rintro e w7 ⟨rfl,hs7,hk7⟩;have HS7:=hid hs7;have HR':Hid (∃ pre,Ws w0 base wp xs W pre w7/\pre++(f.dropN (j+1)).brX al=f.brX al):=hid ⟨_,HS7.out,by rw[<- HPRE.out];simp[brkL]⟩;clear hs7 hk7;go_wp2_with fail
    go_roundw
    case rel=>exact⟨j+1,HLT.out,by go_num,HR'⟩
    case measure=>have:=HLT.out;simp[intOf];omega
   ·go_wp2_with fail
    refine (HS2.out.run fun r h1 h2 h3=>HC.out r w2 h1 h2 h3).mono ?_;rintro e w5 ⟨rfl,hs5,hk5⟩;have HR':Hid (∃ pre,Ws w0 base wp xs W pre w5/\pre++(f.dropN (j+1)).brX al=f.brX al):=hid ⟨_,hs5,by rw[<- HPRE.out];simp[brkL]⟩;clear hs5 hk5 x0 x1 x2 x3 x4 x5 x6 x7;go_wp2_with fail
    go_roundw
    case rel=>exact⟨j+1,HLT.out,by go_num,HR'⟩
    case measure=>have:=HLT.out;simp[intOf];omega
  ·obtain rfl:j=n:=by omega
   rw[Tr.dropN_all f j (by rw[<- HL.out];exact Nat.le_refl _)]at hpre;have HQ:=hid (hws.fin (F:=f.brX al) (by rw[<- hpre];simp[Tr.brX]));clear hws hpre;go_wp2_with fail
   go_end0
   exact HQ.out
theorem qa7(fa:FuncId)(al:Int->Nat->Bool)(ega:∀ args w,(callFunc fa args).run Tryz.prog w=.ok (.enter fa args) w)(HA:qa1 fa al){base wp M:Nat}{w0:World}{xs:List Tn}{W:World}(hC:ExC w0 base wp M)(hM:M<=1000000)(hwp:w0.heap.size<=wp)(pre:List Tn)(w:World)(g:Nat)(k:Int)(s:List UInt8)(n:Int)(p:Pl)(kids arms:Tr)(A:Option Addr)(c:Nat)(B:Option Addr)(bc:Nat)(h:Ws w0 base wp xs W pre w)(hg:g=w.heap.size)(hk:KidsTr w0 (OldT w0) .ex A kids.len c kids)(ha:KidsTr w0 (OldT w0) .arms B arms.len bc arms)(hs:1+kids.size+arms.size<=M)(hp:(Tr.nod k s n p kids arms .nil).shp) :
  Calls Tryz.prog 82 #[.pointer (some ⟨wp,0,none⟩),.func (.func fa) #[] #[],.func (.func 42) #[.pointer (some ⟨wp,0,none⟩)] #[],.slice (some ⟨g,0,none⟩) 1 1] (w.alloc (.cells #[.int .u8 k,.string ⟨s.toArray⟩,n,p.a,p.l,p.c,.slice A kids.len c,.slice B arms.len bc] 43))
   (WsQ w0 base wp xs W (pre++brkL (al k kids.len) (qm k s n kids arms)) w):=by
 subst hg;refine h.runA ((Bel.refl w).alloc _) fun r h1 h2 h3=>?_;have hr:RowX w0 (w.alloc (.cells #[.int .u8 k,.string ⟨s.toArray⟩,n,p.a,p.l,p.c,.slice A kids.len c,.slice B arms.len bc] 43)) wp .ex (some ⟨w.heap.size,0,none⟩) 1 (.nod k s n p kids arms .nil):=by
  obtain⟨q1,⟨r',q2,_⟩,_⟩:=h;exact RowX.one (sh:= .ex) (by intro e;cases e) hk (.inl ⟨rfl,ha⟩) q1 q2
 have hb:=Qi fa al ega HA base wp M r _ 1 1 _ w0 _ hC hwp hr (by simp only[Tr.size];omega) hM hp h1 h2 h3;rw[show (Tr.nod k s n p kids arms .nil).brX al=brkL (al k kids.len) (qm k s n kids arms) by simp[Tr.brX]]at hb;exact hb
theorem Ws.put2g{w0:World}{base wp:Nat}{xs:List Tn}{W:World}{pre:List Tn}{w:World}(h:Ws w0 base wp xs W pre w)(hwp:w0.heap.size<=wp)(k:Int)(s:List UInt8)(n:Int)(k2:Int)(s2:List UInt8)(n2:Int)(cp g:Nat)(hg:g=w.heap.size) :
  Calls Tryz.prog 50 #[.pointer (some ⟨wp,0,none⟩),.slice (some ⟨g,0,none⟩) 2 cp] (w.alloc (.cells #[.int .u8 k,.string ⟨s.toArray⟩,.int .i64 n,.int .i64 0,.int .i64 0,.int .i64 0,.int .u8 k2,.string ⟨s2.toArray⟩,.int .i64 n2,.int .i64 0,.int .i64 0,.int .i64 0] 37)) (WsQ w0 base wp xs W (pre++[tk0 k s n,tk0 k2 s2 n2]) w):=by
 subst hg;exact h.put2 hwp k s n k2 s2 n2 cp
theorem qgF(sep:List Tn)(ka:Int)(sa:List UInt8)(na:Int)(pa:Pl)(kia ara:Tr)(kb:Int)(sb:List UInt8)(nb:Int)(pb:Pl)(kib arb:Tr):(Tr.nod ka sa na pa kia ara (.nod kb sb nb pb kib arb .nil)).exK 0 sep=qm ka sa na kia ara++sep++qm kb sb nb kib arb:=by
 rw[zF,zF];simp[brkM,nxM,Tr.exK]
theorem ZS(base wp M:Nat)(w0:World)(hwp:w0.heap.size<=wp)(hC:ExC w0 base wp M)(k:Int)(s:List UInt8)(n:Int)(p:Pl)(A:Option Addr)(l c:Nat)(B:Option Addr)(al bc:Nat)(kids arms:Tr)(hk:KidsTr w0 (OldT w0) .ex A l c kids)(hl2:l=2)(hsz:kids.size<=M)(hsh:kids.shp)
  (ls:List Tn) (L:Nat) (hL:L=ls.length) (hls:0<L/\L<=2) (g:Nat) (t:TypeId) (xs:List Tn) (W:World) (pre:List Tn) (w w':World) (hs:Ws w0 base wp xs W pre w) (hb:Bel w w') (hg:w'.heap[g]?=some (.cells (zo ls).toArray t (0,0))) :
  Calls Tryz.prog 80 #[.pointer (some ⟨wp,0,none⟩),.agg #[.int .u8 k,.string ⟨s.toArray⟩,n,p.a,p.l,p.c,.slice A l c,.slice B al bc],.slice (some ⟨g,0,none⟩) L L] w' (WsQ w0 base wp xs W (pre++(ls++(tk0 1 s 0::kwEq::kids.exK 0 [kwIn]))) w):=by
 have HS:=hid (hs.bel hb);have HK0:=hid (hs.kp hb);obtain⟨b,o,ka,sa,na,pa,kia,ara,A1,c1,B1,d1,kb,sb,nb,pb,kib,arb,A2,c2,B2,d2,rfl,rfl,hlt,hc1,hk1,ha1,hc2,hk2,ha2⟩:=Qy (by intro e;cases e) hk hl2;have ha1':KidsTr w0 (OldT w0) .arms B1 ara.len d1 ara:=by
  rcases ha1 with h | ⟨h | h,_⟩
  ·exact h.2
  ·cases h
  ·cases h
 have ha2':KidsTr w0 (OldT w0) .arms B2 arb.len d2 arb:=by
  rcases ha2 with h | ⟨h | h,_⟩
  ·exact h.2
  ·cases h
  ·cases h
 rw[qgF];simp only[Tr.size]at hsz;have HP1:=hid fun xs' W'=>hC ka sa na pa A1 c1 B1 d1 kia ara xs' W' hk1 ha1' (by simp only[Tr.size];omega) ⟨hsh.1,hsh.2.1,hsh.2.2.1,hsh.2.2.2.1,hsh.2.2.2.2.1,hsh.2.2.2.2.2.1,trivial⟩;have HP2:=hid fun xs' W'=>hC kb sb nb pb A2 c2 B2 d2 kib arb xs' W' hk2 ha2' (by simp only[Tr.size];omega) hsh.2.2.2.2.2.2;have HW1:=hid fun w1 (hb1:Bel w' w1) (h1:Ws w0 base wp xs W pre w1)=>h1.run (w':=w1) fun r q1 q2 q3=>qcs base wp r ls g L t w0 w1 w1 q1 hwp q2 (Bel.refl _) q3 (by omega) (by omega) (hb1.blk hg) (qT ls);have HPU:Hid (∀ (pre:List Tn) (w:World) (g:Nat),Ws w0 base wp xs W pre w->g=w.heap.size->Calls Tryz.prog 50 #[.pointer (some ⟨wp,0,none⟩),.slice (some ⟨g,0,none⟩) 2 2] (w.alloc (.cells #[.int .u8 1,.string ⟨s.toArray⟩,.int .i64 0,.int .i64 0,.int .i64 0,.int .i64 0,.int .u8 5,.string ⟨#[61]⟩,.int .i64 0,.int .i64 0,.int .i64 0,.int .i64 0] 37)) (WsQ w0 base wp xs W (pre++[tk0 1 s 0,kwEq]) w)):=hid fun pre w g h hg=>h.put2g hwp 1 s 0 5 [61] 0 2 g hg;have HCC1:=hid hc1;have HCC2:=hid hc2;obtain⟨SS,hSS⟩:∃ S:ByteArray,S=⟨s.toArray⟩:=⟨_,rfl⟩
 obtain⟨SA,hSA⟩:∃ S:ByteArray,S=⟨sa.toArray⟩:=⟨_,rfl⟩
 obtain⟨SB,hSB⟩:∃ S:ByteArray,S=⟨sb.toArray⟩:=⟨_,rfl⟩
 obtain⟨T1,hT1⟩:∃ T,T=tk0 1 s 0:=⟨_,rfl⟩
 obtain⟨F1,hF1⟩:∃ F,F=qm ka sa na kia ara:=⟨_,rfl⟩
 obtain⟨F2,hF2⟩:∃ F,F=qm kb sb nb kib arb:=⟨_,rfl⟩
 obtain⟨l1,hl1⟩:∃ l,l=kia.len:=⟨_,rfl⟩
 obtain⟨l2,hl2'⟩:∃ l,l=kib.len:=⟨_,rfl⟩
 obtain⟨m1,hm1⟩:∃ l,l=ara.len:=⟨_,rfl⟩
 obtain⟨m2,hm2⟩:∃ l,l=arb.len:=⟨_,rfl⟩
 rw[<- hl1,<- hm1]at HCC1;rw[<- hl2',<- hm2]at HCC2;rw[<- hSA,<- hF1,<- hl1,<- hm1]at HP1;rw[<- hSB,<- hF2,<- hl2',<- hm2]at HP2;rw[<- hSS,<- hT1]at HPU;rw[<- hSS,<- hT1,<- hF1,<- hF2,hl2];rw[<- hL]at HW1;have HSA:=hid hSA;have HSB:=hid hSB;have hL63:L<=2:=hls.2;clear hk hsz hsh hC hc1 hc2 hk1 hk2 ha1 ha2 ha1' ha2' hlt hSS hSA hSB hT1 hF1 hF2 hl1 hl2' hm1 hm2 hl2 hs hb hg hL hls;have HS1:=hid (HS.out.bel ((Bel.refl w').alloc (.cells #[.int .u8 k,SS,n,p.a,p.l,p.c,.slice (some ⟨b,o,none⟩) 2 c,.slice B al bc] 43)));have HX1:=hid (HS.out.box (.cells #[.int .u8 k,SS,n,p.a,p.l,p.c,.slice (some ⟨b,o,none⟩) 2 c,.slice B al bc] 43));have HKA:=hid (HS.out.kp ((Bel.refl w').alloc (.cells #[.int .u8 k,SS,n,p.a,p.l,p.c,.slice (some ⟨b,o,none⟩) 2 c,.slice B al bc] 43)));go_enter Tryz.func80,Tryz.ntmps80
 go_wp2_with fail
 refine (HW1.out _ ((Bel.refl w').alloc _) HS1.out).mono ?_;rintro e w2 ⟨rfl,hs2,hk2⟩;have HS2:=hid hs2;have HX2:=hid (hk2 _ _ HX1.out);have HK2:=hid ((HK0.out.on HKA.out).on hk2);obtain⟨x0,x1,x2,x3,x4,x5,x6,x7⟩:=box8 HX2.out.1;have hl2:w'.heap.size<w2.heap.size:=(Array.getElem?_eq_some_iff.1 HX2.out.1).1;clear hs2 hk2 HW1 HS HK0 HS1 HX1 HKA;go_wp2_with fail
 refine (qS _ _).mono ?_;rintro e w3 ⟨rfl,hb3⟩;have HS3:=hid (HS2.out.bel hb3);have HX3:=hid (HS2.out.kp hb3 _ _ HX2.out);have HK3:=hid (HK2.out.on (HS2.out.kp hb3));clear hb3 x0 x1 x2 x3 x4 x5 x6 x7 hl2;unfold tokV;go_wp2_with fail
 refine (qd _ _).mono ?_;rintro e w4 ⟨rfl,hb4⟩;have HS4:=hid (HS3.out.bel hb4);have HX4:=hid (HS3.out.kp hb4 _ _ HX3.out);have HK4:=hid (HK3.out.on (HS3.out.kp hb4));clear hb4;unfold tokV;go_wp2_with fail
 refine (HPU.out _ _ _ HS4.out rfl).mono ?_;rintro e w5 ⟨rfl,hs5,hk5⟩;have HS5:=hid hs5;have HX5:=hid (hk5 _ _ HX4.out);have HK5:=hid (HK4.out.on hk5);obtain⟨x0,x1,x2,x3,x4,x5,x6,x7⟩:=box8 HX5.out.1;have hl5:w'.heap.size<w5.heap.size:=(Array.getElem?_eq_some_iff.1 HX5.out.1).1;have y0:=HCC1.out _ HS5.out.1 0 _ rfl;have y1:=HCC1.out _ HS5.out.1 1 _ rfl;have y2:=HCC1.out _ HS5.out.1 2 _ rfl;have y3:=HCC1.out _ HS5.out.1 3 _ rfl;have y4:=HCC1.out _ HS5.out.1 4 _ rfl;have y5:=HCC1.out _ HS5.out.1 5 _ rfl;have y6:=HCC1.out _ HS5.out.1 6 _ rfl;have y7:=HCC1.out _ HS5.out.1 7 _ rfl;simp only[Sh.kd,Nat.add_zero]at y0 y1 y2 y3 y4 y5 y6 y7;rw[<- HSA.out]at y1;clear hs5 hk5;go_wp2_with fail
 refine (HS5.out.run fun r h1 h2 h3=>HP1.out r w5 h1 h2 h3).mono ?_;rintro e w6 ⟨rfl,hs6,hk6⟩;have HS6:=hid hs6;have HX6:=hid (hk6 _ _ HX5.out);have HK6:=hid (HK5.out.on hk6);clear hs6 hk6 y0 y1 y2 y3 y4 y5 y6 y7 x0 x1 x2 x3 x4 x5 x6 x7 hl5;go_wp2_with fail
 refine (qd _ _).mono ?_;rintro e w7 ⟨rfl,hb7⟩;have HS7:=hid (HS6.out.bel hb7);have HX7:=hid (HS6.out.kp hb7 _ _ HX6.out);have HK7:=hid (HK6.out.on (HS6.out.kp hb7));clear hb7;unfold tokV;go_wp2_with fail
 refine (HS7.out.put1 hwp 5 [105,110] 0 _).mono ?_;rintro e w8 ⟨rfl,hs8,hk8⟩;have HS8:=hid hs8;have HX8:=hid (hk8 _ _ HX7.out);have HK8:=hid (HK7.out.on hk8);obtain⟨x0,x1,x2,x3,x4,x5,x6,x7⟩:=box8 HX8.out.1;have hl8:w'.heap.size<w8.heap.size:=(Array.getElem?_eq_some_iff.1 HX8.out.1).1;have y0:=HCC2.out _ HS8.out.1 0 _ rfl;have y1:=HCC2.out _ HS8.out.1 1 _ rfl;have y2:=HCC2.out _ HS8.out.1 2 _ rfl;have y3:=HCC2.out _ HS8.out.1 3 _ rfl;have y4:=HCC2.out _ HS8.out.1 4 _ rfl;have y5:=HCC2.out _ HS8.out.1 5 _ rfl;have y6:=HCC2.out _ HS8.out.1 6 _ rfl;have y7:=HCC2.out _ HS8.out.1 7 _ rfl;simp only[Sh.kd,Sh.sz,Nat.add_zero]at y0 y1 y2 y3 y4 y5 y6 y7;rw[<- HSB.out]at y1;clear hs8 hk8;go_wp2_with fail
 refine (HS8.out.run fun r h1 h2 h3=>HP2.out r w8 h1 h2 h3).mono ?_;rintro e w9 ⟨rfl,hs9,hk9⟩;have HQ:Hid (WsQ w0 base wp xs W (pre++(ls++(T1::kwEq::(F1++[kwIn]++F2)))) w (.returned (.tuple #[])) w9):=hid ⟨rfl,by
  have e:pre++(ls++(T1::kwEq::(F1++[kwIn]++F2)))=pre++ls++[T1,kwEq]++F1++[kwIn]++F2:=by simp
  rw[e];exact hs9,HK8.out.on hk9⟩
 clear hs9 hk9 y0 y1 y2 y3 y4 y5 y6 y7 x0 x1 x2 x3 x4 x5 x6 x7;go_wp2_with fail
 go_end0
 exact HQ.out
theorem jF:qa1 84 alnE:=fun k S n p A l c B m d w=>jG k S n p A l c B m d w
theorem qcu:qa1 83 alnF:=fun k S n p A l c B m d w=>Zo k S n p A l c B m d w
theorem egE:∀ args w,(callFunc 84 args).run Tryz.prog w=.ok (.enter 84 args) w:=fun args w=>by kernel_rfl
theorem egF:∀ args w,(callFunc 83 args).run Tryz.prog w=.ok (.enter 83 args) w:=fun args w=>by kernel_rfl
theorem qeX(sep:List Tn)(ka:Int)(sa:List UInt8)(na:Int)(pa:Pl)(kia ara:Tr)(kb:Int)(sb:List UInt8)(nb:Int)(pb:Pl)(kib arb:Tr):(Tr.nod ka sa na pa kia ara (.nod kb sb nb pb kib arb .nil)).exK 2 sep=brkL (alnE ka kia.len) (qm ka sa na kia ara)++sep++brkL (alnE kb kib.len) (qm kb sb nb kib arb):=by
 rw[zF,zF];simp[brkM,nxM,Tr.exK]
theorem qeW(sep:List Tn)(ka:Int)(sa:List UInt8)(na:Int)(pa:Pl)(kia ara:Tr)(kb:Int)(sb:List UInt8)(nb:Int)(pb:Pl)(kib arb:Tr):(Tr.nod ka sa na pa kia ara (.nod kb sb nb pb kib arb .nil)).exK 1 sep=brkL (alnF ka kia.len) (qm ka sa na kia ara)++sep++brkL (alnE kb kib.len) (qm kb sb nb kib arb):=by
 rw[zF,zF];simp[brkM,nxM,Tr.exK]
theorem qaX(base wp M:Nat)(hM:M<=1000000)(w0:World)(hwp:w0.heap.size<=wp)(hC:ExC w0 base wp M)(k:Int)(s:List UInt8)(n:Int)(p:Pl)(A:Option Addr)(l c:Nat)(B:Option Addr)(al bc:Nat)(kids arms:Tr)(hk:KidsTr w0 (OldT w0) .ex A l c kids)(hsz:kids.size<=M)(hsh:kids.shp)(h5:(exR k s).1=5->l=2)
  (xs:List Tn) (W:World) (pre:List Tn) (w w':World) (hs:Ws w0 base wp xs W pre w) (hb:Bel w w') :
  Calls Tryz.prog 85 #[.pointer (some ⟨wp,0,none⟩),.agg #[.int .u8 k,.string ⟨s.toArray⟩,n,p.a,p.l,p.c,.slice A l c,.slice B al bc]] w' (WsQ w0 base wp xs W (pre++(if (exR k s).1=5 then kids.exK 2 [tk0 5 s n] else tk0 (exR k s).1 s n::kids.exK 2 [])) w):=by
 have HS:=hid (hs.bel hb);have HK0:=hid (hs.kp hb);have HR:Hid (∀ W,Calls Tryz.prog 76 #[.agg #[.int .u8 k,.string ⟨s.toArray⟩,n,p.a,p.l,p.c,.slice A l c,.slice B al bc]] W fun e w'=>e=.returned (.tuple #[.agg #[.int .u8 (exR k s).1,.int .i64 (exR k s).2.1],.bool (exR k s).2.2])/\Bel W w'):=hid fun W=>Qk k s n p A l c B al bc W;obtain⟨tk,htk⟩:∃ t,t=(exR k s).1:=⟨_,rfl⟩
 obtain⟨kc,hkc⟩:∃ t,t=(exR k s).2.1:=⟨_,rfl⟩
 obtain⟨ok,hok⟩:∃ t,t=(exR k s).2.2:=⟨_,rfl⟩
 rw[<- htk,<- hkc,<- hok]at HR;rw[<- htk]at h5;rw[<- htk];have HPU:Hid (∀ (pre:List Tn) (w:World) (g:Nat),Ws w0 base wp xs W pre w->g=w.heap.size->Calls Tryz.prog 50 #[.pointer (some ⟨wp,0,none⟩),.slice (some ⟨g,0,none⟩) 1 1] (w.alloc (.cells #[.int .u8 tk,.string ⟨s.toArray⟩,.int .i64 n,.int .i64 0,.int .i64 0,.int .i64 0] 37)) (WsQ w0 base wp xs W (pre++[tk0 tk s n]) w)):=hid fun pre w g h hg=>h.put1g hwp tk s n 1 g hg;by_cases t5:tk=5
 ·rw[if_pos t5]
  obtain⟨b,o,ka,sa,na,pa,kia,ara,A1,c1,B1,d1,kb,sb,nb,pb,kib,arb,A2,c2,B2,d2,rfl,rfl,hlt,hc1,hk1,ha1,hc2,hk2,ha2⟩:=Qy (by intro e;cases e) hk (h5 t5);have ha1':KidsTr w0 (OldT w0) .arms B1 ara.len d1 ara:=by
   rcases ha1 with h | ⟨h | h,_⟩
   ·exact h.2
   ·cases h
   ·cases h
  have ha2':KidsTr w0 (OldT w0) .arms B2 arb.len d2 arb:=by
   rcases ha2 with h | ⟨h | h,_⟩
   ·exact h.2
   ·cases h
   ·cases h
  rw[qeX];simp only[Tr.size]at hsz;have hl2:=h5 t5;have HP1:=hid fun pre w g h hg=>qa7 84 alnE egE jF (xs:=xs) (W:=W) hC hM hwp pre w g ka sa na pa kia ara A1 c1 B1 d1 h hg hk1 ha1' (by omega) ⟨hsh.1,hsh.2.1,hsh.2.2.1,hsh.2.2.2.1,hsh.2.2.2.2.1,hsh.2.2.2.2.2.1,trivial⟩;have HP2:=hid fun pre w g h hg=>qa7 84 alnE egE jF (xs:=xs) (W:=W) hC hM hwp pre w g kb sb nb pb kib arb A2 c2 B2 d2 h hg hk2 ha2' (by omega) hsh.2.2.2.2.2.2;have HCC1:=hid hc1;have HCC2:=hid hc2;obtain⟨SS,hSS⟩:∃ S:ByteArray,S=⟨s.toArray⟩:=⟨_,rfl⟩
  obtain⟨SA,hSA⟩:∃ S:ByteArray,S=⟨sa.toArray⟩:=⟨_,rfl⟩
  obtain⟨SB,hSB⟩:∃ S:ByteArray,S=⟨sb.toArray⟩:=⟨_,rfl⟩
  obtain⟨T1,hT1⟩:∃ T,T=tk0 tk s n:=⟨_,rfl⟩
  obtain⟨F1,hF1⟩:∃ F,F=brkL (alnE ka kia.len) (qm ka sa na kia ara):=⟨_,rfl⟩
  obtain⟨F2,hF2⟩:∃ F,F=brkL (alnE kb kib.len) (qm kb sb nb kib arb):=⟨_,rfl⟩
  obtain⟨l1,hl1⟩:∃ l,l=kia.len:=⟨_,rfl⟩
  obtain⟨l2,hl2'⟩:∃ l,l=kib.len:=⟨_,rfl⟩
  obtain⟨m1,hm1⟩:∃ l,l=ara.len:=⟨_,rfl⟩
  obtain⟨m2,hm2⟩:∃ l,l=arb.len:=⟨_,rfl⟩
  rw[<- hl1,<- hm1]at HCC1;rw[<- hl2',<- hm2]at HCC2;rw[<- hSA,<- hF1,<- hl1,<- hm1]at HP1;rw[<- hSB,<- hF2,<- hl2',<- hm2]at HP2;have hT5:tk0 5 s n=T1:=by rw[hT1,t5]
  rw[<- hT1,<- hSS]at HPU;rw[<- hSS]at HR;rw[hT5,<- hF1,<- hF2,<- hSS];have HSA:=hid hSA;have HSB:=hid hSB;clear hk hsz hsh hC hc1 hc2 hk1 hk2 ha1 ha2 ha1' ha2' hlt hSS hSA hSB hT1 hT5 hF1 hF2 hl1 hl2' hm1 hm2 hs hb h5 htk hkc hok;subst t5 hl2;have HS1:=hid (HS.out.bel ((Bel.refl w').alloc (.cells #[.int .u8 k,SS,n,p.a,p.l,p.c,.slice (some ⟨b,o,none⟩) 2 c,.slice B al bc] 43)));have HX1:=hid (HS.out.box (.cells #[.int .u8 k,SS,n,p.a,p.l,p.c,.slice (some ⟨b,o,none⟩) 2 c,.slice B al bc] 43));have HK1:=hid (HK0.out.on (HS.out.kp ((Bel.refl w').alloc (.cells #[.int .u8 k,SS,n,p.a,p.l,p.c,.slice (some ⟨b,o,none⟩) 2 c,.slice B al bc] 43))));go_enter Tryz.func85,Tryz.ntmps85
  go_wp2_with fail
  refine (HR.out _).mono ?_;rintro e w2 ⟨rfl,hb2⟩;have HB2:Hid (Bel w2 ((w2.alloc (.cells #[.int .u8 5,kc] 143)).alloc (.cells #[.int .u8 5,SS,n,(0:Int),(0:Int),(0:Int)] 37))):=hid (((Bel.refl w2).alloc _).alloc _);have HS2:=hid ((HS1.out.bel hb2).bel HB2.out);have HX2:=hid ((HS1.out.bel hb2).kp HB2.out _ _ (HS1.out.kp hb2 _ _ HX1.out));have HT2:=hid (((HS1.out.bel hb2).bel ((Bel.refl w2).alloc (.cells #[.int .u8 5,kc] 143))).box (.cells #[.int .u8 5,SS,n,(0:Int),(0:Int),(0:Int)] 37));have HK2:=hid ((HK1.out.on (HS1.out.kp hb2)).on ((HS1.out.bel hb2).kp HB2.out));have hx2:=HS1.out.kp hb2 _ _ HX1.out;obtain⟨x0,x1,x2,x3,x4,x5,x6,x7⟩:=box8 hx2.1;have hl2:w'.heap.size<w2.heap.size:=(Array.getElem?_eq_some_iff.1 hx2.1).1;have y0:=HCC1.out _ HS2.out.1 0 _ rfl;have y1:=HCC1.out _ HS2.out.1 1 _ rfl;have y2:=HCC1.out _ HS2.out.1 2 _ rfl;have y3:=HCC1.out _ HS2.out.1 3 _ rfl;have y4:=HCC1.out _ HS2.out.1 4 _ rfl;have y5:=HCC1.out _ HS2.out.1 5 _ rfl;have y6:=HCC1.out _ HS2.out.1 6 _ rfl;have y7:=HCC1.out _ HS2.out.1 7 _ rfl;simp only[Sh.kd,Nat.add_zero]at y0 y1 y2 y3 y4 y5 y6 y7;rw[<- HSA.out]at y1;clear hb2 hx2;go_wp2_with fail
  refine (HP1.out _ _ (w2.heap.size+1+1) HS2.out (by simp)).mono ?_;rintro e w3 ⟨rfl,hs3,hk3⟩;have HS3:=hid hs3;have HX3:=hid (hk3 _ _ HX2.out);have ht3:=hk3 _ _ HT2.out;have hsz2:(w2.alloc (.cells #[.int .u8 5,kc] 143)).heap.size=w2.heap.size+1:=by simp
  rw[hsz2]at ht3;have HT3:=hid ht3;have HK3:=hid (HK2.out.on hk3);obtain⟨z0,z1,z2,z3,z4,z5⟩:=(jq ht3.1).1;have hl3:w2.heap.size+1<w3.heap.size:=(Array.getElem?_eq_some_iff.1 ht3.1).1;clear hs3 hk3 ht3 x0 x1 x2 x3 x4 x5 x6 x7 hl2 y0 y1 y2 y3 y4 y5 y6 y7;go_wp2_with fail
  refine (HPU.out _ _ _ HS3.out rfl).mono ?_;rintro e w4 ⟨rfl,hs4,hk4⟩;have HS4:=hid hs4;have HX4:=hid (hk4 _ _ HX3.out);have HK4:=hid (HK3.out.on hk4);obtain⟨x0,x1,x2,x3,x4,x5,x6,x7⟩:=box8 HX4.out.1;have hl4:w'.heap.size<w4.heap.size:=(Array.getElem?_eq_some_iff.1 HX4.out.1).1;have y0:=HCC2.out _ HS4.out.1 0 _ rfl;have y1:=HCC2.out _ HS4.out.1 1 _ rfl;have y2:=HCC2.out _ HS4.out.1 2 _ rfl;have y3:=HCC2.out _ HS4.out.1 3 _ rfl;have y4:=HCC2.out _ HS4.out.1 4 _ rfl;have y5:=HCC2.out _ HS4.out.1 5 _ rfl;have y6:=HCC2.out _ HS4.out.1 6 _ rfl;have y7:=HCC2.out _ HS4.out.1 7 _ rfl;simp only[Sh.kd,Sh.sz,Nat.add_zero]at y0 y1 y2 y3 y4 y5 y6 y7;rw[<- HSB.out]at y1;clear hs4 hk4 z0 z1 z2 z3 z4 z5 hl3;go_wp2_with fail
  refine (HP2.out _ _ _ HS4.out rfl).mono ?_;rintro e w5 ⟨rfl,hs5,hk5⟩;have HQ:Hid (WsQ w0 base wp xs W (pre++(F1++[T1]++F2)) w (.returned (.tuple #[])) w5):=hid ⟨rfl,by
   have e:pre++(F1++[T1]++F2)=pre++F1++[T1]++F2:=by simp
   rw[e];exact hs5,HK4.out.on hk5⟩
  clear hs5 hk5 y0 y1 y2 y3 y4 y5 y6 y7 x0 x1 x2 x3 x4 x5 x6 x7;go_wp2_with fail
  go_end0
  exact HQ.out
 rw[if_neg t5,Tr.brX_exK kids (hk.isNods (by intro e;cases e))];have HBR:Hid (∀ (pre:List Tn) (w:World),Ws w0 base wp xs W pre w->Calls Tryz.prog 82 #[.pointer (some ⟨wp,0,none⟩),.func (.func 84) #[] #[],.func (.func 42) #[.pointer (some ⟨wp,0,none⟩)] #[],.slice A l c] w (WsQ w0 base wp xs W (pre++kids.brX alnE) w)):=hid fun pre w h=>
  h.run fun r h1 h2 h3=>Qi 84 alnE egE jF base wp M r A l c kids w0 w hC hwp (RowX.old hk h1 hwp h2) hsz hM hsh h1 h2 h3
 obtain⟨T1,hT1⟩:∃ T,T=tk0 tk s n:=⟨_,rfl⟩
 obtain⟨SS,hSS⟩:∃ S:ByteArray,S=⟨s.toArray⟩:=⟨_,rfl⟩
 obtain⟨F1,hF1⟩:∃ F,F=kids.brX alnE:=⟨_,rfl⟩
 rw[<- hSS]at HR;rw[<- hF1]at HBR;rw[<- hSS,<- hT1]at HPU;rw[<- hSS,<- hT1,<- hF1];have d5:(tk==5)=false:=by simpa using t5
 clear hk hsz hsh hC htk hkc hok hT1 hSS hF1 hs hb h5 t5;have HS1:=hid (HS.out.bel ((Bel.refl w').alloc (.cells #[.int .u8 k,SS,n,p.a,p.l,p.c,.slice A l c,.slice B al bc] 43)));have HX1:=hid (HS.out.box (.cells #[.int .u8 k,SS,n,p.a,p.l,p.c,.slice A l c,.slice B al bc] 43));have HK1:=hid (HK0.out.on (HS.out.kp ((Bel.refl w').alloc (.cells #[.int .u8 k,SS,n,p.a,p.l,p.c,.slice A l c,.slice B al bc] 43))));go_enter Tryz.func85,Tryz.ntmps85
 go_wp2_with fail
 refine (HR.out _).mono ?_;rintro e w2 ⟨rfl,hb2⟩;have HB2:Hid (Bel w2 ((w2.alloc (.cells #[.int .u8 tk,kc] 143)).alloc (.cells #[.int .u8 tk,SS,n,(0:Int),(0:Int),(0:Int)] 37))):=hid (((Bel.refl w2).alloc _).alloc _);have HS2:=hid ((HS1.out.bel hb2).bel HB2.out);have HX2:=hid ((HS1.out.bel hb2).kp HB2.out _ _ (HS1.out.kp hb2 _ _ HX1.out));have HK2:=hid ((HK1.out.on (HS1.out.kp hb2)).on ((HS1.out.bel hb2).kp HB2.out));have hx2:=HS1.out.kp hb2 _ _ HX1.out;obtain⟨x0,x1,x2,x3,x4,x5,x6,x7⟩:=box8 hx2.1;have hl2:w'.heap.size<w2.heap.size:=(Array.getElem?_eq_some_iff.1 hx2.1).1;clear hb2 hx2;go_wp2_with fail
 refine (HPU.out _ _ (w2.heap.size+1+1) HS2.out (by simp)).mono ?_;rintro e w4 ⟨rfl,hs4,hk4⟩;have HS4:=hid hs4;have HX4:=hid (hk4 _ _ HX2.out);have HK4:=hid (HK2.out.on hk4);clear x0 x1 x2 x3 x4 x5 x6 x7 hl2;obtain⟨x0,x1,x2,x3,x4,x5,x6,x7⟩:=box8 HX4.out.1;have hl4:w'.heap.size<w4.heap.size:=(Array.getElem?_eq_some_iff.1 HX4.out.1).1;clear hs4 hk4;go_wp2_with fail
 refine (HBR.out _ _ HS4.out).mono ?_;rintro e w5 ⟨rfl,hs5,hk5⟩;have HQ:Hid (WsQ w0 base wp xs W (pre++(T1::F1)) w (.returned (.tuple #[])) w5):=hid ⟨rfl,by
  have e:pre++(T1::F1)=pre++[T1]++F1:=by simp
  rw[e];exact hs5,HK4.out.on hk5⟩
 clear hs5 hk5 x0 x1 x2 x3 x4 x5 x6 x7;go_wp2_with fail
 go_end0
 exact HQ.out
set_option maxHeartbeats 4000000
def PaC(w0:World)(base wp M:Nat):Prop:=∀ (k:Int) (s:List UInt8) (n:Int) (p:Pl) (A:Option Addr) (c:Nat) (kids:Tr) (xs:List Tn) (W:World),
 KidsTr w0 (OldT w0) .pat A kids.len c kids->1+kids.size<=M->Bel w0 W->Wri W base wp xs->xs.length<=5000 →
 Calls Tryz.prog 121 #[.pointer (some ⟨wp,0,none⟩),.agg #[.int .u8 k,.string ⟨s.toArray⟩,n,p.a,p.l,p.c,.slice A kids.len c]] W (WrQ w0 base wp xs (qH k s n kids.patK) W)
theorem Jv(base wp M:Nat)(xs:List Tn)(A:Option Addr)(n c:Nat)(f:Tr)(w0 W:World)
  (hX:PaC w0 base wp M) (hwp:w0.heap.size<=wp) (hf:RowX w0 W wp .pat A n f) (hsz:f.size<=M) (hM:M<=1000000) (hW:Bel w0 W) (hw:Wri W base wp xs) (hx:xs.length<=5000) :
  Calls Tryz.prog 142 #[.pointer (some ⟨wp,0,none⟩),.func (.func 143) #[] #[],.func (.func 121) #[.pointer (some ⟨wp,0,none⟩)] #[],.slice A n c] W (WrQ w0 base wp xs (f.brP) W):=by
 have HF:=hid hf;have HX:=hid hX;have HSZ:=hid (And.intro hsz trivial);have HW:=hid hW;have HL:Hid (n=f.len):=hid hf.1;have hn:n<=1000000:=by have:=hf.1;have:=f.len_le;omega
 have ega:∀ args w,(callFunc 143 args).run Tryz.prog w=.ok (.enter 143 args) w:=fun args w=>by kernel_rfl
 have egx:∀ args w,(callFunc 121 args).run Tryz.prog w=.ok (.enter 121 args) w:=fun args w=>by kernel_rfl
 have HI:Hid (∃ pre,Ws w0 base wp xs W pre W/\pre++(f.dropN 0).brP=f.brP):=hid ⟨[],Ws.start hW hw hx,by cases f <;> rfl⟩;clear hf hX hsz hW hw hx;go_enter Tryz.func142,Tryz.ntmps142
 go_wp2_with fail
 go_loopw [12] (fun i wr=>∃ j:Nat,j<=n/\i=.int .i64 (j:Int)/\Hid (∃ pre,Ws w0 base wp xs W pre wr/\pre++(f.dropN j).brP=f.brP)) (fun i _=>n-(intOf i).toNat)
 case atStart=>exact⟨0,Nat.zero_le _,rfl,HI⟩
 case round=>
  obtain⟨j,hj,rfl,HR⟩:=hrel;obtain⟨pre,hws,hpre⟩:=HR.out;by_cases hlt:j<n
  ·obtain⟨ub,uo,k,s,nn,p,kids,arms,A',c',B',bc',eA,⟨uob,hub⟩,hnth,hcs,hkk,hka⟩:=(HF.out.step HW.out hws.1 hws.2.2).nth (by intro e;cases e) hws.1 hlt
   subst eA;have ha0:arms.len=0:=by
    rcases hka with ⟨h,_⟩ | ⟨_,h⟩
    ·cases h
    ·exact h
   have ha1:=Tr.len_nil arms ha0;subst ha1;have hns:1+kids.size<=M:=by
    have h1:=f.nth_size j;rw[hnth]at h1;simp only[Tr.size]at h1;have:=HSZ.out.1;omega
   have hdr:(f.dropN j).brP=brkL (alnP k kids.len) (qH k s nn kids.patK)++(f.dropN (j+1)).brP:=by rw[Tr.dropN_nod f j hnth];rfl
   have HC:Hid (∀ (ys:List Tn) (W':World),Bel w0 W'->Wri W' base wp ys->ys.length<=5000->Calls Tryz.prog 121 #[.pointer (some ⟨wp,0,none⟩),.agg #[.int .u8 k,.string ⟨s.toArray⟩,nn,p.a,p.l,p.c,.slice A' kids.len c']] W' (WrQ w0 base wp ys (qH k s nn kids.patK) W')):=hid fun ys W' h1 h2 h3=>HX.out k s nn p A' c' kids ys W' hkk hns h1 h2 h3;have y0:=hcs 0 _ rfl;have y1:=hcs 1 _ rfl;have y2:=hcs 2 _ rfl;have y3:=hcs 3 _ rfl;have y4:=hcs 4 _ rfl;have y5:=hcs 5 _ rfl;have y6:=hcs 6 _ rfl;simp only[Sh.sz,Sh.kd,Nat.add_zero]at y0 y1 y2 y3 y4 y5 y6;rw[hdr]at hpre;obtain⟨Fx,hFx⟩:∃ F,F=qH k s nn kids.patK:=⟨_,rfl⟩
   obtain⟨b,hb⟩:∃ b,b=alnP k kids.len:=⟨_,rfl⟩
   obtain⟨SS,hSS⟩:∃ S:ByteArray,S=⟨s.toArray⟩:=⟨_,rfl⟩
   obtain⟨l1,hl1⟩:∃ l,l=kids.len:=⟨_,rfl⟩
   have HAL:Hid (∀ W',Calls Tryz.prog 143 #[.agg #[.int .u8 k,SS,nn,p.a,p.l,p.c,.slice A' l1 c']] W' (qz b W')):=hid fun W'=>by rw[hb,<- hl1];exact Jt k SS nn p A' l1 c' W'
   rw[<- hFx,<- hb]at hpre;rw[<- hSS,<- hl1,<- hFx]at HC;rw[<- hSS]at y1;rw[<- hl1]at y6;have HS1:=hid (hws.bel ((Bel.refl wr).alloc (.cells #[.int .u8 k,SS,nn,p.a,p.l,p.c,.slice A' l1 c'] 111)));have HBX:=hid (hws.box (.cells #[.int .u8 k,SS,nn,p.a,p.l,p.c,.slice A' l1 c'] 111));have HPRE:=hid hpre;have hob':ub<wr.heap.size:=(Array.getElem?_eq_some_iff.1 hub.1).1;have i1:(0:Int)<=(j:Int):=by omega
   have i2:(j:Int)<(n:Int):=by omega
   have HLT:=hid hlt;clear hcs hkk hka ha0 hns hdr hpre hFx hb hSS hl1 hnth hub hws HR;go_wp2_with fail
   refine (HAL.out _).mono ?_;rintro e w2 ⟨rfl,hb2⟩;have HS2:=hid (HS1.out.bel hb2);have HX2:=hid (HS1.out.kp hb2 _ _ HBX.out);obtain⟨x0,x1,x2,x3,x4,x5,x6⟩:=box7 HX2.out.1;have hl2:wr.heap.size<w2.heap.size:=(Array.getElem?_eq_some_iff.1 HX2.out.1).1;clear hb2 y0 y1 y2 y3 y4 y5 y6 hob' HAL HS1 HBX;cases b
   ·go_wp2_with fail
    refine (qd _ _).mono ?_;rintro e w3 ⟨rfl,hb3⟩;have HS3:=hid (HS2.out.bel hb3);have HX3:=hid (HS2.out.kp hb3 _ _ HX2.out);clear hb3 x0 x1 x2 x3 x4 x5 x6;unfold tokV;go_wp2_with fail
    refine (HS3.out.put1 hwp 5 [40] 0 _).mono ?_;rintro e w4 ⟨rfl,hs4,hk4⟩;have HS4:=hid hs4;have HX4:=hid (hk4 _ _ HX3.out);obtain⟨x0,x1,x2,x3,x4,x5,x6⟩:=box7 HX4.out.1;have hl4:wr.heap.size<w4.heap.size:=(Array.getElem?_eq_some_iff.1 HX4.out.1).1;clear hs4 hk4;go_wp2_with fail
    refine (HS4.out.run fun r h1 h2 h3=>HC.out r w4 h1 h2 h3).mono ?_;rintro e w5 ⟨rfl,hs5,hk5⟩;have HS5:=hid hs5;clear hs5 hk5 x0 x1 x2 x3 x4 x5 x6;go_wp2_with fail
    refine (qd _ _).mono ?_;rintro e w6 ⟨rfl,hb6⟩;have HS6:=hid (HS5.out.bel hb6);clear hb6;unfold tokV;go_wp2_with fail
    refine (HS6.out.put1 hwp 5 [41] 0 _).mono ?_;rintro e w7 ⟨rfl,hs7,hk7⟩;have HS7:=hid hs7;have HR':Hid (∃ pre,Ws w0 base wp xs W pre w7/\pre++(f.dropN (j+1)).brP=f.brP):=hid ⟨_,HS7.out,by rw[<- HPRE.out];simp[brkL]⟩;clear hs7 hk7;go_wp2_with fail
    go_roundw
    case rel=>exact⟨j+1,HLT.out,by go_num,HR'⟩
    case measure=>have:=HLT.out;simp[intOf];omega
   ·go_wp2_with fail
    refine (HS2.out.run fun r h1 h2 h3=>HC.out r w2 h1 h2 h3).mono ?_;rintro e w5 ⟨rfl,hs5,hk5⟩;have HR':Hid (∃ pre,Ws w0 base wp xs W pre w5/\pre++(f.dropN (j+1)).brP=f.brP):=hid ⟨_,hs5,by rw[<- HPRE.out];simp[brkL]⟩;clear hs5 hk5 x0 x1 x2 x3 x4 x5 x6;go_wp2_with fail
    go_roundw
    case rel=>exact⟨j+1,HLT.out,by go_num,HR'⟩
    case measure=>have:=HLT.out;simp[intOf];omega
  ·obtain rfl:j=n:=by omega
   rw[Tr.dropN_all f j (by rw[<- HL.out];exact Nat.le_refl _)]at hpre;have HQ:=hid (hws.fin (F:=f.brP) (by rw[<- hpre];simp[Tr.brP]));clear hws hpre;go_wp2_with fail
   go_end0
   exact HQ.out
end Go.Proofs.YtfpoelklhekfaaaGreatDoor.Mu
