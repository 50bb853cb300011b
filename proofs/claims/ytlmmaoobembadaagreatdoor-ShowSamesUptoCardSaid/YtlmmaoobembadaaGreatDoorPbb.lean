import Derived.Test.YtlmmaoobembadaaGreatDoorPba
open Go.Lib (hid)
namespace Go.Proofs.YtlmmaoobembadaaGreatDoor.Mu
open Go Go.RowKit Go.Shelf
set_option linter.unusedVariables false
set_option maxRecDepth 100000
theorem TrAt.barep{w:World}{Ok:Nat->Prop}:∀ (f:Tr) (sh:Sh) (b o:Nat),(sh=.ex∨sh=.arms)->TrAt w Ok f sh b o->f.barep
 | .nil,_,_,_,_,_=>trivial
 | .nod k s n p kids arms r,sh,b,o,hs,h=>by
  obtain⟨_,⟨A,cap,_,_,a3⟩,h3,h4⟩:=h;rcases h3 with ⟨e,A2,c2,_,_,a4⟩ | ⟨e | e,_⟩
  ·subst e
   refine⟨?_,?_,TrAt.barep r .ex b _ hs h4⟩
   ·rcases Nat.eq_zero_or_pos kids.len with e | e
    ·rw[Tr.len_nil kids e];trivial
    ·obtain⟨b',o',_,_,h⟩:=a3 e;exact TrAt.barep kids .ex b' o' (.inl rfl) h
   ·rcases Nat.eq_zero_or_pos arms.len with e | e
    ·rw[Tr.len_nil arms e];trivial
    ·obtain⟨b',o',_,_,h⟩:=a4 e;exact TrAt.barep arms .arms b' o' (.inr rfl) h
  ·subst e;rcases hs with e | e <;> cases e
  ·subst e;rcases hs with e | e <;> cases e
 | .arm k s n p kids e r,sh,b,o,hs,h=>by
  obtain⟨h0,_,⟨A,cap,_,_,a3⟩,_,h4,h5⟩:=h;refine⟨?_,TrAt.barep e .ex b _ (.inl rfl) h4,TrAt.barep r sh b _ hs h5⟩;rcases Nat.eq_zero_or_pos kids.len with e | e
  ·rw[Tr.len_nil kids e];trivial
  ·obtain⟨b',o',_,_,h⟩:=a3 e;exact TrAt.bare (.inl rfl) kids b' o' h
theorem KidsTr.barep{w:World}{Ok:Nat->Prop}{sh:Sh}(hs:sh=.ex∨sh=.arms){A:Option Addr}{l c:Nat}{f:Tr}(h:KidsTr w Ok sh A l c f):f.barep:=by
 rcases Nat.eq_zero_or_pos f.len with e | e
 ·rw[Tr.len_nil f e];trivial
 ·obtain⟨b,o,_,_,h⟩:=h.2.2 (by rw[h.1];exact e)
  exact TrAt.barep f sh b o hs h
noncomputable def exMay (x:Tr):Bool:=(x.pre 0).all (zc (hdX hEf hPf) 60)
theorem ZT{w:World}{k:Int}{s:List UInt8}{n:Int}{p:Pl}{A:Option Addr}{c:Nat}{B:Option Addr}{bc:Nat}{kids arms:Tr}(hk:KidsTr w (OldT w) .ex A kids.len c kids)(ha:KidsTr w (OldT w) .arms B arms.len bc arms) :
  exMay (.nod k s n p kids arms .nil)=((Tr.nod k s n p kids arms .nil).mayE hEf hPf&&decide ((Tr.nod k s n p kids arms .nil).depth<=60)):=by
 unfold exMay;rw[(Tr.pre_mayE hEf hPf (.nod k s n p kids arms .nil) 60 0 ⟨hk.isNods (by intro e;cases e),hk.ok,ha.isArms,ha.ok,trivial⟩ ⟨hk.barep (.inl rfl),ha.barep (.inr rfl),trivial⟩).1 trivial];unfold zf;congr 1
 apply decide_eq_decide.2;rw[qgT];simp only[Tr.depth];omega
def FitL(F:List Tn):Prop:=∀ t∈F,fitN t.s t.n
theorem FitL.nil:FitL []:=by intro t h;cases h
theorem FitL.cons{t:Tn}{F:List Tn}(h:fitN t.s t.n)(k:FitL F):FitL (t::F):=fun u hu=>(List.mem_cons.1 hu).elim (fun e=>e ▸ h) (k u)
theorem FitL.app{F G:List Tn}(h:FitL F)(k:FitL G):FitL (F++G):=fun u hu=>(List.mem_append.1 hu).elim (h u) (k u)
theorem qhd{k:Int}{s:List UInt8}(h:s.length<=100):fitN (tk0 k s 0).s (tk0 k s 0).n:=⟨by show s.length<=_;omega,(by decide:(-9223372036854775808:Int)<=0),(by decide:(0:Int)<=9223372036854775807)⟩
theorem FitL.kw{k:Int}{s:List UInt8}{F:List Tn}(h:s.length<=100)(kk:FitL F):FitL (tk0 k s 0::F):=FitL.cons (qhd h) kk
theorem FitL.brk{b:Bool}{F:List Tn}(h:FitL F):FitL (brkL b F):=by
 unfold brkL;split
 ·exact h
 ·exact FitL.kw (by simp) (h.app (FitL.kw (by simp) FitL.nil))
theorem FitL.brkM{md:Nat}{k:Int}{l:Nat}{F:List Tn}(h:FitL F):FitL (brkM md k l F):=by
 unfold Mu.brkM;split
 ·exact h
 split
 ·exact h.brk
 ·exact h.brk
theorem J9{k:Int}{s:List UInt8}{n:Int}(h:fitN s n):fitN (tk0 k s n).s (tk0 k s n).n:=h
theorem Qv{k:Int}{s:List UInt8}{n:Int}(h:fitN s n):fitN (tk0 k s 0).s (tk0 k s 0).n:=⟨h.1,(by decide:(-9223372036854775808:Int)<=0),(by decide:(0:Int)<=9223372036854775807)⟩
theorem ZE{k:Int}{s:List UInt8}{n:Int}{K:List Tn}(h:fitN s n)(hK:FitL K):FitL (zi k s n K):=by
 unfold zi;split
 ·exact FitL.kw (by simp) FitL.nil
 ·exact FitL.cons (J9 h) hK
theorem Jb:∀ f:Tr,f.ints->FitL f.patK
 | .nil,_=>FitL.nil
 | .arm ..,_=>FitL.nil
 | .nod k s n p kids arms r,⟨h0,h1,_,h3⟩=>((ZE h0 (Jb kids h1)).brk).app (Jb r h3)
theorem qcc(n:Int):fitN (qQ n).s (qQ n).n:=by
 unfold qQ;split
 ·exact⟨by decide,by decide,by decide⟩
 split
 ·exact⟨by decide,by decide,by decide⟩
 ·exact⟨by decide,by decide,by decide⟩
theorem qbQ(n:Int):fitN (zq n).s (zq n).n:=by
 unfold zq;split
 ·exact⟨by decide,by decide,by decide⟩
 split
 ·exact⟨by decide,by decide,by decide⟩
 ·exact⟨by decide,by decide,by decide⟩
theorem Jj:∀ (f:Tr) (sep:List Tn),f.ints->FitL sep->FitL (f.tyK sep)
 | .nil,_,_,_=>FitL.nil
 | .arm ..,_,_,_=>FitL.nil
 | .nod k s n p kids arms r,sep,⟨h0,h1,_,h3⟩,hs=>by
  rw[Jk];refine ((FitL.brk ?_).app hs).app (Jj r [] h3 FitL.nil);unfold zI;split
  ·exact Jj kids _ h1 (FitL.cons (qbQ n) FitL.nil)
  ·exact FitL.cons (Qv h0) (Jj kids [] h1 FitL.nil)
theorem qb0{k:Int}{s:List UInt8}{n:Int}{K0 K1 K2 KI KS KA:List Tn}(hf:fitN s n)(h0:FitL K0)(h1:FitL K1)(h2:FitL K2)(hI:FitL KI)(hS:FitL KS)(hA:FitL KA) :
  FitL (if k=4 then ZY::tk0 1 s 0::Qq::K0
    else if k=6 then zA::tk0 1 s 0::kwEq::KI
    else if k=7 then zA::jJ::tk0 1 s 0::kwEq::KI
    else if k=8 then jt::K0++[kwOf]++KA++[zH]
    else if k=5 then K1
    else if (exR k s).1=5 then KS
    else tk0 (exR k s).1 s n::K2):=by
 split
 ·exact FitL.kw (by simp) (FitL.cons (Qv hf) (FitL.kw (by simp) h0))
 split
 ·exact FitL.kw (by simp) (FitL.cons (Qv hf) (FitL.kw (by simp) hI))
 split
 ·exact FitL.kw (by simp) (FitL.kw (by simp) (FitL.cons (Qv hf) (FitL.kw (by simp) hI)))
 split
 ·exact (((FitL.kw (by simp) h0).app (FitL.kw (by simp) FitL.nil)).app hA).app (FitL.kw (by simp) FitL.nil)
 split
 ·exact h1
 split
 ·exact hS
 ·exact FitL.cons (J9 hf) h2
theorem zr:∀ (f:Tr) (md:Nat) (sep:List Tn),f.ints->FitL sep->FitL (f.exK md sep)
 | .nil,_,_,_,_=>FitL.nil
 | .arm k s n p kids e r,md,sep,⟨h0,h1,h2,h3⟩,hs=>
  (((hs.app (ZE h0 (Jb kids h1))).app (FitL.kw (by simp) FitL.nil)).app (zr e 0 [] h2 FitL.nil)).app (zr r 0 [QQ] h3 (FitL.kw (by simp) FitL.nil))
 | .nod k s n p kids arms r,md,sep,⟨h0,h1,h2,h3⟩,hs=>
  (((qb0 h0 (zr kids 0 [] h1 FitL.nil) (zr kids 1 [] h1 FitL.nil) (zr kids 2 [] h1 FitL.nil) (zr kids 0 [kwIn] h1 (FitL.kw (by simp) FitL.nil)) (zr kids 2 [tk0 5 s n] h1 (FitL.cons (J9 h0) FitL.nil)) (zr arms 0 [ju] h2 (FitL.kw (by simp) FitL.nil))).brkM).app hs).app (zr r (nxM md) [] h3 FitL.nil)
theorem qdf(k:Int)(s:List UInt8)(n:Int)(p:Pl)(kids arms:Tr):(Tr.nod k s n p kids arms .nil).exK 0 []=qu k s n kids arms:=zG k s n p kids arms
theorem Wri.toks{W:World}{base wp:Nat}{xs:List Tn}(h:Wri W base wp xs):∃ A n c,W.cell? ⟨wp,0,none⟩=some (.slice A n c)/\RTn W W.heap.size A n xs:=by
 obtain⟨_,_,A,n,c,hc,hn,ho⟩:=h;refine⟨A,n,c,by simp[World.cell?,hc],hn,fun h0=>?_⟩;obtain⟨g,cp,hv,_,hgl⟩:=ho.form h0;cases hv
 refine⟨g,0,rfl,hgl,fun k x hx=>?_⟩;have hcs:=ho.cells (g:=g) rfl;have key:∀ j v,x.cells[j]?=some v->W.cell? ⟨g,0+k*6+j,none⟩=some v:=fun j v hv=>by
  have:=hcs (k*6+j) v (jH xs k x hx j v hv);rw[Addr.add_lit]at this;rw[<- this];congr 2
  omega
 exact⟨key 0 _ rfl,key 1 _ rfl,key 2 _ rfl,key 3 _ rfl,key 4 _ rfl,key 5 _ rfl⟩
theorem Wri.new(w:World):Wri (w.alloc (.cells #[.slice none 0 0] 87)) (w.heap.size+1) w.heap.size []:=
 ⟨by omega,by simp,none,0,0,blk1 w _,rfl,World.ownsRow_nil _ _ _ _⟩
theorem J2{w0 W:World}{base wp:Nat}{F r:List Tn}(ht:Tbl W)(hw:Wri W base wp r)(hr:WrR [] F r)(hl:r.length<=5000)(hF:FitL F)(hM:AllM F) :
  ∃ A n c,W.cell? ⟨wp,0,none⟩=some (.slice A n c)/\Calls Tryz.prog 21 #[.slice A n c] W fun e w'=>e=.returned (.tuple #[.string ⟨(wrO (F.map Tn.b)).1.toArray⟩,.int .i64 (wrO (F.map Tn.b)).2])/\Bel W w':=by
 obtain⟨A,n,c,hc,hT⟩:=hw.toks;have hn:=hT.1;refine⟨A,n,c,hc,?_⟩;have h:=Zk (cp:=c) W ht hT (by omega) (fun x hx=>hF x (hr.from0.1.subset hx));rw[qhP hM hr]at h;exact h
end Go.Proofs.YtlmmaoobembadaaGreatDoor.Mu
namespace Go.Proofs.YtlmmaoobembadaaGreatDoor.Mu
set_option maxHeartbeats 4000000
open Go Go.RowKit Go.Shelf
attribute [local go_sem] Oper.semAt_some
set_option linter.unusedVariables false
set_option maxRecDepth 100000
noncomputable def txO (k:Int) (s:List UInt8) (n:Int) (p:Pl) (kids arms:Tr):List UInt8 × Int:=if exMay (.nod k s n p kids arms .nil) then wrO ((qu k s n kids arms).map Tn.b) else ([],2)
theorem Qo(k:Int)(s:List UInt8)(n:Int)(p:Pl)(A:Option Addr)(c:Nat)(B:Option Addr)(bc:Nat)(kids arms:Tr)(w:World)(hk:KidsTr w (OldT w) .ex A kids.len c kids)(ha:KidsTr w (OldT w) .arms B arms.len bc arms)(hsz:kids.size+arms.size<=900000)(ht:Tbl w)(hi:(Tr.nod k s n p kids arms .nil).ints) :
  Calls Tryz.prog 18 #[.agg #[.int .u8 k,.string ⟨s.toArray⟩,n,p.a,p.l,p.c,.slice A kids.len c,.slice B arms.len bc]] w fun e w'=>e=.returned (.tuple #[.string ⟨(txO k s n p kids arms).1.toArray⟩,.int .i64 (txO k s n p kids arms).2])/\Bel w w':=by
 have HM:Hid (∀ (g:Nat) (t:TypeId) (W:World),Bel w W->W.heap[g]?=some (.cells #[.int .u8 k,.string ⟨s.toArray⟩,n,p.a,p.l,p.c,.slice A kids.len c,.slice B arms.len bc] t (0,0)) →
   Calls Tryz.prog 48 #[.int .i64 60,.slice (some ⟨g,0,none⟩) 1 1,.func (.func 28) #[] #[],.func (.func 49) #[] #[]] W (qi (exMay (.nod k s n p kids arms .nil)) W)):=hid fun g t W hW h1=>by
  have e1:=zQ (sh:= .ex) (by intro e;cases e) hk (.inl ⟨rfl,ha⟩) hW h1;exact ZD 60 _ 1 1 _ W e1 (by simp only[Tr.size];omega) (by decide) (ht.bel hW) hi
 have hme:=ZT (k:=k) (s:=s) (n:=n) (p:=p) hk ha;obtain⟨em,hem⟩:∃ b,b=exMay (.nod k s n p kids arms .nil):=⟨_,rfl⟩
 have HR:Hid (txO k s n p kids arms=if em then wrO ((qu k s n kids arms).map Tn.b) else ([],2)):=hid (by rw[hem];rfl);have HE:Hid (em=true->∀ (w0 W:World) (base wp:Nat),Bel w w0->w0.heap.size<=wp->Bel w0 W->Wri W base wp []->Calls Tryz.prog 50 #[.pointer (some ⟨wp,0,none⟩),.agg #[.int .u8 k,.string ⟨s.toArray⟩,n,p.a,p.l,p.c,.slice A kids.len c,.slice B arms.len bc]] W (WrQ w0 base wp [] (qu k s n kids arms) W)):=hid fun he w0 W base wp h0 hwp hW hw=>by
  have hmy:(Tr.nod k s n p kids arms .nil).mayE hEf hPf=true:=by
   rw[hem,hme,Bool.and_eq_true]at he;exact he.1
  exact JZ base wp w0 hwp 1000000 (Nat.le_refl _) k s n p A c B bc kids arms [] W (hk.bel h0) (ha.bel h0) (by simp only[Tr.size];omega) (QW _ hmy) hW hw (by decide)
 have HF:Hid (em=true->FitL (qu k s n kids arms)/\AllM (qu k s n kids arms)):=hid fun he=>by
  have hmy:(Tr.nod k s n p kids arms .nil).mayE hEf hPf=true:=by
   rw[hem,hme,Bool.and_eq_true]at he;exact he.1
  rw[<- qdf k s n p kids arms];exact⟨zr _ 0 [] hi FitL.nil,qM _ 0 [] hmy AllM.nil⟩
 have HT:=hid ht;obtain⟨R,hR⟩:∃ R,R=txO k s n p kids arms:=⟨_,rfl⟩
 obtain⟨F,hF⟩:∃ F,F=qu k s n kids arms:=⟨_,rfl⟩
 obtain⟨kl,hkl⟩:∃ l,l=kids.len:=⟨_,rfl⟩
 obtain⟨al,hal⟩:∃ l,l=arms.len:=⟨_,rfl⟩
 obtain⟨SS,hSS⟩:∃ S:ByteArray,S=⟨s.toArray⟩:=⟨_,rfl⟩
 rw[<- hR,<- hF]at HR;rw[<- hem,<- hkl,<- hal,<- hSS]at HM;rw[<- hF,<- hkl,<- hal,<- hSS]at HE;rw[<- hF]at HF;rw[<- hR,<- hkl,<- hal,<- hSS];clear hk ha hsz ht hi hme hem hR hF hkl hal hSS;have HB1:Hid (Bel w (w.alloc (.cells #[.int .u8 k,SS,n,p.a,p.l,p.c,.slice A kl c,.slice B al bc] 32))):=hid ((Bel.refl w).alloc _);have HB2:Hid (Bel w ((w.alloc (.cells #[.int .u8 k,SS,n,p.a,p.l,p.c,.slice A kl c,.slice B al bc] 32)).alloc (.cells #[.int .u8 k,SS,n,p.a,p.l,p.c,.slice A kl c,.slice B al bc] 32))):=hid (HB1.out.alloc _);have q2:=blk2 w (.cells #[.int .u8 k,SS,n,p.a,p.l,p.c,.slice A kl c,.slice B al bc] 32) (.cells #[.int .u8 k,SS,n,p.a,p.l,p.c,.slice A kl c,.slice B al bc] 32);have HQ2:=hid q2.1;have HM2:=hid (HM.out (w.heap.size+1) _ _ HB2.out q2.2);clear q2 HM;go_enter Tryz.func18,Tryz.ntmps18
 go_wp2_with fail
 refine HM2.out.mono ?_;rintro e w3 ⟨rfl,hb3⟩;have HB3:=hid (HB2.out.on hb3);have hq3:=hb3.blk HQ2.out;have HQ3:=hid hq3;obtain⟨x0,x1,x2,x3,x4,x5,x6,x7⟩:=box8 hq3;have kb:w.heap.size<w3.heap.size:=(Array.getElem?_eq_some_iff.1 hq3).1;clear hb3 hq3 HM2 HB1 HB2 HQ2;cases em
 ·have hR:R=([],2):=HR.out
  subst hR;clear HE HF HR;go_wp2_with fail
  go_ret2
  exact⟨rfl,HB3.out⟩
 have HF':=hid (HF.out rfl);clear HF;have HW4:Hid (Wri (w3.alloc (.cells #[.slice none 0 0] 87)) (w3.heap.size+1) w3.heap.size []):=hid (Wri.new w3);have HB4:Hid (Bel w3 (w3.alloc (.cells #[.slice none 0 0] 87))):=hid ((Bel.refl w3).alloc _);have HE4:=hid (HE.out rfl w3 _ _ _ HB3.out (Nat.le_refl _) HB4.out HW4.out);have hq4:=HB4.out.blk HQ3.out;clear HE;go_wp2_with fail
 refine HE4.out.mono ?_;rintro e w5 ⟨rfl,hb5,⟨r,hw5,hr5,hl5⟩,hk5⟩;obtain⟨A5,n5,c5,hc5,hcall⟩:=J2 (w0:=w3) (HT.out.bel (HB3.out.on hb5)) hw5 hr5 hl5 HF'.out.1 HF'.out.2;have hR:wrO (F.map Tn.b)=R:=by rw[HR.out];rfl
 rw[hR]at hcall;have HC5:=hid hcall;have HB5:=hid (HB3.out.on hb5);have hl5':w3.heap.size<w5.heap.size:=World.block_lt_of_cell? w5 _ hc5;clear hb5 hw5 hr5 hl5 hk5 hcall hR hq4 x0 x1 x2 x3 x4 x5 x6 x7 kb HE4 HF';go_wp2_with fail
 refine HC5.out.mono ?_;rintro e w6 ⟨rfl,hb6⟩;have HB6:=hid (HB5.out.on hb6);clear hb6 hc5 hl5';go_wp2_with fail
 go_ret2
 exact⟨rfl,HB6.out⟩
set_option maxHeartbeats 8000000
noncomputable def dcMay (x:Dc):Bool:=if x.kd=1 then daMay x else if x.kd=2 then mtB (1,x.nm,0)&&decide (x.ps.length=0)&&decide (x.cs.length=0)&&(x.tr.pre 0).all (zc (hdX hEf hPf) 60) else false
theorem qad(kd:Int)(nm:List UInt8)(q:Pl)(PA:Option Addr)(pc:Nat)(ps:List (List UInt8))(CA:Option Addr)(cc:Nat)(cs:List Cd)(rc:Bool)(k:Int)(s:List UInt8)(n:Int)(p:Pl)(A:Option Addr)(c:Nat)(B:Option Addr)(bc:Nat)(kids arms:Tr)(w:World)(hp:RowOf 1 SAt w (OldT w) PA ps.length pc ps)(hc:RowOf 5 CdAt w (OldT w) CA cs.length cc cs)(hk:KidsTr w (OldT w) .ex A kids.len c kids)(ha:KidsTr w (OldT w) .arms B arms.len bc arms)(hg:cs.length<=1000000/\ps.length<=1100000/\kids.size+arms.size<=900000/\∀ c∈cs,c.good)(ht:Tbl w)(hi:Dc.ints ⟨kd,nm,q,ps,cs,rc,k,s,n,p,kids,arms⟩) :
  Calls Tryz.prog 44 #[.agg #[.int .u8 kd,.string ⟨nm.toArray⟩,q.a,q.l,q.c,.slice PA ps.length pc,.slice CA cs.length cc,.bool rc,.int .u8 k,.string ⟨s.toArray⟩,n,p.a,p.l,p.c,.slice A kids.len c,.slice B arms.len bc]] w (qi (dcMay ⟨kd,nm,q,ps,cs,rc,k,s,n,p,kids,arms⟩) w):=by
 have HD:Hid (∀ W,Bel w W->Calls Tryz.prog 81 #[.agg #[.int .u8 kd,.string ⟨nm.toArray⟩,q.a,q.l,q.c,.slice PA ps.length pc,.slice CA cs.length cc,.bool rc,.int .u8 k,.string ⟨s.toArray⟩,n,p.a,p.l,p.c,.slice A kids.len c,.slice B arms.len bc]] W (qi (daMay ⟨kd,nm,q,ps,cs,rc,k,s,n,p,kids,arms⟩) W)):=hid fun W hW=>qac kd nm q PA pc ps CA cc cs rc k s n p A c B bc kids arms W (hp.bel qR hW) (hc.bel qv hW) (hk.bel hW) (ha.bel hW) hg (ht.bel hW) hi;have HTK:Hid (∀ W,Bel w W->Calls Tryz.prog 82 #[tokV 1 ⟨nm.toArray⟩] W (qi (mtB (1,nm,0)) W)):=hid fun W hW=>ja 1 nm 0 ⟨0,0,0⟩ W (ht.bel hW) hi.1 (by decide) (by decide);have HX:Hid (∀ (g:Nat) (t:TypeId) (W:World),Bel w W->W.heap[g]?=some (.cells #[.int .u8 k,.string ⟨s.toArray⟩,n,p.a,p.l,p.c,.slice A kids.len c,.slice B arms.len bc] t (0,0)) →
   Calls Tryz.prog 48 #[.int .i64 60,.slice (some ⟨g,0,none⟩) 1 1,.func (.func 28) #[] #[],.func (.func 49) #[] #[]] W (qi (((Tr.nod k s n p kids arms .nil).pre 0).all (zc (hdX hEf hPf) 60)) W)):=hid fun g t W hW h1=>by
  have e1:=zQ (sh:= .ex) (by intro e;cases e) hk (.inl ⟨rfl,ha⟩) hW h1;exact ZD 60 _ 1 1 _ W e1 (by have:=hg.2.2.1;simp only[Tr.size];omega) (by decide) (ht.bel hW) hi.2.2.2
 obtain⟨r,hr⟩:∃ r,r=dcMay ⟨kd,nm,q,ps,cs,rc,k,s,n,p,kids,arms⟩:=⟨_,rfl⟩
 rw[<- hr];obtain⟨rd,hrd⟩:∃ r,r=daMay ⟨kd,nm,q,ps,cs,rc,k,s,n,p,kids,arms⟩:=⟨_,rfl⟩
 obtain⟨rx,hrx⟩:∃ r,r=((Tr.nod k s n p kids arms .nil).pre 0).all (zc (hdX hEf hPf) 60):=⟨_,rfl⟩
 obtain⟨rt,hrt⟩:∃ r,r=mtB (1,nm,0):=⟨_,rfl⟩
 have HR:Hid (r=(if kd=1 then rd else if kd=2 then rt&&decide (ps.length=0)&&decide (cs.length=0)&&rx else false)):=hid (by rw[hr,hrd,hrt,hrx];rfl);have hcl:=hg.1;have hpl:=hg.2.1;rw[<- hrd]at HD;rw[<- hrx]at HX;rw[<- hrt]at HTK;obtain⟨kl,hl1⟩:∃ l,l=kids.len:=⟨_,rfl⟩
 obtain⟨al,hl3⟩:∃ l,l=arms.len:=⟨_,rfl⟩
 obtain⟨pl,hl5⟩:∃ l,l=ps.length:=⟨_,rfl⟩
 obtain⟨cl,hl7⟩:∃ l,l=cs.length:=⟨_,rfl⟩
 obtain⟨S,hS⟩:∃ S:ByteArray,S=⟨s.toArray⟩:=⟨_,rfl⟩
 obtain⟨NM,hNM⟩:∃ S:ByteArray,S=⟨nm.toArray⟩:=⟨_,rfl⟩
 rw[<- hl5,<- hl7]at HR;rw[<- hl5]at hpl;rw[<- hl7]at hcl;rw[<- hl1,<- hl3,<- hS]at HX;rw[<- hNM]at HTK;rw[<- hl1,<- hl3,<- hl5,<- hl7,<- hS,<- hNM]at HD ⊢;clear hp hc hk ha hg ht hi hr hrd hrx hrt hl1 hl3 hl5 hl7 hS hNM;have HB1:=hid ((Bel.refl w).alloc (.cells #[.int .u8 kd,NM,q.a,q.l,q.c,.slice PA pl pc,.slice CA cl cc,.bool rc,.int .u8 k,S,n,p.a,p.l,p.c,.slice A kl c,.slice B al bc] 34));by_cases h1:kd=1
 ·subst h1
  obtain rfl:r=rd:=by rw[HR.out];rfl
  clear HTK HX HR;go_enter Tryz.func44,Tryz.ntmps44
  go_wp2_with fail
  refine (HD.out _ HB1.out).mono ?_;rintro e w5 ⟨rfl,hb5⟩;have HB5:=hid (HB1.out.on hb5);clear hb5;go_wp2_with fail
  go_ret
  exact⟨rfl,HB5.out⟩
 have k1:(kd==1)=false:=by simpa using h1
 by_cases h2:kd=2
 case neg=>
  obtain rfl:r=false:=by rw[HR.out,if_neg h1,if_neg h2]
  have k2:(kd==2)=false:=by simpa using h2
  clear HTK HX HR HD h1 h2;go_enter Tryz.func44,Tryz.ntmps44
  go_wp2_with fail
  go_ret
  exact⟨rfl,HB1.out⟩
 subst h2;have HR2:Hid (r=(rt&&decide (pl=0)&&decide (cl=0)&&rx)):=hid (by rw[HR.out,if_neg (by decide),if_pos rfl]);clear HR HD h1 k1;have hq1:=blk1 w (.cells #[.int .u8 2,NM,q.a,q.l,q.c,.slice PA pl pc,.slice CA cl cc,.bool rc,.int .u8 k,S,n,p.a,p.l,p.c,.slice A kl c,.slice B al bc] 34);go_enter Tryz.func44,Tryz.ntmps44
 go_wp2_with fail
 obtain⟨w1,hw1⟩:∃ w1,w1=w.alloc (.cells #[.int .u8 2,NM,q.a,q.l,q.c,.slice PA pl pc,.slice CA cl cc,.bool rc,.int .u8 k,S,n,p.a,p.l,p.c,.slice A kl c,.slice B al bc] 34):=⟨_,rfl⟩
 rw[<- hw1]at HB1 hq1 ⊢;have HQ1:=hid hq1;clear hq1 hw1;refine (qW _ _).mono ?_;rintro e w5 ⟨rfl,hb5⟩;have HB5:=hid hb5;clear hb5;go_wp2_with fail
 refine (HTK.out _ (HB1.out.on HB5.out)).mono ?_;rintro e w6 ⟨rfl,hb6⟩;have HB6:=hid (HB5.out.on hb6);clear hb6 HTK;cases rt
 ·obtain rfl:r=false:=by rw[HR2.out];simp
  go_wp2_with fail
  go_ret
  exact⟨rfl,HB1.out.on HB6.out⟩
 have hq6:=HB6.out.blk HQ1.out;obtain⟨x5,x6'⟩:=Zz hq6;obtain⟨x6,x7,x8,x9,x10,x11,x12,x13,x14,x15⟩:=Zr hq6;have kb:w.heap.size<w6.heap.size:=(Array.getElem?_eq_some_iff.1 hq6).1;clear hq6 x5;by_cases hp0:pl=0
 case neg=>
  obtain rfl:r=false:=by rw[HR2.out];simp[hp0]
  have e0:((pl:Int)==0)=false:=by simp;omega
  go_wp2_with fail
  go_ret
  exact⟨rfl,HB1.out.on HB6.out⟩
 subst hp0;by_cases hc0:cl=0
 case neg=>
  obtain rfl:r=false:=by rw[HR2.out];simp[hc0]
  have e0:((cl:Int)==0)=false:=by simp;omega
  go_wp2_with fail
  go_ret
  exact⟨rfl,HB1.out.on HB6.out⟩
 subst hc0;obtain rfl:r=rx:=by rw[HR2.out];simp
 have q4:=blk1 w6 (.cells #[.int .u8 k,S,n,p.a,p.l,p.c,.slice A kl c,.slice B al bc] 32);have HC2:=hid (HX.out w6.heap.size _ _ ((HB1.out.on HB6.out).alloc _) q4);have HB7:=hid (HB6.out.alloc (.cells #[.int .u8 k,S,n,p.a,p.l,p.c,.slice A kl c,.slice B al bc] 32));clear q4 HX;go_wp2_with fail
 refine HC2.out.mono ?_;rintro e w7 ⟨rfl,hb7⟩;have HB8:=hid (HB7.out.on hb7);clear hb7 x6 x6' x7 x8 x9 x10 x11 x12 x13 x14 x15 kb;go_wp2_with fail
 go_ret
 exact⟨rfl,HB1.out.on HB8.out⟩
end Go.Proofs.YtlmmaoobembadaaGreatDoor.Mu
namespace Go.Proofs.YtlmmaoobembadaaGreatDoor.Mu
open Go Go.RowKit Go.Shelf
set_option linter.unusedVariables false
set_option maxRecDepth 100000
def Dc.mok(x:Dc):Prop:=(x.tr.isNods/\x.tr.ok/\x.tr.barep)/\∀ c∈x.cs,∀ f∈c.fs,f.tr.bare
theorem RowOf.mem{α:Type}{sz:Nat}{At:World->(Nat->Prop)->Nat->Nat->α->Prop}{w:World}{Ok:Nat->Prop}{A:Option Addr}{n c:Nat}{xs:List α}(h:RowOf sz At w Ok A n c xs){x:α}(hx:x∈xs):∃ b o,At w Ok b o x:=by
 obtain⟨i,hi⟩:=List.getElem?_of_mem hx;have hn:=h.1;have:=(List.getElem?_eq_some_iff.1 hi).1;obtain⟨b,o,_,_,ha⟩:=h.2.2 (by omega);exact⟨b,_,ha i x hi⟩
theorem DcAt.mok{w:World}{Ok:Nat->Prop}{b o:Nat}{x:Dc}(h:DcAt w Ok b o x):x.mok:=by
 obtain⟨_,_,_,_,_,_,⟨CA,cc,_,hc⟩,_,ht⟩:=h;refine⟨⟨TrAt.isNods (by intro e;cases e) _ _ _ ht,TrAt.ok _ _ _ _ ht,TrAt.barep _ _ _ _ (.inl rfl) ht⟩,fun c hcm f hf=>?_⟩;obtain⟨b2,o2,_,_,_,_,A,c2,_,hfs⟩:=hc.mem hcm;obtain⟨b3,o3,_,ht3⟩:=hfs.mem hf;exact TrAt.bare (.inr rfl) _ _ _ ht3
theorem Z7{t:Int × List UInt8 × Int}(h:mtB t=true):qA t:=by simpa [mtB] using h
theorem qgh{f:Fd}(h:fdMay f=true)(hb:f.tr.bare):f.tr.mayP hTf=true:=by
 unfold fdMay at h;rw[Bool.and_eq_true,Tr.pre_mayP hTf f.tr 60 0 hb]at h;unfold zf at h;rw[Bool.and_eq_true]at h;exact h.2.1
theorem qbj:∀ fs:List Fd,(∀ f∈fs,fdMay f=true/\f.tr.bare)->AllM (fdsK fs)
 | [],_=>AllM.nil
 | f::fs,h=>by
  obtain⟨h1,h2⟩:=h f (List.mem_cons_self ..);have ht:=Q7 f.tr [] (qgh h1 h2) AllM.nil;have e:f.tr.tyK []=brkL (alnT f.k f.kids.len) (zI f.k f.s f.n f.kids):=by
   show (Tr.nod f.k f.s f.n f.p f.kids .nil .nil).tyK []=_
   rw[Jk];simp[Tr.tyK]
  rw[e]at ht;exact (AllM.cons qcd ht).app (qbj fs fun g hg=>h g (List.mem_cons_of_mem _ hg))
theorem Js:∀ (cs:List Cd) (ah:List UInt8),qA (tk0 5 ah 0).b->(∀ c∈cs,cdMay c=true/\∀ f∈c.fs,f.tr.bare)->AllM (QJ ah cs)
 | [],_,_,_=>AllM.nil
 | c::cs,ah,hah,h=>by
  obtain⟨h1,h2⟩:=h c (List.mem_cons_self ..);unfold cdMay at h1;rw[Bool.and_eq_true,List.all_eq_true]at h1;exact ((hah |> AllM.cons) ((Z7 h1.2 |> AllM.cons (t:=tk0 2 c.nm 0)) (qbj c.fs fun f hf=>⟨h1.1 f hf,h2 f hf⟩))).app (Js cs [124] (Ql _ (by simp)) fun d hd=>h d (List.mem_cons_of_mem _ hd))
theorem qdF:∀ ps:List (List UInt8),(∀ s∈ps,mtB (1,s,0)=true)->AllM (psK ps)
 | [],_=>AllM.nil
 | s::ps,h=>AllM.cons (t:=tk0 1 s 0) (Z7 (h s (List.mem_cons_self ..))) (qdF ps fun t ht=>h t (List.mem_cons_of_mem _ ht))
theorem qgg{x:Dc}(h:(x.tr.pre 0).all (zc (hdX hEf hPf) 60)=true)(hm:x.mok):x.tr.mayE hEf hPf=true:=by
 rw[(Tr.pre_mayE hEf hPf x.tr 60 0 hm.1.2.1 hm.1.2.2).1 hm.1.1]at h;unfold zf at h;rw[Bool.and_eq_true]at h;exact h.1
theorem qbf{x:Dc}(h:daMay x=true):(∀ s∈x.ps,mtB (1,s,0)=true)/\(∀ c∈x.cs,cdMay c=true)/\mtB (2,x.nm,0)=true/\0<x.cs.length/\x.rc=false/\x.tr.same qe5=true:=by
 unfold daMay at h;simp only[Bool.and_eq_true,List.all_eq_true,decide_eq_true_eq,Bool.not_eq_true']at h;exact⟨h.1.1.1.1.1,h.1.1.1.1.2,h.1.1.1.2,h.1.1.2,h.1.2,h.2⟩
theorem qbg{x:Dc}(h:dcMay x=true):(x.kd=1/\daMay x=true)∨(x.kd=2/\mtB (1,x.nm,0)=true/\x.ps=[]/\x.cs=[]/\(x.tr.pre 0).all (zc (hdX hEf hPf) 60)=true):=by
 unfold dcMay at h;by_cases h1:x.kd=1
 ·rw[if_pos h1]at h
  exact .inl ⟨h1,h⟩
 rw[if_neg h1]at h;by_cases h2:x.kd=2
 ·rw[if_pos h2]at h
  simp only[Bool.and_eq_true,decide_eq_true_eq]at h;exact .inr ⟨h2,h.1.1.1,List.length_eq_zero_iff.1 h.1.1.2,List.length_eq_zero_iff.1 h.1.2,h.2⟩
 ·rw[if_neg h2]at h
  cases h
theorem qgR{x:Dc}(h:dcMay x=true)(hm:x.mok):AllM (dcK x):=by
 unfold dcK;rcases qbg h with ⟨e,h⟩ | ⟨e,hn,_,_,h⟩
 ·rw[if_pos e]
  obtain⟨h1,h2,h3,_⟩:=qbf h;exact (AllM.kw (by simp) (AllM.cons (t:=tk0 2 x.nm 0) (Z7 h3) (qdF x.ps h1))).app (Js x.cs [61] (Ql kwEq (by simp)) fun c hc=>⟨h2 c hc,hm.2 c hc⟩)
 ·rw[if_neg (by rw[e];decide)]
  have h4:=qM x.tr 0 [] (qgg h hm) AllM.nil;have e4:x.tr.exK 0 []=qu x.k x.s x.n x.kids x.arms:=zG x.k x.s x.n x.ep x.kids x.arms;rw[e4]at h4;refine ((AllM.app (F:=zA::(if x.rc then [jJ] else [])) (AllM.kw (by simp) ?_) (AllM.cons (t:=tk0 1 x.nm 0) (Z7 hn) (AllM.kw (by simp) AllM.nil)))).app h4;split
  ·exact AllM.kw (by simp) AllM.nil
  ·exact AllM.nil
theorem qii{x:Dc}(h:dcMay x=true)(hm:x.mok)(hg:x.good):x.shw:=by
 unfold Dc.shw;rcases qbg h with ⟨e,h⟩ | ⟨e,hn,_,_,h⟩
 ·rw[if_pos e]
  obtain⟨_,h2,_⟩:=qbf h;intro c hc;have hgc:=hg.2.2.2 c hc;refine⟨hgc.1,fun f hf=>⟨by have:=hgc.2 f hf;unfold Fd.good at this;omega,?_⟩⟩;have h3:=h2 c hc;unfold cdMay at h3;rw[Bool.and_eq_true,List.all_eq_true]at h3;exact qaF _ (qgh (h3.1 f hf) (hm.2 c hc f hf))
 ·rw[if_neg (by rw[e];decide)]
  exact QW _ (qgg h hm)
theorem qbi:∀ fs:List Fd,(∀ f∈fs,f.ints)->FitL (fdsK fs)
 | [],_=>FitL.nil
 | f::fs,h=>by
  have ht:=Jj f.tr [] (h f (List.mem_cons_self ..)) FitL.nil;have e:f.tr.tyK []=brkL (alnT f.k f.kids.len) (zI f.k f.s f.n f.kids):=by
   show (Tr.nod f.k f.s f.n f.p f.kids .nil .nil).tyK []=_
   rw[Jk];simp[Tr.tyK]
  rw[e]at ht;exact (FitL.cons (qcc _) ht).app (qbi fs fun g hg=>h g (List.mem_cons_of_mem _ hg))
theorem qbk{k:Int}{s:List UInt8}(h:s.length<=140737488355328):fitN (tk0 k s 0).s (tk0 k s 0).n:=⟨h,(by decide:(-9223372036854775808:Int)<=0),(by decide:(0:Int)<=9223372036854775807)⟩
theorem Jr:∀ (cs:List Cd) (ah:List UInt8),ah.length<=100->(∀ c∈cs,c.nm.length<=140737488355328/\∀ f∈c.fs,f.ints)->FitL (QJ ah cs)
 | [],_,_,_=>FitL.nil
 | c::cs,ah,hah,h=>by
  obtain⟨h1,h2⟩:=h c (List.mem_cons_self ..);exact ((FitL.kw hah) ((FitL.cons (qbk h1)) (qbi c.fs h2))).app (Jr cs [124] (by simp) fun d hd=>h d (List.mem_cons_of_mem _ hd))
theorem qdE:∀ ps:List (List UInt8),(∀ s∈ps,s.length<=140737488355328)->FitL (psK ps)
 | [],_=>FitL.nil
 | s::ps,h=>FitL.cons (qbk (h s (List.mem_cons_self ..))) (qdE ps fun t ht=>h t (List.mem_cons_of_mem _ ht))
theorem qgQ{x:Dc}(h:x.ints):FitL (dcK x):=by
 obtain⟨h1,h2,h3,h4⟩:=h;unfold dcK;split
 ·exact (FitL.kw (by simp) (FitL.cons (qbk h1) (qdE x.ps h2))).app (Jr x.cs [61] (by simp) h3)
 ·have h5:=zr x.tr 0 [] h4 FitL.nil
  have e5:x.tr.exK 0 []=qu x.k x.s x.n x.kids x.arms:=zG x.k x.s x.n x.ep x.kids x.arms;rw[e5]at h5;refine ((FitL.app (F:=zA::(if x.rc then [jJ] else [])) (FitL.kw (by simp) ?_) (FitL.cons (qbk h1) (FitL.kw (by simp) FitL.nil)))).app h5;split
  ·exact FitL.kw (by simp) FitL.nil
  ·exact FitL.nil
def dsK:List Dc->List Tn
 | []=>[]
 | x::xs=>dcK x++dsK xs
theorem qfh{xs:List Dc}{j:Nat}{x:Dc}(h:xs[j]?=some x):dsK (xs.drop j)=dcK x++dsK (xs.drop (j+1)):=by
 obtain⟨h1,h2⟩:=List.getElem?_eq_some_iff.1 h;rw[List.drop_eq_getElem_cons h1,h2];rfl
theorem J7:∀ xs:List Dc,(∀ x∈xs,dcMay x=true/\x.mok)->AllM (dsK xs)
 | [],_=>AllM.nil
 | x::xs,h=>(qgR (h x (List.mem_cons_self ..)).1 (h x (List.mem_cons_self ..)).2).app (J7 xs fun y hy=>h y (List.mem_cons_of_mem _ hy))
theorem qc9:∀ xs:List Dc,(∀ x∈xs,x.ints)->FitL (dsK xs)
 | [],_=>FitL.nil
 | x::xs,h=>(qgQ (h x (List.mem_cons_self ..))).app (qc9 xs fun y hy=>h y (List.mem_cons_of_mem _ hy))
noncomputable def tlO (xs:List Dc):List UInt8 × Int:=if xs.all dcMay then wrO ((dsK xs).map Tn.b) else ([],2)
def p00:Pl:=⟨0,0,0⟩
def tO(k:Int)(s:List UInt8)(kids r:Tr):Tr:= .nod k s 0 p00 kids .nil r
def tN(s:List UInt8)(r:Tr):Tr:=tO 1 s .nil r
def t1(r:Tr):Tr:= .nod 2 [] 1 p00 .nil .nil r
def kGx:Tr:=tN [103] (tN [120] .nil)
def kFg:Tr:=tN [102] (tO 5 [] kGx .nil)
def kSum:Tr:=tO 5 [] kFg (t1 .nil)
def kCn:Tr:=tN [120] (tO 9 [78,105,108] .nil .nil)
def kLam:Tr:=tO 9 [67,111,110,115] kCn .nil
def kAx:Tr:=tO 9 [65] .nil (tN [120] .nil)
def kX:Tr:=tN [120] .nil
theorem jK(s:List UInt8)(big:Bool)(h:(decide (s≠[])&&decide (s.length<=24)&&s.all (fun u=>isW (u.toNat:Int))&&(if big then isGr ((asc s).headD 0) else isSm ((asc s).headD 0))&&decide (s ∉ zw)&&decide (s ∉ zE))=true):qb9 s big:=by
 simp only[Bool.and_eq_true,decide_eq_true_eq,List.all_eq_true]at h;refine⟨h.1.1.1.1.1,h.1.1.1.1.2,h.1.1.1.2,?_,h.1.2,h.2⟩;cases big
 ·simpa using h.1.1.2
 ·simpa using h.1.1.2
theorem Z8(s:List UInt8)(h:qb9 s false):mtB (1,s,0)=true:=by unfold mtB;simp only[decide_eq_true_eq];exact .inl ⟨rfl,h,rfl⟩
theorem JE(s:List UInt8)(h:qb9 s true):mtB (2,s,0)=true:=by unfold mtB;simp only[decide_eq_true_eq];exact .inr (.inl ⟨rfl,h,rfl⟩)
theorem qiy:mtB (3,[],1)=true:=by unfold mtB;simp only[decide_eq_true_eq];exact .inr (.inr (.inl ⟨rfl,by decide,by decide,rfl⟩))
theorem qhn:mtB (5,[43],0)=true:=by unfold mtB;simp only[decide_eq_true_eq];exact .inr (.inr (.inr (.inr (.inl ⟨rfl,.inr (by decide +kernel),rfl⟩))))
theorem n_f:mtB (1,[102],0)=true:=Z8 _ (jK _ _ (by decide +kernel))
theorem n_g:mtB (1,[103],0)=true:=Z8 _ (jK _ _ (by decide +kernel))
theorem n_x:mtB (1,[120],0)=true:=Z8 _ (jK _ _ (by decide +kernel))
theorem n_a:mtB (1,[97],0)=true:=Z8 _ (jK _ _ (by decide +kernel))
theorem c_A:mtB (2,[65],0)=true:=JE _ (jK _ _ (by decide +kernel))
theorem c_T:mtB (2,[84],0)=true:=JE _ (jK _ _ (by decide +kernel))
theorem qiO:mtB (2,[78,105,108],0)=true:=JE _ (jK _ _ (by decide +kernel))
theorem qie:mtB (2,[67,111,110,115],0)=true:=JE _ (jK _ _ (by decide +kernel))
theorem qif:mtB (2,[76,105,115,116],0)=true:=JE _ (jK _ _ (by decide +kernel))
theorem qi7:mtB (1,[108,101,116],0)=false:=by
 unfold mtB;simp only[decide_eq_false_iff_not];rintro (⟨_,h,_⟩ | ⟨h,_⟩ | ⟨h,_⟩ | ⟨h,_⟩ | ⟨h,_⟩ | ⟨h,_⟩)
 ·exact h.2.2.2.2.1 (by decide +kernel)
 ·exact absurd h (by decide)
 ·exact absurd h (by decide)
 ·exact absurd h (by decide)
 ·exact absurd h (by decide)
 ·exact absurd h (by decide)
theorem kN(s:List UInt8)(r:Tr)(h:mtB (1,s,0)=true):(tN s r).mayE hEf hPf=r.mayE hEf hPf:=by
 have e:hEf 1 s 0 0 0=true:=by simp[hEf,exR,keepB,h]
 simp[tN,tO,Tr.mayE,Tr.len,e]
theorem kA(kids r:Tr)(h:kids.len=2):(tO 5 [] kids r).mayE hEf hPf=(kids.mayE hEf hPf&&r.mayE hEf hPf):=by
 have e:hEf 5 [] 0 2 0=true:=by simp[hEf,exR,keepB]
 simp[tO,Tr.mayE,Tr.len,h,e]
theorem kC(s:List UInt8)(kids r:Tr)(h:mtB (2,s,0)=true):(tO 9 s kids r).mayE hEf hPf=(kids.mayE hEf hPf&&r.mayE hEf hPf):=by
 have e:hEf 9 s 0 kids.len 0=true:=by simp[hEf,exR,keepB,h]
 simp[tO,Tr.mayE,Tr.len,e]
theorem kL(s:List UInt8)(kids r:Tr)(h:mtB (1,s,0)=true)(hl:kids.len=1):(tO 4 s kids r).mayE hEf hPf=(kids.mayE hEf hPf&&r.mayE hEf hPf):=by
 have e:hEf 4 s 0 1 0=true:=by simp[hEf,exR,keepB,h]
 simp[tO,Tr.mayE,Tr.len,hl,e]
theorem kP(kids r:Tr)(hl:kids.len=2):(tO 10 [43] kids r).mayE hEf hPf=(kids.mayE hEf hPf&&r.mayE hEf hPf):=by
 have b:btwB [43]=true:=by decide +kernel
 have e:hEf 10 [43] 0 2 0=true:=by simp[hEf,exR,keepB,b,qhn]
 simp[tO,Tr.mayE,Tr.len,hl,e]
theorem kI(r:Tr):(t1 r).mayE hEf hPf=r.mayE hEf hPf:=by
 have e:hEf 2 [] 1 0 0=true:=by simp[hEf,exR,keepB,qiy]
 simp[t1,Tr.mayE,Tr.len,e]
theorem qiw:(tO 10 [43] kSum .nil).mayE hEf hPf=true:=by
 rw[kP _ _ rfl,kSum,kA _ _ rfl,kFg,kN _ _ n_f,kA _ _ rfl,kGx,kN _ _ n_g,kN _ _ n_x,kI];rfl
theorem qiv:(tO 4 [120] kLam .nil).mayE hEf hPf=true:=by
 rw[kL _ _ _ n_x rfl,kLam,kC _ _ _ qie,kCn,kN _ _ n_x,kC _ _ _ qiO];rfl
theorem m_ax:(tO 5 [] kAx .nil).mayE hEf hPf=true:=by
 rw[kA _ _ rfl,kAx,kC _ _ _ c_A,kN _ _ n_x];rfl
theorem m_a:(tO 9 [65] kX .nil).mayE hEf hPf=true:=by
 rw[kC _ _ _ c_A,kX,kN _ _ n_x];rfl
theorem Zj{F:List Tn}{s:List UInt8}(h:AllM F)(e:qt (F.map Tn.b)=s)(hl:s.length<=4000):wrO (F.map Tn.b)=(s,0):=by
 unfold wrO;rw[if_pos (fun t ht=>by obtain⟨x,hx,rfl⟩:=List.mem_map.1 ht;exact h x hx),e,if_pos hl]
theorem qjc:wrO ((qu 10 [43] 0 kSum .nil).map Tn.b)=([40,32,102,32,40,32,103,32,120,32,41,32,41,32,43,32,49],0):=by
 have h:=qM _ 0 [] qiw AllM.nil;have e:(tO 10 [43] kSum .nil).exK 0 []=qu 10 [43] 0 kSum .nil:=zG 10 [43] 0 p00 kSum .nil;rw[e]at h;exact Zj h (by decide +kernel) (by decide)
theorem qjb:wrO ((qu 4 [120] 0 kLam .nil).map Tn.b)=([92,32,120,32,45,62,32,67,111,110,115,32,120,32,78,105,108],0):=by
 have h:=qM _ 0 [] qiv AllM.nil;have e:(tO 4 [120] kLam .nil).exK 0 []=qu 4 [120] 0 kLam .nil:=zG 4 [120] 0 p00 kLam .nil;rw[e]at h;exact Zj h (by decide +kernel) (by decide)
theorem w_ax:wrO ((qu 5 [] 0 kAx .nil).map Tn.b)=([40,32,65,32,41,32,120],0):=by
 have h:=qM _ 0 [] m_ax AllM.nil;have e:(tO 5 [] kAx .nil).exK 0 []=qu 5 [] 0 kAx .nil:=zG 5 [] 0 p00 kAx .nil;rw[e]at h;exact Zj h (by decide +kernel) (by decide)
theorem w_a:wrO ((qu 9 [65] 0 kX .nil).map Tn.b)=([65,32,120],0):=by
 have h:=qM _ 0 [] m_a AllM.nil;have e:(tO 9 [65] kX .nil).exK 0 []=qu 9 [65] 0 kX .nil:=zG 9 [65] 0 p00 kX .nil;rw[e]at h;exact Zj h (by decide +kernel) (by decide)
theorem qje:(Tr.nod 5 [] 0 p00 (t1 .nil) .nil .nil).mayE hEf hPf=false:=by
 have e:hEf 5 [] 0 1 0=false:=by simp[hEf,exR,keepB]
 simp[t1,Tr.mayE,Tr.len,e]
theorem qjf:(Tr.nod 1 [108,101,116] 0 p00 .nil .nil .nil).mayE hEf hPf=false:=by
 have e:hEf 1 [108,101,116] 0 0 0=false:=by simp[hEf,exR,keepB,qi7]
 simp[Tr.mayE,Tr.len,e]
theorem qiJ:(Tr.nod 8 [] 0 p00 (t1 .nil) .nil .nil).mayE hEf hPf=false:=by
 have e:hEf 8 [] 0 1 0=false:=by simp[hEf,exR,keepB]
 simp[t1,Tr.mayE,Tr.len,e]
def kLa:Tr:= .nod 1 [97] 0 p00 .nil .nil .nil
def kD:Dc:=⟨1,[84],p00,[[97]],[⟨[65],p00,[⟨1,2,[76,105,115,116],0,p00,kLa⟩,⟨2,1,[97],0,p00,.nil⟩]⟩],false,0,[],0,p00,.nil,.nil⟩
theorem qih:dcMay kD=true:=by
 have h1:hTf 1 [97] 0 0=true:=by simp[hTf,tyR,keepB,n_a]
 have h2:hTf 2 [76,105,115,116] 0 1=true:=by simp[hTf,tyR,keepB,qif]
 have m1:mltB 1=true:=by decide
 have m2:mltB 2=true:=by decide
 have sz:(Dc.tr kD).same qe5=true:=by decide +kernel
 have f1:fdMay ⟨1,2,[76,105,115,116],0,p00,kLa⟩=true:=by
  simp[fdMay,m1,Fd.tr,kLa,Tr.pre,zc,hdP,h1,h2,Tr.len]
 have f2:fdMay ⟨2,1,[97],0,p00,.nil⟩=true:=by
  simp[fdMay,m2,Fd.tr,Tr.pre,zc,hdP,h1,Tr.len]
 have e:dcMay kD=daMay kD:=rfl;rw[e];unfold daMay;rw[sz];simp[kD,n_a,c_T,cdMay,f1,f2,c_A]
theorem qiQ:kD.mok:=by
 refine⟨⟨trivial,⟨trivial,trivial,trivial,trivial,trivial⟩,⟨trivial,trivial,trivial⟩⟩,fun c hc f hf=>?_⟩;simp only[kD,List.mem_singleton]at hc;subst hc;simp only[List.mem_cons,List.not_mem_nil,or_false]at hf;rcases hf with rfl | rfl
 ·exact⟨rfl,⟨rfl,trivial,trivial⟩,trivial⟩
 ·exact⟨rfl,trivial,trivial⟩
theorem w_d:tlO [kD]=([100,97,116,97,32,84,32,97,32,61,32,65,32,49,32,40,32,76,105,115,116,32,97,32,41,32,63,32,97],0):=by
 unfold tlO;rw[if_pos (by simp[qih])];exact Zj (J7 [kD] (fun x hx=>by rw[List.mem_singleton.1 hx];exact⟨qih,qiQ⟩)) (by decide +kernel) (by decide)
end Go.Proofs.YtlmmaoobembadaaGreatDoor.Mu
namespace Go.Proofs.YtlmmaoobembadaaGreatDoor.Mu
open Go Go.RowKit Go.Shelf
attribute [local go_sem] Oper.semAt_some
set_option linter.unusedVariables false
set_option maxRecDepth 100000
theorem qdr{w:World}{g:Nat}{x0 x1 x2 x3 x4 x5 x6 x7:Value}(h:w.heap[g]?=some (.cells #[x0,x1,x2,x3,x4,x5,x6,x7] 32 (0,0))):(loadVar 32 ⟨g,0,none⟩).run Tryz.prog w=.ok (.agg #[x0,x1,x2,x3,x4,x5,x6,x7]) w:=by
 have c0:w.cell? ⟨g,0,none⟩=some x0:=by simp[World.cell?,h]
 have c1:w.cell? ⟨g,1,none⟩=some x1:=by simp[World.cell?,h]
 have c2:w.cell? ⟨g,2,none⟩=some x2:=by simp[World.cell?,h]
 have c3:w.cell? ⟨g,3,none⟩=some x3:=by simp[World.cell?,h]
 have c4:w.cell? ⟨g,4,none⟩=some x4:=by simp[World.cell?,h]
 have c5:w.cell? ⟨g,5,none⟩=some x5:=by simp[World.cell?,h]
 have c6:w.cell? ⟨g,6,none⟩=some x6:=by simp[World.cell?,h]
 have c7:w.cell? ⟨g,7,none⟩=some x7:=by simp[World.cell?,h]
 simp[loadVar,go_sem,c0,c1,c2,c3,c4,c5,c6,c7]
theorem qU(S:ByteArray)(w:World):Calls Tryz.prog 24 #[.string S] w fun e w'=>e=.returned (.agg #[.int .u8 1,S,(0:Int),(0:Int),(0:Int),(0:Int),.slice none 0 0,.slice none 0 0])/\Bel w w':=by
 go_enter Tryz.func24,Tryz.ntmps24
 go_wp2_with fail
 have hb:Bel w (w.alloc (.cells #[.int .u8 1,S,(0:Int),(0:Int),(0:Int),(0:Int),.slice none 0 0,.slice none 0 0] 32)):=(Bel.refl w).alloc _;have hq:=qdr (blk1 w (.cells #[.int .u8 1,S,(0:Int),(0:Int),(0:Int),(0:Int),.slice none 0 0,.slice none 0 0] 32))
 (try simp only[Exit.inBlock,Exit.then])
 refine bodyPost_ret (qf (v:= .agg #[.int .u8 1,S,(0:Int),(0:Int),(0:Int),(0:Int),.slice none 0 0,.slice none 0 0]) rfl _ _ _ rfl hq) rfl ?_;exact⟨rfl,hb⟩
theorem qP(k:Int)(S:ByteArray)(A:Option Addr)(l c:Nat)(w:World):Calls Tryz.prog 23 #[.int .u8 k,S,.slice A l c] w fun e w'=>e=.returned (.agg #[.int .u8 k,S,(0:Int),(0:Int),(0:Int),(0:Int),.slice A l c,.slice none 0 0])/\Bel w w':=by
 go_enter Tryz.func23,Tryz.ntmps23
 go_wp2_with fail
 have hb:Bel w (w.alloc (.cells #[.int .u8 k,S,(0:Int),(0:Int),(0:Int),(0:Int),.slice A l c,.slice none 0 0] 32)):=(Bel.refl w).alloc _;have hq:=qdr (blk1 w (.cells #[.int .u8 k,S,(0:Int),(0:Int),(0:Int),(0:Int),.slice A l c,.slice none 0 0] 32))
 (try simp only[Exit.inBlock,Exit.then])
 refine bodyPost_ret (qf (v:= .agg #[.int .u8 k,S,(0:Int),(0:Int),(0:Int),(0:Int),.slice A l c,.slice none 0 0]) rfl _ _ _ rfl hq) rfl ?_;exact⟨rfl,hb⟩
theorem QE(k:Int)(s:List UInt8)(n:Int)(A:Option Addr)(l c:Nat)(kids:Tr)(t:List UInt8)(w:World)(hk:KidsTr w (OldT w) .ex A l c kids)(hsz:kids.size<=1000)(hd:(Tr.nod k s n p00 kids .nil .nil).depth<=60)(ht:Tbl w)(hi:(Tr.nod k s n p00 kids .nil .nil).ints)(hm:(Tr.nod k s n p00 kids .nil .nil).mayE hEf hPf=true)(hw:wrO ((qu k s n kids .nil).map Tn.b)=(t,0)) :
  Calls Tryz.prog 25 #[.agg #[.int .u8 k,.string ⟨s.toArray⟩,n,(0:Int),(0:Int),(0:Int),.slice A l c,.slice none 0 0],.string ⟨t.toArray⟩] w (qi true w):=by
 have hl:=hk.1;subst hl;have ha:KidsTr w (OldT w) .arms none 0 0 .nil:=⟨rfl,Nat.le_refl _,fun h=>absurd h (by decide)⟩
 have hem:=ZT (k:=k) (s:=s) (n:=n) (p:=p00) (arms:= .nil) hk ha;rw[hm,decide_eq_true hd]at hem;have hO:txO k s n p00 kids .nil=(t,0):=by unfold txO;rw[hem,<- hw];rfl
 have HT:Hid (∀ W,Bel w W->Calls Tryz.prog 18 #[.agg #[.int .u8 k,.string ⟨s.toArray⟩,n,(0:Int),(0:Int),(0:Int),.slice A kids.len c,.slice none 0 0]] W fun e w'=>e=.returned (.tuple #[.string ⟨t.toArray⟩,(0:Int)])/\Bel W w'):=hid fun W hW=>by
  have h:=Qo k s n p00 A c none 0 kids .nil W (hk.bel hW) (ha.bel hW) (by simp only[Tr.size];omega) (ht.bel hW) hi;rw[hO]at h;exact h
 obtain⟨SS,hSS⟩:∃ S:ByteArray,S=⟨s.toArray⟩:=⟨_,rfl⟩
 obtain⟨ST,hST⟩:∃ S:ByteArray,S=⟨t.toArray⟩:=⟨_,rfl⟩
 obtain⟨kl,hkl⟩:∃ l,l=kids.len:=⟨_,rfl⟩
 rw[<- hSS,<- hST,<- hkl]at HT;rw[<- hSS,<- hST,<- hkl];clear hk hsz hd ht hi hm hw ha hem hO hSS hST hkl;have HB1:Hid (Bel w (w.alloc (.cells #[.int .u8 k,SS,n,(0:Int),(0:Int),(0:Int),.slice A kl c,.slice none 0 0] 32))):=hid ((Bel.refl w).alloc _);go_enter Tryz.func25,Tryz.ntmps25
 go_wp2_with fail
 refine (HT.out _ HB1.out).mono ?_;rintro e w3 ⟨rfl,hb3⟩;have HB3:=hid (HB1.out.on hb3);clear hb3 HT HB1;go_wp2_with fail
 go_ret
 exact⟨by simp,HB3.out⟩
end Go.Proofs.YtlmmaoobembadaaGreatDoor.Mu
namespace Go.Proofs.YtlmmaoobembadaaGreatDoor.Mu
open Go
set_option linter.unusedVariables false
section
variable {P : Program} {Q : Exit -> Act -> World -> Prop}
theorem qcH{l:List Oper}(I:Array Bool->Act->World->Prop)(hf:fwdB l.toArray l.length=true)
  (hstep:∀ listed a w i,listed.size=l.length->I listed a w->i<l.length->listed.getD i true=false->i∈Region.ready .any l.toArray listed->wpOp P l.toArray Q i (I (listed.setIfInBounds i true)) a w)
  (hend:∀ listed a w,I listed a w->(∀ i,i<l.length->listed.getD i false=true)->Q .normal a w) :
  ∀ (c:Nat) (listed:Array Bool) (a:Act) (w:World),cntG l.length listed=c->listed.size=l.length->I listed a w->wpAny P .any l.toArray Q c listed a w:=by
 intro c;induction c with
 | zero=>
  intro listed a w hc0 hsz hI;have hall:=Jq hc0;refine⟨List.eq_nil_iff_forall_not_mem.2 fun i hi=>?_,hend listed a w hI fun i hi=>?_⟩
  ·have h1:=(mem_ready.1 hi).1
   rcases Nat.lt_or_ge i l.length with h | h
   ·rw[hall i h]at h1;cases h1
   ·rw[Array.getD_eq_getD_getElem?,Array.getElem?_eq_none (by omega)]at h1
    cases h1
  ·have h1:=hall i hi
   have h2:i<listed.size:=by omega
   simp[h2]at h1 ⊢;exact h1
 | succ c ih=>
  intro listed a w hcc hsz hI;obtain⟨i0,hi0,hu0⟩:=qbc (show 0<cntG l.length listed by omega);refine⟨fun hr=>?_,fun i hi=>?_⟩
  ·exfalso
   have hmin:∃ i,i<l.length/\listed.getD i true=false/\∀ j,j<i->listed.getD j true=true:=by
    have key:∀ m,(∃ i,i<m/\listed.getD i true=false)->∃ i,i<m/\listed.getD i true=false/\∀ j,j<i->listed.getD j true=true:=by
     intro m;induction m with
     | zero=>rintro⟨i,hi,_⟩;omega
     | succ m ihm=>
      rintro⟨i,hi,hu⟩;by_cases hex:∃ i,i<m/\listed.getD i true=false
      ·obtain⟨i,hi,h⟩:=ihm hex
       exact⟨i,by omega,h⟩
      ·obtain rfl:i=m:=by
        by_cases e:i=m
        ·exact e
        ·exact absurd ⟨i,by omega,hu⟩ hex
       refine⟨i,hi,hu,fun j hj=>?_⟩;by_cases hb:listed.getD j true=true
       ·exact hb
       ·exact absurd ⟨j,hj,by simpa using hb⟩ hex
    exact key l.length ⟨i0,hi0,hu0⟩
   obtain⟨i,hi,hu,hless⟩:=hmin;have h:=JB hf hi hu hless (by omega);rw[hr]at h;cases h
  ·have hun:=(mem_ready.1 hi).1
   have hin:i<l.length:=by
    rcases Nat.lt_or_ge i l.length with h | h
    ·exact h
    ·rw[Array.getD_eq_getD_getElem?,Array.getElem?_eq_none (by omega)]at hun
     cases hun
   refine wpOp_mono (fun a' w' h'=>ih _ a' w' ?_ (by simpa using hsz) h') (hstep listed a w i hsz hI hin hun hi);have:=qbd hin (show i<listed.size by omega) hun;omega
theorem Zw{id:Nat}{l:List Oper}(a0:Act)(w0:World)(F:Nat->Value->World->Prop)(hm:P.follows .mixedOrders=true)(hf:fwdB l.toArray l.length=true)(hsl:qL l.toArray a0.tmps.size=true)
  (hmono:∀ i v w w',i<l.length->F i v w->Bel w w'->F i v w')
  (hstep:∀ i o,i<l.length->l.toArray[i]?=some o->∀ (a:Act) (w:World) (V:Nat->Value),Bel w0.drew w →
   (∀ e∈o.after,Region.binds .any e=true->F e.on (V e.on) w/\∀ d,(l.toArray[e.on]?).bind (·.dst)=some d->a.eval (.tmp d)=V e.on)->(∀ s,s<a0.tmps.size->qT l.toArray s=none->a.eval (.tmp s)=a0.eval (.tmp s)) →
   ∀ K:Act->World->Prop,(∀ v w',Bel w w'->F i v w'->K (a.put o.dst v) w')->(Region.wanted o (yielded l.toArray a.tmps)=true->Oper.wp P o a w K Q)/\(Region.wanted o (yielded l.toArray a.tmps)=false->F i undef w))
  (hend:∀ (V:Nat->Value) (w:World),Bel w0.drew w->(∀ i,i<l.length->F i (V i) w)->Q .normal (finA l.toArray l.length V a0) w) :
  (Code.region id l.toArray true).wp P Q a0 w0:=by
 refine wp_region_any hm ?_;have key:=qcH (P:=P) (Q:=Q) (l:=l) (fun listed a w=>listed.size=l.length/\Bel w0.drew w/\∃ (V:Nat->Value),Filled l.toArray listed V a0 a/\∀ i,i<l.length->listed.getD i false=true->F i (V i) w) hf ?_ ?_ l.length (Array.replicate l.length false) a0 w0.drew (Qu (by omega)) (by simp) ⟨by simp,Bel.refl _,fun _=>undef,⟨rfl,rfl,fun s hs=>by cases qT l.toArray s <;> simp only[getD_replicate_false,Bool.false_eq_true,if_false]⟩,fun i _ hi=>by rw[getD_replicate_false]at hi;cases hi⟩
 ·simpa using key
 ·rintro listed a w i hsz0 ⟨hsz,hbel,V,hfill,hF⟩ hin hun hr
  obtain⟨_,o,ho,hall⟩:=mem_ready.1 hr;have hKK:∀ v w',Bel w w'->F i v w'->(listed.setIfInBounds i true).size=l.length/\Bel w0.drew w'/\∃ (V:Nat->Value),Filled l.toArray (listed.setIfInBounds i true) V a0 (a.put o.dst v)/\∀ j,j<l.length->(listed.setIfInBounds i true).getD j false=true->F j (V j) w':=
   fun v w' hb hFi=>⟨by simpa using hsz,hbel.on hb,fun j=>if j=i then v else V j,hfill.put hsl ho (by omega) v,fun j hj hl=>by
    by_cases e:j=i
    ·subst e;simp only[if_true];exact hFi
    ·simp only[if_neg e]
     rw[getD_set_ne false (fun e'=>e e'.symm)]at hl;exact hmono j _ w w' hj (hF j hj hl) hb⟩
  have hK:=hstep i o hin ho a w V hbel (fun e he hb=>by
   have hl:=hall e he hb;have hen:e.on<l.length:=by
    rcases Nat.lt_or_ge e.on l.length with h | h
    ·exact h
    ·rw[Array.getD_eq_getD_getElem?,Array.getElem?_eq_none (by omega)]at hl
     cases hl
   exact⟨hF _ hen hl,fun d hd=>hfill.eval hsl hl hd⟩) (fun s hs hn=>hfill.par hn hs)
   (fun a' w'=>(listed.setIfInBounds i true).size=l.length/\Bel w0.drew w'/\∃ (V:Nat->Value),Filled l.toArray (listed.setIfInBounds i true) V a0 a'/\∀ j,j<l.length->(listed.setIfInBounds i true).getD j false=true->F j (V j) w')
   hKK
  unfold wpOp;simp only[ho];by_cases hw:Region.wanted o (yielded l.toArray a.tmps)=true
  ·rw[if_pos hw]
   exact .inl (hK.1 hw)
  ·rw[if_neg hw]
   exact hKK undef w (Bel.refl _) (hK.2 (by simpa using hw))
 ·rintro listed a w ⟨hsz,hbel,V,hfill,hF⟩ hall
  rw[hfill.fin hall (fun i hi=>by rw[Array.getD_eq_getD_getElem?,Array.getElem?_eq_none (by omega)];rfl)];exact hend V w hbel fun i hi=>hF i hi (hall i hi)
theorem Zi{id:Nat}{l:List Oper}(n:Nat)(hn:l.length=n)(a0:Act)(w0:World)(F:Nat->Value->World->Prop)(hm:P.follows .mixedOrders=true)(hf:fwdB l.toArray n=true)(hsl:qL l.toArray a0.tmps.size=true)
  (hmono:∀ i v w w',i<n->F i v w->Bel w w'->F i v w')
  (hstep:∀ i o,i<n->l.toArray[i]?=some o->∀ (a:Act) (w:World) (V:Nat->Value),Bel w0.drew w →
   (∀ e∈o.after,Region.binds .any e=true->F e.on (V e.on) w/\∀ d,(l.toArray[e.on]?).bind (·.dst)=some d->a.eval (.tmp d)=V e.on)->(∀ s,s<a0.tmps.size->qT l.toArray s=none->a.eval (.tmp s)=a0.eval (.tmp s)) →
   ∀ K:Act->World->Prop,(∀ v w',Bel w w'->F i v w'->K (a.put o.dst v) w')->(Region.wanted o (yielded l.toArray a.tmps)=true->Oper.wp P o a w K Q)/\(Region.wanted o (yielded l.toArray a.tmps)=false->F i undef w))
  (hend:∀ (V:Nat->Value) (w:World),Bel w0.drew w->(∀ i,i<n->F i (V i) w)->Q .normal (finA l.toArray n V a0) w) :
  (Code.region id l.toArray true).wp P Q a0 w0:=by
 subst hn;exact Zw a0 w0 F hm hf hsl hmono hstep hend
end
end Go.Proofs.YtlmmaoobembadaaGreatDoor.Mu
namespace Go.Proofs.YtlmmaoobembadaaGreatDoor.Mu
open Go Go.RowKit Go.Shelf
set_option linter.unusedVariables false
set_option maxRecDepth 100000
def Okz(w:World)(j:Nat):Prop:=j<w.heap.size/\w.heap[j]?≠some (.cells #[.int .u8 0,.string ⟨#[]⟩,.int .i64 0,.int .i64 0,.int .i64 0,.int .i64 0,.slice none 0 0,.slice none 0 0] 32 (0,0))
theorem Okz.bel{w w':World}(hb:Bel w w')(j:Nat)(h:Okz w j):Okz w' j:=⟨Nat.lt_of_lt_of_le h.1 hb.size,by rw[hb.block j h.1];exact h.2⟩
theorem KidsZ.bel{w w':World}{A:Option Addr}{l c:Nat}{f:Tr}(h:KidsTr w (Okz w) .ex A l c f)(hb:Bel w w'):KidsTr w' (Okz w') .ex A l c f:=(h.keep (fun j hj=>hb.block j hj.1)).wide (Okz.bel hb)
theorem zK{w:World}{F:Tr}{vs:List Value}(h:Tells w (Okz w) .ex F vs)(hz:vs[0]?≠some (.int .u8 0))(m:Nat)(hm:m=F.len)(h0:0<m) :
  KidsTr (w.alloc (.cells vs.toArray 32)) (Okz (w.alloc (.cells vs.toArray 32))) .ex (some ⟨w.heap.size,0,none⟩) m m F:=by
 have hb:Bel w (w.alloc (.cells vs.toArray 32)):=(Bel.refl w).alloc _;refine⟨hm,Nat.le_refl _,fun _=>⟨w.heap.size,0,rfl,⟨by simp,fun e=>hz ?_⟩,?_⟩⟩
 ·rw[blk1]at e
  injection e with e
  injection e with e _ _
  have:=congrArg (fun a:Array Value=>a[0]?) e;simpa using this
 ·refine (h.2.2 _ w.heap.size 0 (fun j u hu=>?_) (fun j hj=>hb.block j hj.1)).wide (Okz.bel hb) _ _ _ _
  unfold World.cell?
  simp only[blk1];simpa using hu
theorem qy(w:World)(Ok:Nat->Prop)(sh:Sh):KidsTr w Ok sh none 0 0 .nil:=⟨rfl,Nat.le_refl _,fun h=>absurd h (by decide)⟩
theorem Qn{w:World}{Ok:Nat->Prop}(k:Int)(s:List UInt8){A:Option Addr}{l c:Nat}{kids:Tr}(h:KidsTr w Ok .ex A l c kids):Tells w Ok .ex (tO k s kids .nil) [.int .u8 k,.string ⟨s.toArray⟩,(0:Int),(0:Int),(0:Int),(0:Int),.slice A l c,.slice none 0 0]:=by
 have hl:=h.1;subst hl;exact Tells.one (sh:= .ex) (by intro e;cases e) (arms:= .nil) (B:=none) (bc:=0) h (.inl ⟨rfl,qy w Ok .arms⟩)
theorem Q6{w:World}{Ok:Nat->Prop}(s:List UInt8):Tells w Ok .ex (tN s .nil) [.int .u8 1,.string ⟨s.toArray⟩,(0:Int),(0:Int),(0:Int),(0:Int),.slice none 0 0,.slice none 0 0]:=Qn 1 s (qy w Ok .ex)
theorem qeO{w:World}{Ok:Nat->Prop}:Tells w Ok .ex (t1 .nil) [.int .u8 2,.string ⟨#[]⟩,.int .i64 1,(0:Int),(0:Int),(0:Int),.slice none 0 0,.slice none 0 0]:=
 Tells.one (sh:= .ex) (by intro e;cases e) (kids:= .nil) (arms:= .nil) (A:=none) (c:=0) (B:=none) (bc:=0) (qy w Ok .ex) (.inl ⟨rfl,qy w Ok .arms⟩)
theorem qfP{w:World}{g:Nat}{t:TypeId}{x0 x1 x2 x3 x4 x5 x6 x7:Value}(h:w.heap[g]?=some (.cells #[x0,x1,x2,x3,x4,x5,x6,x7] t (0,0)))(y0 y1 y2 y3 y4 y5 y6 y7:Value) :
  ((((((((w.setCell ⟨g,0,none⟩ y0).setCell ⟨g,1,none⟩ y1).setCell ⟨g,2,none⟩ y2).setCell ⟨g,3,none⟩ y3).setCell ⟨g,4,none⟩ y4).setCell ⟨g,5,none⟩ y5).setCell ⟨g,6,none⟩ y6).setCell ⟨g,7,none⟩ y7).heap[g]?=some (.cells #[y0,y1,y2,y3,y4,y5,y6,y7] t (0,0)):=by
 simp[World.setCell,Array.getElem?_modify,h]
theorem qfQ{w:World}{g:Nat}(y0 y1 y2 y3 y4 y5 y6 y7:Value)(j:Nat)(hj:j≠g) :
  ((((((((w.setCell ⟨g,0,none⟩ y0).setCell ⟨g,1,none⟩ y1).setCell ⟨g,2,none⟩ y2).setCell ⟨g,3,none⟩ y3).setCell ⟨g,4,none⟩ y4).setCell ⟨g,5,none⟩ y5).setCell ⟨g,6,none⟩ y6).setCell ⟨g,7,none⟩ y7).heap[j]?=w.heap[j]?:=by
 have e:∀ (w:World) (o:Nat) (v:Value),(w.setCell ⟨g,o,none⟩ v).heap[j]?=w.heap[j]?:=fun w o v=>Below.heap_setCell _ _ _ _ hj;simp only[e]
theorem qfi{w:World}{g:Nat}{t:TypeId}{x0 x1 x2 x3 x4 x5 x6 x7:Value}(h:w.heap[g]?=some (.cells #[x0,x1,x2,x3,x4,x5,x6,x7] t (0,0))) :
  w.frozen? ⟨g,0,none⟩=false/\w.frozen? ⟨g,1,none⟩=false/\w.frozen? ⟨g,2,none⟩=false/\w.frozen? ⟨g,3,none⟩=false/\w.frozen? ⟨g,4,none⟩=false/\w.frozen? ⟨g,5,none⟩=false/\w.frozen? ⟨g,6,none⟩=false/\w.frozen? ⟨g,7,none⟩=false:=by
 simp[World.frozen?,h]
theorem blk7(w:World)(o o2 o3 o4 o5 o6 o7:Obj):let W:=((((((w.alloc o).alloc o2).alloc o3).alloc o4).alloc o5).alloc o6).alloc o7
  W.heap[w.heap.size]?=some o/\W.heap[w.heap.size+1]?=some o2/\W.heap[w.heap.size+1+1]?=some o3/\W.heap[w.heap.size+1+1+1]?=some o4/\W.heap[w.heap.size+1+1+1+1]?=some o5/\W.heap[w.heap.size+1+1+1+1+1]?=some o6/\W.heap[w.heap.size+1+1+1+1+1+1]?=some o7:=by
 have hb7:=(Bel.refl ((((((w.alloc o).alloc o2).alloc o3).alloc o4).alloc o5).alloc o6)).alloc o7;obtain⟨h1,h2,h3,h4,h5⟩:=blk5 w o o2 o3 o4 o5;have hb6:=(Bel.refl (((((w.alloc o).alloc o2).alloc o3).alloc o4).alloc o5)).alloc o6;have h6:=blk1 (((((w.alloc o).alloc o2).alloc o3).alloc o4).alloc o5) o6;have h7:=blk1 ((((((w.alloc o).alloc o2).alloc o3).alloc o4).alloc o5).alloc o6) o7;have s6:(((((w.alloc o).alloc o2).alloc o3).alloc o4).alloc o5).heap.size=w.heap.size+1+1+1+1+1:=by simp
 have s7:((((((w.alloc o).alloc o2).alloc o3).alloc o4).alloc o5).alloc o6).heap.size=w.heap.size+1+1+1+1+1+1:=by simp
 rw[s6]at h6;rw[s7]at h7;exact⟨hb7.blk (hb6.blk h1),hb7.blk (hb6.blk h2),hb7.blk (hb6.blk h3),hb7.blk (hb6.blk h4),hb7.blk (hb6.blk h5),hb7.blk h6,h7⟩
theorem qaz{α:Type}{sz:Nat}{At:World->(Nat->Prop)->Nat->Nat->α->Prop}{w:World}{b:Nat}{x:α}(hb:b<w.heap.size)(h:At w (OldT w) b 0 x):RowOf sz At w (OldT w) (some ⟨b,0,none⟩) 1 1 [x]:=
 ⟨rfl,Nat.le_refl _,fun _=>⟨b,0,rfl,hb,fun i y hi=>by
  match i,hi with
  | 0,hi=>
   obtain rfl:x=y:=by simpa using hi
   rw[Nat.zero_mul];exact h
  | i+1,hi=>simp at hi⟩⟩
def kFs:List Fd:=[⟨1,2,[76,105,115,116],0,p00,kLa⟩,⟨2,1,[97],0,p00,.nil⟩]
def kCd:Cd:=⟨[65],p00,kFs⟩
section
variable {w : World} {b : Nat} {t1 t2 t3 t4 t5 t6 : TypeId}
theorem qja(h1:w.heap[b+1]?=some (.cells #[.string ⟨#[97]⟩] t1 (0,0))):RowOf 1 SAt w (OldT w) (some ⟨b+1,0,none⟩) 1 1 [[97]]:=
 qaz (Array.getElem?_eq_some_iff.1 h1).1 (by show w.cell? ⟨b+1,0,none⟩=_;simp[World.cell?,h1])
theorem qi4(h2:w.heap[b+1+1]?=some (.cells #[.int .u8 1,.string ⟨#[97]⟩,.int .u8 0,(0:Int),(0:Int),(0:Int),.slice none 0 0] t2 (0,0))):KidsTr w (OldT w) .ty (some ⟨b+1+1,0,none⟩) 1 1 kLa:=by
 refine zQ (sh:= .ty) (by intro e;cases e) (kids:= .nil) (arms:= .nil) (A:=none) (c:=0) (B:=none) (bc:=0) (w:=w) (qy w _ .ty) (.inr ⟨.inr rfl,rfl⟩) (Bel.refl w) h2
theorem qiU(h2:w.heap[b+1+1]?=some (.cells #[.int .u8 1,.string ⟨#[97]⟩,.int .u8 0,(0:Int),(0:Int),(0:Int),.slice none 0 0] t2 (0,0)))
  (h3:w.heap[b+1+1+1]?=some (.cells #[.int .u8 1,.int .u8 2,.string ⟨#[76,105,115,116]⟩,.int .u8 0,(0:Int),(0:Int),(0:Int),.slice (some ⟨b+1+1,0,none⟩) 1 1,.int .u8 2,.int .u8 1,.string ⟨#[97]⟩,.int .u8 0,(0:Int),(0:Int),(0:Int),.slice none 0 0] t3 (0,0))) :
  RowOf 8 FdAt w (OldT w) (some ⟨b+1+1+1,0,none⟩) 2 2 kFs:=by
 have hl:b+1+1+1<w.heap.size:=(Array.getElem?_eq_some_iff.1 h3).1;have hla:=qi4 h2;have c:∀ i,w.cell? ⟨b+1+1+1,i,none⟩=(#[Value.int .u8 1,.int .u8 2,.string ⟨#[76,105,115,116]⟩,.int .u8 0,(0:Int),(0:Int),(0:Int),.slice (some ⟨b+1+1,0,none⟩) 1 1,.int .u8 2,.int .u8 1,.string ⟨#[97]⟩,.int .u8 0,(0:Int),(0:Int),(0:Int),.slice none 0 0]:Array Value)[i]?:=fun i=>by simp[World.cell?,h3]
 refine⟨rfl,Nat.le_refl _,fun _=>⟨b+1+1+1,0,rfl,hl,fun i x hi=>?_⟩⟩;match i,hi with
 | 0,hi=>
  obtain rfl:(⟨1,2,[76,105,115,116],0,p00,kLa⟩:Fd)=x:=by simpa [kFs] using hi
  exact⟨c 0,⟨c 1,c 2,c 3,c 4,c 5,c 6⟩,⟨_,1,c 7,Nat.le_refl _,hla.2.2⟩,.inr ⟨.inr rfl,rfl⟩,trivial⟩
 | 1,hi=>
  obtain rfl:(⟨2,1,[97],0,p00,.nil⟩:Fd)=x:=by simpa [kFs] using hi
  exact⟨c 8,⟨c 9,c 10,c 11,c 12,c 13,c 14⟩,⟨none,0,c 15,Nat.le_refl _,fun h=>absurd h (by decide)⟩,.inr ⟨.inr rfl,rfl⟩,trivial⟩
 | i+2,hi=>simp[kFs]at hi
theorem qiP(hf:RowOf 8 FdAt w (OldT w) (some ⟨b+1+1+1,0,none⟩) 2 2 kFs)
  (h4:w.heap[b+1+1+1+1]?=some (.cells #[.string ⟨#[65]⟩,(0:Int),(0:Int),(0:Int),.slice (some ⟨b+1+1+1,0,none⟩) 2 2] t4 (0,0))) :
  RowOf 5 CdAt w (OldT w) (some ⟨b+1+1+1+1,0,none⟩) 1 1 [kCd]:=by
 have c:∀ i,w.cell? ⟨b+1+1+1+1,i,none⟩=(#[Value.string ⟨#[65]⟩,(0:Int),(0:Int),(0:Int),.slice (some ⟨b+1+1+1,0,none⟩) 2 2]:Array Value)[i]?:=fun i=>by simp[World.cell?,h4]
 exact qaz (Array.getElem?_eq_some_iff.1 h4).1 ⟨c 0,c 1,c 2,c 3,_,2,c 4,hf⟩
theorem qi3(hp:RowOf 1 SAt w (OldT w) (some ⟨b+1,0,none⟩) 1 1 [[97]])(hc:RowOf 5 CdAt w (OldT w) (some ⟨b+1+1+1+1,0,none⟩) 1 1 [kCd])
  (h6:w.heap[b+1+1+1+1+1+1]?=some (.cells #[.int .u8 1,.string ⟨#[84]⟩,(0:Int),(0:Int),(0:Int),.slice (some ⟨b+1,0,none⟩) 1 1,.slice (some ⟨b+1+1+1+1,0,none⟩) 1 1,.bool false,.int .u8 0,.string ⟨#[]⟩,(0:Int),(0:Int),(0:Int),(0:Int),.slice none 0 0,.slice none 0 0] t6 (0,0))) :
  RowOf 16 DcAt w (OldT w) (some ⟨b+1+1+1+1+1+1,0,none⟩) 1 1 [kD]:=by
 have c:∀ i,w.cell? ⟨b+1+1+1+1+1+1,i,none⟩=(#[Value.int .u8 1,.string ⟨#[84]⟩,(0:Int),(0:Int),(0:Int),.slice (some ⟨b+1,0,none⟩) 1 1,.slice (some ⟨b+1+1+1+1,0,none⟩) 1 1,.bool false,.int .u8 0,.string ⟨#[]⟩,(0:Int),(0:Int),(0:Int),(0:Int),.slice none 0 0,.slice none 0 0]:Array Value)[i]?:=fun i=>by simp[World.cell?,h6]
 exact qaz (Array.getElem?_eq_some_iff.1 h6).1 ⟨c 0,c 1,c 2,c 3,c 4,⟨_,1,c 5,hp⟩,⟨_,1,c 6,hc⟩,c 7,⟨c 8,c 9,c 10,c 11,c 12,c 13⟩,⟨none,0,c 14,Nat.le_refl _,fun h=>absurd h (by decide)⟩,.inl ⟨rfl,none,0,c 15,Nat.le_refl _,fun h=>absurd h (by decide)⟩,trivial⟩
end
theorem Qt{w:World}{g:Nat}{t:TypeId}{x0 x1 x2 x3 x4 x5 x6 x7 x8 x9 x10 x11 x12 x13 x14 x15:Value}(h:w.heap[g]?=some (.cells #[x0,x1,x2,x3,x4,x5,x6,x7,x8,x9,x10,x11,x12,x13,x14,x15] t (0,0))) :
  w.cell? ⟨g,0,none⟩=some x0/\w.cell? ⟨g,1,none⟩=some x1/\w.cell? ⟨g,2,none⟩=some x2/\w.cell? ⟨g,3,none⟩=some x3/\w.cell? ⟨g,4,none⟩=some x4/\w.cell? ⟨g,5,none⟩=some x5/\w.cell? ⟨g,6,none⟩=some x6/\w.cell? ⟨g,7,none⟩=some x7/\w.cell? ⟨g,8,none⟩=some x8/\w.cell? ⟨g,9,none⟩=some x9/\w.cell? ⟨g,10,none⟩=some x10/\w.cell? ⟨g,11,none⟩=some x11/\w.cell? ⟨g,12,none⟩=some x12/\w.cell? ⟨g,13,none⟩=some x13/\w.cell? ⟨g,14,none⟩=some x14/\w.cell? ⟨g,15,none⟩=some x15:=by
 simp[World.cell?,h]
theorem qig:kD.good/\kD.ints:=by
 refine⟨⟨by decide,by decide,by decide,fun c hc=>?_⟩,⟨by decide,fun s hs=>?_,fun c hc=>?_,by simp[Dc.tr,kD,Tr.ints,fitN]⟩⟩
 ·obtain rfl:c=kCd:=by simpa [kD,kCd,kFs] using hc
  refine⟨by decide,fun f hf=>?_⟩;simp only[kCd,kFs,List.mem_cons,List.not_mem_nil,or_false]at hf;rcases hf with rfl | rfl
  ·show (Tr.size kLa)<=_;decide
  ·show (Tr.size .nil)<=_;decide
 ·obtain rfl:s=[97]:=by simpa [kD] using hs
  decide
 ·obtain rfl:c=kCd:=by simpa [kD,kCd,kFs] using hc
  refine⟨by decide,fun f hf=>?_⟩;simp only[kCd,kFs,List.mem_cons,List.not_mem_nil,or_false]at hf;rcases hf with rfl | rfl
  ·simp[Fd.ints,Fd.tr,kLa,Tr.ints,fitN]
  ·simp[Fd.ints,Fd.tr,Tr.ints,fitN]
def kBad:Tr:=tO 5 [] (t1 .nil) (tN [108,101,116] (tO 8 [] (t1 .nil) .nil))
theorem qgJ(j:Nat)(hj:j<3):∃ k s kids,kBad.nth j=.nod k s 0 p00 kids .nil .nil/\(Tr.nod k s 0 p00 kids .nil .nil).mayE hEf hPf=false/\(Tr.nod k s 0 p00 kids .nil .nil).ints/\kids.size<=1000:=by
 have h:j=0∨j=1∨j=2:=by omega
 rcases h with rfl | rfl | rfl
 ·exact⟨5,[],t1 .nil,rfl,qje,by simp[Tr.ints,fitN,t1],by decide⟩
 ·exact⟨1,[108,101,116],.nil,rfl,qjf,by simp[Tr.ints,fitN],by decide⟩
 ·exact⟨8,[],t1 .nil,rfl,qiJ,by simp[Tr.ints,fitN,t1],by decide⟩
end Go.Proofs.YtlmmaoobembadaaGreatDoor.Mu
