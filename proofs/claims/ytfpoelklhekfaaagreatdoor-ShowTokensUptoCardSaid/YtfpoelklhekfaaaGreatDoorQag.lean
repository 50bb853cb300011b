import Derived.Deep.RegionLaw
import Derived.Lib.SliceRun
import Derived.Deep.LoopGhost
import Derived.Test.YtfpoelklhekfaaaGreatDoorQad
import Derived.Test.YtfpoelklhekfaaaGreatDoorQae
import Derived.Test.YtfpoelklhekfaaaGreatDoorQaf
open Go.Lib (hid)
namespace Go.Proofs.YtfpoelklhekfaaaGreatDoor.Mu
open Go Go.RowKit
set_option linter.unusedVariables false
def Tells(w:World)(Ok:Nat->Prop)(sh:Sh)(f:Tr)(vs:List Value):Prop:=
 vs.length=f.len*sh.sz/\(∀ u∈vs,u.oneCell'=true) ∧
  ∀ (w':World) (b' o':Nat),(∀ j u,vs[j]?=some u->w'.cell? ⟨b',o'+j,none⟩=some u)->(∀ j,Ok j->w'.heap[j]?=w.heap[j]?)->TrAt w' Ok f sh b' o'
theorem Tells.nil{w:World}{Ok:Nat->Prop}{sh:Sh}:Tells w Ok sh .nil []:=⟨by simp[Tr.len],fun u hu=>(by cases hu),fun _ _ _ _ _=>trivial⟩
theorem TrAt.app{w:World}{Ok:Nat->Prop}{sh:Sh}:∀ (f g:Tr) (b o:Nat),TrAt w Ok f sh b o->TrAt w Ok g sh b (o+f.len*sh.sz)->TrAt w Ok (f.app g) sh b o
 | .nil,g,b,o,_,h=>by simpa [Tr.len,Tr.app] using h
 | .nod k s n p a c r,g,b,o,h,hg=>by
  obtain⟨h1,h2,h3,h4⟩:=h;refine⟨h1,h2,h3,TrAt.app r g b _ h4 ?_⟩;rw[show o+sh.sz+r.len*sh.sz=o+(Tr.nod k s n p a c r).len*sh.sz by simp only[Tr.len,Nat.add_mul];omega];exact hg
 | .arm k s n p a c r,g,b,o,h,hg=>by
  obtain⟨h0,h1,h2,h3,h4,h5⟩:=h;subst h0;refine⟨rfl,h1,h2,h3,h4,TrAt.app r g b _ h5 ?_⟩;rw[show o+15+r.len*Sh.arms.sz=o+(Tr.arm k s n p a c r).len*Sh.arms.sz by simp only[Tr.len,Nat.add_mul,Sh.sz];omega];exact hg
theorem Tells.app{w:World}{Ok:Nat->Prop}{sh:Sh}{f g:Tr}{vs ws:List Value}(h:Tells w Ok sh f vs)(k:Tells w Ok sh g ws):Tells w Ok sh (f.app g) (vs++ws):=by
 obtain⟨h1,h2,h3⟩:=h;obtain⟨k1,k2,k3⟩:=k;refine⟨by rw[List.length_append,h1,k1,Tr.app_len,Nat.add_mul],fun u hu=>?_,fun w' b' o' hc hk=>?_⟩
 ·rcases List.mem_append.1 hu with hu | hu
  ·exact h2 u hu
  ·exact k2 u hu
 ·refine TrAt.app f g b' o' (h3 w' b' o' (fun j u hu=>hc j u (by rw[List.getElem?_append_left (by have:=(List.getElem?_eq_some_iff.1 hu).1;exact this)];exact hu)) hk) (k3 w' b' _ (fun j u hu=>?_) hk)
  have:=hc (f.len*sh.sz+j) u (by rw[List.getElem?_append_right (by rw[h1];omega),h1,Nat.add_sub_cancel_left];exact hu);rwa [<- Nat.add_assoc]at this
def Zr(kd:IntKind)(k:Int)(s:List UInt8)(n:Int)(p:Pl):List Value:=[.int .u8 k,.string ⟨s.toArray⟩,.int kd n,.int .i64 p.a,.int .i64 p.l,.int .i64 p.c]
def qej:Sh->Option Addr->Nat->Nat->List Value
 | .ex,B,bl,bc=>[.slice B bl bc]
 | _,_,_,_=>[]
def nodV(sh:Sh)(k:Int)(s:List UInt8)(n:Int)(p:Pl)(A:Option Addr)(l c:Nat)(B:Option Addr)(bl bc:Nat):List Value:=Zr sh.kd k s n p++(.slice A l c::qej sh B bl bc)
theorem Z9{w:World}{kd:IntKind}{b o:Nat}{k:Int}{s:List UInt8}{n:Int}{p:Pl}(h:HeadAt w kd b o k s n p):∀ j u,(Zr kd k s n p)[j]?=some u->w.cell? ⟨b,o+j,none⟩=some u:=by
 obtain⟨a0,a1,a2,a3,a4,a5⟩:=h;intro j u hu;match j,hu with
 | 0,hu=>cases hu;exact a0
 | 1,hu=>cases hu;exact a1
 | 2,hu=>cases hu;exact a2
 | 3,hu=>cases hu;exact a3
 | 4,hu=>cases hu;exact a4
 | 5,hu=>cases hu;exact a5
theorem QE(sh:Sh)(hs:sh ≠ .arms)(k:Int)(s:List UInt8)(n:Int)(p:Pl)(A:Option Addr)(l c:Nat)(B:Option Addr)(bl bc:Nat):(nodV sh k s n p A l c B bl bc).length=sh.sz:=by
 cases sh
 ·rfl
 ·rfl
 ·rfl
 ·exact absurd rfl hs
theorem qfd(sh:Sh)(k:Int)(s:List UInt8)(n:Int)(p:Pl)(A:Option Addr)(l c:Nat)(B:Option Addr)(bl bc:Nat):∀ u∈nodV sh k s n p A l c B bl bc,u.oneCell'=true:=by
 intro u hu;unfold nodV Zr qej at hu;cases sh <;> simp at hu
 all_goals rcases hu with rfl | rfl | rfl | rfl | rfl | rfl | hu
 all_goals first | rfl | (subst hu;rfl) | (rcases hu with rfl | rfl <;> rfl)
theorem Tells.one{w:World}{Ok:Nat->Prop}{sh:Sh}(hs:sh ≠ .arms){k:Int}{s:List UInt8}{n:Int}{p:Pl}{A:Option Addr}{c:Nat}{B:Option Addr}{bc:Nat}{kids arms:Tr}
  (hk:KidsTr w Ok sh A kids.len c kids) (ha:(sh=.ex/\KidsTr w Ok .arms B arms.len bc arms)∨((sh=.pat∨sh=.ty)/\arms.len=0)):Tells w Ok sh (.nod k s n p kids arms .nil) (nodV sh k s n p A kids.len c B arms.len bc):=by
 refine⟨by rw[QE sh hs];simp[Tr.len],qfd _ _ _ _ _ _ _ _ _ _ _,fun w' b' o' hc hkp=>?_⟩;have hh:HeadAt w' sh.kd b' o' k s n p:=⟨hc 0 _ rfl,hc 1 _ rfl,hc 2 _ rfl,hc 3 _ rfl,hc 4 _ rfl,hc 5 _ rfl⟩
 have k':=hk.keep hkp;refine⟨hh,⟨A,c,hc 6 _ rfl,k'.2.1,k'.2.2⟩,?_,trivial⟩;rcases ha with ⟨e,ha⟩ | ha
 ·have a':=ha.keep hkp
  subst e;exact .inl ⟨rfl,B,bc,hc 7 _ rfl,a'.2.1,a'.2.2⟩
 ·exact .inr ha
theorem TrAt.parts{w:World}{Ok:Nat->Prop}{sh:Sh}{k:Int}{s:List UInt8}{n:Int}{p:Pl}{kids arms r:Tr}{b o:Nat}(h:TrAt w Ok (.nod k s n p kids arms r) sh b o) :
  ∃ A c B bc,(∀ j u,(nodV sh k s n p A kids.len c B arms.len bc)[j]?=some u->w.cell? ⟨b,o+j,none⟩=some u)/\KidsTr w Ok sh A kids.len c kids/\((sh=.ex/\KidsTr w Ok .arms B arms.len bc arms)∨((sh=.pat∨sh=.ty)/\arms.len=0))/\TrAt w Ok r sh b (o+sh.sz):=by
 obtain⟨h1,⟨A,c,a1,a2,a3⟩,h3,h4⟩:=h;have hk:KidsTr w Ok sh A kids.len c kids:=⟨rfl,a2,a3⟩
 rcases h3 with ⟨e,B,bc,c1,c2,c3⟩ | ⟨e,e2⟩
 ·subst e
  refine⟨A,c,B,bc,fun j u hu=>?_,hk,.inl ⟨rfl,rfl,c2,c3⟩,h4⟩;rcases Nat.lt_or_ge j 6 with hj | hj
  ·exact Z9 h1 j u (by rw[nodV,List.getElem?_append_left (by simpa [Zr] using hj)]at hu;exact hu)
  ·match j,hu with
   | 6,hu=>cases hu;exact a1
   | 7,hu=>cases hu;exact c1
   | j+8,hu=>simp[nodV,Zr,qej]at hu
 ·refine⟨A,c,none,0,fun j u hu=>?_,hk,.inr ⟨e,e2⟩,h4⟩
  have hne:∀ B bl bc,qej sh B bl bc=[]:=by rcases e with rfl | rfl <;> exact fun _ _ _=>rfl
  rcases Nat.lt_or_ge j 6 with hj | hj
  ·exact Z9 h1 j u (by rw[nodV,List.getElem?_append_left (by simpa [Zr] using hj)]at hu;exact hu)
  ·match j,hu with
   | 6,hu=>
    have:u=.slice A kids.len c:=by simp only[nodV,Zr,hne]at hu;cases hu;rfl
    subst this;exact a1
   | j+7,hu=>simp[nodV,Zr,hne]at hu
theorem TrAt.tells{w:World}{Ok:Nat->Prop}{sh:Sh}(hs:sh ≠ .arms):∀ (f:Tr) (b o:Nat),TrAt w Ok f sh b o->∃ vs,Tells w Ok sh f vs/\∀ j u,vs[j]?=some u->w.cell? ⟨b,o+j,none⟩=some u
 | .nil,_,_,_=>⟨[],Tells.nil,fun j u h=>(by simp at h)⟩
 | .arm ..,_,_,h=>absurd h.1 hs
 | .nod k s n p kids arms r,b,o,h=>by
  obtain⟨A,c,B,bc,h1,h2,h3,h4⟩:=h.parts;obtain⟨vs,t1,t2⟩:=TrAt.tells hs r b _ h4;refine⟨_,(Tells.one hs h2 h3 (k:=k) (s:=s) (n:=n) (p:=p)).app t1,fun j u hu=>?_⟩;rcases Nat.lt_or_ge j sh.sz with hj | hj
  ·exact h1 j u (by rw[List.getElem?_append_left (by rw[QE sh hs];exact hj)]at hu;exact hu)
  ·rw[List.getElem?_append_right (by rw[QE sh hs];exact hj),QE sh hs]at hu
   have:=t2 _ u hu;rwa [show o+sh.sz+(j-sh.sz)=o+j by omega]at this
def J7(w:World)(Ok:Nat->Prop)(w':World)(j:Nat):Prop:=Ok j∨(w.heap.size<=j/\j<w'.heap.size)
def ji(w:World)(Ok:Nat->Prop)(sh:Sh)(f:Tr)(e:Ending)(w':World):Prop:=
 ∃ A c,e=.returned (.slice A f.len c)/\Bel w w'/\KidsTr w' (J7 w Ok w') sh A f.len c f
def Tr.exsN:Tr->Nat->Tr
 | .nil,_=> .nil
 | _,0=> .nil
 | .nod _ _ _ _ _ _ r,i+1=>r.exsN i
 | .arm _ _ _ _ _ e r,i+1=>e.app (r.exsN i)
def Tr.patsN:Tr->Nat->Tr
 | .nil,_=> .nil
 | _,0=> .nil
 | .nod _ _ _ _ _ _ r,i+1=>r.patsN i
 | .arm k s n p a _ r,i+1=> .nod k s n p a .nil (r.patsN i)
theorem Tr.exsN_zero:∀ f:Tr,f.exsN 0=.nil
 | .nil=>rfl
 | .nod ..=>rfl
 | .arm ..=>rfl
theorem Tr.patsN_zero:∀ f:Tr,f.patsN 0=.nil
 | .nil=>rfl
 | .nod ..=>rfl
 | .arm ..=>rfl
theorem Tr.exsN_succ{k:Int}{s:List UInt8}{n:Int}{p:Pl}{a e:Tr}:∀ (f:Tr) (i:Nat),f.isArms->f.nth i=.arm k s n p a e .nil->f.exsN (i+1)=(f.exsN i).app e
 | .nil,i,_,h=>by simp[Tr.nth]at h
 | .arm _ _ _ _ _ e' r,0,h,hn=>by
  simp only[Tr.nth,Tr.arm.injEq]at hn;simp only[Tr.exsN,Tr.exsN_zero,Tr.app,Tr.app_nil,hn.2.2.2.2.2.1]
 | .arm _ _ _ _ _ e' r,i+1,h,hn=>by
  have:=Tr.exsN_succ r i h.2 hn;simp only[Tr.exsN,Tr.app_assoc]at this ⊢;rw[this]
theorem Tr.patsN_succ{k:Int}{s:List UInt8}{n:Int}{p:Pl}{a e:Tr}:∀ (f:Tr) (i:Nat),f.isArms->f.nth i=.arm k s n p a e .nil->f.patsN (i+1)=(f.patsN i).app (.nod k s n p a .nil .nil)
 | .nil,i,_,h=>by simp[Tr.nth]at h
 | .arm _ _ _ _ _ e' r,0,h,hn=>by
  simp only[Tr.nth,Tr.arm.injEq]at hn;obtain⟨h1,h2,h3,h4,h5,h6,h7⟩:=hn;subst h1 h2 h3 h4 h5;simp only[Tr.patsN,Tr.patsN_zero,Tr.app]
 | .arm _ _ _ _ _ e' r,i+1,h,hn=>by
  have:=Tr.patsN_succ r i h.2 hn;simp only[Tr.patsN,Tr.app]at this ⊢;rw[this]
theorem Tr.exsN_all:∀ f:Tr,f.isArms->f.exsN f.len=f.exs
 | .nil,_=>rfl
 | .arm _ _ _ _ _ e r,h=>by simp only[Tr.len,Tr.exsN,Tr.exs,Tr.exsN_all r h.2]
theorem Tr.patsN_all:∀ f:Tr,f.isArms->f.patsN f.len=f.pats
 | .nil,_=>rfl
 | .arm _ _ _ _ _ e r,h=>by simp only[Tr.len,Tr.patsN,Tr.pats,Tr.patsN_all r h.2]
theorem Tr.one_nod:∀ e:Tr,e.len=1->e.isNods->∃ k s n p a b,e=.nod k s n p a b .nil
 | .nil,h,_=>by simp[Tr.len]at h
 | .nod k s n p a b r,h,_=>⟨k,s,n,p,a,b,by rw[Tr.len_nil r (by simpa [Tr.len] using h)]⟩
 | .arm ..,_,h=>h.elim
theorem KidsTr.isArms{w:World}{Ok:Nat->Prop}{A:Option Addr}{l c:Nat}{f:Tr}(h:KidsTr w Ok .arms A l c f):f.isArms:=by
 rcases Nat.eq_zero_or_pos f.len with e | e
 ·rw[Tr.len_nil f e];trivial
 ·obtain⟨b,o,_,_,h⟩:=h.2.2 (by rw[h.1];exact e)
  exact TrAt.isArms f b o h
theorem KidsTr.isNods{w:World}{Ok:Nat->Prop}{sh:Sh}(hs:sh ≠ .arms){A:Option Addr}{l c:Nat}{f:Tr}(h:KidsTr w Ok sh A l c f):f.isNods:=by
 rcases Nat.eq_zero_or_pos f.len with e | e
 ·rw[Tr.len_nil f e];trivial
 ·obtain⟨b,o,_,_,h⟩:=h.2.2 (by rw[h.1];exact e)
  exact TrAt.isNods hs f b o h
theorem KidsTr.ok{w:World}{Ok:Nat->Prop}{sh:Sh}{A:Option Addr}{l c:Nat}{f:Tr}(h:KidsTr w Ok sh A l c f):f.ok:=by
 rcases Nat.eq_zero_or_pos f.len with e | e
 ·rw[Tr.len_nil f e];trivial
 ·obtain⟨b,o,_,_,h⟩:=h.2.2 (by rw[h.1];exact e)
  exact TrAt.ok f sh b o h
theorem zB{w:World}{base e size n:Nat}{v:Value}{xs:List Value}(h:w.ownsRow base e size v (n+1) xs):∃ g c,v=.slice (some ⟨g,0,none⟩) (n+1) c:=by
 obtain⟨g,c,hv,_⟩:=h.form (by omega);exact⟨g,c,hv⟩
theorem Tells.row{w w':World}{Ok:Nat->Prop}{sh:Sh}{f:Tr}{vs:List Value}(h:Tells w Ok sh f vs)(hb:Bel w w')(hOk:∀ j,Ok j->j<w.heap.size){e:TypeId}{A:Option Addr}{c base:Nat}(hbase:w.heap.size<=base)(ho:w'.ownsRow base e sh.sz (.slice A f.len c) f.len vs):KidsTr w' (J7 w Ok w') sh A f.len c f:=by
 refine⟨rfl,?_,fun h0=>?_⟩
 ·rcases ho.2 with ⟨_,h0⟩ | ⟨g,cap,cur,hv,_,_,hnc,_⟩
  ·omega
  ·cases hv;exact hnc
 ·obtain⟨g,cp,hv,hgb,hgl⟩:=ho.form h0
  cases hv
  refine⟨g,0,rfl,.inr ⟨Nat.le_trans hbase hgb,hgl⟩,(h.2.2 w' g 0 (fun j u hu=>?_) (fun j hj=>hb.block j (hOk j hj))).wide (fun j hj=> .inl hj) f sh g 0⟩;have:=ho.cells (g:=g) rfl j u hu;rwa [Addr.add_lit]at this
end Go.Proofs.YtfpoelklhekfaaaGreatDoor.Mu
namespace Go.Proofs.YtfpoelklhekfaaaGreatDoor.Mu
set_option maxHeartbeats 2000000
open Go Go.RowKit Go.Shelf
attribute [local go_sem] Oper.semAt_some
set_option linter.unusedVariables false
set_option maxRecDepth 100000
def jj(p:Prop):Prop:=p
theorem jB{p:Prop}(h:jj p):p:=h
theorem qcW:(Tryz.prog.info? 43).map (fun i=>(i.zero,i.size,i.bytes))=some (some (.agg #[.int .u8 0,.string ⟨#[]⟩,(0:Int),(0:Int),(0:Int),(0:Int),.slice none 0 0,.slice none 0 0]),8,104):=by kernel_rfl
theorem qe4:(Tryz.prog.info? 111).map (fun i=>(i.zero,i.size,i.bytes))=some (some (.agg #[.int .u8 0,.string ⟨#[]⟩,(0:Int),(0:Int),(0:Int),(0:Int),.slice none 0 0]),7,80):=by kernel_rfl
theorem qgL:(Tryz.prog.info? 50).map (fun i=>(i.zero,i.size,i.bytes))=some (some (.agg #[.int .u8 0,.string ⟨#[]⟩,.int .u8 0,(0:Int),(0:Int),(0:Int),.slice none 0 0]),7,80):=by kernel_rfl
def qhw(w:World)(Ok:Nat->Prop)(f:Tr)(e:Ending)(w':World):Prop:=
 ∃ A' c' vs,e=.returned (.slice A' f.len c')/\w'.ownsRow w.heap.size 43 8 (.slice A' f.len c') f.len vs/\Tells w Ok .ex f vs/\Bel w w'
theorem qbQ(A:Option Addr)(n cap:Nat)(kids:Tr)(Ok:Nat->Prop)(w:World)(h:KidsTr w Ok .ex A n cap kids)(hOk:∀ j,Ok j->j<w.heap.size)(hn:n<=2000000) :
  Calls Tryz.prog 70 #[.slice A n cap] w (qhw w Ok kids):=by
 have q22:∀ (w:World) (a:Option Addr) (n c n' c':Nat),(binOp .eql 40 (.slice a n c) (.slice none n' c')).run Tryz.prog w=.ok (.bool a.isNone) w:=fun w a n c n' c'=>Lib.run_eql_slice_nil w _ _ a n c n' c' Tryz.underlying40;have H:=hid h;have HOK:=hid hOk;have HL:Hid (n=kids.len):=hid h.1;clear h hOk;rcases A with _ | a
 ·have hn0:n=0:=by
   rcases Nat.eq_zero_or_pos n with h' | h'
   ·exact h'
   ·obtain⟨_,_,e,_⟩:=H.out.2.2 h';cases e
  subst hn0;obtain rfl:=Tr.len_nil kids HL.out.symm;go_enter Tryz.func70,Tryz.ntmps70
  go_wp2
  go_ret
  exact⟨none,0,[],rfl,World.ownsRow_nil _ _ _ _,Tells.nil,Bel.refl _⟩
 ·obtain⟨i,hi,hz0,hz1,hz2⟩:=info_parts qcW
  obtain⟨vs,hvl,hvc⟩:∃ vs:List Value,Tells w Ok .ex kids vs/\(∀ j u,vs[j]?=some u->w.cell? (a.add j)=some u):=by
   rcases Nat.eq_zero_or_pos n with h0 | h0
   ·obtain rfl:=Tr.len_nil kids (by rw[<- HL.out];exact h0)
    exact⟨[],Tells.nil,fun j u hu=>(by simp at hu)⟩
   ·obtain⟨b,o,e,q1,q2⟩:=H.out.2.2 h0
    cases e
    obtain⟨vs,h1,h2⟩:=TrAt.tells (by intro e;cases e) kids b o q2;exact⟨vs,h1,fun j u hu=>by rw[Addr.add_lit];exact h2 j u hu⟩
  have HV:=hid (And.intro hvl hvc);have hlv:vs.length=n*8:=by rw[hvl.1,HL.out];rfl
  have HLV:=hid hlv;clear hvl hvc hlv;go_enter Tryz.func70,Tryz.ntmps70
  go_wp2_with (at_builtin;refine jB ?_)
  unfold jj;refine wpList_append_own _ rfl _ _ 40 rfl w.heap.size 43 i _ 8 104 Tryz.underlying40 hi hz0 hz1 hz2 rfl (by decide) (.slice (some ⟨w.heap.size,0,none⟩) 0 0) 0 [] rfl (World.ownsRow_made w #[] 0 (Nat.le_refl _) (Nat.zero_le _) (by simp)) a n cap vs rfl HLV.out (fun j u hu=>?_) HV.out.1.2.1 (by unfold maxLen;omega) (by omega) (by simp) ?_
  ·have:=HV.out.2 j u hu
   exact (((Bel.refl w).alloc _).cell (World.block_lt_of_cell? w _ this)).trans this
  ·intro v' w1 hown1 hg1 _
   obtain⟨A',c',rfl⟩:=zf hown1;have hb1:Bel w w1:=Below.grown ((Bel.refl w).alloc _) hg1 (by simp) (fun x hx=>by simp[Value.ownBlock]at hx;omega);have HB1:=hid hb1;have HO1:=hid hown1;clear hown1 hg1 hb1;go_wp2_with fail
   go_ret
   have h0:=HO1.out;rw[Nat.zero_add]at h0;have e:=HL.out;subst e;exact⟨A',c',vs,rfl,h0,HV.out.1,HB1.out⟩
theorem qcH{w:World}{b o:Nat}{k:Int}{s:List UInt8}{n:Int}{p:Pl}{kids e:Tr}{Ok:Nat->Prop}(h:TrAt w Ok (.arm k s n p kids e .nil) .arms b o) :
  ∃ A c k2 s2 n2 p2 kids2 arms2 A2 c2 B2 bc2,e=.nod k2 s2 n2 p2 kids2 arms2 .nil/\KidsTr w Ok .pat A kids.len c kids/\KidsTr w Ok .ex A2 kids2.len c2 kids2/\KidsTr w Ok .arms B2 arms2.len bc2 arms2 ∧
   w.cell? ⟨b,o,none⟩=some (.int .u8 k)/\w.cell? ⟨b,o+1,none⟩=some (.string ⟨s.toArray⟩)/\w.cell? ⟨b,o+2,none⟩=some (.int .i64 n)/\w.cell? ⟨b,o+3,none⟩=some (.int .i64 p.a)/\w.cell? ⟨b,o+4,none⟩=some (.int .i64 p.l)/\w.cell? ⟨b,o+5,none⟩=some (.int .i64 p.c)/\w.cell? ⟨b,o+6,none⟩=some (.slice A kids.len c) ∧
   w.cell? ⟨b,o+7,none⟩=some (.int .u8 k2)/\w.cell? ⟨b,o+8,none⟩=some (.string ⟨s2.toArray⟩)/\w.cell? ⟨b,o+9,none⟩=some (.int .i64 n2)/\w.cell? ⟨b,o+10,none⟩=some (.int .i64 p2.a)/\w.cell? ⟨b,o+11,none⟩=some (.int .i64 p2.l)/\w.cell? ⟨b,o+12,none⟩=some (.int .i64 p2.c)/\w.cell? ⟨b,o+13,none⟩=some (.slice A2 kids2.len c2)/\w.cell? ⟨b,o+14,none⟩=some (.slice B2 arms2.len bc2):=by
 obtain⟨_,⟨a0,a1,a2,a3,a4,a5⟩,⟨A,c,d1,d2,d3⟩,el,he,_⟩:=h;obtain⟨k2,s2,n2,p2,kids2,arms2,rfl⟩:=Tr.one_nod e el (TrAt.isNods (by intro e;cases e) e b _ he);obtain⟨A2,c2,B2,bc2,hc,hk,ha,_⟩:=he.parts;rcases ha with ⟨_,ha⟩ | ⟨e | e,_⟩
 ·exact⟨A,c,k2,s2,n2,p2,kids2,arms2,A2,c2,B2,bc2,rfl,⟨rfl,d2,d3⟩,hk,ha,a0,a1,a2,a3,a4,a5,d1,hc 0 _ rfl,hc 1 _ rfl,hc 2 _ rfl,hc 3 _ rfl,hc 4 _ rfl,hc 5 _ rfl,hc 6 _ rfl,hc 7 _ rfl⟩
 ·cases e
 ·cases e
theorem box8{w:World}{g:Nat}{t:TypeId}{x0 x1 x2 x3 x4 x5 x6 x7:Value}(h:w.heap[g]?=some (.cells #[x0,x1,x2,x3,x4,x5,x6,x7] t (0,0))) :
  w.cell? ⟨g,0,none⟩=some x0/\w.cell? ⟨g,1,none⟩=some x1/\w.cell? ⟨g,2,none⟩=some x2/\w.cell? ⟨g,3,none⟩=some x3/\w.cell? ⟨g,4,none⟩=some x4/\w.cell? ⟨g,5,none⟩=some x5/\w.cell? ⟨g,6,none⟩=some x6/\w.cell? ⟨g,7,none⟩=some x7:=by
 simp[World.cell?,h]
theorem box7{w:World}{g:Nat}{t:TypeId}{x0 x1 x2 x3 x4 x5 x6:Value}(h:w.heap[g]?=some (.cells #[x0,x1,x2,x3,x4,x5,x6] t (0,0))) :
  w.cell? ⟨g,0,none⟩=some x0/\w.cell? ⟨g,1,none⟩=some x1/\w.cell? ⟨g,2,none⟩=some x2/\w.cell? ⟨g,3,none⟩=some x3/\w.cell? ⟨g,4,none⟩=some x4/\w.cell? ⟨g,5,none⟩=some x5/\w.cell? ⟨g,6,none⟩=some x6:=by
 simp[World.cell?,h]
theorem zE(w:World)(xs:List Value)(t:TypeId):∀ j u,xs[j]?=some u->(w.alloc (.cells xs.toArray t)).cell? ⟨w.heap.size,j,none⟩=some u:=by
 intro j u hu;have h:=blk1 w (.cells xs.toArray t);unfold World.cell?
 simp only[h];simpa using hu
theorem zr(k:Int)(s:List UInt8)(n:Int)(p:Pl)(A:Option Addr)(c:Nat)(B:Option Addr)(bc:Nat)(kids arms:Tr)(Ok:Nat->Prop)(w:World)(hk:KidsTr w Ok .ex A kids.len c kids)(ha:KidsTr w Ok .arms B arms.len bc arms)(hOk:∀ j,Ok j->j<w.heap.size)(hn:kids.len<=1000000)(hm:arms.len<=1000000) :
  Calls Tryz.prog 34 #[.agg #[.int .u8 k,.string ⟨s.toArray⟩,n,p.a,p.l,p.c,.slice A kids.len c,.slice B arms.len bc]] w (ji w Ok .ex (kids.app arms.exs)):=by
 have HK:=hid hk;have HA:=hid ha;have HOK:=hid hOk;have HIA:=hid ha.isArms;obtain⟨kl,hkl⟩:∃ kl,kl=kids.len:=⟨_,rfl⟩
 obtain⟨al,hal⟩:∃ al,al=arms.len:=⟨_,rfl⟩
 have HKL:=hid hkl;have HAL:=hid hal;rw[<- hkl]at hn ⊢;rw[<- hal]at hm ⊢;clear hk ha hOk hkl hal;obtain⟨S,hS⟩:∃ S:ByteArray,S=⟨s.toArray⟩:=⟨_,rfl⟩
 rw[<- hS];clear hS;by_cases ha0:al=0
 ·subst ha0
  go_enter Tryz.func34,Tryz.ntmps34
  go_wp2_with fail
  go_ret
  obtain rfl:=Tr.len_nil arms HAL.out.symm;simp only[Tr.exs,Tr.app_nil];rw[HKL.out];have hb:Bel w (w.alloc (.cells #[.int .u8 k,S,n,p.a,p.l,p.c,.slice A kids.len c,.slice B 0 bc] 43)):=(Bel.refl w).alloc _;exact⟨A,c,rfl,hb,(HK.out.keep fun j hj=>hb.block j (HOK.out j hj)).wide fun j hj=> .inl hj⟩
 ·have e0:((al:Int)==0)=false:=by simp;omega
  obtain⟨i0,hi0,hz0,hz1,hz2⟩:=info_parts qcW;go_enter Tryz.func34,Tryz.ntmps34
  have hb1:Bel w (w.alloc (.cells #[.int .u8 k,S,n,p.a,p.l,p.c,.slice A kl c,.slice B al bc] 43)):=(Bel.refl w).alloc _;have hq1:=blk1 w (.cells #[.int .u8 k,S,n,p.a,p.l,p.c,.slice A kl c,.slice B al bc] 43);have HCL:Hid (∀ W,Bel w W->Calls Tryz.prog 70 #[.slice A kl c] W (qhw W Ok kids)):=hid fun W hW=>qbQ A kl c kids Ok W (by rw[HKL.out];exact HK.out.keep fun j hj=>hW.block j (HOK.out j hj)) (fun j hj=>Nat.lt_of_lt_of_le (HOK.out j hj) hW.size) (by omega);have HB1:=hid hb1;have HQ1:=hid hq1;clear hb1 hq1;go_wp2_with fail
  refine (HCL.out _ HB1.out).mono ?_;rintro e w2 ⟨A',c',vs,rfl,hown,htell,hb2⟩;rw[<- HKL.out]at hown ⊢;have HQ2:=hid (hb2.blk HQ1.out);have HB2:=hid (HB1.out.on hb2);have HT0:=hid htell;have hsz:(w.alloc (.cells #[.int .u8 k,S,n,p.a,p.l,p.c,.slice A kl c,.slice B al bc] 43)).heap.size=w.heap.size+1:=by simp
  rw[hsz]at hown;have HO2:=hid hown;obtain⟨bx,hbx⟩:∃ bx,bx=w.heap.size:=⟨_,rfl⟩
  rw[<- hbx]at HQ2 HO2 ⊢;have HBX:=hid hbx;obtain⟨w1,hw1⟩:∃ w1,w1=w.alloc (.cells #[.int .u8 k,S,n,p.a,p.l,p.c,.slice A kl c,.slice B al bc] 43):=⟨_,rfl⟩
  rw[<- hw1]at hb2 HT0 HB1;have HT1:Hid (Tells w Ok .ex kids vs):=hid ⟨HT0.out.1,HT0.out.2.1,fun w' b' o' hc hkk=>HT0.out.2.2 w' b' o' hc fun j hj=>(hkk j hj).trans (HB1.out.block j (HOK.out j hj)).symm⟩;obtain⟨x0,x1,x2,x3,x4,x5,x6,x7⟩:=box8 HQ2.out;clear hown htell hb2 hsz hbx hw1 HT0 HB1 HCL;go_wp2_with fail
  go_loopw [3,18] (fun v i wr=>∃ (j m:Nat) (A3:Option Addr) (c3:Nat) (us:List Value),j<=al/\m=kl+j/\v=.slice A3 m c3/\i=.int .i64 (j:Int)/\Hid (wr.ownsRow (bx+1) 43 8 (.slice A3 m c3) m us)/\Hid (Tells w Ok .ex (kids.app (arms.exsN j)) us)/\Hid (Bel w wr)) (fun _ i _=>al-(intOf i).toNat)
  case atStart=>exact⟨0,kl,A',c',vs,Nat.zero_le _,rfl,rfl,rfl,HO2,(by rw[Tr.exsN_zero,Tr.app_nil];exact HT1),HB2⟩
  case round=>
   clear x0 x1 x2 x3 x4 x5 x6 x7 HT1 HO2;obtain⟨j,m,A3,c3,us,hj,hm3,rfl,rfl,HO,HT,HB⟩:=hrel;by_cases hlt:j<al
   ·obtain⟨ub,uo,eB,hob,hfo⟩:=HA.out.2.2 (by rw[<- HAL.out];omega)
    subst eB;obtain⟨k',s',n',p',kd,e',en,hd⟩:=TrAt.arm_at arms j ub uo hfo (by rw[<- HAL.out];exact hlt);obtain⟨A4,c4,k2,s2,n2,p2,kids2,arms2,A2,c2,B2,bc2,ee,hkd,hk2,ha2,y0,y1,y2,y3,y4,y5,y6,y7,y8,y9,y10,y11,y12,y13,y14⟩:=qcH hd;subst ee;have HT3:Hid (Tells w Ok .ex (kids.app (arms.exsN (j+1))) (us++nodV .ex k2 s2 n2 p2 A2 kids2.len c2 B2 arms2.len bc2)):=hid (by
     rw[Tr.exsN_succ arms j HIA.out en,<- Tr.app_assoc];exact HT.out.app (Tells.one (by intro e;cases e) hk2 (.inl ⟨rfl,ha2⟩)))
    have hc:=(Bel.cells HB.out).1;have hob':=HOK.out ub hob;have z0:=(hc ub _ hob').trans y0;have z1:=(hc ub _ hob').trans y1;have z2:=(hc ub _ hob').trans y2;have z3:=(hc ub _ hob').trans y3;have z4:=(hc ub _ hob').trans y4;have z5:=(hc ub _ hob').trans y5;have z6:=(hc ub _ hob').trans y6;have z7:=(hc ub _ hob').trans y7;have z8:=(hc ub _ hob').trans y8;have z9:=(hc ub _ hob').trans y9;have z10:=(hc ub _ hob').trans y10;have z11:=(hc ub _ hob').trans y11;have z12:=(hc ub _ hob').trans y12;have z13:=(hc ub _ hob').trans y13;have z14:=(hc ub _ hob').trans y14;obtain⟨l1,hl1⟩:∃ l,l=kids2.len:=⟨_,rfl⟩
    obtain⟨l2,hl2⟩:∃ l,l=arms2.len:=⟨_,rfl⟩
    obtain⟨l3,hl3⟩:∃ l,l=kd.len:=⟨_,rfl⟩
    rw[<- hl1]at z13 HT3;rw[<- hl2]at z14 HT3;rw[<- hl3]at z6;obtain⟨T,hT⟩:∃ S:ByteArray,S=⟨s'.toArray⟩:=⟨_,rfl⟩
    obtain⟨T2,hT2⟩:∃ S:ByteArray,S=⟨s2.toArray⟩:=⟨_,rfl⟩
    rw[<- hT]at z1;rw[<- hT2]at z8;have HT4:Hid (Tells w Ok .ex (kids.app (arms.exsN (j+1))) (us++[.int .u8 k2,.string T2,.int .i64 n2,.int .i64 p2.a,.int .i64 p2.l,.int .i64 p2.c,.slice A2 l1 c2,.slice B2 l2 bc2])):=hid (by rw[hT2];exact HT3.out);have i1:(0:Int)<=(j:Int):=by omega
    have i2:(j:Int)<(al:Int):=by omega
    have hub:ub<wr.heap.size:=Nat.lt_of_lt_of_le hob' HB.out.size;clear y0 y1 y2 y3 y4 y5 y6 y7 y8 y9 y10 y11 y12 y13 y14 hc hd hfo en hkd hk2 ha2 HT3 hl1 hl2 hl3 hT hT2 HT hob';go_wp2_with (at_builtin;refine jB ?_)
    unfold jj;refine wpList_append_own_at _ rfl _ _ 40 rfl (bx+1) 43 i0 _ 8 104 Tryz.underlying40 hi0 hz0 hz1 hz2 rfl (by decide) (.slice A3 m c3) m _ rfl ((HO.out.alloc _).alloc _) ⟨wr.heap.size+1,0,none⟩ 1 1 [.int .u8 k2,T2,n2,p2.a,p2.l,p2.c,.slice A2 l1 c2,.slice B2 l2 bc2] rfl rfl (fun j u hu=>by
     rw[Addr.add_lit,Nat.zero_add];have h:=zE (wr.alloc (.cells #[.int .u8 k',T,n',p'.a,p'.l,p'.c,.slice A4 l3 c4,.int .u8 k2,T2,n2,p2.a,p2.l,p2.c,.slice A2 l1 c2,.slice B2 l2 bc2] 113)) _ 43 j u hu;rw[World.size_alloc]at h;exact h) (by simp[Value.oneCell']) (by unfold maxLen;omega) (by omega) (by simp;have:=HBX.out;have:=HB.out.size;omega) ?_
    intro v' w5 hown5 hg5 _ hat5;obtain⟨g5,c5,rfl⟩:=zB hown5;have hb5:Bel w w5:=Below.grown ((HB.out.alloc _).alloc _) hg5 (by simp;have:=HB.out.size;omega) (fun x hx=>by have h:=(HO.out.lt x hx).1;have:=HBX.out;omega);have HB5:=hid hb5;have HO5:=hid hown5;have HLT:=hid hlt;clear hown5 hg5 hat5 hb5 z0 z1 z2 z3 z4 z5 z6 z7 z8 z9 z10 z11 z12 z13 z14 HO HB;go_wp2_with fail
    go_roundw
    case rel=>exact⟨j+1,m+1,_,c5,_,HLT.out,by omega,(by rw[hm3]),by go_num,HO5,HT4,HB5⟩
    case measure=>have:=HLT.out;simp[intOf];omega
   ·obtain rfl:j=al:=by omega
    go_wp2_with fail
    go_ret
    have hl:m=(kids.app arms.exs).len:=by rw[hm3,Tr.app_len,Tr.exs_len arms HIA.out,HKL.out,HAL.out]
    have ht:=HT.out;rw[HAL.out,Tr.exsN_all arms HIA.out]at ht;have ho:=HO.out;rw[hl]at ho ⊢;exact⟨A3,c3,rfl,HB.out,ht.row HB.out HOK.out (by have:=HBX.out;omega) ho⟩
theorem zt(k:Int)(s:List UInt8)(n:Int)(p:Pl)(A:Option Addr)(c:Nat)(B:Option Addr)(bc:Nat)(kids arms:Tr)(Ok:Nat->Prop)(w:World)(hk:KidsTr w Ok .ex A kids.len c kids)(ha:KidsTr w Ok .arms B arms.len bc arms)(hOk:∀ j,Ok j->j<w.heap.size)(hn:kids.len<=1000000)(hm:arms.len<=1000000) :
  Calls Tryz.prog 72 #[.agg #[.int .u8 k,.string ⟨s.toArray⟩,n,p.a,p.l,p.c,.slice A kids.len c,.slice B arms.len bc]] w (ji w Ok .pat arms.pats):=by
 have HK:=hid hk;have HA:=hid ha;have HOK:=hid hOk;have HIA:=hid ha.isArms;obtain⟨kl,hkl⟩:∃ kl,kl=kids.len:=⟨_,rfl⟩
 obtain⟨al,hal⟩:∃ al,al=arms.len:=⟨_,rfl⟩
 have HKL:=hid hkl;have HAL:=hid hal;rw[<- hkl]at hn ⊢;rw[<- hal]at hm ⊢;clear hk ha hOk hkl hal;obtain⟨S,hS⟩:∃ S:ByteArray,S=⟨s.toArray⟩:=⟨_,rfl⟩
 rw[<- hS];clear hS;obtain⟨i0,hi0,hz0,hz1,hz2⟩:=info_parts qe4;have hb1:Bel w (w.alloc (.cells #[.int .u8 k,S,n,p.a,p.l,p.c,.slice A kl c,.slice B al bc] 43)):=(Bel.refl w).alloc _;have hsz:(w.alloc (.cells #[.int .u8 k,S,n,p.a,p.l,p.c,.slice A kl c,.slice B al bc] 43)).heap.size=w.heap.size+1:=by simp
 have HB1:=hid hb1;have HSZ:=hid hsz;clear hb1 hsz;go_enter Tryz.func72,Tryz.ntmps72
 go_wp2_with fail
 obtain⟨bx,hbx⟩:∃ bx,bx=w.heap.size:=⟨_,rfl⟩
 have HBX:=hid hbx;clear hbx;go_loopw [3,9] (fun v i wr=>∃ (j m:Nat) (A3:Option Addr) (c3:Nat) (us:List Value),j<=al/\m=j/\v=.slice A3 m c3/\i=.int .i64 (j:Int)/\Hid (wr.ownsRow (bx+1) 111 7 (.slice A3 m c3) m us)/\Hid (Tells w Ok .pat (arms.patsN j) us)/\Hid (Bel w wr)/\Hid (w.heap.size+1<=wr.heap.size)) (fun _ i _=>al-(intOf i).toNat)
 case atStart=>exact⟨0,0,none,0,[],Nat.zero_le _,rfl,rfl,rfl,hid (World.ownsRow_nil _ _ _ _),hid (by rw[Tr.patsN_zero];exact Tells.nil),HB1,hid (by rw[HSZ.out];exact Nat.le_refl _)⟩
 case round=>
  obtain⟨j,m,A3,c3,us,hj,hm3,rfl,rfl,HO,HT,HB,HSB⟩:=hrel;by_cases hlt:j<al
  ·obtain⟨ub,uo,eB,hob,hfo⟩:=HA.out.2.2 (by rw[<- HAL.out];omega)
   subst eB;obtain⟨k',s',n',p',kd,e',en,hd⟩:=TrAt.arm_at arms j ub uo hfo (by rw[<- HAL.out];exact hlt);obtain⟨A4,c4,k2,s2,n2,p2,kids2,arms2,A2,c2,B2,bc2,ee,hkd,hk2,ha2,y0,y1,y2,y3,y4,y5,y6,y7,y8,y9,y10,y11,y12,y13,y14⟩:=qcH hd;subst ee;have HT3:Hid (Tells w Ok .pat (arms.patsN (j+1)) (us++nodV .pat k' s' n' p' A4 kd.len c4 none 0 0)):=hid (by
    rw[Tr.patsN_succ arms j HIA.out en];exact HT.out.app (Tells.one (by intro e;cases e) hkd (.inr ⟨.inl rfl,rfl⟩)))
   have hc:=(Bel.cells HB.out).1;have hob':=HOK.out ub hob;have z0:=(hc ub _ hob').trans y0;have z1:=(hc ub _ hob').trans y1;have z2:=(hc ub _ hob').trans y2;have z3:=(hc ub _ hob').trans y3;have z4:=(hc ub _ hob').trans y4;have z5:=(hc ub _ hob').trans y5;have z6:=(hc ub _ hob').trans y6;have z7:=(hc ub _ hob').trans y7;have z8:=(hc ub _ hob').trans y8;have z9:=(hc ub _ hob').trans y9;have z10:=(hc ub _ hob').trans y10;have z11:=(hc ub _ hob').trans y11;have z12:=(hc ub _ hob').trans y12;have z13:=(hc ub _ hob').trans y13;have z14:=(hc ub _ hob').trans y14;obtain⟨l1,hl1⟩:∃ l,l=kids2.len:=⟨_,rfl⟩
   obtain⟨l2,hl2⟩:∃ l,l=arms2.len:=⟨_,rfl⟩
   obtain⟨l3,hl3⟩:∃ l,l=kd.len:=⟨_,rfl⟩
   rw[<- hl1]at z13;rw[<- hl2]at z14;rw[<- hl3]at z6 HT3;obtain⟨T,hT⟩:∃ S:ByteArray,S=⟨s'.toArray⟩:=⟨_,rfl⟩
   obtain⟨T2,hT2⟩:∃ S:ByteArray,S=⟨s2.toArray⟩:=⟨_,rfl⟩
   rw[<- hT]at z1;rw[<- hT2]at z8;have HT4:Hid (Tells w Ok .pat (arms.patsN (j+1)) (us++[.int .u8 k',.string T,.int .i64 n',.int .i64 p'.a,.int .i64 p'.l,.int .i64 p'.c,.slice A4 l3 c4])):=hid (by rw[hT];exact HT3.out);have i1:(0:Int)<=(j:Int):=by omega
   have i2:(j:Int)<(al:Int):=by omega
   have hub:ub<wr.heap.size:=Nat.lt_of_lt_of_le hob' HB.out.size;clear y0 y1 y2 y3 y4 y5 y6 y7 y8 y9 y10 y11 y12 y13 y14 hc hd hfo en hkd hk2 ha2 HT3 hl1 hl2 hl3 hT hT2 HT hob';go_wp2_with (at_builtin;refine jB ?_)
   unfold jj;refine wpList_append_own_at _ rfl _ _ 109 rfl (bx+1) 111 i0 _ 7 80 Tryz.underlying109 hi0 hz0 hz1 hz2 rfl (by decide) (.slice A3 m c3) m _ rfl ((HO.out.alloc _).alloc _) ⟨wr.heap.size+1,0,none⟩ 1 1 [.int .u8 k',T,n',p'.a,p'.l,p'.c,.slice A4 l3 c4] rfl rfl (fun j u hu=>by
    rw[Addr.add_lit,Nat.zero_add];have h:=zE (wr.alloc (.cells #[.int .u8 k',T,n',p'.a,p'.l,p'.c,.slice A4 l3 c4,.int .u8 k2,T2,n2,p2.a,p2.l,p2.c,.slice A2 l1 c2,.slice B2 l2 bc2] 113)) _ 111 j u hu;rw[World.size_alloc]at h;exact h) (by simp[Value.oneCell']) (by unfold maxLen;omega) (by omega) (by simp;have:=HBX.out;have:=HB.out.size;have:=HSB.out;omega) ?_
   intro v' w5 hown5 hg5 _ hat5;obtain⟨g5,c5,rfl⟩:=zB hown5;have hb5:Bel w w5:=Below.grown ((HB.out.alloc _).alloc _) hg5 (by simp;have:=HB.out.size;omega) (fun x hx=>by have h:=(HO.out.lt x hx).1;have:=HBX.out;omega);have HB5:=hid hb5;have HSB5:Hid (w.heap.size+1<=w5.heap.size):=hid (by have h:=hg5.size;simp at h;have:=HSB.out;omega);have HO5:=hid hown5;have HLT:=hid hlt;clear hown5 hg5 hat5 hb5 z0 z1 z2 z3 z4 z5 z6 z7 z8 z9 z10 z11 z12 z13 z14 HO HB;go_wp2_with fail
   go_roundw
   case rel=>exact⟨j+1,m+1,_,c5,_,HLT.out,by omega,(by rw[hm3]),by go_num,HO5,HT4,HB5,HSB5⟩
   case measure=>have:=HLT.out;simp[intOf];omega
  ·obtain rfl:j=al:=by omega
   go_wp2_with fail
   go_ret
   have hl:m=arms.pats.len:=by rw[hm3,Tr.pats_len arms HIA.out,HAL.out]
   have ht:=HT.out;rw[HAL.out,Tr.patsN_all arms HIA.out]at ht;have ho:=HO.out;rw[hl]at ho ⊢;exact⟨A3,c3,rfl,HB.out,ht.row HB.out HOK.out (by have:=HBX.out;omega) ho⟩
theorem zJ(k:Int)(s:List UInt8)(n:Int)(p:Pl)(A:Option Addr)(l c:Nat)(w:World):Calls Tryz.prog 73 #[.agg #[.int .u8 k,.string ⟨s.toArray⟩,n,p.a,p.l,p.c,.slice A l c]] w fun e w'=>e=.returned (.slice A l c)/\Bel w w':=by
 go_enter Tryz.func73,Tryz.ntmps73
 go_wp2
 go_ret
 exact⟨rfl,(Bel.refl w).alloc _⟩
theorem ZO(k:Int)(s:List UInt8)(n:Int)(p:Pl)(A:Option Addr)(l c:Nat)(w:World):Calls Tryz.prog 38 #[.agg #[.int .u8 k,.string ⟨s.toArray⟩,.int .u8 n,p.a,p.l,p.c,.slice A l c]] w fun e w'=>e=.returned (.slice A l c)/\Bel w w':=by
 go_enter Tryz.func38,Tryz.ntmps38
 go_wp2
 go_ret
 exact⟨rfl,(Bel.refl w).alloc _⟩
end Go.Proofs.YtfpoelklhekfaaaGreatDoor.Mu
namespace Go.Proofs.YtfpoelklhekfaaaGreatDoor.Mu
open Go Go.RowKit Go.Shelf
set_option linter.unusedVariables false
structure Nd where
 v:Vis
 p:Pl
 A:Option Addr
 ca:Nat
 B:Option Addr
 cb:Nat
def Nd.at_(w:World)(Ok:Nat->Prop)(sh:Sh)(x:Nd):Prop:=
 KidsTr w Ok sh x.A x.v.kids.len x.ca x.v.kids/\((sh=.ex/\KidsTr w Ok .arms x.B x.v.arms.len x.cb x.v.arms)∨((sh=.pat∨sh=.ty)/\x.v.arms.len=0))
theorem Nd.at_.keep{w w':World}{Ok Ok':Nat->Prop}{sh:Sh}{x:Nd}(h:x.at_ w Ok sh)(hk:∀ j,Ok j->w'.heap[j]?=w.heap[j]?)(hw:∀ j,Ok j->Ok' j):x.at_ w' Ok' sh:=by
 refine⟨(h.1.keep hk).wide hw,?_⟩;rcases h.2 with ⟨e,h2⟩ | h2
 ·exact .inl ⟨e,(h2.keep hk).wide hw⟩
 ·exact .inr h2
structure It where
 A:Option Addr
 c:Nat
 f:Tr
def It.val(x:It):Value:= .slice x.A x.f.len x.c
def itV(S:List It):List Value:=(S.map It.val).reverse
theorem Qx(x:It)(S:List It):itV (x::S)=itV S++[x.val]:=by simp[itV]
theorem jv(S:List It):(itV S).length=S.length:=by simp[itV]
def OkI(w:World)(Y:Nat->Prop)(A:Option Addr)(j:Nat):Prop:=j<w.heap.size/\¬ Y j/\∀ o,A≠some ⟨j,o,none⟩
def WsI(w:World)(Y:Nat->Prop)(A:Option Addr)(sh:Sh)(S:List It):Prop:=∀ x∈S,KidsTr w (OkI w Y A) sh x.A x.f.len x.c x.f
theorem OkI.step{w w':World}{Y Y':Nat->Prop}{A A':Option Addr}(hs:w.heap.size<=w'.heap.size)(hy:∀ j,Y' j->Y j∨w.heap.size<=j)(ha:∀ j o,A'=some ⟨j,o,none⟩->(∃ o',A=some ⟨j,o',none⟩)∨w.heap.size<=j){j:Nat}(h:OkI w Y A j):OkI w' Y' A' j:=by
 obtain⟨h1,h2,h3⟩:=h;refine⟨Nat.lt_of_lt_of_le h1 hs,fun hj=>?_,fun o ho=>?_⟩
 ·rcases hy j hj with h | h
  ·exact h2 h
  ·omega
 ·rcases ha j o ho with ⟨o',h⟩ | h
  ·exact h3 o' h
  ·omega
theorem KidsTr.stepI{w w':World}{Y Y':Nat->Prop}{A A':Option Addr}{sh:Sh}{B:Option Addr}{l c:Nat}{f:Tr}(h:KidsTr w (OkI w Y A) sh B l c f)(hs:w.heap.size<=w'.heap.size)(hk:∀ j,OkI w Y A j->w'.heap[j]?=w.heap[j]?)(hy:∀ j,Y' j->Y j∨w.heap.size<=j)(ha:∀ j o,A'=some ⟨j,o,none⟩->(∃ o',A=some ⟨j,o',none⟩)∨w.heap.size<=j):KidsTr w' (OkI w' Y' A') sh B l c f:=
 (h.keep hk).wide fun j hj=>OkI.step hs hy ha hj
theorem WsI.step{w w':World}{Y Y':Nat->Prop}{A A':Option Addr}{sh:Sh}{S:List It}(h:WsI w Y A sh S)(hs:w.heap.size<=w'.heap.size)(hk:∀ j,OkI w Y A j->w'.heap[j]?=w.heap[j]?)(hy:∀ j,Y' j->Y j∨w.heap.size<=j)(ha:∀ j o,A'=some ⟨j,o,none⟩->(∃ o',A=some ⟨j,o',none⟩)∨w.heap.size<=j):WsI w' Y' A' sh S:=
 fun x hx=>(h x hx).stepI hs hk hy ha
def msS:List It->Nat
 | []=>0
 | x::S=>2*x.f.size+1+msS S
def todo:List It->List Vis
 | []=>[]
 | x::S=>x.f.pre S.length++todo S
structure WSt (T0 TR TK:TypeId) (fk:Nat) (sh:Sh) (f0:Tr) (J:List Nd->(Nat->Prop)->World->Prop) (lb kb base:Nat) (lv:Value) (Y0:Nat->Prop) (W0:World) (A:Option Addr) (cc m:Nat) (S:List It) (pre:List Nd) (Y:Nat->Prop) (w:World):Prop where
 len:m=S.length
 row:w.ownsRow base T0 1 (.slice A m cc) m (itV S)
 ny:∀ j o,A=some ⟨j,o,none⟩->¬ Y j
 bl:w.heap[lb]?=some (.cells #[lv] TR (0,0))
 bk:w.heap[kb]?=some (.cells #[.func (.func fk) #[] #[]] TK (0,0))
 lt:lb<base/\kb<base
 nl:¬ Y lb/\¬ Y kb
 its:WsI w Y A sh S
 j:J pre Y w
 yl:∀ k,Y k->k<w.heap.size/\(Y0 k∨W0.heap.size<=k)
 mv:Mv Y0 W0 w
 bs:base<=w.heap.size
 what:f0.pre 0=pre.map Nd.v++todo S
theorem jH{w:World}{g:Nat}{t:TypeId}{x:Value}(h:w.heap[g]?=some (.cells #[x] t (0,0))):w.cell? ⟨g,0,none⟩=some x:=by simp[World.cell?,h]
theorem qaC{w:World}{base:Nat}{T0:TypeId}{A:Option Addr}{cc m:Nat}{x:It}{S:List It}(hm:m=S.length)(h:w.ownsRow base T0 1 (.slice A (m+1) cc) (m+1) (itV (x::S))) :
  ∃ g,A=some ⟨g,0,none⟩/\base<=g/\g<w.heap.size/\m+1<=cc/\cc<=maxLen/\w.cell? ⟨g,m,none⟩=some x.val/\w.frozen? ⟨g,m,none⟩=false/\w.ownsRow base T0 1 (.slice (some ⟨g,0,none⟩) m cc) m (itV S):=by
 have h':=h;obtain⟨hl,hr⟩:=h;rcases hr with ⟨_,h0⟩ | ⟨g,cap,cur,hv,hb,hh,hnc,hmx,hcs,ht⟩
 ·omega
 ·cases hv
  refine⟨g,rfl,hb,(Array.getElem?_eq_some_iff.1 hh).1,hnc,hmx,?_,h'.frozenAt m,⟨by rw[jv,hm,Nat.mul_one],.inr ⟨g,cc,cur,rfl,hb,hh,by omega,hmx,hcs,?_⟩⟩⟩
  ·have h5:=h'.cells (g:=g) rfl m x.val (by rw[Qx,List.getElem?_append_right (by rw[jv,hm];exact Nat.le_refl _),jv,hm,Nat.sub_self];rfl)
   rwa [Addr.add_lit,Nat.zero_add]at h5
  ·have h4:=congrArg (List.take m) ht
   rw[List.take_take,Qx,List.take_append_of_le_length (by rw[jv,hm];exact Nat.le_refl _),List.take_of_length_le (l:=itV S) (by rw[jv,hm];exact Nat.le_refl _)]at h4;rw[<- h4];congr 1
   omega
theorem qd2{w w':World}{base e size n:Nat}{u:Value}{xs:List Value}(h:w.ownsRow base e size u n xs)(hk:∀ x,u.ownBlock=some x->w'.heap[x]?=w.heap[x]?):w'.ownsRow base e size u n xs:=by
 obtain⟨hl,hr⟩:=h;refine⟨hl,?_⟩;rcases hr with h0 | ⟨g,cap,cur,hv,hb,hh,rest⟩
 ·exact .inl h0
 ·exact .inr ⟨g,cap,cur,hv,hb,(hk g (by rw[hv];rfl)).trans hh,rest⟩
theorem qha{w:World}{base:Nat}{T0:TypeId}{g cc m:Nat}{x y:It}{S:List It}(hm:m=S.length)(h:w.ownsRow base T0 1 (.slice (some ⟨g,0,none⟩) (m+1) cc) (m+1) (itV (x::S))) :
  (w.setCell ⟨g,m,none⟩ y.val).ownsRow base T0 1 (.slice (some ⟨g,0,none⟩) (m+1) cc) (m+1) (itV (y::S)):=by
 have h2:=(World.ownsRow.stored h m y.val).1;rw[Qx]at h2 ⊢;rw[List.set_append_right _ _ (by rw[jv,hm];exact Nat.le_refl _),jv,hm,Nat.sub_self]at h2;rw[hm];exact h2
section
variable {T0 TR TK : TypeId} {fk : Nat} {sh : Sh} {f0 : Tr} {J : List Nd -> (Nat -> Prop) -> World -> Prop} {lb kb base : Nat} {lv : Value} {Y0 : Nat -> Prop} {W0 : World} {cc mm g : Nat} {S : List It} {pre : List Nd} {Y : Nat -> Prop} {wr : World}
variable {it : It} {k : Int} {s : List UInt8} {n : Int} {p : Pl} {kids arms rest : Tr} {RA : Option Addr} {RC : Nat} {x : Nd} {W2 : World} {ob : Obj}
theorem WSt.sel(h:WSt T0 TR TK fk sh f0 J lb kb base lv Y0 W0 (some ⟨g,0,none⟩) cc (mm+1) (it::S) pre Y wr)(hW2:W2=(wr.setCell ⟨g,mm,none⟩ (.slice RA rest.len RC)).alloc ob) :
  W2.heap.size=wr.heap.size+1/\(∀ j,j<wr.heap.size->j≠g->W2.heap[j]?=wr.heap[j]?)/\W2.heap[wr.heap.size]?=some ob/\Mv (fun j=>j=g) wr W2:=by
 have e:(wr.setCell ⟨g,mm,none⟩ (.slice RA rest.len RC)).heap.size=wr.heap.size:=by simp
 refine⟨by rw[hW2];simp,fun j hj hn=>?_,?_,?_⟩
 ·rw[hW2]
  refine (((Bel.refl _).alloc ob).block j (by rw[e];exact hj)).trans (Below.heap_setCell wr _ _ j hn)
 ·rw[hW2,<- e];exact blk1 _ ob
 ·rw[hW2];exact (Mv.set_ (Z:=fun j=>j=g) (p:=⟨g,mm,none⟩) (Mv.refl _ wr) (.inl rfl) _).alloc ob
theorem WSt.hand(hJ:Zv J)(h:WSt T0 TR TK fk sh f0 J lb kb base lv Y0 W0 (some ⟨g,0,none⟩) cc (mm+1) (it::S) pre Y wr)(hmm:mm=S.length)(hit:it.f=.nod k s n p kids arms rest)(hx:x.v=⟨mm,k,s,n,kids,arms⟩)(hat:x.at_ wr (OkI wr Y (some ⟨g,0,none⟩)) sh)
  (hW2:W2=(wr.setCell ⟨g,mm,none⟩ (.slice RA rest.len RC)).alloc ob) :
  ((∃ suf,f0.pre 0=pre.map Nd.v++x.v::suf)/\x.at_ W2 (fun j=>j<W2.heap.size/\¬ Y j) sh)/\J pre Y W2/\∀ k,Y k->k<W2.heap.size:=by
 obtain⟨s1,s2,s3,s4⟩:=h.sel hW2;have hg:¬ Y g:=h.ny g 0 rfl;refine⟨⟨⟨kids.pre (mm+1)++arms.pre (mm+1)++rest.pre mm++todo S,?_⟩,hat.keep (fun j hj=>s2 j hj.1 (fun e=>hj.2.2 0 (by rw[e]))) (fun j hj=>⟨by have:=hj.1;omega,hj.2.1⟩)⟩,hJ _ _ _ _ h.j (by omega) (fun j hj=>s2 j (h.yl j hj).1 (fun e=>hg (e ▸ hj))),fun j hj=>by have:=(h.yl j hj).1;omega⟩;rw[h.what,hx];simp only[todo,hit,Tr.pre,<- hmm,List.cons_append]
theorem WSt.row3{W3 W4:World}(h:WSt T0 TR TK fk sh f0 J lb kb base lv Y0 W0 (some ⟨g,0,none⟩) cc (mm+1) (it::S) pre Y wr)(hmm:mm=S.length)(hW2:W2=(wr.setCell ⟨g,mm,none⟩ (.slice RA rest.len RC)).alloc ob)(hgl:g<wr.heap.size)(hmv3:Mv Y W2 W3)(hb4:Bel W3 W4) :
  W4.ownsRow base T0 1 (.slice (some ⟨g,0,none⟩) (mm+1) cc) (mm+1) (itV (⟨RA,RC,rest⟩::S)):=by
 obtain⟨s1,s2,s3,s4⟩:=h.sel hW2;have hg:¬ Y g:=h.ny g 0 rfl;have h1:=qha (y:=⟨RA,RC,rest⟩) hmm h.row;have h2:W2.ownsRow base T0 1 (.slice (some ⟨g,0,none⟩) (mm+1) cc) (mm+1) (itV (⟨RA,RC,rest⟩::S)):=by rw[hW2];exact h1.alloc ob
 refine qp (qd2 h2 fun j hj=>?_) hb4;cases hj
 exact hmv3.block g (by omega) hg
theorem WSt.next{W3 W4 w5:World}{Y3:Nat->Prop}{K:It}{v':Value}{ob2:Obj}(hJ:Zv J)(h:WSt T0 TR TK fk sh f0 J lb kb base lv Y0 W0 (some ⟨g,0,none⟩) cc (mm+1) (it::S) pre Y wr)(hmm:mm=S.length)(hit:it.f=.nod k s n p kids arms rest)(hx:x.v=⟨mm,k,s,n,kids,arms⟩)
  (hres:KidsTr wr (OkI wr Y (some ⟨g,0,none⟩)) sh RA rest.len RC rest) (hW2:W2=(wr.setCell ⟨g,mm,none⟩ (.slice RA rest.len RC)).alloc ob) (hgl:g<wr.heap.size) (hbg:base<=g)
  (hmv3:Mv Y W2 W3) (hy3:∀ k,Y3 k->k<W3.heap.size/\(Y k∨W2.heap.size<=k)) (hj3:J (pre++[x]) Y3 W3) (hb4:Bel W3 W4) (hK:KidsTr W4 (J7 W3 (OkI W3 Y3 (some ⟨g,0,none⟩)) W4) sh K.A K.f.len K.c K.f) (hpre:∀ d,K.f.pre d=kids.pre d++arms.pre d)
  (hbase:W0.heap.size<=base) (hown5:w5.ownsRow base T0 1 v' (mm+1+1) (itV (⟨RA,RC,rest⟩::S)++[K.val])) (hg5:(W4.alloc ob2).grownBy w5 (some g)) (hat5:v'.ownBlock=some g∨v'.ownBlock=some (W4.alloc ob2).heap.size) :
  ∃ g5 c5,v'=.slice (some ⟨g5,0,none⟩) (mm+1+1) c5/\WSt T0 TR TK fk sh f0 J lb kb base lv Y0 W0 (some ⟨g5,0,none⟩) c5 (mm+1+1) (K::⟨RA,RC,rest⟩::S) (pre++[x]) Y3 w5:=by
 obtain⟨g5,c5,rfl⟩:=zB hown5;obtain⟨s1,s2,s3,s4⟩:=h.sel hW2;have hg:¬ Y g:=h.ny g 0 rfl;have b4:Bel W3 (W4.alloc ob2):=hb4.alloc ob2;have z5:W4.heap.size+1<=w5.heap.size:=by have:=hg5.size;simpa using this
 have z3:=hmv3.size;have z4:=hb4.size;have k5:∀ j,j<W3.heap.size->j≠g->w5.heap[j]?=W3.heap[j]?:=fun j hj hn=>(hg5.block j (Nat.lt_of_lt_of_le hj b4.size) (fun e=>hn (by cases e;rfl))).trans (b4.block j hj);have k2:∀ j,j<wr.heap.size->j≠g->¬ Y j->w5.heap[j]?=wr.heap[j]?:=fun j hj hn hy=>(k5 j (by omega) hn).trans ((hmv3.block j (by omega) hy).trans (s2 j hj hn));have hgn:g5=g∨W4.heap.size<=g5:=by
  rcases hat5 with e | e
  ·left;cases e;rfl
  ·right;simp[Value.ownBlock]at e;omega
 have hy5:∀ j,Y3 j->Y j∨wr.heap.size<=j:=fun j hj=>(hy3 j hj).2.imp id (fun h=>by omega);have ha5:∀ j o,(some ⟨g5,0,none⟩:Option Addr)=some ⟨j,o,none⟩->(∃ o',(some ⟨g,0,none⟩:Option Addr)=some ⟨j,o',none⟩)∨wr.heap.size<=j:=fun j o e=>by
  cases e
  rcases hgn with rfl | h
  ·exact .inl ⟨0,rfl⟩
  ·right;omega
 have hno:∀ j,Y3 j->j≠g:=fun j hj e=>by
  rcases (hy3 j hj).2 with h | h
  ·exact hg (e ▸ h)
  ·omega
 refine⟨g5,c5,rfl,by simp[hmm],by rw[Qx];exact hown5,fun j o e hj=>?_,?_,?_,h.lt,⟨fun hj=>?_,fun hj=>?_⟩,?_,hJ _ _ _ _ hj3 (by omega) (fun j hj=>k5 j (hy3 j hj).1 (hno j hj)),fun j hj=>⟨by have:=(hy3 j hj).1;omega,?_⟩,?_,by have:=h.bs;omega,?_⟩
 ·cases e
  rcases hgn with rfl | h
  ·exact hno _ hj rfl
  ·have:=(hy3 _ hj).1;omega
 ·exact (k2 lb (by have:=h.lt;have:=h.bs;omega) (by have:=h.lt;omega) h.nl.1).trans h.bl
 ·exact (k2 kb (by have:=h.lt;have:=h.bs;omega) (by have:=h.lt;omega) h.nl.2).trans h.bk
 ·rcases hy5 _ hj with e | e
  ·exact h.nl.1 e
  ·have:=h.lt;have:=h.bs;omega
 ·rcases hy5 _ hj with e | e
  ·exact h.nl.2 e
  ·have:=h.lt;have:=h.bs;omega
 ·intro y hy
  have hkeep:∀ j,OkI wr Y (some ⟨g,0,none⟩) j->w5.heap[j]?=wr.heap[j]?:=fun j hj=>k2 j hj.1 (fun e=>hj.2.2 0 (by rw[e])) hj.2.1;rcases List.mem_cons.1 hy with rfl | hy
  ·refine (hK.keep fun j hj=>?_).wide fun j hj=>?_
   ·have hjl:j<W4.heap.size/\j≠g:=by
     rcases hj with hj | hj
     ·exact⟨by have:=hj.1;omega,fun e=>hj.2.2 0 (by rw[e])⟩
     ·exact⟨hj.2,by omega⟩
    exact (hg5.block j (by simp;omega) (fun e=>hjl.2 (by cases e;rfl))).trans (((Bel.refl W4).alloc ob2).block j hjl.1)
   ·rcases hj with hj | hj
    ·refine⟨by have:=hj.1;omega,hj.2.1,fun o e=>?_⟩
     cases e
     rcases hgn with rfl | h
     ·exact hj.2.2 0 rfl
     ·have:=hj.1;omega
    ·refine⟨by omega,fun e=>by have:=(hy3 j e).1;omega,fun o e=>?_⟩
     cases e
     rcases hgn with h | h
     ·omega
     ·omega
  ·rcases List.mem_cons.1 hy with rfl | hy
   ·exact hres.stepI (by omega) hkeep hy5 ha5
   ·exact (h.its y (List.mem_cons_of_mem _ hy)).stepI (by omega) hkeep hy5 ha5
 ·rcases (hy3 j hj).2 with h' | h'
  ·exact (h.yl j h').2
  ·right;have:=h.bs;omega
 ·have m1:=h.mv.trans s4 (fun j hj=> .inr (by omega))
  have m2:=m1.trans hmv3 (fun j hj=>(h.yl j hj).2);have m3:=m2.trans (Mv.of_bel (Z:=fun _=>False) b4) (fun j hj=>hj.elim);exact m3.grown hg5 (fun j hj=> .inr (by cases hj;omega))
 ·rw[h.what]
  simp only[todo,hit,Tr.pre,<- hmm,List.map_append,List.map_cons,List.map_nil,hx,List.length_cons,hpre,List.append_assoc,List.cons_append,List.nil_append]
end
def Tr.hds(q:Tr->Tr->Bool):Tr->Tr->Bool
 | .nil,.nil=>true
 | .nod k s n _ _ b r,.nod k' s' n' _ _ b' r'=>decide (k=k')&&decide (s=s')&&decide (n=n')&&q b b'&&r.hds q r'
 | _,_=>false
def Tr.kidsSame:Tr->Tr->Bool
 | .nod _ _ _ _ a b r,.nod _ _ _ _ a' b' r'=>(a.app b.exs).same (a'.app b'.exs)&&r.kidsSame r'
 | _,_=>true
theorem Tr.app_same:∀ a a' x x':Tr,x.len=x'.len->((a.app x).same (a'.app x')=(a.same a'&&x.same x'))
 | .nil,.nil,x,x',_=>by simp[Tr.app,Tr.same]
 | .nod k s n p a b r,.nod k' s' n' p' a' b' r',x,x',h=>by
  simp only[Tr.app,Tr.same,Tr.app_same r r' x x' h,Bool.and_assoc]
 | .arm k s n p a b r,.arm k' s' n' p' a' b' r',x,x',h=>by
  simp only[Tr.app,Tr.same,Tr.app_same r r' x x' h,Bool.and_assoc]
 | .nil,.nod k s n p a b r,x,x',h=>by
  have e:(Tr.nil.app x).same ((Tr.nod k s n p a b r).app x')=false:=by
   rw[Bool.eq_false_iff];intro h1;have:=Tr.same_len _ _ h1;simp only[Tr.app,Tr.len,Tr.app_len]at this;omega
  rw[e];simp[Tr.same]
 | .nil,.arm k s n p a b r,x,x',h=>by
  have e:(Tr.nil.app x).same ((Tr.arm k s n p a b r).app x')=false:=by
   rw[Bool.eq_false_iff];intro h1;have:=Tr.same_len _ _ h1;simp only[Tr.app,Tr.len,Tr.app_len]at this;omega
  rw[e];simp[Tr.same]
 | .nod k s n p a b r,.nil,x,x',h=>by
  have e:((Tr.nod k s n p a b r).app x).same (Tr.nil.app x')=false:=by
   rw[Bool.eq_false_iff];intro h1;have:=Tr.same_len _ _ h1;simp only[Tr.app,Tr.len,Tr.app_len]at this;omega
  rw[e];simp[Tr.same]
 | .arm k s n p a b r,.nil,x,x',h=>by
  have e:((Tr.arm k s n p a b r).app x).same (Tr.nil.app x')=false:=by
   rw[Bool.eq_false_iff];intro h1;have:=Tr.same_len _ _ h1;simp only[Tr.app,Tr.len,Tr.app_len]at this;omega
  rw[e];simp[Tr.same]
 | .nod ..,.arm ..,x,x',h=>by simp[Tr.app,Tr.same]
 | .arm ..,.nod ..,x,x',h=>by simp[Tr.app,Tr.same]
theorem Tr.arms_same:∀ b b':Tr,b.isArms->b'.isArms->b.same b'=(b.pats.same b'.pats&&b.exs.same b'.exs)
 | .nil,.nil,_,_=>rfl
 | .nil,.arm ..,_,_=>by simp[Tr.same,Tr.pats]
 | .arm ..,.nil,_,_=>by simp[Tr.same,Tr.pats]
 | .arm k s n p a e r,.arm k' s' n' p' a' e' r',⟨h1,h2⟩,⟨h3,h4⟩=>by
  have ih:=Tr.arms_same r r' h2 h4;simp only[Tr.same,Tr.pats,Tr.exs,ih,Tr.same,Bool.and_true];by_cases hl:r.pats.same r'.pats=true
  ·have hlen:=Tr.same_len _ _ hl
   rw[Tr.pats_len r h2,Tr.pats_len r' h4]at hlen;rw[Tr.app_same e e' r.exs r'.exs (by rw[Tr.exs_len r h2,Tr.exs_len r' h4,hlen]),hl];cases decide (k=k') <;> cases decide (s=s') <;> cases decide (n=n') <;> cases a.same a' <;> cases e.same e' <;> simp
  ·rw[Bool.not_eq_true]at hl
   rw[hl];simp
def patQ(b b':Tr):Bool:=b.pats.same b'.pats
theorem Tr.same_split:∀ f g:Tr,f.isNods->g.isNods->f.ok->g.ok->f.same g=(f.hds patQ g&&f.kidsSame g)
 | .nil,.nil,_,_,_,_=>rfl
 | .nil,.nod ..,_,_,_,_=>by simp[Tr.same,Tr.hds]
 | .nod ..,.nil,_,_,_,_=>by simp[Tr.same,Tr.hds]
 | .arm ..,_,h,_,_,_=>h.elim
 | .nil,.arm ..,_,h,_,_=>h.elim
 | .nod ..,.arm ..,_,h,_,_=>h.elim
 | .nod k s n p a b r,.nod k' s' n' p' a' b' r',h1,h2,⟨_,_,o3,_,o5⟩,⟨_,_,q3,_,q5⟩=>by
  have ih:=Tr.same_split r r' h1 h2 o5 q5;simp only[Tr.same,Tr.hds,Tr.kidsSame,ih,Tr.arms_same b b' o3 q3,patQ];by_cases hl:b.pats.same b'.pats=true
  ·have hlen:=Tr.same_len _ _ hl
   rw[Tr.pats_len b o3,Tr.pats_len b' q3]at hlen;rw[Tr.app_same a a' b.exs b'.exs (by rw[Tr.exs_len b o3,Tr.exs_len b' q3,hlen]),hl];cases decide (k=k') <;> cases decide (s=s') <;> cases decide (n=n') <;> cases a.same a' <;> cases b.exs.same b'.exs <;> cases r.hds patQ r' <;> simp
  ·rw[Bool.not_eq_true]at hl
   rw[hl];simp
theorem Tr.hds_len(q:Tr->Tr->Bool):∀ f g:Tr,f.hds q g=true->f.len=g.len
 | .nil,.nil,_=>rfl
 | .nod _ _ _ _ _ _ r,.nod _ _ _ _ _ _ r',h=>by
  simp only[Tr.hds,Bool.and_eq_true]at h;simp only[Tr.len,Tr.hds_len q r r' h.2]
 | .nil,.nod ..,h=>by cases h
 | .nil,.arm ..,h=>by cases h
 | .nod ..,.nil,h=>by cases h
 | .nod ..,.arm ..,h=>by cases h
 | .arm ..,.nil,h=>by cases h
 | .arm ..,.nod ..,h=>by cases h
 | .arm ..,.arm ..,h=>by cases h
def Tr.drp:Tr->Nat->Tr
 | f,0=>f
 | .nil,_+1=> .nil
 | .nod _ _ _ _ _ _ r,i+1=>r.drp i
 | .arm _ _ _ _ _ _ r,i+1=>r.drp i
theorem Tr.drp_at{k:Int}{s:List UInt8}{n:Int}{p:Pl}{a b:Tr}:∀ (f:Tr) (i:Nat),f.nth i=.nod k s n p a b .nil->f.drp i=.nod k s n p a b (f.drp (i+1))
 | .nil,i,h=>by simp[Tr.nth]at h
 | .nod _ _ _ _ _ _ r,0,h=>by
  simp only[Tr.nth,Tr.nod.injEq]at h;obtain⟨h1,h2,h3,h4,h5,h6,_⟩:=h;subst h1 h2 h3 h4 h5 h6;cases r <;> rfl
 | .arm ..,0,h=>by simp[Tr.nth]at h
 | .nod _ _ _ _ _ _ r,i+1,h=>Tr.drp_at r i h
 | .arm _ _ _ _ _ _ r,i+1,h=>Tr.drp_at r i h
theorem Tr.drp_end:∀ (f:Tr) (i:Nat),f.len<=i->f.drp i=.nil
 | .nil,0,_=>rfl
 | .nil,_+1,_=>rfl
 | .nod ..,0,h=>by simp[Tr.len]at h
 | .arm ..,0,h=>by simp[Tr.len]at h
 | .nod _ _ _ _ _ _ r,i+1,h=>Tr.drp_end r i (by simpa [Tr.len] using h)
 | .arm _ _ _ _ _ _ r,i+1,h=>Tr.drp_end r i (by simpa [Tr.len] using h)
theorem Tr.drp_zero(f:Tr):f.drp 0=f:=by cases f <;> rfl
theorem Tr.drp_size:∀ (f:Tr) (i:Nat),(f.drp i).size<=f.size
 | .nil,0=>Nat.le_refl _
 | .nil,_+1=>Nat.le_refl _
 | .nod ..,0=>Nat.le_refl _
 | .arm ..,0=>Nat.le_refl _
 | .nod _ _ _ _ _ _ r,i+1=>by have:=Tr.drp_size r i;simp only[Tr.drp,Tr.size];omega
 | .arm _ _ _ _ _ _ r,i+1=>by have:=Tr.drp_size r i;simp only[Tr.drp,Tr.size];omega
theorem TrAt.bare{w:World}{Ok:Nat->Prop}{sh:Sh}(hs:sh=.pat∨sh=.ty):∀ (f:Tr) (b o:Nat),TrAt w Ok f sh b o->f.bare
 | .nil,_,_,_=>trivial
 | .nod k s n p kids arms r,b,o,h=>by
  obtain⟨_,⟨A,cap,_,_,a3⟩,h3,h4⟩:=h;refine⟨?_,?_,TrAt.bare hs r b _ h4⟩
  ·rcases h3 with ⟨e,_⟩ | ⟨_,e⟩
   ·subst e;rcases hs with e | e <;> cases e
   ·exact Tr.len_nil _ e
  ·rcases Nat.eq_zero_or_pos kids.len with e | e
   ·rw[Tr.len_nil kids e];trivial
   ·obtain⟨b',o',_,_,h⟩:=a3 e;exact TrAt.bare hs kids b' o' h
 | .arm ..,b,o,h=>by have:=h.1;subst this;rcases hs with e | e <;> cases e
theorem KidsTr.bare{w:World}{Ok:Nat->Prop}{sh:Sh}(hs:sh=.pat∨sh=.ty){A:Option Addr}{l c:Nat}{f:Tr}(h:KidsTr w Ok sh A l c f):f.bare:=by
 rcases Nat.eq_zero_or_pos f.len with e | e
 ·rw[Tr.len_nil f e];trivial
 ·obtain⟨b,o,_,_,h⟩:=h.2.2 (by rw[h.1];exact e)
  exact TrAt.bare hs f b o h
theorem Tr.hds_bare:∀ f g:Tr,f.bare->g.bare->f.hds (fun _ _=>true) g=f.hds patQ g
 | .nil,.nil,_,_=>rfl
 | .nil,.nod ..,_,_=>rfl
 | .nod ..,.nil,_,_=>rfl
 | .arm ..,_,h,_=>h.elim
 | .nil,.arm ..,_,h=>h.elim
 | .nod ..,.arm ..,_,h=>h.elim
 | .nod _ _ _ _ _ b r,.nod _ _ _ _ _ b' r',⟨h1,_,h2⟩,⟨h3,_,h4⟩=>by
  simp only[Tr.hds,Tr.hds_bare r r' h2 h4,h1,h3,patQ,Tr.pats,Tr.same]
theorem Tr.same_bare(f g:Tr)(hf:f.bare)(hg:g.bare)(h1:f.isNods)(h2:g.isNods)(o1:f.ok)(o2:g.ok):f.same g=(f.hds (fun _ _=>true) g&&f.kidsSame g):=by
 rw[Tr.hds_bare f g hf hg];exact Tr.same_split f g h1 h2 o1 o2
structure Pr where
 a:It
 b:It
def Pr.cells(x:Pr):List Value:=[x.a.val,x.b.val]
def prV(S:List Pr):List Value:=S.reverse.flatMap Pr.cells
theorem jP(x:Pr)(S:List Pr):prV (x::S)=prV S++x.cells:=by simp[prV]
theorem zT:∀ S:List Pr,(prV S).length=S.length*2
 | []=>rfl
 | x::S=>by rw[jP,List.length_append,zT S];simp[Pr.cells];omega
def msP:List Pr->Nat
 | []=>0
 | x::S=>x.a.f.size+1+msP S
theorem qal:∀ S:List Pr,S.length<=msP S
 | []=>Nat.le_refl _
 | x::S=>by have:=qal S;simp only[List.length_cons,msP];omega
def allP(S:List Pr):Bool:=S.all fun x=>x.a.f.same x.b.f
def PrI(w:World)(A:Option Addr)(sh:Sh)(S:List Pr):Prop:=∀ x∈S,(KidsTr w (OkI w (fun _=>False) A) sh x.a.A x.a.f.len x.a.c x.a.f/\x.a.f.size<=1000000)/\(KidsTr w (OkI w (fun _=>False) A) sh x.b.A x.b.f.len x.b.c x.b.f/\x.b.f.size<=1000000)
theorem PrI.step{w w':World}{A A':Option Addr}{sh:Sh}{S:List Pr}(h:PrI w A sh S)(hs:w.heap.size<=w'.heap.size)(hk:∀ j,OkI w (fun _=>False) A j->w'.heap[j]?=w.heap[j]?)(ha:∀ j o,A'=some ⟨j,o,none⟩->(∃ o',A=some ⟨j,o',none⟩)∨w.heap.size<=j):PrI w' A' sh S:=
 fun x hx=>⟨⟨(h x hx).1.1.stepI hs hk (fun _ h=>h.elim) ha,(h x hx).1.2⟩,⟨(h x hx).2.1.stepI hs hk (fun _ h=>h.elim) ha,(h x hx).2.2⟩⟩
theorem qfX{w:World}{base:Nat}{T0:TypeId}{A:Option Addr}{cc m:Nat}{x:Pr}{S:List Pr}(hm:m=S.length)(h:w.ownsRow base T0 2 (.slice A (m+1) cc) (m+1) (prV (x::S))) :
  ∃ g,A=some ⟨g,0,none⟩/\base<=g/\g<w.heap.size/\m+1<=cc/\cc<=maxLen/\w.cell? ⟨g,m*2,none⟩=some x.a.val/\w.cell? ⟨g,m*2+1,none⟩=some x.b.val/\w.ownsRow base T0 2 (.slice (some ⟨g,0,none⟩) m cc) m (prV S):=by
 have h':=h;obtain⟨hl,hr⟩:=h;rcases hr with ⟨_,h0⟩ | ⟨g,cap,cur,hv,hb,hh,hnc,hmx,hcs,ht⟩
 ·omega
 ·cases hv
  refine⟨g,rfl,hb,(Array.getElem?_eq_some_iff.1 hh).1,hnc,hmx,?_,?_,⟨by rw[zT,hm],.inr ⟨g,cc,cur,rfl,hb,hh,by omega,hmx,hcs,?_⟩⟩⟩
  ·have h5:=h'.cells (g:=g) rfl (m*2) x.a.val (by rw[jP,List.getElem?_append_right (by rw[zT,hm];exact Nat.le_refl _),zT,hm,Nat.sub_self];rfl)
   rwa [Addr.add_lit,Nat.zero_add]at h5
  ·have h5:=h'.cells (g:=g) rfl (m*2+1) x.b.val (by rw[jP,List.getElem?_append_right (by rw[zT,hm];omega),zT,hm,show S.length*2+1-S.length*2=1 by omega];rfl)
   rwa [Addr.add_lit,Nat.zero_add]at h5
  ·have h4:=congrArg (List.take (m*2)) ht
   rw[List.take_take,jP,List.take_append_of_le_length (by rw[zT,hm];exact Nat.le_refl _),List.take_of_length_le (l:=prV S) (by rw[zT,hm];exact Nat.le_refl _)]at h4;rw[<- h4];congr 1
   omega
theorem qfW{w7:World}{A2:Option Addr}{sh:Sh}{S2:List Pr}{wx:World}(hp:PrI wx A2 sh S2)(hb:Bel wx w7):PrI w7 A2 sh S2:=
 hp.step hb.size (fun j hj=>hb.block j hj.1) (fun j o e=> .inl ⟨o,e⟩)
theorem jf{w7:World}{A2:Option Addr}{sh:Sh}{wx:World}{B:Option Addr}{l c:Nat}{f:Tr}(h:KidsTr wx (OkI wx (fun _=>False) A2) sh B l c f)(hb:Bel wx w7):KidsTr w7 (OkI w7 (fun _=>False) A2) sh B l c f:=
 h.stepI hb.size (fun j hj=>hb.block j hj.1) (fun _ h=>h.elim) (fun j o e=> .inl ⟨o,e⟩)
theorem jQ{w0 w7 w8:World}{A2:Option Addr}{c2 m2 base:Nat}{T0:TypeId}{sh:Sh}{S2:List Pr}{K:Pr}{v':Value}{ob:Obj}(hrow:w7.ownsRow base T0 2 (.slice A2 m2 c2) m2 (prV S2))(hp:PrI w7 A2 sh S2)
  (ha:KidsTr w7 (OkI w7 (fun _=>False) A2) sh K.a.A K.a.f.len K.a.c K.a.f) (hb:KidsTr w7 (OkI w7 (fun _=>False) A2) sh K.b.A K.b.f.len K.b.c K.b.f) (hs:K.a.f.size<=1000000/\K.b.f.size<=1000000)
  (hown8:w8.ownsRow base T0 2 v' (m2+1) (prV S2++K.cells)) (hg8:(w7.alloc ob).grownBy w8 (Value.slice A2 m2 c2).ownBlock) (hat8:v'.ownBlock=(Value.slice A2 m2 c2).ownBlock∨v'.ownBlock=some (w7.alloc ob).heap.size) (h07:Bel w0 w7) (h0:w0.heap.size<=base) (hbs:base<=w7.heap.size) :
  ∃ g8 c8,v'=.slice (some ⟨g8,0,none⟩) (m2+1) c8/\w8.ownsRow base T0 2 (.slice (some ⟨g8,0,none⟩) (m2+1) c8) (m2+1) (prV (K::S2))/\PrI w8 (some ⟨g8,0,none⟩) sh (K::S2) ∧
   (∀ (B:Option Addr) (l c:Nat) (f:Tr),KidsTr w7 (OkI w7 (fun _=>False) A2) sh B l c f->KidsTr w8 (OkI w8 (fun _=>False) (some ⟨g8,0,none⟩)) sh B l c f)/\Bel w0 w8/\base<=w8.heap.size:=by
 obtain⟨g8,c8,rfl⟩:=zB hown8;have z8:w7.heap.size+1<=w8.heap.size:=by have:=hg8.size;simpa using this
 have hob:∀ j,(Value.slice A2 m2 c2).ownBlock=some j->base<=j/\∃ o,A2=some ⟨j,o,none⟩:=fun j hj=>by
  refine⟨(hrow.lt j hj).1,?_⟩;rcases hrow.2 with ⟨_,h⟩ | ⟨g,cap,cur,hv,_⟩
  ·cases A2 with
   | none=>simp[Value.ownBlock]at hj
   | some a=>
    obtain⟨ab,ao,ap⟩:=a;rcases hrow.2 with ⟨h2,_⟩ | ⟨g,cap,cur,hv,_⟩
    ·cases h2
    ·cases hv;simp[Value.ownBlock]at hj;exact⟨0,by rw[hj]⟩
  ·cases hv;simp[Value.ownBlock]at hj;exact⟨0,by rw[hj]⟩
 have hk:∀ j,OkI w7 (fun _=>False) A2 j->w8.heap[j]?=w7.heap[j]?:=fun j hj=>
  (hg8.block j (by simp;have:=hj.1;omega) (fun e=>by obtain⟨_,o,ho⟩:=hob j e.symm;exact hj.2.2 o ho)).trans (((Bel.refl w7).alloc ob).block j hj.1)
 have hA:∀ j o,(some ⟨g8,0,none⟩:Option Addr)=some ⟨j,o,none⟩->(∃ o',A2=some ⟨j,o',none⟩)∨w7.heap.size<=j:=fun j o e=>by
  cases e
  rcases hat8 with h | h
  ·exact .inl (hob g8 h.symm).2
  ·right;simp[Value.ownBlock]at h;omega
 refine⟨g8,c8,rfl,by rw[jP];exact hown8,?_,fun B l c f h=>h.stepI (by omega) hk (fun _ h=>h.elim) hA,?_,by omega⟩
 ·intro x hx
  rcases List.mem_cons.1 hx with rfl | hx
  ·exact⟨⟨ha.stepI (by omega) hk (fun _ h=>h.elim) hA,hs.1⟩,⟨hb.stepI (by omega) hk (fun _ h=>h.elim) hA,hs.2⟩⟩
  ·exact (hp.step (by omega) hk hA) x hx
 ·exact Below.grown (h07.alloc ob) hg8 (by have:=h07.size;simp;omega) (fun x hx=>by have:=(hob x hx).1;omega)
end Go.Proofs.YtfpoelklhekfaaaGreatDoor.Mu
