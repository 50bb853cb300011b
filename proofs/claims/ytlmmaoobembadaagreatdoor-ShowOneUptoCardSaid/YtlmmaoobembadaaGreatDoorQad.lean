import Derived.Deep.RegionLaw
import Derived.Lib.SliceRun
import Derived.Test.YtlmmaoobembadaaGreatDoorQab
import Derived.Test.YtlmmaoobembadaaGreatDoorQac
open Go.Lib (hid)
namespace Go.Proofs.YtlmmaoobembadaaGreatDoor.Mu
open Go Go.RowKit
set_option linter.unusedVariables false
def Tells(w:World)(Ok:Nat->Prop)(sh:Sh)(f:Tr)(vs:List Value):Prop:=
 vs.length=f.len*sh.sz/\(∀ u∈vs,u.oneCell'=true) ∧
  ∀ (w':World) (b' o':Nat),(∀ j u,vs[j]?=some u->w'.cell? ⟨b',o'+j,none⟩=some u)->(∀ j,Ok j->w'.heap[j]?=w.heap[j]?)->TrAt w' Ok f sh b' o'
theorem Tells.nil{w:World}{Ok:Nat->Prop}{sh:Sh}:Tells w Ok sh .nil []:=⟨by simp[Tr.len],fun u hu=>(by cases hu),fun _ _ _ _ _=>trivial⟩
theorem TrAt.app{w:World}{Ok:Nat->Prop}{sh:Sh}:∀ (f g:Tr) (b o:Nat),TrAt w Ok f sh b o->TrAt w Ok g sh b (o+f.len*sh.sz)->TrAt w Ok (f.app g) sh b o
 | .nil,g,b,o,_,h=>by simpa [Tr.len,Tr.app] using h
 | .nod k s n p a c r,g,b,o,h,hg=>by
  obtain⟨h1,h2,h3,h4⟩:=h;refine⟨h1,h2,h3,TrAt.app r g b _ h4 ?_⟩;rw[show o+sh.sz+r.len*sh.sz=o+(Tr.nod k s n p a c r).len*sh.sz by simp only[Tr.len,Nat.add_mul];omega];exact hg
 | .arm k s n p a c r,g,b,o,h,hg=>by
  obtain⟨h0,h1,h2,h3,h4,h5⟩:=h;subst h0;refine⟨rfl,h1,h2,h3,h4,TrAt.app r g b _ h5 ?_⟩;rw[show o+15+r.len*Sh.arms.sz=o+(Tr.arm k s n p a c r).len*Sh.arms.sz by simp only[Tr.len,Nat.add_mul,Sh.sz];omega];exact hg
theorem Tells.app{w:World}{Ok:Nat->Prop}{sh:Sh}{f g:Tr}{vs ws:List Value}(h:Tells w Ok sh f vs)(k:Tells w Ok sh g ws):Tells w Ok sh (f.app g) (vs++ws):=by
 obtain⟨h1,h2,h3⟩:=h;obtain⟨k1,k2,k3⟩:=k;refine⟨by rw[List.length_append,h1,k1,Tr.app_len,Nat.add_mul],fun u hu=>?_,fun w' b' o' hc hk=>?_⟩
 ·rcases List.mem_append.1 hu with hu | hu
  ·exact h2 u hu
  ·exact k2 u hu
 ·refine TrAt.app f g b' o' (h3 w' b' o' (fun j u hu=>hc j u (by rw[List.getElem?_append_left (by have:=(List.getElem?_eq_some_iff.1 hu).1;exact this)];exact hu)) hk) (k3 w' b' _ (fun j u hu=>?_) hk)
  have:=hc (f.len*sh.sz+j) u (by rw[List.getElem?_append_right (by rw[h1];omega),h1,Nat.add_sub_cancel_left];exact hu);rwa [<- Nat.add_assoc]at this
def Zy(kd:IntKind)(k:Int)(s:List UInt8)(n:Int)(p:Pl):List Value:=[.int .u8 k,.string ⟨s.toArray⟩,.int kd n,.int .i64 p.a,.int .i64 p.l,.int .i64 p.c]
def qeM:Sh->Option Addr->Nat->Nat->List Value
 | .ex,B,bl,bc=>[.slice B bl bc]
 | _,_,_,_=>[]
def nodV(sh:Sh)(k:Int)(s:List UInt8)(n:Int)(p:Pl)(A:Option Addr)(l c:Nat)(B:Option Addr)(bl bc:Nat):List Value:=Zy sh.kd k s n p++(.slice A l c::qeM sh B bl bc)
theorem Je{w:World}{kd:IntKind}{b o:Nat}{k:Int}{s:List UInt8}{n:Int}{p:Pl}(h:HeadAt w kd b o k s n p):∀ j u,(Zy kd k s n p)[j]?=some u->w.cell? ⟨b,o+j,none⟩=some u:=by
 obtain⟨a0,a1,a2,a3,a4,a5⟩:=h;intro j u hu;match j,hu with
 | 0,hu=>cases hu;exact a0
 | 1,hu=>cases hu;exact a1
 | 2,hu=>cases hu;exact a2
 | 3,hu=>cases hu;exact a3
 | 4,hu=>cases hu;exact a4
 | 5,hu=>cases hu;exact a5
theorem QI(sh:Sh)(hs:sh ≠ .arms)(k:Int)(s:List UInt8)(n:Int)(p:Pl)(A:Option Addr)(l c:Nat)(B:Option Addr)(bl bc:Nat):(nodV sh k s n p A l c B bl bc).length=sh.sz:=by
 cases sh
 ·rfl
 ·rfl
 ·rfl
 ·exact absurd rfl hs
theorem qfJ(sh:Sh)(k:Int)(s:List UInt8)(n:Int)(p:Pl)(A:Option Addr)(l c:Nat)(B:Option Addr)(bl bc:Nat):∀ u∈nodV sh k s n p A l c B bl bc,u.oneCell'=true:=by
 intro u hu;unfold nodV Zy qeM at hu;cases sh <;> simp at hu
 all_goals rcases hu with rfl | rfl | rfl | rfl | rfl | rfl | hu
 all_goals first | rfl | (subst hu;rfl) | (rcases hu with rfl | rfl <;> rfl)
theorem Tells.one{w:World}{Ok:Nat->Prop}{sh:Sh}(hs:sh ≠ .arms){k:Int}{s:List UInt8}{n:Int}{p:Pl}{A:Option Addr}{c:Nat}{B:Option Addr}{bc:Nat}{kids arms:Tr}
  (hk:KidsTr w Ok sh A kids.len c kids) (ha:(sh=.ex/\KidsTr w Ok .arms B arms.len bc arms)∨((sh=.pat∨sh=.ty)/\arms.len=0)):Tells w Ok sh (.nod k s n p kids arms .nil) (nodV sh k s n p A kids.len c B arms.len bc):=by
 refine⟨by rw[QI sh hs];simp[Tr.len],qfJ _ _ _ _ _ _ _ _ _ _ _,fun w' b' o' hc hkp=>?_⟩;have hh:HeadAt w' sh.kd b' o' k s n p:=⟨hc 0 _ rfl,hc 1 _ rfl,hc 2 _ rfl,hc 3 _ rfl,hc 4 _ rfl,hc 5 _ rfl⟩
 have k':=hk.keep hkp;refine⟨hh,⟨A,c,hc 6 _ rfl,k'.2.1,k'.2.2⟩,?_,trivial⟩;rcases ha with ⟨e,ha⟩ | ha
 ·have a':=ha.keep hkp
  subst e;exact .inl ⟨rfl,B,bc,hc 7 _ rfl,a'.2.1,a'.2.2⟩
 ·exact .inr ha
theorem TrAt.parts{w:World}{Ok:Nat->Prop}{sh:Sh}{k:Int}{s:List UInt8}{n:Int}{p:Pl}{kids arms r:Tr}{b o:Nat}(h:TrAt w Ok (.nod k s n p kids arms r) sh b o) :
  ∃ A c B bc,(∀ j u,(nodV sh k s n p A kids.len c B arms.len bc)[j]?=some u->w.cell? ⟨b,o+j,none⟩=some u)/\KidsTr w Ok sh A kids.len c kids/\((sh=.ex/\KidsTr w Ok .arms B arms.len bc arms)∨((sh=.pat∨sh=.ty)/\arms.len=0))/\TrAt w Ok r sh b (o+sh.sz):=by
 obtain⟨h1,⟨A,c,a1,a2,a3⟩,h3,h4⟩:=h;have hk:KidsTr w Ok sh A kids.len c kids:=⟨rfl,a2,a3⟩
 rcases h3 with ⟨e,B,bc,c1,c2,c3⟩ | ⟨e,e2⟩
 ·subst e
  refine⟨A,c,B,bc,fun j u hu=>?_,hk,.inl ⟨rfl,rfl,c2,c3⟩,h4⟩;rcases Nat.lt_or_ge j 6 with hj | hj
  ·exact Je h1 j u (by rw[nodV,List.getElem?_append_left (by simpa [Zy] using hj)]at hu;exact hu)
  ·match j,hu with
   | 6,hu=>cases hu;exact a1
   | 7,hu=>cases hu;exact c1
   | j+8,hu=>simp[nodV,Zy,qeM]at hu
 ·refine⟨A,c,none,0,fun j u hu=>?_,hk,.inr ⟨e,e2⟩,h4⟩
  have hne:∀ B bl bc,qeM sh B bl bc=[]:=by rcases e with rfl | rfl <;> exact fun _ _ _=>rfl
  rcases Nat.lt_or_ge j 6 with hj | hj
  ·exact Je h1 j u (by rw[nodV,List.getElem?_append_left (by simpa [Zy] using hj)]at hu;exact hu)
  ·match j,hu with
   | 6,hu=>
    have:u=.slice A kids.len c:=by simp only[nodV,Zy,hne]at hu;cases hu;rfl
    subst this;exact a1
   | j+7,hu=>simp[nodV,Zy,hne]at hu
theorem TrAt.tells{w:World}{Ok:Nat->Prop}{sh:Sh}(hs:sh ≠ .arms):∀ (f:Tr) (b o:Nat),TrAt w Ok f sh b o->∃ vs,Tells w Ok sh f vs/\∀ j u,vs[j]?=some u->w.cell? ⟨b,o+j,none⟩=some u
 | .nil,_,_,_=>⟨[],Tells.nil,fun j u h=>(by simp at h)⟩
 | .arm ..,_,_,h=>absurd h.1 hs
 | .nod k s n p kids arms r,b,o,h=>by
  obtain⟨A,c,B,bc,h1,h2,h3,h4⟩:=h.parts;obtain⟨vs,t1,t2⟩:=TrAt.tells hs r b _ h4;refine⟨_,(Tells.one hs h2 h3 (k:=k) (s:=s) (n:=n) (p:=p)).app t1,fun j u hu=>?_⟩;rcases Nat.lt_or_ge j sh.sz with hj | hj
  ·exact h1 j u (by rw[List.getElem?_append_left (by rw[QI sh hs];exact hj)]at hu;exact hu)
  ·rw[List.getElem?_append_right (by rw[QI sh hs];exact hj),QI sh hs]at hu
   have:=t2 _ u hu;rwa [show o+sh.sz+(j-sh.sz)=o+j by omega]at this
def qae(w:World)(Ok:Nat->Prop)(w':World)(j:Nat):Prop:=Ok j∨(w.heap.size<=j/\j<w'.heap.size)
def jt(w:World)(Ok:Nat->Prop)(sh:Sh)(f:Tr)(e:Ending)(w':World):Prop:=
 ∃ A c,e=.returned (.slice A f.len c)/\Bel w w'/\KidsTr w' (qae w Ok w') sh A f.len c f
def Tr.exsN:Tr->Nat->Tr
 | .nil,_=> .nil
 | _,0=> .nil
 | .nod _ _ _ _ _ _ r,i+1=>r.exsN i
 | .arm _ _ _ _ _ e r,i+1=>e.app (r.exsN i)
def Tr.patsN:Tr->Nat->Tr
 | .nil,_=> .nil
 | _,0=> .nil
 | .nod _ _ _ _ _ _ r,i+1=>r.patsN i
 | .arm k s n p a _ r,i+1=> .nod k s n p a .nil (r.patsN i)
theorem Tr.exsN_zero:∀ f:Tr,f.exsN 0=.nil
 | .nil=>rfl
 | .nod ..=>rfl
 | .arm ..=>rfl
theorem Tr.patsN_zero:∀ f:Tr,f.patsN 0=.nil
 | .nil=>rfl
 | .nod ..=>rfl
 | .arm ..=>rfl
theorem Tr.exsN_succ{k:Int}{s:List UInt8}{n:Int}{p:Pl}{a e:Tr}:∀ (f:Tr) (i:Nat),f.isArms->f.nth i=.arm k s n p a e .nil->f.exsN (i+1)=(f.exsN i).app e
 | .nil,i,_,h=>by simp[Tr.nth]at h
 | .arm _ _ _ _ _ e' r,0,h,hn=>by
  simp only[Tr.nth,Tr.arm.injEq]at hn;simp only[Tr.exsN,Tr.exsN_zero,Tr.app,Tr.app_nil,hn.2.2.2.2.2.1]
 | .arm _ _ _ _ _ e' r,i+1,h,hn=>by
  have:=Tr.exsN_succ r i h.2 hn;simp only[Tr.exsN,Tr.app_assoc]at this ⊢;rw[this]
theorem Tr.patsN_succ{k:Int}{s:List UInt8}{n:Int}{p:Pl}{a e:Tr}:∀ (f:Tr) (i:Nat),f.isArms->f.nth i=.arm k s n p a e .nil->f.patsN (i+1)=(f.patsN i).app (.nod k s n p a .nil .nil)
 | .nil,i,_,h=>by simp[Tr.nth]at h
 | .arm _ _ _ _ _ e' r,0,h,hn=>by
  simp only[Tr.nth,Tr.arm.injEq]at hn;obtain⟨h1,h2,h3,h4,h5,h6,h7⟩:=hn;subst h1 h2 h3 h4 h5;simp only[Tr.patsN,Tr.patsN_zero,Tr.app]
 | .arm _ _ _ _ _ e' r,i+1,h,hn=>by
  have:=Tr.patsN_succ r i h.2 hn;simp only[Tr.patsN,Tr.app]at this ⊢;rw[this]
theorem Tr.exsN_all:∀ f:Tr,f.isArms->f.exsN f.len=f.exs
 | .nil,_=>rfl
 | .arm _ _ _ _ _ e r,h=>by simp only[Tr.len,Tr.exsN,Tr.exs,Tr.exsN_all r h.2]
theorem Tr.patsN_all:∀ f:Tr,f.isArms->f.patsN f.len=f.pats
 | .nil,_=>rfl
 | .arm _ _ _ _ _ e r,h=>by simp only[Tr.len,Tr.patsN,Tr.pats,Tr.patsN_all r h.2]
theorem Tr.one_nod:∀ e:Tr,e.len=1->e.isNods->∃ k s n p a b,e=.nod k s n p a b .nil
 | .nil,h,_=>by simp[Tr.len]at h
 | .nod k s n p a b r,h,_=>⟨k,s,n,p,a,b,by rw[Tr.len_nil r (by simpa [Tr.len] using h)]⟩
 | .arm ..,_,h=>h.elim
theorem KidsTr.isArms{w:World}{Ok:Nat->Prop}{A:Option Addr}{l c:Nat}{f:Tr}(h:KidsTr w Ok .arms A l c f):f.isArms:=by
 rcases Nat.eq_zero_or_pos f.len with e | e
 ·rw[Tr.len_nil f e];trivial
 ·obtain⟨b,o,_,_,h⟩:=h.2.2 (by rw[h.1];exact e)
  exact TrAt.isArms f b o h
theorem KidsTr.isNods{w:World}{Ok:Nat->Prop}{sh:Sh}(hs:sh ≠ .arms){A:Option Addr}{l c:Nat}{f:Tr}(h:KidsTr w Ok sh A l c f):f.isNods:=by
 rcases Nat.eq_zero_or_pos f.len with e | e
 ·rw[Tr.len_nil f e];trivial
 ·obtain⟨b,o,_,_,h⟩:=h.2.2 (by rw[h.1];exact e)
  exact TrAt.isNods hs f b o h
theorem KidsTr.ok{w:World}{Ok:Nat->Prop}{sh:Sh}{A:Option Addr}{l c:Nat}{f:Tr}(h:KidsTr w Ok sh A l c f):f.ok:=by
 rcases Nat.eq_zero_or_pos f.len with e | e
 ·rw[Tr.len_nil f e];trivial
 ·obtain⟨b,o,_,_,h⟩:=h.2.2 (by rw[h.1];exact e)
  exact TrAt.ok f sh b o h
theorem zO{w:World}{base e size n:Nat}{v:Value}{xs:List Value}(h:w.ownsRow base e size v (n+1) xs):∃ g c,v=.slice (some ⟨g,0,none⟩) (n+1) c:=by
 obtain⟨g,c,hv,_⟩:=h.form (by omega);exact⟨g,c,hv⟩
theorem Tells.row{w w':World}{Ok:Nat->Prop}{sh:Sh}{f:Tr}{vs:List Value}(h:Tells w Ok sh f vs)(hb:Bel w w')(hOk:∀ j,Ok j->j<w.heap.size){e:TypeId}{A:Option Addr}{c base:Nat}(hbase:w.heap.size<=base)(ho:w'.ownsRow base e sh.sz (.slice A f.len c) f.len vs):KidsTr w' (qae w Ok w') sh A f.len c f:=by
 refine⟨rfl,?_,fun h0=>?_⟩
 ·rcases ho.2 with ⟨_,h0⟩ | ⟨g,cap,cur,hv,_,_,hnc,_⟩
  ·omega
  ·cases hv;exact hnc
 ·obtain⟨g,cp,hv,hgb,hgl⟩:=ho.form h0
  cases hv
  refine⟨g,0,rfl,.inr ⟨Nat.le_trans hbase hgb,hgl⟩,(h.2.2 w' g 0 (fun j u hu=>?_) (fun j hj=>hb.block j (hOk j hj))).wide (fun j hj=> .inl hj) f sh g 0⟩;have:=ho.cells (g:=g) rfl j u hu;rwa [Addr.add_lit]at this
end Go.Proofs.YtlmmaoobembadaaGreatDoor.Mu
namespace Go.Proofs.YtlmmaoobembadaaGreatDoor.Mu
set_option maxHeartbeats 2000000
open Go Go.RowKit Go.Shelf
attribute [local go_sem] Oper.semAt_some
set_option linter.unusedVariables false
set_option maxRecDepth 100000
def zY(p:Prop):Prop:=p
theorem jj{p:Prop}(h:zY p):p:=h
theorem qdj:(Tryz.prog.info? 32).map (fun i=>(i.zero,i.size,i.bytes))=some (some (.agg #[.int .u8 0,.string ⟨#[]⟩,(0:Int),(0:Int),(0:Int),(0:Int),.slice none 0 0,.slice none 0 0]),8,104):=by kernel_rfl
theorem qfA:(Tryz.prog.info? 78).map (fun i=>(i.zero,i.size,i.bytes))=some (some (.agg #[.int .u8 0,.string ⟨#[]⟩,(0:Int),(0:Int),(0:Int),(0:Int),.slice none 0 0]),7,80):=by kernel_rfl
theorem qhm:(Tryz.prog.info? 59).map (fun i=>(i.zero,i.size,i.bytes))=some (some (.agg #[.int .u8 0,.string ⟨#[]⟩,.int .u8 0,(0:Int),(0:Int),(0:Int),.slice none 0 0]),7,80):=by kernel_rfl
def qia(w:World)(Ok:Nat->Prop)(f:Tr)(e:Ending)(w':World):Prop:=
 ∃ A' c' vs,e=.returned (.slice A' f.len c')/\w'.ownsRow w.heap.size 32 8 (.slice A' f.len c') f.len vs/\Tells w Ok .ex f vs/\Bel w w'
theorem qb1(A:Option Addr)(n cap:Nat)(kids:Tr)(Ok:Nat->Prop)(w:World)(h:KidsTr w Ok .ex A n cap kids)(hOk:∀ j,Ok j->j<w.heap.size)(hn:n<=2000000) :
  Calls Tryz.prog 67 #[.slice A n cap] w (qia w Ok kids):=by
 have q22:∀ (w:World) (a:Option Addr) (n c n' c':Nat),(binOp .eql 29 (.slice a n c) (.slice none n' c')).run Tryz.prog w=.ok (.bool a.isNone) w:=fun w a n c n' c'=>Lib.run_eql_slice_nil w _ _ a n c n' c' Tryz.underlying29;have H:=hid h;have HOK:=hid hOk;have HL:Hid (n=kids.len):=hid h.1;clear h hOk;rcases A with _ | a
 ·have hn0:n=0:=by
   rcases Nat.eq_zero_or_pos n with h' | h'
   ·exact h'
   ·obtain⟨_,_,e,_⟩:=H.out.2.2 h';cases e
  subst hn0;obtain rfl:=Tr.len_nil kids HL.out.symm;go_enter Tryz.func67,Tryz.ntmps67
  go_wp2
  go_ret
  exact⟨none,0,[],rfl,World.ownsRow_nil _ _ _ _,Tells.nil,Bel.refl _⟩
 ·obtain⟨i,hi,hz0,hz1,hz2⟩:=info_parts qdj
  obtain⟨vs,hvl,hvc⟩:∃ vs:List Value,Tells w Ok .ex kids vs/\(∀ j u,vs[j]?=some u->w.cell? (a.add j)=some u):=by
   rcases Nat.eq_zero_or_pos n with h0 | h0
   ·obtain rfl:=Tr.len_nil kids (by rw[<- HL.out];exact h0)
    exact⟨[],Tells.nil,fun j u hu=>(by simp at hu)⟩
   ·obtain⟨b,o,e,q1,q2⟩:=H.out.2.2 h0
    cases e
    obtain⟨vs,h1,h2⟩:=TrAt.tells (by intro e;cases e) kids b o q2;exact⟨vs,h1,fun j u hu=>by rw[Addr.add_lit];exact h2 j u hu⟩
  have HV:=hid (And.intro hvl hvc);have hlv:vs.length=n*8:=by rw[hvl.1,HL.out];rfl
  have HLV:=hid hlv;clear hvl hvc hlv;go_enter Tryz.func67,Tryz.ntmps67
  go_wp2_with (at_builtin;refine jj ?_)
  unfold zY;refine wpList_append_own _ rfl _ _ 29 rfl w.heap.size 32 i _ 8 104 Tryz.underlying29 hi hz0 hz1 hz2 rfl (by decide) (.slice (some ⟨w.heap.size,0,none⟩) 0 0) 0 [] rfl (World.ownsRow_made w #[] 0 (Nat.le_refl _) (Nat.zero_le _) (by simp)) a n cap vs rfl HLV.out (fun j u hu=>?_) HV.out.1.2.1 (by unfold maxLen;omega) (by omega) (by simp) ?_
  ·have:=HV.out.2 j u hu
   exact (((Bel.refl w).alloc _).cell (World.block_lt_of_cell? w _ this)).trans this
  ·intro v' w1 hown1 hg1 _
   obtain⟨A',c',rfl⟩:=jp hown1;have hb1:Bel w w1:=Below.grown ((Bel.refl w).alloc _) hg1 (by simp) (fun x hx=>by simp[Value.ownBlock]at hx;omega);have HB1:=hid hb1;have HO1:=hid hown1;clear hown1 hg1 hb1;go_wp2_with fail
   go_ret
   have h0:=HO1.out;rw[Nat.zero_add]at h0;have e:=HL.out;subst e;exact⟨A',c',vs,rfl,h0,HV.out.1,HB1.out⟩
theorem qcW{w:World}{b o:Nat}{k:Int}{s:List UInt8}{n:Int}{p:Pl}{kids e:Tr}{Ok:Nat->Prop}(h:TrAt w Ok (.arm k s n p kids e .nil) .arms b o) :
  ∃ A c k2 s2 n2 p2 kids2 arms2 A2 c2 B2 bc2,e=.nod k2 s2 n2 p2 kids2 arms2 .nil/\KidsTr w Ok .pat A kids.len c kids/\KidsTr w Ok .ex A2 kids2.len c2 kids2/\KidsTr w Ok .arms B2 arms2.len bc2 arms2 ∧
   w.cell? ⟨b,o,none⟩=some (.int .u8 k)/\w.cell? ⟨b,o+1,none⟩=some (.string ⟨s.toArray⟩)/\w.cell? ⟨b,o+2,none⟩=some (.int .i64 n)/\w.cell? ⟨b,o+3,none⟩=some (.int .i64 p.a)/\w.cell? ⟨b,o+4,none⟩=some (.int .i64 p.l)/\w.cell? ⟨b,o+5,none⟩=some (.int .i64 p.c)/\w.cell? ⟨b,o+6,none⟩=some (.slice A kids.len c) ∧
   w.cell? ⟨b,o+7,none⟩=some (.int .u8 k2)/\w.cell? ⟨b,o+8,none⟩=some (.string ⟨s2.toArray⟩)/\w.cell? ⟨b,o+9,none⟩=some (.int .i64 n2)/\w.cell? ⟨b,o+10,none⟩=some (.int .i64 p2.a)/\w.cell? ⟨b,o+11,none⟩=some (.int .i64 p2.l)/\w.cell? ⟨b,o+12,none⟩=some (.int .i64 p2.c)/\w.cell? ⟨b,o+13,none⟩=some (.slice A2 kids2.len c2)/\w.cell? ⟨b,o+14,none⟩=some (.slice B2 arms2.len bc2):=by
 obtain⟨_,⟨a0,a1,a2,a3,a4,a5⟩,⟨A,c,d1,d2,d3⟩,el,he,_⟩:=h;obtain⟨k2,s2,n2,p2,kids2,arms2,rfl⟩:=Tr.one_nod e el (TrAt.isNods (by intro e;cases e) e b _ he);obtain⟨A2,c2,B2,bc2,hc,hk,ha,_⟩:=he.parts;rcases ha with ⟨_,ha⟩ | ⟨e | e,_⟩
 ·exact⟨A,c,k2,s2,n2,p2,kids2,arms2,A2,c2,B2,bc2,rfl,⟨rfl,d2,d3⟩,hk,ha,a0,a1,a2,a3,a4,a5,d1,hc 0 _ rfl,hc 1 _ rfl,hc 2 _ rfl,hc 3 _ rfl,hc 4 _ rfl,hc 5 _ rfl,hc 6 _ rfl,hc 7 _ rfl⟩
 ·cases e
 ·cases e
theorem box8{w:World}{g:Nat}{t:TypeId}{x0 x1 x2 x3 x4 x5 x6 x7:Value}(h:w.heap[g]?=some (.cells #[x0,x1,x2,x3,x4,x5,x6,x7] t (0,0))) :
  w.cell? ⟨g,0,none⟩=some x0/\w.cell? ⟨g,1,none⟩=some x1/\w.cell? ⟨g,2,none⟩=some x2/\w.cell? ⟨g,3,none⟩=some x3/\w.cell? ⟨g,4,none⟩=some x4/\w.cell? ⟨g,5,none⟩=some x5/\w.cell? ⟨g,6,none⟩=some x6/\w.cell? ⟨g,7,none⟩=some x7:=by
 simp[World.cell?,h]
theorem box7{w:World}{g:Nat}{t:TypeId}{x0 x1 x2 x3 x4 x5 x6:Value}(h:w.heap[g]?=some (.cells #[x0,x1,x2,x3,x4,x5,x6] t (0,0))) :
  w.cell? ⟨g,0,none⟩=some x0/\w.cell? ⟨g,1,none⟩=some x1/\w.cell? ⟨g,2,none⟩=some x2/\w.cell? ⟨g,3,none⟩=some x3/\w.cell? ⟨g,4,none⟩=some x4/\w.cell? ⟨g,5,none⟩=some x5/\w.cell? ⟨g,6,none⟩=some x6:=by
 simp[World.cell?,h]
theorem zm(w:World)(xs:List Value)(t:TypeId):∀ j u,xs[j]?=some u->(w.alloc (.cells xs.toArray t)).cell? ⟨w.heap.size,j,none⟩=some u:=by
 intro j u hu;have h:=blk1 w (.cells xs.toArray t);unfold World.cell?
 simp only[h];simpa using hu
theorem zz(k:Int)(s:List UInt8)(n:Int)(p:Pl)(A:Option Addr)(c:Nat)(B:Option Addr)(bc:Nat)(kids arms:Tr)(Ok:Nat->Prop)(w:World)(hk:KidsTr w Ok .ex A kids.len c kids)(ha:KidsTr w Ok .arms B arms.len bc arms)(hOk:∀ j,Ok j->j<w.heap.size)(hn:kids.len<=1000000)(hm:arms.len<=1000000) :
  Calls Tryz.prog 28 #[.agg #[.int .u8 k,.string ⟨s.toArray⟩,n,p.a,p.l,p.c,.slice A kids.len c,.slice B arms.len bc]] w (jt w Ok .ex (kids.app arms.exs)):=by
 have HK:=hid hk;have HA:=hid ha;have HOK:=hid hOk;have HIA:=hid ha.isArms;obtain⟨kl,hkl⟩:∃ kl,kl=kids.len:=⟨_,rfl⟩
 obtain⟨al,hal⟩:∃ al,al=arms.len:=⟨_,rfl⟩
 have HKL:=hid hkl;have HAL:=hid hal;rw[<- hkl]at hn ⊢;rw[<- hal]at hm ⊢;clear hk ha hOk hkl hal;obtain⟨S,hS⟩:∃ S:ByteArray,S=⟨s.toArray⟩:=⟨_,rfl⟩
 rw[<- hS];clear hS;by_cases ha0:al=0
 ·subst ha0
  go_enter Tryz.func28,Tryz.ntmps28
  go_wp2_with fail
  go_ret
  obtain rfl:=Tr.len_nil arms HAL.out.symm;simp only[Tr.exs,Tr.app_nil];rw[HKL.out];have hb:Bel w (w.alloc (.cells #[.int .u8 k,S,n,p.a,p.l,p.c,.slice A kids.len c,.slice B 0 bc] 32)):=(Bel.refl w).alloc _;exact⟨A,c,rfl,hb,(HK.out.keep fun j hj=>hb.block j (HOK.out j hj)).wide fun j hj=> .inl hj⟩
 ·have e0:((al:Int)==0)=false:=by simp;omega
  obtain⟨i0,hi0,hz0,hz1,hz2⟩:=info_parts qdj;go_enter Tryz.func28,Tryz.ntmps28
  have hb1:Bel w (w.alloc (.cells #[.int .u8 k,S,n,p.a,p.l,p.c,.slice A kl c,.slice B al bc] 32)):=(Bel.refl w).alloc _;have hq1:=blk1 w (.cells #[.int .u8 k,S,n,p.a,p.l,p.c,.slice A kl c,.slice B al bc] 32);have HCL:Hid (∀ W,Bel w W->Calls Tryz.prog 67 #[.slice A kl c] W (qia W Ok kids)):=hid fun W hW=>qb1 A kl c kids Ok W (by rw[HKL.out];exact HK.out.keep fun j hj=>hW.block j (HOK.out j hj)) (fun j hj=>Nat.lt_of_lt_of_le (HOK.out j hj) hW.size) (by omega);have HB1:=hid hb1;have HQ1:=hid hq1;clear hb1 hq1;go_wp2_with fail
  refine (HCL.out _ HB1.out).mono ?_;rintro e w2 ⟨A',c',vs,rfl,hown,htell,hb2⟩;rw[<- HKL.out]at hown ⊢;have HQ2:=hid (hb2.blk HQ1.out);have HB2:=hid (HB1.out.on hb2);have HT0:=hid htell;have hsz:(w.alloc (.cells #[.int .u8 k,S,n,p.a,p.l,p.c,.slice A kl c,.slice B al bc] 32)).heap.size=w.heap.size+1:=by simp
  rw[hsz]at hown;have HO2:=hid hown;obtain⟨bx,hbx⟩:∃ bx,bx=w.heap.size:=⟨_,rfl⟩
  rw[<- hbx]at HQ2 HO2 ⊢;have HBX:=hid hbx;obtain⟨w1,hw1⟩:∃ w1,w1=w.alloc (.cells #[.int .u8 k,S,n,p.a,p.l,p.c,.slice A kl c,.slice B al bc] 32):=⟨_,rfl⟩
  rw[<- hw1]at hb2 HT0 HB1;have HT1:Hid (Tells w Ok .ex kids vs):=hid ⟨HT0.out.1,HT0.out.2.1,fun w' b' o' hc hkk=>HT0.out.2.2 w' b' o' hc fun j hj=>(hkk j hj).trans (HB1.out.block j (HOK.out j hj)).symm⟩;obtain⟨x0,x1,x2,x3,x4,x5,x6,x7⟩:=box8 HQ2.out;clear hown htell hb2 hsz hbx hw1 HT0 HB1 HCL;go_wp2_with fail
  go_loopw [3,18] (fun v i wr=>∃ (j m:Nat) (A3:Option Addr) (c3:Nat) (us:List Value),j<=al/\m=kl+j/\v=.slice A3 m c3/\i=.int .i64 (j:Int)/\Hid (wr.ownsRow (bx+1) 32 8 (.slice A3 m c3) m us)/\Hid (Tells w Ok .ex (kids.app (arms.exsN j)) us)/\Hid (Bel w wr)) (fun _ i _=>al-(intOf i).toNat)
  case atStart=>exact⟨0,kl,A',c',vs,Nat.zero_le _,rfl,rfl,rfl,HO2,(by rw[Tr.exsN_zero,Tr.app_nil];exact HT1),HB2⟩
  case round=>
   clear x0 x1 x2 x3 x4 x5 x6 x7 HT1 HO2;obtain⟨j,m,A3,c3,us,hj,hm3,rfl,rfl,HO,HT,HB⟩:=hrel;by_cases hlt:j<al
   ·obtain⟨ub,uo,eB,hob,hfo⟩:=HA.out.2.2 (by rw[<- HAL.out];omega)
    subst eB;obtain⟨k',s',n',p',kd,e',en,hd⟩:=TrAt.arm_at arms j ub uo hfo (by rw[<- HAL.out];exact hlt);obtain⟨A4,c4,k2,s2,n2,p2,kids2,arms2,A2,c2,B2,bc2,ee,hkd,hk2,ha2,y0,y1,y2,y3,y4,y5,y6,y7,y8,y9,y10,y11,y12,y13,y14⟩:=qcW hd;subst ee;have HT3:Hid (Tells w Ok .ex (kids.app (arms.exsN (j+1))) (us++nodV .ex k2 s2 n2 p2 A2 kids2.len c2 B2 arms2.len bc2)):=hid (by
     rw[Tr.exsN_succ arms j HIA.out en,<- Tr.app_assoc];exact HT.out.app (Tells.one (by intro e;cases e) hk2 (.inl ⟨rfl,ha2⟩)))
    have hc:=(Bel.cells HB.out).1;have hob':=HOK.out ub hob;have z0:=(hc ub _ hob').trans y0;have z1:=(hc ub _ hob').trans y1;have z2:=(hc ub _ hob').trans y2;have z3:=(hc ub _ hob').trans y3;have z4:=(hc ub _ hob').trans y4;have z5:=(hc ub _ hob').trans y5;have z6:=(hc ub _ hob').trans y6;have z7:=(hc ub _ hob').trans y7;have z8:=(hc ub _ hob').trans y8;have z9:=(hc ub _ hob').trans y9;have z10:=(hc ub _ hob').trans y10;have z11:=(hc ub _ hob').trans y11;have z12:=(hc ub _ hob').trans y12;have z13:=(hc ub _ hob').trans y13;have z14:=(hc ub _ hob').trans y14;obtain⟨l1,hl1⟩:∃ l,l=kids2.len:=⟨_,rfl⟩
    obtain⟨l2,hl2⟩:∃ l,l=arms2.len:=⟨_,rfl⟩
    obtain⟨l3,hl3⟩:∃ l,l=kd.len:=⟨_,rfl⟩
    rw[<- hl1]at z13 HT3;rw[<- hl2]at z14 HT3;rw[<- hl3]at z6;obtain⟨T,hT⟩:∃ S:ByteArray,S=⟨s'.toArray⟩:=⟨_,rfl⟩
    obtain⟨T2,hT2⟩:∃ S:ByteArray,S=⟨s2.toArray⟩:=⟨_,rfl⟩
    rw[<- hT]at z1;rw[<- hT2]at z8;have HT4:Hid (Tells w Ok .ex (kids.app (arms.exsN (j+1))) (us++[.int .u8 k2,.string T2,.int .i64 n2,.int .i64 p2.a,.int .i64 p2.l,.int .i64 p2.c,.slice A2 l1 c2,.slice B2 l2 bc2])):=hid (by rw[hT2];exact HT3.out);have i1:(0:Int)<=(j:Int):=by omega
    have i2:(j:Int)<(al:Int):=by omega
    have hub:ub<wr.heap.size:=Nat.lt_of_lt_of_le hob' HB.out.size;clear y0 y1 y2 y3 y4 y5 y6 y7 y8 y9 y10 y11 y12 y13 y14 hc hd hfo en hkd hk2 ha2 HT3 hl1 hl2 hl3 hT hT2 HT hob';go_wp2_with (at_builtin;refine jj ?_)
    unfold zY;refine wpList_append_own_at _ rfl _ _ 29 rfl (bx+1) 32 i0 _ 8 104 Tryz.underlying29 hi0 hz0 hz1 hz2 rfl (by decide) (.slice A3 m c3) m _ rfl ((HO.out.alloc _).alloc _) ⟨wr.heap.size+1,0,none⟩ 1 1 [.int .u8 k2,T2,n2,p2.a,p2.l,p2.c,.slice A2 l1 c2,.slice B2 l2 bc2] rfl rfl (fun j u hu=>by
     rw[Addr.add_lit,Nat.zero_add];have h:=zm (wr.alloc (.cells #[.int .u8 k',T,n',p'.a,p'.l,p'.c,.slice A4 l3 c4,.int .u8 k2,T2,n2,p2.a,p2.l,p2.c,.slice A2 l1 c2,.slice B2 l2 bc2] 80)) _ 32 j u hu;rw[World.size_alloc]at h;exact h) (by simp[Value.oneCell']) (by unfold maxLen;omega) (by omega) (by simp;have:=HBX.out;have:=HB.out.size;omega) ?_
    intro v' w5 hown5 hg5 _ hat5;obtain⟨g5,c5,rfl⟩:=zO hown5;have hb5:Bel w w5:=Below.grown ((HB.out.alloc _).alloc _) hg5 (by simp;have:=HB.out.size;omega) (fun x hx=>by have h:=(HO.out.lt x hx).1;have:=HBX.out;omega);have HB5:=hid hb5;have HO5:=hid hown5;have HLT:=hid hlt;clear hown5 hg5 hat5 hb5 z0 z1 z2 z3 z4 z5 z6 z7 z8 z9 z10 z11 z12 z13 z14 HO HB;go_wp2_with fail
    go_roundw
    case rel=>exact⟨j+1,m+1,_,c5,_,HLT.out,by omega,(by rw[hm3]),by go_num,HO5,HT4,HB5⟩
    case measure=>have:=HLT.out;simp[intOf];omega
   ·obtain rfl:j=al:=by omega
    go_wp2_with fail
    go_ret
    have hl:m=(kids.app arms.exs).len:=by rw[hm3,Tr.app_len,Tr.exs_len arms HIA.out,HKL.out,HAL.out]
    have ht:=HT.out;rw[HAL.out,Tr.exsN_all arms HIA.out]at ht;have ho:=HO.out;rw[hl]at ho ⊢;exact⟨A3,c3,rfl,HB.out,ht.row HB.out HOK.out (by have:=HBX.out;omega) ho⟩
theorem zA(k:Int)(s:List UInt8)(n:Int)(p:Pl)(A:Option Addr)(c:Nat)(B:Option Addr)(bc:Nat)(kids arms:Tr)(Ok:Nat->Prop)(w:World)(hk:KidsTr w Ok .ex A kids.len c kids)(ha:KidsTr w Ok .arms B arms.len bc arms)(hOk:∀ j,Ok j->j<w.heap.size)(hn:kids.len<=1000000)(hm:arms.len<=1000000) :
  Calls Tryz.prog 69 #[.agg #[.int .u8 k,.string ⟨s.toArray⟩,n,p.a,p.l,p.c,.slice A kids.len c,.slice B arms.len bc]] w (jt w Ok .pat arms.pats):=by
 have HK:=hid hk;have HA:=hid ha;have HOK:=hid hOk;have HIA:=hid ha.isArms;obtain⟨kl,hkl⟩:∃ kl,kl=kids.len:=⟨_,rfl⟩
 obtain⟨al,hal⟩:∃ al,al=arms.len:=⟨_,rfl⟩
 have HKL:=hid hkl;have HAL:=hid hal;rw[<- hkl]at hn ⊢;rw[<- hal]at hm ⊢;clear hk ha hOk hkl hal;obtain⟨S,hS⟩:∃ S:ByteArray,S=⟨s.toArray⟩:=⟨_,rfl⟩
 rw[<- hS];clear hS;obtain⟨i0,hi0,hz0,hz1,hz2⟩:=info_parts qfA;have hb1:Bel w (w.alloc (.cells #[.int .u8 k,S,n,p.a,p.l,p.c,.slice A kl c,.slice B al bc] 32)):=(Bel.refl w).alloc _;have hsz:(w.alloc (.cells #[.int .u8 k,S,n,p.a,p.l,p.c,.slice A kl c,.slice B al bc] 32)).heap.size=w.heap.size+1:=by simp
 have HB1:=hid hb1;have HSZ:=hid hsz;clear hb1 hsz;go_enter Tryz.func69,Tryz.ntmps69
 go_wp2_with fail
 obtain⟨bx,hbx⟩:∃ bx,bx=w.heap.size:=⟨_,rfl⟩
 have HBX:=hid hbx;clear hbx;go_loopw [3,9] (fun v i wr=>∃ (j m:Nat) (A3:Option Addr) (c3:Nat) (us:List Value),j<=al/\m=j/\v=.slice A3 m c3/\i=.int .i64 (j:Int)/\Hid (wr.ownsRow (bx+1) 78 7 (.slice A3 m c3) m us)/\Hid (Tells w Ok .pat (arms.patsN j) us)/\Hid (Bel w wr)/\Hid (w.heap.size+1<=wr.heap.size)) (fun _ i _=>al-(intOf i).toNat)
 case atStart=>exact⟨0,0,none,0,[],Nat.zero_le _,rfl,rfl,rfl,hid (World.ownsRow_nil _ _ _ _),hid (by rw[Tr.patsN_zero];exact Tells.nil),HB1,hid (by rw[HSZ.out];exact Nat.le_refl _)⟩
 case round=>
  obtain⟨j,m,A3,c3,us,hj,hm3,rfl,rfl,HO,HT,HB,HSB⟩:=hrel;by_cases hlt:j<al
  ·obtain⟨ub,uo,eB,hob,hfo⟩:=HA.out.2.2 (by rw[<- HAL.out];omega)
   subst eB;obtain⟨k',s',n',p',kd,e',en,hd⟩:=TrAt.arm_at arms j ub uo hfo (by rw[<- HAL.out];exact hlt);obtain⟨A4,c4,k2,s2,n2,p2,kids2,arms2,A2,c2,B2,bc2,ee,hkd,hk2,ha2,y0,y1,y2,y3,y4,y5,y6,y7,y8,y9,y10,y11,y12,y13,y14⟩:=qcW hd;subst ee;have HT3:Hid (Tells w Ok .pat (arms.patsN (j+1)) (us++nodV .pat k' s' n' p' A4 kd.len c4 none 0 0)):=hid (by
    rw[Tr.patsN_succ arms j HIA.out en];exact HT.out.app (Tells.one (by intro e;cases e) hkd (.inr ⟨.inl rfl,rfl⟩)))
   have hc:=(Bel.cells HB.out).1;have hob':=HOK.out ub hob;have z0:=(hc ub _ hob').trans y0;have z1:=(hc ub _ hob').trans y1;have z2:=(hc ub _ hob').trans y2;have z3:=(hc ub _ hob').trans y3;have z4:=(hc ub _ hob').trans y4;have z5:=(hc ub _ hob').trans y5;have z6:=(hc ub _ hob').trans y6;have z7:=(hc ub _ hob').trans y7;have z8:=(hc ub _ hob').trans y8;have z9:=(hc ub _ hob').trans y9;have z10:=(hc ub _ hob').trans y10;have z11:=(hc ub _ hob').trans y11;have z12:=(hc ub _ hob').trans y12;have z13:=(hc ub _ hob').trans y13;have z14:=(hc ub _ hob').trans y14;obtain⟨l1,hl1⟩:∃ l,l=kids2.len:=⟨_,rfl⟩
   obtain⟨l2,hl2⟩:∃ l,l=arms2.len:=⟨_,rfl⟩
   obtain⟨l3,hl3⟩:∃ l,l=kd.len:=⟨_,rfl⟩
   rw[<- hl1]at z13;rw[<- hl2]at z14;rw[<- hl3]at z6 HT3;obtain⟨T,hT⟩:∃ S:ByteArray,S=⟨s'.toArray⟩:=⟨_,rfl⟩
   obtain⟨T2,hT2⟩:∃ S:ByteArray,S=⟨s2.toArray⟩:=⟨_,rfl⟩
   rw[<- hT]at z1;rw[<- hT2]at z8;have HT4:Hid (Tells w Ok .pat (arms.patsN (j+1)) (us++[.int .u8 k',.string T,.int .i64 n',.int .i64 p'.a,.int .i64 p'.l,.int .i64 p'.c,.slice A4 l3 c4])):=hid (by rw[hT];exact HT3.out);have i1:(0:Int)<=(j:Int):=by omega
   have i2:(j:Int)<(al:Int):=by omega
   have hub:ub<wr.heap.size:=Nat.lt_of_lt_of_le hob' HB.out.size;clear y0 y1 y2 y3 y4 y5 y6 y7 y8 y9 y10 y11 y12 y13 y14 hc hd hfo en hkd hk2 ha2 HT3 hl1 hl2 hl3 hT hT2 HT hob';go_wp2_with (at_builtin;refine jj ?_)
   unfold zY;refine wpList_append_own_at _ rfl _ _ 76 rfl (bx+1) 78 i0 _ 7 80 Tryz.underlying76 hi0 hz0 hz1 hz2 rfl (by decide) (.slice A3 m c3) m _ rfl ((HO.out.alloc _).alloc _) ⟨wr.heap.size+1,0,none⟩ 1 1 [.int .u8 k',T,n',p'.a,p'.l,p'.c,.slice A4 l3 c4] rfl rfl (fun j u hu=>by
    rw[Addr.add_lit,Nat.zero_add];have h:=zm (wr.alloc (.cells #[.int .u8 k',T,n',p'.a,p'.l,p'.c,.slice A4 l3 c4,.int .u8 k2,T2,n2,p2.a,p2.l,p2.c,.slice A2 l1 c2,.slice B2 l2 bc2] 80)) _ 78 j u hu;rw[World.size_alloc]at h;exact h) (by simp[Value.oneCell']) (by unfold maxLen;omega) (by omega) (by simp;have:=HBX.out;have:=HB.out.size;have:=HSB.out;omega) ?_
   intro v' w5 hown5 hg5 _ hat5;obtain⟨g5,c5,rfl⟩:=zO hown5;have hb5:Bel w w5:=Below.grown ((HB.out.alloc _).alloc _) hg5 (by simp;have:=HB.out.size;omega) (fun x hx=>by have h:=(HO.out.lt x hx).1;have:=HBX.out;omega);have HB5:=hid hb5;have HSB5:Hid (w.heap.size+1<=w5.heap.size):=hid (by have h:=hg5.size;simp at h;have:=HSB.out;omega);have HO5:=hid hown5;have HLT:=hid hlt;clear hown5 hg5 hat5 hb5 z0 z1 z2 z3 z4 z5 z6 z7 z8 z9 z10 z11 z12 z13 z14 HO HB;go_wp2_with fail
   go_roundw
   case rel=>exact⟨j+1,m+1,_,c5,_,HLT.out,by omega,(by rw[hm3]),by go_num,HO5,HT4,HB5,HSB5⟩
   case measure=>have:=HLT.out;simp[intOf];omega
  ·obtain rfl:j=al:=by omega
   go_wp2_with fail
   go_ret
   have hl:m=arms.pats.len:=by rw[hm3,Tr.pats_len arms HIA.out,HAL.out]
   have ht:=HT.out;rw[HAL.out,Tr.patsN_all arms HIA.out]at ht;have ho:=HO.out;rw[hl]at ho ⊢;exact⟨A3,c3,rfl,HB.out,ht.row HB.out HOK.out (by have:=HBX.out;omega) ho⟩
theorem zW(k:Int)(s:List UInt8)(n:Int)(p:Pl)(A:Option Addr)(l c:Nat)(w:World):Calls Tryz.prog 70 #[.agg #[.int .u8 k,.string ⟨s.toArray⟩,n,p.a,p.l,p.c,.slice A l c]] w fun e w'=>e=.returned (.slice A l c)/\Bel w w':=by
 go_enter Tryz.func70,Tryz.ntmps70
 go_wp2
 go_ret
 exact⟨rfl,(Bel.refl w).alloc _⟩
theorem js(k:Int)(s:List UInt8)(n:Int)(p:Pl)(A:Option Addr)(l c:Nat)(w:World):Calls Tryz.prog 32 #[.agg #[.int .u8 k,.string ⟨s.toArray⟩,.int .u8 n,p.a,p.l,p.c,.slice A l c]] w fun e w'=>e=.returned (.slice A l c)/\Bel w w':=by
 go_enter Tryz.func32,Tryz.ntmps32
 go_wp2
 go_ret
 exact⟨rfl,(Bel.refl w).alloc _⟩
end Go.Proofs.YtlmmaoobembadaaGreatDoor.Mu
