import Derived.Test.YtlmmaoobembadaaGreatDoorPav
open Go.Lib (hid)
namespace Go.Proofs.YtlmmaoobembadaaGreatDoor.Mu
open Go.ChangeShapes Go.WideShapes Go.ChangeAt Go.RowKit Go.Joins Go.Deep
set_option linter.unusedVariables false
structure Nd0 where
 k:Int
 s:List UInt8
 n:Int
 p:Pl
 kids:Tr
 arms:Tr
def Nd0.tr(x:Nd0)(r:Tr):Tr:= .nod x.k x.s x.n x.p x.kids x.arms r
def Nd0.ar(x:Nd0)(r:Tr):Tr:= .arm x.k x.s x.n x.p x.kids x.arms r
def Nd0.sz(x:Nd0):Nat:=4*(1+x.kids.size+x.arms.size)
def trN:List Nd0->Tr
 | []=> .nil
 | x::xs=>x.tr (trN xs)
def trA:List Nd0->Tr
 | []=> .nil
 | x::xs=>x.ar (trA xs)
def Zo(sh:Sh)(w:World)(Ok:Nat->Prop)(b o:Nat)(x:Nd0):Prop:=TrAt w Ok (x.tr .nil) sh b o
def qe6(w:World)(Ok:Nat->Prop)(b o:Nat)(x:Nd0):Prop:=TrAt w Ok (x.ar .nil) .arms b o
theorem qeU:∀ xs,(trN xs).len=xs.length
 | []=>rfl
 | x::xs=>by simp only[trN,Nd0.tr,Tr.len,qeU xs,List.length_cons]
theorem qeT:∀ xs,(trA xs).len=xs.length
 | []=>rfl
 | x::xs=>by simp only[trA,Nd0.ar,Tr.len,qeT xs,List.length_cons]
theorem QH:∀ xs,4*(trN xs).size=sumW Nd0.sz xs
 | []=>rfl
 | x::xs=>by
  have:=QH xs;simp only[trN,Nd0.tr,Tr.size,sumW,Nd0.sz]at this ⊢;omega
theorem qbz:∀ xs,4*(trA xs).size=sumW Nd0.sz xs
 | []=>rfl
 | x::xs=>by
  have:=qbz xs;simp only[trA,Nd0.ar,Tr.size,sumW,Nd0.sz]at this ⊢;omega
theorem qgr{w:World}{Ok:Nat->Prop}{sh:Sh}:∀ (xs:List Nd0) (b o:Nat),(∀ (i:Nat) x,xs[i]?=some x->Zo sh w Ok b (o+i*sh.sz) x)->TrAt w Ok (trN xs) sh b o
 | [],_,_,_=>trivial
 | x::xs,b,o,h=>by
  have h0:=h 0 x rfl;rw[Nat.zero_mul]at h0;exact⟨h0.1,h0.2.1,h0.2.2.1,qgr xs b _ fun i y hy=>by
   have:=h (i+1) y hy;rwa [show o+(i+1)*sh.sz=o+sh.sz+i*sh.sz by rw[Nat.add_mul];omega]at this⟩
theorem qgp{w:World}{Ok:Nat->Prop}:∀ (xs:List Nd0) (b o:Nat),(∀ (i:Nat) x,xs[i]?=some x->qe6 w Ok b (o+i*15) x)->TrAt w Ok (trA xs) .arms b o
 | [],_,_,_=>trivial
 | x::xs,b,o,h=>by
  have h0:=h 0 x rfl;rw[Nat.zero_mul]at h0;exact⟨rfl,h0.2.1,h0.2.2.1,h0.2.2.2.1,h0.2.2.2.2.1,qgp xs b _ fun i y hy=>by
   have:=h (i+1) y hy;rwa [show o+(i+1)*15=o+15+i*15 by omega]at this⟩
theorem qaX{w:World}{Ok:Nat->Prop}{sh:Sh}{A:Option Addr}{n c:Nat}{xs:List Nd0}(h:RowOf sh.sz (Zo sh) w Ok A n c xs):KidsTr w Ok sh A n c (trN xs):=
 ⟨by rw[qeU];exact h.1,h.2.1,fun h0=>by
  obtain⟨b,o,e,hb,hx⟩:=h.2.2 h0;exact⟨b,o,e,hb,qgr xs b o hx⟩⟩
theorem qhL{w:World}{Ok:Nat->Prop}{A:Option Addr}{n c:Nat}{xs:List Nd0}(h:RowOf 15 qe6 w Ok A n c xs):KidsTr w Ok .arms A n c (trA xs):=
 ⟨by rw[qeT];exact h.1,h.2.1,fun h0=>by
  obtain⟨b,o,e,hb,hx⟩:=h.2.2 h0;exact⟨b,o,e,hb,qgp xs b o hx⟩⟩
def Nd0.pr(x:Nd0):Prop:=fitN x.s x.n/\x.kids.len<=1048576/\x.arms.len<=1048576/\x.kids.fit/\x.arms.fit/\x.kids.ints/\x.arms.ints
theorem qbA:∀ xs:List Nd0,(∀ x∈xs,x.pr)->(trN xs).fit/\(trN xs).ints
 | [],_=>⟨trivial,trivial⟩
 | x::xs,h=>by
  obtain⟨h1,h2⟩:=qbA xs fun y hy=>h y (List.mem_cons_of_mem _ hy);obtain⟨a,b,c,d,e,f,g⟩:=h x (List.mem_cons_self ..);exact⟨⟨a.1,by omega,by omega,d,e,h1⟩,⟨a,f,g,h2⟩⟩
theorem qgq:∀ xs:List Nd0,(∀ x∈xs,x.pr)->(trA xs).fit/\(trA xs).ints
 | [],_=>⟨trivial,trivial⟩
 | x::xs,h=>by
  obtain⟨h1,h2⟩:=qgq xs fun y hy=>h y (List.mem_cons_of_mem _ hy);obtain⟨a,b,c,d,e,f,g⟩:=h x (List.mem_cons_self ..);exact⟨⟨a.1,by omega,d,e,h1⟩,⟨a,f,g,h2⟩⟩
section
variable {H : Type} {enc : TypeId × Value -> H} {W : World} {base : Nat}
theorem qF{t:TypeId}{fs:List (String × TypeId × Nat)}{fuel:Nat}{cs:List Value}{x:DataW H × List MemPlace}(uI:Tryz.prog.underlying t=some (.struct (Tryz.prog.fieldsOf t)))
  (hf:((Tryz.prog.fieldsOf t).toList.map fun f=>(f.name,f.type,f.offset))=fs) (h:DataW.trod enc Tryz.prog W base (fun _=>true) true fuel t cs=some x) :
  ∃ (n:Nat) (ys:List (DataW H × List MemPlace)),x.1=.agg (ys.map (·.1))/\cs.length=Tryz.prog.cellsOf t/\ys.length=fs.length/\∀ (i:Nat) f,fs[i]?=some f->DataW.trod enc Tryz.prog W base (fun _=>true) true n f.2.1 ((cs.drop f.2.2).take (Tryz.prog.cellsOf f.2.1))=ys[i]?:=by
 obtain⟨ys,n,_,hx,hlen,hyl,hfs⟩:=DataW.trod_struct uI h;refine⟨n,ys,by rw[hx],hlen,by rw[hyl,<- hf,List.length_map,Array.length_toList],fun i f hi=>?_⟩;rw[<- hf,List.getElem?_map]at hi;obtain⟨g,hg,rfl⟩:=Option.map_eq_some_iff.1 hi;exact hfs i g (by rw[<- Array.getElem?_toList];exact hg)
theorem Qm{α:Type}[Inhabited α]{sz:Nat}{At:World->(Nat->Prop)->Nat->Nat->α->Prop}{e t:TypeId}(ut:Tryz.prog.underlying t=some (.slice e))(hsz:Tryz.prog.cellsOf e=sz)(h0:0<sz)(B:Nat)(wt:α->Nat)(Pr:α->Prop)
  (el:∀ fuel cs (x:DataW H × List MemPlace),DataW.trod enc Tryz.prog W base (fun _=>true) true fuel e cs=some x->Rows.uptoBulk x.1<=B->∃ a:α,Pr a/\wt a<=Rows.uptoBulk x.1/\∀ b o,(∀ j u,cs[j]?=some u->W.cell? ⟨b,o+j,none⟩=some u)->At W (OldT W) b o a)
  {fuel:Nat} {cs:List Value} {x:DataW H × List MemPlace} (h:DataW.trod enc Tryz.prog W base (fun _=>true) true fuel t cs=some x) (hB:Rows.uptoBulk x.1<=B+1) :
  ∃ A n c xs,cs=[.slice A n c]/\RowOf sz At W (OldT W) A n c xs/\(∀ a∈xs,Pr a)/\sumW wt xs<=Rows.uptoBulk x.1/\n<=Rows.uptoBulk x.1:=by
 rcases open_slice ut h with ⟨hcs,_⟩ | ⟨a,len,cap,m,n,D,Pl,hcs,hb,hl,hm,hmm,hx,hi⟩
 ·exact⟨none,0,0,[],hcs,⟨rfl,Nat.le_refl _,fun h=>absurd h (by decide)⟩,by simp,Nat.zero_le _,Nat.zero_le _⟩
 ·simp only[if_true]at hmm
  rw[hsz]at hi;rw[hx]at hB ⊢;simp only[Rows.uptoBulk]at hB ⊢;have hmem:∀ i,i<len->Rows.uptoBulk (D i)<=Rows.uptoBulkAll ((List.range len).map D):=fun i hlt=>qcZ (List.mem_map.2 ⟨i,List.mem_range.2 hlt,rfl⟩);by_cases hl0:len=0
  ·subst hl0
   exact⟨some a,0,cap,[],hcs,⟨rfl,hl,fun h=>absurd h (by decide)⟩,by simp,Nat.zero_le _,Nat.zero_le _⟩
  obtain⟨b,o,spot⟩:=a;have hspot:spot=none:=by
   obtain⟨cs',hc,ht⟩:=hi 0 (by omega);obtain⟨_,hcl,hat⟩:=World.cells?_some hc;have hc0:W.cell? (((Addr.mk b o spot).add (0*sz)).add 0)=some (cs'[0]'(by rw[hcl];exact h0)):=by
    rw[hat 0 h0];exact List.getElem?_eq_getElem _
   simpa [Addr.add] using World.cell?_spot hc0
  subst hspot;have key:∀ i,∃ q:α,i<len->Pr q/\wt q<=Rows.uptoBulk (D i)/\b<W.heap.size/\At W (OldT W) b (o+i*sz) q:=by
   intro i;by_cases hlt:i<len
   ·obtain⟨cs',hc,ht⟩:=hi i (by omega)
    obtain⟨_,hcl,hat⟩:=World.cells?_some hc;have:=hmem i hlt;obtain⟨q,h1,h2,h3⟩:=el _ _ _ ht (by simp only;omega);refine⟨q,fun _=>⟨h1,h2,?_⟩⟩;have hc0:W.cell? ⟨b,o+(i*sz+0),none⟩=some (cs'[0]'(by rw[hcl];exact h0)):=by
     rw[<- Addr.add_lit,<- Go.Deep.add_add,hat 0 h0];exact List.getElem?_eq_getElem _
    refine⟨World.block_lt_of_cell? W _ hc0,h3 b _ fun j u hu=>?_⟩;have hj:j<sz:=by have:=(List.getElem?_eq_some_iff.1 hu).1;omega
    have:=hat j hj;rw[Go.Deep.add_add,Addr.add_lit,hu,<- Nat.add_assoc]at this;exact this
   ·exact⟨default,fun h=>absurd h hlt⟩
  have hk:∀ i,i<len->_:=fun i=>Classical.choose_spec (key i);refine⟨some ⟨b,o,none⟩,len,cap,(List.range len).map fun i=>Classical.choose (key i),hcs,⟨by simp,hl,fun hn=>?_⟩,fun q hq=>?_,?_,?_⟩
  ·refine⟨b,o,rfl,(hk 0 hn).2.2.1,fun i q hq=>?_⟩
   have hlt:i<len:=by have:=(List.getElem?_eq_some_iff.1 hq).1;simpa using this
   have hq2:Classical.choose (key i)=q:=by simpa [List.getElem?_map,List.getElem?_range hlt] using hq
   rw[<- hq2];exact (hk i hlt).2.2.2
  ·obtain⟨i,hi2,rfl⟩:=List.mem_map.1 hq
   exact (hk i (by simpa using hi2)).1
  ·have hs:∀ l:List Nat,(∀ i∈l,i<len)->sumW wt (l.map fun i=>Classical.choose (key i))<=Rows.uptoBulkAll (l.map D):=by
    intro l;induction l with
    | nil=>intro _;exact Nat.le_refl _
    | cons i l ih=>
     intro hl;have h1:=ih fun j hj=>hl j (List.mem_cons_of_mem _ hj);have h2:=(hk i (hl i (List.mem_cons_self ..))).2.1;simp only[List.map_cons,sumW,Rows.uptoBulkAll];omega
   have:=hs (List.range len) fun i hi=>by simpa using hi
   omega
  ·have:=qcY ((List.range len).map D)
   simp only[List.length_map,List.length_range]at this;omega
theorem qiS:((Tryz.prog.fieldsOf 26).toList.map fun f=>(f.name,f.type,f.offset))=[("At",3,0),("Line",3,1),("Col",3,2)]:=by kernel_rfl
theorem qiR:((Tryz.prog.fieldsOf 78).toList.map fun f=>(f.name,f.type,f.offset))=[("Kind",5,0),("S",9,1),("N",2,2),("At",26,3),("L",76,6)]:=by kernel_rfl
theorem fTyS:((Tryz.prog.fieldsOf 59).toList.map fun f=>(f.name,f.type,f.offset))=[("Kind",5,0),("S",9,1),("M",56,2),("At",26,3),("L",57,6)]:=by kernel_rfl
theorem fExS:((Tryz.prog.fieldsOf 32).toList.map fun f=>(f.name,f.type,f.offset))=[("Kind",5,0),("S",9,1),("N",2,2),("At",26,3),("L",29,6),("Arms",30,7)]:=by kernel_rfl
theorem fArS:((Tryz.prog.fieldsOf 80).toList.map fun f=>(f.name,f.type,f.offset))=[("P",78,0),("E",32,7)]:=by kernel_rfl
theorem fFdS:((Tryz.prog.fieldsOf 61).toList.map fun f=>(f.name,f.type,f.offset))=[("M",56,0),("T",59,1)]:=by kernel_rfl
theorem fCdS:((Tryz.prog.fieldsOf 64).toList.map fun f=>(f.name,f.type,f.offset))=[("Name",9,0),("At",26,1),("Fields",62,4)]:=by kernel_rfl
theorem fDcS:((Tryz.prog.fieldsOf 34).toList.map fun f=>(f.name,f.type,f.offset))=[("Kind",5,0),("Name",9,1),("At",26,2),("Params",27,5),("Cons",28,6),("Rec",4,7),("E",32,8)]:=by kernel_rfl
theorem k_u8:Tryz.prog.cellsOf 5=1:=by kernel_rfl
theorem qb3:Tryz.prog.cellsOf 9=1:=by kernel_rfl
theorem qiq:Tryz.prog.cellsOf 2=1:=by kernel_rfl
theorem qiY:Tryz.prog.cellsOf 3=1:=by kernel_rfl
theorem qip:Tryz.prog.cellsOf 4=1:=by kernel_rfl
theorem qgj:Tryz.prog.cellsOf 56=1:=by kernel_rfl
theorem qdn:Tryz.prog.cellsOf 26=3:=by kernel_rfl
theorem qhh:Tryz.prog.cellsOf 78=7:=by kernel_rfl
theorem k_ty:Tryz.prog.cellsOf 59=7:=by kernel_rfl
theorem k_ex:Tryz.prog.cellsOf 32=8:=by kernel_rfl
theorem qio:Tryz.prog.cellsOf 80=15:=by kernel_rfl
theorem k_fd:Tryz.prog.cellsOf 61=8:=by kernel_rfl
theorem k_cd:Tryz.prog.cellsOf 64=5:=by kernel_rfl
theorem k_dc:Tryz.prog.cellsOf 34=16:=by kernel_rfl
theorem qis:Tryz.prog.cellsOf 76=1:=by kernel_rfl
theorem qi2:Tryz.prog.cellsOf 57=1:=by kernel_rfl
theorem qi0:Tryz.prog.cellsOf 29=1:=by kernel_rfl
theorem qir:Tryz.prog.cellsOf 30=1:=by kernel_rfl
theorem qi1:Tryz.prog.cellsOf 62=1:=by kernel_rfl
theorem qiZ:Tryz.prog.cellsOf 28=1:=by kernel_rfl
theorem qit:Tryz.prog.cellsOf 27=1:=by kernel_rfl
abbrev qE(enc:TypeId × Value->H)(W:World)(base:Nat)(fuel:Nat)(t:TypeId)(cs:List Value)(x:DataW H × List MemPlace):Prop:=DataW.trod enc Tryz.prog W base (fun _=>true) true fuel t cs=some x
theorem JH{fuel:Nat}{c0 c1 c2:Value}{x:DataW H × List MemPlace}(h:qE enc W base fuel 26 [c0,c1,c2] x):∃ p:Pl,c0=.int .i64 p.a/\c1=.int .i64 p.l/\c2=.int .i64 p.c:=by
 obtain⟨n,ys,_,_,hy,hf⟩:=qF (by kernel_rfl) qiS h;match ys,hy with
 | [y0,y1,y2],_=>
  have h0:=hf 0 _ rfl;have h1:=hf 1 _ rfl;have h2:=hf 2 _ rfl;simp only[qiY]at h0 h1 h2;obtain⟨a,e0,_,_⟩:=DataW.trod_int Tryz.underlying3 (show qE enc W base n 3 [c0] y0 from h0);obtain⟨l,e1,_,_⟩:=DataW.trod_int Tryz.underlying3 (show qE enc W base n 3 [c1] y1 from h1);obtain⟨c,e2,_,_⟩:=DataW.trod_int Tryz.underlying3 (show qE enc W base n 3 [c2] y2 from h2);simp only[List.cons.injEq,and_true]at e0 e1 e2;exact⟨⟨a,l,c⟩,e0,e1,e2⟩
theorem JT{fuel:Nat}{c0:Value}{x:DataW H × List MemPlace}(h:qE enc W base fuel 9 [c0] x):∃ s:List UInt8,c0=.string ⟨s.toArray⟩/\s.length+1<=Rows.uptoBulk x.1:=by
 obtain⟨s,e4,ds,_⟩:=DataW.trod_string Tryz.underlying9 h;simp only[List.cons.injEq,and_true]at e4;subst e4;refine⟨s.data.toList,rfl,?_⟩;rw[ds];simp only[Rows.uptoBulk];exact Nat.le_refl _
theorem QS{sh:Sh}(hs:sh ≠ .arms){q:Nd0}{A:Option Addr}{c:Nat}{Bd:Option Addr}{bc:Nat}(hk:KidsTr W (OldT W) sh A q.kids.len c q.kids)(ha:(sh=.ex/\KidsTr W (OldT W) .arms Bd q.arms.len bc q.arms)∨((sh=.pat∨sh=.ty)/\q.arms.len=0))(b o:Nat)
  (hc:∀ j u,(nodV sh q.k q.s q.n q.p A q.kids.len c Bd q.arms.len bc)[j]?=some u->W.cell? ⟨b,o+j,none⟩=some u):Zo sh W (OldT W) b o q:=
 (Tells.one hs hk ha (k:=q.k) (s:=q.s) (n:=q.n) (p:=q.p)).2.2 W b o hc (fun _ _=>rfl)
instance:Inhabited Nd0:=⟨⟨0,[],0,⟨0,0,0⟩,.nil,.nil⟩⟩
instance:Inhabited Fd:=⟨⟨0,0,[],0,⟨0,0,0⟩,.nil⟩⟩
instance:Inhabited Cd:=⟨⟨[],⟨0,0,0⟩,[]⟩⟩
instance:Inhabited Dc:=⟨⟨0,[],⟨0,0,0⟩,[],[],false,0,[],0,⟨0,0,0⟩,.nil,.nil⟩⟩
set_option maxRecDepth 100000 in
theorem qdz(B:Nat)(hB1:B<=1048576):∀ (fuel:Nat) (cs:List Value) (x:DataW H × List MemPlace),qE enc W base fuel 78 cs x->Rows.uptoBulk x.1<=B →
  ∃ (q:Nd0) (A:Option Addr) (c:Nat),q.arms=.nil/\cs=nodV .pat q.k q.s q.n q.p A q.kids.len c none 0 0/\KidsTr W (OldT W) .pat A q.kids.len c q.kids/\q.pr/\q.sz<=Rows.uptoBulk x.1:=by
 induction B with
 | zero=>intro fuel cs x h hB;have:=qo x.1;omega
 | succ B ih=>
  intro fuel cs x h hB;obtain⟨n,ys,hx,hlen,hy,hf⟩:=qF Tryz.underlying78 qiR h;rw[qhh]at hlen;match cs,hlen,ys,hy with
  | [c0,c1,c2,c3,c4,c5,c6],_,[y0,y1,y2,y3,y4],_=>
   have h0:=hf 0 _ rfl;have h1:=hf 1 _ rfl;have h2:=hf 2 _ rfl;have h3:=hf 3 _ rfl;have h4:=hf 4 _ rfl;simp only[k_u8,qb3,qiq,qdn,qis]at h0 h1 h2 h3 h4;obtain⟨k,e0,_,_⟩:=DataW.trod_int Tryz.underlying5 (show qE enc W base n 5 [c0] y0 from h0);obtain⟨s,e1,hs1⟩:=JT (show qE enc W base n 9 [c1] y1 from h1);obtain⟨m,e2,_,hm⟩:=DataW.trod_int Tryz.underlying2 (show qE enc W base n 2 [c2] y2 from h2);obtain⟨p,e3,e4,e5⟩:=JH (show qE enc W base n 26 [c3,c4,c5] y3 from h3);have b0:=qo y0.1;have b2:=qo y2.1;have b3:=qo y3.1;rw[hx]at hB ⊢;simp only[List.map_cons,List.map_nil,Rows.uptoBulk,Rows.uptoBulkAll]at hB ⊢;obtain⟨A,len,cp,xs,e6,hr,hpr,hsum,_⟩:=Qm (α:=Nd0) (At:=Zo .pat) Tryz.underlying76 qhh (by decide) B Nd0.sz Nd0.pr (fun fuel cs x h hB=>by
    obtain⟨q,A,c,r1,rfl,r3,r4,r5⟩:=ih (by omega) fuel cs x h hB;exact⟨q,r4,r5,fun b o hc=>QS (by intro e;cases e) r3 (.inr ⟨.inl rfl,by rw[r1];rfl⟩) (Bd:=none) (bc:=0) b o (by rw[r1];exact hc)⟩) (show qE enc W base n 76 [c6] y4 from h4) (by omega)
   have hkid:=qaX hr;have hkl:=hkid.1;subst hkl;have hsz:=QH xs;have hle:=(trN xs).len_le;obtain⟨hfit,hints⟩:=qbA xs hpr;simp only[List.cons.injEq,and_true]at e0 e2 e6;subst e0 e1 e2 e3 e4 e5 e6;exact⟨⟨k,s,m,p,trN xs,.nil⟩,A,cp,rfl,rfl,hkid,⟨⟨by show s.length<=140737488355328;omega,(bounds_i64 hm).1,(bounds_i64 hm).2⟩,by simp only;omega,Nat.zero_le _,hfit,trivial,hints,trivial⟩,by simp only[Nd0.sz,Tr.size];omega⟩
set_option maxRecDepth 100000 in
theorem qf4(B:Nat)(hB1:B<=1048576):∀ (fuel:Nat) (cs:List Value) (x:DataW H × List MemPlace),qE enc W base fuel 59 cs x->Rows.uptoBulk x.1<=B →
  ∃ (q:Nd0) (A:Option Addr) (c:Nat),q.arms=.nil/\cs=nodV .ty q.k q.s q.n q.p A q.kids.len c none 0 0/\KidsTr W (OldT W) .ty A q.kids.len c q.kids/\q.pr/\q.sz<=Rows.uptoBulk x.1:=by
 induction B with
 | zero=>intro fuel cs x h hB;have:=qo x.1;omega
 | succ B ih=>
  intro fuel cs x h hB;obtain⟨n,ys,hx,hlen,hy,hf⟩:=qF Tryz.underlying59 fTyS h;rw[k_ty]at hlen;match cs,hlen,ys,hy with
  | [c0,c1,c2,c3,c4,c5,c6],_,[y0,y1,y2,y3,y4],_=>
   have h0:=hf 0 _ rfl;have h1:=hf 1 _ rfl;have h2:=hf 2 _ rfl;have h3:=hf 3 _ rfl;have h4:=hf 4 _ rfl;simp only[k_u8,qb3,qgj,qdn,qi2]at h0 h1 h2 h3 h4;obtain⟨k,e0,_,_⟩:=DataW.trod_int Tryz.underlying5 (show qE enc W base n 5 [c0] y0 from h0);obtain⟨s,e1,hs1⟩:=JT (show qE enc W base n 9 [c1] y1 from h1);obtain⟨m,e2,_,hm⟩:=DataW.trod_int Tryz.underlying56 (show qE enc W base n 56 [c2] y2 from h2);obtain⟨p,e3,e4,e5⟩:=JH (show qE enc W base n 26 [c3,c4,c5] y3 from h3);have b0:=qo y0.1;have b2:=qo y2.1;have b3:=qo y3.1;rw[hx]at hB ⊢;simp only[List.map_cons,List.map_nil,Rows.uptoBulk,Rows.uptoBulkAll]at hB ⊢;obtain⟨A,len,cp,xs,e6,hr,hpr,hsum,_⟩:=Qm (α:=Nd0) (At:=Zo .ty) Tryz.underlying57 k_ty (by decide) B Nd0.sz Nd0.pr (fun fuel cs x h hB=>by
    obtain⟨q,A,c,r1,rfl,r3,r4,r5⟩:=ih (by omega) fuel cs x h hB;exact⟨q,r4,r5,fun b o hc=>QS (by intro e;cases e) r3 (.inr ⟨.inr rfl,by rw[r1];rfl⟩) (Bd:=none) (bc:=0) b o (by rw[r1];exact hc)⟩) (show qE enc W base n 57 [c6] y4 from h4) (by omega)
   have hkid:=qaX hr;have hkl:=hkid.1;subst hkl;have hsz:=QH xs;have hle:=(trN xs).len_le;obtain⟨hfit,hints⟩:=qbA xs hpr;simp only[List.cons.injEq,and_true]at e0 e2 e6;subst e0 e1 e2 e3 e4 e5 e6;exact⟨⟨k,s,m,p,trN xs,.nil⟩,A,cp,rfl,rfl,hkid,⟨⟨by show s.length<=140737488355328;omega,by have:=(bounds_u8 hm).1;show -9223372036854775808<=m;omega,by have:=(bounds_u8 hm).2;show m<=9223372036854775807;omega⟩,by simp only;omega,Nat.zero_le _,hfit,trivial,hints,trivial⟩,by simp only[Nd0.sz,Tr.size];omega⟩
set_option maxRecDepth 100000 in
theorem qcP(B:Nat)(hB1:B<=1048576) (ih:∀ (fuel:Nat) (cs:List Value) (x:DataW H × List MemPlace),qE enc W base fuel 32 cs x->Rows.uptoBulk x.1<=B →
  ∃ (q:Nd0) (A:Option Addr) (c:Nat) (Bd:Option Addr) (bc:Nat),cs=nodV .ex q.k q.s q.n q.p A q.kids.len c Bd q.arms.len bc/\KidsTr W (OldT W) .ex A q.kids.len c q.kids/\KidsTr W (OldT W) .arms Bd q.arms.len bc q.arms/\q.pr/\q.sz<=Rows.uptoBulk x.1) :
  ∀ (fuel:Nat) (cs:List Value) (x:DataW H × List MemPlace),qE enc W base fuel 80 cs x->Rows.uptoBulk x.1<=B->∃ q:Nd0,q.pr/\q.sz<=Rows.uptoBulk x.1/\∀ b o,(∀ j u,cs[j]?=some u->W.cell? ⟨b,o+j,none⟩=some u)->qe6 W (OldT W) b o q:=by
 intro fuel cs x h hB;obtain⟨n,ys,hx,hlen,hy,hf⟩:=qF Tryz.underlying80 fArS h;rw[qio]at hlen;match ys,hy with
 | [y0,y1],_=>
  have h0:=hf 0 _ rfl;have h1:=hf 1 _ rfl;simp only[qhh,k_ex]at h0 h1;rw[hx]at hB ⊢;simp only[List.map_cons,List.map_nil,Rows.uptoBulk,Rows.uptoBulkAll]at hB ⊢;obtain⟨q,A,c,r1,r2,r3,r4,r5⟩:=qdz B hB1 _ _ y0 h0 (by omega);obtain⟨q2,A2,c2,B2,bc2,s2,s3,s4,s5,s6⟩:=ih _ _ y1 h1 (by omega);refine⟨⟨q.k,q.s,q.n,q.p,q.kids,q2.tr .nil⟩,⟨r4.1,r4.2.1,by simp[Nd0.tr,Tr.len],r4.2.2.2.1,⟨s5.1.1,by have:=s5.2.1;omega,by have:=s5.2.2.1;omega,s5.2.2.2.1,s5.2.2.2.2.1,trivial⟩,r4.2.2.2.2.2.1,⟨s5.1,s5.2.2.2.2.2.1,s5.2.2.2.2.2.2,trivial⟩⟩,?_,fun b o hc=>?_⟩
  ·simp only[Nd0.sz,Nd0.tr,Tr.size]at r5 s6 ⊢
   rw[r1]at r5;simp only[Tr.size]at r5;omega
  ·have hc0:∀ j u,(nodV .pat q.k q.s q.n q.p A q.kids.len c none 0 0)[j]?=some u->W.cell? ⟨b,o+j,none⟩=some u:=fun j u hu=>by
    rw[<- r2]at hu;have hj:j<7:=by have:=(List.getElem?_eq_some_iff.1 hu).1;simp at this;omega
    exact hc j u (by rw[List.getElem?_take_of_lt hj,List.drop_zero]at hu;exact hu)
   have hc1:∀ j u,(nodV .ex q2.k q2.s q2.n q2.p A2 q2.kids.len c2 B2 q2.arms.len bc2)[j]?=some u->W.cell? ⟨b,o+7+j,none⟩=some u:=fun j u hu=>by
    rw[<- s2]at hu;have hj:j<8:=by have:=(List.getElem?_eq_some_iff.1 hu).1;simp at this;omega
    rw[Nat.add_assoc];exact hc (7+j) u (by rw[List.getElem?_take_of_lt hj,List.getElem?_drop]at hu;exact hu)
   have hp:Zo .pat W (OldT W) b o ⟨q.k,q.s,q.n,q.p,q.kids,.nil⟩:=QS (q:=⟨q.k,q.s,q.n,q.p,q.kids,.nil⟩) (by intro e;cases e) r3 (.inr ⟨.inl rfl,rfl⟩) (Bd:=none) (bc:=0) b o hc0;have he:Zo .ex W (OldT W) b (o+7) q2:=QS (by intro e;cases e) s3 (.inl ⟨rfl,s4⟩) b (o+7) hc1;exact⟨rfl,hp.1,hp.2.1,rfl,he,trivial⟩
set_option maxRecDepth 100000 in
theorem qfq(B:Nat)(hB1:B<=1048576):∀ (fuel:Nat) (cs:List Value) (x:DataW H × List MemPlace),qE enc W base fuel 32 cs x->Rows.uptoBulk x.1<=B →
  ∃ (q:Nd0) (A:Option Addr) (c:Nat) (Bd:Option Addr) (bc:Nat),cs=nodV .ex q.k q.s q.n q.p A q.kids.len c Bd q.arms.len bc/\KidsTr W (OldT W) .ex A q.kids.len c q.kids/\KidsTr W (OldT W) .arms Bd q.arms.len bc q.arms/\q.pr/\q.sz<=Rows.uptoBulk x.1:=by
 induction B with
 | zero=>intro fuel cs x h hB;have:=qo x.1;omega
 | succ B ih=>
  intro fuel cs x h hB;obtain⟨n,ys,hx,hlen,hy,hf⟩:=qF Tryz.underlying32 fExS h;rw[k_ex]at hlen;match cs,hlen,ys,hy with
  | [c0,c1,c2,c3,c4,c5,c6,c7],_,[y0,y1,y2,y3,y4,y5],_=>
   have h0:=hf 0 _ rfl;have h1:=hf 1 _ rfl;have h2:=hf 2 _ rfl;have h3:=hf 3 _ rfl;have h4:=hf 4 _ rfl;have h5:=hf 5 _ rfl;simp only[k_u8,qb3,qiq,qdn,qi0,qir]at h0 h1 h2 h3 h4 h5;obtain⟨k,e0,_,_⟩:=DataW.trod_int Tryz.underlying5 (show qE enc W base n 5 [c0] y0 from h0);obtain⟨s,e1,hs1⟩:=JT (show qE enc W base n 9 [c1] y1 from h1);obtain⟨m,e2,_,hm⟩:=DataW.trod_int Tryz.underlying2 (show qE enc W base n 2 [c2] y2 from h2);obtain⟨p,e3,e4,e5⟩:=JH (show qE enc W base n 26 [c3,c4,c5] y3 from h3);have b0:=qo y0.1;have b2:=qo y2.1;have b3:=qo y3.1;rw[hx]at hB ⊢;simp only[List.map_cons,List.map_nil,Rows.uptoBulk,Rows.uptoBulkAll]at hB ⊢;obtain⟨A,len,cp,xs,e6,hr,hpr,hsum,_⟩:=Qm (α:=Nd0) (At:=Zo .ex) Tryz.underlying29 k_ex (by decide) B Nd0.sz Nd0.pr (fun fuel cs x h hB=>by
    obtain⟨q,A,c,Bd,bc,rfl,r3,r3',r4,r5⟩:=ih (by omega) fuel cs x h hB;exact⟨q,r4,r5,fun b o hc=>QS (by intro e;cases e) r3 (.inl ⟨rfl,r3'⟩) b o hc⟩) (show qE enc W base n 29 [c6] y4 from h4) (by omega)
   obtain⟨A2,len2,cp2,xs2,e7,hr2,hpr2,hsum2,_⟩:=Qm (α:=Nd0) (At:=qe6) Tryz.underlying30 qio (by decide) B Nd0.sz Nd0.pr (qcP B (by omega) (ih (by omega))) (show qE enc W base n 30 [c7] y5 from h5) (by omega);have hkid:=qaX hr;have harm:=qhL hr2;have hkl:=hkid.1;have hal:=harm.1;subst hkl hal;have hsz:=QH xs;have hle:=(trN xs).len_le;have hsz2:=qbz xs2;have hle2:=(trA xs2).len_le;obtain⟨hfit,hints⟩:=qbA xs hpr;obtain⟨hfit2,hints2⟩:=qgq xs2 hpr2;simp only[List.cons.injEq,and_true]at e0 e2 e6 e7;subst e0 e1 e2 e3 e4 e5 e6 e7;exact⟨⟨k,s,m,p,trN xs,trA xs2⟩,A,cp,A2,cp2,rfl,hkid,harm,⟨⟨by show s.length<=140737488355328;omega,(bounds_i64 hm).1,(bounds_i64 hm).2⟩,by simp only;omega,by simp only;omega,hfit,hfit2,hints,hints2⟩,by simp only[Nd0.sz];omega⟩
def Fd.szO(x:Fd):Nat:=4*(1+x.kids.size)
def Fd.prO(x:Fd):Prop:=x.good/\x.tr.fit/\x.tr.ints
def Cd.szO(x:Cd):Nat:=2+sumW Fd.szO x.fs
def Cd.prO(x:Cd):Prop:=x.nm.length<=1048576/\x.fs.length<=500000/\∀ f∈x.fs,f.prO
def Dc.szO(x:Dc):Nat:=4+sumW Cd.szO x.cs
def Dc.prO(x:Dc):Prop:=x.good/\x.upto/\x.ints/\(tysL (qm x.cs)).size<=1000000
theorem jS{α:Type}(f:α->Nat)(m:Nat)(h:∀ x,m<=f x):∀ xs:List α,m*xs.length<=sumW f xs
 | []=>Nat.le_refl _
 | x::xs=>by
  have:=jS f m h xs;have:=h x;simp only[sumW,List.length_cons,Nat.mul_add];omega
theorem qa6:∀ cs:List Cd,4*(tysL (qm cs)).size<=sumW Cd.szO cs/\4*(qm cs).length<=sumW Cd.szO cs
 | []=>⟨Nat.zero_le _,Nat.zero_le _⟩
 | c::cs=>by
  obtain⟨h1,h2⟩:=qa6 cs;have h3:∀ fs:List Fd,4*(tysL fs).size=sumW Fd.szO fs:=by
   intro fs;induction fs with
   | nil=>rfl
   | cons x xs ih=>simp only[tysL,Tr.size,sumW,Fd.szO]at ih ⊢;omega
  have h4:=h3 c.fs;have h5:=jS Fd.szO 4 (fun x=>by simp only[Fd.szO];omega) c.fs;simp only[qm,jo,Tr.app_size,List.length_append,sumW,Cd.szO]at h1 h2 ⊢;exact⟨by omega,by omega⟩
set_option maxRecDepth 100000 in
theorem qft(B:Nat)(hB1:B<=1048576):∀ (fuel:Nat) (cs:List Value) (x:DataW H × List MemPlace),qE enc W base fuel 61 cs x->Rows.uptoBulk x.1<=B->∃ q:Fd,q.prO/\q.szO<=Rows.uptoBulk x.1/\∀ b o,(∀ j u,cs[j]?=some u->W.cell? ⟨b,o+j,none⟩=some u)->FdAt W (OldT W) b o q:=by
 intro fuel cs x h hB;obtain⟨n,ys,hx,hlen,hy,hf⟩:=qF Tryz.underlying61 fFdS h;rw[k_fd]at hlen;match cs,hlen,ys,hy with
 | c0::cs,hl,[y0,y1],_=>
  have h0:=hf 0 _ rfl;have h1:=hf 1 _ rfl;simp only[qgj,k_ty]at h0 h1;rw[hx]at hB ⊢;simp only[List.map_cons,List.map_nil,Rows.uptoBulk,Rows.uptoBulkAll]at hB ⊢;obtain⟨m,e0,_,_⟩:=DataW.trod_int Tryz.underlying56 (show qE enc W base n 56 [c0] y0 from h0);obtain⟨q,A,c,r1,r2,r3,r4,r5⟩:=qf4 B hB1 _ _ y1 h1 (by omega);simp only[List.cons.injEq,and_true]at e0;subst e0;have hl7:cs.length=7:=by simpa using hl
  have r2':cs=nodV .ty q.k q.s q.n q.p A q.kids.len c none 0 0:=by
   rw[<- r2];simp only[List.drop_succ_cons,List.drop_zero];rw[List.take_of_length_le (by omega)]
  simp only[Nd0.sz]at r5;refine⟨⟨m,q.k,q.s,q.n,q.p,q.kids⟩,⟨by simp only[Fd.good];omega,⟨r4.1.1,by have:=r4.2.1;show q.kids.len<=140737488355328;omega,Nat.zero_le _,r4.2.2.2.1,trivial,trivial⟩,⟨r4.1,r4.2.2.2.2.2.1,trivial,trivial⟩⟩,by simp only[Fd.szO];omega,fun b o hc=>⟨?_,?_⟩⟩
  ·have:=hc 0 _ rfl
   exact this
  ·have hp:Zo .ty W (OldT W) b (o+1) ⟨q.k,q.s,q.n,q.p,q.kids,.nil⟩:=QS (q:=⟨q.k,q.s,q.n,q.p,q.kids,.nil⟩) (by intro e;cases e) r3 (.inr ⟨.inr rfl,rfl⟩) (Bd:=none) (bc:=0) b (o+1) (fun j u hu=>by
    have hu':(nodV .ty q.k q.s q.n q.p A q.kids.len c none 0 0)[j]?=some u:=hu;rw[<- r2']at hu';rw[Nat.add_assoc];exact hc (1+j) u (by rw[Nat.add_comm 1 j];exact hu'))
   exact hp
set_option maxRecDepth 100000 in
theorem qfb(B:Nat)(hB1:B<=1048576):∀ (fuel:Nat) (cs:List Value) (x:DataW H × List MemPlace),qE enc W base fuel 64 cs x->Rows.uptoBulk x.1<=B->∃ q:Cd,q.prO/\q.szO<=Rows.uptoBulk x.1/\∀ b o,(∀ j u,cs[j]?=some u->W.cell? ⟨b,o+j,none⟩=some u)->CdAt W (OldT W) b o q:=by
 intro fuel cs x h hB;obtain⟨n,ys,hx,hlen,hy,hf⟩:=qF Tryz.underlying64 fCdS h;rw[k_cd]at hlen;match cs,hlen,ys,hy with
 | [c0,c1,c2,c3,c4],_,[y0,y1,y2],_=>
  have h0:=hf 0 _ rfl;have h1:=hf 1 _ rfl;have h2:=hf 2 _ rfl;simp only[qb3,qdn,qi1]at h0 h1 h2;rw[hx]at hB ⊢;simp only[List.map_cons,List.map_nil,Rows.uptoBulk,Rows.uptoBulkAll]at hB ⊢;obtain⟨s,e0,hs1⟩:=JT (show qE enc W base n 9 [c0] y0 from h0);obtain⟨p,e1,e2,e3⟩:=JH (show qE enc W base n 26 [c1,c2,c3] y1 from h1);have b1:=qo y1.1;obtain⟨A,len,cp,xs,e4,hr,hpr,hsum,_⟩:=Qm (α:=Fd) (At:=FdAt) Tryz.underlying62 k_fd (by decide) B Fd.szO Fd.prO (qft B hB1) (show qE enc W base n 62 [c4] y2 from h2) (by omega);have hl:=hr.1;subst hl;have hsl:=jS Fd.szO 4 (fun x=>by simp only[Fd.szO];omega) xs;simp only[List.cons.injEq,and_true]at e4;subst e0 e1 e2 e3 e4;exact⟨⟨s,p,xs⟩,⟨by simp only;omega,by simp only;omega,hpr⟩,by simp only[Cd.szO];omega,fun b o hc=>⟨hc 0 _ rfl,hc 1 _ rfl,hc 2 _ rfl,hc 3 _ rfl,A,cp,hc 4 _ rfl,hr⟩⟩
theorem qfM(B:Nat):∀ (fuel:Nat) (cs:List Value) (x:DataW H × List MemPlace),qE enc W base fuel 9 cs x->Rows.uptoBulk x.1<=B->∃ q:List UInt8,q.length<=B/\q.length+1<=Rows.uptoBulk x.1/\∀ b o,(∀ j u,cs[j]?=some u->W.cell? ⟨b,o+j,none⟩=some u)->SAt W (OldT W) b o q:=by
 intro fuel cs x h hB;obtain⟨s,e4,ds,_⟩:=DataW.trod_string Tryz.underlying9 h;subst e4;have hb:s.data.toList.length+1<=Rows.uptoBulk x.1:=by
  rw[ds];simp only[Rows.uptoBulk];exact Nat.le_refl _
 exact⟨s.data.toList,by omega,hb,fun b o hc=>hc 0 _ rfl⟩
set_option maxRecDepth 100000 in
theorem qfd(B:Nat)(hB1:B<=1048576):∀ (fuel:Nat) (cs:List Value) (x:DataW H × List MemPlace),qE enc W base fuel 34 cs x->Rows.uptoBulk x.1<=B->∃ q:Dc,q.prO/\q.szO<=Rows.uptoBulk x.1/\∀ b o,(∀ j u,cs[j]?=some u->W.cell? ⟨b,o+j,none⟩=some u)->DcAt W (OldT W) b o q:=by
 intro fuel cs x h hB;obtain⟨n,ys,hx,hlen,hy,hf⟩:=qF Tryz.underlying34 fDcS h;rw[k_dc]at hlen;match cs,hlen,ys,hy with
 | c0::c1::c2::c3::c4::c5::c6::c7::cs,hl,[y0,y1,y2,y3,y4,y5,y6],_=>
  have h0:=hf 0 _ rfl;have h1:=hf 1 _ rfl;have h2:=hf 2 _ rfl;have h3:=hf 3 _ rfl;have h4:=hf 4 _ rfl;have h5:=hf 5 _ rfl;have h6:=hf 6 _ rfl;simp only[k_u8,qb3,qdn,qit,qiZ,qip,k_ex]at h0 h1 h2 h3 h4 h5 h6;rw[hx]at hB ⊢;simp only[List.map_cons,List.map_nil,Rows.uptoBulk,Rows.uptoBulkAll]at hB ⊢;obtain⟨k,e0,_,_⟩:=DataW.trod_int Tryz.underlying5 (show qE enc W base n 5 [c0] y0 from h0);obtain⟨s,e1,hs1⟩:=JT (show qE enc W base n 9 [c1] y1 from h1);obtain⟨p,e2,e3,e4⟩:=JH (show qE enc W base n 26 [c2,c3,c4] y2 from h2);obtain⟨A,len,cp,xs,e5,hr,hpr,hsum,hpl⟩:=Qm (α:=List UInt8) (At:=SAt) Tryz.underlying27 qb3 (by decide) B (fun s=>s.length+1) (fun s=>s.length<=B) (qfM B) (show qE enc W base n 27 [c5] y3 from h3) (by omega);obtain⟨A2,len2,cp2,xs2,e6,hr2,hpr2,hsum2,_⟩:=Qm (α:=Cd) (At:=CdAt) Tryz.underlying28 k_cd (by decide) B Cd.szO Cd.prO (qfb B hB1) (show qE enc W base n 28 [c6] y4 from h4) (by omega);obtain⟨rb,e7,_⟩:=DataW.trod_bool Tryz.underlying4 (show qE enc W base n 4 [c7] y5 from h5);obtain⟨q,QA,qc,QB,qb,s2,s3,s4,s5,s6⟩:=qfq B hB1 _ _ y6 h6 (by omega);have hl1:=hr.1;have hl2:=hr2.1;subst hl1 hl2;have b0:=qo y0.1;have b2:=qo y2.1;have b5:=qo y5.1;have hsl:=jS Cd.szO 2 (fun x=>by simp only[Cd.szO];omega) xs2;have hfs:=qa6 xs2;simp only[List.cons.injEq,and_true]at e0 e5 e6 e7;have hl8:cs.length=8:=by simpa using hl
  have s2':cs=nodV .ex q.k q.s q.n q.p QA q.kids.len qc QB q.arms.len qb:=by
   rw[<- s2];simp only[List.drop_succ_cons,List.drop_zero];rw[List.take_of_length_le (by omega)]
  subst e0 e1 e2 e3 e4 e5 e6 e7;simp only[Nd0.sz]at s6;refine⟨⟨k,s,p,xs,xs2,rb,q.k,q.s,q.n,q.p,q.kids,q.arms⟩,⟨⟨by simp only;omega,by simp only;omega,by simp only;omega,fun c hc=>?_⟩,⟨by simp only;omega,by simp only;omega,fun t ht=>by have:=hpr t ht;omega,by simp only;omega,fun c hc=>by have:=(hpr2 c hc).1;omega,by simp only;omega,⟨s5.1.1,by have:=s5.2.1;show q.kids.len<=140737488355328;omega,by have:=s5.2.2.1;show q.arms.len<=140737488355328;omega,s5.2.2.2.1,s5.2.2.2.2.1,trivial⟩,fun c hc f hf=>((hpr2 c hc).2.2 f hf).2.1⟩,⟨by simp only;omega,fun t ht=>by have:=hpr t ht;omega,fun c hc=>⟨by have:=(hpr2 c hc).1;omega,fun f hf=>((hpr2 c hc).2.2 f hf).2.2⟩,⟨s5.1,s5.2.2.2.2.2.1,s5.2.2.2.2.2.2,trivial⟩⟩,by simp only;omega⟩,by simp only[Dc.szO];omega,fun b o hc=>?_⟩
  ·exact⟨by have:=(hpr2 c hc).2.1;omega,fun f hf=>((hpr2 c hc).2.2 f hf).1⟩
  ·have he:Zo .ex W (OldT W) b (o+8) q:=QS (by intro e;cases e) s3 (.inl ⟨rfl,s4⟩) b (o+8) (fun j u hu=>by
    rw[<- s2']at hu;rw[Nat.add_assoc];exact hc (8+j) u (by rw[Nat.add_comm 8 j];exact hu))
   exact⟨hc 0 _ rfl,hc 1 _ rfl,hc 2 _ rfl,hc 3 _ rfl,hc 4 _ rfl,⟨A,cp,hc 5 _ rfl,hr⟩,⟨A2,cp2,hc 6 _ rfl,hr2⟩,hc 7 _ rfl,he⟩
set_option maxRecDepth 100000 in
theorem open_decls{v:Value}{d:DataW H}{p:List MemPlace}{b0:Nat}(hv:Value.okWide Tryz.prog W .any b0 22 v)(h:DataW.Trod enc Tryz.prog W base (fun _=>true) true 22 v d p)(hB:Rows.uptoBulk d<=1048576) :
  ∃ A n c xs,v=.slice A n c/\RowOf 16 DcAt W (OldT W) A n c xs/\n<=300000/\∀ x∈xs,x.prO:=by
 obtain⟨a0,len0,cap0,rfl⟩:=okWide_slice Tryz.underlying22 hv;obtain⟨fuel,hf⟩:=h;obtain⟨Bd,hBd⟩:∃ x:Nat,x=1048576:=⟨_,rfl⟩
 rw[<- hBd]at hB;obtain⟨A,n,c,xs,e,hr,hpr,hsum,_⟩:=Qm (α:=Dc) (At:=DcAt) Tryz.underlying22 k_dc (by decide) Bd Dc.szO Dc.prO (qfd Bd (Nat.le_of_eq hBd)) hf (Nat.le_succ_of_le hB);simp[Value.cells]at e;obtain⟨rfl,rfl,rfl⟩:=e;have hsl:=jS Dc.szO 4 (fun x=>by simp only[Dc.szO];omega) xs;have hl:=hr.1;simp only at hsum;exact⟨_,_,_,xs,rfl,hr,by omega,hpr⟩
end
end Go.Proofs.YtlmmaoobembadaaGreatDoor.Mu
namespace Go.Proofs.YtlmmaoobembadaaGreatDoor.Mu
set_option maxHeartbeats 8000000
open Go Go.RowKit Go.Shelf
attribute [local go_sem] Oper.semAt_some
set_option linter.unusedVariables false
set_option maxRecDepth 100000
theorem qbU{w:World}{g:Nat}{t:TypeId}{x0 x1 x2 x3 x4 x5 x6 x7 x8 x9 x10 x11 x12 x13 x14 x15:Value}(h:w.heap[g]?=some (.cells #[x0,x1,x2,x3,x4,x5,x6,x7,x8,x9,x10,x11,x12,x13,x14,x15] t (0,0))) :
  w.cell? ⟨g,5,none⟩=some x5/\w.cell? ⟨g,6,none⟩=some x6:=by
 simp[World.cell?,h]
theorem Je(kd:Int)(nm:List UInt8)(q:Pl)(PA:Option Addr)(pc:Nat)(ps:List (List UInt8))(CA:Option Addr)(cc:Nat)(cs:List Cd)(rc:Bool)(k:Int)(s:List UInt8)(n:Int)(p:Pl)(A:Option Addr)(c:Nat)(B:Option Addr)(bc:Nat)(kids arms:Tr)(kd2:Int)(nm2:List UInt8)(q2:Pl)(PA2:Option Addr)(pc2:Nat)(ps2:List (List UInt8))(CA2:Option Addr)(cc2:Nat)(cs2:List Cd)(rc2:Bool)(k2:Int)(s2:List UInt8)(n2:Int)(p2:Pl)(A2:Option Addr)(c2:Nat)(B2:Option Addr)(bc2:Nat)(kids2 arms2:Tr)(w:World)
  (hp:RowOf 1 SAt w (OldT w) PA ps.length pc ps) (hc:RowOf 5 CdAt w (OldT w) CA cs.length cc cs) (hk:KidsTr w (OldT w) .ex A kids.len c kids) (ha:KidsTr w (OldT w) .arms B arms.len bc arms) (hg:cs.length<=1000000/\ps.length<=1100000/\kids.size+arms.size<=900000/\∀ c∈cs,c.good) (hp2:RowOf 1 SAt w (OldT w) PA2 ps2.length pc2 ps2) (hc2:RowOf 5 CdAt w (OldT w) CA2 cs2.length cc2 cs2) (hk2:KidsTr w (OldT w) .ex A2 kids2.len c2 kids2) (ha2:KidsTr w (OldT w) .arms B2 arms2.len bc2 arms2) (hg2:cs2.length<=1000000/\ps2.length<=1100000/\kids2.size+arms2.size<=900000/\∀ c∈cs2,c.good) :
  Calls Tryz.prog 42 #[.agg #[.int .u8 kd,.string ⟨nm.toArray⟩,q.a,q.l,q.c,.slice PA ps.length pc,.slice CA cs.length cc,.bool rc,.int .u8 k,.string ⟨s.toArray⟩,n,p.a,p.l,p.c,.slice A kids.len c,.slice B arms.len bc],.agg #[.int .u8 kd2,.string ⟨nm2.toArray⟩,q2.a,q2.l,q2.c,.slice PA2 ps2.length pc2,.slice CA2 cs2.length cc2,.bool rc2,.int .u8 k2,.string ⟨s2.toArray⟩,n2,p2.a,p2.l,p2.c,.slice A2 kids2.len c2,.slice B2 arms2.len bc2]] w (qi (decide (kd=kd2)&&decide (nm=nm2)&&decide (ps=ps2)&&lsame Cd.same cs cs2&&decide (rc=rc2)&&Tr.same (.nod k s n p kids arms .nil) (.nod k2 s2 n2 p2 kids2 arms2 .nil)) w):=by
 have HX:Hid (∀ W,Bel w W->Calls Tryz.prog 12 #[.agg #[.int .u8 k,.string ⟨s.toArray⟩,n,p.a,p.l,p.c,.slice A kids.len c,.slice B arms.len bc],.agg #[.int .u8 k2,.string ⟨s2.toArray⟩,n2,p2.a,p2.l,p2.c,.slice A2 kids2.len c2,.slice B2 arms2.len bc2]] W (qi (Tr.same (.nod k s n p kids arms .nil) (.nod k2 s2 n2 p2 kids2 arms2 .nil)) W)):=hid fun W hW=>ZH (kids.size+arms.size) k s n p A kids.len c kids B arms.len bc arms k2 s2 n2 p2 A2 kids2.len c2 kids2 B2 arms2.len bc2 arms2 W rfl (hk.bel hW) (ha.bel hW) (hk2.bel hW) (ha2.bel hW) (by have:=hg.2.2.1;omega) (by have:=hg2.2.2.1;omega);have HP:=hid (And.intro hp hp2);have HCS:=hid (And.intro hc hc2);have HG:=hid (And.intro hg.2.2.2 hg2.2.2.2);obtain⟨hb1',hb2'⟩:=And.intro hg.1 hg.2.1;obtain⟨hb3',hb4'⟩:=And.intro hg2.1 hg2.2.1;obtain⟨rx,hrx⟩:∃ r,r=Tr.same (.nod k s n p kids arms .nil) (.nod k2 s2 n2 p2 kids2 arms2 .nil):=⟨_,rfl⟩
 rw[<- hrx]at HX ⊢;obtain⟨r,hr⟩:∃ r,r=(decide (kd=kd2)&&decide (nm=nm2)&&decide (ps=ps2)&&lsame Cd.same cs cs2&&decide (rc=rc2)&&rx):=⟨_,rfl⟩
 rw[<- hr];have HR:=hid hr;obtain⟨l1,hl1⟩:∃ l,l=kids.len:=⟨_,rfl⟩
 obtain⟨l2,hl2⟩:∃ l,l=kids2.len:=⟨_,rfl⟩
 obtain⟨l3,hl3⟩:∃ l,l=arms.len:=⟨_,rfl⟩
 obtain⟨l4,hl4⟩:∃ l,l=arms2.len:=⟨_,rfl⟩
 obtain⟨l5,hl5⟩:∃ l,l=ps.length:=⟨_,rfl⟩
 obtain⟨l6,hl6⟩:∃ l,l=ps2.length:=⟨_,rfl⟩
 obtain⟨l7,hl7⟩:∃ l,l=cs.length:=⟨_,rfl⟩
 obtain⟨l8,hl8⟩:∃ l,l=cs2.length:=⟨_,rfl⟩
 have HL:=hid (And.intro hl5 (And.intro hl6 (And.intro hl7 hl8)));obtain⟨S,hS⟩:∃ S:ByteArray,S=⟨s.toArray⟩:=⟨_,rfl⟩
 obtain⟨S2,hS2⟩:∃ S:ByteArray,S=⟨s2.toArray⟩:=⟨_,rfl⟩
 have hne:nm≠nm2->(⟨nm.toArray⟩:ByteArray).toList≠(⟨nm2.toArray⟩:ByteArray).toList:=qS;obtain⟨rn,hrn⟩:∃ r,r=decide (nm=nm2):=⟨_,rfl⟩
 have qn:((⟨nm.toArray⟩:ByteArray).toList==(⟨nm2.toArray⟩:ByteArray).toList)=rn:=by
  rw[hrn];by_cases dn:nm=nm2
  ·subst dn;simp
  ·have:=hne dn;simp[dn]
 rw[<- hrn]at HR;obtain⟨NM,hNM⟩:∃ S:ByteArray,S=⟨nm.toArray⟩:=⟨_,rfl⟩
 obtain⟨NM2,hNM2⟩:∃ S:ByteArray,S=⟨nm2.toArray⟩:=⟨_,rfl⟩
 rw[<- hNM,<- hNM2]at qn;rw[<- hl5,<- hl6]at HP;rw[<- hl7,<- hl8]at HCS;rw[<- hl5]at hb2';rw[<- hl6]at hb4';rw[<- hl7]at hb1';rw[<- hl8]at hb3';rw[<- hl1,<- hl2,<- hl3,<- hl4,<- hS,<- hS2]at HX;rw[<- hl1,<- hl2,<- hl3,<- hl4,<- hl5,<- hl6,<- hl7,<- hl8,<- hS,<- hS2,<- hNM,<- hNM2];clear hp hp2 hc hc2 hk hk2 ha ha2 hg hg2 hrx hr hrn hl1 hl2 hl3 hl4 hl5 hl6 hl7 hl8 hS hS2 hNM hNM2 hne;by_cases dk:kd=kd2
 case neg=>
  obtain rfl:r=false:=by rw[HR.out];simp[dk]
  have ek:(kd==kd2)=false:=by simpa using dk
  clear HP HCS HX qn;go_enter Tryz.func42,Tryz.ntmps42
  go_wp2_with fail
  go_ret
  exact⟨rfl,((Bel.refl w).alloc _).alloc _⟩
 subst dk;cases rn
 case false=>
  obtain rfl:r=false:=by rw[HR.out];simp
  clear HP HCS HX;go_enter Tryz.func42,Tryz.ntmps42
  go_wp2_with fail
  go_ret
  exact⟨rfl,((Bel.refl w).alloc _).alloc _⟩
 by_cases dr:rc=rc2
 case neg=>
  obtain rfl:r=false:=by rw[HR.out];simp[dr]
  clear HP HCS HX HR;cases rc <;> cases rc2
  ·exact absurd rfl dr
  ·clear dr
   go_enter Tryz.func42,Tryz.ntmps42
   go_wp2_with fail
   go_ret
   exact⟨rfl,((Bel.refl w).alloc _).alloc _⟩
  ·clear dr
   go_enter Tryz.func42,Tryz.ntmps42
   go_wp2_with fail
   go_ret
   exact⟨rfl,((Bel.refl w).alloc _).alloc _⟩
  ·exact absurd rfl dr
 subst dr;go_enter Tryz.func42,Tryz.ntmps42
 go_wp2_with fail
 have q1:=blk2 w (.cells #[.int .u8 kd,NM,q.a,q.l,q.c,.slice PA l5 pc,.slice CA l7 cc,.bool rc,.int .u8 k,S,n,p.a,p.l,p.c,.slice A l1 c,.slice B l3 bc] 34) (.cells #[.int .u8 kd,NM2,q2.a,q2.l,q2.c,.slice PA2 l6 pc2,.slice CA2 l8 cc2,.bool rc,.int .u8 k2,S2,n2,p2.a,p2.l,p2.c,.slice A2 l2 c2,.slice B2 l4 bc2] 34);have hb1:Bel w ((w.alloc (.cells #[.int .u8 kd,NM,q.a,q.l,q.c,.slice PA l5 pc,.slice CA l7 cc,.bool rc,.int .u8 k,S,n,p.a,p.l,p.c,.slice A l1 c,.slice B l3 bc] 34)).alloc (.cells #[.int .u8 kd,NM2,q2.a,q2.l,q2.c,.slice PA2 l6 pc2,.slice CA2 l8 cc2,.bool rc,.int .u8 k2,S2,n2,p2.a,p2.l,p2.c,.slice A2 l2 c2,.slice B2 l4 bc2] 34)):=((Bel.refl w).alloc _).alloc _;have hs1:((w.alloc (.cells #[.int .u8 kd,NM,q.a,q.l,q.c,.slice PA l5 pc,.slice CA l7 cc,.bool rc,.int .u8 k,S,n,p.a,p.l,p.c,.slice A l1 c,.slice B l3 bc] 34)).alloc (.cells #[.int .u8 kd,NM2,q2.a,q2.l,q2.c,.slice PA2 l6 pc2,.slice CA2 l8 cc2,.bool rc,.int .u8 k2,S2,n2,p2.a,p2.l,p2.c,.slice A2 l2 c2,.slice B2 l4 bc2] 34)).heap.size=w.heap.size+2:=by simp
 obtain⟨w1,hw1⟩:∃ w1,w1=(w.alloc (.cells #[.int .u8 kd,NM,q.a,q.l,q.c,.slice PA l5 pc,.slice CA l7 cc,.bool rc,.int .u8 k,S,n,p.a,p.l,p.c,.slice A l1 c,.slice B l3 bc] 34)).alloc (.cells #[.int .u8 kd,NM2,q2.a,q2.l,q2.c,.slice PA2 l6 pc2,.slice CA2 l8 cc2,.bool rc,.int .u8 k2,S2,n2,p2.a,p2.l,p2.c,.slice A2 l2 c2,.slice B2 l4 bc2] 34):=⟨_,rfl⟩
 rw[<- hw1]at q1 hb1 hs1 ⊢;clear hw1;have HQ:=hid q1;have HB1:=hid hb1;have HS1:=hid hs1;clear q1 hs1 hb1;refine (HX.out w1 HB1.out).mono ?_;rintro e w3 ⟨rfl,hb3⟩;have HB3:=hid hb3;have HQ3:=hid (And.intro (hb3.blk HQ.out.1) (hb3.blk HQ.out.2));clear hb3 HX;cases rx
 case false=>
  obtain rfl:r=false:=by rw[HR.out];simp
  go_wp2_with fail
  go_ret
  exact⟨rfl,HB1.out.on HB3.out⟩
 obtain⟨x5,x6⟩:=qbU HQ3.out.1;obtain⟨y5,y6⟩:=qbU HQ3.out.2;by_cases dp:l5=l6
 case neg=>
  obtain rfl:r=false:=by
   rw[HR.out];have:ps≠ps2:=fun e=>dp (by rw[HL.out.1,HL.out.2.1,e]);simp[this]
  have e0:((l5:Int)==(l6:Int))=false:=by simp;omega
  go_wp2_with fail
  go_ret
  exact⟨rfl,HB1.out.on HB3.out⟩
 subst dp;by_cases dc:l7=l8
 case neg=>
  obtain rfl:r=false:=by
   rw[HR.out];have:lsame Cd.same cs cs2=false:=by
    rw[Bool.eq_false_iff];intro h;exact dc (by rw[HL.out.2.2.1,HL.out.2.2.2,zt _ _ _ h])
   simp[this]
  have e0:((l7:Int)==(l8:Int))=false:=by simp;omega
  go_wp2_with fail
  go_ret
  exact⟨rfl,HB1.out.on HB3.out⟩
 subst dc;have HR2:Hid (r=(decide (ps=ps2)&&lsame Cd.same cs cs2)):=hid (by rw[HR.out];simp);clear HR;go_wp2_with fail
 clear x5 x6 y5 y6;go_loopw [5] (fun i wr=>∃ j:Nat,j<=l5/\i=.int .i64 (j:Int)/\Hid (ps=ps2↔ps.drop j=ps2.drop j)/\Hid (Bel w1 wr)) (fun i _=>l5-(intOf i).toNat)
 case atStart=>exact⟨0,Nat.zero_le _,rfl,hid (by simp),HB3⟩
 case round=>
  obtain⟨j,hj,rfl,HRJ,HB⟩:=hrel;obtain⟨x5,x6⟩:=qbU (HB.out.blk HQ.out.1);obtain⟨y5,y6⟩:=qbU (HB.out.blk HQ.out.2);by_cases hlt:j<l5
  ·obtain⟨ub,uo,eA,hob,hfo⟩:=(HP.out.1.bel qR (HB1.out.on HB.out)).2.2 (by omega)
   obtain⟨ub2,uo2,eA2,hob2,hfo2⟩:=(HP.out.2.bel qR (HB1.out.on HB.out)).2.2 (by omega);subst eA eA2;obtain⟨x,hx⟩:∃ x,ps[j]?=some x:=⟨_,List.getElem?_eq_getElem (by rw[<- HL.out.1];exact hlt)⟩
   obtain⟨y,hy⟩:∃ y,ps2[j]?=some y:=⟨_,List.getElem?_eq_getElem (by rw[<- HL.out.2.1];exact hlt)⟩
   have e1:=hfo j x hx;have d1:=hfo2 j y hy;unfold SAt at e1 d1;rw[Nat.mul_one]at e1 d1;have hdx:ps.drop j=x::ps.drop (j+1):=by
    obtain⟨h1,h2⟩:=List.getElem?_eq_some_iff.1 hx;rw[List.drop_eq_getElem_cons h1,h2]
   have hdy:ps2.drop j=y::ps2.drop (j+1):=by
    obtain⟨h1,h2⟩:=List.getElem?_eq_some_iff.1 hy;rw[List.drop_eq_getElem_cons h1,h2]
   have hne:x≠y->(⟨x.toArray⟩:ByteArray).toList≠(⟨y.toArray⟩:ByteArray).toList:=qS;have HXY:Hid (ps=ps2↔(x=y/\ps.drop (j+1)=ps2.drop (j+1))):=hid (by rw[HRJ.out,hdx,hdy];simp);obtain⟨X,hX⟩:∃ S:ByteArray,S=⟨x.toArray⟩:=⟨_,rfl⟩
   obtain⟨Y,hY⟩:∃ S:ByteArray,S=⟨y.toArray⟩:=⟨_,rfl⟩
   rw[<- hX]at e1 hne;rw[<- hY]at d1 hne;have i1:(0:Int)<=(j:Int):=by omega
   have i2:(j:Int)<(l5:Int):=by omega
   have kb1:ub<wr.heap.size:=hob;have kb2:ub2<wr.heap.size:=hob2;have kb3:w.heap.size<wr.heap.size:=by have:=HS1.out;have:=HB.out.size;omega
   have kb4:w.heap.size+1<wr.heap.size:=by have:=HS1.out;have:=HB.out.size;omega
   have HLT:=hid hlt;clear hfo hfo2 hx hy hob hob2 hdx hdy;by_cases dxy:x=y
   case neg=>
    obtain rfl:r=false:=by
     rw[HR2.out];have:ps≠ps2:=fun e=>dxy (HXY.out.1 e).1;simp[this]
    have qb:(X.toList==Y.toList)=false:=by simpa using hne dxy
    clear hne hX hY HXY;go_wp2_with fail
    go_quiet (fail)
    go_wp2_with fail
    go_ret
    exact⟨rfl,HB1.out.on (HB.out.drewN _)⟩
   subst dxy;obtain rfl:X=Y:=by rw[hX,hY]
   have HE:Hid (ps=ps2↔ps.drop (j+1)=ps2.drop (j+1)):=hid (by rw[HXY.out];simp);clear hne hX hY HXY;go_wp2_with fail
   go_quiet (fail)
   go_wp2_with fail
   go_roundw
   case rel=>exact⟨j+1,HLT.out,by go_num,HE,hid (HB.out.drewN _)⟩
   case measure=>have:=HLT.out;simp[intOf];omega
  ·obtain rfl:j=l5:=by omega
   have hpp:ps=ps2:=HRJ.out.2 (by rw[List.drop_eq_nil_of_le (by rw[<- HL.out.1];exact Nat.le_refl _),List.drop_eq_nil_of_le (by rw[<- HL.out.2.1];exact Nat.le_refl _)]);have HR3:Hid (r=lsame Cd.same cs cs2):=hid (by rw[HR2.out];simp[hpp]);have HBP:=hid HB.out;clear hpp HRJ HR2 HB;go_wp2_with fail
   clear x5 x6 y5 y6;go_loopw [6] (fun i wr=>∃ j:Nat,j<=l7/\i=.int .i64 (j:Int)/\Hid (r=lsame Cd.same (cs.drop j) (cs2.drop j))/\Hid (Bel w1 wr)) (fun i _=>l7-(intOf i).toNat)
   case atStart=>exact⟨0,Nat.zero_le _,rfl,HR3,HBP⟩
   case round=>
    obtain⟨j,hj,rfl,HRJ,HB⟩:=hrel;obtain⟨x5,x6⟩:=qbU (HB.out.blk HQ.out.1);obtain⟨y5,y6⟩:=qbU (HB.out.blk HQ.out.2);by_cases hlt:j<l7
    ·obtain⟨ub,uo,eA,hob,hfo⟩:=(HCS.out.1.bel qv (HB1.out.on HB.out)).2.2 (by omega)
     obtain⟨ub2,uo2,eA2,hob2,hfo2⟩:=(HCS.out.2.bel qv (HB1.out.on HB.out)).2.2 (by omega);subst eA eA2;obtain⟨x,hx⟩:∃ x,cs[j]?=some x:=⟨_,List.getElem?_eq_getElem (by rw[<- HL.out.2.2.1];exact hlt)⟩
     obtain⟨y,hy⟩:∃ y,cs2[j]?=some y:=⟨_,List.getElem?_eq_getElem (by rw[<- HL.out.2.2.2];exact hlt)⟩
     have hgx:=HG.out.1 x (List.mem_of_getElem? hx);have hgy:=HG.out.2 y (List.mem_of_getElem? hy);have hjd:lsame Cd.same (cs.drop j) (cs2.drop j)=(x.same y&&lsame Cd.same (cs.drop (j+1)) (cs2.drop (j+1))):=zo _ hx hy;obtain⟨e0,e1,e2,e3,A',ca',e4,hkk⟩:=hfo j x hx;obtain⟨d0,d1,d2,d3,A2',ca2',d4,hkk2⟩:=hfo2 j y hy;obtain⟨cn,cp,fs⟩:=x;obtain⟨cn2,cp2,fs2⟩:=y;have HC:Hid (∀ W,Bel wr W->Calls Tryz.prog 80 #[.agg #[.string ⟨cn.toArray⟩,cp.a,cp.l,cp.c,.slice A' fs.length ca'],.agg #[.string ⟨cn2.toArray⟩,cp2.a,cp2.l,cp2.c,.slice A2' fs2.length ca2']] W (qi (Cd.same ⟨cn,cp,fs⟩ ⟨cn2,cp2,fs2⟩) W)):=hid fun W hW=>
      JM cn cp A' ca' fs cn2 cp2 A2' ca2' fs2 W (hkk.bel qG hW) (hkk2.bel qG hW) hgx.1 hgy.1 hgx.2 hgy.2
     obtain⟨q',hq⟩:∃ q,q=Cd.same ⟨cn,cp,fs⟩ ⟨cn2,cp2,fs2⟩:=⟨_,rfl⟩
     rw[<- hq]at HC hjd;have HRN:Hid (r=(q'&&lsame Cd.same (cs.drop (j+1)) (cs2.drop (j+1)))):=hid (by rw[HRJ.out,hjd]);simp only[]at e0 e1 e2 e3 e4 d0 d1 d2 d3 d4;obtain⟨m1,hm1⟩:∃ l,l=fs.length:=⟨_,rfl⟩
     obtain⟨m2,hm2⟩:∃ l,l=fs2.length:=⟨_,rfl⟩
     obtain⟨SS,hSS⟩:∃ S:ByteArray,S=⟨cn.toArray⟩:=⟨_,rfl⟩
     obtain⟨SS2,hSS2⟩:∃ S:ByteArray,S=⟨cn2.toArray⟩:=⟨_,rfl⟩
     rw[<- hSS,<- hSS2,<- hm1,<- hm2]at HC;rw[<- hSS]at e0;rw[<- hSS2]at d0;rw[<- hm1]at e4;rw[<- hm2]at d4;have i1:(0:Int)<=(j:Int):=by omega
     have i2:(j:Int)<(l7:Int):=by omega
     have kb1:ub<wr.heap.size:=hob;have kb2:ub2<wr.heap.size:=hob2;have kb3:w.heap.size<wr.heap.size:=by have:=HS1.out;have:=HB.out.size;omega
     have kb4:w.heap.size+1<wr.heap.size:=by have:=HS1.out;have:=HB.out.size;omega
     have HLT:=hid hlt;clear hfo hfo2 hkk hkk2 hgx hgy hjd hq hm1 hm2 hSS hSS2 hx hy hob hob2;have X6:=qa kb3 x6;have Y6:=qa kb4 y6;have E0:=qa kb1 e0;have D0:=qa kb2 d0;have E1:=qa kb1 e1;have D1:=qa kb2 d1;have E2:=qa kb1 e2;have D2:=qa kb2 d2;have E3:=qa kb1 e3;have D3:=qa kb2 d3;have E4:=qa kb1 e4;have D4:=qa kb2 d4;go_wp2_with fail
     refine qh 11 (by kernel_rfl) (by kernel_rfl) ?_;simp only[List.take_succ_cons,List.take_zero,List.drop_succ_cons,List.drop_zero];repeat (go_big_quiet_step (exact (HC.out _ (Abw.bel _)).mono fun e w h=>⟨h.1,⟨_,(Abw.bel _).on h.2⟩,rfl⟩))
     refine wpQuiet_nil ?_;rintro w4 ⟨⟨w4,hb4⟩,rfl⟩;have HB4:=hid (HB.out.on hb4);clear hb4 X6 Y6 E0 D0 e0 d0 E1 D1 e1 d1 E2 D2 e2 d2 E3 D3 e3 d3 E4 D4 e4 d4 x5 x6 y5 y6;cases q'
     ·have hr0:r=false:=by rw[HRN.out];simp
      subst hr0;go_wp2_with fail
      go_ret
      exact⟨rfl,HB1.out.on HB4.out⟩
     ·have HR':Hid (r=lsame Cd.same (cs.drop (j+1)) (cs2.drop (j+1))):=hid (by rw[HRN.out];simp)
      go_wp2_with fail
      go_roundw
      case rel=>exact⟨j+1,HLT.out,by go_num,HR',HB4⟩
      case measure=>have:=HLT.out;simp[intOf];omega
    ·obtain rfl:j=l7:=by omega
     obtain rfl:r=true:=by rw[HRJ.out,List.drop_eq_nil_of_le (by rw[<- HL.out.2.2.1];exact Nat.le_refl _),List.drop_eq_nil_of_le (by rw[<- HL.out.2.2.2];exact Nat.le_refl _)];rfl
     go_wp2_with fail
     go_ret
     exact⟨rfl,HB1.out.on HB.out⟩
theorem qep(A:Option Addr)(n c:Nat)(B:Option Addr)(m d:Nat)(f g:List Dc)(w:World)(hk:RowOf 16 DcAt w (OldT w) A n c f)(hk2:RowOf 16 DcAt w (OldT w) B m d g)(hn:n<=1000000)(hm:m<=1000000)(hg:∀ x∈f,x.good)(hg2:∀ x∈g,x.good) :
  Calls Tryz.prog 14 #[.slice A n c,.slice B m d] w (qi (lsame Dc.same f g) w):=by
 have H:=hid hk;have H2:=hid hk2;have HL:Hid (n=f.length):=hid hk.1;have HL2:Hid (m=g.length):=hid hk2.1;have HG:=hid (And.intro hg hg2);obtain⟨r,hr⟩:∃ r,r=lsame Dc.same f g:=⟨_,rfl⟩
 rw[<- hr];have HR:=hid hr;clear hk hk2 hg hg2 hr;by_cases hnm:n=m
 case neg=>
  obtain rfl:r=false:=by
   rw[HR.out,Bool.eq_false_iff];intro h;have:=zt _ _ _ h;exact hnm (by rw[HL.out,HL2.out,this])
  have e0:((n:Int)==(m:Int))=false:=by simp;omega
  go_enter Tryz.func14,Tryz.ntmps14
  go_wp2_with fail
  go_ret
  exact⟨rfl,Bel.refl _⟩
 subst hnm;go_enter Tryz.func14,Tryz.ntmps14
 go_wp2_with fail
 go_loopw [5] (fun i wr=>∃ j:Nat,j<=n/\i=.int .i64 (j:Int)/\Hid (r=lsame Dc.same (f.drop j) (g.drop j))/\Hid (Bel w wr)) (fun i _=>n-(intOf i).toNat)
 case atStart=>exact⟨0,Nat.zero_le _,rfl,HR,hid (Bel.refl _)⟩
 case round=>
  obtain⟨j,hj,rfl,HRJ,HB⟩:=hrel;by_cases hlt:j<n
  ·obtain⟨ub,uo,eA,hob,hfo⟩:=(H.out.bel qB HB.out).2.2 (by omega)
   obtain⟨ub2,uo2,eA2,hob2,hfo2⟩:=(H2.out.bel qB HB.out).2.2 (by omega);subst eA eA2;obtain⟨x,hx⟩:∃ x,f[j]?=some x:=⟨_,List.getElem?_eq_getElem (by rw[<- HL.out];exact hlt)⟩
   obtain⟨y,hy⟩:∃ y,g[j]?=some y:=⟨_,List.getElem?_eq_getElem (by rw[<- HL2.out];exact hlt)⟩
   have hd:=hfo j x hx;have hd2:=hfo2 j y hy;have hgx:=HG.out.1 x (List.mem_of_getElem? hx);have hgy:=HG.out.2 y (List.mem_of_getElem? hy);obtain⟨hb,hhb⟩:∃ hb,hb=Dc.same x y:=⟨_,rfl⟩
   have HRN:Hid (r=(hb&&lsame Dc.same (f.drop (j+1)) (g.drop (j+1)))):=hid (by rw[HRJ.out,zo _ hx hy,hhb]);clear hfo hfo2;obtain⟨PA,pc,CA,cc,A',ca',B',cb',hp,hcc,hkk,haa,y0,y1,y2,y3,y4,y5,y6,y7,y8,y9,y10,y11,y12,y13,y14,y15⟩:=hd.cells;obtain⟨PA2,pc2,CA2,cc2,A2',ca2',B2',cb2',hp2,hcc2,hkk2,haa2,z0,z1,z2,z3,z4,z5,z6,z7,z8,z9,z10,z11,z12,z13,z14,z15⟩:=hd2.cells;obtain⟨kd,nm,q,ps,cs,rc,k,s,nn,p,kids,arms⟩:=x;obtain⟨kd2,nm2,q2,ps2,cs2,rc2,k2,s2,nn2,p2,kids2,arms2⟩:=y;have HC:Hid (∀ W,Bel wr W->Calls Tryz.prog 42 #[.agg #[.int .u8 kd,.string ⟨nm.toArray⟩,q.a,q.l,q.c,.slice PA ps.length pc,.slice CA cs.length cc,.bool rc,.int .u8 k,.string ⟨s.toArray⟩,nn,p.a,p.l,p.c,.slice A' kids.len ca',.slice B' arms.len cb'],.agg #[.int .u8 kd2,.string ⟨nm2.toArray⟩,q2.a,q2.l,q2.c,.slice PA2 ps2.length pc2,.slice CA2 cs2.length cc2,.bool rc2,.int .u8 k2,.string ⟨s2.toArray⟩,nn2,p2.a,p2.l,p2.c,.slice A2' kids2.len ca2',.slice B2' arms2.len cb2']] W (qi hb W)):=hid fun W hW=>by
    rw[hhb];exact Je kd nm q PA pc ps CA cc cs rc k s nn p A' ca' B' cb' kids arms kd2 nm2 q2 PA2 pc2 ps2 CA2 cc2 cs2 rc2 k2 s2 nn2 p2 A2' ca2' B2' cb2' kids2 arms2 W (hp.bel qR hW) (hcc.bel qv hW) (hkk.bel hW) (haa.bel hW) hgx (hp2.bel qR hW) (hcc2.bel qv hW) (hkk2.bel hW) (haa2.bel hW) hgy
   simp only[]at y0 y1 y2 y3 y4 y5 y6 y7 y8 y9 y10 y11 y12 y13 y14 y15 z0 z1 z2 z3 z4 z5 z6 z7 z8 z9 z10 z11 z12 z13 z14 z15;obtain⟨l1,hl1⟩:∃ l,l=kids.len:=⟨_,rfl⟩
   obtain⟨l2,hl2⟩:∃ l,l=kids2.len:=⟨_,rfl⟩
   obtain⟨l3,hl3⟩:∃ l,l=arms.len:=⟨_,rfl⟩
   obtain⟨l4,hl4⟩:∃ l,l=arms2.len:=⟨_,rfl⟩
   obtain⟨l5,hl5⟩:∃ l,l=ps.length:=⟨_,rfl⟩
   obtain⟨l6,hl6⟩:∃ l,l=ps2.length:=⟨_,rfl⟩
   obtain⟨l7,hl7⟩:∃ l,l=cs.length:=⟨_,rfl⟩
   obtain⟨l8,hl8⟩:∃ l,l=cs2.length:=⟨_,rfl⟩
   obtain⟨SS,hSS⟩:∃ S:ByteArray,S=⟨s.toArray⟩:=⟨_,rfl⟩
   obtain⟨SS2,hSS2⟩:∃ S:ByteArray,S=⟨s2.toArray⟩:=⟨_,rfl⟩
   obtain⟨NM,hNM⟩:∃ S:ByteArray,S=⟨nm.toArray⟩:=⟨_,rfl⟩
   obtain⟨NM2,hNM2⟩:∃ S:ByteArray,S=⟨nm2.toArray⟩:=⟨_,rfl⟩
   rw[<- hSS,<- hSS2,<- hNM,<- hNM2,<- hl1,<- hl2,<- hl3,<- hl4,<- hl5,<- hl6,<- hl7,<- hl8]at HC;rw[<- hNM]at y1;rw[<- hNM2]at z1;rw[<- hl5]at y5;rw[<- hl6]at z5;rw[<- hl7]at y6;rw[<- hl8]at z6;rw[<- hSS]at y9;rw[<- hSS2]at z9;rw[<- hl1]at y14;rw[<- hl2]at z14;rw[<- hl3]at y15;rw[<- hl4]at z15;clear hp hp2 hcc hcc2 hkk hkk2 haa haa2 hgx hgy hhb hl1 hl2 hl3 hl4 hl5 hl6 hl7 hl8 hSS hSS2 hNM hNM2 hx hy hd hd2;obtain⟨v0,hv0,ov0⟩:=oC (x:= .int .u8 kd) rfl;obtain⟨v1,hv1,ov1⟩:=oC (x:= .string NM) rfl;obtain⟨v2,hv2,ov2⟩:=oC (x:= .int .i64 q.a) rfl;obtain⟨v3,hv3,ov3⟩:=oC (x:= .int .i64 q.l) rfl;obtain⟨v4,hv4,ov4⟩:=oC (x:= .int .i64 q.c) rfl;obtain⟨v5,hv5,ov5⟩:=oC (x:= .slice PA l5 pc) rfl;obtain⟨v6,hv6,ov6⟩:=oC (x:= .slice CA l7 cc) rfl;obtain⟨v7,hv7,ov7⟩:=oC (x:= .bool rc) rfl;obtain⟨v8,hv8,ov8⟩:=oC (x:= .int .u8 k) rfl;obtain⟨v9,hv9,ov9⟩:=oC (x:= .string SS) rfl;obtain⟨v10,hv10,ov10⟩:=oC (x:= .int .i64 nn) rfl;obtain⟨v11,hv11,ov11⟩:=oC (x:= .int .i64 p.a) rfl;obtain⟨v12,hv12,ov12⟩:=oC (x:= .int .i64 p.l) rfl;obtain⟨v13,hv13,ov13⟩:=oC (x:= .int .i64 p.c) rfl;obtain⟨v14,hv14,ov14⟩:=oC (x:= .slice A' l1 ca') rfl;obtain⟨v15,hv15,ov15⟩:=oC (x:= .slice B' l3 cb') rfl;rw[<- hv0,<- hv1,<- hv2,<- hv3,<- hv4,<- hv5,<- hv6,<- hv7,<- hv8,<- hv9,<- hv10,<- hv11,<- hv12,<- hv13,<- hv14,<- hv15]at HC;rw[<- hv0]at y0;rw[<- hv1]at y1;rw[<- hv2]at y2;rw[<- hv3]at y3;rw[<- hv4]at y4;rw[<- hv5]at y5;rw[<- hv6]at y6;rw[<- hv7]at y7;rw[<- hv8]at y8;rw[<- hv9]at y9;rw[<- hv10]at y10;rw[<- hv11]at y11;rw[<- hv12]at y12;rw[<- hv13]at y13;rw[<- hv14]at y14;rw[<- hv15]at y15;have HOv:Hid ((#[v0,v1,v2,v3,v4,v5,v6,v7,v8,v9,v10,v11,v12,v13,v14,v15]:Array Value).all (·.oneCell')=true):=hid (by simp[ov0,ov1,ov2,ov3,ov4,ov5,ov6,ov7,ov8,ov9,ov10,ov11,ov12,ov13,ov14,ov15]);clear hv0 ov0 hv1 ov1 hv2 ov2 hv3 ov3 hv4 ov4 hv5 ov5 hv6 ov6 hv7 ov7 hv8 ov8 hv9 ov9 hv10 ov10 hv11 ov11 hv12 ov12 hv13 ov13 hv14 ov14 hv15 ov15;obtain⟨u0,hu0,ou0⟩:=oC (x:= .int .u8 kd2) rfl;obtain⟨u1,hu1,ou1⟩:=oC (x:= .string NM2) rfl;obtain⟨u2,hu2,ou2⟩:=oC (x:= .int .i64 q2.a) rfl;obtain⟨u3,hu3,ou3⟩:=oC (x:= .int .i64 q2.l) rfl;obtain⟨u4,hu4,ou4⟩:=oC (x:= .int .i64 q2.c) rfl;obtain⟨u5,hu5,ou5⟩:=oC (x:= .slice PA2 l6 pc2) rfl;obtain⟨u6,hu6,ou6⟩:=oC (x:= .slice CA2 l8 cc2) rfl;obtain⟨u7,hu7,ou7⟩:=oC (x:= .bool rc2) rfl;obtain⟨u8,hu8,ou8⟩:=oC (x:= .int .u8 k2) rfl;obtain⟨u9,hu9,ou9⟩:=oC (x:= .string SS2) rfl;obtain⟨u10,hu10,ou10⟩:=oC (x:= .int .i64 nn2) rfl;obtain⟨u11,hu11,ou11⟩:=oC (x:= .int .i64 p2.a) rfl;obtain⟨u12,hu12,ou12⟩:=oC (x:= .int .i64 p2.l) rfl;obtain⟨u13,hu13,ou13⟩:=oC (x:= .int .i64 p2.c) rfl;obtain⟨u14,hu14,ou14⟩:=oC (x:= .slice A2' l2 ca2') rfl;obtain⟨u15,hu15,ou15⟩:=oC (x:= .slice B2' l4 cb2') rfl;rw[<- hu0,<- hu1,<- hu2,<- hu3,<- hu4,<- hu5,<- hu6,<- hu7,<- hu8,<- hu9,<- hu10,<- hu11,<- hu12,<- hu13,<- hu14,<- hu15]at HC;rw[<- hu0]at z0;rw[<- hu1]at z1;rw[<- hu2]at z2;rw[<- hu3]at z3;rw[<- hu4]at z4;rw[<- hu5]at z5;rw[<- hu6]at z6;rw[<- hu7]at z7;rw[<- hu8]at z8;rw[<- hu9]at z9;rw[<- hu10]at z10;rw[<- hu11]at z11;rw[<- hu12]at z12;rw[<- hu13]at z13;rw[<- hu14]at z14;rw[<- hu15]at z15;have HOu:Hid ((#[u0,u1,u2,u3,u4,u5,u6,u7,u8,u9,u10,u11,u12,u13,u14,u15]:Array Value).all (·.oneCell')=true):=hid (by simp[ou0,ou1,ou2,ou3,ou4,ou5,ou6,ou7,ou8,ou9,ou10,ou11,ou12,ou13,ou14,ou15]);clear hu0 ou0 hu1 ou1 hu2 ou2 hu3 ou3 hu4 ou4 hu5 ou5 hu6 ou6 hu7 ou7 hu8 ou8 hu9 ou9 hu10 ou10 hu11 ou11 hu12 ou12 hu13 ou13 hu14 ou14 hu15 ou15;clear HOv HOu;have i1:(0:Int)<=(j:Int):=by omega
   have i2:(j:Int)<(n:Int):=by omega
   have HLT:=hid hlt;have hob':ub<wr.heap.size:=hob;have hob2':ub2<wr.heap.size:=hob2;clear hob hob2;have E0:=qa hob' y0;have D0:=qa hob2' z0;have E1:=qa hob' y1;have D1:=qa hob2' z1;have E2:=qa hob' y2;have D2:=qa hob2' z2;have E3:=qa hob' y3;have D3:=qa hob2' z3;have E4:=qa hob' y4;have D4:=qa hob2' z4;have E5:=qa hob' y5;have D5:=qa hob2' z5;have E6:=qa hob' y6;have D6:=qa hob2' z6;have E7:=qa hob' y7;have D7:=qa hob2' z7;have E8:=qa hob' y8;have D8:=qa hob2' z8;have E9:=qa hob' y9;have D9:=qa hob2' z9;have E10:=qa hob' y10;have D10:=qa hob2' z10;have E11:=qa hob' y11;have D11:=qa hob2' z11;have E12:=qa hob' y12;have D12:=qa hob2' z12;have E13:=qa hob' y13;have D13:=qa hob2' z13;have E14:=qa hob' y14;have D14:=qa hob2' z14;have E15:=qa hob' y15;have D15:=qa hob2' z15;clear y0 z0 y1 z1 y2 z2 y3 z3 y4 z4 y5 z5 y6 z6 y7 z7 y8 z8 y9 z9 y10 z10 y11 z11 y12 z12 y13 z13 y14 z14 y15 z15;go_wp2_with fail
   refine qh 9 (by kernel_rfl) (by kernel_rfl) ?_;simp only[List.take_succ_cons,List.take_zero,List.drop_succ_cons,List.drop_zero];repeat (go_big_quiet_step (exact (HC.out _ (Abw.bel _)).mono fun e w h=>⟨h.1,⟨_,(Abw.bel _).on h.2⟩,rfl⟩))
   refine wpQuiet_nil ?_;rintro w4 ⟨⟨w4,hb4⟩,rfl⟩;have HB4:=hid (HB.out.on hb4);clear hb4 E0 D0 E1 D1 E2 D2 E3 D3 E4 D4 E5 D5 E6 D6 E7 D7 E8 D8 E9 D9 E10 D10 E11 D11 E12 D12 E13 D13 E14 D14 E15 D15;cases hb
   ·have hr0:r=false:=by rw[HRN.out];simp
    subst hr0;go_wp2_with fail
    go_ret
    exact⟨rfl,HB4.out⟩
   ·have HR':Hid (r=lsame Dc.same (f.drop (j+1)) (g.drop (j+1))):=hid (by rw[HRN.out];simp)
    go_wp2_with fail
    go_roundw
    case rel=>exact⟨j+1,HLT.out,by go_num,HR',HB4⟩
    case measure=>have:=HLT.out;simp[intOf];omega
  ·obtain rfl:j=n:=by omega
   obtain rfl:r=true:=by rw[HRJ.out,List.drop_eq_nil_of_le (by rw[<- HL.out];exact Nat.le_refl _),List.drop_eq_nil_of_le (by rw[<- HL2.out];exact Nat.le_refl _)];rfl
   go_wp2_with fail
   go_ret
   exact⟨rfl,HB.out⟩
end Go.Proofs.YtlmmaoobembadaaGreatDoor.Mu
namespace Go.Proofs.YtlmmaoobembadaaGreatDoor.Mu
open Go Go.RowKit Go.Shelf
set_option linter.unusedVariables false
set_option maxRecDepth 100000
def ExV(w:World)(x:Dc)(e0 e1 e2 e3 e4 e5 e6 e7:Value):Prop:=∃ A c B bc,KidsTr w (OldT w) .ex A x.kids.len c x.kids/\KidsTr w (OldT w) .arms B x.arms.len bc x.arms ∧
 e0=.int .u8 x.k/\e1=.string ⟨x.s.toArray⟩/\e2=.int .i64 x.n/\e3=.int .i64 x.ep.a/\e4=.int .i64 x.ep.l/\e5=.int .i64 x.ep.c/\e6=.slice A x.kids.len c/\e7=.slice B x.arms.len bc
theorem ExV.bel{w w':World}{x:Dc}{e0 e1 e2 e3 e4 e5 e6 e7:Value}(h:ExV w x e0 e1 e2 e3 e4 e5 e6 e7)(hb:Bel w w'):ExV w' x e0 e1 e2 e3 e4 e5 e6 e7:=by
 obtain⟨A,c,B,bc,h1,h2,h⟩:=h;exact⟨A,c,B,bc,h1.bel hb,h2.bel hb,h⟩
theorem qfs{w:World}{x y:Dc}{e0 e1 e2 e3 e4 e5 e6 e7 d0 d1 d2 d3 d4 d5 d6 d7:Value}(h:ExV w x e0 e1 e2 e3 e4 e5 e6 e7)(k:ExV w y d0 d1 d2 d3 d4 d5 d6 d7)(hx:x.good)(hy:y.good) :
  Calls Tryz.prog 11 #[.agg #[e0,e1,e2,e3,e4,e5,e6,e7],.agg #[d0,d1,d2,d3,d4,d5,d6,d7]] w (qi (x.tr.same y.tr) w)/\Calls Tryz.prog 12 #[.agg #[e0,e1,e2,e3,e4,e5,e6,e7],.agg #[d0,d1,d2,d3,d4,d5,d6,d7]] w (qi (x.tr.same y.tr) w):=by
 obtain⟨A,c,B,bc,h1,h2,rfl,rfl,rfl,rfl,rfl,rfl,rfl,rfl⟩:=h;obtain⟨A2,c2,B2,bc2,k1,k2,rfl,rfl,rfl,rfl,rfl,rfl,rfl,rfl⟩:=k;have g1:=hx.2.2.1;have g2:=hy.2.2.1;exact⟨zd _ _ _ _ A c B bc _ _ _ _ _ _ A2 c2 B2 bc2 _ _ w h1 h2 k1 k2 g1 g2,ZH _ _ _ _ _ A _ c _ B _ bc _ _ _ _ _ A2 _ c2 _ B2 _ bc2 _ w rfl h1 h2 k1 k2 (by omega) (by omega)⟩
theorem qc4{w:World}{b o:Nat}{x:Dc}(h:DcAt w (OldT w) b o x)(hp:x.prO) :
  ∃ v0 v1 v2 v3 v4 v5 v6 v7 v8 v9 v10 v11 v12 v13 v14 v15:Value,(w.cell? ⟨b,o,none⟩=some v0/\w.cell? ⟨b,o+1,none⟩=some v1/\w.cell? ⟨b,o+2,none⟩=some v2/\w.cell? ⟨b,o+3,none⟩=some v3/\w.cell? ⟨b,o+4,none⟩=some v4/\w.cell? ⟨b,o+5,none⟩=some v5/\w.cell? ⟨b,o+6,none⟩=some v6/\w.cell? ⟨b,o+7,none⟩=some v7/\w.cell? ⟨b,o+8,none⟩=some v8/\w.cell? ⟨b,o+9,none⟩=some v9/\w.cell? ⟨b,o+10,none⟩=some v10/\w.cell? ⟨b,o+11,none⟩=some v11/\w.cell? ⟨b,o+12,none⟩=some v12/\w.cell? ⟨b,o+13,none⟩=some v13/\w.cell? ⟨b,o+14,none⟩=some v14/\w.cell? ⟨b,o+15,none⟩=some v15)/\(#[v0,v1,v2,v3,v4,v5,v6,v7,v8,v9,v10,v11,v12,v13,v14,v15]:Array Value).all (·.oneCell')=true ∧
   (∃ n:Nat,(∀ W,Bel w W->Calls Tryz.prog 9 #[.agg #[v0,v1,v2,v3,v4,v5,v6,v7,v8,v9,v10,v11,v12,v13,v14,v15]] W (DepQ n W))/\(∀ W,Bel w W->Calls Tryz.prog 10 #[.agg #[v0,v1,v2,v3,v4,v5,v6,v7,v8,v9,v10,v11,v12,v13,v14,v15]] W (DepQ n W)))/\ExV w x v8 v9 v10 v11 v12 v13 v14 v15:=by
 obtain⟨PA,pc,CA,cc,A,c,B,bc,h1,h2,h3,h4,y0,y1,y2,y3,y4,y5,y6,y7,y8,y9,y10,y11,y12,y13,y14,y15⟩:=h.cells;have hg:=hp.1;have hc1:=h2.1;refine⟨_,_,_,_,_,_,_,_,_,_,_,_,_,_,_,_,⟨y0,y1,y2,y3,y4,y5,y6,y7,y8,y9,y10,y11,y12,y13,y14,y15⟩,by simp[Value.oneCell'],⟨zV x.kd (.nod x.k x.s x.n x.ep x.kids x.arms .nil) x.cs,fun W hW=>?_,fun W hW=>?_⟩,A,c,B,bc,h3,h4,rfl,rfl,rfl,rfl,rfl,rfl,rfl,rfl⟩
 ·exact zm x.kd x.nm x.p PA _ pc CA _ cc x.rc x.k x.s x.n x.ep A c B bc x.kids x.arms x.cs W (h3.bel hW) (h4.bel hW) hg.2.2.1 (h2.bel qv hW) hg.1 hp.2.2.2
 ·exact qcj x.kd x.nm x.p PA _ pc CA _ cc x.rc x.k x.s x.n x.ep A c B bc x.kids x.arms x.cs W (h3.bel hW) (h4.bel hW) hg.2.2.1 (h2.bel qv hW) hg.1 hp.2.2.2
end Go.Proofs.YtlmmaoobembadaaGreatDoor.Mu
