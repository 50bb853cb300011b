import Derived.Test.YtfpoelklhekfaaaGreatDoorRows
import Derived.ProofKit
import Derived.OpenShut
import Derived.ChangeOld
import Derived.ChangeMaps5
import Derived.Deep.Slices
import Derived.Test.YtfpoelklhekfaaaGreatDoorQbe
import Derived.Test.YtfpoelklhekfaaaGreatDoorQbp
namespace Go.Proofs.YtfpoelklhekfaaaGreatDoor.Mu
open Go.ChangeShapes Go.WideShapes Go.ChangeAt Go.RowKit Go.Joins Go.Deep
theorem qj{H:Type}(d:DataW H):1<=Rows.uptoBulk d:=by
 cases d with
 | lit l=>cases l <;> simp[Rows.uptoBulk]
 | nil=>simp[Rows.uptoBulk]
 | ptr d=>simp[Rows.uptoBulk]
 | slice elems spare=>simp[Rows.uptoBulk]
 | agg parts=>simp[Rows.uptoBulk]
 | iface t d=>simp[Rows.uptoBulk]
 | map entries=>simp[Rows.uptoBulk]
 | held h=>simp[Rows.uptoBulk]
theorem qcF{H:Type}{d:DataW H}{l:List (DataW H)}(h:d∈l):Rows.uptoBulk d<=Rows.uptoBulkAll l:=by
 induction l with
 | nil=>cases h
 | cons x r ih=>
  simp only[Rows.uptoBulkAll];rcases List.mem_cons.1 h with rfl | h
  ·omega
  ·have:=ih h;omega
theorem qcE{H:Type}(l:List (DataW H)):l.length<=Rows.uptoBulkAll l:=by
 induction l with
 | nil=>simp[Rows.uptoBulkAll]
 | cons x r ih=>have:=qj x;simp only[Rows.uptoBulkAll,List.length_cons];omega
section
variable {H : Type} {enc : TypeId × Value -> H} {W : World} {base : Nat}
end
end Go.Proofs.YtfpoelklhekfaaaGreatDoor.Mu
namespace Go.Proofs.YtfpoelklhekfaaaGreatDoor.Mu
open Go.ChangeShapes Go.WideShapes Go.ChangeAt Go.RowKit Go.Joins Go.Deep
set_option linter.unusedVariables false
structure Nd0 where
 k:Int
 s:List UInt8
 n:Int
 p:Pl
 kids:Tr
 arms:Tr
def Nd0.tr(x:Nd0)(r:Tr):Tr:= .nod x.k x.s x.n x.p x.kids x.arms r
def Nd0.ar(x:Nd0)(r:Tr):Tr:= .arm x.k x.s x.n x.p x.kids x.arms r
def Nd0.sz(x:Nd0):Nat:=4*(1+x.kids.size+x.arms.size)
def trN:List Nd0->Tr
 | []=> .nil
 | x::xs=>x.tr (trN xs)
def trA:List Nd0->Tr
 | []=> .nil
 | x::xs=>x.ar (trA xs)
def Zn(sh:Sh)(w:World)(Ok:Nat->Prop)(b o:Nat)(x:Nd0):Prop:=TrAt w Ok (x.tr .nil) sh b o
def qeE(w:World)(Ok:Nat->Prop)(b o:Nat)(x:Nd0):Prop:=TrAt w Ok (x.ar .nil) .arms b o
theorem qeq:∀ xs,(trN xs).len=xs.length
 | []=>rfl
 | x::xs=>by simp only[trN,Nd0.tr,Tr.len,qeq xs,List.length_cons]
theorem qep:∀ xs,(trA xs).len=xs.length
 | []=>rfl
 | x::xs=>by simp only[trA,Nd0.ar,Tr.len,qep xs,List.length_cons]
theorem QI:∀ xs,4*(trN xs).size=sumW Nd0.sz xs
 | []=>rfl
 | x::xs=>by
  have:=QI xs;simp only[trN,Nd0.tr,Tr.size,sumW,Nd0.sz]at this ⊢;omega
theorem qby:∀ xs,4*(trA xs).size=sumW Nd0.sz xs
 | []=>rfl
 | x::xs=>by
  have:=qby xs;simp only[trA,Nd0.ar,Tr.size,sumW,Nd0.sz]at this ⊢;omega
theorem qf3{w:World}{Ok:Nat->Prop}{sh:Sh}:∀ (xs:List Nd0) (b o:Nat),(∀ (i:Nat) x,xs[i]?=some x->Zn sh w Ok b (o+i*sh.sz) x)->TrAt w Ok (trN xs) sh b o
 | [],_,_,_=>trivial
 | x::xs,b,o,h=>by
  have h0:=h 0 x rfl;rw[Nat.zero_mul]at h0;exact⟨h0.1,h0.2.1,h0.2.2.1,qf3 xs b _ fun i y hy=>by
   have:=h (i+1) y hy;rwa [show o+(i+1)*sh.sz=o+sh.sz+i*sh.sz by rw[Nat.add_mul];omega]at this⟩
theorem qf1{w:World}{Ok:Nat->Prop}:∀ (xs:List Nd0) (b o:Nat),(∀ (i:Nat) x,xs[i]?=some x->qeE w Ok b (o+i*15) x)->TrAt w Ok (trA xs) .arms b o
 | [],_,_,_=>trivial
 | x::xs,b,o,h=>by
  have h0:=h 0 x rfl;rw[Nat.zero_mul]at h0;exact⟨rfl,h0.2.1,h0.2.2.1,h0.2.2.2.1,h0.2.2.2.2.1,qf1 xs b _ fun i y hy=>by
   have:=h (i+1) y hy;rwa [show o+(i+1)*15=o+15+i*15 by omega]at this⟩
theorem qaU{w:World}{Ok:Nat->Prop}{sh:Sh}{A:Option Addr}{n c:Nat}{xs:List Nd0}(h:RowOf sh.sz (Zn sh) w Ok A n c xs):KidsTr w Ok sh A n c (trN xs):=
 ⟨by rw[qeq];exact h.1,h.2.1,fun h0=>by
  obtain⟨b,o,e,hb,hx⟩:=h.2.2 h0;exact⟨b,o,e,hb,qf3 xs b o hx⟩⟩
theorem qhj{w:World}{Ok:Nat->Prop}{A:Option Addr}{n c:Nat}{xs:List Nd0}(h:RowOf 15 qeE w Ok A n c xs):KidsTr w Ok .arms A n c (trA xs):=
 ⟨by rw[qep];exact h.1,h.2.1,fun h0=>by
  obtain⟨b,o,e,hb,hx⟩:=h.2.2 h0;exact⟨b,o,e,hb,qf1 xs b o hx⟩⟩
def Nd0.pr(x:Nd0):Prop:=fitN x.s x.n/\x.kids.len<=1048576/\x.arms.len<=1048576/\x.kids.fit/\x.arms.fit/\x.kids.ints/\x.arms.ints
theorem qbz:∀ xs:List Nd0,(∀ x∈xs,x.pr)->(trN xs).fit/\(trN xs).ints
 | [],_=>⟨trivial,trivial⟩
 | x::xs,h=>by
  obtain⟨h1,h2⟩:=qbz xs fun y hy=>h y (List.mem_cons_of_mem _ hy);obtain⟨a,b,c,d,e,f,g⟩:=h x (List.mem_cons_self ..);exact⟨⟨a.1,by omega,by omega,d,e,h1⟩,⟨a,f,g,h2⟩⟩
theorem qf2:∀ xs:List Nd0,(∀ x∈xs,x.pr)->(trA xs).fit/\(trA xs).ints
 | [],_=>⟨trivial,trivial⟩
 | x::xs,h=>by
  obtain⟨h1,h2⟩:=qf2 xs fun y hy=>h y (List.mem_cons_of_mem _ hy);obtain⟨a,b,c,d,e,f,g⟩:=h x (List.mem_cons_self ..);exact⟨⟨a.1,by omega,d,e,h1⟩,⟨a,f,g,h2⟩⟩
section
variable {H : Type} {enc : TypeId × Value -> H} {W : World} {base : Nat}
theorem qC{t:TypeId}{fs:List (String × TypeId × Nat)}{fuel:Nat}{cs:List Value}{x:DataW H × List MemPlace}(uI:Tryz.prog.underlying t=some (.struct (Tryz.prog.fieldsOf t)))
  (hf:((Tryz.prog.fieldsOf t).toList.map fun f=>(f.name,f.type,f.offset))=fs) (h:DataW.trod enc Tryz.prog W base (fun _=>true) true fuel t cs=some x) :
  ∃ (n:Nat) (ys:List (DataW H × List MemPlace)),x.1=.agg (ys.map (·.1))/\cs.length=Tryz.prog.cellsOf t/\ys.length=fs.length/\∀ (i:Nat) f,fs[i]?=some f->DataW.trod enc Tryz.prog W base (fun _=>true) true n f.2.1 ((cs.drop f.2.2).take (Tryz.prog.cellsOf f.2.1))=ys[i]?:=by
 obtain⟨ys,n,_,hx,hlen,hyl,hfs⟩:=DataW.trod_struct uI h;refine⟨n,ys,by rw[hx],hlen,by rw[hyl,<- hf,List.length_map,Array.length_toList],fun i f hi=>?_⟩;rw[<- hf,List.getElem?_map]at hi;obtain⟨g,hg,rfl⟩:=Option.map_eq_some_iff.1 hi;exact hfs i g (by rw[<- Array.getElem?_toList];exact hg)
theorem Qm{α:Type}[Inhabited α]{sz:Nat}{At:World->(Nat->Prop)->Nat->Nat->α->Prop}{e t:TypeId}(ut:Tryz.prog.underlying t=some (.slice e))(hsz:Tryz.prog.cellsOf e=sz)(h0:0<sz)(B:Nat)(wt:α->Nat)(Pr:α->Prop)
  (el:∀ fuel cs (x:DataW H × List MemPlace),DataW.trod enc Tryz.prog W base (fun _=>true) true fuel e cs=some x->Rows.uptoBulk x.1<=B->∃ a:α,Pr a/\wt a<=Rows.uptoBulk x.1/\∀ b o,(∀ j u,cs[j]?=some u->W.cell? ⟨b,o+j,none⟩=some u)->At W (OldT W) b o a)
  {fuel:Nat} {cs:List Value} {x:DataW H × List MemPlace} (h:DataW.trod enc Tryz.prog W base (fun _=>true) true fuel t cs=some x) (hB:Rows.uptoBulk x.1<=B+1) :
  ∃ A n c xs,cs=[.slice A n c]/\RowOf sz At W (OldT W) A n c xs/\(∀ a∈xs,Pr a)/\sumW wt xs<=Rows.uptoBulk x.1/\n<=Rows.uptoBulk x.1:=by
 rcases open_slice ut h with ⟨hcs,_⟩ | ⟨a,len,cap,m,n,D,Pl,hcs,hb,hl,hm,hmm,hx,hi⟩
 ·exact⟨none,0,0,[],hcs,⟨rfl,Nat.le_refl _,fun h=>absurd h (by decide)⟩,by simp,Nat.zero_le _,Nat.zero_le _⟩
 ·simp only[if_true]at hmm
  rw[hsz]at hi;rw[hx]at hB ⊢;simp only[Rows.uptoBulk]at hB ⊢;have hmem:∀ i,i<len->Rows.uptoBulk (D i)<=Rows.uptoBulkAll ((List.range len).map D):=fun i hlt=>qcF (List.mem_map.2 ⟨i,List.mem_range.2 hlt,rfl⟩);by_cases hl0:len=0
  ·subst hl0
   exact⟨some a,0,cap,[],hcs,⟨rfl,hl,fun h=>absurd h (by decide)⟩,by simp,Nat.zero_le _,Nat.zero_le _⟩
  obtain⟨b,o,spot⟩:=a;have hspot:spot=none:=by
   obtain⟨cs',hc,ht⟩:=hi 0 (by omega);obtain⟨_,hcl,hat⟩:=World.cells?_some hc;have hc0:W.cell? (((Addr.mk b o spot).add (0*sz)).add 0)=some (cs'[0]'(by rw[hcl];exact h0)):=by
    rw[hat 0 h0];exact List.getElem?_eq_getElem _
   simpa [Addr.add] using World.cell?_spot hc0
  subst hspot;have key:∀ i,∃ q:α,i<len->Pr q/\wt q<=Rows.uptoBulk (D i)/\b<W.heap.size/\At W (OldT W) b (o+i*sz) q:=by
   intro i;by_cases hlt:i<len
   ·obtain⟨cs',hc,ht⟩:=hi i (by omega)
    obtain⟨_,hcl,hat⟩:=World.cells?_some hc;have:=hmem i hlt;obtain⟨q,h1,h2,h3⟩:=el _ _ _ ht (by simp only;omega);refine⟨q,fun _=>⟨h1,h2,?_⟩⟩;have hc0:W.cell? ⟨b,o+(i*sz+0),none⟩=some (cs'[0]'(by rw[hcl];exact h0)):=by
     rw[<- Addr.add_lit,<- Go.Deep.add_add,hat 0 h0];exact List.getElem?_eq_getElem _
    refine⟨World.block_lt_of_cell? W _ hc0,h3 b _ fun j u hu=>?_⟩;have hj:j<sz:=by have:=(List.getElem?_eq_some_iff.1 hu).1;omega
    have:=hat j hj;rw[Go.Deep.add_add,Addr.add_lit,hu,<- Nat.add_assoc]at this;exact this
   ·exact⟨default,fun h=>absurd h hlt⟩
  have hk:∀ i,i<len->_:=fun i=>Classical.choose_spec (key i);refine⟨some ⟨b,o,none⟩,len,cap,(List.range len).map fun i=>Classical.choose (key i),hcs,⟨by simp,hl,fun hn=>?_⟩,fun q hq=>?_,?_,?_⟩
  ·refine⟨b,o,rfl,(hk 0 hn).2.2.1,fun i q hq=>?_⟩
   have hlt:i<len:=by have:=(List.getElem?_eq_some_iff.1 hq).1;simpa using this
   have hq2:Classical.choose (key i)=q:=by simpa [List.getElem?_map,List.getElem?_range hlt] using hq
   rw[<- hq2];exact (hk i hlt).2.2.2
  ·obtain⟨i,hi2,rfl⟩:=List.mem_map.1 hq
   exact (hk i (by simpa using hi2)).1
  ·have hs:∀ l:List Nat,(∀ i∈l,i<len)->sumW wt (l.map fun i=>Classical.choose (key i))<=Rows.uptoBulkAll (l.map D):=by
    intro l;induction l with
    | nil=>intro _;exact Nat.le_refl _
    | cons i l ih=>
     intro hl;have h1:=ih fun j hj=>hl j (List.mem_cons_of_mem _ hj);have h2:=(hk i (hl i (List.mem_cons_self ..))).2.1;simp only[List.map_cons,sumW,Rows.uptoBulkAll];omega
   have:=hs (List.range len) fun i hi=>by simpa using hi
   omega
  ·have:=qcE ((List.range len).map D)
   simp only[List.length_map,List.length_range]at this;omega
theorem qit:((Tryz.prog.fieldsOf 30).toList.map fun f=>(f.name,f.type,f.offset))=[("At",3,0),("Line",3,1),("Col",3,2)]:=by kernel_rfl
theorem qis:((Tryz.prog.fieldsOf 111).toList.map fun f=>(f.name,f.type,f.offset))=[("Kind",5,0),("S",9,1),("N",2,2),("At",30,3),("L",109,6)]:=by kernel_rfl
theorem fTyS:((Tryz.prog.fieldsOf 50).toList.map fun f=>(f.name,f.type,f.offset))=[("Kind",5,0),("S",9,1),("M",47,2),("At",30,3),("L",48,6)]:=by kernel_rfl
theorem fExS:((Tryz.prog.fieldsOf 43).toList.map fun f=>(f.name,f.type,f.offset))=[("Kind",5,0),("S",9,1),("N",2,2),("At",30,3),("L",40,6),("Arms",41,7)]:=by kernel_rfl
theorem fArS:((Tryz.prog.fieldsOf 113).toList.map fun f=>(f.name,f.type,f.offset))=[("P",111,0),("E",43,7)]:=by kernel_rfl
theorem fFdS:((Tryz.prog.fieldsOf 53).toList.map fun f=>(f.name,f.type,f.offset))=[("M",47,0),("T",50,1)]:=by kernel_rfl
theorem fCdS:((Tryz.prog.fieldsOf 56).toList.map fun f=>(f.name,f.type,f.offset))=[("Name",9,0),("At",30,1),("Fields",54,4)]:=by kernel_rfl
theorem fDcS:((Tryz.prog.fieldsOf 59).toList.map fun f=>(f.name,f.type,f.offset))=[("Kind",5,0),("Name",9,1),("At",30,2),("Params",51,5),("Cons",57,6),("Rec",4,7),("E",43,8)]:=by kernel_rfl
theorem k_u8:Tryz.prog.cellsOf 5=1:=by kernel_rfl
theorem qbY:Tryz.prog.cellsOf 9=1:=by kernel_rfl
theorem qhY:Tryz.prog.cellsOf 2=1:=by kernel_rfl
theorem qiz:Tryz.prog.cellsOf 3=1:=by kernel_rfl
theorem qhX:Tryz.prog.cellsOf 4=1:=by kernel_rfl
theorem qfS:Tryz.prog.cellsOf 47=1:=by kernel_rfl
theorem qc1:Tryz.prog.cellsOf 30=3:=by kernel_rfl
theorem qgN:Tryz.prog.cellsOf 111=7:=by kernel_rfl
theorem k_ty:Tryz.prog.cellsOf 50=7:=by kernel_rfl
theorem k_ex:Tryz.prog.cellsOf 43=8:=by kernel_rfl
theorem qhW:Tryz.prog.cellsOf 113=15:=by kernel_rfl
theorem k_fd:Tryz.prog.cellsOf 53=8:=by kernel_rfl
theorem k_cd:Tryz.prog.cellsOf 56=5:=by kernel_rfl
theorem k_dc:Tryz.prog.cellsOf 59=16:=by kernel_rfl
theorem qh0:Tryz.prog.cellsOf 109=1:=by kernel_rfl
theorem qiD:Tryz.prog.cellsOf 48=1:=by kernel_rfl
theorem qiB:Tryz.prog.cellsOf 40=1:=by kernel_rfl
theorem qhZ:Tryz.prog.cellsOf 41=1:=by kernel_rfl
theorem qiC:Tryz.prog.cellsOf 54=1:=by kernel_rfl
theorem qiA:Tryz.prog.cellsOf 57=1:=by kernel_rfl
theorem qh1:Tryz.prog.cellsOf 51=1:=by kernel_rfl
abbrev qB(enc:TypeId × Value->H)(W:World)(base:Nat)(fuel:Nat)(t:TypeId)(cs:List Value)(x:DataW H × List MemPlace):Prop:=DataW.trod enc Tryz.prog W base (fun _=>true) true fuel t cs=some x
theorem JQ{fuel:Nat}{c0 c1 c2:Value}{x:DataW H × List MemPlace}(h:qB enc W base fuel 30 [c0,c1,c2] x):∃ p:Pl,c0=.int .i64 p.a/\c1=.int .i64 p.l/\c2=.int .i64 p.c:=by
 obtain⟨n,ys,_,_,hy,hf⟩:=qC (by kernel_rfl) qit h;match ys,hy with
 | [y0,y1,y2],_=>
  have h0:=hf 0 _ rfl;have h1:=hf 1 _ rfl;have h2:=hf 2 _ rfl;simp only[qiz]at h0 h1 h2;obtain⟨a,e0,_,_⟩:=DataW.trod_int Tryz.underlying3 (show qB enc W base n 3 [c0] y0 from h0);obtain⟨l,e1,_,_⟩:=DataW.trod_int Tryz.underlying3 (show qB enc W base n 3 [c1] y1 from h1);obtain⟨c,e2,_,_⟩:=DataW.trod_int Tryz.underlying3 (show qB enc W base n 3 [c2] y2 from h2);simp only[List.cons.injEq,and_true]at e0 e1 e2;exact⟨⟨a,l,c⟩,e0,e1,e2⟩
theorem JW{fuel:Nat}{c0:Value}{x:DataW H × List MemPlace}(h:qB enc W base fuel 9 [c0] x):∃ s:List UInt8,c0=.string ⟨s.toArray⟩/\s.length+1<=Rows.uptoBulk x.1:=by
 obtain⟨s,e4,ds,_⟩:=DataW.trod_string Tryz.underlying9 h;simp only[List.cons.injEq,and_true]at e4;subst e4;refine⟨s.data.toList,rfl,?_⟩;rw[ds];simp only[Rows.uptoBulk];exact Nat.le_refl _
theorem QS{sh:Sh}(hs:sh ≠ .arms){q:Nd0}{A:Option Addr}{c:Nat}{Bd:Option Addr}{bc:Nat}(hk:KidsTr W (OldT W) sh A q.kids.len c q.kids)(ha:(sh=.ex/\KidsTr W (OldT W) .arms Bd q.arms.len bc q.arms)∨((sh=.pat∨sh=.ty)/\q.arms.len=0))(b o:Nat)
  (hc:∀ j u,(nodV sh q.k q.s q.n q.p A q.kids.len c Bd q.arms.len bc)[j]?=some u->W.cell? ⟨b,o+j,none⟩=some u):Zn sh W (OldT W) b o q:=
 (Tells.one hs hk ha (k:=q.k) (s:=q.s) (n:=q.n) (p:=q.p)).2.2 W b o hc (fun _ _=>rfl)
instance:Inhabited Nd0:=⟨⟨0,[],0,⟨0,0,0⟩,.nil,.nil⟩⟩
instance:Inhabited Fd:=⟨⟨0,0,[],0,⟨0,0,0⟩,.nil⟩⟩
instance:Inhabited Cd:=⟨⟨[],⟨0,0,0⟩,[]⟩⟩
instance:Inhabited Dc:=⟨⟨0,[],⟨0,0,0⟩,[],[],false,0,[],0,⟨0,0,0⟩,.nil,.nil⟩⟩
set_option maxRecDepth 100000 in
theorem qde(B:Nat)(hB1:B<=1048576):∀ (fuel:Nat) (cs:List Value) (x:DataW H × List MemPlace),qB enc W base fuel 111 cs x->Rows.uptoBulk x.1<=B →
  ∃ (q:Nd0) (A:Option Addr) (c:Nat),q.arms=.nil/\cs=nodV .pat q.k q.s q.n q.p A q.kids.len c none 0 0/\KidsTr W (OldT W) .pat A q.kids.len c q.kids/\q.pr/\q.sz<=Rows.uptoBulk x.1:=by
 induction B with
 | zero=>intro fuel cs x h hB;have:=qj x.1;omega
 | succ B ih=>
  intro fuel cs x h hB;obtain⟨n,ys,hx,hlen,hy,hf⟩:=qC Tryz.underlying111 qis h;rw[qgN]at hlen;match cs,hlen,ys,hy with
  | [c0,c1,c2,c3,c4,c5,c6],_,[y0,y1,y2,y3,y4],_=>
   have h0:=hf 0 _ rfl;have h1:=hf 1 _ rfl;have h2:=hf 2 _ rfl;have h3:=hf 3 _ rfl;have h4:=hf 4 _ rfl;simp only[k_u8,qbY,qhY,qc1,qh0]at h0 h1 h2 h3 h4;obtain⟨k,e0,_,_⟩:=DataW.trod_int Tryz.underlying5 (show qB enc W base n 5 [c0] y0 from h0);obtain⟨s,e1,hs1⟩:=JW (show qB enc W base n 9 [c1] y1 from h1);obtain⟨m,e2,_,hm⟩:=DataW.trod_int Tryz.underlying2 (show qB enc W base n 2 [c2] y2 from h2);obtain⟨p,e3,e4,e5⟩:=JQ (show qB enc W base n 30 [c3,c4,c5] y3 from h3);have b0:=qj y0.1;have b2:=qj y2.1;have b3:=qj y3.1;rw[hx]at hB ⊢;simp only[List.map_cons,List.map_nil,Rows.uptoBulk,Rows.uptoBulkAll]at hB ⊢;obtain⟨A,len,cp,xs,e6,hr,hpr,hsum,_⟩:=Qm (α:=Nd0) (At:=Zn .pat) Tryz.underlying109 qgN (by decide) B Nd0.sz Nd0.pr (fun fuel cs x h hB=>by
    obtain⟨q,A,c,r1,rfl,r3,r4,r5⟩:=ih (by omega) fuel cs x h hB;exact⟨q,r4,r5,fun b o hc=>QS (by intro e;cases e) r3 (.inr ⟨.inl rfl,by rw[r1];rfl⟩) (Bd:=none) (bc:=0) b o (by rw[r1];exact hc)⟩) (show qB enc W base n 109 [c6] y4 from h4) (by omega)
   have hkid:=qaU hr;have hkl:=hkid.1;subst hkl;have hsz:=QI xs;have hle:=(trN xs).len_le;obtain⟨hfit,hints⟩:=qbz xs hpr;simp only[List.cons.injEq,and_true]at e0 e2 e6;subst e0 e1 e2 e3 e4 e5 e6;exact⟨⟨k,s,m,p,trN xs,.nil⟩,A,cp,rfl,rfl,hkid,⟨⟨by show s.length<=140737488355328;omega,(bounds_i64 hm).1,(bounds_i64 hm).2⟩,by simp only;omega,Nat.zero_le _,hfit,trivial,hints,trivial⟩,by simp only[Nd0.sz,Tr.size];omega⟩
set_option maxRecDepth 100000 in
theorem qfD(B:Nat)(hB1:B<=1048576):∀ (fuel:Nat) (cs:List Value) (x:DataW H × List MemPlace),qB enc W base fuel 50 cs x->Rows.uptoBulk x.1<=B →
  ∃ (q:Nd0) (A:Option Addr) (c:Nat),q.arms=.nil/\cs=nodV .ty q.k q.s q.n q.p A q.kids.len c none 0 0/\KidsTr W (OldT W) .ty A q.kids.len c q.kids/\q.pr/\q.sz<=Rows.uptoBulk x.1:=by
 induction B with
 | zero=>intro fuel cs x h hB;have:=qj x.1;omega
 | succ B ih=>
  intro fuel cs x h hB;obtain⟨n,ys,hx,hlen,hy,hf⟩:=qC Tryz.underlying50 fTyS h;rw[k_ty]at hlen;match cs,hlen,ys,hy with
  | [c0,c1,c2,c3,c4,c5,c6],_,[y0,y1,y2,y3,y4],_=>
   have h0:=hf 0 _ rfl;have h1:=hf 1 _ rfl;have h2:=hf 2 _ rfl;have h3:=hf 3 _ rfl;have h4:=hf 4 _ rfl;simp only[k_u8,qbY,qfS,qc1,qiD]at h0 h1 h2 h3 h4;obtain⟨k,e0,_,_⟩:=DataW.trod_int Tryz.underlying5 (show qB enc W base n 5 [c0] y0 from h0);obtain⟨s,e1,hs1⟩:=JW (show qB enc W base n 9 [c1] y1 from h1);obtain⟨m,e2,_,hm⟩:=DataW.trod_int Tryz.underlying47 (show qB enc W base n 47 [c2] y2 from h2);obtain⟨p,e3,e4,e5⟩:=JQ (show qB enc W base n 30 [c3,c4,c5] y3 from h3);have b0:=qj y0.1;have b2:=qj y2.1;have b3:=qj y3.1;rw[hx]at hB ⊢;simp only[List.map_cons,List.map_nil,Rows.uptoBulk,Rows.uptoBulkAll]at hB ⊢;obtain⟨A,len,cp,xs,e6,hr,hpr,hsum,_⟩:=Qm (α:=Nd0) (At:=Zn .ty) Tryz.underlying48 k_ty (by decide) B Nd0.sz Nd0.pr (fun fuel cs x h hB=>by
    obtain⟨q,A,c,r1,rfl,r3,r4,r5⟩:=ih (by omega) fuel cs x h hB;exact⟨q,r4,r5,fun b o hc=>QS (by intro e;cases e) r3 (.inr ⟨.inr rfl,by rw[r1];rfl⟩) (Bd:=none) (bc:=0) b o (by rw[r1];exact hc)⟩) (show qB enc W base n 48 [c6] y4 from h4) (by omega)
   have hkid:=qaU hr;have hkl:=hkid.1;subst hkl;have hsz:=QI xs;have hle:=(trN xs).len_le;obtain⟨hfit,hints⟩:=qbz xs hpr;simp only[List.cons.injEq,and_true]at e0 e2 e6;subst e0 e1 e2 e3 e4 e5 e6;exact⟨⟨k,s,m,p,trN xs,.nil⟩,A,cp,rfl,rfl,hkid,⟨⟨by show s.length<=140737488355328;omega,by have:=(bounds_u8 hm).1;show -9223372036854775808<=m;omega,by have:=(bounds_u8 hm).2;show m<=9223372036854775807;omega⟩,by simp only;omega,Nat.zero_le _,hfit,trivial,hints,trivial⟩,by simp only[Nd0.sz,Tr.size];omega⟩
set_option maxRecDepth 100000 in
theorem qcw(B:Nat)(hB1:B<=1048576) (ih:∀ (fuel:Nat) (cs:List Value) (x:DataW H × List MemPlace),qB enc W base fuel 43 cs x->Rows.uptoBulk x.1<=B →
  ∃ (q:Nd0) (A:Option Addr) (c:Nat) (Bd:Option Addr) (bc:Nat),cs=nodV .ex q.k q.s q.n q.p A q.kids.len c Bd q.arms.len bc/\KidsTr W (OldT W) .ex A q.kids.len c q.kids/\KidsTr W (OldT W) .arms Bd q.arms.len bc q.arms/\q.pr/\q.sz<=Rows.uptoBulk x.1) :
  ∀ (fuel:Nat) (cs:List Value) (x:DataW H × List MemPlace),qB enc W base fuel 113 cs x->Rows.uptoBulk x.1<=B->∃ q:Nd0,q.pr/\q.sz<=Rows.uptoBulk x.1/\∀ b o,(∀ j u,cs[j]?=some u->W.cell? ⟨b,o+j,none⟩=some u)->qeE W (OldT W) b o q:=by
 intro fuel cs x h hB;obtain⟨n,ys,hx,hlen,hy,hf⟩:=qC Tryz.underlying113 fArS h;rw[qhW]at hlen;match ys,hy with
 | [y0,y1],_=>
  have h0:=hf 0 _ rfl;have h1:=hf 1 _ rfl;simp only[qgN,k_ex]at h0 h1;rw[hx]at hB ⊢;simp only[List.map_cons,List.map_nil,Rows.uptoBulk,Rows.uptoBulkAll]at hB ⊢;obtain⟨q,A,c,r1,r2,r3,r4,r5⟩:=qde B hB1 _ _ y0 h0 (by omega);obtain⟨q2,A2,c2,B2,bc2,s2,s3,s4,s5,s6⟩:=ih _ _ y1 h1 (by omega);refine⟨⟨q.k,q.s,q.n,q.p,q.kids,q2.tr .nil⟩,⟨r4.1,r4.2.1,by simp[Nd0.tr,Tr.len],r4.2.2.2.1,⟨s5.1.1,by have:=s5.2.1;omega,by have:=s5.2.2.1;omega,s5.2.2.2.1,s5.2.2.2.2.1,trivial⟩,r4.2.2.2.2.2.1,⟨s5.1,s5.2.2.2.2.2.1,s5.2.2.2.2.2.2,trivial⟩⟩,?_,fun b o hc=>?_⟩
  ·simp only[Nd0.sz,Nd0.tr,Tr.size]at r5 s6 ⊢
   rw[r1]at r5;simp only[Tr.size]at r5;omega
  ·have hc0:∀ j u,(nodV .pat q.k q.s q.n q.p A q.kids.len c none 0 0)[j]?=some u->W.cell? ⟨b,o+j,none⟩=some u:=fun j u hu=>by
    rw[<- r2]at hu;have hj:j<7:=by have:=(List.getElem?_eq_some_iff.1 hu).1;simp at this;omega
    exact hc j u (by rw[List.getElem?_take_of_lt hj,List.drop_zero]at hu;exact hu)
   have hc1:∀ j u,(nodV .ex q2.k q2.s q2.n q2.p A2 q2.kids.len c2 B2 q2.arms.len bc2)[j]?=some u->W.cell? ⟨b,o+7+j,none⟩=some u:=fun j u hu=>by
    rw[<- s2]at hu;have hj:j<8:=by have:=(List.getElem?_eq_some_iff.1 hu).1;simp at this;omega
    rw[Nat.add_assoc];exact hc (7+j) u (by rw[List.getElem?_take_of_lt hj,List.getElem?_drop]at hu;exact hu)
   have hp:Zn .pat W (OldT W) b o ⟨q.k,q.s,q.n,q.p,q.kids,.nil⟩:=QS (q:=⟨q.k,q.s,q.n,q.p,q.kids,.nil⟩) (by intro e;cases e) r3 (.inr ⟨.inl rfl,rfl⟩) (Bd:=none) (bc:=0) b o hc0;have he:Zn .ex W (OldT W) b (o+7) q2:=QS (by intro e;cases e) s3 (.inl ⟨rfl,s4⟩) b (o+7) hc1;exact⟨rfl,hp.1,hp.2.1,rfl,he,trivial⟩
set_option maxRecDepth 100000 in
theorem qeY(B:Nat)(hB1:B<=1048576):∀ (fuel:Nat) (cs:List Value) (x:DataW H × List MemPlace),qB enc W base fuel 43 cs x->Rows.uptoBulk x.1<=B →
  ∃ (q:Nd0) (A:Option Addr) (c:Nat) (Bd:Option Addr) (bc:Nat),cs=nodV .ex q.k q.s q.n q.p A q.kids.len c Bd q.arms.len bc/\KidsTr W (OldT W) .ex A q.kids.len c q.kids/\KidsTr W (OldT W) .arms Bd q.arms.len bc q.arms/\q.pr/\q.sz<=Rows.uptoBulk x.1:=by
 induction B with
 | zero=>intro fuel cs x h hB;have:=qj x.1;omega
 | succ B ih=>
  intro fuel cs x h hB;obtain⟨n,ys,hx,hlen,hy,hf⟩:=qC Tryz.underlying43 fExS h;rw[k_ex]at hlen;match cs,hlen,ys,hy with
  | [c0,c1,c2,c3,c4,c5,c6,c7],_,[y0,y1,y2,y3,y4,y5],_=>
   have h0:=hf 0 _ rfl;have h1:=hf 1 _ rfl;have h2:=hf 2 _ rfl;have h3:=hf 3 _ rfl;have h4:=hf 4 _ rfl;have h5:=hf 5 _ rfl;simp only[k_u8,qbY,qhY,qc1,qiB,qhZ]at h0 h1 h2 h3 h4 h5;obtain⟨k,e0,_,_⟩:=DataW.trod_int Tryz.underlying5 (show qB enc W base n 5 [c0] y0 from h0);obtain⟨s,e1,hs1⟩:=JW (show qB enc W base n 9 [c1] y1 from h1);obtain⟨m,e2,_,hm⟩:=DataW.trod_int Tryz.underlying2 (show qB enc W base n 2 [c2] y2 from h2);obtain⟨p,e3,e4,e5⟩:=JQ (show qB enc W base n 30 [c3,c4,c5] y3 from h3);have b0:=qj y0.1;have b2:=qj y2.1;have b3:=qj y3.1;rw[hx]at hB ⊢;simp only[List.map_cons,List.map_nil,Rows.uptoBulk,Rows.uptoBulkAll]at hB ⊢;obtain⟨A,len,cp,xs,e6,hr,hpr,hsum,_⟩:=Qm (α:=Nd0) (At:=Zn .ex) Tryz.underlying40 k_ex (by decide) B Nd0.sz Nd0.pr (fun fuel cs x h hB=>by
    obtain⟨q,A,c,Bd,bc,rfl,r3,r3',r4,r5⟩:=ih (by omega) fuel cs x h hB;exact⟨q,r4,r5,fun b o hc=>QS (by intro e;cases e) r3 (.inl ⟨rfl,r3'⟩) b o hc⟩) (show qB enc W base n 40 [c6] y4 from h4) (by omega)
   obtain⟨A2,len2,cp2,xs2,e7,hr2,hpr2,hsum2,_⟩:=Qm (α:=Nd0) (At:=qeE) Tryz.underlying41 qhW (by decide) B Nd0.sz Nd0.pr (qcw B (by omega) (ih (by omega))) (show qB enc W base n 41 [c7] y5 from h5) (by omega);have hkid:=qaU hr;have harm:=qhj hr2;have hkl:=hkid.1;have hal:=harm.1;subst hkl hal;have hsz:=QI xs;have hle:=(trN xs).len_le;have hsz2:=qby xs2;have hle2:=(trA xs2).len_le;obtain⟨hfit,hints⟩:=qbz xs hpr;obtain⟨hfit2,hints2⟩:=qf2 xs2 hpr2;simp only[List.cons.injEq,and_true]at e0 e2 e6 e7;subst e0 e1 e2 e3 e4 e5 e6 e7;exact⟨⟨k,s,m,p,trN xs,trA xs2⟩,A,cp,A2,cp2,rfl,hkid,harm,⟨⟨by show s.length<=140737488355328;omega,(bounds_i64 hm).1,(bounds_i64 hm).2⟩,by simp only;omega,by simp only;omega,hfit,hfit2,hints,hints2⟩,by simp only[Nd0.sz];omega⟩
def Fd.szO(x:Fd):Nat:=4*(1+x.kids.size)
def Fd.prO(x:Fd):Prop:=x.good/\x.tr.fit/\x.tr.ints
def Cd.szO(x:Cd):Nat:=2+sumW Fd.szO x.fs
def Cd.prO(x:Cd):Prop:=x.nm.length<=1048576/\x.fs.length<=500000/\∀ f∈x.fs,f.prO
def Dc.szO(x:Dc):Nat:=4+sumW Cd.szO x.cs
def Dc.prO(x:Dc):Prop:=x.good/\x.upto/\x.ints/\(tysL (qy x.cs)).size<=1000000
theorem jS{α:Type}(f:α->Nat)(m:Nat)(h:∀ x,m<=f x):∀ xs:List α,m*xs.length<=sumW f xs
 | []=>Nat.le_refl _
 | x::xs=>by
  have:=jS f m h xs;have:=h x;simp only[sumW,List.length_cons,Nat.mul_add];omega
theorem qa3:∀ cs:List Cd,4*(tysL (qy cs)).size<=sumW Cd.szO cs/\4*(qy cs).length<=sumW Cd.szO cs
 | []=>⟨Nat.zero_le _,Nat.zero_le _⟩
 | c::cs=>by
  obtain⟨h1,h2⟩:=qa3 cs;have h3:∀ fs:List Fd,4*(tysL fs).size=sumW Fd.szO fs:=by
   intro fs;induction fs with
   | nil=>rfl
   | cons x xs ih=>simp only[tysL,Tr.size,sumW,Fd.szO]at ih ⊢;omega
  have h4:=h3 c.fs;have h5:=jS Fd.szO 4 (fun x=>by simp only[Fd.szO];omega) c.fs;simp only[qy,Jq,Tr.app_size,List.length_append,sumW,Cd.szO]at h1 h2 ⊢;exact⟨by omega,by omega⟩
set_option maxRecDepth 100000 in
theorem qe0(B:Nat)(hB1:B<=1048576):∀ (fuel:Nat) (cs:List Value) (x:DataW H × List MemPlace),qB enc W base fuel 53 cs x->Rows.uptoBulk x.1<=B->∃ q:Fd,q.prO/\q.szO<=Rows.uptoBulk x.1/\∀ b o,(∀ j u,cs[j]?=some u->W.cell? ⟨b,o+j,none⟩=some u)->FdAt W (OldT W) b o q:=by
 intro fuel cs x h hB;obtain⟨n,ys,hx,hlen,hy,hf⟩:=qC Tryz.underlying53 fFdS h;rw[k_fd]at hlen;match cs,hlen,ys,hy with
 | c0::cs,hl,[y0,y1],_=>
  have h0:=hf 0 _ rfl;have h1:=hf 1 _ rfl;simp only[qfS,k_ty]at h0 h1;rw[hx]at hB ⊢;simp only[List.map_cons,List.map_nil,Rows.uptoBulk,Rows.uptoBulkAll]at hB ⊢;obtain⟨m,e0,_,_⟩:=DataW.trod_int Tryz.underlying47 (show qB enc W base n 47 [c0] y0 from h0);obtain⟨q,A,c,r1,r2,r3,r4,r5⟩:=qfD B hB1 _ _ y1 h1 (by omega);simp only[List.cons.injEq,and_true]at e0;subst e0;have hl7:cs.length=7:=by simpa using hl
  have r2':cs=nodV .ty q.k q.s q.n q.p A q.kids.len c none 0 0:=by
   rw[<- r2];simp only[List.drop_succ_cons,List.drop_zero];rw[List.take_of_length_le (by omega)]
  simp only[Nd0.sz]at r5;refine⟨⟨m,q.k,q.s,q.n,q.p,q.kids⟩,⟨by simp only[Fd.good];omega,⟨r4.1.1,by have:=r4.2.1;show q.kids.len<=140737488355328;omega,Nat.zero_le _,r4.2.2.2.1,trivial,trivial⟩,⟨r4.1,r4.2.2.2.2.2.1,trivial,trivial⟩⟩,by simp only[Fd.szO];omega,fun b o hc=>⟨?_,?_⟩⟩
  ·have:=hc 0 _ rfl
   exact this
  ·have hp:Zn .ty W (OldT W) b (o+1) ⟨q.k,q.s,q.n,q.p,q.kids,.nil⟩:=QS (q:=⟨q.k,q.s,q.n,q.p,q.kids,.nil⟩) (by intro e;cases e) r3 (.inr ⟨.inr rfl,rfl⟩) (Bd:=none) (bc:=0) b (o+1) (fun j u hu=>by
    have hu':(nodV .ty q.k q.s q.n q.p A q.kids.len c none 0 0)[j]?=some u:=hu;rw[<- r2']at hu';rw[Nat.add_assoc];exact hc (1+j) u (by rw[Nat.add_comm 1 j];exact hu'))
   exact hp
set_option maxRecDepth 100000 in
theorem qeJ(B:Nat)(hB1:B<=1048576):∀ (fuel:Nat) (cs:List Value) (x:DataW H × List MemPlace),qB enc W base fuel 56 cs x->Rows.uptoBulk x.1<=B->∃ q:Cd,q.prO/\q.szO<=Rows.uptoBulk x.1/\∀ b o,(∀ j u,cs[j]?=some u->W.cell? ⟨b,o+j,none⟩=some u)->CdAt W (OldT W) b o q:=by
 intro fuel cs x h hB;obtain⟨n,ys,hx,hlen,hy,hf⟩:=qC Tryz.underlying56 fCdS h;rw[k_cd]at hlen;match cs,hlen,ys,hy with
 | [c0,c1,c2,c3,c4],_,[y0,y1,y2],_=>
  have h0:=hf 0 _ rfl;have h1:=hf 1 _ rfl;have h2:=hf 2 _ rfl;simp only[qbY,qc1,qiC]at h0 h1 h2;rw[hx]at hB ⊢;simp only[List.map_cons,List.map_nil,Rows.uptoBulk,Rows.uptoBulkAll]at hB ⊢;obtain⟨s,e0,hs1⟩:=JW (show qB enc W base n 9 [c0] y0 from h0);obtain⟨p,e1,e2,e3⟩:=JQ (show qB enc W base n 30 [c1,c2,c3] y1 from h1);have b1:=qj y1.1;obtain⟨A,len,cp,xs,e4,hr,hpr,hsum,_⟩:=Qm (α:=Fd) (At:=FdAt) Tryz.underlying54 k_fd (by decide) B Fd.szO Fd.prO (qe0 B hB1) (show qB enc W base n 54 [c4] y2 from h2) (by omega);have hl:=hr.1;subst hl;have hsl:=jS Fd.szO 4 (fun x=>by simp only[Fd.szO];omega) xs;simp only[List.cons.injEq,and_true]at e4;subst e0 e1 e2 e3 e4;exact⟨⟨s,p,xs⟩,⟨by simp only;omega,by simp only;omega,hpr⟩,by simp only[Cd.szO];omega,fun b o hc=>⟨hc 0 _ rfl,hc 1 _ rfl,hc 2 _ rfl,hc 3 _ rfl,A,cp,hc 4 _ rfl,hr⟩⟩
theorem qfh(B:Nat):∀ (fuel:Nat) (cs:List Value) (x:DataW H × List MemPlace),qB enc W base fuel 9 cs x->Rows.uptoBulk x.1<=B->∃ q:List UInt8,q.length<=B/\q.length+1<=Rows.uptoBulk x.1/\∀ b o,(∀ j u,cs[j]?=some u->W.cell? ⟨b,o+j,none⟩=some u)->SAt W (OldT W) b o q:=by
 intro fuel cs x h hB;obtain⟨s,e4,ds,_⟩:=DataW.trod_string Tryz.underlying9 h;subst e4;have hb:s.data.toList.length+1<=Rows.uptoBulk x.1:=by
  rw[ds];simp only[Rows.uptoBulk];exact Nat.le_refl _
 exact⟨s.data.toList,by omega,hb,fun b o hc=>hc 0 _ rfl⟩
set_option maxRecDepth 100000 in
theorem qeL(B:Nat)(hB1:B<=1048576):∀ (fuel:Nat) (cs:List Value) (x:DataW H × List MemPlace),qB enc W base fuel 59 cs x->Rows.uptoBulk x.1<=B->∃ q:Dc,q.prO/\q.szO<=Rows.uptoBulk x.1/\∀ b o,(∀ j u,cs[j]?=some u->W.cell? ⟨b,o+j,none⟩=some u)->DcAt W (OldT W) b o q:=by
 intro fuel cs x h hB;obtain⟨n,ys,hx,hlen,hy,hf⟩:=qC Tryz.underlying59 fDcS h;rw[k_dc]at hlen;match cs,hlen,ys,hy with
 | c0::c1::c2::c3::c4::c5::c6::c7::cs,hl,[y0,y1,y2,y3,y4,y5,y6],_=>
  have h0:=hf 0 _ rfl;have h1:=hf 1 _ rfl;have h2:=hf 2 _ rfl;have h3:=hf 3 _ rfl;have h4:=hf 4 _ rfl;have h5:=hf 5 _ rfl;have h6:=hf 6 _ rfl;simp only[k_u8,qbY,qc1,qh1,qiA,qhX,k_ex]at h0 h1 h2 h3 h4 h5 h6;rw[hx]at hB ⊢;simp only[List.map_cons,List.map_nil,Rows.uptoBulk,Rows.uptoBulkAll]at hB ⊢;obtain⟨k,e0,_,_⟩:=DataW.trod_int Tryz.underlying5 (show qB enc W base n 5 [c0] y0 from h0);obtain⟨s,e1,hs1⟩:=JW (show qB enc W base n 9 [c1] y1 from h1);obtain⟨p,e2,e3,e4⟩:=JQ (show qB enc W base n 30 [c2,c3,c4] y2 from h2);obtain⟨A,len,cp,xs,e5,hr,hpr,hsum,hpl⟩:=Qm (α:=List UInt8) (At:=SAt) Tryz.underlying51 qbY (by decide) B (fun s=>s.length+1) (fun s=>s.length<=B) (qfh B) (show qB enc W base n 51 [c5] y3 from h3) (by omega);obtain⟨A2,len2,cp2,xs2,e6,hr2,hpr2,hsum2,_⟩:=Qm (α:=Cd) (At:=CdAt) Tryz.underlying57 k_cd (by decide) B Cd.szO Cd.prO (qeJ B hB1) (show qB enc W base n 57 [c6] y4 from h4) (by omega);obtain⟨rb,e7,_⟩:=DataW.trod_bool Tryz.underlying4 (show qB enc W base n 4 [c7] y5 from h5);obtain⟨q,QA,qc,QB,qb,s2,s3,s4,s5,s6⟩:=qeY B hB1 _ _ y6 h6 (by omega);have hl1:=hr.1;have hl2:=hr2.1;subst hl1 hl2;have b0:=qj y0.1;have b2:=qj y2.1;have b5:=qj y5.1;have hsl:=jS Cd.szO 2 (fun x=>by simp only[Cd.szO];omega) xs2;have hfs:=qa3 xs2;simp only[List.cons.injEq,and_true]at e0 e5 e6 e7;have hl8:cs.length=8:=by simpa using hl
  have s2':cs=nodV .ex q.k q.s q.n q.p QA q.kids.len qc QB q.arms.len qb:=by
   rw[<- s2];simp only[List.drop_succ_cons,List.drop_zero];rw[List.take_of_length_le (by omega)]
  subst e0 e1 e2 e3 e4 e5 e6 e7;simp only[Nd0.sz]at s6;refine⟨⟨k,s,p,xs,xs2,rb,q.k,q.s,q.n,q.p,q.kids,q.arms⟩,⟨⟨by simp only;omega,by simp only;omega,by simp only;omega,fun c hc=>?_⟩,⟨by simp only;omega,by simp only;omega,fun t ht=>by have:=hpr t ht;omega,by simp only;omega,fun c hc=>by have:=(hpr2 c hc).1;omega,by simp only;omega,⟨s5.1.1,by have:=s5.2.1;show q.kids.len<=140737488355328;omega,by have:=s5.2.2.1;show q.arms.len<=140737488355328;omega,s5.2.2.2.1,s5.2.2.2.2.1,trivial⟩,fun c hc f hf=>((hpr2 c hc).2.2 f hf).2.1⟩,⟨by simp only;omega,fun t ht=>by have:=hpr t ht;omega,fun c hc=>⟨by have:=(hpr2 c hc).1;omega,fun f hf=>((hpr2 c hc).2.2 f hf).2.2⟩,⟨s5.1,s5.2.2.2.2.2.1,s5.2.2.2.2.2.2,trivial⟩⟩,by simp only;omega⟩,by simp only[Dc.szO];omega,fun b o hc=>?_⟩
  ·exact⟨by have:=(hpr2 c hc).2.1;omega,fun f hf=>((hpr2 c hc).2.2 f hf).1⟩
  ·have he:Zn .ex W (OldT W) b (o+8) q:=QS (by intro e;cases e) s3 (.inl ⟨rfl,s4⟩) b (o+8) (fun j u hu=>by
    rw[<- s2']at hu;rw[Nat.add_assoc];exact hc (8+j) u (by rw[Nat.add_comm 8 j];exact hu))
   exact⟨hc 0 _ rfl,hc 1 _ rfl,hc 2 _ rfl,hc 3 _ rfl,hc 4 _ rfl,⟨A,cp,hc 5 _ rfl,hr⟩,⟨A2,cp2,hc 6 _ rfl,hr2⟩,hc 7 _ rfl,he⟩
set_option maxRecDepth 100000 in
theorem open_decls{v:Value}{d:DataW H}{p:List MemPlace}{b0:Nat}(hv:Value.okWide Tryz.prog W .any b0 22 v)(h:DataW.Trod enc Tryz.prog W base (fun _=>true) true 22 v d p)(hB:Rows.uptoBulk d<=1048576) :
  ∃ A n c xs,v=.slice A n c/\RowOf 16 DcAt W (OldT W) A n c xs/\n<=300000/\∀ x∈xs,x.prO:=by
 obtain⟨a0,len0,cap0,rfl⟩:=okWide_slice Tryz.underlying22 hv;obtain⟨fuel,hf⟩:=h;obtain⟨Bd,hBd⟩:∃ x:Nat,x=1048576:=⟨_,rfl⟩
 rw[<- hBd]at hB;obtain⟨A,n,c,xs,e,hr,hpr,hsum,_⟩:=Qm (α:=Dc) (At:=DcAt) Tryz.underlying22 k_dc (by decide) Bd Dc.szO Dc.prO (qeL Bd (Nat.le_of_eq hBd)) hf (Nat.le_succ_of_le hB);simp[Value.cells]at e;obtain⟨rfl,rfl,rfl⟩:=e;have hsl:=jS Dc.szO 4 (fun x=>by simp only[Dc.szO];omega) xs;have hl:=hr.1;simp only at hsum;exact⟨_,_,_,xs,rfl,hr,by omega,hpr⟩
end
end Go.Proofs.YtfpoelklhekfaaaGreatDoor.Mu
