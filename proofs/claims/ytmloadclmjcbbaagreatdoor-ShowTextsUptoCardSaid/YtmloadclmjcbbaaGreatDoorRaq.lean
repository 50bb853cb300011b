import Derived.Test.YtmloadclmjcbbaaGreatDoorRows
import Derived.ProofKit
import Derived.OpenShut
import Derived.ChangeOld
import Derived.ChangeMaps5
import Derived.Deep.Slices
import Derived.Test.YtmloadclmjcbbaaGreatDoorRan
import Derived.Test.YtmloadclmjcbbaaGreatDoorRap
open Go.Lib (hid)
set_option linter.unusedSimpArgs false
namespace Go.Proofs.YtmloadclmjcbbaaGreatDoor.Mu
open Go.ChangeShapes Go.WideShapes Go.ChangeAt Go.RowKit Go.Joins Go.Deep
theorem qC{H:Type}(d:DataW H):1<=Rows.uptoBulk d:=by
 cases d with
 | lit l=>cases l <;> simp[Rows.uptoBulk]
 | nil=>simp[Rows.uptoBulk]
 | ptr d=>simp[Rows.uptoBulk]
 | slice elems spare=>simp[Rows.uptoBulk]
 | agg parts=>simp[Rows.uptoBulk]
 | iface t d=>simp[Rows.uptoBulk]
 | map entries=>simp[Rows.uptoBulk]
 | held h=>simp[Rows.uptoBulk]
theorem qez{H:Type}{d:DataW H}{l:List (DataW H)}(h:d∈l):Rows.uptoBulk d<=Rows.uptoBulkAll l:=by
 induction l with
 | nil=>cases h
 | cons x r ih=>
  simp only[Rows.uptoBulkAll];rcases List.mem_cons.1 h with rfl | h
  ·omega
  ·have:=ih h;omega
theorem qey{H:Type}(l:List (DataW H)):l.length<=Rows.uptoBulkAll l:=by
 induction l with
 | nil=>simp[Rows.uptoBulkAll]
 | cons x r ih=>have:=qC x;simp only[Rows.uptoBulkAll,lC];omega
section
variable {H : Type} {enc : TypeId × Value -> H} {W : World} {base : Nat}
end
end Go.Proofs.YtmloadclmjcbbaaGreatDoor.Mu
namespace Go.Proofs.YtmloadclmjcbbaaGreatDoor.Mu
set_option maxRecDepth 100000
open Go.ChangeShapes Go.WideShapes Go.ChangeAt Go.RowKit Go.Joins Go.Deep
set_option linter.unusedVariables false
structure Nd0 where
 k:Int
 s:LU
 n:Int
 p:Pl
 kids:Tr
 arms:Tr
def Nd0.tr(x:Nd0)(r:Tr):Tr:= .nod x.k x.s x.n x.p x.kids x.arms r
def Nd0.ar(x:Nd0)(r:Tr):Tr:= .arm x.k x.s x.n x.p x.kids x.arms r
def Nd0.sz(x:Nd0):Nat:=4*(1+x.kids.size+x.arms.size)
def trN:List Nd0->Tr
 | []=> .nil
 | x::xs=>x.tr (trN xs)
def trA:List Nd0->Tr
 | []=> .nil
 | x::xs=>x.ar (trA xs)
def JZ(sh:Sh)(w:World)(Ok:Nat->Prop)(b o:Nat)(x:Nd0):Prop:=TrAt w Ok (x.tr .nil) sh b o
def qgr(w:World)(Ok:Nat->Prop)(b o:Nat)(x:Nd0):Prop:=TrAt w Ok (x.ar .nil) .arms b o
theorem qge:∀ xs,(trN xs).len=xs.length
 | []=>rfl
 | x::xs=>by simp only[trN,Nd0.tr,Tr.len,qge xs,lC]
theorem qgd:∀ xs,(trA xs).len=xs.length
 | []=>rfl
 | x::xs=>by simp only[trA,Nd0.ar,Tr.len,qgd xs,lC]
theorem Ji:∀ xs,4*(trN xs).size=sumW Nd0.sz xs
 | []=>rfl
 | x::xs=>by
  have:=Ji xs;simp only[trN,Nd0.tr,Tr.size,sumW,Nd0.sz]at this ⊢;omega
theorem qdd:∀ xs,4*(trA xs).size=sumW Nd0.sz xs
 | []=>rfl
 | x::xs=>by
  have:=qdd xs;simp only[trA,Nd0.ar,Tr.size,sumW,Nd0.sz]at this ⊢;omega
theorem qh4{w:World}{Ok:Nat->Prop}{sh:Sh}:∀ (xs:List Nd0) (b o:Nat),(∀ (i:Nat) x,xs[i]?=some x->JZ sh w Ok b (o+i*sh.sz) x)->TrAt w Ok (trN xs) sh b o
 | [],_,_,_=>trivial
 | x::xs,b,o,h=>by
  have h0:=h 0 x rfl;rw[Nat.zero_mul]at h0;exact⟨h0.1,h0.2.1,h0.2.2.1,qh4 xs b _ fun i y hy=>by
   have:=h (i+1) y hy;rwa [show o+(i+1)*sh.sz=o+sh.sz+i*sh.sz by rw[Nat.add_mul];omega]at this⟩
theorem qh2{w:World}{Ok:Nat->Prop}:∀ (xs:List Nd0) (b o:Nat),(∀ (i:Nat) x,xs[i]?=some x->qgr w Ok b (o+i*15) x)->TrAt w Ok (trA xs) .arms b o
 | [],_,_,_=>trivial
 | x::xs,b,o,h=>by
  have h0:=h 0 x rfl;rw[Nat.zero_mul]at h0;exact⟨rfl,h0.2.1,h0.2.2.1,h0.2.2.2.1,h0.2.2.2.2.1,qh2 xs b _ fun i y hy=>by
   have:=h (i+1) y hy;rwa [show o+(i+1)*15=o+15+i*15 by omega]at this⟩
theorem qcn{w:World}{Ok:Nat->Prop}{sh:Sh}{A:OA}{n c:Nat}{xs:List Nd0}(h:RowOf sh.sz (JZ sh) w Ok A n c xs):KidsTr w Ok sh A n c (trN xs):=
 ⟨by rw[qge];exact h.1,h.2.1,fun h0=>by
  obtain⟨b,o,e,hb,hx⟩:=h.2.2 h0;exact⟨b,o,e,hb,qh4 xs b o hx⟩⟩
theorem qja{w:World}{Ok:Nat->Prop}{A:OA}{n c:Nat}{xs:List Nd0}(h:RowOf 15 qgr w Ok A n c xs):KidsTr w Ok .arms A n c (trA xs):=
 ⟨by rw[qgd];exact h.1,h.2.1,fun h0=>by
  obtain⟨b,o,e,hb,hx⟩:=h.2.2 h0;exact⟨b,o,e,hb,qh2 xs b o hx⟩⟩
def Nd0.pr(x:Nd0):Prop:=fitN x.s x.n/\x.kids.len<=1048576/\x.arms.len<=1048576/\x.kids.fit/\x.arms.fit/\x.kids.ints/\x.arms.ints
theorem qde:∀ xs:List Nd0,(∀ x∈xs,x.pr)->(trN xs).fit/\(trN xs).ints
 | [],_=>⟨trivial,trivial⟩
 | x::xs,h=>by
  obtain⟨h1,h2⟩:=qde xs fun y hy=>h y (mCc _ hy);obtain⟨a,b,c,d,e,f,g⟩:=h x (List.mem_cons_self ..);exact⟨⟨a.1,by omega,by omega,d,e,h1⟩,⟨a,f,g,h2⟩⟩
theorem qh3:∀ xs:List Nd0,(∀ x∈xs,x.pr)->(trA xs).fit/\(trA xs).ints
 | [],_=>⟨trivial,trivial⟩
 | x::xs,h=>by
  obtain⟨h1,h2⟩:=qh3 xs fun y hy=>h y (mCc _ hy);obtain⟨a,b,c,d,e,f,g⟩:=h x (List.mem_cons_self ..);exact⟨⟨a.1,by omega,d,e,h1⟩,⟨a,f,g,h2⟩⟩
section
variable {H : Type} {enc : TypeId × Value -> H} {W : World} {base : Nat}
theorem qZ{t:TypeId}{fs:List (String × TypeId × Nat)}{fuel:Nat}{cs:List Value}{x:DataW H × List MemPlace}(uI:Tryz.prog.underlying t=some (.struct (Tryz.prog.fieldsOf t)))
  (hf:((Tryz.prog.fieldsOf t).toList.map fun f=>(f.name,f.type,f.offset))=fs) (h:DataW.trod enc Tryz.prog W base (fun _=>true) true fuel t cs=some x) :
  ∃ (n:Nat) (ys:List (DataW H × List MemPlace)),x.1=.agg (ys.map (·.1))/\cs.length=Tryz.prog.cellsOf t/\ys.length=fs.length/\∀ (i:Nat) f,fs[i]?=some f->DataW.trod enc Tryz.prog W base (fun _=>true) true n f.2.1 ((cs.drop f.2.2).take (Tryz.prog.cellsOf f.2.1))=ys[i]?:=by
 obtain⟨ys,n,_,hx,hlen,hyl,hfs⟩:=DataW.trod_struct uI h;refine⟨n,ys,by rw[hx],hlen,by rw[hyl,<- hf,List.length_map,Array.length_toList],fun i f hi=>?_⟩;rw[<- hf,List.getElem?_map]at hi;obtain⟨g,hg,rfl⟩:=Option.map_eq_some_iff.1 hi;exact hfs i g (by rw[<- Array.getElem?_toList];exact hg)
theorem ZN{α:Type}[Inhabited α]{sz:Nat}{At:World->(Nat->Prop)->Nat->Nat->α->Prop}{e t:TypeId}(ut:Tryz.prog.underlying t=some (.slice e))(hsz:Tryz.prog.cellsOf e=sz)(h0:0<sz)(B:Nat)(wt:α->Nat)(Pr:α->Prop)
  (el:∀ fuel cs (x:DataW H × List MemPlace),DataW.trod enc Tryz.prog W base (fun _=>true) true fuel e cs=some x->Rows.uptoBulk x.1<=B->∃ a:α,Pr a/\wt a<=Rows.uptoBulk x.1/\∀ b o,(∀ j u,cs[j]?=some u->W.cell? ⟨b,o+j,none⟩=some u)->At W (OldT W) b o a)
  {fuel:Nat} {cs:List Value} {x:DataW H × List MemPlace} (h:DataW.trod enc Tryz.prog W base (fun _=>true) true fuel t cs=some x) (hB:Rows.uptoBulk x.1<=B+1) :
  ∃ A n c xs,cs=[.slice A n c]/\RowOf sz At W (OldT W) A n c xs/\(∀ a∈xs,Pr a)/\sumW wt xs<=Rows.uptoBulk x.1/\n<=Rows.uptoBulk x.1:=by
 rcases open_slice ut h with ⟨hcs,_⟩ | ⟨a,len,cap,m,n,D,Pl,hcs,hb,hl,hm,hmm,hx,hi⟩
 ·exact⟨none,0,0,[],hcs,⟨rfl,lR _,fun h=>absurd h (by decide)⟩,by simp,zL _,zL _⟩
 ·simp only[if_true]at hmm
  rw[hsz]at hi;rw[hx]at hB ⊢;simp only[Rows.uptoBulk]at hB ⊢;have hmem:∀ i,i<len->Rows.uptoBulk (D i)<=Rows.uptoBulkAll ((List.range len).map D):=fun i hlt=>qez (List.mem_map.2 ⟨i,List.mem_range.2 hlt,rfl⟩);by_cases hl0:len=0
  ·subst hl0
   exact⟨some a,0,cap,[],hcs,⟨rfl,hl,fun h=>absurd h (by decide)⟩,by simp,zL _,zL _⟩
  obtain⟨b,o,spot⟩:=a;have hspot:spot=none:=by
   obtain⟨cs',hc,ht⟩:=hi 0 (by omega);obtain⟨_,hcl,hat⟩:=World.cells?_some hc;have hc0:W.cell? (((Addr.mk b o spot).add (0*sz)).add 0)=some (cs'[0]'(by rw[hcl];exact h0)):=by
    rw[hat 0 h0];exact eG _
   simpa [Addr.add] using World.cell?_spot hc0
  subst hspot;have key:∀ i,∃ q:α,i<len->Pr q/\wt q<=Rows.uptoBulk (D i)/\b<W.heap.size/\At W (OldT W) b (o+i*sz) q:=by
   intro i;by_cases hlt:i<len
   ·obtain⟨cs',hc,ht⟩:=hi i (by omega)
    obtain⟨_,hcl,hat⟩:=World.cells?_some hc;have:=hmem i hlt;obtain⟨q,h1,h2,h3⟩:=el _ _ _ ht (by simp only;omega);refine⟨q,fun _=>⟨h1,h2,?_⟩⟩;have hc0:W.cell? ⟨b,o+(i*sz+0),none⟩=some (cs'[0]'(by rw[hcl];exact h0)):=by
     rw[<- Addr.add_lit,<- Go.Deep.add_add,hat 0 h0];exact eG _
    refine⟨World.block_lt_of_cell? W _ hc0,h3 b _ fun j u hu=>?_⟩;have hj:j<sz:=by have:=(eJ.1 hu).1;omega
    have:=hat j hj;rw[Go.Deep.add_add,Addr.add_lit,hu,<- Nat.add_assoc]at this;exact this
   ·exact⟨default,fun h=>absurd h hlt⟩
  have hk:∀ i,i<len->_:=fun i=>Classical.choose_spec (key i);refine⟨some ⟨b,o,none⟩,len,cap,(List.range len).map fun i=>Classical.choose (key i),hcs,⟨by simp,hl,fun hn=>?_⟩,fun q hq=>?_,?_,?_⟩
  ·refine⟨b,o,rfl,(hk 0 hn).2.2.1,fun i q hq=>?_⟩
   have hlt:i<len:=by have:=(eJ.1 hq).1;simpa using this
   have hq2:Classical.choose (key i)=q:=by simpa [List.getElem?_map,List.getElem?_range hlt] using hq
   rw[<- hq2];exact (hk i hlt).2.2.2
  ·obtain⟨i,hi2,rfl⟩:=List.mem_map.1 hq
   exact (hk i (by simpa using hi2)).1
  ·have hs:∀ l:List Nat,(∀ i∈l,i<len)->sumW wt (l.map fun i=>Classical.choose (key i))<=Rows.uptoBulkAll (l.map D):=by
    intro l;induction l with
    | nil=>intro _;exact lR _
    | cons i l ih=>
     intro hl;have h1:=ih fun j hj=>hl j (mCc _ hj);have h2:=(hk i (hl i (List.mem_cons_self ..))).2.1;simp only[List.map_cons,sumW,Rows.uptoBulkAll];omega
   have:=hs (List.range len) fun i hi=>by simpa using hi
   omega
  ·have:=qey ((List.range len).map D)
   simp only[List.length_map,List.length_range]at this;omega
theorem qkg:((Tryz.prog.fieldsOf 24).toList.map fun f=>(f.name,f.type,f.offset))=[("At",3,0),("Line",3,1),("Col",3,2)]:=by kernel_rfl
theorem qkf:((Tryz.prog.fieldsOf 59).toList.map fun f=>(f.name,f.type,f.offset))=[("Kind",5,0),("S",9,1),("N",2,2),("At",24,3),("L",57,6)]:=by kernel_rfl
theorem fTyS:((Tryz.prog.fieldsOf 43).toList.map fun f=>(f.name,f.type,f.offset))=[("Kind",5,0),("S",9,1),("M",40,2),("At",24,3),("L",41,6)]:=by kernel_rfl
theorem fExS:((Tryz.prog.fieldsOf 28).toList.map fun f=>(f.name,f.type,f.offset))=[("Kind",5,0),("S",9,1),("N",2,2),("At",24,3),("L",25,6),("Arms",26,7)]:=by kernel_rfl
theorem fArS:((Tryz.prog.fieldsOf 61).toList.map fun f=>(f.name,f.type,f.offset))=[("P",59,0),("E",28,7)]:=by kernel_rfl
theorem fFdS:((Tryz.prog.fieldsOf 46).toList.map fun f=>(f.name,f.type,f.offset))=[("M",40,0),("T",43,1)]:=by kernel_rfl
theorem fCdS:((Tryz.prog.fieldsOf 49).toList.map fun f=>(f.name,f.type,f.offset))=[("Name",9,0),("At",24,1),("Fields",47,4)]:=by kernel_rfl
theorem fDcS:((Tryz.prog.fieldsOf 52).toList.map fun f=>(f.name,f.type,f.offset))=[("Kind",5,0),("Name",9,1),("At",24,2),("Params",44,5),("Cons",50,6),("Rec",4,7),("E",28,8)]:=by kernel_rfl
theorem k_u8:Tryz.prog.cellsOf 5=1:=by kernel_rfl
theorem qdE:Tryz.prog.cellsOf 9=1:=by kernel_rfl
theorem qjG:Tryz.prog.cellsOf 2=1:=by kernel_rfl
theorem qkm:Tryz.prog.cellsOf 3=1:=by kernel_rfl
theorem qjF:Tryz.prog.cellsOf 4=1:=by kernel_rfl
theorem qhT:Tryz.prog.cellsOf 40=1:=by kernel_rfl
theorem qe6:Tryz.prog.cellsOf 24=3:=by kernel_rfl
theorem qiA:Tryz.prog.cellsOf 59=7:=by kernel_rfl
theorem k_ty:Tryz.prog.cellsOf 43=7:=by kernel_rfl
theorem k_ex:Tryz.prog.cellsOf 28=8:=by kernel_rfl
theorem qjE:Tryz.prog.cellsOf 61=15:=by kernel_rfl
theorem k_fd:Tryz.prog.cellsOf 46=8:=by kernel_rfl
theorem k_cd:Tryz.prog.cellsOf 49=5:=by kernel_rfl
theorem k_dc:Tryz.prog.cellsOf 52=16:=by kernel_rfl
theorem qjI:Tryz.prog.cellsOf 57=1:=by kernel_rfl
theorem qkq:Tryz.prog.cellsOf 41=1:=by kernel_rfl
theorem qko:Tryz.prog.cellsOf 25=1:=by kernel_rfl
theorem qjH:Tryz.prog.cellsOf 26=1:=by kernel_rfl
theorem qkp:Tryz.prog.cellsOf 47=1:=by kernel_rfl
theorem qkn:Tryz.prog.cellsOf 50=1:=by kernel_rfl
theorem qjJ:Tryz.prog.cellsOf 44=1:=by kernel_rfl
abbrev qY(enc:TypeId × Value->H)(W:World)(base:Nat)(fuel:Nat)(t:TypeId)(cs:List Value)(x:DataW H × List MemPlace):Prop:=DataW.trod enc Tryz.prog W base (fun _=>true) true fuel t cs=some x
theorem qbv{fuel:Nat}{c0 c1 c2:Value}{x:DataW H × List MemPlace}(h:qY enc W base fuel 24 [c0,c1,c2] x):∃ p:Pl,c0=.int .i64 p.a/\c1=.int .i64 p.l/\c2=.int .i64 p.c:=by
 obtain⟨n,ys,_,_,hy,hf⟩:=qZ (by kernel_rfl) qkg h
 match ys,hy with
 | [y0,y1,y2],_=>
  have h0:=hf 0 _ rfl;have h1:=hf 1 _ rfl;have h2:=hf 2 _ rfl;simp only[qkm]at h0 h1 h2;obtain⟨a,e0,_,_⟩:=DataW.trod_int Tryz.underlying3 (show qY enc W base n 3 [c0] y0 from h0);obtain⟨l,e1,_,_⟩:=DataW.trod_int Tryz.underlying3 (show qY enc W base n 3 [c1] y1 from h1);obtain⟨c,e2,_,_⟩:=DataW.trod_int Tryz.underlying3 (show qY enc W base n 3 [c2] y2 from h2);simp only[List.cons.injEq,and_true]at e0 e1 e2;exact⟨⟨a,l,c⟩,e0,e1,e2⟩
theorem qbK{fuel:Nat}{c0:Value}{x:DataW H × List MemPlace}(h:qY enc W base fuel 9 [c0] x):∃ s:LU,c0=.string ⟨s.toArray⟩/\s.length+1<=Rows.uptoBulk x.1:=by
 obtain⟨s,e4,ds,_⟩:=DataW.trod_string Tryz.underlying9 h;simp only[List.cons.injEq,and_true]at e4;subst e4;refine⟨s.data.toList,rfl,?_⟩;rw[ds];simp only[Rows.uptoBulk];exact lR _
theorem Ju{sh:Sh}(hs:sh ≠ .arms){q:Nd0}{A:OA}{c:Nat}{Bd:OA}{bc:Nat}(hk:KidsTr W (OldT W) sh A q.kids.len c q.kids)(ha:(sh=.ex/\KidsTr W (OldT W) .arms Bd q.arms.len bc q.arms)∨((sh=.pat∨sh=.ty)/\q.arms.len=0))(b o:Nat)
  (hc:∀ j u,(nodV sh q.k q.s q.n q.p A q.kids.len c Bd q.arms.len bc)[j]?=some u->W.cell? ⟨b,o+j,none⟩=some u):JZ sh W (OldT W) b o q:=
 (Tells.one hs hk ha (k:=q.k) (s:=q.s) (n:=q.n) (p:=q.p)).2.2 W b o hc (fun _ _=>rfl)
instance:Inhabited Nd0:=⟨⟨0,[],0,⟨0,0,0⟩,.nil,.nil⟩⟩
instance:Inhabited Fd:=⟨⟨0,0,[],0,⟨0,0,0⟩,.nil⟩⟩
instance:Inhabited Cd:=⟨⟨[],⟨0,0,0⟩,[]⟩⟩
instance:Inhabited Dc:=⟨⟨0,[],⟨0,0,0⟩,[],[],false,0,[],0,⟨0,0,0⟩,.nil,.nil⟩⟩
theorem qfk(B:Nat)(hB1:B<=1048576):∀ (fuel:Nat) (cs:List Value) (x:DataW H × List MemPlace),qY enc W base fuel 59 cs x->Rows.uptoBulk x.1<=B →
  ∃ (q:Nd0) (A:OA) (c:Nat),q.arms=.nil/\cs=nodV .pat q.k q.s q.n q.p A q.kids.len c none 0 0/\KidsTr W (OldT W) .pat A q.kids.len c q.kids/\q.pr/\q.sz<=Rows.uptoBulk x.1:=by
 induction B with
 | zero=>intro fuel cs x h hB;have:=qC x.1;omega
 | succ B ih=>
  intro fuel cs x h hB;obtain⟨n,ys,hx,hlen,hy,hf⟩:=qZ Tryz.underlying59 qkf h;rw[qiA]at hlen
  match cs,hlen,ys,hy with
  | [c0,c1,c2,c3,c4,c5,c6],_,[y0,y1,y2,y3,y4],_=>
   have h0:=hf 0 _ rfl;have h1:=hf 1 _ rfl;have h2:=hf 2 _ rfl;have h3:=hf 3 _ rfl;have h4:=hf 4 _ rfl;simp only[k_u8,qdE,qjG,qe6,qjI]at h0 h1 h2 h3 h4;obtain⟨k,e0,_,_⟩:=DataW.trod_int Tryz.underlying5 (show qY enc W base n 5 [c0] y0 from h0);obtain⟨s,e1,hs1⟩:=qbK (show qY enc W base n 9 [c1] y1 from h1);obtain⟨m,e2,_,hm⟩:=DataW.trod_int Tryz.underlying2 (show qY enc W base n 2 [c2] y2 from h2);obtain⟨p,e3,e4,e5⟩:=qbv (show qY enc W base n 24 [c3,c4,c5] y3 from h3);have b0:=qC y0.1;have b2:=qC y2.1;have b3:=qC y3.1;rw[hx]at hB ⊢;simp only[List.map_cons,List.map_nil,Rows.uptoBulk,Rows.uptoBulkAll]at hB ⊢;obtain⟨A,len,cp,xs,e6,hr,hpr,hsum,_⟩:=ZN (α:=Nd0) (At:=JZ .pat) Tryz.underlying57 qiA (by decide) B Nd0.sz Nd0.pr (fun fuel cs x h hB=>by
    obtain⟨q,A,c,r1,rfl,r3,r4,r5⟩:=ih (by omega) fuel cs x h hB;exact⟨q,r4,r5,fun b o hc=>Ju (by intro e;cases e) r3 (.inr ⟨.inl rfl,by rw[r1];rfl⟩) (Bd:=none) (bc:=0) b o (by rw[r1];exact hc)⟩) (show qY enc W base n 57 [c6] y4 from h4) (by omega)
   have hkid:=qcn hr;have hkl:=hkid.1;subst hkl;have hsz:=Ji xs;have hle:=(trN xs).len_le;obtain⟨hfit,hints⟩:=qde xs hpr;simp only[List.cons.injEq,and_true]at e0 e2 e6;subst e0 e1 e2 e3 e4 e5 e6;exact⟨⟨k,s,m,p,trN xs,.nil⟩,A,cp,rfl,rfl,hkid,⟨⟨by show s.length<=140737488355328;omega,(bounds_i64 hm).1,(bounds_i64 hm).2⟩,by simp only;omega,zL _,hfit,trivial,hints,trivial⟩,by simp only[Nd0.sz,Tr.size];omega⟩
theorem qhE(B:Nat)(hB1:B<=1048576):∀ (fuel:Nat) (cs:List Value) (x:DataW H × List MemPlace),qY enc W base fuel 43 cs x->Rows.uptoBulk x.1<=B →
  ∃ (q:Nd0) (A:OA) (c:Nat),q.arms=.nil/\cs=nodV .ty q.k q.s q.n q.p A q.kids.len c none 0 0/\KidsTr W (OldT W) .ty A q.kids.len c q.kids/\q.pr/\q.sz<=Rows.uptoBulk x.1:=by
 induction B with
 | zero=>intro fuel cs x h hB;have:=qC x.1;omega
 | succ B ih=>
  intro fuel cs x h hB;obtain⟨n,ys,hx,hlen,hy,hf⟩:=qZ Tryz.underlying43 fTyS h;rw[k_ty]at hlen
  match cs,hlen,ys,hy with
  | [c0,c1,c2,c3,c4,c5,c6],_,[y0,y1,y2,y3,y4],_=>
   have h0:=hf 0 _ rfl;have h1:=hf 1 _ rfl;have h2:=hf 2 _ rfl;have h3:=hf 3 _ rfl;have h4:=hf 4 _ rfl;simp only[k_u8,qdE,qhT,qe6,qkq]at h0 h1 h2 h3 h4;obtain⟨k,e0,_,_⟩:=DataW.trod_int Tryz.underlying5 (show qY enc W base n 5 [c0] y0 from h0);obtain⟨s,e1,hs1⟩:=qbK (show qY enc W base n 9 [c1] y1 from h1);obtain⟨m,e2,_,hm⟩:=DataW.trod_int Tryz.underlying40 (show qY enc W base n 40 [c2] y2 from h2);obtain⟨p,e3,e4,e5⟩:=qbv (show qY enc W base n 24 [c3,c4,c5] y3 from h3);have b0:=qC y0.1;have b2:=qC y2.1;have b3:=qC y3.1;rw[hx]at hB ⊢;simp only[List.map_cons,List.map_nil,Rows.uptoBulk,Rows.uptoBulkAll]at hB ⊢;obtain⟨A,len,cp,xs,e6,hr,hpr,hsum,_⟩:=ZN (α:=Nd0) (At:=JZ .ty) Tryz.underlying41 k_ty (by decide) B Nd0.sz Nd0.pr (fun fuel cs x h hB=>by
    obtain⟨q,A,c,r1,rfl,r3,r4,r5⟩:=ih (by omega) fuel cs x h hB;exact⟨q,r4,r5,fun b o hc=>Ju (by intro e;cases e) r3 (.inr ⟨.inr rfl,by rw[r1];rfl⟩) (Bd:=none) (bc:=0) b o (by rw[r1];exact hc)⟩) (show qY enc W base n 41 [c6] y4 from h4) (by omega)
   have hkid:=qcn hr;have hkl:=hkid.1;subst hkl;have hsz:=Ji xs;have hle:=(trN xs).len_le;obtain⟨hfit,hints⟩:=qde xs hpr;simp only[List.cons.injEq,and_true]at e0 e2 e6;subst e0 e1 e2 e3 e4 e5 e6;exact⟨⟨k,s,m,p,trN xs,.nil⟩,A,cp,rfl,rfl,hkid,⟨⟨by show s.length<=140737488355328;omega,by have:=(bounds_u8 hm).1;show -9223372036854775808<=m;omega,by have:=(bounds_u8 hm).2;show m<=9223372036854775807;omega⟩,by simp only;omega,zL _,hfit,trivial,hints,trivial⟩,by simp only[Nd0.sz,Tr.size];omega⟩
theorem qen(B:Nat)(hB1:B<=1048576) (ih:∀ (fuel:Nat) (cs:List Value) (x:DataW H × List MemPlace),qY enc W base fuel 28 cs x->Rows.uptoBulk x.1<=B →
  ∃ (q:Nd0) (A:OA) (c:Nat) (Bd:OA) (bc:Nat),cs=nodV .ex q.k q.s q.n q.p A q.kids.len c Bd q.arms.len bc/\KidsTr W (OldT W) .ex A q.kids.len c q.kids/\KidsTr W (OldT W) .arms Bd q.arms.len bc q.arms/\q.pr/\q.sz<=Rows.uptoBulk x.1) :
  ∀ (fuel:Nat) (cs:List Value) (x:DataW H × List MemPlace),qY enc W base fuel 61 cs x->Rows.uptoBulk x.1<=B->∃ q:Nd0,q.pr/\q.sz<=Rows.uptoBulk x.1/\∀ b o,(∀ j u,cs[j]?=some u->W.cell? ⟨b,o+j,none⟩=some u)->qgr W (OldT W) b o q:=by
 intro fuel cs x h hB;obtain⟨n,ys,hx,hlen,hy,hf⟩:=qZ Tryz.underlying61 fArS h;rw[qjE]at hlen
 match ys,hy with
 | [y0,y1],_=>
  have h0:=hf 0 _ rfl;have h1:=hf 1 _ rfl;simp only[qiA,k_ex]at h0 h1;rw[hx]at hB ⊢;simp only[List.map_cons,List.map_nil,Rows.uptoBulk,Rows.uptoBulkAll]at hB ⊢;obtain⟨q,A,c,r1,r2,r3,r4,r5⟩:=qfk B hB1 _ _ y0 h0 (by omega);obtain⟨q2,A2,c2,B2,bc2,s2,s3,s4,s5,s6⟩:=ih _ _ y1 h1 (by omega);refine⟨⟨q.k,q.s,q.n,q.p,q.kids,q2.tr .nil⟩,⟨r4.1,r4.2.1,by simp[Nd0.tr,Tr.len],r4.2.2.2.1,⟨s5.1.1,by have:=s5.2.1;omega,by have:=s5.2.2.1;omega,s5.2.2.2.1,s5.2.2.2.2.1,trivial⟩,r4.2.2.2.2.2.1,⟨s5.1,s5.2.2.2.2.2.1,s5.2.2.2.2.2.2,trivial⟩⟩,?_,fun b o hc=>?_⟩
  ·simp only[Nd0.sz,Nd0.tr,Tr.size]at r5 s6 ⊢
   rw[r1]at r5;simp only[Tr.size]at r5;omega
  ·have hc0:∀ j u,(nodV .pat q.k q.s q.n q.p A q.kids.len c none 0 0)[j]?=some u->W.cell? ⟨b,o+j,none⟩=some u:=fun j u hu=>by
    rw[<- r2]at hu;have hj:j<7:=by have:=(eJ.1 hu).1;simp at this;omega
    exact hc j u (by rw[List.getElem?_take_of_lt hj,List.drop_zero]at hu;exact hu)
   have hc1:∀ j u,(nodV .ex q2.k q2.s q2.n q2.p A2 q2.kids.len c2 B2 q2.arms.len bc2)[j]?=some u->W.cell? ⟨b,o+7+j,none⟩=some u:=fun j u hu=>by
    rw[<- s2]at hu;have hj:j<8:=by have:=(eJ.1 hu).1;simp at this;omega
    rw[Nat.add_assoc];exact hc (7+j) u (by rw[List.getElem?_take_of_lt hj,List.getElem?_drop]at hu;exact hu)
   have hp:JZ .pat W (OldT W) b o ⟨q.k,q.s,q.n,q.p,q.kids,.nil⟩:=Ju (q:=⟨q.k,q.s,q.n,q.p,q.kids,.nil⟩) (by intro e;cases e) r3 (.inr ⟨.inl rfl,rfl⟩) (Bd:=none) (bc:=0) b o hc0;have he:JZ .ex W (OldT W) b (o+7) q2:=Ju (by intro e;cases e) s3 (.inl ⟨rfl,s4⟩) b (o+7) hc1;exact⟨rfl,hp.1,hp.2.1,rfl,he,trivial⟩
theorem qcN(B:Nat)(hB1:B<=1048576):∀ (fuel:Nat) (cs:List Value) (x:DataW H × List MemPlace),qY enc W base fuel 28 cs x->Rows.uptoBulk x.1<=B →
  ∃ (q:Nd0) (A:OA) (c:Nat) (Bd:OA) (bc:Nat),cs=nodV .ex q.k q.s q.n q.p A q.kids.len c Bd q.arms.len bc/\KidsTr W (OldT W) .ex A q.kids.len c q.kids/\KidsTr W (OldT W) .arms Bd q.arms.len bc q.arms/\q.pr/\q.sz<=Rows.uptoBulk x.1:=by
 induction B with
 | zero=>intro fuel cs x h hB;have:=qC x.1;omega
 | succ B ih=>
  intro fuel cs x h hB;obtain⟨n,ys,hx,hlen,hy,hf⟩:=qZ Tryz.underlying28 fExS h;rw[k_ex]at hlen
  match cs,hlen,ys,hy with
  | [c0,c1,c2,c3,c4,c5,c6,c7],_,[y0,y1,y2,y3,y4,y5],_=>
   have h0:=hf 0 _ rfl;have h1:=hf 1 _ rfl;have h2:=hf 2 _ rfl;have h3:=hf 3 _ rfl;have h4:=hf 4 _ rfl;have h5:=hf 5 _ rfl;simp only[k_u8,qdE,qjG,qe6,qko,qjH]at h0 h1 h2 h3 h4 h5;obtain⟨k,e0,_,_⟩:=DataW.trod_int Tryz.underlying5 (show qY enc W base n 5 [c0] y0 from h0);obtain⟨s,e1,hs1⟩:=qbK (show qY enc W base n 9 [c1] y1 from h1);obtain⟨m,e2,_,hm⟩:=DataW.trod_int Tryz.underlying2 (show qY enc W base n 2 [c2] y2 from h2);obtain⟨p,e3,e4,e5⟩:=qbv (show qY enc W base n 24 [c3,c4,c5] y3 from h3);have b0:=qC y0.1;have b2:=qC y2.1;have b3:=qC y3.1;rw[hx]at hB ⊢;simp only[List.map_cons,List.map_nil,Rows.uptoBulk,Rows.uptoBulkAll]at hB ⊢;obtain⟨A,len,cp,xs,e6,hr,hpr,hsum,_⟩:=ZN (α:=Nd0) (At:=JZ .ex) Tryz.underlying25 k_ex (by decide) B Nd0.sz Nd0.pr (fun fuel cs x h hB=>by
    obtain⟨q,A,c,Bd,bc,rfl,r3,r3',r4,r5⟩:=ih (by omega) fuel cs x h hB;exact⟨q,r4,r5,fun b o hc=>Ju (by intro e;cases e) r3 (.inl ⟨rfl,r3'⟩) b o hc⟩) (show qY enc W base n 25 [c6] y4 from h4) (by omega)
   obtain⟨A2,len2,cp2,xs2,e7,hr2,hpr2,hsum2,_⟩:=ZN (α:=Nd0) (At:=qgr) Tryz.underlying26 qjE (by decide) B Nd0.sz Nd0.pr (qen B (by omega) (ih (by omega))) (show qY enc W base n 26 [c7] y5 from h5) (by omega);have hkid:=qcn hr;have harm:=qja hr2;have hkl:=hkid.1;have hal:=harm.1;subst hkl hal;have hsz:=Ji xs;have hle:=(trN xs).len_le;have hsz2:=qdd xs2;have hle2:=(trA xs2).len_le;obtain⟨hfit,hints⟩:=qde xs hpr;obtain⟨hfit2,hints2⟩:=qh3 xs2 hpr2;simp only[List.cons.injEq,and_true]at e0 e2 e6 e7;subst e0 e1 e2 e3 e4 e5 e6 e7;exact⟨⟨k,s,m,p,trN xs,trA xs2⟩,A,cp,A2,cp2,rfl,hkid,harm,⟨⟨by show s.length<=140737488355328;omega,(bounds_i64 hm).1,(bounds_i64 hm).2⟩,by simp only;omega,by simp only;omega,hfit,hfit2,hints,hints2⟩,by simp only[Nd0.sz];omega⟩
def Fd.szO(x:Fd):Nat:=4*(1+x.kids.size)
def Fd.prO(x:Fd):Prop:=x.good/\x.tr.fit/\x.tr.ints
def Cd.szO(x:Cd):Nat:=2+sumW Fd.szO x.fs
def Cd.prO(x:Cd):Prop:=x.nm.length<=1048576/\x.fs.length<=500000/\∀ f∈x.fs,f.prO
def Dc.szO(x:Dc):Nat:=4+sumW Cd.szO x.cs
def Dc.prO(x:Dc):Prop:=x.good/\x.upto/\x.ints/\(tysL (qy x.cs)).size<=1000000
theorem Zh{α:Type}(f:α->Nat)(m:Nat)(h:∀ x,m<=f x):∀ xs:List α,m*xs.length<=sumW f xs
 | []=>lR _
 | x::xs=>by
  have:=Zh f m h xs;have:=h x;simp only[sumW,lC,Nat.mul_add];omega
theorem qcw:∀ cs:List Cd,4*(tysL (qy cs)).size<=sumW Cd.szO cs/\4*(qy cs).length<=sumW Cd.szO cs
 | []=>⟨zL _,zL _⟩
 | c::cs=>by
  obtain⟨h1,h2⟩:=qcw cs;have h3:∀ fs:List Fd,4*(tysL fs).size=sumW Fd.szO fs:=by
   intro fs;induction fs with
   | nil=>rfl
   | cons x xs ih=>simp only[tysL,Tr.size,sumW,Fd.szO]at ih ⊢;omega
  have h4:=h3 c.fs;have h5:=Zh Fd.szO 4 (fun x=>by simp only[Fd.szO];omega) c.fs;simp only[qy,j0,Tr.app_size,lA,sumW,Cd.szO]at h1 h2 ⊢;exact⟨by omega,by omega⟩
theorem qgT(B:Nat)(hB1:B<=1048576):∀ (fuel:Nat) (cs:List Value) (x:DataW H × List MemPlace),qY enc W base fuel 46 cs x->Rows.uptoBulk x.1<=B->∃ q:Fd,q.prO/\q.szO<=Rows.uptoBulk x.1/\∀ b o,(∀ j u,cs[j]?=some u->W.cell? ⟨b,o+j,none⟩=some u)->FdAt W (OldT W) b o q:=by
 intro fuel cs x h hB;obtain⟨n,ys,hx,hlen,hy,hf⟩:=qZ Tryz.underlying46 fFdS h;rw[k_fd]at hlen
 match cs,hlen,ys,hy with
 | c0::cs,hl,[y0,y1],_=>
  have h0:=hf 0 _ rfl;have h1:=hf 1 _ rfl;simp only[qhT,k_ty]at h0 h1;rw[hx]at hB ⊢;simp only[List.map_cons,List.map_nil,Rows.uptoBulk,Rows.uptoBulkAll]at hB ⊢;obtain⟨m,e0,_,_⟩:=DataW.trod_int Tryz.underlying40 (show qY enc W base n 40 [c0] y0 from h0);obtain⟨q,A,c,r1,r2,r3,r4,r5⟩:=qhE B hB1 _ _ y1 h1 (by omega);simp only[List.cons.injEq,and_true]at e0;subst e0;have hl7:cs.length=7:=by simpa using hl
  have r2':cs=nodV .ty q.k q.s q.n q.p A q.kids.len c none 0 0:=by
   rw[<- r2];simp only[jF,jG];rw[List.take_of_length_le (by omega)]
  simp only[Nd0.sz]at r5;refine⟨⟨m,q.k,q.s,q.n,q.p,q.kids⟩,⟨by simp only[Fd.good];omega,⟨r4.1.1,by have:=r4.2.1;show q.kids.len<=140737488355328;omega,zL _,r4.2.2.2.1,trivial,trivial⟩,⟨r4.1,r4.2.2.2.2.2.1,trivial,trivial⟩⟩,by simp only[Fd.szO];omega,fun b o hc=>⟨?_,?_⟩⟩
  ·have:=hc 0 _ rfl
   exact this
  ·have hp:JZ .ty W (OldT W) b (o+1) ⟨q.k,q.s,q.n,q.p,q.kids,.nil⟩:=Ju (q:=⟨q.k,q.s,q.n,q.p,q.kids,.nil⟩) (by intro e;cases e) r3 (.inr ⟨.inr rfl,rfl⟩) (Bd:=none) (bc:=0) b (o+1) (fun j u hu=>by
    have hu':(nodV .ty q.k q.s q.n q.p A q.kids.len c none 0 0)[j]?=some u:=hu;rw[<- r2']at hu';rw[Nat.add_assoc];exact hc (1+j) u (by rw[Nat.add_comm 1 j];exact hu'))
   exact hp
theorem qgy(B:Nat)(hB1:B<=1048576):∀ (fuel:Nat) (cs:List Value) (x:DataW H × List MemPlace),qY enc W base fuel 49 cs x->Rows.uptoBulk x.1<=B->∃ q:Cd,q.prO/\q.szO<=Rows.uptoBulk x.1/\∀ b o,(∀ j u,cs[j]?=some u->W.cell? ⟨b,o+j,none⟩=some u)->CdAt W (OldT W) b o q:=by
 intro fuel cs x h hB;obtain⟨n,ys,hx,hlen,hy,hf⟩:=qZ Tryz.underlying49 fCdS h;rw[k_cd]at hlen
 match cs,hlen,ys,hy with
 | [c0,c1,c2,c3,c4],_,[y0,y1,y2],_=>
  have h0:=hf 0 _ rfl;have h1:=hf 1 _ rfl;have h2:=hf 2 _ rfl;simp only[qdE,qe6,qkp]at h0 h1 h2;rw[hx]at hB ⊢;simp only[List.map_cons,List.map_nil,Rows.uptoBulk,Rows.uptoBulkAll]at hB ⊢;obtain⟨s,e0,hs1⟩:=qbK (show qY enc W base n 9 [c0] y0 from h0);obtain⟨p,e1,e2,e3⟩:=qbv (show qY enc W base n 24 [c1,c2,c3] y1 from h1);have b1:=qC y1.1;obtain⟨A,len,cp,xs,e4,hr,hpr,hsum,_⟩:=ZN (α:=Fd) (At:=FdAt) Tryz.underlying47 k_fd (by decide) B Fd.szO Fd.prO (qgT B hB1) (show qY enc W base n 47 [c4] y2 from h2) (by omega);have hl:=hr.1;subst hl;have hsl:=Zh Fd.szO 4 (fun x=>by simp only[Fd.szO];omega) xs;simp only[List.cons.injEq,and_true]at e4;subst e0 e1 e2 e3 e4;exact⟨⟨s,p,xs⟩,⟨by simp only;omega,by simp only;omega,hpr⟩,by simp only[Cd.szO];omega,fun b o hc=>⟨hc 0 _ rfl,hc 1 _ rfl,hc 2 _ rfl,hc 3 _ rfl,A,cp,hc 4 _ rfl,hr⟩⟩
theorem qhc(B:Nat):∀ (fuel:Nat) (cs:List Value) (x:DataW H × List MemPlace),qY enc W base fuel 9 cs x->Rows.uptoBulk x.1<=B->∃ q:LU,q.length<=B/\q.length+1<=Rows.uptoBulk x.1/\∀ b o,(∀ j u,cs[j]?=some u->W.cell? ⟨b,o+j,none⟩=some u)->SAt W (OldT W) b o q:=by
 intro fuel cs x h hB;obtain⟨s,e4,ds,_⟩:=DataW.trod_string Tryz.underlying9 h;subst e4;have hb:s.data.toList.length+1<=Rows.uptoBulk x.1:=by
  rw[ds];simp only[Rows.uptoBulk];exact lR _
 exact⟨s.data.toList,by omega,hb,fun b o hc=>hc 0 _ rfl⟩
theorem qgz(B:Nat)(hB1:B<=1048576):∀ (fuel:Nat) (cs:List Value) (x:DataW H × List MemPlace),qY enc W base fuel 52 cs x->Rows.uptoBulk x.1<=B->∃ q:Dc,q.prO/\q.szO<=Rows.uptoBulk x.1/\∀ b o,(∀ j u,cs[j]?=some u->W.cell? ⟨b,o+j,none⟩=some u)->DcAt W (OldT W) b o q:=by
 intro fuel cs x h hB;obtain⟨n,ys,hx,hlen,hy,hf⟩:=qZ Tryz.underlying52 fDcS h;rw[k_dc]at hlen
 match cs,hlen,ys,hy with
 | c0::c1::c2::c3::c4::c5::c6::c7::cs,hl,[y0,y1,y2,y3,y4,y5,y6],_=>
  have h0:=hf 0 _ rfl;have h1:=hf 1 _ rfl;have h2:=hf 2 _ rfl;have h3:=hf 3 _ rfl;have h4:=hf 4 _ rfl;have h5:=hf 5 _ rfl;have h6:=hf 6 _ rfl;simp only[k_u8,qdE,qe6,qjJ,qkn,qjF,k_ex]at h0 h1 h2 h3 h4 h5 h6;rw[hx]at hB ⊢;simp only[List.map_cons,List.map_nil,Rows.uptoBulk,Rows.uptoBulkAll]at hB ⊢;obtain⟨k,e0,_,_⟩:=DataW.trod_int Tryz.underlying5 (show qY enc W base n 5 [c0] y0 from h0);obtain⟨s,e1,hs1⟩:=qbK (show qY enc W base n 9 [c1] y1 from h1);obtain⟨p,e2,e3,e4⟩:=qbv (show qY enc W base n 24 [c2,c3,c4] y2 from h2);obtain⟨A,len,cp,xs,e5,hr,hpr,hsum,hpl⟩:=ZN (α:=LU) (At:=SAt) Tryz.underlying44 qdE (by decide) B (fun s=>s.length+1) (fun s=>s.length<=B) (qhc B) (show qY enc W base n 44 [c5] y3 from h3) (by omega);obtain⟨A2,len2,cp2,xs2,e6,hr2,hpr2,hsum2,_⟩:=ZN (α:=Cd) (At:=CdAt) Tryz.underlying50 k_cd (by decide) B Cd.szO Cd.prO (qgy B hB1) (show qY enc W base n 50 [c6] y4 from h4) (by omega);obtain⟨rb,e7,_⟩:=DataW.trod_bool Tryz.underlying4 (show qY enc W base n 4 [c7] y5 from h5);obtain⟨q,QA,qc,QB,qb,s2,s3,s4,s5,s6⟩:=qcN B hB1 _ _ y6 h6 (by omega);have hl1:=hr.1;have hl2:=hr2.1;subst hl1 hl2;have b0:=qC y0.1;have b2:=qC y2.1;have b5:=qC y5.1;have hsl:=Zh Cd.szO 2 (fun x=>by simp only[Cd.szO];omega) xs2;have hfs:=qcw xs2;simp only[List.cons.injEq,and_true]at e0 e5 e6 e7;have hl8:cs.length=8:=by simpa using hl
  have s2':cs=nodV .ex q.k q.s q.n q.p QA q.kids.len qc QB q.arms.len qb:=by
   rw[<- s2];simp only[jF,jG];rw[List.take_of_length_le (by omega)]
  subst e0 e1 e2 e3 e4 e5 e6 e7;simp only[Nd0.sz]at s6;refine⟨⟨k,s,p,xs,xs2,rb,q.k,q.s,q.n,q.p,q.kids,q.arms⟩,⟨⟨by simp only;omega,by simp only;omega,by simp only;omega,fun c hc=>?_⟩,⟨by simp only;omega,by simp only;omega,fun t ht=>by have:=hpr t ht;omega,by simp only;omega,fun c hc=>by have:=(hpr2 c hc).1;omega,by simp only;omega,⟨s5.1.1,by have:=s5.2.1;show q.kids.len<=140737488355328;omega,by have:=s5.2.2.1;show q.arms.len<=140737488355328;omega,s5.2.2.2.1,s5.2.2.2.2.1,trivial⟩,fun c hc f hf=>((hpr2 c hc).2.2 f hf).2.1⟩,⟨by simp only;omega,fun t ht=>by have:=hpr t ht;omega,fun c hc=>⟨by have:=(hpr2 c hc).1;omega,fun f hf=>((hpr2 c hc).2.2 f hf).2.2⟩,⟨s5.1,s5.2.2.2.2.2.1,s5.2.2.2.2.2.2,trivial⟩⟩,by simp only;omega⟩,by simp only[Dc.szO];omega,fun b o hc=>?_⟩
  ·exact⟨by have:=(hpr2 c hc).2.1;omega,fun f hf=>((hpr2 c hc).2.2 f hf).1⟩
  ·have he:JZ .ex W (OldT W) b (o+8) q:=Ju (by intro e;cases e) s3 (.inl ⟨rfl,s4⟩) b (o+8) (fun j u hu=>by
    rw[<- s2']at hu;rw[Nat.add_assoc];exact hc (8+j) u (by rw[Nat.add_comm 8 j];exact hu))
   exact⟨hc 0 _ rfl,hc 1 _ rfl,hc 2 _ rfl,hc 3 _ rfl,hc 4 _ rfl,⟨A,cp,hc 5 _ rfl,hr⟩,⟨A2,cp2,hc 6 _ rfl,hr2⟩,hc 7 _ rfl,he⟩
theorem open_decls{v:Value}{d:DataW H}{p:List MemPlace}{b0:Nat}(hv:Value.okWide Tryz.prog W .any b0 22 v)(h:DataW.Trod enc Tryz.prog W base (fun _=>true) true 22 v d p)(hB:Rows.uptoBulk d<=1048576) :
  ∃ A n c xs,v=.slice A n c/\RowOf 16 DcAt W (OldT W) A n c xs/\n<=300000/\∀ x∈xs,x.prO:=by
 obtain⟨a0,len0,cap0,rfl⟩:=okWide_slice Tryz.underlying22 hv;obtain⟨fuel,hf⟩:=h;obtain⟨Bd,hBd⟩:=nW (1048576:Nat);rw[<- hBd]at hB;obtain⟨A,n,c,xs,e,hr,hpr,hsum,_⟩:=ZN (α:=Dc) (At:=DcAt) Tryz.underlying22 k_dc (by decide) Bd Dc.szO Dc.prO (qgz Bd (Nat.le_of_eq hBd)) hf (Nat.le_succ_of_le hB);simp[Value.cells]at e;obtain⟨rfl,rfl,rfl⟩:=e;have hsl:=Zh Dc.szO 4 (fun x=>by simp only[Dc.szO];omega) xs;have hl:=hr.1;simp only at hsum;exact⟨_,_,_,xs,rfl,hr,by omega,hpr⟩
end
end Go.Proofs.YtmloadclmjcbbaaGreatDoor.Mu
namespace Go.Proofs.YtmloadclmjcbbaaGreatDoor.Mu
set_option maxHeartbeats 16000000
open Go Go.RowKit Go.Shelf
attribute [local go_sem] Oper.semAt_some
set_option linter.unusedVariables false
set_option maxRecDepth 100000
theorem qcI(x:Dc):dcK x≠[]:=by
 unfold dcK;split
 ·unfold J2;simp
 ·simp
theorem qb0:∀ xs ys:List Dc,dsK (xs++ys)=dsK xs++dsK ys
 | [],_=>rfl
 | x::xs,ys=>by
  show dcK x++dsK (xs++ys)=dcK x++dsK xs++dsK ys;rw[qb0 xs ys,aAa]
theorem qgE{xs:List Dc}{j:Nat}{x:Dc}(h:xs[j]?=some x):dsK (xs.take (j+1))=dsK (xs.take j)++dcK x:=by
 rw[List.take_add_one,h,Option.toList_some,qb0];show dsK (xs.take j)++(dcK x++[])=_;rw[aNn]
theorem qik{xs:List Dc}{j:Nat}(h:0<j)(hj:j<=xs.length):dsK (xs.take j)≠[]:=by
 cases xs with
 | nil=>simp at hj;omega
 | cons x xs=>
  cases j with
  | zero=>omega
  | succ j=>
   show dcK x++dsK (xs.take j)≠[];intro e;exact qcI x (List.append_eq_nil_iff.1 e).1
theorem qhD{xs:List Dc}(h:xs.all dcMay=true)(hm:∀ x∈xs,x.mok):tlO xs=if (strS (dsK xs)).size<=4000 then ((strS (dsK xs)).data.toList,0) else ([],3):=by
 unfold tlO;rw[if_pos h];cases xs with
 | nil=>simp[dsK,wrO,qt,strS,qk,ByteArray.size]
 | cons x xs=>
  refine qdj ?_ (qaB _ fun y hy=>⟨List.all_eq_true.1 h y hy,hm y hy⟩);show dcK x++dsK xs≠[];intro e;exact qcI x (List.append_eq_nil_iff.1 e).1
theorem qbJ(F:List Tn):(strS F).data.toList=(sfx F).tail:=by unfold strS;rfl
theorem qc7(F:List Tn):(strS F).size<=(sfx F).length:=by
 rw[<- zD,qbJ,List.length_tail];omega
theorem qhx{S P:BA}{F G:List Tn}(hF:F≠[])(hS:S=strS F)(hG:G≠[])(hP:P=strS G):S++⟨#[32]⟩++P=strS (F++G):=by
 apply jy;rw[qz,<- qw hF,<- qw hG,qj,qj,<- hS,<- hP];simp
theorem qf3{S P:BA}{F G:List Tn}(hF:F=[])(hS:S=strS F)(hG:G≠[])(hP:P=strS G):S++P=strS (F++G):=by
 apply jy;subst hF;rw[List.nil_append,<- qw hG,qj,<- hP,hS,qbJ,qk];rfl
theorem qd2(A:OA)(n c:Nat)(xs:List Dc)(w:World)(hk:RowOf 16 DcAt w (OldT w) A n c xs)(hn:n<=1000000)(hp:∀ x∈xs,x.prO)(hw:sumW Dc.wt xs<=9000) :
  Calls Tryz.prog 8 #[.slice A n c] w (StR (.tuple #[.string ⟨(tlO xs).1.toArray⟩,.int .i64 (tlO xs).2]) w):=by
 have hmok:∀ x∈xs,x.mok:=fun x hx=>by
  obtain⟨b,o,h⟩:=hk.mem hx;exact h.mok
 have HTL:=hid fun h=>qhD (xs:=xs) h hmok;have HNO:Hid (xs.all dcMay=false->tlO xs=([],2)):=hid fun h=>by unfold tlO;rw[h];rfl
 have HMOK:=hid hmok;have H:=hid hk;have HL:Hid (n=xs.length):=hid hk.1;have HP:=hid hp;have hdl:=qeO xs fun x hx=>(hp x hx).2.2.1;have HDL:Hid (∀ j,(strS (dsK (xs.take j))).size<=2000000):=hid fun j=>by
  have h1:=qc7 (dsK (xs.take j));have h2:(sfx (dsK xs)).length=(sfx (dsK (xs.take j))).length+(sfx (dsK (xs.drop j))).length:=by
   rw[<- zq,<- qb0,List.take_append_drop]
  omega
 have HWX:Hid (∀ x∈xs,x.wt<=9000):=hid fun x hx=>lL (qck Dc.wt hx) hw;obtain⟨R1,hR1⟩:=nW (⟨(tlO xs).1.toArray⟩:BA);obtain⟨R2,hR2⟩:=nW ((tlO xs).2:Int);rw[<- hR1,<- hR2];have HR:=hid (And.intro hR1 hR2);clear hk hp hw hmok hdl hR1 hR2;go_enter Tryz.func8,Tryz.ntmps8;go_wp2_with fail;go_loopw [4,5] (fun v i wr=>∃ (j:Nat) (S:BA),j<=n/\i=.int .i64 (j:Int)/\v=.string S/\Hid (xs.all dcMay=(xs.drop j).all dcMay)/\Hid (S=strS (dsK (xs.take j)))/\Hid (Bel w wr)) (fun _ i _=>n-(intOf i).toNat)
 case atStart=>exact⟨0,_,zL _,rfl,rfl,hid rfl,hid (by rw[List.take_zero];rfl),hid (Bel.refl _)⟩
 case round=>
  obtain⟨j,S,hj,rfl,rfl,HRJ,HS,HB⟩:=hrel;have HSZ:Hid (S.size<=2000000):=hid (by rw[HS.out];exact HDL j);by_cases hlt:j<n
  ·obtain⟨ub,uo,eA,hob,hfo⟩:=(H.bel Qk HB).2.2 (by omega)
   subst eA;obtain⟨x,hx⟩:∃ x,xs[j]?=some x:=⟨_,eG (by rw[<- HL.out];exact hlt)⟩
   have hxm:=mGg hx;have hpx:=HP.out x hxm;have hwx:=HWX.out x hxm;have hmx:=HMOK.out x hxm;have hJD:=HRJ.out;rw[ZW hx,qeH hmx]at hJD;have hdt:=qgE hx;have hlx:=qeG hpx.2.2.1;obtain⟨PA,pc,CA,cc,A',ca',B',cb',hps,hcc,hkk,haa,y0,y1,y2,y3,y4,y5,y6,y7,y8,y9,y10,y11,y12,y13,y14,y15⟩:=(hfo j x hx).cells;obtain⟨kd,nm,q,ps,cs,rc,k,s,nn,p,kids,arms⟩:=x;have et:Dc.tr ⟨kd,nm,q,ps,cs,rc,k,s,nn,p,kids,arms⟩=.nod k s nn p kids arms .nil:=rfl;rw[et]at hJD;simp only[]at y0 y1 y2 y3 y4 y5 y6 y7 y8 y9 y10 y11 y12 y13 y14 y15 hps hcc hkk haa hJD;have hgx:=hpx.1;have hts:=hpx.2.2.2;simp only at hts;have HM:=hid fun W (hW:Bel wr W)=>qaW kd nm q PA pc ps CA cc cs rc k s nn p A' ca' B' cb' kids arms W (hps.bel jx hW) (hcc.bel zN hW) (hkk.bel hW) (haa.bel hW) hgx (by omega);have HD:=hid fun W (hW:Bel wr W)=>qdT kd nm q PA ps.length pc CA cs.length cc rc k s nn p A' ca' B' cb' kids arms cs W (hkk.bel hW) (haa.bel hW) hgx.2.2.1 (hcc.bel zN hW) hgx.1 hts;have HE:=hid fun (e:dcMR ⟨kd,nm,q,ps,cs,rc,k,s,nn,p,kids,arms⟩=true) W (hW:Bel wr W)=>qd0 kd nm q PA pc ps CA cc cs rc k s nn p A' ca' B' cb' kids arms W (hps.bel jx hW) (hcc.bel zN hW) (hkk.bel hW) (haa.bel hW) hgx e (by omega);obtain⟨b,hb⟩:=nW (dcMR ⟨kd,nm,q,ps,cs,rc,k,s,nn,p,kids,arms⟩);obtain⟨z,hz⟩:=nW (ju kd (.nod k s nn p kids arms .nil) cs:Nat);obtain⟨P,hP⟩:=nW (strS (dcK ⟨kd,nm,q,ps,cs,rc,k,s,nn,p,kids,arms⟩));rw[<- hb]at HM HE hJD;rw[<- hz]at HD hJD;rw[<- hP]at HE;have HJD:=hid hJD;have HPZ:Hid (P.size<=2000000):=hid (by have:=qc7 (dcK ⟨kd,nm,q,ps,cs,rc,k,s,nn,p,kids,arms⟩);rw[hP];omega);have HPP:=hid hP;have HDT:=hid hdt;obtain⟨kl,hkl⟩:=nW kids.len;obtain⟨al,hal⟩:=nW arms.len;obtain⟨pl,hpl⟩:=nW ps.length;obtain⟨cl,hcl⟩:=nW cs.length;obtain⟨SS,hSS⟩:=nW (⟨s.toArray⟩:BA);obtain⟨NM,hNM⟩:=nW (⟨nm.toArray⟩:BA);rw[<- hkl,<- hal,<- hpl,<- hcl,<- hSS,<- hNM]at HM HD HE;rw[<- hNM]at y1;rw[<- hpl]at y5;rw[<- hcl]at y6;rw[<- hSS]at y9;rw[<- hkl]at y14;rw[<- hal]at y15;have i1:(0:Int)<=(j:Int):=by omega
   have i2:(j:Int)<(n:Int):=by omega
   have HLT:=hid hlt;have hob':ub<wr.heap.size:=hob;have HOB:=hid hob';clear hfo hx hxm hpx hwx hmx hJD hdt hlx et hgx hts hps hcc hkk haa hb hz hP hkl hal hpl hcl hSS hNM hob hlt;go_wp2_with fail;refine (HM _ (Bel.refl _)).mono ?_;rintro e w3 ⟨rfl,hb3⟩;have HB3:=hid hb3;have hob:=HOB.out;replace y0:=((hb3).cells.1 _ _ hob).trans y0;replace y1:=((hb3).cells.1 _ _ hob).trans y1;replace y2:=((hb3).cells.1 _ _ hob).trans y2;replace y3:=((hb3).cells.1 _ _ hob).trans y3;replace y4:=((hb3).cells.1 _ _ hob).trans y4;replace y5:=((hb3).cells.1 _ _ hob).trans y5;replace y6:=((hb3).cells.1 _ _ hob).trans y6;replace y7:=((hb3).cells.1 _ _ hob).trans y7;replace y8:=((hb3).cells.1 _ _ hob).trans y8;replace y9:=((hb3).cells.1 _ _ hob).trans y9;replace y10:=((hb3).cells.1 _ _ hob).trans y10;replace y11:=((hb3).cells.1 _ _ hob).trans y11;replace y12:=((hb3).cells.1 _ _ hob).trans y12;replace y13:=((hb3).cells.1 _ _ hob).trans y13;replace y14:=((hb3).cells.1 _ _ hob).trans y14;replace y15:=((hb3).cells.1 _ _ hob).trans y15;have hob3:ub<w3.heap.size:=lT hob hb3.size;clear hb3 hob hob' HM;cases b
   ·obtain⟨rfl,rfl⟩:R1=⟨#[]⟩/\R2=2:=by
     have h1:=HNO.out (by rw[HJD.out];rfl);have h2:=HR.out;rw[h1]at h2;exact h2
    go_wp2_with fail;go_ret2;exact⟨rfl,HB.on HB3⟩
   go_wp2_with fail;refine (HD _ HB3).mono ?_;rintro e w4 ⟨rfl,hb4⟩;have HB4:=hid (HB3.on hb4);have hob:=hob3;replace y0:=((hb4).cells.1 _ _ hob).trans y0;replace y1:=((hb4).cells.1 _ _ hob).trans y1;replace y2:=((hb4).cells.1 _ _ hob).trans y2;replace y3:=((hb4).cells.1 _ _ hob).trans y3;replace y4:=((hb4).cells.1 _ _ hob).trans y4;replace y5:=((hb4).cells.1 _ _ hob).trans y5;replace y6:=((hb4).cells.1 _ _ hob).trans y6;replace y7:=((hb4).cells.1 _ _ hob).trans y7;replace y8:=((hb4).cells.1 _ _ hob).trans y8;replace y9:=((hb4).cells.1 _ _ hob).trans y9;replace y10:=((hb4).cells.1 _ _ hob).trans y10;replace y11:=((hb4).cells.1 _ _ hob).trans y11;replace y12:=((hb4).cells.1 _ _ hob).trans y12;replace y13:=((hb4).cells.1 _ _ hob).trans y13;replace y14:=((hb4).cells.1 _ _ hob).trans y14;replace y15:=((hb4).cells.1 _ _ hob).trans y15;have hob4:ub<w4.heap.size:=lT hob hb4.size;clear hb4 hob hob3 HD;by_cases h60:z<=60
   case neg=>
    have q60:decide ((60:Int)<(z:Int))=true:=dT (by omega);have q61:decide (60<z)=true:=dT (by omega);obtain⟨rfl,rfl⟩:R1=⟨#[]⟩/\R2=2:=by
     have h1:=HNO.out (by rw[HJD.out,dF h60];rfl);have h2:=HR.out;rw[h1]at h2;exact h2
    clear h60;go_wp2_with fail;go_ret2;exact⟨rfl,HB.on HB4⟩
   have q60:decide ((60:Int)<(z:Int))=false:=dF (by omega);have q61:decide (60<z)=false:=dF (by omega);have HJN:Hid (xs.all dcMay=(xs.drop (j+1)).all dcMay):=hid (by rw[HJD.out,dT h60];rfl);clear h60;have hob:=hob4;by_cases hj0:j=0
   ·have q0:decide ((0:Int)<(j:Int))=false:=dF (by omega)
    have q02:decide (0<j)=false:=dF (by omega);have hc1:¬ (9223372036854775807<S.size+P.size):=by have:=HSZ.out;have:=HPZ.out;omega
    have HJ0:=hid hj0;clear hj0;go_wp2_with fail;refine (HE trivial _ HB4).mono ?_;rintro e w5 ⟨rfl,hb5⟩;have HB5:=hid (HB.on (HB4.on hb5));clear hb5 y0 y1 y2 y3 y4 y5 y6 y7 y8 y9 y10 y11 y12 y13 y14 y15 hob hob4 HE;go_wp2_with fail;go_roundw
    case rel=>exact⟨j+1,S++P,HLT,by go_num,rfl,HJN,hid (by rw[HDT.out];exact qf3 (by rw[HJ0.out];rfl) HS (qcI _) HPP),HB5⟩
    case measure=>exact mS HLT
   ·have q0:decide ((0:Int)<(j:Int))=true:=dT (by omega)
    have q02:decide (0<j)=true:=dT (by omega);have hc0:¬ (9223372036854775807<S.size+1):=by have:=HSZ.out;omega
    have hc1:¬ (9223372036854775807<S.size+1+P.size):=by have:=HSZ.out;have:=HPZ.out;omega
    have HJ0:=hid hj0;clear hj0;go_wp2_with fail;refine (HE trivial _ HB4).mono ?_;rintro e w5 ⟨rfl,hb5⟩;have HB5:=hid (HB.on (HB4.on hb5));clear hb5 y0 y1 y2 y3 y4 y5 y6 y7 y8 y9 y10 y11 y12 y13 y14 y15 hob hob4 HE;go_wp2_with fail;go_roundw
    case rel=>exact⟨j+1,S++⟨#[32]⟩++P,HLT,by go_num,rfl,HJN,hid (by rw[HDT.out];exact qhx (qik (by have:=HJ0.out;omega) (by have:=HLT.out;have:=HL.out;omega)) HS (qcI _) HPP),HB5⟩
    case measure=>exact mS HLT
  ·obtain rfl:j=n:=by omega
   have hall:xs.all dcMay=true:=by rw[HRJ.out,dNn (by rw[<- HL.out];exact lR _)];rfl
   have hSS:S=strS (dsK xs):=by rw[HS.out,List.take_of_length_le (by rw[<- HL.out];exact lR _)]
   have hT:=HTL.out hall;rw[<- hSS]at hT;have hR:=HR.out;rw[hT]at hR;have HR':=hid hR;clear hall hSS hT hR HRJ HS;by_cases h4:S.size<=4000
   ·have q4:decide ((4000:Int)<(S.size:Int))=false:=dF (by omega)
    have q42:decide (4000<S.size)=false:=dF (by omega);have HRF:Hid (R1=S/\R2=0):=hid (by have h:=HR'.out;rw[if_pos h4]at h;exact h);clear h4;go_wp2_with fail;go_ret2;exact⟨by rw[HRF.out.1,HRF.out.2];rfl,HB⟩
   ·have q4:decide ((4000:Int)<(S.size:Int))=true:=dT (by omega)
    have q42:decide (4000<S.size)=true:=dT (by omega);have HRF:Hid (R1=⟨#[]⟩/\R2=3):=hid (by have h:=HR'.out;rw[if_neg h4]at h;exact h);clear h4;go_wp2_with fail;go_ret2;exact⟨by rw[HRF.out.1,HRF.out.2];rfl,HB⟩
def p00:Pl:=⟨0,0,0⟩
def tO(k:Int)(s:LU)(kids r:Tr):Tr:= .nod k s 0 p00 kids .nil r
def tN(s:LU)(r:Tr):Tr:=tO 1 s .nil r
def t1(r:Tr):Tr:= .nod 2 [] 1 p00 .nil .nil r
def kGx:Tr:=tN [103] (tN [120] .nil)
def kFg:Tr:=tN [102] (tO 5 [] kGx .nil)
def kSum:Tr:=tO 5 [] kFg (t1 .nil)
def kCn:Tr:=tN [120] (tO 9 [78,105,108] .nil .nil)
def kLam:Tr:=tO 9 [67,111,110,115] kCn .nil
def kAx:Tr:=tO 9 [65] .nil (tN [120] .nil)
def kX:Tr:=tN [120] .nil
theorem Q6(s:LU)(big:Bool)(h:(decide (s≠[])&&decide (s.length<=24)&&s.all (fun u=>isW (u.toNat:Int))&&(if big then isGr ((asc s).headD 0) else isSm ((asc s).headD 0))&&decide (s ∉ qK)&&decide (s ∉ qS))=true):Qx s big:=by
 simp only[bA,pE,List.all_eq_true]at h;refine⟨h.1.1.1.1.1,h.1.1.1.1.2,h.1.1.1.2,?_,h.1.2,h.2⟩;cases big
 ·simpa using h.1.1.2
 ·simpa using h.1.1.2
theorem qaN(s:LU)(h:Qx s false):mtB (1,s,0)=true:=by unfold mtB;simp only[pE];exact .inl ⟨rfl,h,rfl⟩
theorem qbs(s:LU)(h:Qx s true):mtB (2,s,0)=true:=by unfold mtB;simp only[pE];exact .inr (.inl ⟨rfl,h,rfl⟩)
theorem qjT:mtB (3,[],1)=true:=by unfold mtB;simp only[pE];exact .inr (.inr (.inl ⟨rfl,by decide,by decide,rfl⟩))
theorem qiH:mtB (5,[43],0)=true:=by unfold mtB;simp only[pE];exact .inr (.inr (.inr (.inr (.inl ⟨rfl,.inr (by decide +kernel),rfl⟩))))
theorem n_f:mtB (1,[102],0)=true:=qaN _ (Q6 _ _ (by decide +kernel))
theorem n_g:mtB (1,[103],0)=true:=qaN _ (Q6 _ _ (by decide +kernel))
theorem n_x:mtB (1,[120],0)=true:=qaN _ (Q6 _ _ (by decide +kernel))
theorem n_a:mtB (1,[97],0)=true:=qaN _ (Q6 _ _ (by decide +kernel))
theorem c_A:mtB (2,[65],0)=true:=qbs _ (Q6 _ _ (by decide +kernel))
theorem c_T:mtB (2,[84],0)=true:=qbs _ (Q6 _ _ (by decide +kernel))
theorem qkc:mtB (2,[78,105,108],0)=true:=qbs _ (Q6 _ _ (by decide +kernel))
theorem qjt:mtB (2,[67,111,110,115],0)=true:=qbs _ (Q6 _ _ (by decide +kernel))
theorem qju:mtB (2,[76,105,115,116],0)=true:=qbs _ (Q6 _ _ (by decide +kernel))
theorem qkv:mtB (1,[108,101,116],0)=false:=by
 unfold mtB;simp only[decide_eq_false_iff_not];rintro (⟨_,h,_⟩ | ⟨h,_⟩ | ⟨h,_⟩ | ⟨h,_⟩ | ⟨h,_⟩ | ⟨h,_⟩)
 ·exact h.2.2.2.2.1 (by decide +kernel)
 ·exact absurd h (by decide)
 ·exact absurd h (by decide)
 ·exact absurd h (by decide)
 ·exact absurd h (by decide)
 ·exact absurd h (by decide)
theorem kN(s:LU)(r:Tr)(h:mtB (1,s,0)=true):(tN s r).mayE hEf hPf=r.mayE hEf hPf:=by
 have e:hEf 1 s 0 0 0=true:=by simp[hEf,exR,keepB,h]
 simp[tN,tO,Tr.mayE,Tr.len,e]
theorem kA(kids r:Tr)(h:kids.len=2):(tO 5 [] kids r).mayE hEf hPf=(kids.mayE hEf hPf&&r.mayE hEf hPf):=by
 have e:hEf 5 [] 0 2 0=true:=by simp[hEf,exR,keepB]
 simp[tO,Tr.mayE,Tr.len,h,e]
theorem kC(s:LU)(kids r:Tr)(h:mtB (2,s,0)=true):(tO 9 s kids r).mayE hEf hPf=(kids.mayE hEf hPf&&r.mayE hEf hPf):=by
 have e:hEf 9 s 0 kids.len 0=true:=by simp[hEf,exR,keepB,h]
 simp[tO,Tr.mayE,Tr.len,e]
theorem kL(s:LU)(kids r:Tr)(h:mtB (1,s,0)=true)(hl:kids.len=1):(tO 4 s kids r).mayE hEf hPf=(kids.mayE hEf hPf&&r.mayE hEf hPf):=by
 have e:hEf 4 s 0 1 0=true:=by simp[hEf,exR,keepB,h]
 simp[tO,Tr.mayE,Tr.len,hl,e]
theorem kP(kids r:Tr)(hl:kids.len=2):(tO 10 [43] kids r).mayE hEf hPf=(kids.mayE hEf hPf&&r.mayE hEf hPf):=by
 have b:btwB [43]=true:=by decide +kernel
 have e:hEf 10 [43] 0 2 0=true:=by simp[hEf,exR,keepB,b,qiH]
 simp[tO,Tr.mayE,Tr.len,hl,e]
theorem kI(r:Tr):(t1 r).mayE hEf hPf=r.mayE hEf hPf:=by
 have e:hEf 2 [] 1 0 0=true:=by simp[hEf,exR,keepB,qjT]
 simp[t1,Tr.mayE,Tr.len,e]
theorem qjM:(tO 10 [43] kSum .nil).mayE hEf hPf=true:=by
 rw[kP _ _ rfl,kSum,kA _ _ rfl,kFg,kN _ _ n_f,kA _ _ rfl,kGx,kN _ _ n_g,kN _ _ n_x,kI];rfl
theorem qjL:(tO 4 [120] kLam .nil).mayE hEf hPf=true:=by
 rw[kL _ _ _ n_x rfl,kLam,kC _ _ _ qjt,kCn,kN _ _ n_x,kC _ _ _ qkc];rfl
theorem m_ax:(tO 5 [] kAx .nil).mayE hEf hPf=true:=by
 rw[kA _ _ rfl,kAx,kC _ _ _ c_A,kN _ _ n_x];rfl
theorem m_a:(tO 9 [65] kX .nil).mayE hEf hPf=true:=by
 rw[kC _ _ _ c_A,kX,kN _ _ n_x];rfl
theorem JT{F:List Tn}{s:LU}(h:AllM F)(e:qt (F.map Tn.b)=s)(hl:s.length<=4000):wrO (F.map Tn.b)=(s,0):=by
 unfold wrO;rw[if_pos (fun t ht=>by obtain⟨x,hx,rfl⟩:=List.mem_map.1 ht;exact h x hx),e,if_pos hl]
theorem qkB:wrO ((qe 10 [43] 0 kSum .nil).map Tn.b)=([40,32,102,32,40,32,103,32,120,32,41,32,41,32,43,32,49],0):=by
 have h:=zp _ 0 [] qjM AllM.nil;have e:(tO 10 [43] kSum .nil).exK 0 []=qe 10 [43] 0 kSum .nil:=jh 10 [43] 0 p00 kSum .nil;rw[e]at h;exact JT h (by decide +kernel) (by decide)
theorem qkA:wrO ((qe 4 [120] 0 kLam .nil).map Tn.b)=([92,32,120,32,45,62,32,67,111,110,115,32,120,32,78,105,108],0):=by
 have h:=zp _ 0 [] qjL AllM.nil;have e:(tO 4 [120] kLam .nil).exK 0 []=qe 4 [120] 0 kLam .nil:=jh 4 [120] 0 p00 kLam .nil;rw[e]at h;exact JT h (by decide +kernel) (by decide)
theorem w_ax:wrO ((qe 5 [] 0 kAx .nil).map Tn.b)=([40,32,65,32,41,32,120],0):=by
 have h:=zp _ 0 [] m_ax AllM.nil;have e:(tO 5 [] kAx .nil).exK 0 []=qe 5 [] 0 kAx .nil:=jh 5 [] 0 p00 kAx .nil;rw[e]at h;exact JT h (by decide +kernel) (by decide)
theorem w_a:wrO ((qe 9 [65] 0 kX .nil).map Tn.b)=([65,32,120],0):=by
 have h:=zp _ 0 [] m_a AllM.nil;have e:(tO 9 [65] kX .nil).exK 0 []=qe 9 [65] 0 kX .nil:=jh 9 [65] 0 p00 kX .nil;rw[e]at h;exact JT h (by decide +kernel) (by decide)
theorem qkD:(Tr.nod 5 [] 0 p00 (t1 .nil) .nil .nil).mayE hEf hPf=false:=by
 have e:hEf 5 [] 0 1 0=false:=by simp[hEf,exR,keepB]
 simp[t1,Tr.mayE,Tr.len,e]
theorem qkE:(Tr.nod 1 [108,101,116] 0 p00 .nil .nil .nil).mayE hEf hPf=false:=by
 have e:hEf 1 [108,101,116] 0 0 0=false:=by simp[hEf,exR,keepB,qkv]
 simp[Tr.mayE,Tr.len,e]
theorem qj6:(Tr.nod 8 [] 0 p00 (t1 .nil) .nil .nil).mayE hEf hPf=false:=by
 have e:hEf 8 [] 0 1 0=false:=by simp[hEf,exR,keepB]
 simp[t1,Tr.mayE,Tr.len,e]
def kLa:Tr:= .nod 1 [97] 0 p00 .nil .nil .nil
def kD:Dc:=⟨1,[84],p00,[[97]],[⟨[65],p00,[⟨1,2,[76,105,115,116],0,p00,kLa⟩,⟨2,1,[97],0,p00,.nil⟩]⟩],false,0,[],0,p00,.nil,.nil⟩
theorem qjx:dcMay kD=true:=by
 have h1:hTf 1 [97] 0 0=true:=by simp[hTf,tyR,keepB,n_a]
 have h2:hTf 2 [76,105,115,116] 0 1=true:=by simp[hTf,tyR,keepB,qju]
 have m1:mltB 1=true:=by decide
 have m2:mltB 2=true:=by decide
 have sz:(Dc.tr kD).same JY=true:=by decide +kernel
 have f1:fdMay ⟨1,2,[76,105,115,116],0,p00,kLa⟩=true:=by
  simp[fdMay,m1,Fd.tr,kLa,Tr.pre,zR,hdP,h1,h2,Tr.len]
 have f2:fdMay ⟨2,1,[97],0,p00,.nil⟩=true:=by
  simp[fdMay,m2,Fd.tr,Tr.pre,zR,hdP,h1,Tr.len]
 have e:dcMay kD=daMay kD:=rfl;rw[e];unfold daMay;rw[sz];simp[kD,n_a,c_T,cdMay,f1,f2,c_A]
theorem qke:kD.mok:=by
 refine⟨⟨trivial,⟨trivial,trivial,trivial,trivial,trivial⟩,⟨trivial,trivial,trivial⟩⟩,fun c hc f hf=>?_⟩;simp only[kD,List.mem_singleton]at hc;subst hc;simp only[List.mem_cons,List.not_mem_nil,or_false]at hf;rcases hf with rfl | rfl
 ·exact⟨rfl,⟨rfl,trivial,trivial⟩,trivial⟩
 ·exact⟨rfl,trivial,trivial⟩
theorem w_d:tlO [kD]=([100,97,116,97,32,84,32,97,32,61,32,65,32,49,32,40,32,76,105,115,116,32,97,32,41,32,63,32,97],0):=by
 unfold tlO;rw[if_pos (by simp[qjx])];exact JT (qaB [kD] (fun x hx=>by rw[List.mem_singleton.1 hx];exact⟨qjx,qke⟩)) (by decide +kernel) (by decide)
theorem qfa{w:World}{g:Nat}{x0 x1 x2 x3 x4 x5 x6 x7:Value}(h:w.heap[g]?=some (.cells #[x0,x1,x2,x3,x4,x5,x6,x7] 28 (0,0))):(loadVar 28 ⟨g,0,none⟩).run Tryz.prog w=.ok (.agg #[x0,x1,x2,x3,x4,x5,x6,x7]) w:=by
 have c0:w.cell? ⟨g,0,none⟩=some x0:=by simp[World.cell?,h]
 have c1:w.cell? ⟨g,1,none⟩=some x1:=by simp[World.cell?,h]
 have c2:w.cell? ⟨g,2,none⟩=some x2:=by simp[World.cell?,h]
 have c3:w.cell? ⟨g,3,none⟩=some x3:=by simp[World.cell?,h]
 have c4:w.cell? ⟨g,4,none⟩=some x4:=by simp[World.cell?,h]
 have c5:w.cell? ⟨g,5,none⟩=some x5:=by simp[World.cell?,h]
 have c6:w.cell? ⟨g,6,none⟩=some x6:=by simp[World.cell?,h]
 have c7:w.cell? ⟨g,7,none⟩=some x7:=by simp[World.cell?,h]
 simp[loadVar,go_sem,c0,c1,c2,c3,c4,c5,c6,c7]
theorem zG(S:BA)(w:World):Calls Tryz.prog 12 #[.string S] w (StR (.agg #[.int .u8 1,S,(0:Int),(0:Int),(0:Int),(0:Int),.slice none 0 0,.slice none 0 0]) w):=by
 go_enter Tryz.func12,Tryz.ntmps12;go_wp2_with fail;have hb:Bel w (w.alloc (.cells #[.int .u8 1,S,(0:Int),(0:Int),(0:Int),(0:Int),.slice none 0 0,.slice none 0 0] 28)):=(Bel.refl w).alloc _;have hq:=qfa (blk1 w (.cells #[.int .u8 1,S,(0:Int),(0:Int),(0:Int),(0:Int),.slice none 0 0,.slice none 0 0] 28))
 (try simp only[Exit.inBlock,Exit.then])
 refine bodyPost_ret (qi (v:= .agg #[.int .u8 1,S,(0:Int),(0:Int),(0:Int),(0:Int),.slice none 0 0,.slice none 0 0]) rfl _ _ _ rfl hq) rfl ?_;exact⟨rfl,hb⟩
theorem zv(k:Int)(S:BA)(A:OA)(l c:Nat)(w:World):Calls Tryz.prog 11 #[.int .u8 k,S,.slice A l c] w (StR (.agg #[.int .u8 k,S,(0:Int),(0:Int),(0:Int),(0:Int),.slice A l c,.slice none 0 0]) w):=by
 go_enter Tryz.func11,Tryz.ntmps11;go_wp2_with fail;have hb:Bel w (w.alloc (.cells #[.int .u8 k,S,(0:Int),(0:Int),(0:Int),(0:Int),.slice A l c,.slice none 0 0] 28)):=(Bel.refl w).alloc _;have hq:=qfa (blk1 w (.cells #[.int .u8 k,S,(0:Int),(0:Int),(0:Int),(0:Int),.slice A l c,.slice none 0 0] 28))
 (try simp only[Exit.inBlock,Exit.then])
 refine bodyPost_ret (qi (v:= .agg #[.int .u8 k,S,(0:Int),(0:Int),(0:Int),(0:Int),.slice A l c,.slice none 0 0]) rfl _ _ _ rfl hq) rfl ?_;exact⟨rfl,hb⟩
theorem Jf(k:Int)(s:LU)(n:Int)(A:OA)(l c:Nat)(kids:Tr)(t:LU)(w:World)(hk:KidsTr w (OldT w) .ex A l c kids)(hsz:kids.size<=1000)(hd:(Tr.nod k s n p00 kids .nil .nil).depth<=60)(ht:Tbl w)(hi:(Tr.nod k s n p00 kids .nil .nil).ints)(hm:(Tr.nod k s n p00 kids .nil .nil).mayE hEf hPf=true)(hw:wrO ((qe k s n kids .nil).map Tn.b)=(t,0)) :
  Calls Tryz.prog 13 #[.agg #[.int .u8 k,.string ⟨s.toArray⟩,n,(0:Int),(0:Int),(0:Int),.slice A l c,.slice none 0 0],.string ⟨t.toArray⟩] w (qu true w):=by
 have hl:=hk.1;subst hl;have ha:KidsTr w (OldT w) .arms none 0 0 .nil:=⟨rfl,lR _,fun h=>absurd h (by decide)⟩
 have hem:=QV (k:=k) (s:=s) (n:=n) (p:=p00) (arms:= .nil) hk ha;rw[hm,dT hd]at hem;have hO:txO k s n p00 kids .nil=(t,0):=by unfold txO;rw[hem,<- hw];rfl
 have HT:Hid (∀ W,Bel w W->Calls Tryz.prog 9 #[.agg #[.int .u8 k,.string ⟨s.toArray⟩,n,(0:Int),(0:Int),(0:Int),.slice A kids.len c,.slice none 0 0]] W (StR (.tuple #[.string ⟨t.toArray⟩,(0:Int)]) W)):=hid fun W hW=>by
  have h:=Qg k s n p00 A c none 0 kids .nil W (hk.bel hW) (ha.bel hW) (by simp only[Tr.size];omega) (ht.bel hW) hi;rw[hO]at h;exact h
 obtain⟨SS,hSS⟩:=nW (⟨s.toArray⟩:BA);obtain⟨ST,hST⟩:=nW (⟨t.toArray⟩:BA);obtain⟨kl,hkl⟩:=nW kids.len;rw[<- hSS,<- hST,<- hkl]at HT;rw[<- hSS,<- hST,<- hkl];clear hk hsz hd ht hi hm hw ha hem hO hSS hST hkl;have HB1:Hid (Bel w (w.alloc (.cells #[.int .u8 k,SS,n,(0:Int),(0:Int),(0:Int),.slice A kl c,.slice none 0 0] 28))):=hid ((Bel.refl w).alloc _);go_enter Tryz.func13,Tryz.ntmps13;go_wp2_with fail;refine (HT _ HB1).mono ?_;rintro e w3 ⟨rfl,hb3⟩;have HB3:=hid (HB1.on hb3);clear hb3 HT HB1;go_wp2_with fail;go_ret;exact⟨by simp,HB3⟩
def Okz(w:World)(j:Nat):Prop:=j<w.heap.size/\w.heap[j]?≠some (.cells #[.int .u8 0,.string ⟨#[]⟩,.int .i64 0,.int .i64 0,.int .i64 0,.int .i64 0,.slice none 0 0,.slice none 0 0] 28 (0,0))
theorem Okz.bel{w w':World}(hb:Bel w w')(j:Nat)(h:Okz w j):Okz w' j:=⟨lT h.1 hb.size,by rw[hb.block j h.1];exact h.2⟩
theorem KidsZ.bel{w w':World}{A:OA}{l c:Nat}{f:Tr}(h:KidsTr w (Okz w) .ex A l c f)(hb:Bel w w'):KidsTr w' (Okz w') .ex A l c f:=(h.keep (fun j hj=>hb.block j hj.1)).wide (Okz.bel hb)
theorem jJ{w:World}{F:Tr}{vs:List Value}(h:Tells w (Okz w) .ex F vs)(hz:vs[0]?≠some (.int .u8 0))(m:Nat)(hm:m=F.len)(h0:0<m) :
  KidsTr (w.alloc (.cells vs.toArray 28)) (Okz (w.alloc (.cells vs.toArray 28))) .ex (some ⟨w.heap.size,0,none⟩) m m F:=by
 have hb:Bel w (w.alloc (.cells vs.toArray 28)):=(Bel.refl w).alloc _;refine⟨hm,lR _,fun _=>⟨w.heap.size,0,rfl,⟨by simp,fun e=>hz ?_⟩,?_⟩⟩
 ·rw[blk1]at e
  injection e with e
  injection e with e _ _
  have:=congrArg (fun a:Array Value=>a[0]?) e;simpa using this
 ·refine (h.2.2 _ w.heap.size 0 (fun j u hu=>?_) (fun j hj=>hb.block j hj.1)).wide (Okz.bel hb) _ _ _ _
  unfold World.cell?
  simp only[blk1];simpa using hu
theorem qM(w:World)(Ok:Nat->Prop)(sh:Sh):KidsTr w Ok sh none 0 0 .nil:=⟨rfl,lR _,fun h=>absurd h (by decide)⟩
theorem ZP{w:World}{Ok:Nat->Prop}(k:Int)(s:LU){A:OA}{l c:Nat}{kids:Tr}(h:KidsTr w Ok .ex A l c kids):Tells w Ok .ex (tO k s kids .nil) [.int .u8 k,.string ⟨s.toArray⟩,(0:Int),(0:Int),(0:Int),(0:Int),.slice A l c,.slice none 0 0]:=by
 have hl:=h.1;subst hl;exact Tells.one (sh:= .ex) (by intro e;cases e) (arms:= .nil) (B:=none) (bc:=0) h (.inl ⟨rfl,qM w Ok .arms⟩)
theorem JH{w:World}{Ok:Nat->Prop}(s:LU):Tells w Ok .ex (tN s .nil) [.int .u8 1,.string ⟨s.toArray⟩,(0:Int),(0:Int),(0:Int),(0:Int),.slice none 0 0,.slice none 0 0]:=ZP 1 s (qM w Ok .ex)
theorem qf9{w:World}{Ok:Nat->Prop}:Tells w Ok .ex (t1 .nil) [.int .u8 2,.string ⟨#[]⟩,.int .i64 1,(0:Int),(0:Int),(0:Int),.slice none 0 0,.slice none 0 0]:=
 Tells.one (sh:= .ex) (by intro e;cases e) (kids:= .nil) (arms:= .nil) (A:=none) (c:=0) (B:=none) (bc:=0) (qM w Ok .ex) (.inl ⟨rfl,qM w Ok .arms⟩)
theorem qhf{w:World}{g:Nat}{t:TypeId}{x0 x1 x2 x3 x4 x5 x6 x7:Value}(h:w.heap[g]?=some (.cells #[x0,x1,x2,x3,x4,x5,x6,x7] t (0,0)))(y0 y1 y2 y3 y4 y5 y6 y7:Value) :
  ((((((((w.setCell ⟨g,0,none⟩ y0).setCell ⟨g,1,none⟩ y1).setCell ⟨g,2,none⟩ y2).setCell ⟨g,3,none⟩ y3).setCell ⟨g,4,none⟩ y4).setCell ⟨g,5,none⟩ y5).setCell ⟨g,6,none⟩ y6).setCell ⟨g,7,none⟩ y7).heap[g]?=some (.cells #[y0,y1,y2,y3,y4,y5,y6,y7] t (0,0)):=by
 simp[World.setCell,Array.getElem?_modify,h]
theorem qhg{w:World}{g:Nat}(y0 y1 y2 y3 y4 y5 y6 y7:Value)(j:Nat)(hj:j≠g) :
  ((((((((w.setCell ⟨g,0,none⟩ y0).setCell ⟨g,1,none⟩ y1).setCell ⟨g,2,none⟩ y2).setCell ⟨g,3,none⟩ y3).setCell ⟨g,4,none⟩ y4).setCell ⟨g,5,none⟩ y5).setCell ⟨g,6,none⟩ y6).setCell ⟨g,7,none⟩ y7).heap[j]?=w.heap[j]?:=by
 have e:∀ (w:World) (o:Nat) (v:Value),(w.setCell ⟨g,o,none⟩ v).heap[j]?=w.heap[j]?:=fun w o v=>Below.heap_setCell _ _ _ _ hj;simp only[e]
theorem qgF{w:World}{g:Nat}{t:TypeId}{x0 x1 x2 x3 x4 x5 x6 x7:Value}(h:w.heap[g]?=some (.cells #[x0,x1,x2,x3,x4,x5,x6,x7] t (0,0))) :
  w.frozen? ⟨g,0,none⟩=false/\w.frozen? ⟨g,1,none⟩=false/\w.frozen? ⟨g,2,none⟩=false/\w.frozen? ⟨g,3,none⟩=false/\w.frozen? ⟨g,4,none⟩=false/\w.frozen? ⟨g,5,none⟩=false/\w.frozen? ⟨g,6,none⟩=false/\w.frozen? ⟨g,7,none⟩=false:=by
 simp[World.frozen?,h]
set_option maxHeartbeats 16000000
abbrev zU:= "law.go:27"
abbrev jv:= "law.go:38"
def regKs:List Oper:=[
 ⟨some 13,.call ⟨.value (.func 12),#[.const (Value.string { data:=#[102] })],#[9]⟩,28,zU,#[],none⟩,
 ⟨some 14,.call ⟨.value (.func 12),#[.const (Value.string { data:=#[103] })],#[9]⟩,28,zU,#[⟨0,.chain⟩],none⟩,
 ⟨some 15,.call ⟨.value (.func 12),#[.const (Value.string { data:=#[120] })],#[9]⟩,28,zU,#[⟨1,.chain⟩],none⟩,
 ⟨some 16,.buildSlice 25 2 #[(0,.tmp 14),(1,.tmp 15)],25,zU,#[⟨1,.data⟩,⟨2,.data⟩],none⟩,
 ⟨some 17,.call ⟨.value (.func 11),#[.const (Value.int IntKind.u8 5),.const (Value.string { data:=#[] }),.tmp 16],#[5,9,25]⟩,28,zU,#[⟨3,.data⟩,⟨2,.chain⟩],none⟩,
 ⟨some 18,.buildSlice 25 2 #[(0,.tmp 13),(1,.tmp 17)],25,zU,#[⟨0,.data⟩,⟨4,.data⟩],none⟩,
 ⟨some 19,.call ⟨.value (.func 11),#[.const (Value.int IntKind.u8 5),.const (Value.string { data:=#[] }),.tmp 18],#[5,9,25]⟩,28,zU,#[⟨5,.data⟩,⟨4,.chain⟩],none⟩,
 ⟨some 20,.load 28 (.tmp 1),28,zU,#[],none⟩,
 ⟨some 21,.buildSlice 25 2 #[(0,.tmp 19),(1,.tmp 20)],25,zU,#[⟨6,.data⟩,⟨7,.data⟩],none⟩,
 ⟨some 22,.call ⟨.value (.func 11),#[.const (Value.int IntKind.u8 10),.const (Value.string { data:=#[43] }),.tmp 21],#[5,9,25]⟩,28,zU,#[⟨8,.data⟩,⟨6,.chain⟩],none⟩,
 ⟨some 2,.alloc 28,0,zU,#[],none⟩,
 ⟨none,.store 28 (.tmp 2) (.tmp 22),0,zU,#[⟨10,.data⟩,⟨9,.data⟩,⟨9,.chain⟩,⟨0,.phase⟩,⟨1,.phase⟩,⟨2,.phase⟩,⟨3,.phase⟩,⟨4,.phase⟩,⟨5,.phase⟩,⟨6,.phase⟩,⟨7,.phase⟩,⟨8,.phase⟩,⟨9,.phase⟩,⟨10,.phase⟩],none⟩]
theorem qfy{id:Nat}(b1 B0:Nat)(a0:Act)(w:World)(hx:w.drew.heap[b1]?=some (.cells #[.int .u8 2,.string ⟨#[]⟩,.int .i64 1,(0:Int),(0:Int),(0:Int),.slice none 0 0,.slice none 0 0] 28 (0,0)))(hB0:B0<=w.drew.heap.size)(Q:Exit->Act->World->Prop)
  (hend:∀ (V:Nat->Value) (w':World),Bel w.drew w'->(∃ g,(V 9)=.agg #[.int .u8 10,.string ⟨#[43]⟩,(0:Int),(0:Int),(0:Int),(0:Int),.slice (some ⟨g,0,none⟩) 2 2,.slice none 0 0]/\KidsTr w' (Okz w') .ex (some ⟨g,0,none⟩) 2 2 kSum)->(∃ g,(V 10)=.pointer (some ⟨g,0,none⟩)/\w'.heap[g]?=some (.cells #[.int .u8 0,.string ⟨#[]⟩,(0:Int),(0:Int),(0:Int),(0:Int),.slice none 0 0,.slice none 0 0] 28 (0,0))/\B0<=g)->wpList Tryz.prog regKs.toArray Q (regKs.drop 11) (finP regKs 11 V a0) w') (hN:a0.tmps.size=127:=by kernel_rfl) (hp1:a0.eval (.tmp 1)=.pointer (some ⟨b1,0,none⟩):=by kernel_rfl) :
  (Code.region id regKs.toArray true).wp Tryz.prog Q a0 w:=by
 refine qW 11 127 a0 w (fun i v w=>match i with
  | 0=>v=.agg #[.int .u8 1,.string ⟨#[102]⟩,(0:Int),(0:Int),(0:Int),(0:Int),.slice none 0 0,.slice none 0 0]
  | 1=>v=.agg #[.int .u8 1,.string ⟨#[103]⟩,(0:Int),(0:Int),(0:Int),(0:Int),.slice none 0 0,.slice none 0 0]
  | 2=>v=.agg #[.int .u8 1,.string ⟨#[120]⟩,(0:Int),(0:Int),(0:Int),(0:Int),.slice none 0 0,.slice none 0 0]
  | 3=>∃ g,v=.slice (some ⟨g,0,none⟩) 2 2/\KidsTr w (Okz w) .ex (some ⟨g,0,none⟩) 2 2 kGx
  | 4=>∃ g,v=.agg #[.int .u8 5,.string ⟨#[]⟩,(0:Int),(0:Int),(0:Int),(0:Int),.slice (some ⟨g,0,none⟩) 2 2,.slice none 0 0]/\KidsTr w (Okz w) .ex (some ⟨g,0,none⟩) 2 2 kGx
  | 5=>∃ g,v=.slice (some ⟨g,0,none⟩) 2 2/\KidsTr w (Okz w) .ex (some ⟨g,0,none⟩) 2 2 kFg
  | 6=>∃ g,v=.agg #[.int .u8 5,.string ⟨#[]⟩,(0:Int),(0:Int),(0:Int),(0:Int),.slice (some ⟨g,0,none⟩) 2 2,.slice none 0 0]/\KidsTr w (Okz w) .ex (some ⟨g,0,none⟩) 2 2 kFg
  | 7=>v=.agg #[.int .u8 2,.string ⟨#[]⟩,.int .i64 1,(0:Int),(0:Int),(0:Int),.slice none 0 0,.slice none 0 0]
  | 8=>∃ g,v=.slice (some ⟨g,0,none⟩) 2 2/\KidsTr w (Okz w) .ex (some ⟨g,0,none⟩) 2 2 kSum
  | 9=>∃ g,v=.agg #[.int .u8 10,.string ⟨#[43]⟩,(0:Int),(0:Int),(0:Int),(0:Int),.slice (some ⟨g,0,none⟩) 2 2,.slice none 0 0]/\KidsTr w (Okz w) .ex (some ⟨g,0,none⟩) 2 2 kSum
  | 10=>∃ g,v=.pointer (some ⟨g,0,none⟩)/\w.heap[g]?=some (.cells #[.int .u8 0,.string ⟨#[]⟩,(0:Int),(0:Int),(0:Int),(0:Int),.slice none 0 0,.slice none 0 0] 28 (0,0))/\B0<=g
  | _=>True) (by kernel_rfl) (by kernel_rfl) hN (by
   intro i v w w' hi h hb
   match i,hi,h with
   | 3,_,h=>obtain⟨g,e,hk⟩:=h;exact⟨g,e,KidsZ.bel hk hb⟩
   | 4,_,h=>obtain⟨g,e,hk⟩:=h;exact⟨g,e,KidsZ.bel hk hb⟩
   | 5,_,h=>obtain⟨g,e,hk⟩:=h;exact⟨g,e,KidsZ.bel hk hb⟩
   | 6,_,h=>obtain⟨g,e,hk⟩:=h;exact⟨g,e,KidsZ.bel hk hb⟩
   | 8,_,h=>obtain⟨g,e,hk⟩:=h;exact⟨g,e,KidsZ.bel hk hb⟩
   | 9,_,h=>obtain⟨g,e,hk⟩:=h;exact⟨g,e,KidsZ.bel hk hb⟩
   | 10,_,h=>obtain⟨g,e,hc,hl⟩:=h;exact⟨g,e,hb.blk hc,hl⟩
   | 0,_,h | 1,_,h | 2,_,h | 7,_,h=>exact h
   | q+11,hi,_=>exact absurd hi (by omega)) ?_ ?_
 ·intro i' o hi' ho a w1 V hbel hd hpar K hK
  have p1':=dP (hpar 1 (by kernel_rfl)) hp1;obtain⟨q0,q1,q2,q3,q4,q5,q6,q7⟩:=box8 (hbel.blk hx)
  match i',hi',ho,hd,hK with
  | 0,_,ho,hd,hK=>cases ho;exact oK hK rfl (zG ⟨#[102]⟩ w1) (fun _=>rfl) (by simp[go_sem])
  | 1,_,ho,hd,hK=>cases ho;exact oK hK rfl (zG ⟨#[103]⟩ w1) (fun _=>rfl) (by simp[go_sem])
  | 2,_,ho,hd,hK=>cases ho;exact oK hK rfl (zG ⟨#[120]⟩ w1) (fun _=>rfl) (by simp[go_sem])
  | 3,_,ho,hd,hK=>cases ho;refine oN rfl ?_;exact qX (v:= .slice (some ⟨w1.heap.size,0,none⟩) 2 2) (w':=w1.alloc (.cells #[.int .u8 1,.string ⟨#[103]⟩,(0:Int),(0:Int),(0:Int),(0:Int),.slice none 0 0,.slice none 0 0,.int .u8 1,.string ⟨#[120]⟩,(0:Int),(0:Int),(0:Int),(0:Int),.slice none 0 0,.slice none 0 0] 28)) (by simp[execOp,go_sem,dE (hd 1 14 rfl),dE (hd 2 15 rfl)]) (hK _ _ ((Bel.refl w1).alloc _) ⟨w1.heap.size,rfl,jJ ((JH [103]).app (JH [120])) (by simp) 2 rfl (by decide)⟩)
  | 4,_,ho,hd,hK=>cases ho;obtain⟨⟨g3,hv3,hk3⟩,d3⟩:=hd 3 16 rfl;have e3':=d3.trans hv3;refine oN rfl (zh (f:=11) (args:=#[.int .u8 5,.string { data:=#[] },.slice (some ⟨g3,0,none⟩) 2 2]) (by simp[go_sem,e3']) ((zv 5 ⟨#[]⟩ (some ⟨g3,0,none⟩) 2 2 w1).mono ?_));rintro e w' ⟨rfl,hb⟩;exact⟨_,rfl,hK _ _ hb ⟨_,rfl,KidsZ.bel hk3 hb⟩⟩
  | 5,_,ho,hd,hK=>cases ho;obtain⟨⟨g4,hv4,hk4⟩,d4⟩:=hd 4 17 rfl;have e4':=d4.trans hv4;refine oN rfl ?_;exact qX (v:= .slice (some ⟨w1.heap.size,0,none⟩) 2 2) (w':=w1.alloc (.cells #[.int .u8 1,.string ⟨#[102]⟩,(0:Int),(0:Int),(0:Int),(0:Int),.slice none 0 0,.slice none 0 0,.int .u8 5,.string ⟨#[]⟩,(0:Int),(0:Int),(0:Int),(0:Int),.slice (some ⟨g4,0,none⟩) 2 2,.slice none 0 0] 28)) (by simp[execOp,go_sem,dE (hd 0 13 rfl),e4']) (hK _ _ ((Bel.refl w1).alloc _) ⟨w1.heap.size,rfl,jJ ((JH [102]).app (ZP 5 [] hk4)) (by simp) 2 rfl (by decide)⟩)
  | 6,_,ho,hd,hK=>cases ho;obtain⟨⟨g5,hv5,hk5⟩,d5⟩:=hd 5 18 rfl;have e5':=d5.trans hv5;refine oN rfl (zh (f:=11) (args:=#[.int .u8 5,.string { data:=#[] },.slice (some ⟨g5,0,none⟩) 2 2]) (by simp[go_sem,e5']) ((zv 5 ⟨#[]⟩ (some ⟨g5,0,none⟩) 2 2 w1).mono ?_));rintro e w' ⟨rfl,hb⟩;exact⟨_,rfl,hK _ _ hb ⟨_,rfl,KidsZ.bel hk5 hb⟩⟩
  | 7,_,ho,hd,hK=>cases ho;exact oW hK rfl rfl (by simp[execOp,go_sem,p1',q0,q1,q2,q3,q4,q5,q6,q7])
  | 8,_,ho,hd,hK=>cases ho;obtain⟨⟨g6,hv6,hk6⟩,d6⟩:=hd 6 19 rfl;have e6':=d6.trans hv6;refine oN rfl ?_;exact qX (v:= .slice (some ⟨w1.heap.size,0,none⟩) 2 2) (w':=w1.alloc (.cells #[.int .u8 5,.string ⟨#[]⟩,(0:Int),(0:Int),(0:Int),(0:Int),.slice (some ⟨g6,0,none⟩) 2 2,.slice none 0 0,.int .u8 2,.string ⟨#[]⟩,.int .i64 1,(0:Int),(0:Int),(0:Int),.slice none 0 0,.slice none 0 0] 28)) (by simp[execOp,go_sem,e6',dE (hd 7 20 rfl)]) (hK _ _ ((Bel.refl w1).alloc _) ⟨w1.heap.size,rfl,jJ ((ZP 5 [] hk6).app qf9) (by simp) 2 rfl (by decide)⟩)
  | 9,_,ho,hd,hK=>cases ho;obtain⟨⟨g8,hv8,hk8⟩,d8⟩:=hd 8 21 rfl;have e8':=d8.trans hv8;refine oN rfl (zh (f:=11) (args:=#[.int .u8 10,.string { data:=#[43] },.slice (some ⟨g8,0,none⟩) 2 2]) (by simp[go_sem,e8']) ((zv 10 ⟨#[43]⟩ (some ⟨g8,0,none⟩) 2 2 w1).mono ?_));rintro e w' ⟨rfl,hb⟩;exact⟨_,rfl,hK _ _ hb ⟨_,rfl,KidsZ.bel hk8 hb⟩⟩
  | 10,_,ho,hd,hK=>cases ho;refine oN rfl ?_;exact qX (v:= .pointer (some ⟨w1.heap.size,0,none⟩)) (w':=w1.alloc (.cells #[.int .u8 0,.string ⟨#[]⟩,(0:Int),(0:Int),(0:Int),(0:Int),.slice none 0 0,.slice none 0 0] 28)) (by simp[execOp,go_sem]) (hK _ _ ((Bel.refl w1).alloc _) ⟨w1.heap.size,rfl,blk1 w1 _,lL hB0 hbel.size⟩)
  | q+11,hi,_,_,_=>exact absurd hi (by omega)
 ·intro V w' hb hF
  exact hend V w' hb (hF 9 (by omega)) (hF 10 (by omega))
def regKw:List Oper:=[
 ⟨some 93,.load 28 (.tmp 1),28,jv,#[],none⟩,
 ⟨some 94,.buildSlice 25 1 #[(0,.tmp 93)],25,jv,#[⟨0,.data⟩],none⟩,
 ⟨some 95,.call ⟨.value (.func 11),#[.const (Value.int IntKind.u8 5),.const (Value.string { data:=#[] }),.tmp 94],#[5,9,25]⟩,28,jv,#[⟨1,.data⟩],none⟩,
 ⟨some 96,.call ⟨.value (.func 12),#[.const (Value.string { data:=#[108,101,116] })],#[9]⟩,28,jv,#[⟨2,.chain⟩],none⟩,
 ⟨some 97,.load 28 (.tmp 1),28,jv,#[],none⟩,
 ⟨some 98,.buildSlice 25 1 #[(0,.tmp 97)],25,jv,#[⟨4,.data⟩],none⟩,
 ⟨some 99,.call ⟨.value (.func 11),#[.const (Value.int IntKind.u8 8),.const (Value.string { data:=#[] }),.tmp 98],#[5,9,25]⟩,28,jv,#[⟨5,.data⟩,⟨3,.chain⟩],none⟩,
 ⟨some 100,.buildSlice 25 3 #[(0,.tmp 95),(1,.tmp 96),(2,.tmp 99)],25,jv,#[⟨2,.data⟩,⟨3,.data⟩,⟨6,.data⟩],none⟩,
 ⟨some 101,.call ⟨.builtin Builtin.len,#[.tmp 100],#[25]⟩,3,jv,#[⟨7,.data⟩],none⟩,
 ⟨some 102,.move (.const (Value.int IntKind.i64 0)),3,jv,#[],none⟩]
theorem qfz{id:Nat}(b1:Nat)(a0:Act)(w:World)(hx:w.drew.heap[b1]?=some (.cells #[.int .u8 2,.string ⟨#[]⟩,.int .i64 1,(0:Int),(0:Int),(0:Int),.slice none 0 0,.slice none 0 0] 28 (0,0)))(Q:Exit->Act->World->Prop)
  (hend:∀ (V:Nat->Value) (w':World),Bel w.drew w'->(∃ g,(V 7)=.slice (some ⟨g,0,none⟩) 3 3/\KidsTr w' (Okz w') .ex (some ⟨g,0,none⟩) 3 3 (tO 5 [] (t1 .nil) (tN [108,101,116] (tO 8 [] (t1 .nil) .nil))))->((V 8)=.int .i64 3)->((V 9)=.int .i64 0)->Q .normal (finP regKw 10 V a0) w') (hN:a0.tmps.size=127:=by kernel_rfl) (hp1:a0.eval (.tmp 1)=.pointer (some ⟨b1,0,none⟩):=by kernel_rfl) :
  (Code.region id regKw.toArray true).wp Tryz.prog Q a0 w:=by
 refine qje (l:=regKw) 10 127 a0 w (fun i v w=>match i with
  | 0=>v=.agg #[.int .u8 2,.string ⟨#[]⟩,.int .i64 1,(0:Int),(0:Int),(0:Int),.slice none 0 0,.slice none 0 0]
  | 1=>∃ g,v=.slice (some ⟨g,0,none⟩) 1 1/\KidsTr w (Okz w) .ex (some ⟨g,0,none⟩) 1 1 (t1 .nil)
  | 2=>∃ g,v=.agg #[.int .u8 5,.string ⟨#[]⟩,(0:Int),(0:Int),(0:Int),(0:Int),.slice (some ⟨g,0,none⟩) 1 1,.slice none 0 0]/\KidsTr w (Okz w) .ex (some ⟨g,0,none⟩) 1 1 (t1 .nil)
  | 3=>v=.agg #[.int .u8 1,.string ⟨#[108,101,116]⟩,(0:Int),(0:Int),(0:Int),(0:Int),.slice none 0 0,.slice none 0 0]
  | 4=>v=.agg #[.int .u8 2,.string ⟨#[]⟩,.int .i64 1,(0:Int),(0:Int),(0:Int),.slice none 0 0,.slice none 0 0]
  | 5=>∃ g,v=.slice (some ⟨g,0,none⟩) 1 1/\KidsTr w (Okz w) .ex (some ⟨g,0,none⟩) 1 1 (t1 .nil)
  | 6=>∃ g,v=.agg #[.int .u8 8,.string ⟨#[]⟩,(0:Int),(0:Int),(0:Int),(0:Int),.slice (some ⟨g,0,none⟩) 1 1,.slice none 0 0]/\KidsTr w (Okz w) .ex (some ⟨g,0,none⟩) 1 1 (t1 .nil)
  | 7=>∃ g,v=.slice (some ⟨g,0,none⟩) 3 3/\KidsTr w (Okz w) .ex (some ⟨g,0,none⟩) 3 3 (tO 5 [] (t1 .nil) (tN [108,101,116] (tO 8 [] (t1 .nil) .nil)))
  | 8=>v=.int .i64 3
  | 9=>v=.int .i64 0
  | _=>True) (by kernel_rfl) (by kernel_rfl) hN (by
   intro i v w w' hi h hb
   match i,hi,h with
   | 1,_,h=>obtain⟨g,e,hk⟩:=h;exact⟨g,e,KidsZ.bel hk hb⟩
   | 2,_,h=>obtain⟨g,e,hk⟩:=h;exact⟨g,e,KidsZ.bel hk hb⟩
   | 5,_,h=>obtain⟨g,e,hk⟩:=h;exact⟨g,e,KidsZ.bel hk hb⟩
   | 6,_,h=>obtain⟨g,e,hk⟩:=h;exact⟨g,e,KidsZ.bel hk hb⟩
   | 7,_,h=>obtain⟨g,e,hk⟩:=h;exact⟨g,e,KidsZ.bel hk hb⟩
   | 0,_,h | 3,_,h | 4,_,h | 8,_,h | 9,_,h=>exact h
   | q+10,hi,_=>exact absurd hi (by omega)) ?_ ?_
 ·intro i' o hi' ho a w1 V hbel hd hpar K hK
  have p1':=dP (hpar 1 (by kernel_rfl)) hp1;obtain⟨q0,q1,q2,q3,q4,q5,q6,q7⟩:=box8 (hbel.blk hx)
  match i',hi',ho,hd,hK with
  | 0,_,ho,hd,hK=>cases ho;exact oW hK rfl rfl (by simp[execOp,go_sem,p1',q0,q1,q2,q3,q4,q5,q6,q7])
  | 1,_,ho,hd,hK=>cases ho;refine oN rfl ?_;exact qX (v:= .slice (some ⟨w1.heap.size,0,none⟩) 1 1) (w':=w1.alloc (.cells #[.int .u8 2,.string ⟨#[]⟩,.int .i64 1,(0:Int),(0:Int),(0:Int),.slice none 0 0,.slice none 0 0] 28)) (by simp[execOp,go_sem,dE (hd 0 93 rfl)]) (hK _ _ ((Bel.refl w1).alloc _) ⟨w1.heap.size,rfl,jJ (qf9) (by simp) 1 rfl (by decide)⟩)
  | 2,_,ho,hd,hK=>cases ho;obtain⟨⟨g1,hv1,hk1⟩,d1⟩:=hd 1 94 rfl;have e1':=d1.trans hv1;refine oN rfl (zh (f:=11) (args:=#[.int .u8 5,.string { data:=#[] },.slice (some ⟨g1,0,none⟩) 1 1]) (by simp[go_sem,e1']) ((zv 5 ⟨#[]⟩ (some ⟨g1,0,none⟩) 1 1 w1).mono ?_));rintro e w' ⟨rfl,hb⟩;exact⟨_,rfl,hK _ _ hb ⟨_,rfl,KidsZ.bel hk1 hb⟩⟩
  | 3,_,ho,hd,hK=>cases ho;exact oK hK rfl (zG ⟨#[108,101,116]⟩ w1) (fun _=>rfl) (by simp[go_sem])
  | 4,_,ho,hd,hK=>cases ho;exact oW hK rfl rfl (by simp[execOp,go_sem,p1',q0,q1,q2,q3,q4,q5,q6,q7])
  | 5,_,ho,hd,hK=>cases ho;refine oN rfl ?_;exact qX (v:= .slice (some ⟨w1.heap.size,0,none⟩) 1 1) (w':=w1.alloc (.cells #[.int .u8 2,.string ⟨#[]⟩,.int .i64 1,(0:Int),(0:Int),(0:Int),.slice none 0 0,.slice none 0 0] 28)) (by simp[execOp,go_sem,dE (hd 4 97 rfl)]) (hK _ _ ((Bel.refl w1).alloc _) ⟨w1.heap.size,rfl,jJ (qf9) (by simp) 1 rfl (by decide)⟩)
  | 6,_,ho,hd,hK=>cases ho;obtain⟨⟨g5,hv5,hk5⟩,d5⟩:=hd 5 98 rfl;have e5':=d5.trans hv5;refine oN rfl (zh (f:=11) (args:=#[.int .u8 8,.string { data:=#[] },.slice (some ⟨g5,0,none⟩) 1 1]) (by simp[go_sem,e5']) ((zv 8 ⟨#[]⟩ (some ⟨g5,0,none⟩) 1 1 w1).mono ?_));rintro e w' ⟨rfl,hb⟩;exact⟨_,rfl,hK _ _ hb ⟨_,rfl,KidsZ.bel hk5 hb⟩⟩
  | 7,_,ho,hd,hK=>cases ho;obtain⟨⟨g2,hv2,hk2⟩,d2⟩:=hd 2 95 rfl;have e2':=d2.trans hv2;obtain⟨⟨g6,hv6,hk6⟩,d6⟩:=hd 6 99 rfl;have e6':=d6.trans hv6;refine oN rfl ?_;exact qX (v:= .slice (some ⟨w1.heap.size,0,none⟩) 3 3) (w':=w1.alloc (.cells #[.int .u8 5,.string ⟨#[]⟩,(0:Int),(0:Int),(0:Int),(0:Int),.slice (some ⟨g2,0,none⟩) 1 1,.slice none 0 0,.int .u8 1,.string ⟨#[108,101,116]⟩,(0:Int),(0:Int),(0:Int),(0:Int),.slice none 0 0,.slice none 0 0,.int .u8 8,.string ⟨#[]⟩,(0:Int),(0:Int),(0:Int),(0:Int),.slice (some ⟨g6,0,none⟩) 1 1,.slice none 0 0] 28)) (by simp[execOp,go_sem,e2',dE (hd 3 96 rfl),e6']) (hK _ _ ((Bel.refl w1).alloc _) ⟨w1.heap.size,rfl,jJ (((ZP 5 [] hk2).app (JH [108,101,116])).app (ZP 8 [] hk6)) (by simp) 3 rfl (by decide)⟩)
  | 8,_,ho,hd,hK=>cases ho;obtain⟨⟨g7,hv7,hk7⟩,d7⟩:=hd 7 100 rfl;have e7':=d7.trans hv7;refine oN rfl ?_;exact wV (by simp[go_sem,e7']) hK rfl
  | 9,_,ho,hd,hK=>cases ho;exact oW hK rfl rfl (by simp[execOp,go_sem])
  | q+10,hi,_,_,_=>exact absurd hi (by omega)
 ·intro V w' hb hF
  exact hend V w' hb (hF 7 (by omega)) (hF 8 (by omega)) (hF 9 (by omega))
end Go.Proofs.YtmloadclmjcbbaaGreatDoor.Mu
