import Derived.ArgAppend
import Derived.WalkKit
import Derived.Laws.BitsAllLaws
import Derived.Below
import Derived.Calls
import Derived.Laws.OwnMore
import Derived.Deep.AppendLies
import Derived.Deep.Draws
import Derived.Lib.Hide
import Derived.Laws.AppendOwn
import Derived.OwnWalk
namespace Go.Proofs.YtfpoelklhekfaaaGreatDoor.Mu
open Go
instance:Coe Int Value:=⟨fun n=> .int .i64 n⟩
instance:Coe Nat Value:=⟨fun n=> .int .i64 (n:Int)⟩
instance:Coe ByteArray Value:=⟨fun s=> .string s⟩
theorem oC{x:Value}(h:x.oneCell'=true):∃ v:Value,v=x ∧ v.oneCell'=true:=⟨_,rfl,h⟩
end Go.Proofs.YtfpoelklhekfaaaGreatDoor.Mu
namespace Go.Proofs.YtfpoelklhekfaaaGreatDoor.Mu
open Go.RowKit
end Go.Proofs.YtfpoelklhekfaaaGreatDoor.Mu
namespace Go.Proofs.YtfpoelklhekfaaaGreatDoor.Mu
open Go.RowKit
structure Raw where
 nv:Bool
 c:Int
 A:Option Addr
 n:Nat
 k:Nat
end Go.Proofs.YtfpoelklhekfaaaGreatDoor.Mu
namespace Go.Proofs.YtfpoelklhekfaaaGreatDoor.Mu
open Go.RowKit
def Bel(w w':World):Prop:=Below w.heap.size w w'
theorem Bel.refl(w:World):Bel w w:=Below.refl _ _
theorem Bel.on{a b c:World}(h:Bel a b)(k:Bel b c):Bel a c:=Below.trans h (Below.mono k h.size)
theorem Bel.alloc{a b:World}(h:Bel a b)(o:Obj):Bel a (b.alloc o):=Below.alloc h h.size o
theorem Bel.set_{a b:World}(h:Bel a b){p:Addr}(hp:a.heap.size<=p.block)(v:Value):Bel a (b.setCell p v):=Below.setCell h hp v
theorem Bel.drewN{a b:World}(h:Bel a b)(n:Nat):Bel a (b.drewN n):=⟨h.os,h.tape,h.output,h.size,h.block⟩
theorem Bel.drew{a b:World}(h:Bel a b):Bel a b.drew:=⟨h.os,h.tape,h.output,h.size,h.block⟩
theorem Bel.cells{w w1:World}(h:Bel w w1):(∀ b o,b<w.heap.size->w1.cell? ⟨b,o,none⟩=w.cell? ⟨b,o,none⟩)/\(∀ b o,b<w.heap.size->w1.frozen? ⟨b,o,none⟩=w.frozen? ⟨b,o,none⟩):=
 ⟨fun b o hb=>h.cell (p:=⟨b,o,none⟩) hb,fun b o hb=>h.frozen (p:=⟨b,o,none⟩) hb⟩
theorem jo{w:World}{g:Nat}{t:TypeId}{x y z:Value}(h:w.heap[g]?=some (.cells #[x,y,z] t (0,0))) :
  w.cell? ⟨g,0,none⟩=some x/\w.cell? ⟨g,1,none⟩=some y/\w.cell? ⟨g,2,none⟩=some z/\w.frozen? ⟨g,0,none⟩=false/\w.frozen? ⟨g,1,none⟩=false/\w.frozen? ⟨g,2,none⟩=false:=by
 simp[World.cell?,World.frozen?,h]
theorem Bel.blk{w w1:World}(h:Bel w w1){g:Nat}{o:Obj}(hg:w.heap[g]?=some o):w1.heap[g]?=some o:=by
 have hlt:g<w.heap.size:=by
  rcases Nat.lt_or_ge g w.heap.size with h' | h'
  ·exact h'
  ·rw[Array.getElem?_eq_none h']at hg;cases hg
 rw[h.block g hlt];exact hg
theorem blk1(w:World)(o:Obj):(w.alloc o).heap[w.heap.size]?=some o:=heap_alloc_new w o
theorem blk2(w:World)(o o2:Obj):((w.alloc o).alloc o2).heap[w.heap.size]?=some o/\((w.alloc o).alloc o2).heap[w.heap.size+1]?=some o2:=by
 refine⟨((Bel.refl _).alloc o2).blk (blk1 w o),?_⟩;have:=blk1 (w.alloc o) o2;simpa using this
theorem blk3(w:World)(o o2 o3:Obj):(((w.alloc o).alloc o2).alloc o3).heap[w.heap.size]?=some o/\(((w.alloc o).alloc o2).alloc o3).heap[w.heap.size+1]?=some o2/\(((w.alloc o).alloc o2).alloc o3).heap[w.heap.size+2]?=some o3:=by
 have h:=blk2 w o o2;refine⟨((Bel.refl _).alloc o3).blk h.1,((Bel.refl _).alloc o3).blk h.2,?_⟩;have:=blk1 ((w.alloc o).alloc o2) o3;simpa using this
def RI(kd:IntKind)(w:World)(B:Nat)(A:Option Addr)(n:Nat)(l:List Int):Prop:=
 n=l.length/\(0<n->∃ b off,A=some ⟨b,off,none⟩/\b<B/\∀ k,k<n->w.cell? ⟨b,off+k,none⟩=some (.int kd (l[k]?.getD 0)))
section
variable {kd : IntKind} {w w' : World} {B B' n : Nat} {A : Option Addr} {l : List Int}
theorem RI.nil_:RI kd w B A 0 []:=⟨rfl,fun h=>absurd h (by omega)⟩
theorem RI.len(h:RI kd w B A n l):n=l.length:=h.1
theorem RI.at_(h:RI kd w B A n l)(hn:0<n):∃ b off,A=some ⟨b,off,none⟩/\b<B/\∀ k,k<n->w.cell? ⟨b,off+k,none⟩=some (.int kd (l[k]?.getD 0)):=h.2 hn
theorem RI.keep(h:RI kd w B A n l)(hk:∀ b o,b<B->w'.cell? ⟨b,o,none⟩=w.cell? ⟨b,o,none⟩):RI kd w' B A n l:=
 ⟨h.1,fun hn=>by
  obtain⟨b,off,e,hb,hc⟩:=h.2 hn;exact⟨b,off,e,hb,fun k hk'=>(hk _ _ hb).trans (hc k hk')⟩⟩
theorem RI.more(h:RI kd w B A n l)(hB:B<=B'):RI kd w B' A n l:=
 ⟨h.1,fun hn=>by
  obtain⟨b,off,e,hb,hc⟩:=h.2 hn;exact⟨b,off,e,by omega,hc⟩⟩
theorem RI.below(h:RI kd w B A n l)(hb:Below B w w'):RI kd w' B A n l:=h.keep fun b o hp=>hb.cell (p:=⟨b,o,none⟩) hp
theorem RI.bel(h:RI kd w w.heap.size A n l)(hb:Bel w w'):RI kd w' w'.heap.size A n l:=(h.below hb).more hb.size
theorem RI.drewN(h:RI kd w B A n l)(k:Nat):RI kd (w.drewN k) B A n l:=h
theorem RI.alloc(h:RI kd w w.heap.size A n l)(o:Obj):RI kd (w.alloc o) (w.alloc o).heap.size A n l:=h.bel ((Bel.refl w).alloc o)
theorem RI.lt(h:RI kd w B A n l)(hB:B<=w.heap.size):RI kd w w.heap.size A n l:=h.more hB
theorem RI.of_own{base:Nat}{e:TypeId}{c:Nat}(h:w.ownsRow base e 1 (.slice A n c) n (l.map (Value.int kd))):RI kd w w.heap.size A n l:=by
 refine⟨by simpa using h.1.symm,fun hn=>?_⟩;obtain⟨g,cap,hv,_,hlt⟩:=h.form hn;have hA:A=some ⟨g,0,none⟩:=by injection hv
 subst hA;refine⟨g,0,rfl,hlt,fun k hk=>?_⟩;have hl:l.length=n:=by simpa using h.1
 have:=h.cells (g:=g) rfl k (.int kd (l[k]?.getD 0)) (by simp[List.getElem?_map,List.getElem?_eq_getElem (show k<l.length by omega)]);have e:(⟨g,0,none⟩:Addr).add k=⟨g,0+k,none⟩:=by unfold Addr.add;split <;> simp_all
 rw[<- e];exact this
theorem RI.set_(h:RI kd w B A n l){p:Addr}(hp:B<=p.block)(v:Value):RI kd (w.setCell p v) B A n l:=
 h.keep fun b o hb=>World.cell?_setCell_other w p ⟨b,o,none⟩ v (fun e=>by subst e;exact absurd hp (by simp;omega))
def RT(w:World)(B:Nat)(A:Option Addr)(n:Nat)(rs:List Raw):Prop:=
 n=rs.length/\(0<n->∃ b off,A=some ⟨b,off,none⟩/\b<B/\∀ k r,rs[k]?=some r->w.cell? ⟨b,off+k*3,none⟩=some (.bool r.nv)/\w.cell? ⟨b,off+k*3+1,none⟩=some (.int .u8 r.c)/\w.cell? ⟨b,off+k*3+2,none⟩=some (.slice r.A r.n r.k))
theorem RT.nil_:RT w B A 0 []:=⟨rfl,fun h=>absurd h (by omega)⟩
theorem RT.len{rs:List Raw}(h:RT w B A n rs):n=rs.length:=h.1
theorem RT.at_{rs:List Raw}(h:RT w B A n rs)(hn:0<n):∃ b off,A=some ⟨b,off,none⟩/\b<B/\∀ k r,rs[k]?=some r->w.cell? ⟨b,off+k*3,none⟩=some (.bool r.nv)/\w.cell? ⟨b,off+k*3+1,none⟩=some (.int .u8 r.c)/\w.cell? ⟨b,off+k*3+2,none⟩=some (.slice r.A r.n r.k):=h.2 hn
theorem RT.keep{rs:List Raw}(h:RT w B A n rs)(hk:∀ b o,b<B->w'.cell? ⟨b,o,none⟩=w.cell? ⟨b,o,none⟩):RT w' B A n rs:=
 ⟨h.1,fun hn=>by
  obtain⟨b,off,e,hb,hc⟩:=h.2 hn;exact⟨b,off,e,hb,fun k r hr=>by rw[hk _ _ hb,hk _ _ hb,hk _ _ hb];exact hc k r hr⟩⟩
theorem RT.more{rs:List Raw}(h:RT w B A n rs)(hB:B<=B'):RT w B' A n rs:=
 ⟨h.1,fun hn=>by
  obtain⟨b,off,e,hb,hc⟩:=h.2 hn;exact⟨b,off,e,by omega,hc⟩⟩
theorem RT.below{rs:List Raw}(h:RT w B A n rs)(hb:Below B w w'):RT w' B A n rs:=h.keep fun b o hp=>hb.cell (p:=⟨b,o,none⟩) hp
theorem RT.bel{rs:List Raw}(h:RT w w.heap.size A n rs)(hb:Bel w w'):RT w' w'.heap.size A n rs:=(h.below hb).more hb.size
end
end Go.Proofs.YtfpoelklhekfaaaGreatDoor.Mu
namespace Go.Proofs.YtfpoelklhekfaaaGreatDoor.Mu
open Go.RowKit
section
variable {P : Program} {w : World}
end
end Go.Proofs.YtfpoelklhekfaaaGreatDoor.Mu
namespace Go.Proofs.YtfpoelklhekfaaaGreatDoor.Mu
open Go.RowKit
theorem zf{w:World}{base e size n:Nat}{v:Value}{xs:List Value}(h:w.ownsRow base e size v n xs):∃ A c,v=.slice A n c:=by
 rcases h.2 with ⟨rfl,rfl⟩ | ⟨g,cap,_,rfl,_⟩
 ·exact⟨_,_,rfl⟩
 ·exact⟨_,_,rfl⟩
section
variable {P : Program} {w : World}
theorem qr{ops:Array Oper}{rest:List Oper}{o:Oper}{a:Act}{Q:Exit->Act->World->Prop}(hgd:o.guard=none)(s x:Operand)(t:TypeId)
  (ho:o.op=.call { callee:= .builtin .append,args:=#[s,x],argTypes:=#[t,t] })
  (base:Nat) (e:TypeId) (z:Value) (size bytes:Nat) (ht:P.underlying t=some (.slice e)) (hinfo:(P.info? e).map (fun i=>(i.zero,i.size,i.bytes))=some (some z,size,bytes))
  (hzs:z.cells.size=size) (hsz:0<size) (hby:bytes<=1000)
  (A:Option Addr) (n c:Nat) (xs:List Value) (hs:a.eval s=.slice A n c) (hown:w.ownsRow base e size (.slice A n c) n xs)
  (b:Nat) (news:List Value) (hx:a.eval x=.slice (some ⟨b,0,none⟩) 1 1) (hl:news.length=size) (hnews:∀ j u,news[j]?=some u->w.cell? ⟨b,j,none⟩=some u) (h1:∀ u∈news,u.oneCell'=true)
  (hmax:n<=1000000000) (hbase:base<=w.heap.size)
  (h:∀ A' c' w',w'.ownsRow base e size (.slice A' (n+1) c') (n+1) (xs++news)->w.grownBy w' (Value.slice A n c).ownBlock->wpList P ops Q rest (a.put o.dst (.slice A' (n+1) c')) w'):wpList P ops Q (o::rest) a w:=by
 obtain⟨i,hi,hz0,hz1,hz2⟩:=info_parts hinfo;refine wpList_append_own w hgd s x t ho base e i z size bytes ht hi hz0 hz1 hz2 hzs hsz _ n _ hs hown ⟨b,0,none⟩ 1 1 news hx (by omega) ?_ h1 (by unfold maxLen;omega) ?_ hbase ?_
 ·intro j u hu
  rw[Addr.add_lit];simpa using hnews j u hu
 ·calc (n+1)*bytes<=1000000001*1000:=Nat.mul_le_mul (by omega) hby
   _<=_:=by omega
 ·intro v' w' hown' hg _
  obtain⟨A',c',rfl⟩:=zf hown';exact h A' c' w' hown' hg
end
theorem qp{w w':World}{base e size n:Nat}{v:Value}{xs:List Value}(h:w.ownsRow base e size v n xs)(hb:Bel w w'):w'.ownsRow base e size v n xs:=
 h.kept (row:=none) ⟨hb.os,hb.tape,hb.output,hb.size,fun k hk _=>hb.block k hk⟩ (by cases h:v.ownBlock <;> simp)
def strs(xs:List (List UInt8)):List Value:=xs.map fun l=> .string ⟨l.toArray⟩
theorem qei(xs:List (List UInt8))(l:List UInt8):strs (xs++[l])=strs xs++[.string ⟨l.toArray⟩]:=by simp[strs]
theorem Jm(xs:List (List UInt8)):(strs xs).length=xs.length:=by simp[strs]
theorem qE(w:World)(v:Value)(t:TypeId):∀ j u,[v][j]?=some u->(w.alloc (.cells #[v] t)).cell? ⟨w.heap.size,j,none⟩=some u:=by
 intro j u hu;match j,hu with
 | 0,hu=>simp at hu;subst hu;simp
theorem ZL{w:World}{base e n c:Nat}{A:Option Addr}{xs:List (List UInt8)}(h:w.ownsRow base e 1 (.slice A n c) n (strs xs))(hn:xs≠[]) :
  ∃ g,A=some ⟨g,0,none⟩/\g<w.heap.size/\n=xs.length/\n<=c/\∀ (j:Nat) (x:ByteArray),(xs.map fun l=>(⟨l.toArray⟩:ByteArray))[j]?=some x->w.cell? ⟨g,0+j,none⟩=some (.string x):=by
 have hl:n=xs.length:=by have:=h.1;rw[Jm]at this;omega
 have hpos:0<n:=by
  rcases Nat.eq_zero_or_pos n with h0 | h0
  ·exact absurd (List.eq_nil_of_length_eq_zero (by omega)) hn
  ·exact h0
 obtain⟨g,cap,hv,_,hlt⟩:=h.form hpos;injection hv with h1 _ h2
 subst h1;refine⟨g,rfl,hlt,hl,?_,fun j x hx=>?_⟩
 ·rcases h.2 with ⟨h,_⟩ | ⟨g',cap',cur,h',_,_,hc,_⟩
  ·injection h with h _ _;cases h
  ·injection h' with _ _ h';omega
 ·have:=h.cells (g:=g) rfl j (.string x) (by
   simp only[List.getElem?_map,Option.map_eq_some_iff]at hx;obtain⟨l,hl,rfl⟩:=hx;simp[strs,List.getElem?_map,hl])
  rw[Addr.add_lit]at this;exact this
end Go.Proofs.YtfpoelklhekfaaaGreatDoor.Mu
