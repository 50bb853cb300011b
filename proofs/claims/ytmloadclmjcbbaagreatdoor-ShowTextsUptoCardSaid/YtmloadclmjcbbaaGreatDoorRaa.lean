import Derived.ArgAppend
import Derived.Below
import Derived.Laws.Cover4
import Derived.Laws.RangeAny
import Derived.WalkKit
import Derived.Laws.BitsAllLaws
import Derived.Calls
import Derived.Laws.OwnMore
import Derived.Deep.AppendLies
import Derived.Deep.Draws
import Derived.Lib.Hide
import Derived.Laws.AppendOwn
import Derived.OwnWalk
import Derived.Test.YtmloadclmjcbbaaGreatDoorShelf
import Derived.Lib.Small
import Derived.Deep.QuietTactic
import Derived.BigQuiet
import Derived.StillTailTactics
import Derived.Laws.StructEq
import Derived.IntWalk
import Derived.WalkLawsBesides
import Derived.Laws.BytesString
import Derived.Deep.OwnRows
import Derived.LoopN
import Derived.Lib.Strings
import Derived.Laws.DeepStrings4
import Derived.Lib.OthersKept
import Derived.WalkSpells
import Derived.Laws.Concat
open Go.Lib (hid)
namespace Go.Proofs.YtmloadclmjcbbaaGreatDoor.Mu
open Go
instance:Coe Int Value:=⟨fun n=> .int .i64 n⟩
instance:Coe Nat Value:=⟨fun n=> .int .i64 (n:Int)⟩
instance:Coe ByteArray Value:=⟨fun s=> .string s⟩
theorem oC{x:Value}(h:x.oneCell'=true):∃ v:Value,v=x ∧ v.oneCell'=true:=⟨_,rfl,h⟩
abbrev OA:=Option Addr
abbrev LU:=List UInt8
abbrev BA:=ByteArray
theorem nW{α:Sort _}(x:α):∃ y,y=x:=⟨x,rfl⟩
theorem aJ{α:Type _}{xs:Array α}{i:Nat}{b:α}:xs[i]?=some b ↔ ∃ h:i<xs.size,xs[i]=b:=Array.getElem?_eq_some_iff
theorem eJ{α:Type _}{xs:List α}{i:Nat}{b:α}:xs[i]?=some b ↔ ∃ h:i<xs.length,xs[i]=b:=List.getElem?_eq_some_iff
theorem eG{α:Type _}{l:List α}{i:Nat}(h:i<l.length):l[i]?=some l[i]:=List.getElem?_eq_getElem h
theorem lA{α:Type _}{ks bs:List α}:(ks++bs).length=ks.length+bs.length:=List.length_append
theorem lC{α:Type _}{a:α}{ks:List α}:(a::ks).length=ks.length+1:=List.length_cons
theorem lT{n m k:Nat}(h:n<m)(g:m ≤ k):n<k:=Nat.lt_of_lt_of_le h g
theorem lR(n:Nat):n ≤ n:=Nat.le_refl n
theorem lL{n m k:Nat}(h:n ≤ m)(g:m ≤ k):n ≤ k:=Nat.le_trans h g
theorem zL(n:Nat):0 ≤ n:=Nat.zero_le n
theorem bA(a b:Bool):((a&&b)=true)=(a=true ∧ b=true):=Bool.and_eq_true a b
theorem dF{p:Prop}[Decidable p](h:¬p):decide p=false:=decide_eq_false h
theorem dT{p:Prop}[Decidable p](h:p):decide p=true:=decide_eq_true h
theorem pE{p:Prop}[Decidable p]:(decide p=true)=p:=decide_eq_true_eq
theorem jA{α:Type _}{n:Nat}{a:α}{ks:List α}:(a::ks).take (n+1)=a::ks.take n:=List.take_succ_cons
theorem jB{α:Type _}{l:List α}:l.take 0=[]:=List.take_zero
theorem jC{α:Type _}{l:List α}{i:Nat}{a:α}:l.toArray.setIfInBounds i a=(l.set i a).toArray:=List.setIfInBounds_toArray ..
theorem jD{α:Type _}{a b:α}{ks:List α}{n:Nat}:(a::ks).set (n+1) b=a::ks.set n b:=List.set_cons_succ
theorem jE{α:Type _}{a b:α}{ks:List α}:(a::ks).set 0 b=b::ks:=List.set_cons_zero
theorem jF{α:Type _}{a:α}{l:List α}{i:Nat}:(a::l).drop (i+1)=l.drop i:=List.drop_succ_cons
theorem jG{α:Type _}{l:List α}:l.drop 0=l:=List.drop_zero
theorem mGg{α:Type _}{l:List α}{i:Nat}{a:α}(h:l[i]?=some a):a∈l:=List.mem_of_getElem? h
theorem dNn{α:Type _}{ks:List α}{i:Nat}(h:ks.length ≤ i):ks.drop i=[]:=List.drop_eq_nil_of_le h
theorem zPp(n:Nat):n=0∨0<n:=Nat.eq_zero_or_pos n
theorem mCc{α:Type _}{a:α}{l:List α}(y:α)(h:a∈l):a∈y::l:=List.mem_cons_of_mem y h
theorem cAa{α:Type _}{a:α}{ks bs:List α}:a::ks++bs=a::(ks++bs):=List.cons_append
theorem lNn{α:Type _}:([]:List α).length=0:=List.length_nil
theorem aNn{α:Type _}(ks:List α):ks++[]=ks:=List.append_nil ks
theorem aAa{α:Type _}(ks bs cs:List α):ks++bs++cs=ks++(bs++cs):=List.append_assoc ks bs cs
theorem nZz(n:Nat):n+0=n:=Nat.add_zero n
theorem dDd{p q:Prop}[Decidable p][Decidable q]:decide p=decide q↔(p↔q):=decide_eq_decide
theorem tSs{α:Type _}{l:List α}{i:Nat}(h:i<l.length):l.take (i+1)=l.take i++[l[i]]:=List.take_succ_eq_append_getElem h
theorem gDd{α:Type _}{xs:Array α}{i:Nat}{d:α}:xs.getD i d=xs[i]?.getD d:=Array.getD_eq_getD_getElem? ..
theorem mS{n j:Nat}(h:j<n):n-(RowKit.intOf (.int .i64 ((j:Int)+1))).toNat<n-(RowKit.intOf (.int .i64 (j:Int))).toNat:=by simp[RowKit.intOf];omega
set_option maxHeartbeats 2000000
def enc(c:Int):List UInt8:=(Utf8.encode c).data.toList
def encs(l:List Int):List UInt8:=l.flatMap enc
def wid(c:Int):Nat:=if c<128 then 1 else if c<2048 then 2 else if c<65536 then 3 else 4
def cpB(c:Int):Bool:=decide ((0<=c/\c<55296)∨(57344<=c/\c<=1114111))
theorem qT(c:Int):cpB c=true↔(0<=c/\c<55296)∨(57344<=c/\c<=1114111):=by simp[cpB]
theorem jl(c:Int):Utf8.valid c=cpB c:=by
 rw[Bool.eq_iff_iff,qT];simp[Utf8.valid]
theorem enc1{c:Int}(h0:0<=c)(h:c<128):enc c=[UInt8.ofNat c.toNat]:=by
 have hv:Utf8.valid c=true:=by rw[jl,qT];omega
 simp[enc,Utf8.encode,hv,show c.toNat<128 by omega]
theorem enc2{c:Int}(h0:128<=c)(h:c<2048):enc c=[UInt8.ofNat (192+c.toNat / 64),UInt8.ofNat (128+c.toNat % 64)]:=by
 have hv:Utf8.valid c=true:=by rw[jl,qT];omega
 simp[enc,Utf8.encode,hv,show ¬ c.toNat<128 by omega,show c.toNat<2048 by omega]
theorem enc3{c:Int}(hc:cpB c=true)(h0:2048<=c)(h:c<65536):enc c=[UInt8.ofNat (224+c.toNat / 4096),UInt8.ofNat (128+c.toNat / 64 % 64),UInt8.ofNat (128+c.toNat % 64)]:=by
 have hv:Utf8.valid c=true:=by rw[jl,hc]
 simp[enc,Utf8.encode,hv,show ¬ c.toNat<128 by omega,show ¬ c.toNat<2048 by omega,show c.toNat<65536 by omega]
theorem enc4{c:Int}(hc:cpB c=true)(h0:65536<=c):enc c=[UInt8.ofNat (240+c.toNat / 262144),UInt8.ofNat (128+c.toNat / 4096 % 64),UInt8.ofNat (128+c.toNat / 64 % 64),UInt8.ofNat (128+c.toNat % 64)]:=by
 have hv:Utf8.valid c=true:=by rw[jl,hc]
 simp[enc,Utf8.encode,hv,show ¬ c.toNat<128 by omega,show ¬ c.toNat<2048 by omega,show ¬ c.toNat<65536 by omega]
theorem zF{c:Int}(hc:cpB c=true):(enc c).length=wid c:=by
 have h:=(qT c).1 hc;unfold wid;split
 ·rw[enc1 (by omega) (by omega)];rfl
 split
 ·rw[enc2 (by omega) (by omega)];rfl
 split
 ·rw[enc3 hc (by omega) (by omega)];rfl
 ·rw[enc4 hc (by omega)];rfl
theorem zn(c:Int):1<=wid c/\wid c<=4:=by unfold wid;(repeat' split) <;> omega
theorem qaE{s:ByteArray}{i:Nat}{l:List UInt8}(h:l <+: s.data.toList.drop i){j:Nat}{u:UInt8}(hj:l[j]?=some u):i+j<s.size/\s.get! (i+j)=u:=by
 obtain⟨r,hr⟩:=h;have h1:(s.data.toList.drop i)[j]?=some u:=by
  rw[<- hr,List.getElem?_append_left (List.getElem?_eq_some_iff.1 hj).1];exact hj
 rw[List.getElem?_drop]at h1;obtain⟨h2,h3⟩:=List.getElem?_eq_some_iff.1 h1;have h4:i+j<s.size:=by rw[Array.length_toList]at h2;exact h2
 refine⟨h4,?_⟩;have h5:=get_at s (i+j) h4;rw[Nat.add_zero]at h5;rw[h5];exact h3
theorem QU{s:ByteArray}{i:Nat}:∀ {l:List UInt8},(∀ (j:Nat) (u:UInt8),l[j]?=some u->i+j<s.size/\s.get! (i+j)=u)->l <+: s.data.toList.drop i
 | [],_=>List.nil_prefix
 | u::l,h=>by
  obtain⟨h1,h2⟩:=h 0 u rfl;have h5:=get_at s i h1;have h6:s.data.toList.drop i=s[i]'h1::s.data.toList.drop (i+1):=by
   have:i<s.data.toList.length:=by rw[Array.length_toList];exact h1
   rw[List.drop_eq_getElem_cons this];rfl
  rw[h6,<- h5,h2];have:=QU (s:=s) (i:=i+1) (l:=l) (fun j v hj=>by
   have:=h (j+1) v (by simpa using hj);rw[show i+1+j=i+(j+1) by omega];exact this)
  exact List.prefix_cons_inj u |>.2 this
theorem Ql{s:ByteArray}{i:Nat}{c:Int}(hc:cpB c=true)(h:enc c <+: s.data.toList.drop i):Utf8.decode s i=(c.toNat,wid c):=by
 have hb:=(qT c).1 hc;have hv:Utf8.valid (c.toNat:Int)=true:=by rw[show ((c.toNat:Nat):Int)=c by omega,jl,hc]
 have G:=fun j u hj=>qaE h (j:=j) (u:=u) hj;unfold wid;split
 ·rw[enc1 (by omega) (by omega)]at G
  obtain⟨_,g0⟩:=G 0 _ rfl;have e0:(s.get! (i+0)).toNat=c.toNat:=by rw[g0];simp;omega
  simp only[Utf8.decode,e0];rw[if_pos (by omega)]
 split
 ·rw[enc2 (by omega) (by omega)]at G
  obtain⟨_,g0⟩:=G 0 _ rfl;obtain⟨l1,g1⟩:=G 1 _ rfl;have e0:(s.get! (i+0)).toNat=192+c.toNat / 64:=by rw[g0];simp;omega
  have e1:(s.get! (i+1)).toNat=128+c.toNat % 64:=by rw[g1];simp;omega
  simp only[Utf8.decode,e0,e1];rw[if_neg (by omega),if_pos (by simp;omega),if_pos (by omega)];simp;omega
 split
 ·rw[enc3 hc (by omega) (by omega)]at G
  obtain⟨_,g0⟩:=G 0 _ rfl;obtain⟨l1,g1⟩:=G 1 _ rfl;obtain⟨l2,g2⟩:=G 2 _ rfl;have e0:(s.get! (i+0)).toNat=224+c.toNat / 4096:=by rw[g0];simp;omega
  have e1:(s.get! (i+1)).toNat=128+c.toNat / 64 % 64:=by rw[g1];simp;omega
  have e2:(s.get! (i+2)).toNat=128+c.toNat % 64:=by rw[g2];simp;omega
  have ec:(224+c.toNat / 4096) % 16*4096+(128+c.toNat / 64 % 64) % 64*64+(128+c.toNat % 64) % 64=c.toNat:=by omega
  simp only[Utf8.decode,e0,e1,e2,ec];rw[if_neg (by omega),if_neg (by simp;omega),if_pos (by simp;omega),if_pos (by rw[hv];simp;omega)]
 ·rw[enc4 hc (by omega)]at G
  obtain⟨_,g0⟩:=G 0 _ rfl;obtain⟨l1,g1⟩:=G 1 _ rfl;obtain⟨l2,g2⟩:=G 2 _ rfl;obtain⟨l3,g3⟩:=G 3 _ rfl;have e0:(s.get! (i+0)).toNat=240+c.toNat / 262144:=by rw[g0];simp;omega
  have e1:(s.get! (i+1)).toNat=128+c.toNat / 4096 % 64:=by rw[g1];simp;omega
  have e2:(s.get! (i+2)).toNat=128+c.toNat / 64 % 64:=by rw[g2];simp;omega
  have e3:(s.get! (i+3)).toNat=128+c.toNat % 64:=by rw[g3];simp;omega
  have ec:(240+c.toNat / 262144) % 8*262144+(128+c.toNat / 4096 % 64) % 64*4096+(128+c.toNat / 64 % 64) % 64*64+(128+c.toNat % 64) % 64=c.toNat:=by omega
  simp only[Utf8.decode,e0,e1,e2,e3,ec];rw[if_neg (by omega),if_neg (by simp;omega),if_neg (by simp;omega),if_pos (by simp;omega),if_pos (by rw[hv];simp;omega)]
theorem zP{u:UInt8}{n:Nat}(h:u.toNat=n):u=UInt8.ofNat n:=by rw[<- h];simp
theorem qae{s:ByteArray}{i c k:Nat}(hi:i<s.size)(h:Utf8.decode s i=(c,k))(hne:¬ (c=65533/\k=1)) :
  cpB (c:Int)=true/\k=wid c/\enc (c:Int) <+: s.data.toList.drop i:=by
 have hb:∀ k,(s.get! (i+k)).toNat<256:=fun k=>(s.get! (i+k)).toNat_lt;have b0:=hb 0;have b1:=hb 1;have b2:=hb 2;have b3:=hb 3;simp only[Utf8.decode,Utf8.runeError]at h;split at h
 ·obtain⟨rfl,rfl⟩:=Prod.mk.inj h
  refine⟨by rw[qT];omega,by unfold wid;rw[if_pos (by omega)],?_⟩;rw[enc1 (by omega) (by omega)];refine QU fun j u hj=>?_
  match j,hj with
  | 0,hj=>simp only[List.getElem?_cons_zero,Option.some.injEq]at hj;subst hj;exact⟨hi,zP rfl⟩
 split at h
 ·rename_i h1 h2
  simp at h2;split at h
  ·obtain⟨rfl,rfl⟩:=Prod.mk.inj h
   refine⟨by rw[qT];omega,by unfold wid;rw[if_neg (by omega),if_pos (by omega)],?_⟩;rw[enc2 (by omega) (by omega)];refine QU fun j u hj=>?_
   match j,hj with
   | 0,hj=>simp at hj;subst hj;exact⟨hi,zP (by simp;omega)⟩
   | 1,hj=>simp at hj;subst hj;exact⟨by omega,zP (by simp;omega)⟩
  ·exact absurd (Prod.mk.inj h) (fun h=>hne ⟨h.1.symm,h.2.symm⟩)
 split at h
 ·rename_i h1 _ h2
  simp at h2;split at h
  ·rename_i h3
   obtain⟨rfl,rfl⟩:=Prod.mk.inj h;simp only[Bool.and_eq_true,decide_eq_true_eq,jl]at h3;refine⟨h3.2,by unfold wid;rw[if_neg (by omega),if_neg (by omega),if_pos (by omega)],?_⟩;rw[enc3 h3.2 (by omega) (by omega)];refine QU fun j u hj=>?_
   match j,hj with
   | 0,hj=>simp at hj;subst hj;exact⟨hi,zP (by simp;omega)⟩
   | 1,hj=>simp at hj;subst hj;exact⟨by omega,zP (by simp;omega)⟩
   | 2,hj=>simp at hj;subst hj;exact⟨by omega,zP (by simp;omega)⟩
  ·exact absurd (Prod.mk.inj h) (fun h=>hne ⟨h.1.symm,h.2.symm⟩)
 split at h
 ·rename_i h1 _ _ h2
  simp at h2;split at h
  ·rename_i h3
   obtain⟨rfl,rfl⟩:=Prod.mk.inj h;simp only[Bool.and_eq_true,decide_eq_true_eq,jl]at h3;have h4:=(qT _).1 h3.2;refine⟨h3.2,by unfold wid;rw[if_neg (by omega),if_neg (by omega),if_neg (by omega)],?_⟩;rw[enc4 h3.2 (by omega)];refine QU fun j u hj=>?_
   match j,hj with
   | 0,hj=>simp at hj;subst hj;exact⟨hi,zP (by simp;omega)⟩
   | 1,hj=>simp at hj;subst hj;exact⟨by omega,zP (by simp;omega)⟩
   | 2,hj=>simp at hj;subst hj;exact⟨by omega,zP (by simp;omega)⟩
   | 3,hj=>simp at hj;subst hj;exact⟨by omega,zP (by simp;omega)⟩
  ·exact absurd (Prod.mk.inj h) (fun h=>hne ⟨h.1.symm,h.2.symm⟩)
 ·exact absurd (Prod.mk.inj h) (fun h=>hne ⟨h.1.symm,h.2.symm⟩)
end Go.Proofs.YtmloadclmjcbbaaGreatDoor.Mu
namespace Go.Proofs.YtmloadclmjcbbaaGreatDoor.Mu
open Go.RowKit
end Go.Proofs.YtmloadclmjcbbaaGreatDoor.Mu
namespace Go.Proofs.YtmloadclmjcbbaaGreatDoor.Mu
open Go.RowKit
structure Raw where
 nv:Bool
 c:Int
 A:OA
 n:Nat
 k:Nat
end Go.Proofs.YtmloadclmjcbbaaGreatDoor.Mu
namespace Go.Proofs.YtmloadclmjcbbaaGreatDoor.Mu
open Go.RowKit
def Bel(w w':World):Prop:=Below w.heap.size w w'
theorem Bel.refl(w:World):Bel w w:=Below.refl _ _
theorem Bel.on{a b c:World}(h:Bel a b)(k:Bel b c):Bel a c:=Below.trans h (Below.mono k h.size)
theorem Bel.alloc{a b:World}(h:Bel a b)(o:Obj):Bel a (b.alloc o):=Below.alloc h h.size o
theorem Bel.set_{a b:World}(h:Bel a b){p:Addr}(hp:a.heap.size<=p.block)(v:Value):Bel a (b.setCell p v):=Below.setCell h hp v
theorem Bel.drewN{a b:World}(h:Bel a b)(n:Nat):Bel a (b.drewN n):=⟨h.os,h.tape,h.output,h.size,h.block⟩
theorem Bel.drew{a b:World}(h:Bel a b):Bel a b.drew:=⟨h.os,h.tape,h.output,h.size,h.block⟩
theorem Bel.cells{w w1:World}(h:Bel w w1):(∀ b o,b<w.heap.size->w1.cell? ⟨b,o,none⟩=w.cell? ⟨b,o,none⟩)/\(∀ b o,b<w.heap.size->w1.frozen? ⟨b,o,none⟩=w.frozen? ⟨b,o,none⟩):=
 ⟨fun b o hb=>h.cell (p:=⟨b,o,none⟩) hb,fun b o hb=>h.frozen (p:=⟨b,o,none⟩) hb⟩
theorem Qz{w:World}{g:Nat}{t:TypeId}{x y z:Value}(h:w.heap[g]?=some (.cells #[x,y,z] t (0,0))) :
  w.cell? ⟨g,0,none⟩=some x/\w.cell? ⟨g,1,none⟩=some y/\w.cell? ⟨g,2,none⟩=some z/\w.frozen? ⟨g,0,none⟩=false/\w.frozen? ⟨g,1,none⟩=false/\w.frozen? ⟨g,2,none⟩=false:=by
 simp[World.cell?,World.frozen?,h]
theorem Bel.blk{w w1:World}(h:Bel w w1){g:Nat}{o:Obj}(hg:w.heap[g]?=some o):w1.heap[g]?=some o:=by
 have hlt:g<w.heap.size:=by
  rcases Nat.lt_or_ge g w.heap.size with h' | h'
  ·exact h'
  ·rw[Array.getElem?_eq_none h']at hg;cases hg
 rw[h.block g hlt];exact hg
theorem blk1(w:World)(o:Obj):(w.alloc o).heap[w.heap.size]?=some o:=heap_alloc_new w o
theorem blk2(w:World)(o o2:Obj):((w.alloc o).alloc o2).heap[w.heap.size]?=some o/\((w.alloc o).alloc o2).heap[w.heap.size+1]?=some o2:=by
 refine⟨((Bel.refl _).alloc o2).blk (blk1 w o),?_⟩;have:=blk1 (w.alloc o) o2;simpa using this
theorem blk3(w:World)(o o2 o3:Obj):(((w.alloc o).alloc o2).alloc o3).heap[w.heap.size]?=some o/\(((w.alloc o).alloc o2).alloc o3).heap[w.heap.size+1]?=some o2/\(((w.alloc o).alloc o2).alloc o3).heap[w.heap.size+2]?=some o3:=by
 have h:=blk2 w o o2;refine⟨((Bel.refl _).alloc o3).blk h.1,((Bel.refl _).alloc o3).blk h.2,?_⟩;have:=blk1 ((w.alloc o).alloc o2) o3;simpa using this
def RI(kd:IntKind)(w:World)(B:Nat)(A:OA)(n:Nat)(l:List Int):Prop:=
 n=l.length/\(0<n->∃ b off,A=some ⟨b,off,none⟩/\b<B/\∀ k,k<n->w.cell? ⟨b,off+k,none⟩=some (.int kd (l[k]?.getD 0)))
section
variable {kd : IntKind} {w w' : World} {B B' n : Nat} {A : OA} {l : List Int}
theorem RI.len(h:RI kd w B A n l):n=l.length:=h.1
theorem RI.at_(h:RI kd w B A n l)(hn:0<n):∃ b off,A=some ⟨b,off,none⟩/\b<B/\∀ k,k<n->w.cell? ⟨b,off+k,none⟩=some (.int kd (l[k]?.getD 0)):=h.2 hn
theorem RI.keep(h:RI kd w B A n l)(hk:∀ b o,b<B->w'.cell? ⟨b,o,none⟩=w.cell? ⟨b,o,none⟩):RI kd w' B A n l:=
 ⟨h.1,fun hn=>by
  obtain⟨b,off,e,hb,hc⟩:=h.2 hn;exact⟨b,off,e,hb,fun k hk'=>(hk _ _ hb).trans (hc k hk')⟩⟩
theorem RI.more(h:RI kd w B A n l)(hB:B<=B'):RI kd w B' A n l:=
 ⟨h.1,fun hn=>by
  obtain⟨b,off,e,hb,hc⟩:=h.2 hn;exact⟨b,off,e,by omega,hc⟩⟩
theorem RI.below(h:RI kd w B A n l)(hb:Below B w w'):RI kd w' B A n l:=h.keep fun b o hp=>hb.cell (p:=⟨b,o,none⟩) hp
theorem RI.bel(h:RI kd w w.heap.size A n l)(hb:Bel w w'):RI kd w' w'.heap.size A n l:=(h.below hb).more hb.size
theorem RI.of_own{base:Nat}{e:TypeId}{c:Nat}(h:w.ownsRow base e 1 (.slice A n c) n (l.map (Value.int kd))):RI kd w w.heap.size A n l:=by
 refine⟨by simpa using h.1.symm,fun hn=>?_⟩;obtain⟨g,cap,hv,_,hlt⟩:=h.form hn;have hA:A=some ⟨g,0,none⟩:=by injection hv
 subst hA;refine⟨g,0,rfl,hlt,fun k hk=>?_⟩;have hl:l.length=n:=by simpa using h.1
 have:=h.cells (g:=g) rfl k (.int kd (l[k]?.getD 0)) (by simp[List.getElem?_map,List.getElem?_eq_getElem (show k<l.length by omega)]);have e:(⟨g,0,none⟩:Addr).add k=⟨g,0+k,none⟩:=by unfold Addr.add;split <;> simp_all
 rw[<- e];exact this
end
end Go.Proofs.YtmloadclmjcbbaaGreatDoor.Mu
namespace Go.Proofs.YtmloadclmjcbbaaGreatDoor.Mu
open Go.RowKit
section
variable {P : Program} {w : World}
end
end Go.Proofs.YtmloadclmjcbbaaGreatDoor.Mu
namespace Go.Proofs.YtmloadclmjcbbaaGreatDoor.Mu
open Go.RowKit
theorem Qp{w:World}{base e size n:Nat}{v:Value}{xs:List Value}(h:w.ownsRow base e size v n xs):∃ A c,v=.slice A n c:=by
 rcases h.2 with ⟨rfl,rfl⟩ | ⟨g,cap,_,rfl,_⟩
 ·exact⟨_,_,rfl⟩
 ·exact⟨_,_,rfl⟩
section
variable {P : Program} {w : World}
theorem qL{ops:Array Oper}{rest:List Oper}{o:Oper}{a:Act}{Q:Exit->Act->World->Prop}(hgd:o.guard=none)(s x:Operand)(t:TypeId)
  (ho:o.op=.call { callee:= .builtin .append,args:=#[s,x],argTypes:=#[t,t] })
  (base:Nat) (e:TypeId) (z:Value) (size bytes:Nat) (ht:P.underlying t=some (.slice e)) (hinfo:(P.info? e).map (fun i=>(i.zero,i.size,i.bytes))=some (some z,size,bytes))
  (hzs:z.cells.size=size) (hsz:0<size) (hby:bytes<=1000)
  (A:OA) (n c:Nat) (xs:List Value) (hs:a.eval s=.slice A n c) (hown:w.ownsRow base e size (.slice A n c) n xs)
  (b:Nat) (news:List Value) (hx:a.eval x=.slice (some ⟨b,0,none⟩) 1 1) (hl:news.length=size) (hnews:∀ j u,news[j]?=some u->w.cell? ⟨b,j,none⟩=some u) (h1:∀ u∈news,u.oneCell'=true)
  (hmax:n<=1000000000) (hbase:base<=w.heap.size)
  (h:∀ A' c' w',w'.ownsRow base e size (.slice A' (n+1) c') (n+1) (xs++news)->w.grownBy w' (Value.slice A n c).ownBlock->wpList P ops Q rest (a.put o.dst (.slice A' (n+1) c')) w'):wpList P ops Q (o::rest) a w:=by
 obtain⟨i,hi,hz0,hz1,hz2⟩:=info_parts hinfo;refine wpList_append_own w hgd s x t ho base e i z size bytes ht hi hz0 hz1 hz2 hzs hsz _ n _ hs hown ⟨b,0,none⟩ 1 1 news hx (by omega) ?_ h1 (by unfold maxLen;omega) ?_ hbase ?_
 ·intro j u hu
  rw[Addr.add_lit];simpa using hnews j u hu
 ·calc (n+1)*bytes<=1000000001*1000:=Nat.mul_le_mul (by omega) hby
   _<=_:=by omega
 ·intro v' w' hown' hg _
  obtain⟨A',c',rfl⟩:=Qp hown';exact h A' c' w' hown' hg
end
theorem qG{w w':World}{base e size n:Nat}{v:Value}{xs:List Value}(h:w.ownsRow base e size v n xs)(hb:Bel w w'):w'.ownsRow base e size v n xs:=
 h.kept (row:=none) ⟨hb.os,hb.tape,hb.output,hb.size,fun k hk _=>hb.block k hk⟩ (by cases h:v.ownBlock <;> simp)
def strs(xs:List LU):List Value:=xs.map fun l=> .string ⟨l.toArray⟩
theorem qf4(xs:List LU)(l:LU):strs (xs++[l])=strs xs++[.string ⟨l.toArray⟩]:=by simp[strs]
theorem qaY(xs:List LU):(strs xs).length=xs.length:=by simp[strs]
theorem za(w:World)(v:Value)(t:TypeId):∀ j u,[v][j]?=some u->(w.alloc (.cells #[v] t)).cell? ⟨w.heap.size,j,none⟩=some u:=by
 intro j u hu
 match j,hu with
 | 0,hu=>simp at hu;subst hu;simp
theorem qas{w:World}{base e n c:Nat}{A:OA}{xs:List LU}(h:w.ownsRow base e 1 (.slice A n c) n (strs xs))(hn:xs≠[]) :
  ∃ g,A=some ⟨g,0,none⟩/\g<w.heap.size/\n=xs.length/\n<=c/\∀ (j:Nat) (x:BA),(xs.map fun l=>(⟨l.toArray⟩:BA))[j]?=some x->w.cell? ⟨g,0+j,none⟩=some (.string x):=by
 have hl:n=xs.length:=by have:=h.1;rw[qaY]at this;omega
 have hpos:0<n:=by
  rcases Nat.eq_zero_or_pos n with h0 | h0
  ·exact absurd (List.eq_nil_of_length_eq_zero (by omega)) hn
  ·exact h0
 obtain⟨g,cap,hv,_,hlt⟩:=h.form hpos;injection hv with h1 _ h2
 subst h1;refine⟨g,rfl,hlt,hl,?_,fun j x hx=>?_⟩
 ·rcases h.2 with ⟨h,_⟩ | ⟨g',cap',cur,h',_,_,hc,_⟩
  ·injection h with h _ _;cases h
  ·injection h' with _ _ h';omega
 ·have:=h.cells (g:=g) rfl j (.string x) (by
   simp only[List.getElem?_map,Option.map_eq_some_iff]at hx;obtain⟨l,hl,rfl⟩:=hx;simp[strs,List.getElem?_map,hl])
  rw[Addr.add_lit]at this;exact this
end Go.Proofs.YtmloadclmjcbbaaGreatDoor.Mu
namespace Go.Proofs.YtmloadclmjcbbaaGreatDoor.Mu
set_option maxHeartbeats 4000000
open Go.RowKit Go.Shelf
set_option maxRecDepth 100000
structure Pl where
 a:Int
 l:Int
 c:Int
deriving DecidableEq
def Pl.next(p:Pl)(x:Int):Pl:=if x=10 then ⟨p.a+wid x,p.l+1,1⟩ else ⟨p.a+wid x,p.l,p.c+1⟩
def Pl.v(p:Pl):Value:= .agg #[.int .i64 p.a,.int .i64 p.l,.int .i64 p.c]
def Pl.sm(p:Pl)(b:Int):Prop:=0<=p.a/\p.a<=b/\0<=p.l/\p.l<=b/\0<=p.c/\p.c<=b
theorem qci{c:Int}(h:cpB c=true):Lib.runeLen c=(wid c:Int):=by
 have h:=(qT c).1 h;unfold Lib.runeLen wid;repeat' split
 all_goals omega
theorem qbQ(c:Int):Lib.validRune c=cpB c:=by
 rw[Bool.eq_iff_iff,qT];simp[Lib.validRune];omega
theorem zr{a b:Bool}(h:a=b):Ending.returned (.bool a)=.returned (.bool b):=by rw[h]
theorem qfM{k:IntKind}{a b:Int}(h:a=b):Ending.returned (.int k a)=.returned (.int k b):=by rw[h]
theorem qh0{c:Int}(hc:cpB c=true)(w:World):Calls Tryz.prog 182 #[.int .i32 c] w fun e w'=>e=.returned (.int .i64 (wid c))/\w=w':=
 (Tryz.utf8_RuneLen c w).mono fun _ _ h=>⟨by rw[h.1,qci hc],h.2.symm⟩
theorem qh5(c:Int)(w:World):Calls Tryz.prog 194 #[.int .i32 c] w fun e w'=>e=.returned (.bool (cpB c))/\w=w':=
 (Tryz.utf8_ValidRune c w).mono fun _ _ h=>⟨by rw[h.1,qbQ],h.2.symm⟩
theorem qdu{p:Pl}{c:Int}(hc:cpB c=true)(hp:p.sm 1000000)(w:World) :
  Calls Tryz.prog 158 #[.agg #[.int .i64 p.a,p.l,p.c],.int .i32 c] w fun e w'=>e=.returned (p.next c).v/\Bel w w':=by
 obtain⟨h1,h2,h3,h4,h5,h6⟩:=hp;have hw:=zn c;obtain⟨pa,pl,pc⟩:=p;simp only at h1 h2 h3 h4 h5 h6;have HC:=hid hc;have hx:IntKind.i64.wrap (pa+(wid c:Int))=pa+(wid c:Int):=IntWalk.i64_in _ (by omega);clear hc;go_enter Tryz.func158,Tryz.ntmps158;go_wp2_with fail;go_region_with (go_at_call 182;refine (qh0 HC _).mono ?_;rintro e w1 ⟨rfl,rfl⟩);all_goals
  by_cases h10:c=10
  ·have e10:(c==10)=true:=by simpa using h10
   go_wp2;refine bodyPost_ret (v:=(Pl.next ⟨pa,pl,pc⟩ c).v) ?_ rfl ⟨rfl,?_⟩
   ·simp[results,Tryz.results158,go_sem,Pl.v,Pl.next,h10]
   ·repeat (first | exact Bel.refl _ | refine Bel.set_ ?_ (by simp) _ | refine Bel.alloc ?_ _ | refine Bel.drew ?_)
  ·have e10:(c==10)=false:=by simpa using h10
   go_wp2;refine bodyPost_ret (v:=(Pl.next ⟨pa,pl,pc⟩ c).v) ?_ rfl ⟨rfl,?_⟩
   ·simp[results,Tryz.results158,go_sem,Pl.v,Pl.next,h10]
   ·repeat (first | exact Bel.refl _ | refine Bel.set_ ?_ (by simp) _ | refine Bel.alloc ?_ _ | refine Bel.drew ?_)
theorem jO(c:Int)(w:World):Calls Tryz.prog 156 #[.int .i64 c] w fun e w'=>e=.returned (.int .i64 (wid c))/\w=w':=by
 unfold wid;go_enter Tryz.func156,Tryz.ntmps156;go_wp2;all_goals (go_ret;refine⟨qfM ?_,rfl⟩;(repeat' split) <;> (first | rfl | omega))
theorem qbC(c:Int)(w:World):Calls Tryz.prog 179 #[.int .i64 c] w fun e w'=>e=.returned (.bool (cpB c))/\w=w':=by
 go_enter Tryz.func179,Tryz.ntmps179;go_wp2;all_goals (go_ret;refine⟨zr ?_,rfl⟩;rw[Bool.eq_iff_iff,qT];simp;try omega)
structure Pn where
 r:Int
 p:Pl
deriving DecidableEq
theorem qcK(c:Int):(⟨(enc c).toArray⟩:BA)=Utf8.encode c:=by unfold enc;simp
theorem zQ{w:World}{g:Nat}{t:TypeId}(ns:List Int)(h:w.heap[g]?=some (.cells (ns.map (Value.int .u8)).toArray t (0,0)))(n:Nat)(hn:n=ns.length)(c:Nat) :
  (convert 89 9 (.slice (some ⟨g,0,none⟩) n c)).run Tryz.prog w=.ok (.string ⟨(ns.map fun x=>UInt8.ofNat x.toNat).toArray⟩) w:=by
 subst hn;rw[run_convert_bytes_string w _ _ 5 _ _ _ Tryz.underlying89 Tryz.underlying5 Tryz.underlying9];rw[run_bytesToString w _ _ _ ns]
 ·congr 2
  have:∀ (l:List Int) (r:BA),l.foldl (fun r n=>r.push (UInt8.ofNat n.toNat)) r=⟨r.data++(l.map fun x=>UInt8.ofNat x.toNat).toArray⟩:=by
   intro l;induction l with
   | nil=>intro r;simp
   | cons x l ih=>intro r;simp only[List.foldl_cons,ih];simp[ByteArray.push]
  rw[this];simp
 ·rw[run_loadCells w _ _ (fun j=>(ns.map (Value.int .u8)).getD j undef)]
  ·congr 1
   apply Array.ext';apply List.ext_getElem
   ·simp
   ·intro i h1 h2;simp at h1 h2;simp[h2]
  ·intro j hj
   rw[Addr.add_lit];simp[World.cell?,h,hj]
theorem j7:(Tryz.prog.info? 5).map (fun i=>(i.zero,i.size,i.bytes))=some (some (.int .u8 0),1,1):=by kernel_rfl
theorem qiG(n:Nat)(hn:n<=4)(W:World):(Instr.makeSlice 89 (.int .i64 n) (.int .i64 n)).run Tryz.prog W=.ok (.slice (some ⟨W.heap.size,0,none⟩) n n) (W.alloc (.cells (madeCells #[.int .u8 0] n) 5)):=
 run_make_row' (P:=Tryz.prog) 89 5 (.int .u8 0) 1 Tryz.underlying89 j7 rfl .i64 .i64 n (by omega) (by omega) W
end Go.Proofs.YtmloadclmjcbbaaGreatDoor.Mu
namespace Go.Proofs.YtmloadclmjcbbaaGreatDoor.Mu
open Go.RowKit Go.Shelf
set_option maxRecDepth 100000
theorem Qr{c:Int}(hc:cpB c=true)(w:World) :
  Calls Tryz.prog 180 #[.int .i64 c] w fun e w'=>e=.returned (.string (Utf8.encode c))/\Bel w w':=by
 have hb:=(qT c).1 hc;have h0:0<=c:=by omega
 have h9:c<=1114111:=by omega
 have HC:=hid hc;clear hc hb;rcases Int.lt_or_le c 128 with h1 | h1
 ·have hw:wid c=1:=by unfold wid;rw[if_pos h1]
  go_enter Tryz.func180,Tryz.ntmps180;go_wp2_with (go_at_call 156;refine (jO _ _).mono ?_;rintro e w1 ⟨rfl,rfl⟩);rw[zQ (t:=5) [c] (by simpa using blk1 w _) 1 rfl 1];go_wp2;go_ret;refine⟨?_,(Bel.refl _).alloc _⟩;rw[<- qcK c,enc1 h0 h1];rfl
 rcases Int.lt_or_le c 2048 with h2 | h2
 ·have hw:wid c=2:=by unfold wid;rw[if_neg (by omega),if_pos h2]
  have hmk:(Instr.makeSlice 89 (.int .i64 2) (.int .i64 2)).run Tryz.prog w=.ok (.slice (some ⟨w.heap.size,0,none⟩) 2 2) (w.alloc (.cells #[.int .u8 0,.int .u8 0] 5)):=by
   have h:=qiG 2 (by omega) w;rw[show madeCells #[Value.int .u8 0] 2=#[.int .u8 0,.int .u8 0] by kernel_rfl]at h;exact h
  go_enter Tryz.func180,Tryz.ntmps180;go_wp2_with (go_at_call 156;refine (jO _ _).mono ?_;rintro e w1 ⟨rfl,rfl⟩);refine wp_loop_rounds 3 ?_;rw[rounds_succ];go_wp2_with (rw[rounds_succ]);rw[zQ (t:=5) [192+c / 64,128+c % 64] (by exact (blk2 w _ _).1) 2 rfl 2];go_wp2;go_ret;refine⟨?_,by repeat (first | exact Bel.refl _ | refine Bel.set_ ?_ (by simp) _ | refine Bel.alloc ?_ _)⟩;rw[<- qcK c,enc2 h1 h2];have e0:(192+c / 64).toNat=192+c.toNat / 64:=by omega
  have e1:(128+c % 64).toNat=128+c.toNat % 64:=by omega
  simp only[e0,e1];rfl
 rcases Int.lt_or_le c 65536 with h3 | h3
 ·have hw:wid c=3:=by unfold wid;rw[if_neg (by omega),if_neg (by omega),if_pos h3]
  have hmk:(Instr.makeSlice 89 (.int .i64 3) (.int .i64 3)).run Tryz.prog w=.ok (.slice (some ⟨w.heap.size,0,none⟩) 3 3) (w.alloc (.cells #[.int .u8 0,.int .u8 0,.int .u8 0] 5)):=by
   have h:=qiG 3 (by omega) w;rw[show madeCells #[Value.int .u8 0] 3=#[.int .u8 0,.int .u8 0,.int .u8 0] by kernel_rfl]at h;exact h
  go_enter Tryz.func180,Tryz.ntmps180;go_wp2_with (go_at_call 156;refine (jO _ _).mono ?_;rintro e w1 ⟨rfl,rfl⟩);refine wp_loop_rounds 4 ?_;rw[rounds_succ];go_wp2_with (rw[rounds_succ]);rw[zQ (t:=5) [224+c / 64 / 64,128+c / 64 % 64,128+c % 64] (by exact (blk2 w _ _).1) 3 rfl 3];go_wp2;go_ret;refine⟨?_,by repeat (first | exact Bel.refl _ | refine Bel.set_ ?_ (by simp) _ | refine Bel.alloc ?_ _)⟩;rw[<- qcK c,enc3 HC.out h2 h3];have e0:(224+c / 64 / 64).toNat=224+c.toNat / 4096:=by omega
  have e1:(128+c / 64 % 64).toNat=128+c.toNat / 64 % 64:=by omega
  have e2:(128+c % 64).toNat=128+c.toNat % 64:=by omega
  simp only[e0,e1,e2];rfl
 ·have hw:wid c=4:=by unfold wid;rw[if_neg (by omega),if_neg (by omega),if_neg (by omega)]
  have hmk:(Instr.makeSlice 89 (.int .i64 4) (.int .i64 4)).run Tryz.prog w=.ok (.slice (some ⟨w.heap.size,0,none⟩) 4 4) (w.alloc (.cells #[.int .u8 0,.int .u8 0,.int .u8 0,.int .u8 0] 5)):=by
   have h:=qiG 4 (by omega) w;rw[show madeCells #[Value.int .u8 0] 4=#[.int .u8 0,.int .u8 0,.int .u8 0,.int .u8 0] by kernel_rfl]at h;exact h
  go_enter Tryz.func180,Tryz.ntmps180;go_wp2_with (go_at_call 156;refine (jO _ _).mono ?_;rintro e w1 ⟨rfl,rfl⟩);refine wp_loop_rounds 5 ?_;rw[rounds_succ];go_wp2_with (rw[rounds_succ]);rw[zQ (t:=5) [240+c / 64 / 64 / 64,128+c / 64 / 64 % 64,128+c / 64 % 64,128+c % 64] (by exact (blk2 w _ _).1) 4 rfl 4];go_wp2;go_ret;refine⟨?_,by repeat (first | exact Bel.refl _ | refine Bel.set_ ?_ (by simp) _ | refine Bel.alloc ?_ _)⟩;rw[<- qcK c,enc4 HC.out h3];have e0:(240+c / 64 / 64 / 64).toNat=240+c.toNat / 262144:=by omega
  have e1:(128+c / 64 / 64 % 64).toNat=128+c.toNat / 4096 % 64:=by omega
  have e2:(128+c / 64 % 64).toNat=128+c.toNat / 64 % 64:=by omega
  have e3:(128+c % 64).toNat=128+c.toNat % 64:=by omega
  simp only[e0,e1,e2,e3];rfl
end Go.Proofs.YtmloadclmjcbbaaGreatDoor.Mu
namespace Go.Proofs.YtmloadclmjcbbaaGreatDoor.Mu
open Go.RowKit
structure Abv (w:World) where
 wd:World
 bel:Bel w wd
instance (w:World):Nonempty (Abv w):=⟨⟨w,Bel.refl w⟩⟩
theorem qE{P:Program}{id:Nat}{Q:Exit->Act->World->Prop}{a:Act}{w:World}{l:List Oper}(hm:P.follows .mixedOrders=true)(hB:Region.lexB .any l.toArray=true)
  (h:wpQuiet P l.toArray (fun w'=>∃ n:Abv w,w'=n.wd) (fun a'=>∀ w',(∃ n:Abv w,w'=n.wd)->Q .normal a' w') l a):(Code.region id l.toArray true).wp P Q a w:=
 wp_region_quiet (C:=fun w'=>∃ n:Abv w,w'=n.wd) hm hB ⟨⟨_,(Bel.refl w).drew⟩,rfl⟩ (by simpa using h)
end Go.Proofs.YtmloadclmjcbbaaGreatDoor.Mu
namespace Go.Proofs.YtmloadclmjcbbaaGreatDoor.Mu
open Go.RowKit Go.Shelf
def OneP(s:BA)(i:Nat)(w:World)(e:Ending)(w':World):Prop:=
 ∃ n:Int,e=.returned (.int .i64 n)/\Bel w w'/\((cpB n=true/\enc n <+: s.data.toList.drop i)∨(n = -1/\∀ c,cpB c=true->¬ enc c <+: s.data.toList.drop i))
def j4(s:BA)(i:Nat):Nat->Int
 | 1=>(s.get! i).toNat
 | 2=>((s.get! i).toNat-192:Int)*64+(s.get! (i+1)).toNat-128
 | 3=>(((s.get! i).toNat-224:Int)*64+(s.get! (i+1)).toNat-128)*64+(s.get! (i+2)).toNat-128
 | _=>((((s.get! i).toNat-240:Int)*64+(s.get! (i+1)).toNat-128)*64+(s.get! (i+2)).toNat-128)*64+(s.get! (i+3)).toNat-128
theorem QO{s:BA}{i:Nat}{c:Int}(hc:cpB c=true)(h:enc c <+: s.data.toList.drop i):j4 s i (wid c)=c:=by
 have hb:=(qT c).1 hc;have G:=fun j u hj=>qaE h (j:=j) (u:=u) hj;unfold wid;split
 ·rw[enc1 (by omega) (by omega)]at G
  obtain⟨_,g0⟩:=G 0 _ rfl;have e0:(s.get! i).toNat=c.toNat:=by rw[Nat.add_zero]at g0;rw[g0];simp;omega
  simp only[j4,e0];omega
 split
 ·rw[enc2 (by omega) (by omega)]at G
  obtain⟨_,g0⟩:=G 0 _ rfl;obtain⟨_,g1⟩:=G 1 _ rfl;have e0:(s.get! i).toNat=192+c.toNat / 64:=by rw[Nat.add_zero]at g0;rw[g0];simp;omega
  have e1:(s.get! (i+1)).toNat=128+c.toNat % 64:=by rw[g1];simp;omega
  simp only[j4,e0,e1];omega
 split
 ·rw[enc3 hc (by omega) (by omega)]at G
  obtain⟨_,g0⟩:=G 0 _ rfl;obtain⟨_,g1⟩:=G 1 _ rfl;obtain⟨_,g2⟩:=G 2 _ rfl;have e0:(s.get! i).toNat=224+c.toNat / 4096:=by rw[Nat.add_zero]at g0;rw[g0];simp;omega
  have e1:(s.get! (i+1)).toNat=128+c.toNat / 64 % 64:=by rw[g1];simp;omega
  have e2:(s.get! (i+2)).toNat=128+c.toNat % 64:=by rw[g2];simp;omega
  simp only[j4,e0,e1,e2];omega
 ·rw[enc4 hc (by omega)]at G
  obtain⟨_,g0⟩:=G 0 _ rfl;obtain⟨_,g1⟩:=G 1 _ rfl;obtain⟨_,g2⟩:=G 2 _ rfl;obtain⟨_,g3⟩:=G 3 _ rfl;have e0:(s.get! i).toNat=240+c.toNat / 262144:=by rw[Nat.add_zero]at g0;rw[g0];simp;omega
  have e1:(s.get! (i+1)).toNat=128+c.toNat / 4096 % 64:=by rw[g1];simp;omega
  have e2:(s.get! (i+2)).toNat=128+c.toNat / 64 % 64:=by rw[g2];simp;omega
  have e3:(s.get! (i+3)).toNat=128+c.toNat % 64:=by rw[g3];simp;omega
  simp only[j4,e0,e1,e2,e3];omega
theorem qaU{s:BA}{i k:Nat}{c:Int}(hk:i+k<=s.size):((Utf8.encode c).toList==(s.extract i (i+k)).toList)=true↔(enc c).length=k/\enc c <+: s.data.toList.drop i:=by
 have e1:(s.extract i (i+k)).toList=(s.data.toList.drop i).take k:=by
  rw[Lib.extract_toList,show i+k-i=k by omega]
 have e2:((s.data.toList.drop i).take k).length=k:=by
  rw[List.length_take,List.length_drop,Array.length_toList];have:s.data.size=s.size:=rfl;omega
 rw[e1,ByteArray.toList_eq,beq_iff_eq];constructor
 ·intro h
  have h':enc c=(s.data.toList.drop i).take k:=h;exact⟨by rw[h',e2],by rw[h'];exact List.take_prefix _ _⟩
 ·rintro⟨h1,r,h2⟩
  show enc c=_;rw[<- h2,<- h1];simp
theorem Zd{c:Int}(h:cpB c=true)(w:World):Calls Tryz.prog 179 #[.int .i64 c] w fun e w'=>e=.returned (.bool true)/\w=w':=
 (qbC c w).mono fun _ _ k=>⟨by rw[k.1,h],k.2⟩
theorem Je{c:Int}(h:cpB c=false)(w:World):Calls Tryz.prog 179 #[.int .i64 c] w fun e w'=>e=.returned (.bool false)/\w=w':=
 (qbC c w).mono fun _ _ k=>⟨by rw[k.1,h],k.2⟩
theorem qaC{s:BA}{i:Nat}{c:Int}(hc:cpB c=true)(h:enc c <+: s.data.toList.drop i):i+wid c<=s.size:=by
 have h1:=zF hc;have h2:=zn c;have h3:(enc c)[wid c-1]?=some ((enc c)[wid c-1]'(by omega)):=List.getElem?_eq_getElem (by omega);have:=(qaE h h3).1;omega
theorem qaD{s:BA}{i k:Nat}(hk:i+k<=s.size){j:Int}(hj:j=(i:Int)+(k:Nat))(W:World):(Instr.slice 9 (.string s) (some (.int .i64 (i:Int))) (some (.int .i64 j)) none).run Tryz.prog W=.ok (.string (s.extract i (i+k))) W:=by
 rw[run_slice_string_if (h:=Tryz.underlying9),if_pos (by omega),if_pos (by omega),show (i:Int).toNat=i by omega,show j.toNat=i+k by omega]
theorem qc3{s:BA}{i:Nat}(hi:i<s.size)(hs:s.size<=4000000)(w:World) :
  Calls Tryz.prog 155 #[.string s,i] w (OneP s i w):=by
 go_enter Tryz.func155,Tryz.ntmps155;go_wp2;go_loopw [5] (fun v wr=>∃ k:Nat,1<=k/\k<=5/\v=.int .i64 k/\Hid (Bel w wr)/\Hid (∀ c,cpB c=true->enc c <+: s.data.toList.drop i->k<=wid c)) (fun v _=>5-(intOf v).toNat)
 case atStart=>exact⟨1,by omega,by omega,rfl,Bel.refl w,fun c _ _=>(zn c).1⟩
 case round=>
  obtain⟨k,hk1,hk5,rfl,HB,HN⟩:=hrel;obtain rfl | rfl | rfl | rfl | rfl:k=1∨k=2∨k=3∨k=4∨k=5:=by omega
  · --1
   have hsz:(i:Int)+1<=(s.size:Int):=by omega
   have hx0:((s[i]'hi).toNat:Int)<=255:=by have:=(s[i]'hi).toNat_lt;omega
   go_wp2;refine wp_loop_rounds 2 ?_;rw[rounds_succ];go_wp2_with (rw[rounds_succ]);have hN:((s[i]'hi).toNat:Int)=j4 s i 1:=by
    have q0:s.get! i=s[i]'hi:=get_at s i hi;simp only[j4,q0]
   rw[hN];obtain⟨n,hn⟩:=nW (j4 s i 1);rw[<- hn];have hsl:∀ W:World,(Instr.slice 9 (.string s) (some (.int .i64 (i:Int))) (some (.int .i64 ((i:Int)+1))) none).run Tryz.prog W=.ok (.string (s.extract i (i+1))) W:=fun W=>qaD (k:=1) (by omega) (by omega) W;have HQ:=hid hn;clear hN hn hx0;have hk:i+1<=s.size:=by omega
   have HPE:=hid (@qaU s i 1 n hk);have HW:Hid (∀ c,cpB c=true->enc c <+: s.data.toList.drop i->1+1<=wid c∨(n=c/\wid c=1)):=hid (by
    intro c hc hp;have h1:=HN.out c hc hp;by_cases h2:wid c=1
    ·exact Or.inr ⟨by have h3:=QO hc hp;rw[h2]at h3;rw[HQ.out,h3],h2⟩
    ·exact Or.inl (by omega))
   by_cases hc:cpB n=true
   ·refine qE (by kernel_rfl) (by kernel_rfl) ?_
    have HC:=hid hc;clear hc;obtain⟨qb,hqb⟩:=nW ((Utf8.encode n).toList==(s.extract i (i+1)).toList);have hqb2:=hqb.symm;clear hqb hk;repeat (go_big_quiet_step (first | (go_at_call 179;exact (Zd HC _).mono fun e w' h=>⟨h.1,⟨_,Abv.bel _⟩,h.2.symm⟩) | (go_at_call 180;exact (Qr HC _).mono fun e w' h=>⟨h.1,⟨_,(Abv.bel _).on h.2⟩,rfl⟩)))
    refine wpQuiet_nil ?_;intro w4 hw4;have HBE:Hid (Bel w w4):=hid (by obtain⟨m,rfl⟩:=hw4;exact (by repeat (first | exact HB.out | refine Bel.alloc ?_ _):Bel w _).on m.bel);have HQB:=hid hqb2;clear hw4 hqb2;cases qb
    ·go_wp2
     go_roundw
     case rel=>exact⟨2,by omega,by omega,by go_num,HBE,fun c hc hp=>by
      rcases HW.out c hc hp with h | ⟨rfl,h⟩
      ·exact h
      ·have:=HPE.2 ⟨by rw[zF hc,h],hp⟩
       rw[HQB.out]at this;cases this⟩
     case measure=>(simp[intOf] <;> omega)
    ·go_wp2
     go_ret;exact⟨n,rfl,HBE,Or.inl ⟨HC,(HPE.1 HQB).2⟩⟩
   ·have hc:cpB n=false:=by simpa using hc
    have HC:=hid hc;clear hc;refine qE (by kernel_rfl) (by kernel_rfl) ?_;repeat (go_big_quiet_step ((go_at_call 179;exact (Je HC _).mono fun e w' h=>⟨h.1,⟨_,Abv.bel _⟩,h.2.symm⟩)))
    refine wpQuiet_nil ?_;intro w4 hw4;have HBE:Hid (Bel w w4):=hid (by obtain⟨m,rfl⟩:=hw4;exact (by repeat (first | exact HB.out | refine Bel.alloc ?_ _):Bel w _).on m.bel);clear hw4;go_wp2;go_roundw
    case rel=>exact⟨2,by omega,by omega,by go_num,HBE,fun c hc hp=>by
     rcases HW.out c hc hp with h | ⟨rfl,h⟩
     ·exact h
     ·rw[HC.out]at hc;cases hc⟩
    case measure=>(simp[intOf] <;> omega)
  · --2
   rcases (show (i:Int)+2<=(s.size:Int)∨(s.size:Int)<(i:Int)+2 by omega) with hsz | hsz
   ·have hsz':i+2<=s.size:=by omega
    have hs1:i+1<s.size:=by omega
    have hx0:((s[i]'hi).toNat:Int)<=255:=by have:=(s[i]'hi).toNat_lt;omega
    have hx1:((s[i+1]'hs1).toNat:Int)<=255:=by have:=(s[i+1]'hs1).toNat_lt;omega
    go_wp2;refine wp_loop_rounds 3 ?_;rw[rounds_succ];go_wp2_with (rw[rounds_succ]);have hN:(((s[i]'hi).toNat:Int)-192)*64+((s[i+1]'hs1).toNat:Int)-128=j4 s i 2:=by
     have q0:s.get! i=s[i]'hi:=get_at s i hi;have q1:s.get! (i+1)=s[i+1]'hs1:=get_at s (i+1) hs1;simp only[j4,q0,q1]
    rw[hN];obtain⟨n,hn⟩:=nW (j4 s i 2);rw[<- hn];have hsl:∀ W:World,(Instr.slice 9 (.string s) (some (.int .i64 (i:Int))) (some (.int .i64 ((i:Int)+2))) none).run Tryz.prog W=.ok (.string (s.extract i (i+2))) W:=fun W=>qaD (k:=2) (by omega) (by omega) W;have HQ:=hid hn;clear hN hn hx0 hx1;have hk:i+2<=s.size:=by omega
    have HPE:=hid (@qaU s i 2 n hk);have HW:Hid (∀ c,cpB c=true->enc c <+: s.data.toList.drop i->2+1<=wid c∨(n=c/\wid c=2)):=hid (by
     intro c hc hp;have h1:=HN.out c hc hp;by_cases h2:wid c=2
     ·exact Or.inr ⟨by have h3:=QO hc hp;rw[h2]at h3;rw[HQ.out,h3],h2⟩
     ·exact Or.inl (by omega))
    by_cases hc:cpB n=true
    ·refine qE (by kernel_rfl) (by kernel_rfl) ?_
     have HC:=hid hc;clear hc;obtain⟨qb,hqb⟩:=nW ((Utf8.encode n).toList==(s.extract i (i+2)).toList);have hqb2:=hqb.symm;clear hqb hk;repeat (go_big_quiet_step (first | (go_at_call 179;exact (Zd HC _).mono fun e w' h=>⟨h.1,⟨_,Abv.bel _⟩,h.2.symm⟩) | (go_at_call 180;exact (Qr HC _).mono fun e w' h=>⟨h.1,⟨_,(Abv.bel _).on h.2⟩,rfl⟩)))
     refine wpQuiet_nil ?_;intro w4 hw4;have HBE:Hid (Bel w w4):=hid (by obtain⟨m,rfl⟩:=hw4;exact (by repeat (first | exact HB.out | refine Bel.alloc ?_ _):Bel w _).on m.bel);have HQB:=hid hqb2;clear hw4 hqb2;cases qb
     ·go_wp2
      go_roundw
      case rel=>exact⟨3,by omega,by omega,by go_num,HBE,fun c hc hp=>by
       rcases HW.out c hc hp with h | ⟨rfl,h⟩
       ·exact h
       ·have:=HPE.2 ⟨by rw[zF hc,h],hp⟩
        rw[HQB.out]at this;cases this⟩
      case measure=>(simp[intOf] <;> omega)
     ·go_wp2
      go_ret;exact⟨n,rfl,HBE,Or.inl ⟨HC,(HPE.1 HQB).2⟩⟩
    ·have hc:cpB n=false:=by simpa using hc
     have HC:=hid hc;clear hc;refine qE (by kernel_rfl) (by kernel_rfl) ?_;repeat (go_big_quiet_step ((go_at_call 179;exact (Je HC _).mono fun e w' h=>⟨h.1,⟨_,Abv.bel _⟩,h.2.symm⟩)))
     refine wpQuiet_nil ?_;intro w4 hw4;have HBE:Hid (Bel w w4):=hid (by obtain⟨m,rfl⟩:=hw4;exact (by repeat (first | exact HB.out | refine Bel.alloc ?_ _):Bel w _).on m.bel);clear hw4;go_wp2;go_roundw
     case rel=>exact⟨3,by omega,by omega,by go_num,HBE,fun c hc hp=>by
      rcases HW.out c hc hp with h | ⟨rfl,h⟩
      ·exact h
      ·rw[HC.out]at hc;cases hc⟩
     case measure=>(simp[intOf] <;> omega)
   ·go_wp2
    go_ret;exact⟨-1,rfl,HB,Or.inr ⟨rfl,fun c hc hp=>by
     have h1:=HN.out c hc hp;have h2:=(zn c).2;have h3:=qaC hc hp;omega⟩⟩
  · --3
   rcases (show (i:Int)+3<=(s.size:Int)∨(s.size:Int)<(i:Int)+3 by omega) with hsz | hsz
   ·have hsz':i+3<=s.size:=by omega
    have hs1:i+1<s.size:=by omega
    have hs2:i+2<s.size:=by omega
    have hx0:((s[i]'hi).toNat:Int)<=255:=by have:=(s[i]'hi).toNat_lt;omega
    have hx1:((s[i+1]'hs1).toNat:Int)<=255:=by have:=(s[i+1]'hs1).toNat_lt;omega
    have hx2:((s[i+2]'hs2).toNat:Int)<=255:=by have:=(s[i+2]'hs2).toNat_lt;omega
    go_wp2;refine wp_loop_rounds 4 ?_;rw[rounds_succ];go_wp2_with (rw[rounds_succ]);have hN:((((s[i]'hi).toNat:Int)-224)*64+((s[i+1]'hs1).toNat:Int)-128)*64+((s[i+2]'hs2).toNat:Int)-128=j4 s i 3:=by
     have q0:s.get! i=s[i]'hi:=get_at s i hi;have q1:s.get! (i+1)=s[i+1]'hs1:=get_at s (i+1) hs1;have q2:s.get! (i+2)=s[i+2]'hs2:=get_at s (i+2) hs2;simp only[j4,q0,q1,q2]
    rw[hN];obtain⟨n,hn⟩:=nW (j4 s i 3);rw[<- hn];have hsl:∀ W:World,(Instr.slice 9 (.string s) (some (.int .i64 (i:Int))) (some (.int .i64 ((i:Int)+3))) none).run Tryz.prog W=.ok (.string (s.extract i (i+3))) W:=fun W=>qaD (k:=3) (by omega) (by omega) W;have HQ:=hid hn;clear hN hn hx0 hx1 hx2;have hk:i+3<=s.size:=by omega
    have HPE:=hid (@qaU s i 3 n hk);have HW:Hid (∀ c,cpB c=true->enc c <+: s.data.toList.drop i->3+1<=wid c∨(n=c/\wid c=3)):=hid (by
     intro c hc hp;have h1:=HN.out c hc hp;by_cases h2:wid c=3
     ·exact Or.inr ⟨by have h3:=QO hc hp;rw[h2]at h3;rw[HQ.out,h3],h2⟩
     ·exact Or.inl (by omega))
    by_cases hc:cpB n=true
    ·refine qE (by kernel_rfl) (by kernel_rfl) ?_
     have HC:=hid hc;clear hc;obtain⟨qb,hqb⟩:=nW ((Utf8.encode n).toList==(s.extract i (i+3)).toList);have hqb2:=hqb.symm;clear hqb hk;repeat (go_big_quiet_step (first | (go_at_call 179;exact (Zd HC _).mono fun e w' h=>⟨h.1,⟨_,Abv.bel _⟩,h.2.symm⟩) | (go_at_call 180;exact (Qr HC _).mono fun e w' h=>⟨h.1,⟨_,(Abv.bel _).on h.2⟩,rfl⟩)))
     refine wpQuiet_nil ?_;intro w4 hw4;have HBE:Hid (Bel w w4):=hid (by obtain⟨m,rfl⟩:=hw4;exact (by repeat (first | exact HB.out | refine Bel.alloc ?_ _):Bel w _).on m.bel);have HQB:=hid hqb2;clear hw4 hqb2;cases qb
     ·go_wp2
      go_roundw
      case rel=>exact⟨4,by omega,by omega,by go_num,HBE,fun c hc hp=>by
       rcases HW.out c hc hp with h | ⟨rfl,h⟩
       ·exact h
       ·have:=HPE.2 ⟨by rw[zF hc,h],hp⟩
        rw[HQB.out]at this;cases this⟩
      case measure=>(simp[intOf] <;> omega)
     ·go_wp2
      go_ret;exact⟨n,rfl,HBE,Or.inl ⟨HC,(HPE.1 HQB).2⟩⟩
    ·have hc:cpB n=false:=by simpa using hc
     have HC:=hid hc;clear hc;refine qE (by kernel_rfl) (by kernel_rfl) ?_;repeat (go_big_quiet_step ((go_at_call 179;exact (Je HC _).mono fun e w' h=>⟨h.1,⟨_,Abv.bel _⟩,h.2.symm⟩)))
     refine wpQuiet_nil ?_;intro w4 hw4;have HBE:Hid (Bel w w4):=hid (by obtain⟨m,rfl⟩:=hw4;exact (by repeat (first | exact HB.out | refine Bel.alloc ?_ _):Bel w _).on m.bel);clear hw4;go_wp2;go_roundw
     case rel=>exact⟨4,by omega,by omega,by go_num,HBE,fun c hc hp=>by
      rcases HW.out c hc hp with h | ⟨rfl,h⟩
      ·exact h
      ·rw[HC.out]at hc;cases hc⟩
     case measure=>(simp[intOf] <;> omega)
   ·go_wp2
    go_ret;exact⟨-1,rfl,HB,Or.inr ⟨rfl,fun c hc hp=>by
     have h1:=HN.out c hc hp;have h2:=(zn c).2;have h3:=qaC hc hp;omega⟩⟩
  · --4
   rcases (show (i:Int)+4<=(s.size:Int)∨(s.size:Int)<(i:Int)+4 by omega) with hsz | hsz
   ·have hsz':i+4<=s.size:=by omega
    have hs1:i+1<s.size:=by omega
    have hs2:i+2<s.size:=by omega
    have hs3:i+3<s.size:=by omega
    have hx0:((s[i]'hi).toNat:Int)<=255:=by have:=(s[i]'hi).toNat_lt;omega
    have hx1:((s[i+1]'hs1).toNat:Int)<=255:=by have:=(s[i+1]'hs1).toNat_lt;omega
    have hx2:((s[i+2]'hs2).toNat:Int)<=255:=by have:=(s[i+2]'hs2).toNat_lt;omega
    have hx3:((s[i+3]'hs3).toNat:Int)<=255:=by have:=(s[i+3]'hs3).toNat_lt;omega
    go_wp2;refine wp_loop_rounds 5 ?_;rw[rounds_succ];go_wp2_with (rw[rounds_succ]);have hN:(((((s[i]'hi).toNat:Int)-240)*64+((s[i+1]'hs1).toNat:Int)-128)*64+((s[i+2]'hs2).toNat:Int)-128)*64+((s[i+3]'hs3).toNat:Int)-128=j4 s i 4:=by
     have q0:s.get! i=s[i]'hi:=get_at s i hi;have q1:s.get! (i+1)=s[i+1]'hs1:=get_at s (i+1) hs1;have q2:s.get! (i+2)=s[i+2]'hs2:=get_at s (i+2) hs2;have q3:s.get! (i+3)=s[i+3]'hs3:=get_at s (i+3) hs3;simp only[j4,q0,q1,q2,q3]
    rw[hN];obtain⟨n,hn⟩:=nW (j4 s i 4);rw[<- hn];have hsl:∀ W:World,(Instr.slice 9 (.string s) (some (.int .i64 (i:Int))) (some (.int .i64 ((i:Int)+4))) none).run Tryz.prog W=.ok (.string (s.extract i (i+4))) W:=fun W=>qaD (k:=4) (by omega) (by omega) W;have HQ:=hid hn;clear hN hn hx0 hx1 hx2 hx3;have hk:i+4<=s.size:=by omega
    have HPE:=hid (@qaU s i 4 n hk);have HW:Hid (∀ c,cpB c=true->enc c <+: s.data.toList.drop i->4+1<=wid c∨(n=c/\wid c=4)):=hid (by
     intro c hc hp;have h1:=HN.out c hc hp;by_cases h2:wid c=4
     ·exact Or.inr ⟨by have h3:=QO hc hp;rw[h2]at h3;rw[HQ.out,h3],h2⟩
     ·exact Or.inl (by omega))
    by_cases hc:cpB n=true
    ·refine qE (by kernel_rfl) (by kernel_rfl) ?_
     have HC:=hid hc;clear hc;obtain⟨qb,hqb⟩:=nW ((Utf8.encode n).toList==(s.extract i (i+4)).toList);have hqb2:=hqb.symm;clear hqb hk;repeat (go_big_quiet_step (first | (go_at_call 179;exact (Zd HC _).mono fun e w' h=>⟨h.1,⟨_,Abv.bel _⟩,h.2.symm⟩) | (go_at_call 180;exact (Qr HC _).mono fun e w' h=>⟨h.1,⟨_,(Abv.bel _).on h.2⟩,rfl⟩)))
     refine wpQuiet_nil ?_;intro w4 hw4;have HBE:Hid (Bel w w4):=hid (by obtain⟨m,rfl⟩:=hw4;exact (by repeat (first | exact HB.out | refine Bel.alloc ?_ _):Bel w _).on m.bel);have HQB:=hid hqb2;clear hw4 hqb2;cases qb
     ·go_wp2
      go_roundw
      case rel=>exact⟨5,by omega,by omega,by go_num,HBE,fun c hc hp=>by
       rcases HW.out c hc hp with h | ⟨rfl,h⟩
       ·exact h
       ·have:=HPE.2 ⟨by rw[zF hc,h],hp⟩
        rw[HQB.out]at this;cases this⟩
      case measure=>(simp[intOf] <;> omega)
     ·go_wp2
      go_ret;exact⟨n,rfl,HBE,Or.inl ⟨HC,(HPE.1 HQB).2⟩⟩
    ·have hc:cpB n=false:=by simpa using hc
     have HC:=hid hc;clear hc;refine qE (by kernel_rfl) (by kernel_rfl) ?_;repeat (go_big_quiet_step ((go_at_call 179;exact (Je HC _).mono fun e w' h=>⟨h.1,⟨_,Abv.bel _⟩,h.2.symm⟩)))
     refine wpQuiet_nil ?_;intro w4 hw4;have HBE:Hid (Bel w w4):=hid (by obtain⟨m,rfl⟩:=hw4;exact (by repeat (first | exact HB.out | refine Bel.alloc ?_ _):Bel w _).on m.bel);clear hw4;go_wp2;go_roundw
     case rel=>exact⟨5,by omega,by omega,by go_num,HBE,fun c hc hp=>by
      rcases HW.out c hc hp with h | ⟨rfl,h⟩
      ·exact h
      ·rw[HC.out]at hc;cases hc⟩
     case measure=>(simp[intOf] <;> omega)
   ·go_wp2
    go_ret;exact⟨-1,rfl,HB,Or.inr ⟨rfl,fun c hc hp=>by
     have h1:=HN.out c hc hp;have h2:=(zn c).2;have h3:=qaC hc hp;omega⟩⟩
  ·go_wp2
   go_ret;exact⟨-1,rfl,HB,Or.inr ⟨rfl,fun c hc hp=>by
    have h1:=HN.out c hc hp;have h2:=(zn c).2;omega⟩⟩
end Go.Proofs.YtmloadclmjcbbaaGreatDoor.Mu
namespace Go.Proofs.YtmloadclmjcbbaaGreatDoor.Mu
open Go.RowKit Go.Shelf
set_option maxRecDepth 100000
def Pn.cells(x:Pn):List Value:=[.int .i32 x.r,.int .i64 x.p.a,.int .i64 x.p.l,.int .i64 x.p.c]
def Qw(xs:List Pn):List Value:=xs.flatMap Pn.cells
theorem Jn(xs:List Pn):(Qw xs).length=xs.length*4:=by
 induction xs with
 | nil=>rfl
 | cons x xs ih=>simp only[Qw,List.flatMap_cons,List.length_append,List.length_cons,Pn.cells,List.length_nil]at *;omega
theorem qaf(xs:List Pn)(x:Pn):Qw (xs++[x])=Qw xs++x.cells:=by simp[Qw]
theorem qjV{w:World}{base n c:Nat}{e:TypeId}{A:OA}{xs:List Pn}(h:w.ownsRow base e 4 (.slice A n c) n (Qw xs)):n=xs.length:=by
 have h1:=h.1;rw[Jn]at h1;omega
def RP(w:World)(B:Nat)(A:OA)(n:Nat)(xs:List Pn):Prop:=
 n=xs.length/\(0<n->∃ b off,A=some ⟨b,off,none⟩/\b<B/\∀ (k:Nat) (x:Pn),xs[k]?=some x->w.cell? ⟨b,off+k*4,none⟩=some (.int .i32 x.r)/\w.cell? ⟨b,off+k*4+1,none⟩=some (.int .i64 x.p.a)/\w.cell? ⟨b,off+k*4+2,none⟩=some (.int .i64 x.p.l)/\w.cell? ⟨b,off+k*4+3,none⟩=some (.int .i64 x.p.c))
section
variable {w w' : World} {B B' n : Nat} {A : OA} {xs : List Pn}
theorem RP.nil_:RP w B A 0 []:=⟨rfl,fun h=>absurd h (by omega)⟩
theorem RP.len(h:RP w B A n xs):n=xs.length:=h.1
theorem RP.at_(h:RP w B A n xs)(hn:0<n):∃ b off,A=some ⟨b,off,none⟩/\b<B/\∀ (k:Nat) (x:Pn),xs[k]?=some x->w.cell? ⟨b,off+k*4,none⟩=some (.int .i32 x.r)/\w.cell? ⟨b,off+k*4+1,none⟩=some (.int .i64 x.p.a)/\w.cell? ⟨b,off+k*4+2,none⟩=some (.int .i64 x.p.l)/\w.cell? ⟨b,off+k*4+3,none⟩=some (.int .i64 x.p.c):=h.2 hn
theorem RP.keep(h:RP w B A n xs)(hk:∀ b o,b<B->w'.cell? ⟨b,o,none⟩=w.cell? ⟨b,o,none⟩):RP w' B A n xs:=
 ⟨h.1,fun hn=>by
  obtain⟨b,off,e,hb,hc⟩:=h.2 hn;exact⟨b,off,e,hb,fun k x hx=>by rw[hk _ _ hb,hk _ _ hb,hk _ _ hb,hk _ _ hb];exact hc k x hx⟩⟩
theorem RP.more(h:RP w B A n xs)(hB:B<=B'):RP w B' A n xs:=
 ⟨h.1,fun hn=>by
  obtain⟨b,off,e,hb,hc⟩:=h.2 hn;exact⟨b,off,e,by omega,hc⟩⟩
theorem RP.bel(h:RP w w.heap.size A n xs)(hb:Bel w w'):RP w' w'.heap.size A n xs:=(h.keep fun b o hp=>hb.cell (p:=⟨b,o,none⟩) hp).more hb.size
theorem qbn:∀ (xs:List Pn) (k:Nat) (x:Pn),xs[k]?=some x->(Qw xs)[k*4]?=some (.int .i32 x.r)/\(Qw xs)[k*4+1]?=some (.int .i64 x.p.a)/\(Qw xs)[k*4+2]?=some (.int .i64 x.p.l)/\(Qw xs)[k*4+3]?=some (.int .i64 x.p.c)
 | [],k,x,h=>by simp at h
 | y::xs,0,x,h=>by
  simp at h;subst h;simp[Qw,Pn.cells]
 | y::xs,k+1,x,h=>by
  have ih:=qbn xs k x (by simpa using h);have e:Qw (y::xs)=y.cells++Qw xs:=by simp[Qw]
  have hl:y.cells.length=4:=rfl;rw[e];refine⟨?_,?_,?_,?_⟩
  ·rw[List.getElem?_append_right (by omega),hl,show (k+1)*4-4=k*4 by omega];exact ih.1
  ·rw[List.getElem?_append_right (by omega),hl,show (k+1)*4+1-4=k*4+1 by omega];exact ih.2.1
  ·rw[List.getElem?_append_right (by omega),hl,show (k+1)*4+2-4=k*4+2 by omega];exact ih.2.2.1
  ·rw[List.getElem?_append_right (by omega),hl,show (k+1)*4+3-4=k*4+3 by omega];exact ih.2.2.2
theorem RP.of_own{base c:Nat}{e:TypeId}(h:w.ownsRow base e 4 (.slice A n c) n (Qw xs)):RP w w.heap.size A n xs:=by
 refine⟨qjV h,fun hn=>?_⟩;obtain⟨g,cap,hv,_,hlt⟩:=h.form hn;have hA:A=some ⟨g,0,none⟩:=by injection hv
 subst hA;refine⟨g,0,rfl,hlt,fun k x hx=>?_⟩;obtain⟨a0,a1,a2,a3⟩:=qbn xs k x hx;have c0:=h.cells (g:=g) rfl _ _ a0;have c1:=h.cells (g:=g) rfl _ _ a1;have c2:=h.cells (g:=g) rfl _ _ a2;have c3:=h.cells (g:=g) rfl _ _ a3;rw[Addr.add_lit]at c0 c1 c2 c3;exact⟨c0,by rw[Nat.add_assoc];exact c1,by rw[Nat.add_assoc];exact c2,by rw[Nat.add_assoc];exact c3⟩
end
def place(p:Pl):List Int->List Pn
 | []=>[]
 | c::cs=>⟨c,p⟩::place (p.next c) cs
def ends(p:Pl)(cs:List Int):Pl:=cs.foldl Pl.next p
theorem qbh(p:Pl)(cs:List Int)(c:Int):ends p (cs++[c])=(ends p cs).next c:=by simp[ends]
theorem qbu:∀ (p:Pl) (cs ds:List Int),place p (cs++ds)=place p cs++place (ends p cs) ds
 | p,[],ds=>rfl
 | p,c::cs,ds=>by
  show _::place (p.next c) (cs++ds)=_;rw[qbu (p.next c) cs ds];rfl
theorem qak(p:Pl)(cs:List Int)(c:Int):place p (cs++[c])=place p cs++[⟨c,ends p cs⟩]:=by rw[qbu];rfl
theorem Q8:∀ (p:Pl) (cs:List Int),(place p cs).length=cs.length
 | _,[]=>rfl
 | p,c::cs=>by show (place (p.next c) cs).length+1=_;rw[Q8];rfl
theorem Jz:∀ (p:Pl) (cs:List Int) (k:Nat) (c:Int),cs[k]?=some c->(place p cs)[k]?=some ⟨c,ends p (cs.take k)⟩
 | p,d::cs,0,c,h=>by simp at h;subst h;rfl
 | p,d::cs,k+1,c,h=>by
  have:=Jz (p.next d) cs k c (by simpa using h);simpa [place,ends] using this
def p0:Pl:=⟨0,1,1⟩
def AllCp(cs:List Int):Prop:=∀ c∈cs,cpB c=true
theorem AllCp.cons{c:Int}{cs:List Int}(h:AllCp (c::cs)):cpB c=true/\AllCp cs:=⟨h c (by simp),fun d hd=>h d (by simp[hd])⟩
theorem AllCp.take{cs:List Int}(h:AllCp cs)(k:Nat):AllCp (cs.take k):=fun c hc=>h c (List.mem_of_mem_take hc)
theorem AllCp.app{cs ds:List Int}(h:AllCp cs)(k:AllCp ds):AllCp (cs++ds):=fun c hc=>(List.mem_append.1 hc).elim (h c) (k c)
theorem qD(c:Int)(cs:List Int):encs (c::cs)=enc c++encs cs:=rfl
theorem zO(cs ds:List Int):encs (cs++ds)=encs cs++encs ds:=by simp[encs]
theorem zj{cs:List Int}(h:AllCp cs):cs.length<=(encs cs).length:=by
 induction cs with
 | nil=>simp
 | cons c cs ih=>
  have h1:=zF h.cons.1;have h2:=zn c;have:=ih h.cons.2;rw[qD,List.length_append,List.length_cons];omega
theorem qjC{cs:List Int}(h:AllCp cs)(p:Pl):(ends p cs).a=p.a+((encs cs).length:Int):=by
 induction cs generalizing p with
 | nil=>simp[ends,encs]
 | cons c cs ih=>
  have h1:=zF h.cons.1;have e:(p.next c).a=p.a+wid c:=by unfold Pl.next;split <;> rfl
  show (ends (p.next c) cs).a=_;rw[ih h.cons.2,e,qD,List.length_append,h1];omega
theorem qil(cs:List Int)(p:Pl)(hl:0<=p.l)(hc:0<=p.c):0<=(ends p cs).l/\(ends p cs).l<=p.l+cs.length/\0<=(ends p cs).c/\(ends p cs).c<=p.c+1+cs.length:=by
 induction cs generalizing p with
 | nil=>simp[ends];omega
 | cons c cs ih=>
  have h:0<=(p.next c).l/\(p.next c).l<=p.l+1/\0<=(p.next c).c/\(p.next c).c<=p.c+1:=by unfold Pl.next;split <;> simp <;> omega
  have:=ih (p.next c) h.1 h.2.2.1;show 0<=(ends (p.next c) cs).l/\_<=_/\0<=(ends (p.next c) cs).c/\_<=_;rw[List.length_cons];show 0<=(ends (p.next c) cs).l/\(ends (p.next c) cs).l<=_/\0<=(ends (p.next c) cs).c/\(ends (p.next c) cs).c<=_;omega
theorem qim{cs:List Int}(h:AllCp cs){n:Nat}(hn:(encs cs).length<=n):(ends p0 cs).sm (n+2):=by
 have h1:=qjC h p0;have h2:=qil cs p0 (by decide) (by decide);have h3:=zj h;have e1:p0.a=0:=rfl;have e2:p0.l=1:=rfl;have e3:p0.c=1:=rfl;rw[e1]at h1;rw[e2,e3]at h2;unfold Pl.sm;omega
structure Cps (L:LU) (cs:List Int) (rest:LU):Prop where
 cp:AllCp cs
 eq:L=encs cs++rest
 no:∀ c,cpB c=true->¬ enc c <+: rest
theorem qeP{c:Int}(h:cpB c=true):enc c≠[]:=fun e=>by
 have h1:=zF h;have h2:=zn c;rw[e]at h1;simp at h1;omega
theorem Cps.nil{cs:List Int}(h:AllCp cs):Cps (encs cs) cs []:=⟨h,by simp,fun c hc hp=>qeP hc (List.prefix_nil.1 hp)⟩
open Classical in
theorem qbc:∀ (n:Nat) (L:LU),L.length<=n->∃ cs rest,Cps L cs rest
 | 0,L,h=>⟨[],L,fun c hc=>by simp at hc,by simp[encs],fun c hc hp=>by
  have:L=[]:=List.eq_nil_of_length_eq_zero (by omega);rw[this]at hp;exact qeP hc (List.prefix_nil.1 hp)⟩
 | n+1,L,h=>by
  by_cases hx:∃ c,cpB c=true/\enc c <+: L
  ·obtain⟨c,hc,r,hr⟩:=hx
   have h1:=zF hc;have h2:=zn c;have:r.length<=n:=by rw[<- hr,List.length_append]at h;omega
   obtain⟨cs,rest,hcs⟩:=qbc n r this;exact⟨c::cs,rest,fun d hd=>(List.mem_cons.1 hd).elim (fun e=>e ▸ hc) (hcs.cp d),by rw[qD,List.append_assoc,<- hcs.eq,hr],hcs.no⟩
  ·exact⟨[],L,fun c hc=>by simp at hc,by simp[encs],fun c hc hp=>hx ⟨c,hc,hp⟩⟩
theorem qeR{c d:Int}{L:LU}(hc:cpB c=true)(hd:cpB d=true)(h1:enc c <+: L)(h2:enc d <+: L):c=d:=by
 have e1:=Ql (s:=⟨L.toArray⟩) (i:=0) hc (by simpa using h1);have e2:=Ql (s:=⟨L.toArray⟩) (i:=0) hd (by simpa using h2);rw[e1]at e2;have:=(Prod.mk.inj e2).1;have b1:=(qT c).1 hc;have b2:=(qT d).1 hd;omega
theorem Cps.uniq{L:LU}{cs ds:List Int}{r q:LU}(h:Cps L cs r)(k:Cps L ds q):cs=ds/\r=q:=by
 induction cs generalizing L ds with
 | nil=>
  cases ds with
  | nil=>exact⟨rfl,by have:=h.eq;rw[k.eq]at this;simpa [encs] using this.symm⟩
  | cons d ds=>
   exfalso
   have e:=h.eq;rw[k.eq,qD,List.append_assoc]at e;exact h.no d k.cp.cons.1 ⟨_,by simpa [encs] using e⟩
 | cons c cs ih=>
  cases ds with
  | nil=>
   exfalso
   have e:=k.eq;rw[h.eq,qD,List.append_assoc]at e;exact k.no c h.cp.cons.1 ⟨_,by simpa [encs] using e⟩
  | cons d ds=>
   have e:enc c++(encs cs++r)=enc d++(encs ds++q):=by
    have:=h.eq;rw[k.eq,qD,qD,List.append_assoc,List.append_assoc]at this;exact this.symm
   have e1:=qeR h.cp.cons.1 k.cp.cons.1 (L:=enc c++(encs cs++r)) ⟨_,rfl⟩ ⟨_,e.symm⟩;subst e1;have e2:=List.append_cancel_left e;obtain⟨a,b⟩:=ih (L:=encs cs++r) (ds:=ds) ⟨h.cp.cons.2,rfl,h.no⟩ ⟨k.cp.cons.2,e2,k.no⟩;exact⟨by rw[a],b⟩
theorem Cps.at_{s:BA}{cs:List Int}{r:LU}(h:Cps s.data.toList cs r){k:Nat}{c:Int}(hk:cs[k]?=some c) :
  cpB c=true/\enc c <+: s.data.toList.drop (encs (cs.take k)).length/\(encs (cs.take (k+1))).length=(encs (cs.take k)).length+wid c/\(encs (cs.take k)).length<s.size:=by
 have hlt:=(List.getElem?_eq_some_iff.1 hk).1;have hc:cpB c=true:=h.cp c (by rw[<- (List.getElem?_eq_some_iff.1 hk).2];exact List.getElem_mem hlt);have e1:cs.take (k+1)=cs.take k++[c]:=by
  rw[List.take_succ_eq_append_getElem hlt,(List.getElem?_eq_some_iff.1 hk).2]
 have e2:cs=cs.take k++c::cs.drop (k+1):=by
  conv=>lhs;rw[<- List.take_append_drop (k+1) cs,e1]
  simp
 have e3:s.data.toList=encs (cs.take k)++(enc c++(encs (cs.drop (k+1))++r)):=by
  conv=>lhs;rw[h.eq,e2]
  simp[zO,qD,List.append_assoc]
 have h1:=zF hc;have h2:=zn c;refine⟨hc,?_,?_,?_⟩
 ·rw[e3,List.drop_left];exact⟨_,rfl⟩
 ·rw[e1,zO,List.length_append];simp[encs,h1]
 ·have:s.data.toList.length=s.size:=by rw[Array.length_toList];rfl
  rw[e3,List.length_append,List.length_append]at this;omega
end Go.Proofs.YtmloadclmjcbbaaGreatDoor.Mu
namespace Go.Proofs.YtmloadclmjcbbaaGreatDoor.Mu
open Go.RowKit Go.Shelf
def dv(e:Int)(p:Pl):Value:= .agg #[.int .i64 e,.int .i64 p.a,.int .i64 p.l,.int .i64 p.c]
def z0:Pl:=⟨0,0,0⟩
def qj9(cs:List Int)(rest:LU)(w:World)(e:Ending)(w':World):Prop:=
 Bel w w'/\if rest=[] then ∃ A n c,e=.returned (.tuple #[.slice A n c,(ends p0 cs).v,dv 0 z0])/\RP w' w'.heap.size A n (place p0 cs)
  else e=.returned (.tuple #[.slice none 0 0,z0.v,dv 90 (ends p0 cs)])
def qj8(w:World)(e:Ending)(w':World):Prop:=Bel w w'/\e=.returned (.tuple #[.slice none 0 0,z0.v,dv 3 z0])
theorem qe2:(Tryz.prog.info? 175).map (fun i=>(i.zero,i.size,i.bytes))=some (some (.agg #[.int .i32 0,(0:Int),(0:Int),(0:Int)]),4,32):=by kernel_rfl
theorem J5{w:World}{base:Nat}{e:TypeId}{size:Nat}{v:Value}{n:Nat}{xs:List Value}(h:w.ownsRow base e size v n xs){k:Nat}(hk:k<base)(s:BA)(p:Nat):(w.iterAt k s p).ownsRow base e size v n xs:=by
 obtain⟨h1,h2⟩:=h;refine⟨h1,?_⟩;rcases h2 with h2 | ⟨g,cap,cur,a,b,c,d⟩
 ·exact .inl h2
 ·exact .inr ⟨g,cap,cur,a,b,by rw[Lib.iterAt_other _ _ _ _ _ (by omega)];exact c,d⟩
theorem Zr{w:World}{k:Nat}{s:BA}{p:Nat}(h:w.heap[k]?=some (.stringIter s p)):w.iterPos k=p:=by simp[World.iterPos,h]
theorem blk4(w:World)(o o2 o3 o4:Obj):((((w.alloc o).alloc o2).alloc o3).alloc o4).heap[w.heap.size]?=some o/\((((w.alloc o).alloc o2).alloc o3).alloc o4).heap[w.heap.size+1]?=some o2/\((((w.alloc o).alloc o2).alloc o3).alloc o4).heap[w.heap.size+2]?=some o3/\((((w.alloc o).alloc o2).alloc o3).alloc o4).heap[w.heap.size+3]?=some o4:=by
 have h:=blk3 w o o2 o3;refine⟨((Bel.refl _).alloc o4).blk h.1,((Bel.refl _).alloc o4).blk h.2.1,((Bel.refl _).alloc o4).blk h.2.2,?_⟩;have:=blk1 (((w.alloc o).alloc o2).alloc o3) o4;simpa using this
theorem qU{w:World}{g:Nat}{t:TypeId}{x y z u:Value}(h:w.heap[g]?=some (.cells #[x,y,z,u] t (0,0))) :
  w.cell? ⟨g,0,none⟩=some x/\w.cell? ⟨g,1,none⟩=some y/\w.cell? ⟨g,2,none⟩=some z/\w.cell? ⟨g,3,none⟩=some u/\w.frozen? ⟨g,0,none⟩=false/\w.frozen? ⟨g,1,none⟩=false/\w.frozen? ⟨g,2,none⟩=false/\w.frozen? ⟨g,3,none⟩=false:=by
 simp[World.cell?,World.frozen?,h]
theorem qcY{w:World}{g:Nat}{t:TypeId}{x y z:Value}(h:w.heap[g]?=some (.cells #[x,y,z] t (0,0)))(u v r:Value) :
  (((w.setCell ⟨g,0,none⟩ u).setCell ⟨g,1,none⟩ v).setCell ⟨g,2,none⟩ r).heap[g]?=some (.cells #[u,v,r] t (0,0)):=by
 simp[World.setCell,Array.getElem?_modify,h]
theorem zI{w:World}{g k:Nat}(hk:k≠g)(u v r:Value) :
  (((w.setCell ⟨g,0,none⟩ u).setCell ⟨g,1,none⟩ v).setCell ⟨g,2,none⟩ r).heap[k]?=w.heap[k]?:=by
 rw[Below.heap_setCell _ _ _ _ hk,Below.heap_setCell _ _ _ _ hk,Below.heap_setCell _ _ _ _ hk]
theorem qcZ{w:World}{base:Nat}{e:TypeId}{size:Nat}{V:Value}{n:Nat}{xs:List Value}(h:w.ownsRow base e size V n xs){g:Nat}(hg:g<base)(u v r:Value) :
  (((w.setCell ⟨g,0,none⟩ u).setCell ⟨g,1,none⟩ v).setCell ⟨g,2,none⟩ r).ownsRow base e size V n xs:=by
 obtain⟨h1,h2⟩:=h;refine⟨h1,?_⟩;rcases h2 with h2 | ⟨k,cap,cur,a,b,c,d⟩
 ·exact .inl h2
 ·exact .inr ⟨k,cap,cur,a,b,by rw[zI (by omega)];exact c,d⟩
theorem qeZ(w:World)(a b c d:Value)(t:TypeId):∀ j u,[a,b,c,d][j]?=some u->(w.alloc (.cells #[a,b,c,d] t)).cell? ⟨w.heap.size,j,none⟩=some u:=by
 intro j u hu
 match j,hu with
 | 0,hu=>simp at hu;subst hu;simp
 | 1,hu=>simp at hu;subst hu;simp
 | 2,hu=>simp at hu;subst hu;simp
 | 3,hu=>simp at hu;subst hu;simp
theorem zt{W w5:World}{base:Nat}{e:TypeId}{size:Nat}{V:Value}{n:Nat}{xs:List Value}(hown:W.ownsRow base e size V n xs){o:Obj}(hg:(W.alloc o).grownBy w5 V.ownBlock){k:Nat}(hk:k<base)(hs:k<W.heap.size):w5.heap[k]?=W.heap[k]?:=by
 rw[hg.block k (by simp;omega) (fun h=>by have:=(hown.lt _ h.symm).1;omega),Below.heap_alloc _ _ _ hs]
theorem qbq{w W w5:World}{base:Nat}{e:TypeId}{size:Nat}{V:Value}{n:Nat}{xs:List Value}(hown:W.ownsRow base e size V n xs)(hb:Bel w W){o:Obj}(hg:(W.alloc o).grownBy w5 V.ownBlock)(hk:w.heap.size<=base):Bel w w5:=
 Below.grown (hb.alloc o) hg (by have:=hb.size;simp;omega) (fun j hj=>by have:=(hown.lt _ hj).1;omega)
theorem qcy{p:Pl}{c:Int}(hc:cpB c=true)(hp:p.sm 4002)(w:World) :
  Calls Tryz.prog 158 #[.agg #[.int .i64 p.a,p.l,p.c],.int .i32 c] w fun e w'=>e=.returned (.agg #[.int .i64 (p.next c).a,.int .i64 (p.next c).l,.int .i64 (p.next c).c])/\Bel w w':=
 qdu hc (by unfold Pl.sm at *;omega) w
theorem qha{w:World}{base:Nat}{e:TypeId}{size:Nat}{V:Value}{n:Nat}{xs:List Value}(h:w.ownsRow base e size V n xs):w.drew.ownsRow base e size V n xs:=h
theorem zT{w:World}{base:Nat}{e:TypeId}{size:Nat}{V:Value}{n:Nat}{xs:List Value}(h:w.ownsRow base e size V n xs){p:Addr}(hg:p.block<base)(u:Value):(w.setCell p u).ownsRow base e size V n xs:=by
 obtain⟨h1,h2⟩:=h;refine⟨h1,?_⟩;rcases h2 with h2 | ⟨k,cap,cur,a,b,c,d⟩
 ·exact .inl h2
 ·exact .inr ⟨k,cap,cur,a,b,by rw[Below.heap_setCell _ _ _ _ (by omega)];exact c,d⟩
theorem qjA:enc 65533=[239,191,189]:=by decide +kernel
theorem hasP(s:BA)(i:Nat)(b:Bool)(h:b=true↔enc 65533 <+: s.data.toList.drop i)(w:World) :
  Calls Tryz.prog 157 #[.string (s.extract i s.size),.string { data:=#[239,191,189] }] w fun e w'=>e=.returned (.bool b)/\w=w':=
 (Tryz.strings_HasPrefix _ _ w).mono fun _ _ k=>⟨by
  rw[k.1];refine zr ?_;rw[Bool.eq_iff_iff,h,qjA];have e:(s.extract i s.size).data.toList=s.data.toList.drop i:=by
   have:=Lib.extract_toList s i s.size;rw[ByteArray.toList_eq]at this;rw[this,List.take_of_length_le];rw[List.length_drop,Array.length_toList];exact Nat.le_refl _
  rw[e];unfold Lib.hasPrefix;exact List.isPrefixOf_iff_prefix,k.2.symm⟩
theorem qfu{s:BA}(hs:4000<s.size)(w:World):Calls Tryz.prog 139 #[.string s] w (qj8 w):=by
 have hs':(4000:Int)<(s.size:Int):=by omega
 go_enter Tryz.func139,Tryz.ntmps139;go_wp2;refine bodyPost_ret (v:= .tuple #[.slice none 0 0,z0.v,dv 3 z0]) ?_ rfl ⟨?_,rfl⟩
 ·simp[results,Tryz.results139,go_sem,Pl.v,dv,z0]
 ·repeat (first | exact Bel.refl _ | refine Bel.set_ ?_ (by simp) _ | refine Bel.alloc ?_ _ | refine Bel.drew ?_)
theorem qc1{s:BA}{cs:List Int}{rest:LU}(h:Cps s.data.toList cs rest)(hs:s.size<=4000)(w:World):Calls Tryz.prog 139 #[.string s] w (qj9 cs rest w):=by
 have hlen:s.data.toList.length=s.size:=by rw[Array.length_toList];rfl
 have hcl:(encs cs).length+rest.length=s.size:=by rw[<- hlen,h.eq,List.length_append]
 have HL:=hid hcl;have H:=hid h;have hs':(s.size:Int)<=4000:=by omega
 clear h hlen hcl;go_enter Tryz.func139,Tryz.ntmps139;go_wp2;go_loopw [5] (fun v wr=>∃ (j:Nat) (A:OA) (n c:Nat),j<=cs.length/\v=.slice A n c/\wr.heap[w.heap.size+3]?=some (.stringIter s (encs (cs.take j)).length) ∧
   wr.heap[w.heap.size+2]?=some (.cells #[.int .i64 (ends p0 (cs.take j)).a,.int .i64 (ends p0 (cs.take j)).l,.int .i64 (ends p0 (cs.take j)).c] 24 (0,0)) ∧
   wr.heap[w.heap.size]?=some (.cells #[.int .i64 0,(0:Int),(0:Int)] 24 (0,0)) ∧
   wr.heap[w.heap.size+1]?=some (.cells #[.int .i64 0,(0:Int),(0:Int),(0:Int)] 140 (0,0)) ∧
   wr.ownsRow (w.heap.size+4) 175 4 (.slice A n c) n (Qw (place p0 (cs.take j)))/\Hid (Bel w wr)) (fun _ wr=>s.size-wr.iterPos (w.heap.size+3))
 case atStart=>
  have hb:=blk4 w (.cells #[.int .i64 0,(0:Int),(0:Int)] 24 (0,0)) (.cells #[.int .i64 0,(0:Int),(0:Int),(0:Int)] 140 (0,0)) (.cells #[.int .i64 0,.int .i64 1,.int .i64 1] 24 (0,0)) (.stringIter s 0);exact⟨0,none,0,0,Nat.zero_le _,rfl,hb.2.2.2,hb.2.2.1,hb.1,hb.2.1,World.ownsRow_nil _ _ _ _,((((Bel.refl w).alloc _).alloc _).alloc _).alloc _⟩
 case round=>
  obtain⟨j,A,n,cc,hj,rfl,hit,hp,hz,hd,hown,HB⟩:=hrel;have hpos0:=Zr hit;have HP0:=hid hpos0;clear hpos0;have hsm:=qim (cs:=cs.take j) (H.out.cp.take j) (n:=4000) (by
   have h1:encs cs=encs (cs.take j)++encs (cs.drop j):=by rw[<- zO,List.take_append_drop]
   have h2:=congrArg List.length h1;rw[List.length_append]at h2;have:=HL.out;omega)
  have HSM:=hid hsm;have hBlt:=(Array.getElem?_eq_some_iff.1 hit).1;clear hsm;by_cases hlt:j<cs.length
  ·obtain⟨c,hcj⟩:∃ c,cs[j]?=some c:=⟨_,List.getElem?_eq_getElem hlt⟩
   obtain⟨hcp,hpre,hnext,hposlt⟩:=H.out.at_ hcj;have hdec:=Ql hcp hpre;have hcb:=(qT c).1 hcp;have htk:cs.take (j+1)=cs.take j++[c]:=by
    rw[List.take_succ_eq_append_getElem hlt];rw[List.getElem?_eq_getElem hlt]at hcj;rw[Option.some.inj hcj]
   have hc1:((Utf8.decode s (encs (cs.take j)).length).1:Int)=c:=by rw[hdec];show ((c.toNat:Nat):Int)=c;omega
   have hc2:(encs (cs.take j)).length+(Utf8.decode s (encs (cs.take j)).length).2=(encs (cs.take (j+1))).length:=by rw[hdec,hnext]
   have hnx:∀ ty,(Instr.next (.pointer (some ⟨w.heap.size+3,0,none⟩)) true ty).run Tryz.prog wr=_:=fun ty=>Lib.run_next_any_at wr (w.heap.size+3) s _ ty hit hposlt;simp only[hc1,hc2]at hnx;have hit2:=Lib.iterAt_heap wr (w.heap.size+3) s _ (encs (cs.take (j+1))).length hit;have hp2:=hp;rw[<- Lib.iterAt_other wr (w.heap.size+3) (w.heap.size+2) s (encs (cs.take (j+1))).length (by omega)]at hp2;have hz2:=hz;rw[<- Lib.iterAt_other wr (w.heap.size+3) (w.heap.size) s (encs (cs.take (j+1))).length (by omega)]at hz2;have hd2:=hd;rw[<- Lib.iterAt_other wr (w.heap.size+3) (w.heap.size+1) s (encs (cs.take (j+1))).length (by omega)]at hd2;have hown2:=J5 hown (k:=w.heap.size+3) (by omega) s (encs (cs.take (j+1))).length;have HB2:Hid (Bel w (wr.iterAt (w.heap.size+3) s (encs (cs.take (j+1))).length)):=hid (Lib.below_iterAt HB (by omega) s _);obtain⟨W1,hW1⟩:=nW (wr.iterAt (w.heap.size+3) s (encs (cs.take (j+1))).length);rw[<- hW1]at hnx hit2 hp2 hz2 hd2 hown2 HB2;obtain⟨pos,hpos⟩:=nW ((encs (cs.take j)).length);rw[<- hpos]at hnx hposlt hpre;have hpos1:(pos:Int)<(s.size:Int):=by omega
   clear hW1 hit hp hz hd hown HB hdec hc1 hc2 hcj;have HT:=hid htk;have HCP:=hid hcp;have HPRE:=hid hpre;have HPOS:=hid hpos;have HNX:=hid hnext;clear htk hcp hpre hpos hnext;obtain⟨P,hP⟩:=nW (ends p0 (cs.take j));rw[<- hP]at hp2 HSM;have HPQ:=hid hP;clear hP;have HOW:=hid hown2;have HIT:=hid hit2;have HZ:=hid hz2;have HD:=hid hd2;have HPP:=hid hp2;obtain⟨k0,k1,k2,f0,f1,f2⟩:=Qz hp2;have hBl:w.heap.size+3<W1.heap.size:=(Array.getElem?_eq_some_iff.1 hit2).1;clear hown2 hit2 hz2 hd2 hp2 hBlt;by_cases hff:c=65533
   ·subst hff
    have hln:n<=4000:=by
     have h1:=HOW.1;have h2:=HL.out;have h3:=zj H.out.cp;rw[Jn,Q8,List.length_take]at h1;omega
    go_wp2_with (first | (go_at_call 157;refine (hasP s pos true (by simp[HPRE.out]) _).mono ?_;rintro e w1 ⟨rfl,rfl⟩) | (at_builtin;refine qL rfl _ _ 168 rfl (w.heap.size+4) 175 _ 4 32 Tryz.underlying168 qe2 rfl (by decide) (by decide) A n cc _ rfl (HOW.alloc _) W1.heap.size [.int .i32 65533,P.a,P.l,P.c] rfl rfl (qeZ W1 _ _ _ _ _) (by simp[Value.oneCell']) (by omega) (by simp;omega) ?_;intro V5 c5 w5 hown5 hg5;have HIT5:=hid ((zt HOW hg5 (k:=w.heap.size+3) (by omega) (by omega)).trans HIT);have HP5:=hid ((zt HOW hg5 (k:=w.heap.size+2) (by omega) (by omega)).trans HPP);have HZ5:=hid ((zt HOW hg5 (k:=w.heap.size) (by omega) (by omega)).trans HZ);have HD5:=hid ((zt HOW hg5 (k:=w.heap.size+1) (by omega) (by omega)).trans HD);have HB5:=hid (qbq HOW HB2 hg5 (by omega));have HO5:=hid hown5;clear hown5 hg5 k0 k1 k2 f0 f1 f2;obtain⟨k0,k1,k2,f0,f1,f2⟩:=Qz HP5));refine (qcy HCP HSM _).mono ?_;rintro e w6 ⟨rfl,hb6⟩;have HIT6:=hid (hb6.blk HIT5);have HP6:=hid (hb6.blk HP5);have HZ6:=hid (hb6.blk HZ5);have HD6:=hid (hb6.blk HD5);have HO6:=hid (qG HO5 hb6);have HB6:=hid (HB5.on hb6);clear hb6 k0 k1 k2 f0 f1 f2;obtain⟨k0,k1,k2,f0,f1,f2⟩:=Qz HP6;have hB6:w.heap.size+3<w6.heap.size:=(Array.getElem?_eq_some_iff.1 HIT6).1;go_wp2;have HIT7:=hid ((zI (w:=w6) (g:=w.heap.size+2) (k:=w.heap.size+3) (by omega) (.int .i64 (P.next 65533).a) (.int .i64 (P.next 65533).l) (.int .i64 (P.next 65533).c)).trans HIT6);go_roundw
    case rel=>
     exact⟨j+1,V5,n+1,c5,by omega,rfl,HIT7,by rw[HT.out,qbh,<- HPQ.out];exact qcY HP6 _ _ _,(zI (by omega) _ _ _).trans HZ6,(zI (by omega) _ _ _).trans HD6,by
      have:=qcZ (g:=w.heap.size+2) HO6 (by omega) (.int .i64 (P.next 65533).a) (.int .i64 (P.next 65533).l) (.int .i64 (P.next 65533).c);rw[HT.out,qak,qaf,<- HPQ.out];exact this,Bel.set_ (Bel.set_ (Bel.set_ HB6 (by show w.heap.size<=w.heap.size+2;omega) _) (by show w.heap.size<=w.heap.size+2;omega) _) (by show w.heap.size<=w.heap.size+2;omega) _⟩
    case measure=>
     have e1:=Zr HIT7;have e2:=HP0.out;have e3:=HPOS.out;have e4:=HNX.out;have e5:=(zn 65533).1;rw[e1,e2];omega
   ·have e1:(c==65533)=false:=by simpa using hff
    have hln:n<=4000:=by
     have h1:=HOW.1;have h2:=HL.out;have h3:=zj H.out.cp;rw[Jn,Q8,List.length_take]at h1;omega
    clear hff;go_wp2_with (at_builtin;refine qL rfl _ _ 168 rfl (w.heap.size+4) 175 _ 4 32 Tryz.underlying168 qe2 rfl (by decide) (by decide) A n cc _ rfl (HOW.alloc _) W1.heap.size [.int .i32 c,P.a,P.l,P.c] rfl rfl (qeZ W1 _ _ _ _ _) (by simp[Value.oneCell']) (by omega) (by simp;omega) ?_;intro V5 c5 w5 hown5 hg5;have HIT5:=hid ((zt HOW hg5 (k:=w.heap.size+3) (by omega) (by omega)).trans HIT);have HP5:=hid ((zt HOW hg5 (k:=w.heap.size+2) (by omega) (by omega)).trans HPP);have HZ5:=hid ((zt HOW hg5 (k:=w.heap.size) (by omega) (by omega)).trans HZ);have HD5:=hid ((zt HOW hg5 (k:=w.heap.size+1) (by omega) (by omega)).trans HD);have HB5:=hid (qbq HOW HB2 hg5 (by omega));have HO5:=hid hown5;clear hown5 hg5 k0 k1 k2 f0 f1 f2;obtain⟨k0,k1,k2,f0,f1,f2⟩:=Qz HP5);refine (qcy HCP HSM _).mono ?_;rintro e w6 ⟨rfl,hb6⟩;have HIT6:=hid (hb6.blk HIT5);have HP6:=hid (hb6.blk HP5);have HZ6:=hid (hb6.blk HZ5);have HD6:=hid (hb6.blk HD5);have HO6:=hid (qG HO5 hb6);have HB6:=hid (HB5.on hb6);clear hb6 k0 k1 k2 f0 f1 f2;obtain⟨k0,k1,k2,f0,f1,f2⟩:=Qz HP6;have hB6:w.heap.size+3<w6.heap.size:=(Array.getElem?_eq_some_iff.1 HIT6).1;go_wp2;have HIT7:=hid ((zI (w:=w6) (g:=w.heap.size+2) (k:=w.heap.size+3) (by omega) (.int .i64 (P.next c).a) (.int .i64 (P.next c).l) (.int .i64 (P.next c).c)).trans HIT6);go_roundw
    case rel=>
     exact⟨j+1,V5,n+1,c5,by omega,rfl,HIT7,by rw[HT.out,qbh,<- HPQ.out];exact qcY HP6 _ _ _,(zI (by omega) _ _ _).trans HZ6,(zI (by omega) _ _ _).trans HD6,by
      have:=qcZ (g:=w.heap.size+2) HO6 (by omega) (.int .i64 (P.next c).a) (.int .i64 (P.next c).l) (.int .i64 (P.next c).c);rw[HT.out,qak,qaf,<- HPQ.out];exact this,Bel.set_ (Bel.set_ (Bel.set_ HB6 (by show w.heap.size<=w.heap.size+2;omega) _) (by show w.heap.size<=w.heap.size+2;omega) _) (by show w.heap.size<=w.heap.size+2;omega) _⟩
    case measure=>
     have e1:=Zr HIT7;have e2:=HP0.out;have e3:=HPOS.out;have e4:=HNX.out;have e5:=(zn c).1;rw[e1,e2];omega
  ·obtain rfl:j=cs.length:=by omega
   simp only[List.take_length]at hit hp hown HSM HP0;obtain⟨k0,k1,k2,f0,f1,f2⟩:=Qz hp;obtain⟨zz0,zz1,zz2,zf0,zf1,zf2⟩:=Qz hz;obtain⟨d0,d1,d2,d3,df0,df1,df2,df3⟩:=qU hd;obtain⟨P,hP⟩:=nW (ends p0 cs);rw[<- hP]at k0 k1 k2;have HPQ:=hid hP;clear hP;by_cases hr:rest=[]
   ·have hnx:∀ ty,(Instr.next (.pointer (some ⟨w.heap.size+3,0,none⟩)) true ty).run Tryz.prog wr=_:=fun ty=>Lib.run_next_end_at wr (w.heap.size+3) s _ ty hit (by have:=HL.out;rw[hr]at this;simp at this;omega)
    have HR:=hid hr;have HO:=hid hown;have HIT:=hid hit;clear hr hown hit hp hz hd;go_wp2_with fail;go_region_with (fail);all_goals
     go_wp2;refine bodyPost_ret (v:= .tuple #[.slice A n cc,P.v,dv 0 Mu.z0]) ?_ rfl ⟨?_,?_⟩
     ·simp[results,Tryz.results139,go_sem,Pl.v,dv,Mu.z0, *]
     ·repeat (first | with_reducible exact HB.out | with_reducible refine Bel.set_ ?_ (by simp) _ | with_reducible refine Bel.alloc ?_ _ | with_reducible refine Bel.drew ?_)
     ·rw[if_pos HR.out]
      refine⟨A,n,cc,by rw[HPQ.out],RP.of_own (base:=w.heap.size+4) (c:=cc) (e:=175) ?_⟩;repeat (first | with_reducible exact HO.out | with_reducible refine zT ?_ (by show _<w.heap.size+4;simp) _ | with_reducible refine qha ?_)
   ·have hdr:s.data.toList.drop (encs cs).length=rest:=by rw[H.out.eq,List.drop_left]
    have hrl:0<rest.length:=List.length_pos_iff.2 hr;have hlt2:(encs cs).length<s.size:=by have:=HL.out;omega
    have hdec:(Utf8.decode s (encs cs).length)=(65533,1):=by
     rcases hd':Utf8.decode s (encs cs).length with ⟨c,k⟩
     by_cases hb:c=65533/\k=1
     ·rw[hb.1,hb.2]
     ·exfalso
      obtain⟨h1,_,h3⟩:=qae hlt2 hd' hb;rw[hdr]at h3;exact H.out.no _ h1 h3
    have hnx:∀ ty,(Instr.next (.pointer (some ⟨w.heap.size+3,0,none⟩)) true ty).run Tryz.prog wr=_:=fun ty=>Lib.run_next_any_at wr (w.heap.size+3) s _ ty hit hlt2;rw[hdec]at hnx;have hnp:false=true↔enc 65533 <+: s.data.toList.drop (encs cs).length:=⟨(fun h=>by cases h),(fun h=>by rw[hdr]at h;exact absurd h (H.out.no _ (by decide +kernel)))⟩
    obtain⟨pos,hpos⟩:=nW ((encs cs).length);rw[<- hpos]at hnx hlt2 hnp;have hp2:=hp;rw[<- Lib.iterAt_other wr (w.heap.size+3) (w.heap.size+2) s (pos+1) (by omega)]at hp2;have hz2:=hz;rw[<- Lib.iterAt_other wr (w.heap.size+3) (w.heap.size) s (pos+1) (by omega)]at hz2;have hd2:=hd;rw[<- Lib.iterAt_other wr (w.heap.size+3) (w.heap.size+1) s (pos+1) (by omega)]at hd2;have HB2:Hid (Bel w (wr.iterAt (w.heap.size+3) s (pos+1))):=hid (Lib.below_iterAt HB (by omega) s _);obtain⟨W1,hW1⟩:=nW (wr.iterAt (w.heap.size+3) s (pos+1));have hnx':∀ ty,(Instr.next (.pointer (some ⟨w.heap.size+3,0,none⟩)) true ty).run Tryz.prog wr=.ok (.tuple #[.bool true,pos,.int .i32 65533]) W1:=fun ty=>by rw[hW1];exact hnx ty
    rw[<- hW1]at hp2 hz2 hd2 HB2;have hsz:W1.heap.size=wr.heap.size:=by rw[hW1,Lib.iterAt_size]
    have hB1:w.heap.size+3<W1.heap.size:=by omega
    have hpos1:(pos:Int)<(s.size:Int):=by omega
    have HNP:=hid hnp;have HR:=hid hr;rw[<- HPQ.out]at hp2;clear hnx hW1 hsz hit hp hz hd hown hnp hr hdr hrl hdec hpos k0 k1 k2 f0 f1 f2 zz0 zz1 zz2 zf0 zf1 zf2 d0 d1 d2 d3 df0 df1 df2 df3;obtain⟨k0,k1,k2,f0,f1,f2⟩:=Qz hp2;obtain⟨zz0,zz1,zz2,zf0,zf1,zf2⟩:=Qz hz2;obtain⟨d0,d1,d2,d3,df0,df1,df2,df3⟩:=qU hd2;clear hp2 hz2 hd2;go_wp2_with (go_at_call 157;refine (hasP s pos false HNP _).mono ?_;rintro e w1 ⟨rfl,rfl⟩);go_region_with (fail);all_goals
     go_wp2;refine bodyPost_ret (v:= .tuple #[.slice none 0 0,Mu.z0.v,dv 90 P]) ?_ rfl ⟨?_,?_⟩
     ·simp[results,Tryz.results139,go_sem,Pl.v,dv,Mu.z0, *]
     ·repeat (first | with_reducible exact HB2.out | with_reducible refine Bel.set_ ?_ (by simp) _ | with_reducible refine Bel.alloc ?_ _ | with_reducible refine Bel.drew ?_)
     ·rw[if_neg HR.out,HPQ.out]
end Go.Proofs.YtmloadclmjcbbaaGreatDoor.Mu
namespace Go.Proofs.YtmloadclmjcbbaaGreatDoor.Mu
open Go.RowKit
theorem fPos:((Tryz.prog.fieldsOf 24).toList.map fun f=>(f.name,f.type,f.offset))=[("At",3,0),("Line",3,1),("Col",3,2)]:=by kernel_rfl
theorem map3{α β:Type}{f:α->β}{l:List α}{x y z:β}(h:l.map f=[x,y,z]):∃ a b c,l=[a,b,c]/\f a=x/\f b=y/\f c=z:=by
 match l,h with
 | [a,b,c],h=>simp at h;exact⟨a,b,c,rfl,h.1,h.2.1,h.2.2⟩
theorem qiR(d:Nat)(x y:Pl)(w:World):(Op.equalIn (d+2) 24 (.agg #[.int .i64 x.a,x.l,x.c]) (.agg #[.int .i64 y.a,y.l,y.c])).run Tryz.prog w=.ok (decide (x=y)) w:=by
 rw[run_equalIn_struct w (d+1) 24 _ _ (by kernel_rfl) (by kernel_rfl)];obtain⟨a,b,c,e,ea,eb,ec⟩:=map3 fPos;simp only[Prod.mk.injEq]at ea eb ec;obtain⟨a0,a1,a2⟩:=ea;obtain⟨b0,b1,b2⟩:=eb;obtain⟨c0,c1,c2⟩:=ec;rw[e];have p0:∀ x y z:Value,(part 3 #[x,y,z] 0).run Tryz.prog w=.ok x w:=fun x y z=>by kernel_rfl
 have q0:∀ x y z:Value,(part 3 #[x,y,z] 1).run Tryz.prog w=.ok y w:=fun x y z=>by kernel_rfl
 have r0:∀ x y z:Value,(part 3 #[x,y,z] 2).run Tryz.prog w=.ok z w:=fun x y z=>by kernel_rfl
 have n0:¬ ("At" : String) = "_":=by decide +kernel
 have n1:¬ ("Line" : String) = "_":=by decide +kernel
 have n2:¬ ("Col" : String) = "_":=by decide +kernel
 simp only[Op.eqFields,a0,a1,a2,b0,b1,b2,c0,c1,c2,ne_eq,n0,n1,n2,not_false_eq_true,if_true,Sem.run_bind,p0,q0,r0,Result.andThen_ok,run_equalIn_int w d 3 _ _ _ _ Tryz.underlying3,Sem.run_ite,Sem.run_pure];obtain⟨v,m,c⟩:=x;obtain⟨v',m',c'⟩:=y;by_cases h1:v=v' <;> by_cases h2:m=m' <;> by_cases h3:c=c' <;> simp[h1,h2,h3]
end Go.Proofs.YtmloadclmjcbbaaGreatDoor.Mu
namespace Go.Proofs.YtmloadclmjcbbaaGreatDoor.Mu
open Go.RowKit Go.Shelf
set_option maxRecDepth 100000
structure Ot where
 xs:List Pn
 p:Pl
 e:Int
 q:Pl
def ot(n:Nat)(cs:List Int)(rest:LU):Ot:=
 if 4000<n then ⟨[],z0,3,z0⟩ else if rest=[] then ⟨place p0 cs,ends p0 cs,0,z0⟩ else ⟨[],z0,90,ends p0 cs⟩
def GO3(o:Ot)(w:World)(e:Ending)(w':World):Prop:=
 Bel w w'/\∃ A n c,e=.returned (.tuple #[.slice A n c,.agg #[.int .i64 o.p.a,o.p.l,o.p.c],.agg #[.int .i64 o.e,o.q.a,o.q.l,o.q.c]])/\RP w' w'.heap.size A n o.xs
def GO2(o:Ot)(w:World)(e:Ending)(w':World):Prop:=
 Bel w w'/\∃ A n c,e=.returned (.tuple #[.slice A n c,.agg #[.int .i64 o.e,o.q.a,o.q.l,o.q.c]])/\RP w' w'.heap.size A n o.xs
theorem qjZ{s:BA}{cs:List Int}{rest:LU}(h:Cps s.data.toList cs rest)(w:World):Calls Tryz.prog 139 #[.string s] w (GO3 (ot s.size cs rest) w):=by
 unfold ot;by_cases h1:4000<s.size
 ·rw[if_pos h1]
  exact (qfu h1 w).mono fun e w' k=>⟨k.1,none,0,0,k.2,RP.nil_⟩
 ·rw[if_neg h1]
  by_cases hr:rest=[]
  ·rw[if_pos hr]
   refine (qc1 h (by omega) w).mono fun e w' k=>⟨k.1,?_⟩
   have:=k.2;rw[if_pos hr]at this;exact this
  ·rw[if_neg hr]
   refine (qc1 h (by omega) w).mono fun e w' k=>⟨k.1,none,0,0,?_,RP.nil_⟩
   have:=k.2;rw[if_neg hr]at this;exact this
theorem RP.put4{w:World}{B n g:Nat}{A:OA}{xs:List Pn}{t:TypeId}{a b c d:Int}(h:RP w B A n xs)(hg:w.heap[g]?=some (.cells #[.int .i64 a,b,c,d] t (0,0)))(v0 v1 v2 v3:Value) :
  RP ((((w.setCell ⟨g,0,none⟩ v0).setCell ⟨g,1,none⟩ v1).setCell ⟨g,2,none⟩ v2).setCell ⟨g,3,none⟩ v3) B A n xs:=by
 refine⟨h.1,fun hn=>?_⟩;obtain⟨b,off,e,hb,hc⟩:=h.2 hn;obtain⟨x,hx⟩:∃ x,xs[0]?=some x:=⟨_,List.getElem?_eq_getElem (by have:=h.1;omega)⟩
 have hne:b≠g:=by
  rintro rfl;have h0:=(hc 0 x hx).1;simp only[World.cell?,hg,Option.isSome_none,Bool.false_eq_true,if_false]at h0
  match off,h0 with
  | 0,h0=>simp at h0
  | 1,h0=>simp at h0
  | 2,h0=>simp at h0
  | 3,h0=>simp at h0
  | _+4,h0=>simp at h0
 refine⟨b,off,e,hb,fun j y hy=>?_⟩;have K:∀ o,((((w.setCell ⟨g,0,none⟩ v0).setCell ⟨g,1,none⟩ v1).setCell ⟨g,2,none⟩ v2).setCell ⟨g,3,none⟩ v3).cell? ⟨b,o,none⟩=w.cell? ⟨b,o,none⟩:=fun o=>by
  rw[World.cell?_setCell_other,World.cell?_setCell_other,World.cell?_setCell_other,World.cell?_setCell_other];all_goals (intro e;injection e;omega)
 rw[K,K,K,K];exact hc j y hy
theorem qdR{s:BA}{cs:List Int}{rest:LU}(h:Cps s.data.toList cs rest)(w:World):Calls Tryz.prog 120 #[.string s] w (GO2 (ot s.size cs rest) w):=by
 obtain⟨o,ho⟩:=nW (ot s.size cs rest);have HC:Hid (∀ w,Calls Tryz.prog 139 #[.string s] w (GO3 o w)):=hid (fun w=>by rw[ho];exact qjZ h w);rw[<- ho];clear h ho;go_enter Tryz.func120,Tryz.ntmps120;go_wp2_with fail;refine (HC _).mono ?_;rintro e w1 ⟨hb,A,n,c,rfl,hq⟩;have hb2:=(((Bel.refl w).alloc (.cells #[.int .i64 0,(0:Int),(0:Int),(0:Int)] 140)).on hb)
 obtain⟨d0,d1,d2,d3,df0,df1,df2,df3⟩:=qU (hb.blk (blk1 w (.cells #[.int .i64 0,(0:Int),(0:Int),(0:Int)] 140)));have hsz:w.heap.size<w1.heap.size:=by have:=hb.size;simp at this;omega
 have HB:=hid hb2;have HQ:=hid hq;have HD:=hid (hb.blk (blk1 w (.cells #[.int .i64 0,(0:Int),(0:Int),(0:Int)] 140)));clear hb hb2 hq;go_wp2_with fail;go_region_with (fail);all_goals
  go_wp2;refine bodyPost_ret (v:= .tuple #[.slice A n c,.agg #[.int .i64 o.e,o.q.a,o.q.l,o.q.c]]) ?_ rfl ⟨?_,A,n,c,rfl,?_⟩
  ·simp[results,Tryz.results120,go_sem, *]
  ·repeat (first | with_reducible exact HB.out | with_reducible refine Bel.set_ ?_ (by simp) _ | with_reducible refine Bel.alloc ?_ _ | with_reducible refine Bel.drew ?_)
  ·have hr:=(HQ.out.put4 HD (.int .i64 o.e) (.int .i64 o.q.a) (.int .i64 o.q.l) (.int .i64 o.q.c)).more (B':=((((w1.setCell ⟨w.heap.size,0,none⟩ (.int .i64 o.e)).setCell ⟨w.heap.size,1,none⟩ (.int .i64 o.q.a)).setCell ⟨w.heap.size,2,none⟩ (.int .i64 o.q.l)).setCell ⟨w.heap.size,3,none⟩ (.int .i64 o.q.c)).heap.size) (by simp)
   exact hr.bel ((((Bel.refl _).alloc _).alloc _).drew)
end Go.Proofs.YtmloadclmjcbbaaGreatDoor.Mu
namespace Go.Proofs.YtmloadclmjcbbaaGreatDoor.Mu
open Go.RowKit Go.Shelf
end Go.Proofs.YtmloadclmjcbbaaGreatDoor.Mu
namespace Go.Proofs.YtmloadclmjcbbaaGreatDoor.Mu
open Go.RowKit Go.Shelf
set_option maxRecDepth 100000
def allB(l:List Int):Bool:=l.all cpB
theorem ZV(l:List Int):allB l=true↔AllCp l:=by simp[allB,AllCp]
def putS(l:List Int):LU:=if allB l=true/\(encs l).length<=4000 then encs l else []
def putE(l:List Int):Int:=if allB l=true then (if (encs l).length<=4000 then 0 else 3) else 2
def GPut(l:List Int)(w:World)(e:Ending)(w':World):Prop:=Bel w w'/\e=.returned (.tuple #[.string ⟨(putS l).toArray⟩,.int .i64 (putE l)])
theorem qd7(l:List Int):runesBytes l=⟨(encs l).toArray⟩:=by
 have:∀ (l:List Int) (r:BA),l.foldl (fun r n=>r++Utf8.encode n) r=⟨r.data++(encs l).toArray⟩:=by
  intro l;induction l with
  | nil=>intro r;simp[encs]
  | cons x l ih=>
   intro r;rw[List.foldl_cons,ih];apply ByteArray.ext;rw[qD];apply Array.ext';simp[enc,ByteArray.data_append]
 unfold runesBytes;rw[this];apply ByteArray.ext;apply Array.ext';simp[ByteArray.empty,ByteArray.emptyWithCapacity];rfl
theorem qfV{w:World}{A:OA}{n c:Nat}{l:List Int}(h:RI .i32 w w.heap.size A n l):(convert 223 9 (.slice A n c)).run Tryz.prog w=.ok (.string ⟨(encs l).toArray⟩) w:=by
 rcases Nat.eq_zero_or_pos n with h0 | h0
 ·have hl:l=[]:=List.eq_nil_of_length_eq_zero (by have:=h.len;omega)
  subst hl;subst h0;cases A with
  | none=>rw[run_convert_runes_nil w _ _ 21 _ _ Tryz.underlying223 Tryz.underlying21 Tryz.underlying9];rfl
  | some a=>
   rw[run_convert_runes w _ _ 21 a 0 c [] (by simp) Tryz.underlying223 Tryz.underlying21 Tryz.underlying9 (fun j hj=>by simp at hj)];rfl
 ·obtain⟨b,off,rfl,hb,hc⟩:=h.at_ h0
  rw[run_convert_runes w _ _ 21 ⟨b,off,none⟩ n c l (by have:=h.len;omega) Tryz.underlying223 Tryz.underlying21 Tryz.underlying9 (fun j hj=>by
   rw[Addr.add_lit,hc j (by have:=h.len;omega)];simp[List.getD])]
  rw[List.take_of_length_le (by have:=h.len;omega),qd7]
theorem qh6{l:List Int}{j:Nat}{x:Int}(hx:l[j]?=some x)(h:cpB x=false):allB l=false:=by
 rw[Bool.eq_false_iff];intro h';have:=(ZV l).1 h' x (List.mem_of_getElem? hx);rw[h]at this;cases this
theorem qdq{l:List Int}{j:Nat}{x:Int}(h:AllCp (l.take j))(hx:l[j]?=some x)(hc:cpB x=true):AllCp (l.take (j+1))/\(encs (l.take (j+1))).length=(encs (l.take j)).length+wid x/\encs (l.take (j+1))=encs (l.take j)++enc x:=by
 have hlt:=(List.getElem?_eq_some_iff.1 hx).1;have e1:l.take (j+1)=l.take j++[x]:=by
  rw[List.take_succ_eq_append_getElem hlt,(List.getElem?_eq_some_iff.1 hx).2]
 rw[e1,zO];refine⟨h.app fun c hcc=>by simp at hcc;subst hcc;exact hc,?_,by simp[encs]⟩;rw[List.length_append];simp[encs,zF hc]
theorem qgG(c:Int):(enc c).length<=4:=encode_size_le c
theorem qeS(l:List Int):(encs l).length<=4*l.length:=by
 induction l with
 | nil=>simp[encs]
 | cons x l ih=>rw[qD,List.length_append,List.length_cons];have:=qgG x;omega
theorem qiT{A:OA}{n c:Nat}{l:List Int}(hn:n<=1000000000)(w:World)(h:RI .i32 w w.heap.size A n l):Calls Tryz.prog 185 #[.slice A n c] w (GPut l w):=by
 have hcv:=qfV (c:=c) h;have H:=hid h;have hle:=qeS l;rw[<- h.len]at hle;have HLE:=hid hle;clear h hle;go_enter Tryz.func185,Tryz.ntmps185;go_wp2;go_loop [4,9] (fun v i=>∃ j:Nat,j<=n/\i=.int .i64 j/\v=.int .i64 (encs (l.take j)).length/\Hid (AllCp (l.take j))) (fun _ i=>n-(intOf i).toNat)
 case atStart=>exact⟨0,Nat.zero_le _,rfl,rfl,fun c hc=>by simp at hc⟩
 case round=>
  obtain⟨j,hj,rfl,rfl,HA⟩:=hrel;by_cases hlt:j<n
  ·obtain⟨x,hx⟩:∃ x,l[j]?=some x:=⟨_,List.getElem?_eq_getElem (by have:=H.out.len;omega)⟩
   obtain⟨b,off,rfl,hb,hc⟩:=H.out.at_ (by omega);have hcx:=hc j hlt;rw[hx]at hcx;simp only[Option.getD_some]at hcx;have HX:=hid hx;have hel:(encs (l.take j)).length<=4*j:=by
    have:=qeS (l.take j);rw[List.length_take]at this;omega
   obtain⟨m,hm⟩:=nW ((encs (l.take j)).length);rw[<- hm]at hel ⊢;have HM:=hid hm;clear hc hx hm;by_cases hcp:cpB x=true
   ·have hw:=zn x
    have HCP:=hid hcp;clear hcp;go_wp2_with (first | (go_at_call 194;refine (show ∀ w,Calls Tryz.prog 194 #[.int .i32 x] w fun e w'=>e=.returned (.bool true)/\w=w' from fun w=>(qh5 x w).mono fun _ _ k=>⟨by rw[k.1,HCP.out],k.2⟩) _ |>.mono ?_;rintro e w' ⟨rfl,rfl⟩) | (go_at_call 182;refine (qh0 HCP _).mono ?_;rintro e w' ⟨rfl,rfl⟩));go_round
    case rel=>
     obtain⟨a1,a2,-⟩:=qdq HA HX HCP;exact⟨j+1,by omega,by go_num,by rw[a2,<- HM.out];go_num,a1⟩
    case measure=>simp[intOf];omega
   ·have hcp:cpB x=false:=by simpa using hcp
    have HCP:=hid hcp;clear hcp;go_wp2_with (go_at_call 194;refine (show ∀ w,Calls Tryz.prog 194 #[.int .i32 x] w fun e w'=>e=.returned (.bool false)/\w=w' from fun w=>(qh5 x w).mono fun _ _ k=>⟨by rw[k.1,HCP.out],k.2⟩) _ |>.mono ?_;rintro e w' ⟨rfl,rfl⟩);go_ret2;refine⟨Bel.refl _,?_⟩;have:=qh6 HX HCP;simp[putS,putE,this]
  ·obtain rfl:j=n:=by omega
   have hlj:l.take j=l:=List.take_of_length_le (by have:=H.out.len;omega);have hA:allB l=true:=(ZV l).2 (by have:=HA.out;rwa [hlj]at this);rw[hlj];have HAL:=hid hA;clear hA;clear hlj;by_cases hmax:(encs l).length<=4000
   ·have hm2:((encs l).length:Int)<=4000:=by omega
    have HM:=hid hmax;clear hmax;go_wp2;go_ret2;exact⟨Bel.refl _,by simp[putS,putE,HAL.out,HM.out]⟩
   ·have hm2:(4000:Int)<((encs l).length:Int):=by omega
    have HM:=hid hmax;clear hmax;go_wp2;go_ret2;exact⟨Bel.refl _,by simp[putS,putE,HAL.out,HM.out]⟩
end Go.Proofs.YtmloadclmjcbbaaGreatDoor.Mu
namespace Go.Proofs.YtmloadclmjcbbaaGreatDoor.Mu
open Go Go.RowKit Go.Shelf
attribute [local go_sem] Oper.semAt_some
set_option linter.unusedVariables false
set_option maxRecDepth 100000
inductive Tr where
 | nil
 | nod (k:Int) (s:LU) (n:Int) (p:Pl) (kids arms rest:Tr)
 | arm (k:Int) (s:LU) (n:Int) (p:Pl) (kids e rest:Tr)
def Tr.len:Tr->Nat
 | .nil=>0
 | .nod _ _ _ _ _ _ r=>r.len+1
 | .arm _ _ _ _ _ _ r=>r.len+1
def Tr.size:Tr->Nat
 | .nil=>0
 | .nod _ _ _ _ k a r=>1+k.size+a.size+r.size
 | .arm _ _ _ _ k e r=>1+k.size+e.size+r.size
def Tr.nth:Tr->Nat->Tr
 | .nil,_=> .nil
 | .nod k s n p a b _,0=> .nod k s n p a b .nil
 | .arm k s n p a b _,0=> .arm k s n p a b .nil
 | .nod _ _ _ _ _ _ r,i+1=>r.nth i
 | .arm _ _ _ _ _ _ r,i+1=>r.nth i
def Tr.same:Tr->Tr->Bool
 | .nil,.nil=>true
 | .nod k s n _ a b r,.nod k' s' n' _ a' b' r'=>decide (k=k')&&decide (s=s')&&decide (n=n')&&a.same a'&&b.same b'&&r.same r'
 | .arm k s n _ a e r,.arm k' s' n' _ a' e' r'=>decide (k=k')&&decide (s=s')&&decide (n=n')&&a.same a'&&e.same e'&&r.same r'
 | _,_=>false
def Tr.depth:Tr->Nat
 | .nil=>0
 | .nod _ _ _ _ k a r=>max (1+max k.depth a.depth) r.depth
 | .arm _ _ _ _ k e r=>max (max (1+k.depth) e.depth) r.depth
theorem Tr.len_le:∀ f:Tr,f.len<=f.size
 | .nil=>Nat.le_refl _
 | .nod _ _ _ _ k a r=>by have:=Tr.len_le r;simp only[Tr.len,Tr.size];omega
 | .arm _ _ _ _ k e r=>by have:=Tr.len_le r;simp only[Tr.len,Tr.size];omega
theorem Tr.depth_le:∀ f:Tr,f.depth<=f.size
 | .nil=>Nat.le_refl _
 | .nod _ _ _ _ k a r=>by
  have:=Tr.depth_le k;have:=Tr.depth_le a;have:=Tr.depth_le r;simp only[Tr.depth,Tr.size];omega
 | .arm _ _ _ _ k e r=>by
  have:=Tr.depth_le k;have:=Tr.depth_le e;have:=Tr.depth_le r;simp only[Tr.depth,Tr.size];omega
theorem Tr.nth_size:∀ (f:Tr) (i:Nat),(f.nth i).size<=f.size
 | .nil,_=>Nat.le_refl _
 | .nod _ _ _ _ a b r,0=>by simp only[Tr.nth,Tr.size];omega
 | .arm _ _ _ _ a b r,0=>by simp only[Tr.nth,Tr.size];omega
 | .nod _ _ _ _ a b r,i+1=>by have:=Tr.nth_size r i;simp only[Tr.nth,Tr.size];omega
 | .arm _ _ _ _ a b r,i+1=>by have:=Tr.nth_size r i;simp only[Tr.nth,Tr.size];omega
theorem Tr.same_len:∀ f g:Tr,f.same g=true->f.len=g.len
 | .nil,.nil,_=>rfl
 | .nod _ _ _ _ a b r,.nod _ _ _ _ a' b' r',h=>by
  simp only[Tr.same,Bool.and_eq_true]at h;simp only[Tr.len,Tr.same_len r r' h.2]
 | .arm _ _ _ _ a b r,.arm _ _ _ _ a' b' r',h=>by
  simp only[Tr.same,Bool.and_eq_true]at h;simp only[Tr.len,Tr.same_len r r' h.2]
 | .nil,.nod ..,h=>by cases h
 | .nil,.arm ..,h=>by cases h
 | .nod ..,.nil,h=>by cases h
 | .nod ..,.arm ..,h=>by cases h
 | .arm ..,.nil,h=>by cases h
 | .arm ..,.nod ..,h=>by cases h
inductive Sh where
 | pat | ty | ex | arms
def Sh.sz:Sh->Nat
 | .pat=>7
 | .ty=>7
 | .ex=>8
 | .arms=>15
def Sh.kd:Sh->IntKind
 | .ty=> .u8
 | _=> .i64
def HeadAt(w:World)(kd:IntKind)(b o:Nat)(k:Int)(s:LU)(n:Int)(p:Pl):Prop:=
 w.cell? ⟨b,o,none⟩=some (.int .u8 k)/\w.cell? ⟨b,o+1,none⟩=some (.string ⟨s.toArray⟩)/\w.cell? ⟨b,o+2,none⟩=some (.int kd n)/\w.cell? ⟨b,o+3,none⟩=some (.int .i64 p.a)/\w.cell? ⟨b,o+4,none⟩=some (.int .i64 p.l)/\w.cell? ⟨b,o+5,none⟩=some (.int .i64 p.c)
def TrAt(w:World)(Ok:Nat->Prop):Tr->Sh->Nat->Nat->Prop
 | .nil,_,_,_=>True
 | .nod k s n p kids arms rest,sh,b,o=>HeadAt w sh.kd b o k s n p ∧
   (∃ A cap,w.cell? ⟨b,o+6,none⟩=some (.slice A kids.len cap)/\kids.len<=cap/\(0<kids.len->∃ b' o',A=some ⟨b',o',none⟩/\Ok b'/\TrAt w Ok kids sh b' o')) ∧
   ((sh=.ex/\∃ A cap,w.cell? ⟨b,o+7,none⟩=some (.slice A arms.len cap)/\arms.len<=cap/\(0<arms.len->∃ b' o',A=some ⟨b',o',none⟩/\Ok b'/\TrAt w Ok arms .arms b' o'))∨((sh=.pat∨sh=.ty)/\arms.len=0)) ∧
   TrAt w Ok rest sh b (o+sh.sz)
 | .arm k s n p kids e rest,sh,b,o=>sh=.arms/\HeadAt w .i64 b o k s n p ∧
   (∃ A cap,w.cell? ⟨b,o+6,none⟩=some (.slice A kids.len cap)/\kids.len<=cap/\(0<kids.len->∃ b' o',A=some ⟨b',o',none⟩/\Ok b'/\TrAt w Ok kids .pat b' o')) ∧
   e.len=1/\TrAt w Ok e .ex b (o+7)/\TrAt w Ok rest sh b (o+15)
theorem HeadAt.keep{w w':World}{kd:IntKind}{b o:Nat}{k:Int}{s:LU}{n:Int}{p:Pl}(h:HeadAt w kd b o k s n p)(hk:w'.heap[b]?=w.heap[b]?):HeadAt w' kd b o k s n p:=by
 have hc:∀ o',w'.cell? ⟨b,o',none⟩=w.cell? ⟨b,o',none⟩:=fun o'=>World.cell?_of_block (a:=⟨b,o',none⟩) hk;obtain⟨a0,a1,a2,a3,a4,a5⟩:=h;exact⟨(hc _).trans a0,(hc _).trans a1,(hc _).trans a2,(hc _).trans a3,(hc _).trans a4,(hc _).trans a5⟩
theorem TrAt.keep{w w':World}{Ok:Nat->Prop}(hk:∀ j,Ok j->w'.heap[j]?=w.heap[j]?):∀ (f:Tr) (sh:Sh) (b o:Nat),Ok b->TrAt w Ok f sh b o->TrAt w' Ok f sh b o
 | .nil,_,_,_,_,_=>trivial
 | .nod k s n p kids arms rest,sh,b,o,hb,h=>by
  obtain⟨h1,⟨A,cap,a1,a2,a3⟩,h3,h4⟩:=h;have hc:∀ o',w'.cell? ⟨b,o',none⟩=w.cell? ⟨b,o',none⟩:=fun o'=>World.cell?_of_block (a:=⟨b,o',none⟩) (hk b hb);refine⟨h1.keep (hk b hb),⟨A,cap,(hc _).trans a1,a2,fun h0=>?_⟩,?_,TrAt.keep hk rest sh b _ hb h4⟩
  ·obtain⟨b',o',e,c1,c2⟩:=a3 h0
   exact⟨b',o',e,c1,TrAt.keep hk kids sh b' o' c1 c2⟩
  ·rcases h3 with ⟨e,A2,cap2,c1,c2,c3⟩ | h3
   ·refine .inl ⟨e,A2,cap2,(hc _).trans c1,c2,fun h0=>?_⟩
    obtain⟨b',o',e,d1,d2⟩:=c3 h0;exact⟨b',o',e,d1,TrAt.keep hk arms .arms b' o' d1 d2⟩
   ·exact .inr h3
 | .arm k s n p kids e rest,sh,b,o,hb,h=>by
  obtain⟨h0,h1,⟨A,cap,a1,a2,a3⟩,h3,h4,h5⟩:=h;have hc:∀ o',w'.cell? ⟨b,o',none⟩=w.cell? ⟨b,o',none⟩:=fun o'=>World.cell?_of_block (a:=⟨b,o',none⟩) (hk b hb);refine⟨h0,h1.keep (hk b hb),⟨A,cap,(hc _).trans a1,a2,fun h0=>?_⟩,h3,TrAt.keep hk e .ex b _ hb h4,TrAt.keep hk rest sh b _ hb h5⟩;obtain⟨b',o',e,c1,c2⟩:=a3 h0;exact⟨b',o',e,c1,TrAt.keep hk kids .pat b' o' c1 c2⟩
theorem TrAt.wide{w:World}{Ok Ok':Nat->Prop}(hw:∀ j,Ok j->Ok' j):∀ (f:Tr) (sh:Sh) (b o:Nat),TrAt w Ok f sh b o->TrAt w Ok' f sh b o
 | .nil,_,_,_,_=>trivial
 | .nod k s n p kids arms rest,sh,b,o,h=>by
  obtain⟨h1,⟨A,cap,a1,a2,a3⟩,h3,h4⟩:=h;refine⟨h1,⟨A,cap,a1,a2,fun h0=>?_⟩,?_,TrAt.wide hw rest sh b _ h4⟩
  ·obtain⟨b',o',e,c1,c2⟩:=a3 h0
   exact⟨b',o',e,hw _ c1,TrAt.wide hw kids sh b' o' c2⟩
  ·rcases h3 with ⟨e,A2,cap2,c1,c2,c3⟩ | h3
   ·refine .inl ⟨e,A2,cap2,c1,c2,fun h0=>?_⟩
    obtain⟨b',o',e,d1,d2⟩:=c3 h0;exact⟨b',o',e,hw _ d1,TrAt.wide hw arms .arms b' o' d2⟩
   ·exact .inr h3
 | .arm k s n p kids e rest,sh,b,o,h=>by
  obtain⟨h0,h1,⟨A,cap,a1,a2,a3⟩,h3,h4,h5⟩:=h;refine⟨h0,h1,⟨A,cap,a1,a2,fun h0=>?_⟩,h3,TrAt.wide hw e .ex b _ h4,TrAt.wide hw rest sh b _ h5⟩;obtain⟨b',o',e,c1,c2⟩:=a3 h0;exact⟨b',o',e,hw _ c1,TrAt.wide hw kids .pat b' o' c2⟩
theorem TrAt.nod_at{w:World}{Ok:Nat->Prop}{sh:Sh}(hsh:sh ≠ .arms):∀ (f:Tr) (i b o:Nat),TrAt w Ok f sh b o->i<f.len->∃ k s n p kids arms,f.nth i=.nod k s n p kids arms .nil/\TrAt w Ok (.nod k s n p kids arms .nil) sh b (o+i*sh.sz)
 | .nil,i,b,o,_,h=>by simp[Tr.len]at h
 | .arm ..,_,_,_,h,_=>absurd h.1 hsh
 | .nod k s n p kids arms rest,0,b,o,h,_=>⟨k,s,n,p,kids,arms,rfl,by rw[Nat.zero_mul];exact⟨h.1,h.2.1,h.2.2.1,trivial⟩⟩
 | .nod k s n p kids arms rest,i+1,b,o,h,hl=>by
  obtain⟨k',s',n',p',a',b',e,ha⟩:=TrAt.nod_at hsh rest i b (o+sh.sz) h.2.2.2 (by simp only[Tr.len]at hl;omega);refine⟨k',s',n',p',a',b',e,?_⟩;rw[show o+(i+1)*sh.sz=o+sh.sz+i*sh.sz by rw[Nat.add_mul];omega];exact ha
theorem TrAt.arm_at{w:World}{Ok:Nat->Prop}:∀ (f:Tr) (i b o:Nat),TrAt w Ok f .arms b o->i<f.len->∃ k s n p kids e,f.nth i=.arm k s n p kids e .nil/\TrAt w Ok (.arm k s n p kids e .nil) .arms b (o+i*15)
 | .nil,i,b,o,_,h=>by simp[Tr.len]at h
 | .nod ..,_,_,_,h,_=>by
  rcases h.2.2.1 with ⟨e,_⟩ | ⟨e | e,_⟩ <;> cases e
 | .arm k s n p kids ex rest,0,b,o,h,_=>⟨k,s,n,p,kids,ex,rfl,by rw[Nat.zero_mul];exact⟨h.1,h.2.1,h.2.2.1,h.2.2.2.1,h.2.2.2.2.1,trivial⟩⟩
 | .arm k s n p kids ex rest,i+1,b,o,h,hl=>by
  obtain⟨k',s',n',p',a',b',e,ha⟩:=TrAt.arm_at rest i b (o+15) h.2.2.2.2.2 (by simp only[Tr.len]at hl;omega);refine⟨k',s',n',p',a',b',e,?_⟩;rw[show o+(i+1)*15=o+15+i*15 by omega];exact ha
end Go.Proofs.YtmloadclmjcbbaaGreatDoor.Mu
