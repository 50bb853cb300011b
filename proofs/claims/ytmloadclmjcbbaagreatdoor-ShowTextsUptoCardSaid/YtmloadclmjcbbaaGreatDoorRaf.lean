import Derived.OrdersHeld
import Derived.Laws.Entries
import Derived.RangeFuncNested
import Derived.RangeFuncBound
import Derived.RangeFuncCalls
import Derived.RangeFuncLeaves
import Derived.RangeFuncBox
import Derived.Test.YtmloadclmjcbbaaGreatDoorRae
open Go.Lib (hid)
namespace Go.Proofs.YtmloadclmjcbbaaGreatDoor.Mu
open Go Go.RowKit Go.Shelf
attribute [local go_sem] Oper.semAt_some
set_option linter.unusedVariables false
set_option maxRecDepth 100000
set_option maxHeartbeats 4000000
def Tr.wt:Tr->Nat
 | .nil=>0
 | .nod _ s _ _ k a r=>1+s.length / 64+k.wt+a.wt+r.wt
 | .arm _ s _ _ k e r=>1+s.length / 64+k.wt+e.wt+r.wt
def Tr.wtU:Tr->Nat->Nat
 | .nil,_=>0
 | .nod _ _ _ _ _ _ _,0=>0
 | .arm _ _ _ _ _ _ _,0=>0
 | .nod _ s _ _ k a r,j+1=>1+s.length / 64+k.wt+a.wt+r.wtU j
 | .arm _ s _ _ k e r,j+1=>1+s.length / 64+k.wt+e.wt+r.wtU j
theorem Tr.wtU_zero(f:Tr):f.wtU 0=0:=by cases f <;> rfl
theorem Tr.wtU_all:∀ f:Tr,f.wtU f.len=f.wt
 | .nil=>rfl
 | .nod _ _ _ _ k a r=>by simp only[Tr.len,Tr.wtU,Tr.wt,Tr.wtU_all r]
 | .arm _ _ _ _ k e r=>by simp only[Tr.len,Tr.wtU,Tr.wt,Tr.wtU_all r]
theorem Tr.wtU_succ:∀ (f:Tr) (j:Nat),j<f.len->f.wtU (j+1)=f.wtU j+(f.nth j).wt
 | .nil,j,h=>by simp[Tr.len]at h
 | .nod _ _ _ _ k a r,0,_=>by simp only[Tr.wtU,Tr.wtU_zero,Tr.nth,Tr.wt];omega
 | .arm _ _ _ _ k e r,0,_=>by simp only[Tr.wtU,Tr.wtU_zero,Tr.nth,Tr.wt];omega
 | .nod _ _ _ _ k a r,j+1,h=>by
  have:=Tr.wtU_succ r j (by simp only[Tr.len]at h;omega);simp only[Tr.wtU,Tr.nth]at this ⊢;rw[this];omega
 | .arm _ _ _ _ k e r,j+1,h=>by
  have:=Tr.wtU_succ r j (by simp only[Tr.len]at h;omega);simp only[Tr.wtU,Tr.nth]at this ⊢;rw[this];omega
def Tr.fit:Tr->Prop
 | .nil=>True
 | .nod _ s _ _ k a r=>s.length<=140737488355328/\k.len<=140737488355328/\a.len<=140737488355328/\k.fit/\a.fit/\r.fit
 | .arm _ s _ _ k e r=>s.length<=140737488355328/\k.len<=140737488355328/\k.fit/\e.fit/\r.fit
theorem Tr.nth_fit:∀ (f:Tr) (i:Nat),f.fit->(f.nth i).fit
 | .nil,_,_=>trivial
 | .nod _ _ _ _ _ _ _,0,h=>⟨h.1,h.2.1,h.2.2.1,h.2.2.2.1,h.2.2.2.2.1,trivial⟩
 | .arm _ _ _ _ _ _ _,0,h=>⟨h.1,h.2.1,h.2.2.1,h.2.2.2.1,trivial⟩
 | .nod _ _ _ _ _ _ r,i+1,h=>Tr.nth_fit r i h.2.2.2.2.2
 | .arm _ _ _ _ _ _ r,i+1,h=>Tr.nth_fit r i h.2.2.2.2
def QL(c:Int)(d:Nat)(f:Tr)(w:World):Ending->World->Prop:=fun e w'=>∃ z:Int,e=.returned (.int .i64 z)/\1<=z/\z<=c/\(z<=9000->z=(f.wt:Int)/\f.depth+d<=201)/\Bel w w'
def capP(d:Nat):Int:=4398046511104+9001*(202-(d:Int))
theorem qbF(N:Nat):∀ (d:Nat) (k:Int) (s:LU) (n:Int) (p:Pl) (A:OA) (len cap:Nat) (kids:Tr) (w:World),kids.size=N->KidsTr w (OldT w) .pat A len cap kids->d<=201->s.length<=140737488355328->kids.len<=140737488355328->kids.fit →
  Calls Tryz.prog 17 #[.agg #[.int .u8 k,.string ⟨s.toArray⟩,n,p.a,p.l,p.c,.slice A len cap],(d:Int)] w (QL (capP d) d (.nod k s n p kids .nil .nil) w):=by
 induction N using Nat.strongRecOn with
 | _ N ih=>
  intro d k s n p A len cap kids w hN h hd hs hkl hft;have H:=hid h;have IH:=hid ih;have HL:Hid (len=kids.len):=hid h.1;have HN:=hid hN;have HF:=hid hft;have hlen:len<=140737488355328:=by have:=h.1;omega
  obtain⟨S,hS⟩:=nW (⟨s.toArray⟩:BA);have hsz:S.size=s.length:=by rw[hS];simp[ByteArray.size]
  rw[<- hS];clear h ih hN hft hS hkl;by_cases dd:200<d
  case pos=>
   have d1:(200:Int)<(d:Int):=by omega
   go_enter Tryz.func17,Tryz.ntmps17;go_wp2_with fail;go_ret;refine⟨9001,rfl,by decide,?_,fun h=>absurd h (by decide),?_⟩
   ·unfold capP;omega
   ·repeat (first | exact Bel.refl _ | apply Bel.alloc | apply Bel.drew)
  have d1:¬ (200:Int)<(d:Int):=by omega
  have d2:(d:Int)<=200:=by omega
  obtain⟨t,ht⟩:=nW (s.length / 64:Nat);have htl:t<=2199023255552:=by omega
  have hq:wrap64 (1+wrap64 ((s.length:Int) / 64))=((1+t:Nat):Int):=by
   have e1:(s.length:Int) / 64=(t:Int):=by omega
   rw[e1,IntWalk.wrap64_in (t:Int) (by omega),IntWalk.wrap64_in _ (by omega)];omega
  have HT:=hid ht;clear ht hs;go_enter Tryz.func17,Tryz.ntmps17;go_wp2_with fail;try rw[hq]
  clear hq;have q1:=blk1 w (.cells #[.int .u8 k,S,n,p.a,p.l,p.c,.slice A len cap] 59);have hb1:Bel w (w.alloc (.cells #[.int .u8 k,S,n,p.a,p.l,p.c,.slice A len cap] 59)):=(Bel.refl w).alloc _;have hs1:(w.alloc (.cells #[.int .u8 k,S,n,p.a,p.l,p.c,.slice A len cap] 59)).heap.size=w.heap.size+1:=by simp
  obtain⟨w1,hw1⟩:=nW (w.alloc (.cells #[.int .u8 k,S,n,p.a,p.l,p.c,.slice A len cap] 59));rw[<- hw1]at q1 hb1 hs1 ⊢;have HQ:=hid q1;have HB1:=hid hb1;have HS1:=hid hs1;clear q1 hb1 hs1 hw1 hsz;go_loopw [5,6] (fun s i wr=>∃ (j:Nat) (z:Int),j<=len/\i=.int .i64 (j:Int)/\s=.int .i64 z/\Hid (1<=z/\z<=capP d/\(z<=9000->z=((1+t+kids.wtU j:Nat):Int)/\1+kids.depU j+d<=201))/\Hid (Bel w1 wr)) (fun _ i _=>len-(intOf i).toNat)
  case atStart=>exact⟨0,_,Nat.zero_le _,rfl,rfl,hid ⟨by omega,by unfold capP;omega,fun _=>by rw[Tr.wtU_zero,Tr.depU_zero];exact⟨rfl,by omega⟩⟩,hid (Bel.refl _)⟩
  case round=>
   obtain⟨j,z,hj,rfl,rfl,HI,HB⟩:=hrel;have hbx:=(HB.block w.heap.size (by have:=HS1.out;omega)).trans HQ;obtain⟨_,x1,_,x6⟩:=qcC hbx;clear hbx;by_cases hlt:j<len
   ·by_cases hz:z<=9000
    ·have hkr:KidsTr wr (OldT w) .pat A len cap kids:=H.keep fun i hi=>(HB.block i (Nat.lt_of_lt_of_le hi HB1.size)).trans (HB1.block i hi)
     obtain⟨ub,uo,eA,hob,hfo⟩:=hkr.2.2 (by omega);subst eA;obtain⟨k',s',n',p',kids',ar',en,hd',⟨A',cap',e5,hcp',hk'⟩,har',_⟩:=TrAt.nod_at (by intro e;cases e) kids j ub uo hfo (by rw[<- HL.out];exact hlt);obtain rfl:ar'=.nil:=by
      rcases har' with ⟨e,_⟩ | ⟨_,e⟩
      ·cases e
      ·exact Tr.len0 _ e
     obtain⟨e0,e1,e2,f1,f2,f3⟩:=hd';have hsn:=Tr.nth_size kids j;have hft':=Tr.nth_fit kids j HF;rw[en]at hsn hft';simp only[Tr.size]at hsn;obtain⟨hs',hkl',_,hfk',_,_⟩:=hft';have hOld:∀ i,OldT w i->OldT wr i:=fun i hi=>Nat.lt_of_lt_of_le hi (Nat.le_trans HB1.size HB.size);have hK':KidsTr wr (OldT w) .pat A' kids'.len cap' kids':=⟨rfl,hcp',hk'⟩
     obtain⟨g,hg⟩:=nW (Tr.nod k' s' n' p' kids' .nil .nil);have HU:Hid (kids.wtU (j+1)=kids.wtU j+g.wt/\kids.depU (j+1)=max (kids.depU j) g.depth):=hid (by
      rw[Tr.wtU_succ kids j (by rw[<- HL.out];exact hlt),Tr.depU_succ kids j (by rw[<- HL.out];exact hlt),en,hg];exact⟨rfl,rfl⟩)
     have HC:Hid (Calls Tryz.prog 17 #[.agg #[.int .u8 k',.string ⟨s'.toArray⟩,n',p'.a,p'.l,p'.c,.slice A' kids'.len cap'],.int .i64 ((d:Int)+1)] wr (QL (capP (d+1)) (d+1) g wr)):=hid (by
      rw[hg];exact IH.out kids'.size (by have:=HN.out;omega) (d+1) k' s' n' p' A' kids'.len cap' kids' wr rfl (hK'.wide hOld) (by omega) hs' hkl' hfk')
     obtain⟨l1,hl1⟩:=nW kids'.len;rw[<- hl1]at e5 HC;have i1:(0:Int)<=(j:Int):=by omega
     have i2:(j:Int)<(len:Int):=by omega
     have HLT:=hid hlt;have hw:wrap64 ((d:Int)+1)=(d:Int)+1:=IntWalk.wrap64_in _ (by omega);simp only[Sh.sz,Sh.kd]at e0 e1 e2 e5 f1 f2 f3;clear hkr hfo en hk' hK' hsn hg hl1 har' hcp' hOld hob hs' hkl' hfk';go_wp2_with fail;refine HC.out.mono ?_;rintro e w2 ⟨z',rfl,hz1,hz2,hz3,hb2⟩;have HB2:=hid (HB.on hb2);obtain⟨g1,g2,g3⟩:=HI.out;have hw2:wrap64 (z+z')=z+z':=IntWalk.wrap64_in _ (by unfold capP at *;omega);have HZ':Hid (1<=z+z'/\z+z'<=capP d/\(z+z'<=9000->z+z'=((1+t+kids.wtU (j+1):Nat):Int)/\1+kids.depU (j+1)+d<=201)):=hid (by
      refine⟨by omega,by unfold capP at *;omega,fun h9=>?_⟩;obtain⟨a1,a2⟩:=g3 (by omega);obtain⟨b1,b2⟩:=hz3 (by omega);rw[HU.out.1,HU.out.2];exact⟨by omega,by omega⟩)
     clear hb2 e0 e1 e2 e5 f1 f2 f3 x1 x6 hz1 hz2 hz3 g1 g2 g3;go_wp2_with fail;go_roundw
     case rel=>exact⟨j+1,z+z',HLT,by go_num,by first | rfl | rw[hw2],HZ',HB2⟩
     case measure=>exact mS HLT
    ·have hz':¬ z<=9000:=hz
     go_wp2_with fail;go_ret;obtain⟨g1,g2,g3⟩:=HI.out;exact⟨z,rfl,g1,g2,fun h=>absurd h (by omega),HB1.on HB⟩
   ·obtain rfl:j=len:=by omega
    go_wp2_with fail;go_ret;obtain⟨g1,g2,g3⟩:=HI.out;refine⟨z,rfl,g1,g2,fun h=>?_,HB1.on HB⟩;obtain⟨a1,a2⟩:=g3 h;rw[HL.out,Tr.wtU_all]at a1;rw[HL.out,Tr.depU_all]at a2;simp only[Tr.wt,Tr.depth];have:=HT.out;exact⟨by omega,by omega⟩
theorem qch(N:Nat):∀ (d:Nat) (k:Int) (s:LU) (n:Int) (p:Pl) (A:OA) (len cap:Nat) (kids:Tr) (w:World),kids.size=N->KidsTr w (OldT w) .ty A len cap kids->d<=201->s.length<=140737488355328->kids.len<=140737488355328->kids.fit →
  Calls Tryz.prog 16 #[.agg #[.int .u8 k,.string ⟨s.toArray⟩,.int .u8 n,p.a,p.l,p.c,.slice A len cap],(d:Int)] w (QL (capP d) d (.nod k s n p kids .nil .nil) w):=by
 induction N using Nat.strongRecOn with
 | _ N ih=>
  intro d k s n p A len cap kids w hN h hd hs hkl hft;have H:=hid h;have IH:=hid ih;have HL:Hid (len=kids.len):=hid h.1;have HN:=hid hN;have HF:=hid hft;have hlen:len<=140737488355328:=by have:=h.1;omega
  obtain⟨S,hS⟩:=nW (⟨s.toArray⟩:BA);have hsz:S.size=s.length:=by rw[hS];simp[ByteArray.size]
  rw[<- hS];clear h ih hN hft hS hkl;by_cases dd:200<d
  case pos=>
   have d1:(200:Int)<(d:Int):=by omega
   go_enter Tryz.func16,Tryz.ntmps16;go_wp2_with fail;go_ret;refine⟨9001,rfl,by decide,?_,fun h=>absurd h (by decide),?_⟩
   ·unfold capP;omega
   ·repeat (first | exact Bel.refl _ | apply Bel.alloc | apply Bel.drew)
  have d1:¬ (200:Int)<(d:Int):=by omega
  have d2:(d:Int)<=200:=by omega
  obtain⟨t,ht⟩:=nW (s.length / 64:Nat);have htl:t<=2199023255552:=by omega
  have hq:wrap64 (1+wrap64 ((s.length:Int) / 64))=((1+t:Nat):Int):=by
   have e1:(s.length:Int) / 64=(t:Int):=by omega
   rw[e1,IntWalk.wrap64_in (t:Int) (by omega),IntWalk.wrap64_in _ (by omega)];omega
  have HT:=hid ht;clear ht hs;go_enter Tryz.func16,Tryz.ntmps16;go_wp2_with fail;try rw[hq]
  clear hq;have q1:=blk1 w (.cells #[.int .u8 k,S,.int .u8 n,p.a,p.l,p.c,.slice A len cap] 43);have hb1:Bel w (w.alloc (.cells #[.int .u8 k,S,.int .u8 n,p.a,p.l,p.c,.slice A len cap] 43)):=(Bel.refl w).alloc _;have hs1:(w.alloc (.cells #[.int .u8 k,S,.int .u8 n,p.a,p.l,p.c,.slice A len cap] 43)).heap.size=w.heap.size+1:=by simp
  obtain⟨w1,hw1⟩:=nW (w.alloc (.cells #[.int .u8 k,S,.int .u8 n,p.a,p.l,p.c,.slice A len cap] 43));rw[<- hw1]at q1 hb1 hs1 ⊢;have HQ:=hid q1;have HB1:=hid hb1;have HS1:=hid hs1;clear q1 hb1 hs1 hw1 hsz;go_loopw [5,6] (fun s i wr=>∃ (j:Nat) (z:Int),j<=len/\i=.int .i64 (j:Int)/\s=.int .i64 z/\Hid (1<=z/\z<=capP d/\(z<=9000->z=((1+t+kids.wtU j:Nat):Int)/\1+kids.depU j+d<=201))/\Hid (Bel w1 wr)) (fun _ i _=>len-(intOf i).toNat)
  case atStart=>exact⟨0,_,Nat.zero_le _,rfl,rfl,hid ⟨by omega,by unfold capP;omega,fun _=>by rw[Tr.wtU_zero,Tr.depU_zero];exact⟨rfl,by omega⟩⟩,hid (Bel.refl _)⟩
  case round=>
   obtain⟨j,z,hj,rfl,rfl,HI,HB⟩:=hrel;have hbx:=(HB.block w.heap.size (by have:=HS1.out;omega)).trans HQ;obtain⟨_,x1,_,x6⟩:=qcC hbx;clear hbx;by_cases hlt:j<len
   ·by_cases hz:z<=9000
    ·have hkr:KidsTr wr (OldT w) .ty A len cap kids:=H.keep fun i hi=>(HB.block i (Nat.lt_of_lt_of_le hi HB1.size)).trans (HB1.block i hi)
     obtain⟨ub,uo,eA,hob,hfo⟩:=hkr.2.2 (by omega);subst eA;obtain⟨k',s',n',p',kids',ar',en,hd',⟨A',cap',e5,hcp',hk'⟩,har',_⟩:=TrAt.nod_at (by intro e;cases e) kids j ub uo hfo (by rw[<- HL.out];exact hlt);obtain rfl:ar'=.nil:=by
      rcases har' with ⟨e,_⟩ | ⟨_,e⟩
      ·cases e
      ·exact Tr.len0 _ e
     obtain⟨e0,e1,e2,f1,f2,f3⟩:=hd';have hsn:=Tr.nth_size kids j;have hft':=Tr.nth_fit kids j HF;rw[en]at hsn hft';simp only[Tr.size]at hsn;obtain⟨hs',hkl',_,hfk',_,_⟩:=hft';have hOld:∀ i,OldT w i->OldT wr i:=fun i hi=>Nat.lt_of_lt_of_le hi (Nat.le_trans HB1.size HB.size);have hK':KidsTr wr (OldT w) .ty A' kids'.len cap' kids':=⟨rfl,hcp',hk'⟩
     obtain⟨g,hg⟩:=nW (Tr.nod k' s' n' p' kids' .nil .nil);have HU:Hid (kids.wtU (j+1)=kids.wtU j+g.wt/\kids.depU (j+1)=max (kids.depU j) g.depth):=hid (by
      rw[Tr.wtU_succ kids j (by rw[<- HL.out];exact hlt),Tr.depU_succ kids j (by rw[<- HL.out];exact hlt),en,hg];exact⟨rfl,rfl⟩)
     have HC:Hid (Calls Tryz.prog 16 #[.agg #[.int .u8 k',.string ⟨s'.toArray⟩,.int .u8 n',p'.a,p'.l,p'.c,.slice A' kids'.len cap'],.int .i64 ((d:Int)+1)] wr (QL (capP (d+1)) (d+1) g wr)):=hid (by
      rw[hg];exact IH.out kids'.size (by have:=HN.out;omega) (d+1) k' s' n' p' A' kids'.len cap' kids' wr rfl (hK'.wide hOld) (by omega) hs' hkl' hfk')
     obtain⟨l1,hl1⟩:=nW kids'.len;rw[<- hl1]at e5 HC;have i1:(0:Int)<=(j:Int):=by omega
     have i2:(j:Int)<(len:Int):=by omega
     have HLT:=hid hlt;have hw:wrap64 ((d:Int)+1)=(d:Int)+1:=IntWalk.wrap64_in _ (by omega);simp only[Sh.sz,Sh.kd]at e0 e1 e2 e5 f1 f2 f3;clear hkr hfo en hk' hK' hsn hg hl1 har' hcp' hOld hob hs' hkl' hfk';go_wp2_with fail;refine HC.out.mono ?_;rintro e w2 ⟨z',rfl,hz1,hz2,hz3,hb2⟩;have HB2:=hid (HB.on hb2);obtain⟨g1,g2,g3⟩:=HI.out;have hw2:wrap64 (z+z')=z+z':=IntWalk.wrap64_in _ (by unfold capP at *;omega);have HZ':Hid (1<=z+z'/\z+z'<=capP d/\(z+z'<=9000->z+z'=((1+t+kids.wtU (j+1):Nat):Int)/\1+kids.depU (j+1)+d<=201)):=hid (by
      refine⟨by omega,by unfold capP at *;omega,fun h9=>?_⟩;obtain⟨a1,a2⟩:=g3 (by omega);obtain⟨b1,b2⟩:=hz3 (by omega);rw[HU.out.1,HU.out.2];exact⟨by omega,by omega⟩)
     clear hb2 e0 e1 e2 e5 f1 f2 f3 x1 x6 hz1 hz2 hz3 g1 g2 g3;go_wp2_with fail;go_roundw
     case rel=>exact⟨j+1,z+z',HLT,by go_num,by first | rfl | rw[hw2],HZ',HB2⟩
     case measure=>exact mS HLT
    ·have hz':¬ z<=9000:=hz
     go_wp2_with fail;go_ret;obtain⟨g1,g2,g3⟩:=HI.out;exact⟨z,rfl,g1,g2,fun h=>absurd h (by omega),HB1.on HB⟩
   ·obtain rfl:j=len:=by omega
    go_wp2_with fail;go_ret;obtain⟨g1,g2,g3⟩:=HI.out;refine⟨z,rfl,g1,g2,fun h=>?_,HB1.on HB⟩;obtain⟨a1,a2⟩:=g3 h;rw[HL.out,Tr.wtU_all]at a1;rw[HL.out,Tr.depU_all]at a2;simp only[Tr.wt,Tr.depth];have:=HT.out;exact⟨by omega,by omega⟩
end Go.Proofs.YtmloadclmjcbbaaGreatDoor.Mu
namespace Go.Proofs.YtmloadclmjcbbaaGreatDoor.Mu
open Go Go.RowKit Go.Shelf
attribute [local go_sem] Oper.semAt_some
set_option linter.unusedVariables false
set_option maxRecDepth 100000
section
variable {P : Program} {ops : Array Oper} {Q : Exit -> Act -> World -> Prop} {md : Region.Mode} {S : World -> Prop}
def qd9(md:Region.Mode)(ops:Array Oper)(n:Nat):Bool:=Region.noSelect ops&&decide (n<ops.size)&&Region.sinkB md ops n&&Region.chainB md ops n
end
end Go.Proofs.YtmloadclmjcbbaaGreatDoor.Mu
namespace Go.Proofs.YtmloadclmjcbbaaGreatDoor.Mu
open Go
def cntG:Nat->Array Bool->Nat
 | 0,_=>0
 | n+1,l=>cntG n l+if l.getD n true then 0 else 1
theorem qeD{n i:Nat}{l:Array Bool}(h:n<=i):cntG n (l.setIfInBounds i true)=cntG n l:=by
 induction n with
 | zero=>rfl
 | succ n ih=>simp only[cntG];rw[ih (by omega),getD_set_ne true (by omega)]
theorem qcG{n i:Nat}{l:Array Bool}(h:i<n)(hs:i<l.size)(hu:l.getD i true=false):cntG n (l.setIfInBounds i true)+1=cntG n l:=by
 induction n with
 | zero=>omega
 | succ n ih=>
  simp only[cntG];by_cases e:i=n
  ·subst e
   rw[qeD (Nat.le_refl _),hu];simp[hs]
  ·have:=ih (by omega)
   rw[getD_set_ne true e];omega
theorem qa8{n:Nat}{l:Array Bool}(h:cntG n l=0):∀ i,i<n->l.getD i true=true:=by
 induction n with
 | zero=>intro i hi;omega
 | succ n ih=>
  simp only[cntG]at h;intro i hi;by_cases e:i=n
  ·subst e
   by_cases hb:l.getD i true=true
   ·exact hb
   ·rw[if_neg hb]at h;omega
  ·exact ih (by omega) i (by omega)
theorem qcF{n:Nat}{l:Array Bool}(h:0<cntG n l):∃ i,i<n/\l.getD i true=false:=by
 induction n with
 | zero=>simp[cntG]at h
 | succ n ih=>
  simp only[cntG]at h;by_cases hb:l.getD n true=true
  ·rw[if_pos hb]at h
   obtain⟨i,hi,hu⟩:=ih (by omega);exact⟨i,by omega,hu⟩
  ·exact⟨n,by omega,by simpa using hb⟩
theorem qcE{n m:Nat}(h:n<=m):cntG n (Array.replicate m false)=n:=by
 induction n with
 | zero=>rfl
 | succ n ih=>simp only[cntG];rw[ih (by omega),getD_in (by simp;omega) (getD_replicate_false _ _)];simp
def fwdB(ops:Array Oper)(n:Nat):Bool:=(List.range n).all fun i=>((ops[i]?).map fun o=>o.after.all fun e=>!Region.binds .any e || decide (e.on<i)).getD false
theorem qbp{ops:Array Oper}{n i:Nat}{listed:Array Bool}(h:fwdB ops n=true)(hi:i<n)(hu:listed.getD i true=false)(hl:∀ j,j<i->listed.getD j true=true)(hsz:n<=listed.size):i∈Region.ready .any ops listed:=by
 have h1:=List.all_eq_true.1 h i (List.mem_range.2 hi);cases ho:ops[i]? with
 | none=>rw[ho]at h1;cases h1
 | some o=>
  rw[ho]at h1;simp only[Option.map_some,Option.getD_some]at h1;refine mem_ready.2 ⟨hu,o,ho,fun e he hb=>?_⟩;have h2:=Array.all_eq_true'.1 h1 e he;rw[hb]at h2;simp only[Bool.not_true,Bool.false_or,decide_eq_true_eq]at h2;have h3:=hl e.on h2;have h4:e.on<listed.size:=by omega
  simp[h4]at h3 ⊢;exact h3
section
variable {P : Program} {Q : Exit -> Act -> World -> Prop}
theorem qef{l:List Oper}{n:Nat}(I:Array Bool->Act->World->Prop)(hB:qd9 .any l.toArray n=true)(hf:fwdB l.toArray n=true)(hq:Region.seqB .any l.toArray (l.length-n) n (Array.replicate n true++Array.replicate (l.length-n) false)=true)
  (hstep:∀ listed a w i,HeadInv .any l.toArray n listed->I listed a w->i<n->listed.getD i true=false->i∈Region.ready .any l.toArray listed->wpOp P l.toArray Q i (I (listed.setIfInBounds i true)) a w)
  (hend:∀ listed a w,I listed a w->(∀ i,i<n->listed.getD i false=true)->wpList P l.toArray Q (l.drop n) a w) :
  ∀ (c:Nat) (listed:Array Bool) (a:Act) (w:World),cntG n listed=c->HeadInv .any l.toArray n listed->I listed a w->wpAny P .any l.toArray Q (c+(l.length-n)) listed a w:=by
 simp only[qd9,Bool.and_eq_true,decide_eq_true_eq]at hB;obtain⟨⟨⟨_,hn⟩,hs⟩,hc⟩:=hB;have hn':n<l.length:=by simpa using hn
 intro c;induction c with
 | zero=>
  intro listed a w hc0 inv hI;have hall:=qa8 hc0;have hsz:listed.size=l.length:=by simpa using inv.size
  have e:listed=Array.replicate n true++Array.replicate (l.length-n) false:=by
   apply Array.ext
   ·simp[hsz];omega
   ·intro i h1 h2
    by_cases hi:i<n
    ·have:=hall i hi
     rw[Array.getElem_append_left (by simpa using hi)];simpa [h1] using this
    ·have:=inv.tail i (by omega) (by simpa [hsz] using h1)
     rw[Array.getElem_append_right (by simp;omega)];simpa [h1] using this
  have hdl:(l.drop n).length=l.length-n:=by simp
  have h:=wpAny_of_seq (md:= .any) (Q':=Q) (l.drop n) n listed a w (fun j=>by simp[List.getElem?_drop]) (by rw[hdl,e];exact hq) (hend listed a w hI fun i hi=>by
   have h1:=hall i hi;have h2:i<listed.size:=by omega
   simp[h2]at h1 ⊢;exact h1)
  rw[hdl]at h;rw[Nat.zero_add];exact h
 | succ c ih=>
  intro listed a w hcc inv hI;obtain⟨i0,hi0,hu0⟩:=qcF (show 0<cntG n listed by omega);have hnot:=tail_waits hs hc hn inv _ i0 rfl hi0 hu0;rw[show c+1+(l.length-n)=(c+(l.length-n))+1 by omega];refine⟨fun hr=>?_,fun i hi=>?_⟩
  · --the first that is not listed is ready
   exfalso
   have hmin:∃ i,i<n/\listed.getD i true=false/\∀ j,j<i->listed.getD j true=true:=by
    have key:∀ m,(∃ i,i<m/\listed.getD i true=false)->∃ i,i<m/\listed.getD i true=false/\∀ j,j<i->listed.getD j true=true:=by
     intro m;induction m with
     | zero=>rintro⟨i,hi,_⟩;omega
     | succ m ihm=>
      rintro⟨i,hi,hu⟩;by_cases hex:∃ i,i<m/\listed.getD i true=false
      ·obtain⟨i,hi,h⟩:=ihm hex
       exact⟨i,by omega,h⟩
      ·obtain rfl:i=m:=by
        by_cases e:i=m
        ·exact e
        ·exact absurd ⟨i,by omega,hu⟩ hex
       refine⟨i,hi,hu,fun j hj=>?_⟩;by_cases hb:listed.getD j true=true
       ·exact hb
       ·exact absurd ⟨j,hj,by simpa using hb⟩ hex
    exact key n ⟨i0,hi0,hu0⟩
   obtain⟨i,hi,hu,hless⟩:=hmin;have h:=qbp hf hi hu hless (by have:=inv.size;simp at this;omega);rw[hr]at h;cases h
  ·have hin:i<n:=by
    rcases Nat.lt_or_ge i n with h | h
    ·exact h
    ·exact absurd hi (hnot i h)
   have hun:=(mem_ready.1 hi).1;have hsz:i<listed.size:=by have:=inv.size;simp at this;omega
   refine wpOp_mono (fun a' w' h'=>ih _ a' w' ?_ (inv.set hi hin) h') (hstep listed a w i inv hI hin hun hi);have:=qcG hin hsz hun;omega
def zA(ops:Array Oper)(s:Nat):Option Nat:=(List.range ops.size).find? fun i=>((ops[i]?).bind (·.dst))==some s
def QD(ops:Array Oper)(size:Nat):Bool:=(List.range ops.size).all fun i=>match (ops[i]?).bind (·.dst) with
 | some d=>(zA ops d==some i)&&decide (d<size)
 | none=>true
theorem Zy{ops:Array Oper}{size i d:Nat}(h:QD ops size=true)(hd:(ops[i]?).bind (·.dst)=some d):zA ops d=some i/\d<size:=by
 have hi:i<ops.size:=by
  rcases Nat.lt_or_ge i ops.size with h' | h'
  ·exact h'
  ·rw[Array.getElem?_eq_none h']at hd;cases hd
 have:=List.all_eq_true.1 h i (List.mem_range.2 hi);rw[hd]at this;simpa using this
def Filled(ops:Array Oper)(listed:Array Bool)(V:Nat->Value)(a0 a:Act):Prop:=
 a.defers=a0.defers/\a.tmps.size=a0.tmps.size/\∀ s,s<a0.tmps.size->a.tmps.getD s undef=match zA ops s with
  | some i=>if listed.getD i false then V i else a0.tmps.getD s undef
  | none=>a0.tmps.getD s undef
theorem Filled.eval{ops:Array Oper}{listed:Array Bool}{V:Nat->Value}{a0 a:Act}(h:Filled ops listed V a0 a)(hB:QD ops a0.tmps.size=true){i d:Nat}(hi:listed.getD i false=true)(hd:(ops[i]?).bind (·.dst)=some d):a.eval (.tmp d)=V i:=by
 obtain⟨h1,h2⟩:=Zy hB hd;show a.tmps.getD d undef=V i;rw[h.2.2 d h2,h1];simp only[hi,if_true]
theorem Filled.par{ops:Array Oper}{listed:Array Bool}{V:Nat->Value}{a0 a:Act}(h:Filled ops listed V a0 a){s:Nat}(hs:zA ops s=none)(hlt:s<a0.tmps.size):a.eval (.tmp s)=a0.eval (.tmp s):=by
 show a.tmps.getD s undef=a0.tmps.getD s undef;rw[h.2.2 s hlt,hs]
theorem Filled.put{ops:Array Oper}{listed:Array Bool}{V:Nat->Value}{a0 a:Act}{i:Nat}{o:Oper}(h:Filled ops listed V a0 a)(hB:QD ops a0.tmps.size=true)(ho:ops[i]?=some o)(hsz:i<listed.size)(v:Value) :
  Filled ops (listed.setIfInBounds i true) (fun j=>if j=i then v else V j) a0 (a.put o.dst v):=by
 have hset:∀ j,(listed.setIfInBounds i true).getD j false=if j=i then true else listed.getD j false:=fun j=>by
  by_cases e:j=i
  ·subst e;simp[hsz]
  ·rw[getD_set_ne false (fun e'=>e e'.symm),if_neg e]
 cases hd:o.dst with
 | none=>
  refine⟨h.1,h.2.1,fun s hs=>?_⟩;show a.tmps.getD s undef=_;rw[h.2.2 s hs];cases hk:zA ops s with
  | none=>rfl
  | some k=>
   have hne:k≠i:=by
    rintro rfl;have:=List.find?_some hk;simp[ho,hd]at this
   simp only[hset,if_neg hne]
 | some d=>
  obtain⟨h1,h2⟩:=Zy hB (show (ops[i]?).bind (·.dst)=some d by rw[ho];exact hd);refine⟨h.1,by show (a.tmps.setIfInBounds d v).size=_;rw[Array.size_setIfInBounds];exact h.2.1,fun s hs=>?_⟩;show (a.tmps.setIfInBounds d v).getD s undef=_;by_cases e:s=d
  ·subst e
   rw[h1];have:s<a.tmps.size:=by rw[h.2.1];exact hs
   simp[hset,this]
  ·rw[Array.getD_eq_getD_getElem?,Array.getElem?_setIfInBounds_ne (fun e'=>e e'.symm),<- Array.getD_eq_getD_getElem?,h.2.2 s hs]
   cases hk:zA ops s with
   | none=>rfl
   | some k=>
    have hne:k≠i:=by
     rintro rfl;have:=List.find?_some hk;simp[ho,hd]at this;exact e this.symm
    simp only[hset,if_neg hne]
def finA(ops:Array Oper)(n:Nat)(V:Nat->Value)(a0:Act):Act:=
 { tmps:=((List.range a0.tmps.size).map fun s=>match zA ops s with
   | some i=>if i<n then V i else a0.tmps.getD s undef
   | none=>a0.tmps.getD s undef).toArray,defers:=a0.defers }
theorem Filled.fin{ops:Array Oper}{listed:Array Bool}{V:Nat->Value}{a0 a:Act}{n:Nat}(h:Filled ops listed V a0 a)(hall:∀ i,i<n->listed.getD i false=true)(htail:∀ i,n<=i->listed.getD i false=false):a=finA ops n V a0:=by
 obtain⟨h1,h2,h3⟩:=h;cases a with
 | mk tmps defers=>
  simp only at h1 h2 h3;subst h1;unfold finA;congr 1;apply Array.ext
  ·simp[h2]
  ·intro s hs1 hs2
   have:=h3 s (by omega);rw[Array.getD_eq_getD_getElem?,Array.getElem?_eq_getElem hs1,Option.getD_some]at this;rw[this];simp only[List.getElem_toArray,List.getElem_map,List.getElem_range];cases hk:zA ops s with
   | none=>rfl
   | some k=>
    by_cases hkn:k<n
    ·simp only[hall k hkn,if_true,if_pos hkn]
    ·simp only[htail k (by omega),Bool.false_eq_true,if_false,if_neg hkn]
end
end Go.Proofs.YtmloadclmjcbbaaGreatDoor.Mu
namespace Go.Proofs.YtmloadclmjcbbaaGreatDoor.Mu
open Go Go.RowKit
theorem qX{P:Program}{o:Oper}{a:Act}{w w':World}{K:Act->World->Prop}{Q:Exit->Act->World->Prop}{v:Value}(h:(execOp a.eval o).run P w=.ok (.value v) w')(hk:K (a.put o.dst v) w'):Oper.wp P o a w K Q:=by
 unfold Oper.wp;rw[h];exact hk
end Go.Proofs.YtmloadclmjcbbaaGreatDoor.Mu
namespace Go.Proofs.YtmloadclmjcbbaaGreatDoor.Mu
open Go
theorem yields{ops:Array Oper}{tmps:Array Value}{j d:Nat}{b:Bool}(hd:(ops[j]?).bind (·.dst)=some d)(h:tmps.getD d undef=.bool b):yielded ops tmps j=some b:=by
 unfold yielded;rw[hd];rw[Array.getD_eq_getD_getElem?]at h;cases h':tmps[d]? with
 | none=>rw[h']at h;cases h
 | some x=>rw[h']at h;simp only[Option.getD_some]at h;subst h;simp[h']
section
variable {P : Program} {Q : Exit -> Act -> World -> Prop}
end
theorem qcp{ops:Array Oper}{tmps:Array Value}{o:Oper}(hg:o.guard=none):Region.wanted o (yielded ops tmps)=true:=by
 simp[Region.wanted,hg]
theorem qgk{ops:Array Oper}{tmps:Array Value}{o:Oper}{j d:Nat}{g b:Bool}(hg:o.guard=some (j,g))(hd:(ops[j]?).bind (·.dst)=some d)(h:tmps.getD d undef=.bool b):Region.wanted o (yielded ops tmps)=(b==g):=by
 have:=yields hd h;cases b <;> cases g <;> simp[Region.wanted,hg,this]
theorem yw_t{ops:Array Oper}{tmps:Array Value}{o:Oper}{j d:Nat}(hg:o.guard=some (j,true))(hd:(ops[j]?).bind (·.dst)=some d)(h:tmps.getD d undef=.bool true)(hw:Region.wanted o (yielded ops tmps)=false):False:=by
 rw[qgk hg hd h]at hw;cases hw
theorem yw_n{ops:Array Oper}{tmps:Array Value}{o:Oper}(hg:o.guard=none)(hw:Region.wanted o (yielded ops tmps)=false):False:=by
 rw[qcp hg]at hw;cases hw
theorem zh{P:Program}{o:Oper}{a:Act}{w:World}{K:Act->World->Prop}{Q:Exit->Act->World->Prop}{f:FuncId}{args:Array Value}(hrun:(execOp a.eval o).run P w=.ok (.enter f args) w)
  (h:Calls P f args w fun e w'=>∃ v,e=.returned v/\K (a.put o.dst v) w'):Oper.wp P o a w K Q:=by
 unfold Oper.wp;rw[hrun];refine h.mono ?_;rintro e w' ⟨v,rfl,hk⟩;exact hk
end Go.Proofs.YtmloadclmjcbbaaGreatDoor.Mu
namespace Go.Proofs.YtmloadclmjcbbaaGreatDoor.Mu
open Go Go.RowKit Go.Shelf
attribute [local go_sem] Oper.semAt_some
set_option linter.unusedVariables false
end Go.Proofs.YtmloadclmjcbbaaGreatDoor.Mu
namespace Go.Proofs.YtmloadclmjcbbaaGreatDoor.Mu
open Go.RowKit Go.Shelf
set_option maxRecDepth 100000
end Go.Proofs.YtmloadclmjcbbaaGreatDoor.Mu
namespace Go.Proofs.YtmloadclmjcbbaaGreatDoor.Mu
open Go Go.RowKit Go.Shelf
attribute [local go_sem] Oper.semAt_some
set_option linter.unusedVariables false
set_option maxRecDepth 100000
theorem gT{α:Type _}{l:List α}{i:Nat}:l.toArray[i]?=l[i]?:=List.getElem?_toArray
theorem gZ{α:Type _}{a:α}{l:List α}:(a::l)[0]?=some a:=List.getElem?_cons_zero
theorem gS{α:Type _}{a:α}{l:List α}{i:Nat}:(a::l)[i+1]?=l[i]?:=List.getElem?_cons_succ
theorem gI{α:Type _}{a b:α}:(some a=some b)=(a=b):=Option.some.injEq a b
theorem tD{a:Act}{t:Nat}{v:Value}(h:a.eval (.tmp t)=v):a.tmps[t]?.getD undef=v:=by
 simp only[Act.eval,Array.getD_eq_getD_getElem?]at h;exact h
theorem tK{a:Act}{t:Nat}{x v:Value}{R:Nat → Prop}(h:(x=v) ∧ ∀ d,R d → a.eval (.tmp d)=x)(r:R t):a.tmps[t]?.getD undef=v:=tD ((h.2 t r).trans h.1)
theorem tE{a:Act}{t:Nat}{x v:Value}{R:Nat → Prop}(h:(x=v) ∧ ∀ d,R d → a.eval (.tmp d)=x)(r:R t):a.eval (.tmp t)=v:=(h.2 t r).trans h.1
theorem nG{ops:Array Oper}{tmps:Array Value}{o:Oper}{A B:Prop}(hg:o.guard=none)(h:A):(Region.wanted o (yielded ops tmps)=true → A) ∧ (Region.wanted o (yielded ops tmps)=false → B):=
 ⟨fun _=>h,fun hw=>(yw_n hg hw).elim⟩
theorem gX{w w1:World}{b o:Nat}{x:Value}(hb:Bel w w1)(h:b<w.heap.size)(f:w.cell? ⟨b,o,none⟩=some x):w1.cell? ⟨b,o,none⟩=some x:=
 (hb.cell (p:=⟨b,o,none⟩) h).trans f
theorem wV{P:Program}{o:Oper}{a:Act}{w:World}{K:Act → World → Prop}{Q:Exit → Act → World → Prop}{v:Value}{S:Value → World → Prop}(h:(execOp a.eval o).run P w=.ok (.value v) w)(hK:∀ (v:Value) (w':World),Bel w w' → S v w' → K (a.put o.dst v) w')(r:S v w):Oper.wp P o a w K Q:=
 qX h (hK v w (Bel.refl w) r)
abbrev StR(v:Value)(w:World):Ending → World → Prop:=fun e w'=>e=.returned v ∧ Bel w w'
theorem Tr.nil_of_len:∀ f:Tr,f.len=0->f=.nil
 | .nil,_=>rfl
 | .nod ..,h=>by simp[Tr.len]at h
 | .arm ..,h=>by simp[Tr.len]at h
theorem Tr.one:∀ f:Tr,f.len=1->f.nth 0=f
 | .nil,h=>by simp[Tr.len]at h
 | .nod k s n p a b r,h=>by
  have:r=.nil:=Tr.nil_of_len r (by simpa [Tr.len] using h);subst this;rfl
 | .arm k s n p a b r,h=>by
  have:r=.nil:=Tr.nil_of_len r (by simpa [Tr.len] using h);subst this;rfl
theorem Tr.single{w:World}{Ok:Nat->Prop}{sh:Sh}{b o:Nat}(hsh:sh ≠ .arms):∀ f:Tr,f.len=1->TrAt w Ok f sh b o->∃ k s n p a b,f=.nod k s n p a b .nil
 | .nil,h,_=>by simp[Tr.len]at h
 | .nod k s n p a b r,h,_=>by
  have:r=.nil:=Tr.nil_of_len r (by simpa [Tr.len] using h);subst this;exact⟨_,_,_,_,_,_,rfl⟩
 | .arm ..,_,h=>absurd h.1 hsh
theorem qcD{w:World}{g:Nat}{t:TypeId}{x0 x1 x2 x3 x4 x5 x6 x7:Value}(h:w.heap[g]?=some (.cells #[x0,x1,x2,x3,x4,x5,x6,x7] t (0,0))) :
  w.cell? ⟨g,6,none⟩=some x6/\w.cell? ⟨g,7,none⟩=some x7:=by
 simp[World.cell?,h]
def qdG(ops:Array Oper)(n s:Nat):Bool:=match zA ops s with
 | some q=>decide (n<=q)
 | none=>true
theorem Filled.late{ops:Array Oper}{listed:Array Bool}{V:Nat->Value}{a0 a:Act}{n:Nat}(h:Filled ops listed V a0 a)(htl:∀ t,n<=t->listed.getD t false=false){s:Nat}(hs:qdG ops n s=true)(hlt:s<a0.tmps.size):a.eval (.tmp s)=a0.eval (.tmp s):=by
 show a.tmps.getD s undef=a0.tmps.getD s undef;rw[h.2.2 s hlt];unfold qdG at hs;cases hq:zA ops s with
 | none=>rfl
 | some q=>
  rw[hq]at hs;have hn:n<=q:=by simpa using hs
  simp only[htl q hn];rfl
section
variable {P : Program} {Q : Exit -> Act -> World -> Prop}
theorem J9{id:Nat}{l:List Oper}(n:Nat)(a0:Act)(w0:World)(F:Nat->Value->World->Prop)(hm:P.follows .mixedOrders=true)(hB:qd9 .any l.toArray n=true)(hf:fwdB l.toArray n=true)(hsl:QD l.toArray a0.tmps.size=true)
  (hq:Region.seqB .any l.toArray (l.length-n) n (Array.replicate n true++Array.replicate (l.length-n) false)=true)
  (hmono:∀ i v w w',i<n->F i v w->Bel w w'->F i v w')
  (hstep:∀ i o,i<n->l.toArray[i]?=some o->∀ (a:Act) (w:World) (V:Nat->Value),Bel w0.drew w →
   (∀ e∈o.after,Region.binds .any e=true->F e.on (V e.on) w/\∀ d,(l.toArray[e.on]?).bind (·.dst)=some d->a.eval (.tmp d)=V e.on)->(∀ s,s<a0.tmps.size->qdG l.toArray n s=true->a.eval (.tmp s)=a0.eval (.tmp s)) →
   ∀ K:Act->World->Prop,(∀ v w',Bel w w'->F i v w'->K (a.put o.dst v) w')->(Region.wanted o (yielded l.toArray a.tmps)=true->Oper.wp P o a w K Q)/\(Region.wanted o (yielded l.toArray a.tmps)=false->F i undef w))
  (hend:∀ (V:Nat->Value) (w:World),Bel w0.drew w->(∀ i,i<n->F i (V i) w)->wpList P l.toArray Q (l.drop n) (finA l.toArray n V a0) w) :
  (Code.region id l.toArray true).wp P Q a0 w0:=by
 have hn':n<l.length:=by
  simp only[qd9,bA,pE]at hB;simpa using hB.1.1.2
 refine wp_region_any hm ?_;have inv0:HeadInv .any l.toArray n (Array.replicate l.length false):=
  ⟨by simp,fun j oj _ hl=>(by rw[getD_replicate_false]at hl;cases hl),fun t _ ht=>getD_in (by simpa using ht) (getD_replicate_false _ _)⟩
 have key:=qef (P:=P) (Q:=Q) (l:=l) (n:=n) (fun listed a w=>listed.size=l.length/\(∀ t,n<=t->listed.getD t false=false)/\Bel w0.drew w/\∃ (V:Nat->Value),Filled l.toArray listed V a0 a/\∀ i,i<n->listed.getD i false=true->F i (V i) w) hB hf hq ?_ ?_ n (Array.replicate l.length false) a0 w0.drew (qcE (by omega)) inv0 ⟨by simp,fun t _=>getD_replicate_false _ _,Bel.refl _,fun _=>undef,⟨rfl,rfl,fun s hs=>by cases zA l.toArray s <;> simp only[getD_replicate_false,Bool.false_eq_true,if_false]⟩,fun i _ hi=>by rw[getD_replicate_false]at hi;cases hi⟩
 ·have e:n+(l.length-n)=l.length:=by omega
  rw[e]at key;simpa using key
 ·rintro listed a w i inv ⟨hsz,htl,hbel,V,hfill,hF⟩ hin hun hr
  obtain⟨_,o,ho,hall⟩:=mem_ready.1 hr;have hKK:∀ v w',Bel w w'->F i v w'->(listed.setIfInBounds i true).size=l.length/\(∀ t,n<=t->(listed.setIfInBounds i true).getD t false=false)/\Bel w0.drew w'/\∃ (V:Nat->Value),Filled l.toArray (listed.setIfInBounds i true) V a0 (a.put o.dst v)/\∀ j,j<n->(listed.setIfInBounds i true).getD j false=true->F j (V j) w':=
   fun v w' hb hFi=>⟨by simpa using hsz,fun t ht=>by rw[getD_set_ne false (by omega)];exact htl t ht,hbel.on hb,fun j=>if j=i then v else V j,hfill.put hsl ho (by omega) v,fun j hj hl=>by
    by_cases e:j=i
    ·subst e;simp only[if_true];exact hFi
    ·simp only[if_neg e]
     rw[getD_set_ne false (fun e'=>e e'.symm)]at hl;exact hmono j _ w w' hj (hF j hj hl) hb⟩
  have hK:=hstep i o hin ho a w V hbel (fun e he hb=>by
   have hl:=hall e he hb;have hen:e.on<n:=by
    rcases Nat.lt_or_ge e.on n with h | h
    ·exact h
    ·rw[htl _ h]at hl;cases hl
   exact⟨hF _ hen hl,fun d hd=>hfill.eval hsl hl hd⟩) (fun s hs hn=>hfill.late htl hn hs)
   (fun a' w'=>(listed.setIfInBounds i true).size=l.length/\(∀ t,n<=t->(listed.setIfInBounds i true).getD t false=false)/\Bel w0.drew w'/\∃ (V:Nat->Value),Filled l.toArray (listed.setIfInBounds i true) V a0 a'/\∀ j,j<n->(listed.setIfInBounds i true).getD j false=true->F j (V j) w')
   hKK
  unfold wpOp;simp only[ho];by_cases hw:Region.wanted o (yielded l.toArray a.tmps)=true
  ·rw[if_pos hw]
   exact .inl (hK.1 hw)
  ·rw[if_neg hw]
   exact hKK undef w (Bel.refl _) (hK.2 (by simpa using hw))
 ·rintro listed a w ⟨hsz,htl,hbel,V,hfill,hF⟩ hall
  rw[hfill.fin hall htl];exact hend V w hbel fun i hi=>hF i hi (hall i hi)
end
def zz(V:Nat->Value):List Oper->Nat->Array Value->Array Value
 | [],_,t=>t
 | o::os,i,t=>zz V os (i+1) (match o.dst with
  | some d=>t.setIfInBounds d (V i)
  | none=>t)
def finP(l:List Oper)(n:Nat)(V:Nat->Value)(a0:Act):Act:={ tmps:=zz V (l.take n) 0 a0.tmps,defers:=a0.defers }
theorem qbG(V:Nat->Value)(o:Oper):∀ (xs:List Oper) (i:Nat) (t:Array Value),zz V (xs++[o]) i t=(match o.dst with
  | some d=>(zz V xs i t).setIfInBounds d (V (i+xs.length))
  | none=>zz V xs i t)
 | [],i,t=>rfl
 | x::xs,i,t=>by
  show zz V (xs++[o]) (i+1) _=_;rw[qbG V o xs (i+1),lC,show i+1+xs.length=i+(xs.length+1) by omega];rfl
theorem qbm{l:List Oper}{V:Nat->Value}{a0:Act}(hsl:QD l.toArray a0.tmps.size=true):∀ n,n<=l.length->(finA l.toArray n V a0).tmps=zz V (l.take n) 0 a0.tmps
 | 0,_=>by
  show (finA l.toArray 0 V a0).tmps=a0.tmps;unfold finA;apply Array.ext
  ·simp
  ·intro s h1 h2
   simp only[List.getElem_toArray,List.getElem_map,List.getElem_range];have:a0.tmps.getD s undef=a0.tmps[s]:=by
    rw[gDd,Array.getElem?_eq_getElem h2,Option.getD_some]
   cases zA l.toArray s with
   | none=>exact this
   | some k=>simp only[Nat.not_lt_zero,if_false];exact this
 | n+1,h=>by
  have ih:=qbm hsl n (by omega) (V:=V);have hn:n<l.length:=h;have ho:l.toArray[n]?=some l[n]:=by simp[hn]
  rw[List.take_add_one,eG hn,Option.toList_some,qbG,<- ih,List.length_take,Nat.zero_add,Nat.min_eq_left (by omega)];have hsz:∀ m,(finA l.toArray m V a0).tmps.size=a0.tmps.size:=fun m=>by simp[finA]
  have hget:∀ m s,s<a0.tmps.size->(finA l.toArray m V a0).tmps[s]?=some (match zA l.toArray s with
   | some i=>if i<m then V i else a0.tmps.getD s undef
   | none=>a0.tmps.getD s undef):=fun m s hs=>by
   unfold finA;rw[List.getElem?_toArray,List.getElem?_map,List.getElem?_range hs];rfl
  have hno:∀ m s,¬ s<a0.tmps.size->(finA l.toArray m V a0).tmps[s]?=none:=fun m s hs=>Array.getElem?_eq_none (by rw[hsz];omega);have hlt:∀ k,k≠n->(if k<n+1 then V k else undef)=(if k<n then V k else undef)/\((k<n+1)=(k<n)):=fun k hk=>by
   have:(k<n+1)=(k<n):=propext ⟨fun _=>by omega,fun _=>by omega⟩;exact⟨by simp only[this],this⟩
  cases hd:(l[n]).dst with
  | none=>
   apply Array.ext_getElem?
   intro s;by_cases hs:s<a0.tmps.size
   ·rw[hget _ _ hs,hget _ _ hs]
    cases hk:zA l.toArray s with
    | none=>rfl
    | some k=>
     have hne:k≠n:=by
      rintro rfl;have:=List.find?_some hk;simp[hn,hd]at this
     simp only[(hlt k hne).2]
   ·rw[hno _ _ hs,hno _ _ hs]
  | some d=>
   obtain⟨h1,h2⟩:=Zy hsl (i:=n) (d:=d) (by rw[ho];exact hd);apply Array.ext_getElem?
   intro s;by_cases hs:s<a0.tmps.size
   ·by_cases e:d=s
    ·subst e
     rw[hget _ _ hs,h1,Array.getElem?_setIfInBounds_self_of_lt (by rw[hsz];exact hs)];simp
    ·rw[hget _ _ hs,Array.getElem?_setIfInBounds_ne e,hget _ _ hs]
     cases hk:zA l.toArray s with
     | none=>rfl
     | some k=>
      have hne:k≠n:=by
       rintro rfl;have:=List.find?_some hk;simp[hn,hd]at this;exact e this
      simp only[(hlt k hne).2]
   ·rw[hno _ _ hs,Array.getElem?_eq_none (by rw[Array.size_setIfInBounds,hsz];omega)]
theorem qbl{l:List Oper}{V:Nat->Value}{a0:Act}{n:Nat}(hsl:QD l.toArray a0.tmps.size=true)(h:n<=l.length):finA l.toArray n V a0=finP l n V a0:=by
 have:=qbm hsl n h (V:=V);unfold finP;rw[<- this];rfl
def regB(l:List Oper)(n N:Nat):Bool:=qd9 .any l.toArray n&&fwdB l.toArray n&&QD l.toArray N&&Region.seqB .any l.toArray (l.length-n) n (Array.replicate n true++Array.replicate (l.length-n) false)
def depB(l:List Oper)(o:Oper)(j t:Nat):Bool:=(o.after.toList.any fun e=>e.on==j&&Region.binds .any e)&&((l[j]?).bind (·.dst)==some t)
theorem dE{a:Act}{t:Nat}{x v:Value}(h:(x=v)/\a.tmps[t]?.getD undef=x):a.tmps[t]?.getD undef=v:=h.2.trans h.1
theorem dG{a:Act}{t:Nat}{v:Value}(h:a.tmps[t]?.getD undef=v):a.tmps.getD t undef=v:=by rw[gDd];exact h
theorem dP{a a0:Act}{t:Nat}{v:Value}(h:a.eval (.tmp t)=a0.eval (.tmp t))(h0:a0.eval (.tmp t)=v):a.tmps[t]?.getD undef=v:=by
 have:=h.trans h0;simp only[Act.eval,gDd]at this;exact this
section
variable {P : Program} {Q : Exit -> Act -> World -> Prop}
theorem qW{id:Nat}{l:List Oper}(n N:Nat)(a0:Act)(w0:World)(F:Nat->Value->World->Prop)(hm:P.follows .mixedOrders=true)(hc:regB l n N=true)(hN:a0.tmps.size=N)
  (hmono:∀ i v w w',i<n->F i v w->Bel w w'->F i v w')
  (hstep:∀ i o,i<n->l[i]?=some o->∀ (a:Act) (w:World) (V:Nat->Value),Bel w0.drew w →
   (∀ j t,depB l o j t=true->F j (V j) w/\a.tmps[t]?.getD undef=V j)->(∀ s,(decide (s<N)&&qdG l.toArray n s)=true->a.eval (.tmp s)=a0.eval (.tmp s)) →
   ∀ K:Act->World->Prop,(∀ v w',Bel w w'->F i v w'->K (a.put o.dst v) w')->(Region.wanted o (yielded l.toArray a.tmps)=true->Oper.wp P o a w K Q)/\(Region.wanted o (yielded l.toArray a.tmps)=false->F i undef w))
  (hend:∀ (V:Nat->Value) (w:World),Bel w0.drew w->(∀ i,i<n->F i (V i) w)->wpList P l.toArray Q (l.drop n) (finP l n V a0) w) :
  (Code.region id l.toArray true).wp P Q a0 w0:=by
 unfold regB at hc;simp only[bA]at hc;obtain⟨⟨⟨c1,c2⟩,c3⟩,c4⟩:=hc;have hnl:n<=l.length:=by
  simp only[qd9,bA,pE]at c1;have:=c1.1.1.2;simp only[List.size_toArray]at this;omega
 subst hN;refine J9 n a0 w0 F hm c1 c2 c3 c4 hmono ?_ ?_
 ·intro i o hi ho a w V hb hdep hpar K hK
  refine hstep i o hi (by simpa using ho) a w V hb ?_ ?_ K hK
  ·intro j t hd
   unfold depB at hd;rw[bA,List.any_eq_true]at hd;obtain⟨⟨e,he,hj⟩,ht⟩:=hd;rw[bA,beq_iff_eq]at hj;obtain⟨rfl,hbn⟩:=hj;obtain⟨f1,f2⟩:=hdep e (by simpa using he) hbn;have f3:=f2 t (by simpa using ht);simp only[Act.eval,gDd]at f3;exact⟨f1,f3⟩
  ·intro s hs
   rw[bA,pE]at hs;exact hpar s hs.1 hs.2
 ·intro V w hb hF
  rw[qbl c3 hnl];exact hend V w hb hF
end
theorem oW{P:Program}{ops:Array Oper}{o:Oper}{a:Act}{w:World}{K:Act->World->Prop}{Q:Exit->Act->World->Prop}{v:Value}{S:Value->World->Prop}(hK:∀ (v:Value) (w':World),Bel w w'->S v w'->K (a.put o.dst v) w')(hg:o.guard=none)(r:S v w)(h:(execOp a.eval o).run P w=.ok (.value v) w):(Region.wanted o (yielded ops a.tmps)=true->Oper.wp P o a w K Q)/\(Region.wanted o (yielded ops a.tmps)=false->S undef w):=
 ⟨fun _=>qX h (hK v w (Bel.refl w) r),fun hw=>(yw_n hg hw).elim⟩
theorem oN{P:Program}{ops:Array Oper}{o:Oper}{a:Act}{w:World}{K:Act->World->Prop}{Q:Exit->Act->World->Prop}{B:Prop}(hg:o.guard=none)(h:Oper.wp P o a w K Q):(Region.wanted o (yielded ops a.tmps)=true->Oper.wp P o a w K Q)/\(Region.wanted o (yielded ops a.tmps)=false->B):=
 ⟨fun _=>h,fun hw=>(yw_n hg hw).elim⟩
theorem oK{P:Program}{ops:Array Oper}{o:Oper}{a:Act}{w:World}{K:Act->World->Prop}{Q:Exit->Act->World->Prop}{v:Value}{S:Value->World->Prop}{f:FuncId}{args:Array Value}(hK:∀ (v:Value) (w':World),Bel w w'->S v w'->K (a.put o.dst v) w')(hg:o.guard=none)(h:Calls P f args w fun e w'=>e=.returned v/\Bel w w')(r:∀ w',S v w')(hrun:(execOp a.eval o).run P w=.ok (.enter f args) w):(Region.wanted o (yielded ops a.tmps)=true->Oper.wp P o a w K Q)/\(Region.wanted o (yielded ops a.tmps)=false->S undef w):=
 oN hg (zh hrun (h.mono fun _ w' ⟨he,hb⟩=>⟨v,he,hK v w' hb (r w')⟩))
set_option maxHeartbeats 1000000
def capX(d:Nat):Int:=8796093022208*(202-(d:Int))
def ZQ(c:Int)(d:Nat)(f:Tr)(z:Int):Prop:=1<=z/\z<=c/\(z<=9000->z=(f.wt:Int)/\f.depth+d<=201)
abbrev qP:= "ref.go:432"
def regSz:List Oper:=[
 ⟨some 47,.move (.tmp 5),3,qP,#[],none⟩,
 ⟨some 48,.fieldAddr 28 (.tmp 2) 5,0,qP,#[],none⟩,
 ⟨some 49,.load 26 (.tmp 48),26,qP,#[⟨1,.data⟩],none⟩,
 ⟨some 50,.move (.tmp 7),3,qP,#[],none⟩,
 ⟨some 51,.indexAddr 26 (.tmp 49) (.tmp 50),0,qP,#[⟨2,.data⟩,⟨3,.data⟩],none⟩,
 ⟨some 52,.fieldAddr 61 (.tmp 51) 0,0,qP,#[⟨4,.data⟩],none⟩,
 ⟨some 53,.load 59 (.tmp 52),59,qP,#[⟨5,.data⟩],none⟩,
 ⟨some 54,.move (.tmp 1),3,qP,#[],none⟩,
 ⟨some 55,.binOp .add 3 (.tmp 54) (.const (Value.int IntKind.i64 1)) 3,3,qP,#[⟨7,.data⟩],none⟩,
 ⟨some 56,.call ⟨.value (.func 17),#[.tmp 53,.tmp 55],#[59,3]⟩,3,qP,#[⟨6,.data⟩,⟨8,.data⟩],none⟩,
 ⟨some 57,.binOp .add 3 (.tmp 47) (.tmp 56) 3,3,qP,#[⟨0,.data⟩,⟨9,.data⟩],none⟩,
 ⟨some 58,.fieldAddr 28 (.tmp 2) 5,0,qP,#[],none⟩,
 ⟨some 59,.load 26 (.tmp 58),26,qP,#[⟨11,.data⟩],none⟩,
 ⟨some 60,.move (.tmp 7),3,qP,#[],none⟩,
 ⟨some 61,.indexAddr 26 (.tmp 59) (.tmp 60),0,qP,#[⟨12,.data⟩,⟨13,.data⟩],none⟩,
 ⟨some 62,.fieldAddr 61 (.tmp 61) 1,0,qP,#[⟨14,.data⟩],none⟩,
 ⟨some 63,.load 28 (.tmp 62),28,qP,#[⟨15,.data⟩],none⟩,
 ⟨some 64,.move (.tmp 1),3,qP,#[],none⟩,
 ⟨some 65,.binOp .add 3 (.tmp 64) (.const (Value.int IntKind.i64 1)) 3,3,qP,#[⟨17,.data⟩],none⟩,
 ⟨some 66,.call ⟨.value (.func 6),#[.tmp 63,.tmp 65],#[28,3]⟩,3,qP,#[⟨16,.data⟩,⟨18,.data⟩,⟨9,.chain⟩],none⟩,
 ⟨some 67,.binOp .add 3 (.tmp 57) (.tmp 66) 3,3,qP,#[⟨10,.data⟩,⟨19,.data⟩],none⟩,
 ⟨some 5,.assign (.tmp 67),3,qP,#[⟨20,.data⟩,⟨19,.chain⟩,⟨0,.phase⟩,⟨1,.phase⟩,⟨2,.phase⟩,⟨3,.phase⟩,⟨4,.phase⟩,⟨5,.phase⟩,⟨6,.phase⟩,⟨7,.phase⟩,⟨8,.phase⟩,⟨9,.phase⟩,⟨10,.phase⟩,⟨11,.phase⟩,⟨12,.phase⟩,⟨13,.phase⟩,⟨14,.phase⟩,⟨15,.phase⟩,⟨16,.phase⟩,⟨17,.phase⟩,⟨18,.phase⟩,⟨19,.phase⟩,⟨20,.phase⟩],none⟩]
theorem qfC{id:Nat}(bx b1 o1 m ca j d:Nat)(y:Int)(k1 n1 x1 l1 c1 K1 N1 U1 V1 W1:Int)(t1 T1:BA)(A1 F1 G1:OA)(m1 d1 M1 D1 R1 E1:Nat)(g g2:Tr)(a0:Act)(w:World)(i1:(0:Int)<=(j:Int))(i2:(j:Int)<(m:Int))(hd:d<=200)(hw:wrap64 ((d:Int)+1)=(d:Int)+1)(hy1:1<=y)(hy9:y<=9000)(h1:b1<w.drew.heap.size)(hx:bx<w.drew.heap.size)(zx:w.drew.cell? ⟨bx,7,none⟩=some (.slice (some ⟨b1,o1,none⟩) m ca))(fa0:w.drew.cell? ⟨b1,o1+j*15,none⟩=some (.int .u8 k1))(fa1:w.drew.cell? ⟨b1,o1+j*15+1,none⟩=some (.string t1))(fa2:w.drew.cell? ⟨b1,o1+j*15+2,none⟩=some (.int .i64 n1))(fa3:w.drew.cell? ⟨b1,o1+j*15+3,none⟩=some (.int .i64 x1))(fa4:w.drew.cell? ⟨b1,o1+j*15+4,none⟩=some (.int .i64 l1))(fa5:w.drew.cell? ⟨b1,o1+j*15+5,none⟩=some (.int .i64 c1))(fa6:w.drew.cell? ⟨b1,o1+j*15+6,none⟩=some (.slice A1 m1 d1))(fa7:w.drew.cell? ⟨b1,o1+j*15+7,none⟩=some (.int .u8 K1))(fa8:w.drew.cell? ⟨b1,o1+j*15+8,none⟩=some (.string T1))(fa9:w.drew.cell? ⟨b1,o1+j*15+9,none⟩=some (.int .i64 N1))(fa10:w.drew.cell? ⟨b1,o1+j*15+10,none⟩=some (.int .i64 U1))(fa11:w.drew.cell? ⟨b1,o1+j*15+11,none⟩=some (.int .i64 V1))(fa12:w.drew.cell? ⟨b1,o1+j*15+12,none⟩=some (.int .i64 W1))(fa13:w.drew.cell? ⟨b1,o1+j*15+13,none⟩=some (.slice F1 M1 D1))(fa14:w.drew.cell? ⟨b1,o1+j*15+14,none⟩=some (.slice G1 R1 E1))(HP:∀ W,Bel w.drew W->Calls Tryz.prog 17 #[.agg #[.int .u8 k1,t1,n1,x1,l1,c1,.slice A1 m1 d1],.int .i64 ((d:Int)+1)] W (QL (capP (d+1)) (d+1) g W))(HX:∀ W,Bel w.drew W->Calls Tryz.prog 6 #[.agg #[.int .u8 K1,T1,N1,U1,V1,W1,.slice F1 M1 D1,.slice G1 R1 E1],.int .i64 ((d:Int)+1)] W (QL (capX (d+1)) (d+1) g2 W))(Q:Exit->Act->World->Prop)
  (hend:∀ (V:Nat->Value) (w':World),Bel w.drew w'->(∃ z z2:Int,(V 20)=.int .i64 (y+z+z2)/\ZQ (capP (d+1)) (d+1) g z/\ZQ (capX (d+1)) (d+1) g2 z2)->wpList Tryz.prog regSz.toArray Q (regSz.drop 21) (finP regSz 21 V a0) w') (hN:a0.tmps.size=69:=by kernel_rfl) (hp1:a0.eval (.tmp 1)=.int .i64 (d:Int):=by kernel_rfl) (hp2:a0.eval (.tmp 2)=.pointer (some ⟨bx,0,none⟩):=by kernel_rfl) (hp5:a0.eval (.tmp 5)=.int .i64 y:=by kernel_rfl) (hp7:a0.eval (.tmp 7)=.int .i64 (j:Int):=by kernel_rfl) :
  (Code.region id regSz.toArray true).wp Tryz.prog Q a0 w:=by
 refine qW 21 69 a0 w (fun i v w=>match i with
  | 0=>v=.int .i64 y
  | 1=>v=.pointer (some ⟨bx,7,none⟩)
  | 2=>v=.slice (some ⟨b1,o1,none⟩) m ca
  | 3=>v=.int .i64 (j:Int)
  | 4=>v=.pointer (some ⟨b1,o1+j*15,none⟩)
  | 5=>v=.pointer (some ⟨b1,o1+j*15,none⟩)
  | 6=>v=.agg #[.int .u8 k1,t1,n1,x1,l1,c1,.slice A1 m1 d1]
  | 7=>v=.int .i64 (d:Int)
  | 8=>v=.int .i64 ((d:Int)+1)
  | 9=>∃ z:Int,v=.int .i64 z/\ZQ (capP (d+1)) (d+1) g z
  | 10=>∃ z:Int,v=.int .i64 (y+z)/\ZQ (capP (d+1)) (d+1) g z
  | 11=>v=.pointer (some ⟨bx,7,none⟩)
  | 12=>v=.slice (some ⟨b1,o1,none⟩) m ca
  | 13=>v=.int .i64 (j:Int)
  | 14=>v=.pointer (some ⟨b1,o1+j*15,none⟩)
  | 15=>v=.pointer (some ⟨b1,o1+j*15+7,none⟩)
  | 16=>v=.agg #[.int .u8 K1,T1,N1,U1,V1,W1,.slice F1 M1 D1,.slice G1 R1 E1]
  | 17=>v=.int .i64 (d:Int)
  | 18=>v=.int .i64 ((d:Int)+1)
  | 19=>∃ z:Int,v=.int .i64 z/\ZQ (capX (d+1)) (d+1) g2 z
  | 20=>∃ z z2:Int,v=.int .i64 (y+z+z2)/\ZQ (capP (d+1)) (d+1) g z/\ZQ (capX (d+1)) (d+1) g2 z2
  | _=>True) (by kernel_rfl) (by kernel_rfl) hN (fun _ _ _ _ _ h _=>h) ?_ ?_
 ·intro i' o hi' ho a w1 V hbel hd hpar K hK
  have p1':=dP (hpar 1 (by kernel_rfl)) hp1;have p2':=dP (hpar 2 (by kernel_rfl)) hp2;have p5':=dP (hpar 5 (by kernel_rfl)) hp5;have p7':=dP (hpar 7 (by kernel_rfl)) hp7;have ga0:=gX hbel h1 fa0;have ga1:=gX hbel h1 fa1;have ga2:=gX hbel h1 fa2;have ga3:=gX hbel h1 fa3;have ga4:=gX hbel h1 fa4;have ga5:=gX hbel h1 fa5;have ga6:=gX hbel h1 fa6;have ga7:=gX hbel h1 fa7;have ga8:=gX hbel h1 fa8;have ga9:=gX hbel h1 fa9;have ga10:=gX hbel h1 fa10;have ga11:=gX hbel h1 fa11;have ga12:=gX hbel h1 fa12;have ga13:=gX hbel h1 fa13;have ga14:=gX hbel h1 fa14;have zx':=gX hbel hx zx;have hw':IntKind.i64.wrap ((d:Int)+1)=(d:Int)+1:=(IntWalk.i64_left _).trans hw
  match i',hi',ho,hd,hK with
  | 0,_,ho,hd,hK=>cases ho;exact oW hK rfl rfl (by simp[execOp,go_sem,p5'])
  | 1,_,ho,hd,hK=>cases ho;exact oW hK rfl rfl (by simp[execOp,go_sem,p2'])
  | 2,_,ho,hd,hK=>cases ho;exact oW hK rfl rfl (by simp[execOp,go_sem,dE (hd 1 48 rfl),zx'])
  | 3,_,ho,hd,hK=>cases ho;exact oW hK rfl rfl (by simp[execOp,go_sem,p7'])
  | 4,_,ho,hd,hK=>cases ho;exact oW hK rfl rfl (by simp[execOp,go_sem,dE (hd 2 49 rfl),dE (hd 3 50 rfl),i1,i2])
  | 5,_,ho,hd,hK=>cases ho;exact oW hK rfl rfl (by simp[execOp,go_sem,dE (hd 4 51 rfl)])
  | 6,_,ho,hd,hK=>cases ho;exact oW hK rfl rfl (by simp[execOp,go_sem,dE (hd 5 52 rfl),ga0,ga1,ga2,ga3,ga4,ga5,ga6])
  | 7,_,ho,hd,hK=>cases ho;exact oW hK rfl rfl (by simp[execOp,go_sem,p1'])
  | 8,_,ho,hd,hK=>cases ho;exact oW hK rfl rfl (by simp[execOp,go_sem,dE (hd 7 54 rfl),hw'])
  | 9,_,ho,hd,hK=>cases ho;refine oN rfl ?_;refine zh (f:=17) (args:=#[.agg #[.int .u8 k1,t1,n1,x1,l1,c1,.slice A1 m1 d1],.int .i64 ((d:Int)+1)]) (by simp[go_sem,dE (hd 6 53 rfl),dE (hd 8 55 rfl)]) ((HP w1 hbel).mono ?_);rintro e w' ⟨z,rfl,q1,q2,q3,hb⟩;exact⟨_,rfl,hK _ _ hb ⟨z,rfl,q1,q2,q3⟩⟩
  | 10,_,ho,hd,hK=>cases ho;obtain⟨⟨z9,hv9,hq9⟩,d9⟩:=hd 9 56 rfl;have e9':=d9.trans hv9;refine oN rfl ?_;have hw9:IntKind.i64.wrap (y+z9)=y+z9:=(IntWalk.i64_left _).trans (IntWalk.wrap64_in _ (by have:=hq9.1;have:=hq9.2.1;unfold capP at this;omega));exact qX (v:= .int .i64 (y+z9)) (w':=w1) (by simp[execOp,go_sem,dE (hd 0 47 rfl),e9',hw9]) (hK _ _ (Bel.refl _) ⟨z9,rfl,hq9⟩)
  | 11,_,ho,hd,hK=>cases ho;exact oW hK rfl rfl (by simp[execOp,go_sem,p2'])
  | 12,_,ho,hd,hK=>cases ho;exact oW hK rfl rfl (by simp[execOp,go_sem,dE (hd 11 58 rfl),zx'])
  | 13,_,ho,hd,hK=>cases ho;exact oW hK rfl rfl (by simp[execOp,go_sem,p7'])
  | 14,_,ho,hd,hK=>cases ho;exact oW hK rfl rfl (by simp[execOp,go_sem,dE (hd 12 59 rfl),dE (hd 13 60 rfl),i1,i2])
  | 15,_,ho,hd,hK=>cases ho;exact oW hK rfl rfl (by simp[execOp,go_sem,dE (hd 14 61 rfl)])
  | 16,_,ho,hd,hK=>cases ho;exact oW hK rfl rfl (by simp[execOp,go_sem,dE (hd 15 62 rfl),ga7,ga8,ga9,ga10,ga11,ga12,ga13,ga14])
  | 17,_,ho,hd,hK=>cases ho;exact oW hK rfl rfl (by simp[execOp,go_sem,p1'])
  | 18,_,ho,hd,hK=>cases ho;exact oW hK rfl rfl (by simp[execOp,go_sem,dE (hd 17 64 rfl),hw'])
  | 19,_,ho,hd,hK=>cases ho;refine oN rfl ?_;refine zh (f:=6) (args:=#[.agg #[.int .u8 K1,T1,N1,U1,V1,W1,.slice F1 M1 D1,.slice G1 R1 E1],.int .i64 ((d:Int)+1)]) (by simp[go_sem,dE (hd 16 63 rfl),dE (hd 18 65 rfl)]) ((HX w1 hbel).mono ?_);rintro e w' ⟨z,rfl,q1,q2,q3,hb⟩;exact⟨_,rfl,hK _ _ hb ⟨z,rfl,q1,q2,q3⟩⟩
  | 20,_,ho,hd,hK=>cases ho;obtain⟨⟨z10,hv10,hq10⟩,d10⟩:=hd 10 57 rfl;have e10':=d10.trans hv10;obtain⟨⟨z19,hv19,hq19⟩,d19⟩:=hd 19 66 rfl;have e19':=d19.trans hv19;refine oN rfl ?_;have hw20:IntKind.i64.wrap (y+z10+z19)=y+z10+z19:=(IntWalk.i64_left _).trans (IntWalk.wrap64_in _ (by have:=hq10.1;have a:=hq10.2.1;have:=hq19.1;have b:=hq19.2.1;unfold capP at a;unfold capX at b;omega));exact qX (v:= .int .i64 (y+z10+z19)) (w':=w1) (by simp[execOp,go_sem,e10',e19',hw20]) (hK _ _ (Bel.refl _) ⟨z10,z19,rfl,hq10,hq19⟩)
  | q+21,hi,_,_,_=>exact absurd hi (by omega)
 ·intro V w' hb hF
  exact hend V w' hb (hF 20 (by omega))
set_option maxHeartbeats 8000000
theorem qhA{d t W W' Dp Dp' m0 q:Nat}{z z1 z2:Int}{g h:Tr}(hd:d<=200)(h1:1<=z/\z<=capX d/\(z<=9000->z=((1+t+q+W:Nat):Int)/\1+max m0 Dp+d<=201))(hz:z<=9000)(p:ZQ (capP (d+1)) (d+1) g z1)(r:ZQ (capX (d+1)) (d+1) h z2)(hW:W'=W+(g.wt+h.wt))(hD:Dp'=max Dp (max g.depth h.depth)) :
  1<=z+z1+z2/\z+z1+z2<=capX d/\(z+z1+z2<=9000->z+z1+z2=((1+t+q+W':Nat):Int)/\1+max m0 Dp'+d<=201):=by
 obtain⟨p1,p2,p3⟩:=p;obtain⟨r1,r2,r3⟩:=r;obtain⟨g1,g2,g3⟩:=h1;unfold capP at p2;unfold capX at r2 ⊢;refine⟨by omega,by omega,fun h9=>?_⟩;obtain⟨a1,a2⟩:=g3 hz;obtain⟨b1,b2⟩:=p3 (by omega);obtain⟨c1,c2⟩:=r3 (by omega);clear p2 r2 g2 g3 p3 r3;subst hW hD;exact⟨by omega,by omega⟩
theorem JB(N:Nat):∀ (d:Nat) (k:Int) (s:LU) (n:Int) (p:Pl) (A:OA) (len cap:Nat) (kids:Tr) (B:OA) (bl bc:Nat) (arms:Tr) (w:World),kids.size+arms.size=N->KidsTr w (OldT w) .ex A len cap kids->KidsTr w (OldT w) .arms B bl bc arms->d<=201->s.length<=140737488355328->kids.len<=140737488355328->arms.len<=140737488355328->kids.fit->arms.fit →
  Calls Tryz.prog 6 #[.agg #[.int .u8 k,.string ⟨s.toArray⟩,n,p.a,p.l,p.c,.slice A len cap,.slice B bl bc],(d:Int)] w (QL (capX d) d (.nod k s n p kids arms .nil) w):=by
 induction N using Nat.strongRecOn with
 | _ N ih=>
  intro d k s n p A len cap kids B bl bc arms w hN h hA hd hs hkl hal hft hfa;have H:=hid h;have HA:=hid hA;have IH:=hid ih;have HL:Hid (len=kids.len):=hid h.1;have HM:Hid (bl=arms.len):=hid hA.1;have HN:=hid hN;have HF:=hid hft;have HFA:=hid hfa;have hlen:len<=140737488355328:=by have:=h.1;omega
  have hbl:bl<=140737488355328:=by have:=hA.1;omega
  obtain⟨S,hS⟩:=nW (⟨s.toArray⟩:BA);have hsz:S.size=s.length:=by rw[hS];simp[ByteArray.size]
  rw[<- hS];clear h hA ih hN hft hfa hS hkl hal;by_cases dd:200<d
  case pos=>
   have d1:(200:Int)<(d:Int):=by omega
   go_enter Tryz.func6,Tryz.ntmps6;go_wp2_with fail;go_ret;refine⟨9001,rfl,by decide,?_,fun h=>absurd h (by decide),?_⟩
   ·unfold capX;omega
   ·repeat (first | exact Bel.refl _ | apply Bel.alloc | apply Bel.drew)
  have d1:¬ (200:Int)<(d:Int):=by omega
  have d2:(d:Int)<=200:=by omega
  have HD2:Hid (d<=200):=hid (by omega);obtain⟨t,ht⟩:=nW (s.length / 64:Nat);have htl:t<=2199023255552:=by omega
  have hq:wrap64 (1+wrap64 ((s.length:Int) / 64))=((1+t:Nat):Int):=by
   have e1:(s.length:Int) / 64=(t:Int):=by omega
   rw[e1,IntWalk.wrap64_in (t:Int) (by omega),IntWalk.wrap64_in _ (by omega)];omega
  have HT:=hid ht;clear ht hs;go_enter Tryz.func6,Tryz.ntmps6;go_wp2_with fail;try rw[hq]
  clear hq;have q1:=blk1 w (.cells #[.int .u8 k,S,n,p.a,p.l,p.c,.slice A len cap,.slice B bl bc] 28);have hb1:Bel w (w.alloc (.cells #[.int .u8 k,S,n,p.a,p.l,p.c,.slice A len cap,.slice B bl bc] 28)):=(Bel.refl w).alloc _;have hs1:(w.alloc (.cells #[.int .u8 k,S,n,p.a,p.l,p.c,.slice A len cap,.slice B bl bc] 28)).heap.size=w.heap.size+1:=by simp
  obtain⟨w1,hw1⟩:=nW (w.alloc (.cells #[.int .u8 k,S,n,p.a,p.l,p.c,.slice A len cap,.slice B bl bc] 28));rw[<- hw1]at q1 hb1 hs1 ⊢;have HQ:=hid q1;have HB1:=hid hb1;have HS1:=hid hs1;clear q1 hb1 hs1 hw1 hsz;go_loopw [5,6] (fun s i wr=>∃ (j:Nat) (z:Int),j<=len/\i=.int .i64 (j:Int)/\s=.int .i64 z/\Hid (1<=z/\z<=9000+capX (d+1)/\(z<=9000->z=((1+t+kids.wtU j:Nat):Int)/\1+kids.depU j+d<=201))/\Hid (Bel w1 wr)) (fun _ i _=>len-(intOf i).toNat)
  case atStart=>exact⟨0,_,zL _,rfl,rfl,hid ⟨by omega,by unfold capX;omega,fun _=>by rw[Tr.wtU_zero,Tr.depU_zero];exact⟨rfl,by omega⟩⟩,hid (Bel.refl _)⟩
  case round=>
   obtain⟨j,z,hj,rfl,rfl,HI,HB⟩:=hrel;have hbx:=(HB.block w.heap.size (by have:=HS1.out;omega)).trans HQ;obtain⟨x6,x7⟩:=qcD hbx;clear hbx;by_cases hgo:j<len/\z<=9000
   ·obtain⟨hlt,hz⟩:=hgo
    have hkr:KidsTr wr (OldT w) .ex A len cap kids:=H.keep fun i hi=>(HB.block i (lT hi HB1.size)).trans (HB1.block i hi);obtain⟨ub,uo,eA,hob,hfo⟩:=hkr.2.2 (by omega);subst eA;obtain⟨k',s',n',p',kids',ar',en,hd',⟨A',cap',e5,hcp',hk'⟩,har',_⟩:=TrAt.nod_at (by intro e;cases e) kids j ub uo hfo (by rw[<- HL.out];exact hlt);obtain⟨_,B',bc',e6,hbp',hb'⟩:Sh.ex=.ex/\∃ A cap,wr.cell? ⟨ub,uo+j*Sh.sz .ex+7,none⟩=some (.slice A ar'.len cap)/\ar'.len<=cap/\(0<ar'.len->∃ b' o',A=some ⟨b',o',none⟩/\OldT w b'/\TrAt wr (OldT w) ar' .arms b' o'):=by
     rcases har' with e | ⟨e | e,_⟩
     ·exact e
     ·cases e
     ·cases e
    obtain⟨e0,e1,e2,f1,f2,f3⟩:=hd';have hsn:=Tr.nth_size kids j;have hft':=Tr.nth_fit kids j HF;rw[en]at hsn hft';simp only[Tr.size]at hsn;obtain⟨hs',hkl',hal',hfk',hfa',_⟩:=hft';have hOld:∀ i,OldT w i->OldT wr i:=fun i hi=>lT hi (lL HB1.size HB.size);have hK':KidsTr wr (OldT w) .ex A' kids'.len cap' kids':=⟨rfl,hcp',hk'⟩
    have hR':KidsTr wr (OldT w) .arms B' ar'.len bc' ar':=⟨rfl,hbp',hb'⟩
    obtain⟨g,hg⟩:=nW (Tr.nod k' s' n' p' kids' ar' .nil);have HU:Hid (kids.wtU (j+1)=kids.wtU j+g.wt/\kids.depU (j+1)=max (kids.depU j) g.depth):=hid (by
     rw[Tr.wtU_succ kids j (by rw[<- HL.out];exact hlt),Tr.depU_succ kids j (by rw[<- HL.out];exact hlt),en,hg];exact⟨rfl,rfl⟩)
    have HC:Hid (Calls Tryz.prog 6 #[.agg #[.int .u8 k',.string ⟨s'.toArray⟩,n',p'.a,p'.l,p'.c,.slice A' kids'.len cap',.slice B' ar'.len bc'],.int .i64 ((d:Int)+1)] wr (QL (capX (d+1)) (d+1) g wr)):=hid (by
     rw[hg];exact IH.out (kids'.size+ar'.size) (by have:=HN.out;omega) (d+1) k' s' n' p' A' kids'.len cap' kids' B' ar'.len bc' ar' wr rfl (hK'.wide hOld) (hR'.wide hOld) (by omega) hs' hkl' hal' hfk' hfa')
    obtain⟨l1,hl1⟩:=nW kids'.len;obtain⟨l3,hl3⟩:=nW ar'.len;rw[<- hl1,<- hl3]at HC;rw[<- hl1]at e5;rw[<- hl3]at e6;have i1:(0:Int)<=(j:Int):=by omega
    have i2:(j:Int)<(len:Int):=by omega
    have HLT:=hid hlt;have hw:wrap64 ((d:Int)+1)=(d:Int)+1:=IntWalk.wrap64_in _ (by omega);simp only[Sh.sz,Sh.kd]at e0 e1 e2 e5 e6 f1 f2 f3;clear hkr hfo en hk' hK' hR' hb' hbp' hsn hg hl1 hl3 har' hcp' hOld hob hs' hkl' hal' hfk' hfa';go_wp2_with fail;refine HC.out.mono ?_;rintro e w2 ⟨z',rfl,hz1,hz2,hz3,hb2⟩;have HB2:=hid (HB.on hb2);obtain⟨g1,g2,g3⟩:=HI.out;have hw2:wrap64 (z+z')=z+z':=IntWalk.wrap64_in _ (by unfold capX at *;omega);have HZ':Hid (1<=z+z'/\z+z'<=9000+capX (d+1)/\(z+z'<=9000->z+z'=((1+t+kids.wtU (j+1):Nat):Int)/\1+kids.depU (j+1)+d<=201)):=hid (by
     refine⟨by omega,by omega,fun h9=>?_⟩;obtain⟨a1,a2⟩:=g3 (by omega);obtain⟨b1,b2⟩:=hz3 (by omega);rw[HU.out.1,HU.out.2];exact⟨by omega,by omega⟩)
    clear hb2 e0 e1 e2 e5 e6 f1 f2 f3 x6 x7 hz1 hz2 hz3 g1 g2 g3;go_wp2_with fail;go_roundw
    case rel=>exact⟨j+1,z+z',HLT,by go_num,by first | rfl | rw[hw2],HZ',HB2⟩
    case measure=>exact mS HLT
   ·have HI2:Hid (1<=z/\z<=9000+capX (d+1)/\(z<=9000->z=((1+t+kids.wt:Nat):Int)/\1+kids.depth+d<=201)):=hid (by
     obtain⟨g1,g2,g3⟩:=HI.out;refine⟨g1,g2,fun h9=>?_⟩;have hj':j=len:=by
      by_cases hlt:j<len
      ·exact absurd ⟨hlt,h9⟩ hgo
      ·omega
     obtain⟨a1,a2⟩:=g3 h9;rw[hj',HL.out,Tr.wtU_all]at a1;rw[hj',HL.out,Tr.depU_all]at a2;exact⟨a1,a2⟩)
    clear HI;by_cases hlt:j<len
    case' pos=>
     have hz9:9000<z:=by
      by_cases h9:z<=9000
      ·exact absurd ⟨hlt,h9⟩ hgo
      ·omega
    case' neg=>
     have hz9:¬ (j<len):=hlt
    all_goals
     clear hgo;go_wp2_with fail;go_loopw [5,7] (fun s i wr=>∃ (j:Nat) (z:Int),j<=bl/\i=.int .i64 (j:Int)/\s=.int .i64 z/\Hid (1<=z/\z<=capX d/\(z<=9000->z=((1+t+kids.wt+arms.wtU j:Nat):Int)/\1+max kids.depth (arms.depU j)+d<=201))/\Hid (Bel w1 wr)) (fun _ i _=>bl-(intOf i).toNat)
     case atStart=>exact⟨0,z,zL _,rfl,rfl,hid ⟨HI2.1,by have:=HI2.2.1;unfold capX at *;omega,fun h9=>by rw[Tr.wtU_zero,Tr.depU_zero,Nat.max_eq_left (zL _)];exact HI2.2.2 h9⟩,HB⟩
     case round=>
      obtain⟨j,z,hj2,rfl,rfl,HI,HBs⟩:=hrel;clear hj HB x6 x7 hlt hz9 HI2;have hbx:=(HBs.block w.heap.size (by have:=HS1.out;omega)).trans HQ;obtain⟨x6,x7⟩:=qcD hbx;clear hbx;by_cases hgo:j<bl/\z<=9000
      ·obtain⟨hlt,hz⟩:=hgo
       have hkr:KidsTr wr (OldT w) .arms B bl bc arms:=HA.keep fun i hi=>(HBs.block i (lT hi HB1.size)).trans (HB1.block i hi);obtain⟨ub,uo,eA,hob,hfo⟩:=hkr.2.2 (by omega);subst eA;obtain⟨k',s',n',p',kids',f',en,_,hd',⟨A',cap',a6,hcp',hk'⟩,hone,hex,_⟩:=TrAt.arm_at arms j ub uo hfo (by rw[<- HM.out];exact hlt);obtain⟨K',S',N',P',kx',ax',rfl⟩:=Tr.single (by intro e;cases e) f' hone hex;obtain⟨hD',⟨F',D',a13,hcx',hkx'⟩,hax',_⟩:=hex;obtain⟨_,B',E',a14,hbp',hb'⟩:Sh.ex=.ex/\∃ A cap,wr.cell? ⟨ub,uo+j*15+7+7,none⟩=some (.slice A ax'.len cap)/\ax'.len<=cap/\(0<ax'.len->∃ b' o',A=some ⟨b',o',none⟩/\OldT w b'/\TrAt wr (OldT w) ax' .arms b' o'):=by
        rcases hax' with e | ⟨e | e,_⟩
        ·exact e
        ·cases e
        ·cases e
       obtain⟨a0,a1,a2,a3,a4,a5⟩:=hd';obtain⟨a7,a8,a9,a10,a11,a12⟩:=hD';have hsn:=Tr.nth_size arms j;have hft':=Tr.nth_fit arms j HFA;rw[en]at hsn hft';simp only[Tr.size]at hsn;obtain⟨hs',hkl',hfk',⟨hS',hKl',hAl',hfx',hfa',_⟩,_⟩:=hft';have hOld:∀ i,OldT w i->OldT wr i:=fun i hi=>lT hi (lL HB1.size HBs.size);have hK':KidsTr wr (OldT w) .pat A' kids'.len cap' kids':=⟨rfl,hcp',hk'⟩
       have hX':KidsTr wr (OldT w) .ex F' kx'.len D' kx':=⟨rfl,hcx',hkx'⟩
       have hR':KidsTr wr (OldT w) .arms B' ax'.len E' ax':=⟨rfl,hbp',hb'⟩
       obtain⟨g,hg⟩:=nW (Tr.nod k' s' n' p' kids' .nil .nil);obtain⟨h,hh⟩:=nW (Tr.nod K' S' N' P' kx' ax' .nil);have HU:Hid (arms.wtU (j+1)=arms.wtU j+(g.wt+h.wt)/\arms.depU (j+1)=max (arms.depU j) (max g.depth h.depth)):=hid (by
        rw[Tr.wtU_succ arms j (by rw[<- HM.out];exact hlt),Tr.depU_succ arms j (by rw[<- HM.out];exact hlt),en,hg,hh];simp only[Tr.wt,Tr.depth];exact⟨by omega,by omega⟩)
       have hd1:((d+1:Nat):Int)=(d:Int)+1:=by omega
       have HP:∀ W,Bel wr.drew W->Calls Tryz.prog 17 #[.agg #[.int .u8 k',.string ⟨s'.toArray⟩,n',p'.a,p'.l,p'.c,.slice A' kids'.len cap'],.int .i64 ((d:Int)+1)] W (QL (capP (d+1)) (d+1) g W):=fun W hW=>by
        have hW':Bel wr W:=(Bel.refl wr).drew.on hW;rw[hg,<- hd1];exact qbF kids'.size (d+1) k' s' n' p' A' kids'.len cap' kids' W rfl ((hK'.wide hOld).bel hW') (by omega) hs' hkl' hfk'
       have HX:∀ W,Bel wr.drew W->Calls Tryz.prog 6 #[.agg #[.int .u8 K',.string ⟨S'.toArray⟩,N',P'.a,P'.l,P'.c,.slice F' kx'.len D',.slice B' ax'.len E'],.int .i64 ((d:Int)+1)] W (QL (capX (d+1)) (d+1) h W):=fun W hW=>by
        have hn:=HN.out;have hW':Bel wr W:=(Bel.refl wr).drew.on hW;rw[hh,<- hd1];exact IH.out (kx'.size+ax'.size) (by omega) (d+1) K' S' N' P' F' kx'.len D' kx' B' ax'.len E' ax' W rfl ((hX'.wide hOld).bel hW') ((hR'.wide hOld).bel hW') (by omega) hS' hKl' hAl' hfx' hfa'
       obtain⟨l1,hl1⟩:=nW kids'.len;obtain⟨l2,hl2⟩:=nW kx'.len;obtain⟨l3,hl3⟩:=nW ax'.len;rw[<- hl1]at a6 HP;rw[<- hl2]at a13;rw[<- hl3]at a14;rw[<- hl2,<- hl3]at HX;have i1:(0:Int)<=(j:Int):=by omega
       have i2:(j:Int)<(bl:Int):=by omega
       have kb1:ub<wr.heap.size:=hOld _ hob;have kb3:w.heap.size<wr.heap.size:=by have:=HS1.out;have:=HBs.size;omega
       have HLT:=hid hlt;have hw:wrap64 ((d:Int)+1)=(d:Int)+1:=IntWalk.wrap64_in _ (by omega);simp only[Sh.kd]at a9;clear hkr hfo en hk' hK' hX' hR' hb' hkx' hsn hg hh hl1 hl2 hl3 hOld hob hcp' hcx' hbp' hax' hone hs' hkl' hfk' hS' hKl' hAl' hfx' hfa' hd1;go_wp2_with fail;refine qfC w.heap.size ub uo bl bc j d z k' n' p'.a p'.l p'.c K' N' P'.a P'.l P'.c ⟨s'.toArray⟩ ⟨S'.toArray⟩ A' F' B' l1 cap' l2 D' l3 E' g h _ wr i1 i2 HD2 hw HI.1 hz kb1 kb3 x7 a0 a1 a2 a3 a4 a5 a6 a7 a8 a9 a10 a11 a12 a13 a14 HP HX _ ?_;rintro V w4 hb4 ⟨z1,z2,hv,HPQ,HRQ⟩;simp only[finP,zz,Nat.reduceAdd,jA,jB,jC,jD,jE,regSz,jF,jG,hv];have HB4:=hid (HBs.drew.on hb4);have HZ':Hid (1<=z+z1+z2/\z+z1+z2<=capX d/\(z+z1+z2<=9000->z+z1+z2=((1+t+kids.wt+arms.wtU (j+1):Nat):Int)/\1+max kids.depth (arms.depU (j+1))+d<=201)):=hid (qhA HD2 HI hz HPQ HRQ HU.1 HU.2);clear hb4 hv HPQ HRQ x6 x7 a0 a1 a2 a3 a4 a5 a6 a7 a8 a9 a10 a11 a12 a13 a14 HP HX;go_wp2_with fail;go_roundw
       case rel=>exact⟨j+1,z+z1+z2,HLT,by go_num,rfl,HZ',HB4⟩
       case measure=>exact mS HLT
      ·obtain⟨g1,g2,g3⟩:=HI.out
       have HF2:Hid (QL (capX d) d (.nod k s n p kids arms .nil) w (.returned (.int .i64 z)) wr):=hid ⟨z,rfl,g1,g2,fun h9=>by
        have hj':j=bl:=by
         by_cases hlt:j<bl
         ·exact absurd ⟨hlt,h9⟩ hgo
         ·omega
        obtain⟨a1,a2⟩:=g3 h9;rw[hj',HM.out,Tr.wtU_all]at a1;rw[hj',HM.out,Tr.depU_all]at a2;simp only[Tr.wt,Tr.depth];have:=HT.out;exact⟨by omega,by omega⟩,HB1.on HBs⟩
       clear g1 g2 g3;by_cases hlt:j<bl
       ·have hz9:9000<z:=by
         by_cases h9:z<=9000
         ·exact absurd ⟨hlt,h9⟩ hgo
         ·omega
        clear hgo;go_wp2_with fail;go_ret;exact HF2
       ·clear hgo
        go_wp2_with fail;go_ret;exact HF2
set_option maxHeartbeats 8000000
abbrev qJ:= "ref.go:405"
def regSd:List Oper:=[
 ⟨some 14,.move (.tmp 3),3,qJ,#[],none⟩,
 ⟨some 15,.binOp .add 3 (.tmp 14) (.const (Value.int IntKind.i64 1)) 3,3,qJ,#[⟨0,.data⟩],none⟩,
 ⟨some 16,.move (.tmp 0),22,qJ,#[],none⟩,
 ⟨some 17,.move (.tmp 4),3,qJ,#[],none⟩,
 ⟨some 18,.indexAddr 22 (.tmp 16) (.tmp 17),0,qJ,#[⟨2,.data⟩,⟨3,.data⟩],none⟩,
 ⟨some 19,.fieldAddr 52 (.tmp 18) 1,0,qJ,#[⟨4,.data⟩],none⟩,
 ⟨some 20,.load 9 (.tmp 19),9,qJ,#[⟨5,.data⟩],none⟩,
 ⟨some 21,.call ⟨.builtin Builtin.len,#[.tmp 20],#[9]⟩,3,qJ,#[⟨6,.data⟩],none⟩,
 ⟨some 22,.binOp .quo 3 (.tmp 21) (.const (Value.int IntKind.i64 64)) 3,3,qJ,#[⟨7,.data⟩],none⟩,
 ⟨some 23,.binOp .add 3 (.tmp 15) (.tmp 22) 3,3,qJ,#[⟨1,.data⟩,⟨8,.data⟩],none⟩,
 ⟨some 24,.move (.tmp 0),22,qJ,#[],none⟩,
 ⟨some 25,.move (.tmp 4),3,qJ,#[],none⟩,
 ⟨some 26,.indexAddr 22 (.tmp 24) (.tmp 25),0,qJ,#[⟨10,.data⟩,⟨11,.data⟩],none⟩,
 ⟨some 27,.fieldAddr 52 (.tmp 26) 3,0,qJ,#[⟨12,.data⟩],none⟩,
 ⟨some 28,.load 44 (.tmp 27),44,qJ,#[⟨13,.data⟩],none⟩,
 ⟨some 29,.call ⟨.builtin Builtin.len,#[.tmp 28],#[44]⟩,3,qJ,#[⟨14,.data⟩],none⟩,
 ⟨some 30,.binOp .add 3 (.tmp 23) (.tmp 29) 3,3,qJ,#[⟨9,.data⟩,⟨15,.data⟩],none⟩,
 ⟨some 31,.move (.tmp 0),22,qJ,#[],none⟩,
 ⟨some 32,.move (.tmp 4),3,qJ,#[],none⟩,
 ⟨some 33,.indexAddr 22 (.tmp 31) (.tmp 32),0,qJ,#[⟨17,.data⟩,⟨18,.data⟩],none⟩,
 ⟨some 34,.fieldAddr 52 (.tmp 33) 6,0,qJ,#[⟨19,.data⟩],none⟩,
 ⟨some 35,.load 28 (.tmp 34),28,qJ,#[⟨20,.data⟩],none⟩,
 ⟨some 36,.call ⟨.value (.func 6),#[.tmp 35,.const (Value.int IntKind.i64 0)],#[28,3]⟩,3,qJ,#[⟨21,.data⟩],none⟩,
 ⟨some 37,.binOp .add 3 (.tmp 30) (.tmp 36) 3,3,qJ,#[⟨16,.data⟩,⟨22,.data⟩],none⟩,
 ⟨some 3,.assign (.tmp 37),3,qJ,#[⟨23,.data⟩,⟨22,.chain⟩,⟨0,.phase⟩,⟨1,.phase⟩,⟨2,.phase⟩,⟨3,.phase⟩,⟨4,.phase⟩,⟨5,.phase⟩,⟨6,.phase⟩,⟨7,.phase⟩,⟨8,.phase⟩,⟨9,.phase⟩,⟨10,.phase⟩,⟨11,.phase⟩,⟨12,.phase⟩,⟨13,.phase⟩,⟨14,.phase⟩,⟨15,.phase⟩,⟨16,.phase⟩,⟨17,.phase⟩,⟨18,.phase⟩,⟨19,.phase⟩,⟨20,.phase⟩,⟨21,.phase⟩,⟨22,.phase⟩,⟨23,.phase⟩],none⟩]
theorem qfB{id:Nat}(b1 o1 m ca j u pl pc:Nat)(y:Int)(K1 N1 U1 V1 W1:Int)(t1 T1:BA)(PA F1 G1:OA)(M1 D1 R1 E1:Nat)(g2:Tr)(a0:Act)(w:World)(i1:(0:Int)<=(j:Int))(i2:(j:Int)<(m:Int))(hy1:0<=y)(hy9:y<=9000)(hu:t1.size / 64=u)(hu2:u<=17179869184)(hpl:pl<=1048576)(h1:b1<w.drew.heap.size)(fa1:w.drew.cell? ⟨b1,o1+j*16+1,none⟩=some (.string t1))(fa5:w.drew.cell? ⟨b1,o1+j*16+5,none⟩=some (.slice PA pl pc))(fa8:w.drew.cell? ⟨b1,o1+j*16+8,none⟩=some (.int .u8 K1))(fa9:w.drew.cell? ⟨b1,o1+j*16+9,none⟩=some (.string T1))(fa10:w.drew.cell? ⟨b1,o1+j*16+10,none⟩=some (.int .i64 N1))(fa11:w.drew.cell? ⟨b1,o1+j*16+11,none⟩=some (.int .i64 U1))(fa12:w.drew.cell? ⟨b1,o1+j*16+12,none⟩=some (.int .i64 V1))(fa13:w.drew.cell? ⟨b1,o1+j*16+13,none⟩=some (.int .i64 W1))(fa14:w.drew.cell? ⟨b1,o1+j*16+14,none⟩=some (.slice F1 M1 D1))(fa15:w.drew.cell? ⟨b1,o1+j*16+15,none⟩=some (.slice G1 R1 E1))(HX:∀ W,Bel w.drew W->Calls Tryz.prog 6 #[.agg #[.int .u8 K1,T1,N1,U1,V1,W1,.slice F1 M1 D1,.slice G1 R1 E1],(0:Int)] W (QL (capX 0) 0 g2 W))(Q:Exit->Act->World->Prop)
  (hend:∀ (V:Nat->Value) (w':World),Bel w.drew w'->(∃ z:Int,(V 23)=.int .i64 (y+1+(u:Int)+(pl:Int)+z)/\ZQ (capX 0) 0 g2 z)->wpList Tryz.prog regSd.toArray Q (regSd.drop 24) (finP regSd 24 V a0) w') (hN:a0.tmps.size=118:=by kernel_rfl) (hp0:a0.eval (.tmp 0)=.slice (some ⟨b1,o1,none⟩) m ca:=by kernel_rfl) (hp3:a0.eval (.tmp 3)=.int .i64 y:=by kernel_rfl) (hp4:a0.eval (.tmp 4)=.int .i64 (j:Int):=by kernel_rfl) :
  (Code.region id regSd.toArray true).wp Tryz.prog Q a0 w:=by
 refine qW 24 118 a0 w (fun i v w=>match i with
  | 0=>v=.int .i64 y
  | 1=>v=.int .i64 (y+1)
  | 2=>v=.slice (some ⟨b1,o1,none⟩) m ca
  | 3=>v=.int .i64 (j:Int)
  | 4=>v=.pointer (some ⟨b1,o1+j*16,none⟩)
  | 5=>v=.pointer (some ⟨b1,o1+j*16+1,none⟩)
  | 6=>v=.string t1
  | 7=>v=.int .i64 ((t1.size:Nat):Int)
  | 8=>v=.int .i64 (u:Int)
  | 9=>v=.int .i64 (y+1+(u:Int))
  | 10=>v=.slice (some ⟨b1,o1,none⟩) m ca
  | 11=>v=.int .i64 (j:Int)
  | 12=>v=.pointer (some ⟨b1,o1+j*16,none⟩)
  | 13=>v=.pointer (some ⟨b1,o1+j*16+5,none⟩)
  | 14=>v=.slice PA pl pc
  | 15=>v=.int .i64 (pl:Int)
  | 16=>v=.int .i64 (y+1+(u:Int)+(pl:Int))
  | 17=>v=.slice (some ⟨b1,o1,none⟩) m ca
  | 18=>v=.int .i64 (j:Int)
  | 19=>v=.pointer (some ⟨b1,o1+j*16,none⟩)
  | 20=>v=.pointer (some ⟨b1,o1+j*16+8,none⟩)
  | 21=>v=.agg #[.int .u8 K1,T1,N1,U1,V1,W1,.slice F1 M1 D1,.slice G1 R1 E1]
  | 22=>∃ z:Int,v=.int .i64 z/\ZQ (capX 0) 0 g2 z
  | 23=>∃ z:Int,v=.int .i64 (y+1+(u:Int)+(pl:Int)+z)/\ZQ (capX 0) 0 g2 z
  | _=>True) (by kernel_rfl) (by kernel_rfl) hN (fun _ _ _ _ _ h _=>h) ?_ ?_
 ·intro i' o hi' ho a w1 V hbel hd hpar K hK
  have p0':=dP (hpar 0 (by kernel_rfl)) hp0;have p3':=dP (hpar 3 (by kernel_rfl)) hp3;have p4':=dP (hpar 4 (by kernel_rfl)) hp4;have ga1:=gX hbel h1 fa1;have ga5:=gX hbel h1 fa5;have ga8:=gX hbel h1 fa8;have ga9:=gX hbel h1 fa9;have ga10:=gX hbel h1 fa10;have ga11:=gX hbel h1 fa11;have ga12:=gX hbel h1 fa12;have ga13:=gX hbel h1 fa13;have ga14:=gX hbel h1 fa14;have ga15:=gX hbel h1 fa15;have hw1:IntKind.i64.wrap (y+1)=y+1:=(IntWalk.i64_left _).trans (IntWalk.wrap64_in _ (by omega));have hq8:IntKind.i64.wrap (((t1.size:Nat):Int) / 64)=(u:Int):=by rw[show ((t1.size:Nat):Int) / 64=(u:Int) by omega];exact (IntWalk.i64_left _).trans (IntWalk.wrap64_in _ (by omega))
  have hq8b:IntKind.i64.wrap (Int.tdiv ((t1.size:Nat):Int) 64)=(u:Int):=by rw[Int.tdiv_eq_ediv_of_nonneg (by omega)];exact hq8
  have hw9:IntKind.i64.wrap (y+1+(u:Int))=y+1+(u:Int):=(IntWalk.i64_left _).trans (IntWalk.wrap64_in _ (by omega));have hw16:IntKind.i64.wrap (y+1+(u:Int)+(pl:Int))=y+1+(u:Int)+(pl:Int):=(IntWalk.i64_left _).trans (IntWalk.wrap64_in _ (by omega))
  match i',hi',ho,hd,hK with
  | 0,_,ho,hd,hK=>cases ho;exact oW hK rfl rfl (by simp[execOp,go_sem,p3'])
  | 1,_,ho,hd,hK=>cases ho;exact oW hK rfl rfl (by simp[execOp,go_sem,dE (hd 0 14 rfl),hw1])
  | 2,_,ho,hd,hK=>cases ho;exact oW hK rfl rfl (by simp[execOp,go_sem,p0'])
  | 3,_,ho,hd,hK=>cases ho;exact oW hK rfl rfl (by simp[execOp,go_sem,p4'])
  | 4,_,ho,hd,hK=>cases ho;exact oW hK rfl rfl (by simp[execOp,go_sem,dE (hd 2 16 rfl),dE (hd 3 17 rfl),i1,i2])
  | 5,_,ho,hd,hK=>cases ho;exact oW hK rfl rfl (by simp[execOp,go_sem,dE (hd 4 18 rfl)])
  | 6,_,ho,hd,hK=>cases ho;exact oW hK rfl rfl (by simp[execOp,go_sem,dE (hd 5 19 rfl),ga1])
  | 7,_,ho,hd,hK=>cases ho;exact oW hK rfl rfl (by simp[go_sem,dE (hd 6 20 rfl)])
  | 8,_,ho,hd,hK=>cases ho;exact oW hK rfl rfl (by simp[execOp,go_sem,dE (hd 7 21 rfl),hq8])
  | 9,_,ho,hd,hK=>cases ho;exact oW hK rfl rfl (by simp[execOp,go_sem,dE (hd 1 15 rfl),dE (hd 8 22 rfl),hw9])
  | 10,_,ho,hd,hK=>cases ho;exact oW hK rfl rfl (by simp[execOp,go_sem,p0'])
  | 11,_,ho,hd,hK=>cases ho;exact oW hK rfl rfl (by simp[execOp,go_sem,p4'])
  | 12,_,ho,hd,hK=>cases ho;exact oW hK rfl rfl (by simp[execOp,go_sem,dE (hd 10 24 rfl),dE (hd 11 25 rfl),i1,i2])
  | 13,_,ho,hd,hK=>cases ho;exact oW hK rfl rfl (by simp[execOp,go_sem,dE (hd 12 26 rfl)])
  | 14,_,ho,hd,hK=>cases ho;exact oW hK rfl rfl (by simp[execOp,go_sem,dE (hd 13 27 rfl),ga5])
  | 15,_,ho,hd,hK=>cases ho;exact oW hK rfl rfl (by simp[go_sem,dE (hd 14 28 rfl)])
  | 16,_,ho,hd,hK=>cases ho;exact oW hK rfl rfl (by simp[execOp,go_sem,dE (hd 9 23 rfl),dE (hd 15 29 rfl),hw16])
  | 17,_,ho,hd,hK=>cases ho;exact oW hK rfl rfl (by simp[execOp,go_sem,p0'])
  | 18,_,ho,hd,hK=>cases ho;exact oW hK rfl rfl (by simp[execOp,go_sem,p4'])
  | 19,_,ho,hd,hK=>cases ho;exact oW hK rfl rfl (by simp[execOp,go_sem,dE (hd 17 31 rfl),dE (hd 18 32 rfl),i1,i2])
  | 20,_,ho,hd,hK=>cases ho;exact oW hK rfl rfl (by simp[execOp,go_sem,dE (hd 19 33 rfl)])
  | 21,_,ho,hd,hK=>cases ho;exact oW hK rfl rfl (by simp[execOp,go_sem,dE (hd 20 34 rfl),ga8,ga9,ga10,ga11,ga12,ga13,ga14,ga15])
  | 22,_,ho,hd,hK=>cases ho;refine oN rfl ?_;refine zh (f:=6) (args:=#[.agg #[.int .u8 K1,T1,N1,U1,V1,W1,.slice F1 M1 D1,.slice G1 R1 E1],(0:Int)]) (by simp[go_sem,dE (hd 21 35 rfl)]) ((HX w1 hbel).mono ?_);rintro e w' ⟨z,rfl,q1,q2,q3,hb⟩;exact⟨_,rfl,hK _ _ hb ⟨z,rfl,q1,q2,q3⟩⟩
  | 23,_,ho,hd,hK=>cases ho;obtain⟨⟨z22,hv22,hq22⟩,d22⟩:=hd 22 36 rfl;have e22':=d22.trans hv22;refine oN rfl ?_;have hw23:IntKind.i64.wrap (y+1+(u:Int)+(pl:Int)+z22)=y+1+(u:Int)+(pl:Int)+z22:=(IntWalk.i64_left _).trans (IntWalk.wrap64_in _ (by have:=hq22.1;have a:=hq22.2.1;unfold capX at a;omega));exact qX (v:= .int .i64 (y+1+(u:Int)+(pl:Int)+z22)) (w':=w1) (by simp[execOp,go_sem,dE (hd 16 30 rfl),e22',hw23]) (hK _ _ (Bel.refl _) ⟨z22,rfl,hq22⟩)
  | q+24,hi,_,_,_=>exact absurd hi (by omega)
 ·intro V w' hb hF
  exact hend V w' hb (hF 23 (by omega))
structure Mv (Z:Nat->Prop) (W W':World):Prop where
 os:W'.os=W.os
 tape:W'.tape=W.tape
 output:W'.output=W.output
 size:W.heap.size<=W'.heap.size
 block:∀ k,k<W.heap.size->¬ Z k->W'.heap[k]?=W.heap[k]?
section
variable {Z Z' : Nat -> Prop} {A B C : World}
theorem Mv.refl(Z:Nat->Prop)(W:World):Mv Z W W:=⟨rfl,rfl,rfl,lR _,fun _ _ _=>rfl⟩
theorem Mv.trans(h:Mv Z A B)(k:Mv Z' B C)(hz:∀ j,Z' j->Z j∨A.heap.size<=j):Mv Z A C:=
 ⟨k.os.trans h.os,k.tape.trans h.tape,k.output.trans h.output,lL h.size k.size,fun j hj hn=>
  (k.block j (lT hj h.size) (fun hz'=>by rcases hz j hz' with e | e;exact hn e;omega)).trans (h.block j hj hn)⟩
theorem Mv.bel(h:Mv (fun _=>False) A B):Bel A B:=⟨h.os,h.tape,h.output,h.size,fun k hk=>h.block k hk (fun f=>f)⟩
theorem Mv.of_bel(h:Bel A B):Mv Z A B:=⟨h.os,h.tape,h.output,h.size,fun k hk _=>h.block k hk⟩
theorem Mv.alloc(h:Mv Z A B)(o:Obj):Mv Z A (B.alloc o):=h.trans (Z':=fun _=>False) (.of_bel ((Bel.refl B).alloc o)) (fun _ f=>f.elim)
theorem Mv.set_(h:Mv Z A B){p:Addr}(hp:Z p.block∨A.heap.size<=p.block)(v:Value):Mv Z A (B.setCell p v):=
 ⟨h.os,h.tape,h.output,by have:=h.size;simpa [World.setCell] using this,fun k hk hn=>(Below.heap_setCell B p v k (by
  rintro rfl;rcases hp with hp | hp
  ·exact hn hp
  ·omega)).trans (h.block k hk hn)⟩
theorem Mv.putObj(h:Mv Z A B){l:Nat}(hp:Z l∨A.heap.size<=l)(o:Obj):Mv Z A (B.putObj l o):=
 ⟨h.os,h.tape,h.output,by have:=h.size;simpa using this,fun k hk hn=>(World.putObj_heap_other (by
  rintro rfl;rcases hp with hp | hp
  ·exact hn hp
  ·omega)).trans (h.block k hk hn)⟩
theorem Mv.grown(h:Mv Z A B){row:Option Nat}(hg:B.grownBy C row)(hr:∀ k,row=some k->Z k∨A.heap.size<=k):Mv Z A C:=
 ⟨hg.os.trans h.os,hg.tape.trans h.tape,hg.output.trans h.output,lL h.size hg.size,fun k hk hn=>
  (hg.block k (lT hk h.size) (fun e=>by
   rcases hr k e.symm with e | e
   ·exact hn e
   ·omega)).trans (h.block k hk hn)⟩
end
def qaa{α:Type}(J:α->(Nat->Prop)->World->Prop):Prop:=∀ s Y W W',J s Y W->W.heap.size<=W'.heap.size->(∀ k,Y k->W'.heap[k]?=W.heap[k]?)->J s Y W'
def SeqL{α:Type}(P:Program)(g:Nat)(lb:Array Value)(encs:α->Array Value)(Ok:(Nat->Prop)->World->Prop)(Pre:List α->α->(Nat->Prop)->World->Prop)(Fin:List α->Prop):Prop:=
 ∀ (l:Nat) (J Jx:List α->(Nat->Prop)->World->Prop) (Y:Nat->Prop) (W:World),Ok Y W->(∀ k,Y k->k<W.heap.size)->qaa J->qaa Jx →
  (∀ pre x Y1 W1,Pre pre x Y1 W1->Mv Y W W1->J pre Y1 W1->(∀ k,Y1 k->k<W1.heap.size)->YieldAt Fence.wide 5 P l (encs x) W1 fun e W'=>
   Mv Y1 W1 W'/\∃ Y',(∀ k,Y' k->k<W'.heap.size/\(Y1 k∨W1.heap.size<=k))/\((e=.returned (.bool true)/\J (pre++[x]) Y' W')∨(e=.returned (.bool false)/\Jx (pre++[x]) Y' W'))) →
  J [] Y W →
  Calls P g (#[.func (.yield l) #[] #[]]++lb) W fun e W'=>(∃ v,e=.returned v)/\Mv Y W W'/\∃ xs Y',(∀ k,Y' k->k<W'.heap.size/\(Y k∨W.heap.size<=k))/\((Fin xs/\J xs Y' W')∨Jx xs Y' W')
section
variable {P : Program}
def qeu(R Rx:World->Prop):Exit->Act->World->Prop
 | .normal,_,W'=>R W'
 | .ret,_,W'=>Rx W'
 | _,_,_=>False
def mkM(D:Nat):Deferred:={ target:= .collected D,args:=#[] }
theorem jd{α:Type}{g:Operand}{ps:Array Tmp}{assign body:Code}{Q:Exit->Act->World->Prop}{a:Act}{w:World}
  {gf:Nat} {lb:Array Value} (hg:a.eval g=.func (.func gf) #[] lb) (eg:∀ args w,(callFunc gf args).run P w=.ok (.enter gf args) w)
  {encs:α->Array Value} {Ok:(Nat->Prop)->World->Prop} {Pre:List α->α->(Nat->Prop)->World->Prop} {Fin:List α->Prop} (hseq:SeqL P gf lb encs Ok Pre Fin) (hps:∀ x,(encs x).size=ps.size)
  (hPre:∀ pre x Y W W',Pre pre x Y W->W.heap.size<=W'.heap.size->(∀ j,j<W.heap.size->¬ Y j->W'.heap[j]?=W.heap[j]?)->Pre pre x Y W')
  (I Ix:List α->(Nat->Prop)->World->Prop) (hI:qaa I) (hIx:qaa Ix) {Y0:Nat->Prop} (hok:∀ Y W,Bel w W->(∀ k,Y k->Y0 k∨w.heap.size<=k)->Ok Y W) (hY0:∀ k,Y0 k->k<w.heap.size) (h0:I [] Y0 w) (a₁:α->Nat->Act) (ob:α->Obj)
  (hassign:∀ (l:Nat) (x:α) (W:World) (K:Act->World->Prop),K (a₁ x W.heap.size) (W.alloc (ob x))->assign.wpIn (Fence.wide.inRound l) 5 P (Exit.then K (fun _ _ _=>False)) { tmps:=(ps.zip (encs x)).foldl (fun t (p,v)=>t.setIfInBounds p v) a.tmps,defers:=[] } W)
  (hbody:∀ (l bx:Nat) (pre:List α) (x:α) (Y:Nat->Prop) (W:World),w.heap.size<=bx->bx<W.heap.size->W.heap[bx]?=some (ob x)->¬ Y bx->(∃ Y',(∀ k,Y k->Y' k)/\Pre pre x Y' W)->Mv Y0 w W->¬ Y l->I pre Y W->(∀ k,Y k->k<W.heap.size) →
   body.wpIn (Fence.wide.inRound l) 5 P (qeu (fun W'=>Mv Y W W'/\∃ Y',I (pre++[x]) Y' W'/\∀ k,Y' k->k<W'.heap.size/\(Y k∨W.heap.size<=k)) (fun W'=>Mv Y W W'/\∃ Y',Ix (pre++[x]) Y' W'/\∀ k,Y' k->k<W'.heap.size/\(Y k∨W.heap.size<=k))) (a₁ x bx) W)
  (hdone:∀ (D:Nat) (xs:List α) (Y:Nat->Prop) (W:World),w.heap.size<=D->Fin xs->I xs Y W->Mv Y0 w W->(∀ k,Y k->k<W.heap.size/\(Y0 k∨w.heap.size<=k))->W.heap[D]?=some (.deferred (some []))->¬ Y D->Q .normal { a with defers:=mkM D::a.defers } W)
  (hstop:∀ (D:Nat) (xs:List α) (Y:Nat->Prop) (W:World),w.heap.size<=D->Ix xs Y W->Mv Y0 w W->(∀ k,Y k->k<W.heap.size/\(Y0 k∨w.heap.size<=k))->W.heap[D]?=some (.deferred (some []))->¬ Y D->Q .ret { a with defers:=mkM D::a.defers } W) :
  (Code.rangeFunc g ps assign body).wpIn Fence.wide 6 P Q a w:=by
 refine wpIn_rangeFunc ?_;intro fn hfn;obtain⟨l,hl⟩:=nW (w.heap.size+1);obtain⟨D,hD⟩:=nW w.heap.size;obtain⟨rec,hrec⟩:∃ rec:LoopState->Option Code->Loop,rec=fun st pe=>{ state:=st,pending:=pe,fn,tmps:=a.tmps,params:=ps,assign,body,defers:=w.heap.size }:=⟨_,rfl⟩
 obtain⟨V,hV⟩:∃ V,(w.alloc (.deferred (some []))).alloc (.loop (rec .ready none))=V:=⟨_,rfl⟩
 have hL':V.heap[l]?=some (.loop (rec .ready none)):=by
  rw[<- hV,hl];have:=World.alloc_heap_new (w.alloc (.deferred (some []))) (.loop (rec .ready none));rwa [World.size_alloc]at this
 have hD':V.heap[D]?=some (.deferred (some [])):=by
  rw[<- hV,hD];exact (Below.heap_alloc _ _ _ (by simp)).trans (World.alloc_heap_new w _)
 have hb:Bel w V:=by rw[<- hV];exact ((Bel.refl w).alloc _).alloc _
 have hDl:D≠l:=by omega
 obtain⟨J,hJ⟩:=nW (fun pre Y W=>∃ Z:Nat->Prop,(∀ k,Y k↔(Z k∨k=l∨k=D))/\(∀ k,Z k->k≠l/\k≠D)/\I pre Z W/\W.heap[l]?=some (.loop (rec .ready none))/\W.heap[D]?=some (.deferred (some [])):List α->(Nat->Prop)->World->Prop);obtain⟨Jx,hJx⟩:=nW (fun pre Y W=>∃ Z:Nat->Prop,(∀ k,Y k↔(Z k∨k=l∨k=D))/\(∀ k,Z k->k≠l/\k≠D)/\Ix pre Z W/\W.heap[l]?=some (.loop (rec .done (some .ret)))/\W.heap[D]?=some (.deferred (some [])):List α->(Nat->Prop)->World->Prop);refine⟨l,[mkM D],V,{ target:= .fn (.func gf) lb,args:=#[.func (.yield l) #[] #[]] },V,gf,#[.func (.yield l) #[] #[]]++lb,V,?_,?_,?_,?_,(fun h=>by cases h),?_⟩
 ·rw[<- hV,hrec,hl,hD];exact run_enterLoop_outer _ _ _ _ _
 ·simp only[resolve,hg]
  simp[go_sem]
 ·intro f' hf';exact trivial
 ·simp[invoke,go_sem,eg]
 ·have hlV:l<V.heap.size:=(aJ.1 hL').1
  have hDV:D<V.heap.size:=(aJ.1 hD').1;refine callsIn_wide.2 ((hseq l J Jx (fun k=>Y0 k∨k=l∨k=D) V (hok _ _ hb ?_) ?_ ?_ ?_ ?_ ?_).mono ?_)
  ·rintro k (h | h | h)
   ·exact .inl h
   ·exact .inr (by omega)
   ·exact .inr (by omega)
  ·rintro k (h | rfl | rfl)
   ·exact lT (hY0 k h) hb.size
   ·exact hlV
   ·exact hDV
  ·rw[hJ]
   rintro s Y A B ⟨Z,z1,z2,z3,z4,z5⟩ hsz hk;exact⟨Z,z1,z2,hI s Z A B z3 hsz (fun k hz=>hk k ((z1 k).2 (.inl hz))),(hk l ((z1 l).2 (.inr (.inl rfl)))).trans z4,(hk D ((z1 D).2 (.inr (.inr rfl)))).trans z5⟩
  ·rw[hJx]
   rintro s Y A B ⟨Z,z1,z2,z3,z4,z5⟩ hsz hk;exact⟨Z,z1,z2,hIx s Z A B z3 hsz (fun k hz=>hk k ((z1 k).2 (.inl hz))),(hk l ((z1 l).2 (.inr (.inl rfl)))).trans z4,(hk D ((z1 D).2 (.inr (.inr rfl)))).trans z5⟩
  · --one round
   rw[hJ,hJx];rintro pre x Y W hp hmv0 ⟨Z,z1,z2,z3,z4,z5⟩ hYs;have hlt:l<W.heap.size:=(aJ.1 z4).1;have hDt:D<W.heap.size:=(aJ.1 z5).1;have hy:=run_yield (P:=P) (args:=encs x) z4 (by rw[hrec];exact hps x);rw[hrec]at hy;refine⟨fn,_,assign,body,hy,roundIn_of_wpIn hfn (hassign _ x W _ ?_)⟩;clear hy;obtain⟨Wo,hWo⟩:=nW W;rw[<- hWo]at hp hmv0 z3 z4 z5 hYs hlt hDt ⊢;clear hWo;clear W;obtain⟨W,hW⟩:=nW (Wo.alloc (ob x));rw[<- hW];have bo:Bel Wo W:=by rw[hW];exact (Bel.refl Wo).alloc _
   have so:W.heap.size=Wo.heap.size+1:=by rw[hW];simp
   have z3':I pre Z W:=hI _ _ _ _ z3 bo.size (fun k hz=>bo.block k (hYs k ((z1 k).2 (.inl hz))));have z4':=(bo.block l hlt).trans z4;have z5':=(bo.block D hDt).trans z5;have zb:W.heap[Wo.heap.size]?=some (ob x):=by rw[hW];exact World.alloc_heap_new Wo _
   have hYb:∀ k,Y k->k<Wo.heap.size:=hYs;have hp':Pre pre x Y W:=hPre _ _ _ _ _ hp bo.size (fun j hj _=>bo.block j hj);obtain⟨bx,hbx⟩:=nW Wo.heap.size;rw[<- hbx]at hYb so zb ⊢;have hYs':∀ k,Y k->k<W.heap.size:=fun k hk=>by have:=hYb k hk;omega
   clear hp z3 z4 z5 hYs hlt hDt;have hlt:l<W.heap.size:=(aJ.1 z4').1;have hDt:D<W.heap.size:=(aJ.1 z5').1;refine⟨_,run_beginRound z4' (by rw[hrec]),?_⟩;obtain⟨W2,hW2⟩:∃ W2,W2=W.putObj l (.loop { rec .ready none with state:= .busy }):=⟨_,rfl⟩
   rw[<- hW2];have l2:W2.heap[l]?=some (.loop { rec .ready none with state:= .busy }):=by rw[hW2];exact World.putObj_heap_same hlt
   have s2:W2.heap.size=W.heap.size:=by rw[hW2];simp
   have o2:∀ k,k≠l->W2.heap[k]?=W.heap[k]?:=fun k hk=>by rw[hW2];exact World.putObj_heap_other hk
   have hm2:Mv Y0 w W2:=by
    have m1:Mv Y0 w V:= .of_bel hb;have m2:Mv Y0 w Wo:=m1.trans hmv0 (fun k hk=>by
     rcases hk with h | h | h
     ·exact .inl h
     ·exact .inr (by omega)
     ·exact .inr (by omega))
    have m3:Mv Y0 w W:=m2.trans (Mv.of_bel (Z:=fun _=>False) bo) (fun _ h=>h.elim);rw[hW2];exact m3.putObj (.inr (by omega)) _
   refine wpIn_mono (hbody l bx pre x Z W2 (by have:=hYb l ((z1 l).2 (.inr (.inl rfl)));omega) (by rw[s2];omega) ((o2 bx (by have:=hYb l ((z1 l).2 (.inr (.inl rfl)));omega)).trans zb) (fun hz=>by have:=hYb bx ((z1 bx).2 (.inl hz));omega) ⟨Y,fun k hk=>(z1 k).2 (.inl hk),hPre _ _ _ _ _ hp' (by omega) (fun j hj hn=>o2 j (fun e=>hn ((z1 j).2 (.inr (.inl e)))))⟩ hm2 (fun hz=>(z2 l hz).1 rfl) (hI _ _ _ _ z3' (by omega) (fun k hz=>o2 k (z2 k hz).1)) (fun k hz=>by rw[s2];exact hYs' k ((z1 k).2 (.inl hz)))) ?_;have fin:∀ (jump:Option Code) (st:LoopState) (W3:World) (Y':Nat->Prop),st=(if jump.isNone then .ready else .done)->Mv Z W2 W3->(∀ k,Y' k->k<W3.heap.size/\(Z k∨W2.heap.size<=k))->∃ W4,(Instr.endRound l jump).run P W3=.ok (.bool jump.isNone) W4/\Mv Y Wo W4/\W3.heap.size<=W4.heap.size/\(∀ k,k≠l->W4.heap[k]?=W3.heap[k]?)/\W4.heap[l]?=some (.loop (rec st jump))/\W4.heap[D]?=some (.deferred (some []))/\(∀ k,Y' k->k≠l/\k≠D)/\∀ k,(Y' k∨k=l∨k=D)->k<W4.heap.size/\(Y k∨bx<=k):=by
    intro jump st W3 Y' hst hmv hy3;have l3:W3.heap[l]?=some (.loop { rec .ready none with state:= .busy }):=(hmv.block l (by omega) (fun hz=>(z2 l hz).1 rfl)).trans l2;have d3:W3.heap[D]?=some (.deferred (some [])):=(hmv.block D (by omega) (fun hz=>(z2 D hz).2 rfl)).trans ((o2 D hDl).trans z5');have hr:=run_endRound (P:=P) jump l3;rw[hrec]at hr;have hl3:l<W3.heap.size:=(aJ.1 l3).1;have hd3:D<W3.heap.size:=(aJ.1 d3).1;have hnl:∀ k,Y' k->k≠l/\k≠D:=fun k hk=>by
     rcases (hy3 k hk).2 with h | h
     ·exact z2 k h
     ·exact⟨by omega,by omega⟩
    refine⟨W3.putObj l (.loop (rec st jump)),by rw[hrec,hst];exact hr,?_,by simp,fun k hk=>World.putObj_heap_other hk,World.putObj_heap_same hl3,(World.putObj_heap_other hDl).trans d3,hnl,?_⟩
    ·have m1:Mv Y Wo W2:=by rw[hW2];exact (Mv.of_bel (Z:=Y) bo).putObj (.inl ((z1 l).2 (.inr (.inl rfl)))) _
     have m2:Mv Y Wo W3:=m1.trans hmv (fun k hz=> .inl ((z1 k).2 (.inl hz)));exact m2.putObj (.inl ((z1 l).2 (.inr (.inl rfl)))) _
    ·rintro k (h | rfl | rfl)
     ·obtain⟨q1,q2⟩:=hy3 k h
      exact⟨by simpa using q1,q2.imp (fun hz=>(z1 k).2 (.inl hz)) (fun hz=>by omega)⟩
     ·exact⟨by simpa using hl3,.inl ((z1 _).2 (.inr (.inl rfl)))⟩
     ·exact⟨by simpa using hd3,.inl ((z1 _).2 (.inr (.inr rfl)))⟩
   rintro e a3 W3 hp3;cases e with
   | normal=>
    obtain⟨hmv,Y',hi3,hy3⟩:=hp3;obtain⟨W4,q1,q2,q3,q4,q5,q6,q7,q8⟩:=fin none .ready W3 Y' rfl hmv hy3;exact⟨.bool true,W4,q1,q2,fun k=>Y' k∨k=l∨k=D,q8,.inl ⟨rfl,Y',fun k=>Iff.rfl,q7,hI _ _ _ _ hi3 q3 (fun k hk=>q4 k (q7 k hk).1),q5,q6⟩⟩
   | ret=>
    obtain⟨hmv,Y',hi3,hy3⟩:=hp3;obtain⟨W4,q1,q2,q3,q4,q5,q6,q7,q8⟩:=fin (some .ret) .done W3 Y' rfl hmv hy3;exact⟨.bool false,W4,q1,q2,fun k=>Y' k∨k=l∨k=D,q8,.inr ⟨rfl,Y',fun k=>Iff.rfl,q7,hIx _ _ _ _ hi3 q3 (fun k hk=>q4 k (q7 k hk).1),q5,q6⟩⟩
   | exit id=>exact hp3.elim
   | goto t=>exact hp3.elim
   | panic ch=>exact hp3.elim
   | outgrown=>exact hp3.elim
  ·rw[hJ]
   exact⟨Y0,fun k=>Iff.rfl,fun k hk=>⟨fun e=>by have:=hY0 k hk;omega,fun e=>by have:=hY0 k hk;omega⟩,hI _ _ _ _ h0 hb.size (fun k hk=>hb.block k (hY0 k hk)),hL',hD'⟩
  · --behind the iterator
   rw[hJ,hJx];have m0:∀ W2 o,Mv (fun k=>Y0 k∨k=l∨k=D) V W2->Mv Y0 w (W2.putObj l o):=fun W2 o hmv=>by
    refine Mv.putObj ?_ (.inr (by omega)) _;have m1:Mv Y0 w V:= .of_bel hb;refine m1.trans hmv (fun k hk=>?_);rcases hk with h | h | h
    ·exact .inl h
    ·exact .inr (by omega)
    ·exact .inr (by omega)
   have y0:∀ (W2:World) o (Y' Z:Nat->Prop),(∀ k,Y' k->k<W2.heap.size/\((Y0 k∨k=l∨k=D)∨V.heap.size<=k))->(∀ k,Y' k↔(Z k∨k=l∨k=D))->(∀ k,Z k->k≠l/\k≠D)->∀ k,Z k->k<(W2.putObj l o).heap.size/\(Y0 k∨w.heap.size<=k):=fun W2 o Y' Z hY' z1 z2 k hz=>by
    obtain⟨q1,q2⟩:=hY' k ((z1 k).2 (.inl hz));refine⟨by simpa using q1,?_⟩;rcases q2 with (h | h | h) | h
    ·exact .inl h
    ·exact absurd h (z2 k hz).1
    ·exact absurd h (z2 k hz).2
    ·exact .inr (lL hb.size h)
   rintro e W2 ⟨⟨v,rfl⟩,hmv,xs,Y',hY',⟨hs,Z,z1,z2,z3,z4,z5⟩ | ⟨Z,z1,z2,z3,z4,z5⟩⟩
   ·have hr:=run_endLoop (P:=P) z4 (by rw[hrec];simp)
    rw[hrec]at hr;exact⟨none,_,hr,hdone D xs Z _ (by omega) hs (hI _ _ _ _ z3 (by simp) (fun k hz=>World.putObj_heap_other (z2 k hz).1)) (m0 _ _ hmv) (y0 _ _ _ _ hY' z1 z2) ((World.putObj_heap_other hDl).trans z5) (fun hz=>(z2 D hz).2 rfl)⟩
   ·have hr:=run_endLoop (P:=P) z4 (by rw[hrec];simp)
    rw[hrec]at hr;refine⟨some .ret,_,hr,?_⟩;exact wpIn_ret (hstop D xs Z _ (by omega) (hIx _ _ _ _ z3 (by simp) (fun k hz=>World.putObj_heap_other (z2 k hz).1)) (m0 _ _ hmv) (y0 _ _ _ _ hY' z1 z2) ((World.putObj_heap_other hDl).trans z5) (fun hz=>(z2 D hz).2 rfl))
end
theorem qQ{F:Fence}{n:Nat}{P:Program}{fn:Func}{tmps:Array Value}{R:Ending->World->Prop}{D:Nat}{w:World}(hD:w.heap[D]?=some (.deferred (some [])))
  (h:∀ w',Mv (fun k=>k=D) w w'->LeavesInM F n P fn tmps R [] .returning w'):LeavesInM F n P fn tmps R [mkM D] .returning w:=
 ⟨by simp,.inl ⟨D,_,rfl,run_takeDeferred hD,h _ (Mv.putObj (Z:=fun k=>k=D) (Mv.refl _ w) (.inl rfl) _)⟩⟩
structure Nd where
 v:Vis
 p:Pl
 A:OA
 ca:Nat
 B:OA
 cb:Nat
def Nd.at_(w:World)(Ok:Nat->Prop)(sh:Sh)(x:Nd):Prop:=
 KidsTr w Ok sh x.A x.v.kids.len x.ca x.v.kids/\((sh=.ex/\KidsTr w Ok .arms x.B x.v.arms.len x.cb x.v.arms)∨((sh=.pat∨sh=.ty)/\x.v.arms.len=0))
theorem Nd.at_.keep{w w':World}{Ok Ok':Nat->Prop}{sh:Sh}{x:Nd}(h:x.at_ w Ok sh)(hk:∀ j,Ok j->w'.heap[j]?=w.heap[j]?)(hw:∀ j,Ok j->Ok' j):x.at_ w' Ok' sh:=by
 refine⟨(h.1.keep hk).wide hw,?_⟩;rcases h.2 with ⟨e,h2⟩ | h2
 ·exact .inl ⟨e,(h2.keep hk).wide hw⟩
 ·exact .inr h2
structure It where
 A:OA
 c:Nat
 f:Tr
def It.val(x:It):Value:= .slice x.A x.f.len x.c
def itV(S:List It):List Value:=(S.map It.val).reverse
theorem Z8(x:It)(S:List It):itV (x::S)=itV S++[x.val]:=by simp[itV]
theorem QE(S:List It):(itV S).length=S.length:=by simp[itV]
def OkI(w:World)(Y:Nat->Prop)(A:OA)(j:Nat):Prop:=j<w.heap.size/\¬ Y j/\∀ o,A≠some ⟨j,o,none⟩
def WsI(w:World)(Y:Nat->Prop)(A:OA)(sh:Sh)(S:List It):Prop:=∀ x∈S,KidsTr w (OkI w Y A) sh x.A x.f.len x.c x.f
theorem OkI.step{w w':World}{Y Y':Nat->Prop}{A A':OA}(hs:w.heap.size<=w'.heap.size)(hy:∀ j,Y' j->Y j∨w.heap.size<=j)(ha:∀ j o,A'=some ⟨j,o,none⟩->(∃ o',A=some ⟨j,o',none⟩)∨w.heap.size<=j){j:Nat}(h:OkI w Y A j):OkI w' Y' A' j:=by
 obtain⟨h1,h2,h3⟩:=h;refine⟨lT h1 hs,fun hj=>?_,fun o ho=>?_⟩
 ·rcases hy j hj with h | h
  ·exact h2 h
  ·omega
 ·rcases ha j o ho with ⟨o',h⟩ | h
  ·exact h3 o' h
  ·omega
theorem KidsTr.stepI{w w':World}{Y Y':Nat->Prop}{A A':OA}{sh:Sh}{B:OA}{l c:Nat}{f:Tr}(h:KidsTr w (OkI w Y A) sh B l c f)(hs:w.heap.size<=w'.heap.size)(hk:∀ j,OkI w Y A j->w'.heap[j]?=w.heap[j]?)(hy:∀ j,Y' j->Y j∨w.heap.size<=j)(ha:∀ j o,A'=some ⟨j,o,none⟩->(∃ o',A=some ⟨j,o',none⟩)∨w.heap.size<=j):KidsTr w' (OkI w' Y' A') sh B l c f:=
 (h.keep hk).wide fun j hj=>OkI.step hs hy ha hj
def msS:List It->Nat
 | []=>0
 | x::S=>2*x.f.size+1+msS S
def todo:List It->List Vis
 | []=>[]
 | x::S=>x.f.pre S.length++todo S
structure WSt (T0 TR TK:TypeId) (fk:Nat) (sh:Sh) (f0:Tr) (J:List Nd->(Nat->Prop)->World->Prop) (lb kb base:Nat) (lv:Value) (Y0:Nat->Prop) (W0:World) (A:OA) (cc m:Nat) (S:List It) (pre:List Nd) (Y:Nat->Prop) (w:World):Prop where
 len:m=S.length
 row:w.ownsRow base T0 1 (.slice A m cc) m (itV S)
 ny:∀ j o,A=some ⟨j,o,none⟩->¬ Y j
 bl:w.heap[lb]?=some (.cells #[lv] TR (0,0))
 bk:w.heap[kb]?=some (.cells #[.func (.func fk) #[] #[]] TK (0,0))
 lt:lb<base/\kb<base
 nl:¬ Y lb/\¬ Y kb
 its:WsI w Y A sh S
 j:J pre Y w
 yl:∀ k,Y k->k<w.heap.size/\(Y0 k∨W0.heap.size<=k)
 mv:Mv Y0 W0 w
 bs:base<=w.heap.size
 what:f0.pre 0=pre.map Nd.v++todo S
theorem QQ{w:World}{g:Nat}{t:TypeId}{x:Value}(h:w.heap[g]?=some (.cells #[x] t (0,0))):w.cell? ⟨g,0,none⟩=some x:=by simp[World.cell?,h]
theorem qcg{w:World}{base:Nat}{T0:TypeId}{A:OA}{cc m:Nat}{x:It}{S:List It}(hm:m=S.length)(h:w.ownsRow base T0 1 (.slice A (m+1) cc) (m+1) (itV (x::S))) :
  ∃ g,A=some ⟨g,0,none⟩/\base<=g/\g<w.heap.size/\m+1<=cc/\cc<=maxLen/\w.cell? ⟨g,m,none⟩=some x.val/\w.frozen? ⟨g,m,none⟩=false/\w.ownsRow base T0 1 (.slice (some ⟨g,0,none⟩) m cc) m (itV S):=by
 have h':=h;obtain⟨hl,hr⟩:=h;rcases hr with ⟨_,h0⟩ | ⟨g,cap,cur,hv,hb,hh,hnc,hmx,hcs,ht⟩
 ·omega
 ·cases hv
  refine⟨g,rfl,hb,(aJ.1 hh).1,hnc,hmx,?_,h'.frozenAt m,⟨by rw[QE,hm,Nat.mul_one],.inr ⟨g,cc,cur,rfl,hb,hh,by omega,hmx,hcs,?_⟩⟩⟩
  ·have h5:=h'.cells (g:=g) rfl m x.val (by rw[Z8,List.getElem?_append_right (by rw[QE,hm];exact lR _),QE,hm,Nat.sub_self];rfl)
   rwa [Addr.add_lit,Nat.zero_add]at h5
  ·have h4:=congrArg (List.take m) ht
   rw[List.take_take,Z8,List.take_append_of_le_length (by rw[QE,hm];exact lR _),List.take_of_length_le (l:=itV S) (by rw[QE,hm];exact lR _)]at h4;rw[<- h4];congr 1;omega
theorem qfY{w w':World}{base e size n:Nat}{u:Value}{xs:List Value}(h:w.ownsRow base e size u n xs)(hk:∀ x,u.ownBlock=some x->w'.heap[x]?=w.heap[x]?):w'.ownsRow base e size u n xs:=by
 obtain⟨hl,hr⟩:=h;refine⟨hl,?_⟩;rcases hr with h0 | ⟨g,cap,cur,hv,hb,hh,rest⟩
 ·exact .inl h0
 ·exact .inr ⟨g,cap,cur,hv,hb,(hk g (by rw[hv];rfl)).trans hh,rest⟩
theorem qiZ{w:World}{base:Nat}{T0:TypeId}{g cc m:Nat}{x y:It}{S:List It}(hm:m=S.length)(h:w.ownsRow base T0 1 (.slice (some ⟨g,0,none⟩) (m+1) cc) (m+1) (itV (x::S))) :
  (w.setCell ⟨g,m,none⟩ y.val).ownsRow base T0 1 (.slice (some ⟨g,0,none⟩) (m+1) cc) (m+1) (itV (y::S)):=by
 have h2:=(World.ownsRow.stored h m y.val).1;rw[Z8]at h2 ⊢;rw[List.set_append_right _ _ (by rw[QE,hm];exact lR _),QE,hm,Nat.sub_self]at h2;rw[hm];exact h2
section
variable {T0 TR TK : TypeId} {fk : Nat} {sh : Sh} {f0 : Tr} {J : List Nd -> (Nat -> Prop) -> World -> Prop} {lb kb base : Nat} {lv : Value} {Y0 : Nat -> Prop} {W0 : World} {cc mm g : Nat} {S : List It} {pre : List Nd} {Y : Nat -> Prop} {wr : World}
variable {it : It} {k : Int} {s : LU} {n : Int} {p : Pl} {kids arms rest : Tr} {RA : OA} {RC : Nat} {x : Nd} {W2 : World} {ob : Obj}
theorem WSt.sel(h:WSt T0 TR TK fk sh f0 J lb kb base lv Y0 W0 (some ⟨g,0,none⟩) cc (mm+1) (it::S) pre Y wr)(hW2:W2=(wr.setCell ⟨g,mm,none⟩ (.slice RA rest.len RC)).alloc ob) :
  W2.heap.size=wr.heap.size+1/\(∀ j,j<wr.heap.size->j≠g->W2.heap[j]?=wr.heap[j]?)/\W2.heap[wr.heap.size]?=some ob/\Mv (fun j=>j=g) wr W2:=by
 have e:(wr.setCell ⟨g,mm,none⟩ (.slice RA rest.len RC)).heap.size=wr.heap.size:=by simp
 refine⟨by rw[hW2];simp,fun j hj hn=>?_,?_,?_⟩
 ·rw[hW2]
  refine (((Bel.refl _).alloc ob).block j (by rw[e];exact hj)).trans (Below.heap_setCell wr _ _ j hn)
 ·rw[hW2,<- e];exact blk1 _ ob
 ·rw[hW2];exact (Mv.set_ (Z:=fun j=>j=g) (p:=⟨g,mm,none⟩) (Mv.refl _ wr) (.inl rfl) _).alloc ob
theorem WSt.hand(hJ:qaa J)(h:WSt T0 TR TK fk sh f0 J lb kb base lv Y0 W0 (some ⟨g,0,none⟩) cc (mm+1) (it::S) pre Y wr)(hmm:mm=S.length)(hit:it.f=.nod k s n p kids arms rest)(hx:x.v=⟨mm,k,s,n,kids,arms⟩)(hat:x.at_ wr (OkI wr Y (some ⟨g,0,none⟩)) sh)
  (hW2:W2=(wr.setCell ⟨g,mm,none⟩ (.slice RA rest.len RC)).alloc ob) :
  ((∃ suf,f0.pre 0=pre.map Nd.v++x.v::suf)/\x.at_ W2 (fun j=>j<W2.heap.size/\¬ Y j) sh)/\J pre Y W2/\∀ k,Y k->k<W2.heap.size:=by
 obtain⟨s1,s2,s3,s4⟩:=h.sel hW2;have hg:¬ Y g:=h.ny g 0 rfl;refine⟨⟨⟨kids.pre (mm+1)++arms.pre (mm+1)++rest.pre mm++todo S,?_⟩,hat.keep (fun j hj=>s2 j hj.1 (fun e=>hj.2.2 0 (by rw[e]))) (fun j hj=>⟨by have:=hj.1;omega,hj.2.1⟩)⟩,hJ _ _ _ _ h.j (by omega) (fun j hj=>s2 j (h.yl j hj).1 (fun e=>hg (e ▸ hj))),fun j hj=>by have:=(h.yl j hj).1;omega⟩;rw[h.what,hx];simp only[todo,hit,Tr.pre,<- hmm,cAa]
theorem WSt.row3{W3 W4:World}(h:WSt T0 TR TK fk sh f0 J lb kb base lv Y0 W0 (some ⟨g,0,none⟩) cc (mm+1) (it::S) pre Y wr)(hmm:mm=S.length)(hW2:W2=(wr.setCell ⟨g,mm,none⟩ (.slice RA rest.len RC)).alloc ob)(hgl:g<wr.heap.size)(hmv3:Mv Y W2 W3)(hb4:Bel W3 W4) :
  W4.ownsRow base T0 1 (.slice (some ⟨g,0,none⟩) (mm+1) cc) (mm+1) (itV (⟨RA,RC,rest⟩::S)):=by
 obtain⟨s1,s2,s3,s4⟩:=h.sel hW2;have hg:¬ Y g:=h.ny g 0 rfl;have h1:=qiZ (y:=⟨RA,RC,rest⟩) hmm h.row;have h2:W2.ownsRow base T0 1 (.slice (some ⟨g,0,none⟩) (mm+1) cc) (mm+1) (itV (⟨RA,RC,rest⟩::S)):=by rw[hW2];exact h1.alloc ob
 refine qG (qfY h2 fun j hj=>?_) hb4;cases hj;exact hmv3.block g (by omega) hg
theorem WSt.next{W3 W4 w5:World}{Y3:Nat->Prop}{K:It}{v':Value}{ob2:Obj}(hJ:qaa J)(h:WSt T0 TR TK fk sh f0 J lb kb base lv Y0 W0 (some ⟨g,0,none⟩) cc (mm+1) (it::S) pre Y wr)(hmm:mm=S.length)(hit:it.f=.nod k s n p kids arms rest)(hx:x.v=⟨mm,k,s,n,kids,arms⟩)
  (hres:KidsTr wr (OkI wr Y (some ⟨g,0,none⟩)) sh RA rest.len RC rest) (hW2:W2=(wr.setCell ⟨g,mm,none⟩ (.slice RA rest.len RC)).alloc ob) (hgl:g<wr.heap.size) (hbg:base<=g)
  (hmv3:Mv Y W2 W3) (hy3:∀ k,Y3 k->k<W3.heap.size/\(Y k∨W2.heap.size<=k)) (hj3:J (pre++[x]) Y3 W3) (hb4:Bel W3 W4) (hK:KidsTr W4 (qbW W3 (OkI W3 Y3 (some ⟨g,0,none⟩)) W4) sh K.A K.f.len K.c K.f) (hpre:∀ d,K.f.pre d=kids.pre d++arms.pre d)
  (hbase:W0.heap.size<=base) (hown5:w5.ownsRow base T0 1 v' (mm+1+1) (itV (⟨RA,RC,rest⟩::S)++[K.val])) (hg5:(W4.alloc ob2).grownBy w5 (some g)) (hat5:v'.ownBlock=some g∨v'.ownBlock=some (W4.alloc ob2).heap.size) :
  ∃ g5 c5,v'=.slice (some ⟨g5,0,none⟩) (mm+1+1) c5/\WSt T0 TR TK fk sh f0 J lb kb base lv Y0 W0 (some ⟨g5,0,none⟩) c5 (mm+1+1) (K::⟨RA,RC,rest⟩::S) (pre++[x]) Y3 w5:=by
 obtain⟨g5,c5,rfl⟩:=jP hown5;obtain⟨s1,s2,s3,s4⟩:=h.sel hW2;have hg:¬ Y g:=h.ny g 0 rfl;have b4:Bel W3 (W4.alloc ob2):=hb4.alloc ob2;have z5:W4.heap.size+1<=w5.heap.size:=by have:=hg5.size;simpa using this
 have z3:=hmv3.size;have z4:=hb4.size;have k5:∀ j,j<W3.heap.size->j≠g->w5.heap[j]?=W3.heap[j]?:=fun j hj hn=>(hg5.block j (lT hj b4.size) (fun e=>hn (by cases e;rfl))).trans (b4.block j hj);have k2:∀ j,j<wr.heap.size->j≠g->¬ Y j->w5.heap[j]?=wr.heap[j]?:=fun j hj hn hy=>(k5 j (by omega) hn).trans ((hmv3.block j (by omega) hy).trans (s2 j hj hn));have hgn:g5=g∨W4.heap.size<=g5:=by
  rcases hat5 with e | e
  ·left;cases e;rfl
  ·right;simp[Value.ownBlock]at e;omega
 have hy5:∀ j,Y3 j->Y j∨wr.heap.size<=j:=fun j hj=>(hy3 j hj).2.imp id (fun h=>by omega);have ha5:∀ j o,(some ⟨g5,0,none⟩:OA)=some ⟨j,o,none⟩->(∃ o',(some ⟨g,0,none⟩:OA)=some ⟨j,o',none⟩)∨wr.heap.size<=j:=fun j o e=>by
  cases e;rcases hgn with rfl | h
  ·exact .inl ⟨0,rfl⟩
  ·right;omega
 have hno:∀ j,Y3 j->j≠g:=fun j hj e=>by
  rcases (hy3 j hj).2 with h | h
  ·exact hg (e ▸ h)
  ·omega
 refine⟨g5,c5,rfl,by simp[hmm],by rw[Z8];exact hown5,fun j o e hj=>?_,?_,?_,h.lt,⟨fun hj=>?_,fun hj=>?_⟩,?_,hJ _ _ _ _ hj3 (by omega) (fun j hj=>k5 j (hy3 j hj).1 (hno j hj)),fun j hj=>⟨by have:=(hy3 j hj).1;omega,?_⟩,?_,by have:=h.bs;omega,?_⟩
 ·cases e
  rcases hgn with rfl | h
  ·exact hno _ hj rfl
  ·have:=(hy3 _ hj).1;omega
 ·exact (k2 lb (by have:=h.lt;have:=h.bs;omega) (by have:=h.lt;omega) h.nl.1).trans h.bl
 ·exact (k2 kb (by have:=h.lt;have:=h.bs;omega) (by have:=h.lt;omega) h.nl.2).trans h.bk
 ·rcases hy5 _ hj with e | e
  ·exact h.nl.1 e
  ·have:=h.lt;have:=h.bs;omega
 ·rcases hy5 _ hj with e | e
  ·exact h.nl.2 e
  ·have:=h.lt;have:=h.bs;omega
 ·intro y hy
  have hkeep:∀ j,OkI wr Y (some ⟨g,0,none⟩) j->w5.heap[j]?=wr.heap[j]?:=fun j hj=>k2 j hj.1 (fun e=>hj.2.2 0 (by rw[e])) hj.2.1;rcases List.mem_cons.1 hy with rfl | hy
  ·refine (hK.keep fun j hj=>?_).wide fun j hj=>?_
   ·have hjl:j<W4.heap.size/\j≠g:=by
     rcases hj with hj | hj
     ·exact⟨by have:=hj.1;omega,fun e=>hj.2.2 0 (by rw[e])⟩
     ·exact⟨hj.2,by omega⟩
    exact (hg5.block j (by simp;omega) (fun e=>hjl.2 (by cases e;rfl))).trans (((Bel.refl W4).alloc ob2).block j hjl.1)
   ·rcases hj with hj | hj
    ·refine⟨by have:=hj.1;omega,hj.2.1,fun o e=>?_⟩
     cases e;rcases hgn with rfl | h
     ·exact hj.2.2 0 rfl
     ·have:=hj.1;omega
    ·refine⟨by omega,fun e=>by have:=(hy3 j e).1;omega,fun o e=>?_⟩
     cases e;rcases hgn with h | h
     ·omega
     ·omega
  ·rcases List.mem_cons.1 hy with rfl | hy
   ·exact hres.stepI (by omega) hkeep hy5 ha5
   ·exact (h.its y (mCc _ hy)).stepI (by omega) hkeep hy5 ha5
 ·rcases (hy3 j hj).2 with h' | h'
  ·exact (h.yl j h').2
  ·right;have:=h.bs;omega
 ·have m1:=h.mv.trans s4 (fun j hj=> .inr (by omega))
  have m2:=m1.trans hmv3 (fun j hj=>(h.yl j hj).2);have m3:=m2.trans (Mv.of_bel (Z:=fun _=>False) b4) (fun j hj=>hj.elim);exact m3.grown hg5 (fun j hj=> .inr (by cases hj;omega))
 ·rw[h.what]
  simp only[todo,hit,Tr.pre,<- hmm,List.map_append,List.map_cons,List.map_nil,hx,lC,hpre,aAa,cAa,List.nil_append]
end
end Go.Proofs.YtmloadclmjcbbaaGreatDoor.Mu
