import Derived.Test.YtfpoelklhekfaaaGreatDoorQbc
import Derived.Test.YtfpoelklhekfaaaGreatDoorQbn
open Go.Lib (hid)
namespace Go.Proofs.YtfpoelklhekfaaaGreatDoor.Mu
set_option maxHeartbeats 4000000
open Go Go.RowKit
attribute [local go_sem] Oper.semAt_some
set_option linter.unusedVariables false
set_option maxRecDepth 100000
def Tr.wt:Tr->Nat
 | .nil=>0
 | .nod _ s _ _ k a r=>1+s.length / 64+k.wt+a.wt+r.wt
 | .arm _ s _ _ k e r=>1+s.length / 64+k.wt+e.wt+r.wt
def Tr.wtU:Tr->Nat->Nat
 | .nil,_=>0
 | .nod _ _ _ _ _ _ _,0=>0
 | .arm _ _ _ _ _ _ _,0=>0
 | .nod _ s _ _ k a r,j+1=>1+s.length / 64+k.wt+a.wt+r.wtU j
 | .arm _ s _ _ k e r,j+1=>1+s.length / 64+k.wt+e.wt+r.wtU j
theorem Tr.wtU_zero(f:Tr):f.wtU 0=0:=by cases f <;> rfl
theorem Tr.wtU_all:∀ f:Tr,f.wtU f.len=f.wt
 | .nil=>rfl
 | .nod _ _ _ _ k a r=>by simp only[Tr.len,Tr.wtU,Tr.wt,Tr.wtU_all r]
 | .arm _ _ _ _ k e r=>by simp only[Tr.len,Tr.wtU,Tr.wt,Tr.wtU_all r]
theorem Tr.wtU_succ:∀ (f:Tr) (j:Nat),j<f.len->f.wtU (j+1)=f.wtU j+(f.nth j).wt
 | .nil,j,h=>by simp[Tr.len]at h
 | .nod _ _ _ _ k a r,0,_=>by simp only[Tr.wtU,Tr.wtU_zero,Tr.nth,Tr.wt];omega
 | .arm _ _ _ _ k e r,0,_=>by simp only[Tr.wtU,Tr.wtU_zero,Tr.nth,Tr.wt];omega
 | .nod _ _ _ _ k a r,j+1,h=>by
  have:=Tr.wtU_succ r j (by simp only[Tr.len]at h;omega);simp only[Tr.wtU,Tr.nth]at this ⊢;rw[this];omega
 | .arm _ _ _ _ k e r,j+1,h=>by
  have:=Tr.wtU_succ r j (by simp only[Tr.len]at h;omega);simp only[Tr.wtU,Tr.nth]at this ⊢;rw[this];omega
def Tr.fit:Tr->Prop
 | .nil=>True
 | .nod _ s _ _ k a r=>s.length<=140737488355328/\k.len<=140737488355328/\a.len<=140737488355328/\k.fit/\a.fit/\r.fit
 | .arm _ s _ _ k e r=>s.length<=140737488355328/\k.len<=140737488355328/\k.fit/\e.fit/\r.fit
theorem Tr.nth_fit:∀ (f:Tr) (i:Nat),f.fit->(f.nth i).fit
 | .nil,_,_=>trivial
 | .nod _ _ _ _ _ _ _,0,h=>⟨h.1,h.2.1,h.2.2.1,h.2.2.2.1,h.2.2.2.2.1,trivial⟩
 | .arm _ _ _ _ _ _ _,0,h=>⟨h.1,h.2.1,h.2.2.1,h.2.2.2.1,trivial⟩
 | .nod _ _ _ _ _ _ r,i+1,h=>Tr.nth_fit r i h.2.2.2.2.2
 | .arm _ _ _ _ _ _ r,i+1,h=>Tr.nth_fit r i h.2.2.2.2
def jE(c:Int)(d:Nat)(f:Tr)(w:World):Ending->World->Prop:=fun e w'=>∃ z:Int,e=.returned (.int .i64 z)/\1<=z/\z<=c/\(z<=9000->z=(f.wt:Int)/\f.depth+d<=201)/\Bel w w'
def capP(d:Nat):Int:=4398046511104+9001*(202-(d:Int))
theorem JU(N:Nat):∀ (d:Nat) (k:Int) (s:List UInt8) (n:Int) (p:Pl) (A:Option Addr) (len cap:Nat) (kids:Tr) (w:World),kids.size=N->KidsTr w (OldT w) .pat A len cap kids->d<=201->s.length<=140737488355328->kids.len<=140737488355328->kids.fit →
  Calls Tryz.prog 45 #[.agg #[.int .u8 k,.string ⟨s.toArray⟩,n,p.a,p.l,p.c,.slice A len cap],(d:Int)] w (jE (capP d) d (.nod k s n p kids .nil .nil) w):=by
 induction N using Nat.strongRecOn with
 | _ N ih=>
  intro d k s n p A len cap kids w hN h hd hs hkl hft;have H:=hid h;have IH:=hid ih;have HL:Hid (len=kids.len):=hid h.1;have HN:=hid hN;have HF:=hid hft;have hlen:len<=140737488355328:=by have:=h.1;omega
  obtain⟨S,hS⟩:∃ S:ByteArray,S=⟨s.toArray⟩:=⟨_,rfl⟩
  have hsz:S.size=s.length:=by rw[hS];simp[ByteArray.size]
  rw[<- hS];clear h ih hN hft hS hkl;by_cases dd:200<d
  case pos=>
   have d1:(200:Int)<(d:Int):=by omega
   go_enter Tryz.func45,Tryz.ntmps45
   go_wp2_with fail
   go_ret
   refine⟨9001,rfl,by decide,?_,fun h=>absurd h (by decide),?_⟩
   ·unfold capP;omega
   ·repeat (first | exact Bel.refl _ | apply Bel.alloc | apply Bel.drew)
  have d1:¬ (200:Int)<(d:Int):=by omega
  have d2:(d:Int)<=200:=by omega
  obtain⟨t,ht⟩:∃ t:Nat,t=s.length / 64:=⟨_,rfl⟩
  have htl:t<=2199023255552:=by omega
  have hq:wrap64 (1+wrap64 ((s.length:Int) / 64))=((1+t:Nat):Int):=by
   have e1:(s.length:Int) / 64=(t:Int):=by omega
   rw[e1,IntWalk.wrap64_in (t:Int) (by omega),IntWalk.wrap64_in _ (by omega)];omega
  have HT:=hid ht;clear ht hs;go_enter Tryz.func45,Tryz.ntmps45
  go_wp2_with fail
  try rw[hq]
  clear hq;have q1:=blk1 w (.cells #[.int .u8 k,S,n,p.a,p.l,p.c,.slice A len cap] 111);have hb1:Bel w (w.alloc (.cells #[.int .u8 k,S,n,p.a,p.l,p.c,.slice A len cap] 111)):=(Bel.refl w).alloc _;have hs1:(w.alloc (.cells #[.int .u8 k,S,n,p.a,p.l,p.c,.slice A len cap] 111)).heap.size=w.heap.size+1:=by simp
  obtain⟨w1,hw1⟩:∃ w1,w1=w.alloc (.cells #[.int .u8 k,S,n,p.a,p.l,p.c,.slice A len cap] 111):=⟨_,rfl⟩
  rw[<- hw1]at q1 hb1 hs1 ⊢;have HQ:=hid q1;have HB1:=hid hb1;have HS1:=hid hs1;clear q1 hb1 hs1 hw1 hsz;go_loopw [5,6] (fun s i wr=>∃ (j:Nat) (z:Int),j<=len/\i=.int .i64 (j:Int)/\s=.int .i64 z/\Hid (1<=z/\z<=capP d/\(z<=9000->z=((1+t+kids.wtU j:Nat):Int)/\1+kids.depU j+d<=201))/\Hid (Bel w1 wr)) (fun _ i _=>len-(intOf i).toNat)
  case atStart=>exact⟨0,_,Nat.zero_le _,rfl,rfl,hid ⟨by omega,by unfold capP;omega,fun _=>by rw[Tr.wtU_zero,Tr.depU_zero];exact⟨rfl,by omega⟩⟩,hid (Bel.refl _)⟩
  case round=>
   obtain⟨j,z,hj,rfl,rfl,HI,HB⟩:=hrel;have hbx:=(HB.out.block w.heap.size (by have:=HS1.out;omega)).trans HQ.out;obtain⟨_,x1,_,x6⟩:=qfL hbx;clear hbx;by_cases hlt:j<len
   ·by_cases hz:z<=9000
    ·have hkr:KidsTr wr (OldT w) .pat A len cap kids:=H.out.keep fun i hi=>(HB.out.block i (Nat.lt_of_lt_of_le hi HB1.out.size)).trans (HB1.out.block i hi)
     obtain⟨ub,uo,eA,hob,hfo⟩:=hkr.2.2 (by omega);subst eA;obtain⟨k',s',n',p',kids',ar',en,hd',⟨A',cap',e5,hcp',hk'⟩,har',_⟩:=TrAt.nod_at (by intro e;cases e) kids j ub uo hfo (by rw[<- HL.out];exact hlt);obtain rfl:ar'=.nil:=by
      rcases har' with ⟨e,_⟩ | ⟨_,e⟩
      ·cases e
      ·exact Tr.len0 _ e
     obtain⟨e0,e1,e2,f1,f2,f3⟩:=hd';have hsn:=Tr.nth_size kids j;have hft':=Tr.nth_fit kids j HF.out;rw[en]at hsn hft';simp only[Tr.size]at hsn;obtain⟨hs',hkl',_,hfk',_,_⟩:=hft';have hOld:∀ i,OldT w i->OldT wr i:=fun i hi=>Nat.lt_of_lt_of_le hi (Nat.le_trans HB1.out.size HB.out.size);have hK':KidsTr wr (OldT w) .pat A' kids'.len cap' kids':=⟨rfl,hcp',hk'⟩
     obtain⟨g,hg⟩:∃ g,g=Tr.nod k' s' n' p' kids' .nil .nil:=⟨_,rfl⟩
     have HU:Hid (kids.wtU (j+1)=kids.wtU j+g.wt/\kids.depU (j+1)=max (kids.depU j) g.depth):=hid (by
      rw[Tr.wtU_succ kids j (by rw[<- HL.out];exact hlt),Tr.depU_succ kids j (by rw[<- HL.out];exact hlt),en,hg];exact⟨rfl,rfl⟩)
     have HC:Hid (Calls Tryz.prog 45 #[.agg #[.int .u8 k',.string ⟨s'.toArray⟩,n',p'.a,p'.l,p'.c,.slice A' kids'.len cap'],.int .i64 ((d:Int)+1)] wr (jE (capP (d+1)) (d+1) g wr)):=hid (by
      rw[hg];exact IH.out kids'.size (by have:=HN.out;omega) (d+1) k' s' n' p' A' kids'.len cap' kids' wr rfl (hK'.wide hOld) (by omega) hs' hkl' hfk')
     obtain⟨l1,hl1⟩:∃ l,l=kids'.len:=⟨_,rfl⟩
     rw[<- hl1]at e5 HC;have i1:(0:Int)<=(j:Int):=by omega
     have i2:(j:Int)<(len:Int):=by omega
     have HLT:=hid hlt;have hw:wrap64 ((d:Int)+1)=(d:Int)+1:=IntWalk.wrap64_in _ (by omega);simp only[Sh.sz,Sh.kd]at e0 e1 e2 e5 f1 f2 f3;clear hkr hfo en hk' hK' hsn hg hl1 har' hcp' hOld hob hs' hkl' hfk';go_wp2_with fail
     refine HC.out.mono ?_;rintro e w2 ⟨z',rfl,hz1,hz2,hz3,hb2⟩;have HB2:=hid (HB.out.on hb2);obtain⟨g1,g2,g3⟩:=HI.out;have hw2:wrap64 (z+z')=z+z':=IntWalk.wrap64_in _ (by unfold capP at *;omega);have HZ':Hid (1<=z+z'/\z+z'<=capP d/\(z+z'<=9000->z+z'=((1+t+kids.wtU (j+1):Nat):Int)/\1+kids.depU (j+1)+d<=201)):=hid (by
      refine⟨by omega,by unfold capP at *;omega,fun h9=>?_⟩;obtain⟨a1,a2⟩:=g3 (by omega);obtain⟨b1,b2⟩:=hz3 (by omega);rw[HU.out.1,HU.out.2];exact⟨by omega,by omega⟩)
     clear hb2 e0 e1 e2 e5 f1 f2 f3 x1 x6 hz1 hz2 hz3 g1 g2 g3;go_wp2_with fail
     go_roundw
     case rel=>exact⟨j+1,z+z',HLT.out,by go_num,by first | rfl | rw[hw2],HZ',HB2⟩
     case measure=>have:=HLT.out;simp[intOf];omega
    ·have hz':¬ z<=9000:=hz
     go_wp2_with fail
     go_ret
     obtain⟨g1,g2,g3⟩:=HI.out;exact⟨z,rfl,g1,g2,fun h=>absurd h (by omega),HB1.out.on HB.out⟩
   ·obtain rfl:j=len:=by omega
    go_wp2_with fail
    go_ret
    obtain⟨g1,g2,g3⟩:=HI.out;refine⟨z,rfl,g1,g2,fun h=>?_,HB1.out.on HB.out⟩;obtain⟨a1,a2⟩:=g3 h;rw[HL.out,Tr.wtU_all]at a1;rw[HL.out,Tr.depU_all]at a2;simp only[Tr.wt,Tr.depth];have:=HT.out;exact⟨by omega,by omega⟩
theorem qaE(N:Nat):∀ (d:Nat) (k:Int) (s:List UInt8) (n:Int) (p:Pl) (A:Option Addr) (len cap:Nat) (kids:Tr) (w:World),kids.size=N->KidsTr w (OldT w) .ty A len cap kids->d<=201->s.length<=140737488355328->kids.len<=140737488355328->kids.fit →
  Calls Tryz.prog 17 #[.agg #[.int .u8 k,.string ⟨s.toArray⟩,.int .u8 n,p.a,p.l,p.c,.slice A len cap],(d:Int)] w (jE (capP d) d (.nod k s n p kids .nil .nil) w):=by
 induction N using Nat.strongRecOn with
 | _ N ih=>
  intro d k s n p A len cap kids w hN h hd hs hkl hft;have H:=hid h;have IH:=hid ih;have HL:Hid (len=kids.len):=hid h.1;have HN:=hid hN;have HF:=hid hft;have hlen:len<=140737488355328:=by have:=h.1;omega
  obtain⟨S,hS⟩:∃ S:ByteArray,S=⟨s.toArray⟩:=⟨_,rfl⟩
  have hsz:S.size=s.length:=by rw[hS];simp[ByteArray.size]
  rw[<- hS];clear h ih hN hft hS hkl;by_cases dd:200<d
  case pos=>
   have d1:(200:Int)<(d:Int):=by omega
   go_enter Tryz.func17,Tryz.ntmps17
   go_wp2_with fail
   go_ret
   refine⟨9001,rfl,by decide,?_,fun h=>absurd h (by decide),?_⟩
   ·unfold capP;omega
   ·repeat (first | exact Bel.refl _ | apply Bel.alloc | apply Bel.drew)
  have d1:¬ (200:Int)<(d:Int):=by omega
  have d2:(d:Int)<=200:=by omega
  obtain⟨t,ht⟩:∃ t:Nat,t=s.length / 64:=⟨_,rfl⟩
  have htl:t<=2199023255552:=by omega
  have hq:wrap64 (1+wrap64 ((s.length:Int) / 64))=((1+t:Nat):Int):=by
   have e1:(s.length:Int) / 64=(t:Int):=by omega
   rw[e1,IntWalk.wrap64_in (t:Int) (by omega),IntWalk.wrap64_in _ (by omega)];omega
  have HT:=hid ht;clear ht hs;go_enter Tryz.func17,Tryz.ntmps17
  go_wp2_with fail
  try rw[hq]
  clear hq;have q1:=blk1 w (.cells #[.int .u8 k,S,.int .u8 n,p.a,p.l,p.c,.slice A len cap] 50);have hb1:Bel w (w.alloc (.cells #[.int .u8 k,S,.int .u8 n,p.a,p.l,p.c,.slice A len cap] 50)):=(Bel.refl w).alloc _;have hs1:(w.alloc (.cells #[.int .u8 k,S,.int .u8 n,p.a,p.l,p.c,.slice A len cap] 50)).heap.size=w.heap.size+1:=by simp
  obtain⟨w1,hw1⟩:∃ w1,w1=w.alloc (.cells #[.int .u8 k,S,.int .u8 n,p.a,p.l,p.c,.slice A len cap] 50):=⟨_,rfl⟩
  rw[<- hw1]at q1 hb1 hs1 ⊢;have HQ:=hid q1;have HB1:=hid hb1;have HS1:=hid hs1;clear q1 hb1 hs1 hw1 hsz;go_loopw [5,6] (fun s i wr=>∃ (j:Nat) (z:Int),j<=len/\i=.int .i64 (j:Int)/\s=.int .i64 z/\Hid (1<=z/\z<=capP d/\(z<=9000->z=((1+t+kids.wtU j:Nat):Int)/\1+kids.depU j+d<=201))/\Hid (Bel w1 wr)) (fun _ i _=>len-(intOf i).toNat)
  case atStart=>exact⟨0,_,Nat.zero_le _,rfl,rfl,hid ⟨by omega,by unfold capP;omega,fun _=>by rw[Tr.wtU_zero,Tr.depU_zero];exact⟨rfl,by omega⟩⟩,hid (Bel.refl _)⟩
  case round=>
   obtain⟨j,z,hj,rfl,rfl,HI,HB⟩:=hrel;have hbx:=(HB.out.block w.heap.size (by have:=HS1.out;omega)).trans HQ.out;obtain⟨_,x1,_,x6⟩:=qfL hbx;clear hbx;by_cases hlt:j<len
   ·by_cases hz:z<=9000
    ·have hkr:KidsTr wr (OldT w) .ty A len cap kids:=H.out.keep fun i hi=>(HB.out.block i (Nat.lt_of_lt_of_le hi HB1.out.size)).trans (HB1.out.block i hi)
     obtain⟨ub,uo,eA,hob,hfo⟩:=hkr.2.2 (by omega);subst eA;obtain⟨k',s',n',p',kids',ar',en,hd',⟨A',cap',e5,hcp',hk'⟩,har',_⟩:=TrAt.nod_at (by intro e;cases e) kids j ub uo hfo (by rw[<- HL.out];exact hlt);obtain rfl:ar'=.nil:=by
      rcases har' with ⟨e,_⟩ | ⟨_,e⟩
      ·cases e
      ·exact Tr.len0 _ e
     obtain⟨e0,e1,e2,f1,f2,f3⟩:=hd';have hsn:=Tr.nth_size kids j;have hft':=Tr.nth_fit kids j HF.out;rw[en]at hsn hft';simp only[Tr.size]at hsn;obtain⟨hs',hkl',_,hfk',_,_⟩:=hft';have hOld:∀ i,OldT w i->OldT wr i:=fun i hi=>Nat.lt_of_lt_of_le hi (Nat.le_trans HB1.out.size HB.out.size);have hK':KidsTr wr (OldT w) .ty A' kids'.len cap' kids':=⟨rfl,hcp',hk'⟩
     obtain⟨g,hg⟩:∃ g,g=Tr.nod k' s' n' p' kids' .nil .nil:=⟨_,rfl⟩
     have HU:Hid (kids.wtU (j+1)=kids.wtU j+g.wt/\kids.depU (j+1)=max (kids.depU j) g.depth):=hid (by
      rw[Tr.wtU_succ kids j (by rw[<- HL.out];exact hlt),Tr.depU_succ kids j (by rw[<- HL.out];exact hlt),en,hg];exact⟨rfl,rfl⟩)
     have HC:Hid (Calls Tryz.prog 17 #[.agg #[.int .u8 k',.string ⟨s'.toArray⟩,.int .u8 n',p'.a,p'.l,p'.c,.slice A' kids'.len cap'],.int .i64 ((d:Int)+1)] wr (jE (capP (d+1)) (d+1) g wr)):=hid (by
      rw[hg];exact IH.out kids'.size (by have:=HN.out;omega) (d+1) k' s' n' p' A' kids'.len cap' kids' wr rfl (hK'.wide hOld) (by omega) hs' hkl' hfk')
     obtain⟨l1,hl1⟩:∃ l,l=kids'.len:=⟨_,rfl⟩
     rw[<- hl1]at e5 HC;have i1:(0:Int)<=(j:Int):=by omega
     have i2:(j:Int)<(len:Int):=by omega
     have HLT:=hid hlt;have hw:wrap64 ((d:Int)+1)=(d:Int)+1:=IntWalk.wrap64_in _ (by omega);simp only[Sh.sz,Sh.kd]at e0 e1 e2 e5 f1 f2 f3;clear hkr hfo en hk' hK' hsn hg hl1 har' hcp' hOld hob hs' hkl' hfk';go_wp2_with fail
     refine HC.out.mono ?_;rintro e w2 ⟨z',rfl,hz1,hz2,hz3,hb2⟩;have HB2:=hid (HB.out.on hb2);obtain⟨g1,g2,g3⟩:=HI.out;have hw2:wrap64 (z+z')=z+z':=IntWalk.wrap64_in _ (by unfold capP at *;omega);have HZ':Hid (1<=z+z'/\z+z'<=capP d/\(z+z'<=9000->z+z'=((1+t+kids.wtU (j+1):Nat):Int)/\1+kids.depU (j+1)+d<=201)):=hid (by
      refine⟨by omega,by unfold capP at *;omega,fun h9=>?_⟩;obtain⟨a1,a2⟩:=g3 (by omega);obtain⟨b1,b2⟩:=hz3 (by omega);rw[HU.out.1,HU.out.2];exact⟨by omega,by omega⟩)
     clear hb2 e0 e1 e2 e5 f1 f2 f3 x1 x6 hz1 hz2 hz3 g1 g2 g3;go_wp2_with fail
     go_roundw
     case rel=>exact⟨j+1,z+z',HLT.out,by go_num,by first | rfl | rw[hw2],HZ',HB2⟩
     case measure=>have:=HLT.out;simp[intOf];omega
    ·have hz':¬ z<=9000:=hz
     go_wp2_with fail
     go_ret
     obtain⟨g1,g2,g3⟩:=HI.out;exact⟨z,rfl,g1,g2,fun h=>absurd h (by omega),HB1.out.on HB.out⟩
   ·obtain rfl:j=len:=by omega
    go_wp2_with fail
    go_ret
    obtain⟨g1,g2,g3⟩:=HI.out;refine⟨z,rfl,g1,g2,fun h=>?_,HB1.out.on HB.out⟩;obtain⟨a1,a2⟩:=g3 h;rw[HL.out,Tr.wtU_all]at a1;rw[HL.out,Tr.depU_all]at a2;simp only[Tr.wt,Tr.depth];have:=HT.out;exact⟨by omega,by omega⟩
end Go.Proofs.YtfpoelklhekfaaaGreatDoor.Mu
namespace Go.Proofs.YtfpoelklhekfaaaGreatDoor.Mu
set_option maxHeartbeats 1000000
open Go Go.RowKit Go.Shelf
attribute [local go_sem] Oper.semAt_some
set_option linter.unusedVariables false
def capX(d:Nat):Int:=8796093022208*(202-(d:Int))
def ZQ(c:Int)(d:Nat)(f:Tr)(z:Int):Prop:=1<=z/\z<=c/\(z<=9000->z=(f.wt:Int)/\f.depth+d<=201)
def regSz:List Oper:=[
 ⟨some 47,.move (.tmp 5),3,"ref.go:432",#[],none⟩,
 ⟨some 48,.fieldAddr 43 (.tmp 2) 5,0,"ref.go:432",#[],none⟩,
 ⟨some 49,.load 41 (.tmp 48),41,"ref.go:432",#[⟨1,.data⟩],none⟩,
 ⟨some 50,.move (.tmp 7),3,"ref.go:432",#[],none⟩,
 ⟨some 51,.indexAddr 41 (.tmp 49) (.tmp 50),0,"ref.go:432",#[⟨2,.data⟩,⟨3,.data⟩],none⟩,
 ⟨some 52,.fieldAddr 113 (.tmp 51) 0,0,"ref.go:432",#[⟨4,.data⟩],none⟩,
 ⟨some 53,.load 111 (.tmp 52),111,"ref.go:432",#[⟨5,.data⟩],none⟩,
 ⟨some 54,.move (.tmp 1),3,"ref.go:432",#[],none⟩,
 ⟨some 55,.binOp .add 3 (.tmp 54) (.const (Value.int IntKind.i64 1)) 3,3,"ref.go:432",#[⟨7,.data⟩],none⟩,
 ⟨some 56,.call ⟨.value (.func 45),#[.tmp 53,.tmp 55],#[111,3]⟩,3,"ref.go:432",#[⟨6,.data⟩,⟨8,.data⟩],none⟩,
 ⟨some 57,.binOp .add 3 (.tmp 47) (.tmp 56) 3,3,"ref.go:432",#[⟨0,.data⟩,⟨9,.data⟩],none⟩,
 ⟨some 58,.fieldAddr 43 (.tmp 2) 5,0,"ref.go:432",#[],none⟩,
 ⟨some 59,.load 41 (.tmp 58),41,"ref.go:432",#[⟨11,.data⟩],none⟩,
 ⟨some 60,.move (.tmp 7),3,"ref.go:432",#[],none⟩,
 ⟨some 61,.indexAddr 41 (.tmp 59) (.tmp 60),0,"ref.go:432",#[⟨12,.data⟩,⟨13,.data⟩],none⟩,
 ⟨some 62,.fieldAddr 113 (.tmp 61) 1,0,"ref.go:432",#[⟨14,.data⟩],none⟩,
 ⟨some 63,.load 43 (.tmp 62),43,"ref.go:432",#[⟨15,.data⟩],none⟩,
 ⟨some 64,.move (.tmp 1),3,"ref.go:432",#[],none⟩,
 ⟨some 65,.binOp .add 3 (.tmp 64) (.const (Value.int IntKind.i64 1)) 3,3,"ref.go:432",#[⟨17,.data⟩],none⟩,
 ⟨some 66,.call ⟨.value (.func 16),#[.tmp 63,.tmp 65],#[43,3]⟩,3,"ref.go:432",#[⟨16,.data⟩,⟨18,.data⟩,⟨9,.chain⟩],none⟩,
 ⟨some 67,.binOp .add 3 (.tmp 57) (.tmp 66) 3,3,"ref.go:432",#[⟨10,.data⟩,⟨19,.data⟩],none⟩,
 ⟨some 5,.assign (.tmp 67),3,"ref.go:432",#[⟨20,.data⟩,⟨19,.chain⟩,⟨0,.phase⟩,⟨1,.phase⟩,⟨2,.phase⟩,⟨3,.phase⟩,⟨4,.phase⟩,⟨5,.phase⟩,⟨6,.phase⟩,⟨7,.phase⟩,⟨8,.phase⟩,⟨9,.phase⟩,⟨10,.phase⟩,⟨11,.phase⟩,⟨12,.phase⟩,⟨13,.phase⟩,⟨14,.phase⟩,⟨15,.phase⟩,⟨16,.phase⟩,⟨17,.phase⟩,⟨18,.phase⟩,⟨19,.phase⟩,⟨20,.phase⟩],none⟩]
def qea(bx b1 o1 m ca j d:Nat)(y:Int)(k1 n1 x1 l1 c1 K1 N1 U1 V1 W1:Int)(t1 T1:ByteArray)(A1 F1 G1:Option Addr)(m1 d1 M1 D1 R1 E1:Nat)(g g2:Tr)(i:Nat)(v:Value)(w:World):Prop:=
 match i with
 | 0=>v=.int .i64 y
 | 1=>v=.pointer (some ⟨bx,7,none⟩)
 | 2=>v=.slice (some ⟨b1,o1,none⟩) m ca
 | 3=>v=.int .i64 (j:Int)
 | 4=>v=.pointer (some ⟨b1,o1+j*15,none⟩)
 | 5=>v=.pointer (some ⟨b1,o1+j*15,none⟩)
 | 6=>v=.agg #[.int .u8 k1,t1,n1,x1,l1,c1,.slice A1 m1 d1]
 | 7=>v=.int .i64 (d:Int)
 | 8=>v=.int .i64 ((d:Int)+1)
 | 9=>∃ z:Int,v=.int .i64 z/\ZQ (capP (d+1)) (d+1) g z
 | 10=>∃ z:Int,v=.int .i64 (y+z)/\ZQ (capP (d+1)) (d+1) g z
 | 11=>v=.pointer (some ⟨bx,7,none⟩)
 | 12=>v=.slice (some ⟨b1,o1,none⟩) m ca
 | 13=>v=.int .i64 (j:Int)
 | 14=>v=.pointer (some ⟨b1,o1+j*15,none⟩)
 | 15=>v=.pointer (some ⟨b1,o1+j*15+7,none⟩)
 | 16=>v=.agg #[.int .u8 K1,T1,N1,U1,V1,W1,.slice F1 M1 D1,.slice G1 R1 E1]
 | 17=>v=.int .i64 (d:Int)
 | 18=>v=.int .i64 ((d:Int)+1)
 | 19=>∃ z:Int,v=.int .i64 z/\ZQ (capX (d+1)) (d+1) g2 z
 | 20=>∃ z z2:Int,v=.int .i64 (y+z+z2)/\ZQ (capP (d+1)) (d+1) g z/\ZQ (capX (d+1)) (d+1) g2 z2
 | _=>True
theorem qaM{bx b1 o1 m ca j d:Nat}{y:Int}{k1 n1 x1 l1 c1 K1 N1 U1 V1 W1:Int}{t1 T1:ByteArray}{A1 F1 G1:Option Addr}{m1 d1 M1 D1 R1 E1:Nat}{g g2:Tr}(i:Nat)(v:Value)(w w':World)(hi:i<21)(h:qea bx b1 o1 m ca j d y k1 n1 x1 l1 c1 K1 N1 U1 V1 W1 t1 T1 A1 F1 G1 m1 d1 M1 D1 R1 E1 g g2 i v w)(hb:Bel w w'):qea bx b1 o1 m ca j d y k1 n1 x1 l1 c1 K1 N1 U1 V1 W1 t1 T1 A1 F1 G1 m1 d1 M1 D1 R1 E1 g g2 i v w':=by
 match i,hi,h with
 | 0,_,h | 1,_,h | 2,_,h | 3,_,h | 4,_,h | 5,_,h | 6,_,h | 7,_,h | 8,_,h | 9,_,h | 10,_,h | 11,_,h | 12,_,h | 13,_,h | 14,_,h | 15,_,h | 16,_,h | 17,_,h | 18,_,h | 19,_,h | 20,_,h=>exact h
 | q+21,hi,_=>exact absurd hi (by omega)
def qhB(bx b1 o1 m ca j d:Nat)(y:Int)(k1 n1 x1 l1 c1 K1 N1 U1 V1 W1:Int)(t1 T1:ByteArray)(A1 F1 G1:Option Addr)(m1 d1 M1 D1 R1 E1:Nat)(g g2:Tr)(s0 s3 s4 s6 s8 s9 s10 s11 s12 s13 s14 s15 s16 s17 s18 s19 s20 s21 s22 s23 s24 s25 s26 s27 s28 s29 s30 s31 s32 s33 s34 s35 s36 s37 s38 s39 s40 s41 s42 s43 s44 s45 s46 s47 s48 s49 s50 s51 s52 s53 s54 s55 s56 s57 s58 s59 s60 s61 s62 s63 s64 s65 s66 s67 s68:Value)(df:List Deferred):Act:={ tmps:=#[s0,.int .i64 (d:Int),.pointer (some ⟨bx,0,none⟩),s3,s4,.int .i64 y,s6,.int .i64 (j:Int),s8,s9,s10,s11,s12,s13,s14,s15,s16,s17,s18,s19,s20,s21,s22,s23,s24,s25,s26,s27,s28,s29,s30,s31,s32,s33,s34,s35,s36,s37,s38,s39,s40,s41,s42,s43,s44,s45,s46,s47,s48,s49,s50,s51,s52,s53,s54,s55,s56,s57,s58,s59,s60,s61,s62,s63,s64,s65,s66,s67,s68],defers:=df }
def qgb(bx b1 o1 m ca j d:Nat)(y:Int)(k1 n1 x1 l1 c1 K1 N1 U1 V1 W1:Int)(t1 T1:ByteArray)(A1 F1 G1:Option Addr)(m1 d1 M1 D1 R1 E1:Nat)(g g2:Tr)(s0 s3 s4 s6 s8 s9 s10 s11 s12 s13 s14 s15 s16 s17 s18 s19 s20 s21 s22 s23 s24 s25 s26 s27 s28 s29 s30 s31 s32 s33 s34 s35 s36 s37 s38 s39 s40 s41 s42 s43 s44 s45 s46 s47 s48 s49 s50 s51 s52 s53 s54 s55 s56 s57 s58 s59 s60 s61 s62 s63 s64 s65 s66 s67 s68:Value)(df:List Deferred)(V:Nat->Value):Act:={ tmps:=#[s0,.int .i64 (d:Int),.pointer (some ⟨bx,0,none⟩),s3,s4,.int .i64 y,s6,.int .i64 (j:Int),s8,s9,s10,s11,s12,s13,s14,s15,s16,s17,s18,s19,s20,s21,s22,s23,s24,s25,s26,s27,s28,s29,s30,s31,s32,s33,s34,s35,s36,s37,s38,s39,s40,s41,s42,s43,s44,s45,s46,V 0,V 1,V 2,V 3,V 4,V 5,V 6,V 7,V 8,V 9,V 10,V 11,V 12,V 13,V 14,V 15,V 16,V 17,V 18,V 19,V 20,s68],defers:=df }
theorem qci:zC .any regSz.toArray 21=true:=by kernel_rfl
theorem qdF:fwdB regSz.toArray 21=true:=by kernel_rfl
theorem qau:qN regSz.toArray 69=true:=by kernel_rfl
theorem qdG:Region.seqB .any regSz.toArray (regSz.length-21) 21 (Array.replicate 21 true++Array.replicate (regSz.length-21) false)=true:=by kernel_rfl
set_option maxRecDepth 100000 in
theorem qdE{id:Nat}(bx b1 o1 m ca j d:Nat)(y:Int)(k1 n1 x1 l1 c1 K1 N1 U1 V1 W1:Int)(t1 T1:ByteArray)(A1 F1 G1:Option Addr)(m1 d1 M1 D1 R1 E1:Nat)(g g2:Tr)(s0 s3 s4 s6 s8 s9 s10 s11 s12 s13 s14 s15 s16 s17 s18 s19 s20 s21 s22 s23 s24 s25 s26 s27 s28 s29 s30 s31 s32 s33 s34 s35 s36 s37 s38 s39 s40 s41 s42 s43 s44 s45 s46 s47 s48 s49 s50 s51 s52 s53 s54 s55 s56 s57 s58 s59 s60 s61 s62 s63 s64 s65 s66 s67 s68:Value)(df:List Deferred)(w:World)(i1:(0:Int)<=(j:Int))(i2:(j:Int)<(m:Int))(hd:d<=200)(hw:wrap64 ((d:Int)+1)=(d:Int)+1)(hy1:1<=y)(hy9:y<=9000)(h1:b1<w.drew.heap.size)(hx:bx<w.drew.heap.size)(zx:w.drew.cell? ⟨bx,7,none⟩=some (.slice (some ⟨b1,o1,none⟩) m ca))(fa0:w.drew.cell? ⟨b1,o1+j*15,none⟩=some (.int .u8 k1))(fa1:w.drew.cell? ⟨b1,o1+j*15+1,none⟩=some (.string t1))(fa2:w.drew.cell? ⟨b1,o1+j*15+2,none⟩=some (.int .i64 n1))(fa3:w.drew.cell? ⟨b1,o1+j*15+3,none⟩=some (.int .i64 x1))(fa4:w.drew.cell? ⟨b1,o1+j*15+4,none⟩=some (.int .i64 l1))(fa5:w.drew.cell? ⟨b1,o1+j*15+5,none⟩=some (.int .i64 c1))(fa6:w.drew.cell? ⟨b1,o1+j*15+6,none⟩=some (.slice A1 m1 d1))(fa7:w.drew.cell? ⟨b1,o1+j*15+7,none⟩=some (.int .u8 K1))(fa8:w.drew.cell? ⟨b1,o1+j*15+8,none⟩=some (.string T1))(fa9:w.drew.cell? ⟨b1,o1+j*15+9,none⟩=some (.int .i64 N1))(fa10:w.drew.cell? ⟨b1,o1+j*15+10,none⟩=some (.int .i64 U1))(fa11:w.drew.cell? ⟨b1,o1+j*15+11,none⟩=some (.int .i64 V1))(fa12:w.drew.cell? ⟨b1,o1+j*15+12,none⟩=some (.int .i64 W1))(fa13:w.drew.cell? ⟨b1,o1+j*15+13,none⟩=some (.slice F1 M1 D1))(fa14:w.drew.cell? ⟨b1,o1+j*15+14,none⟩=some (.slice G1 R1 E1))(HP:∀ W,Bel w.drew W->Calls Tryz.prog 45 #[.agg #[.int .u8 k1,t1,n1,x1,l1,c1,.slice A1 m1 d1],.int .i64 ((d:Int)+1)] W (jE (capP (d+1)) (d+1) g W))(HX:∀ W,Bel w.drew W->Calls Tryz.prog 16 #[.agg #[.int .u8 K1,T1,N1,U1,V1,W1,.slice F1 M1 D1,.slice G1 R1 E1],.int .i64 ((d:Int)+1)] W (jE (capX (d+1)) (d+1) g2 W))(Q:Exit->Act->World->Prop)
  (hend:∀ (V:Nat->Value) (w':World),Bel w.drew w'->(∃ z z2:Int,(V 20)=.int .i64 (y+z+z2)/\ZQ (capP (d+1)) (d+1) g z/\ZQ (capX (d+1)) (d+1) g2 z2)->wpList Tryz.prog regSz.toArray Q (regSz.drop 21) (qgb bx b1 o1 m ca j d y k1 n1 x1 l1 c1 K1 N1 U1 V1 W1 t1 T1 A1 F1 G1 m1 d1 M1 D1 R1 E1 g g2 s0 s3 s4 s6 s8 s9 s10 s11 s12 s13 s14 s15 s16 s17 s18 s19 s20 s21 s22 s23 s24 s25 s26 s27 s28 s29 s30 s31 s32 s33 s34 s35 s36 s37 s38 s39 s40 s41 s42 s43 s44 s45 s46 s47 s48 s49 s50 s51 s52 s53 s54 s55 s56 s57 s58 s59 s60 s61 s62 s63 s64 s65 s66 s67 s68 df V) w') :
  (Code.region id regSz.toArray true).wp Tryz.prog Q (qhB bx b1 o1 m ca j d y k1 n1 x1 l1 c1 K1 N1 U1 V1 W1 t1 T1 A1 F1 G1 m1 d1 M1 D1 R1 E1 g g2 s0 s3 s4 s6 s8 s9 s10 s11 s12 s13 s14 s15 s16 s17 s18 s19 s20 s21 s22 s23 s24 s25 s26 s27 s28 s29 s30 s31 s32 s33 s34 s35 s36 s37 s38 s39 s40 s41 s42 s43 s44 s45 s46 s47 s48 s49 s50 s51 s52 s53 s54 s55 s56 s57 s58 s59 s60 s61 s62 s63 s64 s65 s66 s67 s68 df) w:=by
 refine jr (l:=regSz) 21 _ w (qea bx b1 o1 m ca j d y k1 n1 x1 l1 c1 K1 N1 U1 V1 W1 t1 T1 A1 F1 G1 m1 d1 M1 D1 R1 E1 g g2) (by kernel_rfl) qci qdF qau qdG (fun i v w w' hi h hb=>qaM i v w w' hi h hb) ?_ ?_
 ·intro i' o hi' ho a w1 V hbel hdep hpar K hK
  have p1:a.eval (.tmp 1)=.int .i64 (d:Int):=hpar 1 (by show 1<69;decide) (by kernel_rfl);have p1':=tD p1;have p2:a.eval (.tmp 2)=.pointer (some ⟨bx,0,none⟩):=hpar 2 (by show 2<69;decide) (by kernel_rfl);have p2':=tD p2;have p5:a.eval (.tmp 5)=.int .i64 y:=hpar 5 (by show 5<69;decide) (by kernel_rfl);have p5':=tD p5;have p7:a.eval (.tmp 7)=.int .i64 (j:Int):=hpar 7 (by show 7<69;decide) (by kernel_rfl);have p7':=tD p7;have ga0:=gX hbel h1 fa0;have ga1:=gX hbel h1 fa1;have ga2:=gX hbel h1 fa2;have ga3:=gX hbel h1 fa3;have ga4:=gX hbel h1 fa4;have ga5:=gX hbel h1 fa5;have ga6:=gX hbel h1 fa6;have ga7:=gX hbel h1 fa7;have ga8:=gX hbel h1 fa8;have ga9:=gX hbel h1 fa9;have ga10:=gX hbel h1 fa10;have ga11:=gX hbel h1 fa11;have ga12:=gX hbel h1 fa12;have ga13:=gX hbel h1 fa13;have ga14:=gX hbel h1 fa14;have zx':=gX hbel hx zx;have hw':IntKind.i64.wrap ((d:Int)+1)=(d:Int)+1:=(IntWalk.i64_left _).trans hw;match i',hi',ho,hdep,hK with
  | 0,_,ho,hdep,hK=>
   simp only[regSz,gT,gZ,gI]at ho;subst ho;exact nG rfl (wV (by simp[execOp,go_sem,p5']) hK rfl)
  | 1,_,ho,hdep,hK=>
   simp only[regSz,gT,gZ,gS,gI]at ho;subst ho;exact nG rfl (wV (by simp[execOp,go_sem,p2']) hK rfl)
  | 2,_,ho,hdep,hK=>
   simp only[regSz,gT,gZ,gS,gI]at ho;subst ho;refine nG rfl ?_;have e1':=tK (t:=48) (hdep ⟨1,.data⟩ (by simp) rfl) rfl;exact wV (by simp[execOp,go_sem,e1',zx']) hK rfl
  | 3,_,ho,hdep,hK=>
   simp only[regSz,gT,gZ,gS,gI]at ho;subst ho;exact nG rfl (wV (by simp[execOp,go_sem,p7']) hK rfl)
  | 4,_,ho,hdep,hK=>
   simp only[regSz,gT,gZ,gS,gI]at ho;subst ho;refine nG rfl ?_;have e2':=tK (t:=49) (hdep ⟨2,.data⟩ (by simp) rfl) rfl;have e3':=tK (t:=50) (hdep ⟨3,.data⟩ (by simp) rfl) rfl;exact wV (by simp[execOp,go_sem,e2',e3',i1,i2]) hK rfl
  | 5,_,ho,hdep,hK=>
   simp only[regSz,gT,gZ,gS,gI]at ho;subst ho;refine nG rfl ?_;have e4':=tK (t:=51) (hdep ⟨4,.data⟩ (by simp) rfl) rfl;exact wV (by simp[execOp,go_sem,e4']) hK rfl
  | 6,_,ho,hdep,hK=>
   simp only[regSz,gT,gZ,gS,gI]at ho;subst ho;refine nG rfl ?_;have e5':=tK (t:=52) (hdep ⟨5,.data⟩ (by simp) rfl) rfl;exact wV (by simp[execOp,go_sem,e5',ga0,ga1,ga2,ga3,ga4,ga5,ga6]) hK rfl
  | 7,_,ho,hdep,hK=>
   simp only[regSz,gT,gZ,gS,gI]at ho;subst ho;exact nG rfl (wV (by simp[execOp,go_sem,p1']) hK rfl)
  | 8,_,ho,hdep,hK=>
   simp only[regSz,gT,gZ,gS,gI]at ho;subst ho;refine nG rfl ?_;have e7':=tK (t:=54) (hdep ⟨7,.data⟩ (by simp) rfl) rfl;exact wV (by simp[execOp,go_sem,e7',hw']) hK rfl
  | 9,_,ho,hdep,hK=>
   simp only[regSz,gT,gZ,gS,gI]at ho;subst ho;refine nG rfl ?_;have e6':=tK (t:=53) (hdep ⟨6,.data⟩ (by simp) rfl) rfl;have e8':=tK (t:=55) (hdep ⟨8,.data⟩ (by simp) rfl) rfl;refine qi (f:=45) (args:=#[.agg #[.int .u8 k1,t1,n1,x1,l1,c1,.slice A1 m1 d1],.int .i64 ((d:Int)+1)]) (by simp[go_sem,e6',e8']) ((HP w1 hbel).mono ?_);rintro e w' ⟨z,rfl,q1,q2,q3,hb⟩;exact⟨_,rfl,hK _ _ hb ⟨z,rfl,q1,q2,q3⟩⟩
  | 10,_,ho,hdep,hK=>
   simp only[regSz,gT,gZ,gS,gI]at ho;subst ho;refine nG rfl ?_;have e0':=tK (t:=47) (hdep ⟨0,.data⟩ (by simp) rfl) rfl;obtain⟨f9,d9⟩:=hdep ⟨9,.data⟩ (by simp) rfl;obtain⟨z9,hv9,hq9⟩:=f9;have e9:a.eval (.tmp 56)=.int .i64 z9:=(d9 56 rfl).trans hv9;have e9':=tD e9;have hw9:IntKind.i64.wrap (y+z9)=y+z9:=(IntWalk.i64_left _).trans (IntWalk.wrap64_in _ (by have:=hq9.1;have:=hq9.2.1;unfold capP at this;omega));exact zc (v:= .int .i64 (y+z9)) (w':=w1) (by simp[execOp,go_sem,e0',e9',hw9]) (hK _ _ (Bel.refl _) ⟨z9,rfl,hq9⟩)
  | 11,_,ho,hdep,hK=>
   simp only[regSz,gT,gZ,gS,gI]at ho;subst ho;exact nG rfl (wV (by simp[execOp,go_sem,p2']) hK rfl)
  | 12,_,ho,hdep,hK=>
   simp only[regSz,gT,gZ,gS,gI]at ho;subst ho;refine nG rfl ?_;have e11':=tK (t:=58) (hdep ⟨11,.data⟩ (by simp) rfl) rfl;exact wV (by simp[execOp,go_sem,e11',zx']) hK rfl
  | 13,_,ho,hdep,hK=>
   simp only[regSz,gT,gZ,gS,gI]at ho;subst ho;exact nG rfl (wV (by simp[execOp,go_sem,p7']) hK rfl)
  | 14,_,ho,hdep,hK=>
   simp only[regSz,gT,gZ,gS,gI]at ho;subst ho;refine nG rfl ?_;have e12':=tK (t:=59) (hdep ⟨12,.data⟩ (by simp) rfl) rfl;have e13':=tK (t:=60) (hdep ⟨13,.data⟩ (by simp) rfl) rfl;exact wV (by simp[execOp,go_sem,e12',e13',i1,i2]) hK rfl
  | 15,_,ho,hdep,hK=>
   simp only[regSz,gT,gZ,gS,gI]at ho;subst ho;refine nG rfl ?_;have e14':=tK (t:=61) (hdep ⟨14,.data⟩ (by simp) rfl) rfl;exact wV (by simp[execOp,go_sem,e14']) hK rfl
  | 16,_,ho,hdep,hK=>
   simp only[regSz,gT,gZ,gS,gI]at ho;subst ho;refine nG rfl ?_;have e15':=tK (t:=62) (hdep ⟨15,.data⟩ (by simp) rfl) rfl;exact wV (by simp[execOp,go_sem,e15',ga7,ga8,ga9,ga10,ga11,ga12,ga13,ga14]) hK rfl
  | 17,_,ho,hdep,hK=>
   simp only[regSz,gT,gZ,gS,gI]at ho;subst ho;exact nG rfl (wV (by simp[execOp,go_sem,p1']) hK rfl)
  | 18,_,ho,hdep,hK=>
   simp only[regSz,gT,gZ,gS,gI]at ho;subst ho;refine nG rfl ?_;have e17':=tK (t:=64) (hdep ⟨17,.data⟩ (by simp) rfl) rfl;exact wV (by simp[execOp,go_sem,e17',hw']) hK rfl
  | 19,_,ho,hdep,hK=>
   simp only[regSz,gT,gZ,gS,gI]at ho;subst ho;refine nG rfl ?_;have e16':=tK (t:=63) (hdep ⟨16,.data⟩ (by simp) rfl) rfl;have e18':=tK (t:=65) (hdep ⟨18,.data⟩ (by simp) rfl) rfl;refine qi (f:=16) (args:=#[.agg #[.int .u8 K1,T1,N1,U1,V1,W1,.slice F1 M1 D1,.slice G1 R1 E1],.int .i64 ((d:Int)+1)]) (by simp[go_sem,e16',e18']) ((HX w1 hbel).mono ?_);rintro e w' ⟨z,rfl,q1,q2,q3,hb⟩;exact⟨_,rfl,hK _ _ hb ⟨z,rfl,q1,q2,q3⟩⟩
  | 20,_,ho,hdep,hK=>
   simp only[regSz,gT,gZ,gS,gI]at ho;subst ho;refine nG rfl ?_;obtain⟨f10,d10⟩:=hdep ⟨10,.data⟩ (by simp) rfl;obtain⟨z10,hv10,hq10⟩:=f10;have e10:a.eval (.tmp 57)=.int .i64 (y+z10):=(d10 57 rfl).trans hv10;have e10':=tD e10;obtain⟨f19,d19⟩:=hdep ⟨19,.data⟩ (by simp) rfl;obtain⟨z19,hv19,hq19⟩:=f19;have e19:a.eval (.tmp 66)=.int .i64 z19:=(d19 66 rfl).trans hv19;have e19':=tD e19;have hw20:IntKind.i64.wrap (y+z10+z19)=y+z10+z19:=(IntWalk.i64_left _).trans (IntWalk.wrap64_in _ (by have:=hq10.1;have a:=hq10.2.1;have:=hq19.1;have b:=hq19.2.1;unfold capP at a;unfold capX at b;omega));exact zc (v:= .int .i64 (y+z10+z19)) (w':=w1) (by simp[execOp,go_sem,e10',e19',hw20]) (hK _ _ (Bel.refl _) ⟨z10,z19,rfl,hq10,hq19⟩)
  | q+21,hi,_,_,_=>exact absurd hi (by omega)
 ·intro V w' hb hF
  have e:finA regSz.toArray 21 V (qhB bx b1 o1 m ca j d y k1 n1 x1 l1 c1 K1 N1 U1 V1 W1 t1 T1 A1 F1 G1 m1 d1 M1 D1 R1 E1 g g2 s0 s3 s4 s6 s8 s9 s10 s11 s12 s13 s14 s15 s16 s17 s18 s19 s20 s21 s22 s23 s24 s25 s26 s27 s28 s29 s30 s31 s32 s33 s34 s35 s36 s37 s38 s39 s40 s41 s42 s43 s44 s45 s46 s47 s48 s49 s50 s51 s52 s53 s54 s55 s56 s57 s58 s59 s60 s61 s62 s63 s64 s65 s66 s67 s68 df)=qgb bx b1 o1 m ca j d y k1 n1 x1 l1 c1 K1 N1 U1 V1 W1 t1 T1 A1 F1 G1 m1 d1 M1 D1 R1 E1 g g2 s0 s3 s4 s6 s8 s9 s10 s11 s12 s13 s14 s15 s16 s17 s18 s19 s20 s21 s22 s23 s24 s25 s26 s27 s28 s29 s30 s31 s32 s33 s34 s35 s36 s37 s38 s39 s40 s41 s42 s43 s44 s45 s46 s47 s48 s49 s50 s51 s52 s53 s54 s55 s56 s57 s58 s59 s60 s61 s62 s63 s64 s65 s66 s67 s68 df V:=by kernel_rfl
  rw[e];exact hend V w' hb (hF 20 (by omega))
end Go.Proofs.YtfpoelklhekfaaaGreatDoor.Mu
namespace Go.Proofs.YtfpoelklhekfaaaGreatDoor.Mu
set_option maxHeartbeats 8000000
open Go Go.RowKit
attribute [local go_sem] Oper.semAt_some
set_option linter.unusedVariables false
set_option maxRecDepth 100000
theorem qfx{d t W W' Dp Dp' m0 q:Nat}{z z1 z2:Int}{g h:Tr}(hd:d<=200)(h1:1<=z/\z<=capX d/\(z<=9000->z=((1+t+q+W:Nat):Int)/\1+max m0 Dp+d<=201))(hz:z<=9000)(p:ZQ (capP (d+1)) (d+1) g z1)(r:ZQ (capX (d+1)) (d+1) h z2)(hW:W'=W+(g.wt+h.wt))(hD:Dp'=max Dp (max g.depth h.depth)) :
  1<=z+z1+z2/\z+z1+z2<=capX d/\(z+z1+z2<=9000->z+z1+z2=((1+t+q+W':Nat):Int)/\1+max m0 Dp'+d<=201):=by
 obtain⟨p1,p2,p3⟩:=p;obtain⟨r1,r2,r3⟩:=r;obtain⟨g1,g2,g3⟩:=h1;unfold capP at p2;unfold capX at r2 ⊢;refine⟨by omega,by omega,fun h9=>?_⟩;obtain⟨a1,a2⟩:=g3 hz;obtain⟨b1,b2⟩:=p3 (by omega);obtain⟨c1,c2⟩:=r3 (by omega);clear p2 r2 g2 g3 p3 r3;subst hW hD;exact⟨by omega,by omega⟩
theorem qaD(N:Nat):∀ (d:Nat) (k:Int) (s:List UInt8) (n:Int) (p:Pl) (A:Option Addr) (len cap:Nat) (kids:Tr) (B:Option Addr) (bl bc:Nat) (arms:Tr) (w:World),kids.size+arms.size=N->KidsTr w (OldT w) .ex A len cap kids->KidsTr w (OldT w) .arms B bl bc arms->d<=201->s.length<=140737488355328->kids.len<=140737488355328->arms.len<=140737488355328->kids.fit->arms.fit →
  Calls Tryz.prog 16 #[.agg #[.int .u8 k,.string ⟨s.toArray⟩,n,p.a,p.l,p.c,.slice A len cap,.slice B bl bc],(d:Int)] w (jE (capX d) d (.nod k s n p kids arms .nil) w):=by
 induction N using Nat.strongRecOn with
 | _ N ih=>
  intro d k s n p A len cap kids B bl bc arms w hN h hA hd hs hkl hal hft hfa;have H:=hid h;have HA:=hid hA;have IH:=hid ih;have HL:Hid (len=kids.len):=hid h.1;have HM:Hid (bl=arms.len):=hid hA.1;have HN:=hid hN;have HF:=hid hft;have HFA:=hid hfa;have hlen:len<=140737488355328:=by have:=h.1;omega
  have hbl:bl<=140737488355328:=by have:=hA.1;omega
  obtain⟨S,hS⟩:∃ S:ByteArray,S=⟨s.toArray⟩:=⟨_,rfl⟩
  have hsz:S.size=s.length:=by rw[hS];simp[ByteArray.size]
  rw[<- hS];clear h hA ih hN hft hfa hS hkl hal;by_cases dd:200<d
  case pos=>
   have d1:(200:Int)<(d:Int):=by omega
   go_enter Tryz.func16,Tryz.ntmps16
   go_wp2_with fail
   go_ret
   refine⟨9001,rfl,by decide,?_,fun h=>absurd h (by decide),?_⟩
   ·unfold capX;omega
   ·repeat (first | exact Bel.refl _ | apply Bel.alloc | apply Bel.drew)
  have d1:¬ (200:Int)<(d:Int):=by omega
  have d2:(d:Int)<=200:=by omega
  have HD2:Hid (d<=200):=hid (by omega);obtain⟨t,ht⟩:∃ t:Nat,t=s.length / 64:=⟨_,rfl⟩
  have htl:t<=2199023255552:=by omega
  have hq:wrap64 (1+wrap64 ((s.length:Int) / 64))=((1+t:Nat):Int):=by
   have e1:(s.length:Int) / 64=(t:Int):=by omega
   rw[e1,IntWalk.wrap64_in (t:Int) (by omega),IntWalk.wrap64_in _ (by omega)];omega
  have HT:=hid ht;clear ht hs;go_enter Tryz.func16,Tryz.ntmps16
  go_wp2_with fail
  try rw[hq]
  clear hq;have q1:=blk1 w (.cells #[.int .u8 k,S,n,p.a,p.l,p.c,.slice A len cap,.slice B bl bc] 43);have hb1:Bel w (w.alloc (.cells #[.int .u8 k,S,n,p.a,p.l,p.c,.slice A len cap,.slice B bl bc] 43)):=(Bel.refl w).alloc _;have hs1:(w.alloc (.cells #[.int .u8 k,S,n,p.a,p.l,p.c,.slice A len cap,.slice B bl bc] 43)).heap.size=w.heap.size+1:=by simp
  obtain⟨w1,hw1⟩:∃ w1,w1=w.alloc (.cells #[.int .u8 k,S,n,p.a,p.l,p.c,.slice A len cap,.slice B bl bc] 43):=⟨_,rfl⟩
  rw[<- hw1]at q1 hb1 hs1 ⊢;have HQ:=hid q1;have HB1:=hid hb1;have HS1:=hid hs1;clear q1 hb1 hs1 hw1 hsz;go_loopw [5,6] (fun s i wr=>∃ (j:Nat) (z:Int),j<=len/\i=.int .i64 (j:Int)/\s=.int .i64 z/\Hid (1<=z/\z<=9000+capX (d+1)/\(z<=9000->z=((1+t+kids.wtU j:Nat):Int)/\1+kids.depU j+d<=201))/\Hid (Bel w1 wr)) (fun _ i _=>len-(intOf i).toNat)
  case atStart=>exact⟨0,_,Nat.zero_le _,rfl,rfl,hid ⟨by omega,by unfold capX;omega,fun _=>by rw[Tr.wtU_zero,Tr.depU_zero];exact⟨rfl,by omega⟩⟩,hid (Bel.refl _)⟩
  case round=>
   obtain⟨j,z,hj,rfl,rfl,HI,HB⟩:=hrel;have hbx:=(HB.out.block w.heap.size (by have:=HS1.out;omega)).trans HQ.out;obtain⟨x6,x7⟩:=qfM hbx;clear hbx;by_cases hgo:j<len/\z<=9000
   ·obtain⟨hlt,hz⟩:=hgo
    have hkr:KidsTr wr (OldT w) .ex A len cap kids:=H.out.keep fun i hi=>(HB.out.block i (Nat.lt_of_lt_of_le hi HB1.out.size)).trans (HB1.out.block i hi);obtain⟨ub,uo,eA,hob,hfo⟩:=hkr.2.2 (by omega);subst eA;obtain⟨k',s',n',p',kids',ar',en,hd',⟨A',cap',e5,hcp',hk'⟩,har',_⟩:=TrAt.nod_at (by intro e;cases e) kids j ub uo hfo (by rw[<- HL.out];exact hlt);obtain⟨_,B',bc',e6,hbp',hb'⟩:Sh.ex=.ex/\∃ A cap,wr.cell? ⟨ub,uo+j*Sh.sz .ex+7,none⟩=some (.slice A ar'.len cap)/\ar'.len<=cap/\(0<ar'.len->∃ b' o',A=some ⟨b',o',none⟩/\OldT w b'/\TrAt wr (OldT w) ar' .arms b' o'):=by
     rcases har' with e | ⟨e | e,_⟩
     ·exact e
     ·cases e
     ·cases e
    obtain⟨e0,e1,e2,f1,f2,f3⟩:=hd';have hsn:=Tr.nth_size kids j;have hft':=Tr.nth_fit kids j HF.out;rw[en]at hsn hft';simp only[Tr.size]at hsn;obtain⟨hs',hkl',hal',hfk',hfa',_⟩:=hft';have hOld:∀ i,OldT w i->OldT wr i:=fun i hi=>Nat.lt_of_lt_of_le hi (Nat.le_trans HB1.out.size HB.out.size);have hK':KidsTr wr (OldT w) .ex A' kids'.len cap' kids':=⟨rfl,hcp',hk'⟩
    have hR':KidsTr wr (OldT w) .arms B' ar'.len bc' ar':=⟨rfl,hbp',hb'⟩
    obtain⟨g,hg⟩:∃ g,g=Tr.nod k' s' n' p' kids' ar' .nil:=⟨_,rfl⟩
    have HU:Hid (kids.wtU (j+1)=kids.wtU j+g.wt/\kids.depU (j+1)=max (kids.depU j) g.depth):=hid (by
     rw[Tr.wtU_succ kids j (by rw[<- HL.out];exact hlt),Tr.depU_succ kids j (by rw[<- HL.out];exact hlt),en,hg];exact⟨rfl,rfl⟩)
    have HC:Hid (Calls Tryz.prog 16 #[.agg #[.int .u8 k',.string ⟨s'.toArray⟩,n',p'.a,p'.l,p'.c,.slice A' kids'.len cap',.slice B' ar'.len bc'],.int .i64 ((d:Int)+1)] wr (jE (capX (d+1)) (d+1) g wr)):=hid (by
     rw[hg];exact IH.out (kids'.size+ar'.size) (by have:=HN.out;omega) (d+1) k' s' n' p' A' kids'.len cap' kids' B' ar'.len bc' ar' wr rfl (hK'.wide hOld) (hR'.wide hOld) (by omega) hs' hkl' hal' hfk' hfa')
    obtain⟨l1,hl1⟩:∃ l,l=kids'.len:=⟨_,rfl⟩
    obtain⟨l3,hl3⟩:∃ l,l=ar'.len:=⟨_,rfl⟩
    rw[<- hl1,<- hl3]at HC;rw[<- hl1]at e5;rw[<- hl3]at e6;have i1:(0:Int)<=(j:Int):=by omega
    have i2:(j:Int)<(len:Int):=by omega
    have HLT:=hid hlt;have hw:wrap64 ((d:Int)+1)=(d:Int)+1:=IntWalk.wrap64_in _ (by omega);simp only[Sh.sz,Sh.kd]at e0 e1 e2 e5 e6 f1 f2 f3;clear hkr hfo en hk' hK' hR' hb' hbp' hsn hg hl1 hl3 har' hcp' hOld hob hs' hkl' hal' hfk' hfa';go_wp2_with fail
    refine HC.out.mono ?_;rintro e w2 ⟨z',rfl,hz1,hz2,hz3,hb2⟩;have HB2:=hid (HB.out.on hb2);obtain⟨g1,g2,g3⟩:=HI.out;have hw2:wrap64 (z+z')=z+z':=IntWalk.wrap64_in _ (by unfold capX at *;omega);have HZ':Hid (1<=z+z'/\z+z'<=9000+capX (d+1)/\(z+z'<=9000->z+z'=((1+t+kids.wtU (j+1):Nat):Int)/\1+kids.depU (j+1)+d<=201)):=hid (by
     refine⟨by omega,by omega,fun h9=>?_⟩;obtain⟨a1,a2⟩:=g3 (by omega);obtain⟨b1,b2⟩:=hz3 (by omega);rw[HU.out.1,HU.out.2];exact⟨by omega,by omega⟩)
    clear hb2 e0 e1 e2 e5 e6 f1 f2 f3 x6 x7 hz1 hz2 hz3 g1 g2 g3;go_wp2_with fail
    go_roundw
    case rel=>exact⟨j+1,z+z',HLT.out,by go_num,by first | rfl | rw[hw2],HZ',HB2⟩
    case measure=>have:=HLT.out;simp[intOf];omega
   ·have HI2:Hid (1<=z/\z<=9000+capX (d+1)/\(z<=9000->z=((1+t+kids.wt:Nat):Int)/\1+kids.depth+d<=201)):=hid (by
     obtain⟨g1,g2,g3⟩:=HI.out;refine⟨g1,g2,fun h9=>?_⟩;have hj':j=len:=by
      by_cases hlt:j<len
      ·exact absurd ⟨hlt,h9⟩ hgo
      ·omega
     obtain⟨a1,a2⟩:=g3 h9;rw[hj',HL.out,Tr.wtU_all]at a1;rw[hj',HL.out,Tr.depU_all]at a2;exact⟨a1,a2⟩)
    clear HI;by_cases hlt:j<len
    case' pos=>
     have hz9:9000<z:=by
      by_cases h9:z<=9000
      ·exact absurd ⟨hlt,h9⟩ hgo
      ·omega
    case' neg=>
     have hz9:¬ (j<len):=hlt
    all_goals
     clear hgo;go_wp2_with fail
     go_loopw [5,7] (fun s i wr=>∃ (j:Nat) (z:Int),j<=bl/\i=.int .i64 (j:Int)/\s=.int .i64 z/\Hid (1<=z/\z<=capX d/\(z<=9000->z=((1+t+kids.wt+arms.wtU j:Nat):Int)/\1+max kids.depth (arms.depU j)+d<=201))/\Hid (Bel w1 wr)) (fun _ i _=>bl-(intOf i).toNat)
     case atStart=>exact⟨0,z,Nat.zero_le _,rfl,rfl,hid ⟨HI2.out.1,by have:=HI2.out.2.1;unfold capX at *;omega,fun h9=>by rw[Tr.wtU_zero,Tr.depU_zero,Nat.max_eq_left (Nat.zero_le _)];exact HI2.out.2.2 h9⟩,HB⟩
     case round=>
      obtain⟨j,z,hj2,rfl,rfl,HI,HBs⟩:=hrel;clear hj HB x6 x7 hlt hz9 HI2;have hbx:=(HBs.out.block w.heap.size (by have:=HS1.out;omega)).trans HQ.out;obtain⟨x6,x7⟩:=qfM hbx;clear hbx;by_cases hgo:j<bl/\z<=9000
      ·obtain⟨hlt,hz⟩:=hgo
       have hkr:KidsTr wr (OldT w) .arms B bl bc arms:=HA.out.keep fun i hi=>(HBs.out.block i (Nat.lt_of_lt_of_le hi HB1.out.size)).trans (HB1.out.block i hi);obtain⟨ub,uo,eA,hob,hfo⟩:=hkr.2.2 (by omega);subst eA;obtain⟨k',s',n',p',kids',f',en,_,hd',⟨A',cap',a6,hcp',hk'⟩,hone,hex,_⟩:=TrAt.arm_at arms j ub uo hfo (by rw[<- HM.out];exact hlt);obtain⟨K',S',N',P',kx',ax',rfl⟩:=Tr.single (by intro e;cases e) f' hone hex;obtain⟨hD',⟨F',D',a13,hcx',hkx'⟩,hax',_⟩:=hex;obtain⟨_,B',E',a14,hbp',hb'⟩:Sh.ex=.ex/\∃ A cap,wr.cell? ⟨ub,uo+j*15+7+7,none⟩=some (.slice A ax'.len cap)/\ax'.len<=cap/\(0<ax'.len->∃ b' o',A=some ⟨b',o',none⟩/\OldT w b'/\TrAt wr (OldT w) ax' .arms b' o'):=by
        rcases hax' with e | ⟨e | e,_⟩
        ·exact e
        ·cases e
        ·cases e
       obtain⟨a0,a1,a2,a3,a4,a5⟩:=hd';obtain⟨a7,a8,a9,a10,a11,a12⟩:=hD';have hsn:=Tr.nth_size arms j;have hft':=Tr.nth_fit arms j HFA.out;rw[en]at hsn hft';simp only[Tr.size]at hsn;obtain⟨hs',hkl',hfk',⟨hS',hKl',hAl',hfx',hfa',_⟩,_⟩:=hft';have hOld:∀ i,OldT w i->OldT wr i:=fun i hi=>Nat.lt_of_lt_of_le hi (Nat.le_trans HB1.out.size HBs.out.size);have hK':KidsTr wr (OldT w) .pat A' kids'.len cap' kids':=⟨rfl,hcp',hk'⟩
       have hX':KidsTr wr (OldT w) .ex F' kx'.len D' kx':=⟨rfl,hcx',hkx'⟩
       have hR':KidsTr wr (OldT w) .arms B' ax'.len E' ax':=⟨rfl,hbp',hb'⟩
       obtain⟨g,hg⟩:∃ g,g=Tr.nod k' s' n' p' kids' .nil .nil:=⟨_,rfl⟩
       obtain⟨h,hh⟩:∃ h,h=Tr.nod K' S' N' P' kx' ax' .nil:=⟨_,rfl⟩
       have HU:Hid (arms.wtU (j+1)=arms.wtU j+(g.wt+h.wt)/\arms.depU (j+1)=max (arms.depU j) (max g.depth h.depth)):=hid (by
        rw[Tr.wtU_succ arms j (by rw[<- HM.out];exact hlt),Tr.depU_succ arms j (by rw[<- HM.out];exact hlt),en,hg,hh];simp only[Tr.wt,Tr.depth];exact⟨by omega,by omega⟩)
       have hd1:((d+1:Nat):Int)=(d:Int)+1:=by omega
       have HP:∀ W,Bel wr.drew W->Calls Tryz.prog 45 #[.agg #[.int .u8 k',.string ⟨s'.toArray⟩,n',p'.a,p'.l,p'.c,.slice A' kids'.len cap'],.int .i64 ((d:Int)+1)] W (jE (capP (d+1)) (d+1) g W):=fun W hW=>by
        have hW':Bel wr W:=(Bel.refl wr).drew.on hW;rw[hg,<- hd1];exact JU kids'.size (d+1) k' s' n' p' A' kids'.len cap' kids' W rfl ((hK'.wide hOld).bel hW') (by omega) hs' hkl' hfk'
       have HX:∀ W,Bel wr.drew W->Calls Tryz.prog 16 #[.agg #[.int .u8 K',.string ⟨S'.toArray⟩,N',P'.a,P'.l,P'.c,.slice F' kx'.len D',.slice B' ax'.len E'],.int .i64 ((d:Int)+1)] W (jE (capX (d+1)) (d+1) h W):=fun W hW=>by
        have hn:=HN.out;have hW':Bel wr W:=(Bel.refl wr).drew.on hW;rw[hh,<- hd1];exact IH.out (kx'.size+ax'.size) (by omega) (d+1) K' S' N' P' F' kx'.len D' kx' B' ax'.len E' ax' W rfl ((hX'.wide hOld).bel hW') ((hR'.wide hOld).bel hW') (by omega) hS' hKl' hAl' hfx' hfa'
       obtain⟨l1,hl1⟩:∃ l,l=kids'.len:=⟨_,rfl⟩
       obtain⟨l2,hl2⟩:∃ l,l=kx'.len:=⟨_,rfl⟩
       obtain⟨l3,hl3⟩:∃ l,l=ax'.len:=⟨_,rfl⟩
       rw[<- hl1]at a6 HP;rw[<- hl2]at a13;rw[<- hl3]at a14;rw[<- hl2,<- hl3]at HX;have i1:(0:Int)<=(j:Int):=by omega
       have i2:(j:Int)<(bl:Int):=by omega
       have kb1:ub<wr.heap.size:=hOld _ hob;have kb3:w.heap.size<wr.heap.size:=by have:=HS1.out;have:=HBs.out.size;omega
       have HLT:=hid hlt;have hw:wrap64 ((d:Int)+1)=(d:Int)+1:=IntWalk.wrap64_in _ (by omega);simp only[Sh.kd]at a9;clear hkr hfo en hk' hK' hX' hR' hb' hkx' hsn hg hh hl1 hl2 hl3 hOld hob hcp' hcx' hbp' hax' hone hs' hkl' hfk' hS' hKl' hAl' hfx' hfa' hd1;go_wp2_with fail
       refine qdE w.heap.size ub uo bl bc j d z k' n' p'.a p'.l p'.c K' N' P'.a P'.l P'.c ⟨s'.toArray⟩ ⟨S'.toArray⟩ A' F' B' l1 cap' l2 D' l3 E' g h _ _ _ _ _ _ _ _ _ _ _ _ _ _ _ _ _ _ _ _ _ _ _ _ _ _ _ _ _ _ _ _ _ _ _ _ _ _ _ _ _ _ _ _ _ _ _ _ _ _ _ _ _ _ _ _ _ _ _ _ _ _ _ _ _ _ wr i1 i2 HD2.out hw HI.out.1 hz kb1 kb3 x7 a0 a1 a2 a3 a4 a5 a6 a7 a8 a9 a10 a11 a12 a13 a14 HP HX _ ?_;rintro V w4 hb4 ⟨z1,z2,hv,HPQ,HRQ⟩;simp only[regSz,List.drop_succ_cons,List.drop_zero,qgb,hv];have HB4:=hid (HBs.out.drew.on hb4);have HZ':Hid (1<=z+z1+z2/\z+z1+z2<=capX d/\(z+z1+z2<=9000->z+z1+z2=((1+t+kids.wt+arms.wtU (j+1):Nat):Int)/\1+max kids.depth (arms.depU (j+1))+d<=201)):=hid (qfx HD2.out HI.out hz HPQ HRQ HU.out.1 HU.out.2);clear hb4 hv HPQ HRQ x6 x7 a0 a1 a2 a3 a4 a5 a6 a7 a8 a9 a10 a11 a12 a13 a14 HP HX;go_wp2_with fail
       go_roundw
       case rel=>exact⟨j+1,z+z1+z2,HLT.out,by go_num,rfl,HZ',HB4⟩
       case measure=>have:=HLT.out;simp[intOf];omega
      ·obtain⟨g1,g2,g3⟩:=HI.out
       have HF2:Hid (jE (capX d) d (.nod k s n p kids arms .nil) w (.returned (.int .i64 z)) wr):=hid ⟨z,rfl,g1,g2,fun h9=>by
        have hj':j=bl:=by
         by_cases hlt:j<bl
         ·exact absurd ⟨hlt,h9⟩ hgo
         ·omega
        obtain⟨a1,a2⟩:=g3 h9;rw[hj',HM.out,Tr.wtU_all]at a1;rw[hj',HM.out,Tr.depU_all]at a2;simp only[Tr.wt,Tr.depth];have:=HT.out;exact⟨by omega,by omega⟩,HB1.out.on HBs.out⟩
       clear g1 g2 g3;by_cases hlt:j<bl
       ·have hz9:9000<z:=by
         by_cases h9:z<=9000
         ·exact absurd ⟨hlt,h9⟩ hgo
         ·omega
        clear hgo;go_wp2_with fail
        go_ret
        exact HF2.out
       ·clear hgo
        go_wp2_with fail
        go_ret
        exact HF2.out
end Go.Proofs.YtfpoelklhekfaaaGreatDoor.Mu
namespace Go.Proofs.YtfpoelklhekfaaaGreatDoor.Mu
set_option maxHeartbeats 1000000
open Go Go.RowKit Go.Shelf
attribute [local go_sem] Oper.semAt_some
set_option linter.unusedVariables false
def regSd:List Oper:=[
 ⟨some 14,.move (.tmp 3),3,"ref.go:405",#[],none⟩,
 ⟨some 15,.binOp .add 3 (.tmp 14) (.const (Value.int IntKind.i64 1)) 3,3,"ref.go:405",#[⟨0,.data⟩],none⟩,
 ⟨some 16,.move (.tmp 0),22,"ref.go:405",#[],none⟩,
 ⟨some 17,.move (.tmp 4),3,"ref.go:405",#[],none⟩,
 ⟨some 18,.indexAddr 22 (.tmp 16) (.tmp 17),0,"ref.go:405",#[⟨2,.data⟩,⟨3,.data⟩],none⟩,
 ⟨some 19,.fieldAddr 59 (.tmp 18) 1,0,"ref.go:405",#[⟨4,.data⟩],none⟩,
 ⟨some 20,.load 9 (.tmp 19),9,"ref.go:405",#[⟨5,.data⟩],none⟩,
 ⟨some 21,.call ⟨.builtin Builtin.len,#[.tmp 20],#[9]⟩,3,"ref.go:405",#[⟨6,.data⟩],none⟩,
 ⟨some 22,.binOp .quo 3 (.tmp 21) (.const (Value.int IntKind.i64 64)) 3,3,"ref.go:405",#[⟨7,.data⟩],none⟩,
 ⟨some 23,.binOp .add 3 (.tmp 15) (.tmp 22) 3,3,"ref.go:405",#[⟨1,.data⟩,⟨8,.data⟩],none⟩,
 ⟨some 24,.move (.tmp 0),22,"ref.go:405",#[],none⟩,
 ⟨some 25,.move (.tmp 4),3,"ref.go:405",#[],none⟩,
 ⟨some 26,.indexAddr 22 (.tmp 24) (.tmp 25),0,"ref.go:405",#[⟨10,.data⟩,⟨11,.data⟩],none⟩,
 ⟨some 27,.fieldAddr 59 (.tmp 26) 3,0,"ref.go:405",#[⟨12,.data⟩],none⟩,
 ⟨some 28,.load 51 (.tmp 27),51,"ref.go:405",#[⟨13,.data⟩],none⟩,
 ⟨some 29,.call ⟨.builtin Builtin.len,#[.tmp 28],#[51]⟩,3,"ref.go:405",#[⟨14,.data⟩],none⟩,
 ⟨some 30,.binOp .add 3 (.tmp 23) (.tmp 29) 3,3,"ref.go:405",#[⟨9,.data⟩,⟨15,.data⟩],none⟩,
 ⟨some 31,.move (.tmp 0),22,"ref.go:405",#[],none⟩,
 ⟨some 32,.move (.tmp 4),3,"ref.go:405",#[],none⟩,
 ⟨some 33,.indexAddr 22 (.tmp 31) (.tmp 32),0,"ref.go:405",#[⟨17,.data⟩,⟨18,.data⟩],none⟩,
 ⟨some 34,.fieldAddr 59 (.tmp 33) 6,0,"ref.go:405",#[⟨19,.data⟩],none⟩,
 ⟨some 35,.load 43 (.tmp 34),43,"ref.go:405",#[⟨20,.data⟩],none⟩,
 ⟨some 36,.call ⟨.value (.func 16),#[.tmp 35,.const (Value.int IntKind.i64 0)],#[43,3]⟩,3,"ref.go:405",#[⟨21,.data⟩],none⟩,
 ⟨some 37,.binOp .add 3 (.tmp 30) (.tmp 36) 3,3,"ref.go:405",#[⟨16,.data⟩,⟨22,.data⟩],none⟩,
 ⟨some 3,.assign (.tmp 37),3,"ref.go:405",#[⟨23,.data⟩,⟨22,.chain⟩,⟨0,.phase⟩,⟨1,.phase⟩,⟨2,.phase⟩,⟨3,.phase⟩,⟨4,.phase⟩,⟨5,.phase⟩,⟨6,.phase⟩,⟨7,.phase⟩,⟨8,.phase⟩,⟨9,.phase⟩,⟨10,.phase⟩,⟨11,.phase⟩,⟨12,.phase⟩,⟨13,.phase⟩,⟨14,.phase⟩,⟨15,.phase⟩,⟨16,.phase⟩,⟨17,.phase⟩,⟨18,.phase⟩,⟨19,.phase⟩,⟨20,.phase⟩,⟨21,.phase⟩,⟨22,.phase⟩,⟨23,.phase⟩],none⟩]
def qd9(b1 o1 m ca j u pl pc:Nat)(y:Int)(K1 N1 U1 V1 W1:Int)(t1 T1:ByteArray)(PA F1 G1:Option Addr)(M1 D1 R1 E1:Nat)(g2:Tr)(i:Nat)(v:Value)(w:World):Prop:=
 match i with
 | 0=>v=.int .i64 y
 | 1=>v=.int .i64 (y+1)
 | 2=>v=.slice (some ⟨b1,o1,none⟩) m ca
 | 3=>v=.int .i64 (j:Int)
 | 4=>v=.pointer (some ⟨b1,o1+j*16,none⟩)
 | 5=>v=.pointer (some ⟨b1,o1+j*16+1,none⟩)
 | 6=>v=.string t1
 | 7=>v=.int .i64 ((t1.size:Nat):Int)
 | 8=>v=.int .i64 (u:Int)
 | 9=>v=.int .i64 (y+1+(u:Int))
 | 10=>v=.slice (some ⟨b1,o1,none⟩) m ca
 | 11=>v=.int .i64 (j:Int)
 | 12=>v=.pointer (some ⟨b1,o1+j*16,none⟩)
 | 13=>v=.pointer (some ⟨b1,o1+j*16+5,none⟩)
 | 14=>v=.slice PA pl pc
 | 15=>v=.int .i64 (pl:Int)
 | 16=>v=.int .i64 (y+1+(u:Int)+(pl:Int))
 | 17=>v=.slice (some ⟨b1,o1,none⟩) m ca
 | 18=>v=.int .i64 (j:Int)
 | 19=>v=.pointer (some ⟨b1,o1+j*16,none⟩)
 | 20=>v=.pointer (some ⟨b1,o1+j*16+8,none⟩)
 | 21=>v=.agg #[.int .u8 K1,T1,N1,U1,V1,W1,.slice F1 M1 D1,.slice G1 R1 E1]
 | 22=>∃ z:Int,v=.int .i64 z/\ZQ (capX 0) 0 g2 z
 | 23=>∃ z:Int,v=.int .i64 (y+1+(u:Int)+(pl:Int)+z)/\ZQ (capX 0) 0 g2 z
 | _=>True
theorem qaL{b1 o1 m ca j u pl pc:Nat}{y:Int}{K1 N1 U1 V1 W1:Int}{t1 T1:ByteArray}{PA F1 G1:Option Addr}{M1 D1 R1 E1:Nat}{g2:Tr}(i:Nat)(v:Value)(w w':World)(hi:i<24)(h:qd9 b1 o1 m ca j u pl pc y K1 N1 U1 V1 W1 t1 T1 PA F1 G1 M1 D1 R1 E1 g2 i v w)(hb:Bel w w'):qd9 b1 o1 m ca j u pl pc y K1 N1 U1 V1 W1 t1 T1 PA F1 G1 M1 D1 R1 E1 g2 i v w':=by
 match i,hi,h with
 | 0,_,h | 1,_,h | 2,_,h | 3,_,h | 4,_,h | 5,_,h | 6,_,h | 7,_,h | 8,_,h | 9,_,h | 10,_,h | 11,_,h | 12,_,h | 13,_,h | 14,_,h | 15,_,h | 16,_,h | 17,_,h | 18,_,h | 19,_,h | 20,_,h | 21,_,h | 22,_,h | 23,_,h=>exact h
 | q+24,hi,_=>exact absurd hi (by omega)
def qhA(b1 o1 m ca j u pl pc:Nat)(y:Int)(K1 N1 U1 V1 W1:Int)(t1 T1:ByteArray)(PA F1 G1:Option Addr)(M1 D1 R1 E1:Nat)(g2:Tr)(s1 s2 s5 s6 s7 s8 s9 s10 s11 s12 s13 s14 s15 s16 s17 s18 s19 s20 s21 s22 s23 s24 s25 s26 s27 s28 s29 s30 s31 s32 s33 s34 s35 s36 s37 s38 s39 s40 s41 s42 s43 s44 s45 s46 s47 s48 s49 s50 s51 s52 s53 s54 s55 s56 s57 s58 s59 s60 s61 s62 s63 s64 s65 s66 s67 s68 s69 s70 s71 s72 s73 s74 s75 s76 s77 s78 s79 s80 s81 s82 s83 s84 s85 s86 s87 s88 s89 s90 s91 s92 s93 s94 s95 s96 s97 s98 s99 s100 s101 s102 s103 s104 s105 s106 s107 s108 s109 s110 s111 s112 s113 s114 s115 s116 s117:Value)(df:List Deferred):Act:={ tmps:=#[.slice (some ⟨b1,o1,none⟩) m ca,s1,s2,.int .i64 y,.int .i64 (j:Int),s5,s6,s7,s8,s9,s10,s11,s12,s13,s14,s15,s16,s17,s18,s19,s20,s21,s22,s23,s24,s25,s26,s27,s28,s29,s30,s31,s32,s33,s34,s35,s36,s37,s38,s39,s40,s41,s42,s43,s44,s45,s46,s47,s48,s49,s50,s51,s52,s53,s54,s55,s56,s57,s58,s59,s60,s61,s62,s63,s64,s65,s66,s67,s68,s69,s70,s71,s72,s73,s74,s75,s76,s77,s78,s79,s80,s81,s82,s83,s84,s85,s86,s87,s88,s89,s90,s91,s92,s93,s94,s95,s96,s97,s98,s99,s100,s101,s102,s103,s104,s105,s106,s107,s108,s109,s110,s111,s112,s113,s114,s115,s116,s117],defers:=df }
def qga(b1 o1 m ca j u pl pc:Nat)(y:Int)(K1 N1 U1 V1 W1:Int)(t1 T1:ByteArray)(PA F1 G1:Option Addr)(M1 D1 R1 E1:Nat)(g2:Tr)(s1 s2 s5 s6 s7 s8 s9 s10 s11 s12 s13 s14 s15 s16 s17 s18 s19 s20 s21 s22 s23 s24 s25 s26 s27 s28 s29 s30 s31 s32 s33 s34 s35 s36 s37 s38 s39 s40 s41 s42 s43 s44 s45 s46 s47 s48 s49 s50 s51 s52 s53 s54 s55 s56 s57 s58 s59 s60 s61 s62 s63 s64 s65 s66 s67 s68 s69 s70 s71 s72 s73 s74 s75 s76 s77 s78 s79 s80 s81 s82 s83 s84 s85 s86 s87 s88 s89 s90 s91 s92 s93 s94 s95 s96 s97 s98 s99 s100 s101 s102 s103 s104 s105 s106 s107 s108 s109 s110 s111 s112 s113 s114 s115 s116 s117:Value)(df:List Deferred)(V:Nat->Value):Act:={ tmps:=#[.slice (some ⟨b1,o1,none⟩) m ca,s1,s2,.int .i64 y,.int .i64 (j:Int),s5,s6,s7,s8,s9,s10,s11,s12,s13,V 0,V 1,V 2,V 3,V 4,V 5,V 6,V 7,V 8,V 9,V 10,V 11,V 12,V 13,V 14,V 15,V 16,V 17,V 18,V 19,V 20,V 21,V 22,V 23,s38,s39,s40,s41,s42,s43,s44,s45,s46,s47,s48,s49,s50,s51,s52,s53,s54,s55,s56,s57,s58,s59,s60,s61,s62,s63,s64,s65,s66,s67,s68,s69,s70,s71,s72,s73,s74,s75,s76,s77,s78,s79,s80,s81,s82,s83,s84,s85,s86,s87,s88,s89,s90,s91,s92,s93,s94,s95,s96,s97,s98,s99,s100,s101,s102,s103,s104,s105,s106,s107,s108,s109,s110,s111,s112,s113,s114,s115,s116,s117],defers:=df }
theorem qch:zC .any regSd.toArray 24=true:=by kernel_rfl
theorem qdC:fwdB regSd.toArray 24=true:=by kernel_rfl
theorem qat:qN regSd.toArray 118=true:=by kernel_rfl
theorem qdD:Region.seqB .any regSd.toArray (regSd.length-24) 24 (Array.replicate 24 true++Array.replicate (regSd.length-24) false)=true:=by kernel_rfl
set_option maxRecDepth 100000 in
theorem qdB{id:Nat}(b1 o1 m ca j u pl pc:Nat)(y:Int)(K1 N1 U1 V1 W1:Int)(t1 T1:ByteArray)(PA F1 G1:Option Addr)(M1 D1 R1 E1:Nat)(g2:Tr)(s1 s2 s5 s6 s7 s8 s9 s10 s11 s12 s13 s14 s15 s16 s17 s18 s19 s20 s21 s22 s23 s24 s25 s26 s27 s28 s29 s30 s31 s32 s33 s34 s35 s36 s37 s38 s39 s40 s41 s42 s43 s44 s45 s46 s47 s48 s49 s50 s51 s52 s53 s54 s55 s56 s57 s58 s59 s60 s61 s62 s63 s64 s65 s66 s67 s68 s69 s70 s71 s72 s73 s74 s75 s76 s77 s78 s79 s80 s81 s82 s83 s84 s85 s86 s87 s88 s89 s90 s91 s92 s93 s94 s95 s96 s97 s98 s99 s100 s101 s102 s103 s104 s105 s106 s107 s108 s109 s110 s111 s112 s113 s114 s115 s116 s117:Value)(df:List Deferred)(w:World)(i1:(0:Int)<=(j:Int))(i2:(j:Int)<(m:Int))(hy1:0<=y)(hy9:y<=9000)(hu:t1.size / 64=u)(hu2:u<=17179869184)(hpl:pl<=1048576)(h1:b1<w.drew.heap.size)(fa1:w.drew.cell? ⟨b1,o1+j*16+1,none⟩=some (.string t1))(fa5:w.drew.cell? ⟨b1,o1+j*16+5,none⟩=some (.slice PA pl pc))(fa8:w.drew.cell? ⟨b1,o1+j*16+8,none⟩=some (.int .u8 K1))(fa9:w.drew.cell? ⟨b1,o1+j*16+9,none⟩=some (.string T1))(fa10:w.drew.cell? ⟨b1,o1+j*16+10,none⟩=some (.int .i64 N1))(fa11:w.drew.cell? ⟨b1,o1+j*16+11,none⟩=some (.int .i64 U1))(fa12:w.drew.cell? ⟨b1,o1+j*16+12,none⟩=some (.int .i64 V1))(fa13:w.drew.cell? ⟨b1,o1+j*16+13,none⟩=some (.int .i64 W1))(fa14:w.drew.cell? ⟨b1,o1+j*16+14,none⟩=some (.slice F1 M1 D1))(fa15:w.drew.cell? ⟨b1,o1+j*16+15,none⟩=some (.slice G1 R1 E1))(HX:∀ W,Bel w.drew W->Calls Tryz.prog 16 #[.agg #[.int .u8 K1,T1,N1,U1,V1,W1,.slice F1 M1 D1,.slice G1 R1 E1],(0:Int)] W (jE (capX 0) 0 g2 W))(Q:Exit->Act->World->Prop)
  (hend:∀ (V:Nat->Value) (w':World),Bel w.drew w'->(∃ z:Int,(V 23)=.int .i64 (y+1+(u:Int)+(pl:Int)+z)/\ZQ (capX 0) 0 g2 z)->wpList Tryz.prog regSd.toArray Q (regSd.drop 24) (qga b1 o1 m ca j u pl pc y K1 N1 U1 V1 W1 t1 T1 PA F1 G1 M1 D1 R1 E1 g2 s1 s2 s5 s6 s7 s8 s9 s10 s11 s12 s13 s14 s15 s16 s17 s18 s19 s20 s21 s22 s23 s24 s25 s26 s27 s28 s29 s30 s31 s32 s33 s34 s35 s36 s37 s38 s39 s40 s41 s42 s43 s44 s45 s46 s47 s48 s49 s50 s51 s52 s53 s54 s55 s56 s57 s58 s59 s60 s61 s62 s63 s64 s65 s66 s67 s68 s69 s70 s71 s72 s73 s74 s75 s76 s77 s78 s79 s80 s81 s82 s83 s84 s85 s86 s87 s88 s89 s90 s91 s92 s93 s94 s95 s96 s97 s98 s99 s100 s101 s102 s103 s104 s105 s106 s107 s108 s109 s110 s111 s112 s113 s114 s115 s116 s117 df V) w') :
  (Code.region id regSd.toArray true).wp Tryz.prog Q (qhA b1 o1 m ca j u pl pc y K1 N1 U1 V1 W1 t1 T1 PA F1 G1 M1 D1 R1 E1 g2 s1 s2 s5 s6 s7 s8 s9 s10 s11 s12 s13 s14 s15 s16 s17 s18 s19 s20 s21 s22 s23 s24 s25 s26 s27 s28 s29 s30 s31 s32 s33 s34 s35 s36 s37 s38 s39 s40 s41 s42 s43 s44 s45 s46 s47 s48 s49 s50 s51 s52 s53 s54 s55 s56 s57 s58 s59 s60 s61 s62 s63 s64 s65 s66 s67 s68 s69 s70 s71 s72 s73 s74 s75 s76 s77 s78 s79 s80 s81 s82 s83 s84 s85 s86 s87 s88 s89 s90 s91 s92 s93 s94 s95 s96 s97 s98 s99 s100 s101 s102 s103 s104 s105 s106 s107 s108 s109 s110 s111 s112 s113 s114 s115 s116 s117 df) w:=by
 refine jr (l:=regSd) 24 _ w (qd9 b1 o1 m ca j u pl pc y K1 N1 U1 V1 W1 t1 T1 PA F1 G1 M1 D1 R1 E1 g2) (by kernel_rfl) qch qdC qat qdD (fun i v w w' hi h hb=>qaL i v w w' hi h hb) ?_ ?_
 ·intro i' o hi' ho a w1 V hbel hdep hpar K hK
  have p0:a.eval (.tmp 0)=.slice (some ⟨b1,o1,none⟩) m ca:=hpar 0 (by show 0<118;decide) (by kernel_rfl);have p0':=tD p0;have p3:a.eval (.tmp 3)=.int .i64 y:=hpar 3 (by show 3<118;decide) (by kernel_rfl);have p3':=tD p3;have p4:a.eval (.tmp 4)=.int .i64 (j:Int):=hpar 4 (by show 4<118;decide) (by kernel_rfl);have p4':=tD p4;have ga1:=gX hbel h1 fa1;have ga5:=gX hbel h1 fa5;have ga8:=gX hbel h1 fa8;have ga9:=gX hbel h1 fa9;have ga10:=gX hbel h1 fa10;have ga11:=gX hbel h1 fa11;have ga12:=gX hbel h1 fa12;have ga13:=gX hbel h1 fa13;have ga14:=gX hbel h1 fa14;have ga15:=gX hbel h1 fa15;have hw1:IntKind.i64.wrap (y+1)=y+1:=(IntWalk.i64_left _).trans (IntWalk.wrap64_in _ (by omega));have hq8:IntKind.i64.wrap (((t1.size:Nat):Int) / 64)=(u:Int):=by rw[show ((t1.size:Nat):Int) / 64=(u:Int) by omega];exact (IntWalk.i64_left _).trans (IntWalk.wrap64_in _ (by omega))
  have hq8b:IntKind.i64.wrap (Int.tdiv ((t1.size:Nat):Int) 64)=(u:Int):=by rw[Int.tdiv_eq_ediv_of_nonneg (by omega)];exact hq8
  have hw9:IntKind.i64.wrap (y+1+(u:Int))=y+1+(u:Int):=(IntWalk.i64_left _).trans (IntWalk.wrap64_in _ (by omega));have hw16:IntKind.i64.wrap (y+1+(u:Int)+(pl:Int))=y+1+(u:Int)+(pl:Int):=(IntWalk.i64_left _).trans (IntWalk.wrap64_in _ (by omega));match i',hi',ho,hdep,hK with
  | 0,_,ho,hdep,hK=>
   simp only[regSd,gT,gZ,gI]at ho;subst ho;exact nG rfl (wV (by simp[execOp,go_sem,p3']) hK rfl)
  | 1,_,ho,hdep,hK=>
   simp only[regSd,gT,gZ,gS,gI]at ho;subst ho;refine nG rfl ?_;have e0':=tK (t:=14) (hdep ⟨0,.data⟩ (by simp) rfl) rfl;exact wV (by simp[execOp,go_sem,e0',hw1]) hK rfl
  | 2,_,ho,hdep,hK=>
   simp only[regSd,gT,gZ,gS,gI]at ho;subst ho;exact nG rfl (wV (by simp[execOp,go_sem,p0']) hK rfl)
  | 3,_,ho,hdep,hK=>
   simp only[regSd,gT,gZ,gS,gI]at ho;subst ho;exact nG rfl (wV (by simp[execOp,go_sem,p4']) hK rfl)
  | 4,_,ho,hdep,hK=>
   simp only[regSd,gT,gZ,gS,gI]at ho;subst ho;refine nG rfl ?_;have e2':=tK (t:=16) (hdep ⟨2,.data⟩ (by simp) rfl) rfl;have e3':=tK (t:=17) (hdep ⟨3,.data⟩ (by simp) rfl) rfl;exact wV (by simp[execOp,go_sem,e2',e3',i1,i2]) hK rfl
  | 5,_,ho,hdep,hK=>
   simp only[regSd,gT,gZ,gS,gI]at ho;subst ho;refine nG rfl ?_;have e4':=tK (t:=18) (hdep ⟨4,.data⟩ (by simp) rfl) rfl;exact wV (by simp[execOp,go_sem,e4']) hK rfl
  | 6,_,ho,hdep,hK=>
   simp only[regSd,gT,gZ,gS,gI]at ho;subst ho;refine nG rfl ?_;have e5':=tK (t:=19) (hdep ⟨5,.data⟩ (by simp) rfl) rfl;exact wV (by simp[execOp,go_sem,e5',ga1]) hK rfl
  | 7,_,ho,hdep,hK=>
   simp only[regSd,gT,gZ,gS,gI]at ho;subst ho;refine nG rfl ?_;have e6':=tK (t:=20) (hdep ⟨6,.data⟩ (by simp) rfl) rfl;exact wV (by simp[go_sem,e6']) hK rfl
  | 8,_,ho,hdep,hK=>
   simp only[regSd,gT,gZ,gS,gI]at ho;subst ho;refine nG rfl ?_;have e7':=tK (t:=21) (hdep ⟨7,.data⟩ (by simp) rfl) rfl;exact wV (by simp[execOp,go_sem,e7',hq8]) hK rfl
  | 9,_,ho,hdep,hK=>
   simp only[regSd,gT,gZ,gS,gI]at ho;subst ho;refine nG rfl ?_;have e1':=tK (t:=15) (hdep ⟨1,.data⟩ (by simp) rfl) rfl;have e8':=tK (t:=22) (hdep ⟨8,.data⟩ (by simp) rfl) rfl;exact wV (by simp[execOp,go_sem,e1',e8',hw9]) hK rfl
  | 10,_,ho,hdep,hK=>
   simp only[regSd,gT,gZ,gS,gI]at ho;subst ho;exact nG rfl (wV (by simp[execOp,go_sem,p0']) hK rfl)
  | 11,_,ho,hdep,hK=>
   simp only[regSd,gT,gZ,gS,gI]at ho;subst ho;exact nG rfl (wV (by simp[execOp,go_sem,p4']) hK rfl)
  | 12,_,ho,hdep,hK=>
   simp only[regSd,gT,gZ,gS,gI]at ho;subst ho;refine nG rfl ?_;have e10':=tK (t:=24) (hdep ⟨10,.data⟩ (by simp) rfl) rfl;have e11':=tK (t:=25) (hdep ⟨11,.data⟩ (by simp) rfl) rfl;exact wV (by simp[execOp,go_sem,e10',e11',i1,i2]) hK rfl
  | 13,_,ho,hdep,hK=>
   simp only[regSd,gT,gZ,gS,gI]at ho;subst ho;refine nG rfl ?_;have e12':=tK (t:=26) (hdep ⟨12,.data⟩ (by simp) rfl) rfl;exact wV (by simp[execOp,go_sem,e12']) hK rfl
  | 14,_,ho,hdep,hK=>
   simp only[regSd,gT,gZ,gS,gI]at ho;subst ho;refine nG rfl ?_;have e13':=tK (t:=27) (hdep ⟨13,.data⟩ (by simp) rfl) rfl;exact wV (by simp[execOp,go_sem,e13',ga5]) hK rfl
  | 15,_,ho,hdep,hK=>
   simp only[regSd,gT,gZ,gS,gI]at ho;subst ho;refine nG rfl ?_;have e14':=tK (t:=28) (hdep ⟨14,.data⟩ (by simp) rfl) rfl;exact wV (by simp[go_sem,e14']) hK rfl
  | 16,_,ho,hdep,hK=>
   simp only[regSd,gT,gZ,gS,gI]at ho;subst ho;refine nG rfl ?_;have e9':=tK (t:=23) (hdep ⟨9,.data⟩ (by simp) rfl) rfl;have e15':=tK (t:=29) (hdep ⟨15,.data⟩ (by simp) rfl) rfl;exact wV (by simp[execOp,go_sem,e9',e15',hw16]) hK rfl
  | 17,_,ho,hdep,hK=>
   simp only[regSd,gT,gZ,gS,gI]at ho;subst ho;exact nG rfl (wV (by simp[execOp,go_sem,p0']) hK rfl)
  | 18,_,ho,hdep,hK=>
   simp only[regSd,gT,gZ,gS,gI]at ho;subst ho;exact nG rfl (wV (by simp[execOp,go_sem,p4']) hK rfl)
  | 19,_,ho,hdep,hK=>
   simp only[regSd,gT,gZ,gS,gI]at ho;subst ho;refine nG rfl ?_;have e17':=tK (t:=31) (hdep ⟨17,.data⟩ (by simp) rfl) rfl;have e18':=tK (t:=32) (hdep ⟨18,.data⟩ (by simp) rfl) rfl;exact wV (by simp[execOp,go_sem,e17',e18',i1,i2]) hK rfl
  | 20,_,ho,hdep,hK=>
   simp only[regSd,gT,gZ,gS,gI]at ho;subst ho;refine nG rfl ?_;have e19':=tK (t:=33) (hdep ⟨19,.data⟩ (by simp) rfl) rfl;exact wV (by simp[execOp,go_sem,e19']) hK rfl
  | 21,_,ho,hdep,hK=>
   simp only[regSd,gT,gZ,gS,gI]at ho;subst ho;refine nG rfl ?_;have e20':=tK (t:=34) (hdep ⟨20,.data⟩ (by simp) rfl) rfl;exact wV (by simp[execOp,go_sem,e20',ga8,ga9,ga10,ga11,ga12,ga13,ga14,ga15]) hK rfl
  | 22,_,ho,hdep,hK=>
   simp only[regSd,gT,gZ,gS,gI]at ho;subst ho;refine nG rfl ?_;have e21':=tK (t:=35) (hdep ⟨21,.data⟩ (by simp) rfl) rfl;refine qi (f:=16) (args:=#[.agg #[.int .u8 K1,T1,N1,U1,V1,W1,.slice F1 M1 D1,.slice G1 R1 E1],(0:Int)]) (by simp[go_sem,e21']) ((HX w1 hbel).mono ?_);rintro e w' ⟨z,rfl,q1,q2,q3,hb⟩;exact⟨_,rfl,hK _ _ hb ⟨z,rfl,q1,q2,q3⟩⟩
  | 23,_,ho,hdep,hK=>
   simp only[regSd,gT,gZ,gS,gI]at ho;subst ho;refine nG rfl ?_;have e16':=tK (t:=30) (hdep ⟨16,.data⟩ (by simp) rfl) rfl;obtain⟨f22,d22⟩:=hdep ⟨22,.data⟩ (by simp) rfl;obtain⟨z22,hv22,hq22⟩:=f22;have e22:a.eval (.tmp 36)=.int .i64 z22:=(d22 36 rfl).trans hv22;have e22':=tD e22;have hw23:IntKind.i64.wrap (y+1+(u:Int)+(pl:Int)+z22)=y+1+(u:Int)+(pl:Int)+z22:=(IntWalk.i64_left _).trans (IntWalk.wrap64_in _ (by have:=hq22.1;have a:=hq22.2.1;unfold capX at a;omega));exact zc (v:= .int .i64 (y+1+(u:Int)+(pl:Int)+z22)) (w':=w1) (by simp[execOp,go_sem,e16',e22',hw23]) (hK _ _ (Bel.refl _) ⟨z22,rfl,hq22⟩)
  | q+24,hi,_,_,_=>exact absurd hi (by omega)
 ·intro V w' hb hF
  have e:finA regSd.toArray 24 V (qhA b1 o1 m ca j u pl pc y K1 N1 U1 V1 W1 t1 T1 PA F1 G1 M1 D1 R1 E1 g2 s1 s2 s5 s6 s7 s8 s9 s10 s11 s12 s13 s14 s15 s16 s17 s18 s19 s20 s21 s22 s23 s24 s25 s26 s27 s28 s29 s30 s31 s32 s33 s34 s35 s36 s37 s38 s39 s40 s41 s42 s43 s44 s45 s46 s47 s48 s49 s50 s51 s52 s53 s54 s55 s56 s57 s58 s59 s60 s61 s62 s63 s64 s65 s66 s67 s68 s69 s70 s71 s72 s73 s74 s75 s76 s77 s78 s79 s80 s81 s82 s83 s84 s85 s86 s87 s88 s89 s90 s91 s92 s93 s94 s95 s96 s97 s98 s99 s100 s101 s102 s103 s104 s105 s106 s107 s108 s109 s110 s111 s112 s113 s114 s115 s116 s117 df)=qga b1 o1 m ca j u pl pc y K1 N1 U1 V1 W1 t1 T1 PA F1 G1 M1 D1 R1 E1 g2 s1 s2 s5 s6 s7 s8 s9 s10 s11 s12 s13 s14 s15 s16 s17 s18 s19 s20 s21 s22 s23 s24 s25 s26 s27 s28 s29 s30 s31 s32 s33 s34 s35 s36 s37 s38 s39 s40 s41 s42 s43 s44 s45 s46 s47 s48 s49 s50 s51 s52 s53 s54 s55 s56 s57 s58 s59 s60 s61 s62 s63 s64 s65 s66 s67 s68 s69 s70 s71 s72 s73 s74 s75 s76 s77 s78 s79 s80 s81 s82 s83 s84 s85 s86 s87 s88 s89 s90 s91 s92 s93 s94 s95 s96 s97 s98 s99 s100 s101 s102 s103 s104 s105 s106 s107 s108 s109 s110 s111 s112 s113 s114 s115 s116 s117 df V:=by kernel_rfl
  rw[e];exact hend V w' hb (hF 23 (by omega))
end Go.Proofs.YtfpoelklhekfaaaGreatDoor.Mu
