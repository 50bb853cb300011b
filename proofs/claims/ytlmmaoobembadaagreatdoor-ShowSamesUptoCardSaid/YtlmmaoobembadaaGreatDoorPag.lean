import Derived.Test.YtlmmaoobembadaaGreatDoorPad
import Derived.Test.YtlmmaoobembadaaGreatDoorPaf
open Go.Lib (hid)
namespace Go.Proofs.YtlmmaoobembadaaGreatDoor.Mu
set_option maxHeartbeats 8000000
open Go Go.RowKit
attribute [local go_sem] Oper.semAt_some
set_option linter.unusedVariables false
set_option maxRecDepth 100000
theorem Tr.nil_of_len:∀ f:Tr,f.len=0->f=.nil
 | .nil,_=>rfl
 | .nod ..,h=>by simp[Tr.len]at h
 | .arm ..,h=>by simp[Tr.len]at h
theorem Tr.one:∀ f:Tr,f.len=1->f.nth 0=f
 | .nil,h=>by simp[Tr.len]at h
 | .nod k s n p a b r,h=>by
  have:r=.nil:=Tr.nil_of_len r (by simpa [Tr.len] using h);subst this;rfl
 | .arm k s n p a b r,h=>by
  have:r=.nil:=Tr.nil_of_len r (by simpa [Tr.len] using h);subst this;rfl
theorem Tr.single{w:World}{Ok:Nat->Prop}{sh:Sh}{b o:Nat}(hsh:sh ≠ .arms):∀ f:Tr,f.len=1->TrAt w Ok f sh b o->∃ k s n p a b,f=.nod k s n p a b .nil
 | .nil,h,_=>by simp[Tr.len]at h
 | .nod k s n p a b r,h,_=>by
  have:r=.nil:=Tr.nil_of_len r (by simpa [Tr.len] using h);subst this;exact⟨_,_,_,_,_,_,rfl⟩
 | .arm ..,_,h=>absurd h.1 hsh
theorem Qi{w:World}{g:Nat}{t:TypeId}{x0 x1 x2 x3 x4 x5 x6 x7:Value}(h:w.heap[g]?=some (.cells #[x0,x1,x2,x3,x4,x5,x6,x7] t (0,0))) :
  w.cell? ⟨g,6,none⟩=some x6/\w.cell? ⟨g,7,none⟩=some x7:=by
 simp[World.cell?,h]
theorem ZH(N:Nat):∀ (k:Int) (s:List UInt8) (n:Int) (p:Pl) (A:Option Addr) (len cap:Nat) (kids:Tr) (B:Option Addr) (bl bc:Nat) (arms:Tr) (k2:Int) (s2:List UInt8) (n2:Int) (p2:Pl) (A2:Option Addr) (len2 cap2:Nat) (kids2:Tr) (B2:Option Addr) (bl2 bc2:Nat) (arms2:Tr) (w:World),kids.size+arms.size=N->KidsTr w (OldT w) .ex A len cap kids->KidsTr w (OldT w) .arms B bl bc arms->KidsTr w (OldT w) .ex A2 len2 cap2 kids2->KidsTr w (OldT w) .arms B2 bl2 bc2 arms2->kids.size+arms.size<=1000000->kids2.size+arms2.size<=1000000 →
  Calls Tryz.prog 12 #[.agg #[.int .u8 k,.string ⟨s.toArray⟩,n,p.a,p.l,p.c,.slice A len cap,.slice B bl bc],.agg #[.int .u8 k2,.string ⟨s2.toArray⟩,n2,p2.a,p2.l,p2.c,.slice A2 len2 cap2,.slice B2 bl2 bc2]] w (qi (Tr.same (.nod k s n p kids arms .nil) (.nod k2 s2 n2 p2 kids2 arms2 .nil)) w):=by
 induction N using Nat.strongRecOn with
 | _ N ih=>
  intro k s n p A len cap kids B bl bc arms k2 s2 n2 p2 A2 len2 cap2 kids2 B2 bl2 bc2 arms2 w hN h hA h2 hA2 hsz hsz2;have H:=hid h;have H2:=hid h2;have HA:=hid hA;have HA2:=hid hA2;have IH:=hid ih;have HL:Hid (len=kids.len):=hid h.1;have HL2:Hid (len2=kids2.len):=hid h2.1;have HM:Hid (bl=arms.len):=hid hA.1;have HM2:Hid (bl2=arms2.len):=hid hA2.1;have HN:=hid hN;have HZ:=hid (And.intro hsz hsz2);have hlen:len<=1000000:=by have:=h.1;have:=kids.len_le;omega
  have hlen2:len2<=1000000:=by have:=h2.1;have:=kids2.len_le;omega
  have hbl:bl<=1000000:=by have:=hA.1;have:=arms.len_le;omega
  have hbl2:bl2<=1000000:=by have:=hA2.1;have:=arms2.len_le;omega
  obtain⟨r,hr⟩:∃ r,r=Tr.same (.nod k s n p kids arms .nil) (.nod k2 s2 n2 p2 kids2 arms2 .nil):=⟨_,rfl⟩
  rw[<- hr];have HR:Hid (r=true↔(k=k2/\s=s2/\n=n2/\kids.same kids2=true/\arms.same arms2=true)):=hid (by
   rw[hr];simp only[Tr.same,Bool.and_eq_true,decide_eq_true_eq,and_true,and_assoc])
  have no:¬ (k=k2/\s=s2/\n=n2/\len=len2/\bl=bl2)->r=false:=fun hno=>by
   cases r
   ·rfl
   ·exfalso
    obtain⟨e1,e2,e3,e4,e5⟩:=HR.out.1 rfl;exact hno ⟨e1,e2,e3,by rw[HL.out,HL2.out,Tr.same_len _ _ e4],by rw[HM.out,HM2.out,Tr.same_len _ _ e5]⟩
  have NO:=hid no;clear h h2 hA hA2 ih hN hr no hsz hsz2;obtain⟨S,hS⟩:∃ S:ByteArray,S=⟨s.toArray⟩:=⟨_,rfl⟩
  obtain⟨S2,hS2⟩:∃ S:ByteArray,S=⟨s2.toArray⟩:=⟨_,rfl⟩
  have hne:s≠s2->S.toList≠S2.toList:=fun h=>by rw[hS,hS2];exact qS h
  rw[<- hS,<- hS2];have hSS:s=s2->S=S2:=fun h=>by rw[hS,hS2,h]
  have HNE:=hid hne;clear hS hS2 hne;by_cases dk:k=k2
  case neg=>
   obtain rfl:=NO.out (fun h=>dk h.1);have ek:(k==k2)=false:=by simpa using dk
   go_enter Tryz.func12,Tryz.ntmps12
   go_wp2_with fail
   go_ret
   refine⟨rfl,?_⟩;repeat (first | exact Bel.refl _ | apply Bel.alloc | apply Bel.drew)
  subst dk;by_cases ds:s=s2
  case neg=>
   obtain rfl:=NO.out (fun h=>ds h.2.1);have qn:=HNE.out ds;have qb:(S.toList==S2.toList)=false:=by simpa using qn
   go_enter Tryz.func12,Tryz.ntmps12
   go_wp2_with fail
   go_ret
   refine⟨rfl,?_⟩;repeat (first | exact Bel.refl _ | apply Bel.alloc | apply Bel.drew)
  obtain rfl:=hSS ds;clear hSS;by_cases dn:n=n2
  case neg=>
   obtain rfl:=NO.out (fun h=>dn h.2.2.1);have en:(n==n2)=false:=by simpa using dn
   go_enter Tryz.func12,Tryz.ntmps12
   go_wp2_with fail
   go_ret
   refine⟨rfl,?_⟩;repeat (first | exact Bel.refl _ | apply Bel.alloc | apply Bel.drew)
  subst dn;by_cases dl:len=len2
  case neg=>
   obtain rfl:=NO.out (fun h=>dl h.2.2.2.1);have el:((len:Int)==(len2:Int))=false:=by simp;omega
   go_enter Tryz.func12,Tryz.ntmps12
   go_wp2_with fail
   go_ret
   refine⟨rfl,?_⟩;repeat (first | exact Bel.refl _ | apply Bel.alloc | apply Bel.drew)
  subst dl;by_cases dm:bl=bl2
  case neg=>
   obtain rfl:=NO.out (fun h=>dm h.2.2.2.2);have em:((bl:Int)==(bl2:Int))=false:=by simp;omega
   go_enter Tryz.func12,Tryz.ntmps12
   go_wp2_with fail
   go_ret
   refine⟨rfl,?_⟩;repeat (first | exact Bel.refl _ | apply Bel.alloc | apply Bel.drew)
  subst dm;have HDS:=hid ds;clear ds;go_enter Tryz.func12,Tryz.ntmps12
  go_wp2_with fail
  have q1:=blk2 w (.cells #[.int .u8 k,S,n,p.a,p.l,p.c,.slice A len cap,.slice B bl bc] 32) (.cells #[.int .u8 k,S,n,p2.a,p2.l,p2.c,.slice A2 len cap2,.slice B2 bl bc2] 32);have hb1:Bel w ((w.alloc (.cells #[.int .u8 k,S,n,p.a,p.l,p.c,.slice A len cap,.slice B bl bc] 32)).alloc (.cells #[.int .u8 k,S,n,p2.a,p2.l,p2.c,.slice A2 len cap2,.slice B2 bl bc2] 32)):=((Bel.refl w).alloc _).alloc _;have hs1:((w.alloc (.cells #[.int .u8 k,S,n,p.a,p.l,p.c,.slice A len cap,.slice B bl bc] 32)).alloc (.cells #[.int .u8 k,S,n,p2.a,p2.l,p2.c,.slice A2 len cap2,.slice B2 bl bc2] 32)).heap.size=w.heap.size+2:=by simp
  obtain⟨w1,hw1⟩:∃ w1,w1=(w.alloc (.cells #[.int .u8 k,S,n,p.a,p.l,p.c,.slice A len cap,.slice B bl bc] 32)).alloc (.cells #[.int .u8 k,S,n,p2.a,p2.l,p2.c,.slice A2 len cap2,.slice B2 bl bc2] 32):=⟨_,rfl⟩
  rw[<- hw1]at q1 hb1 hs1 ⊢;have HQ:=hid q1;have HB1:=hid hb1;have HS1:=hid hs1;clear q1 hb1 hs1 hw1 NO;go_loopw [5] (fun i wr=>∃ j:Nat,j<=len/\i=.int .i64 (j:Int)/\Hid (∀ i,i<j->(kids.nth i).same (kids2.nth i)=true)/\Hid (Bel w1 wr)) (fun i _=>len-(intOf i).toNat)
  case atStart=>exact⟨0,Nat.zero_le _,rfl,hid (fun i hi=>by omega),hid (Bel.refl _)⟩
  case round=>
   obtain⟨j,hj,rfl,HE,HB⟩:=hrel;have hbx:=(HB.out.block w.heap.size (by have:=HS1.out;omega)).trans HQ.out.1;have hby:=(HB.out.block (w.heap.size+1) (by have:=HS1.out;omega)).trans HQ.out.2;obtain⟨x6,x7⟩:=Qi hbx;obtain⟨y6,y7⟩:=Qi hby;clear hbx hby;by_cases hlt:j<len
   ·have hkr:KidsTr wr (OldT w) .ex A len cap kids:=H.out.keep fun i hi=>(HB.out.block i (Nat.lt_of_lt_of_le hi HB1.out.size)).trans (HB1.out.block i hi)
    have hkr2:KidsTr wr (OldT w) .ex A2 len cap2 kids2:=H2.out.keep fun i hi=>(HB.out.block i (Nat.lt_of_lt_of_le hi HB1.out.size)).trans (HB1.out.block i hi);obtain⟨ub,uo,eA,hob,hfo⟩:=hkr.2.2 (by omega);obtain⟨ub2,uo2,eA2,hob2,hfo2⟩:=hkr2.2.2 (by omega);subst eA eA2;obtain⟨k',s',n',p',kids',ar',en,hd',⟨A',cap',e5,hcp',hk'⟩,har',_⟩:=TrAt.nod_at (by intro e;cases e) kids j ub uo hfo (by rw[<- HL.out];exact hlt);obtain⟨k3,s3,n3,p3,kids3,ar3,en3,hd3,⟨A3,cap3,d5,hcp3,hk3⟩,har3,_⟩:=TrAt.nod_at (by intro e;cases e) kids2 j ub2 uo2 hfo2 (by rw[<- HL2.out];exact hlt);obtain⟨_,B',bc',e6,hbp',hb'⟩:Sh.ex=.ex/\∃ A cap,wr.cell? ⟨ub,uo+j*Sh.sz .ex+7,none⟩=some (.slice A ar'.len cap)/\ar'.len<=cap/\(0<ar'.len->∃ b' o',A=some ⟨b',o',none⟩/\OldT w b'/\TrAt wr (OldT w) ar' .arms b' o'):=by
     rcases har' with e | ⟨e | e,_⟩
     ·exact e
     ·cases e
     ·cases e
    obtain⟨_,B3,bc3,d6,hbp3,hb3⟩:Sh.ex=.ex/\∃ A cap,wr.cell? ⟨ub2,uo2+j*Sh.sz .ex+7,none⟩=some (.slice A ar3.len cap)/\ar3.len<=cap/\(0<ar3.len->∃ b' o',A=some ⟨b',o',none⟩/\OldT w b'/\TrAt wr (OldT w) ar3 .arms b' o'):=by
     rcases har3 with e | ⟨e | e,_⟩
     ·exact e
     ·cases e
     ·cases e
    obtain⟨e0,e1,e2,f1,f2,f3⟩:=hd';obtain⟨d0,d1,d2,g1,g2,g3⟩:=hd3;have hsn:=Tr.nth_size kids j;have hsn3:=Tr.nth_size kids2 j;rw[en]at hsn;rw[en3]at hsn3;simp only[Tr.size]at hsn hsn3;have hOld:∀ i,OldT w i->OldT wr i:=fun i hi=>Nat.lt_of_lt_of_le hi (Nat.le_trans HB1.out.size HB.out.size);have hK':KidsTr wr (OldT w) .ex A' kids'.len cap' kids':=⟨rfl,hcp',hk'⟩
    have hK3:KidsTr wr (OldT w) .ex A3 kids3.len cap3 kids3:=⟨rfl,hcp3,hk3⟩
    have hR':KidsTr wr (OldT w) .arms B' ar'.len bc' ar':=⟨rfl,hbp',hb'⟩
    have hR3:KidsTr wr (OldT w) .arms B3 ar3.len bc3 ar3:=⟨rfl,hbp3,hb3⟩
    have HC:Hid (∀ W,Bel wr W->Calls Tryz.prog 12 #[.agg #[.int .u8 k',.string ⟨s'.toArray⟩,n',p'.a,p'.l,p'.c,.slice A' kids'.len cap',.slice B' ar'.len bc'],.agg #[.int .u8 k3,.string ⟨s3.toArray⟩,n3,p3.a,p3.l,p3.c,.slice A3 kids3.len cap3,.slice B3 ar3.len bc3]] W (qi ((kids.nth j).same (kids2.nth j)) W)):=hid fun W hW=>by
     rw[en,en3];have hz:=HZ.out;exact IH.out (kids'.size+ar'.size) (by have:=HN.out;omega) k' s' n' p' A' kids'.len cap' kids' B' ar'.len bc' ar' k3 s3 n3 p3 A3 kids3.len cap3 kids3 B3 ar3.len bc3 ar3 W rfl ((hK'.wide hOld).bel hW) ((hR'.wide hOld).bel hW) ((hK3.wide hOld).bel hW) ((hR3.wide hOld).bel hW) (by omega) (by omega)
    obtain⟨q,hq⟩:∃ q,q=(kids.nth j).same (kids2.nth j):=⟨_,rfl⟩
    rw[<- hq]at HC;have HQE:=hid hq;obtain⟨l1,hl1⟩:∃ l,l=kids'.len:=⟨_,rfl⟩
    obtain⟨l2,hl2⟩:∃ l,l=kids3.len:=⟨_,rfl⟩
    obtain⟨l3,hl3⟩:∃ l,l=ar'.len:=⟨_,rfl⟩
    obtain⟨l4,hl4⟩:∃ l,l=ar3.len:=⟨_,rfl⟩
    rw[<- hl1,<- hl3]at HC;rw[<- hl2,<- hl4]at HC;rw[<- hl1]at e5;rw[<- hl2]at d5;rw[<- hl3]at e6;rw[<- hl4]at d6;have i1:(0:Int)<=(j:Int):=by omega
    have i2:(j:Int)<(len:Int):=by omega
    have kb1:ub<wr.heap.size:=hOld _ hob;have kb2:ub2<wr.heap.size:=hOld _ hob2;have kb3:w.heap.size<wr.heap.size:=by have:=HS1.out;have:=HB.out.size;omega
    have kb4:w.heap.size+1<wr.heap.size:=by have:=HS1.out;have:=HB.out.size;omega
    have HLT:=hid hlt;clear hkr hkr2 hfo hfo2 en en3 hk' hk3 hK' hK3 hR' hR3 hb' hb3 hsn hsn3 hq hl1 hl2 hl3 hl4 hOld hob hob2 hlen2 hbl2 hcp' hcp3 hbp' hbp3 har' har3;have X4:=qa kb3 x6;have Y4:=qa kb4 y6;have E0:=qa kb1 e0;have E1:=qa kb1 e1;have E2:=qa kb1 e2;have F1:=qa kb1 f1;have F2:=qa kb1 f2;have F3:=qa kb1 f3;have E5:=qa kb1 e5;have E6:=qa kb1 e6;have D0:=qa kb2 d0;have D1:=qa kb2 d1;have D2:=qa kb2 d2;have G1:=qa kb2 g1;have G2:=qa kb2 g2;have G3:=qa kb2 g3;have D5:=qa kb2 d5;have D6:=qa kb2 d6;simp only[Sh.sz,Sh.kd]at E0 E1 E2 E5 E6 F1 F2 F3 D0 D1 D2 D5 D6 G1 G2 G3;go_wp2_with fail
    refine qh 11 (by kernel_rfl) (by kernel_rfl) ?_;simp only[List.take_succ_cons,List.take_zero,List.drop_succ_cons,List.drop_zero];repeat (go_big_quiet_step (exact (HC.out _ (Abw.bel _)).mono fun e w h=>⟨h.1,⟨_,(Abw.bel _).on h.2⟩,rfl⟩))
    refine wpQuiet_nil ?_;rintro w4 ⟨⟨w4,hb4⟩,rfl⟩;have HB4:=hid (HB.out.on hb4);clear hb4 X4 Y4 E0 E1 E2 E5 E6 F1 F2 F3 D0 D1 D2 D5 D6 G1 G2 G3 x6 x7 y6 y7 e0 e1 e2 e5 e6 f1 f2 f3 d0 d1 d2 d5 d6 g1 g2 g3;cases q
    ·have hr0:r=false:=by
      cases r
      ·rfl
      ·exfalso
       have e:=(HR.out.1 rfl).2.2.2.1;have:=HQE.out;rw[Tr.nth_same _ _ e]at this;cases this
     subst hr0;go_wp2_with fail
     go_ret
     exact⟨rfl,HB1.out.on HB4.out⟩
    ·have HE':Hid (∀ i,i<j+1->(kids.nth i).same (kids2.nth i)=true):=hid fun i hi=>by
      by_cases e:i=j
      ·subst e;exact HQE.out.symm
      ·exact HE.out i (by omega)
     go_wp2_with fail
     go_roundw
     case rel=>exact⟨j+1,HLT.out,by go_num,HE',HB4⟩
     case measure=>have:=HLT.out;simp[intOf];omega
   ·obtain rfl:j=len:=by omega
    have HKK:Hid (kids.same kids2=true):=hid (Tr.same_nth kids kids2 (by rw[<- HL.out,<- HL2.out]) (fun i hi=>HE.out i (by rw[HL.out];exact hi)));go_wp2_with fail
    go_loopw [6] (fun i ws=>∃ j:Nat,j<=bl/\i=.int .i64 (j:Int)/\Hid (∀ i,i<j->(arms.nth i).same (arms2.nth i)=true)/\Hid (Bel w1 ws)) (fun i _=>bl-(intOf i).toNat)
    case atStart=>exact⟨0,Nat.zero_le _,rfl,hid (fun i hi=>by omega),HB⟩
    case round=>
     obtain⟨j,hj2,rfl,HE2,HBs⟩:=hrel;clear hj HB HE x6 x7 y6 y7 hlt;have hbx:=(HBs.out.block w.heap.size (by have:=HS1.out;omega)).trans HQ.out.1;have hby:=(HBs.out.block (w.heap.size+1) (by have:=HS1.out;omega)).trans HQ.out.2;obtain⟨x6,x7⟩:=Qi hbx;obtain⟨y6,y7⟩:=Qi hby;clear hbx hby;by_cases hlt:j<bl
     ·have hkr:KidsTr wr (OldT w) .arms B bl bc arms:=HA.out.keep fun i hi=>(HBs.out.block i (Nat.lt_of_lt_of_le hi HB1.out.size)).trans (HB1.out.block i hi)
      have hkr2:KidsTr wr (OldT w) .arms B2 bl bc2 arms2:=HA2.out.keep fun i hi=>(HBs.out.block i (Nat.lt_of_lt_of_le hi HB1.out.size)).trans (HB1.out.block i hi);obtain⟨ub,uo,eA,hob,hfo⟩:=hkr.2.2 (by omega);obtain⟨ub2,uo2,eA2,hob2,hfo2⟩:=hkr2.2.2 (by omega);subst eA eA2;obtain⟨k',s',n',p',kids',f',en,_,hd',⟨A',cap',a6,hcp',hk'⟩,hone,hex,_⟩:=TrAt.arm_at arms j ub uo hfo (by rw[<- HM.out];exact hlt);obtain⟨k3,s3,n3,p3,kids3,f3,en3,_,hd3,⟨A3,cap3,e6,hcp3,hk3⟩,hone3,hex3,_⟩:=TrAt.arm_at arms2 j ub2 uo2 hfo2 (by rw[<- HM2.out];exact hlt);obtain⟨K',S',N',P',kx',ax',rfl⟩:=Tr.single (by intro e;cases e) f' hone hex;obtain⟨K3,S3,N3,P3,kx3,ax3,rfl⟩:=Tr.single (by intro e;cases e) f3 hone3 hex3;obtain⟨hD',⟨F',D',a13,hcx',hkx'⟩,hax',_⟩:=hex;obtain⟨hD3,⟨F3,D3,e13,hcx3,hkx3⟩,hax3,_⟩:=hex3;obtain⟨_,B',E',a14,hbp',hb'⟩:Sh.ex=.ex/\∃ A cap,wr.cell? ⟨ub,uo+j*15+7+7,none⟩=some (.slice A ax'.len cap)/\ax'.len<=cap/\(0<ax'.len->∃ b' o',A=some ⟨b',o',none⟩/\OldT w b'/\TrAt wr (OldT w) ax' .arms b' o'):=by
       rcases hax' with e | ⟨e | e,_⟩
       ·exact e
       ·cases e
       ·cases e
      obtain⟨_,B3,E3,e14,hbp3,hb3⟩:Sh.ex=.ex/\∃ A cap,wr.cell? ⟨ub2,uo2+j*15+7+7,none⟩=some (.slice A ax3.len cap)/\ax3.len<=cap/\(0<ax3.len->∃ b' o',A=some ⟨b',o',none⟩/\OldT w b'/\TrAt wr (OldT w) ax3 .arms b' o'):=by
       rcases hax3 with e | ⟨e | e,_⟩
       ·exact e
       ·cases e
       ·cases e
      obtain⟨a0,a1,a2,a3,a4,a5⟩:=hd';obtain⟨e0,e1,e2,e3,e4,e5⟩:=hd3;obtain⟨a7,a8,a9,a10,a11,a12⟩:=hD';obtain⟨e7,e8,e9,e10,e11,e12⟩:=hD3;have hsn:=Tr.nth_size arms j;have hsn3:=Tr.nth_size arms2 j;rw[en]at hsn;rw[en3]at hsn3;simp only[Tr.size]at hsn hsn3;have hOld:∀ i,OldT w i->OldT wr i:=fun i hi=>Nat.lt_of_lt_of_le hi (Nat.le_trans HB1.out.size HBs.out.size);have hK':KidsTr wr (OldT w) .pat A' kids'.len cap' kids':=⟨rfl,hcp',hk'⟩
      have hK3:KidsTr wr (OldT w) .pat A3 kids3.len cap3 kids3:=⟨rfl,hcp3,hk3⟩
      have hX':KidsTr wr (OldT w) .ex F' kx'.len D' kx':=⟨rfl,hcx',hkx'⟩
      have hX3:KidsTr wr (OldT w) .ex F3 kx3.len D3 kx3:=⟨rfl,hcx3,hkx3⟩
      have hR':KidsTr wr (OldT w) .arms B' ax'.len E' ax':=⟨rfl,hbp',hb'⟩
      have hR3:KidsTr wr (OldT w) .arms B3 ax3.len E3 ax3:=⟨rfl,hbp3,hb3⟩
      obtain⟨pq,hpq⟩:∃ q,q=Tr.same (.nod k' s' n' p' kids' .nil .nil) (.nod k3 s3 n3 p3 kids3 .nil .nil):=⟨_,rfl⟩
      obtain⟨q,hq⟩:∃ q,q=Tr.same (.nod K' S' N' P' kx' ax' .nil) (.nod K3 S3 N3 P3 kx3 ax3 .nil):=⟨_,rfl⟩
      have HPQ:Hid ((arms.nth j).same (arms2.nth j)=(pq&&q)):=hid (by rw[en,en3,hpq,hq];simp only[Tr.same,Bool.and_true]);have HP:∀ W,Bel wr.drew W->Calls Tryz.prog 39 #[.agg #[.int .u8 k',.string ⟨s'.toArray⟩,n',p'.a,p'.l,p'.c,.slice A' kids'.len cap'],.agg #[.int .u8 k3,.string ⟨s3.toArray⟩,n3,p3.a,p3.l,p3.c,.slice A3 kids3.len cap3]] W fun e w'=>e=.returned (.bool pq)/\Bel W w':=fun W hW=>by
       have hz:=HZ.out;have hW':Bel wr W:=(Bel.refl wr).drew.on hW;rw[hpq];exact JN kids'.size k' s' n' p' A' kids'.len cap' kids' k3 s3 n3 p3 A3 kids3.len cap3 kids3 W rfl ((hK'.wide hOld).bel hW') ((hK3.wide hOld).bel hW') (by omega) (by omega)
      have HX:∀ W,Bel wr.drew W->Calls Tryz.prog 12 #[.agg #[.int .u8 K',.string ⟨S'.toArray⟩,N',P'.a,P'.l,P'.c,.slice F' kx'.len D',.slice B' ax'.len E'],.agg #[.int .u8 K3,.string ⟨S3.toArray⟩,N3,P3.a,P3.l,P3.c,.slice F3 kx3.len D3,.slice B3 ax3.len E3]] W fun e w'=>e=.returned (.bool q)/\Bel W w':=fun W hW=>by
       have hz:=HZ.out;have hn:=HN.out;have hW':Bel wr W:=(Bel.refl wr).drew.on hW;rw[hq];exact IH.out (kx'.size+ax'.size) (by omega) K' S' N' P' F' kx'.len D' kx' B' ax'.len E' ax' K3 S3 N3 P3 F3 kx3.len D3 kx3 B3 ax3.len E3 ax3 W rfl ((hX'.wide hOld).bel hW') ((hR'.wide hOld).bel hW') ((hX3.wide hOld).bel hW') ((hR3.wide hOld).bel hW') (by omega) (by omega)
      have i1:(0:Int)<=(j:Int):=by omega
      have i2:(j:Int)<(bl:Int):=by omega
      have kb1:ub<wr.heap.size:=hOld _ hob;have kb2:ub2<wr.heap.size:=hOld _ hob2;have kb3:w.heap.size<wr.heap.size:=by have:=HS1.out;have:=HBs.out.size;omega
      have kb4:w.heap.size+1<wr.heap.size:=by have:=HS1.out;have:=HBs.out.size;omega
      have HLT:=hid hlt;simp only[Sh.kd]at a9 e9;clear hkr hkr2 hfo hfo2 en en3 hk' hk3 hK' hK3 hX' hX3 hR' hR3 hb' hb3 hkx' hkx3 hsn hsn3 hq hpq hOld hob hob2 hlen2 hbl2 hcp' hcp3 hcx' hcx3 hbp' hbp3 hax' hax3 hone hone3;have nope:Hid ((pq&&q)=false->r=false):=hid fun h=>by
       cases r
       ·rfl
       ·exfalso
        have e:=(HR.out.1 rfl).2.2.2.2;have e2:=Tr.nth_same _ _ e j;rw[HPQ.out,h]at e2;cases e2
      go_wp2_with fail
      cases pq
      case false=>
       obtain rfl:=nope.out rfl;refine qeh w.heap.size (w.heap.size+1) ub uo ub2 uo2 bl bc bc2 j k' n' p'.a p'.l p'.c k3 n3 p3.a p3.l p3.c K' N' P'.a P'.l P'.c K3 N3 P3.a P3.l P3.c ⟨s'.toArray⟩ ⟨s3.toArray⟩ ⟨S'.toArray⟩ ⟨S3.toArray⟩ A' A3 F' F3 B' B3 kids'.len cap' kids3.len cap3 kx'.len D' kx3.len D3 ax'.len E' ax3.len E3 true _ _ _ _ _ _ _ _ _ _ _ _ _ _ _ _ _ _ _ _ _ _ _ _ _ _ _ _ _ _ _ _ _ _ _ _ _ _ _ _ _ _ _ _ _ _ _ _ _ _ _ _ _ _ _ _ _ _ _ _ _ _ _ _ _ _ _ _ _ _ _ _ _ _ _ _ _ _ _ _ _ _ _ _ _ _ _ _ _ _ _ _ _ _ _ _ _ _ wr i1 i2 kb1 kb2 kb3 kb4 x7 y7 a0 e0 a1 e1 a2 e2 a3 e3 a4 e4 a5 e5 a6 e6 a7 e7 a8 e8 a9 e9 a10 e10 a11 e11 a12 e12 a13 e13 a14 e14 HP _ ?_;intro V w4 hb4 hv1;simp only[regXf,List.drop_succ_cons,List.drop_zero,qgF,hv1];have HB4:=hid (HBs.out.drew.on hb4);clear hb4 hv1 x6 x7 y6 y7 a0 e0 a1 e1 a2 e2 a3 e3 a4 e4 a5 e5 a6 e6 a7 e7 a8 e8 a9 e9 a10 e10 a11 e11 a12 e12 a13 e13 a14 e14 i1 i2;go_wp2_with fail
       go_ret
       exact⟨rfl,HB1.out.on HB4.out⟩
      case true=>
       refine qek w.heap.size (w.heap.size+1) ub uo ub2 uo2 bl bc bc2 j k' n' p'.a p'.l p'.c k3 n3 p3.a p3.l p3.c K' N' P'.a P'.l P'.c K3 N3 P3.a P3.l P3.c ⟨s'.toArray⟩ ⟨s3.toArray⟩ ⟨S'.toArray⟩ ⟨S3.toArray⟩ A' A3 F' F3 B' B3 kids'.len cap' kids3.len cap3 kx'.len D' kx3.len D3 ax'.len E' ax3.len E3 q _ _ _ _ _ _ _ _ _ _ _ _ _ _ _ _ _ _ _ _ _ _ _ _ _ _ _ _ _ _ _ _ _ _ _ _ _ _ _ _ _ _ _ _ _ _ _ _ _ _ _ _ _ _ _ _ _ _ _ _ _ _ _ _ _ _ _ _ _ _ _ _ _ _ _ _ _ _ _ _ _ _ _ _ _ _ _ _ _ _ _ _ _ _ _ _ _ _ wr i1 i2 kb1 kb2 kb3 kb4 x7 y7 a0 e0 a1 e1 a2 e2 a3 e3 a4 e4 a5 e5 a6 e6 a7 e7 a8 e8 a9 e9 a10 e10 a11 e11 a12 e12 a13 e13 a14 e14 HP HX _ ?_;intro V w4 hb4 hv1 hv2;simp only[regXt,List.drop_succ_cons,List.drop_zero,qgG,hv1,hv2];have HB4:=hid (HBs.out.drew.on hb4);clear hb4 hv1 hv2 x6 x7 y6 y7 a0 e0 a1 e1 a2 e2 a3 e3 a4 e4 a5 e5 a6 e6 a7 e7 a8 e8 a9 e9 a10 e10 a11 e11 a12 e12 a13 e13 a14 e14 i1 i2;cases q
       ·obtain rfl:=nope.out rfl
        go_wp2_with fail
        go_ret
        exact⟨rfl,HB1.out.on HB4.out⟩
       ·have HE':Hid (∀ i,i<j+1->(arms.nth i).same (arms2.nth i)=true):=hid fun i hi=>by
         by_cases e:i=j
         ·subst e;exact HPQ.out
         ·exact HE2.out i (by omega)
        go_wp2_with fail
        go_roundw
        case rel=>exact⟨j+1,HLT.out,by go_num,HE',HB4⟩
        case measure=>have:=HLT.out;simp[intOf];omega
     ·obtain rfl:j=bl:=by omega
      have haa:arms.same arms2=true:=Tr.same_nth arms arms2 (by rw[<- HM.out,<- HM2.out]) (fun i hi=>HE2.out i (by rw[HM.out];exact hi));have hr1:r=true:=HR.out.2 ⟨trivial,HDS.out,trivial,HKK.out,haa⟩;subst hr1;go_wp2_with fail
      go_ret
      exact⟨rfl,HB1.out.on HBs.out⟩
end Go.Proofs.YtlmmaoobembadaaGreatDoor.Mu
namespace Go.Proofs.YtlmmaoobembadaaGreatDoor.Mu
open Go Go.RowKit Go.Shelf
def qhk(ops:Array Oper)(n s:Nat):Bool:=match qT ops s with
 | some q=>decide (n<=q)
 | none=>true
theorem Filled.late{ops:Array Oper}{listed:Array Bool}{V:Nat->Value}{a0 a:Act}{n:Nat}(h:Filled ops listed V a0 a)(htl:∀ t,n<=t->listed.getD t false=false){s:Nat}(hs:qhk ops n s=true)(hlt:s<a0.tmps.size):a.eval (.tmp s)=a0.eval (.tmp s):=by
 show a.tmps.getD s undef=a0.tmps.getD s undef
 rw[h.2.2 s hlt];unfold qhk at hs;cases hq:qT ops s with
 | none=>rfl
 | some q=>
  rw[hq]at hs;have hn:n<=q:=by simpa using hs
  simp only[htl q hn];rfl
section
variable {P : Program} {Q : Exit -> Act -> World -> Prop}
theorem jw{id:Nat}{l:List Oper}(n:Nat)(a0:Act)(w0:World)(F:Nat->Value->World->Prop)(hm:P.follows .mixedOrders=true)(hB:zn .any l.toArray n=true)(hf:fwdB l.toArray n=true)(hsl:qL l.toArray a0.tmps.size=true)
  (hq:Region.seqB .any l.toArray (l.length-n) n (Array.replicate n true++Array.replicate (l.length-n) false)=true)
  (hmono:∀ i v w w',i<n->F i v w->Bel w w'->F i v w')
  (hstep:∀ i o,i<n->l.toArray[i]?=some o->∀ (a:Act) (w:World) (V:Nat->Value),Bel w0.drew w →
   (∀ e∈o.after,Region.binds .any e=true->F e.on (V e.on) w/\∀ d,(l.toArray[e.on]?).bind (·.dst)=some d->a.eval (.tmp d)=V e.on)->(∀ s,s<a0.tmps.size->qhk l.toArray n s=true->a.eval (.tmp s)=a0.eval (.tmp s)) →
   ∀ K:Act->World->Prop,(∀ v w',Bel w w'->F i v w'->K (a.put o.dst v) w')->(Region.wanted o (yielded l.toArray a.tmps)=true->Oper.wp P o a w K Q)/\(Region.wanted o (yielded l.toArray a.tmps)=false->F i undef w))
  (hend:∀ (V:Nat->Value) (w:World),Bel w0.drew w->(∀ i,i<n->F i (V i) w)->wpList P l.toArray Q (l.drop n) (finA l.toArray n V a0) w) :
  (Code.region id l.toArray true).wp P Q a0 w0:=by
 have hn':n<l.length:=by
  simp only[zn,Bool.and_eq_true,decide_eq_true_eq]at hB;simpa using hB.1.1.2
 refine wp_region_any hm ?_;have inv0:HeadInv .any l.toArray n (Array.replicate l.length false):=
  ⟨by simp,fun j oj _ hl=>(by rw[getD_replicate_false]at hl;cases hl),fun t _ ht=>getD_in (by simpa using ht) (getD_replicate_false _ _)⟩
 have key:=Qc (P:=P) (Q:=Q) (l:=l) (n:=n) (fun listed a w=>listed.size=l.length/\(∀ t,n<=t->listed.getD t false=false)/\Bel w0.drew w/\∃ (V:Nat->Value),Filled l.toArray listed V a0 a/\∀ i,i<n->listed.getD i false=true->F i (V i) w) hB hf hq ?_ ?_ n (Array.replicate l.length false) a0 w0.drew (Qu (by omega)) inv0 ⟨by simp,fun t _=>getD_replicate_false _ _,Bel.refl _,fun _=>undef,⟨rfl,rfl,fun s hs=>by cases qT l.toArray s <;> simp only[getD_replicate_false,Bool.false_eq_true,if_false]⟩,fun i _ hi=>by rw[getD_replicate_false]at hi;cases hi⟩
 ·have e:n+(l.length-n)=l.length:=by omega
  rw[e]at key;simpa using key
 ·rintro listed a w i inv ⟨hsz,htl,hbel,V,hfill,hF⟩ hin hun hr
  obtain⟨_,o,ho,hall⟩:=mem_ready.1 hr;have hKK:∀ v w',Bel w w'->F i v w'->(listed.setIfInBounds i true).size=l.length/\(∀ t,n<=t->(listed.setIfInBounds i true).getD t false=false)/\Bel w0.drew w'/\∃ (V:Nat->Value),Filled l.toArray (listed.setIfInBounds i true) V a0 (a.put o.dst v)/\∀ j,j<n->(listed.setIfInBounds i true).getD j false=true->F j (V j) w':=
   fun v w' hb hFi=>⟨by simpa using hsz,fun t ht=>by rw[getD_set_ne false (by omega)];exact htl t ht,hbel.on hb,fun j=>if j=i then v else V j,hfill.put hsl ho (by omega) v,fun j hj hl=>by
    by_cases e:j=i
    ·subst e;simp only[if_true];exact hFi
    ·simp only[if_neg e]
     rw[getD_set_ne false (fun e'=>e e'.symm)]at hl;exact hmono j _ w w' hj (hF j hj hl) hb⟩
  have hK:=hstep i o hin ho a w V hbel (fun e he hb=>by
   have hl:=hall e he hb;have hen:e.on<n:=by
    rcases Nat.lt_or_ge e.on n with h | h
    ·exact h
    ·rw[htl _ h]at hl;cases hl
   exact⟨hF _ hen hl,fun d hd=>hfill.eval hsl hl hd⟩) (fun s hs hn=>hfill.late htl hn hs)
   (fun a' w'=>(listed.setIfInBounds i true).size=l.length/\(∀ t,n<=t->(listed.setIfInBounds i true).getD t false=false)/\Bel w0.drew w'/\∃ (V:Nat->Value),Filled l.toArray (listed.setIfInBounds i true) V a0 a'/\∀ j,j<n->(listed.setIfInBounds i true).getD j false=true->F j (V j) w')
   hKK
  unfold wpOp;simp only[ho];by_cases hw:Region.wanted o (yielded l.toArray a.tmps)=true
  ·rw[if_pos hw]
   exact .inl (hK.1 hw)
  ·rw[if_neg hw]
   exact hKK undef w (Bel.refl _) (hK.2 (by simpa using hw))
 ·rintro listed a w ⟨hsz,htl,hbel,V,hfill,hF⟩ hall
  rw[hfill.fin hall htl];exact hend V w hbel fun i hi=>hF i hi (hall i hi)
end
end Go.Proofs.YtlmmaoobembadaaGreatDoor.Mu
namespace Go.Proofs.YtlmmaoobembadaaGreatDoor.Mu
set_option maxHeartbeats 1000000
open Go Go.RowKit Go.Shelf
attribute [local go_sem] Oper.semAt_some
set_option linter.unusedVariables false
def capX(d:Nat):Int:=8796093022208*(202-(d:Int))
def ZQ(c:Int)(d:Nat)(f:Tr)(z:Int):Prop:=1<=z/\z<=c/\(z<=9000->z=(f.wt:Int)/\f.depth+d<=201)
def regSz:List Oper:=[
 ⟨some 47,.move (.tmp 5),3,"ref.go:432",#[],none⟩,
 ⟨some 48,.fieldAddr 32 (.tmp 2) 5,0,"ref.go:432",#[],none⟩,
 ⟨some 49,.load 30 (.tmp 48),30,"ref.go:432",#[⟨1,.data⟩],none⟩,
 ⟨some 50,.move (.tmp 7),3,"ref.go:432",#[],none⟩,
 ⟨some 51,.indexAddr 30 (.tmp 49) (.tmp 50),0,"ref.go:432",#[⟨2,.data⟩,⟨3,.data⟩],none⟩,
 ⟨some 52,.fieldAddr 80 (.tmp 51) 0,0,"ref.go:432",#[⟨4,.data⟩],none⟩,
 ⟨some 53,.load 78 (.tmp 52),78,"ref.go:432",#[⟨5,.data⟩],none⟩,
 ⟨some 54,.move (.tmp 1),3,"ref.go:432",#[],none⟩,
 ⟨some 55,.binOp .add 3 (.tmp 54) (.const (Value.int IntKind.i64 1)) 3,3,"ref.go:432",#[⟨7,.data⟩],none⟩,
 ⟨some 56,.call ⟨.value (.func 43),#[.tmp 53,.tmp 55],#[78,3]⟩,3,"ref.go:432",#[⟨6,.data⟩,⟨8,.data⟩],none⟩,
 ⟨some 57,.binOp .add 3 (.tmp 47) (.tmp 56) 3,3,"ref.go:432",#[⟨0,.data⟩,⟨9,.data⟩],none⟩,
 ⟨some 58,.fieldAddr 32 (.tmp 2) 5,0,"ref.go:432",#[],none⟩,
 ⟨some 59,.load 30 (.tmp 58),30,"ref.go:432",#[⟨11,.data⟩],none⟩,
 ⟨some 60,.move (.tmp 7),3,"ref.go:432",#[],none⟩,
 ⟨some 61,.indexAddr 30 (.tmp 59) (.tmp 60),0,"ref.go:432",#[⟨12,.data⟩,⟨13,.data⟩],none⟩,
 ⟨some 62,.fieldAddr 80 (.tmp 61) 1,0,"ref.go:432",#[⟨14,.data⟩],none⟩,
 ⟨some 63,.load 32 (.tmp 62),32,"ref.go:432",#[⟨15,.data⟩],none⟩,
 ⟨some 64,.move (.tmp 1),3,"ref.go:432",#[],none⟩,
 ⟨some 65,.binOp .add 3 (.tmp 64) (.const (Value.int IntKind.i64 1)) 3,3,"ref.go:432",#[⟨17,.data⟩],none⟩,
 ⟨some 66,.call ⟨.value (.func 15),#[.tmp 63,.tmp 65],#[32,3]⟩,3,"ref.go:432",#[⟨16,.data⟩,⟨18,.data⟩,⟨9,.chain⟩],none⟩,
 ⟨some 67,.binOp .add 3 (.tmp 57) (.tmp 66) 3,3,"ref.go:432",#[⟨10,.data⟩,⟨19,.data⟩],none⟩,
 ⟨some 5,.assign (.tmp 67),3,"ref.go:432",#[⟨20,.data⟩,⟨19,.chain⟩,⟨0,.phase⟩,⟨1,.phase⟩,⟨2,.phase⟩,⟨3,.phase⟩,⟨4,.phase⟩,⟨5,.phase⟩,⟨6,.phase⟩,⟨7,.phase⟩,⟨8,.phase⟩,⟨9,.phase⟩,⟨10,.phase⟩,⟨11,.phase⟩,⟨12,.phase⟩,⟨13,.phase⟩,⟨14,.phase⟩,⟨15,.phase⟩,⟨16,.phase⟩,⟨17,.phase⟩,⟨18,.phase⟩,⟨19,.phase⟩,⟨20,.phase⟩],none⟩]
def qeC(bx b1 o1 m ca j d:Nat)(y:Int)(k1 n1 x1 l1 c1 K1 N1 U1 V1 W1:Int)(t1 T1:ByteArray)(A1 F1 G1:Option Addr)(m1 d1 M1 D1 R1 E1:Nat)(g g2:Tr)(i:Nat)(v:Value)(w:World):Prop:=
 match i with
 | 0=>v=.int .i64 y
 | 1=>v=.pointer (some ⟨bx,7,none⟩)
 | 2=>v=.slice (some ⟨b1,o1,none⟩) m ca
 | 3=>v=.int .i64 (j:Int)
 | 4=>v=.pointer (some ⟨b1,o1+j*15,none⟩)
 | 5=>v=.pointer (some ⟨b1,o1+j*15,none⟩)
 | 6=>v=.agg #[.int .u8 k1,t1,n1,x1,l1,c1,.slice A1 m1 d1]
 | 7=>v=.int .i64 (d:Int)
 | 8=>v=.int .i64 ((d:Int)+1)
 | 9=>∃ z:Int,v=.int .i64 z/\ZQ (capP (d+1)) (d+1) g z
 | 10=>∃ z:Int,v=.int .i64 (y+z)/\ZQ (capP (d+1)) (d+1) g z
 | 11=>v=.pointer (some ⟨bx,7,none⟩)
 | 12=>v=.slice (some ⟨b1,o1,none⟩) m ca
 | 13=>v=.int .i64 (j:Int)
 | 14=>v=.pointer (some ⟨b1,o1+j*15,none⟩)
 | 15=>v=.pointer (some ⟨b1,o1+j*15+7,none⟩)
 | 16=>v=.agg #[.int .u8 K1,T1,N1,U1,V1,W1,.slice F1 M1 D1,.slice G1 R1 E1]
 | 17=>v=.int .i64 (d:Int)
 | 18=>v=.int .i64 ((d:Int)+1)
 | 19=>∃ z:Int,v=.int .i64 z/\ZQ (capX (d+1)) (d+1) g2 z
 | 20=>∃ z z2:Int,v=.int .i64 (y+z+z2)/\ZQ (capP (d+1)) (d+1) g z/\ZQ (capX (d+1)) (d+1) g2 z2
 | _=>True
theorem qaN{bx b1 o1 m ca j d:Nat}{y:Int}{k1 n1 x1 l1 c1 K1 N1 U1 V1 W1:Int}{t1 T1:ByteArray}{A1 F1 G1:Option Addr}{m1 d1 M1 D1 R1 E1:Nat}{g g2:Tr}(i:Nat)(v:Value)(w w':World)(hi:i<21)(h:qeC bx b1 o1 m ca j d y k1 n1 x1 l1 c1 K1 N1 U1 V1 W1 t1 T1 A1 F1 G1 m1 d1 M1 D1 R1 E1 g g2 i v w)(hb:Bel w w'):qeC bx b1 o1 m ca j d y k1 n1 x1 l1 c1 K1 N1 U1 V1 W1 t1 T1 A1 F1 G1 m1 d1 M1 D1 R1 E1 g g2 i v w':=by
 match i,hi,h with
 | 0,_,h | 1,_,h | 2,_,h | 3,_,h | 4,_,h | 5,_,h | 6,_,h | 7,_,h | 8,_,h | 9,_,h | 10,_,h | 11,_,h | 12,_,h | 13,_,h | 14,_,h | 15,_,h | 16,_,h | 17,_,h | 18,_,h | 19,_,h | 20,_,h=>exact h
 | q+21,hi,_=>exact absurd hi (by omega)
def qh3(bx b1 o1 m ca j d:Nat)(y:Int)(k1 n1 x1 l1 c1 K1 N1 U1 V1 W1:Int)(t1 T1:ByteArray)(A1 F1 G1:Option Addr)(m1 d1 M1 D1 R1 E1:Nat)(g g2:Tr)(s0 s3 s4 s6 s8 s9 s10 s11 s12 s13 s14 s15 s16 s17 s18 s19 s20 s21 s22 s23 s24 s25 s26 s27 s28 s29 s30 s31 s32 s33 s34 s35 s36 s37 s38 s39 s40 s41 s42 s43 s44 s45 s46 s47 s48 s49 s50 s51 s52 s53 s54 s55 s56 s57 s58 s59 s60 s61 s62 s63 s64 s65 s66 s67 s68:Value)(df:List Deferred):Act:={ tmps:=#[s0,.int .i64 (d:Int),.pointer (some ⟨bx,0,none⟩),s3,s4,.int .i64 y,s6,.int .i64 (j:Int),s8,s9,s10,s11,s12,s13,s14,s15,s16,s17,s18,s19,s20,s21,s22,s23,s24,s25,s26,s27,s28,s29,s30,s31,s32,s33,s34,s35,s36,s37,s38,s39,s40,s41,s42,s43,s44,s45,s46,s47,s48,s49,s50,s51,s52,s53,s54,s55,s56,s57,s58,s59,s60,s61,s62,s63,s64,s65,s66,s67,s68],defers:=df }
def qgz(bx b1 o1 m ca j d:Nat)(y:Int)(k1 n1 x1 l1 c1 K1 N1 U1 V1 W1:Int)(t1 T1:ByteArray)(A1 F1 G1:Option Addr)(m1 d1 M1 D1 R1 E1:Nat)(g g2:Tr)(s0 s3 s4 s6 s8 s9 s10 s11 s12 s13 s14 s15 s16 s17 s18 s19 s20 s21 s22 s23 s24 s25 s26 s27 s28 s29 s30 s31 s32 s33 s34 s35 s36 s37 s38 s39 s40 s41 s42 s43 s44 s45 s46 s47 s48 s49 s50 s51 s52 s53 s54 s55 s56 s57 s58 s59 s60 s61 s62 s63 s64 s65 s66 s67 s68:Value)(df:List Deferred)(V:Nat->Value):Act:={ tmps:=#[s0,.int .i64 (d:Int),.pointer (some ⟨bx,0,none⟩),s3,s4,.int .i64 y,s6,.int .i64 (j:Int),s8,s9,s10,s11,s12,s13,s14,s15,s16,s17,s18,s19,s20,s21,s22,s23,s24,s25,s26,s27,s28,s29,s30,s31,s32,s33,s34,s35,s36,s37,s38,s39,s40,s41,s42,s43,s44,s45,s46,V 0,V 1,V 2,V 3,V 4,V 5,V 6,V 7,V 8,V 9,V 10,V 11,V 12,V 13,V 14,V 15,V 16,V 17,V 18,V 19,V 20,s68],defers:=df }
theorem qcv:zn .any regSz.toArray 21=true:=by kernel_rfl
theorem qd0:fwdB regSz.toArray 21=true:=by kernel_rfl
theorem qaq:qL regSz.toArray 69=true:=by kernel_rfl
theorem qd1:Region.seqB .any regSz.toArray (regSz.length-21) 21 (Array.replicate 21 true++Array.replicate (regSz.length-21) false)=true:=by kernel_rfl
set_option maxRecDepth 100000 in
theorem qdZ{id:Nat}(bx b1 o1 m ca j d:Nat)(y:Int)(k1 n1 x1 l1 c1 K1 N1 U1 V1 W1:Int)(t1 T1:ByteArray)(A1 F1 G1:Option Addr)(m1 d1 M1 D1 R1 E1:Nat)(g g2:Tr)(s0 s3 s4 s6 s8 s9 s10 s11 s12 s13 s14 s15 s16 s17 s18 s19 s20 s21 s22 s23 s24 s25 s26 s27 s28 s29 s30 s31 s32 s33 s34 s35 s36 s37 s38 s39 s40 s41 s42 s43 s44 s45 s46 s47 s48 s49 s50 s51 s52 s53 s54 s55 s56 s57 s58 s59 s60 s61 s62 s63 s64 s65 s66 s67 s68:Value)(df:List Deferred)(w:World)(i1:(0:Int)<=(j:Int))(i2:(j:Int)<(m:Int))(hd:d<=200)(hw:wrap64 ((d:Int)+1)=(d:Int)+1)(hy1:1<=y)(hy9:y<=9000)(h1:b1<w.drew.heap.size)(hx:bx<w.drew.heap.size)(zx:w.drew.cell? ⟨bx,7,none⟩=some (.slice (some ⟨b1,o1,none⟩) m ca))(fa0:w.drew.cell? ⟨b1,o1+j*15,none⟩=some (.int .u8 k1))(fa1:w.drew.cell? ⟨b1,o1+j*15+1,none⟩=some (.string t1))(fa2:w.drew.cell? ⟨b1,o1+j*15+2,none⟩=some (.int .i64 n1))(fa3:w.drew.cell? ⟨b1,o1+j*15+3,none⟩=some (.int .i64 x1))(fa4:w.drew.cell? ⟨b1,o1+j*15+4,none⟩=some (.int .i64 l1))(fa5:w.drew.cell? ⟨b1,o1+j*15+5,none⟩=some (.int .i64 c1))(fa6:w.drew.cell? ⟨b1,o1+j*15+6,none⟩=some (.slice A1 m1 d1))(fa7:w.drew.cell? ⟨b1,o1+j*15+7,none⟩=some (.int .u8 K1))(fa8:w.drew.cell? ⟨b1,o1+j*15+8,none⟩=some (.string T1))(fa9:w.drew.cell? ⟨b1,o1+j*15+9,none⟩=some (.int .i64 N1))(fa10:w.drew.cell? ⟨b1,o1+j*15+10,none⟩=some (.int .i64 U1))(fa11:w.drew.cell? ⟨b1,o1+j*15+11,none⟩=some (.int .i64 V1))(fa12:w.drew.cell? ⟨b1,o1+j*15+12,none⟩=some (.int .i64 W1))(fa13:w.drew.cell? ⟨b1,o1+j*15+13,none⟩=some (.slice F1 M1 D1))(fa14:w.drew.cell? ⟨b1,o1+j*15+14,none⟩=some (.slice G1 R1 E1))(HP:∀ W,Bel w.drew W->Calls Tryz.prog 43 #[.agg #[.int .u8 k1,t1,n1,x1,l1,c1,.slice A1 m1 d1],.int .i64 ((d:Int)+1)] W (jA (capP (d+1)) (d+1) g W))(HX:∀ W,Bel w.drew W->Calls Tryz.prog 15 #[.agg #[.int .u8 K1,T1,N1,U1,V1,W1,.slice F1 M1 D1,.slice G1 R1 E1],.int .i64 ((d:Int)+1)] W (jA (capX (d+1)) (d+1) g2 W))(Q:Exit->Act->World->Prop)
  (hend:∀ (V:Nat->Value) (w':World),Bel w.drew w'->(∃ z z2:Int,(V 20)=.int .i64 (y+z+z2)/\ZQ (capP (d+1)) (d+1) g z/\ZQ (capX (d+1)) (d+1) g2 z2)->wpList Tryz.prog regSz.toArray Q (regSz.drop 21) (qgz bx b1 o1 m ca j d y k1 n1 x1 l1 c1 K1 N1 U1 V1 W1 t1 T1 A1 F1 G1 m1 d1 M1 D1 R1 E1 g g2 s0 s3 s4 s6 s8 s9 s10 s11 s12 s13 s14 s15 s16 s17 s18 s19 s20 s21 s22 s23 s24 s25 s26 s27 s28 s29 s30 s31 s32 s33 s34 s35 s36 s37 s38 s39 s40 s41 s42 s43 s44 s45 s46 s47 s48 s49 s50 s51 s52 s53 s54 s55 s56 s57 s58 s59 s60 s61 s62 s63 s64 s65 s66 s67 s68 df V) w') :
  (Code.region id regSz.toArray true).wp Tryz.prog Q (qh3 bx b1 o1 m ca j d y k1 n1 x1 l1 c1 K1 N1 U1 V1 W1 t1 T1 A1 F1 G1 m1 d1 M1 D1 R1 E1 g g2 s0 s3 s4 s6 s8 s9 s10 s11 s12 s13 s14 s15 s16 s17 s18 s19 s20 s21 s22 s23 s24 s25 s26 s27 s28 s29 s30 s31 s32 s33 s34 s35 s36 s37 s38 s39 s40 s41 s42 s43 s44 s45 s46 s47 s48 s49 s50 s51 s52 s53 s54 s55 s56 s57 s58 s59 s60 s61 s62 s63 s64 s65 s66 s67 s68 df) w:=by
 refine jw (l:=regSz) 21 _ w (qeC bx b1 o1 m ca j d y k1 n1 x1 l1 c1 K1 N1 U1 V1 W1 t1 T1 A1 F1 G1 m1 d1 M1 D1 R1 E1 g g2) (by kernel_rfl) qcv qd0 qaq qd1 (fun i v w w' hi h hb=>qaN i v w w' hi h hb) ?_ ?_
 ·intro i' o hi' ho a w1 V hbel hdep hpar K hK
  have p1:a.eval (.tmp 1)=.int .i64 (d:Int):=hpar 1 (by show 1<69;decide) (by kernel_rfl);have p1':=tD p1;have p2:a.eval (.tmp 2)=.pointer (some ⟨bx,0,none⟩):=hpar 2 (by show 2<69;decide) (by kernel_rfl);have p2':=tD p2;have p5:a.eval (.tmp 5)=.int .i64 y:=hpar 5 (by show 5<69;decide) (by kernel_rfl);have p5':=tD p5;have p7:a.eval (.tmp 7)=.int .i64 (j:Int):=hpar 7 (by show 7<69;decide) (by kernel_rfl);have p7':=tD p7;have ga0:=gX hbel h1 fa0;have ga1:=gX hbel h1 fa1;have ga2:=gX hbel h1 fa2;have ga3:=gX hbel h1 fa3;have ga4:=gX hbel h1 fa4;have ga5:=gX hbel h1 fa5;have ga6:=gX hbel h1 fa6;have ga7:=gX hbel h1 fa7;have ga8:=gX hbel h1 fa8;have ga9:=gX hbel h1 fa9;have ga10:=gX hbel h1 fa10;have ga11:=gX hbel h1 fa11;have ga12:=gX hbel h1 fa12;have ga13:=gX hbel h1 fa13;have ga14:=gX hbel h1 fa14;have zx':=gX hbel hx zx;have hw':IntKind.i64.wrap ((d:Int)+1)=(d:Int)+1:=(IntWalk.i64_left _).trans hw;match i',hi',ho,hdep,hK with
  | 0,_,ho,hdep,hK=>
   simp only[regSz,gT,gZ,gI]at ho;subst ho;exact nG rfl (wV (by simp[execOp,go_sem,p5']) hK rfl)
  | 1,_,ho,hdep,hK=>
   simp only[regSz,gT,gZ,gS,gI]at ho;subst ho;exact nG rfl (wV (by simp[execOp,go_sem,p2']) hK rfl)
  | 2,_,ho,hdep,hK=>
   simp only[regSz,gT,gZ,gS,gI]at ho;subst ho;refine nG rfl ?_;have e1':=tK (t:=48) (hdep ⟨1,.data⟩ (by simp) rfl) rfl;exact wV (by simp[execOp,go_sem,e1',zx']) hK rfl
  | 3,_,ho,hdep,hK=>
   simp only[regSz,gT,gZ,gS,gI]at ho;subst ho;exact nG rfl (wV (by simp[execOp,go_sem,p7']) hK rfl)
  | 4,_,ho,hdep,hK=>
   simp only[regSz,gT,gZ,gS,gI]at ho;subst ho;refine nG rfl ?_;have e2':=tK (t:=49) (hdep ⟨2,.data⟩ (by simp) rfl) rfl;have e3':=tK (t:=50) (hdep ⟨3,.data⟩ (by simp) rfl) rfl;exact wV (by simp[execOp,go_sem,e2',e3',i1,i2]) hK rfl
  | 5,_,ho,hdep,hK=>
   simp only[regSz,gT,gZ,gS,gI]at ho;subst ho;refine nG rfl ?_;have e4':=tK (t:=51) (hdep ⟨4,.data⟩ (by simp) rfl) rfl;exact wV (by simp[execOp,go_sem,e4']) hK rfl
  | 6,_,ho,hdep,hK=>
   simp only[regSz,gT,gZ,gS,gI]at ho;subst ho;refine nG rfl ?_;have e5':=tK (t:=52) (hdep ⟨5,.data⟩ (by simp) rfl) rfl;exact wV (by simp[execOp,go_sem,e5',ga0,ga1,ga2,ga3,ga4,ga5,ga6]) hK rfl
  | 7,_,ho,hdep,hK=>
   simp only[regSz,gT,gZ,gS,gI]at ho;subst ho;exact nG rfl (wV (by simp[execOp,go_sem,p1']) hK rfl)
  | 8,_,ho,hdep,hK=>
   simp only[regSz,gT,gZ,gS,gI]at ho;subst ho;refine nG rfl ?_;have e7':=tK (t:=54) (hdep ⟨7,.data⟩ (by simp) rfl) rfl;exact wV (by simp[execOp,go_sem,e7',hw']) hK rfl
  | 9,_,ho,hdep,hK=>
   simp only[regSz,gT,gZ,gS,gI]at ho;subst ho;refine nG rfl ?_;have e6':=tK (t:=53) (hdep ⟨6,.data⟩ (by simp) rfl) rfl;have e8':=tK (t:=55) (hdep ⟨8,.data⟩ (by simp) rfl) rfl;refine qg (f:=43) (args:=#[.agg #[.int .u8 k1,t1,n1,x1,l1,c1,.slice A1 m1 d1],.int .i64 ((d:Int)+1)]) (by simp[go_sem,e6',e8']) ((HP w1 hbel).mono ?_);rintro e w' ⟨z,rfl,q1,q2,q3,hb⟩;exact⟨_,rfl,hK _ _ hb ⟨z,rfl,q1,q2,q3⟩⟩
  | 10,_,ho,hdep,hK=>
   simp only[regSz,gT,gZ,gS,gI]at ho;subst ho;refine nG rfl ?_;have e0':=tK (t:=47) (hdep ⟨0,.data⟩ (by simp) rfl) rfl;obtain⟨f9,d9⟩:=hdep ⟨9,.data⟩ (by simp) rfl;obtain⟨z9,hv9,hq9⟩:=f9;have e9:a.eval (.tmp 56)=.int .i64 z9:=(d9 56 rfl).trans hv9;have e9':=tD e9;have hw9:IntKind.i64.wrap (y+z9)=y+z9:=(IntWalk.i64_left _).trans (IntWalk.wrap64_in _ (by have:=hq9.1;have:=hq9.2.1;unfold capP at this;omega));exact zj (v:= .int .i64 (y+z9)) (w':=w1) (by simp[execOp,go_sem,e0',e9',hw9]) (hK _ _ (Bel.refl _) ⟨z9,rfl,hq9⟩)
  | 11,_,ho,hdep,hK=>
   simp only[regSz,gT,gZ,gS,gI]at ho;subst ho;exact nG rfl (wV (by simp[execOp,go_sem,p2']) hK rfl)
  | 12,_,ho,hdep,hK=>
   simp only[regSz,gT,gZ,gS,gI]at ho;subst ho;refine nG rfl ?_;have e11':=tK (t:=58) (hdep ⟨11,.data⟩ (by simp) rfl) rfl;exact wV (by simp[execOp,go_sem,e11',zx']) hK rfl
  | 13,_,ho,hdep,hK=>
   simp only[regSz,gT,gZ,gS,gI]at ho;subst ho;exact nG rfl (wV (by simp[execOp,go_sem,p7']) hK rfl)
  | 14,_,ho,hdep,hK=>
   simp only[regSz,gT,gZ,gS,gI]at ho;subst ho;refine nG rfl ?_;have e12':=tK (t:=59) (hdep ⟨12,.data⟩ (by simp) rfl) rfl;have e13':=tK (t:=60) (hdep ⟨13,.data⟩ (by simp) rfl) rfl;exact wV (by simp[execOp,go_sem,e12',e13',i1,i2]) hK rfl
  | 15,_,ho,hdep,hK=>
   simp only[regSz,gT,gZ,gS,gI]at ho;subst ho;refine nG rfl ?_;have e14':=tK (t:=61) (hdep ⟨14,.data⟩ (by simp) rfl) rfl;exact wV (by simp[execOp,go_sem,e14']) hK rfl
  | 16,_,ho,hdep,hK=>
   simp only[regSz,gT,gZ,gS,gI]at ho;subst ho;refine nG rfl ?_;have e15':=tK (t:=62) (hdep ⟨15,.data⟩ (by simp) rfl) rfl;exact wV (by simp[execOp,go_sem,e15',ga7,ga8,ga9,ga10,ga11,ga12,ga13,ga14]) hK rfl
  | 17,_,ho,hdep,hK=>
   simp only[regSz,gT,gZ,gS,gI]at ho;subst ho;exact nG rfl (wV (by simp[execOp,go_sem,p1']) hK rfl)
  | 18,_,ho,hdep,hK=>
   simp only[regSz,gT,gZ,gS,gI]at ho;subst ho;refine nG rfl ?_;have e17':=tK (t:=64) (hdep ⟨17,.data⟩ (by simp) rfl) rfl;exact wV (by simp[execOp,go_sem,e17',hw']) hK rfl
  | 19,_,ho,hdep,hK=>
   simp only[regSz,gT,gZ,gS,gI]at ho;subst ho;refine nG rfl ?_;have e16':=tK (t:=63) (hdep ⟨16,.data⟩ (by simp) rfl) rfl;have e18':=tK (t:=65) (hdep ⟨18,.data⟩ (by simp) rfl) rfl;refine qg (f:=15) (args:=#[.agg #[.int .u8 K1,T1,N1,U1,V1,W1,.slice F1 M1 D1,.slice G1 R1 E1],.int .i64 ((d:Int)+1)]) (by simp[go_sem,e16',e18']) ((HX w1 hbel).mono ?_);rintro e w' ⟨z,rfl,q1,q2,q3,hb⟩;exact⟨_,rfl,hK _ _ hb ⟨z,rfl,q1,q2,q3⟩⟩
  | 20,_,ho,hdep,hK=>
   simp only[regSz,gT,gZ,gS,gI]at ho;subst ho;refine nG rfl ?_;obtain⟨f10,d10⟩:=hdep ⟨10,.data⟩ (by simp) rfl;obtain⟨z10,hv10,hq10⟩:=f10;have e10:a.eval (.tmp 57)=.int .i64 (y+z10):=(d10 57 rfl).trans hv10;have e10':=tD e10;obtain⟨f19,d19⟩:=hdep ⟨19,.data⟩ (by simp) rfl;obtain⟨z19,hv19,hq19⟩:=f19;have e19:a.eval (.tmp 66)=.int .i64 z19:=(d19 66 rfl).trans hv19;have e19':=tD e19;have hw20:IntKind.i64.wrap (y+z10+z19)=y+z10+z19:=(IntWalk.i64_left _).trans (IntWalk.wrap64_in _ (by have:=hq10.1;have a:=hq10.2.1;have:=hq19.1;have b:=hq19.2.1;unfold capP at a;unfold capX at b;omega));exact zj (v:= .int .i64 (y+z10+z19)) (w':=w1) (by simp[execOp,go_sem,e10',e19',hw20]) (hK _ _ (Bel.refl _) ⟨z10,z19,rfl,hq10,hq19⟩)
  | q+21,hi,_,_,_=>exact absurd hi (by omega)
 ·intro V w' hb hF
  have e:finA regSz.toArray 21 V (qh3 bx b1 o1 m ca j d y k1 n1 x1 l1 c1 K1 N1 U1 V1 W1 t1 T1 A1 F1 G1 m1 d1 M1 D1 R1 E1 g g2 s0 s3 s4 s6 s8 s9 s10 s11 s12 s13 s14 s15 s16 s17 s18 s19 s20 s21 s22 s23 s24 s25 s26 s27 s28 s29 s30 s31 s32 s33 s34 s35 s36 s37 s38 s39 s40 s41 s42 s43 s44 s45 s46 s47 s48 s49 s50 s51 s52 s53 s54 s55 s56 s57 s58 s59 s60 s61 s62 s63 s64 s65 s66 s67 s68 df)=qgz bx b1 o1 m ca j d y k1 n1 x1 l1 c1 K1 N1 U1 V1 W1 t1 T1 A1 F1 G1 m1 d1 M1 D1 R1 E1 g g2 s0 s3 s4 s6 s8 s9 s10 s11 s12 s13 s14 s15 s16 s17 s18 s19 s20 s21 s22 s23 s24 s25 s26 s27 s28 s29 s30 s31 s32 s33 s34 s35 s36 s37 s38 s39 s40 s41 s42 s43 s44 s45 s46 s47 s48 s49 s50 s51 s52 s53 s54 s55 s56 s57 s58 s59 s60 s61 s62 s63 s64 s65 s66 s67 s68 df V:=by kernel_rfl
  rw[e];exact hend V w' hb (hF 20 (by omega))
end Go.Proofs.YtlmmaoobembadaaGreatDoor.Mu
namespace Go.Proofs.YtlmmaoobembadaaGreatDoor.Mu
set_option maxHeartbeats 8000000
open Go Go.RowKit
attribute [local go_sem] Oper.semAt_some
set_option linter.unusedVariables false
set_option maxRecDepth 100000
theorem qf1{d t W W' Dp Dp' m0 q:Nat}{z z1 z2:Int}{g h:Tr}(hd:d<=200)(h1:1<=z/\z<=capX d/\(z<=9000->z=((1+t+q+W:Nat):Int)/\1+max m0 Dp+d<=201))(hz:z<=9000)(p:ZQ (capP (d+1)) (d+1) g z1)(r:ZQ (capX (d+1)) (d+1) h z2)(hW:W'=W+(g.wt+h.wt))(hD:Dp'=max Dp (max g.depth h.depth)) :
  1<=z+z1+z2/\z+z1+z2<=capX d/\(z+z1+z2<=9000->z+z1+z2=((1+t+q+W':Nat):Int)/\1+max m0 Dp'+d<=201):=by
 obtain⟨p1,p2,p3⟩:=p;obtain⟨r1,r2,r3⟩:=r;obtain⟨g1,g2,g3⟩:=h1;unfold capP at p2;unfold capX at r2 ⊢;refine⟨by omega,by omega,fun h9=>?_⟩;obtain⟨a1,a2⟩:=g3 hz;obtain⟨b1,b2⟩:=p3 (by omega);obtain⟨c1,c2⟩:=r3 (by omega);clear p2 r2 g2 g3 p3 r3;subst hW hD;exact⟨by omega,by omega⟩
theorem qaC(N:Nat):∀ (d:Nat) (k:Int) (s:List UInt8) (n:Int) (p:Pl) (A:Option Addr) (len cap:Nat) (kids:Tr) (B:Option Addr) (bl bc:Nat) (arms:Tr) (w:World),kids.size+arms.size=N->KidsTr w (OldT w) .ex A len cap kids->KidsTr w (OldT w) .arms B bl bc arms->d<=201->s.length<=140737488355328->kids.len<=140737488355328->arms.len<=140737488355328->kids.fit->arms.fit →
  Calls Tryz.prog 15 #[.agg #[.int .u8 k,.string ⟨s.toArray⟩,n,p.a,p.l,p.c,.slice A len cap,.slice B bl bc],(d:Int)] w (jA (capX d) d (.nod k s n p kids arms .nil) w):=by
 induction N using Nat.strongRecOn with
 | _ N ih=>
  intro d k s n p A len cap kids B bl bc arms w hN h hA hd hs hkl hal hft hfa;have H:=hid h;have HA:=hid hA;have IH:=hid ih;have HL:Hid (len=kids.len):=hid h.1;have HM:Hid (bl=arms.len):=hid hA.1;have HN:=hid hN;have HF:=hid hft;have HFA:=hid hfa;have hlen:len<=140737488355328:=by have:=h.1;omega
  have hbl:bl<=140737488355328:=by have:=hA.1;omega
  obtain⟨S,hS⟩:∃ S:ByteArray,S=⟨s.toArray⟩:=⟨_,rfl⟩
  have hsz:S.size=s.length:=by rw[hS];simp[ByteArray.size]
  rw[<- hS];clear h hA ih hN hft hfa hS hkl hal;by_cases dd:200<d
  case pos=>
   have d1:(200:Int)<(d:Int):=by omega
   go_enter Tryz.func15,Tryz.ntmps15
   go_wp2_with fail
   go_ret
   refine⟨9001,rfl,by decide,?_,fun h=>absurd h (by decide),?_⟩
   ·unfold capX;omega
   ·repeat (first | exact Bel.refl _ | apply Bel.alloc | apply Bel.drew)
  have d1:¬ (200:Int)<(d:Int):=by omega
  have d2:(d:Int)<=200:=by omega
  have HD2:Hid (d<=200):=hid (by omega);obtain⟨t,ht⟩:∃ t:Nat,t=s.length / 64:=⟨_,rfl⟩
  have htl:t<=2199023255552:=by omega
  have hq:wrap64 (1+wrap64 ((s.length:Int) / 64))=((1+t:Nat):Int):=by
   have e1:(s.length:Int) / 64=(t:Int):=by omega
   rw[e1,IntWalk.wrap64_in (t:Int) (by omega),IntWalk.wrap64_in _ (by omega)];omega
  have HT:=hid ht;clear ht hs;go_enter Tryz.func15,Tryz.ntmps15
  go_wp2_with fail
  try rw[hq]
  clear hq;have q1:=blk1 w (.cells #[.int .u8 k,S,n,p.a,p.l,p.c,.slice A len cap,.slice B bl bc] 32);have hb1:Bel w (w.alloc (.cells #[.int .u8 k,S,n,p.a,p.l,p.c,.slice A len cap,.slice B bl bc] 32)):=(Bel.refl w).alloc _;have hs1:(w.alloc (.cells #[.int .u8 k,S,n,p.a,p.l,p.c,.slice A len cap,.slice B bl bc] 32)).heap.size=w.heap.size+1:=by simp
  obtain⟨w1,hw1⟩:∃ w1,w1=w.alloc (.cells #[.int .u8 k,S,n,p.a,p.l,p.c,.slice A len cap,.slice B bl bc] 32):=⟨_,rfl⟩
  rw[<- hw1]at q1 hb1 hs1 ⊢;have HQ:=hid q1;have HB1:=hid hb1;have HS1:=hid hs1;clear q1 hb1 hs1 hw1 hsz;go_loopw [5,6] (fun s i wr=>∃ (j:Nat) (z:Int),j<=len/\i=.int .i64 (j:Int)/\s=.int .i64 z/\Hid (1<=z/\z<=9000+capX (d+1)/\(z<=9000->z=((1+t+kids.wtU j:Nat):Int)/\1+kids.depU j+d<=201))/\Hid (Bel w1 wr)) (fun _ i _=>len-(intOf i).toNat)
  case atStart=>exact⟨0,_,Nat.zero_le _,rfl,rfl,hid ⟨by omega,by unfold capX;omega,fun _=>by rw[Tr.wtU_zero,Tr.depU_zero];exact⟨rfl,by omega⟩⟩,hid (Bel.refl _)⟩
  case round=>
   obtain⟨j,z,hj,rfl,rfl,HI,HB⟩:=hrel;have hbx:=(HB.out.block w.heap.size (by have:=HS1.out;omega)).trans HQ.out;obtain⟨x6,x7⟩:=Qi hbx;clear hbx;by_cases hgo:j<len/\z<=9000
   ·obtain⟨hlt,hz⟩:=hgo
    have hkr:KidsTr wr (OldT w) .ex A len cap kids:=H.out.keep fun i hi=>(HB.out.block i (Nat.lt_of_lt_of_le hi HB1.out.size)).trans (HB1.out.block i hi);obtain⟨ub,uo,eA,hob,hfo⟩:=hkr.2.2 (by omega);subst eA;obtain⟨k',s',n',p',kids',ar',en,hd',⟨A',cap',e5,hcp',hk'⟩,har',_⟩:=TrAt.nod_at (by intro e;cases e) kids j ub uo hfo (by rw[<- HL.out];exact hlt);obtain⟨_,B',bc',e6,hbp',hb'⟩:Sh.ex=.ex/\∃ A cap,wr.cell? ⟨ub,uo+j*Sh.sz .ex+7,none⟩=some (.slice A ar'.len cap)/\ar'.len<=cap/\(0<ar'.len->∃ b' o',A=some ⟨b',o',none⟩/\OldT w b'/\TrAt wr (OldT w) ar' .arms b' o'):=by
     rcases har' with e | ⟨e | e,_⟩
     ·exact e
     ·cases e
     ·cases e
    obtain⟨e0,e1,e2,f1,f2,f3⟩:=hd';have hsn:=Tr.nth_size kids j;have hft':=Tr.nth_fit kids j HF.out;rw[en]at hsn hft';simp only[Tr.size]at hsn;obtain⟨hs',hkl',hal',hfk',hfa',_⟩:=hft';have hOld:∀ i,OldT w i->OldT wr i:=fun i hi=>Nat.lt_of_lt_of_le hi (Nat.le_trans HB1.out.size HB.out.size);have hK':KidsTr wr (OldT w) .ex A' kids'.len cap' kids':=⟨rfl,hcp',hk'⟩
    have hR':KidsTr wr (OldT w) .arms B' ar'.len bc' ar':=⟨rfl,hbp',hb'⟩
    obtain⟨g,hg⟩:∃ g,g=Tr.nod k' s' n' p' kids' ar' .nil:=⟨_,rfl⟩
    have HU:Hid (kids.wtU (j+1)=kids.wtU j+g.wt/\kids.depU (j+1)=max (kids.depU j) g.depth):=hid (by
     rw[Tr.wtU_succ kids j (by rw[<- HL.out];exact hlt),Tr.depU_succ kids j (by rw[<- HL.out];exact hlt),en,hg];exact⟨rfl,rfl⟩)
    have HC:Hid (Calls Tryz.prog 15 #[.agg #[.int .u8 k',.string ⟨s'.toArray⟩,n',p'.a,p'.l,p'.c,.slice A' kids'.len cap',.slice B' ar'.len bc'],.int .i64 ((d:Int)+1)] wr (jA (capX (d+1)) (d+1) g wr)):=hid (by
     rw[hg];exact IH.out (kids'.size+ar'.size) (by have:=HN.out;omega) (d+1) k' s' n' p' A' kids'.len cap' kids' B' ar'.len bc' ar' wr rfl (hK'.wide hOld) (hR'.wide hOld) (by omega) hs' hkl' hal' hfk' hfa')
    obtain⟨l1,hl1⟩:∃ l,l=kids'.len:=⟨_,rfl⟩
    obtain⟨l3,hl3⟩:∃ l,l=ar'.len:=⟨_,rfl⟩
    rw[<- hl1,<- hl3]at HC;rw[<- hl1]at e5;rw[<- hl3]at e6;have i1:(0:Int)<=(j:Int):=by omega
    have i2:(j:Int)<(len:Int):=by omega
    have HLT:=hid hlt;have hw:wrap64 ((d:Int)+1)=(d:Int)+1:=IntWalk.wrap64_in _ (by omega);simp only[Sh.sz,Sh.kd]at e0 e1 e2 e5 e6 f1 f2 f3;clear hkr hfo en hk' hK' hR' hb' hbp' hsn hg hl1 hl3 har' hcp' hOld hob hs' hkl' hal' hfk' hfa';go_wp2_with fail
    refine HC.out.mono ?_;rintro e w2 ⟨z',rfl,hz1,hz2,hz3,hb2⟩;have HB2:=hid (HB.out.on hb2);obtain⟨g1,g2,g3⟩:=HI.out;have hw2:wrap64 (z+z')=z+z':=IntWalk.wrap64_in _ (by unfold capX at *;omega);have HZ':Hid (1<=z+z'/\z+z'<=9000+capX (d+1)/\(z+z'<=9000->z+z'=((1+t+kids.wtU (j+1):Nat):Int)/\1+kids.depU (j+1)+d<=201)):=hid (by
     refine⟨by omega,by omega,fun h9=>?_⟩;obtain⟨a1,a2⟩:=g3 (by omega);obtain⟨b1,b2⟩:=hz3 (by omega);rw[HU.out.1,HU.out.2];exact⟨by omega,by omega⟩)
    clear hb2 e0 e1 e2 e5 e6 f1 f2 f3 x6 x7 hz1 hz2 hz3 g1 g2 g3;go_wp2_with fail
    go_roundw
    case rel=>exact⟨j+1,z+z',HLT.out,by go_num,by first | rfl | rw[hw2],HZ',HB2⟩
    case measure=>have:=HLT.out;simp[intOf];omega
   ·have HI2:Hid (1<=z/\z<=9000+capX (d+1)/\(z<=9000->z=((1+t+kids.wt:Nat):Int)/\1+kids.depth+d<=201)):=hid (by
     obtain⟨g1,g2,g3⟩:=HI.out;refine⟨g1,g2,fun h9=>?_⟩;have hj':j=len:=by
      by_cases hlt:j<len
      ·exact absurd ⟨hlt,h9⟩ hgo
      ·omega
     obtain⟨a1,a2⟩:=g3 h9;rw[hj',HL.out,Tr.wtU_all]at a1;rw[hj',HL.out,Tr.depU_all]at a2;exact⟨a1,a2⟩)
    clear HI;by_cases hlt:j<len
    case' pos=>
     have hz9:9000<z:=by
      by_cases h9:z<=9000
      ·exact absurd ⟨hlt,h9⟩ hgo
      ·omega
    case' neg=>
     have hz9:¬ (j<len):=hlt
    all_goals
     clear hgo;go_wp2_with fail
     go_loopw [5,7] (fun s i wr=>∃ (j:Nat) (z:Int),j<=bl/\i=.int .i64 (j:Int)/\s=.int .i64 z/\Hid (1<=z/\z<=capX d/\(z<=9000->z=((1+t+kids.wt+arms.wtU j:Nat):Int)/\1+max kids.depth (arms.depU j)+d<=201))/\Hid (Bel w1 wr)) (fun _ i _=>bl-(intOf i).toNat)
     case atStart=>exact⟨0,z,Nat.zero_le _,rfl,rfl,hid ⟨HI2.out.1,by have:=HI2.out.2.1;unfold capX at *;omega,fun h9=>by rw[Tr.wtU_zero,Tr.depU_zero,Nat.max_eq_left (Nat.zero_le _)];exact HI2.out.2.2 h9⟩,HB⟩
     case round=>
      obtain⟨j,z,hj2,rfl,rfl,HI,HBs⟩:=hrel;clear hj HB x6 x7 hlt hz9 HI2;have hbx:=(HBs.out.block w.heap.size (by have:=HS1.out;omega)).trans HQ.out;obtain⟨x6,x7⟩:=Qi hbx;clear hbx;by_cases hgo:j<bl/\z<=9000
      ·obtain⟨hlt,hz⟩:=hgo
       have hkr:KidsTr wr (OldT w) .arms B bl bc arms:=HA.out.keep fun i hi=>(HBs.out.block i (Nat.lt_of_lt_of_le hi HB1.out.size)).trans (HB1.out.block i hi);obtain⟨ub,uo,eA,hob,hfo⟩:=hkr.2.2 (by omega);subst eA;obtain⟨k',s',n',p',kids',f',en,_,hd',⟨A',cap',a6,hcp',hk'⟩,hone,hex,_⟩:=TrAt.arm_at arms j ub uo hfo (by rw[<- HM.out];exact hlt);obtain⟨K',S',N',P',kx',ax',rfl⟩:=Tr.single (by intro e;cases e) f' hone hex;obtain⟨hD',⟨F',D',a13,hcx',hkx'⟩,hax',_⟩:=hex;obtain⟨_,B',E',a14,hbp',hb'⟩:Sh.ex=.ex/\∃ A cap,wr.cell? ⟨ub,uo+j*15+7+7,none⟩=some (.slice A ax'.len cap)/\ax'.len<=cap/\(0<ax'.len->∃ b' o',A=some ⟨b',o',none⟩/\OldT w b'/\TrAt wr (OldT w) ax' .arms b' o'):=by
        rcases hax' with e | ⟨e | e,_⟩
        ·exact e
        ·cases e
        ·cases e
       obtain⟨a0,a1,a2,a3,a4,a5⟩:=hd';obtain⟨a7,a8,a9,a10,a11,a12⟩:=hD';have hsn:=Tr.nth_size arms j;have hft':=Tr.nth_fit arms j HFA.out;rw[en]at hsn hft';simp only[Tr.size]at hsn;obtain⟨hs',hkl',hfk',⟨hS',hKl',hAl',hfx',hfa',_⟩,_⟩:=hft';have hOld:∀ i,OldT w i->OldT wr i:=fun i hi=>Nat.lt_of_lt_of_le hi (Nat.le_trans HB1.out.size HBs.out.size);have hK':KidsTr wr (OldT w) .pat A' kids'.len cap' kids':=⟨rfl,hcp',hk'⟩
       have hX':KidsTr wr (OldT w) .ex F' kx'.len D' kx':=⟨rfl,hcx',hkx'⟩
       have hR':KidsTr wr (OldT w) .arms B' ax'.len E' ax':=⟨rfl,hbp',hb'⟩
       obtain⟨g,hg⟩:∃ g,g=Tr.nod k' s' n' p' kids' .nil .nil:=⟨_,rfl⟩
       obtain⟨h,hh⟩:∃ h,h=Tr.nod K' S' N' P' kx' ax' .nil:=⟨_,rfl⟩
       have HU:Hid (arms.wtU (j+1)=arms.wtU j+(g.wt+h.wt)/\arms.depU (j+1)=max (arms.depU j) (max g.depth h.depth)):=hid (by
        rw[Tr.wtU_succ arms j (by rw[<- HM.out];exact hlt),Tr.depU_succ arms j (by rw[<- HM.out];exact hlt),en,hg,hh];simp only[Tr.wt,Tr.depth];exact⟨by omega,by omega⟩)
       have hd1:((d+1:Nat):Int)=(d:Int)+1:=by omega
       have HP:∀ W,Bel wr.drew W->Calls Tryz.prog 43 #[.agg #[.int .u8 k',.string ⟨s'.toArray⟩,n',p'.a,p'.l,p'.c,.slice A' kids'.len cap'],.int .i64 ((d:Int)+1)] W (jA (capP (d+1)) (d+1) g W):=fun W hW=>by
        have hW':Bel wr W:=(Bel.refl wr).drew.on hW;rw[hg,<- hd1];exact JP kids'.size (d+1) k' s' n' p' A' kids'.len cap' kids' W rfl ((hK'.wide hOld).bel hW') (by omega) hs' hkl' hfk'
       have HX:∀ W,Bel wr.drew W->Calls Tryz.prog 15 #[.agg #[.int .u8 K',.string ⟨S'.toArray⟩,N',P'.a,P'.l,P'.c,.slice F' kx'.len D',.slice B' ax'.len E'],.int .i64 ((d:Int)+1)] W (jA (capX (d+1)) (d+1) h W):=fun W hW=>by
        have hn:=HN.out;have hW':Bel wr W:=(Bel.refl wr).drew.on hW;rw[hh,<- hd1];exact IH.out (kx'.size+ax'.size) (by omega) (d+1) K' S' N' P' F' kx'.len D' kx' B' ax'.len E' ax' W rfl ((hX'.wide hOld).bel hW') ((hR'.wide hOld).bel hW') (by omega) hS' hKl' hAl' hfx' hfa'
       obtain⟨l1,hl1⟩:∃ l,l=kids'.len:=⟨_,rfl⟩
       obtain⟨l2,hl2⟩:∃ l,l=kx'.len:=⟨_,rfl⟩
       obtain⟨l3,hl3⟩:∃ l,l=ax'.len:=⟨_,rfl⟩
       rw[<- hl1]at a6 HP;rw[<- hl2]at a13;rw[<- hl3]at a14;rw[<- hl2,<- hl3]at HX;have i1:(0:Int)<=(j:Int):=by omega
       have i2:(j:Int)<(bl:Int):=by omega
       have kb1:ub<wr.heap.size:=hOld _ hob;have kb3:w.heap.size<wr.heap.size:=by have:=HS1.out;have:=HBs.out.size;omega
       have HLT:=hid hlt;have hw:wrap64 ((d:Int)+1)=(d:Int)+1:=IntWalk.wrap64_in _ (by omega);simp only[Sh.kd]at a9;clear hkr hfo en hk' hK' hX' hR' hb' hkx' hsn hg hh hl1 hl2 hl3 hOld hob hcp' hcx' hbp' hax' hone hs' hkl' hfk' hS' hKl' hAl' hfx' hfa' hd1;go_wp2_with fail
       refine qdZ w.heap.size ub uo bl bc j d z k' n' p'.a p'.l p'.c K' N' P'.a P'.l P'.c ⟨s'.toArray⟩ ⟨S'.toArray⟩ A' F' B' l1 cap' l2 D' l3 E' g h _ _ _ _ _ _ _ _ _ _ _ _ _ _ _ _ _ _ _ _ _ _ _ _ _ _ _ _ _ _ _ _ _ _ _ _ _ _ _ _ _ _ _ _ _ _ _ _ _ _ _ _ _ _ _ _ _ _ _ _ _ _ _ _ _ _ wr i1 i2 HD2.out hw HI.out.1 hz kb1 kb3 x7 a0 a1 a2 a3 a4 a5 a6 a7 a8 a9 a10 a11 a12 a13 a14 HP HX _ ?_;rintro V w4 hb4 ⟨z1,z2,hv,HPQ,HRQ⟩;simp only[regSz,List.drop_succ_cons,List.drop_zero,qgz,hv];have HB4:=hid (HBs.out.drew.on hb4);have HZ':Hid (1<=z+z1+z2/\z+z1+z2<=capX d/\(z+z1+z2<=9000->z+z1+z2=((1+t+kids.wt+arms.wtU (j+1):Nat):Int)/\1+max kids.depth (arms.depU (j+1))+d<=201)):=hid (qf1 HD2.out HI.out hz HPQ HRQ HU.out.1 HU.out.2);clear hb4 hv HPQ HRQ x6 x7 a0 a1 a2 a3 a4 a5 a6 a7 a8 a9 a10 a11 a12 a13 a14 HP HX;go_wp2_with fail
       go_roundw
       case rel=>exact⟨j+1,z+z1+z2,HLT.out,by go_num,rfl,HZ',HB4⟩
       case measure=>have:=HLT.out;simp[intOf];omega
      ·obtain⟨g1,g2,g3⟩:=HI.out
       have HF2:Hid (jA (capX d) d (.nod k s n p kids arms .nil) w (.returned (.int .i64 z)) wr):=hid ⟨z,rfl,g1,g2,fun h9=>by
        have hj':j=bl:=by
         by_cases hlt:j<bl
         ·exact absurd ⟨hlt,h9⟩ hgo
         ·omega
        obtain⟨a1,a2⟩:=g3 h9;rw[hj',HM.out,Tr.wtU_all]at a1;rw[hj',HM.out,Tr.depU_all]at a2;simp only[Tr.wt,Tr.depth];have:=HT.out;exact⟨by omega,by omega⟩,HB1.out.on HBs.out⟩
       clear g1 g2 g3;by_cases hlt:j<bl
       ·have hz9:9000<z:=by
         by_cases h9:z<=9000
         ·exact absurd ⟨hlt,h9⟩ hgo
         ·omega
        clear hgo;go_wp2_with fail
        go_ret
        exact HF2.out
       ·clear hgo
        go_wp2_with fail
        go_ret
        exact HF2.out
end Go.Proofs.YtlmmaoobembadaaGreatDoor.Mu
