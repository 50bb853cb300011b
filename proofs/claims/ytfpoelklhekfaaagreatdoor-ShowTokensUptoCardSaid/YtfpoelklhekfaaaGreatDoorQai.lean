import Derived.Test.YtfpoelklhekfaaaGreatDoorQag
import Derived.Test.YtfpoelklhekfaaaGreatDoorQah
open Go.Lib (hid)
namespace Go.Proofs.YtfpoelklhekfaaaGreatDoor.Mu
set_option maxHeartbeats 4000000
open Go Go.RowKit Go.Shelf
attribute [local go_sem] Oper.semAt_some
set_option linter.unusedVariables false
set_option maxRecDepth 100000
theorem qbI(k:Int)(s:List UInt8)(n:Int)(p:Pl)(A:Option Addr)(l c:Nat)(k2:Int)(s2:List UInt8)(n2:Int)(p2:Pl)(A2:Option Addr)(l2 c2:Nat)(w:World) :
  Calls Tryz.prog 88 #[.agg #[.int .u8 k,.string ⟨s.toArray⟩,n,p.a,p.l,p.c,.slice A l c],.agg #[.int .u8 k2,.string ⟨s2.toArray⟩,n2,p2.a,p2.l,p2.c,.slice A2 l2 c2]] w (qz (decide (k=k2)&&decide (s=s2)&&decide (n=n2)) w):=by
 have hne:s≠s2->(⟨s.toArray⟩:ByteArray).toList≠(⟨s2.toArray⟩:ByteArray).toList:=qbs;by_cases dk:k=k2
 case neg=>
  have e:(decide (k=k2)&&decide (s=s2)&&decide (n=n2))=false:=by simp[dk]
  rw[e];have ek:(k==k2)=false:=by simpa using dk
  clear hne e;go_enter Tryz.func88,Tryz.ntmps88
  go_wp2_with fail
  go_ret
  exact⟨rfl,((Bel.refl w).alloc _).alloc _⟩
 subst dk;by_cases ds:s=s2
 case neg=>
  have e:(decide (k=k)&&decide (s=s2)&&decide (n=n2))=false:=by simp[ds]
  rw[e];obtain⟨S,hS⟩:∃ S:ByteArray,S=⟨s.toArray⟩:=⟨_,rfl⟩
  obtain⟨S2,hS2⟩:∃ S:ByteArray,S=⟨s2.toArray⟩:=⟨_,rfl⟩
  have qn:=hne ds;rw[<- hS,<- hS2]at qn;rw[<- hS,<- hS2];have qb:(S.toList==S2.toList)=false:=by simpa using qn
  clear hne e hS hS2 ds;go_enter Tryz.func88,Tryz.ntmps88
  go_wp2_with fail
  go_ret
  exact⟨rfl,((Bel.refl w).alloc _).alloc _⟩
 subst ds;have e:(decide (k=k)&&decide (s=s)&&decide (n=n2))=(n==n2):=by by_cases h:n=n2 <;> simp[h]
 rw[e];obtain⟨S,hS⟩:∃ S:ByteArray,S=⟨s.toArray⟩:=⟨_,rfl⟩
 rw[<- hS];clear hne e hS;go_enter Tryz.func88,Tryz.ntmps88
 go_wp2_with fail
 go_ret
 exact⟨rfl,((Bel.refl w).alloc _).alloc _⟩
theorem qgy(A:Option Addr)(n c:Nat)(B:Option Addr)(m d:Nat)(f g:Tr)(w:World)(hk:KidsTr w (OldT w) .pat A n c f)(hk2:KidsTr w (OldT w) .pat B m d g)(hsz:f.size<=1000000)(hsz2:g.size<=1000000) :
  Calls Tryz.prog 122 #[.slice A n c,.slice B m d,.func (.func 88) #[] #[]] w (qz (f.hds (fun _ _=>true) g) w):=by
 have H:=hid hk;have H2:=hid hk2;have HL:Hid (n=f.len):=hid hk.1;have HL2:Hid (m=g.len):=hid hk2.1;have HSZ:=hid (And.intro hsz hsz2);have hn:n<=1000000:=by have:=hk.1;have:=f.len_le;omega
 have hm:m<=1000000:=by have:=hk2.1;have:=g.len_le;omega
 obtain⟨r,hr⟩:∃ r,r=f.hds (fun _ _=>true) g:=⟨_,rfl⟩
 rw[<- hr];have HR:=hid hr;clear hk hk2 hsz hsz2 hr;have eg:∀ args w,(callFunc 88 args).run Tryz.prog w=.ok (.enter 88 args) w:=fun args w=>by kernel_rfl
 by_cases hnm:n=m
 case neg=>
  obtain rfl:r=false:=by
   rw[HR.out,Bool.eq_false_iff];intro h;have:=Tr.hds_len _ _ _ h;exact hnm (by rw[HL.out,HL2.out,this])
  have e0:((n:Int) != (m:Int))=true:=by simp;omega
  go_enter Tryz.func122,Tryz.ntmps122
  go_wp2_with fail
  go_ret
  exact⟨rfl,Bel.refl _⟩
 subst hnm;go_enter Tryz.func122,Tryz.ntmps122
 go_wp2_with fail
 go_loopw [17] (fun i wr=>∃ j:Nat,j<=n/\i=.int .i64 (j:Int)/\Hid (r=(f.drp j).hds (fun _ _=>true) (g.drp j))/\Hid (Bel w wr)) (fun i _=>n-(intOf i).toNat)
 case atStart=>exact⟨0,Nat.zero_le _,rfl,hid (by rw[Tr.drp_zero,Tr.drp_zero];exact HR.out),hid (Bel.refl _)⟩
 case round=>
  obtain⟨j,hj,rfl,HRJ,HB⟩:=hrel;by_cases hlt:j<n
  ·obtain⟨ub,uo,eA,hob,hfo⟩:=(H.out.bel HB.out).2.2 (by omega)
   obtain⟨ub2,uo2,eA2,hob2,hfo2⟩:=(H2.out.bel HB.out).2.2 (by omega);subst eA eA2;obtain⟨k,s,nn,p,kids,arms,en,hd⟩:=TrAt.nod_at (by intro e;cases e) f j ub uo hfo (by rw[<- HL.out];exact hlt);obtain⟨k2,s2,nn2,p2,kids2,arms2,en2,hd2⟩:=TrAt.nod_at (by intro e;cases e) g j ub2 uo2 hfo2 (by rw[<- HL2.out];exact hlt);obtain⟨A',ca',B',cb',hc,hk',ha',_⟩:=hd.parts;obtain⟨A2',ca2',B2',cb2',hc2,hk2',ha2',_⟩:=hd2.parts;have hsn:=Tr.nth_size f j;have hsn2:=Tr.nth_size g j;rw[en]at hsn;rw[en2]at hsn2;simp only[Tr.size]at hsn hsn2;obtain⟨hb,hhb⟩:∃ hb,hb=(decide (k=k2)&&decide (s=s2)&&decide (nn=nn2)&&(fun _ _=>true:Tr->Tr->Bool) arms arms2):=⟨_,rfl⟩
   have HRN:Hid (r=(hb&&(f.drp (j+1)).hds (fun _ _=>true) (g.drp (j+1)))):=hid (by
    rw[HRJ.out,Tr.drp_at f j en,Tr.drp_at g j en2,hhb];rfl)
   have HC:Hid (∀ W,Bel wr W->Calls Tryz.prog 88 #[.agg #[.int .u8 k,.string ⟨s.toArray⟩,nn,p.a,p.l,p.c,.slice A' kids.len ca'],.agg #[.int .u8 k2,.string ⟨s2.toArray⟩,nn2,p2.a,p2.l,p2.c,.slice A2' kids2.len ca2']] W (qz hb W)):=hid fun W hW=>by
    rw[hhb];rw[Bool.and_true];exact qbI k s nn p A' kids.len ca' k2 s2 nn2 p2 A2' kids2.len ca2' W
   have y0:=hc 0 _ rfl;have y1:=hc 1 _ rfl;have y2:=hc 2 _ rfl;have y3:=hc 3 _ rfl;have y4:=hc 4 _ rfl;have y5:=hc 5 _ rfl;have y6:=hc 6 _ rfl;have z0:=hc2 0 _ rfl;have z1:=hc2 1 _ rfl;have z2:=hc2 2 _ rfl;have z3:=hc2 3 _ rfl;have z4:=hc2 4 _ rfl;have z5:=hc2 5 _ rfl;have z6:=hc2 6 _ rfl;simp only[Nat.add_zero,Sh.kd,Sh.sz]at y0 y1 y2 y3 y4 y5 y6 z0 z1 z2 z3 z4 z5 z6;obtain⟨l1,hl1⟩:∃ l,l=kids.len:=⟨_,rfl⟩
   obtain⟨l2,hl2⟩:∃ l,l=kids2.len:=⟨_,rfl⟩
   obtain⟨l3,hl3⟩:∃ l,l=arms.len:=⟨_,rfl⟩
   obtain⟨l4,hl4⟩:∃ l,l=arms2.len:=⟨_,rfl⟩
   obtain⟨SS,hSS⟩:∃ S:ByteArray,S=⟨s.toArray⟩:=⟨_,rfl⟩
   obtain⟨SS2,hSS2⟩:∃ S:ByteArray,S=⟨s2.toArray⟩:=⟨_,rfl⟩
   rw[<- hSS,<- hSS2,<- hl1,<- hl2]at HC;rw[<- hSS]at y1;rw[<- hSS2]at z1;rw[<- hl1]at y6;rw[<- hl2]at z6;skip
   have i1:(0:Int)<=(j:Int):=by omega
   have i2:(j:Int)<(n:Int):=by omega
   have HLT:=hid hlt;clear hc hc2 hk' hk2' ha' ha2' hsn hsn2 en en2 hd hd2 hfo hfo2 hl1 hl2 hl3 hl4 hSS hSS2 hhb;have hob':ub<wr.heap.size:=hob;have hob2':ub2<wr.heap.size:=hob2;clear hob hob2;go_wp2_with fail
   refine (HC.out _ (((Bel.refl wr).alloc _).alloc _)).mono ?_;rintro e w3 ⟨rfl,hb3⟩;have HB3:=hid (((HB.out.alloc _).alloc _).on hb3);clear hb3 HC y0 y1 y2 y3 y4 y5 y6 z0 z1 z2 z3 z4 z5 z6;cases hb
   ·obtain rfl:r=false:=by rw[HRN.out];rfl
    go_wp2_with fail
    go_ret
    exact⟨rfl,HB3.out⟩
   ·have HR':Hid (r=(f.drp (j+1)).hds (fun _ _=>true) (g.drp (j+1))):=hid (by rw[HRN.out];rfl)
    go_wp2_with fail
    go_roundw
    case rel=>exact⟨j+1,HLT.out,by go_num,HR',HB3⟩
    case measure=>have:=HLT.out;simp[intOf];omega
  ·obtain rfl:j=n:=by omega
   obtain rfl:r=true:=by rw[HRJ.out,Tr.drp_end f j (by rw[<- HL.out];exact Nat.le_refl _),Tr.drp_end g j (by rw[<- HL2.out];exact Nat.le_refl _)];rfl
   go_wp2_with fail
   go_ret
   exact⟨rfl,HB.out⟩
theorem qe2:(Tryz.prog.info? 215).map (fun i=>(i.zero,i.size,i.bytes))=some (some (.agg #[.slice none 0 0,.slice none 0 0]),2,48):=by kernel_rfl
theorem qd0(A:Option Addr)(n c:Nat)(B:Option Addr)(m d:Nat)(f g:Tr)(w:World)(hk:KidsTr w (OldT w) .pat A n c f)(hk2:KidsTr w (OldT w) .pat B m d g)(hsz:f.size<=1000000)(hsz2:g.size<=1000000) :
  Calls Tryz.prog 87 #[.slice A n c,.slice B m d,.func (.func 73) #[] #[],.func (.func 88) #[] #[]] w (qz (f.same g) w):=by
 have HK:=hid hk;have HK2:=hid hk2;have HSZ:=hid (And.intro hsz hsz2);obtain⟨r,hr⟩:∃ r,r=f.same g:=⟨_,rfl⟩
 rw[<- hr];have HR:=hid hr;have HN:=hid (And.intro hk.1 hk2.1);clear hk hk2 hsz hsz2 hr;obtain⟨i0,hi0,hz0,hz1,hz2⟩:=info_parts qe2;have eg:∀ args w,(callFunc 88 args).run Tryz.prog w=.ok (.enter 88 args) w:=fun args w=>by kernel_rfl
 have ek:∀ args w,(callFunc 73 args).run Tryz.prog w=.ok (.enter 73 args) w:=fun args w=>by kernel_rfl
 go_enter Tryz.func87,Tryz.ntmps87
 go_wp2_with fail
 obtain⟨base,hbase⟩:∃ base,base=w.heap.size:=⟨_,rfl⟩
 obtain⟨w1,hw1⟩:∃ w1,w1=w.alloc (.cells #[.slice A n c,.slice B m d] 215):=⟨_,rfl⟩
 have hb1:Bel w w1:=by rw[hw1];exact (Bel.refl w).alloc _
 have hq1:w1.heap[base]?=some (.cells #[.slice A n c,.slice B m d] 215 (0,0)):=by rw[hw1,hbase];exact blk1 w _
 have hs1:w1.heap.size=base+1:=by rw[hw1,hbase];simp
 rw[<- hw1,<- hbase];have HBS:=hid hbase;have HB1:=hid hb1;have HB2:Hid (base<=w1.heap.size):=hid (by omega);have HRW:Hid (w1.ownsRow base 215 2 (.slice (some ⟨base,0,none⟩) 1 1) 1 (prV [⟨⟨A,c,f⟩,⟨B,d,g⟩⟩])):=hid ⟨rfl,.inr ⟨base,1,_,rfl,Nat.le_refl _,hq1,Nat.le_refl _,by unfold maxLen;omega,rfl,by simp[prV,Pr.cells,It.val,<- HN.out.1,<- HN.out.2]⟩⟩;have HPI:Hid (PrI w1 (some ⟨base,0,none⟩) .pat [⟨⟨A,c,f⟩,⟨B,d,g⟩⟩]):=hid (by
  intro x hx;simp at hx;subst hx;have hw:∀ j,OldT w j->OkI w1 (fun _=>False) (some ⟨base,0,none⟩) j:=fun j hj=>⟨Nat.lt_of_lt_of_le hj hb1.size,fun h=>h,fun o e=>by cases e;have:base<w.heap.size:=hj;omega⟩
  have k1:=HK.out;have k2:=HK2.out;rw[HN.out.1]at k1;rw[HN.out.2]at k2;exact⟨⟨(k1.keep fun j hj=>hb1.block j hj).wide hw,HSZ.out.1⟩,⟨(k2.keep fun j hj=>hb1.block j hj).wide hw,HSZ.out.2⟩⟩)
 have HRA:Hid (r=allP [⟨⟨A,c,f⟩,⟨B,d,g⟩⟩]):=hid (by rw[HR.out];simp[allP]);have HMP:Hid (msP [⟨⟨A,c,f⟩,⟨B,d,g⟩⟩]<=1000001):=hid (by have:=HSZ.out.1;simp only[msP];omega);clear hb1 hq1 hs1 hw1 hbase HK HK2 HSZ HR HN;go_loopg [9] (msP [⟨⟨A,c,f⟩,⟨B,d,g⟩⟩]) (fun gk v wr=>∃ (S:List Pr) (A:Option Addr) (cc m:Nat),v=.slice A m cc/\Hid (m=S.length)/\Hid (gk=msP S)/\Hid (msP S<=1000001)/\Hid (wr.ownsRow base 215 2 (.slice A m cc) m (prV S))/\Hid (PrI wr A .pat S)/\Hid (r=allP S)/\Hid (Bel w wr)/\Hid (base<=wr.heap.size))
 case atStart=>exact⟨_,_,_,_,rfl,hid rfl,hid rfl,HMP,HRW,HPI,HRA,HB1,HB2⟩
 case round=>
  clear HRW HPI HRA HB1 HB2 HMP;obtain⟨S,A,cc,m,rfl,HM,HGK,HMS,HRW,HPI,HRA,HB,HBL⟩:=hrel;cases S with
  | nil=>
   obtain rfl:m=0:=HM.out;obtain rfl:r=true:=by rw[HRA.out];rfl
   go_wp2_with fail
   go_ret
   exact⟨rfl,HB.out⟩
  | cons x S=>
   obtain⟨mm,hmm⟩:∃ mm,mm=S.length:=⟨_,rfl⟩
   have hm:m=mm+1:=by rw[hmm];exact HM.out
   subst hm;obtain⟨g',eA,hbg,hgl,hcc,hcm,hca,hcb,hrow⟩:=qfX hmm HRW.out;subst eA;obtain⟨⟨xA,xc,xf⟩,⟨yA,yc,yf⟩⟩:=x;obtain⟨⟨kx,sx⟩,⟨ky,sy⟩⟩:=HPI.out _ List.mem_cons_self;simp only at kx ky sx sy;obtain⟨xl,hxl⟩:∃ l,l=xf.len:=⟨_,rfl⟩
   obtain⟨yl,hyl⟩:∃ l,l=yf.len:=⟨_,rfl⟩
   simp only[It.val,<- hxl]at hca;simp only[It.val,<- hyl]at hcb;rw[<- hxl]at kx;rw[<- hyl]at ky;obtain⟨hb,hhb⟩:∃ hb,hb=xf.hds (fun _ _=>true) yf:=⟨_,rfl⟩
   have hOld:∀ j,OkI wr (fun _=>False) (some ⟨g',0,none⟩) j->OldT wr j:=fun j hj=>hj.1;have HE:Hid (∀ W,Bel wr W->Calls Tryz.prog 122 #[.slice xA xl xc,.slice yA yl yc,.func (.func 88) #[] #[]] W (qz hb W)):=hid fun W hW=>by
    rw[hhb];exact qgy xA xl xc yA yl yc xf yf W ((kx.wide hOld).bel hW) ((ky.wide hOld).bel hW) sx sy
   have HSP:Hid (r=((hb&&xf.kidsSame yf)&&allP S)):=hid (by
    rw[HRA.out];simp only[allP,List.all_cons];rw[hhb,<- Tr.same_bare xf yf (kx.bare (.inl rfl)) (ky.bare (.inl rfl)) (kx.isNods (by intro e;cases e)) (ky.isNods (by intro e;cases e)) kx.ok ky.ok])
   have HKX:=hid kx;have HKY:=hid ky;have HSXY:=hid (And.intro sx sy);have HHB:=hid hhb;have HXL:=hid hxl;have HYL:=hid hyl;have HROW:=hid hrow;have HBG:=hid hbg;have HMM:=hid hmm;have hm63:mm+1<=9223372036854775807:=by unfold maxLen at hcm;omega
   have i0':(0:Int)<=(mm:Int):=by omega
   have i1:(mm:Int)<(mm:Int)+1:=by omega
   have i4:(mm:Int)<=(cc:Int):=by omega
   have z0:=qa hgl hca;have z1:=qa hgl hcb;clear kx ky sx sy hhb hxl hyl hrow hbg hmm hcm hOld HRW HRA;go_wp2_with fail
   go_quiet (fail)
   have HB4:Hid (∀ k,Bel wr (wr.drewN k)):=hid fun k=>(Bel.refl wr).drewN k;go_wp2_with fail
   clear z0 z1 hca hcb;refine (HE.out _ (HB4.out _)).mono ?_;rintro e w5 ⟨rfl,hb5⟩;have HB5:=hid ((HB4.out _).on hb5);have HBW5:=hid (HB.out.on ((HB4.out _).on hb5));clear hb5 HE HB4;cases hb
   ·obtain rfl:r=false:=by rw[HSP.out];rfl
    go_wp2_with fail
    go_ret
    exact⟨rfl,HBW5.out⟩
   ·have hlen:xl=yl:=by rw[HXL.out,HYL.out];exact Tr.hds_len _ _ _ HHB.out.symm
    subst hlen;have hxl2:xl<=1000000:=by rw[HXL.out];have:=xf.len_le;have:=HSXY.out.1;omega
    have hst:∀ j,OkI wr (fun _=>False) (some ⟨g',0,none⟩) j->w5.heap[j]?=wr.heap[j]?:=fun j hj=>HB5.out.block j hj.1;have HIN:Hid (KidsTr w5 (OkI w5 (fun _=>False) (some ⟨g',0,none⟩)) .pat xA xl xc xf/\KidsTr w5 (OkI w5 (fun _=>False) (some ⟨g',0,none⟩)) .pat yA xl yc yf):=hid ⟨HKX.out.stepI HB5.out.size hst (fun _ h=>h.elim) (fun j o e=> .inl ⟨o,e⟩),HKY.out.stepI HB5.out.size hst (fun _ h=>h.elim) (fun j o e=> .inl ⟨o,e⟩)⟩;have HPS:Hid (PrI w5 (some ⟨g',0,none⟩) .pat S):=hid (PrI.step (fun y hy=>HPI.out y (List.mem_cons_of_mem _ hy)) HB5.out.size hst (fun j o e=> .inl ⟨o,e⟩));have HRO:Hid (w5.ownsRow base 215 2 (.slice (some ⟨g',0,none⟩) mm cc) mm (prV S)):=hid (qp HROW.out HB5.out);have HBL5:Hid (base<=w5.heap.size):=hid (Nat.le_trans HBL.out HB5.out.size);have HRI:Hid (r=(allP S&&(xf.drp 0).kidsSame (yf.drp 0))):=hid (by rw[Tr.drp_zero,Tr.drp_zero,HSP.out,Bool.true_and,Bool.and_comm]);have HMI:Hid (msP S+(xf.drp 0).size<=msP S+xf.size):=hid (by rw[Tr.drp_zero];exact Nat.le_refl _);have HMB:Hid (msP S+xf.size<=1000000):=hid (by have:=HMS.out;simp only[msP]at this;omega);have HM':=HMM;clear hst HKX HKY HB5 HPI HROW HSP HHB;go_wp2_with fail
    go_loopw [9,48] (fun v iv wx=>∃ (q:Nat) (S2:List Pr) (A2:Option Addr) (c2 m2:Nat),q<=xl/\iv=.int .i64 (q:Int)/\v=.slice A2 m2 c2/\Hid (m2=S2.length)/\Hid (wx.ownsRow base 215 2 (.slice A2 m2 c2) m2 (prV S2))/\Hid (PrI wx A2 .pat S2)/\Hid (KidsTr wx (OkI wx (fun _=>False) A2) .pat xA xl xc xf/\KidsTr wx (OkI wx (fun _=>False) A2) .pat yA xl yc yf)/\Hid (r=(allP S2&&(xf.drp q).kidsSame (yf.drp q)))/\Hid (msP S2+(xf.drp q).size<=msP S+xf.size)/\Hid (Bel w wx)/\Hid (base<=wx.heap.size)) (fun _ i _=>xl-(intOf i).toNat)
    case atStart=>exact⟨0,S,_,_,_,Nat.zero_le _,rfl,rfl,HMM,HRO,HPS,HIN,HRI,HMI,HBW5,HBL5⟩
    case round=>
     clear HRO HPS HIN HRI HMI HBW5 HBL5;obtain⟨q,S2,A2,c2,m2,hq,rfl,rfl,HM2,HR2,HP2,HI2,HRR,HMM2,HBW,HBLX⟩:=hrel;obtain⟨wx,rfl⟩:∃ wx:World,wx=wr:=⟨_,rfl⟩
     by_cases hlt:q<xl
     ·obtain⟨ub,uo,eA,hob,hfo⟩:=HI2.out.1.2.2 (by omega)
      obtain⟨ub2,uo2,eA2,hob2,hfo2⟩:=HI2.out.2.2.2 (by omega);subst eA eA2;obtain⟨k,s,nn,p,kids,arms,en,hd⟩:=TrAt.nod_at (by intro e;cases e) xf q ub uo hfo (by rw[<- HXL.out];exact hlt);obtain⟨k2,s2,nn2,p2,kids2,arms2,en2,hd2⟩:=TrAt.nod_at (by intro e;cases e) yf q ub2 uo2 hfo2 (by rw[<- HYL.out];exact hlt);obtain⟨A',ca',B',cb',hc,hk',ha',_⟩:=hd.parts;obtain⟨A2',ca2',B2',cb2',hc2,hk2',ha2',_⟩:=hd2.parts;have hdq:=Tr.drp_at xf q en;have hdq2:=Tr.drp_at yf q en2;have hdsz:=Tr.drp_size xf q;have hdsz2:=Tr.drp_size yf q;rw[hdq]at hdsz;rw[hdq2]at hdsz2;simp only[Tr.size]at hdsz hdsz2;have sx1:=HSXY.out.1;have sy1:=HSXY.out.2;obtain⟨F1,hF1⟩:∃ F,F=kids.app arms.exs:=⟨_,rfl⟩
      obtain⟨F2,hF2⟩:∃ F,F=kids2.app arms2.exs:=⟨_,rfl⟩
      have HF:Hid (r=(allP S2&&(F1.same F2&&(xf.drp (q+1)).kidsSame (yf.drp (q+1))))):=hid (by
       rw[HRR.out,hdq,hdq2,hF1,hF2];rfl)
      have hex:=Tr.exs_size arms;have hex2:=Tr.exs_size arms2;have HF1:Hid (F1.size<=kids.size+arms.size/\F2.size<=1000000/\F1.size<=1000000):=hid (by rw[hF1,hF2,Tr.app_size,Tr.app_size];omega);have HMQ:Hid (msP S2+(1+F1.size+(xf.drp (q+1)).size)<=msP S+xf.size):=hid (by
       have h:=HMM2.out;rw[hdq]at h;simp only[Tr.size]at h;have:=HF1.out.1;omega)
      have HC1:Hid (∀ W,Bel wx W->Calls Tryz.prog 73 #[.agg #[.int .u8 k,.string ⟨s.toArray⟩,nn,p.a,p.l,p.c,.slice A' kids.len ca']] W fun e w'=>e=.returned (.slice A' kids.len ca')/\Bel W w'):=hid fun W hW=>zJ k s nn p A' kids.len ca' W;have HC2:Hid (∀ W,Bel wx W->Calls Tryz.prog 73 #[.agg #[.int .u8 k2,.string ⟨s2.toArray⟩,nn2,p2.a,p2.l,p2.c,.slice A2' kids2.len ca2']] W fun e w'=>e=.returned (.slice A2' kids2.len ca2')/\Bel W w'):=hid fun W hW=>zJ k2 s2 nn2 p2 A2' kids2.len ca2' W;have HKK:Hid ((KidsTr wx (OkI wx (fun _=>False) A2) .pat A' kids.len ca' F1/\KidsTr wx (OkI wx (fun _=>False) A2) .pat A2' kids2.len ca2' F2)/\(kids.len=F1.len/\kids2.len=F2.len)):=hid (by
       obtain rfl:arms=.nil:=by
        rcases ha' with ⟨e,_⟩ | ⟨_,e⟩
        ·cases e
        ·exact Tr.len_nil _ e
       obtain rfl:arms2=.nil:=by
        rcases ha2' with ⟨e,_⟩ | ⟨_,e⟩
        ·cases e
        ·exact Tr.len_nil _ e
       rw[hF1,hF2];simp only[Tr.exs,Tr.app_nil];exact⟨⟨hk',hk2'⟩,by first | rfl | trivial,by first | rfl | trivial⟩)
      have y0:=hc 0 _ rfl;have y1:=hc 1 _ rfl;have y2:=hc 2 _ rfl;have y3:=hc 3 _ rfl;have y4:=hc 4 _ rfl;have y5:=hc 5 _ rfl;have y6:=hc 6 _ rfl;have z0:=hc2 0 _ rfl;have z1:=hc2 1 _ rfl;have z2:=hc2 2 _ rfl;have z3:=hc2 3 _ rfl;have z4:=hc2 4 _ rfl;have z5:=hc2 5 _ rfl;have z6:=hc2 6 _ rfl;simp only[Nat.add_zero,Sh.kd,Sh.sz]at y0 y1 y2 y3 y4 y5 y6 z0 z1 z2 z3 z4 z5 z6;obtain⟨l1,hl1⟩:∃ l,l=kids.len:=⟨_,rfl⟩
      obtain⟨l2,hl2⟩:∃ l,l=kids2.len:=⟨_,rfl⟩
      obtain⟨l3,hl3⟩:∃ l,l=arms.len:=⟨_,rfl⟩
      obtain⟨l4,hl4⟩:∃ l,l=arms2.len:=⟨_,rfl⟩
      obtain⟨SS,hSS⟩:∃ S:ByteArray,S=⟨s.toArray⟩:=⟨_,rfl⟩
      obtain⟨SS2,hSS2⟩:∃ S:ByteArray,S=⟨s2.toArray⟩:=⟨_,rfl⟩
      rw[<- hSS]at y1;rw[<- hSS2]at z1;rw[<- hl1]at y6;rw[<- hl2]at z6;skip
      rw[<- hSS,<- hl1]at HC1;rw[<- hSS2,<- hl2]at HC2;rw[<- hl1,<- hl2]at HKK;have j1:(0:Int)<=(q:Int):=by omega
      have j2:(q:Int)<(xl:Int):=by omega
      have HLT:=hid hlt;have hob':ub<wx.heap.size:=hob.1;have hob2':ub2<wx.heap.size:=hob2.1;clear hc hc2 hk' hk2' ha' ha2' en en2 hd hd2 hfo hfo2 hl1 hl2 hl3 hl4 hSS hSS2 hdq hdq2 hdsz hdsz2 sx1 sy1 hex hex2 hob hob2 hF1 hF2;have Y0:=qa hob' y0;have Y1:=qa hob' y1;have Y2:=qa hob' y2;have Y3:=qa hob' y3;have Y4:=qa hob' y4;have Y5:=qa hob' y5;have Y6:=qa hob' y6;have Z0:=qa hob2' z0;have Z1:=qa hob2' z1;have Z2:=qa hob2' z2;have Z3:=qa hob2' z3;have Z4:=qa hob2' z4;have Z5:=qa hob2' z5;have Z6:=qa hob2' z6;go_wp2_with fail
      refine jm 12 (by kernel_rfl) (by kernel_rfl) ?_;simp only[List.take_succ_cons,List.take_zero,List.drop_succ_cons,List.drop_zero];repeat (go_big_quiet_step (first | exact (HC1.out _ (Abw.bel _)).mono fun e w h=>⟨h.1,⟨_,(Abw.bel _).on h.2⟩,rfl⟩ | exact (HC2.out _ (Abw.bel _)).mono fun e w h=>⟨h.1,⟨_,(Abw.bel _).on h.2⟩,rfl⟩))
      refine wpQuiet_nil ?_;rintro w7 ⟨⟨w7,hb7⟩,rfl⟩;have HB7:=hid hb7;clear hb7 HC1 HC2 y0 y1 y2 y3 y4 y5 y6 z0 z1 z2 z3 z4 z5 z6 Y0 Z0 Y1 Z1 Y2 Z2 Y3 Z3 Y4 Z4 Y5 Z5 Y6 Z6;have HLL:Hid (l1=F1.len/\l2=F2.len):=hid HKK.out.2;obtain⟨U1,hU1⟩:∃ U,U=A':=⟨_,rfl⟩
      obtain⟨U2,hU2⟩:∃ U,U=A2':=⟨_,rfl⟩
      obtain⟨C1,hC1⟩:∃ U,U=ca':=⟨_,rfl⟩
      obtain⟨C2,hC2⟩:∃ U,U=ca2':=⟨_,rfl⟩
      rw[<- hU1,<- hU2,<- hC1,<- hC2]at HKK;have HKK7:=hid (And.intro (jf HKK.out.1.1 HB7.out) (jf HKK.out.1.2 HB7.out));rw[<- hU1,<- hU2,<- hC1,<- hC2];clear hU1 hU2 hC1 hC2 HKK;have HRW7:=hid (qp HR2.out HB7.out);have HPI7:=hid (qfW HP2.out HB7.out);have HI7:=hid (And.intro (jf HI2.out.1 HB7.out) (jf HI2.out.2 HB7.out));have hbl7:base<=w7.heap.size:=Nat.le_trans HBLX.out HB7.out.size;have hm2b:m2<=1000001:=by
       rw[HM2.out];have:=qal S2;have:=HMQ.out;have:=HMB.out;omega
      by_cases h1:l1=0
      ·by_cases h2:l2=0
       ·subst h1 h2
        have HR8:Hid (r=(allP S2&&(xf.drp (q+1)).kidsSame (yf.drp (q+1)))):=hid (by
         rw[HF.out,Tr.len_nil F1 HLL.out.1.symm,Tr.len_nil F2 HLL.out.2.symm];simp[Tr.same])
        have HMS8:Hid (msP S2+(xf.drp (q+1)).size<=msP S+xf.size):=hid (by have:=HMQ.out;omega);have HBW8:=hid (HBW.out.on HB7.out);have HBL8:=hid hbl7;go_wp2_with fail
        go_roundw
        case rel=>exact⟨q+1,S2,A2,c2,m2,HLT.out,by go_num,rfl,HM2,HRW7,HPI7,HI7,HR8,HMS8,HBW8,HBL8⟩
        case measure=>have:=HLT.out;simp[intOf];omega
       ·subst h1
        have d2:decide ((0:Int)<(l2:Int))=true:=by simp;omega
        have d3:decide (0<l2)=true:=by simp;omega
        go_wp2_with (at_builtin;refine jB ?_)
        unfold jj;refine wpList_append_own_at _ rfl _ _ 216 rfl base 215 i0 (.agg #[.slice none 0 0,.slice none 0 0]) 2 48 Tryz.underlying216 hi0 hz0 hz1 hz2 rfl (by decide) (.slice A2 m2 c2) m2 _ rfl (HRW7.out.alloc _) ⟨w7.heap.size,0,none⟩ 1 1 [.slice U1 0 C1,.slice U2 l2 C2] rfl rfl (fun j u hu=>by rw[Addr.add_lit,Nat.zero_add];exact zE _ _ _ j u hu) (by simp[Value.oneCell']) (by unfold maxLen;omega) (by omega) (by simp;omega) ?_;intro v' w8 hown8 hg8 _ hat8;obtain⟨g8,c8,rfl,hrow8,hpi8,hki8,hbw8,hbl8⟩:=jQ (w0:=w) (K:=⟨⟨U1,C1,F1⟩,⟨U2,C2,F2⟩⟩) HRW7.out HPI7.out (by rw[<- HLL.out.1];exact HKK7.out.1) (by rw[<- HLL.out.2];exact HKK7.out.2) ⟨HF1.out.2.2,HF1.out.2.1⟩ (by have h:=hown8;simp only[Pr.cells,It.val,<- HLL.out.1,<- HLL.out.2];exact h) hg8 hat8 (HBW.out.on HB7.out) (by rw[HBS.out];exact Nat.le_refl _) hbl7;have HRW8:=hid hrow8;have HPI8:=hid hpi8;have HII8:=hid (And.intro (hki8 _ _ _ _ HI7.out.1) (hki8 _ _ _ _ HI7.out.2));have HBW8:=hid hbw8;have HBL8:=hid hbl8;have HR8:Hid (r=(allP (⟨⟨U1,C1,F1⟩,⟨U2,C2,F2⟩⟩::S2)&&(xf.drp (q+1)).kidsSame (yf.drp (q+1)))):=hid (by
         rw[HF.out];simp only[allP,List.all_cons];cases F1.same F2 <;> cases S2.all (fun x=>x.a.f.same x.b.f) <;> simp)
        have HM8:Hid (m2+1=(⟨⟨U1,C1,F1⟩,⟨U2,C2,F2⟩⟩::S2:List Pr).length):=hid (by rw[HM2.out];rfl);have HMS8:Hid (msP (⟨⟨U1,C1,F1⟩,⟨U2,C2,F2⟩⟩::S2)+(xf.drp (q+1)).size<=msP S+xf.size):=hid (by have:=HMQ.out;simp only[msP];omega);clear hown8 hg8 hat8 hrow8 hpi8 hki8 hbw8 hbl8;go_wp2_with fail
        go_roundw
        case rel=>exact⟨q+1,_,_,c8,m2+1,HLT.out,by go_num,rfl,HM8,HRW8,HPI8,HII8,HR8,HMS8,HBW8,HBL8⟩
        case measure=>have:=HLT.out;simp[intOf];omega
      ·have d2:decide ((0:Int)<(l1:Int))=true:=by simp;omega
       have d3:decide (0<l1)=true:=by simp;omega
       go_wp2_with (at_builtin;refine jB ?_)
       unfold jj;refine wpList_append_own_at _ rfl _ _ 216 rfl base 215 i0 (.agg #[.slice none 0 0,.slice none 0 0]) 2 48 Tryz.underlying216 hi0 hz0 hz1 hz2 rfl (by decide) (.slice A2 m2 c2) m2 _ rfl (HRW7.out.alloc _) ⟨w7.heap.size,0,none⟩ 1 1 [.slice U1 l1 C1,.slice U2 l2 C2] rfl rfl (fun j u hu=>by rw[Addr.add_lit,Nat.zero_add];exact zE _ _ _ j u hu) (by simp[Value.oneCell']) (by unfold maxLen;omega) (by omega) (by simp;omega) ?_;intro v' w8 hown8 hg8 _ hat8;obtain⟨g8,c8,rfl,hrow8,hpi8,hki8,hbw8,hbl8⟩:=jQ (w0:=w) (K:=⟨⟨U1,C1,F1⟩,⟨U2,C2,F2⟩⟩) HRW7.out HPI7.out (by rw[<- HLL.out.1];exact HKK7.out.1) (by rw[<- HLL.out.2];exact HKK7.out.2) ⟨HF1.out.2.2,HF1.out.2.1⟩ (by have h:=hown8;simp only[Pr.cells,It.val,<- HLL.out.1,<- HLL.out.2];exact h) hg8 hat8 (HBW.out.on HB7.out) (by rw[HBS.out];exact Nat.le_refl _) hbl7;have HRW8:=hid hrow8;have HPI8:=hid hpi8;have HII8:=hid (And.intro (hki8 _ _ _ _ HI7.out.1) (hki8 _ _ _ _ HI7.out.2));have HBW8:=hid hbw8;have HBL8:=hid hbl8;have HR8:Hid (r=(allP (⟨⟨U1,C1,F1⟩,⟨U2,C2,F2⟩⟩::S2)&&(xf.drp (q+1)).kidsSame (yf.drp (q+1)))):=hid (by
        rw[HF.out];simp only[allP,List.all_cons];cases F1.same F2 <;> cases S2.all (fun x=>x.a.f.same x.b.f) <;> simp)
       have HM8:Hid (m2+1=(⟨⟨U1,C1,F1⟩,⟨U2,C2,F2⟩⟩::S2:List Pr).length):=hid (by rw[HM2.out];rfl);have HMS8:Hid (msP (⟨⟨U1,C1,F1⟩,⟨U2,C2,F2⟩⟩::S2)+(xf.drp (q+1)).size<=msP S+xf.size):=hid (by have:=HMQ.out;simp only[msP];omega);clear hown8 hg8 hat8 hrow8 hpi8 hki8 hbw8 hbl8;go_wp2_with fail
       go_roundw
       case rel=>exact⟨q+1,_,_,c8,m2+1,HLT.out,by go_num,rfl,HM8,HRW8,HPI8,HII8,HR8,HMS8,HBW8,HBL8⟩
       case measure=>have:=HLT.out;simp[intOf];omega
     ·obtain rfl:q=xl:=by omega
      have HRE:Hid (r=allP S2):=hid (by rw[HRR.out,Tr.drp_end xf q (by rw[<- HXL.out];exact Nat.le_refl _),Tr.drp_end yf q (by rw[<- HYL.out];exact Nat.le_refl _)];simp[Tr.kidsSame]);have HMS2:Hid (msP S2<=1000001):=hid (by have:=HMM2.out;have:=HMB.out;omega);go_wp2_with fail
      go_roundg (msP S2)
      case rel=>exact⟨S2,A2,c2,m2,rfl,HM2,hid rfl,HMS2,HR2,HP2,HRE,HBW,HBLX⟩
      case measure=>
       rw[HGK.out];have:=HMM2.out;simp only[msP];omega
end Go.Proofs.YtfpoelklhekfaaaGreatDoor.Mu
namespace Go.Proofs.YtfpoelklhekfaaaGreatDoor.Mu
set_option maxHeartbeats 1000000
open Go Go.RowKit Go.Shelf
attribute [local go_sem] Oper.semAt_some
set_option linter.unusedVariables false
def regKx:List Oper:=[
 ⟨some 51,.move (.tmp 2),98,"walk.go:50",#[],none⟩,
 ⟨some 52,.move (.tmp 10),40,"walk.go:50",#[],none⟩,
 ⟨some 53,.move (.tmp 12),3,"walk.go:50",#[],none⟩,
 ⟨some 54,.indexAddr 40 (.tmp 52) (.tmp 53),0,"walk.go:50",#[⟨1,.data⟩,⟨2,.data⟩],none⟩,
 ⟨some 55,.load 43 (.tmp 54),43,"walk.go:50",#[⟨3,.data⟩],none⟩,
 ⟨some 56,.call ⟨.value (.tmp 51),#[.tmp 55],#[43]⟩,40,"walk.go:50",#[⟨0,.data⟩,⟨4,.data⟩],none⟩,
 ⟨some 57,.move (.tmp 2),98,"walk.go:50",#[],none⟩,
 ⟨some 58,.move (.tmp 11),40,"walk.go:50",#[],none⟩,
 ⟨some 59,.move (.tmp 12),3,"walk.go:50",#[],none⟩,
 ⟨some 60,.indexAddr 40 (.tmp 58) (.tmp 59),0,"walk.go:50",#[⟨7,.data⟩,⟨8,.data⟩],none⟩,
 ⟨some 61,.load 43 (.tmp 60),43,"walk.go:50",#[⟨9,.data⟩],none⟩,
 ⟨some 62,.call ⟨.value (.tmp 57),#[.tmp 61],#[43]⟩,40,"walk.go:50",#[⟨6,.data⟩,⟨10,.data⟩,⟨5,.chain⟩],none⟩,
 ⟨some 13,.assign (.tmp 56),40,"walk.go:50",#[⟨5,.data⟩,⟨11,.chain⟩,⟨0,.phase⟩,⟨1,.phase⟩,⟨2,.phase⟩,⟨3,.phase⟩,⟨4,.phase⟩,⟨5,.phase⟩,{ on:=6,ground:=Ground.textOnly Departure.lateStores },{ on:=7,ground:=Ground.textOnly Departure.lateStores },{ on:=8,ground:=Ground.textOnly Departure.lateStores },{ on:=9,ground:=Ground.textOnly Departure.lateStores },{ on:=10,ground:=Ground.textOnly Departure.lateStores },{ on:=11,ground:=Ground.textOnly Departure.lateStoresUnsure }],none⟩,
 ⟨some 14,.assign (.tmp 62),40,"walk.go:50",#[⟨11,.data⟩,⟨12,.chain⟩,⟨0,.phase⟩,⟨1,.phase⟩,⟨2,.phase⟩,⟨3,.phase⟩,⟨4,.phase⟩,⟨5,.phase⟩,⟨6,.phase⟩,⟨7,.phase⟩,⟨8,.phase⟩,⟨9,.phase⟩,⟨10,.phase⟩,⟨11,.phase⟩,⟨12,.phase⟩],none⟩]
def qd8(b1 o1 b2 o2 m ca cb j:Nat)(k1 n1 x1 l1 c1 k2 n2 x2 l2 c2:Int)(t1 t2:ByteArray)(A1 B1 A2 B2:Option Addr)(m1 d1 M1 D1 m2 d2 M2 D2:Nat)(F1 F2:Tr)(Ok:Nat->Prop)(z:Nat)(i:Nat)(v:Value)(w:World):Prop:=
 match i with
 | 0=>v=.func (.func 34) #[] #[]
 | 1=>v=.slice (some ⟨b1,o1,none⟩) m ca
 | 2=>v=.int .i64 (j:Int)
 | 3=>v=.pointer (some ⟨b1,o1+j*8,none⟩)
 | 4=>v=.agg #[.int .u8 k1,t1,n1,x1,l1,c1,.slice A1 m1 d1,.slice B1 M1 D1]
 | 5=>(∀ j,Ok j->j<w.heap.size)/\∃ (A:Option Addr) (c:Nat),v=.slice A F1.len c/\KidsTr w (fun j=>Ok j∨(z<=j/\j<w.heap.size)) .ex A F1.len c F1
 | 6=>v=.func (.func 34) #[] #[]
 | 7=>v=.slice (some ⟨b2,o2,none⟩) m cb
 | 8=>v=.int .i64 (j:Int)
 | 9=>v=.pointer (some ⟨b2,o2+j*8,none⟩)
 | 10=>v=.agg #[.int .u8 k2,t2,n2,x2,l2,c2,.slice A2 m2 d2,.slice B2 M2 D2]
 | 11=>(∀ j,Ok j->j<w.heap.size)/\∃ (A:Option Addr) (c:Nat),v=.slice A F2.len c/\KidsTr w (fun j=>Ok j∨(z<=j/\j<w.heap.size)) .ex A F2.len c F2
 | _=>True
theorem qaK{b1 o1 b2 o2 m ca cb j:Nat}{k1 n1 x1 l1 c1 k2 n2 x2 l2 c2:Int}{t1 t2:ByteArray}{A1 B1 A2 B2:Option Addr}{m1 d1 M1 D1 m2 d2 M2 D2:Nat}{F1 F2:Tr}{Ok:Nat->Prop}{z:Nat}(i:Nat)(v:Value)(w w':World)(hi:i<12)(h:qd8 b1 o1 b2 o2 m ca cb j k1 n1 x1 l1 c1 k2 n2 x2 l2 c2 t1 t2 A1 B1 A2 B2 m1 d1 M1 D1 m2 d2 M2 D2 F1 F2 Ok z i v w)(hb:Bel w w'):qd8 b1 o1 b2 o2 m ca cb j k1 n1 x1 l1 c1 k2 n2 x2 l2 c2 t1 t2 A1 B1 A2 B2 m1 d1 M1 D1 m2 d2 M2 D2 F1 F2 Ok z i v w':=by
 match i,hi,h with
 | 0,_,h | 1,_,h | 2,_,h | 3,_,h | 4,_,h=>exact h
 | 5,_,h=>obtain⟨q1,A,c,e,q2⟩:=h;exact⟨fun j hj=>Nat.lt_of_lt_of_le (q1 j hj) hb.size,A,c,e,(q2.keep fun j hj=>hb.block j (by rcases hj with hj | hj;exact q1 j hj;exact hj.2)).wide fun j hj=>by rcases hj with hj | hj;exact .inl hj;exact .inr ⟨hj.1,Nat.lt_of_lt_of_le hj.2 hb.size⟩⟩
 | 6,_,h | 7,_,h | 8,_,h | 9,_,h | 10,_,h=>exact h
 | 11,_,h=>obtain⟨q1,A,c,e,q2⟩:=h;exact⟨fun j hj=>Nat.lt_of_lt_of_le (q1 j hj) hb.size,A,c,e,(q2.keep fun j hj=>hb.block j (by rcases hj with hj | hj;exact q1 j hj;exact hj.2)).wide fun j hj=>by rcases hj with hj | hj;exact .inl hj;exact .inr ⟨hj.1,Nat.lt_of_lt_of_le hj.2 hb.size⟩⟩
 | q+12,hi,_=>exact absurd hi (by omega)
def qhz(b1 o1 b2 o2 m ca cb j:Nat)(k1 n1 x1 l1 c1 k2 n2 x2 l2 c2:Int)(t1 t2:ByteArray)(A1 B1 A2 B2:Option Addr)(m1 d1 M1 D1 m2 d2 M2 D2:Nat)(F1 F2:Tr)(Ok:Nat->Prop)(z:Nat)(s0 s1 s3 s4 s5 s6 s7 s8 s9 s13 s14 s15 s16 s17 s18 s19 s20 s21 s22 s23 s24 s25 s26 s27 s28 s29 s30 s31 s32 s33 s34 s35 s36 s37 s38 s39 s40 s41 s42 s43 s44 s45 s46 s47 s48 s49 s50 s51 s52 s53 s54 s55 s56 s57 s58 s59 s60 s61 s62 s63 s64 s65 s66 s67 s68 s69 s70 s71 s72 s73 s74 s75 s76 s77:Value)(df:List Deferred):Act:={ tmps:=#[s0,s1,.func (.func 34) #[] #[],s3,s4,s5,s6,s7,s8,s9,.slice (some ⟨b1,o1,none⟩) m ca,.slice (some ⟨b2,o2,none⟩) m cb,.int .i64 (j:Int),s13,s14,s15,s16,s17,s18,s19,s20,s21,s22,s23,s24,s25,s26,s27,s28,s29,s30,s31,s32,s33,s34,s35,s36,s37,s38,s39,s40,s41,s42,s43,s44,s45,s46,s47,s48,s49,s50,s51,s52,s53,s54,s55,s56,s57,s58,s59,s60,s61,s62,s63,s64,s65,s66,s67,s68,s69,s70,s71,s72,s73,s74,s75,s76,s77],defers:=df }
def qf9(b1 o1 b2 o2 m ca cb j:Nat)(k1 n1 x1 l1 c1 k2 n2 x2 l2 c2:Int)(t1 t2:ByteArray)(A1 B1 A2 B2:Option Addr)(m1 d1 M1 D1 m2 d2 M2 D2:Nat)(F1 F2:Tr)(Ok:Nat->Prop)(z:Nat)(s0 s1 s3 s4 s5 s6 s7 s8 s9 s13 s14 s15 s16 s17 s18 s19 s20 s21 s22 s23 s24 s25 s26 s27 s28 s29 s30 s31 s32 s33 s34 s35 s36 s37 s38 s39 s40 s41 s42 s43 s44 s45 s46 s47 s48 s49 s50 s51 s52 s53 s54 s55 s56 s57 s58 s59 s60 s61 s62 s63 s64 s65 s66 s67 s68 s69 s70 s71 s72 s73 s74 s75 s76 s77:Value)(df:List Deferred)(V:Nat->Value):Act:={ tmps:=#[s0,s1,.func (.func 34) #[] #[],s3,s4,s5,s6,s7,s8,s9,.slice (some ⟨b1,o1,none⟩) m ca,.slice (some ⟨b2,o2,none⟩) m cb,.int .i64 (j:Int),s13,s14,s15,s16,s17,s18,s19,s20,s21,s22,s23,s24,s25,s26,s27,s28,s29,s30,s31,s32,s33,s34,s35,s36,s37,s38,s39,s40,s41,s42,s43,s44,s45,s46,s47,s48,s49,s50,V 0,V 1,V 2,V 3,V 4,V 5,V 6,V 7,V 8,V 9,V 10,V 11,s63,s64,s65,s66,s67,s68,s69,s70,s71,s72,s73,s74,s75,s76,s77],defers:=df }
theorem qcg:zC .any regKx.toArray 12=true:=by kernel_rfl
theorem qdz:fwdB regKx.toArray 12=true:=by kernel_rfl
theorem qas:qN regKx.toArray 78=true:=by kernel_rfl
theorem qdA:Region.seqB .any regKx.toArray (regKx.length-12) 12 (Array.replicate 12 true++Array.replicate (regKx.length-12) false)=true:=by kernel_rfl
set_option maxRecDepth 100000 in
theorem qdy{id:Nat}(b1 o1 b2 o2 m ca cb j:Nat)(k1 n1 x1 l1 c1 k2 n2 x2 l2 c2:Int)(t1 t2:ByteArray)(A1 B1 A2 B2:Option Addr)(m1 d1 M1 D1 m2 d2 M2 D2:Nat)(F1 F2:Tr)(Ok:Nat->Prop)(z:Nat)(s0 s1 s3 s4 s5 s6 s7 s8 s9 s13 s14 s15 s16 s17 s18 s19 s20 s21 s22 s23 s24 s25 s26 s27 s28 s29 s30 s31 s32 s33 s34 s35 s36 s37 s38 s39 s40 s41 s42 s43 s44 s45 s46 s47 s48 s49 s50 s51 s52 s53 s54 s55 s56 s57 s58 s59 s60 s61 s62 s63 s64 s65 s66 s67 s68 s69 s70 s71 s72 s73 s74 s75 s76 s77:Value)(df:List Deferred)(w:World)(i1:(0:Int)<=(j:Int))(i2:(j:Int)<(m:Int))(hz:z<=w.drew.heap.size)(hok:∀ j,Ok j->j<w.drew.heap.size)(h1:b1<w.drew.heap.size)(h2:b2<w.drew.heap.size)(fa0:w.drew.cell? ⟨b1,o1+j*8,none⟩=some (.int .u8 k1))(fe0:w.drew.cell? ⟨b2,o2+j*8,none⟩=some (.int .u8 k2))(fa1:w.drew.cell? ⟨b1,o1+j*8+1,none⟩=some (.string t1))(fe1:w.drew.cell? ⟨b2,o2+j*8+1,none⟩=some (.string t2))(fa2:w.drew.cell? ⟨b1,o1+j*8+2,none⟩=some (.int .i64 n1))(fe2:w.drew.cell? ⟨b2,o2+j*8+2,none⟩=some (.int .i64 n2))(fa3:w.drew.cell? ⟨b1,o1+j*8+3,none⟩=some (.int .i64 x1))(fe3:w.drew.cell? ⟨b2,o2+j*8+3,none⟩=some (.int .i64 x2))(fa4:w.drew.cell? ⟨b1,o1+j*8+4,none⟩=some (.int .i64 l1))(fe4:w.drew.cell? ⟨b2,o2+j*8+4,none⟩=some (.int .i64 l2))(fa5:w.drew.cell? ⟨b1,o1+j*8+5,none⟩=some (.int .i64 c1))(fe5:w.drew.cell? ⟨b2,o2+j*8+5,none⟩=some (.int .i64 c2))(fa6:w.drew.cell? ⟨b1,o1+j*8+6,none⟩=some (.slice A1 m1 d1))(fe6:w.drew.cell? ⟨b2,o2+j*8+6,none⟩=some (.slice A2 m2 d2))(fa7:w.drew.cell? ⟨b1,o1+j*8+7,none⟩=some (.slice B1 M1 D1))(fe7:w.drew.cell? ⟨b2,o2+j*8+7,none⟩=some (.slice B2 M2 D2))(H1:∀ W,Bel w.drew W->Calls Tryz.prog 34 #[.agg #[.int .u8 k1,t1,n1,x1,l1,c1,.slice A1 m1 d1,.slice B1 M1 D1]] W (ji W Ok .ex F1))(H2:∀ W,Bel w.drew W->Calls Tryz.prog 34 #[.agg #[.int .u8 k2,t2,n2,x2,l2,c2,.slice A2 m2 d2,.slice B2 M2 D2]] W (ji W Ok .ex F2))(Q:Exit->Act->World->Prop)
  (hend:∀ (V:Nat->Value) (w':World),Bel w.drew w'->((∀ j,Ok j->j<w'.heap.size)/\∃ (A:Option Addr) (c:Nat),(V 5)=.slice A F1.len c/\KidsTr w' (fun j=>Ok j∨(z<=j/\j<w'.heap.size)) .ex A F1.len c F1)->((∀ j,Ok j->j<w'.heap.size)/\∃ (A:Option Addr) (c:Nat),(V 11)=.slice A F2.len c/\KidsTr w' (fun j=>Ok j∨(z<=j/\j<w'.heap.size)) .ex A F2.len c F2)->wpList Tryz.prog regKx.toArray Q (regKx.drop 12) (qf9 b1 o1 b2 o2 m ca cb j k1 n1 x1 l1 c1 k2 n2 x2 l2 c2 t1 t2 A1 B1 A2 B2 m1 d1 M1 D1 m2 d2 M2 D2 F1 F2 Ok z s0 s1 s3 s4 s5 s6 s7 s8 s9 s13 s14 s15 s16 s17 s18 s19 s20 s21 s22 s23 s24 s25 s26 s27 s28 s29 s30 s31 s32 s33 s34 s35 s36 s37 s38 s39 s40 s41 s42 s43 s44 s45 s46 s47 s48 s49 s50 s51 s52 s53 s54 s55 s56 s57 s58 s59 s60 s61 s62 s63 s64 s65 s66 s67 s68 s69 s70 s71 s72 s73 s74 s75 s76 s77 df V) w') :
  (Code.region id regKx.toArray true).wp Tryz.prog Q (qhz b1 o1 b2 o2 m ca cb j k1 n1 x1 l1 c1 k2 n2 x2 l2 c2 t1 t2 A1 B1 A2 B2 m1 d1 M1 D1 m2 d2 M2 D2 F1 F2 Ok z s0 s1 s3 s4 s5 s6 s7 s8 s9 s13 s14 s15 s16 s17 s18 s19 s20 s21 s22 s23 s24 s25 s26 s27 s28 s29 s30 s31 s32 s33 s34 s35 s36 s37 s38 s39 s40 s41 s42 s43 s44 s45 s46 s47 s48 s49 s50 s51 s52 s53 s54 s55 s56 s57 s58 s59 s60 s61 s62 s63 s64 s65 s66 s67 s68 s69 s70 s71 s72 s73 s74 s75 s76 s77 df) w:=by
 refine qq (l:=regKx) 12 _ w (qd8 b1 o1 b2 o2 m ca cb j k1 n1 x1 l1 c1 k2 n2 x2 l2 c2 t1 t2 A1 B1 A2 B2 m1 d1 M1 D1 m2 d2 M2 D2 F1 F2 Ok z) (by kernel_rfl) qcg qdz qas qdA (fun i v w w' hi h hb=>qaK i v w w' hi h hb) ?_ ?_
 ·intro i' o hi' ho a w1 V hbel hdep hpar K hK
  have p2:a.eval (.tmp 2)=.func (.func 34) #[] #[]:=hpar 2 (by show 2<78;decide) (by kernel_rfl);have p2':=tD p2;have p10:a.eval (.tmp 10)=.slice (some ⟨b1,o1,none⟩) m ca:=hpar 10 (by show 10<78;decide) (by kernel_rfl);have p10':=tD p10;have p11:a.eval (.tmp 11)=.slice (some ⟨b2,o2,none⟩) m cb:=hpar 11 (by show 11<78;decide) (by kernel_rfl);have p11':=tD p11;have p12:a.eval (.tmp 12)=.int .i64 (j:Int):=hpar 12 (by show 12<78;decide) (by kernel_rfl);have p12':=tD p12;have ga0:=gX hbel h1 fa0;have ga1:=gX hbel h1 fa1;have ga2:=gX hbel h1 fa2;have ga3:=gX hbel h1 fa3;have ga4:=gX hbel h1 fa4;have ga5:=gX hbel h1 fa5;have ga6:=gX hbel h1 fa6;have ga7:=gX hbel h1 fa7;have gb0:=gX hbel h2 fe0;have gb1:=gX hbel h2 fe1;have gb2:=gX hbel h2 fe2;have gb3:=gX hbel h2 fe3;have gb4:=gX hbel h2 fe4;have gb5:=gX hbel h2 fe5;have gb6:=gX hbel h2 fe6;have gb7:=gX hbel h2 fe7;have ek:∀ args w,(callFunc 34 args).run Tryz.prog w=.ok (.enter 34 args) w:=fun args w=>by kernel_rfl
  have hzw:z<=w1.heap.size:=Nat.le_trans hz hbel.size;match i',hi',ho,hdep,hK with
  | 0,_,ho,hdep,hK=>
   simp only[regKx,gT,gZ,gI]at ho;subst ho;exact nG rfl (wV (by simp[execOp,go_sem,p2']) hK rfl)
  | 1,_,ho,hdep,hK=>
   simp only[regKx,gT,gZ,gS,gI]at ho;subst ho;exact nG rfl (wV (by simp[execOp,go_sem,p10']) hK rfl)
  | 2,_,ho,hdep,hK=>
   simp only[regKx,gT,gZ,gS,gI]at ho;subst ho;exact nG rfl (wV (by simp[execOp,go_sem,p12']) hK rfl)
  | 3,_,ho,hdep,hK=>
   simp only[regKx,gT,gZ,gS,gI]at ho;subst ho;refine nG rfl ?_;have e1':=tK (t:=52) (hdep ⟨1,.data⟩ (by simp) rfl) rfl;have e2':=tK (t:=53) (hdep ⟨2,.data⟩ (by simp) rfl) rfl;exact wV (by simp[execOp,go_sem,e1',e2',i1,i2]) hK rfl
  | 4,_,ho,hdep,hK=>
   simp only[regKx,gT,gZ,gS,gI]at ho;subst ho;refine nG rfl ?_;have e3':=tK (t:=54) (hdep ⟨3,.data⟩ (by simp) rfl) rfl;exact wV (by simp[execOp,go_sem,e3',ga0,ga1,ga2,ga3,ga4,ga5,ga6,ga7]) hK rfl
  | 5,_,ho,hdep,hK=>
   simp only[regKx,gT,gZ,gS,gI]at ho;subst ho;refine nG rfl ?_;have e0':=tK (t:=51) (hdep ⟨0,.data⟩ (by simp) rfl) rfl;have e4':=tK (t:=55) (hdep ⟨4,.data⟩ (by simp) rfl) rfl;refine qi (f:=34) (args:=#[.agg #[.int .u8 k1,t1,n1,x1,l1,c1,.slice A1 m1 d1,.slice B1 M1 D1]]) (by simp[execOp,go_sem,e0',e4',ek]) ((H1 w1 hbel).mono ?_);rintro e w' ⟨A,c,rfl,hb,hk⟩;exact⟨_,rfl,hK _ _ hb ⟨fun j hj=>Nat.lt_of_lt_of_le (hok j hj) (Nat.le_trans hbel.size hb.size),A,c,rfl,hk.wide fun j hj=>by rcases hj with hj | hj;exact .inl hj;exact .inr ⟨Nat.le_trans hzw hj.1,hj.2⟩⟩⟩
  | 6,_,ho,hdep,hK=>
   simp only[regKx,gT,gZ,gS,gI]at ho;subst ho;exact nG rfl (wV (by simp[execOp,go_sem,p2']) hK rfl)
  | 7,_,ho,hdep,hK=>
   simp only[regKx,gT,gZ,gS,gI]at ho;subst ho;exact nG rfl (wV (by simp[execOp,go_sem,p11']) hK rfl)
  | 8,_,ho,hdep,hK=>
   simp only[regKx,gT,gZ,gS,gI]at ho;subst ho;exact nG rfl (wV (by simp[execOp,go_sem,p12']) hK rfl)
  | 9,_,ho,hdep,hK=>
   simp only[regKx,gT,gZ,gS,gI]at ho;subst ho;refine nG rfl ?_;have e7':=tK (t:=58) (hdep ⟨7,.data⟩ (by simp) rfl) rfl;have e8':=tK (t:=59) (hdep ⟨8,.data⟩ (by simp) rfl) rfl;exact wV (by simp[execOp,go_sem,e7',e8',i1,i2]) hK rfl
  | 10,_,ho,hdep,hK=>
   simp only[regKx,gT,gZ,gS,gI]at ho;subst ho;refine nG rfl ?_;have e9':=tK (t:=60) (hdep ⟨9,.data⟩ (by simp) rfl) rfl;exact wV (by simp[execOp,go_sem,e9',gb0,gb1,gb2,gb3,gb4,gb5,gb6,gb7]) hK rfl
  | 11,_,ho,hdep,hK=>
   simp only[regKx,gT,gZ,gS,gI]at ho;subst ho;refine nG rfl ?_;have e6':=tK (t:=57) (hdep ⟨6,.data⟩ (by simp) rfl) rfl;have e10':=tK (t:=61) (hdep ⟨10,.data⟩ (by simp) rfl) rfl;refine qi (f:=34) (args:=#[.agg #[.int .u8 k2,t2,n2,x2,l2,c2,.slice A2 m2 d2,.slice B2 M2 D2]]) (by simp[execOp,go_sem,e6',e10',ek]) ((H2 w1 hbel).mono ?_);rintro e w' ⟨A,c,rfl,hb,hk⟩;exact⟨_,rfl,hK _ _ hb ⟨fun j hj=>Nat.lt_of_lt_of_le (hok j hj) (Nat.le_trans hbel.size hb.size),A,c,rfl,hk.wide fun j hj=>by rcases hj with hj | hj;exact .inl hj;exact .inr ⟨Nat.le_trans hzw hj.1,hj.2⟩⟩⟩
  | q+12,hi,_,_,_=>exact absurd hi (by omega)
 ·intro V w' hb hF
  have e:finA regKx.toArray 12 V (qhz b1 o1 b2 o2 m ca cb j k1 n1 x1 l1 c1 k2 n2 x2 l2 c2 t1 t2 A1 B1 A2 B2 m1 d1 M1 D1 m2 d2 M2 D2 F1 F2 Ok z s0 s1 s3 s4 s5 s6 s7 s8 s9 s13 s14 s15 s16 s17 s18 s19 s20 s21 s22 s23 s24 s25 s26 s27 s28 s29 s30 s31 s32 s33 s34 s35 s36 s37 s38 s39 s40 s41 s42 s43 s44 s45 s46 s47 s48 s49 s50 s51 s52 s53 s54 s55 s56 s57 s58 s59 s60 s61 s62 s63 s64 s65 s66 s67 s68 s69 s70 s71 s72 s73 s74 s75 s76 s77 df)=qf9 b1 o1 b2 o2 m ca cb j k1 n1 x1 l1 c1 k2 n2 x2 l2 c2 t1 t2 A1 B1 A2 B2 m1 d1 M1 D1 m2 d2 M2 D2 F1 F2 Ok z s0 s1 s3 s4 s5 s6 s7 s8 s9 s13 s14 s15 s16 s17 s18 s19 s20 s21 s22 s23 s24 s25 s26 s27 s28 s29 s30 s31 s32 s33 s34 s35 s36 s37 s38 s39 s40 s41 s42 s43 s44 s45 s46 s47 s48 s49 s50 s51 s52 s53 s54 s55 s56 s57 s58 s59 s60 s61 s62 s63 s64 s65 s66 s67 s68 s69 s70 s71 s72 s73 s74 s75 s76 s77 df V:=by kernel_rfl
  rw[e];exact hend V w' hb (hF 5 (by omega)) (hF 11 (by omega))
def regAx:List Oper:=[
 ⟨some 5,.fieldAddr 43 (.tmp 2) 0,0,"alike.go:11",#[],none⟩,
 ⟨some 6,.load 5 (.tmp 5),5,"alike.go:11",#[⟨0,.data⟩],none⟩,
 ⟨some 7,.fieldAddr 43 (.tmp 3) 0,0,"alike.go:11",#[],none⟩,
 ⟨some 8,.load 5 (.tmp 7),5,"alike.go:11",#[⟨2,.data⟩],none⟩,
 ⟨some 9,.binOp .eql 5 (.tmp 6) (.tmp 8) 5,4,"alike.go:11",#[⟨1,.data⟩,⟨3,.data⟩],none⟩,
 ⟨some 10,.move (.tmp 9),4,"alike.go:11",#[⟨4,.data⟩],none⟩,
 ⟨some 11,.fieldAddr 43 (.tmp 2) 1,0,"alike.go:11",#[⟨5,.guard⟩],some (5,true)⟩,
 ⟨some 12,.load 9 (.tmp 11),9,"alike.go:11",#[⟨6,.data⟩,⟨5,.guard⟩],some (5,true)⟩,
 ⟨some 13,.fieldAddr 43 (.tmp 3) 1,0,"alike.go:11",#[⟨5,.guard⟩],some (5,true)⟩,
 ⟨some 14,.load 9 (.tmp 13),9,"alike.go:11",#[⟨8,.data⟩,⟨5,.guard⟩],some (5,true)⟩,
 ⟨some 15,.binOp .eql 9 (.tmp 12) (.tmp 14) 9,4,"alike.go:11",#[⟨7,.data⟩,⟨9,.data⟩,⟨5,.guard⟩],some (5,true)⟩,
 ⟨some 16,.pick (.tmp 10) (.tmp 15) (.const (Value.bool false)),4,"alike.go:11",#[⟨5,.data⟩,⟨10,.data⟩],none⟩,
 ⟨some 17,.move (.tmp 16),4,"alike.go:11",#[⟨11,.data⟩,⟨5,.chain⟩],none⟩,
 ⟨some 18,.fieldAddr 43 (.tmp 2) 2,0,"alike.go:11",#[⟨12,.guard⟩],some (12,true)⟩,
 ⟨some 19,.load 2 (.tmp 18),2,"alike.go:11",#[⟨13,.data⟩,⟨12,.guard⟩],some (12,true)⟩,
 ⟨some 20,.fieldAddr 43 (.tmp 3) 2,0,"alike.go:11",#[⟨12,.guard⟩],some (12,true)⟩,
 ⟨some 21,.load 2 (.tmp 20),2,"alike.go:11",#[⟨15,.data⟩,⟨12,.guard⟩],some (12,true)⟩,
 ⟨some 22,.binOp .eql 2 (.tmp 19) (.tmp 21) 2,4,"alike.go:11",#[⟨14,.data⟩,⟨16,.data⟩,⟨12,.guard⟩],some (12,true)⟩,
 ⟨some 23,.pick (.tmp 17) (.tmp 22) (.const (Value.bool false)),4,"alike.go:11",#[⟨12,.data⟩,⟨17,.data⟩],none⟩,
 ⟨some 24,.move (.tmp 23),4,"alike.go:11",#[⟨18,.data⟩,⟨12,.chain⟩],none⟩,
 ⟨some 25,.load 43 (.tmp 2),43,"alike.go:11",#[⟨19,.guard⟩],some (19,true)⟩,
 ⟨some 26,.call ⟨.value (.func 72),#[.tmp 25],#[43]⟩,109,"alike.go:11",#[⟨20,.data⟩,⟨19,.chain⟩,⟨19,.guard⟩],some (19,true)⟩,
 ⟨some 27,.load 43 (.tmp 3),43,"alike.go:11",#[⟨19,.guard⟩],some (19,true)⟩,
 ⟨some 28,.call ⟨.value (.func 72),#[.tmp 27],#[43]⟩,109,"alike.go:11",#[⟨22,.data⟩,⟨21,.chain⟩,⟨19,.guard⟩],some (19,true)⟩,
 ⟨some 29,.call ⟨.value (.func 87),#[.tmp 26,.tmp 28,.func 73,.func 88],#[109,109,137,156]⟩,4,"alike.go:11",#[⟨21,.data⟩,⟨23,.data⟩,⟨23,.chain⟩,⟨19,.guard⟩],some (19,true)⟩,
 ⟨some 30,.pick (.tmp 24) (.tmp 29) (.const (Value.bool false)),4,"alike.go:11",#[⟨19,.data⟩,⟨24,.data⟩],none⟩,
 ⟨some 4,.assign (.tmp 30),4,"alike.go:11",#[⟨25,.data⟩,⟨24,.chain⟩,⟨0,.phase⟩,⟨1,.phase⟩,⟨2,.phase⟩,⟨3,.phase⟩,⟨4,.phase⟩,⟨5,.phase⟩,⟨6,.phase⟩,⟨7,.phase⟩,⟨8,.phase⟩,⟨9,.phase⟩,⟨10,.phase⟩,⟨11,.phase⟩,⟨12,.phase⟩,⟨13,.phase⟩,⟨14,.phase⟩,⟨15,.phase⟩,⟨16,.phase⟩,⟨17,.phase⟩,⟨18,.phase⟩,⟨19,.phase⟩,⟨20,.phase⟩,⟨21,.phase⟩,⟨22,.phase⟩,⟨23,.phase⟩,⟨24,.phase⟩,⟨25,.phase⟩],none⟩]
def qd5(bx yb:Nat)(k1 n1 x1 l1 c1 x2 l2 c2:Int)(t1:ByteArray)(A1 B1 A2 B2:Option Addr)(m1 d1 M1 D1 m2 d2 M2 D2:Nat)(G1 G2:Tr)(q:Bool)(i:Nat)(v:Value)(w:World):Prop:=
 match i with
 | 0=>v=.pointer (some ⟨bx,0,none⟩)
 | 1=>v=.int .u8 k1
 | 2=>v=.pointer (some ⟨yb,0,none⟩)
 | 3=>v=.int .u8 k1
 | 4=>v=.bool true
 | 5=>v=.bool true
 | 6=>v=.pointer (some ⟨bx,1,none⟩)
 | 7=>v=.string t1
 | 8=>v=.pointer (some ⟨yb,1,none⟩)
 | 9=>v=.string t1
 | 10=>v=.bool true
 | 11=>v=.bool true
 | 12=>v=.bool true
 | 13=>v=.pointer (some ⟨bx,2,none⟩)
 | 14=>v=.int .i64 n1
 | 15=>v=.pointer (some ⟨yb,2,none⟩)
 | 16=>v=.int .i64 n1
 | 17=>v=.bool true
 | 18=>v=.bool true
 | 19=>v=.bool true
 | 20=>v=.agg #[.int .u8 k1,t1,n1,x1,l1,c1,.slice A1 m1 d1,.slice B1 M1 D1]
 | 21=>∃ (A:Option Addr) (c:Nat),v=.slice A G1.len c/\KidsTr w (OldT w) .pat A G1.len c G1
 | 22=>v=.agg #[.int .u8 k1,t1,n1,x2,l2,c2,.slice A2 m2 d2,.slice B2 M2 D2]
 | 23=>∃ (A:Option Addr) (c:Nat),v=.slice A G2.len c/\KidsTr w (OldT w) .pat A G2.len c G2
 | 24=>v=.bool q
 | 25=>v=.bool q
 | _=>True
theorem qaH{bx yb:Nat}{k1 n1 x1 l1 c1 x2 l2 c2:Int}{t1:ByteArray}{A1 B1 A2 B2:Option Addr}{m1 d1 M1 D1 m2 d2 M2 D2:Nat}{G1 G2:Tr}{q:Bool}(i:Nat)(v:Value)(w w':World)(hi:i<26)(h:qd5 bx yb k1 n1 x1 l1 c1 x2 l2 c2 t1 A1 B1 A2 B2 m1 d1 M1 D1 m2 d2 M2 D2 G1 G2 q i v w)(hb:Bel w w'):qd5 bx yb k1 n1 x1 l1 c1 x2 l2 c2 t1 A1 B1 A2 B2 m1 d1 M1 D1 m2 d2 M2 D2 G1 G2 q i v w':=by
 match i,hi,h with
 | 0,_,h | 1,_,h | 2,_,h | 3,_,h | 4,_,h | 5,_,h | 6,_,h | 7,_,h | 8,_,h | 9,_,h | 10,_,h | 11,_,h | 12,_,h | 13,_,h | 14,_,h | 15,_,h | 16,_,h | 17,_,h | 18,_,h | 19,_,h | 20,_,h=>exact h
 | 21,_,h=>obtain⟨A,c,e,q2⟩:=h;exact⟨A,c,e,q2.bel hb⟩
 | 22,_,h=>exact h
 | 23,_,h=>obtain⟨A,c,e,q2⟩:=h;exact⟨A,c,e,q2.bel hb⟩
 | 24,_,h | 25,_,h=>exact h
 | q+26,hi,_=>exact absurd hi (by omega)
def qhx(bx yb:Nat)(k1 n1 x1 l1 c1 x2 l2 c2:Int)(t1:ByteArray)(A1 B1 A2 B2:Option Addr)(m1 d1 M1 D1 m2 d2 M2 D2:Nat)(G1 G2:Tr)(q:Bool)(s0 s1 s4 s5 s6 s7 s8 s9 s10 s11 s12 s13 s14 s15 s16 s17 s18 s19 s20 s21 s22 s23 s24 s25 s26 s27 s28 s29 s30:Value)(df:List Deferred):Act:={ tmps:=#[s0,s1,.pointer (some ⟨bx,0,none⟩),.pointer (some ⟨yb,0,none⟩),s4,s5,s6,s7,s8,s9,s10,s11,s12,s13,s14,s15,s16,s17,s18,s19,s20,s21,s22,s23,s24,s25,s26,s27,s28,s29,s30],defers:=df }
def qf6(bx yb:Nat)(k1 n1 x1 l1 c1 x2 l2 c2:Int)(t1:ByteArray)(A1 B1 A2 B2:Option Addr)(m1 d1 M1 D1 m2 d2 M2 D2:Nat)(G1 G2:Tr)(q:Bool)(s0 s1 s4 s5 s6 s7 s8 s9 s10 s11 s12 s13 s14 s15 s16 s17 s18 s19 s20 s21 s22 s23 s24 s25 s26 s27 s28 s29 s30:Value)(df:List Deferred)(V:Nat->Value):Act:={ tmps:=#[s0,s1,.pointer (some ⟨bx,0,none⟩),.pointer (some ⟨yb,0,none⟩),s4,V 0,V 1,V 2,V 3,V 4,V 5,V 6,V 7,V 8,V 9,V 10,V 11,V 12,V 13,V 14,V 15,V 16,V 17,V 18,V 19,V 20,V 21,V 22,V 23,V 24,V 25],defers:=df }
theorem qce:zC .any regAx.toArray 26=true:=by kernel_rfl
theorem qdr:fwdB regAx.toArray 26=true:=by kernel_rfl
theorem qap:qN regAx.toArray 31=true:=by kernel_rfl
theorem qds:Region.seqB .any regAx.toArray (regAx.length-26) 26 (Array.replicate 26 true++Array.replicate (regAx.length-26) false)=true:=by kernel_rfl
set_option maxRecDepth 100000 in
theorem qdq{id:Nat}(bx yb:Nat)(k1 n1 x1 l1 c1 x2 l2 c2:Int)(t1:ByteArray)(A1 B1 A2 B2:Option Addr)(m1 d1 M1 D1 m2 d2 M2 D2:Nat)(G1 G2:Tr)(q:Bool)(s0 s1 s4 s5 s6 s7 s8 s9 s10 s11 s12 s13 s14 s15 s16 s17 s18 s19 s20 s21 s22 s23 s24 s25 s26 s27 s28 s29 s30:Value)(df:List Deferred)(w:World)(h1:bx<w.drew.heap.size)(h2:yb<w.drew.heap.size)(fa0:w.drew.cell? ⟨bx,0,none⟩=some (.int .u8 k1))(fe0:w.drew.cell? ⟨yb,0,none⟩=some (.int .u8 k1))(fa1:w.drew.cell? ⟨bx,1,none⟩=some (.string t1))(fe1:w.drew.cell? ⟨yb,1,none⟩=some (.string t1))(fa2:w.drew.cell? ⟨bx,2,none⟩=some (.int .i64 n1))(fe2:w.drew.cell? ⟨yb,2,none⟩=some (.int .i64 n1))(fa3:w.drew.cell? ⟨bx,3,none⟩=some (.int .i64 x1))(fe3:w.drew.cell? ⟨yb,3,none⟩=some (.int .i64 x2))(fa4:w.drew.cell? ⟨bx,4,none⟩=some (.int .i64 l1))(fe4:w.drew.cell? ⟨yb,4,none⟩=some (.int .i64 l2))(fa5:w.drew.cell? ⟨bx,5,none⟩=some (.int .i64 c1))(fe5:w.drew.cell? ⟨yb,5,none⟩=some (.int .i64 c2))(fa6:w.drew.cell? ⟨bx,6,none⟩=some (.slice A1 m1 d1))(fe6:w.drew.cell? ⟨yb,6,none⟩=some (.slice A2 m2 d2))(fa7:w.drew.cell? ⟨bx,7,none⟩=some (.slice B1 M1 D1))(fe7:w.drew.cell? ⟨yb,7,none⟩=some (.slice B2 M2 D2))(H1:∀ W,Bel w.drew W->Calls Tryz.prog 72 #[.agg #[.int .u8 k1,t1,n1,x1,l1,c1,.slice A1 m1 d1,.slice B1 M1 D1]] W (ji W (OldT W) .pat G1))(H2:∀ W,Bel w.drew W->Calls Tryz.prog 72 #[.agg #[.int .u8 k1,t1,n1,x2,l2,c2,.slice A2 m2 d2,.slice B2 M2 D2]] W (ji W (OldT W) .pat G2))(HS:∀ (A:Option Addr) (c:Nat) (A':Option Addr) (c':Nat) (W:World),KidsTr W (OldT W) .pat A G1.len c G1->KidsTr W (OldT W) .pat A' G2.len c' G2->Calls Tryz.prog 87 #[.slice A G1.len c,.slice A' G2.len c',.func (.func 73) #[] #[],.func (.func 88) #[] #[]] W (qz q W))(Q:Exit->Act->World->Prop)
  (hend:∀ (V:Nat->Value) (w':World),Bel w.drew w'->((V 25)=.bool q)->wpList Tryz.prog regAx.toArray Q (regAx.drop 26) (qf6 bx yb k1 n1 x1 l1 c1 x2 l2 c2 t1 A1 B1 A2 B2 m1 d1 M1 D1 m2 d2 M2 D2 G1 G2 q s0 s1 s4 s5 s6 s7 s8 s9 s10 s11 s12 s13 s14 s15 s16 s17 s18 s19 s20 s21 s22 s23 s24 s25 s26 s27 s28 s29 s30 df V) w') :
  (Code.region id regAx.toArray true).wp Tryz.prog Q (qhx bx yb k1 n1 x1 l1 c1 x2 l2 c2 t1 A1 B1 A2 B2 m1 d1 M1 D1 m2 d2 M2 D2 G1 G2 q s0 s1 s4 s5 s6 s7 s8 s9 s10 s11 s12 s13 s14 s15 s16 s17 s18 s19 s20 s21 s22 s23 s24 s25 s26 s27 s28 s29 s30 df) w:=by
 refine qq (l:=regAx) 26 _ w (qd5 bx yb k1 n1 x1 l1 c1 x2 l2 c2 t1 A1 B1 A2 B2 m1 d1 M1 D1 m2 d2 M2 D2 G1 G2 q) (by kernel_rfl) qce qdr qap qds (fun i v w w' hi h hb=>qaH i v w w' hi h hb) ?_ ?_
 ·intro i' o hi' ho a w1 V hbel hdep hpar K hK
  have p2:a.eval (.tmp 2)=.pointer (some ⟨bx,0,none⟩):=hpar 2 (by show 2<31;decide) (by kernel_rfl);have p2':=tD p2;have p3:a.eval (.tmp 3)=.pointer (some ⟨yb,0,none⟩):=hpar 3 (by show 3<31;decide) (by kernel_rfl);have p3':=tD p3;have ga0:=gX hbel h1 fa0;have ga1:=gX hbel h1 fa1;have ga2:=gX hbel h1 fa2;have ga3:=gX hbel h1 fa3;have ga4:=gX hbel h1 fa4;have ga5:=gX hbel h1 fa5;have ga6:=gX hbel h1 fa6;have ga7:=gX hbel h1 fa7;have gb0:=gX hbel h2 fe0;have gb1:=gX hbel h2 fe1;have gb2:=gX hbel h2 fe2;have gb3:=gX hbel h2 fe3;have gb4:=gX hbel h2 fe4;have gb5:=gX hbel h2 fe5;have gb6:=gX hbel h2 fe6;have gb7:=gX hbel h2 fe7;match i',hi',ho,hdep,hK with
  | 0,_,ho,hdep,hK=>
   simp only[regAx,gT,gZ,gI]at ho;subst ho;exact nG rfl (wV (by simp[execOp,go_sem,p2']) hK rfl)
  | 1,_,ho,hdep,hK=>
   simp only[regAx,gT,gZ,gS,gI]at ho;subst ho;refine nG rfl ?_;have e0':=tK (t:=5) (hdep ⟨0,.data⟩ (by simp) rfl) rfl;exact wV (by simp[execOp,go_sem,e0',ga0]) hK rfl
  | 2,_,ho,hdep,hK=>
   simp only[regAx,gT,gZ,gS,gI]at ho;subst ho;exact nG rfl (wV (by simp[execOp,go_sem,p3']) hK rfl)
  | 3,_,ho,hdep,hK=>
   simp only[regAx,gT,gZ,gS,gI]at ho;subst ho;refine nG rfl ?_;have e2':=tK (t:=7) (hdep ⟨2,.data⟩ (by simp) rfl) rfl;exact wV (by simp[execOp,go_sem,e2',gb0]) hK rfl
  | 4,_,ho,hdep,hK=>
   simp only[regAx,gT,gZ,gS,gI]at ho;subst ho;refine nG rfl ?_;have e1':=tK (t:=6) (hdep ⟨1,.data⟩ (by simp) rfl) rfl;have e3':=tK (t:=8) (hdep ⟨3,.data⟩ (by simp) rfl) rfl;exact wV (by simp[execOp,go_sem,e1',e3']) hK rfl
  | 5,_,ho,hdep,hK=>
   simp only[regAx,gT,gZ,gS,gI]at ho;subst ho;refine nG rfl ?_;have e4':=tK (t:=9) (hdep ⟨4,.data⟩ (by simp) rfl) rfl;exact wV (by simp[execOp,go_sem,e4']) hK rfl
  | 6,_,ho,hdep,hK=>
   simp only[regAx,gT,gZ,gS,gI]at ho;subst ho;obtain⟨fg,dg⟩:=hdep ⟨5,.guard⟩ (by simp) rfl;have eg:a.tmps.getD 10 undef=.bool true:=(dg 10 rfl).trans fg;refine⟨fun _=>?_,fun hw=>(yw_t (d:=10) rfl rfl eg hw).elim⟩;exact wV (by simp[execOp,go_sem,p2']) hK rfl
  | 7,_,ho,hdep,hK=>
   simp only[regAx,gT,gZ,gS,gI]at ho;subst ho;obtain⟨fg,dg⟩:=hdep ⟨5,.guard⟩ (by simp) rfl;have eg:a.tmps.getD 10 undef=.bool true:=(dg 10 rfl).trans fg;refine⟨fun _=>?_,fun hw=>(yw_t (d:=10) rfl rfl eg hw).elim⟩;have e6':=tK (t:=11) (hdep ⟨6,.data⟩ (by simp) rfl) rfl;exact wV (by simp[execOp,go_sem,e6',ga1]) hK rfl
  | 8,_,ho,hdep,hK=>
   simp only[regAx,gT,gZ,gS,gI]at ho;subst ho;obtain⟨fg,dg⟩:=hdep ⟨5,.guard⟩ (by simp) rfl;have eg:a.tmps.getD 10 undef=.bool true:=(dg 10 rfl).trans fg;refine⟨fun _=>?_,fun hw=>(yw_t (d:=10) rfl rfl eg hw).elim⟩;exact wV (by simp[execOp,go_sem,p3']) hK rfl
  | 9,_,ho,hdep,hK=>
   simp only[regAx,gT,gZ,gS,gI]at ho;subst ho;obtain⟨fg,dg⟩:=hdep ⟨5,.guard⟩ (by simp) rfl;have eg:a.tmps.getD 10 undef=.bool true:=(dg 10 rfl).trans fg;refine⟨fun _=>?_,fun hw=>(yw_t (d:=10) rfl rfl eg hw).elim⟩;have e8':=tK (t:=13) (hdep ⟨8,.data⟩ (by simp) rfl) rfl;exact wV (by simp[execOp,go_sem,e8',gb1]) hK rfl
  | 10,_,ho,hdep,hK=>
   simp only[regAx,gT,gZ,gS,gI]at ho;subst ho;obtain⟨fg,dg⟩:=hdep ⟨5,.guard⟩ (by simp) rfl;have eg:a.tmps.getD 10 undef=.bool true:=(dg 10 rfl).trans fg;refine⟨fun _=>?_,fun hw=>(yw_t (d:=10) rfl rfl eg hw).elim⟩;have e7':=tK (t:=12) (hdep ⟨7,.data⟩ (by simp) rfl) rfl;have e9':=tK (t:=14) (hdep ⟨9,.data⟩ (by simp) rfl) rfl;exact wV (by simp[execOp,go_sem,e7',e9']) hK rfl
  | 11,_,ho,hdep,hK=>
   simp only[regAx,gT,gZ,gS,gI]at ho;subst ho;refine nG rfl ?_;have e5':=tK (t:=10) (hdep ⟨5,.data⟩ (by simp) rfl) rfl;have e10':=tK (t:=15) (hdep ⟨10,.data⟩ (by simp) rfl) rfl;exact wV (by simp[execOp,go_sem,e5',e10']) hK rfl
  | 12,_,ho,hdep,hK=>
   simp only[regAx,gT,gZ,gS,gI]at ho;subst ho;refine nG rfl ?_;have e11':=tK (t:=16) (hdep ⟨11,.data⟩ (by simp) rfl) rfl;exact wV (by simp[execOp,go_sem,e11']) hK rfl
  | 13,_,ho,hdep,hK=>
   simp only[regAx,gT,gZ,gS,gI]at ho;subst ho;obtain⟨fg,dg⟩:=hdep ⟨12,.guard⟩ (by simp) rfl;have eg:a.tmps.getD 17 undef=.bool true:=(dg 17 rfl).trans fg;refine⟨fun _=>?_,fun hw=>(yw_t (d:=17) rfl rfl eg hw).elim⟩;exact wV (by simp[execOp,go_sem,p2']) hK rfl
  | 14,_,ho,hdep,hK=>
   simp only[regAx,gT,gZ,gS,gI]at ho;subst ho;obtain⟨fg,dg⟩:=hdep ⟨12,.guard⟩ (by simp) rfl;have eg:a.tmps.getD 17 undef=.bool true:=(dg 17 rfl).trans fg;refine⟨fun _=>?_,fun hw=>(yw_t (d:=17) rfl rfl eg hw).elim⟩;have e13':=tK (t:=18) (hdep ⟨13,.data⟩ (by simp) rfl) rfl;exact wV (by simp[execOp,go_sem,e13',ga2]) hK rfl
  | 15,_,ho,hdep,hK=>
   simp only[regAx,gT,gZ,gS,gI]at ho;subst ho;obtain⟨fg,dg⟩:=hdep ⟨12,.guard⟩ (by simp) rfl;have eg:a.tmps.getD 17 undef=.bool true:=(dg 17 rfl).trans fg;refine⟨fun _=>?_,fun hw=>(yw_t (d:=17) rfl rfl eg hw).elim⟩;exact wV (by simp[execOp,go_sem,p3']) hK rfl
  | 16,_,ho,hdep,hK=>
   simp only[regAx,gT,gZ,gS,gI]at ho;subst ho;obtain⟨fg,dg⟩:=hdep ⟨12,.guard⟩ (by simp) rfl;have eg:a.tmps.getD 17 undef=.bool true:=(dg 17 rfl).trans fg;refine⟨fun _=>?_,fun hw=>(yw_t (d:=17) rfl rfl eg hw).elim⟩;have e15':=tK (t:=20) (hdep ⟨15,.data⟩ (by simp) rfl) rfl;exact wV (by simp[execOp,go_sem,e15',gb2]) hK rfl
  | 17,_,ho,hdep,hK=>
   simp only[regAx,gT,gZ,gS,gI]at ho;subst ho;obtain⟨fg,dg⟩:=hdep ⟨12,.guard⟩ (by simp) rfl;have eg:a.tmps.getD 17 undef=.bool true:=(dg 17 rfl).trans fg;refine⟨fun _=>?_,fun hw=>(yw_t (d:=17) rfl rfl eg hw).elim⟩;have e14':=tK (t:=19) (hdep ⟨14,.data⟩ (by simp) rfl) rfl;have e16':=tK (t:=21) (hdep ⟨16,.data⟩ (by simp) rfl) rfl;exact wV (by simp[execOp,go_sem,e14',e16']) hK rfl
  | 18,_,ho,hdep,hK=>
   simp only[regAx,gT,gZ,gS,gI]at ho;subst ho;refine nG rfl ?_;have e12':=tK (t:=17) (hdep ⟨12,.data⟩ (by simp) rfl) rfl;have e17':=tK (t:=22) (hdep ⟨17,.data⟩ (by simp) rfl) rfl;exact wV (by simp[execOp,go_sem,e12',e17']) hK rfl
  | 19,_,ho,hdep,hK=>
   simp only[regAx,gT,gZ,gS,gI]at ho;subst ho;refine nG rfl ?_;have e18':=tK (t:=23) (hdep ⟨18,.data⟩ (by simp) rfl) rfl;exact wV (by simp[execOp,go_sem,e18']) hK rfl
  | 20,_,ho,hdep,hK=>
   simp only[regAx,gT,gZ,gS,gI]at ho;subst ho;obtain⟨fg,dg⟩:=hdep ⟨19,.guard⟩ (by simp) rfl;have eg:a.tmps.getD 24 undef=.bool true:=(dg 24 rfl).trans fg;refine⟨fun _=>?_,fun hw=>(yw_t (d:=24) rfl rfl eg hw).elim⟩;exact wV (by simp[execOp,go_sem,p2',ga0,ga1,ga2,ga3,ga4,ga5,ga6,ga7]) hK rfl
  | 21,_,ho,hdep,hK=>
   simp only[regAx,gT,gZ,gS,gI]at ho;subst ho;obtain⟨fg,dg⟩:=hdep ⟨19,.guard⟩ (by simp) rfl;have eg:a.tmps.getD 24 undef=.bool true:=(dg 24 rfl).trans fg;refine⟨fun _=>?_,fun hw=>(yw_t (d:=24) rfl rfl eg hw).elim⟩;have e20':=tK (t:=25) (hdep ⟨20,.data⟩ (by simp) rfl) rfl;refine qi (f:=72) (args:=#[.agg #[.int .u8 k1,t1,n1,x1,l1,c1,.slice A1 m1 d1,.slice B1 M1 D1]]) (by simp[go_sem,e20']) ((H1 w1 hbel).mono ?_);rintro e w' ⟨A,c,rfl,hb,hk⟩;exact⟨_,rfl,hK _ _ hb ⟨A,c,rfl,hk.wide fun j hj=>by rcases hj with hj | hj;exact Nat.lt_of_lt_of_le hj hb.size;exact hj.2⟩⟩
  | 22,_,ho,hdep,hK=>
   simp only[regAx,gT,gZ,gS,gI]at ho;subst ho;obtain⟨fg,dg⟩:=hdep ⟨19,.guard⟩ (by simp) rfl;have eg:a.tmps.getD 24 undef=.bool true:=(dg 24 rfl).trans fg;refine⟨fun _=>?_,fun hw=>(yw_t (d:=24) rfl rfl eg hw).elim⟩;exact wV (by simp[execOp,go_sem,p3',gb0,gb1,gb2,gb3,gb4,gb5,gb6,gb7]) hK rfl
  | 23,_,ho,hdep,hK=>
   simp only[regAx,gT,gZ,gS,gI]at ho;subst ho;obtain⟨fg,dg⟩:=hdep ⟨19,.guard⟩ (by simp) rfl;have eg:a.tmps.getD 24 undef=.bool true:=(dg 24 rfl).trans fg;refine⟨fun _=>?_,fun hw=>(yw_t (d:=24) rfl rfl eg hw).elim⟩;have e22':=tK (t:=27) (hdep ⟨22,.data⟩ (by simp) rfl) rfl;refine qi (f:=72) (args:=#[.agg #[.int .u8 k1,t1,n1,x2,l2,c2,.slice A2 m2 d2,.slice B2 M2 D2]]) (by simp[go_sem,e22']) ((H2 w1 hbel).mono ?_);rintro e w' ⟨A,c,rfl,hb,hk⟩;exact⟨_,rfl,hK _ _ hb ⟨A,c,rfl,hk.wide fun j hj=>by rcases hj with hj | hj;exact Nat.lt_of_lt_of_le hj hb.size;exact hj.2⟩⟩
  | 24,_,ho,hdep,hK=>
   simp only[regAx,gT,gZ,gS,gI]at ho;subst ho;obtain⟨fg,dg⟩:=hdep ⟨19,.guard⟩ (by simp) rfl;have eg:a.tmps.getD 24 undef=.bool true:=(dg 24 rfl).trans fg;refine⟨fun _=>?_,fun hw=>(yw_t (d:=24) rfl rfl eg hw).elim⟩;obtain⟨f21,d21⟩:=hdep ⟨21,.data⟩ (by simp) rfl;obtain⟨A_21,c_21,hv21,hq21⟩:=f21;have e21:a.eval (.tmp 26)=.slice A_21 G1.len c_21:=(d21 26 rfl).trans hv21;have e21':=tD e21;obtain⟨f23,d23⟩:=hdep ⟨23,.data⟩ (by simp) rfl;obtain⟨A_23,c_23,hv23,hq23⟩:=f23;have e23:a.eval (.tmp 28)=.slice A_23 G2.len c_23:=(d23 28 rfl).trans hv23;have e23':=tD e23;refine qi (f:=87) (args:=#[.slice A_21 G1.len c_21,.slice A_23 G2.len c_23,.func (.func 73) #[] #[],.func (.func 88) #[] #[]]) (by simp[go_sem,e21',e23']) ((HS A_21 c_21 A_23 c_23 w1 hq21 hq23).mono ?_);rintro e w' ⟨rfl,hb⟩;exact⟨_,rfl,hK _ _ hb rfl⟩
  | 25,_,ho,hdep,hK=>
   simp only[regAx,gT,gZ,gS,gI]at ho;subst ho;refine nG rfl ?_;have e19':=tK (t:=24) (hdep ⟨19,.data⟩ (by simp) rfl) rfl;have e24':=tK (t:=29) (hdep ⟨24,.data⟩ (by simp) rfl) rfl;exact wV (by simp[execOp,go_sem,e19',e24']) hK rfl
  | q+26,hi,_,_,_=>exact absurd hi (by omega)
 ·intro V w' hb hF
  have e:finA regAx.toArray 26 V (qhx bx yb k1 n1 x1 l1 c1 x2 l2 c2 t1 A1 B1 A2 B2 m1 d1 M1 D1 m2 d2 M2 D2 G1 G2 q s0 s1 s4 s5 s6 s7 s8 s9 s10 s11 s12 s13 s14 s15 s16 s17 s18 s19 s20 s21 s22 s23 s24 s25 s26 s27 s28 s29 s30 df)=qf6 bx yb k1 n1 x1 l1 c1 x2 l2 c2 t1 A1 B1 A2 B2 m1 d1 M1 D1 m2 d2 M2 D2 G1 G2 q s0 s1 s4 s5 s6 s7 s8 s9 s10 s11 s12 s13 s14 s15 s16 s17 s18 s19 s20 s21 s22 s23 s24 s25 s26 s27 s28 s29 s30 df V:=by kernel_rfl
  rw[e];exact hend V w' hb (hF 25 (by omega))
end Go.Proofs.YtfpoelklhekfaaaGreatDoor.Mu
