import Derived.Test.YtlmmaoobembadaaGreatDoorQap
open Go.Lib (hid)
namespace Go.Proofs.YtlmmaoobembadaaGreatDoor.Mu
set_option maxHeartbeats 4000000
open Go Go.RowKit Go.Shelf
attribute [local go_sem] Oper.semAt_some
set_option linter.unusedVariables false
set_option maxRecDepth 100000
theorem qbU(k:Int)(s:List UInt8)(n:Int)(p:Pl)(A:Option Addr)(l c:Nat)(k2:Int)(s2:List UInt8)(n2:Int)(p2:Pl)(A2:Option Addr)(l2 c2:Nat)(w:World) :
  Calls Tryz.prog 172 #[.agg #[.int .u8 k,.string ⟨s.toArray⟩,.int .u8 n,p.a,p.l,p.c,.slice A l c],.agg #[.int .u8 k2,.string ⟨s2.toArray⟩,.int .u8 n2,p2.a,p2.l,p2.c,.slice A2 l2 c2]] w (qj (decide (k=k2)&&decide (s=s2)&&decide (n=n2)) w):=by
 have hne:s≠s2->(⟨s.toArray⟩:ByteArray).toList≠(⟨s2.toArray⟩:ByteArray).toList:=jV;by_cases dk:k=k2
 case neg=>
  have e:(decide (k=k2)&&decide (s=s2)&&decide (n=n2))=false:=by simp[dk]
  rw[e];have ek:(k==k2)=false:=by simpa using dk
  clear hne e;go_enter Tryz.func172,Tryz.ntmps172
  go_wp2_with fail
  go_ret
  exact⟨rfl,((Bel.refl w).alloc _).alloc _⟩
 subst dk;by_cases ds:s=s2
 case neg=>
  have e:(decide (k=k)&&decide (s=s2)&&decide (n=n2))=false:=by simp[ds]
  rw[e];obtain⟨S,hS⟩:∃ S:ByteArray,S=⟨s.toArray⟩:=⟨_,rfl⟩
  obtain⟨S2,hS2⟩:∃ S:ByteArray,S=⟨s2.toArray⟩:=⟨_,rfl⟩
  have qn:=hne ds;rw[<- hS,<- hS2]at qn;rw[<- hS,<- hS2];have qb:(S.toList==S2.toList)=false:=by simpa using qn
  clear hne e hS hS2 ds;go_enter Tryz.func172,Tryz.ntmps172
  go_wp2_with fail
  go_ret
  exact⟨rfl,((Bel.refl w).alloc _).alloc _⟩
 subst ds;have e:(decide (k=k)&&decide (s=s)&&decide (n=n2))=(n==n2):=by by_cases h:n=n2 <;> simp[h]
 rw[e];obtain⟨S,hS⟩:∃ S:ByteArray,S=⟨s.toArray⟩:=⟨_,rfl⟩
 rw[<- hS];clear hne e hS;go_enter Tryz.func172,Tryz.ntmps172
 go_wp2_with fail
 go_ret
 exact⟨rfl,((Bel.refl w).alloc _).alloc _⟩
theorem qhb(A:Option Addr)(n c:Nat)(B:Option Addr)(m d:Nat)(f g:Tr)(w:World)(hk:KidsTr w (OldT w) .ty A n c f)(hk2:KidsTr w (OldT w) .ty B m d g)(hsz:f.size<=1000000)(hsz2:g.size<=1000000) :
  Calls Tryz.prog 201 #[.slice A n c,.slice B m d,.func (.func 172) #[] #[]] w (qj (f.hds (fun _ _=>true) g) w):=by
 have H:=hid hk;have H2:=hid hk2;have HL:Hid (n=f.len):=hid hk.1;have HL2:Hid (m=g.len):=hid hk2.1;have HSZ:=hid (And.intro hsz hsz2);have hn:n<=1000000:=by have:=hk.1;have:=f.len_le;omega
 have hm:m<=1000000:=by have:=hk2.1;have:=g.len_le;omega
 obtain⟨r,hr⟩:∃ r,r=f.hds (fun _ _=>true) g:=⟨_,rfl⟩
 rw[<- hr];have HR:=hid hr;clear hk hk2 hsz hsz2 hr;have eg:∀ args w,(callFunc 172 args).run Tryz.prog w=.ok (.enter 172 args) w:=fun args w=>by kernel_rfl
 by_cases hnm:n=m
 case neg=>
  obtain rfl:r=false:=by
   rw[HR.out,Bool.eq_false_iff];intro h;have:=Tr.hds_len _ _ _ h;exact hnm (by rw[HL.out,HL2.out,this])
  have e0:((n:Int) != (m:Int))=true:=by simp;omega
  go_enter Tryz.func201,Tryz.ntmps201
  go_wp2_with fail
  go_ret
  exact⟨rfl,Bel.refl _⟩
 subst hnm;go_enter Tryz.func201,Tryz.ntmps201
 go_wp2_with fail
 go_loopw [17] (fun i wr=>∃ j:Nat,j<=n/\i=.int .i64 (j:Int)/\Hid (r=(f.drp j).hds (fun _ _=>true) (g.drp j))/\Hid (Bel w wr)) (fun i _=>n-(intOf i).toNat)
 case atStart=>exact⟨0,Nat.zero_le _,rfl,hid (by rw[Tr.drp_zero,Tr.drp_zero];exact HR.out),hid (Bel.refl _)⟩
 case round=>
  obtain⟨j,hj,rfl,HRJ,HB⟩:=hrel;by_cases hlt:j<n
  ·obtain⟨ub,uo,eA,hob,hfo⟩:=(H.out.bel HB.out).2.2 (by omega)
   obtain⟨ub2,uo2,eA2,hob2,hfo2⟩:=(H2.out.bel HB.out).2.2 (by omega);subst eA eA2;obtain⟨k,s,nn,p,kids,arms,en,hd⟩:=TrAt.nod_at (by intro e;cases e) f j ub uo hfo (by rw[<- HL.out];exact hlt);obtain⟨k2,s2,nn2,p2,kids2,arms2,en2,hd2⟩:=TrAt.nod_at (by intro e;cases e) g j ub2 uo2 hfo2 (by rw[<- HL2.out];exact hlt);obtain⟨A',ca',B',cb',hc,hk',ha',_⟩:=hd.parts;obtain⟨A2',ca2',B2',cb2',hc2,hk2',ha2',_⟩:=hd2.parts;have hsn:=Tr.nth_size f j;have hsn2:=Tr.nth_size g j;rw[en]at hsn;rw[en2]at hsn2;simp only[Tr.size]at hsn hsn2;obtain⟨hb,hhb⟩:∃ hb,hb=(decide (k=k2)&&decide (s=s2)&&decide (nn=nn2)&&(fun _ _=>true:Tr->Tr->Bool) arms arms2):=⟨_,rfl⟩
   have HRN:Hid (r=(hb&&(f.drp (j+1)).hds (fun _ _=>true) (g.drp (j+1)))):=hid (by
    rw[HRJ.out,Tr.drp_at f j en,Tr.drp_at g j en2,hhb];rfl)
   have HC:Hid (∀ W,Bel wr W->Calls Tryz.prog 172 #[.agg #[.int .u8 k,.string ⟨s.toArray⟩,.int .u8 nn,p.a,p.l,p.c,.slice A' kids.len ca'],.agg #[.int .u8 k2,.string ⟨s2.toArray⟩,.int .u8 nn2,p2.a,p2.l,p2.c,.slice A2' kids2.len ca2']] W (qj hb W)):=hid fun W hW=>by
    rw[hhb];rw[Bool.and_true];exact qbU k s nn p A' kids.len ca' k2 s2 nn2 p2 A2' kids2.len ca2' W
   have y0:=hc 0 _ rfl;have y1:=hc 1 _ rfl;have y2:=hc 2 _ rfl;have y3:=hc 3 _ rfl;have y4:=hc 4 _ rfl;have y5:=hc 5 _ rfl;have y6:=hc 6 _ rfl;have z0:=hc2 0 _ rfl;have z1:=hc2 1 _ rfl;have z2:=hc2 2 _ rfl;have z3:=hc2 3 _ rfl;have z4:=hc2 4 _ rfl;have z5:=hc2 5 _ rfl;have z6:=hc2 6 _ rfl;simp only[Nat.add_zero,Sh.kd,Sh.sz]at y0 y1 y2 y3 y4 y5 y6 z0 z1 z2 z3 z4 z5 z6;obtain⟨l1,hl1⟩:∃ l,l=kids.len:=⟨_,rfl⟩
   obtain⟨l2,hl2⟩:∃ l,l=kids2.len:=⟨_,rfl⟩
   obtain⟨l3,hl3⟩:∃ l,l=arms.len:=⟨_,rfl⟩
   obtain⟨l4,hl4⟩:∃ l,l=arms2.len:=⟨_,rfl⟩
   obtain⟨SS,hSS⟩:∃ S:ByteArray,S=⟨s.toArray⟩:=⟨_,rfl⟩
   obtain⟨SS2,hSS2⟩:∃ S:ByteArray,S=⟨s2.toArray⟩:=⟨_,rfl⟩
   rw[<- hSS,<- hSS2,<- hl1,<- hl2]at HC;rw[<- hSS]at y1;rw[<- hSS2]at z1;rw[<- hl1]at y6;rw[<- hl2]at z6;skip
   have i1:(0:Int)<=(j:Int):=by omega
   have i2:(j:Int)<(n:Int):=by omega
   have HLT:=hid hlt;clear hc hc2 hk' hk2' ha' ha2' hsn hsn2 en en2 hd hd2 hfo hfo2 hl1 hl2 hl3 hl4 hSS hSS2 hhb;have hob':ub<wr.heap.size:=hob;have hob2':ub2<wr.heap.size:=hob2;clear hob hob2;go_wp2_with fail
   refine (HC.out _ (((Bel.refl wr).alloc _).alloc _)).mono ?_;rintro e w3 ⟨rfl,hb3⟩;have HB3:=hid (((HB.out.alloc _).alloc _).on hb3);clear hb3 HC y0 y1 y2 y3 y4 y5 y6 z0 z1 z2 z3 z4 z5 z6;cases hb
   ·obtain rfl:r=false:=by rw[HRN.out];rfl
    go_wp2_with fail
    go_ret
    exact⟨rfl,HB3.out⟩
   ·have HR':Hid (r=(f.drp (j+1)).hds (fun _ _=>true) (g.drp (j+1))):=hid (by rw[HRN.out];rfl)
    go_wp2_with fail
    go_roundw
    case rel=>exact⟨j+1,HLT.out,by go_num,HR',HB3⟩
    case measure=>have:=HLT.out;simp[intOf];omega
  ·obtain rfl:j=n:=by omega
   obtain rfl:r=true:=by rw[HRJ.out,Tr.drp_end f j (by rw[<- HL.out];exact Nat.le_refl _),Tr.drp_end g j (by rw[<- HL2.out];exact Nat.le_refl _)];rfl
   go_wp2_with fail
   go_ret
   exact⟨rfl,HB.out⟩
theorem qfy:(Tryz.prog.info? 258).map (fun i=>(i.zero,i.size,i.bytes))=some (some (.agg #[.slice none 0 0,.slice none 0 0]),2,48):=by kernel_rfl
theorem qeu(A:Option Addr)(n c:Nat)(B:Option Addr)(m d:Nat)(f g:Tr)(w:World)(hk:KidsTr w (OldT w) .ty A n c f)(hk2:KidsTr w (OldT w) .ty B m d g)(hsz:f.size<=1000000)(hsz2:g.size<=1000000) :
  Calls Tryz.prog 171 #[.slice A n c,.slice B m d,.func (.func 32) #[] #[],.func (.func 172) #[] #[]] w (qj (f.same g) w):=by
 have HK:=hid hk;have HK2:=hid hk2;have HSZ:=hid (And.intro hsz hsz2);obtain⟨r,hr⟩:∃ r,r=f.same g:=⟨_,rfl⟩
 rw[<- hr];have HR:=hid hr;have HN:=hid (And.intro hk.1 hk2.1);clear hk hk2 hsz hsz2 hr;obtain⟨i0,hi0,hz0,hz1,hz2⟩:=info_parts qfy;have eg:∀ args w,(callFunc 172 args).run Tryz.prog w=.ok (.enter 172 args) w:=fun args w=>by kernel_rfl
 have ek:∀ args w,(callFunc 32 args).run Tryz.prog w=.ok (.enter 32 args) w:=fun args w=>by kernel_rfl
 go_enter Tryz.func171,Tryz.ntmps171
 go_wp2_with fail
 obtain⟨base,hbase⟩:∃ base,base=w.heap.size:=⟨_,rfl⟩
 obtain⟨w1,hw1⟩:∃ w1,w1=w.alloc (.cells #[.slice A n c,.slice B m d] 258):=⟨_,rfl⟩
 have hb1:Bel w w1:=by rw[hw1];exact (Bel.refl w).alloc _
 have hq1:w1.heap[base]?=some (.cells #[.slice A n c,.slice B m d] 258 (0,0)):=by rw[hw1,hbase];exact blk1 w _
 have hs1:w1.heap.size=base+1:=by rw[hw1,hbase];simp
 rw[<- hw1,<- hbase];have HBS:=hid hbase;have HB1:=hid hb1;have HB2:Hid (base<=w1.heap.size):=hid (by omega);have HRW:Hid (w1.ownsRow base 258 2 (.slice (some ⟨base,0,none⟩) 1 1) 1 (prV [⟨⟨A,c,f⟩,⟨B,d,g⟩⟩])):=hid ⟨rfl,.inr ⟨base,1,_,rfl,Nat.le_refl _,hq1,Nat.le_refl _,by unfold maxLen;omega,rfl,by simp[prV,Pr.cells,It.val,<- HN.out.1,<- HN.out.2]⟩⟩;have HPI:Hid (PrI w1 (some ⟨base,0,none⟩) .ty [⟨⟨A,c,f⟩,⟨B,d,g⟩⟩]):=hid (by
  intro x hx;simp at hx;subst hx;have hw:∀ j,OldT w j->OkI w1 (fun _=>False) (some ⟨base,0,none⟩) j:=fun j hj=>⟨Nat.lt_of_lt_of_le hj hb1.size,fun h=>h,fun o e=>by cases e;have:base<w.heap.size:=hj;omega⟩
  have k1:=HK.out;have k2:=HK2.out;rw[HN.out.1]at k1;rw[HN.out.2]at k2;exact⟨⟨(k1.keep fun j hj=>hb1.block j hj).wide hw,HSZ.out.1⟩,⟨(k2.keep fun j hj=>hb1.block j hj).wide hw,HSZ.out.2⟩⟩)
 have HRA:Hid (r=allP [⟨⟨A,c,f⟩,⟨B,d,g⟩⟩]):=hid (by rw[HR.out];simp[allP]);have HMP:Hid (msP [⟨⟨A,c,f⟩,⟨B,d,g⟩⟩]<=1000001):=hid (by have:=HSZ.out.1;simp only[msP];omega);clear hb1 hq1 hs1 hw1 hbase HK HK2 HSZ HR HN;go_loopg [9] (msP [⟨⟨A,c,f⟩,⟨B,d,g⟩⟩]) (fun gk v wr=>∃ (S:List Pr) (A:Option Addr) (cc m:Nat),v=.slice A m cc/\Hid (m=S.length)/\Hid (gk=msP S)/\Hid (msP S<=1000001)/\Hid (wr.ownsRow base 258 2 (.slice A m cc) m (prV S))/\Hid (PrI wr A .ty S)/\Hid (r=allP S)/\Hid (Bel w wr)/\Hid (base<=wr.heap.size))
 case atStart=>exact⟨_,_,_,_,rfl,hid rfl,hid rfl,HMP,HRW,HPI,HRA,HB1,HB2⟩
 case round=>
  clear HRW HPI HRA HB1 HB2 HMP;obtain⟨S,A,cc,m,rfl,HM,HGK,HMS,HRW,HPI,HRA,HB,HBL⟩:=hrel;cases S with
  | nil=>
   obtain rfl:m=0:=HM.out;obtain rfl:r=true:=by rw[HRA.out];rfl
   go_wp2_with fail
   go_ret
   exact⟨rfl,HB.out⟩
  | cons x S=>
   obtain⟨mm,hmm⟩:∃ mm,mm=S.length:=⟨_,rfl⟩
   have hm:m=mm+1:=by rw[hmm];exact HM.out
   subst hm;obtain⟨g',eA,hbg,hgl,hcc,hcm,hca,hcb,hrow⟩:=qdK hmm HRW.out;subst eA;obtain⟨⟨xA,xc,xf⟩,⟨yA,yc,yf⟩⟩:=x;obtain⟨⟨kx,sx⟩,⟨ky,sy⟩⟩:=HPI.out _ List.mem_cons_self;simp only at kx ky sx sy;obtain⟨xl,hxl⟩:∃ l,l=xf.len:=⟨_,rfl⟩
   obtain⟨yl,hyl⟩:∃ l,l=yf.len:=⟨_,rfl⟩
   simp only[It.val,<- hxl]at hca;simp only[It.val,<- hyl]at hcb;rw[<- hxl]at kx;rw[<- hyl]at ky;obtain⟨hb,hhb⟩:∃ hb,hb=xf.hds (fun _ _=>true) yf:=⟨_,rfl⟩
   have hOld:∀ j,OkI wr (fun _=>False) (some ⟨g',0,none⟩) j->OldT wr j:=fun j hj=>hj.1;have HE:Hid (∀ W,Bel wr W->Calls Tryz.prog 201 #[.slice xA xl xc,.slice yA yl yc,.func (.func 172) #[] #[]] W (qj hb W)):=hid fun W hW=>by
    rw[hhb];exact qhb xA xl xc yA yl yc xf yf W ((kx.wide hOld).bel hW) ((ky.wide hOld).bel hW) sx sy
   have HSP:Hid (r=((hb&&xf.kidsSame yf)&&allP S)):=hid (by
    rw[HRA.out];simp only[allP,List.all_cons];rw[hhb,<- Tr.same_bare xf yf (kx.bare (.inr rfl)) (ky.bare (.inr rfl)) (kx.isNods (by intro e;cases e)) (ky.isNods (by intro e;cases e)) kx.ok ky.ok])
   have HKX:=hid kx;have HKY:=hid ky;have HSXY:=hid (And.intro sx sy);have HHB:=hid hhb;have HXL:=hid hxl;have HYL:=hid hyl;have HROW:=hid hrow;have HBG:=hid hbg;have HMM:=hid hmm;have hm63:mm+1<=9223372036854775807:=by unfold maxLen at hcm;omega
   have i0':(0:Int)<=(mm:Int):=by omega
   have i1:(mm:Int)<(mm:Int)+1:=by omega
   have i4:(mm:Int)<=(cc:Int):=by omega
   have z0:=qa hgl hca;have z1:=qa hgl hcb;clear kx ky sx sy hhb hxl hyl hrow hbg hmm hcm hOld HRW HRA;go_wp2_with fail
   go_quiet (fail)
   have HB4:Hid (∀ k,Bel wr (wr.drewN k)):=hid fun k=>(Bel.refl wr).drewN k;go_wp2_with fail
   clear z0 z1 hca hcb;refine (HE.out _ (HB4.out _)).mono ?_;rintro e w5 ⟨rfl,hb5⟩;have HB5:=hid ((HB4.out _).on hb5);have HBW5:=hid (HB.out.on ((HB4.out _).on hb5));clear hb5 HE HB4;cases hb
   ·obtain rfl:r=false:=by rw[HSP.out];rfl
    go_wp2_with fail
    go_ret
    exact⟨rfl,HBW5.out⟩
   ·have hlen:xl=yl:=by rw[HXL.out,HYL.out];exact Tr.hds_len _ _ _ HHB.out.symm
    subst hlen;have hxl2:xl<=1000000:=by rw[HXL.out];have:=xf.len_le;have:=HSXY.out.1;omega
    have hst:∀ j,OkI wr (fun _=>False) (some ⟨g',0,none⟩) j->w5.heap[j]?=wr.heap[j]?:=fun j hj=>HB5.out.block j hj.1;have HIN:Hid (KidsTr w5 (OkI w5 (fun _=>False) (some ⟨g',0,none⟩)) .ty xA xl xc xf/\KidsTr w5 (OkI w5 (fun _=>False) (some ⟨g',0,none⟩)) .ty yA xl yc yf):=hid ⟨HKX.out.stepI HB5.out.size hst (fun _ h=>h.elim) (fun j o e=> .inl ⟨o,e⟩),HKY.out.stepI HB5.out.size hst (fun _ h=>h.elim) (fun j o e=> .inl ⟨o,e⟩)⟩;have HPS:Hid (PrI w5 (some ⟨g',0,none⟩) .ty S):=hid (PrI.step (fun y hy=>HPI.out y (List.mem_cons_of_mem _ hy)) HB5.out.size hst (fun j o e=> .inl ⟨o,e⟩));have HRO:Hid (w5.ownsRow base 258 2 (.slice (some ⟨g',0,none⟩) mm cc) mm (prV S)):=hid (qk HROW.out HB5.out);have HBL5:Hid (base<=w5.heap.size):=hid (Nat.le_trans HBL.out HB5.out.size);have HRI:Hid (r=(allP S&&(xf.drp 0).kidsSame (yf.drp 0))):=hid (by rw[Tr.drp_zero,Tr.drp_zero,HSP.out,Bool.true_and,Bool.and_comm]);have HMI:Hid (msP S+(xf.drp 0).size<=msP S+xf.size):=hid (by rw[Tr.drp_zero];exact Nat.le_refl _);have HMB:Hid (msP S+xf.size<=1000000):=hid (by have:=HMS.out;simp only[msP]at this;omega);have HM':=HMM;clear hst HKX HKY HB5 HPI HROW HSP HHB;go_wp2_with fail
    go_loopw [9,48] (fun v iv wx=>∃ (q:Nat) (S2:List Pr) (A2:Option Addr) (c2 m2:Nat),q<=xl/\iv=.int .i64 (q:Int)/\v=.slice A2 m2 c2/\Hid (m2=S2.length)/\Hid (wx.ownsRow base 258 2 (.slice A2 m2 c2) m2 (prV S2))/\Hid (PrI wx A2 .ty S2)/\Hid (KidsTr wx (OkI wx (fun _=>False) A2) .ty xA xl xc xf/\KidsTr wx (OkI wx (fun _=>False) A2) .ty yA xl yc yf)/\Hid (r=(allP S2&&(xf.drp q).kidsSame (yf.drp q)))/\Hid (msP S2+(xf.drp q).size<=msP S+xf.size)/\Hid (Bel w wx)/\Hid (base<=wx.heap.size)) (fun _ i _=>xl-(intOf i).toNat)
    case atStart=>exact⟨0,S,_,_,_,Nat.zero_le _,rfl,rfl,HMM,HRO,HPS,HIN,HRI,HMI,HBW5,HBL5⟩
    case round=>
     clear HRO HPS HIN HRI HMI HBW5 HBL5;obtain⟨q,S2,A2,c2,m2,hq,rfl,rfl,HM2,HR2,HP2,HI2,HRR,HMM2,HBW,HBLX⟩:=hrel;obtain⟨wx,rfl⟩:∃ wx:World,wx=wr:=⟨_,rfl⟩
     by_cases hlt:q<xl
     ·obtain⟨ub,uo,eA,hob,hfo⟩:=HI2.out.1.2.2 (by omega)
      obtain⟨ub2,uo2,eA2,hob2,hfo2⟩:=HI2.out.2.2.2 (by omega);subst eA eA2;obtain⟨k,s,nn,p,kids,arms,en,hd⟩:=TrAt.nod_at (by intro e;cases e) xf q ub uo hfo (by rw[<- HXL.out];exact hlt);obtain⟨k2,s2,nn2,p2,kids2,arms2,en2,hd2⟩:=TrAt.nod_at (by intro e;cases e) yf q ub2 uo2 hfo2 (by rw[<- HYL.out];exact hlt);obtain⟨A',ca',B',cb',hc,hk',ha',_⟩:=hd.parts;obtain⟨A2',ca2',B2',cb2',hc2,hk2',ha2',_⟩:=hd2.parts;have hdq:=Tr.drp_at xf q en;have hdq2:=Tr.drp_at yf q en2;have hdsz:=Tr.drp_size xf q;have hdsz2:=Tr.drp_size yf q;rw[hdq]at hdsz;rw[hdq2]at hdsz2;simp only[Tr.size]at hdsz hdsz2;have sx1:=HSXY.out.1;have sy1:=HSXY.out.2;obtain⟨F1,hF1⟩:∃ F,F=kids.app arms.exs:=⟨_,rfl⟩
      obtain⟨F2,hF2⟩:∃ F,F=kids2.app arms2.exs:=⟨_,rfl⟩
      have HF:Hid (r=(allP S2&&(F1.same F2&&(xf.drp (q+1)).kidsSame (yf.drp (q+1))))):=hid (by
       rw[HRR.out,hdq,hdq2,hF1,hF2];rfl)
      have hex:=Tr.exs_size arms;have hex2:=Tr.exs_size arms2;have HF1:Hid (F1.size<=kids.size+arms.size/\F2.size<=1000000/\F1.size<=1000000):=hid (by rw[hF1,hF2,Tr.app_size,Tr.app_size];omega);have HMQ:Hid (msP S2+(1+F1.size+(xf.drp (q+1)).size)<=msP S+xf.size):=hid (by
       have h:=HMM2.out;rw[hdq]at h;simp only[Tr.size]at h;have:=HF1.out.1;omega)
      have HC1:Hid (∀ W,Bel wx W->Calls Tryz.prog 32 #[.agg #[.int .u8 k,.string ⟨s.toArray⟩,.int .u8 nn,p.a,p.l,p.c,.slice A' kids.len ca']] W fun e w'=>e=.returned (.slice A' kids.len ca')/\Bel W w'):=hid fun W hW=>js k s nn p A' kids.len ca' W;have HC2:Hid (∀ W,Bel wx W->Calls Tryz.prog 32 #[.agg #[.int .u8 k2,.string ⟨s2.toArray⟩,.int .u8 nn2,p2.a,p2.l,p2.c,.slice A2' kids2.len ca2']] W fun e w'=>e=.returned (.slice A2' kids2.len ca2')/\Bel W w'):=hid fun W hW=>js k2 s2 nn2 p2 A2' kids2.len ca2' W;have HKK:Hid ((KidsTr wx (OkI wx (fun _=>False) A2) .ty A' kids.len ca' F1/\KidsTr wx (OkI wx (fun _=>False) A2) .ty A2' kids2.len ca2' F2)/\(kids.len=F1.len/\kids2.len=F2.len)):=hid (by
       obtain rfl:arms=.nil:=by
        rcases ha' with ⟨e,_⟩ | ⟨_,e⟩
        ·cases e
        ·exact Tr.len_nil _ e
       obtain rfl:arms2=.nil:=by
        rcases ha2' with ⟨e,_⟩ | ⟨_,e⟩
        ·cases e
        ·exact Tr.len_nil _ e
       rw[hF1,hF2];simp only[Tr.exs,Tr.app_nil];exact⟨⟨hk',hk2'⟩,by first | rfl | trivial,by first | rfl | trivial⟩)
      have y0:=hc 0 _ rfl;have y1:=hc 1 _ rfl;have y2:=hc 2 _ rfl;have y3:=hc 3 _ rfl;have y4:=hc 4 _ rfl;have y5:=hc 5 _ rfl;have y6:=hc 6 _ rfl;have z0:=hc2 0 _ rfl;have z1:=hc2 1 _ rfl;have z2:=hc2 2 _ rfl;have z3:=hc2 3 _ rfl;have z4:=hc2 4 _ rfl;have z5:=hc2 5 _ rfl;have z6:=hc2 6 _ rfl;simp only[Nat.add_zero,Sh.kd,Sh.sz]at y0 y1 y2 y3 y4 y5 y6 z0 z1 z2 z3 z4 z5 z6;obtain⟨l1,hl1⟩:∃ l,l=kids.len:=⟨_,rfl⟩
      obtain⟨l2,hl2⟩:∃ l,l=kids2.len:=⟨_,rfl⟩
      obtain⟨l3,hl3⟩:∃ l,l=arms.len:=⟨_,rfl⟩
      obtain⟨l4,hl4⟩:∃ l,l=arms2.len:=⟨_,rfl⟩
      obtain⟨SS,hSS⟩:∃ S:ByteArray,S=⟨s.toArray⟩:=⟨_,rfl⟩
      obtain⟨SS2,hSS2⟩:∃ S:ByteArray,S=⟨s2.toArray⟩:=⟨_,rfl⟩
      rw[<- hSS]at y1;rw[<- hSS2]at z1;rw[<- hl1]at y6;rw[<- hl2]at z6;skip
      rw[<- hSS,<- hl1]at HC1;rw[<- hSS2,<- hl2]at HC2;rw[<- hl1,<- hl2]at HKK;have j1:(0:Int)<=(q:Int):=by omega
      have j2:(q:Int)<(xl:Int):=by omega
      have HLT:=hid hlt;have hob':ub<wx.heap.size:=hob.1;have hob2':ub2<wx.heap.size:=hob2.1;clear hc hc2 hk' hk2' ha' ha2' en en2 hd hd2 hfo hfo2 hl1 hl2 hl3 hl4 hSS hSS2 hdq hdq2 hdsz hdsz2 sx1 sy1 hex hex2 hob hob2 hF1 hF2;have Y0:=qa hob' y0;have Y1:=qa hob' y1;have Y2:=qa hob' y2;have Y3:=qa hob' y3;have Y4:=qa hob' y4;have Y5:=qa hob' y5;have Y6:=qa hob' y6;have Z0:=qa hob2' z0;have Z1:=qa hob2' z1;have Z2:=qa hob2' z2;have Z3:=qa hob2' z3;have Z4:=qa hob2' z4;have Z5:=qa hob2' z5;have Z6:=qa hob2' z6;go_wp2_with fail
      refine zk 12 (by kernel_rfl) (by kernel_rfl) ?_;simp only[List.take_succ_cons,List.take_zero,List.drop_succ_cons,List.drop_zero];repeat (go_big_quiet_step (first | exact (HC1.out _ (Abw.bel _)).mono fun e w h=>⟨h.1,⟨_,(Abw.bel _).on h.2⟩,rfl⟩ | exact (HC2.out _ (Abw.bel _)).mono fun e w h=>⟨h.1,⟨_,(Abw.bel _).on h.2⟩,rfl⟩))
      refine wpQuiet_nil ?_;rintro w7 ⟨⟨w7,hb7⟩,rfl⟩;have HB7:=hid hb7;clear hb7 HC1 HC2 y0 y1 y2 y3 y4 y5 y6 z0 z1 z2 z3 z4 z5 z6 Y0 Z0 Y1 Z1 Y2 Z2 Y3 Z3 Y4 Z4 Y5 Z5 Y6 Z6;have HLL:Hid (l1=F1.len/\l2=F2.len):=hid HKK.out.2;obtain⟨U1,hU1⟩:∃ U,U=A':=⟨_,rfl⟩
      obtain⟨U2,hU2⟩:∃ U,U=A2':=⟨_,rfl⟩
      obtain⟨C1,hC1⟩:∃ U,U=ca':=⟨_,rfl⟩
      obtain⟨C2,hC2⟩:∃ U,U=ca2':=⟨_,rfl⟩
      rw[<- hU1,<- hU2,<- hC1,<- hC2]at HKK;have HKK7:=hid (And.intro (zc HKK.out.1.1 HB7.out) (zc HKK.out.1.2 HB7.out));rw[<- hU1,<- hU2,<- hC1,<- hC2];clear hU1 hU2 hC1 hC2 HKK;have HRW7:=hid (qk HR2.out HB7.out);have HPI7:=hid (qdJ HP2.out HB7.out);have HI7:=hid (And.intro (zc HI2.out.1 HB7.out) (zc HI2.out.2 HB7.out));have hbl7:base<=w7.heap.size:=Nat.le_trans HBLX.out HB7.out.size;have hm2b:m2<=1000001:=by
       rw[HM2.out];have:=Jh S2;have:=HMQ.out;have:=HMB.out;omega
      by_cases h1:l1=0
      ·by_cases h2:l2=0
       ·subst h1 h2
        have HR8:Hid (r=(allP S2&&(xf.drp (q+1)).kidsSame (yf.drp (q+1)))):=hid (by
         rw[HF.out,Tr.len_nil F1 HLL.out.1.symm,Tr.len_nil F2 HLL.out.2.symm];simp[Tr.same])
        have HMS8:Hid (msP S2+(xf.drp (q+1)).size<=msP S+xf.size):=hid (by have:=HMQ.out;omega);have HBW8:=hid (HBW.out.on HB7.out);have HBL8:=hid hbl7;go_wp2_with fail
        go_roundw
        case rel=>exact⟨q+1,S2,A2,c2,m2,HLT.out,by go_num,rfl,HM2,HRW7,HPI7,HI7,HR8,HMS8,HBW8,HBL8⟩
        case measure=>have:=HLT.out;simp[intOf];omega
       ·subst h1
        have d2:decide ((0:Int)<(l2:Int))=true:=by simp;omega
        have d3:decide (0<l2)=true:=by simp;omega
        go_wp2_with (at_builtin;refine jj ?_)
        unfold zY;refine wpList_append_own_at _ rfl _ _ 259 rfl base 258 i0 (.agg #[.slice none 0 0,.slice none 0 0]) 2 48 Tryz.underlying259 hi0 hz0 hz1 hz2 rfl (by decide) (.slice A2 m2 c2) m2 _ rfl (HRW7.out.alloc _) ⟨w7.heap.size,0,none⟩ 1 1 [.slice U1 0 C1,.slice U2 l2 C2] rfl rfl (fun j u hu=>by rw[Addr.add_lit,Nat.zero_add];exact zm _ _ _ j u hu) (by simp[Value.oneCell']) (by unfold maxLen;omega) (by omega) (by simp;omega) ?_;intro v' w8 hown8 hg8 _ hat8;obtain⟨g8,c8,rfl,hrow8,hpi8,hki8,hbw8,hbl8⟩:=zN (w0:=w) (K:=⟨⟨U1,C1,F1⟩,⟨U2,C2,F2⟩⟩) HRW7.out HPI7.out (by rw[<- HLL.out.1];exact HKK7.out.1) (by rw[<- HLL.out.2];exact HKK7.out.2) ⟨HF1.out.2.2,HF1.out.2.1⟩ (by have h:=hown8;simp only[Pr.cells,It.val,<- HLL.out.1,<- HLL.out.2];exact h) hg8 hat8 (HBW.out.on HB7.out) (by rw[HBS.out];exact Nat.le_refl _) hbl7;have HRW8:=hid hrow8;have HPI8:=hid hpi8;have HII8:=hid (And.intro (hki8 _ _ _ _ HI7.out.1) (hki8 _ _ _ _ HI7.out.2));have HBW8:=hid hbw8;have HBL8:=hid hbl8;have HR8:Hid (r=(allP (⟨⟨U1,C1,F1⟩,⟨U2,C2,F2⟩⟩::S2)&&(xf.drp (q+1)).kidsSame (yf.drp (q+1)))):=hid (by
         rw[HF.out];simp only[allP,List.all_cons];cases F1.same F2 <;> cases S2.all (fun x=>x.a.f.same x.b.f) <;> simp)
        have HM8:Hid (m2+1=(⟨⟨U1,C1,F1⟩,⟨U2,C2,F2⟩⟩::S2:List Pr).length):=hid (by rw[HM2.out];rfl);have HMS8:Hid (msP (⟨⟨U1,C1,F1⟩,⟨U2,C2,F2⟩⟩::S2)+(xf.drp (q+1)).size<=msP S+xf.size):=hid (by have:=HMQ.out;simp only[msP];omega);clear hown8 hg8 hat8 hrow8 hpi8 hki8 hbw8 hbl8;go_wp2_with fail
        go_roundw
        case rel=>exact⟨q+1,_,_,c8,m2+1,HLT.out,by go_num,rfl,HM8,HRW8,HPI8,HII8,HR8,HMS8,HBW8,HBL8⟩
        case measure=>have:=HLT.out;simp[intOf];omega
      ·have d2:decide ((0:Int)<(l1:Int))=true:=by simp;omega
       have d3:decide (0<l1)=true:=by simp;omega
       go_wp2_with (at_builtin;refine jj ?_)
       unfold zY;refine wpList_append_own_at _ rfl _ _ 259 rfl base 258 i0 (.agg #[.slice none 0 0,.slice none 0 0]) 2 48 Tryz.underlying259 hi0 hz0 hz1 hz2 rfl (by decide) (.slice A2 m2 c2) m2 _ rfl (HRW7.out.alloc _) ⟨w7.heap.size,0,none⟩ 1 1 [.slice U1 l1 C1,.slice U2 l2 C2] rfl rfl (fun j u hu=>by rw[Addr.add_lit,Nat.zero_add];exact zm _ _ _ j u hu) (by simp[Value.oneCell']) (by unfold maxLen;omega) (by omega) (by simp;omega) ?_;intro v' w8 hown8 hg8 _ hat8;obtain⟨g8,c8,rfl,hrow8,hpi8,hki8,hbw8,hbl8⟩:=zN (w0:=w) (K:=⟨⟨U1,C1,F1⟩,⟨U2,C2,F2⟩⟩) HRW7.out HPI7.out (by rw[<- HLL.out.1];exact HKK7.out.1) (by rw[<- HLL.out.2];exact HKK7.out.2) ⟨HF1.out.2.2,HF1.out.2.1⟩ (by have h:=hown8;simp only[Pr.cells,It.val,<- HLL.out.1,<- HLL.out.2];exact h) hg8 hat8 (HBW.out.on HB7.out) (by rw[HBS.out];exact Nat.le_refl _) hbl7;have HRW8:=hid hrow8;have HPI8:=hid hpi8;have HII8:=hid (And.intro (hki8 _ _ _ _ HI7.out.1) (hki8 _ _ _ _ HI7.out.2));have HBW8:=hid hbw8;have HBL8:=hid hbl8;have HR8:Hid (r=(allP (⟨⟨U1,C1,F1⟩,⟨U2,C2,F2⟩⟩::S2)&&(xf.drp (q+1)).kidsSame (yf.drp (q+1)))):=hid (by
        rw[HF.out];simp only[allP,List.all_cons];cases F1.same F2 <;> cases S2.all (fun x=>x.a.f.same x.b.f) <;> simp)
       have HM8:Hid (m2+1=(⟨⟨U1,C1,F1⟩,⟨U2,C2,F2⟩⟩::S2:List Pr).length):=hid (by rw[HM2.out];rfl);have HMS8:Hid (msP (⟨⟨U1,C1,F1⟩,⟨U2,C2,F2⟩⟩::S2)+(xf.drp (q+1)).size<=msP S+xf.size):=hid (by have:=HMQ.out;simp only[msP];omega);clear hown8 hg8 hat8 hrow8 hpi8 hki8 hbw8 hbl8;go_wp2_with fail
       go_roundw
       case rel=>exact⟨q+1,_,_,c8,m2+1,HLT.out,by go_num,rfl,HM8,HRW8,HPI8,HII8,HR8,HMS8,HBW8,HBL8⟩
       case measure=>have:=HLT.out;simp[intOf];omega
     ·obtain rfl:q=xl:=by omega
      have HRE:Hid (r=allP S2):=hid (by rw[HRR.out,Tr.drp_end xf q (by rw[<- HXL.out];exact Nat.le_refl _),Tr.drp_end yf q (by rw[<- HYL.out];exact Nat.le_refl _)];simp[Tr.kidsSame]);have HMS2:Hid (msP S2<=1000001):=hid (by have:=HMM2.out;have:=HMB.out;omega);go_wp2_with fail
      go_roundg (msP S2)
      case rel=>exact⟨S2,A2,c2,m2,rfl,HM2,hid rfl,HMS2,HR2,HP2,HRE,HBW,HBLX⟩
      case measure=>
       rw[HGK.out];have:=HMM2.out;simp only[msP];omega
end Go.Proofs.YtlmmaoobembadaaGreatDoor.Mu
